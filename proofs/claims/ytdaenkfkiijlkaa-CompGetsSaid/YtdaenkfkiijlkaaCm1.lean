/- Components as they lie in memory; the contracts of the small functions on numbers and names. -/
import Derived.Test.YtdaenkfkiijlkaaRec
import Derived.Test.YtdaenkfkiijlkaaCmM
import Derived.BigQuiet
import Derived.Deep.QuietTactic
namespace Go.Proofs.Ytdaenkfkiijlkaa
open Go.RowKit

/-- A slice of components. -/
def KRd (w : World) (A : Option Addr) (n : Nat) (ks : List Kd) : Prop :=
  ks.length = n ∧ (0 < n → ∃ b o, A = some ⟨b, o, none⟩ ∧ b < w.heap.size ∧ ∀ j (h : j < ks.length), w.cell? ⟨b, o + j * 2, none⟩ = some (.string ks[j].1) ∧ w.cell? ⟨b, o + j * 2 + 1, none⟩ = some (.int .i64 ks[j].2))
theorem KRd.own_below {w w' : World} {A : Option Addr} {n : Nat} {ks : List Kd} (h : KRd w A n ks) {B : Nat} (hB : w.heap.size ≤ B) (hb : Below B w w') : KRd w' A n ks :=
  ⟨h.1, fun hp => by
    obtain ⟨b, o, e, hlt, hc⟩ := h.2 hp
    refine ⟨b, o, e, by have := hb.size; omega, fun j hj => ?_⟩
    obtain ⟨h0, h1⟩ := hc j hj
    exact ⟨(hb.cell (p := ⟨b, o + j * 2, none⟩) (by simp; omega)).trans h0, (hb.cell (p := ⟨b, o + j * 2 + 1, none⟩) (by simp; omega)).trans h1⟩⟩
theorem KRd.below {w w' : World} {A : Option Addr} {n : Nat} {ks : List Kd} (h : KRd w A n ks) (hb : Below w.heap.size w w') : KRd w' A n ks := h.own_below (Nat.le_refl _) hb
theorem KRd.alloc {w : World} {A : Option Addr} {n : Nat} {ks : List Kd} (h : KRd w A n ks) (o : Obj) : KRd (w.alloc o) A n ks := h.below ((Below.refl _ _).alloc (Nat.le_refl _) o)
theorem KRd.nil (w : World) (A : Option Addr) : KRd w A 0 [] := ⟨rfl, fun h => absurd h (Nat.lt_irrefl 0)⟩
theorem KRd.at_ {w : World} {A : Option Addr} {n : Nat} {ks : List Kd} (h : KRd w A n ks) {j : Nat} (hj : j < n) :
    ∃ b o s z, A = some ⟨b, o, none⟩ ∧ b < w.heap.size ∧ w.cell? ⟨b, o + j * 2, none⟩ = some (.string s) ∧ w.cell? ⟨b, o + j * 2 + 1, none⟩ = some (.int .i64 z) ∧ ∃ hl : j < ks.length, ks[j] = (s, z) := by
  obtain ⟨b, o, e, hlt, hc⟩ := h.2 (by omega)
  have hl : j < ks.length := by rw [h.1]; exact hj
  exact ⟨b, o, ks[j].1, ks[j].2, e, hlt, (hc j hl).1, (hc j hl).2, hl, rfl⟩

theorem compT : RT Try.prog 50 2 := ⟨⟨_, Try.underlying50, rfl⟩, by kernel_rfl⟩
theorem confT : RT Try.prog 24 5 := ⟨⟨_, Try.underlying24, rfl⟩, by kernel_rfl⟩
theorem compsT : El Try.prog 22 50 (.agg #[.string .empty, .int .i64 0]) 2 24 := ⟨Try.underlying22, by kernel_rfl, rfl, by decide⟩

theorem within_any (n lo hi : Int) (w : World) :
    Calls Try.prog 26 #[.int .i64 n, .int .i64 lo, .int .i64 hi] w fun e w' => e = .returned (.bool (decide (lo ≤ n ∧ n ≤ hi))) ∧ w = w' := by
  by_cases h1 : lo ≤ n
  · by_cases h2 : n ≤ hi
    all_goals
      go_enter Try.func26, Try.ntmps26
      go_wp2
      go_ret
      exact ⟨ret_bool (by simp <;> omega), rfl⟩
  · go_enter Try.func26, Try.ntmps26
    go_wp2
    go_ret
    exact ⟨ret_bool (by simp <;> omega), rfl⟩

theorem plain_any (b : UInt8) (w : World) :
    Calls Try.prog 30 #[.int .u8 (b.toNat : Int)] w fun e w' => e = .returned (.bool (plainN b)) ∧ w = w' := by
  unfold plainN
  obtain ⟨x, hx⟩ : ∃ x, x = b.toNat := ⟨_, rfl⟩
  rw [← hx]
  clear hx
  by_cases h1 : 97 ≤ x <;> by_cases h2 : x ≤ 122 <;> by_cases h3 : 48 ≤ x <;> by_cases h4 : x ≤ 57 <;> by_cases h5 : x = 95 <;> first
  | omega
  | (go_enter Try.func30, Try.ntmps30
     go_wp2
     go_ret
     exact ⟨ret_bool (by first | rfl | (rw [Bool.eq_iff_iff]; simp <;> omega)), rfl⟩)

theorem code_any (n : Int) (w : World) : Calls Try.prog 13 #[.int .i64 n] w fun e w' => e = .returned (.int .i64 n) ∧ w = w' := by
  go_enter Try.func13, Try.ntmps13
  go_wp2
  go_ret
  exact ⟨rfl, rfl⟩
end Go.Proofs.Ytdaenkfkiijlkaa
