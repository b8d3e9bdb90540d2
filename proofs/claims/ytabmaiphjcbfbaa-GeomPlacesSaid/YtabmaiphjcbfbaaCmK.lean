/- Components as they lie in memory. -/
import Derived.Test.YtabmaiphjcbfbaaRec
import Derived.Test.YtabmaiphjcbfbaaCmM
import Derived.BigQuiet
import Derived.Deep.QuietTactic
namespace Go.Proofs.Ytabmaiphjcbfbaa
open Go.RowKit

/-- A slice of components. -/
def KRd (w : World) (A : Option Addr) (n : Nat) (ks : List Kd) : Prop :=
  ks.length = n ∧ (0 < n → ∃ b o, A = some ⟨b, o, none⟩ ∧ b < w.heap.size ∧ ∀ j (h : j < ks.length), w.cell? ⟨b, o + j * 2, none⟩ = some (.string ks[j].1) ∧ w.cell? ⟨b, o + j * 2 + 1, none⟩ = some (.int .i64 ks[j].2))
theorem KRd.own_below {w w' : World} {A : Option Addr} {n : Nat} {ks : List Kd} (h : KRd w A n ks) {B : Nat} (hB : w.heap.size ≤ B) (hb : Below B w w') : KRd w' A n ks :=
  ⟨h.1, fun hp => by
    obtain ⟨b, o, e, hlt, hc⟩ := h.2 hp
    refine ⟨b, o, e, by have := hb.size; omega, fun j hj => ?_⟩
    obtain ⟨h0, h1⟩ := hc j hj
    exact ⟨(hb.cell (p := ⟨b, o + j * 2, none⟩) (by simp; omega)).trans h0, (hb.cell (p := ⟨b, o + j * 2 + 1, none⟩) (by simp; omega)).trans h1⟩⟩
theorem KRd.below {w w' : World} {A : Option Addr} {n : Nat} {ks : List Kd} (h : KRd w A n ks) (hb : Below w.heap.size w w') : KRd w' A n ks := h.own_below (Nat.le_refl _) hb
theorem KRd.alloc {w : World} {A : Option Addr} {n : Nat} {ks : List Kd} (h : KRd w A n ks) (o : Obj) : KRd (w.alloc o) A n ks := h.below ((Below.refl _ _).alloc (Nat.le_refl _) o)
theorem KRd.nil (w : World) (A : Option Addr) : KRd w A 0 [] := ⟨rfl, fun h => absurd h (Nat.lt_irrefl 0)⟩
theorem KRd.at_ {w : World} {A : Option Addr} {n : Nat} {ks : List Kd} (h : KRd w A n ks) {j : Nat} (hj : j < n) :
    ∃ b o s z, A = some ⟨b, o, none⟩ ∧ b < w.heap.size ∧ w.cell? ⟨b, o + j * 2, none⟩ = some (.string s) ∧ w.cell? ⟨b, o + j * 2 + 1, none⟩ = some (.int .i64 z) ∧ ∃ hl : j < ks.length, ks[j] = (s, z) := by
  obtain ⟨b, o, e, hlt, hc⟩ := h.2 (by omega)
  have hl : j < ks.length := by rw [h.1]; exact hj
  exact ⟨b, o, ks[j].1, ks[j].2, e, hlt, (hc j hl).1, (hc j hl).2, hl, rfl⟩

theorem compT : RT Try.prog 36 2 := ⟨⟨_, Try.underlying36, rfl⟩, by kernel_rfl⟩
theorem confT : RT Try.prog 24 5 := ⟨⟨_, Try.underlying24, rfl⟩, by kernel_rfl⟩
theorem compsT : El Try.prog 22 36 (.agg #[.string .empty, .int .i64 0]) 2 24 := ⟨Try.underlying22, by kernel_rfl, rfl, by decide⟩
end Go.Proofs.Ytabmaiphjcbfbaa
