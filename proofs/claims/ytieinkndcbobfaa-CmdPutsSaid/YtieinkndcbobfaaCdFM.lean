/- The contract of cmd.Put, with a bound of the room. -/
import Derived.Test.YtieinkndcbobfaaCdF
namespace Go.Proofs.Ytieinkndcbobfaa
open Go.RowKit
set_option linter.unusedVariables false
set_option maxRecDepth 20000

/-- As GotS, and no more room than may be. -/
def GotM (w : World) (l : List UInt8) (e : Ending) (w' : World) : Prop := ∃ A n c, e = .returned (.slice A n c) ∧ Rd w' A n l ∧ (n ≤ c ∧ c ≤ maxLen) ∧ Below w.heap.size w w'
set_option maxHeartbeats 1000000 in
theorem CPutM_any (D : Option Addr) (m e0 : Nat) (l : List UInt8) (x : Cd) (A : Option Addr) (n c : Nat) (w : World) (hD : Rd w D m l) (hm : m ≤ 1000000) (h : Rd w A n x.dt) (hn : n ≤ 1000000) :
    Calls Try.prog 7 #[.slice D m e0, .agg (x.cs A n c)] w (GotM w (l ++ x.bytes)) := by
  obtain ⟨w1, hw1⟩ : ∃ w1, w1 = w.alloc (.cells (x.cs A n c) 26) := ⟨_, rfl⟩
  have K1 : CdAt w w1 w.heap.size x A n c := by rw [hw1]; exact CdAt.new w x A n c h
  have C1 := Lib.hid (put_any x A n c w1 K1.rd hn)
  have HX := Lib.hid (And.intro (hD.below (Nat.le_refl _) K1.bel) (And.intro K1 (And.intro h.1 x.bytes_len)))
  clear h hD K1
  go_enter Try.func7, Try.ntmps7
  go_wp2_with (first
    | (rw [← hw1]; clear hw1)
    | ((with_reducible refine wpList_ldS cdT rfl rfl (.tmp 3) rfl rfl HX.out.2.1.r ?_))
    | (go_at_call 20; refine C1.out.mono ?_; rintro e w2 ⟨A2, n2, c2, rfl, r2, hc2, hb2⟩
       have hD2 := HX.out.1.below (Nat.le_refl _) hb2
       have K2 := HX.out.2.1.next hb2
       obtain ⟨w3, hw3⟩ : ∃ w3, w3 = w2.alloc (.cells #[.slice D m e0, .slice A2 n2 c2] 22) := ⟨_, rfl⟩
       have hb3 : Below w2.heap.size w2 w3 := by rw [hw3]; exact (Below.refl _ _).alloc (Nat.le_refl _) _
       have k30 : w3.cell? ⟨w2.heap.size, 0, none⟩ = some (.slice D m e0) := by rw [hw3]; exact (Rec.new w2 22 #[.slice D m e0, .slice A2 n2 c2]).at_ 0
       have k31 : w3.cell? ⟨w2.heap.size, 1, none⟩ = some (.slice A2 n2 c2) := by rw [hw3]; exact (Rec.new w2 22 #[.slice D m e0, .slice A2 n2 c2]).at_ 1
       have hn2 : n2 ≤ 1073741824 := by have := r2.1; have := HX.out.2.2.1; have := HX.out.2.2.2; omega
       have CC := Lib.hid (concat_two w2.heap.size D A2 m e0 n2 c2 l x.bytes w3 k30 k31 (hD2.below (Nat.le_refl _) hb3) (r2.below (Nat.le_refl _) hb3) (by omega) hn2)
       have HB3 := Lib.hid (K2.bel.trans (hb3.mono K2.bel.size))
       clear hD2 K2 hb2 r2 hc2 hb3 k30 k31 hn2)
    | (rw [← hw3]; clear hw3)
    | (go_at_call 19; refine CC.out.mono ?_; rintro e w4 ⟨v4, rfl, ho4, hb4⟩))
  obtain ⟨A4, c4, rfl, hn4, hm4, hr4⟩ := Rd.of_own ho4 rfl
  go_ret
  exact ⟨_, _, _, rfl, hr4, ⟨hn4, hm4⟩, HB3.out.trans (hb4.mono HB3.out.size)⟩
end Go.Proofs.Ytieinkndcbobfaa
