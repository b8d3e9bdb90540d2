/- The contract of Without. -/
import Derived.Test.YtigiepmmgghjlaaInts
import Derived.Test.YtigiepmmgghjlaaBitsM
import Derived.Laws.BitsAllLaws
import Derived.Laws.Bits128
import Derived.Deep.WholeRow
import Derived.Test.YtigiepmmgghjlaaBitsO
namespace Go.Proofs.Ytigiepmmgghjlaa
open Go.RowKit

theorem Without_any (s : Nat) (c : Int) (w : World) (hs : s < 18446744073709551616) :
    Calls Try.prog 25 #[.int .u64 s, .int .i64 c] w fun e w' => e = .returned (.int .u64 (butN s (orL [c]) : Nat)) ∧ Below w.heap.size w w' := by
  obtain ⟨w1, hw1⟩ : ∃ w1, w1 = w.alloc (.cells #[.int .i64 c] 3) := ⟨_, rfl⟩
  have hB : Below w.heap.size w w1 := by rw [hw1]; exact (Below.refl _ _).alloc (Nat.le_refl _) _
  have C := Lib.hid (Of_any (some ⟨w.heap.size, 0, none⟩) 1 1 [c] w1 (by rw [hw1]; exact one_ird w c) (by decide))
  have e2 := u64_andNot_nat s (orL [c]) hs (orL_lt _)
  have HB := Lib.hid hB
  unfold butN
  obtain ⟨o, ho⟩ : ∃ o, o = orL [c] := ⟨_, rfl⟩
  rw [← ho] at C e2 ⊢
  clear hB ho
  go_enter Try.func25, Try.ntmps25
  go_wp2_with (rw [← hw1]; clear hw1)
  refine C.out.mono ?_
  rintro e w' ⟨rfl, rfl⟩
  go_wp2
  go_ret
  exact ⟨rfl, HB.out⟩
end Go.Proofs.Ytigiepmmgghjlaa
