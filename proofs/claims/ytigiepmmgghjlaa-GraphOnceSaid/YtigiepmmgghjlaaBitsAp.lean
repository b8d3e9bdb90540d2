/- The contract of Apart. -/
import Derived.Test.YtigiepmmgghjlaaInts
import Derived.Test.YtigiepmmgghjlaaBitsM
import Derived.Laws.BitsAllLaws
import Derived.Laws.Bits128
import Derived.Deep.WholeRow
namespace Go.Proofs.Ytigiepmmgghjlaa
open Go.RowKit

theorem Apart_any (a b : Nat) (w : World) (ha : a < 18446744073709551616) (hb : b < 18446744073709551616) :
    Calls Try.prog 27 #[.int .u64 a, .int .u64 b] w fun e w' => e = .returned (.bool (a &&& b == 0)) ∧ w = w' := by
  have e2 := u64_and_nat a b ha hb
  go_enter Try.func27, Try.ntmps27
  go_wp2
  go_ret
  exact ⟨ret_bool (by rw [← Int.natCast_zero, Bool.eq_iff_iff]; simp), rfl⟩
end Go.Proofs.Ytigiepmmgghjlaa
