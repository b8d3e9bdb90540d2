/- The contract of seal's nearest. -/
import Derived.Test.YtieknelmfjkbhaaMem
namespace Go.Proofs.Ytieknelmfjkbhaa
open Go.RowKit

theorem snearest_any (n lo hi : Int) (w : World) :
    Calls Try.prog 61 #[.int .i64 n, .int .i64 lo, .int .i64 hi] w fun e w' => e = .returned (.int .i64 (min (max n lo) hi)) ∧ w = w' := by
  go_enter Try.func61, Try.ntmps61
  go_wp2
  all_goals go_ret
  all_goals exact ⟨ret_int (by omega), rfl⟩
end Go.Proofs.Ytieknelmfjkbhaa
