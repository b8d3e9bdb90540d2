/- The contracts of le's and the reference's small functions on widths. -/
import Derived.Test.YtndnmcdbfjgglaaNum
namespace Go.Proofs.Ytndnmcdbfjgglaa
open Go.RowKit

theorem nearest_any (n lo hi : Int) (w : World) :
    Calls Try.prog 29 #[.int .i64 n, .int .i64 lo, .int .i64 hi] w fun e w' => e = .returned (.int .i64 (min (max n lo) hi)) ∧ w = w' := by
  go_enter Try.func29, Try.ntmps29
  go_wp2
  all_goals go_ret
  all_goals exact ⟨ret_int (by omega), rfl⟩
end Go.Proofs.Ytndnmcdbfjgglaa
