/- The contracts of le's and the reference's small functions on widths. -/
import Derived.Test.YtndnmcdbfjgglaaLe1
namespace Go.Proofs.Ytndnmcdbfjgglaa
open Go.RowKit

theorem wide_any (n : Int) (w : World) :
    Calls Try.prog 27 #[.int .i64 n] w fun e w' => e = .returned (.int .i64 (min (max n 1) 8)) ∧ w = w' := by
  go_enter Try.func27, Try.ntmps27
  go_wp2
  all_goals go_ret
  all_goals exact ⟨ret_int (by omega), rfl⟩

theorem nearest_wd (n : Int) (w : World) : Calls Try.prog 29 #[.int .i64 n, .int .i64 1, .int .i64 8] w fun e w' => e = .returned (.int .i64 (wd n : Nat)) ∧ w = w' :=
  (nearest_any n 1 8 w).mono fun _ _ h => by rw [wd_cast]; exact h
theorem wide_wd (n : Int) (w : World) : Calls Try.prog 27 #[.int .i64 n] w fun e w' => e = .returned (.int .i64 (wd n : Nat)) ∧ w = w' :=
  (wide_any n w).mono fun _ _ h => by rw [wd_cast]; exact h
end Go.Proofs.Ytndnmcdbfjgglaa
