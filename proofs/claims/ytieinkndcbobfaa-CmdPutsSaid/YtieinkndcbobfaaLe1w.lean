/- The contracts of le's and the reference's small functions on widths. -/
import Derived.Test.YtieinkndcbobfaaLe1
namespace Go.Proofs.Ytieinkndcbobfaa
open Go.RowKit

theorem wide_any (n : Int) (w : World) :
    Calls Try.prog 32 #[.int .i64 n] w fun e w' => e = .returned (.int .i64 (min (max n 1) 8)) ∧ w = w' := by
  go_enter Try.func32, Try.ntmps32
  go_wp2
  all_goals go_ret
  all_goals exact ⟨ret_int (by omega), rfl⟩

theorem nearest_wd (n : Int) (w : World) : Calls Try.prog 37 #[.int .i64 n, .int .i64 1, .int .i64 8] w fun e w' => e = .returned (.int .i64 (wd n : Nat)) ∧ w = w' :=
  (nearest_any n 1 8 w).mono fun _ _ h => by rw [wd_cast]; exact h
theorem wide_wd (n : Int) (w : World) : Calls Try.prog 32 #[.int .i64 n] w fun e w' => e = .returned (.int .i64 (wd n : Nat)) ∧ w = w' :=
  (wide_any n w).mono fun _ _ h => by rw [wd_cast]; exact h
end Go.Proofs.Ytieinkndcbobfaa
