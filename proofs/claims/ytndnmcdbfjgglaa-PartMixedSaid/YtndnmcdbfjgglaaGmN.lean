/- Which places may be, how many sectors a record takes: over numbers alone (split off Gm1). -/
import Derived.Test.YtndnmcdbfjgglaaGmM
namespace Go.Proofs.Ytndnmcdbfjgglaa
open Go.RowKit
set_option linter.unusedVariables false

theorem Place_yes (n : Int) (w : World) :
    Calls Try.prog 25 #[.int .i64 n] w fun e w' => e = .returned (.bool (decide (Plc n))) ∧ w = w' := by
  by_cases h1 : 0 ≤ n
  · by_cases h2 : n ≤ 281474976710656
    all_goals
      go_enter Try.func25, Try.ntmps25
      go_wp2
      go_ret
      exact ⟨ret_bool (by rw [Bool.eq_iff_iff, decide_eq_true_iff]; unfold Plc; simp <;> omega), rfl⟩
  · go_enter Try.func25, Try.ntmps25
    go_wp2
    go_ret
    exact ⟨ret_bool (by rw [Bool.eq_iff_iff, decide_eq_true_iff]; unfold Plc; simp <;> omega), rfl⟩

theorem GNeed_any (n : Int) (w : World) (hr : -9223372036854775808 ≤ n ∧ n ≤ 9223372036854775807) :
    Calls Try.prog 15 #[.int .i64 n] w fun e w' => e = .returned (.int .i64 (needZ n)) ∧ w = w' := by
  unfold needZ
  by_cases h1 : n ≤ 460
  · rw [if_pos h1]
    go_enter Try.func15, Try.ntmps15
    go_wp2
    go_ret
    exact ⟨rfl, rfl⟩
  · rw [if_neg h1]
    have e1 : (n - 1).tdiv 460 = (n - 1) / 460 := Int.tdiv_eq_ediv_of_nonneg (by omega)
    go_enter Try.func15, Try.ntmps15
    go_wp2
    go_ret
    exact ⟨by first | rfl | exact ret_int (by rw [e1]; go_num), rfl⟩
theorem RNeed_any (n : Int) (w : World) (hr : -9223372036854775808 ≤ n ∧ n ≤ 9223372036854775807) :
    Calls Try.prog 18 #[.int .i64 n] w fun e w' => e = .returned (.int .i64 (needZ n)) ∧ w = w' := by
  rw [needZ_eq]
  by_cases h1 : n < 1
  · rw [if_pos h1]
    go_enter Try.func18, Try.ntmps18
    go_wp2
    go_ret
    exact ⟨rfl, rfl⟩
  · rw [if_neg h1]
    have e1 : n.tdiv 460 = n / 460 := Int.tdiv_eq_ediv_of_nonneg (by omega)
    have e2 : n.tmod 460 = n % 460 := Int.tmod_eq_emod_of_nonneg (by omega)
    by_cases h2 : 0 < n.tmod 460
    · rw [if_pos h2]
      go_enter Try.func18, Try.ntmps18
      go_wp2
      go_ret
      exact ⟨by first | rfl | exact ret_int (by rw [e1]; go_num), rfl⟩
    · rw [if_neg h2, Int.add_zero]
      go_enter Try.func18, Try.ntmps18
      go_wp2
      go_ret
      exact ⟨by first | rfl | exact ret_int (by rw [e1]; go_num), rfl⟩
end Go.Proofs.Ytndnmcdbfjgglaa
