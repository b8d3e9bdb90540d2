/- geom's contracts over numbers alone: within, Super, Need; the reference's Place, Super, Need; first, lies, right. -/
import Derived.Test.YtabmaiphjcbfbaaGmM
import Derived.Test.YtabmaiphjcbfbaaCm4
import Derived.Test.YtabmaiphjcbfbaaCmSe
namespace Go.Proofs.Ytabmaiphjcbfbaa
open Go.RowKit
set_option linter.unusedVariables false

theorem gwithin_any (n lo hi : Int) (w : World) :
    Calls Try.prog 22 #[.int .i64 n, .int .i64 lo, .int .i64 hi] w fun e w' => e = .returned (.bool (decide (lo ≤ n ∧ n ≤ hi))) ∧ w = w' := by
  by_cases h1 : lo ≤ n
  · by_cases h2 : n ≤ hi
    all_goals
      go_enter Try.func22, Try.ntmps22
      go_wp2
      go_ret
      exact ⟨ret_bool (by simp <;> omega), rfl⟩
  · go_enter Try.func22, Try.ntmps22
    go_wp2
    go_ret
    exact ⟨ret_bool (by simp <;> omega), rfl⟩

theorem Place_yes (n : Int) (w : World) :
    Calls Try.prog 26 #[.int .i64 n] w fun e w' => e = .returned (.bool (decide (Plc n))) ∧ w = w' := by
  by_cases h1 : 0 ≤ n
  · by_cases h2 : n ≤ 281474976710656
    all_goals
      go_enter Try.func26, Try.ntmps26
      go_wp2
      go_ret
      exact ⟨ret_bool (by rw [Bool.eq_iff_iff, decide_eq_true_iff]; unfold Plc; simp <;> omega), rfl⟩
  · go_enter Try.func26, Try.ntmps26
    go_wp2
    go_ret
    exact ⟨ret_bool (by rw [Bool.eq_iff_iff, decide_eq_true_iff]; unfold Plc; simp <;> omega), rfl⟩

theorem GSuper_any (n : Int) (w : World) :
    Calls Try.prog 10 #[.int .i64 n] w fun e w' => e = .returned (.int .i64 (superZ n)) ∧ w = w' := by
  unfold superZ
  by_cases h1 : 0 ≤ n ∧ n ≤ 1
  · rw [if_pos h1]
    have d := decide_eq_true h1
    go_enter Try.func10, Try.ntmps10
    go_wp2_with (go_at_call 22; refine (gwithin_any _ _ _ _).mono ?_; rintro e w' ⟨rfl, rfl⟩; rw [d])
    go_ret
    exact ⟨rfl, rfl⟩
  · rw [if_neg h1]
    have d := decide_eq_false h1
    go_enter Try.func10, Try.ntmps10
    go_wp2_with (go_at_call 22; refine (gwithin_any _ _ _ _).mono ?_; rintro e w' ⟨rfl, rfl⟩; rw [d])
    go_ret
    exact ⟨rfl, rfl⟩
theorem RSuper_any (n : Int) (w : World) :
    Calls Try.prog 11 #[.int .i64 n] w fun e w' => e = .returned (.int .i64 (superZ n)) ∧ w = w' := by
  unfold superZ
  by_cases h1 : n = 0
  · rw [if_pos (by omega)]
    go_enter Try.func11, Try.ntmps11
    go_wp2
    go_ret
    exact ⟨rfl, rfl⟩
  · by_cases h2 : n = 1
    · rw [if_pos (by omega)]
      go_enter Try.func11, Try.ntmps11
      go_wp2
      go_ret
      exact ⟨rfl, rfl⟩
    · rw [if_neg (by omega)]
      have d : (n == 0 || n == 1) = false := by simp [h1, h2]
      go_enter Try.func11, Try.ntmps11
      go_wp2
      go_ret
      exact ⟨rfl, rfl⟩

theorem GNeed_any (n : Int) (w : World) (hr : -9223372036854775808 ≤ n ∧ n ≤ 9223372036854775807) :
    Calls Try.prog 16 #[.int .i64 n] w fun e w' => e = .returned (.int .i64 (needZ n)) ∧ w = w' := by
  unfold needZ
  by_cases h1 : n ≤ 460
  · rw [if_pos h1]
    go_enter Try.func16, Try.ntmps16
    go_wp2
    go_ret
    exact ⟨rfl, rfl⟩
  · rw [if_neg h1]
    have e1 : (n - 1).tdiv 460 = (n - 1) / 460 := Int.tdiv_eq_ediv_of_nonneg (by omega)
    go_enter Try.func16, Try.ntmps16
    go_wp2
    go_ret
    exact ⟨by first | rfl | exact ret_int (by rw [e1]; go_num), rfl⟩
theorem RNeed_any (n : Int) (w : World) (hr : -9223372036854775808 ≤ n ∧ n ≤ 9223372036854775807) :
    Calls Try.prog 17 #[.int .i64 n] w fun e w' => e = .returned (.int .i64 (needZ n)) ∧ w = w' := by
  rw [needZ_eq]
  by_cases h1 : n < 1
  · rw [if_pos h1]
    go_enter Try.func17, Try.ntmps17
    go_wp2
    go_ret
    exact ⟨rfl, rfl⟩
  · rw [if_neg h1]
    have e1 : n.tdiv 460 = n / 460 := Int.tdiv_eq_ediv_of_nonneg (by omega)
    have e2 : n.tmod 460 = n % 460 := Int.tmod_eq_emod_of_nonneg (by omega)
    by_cases h2 : 0 < n.tmod 460
    · rw [if_pos h2]
      go_enter Try.func17, Try.ntmps17
      go_wp2
      go_ret
      exact ⟨by first | rfl | exact ret_int (by rw [e1]; go_num), rfl⟩
    · rw [if_neg h2, Int.add_zero]
      go_enter Try.func17, Try.ntmps17
      go_wp2
      go_ret
      exact ⟨by first | rfl | exact ret_int (by rw [e1]; go_num), rfl⟩
end Go.Proofs.Ytabmaiphjcbfbaa
