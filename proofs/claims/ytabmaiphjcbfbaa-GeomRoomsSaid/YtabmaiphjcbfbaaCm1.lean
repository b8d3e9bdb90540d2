/- The contracts of comp's small functions on numbers and names. -/
import Derived.Test.YtabmaiphjcbfbaaCmK
namespace Go.Proofs.Ytabmaiphjcbfbaa
open Go.RowKit

theorem within_any (n lo hi : Int) (w : World) :
    Calls Try.prog 30 #[.int .i64 n, .int .i64 lo, .int .i64 hi] w fun e w' => e = .returned (.bool (decide (lo ≤ n ∧ n ≤ hi))) ∧ w = w' := by
  by_cases h1 : lo ≤ n
  · by_cases h2 : n ≤ hi
    all_goals
      go_enter Try.func30, Try.ntmps30
      go_wp2
      go_ret
      exact ⟨ret_bool (by simp <;> omega), rfl⟩
  · go_enter Try.func30, Try.ntmps30
    go_wp2
    go_ret
    exact ⟨ret_bool (by simp <;> omega), rfl⟩

theorem plain_any (b : UInt8) (w : World) :
    Calls Try.prog 35 #[.int .u8 (b.toNat : Int)] w fun e w' => e = .returned (.bool (plainN b)) ∧ w = w' := by
  unfold plainN
  obtain ⟨x, hx⟩ : ∃ x, x = b.toNat := ⟨_, rfl⟩
  rw [← hx]
  clear hx
  by_cases h1 : 97 ≤ x <;> by_cases h2 : x ≤ 122 <;> by_cases h3 : 48 ≤ x <;> by_cases h4 : x ≤ 57 <;> by_cases h5 : x = 95 <;> first
  | omega
  | (go_enter Try.func35, Try.ntmps35
     go_wp2
     go_ret
     exact ⟨ret_bool (by first | rfl | (rw [Bool.eq_iff_iff]; simp <;> omega)), rfl⟩)

end Go.Proofs.Ytabmaiphjcbfbaa
