/- The contracts of the reference's Same and Get. -/
import Derived.Test.YtlafeobiodolbaaSeal5
import Derived.Test.YtlafeobiodolbaaSeal6
namespace Go.Proofs.Ytlafeobiodolbaa
open Go.RowKit

/-- Two Seals, the same in all that counts. -/
theorem RSame_any (e n k e' n' k' : Int) (A A' : Option Addr) (m c m' c' : Nat) (l l' : List UInt8) (w : World) (h1 : Rd w A m l) (h2 : Rd w A' m' l') :
    Calls Try.prog 14 #[.agg #[.int .i64 e, .int .i64 n, .int .i64 k, .slice A m c], .agg #[.int .i64 e', .int .i64 n', .int .i64 k', .slice A' m' c']] w fun ed w' => ed = .returned (.bool (decide (e = e' ∧ n = n' ∧ k = k' ∧ l = l'))) ∧ Below w.heap.size w w' := by
  obtain ⟨w1, hw1⟩ : ∃ w1, w1 = (w.alloc (.cells #[.int .i64 e, .int .i64 n, .int .i64 k, .slice A m c] 24)).alloc (.cells #[.int .i64 e', .int .i64 n', .int .i64 k', .slice A' m' c'] 24) := ⟨_, rfl⟩
  have hB1 : Below w.heap.size w w1 := by rw [hw1]; exact ((Below.refl _ _).alloc (Nat.le_refl _) _).alloc (by simp) _
  have hr1 := h1.below (Nat.le_refl _) hB1
  have hr2 := h2.below (Nat.le_refl _) hB1
  have cS := Same_any A A' m c m' c' l l' w1 hr1 hr2
  rw [hw1] at cS
  have CS := Lib.hid cS
  clear cS hr1 hr2 h1 h2
  rw [hw1] at hB1
  clear hw1
  by_cases q1 : e = e'
  · by_cases q2 : n = n'
    · by_cases q3 : k = k'
      · subst q1; subst q2; subst q3
        go_enter Try.func14, Try.ntmps14
        go_wp2_with (go_at_call 10; refine CS.out.mono ?_; rintro ed w' ⟨rfl, rfl⟩)
        go_ret
        exact ⟨ret_bool (by simp), hB1⟩
      · clear CS
        subst q1; subst q2
        go_enter Try.func14, Try.ntmps14
        go_wp2
        go_ret
        exact ⟨ret_bool (by simp [q3]), hB1⟩
    · clear CS
      subst q1
      go_enter Try.func14, Try.ntmps14
      go_wp2
      go_ret
      exact ⟨ret_bool (by simp [q2]), hB1⟩
  · clear CS
    go_enter Try.func14, Try.ntmps14
    go_wp2
    go_ret
    exact ⟨ret_bool (by simp [q1]), hB1⟩
end Go.Proofs.Ytlafeobiodolbaa
