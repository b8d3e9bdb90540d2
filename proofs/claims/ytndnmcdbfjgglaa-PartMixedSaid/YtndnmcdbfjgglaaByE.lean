/- The contract of bytes.Equal. -/
import Derived.Test.YtndnmcdbfjgglaaLe4s
namespace Go.Proofs.Ytndnmcdbfjgglaa
open Go.RowKit

theorem Equal_any (A A' : Option Addr) (n c n' c' : Nat) (l l' : List UInt8) (w : World) (h1 : Rd w A n l) (h2 : Rd w A' n' l') :
    Calls Try.prog 21 #[.slice A n c, .slice A' n' c'] w fun e w' => e = .returned (.bool (decide (l = l'))) ∧ w = w' := by
  have k1 := run_to_string 22 9 5 Try.underlying22 Try.underlying5 Try.underlying9 w A n c l h1
  have k2 := run_to_string 22 9 5 Try.underlying22 Try.underlying5 Try.underlying9 w A' n' c' l' h2
  clear h1 h2
  go_enter Try.func21, Try.ntmps21
  go_wp2
  go_ret
  exact ⟨ret_bool (by rw [str_toList, str_toList]; by_cases h : l = l' <;> simp [h]), rfl⟩
end Go.Proofs.Ytndnmcdbfjgglaa
