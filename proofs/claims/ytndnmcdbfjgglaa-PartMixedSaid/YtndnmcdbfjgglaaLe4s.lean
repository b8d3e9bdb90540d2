/- The contracts of the reference's Same. -/
import Derived.Test.YtndnmcdbfjgglaaBase
namespace Go.Proofs.Ytndnmcdbfjgglaa
open Go.RowKit

theorem Same_yes (A A' : Option Addr) (n c n' c' : Nat) (l : List UInt8) (w : World) (h1 : Rd w A n l) (h2 : Rd w A' n' l) :
    Calls Try.prog 11 #[.slice A n c, .slice A' n' c'] w fun e w' => e = .returned (.bool true) ∧ w = w' := by
  have k1 := run_to_string 22 9 5 Try.underlying22 Try.underlying5 Try.underlying9 w A n c l h1
  have k2 := run_to_string 22 9 5 Try.underlying22 Try.underlying5 Try.underlying9 w A' n' c' l h2
  clear h1 h2
  go_enter Try.func11, Try.ntmps11
  go_wp2
  go_ret
  exact ⟨ret_bool (by simp), rfl⟩

theorem str_toList (l : List UInt8) : (str l).toList = l := by rw [ByteArray.toList_eq]; rfl

theorem Same_any (A A' : Option Addr) (n c n' c' : Nat) (l l' : List UInt8) (w : World) (h1 : Rd w A n l) (h2 : Rd w A' n' l') :
    Calls Try.prog 11 #[.slice A n c, .slice A' n' c'] w fun e w' => e = .returned (.bool (decide (l = l'))) ∧ w = w' := by
  have k1 := run_to_string 22 9 5 Try.underlying22 Try.underlying5 Try.underlying9 w A n c l h1
  have k2 := run_to_string 22 9 5 Try.underlying22 Try.underlying5 Try.underlying9 w A' n' c' l' h2
  clear h1 h2
  go_enter Try.func11, Try.ntmps11
  go_wp2
  go_ret
  exact ⟨ret_bool (by rw [str_toList, str_toList]; by_cases h : l = l' <;> simp [h]), rfl⟩

end Go.Proofs.Ytndnmcdbfjgglaa
