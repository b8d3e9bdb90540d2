/- The contract of Sectors. -/
import Derived.Test.YtabmaiphjcbfbaaCmL
import Derived.Test.YtabmaiphjcbfbaaCmA
namespace Go.Proofs.Ytabmaiphjcbfbaa
open Go.RowKit
set_option linter.unusedVariables false

section
variable (lg pg en gn : Int) (A : Option Addr) (n cap : Nat) (ks : List Kd) (w : World)

theorem Sectors_any (h : KRd w A n ks) (hlg : 0 ≤ lg ∧ lg ≤ 1024) (hpg : 0 ≤ pg ∧ pg ≤ 1024) :
    Calls Try.prog 23 #[cv lg pg en gn A n cap] w fun e w' => e = .returned (.int .i64 (lg + pg + 2)) ∧ Below w.heap.size w w' := by
  obtain ⟨w1, hw1⟩ : ∃ w1, w1 = w.alloc (.cells (cc lg pg en gn A n cap) 24) := ⟨_, rfl⟩
  have C1 := CAt.new h lg pg en gn cap
  rw [← hw1] at C1
  obtain ⟨g, hg⟩ : ∃ g, g = w.heap.size := ⟨_, rfl⟩
  rw [← hg] at C1
  have c0 := C1.c0
  have c1 := C1.c1
  have K1 := Lib.hid C1
  have HG := Lib.hid hg
  clear h hg C1
  go_enter Try.func23, Try.ntmps23
  go_wp2_with (rw [← hw1, ← HG.out]; clear hw1)
  go_ret
  exact ⟨ret_int (by omega), K1.out.bel⟩

end
end Go.Proofs.Ytabmaiphjcbfbaa
