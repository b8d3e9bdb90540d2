/- The contract of the reference's Same of layouts. -/
import Derived.Test.YtabmaiphjcbfbaaCmA
import Derived.BigQuiet
import Derived.Deep.QuietTactic
namespace Go.Proofs.Ytabmaiphjcbfbaa
open Go.RowKit
set_option linter.unusedVariables false
set_option maxRecDepth 20000

theorem below_drewNc (w : World) (n : Nat) : Below w.heap.size w (w.drewN n) := by
  induction n with
  | zero => exact Below.refl _ _
  | succ n ih => exact ih.drew

section
variable (lg pg en gn : Int) (A : Option Addr) (n cap : Nat) (ks : List Kd) (w : World)
end
end Go.Proofs.Ytabmaiphjcbfbaa
