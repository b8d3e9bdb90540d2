/- The contract of the reference's Size. -/
import Derived.Test.YtabmaiphjcbfbaaCmA
namespace Go.Proofs.Ytabmaiphjcbfbaa
open Go.RowKit
set_option linter.unusedVariables false

section
variable (lg pg en gn : Int) (A : Option Addr) (n cap : Nat) (ks : List Kd) (w : World)

end
end Go.Proofs.Ytabmaiphjcbfbaa
