/- What the laws on slices of bytes ask of the program's own types. -/
import Derived.Test.YtndnmcdbfjgglaaMem
namespace Go.Proofs.Ytndnmcdbfjgglaa
open Go.RowKit
theorem bytesT : El Try.prog 22 5 (.int .u8 0) 1 1 := ⟨Try.underlying22, by kernel_rfl, rfl, by decide⟩
end Go.Proofs.Ytndnmcdbfjgglaa
