/- What the laws on slices of bytes ask of the program's own types. -/
import Derived.Test.YtlblbhndfclhnaaMem
namespace Go.Proofs.Ytlblbhndfclhnaa
open Go.RowKit
theorem bytesT : El Try.prog 31 5 (.int .u8 0) 1 1 := ⟨Try.underlying31, by kernel_rfl, rfl, by decide⟩
end Go.Proofs.Ytlblbhndfclhnaa
