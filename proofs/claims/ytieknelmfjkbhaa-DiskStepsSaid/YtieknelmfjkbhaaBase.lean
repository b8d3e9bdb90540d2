/- What the laws on slices of bytes ask of the program's own types. -/
import Derived.Test.YtieknelmfjkbhaaMem
namespace Go.Proofs.Ytieknelmfjkbhaa
open Go.RowKit
theorem bytesT : El Try.prog 32 5 (.int .u8 0) 1 1 := ⟨Try.underlying32, by kernel_rfl, rfl, by decide⟩
end Go.Proofs.Ytieknelmfjkbhaa
