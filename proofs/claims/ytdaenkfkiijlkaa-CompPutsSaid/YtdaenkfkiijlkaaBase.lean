/- What the laws on slices of bytes ask of the program's own types. -/
import Derived.Test.YtdaenkfkiijlkaaMem
namespace Go.Proofs.Ytdaenkfkiijlkaa
open Go.RowKit
theorem bytesT : El Try.prog 35 5 (.int .u8 0) 1 1 := ⟨Try.underlying35, by kernel_rfl, rfl, by decide⟩
end Go.Proofs.Ytdaenkfkiijlkaa
