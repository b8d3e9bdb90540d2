/- Names that are no longer than texts may be. -/
import Derived.Test.YtabmaiphjcbfbaaCmK
namespace Go.Proofs.Ytabmaiphjcbfbaa
open Go.RowKit

/-- The names of all are no longer than a text may be. -/
def Lens (ks : List Kd) : Prop := ∀ k ∈ ks, k.1.size ≤ 9223372036854775807
theorem Lens.at_ {ks : List Kd} (h : Lens ks) {j : Nat} {s : ByteArray} {z : Int} (hl : j < ks.length) (hk : ks[j] = (s, z)) : s.size ≤ 9223372036854775807 := by
  have := h _ (List.getElem_mem hl)
  rw [hk] at this
  exact this
end Go.Proofs.Ytabmaiphjcbfbaa
