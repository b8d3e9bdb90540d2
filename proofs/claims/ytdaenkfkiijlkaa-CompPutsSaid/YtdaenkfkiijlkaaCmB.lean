/- Layouts as bytes: plain mathematics. -/
import Derived.Test.YtdaenkfkiijlkaaCmM
namespace Go.Proofs.Ytdaenkfkiijlkaa

/-- The bytes of one component; of several; of a layout's numbers; of a layout. -/
def kdB (k : Kd) : List UInt8 := numB 2 k.1.size ++ k.1.data.toList ++ numB 1 k.2
def rowsB (ks : List Kd) : List UInt8 := ks.flatMap kdB
def numsB (zs : List Int) : List UInt8 := zs.flatMap (numB 4)
def confB (lg pg en gn : Int) (ks : List Kd) : List UInt8 := numsB [lg, pg, en, gn] ++ numB 1 ks.length ++ rowsB ks
theorem rowsB_snoc {ks : List Kd} {j : Nat} (h : j < ks.length) : rowsB (ks.take (j + 1)) = rowsB (ks.take j) ++ kdB ks[j] := by
  unfold rowsB
  rw [take_snoc h, List.flatMap_append, List.flatMap_cons, List.flatMap_nil, List.append_nil]
theorem numsB_snoc {zs : List Int} {j : Nat} (h : j < zs.length) : numsB (zs.take (j + 1)) = numsB (zs.take j) ++ numB 4 zs[j] := by
  unfold numsB
  rw [take_snoc h, List.flatMap_append, List.flatMap_cons, List.flatMap_nil, List.append_nil]
theorem numsB_len (zs : List Int) : (numsB zs).length = 4 * zs.length := by
  induction zs with
  | nil => rfl
  | cons z zs ih => simp only [numsB, List.flatMap_cons, List.length_append, numB_length, List.length_cons] at ih ⊢; omega
theorem kdB_len (k : Kd) : (kdB k).length = k.1.size + 3 := by simp [kdB]; omega
theorem rowsB_len (ks : List Kd) (h : ∀ k ∈ ks, k.1.size ≤ 100) : (rowsB ks).length ≤ 103 * ks.length := by
  induction ks with
  | nil => exact Nat.le_refl _
  | cons k ks ih =>
    have h1 := h k List.mem_cons_self
    have h2 := ih (fun x hx => h x (List.mem_cons_of_mem _ hx))
    have h3 := kdB_len k
    simp only [rowsB, List.flatMap_cons, List.length_append, List.length_cons] at h2 ⊢
    omega
end Go.Proofs.Ytdaenkfkiijlkaa
