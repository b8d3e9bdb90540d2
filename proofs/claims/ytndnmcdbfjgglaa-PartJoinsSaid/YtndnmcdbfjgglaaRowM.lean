/- Rows made of their elements' cells. -/
import Derived.Test.YtndnmcdbfjgglaaRowL
namespace Go.Proofs.Ytndnmcdbfjgglaa
set_option maxRecDepth 20000

/-- Rows made of their elements' cells. -/
theorem RowsL.mk {α : Type} {sz : Nat} {E : α → List Value → Prop} {K : Nat → Prop} {w : World} {b o n : Nat} (hsz : 0 < sz) (F : Nat → α) (R : Nat → List Value) (hK : 0 < n → K b ∧ b < w.heap.size)
    (h : ∀ i, i < n → (R i).length = sz ∧ E (F i) (R i) ∧ ∀ r u, (R i)[r]? = some u → w.cell? ⟨b, o + (i * sz + r), none⟩ = some u) : RowsL sz E K w (some ⟨b, o, none⟩) n ((List.range n).map F) := by
  have hl : ∀ r ∈ (List.range n).map R, r.length = sz := fun r hr => by
    obtain ⟨i, hi, rfl⟩ := List.mem_map.1 hr
    exact (h i (List.mem_range.1 hi)).1
  refine ⟨((List.range n).map R).flatten, by simp, ⟨by rw [flatg_len hl]; simp, (fun e => by cases e), fun hp => ⟨b, o, rfl, (hK hp).1, (hK hp).2, fun j u hj => ?_⟩⟩, (List.range n).map R, rfl, by simp, hl, fun j x hx => ?_⟩
  · have hjl := (List.getElem?_eq_some_iff.1 hj).1
    rw [flatg_len hl] at hjl
    simp only [List.length_map, List.length_range] at hjl
    have hi : j / sz < n := Nat.div_lt_of_lt_mul (by rw [Nat.mul_comm]; exact hjl)
    have hr : j % sz < sz := Nat.mod_lt _ hsz
    have e : j = j / sz * sz + j % sz := by rw [Nat.mul_comm]; exact (Nat.div_add_mod j sz).symm
    have hg := flatg_get hl (k := j / sz) (i := j % sz) (r := R (j / sz)) (by rw [List.getElem?_map, List.getElem?_range hi]; rfl) hr
    rw [← e, hj] at hg
    have := (h (j / sz) hi).2.2 (j % sz) u hg.symm
    rw [← e] at this
    exact this
  · rw [List.getElem?_map] at hx
    by_cases hj : j < n
    · rw [List.getElem?_range hj] at hx
      injection hx with hx
      exact ⟨R j, by rw [List.getElem?_map, List.getElem?_range hj]; rfl, hx ▸ (h j hj).2.1⟩
    · rw [List.getElem?_eq_none (by simp; omega)] at hx
      cases hx
end Go.Proofs.Ytndnmcdbfjgglaa
