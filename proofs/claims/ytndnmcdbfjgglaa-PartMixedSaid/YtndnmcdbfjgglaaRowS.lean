/- One element of a row of one's own turned; a shorter row: elements of any size. Nothing here speaks of one program. -/
import Derived.Test.YtndnmcdbfjgglaaGrow
import Derived.Test.YtndnmcdbfjgglaaRec
namespace Go.Proofs.Ytndnmcdbfjgglaa
open Go.RowKit

section
variable {w : World} {B e r n c sz : Nat} {xs : List Value}
theorem own_setC (h : w.ownsRow B e sz (.slice (some ⟨r, 0, none⟩) n c) n xs) (j : Nat) (v : Value) : (w.setCell ⟨r, j, none⟩ v).ownsRow B e sz (.slice (some ⟨r, 0, none⟩) n c) n (xs.set j v) := by
  refine ⟨by rw [List.length_set]; exact h.1, ?_⟩
  rcases h.2 with ⟨h1, _⟩ | ⟨g, cap, cur, h1, hB, hh, hn, hc, hs, ht⟩
  · cases h1
  · injection h1 with h1 h2 h3
    injection h1 with h1
    injection h1 with h1
    subst h1 h3
    refine .inr ⟨r, c, cur.setIfInBounds j v, rfl, hB, heap_setCell_at hh v, hn, hc, by simpa using hs, ?_⟩
    rw [← ht]
    simp [List.take_set]
theorem own_cur (h : w.ownsRow B e sz (.slice (some ⟨r, 0, none⟩) n c) n xs) : ∃ cur, w.heap[r]? = some (.cells cur e (0, 0)) ∧ n ≤ c ∧ cur.size = c * sz := by
  rcases h.2 with ⟨h1, _⟩ | ⟨g, cap, cur, h1, hB, hh, hn, hc, hs, ht⟩
  · cases h1
  · injection h1 with h1 h2 h3
    injection h1 with h1
    injection h1 with h1
    subst h1 h3
    exact ⟨cur, hh, hn, hs⟩
theorem own_there (h : w.ownsRow B e sz (.slice (some ⟨r, 0, none⟩) n c) n xs) {o m : Nat} (hm : o + m ≤ n * sz) : w.there r o m := by
  obtain ⟨cur, hh, hn, hs⟩ := own_cur h
  have := Nat.mul_le_mul_right sz hn
  intro j hj
  refine ⟨?_, frozen_of_row w r _ _ _ hh⟩
  rw [cell_of_row _ _ (o + j) _ _ _ hh, Array.getElem?_eq_getElem (by omega)]
  rfl
/-- A shorter row. -/
theorem own_lessS {A : Option Addr} {m : Nat} (h : w.ownsRow B e sz (.slice A n c) n xs) (hm : m ≤ n) : w.ownsRow B e sz (.slice A m c) m (xs.take (m * sz)) := by
  obtain ⟨hl, hr⟩ := h
  have := Nat.mul_le_mul_right sz hm
  refine ⟨by rw [List.length_take]; omega, ?_⟩
  rcases hr with ⟨h1, h0⟩ | ⟨g', cap, cur', h1, hB, hh, hn, hc, hs, ht⟩
  · injection h1 with h1 h2 h3
    subst h1 h3
    exact .inl ⟨by rw [show m = 0 by omega], by omega⟩
  · injection h1 with h1 h2 h3
    subst h1 h3
    refine .inr ⟨g', c, cur', rfl, hB, hh, by omega, hc, hs, ?_⟩
    rw [← ht, List.take_take, Nat.min_eq_left this]
theorem Fr.setCells (own : Nat → Prop) (b : Nat) (hb : own b) : ∀ (vs : List Value) (o : Nat) (w : World), Fr own w (w.setCells b o vs)
  | [], _, w => Fr.refl _ w
  | v :: vs, o, w => (Fr.setCell w (p := ⟨b, o, none⟩) hb v).trans (Fr.setCells own b hb vs (o + 1) (w.setCell ⟨b, o, none⟩ v))
end
theorem set3_splice {vs : List Value} {p : Nat} (a b c : Value) (h : p + 3 ≤ vs.length) : ((vs.set p a).set (p + 1) b).set (p + 2) c = splice vs p [a, b, c] := by
  unfold splice
  apply List.ext_getElem
  · simp; omega
  intro j h1 h2
  rw [List.getElem_set, List.getElem_set, List.getElem_set]
  by_cases hj : j < p
  · rw [if_neg (by omega), if_neg (by omega), if_neg (by omega), List.getElem_append_left (by simp; omega), List.getElem_take]
  · rw [List.getElem_append_right (by simp; omega)]
    simp only [List.length_take]
    by_cases h0 : j = p
    · subst h0
      rw [if_neg (by omega), if_neg (by omega), if_pos rfl, List.getElem_append_left (by simp; omega)]
      have : j - min j vs.length = 0 := by omega
      simp [this]
    by_cases h1' : j = p + 1
    · subst h1'
      rw [if_neg (by omega), if_pos rfl, List.getElem_append_left (by simp; omega)]
      have : p + 1 - min p vs.length = 1 := by omega
      simp [this]
    by_cases h2' : j = p + 2
    · subst h2'
      rw [if_pos rfl, List.getElem_append_left (by simp; omega)]
      have : p + 2 - min p vs.length = 2 := by omega
      simp [this]
    · rw [if_neg (by omega), if_neg (by omega), if_neg (by omega), List.getElem_append_right (by simp; omega), List.getElem_drop]
      congr 1
      simp
      omega
/-- An element that is put at its own place, or at another's, reads as it did where it stood. -/
theorem splice3_at {vs : List Value} {p q : Nat} {l : List Value} (hl : l.length = 3) (hpq : p = q ∨ p + 3 ≤ q ∨ q + 3 ≤ p) (h : ∀ r, r < 3 → vs[q + r]? = l[r]?) {r : Nat} (hr : r < 3) (hp : p + 3 ≤ vs.length) (hq : q + 3 ≤ vs.length) : (splice vs p l)[q + r]? = l[r]? := by
  unfold splice
  rcases hpq with e | e | e
  · subst e
    rw [List.getElem?_append_right (by simp; omega), List.getElem?_append_left (by simp; omega)]
    congr 1
    simp
    omega
  · rw [List.getElem?_append_right (by simp; omega), List.getElem?_append_right (by simp; omega), List.getElem?_drop, ← h r hr]
    congr 1
    simp
    omega
  · rw [List.getElem?_append_left (by simp; omega), List.getElem?_take, if_pos (by omega)]
    exact h r hr
theorem splice_at {vs : List Value} {p : Nat} {l : List Value} {r : Nat} (hp : p + l.length ≤ vs.length) (hr : r < l.length) : (splice vs p l)[p + r]? = l[r]? := by
  unfold splice
  rw [List.getElem?_append_right (by simp; omega), List.getElem?_append_left (by simp; omega)]
  congr 1
  simp
  omega
theorem res_cTT {P : Program} {w : World} {fn : Func} {p u v : Tmp} {T : TypeId} {tmps : Array Value} {ad : Addr} {x : Value} (h : fn.results = #[.cell p T, .tmp u, .tmp v]) (hp : tmps.getD p undef = .pointer (some ad)) (hl : (loadVar T ad).run P w = .ok x w) :
    (results fn tmps).run P w = .ok (.tuple #[x, tmps.getD u undef, tmps.getD v undef]) w := by
  rw [Array.getD_eq_getD_getElem?] at hp
  simp only [results, h]
  simp [Result.andThen, hp, asAddr, hl]
section
variable {P : Program} {ops : Array Oper} {o : Oper} {a : Act} {w : World} {J : Act → World → Prop} {Q : Exit → Act → World → Prop} {E : Prop}
/-- The store of a struct in the midst of a block, as a step of a region that draws its order. -/
theorem step_stMid (ty : TypeId) (hgd : o.guard = none) (x y : Operand) (ho : o.op = .store ty x y) (b p : Nat) (cells : Array Value) (hx : a.eval x = .pointer (some ⟨b, p, none⟩)) (hy : a.eval y = .agg cells)
    (ht : w.there b p cells.size) (hi : (P.info? ty).map (·.size) = some cells.size) (h1 : cells.all (·.oneCell') = true) (h : J (a.put o.dst undef) (w.setCells b p cells.toList)) :
    if Region.wanted o (yielded ops a.tmps) = true then Oper.wp P o a w J Q else E := by
  have hw : Region.wanted o (yielded ops a.tmps) = true := by simp [Region.wanted, hgd]
  rw [if_pos hw]
  exact wp_store_mid ty x y ho b p cells hx hy ht hi h1 h
end
end Go.Proofs.Ytndnmcdbfjgglaa
