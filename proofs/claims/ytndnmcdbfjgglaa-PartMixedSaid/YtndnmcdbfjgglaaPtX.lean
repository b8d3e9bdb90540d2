/- Pieces that are not joined: plain; rows of pieces cut, put together, turned. -/
import Derived.Test.YtndnmcdbfjgglaaPtF
namespace Go.Proofs.Ytndnmcdbfjgglaa
open Go.RowKit
set_option linter.unusedVariables false
set_option maxRecDepth 20000

/-- Some pieces of one record. -/
theorem del_no {xs : List (List UInt8)} {s : Int} (hg : GoodP xs s) {i : Nat} (hi : i < xs.length) (s' : Int) : ¬ GoodP (xs.take i ++ xs.drop (i + 1)) s' := by
  intro h
  have hl : (xs.take i ++ xs.drop (i + 1)).length = xs.length - 1 := by simp; omega
  have hpos := List.length_pos_iff.2 h.1
  have h0 : (xs.take i ++ xs.drop (i + 1))[0]? = some (xs.take i ++ xs.drop (i + 1))[0] := List.getElem?_eq_getElem hpos
  have c1 := (h.2 0 _ h0).2.2.1
  have hm : (xs.take i ++ xs.drop (i + 1))[0] ∈ xs := by
    rcases List.mem_append.1 (List.getElem_mem hpos) with q | q
    · exact List.mem_of_mem_take q
    · exact List.mem_of_mem_drop q
  obtain ⟨k, hk, e⟩ := List.getElem_of_mem hm
  have c2 := (hg.2 k _ (by rw [List.getElem?_eq_getElem hk, e])).2.2.1
  rw [c2, hl] at c1
  omega
/-- A piece of another record among them. -/
theorem mix_no {xs ys : List (List UInt8)} {s t : Int} (hg : GoodP xs s) (hy : GoodP ys t) {i : Nat} {y : List UInt8} (hi : i < xs.length) (hyi : ys[i]? = some y) (h1 : 1 < xs.length) (hd : s ≠ t ∨ xs.length ≠ ys.length) (s' : Int) : ¬ GoodP (xs.set i y) s' := by
  intro h
  have a1 := h.2 i y (by rw [List.getElem?_set_self hi])
  have a2 := hy.2 i y hyi
  have e1 : xs.length = ys.length := by
    have := a1.2.2.1
    rw [a2.2.2.1, List.length_set] at this
    omega
  have e2 : t = s' := a2.2.2.2.1.symm.trans a1.2.2.2.1
  obtain ⟨k, hk, hki⟩ : ∃ k, k < xs.length ∧ i ≠ k := by
    by_cases h0 : i = 0
    · exact ⟨1, h1, by omega⟩
    · exact ⟨0, by omega, h0⟩
  have hx : xs[k]? = some xs[k] := List.getElem?_eq_getElem hk
  have b1 := h.2 k xs[k] (by rw [List.getElem?_set_ne hki]; exact hx)
  have b2 := hg.2 k _ hx
  have e3 : s = s' := b2.2.2.2.1.symm.trans b1.2.2.2.1
  rcases hd with hd | hd
  · exact hd (e3.trans e2.symm)
  · exact hd e1
/-- In another order. -/
theorem turn_no {xs : List (List UInt8)} {s : Int} (hg : GoodP xs s) {i j : Nat} {xi xj : List UInt8} (hij : i ≠ j) (hi : i < xs.length) (hxj : xs[j]? = some xj) (s' : Int) : ¬ GoodP ((xs.set i xj).set j xi) s' := by
  intro h
  have a1 := h.2 i xj (by rw [List.getElem?_set_ne (fun e => hij e.symm), List.getElem?_set_self hi])
  have a2 := hg.2 j xj hxj
  have := a1.2.1
  rw [a2.2.1] at this
  omega

/-- Rows of pieces, cells and all: the cells of a part. -/
abbrev TK : Nat → Prop := fun _ => True
structure PRow (w : World) (b o n : Nat) (vs : List Value) (xs : List (List UInt8)) : Prop where
  len : xs.length = n
  row : VRow TK w (some ⟨b, o, none⟩) n 1 vs
  hd : HdL 1 (EPc TK w) vs xs
theorem PcsV.tk {K : Nat → Prop} {w : World} {A : Option Addr} {n : Nat} {xs : List (List UInt8)} (h : PcsV K w A n xs) : PcsV TK w A n xs := h.mono fun _ _ => trivial
theorem PcsV.prow {K : Nat → Prop} {w : World} {A : Option Addr} {n : Nat} {xs : List (List UInt8)} (h : PcsV K w A n xs) (hn : 0 < n) : ∃ b o vs, A = some ⟨b, o, none⟩ ∧ PRow w b o n vs xs := by
  obtain ⟨vs, h1, h2, h3⟩ := h
  obtain ⟨b, o, e, _⟩ := h2.2.2 hn
  subst e
  exact ⟨b, o, vs, rfl, h1, h2.mono fun _ _ => trivial, h3.imp fun x r hx => EPc.ok.mono hx fun _ _ => trivial⟩
theorem hd_below {w w' : World} {vs : List Value} {xs : List (List UInt8)} (h : HdL 1 (EPc TK w) vs xs) (hb : Below w.heap.size w w') : HdL 1 (EPc TK w') vs xs := h.imp fun x r hx => EPc.ok.below hx hb
theorem PRow.below {w w' : World} {b o n : Nat} {vs : List Value} {xs : List (List UInt8)} (h : PRow w b o n vs xs) (hb : Below w.heap.size w w') : PRow w' b o n vs xs := ⟨h.len, h.row.below hb, hd_below h.hd hb⟩
theorem PRow.one {w : World} {b o n : Nat} {vs : List Value} {xs : List (List UInt8)} (h : PRow w b o n vs xs) : ∀ u ∈ vs, u.oneCell' = true := h.hd.one fun x r hx => EPc.one hx
theorem PRow.vlen {w : World} {b o n : Nat} {vs : List Value} {xs : List (List UInt8)} (h : PRow w b o n vs xs) : vs.length = n := by rw [h.row.1, Nat.mul_one]
theorem prow_pre {w : World} {b o n : Nat} {vs : List Value} (h : VRow TK w (some ⟨b, o, none⟩) n 1 vs) {m : Nat} (hm : m ≤ n) : VRow TK w (some ⟨b, o, none⟩) m 1 (vs.take m) := by
  refine ⟨?_, fun e => (by cases e), fun hp => ?_⟩
  · rw [List.length_take, h.1]; omega
  · obtain ⟨b', o', e, hk, hlt, hc⟩ := h.2.2 (by omega)
    exact ⟨b', o', e, hk, hlt, fun j u hj => hc j u (by
      rw [List.getElem?_take] at hj
      split at hj
      · exact hj
      · cases hj)⟩
theorem prow_suf {w : World} {b o n : Nat} {vs : List Value} (h : VRow TK w (some ⟨b, o, none⟩) n 1 vs) {m : Nat} (hm : m ≤ n) (A : Option Addr) (hA : m < n → A = some ⟨b, o + m, none⟩) : VRow TK w A (n - m) 1 (vs.drop m) := by
  refine ⟨?_, fun e => ?_, fun hp => ?_⟩
  · rw [List.length_drop, h.1]; omega
  · rcases Nat.lt_or_ge m n with hlt | hge
    · rw [hA hlt] at e; cases e
    · omega
  · obtain ⟨b', o', e, hk, hlt, hc⟩ := h.2.2 (by omega)
    injection e with e
    injection e with e1 e2
    subst e1 e2
    refine ⟨b, o + m, hA (by omega), hk, hlt, fun j u hj => ?_⟩
    rw [List.getElem?_drop] at hj
    rw [Nat.add_assoc]
    exact hc _ u hj
theorem hd_drop {w : World} {vs : List Value} {xs : List (List UInt8)} (h : HdL 1 (EPc TK w) vs xs) (m : Nat) : HdL 1 (EPc TK w) (vs.drop m) (xs.drop m) := by
  obtain ⟨ch, rfl, hl, hz, he⟩ := h
  refine ⟨ch.drop m, ?_, by simp [hl], fun r hr => hz r (List.mem_of_mem_drop hr), fun j x hj => ?_⟩
  · have := flatg_drop hz m
    rwa [Nat.mul_one] at this
  · rw [List.getElem?_drop] at hj
    obtain ⟨r, hr, hE⟩ := he _ x hj
    exact ⟨r, by rw [List.getElem?_drop]; exact hr, hE⟩
theorem hd_take {w : World} {vs : List Value} {xs : List (List UInt8)} (h : HdL 1 (EPc TK w) vs xs) (m : Nat) : HdL 1 (EPc TK w) (vs.take m) (xs.take m) := by
  have := h.take m
  rwa [Nat.mul_one] at this
theorem hd_append {w : World} {vs vs' : List Value} {xs xs' : List (List UInt8)} (h : HdL 1 (EPc TK w) vs xs) (h' : HdL 1 (EPc TK w) vs' xs') : HdL 1 (EPc TK w) (vs ++ vs') (xs ++ xs') := by
  obtain ⟨ch, rfl, h2, h3, h4⟩ := h
  obtain ⟨ch', rfl, k2, k3, k4⟩ := h'
  refine ⟨ch ++ ch', by simp, by simp [h2, k2], fun q hq => ?_, fun j y hy => ?_⟩
  · rcases List.mem_append.1 hq with h | h
    · exact h3 q h
    · exact k3 q h
  · by_cases hj : j < xs.length
    · rw [List.getElem?_append_left hj] at hy
      obtain ⟨q, hq, hE⟩ := h4 j y hy
      exact ⟨q, by rw [List.getElem?_append_left (by omega)]; exact hq, hE⟩
    · rw [List.getElem?_append_right (by omega)] at hy
      obtain ⟨q, hq, hE⟩ := k4 _ y hy
      exact ⟨q, by rw [List.getElem?_append_right (by omega), h2]; exact hq, hE⟩
theorem hd_set {w : World} {vs : List Value} {xs : List (List UInt8)} (h : HdL 1 (EPc TK w) vs xs) {k : Nat} {x y : List UInt8} (hk : xs[k]? = some x) {u : Value} (hu : EPc TK w y [u]) : HdL 1 (EPc TK w) (vs.set k u) (xs.set k y) := by
  have := h.set1 hk (i := 0) (by decide) u (fun r hr _ => by
    match r, hr with
    | [_], _ => exact hu)
  rwa [Nat.mul_one, Nat.add_zero] at this
/-- A row of one's own, as pieces. -/
theorem own_pcs {w : World} {B e n : Nat} {v : Value} {vs : List Value} {xs : List (List UInt8)} (ho : w.ownsRow B e 1 v n vs) (h : HdL 1 (EPc TK w) vs xs) (hn : xs.length = n) : ∃ A c, v = .slice A n c ∧ n ≤ c ∧ PcsV TK w A n xs := by
  obtain ⟨A, c, e1, h1, _, vs', h2, h3, h4⟩ := own_rowsL ho h hn
  exact ⟨A, c, e1, h1, vs', h2, h3.mono fun _ _ => trivial, h4⟩
theorem PRow.cell {w : World} {b o n : Nat} {vs : List Value} {xs : List (List UInt8)} (h : PRow w b o n vs xs) {j : Nat} (hj : j < n) : ∃ x A m c, xs[j]? = some x ∧ vs[j]? = some (.slice A m c) ∧ w.cell? ⟨b, o + j, none⟩ = some (.slice A m c) ∧ EPc TK w x [.slice A m c] := by
  have hx : xs[j]? = some (xs[j]'(by rw [h.len]; exact hj)) := List.getElem?_eq_getElem (by rw [h.len]; exact hj)
  obtain ⟨r, hr, hE, hc⟩ := h.hd.at_ hx
  have hE' := hE
  obtain ⟨A, m, c, rfl, _⟩ := hE'
  have hv : vs[j]? = some (.slice A m c) := by have := hc 0 (by decide); rwa [Nat.mul_one, Nat.add_zero] at this
  obtain ⟨b', o', e, _, _, hcell⟩ := h.row.2.2 (by omega)
  injection e with e
  injection e with e1 e2
  subst e1 e2
  exact ⟨_, A, m, c, hx, hv, hcell j _ hv, hE⟩
end Go.Proofs.Ytndnmcdbfjgglaa
