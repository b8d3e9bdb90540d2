/- More on slices of bytes: what is kept while something else is written; nothing here speaks of one program. -/
import Derived.Test.YtndnmcdbfjgglaaMem
import Derived.OwnWalk
namespace Go.Proofs.Ytndnmcdbfjgglaa
open Go.RowKit

/-- What lies below B reads as it did. -/
theorem Rd.below' {w w' : World} {A : Option Addr} {n B : Nat} {l : List UInt8} (h : Rd w A n l) (hb : Below B w w') (hB : 0 < n → ∃ b o, A = some ⟨b, o, none⟩ ∧ b < B) : Rd w' A n l :=
  ⟨h.1, fun hn => by
    obtain ⟨b, o, e, hlt, hc⟩ := h.2 hn
    obtain ⟨b', o', e', hB'⟩ := hB hn
    rw [e] at e'
    obtain ⟨rfl, rfl⟩ : b = b' ∧ o = o' := by injection e' with e'; injection e' with e1 e2; exact ⟨e1, e2⟩
    exact ⟨b, o, e, by have := hb.size; omega, fun j hj => (hb.cell (p := ⟨b, o + j, none⟩) hB').trans (hc j hj)⟩⟩
theorem own_block {w : World} {B : Nat} {e : TypeId} {A : Option Addr} {n c b o : Nat} {xs : List Value} (h : w.ownsRow B e 1 (.slice A n c) n xs) (hA : A = some ⟨b, o, none⟩) : B ≤ b := by
  rcases h.2 with ⟨h1, _⟩ | ⟨g, cap, cur, hv, hB, _⟩
  · injection h1 with h1; rw [hA] at h1; cases h1
  · injection hv with h1
    rw [hA] at h1
    injection h1 with h1
    injection h1 with h1
    omega
theorem Rd.block {w w' : World} {A : Option Addr} {n : Nat} {l : List UInt8} (h : Rd w A n l) (hs : w.heap.size ≤ w'.heap.size) (hk : ∀ b o, A = some ⟨b, o, none⟩ → w'.heap[b]? = w.heap[b]?) : Rd w' A n l :=
  ⟨h.1, fun hn => by
    obtain ⟨b, o, e, hlt, hc⟩ := h.2 hn
    exact ⟨b, o, e, by omega, fun j hj => (World.cell?_of_block (w := w) (a := ⟨b, o + j, none⟩) (hk b o e)).trans (hc j hj)⟩⟩
theorem Rd.src {w : World} {A : Option Addr} {n : Nat} {l : List UInt8} (h : Rd w A n l) (m : Nat) (hpos : 0 < (cells (l.take m)).length) : ∃ ad, A = some ad ∧ ∀ j v, (cells (l.take m))[j]? = some v → w.cell? (ad.add j) = some v := by
  have hl := h.1
  obtain ⟨b, o, e, _, hc⟩ := h.2 (by simp at hpos; omega)
  refine ⟨⟨b, o, none⟩, e, fun j v hj => ?_⟩
  have hj1 : j < (l.take m).length := by have := (List.getElem?_eq_some_iff.1 hj).1; simpa using this
  have hj2 : j < l.length := by simp at hj1; omega
  rw [Addr.add_lit, hc j hj2, ← hj, cells_get hj1]
  simp
theorem heap_setCell_at {w : World} {g j : Nat} {C : Array Value} {T : TypeId} {fr : Nat × Nat} (h : w.heap[g]? = some (.cells C T fr)) (v : Value) : (w.setCell ⟨g, j, none⟩ v).heap[g]? = some (.cells (C.setIfInBounds j v) T fr) := by
  simp [World.setCell, Array.getElem?_modify, h]
theorem own_mono {w : World} {B B' : Nat} {e : TypeId} {size n : Nat} {v : Value} {xs : List Value} (h : w.ownsRow B e size v n xs) (hB : B' ≤ B) : w.ownsRow B' e size v n xs :=
  ⟨h.1, h.2.elim .inl fun ⟨g, cap, cur, e1, e2, r⟩ => .inr ⟨g, cap, cur, e1, by omega, r⟩⟩
/-- What is owned from B on stays owned where one block below B was written. -/
theorem own_apart {w w' : World} {B : Nat} {e : TypeId} {n : Nat} {v v' : Value} {xs : List Value} (h : w.ownsRow B e 1 v n xs) (hne : ∀ k, v'.ownBlock = some k → k < B) (hg : w.grownBy w' v'.ownBlock) : w'.ownsRow B e 1 v n xs :=
  ⟨h.1, h.2.elim .inl fun ⟨g, cap, cur, e1, e2, hh, r⟩ => .inr ⟨g, cap, cur, e1, e2, (hg.block g (Array.getElem?_eq_some_iff.1 hh).1 (fun e => by have := hne g e.symm; omega)).trans hh, r⟩⟩

/-- 'append(v, x...)', and what of the memory was written. -/
theorem wpList_appg {P : Program} (w : World) {T e : TypeId} (el : El P T e (.int .u8 0) 1 1) {ops : Array Oper} {rest : List Oper} {o : Oper} {a : Act} {Q : Exit → Act → World → Prop} (hgd : Region.wanted o (yielded ops a.tmps) = true) (s x : Operand)
    (ho : o.op = .call { callee := .builtin .append, args := #[s, x], argTypes := #[T, T] })
    (B : Nat) (v : Value) (n : Nat) (xs : List Value) (hs : a.eval s = v) (hown : w.ownsRow B e 1 v n xs)
    (ad : Addr) (m c : Nat) (l : List UInt8) (hx : a.eval x = .slice (some ad) m c) (hr : Rd w (some ad) m l) (hb : n + m ≤ 140737488355328) (hB : B ≤ w.heap.size)
    (h : ∀ v' w', w'.ownsRow B e 1 v' (n + m) (xs ++ cells l) → w.grownBy w' v.ownBlock → wpList P ops Q rest (a.put o.dst v') w') : wpList P ops Q (o :: rest) a w :=
  wpList_w hgd fun _ hK => by
    obtain ⟨i, hi, hz, h1, h2⟩ := info_parts el.info
    obtain ⟨v', w', hrun, ho', hg, _⟩ := run_append_own (P := P) w B T o.type e i (.int .u8 0) 1 1 el.und hi hz h1 h2 rfl (by decide) v n xs hown ad m c (cells l) (by simp [hr.1]) hr.cells_at (cells_one l)
      (by unfold maxLen; omega) (by omega) hB
    unfold Oper.wp execOp
    simp only [ho, resolve, invoke, builtin, Sem.run_bind, Sem.run_pure, Result.andThen_ok, List.map_toArray, List.map_cons, List.map_nil, hs, hx, hrun]
    exact hK _ _ (h v' w' ho' hg)

theorem run_appg {P : Program} (w : World) {T e : TypeId} (el : El P T e (.int .u8 0) 1 1) (ty : TypeId) (B : Nat) (v : Value) (n : Nat) (xs : List Value) (hown : w.ownsRow B e 1 v n xs)
    (A : Option Addr) (m c : Nat) (l : List UInt8) (hr : Rd w A m l) (hb : n + m ≤ 140737488355328) (hB : B ≤ w.heap.size) :
    ∃ v' w', (Builtin.append_ #[T, T] ty #[v, .slice A m c]).run P w = .ok v' w' ∧ w'.ownsRow B e 1 v' (n + m) (xs ++ cells l) ∧ Below B w w' ∧ w.grownBy w' v.ownBlock := by
  obtain ⟨i, hi, hz, h1, h2⟩ := info_parts el.info
  rcases A with _ | ad
  · have hm : m = 0 := by
      rcases Nat.eq_zero_or_pos m with h0 | h0
      · exact h0
      · obtain ⟨_, _, h, _⟩ := hr.2 h0
        cases h
    subst hm
    have hn : l = [] := List.eq_nil_of_length_eq_zero hr.1
    subst hn
    exact ⟨v, w, run_app_nil w B T ty e i 1 el.und hi v n xs hown c, by simpa [cells_nil] using hown, Below.refl _ _, World.grownBy.refl _ _⟩
  · obtain ⟨v', w', hrun, ho, hg, _⟩ := run_append_own (P := P) w B T ty e i (.int .u8 0) 1 1 el.und hi hz h1 h2 rfl (by decide) v n xs hown ad m c (cells l) (by simp [hr.1]) hr.cells_at (cells_one l)
      (by unfold maxLen; omega) (by omega) hB
    exact ⟨v', w', hrun, ho, below_own hown hB hg, hg⟩

/-- 'append(v, x...)' as a step of a region that draws its order. -/
theorem step_app {P : Program} (w : World) {T e : TypeId} (el : El P T e (.int .u8 0) 1 1) {ops : Array Oper} {o : Oper} {a : Act} {K : Act → World → Prop} {Q : Exit → Act → World → Prop} {E : Prop} (hgd : o.guard = none) (s x : Operand)
    (ho : o.op = .call { callee := .builtin .append, args := #[s, x], argTypes := #[T, T] })
    (B : Nat) (v : Value) (n : Nat) (xs : List Value) (hs : a.eval s = v) (hown : w.ownsRow B e 1 v n xs)
    (A : Option Addr) (m c : Nat) (l : List UInt8) (hx : a.eval x = .slice A m c) (hr : Rd w A m l) (hb : n + m ≤ 140737488355328) (hB : B ≤ w.heap.size)
    (h : ∀ v' w', w'.ownsRow B e 1 v' (n + m) (xs ++ cells l) → Below B w w' → w.grownBy w' v.ownBlock → K (a.put o.dst v') w') :
    if Region.wanted o (yielded ops a.tmps) = true then Oper.wp P o a w K Q else E := by
  have hw : Region.wanted o (yielded ops a.tmps) = true := by simp [Region.wanted, hgd]
  rw [if_pos hw]
  obtain ⟨v', w', hrun, h2, h3, h4⟩ := run_appg w el o.type B v n xs hown A m c l hr hb hB
  unfold Oper.wp execOp
  simp only [ho, resolve, invoke, builtin, Sem.run_bind, Sem.run_pure, Result.andThen_ok, List.map_toArray, List.map_cons, List.map_nil, hs, hx, hrun]
  exact h v' w' h2 h3 h4
end Go.Proofs.Ytndnmcdbfjgglaa
