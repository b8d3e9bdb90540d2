/- A row of one's own that grows by elements which lead to blocks elsewhere. Nothing here speaks of one program. -/
import Derived.Test.YtndnmcdbfjgglaaRowL
namespace Go.Proofs.Ytndnmcdbfjgglaa
open Go.RowKit

/-- How an element's cells are read. -/
structure EOk {α : Type} (E : (Nat → Prop) → World → α → List Value → Prop) : Prop where
  stays : ∀ {K : Nat → Prop} {w w' : World} {x : α} {r : List Value}, E K w x r → WStays K w w' → E K w' x r
  mono : ∀ {K K' : Nat → Prop} {w : World} {x : α} {r : List Value}, E K w x r → (∀ y, K y → K' y) → E K' w x r
  lt : ∀ {K : Nat → Prop} {w : World} {x : α} {r : List Value}, E K w x r → E (fun y => K y ∧ y < w.heap.size) w x r
theorem EOk.below {α : Type} {E : (Nat → Prop) → World → α → List Value → Prop} (ok : EOk E) {K : Nat → Prop} {w w' : World} {x : α} {r : List Value} (h : E K w x r) (hb : Below w.heap.size w w') : E K w' x r :=
  ok.mono (ok.stays (ok.lt h) ⟨hb.size, fun y hy => hb.block y hy.2⟩) (fun _ hy => hy.1)

/-- A row of one's own, from block B on; its elements lead to blocks of D. -/
structure Gr {α : Type} (E : (Nat → Prop) → World → α → List Value → Prop) (e : TypeId) (sz : Nat) (w : World) (B : Nat) (v : Value) (vs : List Value) (D : Nat → Prop) (xs : List α) : Prop where
  Bw : B ≤ w.heap.size
  ow : w.ownsRow B e sz v xs.length vs
  hd : HdL sz (E D w) vs xs
  dx : ∀ x, D x → x < w.heap.size ∧ v.ownBlock ≠ some x

section
variable {α : Type} {E : (Nat → Prop) → World → α → List Value → Prop} {e : TypeId} {sz : Nat} {w w' : World} {B : Nat} {v : Value} {vs : List Value} {D K : Nat → Prop} {xs : List α}
theorem own_geB {e size n : Nat} {xs : List Value} (h : w.ownsRow B e size v n xs) {x : Nat} (hx : v.ownBlock = some x) : B ≤ x ∧ x < w.heap.size := by
  rcases h.2 with ⟨rfl, _⟩ | ⟨g, cap, cur, rfl, hB, hh, _⟩
  · cases hx
  · injection hx with hx
    have hx' : g = x := hx
    rw [← hx']
    exact ⟨hB, (Array.getElem?_eq_some_iff.1 hh).1⟩
theorem Gr.start (h : w.ownsRow B e sz v 0 []) (hB : B ≤ w.heap.size) : Gr E e sz w B v [] (fun _ => False) ([] : List α) := ⟨hB, h, HdL.nil _ _, fun _ hx => hx.elim⟩
theorem Gr.below (ok : EOk E) (h : Gr E e sz w B v vs D xs) (hb : Below w.heap.size w w') : Gr E e sz w' B v vs D xs :=
  ⟨Nat.le_trans h.Bw hb.size, own_keep h.ow hb, h.hd.imp fun _ _ hx => ok.below hx hb, fun x hx => ⟨Nat.lt_of_lt_of_le (h.dx x hx).1 hb.size, (h.dx x hx).2⟩⟩
/-- One element more. -/
theorem Gr.put (ok : EOk E) (h : Gr E e sz w B v vs D xs) {v' : Value} {x : α} {r : List Value} (hr : r.length = sz) (hE : E K w x r) (hK : ∀ y, K y → v.ownBlock ≠ some y)
    (ho : w'.ownsRow B e sz v' (xs.length + 1) (vs ++ r)) (hg : w.grownBy w' v.ownBlock) (hv : v'.ownBlock = v.ownBlock ∨ v'.ownBlock = some w.heap.size) :
    Gr E e sz w' B v' (vs ++ r) (fun y => D y ∨ (K y ∧ y < w.heap.size)) (xs ++ [x]) := by
  have hF : Fr (fun y => v.ownBlock = some y) w w' := Fr.grown hg (fun y hy => hy)
  have hs := hF.size
  have hall : ∀ y, (D y ∨ (K y ∧ y < w.heap.size)) → y < w.heap.size ∧ v.ownBlock ≠ some y := fun y hy => by
    rcases hy with h1 | h1
    · exact h.dx y h1
    · exact ⟨h1.2, hK y h1.1⟩
  have st : WStays (fun y => D y ∨ (K y ∧ y < w.heap.size)) w w' := ⟨hs, fun y hy => hF.block y (hall y hy).1 (hall y hy).2⟩
  refine ⟨Nat.le_trans h.Bw hs, by rw [List.length_append, List.length_singleton]; exact ho, ?_, fun y hy => ?_⟩
  · exact (h.hd.imp fun _ _ hx => ok.stays (ok.mono hx (fun _ hy => .inl hy)) st).snoc hr (ok.stays (ok.mono (ok.lt hE) (fun _ hy => .inr hy)) st)
  · obtain ⟨h1, h2⟩ := hall y hy
    refine ⟨by omega, fun e => ?_⟩
    rcases hv with hv | hv
    · exact h2 (hv ▸ e)
    · rw [hv] at e
      injection e with e
      omega
/-- What it is in the end. -/
theorem Gr.rows (ok : EOk E) (h : Gr E e sz w B v vs D xs) : ∃ A c, v = .slice A xs.length c ∧ xs.length ≤ c ∧ c ≤ maxLen ∧ RowsL sz (E (fun x => D x ∨ (B ≤ x ∧ x < w.heap.size)) w) (fun x => D x ∨ (B ≤ x ∧ x < w.heap.size)) w A xs.length xs := by
  obtain ⟨A, c, e1, h1, h2, h3⟩ := own_vrow h.ow
  exact ⟨A, c, e1, h1, h2, vs, rfl, h3.mono (fun x hx => .inr hx), h.hd.imp fun _ _ hx => ok.mono hx (fun _ hy => .inl hy)⟩
end

/-- An element that is a slice of bytes. -/
def EB (K : Nat → Prop) (w : World) (x : List UInt8) (r : List Value) : Prop := ∃ u, r = [u] ∧ VB K w u x
theorem EB.ok : EOk EB where
  stays := fun ⟨u, e, hu⟩ hs => ⟨u, e, hu.stays hs⟩
  mono := fun ⟨u, e, hu⟩ hk => ⟨u, e, hu.mono hk⟩
  lt := fun ⟨u, e, hu⟩ => ⟨u, e, hu.lt⟩
theorem EP.ok : EOk EP where
  stays := fun ⟨u, e, hu⟩ hs => ⟨u, e, hu.stays hs⟩
  mono := fun ⟨u, e, hu⟩ hk => ⟨u, e, hu.mono hk⟩
  lt := fun ⟨u, e, hu⟩ => ⟨u, e, hu.lt⟩
theorem EB.rows {K : Nat → Prop} {w : World} {A : Option Addr} {n : Nat} {ls : List (List UInt8)} (h : RowsL 1 (EB K w) K w A n ls) : RowsV K w A n ls := by
  obtain ⟨vs, h1, h2, ch, rfl, h4, h5, h6⟩ := h
  have hl : ch.flatten.length = n := by rw [h2.1, Nat.mul_one]
  refine ⟨_, h1, h2, by omega, fun j u hj => ?_⟩
  have hjl : j < ls.length := by have := (List.getElem?_eq_some_iff.1 hj).1; omega
  obtain ⟨r, hr, u', e, hu'⟩ := h6 j ls[j] (List.getElem?_eq_getElem hjl)
  have hg := flatg_get h5 hr (i := 0) (by decide)
  rw [Nat.mul_one, Nat.add_zero, hj, e] at hg
  injection hg with hg
  rw [List.getD_eq_getElem?_getD, List.getElem?_eq_getElem hjl, hg]
  exact hu'
theorem RowsV.atK {K : Nat → Prop} {w : World} {A : Option Addr} {n : Nat} {ls : List (List UInt8)} (h : RowsV K w A n ls) {j : Nat} (hj : j < n) : ∃ b o u, A = some ⟨b, o, none⟩ ∧ K b ∧ b < w.heap.size ∧ w.cell? ⟨b, o + j, none⟩ = some u ∧ VB K w u (ls.getD j []) := by
  obtain ⟨vs, h1, h2, h3⟩ := h
  obtain ⟨b, o, e, hk, hlt, hc⟩ := h2.2.2 (by omega)
  have hjl : j < vs.length := by rw [h2.1]; omega
  have hv := List.getElem?_eq_getElem hjl
  exact ⟨b, o, vs[j], e, hk, hlt, hc j _ hv, h3.2 j _ hv⟩
/-- Numbers in cells. -/
theorem ints_hd (xs : List Int) : HdL 1 EI (xs.map (Value.int .i64)) xs := by
  refine ⟨xs.map fun x => [.int .i64 x], ?_, by simp, fun r hr => ?_, fun j x hx => ⟨[.int .i64 x], by simp [hx], rfl⟩⟩
  · induction xs with
    | nil => rfl
    | cons a xs ih => simp at ih ⊢; exact ih
  · obtain ⟨x, _, rfl⟩ := List.mem_map.1 hr
    rfl
/-- From a to b, or from c on. -/
def Two (a b c : Nat) (x : Nat) : Prop := (a ≤ x ∧ x < b) ∨ c ≤ x
end Go.Proofs.Ytndnmcdbfjgglaa
