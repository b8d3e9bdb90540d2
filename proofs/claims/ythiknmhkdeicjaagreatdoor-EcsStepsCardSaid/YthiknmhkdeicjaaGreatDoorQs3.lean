/- RowL, Base, Le4s, BitsM, TbM, TbR1, TbR2, EcT, EcM, Num -/
import Derived.Test.YthiknmhkdeicjaaGreatDoorQs1
import Derived.Test.YthiknmhkdeicjaaGreatDoorQs2
import Derived.Deep.MidRow
import Derived.Deep.WholeRow
import Derived.Lib.TrailingZeros
import Derived.BigQuiet
import Derived.Deep.QuietTactic
import Derived.Deep.DeepCutAuto
import Derived.Deep.RegionHeld3
import Derived.Laws.BitsAllLaws
import Derived.Laws.BitsLemmas
namespace Go.Proofs.YthiknmhkdeicjaaGreatDoor
open Go.RowKit
section
variable {α : Type} {z : Nat} {L : List (List α)}
theorem flatg_len (h : ∀ r ∈ L, r.length = z) : L.flatten.length = L.length * z := by
 induction L with
 | nil => simp
 | cons a L ih =>
  rw [List.flatten_cons, List.length_append, h a List.mem_cons_self, ih (fun r hr => h r (List.mem_cons_of_mem _ hr)), List.length_cons, Nat.succ_mul]
  omega
theorem flatg_take (h : ∀ r ∈ L, r.length = z) (k : Nat) : L.flatten.take (k * z) = (L.take k).flatten := by
 induction L generalizing k with
 | nil => simp
 | cons a L ih =>
  cases k with
  | zero => simp
  | succ k =>
   have ha := h a List.mem_cons_self
   rw [List.flatten_cons, List.take_succ_cons, List.flatten_cons, List.take_append, List.take_of_length_le (by rw [ha, Nat.succ_mul]; omega), ha, show (k + 1) * z - z = k * z by rw [Nat.succ_mul]; omega, ih (fun r hr => h r (List.mem_cons_of_mem _ hr))]
theorem flatg_drop (h : ∀ r ∈ L, r.length = z) (k : Nat) : L.flatten.drop (k * z) = (L.drop k).flatten := by
 induction L generalizing k with
 | nil => simp
 | cons a L ih =>
  cases k with
  | zero => simp
  | succ k =>
   have ha := h a List.mem_cons_self
   rw [List.flatten_cons, List.drop_succ_cons, List.drop_append, List.drop_eq_nil_of_le (by rw [ha, Nat.succ_mul]; omega), ha, show (k + 1) * z - z = k * z by rw [Nat.succ_mul]; omega, ih (fun r hr => h r (List.mem_cons_of_mem _ hr)), List.nil_append]
theorem flatg_get (h : ∀ r ∈ L, r.length = z) {k i : Nat} {r : List α} (hk : L[k]? = some r) (hi : i < z) : L.flatten[k * z + i]? = r[i]? := by
 have hlt := (List.getElem?_eq_some_iff.1 hk).1
 have he := (List.getElem?_eq_some_iff.1 hk).2
 have hr : r.length = z := he ▸ h _ (List.getElem_mem hlt)
 rw [<- List.getElem?_drop, flatg_drop h, List.drop_eq_getElem_cons hlt, he, List.flatten_cons, List.getElem?_append_left (by omega)]
theorem flatg_set (h : ∀ r ∈ L, r.length = z) {k i : Nat} {r : List α} (hk : L[k]? = some r) (hi : i < z) (u : α) : L.flatten.set (k * z + i) u = (L.set k (r.set i u)).flatten := by
 have hlt := (List.getElem?_eq_some_iff.1 hk).1
 have he := (List.getElem?_eq_some_iff.1 hk).2
 have hr : r.length = z := he ▸ h _ (List.getElem_mem hlt)
 have e1 : L.flatten = (L.take k).flatten ++ (r ++ (L.drop (k + 1)).flatten) := by
  rw [<- List.flatten_cons, <- he, <- List.drop_eq_getElem_cons hlt, <- List.flatten_append, List.take_append_drop]
 have e2 : (L.set k (r.set i u)).flatten = (L.take k).flatten ++ (r.set i u ++ (L.drop (k + 1)).flatten) := by
  rw [List.set_eq_take_append_cons_drop, if_pos hlt, List.flatten_append, List.flatten_cons]
 have hl : (L.take k).flatten.length = k * z := by
  rw [flatg_len (fun x hx => h x (List.mem_of_mem_take hx)), List.length_take, Nat.min_eq_left (by omega)]
 rw [e1, e2, List.set_append_right _ _ (by omega), hl, Nat.add_sub_cancel_left, List.set_append_left _ _ (by omega)]
end
def HdL {α : Type} (sz : Nat) (E : α -> List Value -> Prop) (vs : List Value) (xs : List α) : Prop :=
 ∃ ch : List (List Value), vs = ch.flatten /\ ch.length = xs.length /\ (∀ r ∈ ch, r.length = sz) /\ ∀ (j : Nat) (x : α), xs[j]? = some x -> ∃ r, ch[j]? = some r /\ E x r
section
variable {α : Type} {sz : Nat} {E E' : α -> List Value -> Prop} {vs : List Value} {xs : List α}
theorem HdL.imp (h : HdL sz E vs xs) (hi : ∀ x r, E x r -> E' x r) : HdL sz E' vs xs := by
 obtain ⟨ch, h1, h2, h3, h4⟩ := h
 exact ⟨ch, h1, h2, h3, fun j x hx => by obtain ⟨r, hr, he⟩ := h4 j x hx; exact ⟨r, hr, hi _ _ he⟩⟩
theorem HdL.len (h : HdL sz E vs xs) : vs.length = xs.length * sz := by
 obtain ⟨ch, rfl, h2, h3, _⟩ := h
 rw [flatg_len h3, h2]
theorem HdL.nil (sz : Nat) (E : α -> List Value -> Prop) : HdL sz E [] [] := ⟨[], rfl, rfl, fun _ h => absurd h List.not_mem_nil, fun j x h => by simp at h⟩
theorem HdL.at_ (h : HdL sz E vs xs) {j : Nat} {x : α} (hj : xs[j]? = some x) : ∃ r, r.length = sz /\ E x r /\ ∀ i, i < sz -> vs[j * sz + i]? = r[i]? := by
 obtain ⟨ch, rfl, h2, h3, h4⟩ := h
 obtain ⟨r, hr, he⟩ := h4 j x hj
 refine ⟨r, ?_, he, fun i hi => flatg_get h3 hr hi⟩
 obtain ⟨hlt, e⟩ := List.getElem?_eq_some_iff.1 hr
 exact e ▸ h3 _ (List.getElem_mem hlt)
theorem HdL.snoc (h : HdL sz E vs xs) {x : α} {r : List Value} (hr : r.length = sz) (he : E x r) : HdL sz E (vs ++ r) (xs ++ [x]) := by
 obtain ⟨ch, rfl, h2, h3, h4⟩ := h
 refine ⟨ch ++ [r], by simp, by simp [h2], fun q hq => ?_, fun j y hy => ?_⟩
 ·rcases List.mem_append.1 hq with h | h
  ·exact h3 q h
  ·rw [List.mem_singleton.1 h]; exact hr
 ·by_cases hj : j < xs.length
  ·rw [List.getElem?_append_left hj] at hy
   obtain ⟨q, hq, hE⟩ := h4 j y hy
   exact ⟨q, by rw [List.getElem?_append_left (by omega)]; exact hq, hE⟩
  ·have e : j = xs.length := by
    have := (List.getElem?_eq_some_iff.1 hy).1
    simp at this
    omega
   subst e
   simp at hy
   subst hy
   exact ⟨r, by rw [<- h2]; simp, he⟩
theorem HdL.take (h : HdL sz E vs xs) (m : Nat) : HdL sz E (vs.take (m * sz)) (xs.take m) := by
 obtain ⟨ch, rfl, h2, h3, h4⟩ := h
 refine ⟨ch.take m, flatg_take h3 m, by simp [h2], fun q hq => h3 q (List.mem_of_mem_take hq), fun j y hy => ?_⟩
 rw [List.getElem?_take] at hy
 split at hy
 ·rename_i hjm
  obtain ⟨q, hq, hE⟩ := h4 j y hy
  exact ⟨q, by rw [List.getElem?_take, if_pos hjm]; exact hq, hE⟩
 ·cases hy
theorem HdL.setx (h : HdL sz E vs xs) {k : Nat} (hk : k < xs.length) {y : α} {r : List Value} (hr : r.length = sz) (he : E y r) : HdL sz E (splice vs (k * sz) r) (xs.set k y) := by
 obtain ⟨ch, rfl, h2, h3, h4⟩ := h
 refine ⟨ch.set k r, ?_, by simp [h2], fun q hq => ?_, fun j y' hy => ?_⟩
 ·unfold splice
  rw [hr, show k * sz + sz = (k + 1) * sz by rw [Nat.succ_mul], flatg_take h3, flatg_drop h3, List.set_eq_take_append_cons_drop, if_pos (by omega), List.flatten_append, List.flatten_cons]
 ·rcases List.mem_or_eq_of_mem_set hq with h | h
  ·exact h3 q h
  ·rw [h]; exact hr
 ·rw [List.getElem?_set] at hy ⊢
  by_cases hkj : k = j
  ·subst hkj
   rw [if_pos rfl, if_pos hk] at hy
   injection hy with hy
   subst hy
   exact ⟨r, by rw [if_pos rfl, if_pos (by omega)], he⟩
  ·rw [if_neg hkj] at hy
   obtain ⟨q, hq, hE'⟩ := h4 j y' hy
   exact ⟨q, by rw [if_neg hkj]; exact hq, hE'⟩
theorem HdL.one (h : HdL sz E vs xs) (he : ∀ x r, E x r -> ∀ u ∈ r, u.oneCell' = true) : ∀ u ∈ vs, u.oneCell' = true := by
 obtain ⟨ch, rfl, h2, h3, h4⟩ := h
 intro u hu
 obtain ⟨r, hr, hur⟩ := List.mem_flatten.1 hu
 obtain ⟨j, hj, e⟩ := List.getElem_of_mem hr
 obtain ⟨q, hq, hE⟩ := h4 j xs[j] (List.getElem?_eq_getElem (by omega))
 rw [List.getElem?_eq_getElem hj, e] at hq
 injection hq with hq
 exact he _ _ hE u (hq ▸ hur)
end
def RowsL {α : Type} (sz : Nat) (E : α -> List Value -> Prop) (K : Nat -> Prop) (w : World) (A : Option Addr) (n : Nat) (xs : List α) : Prop := ∃ vs, xs.length = n /\ VRow K w A n sz vs /\ HdL sz E vs xs
theorem RowsL.cells {α : Type} {sz : Nat} {E : α -> List Value -> Prop} {K : Nat -> Prop} {w : World} {A : Option Addr} {n : Nat} {xs : List α} (h : RowsL sz E K w A n xs) {j : Nat} {x : α} (hj : xs[j]? = some x) :
  ∃ b o r, A = some ⟨b, o, none⟩ /\ K b /\ b < w.heap.size /\ r.length = sz /\ E x r /\ ∀ i u, i < sz -> r[i]? = some u -> w.cell? ⟨b, o + (j * sz + i), none⟩ = some u := by
 obtain ⟨vs, h1, h2, h3⟩ := h
 have hjl := (List.getElem?_eq_some_iff.1 hj).1
 obtain ⟨r, hr, he, hc⟩ := h3.at_ hj
 obtain ⟨b, o, e, hk, hlt, hcell⟩ := h2.2.2 (by omega)
 exact ⟨b, o, r, e, hk, hlt, hr, he, fun i u hi hu => hcell _ u (by rw [hc i hi]; exact hu)⟩
def EP (K : Nat -> Prop) (w : World) (x : Int × List UInt8) (r : List Value) : Prop := ∃ u, r = [.int .i64 x.1, u] /\ VB K w u x.2
def PartsV (K : Nat -> Prop) (w : World) (A : Option Addr) (n : Nat) (ps : List (Int × List UInt8)) : Prop := RowsL 2 (EP K w) K w A n ps
def EE (K : Nat -> Prop) (w : World) (x : (Int × Int) × List (Int × List UInt8)) (r : List Value) : Prop := ∃ A n c, r = [.int .i64 x.1.1, .int .i64 x.1.2, .slice A n c] /\ PartsV K w A n x.2
def EntsV (K : Nat -> Prop) (w : World) (A : Option Addr) (n : Nat) (xs : List ((Int × Int) × List (Int × List UInt8))) : Prop := RowsL 3 (EE K w) K w A n xs
def EI (x : Int) (r : List Value) : Prop := r = [.int .i64 x]
def IntsV (K : Nat -> Prop) (w : World) (A : Option Addr) (n : Nat) (xs : List Int) : Prop := RowsL 1 EI K w A n xs
def ED (x : Int × Int) (r : List Value) : Prop := r = [.int .i64 x.1, .int .i64 x.2]
def IdsV (K : Nat -> Prop) (w : World) (A : Option Addr) (n : Nat) (xs : List (Int × Int)) : Prop := RowsL 2 ED K w A n xs
section
variable {K K' : Nat -> Prop} {w w' : World} {A : Option Addr} {n : Nat}
theorem EP.one {x : Int × List UInt8} {r : List Value} (h : EP K w x r) : ∀ u ∈ r, u.oneCell' = true := by
 obtain ⟨u, rfl, hu⟩ := h
 intro v hv
 simp at hv
 rcases hv with rfl | rfl
 ·rfl
 ·exact hu.one
theorem EE.one {x : (Int × Int) × List (Int × List UInt8)} {r : List Value} (h : EE K w x r) : ∀ u ∈ r, u.oneCell' = true := by
 obtain ⟨A, n, c, rfl, _⟩ := h
 intro v hv
 simp at hv
 rcases hv with rfl | rfl | rfl <;> rfl
theorem ED.one {x : Int × Int} {r : List Value} (h : ED x r) : ∀ u ∈ r, u.oneCell' = true := by
 unfold ED at h
 subst h
 intro v hv
 simp at hv
 rcases hv with rfl | rfl <;> rfl
theorem PartsV.stays {ps : List (Int × List UInt8)} (h : PartsV K w A n ps) (hs : WStays K w w') : PartsV K w' A n ps := by
 obtain ⟨vs, h1, h2, h3⟩ := h
 exact ⟨vs, h1, h2.stays hs, h3.imp fun x r ⟨u, e, hu⟩ => ⟨u, e, hu.stays hs⟩⟩
theorem PartsV.mono {ps : List (Int × List UInt8)} (h : PartsV K w A n ps) (hk : ∀ x, K x -> K' x) : PartsV K' w A n ps := by
 obtain ⟨vs, h1, h2, h3⟩ := h
 exact ⟨vs, h1, h2.mono hk, h3.imp fun x r ⟨u, e, hu⟩ => ⟨u, e, hu.mono hk⟩⟩
theorem PartsV.lt {ps : List (Int × List UInt8)} (h : PartsV K w A n ps) : PartsV (fun x => K x /\ x < w.heap.size) w A n ps := by
 obtain ⟨vs, h1, h2, h3⟩ := h
 exact ⟨vs, h1, h2.lt, h3.imp fun x r ⟨u, e, hu⟩ => ⟨u, e, hu.lt⟩⟩
theorem PartsV.below {ps : List (Int × List UInt8)} (h : PartsV K w A n ps) (hb : Below w.heap.size w w') : PartsV K w' A n ps := (h.lt.stays ⟨hb.size, fun x hx => hb.block x hx.2⟩).mono fun _ hx => hx.1
theorem PartsV.nil (K : Nat -> Prop) (w : World) (A : Option Addr) : PartsV K w A 0 [] := ⟨[], rfl, ⟨rfl, fun _ => rfl, fun h => absurd h (Nat.lt_irrefl 0)⟩, HdL.nil _ _⟩
theorem PartsV.len {ps : List (Int × List UInt8)} (h : PartsV K w A n ps) : ps.length = n := by obtain ⟨_, h1, _⟩ := h; exact h1
theorem EntsV.stays {xs : List ((Int × Int) × List (Int × List UInt8))} (h : EntsV K w A n xs) (hs : WStays K w w') : EntsV K w' A n xs := by
 obtain ⟨vs, h1, h2, h3⟩ := h
 exact ⟨vs, h1, h2.stays hs, h3.imp fun x r ⟨A, n, c, e, hu⟩ => ⟨A, n, c, e, hu.stays hs⟩⟩
theorem EntsV.mono {xs : List ((Int × Int) × List (Int × List UInt8))} (h : EntsV K w A n xs) (hk : ∀ x, K x -> K' x) : EntsV K' w A n xs := by
 obtain ⟨vs, h1, h2, h3⟩ := h
 exact ⟨vs, h1, h2.mono hk, h3.imp fun x r ⟨A, n, c, e, hu⟩ => ⟨A, n, c, e, hu.mono hk⟩⟩
theorem EntsV.lt {xs : List ((Int × Int) × List (Int × List UInt8))} (h : EntsV K w A n xs) : EntsV (fun x => K x /\ x < w.heap.size) w A n xs := by
 obtain ⟨vs, h1, h2, h3⟩ := h
 exact ⟨vs, h1, h2.lt, h3.imp fun x r ⟨A, n, c, e, hu⟩ => ⟨A, n, c, e, hu.lt⟩⟩
theorem EntsV.len {xs : List ((Int × Int) × List (Int × List UInt8))} (h : EntsV K w A n xs) : xs.length = n := by obtain ⟨_, h1, _⟩ := h; exact h1
theorem IntsV.stays {xs : List Int} (h : IntsV K w A n xs) (hs : WStays K w w') : IntsV K w' A n xs := by
 obtain ⟨vs, h1, h2, h3⟩ := h
 exact ⟨vs, h1, h2.stays hs, h3⟩
theorem IntsV.mono {xs : List Int} (h : IntsV K w A n xs) (hk : ∀ x, K x -> K' x) : IntsV K' w A n xs := by
 obtain ⟨vs, h1, h2, h3⟩ := h
 exact ⟨vs, h1, h2.mono hk, h3⟩
theorem IntsV.cell {xs : List Int} (h : IntsV K w A n xs) {j : Nat} {x : Int} (hj : xs[j]? = some x) : ∃ b o, A = some ⟨b, o, none⟩ /\ b < w.heap.size /\ w.cell? ⟨b, o + j, none⟩ = some (.int .i64 x) := by
 obtain ⟨b, o, r, e, _, hlt, _, hE, hc⟩ := RowsL.cells h hj
 unfold EI at hE
 subst hE
 have := hc 0 _ Nat.one_pos rfl
 rw [Nat.mul_one, Nat.add_zero] at this
 exact ⟨b, o, e, hlt, this⟩
theorem IdsV.mono {xs : List (Int × Int)} (h : IdsV K w A n xs) (hk : ∀ x, K x -> K' x) : IdsV K' w A n xs := by
 obtain ⟨vs, h1, h2, h3⟩ := h
 exact ⟨vs, h1, h2.mono hk, h3⟩
theorem IdsV.below {xs : List (Int × Int)} (h : IdsV K w A n xs) (hb : Below w.heap.size w w') : IdsV K w' A n xs := by
 obtain ⟨vs, h1, h2, h3⟩ := h
 exact ⟨vs, h1, h2.below hb, h3⟩
theorem IdsV.len {xs : List (Int × Int)} (h : IdsV K w A n xs) : xs.length = n := by obtain ⟨_, h1, _⟩ := h; exact h1
theorem IdsV.cell {xs : List (Int × Int)} (h : IdsV K w A n xs) {j : Nat} {x : Int × Int} (hj : xs[j]? = some x) : ∃ b o, A = some ⟨b, o, none⟩ /\ b < w.heap.size /\ w.cell? ⟨b, o + j * 2, none⟩ = some (.int .i64 x.1) /\ w.cell? ⟨b, o + j * 2 + 1, none⟩ = some (.int .i64 x.2) := by
 obtain ⟨b, o, r, e, _, hlt, _, hE, hc⟩ := RowsL.cells h hj
 unfold ED at hE
 subst hE
 have h0 := hc 0 _ (by decide) rfl
 have h1 := hc 1 _ (by decide) rfl
 rw [Nat.add_zero] at h0
 rw [<- Nat.add_assoc] at h1
 exact ⟨b, o, e, hlt, h0, h1⟩
theorem PartsV.cell {ps : List (Int × List UInt8)} (h : PartsV K w A n ps) {j : Nat} {x : Int × List UInt8} (hj : ps[j]? = some x) :
  ∃ b o u, A = some ⟨b, o, none⟩ /\ K b /\ b < w.heap.size /\ w.cell? ⟨b, o + j * 2, none⟩ = some (.int .i64 x.1) /\ w.cell? ⟨b, o + j * 2 + 1, none⟩ = some u /\ VB K w u x.2 := by
 obtain ⟨b, o, r, e, hk, hlt, _, ⟨u, hr, hu⟩, hc⟩ := RowsL.cells h hj
 subst hr
 have h0 := hc 0 _ (by decide) rfl
 have h1 := hc 1 _ (by decide) rfl
 rw [Nat.add_zero] at h0
 rw [<- Nat.add_assoc] at h1
 exact ⟨b, o, u, e, hk, hlt, h0, h1, hu⟩
theorem EntsV.cell {xs : List ((Int × Int) × List (Int × List UInt8))} (h : EntsV K w A n xs) {j : Nat} {x : (Int × Int) × List (Int × List UInt8)} (hj : xs[j]? = some x) :
  ∃ b o PA pn pc, A = some ⟨b, o, none⟩ /\ K b /\ b < w.heap.size /\ w.cell? ⟨b, o + j * 3, none⟩ = some (.int .i64 x.1.1) /\ w.cell? ⟨b, o + j * 3 + 1, none⟩ = some (.int .i64 x.1.2) /\ w.cell? ⟨b, o + j * 3 + 2, none⟩ = some (.slice PA pn pc) /\ PartsV K w PA pn x.2 := by
 obtain ⟨b, o, r, e, hk, hlt, _, ⟨PA, pn, pc, hr, hu⟩, hc⟩ := RowsL.cells h hj
 subst hr
 have h0 := hc 0 _ (by decide) rfl
 have h1 := hc 1 _ (by decide) rfl
 have h2 := hc 2 _ (by decide) rfl
 rw [Nat.add_zero] at h0
 rw [<- Nat.add_assoc] at h1 h2
 exact ⟨b, o, PA, pn, pc, e, hk, hlt, h0, h1, h2, hu⟩
end
theorem VRow.new (w : World) (C : Array Value) (e n sz : Nat) (h : C.size = n * sz) : VRow (fun x => w.heap.size <= x) (w.alloc (.cells C e)) (some ⟨w.heap.size, 0, none⟩) n sz C.toList :=
 ⟨by simpa using h, (fun e => by cases e), fun _ => ⟨w.heap.size, 0, rfl, Nat.le_refl _, by simp, fun j u hj => by
  rw [Nat.zero_add, cell_of_row _ _ j _ _ _ (heap_alloc_last w _)]
  simpa using hj⟩⟩
theorem HdL.one1 {α : Type} {sz : Nat} {E : α -> List Value -> Prop} {x : α} {r : List Value} (hr : r.length = sz) (he : E x r) : HdL sz E r [x] := by
 have := (HdL.nil sz E).snoc hr he
 simpa using this
theorem own_rowsL {α : Type} {sz : Nat} {E : α -> List Value -> Prop} {w : World} {B e n : Nat} {v : Value} {vs : List Value} {xs : List α} (ho : w.ownsRow B e sz v n vs) (h : HdL sz E vs xs) (hn : xs.length = n) :
  ∃ A c, v = .slice A n c /\ n <= c /\ c <= maxLen /\ RowsL sz E (fun x => B <= x /\ x < w.heap.size) w A n xs := by
 obtain ⟨A, c, e1, h1, h2, h3⟩ := own_vrow ho
 exact ⟨A, c, e1, h1, h2, vs, hn, h3, h⟩
end Go.Proofs.YthiknmhkdeicjaaGreatDoor
namespace Go.Proofs.YthiknmhkdeicjaaGreatDoor
open Go.RowKit
theorem bytesT : El Tryz.prog 40 5 (.int .u8 0) 1 1 := ⟨Tryz.underlying40, by kernel_rfl, rfl, by decide⟩
end Go.Proofs.YthiknmhkdeicjaaGreatDoor
namespace Go.Proofs.YthiknmhkdeicjaaGreatDoor
open Go.RowKit
theorem Same_yes (A A' : Option Addr) (n c n' c' : Nat) (l : List UInt8) (w : World) (h1 : Rd w A n l) (h2 : Rd w A' n' l) :
  Calls Tryz.prog 15 #[.slice A n c, .slice A' n' c'] w fun e w' => e = .returned (.bool true) /\ w = w' := by
 have k1 := run_to_string 40 9 5 Tryz.underlying40 Tryz.underlying5 Tryz.underlying9 w A n c l h1
 have k2 := run_to_string 40 9 5 Tryz.underlying40 Tryz.underlying5 Tryz.underlying9 w A' n' c' l h2
 clear h1 h2
 go_enter Tryz.func15, Tryz.ntmps15
 go_wp2
 go_ret
 exact ⟨ret_bool (by simp), rfl⟩
end Go.Proofs.YthiknmhkdeicjaaGreatDoor
namespace Go.Proofs.YthiknmhkdeicjaaGreatDoor
def listN (s : Nat) : List Nat := (List.range 64).filter fun i => s.testBit i
theorem testBit_big {a i : Nat} (ha : a < 18446744073709551616) (hi : ¬ i < 64) : a.testBit i = false :=
 Nat.testBit_lt_two_pow (Nat.lt_of_lt_of_le ha (show 2 ^ 64 <= 2 ^ i from Nat.pow_le_pow_right (by decide) (by omega)))
theorem eq_of_bits {a b : Nat} (ha : a < 18446744073709551616) (hb : b < 18446744073709551616) (h : ∀ i, i < 64 -> a.testBit i = b.testBit i) : a = b :=
 Nat.eq_of_testBit_eq fun i => by
  by_cases hi : i < 64
  ·exact h i hi
  ·rw [testBit_big ha hi, testBit_big hb hi]
theorem mem_listN {s i : Nat} : i ∈ listN s ↔ i < 64 /\ s.testBit i = true := by simp [listN]
def ofL (l : List Int) : Nat -> Nat
 | 0 => 0
 | c + 1 => ofL l c + if (c : Int) ∈ l then 2 ^ c else 0
theorem ofL_lt (l : List Int) : ∀ c, ofL l c < 2 ^ c
 | 0 => Nat.one_pos
 | c + 1 => by
  have := ofL_lt l c
  rw [Nat.pow_succ]
  unfold ofL
  split <;> omega
theorem ofL_bit (l : List Int) : ∀ c i, (ofL l c).testBit i = decide (i < c /\ (i : Int) ∈ l)
 | 0, i => by simp [ofL]
 | c + 1, i => by
  have ih := ofL_bit l c i
  have hlt := ofL_lt l c
  unfold ofL
  by_cases hc : (c : Int) ∈ l
  ·rw [if_pos hc, <- Nat.or_two_pow_eq_add_of_lt hlt, Nat.testBit_or, ih, Nat.testBit_two_pow]
   by_cases e : i = c
   ·subst e
    simp [hc]
   ·have h1 : i < c ↔ i < c + 1 := by omega
    have h2 : ¬ c = i := fun e' => e e'.symm
    simp [h1, h2]
  ·rw [if_neg hc, Nat.add_zero, ih]
   by_cases e : i = c
   ·subst e
    simp [hc]
   ·have : i < c ↔ i < c + 1 := by omega
    simp [this]
def orL (l : List Int) : Nat := l.foldl (fun s c => if 0 <= c /\ c < 64 then s ||| 2 ^ c.toNat else s) 0
theorem orL_snoc (l : List Int) (c : Int) : orL (l ++ [c]) = if 0 <= c /\ c < 64 then orL l ||| 2 ^ c.toNat else orL l := by simp [orL]
theorem orL_one (c : Int) : orL [c] = if 0 <= c /\ c < 64 then 2 ^ c.toNat else 0 := by simp [orL]
theorem orF_bit (l : List Int) (i : Nat) : ∀ s : Nat, (l.foldl (fun (s : Nat) (c : Int) => if 0 <= c /\ c < 64 then s ||| 2 ^ c.toNat else s) s).testBit i = (s.testBit i || decide (i < 64 /\ (i : Int) ∈ l)) := by
 induction l with
 | nil => intro s; simp
 | cons c l ih =>
  intro s
  rw [List.foldl_cons, ih]
  by_cases hc : 0 <= c /\ c < 64
  ·rw [if_pos hc, Nat.testBit_or, Nat.testBit_two_pow]
   by_cases e : (i : Int) = c
   ·have h1 : c.toNat = i := by omega
    have h2 : i < 64 := by omega
    simp [h1, e, h2]
   ·have h1 : ¬ c.toNat = i := by omega
    simp [h1, e]
  ·rw [if_neg hc]
   by_cases e : (i : Int) = c
   ·have h2 : ¬ i < 64 := by omega
    simp [h2]
   ·simp [e]
theorem orL_bit (l : List Int) (i : Nat) : (orL l).testBit i = decide (i < 64 /\ (i : Int) ∈ l) := by
 unfold orL
 rw [orF_bit]
 simp
theorem orL_lt (l : List Int) : orL l < 18446744073709551616 :=
 Nat.lt_pow_two_of_testBit (n := 64) _ fun i hi => by
  rw [orL_bit]
  have : ¬ i < 64 := by omega
  simp [this]
theorem orL_eq (l : List Int) : orL l = ofL l 64 := eq_of_bits (orL_lt l) (ofL_lt l 64) fun i _ => by rw [orL_bit, ofL_bit]
theorem two_lt {c : Nat} (h : c < 64) : 2 ^ c < 18446744073709551616 := Nat.pow_lt_pow_right (a := 2) (by decide) (show c < 64 from h)
def butN (s o : Nat) : Nat := s &&& (18446744073709551615 - o)
theorem butN_bit' (s o i : Nat) (ho : o < 18446744073709551616) (h : i < 64) : (butN s o).testBit i = (s.testBit i && !o.testBit i) := by
 unfold butN
 rw [Nat.testBit_and, show 18446744073709551615 - o = 2 ^ 64 - (o + 1) from by omega, Nat.testBit_two_pow_sub_succ ho]
 simp [h]
theorem butN_lt {s o : Nat} (h : s < 18446744073709551616) : butN s o < 18446744073709551616 := Nat.lt_of_le_of_lt Nat.and_le_left h
def listZ (s : Nat) : List Int := (listN s).map Int.ofNat
theorem mem_listZ {s : Nat} {i : Nat} : (i : Int) ∈ listZ s ↔ i < 64 /\ s.testBit i = true := by
 unfold listZ
 rw [List.mem_map]
 constructor
 ·rintro ⟨a, ha, e⟩
  have : a = i := by have e' : (a : Int) = i := e; omega
  subst this
  exact mem_listN.1 ha
 ·exact fun h => ⟨i, mem_listN.2 h, rfl⟩
theorem hasN (s : Nat) (c : Int) : (s &&& orL [c] == 0) = !decide (0 <= c /\ c < 64 /\ s.testBit c.toNat = true) := by
 rw [orL_one]
 by_cases hc : 0 <= c /\ c < 64
 ·rw [if_pos hc]
  by_cases hb : s.testBit c.toNat = true
  ·have h0 : ¬ s &&& 2 ^ c.toNat = 0 := fun e => by
    have := congrArg (fun x => Nat.testBit x c.toNat) e
    simp [hb] at this
   simp [hc.1, hc.2, hb, h0]
  ·have h0 : s &&& 2 ^ c.toNat = 0 := Nat.eq_of_testBit_eq fun i => by
    rw [Nat.testBit_and, Nat.testBit_two_pow]
    by_cases e : c.toNat = i
    ·subst e; simp [hb]
    ·simp [e]
   simp [hb, h0]
 ·rw [if_neg hc]
  have : ¬ (0 <= c /\ c < 64 /\ s.testBit c.toNat = true) := fun h => hc ⟨h.1, h.2.1⟩
  simp only [this, Nat.and_zero, decide_false]
  rfl
theorem lowN (s : Nat) (h0 : s ≠ 0) (hs : s < 18446744073709551616) : Lib.ctz 64 s < 64 /\ listN s = Lib.ctz 64 s :: listN (butN s (orL [(Lib.ctz 64 s : Nat)])) := by
 obtain ⟨m, hm, hk⟩ := Lib.ctzFrom_spec 64 s (Nat.pos_of_ne_zero h0) hs
 have hc : Lib.ctz 64 s = Lib.ctzFrom 64 s := by unfold Lib.ctz; rw [if_neg h0]
 rw [<- hc] at hm hk
 obtain ⟨k, hk'⟩ : ∃ k, k = Lib.ctz 64 s := ⟨_, rfl⟩
 rw [<- hk'] at hm hk ⊢
 clear hc hk'
 refine ⟨hk, ?_⟩
 have hb : ∀ i, s.testBit i = (decide (k <= i) && (2 * m + 1).testBit (i - k)) := fun i => by rw [hm, Nat.testBit_two_pow_mul]
 have hkk : s.testBit k = true := by rw [hb]; simp [Nat.testBit_zero]
 have hlow : ∀ i, i < k -> s.testBit i = false := fun i hi => by
  rw [hb]
  have : ¬ k <= i := by omega
  simp [this]
 have hoth : ∀ i, i < 64 -> i ≠ k -> (butN s (orL [(k : Int)])).testBit i = s.testBit i := fun i hi hne => by
  rw [butN_bit' _ _ _ (orL_lt _) hi, orL_bit]
  have : ¬ (i : Int) = k := by omega
  simp [this]
 have hsame : (butN s (orL [(k : Int)])).testBit k = false := by
  rw [butN_bit' _ _ _ (orL_lt _) hk, orL_bit]
  simp [hk]
 unfold listN
 obtain ⟨d, hd⟩ : ∃ d, 64 = k + 1 + d := ⟨63 - k, by omega⟩
 have hr : List.range 64 = List.range k ++ ([k] ++ (List.range d).map (k + 1 + ·)) := by
  rw [hd, List.range_add, List.range_succ, List.append_assoc]
 have e1 : (List.range k).filter (fun i => s.testBit i) = [] := List.filter_eq_nil_iff.2 fun i hi => by
  rw [hlow i (List.mem_range.1 hi)]; simp
 have e2 : (List.range k).filter (fun i => (butN s (orL [(k : Int)])).testBit i) = [] := List.filter_eq_nil_iff.2 fun i hi => by
  have := List.mem_range.1 hi
  rw [hoth i (by omega) (by omega), hlow i this]; simp
 have e3 : ((List.range d).map (k + 1 + ·)).filter (fun i => (butN s (orL [(k : Int)])).testBit i) = ((List.range d).map (k + 1 + ·)).filter (fun i => s.testBit i) := List.filter_congr fun i hi => by
  obtain ⟨j, hj, rfl⟩ := List.mem_map.1 hi
  have := List.mem_range.1 hj
  exact hoth _ (by omega) (by omega)
 rw [hr, List.filter_append, List.filter_append, List.filter_append, List.filter_append, e1, e2, e3]
 simp [hkk, hsame]
theorem listN_zero : listN 0 = [] := by decide
end Go.Proofs.YthiknmhkdeicjaaGreatDoor
namespace Go.Proofs.YthiknmhkdeicjaaGreatDoor
abbrev Pt := Int × List UInt8
abbrev En := (Int × Int) × List Pt
structure Tb where
 cs : List (Int × Nat)
 rows : List En
structure Tl where
 data : List UInt8
 parts : List Pt
 id : Int × Int
 ok : Bool
 err : Int
def Tl.e (n : Int) : Tl := ⟨[], [], (0, 0), false, n⟩
structure Ts where
 d : Int
 id : Int × Int
 ps : List Pt
 row : Int
 comp : Int
 b : List UInt8
def RowOk (cs : List (Int × Nat)) (ps : List Pt) : Prop := ps.map (fun p => (p.1, p.2.length)) = cs
structure Tb.Ok (t : Tb) : Prop where
 n : t.rows.length <= 1024
 cn : t.cs.length <= 64
 z : ∀ x ∈ t.cs, x.2 <= 64
 row : ∀ r ∈ t.rows, RowOk t.cs r.2
 cz : ∀ x ∈ t.cs, 0 <= x.1 /\ x.1 < 64
 nd : (t.cs.map (·.1)).Nodup
def pick (ps : List Pt) (c : Int × Nat) : List UInt8 :=
 match ps.find? fun p => decide (p.1 = c.1) with
 | some p => p.2
 | none => List.replicate c.2 0
def picks (ps : List Pt) (cs : List (Int × Nat)) : List Pt := cs.map fun c => (c.1, pick ps c)
def fits (ps : List Pt) (cs : List (Int × Nat)) : Bool := cs.all fun c => decide ((pick ps c).length = c.2)
theorem picks_ok {ps : List Pt} {cs : List (Int × Nat)} (h : fits ps cs = true) : RowOk cs (picks ps cs) := by
 unfold RowOk picks
 rw [List.map_map]
 unfold fits at h
 rw [List.all_eq_true] at h
 conv => rhs; rw [<- List.map_id cs]
 refine List.map_congr_left fun c hc => ?_
 have := of_decide_eq_true (h c hc)
 show (c.1, (pick ps c).length) = c
 rw [this]
def Tb.add (t : Tb) (id : Int × Int) (ps : List Pt) : Tb × Tl :=
 if t.rows.length = 1024 then (t, .e 9)
 else if fits ps t.cs then (⟨t.cs, t.rows ++ [(id, picks ps t.cs)]⟩, .e 0) else (t, .e 7)
def Tb.at_ (t : Tb) (comp : Int) : Option Nat := t.cs.findIdx? fun c => decide (c.1 = comp)
def noEn : En := ((0, 0), [])
def Tb.go (t : Tb) (x : Ts) : Tb × Tl :=
 if x.d < 1 \/ 4 < x.d then t.add x.id x.ps
 else if 0 <= x.row /\ x.row < t.rows.length then
  (if x.d = 3 then (t, { Tl.e 0 with parts := (t.rows.getD x.row.toNat noEn).2 })
  else if x.d = 4 then
   (let last := t.rows.length - 1
    let moved := t.rows.getD last noEn
    (⟨t.cs, (t.rows.set x.row.toNat moved).take last⟩, if x.row.toNat = last then .e 0 else { Tl.e 0 with id := moved.1, ok := true }))
  else match t.at_ x.comp with
   | none => (t, .e 8)
   | some k =>
    let r := t.rows.getD x.row.toNat noEn
    if x.d = 2 then (t, { Tl.e 0 with data := (r.2.getD k (0, [])).2 })
    else if x.b.length = (t.cs.getD k (0, 0)).2 then (⟨t.cs, t.rows.set x.row.toNat (r.1, r.2.set k ((r.2.getD k (0, [])).1, x.b))⟩, .e 0)
    else (t, .e 7))
 else (t, .e 2)
section
variable {t : Tb}
theorem RowOk.len {cs : List (Int × Nat)} {ps : List Pt} (h : RowOk cs ps) : ps.length = cs.length := by
 have := congrArg List.length h
 simpa using this
theorem RowOk.at_ {cs : List (Int × Nat)} {ps : List Pt} (h : RowOk cs ps) {k : Nat} (hk : k < cs.length) : (ps.getD k (0, [])).1 = (cs.getD k (0, 0)).1 /\ (ps.getD k (0, [])).2.length = (cs.getD k (0, 0)).2 := by
 have hl := h.len
 have e : cs.getD k (0, 0) = ((ps.getD k (0, [])).1, (ps.getD k (0, [])).2.length) := by
  rw [<- show _ = cs from h]
  simp [List.getD, List.getElem?_eq_getElem (show k < ps.length by omega)]
 rw [e]
 exact ⟨rfl, rfl⟩
theorem RowOk.set {cs : List (Int × Nat)} {ps : List Pt} (h : RowOk cs ps) {k : Nat} (hk : k < cs.length) {b : List UInt8} (hb : b.length = (cs.getD k (0, 0)).2) : RowOk cs (ps.set k ((ps.getD k (0, [])).1, b)) := by
 have hl := h.len
 unfold RowOk
 rw [List.map_set]
 have e := h.at_ hk
 have : ((ps.getD k (0, [])).1, b.length) = (ps.map fun p => (p.1, p.2.length)).getD k (0, 0) := by
  rw [show _ = cs from h]
  rw [e.1, hb]
 rw [this, show _ = cs from h]
 apply List.ext_getElem (by simp)
 intro j h1 h2
 rw [List.getElem_set]
 split
 ·rename_i e
  subst e
  simp [List.getD, List.getElem?_eq_getElem hk]
 ·rfl
theorem Tb.at_lt {comp : Int} {k : Nat} (h : t.at_ comp = some k) : k < t.cs.length /\ (t.cs.getD k (0, 0)).1 = comp := by
 unfold Tb.at_ at h
 rw [List.findIdx?_eq_some_iff_getElem] at h
 obtain ⟨hk, h1, _⟩ := h
 exact ⟨hk, by rw [List.getD_eq_getElem?_getD, List.getElem?_eq_getElem hk]; exact of_decide_eq_true h1⟩
theorem Tb.Ok.add (h : t.Ok) (id : Int × Int) (ps : List Pt) : (t.add id ps).1.Ok := by
 unfold Tb.add
 split
 ·exact h
 ·split
  ·rename_i h1 h2
   exact ⟨by have := h.n; simp; omega, h.cn, h.z, fun r hr => by
    rcases List.mem_append.1 hr with hr | hr
    ·exact h.row r hr
    ·rw [List.mem_singleton.1 hr]; exact picks_ok h2, h.cz, h.nd⟩
  ·exact h
theorem Tb.Ok.getD (h : t.Ok) {k : Nat} (hk : k < t.rows.length) : RowOk t.cs (t.rows.getD k noEn).2 := by
 rw [List.getD_eq_getElem?_getD, List.getElem?_eq_getElem hk]
 exact h.row _ (List.getElem_mem hk)
theorem Tb.Ok.go (h : t.Ok) (x : Ts) : (t.go x).1.Ok := by
 unfold Tb.go
 split
 ·exact h.add _ _
 ·split
  ·rename_i _ hr
   split
   ·exact h
   ·split
    ·refine ⟨by have := h.n; simp; omega, h.cn, h.z, fun r hr' => ?_, h.cz, h.nd⟩
     rcases List.mem_or_eq_of_mem_set (List.mem_of_mem_take hr') with h1 | h1
     ·exact h.row r h1
     ·rw [h1]; exact h.getD (by omega)
    ·split
     ·exact h
     ·rename_i k hk
      split
      ·exact h
      ·split
       ·rename_i hb
        refine ⟨by have := h.n; simp only [List.length_set]; exact this, h.cn, h.z, fun r hr' => ?_, h.cz, h.nd⟩
        rcases List.mem_or_eq_of_mem_set hr' with h1 | h1
        ·exact h.row r h1
        ·rw [h1]; exact (h.getD (by omega)).set (Tb.at_lt hk).1 hb
       ·exact h
  ·exact h
def Tb.new (m : Nat) (zs : Nat -> Int) (sig : Nat) : Tb := ⟨((listN sig).filter fun (k : Nat) => decide (k < m)).map fun (k : Nat) => ((k : Int), (min (max (zs k) 0) 64).toNat), []⟩
theorem Tb.new_ok (m : Nat) (zs : Nat -> Int) (sig : Nat) : (Tb.new m zs sig).Ok := by
 have hl : (listN sig).length <= 64 := by
  unfold listN
  exact Nat.le_trans (List.length_filter_le _ _) (by simp)
 have hn : (listN sig).Nodup := by
  unfold listN
  exact List.Pairwise.filter _ List.nodup_range
 refine ⟨Nat.zero_le _, ?_, fun x hx => ?_, fun r hr => absurd hr List.not_mem_nil, fun x hx => ?_, ?_⟩
 ·show (((listN sig).filter _).map _).length <= 64
  rw [List.length_map]
  exact Nat.le_trans (List.length_filter_le _ _) hl
 ·obtain ⟨k, _, rfl⟩ := List.mem_map.1 hx
  show (min (max (zs k) 0) 64).toNat <= 64
  omega
 ·obtain ⟨k, hk, rfl⟩ := List.mem_map.1 hx
  have := (mem_listN.1 (List.mem_filter.1 hk).1).1
  exact ⟨by omega, by omega⟩
 ·show ((((listN sig).filter _).map _).map _).Nodup
  rw [List.map_map]
  exact List.Pairwise.map (R := (· ≠ ·)) _ (fun a b h e => h (by have e' : (a : Int) = (b : Int) := e; omega)) (List.Pairwise.filter _ hn)
end
end Go.Proofs.YthiknmhkdeicjaaGreatDoor
namespace Go.Proofs.YthiknmhkdeicjaaGreatDoor
open Go.RowKit
theorem partsT : El Tryz.prog 99 159 (.agg #[.int .i64 0, .slice none 0 0]) 2 32 := ⟨Tryz.underlying99, by kernel_rfl, rfl, by decide⟩
theorem entsT : El Tryz.prog 35 101 (.agg #[.int .i64 0, .int .i64 0, .slice none 0 0]) 3 40 := ⟨Tryz.underlying35, by kernel_rfl, rfl, by decide⟩
structure Rt where
 CA : Option Addr
 cn : Nat
 cc : Nat
 SA : Option Addr
 sn : Nat
 sc : Nat
 RA : Option Addr
 rn : Nat
 rc : Nat
section
variable {K K' : Nat -> Prop} {w w' : World} {d : Rt} {t : Tb}
end
theorem SameIDs_yes {K K' : Nat -> Prop} (A A' : Option Addr) (n c c' : Nat) (xs : List (Int × Int)) (w : World) (h : IdsV K w A n xs) (h' : IdsV K' w A' n xs) (hn : n <= 1000000) :
  Calls Tryz.prog 19 #[.slice A n c, .slice A' n c'] w fun e w' => e = .returned (.bool true) /\ Below w.heap.size w w' := by
 have hl := h.len
 have H := hi_ h
 have H' := hi_ h'
 clear h h'
 go_enter Tryz.func19, Tryz.ntmps19
 go_wp2
 go_loopw [5] (fun iv wr => ∃ j : Nat, j <= n /\ iv = .int .i64 j /\ Below w.heap.size w wr) (fun iv _ => n - (intOf iv).toNat)
 case atStart => exact ⟨0, Nat.zero_le _, rfl, Below.refl _ _⟩
 case round =>
  obtain ⟨j, hj, rfl, hB⟩ := hrel
  by_cases hjn : j < n
  ·obtain ⟨y, hy⟩ : ∃ y, xs[j]? = some y := ⟨_, List.getElem?_eq_getElem (by omega)⟩
   obtain ⟨b, o, hA, hblt, h0, h1⟩ := H.out.cell hy
   obtain ⟨b', o', hA', hblt', h0', h1'⟩ := H'.out.cell hy
   subst hA hA'
   obtain ⟨yi, yg⟩ := y
   simp only at h0 h1 h0' h1'
   have k0 := (hB.cell (p := ⟨b, o + j * 2, none⟩) hblt).trans h0
   have k1 := (hB.cell (p := ⟨b, o + j * 2 + 1, none⟩) hblt).trans h1
   have k0' := (hB.cell (p := ⟨b', o' + j * 2, none⟩) hblt').trans h0'
   have k1' := (hB.cell (p := ⟨b', o' + j * 2 + 1, none⟩) hblt').trans h1'
   clear h0 h1 h0' h1' hy
   go_wp2_with fail
   go_quiet (fail)
   go_wp2
   go_roundw
   case rel => exact ⟨j + 1, hjn, by go_num, below_drewN hB _⟩
   case measure => simp [intOf]; omega
  ·go_wp2
   go_ret
   exact ⟨rfl, hB⟩
end Go.Proofs.YthiknmhkdeicjaaGreatDoor
namespace Go.Proofs.YthiknmhkdeicjaaGreatDoor
open Go.RowKit
theorem VB.sl {K : Nat -> Prop} {w : World} {u : Value} {l : List UInt8} (h : VB K w u l) : ∃ A m c, u = .slice A m c /\ Rd w A m l := by obtain ⟨A, m, c, e, hr, _⟩ := h; exact ⟨A, m, c, e, hr⟩
theorem Rd.drewN {w : World} {A : Option Addr} {n : Nat} {l : List UInt8} (h : Rd w A n l) (k : Nat) : Rd (w.drewN k) A n l := h.below (Nat.le_refl _) (below_drewN (Below.refl _ _) k)
set_option maxRecDepth 20000 in
theorem SameParts_yes {K K' : Nat -> Prop} (A A' : Option Addr) (n c c' : Nat) (xs : List Pt) (w : World) (h : PartsV K w A n xs) (h' : PartsV K' w A' n xs) (hn : n <= 1000000) :
  Calls Tryz.prog 47 #[.slice A n c, .slice A' n c'] w fun e w' => e = .returned (.bool true) /\ Below w.heap.size w w' := by
 have hl := h.len
 have H := hi_ h
 have H' := hi_ h'
 clear h h'
 go_enter Tryz.func47, Tryz.ntmps47
 go_wp2
 go_loopw [5] (fun iv wr => ∃ j : Nat, j <= n /\ iv = .int .i64 j /\ Below w.heap.size w wr) (fun iv _ => n - (intOf iv).toNat)
 case atStart => exact ⟨0, Nat.zero_le _, rfl, Below.refl _ _⟩
 case round =>
  obtain ⟨j, hj, rfl, hB⟩ := hrel
  by_cases hjn : j < n
  ·obtain ⟨y, hy⟩ : ∃ y, xs[j]? = some y := ⟨_, List.getElem?_eq_getElem (by omega)⟩
   obtain ⟨b, o, u, hA, _, hblt, h0, h1, hu⟩ := H.out.cell hy
   obtain ⟨b', o', u', hA', _, hblt', h0', h1', hu'⟩ := H'.out.cell hy
   subst hA hA'
   obtain ⟨DA, dm, dc, rfl, hr⟩ := hu.sl
   obtain ⟨DA', dm', dc', rfl, hr'⟩ := hu'.sl
   obtain ⟨yi, yd⟩ := y
   simp only at h0 h0' hr hr'
   have k0 := (hB.cell (p := ⟨b, o + j * 2, none⟩) hblt).trans h0
   have k1 := (hB.cell (p := ⟨b, o + j * 2 + 1, none⟩) hblt).trans h1
   have k0' := (hB.cell (p := ⟨b', o' + j * 2, none⟩) hblt').trans h0'
   have k1' := (hB.cell (p := ⟨b', o' + j * 2 + 1, none⟩) hblt').trans h1'
   have CS : ∀ k, Calls Tryz.prog 15 #[.slice DA dm dc, .slice DA' dm' dc'] (wr.drewN k) fun e w' => e = .returned (.bool true) /\ w' = wr.drewN k := fun k =>
    (Same_yes DA DA' dm dc dm' dc' yd _ ((hr.below (Nat.le_refl _) hB).drewN k) ((hr'.below (Nat.le_refl _) hB).drewN k)).mono fun _ _ ⟨he, hw⟩ => ⟨he, hw.symm⟩
   have CS := hi_ CS
   clear h0 h1 h0' h1' hy hu hu' hr hr'
   go_wp2_with fail
   go_quiet ((go_at_call 15; exact Calls.quiet_of_same (CS.out _)))
   go_wp2
   go_roundw
   case rel => exact ⟨j + 1, hjn, by go_num, below_drewN hB _⟩
   case measure => simp [intOf]; omega
  ·go_wp2
   go_ret
   exact ⟨rfl, hB⟩
end Go.Proofs.YthiknmhkdeicjaaGreatDoor
namespace Go.Proofs.YthiknmhkdeicjaaGreatDoor
open Go.RowKit
set_option maxRecDepth 20000
abbrev stC (GA : Option Addr) (gn gc : Nat) (FA : Option Addr) (fn fc : Nat) (EA : Option Addr) (en ec : Nat) : Array Value := #[.slice GA gn gc, .slice FA fn fc, .slice EA en ec]
structure StV (K : Nat -> Prop) (w : World) (GA : Option Addr) (gn : Nat) (FA : Option Addr) (fn : Nat) (EA : Option Addr) (en : Nat) (gs fs : List Int) (es : List En) : Prop where
 g : IRd w GA gn gs
 f : IRd w FA fn fs
 e : EntsV K w EA en es
theorem stT : RT Tryz.prog 37 3 := ⟨⟨_, Tryz.underlying37, rfl⟩, by kernel_rfl⟩
set_option maxHeartbeats 1000000 in
theorem RSameS_yes {K K' : Nat -> Prop} (GA : Option Addr) (gn gc : Nat) (FA : Option Addr) (fn fc : Nat) (EA : Option Addr) (n ec : Nat) (GA' : Option Addr) (gc' : Nat) (FA' : Option Addr) (fc' : Nat) (EA' : Option Addr) (ec' : Nat) (gs fs : List Int) (es : List En) (w : World)
  (h : StV K w GA gn FA fn EA n gs fs es) (h' : StV K' w GA' gn FA' fn EA' n gs fs es) (hgn : gn <= 1000000) (hfn : fn <= 1000000) (hn : n <= 1000000) (hps : ∀ e ∈ es, e.2.length <= 1000000) :
  Calls Tryz.prog 17 #[.agg (stC GA gn gc FA fn fc EA n ec), .agg (stC GA' gn gc' FA' fn fc' EA' n ec')] w fun e w' => e = .returned (.bool true) /\ Below w.heap.size w w' := by
 obtain ⟨w1, hw1⟩ : ∃ w1, w1 = (w.alloc (.cells (stC GA gn gc FA fn fc EA n ec) 37)).alloc (.cells (stC GA' gn gc' FA' fn fc' EA' n ec') 37) := ⟨_, rfl⟩
 have hb1 : Below w.heap.size w w1 := by rw [hw1]; exact ((Below.refl _ _).alloc (Nat.le_refl _) _).alloc (by simp) _
 have r1 : Rec 37 w1 w.heap.size (stC GA gn gc FA fn fc EA n ec) := by rw [hw1]; exact (Rec.new w _ _).under ((Below.refl _ _).alloc (Nat.le_refl _) _)
 have r2 : Rec 37 w1 (w.heap.size + 1) (stC GA' gn gc' FA' fn fc' EA' n ec') := by
  have := Rec.new (w.alloc (.cells (stC GA gn gc FA fn fc EA n ec) 37)) 37 (stC GA' gn gc' FA' fn fc' EA' n ec')
  rw [World.size_alloc] at this
  rw [hw1]; exact this
 have C1 := hi_ (SameList_yes w1 GA GA' gn gc gc' gs (h.g.below hb1) (h'.g.below hb1) hgn)
 have C2 : Hid (∀ W, Below w1.heap.size w1 W -> Calls Tryz.prog 46 #[.slice FA fn fc, .slice FA' fn fc'] W fun e w' => e = .returned (.bool true) /\ Below W.heap.size W w') := hi_ (fun W hW => SameList_yes W FA FA' fn fc fc' fs ((h.f.below hb1).below hW) ((h'.f.below hb1).below hW) hfn)
 have k0 := r1.at_ 0
 have k0' := r2.at_ 0
 have H := hi_ (And.intro h.e (And.intro h'.e hps))
 have hl := h.e.len
 have HR := hi_ (And.intro r1 (And.intro r2 hb1))
 clear h h' hb1 r1 r2 hps
 go_enter Tryz.func17, Tryz.ntmps17
 go_wp2_with (first
  | (rw [<- hw1]; clear hw1)
  | (have _t := C1; go_at_call 46; refine C1.out.mono ?_; rintro e w2 ⟨rfl, hb2⟩; have k1 := (HR.out.1.under hb2).at_ 1; have k1' := (HR.out.2.1.under hb2).at_ 1; have D2 := hi_ (C2.out w2 hb2); have HB2 := hi_ hb2; clear hb2 C1 k0 k0')
  | (have _t := D2; go_at_call 46; refine D2.out.mono ?_; rintro e w3 ⟨rfl, hb3⟩; have hb13 := HB2.out.trans (hb3.mono HB2.out.size); have k2 := (HR.out.1.under hb13).at_ 2; have k2' := (HR.out.2.1.under hb13).at_ 2; have HB3 := hi_ hb13; clear hb3 hb13 D2 k1 k1'))
 clear k2 k2'
 go_loopw [5] (fun iv wr => ∃ j : Nat, j <= n /\ iv = .int .i64 j /\ Below w1.heap.size w1 wr) (fun iv _ => n - (intOf iv).toNat)
 case atStart => exact ⟨0, Nat.zero_le _, rfl, HB3.out⟩
 case round =>
  obtain ⟨j, hj, rfl, hB⟩ := hrel
  have HBw := hi_ (HR.out.2.2.trans (hB.mono HR.out.2.2.size))
  have k2 := (HR.out.1.under hB).at_ 2
  by_cases hjn : j < n
  ·have k2' := (HR.out.2.1.under hB).at_ 2
   obtain ⟨y, hy⟩ : ∃ y, es[j]? = some y := ⟨_, List.getElem?_eq_getElem (by omega)⟩
   obtain ⟨b, o, PA, pn, pc, hA, _, hblt, h0, h1, h2, hp⟩ := H.out.1.cell hy
   obtain ⟨b', o', PA', pn', pc', hA', _, hblt', h0', h1', h2', hp'⟩ := H.out.2.1.cell hy
   subst hA hA'
   have hyl := H.out.2.2 y (List.mem_of_getElem? hy)
   obtain ⟨⟨yi, yg⟩, yp⟩ := y
   simp only at h0 h1 h2 h0' h1' h2' hp hp' hyl
   have hpn := hp.len
   have hpn' := hp'.len
   have e1 : pn' = pn := hpn'.symm.trans hpn
   subst e1
   have HX : Hid (∀ W, Below wr.heap.size wr W -> ((W.cell? ⟨w.heap.size, 2, none⟩ = some (.slice (some ⟨b, o, none⟩) n ec) /\ W.cell? ⟨w.heap.size + 1, 2, none⟩ = some (.slice (some ⟨b', o', none⟩) n ec')) /\ (W.cell? ⟨b, o + j * 3, none⟩ = some (.int .i64 yi) /\ W.cell? ⟨b, o + j * 3 + 1, none⟩ = some (.int .i64 yg) /\ W.cell? ⟨b, o + j * 3 + 2, none⟩ = some (.slice PA pn' pc)) /\ W.cell? ⟨b', o' + j * 3, none⟩ = some (.int .i64 yi) /\ W.cell? ⟨b', o' + j * 3 + 1, none⟩ = some (.int .i64 yg) /\ W.cell? ⟨b', o' + j * 3 + 2, none⟩ = some (.slice PA' pn' pc'))) := hi_ (fun W hW => by
    have hwW := HBw.out.trans (hW.mono HBw.out.size)
    exact ⟨⟨(World.cell?_of_block (hW.block _ (World.block_lt_of_cell? wr _ k2))).trans k2, (World.cell?_of_block (hW.block _ (World.block_lt_of_cell? wr _ k2'))).trans k2'⟩,
     ⟨(hwW.cell (p := ⟨b, o + j * 3, none⟩) hblt).trans h0, (hwW.cell (p := ⟨b, o + j * 3 + 1, none⟩) hblt).trans h1, (hwW.cell (p := ⟨b, o + j * 3 + 2, none⟩) hblt).trans h2⟩,
     (hwW.cell (p := ⟨b', o' + j * 3, none⟩) hblt').trans h0', (hwW.cell (p := ⟨b', o' + j * 3 + 1, none⟩) hblt').trans h1', (hwW.cell (p := ⟨b', o' + j * 3 + 2, none⟩) hblt').trans h2'⟩)
   have CP : Hid (Calls Tryz.prog 47 #[.slice PA pn' pc, .slice PA' pn' pc'] wr.drew fun e w' => e = .returned (.bool true) /\ Below wr.drew.heap.size wr.drew w') := hi_ (by
    have hwd : Below w.heap.size w wr.drew := HBw.out.drew
    exact SameParts_yes PA PA' pn' pc pc' yp wr.drew (hp.below hwd) (hp'.below hwd) (by omega))
   have s1 := HX.out wr.drew (Below.refl _ _).drew
   have HB := hi_ hB
   clear h0 h1 h2 h0' h1' h2' hp hp' hy hyl hpn hpn' k2' hblt hblt' hB
   go_upto_region 6 with fail
   clear k2
   refine wp_region_noPanic ?_
   refine wp_region_held_drew (S := fun W => ((W.cell? ⟨w.heap.size, 2, none⟩ = some (.slice (some ⟨b, o, none⟩) n ec) /\ W.cell? ⟨w.heap.size + 1, 2, none⟩ = some (.slice (some ⟨b', o', none⟩) n ec')) /\ (W.cell? ⟨b, o + j * 3, none⟩ = some (.int .i64 yi) /\ W.cell? ⟨b, o + j * 3 + 1, none⟩ = some (.int .i64 yg) /\ W.cell? ⟨b, o + j * 3 + 2, none⟩ = some (.slice PA pn' pc)) /\ W.cell? ⟨b', o' + j * 3, none⟩ = some (.int .i64 yi) /\ W.cell? ⟨b', o' + j * 3 + 1, none⟩ = some (.int .i64 yg) /\ W.cell? ⟨b', o' + j * 3 + 2, none⟩ = some (.slice PA' pn' pc'))) (by kernel_rfl) s1 (fun hHeld => ?_)
   refine wpAnyH_take (i := 0) (oi := ⟨some 36, .fieldAddr 37 (.tmp 2) 2, 0, "ref.go:173", #[], none⟩) (v := ?_) rfl (by kernel_rfl) (by kernel_rfl) (by kernel_rfl) (fun _ _ _ h => h) (Or.inl ⟨by rfl, ?_⟩) (by assumption) ?_
   rotate_left 1
   ·intro w' hSw; (try dsimp only at hSw); go_simp; (try with_reducible rfl)
   simp only [Act.put, sA_, sB_, sC_]
   refine wpAnyH_take (i := 1) (oi := ⟨some 37, .load 35 (.tmp 36), 35, "ref.go:173", #[⟨0, .data⟩], none⟩) (v := ?_) rfl (by kernel_rfl) (by kernel_rfl) (by kernel_rfl) (fun _ _ _ h => h) (Or.inl ⟨by rfl, ?_⟩) (by assumption) ?_
   rotate_left 1
   ·intro w' hSw; (try dsimp only at hSw); go_simp; (try with_reducible rfl)
   simp only [Act.put, sA_, sB_, sC_]
   refine wpAnyH_take (i := 2) (oi := ⟨some 38, .move (.tmp 5), 3, "ref.go:173", #[], none⟩) (v := ?_) rfl (by kernel_rfl) (by kernel_rfl) (by kernel_rfl) (fun _ _ _ h => h) (Or.inl ⟨by rfl, ?_⟩) (by assumption) ?_
   rotate_left 1
   ·intro w' hSw; (try dsimp only at hSw); go_simp; (try with_reducible rfl)
   simp only [Act.put, sA_, sB_, sC_]
   refine wpAnyH_take (i := 3) (oi := ⟨some 39, .indexAddr 35 (.tmp 37) (.tmp 38), 0, "ref.go:173", #[⟨1, .data⟩, ⟨2, .data⟩], none⟩) (v := ?_) rfl (by kernel_rfl) (by kernel_rfl) (by kernel_rfl) (fun _ _ _ h => h) (Or.inl ⟨by rfl, ?_⟩) (by assumption) ?_
   rotate_left 1
   ·intro w' hSw; (try dsimp only at hSw); go_simp; (try with_reducible rfl)
   simp only [Act.put, sA_, sB_, sC_]
   refine wpAnyH_take (i := 4) (oi := ⟨some 40, .fieldAddr 101 (.tmp 39) 0, 0, "ref.go:173", #[⟨3, .data⟩], none⟩) (v := ?_) rfl (by kernel_rfl) (by kernel_rfl) (by kernel_rfl) (fun _ _ _ h => h) (Or.inl ⟨by rfl, ?_⟩) (by assumption) ?_
   rotate_left 1
   ·intro w' hSw; (try dsimp only at hSw); go_simp; (try with_reducible rfl)
   simp only [Act.put, sA_, sB_, sC_]
   refine wpAnyH_take (i := 5) (oi := ⟨some 41, .load 39 (.tmp 40), 39, "ref.go:173", #[⟨4, .data⟩], none⟩) (v := ?_) rfl (by kernel_rfl) (by kernel_rfl) (by kernel_rfl) (fun _ _ _ h => h) (Or.inl ⟨by rfl, ?_⟩) (by assumption) ?_
   rotate_left 1
   ·intro w' hSw; (try dsimp only at hSw); go_simp; (try with_reducible rfl)
   simp only [Act.put, sA_, sB_, sC_]
   refine wpAnyH_take (i := 6) (oi := ⟨some 42, .fieldAddr 37 (.tmp 3) 2, 0, "ref.go:173", #[], none⟩) (v := ?_) rfl (by kernel_rfl) (by kernel_rfl) (by kernel_rfl) (fun _ _ _ h => h) (Or.inl ⟨by rfl, ?_⟩) (by assumption) ?_
   rotate_left 1
   ·intro w' hSw; (try dsimp only at hSw); go_simp; (try with_reducible rfl)
   simp only [Act.put, sA_, sB_, sC_]
   refine wpAnyH_take (i := 7) (oi := ⟨some 43, .load 35 (.tmp 42), 35, "ref.go:173", #[⟨6, .data⟩], none⟩) (v := ?_) rfl (by kernel_rfl) (by kernel_rfl) (by kernel_rfl) (fun _ _ _ h => h) (Or.inl ⟨by rfl, ?_⟩) (by assumption) ?_
   rotate_left 1
   ·intro w' hSw; (try dsimp only at hSw); go_simp; (try with_reducible rfl)
   simp only [Act.put, sA_, sB_, sC_]
   refine wpAnyH_take (i := 8) (oi := ⟨some 44, .move (.tmp 5), 3, "ref.go:173", #[], none⟩) (v := ?_) rfl (by kernel_rfl) (by kernel_rfl) (by kernel_rfl) (fun _ _ _ h => h) (Or.inl ⟨by rfl, ?_⟩) (by assumption) ?_
   rotate_left 1
   ·intro w' hSw; (try dsimp only at hSw); go_simp; (try with_reducible rfl)
   simp only [Act.put, sA_, sB_, sC_]
   refine wpAnyH_take (i := 9) (oi := ⟨some 45, .indexAddr 35 (.tmp 43) (.tmp 44), 0, "ref.go:173", #[⟨7, .data⟩, ⟨8, .data⟩], none⟩) (v := ?_) rfl (by kernel_rfl) (by kernel_rfl) (by kernel_rfl) (fun _ _ _ h => h) (Or.inl ⟨by rfl, ?_⟩) (by assumption) ?_
   rotate_left 1
   ·intro w' hSw; (try dsimp only at hSw); go_simp; (try with_reducible rfl)
   simp only [Act.put, sA_, sB_, sC_]
   refine wpAnyH_take (i := 10) (oi := ⟨some 46, .fieldAddr 101 (.tmp 45) 0, 0, "ref.go:173", #[⟨9, .data⟩], none⟩) (v := ?_) rfl (by kernel_rfl) (by kernel_rfl) (by kernel_rfl) (fun _ _ _ h => h) (Or.inl ⟨by rfl, ?_⟩) (by assumption) ?_
   rotate_left 1
   ·intro w' hSw; (try dsimp only at hSw); go_simp; (try with_reducible rfl)
   simp only [Act.put, sA_, sB_, sC_]
   refine wpAnyH_take (i := 11) (oi := ⟨some 47, .load 39 (.tmp 46), 39, "ref.go:173", #[⟨10, .data⟩], none⟩) (v := ?_) rfl (by kernel_rfl) (by kernel_rfl) (by kernel_rfl) (fun _ _ _ h => h) (Or.inl ⟨by rfl, ?_⟩) (by assumption) ?_
   rotate_left 1
   ·intro w' hSw; (try dsimp only at hSw); go_simp; (try with_reducible rfl)
   simp only [Act.put, sA_, sB_, sC_]
   refine wpAnyH_take (i := 12) (oi := ⟨some 48, .binOp .neq 39 (.tmp 41) (.tmp 47) 39, 4, "ref.go:173", #[⟨5, .data⟩, ⟨11, .data⟩], none⟩) (v := ?_) rfl (by kernel_rfl) (by kernel_rfl) (by kernel_rfl) (fun _ _ _ h => h) (Or.inl ⟨by rfl, ?_⟩) (by assumption) ?_
   rotate_left 1
   ·intro w' hSw; (try dsimp only at hSw); go_simp; (try with_reducible rfl)
   simp only [Act.put, sA_, sB_, sC_]
   refine wpAnyH_take (i := 13) (oi := ⟨some 49, .move (.tmp 48), 4, "ref.go:173", #[⟨12, .data⟩], none⟩) (v := ?_) rfl (by kernel_rfl) (by kernel_rfl) (by kernel_rfl) (fun _ _ _ h => h) (Or.inl ⟨by rfl, ?_⟩) (by assumption) ?_
   rotate_left 1
   ·intro w' hSw; (try dsimp only at hSw); go_simp; (try with_reducible rfl)
   simp only [Act.put, sA_, sB_, sC_]
   refine wpAnyH_take (i := 14) (oi := ⟨some 50, .fieldAddr 37 (.tmp 2) 2, 0, "ref.go:173", #[⟨13, .guard⟩], some (13, false)⟩) (v := ?_) rfl (by kernel_rfl) (by kernel_rfl) (by kernel_rfl) (fun _ _ _ h => h) (Or.inl ⟨by rfl, ?_⟩) (by assumption) ?_
   rotate_left 1
   ·intro w' hSw; (try dsimp only at hSw); go_simp; (try with_reducible rfl)
   simp only [Act.put, sA_, sB_, sC_]
   refine wpAnyH_take (i := 15) (oi := ⟨some 51, .load 35 (.tmp 50), 35, "ref.go:173", #[⟨14, .data⟩, ⟨13, .guard⟩], some (13, false)⟩) (v := ?_) rfl (by kernel_rfl) (by kernel_rfl) (by kernel_rfl) (fun _ _ _ h => h) (Or.inl ⟨by rfl, ?_⟩) (by assumption) ?_
   rotate_left 1
   ·intro w' hSw; (try dsimp only at hSw); go_simp; (try with_reducible rfl)
   simp only [Act.put, sA_, sB_, sC_]
   refine wpAnyH_take (i := 16) (oi := ⟨some 52, .move (.tmp 5), 3, "ref.go:173", #[⟨13, .guard⟩], some (13, false)⟩) (v := ?_) rfl (by kernel_rfl) (by kernel_rfl) (by kernel_rfl) (fun _ _ _ h => h) (Or.inl ⟨by rfl, ?_⟩) (by assumption) ?_
   rotate_left 1
   ·intro w' hSw; (try dsimp only at hSw); go_simp; (try with_reducible rfl)
   simp only [Act.put, sA_, sB_, sC_]
   refine wpAnyH_take (i := 17) (oi := ⟨some 53, .indexAddr 35 (.tmp 51) (.tmp 52), 0, "ref.go:173", #[⟨15, .data⟩, ⟨16, .data⟩, ⟨13, .guard⟩], some (13, false)⟩) (v := ?_) rfl (by kernel_rfl) (by kernel_rfl) (by kernel_rfl) (fun _ _ _ h => h) (Or.inl ⟨by rfl, ?_⟩) (by assumption) ?_
   rotate_left 1
   ·intro w' hSw; (try dsimp only at hSw); go_simp; (try with_reducible rfl)
   simp only [Act.put, sA_, sB_, sC_]
   refine wpAnyH_take (i := 18) (oi := ⟨some 54, .fieldAddr 101 (.tmp 53) 1, 0, "ref.go:173", #[⟨17, .data⟩, ⟨13, .guard⟩], some (13, false)⟩) (v := ?_) rfl (by kernel_rfl) (by kernel_rfl) (by kernel_rfl) (fun _ _ _ h => h) (Or.inl ⟨by rfl, ?_⟩) (by assumption) ?_
   rotate_left 1
   ·intro w' hSw; (try dsimp only at hSw); go_simp; (try with_reducible rfl)
   simp only [Act.put, sA_, sB_, sC_]
   refine wpAnyH_take (i := 19) (oi := ⟨some 55, .load 99 (.tmp 54), 99, "ref.go:173", #[⟨18, .data⟩, ⟨13, .guard⟩], some (13, false)⟩) (v := ?_) rfl (by kernel_rfl) (by kernel_rfl) (by kernel_rfl) (fun _ _ _ h => h) (Or.inl ⟨by rfl, ?_⟩) (by assumption) ?_
   rotate_left 1
   ·intro w' hSw; (try dsimp only at hSw); go_simp; (try with_reducible rfl)
   simp only [Act.put, sA_, sB_, sC_]
   refine wpAnyH_take (i := 20) (oi := ⟨some 56, .fieldAddr 37 (.tmp 3) 2, 0, "ref.go:173", #[⟨13, .guard⟩], some (13, false)⟩) (v := ?_) rfl (by kernel_rfl) (by kernel_rfl) (by kernel_rfl) (fun _ _ _ h => h) (Or.inl ⟨by rfl, ?_⟩) (by assumption) ?_
   rotate_left 1
   ·intro w' hSw; (try dsimp only at hSw); go_simp; (try with_reducible rfl)
   simp only [Act.put, sA_, sB_, sC_]
   refine wpAnyH_take (i := 21) (oi := ⟨some 57, .load 35 (.tmp 56), 35, "ref.go:173", #[⟨20, .data⟩, ⟨13, .guard⟩], some (13, false)⟩) (v := ?_) rfl (by kernel_rfl) (by kernel_rfl) (by kernel_rfl) (fun _ _ _ h => h) (Or.inl ⟨by rfl, ?_⟩) (by assumption) ?_
   rotate_left 1
   ·intro w' hSw; (try dsimp only at hSw); go_simp; (try with_reducible rfl)
   simp only [Act.put, sA_, sB_, sC_]
   refine wpAnyH_take (i := 22) (oi := ⟨some 58, .move (.tmp 5), 3, "ref.go:173", #[⟨13, .guard⟩], some (13, false)⟩) (v := ?_) rfl (by kernel_rfl) (by kernel_rfl) (by kernel_rfl) (fun _ _ _ h => h) (Or.inl ⟨by rfl, ?_⟩) (by assumption) ?_
   rotate_left 1
   ·intro w' hSw; (try dsimp only at hSw); go_simp; (try with_reducible rfl)
   simp only [Act.put, sA_, sB_, sC_]
   refine wpAnyH_take (i := 23) (oi := ⟨some 59, .indexAddr 35 (.tmp 57) (.tmp 58), 0, "ref.go:173", #[⟨21, .data⟩, ⟨22, .data⟩, ⟨13, .guard⟩], some (13, false)⟩) (v := ?_) rfl (by kernel_rfl) (by kernel_rfl) (by kernel_rfl) (fun _ _ _ h => h) (Or.inl ⟨by rfl, ?_⟩) (by assumption) ?_
   rotate_left 1
   ·intro w' hSw; (try dsimp only at hSw); go_simp; (try with_reducible rfl)
   simp only [Act.put, sA_, sB_, sC_]
   refine wpAnyH_take (i := 24) (oi := ⟨some 60, .fieldAddr 101 (.tmp 59) 1, 0, "ref.go:173", #[⟨23, .data⟩, ⟨13, .guard⟩], some (13, false)⟩) (v := ?_) rfl (by kernel_rfl) (by kernel_rfl) (by kernel_rfl) (fun _ _ _ h => h) (Or.inl ⟨by rfl, ?_⟩) (by assumption) ?_
   rotate_left 1
   ·intro w' hSw; (try dsimp only at hSw); go_simp; (try with_reducible rfl)
   simp only [Act.put, sA_, sB_, sC_]
   refine wpAnyH_take (i := 25) (oi := ⟨some 61, .load 99 (.tmp 60), 99, "ref.go:173", #[⟨24, .data⟩, ⟨13, .guard⟩], some (13, false)⟩) (v := ?_) rfl (by kernel_rfl) (by kernel_rfl) (by kernel_rfl) (fun _ _ _ h => h) (Or.inl ⟨by rfl, ?_⟩) (by assumption) ?_
   rotate_left 1
   ·intro w' hSw; (try dsimp only at hSw); go_simp; (try with_reducible rfl)
   simp only [Act.put, sA_, sB_, sC_]
   refine wpAnyH_ready (rs := [26]) (by kernel_rfl) (by simp) ?_
   refine AllReadyH.cons (o := ⟨some 62, .call { callee := .value (.func 47), args := #[.tmp 55, .tmp 61], argTypes := #[99, 99] }, 4, "ref.go:173", #[⟨19, .data⟩, ⟨25, .data⟩, ⟨13, .chain⟩, ⟨13, .guard⟩], some (13, false)⟩) rfl (fun K' hK => ?_) AllReadyH.nil
   go_simp
   go_at_call 47; refine CP.out.mono ?_; rintro e w5 ⟨rfl, hb5⟩
   have hb5' : Below wr.heap.size wr w5 := (show Below wr.heap.size wr wr.drew from (Below.refl _ _).drew).trans hb5
   have s2 := HX.out w5 hb5'
   have HB5 := hi_ hb5'
   clear hb5 hb5'
   refine hK.out _ _ s2 (fun hHeld => ?_)
   clear hK K'
   try simp only [Act.put, sA_, sB_, sC_]
   refine wpAnyH_take (i := 27) (oi := ⟨some 63, .unOp .not 4 (.tmp 62), 4, "ref.go:173", #[⟨26, .data⟩, ⟨13, .guard⟩], some (13, false)⟩) (v := ?_) rfl (by kernel_rfl) (by kernel_rfl) (by kernel_rfl) (fun _ _ _ h => h) (Or.inl ⟨by rfl, ?_⟩) (by assumption) ?_
   rotate_left 1
   ·intro w' hSw; (try dsimp only at hSw); go_simp; (try with_reducible rfl)
   simp only [Act.put, sA_, sB_, sC_]
   refine wpAnyH_take (i := 28) (oi := ⟨some 64, .pick (.tmp 49) (.const (.bool true)) (.tmp 63), 4, "ref.go:173", #[⟨13, .data⟩, ⟨27, .data⟩], none⟩) (v := ?_) rfl (by kernel_rfl) (by kernel_rfl) (by kernel_rfl) (fun _ _ _ h => h) (Or.inl ⟨by rfl, ?_⟩) (by assumption) ?_
   rotate_left 1
   ·intro w' hSw; (try dsimp only at hSw); go_simp; (try with_reducible rfl)
   simp only [Act.put, sA_, sB_, sC_]
   refine wpAnyH_done (by kernel_rfl) ?_ _
   refine NoPanic.normal ?_
   clear hHeld s1 s2
   go_wp2
   go_roundw
   case rel => exact ⟨j + 1, hjn, by go_num, HB.out.trans (HB5.out.mono HB.out.size)⟩
   case measure => simp [intOf]; omega
  ·go_wp2
   go_ret
   exact ⟨rfl, HBw.out⟩
end Go.Proofs.YthiknmhkdeicjaaGreatDoor
namespace Go.Proofs.YthiknmhkdeicjaaGreatDoor
structure Es where
 ns : NS
 ents : List En
def ePlace (l : List En) (id : Int × Int) : Option Nat := l.findIdx? fun e => decide (e.1 = id)
def eIns (e : En) : List En -> List En
 | [] => [e]
 | x :: l => if e.1.1 < x.1.1 then e :: x :: l else x :: eIns e l
def pAt (l : List Pt) (k : Int) : Option Nat := l.findIdx? fun p => decide (p.1 = k)
def pSet (k : Int) (b : List UInt8) : Bool -> List Pt -> List Pt
 | d, [] => if d = true then [] else [(k, b)]
 | d, x :: l => (if d = false /\ k <= x.1 then [(k, b)] else []) ++ (if x.1 = k then [] else [x]) ++ pSet k b (d || decide (k <= x.1)) l
def Es.spawn (s : Es) : Es × (Int × Int) × Int :=
 if s.ns.take.2.2 = 0 then (⟨s.ns.take.1, eIns (s.ns.take.2.1, []) s.ents⟩, s.ns.take.2.1, 0) else (s, (0, 0), s.ns.take.2.2)
def Es.despawn (s : Es) (id : Int × Int) : Es × Int :=
 match ePlace s.ents id with
 | none => (s, 5)
 | some i => (⟨(s.ns.give id.1 id.2).1, s.ents.eraseIdx i⟩, 0)
abbrev Szs := List Nat
def szAt (z : Szs) (k : Int) : Option Nat := if 0 <= k /\ k < z.length then some (z.getD k.toNat 0) else none
def Es.set (s : Es) (z : Szs) (id : Int × Int) (k : Int) (b : List UInt8) : Es × Int :=
 match ePlace s.ents id with
 | none => (s, 5)
 | some i => match szAt z k with
  | none => (s, 6)
  | some n => if b.length = n then (⟨s.ns, s.ents.set i (id, pSet k b false (s.ents.getD i noEn).2)⟩, 0) else (s, 7)
def Es.remove (s : Es) (z : Szs) (id : Int × Int) (k : Int) : Es × Int :=
 match ePlace s.ents id with
 | none => (s, 5)
 | some i => match szAt z k with
  | none => (s, 6)
  | some _ => match pAt (s.ents.getD i noEn).2 k with
   | none => (s, 8)
   | some j => (⟨s.ns, s.ents.set i (id, (s.ents.getD i noEn).2.eraseIdx j)⟩, 0)
def Es.get (s : Es) (z : Szs) (id : Int × Int) (k : Int) : List UInt8 × Int :=
 match ePlace s.ents id with
 | none => ([], 5)
 | some i => match szAt z k with
  | none => ([], 6)
  | some _ => match pAt (s.ents.getD i noEn).2 k with
   | none => ([], 8)
   | some j => (((s.ents.getD i noEn).2.getD j (0, [])).2, 0)
structure Esp where
 d : Int
 id : Int × Int
 k : Int
 b : List UInt8
def Es.go (s : Es) (z : Szs) (x : Esp) : Es × (Int × Int) × List UInt8 × Int :=
 if x.d = 1 then ((s.despawn x.id).1, (0, 0), [], (s.despawn x.id).2)
 else if x.d = 2 then ((s.set z x.id x.k x.b).1, (0, 0), [], (s.set z x.id x.k x.b).2)
 else if x.d = 3 then ((s.remove z x.id x.k).1, (0, 0), [], (s.remove z x.id x.k).2)
 else if x.d = 4 then (s, (0, 0), (s.get z x.id x.k).1, (s.get z x.id x.k).2)
 else (s.spawn.1, s.spawn.2.1, [], s.spawn.2.2)
structure POk (z : Szs) (l : List Pt) : Prop where
 up : l.Pairwise fun a b => a.1 < b.1
 sz : ∀ p ∈ l, szAt z p.1 = some p.2.length
structure Es.Ok (z : Szs) (s : Es) : Prop where
 ns : s.ns.Ok
 up : s.ents.Pairwise fun a b => a.1.1 < b.1.1
 on : ∀ e ∈ s.ents, s.ns.alive e.1.1 e.1.2 = true
 all : ∀ k, s.ns.live k = true -> ∃ e ∈ s.ents, e.1.1 = k
 parts : ∀ e ∈ s.ents, POk z e.2
theorem eIns_mem {e : En} : ∀ {l : List En} {x : En}, x ∈ eIns e l ↔ x = e \/ x ∈ l
 | [], x => by simp [eIns]
 | y :: l, x => by
  unfold eIns
  split
  ·simp
  ·simp only [List.mem_cons, eIns_mem (l := l)]
   constructor
   ·rintro (h | h | h)
    ·exact .inr (.inl h)
    ·exact .inl h
    ·exact .inr (.inr h)
   ·rintro (h | h | h)
    ·exact .inr (.inl h)
    ·exact .inl h
    ·exact .inr (.inr h)
theorem eIns_up {e : En} : ∀ {l : List En}, l.Pairwise (fun a b => a.1.1 < b.1.1) -> (∀ x ∈ l, x.1.1 ≠ e.1.1) -> (eIns e l).Pairwise (fun a b => a.1.1 < b.1.1)
 | [], _, _ => by simp [eIns]
 | y :: l, h, hne => by
  obtain ⟨h1, h2⟩ := List.pairwise_cons.1 h
  unfold eIns
  split
  ·rename_i hlt
   refine List.pairwise_cons.2 ⟨fun a ha => ?_, h⟩
   rcases List.mem_cons.1 ha with rfl | ha
   ·exact hlt
   ·exact Int.lt_trans hlt (h1 a ha)
  ·rename_i hnl
   have hy := hne y List.mem_cons_self
   refine List.pairwise_cons.2 ⟨fun a ha => ?_, eIns_up h2 (fun x hx => hne x (List.mem_cons_of_mem _ hx))⟩
   rcases eIns_mem.1 ha with rfl | ha
   ·omega
   ·exact h1 a ha
theorem ePlace_some {l : List En} {id : Int × Int} {i : Nat} (h : ePlace l id = some i) : ∃ hi : i < l.length, l[i].1 = id := by
 unfold ePlace at h
 rw [List.findIdx?_eq_some_iff_getElem] at h
 obtain ⟨hi, h1, _⟩ := h
 exact ⟨hi, of_decide_eq_true h1⟩
theorem ePlace_none {l : List En} {id : Int × Int} (h : ePlace l id = none) : ∀ e ∈ l, e.1 ≠ id := by
 unfold ePlace at h
 rw [List.findIdx?_eq_none_iff] at h
 exact fun e he => of_decide_eq_false (h e he)
theorem pSet_true (k : Int) (b : List UInt8) : ∀ l : List Pt, pSet k b true l = l.filter fun p => decide (p.1 ≠ k)
 | [] => rfl
 | x :: l => by
  unfold pSet
  rw [if_neg (by simp), Bool.true_or, pSet_true k b l]
  by_cases h : x.1 = k <;> simp [h]
theorem pSet_ok {z : Szs} {l : List Pt} (h : POk z l) {k : Int} {b : List UInt8} (hk : szAt z k = some b.length) : POk z (pSet k b false l) := by
 have key : ∀ l : List Pt, l.Pairwise (fun a b => a.1 < b.1) -> (pSet k b false l).Pairwise (fun a b => a.1 < b.1) /\ ∀ p ∈ pSet k b false l, p = (k, b) \/ p ∈ l := by
  intro l
  induction l with
  | nil => intro _; simp [pSet]
  | cons x l ih =>
   intro h
   obtain ⟨h1, h2⟩ := List.pairwise_cons.1 h
   unfold pSet
   by_cases hx : k <= x.1
   ·rw [if_pos ⟨rfl, hx⟩, show (false || decide (k <= x.1)) = true by simp [hx], pSet_true]
    have hf : ∀ p ∈ l.filter (fun p => decide (p.1 ≠ k)), p ∈ l /\ k < p.1 := fun p hp => by
     obtain ⟨hp1, _⟩ := List.mem_filter.1 hp
     have := h1 p hp1
     exact ⟨hp1, by omega⟩
    by_cases e : x.1 = k
    ·rw [if_pos e]
     refine ⟨List.pairwise_cons.2 ⟨fun p hp => (hf p hp).2, h2.filter _⟩, fun p hp => ?_⟩
     rcases List.mem_cons.1 hp with hp | hp
     ·exact .inl hp
     ·exact .inr (List.mem_cons_of_mem _ (hf p hp).1)
    ·rw [if_neg e]
     refine ⟨List.pairwise_cons.2 ⟨fun p hp => ?_, List.pairwise_cons.2 ⟨fun p hp => h1 p (hf p hp).1, h2.filter _⟩⟩, fun p hp => ?_⟩
     ·rcases List.mem_cons.1 hp with hp | hp
      ·rw [hp]; show k < x.1; omega
      ·exact (hf p hp).2
     ·rcases List.mem_cons.1 hp with hp | hp
      ·exact .inl hp
      ·rcases List.mem_cons.1 hp with hp | hp
       ·exact .inr (by rw [hp]; exact List.mem_cons_self)
       ·exact .inr (List.mem_cons_of_mem _ (hf p hp).1)
   ·have e : ¬ x.1 = k := by omega
    rw [if_neg (fun hh => hx hh.2), if_neg e, show (false || decide (k <= x.1)) = false by simp [hx]]
    obtain ⟨i1, i2⟩ := ih h2
    refine ⟨List.pairwise_cons.2 ⟨fun p hp => ?_, i1⟩, fun p hp => ?_⟩
    ·rcases i2 p hp with rfl | hp
     ·show x.1 < k; omega
     ·exact h1 p hp
    ·rcases List.mem_cons.1 hp with hp | hp
     ·exact .inr (by rw [hp]; exact List.mem_cons_self)
     ·rcases i2 p hp with hp | hp
      ·exact .inl hp
      ·exact .inr (List.mem_cons_of_mem _ hp)
 obtain ⟨k1, k2⟩ := key l h.up
 refine ⟨k1, fun p hp => ?_⟩
 rcases k2 p hp with rfl | hp
 ·exact hk
 ·exact h.sz p hp
theorem POk.erase {z : Szs} {l : List Pt} (h : POk z l) (j : Nat) : POk z (l.eraseIdx j) :=
 ⟨h.up.sublist (List.eraseIdx_sublist l j), fun p hp => h.sz p ((List.eraseIdx_sublist l j).subset hp)⟩
end Go.Proofs.YthiknmhkdeicjaaGreatDoor
namespace Go.Proofs.YthiknmhkdeicjaaGreatDoor
open Go.RowKit
def wd (width : Int) : Nat := (min (max width 1) 8).toNat
def cut (k : Nat) (l : List UInt8) : List UInt8 := (List.range k).map fun i => l.getD i 0
end Go.Proofs.YthiknmhkdeicjaaGreatDoor
