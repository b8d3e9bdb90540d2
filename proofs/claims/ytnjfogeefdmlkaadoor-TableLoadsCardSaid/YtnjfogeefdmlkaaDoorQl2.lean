/- RowL, Ints, Rec, Base, Le4s, BitsM, TbM, TbR1 -/
import Derived.Test.YtnjfogeefdmlkaaDoorQl1
import Derived.Deep.MidRow
import Derived.Deep.WholeRow
import Derived.Laws.ResultCell
import Derived.Lib.TrailingZeros
import Derived.BigQuiet
import Derived.Deep.QuietTactic
namespace Go.Proofs.YtnjfogeefdmlkaaDoor
open Go.RowKit

section
variable {α : Type} {z : Nat} {L : List (List α)}
theorem flatg_len (h : ∀ r ∈ L, r.length = z) : L.flatten.length = L.length * z := by
  induction L with
  | nil => simp
  | cons a L ih =>
    rw [List.flatten_cons, List.length_append, h a List.mem_cons_self, ih (fun r hr => h r (List.mem_cons_of_mem _ hr)), List.length_cons, Nat.succ_mul]
    omega
theorem flatg_take (h : ∀ r ∈ L, r.length = z) (k : Nat) : L.flatten.take (k * z) = (L.take k).flatten := by
  induction L generalizing k with
  | nil => simp
  | cons a L ih =>
    cases k with
    | zero => simp
    | succ k =>
      have ha := h a List.mem_cons_self
      rw [List.flatten_cons, List.take_succ_cons, List.flatten_cons, List.take_append, List.take_of_length_le (by rw [ha, Nat.succ_mul]; omega), ha, show (k + 1) * z - z = k * z by rw [Nat.succ_mul]; omega, ih (fun r hr => h r (List.mem_cons_of_mem _ hr))]
theorem flatg_drop (h : ∀ r ∈ L, r.length = z) (k : Nat) : L.flatten.drop (k * z) = (L.drop k).flatten := by
  induction L generalizing k with
  | nil => simp
  | cons a L ih =>
    cases k with
    | zero => simp
    | succ k =>
      have ha := h a List.mem_cons_self
      rw [List.flatten_cons, List.drop_succ_cons, List.drop_append, List.drop_eq_nil_of_le (by rw [ha, Nat.succ_mul]; omega), ha, show (k + 1) * z - z = k * z by rw [Nat.succ_mul]; omega, ih (fun r hr => h r (List.mem_cons_of_mem _ hr)), List.nil_append]
/-- One cell of one element. -/
theorem flatg_get (h : ∀ r ∈ L, r.length = z) {k i : Nat} {r : List α} (hk : L[k]? = some r) (hi : i < z) : L.flatten[k * z + i]? = r[i]? := by
  have hlt := (List.getElem?_eq_some_iff.1 hk).1
  have he := (List.getElem?_eq_some_iff.1 hk).2
  have hr : r.length = z := he ▸ h _ (List.getElem_mem hlt)
  rw [← List.getElem?_drop, flatg_drop h, List.drop_eq_getElem_cons hlt, he, List.flatten_cons, List.getElem?_append_left (by omega)]
theorem flatg_set (h : ∀ r ∈ L, r.length = z) {k i : Nat} {r : List α} (hk : L[k]? = some r) (hi : i < z) (u : α) : L.flatten.set (k * z + i) u = (L.set k (r.set i u)).flatten := by
  have hlt := (List.getElem?_eq_some_iff.1 hk).1
  have he := (List.getElem?_eq_some_iff.1 hk).2
  have hr : r.length = z := he ▸ h _ (List.getElem_mem hlt)
  have e1 : L.flatten = (L.take k).flatten ++ (r ++ (L.drop (k + 1)).flatten) := by
    rw [← List.flatten_cons, ← he, ← List.drop_eq_getElem_cons hlt, ← List.flatten_append, List.take_append_drop]
  have e2 : (L.set k (r.set i u)).flatten = (L.take k).flatten ++ (r.set i u ++ (L.drop (k + 1)).flatten) := by
    rw [List.set_eq_take_append_cons_drop, if_pos hlt, List.flatten_append, List.flatten_cons]
  have hl : (L.take k).flatten.length = k * z := by
    rw [flatg_len (fun x hx => h x (List.mem_of_mem_take hx)), List.length_take, Nat.min_eq_left (by omega)]
  rw [e1, e2, List.set_append_right _ _ (by omega), hl, Nat.add_sub_cancel_left, List.set_append_left _ _ (by omega)]
end

/-- Cells vs: of each of xs sz cells, of which E speaks. -/
def HdL {α : Type} (sz : Nat) (E : α → List Value → Prop) (vs : List Value) (xs : List α) : Prop :=
  ∃ ch : List (List Value), vs = ch.flatten ∧ ch.length = xs.length ∧ (∀ r ∈ ch, r.length = sz) ∧ ∀ (j : Nat) (x : α), xs[j]? = some x → ∃ r, ch[j]? = some r ∧ E x r
section
variable {α : Type} {sz : Nat} {E E' : α → List Value → Prop} {vs : List Value} {xs : List α}
theorem HdL.imp (h : HdL sz E vs xs) (hi : ∀ x r, E x r → E' x r) : HdL sz E' vs xs := by
  obtain ⟨ch, h1, h2, h3, h4⟩ := h
  exact ⟨ch, h1, h2, h3, fun j x hx => by obtain ⟨r, hr, he⟩ := h4 j x hx; exact ⟨r, hr, hi _ _ he⟩⟩
theorem HdL.len (h : HdL sz E vs xs) : vs.length = xs.length * sz := by
  obtain ⟨ch, rfl, h2, h3, _⟩ := h
  rw [flatg_len h3, h2]
theorem HdL.nil (sz : Nat) (E : α → List Value → Prop) : HdL sz E [] [] := ⟨[], rfl, rfl, fun _ h => absurd h List.not_mem_nil, fun j x h => by simp at h⟩
theorem HdL.at_ (h : HdL sz E vs xs) {j : Nat} {x : α} (hj : xs[j]? = some x) : ∃ r, r.length = sz ∧ E x r ∧ ∀ i, i < sz → vs[j * sz + i]? = r[i]? := by
  obtain ⟨ch, rfl, h2, h3, h4⟩ := h
  obtain ⟨r, hr, he⟩ := h4 j x hj
  refine ⟨r, ?_, he, fun i hi => flatg_get h3 hr hi⟩
  obtain ⟨hlt, e⟩ := List.getElem?_eq_some_iff.1 hr
  exact e ▸ h3 _ (List.getElem_mem hlt)
theorem HdL.snoc (h : HdL sz E vs xs) {x : α} {r : List Value} (hr : r.length = sz) (he : E x r) : HdL sz E (vs ++ r) (xs ++ [x]) := by
  obtain ⟨ch, rfl, h2, h3, h4⟩ := h
  refine ⟨ch ++ [r], by simp, by simp [h2], fun q hq => ?_, fun j y hy => ?_⟩
  · rcases List.mem_append.1 hq with h | h
    · exact h3 q h
    · rw [List.mem_singleton.1 h]; exact hr
  · by_cases hj : j < xs.length
    · rw [List.getElem?_append_left hj] at hy
      obtain ⟨q, hq, hE⟩ := h4 j y hy
      exact ⟨q, by rw [List.getElem?_append_left (by omega)]; exact hq, hE⟩
    · have e : j = xs.length := by
        have := (List.getElem?_eq_some_iff.1 hy).1
        simp at this
        omega
      subst e
      simp at hy
      subst hy
      exact ⟨r, by rw [← h2]; simp, he⟩
theorem HdL.take (h : HdL sz E vs xs) (m : Nat) : HdL sz E (vs.take (m * sz)) (xs.take m) := by
  obtain ⟨ch, rfl, h2, h3, h4⟩ := h
  refine ⟨ch.take m, flatg_take h3 m, by simp [h2], fun q hq => h3 q (List.mem_of_mem_take hq), fun j y hy => ?_⟩
  rw [List.getElem?_take] at hy
  split at hy
  · rename_i hjm
    obtain ⟨q, hq, hE⟩ := h4 j y hy
    exact ⟨q, by rw [List.getElem?_take, if_pos hjm]; exact hq, hE⟩
  · cases hy
/-- One cell turned. -/
theorem HdL.set1 (h : HdL sz E vs xs) {k i : Nat} {x y : α} (hk : xs[k]? = some x) (hi : i < sz) (u : Value) (he : ∀ r, r.length = sz → E x r → E y (r.set i u)) : HdL sz E (vs.set (k * sz + i) u) (xs.set k y) := by
  obtain ⟨ch, rfl, h2, h3, h4⟩ := h
  obtain ⟨r, hr, hE⟩ := h4 k x hk
  have hlen : r.length = sz := by
    obtain ⟨hlt, e⟩ := List.getElem?_eq_some_iff.1 hr
    exact e ▸ h3 _ (List.getElem_mem hlt)
  refine ⟨ch.set k (r.set i u), flatg_set h3 hr hi u, by simp [h2], fun q hq => ?_, fun j y' hy => ?_⟩
  · rcases List.mem_or_eq_of_mem_set hq with h | h
    · exact h3 q h
    · rw [h, List.length_set]; exact hlen
  · rw [List.getElem?_set] at hy ⊢
    by_cases hkj : k = j
    · subst hkj
      rw [if_pos rfl] at hy
      split at hy
      · injection hy with hy
        subst hy
        refine ⟨r.set i u, by rw [if_pos rfl, if_pos (by omega)], he r hlen hE⟩
      · cases hy
    · rw [if_neg hkj] at hy
      obtain ⟨q, hq, hE'⟩ := h4 j y' hy
      exact ⟨q, by rw [if_neg hkj]; exact hq, hE'⟩
/-- One element put in another's place. -/
theorem HdL.setx (h : HdL sz E vs xs) {k : Nat} (hk : k < xs.length) {y : α} {r : List Value} (hr : r.length = sz) (he : E y r) : HdL sz E (splice vs (k * sz) r) (xs.set k y) := by
  obtain ⟨ch, rfl, h2, h3, h4⟩ := h
  refine ⟨ch.set k r, ?_, by simp [h2], fun q hq => ?_, fun j y' hy => ?_⟩
  · unfold splice
    rw [hr, show k * sz + sz = (k + 1) * sz by rw [Nat.succ_mul], flatg_take h3, flatg_drop h3, List.set_eq_take_append_cons_drop, if_pos (by omega), List.flatten_append, List.flatten_cons]
  · rcases List.mem_or_eq_of_mem_set hq with h | h
    · exact h3 q h
    · rw [h]; exact hr
  · rw [List.getElem?_set] at hy ⊢
    by_cases hkj : k = j
    · subst hkj
      rw [if_pos rfl, if_pos hk] at hy
      injection hy with hy
      subst hy
      exact ⟨r, by rw [if_pos rfl, if_pos (by omega)], he⟩
    · rw [if_neg hkj] at hy
      obtain ⟨q, hq, hE'⟩ := h4 j y' hy
      exact ⟨q, by rw [if_neg hkj]; exact hq, hE'⟩
theorem HdL.one (h : HdL sz E vs xs) (he : ∀ x r, E x r → ∀ u ∈ r, u.oneCell' = true) : ∀ u ∈ vs, u.oneCell' = true := by
  obtain ⟨ch, rfl, h2, h3, h4⟩ := h
  intro u hu
  obtain ⟨r, hr, hur⟩ := List.mem_flatten.1 hu
  obtain ⟨j, hj, e⟩ := List.getElem_of_mem hr
  obtain ⟨q, hq, hE⟩ := h4 j xs[j] (List.getElem?_eq_getElem (by omega))
  rw [List.getElem?_eq_getElem hj, e] at hq
  injection hq with hq
  exact he _ _ hE u (hq ▸ hur)
end

/-- A slice of elements of sz cells each. -/
def RowsL {α : Type} (sz : Nat) (E : α → List Value → Prop) (K : Nat → Prop) (w : World) (A : Option Addr) (n : Nat) (xs : List α) : Prop := ∃ vs, xs.length = n ∧ VRow K w A n sz vs ∧ HdL sz E vs xs
theorem RowsL.cells {α : Type} {sz : Nat} {E : α → List Value → Prop} {K : Nat → Prop} {w : World} {A : Option Addr} {n : Nat} {xs : List α} (h : RowsL sz E K w A n xs) {j : Nat} {x : α} (hj : xs[j]? = some x) :
    ∃ b o r, A = some ⟨b, o, none⟩ ∧ K b ∧ b < w.heap.size ∧ r.length = sz ∧ E x r ∧ ∀ i u, i < sz → r[i]? = some u → w.cell? ⟨b, o + (j * sz + i), none⟩ = some u := by
  obtain ⟨vs, h1, h2, h3⟩ := h
  have hjl := (List.getElem?_eq_some_iff.1 hj).1
  obtain ⟨r, hr, he, hc⟩ := h3.at_ hj
  obtain ⟨b, o, e, hk, hlt, hcell⟩ := h2.2.2 (by omega)
  exact ⟨b, o, r, e, hk, hlt, hr, he, fun i u hi hu => hcell _ u (by rw [hc i hi]; exact hu)⟩

/-! ### parts, entities -/
/-- A part's cells. -/
def EP (K : Nat → Prop) (w : World) (x : Int × List UInt8) (r : List Value) : Prop := ∃ u, r = [.int .i64 x.1, u] ∧ VB K w u x.2
def PartsV (K : Nat → Prop) (w : World) (A : Option Addr) (n : Nat) (ps : List (Int × List UInt8)) : Prop := RowsL 2 (EP K w) K w A n ps
/-- An entity's cells. -/
def EE (K : Nat → Prop) (w : World) (x : (Int × Int) × List (Int × List UInt8)) (r : List Value) : Prop := ∃ A n c, r = [.int .i64 x.1.1, .int .i64 x.1.2, .slice A n c] ∧ PartsV K w A n x.2
def EntsV (K : Nat → Prop) (w : World) (A : Option Addr) (n : Nat) (xs : List ((Int × Int) × List (Int × List UInt8))) : Prop := RowsL 3 (EE K w) K w A n xs
/-- A slice of numbers. -/
def EI (x : Int) (r : List Value) : Prop := r = [.int .i64 x]
def IntsV (K : Nat → Prop) (w : World) (A : Option Addr) (n : Nat) (xs : List Int) : Prop := RowsL 1 EI K w A n xs
/-- A slice of names. -/
def ED (x : Int × Int) (r : List Value) : Prop := r = [.int .i64 x.1, .int .i64 x.2]
def IdsV (K : Nat → Prop) (w : World) (A : Option Addr) (n : Nat) (xs : List (Int × Int)) : Prop := RowsL 2 ED K w A n xs

section
variable {K K' : Nat → Prop} {w w' : World} {A : Option Addr} {n : Nat}
theorem EP.one {x : Int × List UInt8} {r : List Value} (h : EP K w x r) : ∀ u ∈ r, u.oneCell' = true := by
  obtain ⟨u, rfl, hu⟩ := h
  intro v hv
  simp at hv
  rcases hv with rfl | rfl
  · rfl
  · exact hu.one
theorem EE.one {x : (Int × Int) × List (Int × List UInt8)} {r : List Value} (h : EE K w x r) : ∀ u ∈ r, u.oneCell' = true := by
  obtain ⟨A, n, c, rfl, _⟩ := h
  intro v hv
  simp at hv
  rcases hv with rfl | rfl | rfl <;> rfl
theorem EI.one {x : Int} {r : List Value} (h : EI x r) : ∀ u ∈ r, u.oneCell' = true := by
  unfold EI at h
  subst h
  intro v hv
  simp at hv
  rw [hv]; rfl
theorem ED.one {x : Int × Int} {r : List Value} (h : ED x r) : ∀ u ∈ r, u.oneCell' = true := by
  unfold ED at h
  subst h
  intro v hv
  simp at hv
  rcases hv with rfl | rfl <;> rfl
theorem PartsV.stays {ps : List (Int × List UInt8)} (h : PartsV K w A n ps) (hs : WStays K w w') : PartsV K w' A n ps := by
  obtain ⟨vs, h1, h2, h3⟩ := h
  exact ⟨vs, h1, h2.stays hs, h3.imp fun x r ⟨u, e, hu⟩ => ⟨u, e, hu.stays hs⟩⟩
theorem PartsV.mono {ps : List (Int × List UInt8)} (h : PartsV K w A n ps) (hk : ∀ x, K x → K' x) : PartsV K' w A n ps := by
  obtain ⟨vs, h1, h2, h3⟩ := h
  exact ⟨vs, h1, h2.mono hk, h3.imp fun x r ⟨u, e, hu⟩ => ⟨u, e, hu.mono hk⟩⟩
theorem PartsV.lt {ps : List (Int × List UInt8)} (h : PartsV K w A n ps) : PartsV (fun x => K x ∧ x < w.heap.size) w A n ps := by
  obtain ⟨vs, h1, h2, h3⟩ := h
  exact ⟨vs, h1, h2.lt, h3.imp fun x r ⟨u, e, hu⟩ => ⟨u, e, hu.lt⟩⟩
theorem PartsV.below {ps : List (Int × List UInt8)} (h : PartsV K w A n ps) (hb : Below w.heap.size w w') : PartsV K w' A n ps := (h.lt.stays ⟨hb.size, fun x hx => hb.block x hx.2⟩).mono fun _ hx => hx.1
theorem PartsV.nil (K : Nat → Prop) (w : World) (A : Option Addr) : PartsV K w A 0 [] := ⟨[], rfl, ⟨rfl, fun _ => rfl, fun h => absurd h (Nat.lt_irrefl 0)⟩, HdL.nil _ _⟩
theorem PartsV.len {ps : List (Int × List UInt8)} (h : PartsV K w A n ps) : ps.length = n := by obtain ⟨_, h1, _⟩ := h; exact h1
theorem EntsV.stays {xs : List ((Int × Int) × List (Int × List UInt8))} (h : EntsV K w A n xs) (hs : WStays K w w') : EntsV K w' A n xs := by
  obtain ⟨vs, h1, h2, h3⟩ := h
  exact ⟨vs, h1, h2.stays hs, h3.imp fun x r ⟨A, n, c, e, hu⟩ => ⟨A, n, c, e, hu.stays hs⟩⟩
theorem EntsV.mono {xs : List ((Int × Int) × List (Int × List UInt8))} (h : EntsV K w A n xs) (hk : ∀ x, K x → K' x) : EntsV K' w A n xs := by
  obtain ⟨vs, h1, h2, h3⟩ := h
  exact ⟨vs, h1, h2.mono hk, h3.imp fun x r ⟨A, n, c, e, hu⟩ => ⟨A, n, c, e, hu.mono hk⟩⟩
theorem EntsV.lt {xs : List ((Int × Int) × List (Int × List UInt8))} (h : EntsV K w A n xs) : EntsV (fun x => K x ∧ x < w.heap.size) w A n xs := by
  obtain ⟨vs, h1, h2, h3⟩ := h
  exact ⟨vs, h1, h2.lt, h3.imp fun x r ⟨A, n, c, e, hu⟩ => ⟨A, n, c, e, hu.lt⟩⟩
theorem EntsV.below {xs : List ((Int × Int) × List (Int × List UInt8))} (h : EntsV K w A n xs) (hb : Below w.heap.size w w') : EntsV K w' A n xs := (h.lt.stays ⟨hb.size, fun x hx => hb.block x hx.2⟩).mono fun _ hx => hx.1
theorem EntsV.len {xs : List ((Int × Int) × List (Int × List UInt8))} (h : EntsV K w A n xs) : xs.length = n := by obtain ⟨_, h1, _⟩ := h; exact h1
theorem EntsV.nil (K : Nat → Prop) (w : World) (A : Option Addr) : EntsV K w A 0 [] := ⟨[], rfl, ⟨rfl, fun _ => rfl, fun h => absurd h (Nat.lt_irrefl 0)⟩, HdL.nil _ _⟩
theorem IntsV.stays {xs : List Int} (h : IntsV K w A n xs) (hs : WStays K w w') : IntsV K w' A n xs := by
  obtain ⟨vs, h1, h2, h3⟩ := h
  exact ⟨vs, h1, h2.stays hs, h3⟩
theorem IntsV.mono {xs : List Int} (h : IntsV K w A n xs) (hk : ∀ x, K x → K' x) : IntsV K' w A n xs := by
  obtain ⟨vs, h1, h2, h3⟩ := h
  exact ⟨vs, h1, h2.mono hk, h3⟩
theorem IntsV.below {xs : List Int} (h : IntsV K w A n xs) (hb : Below w.heap.size w w') : IntsV K w' A n xs := by
  obtain ⟨vs, h1, h2, h3⟩ := h
  exact ⟨vs, h1, h2.below hb, h3⟩
theorem IntsV.len {xs : List Int} (h : IntsV K w A n xs) : xs.length = n := by obtain ⟨_, h1, _⟩ := h; exact h1
theorem IntsV.cell {xs : List Int} (h : IntsV K w A n xs) {j : Nat} {x : Int} (hj : xs[j]? = some x) : ∃ b o, A = some ⟨b, o, none⟩ ∧ b < w.heap.size ∧ w.cell? ⟨b, o + j, none⟩ = some (.int .i64 x) := by
  obtain ⟨b, o, r, e, _, hlt, _, hE, hc⟩ := RowsL.cells h hj
  unfold EI at hE
  subst hE
  have := hc 0 _ Nat.one_pos rfl
  rw [Nat.mul_one, Nat.add_zero] at this
  exact ⟨b, o, e, hlt, this⟩
theorem IdsV.stays {xs : List (Int × Int)} (h : IdsV K w A n xs) (hs : WStays K w w') : IdsV K w' A n xs := by
  obtain ⟨vs, h1, h2, h3⟩ := h
  exact ⟨vs, h1, h2.stays hs, h3⟩
theorem IdsV.mono {xs : List (Int × Int)} (h : IdsV K w A n xs) (hk : ∀ x, K x → K' x) : IdsV K' w A n xs := by
  obtain ⟨vs, h1, h2, h3⟩ := h
  exact ⟨vs, h1, h2.mono hk, h3⟩
theorem IdsV.below {xs : List (Int × Int)} (h : IdsV K w A n xs) (hb : Below w.heap.size w w') : IdsV K w' A n xs := by
  obtain ⟨vs, h1, h2, h3⟩ := h
  exact ⟨vs, h1, h2.below hb, h3⟩
theorem IdsV.len {xs : List (Int × Int)} (h : IdsV K w A n xs) : xs.length = n := by obtain ⟨_, h1, _⟩ := h; exact h1
theorem IdsV.cell {xs : List (Int × Int)} (h : IdsV K w A n xs) {j : Nat} {x : Int × Int} (hj : xs[j]? = some x) : ∃ b o, A = some ⟨b, o, none⟩ ∧ b < w.heap.size ∧ w.cell? ⟨b, o + j * 2, none⟩ = some (.int .i64 x.1) ∧ w.cell? ⟨b, o + j * 2 + 1, none⟩ = some (.int .i64 x.2) := by
  obtain ⟨b, o, r, e, _, hlt, _, hE, hc⟩ := RowsL.cells h hj
  unfold ED at hE
  subst hE
  have h0 := hc 0 _ (by decide) rfl
  have h1 := hc 1 _ (by decide) rfl
  rw [Nat.add_zero] at h0
  rw [← Nat.add_assoc] at h1
  exact ⟨b, o, e, hlt, h0, h1⟩
theorem PartsV.cell {ps : List (Int × List UInt8)} (h : PartsV K w A n ps) {j : Nat} {x : Int × List UInt8} (hj : ps[j]? = some x) :
    ∃ b o u, A = some ⟨b, o, none⟩ ∧ K b ∧ b < w.heap.size ∧ w.cell? ⟨b, o + j * 2, none⟩ = some (.int .i64 x.1) ∧ w.cell? ⟨b, o + j * 2 + 1, none⟩ = some u ∧ VB K w u x.2 := by
  obtain ⟨b, o, r, e, hk, hlt, _, ⟨u, hr, hu⟩, hc⟩ := RowsL.cells h hj
  subst hr
  have h0 := hc 0 _ (by decide) rfl
  have h1 := hc 1 _ (by decide) rfl
  rw [Nat.add_zero] at h0
  rw [← Nat.add_assoc] at h1
  exact ⟨b, o, u, e, hk, hlt, h0, h1, hu⟩
theorem EntsV.cell {xs : List ((Int × Int) × List (Int × List UInt8))} (h : EntsV K w A n xs) {j : Nat} {x : (Int × Int) × List (Int × List UInt8)} (hj : xs[j]? = some x) :
    ∃ b o PA pn pc, A = some ⟨b, o, none⟩ ∧ K b ∧ b < w.heap.size ∧ w.cell? ⟨b, o + j * 3, none⟩ = some (.int .i64 x.1.1) ∧ w.cell? ⟨b, o + j * 3 + 1, none⟩ = some (.int .i64 x.1.2) ∧ w.cell? ⟨b, o + j * 3 + 2, none⟩ = some (.slice PA pn pc) ∧ PartsV K w PA pn x.2 := by
  obtain ⟨b, o, r, e, hk, hlt, _, ⟨PA, pn, pc, hr, hu⟩, hc⟩ := RowsL.cells h hj
  subst hr
  have h0 := hc 0 _ (by decide) rfl
  have h1 := hc 1 _ (by decide) rfl
  have h2 := hc 2 _ (by decide) rfl
  rw [Nat.add_zero] at h0
  rw [← Nat.add_assoc] at h1 h2
  exact ⟨b, o, PA, pn, pc, e, hk, hlt, h0, h1, h2, hu⟩
end

/-! ### rows made -/
theorem VRow.new (w : World) (C : Array Value) (e n sz : Nat) (h : C.size = n * sz) : VRow (fun x => w.heap.size ≤ x) (w.alloc (.cells C e)) (some ⟨w.heap.size, 0, none⟩) n sz C.toList :=
  ⟨by simpa using h, (fun e => by cases e), fun _ => ⟨w.heap.size, 0, rfl, Nat.le_refl _, by simp, fun j u hj => by
    rw [Nat.zero_add, cell_of_row _ _ j _ _ _ (heap_alloc_last w _)]
    simpa using hj⟩⟩
theorem HdL.one1 {α : Type} {sz : Nat} {E : α → List Value → Prop} {x : α} {r : List Value} (hr : r.length = sz) (he : E x r) : HdL sz E r [x] := by
  have := (HdL.nil sz E).snoc hr he
  simpa using this
theorem own_rowsL {α : Type} {sz : Nat} {E : α → List Value → Prop} {w : World} {B e n : Nat} {v : Value} {vs : List Value} {xs : List α} (ho : w.ownsRow B e sz v n vs) (h : HdL sz E vs xs) (hn : xs.length = n) :
    ∃ A c, v = .slice A n c ∧ n ≤ c ∧ c ≤ maxLen ∧ RowsL sz E (fun x => B ≤ x ∧ x < w.heap.size) w A n xs := by
  obtain ⟨A, c, e1, h1, h2, h3⟩ := own_vrow ho
  exact ⟨A, c, e1, h1, h2, vs, hn, h3, h⟩
end Go.Proofs.YtnjfogeefdmlkaaDoor
namespace Go.Proofs.YtnjfogeefdmlkaaDoor
open Go.RowKit

theorem intT : El Tryd.prog 37 3 (.int .i64 0) 1 8 := ⟨Tryd.underlying37, by kernel_rfl, rfl, by decide⟩
/-- A slice of ints. -/
def IRd (w : World) (A : Option Addr) (n : Nat) (zs : List Int) : Prop :=
  zs.length = n ∧ (0 < n → ∃ b o, A = some ⟨b, o, none⟩ ∧ b < w.heap.size ∧ ∀ j (_ : j < zs.length), w.cell? ⟨b, o + j, none⟩ = some (.int .i64 (zs.getD j 0)))
theorem IRd.below {w w' : World} {A : Option Addr} {n : Nat} {zs : List Int} (h : IRd w A n zs) (hb : Below w.heap.size w w') : IRd w' A n zs :=
  ⟨h.1, fun hp => by
    obtain ⟨b, o, e, hlt, hc⟩ := h.2 hp
    exact ⟨b, o, e, Nat.lt_of_lt_of_le hlt hb.size, fun j hj => (hb.cell (p := ⟨b, o + j, none⟩) hlt).trans (hc j hj)⟩⟩
theorem IRd.of_own {w : World} {B : Nat} {v : Value} {n : Nat} {zs : List Int} (h : w.ownsRow B 3 1 v n (zs.map (Value.int .i64))) : ∃ A c, v = .slice A n c ∧ IRd w A n zs := by
  have hl : zs.length = n := by have := h.1; simpa using this
  rcases h.2 with ⟨rfl, rfl⟩ | ⟨g, cap, cur, rfl, _, hh, _⟩
  · exact ⟨none, 0, rfl, hl, fun h => absurd h (Nat.lt_irrefl 0)⟩
  · refine ⟨_, cap, rfl, hl, fun _ => ⟨g, 0, rfl, (Array.getElem?_eq_some_iff.1 hh).1, fun j hj => ?_⟩⟩
    have := h.cells (g := g) rfl j (.int .i64 (zs.getD j 0)) (by simp [List.getD, List.getElem?_eq_getElem hj])
    rw [Addr.add_lit] at this
    exact this
/-- What is owned may be read. -/
theorem IRd.own_below {w w' : World} {A : Option Addr} {n : Nat} {zs : List Int} (h : IRd w A n zs) {B : Nat} (hB : w.heap.size ≤ B) (hb : Below B w w') : IRd w' A n zs :=
  ⟨h.1, fun hp => by
    obtain ⟨b, o, e, hlt, hc⟩ := h.2 hp
    exact ⟨b, o, e, by have := hb.size; omega, fun j hj => (hb.cell (p := ⟨b, o + j, none⟩) (by simp; omega)).trans (hc j hj)⟩⟩
theorem IRd.new (w : World) (e : TypeId) (fr : Nat × Nat) (zs : List Int) : IRd (w.alloc (.cells (zs.map (Value.int .i64)).toArray e fr)) (some ⟨w.heap.size, 0, none⟩) zs.length zs :=
  ⟨rfl, fun _ => ⟨w.heap.size, 0, rfl, by simp, fun j hj => by
    have h : (w.alloc (.cells (zs.map (Value.int .i64)).toArray e fr)).heap[w.heap.size]? = some (.cells (zs.map (Value.int .i64)).toArray e fr) := by
      show (w.heap.push _)[w.heap.size]? = _
      simp
    rw [cell_of_row _ w.heap.size (0 + j) _ e fr h]
    simp [List.getD, List.getElem?_eq_getElem hj]⟩⟩
/-- An argument that is a slice of ints, as the row's frame tells it. -/
theorem ird_of_row {w : World} {a : Option Addr} {len cap : Nat} {zs : List Int}
    (h : (a = none ∧ len = 0 ∧ cap = 0 ∧ zs = []) ∨ ∃ x, a = some x ∧ len ≤ cap ∧ cap ≤ maxLen ∧ zs.length = cap ∧ (∀ i, i < zs.length → w.cell? (x.add i) = some (.int .i64 (zs.getD i 0))) ∧ ∀ n ∈ zs, (Lit.int .i64 n).wf = true) :
    IRd w a len (zs.take len) ∧ len ≤ cap ∧ cap ≤ maxLen ∧ ∀ n ∈ zs, (Lit.int .i64 n).wf = true := by
  rcases h with ⟨rfl, rfl, rfl, rfl⟩ | ⟨x, rfl, hl, hm, hz, hc, hw⟩
  · exact ⟨⟨rfl, fun h => absurd h (Nat.lt_irrefl 0)⟩, Nat.le_refl _, Nat.zero_le _, fun n hn => by cases hn⟩
  · refine ⟨⟨by simp; omega, fun hpos => ?_⟩, hl, hm, hw⟩
    have h0 := hc 0 (by omega)
    obtain ⟨b, off, spot⟩ := x
    have hspot : spot = none := by simpa [Addr.add] using World.cell?_spot h0
    subst hspot
    have hlt : ((⟨b, off, none⟩ : Addr).add 0).block < w.heap.size := World.block_lt_of_cell? w _ h0
    refine ⟨b, off, rfl, by simpa [Addr.add] using hlt, fun j hj => ?_⟩
    have hj' : j < len := by simp at hj; omega
    have h1 := hc j (by omega)
    rw [Addr.add_lit] at h1
    rw [h1]
    simp [List.getD, hj']
end Go.Proofs.YtnjfogeefdmlkaaDoor
namespace Go.Proofs.YtnjfogeefdmlkaaDoor
open Go.RowKit

/-- Block g holds a struct of type T: these cells. -/
def Rec (T : TypeId) (w : World) (g : Nat) (cs : Array Value) : Prop := w.heap[g]? = some (.cells cs T (0, 0))
/-- What is asked of the struct's type. -/
structure RT (P : Program) (T : TypeId) (n : Nat) : Prop where
  und : ∃ d, P.underlying T = some d ∧ d.isRow = true
  info : (P.info? T).map (·.size) = some n

section
variable {P : Program} {T : TypeId} {w w' : World} {g : Nat} {cs : Array Value} {n : Nat}
theorem Rec.lt (h : Rec T w g cs) : g < w.heap.size := (Array.getElem?_eq_some_iff.1 h).1
theorem Rec.at_ (h : Rec T w g cs) (i : Nat) : w.cell? ⟨g, i, none⟩ = cs[i]? := cell_of_row _ _ _ _ _ _ h
theorem Rec.fz (h : Rec T w g cs) (i : Nat) : w.frozen? ⟨g, i, none⟩ = false := frozen_of_row w g i _ _ h
theorem Rec.block (h : Rec T w g cs) (hb : w'.heap[g]? = w.heap[g]?) : Rec T w' g cs := hb.trans h
theorem Rec.below {B : Nat} (h : Rec T w g cs) (hb : Below B w w') (hB : g < B) : Rec T w' g cs := (hb.block g hB).trans h
theorem Rec.under (h : Rec T w g cs) (hb : Below w.heap.size w w') : Rec T w' g cs := h.below hb h.lt
theorem Rec.fr {own : Nat → Prop} (h : Rec T w g cs) (hf : Fr own w w') (hn : ¬ own g) : Rec T w' g cs := (hf.block g h.lt hn).trans h
theorem Rec.new (w : World) (T : TypeId) (cs : Array Value) : Rec T (w.alloc (.cells cs T)) w.heap.size cs := heap_alloc_last w _
theorem Rec.set (h : Rec T w g cs) (i : Nat) (v : Value) : Rec T (w.setCell ⟨g, i, none⟩ v) g (cs.setIfInBounds i v) := heap_setCell_at h v
theorem Rec.load (h : Rec T w g cs) (rt : RT P T n) (hn : cs.size = n) : (loadVar T ⟨g, 0, none⟩).run P w = .ok (.agg cs) w := by
  obtain ⟨d, hd, hr⟩ := rt.und
  have := run_loadVar_mid (P := P) w g 0 T cs.toList d (fun j v hj => by rw [Nat.zero_add, h.at_ j, ← hj]; simp) hd hr (by rw [rt.info, ← hn]; simp)
  simpa using this
theorem Rec.loadAt (h : Rec T w g cs) (rt : RT P T n) (hn : cs.size = n) : (Instr.loadAt T (.pointer (some ⟨g, 0, none⟩))).run P w = .ok (.agg cs) w := by
  simp only [Instr.loadAt, Instr.sureAddr, Sem.run_bind, Sem.run_pure, Result.andThen_ok, h.load rt hn]
theorem Rec.store (h : Rec T w g cs) (rt : RT P T n) (hn : cs.size = n) (cs' : Array Value) (hs : cs'.size = n) (h1 : cs'.all (·.oneCell') = true) :
    ∃ w', (Instr.storeAt T (.pointer (some ⟨g, 0, none⟩)) (.agg cs')).run P w = .ok () w' ∧ Rec T w' g cs' ∧ Fr (· = g) w w' := by
  refine ⟨w.setRow g cs', ?_, setRow_heap w g _ _ _ _ h, ⟨rfl, rfl, rfl, by simp [World.setRow], fun k _ hk => setRow_other w g k _ hk⟩⟩
  simp only [Instr.storeAt, Instr.sureAddr, Sem.run_bind, Sem.run_pure, Result.andThen_ok]
  exact run_storeVar_row w g T T _ _ h (by rw [hs]; exact rt.info) (hn.trans hs.symm) h1

variable {ops : Array Oper} {rest : List Oper} {o : Oper} {a : Act} {Q : Exit → Act → World → Prop}
theorem wpList_ldS (rt : RT P T n) (hn : cs.size = n) (hgd : Region.wanted o (yielded ops a.tmps) = true) (x : Operand) (ho : o.op = .load T x)
    (hx : a.eval x = .pointer (some ⟨g, 0, none⟩)) (h : Rec T w g cs) (kk : wpList P ops Q rest (a.put o.dst (.agg cs)) w) : wpList P ops Q (o :: rest) a w :=
  wpList_w hgd fun _ hK => by
    unfold Oper.wp execOp
    simp only [ho, hx, h.loadAt rt hn, Sem.run_bind, Sem.run_pure, Result.andThen_ok]
    exact hK _ _ kk
theorem wpList_stS {cs' : Array Value} (rt : RT P T n) (hn : cs.size = n) (hs : cs'.size = n) (h1 : cs'.all (·.oneCell') = true) (hgd : Region.wanted o (yielded ops a.tmps) = true) (x y : Operand) (ho : o.op = .store T x y)
    (hx : a.eval x = .pointer (some ⟨g, 0, none⟩)) (hy : a.eval y = .agg cs') (h : Rec T w g cs)
    (kk : ∀ w', Rec T w' g cs' → Fr (· = g) w w' → wpList P ops Q rest (a.put o.dst undef) w') : wpList P ops Q (o :: rest) a w :=
  wpList_w hgd fun _ hK => by
    obtain ⟨w', hrun, r1, r2⟩ := h.store rt hn cs' hs h1
    unfold Oper.wp execOp
    simp only [ho, hx, hy, hrun, Sem.run_bind, Sem.run_pure, Result.andThen_ok]
    exact hK _ _ (kk w' r1 r2)
/-- The store of a struct by value, as a step of a region that draws its order. -/
theorem step_stS {J : Act → World → Prop} {E : Prop} {cs' : Array Value} (rt : RT P T n) (hn : cs.size = n) (hs : cs'.size = n) (h1 : cs'.all (·.oneCell') = true) (hgd : o.guard = none) (x y : Operand) (ho : o.op = .store T x y)
    (hx : a.eval x = .pointer (some ⟨g, 0, none⟩)) (hy : a.eval y = .agg cs') (h : Rec T w g cs)
    (kk : ∀ w', Rec T w' g cs' → Fr (· = g) w w' → J (a.put o.dst undef) w') : if Region.wanted o (yielded ops a.tmps) = true then Oper.wp P o a w J Q else E := by
  have hw : Region.wanted o (yielded ops a.tmps) = true := by simp [Region.wanted, hgd]
  rw [if_pos hw]
  obtain ⟨w', hrun, r1, r2⟩ := h.store rt hn cs' hs h1
  unfold Oper.wp execOp
  simp only [ho, hx, hy, hrun, Sem.run_bind, Sem.run_pure, Result.andThen_ok]
  exact kk w' r1 r2

/-! ### results that lie in cells -/
variable {fn : Func} {p q u v : Tmp} {T' : TypeId} {tmps : Array Value} {ad ad' : Addr} {x y : Value}
theorem res_c (h : fn.results = #[.cell p T]) (hp : tmps.getD p undef = .pointer (some ad)) (hl : (loadVar T ad).run P w = .ok x w) : (results fn tmps).run P w = .ok x w := by
  rw [Array.getD_eq_getD_getElem?] at hp
  simp only [results, h]
  simp [hp, asAddr, hl]
theorem res_ct (h : fn.results = #[.cell p T, .tmp u]) (hp : tmps.getD p undef = .pointer (some ad)) (hl : (loadVar T ad).run P w = .ok x w) : (results fn tmps).run P w = .ok (.tuple #[x, tmps.getD u undef]) w := by
  rw [Array.getD_eq_getD_getElem?] at hp
  rw [results_cell_tmp h]
  simp [hp, asAddr, hl, Result.andThen]
theorem res_cct (h : fn.results = #[.cell p T, .cell q T', .tmp u]) (hp : tmps.getD p undef = .pointer (some ad)) (hl : (loadVar T ad).run P w = .ok x w) (hq : tmps.getD q undef = .pointer (some ad')) (hl' : (loadVar T' ad').run P w = .ok y w) :
    (results fn tmps).run P w = .ok (.tuple #[x, y, tmps.getD u undef]) w := by
  rw [Array.getD_eq_getD_getElem?] at hp hq
  simp only [results, h]
  simp [Sem.run_bind, Result.andThen, hp, hq, asAddr, hl, hl']
end
end Go.Proofs.YtnjfogeefdmlkaaDoor
namespace Go.Proofs.YtnjfogeefdmlkaaDoor
open Go.RowKit
theorem bytesT : El Tryd.prog 32 5 (.int .u8 0) 1 1 := ⟨Tryd.underlying32, by kernel_rfl, rfl, by decide⟩
end Go.Proofs.YtnjfogeefdmlkaaDoor
namespace Go.Proofs.YtnjfogeefdmlkaaDoor
open Go.RowKit

theorem Same_yes (A A' : Option Addr) (n c n' c' : Nat) (l : List UInt8) (w : World) (h1 : Rd w A n l) (h2 : Rd w A' n' l) :
    Calls Tryd.prog 24 #[.slice A n c, .slice A' n' c'] w fun e w' => e = .returned (.bool true) ∧ w = w' := by
  have k1 := run_to_string 32 9 5 Tryd.underlying32 Tryd.underlying5 Tryd.underlying9 w A n c l h1
  have k2 := run_to_string 32 9 5 Tryd.underlying32 Tryd.underlying5 Tryd.underlying9 w A' n' c' l h2
  clear h1 h2
  go_enter Tryd.func24, Tryd.ntmps24
  go_wp2
  go_ret
  exact ⟨ret_bool (by simp), rfl⟩

theorem str_toList (l : List UInt8) : (str l).toList = l := by rw [ByteArray.toList_eq]; rfl

theorem Same_any (A A' : Option Addr) (n c n' c' : Nat) (l l' : List UInt8) (w : World) (h1 : Rd w A n l) (h2 : Rd w A' n' l') :
    Calls Tryd.prog 24 #[.slice A n c, .slice A' n' c'] w fun e w' => e = .returned (.bool (decide (l = l'))) ∧ w = w' := by
  have k1 := run_to_string 32 9 5 Tryd.underlying32 Tryd.underlying5 Tryd.underlying9 w A n c l h1
  have k2 := run_to_string 32 9 5 Tryd.underlying32 Tryd.underlying5 Tryd.underlying9 w A' n' c' l' h2
  clear h1 h2
  go_enter Tryd.func24, Tryd.ntmps24
  go_wp2
  go_ret
  exact ⟨ret_bool (by rw [str_toList, str_toList]; by_cases h : l = l' <;> simp [h]), rfl⟩

end Go.Proofs.YtnjfogeefdmlkaaDoor
namespace Go.Proofs.YtnjfogeefdmlkaaDoor

/-- All that are in s, rising. -/
def listN (s : Nat) : List Nat := (List.range 64).filter fun i => s.testBit i
theorem testBit_big {a i : Nat} (ha : a < 18446744073709551616) (hi : ¬ i < 64) : a.testBit i = false :=
  Nat.testBit_lt_two_pow (Nat.lt_of_lt_of_le ha (show 2 ^ 64 ≤ 2 ^ i from Nat.pow_le_pow_right (by decide) (by omega)))
theorem eq_of_bits {a b : Nat} (ha : a < 18446744073709551616) (hb : b < 18446744073709551616) (h : ∀ i, i < 64 → a.testBit i = b.testBit i) : a = b :=
  Nat.eq_of_testBit_eq fun i => by
    by_cases hi : i < 64
    · exact h i hi
    · rw [testBit_big ha hi, testBit_big hb hi]
theorem mem_listN {s i : Nat} : i ∈ listN s ↔ i < 64 ∧ s.testBit i = true := by simp [listN]

/-- The document's: bit after bit. -/
def ofL (l : List Int) : Nat → Nat
  | 0 => 0
  | c + 1 => ofL l c + if (c : Int) ∈ l then 2 ^ c else 0
theorem ofL_lt (l : List Int) : ∀ c, ofL l c < 2 ^ c
  | 0 => Nat.one_pos
  | c + 1 => by
    have := ofL_lt l c
    rw [Nat.pow_succ]
    unfold ofL
    split <;> omega
theorem ofL_bit (l : List Int) : ∀ c i, (ofL l c).testBit i = decide (i < c ∧ (i : Int) ∈ l)
  | 0, i => by simp [ofL]
  | c + 1, i => by
    have ih := ofL_bit l c i
    have hlt := ofL_lt l c
    unfold ofL
    by_cases hc : (c : Int) ∈ l
    · rw [if_pos hc, ← Nat.or_two_pow_eq_add_of_lt hlt, Nat.testBit_or, ih, Nat.testBit_two_pow]
      by_cases e : i = c
      · subst e
        simp [hc]
      · have h1 : i < c ↔ i < c + 1 := by omega
        have h2 : ¬ c = i := fun e' => e e'.symm
        simp [h1, h2]
    · rw [if_neg hc, Nat.add_zero, ih]
      by_cases e : i = c
      · subst e
        simp [hc]
      · have : i < c ↔ i < c + 1 := by omega
        simp [this]
/-- The program's: a bit for each that may be. -/
def orL (l : List Int) : Nat := l.foldl (fun s c => if 0 ≤ c ∧ c < 64 then s ||| 2 ^ c.toNat else s) 0
theorem orL_snoc (l : List Int) (c : Int) : orL (l ++ [c]) = if 0 ≤ c ∧ c < 64 then orL l ||| 2 ^ c.toNat else orL l := by simp [orL]
theorem orL_one (c : Int) : orL [c] = if 0 ≤ c ∧ c < 64 then 2 ^ c.toNat else 0 := by simp [orL]
theorem orF_bit (l : List Int) (i : Nat) : ∀ s : Nat, (l.foldl (fun (s : Nat) (c : Int) => if 0 ≤ c ∧ c < 64 then s ||| 2 ^ c.toNat else s) s).testBit i = (s.testBit i || decide (i < 64 ∧ (i : Int) ∈ l)) := by
  induction l with
  | nil => intro s; simp
  | cons c l ih =>
    intro s
    rw [List.foldl_cons, ih]
    by_cases hc : 0 ≤ c ∧ c < 64
    · rw [if_pos hc, Nat.testBit_or, Nat.testBit_two_pow]
      by_cases e : (i : Int) = c
      · have h1 : c.toNat = i := by omega
        have h2 : i < 64 := by omega
        simp [h1, e, h2]
      · have h1 : ¬ c.toNat = i := by omega
        simp [h1, e]
    · rw [if_neg hc]
      by_cases e : (i : Int) = c
      · have h2 : ¬ i < 64 := by omega
        simp [h2]
      · simp [e]
theorem orL_bit (l : List Int) (i : Nat) : (orL l).testBit i = decide (i < 64 ∧ (i : Int) ∈ l) := by
  unfold orL
  rw [orF_bit]
  simp
theorem orL_lt (l : List Int) : orL l < 18446744073709551616 :=
  Nat.lt_pow_two_of_testBit (n := 64) _ fun i hi => by
    rw [orL_bit]
    have : ¬ i < 64 := by omega
    simp [this]
theorem orL_eq (l : List Int) : orL l = ofL l 64 := eq_of_bits (orL_lt l) (ofL_lt l 64) fun i _ => by rw [orL_bit, ofL_bit]
theorem two_lt {c : Nat} (h : c < 64) : 2 ^ c < 18446744073709551616 := Nat.pow_lt_pow_right (a := 2) (by decide) (show c < 64 from h)

/-- s without o. -/
def butN (s o : Nat) : Nat := s &&& (18446744073709551615 - o)
theorem butN_bit' (s o i : Nat) (ho : o < 18446744073709551616) (h : i < 64) : (butN s o).testBit i = (s.testBit i && !o.testBit i) := by
  unfold butN
  rw [Nat.testBit_and, show 18446744073709551615 - o = 2 ^ 64 - (o + 1) from by omega, Nat.testBit_two_pow_sub_succ ho]
  simp [h]
theorem butN_lt {s o : Nat} (h : s < 18446744073709551616) : butN s o < 18446744073709551616 := Nat.lt_of_le_of_lt Nat.and_le_left h
def listZ (s : Nat) : List Int := (listN s).map Int.ofNat
theorem mem_listZ {s : Nat} {i : Nat} : (i : Int) ∈ listZ s ↔ i < 64 ∧ s.testBit i = true := by
  unfold listZ
  rw [List.mem_map]
  constructor
  · rintro ⟨a, ha, e⟩
    have : a = i := by have e' : (a : Int) = i := e; omega
    subst this
    exact mem_listN.1 ha
  · exact fun h => ⟨i, mem_listN.2 h, rfl⟩
theorem hasN (s : Nat) (c : Int) : (s &&& orL [c] == 0) = !decide (0 ≤ c ∧ c < 64 ∧ s.testBit c.toNat = true) := by
  rw [orL_one]
  by_cases hc : 0 ≤ c ∧ c < 64
  · rw [if_pos hc]
    by_cases hb : s.testBit c.toNat = true
    · have h0 : ¬ s &&& 2 ^ c.toNat = 0 := fun e => by
        have := congrArg (fun x => Nat.testBit x c.toNat) e
        simp [hb] at this
      simp [hc.1, hc.2, hb, h0]
    · have h0 : s &&& 2 ^ c.toNat = 0 := Nat.eq_of_testBit_eq fun i => by
        rw [Nat.testBit_and, Nat.testBit_two_pow]
        by_cases e : c.toNat = i
        · subst e; simp [hb]
        · simp [e]
      simp [hb, h0]
  · rw [if_neg hc]
    have : ¬ (0 ≤ c ∧ c < 64 ∧ s.testBit c.toNat = true) := fun h => hc ⟨h.1, h.2.1⟩
    simp only [this, Nat.and_zero, decide_false]
    rfl
theorem withN (s : Nat) (c : Int) (hs : s < 18446744073709551616) : s ||| orL [c] = ofL (listZ s ++ [c]) 64 :=
  eq_of_bits (Nat.or_lt_two_pow (n := 64) hs (orL_lt _)) (ofL_lt _ 64) fun i hi => by
    rw [Nat.testBit_or, orL_bit, ofL_bit]
    by_cases hb : s.testBit i = true
    · have := mem_listZ.2 ⟨hi, hb⟩
      simp [hi, hb, this]
    · have : ¬ (i : Int) ∈ listZ s := fun h => hb (mem_listZ.1 h).2
      simp [hi, hb, this]
theorem withoutN (s : Nat) (c : Int) (hs : s < 18446744073709551616) : butN s (orL [c]) = ofL ((listZ s).filter fun x => decide (x ≠ c)) 64 :=
  eq_of_bits (butN_lt hs) (ofL_lt _ 64) fun i hi => by
    rw [butN_bit' _ _ _ (orL_lt _) hi, orL_bit, ofL_bit]
    by_cases hb : s.testBit i = true
    · have := mem_listZ.2 ⟨hi, hb⟩
      simp [hi, hb, this, List.mem_filter]
    · have : ¬ (i : Int) ∈ listZ s := fun h => hb (mem_listZ.1 h).2
      simp [hb, this, List.mem_filter]
theorem backN (s : Nat) (hs : s < 18446744073709551616) : orL (listZ s) = s :=
  eq_of_bits (orL_lt _) hs fun i hi => by
    rw [orL_bit]
    by_cases hb : s.testBit i = true
    · have := mem_listZ.2 ⟨hi, hb⟩
      simp [hi, hb, this]
    · have : ¬ (i : Int) ∈ listZ s := fun h => hb (mem_listZ.1 h).2
      simp [hb, this]
theorem undoN (s : Nat) (c : Int) (hs : s < 18446744073709551616) (h : 0 ≤ c ∧ c < 64 ∧ s.testBit c.toNat = true) : butN s (orL [c]) ||| orL [c] = s :=
  eq_of_bits (Nat.or_lt_two_pow (n := 64) (butN_lt hs) (orL_lt _)) hs fun i hi => by
    rw [Nat.testBit_or, butN_bit' _ _ _ (orL_lt _) hi, orL_bit]
    by_cases e : (i : Int) = c
    · have : c.toNat = i := by omega
      rw [this] at h
      simp [h.2.2, e, hi]
    · simp [e]
theorem withinN (a b : Nat) (ha : a < 18446744073709551616) (hb0 : b < 18446744073709551616) : (butN a b == 0) = (listN a).all fun i => b.testBit i := by
  by_cases h : ∀ i ∈ listN a, b.testBit i = true
  · have h0 : butN a b = 0 := eq_of_bits (butN_lt ha) (by decide) fun i hi => by
      rw [butN_bit' _ _ _ hb0 hi]
      by_cases hb : a.testBit i = true
      · simp [h i (mem_listN.2 ⟨hi, hb⟩)]
      · simp [hb]
    rw [h0, List.all_eq_true.2 h]; rfl
  · have h1 : (listN a).all (fun i => b.testBit i) = false := by
      rw [Bool.eq_false_iff]
      exact fun e => h (List.all_eq_true.1 e)
    rw [h1, beq_eq_false_iff_ne]
    intro h0
    refine h fun i hi => ?_
    obtain ⟨h64, hb⟩ := mem_listN.1 hi
    have := butN_bit' a b i hb0 h64
    rw [h0, hb] at this
    simpa using this
theorem apartN (a b : Nat) (ha : a < 18446744073709551616) : (a &&& b == 0) = (listN a).all fun i => !b.testBit i := by
  by_cases h : ∀ i ∈ listN a, (!b.testBit i) = true
  · have h0 : a &&& b = 0 := eq_of_bits (Nat.lt_of_le_of_lt Nat.and_le_left ha) (by decide) fun i hi => by
      rw [Nat.testBit_and]
      by_cases hb : a.testBit i = true
      · have := h i (mem_listN.2 ⟨hi, hb⟩)
        simp_all
      · simp [hb]
    rw [h0, List.all_eq_true.2 h]; rfl
  · have h1 : (listN a).all (fun i => !b.testBit i) = false := by
      rw [Bool.eq_false_iff]
      exact fun e => h (List.all_eq_true.1 e)
    rw [h1, beq_eq_false_iff_ne]
    intro h0
    refine h fun i hi => ?_
    obtain ⟨h64, hb⟩ := mem_listN.1 hi
    have := Nat.testBit_and a b i
    rw [h0, hb] at this
    simpa using this

/-- The lowest of s, and the others. -/
theorem lowN (s : Nat) (h0 : s ≠ 0) (hs : s < 18446744073709551616) : Lib.ctz 64 s < 64 ∧ listN s = Lib.ctz 64 s :: listN (butN s (orL [(Lib.ctz 64 s : Nat)])) := by
  obtain ⟨m, hm, hk⟩ := Lib.ctzFrom_spec 64 s (Nat.pos_of_ne_zero h0) hs
  have hc : Lib.ctz 64 s = Lib.ctzFrom 64 s := by unfold Lib.ctz; rw [if_neg h0]
  rw [← hc] at hm hk
  obtain ⟨k, hk'⟩ : ∃ k, k = Lib.ctz 64 s := ⟨_, rfl⟩
  rw [← hk'] at hm hk ⊢
  clear hc hk'
  refine ⟨hk, ?_⟩
  have hb : ∀ i, s.testBit i = (decide (k ≤ i) && (2 * m + 1).testBit (i - k)) := fun i => by rw [hm, Nat.testBit_two_pow_mul]
  have hkk : s.testBit k = true := by rw [hb]; simp [Nat.testBit_zero]
  have hlow : ∀ i, i < k → s.testBit i = false := fun i hi => by
    rw [hb]
    have : ¬ k ≤ i := by omega
    simp [this]
  have hoth : ∀ i, i < 64 → i ≠ k → (butN s (orL [(k : Int)])).testBit i = s.testBit i := fun i hi hne => by
    rw [butN_bit' _ _ _ (orL_lt _) hi, orL_bit]
    have : ¬ (i : Int) = k := by omega
    simp [this]
  have hsame : (butN s (orL [(k : Int)])).testBit k = false := by
    rw [butN_bit' _ _ _ (orL_lt _) hk, orL_bit]
    simp [hk]
  unfold listN
  obtain ⟨d, hd⟩ : ∃ d, 64 = k + 1 + d := ⟨63 - k, by omega⟩
  have hr : List.range 64 = List.range k ++ ([k] ++ (List.range d).map (k + 1 + ·)) := by
    rw [hd, List.range_add, List.range_succ, List.append_assoc]
  have e1 : (List.range k).filter (fun i => s.testBit i) = [] := List.filter_eq_nil_iff.2 fun i hi => by
    rw [hlow i (List.mem_range.1 hi)]; simp
  have e2 : (List.range k).filter (fun i => (butN s (orL [(k : Int)])).testBit i) = [] := List.filter_eq_nil_iff.2 fun i hi => by
    have := List.mem_range.1 hi
    rw [hoth i (by omega) (by omega), hlow i this]; simp
  have e3 : ((List.range d).map (k + 1 + ·)).filter (fun i => (butN s (orL [(k : Int)])).testBit i) = ((List.range d).map (k + 1 + ·)).filter (fun i => s.testBit i) := List.filter_congr fun i hi => by
    obtain ⟨j, hj, rfl⟩ := List.mem_map.1 hi
    have := List.mem_range.1 hj
    exact hoth _ (by omega) (by omega)
  rw [hr, List.filter_append, List.filter_append, List.filter_append, List.filter_append, e1, e2, e3]
  simp [hkk, hsame]
theorem listN_zero : listN 0 = [] := by decide

end Go.Proofs.YtnjfogeefdmlkaaDoor
namespace Go.Proofs.YtnjfogeefdmlkaaDoor

abbrev Pt := Int × List UInt8
abbrev En := (Int × Int) × List Pt
/-- Components and their sizes; rows. -/
structure Tb where
  cs : List (Int × Nat)
  rows : List En
/-- What a step tells. -/
structure Tl where
  data : List UInt8
  parts : List Pt
  id : Int × Int
  ok : Bool
  err : Int
def Tl.e (n : Int) : Tl := ⟨[], [], (0, 0), false, n⟩
/-- One step of a script. -/
structure Ts where
  d : Int
  id : Int × Int
  ps : List Pt
  row : Int
  comp : Int
  b : List UInt8

/-- A row as components ask it. -/
def RowOk (cs : List (Int × Nat)) (ps : List Pt) : Prop := ps.map (fun p => (p.1, p.2.length)) = cs
structure Tb.Ok (t : Tb) : Prop where
  n : t.rows.length ≤ 1024
  cn : t.cs.length ≤ 64
  z : ∀ x ∈ t.cs, x.2 ≤ 64
  row : ∀ r ∈ t.rows, RowOk t.cs r.2
  cz : ∀ x ∈ t.cs, 0 ≤ x.1 ∧ x.1 < 64
  nd : (t.cs.map (·.1)).Nodup

/-- What is put for a component. -/
def pick (ps : List Pt) (c : Int × Nat) : List UInt8 :=
  match ps.find? fun p => decide (p.1 = c.1) with
  | some p => p.2
  | none => List.replicate c.2 0
def picks (ps : List Pt) (cs : List (Int × Nat)) : List Pt := cs.map fun c => (c.1, pick ps c)
def fits (ps : List Pt) (cs : List (Int × Nat)) : Bool := cs.all fun c => decide ((pick ps c).length = c.2)
theorem picks_ok {ps : List Pt} {cs : List (Int × Nat)} (h : fits ps cs = true) : RowOk cs (picks ps cs) := by
  unfold RowOk picks
  rw [List.map_map]
  unfold fits at h
  rw [List.all_eq_true] at h
  conv => rhs; rw [← List.map_id cs]
  refine List.map_congr_left fun c hc => ?_
  have := of_decide_eq_true (h c hc)
  show (c.1, (pick ps c).length) = c
  rw [this]

def Tb.add (t : Tb) (id : Int × Int) (ps : List Pt) : Tb × Tl :=
  if t.rows.length = 1024 then (t, .e 9)
  else if fits ps t.cs then (⟨t.cs, t.rows ++ [(id, picks ps t.cs)]⟩, .e 0) else (t, .e 7)
/-- Where a component stands. -/
def Tb.at_ (t : Tb) (comp : Int) : Option Nat := t.cs.findIdx? fun c => decide (c.1 = comp)
def noEn : En := ((0, 0), [])
def Tb.go (t : Tb) (x : Ts) : Tb × Tl :=
  if x.d < 1 ∨ 4 < x.d then t.add x.id x.ps
  else if 0 ≤ x.row ∧ x.row < t.rows.length then
    (if x.d = 3 then (t, { Tl.e 0 with parts := (t.rows.getD x.row.toNat noEn).2 })
     else if x.d = 4 then
       (let last := t.rows.length - 1
        let moved := t.rows.getD last noEn
        (⟨t.cs, (t.rows.set x.row.toNat moved).take last⟩, if x.row.toNat = last then .e 0 else { Tl.e 0 with id := moved.1, ok := true }))
     else match t.at_ x.comp with
       | none => (t, .e 8)
       | some k =>
         let r := t.rows.getD x.row.toNat noEn
         if x.d = 2 then (t, { Tl.e 0 with data := (r.2.getD k (0, [])).2 })
         else if x.b.length = (t.cs.getD k (0, 0)).2 then (⟨t.cs, t.rows.set x.row.toNat (r.1, r.2.set k ((r.2.getD k (0, [])).1, x.b))⟩, .e 0)
         else (t, .e 7))
  else (t, .e 2)

section
variable {t : Tb}
theorem RowOk.len {cs : List (Int × Nat)} {ps : List Pt} (h : RowOk cs ps) : ps.length = cs.length := by
  have := congrArg List.length h
  simpa using this
theorem RowOk.at_ {cs : List (Int × Nat)} {ps : List Pt} (h : RowOk cs ps) {k : Nat} (hk : k < cs.length) : (ps.getD k (0, [])).1 = (cs.getD k (0, 0)).1 ∧ (ps.getD k (0, [])).2.length = (cs.getD k (0, 0)).2 := by
  have hl := h.len
  have e : cs.getD k (0, 0) = ((ps.getD k (0, [])).1, (ps.getD k (0, [])).2.length) := by
    rw [← show _ = cs from h]
    simp [List.getD, List.getElem?_eq_getElem (show k < ps.length by omega)]
  rw [e]
  exact ⟨rfl, rfl⟩
theorem RowOk.set {cs : List (Int × Nat)} {ps : List Pt} (h : RowOk cs ps) {k : Nat} (hk : k < cs.length) {b : List UInt8} (hb : b.length = (cs.getD k (0, 0)).2) : RowOk cs (ps.set k ((ps.getD k (0, [])).1, b)) := by
  have hl := h.len
  unfold RowOk
  rw [List.map_set]
  have e := h.at_ hk
  have : ((ps.getD k (0, [])).1, b.length) = (ps.map fun p => (p.1, p.2.length)).getD k (0, 0) := by
    rw [show _ = cs from h]
    rw [e.1, hb]
  rw [this, show _ = cs from h]
  apply List.ext_getElem (by simp)
  intro j h1 h2
  rw [List.getElem_set]
  split
  · rename_i e
    subst e
    simp [List.getD, List.getElem?_eq_getElem hk]
  · rfl
theorem Tb.at_lt {comp : Int} {k : Nat} (h : t.at_ comp = some k) : k < t.cs.length ∧ (t.cs.getD k (0, 0)).1 = comp := by
  unfold Tb.at_ at h
  rw [List.findIdx?_eq_some_iff_getElem] at h
  obtain ⟨hk, h1, _⟩ := h
  exact ⟨hk, by rw [List.getD_eq_getElem?_getD, List.getElem?_eq_getElem hk]; exact of_decide_eq_true h1⟩
theorem Tb.Ok.add (h : t.Ok) (id : Int × Int) (ps : List Pt) : (t.add id ps).1.Ok := by
  unfold Tb.add
  split
  · exact h
  · split
    · rename_i h1 h2
      exact ⟨by have := h.n; simp; omega, h.cn, h.z, fun r hr => by
        rcases List.mem_append.1 hr with hr | hr
        · exact h.row r hr
        · rw [List.mem_singleton.1 hr]; exact picks_ok h2, h.cz, h.nd⟩
    · exact h
theorem Tb.Ok.getD (h : t.Ok) {k : Nat} (hk : k < t.rows.length) : RowOk t.cs (t.rows.getD k noEn).2 := by
  rw [List.getD_eq_getElem?_getD, List.getElem?_eq_getElem hk]
  exact h.row _ (List.getElem_mem hk)
theorem Tb.go_cs (t : Tb) (x : Ts) : (t.go x).1.cs = t.cs := by
  unfold Tb.go Tb.add
  repeat' split
  all_goals rfl
theorem Tb.Ok.go (h : t.Ok) (x : Ts) : (t.go x).1.Ok := by
  unfold Tb.go
  split
  · exact h.add _ _
  · split
    · rename_i _ hr
      split
      · exact h
      · split
        · refine ⟨by have := h.n; simp; omega, h.cn, h.z, fun r hr' => ?_, h.cz, h.nd⟩
          rcases List.mem_or_eq_of_mem_set (List.mem_of_mem_take hr') with h1 | h1
          · exact h.row r h1
          · rw [h1]; exact h.getD (by omega)
        · split
          · exact h
          · rename_i k hk
            split
            · exact h
            · split
              · rename_i hb
                refine ⟨by have := h.n; simp only [List.length_set]; exact this, h.cn, h.z, fun r hr' => ?_, h.cz, h.nd⟩
                rcases List.mem_or_eq_of_mem_set hr' with h1 | h1
                · exact h.row r h1
                · rw [h1]; exact (h.getD (by omega)).set (Tb.at_lt hk).1 hb
              · exact h
    · exact h

/-- Of m components with these sizes those that are in sig. -/
def Tb.new (m : Nat) (zs : Nat → Int) (sig : Nat) : Tb := ⟨((listN sig).filter fun (k : Nat) => decide (k < m)).map fun (k : Nat) => ((k : Int), (min (max (zs k) 0) 64).toNat), []⟩
theorem Tb.new_ok (m : Nat) (zs : Nat → Int) (sig : Nat) : (Tb.new m zs sig).Ok := by
  have hl : (listN sig).length ≤ 64 := by
    unfold listN
    exact Nat.le_trans (List.length_filter_le _ _) (by simp)
  have hn : (listN sig).Nodup := by
    unfold listN
    exact List.Pairwise.filter _ List.nodup_range
  refine ⟨Nat.zero_le _, ?_, fun x hx => ?_, fun r hr => absurd hr List.not_mem_nil, fun x hx => ?_, ?_⟩
  · show (((listN sig).filter _).map _).length ≤ 64
    rw [List.length_map]
    exact Nat.le_trans (List.length_filter_le _ _) hl
  · obtain ⟨k, _, rfl⟩ := List.mem_map.1 hx
    show (min (max (zs k) 0) 64).toNat ≤ 64
    omega
  · obtain ⟨k, hk, rfl⟩ := List.mem_map.1 hx
    have := (mem_listN.1 (List.mem_filter.1 hk).1).1
    exact ⟨by omega, by omega⟩
  · show ((((listN sig).filter _).map _).map _).Nodup
    rw [List.map_map]
    exact List.Pairwise.map (R := (· ≠ ·)) _ (fun a b h e => h (by have e' : (a : Int) = (b : Int) := e; omega)) (List.Pairwise.filter _ hn)
/-- The bytes of a component. -/
def Tb.col (t : Tb) (comp : Int) : List UInt8 × Bool :=
  match t.at_ comp with
  | none => ([], false)
  | some k => ((t.rows.map fun r => (r.2.getD k (0, [])).2).flatten, true)
end
end Go.Proofs.YtnjfogeefdmlkaaDoor
namespace Go.Proofs.YtnjfogeefdmlkaaDoor
open Go.RowKit

theorem idsT : El Tryd.prog 26 44 (.agg #[.int .i64 0, .int .i64 0]) 2 16 := ⟨Tryd.underlying26, by kernel_rfl, rfl, by decide⟩
theorem partsT : El Tryd.prog 49 73 (.agg #[.int .i64 0, .slice none 0 0]) 2 32 := ⟨Tryd.underlying49, by kernel_rfl, rfl, by decide⟩
theorem entsT : El Tryd.prog 38 87 (.agg #[.int .i64 0, .int .i64 0, .slice none 0 0]) 3 40 := ⟨Tryd.underlying38, by kernel_rfl, rfl, by decide⟩
theorem rtabT : RT Tryd.prog 40 3 := ⟨⟨_, Tryd.underlying40, rfl⟩, by kernel_rfl⟩
theorem toldT : RT Tryd.prog 62 6 := ⟨⟨_, Tryd.underlying62, rfl⟩, by kernel_rfl⟩
theorem tstT : RT Tryd.prog 65 7 := ⟨⟨_, Tryd.underlying65, rfl⟩, by kernel_rfl⟩

/-- The reference's table as a value. -/
structure Rt where
  CA : Option Addr
  cn : Nat
  cc : Nat
  SA : Option Addr
  sn : Nat
  sc : Nat
  RA : Option Addr
  rn : Nat
  rc : Nat
def Rt.cs (d : Rt) : Array Value := #[.slice d.CA d.cn d.cc, .slice d.SA d.sn d.sc, .slice d.RA d.rn d.rc]
/-- It stands for t. -/
structure RtS (K : Nat → Prop) (w : World) (d : Rt) (t : Tb) : Prop where
  c : IntsV K w d.CA d.cn (t.cs.map (·.1))
  s : IntsV K w d.SA d.sn (t.cs.map fun c => (c.2 : Int))
  r : EntsV K w d.RA d.rn t.rows
section
variable {K K' : Nat → Prop} {w w' : World} {d : Rt} {t : Tb}
theorem RtS.stays (h : RtS K w d t) (hs : WStays K w w') : RtS K w' d t := ⟨h.c.stays hs, h.s.stays hs, h.r.stays hs⟩
theorem RtS.mono (h : RtS K w d t) (hk : ∀ x, K x → K' x) : RtS K' w d t := ⟨h.c.mono hk, h.s.mono hk, h.r.mono hk⟩
theorem RtS.below (h : RtS K w d t) (hb : Below w.heap.size w w') : RtS K w' d t := ⟨h.c.below hb, h.s.below hb, h.r.below hb⟩
theorem RtS.cn (h : RtS K w d t) : d.cn = t.cs.length := by have := h.c.len; simpa using this.symm
theorem RtS.sn (h : RtS K w d t) : d.sn = t.cs.length := by have := h.s.len; simpa using this.symm
theorem RtS.rn (h : RtS K w d t) : d.rn = t.rows.length := h.r.len.symm

set_option maxRecDepth 20000 in
theorem RIDs_any (h : RtS K w d t) (hn : t.rows.length ≤ 1024) :
    Calls Tryd.prog 41 #[.agg d.cs] w fun e w' => ∃ A n c, e = .returned (.slice A n c) ∧ IdsV (fun x => w.heap.size ≤ x ∧ x < w'.heap.size) w' A n (t.rows.map (·.1)) ∧ Below w.heap.size w w' := by
  obtain ⟨CA, cn, cc, SA, sn, sc, RA, rn, rc⟩ := d
  have hrn := h.rn
  simp only at hrn
  subst hrn
  show Calls _ _ #[.agg #[.slice CA cn cc, .slice SA sn sc, .slice RA t.rows.length rc]] w _
  obtain ⟨w1, hw1⟩ : ∃ w1, w1 = w.alloc (.cells #[.slice CA cn cc, .slice SA sn sc, .slice RA t.rows.length rc] 40) := ⟨_, rfl⟩
  have hB1 : Below w.heap.size w w1 := by rw [hw1]; exact (Below.refl _ _).alloc (Nat.le_refl _) _
  have hR1 : Rec 40 w1 w.heap.size #[.slice CA cn cc, .slice SA sn sc, .slice RA t.rows.length rc] := by rw [hw1]; exact Rec.new _ _ _
  have q2 : w1.cell? ⟨w.heap.size, 2, none⟩ = some (.slice RA t.rows.length rc) := hR1.at_ 2
  have hlt : w.heap.size < w1.heap.size := hR1.lt
  have hE := (h.below hB1).r
  simp only at hE
  have HE := Lib.hid hE
  have HB1 := Lib.hid hB1
  clear h hB1 hR1 hE
  obtain ⟨n, hN⟩ : ∃ n, n = t.rows.length := ⟨_, rfl⟩
  rw [← hN] at hn q2 HE hw1 ⊢
  have HN := Lib.hid hN
  clear hN
  go_enter Tryd.func41, Tryd.ntmps41
  go_wp2
  rw [← hw1]
  clear hw1
  go_loopw [3, 4] (fun v iv wr => ∃ (j : Nat) (vs : List Value), j ≤ n ∧ iv = .int .i64 j ∧ wr.ownsRow w1.heap.size 44 2 v j vs ∧ HdL 2 ED vs ((t.rows.take j).map (·.1)) ∧ Below w1.heap.size w1 wr) (fun _ iv _ => n - (intOf iv).toNat)
  case atStart => exact ⟨0, [], Nat.zero_le _, rfl, World.ownsRow_nil _ _ _ _, HdL.nil _ _, Below.refl _ _⟩
  case round =>
    obtain ⟨j, vs, hj, rfl, ho, hH, hB⟩ := hrel
    have q2' := (hB.cell (p := ⟨w.heap.size, 2, none⟩) hlt).trans q2
    have hs := hB.size
    by_cases hjn : j < n
    · obtain ⟨y, hy⟩ : ∃ y, t.rows[j]? = some y := ⟨_, List.getElem?_eq_getElem (by rw [← HN.out]; exact hjn)⟩
      obtain ⟨b, o, PA, pn, pc, hA, _, hblt, h0, h1, _, _⟩ := HE.out.cell hy
      subst hA
      have k0 := (hB.cell (p := ⟨b, o + j * 3, none⟩) hblt).trans h0
      have k1 := (hB.cell (p := ⟨b, o + j * 3 + 1, none⟩) hblt).trans h1
      have htk : (t.rows.take (j + 1)).map (·.1) = (t.rows.take j).map (·.1) ++ [y.1] := by
        rw [List.take_add_one, hy]
        simp
      have HTK := Lib.hid htk
      have HH := Lib.hid hH
      obtain ⟨y0, y1⟩ := y
      obtain ⟨yi, yg⟩ := y0
      simp only at k0 k1
      clear h0 h1 htk hH hy
      obtain ⟨w3, hw3⟩ : ∃ w3, w3 = wr.alloc (.cells #[.int .i64 yi, .int .i64 yg] 44) := ⟨_, rfl⟩
      have hB3 : Below wr.heap.size wr w3 := by rw [hw3]; exact (Below.refl _ _).alloc (Nat.le_refl _) _
      have hV3 : VRow (fun x => wr.heap.size ≤ x) w3 (some ⟨wr.heap.size, 0, none⟩) 1 2 [.int .i64 yi, .int .i64 yg] := by rw [hw3]; exact VRow.new wr #[.int .i64 yi, .int .i64 yg] _ 1 2 rfl
      have ho3 := own_keep ho hB3
      have HV3 := Lib.hid hV3
      have HO3 := Lib.hid ho3
      have HB3 := Lib.hid (hB.trans (hB3.mono hs))
      have HW3 := Lib.hid hw3
      clear hB3 hV3 ho3 hw3
      go_wp2_with (first
        | (rw [← HW3.out])
        | (at_builtin; refine wpList_appW idsT rfl (.tmp 12) (.tmp 19) rfl w1.heap.size _ j vs rfl HO3.out _ 1 1 _ rfl HV3.out (fun u hu => by simp at hu; rcases hu with rfl | rfl <;> rfl) (by omega) (by decide) HB3.out.size ?_; intro v5 w5 ho5 hg5))
      go_roundw
      case rel => exact ⟨j + 1, _, hjn, by go_num, ho5, by rw [HTK.out]; exact HH.out.snoc rfl rfl, HB3.out.trans (below_own HO3.out HB3.out.size hg5)⟩
      case measure => simp [intOf]; omega
    · have e : j = n := by omega
      subst e
      have HO := Lib.hid ho
      have HH := Lib.hid hH
      clear ho hH
      go_wp2
      go_ret
      have hH := HH.out
      rw [List.take_of_length_le (by rw [← HN.out]; exact Nat.le_refl _)] at hH
      obtain ⟨A, c, rfl, _, _, hR⟩ := own_rowsL HO.out hH (by simp [← HN.out])
      exact ⟨A, j, c, rfl, IdsV.mono hR (fun x hx => ⟨Nat.le_trans HB1.out.size hx.1, hx.2⟩), HB1.out.trans (hB.mono HB1.out.size)⟩
end

/-- Names that are the same. -/
theorem SameIDs_yes {K K' : Nat → Prop} (A A' : Option Addr) (n c c' : Nat) (xs : List (Int × Int)) (w : World) (h : IdsV K w A n xs) (h' : IdsV K' w A' n xs) (hn : n ≤ 1000000) :
    Calls Tryd.prog 40 #[.slice A n c, .slice A' n c'] w fun e w' => e = .returned (.bool true) ∧ Below w.heap.size w w' := by
  have hl := h.len
  have H := Lib.hid h
  have H' := Lib.hid h'
  clear h h'
  go_enter Tryd.func40, Tryd.ntmps40
  go_wp2
  go_loopw [5] (fun iv wr => ∃ j : Nat, j ≤ n ∧ iv = .int .i64 j ∧ Below w.heap.size w wr) (fun iv _ => n - (intOf iv).toNat)
  case atStart => exact ⟨0, Nat.zero_le _, rfl, Below.refl _ _⟩
  case round =>
    obtain ⟨j, hj, rfl, hB⟩ := hrel
    by_cases hjn : j < n
    · obtain ⟨y, hy⟩ : ∃ y, xs[j]? = some y := ⟨_, List.getElem?_eq_getElem (by omega)⟩
      obtain ⟨b, o, hA, hblt, h0, h1⟩ := H.out.cell hy
      obtain ⟨b', o', hA', hblt', h0', h1'⟩ := H'.out.cell hy
      subst hA hA'
      obtain ⟨yi, yg⟩ := y
      simp only at h0 h1 h0' h1'
      have k0 := (hB.cell (p := ⟨b, o + j * 2, none⟩) hblt).trans h0
      have k1 := (hB.cell (p := ⟨b, o + j * 2 + 1, none⟩) hblt).trans h1
      have k0' := (hB.cell (p := ⟨b', o' + j * 2, none⟩) hblt').trans h0'
      have k1' := (hB.cell (p := ⟨b', o' + j * 2 + 1, none⟩) hblt').trans h1'
      clear h0 h1 h0' h1' hy
      go_wp2_with fail
      go_quiet (fail)
      go_wp2
      go_roundw
      case rel => exact ⟨j + 1, hjn, by go_num, below_drewN hB _⟩
      case measure => simp [intOf]; omega
    · go_wp2
      go_ret
      exact ⟨rfl, hB⟩
end Go.Proofs.YtnjfogeefdmlkaaDoor
