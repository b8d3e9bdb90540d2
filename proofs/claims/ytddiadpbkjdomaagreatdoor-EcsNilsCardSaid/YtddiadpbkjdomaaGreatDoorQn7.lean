/- RowL, TbP1, TbP2, Grow, TbP3 -/
import Derived.Test.YtddiadpbkjdomaaGreatDoorQn6
import Derived.Deep.MidRow
import Derived.Deep.WholeRow
namespace Go.Proofs.YtddiadpbkjdomaaGreatDoor
open Go.RowKit

section
variable {α : Type} {z : Nat} {L : List (List α)}
theorem flatg_len (h : ∀ r ∈ L, r.length = z) : L.flatten.length = L.length * z := by
  induction L with
  | nil => simp
  | cons a L ih =>
    rw [List.flatten_cons, List.length_append, h a List.mem_cons_self, ih (fun r hr => h r (List.mem_cons_of_mem _ hr)), List.length_cons, Nat.succ_mul]
    omega
theorem flatg_take (h : ∀ r ∈ L, r.length = z) (k : Nat) : L.flatten.take (k * z) = (L.take k).flatten := by
  induction L generalizing k with
  | nil => simp
  | cons a L ih =>
    cases k with
    | zero => simp
    | succ k =>
      have ha := h a List.mem_cons_self
      rw [List.flatten_cons, List.take_succ_cons, List.flatten_cons, List.take_append, List.take_of_length_le (by rw [ha, Nat.succ_mul]; omega), ha, show (k + 1) * z - z = k * z by rw [Nat.succ_mul]; omega, ih (fun r hr => h r (List.mem_cons_of_mem _ hr))]
theorem flatg_drop (h : ∀ r ∈ L, r.length = z) (k : Nat) : L.flatten.drop (k * z) = (L.drop k).flatten := by
  induction L generalizing k with
  | nil => simp
  | cons a L ih =>
    cases k with
    | zero => simp
    | succ k =>
      have ha := h a List.mem_cons_self
      rw [List.flatten_cons, List.drop_succ_cons, List.drop_append, List.drop_eq_nil_of_le (by rw [ha, Nat.succ_mul]; omega), ha, show (k + 1) * z - z = k * z by rw [Nat.succ_mul]; omega, ih (fun r hr => h r (List.mem_cons_of_mem _ hr)), List.nil_append]
/-- One cell of one element. -/
theorem flatg_get (h : ∀ r ∈ L, r.length = z) {k i : Nat} {r : List α} (hk : L[k]? = some r) (hi : i < z) : L.flatten[k * z + i]? = r[i]? := by
  have hlt := (List.getElem?_eq_some_iff.1 hk).1
  have he := (List.getElem?_eq_some_iff.1 hk).2
  have hr : r.length = z := he ▸ h _ (List.getElem_mem hlt)
  rw [← List.getElem?_drop, flatg_drop h, List.drop_eq_getElem_cons hlt, he, List.flatten_cons, List.getElem?_append_left (by omega)]
theorem flatg_set (h : ∀ r ∈ L, r.length = z) {k i : Nat} {r : List α} (hk : L[k]? = some r) (hi : i < z) (u : α) : L.flatten.set (k * z + i) u = (L.set k (r.set i u)).flatten := by
  have hlt := (List.getElem?_eq_some_iff.1 hk).1
  have he := (List.getElem?_eq_some_iff.1 hk).2
  have hr : r.length = z := he ▸ h _ (List.getElem_mem hlt)
  have e1 : L.flatten = (L.take k).flatten ++ (r ++ (L.drop (k + 1)).flatten) := by
    rw [← List.flatten_cons, ← he, ← List.drop_eq_getElem_cons hlt, ← List.flatten_append, List.take_append_drop]
  have e2 : (L.set k (r.set i u)).flatten = (L.take k).flatten ++ (r.set i u ++ (L.drop (k + 1)).flatten) := by
    rw [List.set_eq_take_append_cons_drop, if_pos hlt, List.flatten_append, List.flatten_cons]
  have hl : (L.take k).flatten.length = k * z := by
    rw [flatg_len (fun x hx => h x (List.mem_of_mem_take hx)), List.length_take, Nat.min_eq_left (by omega)]
  rw [e1, e2, List.set_append_right _ _ (by omega), hl, Nat.add_sub_cancel_left, List.set_append_left _ _ (by omega)]
end

/-- Cells vs: of each of xs sz cells, of which E speaks. -/
def HdL {α : Type} (sz : Nat) (E : α → List Value → Prop) (vs : List Value) (xs : List α) : Prop :=
  ∃ ch : List (List Value), vs = ch.flatten ∧ ch.length = xs.length ∧ (∀ r ∈ ch, r.length = sz) ∧ ∀ (j : Nat) (x : α), xs[j]? = some x → ∃ r, ch[j]? = some r ∧ E x r
section
variable {α : Type} {sz : Nat} {E E' : α → List Value → Prop} {vs : List Value} {xs : List α}
theorem HdL.imp (h : HdL sz E vs xs) (hi : ∀ x r, E x r → E' x r) : HdL sz E' vs xs := by
  obtain ⟨ch, h1, h2, h3, h4⟩ := h
  exact ⟨ch, h1, h2, h3, fun j x hx => by obtain ⟨r, hr, he⟩ := h4 j x hx; exact ⟨r, hr, hi _ _ he⟩⟩
theorem HdL.len (h : HdL sz E vs xs) : vs.length = xs.length * sz := by
  obtain ⟨ch, rfl, h2, h3, _⟩ := h
  rw [flatg_len h3, h2]
theorem HdL.nil (sz : Nat) (E : α → List Value → Prop) : HdL sz E [] [] := ⟨[], rfl, rfl, fun _ h => absurd h List.not_mem_nil, fun j x h => by simp at h⟩
theorem HdL.at_ (h : HdL sz E vs xs) {j : Nat} {x : α} (hj : xs[j]? = some x) : ∃ r, r.length = sz ∧ E x r ∧ ∀ i, i < sz → vs[j * sz + i]? = r[i]? := by
  obtain ⟨ch, rfl, h2, h3, h4⟩ := h
  obtain ⟨r, hr, he⟩ := h4 j x hj
  refine ⟨r, ?_, he, fun i hi => flatg_get h3 hr hi⟩
  obtain ⟨hlt, e⟩ := List.getElem?_eq_some_iff.1 hr
  exact e ▸ h3 _ (List.getElem_mem hlt)
theorem HdL.snoc (h : HdL sz E vs xs) {x : α} {r : List Value} (hr : r.length = sz) (he : E x r) : HdL sz E (vs ++ r) (xs ++ [x]) := by
  obtain ⟨ch, rfl, h2, h3, h4⟩ := h
  refine ⟨ch ++ [r], by simp, by simp [h2], fun q hq => ?_, fun j y hy => ?_⟩
  · rcases List.mem_append.1 hq with h | h
    · exact h3 q h
    · rw [List.mem_singleton.1 h]; exact hr
  · by_cases hj : j < xs.length
    · rw [List.getElem?_append_left hj] at hy
      obtain ⟨q, hq, hE⟩ := h4 j y hy
      exact ⟨q, by rw [List.getElem?_append_left (by omega)]; exact hq, hE⟩
    · have e : j = xs.length := by
        have := (List.getElem?_eq_some_iff.1 hy).1
        simp at this
        omega
      subst e
      simp at hy
      subst hy
      exact ⟨r, by rw [← h2]; simp, he⟩
theorem HdL.take (h : HdL sz E vs xs) (m : Nat) : HdL sz E (vs.take (m * sz)) (xs.take m) := by
  obtain ⟨ch, rfl, h2, h3, h4⟩ := h
  refine ⟨ch.take m, flatg_take h3 m, by simp [h2], fun q hq => h3 q (List.mem_of_mem_take hq), fun j y hy => ?_⟩
  rw [List.getElem?_take] at hy
  split at hy
  · rename_i hjm
    obtain ⟨q, hq, hE⟩ := h4 j y hy
    exact ⟨q, by rw [List.getElem?_take, if_pos hjm]; exact hq, hE⟩
  · cases hy
/-- One cell turned. -/
theorem HdL.set1 (h : HdL sz E vs xs) {k i : Nat} {x y : α} (hk : xs[k]? = some x) (hi : i < sz) (u : Value) (he : ∀ r, r.length = sz → E x r → E y (r.set i u)) : HdL sz E (vs.set (k * sz + i) u) (xs.set k y) := by
  obtain ⟨ch, rfl, h2, h3, h4⟩ := h
  obtain ⟨r, hr, hE⟩ := h4 k x hk
  have hlen : r.length = sz := by
    obtain ⟨hlt, e⟩ := List.getElem?_eq_some_iff.1 hr
    exact e ▸ h3 _ (List.getElem_mem hlt)
  refine ⟨ch.set k (r.set i u), flatg_set h3 hr hi u, by simp [h2], fun q hq => ?_, fun j y' hy => ?_⟩
  · rcases List.mem_or_eq_of_mem_set hq with h | h
    · exact h3 q h
    · rw [h, List.length_set]; exact hlen
  · rw [List.getElem?_set] at hy ⊢
    by_cases hkj : k = j
    · subst hkj
      rw [if_pos rfl] at hy
      split at hy
      · injection hy with hy
        subst hy
        refine ⟨r.set i u, by rw [if_pos rfl, if_pos (by omega)], he r hlen hE⟩
      · cases hy
    · rw [if_neg hkj] at hy
      obtain ⟨q, hq, hE'⟩ := h4 j y' hy
      exact ⟨q, by rw [if_neg hkj]; exact hq, hE'⟩
/-- One element put in another's place. -/
theorem HdL.setx (h : HdL sz E vs xs) {k : Nat} (hk : k < xs.length) {y : α} {r : List Value} (hr : r.length = sz) (he : E y r) : HdL sz E (splice vs (k * sz) r) (xs.set k y) := by
  obtain ⟨ch, rfl, h2, h3, h4⟩ := h
  refine ⟨ch.set k r, ?_, by simp [h2], fun q hq => ?_, fun j y' hy => ?_⟩
  · unfold splice
    rw [hr, show k * sz + sz = (k + 1) * sz by rw [Nat.succ_mul], flatg_take h3, flatg_drop h3, List.set_eq_take_append_cons_drop, if_pos (by omega), List.flatten_append, List.flatten_cons]
  · rcases List.mem_or_eq_of_mem_set hq with h | h
    · exact h3 q h
    · rw [h]; exact hr
  · rw [List.getElem?_set] at hy ⊢
    by_cases hkj : k = j
    · subst hkj
      rw [if_pos rfl, if_pos hk] at hy
      injection hy with hy
      subst hy
      exact ⟨r, by rw [if_pos rfl, if_pos (by omega)], he⟩
    · rw [if_neg hkj] at hy
      obtain ⟨q, hq, hE'⟩ := h4 j y' hy
      exact ⟨q, by rw [if_neg hkj]; exact hq, hE'⟩
theorem HdL.one (h : HdL sz E vs xs) (he : ∀ x r, E x r → ∀ u ∈ r, u.oneCell' = true) : ∀ u ∈ vs, u.oneCell' = true := by
  obtain ⟨ch, rfl, h2, h3, h4⟩ := h
  intro u hu
  obtain ⟨r, hr, hur⟩ := List.mem_flatten.1 hu
  obtain ⟨j, hj, e⟩ := List.getElem_of_mem hr
  obtain ⟨q, hq, hE⟩ := h4 j xs[j] (List.getElem?_eq_getElem (by omega))
  rw [List.getElem?_eq_getElem hj, e] at hq
  injection hq with hq
  exact he _ _ hE u (hq ▸ hur)
end

/-- A slice of elements of sz cells each. -/
def RowsL {α : Type} (sz : Nat) (E : α → List Value → Prop) (K : Nat → Prop) (w : World) (A : Option Addr) (n : Nat) (xs : List α) : Prop := ∃ vs, xs.length = n ∧ VRow K w A n sz vs ∧ HdL sz E vs xs
theorem RowsL.cells {α : Type} {sz : Nat} {E : α → List Value → Prop} {K : Nat → Prop} {w : World} {A : Option Addr} {n : Nat} {xs : List α} (h : RowsL sz E K w A n xs) {j : Nat} {x : α} (hj : xs[j]? = some x) :
    ∃ b o r, A = some ⟨b, o, none⟩ ∧ K b ∧ b < w.heap.size ∧ r.length = sz ∧ E x r ∧ ∀ i u, i < sz → r[i]? = some u → w.cell? ⟨b, o + (j * sz + i), none⟩ = some u := by
  obtain ⟨vs, h1, h2, h3⟩ := h
  have hjl := (List.getElem?_eq_some_iff.1 hj).1
  obtain ⟨r, hr, he, hc⟩ := h3.at_ hj
  obtain ⟨b, o, e, hk, hlt, hcell⟩ := h2.2.2 (by omega)
  exact ⟨b, o, r, e, hk, hlt, hr, he, fun i u hi hu => hcell _ u (by rw [hc i hi]; exact hu)⟩

/-! ### parts, entities -/
/-- A part's cells. -/
def EP (K : Nat → Prop) (w : World) (x : Int × List UInt8) (r : List Value) : Prop := ∃ u, r = [.int .i64 x.1, u] ∧ VB K w u x.2
def PartsV (K : Nat → Prop) (w : World) (A : Option Addr) (n : Nat) (ps : List (Int × List UInt8)) : Prop := RowsL 2 (EP K w) K w A n ps
/-- An entity's cells. -/
def EE (K : Nat → Prop) (w : World) (x : (Int × Int) × List (Int × List UInt8)) (r : List Value) : Prop := ∃ A n c, r = [.int .i64 x.1.1, .int .i64 x.1.2, .slice A n c] ∧ PartsV K w A n x.2
def EntsV (K : Nat → Prop) (w : World) (A : Option Addr) (n : Nat) (xs : List ((Int × Int) × List (Int × List UInt8))) : Prop := RowsL 3 (EE K w) K w A n xs
/-- A slice of numbers. -/
def EI (x : Int) (r : List Value) : Prop := r = [.int .i64 x]
def IntsV (K : Nat → Prop) (w : World) (A : Option Addr) (n : Nat) (xs : List Int) : Prop := RowsL 1 EI K w A n xs
/-- A slice of names. -/
def ED (x : Int × Int) (r : List Value) : Prop := r = [.int .i64 x.1, .int .i64 x.2]
def IdsV (K : Nat → Prop) (w : World) (A : Option Addr) (n : Nat) (xs : List (Int × Int)) : Prop := RowsL 2 ED K w A n xs

section
variable {K K' : Nat → Prop} {w w' : World} {A : Option Addr} {n : Nat}
theorem EP.one {x : Int × List UInt8} {r : List Value} (h : EP K w x r) : ∀ u ∈ r, u.oneCell' = true := by
  obtain ⟨u, rfl, hu⟩ := h
  intro v hv
  simp at hv
  rcases hv with rfl | rfl
  · rfl
  · exact hu.one
theorem EE.one {x : (Int × Int) × List (Int × List UInt8)} {r : List Value} (h : EE K w x r) : ∀ u ∈ r, u.oneCell' = true := by
  obtain ⟨A, n, c, rfl, _⟩ := h
  intro v hv
  simp at hv
  rcases hv with rfl | rfl | rfl <;> rfl
theorem EI.one {x : Int} {r : List Value} (h : EI x r) : ∀ u ∈ r, u.oneCell' = true := by
  unfold EI at h
  subst h
  intro v hv
  simp at hv
  rw [hv]; rfl
theorem ED.one {x : Int × Int} {r : List Value} (h : ED x r) : ∀ u ∈ r, u.oneCell' = true := by
  unfold ED at h
  subst h
  intro v hv
  simp at hv
  rcases hv with rfl | rfl <;> rfl
theorem PartsV.stays {ps : List (Int × List UInt8)} (h : PartsV K w A n ps) (hs : WStays K w w') : PartsV K w' A n ps := by
  obtain ⟨vs, h1, h2, h3⟩ := h
  exact ⟨vs, h1, h2.stays hs, h3.imp fun x r ⟨u, e, hu⟩ => ⟨u, e, hu.stays hs⟩⟩
theorem PartsV.mono {ps : List (Int × List UInt8)} (h : PartsV K w A n ps) (hk : ∀ x, K x → K' x) : PartsV K' w A n ps := by
  obtain ⟨vs, h1, h2, h3⟩ := h
  exact ⟨vs, h1, h2.mono hk, h3.imp fun x r ⟨u, e, hu⟩ => ⟨u, e, hu.mono hk⟩⟩
theorem PartsV.lt {ps : List (Int × List UInt8)} (h : PartsV K w A n ps) : PartsV (fun x => K x ∧ x < w.heap.size) w A n ps := by
  obtain ⟨vs, h1, h2, h3⟩ := h
  exact ⟨vs, h1, h2.lt, h3.imp fun x r ⟨u, e, hu⟩ => ⟨u, e, hu.lt⟩⟩
theorem PartsV.below {ps : List (Int × List UInt8)} (h : PartsV K w A n ps) (hb : Below w.heap.size w w') : PartsV K w' A n ps := (h.lt.stays ⟨hb.size, fun x hx => hb.block x hx.2⟩).mono fun _ hx => hx.1
theorem PartsV.nil (K : Nat → Prop) (w : World) (A : Option Addr) : PartsV K w A 0 [] := ⟨[], rfl, ⟨rfl, fun _ => rfl, fun h => absurd h (Nat.lt_irrefl 0)⟩, HdL.nil _ _⟩
theorem PartsV.len {ps : List (Int × List UInt8)} (h : PartsV K w A n ps) : ps.length = n := by obtain ⟨_, h1, _⟩ := h; exact h1
theorem EntsV.stays {xs : List ((Int × Int) × List (Int × List UInt8))} (h : EntsV K w A n xs) (hs : WStays K w w') : EntsV K w' A n xs := by
  obtain ⟨vs, h1, h2, h3⟩ := h
  exact ⟨vs, h1, h2.stays hs, h3.imp fun x r ⟨A, n, c, e, hu⟩ => ⟨A, n, c, e, hu.stays hs⟩⟩
theorem EntsV.mono {xs : List ((Int × Int) × List (Int × List UInt8))} (h : EntsV K w A n xs) (hk : ∀ x, K x → K' x) : EntsV K' w A n xs := by
  obtain ⟨vs, h1, h2, h3⟩ := h
  exact ⟨vs, h1, h2.mono hk, h3.imp fun x r ⟨A, n, c, e, hu⟩ => ⟨A, n, c, e, hu.mono hk⟩⟩
theorem EntsV.lt {xs : List ((Int × Int) × List (Int × List UInt8))} (h : EntsV K w A n xs) : EntsV (fun x => K x ∧ x < w.heap.size) w A n xs := by
  obtain ⟨vs, h1, h2, h3⟩ := h
  exact ⟨vs, h1, h2.lt, h3.imp fun x r ⟨A, n, c, e, hu⟩ => ⟨A, n, c, e, hu.lt⟩⟩
theorem EntsV.below {xs : List ((Int × Int) × List (Int × List UInt8))} (h : EntsV K w A n xs) (hb : Below w.heap.size w w') : EntsV K w' A n xs := (h.lt.stays ⟨hb.size, fun x hx => hb.block x hx.2⟩).mono fun _ hx => hx.1
theorem EntsV.len {xs : List ((Int × Int) × List (Int × List UInt8))} (h : EntsV K w A n xs) : xs.length = n := by obtain ⟨_, h1, _⟩ := h; exact h1
theorem EntsV.nil (K : Nat → Prop) (w : World) (A : Option Addr) : EntsV K w A 0 [] := ⟨[], rfl, ⟨rfl, fun _ => rfl, fun h => absurd h (Nat.lt_irrefl 0)⟩, HdL.nil _ _⟩
theorem IntsV.stays {xs : List Int} (h : IntsV K w A n xs) (hs : WStays K w w') : IntsV K w' A n xs := by
  obtain ⟨vs, h1, h2, h3⟩ := h
  exact ⟨vs, h1, h2.stays hs, h3⟩
theorem IntsV.mono {xs : List Int} (h : IntsV K w A n xs) (hk : ∀ x, K x → K' x) : IntsV K' w A n xs := by
  obtain ⟨vs, h1, h2, h3⟩ := h
  exact ⟨vs, h1, h2.mono hk, h3⟩
theorem IntsV.below {xs : List Int} (h : IntsV K w A n xs) (hb : Below w.heap.size w w') : IntsV K w' A n xs := by
  obtain ⟨vs, h1, h2, h3⟩ := h
  exact ⟨vs, h1, h2.below hb, h3⟩
theorem IntsV.len {xs : List Int} (h : IntsV K w A n xs) : xs.length = n := by obtain ⟨_, h1, _⟩ := h; exact h1
theorem IntsV.cell {xs : List Int} (h : IntsV K w A n xs) {j : Nat} {x : Int} (hj : xs[j]? = some x) : ∃ b o, A = some ⟨b, o, none⟩ ∧ b < w.heap.size ∧ w.cell? ⟨b, o + j, none⟩ = some (.int .i64 x) := by
  obtain ⟨b, o, r, e, _, hlt, _, hE, hc⟩ := RowsL.cells h hj
  unfold EI at hE
  subst hE
  have := hc 0 _ Nat.one_pos rfl
  rw [Nat.mul_one, Nat.add_zero] at this
  exact ⟨b, o, e, hlt, this⟩
theorem IdsV.stays {xs : List (Int × Int)} (h : IdsV K w A n xs) (hs : WStays K w w') : IdsV K w' A n xs := by
  obtain ⟨vs, h1, h2, h3⟩ := h
  exact ⟨vs, h1, h2.stays hs, h3⟩
theorem IdsV.mono {xs : List (Int × Int)} (h : IdsV K w A n xs) (hk : ∀ x, K x → K' x) : IdsV K' w A n xs := by
  obtain ⟨vs, h1, h2, h3⟩ := h
  exact ⟨vs, h1, h2.mono hk, h3⟩
theorem IdsV.below {xs : List (Int × Int)} (h : IdsV K w A n xs) (hb : Below w.heap.size w w') : IdsV K w' A n xs := by
  obtain ⟨vs, h1, h2, h3⟩ := h
  exact ⟨vs, h1, h2.below hb, h3⟩
theorem IdsV.len {xs : List (Int × Int)} (h : IdsV K w A n xs) : xs.length = n := by obtain ⟨_, h1, _⟩ := h; exact h1
theorem IdsV.cell {xs : List (Int × Int)} (h : IdsV K w A n xs) {j : Nat} {x : Int × Int} (hj : xs[j]? = some x) : ∃ b o, A = some ⟨b, o, none⟩ ∧ b < w.heap.size ∧ w.cell? ⟨b, o + j * 2, none⟩ = some (.int .i64 x.1) ∧ w.cell? ⟨b, o + j * 2 + 1, none⟩ = some (.int .i64 x.2) := by
  obtain ⟨b, o, r, e, _, hlt, _, hE, hc⟩ := RowsL.cells h hj
  unfold ED at hE
  subst hE
  have h0 := hc 0 _ (by decide) rfl
  have h1 := hc 1 _ (by decide) rfl
  rw [Nat.add_zero] at h0
  rw [← Nat.add_assoc] at h1
  exact ⟨b, o, e, hlt, h0, h1⟩
theorem PartsV.cell {ps : List (Int × List UInt8)} (h : PartsV K w A n ps) {j : Nat} {x : Int × List UInt8} (hj : ps[j]? = some x) :
    ∃ b o u, A = some ⟨b, o, none⟩ ∧ K b ∧ b < w.heap.size ∧ w.cell? ⟨b, o + j * 2, none⟩ = some (.int .i64 x.1) ∧ w.cell? ⟨b, o + j * 2 + 1, none⟩ = some u ∧ VB K w u x.2 := by
  obtain ⟨b, o, r, e, hk, hlt, _, ⟨u, hr, hu⟩, hc⟩ := RowsL.cells h hj
  subst hr
  have h0 := hc 0 _ (by decide) rfl
  have h1 := hc 1 _ (by decide) rfl
  rw [Nat.add_zero] at h0
  rw [← Nat.add_assoc] at h1
  exact ⟨b, o, u, e, hk, hlt, h0, h1, hu⟩
theorem EntsV.cell {xs : List ((Int × Int) × List (Int × List UInt8))} (h : EntsV K w A n xs) {j : Nat} {x : (Int × Int) × List (Int × List UInt8)} (hj : xs[j]? = some x) :
    ∃ b o PA pn pc, A = some ⟨b, o, none⟩ ∧ K b ∧ b < w.heap.size ∧ w.cell? ⟨b, o + j * 3, none⟩ = some (.int .i64 x.1.1) ∧ w.cell? ⟨b, o + j * 3 + 1, none⟩ = some (.int .i64 x.1.2) ∧ w.cell? ⟨b, o + j * 3 + 2, none⟩ = some (.slice PA pn pc) ∧ PartsV K w PA pn x.2 := by
  obtain ⟨b, o, r, e, hk, hlt, _, ⟨PA, pn, pc, hr, hu⟩, hc⟩ := RowsL.cells h hj
  subst hr
  have h0 := hc 0 _ (by decide) rfl
  have h1 := hc 1 _ (by decide) rfl
  have h2 := hc 2 _ (by decide) rfl
  rw [Nat.add_zero] at h0
  rw [← Nat.add_assoc] at h1 h2
  exact ⟨b, o, PA, pn, pc, e, hk, hlt, h0, h1, h2, hu⟩
end

/-! ### rows made -/
theorem VRow.new (w : World) (C : Array Value) (e n sz : Nat) (h : C.size = n * sz) : VRow (fun x => w.heap.size ≤ x) (w.alloc (.cells C e)) (some ⟨w.heap.size, 0, none⟩) n sz C.toList :=
  ⟨by simpa using h, (fun e => by cases e), fun _ => ⟨w.heap.size, 0, rfl, Nat.le_refl _, by simp, fun j u hj => by
    rw [Nat.zero_add, cell_of_row _ _ j _ _ _ (heap_alloc_last w _)]
    simpa using hj⟩⟩
theorem HdL.one1 {α : Type} {sz : Nat} {E : α → List Value → Prop} {x : α} {r : List Value} (hr : r.length = sz) (he : E x r) : HdL sz E r [x] := by
  have := (HdL.nil sz E).snoc hr he
  simpa using this
theorem own_rowsL {α : Type} {sz : Nat} {E : α → List Value → Prop} {w : World} {B e n : Nat} {v : Value} {vs : List Value} {xs : List α} (ho : w.ownsRow B e sz v n vs) (h : HdL sz E vs xs) (hn : xs.length = n) :
    ∃ A c, v = .slice A n c ∧ n ≤ c ∧ c ≤ maxLen ∧ RowsL sz E (fun x => B ≤ x ∧ x < w.heap.size) w A n xs := by
  obtain ⟨A, c, e1, h1, h2, h3⟩ := own_vrow ho
  exact ⟨A, c, e1, h1, h2, vs, hn, h3, h⟩
end Go.Proofs.YtddiadpbkjdomaaGreatDoor
namespace Go.Proofs.YtddiadpbkjdomaaGreatDoor
open Go.RowKit

theorem tabT : RT Tryz.prog 185 3 := ⟨⟨_, Tryz.underlying185, rfl⟩, by kernel_rfl⟩
theorem zeroP (w : World) : (zeroValue 187).run Tryz.prog w = .ok (.pointer none) w := by kernel_rfl

/-- Where the column of k stands. -/
def colAt (cs : List (Int × Nat)) (q : Nat → Nat) (k : Int) : Option Value := (cs.findIdx? fun c => decide (c.1 = k)).map fun j => .pointer (some ⟨q j, 0, none⟩)
theorem findIdx_at {cs : List (Int × Nat)} (nd : (cs.map (·.1)).Nodup) {j : Nat} (hj : j < cs.length) : (cs.findIdx? fun c => decide (c.1 = (cs.getD j (0, 0)).1)) = some j := by
  have e : cs.getD j (0, 0) = cs[j] := by simp [List.getD, List.getElem?_eq_getElem hj]
  rw [List.findIdx?_eq_some_iff_getElem]
  refine ⟨hj, by rw [e]; exact decide_eq_true rfl, fun i hi => ?_⟩
  have hp := List.pairwise_iff_getElem.1 nd i j (by simp; omega) (by simpa using hj) hi
  rw [List.getElem_map, List.getElem_map] at hp
  rw [e]
  simpa using hp
theorem colAt_at {cs : List (Int × Nat)} {q : Nat → Nat} (nd : (cs.map (·.1)).Nodup) {j : Nat} (hj : j < cs.length) : colAt cs q (cs.getD j (0, 0)).1 = some (.pointer (some ⟨q j, 0, none⟩)) := by
  unfold colAt
  rw [findIdx_at nd hj]
  rfl

/-- The cells of names. -/
def idc (l : List (Int × Int)) : List Value := (l.map fun x => [Value.int .i64 x.1, .int .i64 x.2]).flatten
theorem idc_el (l : List (Int × Int)) : HdL 2 ED (idc l) l :=
  ⟨l.map fun x => [Value.int .i64 x.1, .int .i64 x.2], rfl, by simp, fun r hr => by obtain ⟨x, _, rfl⟩ := List.mem_map.1 hr; rfl, fun j x hx => ⟨[Value.int .i64 x.1, .int .i64 x.2], by simp [hx], rfl⟩⟩
theorem idc_len (l : List (Int × Int)) : (idc l).length = l.length * 2 := (idc_el l).len
theorem idc_snoc (l : List (Int × Int)) (x : Int × Int) : idc (l ++ [x]) = idc l ++ [.int .i64 x.1, .int .i64 x.2] := by simp [idc]

/-- A table at block p: its names in v, its map in block m, the columns of cs in the blocks q; tag tells whose a block is. -/
structure TbI (w : World) (N : Nat) (tag : Nat → Nat) (p m : Nat) (v : Value) (q : Nat → Nat) (sg : Nat) (cs : List (Int × Nat)) (l : List (Int × Int)) (co : Nat → Co) : Prop where
  blk : Rec 185 w p #[.int .u64 sg, v, .map (some m)]
  ids : w.ownsRow 0 39 2 v l.length (idc l)
  mp : MapZ Tryz.prog 3 (.pointer none) w m cs.length (colAt cs q)
  col : ∀ j, j < cs.length → ∃ u, ClAt w (fun x => tag x = j + 4) (q j) u (co j)
  tp : tag p = 1
  tm : tag m = 2
  ti : ∀ x, v.ownBlock = some x → tag x = 3
  dom : ∀ x, tag x ≠ 0 → x < w.heap.size
  lo : ∀ x, tag x ≠ 0 → N ≤ x
  cz : ∀ x ∈ cs, 0 ≤ x.1 ∧ x.1 < 64
  nd : (cs.map (·.1)).Nodup
/-- What a call does to the memory. -/
structure TGo (w : World) (tag : Nat → Nat) (w' : World) (tag' : Nat → Nat) : Prop where
  fr : Fr (fun x => tag x ≠ 0) w w'
  own : ∀ x, tag' x ≠ 0 → tag x ≠ 0 ∨ w.heap.size ≤ x

section
variable {w w' w'' : World} {N : Nat} {tag tag' tag'' : Nat → Nat} {p m : Nat} {v : Value} {q : Nat → Nat} {sg : Nat} {cs : List (Int × Nat)} {l : List (Int × Int)} {co : Nat → Co}
theorem TGo.refl (w : World) (tag : Nat → Nat) : TGo w tag w tag := ⟨Fr.refl _ _, fun _ h => .inl h⟩
theorem TGo.trans (h : TGo w tag w' tag') (k : TGo w' tag' w'' tag'') : TGo w tag w'' tag'' :=
  ⟨h.fr.trans' k.fr (fun x hx => h.own x hx), fun x hx => by
    rcases k.own x hx with h1 | h1
    · exact h.own x h1
    · exact .inr (Nat.le_trans h.fr.size h1)⟩
theorem TGo.ofBelow (h : Below w.heap.size w w') : TGo w tag w' tag := ⟨Fr.ofBelow _ h, fun _ hx => .inl hx⟩
theorem TGo.toBelow (h : TGo w tag w' tag') (lo : ∀ x, tag x ≠ 0 → N ≤ x) (hN : N ≤ w.heap.size) : Below N w w' := h.fr.toBelow lo hN
theorem TbI.Nle (h : TbI w N tag p m v q sg cs l co) : N ≤ w.heap.size := Nat.le_of_lt (Nat.lt_of_le_of_lt (h.lo p (by rw [h.tp]; decide)) h.blk.lt)
theorem TbI.kept {own' : Nat → Prop} (h : TbI w N tag p m v q sg cs l co) (hf : Fr own' w w') (hd : ∀ x, tag x ≠ 0 → ¬ own' x) : TbI w' N tag p m v q sg cs l co where
  blk := h.blk.fr hf (hd p (by rw [h.tp]; decide))
  ids := own_fr h.ids hf (fun x hx => hd x (by rw [h.ti x hx]; decide))
  mp := h.mp.fr hf (hd m (by rw [h.tm]; decide))
  col := fun j hj => by
    obtain ⟨u, hu⟩ := h.col j hj
    exact ⟨u, hu.kept hf (fun x hx => hd x (by rw [hx]; omega))⟩
  tp := h.tp
  tm := h.tm
  ti := h.ti
  dom := fun x hx => Nat.lt_of_lt_of_le (h.dom x hx) hf.size
  lo := h.lo
  cz := h.cz
  nd := h.nd
theorem TbI.below (h : TbI w N tag p m v q sg cs l co) (hb : Below w.heap.size w w') : TbI w' N tag p m v q sg cs l co := h.kept (own' := fun _ => False) (Fr.ofBelow _ hb) (fun _ _ hx => hx)
theorem TbI.congr {co' : Nat → Co} (h : TbI w N tag p m v q sg cs l co) (he : ∀ j, j < cs.length → co j = co' j) : TbI w N tag p m v q sg cs l co' :=
  { h with col := fun j hj => by rw [← he j hj]; exact h.col j hj }
theorem TbI.cdom (h : TbI w N tag p m v q sg cs l co) (j : Nat) : ∀ x, tag x = j + 4 → x < w.heap.size := fun x hx => h.dom x (by rw [hx]; omega)
/-- One column turned. -/
theorem TbI.turn (h : TbI w N tag p m v q sg cs l co) {j : Nat} (hj : j < cs.length) {s : Co} (g : ClGoes w (fun x => tag x = j + 4) (q j) s w') :
    ∃ tag', TbI w' N tag' p m v q sg cs l (fun i => if i = j then s else co i) ∧ TGo w tag w' tag' := by
  obtain ⟨hf, own', h1, h2, u, hu⟩ := g
  have hN := h.Nle
  refine ⟨fun x => if x < w.heap.size then tag x else if x < w'.heap.size then j + 4 else 0, ?_, ?_⟩
  · have kp : ∀ x, tag x ≠ 0 → (if x < w.heap.size then tag x else if x < w'.heap.size then j + 4 else 0) = tag x := fun x hx => if_pos (h.dom x hx)
    refine ⟨h.blk.fr hf (by rw [h.tp]; omega), own_fr h.ids hf (fun x hx => by rw [h.ti x hx]; omega), h.mp.fr hf (by rw [h.tm]; omega), fun i hi => ?_, ?_, ?_, fun x hx => ?_, fun x hx => ?_, fun x hx => ?_, h.cz, h.nd⟩
    · by_cases hij : i = j
      · subst hij
        simp only [if_true]
        refine ⟨u, hu.mono fun x hx => ?_⟩
        show (if x < w.heap.size then tag x else if x < w'.heap.size then i + 4 else 0) = i + 4
        rcases h1 x hx with h3 | h3
        · rw [kp x (by rw [h3]; omega), h3]
        · rw [if_neg (by omega), if_pos (h2 x hx)]
      · simp only [if_neg hij]
        obtain ⟨u', hu'⟩ := h.col i hi
        refine ⟨u', (hu'.kept hf (fun x hx => by rw [hx]; omega)).mono fun x hx => ?_⟩
        show (if x < w.heap.size then tag x else if x < w'.heap.size then j + 4 else 0) = i + 4
        rw [kp x (by rw [hx]; omega), hx]
    · show (if p < w.heap.size then tag p else _) = 1
      rw [if_pos h.blk.lt, h.tp]
    · show (if m < w.heap.size then tag m else _) = 2
      rw [if_pos h.mp.lt, h.tm]
    · show (if x < w.heap.size then tag x else _) = 3
      rw [if_pos (h.dom x (by rw [h.ti x hx]; decide)), h.ti x hx]
    · have hx' : (if x < w.heap.size then tag x else if x < w'.heap.size then j + 4 else 0) ≠ 0 := hx
      have := hf.size
      split at hx'
      · omega
      · split at hx'
        · assumption
        · exact absurd rfl hx'
    · have hx' : (if x < w.heap.size then tag x else if x < w'.heap.size then j + 4 else 0) ≠ 0 := hx
      split at hx'
      · exact h.lo x hx'
      · omega
  · refine ⟨hf.mono fun x hx => by rw [hx]; omega, fun x hx => ?_⟩
    have hx' : (if x < w.heap.size then tag x else if x < w'.heap.size then j + 4 else 0) ≠ 0 := hx
    split at hx'
    · exact .inl hx'
    · exact .inr (by omega)

theorem TbI.c0 (h : TbI w N tag p m v q sg cs l co) : w.cell? ⟨p, 0, none⟩ = some (.int .u64 sg) := h.blk.at_ 0
theorem TbI.c1 (h : TbI w N tag p m v q sg cs l co) : w.cell? ⟨p, 1, none⟩ = some v := h.blk.at_ 1
theorem TbI.c2 (h : TbI w N tag p m v q sg cs l co) : w.cell? ⟨p, 2, none⟩ = some (.map (some m)) := h.blk.at_ 2
theorem TbI.sl (h : TbI w N tag p m v q sg cs l co) : ∃ A c, v = .slice A l.length c ∧ l.length ≤ c ∧ c ≤ maxLen := by
  obtain ⟨A, c, e, h1, h2, _⟩ := own_vrow h.ids
  exact ⟨A, c, e, h1, h2⟩
theorem TbI.look (h : TbI w N tag p m v q sg cs l co) {j : Nat} (hj : j < cs.length) : (Instr.lookup 183 (.map (some m)) (.int .i64 (cs.getD j (0, 0)).1) false).run Tryz.prog w = .ok (.pointer (some ⟨q j, 0, none⟩)) w := by
  have hr : 0 ≤ (cs.getD j (0, 0)).1 ∧ (cs.getD j (0, 0)).1 < 64 := by
    have e : cs.getD j (0, 0) = cs[j] := by simp [List.getD, List.getElem?_eq_getElem hj]
    rw [e]
    exact h.cz _ (List.getElem_mem hj)
  have := h.mp.look Tryz.underlying3 Tryz.underlying183 (zeroP w) (i := (cs.getD j (0, 0)).1) (by omega)
  rw [colAt_at h.nd hj] at this
  exact this
theorem TbI.look_yes (h : TbI w N tag p m v q sg cs l co) {k : Int} (hk : -9223372036854775808 ≤ k ∧ k < 9223372036854775808) {j : Nat} (hj : (cs.findIdx? fun c => decide (c.1 = k)) = some j) :
    (Instr.lookup 183 (.map (some m)) (.int .i64 k) true).run Tryz.prog w = .ok (.tuple #[.pointer (some ⟨q j, 0, none⟩), .bool true]) w := by
  have := h.mp.look_ok Tryz.underlying3 Tryz.underlying183 (zeroP w) (i := k) hk
  unfold colAt at this
  rw [hj] at this
  exact this
theorem TbI.look_no (h : TbI w N tag p m v q sg cs l co) {k : Int} (hk : -9223372036854775808 ≤ k ∧ k < 9223372036854775808) (hj : (cs.findIdx? fun c => decide (c.1 = k)) = none) :
    (Instr.lookup 183 (.map (some m)) (.int .i64 k) true).run Tryz.prog w = .ok (.tuple #[.pointer none, .bool false]) w := by
  have := h.mp.look_ok Tryz.underlying3 Tryz.underlying183 (zeroP w) (i := k) hk
  unfold colAt at this
  rw [hj] at this
  exact this
theorem TbI.clen (h : TbI w N tag p m v q sg cs l co) (ty : TypeId) : (Builtin.len_ #[183] ty #[.map (some m)]).run Tryz.prog w = .ok (.int .i64 cs.length) w := h.mp.len Tryz.underlying183 ty

/-! ### check, find, Sig, Len -/
theorem tcheck_nil (i : Int) (w : World) : Calls Tryz.prog 106 #[.pointer none, .int .i64 i] w fun e w' => e = .returned (.int .i64 4) ∧ w = w' := by
  go_enter Tryz.func106, Tryz.ntmps106
  go_wp2
  go_ret
  exact ⟨rfl, rfl⟩
theorem tcheck_ok (h : TbI w N tag p m v q sg cs l co) (i : Int) (hi : 0 ≤ i ∧ i < l.length) : Calls Tryz.prog 106 #[.pointer (some ⟨p, 0, none⟩), .int .i64 i] w fun e w' => e = .returned (.int .i64 0) ∧ w = w' := by
  have c1 := h.c1
  obtain ⟨A, c, rfl, _, _⟩ := h.sl
  obtain ⟨h0, h1⟩ := hi
  go_enter Tryz.func106, Tryz.ntmps106
  go_wp2
  go_ret
  exact ⟨rfl, rfl⟩
theorem tcheck_no (h : TbI w N tag p m v q sg cs l co) (i : Int) (hi : ¬ (0 ≤ i ∧ i < l.length)) : Calls Tryz.prog 106 #[.pointer (some ⟨p, 0, none⟩), .int .i64 i] w fun e w' => e = .returned (.int .i64 2) ∧ w = w' := by
  have c1 := h.c1
  obtain ⟨A, c, rfl, _, _⟩ := h.sl
  by_cases h0 : i < 0
  · go_enter Tryz.func106, Tryz.ntmps106
    go_wp2
    go_ret
    exact ⟨rfl, rfl⟩
  · have h1 : (l.length : Int) ≤ i := by omega
    clear hi
    go_enter Tryz.func106, Tryz.ntmps106
    go_wp2
    go_ret
    exact ⟨rfl, rfl⟩
theorem find_nil (i k : Int) (w : World) : Calls Tryz.prog 137 #[.pointer none, .int .i64 i, .int .i64 k] w fun e w' => e = .returned (.tuple #[.pointer none, .int .i64 4]) ∧ w = w' := by
  go_enter Tryz.func137, Tryz.ntmps137
  go_wp2_with (go_at_call 106; refine (tcheck_nil i w).mono ?_; rintro e w' ⟨rfl, rfl⟩)
  go_ret2
  exact ⟨rfl, rfl⟩
theorem find_no (h : TbI w N tag p m v q sg cs l co) (i : Int) (hi : ¬ (0 ≤ i ∧ i < l.length)) (k : Int) : Calls Tryz.prog 137 #[.pointer (some ⟨p, 0, none⟩), .int .i64 i, .int .i64 k] w fun e w' => e = .returned (.tuple #[.pointer none, .int .i64 2]) ∧ w = w' := by
  have CK := Lib.hid (tcheck_no h i hi)
  clear h hi
  go_enter Tryz.func137, Tryz.ntmps137
  go_wp2_with (go_at_call 106; refine CK.out.mono ?_; rintro e w' ⟨rfl, rfl⟩)
  go_ret2
  exact ⟨rfl, rfl⟩
theorem find_lacks (h : TbI w N tag p m v q sg cs l co) (i : Int) (hi : 0 ≤ i ∧ i < l.length) {k : Int} (hk : -9223372036854775808 ≤ k ∧ k < 9223372036854775808) (hj : (cs.findIdx? fun c => decide (c.1 = k)) = none) :
    Calls Tryz.prog 137 #[.pointer (some ⟨p, 0, none⟩), .int .i64 i, .int .i64 k] w fun e w' => e = .returned (.tuple #[.pointer none, .int .i64 8]) ∧ w = w' := by
  have CK := Lib.hid (tcheck_ok h i hi)
  have c2 := h.c2
  have L := h.look_no hk hj
  clear h hi hk hj
  go_enter Tryz.func137, Tryz.ntmps137
  go_wp2_with (go_at_call 106; refine CK.out.mono ?_; rintro e w' ⟨rfl, rfl⟩)
  go_ret2
  exact ⟨rfl, rfl⟩
theorem find_ok (h : TbI w N tag p m v q sg cs l co) (i : Int) (hi : 0 ≤ i ∧ i < l.length) {k : Int} (hk : -9223372036854775808 ≤ k ∧ k < 9223372036854775808) {j : Nat} (hj : (cs.findIdx? fun c => decide (c.1 = k)) = some j) :
    Calls Tryz.prog 137 #[.pointer (some ⟨p, 0, none⟩), .int .i64 i, .int .i64 k] w fun e w' => e = .returned (.tuple #[.pointer (some ⟨q j, 0, none⟩), .int .i64 0]) ∧ w = w' := by
  have CK := Lib.hid (tcheck_ok h i hi)
  have c2 := h.c2
  have L := h.look_yes hk hj
  clear h hi hk hj
  go_enter Tryz.func137, Tryz.ntmps137
  go_wp2_with (go_at_call 106; refine CK.out.mono ?_; rintro e w' ⟨rfl, rfl⟩)
  go_ret2
  exact ⟨rfl, rfl⟩
theorem tsig_nil (w : World) : Calls Tryz.prog 82 #[.pointer none] w fun e w' => e = .returned (.int .u64 0) ∧ w = w' := by
  go_enter Tryz.func82, Tryz.ntmps82
  go_wp2
  go_ret
  exact ⟨rfl, rfl⟩
theorem tsig_any (h : TbI w N tag p m v q sg cs l co) : Calls Tryz.prog 82 #[.pointer (some ⟨p, 0, none⟩)] w fun e w' => e = .returned (.int .u64 sg) ∧ w = w' := by
  have c0 := h.c0
  go_enter Tryz.func82, Tryz.ntmps82
  go_wp2
  go_ret
  exact ⟨rfl, rfl⟩
theorem tlen_nil (w : World) : Calls Tryz.prog 134 #[.pointer none] w fun e w' => e = .returned (.int .i64 0) ∧ w = w' := by
  go_enter Tryz.func134, Tryz.ntmps134
  go_wp2
  go_ret
  exact ⟨rfl, rfl⟩
theorem tlen_any (h : TbI w N tag p m v q sg cs l co) : Calls Tryz.prog 134 #[.pointer (some ⟨p, 0, none⟩)] w fun e w' => e = .returned (.int .i64 l.length) ∧ w = w' := by
  have c1 := h.c1
  obtain ⟨A, c, rfl, _, _⟩ := h.sl
  go_enter Tryz.func134, Tryz.ntmps134
  go_wp2
  go_ret
  exact ⟨rfl, rfl⟩
end
end Go.Proofs.YtddiadpbkjdomaaGreatDoor
namespace Go.Proofs.YtddiadpbkjdomaaGreatDoor
open Go.RowKit

/-- None of the first j is of component k. -/
def NoneOf (ps : List Pt) (k : Int) (j : Nat) : Prop := ∀ i x, i < j → ps[i]? = some x → x.1 ≠ k
theorem NoneOf.more {ps : List Pt} {k : Int} {j : Nat} (h : NoneOf ps k j) {x : Pt} (hx : ps[j]? = some x) (hne : x.1 ≠ k) : NoneOf ps k (j + 1) := fun i y hi hy => by
  by_cases e : i = j
  · subst e
    rw [hx] at hy
    injection hy with hy
    exact hy ▸ hne
  · exact h i y (by omega) hy
theorem NoneOf.find {ps : List Pt} {k : Int} {j : Nat} (h : NoneOf ps k j) {x : Pt} (hx : ps[j]? = some x) (he : x.1 = k) : ps.find? (fun p => decide (p.1 = k)) = some x := by
  rw [List.find?_eq_some_iff_getElem]
  obtain ⟨hj, e⟩ := List.getElem?_eq_some_iff.1 hx
  refine ⟨decide_eq_true he, j, hj, e, fun i hi => ?_⟩
  have := h i ps[i] hi (List.getElem?_eq_getElem (by omega))
  simpa using this
theorem NoneOf.none_ {ps : List Pt} {k : Int} (h : NoneOf ps k ps.length) : ps.find? (fun p => decide (p.1 = k)) = none := by
  rw [List.find?_eq_none]
  intro x hx
  obtain ⟨i, hi, e⟩ := List.getElem_of_mem hx
  have := h i ps[i] hi (List.getElem?_eq_getElem hi)
  rw [e] at this
  simpa using this

section
variable {K : Nat → Prop} {w : World} {A : Option Addr} {n : Nat} {ps : List Pt}
set_option maxRecDepth 20000 in
theorem first_any (h : PartsV K w A n ps) (hn : n ≤ 1000000) (c : Nat) (k : Int) :
    Calls Tryz.prog 184 #[.slice A n c, .int .i64 k] w fun e w' => Below w.heap.size w w' ∧
      ((∃ x u, ps.find? (fun p => decide (p.1 = k)) = some x ∧ e = .returned (.tuple #[u, .bool true]) ∧ VB K w' u x.2) ∨ (ps.find? (fun p => decide (p.1 = k)) = none ∧ e = .returned (.tuple #[nilv, .bool false]))) := by
  have hl := h.len
  have H := Lib.hid h
  clear h
  go_enter Tryz.func184, Tryz.ntmps184
  go_wp2
  go_loopw [10] (fun iv wr => ∃ j : Nat, j ≤ n ∧ iv = .int .i64 j ∧ NoneOf ps k j ∧ Below w.heap.size w wr) (fun iv _ => n - (intOf iv).toNat)
  case atStart => exact ⟨0, Nat.zero_le _, rfl, fun i x hi => absurd hi (Nat.not_lt_zero _), Below.refl _ _⟩
  case round =>
    obtain ⟨j, hj, rfl, hno, hB⟩ := hrel
    by_cases hjn : j < n
    · obtain ⟨y, hy⟩ : ∃ y, ps[j]? = some y := ⟨_, List.getElem?_eq_getElem (by omega)⟩
      obtain ⟨b, o, u, hA, _, hblt, h0, h1, hu⟩ := H.out.cell hy
      subst hA
      have k0 := (hB.cell (p := ⟨b, o + j * 2, none⟩) hblt).trans h0
      have k1 := (hB.cell (p := ⟨b, o + j * 2 + 1, none⟩) hblt).trans h1
      obtain ⟨DA, dm, dc, rfl, _, _⟩ := id hu
      have HU := Lib.hid hu
      have HY := Lib.hid hy
      have HNO := Lib.hid hno
      obtain ⟨yi, yd⟩ := y
      simp only at k0
      have hb3 := hB.trans ((Below.refl _ _).alloc (hB.size) (.cells #[.int .i64 yi, .slice DA dm dc] 161))
      have HB3 := Lib.hid hb3
      clear h0 h1 hu hy hno hb3
      by_cases he : yi = k
      · subst he
        go_wp2
        go_ret2
        exact ⟨HB3.out, .inl ⟨_, _, HNO.out.find HY.out rfl, _, rfl, (HU.out.below (hB.trans ((Below.refl _ _).alloc hB.size _)))⟩⟩
      · have d1 : decide (yi = k) = false := decide_eq_false he
        go_wp2
        go_roundw
        case rel => exact ⟨j + 1, hjn, by go_num, HNO.out.more HY.out he, HB3.out⟩
        case measure => simp [intOf]; omega
    · obtain rfl : j = n := by omega
      have HNO := Lib.hid hno
      clear hno
      go_wp2
      go_ret2
      exact ⟨hB, .inr ⟨NoneOf.none_ (by rw [hl]; exact HNO.out), rfl⟩⟩
end
end Go.Proofs.YtddiadpbkjdomaaGreatDoor
namespace Go.Proofs.YtddiadpbkjdomaaGreatDoor
open Go.RowKit

/-- How an element's cells are read. -/
structure EOk {α : Type} (E : (Nat → Prop) → World → α → List Value → Prop) : Prop where
  stays : ∀ {K : Nat → Prop} {w w' : World} {x : α} {r : List Value}, E K w x r → WStays K w w' → E K w' x r
  mono : ∀ {K K' : Nat → Prop} {w : World} {x : α} {r : List Value}, E K w x r → (∀ y, K y → K' y) → E K' w x r
  lt : ∀ {K : Nat → Prop} {w : World} {x : α} {r : List Value}, E K w x r → E (fun y => K y ∧ y < w.heap.size) w x r
theorem EOk.below {α : Type} {E : (Nat → Prop) → World → α → List Value → Prop} (ok : EOk E) {K : Nat → Prop} {w w' : World} {x : α} {r : List Value} (h : E K w x r) (hb : Below w.heap.size w w') : E K w' x r :=
  ok.mono (ok.stays (ok.lt h) ⟨hb.size, fun y hy => hb.block y hy.2⟩) (fun _ hy => hy.1)

/-- A row of one's own, from block B on; its elements lead to blocks of D. -/
structure Gr {α : Type} (E : (Nat → Prop) → World → α → List Value → Prop) (e : TypeId) (sz : Nat) (w : World) (B : Nat) (v : Value) (vs : List Value) (D : Nat → Prop) (xs : List α) : Prop where
  Bw : B ≤ w.heap.size
  ow : w.ownsRow B e sz v xs.length vs
  hd : HdL sz (E D w) vs xs
  dx : ∀ x, D x → x < w.heap.size ∧ v.ownBlock ≠ some x

section
variable {α : Type} {E : (Nat → Prop) → World → α → List Value → Prop} {e : TypeId} {sz : Nat} {w w' : World} {B : Nat} {v : Value} {vs : List Value} {D K : Nat → Prop} {xs : List α}
theorem own_geB {e size n : Nat} {xs : List Value} (h : w.ownsRow B e size v n xs) {x : Nat} (hx : v.ownBlock = some x) : B ≤ x ∧ x < w.heap.size := by
  rcases h.2 with ⟨rfl, _⟩ | ⟨g, cap, cur, rfl, hB, hh, _⟩
  · cases hx
  · injection hx with hx
    have hx' : g = x := hx
    rw [← hx']
    exact ⟨hB, (Array.getElem?_eq_some_iff.1 hh).1⟩
theorem Gr.start (h : w.ownsRow B e sz v 0 []) (hB : B ≤ w.heap.size) : Gr E e sz w B v [] (fun _ => False) ([] : List α) := ⟨hB, h, HdL.nil _ _, fun _ hx => hx.elim⟩
theorem Gr.below (ok : EOk E) (h : Gr E e sz w B v vs D xs) (hb : Below w.heap.size w w') : Gr E e sz w' B v vs D xs :=
  ⟨Nat.le_trans h.Bw hb.size, own_keep h.ow hb, h.hd.imp fun _ _ hx => ok.below hx hb, fun x hx => ⟨Nat.lt_of_lt_of_le (h.dx x hx).1 hb.size, (h.dx x hx).2⟩⟩
/-- One element more. -/
theorem Gr.put (ok : EOk E) (h : Gr E e sz w B v vs D xs) {v' : Value} {x : α} {r : List Value} (hr : r.length = sz) (hE : E K w x r) (hK : ∀ y, K y → v.ownBlock ≠ some y)
    (ho : w'.ownsRow B e sz v' (xs.length + 1) (vs ++ r)) (hg : w.grownBy w' v.ownBlock) (hv : v'.ownBlock = v.ownBlock ∨ v'.ownBlock = some w.heap.size) :
    Gr E e sz w' B v' (vs ++ r) (fun y => D y ∨ (K y ∧ y < w.heap.size)) (xs ++ [x]) := by
  have hF : Fr (fun y => v.ownBlock = some y) w w' := Fr.grown hg (fun y hy => hy)
  have hs := hF.size
  have hall : ∀ y, (D y ∨ (K y ∧ y < w.heap.size)) → y < w.heap.size ∧ v.ownBlock ≠ some y := fun y hy => by
    rcases hy with h1 | h1
    · exact h.dx y h1
    · exact ⟨h1.2, hK y h1.1⟩
  have st : WStays (fun y => D y ∨ (K y ∧ y < w.heap.size)) w w' := ⟨hs, fun y hy => hF.block y (hall y hy).1 (hall y hy).2⟩
  refine ⟨Nat.le_trans h.Bw hs, by rw [List.length_append, List.length_singleton]; exact ho, ?_, fun y hy => ?_⟩
  · exact (h.hd.imp fun _ _ hx => ok.stays (ok.mono hx (fun _ hy => .inl hy)) st).snoc hr (ok.stays (ok.mono (ok.lt hE) (fun _ hy => .inr hy)) st)
  · obtain ⟨h1, h2⟩ := hall y hy
    refine ⟨by omega, fun e => ?_⟩
    rcases hv with hv | hv
    · exact h2 (hv ▸ e)
    · rw [hv] at e
      injection e with e
      omega
/-- What it is in the end. -/
theorem Gr.rows (ok : EOk E) (h : Gr E e sz w B v vs D xs) : ∃ A c, v = .slice A xs.length c ∧ xs.length ≤ c ∧ c ≤ maxLen ∧ RowsL sz (E (fun x => D x ∨ (B ≤ x ∧ x < w.heap.size)) w) (fun x => D x ∨ (B ≤ x ∧ x < w.heap.size)) w A xs.length xs := by
  obtain ⟨A, c, e1, h1, h2, h3⟩ := own_vrow h.ow
  exact ⟨A, c, e1, h1, h2, vs, rfl, h3.mono (fun x hx => .inr hx), h.hd.imp fun _ _ hx => ok.mono hx (fun _ hy => .inl hy)⟩
end

/-- An element that is a slice of bytes. -/
def EB (K : Nat → Prop) (w : World) (x : List UInt8) (r : List Value) : Prop := ∃ u, r = [u] ∧ VB K w u x
theorem EB.ok : EOk EB where
  stays := fun ⟨u, e, hu⟩ hs => ⟨u, e, hu.stays hs⟩
  mono := fun ⟨u, e, hu⟩ hk => ⟨u, e, hu.mono hk⟩
  lt := fun ⟨u, e, hu⟩ => ⟨u, e, hu.lt⟩
theorem EP.ok : EOk EP where
  stays := fun ⟨u, e, hu⟩ hs => ⟨u, e, hu.stays hs⟩
  mono := fun ⟨u, e, hu⟩ hk => ⟨u, e, hu.mono hk⟩
  lt := fun ⟨u, e, hu⟩ => ⟨u, e, hu.lt⟩
theorem EB.rows {K : Nat → Prop} {w : World} {A : Option Addr} {n : Nat} {ls : List (List UInt8)} (h : RowsL 1 (EB K w) K w A n ls) : RowsV K w A n ls := by
  obtain ⟨vs, h1, h2, ch, rfl, h4, h5, h6⟩ := h
  have hl : ch.flatten.length = n := by rw [h2.1, Nat.mul_one]
  refine ⟨_, h1, h2, by omega, fun j u hj => ?_⟩
  have hjl : j < ls.length := by have := (List.getElem?_eq_some_iff.1 hj).1; omega
  obtain ⟨r, hr, u', e, hu'⟩ := h6 j ls[j] (List.getElem?_eq_getElem hjl)
  have hg := flatg_get h5 hr (i := 0) (by decide)
  rw [Nat.mul_one, Nat.add_zero, hj, e] at hg
  injection hg with hg
  rw [List.getD_eq_getElem?_getD, List.getElem?_eq_getElem hjl, hg]
  exact hu'
theorem RowsV.atK {K : Nat → Prop} {w : World} {A : Option Addr} {n : Nat} {ls : List (List UInt8)} (h : RowsV K w A n ls) {j : Nat} (hj : j < n) : ∃ b o u, A = some ⟨b, o, none⟩ ∧ K b ∧ b < w.heap.size ∧ w.cell? ⟨b, o + j, none⟩ = some u ∧ VB K w u (ls.getD j []) := by
  obtain ⟨vs, h1, h2, h3⟩ := h
  obtain ⟨b, o, e, hk, hlt, hc⟩ := h2.2.2 (by omega)
  have hjl : j < vs.length := by rw [h2.1]; omega
  have hv := List.getElem?_eq_getElem hjl
  exact ⟨b, o, vs[j], e, hk, hlt, hc j _ hv, h3.2 j _ hv⟩
/-- Numbers in cells. -/
theorem ints_hd (xs : List Int) : HdL 1 EI (xs.map (Value.int .i64)) xs := by
  refine ⟨xs.map fun x => [.int .i64 x], ?_, by simp, fun r hr => ?_, fun j x hx => ⟨[.int .i64 x], by simp [hx], rfl⟩⟩
  · induction xs with
    | nil => rfl
    | cons a xs ih => simp at ih ⊢; exact ih
  · obtain ⟨x, _, rfl⟩ := List.mem_map.1 hr
    rfl
/-- From a to b, or from c on. -/
def Two (a b c : Nat) (x : Nat) : Prop := (a ≤ x ∧ x < b) ∨ c ≤ x
end Go.Proofs.YtddiadpbkjdomaaGreatDoor
namespace Go.Proofs.YtddiadpbkjdomaaGreatDoor
open Go.RowKit

theorem bbT : El Tryz.prog 124 40 (.slice none 0 0) 1 24 := ⟨Tryz.underlying124, by kernel_rfl, rfl, by decide⟩
theorem getD_fst (cs : List (Int × Nat)) (j : Nat) : (cs.map (·.1)).getD j 0 = (cs.getD j (0, 0)).1 := by
  rw [List.getD_eq_getElem?_getD, List.getD_eq_getElem?_getD, List.getElem?_map]
  cases cs[j]? <;> rfl
theorem get_fst {cs : List (Int × Nat)} {j : Nat} (hj : j < cs.length) : (cs.map (·.1))[j]? = some (cs.getD j (0, 0)).1 := by
  rw [List.getD_eq_getElem?_getD, List.getElem?_map, List.getElem?_eq_getElem hj]
  rfl
theorem getD_take {cs : List (Int × Nat)} {j : Nat} (hj : j < cs.length) : cs.take (j + 1) = cs.take j ++ [cs.getD j (0, 0)] := by
  rw [List.take_add_one, List.getD_eq_getElem?_getD, List.getElem?_eq_getElem hj]
  rfl
theorem fits_snoc (ps : List Pt) {cs : List (Int × Nat)} {j : Nat} (hj : j < cs.length) : fits ps (cs.take (j + 1)) = (fits ps (cs.take j) && decide ((pick ps (cs.getD j (0, 0))).length = (cs.getD j (0, 0)).2)) := by
  rw [getD_take hj]
  unfold fits
  rw [List.all_append]
  simp
theorem fits_no (ps : List Pt) {cs : List (Int × Nat)} {j : Nat} (hj : j < cs.length) (h : (pick ps (cs.getD j (0, 0))).length ≠ (cs.getD j (0, 0)).2) : fits ps cs = false := by
  unfold fits
  rw [List.all_eq_false]
  refine ⟨cs.getD j (0, 0), ?_, by simpa using h⟩
  rw [List.getD_eq_getElem?_getD, List.getElem?_eq_getElem hj]
  exact List.getElem_mem hj
theorem pick_some {ps : List Pt} {c : Int × Nat} {x : Pt} (h : ps.find? (fun p => decide (p.1 = c.1)) = some x) : pick ps c = x.2 := by unfold pick; rw [h]
theorem pick_none {ps : List Pt} {c : Int × Nat} (h : ps.find? (fun p => decide (p.1 = c.1)) = none) : pick ps c = List.replicate c.2 0 := by unfold pick; rw [h]
theorem made_bytes (n : Nat) : (madeCells (Value.int .u8 0).cells (n * 1)).toList = cells (List.replicate n 0) := by
  rw [Nat.mul_one]
  refine (toList_madeCells_one (Value.int .u8 0) n).trans ?_
  unfold cells
  rw [List.map_replicate]
  rfl

section
variable {K : Nat → Prop} {w : World} {A : Option Addr} {n : Nat} {ps : List Pt}
theorem first_some (h : PartsV K w A n ps) (hn : n ≤ 1000000) (c : Nat) (k : Int) {x : Pt} (hx : ps.find? (fun p => decide (p.1 = k)) = some x) :
    Calls Tryz.prog 184 #[.slice A n c, .int .i64 k] w fun e w' => (∃ u, e = .returned (.tuple #[u, .bool true]) ∧ VB K w' u x.2) ∧ Below w.heap.size w w' := by
  refine (first_any h hn c k).mono ?_
  rintro e w' ⟨hB, ⟨y, u, hy, rfl, hu⟩ | ⟨hy, _⟩⟩
  · rw [hx] at hy
    injection hy with hy
    subst hy
    exact ⟨⟨u, rfl, hu⟩, hB⟩
  · rw [hx] at hy; cases hy
theorem first_none (h : PartsV K w A n ps) (hn : n ≤ 1000000) (c : Nat) (k : Int) (hx : ps.find? (fun p => decide (p.1 = k)) = none) :
    Calls Tryz.prog 184 #[.slice A n c, .int .i64 k] w fun e w' => e = .returned (.tuple #[nilv, .bool false]) ∧ Below w.heap.size w w' := by
  refine (first_any h hn c k).mono ?_
  rintro e w' ⟨hB, ⟨y, u, hy, _, _⟩ | ⟨_, rfl⟩⟩
  · rw [hx] at hy; cases hy
  · exact ⟨rfl, hB⟩
end

section
variable {w : World} {N : Nat} {tag : Nat → Nat} {p m : Nat} {v : Value} {q : Nat → Nat} {sg : Nat} {cs : List (Int × Nat)} {l : List (Int × Int)} {co : Nat → Co}
theorem tlist_any (hz : listZ sg = cs.map (·.1)) (hg : sg < 18446744073709551616) (hT : TabAt w) :
    Calls Tryz.prog 107 #[.int .u64 sg] w fun e w' => ∃ LA lc, e = .returned (.slice LA cs.length lc) ∧ IntsV (fun x => w.heap.size ≤ x ∧ x < w'.heap.size) w' LA cs.length (cs.map (·.1)) ∧ Below w.heap.size w w' := by
  have hl : (listN sg).length = cs.length := by
    have := congrArg List.length hz
    unfold listZ at this
    simpa using this
  refine (List_any sg w hg hT).mono ?_
  rintro e w' ⟨v, rfl, ho, hB⟩
  rw [hz, hl] at ho
  obtain ⟨LA, lc, rfl, _, _, hI⟩ := own_rowsL ho (ints_hd _) (by simp)
  exact ⟨LA, lc, rfl, hI, hB⟩

set_option maxRecDepth 20000 in
theorem lay_any {K : Nat → Prop} {A : Option Addr} {n : Nat} {ps : List Pt} (h : TbI w N tag p m v q sg cs l co) (hz : listZ sg = cs.map (·.1)) (hg : sg < 18446744073709551616) (hT : TabAt w) (hcn : cs.length ≤ 64)
    (hsz : ∀ j, j < cs.length → (co j).sz = (cs.getD j (0, 0)).2) (h64 : ∀ j, j < cs.length → (cs.getD j (0, 0)).2 ≤ 64) (hp : PartsV K w A n ps) (hn : n ≤ 1000000) (c : Nat) :
    Calls Tryz.prog 170 #[.pointer (some ⟨p, 0, none⟩), .slice A n c] w fun e w' => Below w.heap.size w w' ∧
      ((fits ps cs = true ∧ ∃ RA rc, e = .returned (.tuple #[.slice RA cs.length rc, .int .i64 0]) ∧ RowsV (fun x => (K x ∧ x < w.heap.size) ∨ w.heap.size ≤ x) w' RA cs.length (cs.map (pick ps))) ∨
       (fits ps cs = false ∧ e = .returned (.tuple #[nilv, .int .i64 7]))) := by
  have c2 := h.c2
  have CL := h.clen 3
  obtain ⟨nc, hnc⟩ : ∃ nc, nc = cs.length := ⟨_, rfl⟩
  rw [← hnc] at CL hcn ⊢
  have H := Lib.hid h
  have HDm := Lib.hid h.dom
  have HP := Lib.hid hp.lt
  have HT := Lib.hid hT
  have HNC := Lib.hid hnc
  clear h hp hT hnc
  go_enter Tryz.func170, Tryz.ntmps170
  go_wp2_with (first
    | (at_make; refine wpList_mk _ bbT rfl (.const (.int .i64 0)) (.tmp 16) rfl w.heap.size .i64 .i64 _ nc rfl rfl rfl (by omega) (by unfold maxLen; omega) (Nat.le_refl _) ?_; intro v1 w1 hown1 hb1; have H1 := Lib.hid (H.out.below hb1); have k0 := H1.out.c0; have HB1 := Lib.hid hb1; have HO1 := Lib.hid hown1; clear hb1 hown1)
    | (go_at_call 107; refine (tlist_any hz hg (HT.out.below HB1.out)).mono ?_; rintro e w2 ⟨LA, lc, rfl, hI, hb2⟩; rw [← HNC.out] at hI ⊢; have HI := Lib.hid hI; have HB2 := Lib.hid hb2; clear hI hb2 k0))
  have HB0 := Lib.hid (HB1.out.trans (HB2.out.mono HB1.out.size))
  have G0 := Lib.hid (Gr.start (E := EB) (α := List UInt8) (own_keep HO1.out HB2.out) (by have := HB1.out.size; have := HB2.out.size; omega : w.heap.size ≤ w2.heap.size))
  have H2 := Lib.hid (H1.out.below HB2.out)
  have HOB := Lib.hid (show ∀ x, v1.ownBlock = some x → Two w.heap.size w1.heap.size w2.heap.size x from fun x hx => .inl (own_geB HO1.out hx))
  have hs1 := HB1.out.size
  have hs2 := HB2.out.size
  clear H HO1 HB1 HB2 H1 c2 CL
  go_loopw [6, 24] (fun ov iv wr => ∃ (j : Nat) (vs : List Value) (D : Nat → Prop), j ≤ nc ∧ iv = .int .i64 j ∧ Gr EB 40 1 wr w.heap.size ov vs D ((cs.take j).map (pick ps)) ∧ (∀ x, D x → (K x ∧ x < w.heap.size) ∨ w.heap.size ≤ x) ∧ (∀ x, ov.ownBlock = some x → Two w.heap.size w1.heap.size w2.heap.size x) ∧ fits ps (cs.take j) = true ∧ Fr (Two w.heap.size w1.heap.size w2.heap.size) w2 wr) (fun _ iv _ => nc - (intOf iv).toNat)
  case atStart => exact ⟨0, [], _, Nat.zero_le _, rfl, G0.out, fun x hx => hx.elim, HOB.out, rfl, Fr.refl _ _⟩
  case round =>
    obtain ⟨j, vs, D, hj, rfl, hG, hD, hob, hfit, hF⟩ := hrel
    by_cases hjn : j < nc
    · have hjc : j < cs.length := by rw [← HNC.out]; exact hjn
      have hss := hF.size
      have hI := HI.out.stays (w' := wr) ⟨hss, fun x hx => hF.block x hx.2 (fun h2 => by rcases h2 with h2 | h2 <;> omega)⟩
      obtain ⟨b, o, hLA, hblt, kk⟩ := hI.cell (get_fst hjc)
      have HLA := Lib.hid hLA
      subst hLA
      have HR := Lib.hid (H2.out.kept hF (fun x hx h2 => by have := HDm.out x hx; rcases h2 with h2 | h2 <;> omega))
      have c2 := HR.out.c2
      have LK := HR.out.look hjc
      obtain ⟨cu, hcu⟩ := HR.out.col j hjc
      have CS := ClSize_any hcu
      rw [hsz j hjc] at CS
      have hzz := h64 j hjc
      obtain ⟨k, hkk⟩ : ∃ k, k = (cs.getD j (0, 0)).1 := ⟨_, rfl⟩
      obtain ⟨z, hzz'⟩ : ∃ z, z = (cs.getD j (0, 0)).2 := ⟨_, rfl⟩
      have hsn := fits_snoc ps hjc
      have hfn := fits_no ps hjc
      have hpk : (cs.take (j + 1)).map (pick ps) = (cs.take j).map (pick ps) ++ [pick ps (cs.getD j (0, 0))] := by rw [getD_take hjc, List.map_append]; rfl
      have hps : ∀ x, ps.find? (fun p => decide (p.1 = k)) = some x → pick ps (cs.getD j (0, 0)) = x.2 := fun x hx => pick_some (by rw [← hkk]; exact hx)
      have hpn : ps.find? (fun p => decide (p.1 = k)) = none → pick ps (cs.getD j (0, 0)) = List.replicate z 0 := fun hx => by rw [hzz']; exact pick_none (by rw [← hkk]; exact hx)
      rw [hfit, Bool.true_and] at hsn
      obtain ⟨pk, hpk'⟩ : ∃ pk, pk = pick ps (cs.getD j (0, 0)) := ⟨_, rfl⟩
      rw [← hpk'] at hsn hfn hpk hps hpn
      rw [← hkk] at kk LK
      rw [← hzz'] at CS hzz hsn hfn
      have hlj : ((cs.take j).map (pick ps)).length = j := by rw [List.length_map, List.length_take]; omega
      have hBw : Below w.heap.size w wr := HB0.out.trans (hF.toBelow (fun x hx => by rcases hx with hx | hx <;> omega) (by omega))
      have HSN := Lib.hid hsn
      have HPK := Lib.hid hpk
      have HFN := Lib.hid hfn
      have HG := Lib.hid hG
      have HD := Lib.hid hD
      have HF := Lib.hid hF
      have HOB := Lib.hid hob
      have HLJ := Lib.hid hlj
      have CS := Lib.hid CS
      have HBw := Lib.hid hBw
      have HPr := Lib.hid (HP.out.below HBw.out)
      clear hsn hpk hfn hkk hzz' hpk' hcu hG hD hF hob hfit hI hlj hBw
      cases hfd : ps.find? (fun p => decide (p.1 = k)) with
      | some x =>
        have hpx := hps x hfd
        have CF := Lib.hid (first_some HPr.out hn c k hfd)
        obtain ⟨xi, xd⟩ := x
        simp only at hpx
        subst hpx
        clear hps hpn hfd
        by_cases hlen : pk.length = z
        · subst hlen
          go_wp2_with (first
            | (go_at_call 127; refine CS.out.mono ?_; rintro e w3 ⟨rfl, rfl⟩)
            | (go_at_call 184; refine CF.out.mono ?_; rintro e w3 ⟨⟨u, rfl, hu⟩, hb3⟩; obtain ⟨DA, dm, dc, rfl, hr, _⟩ := id hu; obtain rfl : dm = pk.length := hr.1.symm; obtain ⟨w4, hw4⟩ : ∃ w4, w4 = w3.alloc (.cells #[.slice DA pk.length dc] 40) := ⟨_, rfl⟩; have hb4 : Below w3.heap.size w3 w4 := (by rw [hw4]; exact (Below.refl _ _).alloc (Nat.le_refl _) _); have hv4 : VRow (fun x => w3.heap.size ≤ x) w4 (some ⟨w3.heap.size, 0, none⟩) 1 1 [.slice DA pk.length dc] := (by rw [hw4]; exact VRow.new w3 #[.slice DA pk.length dc] _ 1 1 rfl); have HU := Lib.hid (hu.below hb4); have HB4 := Lib.hid (hb3.trans (hb4.mono hb3.size)); have HV4 := Lib.hid hv4; have HW4 := Lib.hid hw4; clear hr hu hb3 hb4 hv4 hw4)
            | (rw [← HW4.out])
            | (at_builtin; have G4 := HG.out.below EB.ok HB4.out; refine wpList_appX bbT rfl (.tmp 49) (.tmp 51) rfl w.heap.size _ j vs rfl (by have := G4.ow; rw [HLJ.out] at this; exact this) _ 1 1 _ rfl HV4.out (fun u hu => by rw [List.mem_singleton.1 hu]; rfl) (by omega) (by decide) G4.Bw ?_; intro v5 w5 ho5 hg5 hv5; have G5 := Lib.hid (G4.put EB.ok rfl ⟨_, rfl, HU.out⟩ (fun y hy e => by have := (own_geB G4.ow e).1; omega) (by rw [HLJ.out]; exact ho5) hg5 hv5); have F5 := Lib.hid ((HF.out.trans (Fr.ofBelow _ HB4.out)).trans (Fr.grown hg5 HOB.out)); have OB5 := Lib.hid (show ∀ x, v5.ownBlock = some x → Two w.heap.size w1.heap.size w2.heap.size x from fun x hx => by (rcases hv5 with hv5 | hv5; exact HOB.out x (hv5 ▸ hx); rw [hv5] at hx; injection hx with hx; have := HF.out.size; have := HB4.out.size; exact .inr (by omega))); clear G4 ho5 hg5 hv5))
          go_roundw
          case rel =>
            refine ⟨j + 1, _, _, hjn, by go_num, (by rw [HPK.out]; exact G5.out), ?_, OB5.out, (by rw [HSN.out]; simp), F5.out⟩
            intro x hx
            rcases hx with h2 | h2
            · exact HD.out x h2
            · exact .inl h2.1
          case measure => simp [intOf]; omega
        · have d1 : decide ((pk.length : Int) = (z : Int)) = false := decide_eq_false (by omega)
          have hfn := HFN.out hlen
          have HFN := Lib.hid hfn
          clear hfn
          go_wp2_with (first
            | (go_at_call 127; refine CS.out.mono ?_; rintro e w3 ⟨rfl, rfl⟩)
            | (go_at_call 184; refine CF.out.mono ?_; rintro e w3 ⟨⟨u, rfl, hu⟩, hb3⟩; obtain ⟨DA, dm, dc, rfl, hr, _⟩ := id hu; obtain rfl : dm = pk.length := hr.1.symm; have HB3 := Lib.hid hb3; clear hr hu hb3))
          go_ret2
          exact ⟨HBw.out.trans (HB3.out.mono HBw.out.size), .inr ⟨HFN.out, rfl⟩⟩
      | none =>
        have hpx := hpn hfd
        have CF := Lib.hid (first_none HPr.out hn c k hfd)
        clear hps hpn hfd HFN
        go_wp2_with (first
          | (go_at_call 127; refine CS.out.mono ?_; rintro e w3 ⟨rfl, rfl⟩)
          | (go_at_call 184; refine CF.out.mono ?_; rintro e w3 ⟨rfl, hb3⟩; have HB3 := Lib.hid hb3; clear hb3)
          | (at_make; refine wpList_mkn _ bytesT rfl (.tmp 43) (.tmp 43) rfl w3.heap.size .i64 .i64 _ _ z rfl rfl rfl rfl (by omega) (by unfold maxLen; omega) (Nat.le_refl _) ?_; intro w6 ho6 hb6; rw [made_bytes, ← hpx] at ho6; have hr6 : Rd w6 (some ⟨w3.heap.size, 0, none⟩) z pk := Rd.of_own' ho6; have hlt6 : w3.heap.size < w6.heap.size := (own_geB ho6 rfl).2; have hu : VB (fun x => w3.heap.size ≤ x) w6 (.slice (some ⟨w3.heap.size, 0, none⟩) z z) pk := ⟨_, _, _, rfl, hr6, fun b o e _ => by (injection e with e; injection e with e1 e2; omega)⟩; obtain ⟨w4, hw4⟩ : ∃ w4, w4 = w6.alloc (.cells #[.slice (some ⟨w3.heap.size, 0, none⟩) z z] 40) := ⟨_, rfl⟩; have hb4 : Below w6.heap.size w6 w4 := (by rw [hw4]; exact (Below.refl _ _).alloc (Nat.le_refl _) _); have hv4 : VRow (fun x => w6.heap.size ≤ x) w4 (some ⟨w6.heap.size, 0, none⟩) 1 1 [.slice (some ⟨w3.heap.size, 0, none⟩) z z] := (by rw [hw4]; exact VRow.new w6 #[.slice (some ⟨w3.heap.size, 0, none⟩) z z] _ 1 1 rfl); have HU := Lib.hid (hu.below hb4); have HB4 := Lib.hid (HB3.out.trans ((hb6.trans (hb4.mono hb6.size)).mono HB3.out.size)); have HV4 := Lib.hid hv4; have HW4 := Lib.hid hw4; clear hu hr6 ho6 hb4 hv4 hw4 hb6)
          | (rw [← HW4.out])
          | (at_builtin; have G4 := HG.out.below EB.ok HB4.out; refine wpList_appX bbT rfl (.tmp 49) (.tmp 51) rfl w.heap.size _ j vs rfl (by have := G4.ow; rw [HLJ.out] at this; exact this) _ 1 1 _ rfl HV4.out (fun u hu => by rw [List.mem_singleton.1 hu]; rfl) (by omega) (by decide) G4.Bw ?_; intro v5 w5 ho5 hg5 hv5; have G5 := Lib.hid (G4.put EB.ok rfl ⟨_, rfl, HU.out⟩ (fun y hy e => by have := (own_geB HG.out.ow e).2; have := HB3.out.size; omega) (by rw [HLJ.out]; exact ho5) hg5 hv5); have F5 := Lib.hid ((HF.out.trans (Fr.ofBelow _ HB4.out)).trans (Fr.grown hg5 HOB.out)); have OB5 := Lib.hid (show ∀ x, v5.ownBlock = some x → Two w.heap.size w1.heap.size w2.heap.size x from fun x hx => by (rcases hv5 with hv5 | hv5; exact HOB.out x (hv5 ▸ hx); rw [hv5] at hx; injection hx with hx; have := HF.out.size; have := HB4.out.size; exact .inr (by omega))); clear G4 ho5 hg5 hv5))
        go_roundw
        case rel =>
          refine ⟨j + 1, _, _, hjn, by go_num, (by rw [HPK.out]; exact G5.out), ?_, OB5.out, (by rw [HSN.out, hpx]; exact decide_eq_true (by simp)), F5.out⟩
          intro x hx
          rcases hx with h2 | h2
          · exact HD.out x h2
          · exact .inr (by have := h2.1; have := HB3.out.size; have := HF.out.size; omega)
        case measure => simp [intOf]; omega
    · obtain rfl : j = nc := by omega
      have hBw : Below w.heap.size w wr := HB0.out.trans (hF.toBelow (fun x hx => by rcases hx with hx | hx <;> omega) (by omega))
      have e1 : cs.take j = cs := List.take_of_length_le (by rw [← HNC.out]; exact Nat.le_refl _)
      rw [e1] at hG hfit
      obtain ⟨RA, rc, hov, _, _, hR⟩ := hG.rows EB.ok
      have hl : (cs.map (pick ps)).length = j := by rw [List.length_map]; exact HNC.out.symm
      rw [hl] at hov hR
      subst hov
      have HR := Lib.hid hR
      have HBw := Lib.hid hBw
      have HD := Lib.hid hD
      have HFT := Lib.hid hfit
      clear hR hBw hD hfit hG hF hob e1 hl
      go_wp2
      go_ret2
      exact ⟨HBw.out, .inl ⟨HFT.out, _, _, rfl, (EB.rows HR.out).mono (fun x hx => by rcases hx with h2 | h2; exact HD.out x h2; exact .inr h2.1)⟩⟩
end
end Go.Proofs.YtddiadpbkjdomaaGreatDoor
