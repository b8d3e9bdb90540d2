/- The reference's state, its blocks named by a set K; append of a row of values; Go for a fuse. -/
import Derived.Test.YtieknelmfjkbhaaDr7
import Derived.Test.YtieknelmfjkbhaaDkV
namespace Go.Proofs.Ytieknelmfjkbhaa
open Go.RowKit

/-- A slice of values of sz cells each. -/
def AtRow (K : Nat → Prop) (w : World) (A : Option Addr) (n sz : Nat) (vs : List Value) : Prop :=
  vs.length = n * sz ∧ (0 < n → ∃ b o, A = some ⟨b, o, none⟩ ∧ K b ∧ b < w.heap.size ∧ ∀ j u, vs[j]? = some u → w.cell? ⟨b, o + j, none⟩ = some u)
/-- Values: slices of 512 bytes. -/
def HdS (K : Nat → Prop) (w : World) (vs : List Value) (ls : List (List UInt8)) : Prop :=
  vs.length = ls.length ∧ ∀ j (_ : j < ls.length), ∃ b' o' c', vs[j]? = some (.slice (some ⟨b', o', none⟩) 512 c') ∧ K b' ∧ b' < w.heap.size ∧ 512 ≤ c' ∧ c' ≤ maxLen ∧ Rd w (some ⟨b', o', none⟩) 512 (ls.getD j [])
/-- Values: numbers and slices of 512 bytes by turns. -/
def HdW (K : Nat → Prop) (w : World) (vs : List Value) (ls : List (Nat × List UInt8)) : Prop :=
  vs.length = ls.length * 2 ∧ ∀ j (_ : j < ls.length), ∃ b' o' c', vs[j * 2]? = some (.int .i64 ((ls.getD j (0, [])).1 : Nat)) ∧ vs[j * 2 + 1]? = some (.slice (some ⟨b', o', none⟩) 512 c') ∧ K b' ∧ b' < w.heap.size ∧ 512 ≤ c' ∧ c' ≤ maxLen ∧ Rd w (some ⟨b', o', none⟩) 512 (ls.getD j (0, [])).2
def RowsK (K : Nat → Prop) (w : World) (A : Option Addr) (n : Nat) (ls : List (List UInt8)) : Prop := ∃ vs, ls.length = n ∧ AtRow K w A n 1 vs ∧ HdS K w vs ls
def WaitK (K : Nat → Prop) (w : World) (A : Option Addr) (n : Nat) (ls : List (Nat × List UInt8)) : Prop := ∃ vs, ls.length = n ∧ AtRow K w A n 2 vs ∧ HdW K w vs ls

section
variable {K K' : Nat → Prop} {w w' : World} {A : Option Addr} {n sz : Nat} {vs : List Value}
theorem AtRow.stays (h : AtRow K w A n sz vs) (hs : Stays K w w') : AtRow K w' A n sz vs :=
  ⟨h.1, fun hp => by obtain ⟨b, o, e, hk, hlt, hc⟩ := h.2 hp; exact ⟨b, o, e, hk, Nat.lt_of_lt_of_le hlt hs.1, fun j u hj => (World.cell?_of_block (a := ⟨b, o + j, none⟩) (hs.2 b hk)).trans (hc j u hj)⟩⟩
theorem AtRow.mono (h : AtRow K w A n sz vs) (hk : ∀ x, K x → K' x) : AtRow K' w A n sz vs :=
  ⟨h.1, fun hp => by obtain ⟨b, o, e, h1, r⟩ := h.2 hp; exact ⟨b, o, e, hk b h1, r⟩⟩
theorem HdS.stays {ls : List (List UInt8)} (h : HdS K w vs ls) (hs : Stays K w w') : HdS K w' vs ls :=
  ⟨h.1, fun j hj => by obtain ⟨b', o', c', h1, h2, h3, h4, h5, h6⟩ := h.2 j hj; exact ⟨b', o', c', h1, h2, Nat.lt_of_lt_of_le h3 hs.1, h4, h5, h6.stays hs (fun b o e => by injection e with e; injection e with e1 _; exact e1 ▸ h2)⟩⟩
theorem HdS.mono {ls : List (List UInt8)} (h : HdS K w vs ls) (hk : ∀ x, K x → K' x) : HdS K' w vs ls :=
  ⟨h.1, fun j hj => by obtain ⟨b', o', c', h1, h2, r⟩ := h.2 j hj; exact ⟨b', o', c', h1, hk _ h2, r⟩⟩
theorem HdW.stays {ls : List (Nat × List UInt8)} (h : HdW K w vs ls) (hs : Stays K w w') : HdW K w' vs ls :=
  ⟨h.1, fun j hj => by obtain ⟨b', o', c', h0, h1, h2, h3, h4, h5, h6⟩ := h.2 j hj; exact ⟨b', o', c', h0, h1, h2, Nat.lt_of_lt_of_le h3 hs.1, h4, h5, h6.stays hs (fun b o e => by injection e with e; injection e with e1 _; exact e1 ▸ h2)⟩⟩
theorem HdW.mono {ls : List (Nat × List UInt8)} (h : HdW K w vs ls) (hk : ∀ x, K x → K' x) : HdW K' w vs ls :=
  ⟨h.1, fun j hj => by obtain ⟨b', o', c', h0, h1, h2, r⟩ := h.2 j hj; exact ⟨b', o', c', h0, h1, hk _ h2, r⟩⟩
theorem RowsK.stays {ls : List (List UInt8)} (h : RowsK K w A n ls) (hs : Stays K w w') : RowsK K w' A n ls := by
  obtain ⟨vs, h1, h2, h3⟩ := h; exact ⟨vs, h1, h2.stays hs, h3.stays hs⟩
theorem WaitK.stays {ls : List (Nat × List UInt8)} (h : WaitK K w A n ls) (hs : Stays K w w') : WaitK K w' A n ls := by
  obtain ⟨vs, h1, h2, h3⟩ := h; exact ⟨vs, h1, h2.stays hs, h3.stays hs⟩
theorem RowsK.mono {ls : List (List UInt8)} (h : RowsK K w A n ls) (hk : ∀ x, K x → K' x) : RowsK K' w A n ls := by
  obtain ⟨vs, h1, h2, h3⟩ := h; exact ⟨vs, h1, h2.mono hk, h3.mono hk⟩
theorem WaitK.mono {ls : List (Nat × List UInt8)} (h : WaitK K w A n ls) (hk : ∀ x, K x → K' x) : WaitK K' w A n ls := by
  obtain ⟨vs, h1, h2, h3⟩ := h; exact ⟨vs, h1, h2.mono hk, h3.mono hk⟩
theorem Stays.ofBelow (hb : Below w.heap.size w w') : Stays (fun x => x < w.heap.size) w w' := ⟨hb.size, fun x hx => hb.block x hx⟩
theorem HdS.lt {ls : List (List UInt8)} (h : HdS K w vs ls) : HdS (fun x => K x ∧ x < w.heap.size) w vs ls :=
  ⟨h.1, fun j hj => by obtain ⟨b', o', c', h1, h2, h3, r⟩ := h.2 j hj; exact ⟨b', o', c', h1, ⟨h2, h3⟩, h3, r⟩⟩
theorem HdW.lt {ls : List (Nat × List UInt8)} (h : HdW K w vs ls) : HdW (fun x => K x ∧ x < w.heap.size) w vs ls :=
  ⟨h.1, fun j hj => by obtain ⟨b', o', c', h0, h1, h2, h3, r⟩ := h.2 j hj; exact ⟨b', o', c', h0, h1, ⟨h2, h3⟩, h3, r⟩⟩
theorem AtRow.lt (h : AtRow K w A n sz vs) : AtRow (fun x => K x ∧ x < w.heap.size) w A n sz vs :=
  ⟨h.1, fun hp => by obtain ⟨b, o, e, h1, h2, r⟩ := h.2 hp; exact ⟨b, o, e, ⟨h1, h2⟩, h2, r⟩⟩
theorem AtRow.below (h : AtRow K w A n sz vs) (hb : Below w.heap.size w w') : AtRow K w' A n sz vs := (h.lt.stays ⟨hb.size, fun x hx => hb.block x hx.2⟩).mono fun _ hx => hx.1
theorem HdS.below {ls : List (List UInt8)} (h : HdS K w vs ls) (hb : Below w.heap.size w w') : HdS K w' vs ls := (h.lt.stays ⟨hb.size, fun x hx => hb.block x hx.2⟩).mono fun _ hx => hx.1
theorem HdW.below {ls : List (Nat × List UInt8)} (h : HdW K w vs ls) (hb : Below w.heap.size w w') : HdW K w' vs ls := (h.lt.stays ⟨hb.size, fun x hx => hb.block x hx.2⟩).mono fun _ hx => hx.1
theorem RowsK.below {ls : List (List UInt8)} (h : RowsK K w A n ls) (hb : Below w.heap.size w w') : RowsK K w' A n ls := by
  obtain ⟨vs, h1, h2, h3⟩ := h; exact ⟨vs, h1, h2.below hb, h3.below hb⟩
theorem WaitK.below {ls : List (Nat × List UInt8)} (h : WaitK K w A n ls) (hb : Below w.heap.size w w') : WaitK K w' A n ls := by
  obtain ⟨vs, h1, h2, h3⟩ := h; exact ⟨vs, h1, h2.below hb, h3.below hb⟩
theorem RowsK.rows {ls : List (List UInt8)} (h : RowsK K w A n ls) : RowsR w A n ls := by
  obtain ⟨vs, h1, h2, h3⟩ := h
  refine ⟨h1, fun hp => ?_⟩
  obtain ⟨b, o, e, _, hlt, hc⟩ := h2.2 hp
  refine ⟨b, o, e, hlt, fun j hj => ?_⟩
  obtain ⟨b', o', c', k1, _, _, k4, k5, k6⟩ := h3.2 j hj
  exact ⟨b', o', c', hc j _ k1, k4, k5, k6⟩
theorem WaitK.wait {ls : List (Nat × List UInt8)} (h : WaitK K w A n ls) : WaitR w A n ls := by
  obtain ⟨vs, h1, h2, h3⟩ := h
  refine ⟨h1, fun hp => ?_⟩
  obtain ⟨b, o, e, _, hlt, hc⟩ := h2.2 hp
  refine ⟨b, o, e, hlt, fun j hj => ?_⟩
  obtain ⟨b', o', c', k0, k1, _, _, k4, k5, k6⟩ := h3.2 j hj
  exact ⟨b', o', c', hc _ _ k0, by have := hc _ _ k1; rwa [← Nat.add_assoc] at this, k4, k5, k6⟩
theorem HdS.one {ls : List (List UInt8)} (h : HdS K w vs ls) : ∀ u ∈ vs, u.oneCell' = true := fun u hu => by
  obtain ⟨j, hj, e⟩ := List.getElem_of_mem hu
  obtain ⟨b', o', c', k1, _⟩ := h.2 j (by have := h.1; omega)
  rw [List.getElem?_eq_getElem hj, e] at k1
  injection k1 with k1
  rw [k1]; rfl
theorem HdW.one {ls : List (Nat × List UInt8)} (h : HdW K w vs ls) : ∀ u ∈ vs, u.oneCell' = true := fun u hu => by
  obtain ⟨j, hj, e⟩ := List.getElem_of_mem hu
  obtain ⟨b', o', c', k0, k1, _⟩ := h.2 (j / 2) (by have := h.1; omega)
  rcases Nat.mod_two_eq_zero_or_one j with hm | hm
  · rw [show j / 2 * 2 = j by omega, List.getElem?_eq_getElem hj, e] at k0
    injection k0 with k0
    rw [k0]; rfl
  · rw [show j / 2 * 2 + 1 = j by omega, List.getElem?_eq_getElem hj, e] at k1
    injection k1 with k1
    rw [k1]; rfl
theorem HdW.snoc {ls : List (Nat × List UInt8)} (h : HdW K w vs ls) (i b o c : Nat) (l : List UInt8) (hk : K b) (hlt : b < w.heap.size) (hc : 512 ≤ c) (hm : c ≤ maxLen) (hr : Rd w (some ⟨b, o, none⟩) 512 l) :
    HdW K w (vs ++ [.int .i64 (i : Nat), .slice (some ⟨b, o, none⟩) 512 c]) (ls ++ [(i, l)]) := by
  refine ⟨by simp [h.1]; omega, fun j hj => ?_⟩
  by_cases hj' : j < ls.length
  · obtain ⟨b', o', c', h0, h1, r⟩ := h.2 j hj'
    refine ⟨b', o', c', ?_, ?_, ?_⟩
    · rw [List.getElem?_append_left (by have := h.1; omega), List.getD, List.getElem?_append_left hj', ← List.getD]; exact h0
    · rw [List.getElem?_append_left (by have := h.1; omega)]; exact h1
    · rw [List.getD, List.getElem?_append_left hj', ← List.getD]; exact r
  · have e : j = ls.length := by simp at hj; omega
    subst e
    have hz := h.1
    refine ⟨b, o, c, ?_, ?_, hk, hlt, hc, hm, ?_⟩
    · rw [← hz]; simp [List.getD]
    · rw [← hz, List.getElem?_append_right (by omega)]; simp
    · simpa [List.getD] using hr
theorem own_row {B e : Nat} {v : Value} (ho : w.ownsRow B e sz v n vs) : ∃ A c, v = .slice A n c ∧ n ≤ c ∧ c ≤ maxLen ∧ AtRow (fun x => B ≤ x ∧ x < w.heap.size) w A n sz vs := by
  rcases ho.2 with ⟨rfl, rfl⟩ | ⟨g, cap, cur, rfl, hB, hh, hnc, hc, hs, ht⟩
  · exact ⟨none, 0, rfl, Nat.le_refl _, Nat.zero_le _, ho.1, fun h => absurd h (Nat.lt_irrefl 0)⟩
  · have hlt := (Array.getElem?_eq_some_iff.1 hh).1
    refine ⟨_, cap, rfl, hnc, hc, ho.1, fun _ => ⟨g, 0, rfl, ⟨hB, hlt⟩, hlt, fun j u hj => ?_⟩⟩
    have := ho.cells (g := g) rfl j u hj
    rwa [Addr.add_lit] at this
end

section
variable {P : Program} {ops : Array Oper} {o : Oper} {a : Act} {w : World} {J : Act → World → Prop} {Q : Exit → Act → World → Prop} {E : Prop} {K : Nat → Prop}
theorem run_appR {T e : TypeId} {z : Value} {size bytes : Nat} (el : El P T e z size bytes) (ty : TypeId) (B : Nat) (v : Value) (n : Nat) (xs : List Value) (hown : w.ownsRow B e size v n xs)
    (A : Option Addr) (m c : Nat) (vs : List Value) (hA : AtRow K w A m size vs) (h1 : ∀ u ∈ vs, u.oneCell' = true) (hb : n + m ≤ 1000000000) (hby : bytes ≤ 100) (hB : B ≤ w.heap.size) (hnil : A = none → m = 0) :
    ∃ v' w', (Builtin.append_ #[T, T] ty #[v, .slice A m c]).run P w = .ok v' w' ∧ w'.ownsRow B e size v' (n + m) (xs ++ vs) ∧ w.grownBy w' v.ownBlock := by
  obtain ⟨i, hi, hz, h2, h3⟩ := info_parts el.info
  have hbb : (n + m) * bytes ≤ 1000000000 * 100 := Nat.mul_le_mul hb hby
  rcases A with _ | ad
  · have hm := hnil rfl
    subst hm
    have hn : vs = [] := List.eq_nil_of_length_eq_zero (by rw [hA.1, Nat.zero_mul])
    subst hn
    exact ⟨v, w, run_app_nil w B T ty e i size el.und hi v n xs hown c, by simpa using hown, World.grownBy.refl _ _⟩
  · have hcells : ∀ j u, vs[j]? = some u → w.cell? (ad.add j) = some u := fun j u hj => by
      rcases Nat.eq_zero_or_pos m with h0 | h0
      · subst h0
        have hn : vs = [] := List.eq_nil_of_length_eq_zero (by rw [hA.1, Nat.zero_mul])
        subst hn
        cases hj
      · obtain ⟨b, o', e', _, _, hc⟩ := hA.2 h0
        injection e' with e'
        subst e'
        rw [Addr.add_lit]
        exact hc j u hj
    obtain ⟨v', w', hrun, r1, r2, _, _⟩ := run_append_own_at (P := P) w B T ty e i z size bytes el.und hi hz h2 h3 el.zs el.pos v n xs hown ad m c vs hA.1 hcells h1 (by unfold maxLen; omega) (by omega) hB
    exact ⟨v', w', hrun, r1, r2⟩
/-- 'append(v, x...)', x a row of values, as a step of a region that draws its order. -/
theorem step_appR {T e : TypeId} {z : Value} {size bytes : Nat} (el : El P T e z size bytes) (hgd : o.guard = none) (s x : Operand)
    (ho : o.op = .call { callee := .builtin .append, args := #[s, x], argTypes := #[T, T] })
    (B : Nat) (v : Value) (n : Nat) (xs : List Value) (hs : a.eval s = v) (hown : w.ownsRow B e size v n xs)
    (A : Option Addr) (m c : Nat) (vs : List Value) (hx : a.eval x = .slice A m c) (hA : AtRow K w A m size vs) (h1 : ∀ u ∈ vs, u.oneCell' = true)
    (hb : n + m ≤ 1000000000) (hby : bytes ≤ 100) (hB : B ≤ w.heap.size) (hnil : A = none → m = 0)
    (h : ∀ v' w', w'.ownsRow B e size v' (n + m) (xs ++ vs) → w.grownBy w' v.ownBlock → J (a.put o.dst v') w') :
    if Region.wanted o (yielded ops a.tmps) = true then Oper.wp P o a w J Q else E := by
  have hw : Region.wanted o (yielded ops a.tmps) = true := by simp [Region.wanted, hgd]
  rw [if_pos hw]
  obtain ⟨v', w', hrun, r1, r2⟩ := run_appR (P := P) (K := K) el o.type B v n xs hown A m c vs hA h1 hb hby hB hnil
  unfold Oper.wp execOp
  simp only [ho, resolve, invoke, builtin, Sem.run_bind, Sem.run_pure, Result.andThen_ok, List.map_toArray, List.map_cons, List.map_nil, hs, hx, hrun]
  exact h v' w' r1 r2
theorem wpList_appR {T e : TypeId} {z : Value} {size bytes : Nat} (el : El P T e z size bytes) {rest : List Oper} (hgd : Region.wanted o (yielded ops a.tmps) = true) (s x : Operand)
    (ho : o.op = .call { callee := .builtin .append, args := #[s, x], argTypes := #[T, T] })
    (B : Nat) (v : Value) (n : Nat) (xs : List Value) (hs : a.eval s = v) (hown : w.ownsRow B e size v n xs)
    (A : Option Addr) (m c : Nat) (vs : List Value) (hx : a.eval x = .slice A m c) (hA : AtRow K w A m size vs) (h1 : ∀ u ∈ vs, u.oneCell' = true)
    (hb : n + m ≤ 1000000000) (hby : bytes ≤ 100) (hB : B ≤ w.heap.size) (hnil : A = none → m = 0)
    (h : ∀ v' w', w'.ownsRow B e size v' (n + m) (xs ++ vs) → w.grownBy w' v.ownBlock → wpList P ops Q rest (a.put o.dst v') w') : wpList P ops Q (o :: rest) a w :=
  wpList_w hgd fun _ hK => by
    obtain ⟨v', w', hrun, r1, r2⟩ := run_appR (P := P) (K := K) el o.type B v n xs hown A m c vs hA h1 hb hby hB hnil
    unfold Oper.wp execOp
    simp only [ho, resolve, invoke, builtin, Sem.run_bind, Sem.run_pure, Result.andThen_ok, List.map_toArray, List.map_cons, List.map_nil, hs, hx, hrun]
    exact hK _ _ (h v' w' r1 r2)
end

theorem waitT : El Try.prog 28 70 (.agg #[.int .i64 0, .slice none 0 0]) 2 32 := ⟨Try.underlying28, by kernel_rfl, rfl, by decide⟩

section
variable (d : Rf) (dd a : Int) (bA : Option Addr) (bn bc : Nat) (fA : Option Addr) (fn fc : Nat) (w : World)

set_option maxRecDepth 100000 in
set_option maxHeartbeats 1000000 in
/-- A fuse. -/
theorem Go_fuse :
    Calls Try.prog 11 #[d.v, stv 3 a bA bn bc fA fn fc] w fun e w' => e = .returned (.tuple #[Rf.v { d with fuse := if a < 0 then -1 else a }, .slice none 0 0, .int .i64 0]) ∧ Below w.heap.size w w' := by
  obtain ⟨SA, sn, sc, WA, wn, wc, fuse, off, rdd, wrr⟩ := d
  have hL := laid_new w ⟨SA, sn, sc, WA, wn, wc, fuse, off, rdd, wrr⟩ 3 a bA bn bc fA fn fc
  obtain ⟨w1, hw1⟩ : ∃ w1, w1 = ((w.alloc (.cells #[.slice SA sn sc, .slice WA wn wc, .int .i64 fuse, .bool off, .int .i64 rdd, .int .i64 wrr] 30)).alloc (.cells #[.int .i64 3, .int .i64 a, .slice bA bn bc, .slice fA fn fc] 37)).alloc (.cells #[.slice none 0 0, .slice none 0 0, .int .i64 0, .bool false, .int .i64 0, .int .i64 0] 30) := ⟨_, rfl⟩
  have hB1 : Below w.heap.size w w1 := by rw [hw1]; exact (((Below.refl _ _).alloc (Nat.le_refl _) _).alloc (by simp) _).alloc (by simp; omega) _
  rw [← hw1] at hL
  have k0 : w1.cell? ⟨w.heap.size + 1, 0, none⟩ = some (.int .i64 3) := cell_of_row _ _ 0 _ _ _ hL.st
  have k1 : w1.cell? ⟨w.heap.size + 1, 1, none⟩ = some (.int .i64 a) := cell_of_row _ _ 1 _ _ _ hL.st
  have z2 := hL.r0.fz 2
  have q2 : w1.cell? ⟨w.heap.size, 2, none⟩ = some (.int .i64 fuse) := hL.r0.h2
  have R1 : RAt (w1.setCell ⟨w.heap.size, 2, none⟩ (.int .i64 a)) w.heap.size ⟨SA, sn, sc, WA, wn, wc, a, off, rdd, wrr⟩ := heap_setCell_at hL.r0 _
  have F1 : Fr (· = w.heap.size) w1 (w1.setCell ⟨w.heap.size, 2, none⟩ (.int .i64 a)) := Fr.setCell (own := (· = w.heap.size)) w1 (p := ⟨w.heap.size, 2, none⟩) rfl _
  have hk1' : (w1.setCell ⟨w.heap.size, 2, none⟩ (.int .i64 a)).heap[w.heap.size + 1]? = _ := (F1.block _ (Array.getElem?_eq_some_iff.1 hL.st).1 (fun e => by have e' : w.heap.size + 1 = w.heap.size := e; omega)).trans hL.st
  obtain ⟨w2, hw2⟩ : ∃ w2, w2 = w1.setCell ⟨w.heap.size, 2, none⟩ (.int .i64 a) := ⟨_, rfl⟩
  have R22 : RAt w2 (w.heap.size + 2) zeroR := by rw [hw2]; exact (F1.block _ hL.r2.lt (fun e => by have e' : w.heap.size + 2 = w.heap.size := e; omega)).trans hL.r2
  rw [← hw2] at R1 F1 hk1'
  have k1' : w2.cell? ⟨w.heap.size + 1, 1, none⟩ = some (.int .i64 a) := cell_of_row _ _ 1 _ _ _ hk1'
  have z22 := R1.fz 2
  have q22 : w2.cell? ⟨w.heap.size, 2, none⟩ = some (.int .i64 a) := R1.h2
  have RR1 := Lib.hid R1
  have RR22 := Lib.hid R22
  have FF1 := Lib.hid F1
  have HB1 := Lib.hid hB1
  clear hB1 R1 R22 F1 hk1' hL
  show Calls Try.prog _ #[.agg #[.slice SA sn sc, .slice WA wn wc, .int .i64 fuse, .bool off, .int .i64 rdd, .int .i64 wrr], .agg #[.int .i64 3, .int .i64 a, .slice bA bn bc, .slice fA fn fc]] w _
  by_cases h0 : a < 0
  · rw [if_pos h0]
    obtain ⟨w3, hw3⟩ : ∃ w3, w3 = w2.setCell ⟨w.heap.size, 2, none⟩ (.int .i64 (-1)) := ⟨_, rfl⟩
    have F2 : Fr (· = w.heap.size) w2 w3 := by rw [hw3]; exact Fr.setCell (own := (· = w.heap.size)) w2 (p := ⟨w.heap.size, 2, none⟩) rfl _
    have R3 : RAt w3 w.heap.size ⟨SA, sn, sc, WA, wn, wc, -1, off, rdd, wrr⟩ := by rw [hw3]; exact heap_setCell_at RR1.out _
    have R23 : RAt w3 (w.heap.size + 2) zeroR := (F2.block _ RR22.out.lt (fun e => by have e' : w.heap.size + 2 = w.heap.size := e; omega)).trans RR22.out
    have FF2 := Lib.hid (FF1.out.trans F2)
    have RR3 := Lib.hid R3
    have RR23 := Lib.hid R23
    clear F2 R3 R23
    go_enter Try.func11, Try.ntmps11
    go_wp2_with (first
      | (rw [← hw1]; clear hw1)
      | (rw [← hw2]; clear hw2)
      | (rw [← hw3]; clear hw3)
      | (with_reducible refine wpList_ldR rfl (.tmp 2) rfl rfl RR3.out ?_)
      | (with_reducible refine wpList_stR rfl (.tmp 4) (.tmp 20) rfl rfl rfl RR23.out ?_; intro w5 hR5 hF5))
    refine bodyPost_ret (res_R3 rfl rfl hR5) rfl ?_
    exact ⟨rfl, (HB1.out.trans (FF2.out.toBelow (fun x hx => by rw [show x = w.heap.size from hx]; exact Nat.le_refl _) HB1.out.size)).trans (hF5.toBelow (fun x hx => by rw [show x = w.heap.size + 2 from hx]; omega) (by have := HB1.out.size; have := FF2.out.size; omega))⟩
  · rw [if_neg h0]
    go_enter Try.func11, Try.ntmps11
    go_wp2_with (first
      | (rw [← hw1]; clear hw1)
      | (rw [← hw2]; clear hw2)
      | (with_reducible refine wpList_ldR rfl (.tmp 2) rfl rfl RR1.out ?_)
      | (with_reducible refine wpList_stR rfl (.tmp 4) (.tmp 20) rfl rfl rfl RR22.out ?_; intro w5 hR5 hF5))
    refine bodyPost_ret (res_R3 rfl rfl hR5) rfl ?_
    exact ⟨rfl, (HB1.out.trans (FF1.out.toBelow (fun x hx => by rw [show x = w.heap.size from hx]; exact Nat.le_refl _) HB1.out.size)).trans (hF5.toBelow (fun x hx => by rw [show x = w.heap.size + 2 from hx]; omega) (by have := HB1.out.size; have := FF1.out.size; omega))⟩
end
end Go.Proofs.Ytieknelmfjkbhaa
