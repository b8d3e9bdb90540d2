/- OpnF, Opn, OpnV, CmO, EcO, CmSa, EcX, BitsLd, EcZ -/
import Derived.Test.YtddiadpbkjdomaaGreatDoorQn20
import Derived.Deep.Slices
import Derived.Deep.Fields
import Derived.ChangeSame
import Derived.Lib.SmallJoins
import Derived.WideShapes
import Derived.BigQuiet
import Derived.Deep.QuietTactic
import Derived.Test.YtddiadpbkjdomaaGreatDoorRows
import Derived.LaidMore
import Derived.Lib.LaidTab
namespace Go.Proofs.YtddiadpbkjdomaaGreatDoor
open Go.RowKit Go.ChangeShapes Go.WideShapes Go.Deep

section
variable {H : Type} {enc : TypeId × Value → H} {w : World} {base : Nat} {held : Bool}

/-- One field of a struct whose fields are one cell each. -/
theorem field_at {P : Program} {t : TypeId} {fs : Array Field} {fuel : Nat} {cs : List Value} {x : DataW H × List MemPlace} (ht : P.underlying t = some (.struct fs)) (hone : oneCellFields P fs = true) (hk : P.cellsOf t = fs.size)
    (h : DataW.trod enc P w base (fun _ => true) held fuel t cs = some x) (j : Nat) (f : Field) (hj : fs[j]? = some f) : ∃ v n y, cs[j]? = some v ∧ DataW.trod enc P w base (fun _ => true) held n f.type [v] = some y := by
  obtain ⟨xs, n, _, _, hl, hxl, hf⟩ := DataW.trod_struct ht h
  obtain ⟨ho, h1⟩ := hone_of hone j f hj
  have hlt : j < fs.size := (Array.getElem?_eq_some_iff.1 hj).1
  have e := hf j f hj
  rw [ho, h1, List.drop_eq_getElem_cons (by omega), List.getElem?_eq_getElem (by omega)] at e
  exact ⟨cs[j]'(by omega), n, _, List.getElem?_eq_getElem (by omega), e⟩

/-- A slice of structs of k cells each: its elements' cells, as the reader parts them. -/
theorem elems_at {P : Program} {t e : TypeId} {fuel : Nat} {cs : List Value} {x : DataW H × List MemPlace} (ht : P.underlying t = some (.slice e)) (h : DataW.trod enc P w base (fun _ => true) held fuel t cs = some x) :
    cs = [.slice none 0 0] ∨ ∃ (a : Addr) (len cap : Nat), cs = [.slice (some a) len cap] ∧ len ≤ cap ∧ cap ≤ maxLen ∧
      ∀ i, i < len → ∃ cs' n y, (∀ j, j < P.cellsOf e → w.cell? ((a.add (i * P.cellsOf e)).add j) = cs'[j]?) ∧ DataW.trod enc P w base (fun _ => true) held n e cs' = some y := by
  rcases open_slice ht h with ⟨h0, _⟩ | ⟨a, len, cap, m, n, D, Pl, hcs, _, hl, hm, hmm, _, hi⟩
  · exact .inl h0
  · refine .inr ⟨a, len, cap, hcs, hl, hm, fun i him => ?_⟩
    have hmc : m = cap := by simpa using hmm
    obtain ⟨cs', hc, ht'⟩ := hi i (by omega)
    obtain ⟨_, _, hat⟩ := World.cells?_some hc
    exact ⟨cs', n, _, hat, ht'⟩
end
end Go.Proofs.YtddiadpbkjdomaaGreatDoor
namespace Go.Proofs.YtddiadpbkjdomaaGreatDoor
open Go.RowKit Go.ChangeShapes Go.WideShapes Go.Deep

section
variable {H : Type} {enc : TypeId × Value → H} {w : World} {base : Nat} {held : Bool}

theorem open_bytes {fuel : Nat} {cs : List Value} {x : DataW H × List MemPlace} (h : DataW.trod enc Tryz.prog w base (fun _ => true) held fuel 40 cs = some x) :
    ∃ A n c l, cs = [.slice A n c] ∧ Rd w A n l ∧ n ≤ c ∧ c ≤ maxLen := by
  rcases open_ints Tryz.underlying40 Tryz.underlying5 (by kernel_rfl) h with ⟨hcs, _⟩ | ⟨x, l, c, zs, hcs, _, hl, hm, hz, _, hcell, hwz⟩
  · exact ⟨none, 0, 0, [], hcs, Rd.nil _ _, Nat.le_refl _, Nat.zero_le _⟩
  · obtain ⟨L, hr, h1, h2⟩ := rd_of_row (w := w) (a := some x) (len := l) (cap := c) (zs := zs) (.inr ⟨x, rfl, hl, hm, by simpa using hz, hcell, hwz⟩)
    exact ⟨some x, l, c, L, hcs, hr, h1, h2⟩
end
end Go.Proofs.YtddiadpbkjdomaaGreatDoor
namespace Go.Proofs.YtddiadpbkjdomaaGreatDoor
open Go.RowKit Go.ChangeShapes Go.WideShapes Go.Deep
set_option maxRecDepth 20000

/-- Rows made of their elements' cells. -/
theorem RowsL.mk {α : Type} {sz : Nat} {E : α → List Value → Prop} {K : Nat → Prop} {w : World} {b o n : Nat} (hsz : 0 < sz) (F : Nat → α) (R : Nat → List Value) (hK : 0 < n → K b ∧ b < w.heap.size)
    (h : ∀ i, i < n → (R i).length = sz ∧ E (F i) (R i) ∧ ∀ r u, (R i)[r]? = some u → w.cell? ⟨b, o + (i * sz + r), none⟩ = some u) : RowsL sz E K w (some ⟨b, o, none⟩) n ((List.range n).map F) := by
  have hl : ∀ r ∈ (List.range n).map R, r.length = sz := fun r hr => by
    obtain ⟨i, hi, rfl⟩ := List.mem_map.1 hr
    exact (h i (List.mem_range.1 hi)).1
  refine ⟨((List.range n).map R).flatten, by simp, ⟨by rw [flatg_len hl]; simp, (fun e => by cases e), fun hp => ⟨b, o, rfl, (hK hp).1, (hK hp).2, fun j u hj => ?_⟩⟩, (List.range n).map R, rfl, by simp, hl, fun j x hx => ?_⟩
  · have hjl := (List.getElem?_eq_some_iff.1 hj).1
    rw [flatg_len hl] at hjl
    simp only [List.length_map, List.length_range] at hjl
    have hi : j / sz < n := Nat.div_lt_of_lt_mul (by rw [Nat.mul_comm]; exact hjl)
    have hr : j % sz < sz := Nat.mod_lt _ hsz
    have e : j = j / sz * sz + j % sz := by rw [Nat.mul_comm]; exact (Nat.div_add_mod j sz).symm
    have hg := flatg_get hl (k := j / sz) (i := j % sz) (r := R (j / sz)) (by rw [List.getElem?_map, List.getElem?_range hi]; rfl) hr
    rw [← e, hj] at hg
    have := (h (j / sz) hi).2.2 (j % sz) u hg.symm
    rw [← e] at this
    exact this
  · rw [List.getElem?_map] at hx
    by_cases hj : j < n
    · rw [List.getElem?_range hj] at hx
      injection hx with hx
      exact ⟨R j, by rw [List.getElem?_map, List.getElem?_range hj]; rfl, hx ▸ (h j hj).2.1⟩
    · rw [List.getElem?_eq_none (by simp; omega)] at hx
      cases hx

section
variable {H : Type} {enc : TypeId × Value → H} {w : World} {base : Nat} {held : Bool}
/-- Bytes, and where they lie. -/
theorem open_vb {fuel : Nat} {cs : List Value} {x : DataW H × List MemPlace} (h : DataW.trod enc Tryz.prog w base (fun _ => true) held fuel 40 cs = some x) :
    ∃ A n c l, cs = [.slice A n c] ∧ VB (· < w.heap.size) w (.slice A n c) l ∧ n ≤ c ∧ c ≤ maxLen := by
  obtain ⟨A, n, c, l, hcs, hr, h1, h2⟩ := open_bytes h
  refine ⟨A, n, c, l, hcs, ⟨_, _, _, rfl, hr, fun b o e hn => ?_⟩, h1, h2⟩
  obtain ⟨b', o', e', hlt, _⟩ := hr.2 hn
  rw [e] at e'
  injection e' with e'
  injection e' with e1 e2
  exact ⟨(show b < w.heap.size by omega), by omega⟩
theorem open_parts {fuel : Nat} {cs : List Value} {x : DataW H × List MemPlace} (h : DataW.trod enc Tryz.prog w base (fun _ => true) held fuel 101 cs = some x) :
    ∃ A n c ps, cs = [.slice A n c] ∧ PartsV (· < w.heap.size) w A n ps ∧ n ≤ c ∧ c ≤ maxLen ∧ ∀ p ∈ ps, p.2.length ≤ maxLen := by
  rcases elems_at Tryz.underlying101 h with h0 | ⟨a, len, cap, hcs, hl, hm, hi⟩
  · exact ⟨none, 0, 0, [], h0, PartsV.nil _ _ _, Nat.le_refl _, Nat.zero_le _, fun _ hx => absurd hx List.not_mem_nil⟩
  have h4 : Tryz.prog.cellsOf 161 = 2 := by kernel_rfl
  rw [h4] at hi
  have key : ∀ i, ∃ x : (Int × List UInt8) × Value, i < len → (w.cell? ((a.add (i * 2)).add 0) = some (.int .i64 x.1.1) ∧ w.cell? ((a.add (i * 2)).add 1) = some x.2) ∧ VB (· < w.heap.size) w x.2 x.1.2 ∧ x.1.2.length ≤ maxLen := fun i => by
    by_cases hil : i < len
    · obtain ⟨cs', n, y, hc, ht⟩ := hi i hil
      obtain ⟨v0, n0, y0, e0, t0⟩ := field_at Tryz.underlying161 (by kernel_rfl) (by kernel_rfl) ht 0 _ rfl
      obtain ⟨v1, n1, y1, e1, t1⟩ := field_at Tryz.underlying161 (by kernel_rfl) (by kernel_rfl) ht 1 _ rfl
      obtain ⟨k, ek, _, _⟩ := DataW.trod_int Tryz.underlying3 t0
      obtain ⟨bA, bn, bc, b, eb, hvb, h1, h2⟩ := open_vb t1
      simp only [List.cons.injEq, and_true] at ek eb
      subst ek eb
      have hbl : b.length = bn := by
        obtain ⟨_, _, _, e, hr, _⟩ := hvb
        injection e with _ e2 _
        rw [e2]; exact hr.1
      exact ⟨((k, b), .slice bA bn bc), fun _ => ⟨⟨(hc 0 (by decide)).trans e0, (hc 1 (by decide)).trans e1⟩, hvb, by simp only; omega⟩⟩
    · exact ⟨((0, []), .slice none 0 0), fun h => absurd h hil⟩
  obtain ⟨F, hF⟩ := Classical.axiomOfChoice key
  rcases Nat.eq_zero_or_pos len with h0 | hpos
  · subst h0
    exact ⟨some a, 0, cap, [], hcs, PartsV.nil _ _ _, hl, hm, fun _ hx => absurd hx List.not_mem_nil⟩
  obtain ⟨b, off, spot⟩ := a
  have hs := (hF 0 hpos).1.1
  have hspot : spot = none := by simpa [Addr.add] using World.cell?_spot hs
  subst hspot
  have hlt : b < w.heap.size := by simpa [Addr.add] using World.block_lt_of_cell? w _ hs
  refine ⟨_, len, cap, (List.range len).map fun i => (F i).1, hcs, RowsL.mk (by decide) (fun i => (F i).1) (fun i => [.int .i64 (F i).1.1, (F i).2]) (fun _ => ⟨hlt, hlt⟩) (fun i hi' => ⟨rfl, ⟨_, rfl, (hF i hi').2.1⟩, fun r u hr => ?_⟩), hl, hm, fun p hp => ?_⟩
  · obtain ⟨⟨c0, c1⟩, _⟩ := hF i hi'
    rw [Addr.add_lit, Addr.add_lit] at c0 c1
    match r, hr with
    | 0, hr => injection hr with hr; rw [← hr]; exact c0
    | 1, hr => injection hr with hr; rw [← hr, ← Nat.add_assoc]; exact c1
  · obtain ⟨i, hi', rfl⟩ := List.mem_map.1 hp
    exact (hF i (List.mem_range.1 hi')).2.2
end

end Go.Proofs.YtddiadpbkjdomaaGreatDoor
namespace Go.Proofs.YtddiadpbkjdomaaGreatDoor
open Go.RowKit Go.ChangeShapes Go.WideShapes Go.Deep Go.Joins
set_option maxRecDepth 20000

section
variable {H : Type} {enc : TypeId × Value → H} {w : World} {base : Nat} {held : Bool}

theorem elems_atK {P : Program} {t e : TypeId} {fuel : Nat} {cs : List Value} {x : DataW H × List MemPlace} (ht : P.underlying t = some (.slice e)) (h : DataW.trod enc P w base (fun _ => true) held fuel t cs = some x) :
    cs = [.slice none 0 0] ∨ ∃ (a : Addr) (len cap : Nat), cs = [.slice (some a) len cap] ∧ len ≤ cap ∧ cap ≤ maxLen ∧
      ∀ i, i < len → ∃ cs' n y, (∀ j, j < P.cellsOf e → w.cell? ((a.add (i * P.cellsOf e)).add j) = cs'[j]?) ∧ DataW.trod enc P w base (fun _ => true) held n e cs' = some y := by
  rcases open_slice ht h with ⟨h0, _⟩ | ⟨a, len, cap, m, n, D, Pl, hcs, _, hl, hm, hmm, _, hi⟩
  · exact .inl h0
  · refine .inr ⟨a, len, cap, hcs, hl, hm, fun i him => ?_⟩
    have hmc : m = cap := by simpa using hmm
    obtain ⟨cs', hc, ht'⟩ := hi i (by omega)
    obtain ⟨_, _, hat⟩ := World.cells?_some hc
    exact ⟨cs', n, _, hat, ht'⟩

theorem open_comp {n : Nat} {cs : List Value} {y : DataW H × List MemPlace} (h : DataW.trod enc Tryz.prog w base (fun _ => true) held n 72 cs = some y) : ∃ k : Kd, cs = [.string k.1, .int .i64 k.2] ∧ k.1.size ≤ maxLen := by
  obtain ⟨y0, y1, n1, _, hl, h0, h1⟩ := trod_struct2 Tryz.underlying72 h
  have hc2 : Tryz.prog.cellsOf 72 = 2 := by kernel_rfl
  rw [hc2] at hl
  obtain ⟨v0, v1, rfl⟩ : ∃ a b, cs = [a, b] := by
    match cs, hl with
    | [a, b], _ => exact ⟨a, b, rfl⟩
  have hs1 : Tryz.prog.cellsOf 9 = 1 := by kernel_rfl
  have hn1 : Tryz.prog.cellsOf 3 = 1 := by kernel_rfl
  have g0 : DataW.trod enc Tryz.prog w base (fun _ => true) held n1 9 [v0] = some y0 := by
    have h := h0
    change DataW.trod enc Tryz.prog w base (fun _ => true) held _ 9 (([v0, v1].drop 0).take (Tryz.prog.cellsOf 9)) = _ at h
    rw [hs1] at h
    exact h
  have g1 : DataW.trod enc Tryz.prog w base (fun _ => true) held n1 3 [v1] = some y1 := by
    have h := h1
    change DataW.trod enc Tryz.prog w base (fun _ => true) held _ 3 (([v0, v1].drop 1).take (Tryz.prog.cellsOf 3)) = _ at h
    rw [hn1] at h
    exact h
  obtain ⟨s, hs, _, hsz⟩ := DataW.trod_string Tryz.underlying9 g0
  obtain ⟨z, hz, _⟩ := DataW.trod_int Tryz.underlying3 g1
  simp only [List.cons.injEq, and_true] at hs hz
  subst hs hz
  exact ⟨(s, z), rfl, hsz⟩

theorem open_comps {fuel : Nat} {cs : List Value} {x : DataW H × List MemPlace} (h : DataW.trod enc Tryz.prog w base (fun _ => true) held fuel 22 cs = some x) :
    ∃ A n c ks, cs = [.slice A n c] ∧ KRd w A n ks ∧ Lens ks ∧ n ≤ c ∧ c ≤ maxLen := by
  rcases elems_atK Tryz.underlying22 h with h0 | ⟨a, len, cap, hcs, hl, hm, hi⟩
  · exact ⟨none, 0, 0, [], h0, KRd.nil _ _, fun k hk => (by cases hk), Nat.le_refl _, Nat.zero_le _⟩
  have h2 : Tryz.prog.cellsOf 72 = 2 := by kernel_rfl
  rw [h2] at hi
  have key : ∀ i, ∃ k : Kd, i < len → (w.cell? ((a.add (i * 2)).add 0) = some (.string k.1) ∧ w.cell? ((a.add (i * 2)).add 1) = some (.int .i64 k.2)) ∧ k.1.size ≤ maxLen := fun i => by
    by_cases hil : i < len
    · obtain ⟨cs', n, y, hc, ht⟩ := hi i hil
      obtain ⟨k, rfl, hk⟩ := open_comp ht
      exact ⟨k, fun _ => ⟨⟨hc 0 (by decide), hc 1 (by decide)⟩, hk⟩⟩
    · exact ⟨(.empty, 0), fun h => absurd h hil⟩
  obtain ⟨F, hF⟩ := Classical.axiomOfChoice key
  refine ⟨some a, len, cap, (List.range len).map F, hcs, ⟨by simp, fun hpos => ?_⟩, fun k hk => ?_, hl, hm⟩
  · obtain ⟨b, off, spot⟩ := a
    have hs := (hF 0 hpos).1.1
    have hspot : spot = none := by simpa [Addr.add] using World.cell?_spot hs
    subst hspot
    refine ⟨b, off, rfl, by simpa [Addr.add] using World.block_lt_of_cell? w _ hs, fun j hj => ?_⟩
    have hj' : j < len := by simpa using hj
    obtain ⟨⟨c0, c1⟩, _⟩ := hF j hj'
    rw [Addr.add_lit, Addr.add_lit] at c0 c1
    simp only [List.getElem_map, List.getElem_range]
    exact ⟨c0, c1⟩
  · obtain ⟨i, hi', rfl⟩ := List.mem_map.1 hk
    have := (hF i (List.mem_range.1 hi')).2
    unfold maxLen at this
    omega

theorem array5 {α : Type} {cs : Array α} (h : cs.size = 5) : ∃ c0 c1 c2 c3 c4, cs = #[c0, c1, c2, c3, c4] := by
  obtain ⟨l⟩ := cs
  match l, h with
  | [c0, c1, c2, c3, c4], _ => exact ⟨c0, c1, c2, c3, c4, rfl⟩

/-- A layout that comes in. -/
theorem open_conf {r : Reach} {b0 : Nat} {v : Value} {d : DataW H} {p : List MemPlace} (hv : Value.okWide Tryz.prog w r b0 24 v) (h : DataW.Trod enc Tryz.prog w base (fun _ => true) held 24 v d p) :
    ∃ (lg pg en gn : Int) (A : Option Addr) (n c : Nat) (ks : List Kd), v = .agg #[.int .i64 lg, .int .i64 pg, .int .i64 en, .int .i64 gn, .slice A n c] ∧ KRd w A n ks ∧ Lens ks ∧ n ≤ c ∧ c ≤ maxLen := by
  obtain ⟨cs, rfl, hsz⟩ := okWide_struct Tryz.underlying24 hv
  have hc5 : Tryz.prog.cellsOf 24 = 5 := by kernel_rfl
  obtain ⟨c0, c1, c2, c3, c4, rfl⟩ := array5 (hsz.trans hc5)
  obtain ⟨fuel, hf⟩ := h
  obtain ⟨xs, n, _, _, hl, hxl, hg⟩ := DataW.trod_struct Tryz.underlying24 hf
  have hn1 : Tryz.prog.cellsOf 3 = 1 := by kernel_rfl
  have hs1 : Tryz.prog.cellsOf 22 = 1 := by kernel_rfl
  have hx : xs.length = 5 := hxl
  have e0 := hg 0 _ rfl
  have e1 := hg 1 _ rfl
  have e2 := hg 2 _ rfl
  have e3 := hg 3 _ rfl
  have e4 := hg 4 _ rfl
  rw [List.getElem?_eq_getElem (by omega)] at e0 e1 e2 e3 e4
  have f0 : DataW.trod enc Tryz.prog w base (fun _ => true) held n 3 [c0] = some xs[0] := by
    have h := e0
    change DataW.trod enc Tryz.prog w base (fun _ => true) held _ 3 (([c0, c1, c2, c3, c4].drop 0).take (Tryz.prog.cellsOf 3)) = _ at h
    rw [hn1] at h
    exact h
  have f1 : DataW.trod enc Tryz.prog w base (fun _ => true) held n 3 [c1] = some xs[1] := by
    have h := e1
    change DataW.trod enc Tryz.prog w base (fun _ => true) held _ 3 (([c0, c1, c2, c3, c4].drop 1).take (Tryz.prog.cellsOf 3)) = _ at h
    rw [hn1] at h
    exact h
  have f2 : DataW.trod enc Tryz.prog w base (fun _ => true) held n 3 [c2] = some xs[2] := by
    have h := e2
    change DataW.trod enc Tryz.prog w base (fun _ => true) held _ 3 (([c0, c1, c2, c3, c4].drop 2).take (Tryz.prog.cellsOf 3)) = _ at h
    rw [hn1] at h
    exact h
  have f3 : DataW.trod enc Tryz.prog w base (fun _ => true) held n 3 [c3] = some xs[3] := by
    have h := e3
    change DataW.trod enc Tryz.prog w base (fun _ => true) held _ 3 (([c0, c1, c2, c3, c4].drop 3).take (Tryz.prog.cellsOf 3)) = _ at h
    rw [hn1] at h
    exact h
  have f4 : DataW.trod enc Tryz.prog w base (fun _ => true) held n 22 [c4] = some xs[4] := by
    have h := e4
    change DataW.trod enc Tryz.prog w base (fun _ => true) held _ 22 (([c0, c1, c2, c3, c4].drop 4).take (Tryz.prog.cellsOf 22)) = _ at h
    rw [hs1] at h
    exact h
  obtain ⟨lg, q0, _⟩ := DataW.trod_int Tryz.underlying3 f0
  obtain ⟨pg, q1, _⟩ := DataW.trod_int Tryz.underlying3 f1
  obtain ⟨en, q2, _⟩ := DataW.trod_int Tryz.underlying3 f2
  obtain ⟨gn, q3, _⟩ := DataW.trod_int Tryz.underlying3 f3
  obtain ⟨A, m, c, ks, q4, hK, hL, h1, h2⟩ := open_comps f4
  simp only [List.cons.injEq, and_true] at q0 q1 q2 q3 q4
  subst q0 q1 q2 q3 q4
  exact ⟨lg, pg, en, gn, A, m, c, ks, rfl, hK, hL, h1, h2⟩
end
end Go.Proofs.YtddiadpbkjdomaaGreatDoor
namespace Go.Proofs.YtddiadpbkjdomaaGreatDoor
open Go.RowKit Go.ChangeShapes Go.WideShapes Go.Deep Go.Joins
set_option maxRecDepth 20000

/-- A step: what it does, the ID, the component, the data and where it lies. -/
structure Est where
  d : Int
  i : Int
  g : Int
  kk : Int
  A : Option Addr
  n : Nat
  c : Nat
  b : List UInt8
def Est.cs (x : Est) : Array Value := seC x.d x.i x.g x.kk x.A x.n x.c
structure EstOk (K : Nat → Prop) (w : World) (x : Est) : Prop where
  v : VB K w (.slice x.A x.n x.c) x.b
  ok : okE (x.i, x.g)
  kz : (Lit.int .i64 x.kk).wf = true
  dz : (Lit.int .i64 x.d).wf = true
  nc : x.n ≤ x.c
  cm : x.c ≤ maxLen
theorem EstOk.below {K : Nat → Prop} {w w' : World} {x : Est} (h : EstOk K w x) (hb : Below w.heap.size w w') : EstOk K w' x := ⟨h.v.below hb, h.ok, h.kz, h.dz, h.nc, h.cm⟩
def EstRd (K : Nat → Prop) (w : World) (A : Option Addr) (n : Nat) (st : List Est) : Prop :=
  st.length = n ∧ (0 < n → ∃ b o, A = some ⟨b, o, none⟩ ∧ b < w.heap.size ∧ ∀ j (h : j < st.length) i u, st[j].cs[i]? = some u → w.cell? ⟨b, o + j * 5 + i, none⟩ = some u) ∧ ∀ x ∈ st, EstOk K w x
abbrev EstR (w : World) (A : Option Addr) (n : Nat) (st : List Est) : Prop := EstRd (· < w.heap.size) w A n st
theorem EstRd.below {K : Nat → Prop} {w w' : World} {A : Option Addr} {n : Nat} {st : List Est} (h : EstRd K w A n st) (hb : Below w.heap.size w w') : EstRd K w' A n st := by
  refine ⟨h.1, fun hp => ?_, fun x hx => (h.2.2 x hx).below hb⟩
  obtain ⟨b, o, e, hlt, hc⟩ := h.2.1 hp
  exact ⟨b, o, e, Nat.lt_of_lt_of_le hlt hb.size, fun j hj i u hu => (hb.cell (p := ⟨b, o + j * 5 + i, none⟩) hlt).trans (hc j hj i u hu)⟩
theorem EstRd.at_ {K : Nat → Prop} {w : World} {A : Option Addr} {n : Nat} {st : List Est} (h : EstRd K w A n st) {j : Nat} (hj : j < n) :
    ∃ b o x, A = some ⟨b, o, none⟩ ∧ b < w.heap.size ∧ st[j]? = some x ∧ EstOk K w x ∧ ∀ i u, x.cs[i]? = some u → w.cell? ⟨b, o + j * 5 + i, none⟩ = some u := by
  obtain ⟨b, o, e, hlt, hc⟩ := h.2.1 (by omega)
  have hjl : j < st.length := by rw [h.1]; exact hj
  exact ⟨b, o, st[j], e, hlt, List.getElem?_eq_getElem hjl, h.2.2 _ (List.getElem_mem hjl), hc j hjl⟩

section
variable {H : Type} {enc : TypeId × Value → H} {w : World} {base : Nat} {held : Bool}
theorem open_estep {n : Nat} {cs : List Value} {y : DataW H × List MemPlace} (h : DataW.trod enc Tryz.prog w base (fun _ => true) held n 44 cs = some y) : ∃ x : Est, cs = x.cs.toList ∧ EstOk (· < w.heap.size) w x := by
  obtain ⟨xs, n1, _, _, hl, hxl, hf⟩ := DataW.trod_struct Tryz.underlying44 h
  have hc5 : Tryz.prog.cellsOf 44 = 5 := by kernel_rfl
  rw [hc5] at hl
  obtain ⟨v0, v1, v2, v3, v4, rfl⟩ : ∃ a b c d e, cs = [a, b, c, d, e] := by
    match cs, hl with
    | [a, b, c, d, e], _ => exact ⟨a, b, c, d, e, rfl⟩
  have hx : xs.length = 4 := hxl
  have hi2 : Tryz.prog.cellsOf 39 = 2 := by kernel_rfl
  have hn1 : Tryz.prog.cellsOf 3 = 1 := by kernel_rfl
  have hb1 : Tryz.prog.cellsOf 40 = 1 := by kernel_rfl
  have e0 := hf 0 _ rfl
  have e1 := hf 1 _ rfl
  have e2 := hf 2 _ rfl
  have e3 := hf 3 _ rfl
  rw [List.getElem?_eq_getElem (by omega)] at e0 e1 e2 e3
  have f0 : DataW.trod enc Tryz.prog w base (fun _ => true) held n1 3 [v0] = some xs[0] := by
    have h := e0
    change DataW.trod enc Tryz.prog w base (fun _ => true) held _ 3 (([v0, v1, v2, v3, v4].drop 0).take (Tryz.prog.cellsOf 3)) = _ at h
    rw [hn1] at h
    exact h
  have f1 : DataW.trod enc Tryz.prog w base (fun _ => true) held n1 39 [v1, v2] = some xs[1] := by
    have h := e1
    change DataW.trod enc Tryz.prog w base (fun _ => true) held _ 39 (([v0, v1, v2, v3, v4].drop 1).take (Tryz.prog.cellsOf 39)) = _ at h
    rw [hi2] at h
    exact h
  have f2 : DataW.trod enc Tryz.prog w base (fun _ => true) held n1 3 [v3] = some xs[2] := by
    have h := e2
    change DataW.trod enc Tryz.prog w base (fun _ => true) held _ 3 (([v0, v1, v2, v3, v4].drop 3).take (Tryz.prog.cellsOf 3)) = _ at h
    rw [hn1] at h
    exact h
  have f3 : DataW.trod enc Tryz.prog w base (fun _ => true) held n1 40 [v4] = some xs[3] := by
    have h := e3
    change DataW.trod enc Tryz.prog w base (fun _ => true) held _ 40 (([v0, v1, v2, v3, v4].drop 4).take (Tryz.prog.cellsOf 40)) = _ at h
    rw [hb1] at h
    exact h
  obtain ⟨d, q0, _, wd⟩ := DataW.trod_int Tryz.underlying3 f0
  obtain ⟨va, na, ya, ea, ta⟩ := field_at Tryz.underlying39 (by kernel_rfl) (by kernel_rfl) f1 0 _ rfl
  obtain ⟨vb, nb, yb, eb, tb⟩ := field_at Tryz.underlying39 (by kernel_rfl) (by kernel_rfl) f1 1 _ rfl
  obtain ⟨i, qa, _, wi⟩ := DataW.trod_int Tryz.underlying3 ta
  obtain ⟨g, qb, _, wg⟩ := DataW.trod_int Tryz.underlying3 tb
  obtain ⟨kk, q2, _, wk⟩ := DataW.trod_int Tryz.underlying3 f2
  obtain ⟨bA, bn, bc, b, q3, hV, hb1', hb2⟩ := open_vb f3
  simp only [List.cons.injEq, and_true] at q0 qa qb q2 q3
  subst q0 qa qb q2 q3
  have ea' : v1 = .int .i64 i := by simpa using ea
  have eb' : v2 = .int .i64 g := by simpa using eb
  subst ea' eb'
  exact ⟨⟨d, i, g, kk, bA, bn, bc, b⟩, rfl, ⟨hV, ⟨wi, wg⟩, wk, wd, hb1', hb2⟩⟩
/-- A step that comes in by value. -/
theorem open_estepV {r : Reach} {b0 : Nat} {v : Value} {d : DataW H} {p : List MemPlace} (hv : Value.okWide Tryz.prog w r b0 44 v) (h : DataW.Trod enc Tryz.prog w base (fun _ => true) held 44 v d p) :
    ∃ (sd si sg sk : Int) (A : Option Addr) (n c : Nat) (b : List UInt8), v = .agg #[.int .i64 sd, .int .i64 si, .int .i64 sg, .int .i64 sk, .slice A n c] ∧ EstOk (· < w.heap.size) w ⟨sd, si, sg, sk, A, n, c, b⟩ := by
  obtain ⟨cs, rfl, _⟩ := okWide_struct Tryz.underlying44 hv
  obtain ⟨fuel, hf⟩ := h
  obtain ⟨x, e, hx⟩ := open_estep hf
  have e' : cs.toList = x.cs.toList := e
  have e2 : cs = x.cs := by
    have := congrArg List.toArray e'
    simpa using this
  exact ⟨x.d, x.i, x.g, x.kk, x.A, x.n, x.c, x.b, by rw [e2]; rfl, hx⟩
theorem open_esteps {fuel : Nat} {cs : List Value} {x : DataW H × List MemPlace} (h : DataW.trod enc Tryz.prog w base (fun _ => true) held fuel 25 cs = some x) :
    ∃ A n c st, cs = [.slice A n c] ∧ EstRd (· < w.heap.size) w A n st ∧ n ≤ c ∧ c ≤ maxLen := by
  rcases elems_at Tryz.underlying25 h with h0 | ⟨a, len, cap, hcs, hl, hm, hi⟩
  · exact ⟨none, 0, 0, [], h0, ⟨rfl, fun h => absurd h (Nat.lt_irrefl 0), fun _ hx => absurd hx List.not_mem_nil⟩, Nat.le_refl _, Nat.zero_le _⟩
  have h3 : Tryz.prog.cellsOf 44 = 5 := by kernel_rfl
  rw [h3] at hi
  have key : ∀ i, ∃ x : Est, i < len → (∀ r u, x.cs[r]? = some u → w.cell? ((a.add (i * 5)).add r) = some u) ∧ EstOk (· < w.heap.size) w x := fun i => by
    by_cases hil : i < len
    · obtain ⟨cs', n, y, hc, ht⟩ := hi i hil
      obtain ⟨x, rfl, hx⟩ := open_estep ht
      refine ⟨x, fun _ => ⟨fun r u hr => ?_, hx⟩⟩
      have hr7 : r < 5 := by
        have := (Array.getElem?_eq_some_iff.1 hr).1
        exact this
      rw [hc r hr7]
      simpa using hr
    · exact ⟨⟨0, 0, 0, 0, none, 0, 0, []⟩, fun h => absurd h hil⟩
  obtain ⟨F, hF⟩ := Classical.axiomOfChoice key
  refine ⟨some a, len, cap, (List.range len).map F, hcs, ⟨by simp, fun hpos => ?_, fun x hx => ?_⟩, hl, hm⟩
  · obtain ⟨b, off, spot⟩ := a
    have hs := (hF 0 hpos).1 0 _ rfl
    have hspot : spot = none := by simpa [Addr.add] using World.cell?_spot hs
    subst hspot
    refine ⟨b, off, rfl, by simpa [Addr.add] using World.block_lt_of_cell? w _ hs, fun j hj i u hu => ?_⟩
    have hj' : j < len := by simpa using hj
    simp only [List.getElem_map, List.getElem_range] at hu
    have := (hF j hj').1 i u hu
    rw [Addr.add_lit, Addr.add_lit] at this
    exact this
  · obtain ⟨i, hi', rfl⟩ := List.mem_map.1 hx
    exact (hF i (List.mem_range.1 hi')).2
end

/-- Is it more than is asked? -/
def EMuch (n : Nat) (st : List Est) (w : World) (e : Ending) (w' : World) : Prop := w = w' ∧ ∃ r, e = .returned (.bool r) ∧ (r = false → n ≤ 60 ∧ ∀ (j : Nat) (x : Est), j < 100 → st[j]? = some x → x.n ≤ 200)
set_option maxHeartbeats 1000000 in
theorem EMuch_any {K : Nat → Prop} (w : World) (A : Option Addr) (n c : Nat) (st : List Est) (h : EstRd K w A n st) (hn : n ≤ 9223372036854775807) :
    Calls Tryz.prog 8 #[.slice A n c] w (EMuch n st w) := by
  have H := Lib.hid h
  clear h
  go_enter Tryz.func8, Tryz.ntmps8
  go_wp2
  go_loopw [3] (fun iv wr => ∃ j : Nat, j ≤ n ∧ j ≤ 100 ∧ iv = .int .i64 j ∧ w = wr ∧ ∀ (k : Nat) (x : Est), k < j → st[k]? = some x → x.n ≤ 200) (fun iv _ => n - (intOf iv).toNat)
  case atStart => exact ⟨0, Nat.zero_le _, Nat.zero_le _, rfl, rfl, fun k x hk => absurd hk (Nat.not_lt_zero k)⟩
  case round =>
    obtain ⟨j, hj, hj1, rfl, rfl, hno⟩ := hrel
    by_cases hjn : j < n ∧ j < 100
    · obtain ⟨hjn, hj100⟩ := hjn
      obtain ⟨b, o, x, hA, hlt, hx, hok, hc⟩ := H.out.at_ hjn
      have HA := Lib.hid hA
      subst hA
      have k4 : w.cell? ⟨b, o + j * 5 + 4, none⟩ = some (.slice x.A x.n x.c) := hc 4 _ rfl
      have d100 : decide ((j : Int) < 100) = true := decide_eq_true (by omega)
      have hcm := hok.cm
      have hnc := hok.nc
      unfold maxLen at hcm
      have HX := Lib.hid hx
      have HNO := Lib.hid hno
      obtain ⟨bA, bn, bc, hb1, hb2, hb3⟩ : ∃ bA bn bc, x.A = bA ∧ x.n = bn ∧ x.c = bc := ⟨_, _, _, rfl, rfl, rfl⟩
      rw [hb1, hb2, hb3] at k4
      rw [hb3] at hcm
      rw [hb2, hb3] at hnc
      have HB2 := Lib.hid hb2
      clear hc hok hx hno hb1 hb2 hb3
      by_cases h40 : 200 < bn
      · have d40 : decide ((200 : Int) < (bn : Int)) = true := decide_eq_true (by omega)
        go_wp2
        go_ret
        exact ⟨rfl, true, rfl, fun e => by cases e⟩
      · have d40 : decide ((200 : Int) < (bn : Int)) = false := decide_eq_false (by omega)
        go_wp2
        go_roundw
        case rel =>
          refine ⟨j + 1, hjn, by omega, by go_num, by first | rfl | trivial, fun k y hk hy => ?_⟩
          by_cases e : k = j
          · subst e
            rw [HX.out] at hy
            injection hy with hy
            rw [← hy, HB2.out]
            omega
          · exact HNO.out k y (by omega) hy
        case measure => simp [intOf]; omega
    · rcases Nat.lt_or_ge j n with h1 | h1
      · have d100 : decide ((j : Int) < 100) = false := decide_eq_false (by omega)
        have dn : decide ((60 : Int) < (n : Int)) = true := decide_eq_true (by omega)
        have HNO := Lib.hid hno
        clear hno
        go_wp2
        go_ret
        exact ⟨rfl, true, rfl, fun e => by cases e⟩
      · obtain rfl : j = n := Nat.le_antisymm hj h1
        have HNO := Lib.hid hno
        clear hno
        by_cases h60 : 60 < j
        · have dn : decide ((60 : Int) < (j : Int)) = true := decide_eq_true (by omega)
          go_wp2
          go_ret
          exact ⟨rfl, true, rfl, fun e => by cases e⟩
        · have dn : decide ((60 : Int) < (j : Int)) = false := decide_eq_false (by omega)
          go_wp2
          go_ret
          refine ⟨rfl, false, rfl, fun _ => ⟨by omega, fun k x hk hx => ?_⟩⟩
          have := (List.getElem?_eq_some_iff.1 hx).1
          rw [H.out.1] at this
          exact HNO.out k x this hx
end Go.Proofs.YtddiadpbkjdomaaGreatDoor
namespace Go.Proofs.YtddiadpbkjdomaaGreatDoor
open Go.RowKit
set_option linter.unusedVariables false
set_option maxRecDepth 20000

theorem below_drewNc (w : World) (n : Nat) : Below w.heap.size w (w.drewN n) := by
  induction n with
  | zero => exact Below.refl _ _
  | succ n ih => exact ih.drew

section
variable (lg pg en gn : Int) (A : Option Addr) (n cap : Nat) (ks : List Kd) (w : World)
theorem RSame_yes (A' : Option Addr) (cap' : Nat) (h : KRd w A n ks) (h' : KRd w A' n ks) (hn : n ≤ 1000000) :
    Calls Tryz.prog 12 #[cv lg pg en gn A n cap, cv lg pg en gn A' n cap'] w fun e w' => e = .returned (.bool true) ∧ Below w.heap.size w w' := by
  obtain ⟨w1, hw1⟩ : ∃ w1, w1 = w.alloc (.cells (cc lg pg en gn A n cap) 24) := ⟨_, rfl⟩
  have C1 := CAt.new h lg pg en gn cap
  rw [← hw1] at C1
  obtain ⟨w2, hw2⟩ : ∃ w2, w2 = w1.alloc (.cells (cc lg pg en gn A' n cap') 24) := ⟨_, rfl⟩
  have C2 := CAt.new (w := w1) (h'.below C1.bel) lg pg en gn cap'
  rw [← hw2] at C2
  obtain ⟨g, hg⟩ : ∃ g, g = w.heap.size := ⟨_, rfl⟩
  rw [← hg] at C1
  have hg2 : w1.heap.size = g + 1 := by rw [hw1, hg]; simp
  rw [hg2] at C2
  have hw12 : w2 = (w.alloc (.cells (cc lg pg en gn A n cap) 24)).alloc (.cells (cc lg pg en gn A' n cap') 24) := by rw [hw2, hw1]
  have C1' := C1.next C2.bel
  have c0 := C1'.c0
  have c1 := C1'.c1
  have c2 := C1'.c2
  have c3 := C1'.c3
  have c4 := C1'.c4
  have d0 := C2.c0
  have d1 := C2.c1
  have d2 := C2.c2
  have d3 := C2.c3
  have d4 := C2.c4
  have hl := h.1
  have K1 := Lib.hid C1'
  have K2 := Lib.hid C2
  have HG := Lib.hid hg
  clear h h' hg hg2 hw1 hw2 C1 C2 C1'
  go_enter Tryz.func12, Tryz.ntmps12
  go_wp2_with (rw [← hw12, ← HG.out]; clear hw12)
  clear c0 c1 c2 c3 d0 d1 d2 d3
  go_loopw [5] (fun i wr => ∃ j nn : Nat, j ≤ n ∧ i = .int .i64 j ∧ wr = w2.drewN nn) (fun i _ => n - (intOf i).toNat)
  case atStart => exact ⟨0, 0, Nat.zero_le _, rfl, rfl⟩
  case round =>
    obtain ⟨j, nn, hj, rfl, rfl⟩ := hrel
    by_cases hlt : j < n
    · obtain ⟨b, o, s, z, rfl, _, k0, k1, hl', hk⟩ := K1.out.rd.at_ hlt
      obtain ⟨b', o', s', z', rfl, _, k0', k1', hl'', hk'⟩ := K2.out.rd.at_ hlt
      obtain ⟨rfl, rfl⟩ : s = s' ∧ z = z' := by
        have := hk.symm.trans hk'
        simpa using this
      clear hk hk'
      have hlt' : (j : Int) < (n : Int) := by omega
      go_wp2
      go_quiet (fail)
      go_wp2
      go_roundw
      case rel => exact ⟨j + 1, _, hlt, by go_num, rfl⟩
      case measure => simp [intOf]; omega
    · go_wp2
      go_ret
      exact ⟨rfl, K1.out.bel.trans ((below_drewNc w2 nn).mono K1.out.bel.size)⟩
end
end Go.Proofs.YtddiadpbkjdomaaGreatDoor
namespace Go.Proofs.YtddiadpbkjdomaaGreatDoor
open Go.RowKit
set_option maxRecDepth 20000

theorem Stb.below {w : World} {g : Nat} (hg : w.heap.size ≤ g) : Stb g (fun W => Below w.heap.size w W) :=
  ⟨fun _ _ h h2 => h.trans (h2.mono h.size), fun _ _ h h2 => h.trans (h2.toBelow (fun y hy => by rw [show y = g from hy]; exact hg) h.size)⟩
theorem edo_nil (d i g kk : Int) (DA : Option Addr) (dn dc : Nat) (w : World) :
    Calls Tryz.prog 14 #[.pointer none, .agg (seC d i g kk DA dn dc)] w fun e w' => e = .returned (.tuple #[.agg #[.int .i64 0, .int .i64 0], .slice none 0 0, .int .i64 4]) ∧ Below w.heap.size w w' := by
  have hS : Stb (w.heap.size + 1) (fun W => Below w.heap.size w W) := Stb.below (Nat.le_succ _)
  by_cases h1 : d = 1
  · subst h1
    exact do_1 (.pointer none) i g kk DA dn dc 4 w hS (Lib.hid fun W hW => (edespawn_err (.pointer none) i g 4 (by decide) W (Lib.hid fun W' _ => efind_nil i g W')).mono fun e w' h => ⟨h.1, hW.trans (h.2.mono hW.size), Kp.ofBelow h.2⟩)
  by_cases h2 : d = 2
  · subst h2
    exact do_2 (.pointer none) i g kk DA dn dc 4 w hS (Lib.hid fun W hW => (eset_err (.pointer none) i g kk 4 (by decide) _ W (Lib.hid fun W' _ => eask_nil i g kk W')).mono fun e w' h => ⟨h.1, hW.trans (h.2.mono hW.size), Kp.ofBelow h.2⟩)
  by_cases h3 : d = 3
  · subst h3
    exact do_3 (.pointer none) i g kk DA dn dc 4 w hS (Lib.hid fun W hW => (eremove_err (.pointer none) i g kk 4 (by decide) W (Lib.hid fun W' _ => eask_nil i g kk W')).mono fun e w' h => ⟨h.1, hW.trans (h.2.mono hW.size), Kp.ofBelow h.2⟩)
  by_cases h4 : d = 4
  · subst h4
    refine (do_4 (.pointer none) i g kk DA dn dc 4 w (Φ := fun A m cc W => (A = none ∧ m = 0 ∧ cc = 0) ∧ Below w.heap.size w W) (fun A m cc => ⟨fun w1 w2 h hb => ⟨h.1, hS.more _ _ h.2 hb⟩, fun w1 w2 h hb => ⟨h.1, hS.put _ _ h.2 hb⟩⟩)
      (Lib.hid fun W hW => (eget_err (.pointer none) i g kk 4 (by decide) W (Lib.hid fun W' _ => eask_nil i g kk W')).mono fun e w' h => ⟨none, 0, 0, h.1, ⟨⟨rfl, rfl, rfl⟩, hW.trans (h.2.mono hW.size)⟩, Kp.ofBelow h.2⟩)).mono ?_
    rintro e w' ⟨A, m, cc, rfl, ⟨rfl, rfl, rfl⟩, hb⟩
    exact ⟨rfl, hb⟩
  exact do_0 (.pointer none) i g kk DA dn dc 4 w d h1 h2 h3 h4 0 0 hS (Lib.hid fun W hW => (espawn_nil W).mono fun e w' h => ⟨h.1, hW.trans (h.2.mono hW.size), Kp.ofBelow h.2⟩)
theorem erows_nil (w : World) : Calls Tryz.prog 23 #[.pointer none] w fun e w' => e = .returned (.slice none 0 0) ∧ w = w' := by
  go_enter Tryz.func23, Tryz.ntmps23
  go_wp2
  go_ret
  exact ⟨rfl, rfl⟩
abbrev stZ : Array Value := #[.slice none 0 0, .slice none 0 0, .slice none 0 0]
theorem state_start (w : World) : ∃ w1, w1 = w.alloc (.cells stZ 37) ∧ Below w.heap.size w w1 ∧ Rec 37 w1 w.heap.size stZ := ⟨_, rfl, (Below.refl _ _).alloc (Nat.le_refl _) _, Rec.new w _ _⟩
theorem wpList_stSt {ops : Array Oper} {rest : List Oper} {o : Oper} {a : Act} {w : World} {Q : Exit → Act → World → Prop} {g : Nat} {cs : Array Value} (GA : Option Addr) (gn gc : Nat) (FA : Option Addr) (fn fc : Nat) (EA : Option Addr) (en ec : Nat) (hn : cs.size = 3) (hgd : Region.wanted o (yielded ops a.tmps) = true) (x y : Operand) (ho : o.op = .store 37 x y)
    (hx : a.eval x = .pointer (some ⟨g, 0, none⟩)) (hy : a.eval y = .agg (stC GA gn gc FA fn fc EA en ec)) (h : Rec 37 w g cs)
    (kk : ∀ w', Rec 37 w' g (stC GA gn gc FA fn fc EA en ec) → Fr (· = g) w w' → wpList Tryz.prog ops Q rest (a.put o.dst undef) w') : wpList Tryz.prog ops Q (o :: rest) a w :=
  wpList_stS stT hn rfl (by simp [Value.oneCell']) hgd x y ho hx hy h kk
theorem estate_nil (w : World) : Calls Tryz.prog 19 #[.pointer none] w fun e w' => e = .returned (.agg (stC none 0 0 none 0 0 none 0 0)) ∧ Below w.heap.size w w' := by
  obtain ⟨w1, hw1, hb1, r1⟩ := state_start w
  have R1 := Lib.hid r1
  have HB := Lib.hid hb1
  clear r1 hb1
  go_enter Tryz.func19, Tryz.ntmps19
  go_wp2_with (first
    | (rw [← hw1]; clear hw1)
    | ((with_reducible refine wpList_stSt none 0 0 none 0 0 none 0 0 rfl rfl (.tmp 2) (.tmp 12) rfl rfl rfl R1.out ?_); intro w5 hR5 hF5))
  refine bodyPost_ret (res_c rfl rfl (hR5.load stT rfl)) rfl ?_
  exact ⟨rfl, HB.out.trans (hF5.toBelow (fun y hy => by rw [show y = w.heap.size from hy]; exact Nat.le_refl _) HB.out.size)⟩
theorem IRd.none (w : World) : IRd w none 0 [] := ⟨rfl, fun h => absurd h (Nat.lt_irrefl 0)⟩
theorem StV.nil (K : Nat → Prop) (w : World) : StV K w none 0 none 0 none 0 [] [] [] := ⟨IRd.none w, IRd.none w, EntsV.nil _ _ _⟩
theorem EstRd.one (w : World) (x : Est) (hx : EstOk (· < w.heap.size) w x) : EstRd (· < w.heap.size) (w.alloc (.cells (seC x.d x.i x.g x.kk x.A x.n x.c) 44)) (some ⟨w.heap.size, 0, none⟩) 1 [x] := by
  refine ⟨rfl, fun _ => ⟨_, _, rfl, by simp, fun j hj i u hu => ?_⟩, fun y hy => ?_⟩
  · obtain rfl : j = 0 := by simp at hj; omega
    have hr := (Rec.new w 44 (seC x.d x.i x.g x.kk x.A x.n x.c)).at_ i
    simp only [Nat.zero_mul, Nat.zero_add]
    exact hr.trans hu
  · obtain rfl := List.mem_singleton.1 hy
    exact hx.below ((Below.refl _ _).alloc (Nat.le_refl _) _)
set_option maxHeartbeats 1000000 in
theorem EcsNils_walk (d i g kk : Int) (A : Option Addr) (n c : Nat) (b : List UInt8) (wi : Nat) (w : World) (hE : EstOk (· < w.heap.size) w ⟨d, i, g, kk, A, n, c, b⟩) (hT : TabAt w) :
    Calls Tryz.prog 6 #[.agg (seC d i g kk A n c), .int .u64 wi] w fun e w' => e = .returned (.bool true) ∧ Below w.heap.size w w' := by
  obtain ⟨w1, hw1⟩ : ∃ w1, w1 = w.alloc (.cells (seC d i g kk A n c) 44) := ⟨_, rfl⟩
  have hb1 : Below w.heap.size w w1 := by rw [hw1]; exact (Below.refl _ _).alloc (Nat.le_refl _) _
  have r1 : Rec 44 w1 w.heap.size (seC d i g kk A n c) := by rw [hw1]; exact Rec.new w _ _
  obtain ⟨w2, hw2⟩ : ∃ w2, w2 = w1.alloc (.cells (seC d i g kk A n c) 44) := ⟨_, rfl⟩
  have hb2 : Below w1.heap.size w1 w2 := by rw [hw2]; exact (Below.refl _ _).alloc (Nat.le_refl _) _
  have hx1 : EstOk (· < w1.heap.size) w1 ⟨d, i, g, kk, A, n, c, b⟩ := ⟨(hE.below hb1).v.mono (fun y hy => Nat.lt_of_lt_of_le hy hb1.size), hE.ok, hE.kz, hE.dz, hE.nc, hE.cm⟩
  have CM : Calls Tryz.prog 8 #[.slice (some ⟨w1.heap.size, 0, none⟩) 1 1] w2 (EMuch 1 [⟨d, i, g, kk, A, n, c, b⟩] w2) := EMuch_any (K := (· < w1.heap.size)) w2 _ 1 1 _ (by rw [hw2]; exact EstRd.one w1 _ hx1) (by decide)
  have hb12 := hb1.trans (hb2.mono hb1.size)
  have CL := Lib.hid (elive_any w2 (hT.below hb12))
  have r2 := r1.under hb2
  have k0 := r1.at_ 0
  have k1 := r1.at_ 1
  have k2 := r1.at_ 2
  have k3 := r1.at_ 3
  have k4 := r1.at_ 4
  have CD := Lib.hid (edo_nil d i g kk A n c w2)
  have HB := Lib.hid (And.intro hb12 (And.intro r2 (hT.below hb12)))
  have R1 := Lib.hid r1
  have CM := Lib.hid CM
  clear hE hT hx1 hb1 hb2 hb12 r1 r2
  go_enter Tryz.func6, Tryz.ntmps6
  go_wp2_with (first
    | (rw [← hw1]; clear hw1)
    | ((with_reducible refine wpList_ldS stepT rfl rfl (.tmp 2) rfl rfl R1.out ?_))
    | (rw [← hw2]; clear hw2))
  refine CM.out.mono ?_
  rintro e _ ⟨rfl, r, rfl, _⟩
  clear CM R1
  cases r with
  | true =>
    go_wp2_with (go_at_call 9; refine CL.out.mono ?_; rintro e w3 ⟨rfl, hb3⟩)
    go_ret
    exact ⟨rfl, HB.out.1.trans (hb3.mono HB.out.1.size)⟩
  | false =>
    clear CL
    go_wp2_with (first
      | ((with_reducible refine wpList_ldS stepT rfl rfl (.tmp 2) rfl rfl HB.out.2.1 ?_))
      | (go_at_call 14; refine CD.out.mono ?_; rintro e w3 ⟨rfl, hb3⟩; obtain ⟨w4, hw4⟩ : ∃ w4, w4 = w3.alloc (.cells #[.int .i64 0, .int .i64 0] 39) := ⟨_, rfl⟩; have R4 := Lib.hid (show Rec 39 w4 w3.heap.size #[.int .i64 0, .int .i64 0] by rw [hw4]; exact Rec.new w3 _ _); have HB4 := Lib.hid (And.intro hb3 (show Below w3.heap.size w3 w4 by rw [hw4]; exact (Below.refl _ _).alloc (Nat.le_refl _) _)); clear hb3 CD)
      | (rw [← hw4]; clear hw4)
      | ((with_reducible refine wpList_stP rfl (.tmp 6) (.tmp 17) rfl rfl rfl R4.out ?_); intro w5 hR5 hF5; have hb25 : Below w2.heap.size w2 w5 := (HB4.out.1.trans (HB4.out.2.mono HB4.out.1.size)).trans (hF5.toBelow (fun y hy => by rw [show y = w3.heap.size from hy]; exact HB4.out.1.size) (Nat.le_trans HB4.out.1.size HB4.out.2.size)); have HW5 := Lib.hid (And.intro (HB.out.1.trans (hb25.mono HB.out.1.size)) (HB.out.2.2.below hb25)); have rb := HB.out.2.1.under hb25; have j1 : w5.cell? ⟨w.heap.size, 1, none⟩ = some (.int .i64 i) := rb.at_ 1; have j2 : w5.cell? ⟨w.heap.size, 2, none⟩ = some (.int .i64 g) := rb.at_ 2; have m0 := hR5.at_ 0; have m1 := hR5.at_ 1; clear hR5 hF5 hb25 rb R4 HB4)
      | (go_at_call 30; refine (ealive_nil i g w5).mono ?_; rintro e w6 ⟨rfl, hb6⟩; have HW6 := Lib.hid (And.intro (HW5.out.1.trans (hb6.mono HW5.out.1.size)) (HW5.out.2.below hb6)); clear hb6 j1 j2 m0 m1)
      | (go_at_call 17; refine (ecount_nil w6).mono ?_; rintro e w' ⟨rfl, rfl⟩)
      | (go_at_call 21; refine (equery_nil wi 0 w6).mono ?_; rintro e w' ⟨rfl, rfl⟩)
      | (go_at_call 23; refine (erows_nil w6).mono ?_; rintro e w' ⟨rfl, rfl⟩)
      | (go_at_call 19; refine (estate_nil w6).mono ?_; rintro e w7 ⟨rfl, hb7⟩; have HW7 := Lib.hid (And.intro (HW6.out.1.trans (hb7.mono HW6.out.1.size)) (HW6.out.2.below hb7)); clear hb7)
      | (go_at_call 18; refine (RSameS_yes (K := fun _ => True) (K' := fun _ => True) none 0 0 none 0 0 none 0 0 none 0 none 0 none 0 [] [] [] w7 (StV.nil _ _) (StV.nil _ _) (by decide) (by decide) (by decide) (fun _ h => absurd h List.not_mem_nil)).mono ?_; rintro e w8 ⟨rfl, hb8⟩; have HW8 := Lib.hid (And.intro (HW7.out.1.trans (hb8.mono HW7.out.1.size)) (HW7.out.2.below hb8)); clear hb8)
      | (go_at_call 13; refine (econf_nil w8).mono ?_; rintro e w9 ⟨rfl, hb9⟩; have HW9 := Lib.hid (And.intro (HW8.out.1.trans (hb9.mono HW8.out.1.size)) (HW8.out.2.below hb9)); clear hb9)
      | (go_at_call 12; refine (RSame_yes (w := w9) (lg := 0) (pg := 0) (en := 0) (gn := 0) (A := none) (n := 0) (cap := 0) (ks := []) none 0 (KRd.nil _ _) (KRd.nil _ _) (by decide)).mono ?_; rintro e w10 ⟨rfl, hb10⟩; have HW10 := Lib.hid (And.intro (HW9.out.1.trans (hb10.mono HW9.out.1.size)) (HW9.out.2.below hb10)); clear hb10)
      | (go_at_call 9; refine (elive_any w10 HW10.out.2).mono ?_; rintro e w11 ⟨rfl, hb11⟩))
    go_ret
    exact ⟨rfl, HW10.out.1.trans (hb11.mono HW10.out.1.size)⟩
end Go.Proofs.YtddiadpbkjdomaaGreatDoor
namespace Go.Proofs.YtddiadpbkjdomaaGreatDoor
open Go.RowKit

theorem tab_of_laid {W : World} (h : laidMetH Tryz.prog [("math/bits.deBruijn64tab", Rows.laid_math_bits_deBruijn64tab)] W) : TabAt W := by
  rw [MakeChecks.laidMetH_plain _ _ _ (by kernel_rfl)] at h
  have hg : Tryz.prog.globalNamed "math/bits.deBruijn64tab" = some 0 := by kernel_rfl
  have ht : Lib.TabIs Tryz.prog W "math/bits.deBruijn64tab" .u8 (Lib.deBruijn64tab.map Int.ofNat) :=
    Lib.tabIs_of_head (n := 64) (rest := []) hg (by kernel_rfl) Tryz.underlying255 Tryz.underlying5 (by kernel_rfl) (by kernel_rfl) h
  intro j hj
  have hl : j < Lib.deBruijn64tab.length := hj
  rw [ht.cell hg j (by rw [List.length_map]; exact hl)]
  have e : (Lib.deBruijn64tab.map Int.ofNat).getD j 0 = ((Lib.deBruijn64tab.getD j 0 : Nat) : Int) := by
    simp [List.getD, hl]
  rw [e]
theorem u64_of {a : Int} (h : (Lit.int .u64 a).wf = true) : ∃ b : Nat, a = (b : Int) ∧ b < 18446744073709551616 := by
  have hb := bounds_u64 h
  exact ⟨a.toNat, by omega, by omega⟩
end Go.Proofs.YtddiadpbkjdomaaGreatDoor

