/- Slices of steps as they lie in memory, and as the row's frame reads them. -/
import Derived.Test.YtldabjgnnmoneaaIdF
import Derived.Deep.Slices
import Derived.Deep.Fields
import Derived.ChangeSame
namespace Go.Proofs.Ytldabjgnnmoneaa
open Go.RowKit Go.ChangeShapes Go.WideShapes Go.Deep

/-- A slice of steps. -/
def TRd (w : World) (A : Option Addr) (n : Nat) (st : List Stg) : Prop :=
  st.length = n ∧ (0 < n → ∃ b o, A = some ⟨b, o, none⟩ ∧ b < w.heap.size ∧ ∀ j (h : j < st.length), w.cell? ⟨b, o + j * 3, none⟩ = some (.bool st[j].give) ∧ w.cell? ⟨b, o + j * 3 + 1, none⟩ = some (.int .i64 st[j].i) ∧ w.cell? ⟨b, o + j * 3 + 2, none⟩ = some (.int .i64 st[j].gen))
theorem TRd.below {w w' : World} {A : Option Addr} {n : Nat} {st : List Stg} (h : TRd w A n st) (hb : Below w.heap.size w w') : TRd w' A n st :=
  ⟨h.1, fun hp => by
    obtain ⟨b, o, e, hlt, hc⟩ := h.2 hp
    refine ⟨b, o, e, Nat.lt_of_lt_of_le hlt hb.size, fun j hj => ?_⟩
    obtain ⟨h0, h1, h2⟩ := hc j hj
    exact ⟨(hb.cell (p := ⟨b, o + j * 3, none⟩) hlt).trans h0, (hb.cell (p := ⟨b, o + j * 3 + 1, none⟩) hlt).trans h1, (hb.cell (p := ⟨b, o + j * 3 + 2, none⟩) hlt).trans h2⟩⟩

section
variable {H : Type} {enc : TypeId × Value → H} {w : World} {base : Nat} {held : Bool}

/-- A slice of structs of k cells each: its elements' cells, as the reader parts them. -/
theorem elems_atT {P : Program} {t e : TypeId} {fuel : Nat} {cs : List Value} {x : DataW H × List MemPlace} (ht : P.underlying t = some (.slice e)) (h : DataW.trod enc P w base (fun _ => true) held fuel t cs = some x) :
    cs = [.slice none 0 0] ∨ ∃ (a : Addr) (len cap : Nat), cs = [.slice (some a) len cap] ∧ len ≤ cap ∧ cap ≤ maxLen ∧
      ∀ i, i < len → ∃ cs' n y, (∀ j, j < P.cellsOf e → w.cell? ((a.add (i * P.cellsOf e)).add j) = cs'[j]?) ∧ DataW.trod enc P w base (fun _ => true) held n e cs' = some y := by
  rcases open_slice ht h with ⟨h0, _⟩ | ⟨a, len, cap, m, n, D, Pl, hcs, _, hl, hm, hmm, _, hi⟩
  · exact .inl h0
  · refine .inr ⟨a, len, cap, hcs, hl, hm, fun i him => ?_⟩
    have hmc : m = cap := by simpa using hmm
    obtain ⟨cs', hc, ht'⟩ := hi i (by omega)
    obtain ⟨_, _, hat⟩ := World.cells?_some hc
    exact ⟨cs', n, _, hat, ht'⟩

theorem open_stg {n : Nat} {cs : List Value} {y : DataW H × List MemPlace} (h : DataW.trod enc Try.prog w base (fun _ => true) held n 35 cs = some y) : ∃ x : Stg, cs = [.bool x.give, .int .i64 x.i, .int .i64 x.gen] := by
  obtain ⟨xs, n1, _, _, hl, hxl, hf⟩ := DataW.trod_struct Try.underlying35 h
  have hc3 : Try.prog.cellsOf 35 = 3 := by kernel_rfl
  rw [hc3] at hl
  obtain ⟨v0, v1, v2, rfl⟩ : ∃ a b c, cs = [a, b, c] := by
    match cs, hl with
    | [a, b, c], _ => exact ⟨a, b, c, rfl⟩
  have e0 := hf 0 _ rfl
  have e1 := hf 1 _ rfl
  have hx0 : 0 < xs.length := by rw [hxl]; decide
  have hx1 : 1 < xs.length := by rw [hxl]; decide
  have hb1 : Try.prog.cellsOf 4 = 1 := by kernel_rfl
  have hi2 : Try.prog.cellsOf 24 = 2 := by kernel_rfl
  rw [List.getElem?_eq_getElem hx0] at e0
  rw [List.getElem?_eq_getElem hx1] at e1
  have e0' : DataW.trod enc Try.prog w base (fun _ => true) held n1 4 [v0] = some xs[0] := by
    have h := e0
    change DataW.trod enc Try.prog w base (fun _ => true) held _ 4 (([v0, v1, v2].drop 0).take (Try.prog.cellsOf 4)) = _ at h
    rw [hb1] at h
    exact h
  have e1' : DataW.trod enc Try.prog w base (fun _ => true) held n1 24 [v1, v2] = some xs[1] := by
    have h := e1
    change DataW.trod enc Try.prog w base (fun _ => true) held _ 24 (([v0, v1, v2].drop 1).take (Try.prog.cellsOf 24)) = _ at h
    rw [hi2] at h
    exact h
  obtain ⟨b, hb, _⟩ := DataW.trod_bool Try.underlying4 e0'
  obtain ⟨ys, n2, _, _, _, hyl, hg⟩ := DataW.trod_struct Try.underlying24 e1'
  have g0 := hg 0 _ rfl
  have g1 := hg 1 _ rfl
  have hy0 : 0 < ys.length := by rw [hyl]; decide
  have hy1 : 1 < ys.length := by rw [hyl]; decide
  have hn1 : Try.prog.cellsOf 3 = 1 := by kernel_rfl
  rw [List.getElem?_eq_getElem hy0] at g0
  rw [List.getElem?_eq_getElem hy1] at g1
  have g0' : DataW.trod enc Try.prog w base (fun _ => true) held n2 3 [v1] = some ys[0] := by
    have h := g0
    change DataW.trod enc Try.prog w base (fun _ => true) held _ 3 (([v1, v2].drop 0).take (Try.prog.cellsOf 3)) = _ at h
    rw [hn1] at h
    exact h
  have g1' : DataW.trod enc Try.prog w base (fun _ => true) held n2 3 [v2] = some ys[1] := by
    have h := g1
    change DataW.trod enc Try.prog w base (fun _ => true) held _ 3 (([v1, v2].drop 1).take (Try.prog.cellsOf 3)) = _ at h
    rw [hn1] at h
    exact h
  obtain ⟨i, hi, _⟩ := DataW.trod_int Try.underlying3 g0'
  obtain ⟨g, hgg, _⟩ := DataW.trod_int Try.underlying3 g1'
  simp only [List.cons.injEq, and_true] at hb hi hgg
  subst hb hi hgg
  exact ⟨⟨b, i, g⟩, rfl⟩

theorem open_stgs {fuel : Nat} {cs : List Value} {x : DataW H × List MemPlace} (h : DataW.trod enc Try.prog w base (fun _ => true) held fuel 22 cs = some x) :
    ∃ A n c st, cs = [.slice A n c] ∧ TRd w A n st ∧ n ≤ c ∧ c ≤ maxLen := by
  rcases elems_atT Try.underlying22 h with h0 | ⟨a, len, cap, hcs, hl, hm, hi⟩
  · exact ⟨none, 0, 0, [], h0, ⟨rfl, fun h => absurd h (Nat.lt_irrefl 0)⟩, Nat.le_refl _, Nat.zero_le _⟩
  have h3 : Try.prog.cellsOf 35 = 3 := by kernel_rfl
  rw [h3] at hi
  have key : ∀ i, ∃ x : Stg, i < len → (w.cell? ((a.add (i * 3)).add 0) = some (.bool x.give) ∧ w.cell? ((a.add (i * 3)).add 1) = some (.int .i64 x.i) ∧ w.cell? ((a.add (i * 3)).add 2) = some (.int .i64 x.gen)) := fun i => by
    by_cases hil : i < len
    · obtain ⟨cs', n, y, hc, ht⟩ := hi i hil
      obtain ⟨x, rfl⟩ := open_stg ht
      exact ⟨x, fun _ => ⟨hc 0 (by decide), hc 1 (by decide), hc 2 (by decide)⟩⟩
    · exact ⟨⟨false, 0, 0⟩, fun h => absurd h hil⟩
  obtain ⟨F, hF⟩ := Classical.axiomOfChoice key
  refine ⟨some a, len, cap, (List.range len).map F, hcs, ⟨by simp, fun hpos => ?_⟩, hl, hm⟩
  obtain ⟨b, off, spot⟩ := a
  have hs := (hF 0 hpos).1
  have hspot : spot = none := by simpa [Addr.add] using World.cell?_spot hs
  subst hspot
  refine ⟨b, off, rfl, by simpa [Addr.add] using World.block_lt_of_cell? w _ hs, fun j hj => ?_⟩
  have hj' : j < len := by simpa using hj
  obtain ⟨c0, c1, c2⟩ := hF j hj'
  rw [Addr.add_lit, Addr.add_lit] at c0 c1 c2
  simp only [List.getElem_map, List.getElem_range]
  exact ⟨c0, c1, c2⟩
end
end Go.Proofs.Ytldabjgnnmoneaa
