/- A layout by value, as the row's frame reads it. -/
import Derived.Test.YtabmaiphjcbfbaaCmL
import Derived.Test.YtabmaiphjcbfbaaCmA
import Derived.Lib.SmallJoins
import Derived.Deep.Slices
import Derived.Deep.Fields
import Derived.ChangeSame
import Derived.WideShapes
namespace Go.Proofs.Ytabmaiphjcbfbaa
open Go.RowKit Go.ChangeShapes Go.WideShapes Go.Deep Go.Joins
set_option maxRecDepth 20000

section
variable {H : Type} {enc : TypeId × Value → H} {w : World} {base : Nat} {held : Bool}

theorem elems_atK {P : Program} {t e : TypeId} {fuel : Nat} {cs : List Value} {x : DataW H × List MemPlace} (ht : P.underlying t = some (.slice e)) (h : DataW.trod enc P w base (fun _ => true) held fuel t cs = some x) :
    cs = [.slice none 0 0] ∨ ∃ (a : Addr) (len cap : Nat), cs = [.slice (some a) len cap] ∧ len ≤ cap ∧ cap ≤ maxLen ∧
      ∀ i, i < len → ∃ cs' n y, (∀ j, j < P.cellsOf e → w.cell? ((a.add (i * P.cellsOf e)).add j) = cs'[j]?) ∧ DataW.trod enc P w base (fun _ => true) held n e cs' = some y := by
  rcases open_slice ht h with ⟨h0, _⟩ | ⟨a, len, cap, m, n, D, Pl, hcs, _, hl, hm, hmm, _, hi⟩
  · exact .inl h0
  · refine .inr ⟨a, len, cap, hcs, hl, hm, fun i him => ?_⟩
    have hmc : m = cap := by simpa using hmm
    obtain ⟨cs', hc, ht'⟩ := hi i (by omega)
    obtain ⟨_, _, hat⟩ := World.cells?_some hc
    exact ⟨cs', n, _, hat, ht'⟩

theorem open_comp {n : Nat} {cs : List Value} {y : DataW H × List MemPlace} (h : DataW.trod enc Try.prog w base (fun _ => true) held n 36 cs = some y) : ∃ k : Kd, cs = [.string k.1, .int .i64 k.2] ∧ k.1.size ≤ maxLen := by
  obtain ⟨y0, y1, n1, _, hl, h0, h1⟩ := trod_struct2 Try.underlying36 h
  have hc2 : Try.prog.cellsOf 36 = 2 := by kernel_rfl
  rw [hc2] at hl
  obtain ⟨v0, v1, rfl⟩ : ∃ a b, cs = [a, b] := by
    match cs, hl with
    | [a, b], _ => exact ⟨a, b, rfl⟩
  have hs1 : Try.prog.cellsOf 9 = 1 := by kernel_rfl
  have hn1 : Try.prog.cellsOf 3 = 1 := by kernel_rfl
  have g0 : DataW.trod enc Try.prog w base (fun _ => true) held n1 9 [v0] = some y0 := by
    have h := h0
    change DataW.trod enc Try.prog w base (fun _ => true) held _ 9 (([v0, v1].drop 0).take (Try.prog.cellsOf 9)) = _ at h
    rw [hs1] at h
    exact h
  have g1 : DataW.trod enc Try.prog w base (fun _ => true) held n1 3 [v1] = some y1 := by
    have h := h1
    change DataW.trod enc Try.prog w base (fun _ => true) held _ 3 (([v0, v1].drop 1).take (Try.prog.cellsOf 3)) = _ at h
    rw [hn1] at h
    exact h
  obtain ⟨s, hs, _, hsz⟩ := DataW.trod_string Try.underlying9 g0
  obtain ⟨z, hz, _⟩ := DataW.trod_int Try.underlying3 g1
  simp only [List.cons.injEq, and_true] at hs hz
  subst hs hz
  exact ⟨(s, z), rfl, hsz⟩

theorem open_comps {fuel : Nat} {cs : List Value} {x : DataW H × List MemPlace} (h : DataW.trod enc Try.prog w base (fun _ => true) held fuel 22 cs = some x) :
    ∃ A n c ks, cs = [.slice A n c] ∧ KRd w A n ks ∧ Lens ks ∧ n ≤ c ∧ c ≤ maxLen := by
  rcases elems_atK Try.underlying22 h with h0 | ⟨a, len, cap, hcs, hl, hm, hi⟩
  · exact ⟨none, 0, 0, [], h0, KRd.nil _ _, fun k hk => (by cases hk), Nat.le_refl _, Nat.zero_le _⟩
  have h2 : Try.prog.cellsOf 36 = 2 := by kernel_rfl
  rw [h2] at hi
  have key : ∀ i, ∃ k : Kd, i < len → (w.cell? ((a.add (i * 2)).add 0) = some (.string k.1) ∧ w.cell? ((a.add (i * 2)).add 1) = some (.int .i64 k.2)) ∧ k.1.size ≤ maxLen := fun i => by
    by_cases hil : i < len
    · obtain ⟨cs', n, y, hc, ht⟩ := hi i hil
      obtain ⟨k, rfl, hk⟩ := open_comp ht
      exact ⟨k, fun _ => ⟨⟨hc 0 (by decide), hc 1 (by decide)⟩, hk⟩⟩
    · exact ⟨(.empty, 0), fun h => absurd h hil⟩
  obtain ⟨F, hF⟩ := Classical.axiomOfChoice key
  refine ⟨some a, len, cap, (List.range len).map F, hcs, ⟨by simp, fun hpos => ?_⟩, fun k hk => ?_, hl, hm⟩
  · obtain ⟨b, off, spot⟩ := a
    have hs := (hF 0 hpos).1.1
    have hspot : spot = none := by simpa [Addr.add] using World.cell?_spot hs
    subst hspot
    refine ⟨b, off, rfl, by simpa [Addr.add] using World.block_lt_of_cell? w _ hs, fun j hj => ?_⟩
    have hj' : j < len := by simpa using hj
    obtain ⟨⟨c0, c1⟩, _⟩ := hF j hj'
    rw [Addr.add_lit, Addr.add_lit] at c0 c1
    simp only [List.getElem_map, List.getElem_range]
    exact ⟨c0, c1⟩
  · obtain ⟨i, hi', rfl⟩ := List.mem_map.1 hk
    have := (hF i (List.mem_range.1 hi')).2
    unfold maxLen at this
    omega

theorem array5 {α : Type} {cs : Array α} (h : cs.size = 5) : ∃ c0 c1 c2 c3 c4, cs = #[c0, c1, c2, c3, c4] := by
  obtain ⟨l⟩ := cs
  match l, h with
  | [c0, c1, c2, c3, c4], _ => exact ⟨c0, c1, c2, c3, c4, rfl⟩

/-- A layout that comes in. -/
theorem open_conf {r : Reach} {b0 : Nat} {v : Value} {d : DataW H} {p : List MemPlace} (hv : Value.okWide Try.prog w r b0 24 v) (h : DataW.Trod enc Try.prog w base (fun _ => true) held 24 v d p) :
    ∃ (lg pg en gn : Int) (A : Option Addr) (n c : Nat) (ks : List Kd), v = .agg #[.int .i64 lg, .int .i64 pg, .int .i64 en, .int .i64 gn, .slice A n c] ∧ KRd w A n ks ∧ Lens ks ∧ n ≤ c ∧ c ≤ maxLen := by
  obtain ⟨cs, rfl, hsz⟩ := okWide_struct Try.underlying24 hv
  have hc5 : Try.prog.cellsOf 24 = 5 := by kernel_rfl
  obtain ⟨c0, c1, c2, c3, c4, rfl⟩ := array5 (hsz.trans hc5)
  obtain ⟨fuel, hf⟩ := h
  obtain ⟨xs, n, _, _, hl, hxl, hg⟩ := DataW.trod_struct Try.underlying24 hf
  have hn1 : Try.prog.cellsOf 3 = 1 := by kernel_rfl
  have hs1 : Try.prog.cellsOf 22 = 1 := by kernel_rfl
  have hx : xs.length = 5 := hxl
  have e0 := hg 0 _ rfl
  have e1 := hg 1 _ rfl
  have e2 := hg 2 _ rfl
  have e3 := hg 3 _ rfl
  have e4 := hg 4 _ rfl
  rw [List.getElem?_eq_getElem (by omega)] at e0 e1 e2 e3 e4
  have f0 : DataW.trod enc Try.prog w base (fun _ => true) held n 3 [c0] = some xs[0] := by
    have h := e0
    change DataW.trod enc Try.prog w base (fun _ => true) held _ 3 (([c0, c1, c2, c3, c4].drop 0).take (Try.prog.cellsOf 3)) = _ at h
    rw [hn1] at h
    exact h
  have f1 : DataW.trod enc Try.prog w base (fun _ => true) held n 3 [c1] = some xs[1] := by
    have h := e1
    change DataW.trod enc Try.prog w base (fun _ => true) held _ 3 (([c0, c1, c2, c3, c4].drop 1).take (Try.prog.cellsOf 3)) = _ at h
    rw [hn1] at h
    exact h
  have f2 : DataW.trod enc Try.prog w base (fun _ => true) held n 3 [c2] = some xs[2] := by
    have h := e2
    change DataW.trod enc Try.prog w base (fun _ => true) held _ 3 (([c0, c1, c2, c3, c4].drop 2).take (Try.prog.cellsOf 3)) = _ at h
    rw [hn1] at h
    exact h
  have f3 : DataW.trod enc Try.prog w base (fun _ => true) held n 3 [c3] = some xs[3] := by
    have h := e3
    change DataW.trod enc Try.prog w base (fun _ => true) held _ 3 (([c0, c1, c2, c3, c4].drop 3).take (Try.prog.cellsOf 3)) = _ at h
    rw [hn1] at h
    exact h
  have f4 : DataW.trod enc Try.prog w base (fun _ => true) held n 22 [c4] = some xs[4] := by
    have h := e4
    change DataW.trod enc Try.prog w base (fun _ => true) held _ 22 (([c0, c1, c2, c3, c4].drop 4).take (Try.prog.cellsOf 22)) = _ at h
    rw [hs1] at h
    exact h
  obtain ⟨lg, q0, _⟩ := DataW.trod_int Try.underlying3 f0
  obtain ⟨pg, q1, _⟩ := DataW.trod_int Try.underlying3 f1
  obtain ⟨en, q2, _⟩ := DataW.trod_int Try.underlying3 f2
  obtain ⟨gn, q3, _⟩ := DataW.trod_int Try.underlying3 f3
  obtain ⟨A, m, c, ks, q4, hK, hL, h1, h2⟩ := open_comps f4
  simp only [List.cons.injEq, and_true] at q0 q1 q2 q3 q4
  subst q0 q1 q2 q3 q4
  exact ⟨lg, pg, en, gn, A, m, c, ks, rfl, hK, hL, h1, h2⟩
end
end Go.Proofs.Ytabmaiphjcbfbaa
