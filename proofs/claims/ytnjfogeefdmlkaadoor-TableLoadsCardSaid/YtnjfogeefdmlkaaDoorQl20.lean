/- CmO, BitsLd, TbN -/
import Derived.Test.YtnjfogeefdmlkaaDoorQl19
import Derived.Lib.SmallJoins
import Derived.Deep.Slices
import Derived.Deep.Fields
import Derived.ChangeSame
import Derived.WideShapes
import Derived.Test.YtnjfogeefdmlkaaDoorRows
import Derived.LaidMore
import Derived.Lib.LaidTab
namespace Go.Proofs.YtnjfogeefdmlkaaDoor
open Go.RowKit Go.ChangeShapes Go.WideShapes Go.Deep Go.Joins
set_option maxRecDepth 20000

section
variable {H : Type} {enc : TypeId × Value → H} {w : World} {base : Nat} {held : Bool}

theorem elems_atK {P : Program} {t e : TypeId} {fuel : Nat} {cs : List Value} {x : DataW H × List MemPlace} (ht : P.underlying t = some (.slice e)) (h : DataW.trod enc P w base (fun _ => true) held fuel t cs = some x) :
    cs = [.slice none 0 0] ∨ ∃ (a : Addr) (len cap : Nat), cs = [.slice (some a) len cap] ∧ len ≤ cap ∧ cap ≤ maxLen ∧
      ∀ i, i < len → ∃ cs' n y, (∀ j, j < P.cellsOf e → w.cell? ((a.add (i * P.cellsOf e)).add j) = cs'[j]?) ∧ DataW.trod enc P w base (fun _ => true) held n e cs' = some y := by
  rcases open_slice ht h with ⟨h0, _⟩ | ⟨a, len, cap, m, n, D, Pl, hcs, _, hl, hm, hmm, _, hi⟩
  · exact .inl h0
  · refine .inr ⟨a, len, cap, hcs, hl, hm, fun i him => ?_⟩
    have hmc : m = cap := by simpa using hmm
    obtain ⟨cs', hc, ht'⟩ := hi i (by omega)
    obtain ⟨_, _, hat⟩ := World.cells?_some hc
    exact ⟨cs', n, _, hat, ht'⟩

theorem open_comp {n : Nat} {cs : List Value} {y : DataW H × List MemPlace} (h : DataW.trod enc Tryd.prog w base (fun _ => true) held n 71 cs = some y) : ∃ k : Kd, cs = [.string k.1, .int .i64 k.2] ∧ k.1.size ≤ maxLen := by
  obtain ⟨y0, y1, n1, _, hl, h0, h1⟩ := trod_struct2 Tryd.underlying71 h
  have hc2 : Tryd.prog.cellsOf 71 = 2 := by kernel_rfl
  rw [hc2] at hl
  obtain ⟨v0, v1, rfl⟩ : ∃ a b, cs = [a, b] := by
    match cs, hl with
    | [a, b], _ => exact ⟨a, b, rfl⟩
  have hs1 : Tryd.prog.cellsOf 9 = 1 := by kernel_rfl
  have hn1 : Tryd.prog.cellsOf 3 = 1 := by kernel_rfl
  have g0 : DataW.trod enc Tryd.prog w base (fun _ => true) held n1 9 [v0] = some y0 := by
    have h := h0
    change DataW.trod enc Tryd.prog w base (fun _ => true) held _ 9 (([v0, v1].drop 0).take (Tryd.prog.cellsOf 9)) = _ at h
    rw [hs1] at h
    exact h
  have g1 : DataW.trod enc Tryd.prog w base (fun _ => true) held n1 3 [v1] = some y1 := by
    have h := h1
    change DataW.trod enc Tryd.prog w base (fun _ => true) held _ 3 (([v0, v1].drop 1).take (Tryd.prog.cellsOf 3)) = _ at h
    rw [hn1] at h
    exact h
  obtain ⟨s, hs, _, hsz⟩ := DataW.trod_string Tryd.underlying9 g0
  obtain ⟨z, hz, _⟩ := DataW.trod_int Tryd.underlying3 g1
  simp only [List.cons.injEq, and_true] at hs hz
  subst hs hz
  exact ⟨(s, z), rfl, hsz⟩

theorem open_comps {fuel : Nat} {cs : List Value} {x : DataW H × List MemPlace} (h : DataW.trod enc Tryd.prog w base (fun _ => true) held fuel 22 cs = some x) :
    ∃ A n c ks, cs = [.slice A n c] ∧ KRd w A n ks ∧ Lens ks ∧ n ≤ c ∧ c ≤ maxLen := by
  rcases elems_atK Tryd.underlying22 h with h0 | ⟨a, len, cap, hcs, hl, hm, hi⟩
  · exact ⟨none, 0, 0, [], h0, KRd.nil _ _, fun k hk => (by cases hk), Nat.le_refl _, Nat.zero_le _⟩
  have h2 : Tryd.prog.cellsOf 71 = 2 := by kernel_rfl
  rw [h2] at hi
  have key : ∀ i, ∃ k : Kd, i < len → (w.cell? ((a.add (i * 2)).add 0) = some (.string k.1) ∧ w.cell? ((a.add (i * 2)).add 1) = some (.int .i64 k.2)) ∧ k.1.size ≤ maxLen := fun i => by
    by_cases hil : i < len
    · obtain ⟨cs', n, y, hc, ht⟩ := hi i hil
      obtain ⟨k, rfl, hk⟩ := open_comp ht
      exact ⟨k, fun _ => ⟨⟨hc 0 (by decide), hc 1 (by decide)⟩, hk⟩⟩
    · exact ⟨(.empty, 0), fun h => absurd h hil⟩
  obtain ⟨F, hF⟩ := Classical.axiomOfChoice key
  refine ⟨some a, len, cap, (List.range len).map F, hcs, ⟨by simp, fun hpos => ?_⟩, fun k hk => ?_, hl, hm⟩
  · obtain ⟨b, off, spot⟩ := a
    have hs := (hF 0 hpos).1.1
    have hspot : spot = none := by simpa [Addr.add] using World.cell?_spot hs
    subst hspot
    refine ⟨b, off, rfl, by simpa [Addr.add] using World.block_lt_of_cell? w _ hs, fun j hj => ?_⟩
    have hj' : j < len := by simpa using hj
    obtain ⟨⟨c0, c1⟩, _⟩ := hF j hj'
    rw [Addr.add_lit, Addr.add_lit] at c0 c1
    simp only [List.getElem_map, List.getElem_range]
    exact ⟨c0, c1⟩
  · obtain ⟨i, hi', rfl⟩ := List.mem_map.1 hk
    have := (hF i (List.mem_range.1 hi')).2
    unfold maxLen at this
    omega

theorem array5 {α : Type} {cs : Array α} (h : cs.size = 5) : ∃ c0 c1 c2 c3 c4, cs = #[c0, c1, c2, c3, c4] := by
  obtain ⟨l⟩ := cs
  match l, h with
  | [c0, c1, c2, c3, c4], _ => exact ⟨c0, c1, c2, c3, c4, rfl⟩

/-- A layout that comes in. -/
theorem open_conf {r : Reach} {b0 : Nat} {v : Value} {d : DataW H} {p : List MemPlace} (hv : Value.okWide Tryd.prog w r b0 24 v) (h : DataW.Trod enc Tryd.prog w base (fun _ => true) held 24 v d p) :
    ∃ (lg pg en gn : Int) (A : Option Addr) (n c : Nat) (ks : List Kd), v = .agg #[.int .i64 lg, .int .i64 pg, .int .i64 en, .int .i64 gn, .slice A n c] ∧ KRd w A n ks ∧ Lens ks ∧ n ≤ c ∧ c ≤ maxLen := by
  obtain ⟨cs, rfl, hsz⟩ := okWide_struct Tryd.underlying24 hv
  have hc5 : Tryd.prog.cellsOf 24 = 5 := by kernel_rfl
  obtain ⟨c0, c1, c2, c3, c4, rfl⟩ := array5 (hsz.trans hc5)
  obtain ⟨fuel, hf⟩ := h
  obtain ⟨xs, n, _, _, hl, hxl, hg⟩ := DataW.trod_struct Tryd.underlying24 hf
  have hn1 : Tryd.prog.cellsOf 3 = 1 := by kernel_rfl
  have hs1 : Tryd.prog.cellsOf 22 = 1 := by kernel_rfl
  have hx : xs.length = 5 := hxl
  have e0 := hg 0 _ rfl
  have e1 := hg 1 _ rfl
  have e2 := hg 2 _ rfl
  have e3 := hg 3 _ rfl
  have e4 := hg 4 _ rfl
  rw [List.getElem?_eq_getElem (by omega)] at e0 e1 e2 e3 e4
  have f0 : DataW.trod enc Tryd.prog w base (fun _ => true) held n 3 [c0] = some xs[0] := by
    have h := e0
    change DataW.trod enc Tryd.prog w base (fun _ => true) held _ 3 (([c0, c1, c2, c3, c4].drop 0).take (Tryd.prog.cellsOf 3)) = _ at h
    rw [hn1] at h
    exact h
  have f1 : DataW.trod enc Tryd.prog w base (fun _ => true) held n 3 [c1] = some xs[1] := by
    have h := e1
    change DataW.trod enc Tryd.prog w base (fun _ => true) held _ 3 (([c0, c1, c2, c3, c4].drop 1).take (Tryd.prog.cellsOf 3)) = _ at h
    rw [hn1] at h
    exact h
  have f2 : DataW.trod enc Tryd.prog w base (fun _ => true) held n 3 [c2] = some xs[2] := by
    have h := e2
    change DataW.trod enc Tryd.prog w base (fun _ => true) held _ 3 (([c0, c1, c2, c3, c4].drop 2).take (Tryd.prog.cellsOf 3)) = _ at h
    rw [hn1] at h
    exact h
  have f3 : DataW.trod enc Tryd.prog w base (fun _ => true) held n 3 [c3] = some xs[3] := by
    have h := e3
    change DataW.trod enc Tryd.prog w base (fun _ => true) held _ 3 (([c0, c1, c2, c3, c4].drop 3).take (Tryd.prog.cellsOf 3)) = _ at h
    rw [hn1] at h
    exact h
  have f4 : DataW.trod enc Tryd.prog w base (fun _ => true) held n 22 [c4] = some xs[4] := by
    have h := e4
    change DataW.trod enc Tryd.prog w base (fun _ => true) held _ 22 (([c0, c1, c2, c3, c4].drop 4).take (Tryd.prog.cellsOf 22)) = _ at h
    rw [hs1] at h
    exact h
  obtain ⟨lg, q0, _⟩ := DataW.trod_int Tryd.underlying3 f0
  obtain ⟨pg, q1, _⟩ := DataW.trod_int Tryd.underlying3 f1
  obtain ⟨en, q2, _⟩ := DataW.trod_int Tryd.underlying3 f2
  obtain ⟨gn, q3, _⟩ := DataW.trod_int Tryd.underlying3 f3
  obtain ⟨A, m, c, ks, q4, hK, hL, h1, h2⟩ := open_comps f4
  simp only [List.cons.injEq, and_true] at q0 q1 q2 q3 q4
  subst q0 q1 q2 q3 q4
  exact ⟨lg, pg, en, gn, A, m, c, ks, rfl, hK, hL, h1, h2⟩
end
end Go.Proofs.YtnjfogeefdmlkaaDoor
namespace Go.Proofs.YtnjfogeefdmlkaaDoor
open Go.RowKit

theorem tab_of_laid {W : World} (h : laidMetH Tryd.prog [("math/bits.deBruijn64tab", Rows.laid_math_bits_deBruijn64tab)] W) : TabAt W := by
  rw [MakeChecks.laidMetH_plain _ _ _ (by kernel_rfl)] at h
  have hg : Tryd.prog.globalNamed "math/bits.deBruijn64tab" = some 0 := by kernel_rfl
  have ht : Lib.TabIs Tryd.prog W "math/bits.deBruijn64tab" .u8 (Lib.deBruijn64tab.map Int.ofNat) :=
    Lib.tabIs_of_head (n := 64) (rest := []) hg (by kernel_rfl) Tryd.underlying114 Tryd.underlying5 (by kernel_rfl) (by kernel_rfl) h
  intro j hj
  have hl : j < Lib.deBruijn64tab.length := hj
  rw [ht.cell hg j (by rw [List.length_map]; exact hl)]
  have e : (Lib.deBruijn64tab.map Int.ofNat).getD j 0 = ((Lib.deBruijn64tab.getD j 0 : Nat) : Int) := by
    simp [List.getD, hl]
  rw [e]
theorem u64_of {a : Int} (h : (Lit.int .u64 a).wf = true) : ∃ b : Nat, a = (b : Int) ∧ b < 18446744073709551616 := by
  have hb := bounds_u64 h
  exact ⟨a.toNat, by omega, by omega⟩
end Go.Proofs.YtnjfogeefdmlkaaDoor

