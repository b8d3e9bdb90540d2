/- Arguments that are slices of steps or of fates, as the row's frame reads them. -/
import Derived.Test.YtieknelmfjkbhaaDkS
import Derived.Deep.Slices
import Derived.Deep.Fields
import Derived.ChangeSame
namespace Go.Proofs.Ytieknelmfjkbhaa
open Go.RowKit Go.ChangeShapes Go.WideShapes Go.Deep

section
variable {H : Type} {enc : TypeId × Value → H} {w : World} {base : Nat} {held : Bool}

/-- One field of a struct whose fields are one cell each. -/
theorem field_at {P : Program} {t : TypeId} {fs : Array Field} {fuel : Nat} {cs : List Value} {x : DataW H × List MemPlace} (ht : P.underlying t = some (.struct fs)) (hone : oneCellFields P fs = true) (hk : P.cellsOf t = fs.size)
    (h : DataW.trod enc P w base (fun _ => true) held fuel t cs = some x) (j : Nat) (f : Field) (hj : fs[j]? = some f) : ∃ v n y, cs[j]? = some v ∧ DataW.trod enc P w base (fun _ => true) held n f.type [v] = some y := by
  obtain ⟨xs, n, _, _, hl, hxl, hf⟩ := DataW.trod_struct ht h
  obtain ⟨ho, h1⟩ := hone_of hone j f hj
  have hlt : j < fs.size := (Array.getElem?_eq_some_iff.1 hj).1
  have e := hf j f hj
  rw [ho, h1, List.drop_eq_getElem_cons (by omega), List.getElem?_eq_getElem (by omega)] at e
  exact ⟨cs[j]'(by omega), n, _, List.getElem?_eq_getElem (by omega), e⟩

/-- A slice of structs of k cells each: its elements' cells, as the reader parts them. -/
theorem elems_at {P : Program} {t e : TypeId} {fuel : Nat} {cs : List Value} {x : DataW H × List MemPlace} (ht : P.underlying t = some (.slice e)) (h : DataW.trod enc P w base (fun _ => true) held fuel t cs = some x) :
    cs = [.slice none 0 0] ∨ ∃ (a : Addr) (len cap : Nat), cs = [.slice (some a) len cap] ∧ len ≤ cap ∧ cap ≤ maxLen ∧
      ∀ i, i < len → ∃ cs' n y, (∀ j, j < P.cellsOf e → w.cell? ((a.add (i * P.cellsOf e)).add j) = cs'[j]?) ∧ DataW.trod enc P w base (fun _ => true) held n e cs' = some y := by
  rcases open_slice ht h with ⟨h0, _⟩ | ⟨a, len, cap, m, n, D, Pl, hcs, _, hl, hm, hmm, _, hi⟩
  · exact .inl h0
  · refine .inr ⟨a, len, cap, hcs, hl, hm, fun i him => ?_⟩
    have hmc : m = cap := by simpa using hmm
    obtain ⟨cs', hc, ht'⟩ := hi i (by omega)
    obtain ⟨_, _, hat⟩ := World.cells?_some hc
    exact ⟨cs', n, _, hat, ht'⟩

theorem open_fatesZ {fuel : Nat} {cs : List Value} {x : DataW H × List MemPlace} (h : DataW.trod enc Try.prog w base (fun _ => true) held fuel 35 cs = some x) :
    ∃ A n c fs, cs = [.slice A n c] ∧ FRd w A n fs ∧ n ≤ c ∧ c ≤ maxLen ∧ ∀ y ∈ fs, -9223372036854775808 ≤ y.2 ∧ y.2 ≤ 9223372036854775807 := by
  rcases elems_at Try.underlying35 h with h0 | ⟨a, len, cap, hcs, hl, hm, hi⟩
  · exact ⟨none, 0, 0, [], h0, ⟨rfl, fun h => absurd h (by omega)⟩, Nat.le_refl _, Nat.zero_le _, fun _ hx => absurd hx List.not_mem_nil⟩
  have h2 : Try.prog.cellsOf 63 = 2 := by kernel_rfl
  rw [h2] at hi
  have key : ∀ i, ∃ kt : Int × Int, i < len → (w.cell? ((a.add (i * 2)).add 0) = some (.int .i64 kt.1) ∧ w.cell? ((a.add (i * 2)).add 1) = some (.int .i64 kt.2)) ∧ (-9223372036854775808 ≤ kt.2 ∧ kt.2 ≤ 9223372036854775807) := fun i => by
    by_cases hil : i < len
    · obtain ⟨cs', n, y, hc, ht⟩ := hi i hil
      obtain ⟨v0, n0, y0, e0, t0⟩ := field_at Try.underlying63 (by kernel_rfl) (by kernel_rfl) ht 0 _ rfl
      obtain ⟨v1, n1, y1, e1, t1⟩ := field_at Try.underlying63 (by kernel_rfl) (by kernel_rfl) ht 1 _ rfl
      obtain ⟨k, ek, _⟩ := DataW.trod_int Try.underlying3 t0
      obtain ⟨q, eq, _, hwq⟩ := DataW.trod_int Try.underlying3 t1
      simp only [List.cons.injEq, and_true] at ek eq
      subst ek eq
      exact ⟨(k, q), fun _ => ⟨⟨(hc 0 (by decide)).trans e0, (hc 1 (by decide)).trans e1⟩, bounds_i64 hwq⟩⟩
    · exact ⟨(0, 0), fun h => absurd h hil⟩
  obtain ⟨F, hF⟩ := Classical.axiomOfChoice key
  refine ⟨some a, len, cap, (List.range len).map F, hcs, ⟨by simp, fun hpos => ?_⟩, hl, hm, fun y hy => by
    obtain ⟨i, hi', rfl⟩ := List.mem_map.1 hy
    exact (hF i (List.mem_range.1 hi')).2⟩
  obtain ⟨b, off, spot⟩ := a
  have hs := (hF 0 hpos).1.1
  have hspot : spot = none := by simpa [Addr.add] using World.cell?_spot hs
  subst hspot
  refine ⟨b, off, rfl, by simpa [Addr.add] using World.block_lt_of_cell? w _ hs, fun j hj => ?_⟩
  have hj' : j < len := by simpa using hj
  obtain ⟨⟨c0, c1⟩, _⟩ := hF j hj'
  rw [Addr.add_lit, Addr.add_lit] at c0 c1
  simp only [List.getElem_map, List.getElem_range]
  exact ⟨c0, c1⟩
theorem open_fates {fuel : Nat} {cs : List Value} {x : DataW H × List MemPlace} (h : DataW.trod enc Try.prog w base (fun _ => true) held fuel 35 cs = some x) :
    ∃ A n c fs, cs = [.slice A n c] ∧ FRd w A n fs ∧ n ≤ c ∧ c ≤ maxLen := by
  obtain ⟨A, n, c, fs, h1, h2, h3, h4, _⟩ := open_fatesZ h
  exact ⟨A, n, c, fs, h1, h2, h3, h4⟩

theorem open_bytes {fuel : Nat} {cs : List Value} {x : DataW H × List MemPlace} (h : DataW.trod enc Try.prog w base (fun _ => true) held fuel 32 cs = some x) :
    ∃ A n c l, cs = [.slice A n c] ∧ Rd w A n l ∧ n ≤ c ∧ c ≤ maxLen := by
  rcases open_ints Try.underlying32 Try.underlying5 (by kernel_rfl) h with ⟨hcs, _⟩ | ⟨x, l, c, zs, hcs, _, hl, hm, hz, _, hcell, hwz⟩
  · exact ⟨none, 0, 0, [], hcs, Rd.nil _ _, Nat.le_refl _, Nat.zero_le _⟩
  · obtain ⟨L, hr, h1, h2⟩ := rd_of_row (w := w) (a := some x) (len := l) (cap := c) (zs := zs) (.inr ⟨x, rfl, hl, hm, by simpa using hz, hcell, hwz⟩)
    exact ⟨some x, l, c, L, hcs, hr, h1, h2⟩

theorem open_steps {fuel : Nat} {cs : List Value} {x : DataW H × List MemPlace} (h : DataW.trod enc Try.prog w base (fun _ => true) held fuel 22 cs = some x) :
    ∃ A n c st, cs = [.slice A n c] ∧ SRd w A n st ∧ n ≤ c ∧ c ≤ maxLen := by
  rcases elems_at Try.underlying22 h with h0 | ⟨a, len, cap, hcs, hl, hm, hi⟩
  · exact ⟨none, 0, 0, [], h0, ⟨rfl, fun h => absurd h (by omega), fun _ hx => absurd hx List.not_mem_nil⟩, Nat.le_refl _, Nat.zero_le _⟩
  have h4 : Try.prog.cellsOf 37 = 4 := by kernel_rfl
  rw [h4] at hi
  have key : ∀ i, ∃ x : Stp, i < len → (w.cell? ((a.add (i * 4)).add 0) = some (.int .i64 x.d) ∧ w.cell? ((a.add (i * 4)).add 1) = some (.int .i64 x.a) ∧ w.cell? ((a.add (i * 4)).add 2) = some (.slice x.bA x.bn x.bc) ∧ w.cell? ((a.add (i * 4)).add 3) = some (.slice x.fA x.fn x.fc)) ∧ SOk w x := fun i => by
    by_cases hil : i < len
    · obtain ⟨cs', n, y, hc, ht⟩ := hi i hil
      obtain ⟨v0, n0, y0, e0, t0⟩ := field_at Try.underlying37 (by kernel_rfl) (by kernel_rfl) ht 0 _ rfl
      obtain ⟨v1, n1, y1, e1, t1⟩ := field_at Try.underlying37 (by kernel_rfl) (by kernel_rfl) ht 1 _ rfl
      obtain ⟨v2, n2, y2, e2, t2⟩ := field_at Try.underlying37 (by kernel_rfl) (by kernel_rfl) ht 2 _ rfl
      obtain ⟨v3, n3, y3, e3, t3⟩ := field_at Try.underlying37 (by kernel_rfl) (by kernel_rfl) ht 3 _ rfl
      obtain ⟨k, ek, _⟩ := DataW.trod_int Try.underlying3 t0
      obtain ⟨q, eq, _, hwq⟩ := DataW.trod_int Try.underlying3 t1
      obtain ⟨bA, bn, bc, b, eb, hrb, _, _⟩ := open_bytes t2
      obtain ⟨fA, fn, fc, fs, ef, hrf, _, _, hfz⟩ := open_fatesZ t3
      simp only [List.cons.injEq, and_true] at ek eq eb ef
      subst ek eq eb ef
      exact ⟨⟨k, q, bA, bn, bc, b, fA, fn, fc, fs⟩, fun _ => ⟨⟨(hc 0 (by decide)).trans e0, (hc 1 (by decide)).trans e1, (hc 2 (by decide)).trans e2, (hc 3 (by decide)).trans e3⟩, hrb, hrf, bounds_i64 hwq, hfz⟩⟩
    · exact ⟨⟨0, 0, none, 0, 0, [], none, 0, 0, []⟩, fun h => absurd h hil⟩
  obtain ⟨F, hF⟩ := Classical.axiomOfChoice key
  refine ⟨some a, len, cap, (List.range len).map F, hcs, ⟨by simp, fun hpos => ?_, fun x hx => ?_⟩, hl, hm⟩
  · obtain ⟨b, off, spot⟩ := a
    have hs := (hF 0 hpos).1.1
    have hspot : spot = none := by simpa [Addr.add] using World.cell?_spot hs
    subst hspot
    refine ⟨b, off, rfl, by simpa [Addr.add] using World.block_lt_of_cell? w _ hs, fun j hj => ?_⟩
    have hj' : j < len := by simpa using hj
    obtain ⟨⟨c0, c1, c2, c3⟩, _⟩ := hF j hj'
    rw [Addr.add_lit, Addr.add_lit] at c0 c1 c2 c3
    simp only [List.getElem_map, List.getElem_range]
    exact ⟨c0, c1, c2, c3⟩
  · obtain ⟨i, hi', rfl⟩ := List.mem_map.1 hx
    exact (hF i (List.mem_range.1 hi')).2
end
end Go.Proofs.Ytieknelmfjkbhaa
