/- Slices of steps as they lie in memory, and as the row's frame reads them. -/
import Derived.Test.YtigiepmmgghjlaaGrM
import Derived.Test.YtigiepmmgghjlaaOpnF
namespace Go.Proofs.Ytigiepmmgghjlaa
open Go.RowKit Go.ChangeShapes Go.WideShapes Go.Deep

/-- A slice of steps. -/
def GRd (w : World) (A : Option Addr) (n : Nat) (st : List Gst) : Prop :=
  st.length = n ∧ (0 < n → ∃ b o, A = some ⟨b, o, none⟩ ∧ b < w.heap.size ∧ ∀ j (h : j < st.length), w.cell? ⟨b, o + j * 4, none⟩ = some (.int .i64 st[j].d) ∧ w.cell? ⟨b, o + j * 4 + 1, none⟩ = some (.int .u64 (st[j].sig : Int)) ∧ w.cell? ⟨b, o + j * 4 + 2, none⟩ = some (.int .i64 st[j].n) ∧ w.cell? ⟨b, o + j * 4 + 3, none⟩ = some (.int .i64 st[j].c))
theorem GRd.below {w w' : World} {A : Option Addr} {n : Nat} {st : List Gst} (h : GRd w A n st) (hb : Below w.heap.size w w') : GRd w' A n st :=
  ⟨h.1, fun hp => by
    obtain ⟨b, o, e, hlt, hc⟩ := h.2 hp
    refine ⟨b, o, e, Nat.lt_of_lt_of_le hlt hb.size, fun j hj => ?_⟩
    obtain ⟨h0, h1, h2, h3⟩ := hc j hj
    exact ⟨(hb.cell (p := ⟨b, o + j * 4, none⟩) hlt).trans h0, (hb.cell (p := ⟨b, o + j * 4 + 1, none⟩) hlt).trans h1, (hb.cell (p := ⟨b, o + j * 4 + 2, none⟩) hlt).trans h2, (hb.cell (p := ⟨b, o + j * 4 + 3, none⟩) hlt).trans h3⟩⟩

theorem bndU {n : Int} (h : (Lit.int .u64 n).wf = true) : 0 ≤ n ∧ n < 18446744073709551616 := by
  have := bounds_u64 h
  omega

theorem u64G {a : Int} (h : (Lit.int .u64 a).wf = true) : ∃ b : Nat, a = (b : Int) ∧ b < 18446744073709551616 := by
  have hb := bndU h
  exact ⟨a.toNat, by omega, by omega⟩

section
variable {H : Type} {enc : TypeId × Value → H} {w : World} {base : Nat} {held : Bool}
theorem open_gst {n : Nat} {cs : List Value} {y : DataW H × List MemPlace} (h : DataW.trod enc Try.prog w base (fun _ => true) held n 30 cs = some y) : ∃ x : Gst, cs = [.int .i64 x.d, .int .u64 (x.sig : Int), .int .i64 x.n, .int .i64 x.c] := by
  have hk : Try.prog.cellsOf 30 = 4 := by kernel_rfl
  have hone : ∃ fs, Try.prog.underlying 30 = some (.struct fs) := ⟨_, Try.underlying30⟩
  obtain ⟨xs, n1, _, _, hl, hxl, hf⟩ := DataW.trod_struct Try.underlying30 h
  rw [hk] at hl
  obtain ⟨v0, v1, v2, v3, rfl⟩ : ∃ a b c d, cs = [a, b, c, d] := by
    match cs, hl with
    | [a, b, c, d], _ => exact ⟨a, b, c, d, rfl⟩
  obtain ⟨_, _, _, e0, f0⟩ := field_at Try.underlying30 (by kernel_rfl) (by kernel_rfl) h 0 _ rfl
  obtain ⟨_, _, _, e1, f1⟩ := field_at Try.underlying30 (by kernel_rfl) (by kernel_rfl) h 1 _ rfl
  obtain ⟨_, _, _, e2, f2⟩ := field_at Try.underlying30 (by kernel_rfl) (by kernel_rfl) h 2 _ rfl
  obtain ⟨_, _, _, e3, f3⟩ := field_at Try.underlying30 (by kernel_rfl) (by kernel_rfl) h 3 _ rfl
  injection e0 with e0
  injection e1 with e1
  injection e2 with e2
  injection e3 with e3
  obtain ⟨d, hd, _⟩ := DataW.trod_int Try.underlying3 f0
  obtain ⟨s, hs, _, hsw⟩ := DataW.trod_int Try.underlying23 f1
  obtain ⟨m, hm, _⟩ := DataW.trod_int Try.underlying3 f2
  obtain ⟨c, hc, _⟩ := DataW.trod_int Try.underlying3 f3
  simp only [List.cons.injEq, and_true] at hd hs hm hc
  have hb := bndU hsw
  have e0 : v0 = .int .i64 d := by rw [← hd]; exact e0
  have e1 : v1 = .int .u64 s := by rw [← hs]; exact e1
  have e2 : v2 = .int .i64 m := by rw [← hm]; exact e2
  have e3 : v3 = .int .i64 c := by rw [← hc]; exact e3
  obtain ⟨k, rfl⟩ : ∃ k : Nat, s = (k : Int) := ⟨s.toNat, by omega⟩
  exact ⟨⟨d, k, m, c, by omega⟩, by rw [e0, e1, e2, e3]⟩

theorem open_gsts {fuel : Nat} {cs : List Value} {x : DataW H × List MemPlace} (h : DataW.trod enc Try.prog w base (fun _ => true) held fuel 22 cs = some x) :
    ∃ A n c st, cs = [.slice A n c] ∧ GRd w A n st ∧ n ≤ c ∧ c ≤ maxLen := by
  rcases elems_at Try.underlying22 h with h0 | ⟨a, len, cap, hcs, hl, hm, hi⟩
  · exact ⟨none, 0, 0, [], h0, ⟨rfl, fun h => absurd h (Nat.lt_irrefl 0)⟩, Nat.le_refl _, Nat.zero_le _⟩
  have h3 : Try.prog.cellsOf 30 = 4 := by kernel_rfl
  rw [h3] at hi
  have key : ∀ i, ∃ x : Gst, i < len → (w.cell? ((a.add (i * 4)).add 0) = some (.int .i64 x.d) ∧ w.cell? ((a.add (i * 4)).add 1) = some (.int .u64 (x.sig : Int)) ∧ w.cell? ((a.add (i * 4)).add 2) = some (.int .i64 x.n) ∧ w.cell? ((a.add (i * 4)).add 3) = some (.int .i64 x.c)) := fun i => by
    by_cases hil : i < len
    · obtain ⟨cs', n, y, hc, ht⟩ := hi i hil
      obtain ⟨x, rfl⟩ := open_gst ht
      exact ⟨x, fun _ => ⟨hc 0 (by decide), hc 1 (by decide), hc 2 (by decide), hc 3 (by decide)⟩⟩
    · exact ⟨⟨0, 0, 0, 0, by decide⟩, fun h => absurd h hil⟩
  obtain ⟨F, hF⟩ := Classical.axiomOfChoice key
  refine ⟨some a, len, cap, (List.range len).map F, hcs, ⟨by simp, fun hpos => ?_⟩, hl, hm⟩
  obtain ⟨b, off, spot⟩ := a
  have hs := (hF 0 hpos).1
  have hspot : spot = none := by simpa [Addr.add] using World.cell?_spot hs
  subst hspot
  refine ⟨b, off, rfl, by simpa [Addr.add] using World.block_lt_of_cell? w _ hs, fun j hj => ?_⟩
  have hj' : j < len := by simpa using hj
  obtain ⟨c0, c1, c2, c3⟩ := hF j hj'
  rw [Addr.add_lit, Addr.add_lit] at c0 c1 c2 c3
  simp only [List.getElem_map, List.getElem_range]
  exact ⟨c0, c1, c2, c3⟩
end
end Go.Proofs.Ytigiepmmgghjlaa
