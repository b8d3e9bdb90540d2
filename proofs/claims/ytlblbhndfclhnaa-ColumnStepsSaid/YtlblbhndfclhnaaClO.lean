/- An argument that is a slice of steps, as the row's frame reads it. -/
import Derived.Test.YtlblbhndfclhnaaClR1
import Derived.Test.YtlblbhndfclhnaaOpn
namespace Go.Proofs.Ytlblbhndfclhnaa
open Go.RowKit Go.ChangeShapes Go.WideShapes Go.Deep

section
variable {H : Type} {enc : TypeId × Value → H} {w : World} {base : Nat} {held : Bool}
theorem open_csts {fuel : Nat} {cs : List Value} {x : DataW H × List MemPlace} (h : DataW.trod enc Try.prog w base (fun _ => true) held fuel 22 cs = some x) :
    ∃ A n c st, cs = [.slice A n c] ∧ CRd w A n st ∧ n ≤ c ∧ c ≤ maxLen := by
  rcases elems_at Try.underlying22 h with h0 | ⟨a, len, cap, hcs, hl, hm, hi⟩
  · exact ⟨none, 0, 0, [], h0, ⟨rfl, fun h => absurd h (by omega), fun _ hx => absurd hx List.not_mem_nil⟩, Nat.le_refl _, Nat.zero_le _⟩
  have h4 : Try.prog.cellsOf 35 = 3 := by kernel_rfl
  rw [h4] at hi
  have key : ∀ i, ∃ x : Cst, i < len → (w.cell? ((a.add (i * 3)).add 0) = some (.int .i64 x.d) ∧ w.cell? ((a.add (i * 3)).add 1) = some (.int .i64 x.a) ∧ w.cell? ((a.add (i * 3)).add 2) = some (.slice x.bA x.bn x.bc)) ∧ COk w x := fun i => by
    by_cases hil : i < len
    · obtain ⟨cs', n, y, hc, ht⟩ := hi i hil
      obtain ⟨v0, n0, y0, e0, t0⟩ := field_at Try.underlying35 (by kernel_rfl) (by kernel_rfl) ht 0 _ rfl
      obtain ⟨v1, n1, y1, e1, t1⟩ := field_at Try.underlying35 (by kernel_rfl) (by kernel_rfl) ht 1 _ rfl
      obtain ⟨v2, n2, y2, e2, t2⟩ := field_at Try.underlying35 (by kernel_rfl) (by kernel_rfl) ht 2 _ rfl
      obtain ⟨k, ek, _, hwk⟩ := DataW.trod_int Try.underlying3 t0
      obtain ⟨q, eq, _, hwq⟩ := DataW.trod_int Try.underlying3 t1
      obtain ⟨bA, bn, bc, b, eb, hrb, _, _⟩ := open_bytes t2
      simp only [List.cons.injEq, and_true] at ek eq eb
      subst ek eq eb
      exact ⟨⟨k, q, bA, bn, bc, b⟩, fun _ => ⟨⟨(hc 0 (by decide)).trans e0, (hc 1 (by decide)).trans e1, (hc 2 (by decide)).trans e2⟩, hrb, bounds_i64 hwq, bounds_i64 hwk⟩⟩
    · exact ⟨⟨0, 0, none, 0, 0, []⟩, fun h => absurd h hil⟩
  obtain ⟨F, hF⟩ := Classical.axiomOfChoice key
  refine ⟨some a, len, cap, (List.range len).map F, hcs, ⟨by simp, fun hpos => ?_, fun x hx => ?_⟩, hl, hm⟩
  · obtain ⟨b, off, spot⟩ := a
    have hs := (hF 0 hpos).1.1
    have hspot : spot = none := by simpa [Addr.add] using World.cell?_spot hs
    subst hspot
    refine ⟨b, off, rfl, by simpa [Addr.add] using World.block_lt_of_cell? w _ hs, fun j hj => ?_⟩
    have hj' : j < len := by simpa using hj
    obtain ⟨⟨c0, c1, c2⟩, _⟩ := hF j hj'
    rw [Addr.add_lit, Addr.add_lit] at c0 c1 c2
    simp only [List.getElem_map, List.getElem_range]
    exact ⟨c0, c1, c2⟩
  · obtain ⟨i, hi', rfl⟩ := List.mem_map.1 hx
    exact (hF i (List.mem_range.1 hi')).2
end
end Go.Proofs.Ytlblbhndfclhnaa
