/- TbLO -/
import Derived.Test.YtnjfogeefdmlkaaDoorQl17
namespace Go.Proofs.YtnjfogeefdmlkaaDoor
open Go.RowKit Go.ChangeShapes Go.WideShapes Go.Deep
set_option maxRecDepth 20000

abbrev IdsRd (w : World) (A : Option Addr) (n : Nat) (xs : List (Int × Int)) : Prop := xs.length = n ∧ IdsV (· < w.heap.size) w A n xs
/-- A slice of slices of bytes, none longer than it may be. -/
def ColsRd (w : World) (A : Option Addr) (n : Nat) (ls : List (List UInt8)) : Prop :=
  ls.length = n ∧ RowsV (· < w.heap.size) w A n ls ∧ (∀ k uA un uc b o, A = some ⟨b, o, none⟩ → k < n → w.cell? ⟨b, o + k, none⟩ = some (.slice uA un uc) → un ≤ uc ∧ uc ≤ maxLen) ∧
    (0 < n → ∃ b o, A = some ⟨b, o, none⟩ ∧ b < w.heap.size ∧ ∀ k, k < n → ∃ uA un uc, w.cell? ⟨b, o + k, none⟩ = some (.slice uA un uc) ∧ (ls.getD k []).length = un ∧ un ≤ maxLen)

section
variable {H : Type} {enc : TypeId × Value → H} {w : World} {base : Nat} {held : Bool}
theorem open_ids {fuel : Nat} {cs : List Value} {x : DataW H × List MemPlace} (h : DataW.trod enc Tryd.prog w base (fun _ => true) held fuel 26 cs = some x) :
    ∃ A n c xs, cs = [.slice A n c] ∧ IdsRd w A n xs ∧ n ≤ c ∧ c ≤ maxLen := by
  have nil : ∀ A : Option Addr, IdsRd w A 0 [] := fun A => ⟨rfl, ⟨[], rfl, ⟨rfl, fun _ => rfl, fun h => absurd h (Nat.lt_irrefl 0)⟩, ⟨[], rfl, rfl, fun _ h => absurd h List.not_mem_nil, fun _ _ h => by cases h⟩⟩⟩
  rcases elems_at Tryd.underlying26 h with h0 | ⟨a, len, cap, hcs, hl, hm, hi⟩
  · exact ⟨none, 0, 0, [], h0, nil _, Nat.le_refl _, Nat.zero_le _⟩
  have h4 : Tryd.prog.cellsOf 44 = 2 := by kernel_rfl
  rw [h4] at hi
  have key : ∀ i, ∃ x : Int × Int, i < len → (w.cell? ((a.add (i * 2)).add 0) = some (.int .i64 x.1) ∧ w.cell? ((a.add (i * 2)).add 1) = some (.int .i64 x.2)) := fun i => by
    by_cases hil : i < len
    · obtain ⟨cs', n, y, hc, ht⟩ := hi i hil
      obtain ⟨v0, n0, y0, e0, t0⟩ := field_at Tryd.underlying44 (by kernel_rfl) (by kernel_rfl) ht 0 _ rfl
      obtain ⟨v1, n1, y1, e1, t1⟩ := field_at Tryd.underlying44 (by kernel_rfl) (by kernel_rfl) ht 1 _ rfl
      obtain ⟨k, ek, _, _⟩ := DataW.trod_int Tryd.underlying3 t0
      obtain ⟨m, em, _, _⟩ := DataW.trod_int Tryd.underlying3 t1
      simp only [List.cons.injEq, and_true] at ek em
      subst ek em
      exact ⟨(k, m), fun _ => ⟨(hc 0 (by decide)).trans e0, (hc 1 (by decide)).trans e1⟩⟩
    · exact ⟨(0, 0), fun h => absurd h hil⟩
  obtain ⟨F, hF⟩ := Classical.axiomOfChoice key
  rcases Nat.eq_zero_or_pos len with h0 | hpos
  · subst h0
    exact ⟨some a, 0, cap, [], hcs, nil _, hl, hm⟩
  obtain ⟨b, off, spot⟩ := a
  have hs := (hF 0 hpos).1
  have hspot : spot = none := by simpa [Addr.add] using World.cell?_spot hs
  subst hspot
  have hlt : b < w.heap.size := by simpa [Addr.add] using World.block_lt_of_cell? w _ hs
  refine ⟨_, len, cap, (List.range len).map F, hcs, ⟨by simp, RowsL.mk (by decide) F (fun i => [.int .i64 (F i).1, .int .i64 (F i).2]) (fun _ => ⟨hlt, hlt⟩) (fun i hi' => ⟨rfl, rfl, fun r u hr => ?_⟩)⟩, hl, hm⟩
  obtain ⟨c0, c1⟩ := hF i hi'
  rw [Addr.add_lit, Addr.add_lit] at c0 c1
  match r, hr with
  | 0, hr => injection hr with hr; rw [← hr]; exact c0
  | 1, hr => injection hr with hr; rw [← hr, ← Nat.add_assoc]; exact c1

theorem open_cols {fuel : Nat} {cs : List Value} {x : DataW H × List MemPlace} (h : DataW.trod enc Tryd.prog w base (fun _ => true) held fuel 27 cs = some x) :
    ∃ A n c ls, cs = [.slice A n c] ∧ ColsRd w A n ls ∧ n ≤ c ∧ c ≤ maxLen := by
  have nil : ∀ A : Option Addr, ColsRd w A 0 [] := fun A => ⟨rfl, ⟨[], rfl, ⟨rfl, fun _ => rfl, fun h => absurd h (Nat.lt_irrefl 0)⟩, rfl, fun _ _ h => by cases h⟩, fun _ _ _ _ _ _ _ hk => absurd hk (Nat.not_lt_zero _), fun h => absurd h (Nat.lt_irrefl 0)⟩
  rcases elems_at Tryd.underlying27 h with h0 | ⟨a, len, cap, hcs, hl, hm, hi⟩
  · exact ⟨none, 0, 0, [], h0, nil _, Nat.le_refl _, Nat.zero_le _⟩
  have h4 : Tryd.prog.cellsOf 32 = 1 := by kernel_rfl
  rw [h4] at hi
  have key : ∀ i, ∃ x : List UInt8 × Option Addr × Nat × Nat, i < len → (w.cell? ((a.add (i * 1)).add 0) = some (.slice x.2.1 x.2.2.1 x.2.2.2) ∧ VB (· < w.heap.size) w (.slice x.2.1 x.2.2.1 x.2.2.2) x.1 ∧ x.2.2.1 ≤ x.2.2.2 ∧ x.2.2.2 ≤ maxLen) := fun i => by
    by_cases hil : i < len
    · obtain ⟨cs', n, y, hc, ht⟩ := hi i hil
      obtain ⟨bA, bn, bc, b, eb, hvb, h1, h2⟩ := open_vb ht
      subst eb
      exact ⟨(b, bA, bn, bc), fun _ => ⟨hc 0 (by decide), hvb, h1, h2⟩⟩
    · exact ⟨([], none, 0, 0), fun h => absurd h hil⟩
  obtain ⟨F, hF⟩ := Classical.axiomOfChoice key
  rcases Nat.eq_zero_or_pos len with h0 | hpos
  · subst h0
    exact ⟨some a, 0, cap, [], hcs, nil _, hl, hm⟩
  obtain ⟨b, off, spot⟩ := a
  have hs := (hF 0 hpos).1
  have hspot : spot = none := by simpa [Addr.add] using World.cell?_spot hs
  subst hspot
  have hlt : b < w.heap.size := by simpa [Addr.add] using World.block_lt_of_cell? w _ hs
  have hcell : ∀ k, k < len → w.cell? ⟨b, off + k, none⟩ = some (.slice (F k).2.1 (F k).2.2.1 (F k).2.2.2) := fun k hk => by
    have := (hF k hk).1
    rw [Addr.add_lit, Addr.add_lit, Nat.mul_one] at this
    exact this
  have hget : ∀ k, k < len → ((List.range len).map fun i => (F i).1).getD k [] = (F k).1 := fun k hk => by
    rw [List.getD_eq_getElem?_getD, List.getElem?_map, List.getElem?_range hk]
    rfl
  refine ⟨_, len, cap, (List.range len).map fun i => (F i).1, hcs, ⟨by simp, ⟨(List.range len).map fun i => .slice (F i).2.1 (F i).2.2.1 (F i).2.2.2, by simp, ⟨by simp, (fun e => by cases e), fun _ => ⟨b, off, rfl, hlt, hlt, fun j u hj => ?_⟩⟩, by simp, fun j u hj => ?_⟩, fun k uA un uc b' o' e hk hc => ?_, fun _ => ⟨b, off, rfl, hlt, fun k hk => ⟨_, _, _, hcell k hk, ?_, Nat.le_trans (hF k hk).2.2.1 (hF k hk).2.2.2⟩⟩⟩, hl, hm⟩
  · have hjl : j < len := by have := (List.getElem?_eq_some_iff.1 hj).1; simpa using this
    rw [List.getElem?_map, List.getElem?_range hjl] at hj
    injection hj with hj
    rw [← hj]
    exact hcell j hjl
  · have hjl : j < len := by have := (List.getElem?_eq_some_iff.1 hj).1; simpa using this
    rw [List.getElem?_map, List.getElem?_range hjl] at hj
    injection hj with hj
    rw [← hj, hget j hjl]
    exact (hF j hjl).2.1
  · injection e with e
    injection e with e1 e2
    subst e1 e2
    rw [hcell k hk] at hc
    injection hc with hc
    injection hc with c1 c2 c3
    subst c2 c3
    exact (hF k hk).2.2
  · rw [hget k hk]
    obtain ⟨A', m', c', e, hr, _⟩ := (hF k hk).2.1
    injection e with e1 e2 e3
    rw [e2]
    exact hr.1
end
end Go.Proofs.YtnjfogeefdmlkaaDoor
