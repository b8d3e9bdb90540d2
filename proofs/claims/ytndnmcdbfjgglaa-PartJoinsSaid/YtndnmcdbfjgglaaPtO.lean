/- A slice of slices of bytes, as the row's frame reads it. -/
import Derived.Test.YtndnmcdbfjgglaaPtA
import Derived.Test.YtndnmcdbfjgglaaOpn
import Derived.Test.YtndnmcdbfjgglaaRowM
namespace Go.Proofs.Ytndnmcdbfjgglaa
open Go.RowKit Go.ChangeShapes Go.WideShapes Go.Deep
set_option maxRecDepth 20000

def PcsRd (w : World) (A : Option Addr) (n : Nat) (xs : List (List UInt8)) : Prop := PcsV (· < w.heap.size) w A n xs ∧ ∀ x ∈ xs, x.length ≤ maxLen
section
variable {H : Type} {enc : TypeId × Value → H} {w : World} {base : Nat} {held : Bool}
theorem open_pb {fuel : Nat} {cs : List Value} {x : DataW H × List MemPlace} (h : DataW.trod enc Try.prog w base (fun _ => true) held fuel 22 cs = some x) :
    ∃ A n c l, cs = [.slice A n c] ∧ VB (· < w.heap.size) w (.slice A n c) l ∧ n ≤ c ∧ c ≤ maxLen := by
  obtain ⟨A, n, c, l, hcs, hr, h1, h2⟩ := open_bytes h
  refine ⟨A, n, c, l, hcs, ⟨_, _, _, rfl, hr, fun b o e hn => ?_⟩, h1, h2⟩
  obtain ⟨b', o', e', hlt, _⟩ := hr.2 hn
  rw [e] at e'
  injection e' with e'
  injection e' with e1 e2
  exact ⟨(show b < w.heap.size by omega), by omega⟩
theorem open_pcs {fuel : Nat} {cs : List Value} {x : DataW H × List MemPlace} (h : DataW.trod enc Try.prog w base (fun _ => true) held fuel 24 cs = some x) :
    ∃ A n c ls, cs = [.slice A n c] ∧ PcsRd w A n ls ∧ n ≤ c ∧ c ≤ maxLen := by
  have nil : ∀ A : Option Addr, PcsRd w A 0 [] := fun A => ⟨PcsV.nil _ _ _, fun _ h => absurd h List.not_mem_nil⟩
  rcases elems_at Try.underlying24 h with h0 | ⟨a, len, cap, hcs, hl, hm, hi⟩
  · exact ⟨none, 0, 0, [], h0, nil _, Nat.le_refl _, Nat.zero_le _⟩
  have h4 : Try.prog.cellsOf 22 = 1 := by kernel_rfl
  rw [h4] at hi
  have key : ∀ i, ∃ x : List UInt8 × Option Addr × Nat × Nat, i < len → (w.cell? ((a.add (i * 1)).add 0) = some (.slice x.2.1 x.2.2.1 x.2.2.2) ∧ VB (· < w.heap.size) w (.slice x.2.1 x.2.2.1 x.2.2.2) x.1 ∧ x.2.2.1 ≤ x.2.2.2 ∧ x.2.2.2 ≤ maxLen) := fun i => by
    by_cases hil : i < len
    · obtain ⟨cs', n, y, hc, ht⟩ := hi i hil
      obtain ⟨bA, bn, bc, b, eb, hvb, h1, h2⟩ := open_pb ht
      subst eb
      exact ⟨(b, bA, bn, bc), fun _ => ⟨hc 0 (by decide), hvb, h1, h2⟩⟩
    · exact ⟨([], none, 0, 0), fun h => absurd h hil⟩
  obtain ⟨F, hF⟩ := Classical.axiomOfChoice key
  rcases Nat.eq_zero_or_pos len with h0 | hpos
  · subst h0
    exact ⟨some a, 0, cap, [], hcs, nil _, hl, hm⟩
  obtain ⟨b, off, spot⟩ := a
  have hs := (hF 0 hpos).1
  have hspot : spot = none := by simpa [Addr.add] using World.cell?_spot hs
  subst hspot
  have hlt : b < w.heap.size := by simpa [Addr.add] using World.block_lt_of_cell? w _ hs
  refine ⟨_, len, cap, (List.range len).map fun i => (F i).1, hcs, ⟨RowsL.mk (by decide) (fun i => (F i).1) (fun i => [.slice (F i).2.1 (F i).2.2.1 (F i).2.2.2]) (fun _ => ⟨hlt, hlt⟩) (fun i hi' => ⟨rfl, ⟨_, _, _, rfl, (hF i hi').2.1, (hF i hi').2.2.1⟩, fun r u hr => ?_⟩), fun y hy => ?_⟩, hl, hm⟩
  · have hr1 : r < 1 := (List.getElem?_eq_some_iff.1 hr).1
    obtain rfl : r = 0 := by omega
    have := (hF i hi').1
    rw [Addr.add_lit, Addr.add_lit, Nat.add_assoc] at this
    rw [this]
    exact hr
  · obtain ⟨i, hi', rfl⟩ := List.mem_map.1 hy
    obtain ⟨_, ⟨A', m, c, e, hr, _⟩, h1, h2⟩ := hF i (List.mem_range.1 hi')
    injection e with e1 e2 e3
    have := hr.1
    show (F i).1.length ≤ maxLen
    omega
end
end Go.Proofs.Ytndnmcdbfjgglaa
