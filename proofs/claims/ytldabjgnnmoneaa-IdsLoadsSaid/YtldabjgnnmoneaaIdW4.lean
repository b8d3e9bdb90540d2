/- A slice of ints as the row's frame reads it; behind it the law IdsLoads as the row wants it. -/
import Derived.Test.YtldabjgnnmoneaaIdW3
namespace Go.Proofs.Ytldabjgnnmoneaa
open Go.RowKit Go.ChangeShapes Go.WideShapes Go.Deep

theorem open_inlist {H : Type} {enc : TypeId × Value → H} {w : World} {base : Nat} {held : Bool} {fuel : Nat} {cs : List Value} {x : DataW H × List MemPlace} (h : DataW.trod enc Try.prog w base (fun _ => true) held fuel 28 cs = some x) :
    ∃ A n c zs, cs = [.slice A n c] ∧ IRd w A n zs ∧ n ≤ c ∧ c ≤ maxLen := by
  rcases open_ints Try.underlying28 Try.underlying3 (by kernel_rfl) h with ⟨hcs, _⟩ | ⟨x, l, c, zs, hcs, _, hl, hm, hz, _, hcell, hwz⟩
  · exact ⟨none, 0, 0, [], hcs, ⟨rfl, fun h => absurd h (Nat.lt_irrefl 0)⟩, Nat.le_refl _, Nat.zero_le _⟩
  · obtain ⟨hr, h1, h2, _⟩ := ird_of_row (w := w) (a := some x) (len := l) (cap := c) (zs := zs) (.inr ⟨x, rfl, hl, hm, by simpa using hz, hcell, hwz⟩)
    exact ⟨some x, l, c, zs.take l, hcs, hr, h1, h2⟩

theorem IdsLoads_all (nE nG : Int) (GA : Option Addr) (gn gc : Nat) (gs : List Int) (FA : Option Addr) (fn fc : Nat) (fs : List Int) (A : Option Addr) (n c : Nat) (st : List Stg) (i gen : Int) (w : World)
    (hg : IRd w GA gn gs ∧ gn ≤ gc ∧ gc ≤ maxLen) (hf : IRd w FA fn fs ∧ fn ≤ fc ∧ fc ≤ maxLen) (h : TRd w A n st ∧ n ≤ c ∧ c ≤ maxLen) :
    Calls Try.prog 5 #[.int .i64 nE, .int .i64 nG, .slice GA gn gc, .slice FA fn fc, .slice A n c, .agg #[.int .i64 i, .int .i64 gen]] w fun e w' => e = .returned (.bool true) ∧ Below w.heap.size w w' := by
  have g1 := hg.2.1
  have g2 := hg.2.2
  have f1 := hf.2.1
  have f2 := hf.2.2
  have n1 := h.2.1
  have n2 := h.2.2
  unfold maxLen at g2 f2 n2
  by_cases hs : n ≤ 60 ∧ gn ≤ 1100 ∧ fn ≤ 100
  · exact IdsLoads_walk nE nG GA gn gc gs FA fn fc fs A n c st i gen w hg.1 hf.1 g1 f1 h.1 hs.1 hs.2.1 hs.2.2
  · exact IdsLoads_big nE nG GA gn gc FA fn fc A n c i gen w (by omega) (by omega) (by omega) hs
end Go.Proofs.Ytldabjgnnmoneaa
