/- A layout by value, in a block of its own. -/
import Derived.Test.YtabmaiphjcbfbaaCmK
namespace Go.Proofs.Ytabmaiphjcbfbaa
open Go.RowKit
set_option linter.unusedVariables false

/-- A layout by value. -/
abbrev cv (lg pg en gn : Int) (A : Option Addr) (n cap : Nat) : Value := .agg #[.int .i64 lg, .int .i64 pg, .int .i64 en, .int .i64 gn, .slice A n cap]
abbrev cc (lg pg en gn : Int) (A : Option Addr) (n cap : Nat) : Array Value := #[.int .i64 lg, .int .i64 pg, .int .i64 en, .int .i64 gn, .slice A n cap]

/-- A layout in a block of its own. -/
structure CAt (w0 w : World) (g : Nat) (lg pg en gn : Int) (A : Option Addr) (n cap : Nat) (ks : List Kd) : Prop where
  bel : Below w0.heap.size w0 w
  ge : w0.heap.size ≤ g
  lt : g < w.heap.size
  c0 : w.cell? ⟨g, 0, none⟩ = some (.int .i64 lg)
  c1 : w.cell? ⟨g, 1, none⟩ = some (.int .i64 pg)
  c2 : w.cell? ⟨g, 2, none⟩ = some (.int .i64 en)
  c3 : w.cell? ⟨g, 3, none⟩ = some (.int .i64 gn)
  c4 : w.cell? ⟨g, 4, none⟩ = some (.slice A n cap)
  rd : KRd w A n ks
theorem CAt.new {w : World} {A : Option Addr} {n : Nat} {ks : List Kd} (h : KRd w A n ks) (lg pg en gn : Int) (cap : Nat) :
    CAt w (w.alloc (.cells (cc lg pg en gn A n cap) 24)) w.heap.size lg pg en gn A n cap ks where
  bel := (Below.refl _ _).alloc (Nat.le_refl _) _
  ge := Nat.le_refl _
  lt := by simp
  c0 := by simp
  c1 := by simp
  c2 := by simp
  c3 := by simp
  c4 := by simp
  rd := h.alloc _
theorem CAt.next {w0 w w' : World} {g : Nat} {lg pg en gn : Int} {A : Option Addr} {n cap : Nat} {ks : List Kd} (h : CAt w0 w g lg pg en gn A n cap ks) (hb : Below w.heap.size w w') : CAt w0 w' g lg pg en gn A n cap ks where
  bel := h.bel.trans (hb.mono h.bel.size)
  ge := h.ge
  lt := Nat.lt_of_lt_of_le h.lt hb.size
  c0 := (hb.cell (p := ⟨g, 0, none⟩) h.lt).trans h.c0
  c1 := (hb.cell (p := ⟨g, 1, none⟩) h.lt).trans h.c1
  c2 := (hb.cell (p := ⟨g, 2, none⟩) h.lt).trans h.c2
  c3 := (hb.cell (p := ⟨g, 3, none⟩) h.lt).trans h.c3
  c4 := (hb.cell (p := ⟨g, 4, none⟩) h.lt).trans h.c4
  rd := h.rd.below hb

theorem sizeK_yes {ks : List Kd} {j : Nat} {s : ByteArray} {z : Int} (h : j < ks.length) (hk : ks[j] = (s, z)) : sizeK ks (j : Int) = (z, true) := by
  unfold sizeK
  rw [if_pos ⟨by omega, by omega⟩, Int.toNat_natCast, List.getD, List.getElem?_eq_getElem h, hk]
  rfl
theorem sizeK_no {ks : List Kd} {k : Int} (h : ¬ (0 ≤ k ∧ k < ks.length)) : sizeK ks k = (0, false) := by
  unfold sizeK
  rw [if_neg h]
end Go.Proofs.Ytabmaiphjcbfbaa
