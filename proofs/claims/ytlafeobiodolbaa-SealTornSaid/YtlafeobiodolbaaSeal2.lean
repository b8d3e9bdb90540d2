/- The contracts of seal's methods on a sector: put, num. -/
import Derived.Test.YtlafeobiodolbaaSeal1
import Derived.Test.YtlafeobiodolbaaOwn
import Derived.Deep.MidRow
import Derived.Deep.WholeRow
import Derived.Deep.RegionHeld3
import Derived.Deep.RegionWith
namespace Go.Proofs.Ytlafeobiodolbaa
open Go.RowKit

/-- Block g holds a sector with these bytes. -/
def Sec (w : World) (g : Nat) (l : List UInt8) : Prop := l.length = 512 ∧ w.heap[g]? = some (.cells (cells l).toArray 41 (0, 0))

section
variable {w w' : World} {g : Nat} {l : List UInt8}
theorem Sec.len (h : Sec w g l) : l.length = 512 := h.1
theorem Sec.lt (h : Sec w g l) : g < w.heap.size := (Array.getElem?_eq_some_iff.1 h.2).1
theorem Sec.below {B : Nat} (h : Sec w g l) (hb : Below B w w') (hB : g < B) : Sec w' g l := ⟨h.1, (hb.block g hB).trans h.2⟩
theorem Sec.alloc (h : Sec w g l) (o : Obj) : Sec (w.alloc o) g l := h.below ((Below.refl w.heap.size w).alloc (Nat.le_refl _) o) h.lt
theorem Sec.drew (h : Sec w g l) : Sec w.drew g l := h
theorem Sec.cell (h : Sec w g l) (j : Nat) (hj : j < l.length) : w.cell? ⟨g, j, none⟩ = some (.int .u8 (l[j].toNat : Int)) := by
  rw [cell_of_row _ g j _ _ _ h.2]
  simpa using cells_get hj
/-- A part of the sector, read as a slice. -/
theorem Sec.rd (h : Sec w g l) {p m : Nat} (hp : p + m ≤ 512) : Rd w (some ⟨g, p, none⟩) m ((l.drop p).take m) :=
  ⟨by have := h.1; simp; omega, fun hm => ⟨g, p, rfl, h.lt, fun j hj => by
    have := h.1
    have hj' : j < m := by simp at hj; omega
    rw [h.cell (p + j) (by omega)]
    simp⟩⟩
theorem Sec.rd_all (h : Sec w g l) : Rd w (some ⟨g, 0, none⟩) 512 l := by
  have := h.rd (p := 0) (m := 512) (by omega)
  rw [List.drop_zero, List.take_of_length_le (by rw [h.1]; omega)] at this
  exact this
end

theorem num_any (g : Nat) (l : List UInt8) (x : Nat) (width : Int) (w : World) (h : Sec w g l) (hx : x + wd width ≤ 512) :
    Calls Try.prog 35 #[.pointer (some ⟨g, 0, none⟩), .int .i64 x, .int .i64 width] w fun e w' => e = .returned (.int .i64 (getV ((l.drop x).take (wd width)))) ∧ w = w' := by
  have hG := Get_yes (some ⟨g, 0, none⟩) 512 512 l x width w h.rd_all (by omega) (by omega) hx
  have HG := Lib.hid hG
  clear hG
  have hu := Try.underlying40
  go_enter Try.func35, Try.ntmps35
  go_wp2_with (go_at_call 36; refine HG.out.mono ?_; rintro e w' ⟨rfl, rfl⟩)
  go_ret
  exact ⟨rfl, rfl⟩

/-- 'copy(s[p:..], x)': s a sector of the call's own, x any slice of bytes; as a step of a region that draws its order. -/
theorem step_cpy_sec {ops : Array Oper} {o : Oper} {a : Act} {w : World} {K : Act → World → Prop} {Q : Exit → Act → World → Prop} {E : Prop} (hgd : o.guard = none) (d s : Operand)
    (ho : o.op = .call { callee := .builtin .copy, args := #[d, s], argTypes := #[22, 22] })
    (g p dl dc : Nat) (L : List UInt8) (hd : a.eval d = .slice (some ⟨g, p, none⟩) dl dc) (hp : p + dl ≤ 512) (hL : Sec w g L)
    (A : Option Addr) (n c : Nat) (l : List UInt8) (hs : a.eval s = .slice A n c) (hr : Rd w A n l)
    (h : ∀ w', Sec w' g (putL L p (l.take dl)) → Below g w w' → K (a.put o.dst (goInt (l.take dl).length)) w') :
    if Region.wanted o (yielded ops a.tmps) = true then Oper.wp Try.prog o a w K Q else E := by
  have hl := hr.1
  have hL1 := hL.1
  have hm : (l.take dl).length = min dl n := by simp; omega
  refine step_copy_splice hgd d s _ _ ho 5 Try.underlying22 (by kernel_rfl) (some ⟨g, p, none⟩) A dl dc n c hd hs g p (cells L) 41 hL.2 (cells (l.take dl)) (by rw [cells_length, hm]; show min dl n = min n dl; omega) (fun hpos => ⟨rfl, hr.src dl hpos⟩) (by rw [cells_length, cells_length]; omega) (cells_one _) g w (Below.refl _ _) (Nat.le_refl _) ?_
  intro w' hw' hb
  rw [cells_length]
  refine h w' ⟨?_, ?_⟩ hb
  · rw [putL_length (by omega), hL1]
  · rw [← splice_cells]; exact hw'.out

theorem put_any (g : Nat) (l : List UInt8) (x : Nat) (width n : Int) (w : World) (h : Sec w g l) (hx : x + wd width ≤ 512) :
    Calls Try.prog 31 #[.pointer (some ⟨g, 0, none⟩), .int .i64 x, .int .i64 width, .int .i64 n] w fun e w' => e = .returned (.tuple #[]) ∧ Sec w' g (putL l x (numB (wd width) n)) ∧ Below g w w' := by
  have hw := wd_bd width
  have hne : ¬ 512 = x := by omega
  have hx0 : (0 : Int) ≤ (x : Int) := Int.natCast_nonneg _
  have hx1 : (x : Int) ≤ 512 := by omega
  have hl := h.1
  have hlt := h.lt
  go_enter Try.func31, Try.ntmps31
  go_wp2
  go_region_held3 (fun _ => True) (trivial) (first
    | (go_at_call 38; refine (Put_any none 0 0 [] width n _ (Rd.nil _ _) (by omega)).mono ?_; rintro e w1 ⟨v1, rfl, hown1, hb1⟩; rw [List.nil_append, Nat.zero_add] at hown1; obtain ⟨A1, c1, rfl, _, _, hr1⟩ := Rd.of_own hown1 rfl)
    | (refine step_cpy_sec rfl (.tmp 11) (.tmp 14) rfl g x (512 - x) (512 - x) l rfl (by omega) (h.drew.below hb1 hlt) A1 _ c1 (numB (wd width) n) rfl hr1 ?_; intro w2 hs2 hb2))
  rw [List.take_of_length_le (by simp; omega)] at hs2
  go_end0
  exact ⟨rfl, hs2, ((Below.refl g w).drew.trans (hb1.mono (Nat.le_of_lt hlt))).trans hb2⟩
end Go.Proofs.Ytlafeobiodolbaa
