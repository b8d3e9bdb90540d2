/- The reference's Go: a read. -/
import Derived.Test.YtieknelmfjkbhaaDr5
namespace Go.Proofs.Ytieknelmfjkbhaa
open Go.RowKit

theorem results_ctt {fn : Func} {p u v : Tmp} {ty : TypeId} (h : fn.results = #[.cell p ty, .tmp u, .tmp v]) (tmps : Array Value) (P : Program) (w : World) :
    (results fn tmps).run P w =
      ((asAddr (tmps.getD p undef)).run P w).andThen fun a w₁ => ((loadVar ty a).run P w₁).andThen fun x w₂ => .ok (.tuple #[x, tmps.getD u undef, tmps.getD v undef]) w₂ := by
  simp only [results, h]
  simp [Sem.run_bind, Result.andThen]
section
variable {w w' : World} {g : Nat} {d d' : Rf}
theorem res_R3 {fn : Func} {p u v : Tmp} (h : fn.results = #[.cell p 30, .tmp u, .tmp v]) {tmps : Array Value} (hp : tmps.getD p undef = .pointer (some ⟨g, 0, none⟩)) (hs : RAt w g d) :
    (results fn tmps).run Try.prog w = .ok (.tuple #[d.v, tmps.getD u undef, tmps.getD v undef]) w := by
  have h1 := hs.load
  simp only [Instr.loadAt, Instr.sureAddr, Sem.run_bind, Sem.run_pure, Result.andThen_ok] at h1
  rw [results_ctt h]
  rw [Array.getD_eq_getD_getElem?] at hp
  simp [hp, asAddr, h1, Result.andThen]
theorem RAt.set6 (h : RAt w g d) (d' : Rf) :
    RAt ((((((w.setCell ⟨g, 0, none⟩ (.slice d'.SA d'.sn d'.sc)).setCell ⟨g, 1, none⟩ (.slice d'.WA d'.wn d'.wc)).setCell ⟨g, 2, none⟩ (.int .i64 d'.fuse)).setCell ⟨g, 3, none⟩ (.bool d'.off)).setCell ⟨g, 4, none⟩ (.int .i64 d'.rd)).setCell ⟨g, 5, none⟩ (.int .i64 d'.wr)) g d' ∧
    Fr (· = g) w ((((((w.setCell ⟨g, 0, none⟩ (.slice d'.SA d'.sn d'.sc)).setCell ⟨g, 1, none⟩ (.slice d'.WA d'.wn d'.wc)).setCell ⟨g, 2, none⟩ (.int .i64 d'.fuse)).setCell ⟨g, 3, none⟩ (.bool d'.off)).setCell ⟨g, 4, none⟩ (.int .i64 d'.rd)).setCell ⟨g, 5, none⟩ (.int .i64 d'.wr)) := by
  have f : ∀ (W : World) (i : Nat) (u : Value), Fr (· = g) W (W.setCell ⟨g, i, none⟩ u) := fun W i u => Fr.setCell (own := (· = g)) W (p := ⟨g, i, none⟩) rfl u
  exact ⟨heap_setCell_at (heap_setCell_at (heap_setCell_at (heap_setCell_at (heap_setCell_at (heap_setCell_at h _) _) _) _) _) _, (((((f _ _ _).trans (f _ _ _)).trans (f _ _ _)).trans (f _ _ _)).trans (f _ _ _)).trans (f _ _ _)⟩
end

/-- A step by value. -/
def stv (dd a : Int) (bA : Option Addr) (bn bc : Nat) (fA : Option Addr) (fn fc : Nat) : Value := .agg #[.int .i64 dd, .int .i64 a, .slice bA bn bc, .slice fA fn fc]
def zeroR : Rf := ⟨none, 0, 0, none, 0, 0, 0, false, 0, 0⟩

/-- The reference's device, its step, and room for the answer. -/
structure Laid (w1 : World) (g : Nat) (d : Rf) (dd a : Int) (bA : Option Addr) (bn bc : Nat) (fA : Option Addr) (fn fc : Nat) : Prop where
  r0 : RAt w1 g d
  r2 : RAt w1 (g + 2) zeroR
  st : w1.heap[g + 1]? = some (.cells #[.int .i64 dd, .int .i64 a, .slice bA bn bc, .slice fA fn fc] 37 (0, 0))
theorem laid_new (w : World) (d : Rf) (dd a : Int) (bA : Option Addr) (bn bc : Nat) (fA : Option Addr) (fn fc : Nat) :
    Laid (((w.alloc (.cells #[.slice d.SA d.sn d.sc, .slice d.WA d.wn d.wc, .int .i64 d.fuse, .bool d.off, .int .i64 d.rd, .int .i64 d.wr] 30)).alloc (.cells #[.int .i64 dd, .int .i64 a, .slice bA bn bc, .slice fA fn fc] 37)).alloc (.cells #[.slice none 0 0, .slice none 0 0, .int .i64 0, .bool false, .int .i64 0, .int .i64 0] 30)) w.heap.size d dd a bA bn bc fA fn fc := by
  refine ⟨((RAt.new w d).under ((Below.refl _ _).alloc (Nat.le_refl _) _)).under ((Below.refl _ _).alloc (Nat.le_refl _) _), ?_, ?_⟩
  · have := RAt.new ((w.alloc (.cells #[.slice d.SA d.sn d.sc, .slice d.WA d.wn d.wc, .int .i64 d.fuse, .bool d.off, .int .i64 d.rd, .int .i64 d.wr] 30)).alloc (.cells #[.int .i64 dd, .int .i64 a, .slice bA bn bc, .slice fA fn fc] 37)) zeroR
    rw [World.size_alloc, World.size_alloc] at this
    exact this
  · rw [Below.heap_alloc _ _ _ (by simp)]
    have := heap_alloc_last (w.alloc (.cells #[.slice d.SA d.sn d.sc, .slice d.WA d.wn d.wc, .int .i64 d.fuse, .bool d.off, .int .i64 d.rd, .int .i64 d.wr] 30)) (.cells #[.int .i64 dd, .int .i64 a, .slice bA bn bc, .slice fA fn fc] 37 (0, 0))
    rw [World.size_alloc] at this
    exact this

section
variable (d : Rf) (dd a : Int) (bA : Option Addr) (bn bc : Nat) (fA : Option Addr) (fn fc : Nat) (w : World)

set_option maxRecDepth 100000 in
set_option maxHeartbeats 1000000 in
theorem Go_range (hd : dd ≠ 3 ∧ dd ≠ 4 ∧ dd ≠ 2) (ha : a < 0 ∨ (d.sn : Int) ≤ a) :
    Calls Try.prog 11 #[d.v, stv dd a bA bn bc fA fn fc] w fun e w' => e = .returned (.tuple #[d.v, .slice none 0 0, .int .i64 2]) ∧ Below w.heap.size w w' := by
  obtain ⟨SA, sn, sc, WA, wn, wc, fuse, off, rdd, wrr⟩ := d
  simp only at ha
  obtain ⟨h3, h4, h2⟩ := hd
  have hL := laid_new w ⟨SA, sn, sc, WA, wn, wc, fuse, off, rdd, wrr⟩ dd a bA bn bc fA fn fc
  obtain ⟨w1, hw1⟩ : ∃ w1, w1 = ((w.alloc (.cells #[.slice SA sn sc, .slice WA wn wc, .int .i64 fuse, .bool off, .int .i64 rdd, .int .i64 wrr] 30)).alloc (.cells #[.int .i64 dd, .int .i64 a, .slice bA bn bc, .slice fA fn fc] 37)).alloc (.cells #[.slice none 0 0, .slice none 0 0, .int .i64 0, .bool false, .int .i64 0, .int .i64 0] 30) := ⟨_, rfl⟩
  have hB1 : Below w.heap.size w w1 := by rw [hw1]; exact (((Below.refl _ _).alloc (Nat.le_refl _) _).alloc (by simp) _).alloc (by simp; omega) _
  rw [← hw1] at hL
  have k0 : w1.cell? ⟨w.heap.size + 1, 0, none⟩ = some (.int .i64 dd) := cell_of_row _ _ 0 _ _ _ hL.st
  have k1 : w1.cell? ⟨w.heap.size + 1, 1, none⟩ = some (.int .i64 a) := cell_of_row _ _ 1 _ _ _ hL.st
  have q0 := hL.r0.h0
  have HL := Lib.hid hL
  have HB1 := Lib.hid hB1
  clear hL hB1
  show Calls Try.prog _ #[.agg #[.slice SA sn sc, .slice WA wn wc, .int .i64 fuse, .bool off, .int .i64 rdd, .int .i64 wrr], .agg #[.int .i64 dd, .int .i64 a, .slice bA bn bc, .slice fA fn fc]] w _
  by_cases h0 : a < 0
  · clear ha
    go_enter Try.func11, Try.ntmps11
    go_wp2_with (first
      | (rw [← hw1]; clear hw1)
      | (with_reducible refine wpList_ldR rfl (.tmp 2) rfl rfl HL.out.r0 ?_)
      | (with_reducible refine wpList_stR rfl (.tmp 4) (.tmp 44) rfl rfl rfl HL.out.r2 ?_; intro w5 hR5 hF5))
    refine bodyPost_ret (res_R3 rfl rfl hR5) rfl ?_
    exact ⟨rfl, HB1.out.trans (hF5.toBelow (fun x hx => by rw [show x = w.heap.size + 2 from hx]; omega) HB1.out.size)⟩
  · have h1 : (sn : Int) ≤ a := by omega
    clear ha
    go_enter Try.func11, Try.ntmps11
    go_wp2_with (first
      | (rw [← hw1]; clear hw1)
      | (with_reducible refine wpList_ldR rfl (.tmp 2) rfl rfl HL.out.r0 ?_)
      | (with_reducible refine wpList_stR rfl (.tmp 4) (.tmp 44) rfl rfl rfl HL.out.r2 ?_; intro w5 hR5 hF5))
    refine bodyPost_ret (res_R3 rfl rfl hR5) rfl ?_
    exact ⟨rfl, HB1.out.trans (hF5.toBelow (fun x hx => by rw [show x = w.heap.size + 2 from hx]; omega) HB1.out.size)⟩

set_option maxRecDepth 100000 in
set_option maxHeartbeats 1000000 in
/-- The power is off, or fails just now. -/
theorem Go_off (hd : dd ≠ 3 ∧ dd ≠ 4) (ha : dd = 2 ∨ (0 ≤ a ∧ a < (d.sn : Int))) (ho : d.off = true ∨ d.fuse = 0) :
    Calls Try.prog 11 #[d.v, stv dd a bA bn bc fA fn fc] w fun e w' => e = .returned (.tuple #[Rf.v { d with off := true }, .slice none 0 0, .int .i64 3]) ∧ Below w.heap.size w w' := by
  obtain ⟨SA, sn, sc, WA, wn, wc, fuse, off, rdd, wrr⟩ := d
  simp only at ha ho
  have hL := laid_new w ⟨SA, sn, sc, WA, wn, wc, fuse, off, rdd, wrr⟩ dd a bA bn bc fA fn fc
  obtain ⟨w1, hw1⟩ : ∃ w1, w1 = ((w.alloc (.cells #[.slice SA sn sc, .slice WA wn wc, .int .i64 fuse, .bool off, .int .i64 rdd, .int .i64 wrr] 30)).alloc (.cells #[.int .i64 dd, .int .i64 a, .slice bA bn bc, .slice fA fn fc] 37)).alloc (.cells #[.slice none 0 0, .slice none 0 0, .int .i64 0, .bool false, .int .i64 0, .int .i64 0] 30) := ⟨_, rfl⟩
  have hB1 : Below w.heap.size w w1 := by rw [hw1]; exact (((Below.refl _ _).alloc (Nat.le_refl _) _).alloc (by simp) _).alloc (by simp; omega) _
  rw [← hw1] at hL
  have k0 : w1.cell? ⟨w.heap.size + 1, 0, none⟩ = some (.int .i64 dd) := cell_of_row _ _ 0 _ _ _ hL.st
  have k1 : w1.cell? ⟨w.heap.size + 1, 1, none⟩ = some (.int .i64 a) := cell_of_row _ _ 1 _ _ _ hL.st
  have q0 := hL.r0.h0
  have HL := Lib.hid hL
  have HB1 := Lib.hid hB1
  clear hL hB1
  show Calls Try.prog _ #[.agg #[.slice SA sn sc, .slice WA wn wc, .int .i64 fuse, .bool off, .int .i64 rdd, .int .i64 wrr], .agg #[.int .i64 dd, .int .i64 a, .slice bA bn bc, .slice fA fn fc]] w _
  obtain ⟨h3, h4⟩ := hd
  have cB := burn_no SA sn sc WA wn wc fuse off rdd wrr w1 ho
  have CB := Lib.hid cB
  clear cB ho
  by_cases h2 : dd = 2
  · subst h2
    clear ha
    go_enter Try.func11, Try.ntmps11
    go_wp2_with (first
      | (rw [← hw1]; clear hw1)
      | (with_reducible refine wpList_ldR rfl (.tmp 2) rfl rfl HL.out.r0 ?_))
    refine CB.out.mono ?_
    rintro e w2 ⟨rfl, hB2⟩
    have R0 := Lib.hid (HL.out.r0.under hB2)
    have R2 := Lib.hid (HL.out.r2.under hB2)
    have HB2 := Lib.hid (HB1.out.trans (hB2.mono HB1.out.size))
    have hlt2 := (HL.out.r2.under hB2).lt
    have HLT2 := Lib.hid hlt2
    clear hB2 hlt2 k0 k1 q0
    go_wp2_with (first
      | (refine wpList_stR (d' := ⟨SA, sn, sc, WA, wn, wc, fuse, true, rdd, wrr⟩) rfl (.tmp 2) (.tmp 48) rfl rfl rfl R0.out ?_; intro w3 hR3 hF3; have hR23 : RAt w3 (w.heap.size + 2) zeroR := (hF3.block (w.heap.size + 2) R2.out.lt (fun e => by have e' : w.heap.size + 2 = w.heap.size := e; omega)).trans R2.out)
      | (with_reducible refine wpList_ldR rfl (.tmp 2) rfl rfl hR3 ?_)
      | (with_reducible refine wpList_stR rfl (.tmp 4) (.tmp 52) rfl rfl rfl hR23 ?_; intro w5 hR5 hF5))
    refine bodyPost_ret (res_R3 rfl rfl hR5) rfl ?_
    exact ⟨rfl, (HB2.out.trans (hF3.toBelow (fun x hx => by rw [show x = w.heap.size from hx]; exact Nat.le_refl _) HB2.out.size)).trans (hF5.toBelow (fun x hx => by rw [show x = w.heap.size + 2 from hx]; omega) (by have := HB2.out.size; have := hF3.size; omega))⟩
  · obtain ⟨ha0, ha1⟩ : 0 ≤ a ∧ a < (sn : Int) := by rcases ha with h | h; exact absurd h h2; exact h
    clear ha
    go_enter Try.func11, Try.ntmps11
    go_wp2_with (first
      | (rw [← hw1]; clear hw1)
      | (with_reducible refine wpList_ldR rfl (.tmp 2) rfl rfl HL.out.r0 ?_))
    refine CB.out.mono ?_
    rintro e w2 ⟨rfl, hB2⟩
    have R0 := Lib.hid (HL.out.r0.under hB2)
    have R2 := Lib.hid (HL.out.r2.under hB2)
    have HB2 := Lib.hid (HB1.out.trans (hB2.mono HB1.out.size))
    clear hB2 k0 k1 q0
    go_wp2_with (first
      | (refine wpList_stR (d' := ⟨SA, sn, sc, WA, wn, wc, fuse, true, rdd, wrr⟩) rfl (.tmp 2) (.tmp 48) rfl rfl rfl R0.out ?_; intro w3 hR3 hF3; have hR23 : RAt w3 (w.heap.size + 2) zeroR := (hF3.block (w.heap.size + 2) R2.out.lt (fun e => by have e' : w.heap.size + 2 = w.heap.size := e; omega)).trans R2.out)
      | (with_reducible refine wpList_ldR rfl (.tmp 2) rfl rfl hR3 ?_)
      | (with_reducible refine wpList_stR rfl (.tmp 4) (.tmp 52) rfl rfl rfl hR23 ?_; intro w5 hR5 hF5))
    refine bodyPost_ret (res_R3 rfl rfl hR5) rfl ?_
    exact ⟨rfl, (HB2.out.trans (hF3.toBelow (fun x hx => by rw [show x = w.heap.size from hx]; exact Nat.le_refl _) HB2.out.size)).trans (hF5.toBelow (fun x hx => by rw [show x = w.heap.size + 2 from hx]; omega) (by have := HB2.out.size; have := hF3.size; omega))⟩
end
end Go.Proofs.Ytieknelmfjkbhaa
