/- The reference's Go: a write. -/
import Derived.Test.YtieknelmfjkbhaaDr8
namespace Go.Proofs.Ytieknelmfjkbhaa
open Go.RowKit

theorem AtRow.nil0 {K : Nat → Prop} {w : World} {n sz : Nat} {vs : List Value} (h : AtRow K w none n sz vs) : n = 0 := by
  rcases Nat.eq_zero_or_pos n with h0 | h0
  · exact h0
  · obtain ⟨b, o, e, _⟩ := h.2 h0
    cases e
theorem AtRow.new (w : World) (C : Array Value) (e n sz : Nat) (h : C.size = n * sz) : AtRow (fun _ => True) (w.alloc (.cells C e)) (some ⟨w.heap.size, 0, none⟩) n sz C.toList :=
  ⟨by simpa using h, fun _ => ⟨w.heap.size, 0, rfl, trivial, by simp, fun j u hj => by
    rw [Nat.zero_add, cell_of_row _ _ j _ _ _ (heap_alloc_last w _)]
    simpa using hj⟩⟩
theorem AtRow.drew {K : Nat → Prop} {w : World} {A : Option Addr} {n sz : Nat} {vs : List Value} (h : AtRow K w A n sz vs) : AtRow K w.drew A n sz vs := h

section
variable (d : Rf) (a : Int) (bA : Option Addr) (bn bc : Nat) (fA : Option Addr) (fn fc : Nat) (w : World)

set_option maxRecDepth 100000 in
set_option maxHeartbeats 2000000 in
theorem Go_write (K : Nat → Prop) (i : Nat) (ha : a = (i : Int)) (hi : i < d.sn) (ho : d.off = false ∧ d.fuse ≠ 0) (hfz : -9223372036854775808 ≤ d.fuse ∧ d.fuse ≤ 9223372036854775807) (hwr : 0 ≤ d.wr ∧ d.wr ≤ 1000000)
    (l : List UInt8) (ls : List (Nat × List UInt8)) (hb : Rd w bA bn l) (hW : WaitK K w d.WA d.wn ls) (hwn : d.wn ≤ 1000000) (hsn : d.sn ≤ 4096) :
    Calls Try.prog 11 #[d.v, stv 1 a bA bn bc fA fn fc] w fun e w' => ∃ WA' wc', e = .returned (.tuple #[Rf.v { d with fuse := if 0 < d.fuse then d.fuse - 1 else d.fuse, wr := d.wr + 1, WA := WA', wn := d.wn + 1, wc := wc' }, .slice none 0 0, .int .i64 0]) ∧ WaitK (fun x => K x ∨ (w.heap.size ≤ x ∧ x < w'.heap.size)) w' WA' (d.wn + 1) (ls ++ [(i, cut 512 l)]) ∧ Below w.heap.size w w' := by
  obtain ⟨SA, sn, sc, WA, wn, wc, fuse, off, rdd, wrr⟩ := d
  simp only at hi ho hfz hwr hW hwn hsn
  have hL := laid_new w ⟨SA, sn, sc, WA, wn, wc, fuse, off, rdd, wrr⟩ 1 a bA bn bc fA fn fc
  obtain ⟨w1, hw1⟩ : ∃ w1, w1 = ((w.alloc (.cells #[.slice SA sn sc, .slice WA wn wc, .int .i64 fuse, .bool off, .int .i64 rdd, .int .i64 wrr] 30)).alloc (.cells #[.int .i64 1, .int .i64 a, .slice bA bn bc, .slice fA fn fc] 37)).alloc (.cells #[.slice none 0 0, .slice none 0 0, .int .i64 0, .bool false, .int .i64 0, .int .i64 0] 30) := ⟨_, rfl⟩
  have hB1 : Below w.heap.size w w1 := by rw [hw1]; exact (((Below.refl _ _).alloc (Nat.le_refl _) _).alloc (by simp) _).alloc (by simp; omega) _
  rw [← hw1] at hL
  have k0 : w1.cell? ⟨w.heap.size + 1, 0, none⟩ = some (.int .i64 1) := cell_of_row _ _ 0 _ _ _ hL.st
  have k1 : w1.cell? ⟨w.heap.size + 1, 1, none⟩ = some (.int .i64 a) := cell_of_row _ _ 1 _ _ _ hL.st
  have q0 : w1.cell? ⟨w.heap.size, 0, none⟩ = some (.slice SA sn sc) := hL.r0.h0
  have HL := Lib.hid hL
  have HB1 := Lib.hid hB1
  clear hL hB1
  show Calls Try.prog _ #[.agg #[.slice SA sn sc, .slice WA wn wc, .int .i64 fuse, .bool off, .int .i64 rdd, .int .i64 wrr], .agg #[.int .i64 1, .int .i64 a, .slice bA bn bc, .slice fA fn fc]] w _
  obtain ⟨rfl, hf0⟩ := ho
  subst ha
  obtain ⟨f', hf'⟩ : ∃ f' : Int, f' = if 0 < fuse then fuse - 1 else fuse := ⟨_, rfl⟩
  have cB := burn_yes SA sn sc WA wn wc fuse rdd wrr w1 hf0 hfz
  rw [← hf'] at cB ⊢
  have CB := Lib.hid cB
  have hi0 : (0 : Int) ≤ (i : Int) := by omega
  have hi1 : (i : Int) < (sn : Int) := by omega
  have HX0 := Lib.hid hb
  have HW0 := Lib.hid hW
  clear cB hf' hf0 hfz hb hW
  go_enter Try.func11, Try.ntmps11
  go_wp2_with (first
    | (rw [← hw1]; clear hw1)
    | (with_reducible refine wpList_ldR rfl (.tmp 2) rfl rfl HL.out.r0 ?_))
  refine CB.out.mono ?_
  rintro e w2 ⟨rfl, hB2⟩
  have R0 := Lib.hid (HL.out.r0.under hB2)
  have R2 := Lib.hid (HL.out.r2.under hB2)
  have hst2 : w2.heap[w.heap.size + 1]? = _ := (hB2.block (w.heap.size + 1) (Array.getElem?_eq_some_iff.1 HL.out.st).1).trans HL.out.st
  have ST2 := Lib.hid hst2
  have HB2 := Lib.hid (HB1.out.trans (hB2.mono HB1.out.size))
  clear hB2 k0 k1 q0 hst2 CB
  go_wp2_with (first
    | (refine wpList_stR (d' := ⟨SA, sn, sc, WA, wn, wc, f', false, rdd, wrr⟩) rfl (.tmp 2) (.tmp 48) rfl rfl rfl R0.out ?_; intro w3 hR3 hF3; have hR23 : RAt w3 (w.heap.size + 2) zeroR := (hF3.block (w.heap.size + 2) R2.out.lt (fun e => by have e' : w.heap.size + 2 = w.heap.size := e; omega)).trans R2.out; have hst3 : w3.heap[w.heap.size + 1]? = some (.cells #[.int .i64 1, .int .i64 (i : Int), .slice bA bn bc, .slice fA fn fc] 37 (0, 0)) := (hF3.block (w.heap.size + 1) (Array.getElem?_eq_some_iff.1 ST2.out).1 (fun e => by have e' : w.heap.size + 1 = w.heap.size := e; omega)).trans ST2.out; have k0 : w3.cell? ⟨w.heap.size + 1, 0, none⟩ = some (.int .i64 1) := cell_of_row _ _ 0 _ _ _ hst3))
  have hB3 : Below w.heap.size w w3 := HB2.out.trans (hF3.toBelow (fun x hx => by rw [show x = w.heap.size from hx]; exact Nat.le_refl _) HB2.out.size)
  obtain ⟨vs, hln, hA0, hH0⟩ := HW0.out
  have hA3 := hA0.below hB3
  have hone3 := hH0.one
  have hx3 : Rd w3 bA bn l := HX0.out.below (Nat.le_refl _) hB3
  have hg3 : w.heap.size + 2 < w3.heap.size := hR23.lt
  obtain ⟨wa, hwa⟩ : ∃ wa, wa = w3.alloc (.cells #[] 70) := ⟨_, rfl⟩
  have hBa : Below w3.heap.size w3 wa := by rw [hwa]; exact (Below.refl _ _).alloc (Nat.le_refl _) _
  have hoa : wa.ownsRow w3.heap.size 70 2 (.slice (some ⟨w3.heap.size, 0, none⟩) 0 0) 0 [] := by rw [hwa]; exact World.ownsRow_lit w3 #[] 0 (Nat.le_refl _) (Nat.zero_le _) rfl
  have q1 : w3.cell? ⟨w.heap.size, 1, none⟩ = some (.slice WA wn wc) := hR3.h1
  have q1a : (w3.alloc (.cells #[] 70)).cell? ⟨w.heap.size, 1, none⟩ = some (.slice WA wn wc) := by rw [← hwa]; exact (hR3.under hBa).h1
  have q1ad : (w3.alloc (.cells #[] 70)).drew.cell? ⟨w.heap.size, 1, none⟩ = some (.slice WA wn wc) := q1a
  have k1 : w3.cell? ⟨w.heap.size + 1, 1, none⟩ = some (.int .i64 (i : Int)) := cell_of_row _ _ 1 _ _ _ hst3
  have k2 : w3.cell? ⟨w.heap.size + 1, 2, none⟩ = some (.slice bA bn bc) := cell_of_row _ _ 2 _ _ _ hst3
  have k1a : (w3.alloc (.cells #[] 70)).cell? ⟨w.heap.size + 1, 1, none⟩ = some (.int .i64 (i : Int)) := by rw [← hwa]; exact (hBa.cell (p := ⟨w.heap.size + 1, 1, none⟩) (Array.getElem?_eq_some_iff.1 hst3).1).trans k1
  have k2a : (w3.alloc (.cells #[] 70)).cell? ⟨w.heap.size + 1, 2, none⟩ = some (.slice bA bn bc) := by rw [← hwa]; exact (hBa.cell (p := ⟨w.heap.size + 1, 2, none⟩) (Array.getElem?_eq_some_iff.1 hst3).1).trans k2
  have s3 : (w3).cell? ⟨w.heap.size + 1, 1, none⟩ = some (.int .i64 (i : Int)) ∧ (w3).cell? ⟨w.heap.size + 1, 2, none⟩ = some (.slice bA bn bc) := ⟨k1, k2⟩
  have s3d : (w3.drew).cell? ⟨w.heap.size + 1, 1, none⟩ = some (.int .i64 (i : Int)) ∧ (w3.drew).cell? ⟨w.heap.size + 1, 2, none⟩ = some (.slice bA bn bc) := ⟨k1, k2⟩
  have s3a : (w3.alloc (.cells #[] 70)).cell? ⟨w.heap.size + 1, 1, none⟩ = some (.int .i64 (i : Int)) ∧ (w3.alloc (.cells #[] 70)).cell? ⟨w.heap.size + 1, 2, none⟩ = some (.slice bA bn bc) := ⟨k1a, k2a⟩
  have s3ad : ((w3.alloc (.cells #[] 70)).drew).cell? ⟨w.heap.size + 1, 1, none⟩ = some (.int .i64 (i : Int)) ∧ ((w3.alloc (.cells #[] 70)).drew).cell? ⟨w.heap.size + 1, 2, none⟩ = some (.slice bA bn bc) := ⟨k1a, k2a⟩
  clear k1 k2 k1a k2a
  have hoad : (w3.alloc (.cells #[] 70)).drew.ownsRow w3.heap.size 70 2 (.slice (some ⟨w3.heap.size, 0, none⟩) 0 0) 0 [] := by rw [← hwa]; exact hoa
  have hAad : AtRow K (w3.alloc (.cells #[] 70)).drew WA wn 2 vs := by rw [← hwa]; exact (hA3.below hBa).drew
  have hBad : Below w3.heap.size w3 (w3.alloc (.cells #[] 70)).drew := by rw [← hwa]; exact hBa.trans ((Below.refl _ _).drew)
  have hsad : w3.heap.size ≤ (w3.alloc (.cells #[] 70)).drew.heap.size := hBad.size
  have hnil : WA = none → wn = 0 := fun e => by subst e; exact hA3.nil0
  have HB3 := Lib.hid hB3
  have R3 := Lib.hid hR3
  have R23 := Lib.hid hR23
  have ST3 := Lib.hid hst3
  have HX3 := Lib.hid hx3
  have HH0 := Lib.hid hH0
  have HLN := Lib.hid hln
  have HO3 := Lib.hid hone3
  have HOAD := Lib.hid hoad
  have HAAD := Lib.hid hAad
  have HBAD := Lib.hid hBad
  have G3 := Lib.hid hg3
  have HSAD := Lib.hid hsad
  have HNIL := Lib.hid hnil
  clear hB3 hF3 hR3 hR23 hst3 hx3 hA0 hH0 hA3 hone3 k0 R0 R2 ST2 HB2 hwa hBa hoa hln hoad hAad hBad hg3 hsad hnil HW0 HX0
  refine wp_region_held_drew (S := (fun w' => (w').cell? ⟨w.heap.size + 1, 1, none⟩ = some (.int .i64 (i : Int)) ∧ (w').cell? ⟨w.heap.size + 1, 2, none⟩ = some (.slice bA bn bc))) (by kernel_rfl) s3d (fun hHeld => ?_)
  refine wpAnyH_take (i := 1) (oi := { dst := some 58, op := Op.fieldAddr 30 (Operand.tmp 2) 1, type := 0, pos := "ref.go:140", after := #[], guard := none }) (v := ?_) rfl (by kernel_rfl) (by kernel_rfl) (by kernel_rfl) (fun _ _ _ h => h) (Or.inl ⟨by rfl, ?_⟩) (by assumption) ?_
  rotate_left 1
  · intro w' hSw; (try dsimp only at hSw); go_simp; (try with_reducible rfl)
  simp only [Act.put, List.setIfInBounds_toArray, List.set_cons_zero, List.set_cons_succ]
  refine wpAnyH_take (i := 4) (oi := { dst := some 61, op := Op.fieldAddr 37 (Operand.tmp 3) 1, type := 0, pos := "ref.go:140", after := #[], guard := none }) (v := ?_) rfl (by kernel_rfl) (by kernel_rfl) (by kernel_rfl) (fun _ _ _ h => h) (Or.inl ⟨by rfl, ?_⟩) (by assumption) ?_
  rotate_left 1
  · intro w' hSw; (try dsimp only at hSw); go_simp; (try with_reducible rfl)
  simp only [Act.put, List.setIfInBounds_toArray, List.set_cons_zero, List.set_cons_succ]
  refine wpAnyH_take (i := 5) (oi := { dst := some 62, op := Op.load 3 (Operand.tmp 61), type := 3, pos := "ref.go:140", after := #[{ on := 4, ground := Ground.data }], guard := none }) (v := ?_) rfl (by kernel_rfl) (by kernel_rfl) (by kernel_rfl) (fun _ _ _ h => h) (Or.inl ⟨by rfl, ?_⟩) (by assumption) ?_
  rotate_left 1
  · intro w' hSw; (try dsimp only at hSw); go_simp; (try with_reducible rfl)
  simp only [Act.put, List.setIfInBounds_toArray, List.set_cons_zero, List.set_cons_succ]
  refine wpAnyH_take (i := 6) (oi := { dst := some 63, op := Op.fieldAddr 37 (Operand.tmp 3) 2, type := 0, pos := "ref.go:140", after := #[], guard := none }) (v := ?_) rfl (by kernel_rfl) (by kernel_rfl) (by kernel_rfl) (fun _ _ _ h => h) (Or.inl ⟨by rfl, ?_⟩) (by assumption) ?_
  rotate_left 1
  · intro w' hSw; (try dsimp only at hSw); go_simp; (try with_reducible rfl)
  simp only [Act.put, List.setIfInBounds_toArray, List.set_cons_zero, List.set_cons_succ]
  refine wpAnyH_take (i := 7) (oi := { dst := some 64, op := Op.load 32 (Operand.tmp 63), type := 32, pos := "ref.go:140", after := #[{ on := 6, ground := Ground.data }], guard := none }) (v := ?_) rfl (by kernel_rfl) (by kernel_rfl) (by kernel_rfl) (fun _ _ _ h => h) (Or.inl ⟨by rfl, ?_⟩) (by assumption) ?_
  rotate_left 1
  · intro w' hSw; (try dsimp only at hSw); go_simp; (try with_reducible rfl)
  simp only [Act.put, List.setIfInBounds_toArray, List.set_cons_zero, List.set_cons_succ]
  refine wpAnyH_ready (rs := [0, 2]) (by kernel_rfl) (by simp) ?_
  refine AllReadyH.cons (o := { dst := some 57, op := Op.buildSlice 28 0 #[], type := 28, pos := "ref.go:140", after := #[], guard := none }) rfl (fun K' hK => ?_) (AllReadyH.cons (o := { dst := some 59, op := Op.load 28 (Operand.tmp 58), type := 28, pos := "ref.go:140", after := #[{ on := 1, ground := Ground.data }], guard := none }) rfl (fun K' hK => ?_) AllReadyH.nil)
  · go_simp
    refine hK.out _ _ s3ad (fun hHeld => ?_)
    clear hK K'
    try simp only [Act.put, List.setIfInBounds_toArray, List.set_cons_zero, List.set_cons_succ]
    refine wpAnyH_ready (rs := [2]) (by kernel_rfl) (by simp) ?_
    refine AllReadyH.cons (o := { dst := some 59, op := Op.load 28 (Operand.tmp 58), type := 28, pos := "ref.go:140", after := #[{ on := 1, ground := Ground.data }], guard := none }) rfl (fun K' hK => ?_) AllReadyH.nil
    go_simp
    refine hK.out _ _ s3ad (fun hHeld => ?_)
    clear hK K'
    try simp only [Act.put, List.setIfInBounds_toArray, List.set_cons_zero, List.set_cons_succ]
    refine wpAnyH_ready (rs := [3]) (by kernel_rfl) (by simp) ?_
    refine AllReadyH.cons (o := { dst := some 60, op := Op.call { callee := Callee.builtin Builtin.append, args := #[Operand.tmp 57, Operand.tmp 59], argTypes := #[28, 28] }, type := 28, pos := "ref.go:140", after := #[{ on := 0, ground := Ground.data }, { on := 2, ground := Ground.data }], guard := none }) rfl (fun K' hK => ?_) AllReadyH.nil
    refine step_appR (K := K) waitT rfl (.tmp 57) (.tmp 59) rfl w3.heap.size _ 0 [] rfl HOAD.out WA wn wc vs rfl HAAD.out HO3.out (by omega) (by decide) HSAD.out HNIL.out ?_; intro v5 w5 ho5 hg5; rw [List.nil_append, Nat.zero_add] at ho5; have hB5 : Below w3.heap.size w3 w5 := HBAD.out.trans (below_own HOAD.out HSAD.out hg5); have hst5 := (hB5.block (w.heap.size + 1) (Array.getElem?_eq_some_iff.1 ST3.out).1).trans ST3.out; have s5 : (w5).cell? ⟨w.heap.size + 1, 1, none⟩ = some (.int .i64 (i : Int)) ∧ (w5).cell? ⟨w.heap.size + 1, 2, none⟩ = some (.slice bA bn bc) := ⟨cell_of_row _ _ 1 _ _ _ hst5, cell_of_row _ _ 2 _ _ _ hst5⟩; have hx5 := HX3.out.below (Nat.le_refl _) hB5; have HO5 := Lib.hid ho5; have HB5 := Lib.hid hB5; have HX5 := Lib.hid hx5; clear ho5 hB5 hx5 hst5 hg5
    refine hK.out _ _ s5 (fun hHeld => ?_)
    clear hK K'
    try simp only [Act.put, List.setIfInBounds_toArray, List.set_cons_zero, List.set_cons_succ]
    refine wpAnyH_ready (rs := [8]) (by kernel_rfl) (by simp) ?_
    refine AllReadyH.cons (o := { dst := some 65, op := Op.call { callee := Callee.value (Operand.func 32), args := #[Operand.tmp 64, Operand.const (Value.int IntKind.i64 512)], argTypes := #[32, 3] }, type := 32, pos := "ref.go:140", after := #[{ on := 7, ground := Ground.data }, { on := 3, ground := Ground.chain }], guard := none }) rfl (fun K' hK => ?_) AllReadyH.nil
    go_simp
    go_at_call 32; refine (RCut_own bA bn bc l _ HX5.out).mono ?_; rintro e w6 ⟨b6, c6, rfl, ho6, hB6⟩; have HO6 := Lib.hid ho6; have HB6 := Lib.hid hB6; have hst6 := ((HB5.out.trans (hB6.mono HB5.out.size)).block (w.heap.size + 1) (Array.getElem?_eq_some_iff.1 ST3.out).1).trans ST3.out; have s6 : (w6).cell? ⟨w.heap.size + 1, 1, none⟩ = some (.int .i64 (i : Int)) ∧ (w6).cell? ⟨w.heap.size + 1, 2, none⟩ = some (.slice bA bn bc) := ⟨cell_of_row _ _ 1 _ _ _ hst6, cell_of_row _ _ 2 _ _ _ hst6⟩; have hst7 : (w6.alloc (.cells #[.int .i64 (i : Int), .slice (some ⟨b6, 0, none⟩) 512 c6] 70)).heap[w.heap.size + 1]? = _ := (((Below.refl _ _).alloc (Nat.le_refl _) _).block (w.heap.size + 1) (Array.getElem?_eq_some_iff.1 hst6).1).trans hst6; have s7 : (w6.alloc (.cells #[.int .i64 (i : Int), .slice (some ⟨b6, 0, none⟩) 512 c6] 70)).cell? ⟨w.heap.size + 1, 1, none⟩ = some (.int .i64 (i : Int)) ∧ (w6.alloc (.cells #[.int .i64 (i : Int), .slice (some ⟨b6, 0, none⟩) 512 c6] 70)).cell? ⟨w.heap.size + 1, 2, none⟩ = some (.slice bA bn bc) := ⟨cell_of_row _ _ 1 _ _ _ hst7, cell_of_row _ _ 2 _ _ _ hst7⟩; clear ho6 hB6 hst6 hst7
    refine hK.out _ _ s6 (fun hHeld => ?_)
    clear hK K'
    try simp only [Act.put, List.setIfInBounds_toArray, List.set_cons_zero, List.set_cons_succ]
    refine wpAnyH_take (i := 9) (oi := { dst := some 66, op := Op.build 70 #[(0, Operand.tmp 62), (1, Operand.tmp 65)], type := 70, pos := "ref.go:140", after := #[{ on := 5, ground := Ground.data }, { on := 8, ground := Ground.data }], guard := none }) (v := ?_) rfl (by kernel_rfl) (by kernel_rfl) (by kernel_rfl) (fun _ _ _ h => h) (Or.inl ⟨by rfl, ?_⟩) (by assumption) ?_
    rotate_left 1
    · intro w' hSw; (try dsimp only at hSw); go_simp; (try with_reducible rfl)
    simp only [Act.put, List.setIfInBounds_toArray, List.set_cons_zero, List.set_cons_succ]
    refine wpAnyH_ready (rs := [10]) (by kernel_rfl) (by simp) ?_
    refine AllReadyH.cons (o := { dst := some 67, op := Op.buildSlice 28 1 #[(0, Operand.tmp 66)], type := 28, pos := "ref.go:140", after := #[{ on := 9, ground := Ground.data }], guard := none }) rfl (fun K' hK => ?_) AllReadyH.nil
    go_simp
    refine hK.out _ _ s7 (fun hHeld => ?_)
    clear hK K'
    try simp only [Act.put, List.setIfInBounds_toArray, List.set_cons_zero, List.set_cons_succ]
    refine wpAnyH_ready (rs := [11]) (by kernel_rfl) (by simp) ?_
    refine AllReadyH.cons (o := { dst := some 68, op := Op.call { callee := Callee.builtin Builtin.append, args := #[Operand.tmp 60, Operand.tmp 67], argTypes := #[28, 28] }, type := 28, pos := "ref.go:140", after := #[{ on := 3, ground := Ground.data }, { on := 10, ground := Ground.data }, { on := 8, ground := Ground.chain }], guard := none }) rfl (fun K' hK => ?_) AllReadyH.nil
    refine step_appR (K := fun _ => True) waitT rfl (.tmp 60) (.tmp 67) rfl w3.heap.size v5 wn vs rfl (own_keep (own_keep HO5.out HB6.out) ((Below.refl _ _).alloc (Nat.le_refl _) _)) _ 1 1 _ rfl (AtRow.new w6 #[.int .i64 (i : Int), .slice (some ⟨b6, 0, none⟩) 512 c6] 70 1 2 rfl) (by simp [Value.oneCell']) (by omega) (by decide) (by have := HB5.out.size; have := HB6.out.size; simp; omega) (fun e => by cases e) ?_; intro v8 w8 ho8 hg8; obtain ⟨A8, c8, rfl, hc8, hm8, hA8⟩ := own_row ho8; have hB67 : Below w6.heap.size w6 (w6.alloc (.cells #[.int .i64 (i : Int), .slice (some ⟨b6, 0, none⟩) 512 c6] 70)) := (Below.refl _ _).alloc (Nat.le_refl _) _; have hB37 := HB5.out.trans ((HB6.out.trans (hB67.mono HB6.out.size)).mono HB5.out.size); have hB38 := hB37.trans (below_own (own_keep (own_keep HO5.out HB6.out) hB67) hB37.size hg8); have R8 := R3.out.under hB38; have q18 : w8.cell? ⟨w.heap.size, 1, none⟩ = some (.slice WA wn wc) := R8.h1; have f18 := R8.fz 1; have hst8 := (hB38.block (w.heap.size + 1) (Array.getElem?_eq_some_iff.1 ST3.out).1).trans ST3.out; have s8 : (w8).cell? ⟨w.heap.size + 1, 1, none⟩ = some (.int .i64 (i : Int)) ∧ (w8).cell? ⟨w.heap.size + 1, 2, none⟩ = some (.slice bA bn bc) := ⟨cell_of_row _ _ 1 _ _ _ hst8, cell_of_row _ _ 2 _ _ _ hst8⟩; have hst9 : (w8.setCell ⟨w.heap.size, 1, none⟩ (.slice A8 (wn + 1) c8)).heap[w.heap.size + 1]? = _ := (Below.heap_setCell w8 ⟨w.heap.size, 1, none⟩ _ (w.heap.size + 1) (fun e => by have e' : w.heap.size + 1 = w.heap.size := e; omega)).trans hst8; have s9 : (w8.setCell ⟨w.heap.size, 1, none⟩ (.slice A8 (wn + 1) c8)).cell? ⟨w.heap.size + 1, 1, none⟩ = some (.int .i64 (i : Int)) ∧ (w8.setCell ⟨w.heap.size, 1, none⟩ (.slice A8 (wn + 1) c8)).cell? ⟨w.heap.size + 1, 2, none⟩ = some (.slice bA bn bc) := ⟨cell_of_row _ _ 1 _ _ _ hst9, cell_of_row _ _ 2 _ _ _ hst9⟩; have ho68 := own_fr (own_keep HO6.out hB67) (Fr.grown hg8 (own := fun x => v5.ownBlock = some x) (fun x e => e)) (fun x hx e => by have := (HO6.out.lt x hx).1; have := (HO5.out.lt x e).2; omega)
    refine hK.out _ _ s8 (fun hHeld => ?_)
    clear hK K'
    try simp only [Act.put, List.setIfInBounds_toArray, List.set_cons_zero, List.set_cons_succ]
    refine wpAnyH_take (i := 12) (oi := { dst := some 69, op := Op.fieldAddr 30 (Operand.tmp 2) 1, type := 0, pos := "ref.go:140", after := #[{ on := 0, ground := Ground.phase }, { on := 1, ground := Ground.phase }, { on := 2, ground := Ground.phase }, { on := 3, ground := Ground.phase }, { on := 4, ground := Ground.phase }, { on := 5, ground := Ground.phase }, { on := 6, ground := Ground.phase }, { on := 7, ground := Ground.phase }, { on := 8, ground := Ground.phase }, { on := 9, ground := Ground.phase }, { on := 10, ground := Ground.phase }, { on := 11, ground := Ground.phase }], guard := none }) (v := ?_) rfl (by kernel_rfl) (by kernel_rfl) (by kernel_rfl) (fun _ _ _ h => h) (Or.inl ⟨by rfl, ?_⟩) (by assumption) ?_
    rotate_left 1
    · intro w' hSw; (try dsimp only at hSw); go_simp; (try with_reducible rfl)
    simp only [Act.put, List.setIfInBounds_toArray, List.set_cons_zero, List.set_cons_succ]
    refine wpAnyH_ready (rs := [13]) (by kernel_rfl) (by simp) ?_
    refine AllReadyH.cons (o := { dst := none, op := Op.store 28 (Operand.tmp 69) (Operand.tmp 68), type := 0, pos := "ref.go:140", after := #[{ on := 12, ground := Ground.data }, { on := 11, ground := Ground.data }, { on := 11, ground := Ground.chain }, { on := 0, ground := Ground.phase }, { on := 1, ground := Ground.phase }, { on := 2, ground := Ground.phase }, { on := 3, ground := Ground.phase }, { on := 4, ground := Ground.phase }, { on := 5, ground := Ground.phase }, { on := 6, ground := Ground.phase }, { on := 7, ground := Ground.phase }, { on := 8, ground := Ground.phase }, { on := 9, ground := Ground.phase }, { on := 10, ground := Ground.phase }, { on := 11, ground := Ground.phase }], guard := none }) rfl (fun K' hK => ?_) AllReadyH.nil
    go_simp
    refine hK.out _ _ s9 (fun hHeld => ?_)
    clear hK K'
    try simp only [Act.put, List.setIfInBounds_toArray, List.set_cons_zero, List.set_cons_succ]
    refine wpAnyH_done (by kernel_rfl) ?_ _
    obtain ⟨w9, hw9⟩ : ∃ w9, w9 = w8.setCell ⟨w.heap.size, 1, none⟩ (.slice A8 (wn + 1) c8) := ⟨_, rfl⟩
    have hF9 : Fr (· = w.heap.size) w8 w9 := by rw [hw9]; exact Fr.setCell (own := (· = w.heap.size)) w8 (p := ⟨w.heap.size, 1, none⟩) rfl _
    have R9 : RAt w9 w.heap.size ⟨SA, sn, sc, A8, wn + 1, c8, f', false, rdd, wrr⟩ := by rw [hw9]; exact heap_setCell_at R8 _
    have R29 : RAt w9 (w.heap.size + 2) zeroR := (hF9.block (w.heap.size + 2) (R23.out.under hB38).lt (fun e => by have e' : w.heap.size + 2 = w.heap.size := e; omega)).trans (R23.out.under hB38)
    rw [← hw9]
    have q5 : w9.cell? ⟨w.heap.size, 5, none⟩ = some (.int .i64 wrr) := R9.h5
    have z5 := R9.fz 5
    obtain ⟨w10, hw10⟩ : ∃ w10, w10 = w9.setCell ⟨w.heap.size, 5, none⟩ (.int .i64 (wrr + 1)) := ⟨_, rfl⟩
    have hF10 : Fr (· = w.heap.size) w9 w10 := by rw [hw10]; exact Fr.setCell (own := (· = w.heap.size)) w9 (p := ⟨w.heap.size, 5, none⟩) rfl _
    have R10 : RAt w10 w.heap.size ⟨SA, sn, sc, A8, wn + 1, c8, f', false, rdd, wrr + 1⟩ := by rw [hw10]; exact heap_setCell_at R9 _
    have R210 : RAt w10 (w.heap.size + 2) zeroR := (hF10.block (w.heap.size + 2) R29.lt (fun e => by have e' : w.heap.size + 2 = w.heap.size := e; omega)).trans R29
    have F810 := Lib.hid (hF9.trans hF10)
    have RR10 := Lib.hid R10
    have RR210 := Lib.hid R210
    have HO8 := Lib.hid ho8
    have HO68 := Lib.hid ho68
    have HB38 := Lib.hid hB38
    clear hw9 hF9 R9 R29 hF10 R10 R210 ho8 ho68 hB38 hB37 hB67 hg8 hA8 R8 q18 f18
    go_wp2_with (first
      | (rw [← hw10]; clear hw10)
      | (with_reducible refine wpList_ldR rfl (.tmp 2) rfl rfl RR10.out ?_)
      | (with_reducible refine wpList_stR rfl (.tmp 4) (.tmp 74) rfl rfl rfl RR210.out ?_; intro w11 hR11 hF11))
    refine bodyPost_ret (res_R3 rfl rfl hR11) rfl ?_
    have g3 := G3.out
    have hB311 : Below w.heap.size w3 w11 := ((HB38.out.mono (by omega)).trans (F810.out.toBelow (fun x hx => by rw [show x = w.heap.size from hx]; exact Nat.le_refl _) (by have := HB38.out.size; omega))).trans (hF11.toBelow (fun x hx => by rw [show x = w.heap.size + 2 from hx]; omega) (by have := HB38.out.size; have := F810.out.size; omega))
    have hBf : Below w.heap.size w w11 := HB3.out.trans hB311
    have k8 := own_fr (own_fr HO8.out F810.out (fun x hx e => by have := (HO8.out.lt x hx).1; have e' : x = w.heap.size := e; omega)) hF11 (fun x hx e => by have := (HO8.out.lt x hx).1; have e' : x = w.heap.size + 2 := e; omega)
    have hs5 := HB5.out.size
    have k6 := own_fr (own_fr HO68.out F810.out (fun x hx e => by have := (HO68.out.lt x hx).1; have e' : x = w.heap.size := e; omega)) hF11 (fun x hx e => by have := (HO68.out.lt x hx).1; have e' : x = w.heap.size + 2 := e; omega)
    obtain ⟨A9, c9, e9, _, _, hA9⟩ := own_row k8
    cases e9
    obtain ⟨A7, c7, e7, hc7, hm7, hr7⟩ := Rd.of_own k6 rfl
    cases e7
    have hb6 := k6.lt b6 rfl
    refine ⟨A8, ⟨c8, rfl⟩, ⟨_, by rw [List.length_append, HLN.out]; rfl, hA9.mono (fun x hx => .inr ⟨by omega, hx.2⟩), ((HH0.out.below hBf).mono (fun x hx => .inl hx)).snoc i b6 0 _ _ (.inr ⟨by omega, hb6.2⟩) hb6.2 hc7 hm7 hr7⟩, hBf⟩
  · go_simp
    refine hK.out _ _ s3d (fun hHeld => ?_)
    clear hK K'
    try simp only [Act.put, List.setIfInBounds_toArray, List.set_cons_zero, List.set_cons_succ]
    refine wpAnyH_ready (rs := [0]) (by kernel_rfl) (by simp) ?_
    refine AllReadyH.cons (o := { dst := some 57, op := Op.buildSlice 28 0 #[], type := 28, pos := "ref.go:140", after := #[], guard := none }) rfl (fun K' hK => ?_) AllReadyH.nil
    go_simp
    refine hK.out _ _ s3ad (fun hHeld => ?_)
    clear hK K'
    try simp only [Act.put, List.setIfInBounds_toArray, List.set_cons_zero, List.set_cons_succ]
    refine wpAnyH_ready (rs := [3]) (by kernel_rfl) (by simp) ?_
    refine AllReadyH.cons (o := { dst := some 60, op := Op.call { callee := Callee.builtin Builtin.append, args := #[Operand.tmp 57, Operand.tmp 59], argTypes := #[28, 28] }, type := 28, pos := "ref.go:140", after := #[{ on := 0, ground := Ground.data }, { on := 2, ground := Ground.data }], guard := none }) rfl (fun K' hK => ?_) AllReadyH.nil
    refine step_appR (K := K) waitT rfl (.tmp 57) (.tmp 59) rfl w3.heap.size _ 0 [] rfl HOAD.out WA wn wc vs rfl HAAD.out HO3.out (by omega) (by decide) HSAD.out HNIL.out ?_; intro v5 w5 ho5 hg5; rw [List.nil_append, Nat.zero_add] at ho5; have hB5 : Below w3.heap.size w3 w5 := HBAD.out.trans (below_own HOAD.out HSAD.out hg5); have hst5 := (hB5.block (w.heap.size + 1) (Array.getElem?_eq_some_iff.1 ST3.out).1).trans ST3.out; have s5 : (w5).cell? ⟨w.heap.size + 1, 1, none⟩ = some (.int .i64 (i : Int)) ∧ (w5).cell? ⟨w.heap.size + 1, 2, none⟩ = some (.slice bA bn bc) := ⟨cell_of_row _ _ 1 _ _ _ hst5, cell_of_row _ _ 2 _ _ _ hst5⟩; have hx5 := HX3.out.below (Nat.le_refl _) hB5; have HO5 := Lib.hid ho5; have HB5 := Lib.hid hB5; have HX5 := Lib.hid hx5; clear ho5 hB5 hx5 hst5 hg5
    refine hK.out _ _ s5 (fun hHeld => ?_)
    clear hK K'
    try simp only [Act.put, List.setIfInBounds_toArray, List.set_cons_zero, List.set_cons_succ]
    refine wpAnyH_ready (rs := [8]) (by kernel_rfl) (by simp) ?_
    refine AllReadyH.cons (o := { dst := some 65, op := Op.call { callee := Callee.value (Operand.func 32), args := #[Operand.tmp 64, Operand.const (Value.int IntKind.i64 512)], argTypes := #[32, 3] }, type := 32, pos := "ref.go:140", after := #[{ on := 7, ground := Ground.data }, { on := 3, ground := Ground.chain }], guard := none }) rfl (fun K' hK => ?_) AllReadyH.nil
    go_simp
    go_at_call 32; refine (RCut_own bA bn bc l _ HX5.out).mono ?_; rintro e w6 ⟨b6, c6, rfl, ho6, hB6⟩; have HO6 := Lib.hid ho6; have HB6 := Lib.hid hB6; have hst6 := ((HB5.out.trans (hB6.mono HB5.out.size)).block (w.heap.size + 1) (Array.getElem?_eq_some_iff.1 ST3.out).1).trans ST3.out; have s6 : (w6).cell? ⟨w.heap.size + 1, 1, none⟩ = some (.int .i64 (i : Int)) ∧ (w6).cell? ⟨w.heap.size + 1, 2, none⟩ = some (.slice bA bn bc) := ⟨cell_of_row _ _ 1 _ _ _ hst6, cell_of_row _ _ 2 _ _ _ hst6⟩; have hst7 : (w6.alloc (.cells #[.int .i64 (i : Int), .slice (some ⟨b6, 0, none⟩) 512 c6] 70)).heap[w.heap.size + 1]? = _ := (((Below.refl _ _).alloc (Nat.le_refl _) _).block (w.heap.size + 1) (Array.getElem?_eq_some_iff.1 hst6).1).trans hst6; have s7 : (w6.alloc (.cells #[.int .i64 (i : Int), .slice (some ⟨b6, 0, none⟩) 512 c6] 70)).cell? ⟨w.heap.size + 1, 1, none⟩ = some (.int .i64 (i : Int)) ∧ (w6.alloc (.cells #[.int .i64 (i : Int), .slice (some ⟨b6, 0, none⟩) 512 c6] 70)).cell? ⟨w.heap.size + 1, 2, none⟩ = some (.slice bA bn bc) := ⟨cell_of_row _ _ 1 _ _ _ hst7, cell_of_row _ _ 2 _ _ _ hst7⟩; clear ho6 hB6 hst6 hst7
    refine hK.out _ _ s6 (fun hHeld => ?_)
    clear hK K'
    try simp only [Act.put, List.setIfInBounds_toArray, List.set_cons_zero, List.set_cons_succ]
    refine wpAnyH_take (i := 9) (oi := { dst := some 66, op := Op.build 70 #[(0, Operand.tmp 62), (1, Operand.tmp 65)], type := 70, pos := "ref.go:140", after := #[{ on := 5, ground := Ground.data }, { on := 8, ground := Ground.data }], guard := none }) (v := ?_) rfl (by kernel_rfl) (by kernel_rfl) (by kernel_rfl) (fun _ _ _ h => h) (Or.inl ⟨by rfl, ?_⟩) (by assumption) ?_
    rotate_left 1
    · intro w' hSw; (try dsimp only at hSw); go_simp; (try with_reducible rfl)
    simp only [Act.put, List.setIfInBounds_toArray, List.set_cons_zero, List.set_cons_succ]
    refine wpAnyH_ready (rs := [10]) (by kernel_rfl) (by simp) ?_
    refine AllReadyH.cons (o := { dst := some 67, op := Op.buildSlice 28 1 #[(0, Operand.tmp 66)], type := 28, pos := "ref.go:140", after := #[{ on := 9, ground := Ground.data }], guard := none }) rfl (fun K' hK => ?_) AllReadyH.nil
    go_simp
    refine hK.out _ _ s7 (fun hHeld => ?_)
    clear hK K'
    try simp only [Act.put, List.setIfInBounds_toArray, List.set_cons_zero, List.set_cons_succ]
    refine wpAnyH_ready (rs := [11]) (by kernel_rfl) (by simp) ?_
    refine AllReadyH.cons (o := { dst := some 68, op := Op.call { callee := Callee.builtin Builtin.append, args := #[Operand.tmp 60, Operand.tmp 67], argTypes := #[28, 28] }, type := 28, pos := "ref.go:140", after := #[{ on := 3, ground := Ground.data }, { on := 10, ground := Ground.data }, { on := 8, ground := Ground.chain }], guard := none }) rfl (fun K' hK => ?_) AllReadyH.nil
    refine step_appR (K := fun _ => True) waitT rfl (.tmp 60) (.tmp 67) rfl w3.heap.size v5 wn vs rfl (own_keep (own_keep HO5.out HB6.out) ((Below.refl _ _).alloc (Nat.le_refl _) _)) _ 1 1 _ rfl (AtRow.new w6 #[.int .i64 (i : Int), .slice (some ⟨b6, 0, none⟩) 512 c6] 70 1 2 rfl) (by simp [Value.oneCell']) (by omega) (by decide) (by have := HB5.out.size; have := HB6.out.size; simp; omega) (fun e => by cases e) ?_; intro v8 w8 ho8 hg8; obtain ⟨A8, c8, rfl, hc8, hm8, hA8⟩ := own_row ho8; have hB67 : Below w6.heap.size w6 (w6.alloc (.cells #[.int .i64 (i : Int), .slice (some ⟨b6, 0, none⟩) 512 c6] 70)) := (Below.refl _ _).alloc (Nat.le_refl _) _; have hB37 := HB5.out.trans ((HB6.out.trans (hB67.mono HB6.out.size)).mono HB5.out.size); have hB38 := hB37.trans (below_own (own_keep (own_keep HO5.out HB6.out) hB67) hB37.size hg8); have R8 := R3.out.under hB38; have q18 : w8.cell? ⟨w.heap.size, 1, none⟩ = some (.slice WA wn wc) := R8.h1; have f18 := R8.fz 1; have hst8 := (hB38.block (w.heap.size + 1) (Array.getElem?_eq_some_iff.1 ST3.out).1).trans ST3.out; have s8 : (w8).cell? ⟨w.heap.size + 1, 1, none⟩ = some (.int .i64 (i : Int)) ∧ (w8).cell? ⟨w.heap.size + 1, 2, none⟩ = some (.slice bA bn bc) := ⟨cell_of_row _ _ 1 _ _ _ hst8, cell_of_row _ _ 2 _ _ _ hst8⟩; have hst9 : (w8.setCell ⟨w.heap.size, 1, none⟩ (.slice A8 (wn + 1) c8)).heap[w.heap.size + 1]? = _ := (Below.heap_setCell w8 ⟨w.heap.size, 1, none⟩ _ (w.heap.size + 1) (fun e => by have e' : w.heap.size + 1 = w.heap.size := e; omega)).trans hst8; have s9 : (w8.setCell ⟨w.heap.size, 1, none⟩ (.slice A8 (wn + 1) c8)).cell? ⟨w.heap.size + 1, 1, none⟩ = some (.int .i64 (i : Int)) ∧ (w8.setCell ⟨w.heap.size, 1, none⟩ (.slice A8 (wn + 1) c8)).cell? ⟨w.heap.size + 1, 2, none⟩ = some (.slice bA bn bc) := ⟨cell_of_row _ _ 1 _ _ _ hst9, cell_of_row _ _ 2 _ _ _ hst9⟩; have ho68 := own_fr (own_keep HO6.out hB67) (Fr.grown hg8 (own := fun x => v5.ownBlock = some x) (fun x e => e)) (fun x hx e => by have := (HO6.out.lt x hx).1; have := (HO5.out.lt x e).2; omega)
    refine hK.out _ _ s8 (fun hHeld => ?_)
    clear hK K'
    try simp only [Act.put, List.setIfInBounds_toArray, List.set_cons_zero, List.set_cons_succ]
    refine wpAnyH_take (i := 12) (oi := { dst := some 69, op := Op.fieldAddr 30 (Operand.tmp 2) 1, type := 0, pos := "ref.go:140", after := #[{ on := 0, ground := Ground.phase }, { on := 1, ground := Ground.phase }, { on := 2, ground := Ground.phase }, { on := 3, ground := Ground.phase }, { on := 4, ground := Ground.phase }, { on := 5, ground := Ground.phase }, { on := 6, ground := Ground.phase }, { on := 7, ground := Ground.phase }, { on := 8, ground := Ground.phase }, { on := 9, ground := Ground.phase }, { on := 10, ground := Ground.phase }, { on := 11, ground := Ground.phase }], guard := none }) (v := ?_) rfl (by kernel_rfl) (by kernel_rfl) (by kernel_rfl) (fun _ _ _ h => h) (Or.inl ⟨by rfl, ?_⟩) (by assumption) ?_
    rotate_left 1
    · intro w' hSw; (try dsimp only at hSw); go_simp; (try with_reducible rfl)
    simp only [Act.put, List.setIfInBounds_toArray, List.set_cons_zero, List.set_cons_succ]
    refine wpAnyH_ready (rs := [13]) (by kernel_rfl) (by simp) ?_
    refine AllReadyH.cons (o := { dst := none, op := Op.store 28 (Operand.tmp 69) (Operand.tmp 68), type := 0, pos := "ref.go:140", after := #[{ on := 12, ground := Ground.data }, { on := 11, ground := Ground.data }, { on := 11, ground := Ground.chain }, { on := 0, ground := Ground.phase }, { on := 1, ground := Ground.phase }, { on := 2, ground := Ground.phase }, { on := 3, ground := Ground.phase }, { on := 4, ground := Ground.phase }, { on := 5, ground := Ground.phase }, { on := 6, ground := Ground.phase }, { on := 7, ground := Ground.phase }, { on := 8, ground := Ground.phase }, { on := 9, ground := Ground.phase }, { on := 10, ground := Ground.phase }, { on := 11, ground := Ground.phase }], guard := none }) rfl (fun K' hK => ?_) AllReadyH.nil
    go_simp
    refine hK.out _ _ s9 (fun hHeld => ?_)
    clear hK K'
    try simp only [Act.put, List.setIfInBounds_toArray, List.set_cons_zero, List.set_cons_succ]
    refine wpAnyH_done (by kernel_rfl) ?_ _
    obtain ⟨w9, hw9⟩ : ∃ w9, w9 = w8.setCell ⟨w.heap.size, 1, none⟩ (.slice A8 (wn + 1) c8) := ⟨_, rfl⟩
    have hF9 : Fr (· = w.heap.size) w8 w9 := by rw [hw9]; exact Fr.setCell (own := (· = w.heap.size)) w8 (p := ⟨w.heap.size, 1, none⟩) rfl _
    have R9 : RAt w9 w.heap.size ⟨SA, sn, sc, A8, wn + 1, c8, f', false, rdd, wrr⟩ := by rw [hw9]; exact heap_setCell_at R8 _
    have R29 : RAt w9 (w.heap.size + 2) zeroR := (hF9.block (w.heap.size + 2) (R23.out.under hB38).lt (fun e => by have e' : w.heap.size + 2 = w.heap.size := e; omega)).trans (R23.out.under hB38)
    rw [← hw9]
    have q5 : w9.cell? ⟨w.heap.size, 5, none⟩ = some (.int .i64 wrr) := R9.h5
    have z5 := R9.fz 5
    obtain ⟨w10, hw10⟩ : ∃ w10, w10 = w9.setCell ⟨w.heap.size, 5, none⟩ (.int .i64 (wrr + 1)) := ⟨_, rfl⟩
    have hF10 : Fr (· = w.heap.size) w9 w10 := by rw [hw10]; exact Fr.setCell (own := (· = w.heap.size)) w9 (p := ⟨w.heap.size, 5, none⟩) rfl _
    have R10 : RAt w10 w.heap.size ⟨SA, sn, sc, A8, wn + 1, c8, f', false, rdd, wrr + 1⟩ := by rw [hw10]; exact heap_setCell_at R9 _
    have R210 : RAt w10 (w.heap.size + 2) zeroR := (hF10.block (w.heap.size + 2) R29.lt (fun e => by have e' : w.heap.size + 2 = w.heap.size := e; omega)).trans R29
    have F810 := Lib.hid (hF9.trans hF10)
    have RR10 := Lib.hid R10
    have RR210 := Lib.hid R210
    have HO8 := Lib.hid ho8
    have HO68 := Lib.hid ho68
    have HB38 := Lib.hid hB38
    clear hw9 hF9 R9 R29 hF10 R10 R210 ho8 ho68 hB38 hB37 hB67 hg8 hA8 R8 q18 f18
    go_wp2_with (first
      | (rw [← hw10]; clear hw10)
      | (with_reducible refine wpList_ldR rfl (.tmp 2) rfl rfl RR10.out ?_)
      | (with_reducible refine wpList_stR rfl (.tmp 4) (.tmp 74) rfl rfl rfl RR210.out ?_; intro w11 hR11 hF11))
    refine bodyPost_ret (res_R3 rfl rfl hR11) rfl ?_
    have g3 := G3.out
    have hB311 : Below w.heap.size w3 w11 := ((HB38.out.mono (by omega)).trans (F810.out.toBelow (fun x hx => by rw [show x = w.heap.size from hx]; exact Nat.le_refl _) (by have := HB38.out.size; omega))).trans (hF11.toBelow (fun x hx => by rw [show x = w.heap.size + 2 from hx]; omega) (by have := HB38.out.size; have := F810.out.size; omega))
    have hBf : Below w.heap.size w w11 := HB3.out.trans hB311
    have k8 := own_fr (own_fr HO8.out F810.out (fun x hx e => by have := (HO8.out.lt x hx).1; have e' : x = w.heap.size := e; omega)) hF11 (fun x hx e => by have := (HO8.out.lt x hx).1; have e' : x = w.heap.size + 2 := e; omega)
    have hs5 := HB5.out.size
    have k6 := own_fr (own_fr HO68.out F810.out (fun x hx e => by have := (HO68.out.lt x hx).1; have e' : x = w.heap.size := e; omega)) hF11 (fun x hx e => by have := (HO68.out.lt x hx).1; have e' : x = w.heap.size + 2 := e; omega)
    obtain ⟨A9, c9, e9, _, _, hA9⟩ := own_row k8
    cases e9
    obtain ⟨A7, c7, e7, hc7, hm7, hr7⟩ := Rd.of_own k6 rfl
    cases e7
    have hb6 := k6.lt b6 rfl
    refine ⟨A8, ⟨c8, rfl⟩, ⟨_, by rw [List.length_append, HLN.out]; rfl, hA9.mono (fun x hx => .inr ⟨by omega, hx.2⟩), ((HH0.out.below hBf).mono (fun x hx => .inl hx)).snoc i b6 0 _ _ (.inr ⟨by omega, hb6.2⟩) hb6.2 hc7 hm7 hr7⟩, hBf⟩
end
end Go.Proofs.Ytieknelmfjkbhaa
