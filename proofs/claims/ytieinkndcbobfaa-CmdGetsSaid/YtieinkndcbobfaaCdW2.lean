/- The law CmdGets, walked (written by gen_cdw2.py). -/
import Derived.Test.YtieinkndcbobfaaCdU
import Derived.Test.YtieinkndcbobfaaCdD
import Derived.Test.YtieinkndcbobfaaCdG
namespace Go.Proofs.Ytieinkndcbobfaa
open Go.RowKit
set_option linter.unusedVariables false
set_option maxRecDepth 20000

section
variable (A : Option Addr) (n c : Nat) (a : Int) (w : World)
theorem CmdGets_long (hn : 400 < n) (hm : n ≤ 9223372036854775807) :
    Calls Try.prog 4 #[.slice A n c, .int .i64 a] w fun e w' => e = .returned (.bool true) ∧ Below w.heap.size w w' := by
  go_enter Try.func4, Try.ntmps4
  go_wp2_with (go_at_call 6; refine (live_any w).mono ?_; rintro e w1 ⟨rfl, hb1⟩)
  go_ret
  exact ⟨rfl, hb1⟩

set_option maxHeartbeats 4000000 in
theorem CmdGets_no (l : List UInt8) (x : Cd) (nx er : Int) (hg : getAt l a = (x, nx, er)) (hr : Rd w A n l) (hn : n ≤ 400) (hnc : n ≤ c) (hcm : c ≤ 9223372036854775807) (he : er ≠ 0) :
    Calls Try.prog 4 #[.slice A n c, .int .i64 a] w fun e w' => e = .returned (.bool true) ∧ Below w.heap.size w w' := by
  have cG := CGet_any A n c l w a hr (by omega) hnc hcm
  have cR : Hid (∀ W, Below w.heap.size w W → Calls Try.prog 17 #[.slice A n c, .int .i64 a] W (GetE W (x, nx, er))) := Lib.hid (fun W hW => by
    have h := RGetC_any A n c l W a (hr.below (Nat.le_refl _) hW) (by omega) hnc
    rw [hg] at h
    exact h)
  rw [hg] at cG
  unfold GetE at cG cR
  have CG := Lib.hid cG
  have HR := Lib.hid hr
  have hne : (er != 0) = true := bne_iff_ne.2 he
  clear he
  clear cG hr hg
  go_enter Try.func4, Try.ntmps4
  go_upto_region 7 with (first
    | (go_at_call 16; refine CG.out.mono ?_; rintro e w1 ⟨A1, n1, c1, rfl, hr1, hc1, hb1⟩
       obtain ⟨w2, hw2⟩ : ∃ v, v = w1.alloc (.cells (x.cs A1 n1 c1) 26) := ⟨_, rfl⟩
       have hb2 : Below w1.heap.size w1 w2 := by rw [hw2]; exact (Below.refl _ _).alloc (Nat.le_refl _) _
       have X2 := Lib.hid (And.intro (show Rec 26 w2 w1.heap.size (x.cs A1 n1 c1) by rw [hw2]; exact Rec.new w1 _ _) (And.intro (hr1.below (Nat.le_refl _) hb2) (hb1.trans (hb2.mono hb1.size))))
       have C2 := Lib.hid (cR.out w2 X2.out.2.2)
       obtain ⟨g1, hg1⟩ : ∃ g, g = w1.heap.size := ⟨_, rfl⟩
       rw [← hg1] at X2
       have G1 := Lib.hid hg1
       clear hr1 hc1 hb1 hb2 hg1 CG)
    | (rw [← hw2, ← G1.out]; clear hw2)
    | (go_at_call 17; have _t := C2; refine C2.out.mono ?_; rintro e w3 ⟨A3, n3, c3, rfl, hr3, hc3, hb3⟩
       obtain ⟨w4, hw4⟩ : ∃ v, v = w3.alloc (.cells (x.cs A3 n3 c3) 26) := ⟨_, rfl⟩
       have hb4 : Below w3.heap.size w3 w4 := by rw [hw4]; exact (Below.refl _ _).alloc (Nat.le_refl _) _
       have hb24 : Below w2.heap.size w2 w4 := hb3.trans (hb4.mono hb3.size)
       have X4 := Lib.hid (And.intro (X2.out.1.under hb24) (And.intro (X2.out.2.1.below (Nat.le_refl _) hb24) (And.intro (X2.out.2.2.trans (hb24.mono X2.out.2.2.size)) (And.intro (show Rec 26 w4 w3.heap.size (x.cs A3 n3 c3) by rw [hw4]; exact Rec.new w3 _ _) (hr3.below (Nat.le_refl _) hb4)))))
       have C4 := Exact_any x x A1 A3 n1 c1 n3 c3 w4 X4.out.2.1 X4.out.2.2.2.2
       rw [Cd.eqB_self] at C4
       have C5 := Lib.hid C4
       obtain ⟨g3, hg3⟩ : ∃ g, g = w3.heap.size := ⟨_, rfl⟩
       rw [← hg3] at X4
       have G3 := Lib.hid hg3
       clear hr3 hc3 hb3 hb4 hb24 hg3 C2 C4)
    | (rw [← hw4, ← G3.out]; clear hw4)
    | ((with_reducible refine wpList_ldS cdT rfl rfl (.tmp 5) rfl rfl X4.out.1 ?_))
    | ((with_reducible refine wpList_ldS cdT rfl rfl (.tmp 8) rfl rfl X4.out.2.2.2.1 ?_))
    | (go_at_call 10; have _t := C5; refine C5.out.mono ?_; rintro e w5 ⟨rfl, hb5⟩
       have X5 := Lib.hid (And.intro (X4.out.1.under hb5) (And.intro (X4.out.2.1.below (Nat.le_refl _) hb5) (X4.out.2.2.1.trans (hb5.mono X4.out.2.2.1.size))))
       clear hb5 C5)
    | (go_at_call 13; refine (code_any _ _).mono ?_; rintro e w' ⟨rfl, rfl⟩))
  have HB5 := Lib.hid (show Below w.heap.size w w5.drew from X5.out.2.2.drew)
  refine wp_region_noPanic ?_
  refine wp_region_held_drew (S := fun W => True) (by kernel_rfl) trivial (fun hHeld => ?_)
  refine wpAnyH_take (i := 0) (oi := { dst := some 44, op := Op.move (Operand.tmp 10), type := 3, pos := "law.go:44", after := #[], guard := none }) (v := ?_) rfl (by kernel_rfl) (by kernel_rfl) (by kernel_rfl) (fun _ _ _ h => h) (Or.inl ⟨by rfl, ?_⟩) (by assumption) ?_
  rotate_left 1
  · intro w' hSw; (try dsimp only at hSw); go_simp; (try with_reducible rfl)
  simp only [Act.put, List.setIfInBounds_toArray, List.set_cons_zero, List.set_cons_succ]
  refine wpAnyH_take (i := 1) (oi := { dst := some 45, op := Op.binOp BinOp.neq 3 (Operand.tmp 44) (Operand.const (Value.int IntKind.i64 0)) 3, type := 4, pos := "law.go:44", after := #[{ on := 0, ground := Ground.data }], guard := none }) (v := ?_) rfl (by kernel_rfl) (by kernel_rfl) (by kernel_rfl) (fun _ _ _ h => h) (Or.inl ⟨by rfl, ?_⟩) (by assumption) ?_
  rotate_left 1
  · intro w' hSw; (try dsimp only at hSw); go_simp; (try with_reducible rfl)
  simp only [Act.put, List.setIfInBounds_toArray, List.set_cons_zero, List.set_cons_succ]
  refine wpAnyH_take (i := 2) (oi := { dst := some 46, op := Op.move (Operand.tmp 45), type := 4, pos := "law.go:44", after := #[{ on := 1, ground := Ground.data }], guard := none }) (v := ?_) rfl (by kernel_rfl) (by kernel_rfl) (by kernel_rfl) (fun _ _ _ h => h) (Or.inl ⟨by rfl, ?_⟩) (by assumption) ?_
  rotate_left 1
  · intro w' hSw; (try dsimp only at hSw); go_simp; (try with_reducible rfl)
  simp only [Act.put, List.setIfInBounds_toArray, List.set_cons_zero, List.set_cons_succ]
  refine wpAnyH_take (i := 3) (oi := { dst := some 47, op := Op.load 26 (Operand.tmp 5), type := 26, pos := "law.go:44", after := #[{ on := 2, ground := Ground.guard }], guard := some (2, false) }) (v := undef) rfl (by kernel_rfl) (by kernel_rfl) (by kernel_rfl) (fun _ _ _ h => h) (Or.inr ⟨by rfl, rfl⟩) (by assumption) ?_
  simp only [Act.put, List.setIfInBounds_toArray, List.set_cons_zero, List.set_cons_succ]
  refine wpAnyH_take (i := 4) (oi := { dst := some 48, op := Op.call { callee := Callee.value (Operand.func 7), args := #[Operand.const (Value.slice none 0 0), Operand.tmp 47], argTypes := #[22, 26] }, type := 22, pos := "law.go:44", after := #[{ on := 3, ground := Ground.data }, { on := 2, ground := Ground.chain }, { on := 2, ground := Ground.guard }], guard := some (2, false) }) (v := undef) rfl (by kernel_rfl) (by kernel_rfl) (by kernel_rfl) (fun _ _ _ h => h) (Or.inr ⟨by rfl, rfl⟩) (by assumption) ?_
  simp only [Act.put, List.setIfInBounds_toArray, List.set_cons_zero, List.set_cons_succ]
  refine wpAnyH_take (i := 5) (oi := { dst := some 49, op := Op.move (Operand.tmp 0), type := 22, pos := "law.go:44", after := #[{ on := 2, ground := Ground.guard }], guard := some (2, false) }) (v := undef) rfl (by kernel_rfl) (by kernel_rfl) (by kernel_rfl) (fun _ _ _ h => h) (Or.inr ⟨by rfl, rfl⟩) (by assumption) ?_
  simp only [Act.put, List.setIfInBounds_toArray, List.set_cons_zero, List.set_cons_succ]
  refine wpAnyH_take (i := 6) (oi := { dst := some 50, op := Op.move (Operand.tmp 1), type := 3, pos := "law.go:44", after := #[{ on := 2, ground := Ground.guard }], guard := some (2, false) }) (v := undef) rfl (by kernel_rfl) (by kernel_rfl) (by kernel_rfl) (fun _ _ _ h => h) (Or.inr ⟨by rfl, rfl⟩) (by assumption) ?_
  simp only [Act.put, List.setIfInBounds_toArray, List.set_cons_zero, List.set_cons_succ]
  refine wpAnyH_take (i := 7) (oi := { dst := some 51, op := Op.move (Operand.tmp 6), type := 3, pos := "law.go:44", after := #[{ on := 2, ground := Ground.guard }], guard := some (2, false) }) (v := undef) rfl (by kernel_rfl) (by kernel_rfl) (by kernel_rfl) (fun _ _ _ h => h) (Or.inr ⟨by rfl, rfl⟩) (by assumption) ?_
  simp only [Act.put, List.setIfInBounds_toArray, List.set_cons_zero, List.set_cons_succ]
  refine wpAnyH_take (i := 8) (oi := { dst := some 52, op := Op.slice 22 (Operand.tmp 49) (some (Operand.tmp 50)) (some (Operand.tmp 51)) none, type := 22, pos := "law.go:44", after := #[{ on := 5, ground := Ground.data }, { on := 6, ground := Ground.data }, { on := 7, ground := Ground.data }, { on := 2, ground := Ground.guard }], guard := some (2, false) }) (v := undef) rfl (by kernel_rfl) (by kernel_rfl) (by kernel_rfl) (fun _ _ _ h => h) (Or.inr ⟨by rfl, rfl⟩) (by assumption) ?_
  simp only [Act.put, List.setIfInBounds_toArray, List.set_cons_zero, List.set_cons_succ]
  refine wpAnyH_take (i := 9) (oi := { dst := some 53, op := Op.call { callee := Callee.value (Operand.func 8), args := #[Operand.tmp 48, Operand.tmp 52], argTypes := #[22, 22] }, type := 4, pos := "law.go:44", after := #[{ on := 4, ground := Ground.data }, { on := 8, ground := Ground.data }, { on := 4, ground := Ground.chain }, { on := 2, ground := Ground.guard }], guard := some (2, false) }) (v := undef) rfl (by kernel_rfl) (by kernel_rfl) (by kernel_rfl) (fun _ _ _ h => h) (Or.inr ⟨by rfl, rfl⟩) (by assumption) ?_
  simp only [Act.put, List.setIfInBounds_toArray, List.set_cons_zero, List.set_cons_succ]
  refine wpAnyH_take (i := 10) (oi := { dst := some 54, op := Op.pick (Operand.tmp 46) (Operand.const (Value.bool true)) (Operand.tmp 53), type := 4, pos := "law.go:44", after := #[{ on := 2, ground := Ground.data }, { on := 9, ground := Ground.data }], guard := none }) (v := ?_) rfl (by kernel_rfl) (by kernel_rfl) (by kernel_rfl) (fun _ _ _ h => h) (Or.inl ⟨by rfl, ?_⟩) (by assumption) ?_
  rotate_left 1
  · intro w' hSw; (try dsimp only at hSw); go_simp; (try with_reducible rfl)
  simp only [Act.put, List.setIfInBounds_toArray, List.set_cons_zero, List.set_cons_succ]
  refine wpAnyH_take (i := 11) (oi := { dst := some 55, op := Op.move (Operand.tmp 54), type := 4, pos := "law.go:44", after := #[{ on := 10, ground := Ground.data }, { on := 9, ground := Ground.chain }], guard := none }) (v := ?_) rfl (by kernel_rfl) (by kernel_rfl) (by kernel_rfl) (fun _ _ _ h => h) (Or.inl ⟨by rfl, ?_⟩) (by assumption) ?_
  rotate_left 1
  · intro w' hSw; (try dsimp only at hSw); go_simp; (try with_reducible rfl)
  simp only [Act.put, List.setIfInBounds_toArray, List.set_cons_zero, List.set_cons_succ]
  refine wpAnyH_ready (rs := [12]) (by kernel_rfl) (by simp) ?_
  refine AllReadyH.cons (o := { dst := some 56, op := Op.call { callee := Callee.value (Operand.func 6), args := #[], argTypes := #[] }, type := 4, pos := "law.go:44", after := #[{ on := 11, ground := Ground.chain }, { on := 11, ground := Ground.guard }], guard := some (11, true) }) rfl (fun K' hK => ?_) AllReadyH.nil
  go_simp
  go_at_call 6; refine (live_any w5.drew).mono ?_; rintro e w9 ⟨rfl, hb9⟩
  refine hK.out _ _ trivial (fun hHeld => ?_)
  clear hK K'
  try simp only [Act.put, List.setIfInBounds_toArray, List.set_cons_zero, List.set_cons_succ]
  refine wpAnyH_take (i := 13) (oi := { dst := some 57, op := Op.pick (Operand.tmp 55) (Operand.tmp 56) (Operand.const (Value.bool false)), type := 4, pos := "law.go:44", after := #[{ on := 11, ground := Ground.data }, { on := 12, ground := Ground.data }], guard := none }) (v := ?_) rfl (by kernel_rfl) (by kernel_rfl) (by kernel_rfl) (fun _ _ _ h => h) (Or.inl ⟨by rfl, ?_⟩) (by assumption) ?_
  rotate_left 1
  · intro w' hSw; (try dsimp only at hSw); go_simp; (try with_reducible rfl)
  simp only [Act.put, List.setIfInBounds_toArray, List.set_cons_zero, List.set_cons_succ]
  refine wpAnyH_take (i := 14) (oi := { dst := some 4, op := Op.assign (Operand.tmp 57), type := 4, pos := "law.go:44", after := #[{ on := 13, ground := Ground.data }, { on := 12, ground := Ground.chain }, { on := 0, ground := Ground.phase }, { on := 1, ground := Ground.phase }, { on := 2, ground := Ground.phase }, { on := 3, ground := Ground.phase }, { on := 4, ground := Ground.phase }, { on := 5, ground := Ground.phase }, { on := 6, ground := Ground.phase }, { on := 7, ground := Ground.phase }, { on := 8, ground := Ground.phase }, { on := 9, ground := Ground.phase }, { on := 10, ground := Ground.phase }, { on := 11, ground := Ground.phase }, { on := 12, ground := Ground.phase }, { on := 13, ground := Ground.phase }], guard := none }) (v := ?_) rfl (by kernel_rfl) (by kernel_rfl) (by kernel_rfl) (fun _ _ _ h => h) (Or.inl ⟨by rfl, ?_⟩) (by assumption) ?_
  rotate_left 1
  · intro w' hSw; (try dsimp only at hSw); go_simp; (try with_reducible rfl)
  simp only [Act.put, List.setIfInBounds_toArray, List.set_cons_zero, List.set_cons_succ]
  refine wpAnyH_done (by kernel_rfl) ?_ _
  refine NoPanic.normal ?_
  clear hHeld
  go_wp2
  go_ret
  exact ⟨rfl, HB5.out.trans (hb9.mono HB5.out.size)⟩

set_option maxHeartbeats 4000000 in
theorem CmdGets_yes (l : List UInt8) (x : Cd) (nx er : Int) (hg : getAt l a = (x, nx, er)) (hr : Rd w A n l) (hn : n ≤ 400) (hnc : n ≤ c) (hcm : c ≤ 9223372036854775807) (k V : Nat) (hk : a = (k : Int)) (hnx : nx = (V : Int)) (he : er = 0) (hv1 : k ≤ V) (hv3 : V ≤ n) (hx : x.bytes = (l.drop k).take (V - k)) (hxl : x.dt.length ≤ 64) (hcap : ¬ c = k) :
    Calls Try.prog 4 #[.slice A n c, .int .i64 a] w fun e w' => e = .returned (.bool true) ∧ Below w.heap.size w w' := by
  have cG := CGet_any A n c l w a hr (by omega) hnc hcm
  have cR : Hid (∀ W, Below w.heap.size w W → Calls Try.prog 17 #[.slice A n c, .int .i64 a] W (GetE W (x, nx, er))) := Lib.hid (fun W hW => by
    have h := RGetC_any A n c l W a (hr.below (Nat.le_refl _) hW) (by omega) hnc
    rw [hg] at h
    exact h)
  rw [hg] at cG
  unfold GetE at cG cR
  have CG := Lib.hid cG
  have HR := Lib.hid hr
  subst hk hnx he
  have hv2 : V ≤ c := by omega
  have HX := Lib.hid hx
  have HXL := Lib.hid hxl
  clear hx hxl
  clear cG hr hg
  go_enter Try.func4, Try.ntmps4
  go_upto_region 7 with (first
    | (go_at_call 16; refine CG.out.mono ?_; rintro e w1 ⟨A1, n1, c1, rfl, hr1, hc1, hb1⟩
       obtain ⟨w2, hw2⟩ : ∃ v, v = w1.alloc (.cells (x.cs A1 n1 c1) 26) := ⟨_, rfl⟩
       have hb2 : Below w1.heap.size w1 w2 := by rw [hw2]; exact (Below.refl _ _).alloc (Nat.le_refl _) _
       have X2 := Lib.hid (And.intro (show Rec 26 w2 w1.heap.size (x.cs A1 n1 c1) by rw [hw2]; exact Rec.new w1 _ _) (And.intro (hr1.below (Nat.le_refl _) hb2) (hb1.trans (hb2.mono hb1.size))))
       have C2 := Lib.hid (cR.out w2 X2.out.2.2)
       obtain ⟨g1, hg1⟩ : ∃ g, g = w1.heap.size := ⟨_, rfl⟩
       rw [← hg1] at X2
       have G1 := Lib.hid hg1
       clear hr1 hc1 hb1 hb2 hg1 CG)
    | (rw [← hw2, ← G1.out]; clear hw2)
    | (go_at_call 17; have _t := C2; refine C2.out.mono ?_; rintro e w3 ⟨A3, n3, c3, rfl, hr3, hc3, hb3⟩
       obtain ⟨w4, hw4⟩ : ∃ v, v = w3.alloc (.cells (x.cs A3 n3 c3) 26) := ⟨_, rfl⟩
       have hb4 : Below w3.heap.size w3 w4 := by rw [hw4]; exact (Below.refl _ _).alloc (Nat.le_refl _) _
       have hb24 : Below w2.heap.size w2 w4 := hb3.trans (hb4.mono hb3.size)
       have X4 := Lib.hid (And.intro (X2.out.1.under hb24) (And.intro (X2.out.2.1.below (Nat.le_refl _) hb24) (And.intro (X2.out.2.2.trans (hb24.mono X2.out.2.2.size)) (And.intro (show Rec 26 w4 w3.heap.size (x.cs A3 n3 c3) by rw [hw4]; exact Rec.new w3 _ _) (hr3.below (Nat.le_refl _) hb4)))))
       have C4 := Exact_any x x A1 A3 n1 c1 n3 c3 w4 X4.out.2.1 X4.out.2.2.2.2
       rw [Cd.eqB_self] at C4
       have C5 := Lib.hid C4
       obtain ⟨g3, hg3⟩ : ∃ g, g = w3.heap.size := ⟨_, rfl⟩
       rw [← hg3] at X4
       have G3 := Lib.hid hg3
       clear hr3 hc3 hb3 hb4 hb24 hg3 C2 C4)
    | (rw [← hw4, ← G3.out]; clear hw4)
    | ((with_reducible refine wpList_ldS cdT rfl rfl (.tmp 5) rfl rfl X4.out.1 ?_))
    | ((with_reducible refine wpList_ldS cdT rfl rfl (.tmp 8) rfl rfl X4.out.2.2.2.1 ?_))
    | (go_at_call 10; have _t := C5; refine C5.out.mono ?_; rintro e w5 ⟨rfl, hb5⟩
       have X5 := Lib.hid (And.intro (X4.out.1.under hb5) (And.intro (X4.out.2.1.below (Nat.le_refl _) hb5) (X4.out.2.2.1.trans (hb5.mono X4.out.2.2.1.size))))
       clear hb5 C5)
    | (go_at_call 13; refine (code_any _ _).mono ?_; rintro e w' ⟨rfl, rfl⟩))
  have H5 := Lib.hid (show Rec 26 w5.drew g1 (x.cs A1 n1 c1) ∧ Rd w5.drew A1 n1 x.dt ∧ Below w.heap.size w w5.drew from ⟨X5.out.1, X5.out.2.1, X5.out.2.2.drew⟩)
  have CP := CPut_any none 0 0 [] x A1 n1 c1 w5.drew (Rd.nil _ _) (by decide) H5.out.2.1 (by have := H5.out.2.1.1; have := HXL.out; omega)
  rw [List.nil_append, HX.out] at CP
  have CP2 := Lib.hid CP
  have s5 : w5.drew.cell? ⟨g1, 0, none⟩ = some (.int .i64 x.d) ∧ w5.drew.cell? ⟨g1, 1, none⟩ = some (.bool x.lc) ∧ w5.drew.cell? ⟨g1, 2, none⟩ = some (.int .i64 x.ix) ∧ w5.drew.cell? ⟨g1, 3, none⟩ = some (.int .i64 x.gn) ∧ w5.drew.cell? ⟨g1, 4, none⟩ = some (.int .i64 x.cp) ∧ w5.drew.cell? ⟨g1, 5, none⟩ = some (.slice A1 n1 c1) := ⟨H5.out.1.at_ 0, H5.out.1.at_ 1, H5.out.1.at_ 2, H5.out.1.at_ 3, H5.out.1.at_ 4, H5.out.1.at_ 5⟩
  clear CP
  refine wp_region_noPanic ?_
  refine wp_region_held_drew (S := fun W => W.cell? ⟨g1, 0, none⟩ = some (.int .i64 x.d) ∧ W.cell? ⟨g1, 1, none⟩ = some (.bool x.lc) ∧ W.cell? ⟨g1, 2, none⟩ = some (.int .i64 x.ix) ∧ W.cell? ⟨g1, 3, none⟩ = some (.int .i64 x.gn) ∧ W.cell? ⟨g1, 4, none⟩ = some (.int .i64 x.cp) ∧ W.cell? ⟨g1, 5, none⟩ = some (.slice A1 n1 c1)) (by kernel_rfl) s5 (fun hHeld => ?_)
  refine wpAnyH_take (i := 0) (oi := { dst := some 44, op := Op.move (Operand.tmp 10), type := 3, pos := "law.go:44", after := #[], guard := none }) (v := ?_) rfl (by kernel_rfl) (by kernel_rfl) (by kernel_rfl) (fun _ _ _ h => h) (Or.inl ⟨by rfl, ?_⟩) (by assumption) ?_
  rotate_left 1
  · intro w' hSw; (try dsimp only at hSw); go_simp; (try with_reducible rfl)
  simp only [Act.put, List.setIfInBounds_toArray, List.set_cons_zero, List.set_cons_succ]
  refine wpAnyH_take (i := 1) (oi := { dst := some 45, op := Op.binOp BinOp.neq 3 (Operand.tmp 44) (Operand.const (Value.int IntKind.i64 0)) 3, type := 4, pos := "law.go:44", after := #[{ on := 0, ground := Ground.data }], guard := none }) (v := ?_) rfl (by kernel_rfl) (by kernel_rfl) (by kernel_rfl) (fun _ _ _ h => h) (Or.inl ⟨by rfl, ?_⟩) (by assumption) ?_
  rotate_left 1
  · intro w' hSw; (try dsimp only at hSw); go_simp; (try with_reducible rfl)
  simp only [Act.put, List.setIfInBounds_toArray, List.set_cons_zero, List.set_cons_succ]
  refine wpAnyH_take (i := 2) (oi := { dst := some 46, op := Op.move (Operand.tmp 45), type := 4, pos := "law.go:44", after := #[{ on := 1, ground := Ground.data }], guard := none }) (v := ?_) rfl (by kernel_rfl) (by kernel_rfl) (by kernel_rfl) (fun _ _ _ h => h) (Or.inl ⟨by rfl, ?_⟩) (by assumption) ?_
  rotate_left 1
  · intro w' hSw; (try dsimp only at hSw); go_simp; (try with_reducible rfl)
  simp only [Act.put, List.setIfInBounds_toArray, List.set_cons_zero, List.set_cons_succ]
  refine wpAnyH_take (i := 3) (oi := { dst := some 47, op := Op.load 26 (Operand.tmp 5), type := 26, pos := "law.go:44", after := #[{ on := 2, ground := Ground.guard }], guard := some (2, false) }) (v := ?_) rfl (by kernel_rfl) (by kernel_rfl) (by kernel_rfl) (fun _ _ _ h => h) (Or.inl ⟨by rfl, ?_⟩) (by assumption) ?_
  rotate_left 1
  · intro w' hSw; (try dsimp only at hSw); go_simp; (try with_reducible rfl)
  simp only [Act.put, List.setIfInBounds_toArray, List.set_cons_zero, List.set_cons_succ]
  refine wpAnyH_take (i := 5) (oi := { dst := some 49, op := Op.move (Operand.tmp 0), type := 22, pos := "law.go:44", after := #[{ on := 2, ground := Ground.guard }], guard := some (2, false) }) (v := ?_) rfl (by kernel_rfl) (by kernel_rfl) (by kernel_rfl) (fun _ _ _ h => h) (Or.inl ⟨by rfl, ?_⟩) (by assumption) ?_
  rotate_left 1
  · intro w' hSw; (try dsimp only at hSw); go_simp; (try with_reducible rfl)
  simp only [Act.put, List.setIfInBounds_toArray, List.set_cons_zero, List.set_cons_succ]
  refine wpAnyH_take (i := 6) (oi := { dst := some 50, op := Op.move (Operand.tmp 1), type := 3, pos := "law.go:44", after := #[{ on := 2, ground := Ground.guard }], guard := some (2, false) }) (v := ?_) rfl (by kernel_rfl) (by kernel_rfl) (by kernel_rfl) (fun _ _ _ h => h) (Or.inl ⟨by rfl, ?_⟩) (by assumption) ?_
  rotate_left 1
  · intro w' hSw; (try dsimp only at hSw); go_simp; (try with_reducible rfl)
  simp only [Act.put, List.setIfInBounds_toArray, List.set_cons_zero, List.set_cons_succ]
  refine wpAnyH_take (i := 7) (oi := { dst := some 51, op := Op.move (Operand.tmp 6), type := 3, pos := "law.go:44", after := #[{ on := 2, ground := Ground.guard }], guard := some (2, false) }) (v := ?_) rfl (by kernel_rfl) (by kernel_rfl) (by kernel_rfl) (fun _ _ _ h => h) (Or.inl ⟨by rfl, ?_⟩) (by assumption) ?_
  rotate_left 1
  · intro w' hSw; (try dsimp only at hSw); go_simp; (try with_reducible rfl)
  simp only [Act.put, List.setIfInBounds_toArray, List.set_cons_zero, List.set_cons_succ]
  refine wpAnyH_take (i := 8) (oi := { dst := some 52, op := Op.slice 22 (Operand.tmp 49) (some (Operand.tmp 50)) (some (Operand.tmp 51)) none, type := 22, pos := "law.go:44", after := #[{ on := 5, ground := Ground.data }, { on := 6, ground := Ground.data }, { on := 7, ground := Ground.data }, { on := 2, ground := Ground.guard }], guard := some (2, false) }) (v := ?_) rfl (by kernel_rfl) (by kernel_rfl) (by kernel_rfl) (fun _ _ _ h => h) (Or.inl ⟨by rfl, ?_⟩) (by assumption) ?_
  rotate_left 1
  · intro w' hSw; (try dsimp only at hSw); go_simp; (try with_reducible rfl)
  simp only [Act.put, List.setIfInBounds_toArray, List.set_cons_zero, List.set_cons_succ]
  refine wpAnyH_ready (rs := [4]) (by kernel_rfl) (by simp) ?_
  refine AllReadyH.cons (o := { dst := some 48, op := Op.call { callee := Callee.value (Operand.func 7), args := #[Operand.const (Value.slice none 0 0), Operand.tmp 47], argTypes := #[22, 26] }, type := 22, pos := "law.go:44", after := #[{ on := 3, ground := Ground.data }, { on := 2, ground := Ground.chain }, { on := 2, ground := Ground.guard }], guard := some (2, false) }) rfl (fun K' hK => ?_) AllReadyH.nil
  go_simp
  go_at_call 7; refine CP2.out.mono ?_; rintro e w6 ⟨A6, n6, c6, rfl, hr6, hc6, hb6⟩
  have H6 := Lib.hid (And.intro (H5.out.1.under hb6) (And.intro hr6 (H5.out.2.2.trans (hb6.mono H5.out.2.2.size))))
  have s6 : w6.cell? ⟨g1, 0, none⟩ = some (.int .i64 x.d) ∧ w6.cell? ⟨g1, 1, none⟩ = some (.bool x.lc) ∧ w6.cell? ⟨g1, 2, none⟩ = some (.int .i64 x.ix) ∧ w6.cell? ⟨g1, 3, none⟩ = some (.int .i64 x.gn) ∧ w6.cell? ⟨g1, 4, none⟩ = some (.int .i64 x.cp) ∧ w6.cell? ⟨g1, 5, none⟩ = some (.slice A1 n1 c1) := ⟨H6.out.1.at_ 0, H6.out.1.at_ 1, H6.out.1.at_ 2, H6.out.1.at_ 3, H6.out.1.at_ 4, H6.out.1.at_ 5⟩
  clear hr6 hc6 hb6
  refine hK.out _ _ s6 (fun hHeld => ?_)
  clear hK K'
  try simp only [Act.put, List.setIfInBounds_toArray, List.set_cons_zero, List.set_cons_succ]
  refine wpAnyH_ready (rs := [9]) (by kernel_rfl) (by simp) ?_
  refine AllReadyH.cons (o := { dst := some 53, op := Op.call { callee := Callee.value (Operand.func 8), args := #[Operand.tmp 48, Operand.tmp 52], argTypes := #[22, 22] }, type := 4, pos := "law.go:44", after := #[{ on := 4, ground := Ground.data }, { on := 8, ground := Ground.data }, { on := 4, ground := Ground.chain }, { on := 2, ground := Ground.guard }], guard := some (2, false) }) rfl (fun K' hK => ?_) AllReadyH.nil
  go_simp
  go_at_call 8; refine (Same_yes A6 _ n6 c6 (V - k) _ ((l.drop k).take (V - k)) w6 H6.out.2.1 ((HR.out.below (Nat.le_refl _) H6.out.2.2).part (lo := k) (m := V - k) (by omega) _ (fun _ b o e => by subst e; simp [Addr.add_lit]))).mono ?_; rintro e w' ⟨rfl, hw'⟩; subst hw'
  refine hK.out _ _ s6 (fun hHeld => ?_)
  clear hK K'
  try simp only [Act.put, List.setIfInBounds_toArray, List.set_cons_zero, List.set_cons_succ]
  refine wpAnyH_take (i := 10) (oi := { dst := some 54, op := Op.pick (Operand.tmp 46) (Operand.const (Value.bool true)) (Operand.tmp 53), type := 4, pos := "law.go:44", after := #[{ on := 2, ground := Ground.data }, { on := 9, ground := Ground.data }], guard := none }) (v := ?_) rfl (by kernel_rfl) (by kernel_rfl) (by kernel_rfl) (fun _ _ _ h => h) (Or.inl ⟨by rfl, ?_⟩) (by assumption) ?_
  rotate_left 1
  · intro w' hSw; (try dsimp only at hSw); go_simp; (try with_reducible rfl)
  simp only [Act.put, List.setIfInBounds_toArray, List.set_cons_zero, List.set_cons_succ]
  refine wpAnyH_take (i := 11) (oi := { dst := some 55, op := Op.move (Operand.tmp 54), type := 4, pos := "law.go:44", after := #[{ on := 10, ground := Ground.data }, { on := 9, ground := Ground.chain }], guard := none }) (v := ?_) rfl (by kernel_rfl) (by kernel_rfl) (by kernel_rfl) (fun _ _ _ h => h) (Or.inl ⟨by rfl, ?_⟩) (by assumption) ?_
  rotate_left 1
  · intro w' hSw; (try dsimp only at hSw); go_simp; (try with_reducible rfl)
  simp only [Act.put, List.setIfInBounds_toArray, List.set_cons_zero, List.set_cons_succ]
  refine wpAnyH_ready (rs := [12]) (by kernel_rfl) (by simp) ?_
  refine AllReadyH.cons (o := { dst := some 56, op := Op.call { callee := Callee.value (Operand.func 6), args := #[], argTypes := #[] }, type := 4, pos := "law.go:44", after := #[{ on := 11, ground := Ground.chain }, { on := 11, ground := Ground.guard }], guard := some (11, true) }) rfl (fun K' hK => ?_) AllReadyH.nil
  go_simp
  go_at_call 6; refine (live_any w6).mono ?_; rintro e w9 ⟨rfl, hb9⟩
  have H9 := H6.out.1.under hb9
  have s9 : w9.cell? ⟨g1, 0, none⟩ = some (.int .i64 x.d) ∧ w9.cell? ⟨g1, 1, none⟩ = some (.bool x.lc) ∧ w9.cell? ⟨g1, 2, none⟩ = some (.int .i64 x.ix) ∧ w9.cell? ⟨g1, 3, none⟩ = some (.int .i64 x.gn) ∧ w9.cell? ⟨g1, 4, none⟩ = some (.int .i64 x.cp) ∧ w9.cell? ⟨g1, 5, none⟩ = some (.slice A1 n1 c1) := ⟨H9.at_ 0, H9.at_ 1, H9.at_ 2, H9.at_ 3, H9.at_ 4, H9.at_ 5⟩
  refine hK.out _ _ s9 (fun hHeld => ?_)
  clear hK K'
  try simp only [Act.put, List.setIfInBounds_toArray, List.set_cons_zero, List.set_cons_succ]
  refine wpAnyH_take (i := 13) (oi := { dst := some 57, op := Op.pick (Operand.tmp 55) (Operand.tmp 56) (Operand.const (Value.bool false)), type := 4, pos := "law.go:44", after := #[{ on := 11, ground := Ground.data }, { on := 12, ground := Ground.data }], guard := none }) (v := ?_) rfl (by kernel_rfl) (by kernel_rfl) (by kernel_rfl) (fun _ _ _ h => h) (Or.inl ⟨by rfl, ?_⟩) (by assumption) ?_
  rotate_left 1
  · intro w' hSw; (try dsimp only at hSw); go_simp; (try with_reducible rfl)
  simp only [Act.put, List.setIfInBounds_toArray, List.set_cons_zero, List.set_cons_succ]
  refine wpAnyH_take (i := 14) (oi := { dst := some 4, op := Op.assign (Operand.tmp 57), type := 4, pos := "law.go:44", after := #[{ on := 13, ground := Ground.data }, { on := 12, ground := Ground.chain }, { on := 0, ground := Ground.phase }, { on := 1, ground := Ground.phase }, { on := 2, ground := Ground.phase }, { on := 3, ground := Ground.phase }, { on := 4, ground := Ground.phase }, { on := 5, ground := Ground.phase }, { on := 6, ground := Ground.phase }, { on := 7, ground := Ground.phase }, { on := 8, ground := Ground.phase }, { on := 9, ground := Ground.phase }, { on := 10, ground := Ground.phase }, { on := 11, ground := Ground.phase }, { on := 12, ground := Ground.phase }, { on := 13, ground := Ground.phase }], guard := none }) (v := ?_) rfl (by kernel_rfl) (by kernel_rfl) (by kernel_rfl) (fun _ _ _ h => h) (Or.inl ⟨by rfl, ?_⟩) (by assumption) ?_
  rotate_left 1
  · intro w' hSw; (try dsimp only at hSw); go_simp; (try with_reducible rfl)
  simp only [Act.put, List.setIfInBounds_toArray, List.set_cons_zero, List.set_cons_succ]
  refine wpAnyH_done (by kernel_rfl) ?_ _
  refine NoPanic.normal ?_
  clear hHeld s5 s6 s9 H9
  go_wp2
  go_ret
  exact ⟨rfl, H6.out.2.2.trans (hb9.mono H6.out.2.2.size)⟩

theorem CmdGets_any (l : List UInt8) (hr : Rd w A n l) (hn : n ≤ 400) (hnc : n ≤ c) (hcm : c ≤ 9223372036854775807) :
    Calls Try.prog 4 #[.slice A n c, .int .i64 a] w fun e w' => e = .returned (.bool true) ∧ Below w.heap.size w w' := by
  obtain ⟨⟨x, nx, er⟩, hg⟩ : ∃ q, q = getAt l a := ⟨_, rfl⟩
  by_cases he : er = 0
  · have hb : ¬ (a < 0 ∨ (l.length : Int) < a) := fun h => by
      unfold getAt at hg
      rw [if_pos h] at hg
      injection hg with _ hg
      injection hg with _ hg
      omega
    obtain ⟨k, rfl⟩ : ∃ k : Nat, a = (k : Int) := ⟨a.toNat, by omega⟩
    have hg0 := hg
    unfold getAt at hg
    rw [if_neg hb, Int.toNat_natCast] at hg
    injection hg with h1 hg
    injection hg with h2 h3
    have h30 : (getCd (l.drop k)).2.2 = 0 := by omega
    rw [if_pos h30] at h2
    obtain ⟨b1, b2, b3⟩ := getCd_back (l.drop k) h30
    rw [← h1] at b1 b3
    obtain ⟨u, hu⟩ : ∃ u, u = (getCd (l.drop k)).2.1 := ⟨_, rfl⟩
    rw [← hu] at b1 b2 h2
    have hl := hr.1
    have hkl : k ≤ l.length := by omega
    have hLk : (l.drop k).length = l.length - k := by simp
    have hx : x.bytes = (l.drop k).take u := by
      have e := List.take_append_drop u (l.drop k)
      rw [← e] at b1
      have e3 : ((l.drop k).take u ++ (l.drop k).drop u).drop u = (l.drop k).drop u := by rw [e]
      rw [e3] at b1
      exact List.append_cancel_right b1
    have hu0 : 0 < u := by
      rcases Nat.eq_zero_or_pos u with h | h
      · subst h
        rw [List.take_zero] at hx
        have := congrArg List.length hx
        exfalso
        unfold Cd.bytes at this
        repeat' split at this
        all_goals simp at this
      · exact h
    exact CmdGets_yes A n c k w l x nx er hg0.symm hr hn hnc hcm k (k + u) rfl (by omega) he (by omega) (by omega) (by rw [Nat.add_sub_cancel_left]; exact hx) b3 (by omega)
  · exact CmdGets_no A n c a w l x nx er hg.symm hr hn hnc hcm he
end
end Go.Proofs.Ytieinkndcbobfaa
