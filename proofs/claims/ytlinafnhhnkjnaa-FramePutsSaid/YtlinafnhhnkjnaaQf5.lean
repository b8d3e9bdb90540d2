/- CdF -/
import Derived.Test.YtlinafnhhnkjnaaQf4
import Derived.Deep.RegionHeld3
import Derived.Deep.DeepCutAuto
namespace Go.Proofs.Ytlinafnhhnkjnaa
open Go.RowKit
set_option linter.unusedVariables false
set_option maxRecDepth 20000

/-- A slice that reads as l, in memory that was made. -/
def GotS (w : World) (l : List UInt8) (e : Ending) (w' : World) : Prop := ∃ A n c, e = .returned (.slice A n c) ∧ Rd w' A n l ∧ n ≤ c ∧ Below w.heap.size w w'
theorem GotS.own {w w' : World} {v : Value} {n : Nat} {l : List UInt8} (ho : w'.ownsRow w.heap.size 5 1 v n (cells l)) (hb : Below w.heap.size w w') : GotS w l (.returned v) w' := by
  obtain ⟨A, c, rfl, h1, _, h2⟩ := Rd.of_own ho rfl
  exact ⟨A, n, c, rfl, h2, h1, hb⟩
theorem LPut_any (A : Option Addr) (n c : Nat) (l : List UInt8) (width : Nat) (h1 : 1 ≤ width) (h8 : width ≤ 8) (x : Int) (w : World) (hr : Rd w A n l) (hn : n ≤ 1073741824) :
    Calls Try.prog 21 #[.slice A n c, .int .i64 width, .int .i64 x] w (GotS w (l ++ numB width x)) := by
  have hw : wd (width : Int) = width := by have := wd_cast (width : Int); omega
  have h := Put_any A n c l width x w hr hn
  rw [hw] at h
  exact h.mono fun e w' ⟨v, he, ho, hb⟩ => by rw [he]; exact GotS.own ho hb

set_option maxHeartbeats 2000000 in
theorem putTarget_true (d : Int) (ix gn cp : Int) (dt : List UInt8) (A : Option Addr) (n c : Nat) (D : Option Addr) (m e0 : Nat) (l : List UInt8) (w : World) (h : Rd w A n dt) (hD : Rd w D m l) (hm : m ≤ 1000000) :
    Calls Try.prog 53 #[.slice D m e0, .agg (Cd.cs ⟨d, true, ix, gn, cp, dt⟩ A n c)] w (GotS w (l ++ (Cd.mk d true ix gn cp dt).tgt)) := by
  obtain ⟨w1, hw1⟩ : ∃ w1, w1 = w.alloc (.cells (Cd.cs ⟨d, true, ix, gn, cp, dt⟩ A n c) 47) := ⟨_, rfl⟩
  have K1 : CdAt w w1 w.heap.size ⟨d, true, ix, gn, cp, dt⟩ A n c := by rw [hw1]; exact CdAt.new w ⟨d, true, ix, gn, cp, dt⟩ A n c h
  have K1d := K1.next (Below.refl _ _).drew
  have c1 := K1.c1
  have s1 : w1.drew.cell? ⟨w.heap.size, 2, none⟩ = some (.int .i64 ix) ∧ w1.drew.cell? ⟨w.heap.size, 3, none⟩ = some (.int .i64 gn) := ⟨K1d.c2, K1d.c3⟩
  have HK := Lib.hid K1d
  have hl := hD.1
  have HX := Lib.hid (show (Cd.mk d true ix gn cp dt).tgt = numB 1 1 ++ numB 8 ix from rfl)
  have C1 := Lib.hid (LPut_any D m e0 l 1 (by decide) (by decide) 1 w1.drew (hD.below (Nat.le_refl _) K1d.bel) (by omega))
  clear h hD K1 K1d
  go_enter Try.func53, Try.ntmps53
  go_upto_region 2 with (rw [← hw1]; clear hw1)
  clear c1
  refine wp_region_noPanic ?_
  refine wp_region_held_drew (S := fun W => W.cell? ⟨w.heap.size, 2, none⟩ = some (.int .i64 ix) ∧ W.cell? ⟨w.heap.size, 3, none⟩ = some (.int .i64 gn)) (by kernel_rfl) s1 (fun hHeld => ?_)
  refine wpAnyH_take (i := 0) (oi := { dst := some 7, op := Op.move (Operand.tmp 0), type := 25, pos := "cmd.go:131", after := #[], guard := none }) (v := ?_) rfl (by kernel_rfl) (by kernel_rfl) (by kernel_rfl) (fun _ _ _ h => h) (Or.inl ⟨by rfl, ?_⟩) (by assumption) ?_
  rotate_left 1
  · intro w' hSw; (try dsimp only at hSw); go_simp; (try with_reducible rfl)
  simp only [Act.put, List.setIfInBounds_toArray, List.set_cons_zero, List.set_cons_succ]
  refine wpAnyH_take (i := 2) (oi := { dst := some 9, op := Op.fieldAddr 47 (Operand.tmp 3) 2, type := 0, pos := "cmd.go:131", after := #[], guard := none }) (v := ?_) rfl (by kernel_rfl) (by kernel_rfl) (by kernel_rfl) (fun _ _ _ h => h) (Or.inl ⟨by rfl, ?_⟩) (by assumption) ?_
  rotate_left 1
  · intro w' hSw; (try dsimp only at hSw); go_simp; (try with_reducible rfl)
  simp only [Act.put, List.setIfInBounds_toArray, List.set_cons_zero, List.set_cons_succ]
  refine wpAnyH_take (i := 3) (oi := { dst := some 10, op := Op.fieldAddr 45 (Operand.tmp 9) 0, type := 0, pos := "cmd.go:131", after := #[{ on := 2, ground := Ground.data }], guard := none }) (v := ?_) rfl (by kernel_rfl) (by kernel_rfl) (by kernel_rfl) (fun _ _ _ h => h) (Or.inl ⟨by rfl, ?_⟩) (by assumption) ?_
  rotate_left 1
  · intro w' hSw; (try dsimp only at hSw); go_simp; (try with_reducible rfl)
  simp only [Act.put, List.setIfInBounds_toArray, List.set_cons_zero, List.set_cons_succ]
  refine wpAnyH_take (i := 4) (oi := { dst := some 11, op := Op.load 3 (Operand.tmp 10), type := 3, pos := "cmd.go:131", after := #[{ on := 3, ground := Ground.data }], guard := none }) (v := ?_) rfl (by kernel_rfl) (by kernel_rfl) (by kernel_rfl) (fun _ _ _ h => h) (Or.inl ⟨by rfl, ?_⟩) (by assumption) ?_
  rotate_left 1
  · intro w' hSw; (try dsimp only at hSw); go_simp; (try with_reducible rfl)
  simp only [Act.put, List.setIfInBounds_toArray, List.set_cons_zero, List.set_cons_succ]
  refine wpAnyH_ready (rs := [1]) (by kernel_rfl) (by simp) ?_
  refine AllReadyH.cons (o := { dst := some 8, op := Op.call { callee := Callee.value (Operand.func 21), args := #[Operand.tmp 7, Operand.const (Value.int IntKind.i64 1), Operand.const (Value.int IntKind.i64 1)], argTypes := #[25, 3, 3] }, type := 25, pos := "cmd.go:131", after := #[{ on := 0, ground := Ground.data }], guard := none }) rfl (fun K' hK => ?_) AllReadyH.nil
  go_simp
  go_at_call 21; refine C1.out.mono ?_; rintro e w2 ⟨A2, n2, c2, rfl, r2, hc2, b2⟩
  have K2 := HK.out.next b2
  have s2 : w2.cell? ⟨w.heap.size, 2, none⟩ = some (.int .i64 ix) ∧ w2.cell? ⟨w.heap.size, 3, none⟩ = some (.int .i64 gn) := ⟨K2.c2, K2.c3⟩
  have HK2 := Lib.hid K2
  have l2 := r2.1
  simp only [List.length_append, numB_length] at l2
  have C2 := Lib.hid (LPut_any A2 n2 c2 _ 8 (by decide) (by decide) ix w2 r2 (by omega))
  clear r2 hc2 K2 b2
  refine hK.out _ _ s2 (fun hHeld => ?_)
  clear hK K'
  try simp only [Act.put, List.setIfInBounds_toArray, List.set_cons_zero, List.set_cons_succ]
  refine wpAnyH_ready (rs := [5]) (by kernel_rfl) (by simp) ?_
  refine AllReadyH.cons (o := { dst := some 12, op := Op.call { callee := Callee.value (Operand.func 21), args := #[Operand.tmp 8, Operand.const (Value.int IntKind.i64 8), Operand.tmp 11], argTypes := #[25, 3, 3] }, type := 25, pos := "cmd.go:131", after := #[{ on := 1, ground := Ground.data }, { on := 4, ground := Ground.data }, { on := 1, ground := Ground.chain }], guard := none }) rfl (fun K' hK => ?_) AllReadyH.nil
  go_simp
  go_at_call 21; refine C2.out.mono ?_; rintro e w3 ⟨A3, n3, c3, rfl, r3, hc3, b3⟩
  have K3 := HK2.out.next b3
  have s3 : w3.cell? ⟨w.heap.size, 2, none⟩ = some (.int .i64 ix) ∧ w3.cell? ⟨w.heap.size, 3, none⟩ = some (.int .i64 gn) := ⟨K3.c2, K3.c3⟩
  have HK3 := Lib.hid K3
  have HR := Lib.hid (And.intro r3 hc3)
  clear r3 hc3 K3 b3
  refine hK.out _ _ s3 (fun hHeld => ?_)
  clear hK K'
  try simp only [Act.put, List.setIfInBounds_toArray, List.set_cons_zero, List.set_cons_succ]
  refine wpAnyH_take (i := 6) (oi := { dst := some 4, op := Op.assign (Operand.tmp 12), type := 25, pos := "cmd.go:131", after := #[{ on := 5, ground := Ground.data }, { on := 5, ground := Ground.chain }, { on := 0, ground := Ground.phase }, { on := 1, ground := Ground.phase }, { on := 2, ground := Ground.phase }, { on := 3, ground := Ground.phase }, { on := 4, ground := Ground.phase }, { on := 5, ground := Ground.phase }], guard := none }) (v := ?_) rfl (by kernel_rfl) (by kernel_rfl) (by kernel_rfl) (fun _ _ _ h => h) (Or.inl ⟨by rfl, ?_⟩) (by assumption) ?_
  rotate_left 1
  · intro w' hSw; (try dsimp only at hSw); go_simp; (try with_reducible rfl)
  simp only [Act.put, List.setIfInBounds_toArray, List.set_cons_zero, List.set_cons_succ]
  refine wpAnyH_done (by kernel_rfl) ?_ _
  refine NoPanic.normal ?_
  clear hHeld s1 s2 s3
  go_wp2
  go_ret
  refine ⟨_, _, _, rfl, ?_, HR.out.2, HK3.out.bel⟩
  rw [HX.out]
  simpa only [List.append_assoc] using HR.out.1

set_option maxHeartbeats 2000000 in
theorem putTarget_false (d : Int) (ix gn cp : Int) (dt : List UInt8) (A : Option Addr) (n c : Nat) (D : Option Addr) (m e0 : Nat) (l : List UInt8) (w : World) (h : Rd w A n dt) (hD : Rd w D m l) (hm : m ≤ 1000000) :
    Calls Try.prog 53 #[.slice D m e0, .agg (Cd.cs ⟨d, false, ix, gn, cp, dt⟩ A n c)] w (GotS w (l ++ (Cd.mk d false ix gn cp dt).tgt)) := by
  obtain ⟨w1, hw1⟩ : ∃ w1, w1 = w.alloc (.cells (Cd.cs ⟨d, false, ix, gn, cp, dt⟩ A n c) 47) := ⟨_, rfl⟩
  have K1 : CdAt w w1 w.heap.size ⟨d, false, ix, gn, cp, dt⟩ A n c := by rw [hw1]; exact CdAt.new w ⟨d, false, ix, gn, cp, dt⟩ A n c h
  have K1d := K1.next (Below.refl _ _).drew
  have c1 := K1.c1
  have s1 : w1.drew.cell? ⟨w.heap.size, 2, none⟩ = some (.int .i64 ix) ∧ w1.drew.cell? ⟨w.heap.size, 3, none⟩ = some (.int .i64 gn) := ⟨K1d.c2, K1d.c3⟩
  have HK := Lib.hid K1d
  have hl := hD.1
  have HX := Lib.hid (show (Cd.mk d false ix gn cp dt).tgt = numB 1 0 ++ numB 8 ix ++ numB 8 gn from rfl)
  have C1 := Lib.hid (LPut_any D m e0 l 1 (by decide) (by decide) 0 w1.drew (hD.below (Nat.le_refl _) K1d.bel) (by omega))
  clear h hD K1 K1d
  go_enter Try.func53, Try.ntmps53
  go_upto_region 3 with (rw [← hw1]; clear hw1)
  clear c1
  refine wp_region_noPanic ?_
  refine wp_region_held_drew (S := fun W => W.cell? ⟨w.heap.size, 2, none⟩ = some (.int .i64 ix) ∧ W.cell? ⟨w.heap.size, 3, none⟩ = some (.int .i64 gn)) (by kernel_rfl) s1 (fun hHeld => ?_)
  refine wpAnyH_take (i := 0) (oi := { dst := some 13, op := Op.move (Operand.tmp 0), type := 25, pos := "cmd.go:133", after := #[], guard := none }) (v := ?_) rfl (by kernel_rfl) (by kernel_rfl) (by kernel_rfl) (fun _ _ _ h => h) (Or.inl ⟨by rfl, ?_⟩) (by assumption) ?_
  rotate_left 1
  · intro w' hSw; (try dsimp only at hSw); go_simp; (try with_reducible rfl)
  simp only [Act.put, List.setIfInBounds_toArray, List.set_cons_zero, List.set_cons_succ]
  refine wpAnyH_take (i := 2) (oi := { dst := some 15, op := Op.fieldAddr 47 (Operand.tmp 3) 2, type := 0, pos := "cmd.go:133", after := #[], guard := none }) (v := ?_) rfl (by kernel_rfl) (by kernel_rfl) (by kernel_rfl) (fun _ _ _ h => h) (Or.inl ⟨by rfl, ?_⟩) (by assumption) ?_
  rotate_left 1
  · intro w' hSw; (try dsimp only at hSw); go_simp; (try with_reducible rfl)
  simp only [Act.put, List.setIfInBounds_toArray, List.set_cons_zero, List.set_cons_succ]
  refine wpAnyH_take (i := 3) (oi := { dst := some 16, op := Op.fieldAddr 45 (Operand.tmp 15) 0, type := 0, pos := "cmd.go:133", after := #[{ on := 2, ground := Ground.data }], guard := none }) (v := ?_) rfl (by kernel_rfl) (by kernel_rfl) (by kernel_rfl) (fun _ _ _ h => h) (Or.inl ⟨by rfl, ?_⟩) (by assumption) ?_
  rotate_left 1
  · intro w' hSw; (try dsimp only at hSw); go_simp; (try with_reducible rfl)
  simp only [Act.put, List.setIfInBounds_toArray, List.set_cons_zero, List.set_cons_succ]
  refine wpAnyH_take (i := 4) (oi := { dst := some 17, op := Op.load 3 (Operand.tmp 16), type := 3, pos := "cmd.go:133", after := #[{ on := 3, ground := Ground.data }], guard := none }) (v := ?_) rfl (by kernel_rfl) (by kernel_rfl) (by kernel_rfl) (fun _ _ _ h => h) (Or.inl ⟨by rfl, ?_⟩) (by assumption) ?_
  rotate_left 1
  · intro w' hSw; (try dsimp only at hSw); go_simp; (try with_reducible rfl)
  simp only [Act.put, List.setIfInBounds_toArray, List.set_cons_zero, List.set_cons_succ]
  refine wpAnyH_take (i := 6) (oi := { dst := some 19, op := Op.fieldAddr 47 (Operand.tmp 3) 2, type := 0, pos := "cmd.go:133", after := #[], guard := none }) (v := ?_) rfl (by kernel_rfl) (by kernel_rfl) (by kernel_rfl) (fun _ _ _ h => h) (Or.inl ⟨by rfl, ?_⟩) (by assumption) ?_
  rotate_left 1
  · intro w' hSw; (try dsimp only at hSw); go_simp; (try with_reducible rfl)
  simp only [Act.put, List.setIfInBounds_toArray, List.set_cons_zero, List.set_cons_succ]
  refine wpAnyH_take (i := 7) (oi := { dst := some 20, op := Op.fieldAddr 45 (Operand.tmp 19) 1, type := 0, pos := "cmd.go:133", after := #[{ on := 6, ground := Ground.data }], guard := none }) (v := ?_) rfl (by kernel_rfl) (by kernel_rfl) (by kernel_rfl) (fun _ _ _ h => h) (Or.inl ⟨by rfl, ?_⟩) (by assumption) ?_
  rotate_left 1
  · intro w' hSw; (try dsimp only at hSw); go_simp; (try with_reducible rfl)
  simp only [Act.put, List.setIfInBounds_toArray, List.set_cons_zero, List.set_cons_succ]
  refine wpAnyH_take (i := 8) (oi := { dst := some 21, op := Op.load 3 (Operand.tmp 20), type := 3, pos := "cmd.go:133", after := #[{ on := 7, ground := Ground.data }], guard := none }) (v := ?_) rfl (by kernel_rfl) (by kernel_rfl) (by kernel_rfl) (fun _ _ _ h => h) (Or.inl ⟨by rfl, ?_⟩) (by assumption) ?_
  rotate_left 1
  · intro w' hSw; (try dsimp only at hSw); go_simp; (try with_reducible rfl)
  simp only [Act.put, List.setIfInBounds_toArray, List.set_cons_zero, List.set_cons_succ]
  refine wpAnyH_ready (rs := [1]) (by kernel_rfl) (by simp) ?_
  refine AllReadyH.cons (o := { dst := some 14, op := Op.call { callee := Callee.value (Operand.func 21), args := #[Operand.tmp 13, Operand.const (Value.int IntKind.i64 1), Operand.const (Value.int IntKind.i64 0)], argTypes := #[25, 3, 3] }, type := 25, pos := "cmd.go:133", after := #[{ on := 0, ground := Ground.data }], guard := none }) rfl (fun K' hK => ?_) AllReadyH.nil
  go_simp
  go_at_call 21; refine C1.out.mono ?_; rintro e w2 ⟨A2, n2, c2, rfl, r2, hc2, b2⟩
  have K2 := HK.out.next b2
  have s2 : w2.cell? ⟨w.heap.size, 2, none⟩ = some (.int .i64 ix) ∧ w2.cell? ⟨w.heap.size, 3, none⟩ = some (.int .i64 gn) := ⟨K2.c2, K2.c3⟩
  have HK2 := Lib.hid K2
  have l2 := r2.1
  simp only [List.length_append, numB_length] at l2
  have C2 := Lib.hid (LPut_any A2 n2 c2 _ 8 (by decide) (by decide) ix w2 r2 (by omega))
  clear r2 hc2 K2 b2
  refine hK.out _ _ s2 (fun hHeld => ?_)
  clear hK K'
  try simp only [Act.put, List.setIfInBounds_toArray, List.set_cons_zero, List.set_cons_succ]
  refine wpAnyH_ready (rs := [5]) (by kernel_rfl) (by simp) ?_
  refine AllReadyH.cons (o := { dst := some 18, op := Op.call { callee := Callee.value (Operand.func 21), args := #[Operand.tmp 14, Operand.const (Value.int IntKind.i64 8), Operand.tmp 17], argTypes := #[25, 3, 3] }, type := 25, pos := "cmd.go:133", after := #[{ on := 1, ground := Ground.data }, { on := 4, ground := Ground.data }, { on := 1, ground := Ground.chain }], guard := none }) rfl (fun K' hK => ?_) AllReadyH.nil
  go_simp
  go_at_call 21; refine C2.out.mono ?_; rintro e w3 ⟨A3, n3, c3, rfl, r3, hc3, b3⟩
  have K3 := HK2.out.next b3
  have s3 : w3.cell? ⟨w.heap.size, 2, none⟩ = some (.int .i64 ix) ∧ w3.cell? ⟨w.heap.size, 3, none⟩ = some (.int .i64 gn) := ⟨K3.c2, K3.c3⟩
  have HK3 := Lib.hid K3
  have l3 := r3.1
  simp only [List.length_append, numB_length] at l3
  have C3 := Lib.hid (LPut_any A3 n3 c3 _ 8 (by decide) (by decide) gn w3 r3 (by omega))
  clear r3 hc3 K3 b3
  refine hK.out _ _ s3 (fun hHeld => ?_)
  clear hK K'
  try simp only [Act.put, List.setIfInBounds_toArray, List.set_cons_zero, List.set_cons_succ]
  refine wpAnyH_ready (rs := [9]) (by kernel_rfl) (by simp) ?_
  refine AllReadyH.cons (o := { dst := some 22, op := Op.call { callee := Callee.value (Operand.func 21), args := #[Operand.tmp 18, Operand.const (Value.int IntKind.i64 8), Operand.tmp 21], argTypes := #[25, 3, 3] }, type := 25, pos := "cmd.go:133", after := #[{ on := 5, ground := Ground.data }, { on := 8, ground := Ground.data }, { on := 5, ground := Ground.chain }], guard := none }) rfl (fun K' hK => ?_) AllReadyH.nil
  go_simp
  go_at_call 21; refine C3.out.mono ?_; rintro e w4 ⟨A4, n4, c4, rfl, r4, hc4, b4⟩
  have K4 := HK3.out.next b4
  have s4 : w4.cell? ⟨w.heap.size, 2, none⟩ = some (.int .i64 ix) ∧ w4.cell? ⟨w.heap.size, 3, none⟩ = some (.int .i64 gn) := ⟨K4.c2, K4.c3⟩
  have HK4 := Lib.hid K4
  have HR := Lib.hid (And.intro r4 hc4)
  clear r4 hc4 K4 b4
  refine hK.out _ _ s4 (fun hHeld => ?_)
  clear hK K'
  try simp only [Act.put, List.setIfInBounds_toArray, List.set_cons_zero, List.set_cons_succ]
  refine wpAnyH_take (i := 10) (oi := { dst := some 4, op := Op.assign (Operand.tmp 22), type := 25, pos := "cmd.go:133", after := #[{ on := 9, ground := Ground.data }, { on := 9, ground := Ground.chain }, { on := 0, ground := Ground.phase }, { on := 1, ground := Ground.phase }, { on := 2, ground := Ground.phase }, { on := 3, ground := Ground.phase }, { on := 4, ground := Ground.phase }, { on := 5, ground := Ground.phase }, { on := 6, ground := Ground.phase }, { on := 7, ground := Ground.phase }, { on := 8, ground := Ground.phase }, { on := 9, ground := Ground.phase }], guard := none }) (v := ?_) rfl (by kernel_rfl) (by kernel_rfl) (by kernel_rfl) (fun _ _ _ h => h) (Or.inl ⟨by rfl, ?_⟩) (by assumption) ?_
  rotate_left 1
  · intro w' hSw; (try dsimp only at hSw); go_simp; (try with_reducible rfl)
  simp only [Act.put, List.setIfInBounds_toArray, List.set_cons_zero, List.set_cons_succ]
  refine wpAnyH_done (by kernel_rfl) ?_ _
  refine NoPanic.normal ?_
  clear hHeld s1 s2 s3 s4
  go_wp2
  go_ret
  refine ⟨_, _, _, rfl, ?_, HR.out.2, HK4.out.bel⟩
  rw [HX.out]
  simpa only [List.append_assoc] using HR.out.1

theorem putTarget_any (x : Cd) (A : Option Addr) (n c : Nat) (D : Option Addr) (m e0 : Nat) (l : List UInt8) (w : World) (h : Rd w A n x.dt) (hD : Rd w D m l) (hm : m ≤ 1000000) :
    Calls Try.prog 53 #[.slice D m e0, .agg (x.cs A n c)] w (GotS w (l ++ x.tgt)) := by
  obtain ⟨d, lc, ix, gn, cp, dt⟩ := x
  cases lc
  · exact putTarget_false d ix gn cp dt A n c D m e0 l w h hD hm
  · exact putTarget_true d ix gn cp dt A n c D m e0 l w h hD hm

set_option maxHeartbeats 2000000 in
theorem put_o (d : Int) (lc : Bool) (ix gn cp : Int) (dt : List UInt8) (hd : d < 0 ∨ 3 < d) (A : Option Addr) (n c : Nat) (w : World) (h : Rd w A n dt) (hn : n ≤ 1000000) :
    Calls Try.prog 45 #[.agg (Cd.cs ⟨d, lc, ix, gn, cp, dt⟩ A n c)] w (GotS w (Cd.mk d lc ix gn cp dt).bytes) := by
  obtain ⟨w1, hw1⟩ : ∃ w1, w1 = w.alloc (.cells (Cd.cs ⟨d, lc, ix, gn, cp, dt⟩ A n c) 47) := ⟨_, rfl⟩
  have K1 : CdAt w w1 w.heap.size ⟨d, lc, ix, gn, cp, dt⟩ A n c := by rw [hw1]; exact CdAt.new w ⟨d, lc, ix, gn, cp, dt⟩ A n c h
  have HL := Lib.hid h.1
  have hv : Calls Try.prog 40 #[.int .i64 d] w1 fun e w' => e = .returned (.tuple #[.agg #[.bool false, .bool false, .bool false], .bool false]) ∧ Below w1.heap.size w1 w' := (has_any d w1).mono fun e w' hp => by
    have hp' := hp
    unfold HasP hasV hasB at hp'
    rw [decide_eq_false (show ¬ (1 ≤ d ∧ d ≤ 3) by omega), decide_eq_false (show ¬ (2 ≤ d ∧ d ≤ 3) by omega), decide_eq_false (show ¬ d = 2 by omega), decide_eq_false (show ¬ (0 ≤ d ∧ d ≤ 3) by omega)] at hp'
    exact hp'
  have HX := Lib.hid (show (Cd.mk d lc ix gn cp dt).bytes = [255] by simp [Cd.bytes, show ¬ d = 0 by omega, show ¬ d = 1 by omega, show ¬ d = 2 by omega, show ¬ d = 3 by omega])
  clear hd
  have HV := Lib.hid hv
  have c0 := K1.c0
  have HK := Lib.hid K1
  clear h hv K1
  go_enter Try.func45, Try.ntmps45
  go_wp2_with (first
    | (rw [← hw1]; clear hw1)
    | (go_at_call 40; refine HV.out.mono ?_; rintro e w2 ⟨rfl, hb2⟩
       have HB2 := Lib.hid (And.intro hb2 (HK.out.next hb2))
       obtain ⟨w3, hw3⟩ : ∃ w3, w3 = w2.alloc (.cells #[.bool false, .bool false, .bool false] 73) := ⟨_, rfl⟩
       have T3 := Lib.hid (show Rec 73 w3 w2.heap.size #[.bool false, .bool false, .bool false] by rw [hw3]; exact Rec.new w2 _ _)
       have B3 := Lib.hid (show Below w2.heap.size w2 w3 by rw [hw3]; exact (Below.refl _ _).alloc (Nat.le_refl _) _)
       clear hb2)
    | (rw [← hw3]; clear hw3)
    | ((with_reducible refine wpList_stS (cs' := #[.bool false, .bool false, .bool false]) trT rfl rfl (by simp [Value.oneCell']) rfl (.tmp 3) (.tmp 10) rfl rfl rfl T3.out ?_); intro w4 hR4 hF4
       have K4 := HB2.out.2.next (B3.out.trans (hF4.toBelow (fun y hy => by have : y = w2.heap.size := hy; omega) B3.out.size))
       have c04 := K4.c0
       have t40 := hR4.at_ 0
       have C5 := Lib.hid (LPut_any none 0 0 [] 1 (by decide) (by decide) d w4 (Rd.nil _ _) (by decide))
       have HK4 := Lib.hid K4
       have HR4 := Lib.hid hR4
       clear K4 hR4 hF4 T3 c0))
  go_ret
  rw [HX.out]
  exact ⟨_, _, _, rfl, Rd.new w4 5 [255] (0, 0), Nat.le_refl _, HK4.out.bel.alloc HK4.out.bel.size _⟩

set_option maxHeartbeats 2000000 in
theorem put_0 (lc : Bool) (ix gn cp : Int) (dt : List UInt8) (A : Option Addr) (n c : Nat) (w : World) (h : Rd w A n dt) (hn : n ≤ 1000000) :
    Calls Try.prog 45 #[.agg (Cd.cs ⟨0, lc, ix, gn, cp, dt⟩ A n c)] w (GotS w (Cd.mk 0 lc ix gn cp dt).bytes) := by
  obtain ⟨w1, hw1⟩ : ∃ w1, w1 = w.alloc (.cells (Cd.cs ⟨0, lc, ix, gn, cp, dt⟩ A n c) 47) := ⟨_, rfl⟩
  have K1 : CdAt w w1 w.heap.size ⟨0, lc, ix, gn, cp, dt⟩ A n c := by rw [hw1]; exact CdAt.new w ⟨0, lc, ix, gn, cp, dt⟩ A n c h
  have HL := Lib.hid h.1
  have hv : Calls Try.prog 40 #[.int .i64 0] w1 fun e w' => e = .returned (.tuple #[.agg #[.bool false, .bool false, .bool false], .bool true]) ∧ Below w1.heap.size w1 w' := (has_any 0 w1).mono fun e w' hp => by simpa [HasP, hasV, hasB] using hp
  have HX := Lib.hid (show (Cd.mk 0 lc ix gn cp dt).bytes = numB 1 0 from rfl)
  have HV := Lib.hid hv
  have c0 := K1.c0
  have HK := Lib.hid K1
  clear h hv K1
  go_enter Try.func45, Try.ntmps45
  go_wp2_with (first
    | (rw [← hw1]; clear hw1)
    | (go_at_call 40; refine HV.out.mono ?_; rintro e w2 ⟨rfl, hb2⟩
       have HB2 := Lib.hid (And.intro hb2 (HK.out.next hb2))
       obtain ⟨w3, hw3⟩ : ∃ w3, w3 = w2.alloc (.cells #[.bool false, .bool false, .bool false] 73) := ⟨_, rfl⟩
       have T3 := Lib.hid (show Rec 73 w3 w2.heap.size #[.bool false, .bool false, .bool false] by rw [hw3]; exact Rec.new w2 _ _)
       have B3 := Lib.hid (show Below w2.heap.size w2 w3 by rw [hw3]; exact (Below.refl _ _).alloc (Nat.le_refl _) _)
       clear hb2)
    | (rw [← hw3]; clear hw3)
    | ((with_reducible refine wpList_stS (cs' := #[.bool false, .bool false, .bool false]) trT rfl rfl (by simp [Value.oneCell']) rfl (.tmp 3) (.tmp 10) rfl rfl rfl T3.out ?_); intro w4 hR4 hF4
       have K4 := HB2.out.2.next (B3.out.trans (hF4.toBelow (fun y hy => by have : y = w2.heap.size := hy; omega) B3.out.size))
       have c04 := K4.c0
       have t40 := hR4.at_ 0
       have C5 := Lib.hid (LPut_any none 0 0 [] 1 (by decide) (by decide) 0 w4 (Rd.nil _ _) (by decide))
       have HK4 := Lib.hid K4
       have HR4 := Lib.hid hR4
       clear K4 hR4 hF4 T3 c0)
    | (go_at_call 21; have _t := C5; refine C5.out.mono ?_; rintro e w5 ⟨A5, n5, c5, rfl, r5, hc5, b5⟩
       have K5 := HK4.out.next b5
       have R5 := HR4.out.under b5
       have t50 := R5.at_ 0; have t51 := R5.at_ 1; have t52 := R5.at_ 2
       have l5 := r5.1
       simp only [List.length_append, numB_length, List.length_nil] at l5
       have C6 := Lib.hid (putTarget_any ⟨0, lc, ix, gn, cp, dt⟩ A n c A5 n5 c5 _ w5 K5.rd r5 (by omega))
       have X5 := Lib.hid (And.intro K5 (And.intro R5 (And.intro r5 hc5)))
       clear K5 R5 r5 hc5 b5 C5 t40 c04 l5))
  go_ret
  rw [HX.out]
  exact ⟨_, _, _, rfl, by simpa using X5.out.2.2.1, X5.out.2.2.2, X5.out.1.bel⟩

set_option maxHeartbeats 2000000 in
theorem put_1 (lc : Bool) (ix gn cp : Int) (dt : List UInt8) (A : Option Addr) (n c : Nat) (w : World) (h : Rd w A n dt) (hn : n ≤ 1000000) :
    Calls Try.prog 45 #[.agg (Cd.cs ⟨1, lc, ix, gn, cp, dt⟩ A n c)] w (GotS w (Cd.mk 1 lc ix gn cp dt).bytes) := by
  obtain ⟨w1, hw1⟩ : ∃ w1, w1 = w.alloc (.cells (Cd.cs ⟨1, lc, ix, gn, cp, dt⟩ A n c) 47) := ⟨_, rfl⟩
  have K1 : CdAt w w1 w.heap.size ⟨1, lc, ix, gn, cp, dt⟩ A n c := by rw [hw1]; exact CdAt.new w ⟨1, lc, ix, gn, cp, dt⟩ A n c h
  have HL := Lib.hid h.1
  have hv : Calls Try.prog 40 #[.int .i64 1] w1 fun e w' => e = .returned (.tuple #[.agg #[.bool true, .bool false, .bool false], .bool true]) ∧ Below w1.heap.size w1 w' := (has_any 1 w1).mono fun e w' hp => by simpa [HasP, hasV, hasB] using hp
  have HX := Lib.hid (show (Cd.mk 1 lc ix gn cp dt).bytes = numB 1 1 ++ Cd.tgt ⟨1, lc, ix, gn, cp, dt⟩ from rfl)
  have HV := Lib.hid hv
  have c0 := K1.c0
  have HK := Lib.hid K1
  clear h hv K1
  go_enter Try.func45, Try.ntmps45
  go_wp2_with (first
    | (rw [← hw1]; clear hw1)
    | (go_at_call 40; refine HV.out.mono ?_; rintro e w2 ⟨rfl, hb2⟩
       have HB2 := Lib.hid (And.intro hb2 (HK.out.next hb2))
       obtain ⟨w3, hw3⟩ : ∃ w3, w3 = w2.alloc (.cells #[.bool false, .bool false, .bool false] 73) := ⟨_, rfl⟩
       have T3 := Lib.hid (show Rec 73 w3 w2.heap.size #[.bool false, .bool false, .bool false] by rw [hw3]; exact Rec.new w2 _ _)
       have B3 := Lib.hid (show Below w2.heap.size w2 w3 by rw [hw3]; exact (Below.refl _ _).alloc (Nat.le_refl _) _)
       clear hb2)
    | (rw [← hw3]; clear hw3)
    | ((with_reducible refine wpList_stS (cs' := #[.bool true, .bool false, .bool false]) trT rfl rfl (by simp [Value.oneCell']) rfl (.tmp 3) (.tmp 10) rfl rfl rfl T3.out ?_); intro w4 hR4 hF4
       have K4 := HB2.out.2.next (B3.out.trans (hF4.toBelow (fun y hy => by have : y = w2.heap.size := hy; omega) B3.out.size))
       have c04 := K4.c0
       have t40 := hR4.at_ 0
       have C5 := Lib.hid (LPut_any none 0 0 [] 1 (by decide) (by decide) 1 w4 (Rd.nil _ _) (by decide))
       have HK4 := Lib.hid K4
       have HR4 := Lib.hid hR4
       clear K4 hR4 hF4 T3 c0)
    | (go_at_call 21; have _t := C5; refine C5.out.mono ?_; rintro e w5 ⟨A5, n5, c5, rfl, r5, hc5, b5⟩
       have K5 := HK4.out.next b5
       have R5 := HR4.out.under b5
       have t50 := R5.at_ 0
       have l5 := r5.1
       simp only [List.length_append, numB_length, List.length_nil] at l5
       have C6 := Lib.hid (putTarget_any ⟨1, lc, ix, gn, cp, dt⟩ A n c A5 n5 c5 _ w5 K5.rd r5 (by omega))
       have X5 := Lib.hid (And.intro K5 (And.intro R5 (And.intro r5 hc5)))
       clear K5 R5 r5 hc5 b5 C5 t40 c04 l5)
    | ((with_reducible refine wpList_ldS cdT rfl rfl (.tmp 1) rfl rfl X5.out.1.r ?_))
    | (go_at_call 53; refine C6.out.mono ?_; rintro e w6 ⟨A6, n6, c6, rfl, r6, hc6, b6⟩
       have K6 := X5.out.1.next b6
       have R6 := X5.out.2.1.under b6
       have t61 := R6.at_ 1; have t62 := R6.at_ 2
       have q4 := K6.c4
       have l6 := r6.1
       have lt6 := Cd.tgt_len ⟨1, lc, ix, gn, cp, dt⟩
       have LT6 := Lib.hid lt6
       simp only [List.length_append, numB_length, List.length_nil] at l6
       have L6 := Lib.hid l6
       have C7 := Lib.hid (LPut_any A6 n6 c6 _ 8 (by decide) (by decide) cp w6 r6 (by omega))
       have X6 := Lib.hid (And.intro K6 (And.intro R6 (And.intro r6 hc6)))
       clear K6 R6 r6 hc6 b6 t50 C6 l6 lt6))
  go_ret
  rw [HX.out]
  exact ⟨_, _, _, rfl, by simpa using X6.out.2.2.1, X6.out.2.2.2, X6.out.1.bel⟩

set_option maxHeartbeats 2000000 in
theorem put_2 (lc : Bool) (ix gn cp : Int) (dt : List UInt8) (A : Option Addr) (n c : Nat) (w : World) (h : Rd w A n dt) (hn : n ≤ 1000000) :
    Calls Try.prog 45 #[.agg (Cd.cs ⟨2, lc, ix, gn, cp, dt⟩ A n c)] w (GotS w (Cd.mk 2 lc ix gn cp dt).bytes) := by
  obtain ⟨w1, hw1⟩ : ∃ w1, w1 = w.alloc (.cells (Cd.cs ⟨2, lc, ix, gn, cp, dt⟩ A n c) 47) := ⟨_, rfl⟩
  have K1 : CdAt w w1 w.heap.size ⟨2, lc, ix, gn, cp, dt⟩ A n c := by rw [hw1]; exact CdAt.new w ⟨2, lc, ix, gn, cp, dt⟩ A n c h
  have HL := Lib.hid h.1
  have hv : Calls Try.prog 40 #[.int .i64 2] w1 fun e w' => e = .returned (.tuple #[.agg #[.bool true, .bool true, .bool true], .bool true]) ∧ Below w1.heap.size w1 w' := (has_any 2 w1).mono fun e w' hp => by simpa [HasP, hasV, hasB] using hp
  have HX := Lib.hid (show (Cd.mk 2 lc ix gn cp dt).bytes = numB 1 2 ++ Cd.tgt ⟨2, lc, ix, gn, cp, dt⟩ ++ numB 8 cp ++ numB 2 dt.length ++ dt from rfl)
  have HV := Lib.hid hv
  have c0 := K1.c0
  have HK := Lib.hid K1
  clear h hv K1
  go_enter Try.func45, Try.ntmps45
  go_upto_region 10 with (first
    | (rw [← hw1]; clear hw1)
    | (go_at_call 40; refine HV.out.mono ?_; rintro e w2 ⟨rfl, hb2⟩
       have HB2 := Lib.hid (And.intro hb2 (HK.out.next hb2))
       obtain ⟨w3, hw3⟩ : ∃ w3, w3 = w2.alloc (.cells #[.bool false, .bool false, .bool false] 73) := ⟨_, rfl⟩
       have T3 := Lib.hid (show Rec 73 w3 w2.heap.size #[.bool false, .bool false, .bool false] by rw [hw3]; exact Rec.new w2 _ _)
       have B3 := Lib.hid (show Below w2.heap.size w2 w3 by rw [hw3]; exact (Below.refl _ _).alloc (Nat.le_refl _) _)
       clear hb2)
    | (rw [← hw3]; clear hw3)
    | ((with_reducible refine wpList_stS (cs' := #[.bool true, .bool true, .bool true]) trT rfl rfl (by simp [Value.oneCell']) rfl (.tmp 3) (.tmp 10) rfl rfl rfl T3.out ?_); intro w4 hR4 hF4
       have K4 := HB2.out.2.next (B3.out.trans (hF4.toBelow (fun y hy => by have : y = w2.heap.size := hy; omega) B3.out.size))
       have c04 := K4.c0
       have t40 := hR4.at_ 0
       have C5 := Lib.hid (LPut_any none 0 0 [] 1 (by decide) (by decide) 2 w4 (Rd.nil _ _) (by decide))
       have HK4 := Lib.hid K4
       have HR4 := Lib.hid hR4
       clear K4 hR4 hF4 T3 c0)
    | (go_at_call 21; have _t := C5; refine C5.out.mono ?_; rintro e w5 ⟨A5, n5, c5, rfl, r5, hc5, b5⟩
       have K5 := HK4.out.next b5
       have R5 := HR4.out.under b5
       have t50 := R5.at_ 0
       have l5 := r5.1
       simp only [List.length_append, numB_length, List.length_nil] at l5
       have C6 := Lib.hid (putTarget_any ⟨2, lc, ix, gn, cp, dt⟩ A n c A5 n5 c5 _ w5 K5.rd r5 (by omega))
       have X5 := Lib.hid (And.intro K5 (And.intro R5 (And.intro r5 hc5)))
       clear K5 R5 r5 hc5 b5 C5 t40 c04 l5)
    | ((with_reducible refine wpList_ldS cdT rfl rfl (.tmp 1) rfl rfl X5.out.1.r ?_))
    | (go_at_call 53; refine C6.out.mono ?_; rintro e w6 ⟨A6, n6, c6, rfl, r6, hc6, b6⟩
       have K6 := X5.out.1.next b6
       have R6 := X5.out.2.1.under b6
       have t61 := R6.at_ 1
       have q4 := K6.c4
       have l6 := r6.1
       have lt6 := Cd.tgt_len ⟨2, lc, ix, gn, cp, dt⟩
       have LT6 := Lib.hid lt6
       simp only [List.length_append, numB_length, List.length_nil] at l6
       have L6 := Lib.hid l6
       have C7 := Lib.hid (LPut_any A6 n6 c6 _ 8 (by decide) (by decide) cp w6 r6 (by omega))
       have X6 := Lib.hid (And.intro K6 (And.intro R6 (And.intro r6 hc6)))
       clear K6 R6 r6 hc6 b6 t50 C6 l6 lt6)
    | (have _t := C7; go_at_call 21; refine C7.out.mono ?_; rintro e w7 ⟨A7, n7, c7, rfl, r7, hc7, b7⟩
       have K7 := X6.out.1.next b7
       have R7 := X6.out.2.1.under b7
       have t72 := R7.at_ 2
       have l7 := r7.1
       simp only [List.length_append, numB_length, List.length_nil] at l7
       have X7 := Lib.hid (And.intro K7 (And.intro R7 (And.intro r7 hc7)))
       have L7 := Lib.hid l7
       clear K7 R7 r7 hc7 b7 t61 q4 C7 l7))
  have K7d := X7.out.1.next (Below.refl _ _).drew
  have s7 : w7.drew.cell? ⟨w.heap.size, 5, none⟩ = some (.slice A n c) := K7d.c5
  have P8 := Put_any A7 n7 c7 _ 2 n w7.drew (X7.out.2.2.1.drew) (by have := L7.out; have := LT6.out; omega)
  have hw2 : wd (2 : Int) = 2 := by decide
  rw [hw2] at P8
  have C8 := Lib.hid P8
  have HK7 := Lib.hid K7d

  clear t72 K7d P8 hw2
  refine wp_region_noPanic ?_
  refine wp_region_held_drew (S := fun W => W.cell? ⟨w.heap.size, 5, none⟩ = some (.slice A n c)) (by kernel_rfl) s7 (fun hHeld => ?_)
  refine wpAnyH_take (i := 0) (oi := { dst := some 31, op := Op.move (Operand.tmp 5), type := 25, pos := "cmd.go:123", after := #[], guard := none }) (v := ?_) rfl (by kernel_rfl) (by kernel_rfl) (by kernel_rfl) (fun _ _ _ h => h) (Or.inl ⟨by rfl, ?_⟩) (by assumption) ?_
  rotate_left 1
  · intro w' hSw; (try dsimp only at hSw); go_simp; (try with_reducible rfl)
  simp only [Act.put, List.setIfInBounds_toArray, List.set_cons_zero, List.set_cons_succ]
  refine wpAnyH_take (i := 1) (oi := { dst := some 32, op := Op.fieldAddr 47 (Operand.tmp 1) 4, type := 0, pos := "cmd.go:123", after := #[], guard := none }) (v := ?_) rfl (by kernel_rfl) (by kernel_rfl) (by kernel_rfl) (fun _ _ _ h => h) (Or.inl ⟨by rfl, ?_⟩) (by assumption) ?_
  rotate_left 1
  · intro w' hSw; (try dsimp only at hSw); go_simp; (try with_reducible rfl)
  simp only [Act.put, List.setIfInBounds_toArray, List.set_cons_zero, List.set_cons_succ]
  refine wpAnyH_take (i := 2) (oi := { dst := some 33, op := Op.load 25 (Operand.tmp 32), type := 25, pos := "cmd.go:123", after := #[{ on := 1, ground := Ground.data }], guard := none }) (v := ?_) rfl (by kernel_rfl) (by kernel_rfl) (by kernel_rfl) (fun _ _ _ h => h) (Or.inl ⟨by rfl, ?_⟩) (by assumption) ?_
  rotate_left 1
  · intro w' hSw; (try dsimp only at hSw); go_simp; (try with_reducible rfl)
  simp only [Act.put, List.setIfInBounds_toArray, List.set_cons_zero, List.set_cons_succ]
  refine wpAnyH_take (i := 3) (oi := { dst := some 34, op := Op.call { callee := Callee.builtin Builtin.len, args := #[Operand.tmp 33], argTypes := #[25] }, type := 3, pos := "cmd.go:123", after := #[{ on := 2, ground := Ground.data }], guard := none }) (v := ?_) rfl (by kernel_rfl) (by kernel_rfl) (by kernel_rfl) (fun _ _ _ h => h) (Or.inl ⟨by rfl, ?_⟩) (by assumption) ?_
  rotate_left 1
  · intro w' hSw; (try dsimp only at hSw); go_simp; (try with_reducible rfl)
  simp only [Act.put, List.setIfInBounds_toArray, List.set_cons_zero, List.set_cons_succ]
  refine wpAnyH_take (i := 5) (oi := { dst := some 36, op := Op.fieldAddr 47 (Operand.tmp 1) 4, type := 0, pos := "cmd.go:123", after := #[], guard := none }) (v := ?_) rfl (by kernel_rfl) (by kernel_rfl) (by kernel_rfl) (fun _ _ _ h => h) (Or.inl ⟨by rfl, ?_⟩) (by assumption) ?_
  rotate_left 1
  · intro w' hSw; (try dsimp only at hSw); go_simp; (try with_reducible rfl)
  simp only [Act.put, List.setIfInBounds_toArray, List.set_cons_zero, List.set_cons_succ]
  refine wpAnyH_take (i := 6) (oi := { dst := some 37, op := Op.load 25 (Operand.tmp 36), type := 25, pos := "cmd.go:123", after := #[{ on := 5, ground := Ground.data }], guard := none }) (v := ?_) rfl (by kernel_rfl) (by kernel_rfl) (by kernel_rfl) (fun _ _ _ h => h) (Or.inl ⟨by rfl, ?_⟩) (by assumption) ?_
  rotate_left 1
  · intro w' hSw; (try dsimp only at hSw); go_simp; (try with_reducible rfl)
  simp only [Act.put, List.setIfInBounds_toArray, List.set_cons_zero, List.set_cons_succ]
  refine wpAnyH_ready (rs := [4]) (by kernel_rfl) (by simp) ?_
  refine AllReadyH.cons (o := { dst := some 35, op := Op.call { callee := Callee.value (Operand.func 21), args := #[Operand.tmp 31, Operand.const (Value.int IntKind.i64 2), Operand.tmp 34], argTypes := #[25, 3, 3] }, type := 25, pos := "cmd.go:123", after := #[{ on := 0, ground := Ground.data }, { on := 3, ground := Ground.data }], guard := none }) rfl (fun K' hK => ?_) AllReadyH.nil
  go_simp
  go_at_call 21; refine C8.out.mono ?_; rintro e w8 ⟨v8, rfl, ho8, hb8⟩
  have K8 := HK7.out.next hb8
  have s8 : w8.cell? ⟨w.heap.size, 5, none⟩ = some (.slice A n c) := K8.c5
  have X8 := Lib.hid (And.intro K8 (And.intro ho8 hb8))
  clear K8 ho8 hb8
  refine hK.out _ _ s8 (fun hHeld => ?_)
  clear hK K'
  try simp only [Act.put, List.setIfInBounds_toArray, List.set_cons_zero, List.set_cons_succ]
  refine wpAnyH_ready (rs := [7]) (by kernel_rfl) (by simp) ?_
  refine AllReadyH.cons (o := { dst := some 38, op := Op.call { callee := Callee.builtin Builtin.append, args := #[Operand.tmp 35, Operand.tmp 37], argTypes := #[25, 25] }, type := 25, pos := "cmd.go:123", after := #[{ on := 4, ground := Ground.data }, { on := 6, ground := Ground.data }, { on := 4, ground := Ground.chain }], guard := none }) rfl (fun K' hK => ?_) AllReadyH.nil
  refine step_app w8 bytesT rfl (.tmp 35) (.tmp 37) rfl w7.drew.heap.size _ (n7 + 2) _ rfl X8.out.2.1 A n c dt rfl X8.out.1.rd (by have := L7.out; have := LT6.out; omega) X8.out.2.2.size ?_
  intro v9 w9 ho9 hb9 hg9
  have s9 : w9.cell? ⟨w.heap.size, 5, none⟩ = some (.slice A n c) := (hb9.cell (p := ⟨w.heap.size, 5, none⟩) HK7.out.r.lt).trans X8.out.1.c5
  have X9 := Lib.hid (And.intro ho9 (X8.out.1.bel.trans (hb9.mono HK7.out.bel.size)))
  clear ho9 hb9 hg9
  refine hK.out _ _ s9 (fun hHeld => ?_)
  clear hK K'
  try simp only [Act.put, List.setIfInBounds_toArray, List.set_cons_zero, List.set_cons_succ]
  refine wpAnyH_take (i := 8) (oi := { dst := some 5, op := Op.assign (Operand.tmp 38), type := 25, pos := "cmd.go:123", after := #[{ on := 7, ground := Ground.data }, { on := 7, ground := Ground.chain }, { on := 0, ground := Ground.phase }, { on := 1, ground := Ground.phase }, { on := 2, ground := Ground.phase }, { on := 3, ground := Ground.phase }, { on := 4, ground := Ground.phase }, { on := 5, ground := Ground.phase }, { on := 6, ground := Ground.phase }, { on := 7, ground := Ground.phase }], guard := none }) (v := ?_) rfl (by kernel_rfl) (by kernel_rfl) (by kernel_rfl) (fun _ _ _ h => h) (Or.inl ⟨by rfl, ?_⟩) (by assumption) ?_
  rotate_left 1
  · intro w' hSw; (try dsimp only at hSw); go_simp; (try with_reducible rfl)
  simp only [Act.put, List.setIfInBounds_toArray, List.set_cons_zero, List.set_cons_succ]
  refine wpAnyH_done (by kernel_rfl) ?_ _
  refine NoPanic.normal ?_
  clear hHeld s7 s8 s9
  go_wp2
  obtain ⟨ho9, hb9⟩ := X9.out
  rw [← cells_append] at ho9
  obtain ⟨A9, c9, rfl, hn9, _, hr9⟩ := Rd.of_own ho9 rfl
  go_ret
  rw [HX.out]
  refine ⟨_, _, _, rfl, ?_, hn9, hb9⟩
  rw [HL.out]
  simpa using hr9

set_option maxHeartbeats 2000000 in
theorem put_3 (lc : Bool) (ix gn cp : Int) (dt : List UInt8) (A : Option Addr) (n c : Nat) (w : World) (h : Rd w A n dt) (hn : n ≤ 1000000) :
    Calls Try.prog 45 #[.agg (Cd.cs ⟨3, lc, ix, gn, cp, dt⟩ A n c)] w (GotS w (Cd.mk 3 lc ix gn cp dt).bytes) := by
  obtain ⟨w1, hw1⟩ : ∃ w1, w1 = w.alloc (.cells (Cd.cs ⟨3, lc, ix, gn, cp, dt⟩ A n c) 47) := ⟨_, rfl⟩
  have K1 : CdAt w w1 w.heap.size ⟨3, lc, ix, gn, cp, dt⟩ A n c := by rw [hw1]; exact CdAt.new w ⟨3, lc, ix, gn, cp, dt⟩ A n c h
  have HL := Lib.hid h.1
  have hv : Calls Try.prog 40 #[.int .i64 3] w1 fun e w' => e = .returned (.tuple #[.agg #[.bool true, .bool true, .bool false], .bool true]) ∧ Below w1.heap.size w1 w' := (has_any 3 w1).mono fun e w' hp => by simpa [HasP, hasV, hasB] using hp
  have HX := Lib.hid (show (Cd.mk 3 lc ix gn cp dt).bytes = numB 1 3 ++ Cd.tgt ⟨3, lc, ix, gn, cp, dt⟩ ++ numB 8 cp from rfl)
  have HV := Lib.hid hv
  have c0 := K1.c0
  have HK := Lib.hid K1
  clear h hv K1
  go_enter Try.func45, Try.ntmps45
  go_wp2_with (first
    | (rw [← hw1]; clear hw1)
    | (go_at_call 40; refine HV.out.mono ?_; rintro e w2 ⟨rfl, hb2⟩
       have HB2 := Lib.hid (And.intro hb2 (HK.out.next hb2))
       obtain ⟨w3, hw3⟩ : ∃ w3, w3 = w2.alloc (.cells #[.bool false, .bool false, .bool false] 73) := ⟨_, rfl⟩
       have T3 := Lib.hid (show Rec 73 w3 w2.heap.size #[.bool false, .bool false, .bool false] by rw [hw3]; exact Rec.new w2 _ _)
       have B3 := Lib.hid (show Below w2.heap.size w2 w3 by rw [hw3]; exact (Below.refl _ _).alloc (Nat.le_refl _) _)
       clear hb2)
    | (rw [← hw3]; clear hw3)
    | ((with_reducible refine wpList_stS (cs' := #[.bool true, .bool true, .bool false]) trT rfl rfl (by simp [Value.oneCell']) rfl (.tmp 3) (.tmp 10) rfl rfl rfl T3.out ?_); intro w4 hR4 hF4
       have K4 := HB2.out.2.next (B3.out.trans (hF4.toBelow (fun y hy => by have : y = w2.heap.size := hy; omega) B3.out.size))
       have c04 := K4.c0
       have t40 := hR4.at_ 0
       have C5 := Lib.hid (LPut_any none 0 0 [] 1 (by decide) (by decide) 3 w4 (Rd.nil _ _) (by decide))
       have HK4 := Lib.hid K4
       have HR4 := Lib.hid hR4
       clear K4 hR4 hF4 T3 c0)
    | (go_at_call 21; have _t := C5; refine C5.out.mono ?_; rintro e w5 ⟨A5, n5, c5, rfl, r5, hc5, b5⟩
       have K5 := HK4.out.next b5
       have R5 := HR4.out.under b5
       have t50 := R5.at_ 0
       have l5 := r5.1
       simp only [List.length_append, numB_length, List.length_nil] at l5
       have C6 := Lib.hid (putTarget_any ⟨3, lc, ix, gn, cp, dt⟩ A n c A5 n5 c5 _ w5 K5.rd r5 (by omega))
       have X5 := Lib.hid (And.intro K5 (And.intro R5 (And.intro r5 hc5)))
       clear K5 R5 r5 hc5 b5 C5 t40 c04 l5)
    | ((with_reducible refine wpList_ldS cdT rfl rfl (.tmp 1) rfl rfl X5.out.1.r ?_))
    | (go_at_call 53; refine C6.out.mono ?_; rintro e w6 ⟨A6, n6, c6, rfl, r6, hc6, b6⟩
       have K6 := X5.out.1.next b6
       have R6 := X5.out.2.1.under b6
       have t61 := R6.at_ 1
       have q4 := K6.c4
       have l6 := r6.1
       have lt6 := Cd.tgt_len ⟨3, lc, ix, gn, cp, dt⟩
       have LT6 := Lib.hid lt6
       simp only [List.length_append, numB_length, List.length_nil] at l6
       have L6 := Lib.hid l6
       have C7 := Lib.hid (LPut_any A6 n6 c6 _ 8 (by decide) (by decide) cp w6 r6 (by omega))
       have X6 := Lib.hid (And.intro K6 (And.intro R6 (And.intro r6 hc6)))
       clear K6 R6 r6 hc6 b6 t50 C6 l6 lt6)
    | (have _t := C7; go_at_call 21; refine C7.out.mono ?_; rintro e w7 ⟨A7, n7, c7, rfl, r7, hc7, b7⟩
       have K7 := X6.out.1.next b7
       have R7 := X6.out.2.1.under b7
       have t72 := R7.at_ 2
       have l7 := r7.1
       simp only [List.length_append, numB_length, List.length_nil] at l7
       have X7 := Lib.hid (And.intro K7 (And.intro R7 (And.intro r7 hc7)))
       have L7 := Lib.hid l7
       clear K7 R7 r7 hc7 b7 t61 q4 C7 l7))
  go_ret
  rw [HX.out]
  exact ⟨_, _, _, rfl, by simpa using X7.out.2.2.1, X7.out.2.2.2, X7.out.1.bel⟩

theorem put_any (x : Cd) (A : Option Addr) (n c : Nat) (w : World) (h : Rd w A n x.dt) (hn : n ≤ 1000000) : Calls Try.prog 45 #[.agg (x.cs A n c)] w (GotS w x.bytes) := by
  obtain ⟨d, lc, ix, gn, cp, dt⟩ := x
  rcases cd_cases d with rfl | rfl | rfl | rfl | hd
  · exact put_0 lc ix gn cp dt A n c w h hn
  · exact put_1 lc ix gn cp dt A n c w h hn
  · exact put_2 lc ix gn cp dt A n c w h hn
  · exact put_3 lc ix gn cp dt A n c w h hn
  · exact put_o d lc ix gn cp dt hd A n c w h hn

set_option maxHeartbeats 1000000 in
theorem CPut_any (D : Option Addr) (m e0 : Nat) (l : List UInt8) (x : Cd) (A : Option Addr) (n c : Nat) (w : World) (hD : Rd w D m l) (hm : m ≤ 1000000) (h : Rd w A n x.dt) (hn : n ≤ 1000000) :
    Calls Try.prog 38 #[.slice D m e0, .agg (x.cs A n c)] w (GotS w (l ++ x.bytes)) := by
  obtain ⟨w1, hw1⟩ : ∃ w1, w1 = w.alloc (.cells (x.cs A n c) 47) := ⟨_, rfl⟩
  have K1 : CdAt w w1 w.heap.size x A n c := by rw [hw1]; exact CdAt.new w x A n c h
  have C1 := Lib.hid (put_any x A n c w1 K1.rd hn)
  have HX := Lib.hid (And.intro (hD.below (Nat.le_refl _) K1.bel) (And.intro K1 (And.intro h.1 x.bytes_len)))
  clear h hD K1
  go_enter Try.func38, Try.ntmps38
  go_wp2_with (first
    | (rw [← hw1]; clear hw1)
    | ((with_reducible refine wpList_ldS cdT rfl rfl (.tmp 3) rfl rfl HX.out.2.1.r ?_))
    | (go_at_call 45; refine C1.out.mono ?_; rintro e w2 ⟨A2, n2, c2, rfl, r2, hc2, hb2⟩
       have hD2 := HX.out.1.below (Nat.le_refl _) hb2
       have K2 := HX.out.2.1.next hb2
       obtain ⟨w3, hw3⟩ : ∃ w3, w3 = w2.alloc (.cells #[.slice D m e0, .slice A2 n2 c2] 25) := ⟨_, rfl⟩
       have hb3 : Below w2.heap.size w2 w3 := by rw [hw3]; exact (Below.refl _ _).alloc (Nat.le_refl _) _
       have k30 : w3.cell? ⟨w2.heap.size, 0, none⟩ = some (.slice D m e0) := by rw [hw3]; exact (Rec.new w2 25 #[.slice D m e0, .slice A2 n2 c2]).at_ 0
       have k31 : w3.cell? ⟨w2.heap.size, 1, none⟩ = some (.slice A2 n2 c2) := by rw [hw3]; exact (Rec.new w2 25 #[.slice D m e0, .slice A2 n2 c2]).at_ 1
       have hn2 : n2 ≤ 1073741824 := by have := r2.1; have := HX.out.2.2.1; have := HX.out.2.2.2; omega
       have CC := Lib.hid (concat_two w2.heap.size D A2 m e0 n2 c2 l x.bytes w3 k30 k31 (hD2.below (Nat.le_refl _) hb3) (r2.below (Nat.le_refl _) hb3) (by omega) hn2)
       have HB3 := Lib.hid (K2.bel.trans (hb3.mono K2.bel.size))
       clear hD2 K2 hb2 r2 hc2 hb3 k30 k31 hn2)
    | (rw [← hw3]; clear hw3)
    | (go_at_call 44; refine CC.out.mono ?_; rintro e w4 ⟨v4, rfl, ho4, hb4⟩))
  obtain ⟨A4, c4, rfl, hn4, _, hr4⟩ := Rd.of_own ho4 rfl
  go_ret
  exact ⟨_, _, _, rfl, hr4, hn4, HB3.out.trans (hb4.mono HB3.out.size)⟩
end Go.Proofs.Ytlinafnhhnkjnaa
