/- The law CompChecks, walked. -/
import Derived.Test.YtdaenkfkiijlkaaCm9
import Derived.Test.YtdaenkfkiijlkaaCmO
import Derived.Deep.RegionHeld3
namespace Go.Proofs.Ytdaenkfkiijlkaa
open Go.RowKit
set_option linter.unusedVariables false

section
variable (lg pg en gn : Int) (A : Option Addr) (n cap : Nat) (ks : List Kd) (s : ByteArray) (k : Int) (w : World)

theorem CompChecks_much (h : KRd w A n ks) (hn : n ≤ 9223372036854775807) (hl : Lens ks) (hs : s.size ≤ 9223372036854775807) (hm : muchK ks = true ∨ (muchK ks = false ∧ 100 < s.size)) :
    Calls Try.prog 3 #[cv lg pg en gn A n cap, .string s, .int .i64 k] w fun e w' => e = .returned (.bool true) ∧ Below w.heap.size w w' := by
  obtain ⟨w1, hw1⟩ : ∃ w1, w1 = w.alloc (.cells (cc lg pg en gn A n cap) 24) := ⟨_, rfl⟩
  have C1 := CAt.new h lg pg en gn cap
  rw [← hw1] at C1
  obtain ⟨g, hg⟩ : ∃ g, g = w.heap.size := ⟨_, rfl⟩
  rw [← hg] at C1
  have c0 := C1.c0
  have c1 := C1.c1
  have c2 := C1.c2
  have c3 := C1.c3
  have c4 := C1.c4
  have K1 := Lib.hid C1
  have HG := Lib.hid hg
  have HL := Lib.hid hl
  clear h hg C1 hl
  rcases hm with hm | ⟨hm, hs1⟩
  all_goals
    have HM := Lib.hid hm
    clear hm
    go_enter Try.func3, Try.ntmps3
    go_wp2_with (first
      | (rw [← hw1, ← HG.out]; clear hw1)
      | (go_at_call 6; refine (Much_any lg pg en gn A n cap ks w1 K1.out.rd hn HL.out).mono ?_; rintro e w2 ⟨rfl, hb2⟩; rw [HM.out]; have HB2 := Lib.hid (K1.out.bel.trans (hb2.mono K1.out.bel.size)); clear hb2)
      | (go_at_call 7; refine (live_any w2).mono ?_; rintro e w3 ⟨rfl, hb3⟩))
    go_ret
    exact ⟨rfl, HB2.out.trans (hb3.mono HB2.out.size)⟩

set_option maxHeartbeats 2000000 in
theorem CompChecks_yes (h : KRd w A n ks) (hn : n ≤ 40) (hl : Lens ks) (hs : s.size ≤ 100) (hm : muchK ks = false)
    (cC : ∀ W, KRd W A n ks → Calls Try.prog 8 #[cv lg pg en gn A n cap] W fun e w' => e = .returned (.int .i64 0) ∧ Below W.heap.size W w')
    (cR : ∀ W, KRd W A n ks → Calls Try.prog 14 #[cv lg pg en gn A n cap] W fun e w' => e = .returned (.bool true) ∧ Below W.heap.size W w') :
    Calls Try.prog 3 #[cv lg pg en gn A n cap, .string s, .int .i64 k] w fun e w' => e = .returned (.bool true) ∧ Below w.heap.size w w' := by
  obtain ⟨w1, hw1⟩ : ∃ w1, w1 = w.alloc (.cells (cc lg pg en gn A n cap) 24) := ⟨_, rfl⟩
  have C1 := CAt.new h lg pg en gn cap
  rw [← hw1] at C1
  obtain ⟨g, hg⟩ : ∃ g, g = w.heap.size := ⟨_, rfl⟩
  rw [← hg] at C1
  have c0 := C1.c0
  have c1 := C1.c1
  have c2 := C1.c2
  have c3 := C1.c3
  have c4 := C1.c4
  have K1 := Lib.hid C1
  have HG := Lib.hid hg
  have HL := Lib.hid hl
  have HM := Lib.hid hm
  have CC := Lib.hid cC
  have CR := Lib.hid cR
  clear h hg C1 hl hm cC cR
  go_enter Try.func3, Try.ntmps3
  go_wp2_with (rw [← hw1, ← HG.out]; clear hw1)
  refine (Much_any lg pg en gn A n cap ks w1 K1.out.rd (by omega) HL.out).mono ?_
  rintro e w2 ⟨rfl, hb2⟩
  rw [HM.out]
  have C2 := K1.out.next hb2
  clear c0 c1 c2 c3 c4 hb2 K1
  have c0 := C2.c0
  have c1 := C2.c1
  have c2 := C2.c2
  have c3 := C2.c3
  have c4 := C2.c4
  have K2 := Lib.hid C2
  clear C2
  go_wp2_with fail
  refine (CC.out w2 K2.out.rd).mono ?_
  rintro e w3 ⟨rfl, hb3⟩
  have C3 := K2.out.next hb3
  clear c0 c1 c2 c3 c4 hb3 K2
  have c0 := C3.c0
  have c1 := C3.c1
  have c2 := C3.c2
  have c3 := C3.c3
  have c4 := C3.c4
  have K3 := Lib.hid C3
  clear C3
  go_wp2_with fail
  refine (Find_any lg pg en gn A n cap ks w3 K3.out.rd (by omega) s).mono ?_
  rintro e w4 ⟨rfl, hb4⟩
  have C4 := K3.out.next hb4
  clear c0 c1 c2 c3 c4 hb4 K3
  have c0 := C4.c0
  have c1 := C4.c1
  have c2 := C4.c2
  have c3 := C4.c3
  have c4 := C4.c4
  have K4 := Lib.hid C4
  clear C4
  go_wp2_with fail
  refine (RFind_any lg pg en gn A n cap ks w4 K4.out.rd (by omega) s).mono ?_
  rintro e w5 ⟨rfl, hb5⟩
  have C5 := K4.out.next hb5
  clear c0 c1 c2 c3 c4 hb5 K4
  have c0 := C5.c0
  have c1 := C5.c1
  have c2 := C5.c2
  have c3 := C5.c3
  have c4 := C5.c4
  have K5 := Lib.hid C5
  clear C5
  go_wp2_with fail
  refine (Size_any lg pg en gn A n cap ks w5 K5.out.rd (by omega) k).mono ?_
  rintro e w6 ⟨rfl, hb6⟩
  have C6 := K5.out.next hb6
  clear c0 c1 c2 c3 c4 hb6 K5
  have c0 := C6.c0
  have c1 := C6.c1
  have c2 := C6.c2
  have c3 := C6.c3
  have c4 := C6.c4
  have K6 := Lib.hid C6
  clear C6
  go_wp2_with fail
  refine (RSize_any lg pg en gn A n cap ks w6 K6.out.rd (by omega) k).mono ?_
  rintro e w7 ⟨rfl, hb7⟩
  have C7 := K6.out.next hb7
  clear c0 c1 c2 c3 c4 hb7 K6
  have c0 := C7.c0
  have c1 := C7.c1
  have c2 := C7.c2
  have c3 := C7.c3
  have c4 := C7.c4
  have K7 := Lib.hid C7
  clear C7
  obtain ⟨fk, hfk⟩ : ∃ fk, fk = findK ks s := ⟨_, rfl⟩
  obtain ⟨sk, hsk⟩ : ∃ sk, sk = sizeK ks k := ⟨_, rfl⟩
  rw [← hfk, ← hsk]
  clear hfk hsk
  obtain ⟨f1, f2⟩ := fk
  obtain ⟨s1, s2⟩ := sk
  go_wp2_with fail
  -- REGION
  refine wp_region_held_drew (S := (fun W => W.cell? ⟨g, 0, none⟩ = some (.int .i64 lg) ∧ W.cell? ⟨g, 1, none⟩ = some (.int .i64 pg) ∧ W.cell? ⟨g, 2, none⟩ = some (.int .i64 en) ∧ W.cell? ⟨g, 3, none⟩ = some (.int .i64 gn) ∧ W.cell? ⟨g, 4, none⟩ = some (.slice A n cap))) (by kernel_rfl) ⟨c0, c1, c2, c3, c4⟩ (fun hHeld => ?_)
  refine wpAnyH_take (i := 0) (oi := { dst := some 50, op := Op.move (Operand.tmp 7), type := 27, pos := "law.go:30", after := #[], guard := none }) (v := ?_) rfl (by kernel_rfl) (by kernel_rfl) (by kernel_rfl) (fun _ _ _ h => h) (Or.inl ⟨by rfl, ?_⟩) (by assumption) ?_
  rotate_left 1
  · intro w' hSw; (try dsimp only at hSw); go_simp; (try with_reducible rfl)
  simp only [Act.put, List.setIfInBounds_toArray, List.set_cons_zero, List.set_cons_succ]
  refine wpAnyH_take (i := 3) (oi := { dst := some 53, op := Op.load 24 (Operand.tmp 3), type := 24, pos := "law.go:30", after := #[], guard := none }) (v := ?_) rfl (by kernel_rfl) (by kernel_rfl) (by kernel_rfl) (fun _ _ _ h => h) (Or.inl ⟨by rfl, ?_⟩) (by assumption) ?_
  rotate_left 1
  · intro w' hSw; (try dsimp only at hSw); go_simp; (try with_reducible rfl)
  simp only [Act.put, List.setIfInBounds_toArray, List.set_cons_zero, List.set_cons_succ]
  refine wpAnyH_ready (rs := [1]) (by kernel_rfl) (by simp) ?_
  refine AllReadyH.cons (o := { dst := some 51, op := Op.call { callee := Callee.value (Operand.func 13), args := #[Operand.tmp 50], argTypes := #[27] }, type := 3, pos := "law.go:30", after := #[{ on := 0, ground := Ground.data }], guard := none }) rfl (fun K' hK => ?_) AllReadyH.nil
  go_simp
  go_at_call 13; refine (code_any _ _).mono ?_; rintro e w' ⟨rfl, rfl⟩
  refine hK.out _ _ ⟨K7.out.c0, K7.out.c1, K7.out.c2, K7.out.c3, K7.out.c4⟩ (fun hHeld => ?_)
  clear hK K'
  try simp only [Act.put, List.setIfInBounds_toArray, List.set_cons_zero, List.set_cons_succ]
  refine wpAnyH_take (i := 2) (oi := { dst := some 52, op := Op.binOp BinOp.eql 3 (Operand.tmp 51) (Operand.const (Value.int IntKind.i64 0)) 3, type := 4, pos := "law.go:30", after := #[{ on := 1, ground := Ground.data }], guard := none }) (v := ?_) rfl (by kernel_rfl) (by kernel_rfl) (by kernel_rfl) (fun _ _ _ h => h) (Or.inl ⟨by rfl, ?_⟩) (by assumption) ?_
  rotate_left 1
  · intro w' hSw; (try dsimp only at hSw); go_simp; (try with_reducible rfl)
  simp only [Act.put, List.setIfInBounds_toArray, List.set_cons_zero, List.set_cons_succ]
  refine wpAnyH_ready (rs := [4]) (by kernel_rfl) (by simp) ?_
  refine AllReadyH.cons (o := { dst := some 54, op := Op.call { callee := Callee.value (Operand.func 14), args := #[Operand.tmp 53], argTypes := #[24] }, type := 4, pos := "law.go:30", after := #[{ on := 3, ground := Ground.data }, { on := 1, ground := Ground.chain }], guard := none }) rfl (fun K' hK => ?_) AllReadyH.nil
  go_simp
  go_at_call 14; refine (CR.out w7.drew (K7.out.rd.below ((Below.refl _ _).drew))).mono ?_; rintro e w8 ⟨rfl, hb8'⟩
  have hb8 : Below w7.heap.size w7 w8 := ((Below.refl _ _).drew).trans hb8'
  have K8 := Lib.hid (K7.out.next hb8)
  clear hb8 hb8'
  refine hK.out _ _ ⟨K8.out.c0, K8.out.c1, K8.out.c2, K8.out.c3, K8.out.c4⟩ (fun hHeld => ?_)
  clear hK K'
  try simp only [Act.put, List.setIfInBounds_toArray, List.set_cons_zero, List.set_cons_succ]
  refine wpAnyH_take (i := 5) (oi := { dst := some 55, op := Op.binOp BinOp.eql 4 (Operand.tmp 52) (Operand.tmp 54) 4, type := 4, pos := "law.go:30", after := #[{ on := 2, ground := Ground.data }, { on := 4, ground := Ground.data }], guard := none }) (v := ?_) rfl (by kernel_rfl) (by kernel_rfl) (by kernel_rfl) (fun _ _ _ h => h) (Or.inl ⟨by rfl, ?_⟩) (by assumption) ?_
  rotate_left 1
  · intro w' hSw; (try dsimp only at hSw); go_simp; (try with_reducible rfl)
  simp only [Act.put, List.setIfInBounds_toArray, List.set_cons_zero, List.set_cons_succ]
  refine wpAnyH_take (i := 6) (oi := { dst := some 56, op := Op.move (Operand.tmp 55), type := 4, pos := "law.go:30", after := #[{ on := 5, ground := Ground.data }, { on := 4, ground := Ground.chain }], guard := none }) (v := ?_) rfl (by kernel_rfl) (by kernel_rfl) (by kernel_rfl) (fun _ _ _ h => h) (Or.inl ⟨by rfl, ?_⟩) (by assumption) ?_
  rotate_left 1
  · intro w' hSw; (try dsimp only at hSw); go_simp; (try with_reducible rfl)
  simp only [Act.put, List.setIfInBounds_toArray, List.set_cons_zero, List.set_cons_succ]
  refine wpAnyH_take (i := 7) (oi := { dst := some 57, op := Op.move (Operand.tmp 7), type := 27, pos := "law.go:30", after := #[{ on := 6, ground := Ground.guard }], guard := some (6, true) }) (v := ?_) rfl (by kernel_rfl) (by kernel_rfl) (by kernel_rfl) (fun _ _ _ h => h) (Or.inl ⟨by rfl, ?_⟩) (by assumption) ?_
  rotate_left 1
  · intro w' hSw; (try dsimp only at hSw); go_simp; (try with_reducible rfl)
  simp only [Act.put, List.setIfInBounds_toArray, List.set_cons_zero, List.set_cons_succ]
  refine wpAnyH_ready (rs := [8]) (by kernel_rfl) (by simp) ?_
  refine AllReadyH.cons (o := { dst := some 58, op := Op.call { callee := Callee.value (Operand.func 13), args := #[Operand.tmp 57], argTypes := #[27] }, type := 3, pos := "law.go:30", after := #[{ on := 7, ground := Ground.data }, { on := 6, ground := Ground.chain }, { on := 6, ground := Ground.guard }], guard := some (6, true) }) rfl (fun K' hK => ?_) AllReadyH.nil
  go_simp
  go_at_call 13; refine (code_any _ _).mono ?_; rintro e w' ⟨rfl, rfl⟩
  refine hK.out _ _ ⟨K8.out.c0, K8.out.c1, K8.out.c2, K8.out.c3, K8.out.c4⟩ (fun hHeld => ?_)
  clear hK K'
  try simp only [Act.put, List.setIfInBounds_toArray, List.set_cons_zero, List.set_cons_succ]
  refine wpAnyH_take (i := 9) (oi := { dst := some 59, op := Op.binOp BinOp.eql 3 (Operand.tmp 58) (Operand.const (Value.int IntKind.i64 0)) 3, type := 4, pos := "law.go:30", after := #[{ on := 8, ground := Ground.data }, { on := 6, ground := Ground.guard }], guard := some (6, true) }) (v := ?_) rfl (by kernel_rfl) (by kernel_rfl) (by kernel_rfl) (fun _ _ _ h => h) (Or.inl ⟨by rfl, ?_⟩) (by assumption) ?_
  rotate_left 1
  · intro w' hSw; (try dsimp only at hSw); go_simp; (try with_reducible rfl)
  simp only [Act.put, List.setIfInBounds_toArray, List.set_cons_zero, List.set_cons_succ]
  refine wpAnyH_take (i := 10) (oi := { dst := some 60, op := Op.move (Operand.tmp 59), type := 4, pos := "law.go:30", after := #[{ on := 9, ground := Ground.data }, { on := 8, ground := Ground.chain }, { on := 6, ground := Ground.guard }], guard := some (6, true) }) (v := ?_) rfl (by kernel_rfl) (by kernel_rfl) (by kernel_rfl) (fun _ _ _ h => h) (Or.inl ⟨by rfl, ?_⟩) (by assumption) ?_
  rotate_left 1
  · intro w' hSw; (try dsimp only at hSw); go_simp; (try with_reducible rfl)
  simp only [Act.put, List.setIfInBounds_toArray, List.set_cons_zero, List.set_cons_succ]
  refine wpAnyH_take (i := 11) (oi := { dst := some 61, op := Op.move (Operand.tmp 7), type := 27, pos := "law.go:30", after := #[{ on := 10, ground := Ground.guard }], guard := some (10, false) }) (v := undef) rfl (by kernel_rfl) (by kernel_rfl) (by kernel_rfl) (fun _ _ _ h => h) (Or.inr ⟨by rfl, rfl⟩) (by assumption) ?_
  simp only [Act.put, List.setIfInBounds_toArray, List.set_cons_zero, List.set_cons_succ]
  refine wpAnyH_take (i := 12) (oi := { dst := some 62, op := Op.call { callee := Callee.value (Operand.func 13), args := #[Operand.tmp 61], argTypes := #[27] }, type := 3, pos := "law.go:30", after := #[{ on := 11, ground := Ground.data }, { on := 10, ground := Ground.chain }, { on := 10, ground := Ground.guard }], guard := some (10, false) }) (v := undef) rfl (by kernel_rfl) (by kernel_rfl) (by kernel_rfl) (fun _ _ _ h => h) (Or.inr ⟨by rfl, rfl⟩) (by assumption) ?_
  simp only [Act.put, List.setIfInBounds_toArray, List.set_cons_zero, List.set_cons_succ]
  refine wpAnyH_take (i := 13) (oi := { dst := some 63, op := Op.binOp BinOp.eql 3 (Operand.tmp 62) (Operand.const (Value.int IntKind.i64 1)) 3, type := 4, pos := "law.go:30", after := #[{ on := 12, ground := Ground.data }, { on := 10, ground := Ground.guard }], guard := some (10, false) }) (v := undef) rfl (by kernel_rfl) (by kernel_rfl) (by kernel_rfl) (fun _ _ _ h => h) (Or.inr ⟨by rfl, rfl⟩) (by assumption) ?_
  simp only [Act.put, List.setIfInBounds_toArray, List.set_cons_zero, List.set_cons_succ]
  refine wpAnyH_take (i := 14) (oi := { dst := some 64, op := Op.pick (Operand.tmp 60) (Operand.const (Value.bool true)) (Operand.tmp 63), type := 4, pos := "law.go:30", after := #[{ on := 10, ground := Ground.data }, { on := 13, ground := Ground.data }, { on := 6, ground := Ground.guard }], guard := some (6, true) }) (v := ?_) rfl (by kernel_rfl) (by kernel_rfl) (by kernel_rfl) (fun _ _ _ h => h) (Or.inl ⟨by rfl, ?_⟩) (by assumption) ?_
  rotate_left 1
  · intro w' hSw; (try dsimp only at hSw); go_simp; (try with_reducible rfl)
  simp only [Act.put, List.setIfInBounds_toArray, List.set_cons_zero, List.set_cons_succ]
  refine wpAnyH_take (i := 15) (oi := { dst := some 65, op := Op.pick (Operand.tmp 56) (Operand.tmp 64) (Operand.const (Value.bool false)), type := 4, pos := "law.go:30", after := #[{ on := 6, ground := Ground.data }, { on := 14, ground := Ground.data }], guard := none }) (v := ?_) rfl (by kernel_rfl) (by kernel_rfl) (by kernel_rfl) (fun _ _ _ h => h) (Or.inl ⟨by rfl, ?_⟩) (by assumption) ?_
  rotate_left 1
  · intro w' hSw; (try dsimp only at hSw); go_simp; (try with_reducible rfl)
  simp only [Act.put, List.setIfInBounds_toArray, List.set_cons_zero, List.set_cons_succ]
  refine wpAnyH_take (i := 16) (oi := { dst := some 66, op := Op.move (Operand.tmp 65), type := 4, pos := "law.go:30", after := #[{ on := 15, ground := Ground.data }, { on := 12, ground := Ground.chain }], guard := none }) (v := ?_) rfl (by kernel_rfl) (by kernel_rfl) (by kernel_rfl) (fun _ _ _ h => h) (Or.inl ⟨by rfl, ?_⟩) (by assumption) ?_
  rotate_left 1
  · intro w' hSw; (try dsimp only at hSw); go_simp; (try with_reducible rfl)
  simp only [Act.put, List.setIfInBounds_toArray, List.set_cons_zero, List.set_cons_succ]
  refine wpAnyH_take (i := 17) (oi := { dst := some 67, op := Op.move (Operand.tmp 1), type := 9, pos := "law.go:30", after := #[{ on := 16, ground := Ground.guard }], guard := some (16, true) }) (v := ?_) rfl (by kernel_rfl) (by kernel_rfl) (by kernel_rfl) (fun _ _ _ h => h) (Or.inl ⟨by rfl, ?_⟩) (by assumption) ?_
  rotate_left 1
  · intro w' hSw; (try dsimp only at hSw); go_simp; (try with_reducible rfl)
  simp only [Act.put, List.setIfInBounds_toArray, List.set_cons_zero, List.set_cons_succ]
  refine wpAnyH_take (i := 19) (oi := { dst := some 69, op := Op.move (Operand.tmp 1), type := 9, pos := "law.go:30", after := #[{ on := 16, ground := Ground.guard }], guard := some (16, true) }) (v := ?_) rfl (by kernel_rfl) (by kernel_rfl) (by kernel_rfl) (fun _ _ _ h => h) (Or.inl ⟨by rfl, ?_⟩) (by assumption) ?_
  rotate_left 1
  · intro w' hSw; (try dsimp only at hSw); go_simp; (try with_reducible rfl)
  simp only [Act.put, List.setIfInBounds_toArray, List.set_cons_zero, List.set_cons_succ]
  refine wpAnyH_ready (rs := [18]) (by kernel_rfl) (by simp) ?_
  refine AllReadyH.cons (o := { dst := some 68, op := Op.call { callee := Callee.value (Operand.func 15), args := #[Operand.tmp 67], argTypes := #[9] }, type := 4, pos := "law.go:30", after := #[{ on := 17, ground := Ground.data }, { on := 16, ground := Ground.chain }, { on := 16, ground := Ground.guard }], guard := some (16, true) }) rfl (fun K' hK => ?_) AllReadyH.nil
  go_simp
  go_at_call 15; refine (CName_any s w8 (by omega)).mono ?_; rintro e w' ⟨rfl, rfl⟩
  refine hK.out _ _ ⟨K8.out.c0, K8.out.c1, K8.out.c2, K8.out.c3, K8.out.c4⟩ (fun hHeld => ?_)
  clear hK K'
  try simp only [Act.put, List.setIfInBounds_toArray, List.set_cons_zero, List.set_cons_succ]
  refine wpAnyH_ready (rs := [20]) (by kernel_rfl) (by simp) ?_
  refine AllReadyH.cons (o := { dst := some 70, op := Op.call { callee := Callee.value (Operand.func 16), args := #[Operand.tmp 69], argTypes := #[9] }, type := 4, pos := "law.go:30", after := #[{ on := 19, ground := Ground.data }, { on := 18, ground := Ground.chain }, { on := 16, ground := Ground.guard }], guard := some (16, true) }) rfl (fun K' hK => ?_) AllReadyH.nil
  go_simp
  go_at_call 16; refine (RName_any s w8 (by omega)).mono ?_; rintro e w9 ⟨rfl, nn, hw9⟩
  have hb9 : Below w8.heap.size w8 w9 := (by rw [hw9]; exact below_drewN w8 nn)
  have K9 := Lib.hid (K8.out.next hb9)
  clear hb9 hw9
  refine hK.out _ _ ⟨K9.out.c0, K9.out.c1, K9.out.c2, K9.out.c3, K9.out.c4⟩ (fun hHeld => ?_)
  clear hK K'
  try simp only [Act.put, List.setIfInBounds_toArray, List.set_cons_zero, List.set_cons_succ]
  refine wpAnyH_take (i := 21) (oi := { dst := some 71, op := Op.binOp BinOp.eql 4 (Operand.tmp 68) (Operand.tmp 70) 4, type := 4, pos := "law.go:30", after := #[{ on := 18, ground := Ground.data }, { on := 20, ground := Ground.data }, { on := 16, ground := Ground.guard }], guard := some (16, true) }) (v := ?_) rfl (by kernel_rfl) (by kernel_rfl) (by kernel_rfl) (fun _ _ _ h => h) (Or.inl ⟨by rfl, ?_⟩) (by assumption) ?_
  rotate_left 1
  · intro w' hSw; (try dsimp only at hSw); go_simp; (try with_reducible rfl)
  simp only [Act.put, List.setIfInBounds_toArray, List.set_cons_zero, List.set_cons_succ]
  refine wpAnyH_take (i := 22) (oi := { dst := some 72, op := Op.pick (Operand.tmp 66) (Operand.tmp 71) (Operand.const (Value.bool false)), type := 4, pos := "law.go:30", after := #[{ on := 16, ground := Ground.data }, { on := 21, ground := Ground.data }], guard := none }) (v := ?_) rfl (by kernel_rfl) (by kernel_rfl) (by kernel_rfl) (fun _ _ _ h => h) (Or.inl ⟨by rfl, ?_⟩) (by assumption) ?_
  rotate_left 1
  · intro w' hSw; (try dsimp only at hSw); go_simp; (try with_reducible rfl)
  simp only [Act.put, List.setIfInBounds_toArray, List.set_cons_zero, List.set_cons_succ]
  refine wpAnyH_take (i := 23) (oi := { dst := some 73, op := Op.move (Operand.tmp 72), type := 4, pos := "law.go:30", after := #[{ on := 22, ground := Ground.data }, { on := 20, ground := Ground.chain }], guard := none }) (v := ?_) rfl (by kernel_rfl) (by kernel_rfl) (by kernel_rfl) (fun _ _ _ h => h) (Or.inl ⟨by rfl, ?_⟩) (by assumption) ?_
  rotate_left 1
  · intro w' hSw; (try dsimp only at hSw); go_simp; (try with_reducible rfl)
  simp only [Act.put, List.setIfInBounds_toArray, List.set_cons_zero, List.set_cons_succ]
  refine wpAnyH_take (i := 24) (oi := { dst := some 74, op := Op.move (Operand.tmp 8), type := 3, pos := "law.go:30", after := #[{ on := 23, ground := Ground.guard }], guard := some (23, true) }) (v := ?_) rfl (by kernel_rfl) (by kernel_rfl) (by kernel_rfl) (fun _ _ _ h => h) (Or.inl ⟨by rfl, ?_⟩) (by assumption) ?_
  rotate_left 1
  · intro w' hSw; (try dsimp only at hSw); go_simp; (try with_reducible rfl)
  simp only [Act.put, List.setIfInBounds_toArray, List.set_cons_zero, List.set_cons_succ]
  refine wpAnyH_take (i := 25) (oi := { dst := some 75, op := Op.move (Operand.tmp 10), type := 3, pos := "law.go:30", after := #[{ on := 23, ground := Ground.guard }], guard := some (23, true) }) (v := ?_) rfl (by kernel_rfl) (by kernel_rfl) (by kernel_rfl) (fun _ _ _ h => h) (Or.inl ⟨by rfl, ?_⟩) (by assumption) ?_
  rotate_left 1
  · intro w' hSw; (try dsimp only at hSw); go_simp; (try with_reducible rfl)
  simp only [Act.put, List.setIfInBounds_toArray, List.set_cons_zero, List.set_cons_succ]
  refine wpAnyH_take (i := 26) (oi := { dst := some 76, op := Op.binOp BinOp.eql 3 (Operand.tmp 74) (Operand.tmp 75) 3, type := 4, pos := "law.go:30", after := #[{ on := 24, ground := Ground.data }, { on := 25, ground := Ground.data }, { on := 23, ground := Ground.guard }], guard := some (23, true) }) (v := ?_) rfl (by kernel_rfl) (by kernel_rfl) (by kernel_rfl) (fun _ _ _ h => h) (Or.inl ⟨by rfl, ?_⟩) (by assumption) ?_
  rotate_left 1
  · intro w' hSw; (try dsimp only at hSw); go_simp; (try with_reducible rfl)
  simp only [Act.put, List.setIfInBounds_toArray, List.set_cons_zero, List.set_cons_succ]
  refine wpAnyH_take (i := 27) (oi := { dst := some 77, op := Op.pick (Operand.tmp 73) (Operand.tmp 76) (Operand.const (Value.bool false)), type := 4, pos := "law.go:30", after := #[{ on := 23, ground := Ground.data }, { on := 26, ground := Ground.data }], guard := none }) (v := ?_) rfl (by kernel_rfl) (by kernel_rfl) (by kernel_rfl) (fun _ _ _ h => h) (Or.inl ⟨by rfl, ?_⟩) (by assumption) ?_
  rotate_left 1
  · intro w' hSw; (try dsimp only at hSw); go_simp; (try with_reducible rfl)
  simp only [Act.put, List.setIfInBounds_toArray, List.set_cons_zero, List.set_cons_succ]
  refine wpAnyH_take (i := 28) (oi := { dst := some 78, op := Op.move (Operand.tmp 77), type := 4, pos := "law.go:30", after := #[{ on := 27, ground := Ground.data }, { on := 23, ground := Ground.chain }], guard := none }) (v := ?_) rfl (by kernel_rfl) (by kernel_rfl) (by kernel_rfl) (fun _ _ _ h => h) (Or.inl ⟨by rfl, ?_⟩) (by assumption) ?_
  rotate_left 1
  · intro w' hSw; (try dsimp only at hSw); go_simp; (try with_reducible rfl)
  simp only [Act.put, List.setIfInBounds_toArray, List.set_cons_zero, List.set_cons_succ]
  refine wpAnyH_take (i := 29) (oi := { dst := some 79, op := Op.move (Operand.tmp 9), type := 4, pos := "law.go:30", after := #[{ on := 28, ground := Ground.guard }], guard := some (28, true) }) (v := ?_) rfl (by kernel_rfl) (by kernel_rfl) (by kernel_rfl) (fun _ _ _ h => h) (Or.inl ⟨by rfl, ?_⟩) (by assumption) ?_
  rotate_left 1
  · intro w' hSw; (try dsimp only at hSw); go_simp; (try with_reducible rfl)
  simp only [Act.put, List.setIfInBounds_toArray, List.set_cons_zero, List.set_cons_succ]
  refine wpAnyH_take (i := 30) (oi := { dst := some 80, op := Op.move (Operand.tmp 11), type := 4, pos := "law.go:30", after := #[{ on := 28, ground := Ground.guard }], guard := some (28, true) }) (v := ?_) rfl (by kernel_rfl) (by kernel_rfl) (by kernel_rfl) (fun _ _ _ h => h) (Or.inl ⟨by rfl, ?_⟩) (by assumption) ?_
  rotate_left 1
  · intro w' hSw; (try dsimp only at hSw); go_simp; (try with_reducible rfl)
  simp only [Act.put, List.setIfInBounds_toArray, List.set_cons_zero, List.set_cons_succ]
  refine wpAnyH_take (i := 31) (oi := { dst := some 81, op := Op.binOp BinOp.eql 4 (Operand.tmp 79) (Operand.tmp 80) 4, type := 4, pos := "law.go:30", after := #[{ on := 29, ground := Ground.data }, { on := 30, ground := Ground.data }, { on := 28, ground := Ground.guard }], guard := some (28, true) }) (v := ?_) rfl (by kernel_rfl) (by kernel_rfl) (by kernel_rfl) (fun _ _ _ h => h) (Or.inl ⟨by rfl, ?_⟩) (by assumption) ?_
  rotate_left 1
  · intro w' hSw; (try dsimp only at hSw); go_simp; (try with_reducible rfl)
  simp only [Act.put, List.setIfInBounds_toArray, List.set_cons_zero, List.set_cons_succ]
  refine wpAnyH_take (i := 32) (oi := { dst := some 82, op := Op.pick (Operand.tmp 78) (Operand.tmp 81) (Operand.const (Value.bool false)), type := 4, pos := "law.go:30", after := #[{ on := 28, ground := Ground.data }, { on := 31, ground := Ground.data }], guard := none }) (v := ?_) rfl (by kernel_rfl) (by kernel_rfl) (by kernel_rfl) (fun _ _ _ h => h) (Or.inl ⟨by rfl, ?_⟩) (by assumption) ?_
  rotate_left 1
  · intro w' hSw; (try dsimp only at hSw); go_simp; (try with_reducible rfl)
  simp only [Act.put, List.setIfInBounds_toArray, List.set_cons_zero, List.set_cons_succ]
  refine wpAnyH_take (i := 33) (oi := { dst := some 83, op := Op.move (Operand.tmp 82), type := 4, pos := "law.go:30", after := #[{ on := 32, ground := Ground.data }, { on := 28, ground := Ground.chain }], guard := none }) (v := ?_) rfl (by kernel_rfl) (by kernel_rfl) (by kernel_rfl) (fun _ _ _ h => h) (Or.inl ⟨by rfl, ?_⟩) (by assumption) ?_
  rotate_left 1
  · intro w' hSw; (try dsimp only at hSw); go_simp; (try with_reducible rfl)
  simp only [Act.put, List.setIfInBounds_toArray, List.set_cons_zero, List.set_cons_succ]
  refine wpAnyH_take (i := 34) (oi := { dst := some 84, op := Op.move (Operand.tmp 12), type := 3, pos := "law.go:30", after := #[{ on := 33, ground := Ground.guard }], guard := some (33, true) }) (v := ?_) rfl (by kernel_rfl) (by kernel_rfl) (by kernel_rfl) (fun _ _ _ h => h) (Or.inl ⟨by rfl, ?_⟩) (by assumption) ?_
  rotate_left 1
  · intro w' hSw; (try dsimp only at hSw); go_simp; (try with_reducible rfl)
  simp only [Act.put, List.setIfInBounds_toArray, List.set_cons_zero, List.set_cons_succ]
  refine wpAnyH_take (i := 35) (oi := { dst := some 85, op := Op.move (Operand.tmp 14), type := 3, pos := "law.go:30", after := #[{ on := 33, ground := Ground.guard }], guard := some (33, true) }) (v := ?_) rfl (by kernel_rfl) (by kernel_rfl) (by kernel_rfl) (fun _ _ _ h => h) (Or.inl ⟨by rfl, ?_⟩) (by assumption) ?_
  rotate_left 1
  · intro w' hSw; (try dsimp only at hSw); go_simp; (try with_reducible rfl)
  simp only [Act.put, List.setIfInBounds_toArray, List.set_cons_zero, List.set_cons_succ]
  refine wpAnyH_take (i := 36) (oi := { dst := some 86, op := Op.binOp BinOp.eql 3 (Operand.tmp 84) (Operand.tmp 85) 3, type := 4, pos := "law.go:30", after := #[{ on := 34, ground := Ground.data }, { on := 35, ground := Ground.data }, { on := 33, ground := Ground.guard }], guard := some (33, true) }) (v := ?_) rfl (by kernel_rfl) (by kernel_rfl) (by kernel_rfl) (fun _ _ _ h => h) (Or.inl ⟨by rfl, ?_⟩) (by assumption) ?_
  rotate_left 1
  · intro w' hSw; (try dsimp only at hSw); go_simp; (try with_reducible rfl)
  simp only [Act.put, List.setIfInBounds_toArray, List.set_cons_zero, List.set_cons_succ]
  refine wpAnyH_take (i := 37) (oi := { dst := some 87, op := Op.pick (Operand.tmp 83) (Operand.tmp 86) (Operand.const (Value.bool false)), type := 4, pos := "law.go:30", after := #[{ on := 33, ground := Ground.data }, { on := 36, ground := Ground.data }], guard := none }) (v := ?_) rfl (by kernel_rfl) (by kernel_rfl) (by kernel_rfl) (fun _ _ _ h => h) (Or.inl ⟨by rfl, ?_⟩) (by assumption) ?_
  rotate_left 1
  · intro w' hSw; (try dsimp only at hSw); go_simp; (try with_reducible rfl)
  simp only [Act.put, List.setIfInBounds_toArray, List.set_cons_zero, List.set_cons_succ]
  refine wpAnyH_take (i := 38) (oi := { dst := some 88, op := Op.move (Operand.tmp 87), type := 4, pos := "law.go:30", after := #[{ on := 37, ground := Ground.data }, { on := 33, ground := Ground.chain }], guard := none }) (v := ?_) rfl (by kernel_rfl) (by kernel_rfl) (by kernel_rfl) (fun _ _ _ h => h) (Or.inl ⟨by rfl, ?_⟩) (by assumption) ?_
  rotate_left 1
  · intro w' hSw; (try dsimp only at hSw); go_simp; (try with_reducible rfl)
  simp only [Act.put, List.setIfInBounds_toArray, List.set_cons_zero, List.set_cons_succ]
  refine wpAnyH_take (i := 39) (oi := { dst := some 89, op := Op.move (Operand.tmp 13), type := 4, pos := "law.go:30", after := #[{ on := 38, ground := Ground.guard }], guard := some (38, true) }) (v := ?_) rfl (by kernel_rfl) (by kernel_rfl) (by kernel_rfl) (fun _ _ _ h => h) (Or.inl ⟨by rfl, ?_⟩) (by assumption) ?_
  rotate_left 1
  · intro w' hSw; (try dsimp only at hSw); go_simp; (try with_reducible rfl)
  simp only [Act.put, List.setIfInBounds_toArray, List.set_cons_zero, List.set_cons_succ]
  refine wpAnyH_take (i := 40) (oi := { dst := some 90, op := Op.move (Operand.tmp 15), type := 4, pos := "law.go:30", after := #[{ on := 38, ground := Ground.guard }], guard := some (38, true) }) (v := ?_) rfl (by kernel_rfl) (by kernel_rfl) (by kernel_rfl) (fun _ _ _ h => h) (Or.inl ⟨by rfl, ?_⟩) (by assumption) ?_
  rotate_left 1
  · intro w' hSw; (try dsimp only at hSw); go_simp; (try with_reducible rfl)
  simp only [Act.put, List.setIfInBounds_toArray, List.set_cons_zero, List.set_cons_succ]
  refine wpAnyH_take (i := 41) (oi := { dst := some 91, op := Op.binOp BinOp.eql 4 (Operand.tmp 89) (Operand.tmp 90) 4, type := 4, pos := "law.go:30", after := #[{ on := 39, ground := Ground.data }, { on := 40, ground := Ground.data }, { on := 38, ground := Ground.guard }], guard := some (38, true) }) (v := ?_) rfl (by kernel_rfl) (by kernel_rfl) (by kernel_rfl) (fun _ _ _ h => h) (Or.inl ⟨by rfl, ?_⟩) (by assumption) ?_
  rotate_left 1
  · intro w' hSw; (try dsimp only at hSw); go_simp; (try with_reducible rfl)
  simp only [Act.put, List.setIfInBounds_toArray, List.set_cons_zero, List.set_cons_succ]
  refine wpAnyH_take (i := 42) (oi := { dst := some 92, op := Op.pick (Operand.tmp 88) (Operand.tmp 91) (Operand.const (Value.bool false)), type := 4, pos := "law.go:30", after := #[{ on := 38, ground := Ground.data }, { on := 41, ground := Ground.data }], guard := none }) (v := ?_) rfl (by kernel_rfl) (by kernel_rfl) (by kernel_rfl) (fun _ _ _ h => h) (Or.inl ⟨by rfl, ?_⟩) (by assumption) ?_
  rotate_left 1
  · intro w' hSw; (try dsimp only at hSw); go_simp; (try with_reducible rfl)
  simp only [Act.put, List.setIfInBounds_toArray, List.set_cons_zero, List.set_cons_succ]
  refine wpAnyH_take (i := 43) (oi := { dst := some 93, op := Op.move (Operand.tmp 92), type := 4, pos := "law.go:30", after := #[{ on := 42, ground := Ground.data }, { on := 38, ground := Ground.chain }], guard := none }) (v := ?_) rfl (by kernel_rfl) (by kernel_rfl) (by kernel_rfl) (fun _ _ _ h => h) (Or.inl ⟨by rfl, ?_⟩) (by assumption) ?_
  rotate_left 1
  · intro w' hSw; (try dsimp only at hSw); go_simp; (try with_reducible rfl)
  simp only [Act.put, List.setIfInBounds_toArray, List.set_cons_zero, List.set_cons_succ]
  refine wpAnyH_ready (rs := [44]) (by kernel_rfl) (by simp) ?_
  refine AllReadyH.cons (o := { dst := some 94, op := Op.call { callee := Callee.value (Operand.func 7), args := #[], argTypes := #[] }, type := 4, pos := "law.go:30", after := #[{ on := 43, ground := Ground.chain }, { on := 43, ground := Ground.guard }], guard := some (43, true) }) rfl (fun K' hK => ?_) AllReadyH.nil
  go_simp
  go_at_call 7; refine (live_any w9).mono ?_; rintro e w10 ⟨rfl, hb10⟩
  have K10 := Lib.hid (K9.out.next hb10)
  clear hb10
  refine hK.out _ _ ⟨K10.out.c0, K10.out.c1, K10.out.c2, K10.out.c3, K10.out.c4⟩ (fun hHeld => ?_)
  clear hK K'
  try simp only [Act.put, List.setIfInBounds_toArray, List.set_cons_zero, List.set_cons_succ]
  refine wpAnyH_take (i := 45) (oi := { dst := some 95, op := Op.pick (Operand.tmp 93) (Operand.tmp 94) (Operand.const (Value.bool false)), type := 4, pos := "law.go:30", after := #[{ on := 43, ground := Ground.data }, { on := 44, ground := Ground.data }], guard := none }) (v := ?_) rfl (by kernel_rfl) (by kernel_rfl) (by kernel_rfl) (fun _ _ _ h => h) (Or.inl ⟨by rfl, ?_⟩) (by assumption) ?_
  rotate_left 1
  · intro w' hSw; (try dsimp only at hSw); go_simp; (try with_reducible rfl)
  simp only [Act.put, List.setIfInBounds_toArray, List.set_cons_zero, List.set_cons_succ]
  refine wpAnyH_take (i := 46) (oi := { dst := some 6, op := Op.assign (Operand.tmp 95), type := 4, pos := "law.go:30", after := #[{ on := 45, ground := Ground.data }, { on := 44, ground := Ground.chain }, { on := 0, ground := Ground.phase }, { on := 1, ground := Ground.phase }, { on := 2, ground := Ground.phase }, { on := 3, ground := Ground.phase }, { on := 4, ground := Ground.phase }, { on := 5, ground := Ground.phase }, { on := 6, ground := Ground.phase }, { on := 7, ground := Ground.phase }, { on := 8, ground := Ground.phase }, { on := 9, ground := Ground.phase }, { on := 10, ground := Ground.phase }, { on := 11, ground := Ground.phase }, { on := 12, ground := Ground.phase }, { on := 13, ground := Ground.phase }, { on := 14, ground := Ground.phase }, { on := 15, ground := Ground.phase }, { on := 16, ground := Ground.phase }, { on := 17, ground := Ground.phase }, { on := 18, ground := Ground.phase }, { on := 19, ground := Ground.phase }, { on := 20, ground := Ground.phase }, { on := 21, ground := Ground.phase }, { on := 22, ground := Ground.phase }, { on := 23, ground := Ground.phase }, { on := 24, ground := Ground.phase }, { on := 25, ground := Ground.phase }, { on := 26, ground := Ground.phase }, { on := 27, ground := Ground.phase }, { on := 28, ground := Ground.phase }, { on := 29, ground := Ground.phase }, { on := 30, ground := Ground.phase }, { on := 31, ground := Ground.phase }, { on := 32, ground := Ground.phase }, { on := 33, ground := Ground.phase }, { on := 34, ground := Ground.phase }, { on := 35, ground := Ground.phase }, { on := 36, ground := Ground.phase }, { on := 37, ground := Ground.phase }, { on := 38, ground := Ground.phase }, { on := 39, ground := Ground.phase }, { on := 40, ground := Ground.phase }, { on := 41, ground := Ground.phase }, { on := 42, ground := Ground.phase }, { on := 43, ground := Ground.phase }, { on := 44, ground := Ground.phase }, { on := 45, ground := Ground.phase }], guard := none }) (v := ?_) rfl (by kernel_rfl) (by kernel_rfl) (by kernel_rfl) (fun _ _ _ h => h) (Or.inl ⟨by rfl, ?_⟩) (by assumption) ?_
  rotate_left 1
  · intro w' hSw; (try dsimp only at hSw); go_simp; (try with_reducible rfl)
  simp only [Act.put, List.setIfInBounds_toArray, List.set_cons_zero, List.set_cons_succ]
  refine wpAnyH_done (by kernel_rfl) ?_ _
  go_wp2
  go_ret
  exact ⟨rfl, K10.out.bel⟩
  -- END

set_option maxHeartbeats 2000000 in
theorem CompChecks_no (h : KRd w A n ks) (hn : n ≤ 40) (hl : Lens ks) (hs : s.size ≤ 100) (hm : muchK ks = false)
    (cC : ∀ W, KRd W A n ks → Calls Try.prog 8 #[cv lg pg en gn A n cap] W fun e w' => e = .returned (.int .i64 1) ∧ Below W.heap.size W w')
    (cR : ∀ W, KRd W A n ks → Calls Try.prog 14 #[cv lg pg en gn A n cap] W fun e w' => e = .returned (.bool false) ∧ Below W.heap.size W w') :
    Calls Try.prog 3 #[cv lg pg en gn A n cap, .string s, .int .i64 k] w fun e w' => e = .returned (.bool true) ∧ Below w.heap.size w w' := by
  obtain ⟨w1, hw1⟩ : ∃ w1, w1 = w.alloc (.cells (cc lg pg en gn A n cap) 24) := ⟨_, rfl⟩
  have C1 := CAt.new h lg pg en gn cap
  rw [← hw1] at C1
  obtain ⟨g, hg⟩ : ∃ g, g = w.heap.size := ⟨_, rfl⟩
  rw [← hg] at C1
  have c0 := C1.c0
  have c1 := C1.c1
  have c2 := C1.c2
  have c3 := C1.c3
  have c4 := C1.c4
  have K1 := Lib.hid C1
  have HG := Lib.hid hg
  have HL := Lib.hid hl
  have HM := Lib.hid hm
  have CC := Lib.hid cC
  have CR := Lib.hid cR
  clear h hg C1 hl hm cC cR
  go_enter Try.func3, Try.ntmps3
  go_wp2_with (rw [← hw1, ← HG.out]; clear hw1)
  refine (Much_any lg pg en gn A n cap ks w1 K1.out.rd (by omega) HL.out).mono ?_
  rintro e w2 ⟨rfl, hb2⟩
  rw [HM.out]
  have C2 := K1.out.next hb2
  clear c0 c1 c2 c3 c4 hb2 K1
  have c0 := C2.c0
  have c1 := C2.c1
  have c2 := C2.c2
  have c3 := C2.c3
  have c4 := C2.c4
  have K2 := Lib.hid C2
  clear C2
  go_wp2_with fail
  refine (CC.out w2 K2.out.rd).mono ?_
  rintro e w3 ⟨rfl, hb3⟩
  have C3 := K2.out.next hb3
  clear c0 c1 c2 c3 c4 hb3 K2
  have c0 := C3.c0
  have c1 := C3.c1
  have c2 := C3.c2
  have c3 := C3.c3
  have c4 := C3.c4
  have K3 := Lib.hid C3
  clear C3
  go_wp2_with fail
  refine (Find_any lg pg en gn A n cap ks w3 K3.out.rd (by omega) s).mono ?_
  rintro e w4 ⟨rfl, hb4⟩
  have C4 := K3.out.next hb4
  clear c0 c1 c2 c3 c4 hb4 K3
  have c0 := C4.c0
  have c1 := C4.c1
  have c2 := C4.c2
  have c3 := C4.c3
  have c4 := C4.c4
  have K4 := Lib.hid C4
  clear C4
  go_wp2_with fail
  refine (RFind_any lg pg en gn A n cap ks w4 K4.out.rd (by omega) s).mono ?_
  rintro e w5 ⟨rfl, hb5⟩
  have C5 := K4.out.next hb5
  clear c0 c1 c2 c3 c4 hb5 K4
  have c0 := C5.c0
  have c1 := C5.c1
  have c2 := C5.c2
  have c3 := C5.c3
  have c4 := C5.c4
  have K5 := Lib.hid C5
  clear C5
  go_wp2_with fail
  refine (Size_any lg pg en gn A n cap ks w5 K5.out.rd (by omega) k).mono ?_
  rintro e w6 ⟨rfl, hb6⟩
  have C6 := K5.out.next hb6
  clear c0 c1 c2 c3 c4 hb6 K5
  have c0 := C6.c0
  have c1 := C6.c1
  have c2 := C6.c2
  have c3 := C6.c3
  have c4 := C6.c4
  have K6 := Lib.hid C6
  clear C6
  go_wp2_with fail
  refine (RSize_any lg pg en gn A n cap ks w6 K6.out.rd (by omega) k).mono ?_
  rintro e w7 ⟨rfl, hb7⟩
  have C7 := K6.out.next hb7
  clear c0 c1 c2 c3 c4 hb7 K6
  have c0 := C7.c0
  have c1 := C7.c1
  have c2 := C7.c2
  have c3 := C7.c3
  have c4 := C7.c4
  have K7 := Lib.hid C7
  clear C7
  obtain ⟨fk, hfk⟩ : ∃ fk, fk = findK ks s := ⟨_, rfl⟩
  obtain ⟨sk, hsk⟩ : ∃ sk, sk = sizeK ks k := ⟨_, rfl⟩
  rw [← hfk, ← hsk]
  clear hfk hsk
  obtain ⟨f1, f2⟩ := fk
  obtain ⟨s1, s2⟩ := sk
  go_wp2_with fail
  go_region_held3 (fun W => W.cell? ⟨g, 0, none⟩ = some (.int .i64 lg) ∧ W.cell? ⟨g, 1, none⟩ = some (.int .i64 pg) ∧ W.cell? ⟨g, 2, none⟩ = some (.int .i64 en) ∧ W.cell? ⟨g, 3, none⟩ = some (.int .i64 gn) ∧ W.cell? ⟨g, 4, none⟩ = some (.slice A n cap)) (first
    | with_reducible exact ⟨c0, c1, c2, c3, c4⟩
    | with_reducible exact ⟨c08, c18, c28, c38, c48⟩
    | with_reducible exact ⟨c09, c19, c29, c39, c49⟩
    | with_reducible exact ⟨c010, c110, c210, c310, c410⟩
    | go_keep) (first
    | (go_at_call 13; refine (code_any _ _).mono ?_; rintro e w' ⟨rfl, rfl⟩)
    | (go_at_call 14; refine (CR.out w7.drew (K7.out.rd.below ((Below.refl _ _).drew))).mono ?_; rintro e w8 ⟨rfl, hb8'⟩; have hb8 : Below w7.heap.size w7 w8 := ((Below.refl _ _).drew).trans hb8'; have K8 := Lib.hid (K7.out.next hb8); have c08 := K8.out.c0; have c18 := K8.out.c1; have c28 := K8.out.c2; have c38 := K8.out.c3; have c48 := K8.out.c4; clear hb8 hb8')
    | (go_at_call 15; refine (CName_any s w8 (by omega)).mono ?_; rintro e w' ⟨rfl, rfl⟩)
    | (go_at_call 16; refine (RName_any s w8 (by omega)).mono ?_; rintro e w9 ⟨rfl, nn, hw9⟩; have hb9 : Below w8.heap.size w8 w9 := (by rw [hw9]; exact below_drewN w8 nn); have K9 := Lib.hid (K8.out.next hb9); have c09 := K9.out.c0; have c19 := K9.out.c1; have c29 := K9.out.c2; have c39 := K9.out.c3; have c49 := K9.out.c4; clear hb9 hw9)
    | (go_at_call 7; refine (live_any w9).mono ?_; rintro e w10 ⟨rfl, hb10⟩; have K10 := Lib.hid (K9.out.next hb10); have c010 := K10.out.c0; have c110 := K10.out.c1; have c210 := K10.out.c2; have c310 := K10.out.c3; have c410 := K10.out.c4; clear hb10))
  go_wp2
  go_ret
  exact ⟨rfl, K10.out.bel⟩

theorem CompChecks_any (h : KRd w A n ks) (hn : n ≤ 9223372036854775807) (hl : Lens ks) (hs : s.size ≤ 9223372036854775807) :
    Calls Try.prog 3 #[cv lg pg en gn A n cap, .string s, .int .i64 k] w fun e w' => e = .returned (.bool true) ∧ Below w.heap.size w w' := by
  cases hm : muchK ks
  · by_cases hs1 : 100 < s.size
    · exact CompChecks_much lg pg en gn A n cap ks s k w h hn hl hs (.inr ⟨hm, hs1⟩)
    · have hn4 : n ≤ 40 := by have := (muchK_no hm).1; have := h.1; omega
      by_cases hR : (Cf.mk lg pg en gn ks).Right
      · exact CompChecks_yes lg pg en gn A n cap ks s k w h hn4 hl (by omega) hm
          (fun W hW => (Check_any lg pg en gn A n cap ks W hW (by omega) hl).mono fun e w' ⟨he, hb⟩ => ⟨by rw [he, if_pos hR], hb⟩)
          (fun W hW => (RRight_any lg pg en gn A n cap ks W hW (by omega) hl).mono fun e w' ⟨he, hb⟩ => ⟨by rw [he, decide_eq_true hR], hb⟩)
      · exact CompChecks_no lg pg en gn A n cap ks s k w h hn4 hl (by omega) hm
          (fun W hW => (Check_any lg pg en gn A n cap ks W hW (by omega) hl).mono fun e w' ⟨he, hb⟩ => ⟨by rw [he, if_neg hR], hb⟩)
          (fun W hW => (RRight_any lg pg en gn A n cap ks W hW (by omega) hl).mono fun e w' ⟨he, hb⟩ => ⟨by rw [he, decide_eq_false hR], hb⟩)
  · exact CompChecks_much lg pg en gn A n cap ks s k w h hn hl hs (.inl hm)
end
end Go.Proofs.Ytdaenkfkiijlkaa
