/- FrJ, FrK -/
import Derived.Test.YtlinafnhhnkjnaaQf17
import Derived.Shelf.Abstract
namespace Go.Proofs.Ytlinafnhhnkjnaa
open Go.RowKit
set_option linter.unusedVariables false
set_option linter.unusedSimpArgs false
set_option maxRecDepth 20000
attribute [local go_sem] Oper.semAt_some

theorem FGotP.fault {w w' : World} (er : Int) (hb : Below w.heap.size w w') : FGotP ([], er) w (.returned (.tuple #[.slice none 0 0, .int .i64 er])) w' := ⟨none, 0, 0, rfl, CdsV.nil _ _ _, Nat.le_refl _, hb⟩
/-- The two boxes of the results. -/
structure Res2 (w W : World) (u : Value) (e : Int) : Prop where
  b2 : Boxed W w.heap.size 22 u
  b3 : Boxed W (w.heap.size + 1) 26 (.int .i64 e)
  bl : Below w.heap.size w W
theorem Res2.start (w : World) : Res2 w ((w.alloc (.cells #[.slice none 0 0] 22)).alloc (.cells #[.int .i64 0] 26)) (.slice none 0 0) 0 where
  b2 := (Boxed.new w _ _).alloc _
  b3 := by
    have h := Boxed.new (w.alloc (.cells #[.slice none 0 0] 22)) 26 (.int .i64 0)
    rw [World.size_alloc] at h
    exact h
  bl := ((Below.refl _ _).alloc (Nat.le_refl _) _).alloc (by simp) _
theorem Res2.next {w W W' : World} {u : Value} {e : Int} (h : Res2 w W u e) (hb : Below W.heap.size W W') : Res2 w W' u e := ⟨h.b2.kept (below_row hb) (by simp), h.b3.kept (below_row hb) (by simp), h.bl.trans (hb.mono h.bl.size)⟩
theorem Res2.set {w W : World} {u : Value} {e : Int} (h : Res2 w W u e) (u' : Value) (e' : Int) : Res2 w ((W.setCell ⟨w.heap.size, 0, none⟩ u').setCell ⟨w.heap.size + 1, 0, none⟩ (.int .i64 e')) u' e' :=
  ⟨(h.b2.set u').other (by omega) _, (h.b3.other (by omega) u').set _, (h.bl.setCell (p := ⟨w.heap.size, 0, none⟩) (Nat.le_refl _) _).setCell (p := ⟨w.heap.size + 1, 0, none⟩) (by simp) _⟩
/-- A fault is returned. -/
theorem Res2.ret {w W : World} {u : Value} {e : Int} (h : Res2 w W u e) (tmps : Array Value) (h2 : tmps.getD 2 undef = .pointer (some ⟨w.heap.size, 0, none⟩)) (h3 : tmps.getD 3 undef = .pointer (some ⟨w.heap.size + 1, 0, none⟩)) :
    (results Try.f13 tmps).run Try.prog W = .ok (.tuple #[u, .int .i64 e]) W := by
  have c2 := h.b2.cell
  have c3 := h.b3.cell
  rw [Array.getD_eq_getD_getElem?] at h2 h3
  simp [results, Try.results13, Sem.run_bind, Result.andThen, h2, h3, asAddr, loadVar, go_sem, c2, c3]
section
variable (A : Option Addr) (n c : Nat) (l : List UInt8) (w : World)
set_option maxHeartbeats 1000000 in
theorem GGet_short (hl : l.length = n) (hn : n < 5) : Calls Try.prog 13 #[.slice A n c] w (FGotP (frGet l) w) := by
  have e : frGet l = ([], 12) := by unfold frGet; rw [if_pos (by omega)]
  rw [e]
  obtain ⟨w1, hw1⟩ : ∃ w1, w1 = (w.alloc (.cells #[.slice none 0 0] 22)).alloc (.cells #[.int .i64 0] 26) := ⟨_, rfl⟩
  have R1 := Lib.hid (show Res2 w w1 (.slice none 0 0) 0 by rw [hw1]; exact Res2.start w)
  clear hl e
  go_enter Try.func13, Try.ntmps13
  go_wp2_with (rw [← hw1]; clear hw1; have c2 := R1.out.b2.cell; have f2 := R1.out.b2.frozen; have c3 := R1.out.b3.cell; have f3 := R1.out.b3.frozen)
  exact bodyPost_ret ((R1.out.set (.slice none 0 0) 12).ret _ rfl rfl) rfl (FGotP.fault 12 (R1.out.set (.slice none 0 0) 12).bl)
-- LEAVES (written by gen_frj.py)

set_option maxHeartbeats 4000000 in
theorem GGet_sum (b o q : Nat) (hr : Rd w (some ⟨b, o, none⟩) (q + 4) l) (hlt : b < w.heap.size) (hq : 1 ≤ q) (hq2 : q ≤ 100000) (hc : q + 4 ≤ c) (hcm : c ≤ maxLen) (hs : numB 4 ((sumL (l.take q) : Nat) : Int) ≠ l.drop q) :
    Calls Try.prog 13 #[.slice (some ⟨b, o, none⟩) (q + 4) c] w (FGotP (frGet l) w) := by
  have hl := hr.1
  obtain ⟨inp, hinp⟩ : ∃ i, i = l.take q := ⟨_, rfl⟩
  have hil : inp.length = q := by rw [hinp]; simp; omega
  have hcq : ¬ c = q := by omega
  have hri : Rd w (some ⟨b, o, none⟩) q inp := by
    have h := hr.part (lo := 0) (m := q) (by omega) (some ⟨b, o, none⟩) (fun _ b' o' e => by injection e with e; injection e with e1 e2; rw [e1, e2]; rfl)
    rw [List.drop_zero, ← hinp] at h
    exact h
  have hrt : Rd w (some ⟨b, o + q, none⟩) 4 (l.drop q) := by
    have h := hr.part (lo := q) (m := 4) (by omega) (some ⟨b, o + q, none⟩) (fun _ b' o' e => by injection e with e; injection e with e1 e2; rw [e1, e2])
    rw [List.take_of_length_le (by simp; omega)] at h
    exact h
  obtain ⟨w1, hw1⟩ : ∃ w1, w1 = (w.alloc (.cells #[.slice none 0 0] 22)).alloc (.cells #[.int .i64 0] 26) := ⟨_, rfl⟩
  have R1 := Lib.hid (show Res2 w w1 (.slice none 0 0) 0 by rw [hw1]; exact Res2.start w)
  have CS := Lib.hid (fsum_any (some ⟨b, o, none⟩) q c inp w1.drew ((hri.below (Nat.le_refl _) R1.out.bl).drew) (by omega))
  have hsum := sumL_lt inp
  obtain ⟨sm, hsm⟩ : ∃ s, s = sumL inp := ⟨_, rfl⟩
  rw [← hsm] at CS hsum
  have F : frGet l = if numB 4 (sm : Int) ≠ l.drop q then ([], 11) else if 64 < (l.getD 0 0).toNat then ([], 13) else if (getsL inp (l.getD 0 0).toNat 1).2.1 ≠ 0 then ([], (getsL inp (l.getD 0 0).toNat 1).2.1) else if (getsL inp (l.getD 0 0).toNat 1).2.2 < q then ([], 11) else ((getsL inp (l.getD 0 0).toNat 1).1, 0) := by
    have e : l.length - 4 = q := by omega
    unfold frGet
    rw [e, ← hinp, ← hsm, if_neg (by omega)]
  have HRT := Lib.hid hrt
  have HRI := Lib.hid hri
  have HIL := Lib.hid hil
  have hwq : IntKind.i64.wrap (q : Int) = (q : Int) := IntWalk.i64_in _ (by omega)
  have hqn : (q : Int) ≤ (q : Int) + 4 := by omega
  have hqc : q ≤ c := by omega
  rw [← hinp, ← hsm] at hs
  have HS := Lib.hid hs
  rw [F, if_pos hs]
  clear hr hl hinp hil hri hrt F hs hsm
  go_enter Try.func13, Try.ntmps13
  go_upto_region 3 with (rw [← hw1]; clear hw1)
  refine wp_region_noPanic ?_
  refine wp_region_held_drew (S := fun W => True) (by kernel_rfl) trivial (fun hHeld => ?_)
  refine wpAnyH_take (i := 0) (oi := { dst := some 13, op := Op.move (Operand.tmp 0), type := 25, pos := "frame.go:58", after := #[], guard := none }) (v := ?_) rfl (by kernel_rfl) (by kernel_rfl) (by kernel_rfl) (fun _ _ _ h => h) (Or.inl ⟨by rfl, ?_⟩) (by assumption) ?_
  rotate_left 1
  · intro w' hSw; (try dsimp only at hSw); go_simp; (try with_reducible rfl)
  simp only [Act.put, List.setIfInBounds_toArray, List.set_cons_zero, List.set_cons_succ]
  refine wpAnyH_take (i := 1) (oi := { dst := some 14, op := Op.move (Operand.tmp 0), type := 25, pos := "frame.go:58", after := #[], guard := none }) (v := ?_) rfl (by kernel_rfl) (by kernel_rfl) (by kernel_rfl) (fun _ _ _ h => h) (Or.inl ⟨by rfl, ?_⟩) (by assumption) ?_
  rotate_left 1
  · intro w' hSw; (try dsimp only at hSw); go_simp; (try with_reducible rfl)
  simp only [Act.put, List.setIfInBounds_toArray, List.set_cons_zero, List.set_cons_succ]
  refine wpAnyH_take (i := 2) (oi := { dst := some 15, op := Op.call { callee := Callee.builtin Builtin.len, args := #[Operand.tmp 14], argTypes := #[25] }, type := 3, pos := "frame.go:58", after := #[{ on := 1, ground := Ground.data }], guard := none }) (v := ?_) rfl (by kernel_rfl) (by kernel_rfl) (by kernel_rfl) (fun _ _ _ h => h) (Or.inl ⟨by rfl, ?_⟩) (by assumption) ?_
  rotate_left 1
  · intro w' hSw; (try dsimp only at hSw); go_simp; (try with_reducible rfl)
  simp only [Act.put, List.setIfInBounds_toArray, List.set_cons_zero, List.set_cons_succ]
  refine wpAnyH_take (i := 3) (oi := { dst := some 16, op := Op.binOp BinOp.sub 3 (Operand.tmp 15) (Operand.const (Value.int IntKind.i64 4)) 3, type := 3, pos := "frame.go:58", after := #[{ on := 2, ground := Ground.data }], guard := none }) (v := ?_) rfl (by kernel_rfl) (by kernel_rfl) (by kernel_rfl) (fun _ _ _ h => h) (Or.inl ⟨by rfl, ?_⟩) (by assumption) ?_
  rotate_left 1
  · intro w' hSw; (try dsimp only at hSw); go_simp; (try with_reducible rfl)
  simp only [Act.put, List.setIfInBounds_toArray, List.set_cons_zero, List.set_cons_succ]
  refine wpAnyH_take (i := 4) (oi := { dst := some 17, op := Op.slice 25 (Operand.tmp 13) none (some (Operand.tmp 16)) none, type := 25, pos := "frame.go:58", after := #[{ on := 0, ground := Ground.data }, { on := 3, ground := Ground.data }], guard := none }) (v := ?_) rfl (by kernel_rfl) (by kernel_rfl) (by kernel_rfl) (fun _ _ _ h => h) (Or.inl ⟨by rfl, ?_⟩) (by assumption) ?_
  rotate_left 1
  · intro w' hSw; (try dsimp only at hSw); go_simp; (try with_reducible rfl)
  simp only [Act.put, List.setIfInBounds_toArray, List.set_cons_zero, List.set_cons_succ]
  refine wpAnyH_take (i := 5) (oi := { dst := some 18, op := Op.move (Operand.tmp 0), type := 25, pos := "frame.go:58", after := #[], guard := none }) (v := ?_) rfl (by kernel_rfl) (by kernel_rfl) (by kernel_rfl) (fun _ _ _ h => h) (Or.inl ⟨by rfl, ?_⟩) (by assumption) ?_
  rotate_left 1
  · intro w' hSw; (try dsimp only at hSw); go_simp; (try with_reducible rfl)
  simp only [Act.put, List.setIfInBounds_toArray, List.set_cons_zero, List.set_cons_succ]
  refine wpAnyH_take (i := 6) (oi := { dst := some 19, op := Op.move (Operand.tmp 0), type := 25, pos := "frame.go:58", after := #[], guard := none }) (v := ?_) rfl (by kernel_rfl) (by kernel_rfl) (by kernel_rfl) (fun _ _ _ h => h) (Or.inl ⟨by rfl, ?_⟩) (by assumption) ?_
  rotate_left 1
  · intro w' hSw; (try dsimp only at hSw); go_simp; (try with_reducible rfl)
  simp only [Act.put, List.setIfInBounds_toArray, List.set_cons_zero, List.set_cons_succ]
  refine wpAnyH_take (i := 7) (oi := { dst := some 20, op := Op.call { callee := Callee.builtin Builtin.len, args := #[Operand.tmp 19], argTypes := #[25] }, type := 3, pos := "frame.go:58", after := #[{ on := 6, ground := Ground.data }], guard := none }) (v := ?_) rfl (by kernel_rfl) (by kernel_rfl) (by kernel_rfl) (fun _ _ _ h => h) (Or.inl ⟨by rfl, ?_⟩) (by assumption) ?_
  rotate_left 1
  · intro w' hSw; (try dsimp only at hSw); go_simp; (try with_reducible rfl)
  simp only [Act.put, List.setIfInBounds_toArray, List.set_cons_zero, List.set_cons_succ]
  refine wpAnyH_take (i := 8) (oi := { dst := some 21, op := Op.binOp BinOp.sub 3 (Operand.tmp 20) (Operand.const (Value.int IntKind.i64 4)) 3, type := 3, pos := "frame.go:58", after := #[{ on := 7, ground := Ground.data }], guard := none }) (v := ?_) rfl (by kernel_rfl) (by kernel_rfl) (by kernel_rfl) (fun _ _ _ h => h) (Or.inl ⟨by rfl, ?_⟩) (by assumption) ?_
  rotate_left 1
  · intro w' hSw; (try dsimp only at hSw); go_simp; (try with_reducible rfl)
  simp only [Act.put, List.setIfInBounds_toArray, List.set_cons_zero, List.set_cons_succ]
  refine wpAnyH_take (i := 9) (oi := { dst := some 22, op := Op.slice 25 (Operand.tmp 18) (some (Operand.tmp 21)) none none, type := 25, pos := "frame.go:58", after := #[{ on := 5, ground := Ground.data }, { on := 8, ground := Ground.data }], guard := none }) (v := ?_) rfl (by kernel_rfl) (by kernel_rfl) (by kernel_rfl) (fun _ _ _ h => h) (Or.inl ⟨by rfl, ?_⟩) (by assumption) ?_
  rotate_left 1
  · intro w' hSw; (try dsimp only at hSw); go_simp; (try with_reducible rfl)
  simp only [Act.put, List.setIfInBounds_toArray, List.set_cons_zero, List.set_cons_succ]
  refine wpAnyH_take (i := 10) (oi := { dst := some 4, op := Op.assign (Operand.tmp 17), type := 25, pos := "frame.go:58", after := #[{ on := 4, ground := Ground.data }, { on := 0, ground := Ground.phase }, { on := 1, ground := Ground.phase }, { on := 2, ground := Ground.phase }, { on := 3, ground := Ground.phase }, { on := 4, ground := Ground.phase }, { on := 5, ground := Ground.textOnly Departure.lateStores }, { on := 6, ground := Ground.textOnly Departure.lateStores }, { on := 7, ground := Ground.textOnly Departure.lateStoresUnsure }, { on := 8, ground := Ground.textOnly Departure.lateStores }, { on := 9, ground := Ground.textOnly Departure.lateStoresUnsure }], guard := none }) (v := ?_) rfl (by kernel_rfl) (by kernel_rfl) (by kernel_rfl) (fun _ _ _ h => h) (Or.inl ⟨by rfl, ?_⟩) (by assumption) ?_
  rotate_left 1
  · intro w' hSw; (try dsimp only at hSw); go_simp; (try with_reducible rfl)
  simp only [Act.put, List.setIfInBounds_toArray, List.set_cons_zero, List.set_cons_succ]
  refine wpAnyH_take (i := 11) (oi := { dst := some 5, op := Op.assign (Operand.tmp 22), type := 25, pos := "frame.go:58", after := #[{ on := 9, ground := Ground.data }, { on := 10, ground := Ground.chain }, { on := 0, ground := Ground.phase }, { on := 1, ground := Ground.phase }, { on := 2, ground := Ground.phase }, { on := 3, ground := Ground.phase }, { on := 4, ground := Ground.phase }, { on := 5, ground := Ground.phase }, { on := 6, ground := Ground.phase }, { on := 7, ground := Ground.phase }, { on := 8, ground := Ground.phase }, { on := 9, ground := Ground.phase }, { on := 10, ground := Ground.phase }], guard := none }) (v := ?_) rfl (by kernel_rfl) (by kernel_rfl) (by kernel_rfl) (fun _ _ _ h => h) (Or.inl ⟨by rfl, ?_⟩) (by assumption) ?_
  rotate_left 1
  · intro w' hSw; (try dsimp only at hSw); go_simp; (try with_reducible rfl)
  simp only [Act.put, List.setIfInBounds_toArray, List.set_cons_zero, List.set_cons_succ]
  refine wpAnyH_done (by kernel_rfl) ?_ _
  refine NoPanic.normal ?_
  go_wp2_with (first
    | (go_at_call 23; refine CS.out.mono ?_; rintro e w2 ⟨v2, rfl, ho2, hb2⟩; obtain ⟨A2, c2', rfl, _, _, hr2⟩ := Rd.of_own ho2 rfl; have R2 := Lib.hid (R1.out.next (show Below w1.heap.size w1 w2 from ((Below.refl _ _).drew).trans hb2)); have CE := Equal_any (some ⟨b, o + q, none⟩) A2 4 (c - q) 4 c2' (l.drop q) (numB 4 (sm : Int)) w2 (HRT.out.below (Nat.le_refl _) R2.out.bl) hr2; rw [decide_eq_false (fun e => HS.out e.symm)] at CE; have CE2 := Lib.hid CE; clear ho2 hb2 hr2 CE)
    | (go_at_call 26; refine CE2.out.mono ?_; rintro e w' ⟨rfl, hw'⟩; subst hw'; have c2 := R2.out.b2.cell; have f2 := R2.out.b2.frozen; have c3 := R2.out.b3.cell; have f3 := R2.out.b3.frozen))
  exact bodyPost_ret ((R2.out.set (.slice none 0 0) 11).ret _ rfl rfl) rfl (FGotP.fault 11 (R2.out.set (.slice none 0 0) 11).bl)

set_option maxHeartbeats 4000000 in
theorem GGet_many (b o q : Nat) (hr : Rd w (some ⟨b, o, none⟩) (q + 4) l) (hlt : b < w.heap.size) (hq : 1 ≤ q) (hq2 : q ≤ 100000) (hc : q + 4 ≤ c) (hcm : c ≤ maxLen) (hs : numB 4 ((sumL (l.take q) : Nat) : Int) = l.drop q) (d : Nat) (hd : (l.getD 0 0).toNat = d) (h0 : w.cell? ⟨b, o, none⟩ = some (.int .u8 (d : Int))) (h64 : 64 < d) :
    Calls Try.prog 13 #[.slice (some ⟨b, o, none⟩) (q + 4) c] w (FGotP (frGet l) w) := by
  have hl := hr.1
  obtain ⟨inp, hinp⟩ : ∃ i, i = l.take q := ⟨_, rfl⟩
  have hil : inp.length = q := by rw [hinp]; simp; omega
  have hcq : ¬ c = q := by omega
  have hri : Rd w (some ⟨b, o, none⟩) q inp := by
    have h := hr.part (lo := 0) (m := q) (by omega) (some ⟨b, o, none⟩) (fun _ b' o' e => by injection e with e; injection e with e1 e2; rw [e1, e2]; rfl)
    rw [List.drop_zero, ← hinp] at h
    exact h
  have hrt : Rd w (some ⟨b, o + q, none⟩) 4 (l.drop q) := by
    have h := hr.part (lo := q) (m := 4) (by omega) (some ⟨b, o + q, none⟩) (fun _ b' o' e => by injection e with e; injection e with e1 e2; rw [e1, e2])
    rw [List.take_of_length_le (by simp; omega)] at h
    exact h
  obtain ⟨w1, hw1⟩ : ∃ w1, w1 = (w.alloc (.cells #[.slice none 0 0] 22)).alloc (.cells #[.int .i64 0] 26) := ⟨_, rfl⟩
  have R1 := Lib.hid (show Res2 w w1 (.slice none 0 0) 0 by rw [hw1]; exact Res2.start w)
  have CS := Lib.hid (fsum_any (some ⟨b, o, none⟩) q c inp w1.drew ((hri.below (Nat.le_refl _) R1.out.bl).drew) (by omega))
  have hsum := sumL_lt inp
  obtain ⟨sm, hsm⟩ : ∃ s, s = sumL inp := ⟨_, rfl⟩
  rw [← hsm] at CS hsum
  have F : frGet l = if numB 4 (sm : Int) ≠ l.drop q then ([], 11) else if 64 < (l.getD 0 0).toNat then ([], 13) else if (getsL inp (l.getD 0 0).toNat 1).2.1 ≠ 0 then ([], (getsL inp (l.getD 0 0).toNat 1).2.1) else if (getsL inp (l.getD 0 0).toNat 1).2.2 < q then ([], 11) else ((getsL inp (l.getD 0 0).toNat 1).1, 0) := by
    have e : l.length - 4 = q := by omega
    unfold frGet
    rw [e, ← hinp, ← hsm, if_neg (by omega)]
  have HRT := Lib.hid hrt
  have HRI := Lib.hid hri
  have HIL := Lib.hid hil
  have hwq : IntKind.i64.wrap (q : Int) = (q : Int) := IntWalk.i64_in _ (by omega)
  have hqn : (q : Int) ≤ (q : Int) + 4 := by omega
  have hqc : q ≤ c := by omega
  rw [← hinp, ← hsm] at hs
  have HS := Lib.hid hs
  rw [F, if_neg (fun h => h hs), hd, if_pos h64]
  have hd2 : d < 256 := by rw [← hd]; exact UInt8.toNat_lt _
  have H0 := Lib.hid h0
  clear hr hl hinp hil hri hrt F hs hsm hd h0
  go_enter Try.func13, Try.ntmps13
  go_upto_region 3 with (rw [← hw1]; clear hw1)
  refine wp_region_noPanic ?_
  refine wp_region_held_drew (S := fun W => True) (by kernel_rfl) trivial (fun hHeld => ?_)
  refine wpAnyH_take (i := 0) (oi := { dst := some 13, op := Op.move (Operand.tmp 0), type := 25, pos := "frame.go:58", after := #[], guard := none }) (v := ?_) rfl (by kernel_rfl) (by kernel_rfl) (by kernel_rfl) (fun _ _ _ h => h) (Or.inl ⟨by rfl, ?_⟩) (by assumption) ?_
  rotate_left 1
  · intro w' hSw; (try dsimp only at hSw); go_simp; (try with_reducible rfl)
  simp only [Act.put, List.setIfInBounds_toArray, List.set_cons_zero, List.set_cons_succ]
  refine wpAnyH_take (i := 1) (oi := { dst := some 14, op := Op.move (Operand.tmp 0), type := 25, pos := "frame.go:58", after := #[], guard := none }) (v := ?_) rfl (by kernel_rfl) (by kernel_rfl) (by kernel_rfl) (fun _ _ _ h => h) (Or.inl ⟨by rfl, ?_⟩) (by assumption) ?_
  rotate_left 1
  · intro w' hSw; (try dsimp only at hSw); go_simp; (try with_reducible rfl)
  simp only [Act.put, List.setIfInBounds_toArray, List.set_cons_zero, List.set_cons_succ]
  refine wpAnyH_take (i := 2) (oi := { dst := some 15, op := Op.call { callee := Callee.builtin Builtin.len, args := #[Operand.tmp 14], argTypes := #[25] }, type := 3, pos := "frame.go:58", after := #[{ on := 1, ground := Ground.data }], guard := none }) (v := ?_) rfl (by kernel_rfl) (by kernel_rfl) (by kernel_rfl) (fun _ _ _ h => h) (Or.inl ⟨by rfl, ?_⟩) (by assumption) ?_
  rotate_left 1
  · intro w' hSw; (try dsimp only at hSw); go_simp; (try with_reducible rfl)
  simp only [Act.put, List.setIfInBounds_toArray, List.set_cons_zero, List.set_cons_succ]
  refine wpAnyH_take (i := 3) (oi := { dst := some 16, op := Op.binOp BinOp.sub 3 (Operand.tmp 15) (Operand.const (Value.int IntKind.i64 4)) 3, type := 3, pos := "frame.go:58", after := #[{ on := 2, ground := Ground.data }], guard := none }) (v := ?_) rfl (by kernel_rfl) (by kernel_rfl) (by kernel_rfl) (fun _ _ _ h => h) (Or.inl ⟨by rfl, ?_⟩) (by assumption) ?_
  rotate_left 1
  · intro w' hSw; (try dsimp only at hSw); go_simp; (try with_reducible rfl)
  simp only [Act.put, List.setIfInBounds_toArray, List.set_cons_zero, List.set_cons_succ]
  refine wpAnyH_take (i := 4) (oi := { dst := some 17, op := Op.slice 25 (Operand.tmp 13) none (some (Operand.tmp 16)) none, type := 25, pos := "frame.go:58", after := #[{ on := 0, ground := Ground.data }, { on := 3, ground := Ground.data }], guard := none }) (v := ?_) rfl (by kernel_rfl) (by kernel_rfl) (by kernel_rfl) (fun _ _ _ h => h) (Or.inl ⟨by rfl, ?_⟩) (by assumption) ?_
  rotate_left 1
  · intro w' hSw; (try dsimp only at hSw); go_simp; (try with_reducible rfl)
  simp only [Act.put, List.setIfInBounds_toArray, List.set_cons_zero, List.set_cons_succ]
  refine wpAnyH_take (i := 5) (oi := { dst := some 18, op := Op.move (Operand.tmp 0), type := 25, pos := "frame.go:58", after := #[], guard := none }) (v := ?_) rfl (by kernel_rfl) (by kernel_rfl) (by kernel_rfl) (fun _ _ _ h => h) (Or.inl ⟨by rfl, ?_⟩) (by assumption) ?_
  rotate_left 1
  · intro w' hSw; (try dsimp only at hSw); go_simp; (try with_reducible rfl)
  simp only [Act.put, List.setIfInBounds_toArray, List.set_cons_zero, List.set_cons_succ]
  refine wpAnyH_take (i := 6) (oi := { dst := some 19, op := Op.move (Operand.tmp 0), type := 25, pos := "frame.go:58", after := #[], guard := none }) (v := ?_) rfl (by kernel_rfl) (by kernel_rfl) (by kernel_rfl) (fun _ _ _ h => h) (Or.inl ⟨by rfl, ?_⟩) (by assumption) ?_
  rotate_left 1
  · intro w' hSw; (try dsimp only at hSw); go_simp; (try with_reducible rfl)
  simp only [Act.put, List.setIfInBounds_toArray, List.set_cons_zero, List.set_cons_succ]
  refine wpAnyH_take (i := 7) (oi := { dst := some 20, op := Op.call { callee := Callee.builtin Builtin.len, args := #[Operand.tmp 19], argTypes := #[25] }, type := 3, pos := "frame.go:58", after := #[{ on := 6, ground := Ground.data }], guard := none }) (v := ?_) rfl (by kernel_rfl) (by kernel_rfl) (by kernel_rfl) (fun _ _ _ h => h) (Or.inl ⟨by rfl, ?_⟩) (by assumption) ?_
  rotate_left 1
  · intro w' hSw; (try dsimp only at hSw); go_simp; (try with_reducible rfl)
  simp only [Act.put, List.setIfInBounds_toArray, List.set_cons_zero, List.set_cons_succ]
  refine wpAnyH_take (i := 8) (oi := { dst := some 21, op := Op.binOp BinOp.sub 3 (Operand.tmp 20) (Operand.const (Value.int IntKind.i64 4)) 3, type := 3, pos := "frame.go:58", after := #[{ on := 7, ground := Ground.data }], guard := none }) (v := ?_) rfl (by kernel_rfl) (by kernel_rfl) (by kernel_rfl) (fun _ _ _ h => h) (Or.inl ⟨by rfl, ?_⟩) (by assumption) ?_
  rotate_left 1
  · intro w' hSw; (try dsimp only at hSw); go_simp; (try with_reducible rfl)
  simp only [Act.put, List.setIfInBounds_toArray, List.set_cons_zero, List.set_cons_succ]
  refine wpAnyH_take (i := 9) (oi := { dst := some 22, op := Op.slice 25 (Operand.tmp 18) (some (Operand.tmp 21)) none none, type := 25, pos := "frame.go:58", after := #[{ on := 5, ground := Ground.data }, { on := 8, ground := Ground.data }], guard := none }) (v := ?_) rfl (by kernel_rfl) (by kernel_rfl) (by kernel_rfl) (fun _ _ _ h => h) (Or.inl ⟨by rfl, ?_⟩) (by assumption) ?_
  rotate_left 1
  · intro w' hSw; (try dsimp only at hSw); go_simp; (try with_reducible rfl)
  simp only [Act.put, List.setIfInBounds_toArray, List.set_cons_zero, List.set_cons_succ]
  refine wpAnyH_take (i := 10) (oi := { dst := some 4, op := Op.assign (Operand.tmp 17), type := 25, pos := "frame.go:58", after := #[{ on := 4, ground := Ground.data }, { on := 0, ground := Ground.phase }, { on := 1, ground := Ground.phase }, { on := 2, ground := Ground.phase }, { on := 3, ground := Ground.phase }, { on := 4, ground := Ground.phase }, { on := 5, ground := Ground.textOnly Departure.lateStores }, { on := 6, ground := Ground.textOnly Departure.lateStores }, { on := 7, ground := Ground.textOnly Departure.lateStoresUnsure }, { on := 8, ground := Ground.textOnly Departure.lateStores }, { on := 9, ground := Ground.textOnly Departure.lateStoresUnsure }], guard := none }) (v := ?_) rfl (by kernel_rfl) (by kernel_rfl) (by kernel_rfl) (fun _ _ _ h => h) (Or.inl ⟨by rfl, ?_⟩) (by assumption) ?_
  rotate_left 1
  · intro w' hSw; (try dsimp only at hSw); go_simp; (try with_reducible rfl)
  simp only [Act.put, List.setIfInBounds_toArray, List.set_cons_zero, List.set_cons_succ]
  refine wpAnyH_take (i := 11) (oi := { dst := some 5, op := Op.assign (Operand.tmp 22), type := 25, pos := "frame.go:58", after := #[{ on := 9, ground := Ground.data }, { on := 10, ground := Ground.chain }, { on := 0, ground := Ground.phase }, { on := 1, ground := Ground.phase }, { on := 2, ground := Ground.phase }, { on := 3, ground := Ground.phase }, { on := 4, ground := Ground.phase }, { on := 5, ground := Ground.phase }, { on := 6, ground := Ground.phase }, { on := 7, ground := Ground.phase }, { on := 8, ground := Ground.phase }, { on := 9, ground := Ground.phase }, { on := 10, ground := Ground.phase }], guard := none }) (v := ?_) rfl (by kernel_rfl) (by kernel_rfl) (by kernel_rfl) (fun _ _ _ h => h) (Or.inl ⟨by rfl, ?_⟩) (by assumption) ?_
  rotate_left 1
  · intro w' hSw; (try dsimp only at hSw); go_simp; (try with_reducible rfl)
  simp only [Act.put, List.setIfInBounds_toArray, List.set_cons_zero, List.set_cons_succ]
  refine wpAnyH_done (by kernel_rfl) ?_ _
  refine NoPanic.normal ?_
  go_wp2_with (first
    | (go_at_call 23; refine CS.out.mono ?_; rintro e w2 ⟨v2, rfl, ho2, hb2⟩; obtain ⟨A2, c2', rfl, _, _, hr2⟩ := Rd.of_own ho2 rfl; have R2 := Lib.hid (R1.out.next (show Below w1.heap.size w1 w2 from ((Below.refl _ _).drew).trans hb2)); have CE := Equal_any (some ⟨b, o + q, none⟩) A2 4 (c - q) 4 c2' (l.drop q) (numB 4 (sm : Int)) w2 (HRT.out.below (Nat.le_refl _) R2.out.bl) hr2; rw [decide_eq_true HS.out.symm] at CE; have CE2 := Lib.hid CE; clear ho2 hb2 hr2 CE)
    | (go_at_call 26; refine CE2.out.mono ?_; rintro e w' ⟨rfl, hw'⟩; subst hw'; have c2 := R2.out.b2.cell; have f2 := R2.out.b2.frozen; have c3 := R2.out.b3.cell; have f3 := R2.out.b3.frozen; have q0 : w2.cell? ⟨b, o, none⟩ = some (.int .u8 (d : Int)) := (R2.out.bl.cell (p := ⟨b, o, none⟩) hlt).trans H0.out))
  exact bodyPost_ret ((R2.out.set (.slice none 0 0) 13).ret _ rfl rfl) rfl (FGotP.fault 13 (R2.out.set (.slice none 0 0) 13).bl)
end
end Go.Proofs.Ytlinafnhhnkjnaa
namespace Go.Proofs.Ytlinafnhhnkjnaa
open Go.RowKit
set_option linter.unusedVariables false
set_option maxRecDepth 20000

/-- A turn of a block that holds no cells. -/
def NoCells (W : World) (row : Option Nat) : Prop := ∀ r, row = some r → ∃ o : Obj, W.heap[r]? = some o ∧ o.isCells = false
section
variable {W W' : World} {row : Option Nat}
theorem boxed_kept {B : Nat} {t : TypeId} {v : Value} (h : Boxed W B t v) (hg : W.grownBy W' row) (hr : NoCells W row) : Boxed W' B t v :=
  h.kept hg (fun e => by obtain ⟨o, ho, hc⟩ := hr B e.symm; rw [show W.heap[B]? = _ from h] at ho; cases ho; cases hc)
theorem block_kept {B : Nat} {cs : Array Value} {t : TypeId} {fr : Nat × Nat} (h : W.heap[B]? = some (.cells cs t fr)) (hg : W.grownBy W' row) (hr : NoCells W row) : W'.heap[B]? = some (.cells cs t fr) :=
  (hg.block B (Array.getElem?_eq_some_iff.1 h).1 (fun e => by obtain ⟨o, ho, hc⟩ := hr B e.symm; rw [h] at ho; cases ho; cases hc)).trans h
theorem own_kept {B : Nat} {e : TypeId} {size n : Nat} {v : Value} {xs : List Value} (h : W.ownsRow B e size v n xs) (hg : W.grownBy W' row) (hr : NoCells W row) : W'.ownsRow B e size v n xs := by
  refine h.kept hg ?_
  rcases h.2 with ⟨rfl, _⟩ | ⟨g, cap, cur, rfl, _, hgb, _⟩
  · exact .inl rfl
  · refine .inr fun e' => ?_
    obtain ⟨o, ho, hc⟩ := hr g e'.symm
    rw [hgb] at ho; cases ho; cases hc
theorem vb_kept {K : Nat → Prop} {u : Value} {l : List UInt8} (h : VB K W u l) (hg : W.grownBy W' row) (hr : NoCells W row) : VB K W' u l := by
  obtain ⟨A, m, c, rfl, h1, h2⟩ := h
  exact ⟨A, m, c, rfl, rd_kept h1 hg hr, fun b o e h0 => ⟨(h2 b o e h0).1, Nat.lt_of_lt_of_le (h2 b o e h0).2 hg.size⟩⟩
theorem gr_kept {B : Nat} {v : Value} {vs : List Value} {D : Nat → Prop} {xs : List Cd} (h : Gr ECd 47 6 W B v vs D xs) (hg : W.grownBy W' row) (hr : NoCells W row) : Gr ECd 47 6 W' B v vs D xs :=
  ⟨Nat.le_trans h.Bw hg.size, own_kept h.ow hg hr, h.hd.imp (fun _ _ ⟨A, n, c, e, hu, hc⟩ => ⟨A, n, c, e, vb_kept hu hg hr, hc⟩), fun x hx => ⟨Nat.lt_of_lt_of_le (h.dx x hx).1 hg.size, (h.dx x hx).2⟩⟩
end
/-- Between two rounds. -/
def GetI (w : World) (gl bb : Nat) (sv : Value) (pre : List Gt) (W : World) : Prop :=
  (∃ v vs D, Boxed W gl 22 v ∧ Gr ECd 47 6 W w.heap.size v vs D (pre.map Gt.x)) ∧ Boxed W (gl + 1) 3 (.int .i64 (nxt pre)) ∧ Boxed W bb 25 sv ∧ Res2 w W (.slice none 0 0) 0 ∧ ∀ y ∈ pre, y.e = 0
theorem res2_kept {w W W' : World} {u : Value} {e : Int} {row : Option Nat} (h : Res2 w W u e) (hg : W.grownBy W' row) (hr : NoCells W row) (hB : ∀ r, row = some r → w.heap.size ≤ r) : Res2 w W' u e :=
  ⟨boxed_kept h.b2 hg hr, boxed_kept h.b3 hg hr, h.bl.grown hg h.bl.size hB⟩
theorem GetI.own (w : World) (gl bb : Nat) (sv : Value) (B : Nat) (hB : w.heap.size ≤ B) : OwnFrom B (GetI w gl bb sv) := fun s X Y row h hg hr => by
  obtain ⟨⟨v, vs, D, h1, h2⟩, h3, h4, h5, h6⟩ := h
  have hn : NoCells X row := fun r e => (hr r e).2
  exact ⟨⟨v, vs, D, boxed_kept h1 hg hn, gr_kept h2 hg hn⟩, boxed_kept h3 hg hn, boxed_kept h4 hg hn, res2_kept h5 hg hn (fun r e => Nat.le_trans hB (hr r e).1), h6⟩
/-- Left by a command that is none. -/
def GetX (w : World) (inp : List UInt8) (d : Nat) (c : Code) (_ys : List Gt) (W : World) : Prop := c = .ret ∧ ∃ er : Int, er ≠ 0 ∧ (getsL inp d 1).2.1 = er ∧ Res2 w W (.slice none 0 0) er
theorem GetX.own (w : World) (inp : List UInt8) (d : Nat) (c : Code) (B : Nat) (hB : w.heap.size ≤ B) : OwnFrom B (GetX w inp d c) := fun s X Y row h hg hr => by
  obtain ⟨h1, er, h2, h3, h4⟩ := h
  exact ⟨h1, er, h2, h3, res2_kept h4 hg (fun r e => (hr r e).2) (fun r e => Nat.le_trans hB (hr r e).1)⟩
/-- The round's own box: what came. -/
def GotAx (F : Gt → Nat → Act) (s : Gt × Act) (W : World) : Prop := ∃ Bx, W.heap[Bx]? = some (.cells s.1.cs 59 (0, 0)) ∧ s.2 = F s.1 Bx
theorem GotAx.own (F : Gt → Nat → Act) (B : Nat) : OwnFrom B (GotAx F) := fun s X Y row h hg hr => by
  obtain ⟨Bx, h2, h3⟩ := h
  exact ⟨Bx, block_kept h2 hg (fun r e => (hr r e).2), h3⟩
theorem gt_cells {W : World} {b : Nat} {g : Gt} {fr : Nat × Nat} (h : W.heap[b]? = some (.cells g.cs 59 fr)) :
    W.cell? ⟨b, 0, none⟩ = some (.int .i64 g.x.d) ∧ W.cell? ⟨b, 1, none⟩ = some (.bool g.x.lc) ∧ W.cell? ⟨b, 2, none⟩ = some (.int .i64 g.x.ix) ∧ W.cell? ⟨b, 3, none⟩ = some (.int .i64 g.x.gn) ∧ W.cell? ⟨b, 4, none⟩ = some (.int .i64 g.x.cp) ∧ W.cell? ⟨b, 5, none⟩ = some (.slice g.A g.n g.c) ∧ W.cell? ⟨b, 6, none⟩ = some (.int .i64 g.nx) ∧ W.cell? ⟨b, 7, none⟩ = some (.int .i64 g.e) := by
  refine ⟨?_, ?_, ?_, ?_, ?_, ?_, ?_, ?_⟩ <;> simp [World.cell?, h]
/-- No byte lies in a box of another kind. -/
theorem rd_ne {W : World} {A : Option Addr} {m : Nat} {l : List UInt8} {B : Nat} {t : TypeId} {v : Value} (h : Rd W A m l) (hb : Boxed W B t v) (hv : ∀ k, v ≠ .int .u8 k) {b o : Nat} (hA : A = some ⟨b, o, none⟩) (hm : 0 < m) : b ≠ B := fun e => by
  obtain ⟨b', o', hA', _, hc⟩ := h.2 hm
  rw [hA] at hA'
  injection hA' with h1
  injection h1 with h1 h2
  subst h1 h2 e
  have h0 := hc 0 (by rw [h.1]; exact hm)
  simp only [World.cell?, show W.heap[b]? = _ from hb] at h0
  rcases Nat.eq_zero_or_pos o with ho | ho
  · subst ho
    simp at h0
    exact hv _ h0
  · obtain ⟨h3, _⟩ := Array.getElem?_eq_some_iff.1 h0
    simp at h3
    omega
theorem rd_set {W : World} {A : Option Addr} {m : Nat} {l : List UInt8} {B : Nat} {t : TypeId} {v : Value} (h : Rd W A m l) (hb : Boxed W B t v) (hv : ∀ k, v ≠ .int .u8 k) (u : Value) : Rd (W.setCell ⟨B, 0, none⟩ u) A m l := by
  rcases Nat.eq_zero_or_pos m with h0 | h0
  · exact ⟨h.1, fun h1 => absurd h1 (by omega)⟩
  · exact h.block (grownBy_setCell' W B u).size fun b o hA => Below.heap_setCell _ _ _ _ (rd_ne h hb hv hA h0)
theorem gr_set {W : World} {B n₀ : Nat} {t : TypeId} {v vv : Value} {vs : List Value} {D : Nat → Prop} {xs : List Cd} (h : Gr ECd 47 6 W n₀ vv vs D xs) (hb : Boxed W B t v) (ht : t ≠ 47) (hv : ∀ k, v ≠ .int .u8 k) (u : Value) : Gr ECd 47 6 (W.setCell ⟨B, 0, none⟩ u) n₀ vv vs D xs := by
  have hs := (grownBy_setCell' W B u).size
  refine ⟨Nat.le_trans h.Bw hs, h.ow.kept (grownBy_setCell' W B u) (.inr (hb.not_row ht h.ow).symm), h.hd.imp (fun x r ⟨A, n, c, e, hu, hc⟩ => ⟨A, n, c, e, ?_, hc⟩), fun x hx => ⟨Nat.lt_of_lt_of_le (h.dx x hx).1 hs, (h.dx x hx).2⟩⟩
  obtain ⟨A2, m2, c2, e2, h1, h2⟩ := hu
  exact ⟨A2, m2, c2, e2, rd_set h1 hb hv u, fun b o e h0 => ⟨(h2 b o e h0).1, Nat.lt_of_lt_of_le (h2 b o e h0).2 hs⟩⟩
section
variable {w W w6 w7 : World} {gl bb Bx : Nat} {sv v v7 : Value} {vs : List Value} {D : Nat → Prop} {e0 : Int} {xs : List Cd} {g : Gt}
theorem block_row {B : Nat} {cs : Array Value} {t : TypeId} {fr : Nat × Nat} {n k : Nat} {v : Value} {vs : List Value} (h : w6.heap[B]? = some (.cells cs t fr)) (ht : t ≠ 47) (ho : w6.ownsRow n 47 6 v k vs) : some B ≠ v.ownBlock := by
  rcases ho.2 with ⟨rfl, _⟩ | ⟨g, cap, cur, rfl, _, hgb, _⟩
  · simp [Value.ownBlock]
  · intro e'
    obtain rfl : B = g := by simpa [Value.ownBlock] using e'
    rw [h] at hgb
    simp at hgb
    exact ht hgb.2.1
/-- All that lies still, behind the append. -/
theorem get_seven (hv : Boxed W gl 22 v) (hE : Boxed W (gl + 1) 3 (.int .i64 e0)) (hbb : Boxed W bb 25 sv) (hR : Res2 w W (.slice none 0 0) 0) (hBx : W.heap[Bx]? = some (.cells g.cs 59 (0, 0)))
    (hG : Gr ECd 47 6 W w.heap.size v vs D xs) (hb6 : Below W.heap.size W w6) (hg7 : w6.grownBy w7 v.ownBlock) :
    Boxed w7 gl 22 v ∧ Boxed w7 (gl + 1) 3 (.int .i64 e0) ∧ Boxed w7 bb 25 sv ∧ Res2 w w7 (.slice none 0 0) 0 ∧ w7.heap[Bx]? = some (.cells g.cs 59 (0, 0)) ∧ KeepsOthers W w7 ∧
      ∀ k, k < W.heap.size → (k < w.heap.size ∨ k = bb) → w7.heap[k]? = W.heap[k]? := by
  have G6 := hG.below ECd.ok hb6
  have K : ∀ {B : Nat} {t : TypeId} {u : Value}, Boxed W B t u → t ≠ 47 → Boxed w7 B t u := fun h ht =>
    (h.kept (below_row hb6) (by simp)).kept hg7 (block_row (h.kept (below_row hb6) (by simp)) ht G6.ow)
  have kb : some bb ≠ v.ownBlock := block_row (hbb.kept (below_row hb6) (by simp)) (by decide) G6.ow
  refine ⟨K hv (by decide), K hE (by decide), K hbb (by decide), ⟨K hR.b2 (by decide), K hR.b3 (by decide), hR.bl.trans ((hb6.mono hR.bl.size).trans (below_own G6.ow (Nat.le_trans hR.bl.size hb6.size) hg7))⟩, ?_, ?_, fun k hk hkk => ?_⟩
  · have h6 := below_at hb6 hBx
    exact (hg7.block Bx (Array.getElem?_eq_some_iff.1 h6).1 (block_row h6 (by decide) G6.ow)).trans h6
  · exact (KeepsOthers.of_grownBy (below_row hb6) (fun j o e => by cases e)).trans (own_turn G6.ow hg7)
  · refine (hg7.block k (Nat.lt_of_lt_of_le hk hb6.size) ?_).trans (hb6.block k hk)
    rcases hkk with h1 | rfl
    · intro e'
      have := (own_geB G6.ow e'.symm).1
      omega
    · exact kb
/-- And behind the stores. -/
theorem get_nine {pre : List Gt} {vs7 : List Value} {D7 : Nat → Prop} (hB : w.heap.size + 2 ≤ gl) (hbg : bb ≠ gl ∧ bb ≠ gl + 1) (h7 : Boxed w7 gl 22 v ∧ Boxed w7 (gl + 1) 3 (.int .i64 e0) ∧ Boxed w7 bb 25 sv ∧ Res2 w w7 (.slice none 0 0) 0 ∧ w7.heap[Bx]? = some (.cells g.cs 59 (0, 0)) ∧ KeepsOthers W w7 ∧
      ∀ k, k < W.heap.size → (k < w.heap.size ∨ k = bb) → w7.heap[k]? = W.heap[k]?) (hvs : ∀ k, v ≠ .int .u8 k) (hG : Gr ECd 47 6 w7 w.heap.size v7 vs7 D7 (pre.map Gt.x ++ [g.x])) (hok : ∀ y ∈ pre, y.e = 0) (hge : g.e = 0) (hU : w.heap.size ≤ W.heap.size) (hbW : bb < W.heap.size) (B0 : Nat) :
    KeepsFrom B0 W ((w7.setCell ⟨gl, 0, none⟩ v7).setCell ⟨gl + 1, 0, none⟩ (.int .i64 g.nx)) ∧ WStays (fun k => k < w.heap.size ∨ k = bb) W ((w7.setCell ⟨gl, 0, none⟩ v7).setCell ⟨gl + 1, 0, none⟩ (.int .i64 g.nx)) ∧
      GetI w gl bb sv (pre ++ [g]) ((w7.setCell ⟨gl, 0, none⟩ v7).setCell ⟨gl + 1, 0, none⟩ (.int .i64 g.nx)) := by
  obtain ⟨b7, e7, bb7, r7, x7, k7, s7⟩ := h7
  refine ⟨((k7.trans (KeepsOthers.setCell _ _ _)).trans (KeepsOthers.setCell _ _ _)).from _, ⟨?_, fun k hk => ?_⟩, ?_⟩
  · exact Nat.le_trans k7.size (Nat.le_trans (grownBy_setCell' w7 gl v7).size (grownBy_setCell' _ (gl + 1) _).size)
  · have h1 : k ≠ gl ∧ k ≠ gl + 1 ∧ k < W.heap.size := by rcases hk with h | rfl <;> omega
    exact (Below.heap_setCell _ _ _ _ h1.2.1).trans ((Below.heap_setCell _ _ _ _ h1.1).trans (s7 k h1.2.2 hk))
  · have b8 := b7.set v7
    have e8 := e7.other (B' := gl) (by omega) v7
    refine ⟨⟨v7, vs7, D7, b8.other (by omega) _, ?_⟩, by rw [nxt_snoc]; exact e8.set _, (bb7.other hbg.1 _).other hbg.2 _, ?_, fun y hy => ?_⟩
    · rw [List.map_append]
      exact gr_set (gr_set hG b7 (by decide) hvs v7) e8 (by decide) (fun _ e => by cases e) _
    · exact ⟨(r7.b2.other (by omega) _).other (by omega) _, (r7.b3.other (by omega) _).other (by omega) _, (r7.bl.setCell (p := ⟨gl, 0, none⟩) (show w.heap.size ≤ gl by omega) _).setCell (p := ⟨gl + 1, 0, none⟩) (show w.heap.size ≤ gl + 1 by omega) _⟩
    · rcases List.mem_append.1 hy with h | h
      · exact hok y h
      · rw [List.mem_singleton.1 h]; exact hge
end
end Go.Proofs.Ytlinafnhhnkjnaa
