/- FrL, FrZ -/
import Derived.Test.YtlinafnhhnkjnaaQf18
namespace Go.Proofs.Ytlinafnhhnkjnaa
open Go.RowKit
set_option linter.unusedVariables false
set_option linter.unusedSimpArgs false
set_option maxRecDepth 20000
attribute [local go_sem] Oper.semAt_some
section
variable (A : Option Addr) (n c : Nat) (l : List UInt8) (w : World)

set_option maxHeartbeats 4000000 in
theorem GGet_loop (b o q : Nat) (hr : Rd w (some ⟨b, o, none⟩) (q + 4) l) (hlt : b < w.heap.size) (hq : 1 ≤ q) (hq2 : q ≤ 100000) (hc : q + 4 ≤ c) (hcm : c ≤ maxLen) (hs : numB 4 ((sumL (l.take q) : Nat) : Int) = l.drop q) (d : Nat) (hd : (l.getD 0 0).toNat = d) (h0 : w.cell? ⟨b, o, none⟩ = some (.int .u8 (d : Int))) (h64 : d ≤ 64) :
    Calls Try.prog 13 #[.slice (some ⟨b, o, none⟩) (q + 4) c] w (FGotP (frGet l) w) := by
  have hl := hr.1
  obtain ⟨inp, hinp⟩ : ∃ i, i = l.take q := ⟨_, rfl⟩
  have hil : inp.length = q := by rw [hinp]; simp; omega
  have hcq : ¬ c = q := by omega
  have hri : Rd w (some ⟨b, o, none⟩) q inp := by
    have h := hr.part (lo := 0) (m := q) (by omega) (some ⟨b, o, none⟩) (fun _ b' o' e => by injection e with e; injection e with e1 e2; rw [e1, e2]; rfl)
    rw [List.drop_zero, ← hinp] at h
    exact h
  have hrt : Rd w (some ⟨b, o + q, none⟩) 4 (l.drop q) := by
    have h := hr.part (lo := q) (m := 4) (by omega) (some ⟨b, o + q, none⟩) (fun _ b' o' e => by injection e with e; injection e with e1 e2; rw [e1, e2])
    rw [List.take_of_length_le (by simp; omega)] at h
    exact h
  obtain ⟨w1, hw1⟩ : ∃ w1, w1 = (w.alloc (.cells #[.slice none 0 0] 22)).alloc (.cells #[.int .i64 0] 26) := ⟨_, rfl⟩
  have R1 := Lib.hid (show Res2 w w1 (.slice none 0 0) 0 by rw [hw1]; exact Res2.start w)
  have CS := Lib.hid (fsum_any (some ⟨b, o, none⟩) q c inp w1.drew ((hri.below (Nat.le_refl _) R1.out.bl).drew) (by omega))
  have hsum := sumL_lt inp
  obtain ⟨sm, hsm⟩ : ∃ s, s = sumL inp := ⟨_, rfl⟩
  rw [← hsm] at CS hsum
  have F : frGet l = if numB 4 (sm : Int) ≠ l.drop q then ([], 11) else if 64 < (l.getD 0 0).toNat then ([], 13) else if (getsL inp (l.getD 0 0).toNat 1).2.1 ≠ 0 then ([], (getsL inp (l.getD 0 0).toNat 1).2.1) else if (getsL inp (l.getD 0 0).toNat 1).2.2 < q then ([], 11) else ((getsL inp (l.getD 0 0).toNat 1).1, 0) := by
    have e : l.length - 4 = q := by omega
    unfold frGet
    rw [e, ← hinp, ← hsm, if_neg (by omega)]
  have HRT := Lib.hid hrt
  have HRI := Lib.hid hri
  have HIL := Lib.hid hil
  have hwq : IntKind.i64.wrap (q : Int) = (q : Int) := IntWalk.i64_in _ (by omega)
  have hqn : (q : Int) ≤ (q : Int) + 4 := by omega
  have hqc : q ≤ c := by omega
  rw [← hinp, ← hsm] at hs
  have HS := Lib.hid hs
  rw [F, if_neg (fun h => h hs), hd, if_neg (by omega)]
  obtain ⟨res, hres⟩ : ∃ r, r = (if (getsL inp d 1).2.1 ≠ 0 then (([], (getsL inp d 1).2.1) : List Cd × Int) else if (getsL inp d 1).2.2 < q then ([], 11) else ((getsL inp d 1).1, 0)) := ⟨_, rfl⟩
  rw [← hres]
  have HRES := Lib.hid hres
  have H0 := Lib.hid h0
  clear hr hl hinp hil hri hrt F hs hsm hd h0 hres
  refine calls_of_wp_marks Try.func13 rfl ?_
  simp only [Try.ntmps13, List.size_toArray, List.length_cons, List.length_nil, Nat.reduceAdd, Nat.reduceSub, Array.replicate_succ, Array.replicate_zero, List.push_toArray, List.append_toArray, List.nil_append, List.cons_append]
  go_upto_region 3 with (rw [← hw1]; clear hw1)
  refine wp_region_noPanic ?_
  refine wp_region_held_drew (S := fun W => True) (by kernel_rfl) trivial (fun hHeld => ?_)
  refine wpAnyH_take (i := 0) (oi := { dst := some 13, op := Op.move (Operand.tmp 0), type := 25, pos := "frame.go:58", after := #[], guard := none }) (v := ?_) rfl (by kernel_rfl) (by kernel_rfl) (by kernel_rfl) (fun _ _ _ h => h) (Or.inl ⟨by rfl, ?_⟩) (by assumption) ?_
  rotate_left 1
  · intro w' hSw; (try dsimp only at hSw); go_simp; (try with_reducible rfl)
  simp only [Act.put, List.setIfInBounds_toArray, List.set_cons_zero, List.set_cons_succ]
  refine wpAnyH_take (i := 1) (oi := { dst := some 14, op := Op.move (Operand.tmp 0), type := 25, pos := "frame.go:58", after := #[], guard := none }) (v := ?_) rfl (by kernel_rfl) (by kernel_rfl) (by kernel_rfl) (fun _ _ _ h => h) (Or.inl ⟨by rfl, ?_⟩) (by assumption) ?_
  rotate_left 1
  · intro w' hSw; (try dsimp only at hSw); go_simp; (try with_reducible rfl)
  simp only [Act.put, List.setIfInBounds_toArray, List.set_cons_zero, List.set_cons_succ]
  refine wpAnyH_take (i := 2) (oi := { dst := some 15, op := Op.call { callee := Callee.builtin Builtin.len, args := #[Operand.tmp 14], argTypes := #[25] }, type := 3, pos := "frame.go:58", after := #[{ on := 1, ground := Ground.data }], guard := none }) (v := ?_) rfl (by kernel_rfl) (by kernel_rfl) (by kernel_rfl) (fun _ _ _ h => h) (Or.inl ⟨by rfl, ?_⟩) (by assumption) ?_
  rotate_left 1
  · intro w' hSw; (try dsimp only at hSw); go_simp; (try with_reducible rfl)
  simp only [Act.put, List.setIfInBounds_toArray, List.set_cons_zero, List.set_cons_succ]
  refine wpAnyH_take (i := 3) (oi := { dst := some 16, op := Op.binOp BinOp.sub 3 (Operand.tmp 15) (Operand.const (Value.int IntKind.i64 4)) 3, type := 3, pos := "frame.go:58", after := #[{ on := 2, ground := Ground.data }], guard := none }) (v := ?_) rfl (by kernel_rfl) (by kernel_rfl) (by kernel_rfl) (fun _ _ _ h => h) (Or.inl ⟨by rfl, ?_⟩) (by assumption) ?_
  rotate_left 1
  · intro w' hSw; (try dsimp only at hSw); go_simp; (try with_reducible rfl)
  simp only [Act.put, List.setIfInBounds_toArray, List.set_cons_zero, List.set_cons_succ]
  refine wpAnyH_take (i := 4) (oi := { dst := some 17, op := Op.slice 25 (Operand.tmp 13) none (some (Operand.tmp 16)) none, type := 25, pos := "frame.go:58", after := #[{ on := 0, ground := Ground.data }, { on := 3, ground := Ground.data }], guard := none }) (v := ?_) rfl (by kernel_rfl) (by kernel_rfl) (by kernel_rfl) (fun _ _ _ h => h) (Or.inl ⟨by rfl, ?_⟩) (by assumption) ?_
  rotate_left 1
  · intro w' hSw; (try dsimp only at hSw); go_simp; (try with_reducible rfl)
  simp only [Act.put, List.setIfInBounds_toArray, List.set_cons_zero, List.set_cons_succ]
  refine wpAnyH_take (i := 5) (oi := { dst := some 18, op := Op.move (Operand.tmp 0), type := 25, pos := "frame.go:58", after := #[], guard := none }) (v := ?_) rfl (by kernel_rfl) (by kernel_rfl) (by kernel_rfl) (fun _ _ _ h => h) (Or.inl ⟨by rfl, ?_⟩) (by assumption) ?_
  rotate_left 1
  · intro w' hSw; (try dsimp only at hSw); go_simp; (try with_reducible rfl)
  simp only [Act.put, List.setIfInBounds_toArray, List.set_cons_zero, List.set_cons_succ]
  refine wpAnyH_take (i := 6) (oi := { dst := some 19, op := Op.move (Operand.tmp 0), type := 25, pos := "frame.go:58", after := #[], guard := none }) (v := ?_) rfl (by kernel_rfl) (by kernel_rfl) (by kernel_rfl) (fun _ _ _ h => h) (Or.inl ⟨by rfl, ?_⟩) (by assumption) ?_
  rotate_left 1
  · intro w' hSw; (try dsimp only at hSw); go_simp; (try with_reducible rfl)
  simp only [Act.put, List.setIfInBounds_toArray, List.set_cons_zero, List.set_cons_succ]
  refine wpAnyH_take (i := 7) (oi := { dst := some 20, op := Op.call { callee := Callee.builtin Builtin.len, args := #[Operand.tmp 19], argTypes := #[25] }, type := 3, pos := "frame.go:58", after := #[{ on := 6, ground := Ground.data }], guard := none }) (v := ?_) rfl (by kernel_rfl) (by kernel_rfl) (by kernel_rfl) (fun _ _ _ h => h) (Or.inl ⟨by rfl, ?_⟩) (by assumption) ?_
  rotate_left 1
  · intro w' hSw; (try dsimp only at hSw); go_simp; (try with_reducible rfl)
  simp only [Act.put, List.setIfInBounds_toArray, List.set_cons_zero, List.set_cons_succ]
  refine wpAnyH_take (i := 8) (oi := { dst := some 21, op := Op.binOp BinOp.sub 3 (Operand.tmp 20) (Operand.const (Value.int IntKind.i64 4)) 3, type := 3, pos := "frame.go:58", after := #[{ on := 7, ground := Ground.data }], guard := none }) (v := ?_) rfl (by kernel_rfl) (by kernel_rfl) (by kernel_rfl) (fun _ _ _ h => h) (Or.inl ⟨by rfl, ?_⟩) (by assumption) ?_
  rotate_left 1
  · intro w' hSw; (try dsimp only at hSw); go_simp; (try with_reducible rfl)
  simp only [Act.put, List.setIfInBounds_toArray, List.set_cons_zero, List.set_cons_succ]
  refine wpAnyH_take (i := 9) (oi := { dst := some 22, op := Op.slice 25 (Operand.tmp 18) (some (Operand.tmp 21)) none none, type := 25, pos := "frame.go:58", after := #[{ on := 5, ground := Ground.data }, { on := 8, ground := Ground.data }], guard := none }) (v := ?_) rfl (by kernel_rfl) (by kernel_rfl) (by kernel_rfl) (fun _ _ _ h => h) (Or.inl ⟨by rfl, ?_⟩) (by assumption) ?_
  rotate_left 1
  · intro w' hSw; (try dsimp only at hSw); go_simp; (try with_reducible rfl)
  simp only [Act.put, List.setIfInBounds_toArray, List.set_cons_zero, List.set_cons_succ]
  refine wpAnyH_take (i := 10) (oi := { dst := some 4, op := Op.assign (Operand.tmp 17), type := 25, pos := "frame.go:58", after := #[{ on := 4, ground := Ground.data }, { on := 0, ground := Ground.phase }, { on := 1, ground := Ground.phase }, { on := 2, ground := Ground.phase }, { on := 3, ground := Ground.phase }, { on := 4, ground := Ground.phase }, { on := 5, ground := Ground.textOnly Departure.lateStores }, { on := 6, ground := Ground.textOnly Departure.lateStores }, { on := 7, ground := Ground.textOnly Departure.lateStoresUnsure }, { on := 8, ground := Ground.textOnly Departure.lateStores }, { on := 9, ground := Ground.textOnly Departure.lateStoresUnsure }], guard := none }) (v := ?_) rfl (by kernel_rfl) (by kernel_rfl) (by kernel_rfl) (fun _ _ _ h => h) (Or.inl ⟨by rfl, ?_⟩) (by assumption) ?_
  rotate_left 1
  · intro w' hSw; (try dsimp only at hSw); go_simp; (try with_reducible rfl)
  simp only [Act.put, List.setIfInBounds_toArray, List.set_cons_zero, List.set_cons_succ]
  refine wpAnyH_take (i := 11) (oi := { dst := some 5, op := Op.assign (Operand.tmp 22), type := 25, pos := "frame.go:58", after := #[{ on := 9, ground := Ground.data }, { on := 10, ground := Ground.chain }, { on := 0, ground := Ground.phase }, { on := 1, ground := Ground.phase }, { on := 2, ground := Ground.phase }, { on := 3, ground := Ground.phase }, { on := 4, ground := Ground.phase }, { on := 5, ground := Ground.phase }, { on := 6, ground := Ground.phase }, { on := 7, ground := Ground.phase }, { on := 8, ground := Ground.phase }, { on := 9, ground := Ground.phase }, { on := 10, ground := Ground.phase }], guard := none }) (v := ?_) rfl (by kernel_rfl) (by kernel_rfl) (by kernel_rfl) (fun _ _ _ h => h) (Or.inl ⟨by rfl, ?_⟩) (by assumption) ?_
  rotate_left 1
  · intro w' hSw; (try dsimp only at hSw); go_simp; (try with_reducible rfl)
  simp only [Act.put, List.setIfInBounds_toArray, List.set_cons_zero, List.set_cons_succ]
  refine wpAnyH_done (by kernel_rfl) ?_ _
  refine NoPanic.normal ?_
  go_wp2_with (first
    | (go_at_call 23; refine CS.out.mono ?_; rintro e w2 ⟨v2, rfl, ho2, hb2⟩; obtain ⟨A2, c2', rfl, _, _, hr2⟩ := Rd.of_own ho2 rfl; have R2 := Lib.hid (R1.out.next (show Below w1.heap.size w1 w2 from ((Below.refl _ _).drew).trans hb2)); have CE := Equal_any (some ⟨b, o + q, none⟩) A2 4 (c - q) 4 c2' (l.drop q) (numB 4 (sm : Int)) w2 (HRT.out.below (Nat.le_refl _) R2.out.bl) hr2; rw [decide_eq_true HS.out.symm] at CE; have CE2 := Lib.hid CE; clear ho2 hb2 hr2 CE)
    | (go_at_call 26; refine CE2.out.mono ?_; rintro e w' ⟨rfl, hw'⟩; subst hw'; obtain ⟨w3, hw3⟩ : ∃ w3, w3 = (w2.alloc (.cells #[.slice none 0 0] 22)).alloc (.cells #[.int .i64 1] 3) := ⟨_, rfl⟩; have c2 := R2.out.b2.cell; have f2 := R2.out.b2.frozen; have c3 := R2.out.b3.cell; have f3 := R2.out.b3.frozen; have q0 : w2.cell? ⟨b, o, none⟩ = some (.int .u8 (d : Int)) := (R2.out.bl.cell (p := ⟨b, o, none⟩) hlt).trans H0.out)
    | (rw [← hw3])
    | (go_at_call 27; refine (commands_any (some ⟨b, o, none⟩) q c d w3).mono ?_; rintro e w5 ⟨rfl, hw5⟩))
  rw [← hw5]
  obtain ⟨gl, hgl⟩ : ∃ g, g = w2.heap.size := ⟨_, rfl⟩
  have s3 : w3.heap.size = gl + 2 := by rw [hw3, hgl]; simp
  have s5 : w5.heap.size = gl + 4 := by rw [hw5]; simp; omega
  have hwg : w.heap.size + 2 ≤ gl := by rw [hgl]; have := R2.out.b3.lt; omega
  have B3l : Boxed w3 gl 22 (.slice none 0 0) := by rw [hw3, hgl]; exact (Boxed.new w2 _ _).alloc _
  have B3e : Boxed w3 (gl + 1) 3 (.int .i64 1) := by
    have h := Boxed.new (w2.alloc (.cells #[.slice none 0 0] 22)) 3 (.int .i64 1)
    rw [World.size_alloc, ← hgl, ← hw3] at h
    exact h
  have b23 : Below w2.heap.size w2 w3 := by rw [hw3]; exact ((Below.refl _ _).alloc (Nat.le_refl _) _).alloc (by simp) _
  have b35 : Below w3.heap.size w3 w5 := by rw [hw5]; exact ((Below.refl _ _).alloc (Nat.le_refl _) _).alloc (by simp) _
  have R5 := (R2.out.next b23).next b35
  have B5l := B3l.kept (below_row b35) (by simp)
  have B5e := B3e.kept (below_row b35) (by simp)
  have B5b : Boxed w5 (gl + 2) 25 (.slice (some ⟨b, o, none⟩) q c) := by
    have h := (Boxed.new w3 25 (.slice (some ⟨b, o, none⟩) q c)).alloc (.cells #[.int .i64 d] 3)
    rw [← hw5, s3] at h
    exact h
  have B5d : Boxed w5 (gl + 3) 3 (.int .i64 d) := by
    have h := Boxed.new (w3.alloc (.cells #[.slice (some ⟨b, o, none⟩) q c] 25)) 3 (.int .i64 d)
    rw [World.size_alloc, s3, ← hw5] at h
    exact h
  have RI5 := HRI.out.below (Nat.le_refl _) R5.bl
  rw [← hgl]
  clear hgl hw3 hw5 c2 f2 c3 f3 q0 b23 b35 B3l B3e
  refine wp_rangeFunc_memA (gf := 41) (lb := #[.pointer (some ⟨gl + 3, 0, none⟩), .pointer (some ⟨gl + 2, 0, none⟩)]) rfl (enters_of Try.func41 (by kernel_rfl) rfl) (encs := Gt.enc) (fun _ => rfl) (fun N => GtAt.own inp d _ N) (Kp := fun k => k < w.heap.size ∨ k = gl + 2) (fun k hk => by omega)
    (fun W hW => commands_seq (fun k => k < w.heap.size ∨ k = gl + 2) (gl + 3) (gl + 2) (some ⟨b, o, none⟩) q c d inp W (fun k hk => by have := hW.size; omega) ((hW.cell (p := ⟨gl + 3, 0, none⟩) (by show gl + 3 < _; omega)).trans B5d.cell) ((hW.cell (p := ⟨gl + 2, 0, none⟩) (by show gl + 2 < _; omega)).trans B5b.cell) (.inr rfl) (RI5.below (Nat.le_refl _) hW) (fun b' o' e => by injection e with e; injection e with e1 e2; subst e1; exact .inl hlt) hq (by omega) hqc hcm (by omega))
    (GetI w gl (gl + 2) (.slice (some ⟨b, o, none⟩) q c)) (GetX w inp d) (GetI.own w gl _ _ _ (by omega)) (fun cd => GetX.own w inp d cd _ (by omega))
    ⟨⟨_, [], fun _ => False, B5l, Gr.start (World.ownsRow_nil _ _ _ _) R5.bl.size⟩, B5e, B5b, R5, fun _ h => absurd h List.not_mem_nil⟩
    (Ax := GotAx (fun g Bx => { tmps := #[.slice (some ⟨b, o, none⟩) (q + 4) c, undef, .pointer (some ⟨w.heap.size, 0, none⟩), .pointer (some ⟨w.heap.size + 1, 0, none⟩), .slice (some ⟨b, o, none⟩) q c, .slice (some ⟨b, o + q, none⟩) 4 (c - q), .int .i64 d, .pointer (some ⟨gl, 0, none⟩), .pointer (some ⟨gl + 1, 0, none⟩), .pointer (some ⟨Bx, 0, none⟩),
      .slice (some ⟨b, o, none⟩) (q + 4) c, .int .i64 (q + 4), .bool (decide ((q : Int) + 4 < 5)), .slice (some ⟨b, o, none⟩) (q + 4) c, .slice (some ⟨b, o, none⟩) (q + 4) c, .int .i64 (q + 4), .int .i64 q, .slice (some ⟨b, o, none⟩) q c, .slice (some ⟨b, o, none⟩) (q + 4) c, .slice (some ⟨b, o, none⟩) (q + 4) c, .int .i64 (q + 4), .int .i64 q, .slice (some ⟨b, o + q, none⟩) 4 (c - q), .slice (some ⟨b, o + q, none⟩) 4 (c - q),
      .slice (some ⟨b, o, none⟩) q c, .slice A2 4 c2', .bool true, .bool false, .slice (some ⟨b, o, none⟩) q c, .pointer (some ⟨b, o, none⟩), .int .u8 d, .int .i64 d, .int .i64 d, .bool (decide (64 < (d : Int))), .slice (some ⟨b, o, none⟩) q c, .int .i64 d, .func (.func 41) #[] #[.pointer (some ⟨gl + 3, 0, none⟩), .pointer (some ⟨gl + 2, 0, none⟩)], .agg g.cs] ++ Array.replicate 17 undef, defers := [] })) (GotAx.own _ _) ?assign ?body ?done ?stop
  case assign =>
    intro lid g W K hK
    simp only [Array.replicate_succ, Array.replicate_zero, List.push_toArray, List.append_toArray, List.nil_append, List.cons_append] at hK
    gi_wp2
    exact hK _ _ ((Below.refl _ _).alloc (Nat.le_refl _) _) ⟨W.heap.size, World.alloc_heap_new W _, rfl⟩
  case stop =>
    rintro D cd ys W hD _ ⟨rfl, er, her, hge, hR⟩ hK
    have HRet := Lib.hid (res2_kept hR (grownBy_putObj' W D (.deferred none)) (fun r e => by cases e; exact ⟨_, hK, rfl⟩) (fun r e => by injection e with e; omega))
    have HK := Lib.hid hK
    have HE := Lib.hid (And.intro her hge)
    clear hR hK her hge
    go_wp2
    refine ⟨by simp, .inl ⟨_, _, rfl, run_takeDeferred HK.out, ?_⟩⟩
    refine ⟨_, HRet.out.ret _ rfl rfl, ?_⟩
    rw [HRES.out, if_pos (by rw [HE.out.2]; exact HE.out.1), HE.out.2]
    exact FGotP.fault er HRet.out.bl
  case done =>
    rintro D ys W hD hS ⟨⟨v, vs, DD, hv, hG⟩, hE, hbb, hR, hok⟩ hK
    rcases hS with ⟨a, hpre, hlen⟩ | ⟨y, hy, hne⟩
    rotate_left 1
    · exact absurd (hok y hy) hne
    obtain ⟨XS, hXS⟩ : ∃ XS, XS = ys.map Gt.x := ⟨_, rfl⟩
    have hdn := hpre.done hlen
    rw [← hXS] at hdn hG
    have HDN := Lib.hid hdn
    clear hXS hdn
    have cE := hE.cell
    rw [hpre.at_] at cE
    have haq : a ≤ q := by have := hpre.le; have := HIL.out; omega
    have cl := hv.cell
    have c2 := hR.b2.cell
    have f2 := hR.b2.frozen
    have c3 := hR.b3.cell
    have f3 := hR.b3.frozen
    have HRR := Lib.hid hR
    have HK := Lib.hid hK
    have HG := Lib.hid hG
    have HSD := Lib.hid (show w.heap.size ≤ D by omega)
    have ks : ∀ (u : Value) (e : Int), ((W.setCell ⟨w.heap.size, 0, none⟩ u).setCell ⟨w.heap.size + 1, 0, none⟩ (.int .i64 e)).heap[D]? = some (.deferred (some [])) := fun u e => ((KeepsOthers.setCell W ⟨w.heap.size, 0, none⟩ u).trans (KeepsOthers.setCell _ ⟨w.heap.size + 1, 0, none⟩ (.int .i64 e))).same D _ HK.out rfl
    have KS := Lib.hid ks
    have rt : ∀ (u : Value) (e : Int), Res2 w (((W.setCell ⟨w.heap.size, 0, none⟩ u).setCell ⟨w.heap.size + 1, 0, none⟩ (.int .i64 e)).putObj D (.deferred none)) u e := fun u e => res2_kept (HRR.out.set u e) (grownBy_putObj' _ D (.deferred none)) (fun r h => by cases h; exact ⟨_, KS.out u e, rfl⟩) (fun r h => by injection h with h; have := HSD.out; omega)
    have RT := Lib.hid rt
    clear hv hG hE hbb hR hok hK hpre hlen ks rt hD B5l B5e B5b B5d RI5 R5
    by_cases hend : a < q
    · go_wp2
      refine ⟨by simp, .inl ⟨_, _, rfl, run_takeDeferred (KS.out _ _), ?_⟩⟩
      refine ⟨_, (RT.out _ _).ret _ rfl rfl, ?_⟩
      rw [HRES.out, HDN.out]
      simp only [ne_eq, not_true_eq_false, if_false]
      rw [if_pos hend]
      exact FGotP.fault 11 (RT.out (.slice none 0 0) 11).bl
    · have hge : ¬ (a : Int) < q := by omega
      have G1 := gr_kept (gr_set (gr_set HG.out HRR.out.b2 (by decide) (fun _ e => by cases e) v) (HRR.out.b3.other (by omega) v) (by decide) (fun _ e => by cases e) (.int .i64 0)) (grownBy_putObj' _ D (.deferred none)) (fun r h => by cases h; exact ⟨_, KS.out v 0, rfl⟩)
      obtain ⟨A9, c9, hov, hc9, _, hrw⟩ := G1.rows ECd.ok
      have HRW := Lib.hid (And.intro hc9 hrw)
      subst hov
      clear G1 hrw hc9
      go_wp2
      refine ⟨by simp, .inl ⟨_, _, rfl, run_takeDeferred (KS.out _ _), ?_⟩⟩
      refine ⟨_, (RT.out _ _).ret _ rfl rfl, ?_⟩
      rw [HRES.out, HDN.out]
      simp only [ne_eq, not_true_eq_false, if_false]
      rw [if_neg hend]
      exact ⟨A9, _, c9, rfl, CdsV.mono HRW.out.2 (fun _ _ => trivial), HRW.out.1, (RT.out _ _).bl⟩
  case body =>
    rintro lid pre ⟨x, A', m, cc, nx, er⟩ _ W0 W ⟨Bx, hBx, hact⟩ ⟨⟨v0, vs0, D0, hv0, hG0⟩, _⟩ hs0 hc0 ⟨a, hpre, hpl, hx, he, hnx, hrd, hncc, hnew⟩ ⟨⟨v, vs, DD, hv, hG⟩, hE, hbb, hR, hok⟩
    simp only at hact
    subst hact
    simp only [Array.replicate_succ, Array.replicate_zero, List.push_toArray, List.append_toArray, List.nil_append, List.cons_append]
    simp only at hx he hnx hrd hncc hnew hpl
    obtain rfl : v = v0 := by
      have h := hc0 gl _ hv0 rfl
      rw [show W.heap[gl]? = _ from hv] at h
      simpa using h
    have c7 := (gt_cells hBx).2.2.2.2.2.2.2
    simp only at c7
    by_cases her : er = 0
    · have hpl64 : pre.length + 1 ≤ 65 := by omega
      have hown : ∀ k, v.ownBlock = some k → k < W0.heap.size := fun k hk => (own_geB hG0.ow hk).2
      have hEd : ECd (fun y => W0.heap.size ≤ y) W x (x.cs A' m cc).toList := ⟨A', m, cc, rfl, ⟨A', m, cc, rfl, hrd, fun b' o' e hm => ⟨hnew b' o' e hm, by obtain ⟨b2, o2, e2, hl2, _⟩ := hrd.2 hm; rw [e] at e2; injection e2 with e2; injection e2 with e3 e4; omega⟩⟩, hncc⟩
      have hvs : ∀ k, v ≠ .int .u8 k := fun k e => by
        rcases hG.ow.2 with ⟨h, _⟩ | ⟨_, _, _, h, _⟩ <;> rw [h] at e <;> cases e
      have hU : w.heap.size ≤ W.heap.size := hR.bl.size
      have hbW : gl + 2 < W.heap.size := hbb.lt
      obtain ⟨PS, hPS⟩ : ∃ PS, PS = pre.map Gt.x := ⟨_, rfl⟩
      rw [← hPS] at hG
      have HPS := Lib.hid hPS
      have HV := Lib.hid (And.intro hv (And.intro hE (And.intro hbb (And.intro hR (And.intro hBx hG)))))
      have HOW := Lib.hid (And.intro hown (And.intro hEd (And.intro hvs (And.intro hok her))))
      have HPL := Lib.hid (show PS.length + 1 ≤ 65 by rw [hPS, List.length_map]; exact hpl64)
      clear hPS
      have q8 : W.drew.cell? ⟨Bx, 0, none⟩ = some (.int .i64 x.d) ∧ W.drew.cell? ⟨Bx, 1, none⟩ = some (.bool x.lc) ∧ W.drew.cell? ⟨Bx, 2, none⟩ = some (.int .i64 x.ix) ∧ W.drew.cell? ⟨Bx, 3, none⟩ = some (.int .i64 x.gn) ∧ W.drew.cell? ⟨Bx, 4, none⟩ = some (.int .i64 x.cp) ∧ W.drew.cell? ⟨Bx, 5, none⟩ = some (.slice A' m cc) ∧ W.drew.cell? ⟨Bx, 6, none⟩ = some (.int .i64 nx) ∧ W.drew.cell? ⟨Bx, 7, none⟩ = some (.int .i64 er) := gt_cells hBx
      have cl : W.drew.cell? ⟨gl, 0, none⟩ = some v := hv.cell
      clear hv0 hG0 hs0 hc0 hpre hpl hx he hnx hrd hncc hnew hv hG hE hbb hok hR hBx B5l B5e B5b B5d RI5 R5 hown hEd hvs hpl64
      subst her
      gi_wp2
      skip
      refine region_round (S := fun W => W.cell? ⟨Bx, 0, none⟩ = some (.int .i64 x.d) ∧ W.cell? ⟨Bx, 1, none⟩ = some (.bool x.lc) ∧ W.cell? ⟨Bx, 2, none⟩ = some (.int .i64 x.ix) ∧ W.cell? ⟨Bx, 3, none⟩ = some (.int .i64 x.gn) ∧ W.cell? ⟨Bx, 4, none⟩ = some (.int .i64 x.cp) ∧ W.cell? ⟨Bx, 5, none⟩ = some (.slice A' m cc) ∧ W.cell? ⟨Bx, 6, none⟩ = some (.int .i64 nx) ∧ W.cell? ⟨Bx, 7, none⟩ = some (.int .i64 0)) (by kernel_rfl) (by kernel_rfl) q8 (fun hHeld => ?_)
      refine wpAnyH_take (i := 1) (oi := { dst := some 44, op := Op.fieldAddr 59 (Operand.tmp 9) 0, type := 0, pos := "frame.go:71", after := #[], guard := none }) (v := ?_) rfl (by kernel_rfl) (by kernel_rfl) (by kernel_rfl) (fun _ _ _ h => h) (Or.inl ⟨by rfl, ?_⟩) (by assumption) ?_
      rotate_left 1
      · intro w' hSw; (try dsimp only at hSw); go_simp; (try with_reducible rfl)
      simp only [Act.put, List.setIfInBounds_toArray, List.set_cons_zero, List.set_cons_succ]
      refine wpAnyH_take (i := 2) (oi := { dst := some 45, op := Op.load 47 (Operand.tmp 44), type := 47, pos := "frame.go:71", after := #[{ on := 1, ground := Ground.data }], guard := none }) (v := ?_) rfl (by kernel_rfl) (by kernel_rfl) (by kernel_rfl) (fun _ _ _ h => h) (Or.inl ⟨by rfl, ?_⟩) (by assumption) ?_
      rotate_left 1
      · intro w' hSw; (try dsimp only at hSw); go_simp; (try with_reducible rfl)
      simp only [Act.put, List.setIfInBounds_toArray, List.set_cons_zero, List.set_cons_succ]
      refine wpAnyH_take (i := 5) (oi := { dst := some 48, op := Op.fieldAddr 59 (Operand.tmp 9) 1, type := 0, pos := "frame.go:71", after := #[{ on := 7, ground := Ground.gcOnly Departure.lateStores }], guard := none }) (v := ?_) rfl (by kernel_rfl) (by kernel_rfl) (by kernel_rfl) (fun _ _ _ h => h) (Or.inl ⟨by rfl, ?_⟩) (by assumption) ?_
      rotate_left 1
      · intro w' hSw; (try dsimp only at hSw); go_simp; (try with_reducible rfl)
      simp only [Act.put, List.setIfInBounds_toArray, List.set_cons_zero, List.set_cons_succ]
      refine wpAnyH_take (i := 6) (oi := { dst := some 49, op := Op.load 3 (Operand.tmp 48), type := 3, pos := "frame.go:71", after := #[{ on := 5, ground := Ground.data }, { on := 7, ground := Ground.gcOnly Departure.lateStores }], guard := none }) (v := ?_) rfl (by kernel_rfl) (by kernel_rfl) (by kernel_rfl) (fun _ _ _ h => h) (Or.inl ⟨by rfl, ?_⟩) (by assumption) ?_
      rotate_left 1
      · intro w' hSw; (try dsimp only at hSw); go_simp; (try with_reducible rfl)
      simp only [Act.put, List.setIfInBounds_toArray, List.set_cons_zero, List.set_cons_succ]
      refine wpAnyH_ready (rs := [0, 3]) (by kernel_rfl) (by simp) ?_
      refine AllReadyH.cons (o := { dst := some 43, op := Op.load 22 (Operand.tmp 7), type := 22, pos := "frame.go:71", after := #[], guard := none }) rfl (fun K' hK => ?_) (AllReadyH.cons (o := { dst := some 46, op := Op.buildSlice 22 1 #[(0, Operand.tmp 45)], type := 22, pos := "frame.go:71", after := #[{ on := 2, ground := Ground.data }], guard := none }) rfl (fun K' hK => ?_) AllReadyH.nil)
      · go_simp
        refine hK.out _ _ q8 (fun hHeld => ?_)
        clear hK K'
        try simp only [Act.put, List.setIfInBounds_toArray, List.set_cons_zero, List.set_cons_succ]
        refine wpAnyH_ready (rs := [3]) (by kernel_rfl) (by simp) ?_
        refine AllReadyH.cons (o := { dst := some 46, op := Op.buildSlice 22 1 #[(0, Operand.tmp 45)], type := 22, pos := "frame.go:71", after := #[{ on := 2, ground := Ground.data }], guard := none }) rfl (fun K' hK => ?_) AllReadyH.nil
        go_simp
        obtain ⟨w6, hw6⟩ : ∃ w6, w6 = (W.alloc (.cells (x.cs A' m cc) 47)).drew := ⟨_, rfl⟩
        rw [← hw6]
        have b6 : Below W.heap.size W w6 := by rw [hw6]; exact ((Below.refl _ _).alloc (Nat.le_refl _) _).drew
        have V6 : VRow (fun y => W.heap.size ≤ y) w6 (some ⟨W.heap.size, 0, none⟩) 1 6 (x.cs A' m cc).toList := by rw [hw6]; exact VRow.new W.drew (x.cs A' m cc) _ 1 6 rfl
        have x6 := below_at b6 HV.out.2.2.2.2.1
        have q86 := gt_cells x6
        simp only at q86
        have cl6 := (HV.out.1.kept (below_row b6) (by simp)).cell
        have G6 := HV.out.2.2.2.2.2.below ECd.ok b6
        clear hw6
        refine hK.out _ _ q86 (fun hHeld => ?_)
        clear hK K'
        try simp only [Act.put, List.setIfInBounds_toArray, List.set_cons_zero, List.set_cons_succ]
        refine wpAnyH_ready (rs := [4]) (by kernel_rfl) (by simp) ?_
        refine AllReadyH.cons (o := { dst := some 47, op := Op.call { callee := Callee.builtin Builtin.append, args := #[Operand.tmp 43, Operand.tmp 46], argTypes := #[22, 22] }, type := 22, pos := "frame.go:71", after := #[{ on := 0, ground := Ground.data }, { on := 3, ground := Ground.data }], guard := none }) rfl (fun K' hK => ?_) AllReadyH.nil
        refine step_appX cdsT rfl (.tmp 43) (.tmp 46) rfl w.heap.size v _ vs rfl G6.ow (some ⟨W.heap.size, 0, none⟩) 1 1 (x.cs A' m cc).toList rfl V6 (cs_one _ _ _ _) (by have := HPL.out; omega) (by decide) (Nat.le_trans hU b6.size) ?_; intro v7 w7 ho7 hg7 hv7
        have h7 := get_seven HV.out.1 HV.out.2.1 HV.out.2.2.1 HV.out.2.2.2.1 HV.out.2.2.2.2.1 HV.out.2.2.2.2.2 b6 hg7
        have G7 := G6.put ECd.ok rfl (ECd.ok.below HOW.out.2.1 b6) (fun y hy e => by have := HOW.out.1 y e; omega) ho7 hg7 hv7
        obtain ⟨g7, c7', rfl⟩ := ownsRow_succ ho7
        have q87 := gt_cells h7.2.2.2.2.1
        simp only at q87
        have cl7 := h7.1.cell
        have fl7 := h7.1.frozen
        refine hK.out _ _ q87 (fun hHeld => ?_)
        clear hK K'
        try simp only [Act.put, List.setIfInBounds_toArray, List.set_cons_zero, List.set_cons_succ]
        refine wpAnyH_ready (rs := [7]) (by kernel_rfl) (by simp) ?_
        refine AllReadyH.cons (o := { dst := none, op := Op.store 22 (Operand.tmp 7) (Operand.tmp 47), type := 0, pos := "frame.go:71", after := #[{ on := 4, ground := Ground.data }, { on := 4, ground := Ground.chain }, { on := 0, ground := Ground.phase }, { on := 1, ground := Ground.phase }, { on := 2, ground := Ground.phase }, { on := 3, ground := Ground.phase }, { on := 4, ground := Ground.phase }, { on := 5, ground := Ground.textOnly Departure.lateStores }, { on := 6, ground := Ground.textOnly Departure.lateStores }], guard := none }) rfl (fun K' hK => ?_) AllReadyH.nil
        go_simp
        obtain ⟨w8, hw8⟩ : ∃ w8, w8 = w7.setCell ⟨gl, 0, none⟩ (.slice (some ⟨g7, 0, none⟩) (PS.length + 1) c7') := ⟨_, rfl⟩
        rw [← hw8]
        have x8 : w8.heap[Bx]? = some (.cells (Gt.cs ⟨x, A', m, cc, nx, 0⟩) 59 (0, 0)) := by rw [hw8]; exact (Below.heap_setCell _ _ _ _ (show Bx ≠ gl from fun e => by have h := h7.1; rw [← e] at h; have := (show w7.heap[Bx]? = _ from h).symm.trans h7.2.2.2.2.1; simp at this)).trans h7.2.2.2.2.1
        have q88 := gt_cells x8
        simp only at q88
        have e8 : Boxed w8 (gl + 1) 3 (.int .i64 (nxt pre)) := by rw [hw8]; exact h7.2.1.other (by omega) _
        have ce8 := e8.cell
        have fe8 := e8.frozen
        have HW8 := Lib.hid hw8
        clear hw8
        refine hK.out _ _ q88 (fun hHeld => ?_)
        clear hK K'
        try simp only [Act.put, List.setIfInBounds_toArray, List.set_cons_zero, List.set_cons_succ]
        refine wpAnyH_ready (rs := [8]) (by kernel_rfl) (by simp) ?_
        refine AllReadyH.cons (o := { dst := none, op := Op.store 3 (Operand.tmp 8) (Operand.tmp 49), type := 0, pos := "frame.go:71", after := #[{ on := 6, ground := Ground.data }, { on := 7, ground := Ground.chain }, { on := 0, ground := Ground.phase }, { on := 1, ground := Ground.phase }, { on := 2, ground := Ground.phase }, { on := 3, ground := Ground.phase }, { on := 4, ground := Ground.phase }, { on := 5, ground := Ground.phase }, { on := 6, ground := Ground.phase }, { on := 7, ground := Ground.phase }], guard := none }) rfl (fun K' hK => ?_) AllReadyH.nil
        go_simp
        obtain ⟨w9, hw9⟩ : ∃ w9, w9 = w8.setCell ⟨gl + 1, 0, none⟩ (.int .i64 nx) := ⟨_, rfl⟩
        rw [← hw9]
        have x9 : w9.heap[Bx]? = some (.cells (Gt.cs ⟨x, A', m, cc, nx, 0⟩) 59 (0, 0)) := by rw [hw9]; exact (Below.heap_setCell _ _ _ _ (show Bx ≠ gl + 1 from fun e => by have h := e8; rw [← e] at h; have := (show w8.heap[Bx]? = _ from h).symm.trans x8; simp at this)).trans x8
        have q89 := gt_cells x9
        simp only at q89
        refine hK.out _ _ q89 (fun hHeld => ?_)
        clear hK K'
        try simp only [Act.put, List.setIfInBounds_toArray, List.set_cons_zero, List.set_cons_succ]
        refine wpAnyH_done (by kernel_rfl) ?_ _
        refine Calm.normal ?_
        rw [show PS ++ [x] = pre.map Gt.x ++ [x] from by rw [HPS.out]] at G7
        have N9 := get_nine (g := ⟨x, A', m, cc, nx, 0⟩) hwg ⟨by omega, by omega⟩ h7 HOW.out.2.2.1 G7 HOW.out.2.2.2.1 rfl hU hbW w5.heap.size
        simp only at N9
        rw [← HW8.out, ← hw9] at N9
        have N9H := Lib.hid N9
        clear N9 hw9 x8 q88 e8 ce8 fe8 x9 q89 h7 G7 q87 cl7 fl7 ho7 hg7 hv7 q86 cl6 G6 V6 b6 x6 q8 cl hHeld
        gi_wp2
        exact N9H.out
      · go_simp
        obtain ⟨w6, hw6⟩ : ∃ w6, w6 = (W.alloc (.cells (x.cs A' m cc) 47)).drew := ⟨_, rfl⟩
        rw [← hw6]
        have b6 : Below W.heap.size W w6 := by rw [hw6]; exact ((Below.refl _ _).alloc (Nat.le_refl _) _).drew
        have V6 : VRow (fun y => W.heap.size ≤ y) w6 (some ⟨W.heap.size, 0, none⟩) 1 6 (x.cs A' m cc).toList := by rw [hw6]; exact VRow.new W.drew (x.cs A' m cc) _ 1 6 rfl
        have x6 := below_at b6 HV.out.2.2.2.2.1
        have q86 := gt_cells x6
        simp only at q86
        have cl6 := (HV.out.1.kept (below_row b6) (by simp)).cell
        have G6 := HV.out.2.2.2.2.2.below ECd.ok b6
        clear hw6
        refine hK.out _ _ q86 (fun hHeld => ?_)
        clear hK K'
        try simp only [Act.put, List.setIfInBounds_toArray, List.set_cons_zero, List.set_cons_succ]
        refine wpAnyH_ready (rs := [0]) (by kernel_rfl) (by simp) ?_
        refine AllReadyH.cons (o := { dst := some 43, op := Op.load 22 (Operand.tmp 7), type := 22, pos := "frame.go:71", after := #[], guard := none }) rfl (fun K' hK => ?_) AllReadyH.nil
        go_simp
        refine hK.out _ _ q86 (fun hHeld => ?_)
        clear hK K'
        try simp only [Act.put, List.setIfInBounds_toArray, List.set_cons_zero, List.set_cons_succ]
        refine wpAnyH_ready (rs := [4]) (by kernel_rfl) (by simp) ?_
        refine AllReadyH.cons (o := { dst := some 47, op := Op.call { callee := Callee.builtin Builtin.append, args := #[Operand.tmp 43, Operand.tmp 46], argTypes := #[22, 22] }, type := 22, pos := "frame.go:71", after := #[{ on := 0, ground := Ground.data }, { on := 3, ground := Ground.data }], guard := none }) rfl (fun K' hK => ?_) AllReadyH.nil
        refine step_appX cdsT rfl (.tmp 43) (.tmp 46) rfl w.heap.size v _ vs rfl G6.ow (some ⟨W.heap.size, 0, none⟩) 1 1 (x.cs A' m cc).toList rfl V6 (cs_one _ _ _ _) (by have := HPL.out; omega) (by decide) (Nat.le_trans hU b6.size) ?_; intro v7 w7 ho7 hg7 hv7
        have h7 := get_seven HV.out.1 HV.out.2.1 HV.out.2.2.1 HV.out.2.2.2.1 HV.out.2.2.2.2.1 HV.out.2.2.2.2.2 b6 hg7
        have G7 := G6.put ECd.ok rfl (ECd.ok.below HOW.out.2.1 b6) (fun y hy e => by have := HOW.out.1 y e; omega) ho7 hg7 hv7
        obtain ⟨g7, c7', rfl⟩ := ownsRow_succ ho7
        have q87 := gt_cells h7.2.2.2.2.1
        simp only at q87
        have cl7 := h7.1.cell
        have fl7 := h7.1.frozen
        refine hK.out _ _ q87 (fun hHeld => ?_)
        clear hK K'
        try simp only [Act.put, List.setIfInBounds_toArray, List.set_cons_zero, List.set_cons_succ]
        refine wpAnyH_ready (rs := [7]) (by kernel_rfl) (by simp) ?_
        refine AllReadyH.cons (o := { dst := none, op := Op.store 22 (Operand.tmp 7) (Operand.tmp 47), type := 0, pos := "frame.go:71", after := #[{ on := 4, ground := Ground.data }, { on := 4, ground := Ground.chain }, { on := 0, ground := Ground.phase }, { on := 1, ground := Ground.phase }, { on := 2, ground := Ground.phase }, { on := 3, ground := Ground.phase }, { on := 4, ground := Ground.phase }, { on := 5, ground := Ground.textOnly Departure.lateStores }, { on := 6, ground := Ground.textOnly Departure.lateStores }], guard := none }) rfl (fun K' hK => ?_) AllReadyH.nil
        go_simp
        obtain ⟨w8, hw8⟩ : ∃ w8, w8 = w7.setCell ⟨gl, 0, none⟩ (.slice (some ⟨g7, 0, none⟩) (PS.length + 1) c7') := ⟨_, rfl⟩
        rw [← hw8]
        have x8 : w8.heap[Bx]? = some (.cells (Gt.cs ⟨x, A', m, cc, nx, 0⟩) 59 (0, 0)) := by rw [hw8]; exact (Below.heap_setCell _ _ _ _ (show Bx ≠ gl from fun e => by have h := h7.1; rw [← e] at h; have := (show w7.heap[Bx]? = _ from h).symm.trans h7.2.2.2.2.1; simp at this)).trans h7.2.2.2.2.1
        have q88 := gt_cells x8
        simp only at q88
        have e8 : Boxed w8 (gl + 1) 3 (.int .i64 (nxt pre)) := by rw [hw8]; exact h7.2.1.other (by omega) _
        have ce8 := e8.cell
        have fe8 := e8.frozen
        have HW8 := Lib.hid hw8
        clear hw8
        refine hK.out _ _ q88 (fun hHeld => ?_)
        clear hK K'
        try simp only [Act.put, List.setIfInBounds_toArray, List.set_cons_zero, List.set_cons_succ]
        refine wpAnyH_ready (rs := [8]) (by kernel_rfl) (by simp) ?_
        refine AllReadyH.cons (o := { dst := none, op := Op.store 3 (Operand.tmp 8) (Operand.tmp 49), type := 0, pos := "frame.go:71", after := #[{ on := 6, ground := Ground.data }, { on := 7, ground := Ground.chain }, { on := 0, ground := Ground.phase }, { on := 1, ground := Ground.phase }, { on := 2, ground := Ground.phase }, { on := 3, ground := Ground.phase }, { on := 4, ground := Ground.phase }, { on := 5, ground := Ground.phase }, { on := 6, ground := Ground.phase }, { on := 7, ground := Ground.phase }], guard := none }) rfl (fun K' hK => ?_) AllReadyH.nil
        go_simp
        obtain ⟨w9, hw9⟩ : ∃ w9, w9 = w8.setCell ⟨gl + 1, 0, none⟩ (.int .i64 nx) := ⟨_, rfl⟩
        rw [← hw9]
        have x9 : w9.heap[Bx]? = some (.cells (Gt.cs ⟨x, A', m, cc, nx, 0⟩) 59 (0, 0)) := by rw [hw9]; exact (Below.heap_setCell _ _ _ _ (show Bx ≠ gl + 1 from fun e => by have h := e8; rw [← e] at h; have := (show w8.heap[Bx]? = _ from h).symm.trans x8; simp at this)).trans x8
        have q89 := gt_cells x9
        simp only at q89
        refine hK.out _ _ q89 (fun hHeld => ?_)
        clear hK K'
        try simp only [Act.put, List.setIfInBounds_toArray, List.set_cons_zero, List.set_cons_succ]
        refine wpAnyH_done (by kernel_rfl) ?_ _
        refine Calm.normal ?_
        rw [show PS ++ [x] = pre.map Gt.x ++ [x] from by rw [HPS.out]] at G7
        have N9 := get_nine (g := ⟨x, A', m, cc, nx, 0⟩) hwg ⟨by omega, by omega⟩ h7 HOW.out.2.2.1 G7 HOW.out.2.2.2.1 rfl hU hbW w5.heap.size
        simp only at N9
        rw [← HW8.out, ← hw9] at N9
        have N9H := Lib.hid N9
        clear N9 hw9 x8 q88 e8 ce8 fe8 x9 q89 h7 G7 q87 cl7 fl7 ho7 hg7 hv7 q86 cl6 G6 V6 b6 x6 q8 cl hHeld
        gi_wp2
        exact N9H.out
    · have hne : (er != 0) = true := bne_iff_ne.2 her
      have HX := Lib.hid (And.intro her (show (getsL inp d 1).2.1 = er by rw [hpre.err hpl (by rw [← he]; exact her), ← he]))
      have HBx := Lib.hid hBx
      have HR := Lib.hid hR
      have q7 : W.drew.cell? ⟨Bx, 7, none⟩ = some (.int .i64 er) := c7
      have c2 : W.drew.cell? ⟨w.heap.size, 0, none⟩ = some (.slice none 0 0) := hR.b2.cell
      have f2 : W.drew.frozen? ⟨w.heap.size, 0, none⟩ = false := hR.b2.frozen
      have hB2 : Bx ≠ w.heap.size := fun e => by have h := hR.b2; rw [← e] at h; have := (show W.heap[Bx]? = _ from h).symm.trans hBx; simp at this
      clear hv0 hG0 hs0 hc0 hpre hpl hx he hnx hrd hncc hnew hv hG hE hbb hok hR her hBx B5l B5e B5b B5d RI5 R5
      gi_wp2
      skip
      refine region_round (S := fun W => W.cell? ⟨Bx, 7, none⟩ = some (.int .i64 er)) (by kernel_rfl) (by kernel_rfl) q7 (fun hHeld => ?_)
      refine wpAnyH_take (i := 0) (oi := { dst := some 41, op := Op.fieldAddr 59 (Operand.tmp 9) 2, type := 0, pos := "frame.go:69", after := #[{ on := 2, ground := Ground.gcOnly Departure.lateStores }], guard := none }) (v := ?_) rfl (by kernel_rfl) (by kernel_rfl) (by kernel_rfl) (fun _ _ _ h => h) (Or.inl ⟨by rfl, ?_⟩) (by assumption) ?_
      rotate_left 1
      · intro w' hSw; (try dsimp only at hSw); go_simp; (try with_reducible rfl)
      simp only [Act.put, List.setIfInBounds_toArray, List.set_cons_zero, List.set_cons_succ]
      refine wpAnyH_take (i := 1) (oi := { dst := some 42, op := Op.load 26 (Operand.tmp 41), type := 26, pos := "frame.go:69", after := #[{ on := 0, ground := Ground.data }, { on := 2, ground := Ground.gcOnly Departure.lateStores }], guard := none }) (v := ?_) rfl (by kernel_rfl) (by kernel_rfl) (by kernel_rfl) (fun _ _ _ h => h) (Or.inl ⟨by rfl, ?_⟩) (by assumption) ?_
      rotate_left 1
      · intro w' hSw; (try dsimp only at hSw); go_simp; (try with_reducible rfl)
      simp only [Act.put, List.setIfInBounds_toArray, List.set_cons_zero, List.set_cons_succ]
      refine wpAnyH_ready (rs := [2]) (by kernel_rfl) (by simp) ?_
      refine AllReadyH.cons (o := { dst := none, op := Op.store 22 (Operand.tmp 2) (Operand.const (Value.slice none 0 0)), type := 0, pos := "frame.go:69", after := #[{ on := 0, ground := Ground.textOnly Departure.lateStores }, { on := 1, ground := Ground.textOnly Departure.lateStores }], guard := none }) rfl (fun K' hK => ?_) AllReadyH.nil
      go_simp
      obtain ⟨w8, hw8⟩ : ∃ w8, w8 = (W.setCell ⟨w.heap.size, 0, none⟩ (.slice none 0 0)).drew := ⟨_, rfl⟩
      rw [← hw8]
      have x8 : w8.heap[Bx]? = some (.cells (Gt.cs ⟨x, A', m, cc, nx, er⟩) 59 (0, 0)) := by rw [hw8]; exact (Below.heap_setCell _ _ _ _ hB2).trans HBx.out
      have q78 := (gt_cells x8).2.2.2.2.2.2.2
      have b38 : Boxed w8 (w.heap.size + 1) 26 (.int .i64 0) := by rw [hw8]; exact Boxed.other HR.out.b3 (by omega) _
      have c38 := b38.cell
      have f38 := b38.frozen
      have HW8 := Lib.hid hw8
      clear hw8
      refine hK.out _ _ q78 (fun hHeld => ?_)
      clear hK K'
      try simp only [Act.put, List.setIfInBounds_toArray, List.set_cons_zero, List.set_cons_succ]
      refine wpAnyH_ready (rs := [3]) (by kernel_rfl) (by simp) ?_
      refine AllReadyH.cons (o := { dst := none, op := Op.store 26 (Operand.tmp 3) (Operand.tmp 42), type := 0, pos := "frame.go:69", after := #[{ on := 1, ground := Ground.data }, { on := 2, ground := Ground.chain }, { on := 0, ground := Ground.phase }, { on := 1, ground := Ground.phase }, { on := 2, ground := Ground.phase }], guard := none }) rfl (fun K' hK => ?_) AllReadyH.nil
      go_simp
      obtain ⟨w9, hw9⟩ : ∃ w9, w9 = w8.setCell ⟨w.heap.size + 1, 0, none⟩ (.int .i64 er) := ⟨_, rfl⟩
      rw [← hw9]
      have x9 : w9.heap[Bx]? = some (.cells (Gt.cs ⟨x, A', m, cc, nx, er⟩) 59 (0, 0)) := by rw [hw9]; exact (Below.heap_setCell _ _ _ _ (show Bx ≠ w.heap.size + 1 from fun e => by have h := b38; rw [← e] at h; have := (show w8.heap[Bx]? = _ from h).symm.trans x8; simp at this)).trans x8
      have q79 := (gt_cells x9).2.2.2.2.2.2.2
      refine hK.out _ _ q79 (fun hHeld => ?_)
      clear hK K'
      try simp only [Act.put, List.setIfInBounds_toArray, List.set_cons_zero, List.set_cons_succ]
      refine wpAnyH_done (by kernel_rfl) ?_ _
      refine Calm.normal ?_
      have K9 : KeepsOthers W w9 := by rw [hw9, HW8.out]; exact ((KeepsOthers.setCell W _ _).trans (KeepsOthers.drew _)).trans (KeepsOthers.setCell _ _ _)
      have R9 : Res2 w w9 (.slice none 0 0) er := by rw [hw9, HW8.out]; exact (HR.out.next ((Below.refl _ _).drew)).set _ _
      have K9H := Lib.hid (And.intro K9 R9)
      clear K9 R9 hw9 x8 q78 b38 c38 f38 x9 q79 hHeld c2 f2 q7 c7
      gi_wp2
      exact ⟨K9H.out.1.from _, rfl, er, HX.out.1, HX.out.2, K9H.out.2⟩
theorem FGet_ok : FGetC := fun A n c l w hr hn hc hcm => by
  by_cases h5 : n < 5
  · exact GGet_short A n c l w hr.1 h5
  obtain ⟨q, rfl⟩ : ∃ q, n = q + 4 := ⟨n - 4, by omega⟩
  obtain ⟨b, o, rfl, hlt, hcell⟩ := hr.2 (by omega)
  have hl := hr.1
  have h0 := hcell 0 (by omega)
  rw [Nat.add_zero] at h0
  have h0' : (l.getD 0 0).toNat = (l[0]'(by omega)).toNat := by rw [List.getD_eq_getElem?_getD, List.getElem?_eq_getElem (by omega)]; rfl
  by_cases hs : numB 4 ((sumL (l.take q) : Nat) : Int) = l.drop q
  · by_cases h64 : 64 < (l[0]'(by omega)).toNat
    · exact GGet_many c l w b o q hr hlt (by omega) (by omega) hc hcm hs _ h0' h0 h64
    · exact GGet_loop c l w b o q hr hlt (by omega) (by omega) hc hcm hs _ h0' h0 (by omega)
  · exact GGet_sum c l w b o q hr hlt (by omega) (by omega) hc hcm hs
end
end Go.Proofs.Ytlinafnhhnkjnaa
namespace Go.Proofs.Ytlinafnhhnkjnaa
end Go.Proofs.Ytlinafnhhnkjnaa
