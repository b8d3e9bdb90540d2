/- The contracts of step, With and Without, whole (written by gen_grp4.py). -/
import Derived.Test.YtigiepmmgghjlaaGrP3
namespace Go.Proofs.Ytigiepmmgghjlaa
open Go.RowKit

theorem GAt.mono {w : World} {own : Nat → Prop} {p m1 m2 b b' : Nat} {sv : Value} {S : List Nat} {ed : Int × Int → Option Nat} (h : GAt w own p sv m1 m2 S ed b) (hb : b ≤ b') : GAt w own p sv m1 m2 S ed b' :=
  { h with edges := h.edges.mono hb }
theorem GGo.more {w w3 w4 : World} {own own' : Nat → Prop} {p m1 m2 b : Nat} {sv : Value} {S : List Nat} {ed : Int × Int → Option Nat} (F : Fr own w w3) (ho : ∀ x, own' x → own x ∨ w.heap.size ≤ x) (hd : ∀ x, own' x → x < w3.heap.size)
    (F4 : Fr own' w3 w4) (h : GAt w4 own' p sv m1 m2 S ed b) : GGo w own p m1 m2 S ed b w4 :=
  ⟨F.trans' F4 ho, own', sv, ho, fun x hx => Nat.lt_of_lt_of_le (hd x hx) F4.size, h⟩

section
variable {w w' : World} {own own' : Nat → Prop} {p m1 m2 b : Nat} {sv : Value} {S : List Nat} {ed : Int × Int → Option Nat}

theorem With_chg (s : Nat) (c : Int) (w : World) (hs : s < 18446744073709551616) :
    Calls Try.prog 24 #[.int .u64 s, .int .i64 c] w fun e w' => e = .returned (.int .u64 (chg true s c : Nat)) ∧ Below w.heap.size w w' := With_any s c w hs
theorem step_With_self (h : GAt w own p sv m1 m2 S ed b) (i s : Nat) (c : Int) (hi : S[i]? = some s) (hs : chg true s c = s) :
    Calls Try.prog 23 #[.pointer (some ⟨p, 0, none⟩), .int .i64 i, .int .i64 c, .func (.func 24) #[] #[]] w fun e w' => e = .returned (.int .i64 i) ∧ Below w.heap.size w w' := by
  have CS := Lib.hid (Sig_yes h i s hi)
  have CW := With_chg s c w (h.ok.lt s (List.mem_of_getElem? hi))
  rw [hs] at CW
  have CW := Lib.hid CW
  clear h hi hs
  go_enter Try.func23, Try.ntmps23
  go_wp2_with (first
    | (go_at_call 11; refine CS.out.mono ?_; rintro e w' ⟨rfl, rfl⟩)
    | (go_at_call 24; refine CW.out.mono ?_; rintro e w2 ⟨rfl, hb2⟩; have HB2 := Lib.hid hb2; clear hb2))
  go_ret
  exact ⟨rfl, HB2.out⟩
theorem step_With_old (h : GAt w own p sv m1 m2 S ed b) (i s m : Nat) (c : Int) (hi : S[i]? = some s) (hs : chg true s c ≠ s) (hm : ed ((i : Int), c) = some m) (hS : S.length ≤ 1000000) :
    Calls Try.prog 23 #[.pointer (some ⟨p, 0, none⟩), .int .i64 i, .int .i64 c, .func (.func 24) #[] #[]] w fun e w' => e = .returned (.int .i64 m) ∧ Below w.heap.size w w' := by
  have CS := Lib.hid (Sig_yes h i s hi)
  have hlt := h.ok.lt s (List.mem_of_getElem? hi)
  have CW := With_chg s c w hlt
  have hbs := chg_beside true hlt hs
  have wc : (Lit.int .i64 c).wf = true := WalkArith.wf_i64 (by have := hbs.2.1; have := hbs.2.2.1; omega)
  have hil := (List.getElem?_eq_some_iff.1 hi).1
  have wi := GAt.wfI (i := i) (by omega)
  obtain ⟨t, ht⟩ : ∃ t, t = chg true s c := ⟨_, rfl⟩
  rw [← ht] at CW hs
  have q1 : decide ((t : Int) = (s : Int)) = false := decide_eq_false (by omega)
  have q2 : ((t : Int) == (s : Int)) = false := beq_false_of_ne (by omega)
  have q3 : decide (t = s) = false := decide_eq_false hs
  have HL : Hid (∀ w2, Below w.heap.size w w2 → w2.cell? ⟨p, 2, none⟩ = some (.map (some m2)) ∧ (Instr.lookup 49 (.map (some m2)) (.agg #[.int .i64 i, .int .i64 c]) true).run Try.prog w2 = .ok (.tuple #[.int .i64 m, .bool true]) w2) := Lib.hid (fun w2 hb => by
    have h2 := h.below hb
    refine ⟨h2.c2, ?_⟩
    have := h2.look2 wi wc
    rw [hm] at this
    exact this)
  have CW := Lib.hid CW
  clear h hi hs hbs ht hlt wc wi hm hil
  go_enter Try.func23, Try.ntmps23
  go_wp2_with (first
    | (go_at_call 11; refine CS.out.mono ?_; rintro e w' ⟨rfl, rfl⟩)
    | (go_at_call 24; refine CW.out.mono ?_; rintro e w2 ⟨rfl, hb2⟩; obtain ⟨k2, l2⟩ := HL.out w2 hb2; have HB2 := Lib.hid hb2; clear hb2))
  go_ret
  exact ⟨rfl, HB2.out⟩
theorem step_With_new (dom : ∀ x, own x → x < w.heap.size) (h : GAt w own p sv m1 m2 S ed b) (i s : Nat) (c : Int) (hi : S[i]? = some s) (hs : chg true s c ≠ s) (hm : ed ((i : Int), c) = none) (hS : S.length ≤ 900000) (hb : b ≤ 1000000) :
    Calls Try.prog 23 #[.pointer (some ⟨p, 0, none⟩), .int .i64 i, .int .i64 c, .func (.func 24) #[] #[]] w fun e w' => e = .returned (.int .i64 ((gNode S (chg true s c)).2 : Nat)) ∧ GG w own p m1 m2 (gNode S (chg true s c)).1 (b + 2) w' := by
  have CS := Lib.hid (Sig_yes h i s hi)
  have hlt := h.ok.lt s (List.mem_of_getElem? hi)
  have CW := With_chg s c w hlt
  have hbs := chg_beside true hlt hs
  have htl := chg_lt true c hlt
  have wc : (Lit.int .i64 c).wf = true := WalkArith.wf_i64 (by have := hbs.2.1; have := hbs.2.2.1; omega)
  have hil := (List.getElem?_eq_some_iff.1 hi).1
  have wi := GAt.wfI (i := i) (by omega)
  obtain ⟨t, ht⟩ : ∃ t, t = chg true s c := ⟨_, rfl⟩
  rw [← ht] at CW hs hbs htl ⊢
  have q1 : decide ((t : Int) = (s : Int)) = false := decide_eq_false (by omega)
  have q2 : ((t : Int) == (s : Int)) = false := beq_false_of_ne (by omega)
  have q3 : decide (t = s) = false := decide_eq_false hs
  have HL : Hid (∀ w2, Below w.heap.size w w2 → w2.cell? ⟨p, 2, none⟩ = some (.map (some m2)) ∧ (Instr.lookup 49 (.map (some m2)) (.agg #[.int .i64 i, .int .i64 c]) true).run Try.prog w2 = .ok (.tuple #[.int .i64 0, .bool false]) w2) := Lib.hid (fun w2 hb => by
    have h2 := h.below hb
    refine ⟨h2.c2, ?_⟩
    have := h2.look2 wi wc
    rw [hm] at this
    exact this)
  have k1 := gNode_keeps (S := S) t hi
  have k2 := gNode_at S t
  have k3 := (gNode_len S t).1
  have HN : Hid (∀ w2, Below w.heap.size w w2 → Calls Try.prog 14 #[.pointer (some ⟨p, 0, none⟩), .int .u64 t] w2 fun e w' => e = .returned (.int .i64 ((gNode S t).2 : Nat)) ∧ GGo w2 own p m1 m2 (gNode S t).1 ed b w') :=
    Lib.hid (fun w2 hb2 => Node_any (fun x hx => Nat.lt_of_lt_of_le (dom x hx) hb2.size) (h.below hb2) t htl (by omega) (by omega))
  obtain ⟨j, hj⟩ : ∃ j, j = (gNode S t).2 := ⟨_, rfl⟩
  obtain ⟨S', hS'⟩ : ∃ S', S' = (gNode S t).1 := ⟨_, rfl⟩
  rw [← hj, ← hS'] at HN k2 ⊢
  rw [← hS'] at k1 k3
  have CW := Lib.hid CW
  have HK := Lib.hid (And.intro k1 (And.intro k2 (And.intro k3 hbs)))
  clear h hi hs hbs ht hlt wc wi hm hil dom k1 k2 k3 hj hS' htl
  go_enter Try.func23, Try.ntmps23
  go_wp2_with (first
    | (go_at_call 11; refine CS.out.mono ?_; rintro e w' ⟨rfl, rfl⟩)
    | (go_at_call 24; refine CW.out.mono ?_; rintro e w2 ⟨rfl, hb2⟩; obtain ⟨k2, l2⟩ := HL.out w2 hb2; have CN := Lib.hid (HN.out w2 hb2); have HB2 := Lib.hid hb2; clear hb2)
    | (go_at_call 14; refine CN.out.mono ?_; rintro e w3 ⟨rfl, hF3, own', sv', ho', hd', hG3⟩; have CJ := Lib.hid (join_any hG3 i j s t c HK.out.1 HK.out.2.1 HK.out.2.2.2 (by have := HK.out.2.2.1; omega) hb); have HF3 := Lib.hid hF3; have HO3 := Lib.hid (And.intro ho' hd'); clear hF3 ho' hd' hG3)
    | (go_at_call 31; refine CJ.out.mono ?_; rintro e w4 ⟨rfl, hF4, hG4⟩; have HF4 := Lib.hid hF4; have HG4 := Lib.hid hG4; clear hF4 hG4))
  go_ret
  exact ⟨rfl, _, GGo.pre HB2.out (GGo.more HF3.out HO3.out.1 HO3.out.2 HF4.out HG4.out)⟩
theorem step_With (dom : ∀ x, own x → x < w.heap.size) (h : GAt w own p sv m1 m2 S ed b) (n c : Int) (hS : S.length ≤ 900000) (hb : b ≤ 1000000) :
    Calls Try.prog 23 #[.pointer (some ⟨p, 0, none⟩), .int .i64 n, .int .i64 c, .func (.func 24) #[] #[]] w fun e w' => e = .returned (.int .i64 (gMove S true n c).2) ∧ GG w own p m1 m2 (gMove S true n c).1 (b + 2) w' := by
  by_cases hn : 0 ≤ n ∧ n < S.length
  · obtain ⟨i, rfl⟩ : ∃ i : Nat, n = (i : Int) := ⟨n.toNat, by omega⟩
    have hil : i < S.length := by omega
    obtain ⟨s, hs⟩ : ∃ s, s = S[i] := ⟨_, rfl⟩
    have hi : S[i]? = some s := by rw [List.getElem?_eq_getElem hil, hs]
    have hd : S.getD i 0 = s := by rw [List.getD_eq_getElem?_getD, hi]; rfl
    have hlt := h.ok.lt s (List.mem_of_getElem? hi)
    unfold gMove
    rw [if_pos hn, Int.toNat_natCast, hd]
    by_cases hc : chg true s c = s
    · have hx := gNode_some (ixS_of_at h.ok.nd hi)
      rw [hc, hx]
      refine (step_With_self h i s c hi hc).mono ?_
      rintro e w' ⟨rfl, hb'⟩
      exact ⟨rfl, ed, GGo.of dom (Fr.ofBelow _ hb') ((h.below hb').mono (by omega))⟩
    · cases hm : ed ((i : Int), c) with
      | some m =>
        obtain ⟨i', s', t, e1, e2, e3, e4⟩ := h.edok _ _ _ hm
        have e5 : i' = i := by omega
        rw [e5, hi] at e2
        injection e2 with e2
        have e6 := Beside.same hlt (h.ok.lt t (List.mem_of_getElem? e3)) (chg_lt true c hlt) (e2 ▸ e4) (chg_beside true hlt hc)
        rw [e6] at e3
        rw [gNode_some (ixS_of_at h.ok.nd e3)]
        refine (step_With_old h i s m c hi hc hm (by omega)).mono ?_
        rintro e w' ⟨rfl, hb'⟩
        exact ⟨rfl, ed, GGo.of dom (Fr.ofBelow _ hb') ((h.below hb').mono (by omega))⟩
      | none => exact step_With_new dom h i s c hi hc hm hS hb
  · unfold gMove
    rw [if_neg hn]
    refine (step_no h _ n c hn).mono ?_
    rintro e w' ⟨rfl, rfl⟩
    exact ⟨rfl, ed, GGo.of dom (Fr.refl _ _) (h.mono (by omega))⟩
theorem GWith_nil (n c : Int) (w : World) : Calls Try.prog 15 #[.pointer none, .int .i64 n, .int .i64 c] w fun e w' => e = .returned (.int .i64 (-1)) ∧ w = w' := by
  go_enter Try.func15, Try.ntmps15
  go_wp2_with (go_at_call 23; refine (step_nil _ _ _ _).mono ?_; rintro e w' ⟨rfl, rfl⟩)
  go_ret
  exact ⟨rfl, rfl⟩
theorem GWith_any (dom : ∀ x, own x → x < w.heap.size) (h : GAt w own p sv m1 m2 S ed b) (n c : Int) (hS : S.length ≤ 900000) (hb : b ≤ 1000000) :
    Calls Try.prog 15 #[.pointer (some ⟨p, 0, none⟩), .int .i64 n, .int .i64 c] w fun e w' => e = .returned (.int .i64 (gMove S true n c).2) ∧ GG w own p m1 m2 (gMove S true n c).1 (b + 2) w' := by
  have C := step_With dom h n c hS hb
  obtain ⟨r, hr⟩ : ∃ r, r = (gMove S true n c).2 := ⟨_, rfl⟩
  rw [← hr] at C ⊢
  have C := Lib.hid C
  clear h dom hr
  go_enter Try.func15, Try.ntmps15
  go_wp2_with (go_at_call 23; refine C.out.mono ?_; rintro e w' ⟨rfl, hG⟩; have HG := Lib.hid hG; clear hG)
  go_ret
  exact ⟨rfl, HG.out⟩

theorem Without_chg (s : Nat) (c : Int) (w : World) (hs : s < 18446744073709551616) :
    Calls Try.prog 25 #[.int .u64 s, .int .i64 c] w fun e w' => e = .returned (.int .u64 (chg false s c : Nat)) ∧ Below w.heap.size w w' := Without_any s c w hs
theorem step_Without_self (h : GAt w own p sv m1 m2 S ed b) (i s : Nat) (c : Int) (hi : S[i]? = some s) (hs : chg false s c = s) :
    Calls Try.prog 23 #[.pointer (some ⟨p, 0, none⟩), .int .i64 i, .int .i64 c, .func (.func 25) #[] #[]] w fun e w' => e = .returned (.int .i64 i) ∧ Below w.heap.size w w' := by
  have CS := Lib.hid (Sig_yes h i s hi)
  have CW := Without_chg s c w (h.ok.lt s (List.mem_of_getElem? hi))
  rw [hs] at CW
  have CW := Lib.hid CW
  clear h hi hs
  go_enter Try.func23, Try.ntmps23
  go_wp2_with (first
    | (go_at_call 11; refine CS.out.mono ?_; rintro e w' ⟨rfl, rfl⟩)
    | (go_at_call 25; refine CW.out.mono ?_; rintro e w2 ⟨rfl, hb2⟩; have HB2 := Lib.hid hb2; clear hb2))
  go_ret
  exact ⟨rfl, HB2.out⟩
theorem step_Without_old (h : GAt w own p sv m1 m2 S ed b) (i s m : Nat) (c : Int) (hi : S[i]? = some s) (hs : chg false s c ≠ s) (hm : ed ((i : Int), c) = some m) (hS : S.length ≤ 1000000) :
    Calls Try.prog 23 #[.pointer (some ⟨p, 0, none⟩), .int .i64 i, .int .i64 c, .func (.func 25) #[] #[]] w fun e w' => e = .returned (.int .i64 m) ∧ Below w.heap.size w w' := by
  have CS := Lib.hid (Sig_yes h i s hi)
  have hlt := h.ok.lt s (List.mem_of_getElem? hi)
  have CW := Without_chg s c w hlt
  have hbs := chg_beside false hlt hs
  have wc : (Lit.int .i64 c).wf = true := WalkArith.wf_i64 (by have := hbs.2.1; have := hbs.2.2.1; omega)
  have hil := (List.getElem?_eq_some_iff.1 hi).1
  have wi := GAt.wfI (i := i) (by omega)
  obtain ⟨t, ht⟩ : ∃ t, t = chg false s c := ⟨_, rfl⟩
  rw [← ht] at CW hs
  have q1 : decide ((t : Int) = (s : Int)) = false := decide_eq_false (by omega)
  have q2 : ((t : Int) == (s : Int)) = false := beq_false_of_ne (by omega)
  have q3 : decide (t = s) = false := decide_eq_false hs
  have HL : Hid (∀ w2, Below w.heap.size w w2 → w2.cell? ⟨p, 2, none⟩ = some (.map (some m2)) ∧ (Instr.lookup 49 (.map (some m2)) (.agg #[.int .i64 i, .int .i64 c]) true).run Try.prog w2 = .ok (.tuple #[.int .i64 m, .bool true]) w2) := Lib.hid (fun w2 hb => by
    have h2 := h.below hb
    refine ⟨h2.c2, ?_⟩
    have := h2.look2 wi wc
    rw [hm] at this
    exact this)
  have CW := Lib.hid CW
  clear h hi hs hbs ht hlt wc wi hm hil
  go_enter Try.func23, Try.ntmps23
  go_wp2_with (first
    | (go_at_call 11; refine CS.out.mono ?_; rintro e w' ⟨rfl, rfl⟩)
    | (go_at_call 25; refine CW.out.mono ?_; rintro e w2 ⟨rfl, hb2⟩; obtain ⟨k2, l2⟩ := HL.out w2 hb2; have HB2 := Lib.hid hb2; clear hb2))
  go_ret
  exact ⟨rfl, HB2.out⟩
theorem step_Without_new (dom : ∀ x, own x → x < w.heap.size) (h : GAt w own p sv m1 m2 S ed b) (i s : Nat) (c : Int) (hi : S[i]? = some s) (hs : chg false s c ≠ s) (hm : ed ((i : Int), c) = none) (hS : S.length ≤ 900000) (hb : b ≤ 1000000) :
    Calls Try.prog 23 #[.pointer (some ⟨p, 0, none⟩), .int .i64 i, .int .i64 c, .func (.func 25) #[] #[]] w fun e w' => e = .returned (.int .i64 ((gNode S (chg false s c)).2 : Nat)) ∧ GG w own p m1 m2 (gNode S (chg false s c)).1 (b + 2) w' := by
  have CS := Lib.hid (Sig_yes h i s hi)
  have hlt := h.ok.lt s (List.mem_of_getElem? hi)
  have CW := Without_chg s c w hlt
  have hbs := chg_beside false hlt hs
  have htl := chg_lt false c hlt
  have wc : (Lit.int .i64 c).wf = true := WalkArith.wf_i64 (by have := hbs.2.1; have := hbs.2.2.1; omega)
  have hil := (List.getElem?_eq_some_iff.1 hi).1
  have wi := GAt.wfI (i := i) (by omega)
  obtain ⟨t, ht⟩ : ∃ t, t = chg false s c := ⟨_, rfl⟩
  rw [← ht] at CW hs hbs htl ⊢
  have q1 : decide ((t : Int) = (s : Int)) = false := decide_eq_false (by omega)
  have q2 : ((t : Int) == (s : Int)) = false := beq_false_of_ne (by omega)
  have q3 : decide (t = s) = false := decide_eq_false hs
  have HL : Hid (∀ w2, Below w.heap.size w w2 → w2.cell? ⟨p, 2, none⟩ = some (.map (some m2)) ∧ (Instr.lookup 49 (.map (some m2)) (.agg #[.int .i64 i, .int .i64 c]) true).run Try.prog w2 = .ok (.tuple #[.int .i64 0, .bool false]) w2) := Lib.hid (fun w2 hb => by
    have h2 := h.below hb
    refine ⟨h2.c2, ?_⟩
    have := h2.look2 wi wc
    rw [hm] at this
    exact this)
  have k1 := gNode_keeps (S := S) t hi
  have k2 := gNode_at S t
  have k3 := (gNode_len S t).1
  have HN : Hid (∀ w2, Below w.heap.size w w2 → Calls Try.prog 14 #[.pointer (some ⟨p, 0, none⟩), .int .u64 t] w2 fun e w' => e = .returned (.int .i64 ((gNode S t).2 : Nat)) ∧ GGo w2 own p m1 m2 (gNode S t).1 ed b w') :=
    Lib.hid (fun w2 hb2 => Node_any (fun x hx => Nat.lt_of_lt_of_le (dom x hx) hb2.size) (h.below hb2) t htl (by omega) (by omega))
  obtain ⟨j, hj⟩ : ∃ j, j = (gNode S t).2 := ⟨_, rfl⟩
  obtain ⟨S', hS'⟩ : ∃ S', S' = (gNode S t).1 := ⟨_, rfl⟩
  rw [← hj, ← hS'] at HN k2 ⊢
  rw [← hS'] at k1 k3
  have CW := Lib.hid CW
  have HK := Lib.hid (And.intro k1 (And.intro k2 (And.intro k3 hbs)))
  clear h hi hs hbs ht hlt wc wi hm hil dom k1 k2 k3 hj hS' htl
  go_enter Try.func23, Try.ntmps23
  go_wp2_with (first
    | (go_at_call 11; refine CS.out.mono ?_; rintro e w' ⟨rfl, rfl⟩)
    | (go_at_call 25; refine CW.out.mono ?_; rintro e w2 ⟨rfl, hb2⟩; obtain ⟨k2, l2⟩ := HL.out w2 hb2; have CN := Lib.hid (HN.out w2 hb2); have HB2 := Lib.hid hb2; clear hb2)
    | (go_at_call 14; refine CN.out.mono ?_; rintro e w3 ⟨rfl, hF3, own', sv', ho', hd', hG3⟩; have CJ := Lib.hid (join_any hG3 i j s t c HK.out.1 HK.out.2.1 HK.out.2.2.2 (by have := HK.out.2.2.1; omega) hb); have HF3 := Lib.hid hF3; have HO3 := Lib.hid (And.intro ho' hd'); clear hF3 ho' hd' hG3)
    | (go_at_call 31; refine CJ.out.mono ?_; rintro e w4 ⟨rfl, hF4, hG4⟩; have HF4 := Lib.hid hF4; have HG4 := Lib.hid hG4; clear hF4 hG4))
  go_ret
  exact ⟨rfl, _, GGo.pre HB2.out (GGo.more HF3.out HO3.out.1 HO3.out.2 HF4.out HG4.out)⟩
theorem step_Without (dom : ∀ x, own x → x < w.heap.size) (h : GAt w own p sv m1 m2 S ed b) (n c : Int) (hS : S.length ≤ 900000) (hb : b ≤ 1000000) :
    Calls Try.prog 23 #[.pointer (some ⟨p, 0, none⟩), .int .i64 n, .int .i64 c, .func (.func 25) #[] #[]] w fun e w' => e = .returned (.int .i64 (gMove S false n c).2) ∧ GG w own p m1 m2 (gMove S false n c).1 (b + 2) w' := by
  by_cases hn : 0 ≤ n ∧ n < S.length
  · obtain ⟨i, rfl⟩ : ∃ i : Nat, n = (i : Int) := ⟨n.toNat, by omega⟩
    have hil : i < S.length := by omega
    obtain ⟨s, hs⟩ : ∃ s, s = S[i] := ⟨_, rfl⟩
    have hi : S[i]? = some s := by rw [List.getElem?_eq_getElem hil, hs]
    have hd : S.getD i 0 = s := by rw [List.getD_eq_getElem?_getD, hi]; rfl
    have hlt := h.ok.lt s (List.mem_of_getElem? hi)
    unfold gMove
    rw [if_pos hn, Int.toNat_natCast, hd]
    by_cases hc : chg false s c = s
    · have hx := gNode_some (ixS_of_at h.ok.nd hi)
      rw [hc, hx]
      refine (step_Without_self h i s c hi hc).mono ?_
      rintro e w' ⟨rfl, hb'⟩
      exact ⟨rfl, ed, GGo.of dom (Fr.ofBelow _ hb') ((h.below hb').mono (by omega))⟩
    · cases hm : ed ((i : Int), c) with
      | some m =>
        obtain ⟨i', s', t, e1, e2, e3, e4⟩ := h.edok _ _ _ hm
        have e5 : i' = i := by omega
        rw [e5, hi] at e2
        injection e2 with e2
        have e6 := Beside.same hlt (h.ok.lt t (List.mem_of_getElem? e3)) (chg_lt false c hlt) (e2 ▸ e4) (chg_beside false hlt hc)
        rw [e6] at e3
        rw [gNode_some (ixS_of_at h.ok.nd e3)]
        refine (step_Without_old h i s m c hi hc hm (by omega)).mono ?_
        rintro e w' ⟨rfl, hb'⟩
        exact ⟨rfl, ed, GGo.of dom (Fr.ofBelow _ hb') ((h.below hb').mono (by omega))⟩
      | none => exact step_Without_new dom h i s c hi hc hm hS hb
  · unfold gMove
    rw [if_neg hn]
    refine (step_no h _ n c hn).mono ?_
    rintro e w' ⟨rfl, rfl⟩
    exact ⟨rfl, ed, GGo.of dom (Fr.refl _ _) (h.mono (by omega))⟩
theorem GWithout_nil (n c : Int) (w : World) : Calls Try.prog 16 #[.pointer none, .int .i64 n, .int .i64 c] w fun e w' => e = .returned (.int .i64 (-1)) ∧ w = w' := by
  go_enter Try.func16, Try.ntmps16
  go_wp2_with (go_at_call 23; refine (step_nil _ _ _ _).mono ?_; rintro e w' ⟨rfl, rfl⟩)
  go_ret
  exact ⟨rfl, rfl⟩
theorem GWithout_any (dom : ∀ x, own x → x < w.heap.size) (h : GAt w own p sv m1 m2 S ed b) (n c : Int) (hS : S.length ≤ 900000) (hb : b ≤ 1000000) :
    Calls Try.prog 16 #[.pointer (some ⟨p, 0, none⟩), .int .i64 n, .int .i64 c] w fun e w' => e = .returned (.int .i64 (gMove S false n c).2) ∧ GG w own p m1 m2 (gMove S false n c).1 (b + 2) w' := by
  have C := step_Without dom h n c hS hb
  obtain ⟨r, hr⟩ : ∃ r, r = (gMove S false n c).2 := ⟨_, rfl⟩
  rw [← hr] at C ⊢
  have C := Lib.hid C
  clear h dom hr
  go_enter Try.func16, Try.ntmps16
  go_wp2_with (go_at_call 23; refine C.out.mono ?_; rintro e w' ⟨rfl, hG⟩; have HG := Lib.hid hG; clear hG)
  go_ret
  exact ⟨rfl, HG.out⟩
end
end Go.Proofs.Ytigiepmmgghjlaa
