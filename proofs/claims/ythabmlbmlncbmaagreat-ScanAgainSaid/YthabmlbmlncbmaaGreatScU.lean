/- The law ScanAgain. Written by wip/tools/gen_scu.py. -/
import Derived.Test.YthabmlbmlncbmaaGreatQa17
import Derived.Deep.RegionHeld3
namespace Go.Proofs.YthabmlbmlncbmaaGreat
open Go.RowKit
set_option linter.unusedVariables false
set_option maxRecDepth 20000
theorem tail_field (w : World) (A : Option Addr) (n c : Nat) (T E Q : Int) : (Instr.field 33 (.agg #[.slice A n c, .int .i64 T, .int .i64 E, .int .i64 Q]) 0).run Tryz.prog w = .ok (.slice A n c) w := by
  simp [Instr.field, Sem.run_bind, run_underlying Tryz.underlying33, run_underlying Tryz.underlying25, asAgg, part, isAgg]
theorem wpList_field {ops : Array Oper} {rest : List Oper} {o : Oper} {a : Act} {Q : Exit → Act → World → Prop} {w : World} (hgd : Region.wanted o (yielded ops a.tmps) = true) (x : Operand) (ho : o.op = .field 33 x 0) {A : Option Addr} {n c : Nat} {T E S : Int}
    (hx : a.eval x = .agg #[.slice A n c, .int .i64 T, .int .i64 E, .int .i64 S]) (kk : wpList Tryz.prog ops Q rest (a.put o.dst (.slice A n c)) w) : wpList Tryz.prog ops Q (o :: rest) a w :=
  wpList_w hgd fun _ hK => by
    unfold Oper.wp execOp
    simp only [ho, hx, tail_field, Sem.run_bind, Sem.run_pure, Result.andThen_ok]
    exact hK _ _ kk
/-- The rows of the two turns, and all that was told. -/
structure TwoI (wr : World) (av : Value) (t2 t3 : Nat) (c2 c3 : Array Value) : Prop where
  r2 : Rec 26 wr t2 c2
  r3 : Rec 27 wr t3 c3
  n2 : av.ownBlock ≠ some t2
  n3 : av.ownBlock ≠ some t3
theorem TwoI.below {w w' : World} {av : Value} {t2 t3 : Nat} {c2 c3 : Array Value} (h : TwoI w av t2 t3 c2 c3) (hb : Below w.heap.size w w') : TwoI w' av t2 t3 c2 c3 := ⟨h.r2.under hb, h.r3.under hb, h.n2, h.n3⟩
theorem TwoI.grown {w w' : World} {av av' : Value} {t2 t3 : Nat} {c2 c3 : Array Value} (h : TwoI w av t2 t3 c2 c3) (hg : w.grownBy w' av.ownBlock) (hv : av'.ownBlock = av.ownBlock ∨ av'.ownBlock = some w.heap.size) : TwoI w' av' t2 t3 c2 c3 := by
  refine ⟨h.r2.block (hg.block t2 h.r2.lt (fun e => h.n2 e.symm)), h.r3.block (hg.block t3 h.r3.lt (fun e => h.n3 e.symm)), ?_, ?_⟩
  · rcases hv with q | q
    · rw [q]; exact h.n2
    · rw [q]; intro e; injection e with e; have := h.r2.lt; omega
  · rcases hv with q | q
    · rw [q]; exact h.n3
    · rw [q]; intro e; injection e with e; have := h.r3.lt; omega
theorem kd_next {av : Value} {KL : Nat → Prop} {a : Nat} (h1 : ∀ y, KL y → av.ownBlock ≠ some y) (h2 : ∀ y, av.ownBlock = some y → y < a) : ∀ y, (KL y ∨ a ≤ y) → av.ownBlock ≠ some y := fun y hy e => by
  rcases hy with q | q
  · exact h1 y q e
  · have := h2 y e
    omega
theorem hk_next {av v9 : Value} {KL : Nat → Prop} {a b : Nat} (hv9 : v9.ownBlock = av.ownBlock ∨ v9.ownBlock = some b) (h1 : ∀ y, KL y → av.ownBlock ≠ some y) (h2 : ∀ y, av.ownBlock = some y → y < a) : ∀ y, (KL y ∨ a ≤ y) ∧ y < b → v9.ownBlock ≠ some y := fun y hy e => by
  rcases hv9 with q | q
  · rw [q] at e
    exact kd_next h1 h2 y hy.1 e
  · rw [q] at e
    injection e with e
    have := hy.2
    omega
/-- A log as it stands between two turns. -/
structure LgI (lg : Int) (ln : Nat) (L : List (List UInt8)) (alls : List (List UInt8)) (j : Nat) : Prop where
  len : L.length = ln
  full : ∀ x ∈ L, x.length = 512
  top : topA L ≤ 140737488355328 + (j : Int)
  told : ∀ bs T E Q, Scn okF L (0 + lg) 0 0 0 bs T E Q → bs = alls
/-- One turn more. -/
theorem LgI.next {lg : Int} {ln : Nat} {L alls recs : List (List UInt8)} {j : Nat} {T E Q : Int} {ts : List Int} (h : LgI lg ln L alls j) (hlg : (ln : Int) = lg) (hl0 : 0 < ln) (hl20 : ln ≤ 20) (hj : j < 2) (hs : Scn okF L (0 + lg) 0 0 0 alls T E Q) (hbs : alls.length ≤ 1024) (hrec : recs.length ≤ 20)
    (hr : T + ((secsOf (topA L + 1) T Q recs).length : Nat) ≤ 0 + lg) (hok : ∀ b ∈ recs, okF b ∧ b.length ≤ 100000) :
    LgI lg ln (laidL trC T ts 0 (secsOf (topA L + 1) T Q recs) L) (alls ++ recs.take (cameL (laidL trC T ts 0 (secsOf (topA L + 1) T Q recs) L) (topA L + 1) T Q recs)) (j + 1) := by
  have hl := h.len
  have ht := h.top
  have h0 : 0 < L.length := by rw [hl]; exact hl0
  have hnn := topA_nn h0
  have hm : 0 ≤ topA L + 1 ∧ topA L + 1 ≤ 281474976710656 := by omega
  have hE : E ≤ topA L + 1 := by have := hs.top h0 hnn; omega
  obtain ⟨T4, E4, h4, _⟩ := grows18 (ts := ts) h.full (by rw [hl]; exact hlg) h0 (by rw [hl]; exact hl20) ⟨Int.le_refl _, by decide⟩ ⟨Int.le_refl _, by decide⟩ hs hbs hrec (Int.lt_succ _) hE hm.2 hr hok
  obtain ⟨g1, g2⟩ := grown_ok (T := T) (Q := Q) (rest := recs) (ts := ts) h0 h.full hm (Int.lt_succ _)
  refine ⟨by rw [laidL_len]; exact hl, g1, ?_, fun bs T' E' Q' k => (k.det h4).1⟩
  have e : ((j + 1 : Nat) : Int) = (j : Int) + 1 := by omega
  rw [e]
  omega
section
variable (lg pg en gn : Int) (A : Option Addr) (n cap : Nat) (ks : List Kd) {K KF KO : Nat → Prop} (LA : Option Addr) (ln lc : Nat) (xs : List (List UInt8)) (FA : Option Addr) (fn fc : Nat) (fs : List (List Cd)) (TA : Option Addr) (tn tc : Nat) (ts : List Int) (OA : Option Addr) (on oc : Nat) (os : List (List Cd)) (UA : Option Addr) (un uc : Nat) (us : List Int) (w : World)
/-- Frames that are handed in. -/
structure FrsH (w : World) (KF : Nat → Prop) (FA : Option Addr) (fn : Nat) (fs : List (List Cd)) : Prop where
  f : FrsV KF w FA fn fs
  fn : fn ≤ 9223372036854775807
  fw : ∀ x ∈ fs, (∀ y ∈ x, y.wf ∧ y.dt.length ≤ 9223372036854775807) ∧ x.length ≤ 9223372036854775807
/-- What the law is handed. -/
structure AgainH (w : World) (n : Nat) (ks : List Kd) (A : Option Addr) (K KF KO : Nat → Prop) (LA : Option Addr) (ln : Nat) (xs : List (List UInt8)) (FA : Option Addr) (fn : Nat) (fs : List (List Cd)) (TA : Option Addr) (tn : Nat) (ts : List Int) (OA : Option Addr) (on : Nat) (os : List (List Cd)) (UA : Option Addr) (un : Nat) (us : List Int) : Prop where
  k : KRd w A n ks
  n : n ≤ 9223372036854775807
  l : Lens ks
  p : PcsV K w LA ln xs
  ln : ln ≤ 9223372036854775807
  x : ∀ x ∈ xs, x.length ≤ 9223372036854775807
  f : FrsH w KF FA fn fs
  t : IRdW w TA tn ts
  tn : tn ≤ 9223372036854775807
  o : FrsH w KO OA on os
  u : IRdW w UA un us
  un : un ≤ 9223372036854775807
theorem ScanAgain_much (H0 : AgainH w n ks A K KF KO LA ln xs FA fn fs TA tn ts OA on os UA un us) (hm : muchK ks = true) :
    Calls Tryz.prog 3 #[cv lg pg en gn A n cap, .slice LA ln lc, .slice FA fn fc, .slice TA tn tc, .slice OA on oc, .slice UA un uc] w fun e w' => e = .returned (.bool true) ∧ Below w.heap.size w w' := by
  obtain ⟨w1, hw1⟩ : ∃ w1, w1 = w.alloc (.cells (cc lg pg en gn A n cap) 24) := ⟨_, rfl⟩
  have C1 := CAt.new H0.k lg pg en gn cap
  rw [← hw1] at C1
  obtain ⟨g, hg⟩ : ∃ g, g = w.heap.size := ⟨_, rfl⟩
  rw [← hg] at C1
  have c0 := C1.c0
  have c1 := C1.c1
  have c2 := C1.c2
  have c3 := C1.c3
  have c4 := C1.c4
  have K1 := Lib.hid C1
  have HG := Lib.hid hg
  have LG := Lib.hid (show Log18 w A n ks K LA ln xs from ⟨H0.k, H0.p⟩)
  have HL := Lib.hid H0.l
  have HN := Lib.hid H0.n
  have HH := Lib.hid H0
  have HM := Lib.hid hm
  clear H0 hm hg C1
  go_enter Tryz.func3, Tryz.ntmps3
  go_wp2_with (first
    | (rw [← hw1, ← HG.out]; clear hw1)
    | (go_at_call 4; refine (Much_any lg pg en gn A n cap ks w1 K1.out.rd HN.out HL.out).mono ?_; rintro e w2 ⟨rfl, hb2⟩; rw [HM.out]; have K2 := Lib.hid (K1.out.next hb2); have c02 := K2.out.c0; have c12 := K2.out.c1; have c22 := K2.out.c2; have c32 := K2.out.c3; have c42 := K2.out.c4; clear hb2)
    | (go_at_call 8; refine (live18_any w2).mono ?_; rintro e wl ⟨rfl, hbl⟩; have KL := Lib.hid (K2.out.next hbl); clear hbl))
  go_ret
  exact ⟨rfl, KL.out.bel⟩
theorem ScanAgain_wrong (H0 : AgainH w n ks A K KF KO LA ln xs FA fn fs TA tn ts OA on os UA un us) (hm : muchK ks = false) (hR : decide (Cf.mk lg pg en gn ks).Right = false) :
    Calls Tryz.prog 3 #[cv lg pg en gn A n cap, .slice LA ln lc, .slice FA fn fc, .slice TA tn tc, .slice OA on oc, .slice UA un uc] w fun e w' => e = .returned (.bool true) ∧ Below w.heap.size w w' := by
  obtain ⟨w1, hw1⟩ : ∃ w1, w1 = w.alloc (.cells (cc lg pg en gn A n cap) 24) := ⟨_, rfl⟩
  have C1 := CAt.new H0.k lg pg en gn cap
  rw [← hw1] at C1
  obtain ⟨g, hg⟩ : ∃ g, g = w.heap.size := ⟨_, rfl⟩
  rw [← hg] at C1
  have c0 := C1.c0
  have c1 := C1.c1
  have c2 := C1.c2
  have c3 := C1.c3
  have c4 := C1.c4
  have K1 := Lib.hid C1
  have HG := Lib.hid hg
  have LG := Lib.hid (show Log18 w A n ks K LA ln xs from ⟨H0.k, H0.p⟩)
  have HL := Lib.hid H0.l
  have HN := Lib.hid H0.n
  have HH := Lib.hid H0
  have hn4 : n ≤ 1000000 := by have := (muchK_no hm).1; have := H0.k.1; omega
  have CR := Lib.hid (GRr_ok lg pg en gn A n cap ks hn4 H0.l)
  rw [hR] at CR
  have HM := Lib.hid hm
  clear H0 hm hg C1 hR hn4
  go_enter Tryz.func3, Tryz.ntmps3
  go_wp2_with (first
    | (rw [← hw1, ← HG.out]; clear hw1)
    | (go_at_call 4; refine (Much_any lg pg en gn A n cap ks w1 K1.out.rd HN.out HL.out).mono ?_; rintro e w2 ⟨rfl, hb2⟩; rw [HM.out]; have K2 := Lib.hid (K1.out.next hb2); have c02 := K2.out.c0; have c12 := K2.out.c1; have c22 := K2.out.c2; have c32 := K2.out.c3; have c42 := K2.out.c4; clear hb2)
    | (go_at_call 5; refine (CR.out w2 K2.out.rd).mono ?_; rintro e w3 ⟨rfl, hb3⟩; have K3 := Lib.hid (K2.out.next hb3); have c03 := K3.out.c0; have c13 := K3.out.c1; have c23 := K3.out.c2; have c33 := K3.out.c3; have c43 := K3.out.c4; clear hb3)
    | (go_at_call 8; refine (live18_any w3).mono ?_; rintro e wl ⟨rfl, hbl⟩; have KL := Lib.hid (K3.out.next hbl); clear hbl))
  go_ret
  exact ⟨rfl, KL.out.bel⟩
set_option maxHeartbeats 16000000 in
theorem ScanAgain_go (H0 : AgainH w n ks A K KF KO LA ln xs FA fn fs TA tn ts OA on os UA un us) (hm : muchK ks = false) (hR : decide (Cf.mk lg pg en gn ks).Right = true) :
    Calls Tryz.prog 3 #[cv lg pg en gn A n cap, .slice LA ln lc, .slice FA fn fc, .slice TA tn tc, .slice OA on oc, .slice UA un uc] w fun e w' => e = .returned (.bool true) ∧ Below w.heap.size w w' := by
  obtain ⟨w1, hw1⟩ : ∃ w1, w1 = w.alloc (.cells (cc lg pg en gn A n cap) 24) := ⟨_, rfl⟩
  have C1 := CAt.new H0.k lg pg en gn cap
  rw [← hw1] at C1
  obtain ⟨g, hg⟩ : ∃ g, g = w.heap.size := ⟨_, rfl⟩
  rw [← hg] at C1
  have c0 := C1.c0
  have c1 := C1.c1
  have c2 := C1.c2
  have c3 := C1.c3
  have c4 := C1.c4
  have K1 := Lib.hid C1
  have HG := Lib.hid hg
  have LG := Lib.hid (show Log18 w A n ks K LA ln xs from ⟨H0.k, H0.p⟩)
  have HL := Lib.hid H0.l
  have HN := Lib.hid H0.n
  have HH := Lib.hid H0
  have hn4 : n ≤ 1000000 := by have := (muchK_no hm).1; have := H0.k.1; omega
  have CR0 := GRr_ok lg pg en gn A n cap ks hn4 H0.l
  have HN4 := Lib.hid hn4
  have HRN := Lib.hid (right_num lg pg en gn ks hR)
  have HRB := Lib.hid hR
  rw [hR] at CR0
  have CR := Lib.hid CR0
  have HM := Lib.hid hm
  have hfn := H0.f.fn
  have hon := H0.o.fn
  clear H0 hm hg C1 hR hn4 CR0
  go_enter Tryz.func3, Tryz.ntmps3
  go_wp2_with (first
    | (rw [← hw1, ← HG.out]; clear hw1)
    | (go_at_call 4; refine (Much_any lg pg en gn A n cap ks w1 K1.out.rd HN.out HL.out).mono ?_; rintro e w2 ⟨rfl, hb2⟩; rw [HM.out]; have K2 := Lib.hid (K1.out.next hb2); have c02 := K2.out.c0; have c12 := K2.out.c1; have c22 := K2.out.c2; have c32 := K2.out.c3; have c42 := K2.out.c4; clear hb2)
    | (go_at_call 5; refine (CR.out w2 K2.out.rd).mono ?_; rintro e w3 ⟨rfl, hb3⟩; have K3 := Lib.hid (K2.out.next hb3); have c03 := K3.out.c0; have c13 := K3.out.c1; have c23 := K3.out.c2; have c33 := K3.out.c3; have c43 := K3.out.c4; clear hb3))
  refine (full18_any lg pg en gn A n cap ks LA ln lc xs w3 (LG.out.below K3.out.bel) HH.out.ln HH.out.x).mono ?_
  rintro e w4 ⟨⟨q, rfl, hq⟩, hb4⟩
  have K4 := Lib.hid (K3.out.next hb4)
  have c04 := K4.out.c0; have c14 := K4.out.c1; have c24 := K4.out.c2; have c34 := K4.out.c3; have c44 := K4.out.c4
  clear hb4
  cases q
  case false =>
    clear hq
    go_wp2_with (first
      | (go_at_call 8; refine (live18_any w4).mono ?_; rintro e wl ⟨rfl, hbl⟩; have KL := Lib.hid (K4.out.next hbl); clear hbl))
    go_ret
    exact ⟨rfl, KL.out.bel⟩
  case true =>
    have HF := Lib.hid (hq rfl)
    clear hq
    by_cases h1 : fn ≤ 20
    case neg =>
      have d1 : decide ((20 : Int) < (fn : Int)) = true := decide_eq_true (by omega)
      clear h1
      go_wp2_with (first
        | (go_at_call 8; refine (live18_any w4).mono ?_; rintro e wl ⟨rfl, hbl⟩; have KL := Lib.hid (K4.out.next hbl); clear hbl))
      go_ret
      exact ⟨rfl, KL.out.bel⟩
    have d1 : decide ((20 : Int) < (fn : Int)) = false := decide_eq_false (by omega)
    by_cases h2 : on ≤ 20
    case neg =>
      have d2 : decide ((20 : Int) < (on : Int)) = true := decide_eq_true (by omega)
      clear h1 h2
      go_wp2_with (first
        | (go_at_call 8; refine (live18_any w4).mono ?_; rintro e wl ⟨rfl, hbl⟩; have KL := Lib.hid (K4.out.next hbl); clear hbl))
      go_ret
      exact ⟨rfl, KL.out.bel⟩
    have d2 : decide ((20 : Int) < (on : Int)) = false := decide_eq_false (by omega)
    have H12 := Lib.hid (show ∀ x ∈ xs, x.length ≤ 1000000 from fun x hx => by have := HF.out.1 x hx; omega)
    obtain ⟨t, ht⟩ : ∃ t, t = topA xs := ⟨_, rfl⟩
    have HT := Lib.hid ht
    by_cases h3 : t ≤ 140737488355328
    case neg =>
      have d3 : decide ((140737488355328 : Int) < t) = true := decide_eq_true (by omega)
      clear h1 h2 h3 ht
      go_wp2_with (first
        | (go_at_call 7; refine (RTopA_any LA ln lc xs w4 (LG.out.below K4.out.bel).p HH.out.ln H12.out).mono ?_; rintro e w' ⟨he, hw'⟩; subst hw'; rw [← HT.out] at he; subst he)
        | (go_at_call 8; refine (live18_any w4).mono ?_; rintro e wl ⟨rfl, hbl⟩; have KL := Lib.hid (K4.out.next hbl); clear hbl))
      go_ret
      exact ⟨rfl, KL.out.bel⟩
    have d3 : decide ((140737488355328 : Int) < t) = false := decide_eq_false (by omega)
    have HT3 := Lib.hid h3
    have hlnl := LG.out.p.len
    have hln20 : ln ≤ 20 := by have := HF.out.2.2; omega
    have HLG := Lib.hid (show (ln : Int) = lg by have := HF.out.2.1; omega)
    have hln2 : 2 ≤ ln := by have h := HRN.out.1.1; have h' := HLG.out; omega
    have HLN := Lib.hid (And.intro hlnl (And.intro hln2 hln20))
    have EFF : Hid (∀ L : List (List UInt8), L.length = ln → effR lg pg en gn L ks = L) := Lib.hid (fun L hL => by unfold effR; rw [HRB.out]; exact effL_yes (by rw [hL]; exact HLG.out))
    have H20 := Lib.hid (And.intro h1 h2)
    clear ht h3 hlnl
    go_upto_region 3 with (first
      | (go_at_call 7; refine (RTopA_any LA ln lc xs w4 (LG.out.below K4.out.bel).p HH.out.ln H12.out).mono ?_; rintro e w' ⟨he, hw'⟩; subst hw'; rw [← HT.out] at he; subst he))
    clear d1 d2 d3
    obtain ⟨wB, hwB⟩ : ∃ wB, wB = w4.alloc (.cells #[] 42) := ⟨_, rfl⟩
    have hoB : wB.ownsRow w4.heap.size 42 1 (.slice (some ⟨w4.heap.size, 0, none⟩) 0 0) 0 [] := by rw [hwB]; exact World.ownsRow_made w4 #[] 0 (Nat.le_refl _) (Nat.zero_le _) rfl
    have hbB : Below w4.heap.size w4 wB := by rw [hwB]; exact (Below.refl _ _).alloc (Nat.le_refl _) _
    have hltB : w4.heap.size < wB.heap.size := by rw [hwB]; simp
    have PB : Hid (PcG w4 wB (.slice (some ⟨w4.heap.size, 0, none⟩) 0 0) [] [] (fun _ => False)) := Lib.hid ⟨Gr.start hoB hbB.size, hbB⟩
    have KB := Lib.hid (K4.out.next hbB)
    have c0B := KB.out.c0; have c1B := KB.out.c1; have c2B := KB.out.c2; have c3B := KB.out.c3; have c4B := KB.out.c4
    have HLT := Lib.hid hltB
    clear hoB hbB hltB
    go_upto_region 4 with (first
      | (rw [← hwB]; clear hwB)
      | (go_at_call 9; refine (RScan_ok lg pg en gn A n cap ks LA ln lc xs HN4.out HL.out (by have h := HLN.out; omega) 0 0 0 wB (LG.out.below KB.out.bel)).mono ?_; rintro e wE ⟨bs0, T0, E0, Q0, RA, rn, rc, rfl, hsc, hv, hrc, hfew, hbE⟩
         rw [EFF.out xs HLN.out.1] at hsc
         obtain ⟨vb, hvn, hv2, hv3⟩ := PcsV.lt hv
         have VE := Lib.hid (And.intro hsc (And.intro hvn (And.intro hfew (And.intro hbE (And.intro hv2 hv3)))))
         clear hsc hvn hfew hbE hv2 hv3 hv hrc)
      | ((with_reducible refine wpList_field rfl (.tmp 55) rfl rfl ?_))
      | (at_builtin; have _t := VE; refine wpList_appX rowsT rfl (.tmp 52) (.tmp 56) rfl w4.heap.size (.slice (some ⟨w4.heap.size, 0, none⟩) 0 0) 0 [] rfl (own_keep PB.out.gr.ow VE.out.2.2.2.1) RA rn rc vb rfl VE.out.2.2.2.2.1 (VE.out.2.2.2.2.2.one fun x r hx => EPc.one hx) (by have h1 := VE.out.2.1; have h2 := VE.out.2.2.1; omega) (by decide) (Nat.le_trans PB.out.bel.size VE.out.2.2.2.1.size) ?_; intro vF wF hoF hgF hvF
         have hPF := PB.out.app VE.out.2.2.2.1 VE.out.2.2.2.2.2 (fun y hy e => absurd (show w4.heap.size = y by injection e) (by have h1 := HLT.out; have h2 := hy.1; omega)) (fun y hy => hy.2) (by rw [VE.out.2.1]; exact hoF) hgF hvF
         rw [Nat.zero_add] at hoF
         obtain ⟨AF, cF, rfl, _, _, _⟩ := own_vrow hoF
         have PF : Hid (PcG w4 wF (.slice AF rn cF) bs0 vb _) := Lib.hid hPF
         have VF := Lib.hid (And.intro VE.out.1 (And.intro VE.out.2.1 VE.out.2.2.1))
         clear hoF hgF hvF hPF VE))
    obtain ⟨wC, hwC⟩ : ∃ wC, wC = wF.alloc (.cells #[.slice FA fn fc, .slice OA on oc] 26) := ⟨_, rfl⟩
    have hrC : Rec 26 wC wF.heap.size #[.slice FA fn fc, .slice OA on oc] := by rw [hwC]; exact Rec.new wF _ _
    have hbC : Below wF.heap.size wF wC := by rw [hwC]; exact (Below.refl _ _).alloc (Nat.le_refl _) _
    obtain ⟨wD, hwD⟩ : ∃ wD, wD = wC.alloc (.cells #[.slice TA tn tc, .slice UA un uc] 27) := ⟨_, rfl⟩
    have hrD : Rec 27 wD wC.heap.size #[.slice TA tn tc, .slice UA un uc] := by rw [hwD]; exact Rec.new wC _ _
    have hbD : Below wC.heap.size wC wD := by rw [hwD]; exact (Below.refl _ _).alloc (Nat.le_refl _) _
    have hltC : wF.heap.size < wC.heap.size := hrC.lt
    have PD := Lib.hid ((PF.out.below hbC).below hbD)
    have hoF := fun y (e : (Value.slice AF rn cF).ownBlock = some y) => (own_geB PF.out.gr.ow e).2
    have TD : Hid (TwoI wD (.slice AF rn cF) wF.heap.size wC.heap.size #[.slice FA fn fc, .slice OA on oc] #[.slice TA tn tc, .slice UA un uc]) := Lib.hid ⟨hrC.under hbD, hrD, fun e => absurd (hoF _ e) (by omega), fun e => absurd (hoF _ e) (by omega)⟩
    have LD := Lib.hid (show PcsV (fun y => y < w.heap.size) wD LA ln xs ∧ ∀ y, y < w.heap.size → (Value.slice AF rn cF).ownBlock ≠ some y from ⟨PcsV.below (PcsV.mono (PcsV.lt LG.out.p) fun _ hy => hy.2) (K4.out.bel.trans (PD.out.bel.mono K4.out.bel.size)), fun y hy e => by have h1 := (own_geB PD.out.gr.ow e).1; have h2 := K4.out.bel.size; omega⟩)
    have ID : Hid (LgI lg ln xs bs0 0) := Lib.hid ⟨HLN.out.1, HF.out.1, by rw [← HT.out]; have := HT3.out; omega, fun bs T E Q k => (k.det VF.out.1).1⟩
    clear hrC hbC hrD hbD hltC hoF
    go_wp2_with (first
      | (rw [← hwC]; clear hwC)
      | (rw [← hwD]; clear hwD))
    obtain ⟨t2, ht2⟩ : ∃ t2, t2 = wF.heap.size := ⟨_, rfl⟩
    obtain ⟨t3, ht3⟩ : ∃ t3, t3 = wC.heap.size := ⟨_, rfl⟩
    rw [← ht2, ← ht3] at TD
    rw [← ht2, ← ht3]
    clear ht2 ht3
    go_loopw [1, 13, 16] (fun lv av iv wr => ∃ (tj : Nat) (L alls : List (List UInt8)) (KL : Nat → Prop) (GA : Option Addr) (gc an : Nat) (AA : Option Addr) (ac : Nat) (va : List Value) (DA : Nat → Prop), tj ≤ 2 ∧ iv = .int .i64 tj ∧ lv = .slice GA ln gc ∧ av = .slice AA an ac ∧ alls.length = an ∧ Hid (PcsV KL wr GA ln L ∧ ∀ y, KL y → (Value.slice AA an ac).ownBlock ≠ some y) ∧ Hid (PcG w4 wr (.slice AA an ac) alls va DA) ∧
      Hid (TwoI wr (.slice AA an ac) t2 t3 #[.slice FA fn fc, .slice OA on oc] #[.slice TA tn tc, .slice UA un uc]) ∧ Hid (LgI lg ln L alls tj)) (fun _ _ iv _ => 2 - (intOf iv).toNat)
    case atStart => exact ⟨0, xs, bs0, fun y => y < w.heap.size, LA, lc, rn, AF, cF, _, _, by omega, rfl, rfl, rfl, VF.out.2.1, LD, PD, TD, ID⟩
    case round =>
      obtain ⟨tj, L, alls, KL, GA, gc, an, AA, ac, va, DA, htj, rfl, rfl, rfl, han, HLv, HPA, HTW, HLI⟩ := hrel
      have BO := Lib.hid HPA.out.bel
      have KO1 := Lib.hid (K4.out.next BO.out)
      have ko0 := KO1.out.c0
      have ko1 := KO1.out.c1
      have ko2 := KO1.out.c2
      have ko3 := KO1.out.c3
      have ko4 := KO1.out.c4
      have LGW := Lib.hid (show Log18 wr A n ks KL GA ln L from ⟨KO1.out.rd, HLv.out.1⟩)
      have HL40 : Hid (L.length ≤ 40) := Lib.hid (by have := HLI.out.len; omega)
      have HLX : Hid (∀ x ∈ L, x.length ≤ 1000000) := Lib.hid (fun x hx => by have := HLI.out.full x hx; omega)
      have HAN := Lib.hid han
      by_cases htj2 : tj < 2
      case pos =>
        obtain ⟨SA1, sn1, sc1, fs1, hsel1, ⟨KX, hfs⟩, hs20⟩ : ∃ (SA1 : Option Addr) (sn1 sc1 : Nat) (fs1 : List (List Cd)), (#[Value.slice FA fn fc, .slice OA on oc])[tj]? = some (.slice SA1 sn1 sc1) ∧ (∃ KX, FrsH w KX SA1 sn1 fs1) ∧ sn1 ≤ 20 := by
          rcases (show tj = 0 ∨ tj = 1 by omega) with rfl | rfl
          · exact ⟨FA, fn, fc, fs, rfl, ⟨_, HH.out.f⟩, H20.out.1⟩
          · exact ⟨OA, on, oc, os, rfl, ⟨_, HH.out.o⟩, H20.out.2⟩
        obtain ⟨VA, vn, vc, ts1, hsel2, hts, hvn⟩ : ∃ (VA : Option Addr) (vn vc : Nat) (ts1 : List Int), (#[Value.slice TA tn tc, .slice UA un uc])[tj]? = some (.slice VA vn vc) ∧ IRdW w VA vn ts1 ∧ vn ≤ 9223372036854775807 := by
          rcases (show tj = 0 ∨ tj = 1 by omega) with rfl | rfl
          · exact ⟨TA, tn, tc, ts, rfl, HH.out.t, HH.out.tn⟩
          · exact ⟨UA, un, uc, us, rfl, HH.out.u, HH.out.un⟩
        have HFS := Lib.hid hfs
        have HTS := Lib.hid (And.intro hts hvn)
        have HFN : Hid (sn1 ≤ 20) := Lib.hid hs20
        have HS1 := Lib.hid hsel1
        have HS2 := Lib.hid hsel2
        have htcell : wr.cell? ⟨t2, tj, none⟩ = some (.slice SA1 sn1 sc1) := (HTW.out.r2.at_ tj).trans hsel1
        have hucell : wr.cell? ⟨t3, tj, none⟩ = some (.slice VA vn vc) := (HTW.out.r3.at_ tj).trans hsel2
        have HTC := Lib.hid (And.intro htcell hucell)
        obtain ⟨t1, ht1⟩ : ∃ t1, t1 = topA L := ⟨_, rfl⟩
        have HT1 := Lib.hid ht1
        have HWB := Lib.hid HPA.out
        clear hfs hts hvn hsel1 hsel2 htcell hucell ht1
        go_upto_region 10 with (first
          | (go_at_call 9; refine (RScan_ok lg pg en gn A n cap ks GA ln gc L HN4.out HL.out HL40.out 0 0 0 wr LGW.out).mono ?_; rintro e wS ⟨bs, TT, EE, QQ, RA, rn, rc, rfl, hsc, hv, hrc, hfew, hbS⟩
             rw [EFF.out L HLI.out.len] at hsc
             have hbs := HLI.out.told _ _ _ _ hsc
             subst hbs
             have BS := Lib.hid hbS
             have VS := Lib.hid (And.intro hsc (And.intro hfew (And.intro hv hrc)))
             clear hbS hsc hv hfew hrc)
          | ((with_reducible refine wpList_stS (cs' := #[.slice RA rn rc, .int .i64 TT, .int .i64 EE, .int .i64 QQ]) tlT rfl rfl (by simp [Value.oneCell']) rfl (.tmp 17) (.tmp 70) rfl rfl rfl (Rec.new wS _ _) ?_); intro wT hRT hFT
             have hbT : Below wS.heap.size wS wT := (((Below.refl _ wS).alloc (Nat.le_refl _) _).trans (hFT.toBelow (B := wS.heap.size) (fun x e => by rw [e]; exact Nat.le_refl _) (by simp)))
             have BT := Lib.hid (BS.out.trans (hbT.mono BS.out.size))
             have VT := Lib.hid (PcsV.below VS.out.2.2.1 hbT)
             have RT := Lib.hid hRT
             have z0T : wT.cell? ⟨wS.heap.size, 0, none⟩ = some (.slice RA rn rc) := hRT.at_ 0
             have z1T : wT.cell? ⟨wS.heap.size, 1, none⟩ = some (.int .i64 TT) := hRT.at_ 1
             have z2T : wT.cell? ⟨wS.heap.size, 2, none⟩ = some (.int .i64 EE) := hRT.at_ 2
             have z3T : wT.cell? ⟨wS.heap.size, 3, none⟩ = some (.int .i64 QQ) := hRT.at_ 3
             have KT := Lib.hid (KO1.out.next BT.out)
             have c0T := KT.out.c0; have c1T := KT.out.c1; have c2T := KT.out.c2; have c3T := KT.out.c3; have c4T := KT.out.c4
             clear hbT hRT hFT))
        obtain ⟨tb, htb⟩ : ∃ tb, tb = wS.heap.size := ⟨_, rfl⟩
        have HTB := Lib.hid (show tb < wT.heap.size by rw [htb]; exact RT.out.lt)
        rw [← htb] at RT z0T z1T z2T z3T ⊢
        clear htb
        go_region_held3 (fun W => W.cell? ⟨g, 0, none⟩ = some (.int .i64 lg) ∧ W.cell? ⟨g, 1, none⟩ = some (.int .i64 pg) ∧ W.cell? ⟨g, 2, none⟩ = some (.int .i64 en) ∧ W.cell? ⟨g, 3, none⟩ = some (.int .i64 gn) ∧ W.cell? ⟨g, 4, none⟩ = some (.slice A n cap) ∧ W.cell? ⟨tb, 0, none⟩ = some (.slice RA rn rc) ∧ W.cell? ⟨tb, 1, none⟩ = some (.int .i64 TT) ∧ W.cell? ⟨tb, 2, none⟩ = some (.int .i64 EE) ∧ W.cell? ⟨tb, 3, none⟩ = some (.int .i64 QQ)) (first
          | with_reducible exact ⟨c0T, c1T, c2T, c3T, c4T, z0T, z1T, z2T, z3T⟩
          | with_reducible exact ⟨c0U, c1U, c2U, c3U, c4U, z0U, z1U, z2U, z3U⟩
          | with_reducible exact ⟨c0V, c1V, c2V, c3V, c4V, z0V, z1V, z2V, z3V⟩
          | with_reducible exact ⟨c06, c16, c26, c36, c46, z06, z16, z26, z36⟩
          | go_keep) (first
          | (go_at_call 11; refine (LScan_ok lg pg en gn A n cap ks GA ln gc L HN4.out HL.out HL40.out 0 0 0 wT.drew (LGW.out.below (BT.out.trans ((show Below wT.heap.size wT wT.drew from (Below.refl _ _).drew).mono BT.out.size)))).mono ?_; rintro e wU ⟨bs3, T3, E3, Q3, QA, qn, qc, rfl, hsc, hv, hqc, _, hbU'⟩
             rw [EFF.out L HLI.out.len] at hsc
             obtain ⟨e1, e2, e3, e4⟩ := hsc.det VS.out.1
             replace e1 := e1.symm
             replace e2 := e2.symm
             replace e3 := e3.symm
             replace e4 := e4.symm
             subst e1 e2 e3 e4
             have hbU : Below wT.heap.size wT wU := ((show Below wT.heap.size wT wT.drew from (Below.refl _ _).drew)).trans hbU'
             have hTU := hbU
             have BU := Lib.hid (BT.out.trans (hbU.mono BT.out.size))
             have KU := Lib.hid (KO1.out.next BU.out)
             have c0U := KU.out.c0; have c1U := KU.out.c1; have c2U := KU.out.c2; have c3U := KU.out.c3; have c4U := KU.out.c4
             have RU := Lib.hid (RT.out.below (show Below wT.heap.size wT wU from hTU) HTB.out)
             have z0U := RU.out.at_ 0
             have z1U := RU.out.at_ 1
             have z2U := RU.out.at_ 2
             have z3U := RU.out.at_ 3
             have BTU := Lib.hid hbU
             have VU := Lib.hid (And.intro hv (PcsV.below VT.out hbU))
             clear hsc hv hqc hbU hbU' hTU)
          | (go_at_call 10; refine (SameTl_yes QA RA qn rn qc rc _ _ _ _ wU VU.out.1 VU.out.2 (by have h1 := VU.out.1.len; have h2 := VS.out.2.1; omega)).mono ?_; rintro e wV ⟨rfl, hbV⟩
             have hTV := BTU.out.trans (hbV.mono BTU.out.size)
             have BV := Lib.hid (BU.out.trans (hbV.mono BU.out.size))
             have KV := Lib.hid (KO1.out.next BV.out)
             have c0V := KV.out.c0; have c1V := KV.out.c1; have c2V := KV.out.c2; have c3V := KV.out.c3; have c4V := KV.out.c4
             have RV := Lib.hid (RT.out.below (show Below wT.heap.size wT wV from hTV) HTB.out)
             have z0V := RV.out.at_ 0
             have z1V := RV.out.at_ 1
             have z2V := RV.out.at_ 2
             have z3V := RV.out.at_ 3
             have BTV := Lib.hid hTV
             have hal := (HPA.out.below BV.out).done
             obtain ⟨A8, c8, he8, _, _, hv8⟩ := hal
             have e8 : AA = A8 := by injection he8
             subst e8
             have CSM := RSameP_any RA AA rn an rc ac _ _ wV (PcsV.below VU.out.2 hbV) (by rw [HAN.out] at hv8; exact hv8) (by have := VU.out.2.len; have := VS.out.2.1; omega) (by have := VS.out.2.1; have := HAN.out; omega)
             rw [decide_eq_true rfl] at CSM
             have CS := Lib.hid CSM
             clear hbV hTV hv8 he8 CSM)
          | (go_at_call 12; refine CS.out.mono ?_; rintro e w6 ⟨rfl, hb6⟩
             have hT6 := BTV.out.trans (hb6.mono BTV.out.size)
             have B6 := Lib.hid (BV.out.trans (hb6.mono BV.out.size))
             have K6 := Lib.hid (KO1.out.next B6.out)
             have c06 := K6.out.c0; have c16 := K6.out.c1; have c26 := K6.out.c2; have c36 := K6.out.c3; have c46 := K6.out.c4
             have R6 := Lib.hid (RT.out.below (show Below wT.heap.size wT w6 from hT6) HTB.out)
             have z06 := R6.out.at_ 0
             have z16 := R6.out.at_ 1
             have z26 := R6.out.at_ 2
             have z36 := R6.out.at_ 3
             clear hb6 hT6)
          | (go_at_call 13; refine (STop_any GA ln gc L w6 (LGW.out.below B6.out).p HH.out.ln HLX.out).mono ?_; rintro e w' ⟨he, hw'⟩; subst hw'; rw [← HT1.out] at he; subst he)
          | (go_at_call 7; refine (RTopA_any GA ln gc L w6 (LGW.out.below B6.out).p HH.out.ln HLX.out).mono ?_; rintro e w' ⟨he, hw'⟩; subst hw'; rw [← HT1.out] at he; subst he))
        have HW6 := Lib.hid B6.out.size
        obtain ⟨more, hmore⟩ : ∃ more, more = t1 + 1 := ⟨_, rfl⟩
        have hmr : 0 ≤ t1 ∧ t1 ≤ 140737488355330 := by
          have h1 := HLI.out.top
          have h2 := topA_nn (xs := L) (by have := HLI.out.len; have := HLN.out.2.1; omega)
          rw [← HT1.out] at h1 h2
          omega
        have m1 : t1 + 1 = more := hmore.symm
        have m2 : wrap64 more = more := by unfold wrap64; omega
        have m3 : IntKind.i64.wrap more = more := by rw [wrapEq]; exact m2
        have HMR := Lib.hid (And.intro hmore hmr)
        clear hmore
        go_wp2_with (go_at_call 7; refine (RTopA_any GA ln gc L w6 (LGW.out.below B6.out).p HH.out.ln HLX.out).mono ?_; rintro e w' ⟨he, hw'⟩; subst hw'; rw [← HT1.out] at he; subst he)
        clear m1 m2 m3 z0T z1T z2T z3T z0U z1U z2U z3U z0V z1V z2V z3V z06 z16 z26 z36
        have HTB6 := Lib.hid (show tb < w6.heap.size from R6.out.lt)
        have I0 : Hid (GrwI w6 w6 (.slice none 0 0) (.slice none 0 0) [] [] [] [] (fun _ => False) (fun _ => False)) := Lib.hid (GrwI.start w6)
        have TW6 := Lib.hid (HTW.out.below B6.out)
        have hTs := VS.out.1.le
        have hup := VS.out.1.upto (show (0 : Int) ≤ 0 + lg by have h := HLG.out; omega)
        have hTr : 0 ≤ TT ∧ TT ≤ 281474976710656 := by have h' := HLG.out; have h'' := HLN.out.2.2; omega
        have hQr : 0 ≤ QQ ∧ QQ ≤ 140737488360000 := by have h' := VS.out.2.1; omega
        clear hTs hup hmr
        go_loopw [19, 20, 21] (fun rv sv iv wr => ∃ (j sl : Nat) (vr vs : List Value) (DR DS : Nat → Prop) (secs : List (List UInt8)), j ≤ sn1 ∧ iv = .int .i64 j ∧ Hid (secs = secsOf more TT QQ (recsOf (fs1.take j)) ∧ secs.length = sl) ∧ Hid (GrwI w6 wr rv sv (recsOf (fs1.take j)) secs vr vs DR DS) ∧ Hid (∀ b ∈ recsOf (fs1.take j), okF b ∧ b.length ≤ 100000) ∧ Hid (∀ y, DR y → w6.heap.size ≤ y) ∧ sl ≤ 2000 * j) (fun _ _ iv _ => sn1 - (intOf iv).toNat)
        case atStart => exact ⟨0, 0, [], [], _, _, [], Nat.zero_le _, rfl, Lib.hid ⟨by simp [recsOf, secsOf], rfl⟩, by simpa [recsOf] using I0, Lib.hid (fun b hb => by simp [recsOf] at hb), Lib.hid (fun y hy => False.elim hy), Nat.zero_le _⟩
        case round =>
          obtain ⟨j, sl, vr, vs, DR, DS, secs, hj, rfl, HS, HI, HOK, HDR, hsl⟩ := hrel
          have BW := Lib.hid HI.out.r.bel
          have KW := Lib.hid (K6.out.next BW.out)
          have kc0 := KW.out.c0
          have kc1 := KW.out.c1
          have kc2 := KW.out.c2
          have kc3 := KW.out.c3
          have kc4 := KW.out.c4
          have RW := Lib.hid (R6.out.below BW.out HTB6.out)
          have z1 : wr.cell? ⟨tb, 1, none⟩ = some (.int .i64 TT) := RW.out.at_ 1
          have z3 : wr.cell? ⟨tb, 3, none⟩ = some (.int .i64 QQ) := RW.out.at_ 3
          have TWW := Lib.hid (TW6.out.below BW.out)
          have tc2 : wr.cell? ⟨t2, tj, none⟩ = some (.slice SA1 sn1 sc1) := (TWW.out.r2.at_ tj).trans HS1.out
          have tc3 : wr.cell? ⟨t3, tj, none⟩ = some (.slice VA vn vc) := (TWW.out.r3.at_ tj).trans HS2.out
          have hrl : (recsOf (fs1.take j)).length = j := by unfold recsOf; rw [List.length_map, List.length_take, HFS.out.f.len]; omega
          have owr := HI.out.r.gr.ow
          have ows := HI.out.s.gr.ow
          rw [hrl] at owr
          rw [HS.out.2] at ows
          obtain ⟨UA, uc, rfl, huc, _, _⟩ := own_vrow owr
          obtain ⟨ZA, zc, rfl, hzc, _, _⟩ := own_vrow ows
          have HRL := Lib.hid hrl
          clear hrl owr ows
          by_cases hjf : j < sn1
          case pos =>
            obtain ⟨x, hx⟩ : ∃ x, fs1[j]? = some x := ⟨_, List.getElem?_eq_getElem (by rw [HFS.out.f.len]; exact hjf)⟩
            have hxm := List.mem_of_getElem? hx
            have BW0 := Lib.hid (K6.out.bel.trans (BW.out.mono K6.out.bel.size))
            obtain ⟨fb, fo, XA, xn, xc, rfl, hfb, hfcell, hxv, hxc⟩ := (HFS.out.f.below BW0.out).cell hx
            have hxn := hxv.len
            have hxw := HFS.out.fw x hxm
            have HXV := Lib.hid (And.intro hxv (And.intro hxn hxw))
            have HX := Lib.hid hx
            clear hx hxm hfb hxv hxw
            go_wp2_with fail
            refine (FMuch_any XA xn xc x wr HXV.out.1 (by rw [← HXV.out.2.1]; exact HXV.out.2.2.2) (fun y hy => (HXV.out.2.2.1 y hy).2)).mono ?_
            rintro e w' ⟨hw', r, rfl, hr⟩
            subst hw'
            cases r
            case true =>
              clear hr
              go_wp2_with (first
                | (go_at_call 8; refine (live18_any wr).mono ?_; rintro e wl ⟨rfl, hbl⟩; have KL := Lib.hid (KW.out.next hbl); clear hbl))
              go_ret
              exact ⟨rfl, KL.out.bel⟩
            case false =>
              have hsm := hr rfl
              clear hr
              by_cases hck : frCheck x = 0
              case neg =>
                have f1 : (frCheck x != 0) = true := by simpa using hck
                obtain ⟨ck, hckv⟩ : ∃ ck, ck = frCheck x := ⟨_, rfl⟩
                have HCK := Lib.hid hckv
                rw [← hckv] at f1
                clear hckv hck hsm
                go_wp2_with (first
                  | (go_at_call 15; refine (RFCheck_any XA xn xc x wr HXV.out.1 (by rw [← HXV.out.2.1]; exact HXV.out.2.2.2) (fun y hy => (HXV.out.2.2.1 y hy).2)).mono ?_; rintro e wq ⟨he, hbq⟩; rw [← HCK.out] at he; subst he; have KQ := Lib.hid (KW.out.next hbq); clear hbq)
                  | (go_at_call 8; refine (live18_any wq).mono ?_; rintro e wl ⟨rfl, hbl⟩; have KL := Lib.hid (KQ.out.next hbl); clear hbl))
                go_ret
                exact ⟨rfl, KL.out.bel⟩
              case pos =>
                have HCK := Lib.hid hck
                have HSM := Lib.hid hsm
                clear hck hsm
                have HSB : Hid ((frBytes x).length ≤ 100000) := Lib.hid (frBytes_short (by have h1 := HSM.out.1; have h2 := HXV.out.2.1; omega) (fun y hy => by have := HSM.out.2 y hy; omega))
                obtain ⟨T2, hT2⟩ : ∃ T2, T2 = TT + (sl : Int) := ⟨_, rfl⟩
                obtain ⟨Q2, hQ2⟩ : ∃ Q2, Q2 = QQ + (j : Int) := ⟨_, rfl⟩
                have u1 : TT + (sl : Int) = T2 := hT2.symm
                have u2 : wrap64 T2 = T2 := by unfold wrap64; omega
                have u3 : IntKind.i64.wrap T2 = T2 := by rw [wrapEq]; exact u2
                have u4 : QQ + (j : Int) = Q2 := hQ2.symm
                have u5 : wrap64 Q2 = Q2 := by unfold wrap64; omega
                have u6 : IntKind.i64.wrap Q2 = Q2 := by rw [wrapEq]; exact u5
                have HT2 := Lib.hid (show (T2 = TT + (sl : Int) ∧ Q2 = QQ + (j : Int)) ∧ (0 ≤ Q2 ∧ Q2 ≤ 281474976710656) ∧ (-4611686018427387904 ≤ T2 ∧ T2 ≤ 4611686018427387904) from ⟨⟨hT2, hQ2⟩, by omega, by omega⟩)
                clear hT2 hQ2 z1 z3
                go_wp2_with (first
                  | (go_at_call 15; refine (RFCheck_any XA xn xc x wr HXV.out.1 (by rw [← HXV.out.2.1]; exact HXV.out.2.2.2) (fun y hy => (HXV.out.2.2.1 y hy).2)).mono ?_; rintro e wq ⟨he, hbq⟩; rw [HCK.out] at he; subst he; have BQ := Lib.hid hbq; have qf := (hbq.cell (p := ⟨fb, fo + j, none⟩) (World.block_lt_of_cell? wr _ hfcell)).trans hfcell; have QF := Lib.hid qf; have qt := ((hbq.cell (p := ⟨t2, tj, none⟩) (World.block_lt_of_cell? wr _ tc2)).trans tc2); clear hbq)
                  | (go_at_call 16; refine (RFBytesO_any XA xn xc x wq (HXV.out.1.below BQ.out) (by have := HSM.out.1; omega) (fun y hy => by have := HSM.out.2 y hy; omega)).mono ?_; rintro e w7 ⟨v7, k7, rfl, ho7, hb7⟩
                     obtain ⟨B7, c7, rfl, hc7, _, hr7⟩ := Rd.of_own ho7 rfl
                     have BW7 := Lib.hid (show Below wr.heap.size wr w7 from BQ.out.trans (hb7.mono BQ.out.size))
                     have R7 := Lib.hid (And.intro hr7 (And.intro hc7 (show ∀ b o, B7 = some ⟨b, o, none⟩ → 0 < k7 → wr.heap.size ≤ b from fun b o e _ => Nat.le_trans BQ.out.size (own_block ho7 e))))
                     clear ho7 hb7 hr7 hc7)
                  | (at_builtin; have _t := R7; refine wpList_appX (K := fun y => w7.heap.size ≤ y) rowsT rfl (.tmp 131) (.tmp 133) rfl w6.heap.size (.slice UA j uc) j vr rfl (by have := HI.out.r.own (cs := #[.slice B7 k7 c7]) (t := 42) BW7.out; rw [HRL.out] at this; exact this) (some ⟨w7.heap.size, 0, none⟩) 1 1 [.slice B7 k7 c7] rfl (VRow.new w7 #[.slice B7 k7 c7] _ 1 1 rfl) (fun u hu => by simp at hu; rw [hu]; rfl) (by have := HFN.out; omega) (by decide) (by simp; exact Nat.le_succ_of_le (BW.out.trans (BW7.out.mono BW.out.size)).size) ?_; intro v8 w8 ho8 hg8 hv8
                     obtain ⟨vr8, DR8, hG8, hD8⟩ := HI.out.putR BW7.out R7.out.1 R7.out.2.1 R7.out.2.2 (by rw [HRL.out]; exact ho8) hg8 hv8
                     obtain ⟨A8, c8, rfl, _, _, _⟩ := own_vrow ho8
                     have hr8 : Rd w8 B7 k7 (frBytes x) := (R7.out.1.alloc (.cells #[.slice B7 k7 c7] 42)).block hg8.size (fun b o e => by
                     subst e
                     have h5 : 0 < k7 := by have := R7.out.1.1; unfold frBytes at this; simp only [List.length_append, numB_length] at this; omega
                     have h6 := rd_lt R7.out.1 h5
                     refine hg8.block b (Nat.lt_of_lt_of_le h6 ((Below.refl _ w7).alloc (Nat.le_refl _) _).size) (fun e => ?_)
                     have h7 := (own_geB HI.out.r.gr.ow e.symm).2
                     have h8 := R7.out.2.2 b o rfl h5
                     omega)
                     have RR8 := Lib.hid hr8
                     have G8 := Lib.hid hG8
                     have HD8 := Lib.hid (show ∀ y, DR8 y → w6.heap.size ≤ y from fun y hy => (hD8 y hy).elim (HDR.out y) (fun h => Nat.le_trans BW.out.size h))
                     have hR8 := R6.out.below hG8.r.bel HTB6.out
                     have y1 : w8.cell? ⟨tb, 1, none⟩ = some (.int .i64 TT) := hR8.at_ 1
                     have y3 : w8.cell? ⟨tb, 3, none⟩ = some (.int .i64 QQ) := hR8.at_ 3
                     clear hD8 ho8 hg8 hv8 hG8 hr8 hR8)
                  | (go_at_call 17; refine (RSealed_any B7 k7 c7 (frBytes x) more T2 Q2 w8 RR8.out R7.out.2.1 (by have := RR8.out.1; have := HSB.out; omega) HT2.out.2.1 HT2.out.2.2).mono ?_; rintro e w9 ⟨lv9, vs9, D9, rfl, hp9, hD9⟩
                     obtain ⟨S9, c9, rfl, _, _, hv9⟩ := own_vrow hp9.gr.ow
                     have P9 := Lib.hid (And.intro hp9 (And.intro hD9 hv9))
                     clear hp9 hD9 hv9)
                  | (at_builtin; have _t := P9; refine wpList_appX rowsT rfl (.tmp 135) (.tmp 147) rfl w6.heap.size (.slice ZA sl zc) sl vs rfl (by have := own_keep G8.out.s.gr.ow P9.out.1.bel; rw [HS.out.2] at this; exact this) S9 (sealedL more T2 Q2 (frBytes x)).length c9 vs9 rfl P9.out.2.2 (P9.out.1.gr.hd.one fun x r hx => EPc.one hx) (by rw [sealedL_len]; have := needN_le HSB.out; have := HFN.out; omega) (by decide) (Nat.le_trans G8.out.s.bel.size P9.out.1.bel.size) ?_; intro v10 w10 ho10 hg10 hv10
                     have hG10 := G8.out.putS P9.out.1.bel P9.out.1.gr.hd (fun y hy => ⟨P9.out.2.1 y hy, (P9.out.1.gr.dx y hy).1⟩) (by rw [HS.out.2]; exact ho10) hg10 hv10
                     have G10 := Lib.hid hG10
                     clear ho10 hg10 hv10 hG10))
                go_roundw
                case rel =>
                  refine ⟨j + 1, sl + (sealedL more T2 Q2 (frBytes x)).length, vr8, _, DR8, _, secs ++ sealedL more T2 Q2 (frBytes x), hjf, by go_num, Lib.hid ⟨?_, by rw [List.length_append, HS.out.2]⟩, Lib.hid (by rw [recsOf_snoc HX.out]; exact G10.out), Lib.hid (fun b hb => ?_), HD8, ?_⟩
                  · rw [recsOf_snoc HX.out, secsOf_snoc, ← HS.out.1, HS.out.2, HRL.out, HT2.out.1.1, HT2.out.1.2]
                  · rw [recsOf_snoc HX.out] at hb
                    rcases List.mem_append.1 hb with q | q
                    · exact HOK.out b q
                    · rw [List.mem_singleton.1 q]
                      exact ⟨frBytes_ok HCK.out (fun y hy => (HXV.out.2.2.1 y hy).1), HSB.out⟩
                  · rw [sealedL_len]
                    have := needN_le HSB.out
                    omega
                case measure => simp [intOf]; omega
          case neg =>
            obtain rfl : j = sn1 := by omega
            have hft : fs1.take j = fs1 := List.take_of_length_le (by rw [HFS.out.f.len]; exact Nat.le_refl _)
            rw [hft] at HS HI HOK HRL
            clear hft
            obtain ⟨recs, hrecs⟩ : ∃ recs, recs = recsOf fs1 := ⟨_, rfl⟩
            rw [← hrecs] at HS HI HOK HRL
            obtain ⟨rz, hrz⟩ : ∃ rz, rz = roomZ true lg 0 TT := ⟨_, rfl⟩
            have HRZ := Lib.hid hrz
            have HSL := Lib.hid hsl
            by_cases hroom : (sl : Int) ≤ rz
            case neg =>
              have g1 : decide (rz < (sl : Int)) = true := decide_eq_true (by omega)
              clear hroom hrz hrecs
              go_wp2_with (first
                | (go_at_call 18; refine (RRoom_any lg pg en gn A n cap ks wr KW.out.rd CR.out (fun _ => HRN.out) 0 TT).mono ?_; rintro e wa ⟨he, hba⟩; rw [← HRZ.out] at he; subst he
                   have KA := Lib.hid (KW.out.next hba)
                   have c0A := KA.out.c0; have c1A := KA.out.c1; have c2A := KA.out.c2; have c3A := KA.out.c3; have c4A := KA.out.c4
                   have BA := Lib.hid (BW.out.trans (hba.mono BW.out.size))
                   have GIA := Lib.hid (HI.out.below hba)
                   have RA6 := Lib.hid (RW.out.under hba)
                   have x1 : wa.cell? ⟨tb, 1, none⟩ = some (.int .i64 TT) := RA6.out.at_ 1
                   have TWA := Lib.hid (TWW.out.below hba)
                   have x4 : wa.cell? ⟨t3, tj, none⟩ = some (.slice VA vn vc) := (TWA.out.r3.at_ tj).trans HS2.out
                   clear hba)
                | (go_at_call 8; refine (live18_any wa).mono ?_; rintro e wl ⟨rfl, hbl⟩; have KL2 := Lib.hid (KA.out.next hbl); clear hbl))
              go_ret
              exact ⟨rfl, KL2.out.bel⟩
            case pos =>
              have g1 : decide (rz < (sl : Int)) = false := decide_eq_false (by omega)
              have hrm := room_ok (by rw [← hrz]; exact hroom)
              obtain ⟨gr, hgr⟩ : ∃ gr, gr = laidL trC TT ts1 0 secs L := ⟨_, rfl⟩
              obtain ⟨kn, hkn⟩ : ∃ kn, kn = cameL gr more TT QQ recs := ⟨_, rfl⟩
              have HGR := Lib.hid hgr
              have HKN := Lib.hid hkn
              have hknl : kn ≤ j := by rw [hkn, ← HRL.out]; exact cameL_le _ _ _ _ _
              have hbl : ∀ b ∈ recs, okF b ∧ b.length ≤ 100000 := HOK.out
              have hmt : more = topA L + 1 := by rw [← HT1.out]; exact HMR.out.1
              have HNX : Hid (LgI lg ln gr (bs ++ recs.take kn) (tj + 1)) := Lib.hid (by
                have h1 := LgI.next (recs := recs) (ts := ts1) HLI.out HLG.out (by have := HLN.out.2.1; omega) HLN.out.2.2 htj2 VS.out.1 VS.out.2.1 (by rw [HRL.out]; exact HFN.out) (by rw [← hmt, ← HS.out.1, HS.out.2]; exact hrm) hbl
                rw [← hmt, ← HS.out.1, ← hgr, ← hkn] at h1
                exact h1)
              have HUS : Hid (TT + ((secsOf more TT QQ recs).length : Nat) ≤ 562949953421312) := Lib.hid (by rw [← HS.out.1, HS.out.2]; omega)
              have HQS : Hid (0 ≤ QQ ∧ QQ + (j : Nat) ≤ 281474976710656) := Lib.hid (by have := HFN.out; omega)
              have HOKB : Hid (∀ b ∈ recs, b.length ≤ 100000) := Lib.hid fun b hb => (hbl b hb).2
              obtain ⟨A0, c0', he0, _, _, hrr⟩ := HI.out.r.done
              obtain ⟨A1, c1', he1, _, _, hss⟩ := HI.out.s.done
              have q0 : UA = A0 := by injection he0
              have q1 : ZA = A1 := by injection he1
              subst q0 q1
              rw [HRL.out] at hrr
              rw [HS.out.2] at hss
              have HKJ := Lib.hid hknl
              have HAN2 : Hid (an ≤ 1024 ∧ kn ≤ 20) := Lib.hid ⟨by have h1 := HAN.out; have h2 := VS.out.2.1; omega, Nat.le_trans hknl HFN.out⟩
              have HRR := Lib.hid hrr
              have HSS := Lib.hid hss
              have huq : kn ≤ uc := Nat.le_trans hknl huc
              have hk0' : 0 ≤ (kn : Int) := by omega
              clear hroom hrz hrecs hgr hkn hbl he0 he1 hrr hss hrm hmt z3
              go_upto_region 24 with (first
                | (go_at_call 18; refine (RRoom_any lg pg en gn A n cap ks wr KW.out.rd CR.out (fun _ => HRN.out) 0 TT).mono ?_; rintro e wa ⟨he, hba⟩; rw [← HRZ.out] at he; subst he
                   have KA := Lib.hid (KW.out.next hba)
                   have c0A := KA.out.c0; have c1A := KA.out.c1; have c2A := KA.out.c2; have c3A := KA.out.c3; have c4A := KA.out.c4
                   have BA := Lib.hid (BW.out.trans (hba.mono BW.out.size))
                   have GIA := Lib.hid (HI.out.below hba)
                   have RA6 := Lib.hid (RW.out.under hba)
                   have x1 : wa.cell? ⟨tb, 1, none⟩ = some (.int .i64 TT) := RA6.out.at_ 1
                   have TWA := Lib.hid (TWW.out.below hba)
                   have x4 : wa.cell? ⟨t3, tj, none⟩ = some (.slice VA vn vc) := (TWA.out.r3.at_ tj).trans HS2.out
                   have PRA := Lib.hid (PcsV.below HRR.out hba)
                   have PSA := Lib.hid (PcsV.below HSS.out hba)
                   clear hba))
              have HDA := Lib.hid (show Below wa.heap.size wa wa.drew from (Below.refl _ _).drew)
              have BWA := Lib.hid (B6.out.trans (BA.out.mono B6.out.size))
              go_region_held3 (fun W => W.cell? ⟨g, 0, none⟩ = some (.int .i64 lg) ∧ W.cell? ⟨g, 1, none⟩ = some (.int .i64 pg) ∧ W.cell? ⟨g, 2, none⟩ = some (.int .i64 en) ∧ W.cell? ⟨g, 3, none⟩ = some (.int .i64 gn) ∧ W.cell? ⟨g, 4, none⟩ = some (.slice A n cap) ∧ W.cell? ⟨tb, 1, none⟩ = some (.int .i64 TT) ∧ W.cell? ⟨t3, tj, none⟩ = some (.slice VA vn vc)) (first
                | with_reducible exact ⟨c0A, c1A, c2A, c3A, c4A, x1, x4⟩
                | with_reducible exact ⟨c011, c111, c211, c311, c411, x1b, x4b⟩
                | go_keep) (first
                | (go_at_call 19; refine (RLaid_any lg pg en gn A n cap ks (K := KL) GA ln gc L ZA sl zc secs VA vn vc ts1 TT wa.drew (KA.out.rd.below HDA.out) (PcsV.below (LGW.out.below BWA.out).p HDA.out) (PcsV.below PSA.out HDA.out) ((HTS.out.1.below KA.out.bel).below HDA.out) HTS.out.2 HLG.out HLN.out.2.1 (by have := HLN.out.2.2; omega) (by have := HSL.out; omega) (by omega)).mono ?_; rintro e w11 ⟨XDA, dc, rfl, hdv, hdc, hb11'⟩
                   rw [← HGR.out] at hdv
                   have hb11 : Below wa.heap.size wa w11 := HDA.out.trans hb11'
                   have K11 := Lib.hid (KA.out.next hb11)
                   have c011 := K11.out.c0; have c111 := K11.out.c1; have c211 := K11.out.c2; have c311 := K11.out.c3; have c411 := K11.out.c4
                   have B11 := Lib.hid (BA.out.trans (hb11.mono BA.out.size))
                   have D11 := Lib.hid (show PcsV (fun y => KL y ∨ wa.heap.size ≤ y) w11 XDA ln gr ∧ ln ≤ dc from ⟨hdv, hdc⟩)
                   have G11 := Lib.hid (GIA.out.below hb11)
                   have P11 := Lib.hid (PcsV.below PRA.out hb11)
                   have x1b : w11.cell? ⟨tb, 1, none⟩ = some (.int .i64 TT) := (RA6.out.under hb11).at_ 1
                   have x3b : w11.cell? ⟨tb, 3, none⟩ = some (.int .i64 QQ) := (RA6.out.under hb11).at_ 3
                   have TW11 := Lib.hid (TWA.out.below hb11)
                   have x4b : w11.cell? ⟨t3, tj, none⟩ = some (.slice VA vn vc) := (TW11.out.r3.at_ tj).trans HS2.out
                   clear hdv hdc hb11 hb11'))
              go_wp2_with (first
                | (go_at_call 20; refine (RCame_any lg pg en gn A n cap ks XDA ln dc gr UA j uc recs more TT QQ w11 K11.out.rd D11.out.1 P11.out HLG.out HLN.out.2.1 (by have := HLN.out.2.2; omega) (by omega) (by omega) HUS.out HQS.out HOKB.out).mono ?_; rintro e w12 ⟨he, hb12⟩; rw [← HKN.out] at he; subst he
                   have B12 := Lib.hid (B11.out.trans (hb12.mono B11.out.size))
                   have D12 := Lib.hid (PcsV.below D11.out.1 hb12)
                   have G12 := Lib.hid (G11.out.below hb12)
                   have TW12 := Lib.hid (TW11.out.below hb12)
                   have hpa := HPA.out.below (B6.out.trans (B12.out.mono B6.out.size))
                   have PA12 := Lib.hid hpa
                   have owa := hpa.gr.ow
                   rw [HAN.out] at owa
                   have OWA := Lib.hid owa
                   have owr := G12.out.r.gr.ow
                   rw [HRL.out] at owr
                   obtain ⟨A5, c5', he5, _, _, hrow⟩ := own_vrow owr
                   have e5 : UA = A5 := by injection he5
                   subst e5
                   have ROW := Lib.hid hrow
                   have HHD := Lib.hid (show HdL 1 (EPc DR w12) (vr.take kn) (recs.take kn) from by have := G12.out.r.gr.hd.take kn; rwa [Nat.mul_one] at this)
                   clear hb12 hpa owa owr he5 hrow)
                | (at_builtin; have _t := ROW; refine wpList_appX rowsT rfl (.tmp 167) (.tmp 178) rfl w4.heap.size (.slice AA an ac) an va rfl OWA.out UA kn uc (vr.take kn) rfl (ROW.out.pre HKJ.out) (HHD.out.one fun x r hx => EPc.one hx) (by have := HAN2.out; omega) (by decide) PA12.out.bel.size ?_; intro v9 w9 ho9 hg9 hv9
                   have hp9 := PA12.out.app (Below.refl _ _) HHD.out (fun y hy e => by have h1 := (own_geB HPA.out.gr.ow e).2; have h2 := HDR.out y hy; have h3 := B6.out.size; omega) (fun y hy => (G12.out.r.gr.dx y hy).1) (by rw [HAN.out, List.length_take, HRL.out, Nat.min_eq_left HKJ.out]; exact ho9) hg9 hv9
                   have ht9 := TW12.out.grown hg9 hv9
                   have how : ∀ y, (Value.slice AA an ac).ownBlock = some y → y < wa.heap.size := fun y e => by have h1 := (own_geB HPA.out.gr.ow e).2; have h2 := B6.out.size; have h3 := BA.out.size; omega
                   have hd9 : PcsV (fun y => (KL y ∨ wa.heap.size ≤ y) ∧ y < w12.heap.size) w9 XDA ln gr := PcsV.stays (PcsV.lt D12.out) ⟨hg9.size, fun y hy => hg9.block y hy.2 (fun e => kd_next HLv.out.2 how y hy.1 e.symm)⟩
                   have hk9 := hk_next (b := w12.heap.size) hv9 HLv.out.2 how
                   obtain ⟨A9, c9, rfl, _, _, _⟩ := own_vrow ho9
                   have O9 := Lib.hid (And.intro hp9 (And.intro ht9 (And.intro hd9 hk9)))
                   clear how ho9 hg9 hv9 hp9 ht9 hd9 hk9))
              go_roundw
              case rel => exact ⟨tj + 1, gr, bs ++ recs.take kn, _, XDA, dc, an + kn, A9, c9, _, _, by omega, by go_num, rfl, rfl, by rw [List.length_append, List.length_take, HAN.out, HRL.out, Nat.min_eq_left HKJ.out], Lib.hid ⟨O9.out.2.2.1, O9.out.2.2.2⟩, Lib.hid O9.out.1, Lib.hid O9.out.2.1, HNX⟩
              case measure => simp [intOf]; omega
      case neg =>
        obtain rfl : tj = 2 := by omega
        go_wp2_with (first
          | (go_at_call 11; refine (LScan_ok lg pg en gn A n cap ks GA ln gc L HN4.out HL.out HL40.out 0 0 0 wr LGW.out).mono ?_; rintro e wG ⟨bs3, T3, E3, Q3, QA, qn, qc, rfl, hsc, hv, hqc, hfew, hbG⟩
             rw [EFF.out L HLI.out.len] at hsc
             have hbs := HLI.out.told _ _ _ _ hsc
             subst hbs
             have KG := Lib.hid (KO1.out.next hbG)
             have hal := (HPA.out.below hbG).done
             obtain ⟨A8, c8, he8, _, _, hv8⟩ := hal
             have e8 : AA = A8 := by injection he8
             subst e8
             have CSM := RSameP_any QA AA qn an qc ac bs3 bs3 wG hv (by rw [HAN.out] at hv8; exact hv8) (by have := hv.len; omega) (by have := hv.len; have := HAN.out; omega)
             rw [decide_eq_true rfl] at CSM
             have CS := Lib.hid CSM
             clear hsc hv hqc hfew hbG hv8 he8 CSM)
          | ((with_reducible refine wpList_field rfl (.tmp 182) rfl rfl ?_))
          | (go_at_call 12; refine CS.out.mono ?_; rintro e wI ⟨rfl, hbI⟩; have KI := Lib.hid (KG.out.next hbI); clear hbI)
          | (go_at_call 8; refine (live18_any wI).mono ?_; rintro e wl ⟨rfl, hbl⟩; have KL := Lib.hid (KI.out.next hbl); clear hbl))
        go_ret
        exact ⟨rfl, KL.out.bel⟩
theorem ScanAgain_any (H0 : AgainH w n ks A K KF KO LA ln xs FA fn fs TA tn ts OA on os UA un us) :
    Calls Tryz.prog 3 #[cv lg pg en gn A n cap, .slice LA ln lc, .slice FA fn fc, .slice TA tn tc, .slice OA on oc, .slice UA un uc] w fun e w' => e = .returned (.bool true) ∧ Below w.heap.size w w' := by
  cases hm : muchK ks
  · cases hR : decide (Cf.mk lg pg en gn ks).Right
    · exact ScanAgain_wrong lg pg en gn A n cap ks LA ln lc xs FA fn fc fs TA tn tc ts OA on oc os UA un uc us w H0 hm hR
    · exact ScanAgain_go lg pg en gn A n cap ks LA ln lc xs FA fn fc fs TA tn tc ts OA on oc os UA un uc us w H0 hm hR
  · exact ScanAgain_much lg pg en gn A n cap ks LA ln lc xs FA fn fc fs TA tn tc ts OA on oc os UA un uc us w H0 hm
end
end Go.Proofs.YthabmlbmlncbmaaGreat
