/- ScR, ScS -/
import Derived.Test.YthabmlbmlncbmaaQg1
import Derived.Test.YthabmlbmlncbmaaQg4
import Derived.Test.YthabmlbmlncbmaaQg5
import Derived.Test.YthabmlbmlncbmaaQg11
import Derived.Test.YthabmlbmlncbmaaQg12
import Derived.Test.YthabmlbmlncbmaaQg15
import Derived.Test.YthabmlbmlncbmaaQg17
namespace Go.Proofs.Ythabmlbmlncbmaa
open Go.RowKit
set_option linter.unusedVariables false
set_option maxRecDepth 20000
theorem VRow.pre {K : Nat -> Prop} {w : World} {A : Option Addr} {n : Nat} {vs : List Value} (h : VRow K w A n 1 vs) {m : Nat} (hm : m <= n) : VRow K w A m 1 (vs.take m) := by
  refine ⟨?_, fun e => ?_, fun hp => ?_⟩
  · rw [List.length_take, h.1]; omega
  · have := h.2.1 e; omega
  · obtain ⟨b', o', e, hk, hlt, hc⟩ := h.2.2 (by omega)
    exact ⟨b', o', e, hk, hlt, fun j u hj => hc j u (by
      rw [List.getElem?_take] at hj
      split at hj
      · exact hj
      · cases hj)⟩
theorem cameL_le (g : List (List UInt8)) (more : Int) : ∀ (bs : List (List UInt8)) (n s : Int), cameL g more n s bs <= bs.length
  | [], n, s => Nat.le_refl _
  | b :: bs, n, s => by
    by_cases h : CameB g more n s b
    · rw [cameL_yes h, List.length_cons]
      have := cameL_le g more bs (n + (needN b.length : Nat)) (s + 1)
      omega
    · rw [cameL_no h]
      exact Nat.zero_le _
theorem frBytes_short {x : List Cd} (h : x.length <= 70) (hd : ∀ y ∈ x, y.dt.length <= 1000) : (frBytes x).length <= 100000 := by
  have := flat_len x hd
  unfold frBytes frBody
  simp only [List.length_append, numB_length]
  have h2 : x.length * 1100 <= 70 * 1100 := Nat.mul_le_mul_right _ h
  omega
theorem room_ok {lg h t : Int} {sl : Nat} (hr : (sl : Int) <= roomZ true lg h t) : t + (sl : Int) <= h + lg := by
  unfold roomZ at hr
  split at hr <;> omega
section
variable (lg pg en gn : Int) (A : Option Addr) (n cap : Nat) (ks : List Kd) {K KF : Nat -> Prop} (LA : Option Addr) (ln lc : Nat) (xs : List (List UInt8)) (hd0 ep sq : Int) (FA : Option Addr) (fn fc : Nat) (fs : List (List Cd)) (more : Int) (TA : Option Addr) (tn tc : Nat) (ts : List Int) (w : World)
structure GrowsH (w : World) (n : Nat) (ks : List Kd) (A : Option Addr) (K KF : Nat -> Prop) (LA : Option Addr) (ln : Nat) (xs : List (List UInt8)) (FA : Option Addr) (fn : Nat) (fs : List (List Cd)) (TA : Option Addr) (tn : Nat) (ts : List Int) : Prop where
  k : KRd w A n ks
  n : n <= 9223372036854775807
  l : Lens ks
  p : PcsV K w LA ln xs
  ln : ln <= 9223372036854775807
  x : ∀ x ∈ xs, x.length <= 9223372036854775807
  f : FrsV KF w FA fn fs
  fn : fn <= 9223372036854775807
  fw : ∀ x ∈ fs, (∀ y ∈ x, y.wf /\ y.dt.length <= 9223372036854775807) /\ x.length <= 9223372036854775807
  t : IRdW w TA tn ts
  tn : tn <= 9223372036854775807
theorem ScanGrows_much (H0 : GrowsH w n ks A K KF LA ln xs FA fn fs TA tn ts) (hm : muchK ks = true) :
    Calls Try.prog 5 #[cv lg pg en gn A n cap, .slice LA ln lc, .int .i64 hd0, .int .i64 ep, .int .i64 sq, .slice FA fn fc, .int .i64 more, .slice TA tn tc] w fun e w' => e = .returned (.bool true) /\ Below w.heap.size w w' := by
  obtain ⟨w1, hw1⟩ : ∃ w1, w1 = w.alloc (.cells (cc lg pg en gn A n cap) 24) := ⟨_, rfl⟩
  have C1 := CAt.new H0.k lg pg en gn cap
  rw [<- hw1] at C1
  obtain ⟨g, hg⟩ : ∃ g, g = w.heap.size := ⟨_, rfl⟩
  rw [<- hg] at C1
  have c0 := C1.c0
  have c1 := C1.c1
  have c2 := C1.c2
  have c3 := C1.c3
  have c4 := C1.c4
  have K1 := hi_ C1
  have HG := hi_ hg
  have LG := hi_ (show Log18 w A n ks K LA ln xs from ⟨H0.k, H0.p⟩)
  have HL := hi_ H0.l
  have HN := hi_ H0.n
  have HH := hi_ H0
  have HM := hi_ hm
  clear H0 hm hg C1
  go_enter Try.func5, Try.ntmps5
  go_wp2_with (first
    | (rw [<- hw1, <- HG.out]; clear hw1)
    | (go_at_call 6; refine (Much_any lg pg en gn A n cap ks w1 K1.out.rd HN.out HL.out).mono ?_; rintro e w2 ⟨rfl, hb2⟩; rw [HM.out]; have K2 := hi_ (K1.out.next hb2); have c02 := K2.out.c0; have c12 := K2.out.c1; have c22 := K2.out.c2; have c32 := K2.out.c3; have c42 := K2.out.c4; clear hb2)
    | (go_at_call 8; refine (live18_any w2).mono ?_; rintro e wl ⟨rfl, hbl⟩; have KL := hi_ (K2.out.next hbl); clear hbl))
  go_ret
  exact ⟨rfl, KL.out.bel⟩
theorem ScanGrows_wrong (H0 : GrowsH w n ks A K KF LA ln xs FA fn fs TA tn ts) (hm : muchK ks = false) (hR : decide (Cf.mk lg pg en gn ks).Right = false) :
    Calls Try.prog 5 #[cv lg pg en gn A n cap, .slice LA ln lc, .int .i64 hd0, .int .i64 ep, .int .i64 sq, .slice FA fn fc, .int .i64 more, .slice TA tn tc] w fun e w' => e = .returned (.bool true) /\ Below w.heap.size w w' := by
  obtain ⟨w1, hw1⟩ : ∃ w1, w1 = w.alloc (.cells (cc lg pg en gn A n cap) 24) := ⟨_, rfl⟩
  have C1 := CAt.new H0.k lg pg en gn cap
  rw [<- hw1] at C1
  obtain ⟨g, hg⟩ : ∃ g, g = w.heap.size := ⟨_, rfl⟩
  rw [<- hg] at C1
  have c0 := C1.c0
  have c1 := C1.c1
  have c2 := C1.c2
  have c3 := C1.c3
  have c4 := C1.c4
  have K1 := hi_ C1
  have HG := hi_ hg
  have LG := hi_ (show Log18 w A n ks K LA ln xs from ⟨H0.k, H0.p⟩)
  have HL := hi_ H0.l
  have HN := hi_ H0.n
  have HH := hi_ H0
  have hn4 : n <= 1000000 := by have := (muchK_no hm).1; have := H0.k.1; omega
  have CR := hi_ (GRr_ok lg pg en gn A n cap ks hn4 H0.l)
  rw [hR] at CR
  have HM := hi_ hm
  clear H0 hm hg C1 hR hn4
  go_enter Try.func5, Try.ntmps5
  go_wp2_with (first
    | (rw [<- hw1, <- HG.out]; clear hw1)
    | (go_at_call 6; refine (Much_any lg pg en gn A n cap ks w1 K1.out.rd HN.out HL.out).mono ?_; rintro e w2 ⟨rfl, hb2⟩; rw [HM.out]; have K2 := hi_ (K1.out.next hb2); have c02 := K2.out.c0; have c12 := K2.out.c1; have c22 := K2.out.c2; have c32 := K2.out.c3; have c42 := K2.out.c4; clear hb2)
    | (go_at_call 20; refine (CR.out w2 K2.out.rd).mono ?_; rintro e w3 ⟨rfl, hb3⟩; have K3 := hi_ (K2.out.next hb3); have c03 := K3.out.c0; have c13 := K3.out.c1; have c23 := K3.out.c2; have c33 := K3.out.c3; have c43 := K3.out.c4; clear hb3)
    | (go_at_call 8; refine (live18_any w3).mono ?_; rintro e wl ⟨rfl, hbl⟩; have KL := hi_ (K3.out.next hbl); clear hbl))
  go_ret
  exact ⟨rfl, KL.out.bel⟩
set_option maxHeartbeats 8000000 in
theorem ScanGrows_go (H0 : GrowsH w n ks A K KF LA ln xs FA fn fs TA tn ts) (hm : muchK ks = false) (hR : decide (Cf.mk lg pg en gn ks).Right = true) :
    Calls Try.prog 5 #[cv lg pg en gn A n cap, .slice LA ln lc, .int .i64 hd0, .int .i64 ep, .int .i64 sq, .slice FA fn fc, .int .i64 more, .slice TA tn tc] w fun e w' => e = .returned (.bool true) /\ Below w.heap.size w w' := by
  obtain ⟨w1, hw1⟩ : ∃ w1, w1 = w.alloc (.cells (cc lg pg en gn A n cap) 24) := ⟨_, rfl⟩
  have C1 := CAt.new H0.k lg pg en gn cap
  rw [<- hw1] at C1
  obtain ⟨g, hg⟩ : ∃ g, g = w.heap.size := ⟨_, rfl⟩
  rw [<- hg] at C1
  have c0 := C1.c0
  have c1 := C1.c1
  have c2 := C1.c2
  have c3 := C1.c3
  have c4 := C1.c4
  have K1 := hi_ C1
  have HG := hi_ hg
  have LG := hi_ (show Log18 w A n ks K LA ln xs from ⟨H0.k, H0.p⟩)
  have HL := hi_ H0.l
  have HN := hi_ H0.n
  have HH := hi_ H0
  have hn4 : n <= 1000000 := by have := (muchK_no hm).1; have := H0.k.1; omega
  have CR0 := GRr_ok lg pg en gn A n cap ks hn4 H0.l
  have HN4 := hi_ hn4
  have HRN := hi_ (right_num lg pg en gn ks hR)
  have HRB := hi_ hR
  rw [hR] at CR0
  have CR := hi_ CR0
  have HM := hi_ hm
  have hfn := H0.fn
  clear H0 hm hg C1 hR hn4 CR0
  go_enter Try.func5, Try.ntmps5
  go_wp2_with (first
    | (rw [<- hw1, <- HG.out]; clear hw1)
    | (go_at_call 6; refine (Much_any lg pg en gn A n cap ks w1 K1.out.rd HN.out HL.out).mono ?_; rintro e w2 ⟨rfl, hb2⟩; rw [HM.out]; have K2 := hi_ (K1.out.next hb2); have c02 := K2.out.c0; have c12 := K2.out.c1; have c22 := K2.out.c2; have c32 := K2.out.c3; have c42 := K2.out.c4; clear hb2)
    | (go_at_call 20; refine (CR.out w2 K2.out.rd).mono ?_; rintro e w3 ⟨rfl, hb3⟩; have K3 := hi_ (K2.out.next hb3); have c03 := K3.out.c0; have c13 := K3.out.c1; have c23 := K3.out.c2; have c33 := K3.out.c3; have c43 := K3.out.c4; clear hb3))
  refine (full18_any lg pg en gn A n cap ks LA ln lc xs w3 (LG.out.below K3.out.bel) HH.out.ln HH.out.x).mono ?_
  rintro e w4 ⟨⟨q, rfl, hq⟩, hb4⟩
  have K4 := hi_ (K3.out.next hb4)
  have c04 := K4.out.c0; have c14 := K4.out.c1; have c24 := K4.out.c2; have c34 := K4.out.c3; have c44 := K4.out.c4
  clear hb4
  cases q
  case false =>
    clear hq
    go_wp2_with (first
      | (go_at_call 8; refine (live18_any w4).mono ?_; rintro e wl ⟨rfl, hbl⟩; have KL := hi_ (K4.out.next hbl); clear hbl))
    go_ret
    exact ⟨rfl, KL.out.bel⟩
  case true =>
    have HF := hi_ (hq rfl)
    clear hq
    by_cases h1 : Plc hd0
    case neg =>
      have d1 := decide_eq_false h1
      clear h1
      go_wp2_with (first
        | (go_at_call 22; refine (Place_yes _ _).mono ?_; rintro e w' ⟨rfl, hw'⟩; subst hw'; (try rw [d1]); (try rw [d2]); (try rw [d3]))
        | (go_at_call 8; refine (live18_any w4).mono ?_; rintro e wl ⟨rfl, hbl⟩; have KL := hi_ (K4.out.next hbl); clear hbl))
      go_ret
      exact ⟨rfl, KL.out.bel⟩
    have d1 := decide_eq_true h1
    by_cases h2 : Plc sq
    case neg =>
      have d2 := decide_eq_false h2
      clear h2
      go_wp2_with (first
        | (go_at_call 22; refine (Place_yes _ _).mono ?_; rintro e w' ⟨rfl, hw'⟩; subst hw'; (try rw [d1]); (try rw [d2]); (try rw [d3]))
        | (go_at_call 8; refine (live18_any w4).mono ?_; rintro e wl ⟨rfl, hbl⟩; have KL := hi_ (K4.out.next hbl); clear hbl))
      go_ret
      exact ⟨rfl, KL.out.bel⟩
    have d2 := decide_eq_true h2
    by_cases h3 : Plc ep
    case neg =>
      have d3 := decide_eq_false h3
      clear h3
      go_wp2_with (first
        | (go_at_call 22; refine (Place_yes _ _).mono ?_; rintro e w' ⟨rfl, hw'⟩; subst hw'; (try rw [d1]); (try rw [d2]); (try rw [d3]))
        | (go_at_call 8; refine (live18_any w4).mono ?_; rintro e wl ⟨rfl, hbl⟩; have KL := hi_ (K4.out.next hbl); clear hbl))
      go_ret
      exact ⟨rfl, KL.out.bel⟩
    have d3 := decide_eq_true h3
    by_cases h4 : fn <= 20
    case neg =>
      have d4 : decide ((20 : Int) < (fn : Int)) = true := decide_eq_true (by omega)
      clear h1 h2 h3 h4
      go_wp2_with (first
        | (go_at_call 22; refine (Place_yes _ _).mono ?_; rintro e w' ⟨rfl, hw'⟩; subst hw'; (try rw [d1]); (try rw [d2]); (try rw [d3]))
        | (go_at_call 8; refine (live18_any w4).mono ?_; rintro e wl ⟨rfl, hbl⟩; have KL := hi_ (K4.out.next hbl); clear hbl))
      go_ret
      exact ⟨rfl, KL.out.bel⟩
    have d4 : decide ((20 : Int) < (fn : Int)) = false := decide_eq_false (by omega)
    by_cases h5 : hd0 <= 140737488355328
    case neg =>
      have d5 : decide ((140737488355328 : Int) < hd0) = true := decide_eq_true (by omega)
      clear h1 h2 h3 h4 h5
      go_wp2_with (first
        | (go_at_call 22; refine (Place_yes _ _).mono ?_; rintro e w' ⟨rfl, hw'⟩; subst hw'; (try rw [d1]); (try rw [d2]); (try rw [d3]))
        | (go_at_call 8; refine (live18_any w4).mono ?_; rintro e wl ⟨rfl, hbl⟩; have KL := hi_ (K4.out.next hbl); clear hbl))
      go_ret
      exact ⟨rfl, KL.out.bel⟩
    have d5 : decide ((140737488355328 : Int) < hd0) = false := decide_eq_false (by omega)
    by_cases h6 : sq <= 140737488355328
    case neg =>
      have d6 : decide ((140737488355328 : Int) < sq) = true := decide_eq_true (by omega)
      clear h1 h2 h3 h4 h5 h6
      go_wp2_with (first
        | (go_at_call 22; refine (Place_yes _ _).mono ?_; rintro e w' ⟨rfl, hw'⟩; subst hw'; (try rw [d1]); (try rw [d2]); (try rw [d3]))
        | (go_at_call 8; refine (live18_any w4).mono ?_; rintro e wl ⟨rfl, hbl⟩; have KL := hi_ (K4.out.next hbl); clear hbl))
      go_ret
      exact ⟨rfl, KL.out.bel⟩
    have d6 : decide ((140737488355328 : Int) < sq) = false := decide_eq_false (by omega)
    have HD := hi_ (show (0 <= hd0 /\ hd0 <= 140737488355328) /\ (0 <= sq /\ sq <= 140737488355328) from ⟨⟨h1.1, h5⟩, ⟨h2.1, h6⟩⟩)
    have hlnl := LG.out.p.len
    have hln20 : ln <= 20 := by have := HF.out.2.2; omega
    have HLG := hi_ (show (ln : Int) = lg by have := HF.out.2.1; omega)
    have hln2 : 2 <= ln := by have h := HRN.out.1.1; have h' := HLG.out; omega
    have HLN := hi_ (And.intro hlnl (And.intro hln2 hln20))
    have EFF : Hid (effR lg pg en gn xs ks = xs) := hi_ (by unfold effR; rw [HRB.out]; exact effL_yes HF.out.2.1)
    have H12 := hi_ (show ∀ x ∈ xs, x.length <= 1000000 from fun x hx => by have := HF.out.1 x hx; omega)
    obtain ⟨t, ht⟩ : ∃ t, t = topA xs := ⟨_, rfl⟩
    have HT := hi_ ht
    clear h1 h2 h3 h5 h6 hlnl ht
    go_upto_region 5 with (first
      | (go_at_call 22; refine (Place_yes _ _).mono ?_; rintro e w' ⟨rfl, hw'⟩; subst hw'; (try rw [d1]); (try rw [d2]); (try rw [d3]))
      | (go_at_call 11; refine (RScan_ok lg pg en gn A n cap ks LA ln lc xs HN4.out HL.out (by have h := HLN.out; omega) hd0 ep sq w4 (LG.out.below K4.out.bel)).mono ?_; rintro e w5 ⟨bs, TT, EE, QQ, RA, rn, rc, rfl, hsc, hv, hrc, hfew, hb5⟩
         rw [EFF.out] at hsc
         have K5 := hi_ (K4.out.next hb5)
         have V5 := hi_ (And.intro hsc (And.intro hfew (And.intro hv hrc)))
         clear hb5 hsc hv hfew hrc)
      | ((with_reducible refine wpList_stS (cs' := #[.slice RA rn rc, .int .i64 TT, .int .i64 EE, .int .i64 QQ]) tlT rfl rfl (by simp [Value.oneCell']) rfl (.tmp 17) (.tmp 73) rfl rfl rfl (Rec.new w5 _ _) ?_); intro w6 hR6 hF6
         have hb6 : Below w5.heap.size w5 w6 := (((Below.refl _ w5).alloc (Nat.le_refl _) _).trans (hF6.toBelow (B := w5.heap.size) (fun x e => by rw [e]; exact Nat.le_refl _) (by simp)))
         have K6 := hi_ (K5.out.next hb6)
         have c06 := K6.out.c0; have c16 := K6.out.c1; have c26 := K6.out.c2; have c36 := K6.out.c3; have c46 := K6.out.c4
         have V6 := hi_ (PcsV.below V5.out.2.2.1 hb6)
         have R6 := hi_ hR6
         have z2 : w6.cell? ⟨w5.heap.size, 2, none⟩ = some (.int .i64 EE) := hR6.at_ 2
         clear hb6 hR6 hF6)
      | (go_at_call 13; refine (RTopA_any LA ln lc xs w6 (LG.out.below K6.out.bel).p HH.out.ln H12.out).mono ?_; rintro e w' ⟨he, hw'⟩; subst hw'; rw [<- HT.out] at he; subst he))
    clear d1 d2 d3 d4 d5 d6
    by_cases h1 : t < more
    case neg =>
      have e1 : decide (more <= t) = true := decide_eq_true (by omega)
      clear h1
      go_wp2_with (first
        | (go_at_call 8; refine (live18_any w6).mono ?_; rintro e wl ⟨rfl, hbl⟩; have KL := hi_ (K6.out.next hbl); clear hbl))
      go_ret
      exact ⟨rfl, KL.out.bel⟩
    have e1 : decide (more <= t) = false := decide_eq_false (by omega)
    by_cases h2 : EE <= more
    case neg =>
      have e2 : decide (more < EE) = true := decide_eq_true (by omega)
      clear h1 h2
      go_wp2_with (first
        | (go_at_call 8; refine (live18_any w6).mono ?_; rintro e wl ⟨rfl, hbl⟩; have KL := hi_ (K6.out.next hbl); clear hbl))
      go_ret
      exact ⟨rfl, KL.out.bel⟩
    have e2 : decide (more < EE) = false := decide_eq_false (by omega)
    by_cases h3 : more <= 281474976710656
    case neg =>
      have e3 : decide ((281474976710656 : Int) < more) = true := decide_eq_true (by omega)
      clear h1 h2 h3
      go_wp2_with (first
        | (go_at_call 8; refine (live18_any w6).mono ?_; rintro e wl ⟨rfl, hbl⟩; have KL := hi_ (K6.out.next hbl); clear hbl))
      go_ret
      exact ⟨rfl, KL.out.bel⟩
    have e3 : decide ((281474976710656 : Int) < more) = false := decide_eq_false (by omega)
    have HMO := hi_ (And.intro (show topA xs < more from by rw [<- HT.out]; exact h1) (And.intro h2 h3))
    clear h1 h2 h3
    obtain ⟨tb, htb⟩ : ∃ tb, tb = w5.heap.size := ⟨_, rfl⟩
    have HTB := hi_ (show tb < w6.heap.size by rw [htb]; exact R6.out.lt)
    rw [<- htb] at R6 z2 ⊢
    have HRF : Hid (∀ y, w5.heap.size <= y \/ y < w4.heap.size \/ True) := hi_ (fun _ => .inr (.inr trivial))
    clear htb
    go_wp2
    clear z2 e1 e2 e3 c06 c16 c26 c36 c46
    have I0 : Hid (GrwI w6 w6 (.slice none 0 0) (.slice none 0 0) [] [] [] [] (fun _ => False) (fun _ => False)) := hi_ (GrwI.start w6)
    have hTs := V5.out.1.le
    have hup := V5.out.1.upto (show hd0 <= hd0 + lg by have h := HLG.out; omega)
    have hTr : 0 <= TT /\ TT <= 281474976710656 := by have h := HD.out; have h' := HLG.out; omega
    have hQr : 0 <= QQ /\ QQ <= 140737488360000 := by have h := HD.out; have h' := V5.out.2.1; omega
    clear hTs hup
    have HFN := hi_ (show fn <= 20 from h4)
    go_loopw [19, 20, 21] (fun rv sv iv wr => ∃ (j sl : Nat) (vr vs : List Value) (DR DS : Nat -> Prop) (secs : List (List UInt8)), j <= fn /\ iv = .int .i64 j /\ Hid (secs = secsOf more TT QQ (recsOf (fs.take j)) /\ secs.length = sl) /\ Hid (GrwI w6 wr rv sv (recsOf (fs.take j)) secs vr vs DR DS) /\ Hid (∀ b ∈ recsOf (fs.take j), okF b /\ b.length <= 100000) /\ sl <= 2000 * j) (fun _ _ iv _ => fn - (intOf iv).toNat)
    case atStart => exact ⟨0, 0, [], [], _, _, [], Nat.zero_le _, rfl, hi_ ⟨by simp [recsOf, secsOf], rfl⟩, by simpa [recsOf] using I0, hi_ (fun b hb => by simp [recsOf] at hb), Nat.zero_le _⟩
    case round =>
      obtain ⟨j, sl, vr, vs, DR, DS, secs, hj, rfl, HS, HI, HOK, hsl⟩ := hrel
      have BW := hi_ HI.out.r.bel
      have KW := hi_ (K6.out.next BW.out)
      have kc0 := KW.out.c0
      have kc1 := KW.out.c1
      have kc2 := KW.out.c2
      have kc3 := KW.out.c3
      have kc4 := KW.out.c4
      have RW := hi_ (R6.out.below BW.out HTB.out)
      have z1 : wr.cell? ⟨tb, 1, none⟩ = some (.int .i64 TT) := RW.out.at_ 1
      have z3 : wr.cell? ⟨tb, 3, none⟩ = some (.int .i64 QQ) := RW.out.at_ 3
      have hrl : (recsOf (fs.take j)).length = j := by unfold recsOf; rw [List.length_map, List.length_take, HH.out.f.len]; omega
      have owr := HI.out.r.gr.ow
      have ows := HI.out.s.gr.ow
      rw [hrl] at owr
      rw [HS.out.2] at ows
      obtain ⟨UA, uc, rfl, huc, _, _⟩ := own_vrow owr
      obtain ⟨ZA, zc, rfl, hzc, _, _⟩ := own_vrow ows
      have HRL := hi_ hrl
      clear hrl owr ows
      by_cases hjf : j < fn
      case pos =>
        obtain ⟨x, hx⟩ : ∃ x, fs[j]? = some x := ⟨_, List.getElem?_eq_getElem (by rw [HH.out.f.len]; exact hjf)⟩
        have hxm := List.mem_of_getElem? hx
        have BW0 := hi_ (K6.out.bel.trans (BW.out.mono K6.out.bel.size))
        obtain ⟨fb, fo, XA, xn, xc, rfl, hfb, hfcell, hxv, hxc⟩ := (HH.out.f.below BW0.out).cell hx
        have hxn := hxv.len
        have hxw := HH.out.fw x hxm
        have HXV := hi_ (And.intro hxv (And.intro hxn hxw))
        have HX := hi_ hx
        clear hx hxm hfb hxv hxw
        go_wp2_with fail
        refine (FMuch_any XA xn xc x wr HXV.out.1 (by rw [<- HXV.out.2.1]; exact HXV.out.2.2.2) (fun y hy => (HXV.out.2.2.1 y hy).2)).mono ?_
        rintro e w' ⟨hw', r, rfl, hr⟩
        subst hw'
        cases r
        case true =>
          clear hr
          go_wp2_with (first
            | (go_at_call 8; refine (live18_any wr).mono ?_; rintro e wl ⟨rfl, hbl⟩; have KL := hi_ (KW.out.next hbl); clear hbl))
          go_ret
          exact ⟨rfl, KL.out.bel⟩
        case false =>
          have hsm := hr rfl
          clear hr
          by_cases hck : frCheck x = 0
          case neg =>
            have f1 : (frCheck x != 0) = true := by simpa using hck
            obtain ⟨ck, hckv⟩ : ∃ ck, ck = frCheck x := ⟨_, rfl⟩
            have HCK := hi_ hckv
            rw [<- hckv] at f1
            clear hckv hck hsm
            go_wp2_with (first
              | (go_at_call 24; refine (RFCheck_any XA xn xc x wr HXV.out.1 (by rw [<- HXV.out.2.1]; exact HXV.out.2.2.2) (fun y hy => (HXV.out.2.2.1 y hy).2)).mono ?_; rintro e wq ⟨he, hbq⟩; rw [<- HCK.out] at he; subst he; have KQ := hi_ (KW.out.next hbq); clear hbq)
              | (go_at_call 8; refine (live18_any wq).mono ?_; rintro e wl ⟨rfl, hbl⟩; have KL := hi_ (KQ.out.next hbl); clear hbl))
            go_ret
            exact ⟨rfl, KL.out.bel⟩
          case pos =>
            have HCK := hi_ hck
            have HSM := hi_ hsm
            clear hck hsm
            have HSB : Hid ((frBytes x).length <= 100000) := hi_ (frBytes_short (by have h1 := HSM.out.1; have h2 := HXV.out.2.1; omega) (fun y hy => by have := HSM.out.2 y hy; omega))
            obtain ⟨T2, hT2⟩ : ∃ T2, T2 = TT + (sl : Int) := ⟨_, rfl⟩
            obtain ⟨Q2, hQ2⟩ : ∃ Q2, Q2 = QQ + (j : Int) := ⟨_, rfl⟩
            have u1 : TT + (sl : Int) = T2 := hT2.symm
            have u2 : wrap64 T2 = T2 := by unfold wrap64; omega
            have u3 : IntKind.i64.wrap T2 = T2 := by rw [wrapEq]; exact u2
            have u4 : QQ + (j : Int) = Q2 := hQ2.symm
            have u5 : wrap64 Q2 = Q2 := by unfold wrap64; omega
            have u6 : IntKind.i64.wrap Q2 = Q2 := by rw [wrapEq]; exact u5
            have HT2 := hi_ (show (T2 = TT + (sl : Int) /\ Q2 = QQ + (j : Int)) /\ (0 <= Q2 /\ Q2 <= 281474976710656) /\ (-4611686018427387904 <= T2 /\ T2 <= 4611686018427387904) from ⟨⟨hT2, hQ2⟩, by omega, by omega⟩)
            clear hT2 hQ2 z1 z3
            go_wp2_with (first
              | (go_at_call 24; refine (RFCheck_any XA xn xc x wr HXV.out.1 (by rw [<- HXV.out.2.1]; exact HXV.out.2.2.2) (fun y hy => (HXV.out.2.2.1 y hy).2)).mono ?_; rintro e wq ⟨he, hbq⟩; rw [HCK.out] at he; subst he; have BQ := hi_ hbq; have qf := (hbq.cell (p := ⟨fb, fo + j, none⟩) (World.block_lt_of_cell? wr _ hfcell)).trans hfcell; have QF := hi_ qf; clear hbq)
              | (go_at_call 25; refine (RFBytesO_any XA xn xc x wq (HXV.out.1.below BQ.out) (by have := HSM.out.1; omega) (fun y hy => by have := HSM.out.2 y hy; omega)).mono ?_; rintro e w7 ⟨v7, k7, rfl, ho7, hb7⟩
                 obtain ⟨B7, c7, rfl, hc7, _, hr7⟩ := Rd.of_own ho7 rfl
                 have BW7 := hi_ (show Below wr.heap.size wr w7 from BQ.out.trans (hb7.mono BQ.out.size))
                 have R7 := hi_ (And.intro hr7 (And.intro hc7 (show ∀ b o, B7 = some ⟨b, o, none⟩ -> 0 < k7 -> wr.heap.size <= b from fun b o e _ => Nat.le_trans BQ.out.size (own_block ho7 e))))
                 clear ho7 hb7 hr7 hc7)
              | (at_builtin; have _t := R7; refine wpList_appX (K := fun y => w7.heap.size <= y) rowsT rfl (.tmp 115) (.tmp 117) rfl w6.heap.size (.slice UA j uc) j vr rfl (by have := HI.out.r.own (cs := #[.slice B7 k7 c7]) (t := 35) BW7.out; rw [HRL.out] at this; exact this) (some ⟨w7.heap.size, 0, none⟩) 1 1 [.slice B7 k7 c7] rfl (VRow.new w7 #[.slice B7 k7 c7] _ 1 1 rfl) (fun u hu => by simp at hu; rw [hu]; rfl) (by have := HFN.out; omega) (by decide) (by simp; exact Nat.le_succ_of_le (BW.out.trans (BW7.out.mono BW.out.size)).size) ?_; intro v8 w8 ho8 hg8 hv8
                 obtain ⟨vr8, DR8, hG8⟩ := HI.out.putR BW7.out R7.out.1 R7.out.2.1 R7.out.2.2 (by rw [HRL.out]; exact ho8) hg8 hv8
                 obtain ⟨A8, c8, rfl, _, _, _⟩ := own_vrow ho8
                 have hr8 : Rd w8 B7 k7 (frBytes x) := (R7.out.1.alloc (.cells #[.slice B7 k7 c7] 35)).block hg8.size (fun b o e => by
                 subst e
                 have h5 : 0 < k7 := by have := R7.out.1.1; unfold frBytes at this; simp only [List.length_append, numB_length] at this; omega
                 have h6 := rd_lt R7.out.1 h5
                 refine hg8.block b (Nat.lt_of_lt_of_le h6 ((Below.refl _ w7).alloc (Nat.le_refl _) _).size) (fun e => ?_)
                 have h7 := (own_geB HI.out.r.gr.ow e.symm).2
                 have h8 := R7.out.2.2 b o rfl h5
                 omega)
                 have RR8 := hi_ hr8
                 have G8 := hi_ hG8
                 have hR8 := R6.out.below hG8.r.bel HTB.out
                 have y1 : w8.cell? ⟨tb, 1, none⟩ = some (.int .i64 TT) := hR8.at_ 1
                 have y3 : w8.cell? ⟨tb, 3, none⟩ = some (.int .i64 QQ) := hR8.at_ 3
                 clear ho8 hg8 hv8 hG8 hr8 hR8)
              | (go_at_call 26; refine (RSealed_any B7 k7 c7 (frBytes x) more T2 Q2 w8 RR8.out R7.out.2.1 (by have := RR8.out.1; have := HSB.out; omega) HT2.out.2.1 HT2.out.2.2).mono ?_; rintro e w9 ⟨lv9, vs9, D9, rfl, hp9, hD9⟩
                 obtain ⟨S9, c9, rfl, _, _, hv9⟩ := own_vrow hp9.gr.ow
                 have P9 := hi_ (And.intro hp9 (And.intro hD9 hv9))
                 clear hp9 hD9 hv9)
              | (at_builtin; have _t := P9; refine wpList_appX rowsT rfl (.tmp 119) (.tmp 131) rfl w6.heap.size (.slice ZA sl zc) sl vs rfl (by have := own_keep G8.out.s.gr.ow P9.out.1.bel; rw [HS.out.2] at this; exact this) S9 (sealedL more T2 Q2 (frBytes x)).length c9 vs9 rfl P9.out.2.2 (P9.out.1.gr.hd.one fun x r hx => EPc.one hx) (by rw [sealedL_len]; have := needN_le HSB.out; have := HFN.out; omega) (by decide) (Nat.le_trans G8.out.s.bel.size P9.out.1.bel.size) ?_; intro v10 w10 ho10 hg10 hv10
                 have hG10 := G8.out.putS P9.out.1.bel P9.out.1.gr.hd (fun y hy => ⟨P9.out.2.1 y hy, (P9.out.1.gr.dx y hy).1⟩) (by rw [HS.out.2]; exact ho10) hg10 hv10
                 have G10 := hi_ hG10
                 clear ho10 hg10 hv10 hG10))
            go_roundw
            case rel =>
              refine ⟨j + 1, sl + (sealedL more T2 Q2 (frBytes x)).length, vr8, _, DR8, _, secs ++ sealedL more T2 Q2 (frBytes x), hjf, by go_num, hi_ ⟨?_, by rw [List.length_append, HS.out.2]⟩, hi_ (by rw [recsOf_snoc HX.out]; exact G10.out), hi_ (fun b hb => ?_), ?_⟩
              · rw [recsOf_snoc HX.out, secsOf_snoc, <- HS.out.1, HS.out.2, HRL.out, HT2.out.1.1, HT2.out.1.2]
              · rw [recsOf_snoc HX.out] at hb
                rcases List.mem_append.1 hb with q | q
                · exact HOK.out b q
                · rw [List.mem_singleton.1 q]
                  exact ⟨frBytes_ok HCK.out (fun y hy => (HXV.out.2.2.1 y hy).1), HSB.out⟩
              · rw [sealedL_len]
                have := needN_le HSB.out
                omega
            case measure => simp [intOf]; omega
      case neg =>
        obtain rfl : j = fn := by omega
        have hft : fs.take j = fs := List.take_of_length_le (by rw [HH.out.f.len]; exact Nat.le_refl _)
        rw [hft] at HS HI HOK HRL
        clear hft hfn
        obtain ⟨recs, hrecs⟩ : ∃ recs, recs = recsOf fs := ⟨_, rfl⟩
        rw [<- hrecs] at HS HI HOK HRL
        obtain ⟨rz, hrz⟩ : ∃ rz, rz = roomZ true lg hd0 TT := ⟨_, rfl⟩
        have HRZ := hi_ hrz
        have HSL := hi_ hsl
        by_cases hroom : (sl : Int) <= rz
        case neg =>
          have g1 : decide (rz < (sl : Int)) = true := decide_eq_true (by omega)
          clear hroom hrz hrecs
          go_wp2_with (first
            | (go_at_call 27; refine (RRoom_any lg pg en gn A n cap ks wr KW.out.rd CR.out (fun _ => HRN.out) hd0 TT).mono ?_; rintro e wa ⟨he, hba⟩; rw [<- HRZ.out] at he; subst he
               have KA := hi_ (KW.out.next hba)
               have c0A := KA.out.c0; have c1A := KA.out.c1; have c2A := KA.out.c2; have c3A := KA.out.c3; have c4A := KA.out.c4
               have BA := hi_ (BW.out.trans (hba.mono BW.out.size))
               have GA := hi_ (HI.out.below hba)
               have RA6 := hi_ (RW.out.under hba)
               have x1 : wa.cell? ⟨tb, 1, none⟩ = some (.int .i64 TT) := RA6.out.at_ 1
               clear hba)
            | (go_at_call 8; refine (live18_any wa).mono ?_; rintro e wl ⟨rfl, hbl⟩; have KL := hi_ (KA.out.next hbl); clear hbl))
          go_ret
          exact ⟨rfl, KL.out.bel⟩
        case pos =>
          have g1 : decide (rz < (sl : Int)) = false := decide_eq_false (by omega)
          have hrm := room_ok (by rw [<- hrz]; exact hroom)
          obtain ⟨gr, hgr⟩ : ∃ gr, gr = laidL trC TT ts 0 secs xs := ⟨_, rfl⟩
          obtain ⟨kn, hkn⟩ : ∃ kn, kn = cameL gr more TT QQ recs := ⟨_, rfl⟩
          have HGR := hi_ hgr
          have HKN := hi_ hkn
          have hgrl : gr.length = ln := by rw [hgr, laidL_len]; exact HLN.out.1
          have hknl : kn <= j := by rw [hkn, <- HRL.out]; exact cameL_le _ _ _ _ _
          have HGL : Hid (gr.length <= 40) := hi_ (by have := HLN.out.2.2; omega)
          have EFG : Hid (effR lg pg en gn gr ks = gr) := hi_ (by unfold effR; rw [HRB.out]; exact effL_yes (by rw [hgrl]; exact HLG.out))
          have hxl : 0 < xs.length /\ xs.length <= 20 := by have := HLN.out; omega
          have hbl : ∀ b ∈ recs, okF b /\ b.length <= 100000 := HOK.out
          have HDET : Hid (∀ (bs3 : List (List UInt8)) (T3 E3 Q3 : Int), Scn okF (effR lg pg en gn gr ks) (hd0 + lg) hd0 ep sq bs3 T3 E3 Q3 -> bs3 = bs ++ recs.take kn /\ True /\ Q3 = QQ + (kn : Int) /\ (0 < kn -> E3 = more)) := hi_ (fun bs3 T3 E3 Q3 hs3 => by
            rw [EFG.out] at hs3
            obtain ⟨T4, E4, h4, h5⟩ := grows18 (ts := ts) HF.out.1 (by rw [HLN.out.1]; exact HLG.out) hxl.1 hxl.2 HD.out.1 HD.out.2 V5.out.1 V5.out.2.1 (by rw [HRL.out]; omega) HMO.out.1 HMO.out.2.1 HMO.out.2.2 (by rw [<- HS.out.1, HS.out.2]; exact hrm) hbl
            rw [<- HS.out.1, <- hgr, <- hkn] at h4 h5
            obtain ⟨e1, e2, e3, e4⟩ := hs3.det h4
            exact ⟨e1, trivial, e4, fun h => by rw [e3]; exact h5 h⟩)
          have HUS : Hid (TT + ((secsOf more TT QQ recs).length : Nat) <= 562949953421312) := hi_ (by rw [<- HS.out.1, HS.out.2]; omega)
          have HQS : Hid (0 <= QQ /\ QQ + (j : Nat) <= 281474976710656) := hi_ (by omega)
          have HOKB : Hid (∀ b ∈ recs, b.length <= 100000) := hi_ fun b hb => (hbl b hb).2
          obtain ⟨A0, c0', he0, _, _, hrr⟩ := HI.out.r.done
          obtain ⟨A1, c1', he1, _, _, hss⟩ := HI.out.s.done
          have q0 : UA = A0 := by injection he0
          have q1 : ZA = A1 := by injection he1
          subst q0 q1
          rw [HRL.out] at hrr
          rw [HS.out.2] at hss
          have HKJ := hi_ hknl
          obtain ⟨Q9, hQ9⟩ : ∃ Q9, Q9 = QQ + (kn : Int) := ⟨_, rfl⟩
          have v1 : QQ + (kn : Int) = Q9 := hQ9.symm
          have v2 : wrap64 Q9 = Q9 := by unfold wrap64; omega
          have v3 : IntKind.i64.wrap Q9 = Q9 := by rw [wrapEq]; exact v2
          have HQ9 := hi_ hQ9
          have hrm2 := hi_ hrm
          have HRR := hi_ hrr
          have HSS := hi_ hss
          clear hroom hrz hrecs hgr hkn hgrl hxl hbl he0 he1 hrr hss hQ9 hrm hsl
          go_upto_region 21 with (first
            | (go_at_call 27; refine (RRoom_any lg pg en gn A n cap ks wr KW.out.rd CR.out (fun _ => HRN.out) hd0 TT).mono ?_; rintro e wa ⟨he, hba⟩; rw [<- HRZ.out] at he; subst he
               have KA := hi_ (KW.out.next hba)
               have c0A := KA.out.c0; have c1A := KA.out.c1; have c2A := KA.out.c2; have c3A := KA.out.c3; have c4A := KA.out.c4
               have BA := hi_ (BW.out.trans (hba.mono BW.out.size))
               have GA := hi_ (HI.out.below hba)
               have RA6 := hi_ (RW.out.under hba)
               have x1 : wa.cell? ⟨tb, 1, none⟩ = some (.int .i64 TT) := RA6.out.at_ 1
               have PRA := hi_ (PcsV.below HRR.out hba)
               have PSA := hi_ (PcsV.below HSS.out hba)
               clear hba)
            | (go_at_call 28; refine (RLaid_any lg pg en gn A n cap ks LA ln lc xs ZA sl zc secs TA tn tc ts TT wa KA.out.rd (LG.out.below KA.out.bel).p PSA.out (HH.out.t.below KA.out.bel) HH.out.tn HLG.out HLN.out.2.1 (by have := HLN.out.2.2; omega) (by have := HSL.out; omega) (by omega)).mono ?_; rintro e w11 ⟨DA, dc, rfl, hdv, hdc, hb11⟩
               rw [<- HGR.out] at hdv
               have K11 := hi_ (KA.out.next hb11)
               have c011 := K11.out.c0; have c111 := K11.out.c1; have c211 := K11.out.c2; have c311 := K11.out.c3; have c411 := K11.out.c4
               have B11 := hi_ (BA.out.trans (hb11.mono BA.out.size))
               have D11 := hi_ (And.intro hdv hdc)
               have P11 := hi_ (PcsV.below PRA.out hb11)
               have x1b : w11.cell? ⟨tb, 1, none⟩ = some (.int .i64 TT) := (RA6.out.under hb11).at_ 1
               have x3b : w11.cell? ⟨tb, 3, none⟩ = some (.int .i64 QQ) := (RA6.out.under hb11).at_ 3
               clear hdv hdc hb11)
            | (go_at_call 29; refine (RCame_any lg pg en gn A n cap ks DA ln dc gr UA j uc recs more TT QQ w11 K11.out.rd D11.out.1 P11.out HLG.out HLN.out.2.1 (by have := HLN.out.2.2; omega) (by omega) (by omega) HUS.out HQS.out HOKB.out).mono ?_; rintro e w12 ⟨he, hb12⟩; rw [<- HKN.out] at he; subst he
               have K12 := hi_ (K11.out.next hb12)
               have c012 := K12.out.c0; have c112 := K12.out.c1; have c212 := K12.out.c2; have c312 := K12.out.c3; have c412 := K12.out.c4
               have B12 := hi_ (B11.out.trans (hb12.mono B11.out.size))
               have D12 := hi_ (PcsV.below D11.out.1 hb12)
               have P12 := hi_ (PcsV.below P11.out hb12)
               clear hb12)
            | (go_at_call 10; refine (LScan_ok lg pg en gn A n cap ks DA ln dc gr HN4.out HL.out HGL.out hd0 ep sq w12 ⟨K12.out.rd, D12.out⟩).mono ?_; rintro e w13 ⟨bs3, T3, E3, Q3, QA, qn, qc, rfl, hsc, hv, hqc, _, hb13⟩
               obtain ⟨hbs3, _, hQ3, hE3⟩ := HDET.out _ _ _ _ hsc
               have V13 := hi_ (And.intro hv (And.intro hbs3 (And.intro hQ3 (And.intro hE3 hqc))))
               have K13 := hi_ (K12.out.next hb13)
               have B13 := hi_ (B12.out.trans (hb13.mono B12.out.size))
               have P13 := hi_ (PcsV.below P12.out hb13)
               clear hsc hv hqc hb13 hbs3 hE3 hQ3)
            | ((with_reducible refine wpList_stS (cs' := #[.slice QA qn qc, .int .i64 T3, .int .i64 E3, .int .i64 Q3]) tlT rfl rfl (by simp [Value.oneCell']) rfl (.tmp 25) (.tmp 163) rfl rfl rfl (Rec.new w13 _ _) ?_); intro w14 hR14 hF14
               have hb14 : Below w13.heap.size w13 w14 := (((Below.refl _ w13).alloc (Nat.le_refl _) _).trans (hF14.toBelow (B := w13.heap.size) (fun x e => by rw [e]; exact Nat.le_refl _) (by simp)))
               have K14 := hi_ (K13.out.next hb14)
               have B14 := hi_ (B13.out.trans (hb14.mono B13.out.size))
               have V14 := hi_ (PcsV.below V13.out.1 hb14)
               have P14 := hi_ (PcsV.below P13.out hb14)
               have R14 := hi_ hR14
               clear hb14 hR14 hF14))
          obtain ⟨gb, hgb⟩ : ∃ gb, gb = w13.heap.size := ⟨_, rfl⟩
          rw [<- hgb] at R14 ⊢
          have eQ : Q3 = Q9 := V13.out.2.2.1.trans HQ9.out.symm
          have eB := V13.out.2.1
          have HE3 := hi_ V13.out.2.2.2.1
          subst eQ
          subst eB
          have hx0 : Below w14.heap.size w14 w14.drew := (Below.refl _ _).drew
          have GR : Hid (Rec 31 w14.drew gb #[.slice QA qn qc, .int .i64 T3, .int .i64 E3, .int .i64 Q3]) := hi_ (R14.out.under hx0)
          have TR : Hid (Rec 31 w14.drew tb #[.slice RA rn rc, .int .i64 TT, .int .i64 EE, .int .i64 QQ]) := hi_ ((R6.out.below B14.out HTB.out).under hx0)
          have VB0 : Hid (PcsV (fun _ => True) w14.drew RA rn bs) := hi_ (PcsV.mono (PcsV.below (PcsV.below V6.out B14.out) hx0) fun _ _ => trivial)
          have RR0 : Hid (PcsV (fun _ => True) w14.drew UA j recs) := hi_ (PcsV.below P14.out hx0)
          have HV0 : Hid (PcsV (fun _ => True) w14.drew QA qn (bs ++ recs.take kn)) := hi_ (PcsV.mono (PcsV.below V14.out hx0) fun _ _ => trivial)
          have HX0 := hi_ hx0
          have HRN2 := hi_ (PcsV.len VB0.out)
          have hrn2 : rn <= 1024 := by have h1 := HRN2.out; have h2 := V5.out.2.1; omega
          have hkn20 : kn <= 20 := Nat.le_trans HKJ.out HFN.out
          have HQN : Hid (qn <= 2000) := hi_ (by have h1 := PcsV.len HV0.out; have h2 := V5.out.2.1; rw [List.length_append, List.length_take] at h1; omega)
          have HS0 : Hid (w14.drew.cell? ⟨gb, 0, none⟩ = some (.slice QA qn qc) /\ w14.drew.cell? ⟨gb, 3, none⟩ = some (.int .i64 Q3) /\ w14.drew.cell? ⟨tb, 0, none⟩ = some (.slice RA rn rc) /\ w14.drew.cell? ⟨tb, 3, none⟩ = some (.int .i64 QQ)) := hi_ ⟨GR.out.at_ 0, GR.out.at_ 3, TR.out.at_ 0, TR.out.at_ 3⟩
          have HUC := hi_ (show kn <= uc from Nat.le_trans HKJ.out huc)
          have hk0' : 0 <= (kn : Int) := by omega
          clear hgb hx0 x1 x1b x3b  c0A c1A c2A c3A c4A c011 c111 c211 c311 c411 c012 c112 c212 c312 c412
          refine wp_region_noPanic ?_
          refine wp_region_held_drew (S := fun W => W.cell? ⟨gb, 0, none⟩ = some (.slice QA qn qc) /\ W.cell? ⟨gb, 3, none⟩ = some (.int .i64 Q3) /\ W.cell? ⟨tb, 0, none⟩ = some (.slice RA rn rc) /\ W.cell? ⟨tb, 3, none⟩ = some (.int .i64 QQ)) (by kernel_rfl) HS0.out (fun hHeld => ?_)
          generalize w14.drew = x0 at HX0 GR TR VB0 RR0 HV0 HS0 hHeld ⊢
          obtain ⟨vb, hvb1, hvb2, hvb3⟩ := VB0.out
          obtain ⟨vr2, hvr1, hvr2, hvr3⟩ := RR0.out
          have VBR := hi_ (And.intro hvb2 (hvb3.one fun x r hx => EPc.one hx))
          have VRR := hi_ (And.intro hvr2 (hvr3.one fun x r hx => EPc.one hx))
          have HVB := hi_ hvb3
          have HVR := hi_ hvr3
          clear hvb1 hvb2 hvb3 hvr1 hvr2 hvr3 VB0 RR0 HS0
          have huq := HUC.out
          refine tj_ 0 ⟨some 164, .fieldAddr 31 (.tmp 25) 0, 0, "law.go:80", #[], none⟩ hHeld (h := ?_)
          refine tj_ 1 ⟨some 165, .load 25 (.tmp 164), 25, "law.go:80", #[⟨0, .data⟩], none⟩ hHeld (h := ?_)
          refine tj_ 3 ⟨some 167, .fieldAddr 31 (.tmp 17) 0, 0, "law.go:80", #[], none⟩ hHeld (h := ?_)
          refine tj_ 4 ⟨some 168, .load 25 (.tmp 167), 25, "law.go:80", #[⟨3, .data⟩], none⟩ hHeld (h := ?_)
          refine tj_ 6 ⟨some 170, .move (.tmp 19), 25, "law.go:80", #[], none⟩ hHeld (h := ?_)
          refine tj_ 7 ⟨some 171, .move (.tmp 24), 3, "law.go:80", #[], none⟩ hHeld (h := ?_)
          refine tj_ 8 ⟨some 172, .slice 25 (.tmp 170) none (some (.tmp 171)) none, 25, "law.go:80", #[⟨6, .data⟩, ⟨7, .data⟩], none⟩ hHeld (h := ?_)
          refine wpAnyH_ready (rs := [2]) (by kernel_rfl) (by simp) ?_
          refine AllReadyH.cons (o := ⟨some 166, .buildSlice 25 0 #[], 25, "law.go:80", #[], none⟩) rfl (fun K' hK => ?_) AllReadyH.nil
          go_simp
          obtain ⟨xB, hxB⟩ : ∃ v, v = x0.alloc (.cells #[] 35) := ⟨_, rfl⟩
          have hoB : xB.ownsRow x0.heap.size 35 1 (.slice (some ⟨x0.heap.size, 0, none⟩) 0 0) 0 [] := by rw [hxB]; exact World.ownsRow_made x0 #[] 0 (Nat.le_refl _) (Nat.zero_le _) rfl
          have hbB : Below x0.heap.size x0 xB := by rw [hxB]; exact (Below.refl _ _).alloc (Nat.le_refl _) _
          rw [<- hxB]
          have OB := hi_ hoB
          have BX := hi_ hbB
          clear hxB hoB hbB
          refine hK.out _ _ ⟨(GR.out.under BX.out).at_ 0, (GR.out.under BX.out).at_ 3, (TR.out.under BX.out).at_ 0, (TR.out.under BX.out).at_ 3⟩ (fun hHeld => ?_)
          clear hK K'
          try simp only [Act.put, sA_, sB_, sC_]
          refine wpAnyH_ready (rs := [5]) (by kernel_rfl) (by simp) ?_
          refine AllReadyH.cons (o := ⟨some 169, .call { callee := .builtin .append, args := #[.tmp 166, .tmp 168], argTypes := #[25, 25] }, 25, "law.go:80", #[⟨2, .data⟩, ⟨4, .data⟩], none⟩) rfl (fun K' hK => ?_) AllReadyH.nil
          refine step_appX (K := fun _ => True) rowsT rfl (.tmp 166) (.tmp 168) rfl x0.heap.size (.slice (some ⟨x0.heap.size, 0, none⟩) 0 0) 0 [] rfl OB.out RA rn rc vb rfl (VBR.out.1.below BX.out) VBR.out.2 (by omega) (by decide) BX.out.size ?_; intro v5 xP ho5 hg5 hv5
          have hbP := BX.out.trans (below_own OB.out BX.out.size hg5)
          rw [Nat.zero_add, List.nil_append] at ho5
          replace BX : Hid (Below x0.heap.size x0 xP) := hi_ hbP
          have OP := hi_ ho5
          clear ho5 hg5 hv5 hbP OB
          refine hK.out _ _ ⟨(GR.out.under BX.out).at_ 0, (GR.out.under BX.out).at_ 3, (TR.out.under BX.out).at_ 0, (TR.out.under BX.out).at_ 3⟩ (fun hHeld => ?_)
          clear hK K'
          try simp only [Act.put, sA_, sB_, sC_]
          refine wpAnyH_ready (rs := [9]) (by kernel_rfl) (by simp) ?_
          refine AllReadyH.cons (o := ⟨some 173, .call { callee := .builtin .append, args := #[.tmp 169, .tmp 172], argTypes := #[25, 25] }, 25, "law.go:80", #[⟨5, .data⟩, ⟨8, .data⟩, ⟨5, .chain⟩], none⟩) rfl (fun K' hK => ?_) AllReadyH.nil
          refine step_appX (K := fun _ => True) rowsT rfl (.tmp 169) (.tmp 172) rfl x0.heap.size v5 rn vb rfl OP.out UA kn uc (vr2.take kn) rfl ((VRR.out.1.below BX.out).pre HKJ.out) (fun u hu => VRR.out.2 u (List.mem_of_mem_take hu)) (by omega) (by decide) BX.out.size ?_; intro v6 xQ ho6 hg6 hv6
          have hbQ := BX.out.trans (below_own OP.out BX.out.size hg6)
          replace BX : Hid (Below x0.heap.size x0 xQ) := hi_ hbQ
          obtain ⟨A6, c6, rfl, hc6, _, vz, hz1, hz2, hz3⟩ := own_rowsL ho6 ((HVB.out.imp fun _ _ hx => EPc.ok.below hx BX.out).app ((by have := (HVR.out.imp fun _ _ hx => EPc.ok.below hx BX.out).take kn; rwa [Nat.mul_one] at this) : HdL 1 (EPc (fun _ => True) xQ) (vr2.take kn) (recs.take kn))) (by rw [List.length_append, List.length_take, HRL.out, HRN2.out, Nat.min_eq_left HKJ.out])
          have HV6 : Hid (PcsV (fun _ => True) xQ A6 (rn + kn) (bs ++ recs.take kn)) := hi_ ⟨vz, hz1, hz2.mono (fun _ _ => trivial), hz3⟩
          have CSM := RSameP_any QA A6 qn (rn + kn) qc c6 (bs ++ recs.take kn) (bs ++ recs.take kn) xQ (PcsV.below HV0.out BX.out) HV6.out (by have := HQN.out; omega) (by omega)
          rw [decide_eq_true rfl] at CSM
          have CS := hi_ CSM
          clear ho6 hg6 hv6 hbQ hc6 hz1 hz2 hz3 CSM OP
          refine hK.out _ _ ⟨(GR.out.under BX.out).at_ 0, (GR.out.under BX.out).at_ 3, (TR.out.under BX.out).at_ 0, (TR.out.under BX.out).at_ 3⟩ (fun hHeld => ?_)
          clear hK K'
          try simp only [Act.put, sA_, sB_, sC_]
          refine wpAnyH_ready (rs := [10]) (by kernel_rfl) (by simp) ?_
          refine AllReadyH.cons (o := ⟨some 174, .call { callee := .value (.func 30), args := #[.tmp 165, .tmp 173], argTypes := #[25, 25] }, 4, "law.go:80", #[⟨1, .data⟩, ⟨9, .data⟩, ⟨9, .chain⟩], none⟩) rfl (fun K' hK => ?_) AllReadyH.nil
          go_simp
          go_at_call 30; refine CS.out.mono ?_; rintro e xC ⟨rfl, hbC⟩
          replace BX : Hid (Below x0.heap.size x0 xC) := hi_ (BX.out.trans (hbC.mono BX.out.size))
          clear hbC
          refine hK.out _ _ ⟨(GR.out.under BX.out).at_ 0, (GR.out.under BX.out).at_ 3, (TR.out.under BX.out).at_ 0, (TR.out.under BX.out).at_ 3⟩ (fun hHeld => ?_)
          clear hK K'
          try simp only [Act.put, sA_, sB_, sC_]
          refine tj_ 11 ⟨some 175, .unOp .not 4 (.tmp 174), 4, "law.go:80", #[⟨10, .data⟩], none⟩ hHeld (h := ?_)
          refine tj_ 12 ⟨some 176, .move (.tmp 175), 4, "law.go:80", #[⟨11, .data⟩, ⟨10, .chain⟩], none⟩ hHeld (h := ?_)
          refine tj_ 13 ⟨some 177, .fieldAddr 31 (.tmp 25) 3, 0, "law.go:80", #[⟨12, .guard⟩], some (12, false)⟩ hHeld (h := ?_)
          refine tj_ 14 ⟨some 178, .load 3 (.tmp 177), 3, "law.go:80", #[⟨13, .data⟩, ⟨12, .guard⟩], some (12, false)⟩ hHeld (h := ?_)
          refine tj_ 15 ⟨some 179, .fieldAddr 31 (.tmp 17) 3, 0, "law.go:80", #[⟨12, .guard⟩], some (12, false)⟩ hHeld (h := ?_)
          refine tj_ 16 ⟨some 180, .load 3 (.tmp 179), 3, "law.go:80", #[⟨15, .data⟩, ⟨12, .guard⟩], some (12, false)⟩ hHeld (h := ?_)
          refine tj_ 17 ⟨some 181, .move (.tmp 24), 3, "law.go:80", #[⟨12, .guard⟩], some (12, false)⟩ hHeld (h := ?_)
          refine tj_ 18 ⟨some 182, .binOp .add 3 (.tmp 180) (.tmp 181) 3, 3, "law.go:80", #[⟨16, .data⟩, ⟨17, .data⟩, ⟨12, .guard⟩], some (12, false)⟩ hHeld (h := ?_)
          refine tj_ 19 ⟨some 183, .binOp .neq 3 (.tmp 178) (.tmp 182) 3, 4, "law.go:80", #[⟨14, .data⟩, ⟨18, .data⟩, ⟨12, .guard⟩], some (12, false)⟩ hHeld (h := ?_)
          refine tj_ 20 ⟨some 184, .pick (.tmp 176) (.const (.bool true)) (.tmp 183), 4, "law.go:80", #[⟨12, .data⟩, ⟨19, .data⟩], none⟩ hHeld (h := ?_)
          refine wpAnyH_done (by kernel_rfl) ?_ _
          refine NoPanic.normal ?_
          clear hHeld
          have y2 : xC.cell? ⟨gb, 2, none⟩ = some (.int .i64 E3) := (GR.out.under BX.out).at_ 2
          have KX := hi_ (K14.out.next (show Below w14.heap.size w14 xC from HX0.out.trans (BX.out.mono HX0.out.size)))
          by_cases hk0 : kn = 0
          case pos =>
            have g0 : ((kn : Int) == 0) = true := by simp [hk0]
            clear hk0
            go_wp2_with (go_at_call 8; refine (live18_any xC).mono ?_; rintro e wl ⟨rfl, hbl⟩; have KL := hi_ (KX.out.next hbl); clear hbl)
            go_ret
            exact ⟨rfl, KL.out.bel⟩
          case neg =>
            have g0 : ((kn : Int) == 0) = false := by simpa using hk0
            have g2 : (E3 == more) = true := by simp [HE3.out (Nat.pos_of_ne_zero hk0)]
            clear hk0
            go_wp2_with (go_at_call 8; refine (live18_any xC).mono ?_; rintro e wl ⟨rfl, hbl⟩; have KL := hi_ (KX.out.next hbl); clear hbl)
            go_ret
            exact ⟨rfl, KL.out.bel⟩
end
end Go.Proofs.Ythabmlbmlncbmaa
namespace Go.Proofs.Ythabmlbmlncbmaa
open Go.RowKit
theorem ScanGrows_any (lg pg en gn : Int) (A : Option Addr) (n cap : Nat) (ks : List Kd) {K KF : Nat -> Prop} (LA : Option Addr) (ln lc : Nat) (xs : List (List UInt8)) (hd0 ep sq : Int) (FA : Option Addr) (fn fc : Nat) (fs : List (List Cd)) (more : Int) (TA : Option Addr) (tn tc : Nat) (ts : List Int) (w : World)
    (H0 : GrowsH w n ks A K KF LA ln xs FA fn fs TA tn ts) :
    Calls Try.prog 5 #[cv lg pg en gn A n cap, .slice LA ln lc, .int .i64 hd0, .int .i64 ep, .int .i64 sq, .slice FA fn fc, .int .i64 more, .slice TA tn tc] w fun e w' => e = .returned (.bool true) /\ Below w.heap.size w w' := by
  cases hm : muchK ks
  · cases hR : decide (Cf.mk lg pg en gn ks).Right
    · exact ScanGrows_wrong lg pg en gn A n cap ks LA ln lc xs hd0 ep sq FA fn fc fs more TA tn tc ts w H0 hm hR
    · exact ScanGrows_go lg pg en gn A n cap ks LA ln lc xs hd0 ep sq FA fn fc fs more TA tn tc ts w H0 hm hR
  · exact ScanGrows_much lg pg en gn A n cap ks LA ln lc xs hd0 ep sq FA fn fc fs more TA tn tc ts w H0 hm
end Go.Proofs.Ythabmlbmlncbmaa
