/- FrW2, FrW3, RowM, FrO, Crc3, FrE, CdFM, RfM -/
import Derived.Test.YtlinafnhhnkjnaaQf15
import Derived.RangeFuncNested
import Derived.RangeFuncBox
import Derived.RangeFuncCalls
import Derived.RangeFuncLeaves
import Derived.OrdersIn
import Derived.Deep.RegionHeld3
namespace Go.Proofs.Ytlinafnhhnkjnaa
open Go.RowKit
set_option linter.unusedVariables false
set_option linter.unusedSimpArgs false
set_option maxRecDepth 20000

theorem getCd_d (l : List UInt8) : (getCd l).2.2 = 0 → 0 ≤ (getCd l).1.d ∧ (getCd l).1.d ≤ 3 := by
  unfold getCd
  simp only
  by_cases h0 : l.length = 0
  · rw [if_pos h0]; intro h; exact absurd h (by decide)
  rw [if_neg h0]
  by_cases h1 : 3 < (l.getD 0 0).toNat
  · rw [if_pos h1]; intro h; exact absurd h (by decide)
  rw [if_neg h1]
  by_cases h2 : (l.getD 0 0).toNat = 0
  · rw [if_pos h2]; intro _; exact ⟨by decide, by decide⟩
  rw [if_neg h2]
  by_cases h3 : l.length = 1
  · rw [if_pos h3]; intro h; exact absurd h (by decide)
  rw [if_neg h3]
  by_cases h4 : 1 < (l.getD 1 0).toNat
  · rw [if_pos h4]; intro h; exact absurd h (by decide)
  rw [if_neg h4]
  obtain ⟨e0, he0⟩ : ∃ e0, e0 = if (l.getD 1 0).toNat = 1 then 10 else 18 := ⟨_, rfl⟩
  simp only [← he0]
  by_cases h5 : (l.getD 0 0).toNat = 1
  · rw [if_pos h5]
    by_cases h6 : l.length < e0
    · rw [if_pos h6]; intro h; exact absurd h (by decide)
    · rw [if_neg h6]; intro _; exact ⟨(by decide : (0 : Int) ≤ 1), (by decide : (1 : Int) ≤ 3)⟩
  rw [if_neg h5]
  by_cases h7 : (l.getD 0 0).toNat = 3
  · rw [if_pos h7]
    by_cases h6 : l.length < e0 + 8
    · rw [if_pos h6]; intro h; exact absurd h (by decide)
    · rw [if_neg h6]; intro _; exact ⟨(by decide : (0 : Int) ≤ 3), (by decide : (3 : Int) ≤ 3)⟩
  rw [if_neg h7]
  by_cases h8 : l.length < e0 + 10
  · rw [if_pos h8]; intro h; exact absurd h (by decide)
  rw [if_neg h8]
  by_cases h9 : 64 < leN ((l.drop (e0 + 8)).take 2)
  · rw [if_pos h9]; intro h; exact absurd h (by decide)
  rw [if_neg h9]
  by_cases h10 : l.length < e0 + 10 + leN ((l.drop (e0 + 8)).take 2)
  · rw [if_pos h10]; intro h; exact absurd h (by decide)
  · rw [if_neg h10]; intro _; exact ⟨(by decide : (0 : Int) ≤ 2), (by decide : (2 : Int) ≤ 3)⟩
theorem getCd_check (l : List UInt8) (h : (getCd l).2.2 = 0) : (getCd l).1.check = 0 := by
  unfold Cd.check
  rw [if_pos (getCd_d l h), if_pos (getCd_back l h).2.2]
theorem getsL_chk (inp : List UInt8) : ∀ (k a : Nat), chkL (getsL inp k a).1 = 0
  | 0, _ => rfl
  | k + 1, a => by
    unfold getsL
    by_cases h : (getCd (inp.drop a)).2.2 = 0
    · rw [if_neg (fun e => e h)]
      show (if (getCd (inp.drop a)).1.check ≠ 0 then _ else chkL (getsL inp k _).1) = 0
      rw [if_neg (fun e => e (getCd_check _ h))]
      exact getsL_chk inp k _
    · rw [if_pos h]
      rfl
theorem frGet_chkL (l : List UInt8) : chkL (frGet l).1 = 0 := by
  unfold frGet
  repeat' split
  all_goals first | rfl | exact getsL_chk _ _ _
theorem frGet_nil (l : List UInt8) (h : (frGet l).2 ≠ 0) : (frGet l).1 = [] := by
  revert h
  unfold frGet
  repeat' split
  all_goals first | exact fun _ => rfl | exact fun h => absurd rfl h
theorem frGet_few (l : List UInt8) : (frGet l).1.length ≤ 64 ∧ ∀ x ∈ (frGet l).1, x.dt.length ≤ 64 := by
  by_cases h : (frGet l).2 = 0
  · exact (frGet_back l h).2
  · rw [frGet_nil l h]
    exact ⟨Nat.zero_le _, fun _ h => absurd h List.not_mem_nil⟩
theorem frGet_check (l : List UInt8) : frCheck (frGet l).1 = 0 := by
  unfold frCheck
  rw [if_neg (by have := (frGet_few l).1; omega)]
  exact frGet_chkL l
section
variable (A : Option Addr) (n c : Nat) (l : List UInt8) (w : World)
set_option maxHeartbeats 4000000 in
theorem FrameGets_walk (HP : FPutC) (HG : FGetC) (h : Rd w A n l) (hn : n ≤ 9223372036854775807) (hnc : n ≤ c) (hcm : c ≤ maxLen) :
    Calls Try.prog 4 #[.slice A n c] w fun e w' => e = .returned (.bool true) ∧ Below w.heap.size w w' := by
  have H := Lib.hid h
  have HPH := Lib.hid HP
  have HGH := Lib.hid HG
  have HCM := Lib.hid hcm
  clear h HP HG hcm
  by_cases hl : 1000 < n
  · go_enter Try.func4, Try.ntmps4
    go_wp2_with (go_at_call 7; refine (live14_any HPH.out w).mono ?_; rintro e w1 ⟨rfl, hB1⟩)
    go_ret
    exact ⟨rfl, hB1⟩
  obtain ⟨r, hr⟩ : ∃ r, r = frGet l := ⟨_, rfl⟩
  have CG := HGH.out A n c l w H.out (by omega) hnc HCM.out
  have CR := fun w' (hb : Below w.heap.size w w') => RFGet_any c l w' A n (H.out.below (Nat.le_refl _) hb) (by omega) hnc
  have hfew := frGet_few l
  have hchk := frGet_check l
  have hback := frGet_back l
  rw [← hr] at CG hfew hchk hback
  simp only [← hr] at CR
  have CG2 := Lib.hid CG
  have CR2 := Lib.hid CR
  have HFEW := Lib.hid hfew
  have HCHK := Lib.hid hchk
  have HBACK := Lib.hid hback
  obtain ⟨ys, er⟩ := r
  simp only at HFEW HCHK HBACK
  clear CG CR hfew hchk hback hr
  by_cases he : er = 0
  · subst he
    have HL := Lib.hid (HBACK.out rfl).1
    clear HBACK
    go_enter Try.func4, Try.ntmps4
    go_wp2_with (first
      | (go_at_call 13; have _t := CG2; refine CG2.out.mono ?_; rintro e w1 ⟨A1, n1, c1, rfl, hv1, hc1, hb1⟩
         have V1 := Lib.hid (show Below w.heap.size w w1 ∧ CdsV (fun _ => True) w1 A1 n1 ys from ⟨hb1, hv1⟩)
         have C1 := Lib.hid hc1
         clear CG2 hv1 hb1 hc1)
      | (go_at_call 18; refine (CR2.out w1 V1.out.1).mono ?_; rintro e w2 ⟨A2, n2, c2, rfl, hv2', hb2⟩
         have hv2 : CdsV (fun _ => True) w2 A2 n2 ys := hv2'
         have hn2 : n2 = n1 := hv2.len.symm.trans V1.out.2.len
         subst hn2
         have V2 := Lib.hid (And.intro (V1.out.1.trans (hb2.mono V1.out.1.size)) (And.intro (V1.out.2.below hb2) hv2))
         clear hv2 hv2' hb2)
      | (go_at_call 16; have _t := V2; refine (RFSame_yes A1 A2 n2 c1 c2 ys w2 V2.out.2.1 V2.out.2.2 (by have := HFEW.out.1; have := V2.out.2.1.len; omega)).mono ?_; rintro e w3 ⟨rfl, hb3⟩
         have V3 := Lib.hid (And.intro (V2.out.1.trans (hb3.mono V2.out.1.size)) (V2.out.2.1.below hb3))
         clear hb3)
      | (go_at_call 10; refine (code14_any _ _).mono ?_; rintro e w' ⟨rfl, hw'⟩; subst hw')
      | (go_at_call 8; have _t := V3; refine (HPH.out _ A1 n2 c1 ys w3 V3.out.2 (by have := HFEW.out.1; have := V3.out.2.len; omega) C1.out (fun x hx => Nat.le_trans (HFEW.out.2 x hx) (by decide))).mono ?_; rintro e w4 ⟨B, m, d, he, hr4, hmd, hdm, hb4⟩
         rw [HCHK.out] at he hr4
         rw [if_pos rfl, HL.out] at hr4
         subst he
         have V4 := Lib.hid (And.intro (V3.out.1.trans (hb4.mono V3.out.1.size)) hr4)
         clear hr4 hmd hdm hb4)
      | (go_at_call 14; refine (Same_yes B A m d n c l w4 V4.out.2 (H.out.below (Nat.le_refl _) V4.out.1)).mono ?_; rintro e w' ⟨rfl, hw'⟩; subst hw')
      | (go_at_call 7; have _t := V4; refine (live14_any HPH.out w4).mono ?_; rintro e w5 ⟨rfl, hb5⟩; have V5 := Lib.hid (V4.out.1.trans (hb5.mono V4.out.1.size)); clear hb5))
    go_ret
    exact ⟨rfl, V5.out⟩
  · have hne : (er != 0) = true := bne_iff_ne.2 he
    clear HBACK he
    go_enter Try.func4, Try.ntmps4
    go_wp2_with (first
      | (go_at_call 13; have _t := CG2; refine CG2.out.mono ?_; rintro e w1 ⟨A1, n1, c1, rfl, hv1, hc1, hb1⟩
         have V1 := Lib.hid (show Below w.heap.size w w1 ∧ CdsV (fun _ => True) w1 A1 n1 ys from ⟨hb1, hv1⟩)
         have C1 := Lib.hid hc1
         clear CG2 hv1 hb1 hc1)
      | (go_at_call 18; refine (CR2.out w1 V1.out.1).mono ?_; rintro e w2 ⟨A2, n2, c2, rfl, hv2', hb2⟩
         have hv2 : CdsV (fun _ => True) w2 A2 n2 ys := hv2'
         have hn2 : n2 = n1 := hv2.len.symm.trans V1.out.2.len
         subst hn2
         have V2 := Lib.hid (And.intro (V1.out.1.trans (hb2.mono V1.out.1.size)) (And.intro (V1.out.2.below hb2) hv2))
         clear hv2 hv2' hb2)
      | (go_at_call 16; have _t := V2; refine (RFSame_yes A1 A2 n2 c1 c2 ys w2 V2.out.2.1 V2.out.2.2 (by have := HFEW.out.1; have := V2.out.2.1.len; omega)).mono ?_; rintro e w3 ⟨rfl, hb3⟩
         have V3 := Lib.hid (And.intro (V2.out.1.trans (hb3.mono V2.out.1.size)) (V2.out.2.1.below hb3))
         clear hb3)
      | (go_at_call 10; refine (code14_any _ _).mono ?_; rintro e w' ⟨rfl, hw'⟩; subst hw')
      | (go_at_call 8; have _t := V3; refine (HPH.out _ A1 n2 c1 ys w3 V3.out.2 (by have := HFEW.out.1; have := V3.out.2.len; omega) C1.out (fun x hx => Nat.le_trans (HFEW.out.2 x hx) (by decide))).mono ?_; rintro e w4 ⟨B, m, d, he, hr4, hmd, hdm, hb4⟩
         rw [HCHK.out] at he
         subst he
         have V4 := Lib.hid (V3.out.1.trans (hb4.mono V3.out.1.size))
         clear hr4 hmd hdm hb4)
      | (go_at_call 7; have _t := V4; refine (live14_any HPH.out w4).mono ?_; rintro e w5 ⟨rfl, hb5⟩; have V5 := Lib.hid (V4.out.trans (hb5.mono V4.out.size)); clear hb5))
    go_ret
    exact ⟨rfl, V5.out⟩
end
end Go.Proofs.Ytlinafnhhnkjnaa
namespace Go.Proofs.Ytlinafnhhnkjnaa
open Go.RowKit
set_option linter.unusedVariables false
set_option linter.unusedSimpArgs false
set_option maxRecDepth 20000

section
variable (A : Option Addr) (n c : Nat) (l : List UInt8) (w : World)
set_option maxHeartbeats 4000000 in
theorem FrameSums_walk (HP : FPutC) (HG : FGetC) (h : Rd w A n l) (hn : n ≤ 9223372036854775807) (hnc : n ≤ c) (hcm : c ≤ maxLen) :
    Calls Try.prog 5 #[.slice A n c] w fun e w' => e = .returned (.bool true) ∧ Below w.heap.size w w' := by
  have H := Lib.hid h
  have HPH := Lib.hid HP
  have HGH := Lib.hid HG
  clear h HP HG hcm
  by_cases hl : 1000 < n
  · go_enter Try.func5, Try.ntmps5
    go_wp2_with (go_at_call 7; refine (live14_any HPH.out w).mono ?_; rintro e w1 ⟨rfl, hB1⟩)
    go_ret
    exact ⟨rfl, hB1⟩
  obtain ⟨w1, hw1⟩ : ∃ w1, w1 = w.alloc (.cells #[] 5) := ⟨_, rfl⟩
  have hb1 : Below w.heap.size w w1 := by rw [hw1]; exact (Below.refl _ _).alloc (Nat.le_refl _) _
  have O1 := Lib.hid (show w1.ownsRow w.heap.size 5 1 (.slice (some ⟨w.heap.size, 0, none⟩) 0 0) 0 [] by rw [hw1]; exact own_empty w w.heap.size 5 (Nat.le_refl _))
  have B1 := Lib.hid hb1
  have hsum : sumL l < 4294967296 := sumL_lt l
  obtain ⟨sm, hsm⟩ : ∃ q, q = sumL l := ⟨_, rfl⟩
  rw [← hsm] at hsum
  have HSM := Lib.hid hsm
  have hcv : IntKind.i64.wrap (sm : Int) = sm := IntWalk.i64_in _ (by omega)
  clear hb1 hsm
  go_enter Try.func5, Try.ntmps5
  go_wp2_with (first
    | (rw [← hw1]; clear hw1)
    | (at_builtin; have _t := O1; refine wpList_app _ bytesT rfl (.tmp 12) (.tmp 13) rfl w.heap.size _ 0 [] rfl O1.out A n c l rfl (H.out.below (Nat.le_refl _) B1.out) (by omega) B1.out.size ?_; intro v2 w2 ho2 hb2
       rw [Nat.zero_add, List.nil_append] at ho2
       have O2 := Lib.hid (And.intro (B1.out.trans hb2) ho2)
       clear O1 ho2 hb2)
    | (go_at_call 20; refine (ROf_any A n c l w2 (H.out.below (Nat.le_refl _) O2.out.1) (by omega)).mono ?_; rintro e w' ⟨he, hw'⟩; subst hw'; rw [← HSM.out] at he; subst he)
    | (go_at_call 19; refine (RNumS_any 4 (by decide) (by decide) (sm : Int) w2).mono ?_; rintro e w3 ⟨v3, rfl, ho3, hb3⟩
       obtain ⟨A3, c3, rfl, _, _, hr3⟩ := Rd.of_own ho3 rfl
       have O3 := Lib.hid (And.intro (O2.out.1.trans (hb3.mono O2.out.1.size)) (And.intro (own_keep O2.out.2 hb3) hr3))
       clear ho3 hb3 hr3)
    | (at_builtin; refine wpList_app _ bytesT rfl (.tmp 14) (.tmp 18) rfl w.heap.size _ n _ rfl O3.out.2.1 A3 4 c3 _ rfl O3.out.2.2 (by omega) O3.out.1.size ?_; intro v4 w4 ho4 hb4
       rw [← cells_append] at ho4
       obtain ⟨A4, c4, rfl, hc4, hm4, hr4⟩ := Rd.of_own ho4 rfl
       obtain ⟨r, hr⟩ : ∃ r, r = frGet (l ++ numB 4 (sm : Int)) := ⟨_, rfl⟩
       have CG := HGH.out A4 (n + 4) c4 _ w4 hr4 (by omega) hc4 hm4
       have CR := fun w' (hb : Below w4.heap.size w4 w') => RFGet_any c4 _ w' A4 (n + 4) (hr4.below (Nat.le_refl _) hb) (by omega) hc4
       rw [← hr] at CG
       simp only [← hr] at CR
       have hfew := frGet_few (l ++ numB 4 (sm : Int))
       rw [← hr] at hfew
       have CG2 := Lib.hid CG
       have CR2 := Lib.hid CR
       have B4 := Lib.hid (O3.out.1.trans hb4)
       have HFEW := Lib.hid hfew
       clear ho4 hb4 hr4 CG CR hfew hr hm4
       obtain ⟨ys, er⟩ := r)
    | (go_at_call 13; have _t := CG2; refine CG2.out.mono ?_; rintro e w5 ⟨A5, n5, c5, rfl, hv5, hc5, hb5⟩
       have V5 := Lib.hid (show Below w4.heap.size w4 w5 ∧ CdsV (fun _ => True) w5 A5 n5 ys from ⟨hb5, hv5⟩)
       clear CG2 hv5 hb5 hc5)
    | (go_at_call 18; refine (CR2.out w5 V5.out.1).mono ?_; rintro e w6 ⟨A6, n6, c6, rfl, hv6', hb6⟩
       have hv6 : CdsV (fun _ => True) w6 A6 n6 ys := hv6'
       have hn6 : n6 = n5 := hv6.len.symm.trans V5.out.2.len
       subst hn6
       have V6 := Lib.hid (And.intro (V5.out.1.trans (hb6.mono V5.out.1.size)) (And.intro (V5.out.2.below hb6) hv6))
       clear hv6 hv6' hb6)
    | (go_at_call 16; have _t := V6; refine (RFSame_yes A5 A6 n6 c5 c6 ys w6 V6.out.2.1 V6.out.2.2 (by have h1 : ys.length ≤ 64 := HFEW.out.1; have h2 : ys.length = n6 := V6.out.2.1.len; omega)).mono ?_; rintro e w7 ⟨rfl, hb7⟩
       have V7 := Lib.hid (B4.out.trans ((V6.out.1.trans (hb7.mono V6.out.1.size)).mono B4.out.size))
       clear hb7)
    | (go_at_call 10; refine (code14_any _ _).mono ?_; rintro e w' ⟨rfl, hw'⟩; subst hw')
    | (go_at_call 7; have _t := V7; refine (live14_any HPH.out w7).mono ?_; rintro e w8 ⟨rfl, hb8⟩; have V8 := Lib.hid (V7.out.trans (hb8.mono V7.out.size)); clear hb8))
  go_ret
  exact ⟨rfl, V8.out⟩
end
end Go.Proofs.Ytlinafnhhnkjnaa
namespace Go.Proofs.Ytlinafnhhnkjnaa
set_option maxRecDepth 20000

/-- Rows made of their elements' cells. -/
theorem RowsL.mk {α : Type} {sz : Nat} {E : α → List Value → Prop} {K : Nat → Prop} {w : World} {b o n : Nat} (hsz : 0 < sz) (F : Nat → α) (R : Nat → List Value) (hK : 0 < n → K b ∧ b < w.heap.size)
    (h : ∀ i, i < n → (R i).length = sz ∧ E (F i) (R i) ∧ ∀ r u, (R i)[r]? = some u → w.cell? ⟨b, o + (i * sz + r), none⟩ = some u) : RowsL sz E K w (some ⟨b, o, none⟩) n ((List.range n).map F) := by
  have hl : ∀ r ∈ (List.range n).map R, r.length = sz := fun r hr => by
    obtain ⟨i, hi, rfl⟩ := List.mem_map.1 hr
    exact (h i (List.mem_range.1 hi)).1
  refine ⟨((List.range n).map R).flatten, by simp, ⟨by rw [flatg_len hl]; simp, (fun e => by cases e), fun hp => ⟨b, o, rfl, (hK hp).1, (hK hp).2, fun j u hj => ?_⟩⟩, (List.range n).map R, rfl, by simp, hl, fun j x hx => ?_⟩
  · have hjl := (List.getElem?_eq_some_iff.1 hj).1
    rw [flatg_len hl] at hjl
    simp only [List.length_map, List.length_range] at hjl
    have hi : j / sz < n := Nat.div_lt_of_lt_mul (by rw [Nat.mul_comm]; exact hjl)
    have hr : j % sz < sz := Nat.mod_lt _ hsz
    have e : j = j / sz * sz + j % sz := by rw [Nat.mul_comm]; exact (Nat.div_add_mod j sz).symm
    have hg := flatg_get hl (k := j / sz) (i := j % sz) (r := R (j / sz)) (by rw [List.getElem?_map, List.getElem?_range hi]; rfl) hr
    rw [← e, hj] at hg
    have := (h (j / sz) hi).2.2 (j % sz) u hg.symm
    rw [← e] at this
    exact this
  · rw [List.getElem?_map] at hx
    by_cases hj : j < n
    · rw [List.getElem?_range hj] at hx
      injection hx with hx
      exact ⟨R j, by rw [List.getElem?_map, List.getElem?_range hj]; rfl, hx ▸ (h j hj).2.1⟩
    · rw [List.getElem?_eq_none (by simp; omega)] at hx
      cases hx
end Go.Proofs.Ytlinafnhhnkjnaa
namespace Go.Proofs.Ytlinafnhhnkjnaa
open Go.RowKit Go.ChangeShapes Go.WideShapes Go.Deep
set_option maxRecDepth 20000

def CdsRd (w : World) (A : Option Addr) (n : Nat) (xs : List Cd) : Prop :=
  xs.length = n ∧ CdsV (· < w.heap.size) w A n xs ∧ ∀ x ∈ xs, x.wf ∧ x.dt.length ≤ maxLen
section
variable {H : Type} {enc : TypeId × Value → H} {w : World} {base : Nat} {held : Bool}
theorem open_cmds {fuel : Nat} {cs : List Value} {x : DataW H × List MemPlace} (h : DataW.trod enc Try.prog w base (fun _ => true) held fuel 22 cs = some x) :
    ∃ A n c xs, cs = [.slice A n c] ∧ CdsRd w A n xs ∧ n ≤ c ∧ c ≤ maxLen := by
  have nil : ∀ A : Option Addr, CdsRd w A 0 [] := fun A => ⟨rfl, CdsV.nil _ _ _, fun _ h => absurd h List.not_mem_nil⟩
  rcases elems_at Try.underlying22 h with h0 | ⟨a, len, cap, hcs, hl, hm, hi⟩
  · exact ⟨none, 0, 0, [], h0, nil _, Nat.le_refl _, Nat.zero_le _⟩
  have h4 : Try.prog.cellsOf 47 = 6 := by kernel_rfl
  rw [h4] at hi
  have key : ∀ i, ∃ x : Cd × Option Addr × Nat × Nat, i < len → ((∀ j, j < 6 → w.cell? ((a.add (i * 6)).add j) = (x.1.cs x.2.1 x.2.2.1 x.2.2.2).toList[j]?) ∧ (Rd w x.2.1 x.2.2.1 x.1.dt ∧ x.2.2.1 ≤ x.2.2.2 ∧ x.2.2.2 ≤ maxLen) ∧ x.1.wf) := fun i => by
    by_cases hil : i < len
    · obtain ⟨cs', n, y, hc, ht⟩ := hi i hil
      obtain ⟨x, A, m, c, e, hx⟩ := open_cmd ht
      subst e
      exact ⟨(x, A, m, c), fun _ => ⟨fun j hj => hc j hj, hx⟩⟩
    · exact ⟨(⟨0, false, 0, 0, 0, []⟩, none, 0, 0), fun h => absurd h hil⟩
  obtain ⟨F, hF⟩ := Classical.axiomOfChoice key
  rcases Nat.eq_zero_or_pos len with h0 | hpos
  · subst h0
    exact ⟨some a, 0, cap, [], hcs, nil _, hl, hm⟩
  obtain ⟨b, off, spot⟩ := a
  have hs := (hF 0 hpos).1 0 (by decide)
  have hs' : w.cell? (((Addr.mk b off spot).add (0 * 6)).add 0) = some (.int .i64 (F 0).1.d) := hs
  have hspot : spot = none := by simpa [Addr.add] using World.cell?_spot hs'
  subst hspot
  have hlt : b < w.heap.size := by simpa [Addr.add] using World.block_lt_of_cell? w _ hs'
  refine ⟨_, len, cap, (List.range len).map fun i => (F i).1, hcs, ⟨by simp, RowsL.mk (by decide) (fun i => (F i).1) (fun i => ((F i).1.cs (F i).2.1 (F i).2.2.1 (F i).2.2.2).toList) (fun _ => ⟨hlt, hlt⟩) (fun i hi' => ⟨rfl, ⟨_, _, _, rfl, ⟨_, _, _, rfl, (hF i hi').2.1.1, fun b' o' e hn => ?_⟩, (hF i hi').2.1.2.1⟩, fun r u hr => ?_⟩), fun y hy => ?_⟩, hl, hm⟩
  · obtain ⟨b2, o2, e2, hlt2, _⟩ := (hF i hi').2.1.1.2 hn
    rw [e] at e2
    injection e2 with e2
    injection e2 with e3 e4
    exact ⟨(show b' < w.heap.size by omega), by omega⟩
  · have hr6 : r < 6 := (List.getElem?_eq_some_iff.1 hr).1
    have := (hF i hi').1 r hr6
    rw [Addr.add_lit, Addr.add_lit, Nat.add_assoc] at this
    rw [this]
    exact hr
  · obtain ⟨i, hi', rfl⟩ := List.mem_map.1 hy
    have := hF i (List.mem_range.1 hi')
    exact ⟨this.2.2, by rw [this.2.1.1.1]; exact Nat.le_trans this.2.1.2.1 this.2.1.2.2⟩
end
end Go.Proofs.Ytlinafnhhnkjnaa
namespace Go.Proofs.Ytlinafnhhnkjnaa
open Go.RowKit

/-- A row of slices of bytes, read as lists. -/
def Rds (w : World) (A : Option Addr) (k : Nat) (ls : List (List UInt8)) : Prop :=
  ls.length = k ∧ ∀ j (hj : j < ls.length), ∃ b o A' n c, A = some ⟨b, o, none⟩ ∧ n ≤ 1099511627776 ∧ w.cell? ⟨b, o + j, none⟩ = some (.slice A' n c) ∧ Rd w A' n (ls[j])

theorem Rds.nil (w : World) (A : Option Addr) : Rds w A 0 [] := ⟨rfl, fun _ h => absurd h (by simp)⟩

theorem Of_any (A : Option Addr) (k c : Nat) (ls : List (List UInt8)) (w : World) (hr : Rds w A k ls) (hk : k ≤ 1099511627776) :
    Calls Try.prog 39 #[.slice A k c] w fun e w' => e = .returned (.int .u32 (sumL ls.flatten : Nat)) ∧ w = w' := by
  go_enter Try.func39, Try.ntmps39
  go_wp2_with (go_at_call 46; refine (Start_any _).mono ?_; rintro e w' ⟨rfl, rfl⟩)
  go_loop [3, 9] (fun v i => ∃ j : Nat, j ≤ k ∧ i = .int .i64 j ∧ v = .int .u32 (addL 4294967295 (ls.take j).flatten : Nat)) (fun _ i => k - (intOf i).toNat)
  case atStart => exact ⟨0, Nat.zero_le _, rfl, rfl⟩
  case round =>
    obtain ⟨j, hj, rfl, rfl⟩ := hrel
    have ha := addL_lt (ls.take j).flatten (s := 4294967295) (by decide)
    by_cases hlt : j < k
    · obtain ⟨b, o, A', n, c', rfl, hn, hcell, hR⟩ := hr.2 j (by have := hr.1; omega)
      have hsn := take_snoc' ls j (by have := hr.1; omega)
      have HS := Lib.hid hsn
      clear hsn
      go_wp2_with (go_at_call 47; refine (Add_any _ _ _ _ _ _ ha hR hn).mono ?_; rintro e w' ⟨rfl, rfl⟩)
      go_round
      case rel => exact ⟨j + 1, hlt, by go_num, by rw [HS.out, List.flatten_append, addL_append]; simp⟩
      case measure => simp [intOf]; omega
    · go_wp2_with (go_at_call 48; refine (End_any _ _ ha).mono ?_; rintro e w' ⟨rfl, rfl⟩)
      go_ret
      exact ⟨ret_int (by rw [List.take_of_length_le (by have := hr.1; omega)]; rfl), rfl⟩

theorem Rds.one (w : World) (A : Option Addr) (n c : Nat) (l : List UInt8) (h : Rd w A n l) (hn : n ≤ 1099511627776) (T : TypeId) (fr : Nat × Nat) :
    Rds (w.alloc (.cells #[.slice A n c] T fr)) (some ⟨w.heap.size, 0, none⟩) 1 [l] :=
  ⟨rfl, fun j hj => by
    obtain rfl : j = 0 := by simp at hj; omega
    refine ⟨_, _, A, n, c, rfl, hn, ?_, h.alloc _⟩
    have h0 : (w.alloc (.cells #[.slice A n c] T fr)).heap[w.heap.size]? = some (.cells #[.slice A n c] T fr) := by
      show (w.heap.push _)[w.heap.size]? = _
      simp
    rw [cell_of_row _ w.heap.size (0 + 0) _ T fr h0]
    rfl⟩
theorem Rds.two (w : World) (A A' : Option Addr) (n n' c c' : Nat) (l l' : List UInt8) (h : Rd w A n l) (h' : Rd w A' n' l') (hn : n ≤ 1099511627776) (hn' : n' ≤ 1099511627776) (T : TypeId) (fr : Nat × Nat) :
    Rds (w.alloc (.cells #[.slice A n c, .slice A' n' c'] T fr)) (some ⟨w.heap.size, 0, none⟩) 2 [l, l'] := by
  have h0 : (w.alloc (.cells #[.slice A n c, .slice A' n' c'] T fr)).heap[w.heap.size]? = some (.cells #[.slice A n c, .slice A' n' c'] T fr) := by
    show (w.heap.push _)[w.heap.size]? = _
    simp
  refine ⟨rfl, fun j hj => ?_⟩
  obtain rfl | rfl : j = 0 ∨ j = 1 := by simp at hj; omega
  · exact ⟨_, _, A, n, c, rfl, hn, by rw [cell_of_row _ w.heap.size (0 + 0) _ T fr h0]; rfl, h.alloc _⟩
  · exact ⟨_, _, A', n', c', rfl, hn', by rw [cell_of_row _ w.heap.size (0 + 1) _ T fr h0]; rfl, h'.alloc _⟩
theorem Rds.three (w : World) (A A' A'' : Option Addr) (n n' n'' c c' c'' : Nat) (l l' l'' : List UInt8) (h : Rd w A n l) (h' : Rd w A' n' l') (h'' : Rd w A'' n'' l'') (hn : n ≤ 1099511627776) (hn' : n' ≤ 1099511627776) (hn'' : n'' ≤ 1099511627776) (T : TypeId) (fr : Nat × Nat) :
    Rds (w.alloc (.cells #[.slice A n c, .slice A' n' c', .slice A'' n'' c''] T fr)) (some ⟨w.heap.size, 0, none⟩) 3 [l, l', l''] := by
  have h0 : (w.alloc (.cells #[.slice A n c, .slice A' n' c', .slice A'' n'' c''] T fr)).heap[w.heap.size]? = some (.cells #[.slice A n c, .slice A' n' c', .slice A'' n'' c''] T fr) := by
    show (w.heap.push _)[w.heap.size]? = _
    simp
  refine ⟨rfl, fun j hj => ?_⟩
  obtain rfl | rfl | rfl : j = 0 ∨ j = 1 ∨ j = 2 := by simp at hj; omega
  · exact ⟨_, _, A, n, c, rfl, hn, by rw [cell_of_row _ w.heap.size (0 + 0) _ T fr h0]; rfl, h.alloc _⟩
  · exact ⟨_, _, A', n', c', rfl, hn', by rw [cell_of_row _ w.heap.size (0 + 1) _ T fr h0]; rfl, h'.alloc _⟩
  · exact ⟨_, _, A'', n'', c'', rfl, hn'', by rw [cell_of_row _ w.heap.size (0 + 2) _ T fr h0]; rfl, h''.alloc _⟩

theorem Of_one (A : Option Addr) (n c : Nat) (l : List UInt8) (w : World) (h : Rd w A n l) (hn : n ≤ 1099511627776) (g : Nat) (hg : g = w.heap.size) (T : TypeId) (fr : Nat × Nat) :
    Calls Try.prog 39 #[.slice (some ⟨g, 0, none⟩) 1 1] (w.alloc (.cells #[.slice A n c] T fr)) fun e w' => e = .returned (.int .u32 (sumL l : Nat)) ∧ w.alloc (.cells #[.slice A n c] T fr) = w' := by
  subst hg
  exact (Of_any _ 1 1 [l] _ (Rds.one w A n c l h hn T fr) (by decide)).mono fun _ _ hh => by simpa using hh
theorem Of_two (A A' : Option Addr) (n n' c c' : Nat) (l l' : List UInt8) (w : World) (h : Rd w A n l) (h' : Rd w A' n' l') (hn : n ≤ 1099511627776) (hn' : n' ≤ 1099511627776) (g : Nat) (hg : g = w.heap.size) (T : TypeId) (fr : Nat × Nat) :
    Calls Try.prog 39 #[.slice (some ⟨g, 0, none⟩) 2 2] (w.alloc (.cells #[.slice A n c, .slice A' n' c'] T fr)) fun e w' => e = .returned (.int .u32 (sumL (l ++ l') : Nat)) ∧ w.alloc (.cells #[.slice A n c, .slice A' n' c'] T fr) = w' := by
  subst hg
  exact (Of_any _ 2 2 [l, l'] _ (Rds.two w A A' n n' c c' l l' h h' hn hn' T fr) (by decide)).mono fun _ _ hh => by simpa using hh
theorem Of_three (A A' A'' : Option Addr) (n n' n'' c c' c'' : Nat) (l l' l'' : List UInt8) (w : World) (h : Rd w A n l) (h' : Rd w A' n' l') (h'' : Rd w A'' n'' l'') (hn : n ≤ 1099511627776) (hn' : n' ≤ 1099511627776) (hn'' : n'' ≤ 1099511627776)
    (g : Nat) (hg : g = w.heap.size) (T : TypeId) (fr : Nat × Nat) :
    Calls Try.prog 39 #[.slice (some ⟨g, 0, none⟩) 3 3] (w.alloc (.cells #[.slice A n c, .slice A' n' c', .slice A'' n'' c''] T fr)) fun e w' => e = .returned (.int .u32 (sumL (l ++ (l' ++ l'')) : Nat)) ∧ w.alloc (.cells #[.slice A n c, .slice A' n' c', .slice A'' n'' c''] T fr) = w' := by
  subst hg
  exact (Of_any _ 3 3 [l, l', l''] _ (Rds.three w A A' A'' n n' n'' c c' c'' l l' l'' h h' h'' hn hn' hn'' T fr) (by decide)).mono fun _ _ hh => by simpa using hh
theorem Of_zero (w : World) : Calls Try.prog 39 #[.slice none 0 0] w fun e w' => e = .returned (.int .u32 0) ∧ w = w' :=
  (Of_any none 0 0 [] w (Rds.nil _ _) (by decide)).mono fun _ _ h => h

theorem End_sum (l : List UInt8) (w : World) : Calls Try.prog 48 #[.int .u32 (addL 4294967295 l : Nat)] w fun e w' => e = .returned (.int .u32 (sumL l : Nat)) ∧ w = w' :=
  End_any _ w (addL_lt l (by decide))
theorem Add_from (A : Option Addr) (n c : Nat) (l : List UInt8) (w : World) (hr : Rd w A n l) (hn : n ≤ 1099511627776) :
    Calls Try.prog 47 #[.int .u32 4294967295, .slice A n c] w fun e w' => e = .returned (.int .u32 (addL 4294967295 l : Nat)) ∧ w = w' :=
  Add_any 4294967295 A n c l w (by decide) hr hn
theorem Add_more (k l : List UInt8) (A : Option Addr) (n c : Nat) (w : World) (hr : Rd w A n l) (hn : n ≤ 1099511627776) :
    Calls Try.prog 47 #[.int .u32 (addL 4294967295 k : Nat), .slice A n c] w fun e w' => e = .returned (.int .u32 (addL 4294967295 (k ++ l) : Nat)) ∧ w = w' :=
  (Add_any _ A n c l w (addL_lt k (by decide)) hr hn).mono fun _ _ h => by rw [addL_append]; exact h
end Go.Proofs.Ytlinafnhhnkjnaa
namespace Go.Proofs.Ytlinafnhhnkjnaa
open Go.RowKit
set_option linter.unusedVariables false
set_option maxRecDepth 20000

theorem CdL.new (w : World) (x : Cd) (A : Option Addr) (n c : Nat) : CdL (w.alloc (.cells (x.cs A n c) 47)) w.heap.size 0 x A n c := by
  have h := CdAt.c0 (w0 := w) (w := w.alloc (.cells (x.cs A n c) 47)) (g := w.heap.size) (x := x) (A := A) (n := n) (c := c)
  have r : Rec 47 (w.alloc (.cells (x.cs A n c) 47)) w.heap.size (x.cs A n c) := Rec.new w _ _
  exact ⟨r.at_ 0, r.at_ 1, r.at_ 2, r.at_ 3, r.at_ 4, r.at_ 5⟩
section
variable {K : Nat → Prop} (A : Option Addr) (n c : Nat) (xs : List Cd) (w : World)
set_option maxHeartbeats 1000000 in
theorem FCheck_any (h : CdsV K w A n xs) (hn : n ≤ 9223372036854775807) (hd : ∀ x ∈ xs, x.dt.length ≤ 9223372036854775807) :
    Calls Try.prog 11 #[.slice A n c] w fun e w' => e = .returned (.int .i64 (frCheck xs)) ∧ Below w.heap.size w w' := by
  have hl := h.len
  unfold frCheck
  rw [hl]
  by_cases h64 : 64 < n
  · rw [if_pos h64]
    clear hl
    go_enter Try.func11, Try.ntmps11
    go_wp2
    go_ret
    exact ⟨rfl, Below.refl _ _⟩
  rw [if_neg h64]
  have H := Lib.hid h
  have HL := Lib.hid hl
  have HD := Lib.hid hd
  clear h hl hd
  go_enter Try.func11, Try.ntmps11
  go_wp2
  go_loopw [11] (fun iv wr => ∃ j : Nat, j ≤ n ∧ iv = .int .i64 j ∧ Hid (chkL xs = chkL (xs.drop j)) ∧ Below w.heap.size w wr) (fun iv _ => n - (intOf iv).toNat)
  case atStart => exact ⟨0, Nat.zero_le _, rfl, Lib.hid (by simp), Below.refl _ _⟩
  case round =>
    obtain ⟨j, hj, rfl, hck, hb⟩ := hrel
    have HBw := Lib.hid hb
    by_cases hjn : j < n
    · obtain ⟨x, hx⟩ : ∃ x, xs[j]? = some x := ⟨_, List.getElem?_eq_getElem (by rw [HL.out]; exact hjn)⟩
      obtain ⟨b, o, A', m, cc, hA, hlt, hc, hr, hmc⟩ := (H.out.below hb).cell hx
      have hm := HD.out x (List.mem_of_getElem? hx)
      rw [hr.1] at hm
      obtain ⟨w1, hw1⟩ : ∃ w1, w1 = wr.alloc (.cells (x.cs A' m cc) 47) := ⟨_, rfl⟩
      have L1 := Lib.hid (show CdL w1 wr.heap.size 0 x A' m cc by rw [hw1]; exact CdL.new wr x A' m cc)
      have hb1 : Below wr.heap.size wr w1 := by rw [hw1]; exact (Below.refl _ _).alloc (Nat.le_refl _) _
      have CR := Lib.hid (Check_any x A' m cc w1 (hr.below (Nat.le_refl _) hb1) hm)
      have HB1 := Lib.hid (HBw.out.trans (hb1.mono HBw.out.size))
      subst hA
      have HCK : Hid (chkL xs = if x.check ≠ 0 then x.check else chkL (xs.drop (j + 1))) := Lib.hid (by rw [hck.out, drop_at hx]; rfl)
      obtain ⟨ck, hck'⟩ : ∃ q, q = x.check := ⟨_, rfl⟩
      rw [← hck'] at CR HCK
      have H0 := Lib.hid hc
      clear hx hr hc hck hb hck' hmc hm hb1
      by_cases h0 : ck = 0
      · subst h0
        go_wp2_with (first
          | ((with_reducible refine wpList_ldCd (b := b) (off := o + j * 6) rfl (.tmp 13) rfl rfl H0.out ?_))
          | (rw [← hw1]; clear hw1)
          | ((with_reducible refine wpList_ldCd (b := wr.heap.size) (off := 0) rfl (.tmp 4) rfl rfl L1.out ?_))
          | (go_at_call 25; refine CR.out.mono ?_; rintro e w2 ⟨rfl, hb2⟩))
        go_roundw
        case rel => exact ⟨j + 1, hjn, by go_num, Lib.hid (by rw [HCK.out]; simp), HB1.out.trans (hb2.mono HB1.out.size)⟩
        case measure => simp [intOf]; omega
      · have hne : (ck != 0) = true := bne_iff_ne.2 h0
        have HE := Lib.hid h0
        clear h0
        go_wp2_with (first
          | ((with_reducible refine wpList_ldCd (b := b) (off := o + j * 6) rfl (.tmp 13) rfl rfl H0.out ?_))
          | (rw [← hw1]; clear hw1)
          | ((with_reducible refine wpList_ldCd (b := wr.heap.size) (off := 0) rfl (.tmp 4) rfl rfl L1.out ?_))
          | (go_at_call 25; refine CR.out.mono ?_; rintro e w2 ⟨rfl, hb2⟩))
        go_ret
        refine ⟨ret_int ?_, HB1.out.trans (hb2.mono HB1.out.size)⟩
        rw [HCK.out, if_pos HE.out]
    · have hjn' : j = n := by omega
      have HJ := Lib.hid hjn'
      clear hjn'
      go_wp2
      go_ret
      refine ⟨ret_int ?_, HBw.out⟩
      rw [hck.out, HJ.out, List.drop_of_length_le (by rw [HL.out]; exact Nat.le_refl _)]
      rfl
theorem FChk_ok : FChkC := fun K A n c xs w h hn hnc hd => FCheck_any A n c xs w h (by omega) (fun x hx => Nat.le_trans (hd x hx) (by decide))
end
/-- The checksum of a row of bytes, as bytes of its own. -/
theorem fsum_any (A : Option Addr) (n c : Nat) (l : List UInt8) (w : World) (h : Rd w A n l) (hn : n ≤ 1099511627776) :
    Calls Try.prog 23 #[.slice A n c] w fun e w' => ∃ v, e = .returned v ∧ w'.ownsRow w.heap.size 5 1 v 4 (cells (numB 4 ((sumL l : Nat) : Int))) ∧ Below w.heap.size w w' := by
  have hsum := sumL_lt l
  obtain ⟨w1, hw1⟩ : ∃ w1, w1 = w.alloc (.cells #[.slice A n c] 25) := ⟨_, rfl⟩
  have CO := Of_one A n c l w h hn w.heap.size rfl 25 (0, 0)
  rw [← hw1] at CO
  obtain ⟨sm, hsm⟩ : ∃ s, s = sumL l := ⟨_, rfl⟩
  rw [← hsm] at CO hsum ⊢
  have CO2 := Lib.hid CO
  have hcv : IntKind.i64.wrap (sm : Int) = sm := IntWalk.i64_in _ (by omega)
  have hb1 : Below w.heap.size w w1 := by rw [hw1]; exact (Below.refl _ _).alloc (Nat.le_refl _) _
  have CP := Lib.hid (Put_any none 0 0 [] 4 (sm : Int) w1 (Rd.nil w1 none) (by decide))
  have HB1 := Lib.hid hb1
  clear CO hsm h hb1
  go_enter Try.func23, Try.ntmps23
  go_wp2_with (first
    | (rw [← hw1]; clear hw1)
    | (go_at_call 39; refine CO2.out.mono ?_; rintro e w' ⟨rfl, hw'⟩; subst hw')
    | (go_at_call 21; refine CP.out.mono ?_; rintro e w2 ⟨v, rfl, ho, hb2⟩))
  go_ret
  rw [show wd 4 = 4 from rfl, Nat.zero_add, List.nil_append] at ho
  exact ⟨_, rfl, own_mono ho HB1.out.size, HB1.out.trans (hb2.mono HB1.out.size)⟩
end Go.Proofs.Ytlinafnhhnkjnaa
namespace Go.Proofs.Ytlinafnhhnkjnaa
open Go.RowKit
set_option linter.unusedVariables false
set_option maxRecDepth 20000

/-- As GotS, and no more room than may be. -/
def GotM (w : World) (l : List UInt8) (e : Ending) (w' : World) : Prop := ∃ A n c, e = .returned (.slice A n c) ∧ Rd w' A n l ∧ (n ≤ c ∧ c ≤ maxLen) ∧ Below w.heap.size w w'
set_option maxHeartbeats 1000000 in
theorem CPutM_any (D : Option Addr) (m e0 : Nat) (l : List UInt8) (x : Cd) (A : Option Addr) (n c : Nat) (w : World) (hD : Rd w D m l) (hm : m ≤ 1000000) (h : Rd w A n x.dt) (hn : n ≤ 1000000) :
    Calls Try.prog 38 #[.slice D m e0, .agg (x.cs A n c)] w (GotM w (l ++ x.bytes)) := by
  obtain ⟨w1, hw1⟩ : ∃ w1, w1 = w.alloc (.cells (x.cs A n c) 47) := ⟨_, rfl⟩
  have K1 : CdAt w w1 w.heap.size x A n c := by rw [hw1]; exact CdAt.new w x A n c h
  have C1 := Lib.hid (put_any x A n c w1 K1.rd hn)
  have HX := Lib.hid (And.intro (hD.below (Nat.le_refl _) K1.bel) (And.intro K1 (And.intro h.1 x.bytes_len)))
  clear h hD K1
  go_enter Try.func38, Try.ntmps38
  go_wp2_with (first
    | (rw [← hw1]; clear hw1)
    | ((with_reducible refine wpList_ldS cdT rfl rfl (.tmp 3) rfl rfl HX.out.2.1.r ?_))
    | (go_at_call 45; refine C1.out.mono ?_; rintro e w2 ⟨A2, n2, c2, rfl, r2, hc2, hb2⟩
       have hD2 := HX.out.1.below (Nat.le_refl _) hb2
       have K2 := HX.out.2.1.next hb2
       obtain ⟨w3, hw3⟩ : ∃ w3, w3 = w2.alloc (.cells #[.slice D m e0, .slice A2 n2 c2] 25) := ⟨_, rfl⟩
       have hb3 : Below w2.heap.size w2 w3 := by rw [hw3]; exact (Below.refl _ _).alloc (Nat.le_refl _) _
       have k30 : w3.cell? ⟨w2.heap.size, 0, none⟩ = some (.slice D m e0) := by rw [hw3]; exact (Rec.new w2 25 #[.slice D m e0, .slice A2 n2 c2]).at_ 0
       have k31 : w3.cell? ⟨w2.heap.size, 1, none⟩ = some (.slice A2 n2 c2) := by rw [hw3]; exact (Rec.new w2 25 #[.slice D m e0, .slice A2 n2 c2]).at_ 1
       have hn2 : n2 ≤ 1073741824 := by have := r2.1; have := HX.out.2.2.1; have := HX.out.2.2.2; omega
       have CC := Lib.hid (concat_two w2.heap.size D A2 m e0 n2 c2 l x.bytes w3 k30 k31 (hD2.below (Nat.le_refl _) hb3) (r2.below (Nat.le_refl _) hb3) (by omega) hn2)
       have HB3 := Lib.hid (K2.bel.trans (hb3.mono K2.bel.size))
       clear hD2 K2 hb2 r2 hc2 hb3 k30 k31 hn2)
    | (rw [← hw3]; clear hw3)
    | (go_at_call 44; refine CC.out.mono ?_; rintro e w4 ⟨v4, rfl, ho4, hb4⟩))
  obtain ⟨A4, c4, rfl, hn4, hm4, hr4⟩ := Rd.of_own ho4 rfl
  go_ret
  exact ⟨_, _, _, rfl, hr4, ⟨hn4, hm4⟩, HB3.out.trans (hb4.mono HB3.out.size)⟩
end Go.Proofs.Ytlinafnhhnkjnaa
namespace Go.Proofs.Ytlinafnhhnkjnaa
open Go.RowKit
set_option linter.unusedVariables false

/-- What lies stays said of whatever world grows. -/
def Grows {β : Type} (J : β → World → Prop) : Prop := ∀ s X Y, J s X → Below X.heap.size X Y → J s Y
/-- An iterator's promise: `Px (pre, x) N W` tells what it hands to a round, where that lies in the round's world too (N: how many blocks there were when the round ahead had ended); of a round it asks that the blocks of Kp stay. -/
def SeqMem {α : Type} (P : Program) (gf : Nat) (lb : Array Value) (encs : α → Array Value) (Kp : Nat → Prop) (Px : List α × α → Nat → World → Prop) (S Sp : List α → Prop) (W : World) : Prop :=
  ∀ (l : Nat) (J Jx : List α → World → Prop), Grows J → Grows Jx →
    (∀ pre x W0 W1, J pre W0 → Below W0.heap.size W0 W1 → Px (pre, x) W0.heap.size W1 → YieldAt Fence.wide 0 P l (encs x) W1 fun e W2 => (e = .returned (.bool true) ∧ J (pre ++ [x]) W2 ∧ WStays Kp W1 W2) ∨ (e = .returned (.bool false) ∧ Jx (pre ++ [x]) W2)) →
    J [] W → CallsIn Fence.wide 0 P gf (#[.func (.yield l) #[] #[]] ++ lb) W fun e W2 => (∃ v, e = .returned v) ∧ ((∃ xs, S xs ∧ J xs W2) ∨ (∃ pre, Sp pre ∧ Jx pre W2))
/-- How a round is left. -/
def LeftBy {α : Type} (B : Nat) (Kp : Nat → Prop) (I : List α → World → Prop) (Ix : Code → List α → World → Prop) (ys : List α) (W : World) : Exit → Act → World → Prop
  | .normal, _, W2 => KeepsFrom B W W2 ∧ WStays Kp W W2 ∧ I ys W2
  | .ret, _, W2 => KeepsFrom B W W2 ∧ Ix .ret ys W2
  | .exit k, _, W2 => KeepsFrom B W W2 ∧ Ix (.exit k) ys W2
  | .goto k, _, W2 => KeepsFrom B W W2 ∧ Ix (.goto k) ys W2
  | .panic _, _, _ => False
  | .outgrown, _, _ => False
theorem below_row {X Y : World} (h : Below X.heap.size X Y) : X.grownBy Y none := ⟨h.os, h.tape, h.output, h.size, fun k hk _ => h.block k hk⟩
theorem below_at {X Y : World} (h : Below X.heap.size X Y) {k : Nat} {o : Obj} (hk : X.heap[k]? = some o) : Y.heap[k]? = some o := (h.block k (Array.getElem?_eq_some_iff.1 hk).1).trans hk
theorem own_more {β : Type} {B : Nat} {I : β → World → Prop} (h : OwnFrom B I) : Grows I := fun s X Y hs hb => h s X Y none hs (below_row hb) (fun _ e => by cases e)

/-- The law; what the round's assignments leave is `Ax`. -/
theorem wpIn_rangeFunc_memA {P : Program} {α : Type} {g : Operand} {ps : Array Tmp} {assign body : Code} {Q : Exit → Act → World → Prop} {a : Act} {w : World} {gf : Nat} {lb : Array Value}
    (hg : a.eval g = .func (.func gf) #[] lb) (eg : ∀ args w, (callFunc gf args).run P w = .ok (.enter gf args) w) {encs : α → Array Value} (hps : ∀ x, (encs x).size = ps.size)
    {Px : List α × α → Nat → World → Prop} (hPx : ∀ N, OwnFrom w.heap.size (fun s => Px s N)) {S Sp : List α → Prop} {Kp : Nat → Prop} (hU : ∀ k, Kp k → k < w.heap.size) (hseq : ∀ W, Below w.heap.size w W → SeqMem P gf lb encs Kp Px S Sp W)
    (I : List α → World → Prop) (Ix : Code → List α → World → Prop) (hI : OwnFrom w.heap.size I) (hIx : ∀ c, OwnFrom w.heap.size (Ix c)) (h0 : I [] w) {Ax : α × Act → World → Prop} (hAx : OwnFrom w.heap.size Ax)
    (hassign : ∀ (l : Nat) (x : α) (W : World) (K : Act → World → Prop), (∀ b W2, Below W.heap.size W W2 → Ax (x, b) W2 → K b W2) →
      assign.wpIn (Fence.wide.inRound l) 0 P (Exit.then K (fun _ _ _ => False)) { tmps := (ps.zip (encs x)).foldl (fun t (p, v) => t.setIfInBounds p v) a.tmps, defers := [] } W)
    (hbody : ∀ (l : Nat) (pre : List α) (x : α) (b : Act) (W0 W : World), Ax (x, b) W → I pre W0 → W0.heap.size ≤ W.heap.size → (∀ (k : Nat) (o : Obj), W0.heap[k]? = some o → o.isCells = true → W.heap[k]? = some o) → Px (pre, x) W0.heap.size W → I pre W → body.wpIn (Fence.wide.inRound l) 0 P (LeftBy w.heap.size Kp I Ix (pre ++ [x]) W) b W)
    (hdone : ∀ (D : Nat) (xs : List α) (W : World), w.heap.size ≤ D → S xs → I xs W → W.heap[D]? = some (.deferred (some [])) → Q .normal { a with defers := { target := .collected D, args := #[] } :: a.defers } W)
    (hstop : ∀ (D : Nat) (c : Code) (pre : List α) (W : World), w.heap.size ≤ D → Sp pre → Ix c pre W → W.heap[D]? = some (.deferred (some [])) → c.wpIn Fence.wide 0 P Q { a with defers := { target := .collected D, args := #[] } :: a.defers } W) :
    (Code.rangeFunc g ps assign body).wpIn Fence.wide 0 P Q a w := by
  refine wpIn_rangeFunc fun fn hfn => ?_
  obtain ⟨B, hB⟩ : ∃ B, B = w.heap.size := ⟨_, rfl⟩
  rw [← hB] at hseq hPx hI hIx hbody hdone hstop hU hAx
  let R : LoopState → Option Code → Obj := fun s p => .loop { state := s, pending := p, fn := fn, tmps := a.tmps, params := ps, assign := assign, body := body, defers := B }
  obtain ⟨V, hV⟩ : ∃ V, V = (w.alloc (.deferred (some []))).alloc (R .ready none) := ⟨_, rfl⟩
  have sV : V.heap.size = B + 2 := by rw [hV]; simp; omega
  have rV : V.heap[B + 1]? = some (R .ready none) := by
    have h := World.alloc_heap_new (w.alloc (.deferred (some []))) (R .ready none)
    rwa [World.size_alloc, ← hB, ← hV] at h
  have dV : V.heap[B]? = some (.deferred (some [])) := by
    rw [hV, hB]
    exact (Below.heap_alloc _ _ _ (by simp)).trans (World.alloc_heap_new w _)
  have iV : I [] V := by rw [hV]; exact hI.alloc _ (hI.alloc _ h0)
  have bV : Below B w V := by
    rw [hV, hB]
    exact ((Below.refl _ w).alloc (Nat.le_refl _) _).alloc (by simp) _
  have hU2 := hU
  -- what the record and the block of deferred calls are while the iterator goes on
  let J : List α → World → Prop := fun pre W => I pre W ∧ W.heap[B + 1]? = some (R .ready none) ∧ W.heap[B]? = some (.deferred (some []))
  let Jx : List α → World → Prop := fun pre W => ∃ c, Ix c pre W ∧ W.heap[B + 1]? = some (R .done (some c)) ∧ W.heap[B]? = some (.deferred (some []))
  have gJ : Grows J := fun s X Y h hb => ⟨own_more hI s X Y h.1 hb, below_at hb h.2.1, below_at hb h.2.2⟩
  have gX : Grows Jx := fun s X Y h hb => by
    obtain ⟨c, h1, h2, h3⟩ := h
    exact ⟨c, own_more (hIx c) s X Y h1 hb, below_at hb h2, below_at hb h3⟩
  -- a turn of the record
  have turn : ∀ (X : World) (o o' : Obj), X.heap[B + 1]? = some o → o.isCells = false → WStays Kp X (X.putObj (B + 1) o') := fun X o o' ho _ =>
    ⟨by simp, fun k hk => World.putObj_heap_other (by have := hU k hk; omega)⟩
  refine ⟨B + 1, [{ target := .collected B, args := #[] }], V, { target := .fn (.func gf) lb, args := #[.func (.yield (B + 1)) #[] #[]] }, V, gf, #[.func (.yield (B + 1)) #[] #[]] ++ lb, V, ?_, ?_, ?_, ?_, fun h => (by cases h), ?_⟩
  · subst hB
    rw [hV]
    exact run_enterLoop_outer _ _ _ _ _
  · simp only [resolve, hg]
    simp [go_sem]
  · intro f _
    trivial
  · simp [invoke, go_sem, eg]
  refine (hseq V bV (B + 1) J Jx gJ gX ?_ ⟨iV, rV, dV⟩).mono ?_
  · rintro pre x W0 V1 hj hb1 hp1
    have hr1 : V1.heap[B + 1]? = some (R .ready none) := (gJ pre W0 V1 hj hb1).2.1
    refine ⟨fn, _, assign, body, run_yield hr1 (hps x), roundIn_of_wpIn hfn (hassign (B + 1) x V1 _ fun b W hb2 hax => ?_)⟩
    have hb : Below W0.heap.size W0 W := hb1.trans (hb2.mono hb1.size)
    have hp : Px (pre, x) W0.heap.size W := own_more (hPx _) (pre, x) V1 W hp1 hb2
    obtain ⟨hi, hr, hd⟩ := gJ pre W0 W hj hb
    have hlt := (Array.getElem?_eq_some_iff.1 hr).1
    obtain ⟨U, hU⟩ : ∃ U, U = W.putObj (B + 1) (R .busy none) := ⟨_, rfl⟩
    have rU : U.heap[B + 1]? = some (R .busy none) := by rw [hU]; exact World.putObj_heap_same hlt
    have dU : U.heap[B]? = some (.deferred (some [])) := by rw [hU]; exact (World.putObj_heap_other (by omega)).trans hd
    have iU : I pre U := by rw [hU]; exact hI.putObj _ hi (by omega) hr rfl
    have pU : Px (pre, x) W0.heap.size U := by rw [hU]; exact (hPx _).putObj (s := (pre, x)) _ hp (by omega) hr rfl
    have cU : ∀ (k : Nat) (o : Obj), W0.heap[k]? = some o → o.isCells = true → U.heap[k]? = some o := fun k o hk ho => by
      have h1 := below_at hb hk
      have h2 : k ≠ B + 1 := fun e => by rw [e, hr] at h1; injection h1 with h1; rw [← h1] at ho; cases ho
      rw [hU]; exact (World.putObj_heap_other h2).trans h1
    have aU : Ax (x, b) U := by rw [hU]; exact hAx.putObj (s := (x, b)) _ hax (by omega) hr rfl
    have bU : WStays Kp V1 U := (show WStays Kp V1 W from ⟨hb2.size, fun k hk => hb2.block k (by have h1 := hU2 k hk; have h2 := (Array.getElem?_eq_some_iff.1 hr1).1; omega)⟩).trans <| by rw [hU]; exact turn W _ _ hr rfl
    refine ⟨U, by rw [hU]; exact run_beginRound hr rfl, ?_⟩
    -- the round's end: the record is ready again, or done
    have fin : ∀ (j : Option Code) (X : World), KeepsFrom B U X →
        (Instr.endRound (B + 1) j).run P X = .ok (.bool j.isNone) (X.putObj (B + 1) (R (if j.isNone then .ready else .done) j)) ∧ X.heap[B + 1]? = some (R .busy none) ∧
        (X.putObj (B + 1) (R (if j.isNone then .ready else .done) j)).heap[B + 1]? = some (R (if j.isNone then .ready else .done) j) ∧ (X.putObj (B + 1) (R (if j.isNone then .ready else .done) j)).heap[B]? = some (.deferred (some [])) := fun j X hk => by
      have hX : X.heap[B + 1]? = some (R .busy none) := hk.same _ _ (by omega) rU rfl
      exact ⟨run_endRound j hX, hX, World.putObj_heap_same (Array.getElem?_eq_some_iff.1 hX).1, (World.putObj_heap_other (by omega)).trans (hk.same _ _ (Nat.le_refl _) dU rfl)⟩
    have out : ∀ (c : Code) (X : World), KeepsFrom B U X → Ix c (pre ++ [x]) X → ∃ v X2, (Instr.endRound (B + 1) (some c)).run P X = .ok v X2 ∧ ((Ending.returned v = .returned (.bool true) ∧ J (pre ++ [x]) X2 ∧ WStays Kp V1 X2) ∨ (Ending.returned v = .returned (.bool false) ∧ Jx (pre ++ [x]) X2)) := fun c X hk hx => by
      obtain ⟨h1, h2, h3, h4⟩ := fin (some c) X hk
      exact ⟨_, _, h1, .inr ⟨rfl, c, (hIx c).putObj _ hx (by omega) h2 rfl, h3, h4⟩⟩
    refine wpIn_mono (hbody (B + 1) pre x b W0 U aU hj.1 (by rw [hU]; simpa using hb.size) cU pU iU) fun e _ X hX => ?_
    cases e with
    | normal =>
      obtain ⟨hk, hb, hi2⟩ := hX
      obtain ⟨h1, h2, h3, h4⟩ := fin none X hk
      exact ⟨_, _, h1, .inl ⟨rfl, ⟨hI.putObj _ hi2 (by omega) h2 rfl, h3, h4⟩, (bU.trans hb).trans (turn X _ _ h2 rfl)⟩⟩
    | ret => exact out .ret X hX.1 hX.2
    | exit k => exact out (.exit k) X hX.1 hX.2
    | goto k => exact out (.goto k) X hX.1 hX.2
    | panic c => exact hX.elim
    | outgrown => exact hX.elim
  · rintro e X ⟨⟨v, rfl⟩, h⟩
    rcases h with ⟨xs, hS, hi, hr, hd⟩ | ⟨pre, hS, c, hi, hr, hd⟩
    · exact ⟨none, _, run_endLoop hr (by simp), hdone B xs _ (by omega) hS (hI.putObj _ hi (by omega) hr rfl) ((World.putObj_heap_other (by omega)).trans hd)⟩
    · exact ⟨some c, _, run_endLoop hr (by simp), hstop B c pre _ (by omega) hS ((hIx c).putObj _ hi (by omega) hr rfl) ((World.putObj_heap_other (by omega)).trans hd)⟩
/-- The same, in a function that is walked plainly. -/
theorem wp_rangeFunc_memA {P : Program} {α : Type} {g : Operand} {ps : Array Tmp} {assign body : Code} {Q : Exit → Act → World → Prop} {a : Act} {w : World} {gf : Nat} {lb : Array Value}
    (hg : a.eval g = .func (.func gf) #[] lb) (eg : ∀ args w, (callFunc gf args).run P w = .ok (.enter gf args) w) {encs : α → Array Value} (hps : ∀ x, (encs x).size = ps.size)
    {Px : List α × α → Nat → World → Prop} (hPx : ∀ N, OwnFrom w.heap.size (fun s => Px s N)) {S Sp : List α → Prop} {Kp : Nat → Prop} (hU : ∀ k, Kp k → k < w.heap.size) (hseq : ∀ W, Below w.heap.size w W → SeqMem P gf lb encs Kp Px S Sp W)
    (I : List α → World → Prop) (Ix : Code → List α → World → Prop) (hI : OwnFrom w.heap.size I) (hIx : ∀ c, OwnFrom w.heap.size (Ix c)) (h0 : I [] w) {Ax : α × Act → World → Prop} (hAx : OwnFrom w.heap.size Ax)
    (hassign : ∀ (l : Nat) (x : α) (W : World) (K : Act → World → Prop), (∀ b W2, Below W.heap.size W W2 → Ax (x, b) W2 → K b W2) →
      assign.wpIn (Fence.wide.inRound l) 0 P (Exit.then K (fun _ _ _ => False)) { tmps := (ps.zip (encs x)).foldl (fun t (p, v) => t.setIfInBounds p v) a.tmps, defers := [] } W)
    (hbody : ∀ (l : Nat) (pre : List α) (x : α) (b : Act) (W0 W : World), Ax (x, b) W → I pre W0 → W0.heap.size ≤ W.heap.size → (∀ (k : Nat) (o : Obj), W0.heap[k]? = some o → o.isCells = true → W.heap[k]? = some o) → Px (pre, x) W0.heap.size W → I pre W → body.wpIn (Fence.wide.inRound l) 0 P (LeftBy w.heap.size Kp I Ix (pre ++ [x]) W) b W)
    (hdone : ∀ (D : Nat) (xs : List α) (W : World), w.heap.size ≤ D → S xs → I xs W → W.heap[D]? = some (.deferred (some [])) → Q .normal { a with defers := { target := .collected D, args := #[] } :: a.defers } W)
    (hstop : ∀ (D : Nat) (c : Code) (pre : List α) (W : World), w.heap.size ≤ D → Sp pre → Ix c pre W → W.heap[D]? = some (.deferred (some [])) → c.wp P Q { a with defers := { target := .collected D, args := #[] } :: a.defers } W) :
    (Code.rangeFunc g ps assign body).wp P Q a w :=
  wpIn_wide.1 (wpIn_rangeFunc_memA hg eg hps hPx hU hseq I Ix hI hIx h0 hAx hassign hbody hdone fun D c pre W h1 h2 h3 h4 => wpIn_wide.2 (hstop D c pre W h1 h2 h3 h4))
theorem wpIn_rangeFunc_mem {P : Program} {α : Type} {g : Operand} {ps : Array Tmp} {assign body : Code} {Q : Exit → Act → World → Prop} {a : Act} {w : World} {gf : Nat} {lb : Array Value}
    (hg : a.eval g = .func (.func gf) #[] lb) (eg : ∀ args w, (callFunc gf args).run P w = .ok (.enter gf args) w) {encs : α → Array Value} (hps : ∀ x, (encs x).size = ps.size)
    {Px : List α × α → Nat → World → Prop} (hPx : ∀ N, OwnFrom w.heap.size (fun s => Px s N)) {S Sp : List α → Prop} {Kp : Nat → Prop} (hU : ∀ k, Kp k → k < w.heap.size) (hseq : ∀ W, Below w.heap.size w W → SeqMem P gf lb encs Kp Px S Sp W)
    (I : List α → World → Prop) (Ix : Code → List α → World → Prop) (hI : OwnFrom w.heap.size I) (hIx : ∀ c, OwnFrom w.heap.size (Ix c)) (h0 : I [] w) (a₁ : α → Act)
    (hassign : ∀ (l : Nat) (x : α) (W : World) (K : Act → World → Prop), K (a₁ x) W →
      assign.wpIn (Fence.wide.inRound l) 0 P (Exit.then K (fun _ _ _ => False)) { tmps := (ps.zip (encs x)).foldl (fun t (p, v) => t.setIfInBounds p v) a.tmps, defers := [] } W)
    (hbody : ∀ (l : Nat) (pre : List α) (x : α) (W0 W : World), I pre W0 → W0.heap.size ≤ W.heap.size → (∀ (k : Nat) (o : Obj), W0.heap[k]? = some o → o.isCells = true → W.heap[k]? = some o) → Px (pre, x) W0.heap.size W → I pre W → body.wpIn (Fence.wide.inRound l) 0 P (LeftBy w.heap.size Kp I Ix (pre ++ [x]) W) (a₁ x) W)
    (hdone : ∀ (D : Nat) (xs : List α) (W : World), w.heap.size ≤ D → S xs → I xs W → W.heap[D]? = some (.deferred (some [])) → Q .normal { a with defers := { target := .collected D, args := #[] } :: a.defers } W)
    (hstop : ∀ (D : Nat) (c : Code) (pre : List α) (W : World), w.heap.size ≤ D → Sp pre → Ix c pre W → W.heap[D]? = some (.deferred (some [])) → c.wpIn Fence.wide 0 P Q { a with defers := { target := .collected D, args := #[] } :: a.defers } W) :
    (Code.rangeFunc g ps assign body).wpIn Fence.wide 0 P Q a w :=
  wpIn_rangeFunc_memA hg eg hps hPx hU hseq I Ix hI hIx h0 (Ax := fun s _ => s.2 = a₁ s.1) (fun _ _ _ _ h _ _ => h) (fun l x W K hK => hassign l x W K (hK _ W (Below.refl _ _) rfl)) (fun l pre x b W0 W ha => by obtain rfl : b = a₁ x := ha; exact hbody l pre x W0 W) hdone hstop
/-- As it stands in a function that is walked plainly. -/
theorem wp_rangeFunc_mem {P : Program} {α : Type} {g : Operand} {ps : Array Tmp} {assign body : Code} {Q : Exit → Act → World → Prop} {a : Act} {w : World} {gf : Nat} {lb : Array Value}
    (hg : a.eval g = .func (.func gf) #[] lb) (eg : ∀ args w, (callFunc gf args).run P w = .ok (.enter gf args) w) {encs : α → Array Value} (hps : ∀ x, (encs x).size = ps.size)
    {Px : List α × α → Nat → World → Prop} (hPx : ∀ N, OwnFrom w.heap.size (fun s => Px s N)) {S Sp : List α → Prop} {Kp : Nat → Prop} (hU : ∀ k, Kp k → k < w.heap.size) (hseq : ∀ W, Below w.heap.size w W → SeqMem P gf lb encs Kp Px S Sp W)
    (I : List α → World → Prop) (Ix : Code → List α → World → Prop) (hI : OwnFrom w.heap.size I) (hIx : ∀ c, OwnFrom w.heap.size (Ix c)) (h0 : I [] w) (a₁ : α → Act)
    (hassign : ∀ (l : Nat) (x : α) (W : World) (K : Act → World → Prop), K (a₁ x) W →
      assign.wpIn (Fence.wide.inRound l) 0 P (Exit.then K (fun _ _ _ => False)) { tmps := (ps.zip (encs x)).foldl (fun t (p, v) => t.setIfInBounds p v) a.tmps, defers := [] } W)
    (hbody : ∀ (l : Nat) (pre : List α) (x : α) (W0 W : World), I pre W0 → W0.heap.size ≤ W.heap.size → (∀ (k : Nat) (o : Obj), W0.heap[k]? = some o → o.isCells = true → W.heap[k]? = some o) → Px (pre, x) W0.heap.size W → I pre W → body.wpIn (Fence.wide.inRound l) 0 P (LeftBy w.heap.size Kp I Ix (pre ++ [x]) W) (a₁ x) W)
    (hdone : ∀ (D : Nat) (xs : List α) (W : World), w.heap.size ≤ D → S xs → I xs W → W.heap[D]? = some (.deferred (some [])) → Q .normal { a with defers := { target := .collected D, args := #[] } :: a.defers } W)
    (hstop : ∀ (D : Nat) (c : Code) (pre : List α) (W : World), w.heap.size ≤ D → Sp pre → Ix c pre W → W.heap[D]? = some (.deferred (some [])) → c.wp P Q { a with defers := { target := .collected D, args := #[] } :: a.defers } W) :
    (Code.rangeFunc g ps assign body).wp P Q a w :=
  wpIn_wide.1 (wpIn_rangeFunc_mem hg eg hps hPx hU hseq I Ix hI hIx h0 a₁ hassign hbody hdone fun D c pre W h1 h2 h3 h4 => wpIn_wide.2 (hstop D c pre W h1 h2 h3 h4))
/-- A function that holds such a loop, walked plainly. -/
theorem calls_of_wp_marks {P : Program} {f : FuncId} {fn : Func} {c : Code} {args : Array Value} {w : World} {R : Ending → World → Prop} (hf : P.funcs[f]? = some fn) (hb : fn.body = some c)
    (h : c.wp P (bodyPostM Fence.wide 0 P fn R) { tmps := args ++ Array.replicate (fn.ntmps - args.size) undef, defers := [] } w) : Calls P f args w R :=
  (callsIn_wide (n := 0)).1 (callsIn_of_wp_marks hf hb trivial (wpIn_wide.2 h) rfl)
/-- Q, of ends that are no panic and stay within all bounds. -/
def Calm (Q : Exit → Act → World → Prop) : Exit → Act → World → Prop
  | .panic _, _, _ => False
  | .outgrown, _, _ => False
  | e, a, w => Q e a w
theorem Calm.normal {Q : Exit → Act → World → Prop} {a : Act} {w : World} (h : Q .normal a w) : Calm Q .normal a w := h
section
variable {P : Program} {l n : Nat} {o : Oper} {ops : Array Oper} {a : Act} {w : World} {K K' : Act → World → Prop} {Q : Exit → Act → World → Prop}
theorem wp_round (hd : ∀ c, o.op ≠ .defer c) (hK : ∀ a w, K a w → K' a w) (h : o.wp P a w K (Calm Q)) : o.wpIn (Fence.wide.inRound l) n P a w K' Q := by
  unfold Oper.wp at h
  unfold Oper.wpIn
  refine ⟨fun f _ => trivial, ?_⟩
  rw [Oper.semAt_eq _ _ _ hd]
  generalize (execOp a.eval o).run P w = r at h
  cases r with
  | ok x w1 =>
    cases x with
    | value v => exact hK _ _ h
    | skip => exact hK _ _ h
    | defer d => exact hK _ _ h
    | enter f args =>
      refine ⟨fun e => (by cases e), CallsIn.inRound l (callsIn_wide.2 (Calls.mono h ?_))⟩
      rintro (v | c | _) w2 h2
      · exact hK _ _ h2
      · exact h2.elim
      · obtain ⟨_, _, h3⟩ := h2
        exact h3.elim
    | row r args =>
      refine ⟨fun e => (by cases e), fun c cs _ => ?_⟩
      obtain ⟨v, w2, r1, s1⟩ := h c cs
      exact ⟨v, w2, hK _ _ r1, stepsIn_wide.2 s1⟩
    | _ => exact h.elim
  | halt x w1 =>
    cases x <;> exact h.elim
theorem wpOp_round (hd : ∀ (i : Nat) (o : Oper), ops[i]? = some o → ∀ c, o.op ≠ .defer c) (i : Nat) (hK : ∀ a w, K a w → K' a w) (h : wpOp P ops (Calm Q) i K a w) : wpOpIn (Fence.wide.inRound l) n P ops Q i K' a w := by
  unfold wpOp at h
  unfold wpOpIn
  cases hi : ops[i]? with
  | none => rw [hi] at h; exact hK _ _ h
  | some o =>
    rw [hi] at h
    simp only at h ⊢
    by_cases hw : Region.wanted o (yielded ops a.tmps) = true
    · rw [if_pos hw] at h ⊢
      rcases h with h | ⟨_, _, _, h⟩
      · exact wp_round (hd i o hi) hK h
      · exact h.elim
    · rw [if_neg hw] at h ⊢
      exact ⟨fun _ _ => trivial, hK _ _ h⟩
theorem wpAny_round (hd : ∀ (i : Nat) (o : Oper), ops[i]? = some o → ∀ c, o.op ≠ .defer c) (md : Region.Mode) : ∀ (fuel : Nat) (listed : Array Bool) (a : Act) (w : World), wpAny P md ops (Calm Q) fuel listed a w → wpAnyIn (Fence.wide.inRound l) n P md ops Q fuel listed a w
  | 0, _, _, _, h => h
  | fuel + 1, listed, a, w, h => ⟨h.1, fun i hi => wpOp_round hd i (fun a w h => wpAny_round hd md fuel _ a w h) (h.2 i hi)⟩
/-- No operation is deferred. -/
def noDefer (ops : Array Oper) : Bool := ops.all fun o => match o.op with
  | .defer _ => false
  | _ => true
theorem noDefer.out (h : noDefer ops = true) (i : Nat) (o : Oper) (ho : ops[i]? = some o) (c : Call) : o.op ≠ .defer c := fun e => by
  obtain ⟨hi, e2⟩ := Array.getElem?_eq_some_iff.1 ho
  unfold noDefer at h
  have h2 := (Array.all_eq_true.1 h) i hi
  rw [e2] at h2
  simp only [e] at h2
  cases h2
/-- A region that draws its order, in a round, by what it holds. -/
theorem region_round {id : Nat} {S : World → Prop} (hm : P.follows .mixedOrders = true) (hd : noDefer ops = true) (hS : S w.drew)
    (h : S w.drew → wpAnyH P .any ops (Calm Q) S ops.size (Array.replicate ops.size false) a w.drew) : (Code.region id ops true).wpIn (Fence.wide.inRound l) n P Q a w :=
  wpIn_region_any hm (wpAny_round (noDefer.out hd) _ _ _ _ _ (wpAny_of_held _ _ _ _ (h hS)))
end
end Go.Proofs.Ytlinafnhhnkjnaa
