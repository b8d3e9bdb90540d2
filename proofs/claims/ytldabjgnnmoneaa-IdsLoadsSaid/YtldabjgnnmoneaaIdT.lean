/- The reference's Load. -/
import Derived.Test.YtldabjgnnmoneaaIdQ
import Derived.Test.YtldabjgnnmoneaaIdR2
namespace Go.Proofs.Ytldabjgnnmoneaa
open Go.RowKit

/-- What the reference's Load answers. -/
def RLdSaid (w : World) (s : NS) (d : Rv) (e : Ending) (w' : World) : Prop :=
  (LdOk s ∧ e = .returned (.tuple #[d.v, .int .i64 0]) ∧ Below w.heap.size w w') ∨ (¬ LdOk s ∧ e = .returned (.tuple #[Rv.v ⟨0, 0, none, 0, 0, none, 0, 0⟩, .int .i64 11]) ∧ Below w.heap.size w w')

theorem IRd.pre {w : World} {A : Option Addr} {n : Nat} {zs : List Int} (h : IRd w A n zs) {i : Nat} (hi : i ≤ n) : IRd w A i (zs.take i) :=
  ⟨by rw [List.length_take, h.1]; omega, fun hp => by
    obtain ⟨b, o, e, hlt, hc⟩ := h.2 (by omega)
    refine ⟨b, o, e, hlt, fun j hj => ?_⟩
    have hj' : j < i := by rw [List.length_take] at hj; omega
    rw [hc j (by rw [h.1]; omega)]
    rw [List.getD_eq_getElem?_getD, List.getD_eq_getElem?_getD, List.getElem?_take, if_pos hj']⟩

set_option maxRecDepth 20000 in
set_option maxHeartbeats 8000000 in
theorem RLoad_any (nE nG : Int) (GA : Option Addr) (gn gc : Nat) (gs : List Int) (FA : Option Addr) (fn fc : Nat) (fs : List Int) (w : World) (hg : IRd w GA gn gs) (hf : IRd w FA fn fs) (hgn : gn ≤ 1100) (hfn : fn ≤ 100) (hfc : fn ≤ fc) :
    Calls Try.prog 14 #[.int .i64 nE, .int .i64 nG, .slice GA gn gc, .slice FA fn fc] w (RLdSaid w ⟨(nears nE 1024).toNat, nears nG 1073741824, gs, fs⟩ ⟨nears nE 1024, nears nG 1073741824, GA, gn, gc, FA, fn, fc⟩) := by
  have hbE := nears_bounds nE 1024 (by decide)
  have hbL := nears_bounds nG 1073741824 (by decide)
  obtain ⟨E, hE⟩ : ∃ E : Nat, nears nE 1024 = (E : Int) := ⟨(nears nE 1024).toNat, by omega⟩
  obtain ⟨L, hL⟩ : ∃ L, nears nG 1073741824 = L := ⟨_, rfl⟩
  have CN : ∀ W, Calls Try.prog 8 #[.int .i64 nE, .int .i64 nG] W fun e w' => e = .returned (.agg #[.int .i64 E, .int .i64 L, .slice none 0 0, .slice none 0 0]) ∧ Below W.heap.size W w' := fun W => by
    have := RNew_any nE nG W
    rw [hE, hL] at this
    exact this
  rw [hE, hL, Int.toNat_natCast]
  rw [hE] at hbE
  rw [hL] at hbL
  have CN' := Lib.hid CN
  obtain ⟨w1, hw1⟩ : ∃ w1, w1 = w.alloc (.cells #[.int .i64 0, .int .i64 0, .slice none 0 0, .slice none 0 0] 30) := ⟨_, rfl⟩
  have hb1 : Below w.heap.size w w1 := by rw [hw1]; exact (Below.refl _ _).alloc (Nat.le_refl _) _
  have hT1 : Rec 30 w1 w.heap.size #[.int .i64 0, .int .i64 0, .slice none 0 0, .slice none 0 0] := by rw [hw1]; exact Rec.new _ _ _
  have HT1 := Lib.hid hT1
  have HB1 := Lib.hid hb1
  have HG := Lib.hid hg
  have HF := Lib.hid hf
  clear CN hE hL hg hf hb1 hT1
  go_enter Try.func14, Try.ntmps14
  go_wp2_with (first | (rw [← hw1]; clear hw1))
  refine (CN'.out w1).mono ?_
  rintro e w2 ⟨rfl, hB2⟩
  obtain ⟨w3, hw3⟩ : ∃ w3, w3 = w2.alloc (.cells #[.int .i64 E, .int .i64 L, .slice none 0 0, .slice none 0 0] 30) := ⟨_, rfl⟩
  have b3 : Below w2.heap.size w2 w3 := by rw [hw3]; exact (Below.refl _ _).alloc (Nat.le_refl _) _
  have hT3 : Rec 30 w3 w2.heap.size #[.int .i64 E, .int .i64 L, .slice none 0 0, .slice none 0 0] := by rw [hw3]; exact Rec.new _ _ _
  have HT13 := Lib.hid ((HT1.out.under hB2).under b3)
  have HB3 := Lib.hid (HB1.out.trans ((hB2.trans (b3.mono hB2.size)).mono HB1.out.size))
  obtain ⟨q, hq⟩ : ∃ q, q = w2.heap.size := ⟨_, rfl⟩
  rw [← hq] at hT3
  have hqw : w.heap.size < q := by rw [hq]; exact (HT1.out.under hB2).lt
  have HT3 := Lib.hid hT3
  have HW3 := Lib.hid hw3
  have HQ := Lib.hid hq
  have e0 : w3.cell? ⟨q, 0, none⟩ = some (.int .i64 E) := hT3.at_ 0
  clear hw3 b3 hT3 hB2 hq CN'
  -- how it ends where it may not be loaded
  have FIN : ∀ (W w5 : World), Below w3.heap.size w3 W → Fr (· = w.heap.size) W w5 → Below w.heap.size w w5 := fun W w5 hW hF => by
    have h1 := HB3.out.trans (hW.mono HB3.out.size)
    exact h1.trans (hF.toBelow (fun x hx => by rw [show x = w.heap.size from hx]; exact Nat.le_refl _) h1.size)
  have FIN := Lib.hid FIN
  have HTW : ∀ W, Below w3.heap.size w3 W → Rec 30 W w.heap.size #[.int .i64 0, .int .i64 0, .slice none 0 0, .slice none 0 0] := fun W hW => HT13.out.under hW
  have HTW := Lib.hid HTW
  by_cases hle : gn ≤ E
  case neg =>
    have hd : decide (E < gn) = true := decide_eq_true (by omega)
    have hd' : decide ((E : Int) < gn) = true := decide_eq_true (by omega)
    have HR := Lib.hid (HTW.out w3 (Below.refl _ _))
    go_wp2_with (first
      | (rw [← HW3.out, ← HQ.out])
      | (with_reducible refine wpList_stQ (E' := 0) (L' := 0) (GA' := none) (gn' := 0) (gc' := 0) (FA' := none) (fn' := 0) (fc' := 0) rfl (.tmp 8) (.tmp 22) rfl rfl rfl HR.out ?_; intro w5 hR5 hF5))
    refine bodyPost_ret (res_ct rfl rfl (hR5.load rsT rfl)) rfl ?_
    exact .inr ⟨fun hh => hle (by have := hh.1; have := HG.out.1; simp only at *; omega), rfl, FIN.out w3 w5 (Below.refl _ _) hF5⟩
  have hd : decide (E < gn) = false := decide_eq_false (by omega)
  have hd' : decide ((E : Int) < gn) = false := decide_eq_false (by omega)
  go_wp2_with (first
    | (rw [← HW3.out, ← HQ.out]))
  go_loopw [11] (fun iv wr => ∃ j : Nat, j ≤ gn ∧ iv = .int .i64 j ∧ (∀ x ∈ gs.take j, 0 ≤ x ∧ x ≤ L) ∧ Below w3.heap.size w3 wr) (fun iv _ => gn - (intOf iv).toNat)
  case atStart => exact ⟨0, Nat.zero_le _, rfl, fun x hx => absurd hx (by simp), Below.refl _ _⟩
  case round =>
    obtain ⟨j, hj, rfl, hgood, hB⟩ := hrel
    by_cases hjn : j < gn
    · have hjl : j < gs.length := by rw [HG.out.1]; exact hjn
      obtain ⟨b, o, hA, hbw, hc⟩ := HG.out.2 (by omega)
      have hU := HB3.out.trans (hB.mono HB3.out.size)
      have c0 := (hU.cell (p := ⟨b, o + j, none⟩) hbw).trans (hc j hjl)
      have k1 : wr.cell? ⟨q, 1, none⟩ = some (.int .i64 L) := (HT3.out.under hB).at_ 1
      obtain ⟨z, hz⟩ : ∃ z, z = gs.getD j 0 := ⟨_, rfl⟩
      rw [← hz] at c0
      have hzj : gs[j] = z := by rw [hz]; simp [List.getD, List.getElem?_eq_getElem hjl]
      have hzm : z ∈ gs := by rw [← hzj]; exact List.getElem_mem hjl
      have htk : gs.take (j + 1) = gs.take j ++ [z] := by rw [List.take_succ_eq_append_getElem hjl, hzj]
      have HBW := Lib.hid hB
      have HRW : Hid (∀ n, Rec 30 (wr.drewN n) w.heap.size #[.int .i64 0, .int .i64 0, .slice none 0 0, .slice none 0 0]) := Lib.hid (fun n => HTW.out _ (hB.trans ((below_drewN _ _).mono hB.size)))
      subst hA
      by_cases hzz : 0 ≤ z ∧ z ≤ L
      · have HGD := Lib.hid hgood
        have HTK := Lib.hid htk
        obtain ⟨hz0, hz1⟩ := hzz
        have hd0 : decide (z < 0) = false := decide_eq_false (by omega)
        have hd1 : decide (L < z) = false := decide_eq_false (by omega)
        clear hc hz hzj hzm htk hB hgood hU
        go_wp2_with fail
        go_quiet (fail)
        go_wp2
        go_roundw
        case rel =>
          refine ⟨j + 1, hjn, by go_num, fun x hx => ?_, HBW.out.trans ((below_drewN _ _).mono HBW.out.size)⟩
          rw [HTK.out] at hx
          rcases List.mem_append.1 hx with hx | hx
          · exact HGD.out x hx
          · rw [List.mem_singleton.1 hx]; exact ⟨hz0, hz1⟩
        case measure => simp [intOf]; omega
      · have HN : Hid (¬ LdOk ⟨E, L, gs, fs⟩) := Lib.hid (fun hh => hzz (hh.2.1 z hzm))
        clear hc hz hzj hzm htk hB hgood hU
        by_cases hz0 : 0 ≤ z
        · have hz1 : L < z := by omega
          have hd0 : decide (z < 0) = false := decide_eq_false (by omega)
          have hd1 : decide (L < z) = true := decide_eq_true hz1
          go_wp2_with fail
          go_quiet (fail)
          go_wp2_with (with_reducible refine wpList_stQ (E' := 0) (L' := 0) (GA' := none) (gn' := 0) (gc' := 0) (FA' := none) (fn' := 0) (fc' := 0) rfl (.tmp 8) (.tmp 43) rfl rfl rfl (HRW.out _) ?_; intro w5 hR5 hF5)
          refine bodyPost_ret (res_ct rfl rfl (hR5.load rsT rfl)) rfl ?_
          exact .inr ⟨HN.out, rfl, FIN.out _ w5 (HBW.out.trans ((below_drewN _ _).mono HBW.out.size)) hF5⟩
        · have hd0 : decide (z < 0) = true := decide_eq_true (by omega)
          go_wp2_with fail
          go_quiet (fail)
          go_wp2_with (with_reducible refine wpList_stQ (E' := 0) (L' := 0) (GA' := none) (gn' := 0) (gc' := 0) (FA' := none) (fn' := 0) (fc' := 0) rfl (.tmp 8) (.tmp 43) rfl rfl rfl (HRW.out _) ?_; intro w5 hR5 hF5)
          refine bodyPost_ret (res_ct rfl rfl (hR5.load rsT rfl)) rfl ?_
          exact .inr ⟨HN.out, rfl, FIN.out _ w5 (HBW.out.trans ((below_drewN _ _).mono HBW.out.size)) hF5⟩
    · obtain rfl : gn = j := by omega
      have htk : gs.take gn = gs := List.take_of_length_le (by rw [HG.out.1]; exact Nat.le_refl _)
      rw [htk] at hgood
      have HBJ := Lib.hid hB
      have HGD := Lib.hid hgood
      clear hB hgood htk
      go_wp2_with fail
      go_loopw [12] (fun iv wr => ∃ i : Nat, i ≤ fn ∧ iv = .int .i64 i ∧ (∀ u, u < i → (NS.pre ⟨E, L, gs, fs⟩ u).live (fs.getD u 0) = true ∧ gs.getD (fs.getD u 0).toNat 0 ≠ 0) ∧ Below w3.heap.size w3 wr) (fun iv _ => fn - (intOf iv).toNat)
      case atStart => exact ⟨0, Nat.zero_le _, rfl, fun u hu => absurd hu (Nat.not_lt_zero u), HBJ.out⟩
      case round =>
        obtain ⟨i, hi, rfl, hgd, hB⟩ := hrel
        by_cases hin : i < fn
        · have hil : i < fs.length := by rw [HF.out.1]; exact hin
          obtain ⟨b, o, hA, hbw, hc⟩ := HF.out.2 (by omega)
          have hU := HB3.out.trans (hB.mono HB3.out.size)
          have c0 := (hU.cell (p := ⟨b, o + i, none⟩) hbw).trans (hc i hil)
          have k1 : wr.cell? ⟨q, 1, none⟩ = some (.int .i64 L) := (HT3.out.under hB).at_ 1
          have hrp := (HF.out.own_below (Nat.le_refl _) hU).pre (i := i) (by omega)
          obtain ⟨k, hk⟩ : ∃ k, k = fs.getD i 0 := ⟨_, rfl⟩
          rw [← hk] at c0
          have HBW := Lib.hid hB
          have HRW : Hid (∀ n, Rec 30 (wr.drewN n) w.heap.size #[.int .i64 0, .int .i64 0, .slice none 0 0, .slice none 0 0]) := Lib.hid (fun n => HTW.out _ (hB.trans ((below_drewN _ _).mono hB.size)))
          have HGQ := Lib.hid hgd
          have HU := Lib.hid hU
          have elive : (NS.pre ⟨E, L, gs, fs⟩ i).live k = true ↔ 0 ≤ k ∧ k < gs.length ∧ k ∉ fs.take i ∧ gs.getD k.toNat 0 < L := NS.live_iff
          have hno : ((NS.pre ⟨E, L, gs, fs⟩ i).live k = true ∧ gs.getD k.toNat 0 ≠ 0 → False) → ¬ LdOk ⟨E, L, gs, fs⟩ := fun hx hh => by
            have := hh.2.2 i hil
            simp only at this
            rw [← hk] at this
            exact hx this
          have hgl := HG.out.1
          have hg0 : decide ((i : Int) < 0) = false := decide_eq_false (by omega)
          rw [hgl] at elive
          by_cases hk0 : 0 ≤ k
          case neg =>
            have HN := Lib.hid (hno (fun hx => hk0 (elive.1 hx.1).1))
            have hd0 : decide (k < 0) = true := decide_eq_true (by omega)
            subst hA
            clear hc hk hgd hB hil hU hrp elive hno hgl
            go_wp2_with fail
            go_quiet (fail)
            go_wp2_with (with_reducible refine wpList_stQ (E' := 0) (L' := 0) (GA' := none) (gn' := 0) (gc' := 0) (FA' := none) (fn' := 0) (fc' := 0) rfl (.tmp 8) (.tmp 85) rfl rfl rfl (HRW.out _) ?_; intro w5 hR5 hF5)
            refine bodyPost_ret (res_ct rfl rfl (hR5.load rsT rfl)) rfl ?_
            exact .inr ⟨HN.out, rfl, FIN.out _ w5 (HBW.out.trans ((below_drewN _ _).mono HBW.out.size)) hF5⟩
          obtain ⟨m, rfl⟩ : ∃ m : Nat, k = (m : Int) := ⟨k.toNat, by omega⟩
          have hd0 : decide ((m : Int) < 0) = false := decide_eq_false (by omega)
          by_cases hk1 : m < gn
          case neg =>
            have HN := Lib.hid (hno (fun hx => hk1 (by have := (elive.1 hx.1).2.1; omega)))
            have hd1 : decide ((gn : Int) ≤ (m : Int)) = true := decide_eq_true (by omega)
            have hd1n : decide (gn ≤ m) = true := decide_eq_true (by omega)
            subst hA
            clear hc hk hgd hB hil hU hrp elive hno hgl
            go_wp2_with fail
            go_quiet (fail)
            go_wp2_with (with_reducible refine wpList_stQ (E' := 0) (L' := 0) (GA' := none) (gn' := 0) (gc' := 0) (FA' := none) (fn' := 0) (fc' := 0) rfl (.tmp 8) (.tmp 85) rfl rfl rfl (HRW.out _) ?_; intro w5 hR5 hF5)
            refine bodyPost_ret (res_ct rfl rfl (hR5.load rsT rfl)) rfl ?_
            exact .inr ⟨HN.out, rfl, FIN.out _ w5 (HBW.out.trans ((below_drewN _ _).mono HBW.out.size)) hF5⟩
          have hd1 : decide ((gn : Int) ≤ (m : Int)) = false := decide_eq_false (by omega)
          have hd1n : decide (gn ≤ m) = false := decide_eq_false (by omega)
          have CHA : ∀ n, Calls Try.prog 33 #[.slice FA i fc, .int .i64 (m : Int)] (wr.drewN n) fun e w' => e = .returned (.bool (decide ((m : Int) ∈ fs.take i))) ∧ w' = wr.drewN n := fun n => Has_any FA i fc (fs.take i) _ _ (hrp.below (below_drewN _ _)) (by omega)
          obtain ⟨b2, o2, hA2, hbw2, hc2⟩ := HG.out.2 (by omega)
          have c2 := (hU.cell (p := ⟨b2, o2 + m, none⟩) hbw2).trans (hc2 m (by omega))
          obtain ⟨z, hz⟩ : ∃ z, z = gs.getD m 0 := ⟨_, rfl⟩
          rw [Int.toNat_natCast, ← hz] at elive hno
          rw [← hz] at c2
          by_cases hk2 : (m : Int) ∈ fs.take i
          case pos =>
            have HN := Lib.hid (hno (fun hx => (elive.1 hx.1).2.2.1 hk2))
            have CH : Hid (∀ n, Calls Try.prog 33 #[.slice FA i fc, .int .i64 (m : Int)] (wr.drewN n) fun e w' => e = .returned (.bool true) ∧ w' = wr.drewN n) := Lib.hid (by simpa only [decide_eq_true hk2] using CHA)
            subst hA hA2
            clear hc hc2 hk hgd hB hil hU hrp elive hno hgl CHA hk2 hz
            go_wp2_with fail
            go_quiet (((go_at_call 33; exact Calls.quiet_of_same (CH.out _))))
            go_wp2_with (with_reducible refine wpList_stQ (E' := 0) (L' := 0) (GA' := none) (gn' := 0) (gc' := 0) (FA' := none) (fn' := 0) (fc' := 0) rfl (.tmp 8) (.tmp 85) rfl rfl rfl (HRW.out _) ?_; intro w5 hR5 hF5)
            refine bodyPost_ret (res_ct rfl rfl (hR5.load rsT rfl)) rfl ?_
            exact .inr ⟨HN.out, rfl, FIN.out _ w5 (HBW.out.trans ((below_drewN _ _).mono HBW.out.size)) hF5⟩
          have CH : Hid (∀ n, Calls Try.prog 33 #[.slice FA i fc, .int .i64 (m : Int)] (wr.drewN n) fun e w' => e = .returned (.bool false) ∧ w' = wr.drewN n) := Lib.hid (by simpa only [decide_eq_false hk2] using CHA)
          clear CHA
          by_cases hz0 : z = 0
          case pos =>
            have HN := Lib.hid (hno (fun hx => hx.2 hz0))
            subst hA hA2 hz0
            clear hc hc2 hk hgd hB hil hU hrp elive hno hgl hk2 hz
            go_wp2_with fail
            go_quiet (((go_at_call 33; exact Calls.quiet_of_same (CH.out _))))
            go_wp2_with (with_reducible refine wpList_stQ (E' := 0) (L' := 0) (GA' := none) (gn' := 0) (gc' := 0) (FA' := none) (fn' := 0) (fc' := 0) rfl (.tmp 8) (.tmp 85) rfl rfl rfl (HRW.out _) ?_; intro w5 hR5 hF5)
            refine bodyPost_ret (res_ct rfl rfl (hR5.load rsT rfl)) rfl ?_
            exact .inr ⟨HN.out, rfl, FIN.out _ w5 (HBW.out.trans ((below_drewN _ _).mono HBW.out.size)) hF5⟩
          have hz1 : (z == 0) = false := by simpa using hz0
          have hz2 : decide (z = 0) = false := decide_eq_false hz0
          by_cases hzL : z < L
          case neg =>
            have HN := Lib.hid (hno (fun hx => hzL (elive.1 hx.1).2.2.2))
            have hd3 : decide (L ≤ z) = true := decide_eq_true (by omega)
            subst hA hA2
            clear hc hc2 hk hgd hB hil hU hrp elive hno hgl hk2 hz
            go_wp2_with fail
            go_quiet (((go_at_call 33; exact Calls.quiet_of_same (CH.out _))))
            go_wp2_with (with_reducible refine wpList_stQ (E' := 0) (L' := 0) (GA' := none) (gn' := 0) (gc' := 0) (FA' := none) (fn' := 0) (fc' := 0) rfl (.tmp 8) (.tmp 85) rfl rfl rfl (HRW.out _) ?_; intro w5 hR5 hF5)
            refine bodyPost_ret (res_ct rfl rfl (hR5.load rsT rfl)) rfl ?_
            exact .inr ⟨HN.out, rfl, FIN.out _ w5 (HBW.out.trans ((below_drewN _ _).mono HBW.out.size)) hF5⟩
          have hd3 : decide (L ≤ z) = false := decide_eq_false (by omega)
          have HLV := Lib.hid (elive.2 ⟨Int.natCast_nonneg _, by omega, hk2, hzL⟩)
          have HK := Lib.hid hk
          have HZ := Lib.hid hz
          subst hA hA2
          clear hc hc2 hk hgd hB hil hU hrp elive hno hgl hk2 hz
          go_wp2_with fail
          go_quiet (((go_at_call 33; exact Calls.quiet_of_same (CH.out _))))
          go_wp2
          go_roundw
          case rel =>
            refine ⟨i + 1, hin, by go_num, fun u hu => ?_, HBW.out.trans ((below_drewN _ _).mono HBW.out.size)⟩
            by_cases hui : u = i
            · subst hui
              rw [← HK.out, Int.toNat_natCast, ← HZ.out]
              exact ⟨HLV.out, hz0⟩
            · exact HGQ.out u (by omega)
          case measure => simp [intOf]; omega
        · obtain rfl : i = fn := by omega
          have HY : Hid (LdOk ⟨E, L, gs, fs⟩) := Lib.hid ⟨by show gs.length ≤ E; rw [HG.out.1]; exact hle, HGD.out, fun u hu => hgd u (by rw [← HF.out.1]; exact hu)⟩
          have hT := HT3.out.under hB
          have HBW := Lib.hid hB
          have r2 : wr.cell? ⟨q, 2, none⟩ = some (.slice none 0 0) := hT.at_ 2
          have f2 := hT.fz 2
          obtain ⟨w4, hw4⟩ : ∃ w4, w4 = wr.setCell ⟨q, 2, none⟩ (.slice GA gn gc) := ⟨_, rfl⟩
          have hT4 : Rec 30 w4 q #[.int .i64 E, .int .i64 L, .slice GA gn gc, .slice none 0 0] := by rw [hw4]; exact hT.set 2 _
          have r3 : w4.cell? ⟨q, 3, none⟩ = some (.slice none 0 0) := hT4.at_ 3
          have f3 := hT4.fz 3
          obtain ⟨w5, hw5⟩ : ∃ w5, w5 = w4.setCell ⟨q, 3, none⟩ (.slice FA i fc) := ⟨_, rfl⟩
          have hT5 : Rec 30 w5 q #[.int .i64 E, .int .i64 L, .slice GA gn gc, .slice FA i fc] := by rw [hw5]; exact hT4.set 3 _
          have hF5 : Fr (· = q) wr w5 := (show Fr (· = q) wr w4 by rw [hw4]; exact Fr.setCell (own := (· = q)) wr (p := ⟨q, 2, none⟩) rfl _).trans (by rw [hw5]; exact Fr.setCell (own := (· = q)) w4 (p := ⟨q, 3, none⟩) rfl _)
          have HR5 := Lib.hid ((HTW.out wr hB).fr hF5 (fun e => by have e' : w.heap.size = q := e; omega))
          have HT5 := Lib.hid hT5
          have HF5 := Lib.hid hF5
          have HW4 := Lib.hid hw4
          have HW5 := Lib.hid hw5
          clear hgd hB hT hw4 hw5 hT4 hT5 hF5
          go_wp2_with (first
            | (rw [← HW4.out])
            | (rw [← HW5.out])
            | (with_reducible refine wpList_ldQ rfl (.tmp 10) rfl rfl HT5.out ?_)
            | (with_reducible refine wpList_stQ (E' := E) (L' := L) (GA' := GA) (gn' := gn) (gc' := gc) (FA' := FA) (fn' := i) (fc' := fc) rfl (.tmp 8) (.tmp 90) rfl rfl rfl HR5.out ?_; intro w6 hR6 hF6))
          refine bodyPost_ret (res_ct rfl rfl (hR6.load rsT rfl)) rfl ?_
          have hU := HB3.out.trans (HBW.out.mono HB3.out.size)
          have hU5 := hU.trans (HF5.out.toBelow (B := w.heap.size) (fun x hx => by rw [show x = q from hx]; omega) hU.size)
          exact .inl ⟨HY.out, rfl, hU5.trans (hF6.toBelow (fun x hx => by rw [show x = w.heap.size from hx]; exact Nat.le_refl _) hU5.size)⟩
end Go.Proofs.Ytldabjgnnmoneaa
