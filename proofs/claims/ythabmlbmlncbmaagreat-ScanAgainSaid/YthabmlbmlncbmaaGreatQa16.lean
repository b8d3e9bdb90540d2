/- ScL -/
import Derived.Test.YthabmlbmlncbmaaGreatQa1
import Derived.Test.YthabmlbmlncbmaaGreatQa3
import Derived.Test.YthabmlbmlncbmaaGreatQa7
import Derived.Test.YthabmlbmlncbmaaGreatQa15
namespace Go.Proofs.YthabmlbmlncbmaaGreat
open Go.RowKit
set_option linter.unusedVariables false
set_option maxRecDepth 20000
theorem made_zeros (n : Nat) : (madeCells (Value.int .u8 0).cells (n * 1)).toList = cells (zeros n) := by
  rw [Nat.mul_one]
  refine (toList_madeCells_one (Value.int .u8 0) n).trans ?_
  unfold cells zeros
  simp
theorem PcG.putG {w wr w2 w3 : World} {lv lv' : Value} {xs : List (List UInt8)} {vs : List Value} {D K : Nat -> Prop} {x : List UInt8} {A : Option Addr} {m c : Nat} (h : PcG w wr lv xs vs D) (hb : Below wr.heap.size wr w2) (hr : Rd w2 A m x) (hc : m <= c)
    (hK : ∀ b o, A = some ⟨b, o, none⟩ -> 0 < m -> K b) (hKo : ∀ y, K y -> lv.ownBlock ≠ some y) (ho : w3.ownsRow w.heap.size 42 1 lv' (xs.length + 1) (vs ++ [.slice A m c])) (hg : w2.grownBy w3 lv.ownBlock)
    (hv : lv'.ownBlock = lv.ownBlock \/ lv'.ownBlock = some w2.heap.size) : ∃ vs' D', PcG w w3 lv' (xs ++ [x]) vs' D' /\ ∀ y, D' y -> D y \/ K y := by
  have g2 := h.gr.below EPc.ok hb
  have hx : EPc K w2 x [.slice A m c] := by
    refine ⟨A, m, c, rfl, ⟨A, m, c, rfl, hr, fun b o e hm => ⟨hK b o e hm, ?_⟩⟩, hc⟩
    subst e
    exact rd_lt hr hm
  have g3 := g2.put EPc.ok (r := [.slice A m c]) rfl hx hKo ho hg hv
  refine ⟨_, _, ⟨g3, ?_⟩, fun y hy => hy.imp id (fun k => k.1)⟩
  have b2 : Below w.heap.size w w2 := h.bel.trans (hb.mono h.bel.size)
  exact b2.grown hg b2.size (fun k hk => (own_geB h.gr.ow hk).1)
theorem PcG.own_lt {w wr : World} {lv : Value} {xs : List (List UInt8)} {vs : List Value} {D : Nat -> Prop} (h : PcG w wr lv xs vs D) {y : Nat} (e : lv.ownBlock = some y) : w.heap.size <= y /\ y < wr.heap.size := own_geB h.gr.ow e
theorem live18_eff : effR 2 4 1 1 live18_l [] = live18_l := by unfold effR; rw [decide_eq_true live18R]; exact effL_yes rfl
theorem own_rd {w : World} {B e n c : Nat} {A : Option Addr} {l : List UInt8} (h : w.ownsRow B e 1 (.slice A n c) n (cells l)) : Rd w A n l := by
  obtain ⟨A', c', e, _, _, hr⟩ := Rd.of_own h rfl
  injection e with e1 e2 e3
  subst e1
  exact hr
set_option maxHeartbeats 40000000 in
theorem live18_any (w : World) : Calls Tryz.prog 8 #[] w fun e w' => e = .returned (.bool true) /\ Below w.heap.size w w' := by
  obtain ⟨g, hg⟩ : ∃ g, g = w.heap.size := ⟨_, rfl⟩
  go_enter Tryz.func8, Tryz.ntmps8
  go_wp2_with (first
    | ((with_reducible refine wpList_stS (cs' := #[.int .i64 2, .int .i64 4, .int .i64 1, .int .i64 1, .slice none 0 0]) confT rfl rfl (by simp [Value.oneCell']) rfl (.tmp 1) (.tmp 4) rfl rfl rfl (Rec.new w _ _) ?_); intro w2 hR2 hF2
       have hB2 : Below w.heap.size w w2 := (((Below.refl _ w).alloc (Nat.le_refl _) _).trans (hF2.toBelow (B := w.heap.size) (fun x e => by rw [e]; exact Nat.le_refl _) (by simp)))
       have K2 : Hid (CAt w w2 w.heap.size 2 4 1 1 none 0 0 []) := hi_ ⟨hB2, Nat.le_refl _, hR2.lt, hR2.at_ 0, hR2.at_ 1, hR2.at_ 2, hR2.at_ 3, hR2.at_ 4, KRd.nil _ _⟩
       clear hR2 hF2 hB2)
    | (go_at_call 16; refine (RFBytes_any (K := fun _ => True) none 0 0 [] w2 (CdsV.nil _ _ _) (by omega) (fun x hx => by cases hx)).mono ?_; rintro e w3 ⟨B3, n3, c3, rfl, hr3, hc3, hb3⟩
       have hn3 : n3 = 5 := by have := hr3.1; rw [live18_len] at this; omega
       subst hn3
       have K3 := hi_ (K2.out.next hb3)
       have R3 := hi_ (And.intro hr3 hc3)
       clear hr3 hc3 hb3))
  go_upto_region 3 with fail
  rw [<- hg] at K3 ⊢
  have BE3 := hi_ K3.out.bel
  clear K2 hg
  have hk0 := (K3.out.next (Below.refl _ _).drew)
  have BW := hi_ (show Below w3.heap.size w3 w3.drew from (Below.refl _ _).drew)
  have HS0 : Hid (w3.drew.cell? ⟨g, 0, none⟩ = some (.int .i64 2) /\ w3.drew.cell? ⟨g, 1, none⟩ = some (.int .i64 4) /\ w3.drew.cell? ⟨g, 2, none⟩ = some (.int .i64 1) /\ w3.drew.cell? ⟨g, 3, none⟩ = some (.int .i64 1) /\ w3.drew.cell? ⟨g, 4, none⟩ = some (.slice none 0 0)) := hi_ ⟨hk0.c0, hk0.c1, hk0.c2, hk0.c3, hk0.c4⟩
  clear hk0
  refine wp_region_noPanic ?_
  refine wp_region_held_drew (S := fun W => W.cell? ⟨g, 0, none⟩ = some (.int .i64 2) /\ W.cell? ⟨g, 1, none⟩ = some (.int .i64 4) /\ W.cell? ⟨g, 2, none⟩ = some (.int .i64 1) /\ W.cell? ⟨g, 3, none⟩ = some (.int .i64 1) /\ W.cell? ⟨g, 4, none⟩ = some (.slice none 0 0)) (by kernel_rfl) HS0.out (fun hHeld => ?_)
  generalize w3.drew = x0 at BW HS0 hHeld ⊢
  clear HS0
  refine tj_ 0 ⟨some 6, .load 24 (.tmp 1), 24, "law.go:21", #[], none⟩ hHeld (h := ?_)
  refine tj_ 1 ⟨some 7, .move (.tmp 2), 42, "law.go:21", #[], none⟩ hHeld (h := ?_)
  refine wpAnyH_ready (rs := [2, 3, 7]) (by kernel_rfl) (by simp) ?_
  refine AllReadyH.cons (o := ⟨some 8, .call { callee := .value (.func 17), args := #[.const (.int .i64 3), .const (.int .i64 4), .const (.int .i64 9), .tmp 7], argTypes := #[3, 3, 3, 42] }, 25, "law.go:21", #[⟨1, .data⟩], none⟩) rfl (fun K' hK => ?c1) (AllReadyH.cons (o := ⟨some 9, .makeSlice 42 (.const (.int .i64 512)) (.const (.int .i64 512)), 42, "law.go:21", #[], none⟩) rfl (fun K' hK => ?c2) (AllReadyH.cons (o := ⟨some 3, .alloc 33, 0, "law.go:21", #[], none⟩) rfl (fun K' hK => ?c3) AllReadyH.nil))
  case' c1 =>
    go_simp
    go_at_call 17; refine (RSealed_any B3 5 c3 (frBytes []) 3 4 9 x0 (R3.out.1.below (Nat.le_refl _) BW.out) R3.out.2 (by omega) (by omega) (by omega)).mono ?_; rintro e xS ⟨lvS, vsS, DS, rfl, hpS, _⟩
    rw [live18_sec] at hpS
    have hbS : Below x0.heap.size x0 xS := hpS.bel
    have HBS : Hid (w3.heap.size <= x0.heap.size) := hi_ BW.out.size
    replace BW := hi_ (BW.out.trans (hbS.mono BW.out.size))
    have PS := hi_ hpS
    clear hpS hbS
    refine hK.out _ _ ⟨(K3.out.next BW.out).c0, (K3.out.next BW.out).c1, (K3.out.next BW.out).c2, (K3.out.next BW.out).c3, (K3.out.next BW.out).c4⟩ (fun hHeld => ?_)
    clear hK K'
    try simp only [Act.put, sA_, sB_, sC_]
    refine wpAnyH_ready (rs := [3, 7]) (by kernel_rfl) (by simp) ?_
    refine AllReadyH.cons (o := ⟨some 9, .makeSlice 42 (.const (.int .i64 512)) (.const (.int .i64 512)), 42, "law.go:21", #[], none⟩) rfl (fun K' hK => ?c4) (AllReadyH.cons (o := ⟨some 3, .alloc 33, 0, "law.go:21", #[], none⟩) rfl (fun K' hK => ?c5) AllReadyH.nil)
    case' c4 =>
      refine step_mkn _ bytesT rfl (.const (.int .i64 512)) (.const (.int .i64 512)) rfl xS.heap.size .i64 .i64 _ _ 512 rfl rfl rfl rfl (by decide) (by unfold maxLen; omega) (Nat.le_refl _) ?_; intro xM hoM hbM
      rw [made_zeros] at hoM
      have hrM := own_rd hoM
      obtain ⟨mb, hmb⟩ : ∃ mb, mb = xS.heap.size := ⟨_, rfl⟩
      rw [<- hmb] at hrM
      have NE : Hid (lvS.ownBlock ≠ some mb) := hi_ (fun e => by have h1 := (PS.out.own_lt e).2; omega)
      replace BW := hi_ (BW.out.trans (hbM.mono BW.out.size))
      replace PS := hi_ (PS.out.below hbM)
      have RM := hi_ hrM
      try rw [<- hmb]
      clear hoM hbM hrM hmb
      refine hK.out _ _ ⟨(K3.out.next BW.out).c0, (K3.out.next BW.out).c1, (K3.out.next BW.out).c2, (K3.out.next BW.out).c3, (K3.out.next BW.out).c4⟩ (fun hHeld => ?_)
      clear hK K'
      try simp only [Act.put, sA_, sB_, sC_]
      refine wpAnyH_ready (rs := [4, 7]) (by kernel_rfl) (by simp) ?_
      refine AllReadyH.cons (o := ⟨some 10, .buildSlice 25 1 #[(0, .tmp 9)], 25, "law.go:21", #[⟨3, .data⟩], none⟩) rfl (fun K' hK => ?c6) (AllReadyH.cons (o := ⟨some 3, .alloc 33, 0, "law.go:21", #[], none⟩) rfl (fun K' hK => ?c7) AllReadyH.nil)
      case' c6 =>
        go_simp
        obtain ⟨xL, hxL⟩ : ∃ v, v = xM.alloc (.cells #[.slice (some ⟨mb, 0, none⟩) 512 512] 42) := ⟨_, rfl⟩
        have hbL : Below xM.heap.size xM xL := by rw [hxL]; exact (Below.refl _ _).alloc (Nat.le_refl _) _
        have hvL : VRow (fun _ => True) xL (some ⟨xM.heap.size, 0, none⟩) 1 1 [.slice (some ⟨mb, 0, none⟩) 512 512] := by rw [hxL]; exact (VRow.new xM #[.slice (some ⟨mb, 0, none⟩) 512 512] _ 1 1 rfl).mono (fun _ _ => trivial)
        rw [<- hxL]
        clear hxL
        obtain ⟨lb, hlb⟩ : ∃ lb, lb = xM.heap.size := ⟨_, rfl⟩
        rw [<- hlb] at hvL ⊢
        replace BW := hi_ (BW.out.trans (hbL.mono BW.out.size))
        replace PS := hi_ (PS.out.below hbL)
        replace RM := hi_ (RM.out.below (Nat.le_refl _) hbL)
        have VL := hi_ hvL
        clear hvL hbL hlb
        refine hK.out _ _ ⟨(K3.out.next BW.out).c0, (K3.out.next BW.out).c1, (K3.out.next BW.out).c2, (K3.out.next BW.out).c3, (K3.out.next BW.out).c4⟩ (fun hHeld => ?_)
        clear hK K'
        try simp only [Act.put, sA_, sB_, sC_]
        refine wpAnyH_ready (rs := [5, 7]) (by kernel_rfl) (by simp) ?_
        refine AllReadyH.cons (o := ⟨some 11, .call { callee := .builtin .append, args := #[.tmp 8, .tmp 10], argTypes := #[25, 25] }, 25, "law.go:21", #[⟨2, .data⟩, ⟨4, .data⟩, ⟨2, .chain⟩], none⟩) rfl (fun K' hK => ?c8) (AllReadyH.cons (o := ⟨some 3, .alloc 33, 0, "law.go:21", #[], none⟩) rfl (fun K' hK => ?c9) AllReadyH.nil)
        case' c8 =>
          refine step_appX (K := fun _ => True) rowsT rfl (.tmp 8) (.tmp 10) rfl x0.heap.size lvS 1 vsS rfl PS.out.gr.ow (some ⟨lb, 0, none⟩) 1 1 [.slice (some ⟨mb, 0, none⟩) 512 512] rfl VL.out (fun u hu => by simp at hu; rw [hu]; rfl) (by omega) (by decide) PS.out.bel.size ?_; intro v9 xP ho9 hg9 hv9
          obtain ⟨A9, c9, rfl, _, _, _⟩ := own_vrow ho9
          obtain ⟨vs9, D9, hP9, _⟩ := PS.out.putG (K := fun y => y = mb) (Below.refl _ _) RM.out (Nat.le_refl _) (fun b o e _ => by injection e with e; injection e with e1; exact e1.symm) (fun y hy => by rw [hy]; exact NE.out) ho9 hg9 hv9
          have hbP : Below w3.heap.size w3 xP := BW.out.grown hg9 BW.out.size (fun k hk => Nat.le_trans HBS.out (PS.out.own_lt hk).1)
          replace BW := hi_ hbP
          have PP : Hid (PcG x0 xP (.slice A9 2 c9) live18_l vs9 D9) := hi_ hP9
          clear ho9 hg9 hv9 hP9 hbP PS RM VL NE HBS
          refine hK.out _ _ ⟨(K3.out.next BW.out).c0, (K3.out.next BW.out).c1, (K3.out.next BW.out).c2, (K3.out.next BW.out).c3, (K3.out.next BW.out).c4⟩ (fun hHeld => ?_)
          clear hK K'
          try simp only [Act.put, sA_, sB_, sC_]
          refine wpAnyH_ready (rs := [6, 7]) (by kernel_rfl) (by simp) ?_
          refine AllReadyH.cons (o := ⟨some 12, .call { callee := .value (.func 11), args := #[.tmp 6, .tmp 11, .const (.int .i64 4), .const (.int .i64 2), .const (.int .i64 9)], argTypes := #[24, 25, 3, 3, 3] }, 33, "law.go:21", #[⟨0, .data⟩, ⟨5, .data⟩, ⟨5, .chain⟩], none⟩) rfl (fun K' hK => ?c10) (AllReadyH.cons (o := ⟨some 3, .alloc 33, 0, "law.go:21", #[], none⟩) rfl (fun K' hK => ?c11) AllReadyH.nil)
          case' c10 =>
            go_simp
            obtain ⟨A8, c8, he8, _, _, hv8⟩ := PP.out.done
            have he9 : A9 = A8 := by injection he8
            subst he9
            go_at_call 11; refine (LScan_ok 2 4 1 1 none 0 0 [] A9 2 c9 live18_l (by omega) (fun k hk => by cases hk) (by decide) 4 2 9 xP ⟨KRd.nil _ _, hv8⟩).mono ?_; rintro e xC ⟨bs, TT, EE, QQ, RA, rn, rc, rfl, hsc, hvc, hrc, _, hbC⟩
            rw [live18_eff] at hsc
            obtain ⟨hbs, rfl, rfl, rfl⟩ := live18_scn.det hsc
            subst hbs
            have hrn : 1 = rn := hvc.len
            subst hrn
            replace BW := hi_ (BW.out.trans (hbC.mono BW.out.size))
            replace PP := hi_ (PP.out.below hbC)
            have CC : Hid (PcsV (fun y => xP.heap.size <= y) xC RA 1 [frBytes []]) := hi_ hvc
            clear PP hsc hvc hv8 hbC
            refine hK.out _ _ ⟨(K3.out.next BW.out).c0, (K3.out.next BW.out).c1, (K3.out.next BW.out).c2, (K3.out.next BW.out).c3, (K3.out.next BW.out).c4⟩ (fun hHeld => ?_)
            clear hK K'
            try simp only [Act.put, sA_, sB_, sC_]
            refine wpAnyH_ready (rs := [7]) (by kernel_rfl) (by simp) ?_
            refine AllReadyH.cons (o := ⟨some 3, .alloc 33, 0, "law.go:21", #[], none⟩) rfl (fun K' hK => ?_) AllReadyH.nil
            go_simp
            obtain ⟨xA, hxA⟩ : ∃ v, v = xC.alloc (.cells #[.slice none 0 0, .int .i64 0, .int .i64 0, .int .i64 0] 33) := ⟨_, rfl⟩
            have hbA : Below xC.heap.size xC xA := by rw [hxA]; exact (Below.refl _ _).alloc (Nat.le_refl _) _
            have hrA : Rec 33 xA xC.heap.size #[.slice none 0 0, .int .i64 0, .int .i64 0, .int .i64 0] := by rw [hxA]; exact Rec.new xC _ _
            rw [<- hxA]
            clear hxA
            obtain ⟨tb, htb⟩ : ∃ tb, tb = xC.heap.size := ⟨_, rfl⟩
            have HTB : Hid (w3.heap.size <= tb) := hi_ (by rw [htb]; exact BW.out.size)
            rw [<- htb] at hrA ⊢
            have hcc := PcsV.mono (PcsV.lt CC.out) (K' := fun y => y ≠ tb) (fun y hy => by have := hy.2; omega)
            replace CC := hi_ hcc
            clear hcc
            replace BW := hi_ (BW.out.trans (hbA.mono BW.out.size))
            replace CC := hi_ (PcsV.below CC.out hbA)
            have TA := hi_ hrA
            clear hrA hbA htb
            refine hK.out _ _ ⟨(K3.out.next BW.out).c0, (K3.out.next BW.out).c1, (K3.out.next BW.out).c2, (K3.out.next BW.out).c3, (K3.out.next BW.out).c4⟩ (fun hHeld => ?_)
            clear hK K'
            try simp only [Act.put, sA_, sB_, sC_]
            generalize xA = zW at BW CC TA hHeld ⊢
          case' c11 =>
            go_simp
            obtain ⟨xA, hxA⟩ : ∃ v, v = xP.alloc (.cells #[.slice none 0 0, .int .i64 0, .int .i64 0, .int .i64 0] 33) := ⟨_, rfl⟩
            have hbA : Below xP.heap.size xP xA := by rw [hxA]; exact (Below.refl _ _).alloc (Nat.le_refl _) _
            have hrA : Rec 33 xA xP.heap.size #[.slice none 0 0, .int .i64 0, .int .i64 0, .int .i64 0] := by rw [hxA]; exact Rec.new xP _ _
            rw [<- hxA]
            clear hxA
            obtain ⟨tb, htb⟩ : ∃ tb, tb = xP.heap.size := ⟨_, rfl⟩
            have HTB : Hid (w3.heap.size <= tb) := hi_ (by rw [htb]; exact BW.out.size)
            rw [<- htb] at hrA ⊢
            replace BW := hi_ (BW.out.trans (hbA.mono BW.out.size))
            replace PP := hi_ (PP.out.below hbA)
            have TA := hi_ hrA
            clear hrA hbA htb
            refine hK.out _ _ ⟨(K3.out.next BW.out).c0, (K3.out.next BW.out).c1, (K3.out.next BW.out).c2, (K3.out.next BW.out).c3, (K3.out.next BW.out).c4⟩ (fun hHeld => ?_)
            clear hK K'
            try simp only [Act.put, sA_, sB_, sC_]
            refine wpAnyH_ready (rs := [6]) (by kernel_rfl) (by simp) ?_
            refine AllReadyH.cons (o := ⟨some 12, .call { callee := .value (.func 11), args := #[.tmp 6, .tmp 11, .const (.int .i64 4), .const (.int .i64 2), .const (.int .i64 9)], argTypes := #[24, 25, 3, 3, 3] }, 33, "law.go:21", #[⟨0, .data⟩, ⟨5, .data⟩, ⟨5, .chain⟩], none⟩) rfl (fun K' hK => ?_) AllReadyH.nil
            go_simp
            obtain ⟨A8, c8, he8, _, _, hv8⟩ := PP.out.done
            have he9 : A9 = A8 := by injection he8
            subst he9
            have htb := TA.out.lt
            go_at_call 11; refine (LScan_ok 2 4 1 1 none 0 0 [] A9 2 c9 live18_l (by omega) (fun k hk => by cases hk) (by decide) 4 2 9 xA ⟨KRd.nil _ _, hv8⟩).mono ?_; rintro e xC ⟨bs, TT, EE, QQ, RA, rn, rc, rfl, hsc, hvc, hrc, _, hbC⟩
            rw [live18_eff] at hsc
            obtain ⟨hbs, rfl, rfl, rfl⟩ := live18_scn.det hsc
            subst hbs
            have hrn : 1 = rn := hvc.len
            subst hrn
            replace BW := hi_ (BW.out.trans (hbC.mono BW.out.size))
            replace TA := hi_ (TA.out.under hbC)
            replace PP := hi_ (PP.out.below hbC)
            have CC : Hid (PcsV (fun y => xA.heap.size <= y) xC RA 1 [frBytes []]) := hi_ hvc
            have HCT : Hid (tb < xA.heap.size) := hi_ htb
            clear PP hsc hvc hv8 hbC
            replace CC : Hid (PcsV (fun y => tb < y) xC RA 1 [frBytes []]) := hi_ (PcsV.mono CC.out (fun y hy => Nat.lt_of_lt_of_le HCT.out hy))
            clear HCT htb
            refine hK.out _ _ ⟨(K3.out.next BW.out).c0, (K3.out.next BW.out).c1, (K3.out.next BW.out).c2, (K3.out.next BW.out).c3, (K3.out.next BW.out).c4⟩ (fun hHeld => ?_)
            clear hK K'
            try simp only [Act.put, sA_, sB_, sC_]
            replace CC : Hid (PcsV (fun y => y ≠ tb) xC RA 1 [frBytes []]) := hi_ (PcsV.mono CC.out (fun y hy => Nat.ne_of_gt hy))
            generalize xC = zW at BW CC TA hHeld ⊢
        case' c9 =>
          go_simp
          obtain ⟨xA, hxA⟩ : ∃ v, v = xL.alloc (.cells #[.slice none 0 0, .int .i64 0, .int .i64 0, .int .i64 0] 33) := ⟨_, rfl⟩
          have hbA : Below xL.heap.size xL xA := by rw [hxA]; exact (Below.refl _ _).alloc (Nat.le_refl _) _
          have hrA : Rec 33 xA xL.heap.size #[.slice none 0 0, .int .i64 0, .int .i64 0, .int .i64 0] := by rw [hxA]; exact Rec.new xL _ _
          rw [<- hxA]
          clear hxA
          obtain ⟨tb, htb⟩ : ∃ tb, tb = xL.heap.size := ⟨_, rfl⟩
          have HTB : Hid (w3.heap.size <= tb) := hi_ (by rw [htb]; exact BW.out.size)
          rw [<- htb] at hrA ⊢
          have NT : Hid (lvS.ownBlock ≠ some tb) := hi_ (fun e => by have h1 := (PS.out.own_lt e).2; omega)
          replace BW := hi_ (BW.out.trans (hbA.mono BW.out.size))
          replace PS := hi_ (PS.out.below hbA)
          replace RM := hi_ (RM.out.below (Nat.le_refl _) hbA)
          replace VL := hi_ (VL.out.below hbA)
          have TA := hi_ hrA
          clear hrA hbA htb
          refine hK.out _ _ ⟨(K3.out.next BW.out).c0, (K3.out.next BW.out).c1, (K3.out.next BW.out).c2, (K3.out.next BW.out).c3, (K3.out.next BW.out).c4⟩ (fun hHeld => ?_)
          clear hK K'
          try simp only [Act.put, sA_, sB_, sC_]
          refine wpAnyH_ready (rs := [5]) (by kernel_rfl) (by simp) ?_
          refine AllReadyH.cons (o := ⟨some 11, .call { callee := .builtin .append, args := #[.tmp 8, .tmp 10], argTypes := #[25, 25] }, 25, "law.go:21", #[⟨2, .data⟩, ⟨4, .data⟩, ⟨2, .chain⟩], none⟩) rfl (fun K' hK => ?_) AllReadyH.nil
          refine step_appX (K := fun _ => True) rowsT rfl (.tmp 8) (.tmp 10) rfl x0.heap.size lvS 1 vsS rfl PS.out.gr.ow (some ⟨lb, 0, none⟩) 1 1 [.slice (some ⟨mb, 0, none⟩) 512 512] rfl VL.out (fun u hu => by simp at hu; rw [hu]; rfl) (by omega) (by decide) PS.out.bel.size ?_; intro v9 xP ho9 hg9 hv9
          obtain ⟨A9, c9, rfl, _, _, _⟩ := own_vrow ho9
          obtain ⟨vs9, D9, hP9, _⟩ := PS.out.putG (K := fun y => y = mb) (Below.refl _ _) RM.out (Nat.le_refl _) (fun b o e _ => by injection e with e; injection e with e1; exact e1.symm) (fun y hy => by rw [hy]; exact NE.out) ho9 hg9 hv9
          have hbP : Below w3.heap.size w3 xP := BW.out.grown hg9 BW.out.size (fun k hk => Nat.le_trans HBS.out (PS.out.own_lt hk).1)
          replace TA := hi_ (TA.out.block (hg9.block tb TA.out.lt (fun e => NT.out e.symm)))
          replace BW := hi_ hbP
          have PP : Hid (PcG x0 xP (.slice A9 2 c9) live18_l vs9 D9) := hi_ hP9
          clear ho9 hg9 hv9 hP9 hbP PS RM VL NE HBS
          clear NT
          refine hK.out _ _ ⟨(K3.out.next BW.out).c0, (K3.out.next BW.out).c1, (K3.out.next BW.out).c2, (K3.out.next BW.out).c3, (K3.out.next BW.out).c4⟩ (fun hHeld => ?_)
          clear hK K'
          try simp only [Act.put, sA_, sB_, sC_]
          refine wpAnyH_ready (rs := [6]) (by kernel_rfl) (by simp) ?_
          refine AllReadyH.cons (o := ⟨some 12, .call { callee := .value (.func 11), args := #[.tmp 6, .tmp 11, .const (.int .i64 4), .const (.int .i64 2), .const (.int .i64 9)], argTypes := #[24, 25, 3, 3, 3] }, 33, "law.go:21", #[⟨0, .data⟩, ⟨5, .data⟩, ⟨5, .chain⟩], none⟩) rfl (fun K' hK => ?_) AllReadyH.nil
          go_simp
          obtain ⟨A8, c8, he8, _, _, hv8⟩ := PP.out.done
          have he9 : A9 = A8 := by injection he8
          subst he9
          have htb := TA.out.lt
          go_at_call 11; refine (LScan_ok 2 4 1 1 none 0 0 [] A9 2 c9 live18_l (by omega) (fun k hk => by cases hk) (by decide) 4 2 9 xP ⟨KRd.nil _ _, hv8⟩).mono ?_; rintro e xC ⟨bs, TT, EE, QQ, RA, rn, rc, rfl, hsc, hvc, hrc, _, hbC⟩
          rw [live18_eff] at hsc
          obtain ⟨hbs, rfl, rfl, rfl⟩ := live18_scn.det hsc
          subst hbs
          have hrn : 1 = rn := hvc.len
          subst hrn
          replace BW := hi_ (BW.out.trans (hbC.mono BW.out.size))
          replace TA := hi_ (TA.out.under hbC)
          replace PP := hi_ (PP.out.below hbC)
          have CC : Hid (PcsV (fun y => xP.heap.size <= y) xC RA 1 [frBytes []]) := hi_ hvc
          have HCT : Hid (tb < xP.heap.size) := hi_ htb
          clear PP hsc hvc hv8 hbC
          replace CC : Hid (PcsV (fun y => tb < y) xC RA 1 [frBytes []]) := hi_ (PcsV.mono CC.out (fun y hy => Nat.lt_of_lt_of_le HCT.out hy))
          clear HCT htb
          refine hK.out _ _ ⟨(K3.out.next BW.out).c0, (K3.out.next BW.out).c1, (K3.out.next BW.out).c2, (K3.out.next BW.out).c3, (K3.out.next BW.out).c4⟩ (fun hHeld => ?_)
          clear hK K'
          try simp only [Act.put, sA_, sB_, sC_]
          replace CC : Hid (PcsV (fun y => y ≠ tb) xC RA 1 [frBytes []]) := hi_ (PcsV.mono CC.out (fun y hy => Nat.ne_of_gt hy))
          generalize xC = zW at BW CC TA hHeld ⊢
      case' c7 =>
        go_simp
        obtain ⟨xA, hxA⟩ : ∃ v, v = xM.alloc (.cells #[.slice none 0 0, .int .i64 0, .int .i64 0, .int .i64 0] 33) := ⟨_, rfl⟩
        have hbA : Below xM.heap.size xM xA := by rw [hxA]; exact (Below.refl _ _).alloc (Nat.le_refl _) _
        have hrA : Rec 33 xA xM.heap.size #[.slice none 0 0, .int .i64 0, .int .i64 0, .int .i64 0] := by rw [hxA]; exact Rec.new xM _ _
        rw [<- hxA]
        clear hxA
        obtain ⟨tb, htb⟩ : ∃ tb, tb = xM.heap.size := ⟨_, rfl⟩
        have HTB : Hid (w3.heap.size <= tb) := hi_ (by rw [htb]; exact BW.out.size)
        rw [<- htb] at hrA ⊢
        have NT : Hid (lvS.ownBlock ≠ some tb) := hi_ (fun e => by have h1 := (PS.out.own_lt e).2; omega)
        replace BW := hi_ (BW.out.trans (hbA.mono BW.out.size))
        replace PS := hi_ (PS.out.below hbA)
        replace RM := hi_ (RM.out.below (Nat.le_refl _) hbA)
        have TA := hi_ hrA
        clear hrA hbA htb
        refine hK.out _ _ ⟨(K3.out.next BW.out).c0, (K3.out.next BW.out).c1, (K3.out.next BW.out).c2, (K3.out.next BW.out).c3, (K3.out.next BW.out).c4⟩ (fun hHeld => ?_)
        clear hK K'
        try simp only [Act.put, sA_, sB_, sC_]
        refine wpAnyH_ready (rs := [4]) (by kernel_rfl) (by simp) ?_
        refine AllReadyH.cons (o := ⟨some 10, .buildSlice 25 1 #[(0, .tmp 9)], 25, "law.go:21", #[⟨3, .data⟩], none⟩) rfl (fun K' hK => ?_) AllReadyH.nil
        go_simp
        obtain ⟨xL, hxL⟩ : ∃ v, v = xA.alloc (.cells #[.slice (some ⟨mb, 0, none⟩) 512 512] 42) := ⟨_, rfl⟩
        have hbL : Below xA.heap.size xA xL := by rw [hxL]; exact (Below.refl _ _).alloc (Nat.le_refl _) _
        have hvL : VRow (fun _ => True) xL (some ⟨xA.heap.size, 0, none⟩) 1 1 [.slice (some ⟨mb, 0, none⟩) 512 512] := by rw [hxL]; exact (VRow.new xA #[.slice (some ⟨mb, 0, none⟩) 512 512] _ 1 1 rfl).mono (fun _ _ => trivial)
        rw [<- hxL]
        clear hxL
        obtain ⟨lb, hlb⟩ : ∃ lb, lb = xA.heap.size := ⟨_, rfl⟩
        rw [<- hlb] at hvL ⊢
        replace BW := hi_ (BW.out.trans (hbL.mono BW.out.size))
        replace PS := hi_ (PS.out.below hbL)
        replace RM := hi_ (RM.out.below (Nat.le_refl _) hbL)
        replace TA := hi_ (TA.out.under hbL)
        have VL := hi_ hvL
        clear hvL hbL hlb
        refine hK.out _ _ ⟨(K3.out.next BW.out).c0, (K3.out.next BW.out).c1, (K3.out.next BW.out).c2, (K3.out.next BW.out).c3, (K3.out.next BW.out).c4⟩ (fun hHeld => ?_)
        clear hK K'
        try simp only [Act.put, sA_, sB_, sC_]
        refine wpAnyH_ready (rs := [5]) (by kernel_rfl) (by simp) ?_
        refine AllReadyH.cons (o := ⟨some 11, .call { callee := .builtin .append, args := #[.tmp 8, .tmp 10], argTypes := #[25, 25] }, 25, "law.go:21", #[⟨2, .data⟩, ⟨4, .data⟩, ⟨2, .chain⟩], none⟩) rfl (fun K' hK => ?_) AllReadyH.nil
        refine step_appX (K := fun _ => True) rowsT rfl (.tmp 8) (.tmp 10) rfl x0.heap.size lvS 1 vsS rfl PS.out.gr.ow (some ⟨lb, 0, none⟩) 1 1 [.slice (some ⟨mb, 0, none⟩) 512 512] rfl VL.out (fun u hu => by simp at hu; rw [hu]; rfl) (by omega) (by decide) PS.out.bel.size ?_; intro v9 xP ho9 hg9 hv9
        obtain ⟨A9, c9, rfl, _, _, _⟩ := own_vrow ho9
        obtain ⟨vs9, D9, hP9, _⟩ := PS.out.putG (K := fun y => y = mb) (Below.refl _ _) RM.out (Nat.le_refl _) (fun b o e _ => by injection e with e; injection e with e1; exact e1.symm) (fun y hy => by rw [hy]; exact NE.out) ho9 hg9 hv9
        have hbP : Below w3.heap.size w3 xP := BW.out.grown hg9 BW.out.size (fun k hk => Nat.le_trans HBS.out (PS.out.own_lt hk).1)
        replace TA := hi_ (TA.out.block (hg9.block tb TA.out.lt (fun e => NT.out e.symm)))
        replace BW := hi_ hbP
        have PP : Hid (PcG x0 xP (.slice A9 2 c9) live18_l vs9 D9) := hi_ hP9
        clear ho9 hg9 hv9 hP9 hbP PS RM VL NE HBS
        clear NT
        refine hK.out _ _ ⟨(K3.out.next BW.out).c0, (K3.out.next BW.out).c1, (K3.out.next BW.out).c2, (K3.out.next BW.out).c3, (K3.out.next BW.out).c4⟩ (fun hHeld => ?_)
        clear hK K'
        try simp only [Act.put, sA_, sB_, sC_]
        refine wpAnyH_ready (rs := [6]) (by kernel_rfl) (by simp) ?_
        refine AllReadyH.cons (o := ⟨some 12, .call { callee := .value (.func 11), args := #[.tmp 6, .tmp 11, .const (.int .i64 4), .const (.int .i64 2), .const (.int .i64 9)], argTypes := #[24, 25, 3, 3, 3] }, 33, "law.go:21", #[⟨0, .data⟩, ⟨5, .data⟩, ⟨5, .chain⟩], none⟩) rfl (fun K' hK => ?_) AllReadyH.nil
        go_simp
        obtain ⟨A8, c8, he8, _, _, hv8⟩ := PP.out.done
        have he9 : A9 = A8 := by injection he8
        subst he9
        have htb := TA.out.lt
        go_at_call 11; refine (LScan_ok 2 4 1 1 none 0 0 [] A9 2 c9 live18_l (by omega) (fun k hk => by cases hk) (by decide) 4 2 9 xP ⟨KRd.nil _ _, hv8⟩).mono ?_; rintro e xC ⟨bs, TT, EE, QQ, RA, rn, rc, rfl, hsc, hvc, hrc, _, hbC⟩
        rw [live18_eff] at hsc
        obtain ⟨hbs, rfl, rfl, rfl⟩ := live18_scn.det hsc
        subst hbs
        have hrn : 1 = rn := hvc.len
        subst hrn
        replace BW := hi_ (BW.out.trans (hbC.mono BW.out.size))
        replace TA := hi_ (TA.out.under hbC)
        replace PP := hi_ (PP.out.below hbC)
        have CC : Hid (PcsV (fun y => xP.heap.size <= y) xC RA 1 [frBytes []]) := hi_ hvc
        have HCT : Hid (tb < xP.heap.size) := hi_ htb
        clear PP hsc hvc hv8 hbC
        replace CC : Hid (PcsV (fun y => tb < y) xC RA 1 [frBytes []]) := hi_ (PcsV.mono CC.out (fun y hy => Nat.lt_of_lt_of_le HCT.out hy))
        clear HCT htb
        refine hK.out _ _ ⟨(K3.out.next BW.out).c0, (K3.out.next BW.out).c1, (K3.out.next BW.out).c2, (K3.out.next BW.out).c3, (K3.out.next BW.out).c4⟩ (fun hHeld => ?_)
        clear hK K'
        try simp only [Act.put, sA_, sB_, sC_]
        replace CC : Hid (PcsV (fun y => y ≠ tb) xC RA 1 [frBytes []]) := hi_ (PcsV.mono CC.out (fun y hy => Nat.ne_of_gt hy))
        generalize xC = zW at BW CC TA hHeld ⊢
    case' c5 =>
      go_simp
      obtain ⟨xA, hxA⟩ : ∃ v, v = xS.alloc (.cells #[.slice none 0 0, .int .i64 0, .int .i64 0, .int .i64 0] 33) := ⟨_, rfl⟩
      have hbA : Below xS.heap.size xS xA := by rw [hxA]; exact (Below.refl _ _).alloc (Nat.le_refl _) _
      have hrA : Rec 33 xA xS.heap.size #[.slice none 0 0, .int .i64 0, .int .i64 0, .int .i64 0] := by rw [hxA]; exact Rec.new xS _ _
      rw [<- hxA]
      clear hxA
      obtain ⟨tb, htb⟩ : ∃ tb, tb = xS.heap.size := ⟨_, rfl⟩
      have HTB : Hid (w3.heap.size <= tb) := hi_ (by rw [htb]; exact BW.out.size)
      rw [<- htb] at hrA ⊢
      have NT : Hid (lvS.ownBlock ≠ some tb) := hi_ (fun e => by have h1 := (PS.out.own_lt e).2; omega)
      replace BW := hi_ (BW.out.trans (hbA.mono BW.out.size))
      replace PS := hi_ (PS.out.below hbA)
      have TA := hi_ hrA
      clear hrA hbA htb
      refine hK.out _ _ ⟨(K3.out.next BW.out).c0, (K3.out.next BW.out).c1, (K3.out.next BW.out).c2, (K3.out.next BW.out).c3, (K3.out.next BW.out).c4⟩ (fun hHeld => ?_)
      clear hK K'
      try simp only [Act.put, sA_, sB_, sC_]
      refine wpAnyH_ready (rs := [3]) (by kernel_rfl) (by simp) ?_
      refine AllReadyH.cons (o := ⟨some 9, .makeSlice 42 (.const (.int .i64 512)) (.const (.int .i64 512)), 42, "law.go:21", #[], none⟩) rfl (fun K' hK => ?_) AllReadyH.nil
      refine step_mkn _ bytesT rfl (.const (.int .i64 512)) (.const (.int .i64 512)) rfl xA.heap.size .i64 .i64 _ _ 512 rfl rfl rfl rfl (by decide) (by unfold maxLen; omega) (Nat.le_refl _) ?_; intro xM hoM hbM
      rw [made_zeros] at hoM
      have hrM := own_rd hoM
      obtain ⟨mb, hmb⟩ : ∃ mb, mb = xA.heap.size := ⟨_, rfl⟩
      rw [<- hmb] at hrM
      have NE : Hid (lvS.ownBlock ≠ some mb) := hi_ (fun e => by have h1 := (PS.out.own_lt e).2; omega)
      replace BW := hi_ (BW.out.trans (hbM.mono BW.out.size))
      replace PS := hi_ (PS.out.below hbM)
      replace TA := hi_ (TA.out.under hbM)
      have RM := hi_ hrM
      try rw [<- hmb]
      clear hoM hbM hrM hmb
      refine hK.out _ _ ⟨(K3.out.next BW.out).c0, (K3.out.next BW.out).c1, (K3.out.next BW.out).c2, (K3.out.next BW.out).c3, (K3.out.next BW.out).c4⟩ (fun hHeld => ?_)
      clear hK K'
      try simp only [Act.put, sA_, sB_, sC_]
      refine wpAnyH_ready (rs := [4]) (by kernel_rfl) (by simp) ?_
      refine AllReadyH.cons (o := ⟨some 10, .buildSlice 25 1 #[(0, .tmp 9)], 25, "law.go:21", #[⟨3, .data⟩], none⟩) rfl (fun K' hK => ?_) AllReadyH.nil
      go_simp
      obtain ⟨xL, hxL⟩ : ∃ v, v = xM.alloc (.cells #[.slice (some ⟨mb, 0, none⟩) 512 512] 42) := ⟨_, rfl⟩
      have hbL : Below xM.heap.size xM xL := by rw [hxL]; exact (Below.refl _ _).alloc (Nat.le_refl _) _
      have hvL : VRow (fun _ => True) xL (some ⟨xM.heap.size, 0, none⟩) 1 1 [.slice (some ⟨mb, 0, none⟩) 512 512] := by rw [hxL]; exact (VRow.new xM #[.slice (some ⟨mb, 0, none⟩) 512 512] _ 1 1 rfl).mono (fun _ _ => trivial)
      rw [<- hxL]
      clear hxL
      obtain ⟨lb, hlb⟩ : ∃ lb, lb = xM.heap.size := ⟨_, rfl⟩
      rw [<- hlb] at hvL ⊢
      replace BW := hi_ (BW.out.trans (hbL.mono BW.out.size))
      replace PS := hi_ (PS.out.below hbL)
      replace RM := hi_ (RM.out.below (Nat.le_refl _) hbL)
      replace TA := hi_ (TA.out.under hbL)
      have VL := hi_ hvL
      clear hvL hbL hlb
      refine hK.out _ _ ⟨(K3.out.next BW.out).c0, (K3.out.next BW.out).c1, (K3.out.next BW.out).c2, (K3.out.next BW.out).c3, (K3.out.next BW.out).c4⟩ (fun hHeld => ?_)
      clear hK K'
      try simp only [Act.put, sA_, sB_, sC_]
      refine wpAnyH_ready (rs := [5]) (by kernel_rfl) (by simp) ?_
      refine AllReadyH.cons (o := ⟨some 11, .call { callee := .builtin .append, args := #[.tmp 8, .tmp 10], argTypes := #[25, 25] }, 25, "law.go:21", #[⟨2, .data⟩, ⟨4, .data⟩, ⟨2, .chain⟩], none⟩) rfl (fun K' hK => ?_) AllReadyH.nil
      refine step_appX (K := fun _ => True) rowsT rfl (.tmp 8) (.tmp 10) rfl x0.heap.size lvS 1 vsS rfl PS.out.gr.ow (some ⟨lb, 0, none⟩) 1 1 [.slice (some ⟨mb, 0, none⟩) 512 512] rfl VL.out (fun u hu => by simp at hu; rw [hu]; rfl) (by omega) (by decide) PS.out.bel.size ?_; intro v9 xP ho9 hg9 hv9
      obtain ⟨A9, c9, rfl, _, _, _⟩ := own_vrow ho9
      obtain ⟨vs9, D9, hP9, _⟩ := PS.out.putG (K := fun y => y = mb) (Below.refl _ _) RM.out (Nat.le_refl _) (fun b o e _ => by injection e with e; injection e with e1; exact e1.symm) (fun y hy => by rw [hy]; exact NE.out) ho9 hg9 hv9
      have hbP : Below w3.heap.size w3 xP := BW.out.grown hg9 BW.out.size (fun k hk => Nat.le_trans HBS.out (PS.out.own_lt hk).1)
      replace TA := hi_ (TA.out.block (hg9.block tb TA.out.lt (fun e => NT.out e.symm)))
      replace BW := hi_ hbP
      have PP : Hid (PcG x0 xP (.slice A9 2 c9) live18_l vs9 D9) := hi_ hP9
      clear ho9 hg9 hv9 hP9 hbP PS RM VL NE HBS
      clear NT
      refine hK.out _ _ ⟨(K3.out.next BW.out).c0, (K3.out.next BW.out).c1, (K3.out.next BW.out).c2, (K3.out.next BW.out).c3, (K3.out.next BW.out).c4⟩ (fun hHeld => ?_)
      clear hK K'
      try simp only [Act.put, sA_, sB_, sC_]
      refine wpAnyH_ready (rs := [6]) (by kernel_rfl) (by simp) ?_
      refine AllReadyH.cons (o := ⟨some 12, .call { callee := .value (.func 11), args := #[.tmp 6, .tmp 11, .const (.int .i64 4), .const (.int .i64 2), .const (.int .i64 9)], argTypes := #[24, 25, 3, 3, 3] }, 33, "law.go:21", #[⟨0, .data⟩, ⟨5, .data⟩, ⟨5, .chain⟩], none⟩) rfl (fun K' hK => ?_) AllReadyH.nil
      go_simp
      obtain ⟨A8, c8, he8, _, _, hv8⟩ := PP.out.done
      have he9 : A9 = A8 := by injection he8
      subst he9
      have htb := TA.out.lt
      go_at_call 11; refine (LScan_ok 2 4 1 1 none 0 0 [] A9 2 c9 live18_l (by omega) (fun k hk => by cases hk) (by decide) 4 2 9 xP ⟨KRd.nil _ _, hv8⟩).mono ?_; rintro e xC ⟨bs, TT, EE, QQ, RA, rn, rc, rfl, hsc, hvc, hrc, _, hbC⟩
      rw [live18_eff] at hsc
      obtain ⟨hbs, rfl, rfl, rfl⟩ := live18_scn.det hsc
      subst hbs
      have hrn : 1 = rn := hvc.len
      subst hrn
      replace BW := hi_ (BW.out.trans (hbC.mono BW.out.size))
      replace TA := hi_ (TA.out.under hbC)
      replace PP := hi_ (PP.out.below hbC)
      have CC : Hid (PcsV (fun y => xP.heap.size <= y) xC RA 1 [frBytes []]) := hi_ hvc
      have HCT : Hid (tb < xP.heap.size) := hi_ htb
      clear PP hsc hvc hv8 hbC
      replace CC : Hid (PcsV (fun y => tb < y) xC RA 1 [frBytes []]) := hi_ (PcsV.mono CC.out (fun y hy => Nat.lt_of_lt_of_le HCT.out hy))
      clear HCT htb
      refine hK.out _ _ ⟨(K3.out.next BW.out).c0, (K3.out.next BW.out).c1, (K3.out.next BW.out).c2, (K3.out.next BW.out).c3, (K3.out.next BW.out).c4⟩ (fun hHeld => ?_)
      clear hK K'
      try simp only [Act.put, sA_, sB_, sC_]
      replace CC : Hid (PcsV (fun y => y ≠ tb) xC RA 1 [frBytes []]) := hi_ (PcsV.mono CC.out (fun y hy => Nat.ne_of_gt hy))
      generalize xC = zW at BW CC TA hHeld ⊢
  case' c2 =>
    refine step_mkn _ bytesT rfl (.const (.int .i64 512)) (.const (.int .i64 512)) rfl x0.heap.size .i64 .i64 _ _ 512 rfl rfl rfl rfl (by decide) (by unfold maxLen; omega) (Nat.le_refl _) ?_; intro xM hoM hbM
    rw [made_zeros] at hoM
    have hrM := own_rd hoM
    obtain ⟨mb, hmb⟩ : ∃ mb, mb = x0.heap.size := ⟨_, rfl⟩
    rw [<- hmb] at hrM
    replace BW := hi_ (BW.out.trans (hbM.mono BW.out.size))
    have RM := hi_ hrM
    try rw [<- hmb]
    clear hoM hbM hrM hmb
    refine hK.out _ _ ⟨(K3.out.next BW.out).c0, (K3.out.next BW.out).c1, (K3.out.next BW.out).c2, (K3.out.next BW.out).c3, (K3.out.next BW.out).c4⟩ (fun hHeld => ?_)
    clear hK K'
    try simp only [Act.put, sA_, sB_, sC_]
    refine wpAnyH_ready (rs := [2, 4, 7]) (by kernel_rfl) (by simp) ?_
    refine AllReadyH.cons (o := ⟨some 8, .call { callee := .value (.func 17), args := #[.const (.int .i64 3), .const (.int .i64 4), .const (.int .i64 9), .tmp 7], argTypes := #[3, 3, 3, 42] }, 25, "law.go:21", #[⟨1, .data⟩], none⟩) rfl (fun K' hK => ?c23) (AllReadyH.cons (o := ⟨some 10, .buildSlice 25 1 #[(0, .tmp 9)], 25, "law.go:21", #[⟨3, .data⟩], none⟩) rfl (fun K' hK => ?c24) (AllReadyH.cons (o := ⟨some 3, .alloc 33, 0, "law.go:21", #[], none⟩) rfl (fun K' hK => ?c25) AllReadyH.nil))
    case' c23 =>
      go_simp
      go_at_call 17; refine (RSealed_any B3 5 c3 (frBytes []) 3 4 9 xM (R3.out.1.below (Nat.le_refl _) BW.out) R3.out.2 (by omega) (by omega) (by omega)).mono ?_; rintro e xS ⟨lvS, vsS, DS, rfl, hpS, _⟩
      rw [live18_sec] at hpS
      have hbS : Below xM.heap.size xM xS := hpS.bel
      have HBS : Hid (w3.heap.size <= xM.heap.size) := hi_ BW.out.size
      have NE : Hid (lvS.ownBlock ≠ some mb) := hi_ (fun e => by have h1 := (hpS.own_lt e).1; have h2 := rd_lt RM.out (by decide); omega)
      replace BW := hi_ (BW.out.trans (hbS.mono BW.out.size))
      replace RM := hi_ (RM.out.below (Nat.le_refl _) hbS)
      have PS := hi_ hpS
      clear hpS hbS
      refine hK.out _ _ ⟨(K3.out.next BW.out).c0, (K3.out.next BW.out).c1, (K3.out.next BW.out).c2, (K3.out.next BW.out).c3, (K3.out.next BW.out).c4⟩ (fun hHeld => ?_)
      clear hK K'
      try simp only [Act.put, sA_, sB_, sC_]
      refine wpAnyH_ready (rs := [4, 7]) (by kernel_rfl) (by simp) ?_
      refine AllReadyH.cons (o := ⟨some 10, .buildSlice 25 1 #[(0, .tmp 9)], 25, "law.go:21", #[⟨3, .data⟩], none⟩) rfl (fun K' hK => ?c26) (AllReadyH.cons (o := ⟨some 3, .alloc 33, 0, "law.go:21", #[], none⟩) rfl (fun K' hK => ?c27) AllReadyH.nil)
      case' c26 =>
        go_simp
        obtain ⟨xL, hxL⟩ : ∃ v, v = xS.alloc (.cells #[.slice (some ⟨mb, 0, none⟩) 512 512] 42) := ⟨_, rfl⟩
        have hbL : Below xS.heap.size xS xL := by rw [hxL]; exact (Below.refl _ _).alloc (Nat.le_refl _) _
        have hvL : VRow (fun _ => True) xL (some ⟨xS.heap.size, 0, none⟩) 1 1 [.slice (some ⟨mb, 0, none⟩) 512 512] := by rw [hxL]; exact (VRow.new xS #[.slice (some ⟨mb, 0, none⟩) 512 512] _ 1 1 rfl).mono (fun _ _ => trivial)
        rw [<- hxL]
        clear hxL
        obtain ⟨lb, hlb⟩ : ∃ lb, lb = xS.heap.size := ⟨_, rfl⟩
        rw [<- hlb] at hvL ⊢
        replace BW := hi_ (BW.out.trans (hbL.mono BW.out.size))
        replace PS := hi_ (PS.out.below hbL)
        replace RM := hi_ (RM.out.below (Nat.le_refl _) hbL)
        have VL := hi_ hvL
        clear hvL hbL hlb
        refine hK.out _ _ ⟨(K3.out.next BW.out).c0, (K3.out.next BW.out).c1, (K3.out.next BW.out).c2, (K3.out.next BW.out).c3, (K3.out.next BW.out).c4⟩ (fun hHeld => ?_)
        clear hK K'
        try simp only [Act.put, sA_, sB_, sC_]
        refine wpAnyH_ready (rs := [5, 7]) (by kernel_rfl) (by simp) ?_
        refine AllReadyH.cons (o := ⟨some 11, .call { callee := .builtin .append, args := #[.tmp 8, .tmp 10], argTypes := #[25, 25] }, 25, "law.go:21", #[⟨2, .data⟩, ⟨4, .data⟩, ⟨2, .chain⟩], none⟩) rfl (fun K' hK => ?c28) (AllReadyH.cons (o := ⟨some 3, .alloc 33, 0, "law.go:21", #[], none⟩) rfl (fun K' hK => ?c29) AllReadyH.nil)
        case' c28 =>
          refine step_appX (K := fun _ => True) rowsT rfl (.tmp 8) (.tmp 10) rfl xM.heap.size lvS 1 vsS rfl PS.out.gr.ow (some ⟨lb, 0, none⟩) 1 1 [.slice (some ⟨mb, 0, none⟩) 512 512] rfl VL.out (fun u hu => by simp at hu; rw [hu]; rfl) (by omega) (by decide) PS.out.bel.size ?_; intro v9 xP ho9 hg9 hv9
          obtain ⟨A9, c9, rfl, _, _, _⟩ := own_vrow ho9
          obtain ⟨vs9, D9, hP9, _⟩ := PS.out.putG (K := fun y => y = mb) (Below.refl _ _) RM.out (Nat.le_refl _) (fun b o e _ => by injection e with e; injection e with e1; exact e1.symm) (fun y hy => by rw [hy]; exact NE.out) ho9 hg9 hv9
          have hbP : Below w3.heap.size w3 xP := BW.out.grown hg9 BW.out.size (fun k hk => Nat.le_trans HBS.out (PS.out.own_lt hk).1)
          replace BW := hi_ hbP
          have PP : Hid (PcG xM xP (.slice A9 2 c9) live18_l vs9 D9) := hi_ hP9
          clear ho9 hg9 hv9 hP9 hbP PS RM VL NE HBS
          refine hK.out _ _ ⟨(K3.out.next BW.out).c0, (K3.out.next BW.out).c1, (K3.out.next BW.out).c2, (K3.out.next BW.out).c3, (K3.out.next BW.out).c4⟩ (fun hHeld => ?_)
          clear hK K'
          try simp only [Act.put, sA_, sB_, sC_]
          refine wpAnyH_ready (rs := [6, 7]) (by kernel_rfl) (by simp) ?_
          refine AllReadyH.cons (o := ⟨some 12, .call { callee := .value (.func 11), args := #[.tmp 6, .tmp 11, .const (.int .i64 4), .const (.int .i64 2), .const (.int .i64 9)], argTypes := #[24, 25, 3, 3, 3] }, 33, "law.go:21", #[⟨0, .data⟩, ⟨5, .data⟩, ⟨5, .chain⟩], none⟩) rfl (fun K' hK => ?c30) (AllReadyH.cons (o := ⟨some 3, .alloc 33, 0, "law.go:21", #[], none⟩) rfl (fun K' hK => ?c31) AllReadyH.nil)
          case' c30 =>
            go_simp
            obtain ⟨A8, c8, he8, _, _, hv8⟩ := PP.out.done
            have he9 : A9 = A8 := by injection he8
            subst he9
            go_at_call 11; refine (LScan_ok 2 4 1 1 none 0 0 [] A9 2 c9 live18_l (by omega) (fun k hk => by cases hk) (by decide) 4 2 9 xP ⟨KRd.nil _ _, hv8⟩).mono ?_; rintro e xC ⟨bs, TT, EE, QQ, RA, rn, rc, rfl, hsc, hvc, hrc, _, hbC⟩
            rw [live18_eff] at hsc
            obtain ⟨hbs, rfl, rfl, rfl⟩ := live18_scn.det hsc
            subst hbs
            have hrn : 1 = rn := hvc.len
            subst hrn
            replace BW := hi_ (BW.out.trans (hbC.mono BW.out.size))
            replace PP := hi_ (PP.out.below hbC)
            have CC : Hid (PcsV (fun y => xP.heap.size <= y) xC RA 1 [frBytes []]) := hi_ hvc
            clear PP hsc hvc hv8 hbC
            refine hK.out _ _ ⟨(K3.out.next BW.out).c0, (K3.out.next BW.out).c1, (K3.out.next BW.out).c2, (K3.out.next BW.out).c3, (K3.out.next BW.out).c4⟩ (fun hHeld => ?_)
            clear hK K'
            try simp only [Act.put, sA_, sB_, sC_]
            refine wpAnyH_ready (rs := [7]) (by kernel_rfl) (by simp) ?_
            refine AllReadyH.cons (o := ⟨some 3, .alloc 33, 0, "law.go:21", #[], none⟩) rfl (fun K' hK => ?_) AllReadyH.nil
            go_simp
            obtain ⟨xA, hxA⟩ : ∃ v, v = xC.alloc (.cells #[.slice none 0 0, .int .i64 0, .int .i64 0, .int .i64 0] 33) := ⟨_, rfl⟩
            have hbA : Below xC.heap.size xC xA := by rw [hxA]; exact (Below.refl _ _).alloc (Nat.le_refl _) _
            have hrA : Rec 33 xA xC.heap.size #[.slice none 0 0, .int .i64 0, .int .i64 0, .int .i64 0] := by rw [hxA]; exact Rec.new xC _ _
            rw [<- hxA]
            clear hxA
            obtain ⟨tb, htb⟩ : ∃ tb, tb = xC.heap.size := ⟨_, rfl⟩
            have HTB : Hid (w3.heap.size <= tb) := hi_ (by rw [htb]; exact BW.out.size)
            rw [<- htb] at hrA ⊢
            have hcc := PcsV.mono (PcsV.lt CC.out) (K' := fun y => y ≠ tb) (fun y hy => by have := hy.2; omega)
            replace CC := hi_ hcc
            clear hcc
            replace BW := hi_ (BW.out.trans (hbA.mono BW.out.size))
            replace CC := hi_ (PcsV.below CC.out hbA)
            have TA := hi_ hrA
            clear hrA hbA htb
            refine hK.out _ _ ⟨(K3.out.next BW.out).c0, (K3.out.next BW.out).c1, (K3.out.next BW.out).c2, (K3.out.next BW.out).c3, (K3.out.next BW.out).c4⟩ (fun hHeld => ?_)
            clear hK K'
            try simp only [Act.put, sA_, sB_, sC_]
            generalize xA = zW at BW CC TA hHeld ⊢
          case' c31 =>
            go_simp
            obtain ⟨xA, hxA⟩ : ∃ v, v = xP.alloc (.cells #[.slice none 0 0, .int .i64 0, .int .i64 0, .int .i64 0] 33) := ⟨_, rfl⟩
            have hbA : Below xP.heap.size xP xA := by rw [hxA]; exact (Below.refl _ _).alloc (Nat.le_refl _) _
            have hrA : Rec 33 xA xP.heap.size #[.slice none 0 0, .int .i64 0, .int .i64 0, .int .i64 0] := by rw [hxA]; exact Rec.new xP _ _
            rw [<- hxA]
            clear hxA
            obtain ⟨tb, htb⟩ : ∃ tb, tb = xP.heap.size := ⟨_, rfl⟩
            have HTB : Hid (w3.heap.size <= tb) := hi_ (by rw [htb]; exact BW.out.size)
            rw [<- htb] at hrA ⊢
            replace BW := hi_ (BW.out.trans (hbA.mono BW.out.size))
            replace PP := hi_ (PP.out.below hbA)
            have TA := hi_ hrA
            clear hrA hbA htb
            refine hK.out _ _ ⟨(K3.out.next BW.out).c0, (K3.out.next BW.out).c1, (K3.out.next BW.out).c2, (K3.out.next BW.out).c3, (K3.out.next BW.out).c4⟩ (fun hHeld => ?_)
            clear hK K'
            try simp only [Act.put, sA_, sB_, sC_]
            refine wpAnyH_ready (rs := [6]) (by kernel_rfl) (by simp) ?_
            refine AllReadyH.cons (o := ⟨some 12, .call { callee := .value (.func 11), args := #[.tmp 6, .tmp 11, .const (.int .i64 4), .const (.int .i64 2), .const (.int .i64 9)], argTypes := #[24, 25, 3, 3, 3] }, 33, "law.go:21", #[⟨0, .data⟩, ⟨5, .data⟩, ⟨5, .chain⟩], none⟩) rfl (fun K' hK => ?_) AllReadyH.nil
            go_simp
            obtain ⟨A8, c8, he8, _, _, hv8⟩ := PP.out.done
            have he9 : A9 = A8 := by injection he8
            subst he9
            have htb := TA.out.lt
            go_at_call 11; refine (LScan_ok 2 4 1 1 none 0 0 [] A9 2 c9 live18_l (by omega) (fun k hk => by cases hk) (by decide) 4 2 9 xA ⟨KRd.nil _ _, hv8⟩).mono ?_; rintro e xC ⟨bs, TT, EE, QQ, RA, rn, rc, rfl, hsc, hvc, hrc, _, hbC⟩
            rw [live18_eff] at hsc
            obtain ⟨hbs, rfl, rfl, rfl⟩ := live18_scn.det hsc
            subst hbs
            have hrn : 1 = rn := hvc.len
            subst hrn
            replace BW := hi_ (BW.out.trans (hbC.mono BW.out.size))
            replace TA := hi_ (TA.out.under hbC)
            replace PP := hi_ (PP.out.below hbC)
            have CC : Hid (PcsV (fun y => xA.heap.size <= y) xC RA 1 [frBytes []]) := hi_ hvc
            have HCT : Hid (tb < xA.heap.size) := hi_ htb
            clear PP hsc hvc hv8 hbC
            replace CC : Hid (PcsV (fun y => tb < y) xC RA 1 [frBytes []]) := hi_ (PcsV.mono CC.out (fun y hy => Nat.lt_of_lt_of_le HCT.out hy))
            clear HCT htb
            refine hK.out _ _ ⟨(K3.out.next BW.out).c0, (K3.out.next BW.out).c1, (K3.out.next BW.out).c2, (K3.out.next BW.out).c3, (K3.out.next BW.out).c4⟩ (fun hHeld => ?_)
            clear hK K'
            try simp only [Act.put, sA_, sB_, sC_]
            replace CC : Hid (PcsV (fun y => y ≠ tb) xC RA 1 [frBytes []]) := hi_ (PcsV.mono CC.out (fun y hy => Nat.ne_of_gt hy))
            generalize xC = zW at BW CC TA hHeld ⊢
        case' c29 =>
          go_simp
          obtain ⟨xA, hxA⟩ : ∃ v, v = xL.alloc (.cells #[.slice none 0 0, .int .i64 0, .int .i64 0, .int .i64 0] 33) := ⟨_, rfl⟩
          have hbA : Below xL.heap.size xL xA := by rw [hxA]; exact (Below.refl _ _).alloc (Nat.le_refl _) _
          have hrA : Rec 33 xA xL.heap.size #[.slice none 0 0, .int .i64 0, .int .i64 0, .int .i64 0] := by rw [hxA]; exact Rec.new xL _ _
          rw [<- hxA]
          clear hxA
          obtain ⟨tb, htb⟩ : ∃ tb, tb = xL.heap.size := ⟨_, rfl⟩
          have HTB : Hid (w3.heap.size <= tb) := hi_ (by rw [htb]; exact BW.out.size)
          rw [<- htb] at hrA ⊢
          have NT : Hid (lvS.ownBlock ≠ some tb) := hi_ (fun e => by have h1 := (PS.out.own_lt e).2; omega)
          replace BW := hi_ (BW.out.trans (hbA.mono BW.out.size))
          replace PS := hi_ (PS.out.below hbA)
          replace RM := hi_ (RM.out.below (Nat.le_refl _) hbA)
          replace VL := hi_ (VL.out.below hbA)
          have TA := hi_ hrA
          clear hrA hbA htb
          refine hK.out _ _ ⟨(K3.out.next BW.out).c0, (K3.out.next BW.out).c1, (K3.out.next BW.out).c2, (K3.out.next BW.out).c3, (K3.out.next BW.out).c4⟩ (fun hHeld => ?_)
          clear hK K'
          try simp only [Act.put, sA_, sB_, sC_]
          refine wpAnyH_ready (rs := [5]) (by kernel_rfl) (by simp) ?_
          refine AllReadyH.cons (o := ⟨some 11, .call { callee := .builtin .append, args := #[.tmp 8, .tmp 10], argTypes := #[25, 25] }, 25, "law.go:21", #[⟨2, .data⟩, ⟨4, .data⟩, ⟨2, .chain⟩], none⟩) rfl (fun K' hK => ?_) AllReadyH.nil
          refine step_appX (K := fun _ => True) rowsT rfl (.tmp 8) (.tmp 10) rfl xM.heap.size lvS 1 vsS rfl PS.out.gr.ow (some ⟨lb, 0, none⟩) 1 1 [.slice (some ⟨mb, 0, none⟩) 512 512] rfl VL.out (fun u hu => by simp at hu; rw [hu]; rfl) (by omega) (by decide) PS.out.bel.size ?_; intro v9 xP ho9 hg9 hv9
          obtain ⟨A9, c9, rfl, _, _, _⟩ := own_vrow ho9
          obtain ⟨vs9, D9, hP9, _⟩ := PS.out.putG (K := fun y => y = mb) (Below.refl _ _) RM.out (Nat.le_refl _) (fun b o e _ => by injection e with e; injection e with e1; exact e1.symm) (fun y hy => by rw [hy]; exact NE.out) ho9 hg9 hv9
          have hbP : Below w3.heap.size w3 xP := BW.out.grown hg9 BW.out.size (fun k hk => Nat.le_trans HBS.out (PS.out.own_lt hk).1)
          replace TA := hi_ (TA.out.block (hg9.block tb TA.out.lt (fun e => NT.out e.symm)))
          replace BW := hi_ hbP
          have PP : Hid (PcG xM xP (.slice A9 2 c9) live18_l vs9 D9) := hi_ hP9
          clear ho9 hg9 hv9 hP9 hbP PS RM VL NE HBS
          clear NT
          refine hK.out _ _ ⟨(K3.out.next BW.out).c0, (K3.out.next BW.out).c1, (K3.out.next BW.out).c2, (K3.out.next BW.out).c3, (K3.out.next BW.out).c4⟩ (fun hHeld => ?_)
          clear hK K'
          try simp only [Act.put, sA_, sB_, sC_]
          refine wpAnyH_ready (rs := [6]) (by kernel_rfl) (by simp) ?_
          refine AllReadyH.cons (o := ⟨some 12, .call { callee := .value (.func 11), args := #[.tmp 6, .tmp 11, .const (.int .i64 4), .const (.int .i64 2), .const (.int .i64 9)], argTypes := #[24, 25, 3, 3, 3] }, 33, "law.go:21", #[⟨0, .data⟩, ⟨5, .data⟩, ⟨5, .chain⟩], none⟩) rfl (fun K' hK => ?_) AllReadyH.nil
          go_simp
          obtain ⟨A8, c8, he8, _, _, hv8⟩ := PP.out.done
          have he9 : A9 = A8 := by injection he8
          subst he9
          have htb := TA.out.lt
          go_at_call 11; refine (LScan_ok 2 4 1 1 none 0 0 [] A9 2 c9 live18_l (by omega) (fun k hk => by cases hk) (by decide) 4 2 9 xP ⟨KRd.nil _ _, hv8⟩).mono ?_; rintro e xC ⟨bs, TT, EE, QQ, RA, rn, rc, rfl, hsc, hvc, hrc, _, hbC⟩
          rw [live18_eff] at hsc
          obtain ⟨hbs, rfl, rfl, rfl⟩ := live18_scn.det hsc
          subst hbs
          have hrn : 1 = rn := hvc.len
          subst hrn
          replace BW := hi_ (BW.out.trans (hbC.mono BW.out.size))
          replace TA := hi_ (TA.out.under hbC)
          replace PP := hi_ (PP.out.below hbC)
          have CC : Hid (PcsV (fun y => xP.heap.size <= y) xC RA 1 [frBytes []]) := hi_ hvc
          have HCT : Hid (tb < xP.heap.size) := hi_ htb
          clear PP hsc hvc hv8 hbC
          replace CC : Hid (PcsV (fun y => tb < y) xC RA 1 [frBytes []]) := hi_ (PcsV.mono CC.out (fun y hy => Nat.lt_of_lt_of_le HCT.out hy))
          clear HCT htb
          refine hK.out _ _ ⟨(K3.out.next BW.out).c0, (K3.out.next BW.out).c1, (K3.out.next BW.out).c2, (K3.out.next BW.out).c3, (K3.out.next BW.out).c4⟩ (fun hHeld => ?_)
          clear hK K'
          try simp only [Act.put, sA_, sB_, sC_]
          replace CC : Hid (PcsV (fun y => y ≠ tb) xC RA 1 [frBytes []]) := hi_ (PcsV.mono CC.out (fun y hy => Nat.ne_of_gt hy))
          generalize xC = zW at BW CC TA hHeld ⊢
      case' c27 =>
        go_simp
        obtain ⟨xA, hxA⟩ : ∃ v, v = xS.alloc (.cells #[.slice none 0 0, .int .i64 0, .int .i64 0, .int .i64 0] 33) := ⟨_, rfl⟩
        have hbA : Below xS.heap.size xS xA := by rw [hxA]; exact (Below.refl _ _).alloc (Nat.le_refl _) _
        have hrA : Rec 33 xA xS.heap.size #[.slice none 0 0, .int .i64 0, .int .i64 0, .int .i64 0] := by rw [hxA]; exact Rec.new xS _ _
        rw [<- hxA]
        clear hxA
        obtain ⟨tb, htb⟩ : ∃ tb, tb = xS.heap.size := ⟨_, rfl⟩
        have HTB : Hid (w3.heap.size <= tb) := hi_ (by rw [htb]; exact BW.out.size)
        rw [<- htb] at hrA ⊢
        have NT : Hid (lvS.ownBlock ≠ some tb) := hi_ (fun e => by have h1 := (PS.out.own_lt e).2; omega)
        replace BW := hi_ (BW.out.trans (hbA.mono BW.out.size))
        replace PS := hi_ (PS.out.below hbA)
        replace RM := hi_ (RM.out.below (Nat.le_refl _) hbA)
        have TA := hi_ hrA
        clear hrA hbA htb
        refine hK.out _ _ ⟨(K3.out.next BW.out).c0, (K3.out.next BW.out).c1, (K3.out.next BW.out).c2, (K3.out.next BW.out).c3, (K3.out.next BW.out).c4⟩ (fun hHeld => ?_)
        clear hK K'
        try simp only [Act.put, sA_, sB_, sC_]
        refine wpAnyH_ready (rs := [4]) (by kernel_rfl) (by simp) ?_
        refine AllReadyH.cons (o := ⟨some 10, .buildSlice 25 1 #[(0, .tmp 9)], 25, "law.go:21", #[⟨3, .data⟩], none⟩) rfl (fun K' hK => ?_) AllReadyH.nil
        go_simp
        obtain ⟨xL, hxL⟩ : ∃ v, v = xA.alloc (.cells #[.slice (some ⟨mb, 0, none⟩) 512 512] 42) := ⟨_, rfl⟩
        have hbL : Below xA.heap.size xA xL := by rw [hxL]; exact (Below.refl _ _).alloc (Nat.le_refl _) _
        have hvL : VRow (fun _ => True) xL (some ⟨xA.heap.size, 0, none⟩) 1 1 [.slice (some ⟨mb, 0, none⟩) 512 512] := by rw [hxL]; exact (VRow.new xA #[.slice (some ⟨mb, 0, none⟩) 512 512] _ 1 1 rfl).mono (fun _ _ => trivial)
        rw [<- hxL]
        clear hxL
        obtain ⟨lb, hlb⟩ : ∃ lb, lb = xA.heap.size := ⟨_, rfl⟩
        rw [<- hlb] at hvL ⊢
        replace BW := hi_ (BW.out.trans (hbL.mono BW.out.size))
        replace PS := hi_ (PS.out.below hbL)
        replace RM := hi_ (RM.out.below (Nat.le_refl _) hbL)
        replace TA := hi_ (TA.out.under hbL)
        have VL := hi_ hvL
        clear hvL hbL hlb
        refine hK.out _ _ ⟨(K3.out.next BW.out).c0, (K3.out.next BW.out).c1, (K3.out.next BW.out).c2, (K3.out.next BW.out).c3, (K3.out.next BW.out).c4⟩ (fun hHeld => ?_)
        clear hK K'
        try simp only [Act.put, sA_, sB_, sC_]
        refine wpAnyH_ready (rs := [5]) (by kernel_rfl) (by simp) ?_
        refine AllReadyH.cons (o := ⟨some 11, .call { callee := .builtin .append, args := #[.tmp 8, .tmp 10], argTypes := #[25, 25] }, 25, "law.go:21", #[⟨2, .data⟩, ⟨4, .data⟩, ⟨2, .chain⟩], none⟩) rfl (fun K' hK => ?_) AllReadyH.nil
        refine step_appX (K := fun _ => True) rowsT rfl (.tmp 8) (.tmp 10) rfl xM.heap.size lvS 1 vsS rfl PS.out.gr.ow (some ⟨lb, 0, none⟩) 1 1 [.slice (some ⟨mb, 0, none⟩) 512 512] rfl VL.out (fun u hu => by simp at hu; rw [hu]; rfl) (by omega) (by decide) PS.out.bel.size ?_; intro v9 xP ho9 hg9 hv9
        obtain ⟨A9, c9, rfl, _, _, _⟩ := own_vrow ho9
        obtain ⟨vs9, D9, hP9, _⟩ := PS.out.putG (K := fun y => y = mb) (Below.refl _ _) RM.out (Nat.le_refl _) (fun b o e _ => by injection e with e; injection e with e1; exact e1.symm) (fun y hy => by rw [hy]; exact NE.out) ho9 hg9 hv9
        have hbP : Below w3.heap.size w3 xP := BW.out.grown hg9 BW.out.size (fun k hk => Nat.le_trans HBS.out (PS.out.own_lt hk).1)
        replace TA := hi_ (TA.out.block (hg9.block tb TA.out.lt (fun e => NT.out e.symm)))
        replace BW := hi_ hbP
        have PP : Hid (PcG xM xP (.slice A9 2 c9) live18_l vs9 D9) := hi_ hP9
        clear ho9 hg9 hv9 hP9 hbP PS RM VL NE HBS
        clear NT
        refine hK.out _ _ ⟨(K3.out.next BW.out).c0, (K3.out.next BW.out).c1, (K3.out.next BW.out).c2, (K3.out.next BW.out).c3, (K3.out.next BW.out).c4⟩ (fun hHeld => ?_)
        clear hK K'
        try simp only [Act.put, sA_, sB_, sC_]
        refine wpAnyH_ready (rs := [6]) (by kernel_rfl) (by simp) ?_
        refine AllReadyH.cons (o := ⟨some 12, .call { callee := .value (.func 11), args := #[.tmp 6, .tmp 11, .const (.int .i64 4), .const (.int .i64 2), .const (.int .i64 9)], argTypes := #[24, 25, 3, 3, 3] }, 33, "law.go:21", #[⟨0, .data⟩, ⟨5, .data⟩, ⟨5, .chain⟩], none⟩) rfl (fun K' hK => ?_) AllReadyH.nil
        go_simp
        obtain ⟨A8, c8, he8, _, _, hv8⟩ := PP.out.done
        have he9 : A9 = A8 := by injection he8
        subst he9
        have htb := TA.out.lt
        go_at_call 11; refine (LScan_ok 2 4 1 1 none 0 0 [] A9 2 c9 live18_l (by omega) (fun k hk => by cases hk) (by decide) 4 2 9 xP ⟨KRd.nil _ _, hv8⟩).mono ?_; rintro e xC ⟨bs, TT, EE, QQ, RA, rn, rc, rfl, hsc, hvc, hrc, _, hbC⟩
        rw [live18_eff] at hsc
        obtain ⟨hbs, rfl, rfl, rfl⟩ := live18_scn.det hsc
        subst hbs
        have hrn : 1 = rn := hvc.len
        subst hrn
        replace BW := hi_ (BW.out.trans (hbC.mono BW.out.size))
        replace TA := hi_ (TA.out.under hbC)
        replace PP := hi_ (PP.out.below hbC)
        have CC : Hid (PcsV (fun y => xP.heap.size <= y) xC RA 1 [frBytes []]) := hi_ hvc
        have HCT : Hid (tb < xP.heap.size) := hi_ htb
        clear PP hsc hvc hv8 hbC
        replace CC : Hid (PcsV (fun y => tb < y) xC RA 1 [frBytes []]) := hi_ (PcsV.mono CC.out (fun y hy => Nat.lt_of_lt_of_le HCT.out hy))
        clear HCT htb
        refine hK.out _ _ ⟨(K3.out.next BW.out).c0, (K3.out.next BW.out).c1, (K3.out.next BW.out).c2, (K3.out.next BW.out).c3, (K3.out.next BW.out).c4⟩ (fun hHeld => ?_)
        clear hK K'
        try simp only [Act.put, sA_, sB_, sC_]
        replace CC : Hid (PcsV (fun y => y ≠ tb) xC RA 1 [frBytes []]) := hi_ (PcsV.mono CC.out (fun y hy => Nat.ne_of_gt hy))
        generalize xC = zW at BW CC TA hHeld ⊢
    case' c24 =>
      go_simp
      obtain ⟨xL, hxL⟩ : ∃ v, v = xM.alloc (.cells #[.slice (some ⟨mb, 0, none⟩) 512 512] 42) := ⟨_, rfl⟩
      have hbL : Below xM.heap.size xM xL := by rw [hxL]; exact (Below.refl _ _).alloc (Nat.le_refl _) _
      have hvL : VRow (fun _ => True) xL (some ⟨xM.heap.size, 0, none⟩) 1 1 [.slice (some ⟨mb, 0, none⟩) 512 512] := by rw [hxL]; exact (VRow.new xM #[.slice (some ⟨mb, 0, none⟩) 512 512] _ 1 1 rfl).mono (fun _ _ => trivial)
      rw [<- hxL]
      clear hxL
      obtain ⟨lb, hlb⟩ : ∃ lb, lb = xM.heap.size := ⟨_, rfl⟩
      rw [<- hlb] at hvL ⊢
      replace BW := hi_ (BW.out.trans (hbL.mono BW.out.size))
      replace RM := hi_ (RM.out.below (Nat.le_refl _) hbL)
      have VL := hi_ hvL
      clear hvL hbL hlb
      refine hK.out _ _ ⟨(K3.out.next BW.out).c0, (K3.out.next BW.out).c1, (K3.out.next BW.out).c2, (K3.out.next BW.out).c3, (K3.out.next BW.out).c4⟩ (fun hHeld => ?_)
      clear hK K'
      try simp only [Act.put, sA_, sB_, sC_]
      refine wpAnyH_ready (rs := [2, 7]) (by kernel_rfl) (by simp) ?_
      refine AllReadyH.cons (o := ⟨some 8, .call { callee := .value (.func 17), args := #[.const (.int .i64 3), .const (.int .i64 4), .const (.int .i64 9), .tmp 7], argTypes := #[3, 3, 3, 42] }, 25, "law.go:21", #[⟨1, .data⟩], none⟩) rfl (fun K' hK => ?c39) (AllReadyH.cons (o := ⟨some 3, .alloc 33, 0, "law.go:21", #[], none⟩) rfl (fun K' hK => ?c40) AllReadyH.nil)
      case' c39 =>
        go_simp
        go_at_call 17; refine (RSealed_any B3 5 c3 (frBytes []) 3 4 9 xL (R3.out.1.below (Nat.le_refl _) BW.out) R3.out.2 (by omega) (by omega) (by omega)).mono ?_; rintro e xS ⟨lvS, vsS, DS, rfl, hpS, _⟩
        rw [live18_sec] at hpS
        have hbS : Below xL.heap.size xL xS := hpS.bel
        have HBS : Hid (w3.heap.size <= xL.heap.size) := hi_ BW.out.size
        have NE : Hid (lvS.ownBlock ≠ some mb) := hi_ (fun e => by have h1 := (hpS.own_lt e).1; have h2 := rd_lt RM.out (by decide); omega)
        replace BW := hi_ (BW.out.trans (hbS.mono BW.out.size))
        replace RM := hi_ (RM.out.below (Nat.le_refl _) hbS)
        replace VL := hi_ (VL.out.below hbS)
        have PS := hi_ hpS
        clear hpS hbS
        refine hK.out _ _ ⟨(K3.out.next BW.out).c0, (K3.out.next BW.out).c1, (K3.out.next BW.out).c2, (K3.out.next BW.out).c3, (K3.out.next BW.out).c4⟩ (fun hHeld => ?_)
        clear hK K'
        try simp only [Act.put, sA_, sB_, sC_]
        refine wpAnyH_ready (rs := [5, 7]) (by kernel_rfl) (by simp) ?_
        refine AllReadyH.cons (o := ⟨some 11, .call { callee := .builtin .append, args := #[.tmp 8, .tmp 10], argTypes := #[25, 25] }, 25, "law.go:21", #[⟨2, .data⟩, ⟨4, .data⟩, ⟨2, .chain⟩], none⟩) rfl (fun K' hK => ?c41) (AllReadyH.cons (o := ⟨some 3, .alloc 33, 0, "law.go:21", #[], none⟩) rfl (fun K' hK => ?c42) AllReadyH.nil)
        case' c41 =>
          refine step_appX (K := fun _ => True) rowsT rfl (.tmp 8) (.tmp 10) rfl xL.heap.size lvS 1 vsS rfl PS.out.gr.ow (some ⟨lb, 0, none⟩) 1 1 [.slice (some ⟨mb, 0, none⟩) 512 512] rfl VL.out (fun u hu => by simp at hu; rw [hu]; rfl) (by omega) (by decide) PS.out.bel.size ?_; intro v9 xP ho9 hg9 hv9
          obtain ⟨A9, c9, rfl, _, _, _⟩ := own_vrow ho9
          obtain ⟨vs9, D9, hP9, _⟩ := PS.out.putG (K := fun y => y = mb) (Below.refl _ _) RM.out (Nat.le_refl _) (fun b o e _ => by injection e with e; injection e with e1; exact e1.symm) (fun y hy => by rw [hy]; exact NE.out) ho9 hg9 hv9
          have hbP : Below w3.heap.size w3 xP := BW.out.grown hg9 BW.out.size (fun k hk => Nat.le_trans HBS.out (PS.out.own_lt hk).1)
          replace BW := hi_ hbP
          have PP : Hid (PcG xL xP (.slice A9 2 c9) live18_l vs9 D9) := hi_ hP9
          clear ho9 hg9 hv9 hP9 hbP PS RM VL NE HBS
          refine hK.out _ _ ⟨(K3.out.next BW.out).c0, (K3.out.next BW.out).c1, (K3.out.next BW.out).c2, (K3.out.next BW.out).c3, (K3.out.next BW.out).c4⟩ (fun hHeld => ?_)
          clear hK K'
          try simp only [Act.put, sA_, sB_, sC_]
          refine wpAnyH_ready (rs := [6, 7]) (by kernel_rfl) (by simp) ?_
          refine AllReadyH.cons (o := ⟨some 12, .call { callee := .value (.func 11), args := #[.tmp 6, .tmp 11, .const (.int .i64 4), .const (.int .i64 2), .const (.int .i64 9)], argTypes := #[24, 25, 3, 3, 3] }, 33, "law.go:21", #[⟨0, .data⟩, ⟨5, .data⟩, ⟨5, .chain⟩], none⟩) rfl (fun K' hK => ?c43) (AllReadyH.cons (o := ⟨some 3, .alloc 33, 0, "law.go:21", #[], none⟩) rfl (fun K' hK => ?c44) AllReadyH.nil)
          case' c43 =>
            go_simp
            obtain ⟨A8, c8, he8, _, _, hv8⟩ := PP.out.done
            have he9 : A9 = A8 := by injection he8
            subst he9
            go_at_call 11; refine (LScan_ok 2 4 1 1 none 0 0 [] A9 2 c9 live18_l (by omega) (fun k hk => by cases hk) (by decide) 4 2 9 xP ⟨KRd.nil _ _, hv8⟩).mono ?_; rintro e xC ⟨bs, TT, EE, QQ, RA, rn, rc, rfl, hsc, hvc, hrc, _, hbC⟩
            rw [live18_eff] at hsc
            obtain ⟨hbs, rfl, rfl, rfl⟩ := live18_scn.det hsc
            subst hbs
            have hrn : 1 = rn := hvc.len
            subst hrn
            replace BW := hi_ (BW.out.trans (hbC.mono BW.out.size))
            replace PP := hi_ (PP.out.below hbC)
            have CC : Hid (PcsV (fun y => xP.heap.size <= y) xC RA 1 [frBytes []]) := hi_ hvc
            clear PP hsc hvc hv8 hbC
            refine hK.out _ _ ⟨(K3.out.next BW.out).c0, (K3.out.next BW.out).c1, (K3.out.next BW.out).c2, (K3.out.next BW.out).c3, (K3.out.next BW.out).c4⟩ (fun hHeld => ?_)
            clear hK K'
            try simp only [Act.put, sA_, sB_, sC_]
            refine wpAnyH_ready (rs := [7]) (by kernel_rfl) (by simp) ?_
            refine AllReadyH.cons (o := ⟨some 3, .alloc 33, 0, "law.go:21", #[], none⟩) rfl (fun K' hK => ?_) AllReadyH.nil
            go_simp
            obtain ⟨xA, hxA⟩ : ∃ v, v = xC.alloc (.cells #[.slice none 0 0, .int .i64 0, .int .i64 0, .int .i64 0] 33) := ⟨_, rfl⟩
            have hbA : Below xC.heap.size xC xA := by rw [hxA]; exact (Below.refl _ _).alloc (Nat.le_refl _) _
            have hrA : Rec 33 xA xC.heap.size #[.slice none 0 0, .int .i64 0, .int .i64 0, .int .i64 0] := by rw [hxA]; exact Rec.new xC _ _
            rw [<- hxA]
            clear hxA
            obtain ⟨tb, htb⟩ : ∃ tb, tb = xC.heap.size := ⟨_, rfl⟩
            have HTB : Hid (w3.heap.size <= tb) := hi_ (by rw [htb]; exact BW.out.size)
            rw [<- htb] at hrA ⊢
            have hcc := PcsV.mono (PcsV.lt CC.out) (K' := fun y => y ≠ tb) (fun y hy => by have := hy.2; omega)
            replace CC := hi_ hcc
            clear hcc
            replace BW := hi_ (BW.out.trans (hbA.mono BW.out.size))
            replace CC := hi_ (PcsV.below CC.out hbA)
            have TA := hi_ hrA
            clear hrA hbA htb
            refine hK.out _ _ ⟨(K3.out.next BW.out).c0, (K3.out.next BW.out).c1, (K3.out.next BW.out).c2, (K3.out.next BW.out).c3, (K3.out.next BW.out).c4⟩ (fun hHeld => ?_)
            clear hK K'
            try simp only [Act.put, sA_, sB_, sC_]
            generalize xA = zW at BW CC TA hHeld ⊢
          case' c44 =>
            go_simp
            obtain ⟨xA, hxA⟩ : ∃ v, v = xP.alloc (.cells #[.slice none 0 0, .int .i64 0, .int .i64 0, .int .i64 0] 33) := ⟨_, rfl⟩
            have hbA : Below xP.heap.size xP xA := by rw [hxA]; exact (Below.refl _ _).alloc (Nat.le_refl _) _
            have hrA : Rec 33 xA xP.heap.size #[.slice none 0 0, .int .i64 0, .int .i64 0, .int .i64 0] := by rw [hxA]; exact Rec.new xP _ _
            rw [<- hxA]
            clear hxA
            obtain ⟨tb, htb⟩ : ∃ tb, tb = xP.heap.size := ⟨_, rfl⟩
            have HTB : Hid (w3.heap.size <= tb) := hi_ (by rw [htb]; exact BW.out.size)
            rw [<- htb] at hrA ⊢
            replace BW := hi_ (BW.out.trans (hbA.mono BW.out.size))
            replace PP := hi_ (PP.out.below hbA)
            have TA := hi_ hrA
            clear hrA hbA htb
            refine hK.out _ _ ⟨(K3.out.next BW.out).c0, (K3.out.next BW.out).c1, (K3.out.next BW.out).c2, (K3.out.next BW.out).c3, (K3.out.next BW.out).c4⟩ (fun hHeld => ?_)
            clear hK K'
            try simp only [Act.put, sA_, sB_, sC_]
            refine wpAnyH_ready (rs := [6]) (by kernel_rfl) (by simp) ?_
            refine AllReadyH.cons (o := ⟨some 12, .call { callee := .value (.func 11), args := #[.tmp 6, .tmp 11, .const (.int .i64 4), .const (.int .i64 2), .const (.int .i64 9)], argTypes := #[24, 25, 3, 3, 3] }, 33, "law.go:21", #[⟨0, .data⟩, ⟨5, .data⟩, ⟨5, .chain⟩], none⟩) rfl (fun K' hK => ?_) AllReadyH.nil
            go_simp
            obtain ⟨A8, c8, he8, _, _, hv8⟩ := PP.out.done
            have he9 : A9 = A8 := by injection he8
            subst he9
            have htb := TA.out.lt
            go_at_call 11; refine (LScan_ok 2 4 1 1 none 0 0 [] A9 2 c9 live18_l (by omega) (fun k hk => by cases hk) (by decide) 4 2 9 xA ⟨KRd.nil _ _, hv8⟩).mono ?_; rintro e xC ⟨bs, TT, EE, QQ, RA, rn, rc, rfl, hsc, hvc, hrc, _, hbC⟩
            rw [live18_eff] at hsc
            obtain ⟨hbs, rfl, rfl, rfl⟩ := live18_scn.det hsc
            subst hbs
            have hrn : 1 = rn := hvc.len
            subst hrn
            replace BW := hi_ (BW.out.trans (hbC.mono BW.out.size))
            replace TA := hi_ (TA.out.under hbC)
            replace PP := hi_ (PP.out.below hbC)
            have CC : Hid (PcsV (fun y => xA.heap.size <= y) xC RA 1 [frBytes []]) := hi_ hvc
            have HCT : Hid (tb < xA.heap.size) := hi_ htb
            clear PP hsc hvc hv8 hbC
            replace CC : Hid (PcsV (fun y => tb < y) xC RA 1 [frBytes []]) := hi_ (PcsV.mono CC.out (fun y hy => Nat.lt_of_lt_of_le HCT.out hy))
            clear HCT htb
            refine hK.out _ _ ⟨(K3.out.next BW.out).c0, (K3.out.next BW.out).c1, (K3.out.next BW.out).c2, (K3.out.next BW.out).c3, (K3.out.next BW.out).c4⟩ (fun hHeld => ?_)
            clear hK K'
            try simp only [Act.put, sA_, sB_, sC_]
            replace CC : Hid (PcsV (fun y => y ≠ tb) xC RA 1 [frBytes []]) := hi_ (PcsV.mono CC.out (fun y hy => Nat.ne_of_gt hy))
            generalize xC = zW at BW CC TA hHeld ⊢
        case' c42 =>
          go_simp
          obtain ⟨xA, hxA⟩ : ∃ v, v = xS.alloc (.cells #[.slice none 0 0, .int .i64 0, .int .i64 0, .int .i64 0] 33) := ⟨_, rfl⟩
          have hbA : Below xS.heap.size xS xA := by rw [hxA]; exact (Below.refl _ _).alloc (Nat.le_refl _) _
          have hrA : Rec 33 xA xS.heap.size #[.slice none 0 0, .int .i64 0, .int .i64 0, .int .i64 0] := by rw [hxA]; exact Rec.new xS _ _
          rw [<- hxA]
          clear hxA
          obtain ⟨tb, htb⟩ : ∃ tb, tb = xS.heap.size := ⟨_, rfl⟩
          have HTB : Hid (w3.heap.size <= tb) := hi_ (by rw [htb]; exact BW.out.size)
          rw [<- htb] at hrA ⊢
          have NT : Hid (lvS.ownBlock ≠ some tb) := hi_ (fun e => by have h1 := (PS.out.own_lt e).2; omega)
          replace BW := hi_ (BW.out.trans (hbA.mono BW.out.size))
          replace PS := hi_ (PS.out.below hbA)
          replace RM := hi_ (RM.out.below (Nat.le_refl _) hbA)
          replace VL := hi_ (VL.out.below hbA)
          have TA := hi_ hrA
          clear hrA hbA htb
          refine hK.out _ _ ⟨(K3.out.next BW.out).c0, (K3.out.next BW.out).c1, (K3.out.next BW.out).c2, (K3.out.next BW.out).c3, (K3.out.next BW.out).c4⟩ (fun hHeld => ?_)
          clear hK K'
          try simp only [Act.put, sA_, sB_, sC_]
          refine wpAnyH_ready (rs := [5]) (by kernel_rfl) (by simp) ?_
          refine AllReadyH.cons (o := ⟨some 11, .call { callee := .builtin .append, args := #[.tmp 8, .tmp 10], argTypes := #[25, 25] }, 25, "law.go:21", #[⟨2, .data⟩, ⟨4, .data⟩, ⟨2, .chain⟩], none⟩) rfl (fun K' hK => ?_) AllReadyH.nil
          refine step_appX (K := fun _ => True) rowsT rfl (.tmp 8) (.tmp 10) rfl xL.heap.size lvS 1 vsS rfl PS.out.gr.ow (some ⟨lb, 0, none⟩) 1 1 [.slice (some ⟨mb, 0, none⟩) 512 512] rfl VL.out (fun u hu => by simp at hu; rw [hu]; rfl) (by omega) (by decide) PS.out.bel.size ?_; intro v9 xP ho9 hg9 hv9
          obtain ⟨A9, c9, rfl, _, _, _⟩ := own_vrow ho9
          obtain ⟨vs9, D9, hP9, _⟩ := PS.out.putG (K := fun y => y = mb) (Below.refl _ _) RM.out (Nat.le_refl _) (fun b o e _ => by injection e with e; injection e with e1; exact e1.symm) (fun y hy => by rw [hy]; exact NE.out) ho9 hg9 hv9
          have hbP : Below w3.heap.size w3 xP := BW.out.grown hg9 BW.out.size (fun k hk => Nat.le_trans HBS.out (PS.out.own_lt hk).1)
          replace TA := hi_ (TA.out.block (hg9.block tb TA.out.lt (fun e => NT.out e.symm)))
          replace BW := hi_ hbP
          have PP : Hid (PcG xL xP (.slice A9 2 c9) live18_l vs9 D9) := hi_ hP9
          clear ho9 hg9 hv9 hP9 hbP PS RM VL NE HBS
          clear NT
          refine hK.out _ _ ⟨(K3.out.next BW.out).c0, (K3.out.next BW.out).c1, (K3.out.next BW.out).c2, (K3.out.next BW.out).c3, (K3.out.next BW.out).c4⟩ (fun hHeld => ?_)
          clear hK K'
          try simp only [Act.put, sA_, sB_, sC_]
          refine wpAnyH_ready (rs := [6]) (by kernel_rfl) (by simp) ?_
          refine AllReadyH.cons (o := ⟨some 12, .call { callee := .value (.func 11), args := #[.tmp 6, .tmp 11, .const (.int .i64 4), .const (.int .i64 2), .const (.int .i64 9)], argTypes := #[24, 25, 3, 3, 3] }, 33, "law.go:21", #[⟨0, .data⟩, ⟨5, .data⟩, ⟨5, .chain⟩], none⟩) rfl (fun K' hK => ?_) AllReadyH.nil
          go_simp
          obtain ⟨A8, c8, he8, _, _, hv8⟩ := PP.out.done
          have he9 : A9 = A8 := by injection he8
          subst he9
          have htb := TA.out.lt
          go_at_call 11; refine (LScan_ok 2 4 1 1 none 0 0 [] A9 2 c9 live18_l (by omega) (fun k hk => by cases hk) (by decide) 4 2 9 xP ⟨KRd.nil _ _, hv8⟩).mono ?_; rintro e xC ⟨bs, TT, EE, QQ, RA, rn, rc, rfl, hsc, hvc, hrc, _, hbC⟩
          rw [live18_eff] at hsc
          obtain ⟨hbs, rfl, rfl, rfl⟩ := live18_scn.det hsc
          subst hbs
          have hrn : 1 = rn := hvc.len
          subst hrn
          replace BW := hi_ (BW.out.trans (hbC.mono BW.out.size))
          replace TA := hi_ (TA.out.under hbC)
          replace PP := hi_ (PP.out.below hbC)
          have CC : Hid (PcsV (fun y => xP.heap.size <= y) xC RA 1 [frBytes []]) := hi_ hvc
          have HCT : Hid (tb < xP.heap.size) := hi_ htb
          clear PP hsc hvc hv8 hbC
          replace CC : Hid (PcsV (fun y => tb < y) xC RA 1 [frBytes []]) := hi_ (PcsV.mono CC.out (fun y hy => Nat.lt_of_lt_of_le HCT.out hy))
          clear HCT htb
          refine hK.out _ _ ⟨(K3.out.next BW.out).c0, (K3.out.next BW.out).c1, (K3.out.next BW.out).c2, (K3.out.next BW.out).c3, (K3.out.next BW.out).c4⟩ (fun hHeld => ?_)
          clear hK K'
          try simp only [Act.put, sA_, sB_, sC_]
          replace CC : Hid (PcsV (fun y => y ≠ tb) xC RA 1 [frBytes []]) := hi_ (PcsV.mono CC.out (fun y hy => Nat.ne_of_gt hy))
          generalize xC = zW at BW CC TA hHeld ⊢
      case' c40 =>
        go_simp
        obtain ⟨xA, hxA⟩ : ∃ v, v = xL.alloc (.cells #[.slice none 0 0, .int .i64 0, .int .i64 0, .int .i64 0] 33) := ⟨_, rfl⟩
        have hbA : Below xL.heap.size xL xA := by rw [hxA]; exact (Below.refl _ _).alloc (Nat.le_refl _) _
        have hrA : Rec 33 xA xL.heap.size #[.slice none 0 0, .int .i64 0, .int .i64 0, .int .i64 0] := by rw [hxA]; exact Rec.new xL _ _
        rw [<- hxA]
        clear hxA
        obtain ⟨tb, htb⟩ : ∃ tb, tb = xL.heap.size := ⟨_, rfl⟩
        have HTB : Hid (w3.heap.size <= tb) := hi_ (by rw [htb]; exact BW.out.size)
        rw [<- htb] at hrA ⊢
        replace BW := hi_ (BW.out.trans (hbA.mono BW.out.size))
        replace RM := hi_ (RM.out.below (Nat.le_refl _) hbA)
        replace VL := hi_ (VL.out.below hbA)
        have TA := hi_ hrA
        clear hrA hbA htb
        refine hK.out _ _ ⟨(K3.out.next BW.out).c0, (K3.out.next BW.out).c1, (K3.out.next BW.out).c2, (K3.out.next BW.out).c3, (K3.out.next BW.out).c4⟩ (fun hHeld => ?_)
        clear hK K'
        try simp only [Act.put, sA_, sB_, sC_]
        refine wpAnyH_ready (rs := [2]) (by kernel_rfl) (by simp) ?_
        refine AllReadyH.cons (o := ⟨some 8, .call { callee := .value (.func 17), args := #[.const (.int .i64 3), .const (.int .i64 4), .const (.int .i64 9), .tmp 7], argTypes := #[3, 3, 3, 42] }, 25, "law.go:21", #[⟨1, .data⟩], none⟩) rfl (fun K' hK => ?_) AllReadyH.nil
        go_simp
        go_at_call 17; refine (RSealed_any B3 5 c3 (frBytes []) 3 4 9 xA (R3.out.1.below (Nat.le_refl _) BW.out) R3.out.2 (by omega) (by omega) (by omega)).mono ?_; rintro e xS ⟨lvS, vsS, DS, rfl, hpS, _⟩
        rw [live18_sec] at hpS
        have hbS : Below xA.heap.size xA xS := hpS.bel
        have HBS : Hid (w3.heap.size <= xA.heap.size) := hi_ BW.out.size
        have NE : Hid (lvS.ownBlock ≠ some mb) := hi_ (fun e => by have h1 := (hpS.own_lt e).1; have h2 := rd_lt RM.out (by decide); omega)
        have NT : Hid (lvS.ownBlock ≠ some tb) := hi_ (fun e => by have h1 := (hpS.own_lt e).1; have h2 := TA.out.lt; omega)
        replace BW := hi_ (BW.out.trans (hbS.mono BW.out.size))
        replace RM := hi_ (RM.out.below (Nat.le_refl _) hbS)
        replace VL := hi_ (VL.out.below hbS)
        replace TA := hi_ (TA.out.under hbS)
        have PS := hi_ hpS
        clear hpS hbS
        refine hK.out _ _ ⟨(K3.out.next BW.out).c0, (K3.out.next BW.out).c1, (K3.out.next BW.out).c2, (K3.out.next BW.out).c3, (K3.out.next BW.out).c4⟩ (fun hHeld => ?_)
        clear hK K'
        try simp only [Act.put, sA_, sB_, sC_]
        refine wpAnyH_ready (rs := [5]) (by kernel_rfl) (by simp) ?_
        refine AllReadyH.cons (o := ⟨some 11, .call { callee := .builtin .append, args := #[.tmp 8, .tmp 10], argTypes := #[25, 25] }, 25, "law.go:21", #[⟨2, .data⟩, ⟨4, .data⟩, ⟨2, .chain⟩], none⟩) rfl (fun K' hK => ?_) AllReadyH.nil
        refine step_appX (K := fun _ => True) rowsT rfl (.tmp 8) (.tmp 10) rfl xA.heap.size lvS 1 vsS rfl PS.out.gr.ow (some ⟨lb, 0, none⟩) 1 1 [.slice (some ⟨mb, 0, none⟩) 512 512] rfl VL.out (fun u hu => by simp at hu; rw [hu]; rfl) (by omega) (by decide) PS.out.bel.size ?_; intro v9 xP ho9 hg9 hv9
        obtain ⟨A9, c9, rfl, _, _, _⟩ := own_vrow ho9
        obtain ⟨vs9, D9, hP9, _⟩ := PS.out.putG (K := fun y => y = mb) (Below.refl _ _) RM.out (Nat.le_refl _) (fun b o e _ => by injection e with e; injection e with e1; exact e1.symm) (fun y hy => by rw [hy]; exact NE.out) ho9 hg9 hv9
        have hbP : Below w3.heap.size w3 xP := BW.out.grown hg9 BW.out.size (fun k hk => Nat.le_trans HBS.out (PS.out.own_lt hk).1)
        replace TA := hi_ (TA.out.block (hg9.block tb TA.out.lt (fun e => NT.out e.symm)))
        replace BW := hi_ hbP
        have PP : Hid (PcG xA xP (.slice A9 2 c9) live18_l vs9 D9) := hi_ hP9
        clear ho9 hg9 hv9 hP9 hbP PS RM VL NE HBS
        clear NT
        refine hK.out _ _ ⟨(K3.out.next BW.out).c0, (K3.out.next BW.out).c1, (K3.out.next BW.out).c2, (K3.out.next BW.out).c3, (K3.out.next BW.out).c4⟩ (fun hHeld => ?_)
        clear hK K'
        try simp only [Act.put, sA_, sB_, sC_]
        refine wpAnyH_ready (rs := [6]) (by kernel_rfl) (by simp) ?_
        refine AllReadyH.cons (o := ⟨some 12, .call { callee := .value (.func 11), args := #[.tmp 6, .tmp 11, .const (.int .i64 4), .const (.int .i64 2), .const (.int .i64 9)], argTypes := #[24, 25, 3, 3, 3] }, 33, "law.go:21", #[⟨0, .data⟩, ⟨5, .data⟩, ⟨5, .chain⟩], none⟩) rfl (fun K' hK => ?_) AllReadyH.nil
        go_simp
        obtain ⟨A8, c8, he8, _, _, hv8⟩ := PP.out.done
        have he9 : A9 = A8 := by injection he8
        subst he9
        have htb := TA.out.lt
        go_at_call 11; refine (LScan_ok 2 4 1 1 none 0 0 [] A9 2 c9 live18_l (by omega) (fun k hk => by cases hk) (by decide) 4 2 9 xP ⟨KRd.nil _ _, hv8⟩).mono ?_; rintro e xC ⟨bs, TT, EE, QQ, RA, rn, rc, rfl, hsc, hvc, hrc, _, hbC⟩
        rw [live18_eff] at hsc
        obtain ⟨hbs, rfl, rfl, rfl⟩ := live18_scn.det hsc
        subst hbs
        have hrn : 1 = rn := hvc.len
        subst hrn
        replace BW := hi_ (BW.out.trans (hbC.mono BW.out.size))
        replace TA := hi_ (TA.out.under hbC)
        replace PP := hi_ (PP.out.below hbC)
        have CC : Hid (PcsV (fun y => xP.heap.size <= y) xC RA 1 [frBytes []]) := hi_ hvc
        have HCT : Hid (tb < xP.heap.size) := hi_ htb
        clear PP hsc hvc hv8 hbC
        replace CC : Hid (PcsV (fun y => tb < y) xC RA 1 [frBytes []]) := hi_ (PcsV.mono CC.out (fun y hy => Nat.lt_of_lt_of_le HCT.out hy))
        clear HCT htb
        refine hK.out _ _ ⟨(K3.out.next BW.out).c0, (K3.out.next BW.out).c1, (K3.out.next BW.out).c2, (K3.out.next BW.out).c3, (K3.out.next BW.out).c4⟩ (fun hHeld => ?_)
        clear hK K'
        try simp only [Act.put, sA_, sB_, sC_]
        replace CC : Hid (PcsV (fun y => y ≠ tb) xC RA 1 [frBytes []]) := hi_ (PcsV.mono CC.out (fun y hy => Nat.ne_of_gt hy))
        generalize xC = zW at BW CC TA hHeld ⊢
    case' c25 =>
      go_simp
      obtain ⟨xA, hxA⟩ : ∃ v, v = xM.alloc (.cells #[.slice none 0 0, .int .i64 0, .int .i64 0, .int .i64 0] 33) := ⟨_, rfl⟩
      have hbA : Below xM.heap.size xM xA := by rw [hxA]; exact (Below.refl _ _).alloc (Nat.le_refl _) _
      have hrA : Rec 33 xA xM.heap.size #[.slice none 0 0, .int .i64 0, .int .i64 0, .int .i64 0] := by rw [hxA]; exact Rec.new xM _ _
      rw [<- hxA]
      clear hxA
      obtain ⟨tb, htb⟩ : ∃ tb, tb = xM.heap.size := ⟨_, rfl⟩
      have HTB : Hid (w3.heap.size <= tb) := hi_ (by rw [htb]; exact BW.out.size)
      rw [<- htb] at hrA ⊢
      replace BW := hi_ (BW.out.trans (hbA.mono BW.out.size))
      replace RM := hi_ (RM.out.below (Nat.le_refl _) hbA)
      have TA := hi_ hrA
      clear hrA hbA htb
      refine hK.out _ _ ⟨(K3.out.next BW.out).c0, (K3.out.next BW.out).c1, (K3.out.next BW.out).c2, (K3.out.next BW.out).c3, (K3.out.next BW.out).c4⟩ (fun hHeld => ?_)
      clear hK K'
      try simp only [Act.put, sA_, sB_, sC_]
      refine wpAnyH_ready (rs := [2, 4]) (by kernel_rfl) (by simp) ?_
      refine AllReadyH.cons (o := ⟨some 8, .call { callee := .value (.func 17), args := #[.const (.int .i64 3), .const (.int .i64 4), .const (.int .i64 9), .tmp 7], argTypes := #[3, 3, 3, 42] }, 25, "law.go:21", #[⟨1, .data⟩], none⟩) rfl (fun K' hK => ?c52) (AllReadyH.cons (o := ⟨some 10, .buildSlice 25 1 #[(0, .tmp 9)], 25, "law.go:21", #[⟨3, .data⟩], none⟩) rfl (fun K' hK => ?c53) AllReadyH.nil)
      case' c52 =>
        go_simp
        go_at_call 17; refine (RSealed_any B3 5 c3 (frBytes []) 3 4 9 xA (R3.out.1.below (Nat.le_refl _) BW.out) R3.out.2 (by omega) (by omega) (by omega)).mono ?_; rintro e xS ⟨lvS, vsS, DS, rfl, hpS, _⟩
        rw [live18_sec] at hpS
        have hbS : Below xA.heap.size xA xS := hpS.bel
        have HBS : Hid (w3.heap.size <= xA.heap.size) := hi_ BW.out.size
        have NE : Hid (lvS.ownBlock ≠ some mb) := hi_ (fun e => by have h1 := (hpS.own_lt e).1; have h2 := rd_lt RM.out (by decide); omega)
        have NT : Hid (lvS.ownBlock ≠ some tb) := hi_ (fun e => by have h1 := (hpS.own_lt e).1; have h2 := TA.out.lt; omega)
        replace BW := hi_ (BW.out.trans (hbS.mono BW.out.size))
        replace RM := hi_ (RM.out.below (Nat.le_refl _) hbS)
        replace TA := hi_ (TA.out.under hbS)
        have PS := hi_ hpS
        clear hpS hbS
        refine hK.out _ _ ⟨(K3.out.next BW.out).c0, (K3.out.next BW.out).c1, (K3.out.next BW.out).c2, (K3.out.next BW.out).c3, (K3.out.next BW.out).c4⟩ (fun hHeld => ?_)
        clear hK K'
        try simp only [Act.put, sA_, sB_, sC_]
        refine wpAnyH_ready (rs := [4]) (by kernel_rfl) (by simp) ?_
        refine AllReadyH.cons (o := ⟨some 10, .buildSlice 25 1 #[(0, .tmp 9)], 25, "law.go:21", #[⟨3, .data⟩], none⟩) rfl (fun K' hK => ?_) AllReadyH.nil
        go_simp
        obtain ⟨xL, hxL⟩ : ∃ v, v = xS.alloc (.cells #[.slice (some ⟨mb, 0, none⟩) 512 512] 42) := ⟨_, rfl⟩
        have hbL : Below xS.heap.size xS xL := by rw [hxL]; exact (Below.refl _ _).alloc (Nat.le_refl _) _
        have hvL : VRow (fun _ => True) xL (some ⟨xS.heap.size, 0, none⟩) 1 1 [.slice (some ⟨mb, 0, none⟩) 512 512] := by rw [hxL]; exact (VRow.new xS #[.slice (some ⟨mb, 0, none⟩) 512 512] _ 1 1 rfl).mono (fun _ _ => trivial)
        rw [<- hxL]
        clear hxL
        obtain ⟨lb, hlb⟩ : ∃ lb, lb = xS.heap.size := ⟨_, rfl⟩
        rw [<- hlb] at hvL ⊢
        replace BW := hi_ (BW.out.trans (hbL.mono BW.out.size))
        replace PS := hi_ (PS.out.below hbL)
        replace RM := hi_ (RM.out.below (Nat.le_refl _) hbL)
        replace TA := hi_ (TA.out.under hbL)
        have VL := hi_ hvL
        clear hvL hbL hlb
        refine hK.out _ _ ⟨(K3.out.next BW.out).c0, (K3.out.next BW.out).c1, (K3.out.next BW.out).c2, (K3.out.next BW.out).c3, (K3.out.next BW.out).c4⟩ (fun hHeld => ?_)
        clear hK K'
        try simp only [Act.put, sA_, sB_, sC_]
        refine wpAnyH_ready (rs := [5]) (by kernel_rfl) (by simp) ?_
        refine AllReadyH.cons (o := ⟨some 11, .call { callee := .builtin .append, args := #[.tmp 8, .tmp 10], argTypes := #[25, 25] }, 25, "law.go:21", #[⟨2, .data⟩, ⟨4, .data⟩, ⟨2, .chain⟩], none⟩) rfl (fun K' hK => ?_) AllReadyH.nil
        refine step_appX (K := fun _ => True) rowsT rfl (.tmp 8) (.tmp 10) rfl xA.heap.size lvS 1 vsS rfl PS.out.gr.ow (some ⟨lb, 0, none⟩) 1 1 [.slice (some ⟨mb, 0, none⟩) 512 512] rfl VL.out (fun u hu => by simp at hu; rw [hu]; rfl) (by omega) (by decide) PS.out.bel.size ?_; intro v9 xP ho9 hg9 hv9
        obtain ⟨A9, c9, rfl, _, _, _⟩ := own_vrow ho9
        obtain ⟨vs9, D9, hP9, _⟩ := PS.out.putG (K := fun y => y = mb) (Below.refl _ _) RM.out (Nat.le_refl _) (fun b o e _ => by injection e with e; injection e with e1; exact e1.symm) (fun y hy => by rw [hy]; exact NE.out) ho9 hg9 hv9
        have hbP : Below w3.heap.size w3 xP := BW.out.grown hg9 BW.out.size (fun k hk => Nat.le_trans HBS.out (PS.out.own_lt hk).1)
        replace TA := hi_ (TA.out.block (hg9.block tb TA.out.lt (fun e => NT.out e.symm)))
        replace BW := hi_ hbP
        have PP : Hid (PcG xA xP (.slice A9 2 c9) live18_l vs9 D9) := hi_ hP9
        clear ho9 hg9 hv9 hP9 hbP PS RM VL NE HBS
        clear NT
        refine hK.out _ _ ⟨(K3.out.next BW.out).c0, (K3.out.next BW.out).c1, (K3.out.next BW.out).c2, (K3.out.next BW.out).c3, (K3.out.next BW.out).c4⟩ (fun hHeld => ?_)
        clear hK K'
        try simp only [Act.put, sA_, sB_, sC_]
        refine wpAnyH_ready (rs := [6]) (by kernel_rfl) (by simp) ?_
        refine AllReadyH.cons (o := ⟨some 12, .call { callee := .value (.func 11), args := #[.tmp 6, .tmp 11, .const (.int .i64 4), .const (.int .i64 2), .const (.int .i64 9)], argTypes := #[24, 25, 3, 3, 3] }, 33, "law.go:21", #[⟨0, .data⟩, ⟨5, .data⟩, ⟨5, .chain⟩], none⟩) rfl (fun K' hK => ?_) AllReadyH.nil
        go_simp
        obtain ⟨A8, c8, he8, _, _, hv8⟩ := PP.out.done
        have he9 : A9 = A8 := by injection he8
        subst he9
        have htb := TA.out.lt
        go_at_call 11; refine (LScan_ok 2 4 1 1 none 0 0 [] A9 2 c9 live18_l (by omega) (fun k hk => by cases hk) (by decide) 4 2 9 xP ⟨KRd.nil _ _, hv8⟩).mono ?_; rintro e xC ⟨bs, TT, EE, QQ, RA, rn, rc, rfl, hsc, hvc, hrc, _, hbC⟩
        rw [live18_eff] at hsc
        obtain ⟨hbs, rfl, rfl, rfl⟩ := live18_scn.det hsc
        subst hbs
        have hrn : 1 = rn := hvc.len
        subst hrn
        replace BW := hi_ (BW.out.trans (hbC.mono BW.out.size))
        replace TA := hi_ (TA.out.under hbC)
        replace PP := hi_ (PP.out.below hbC)
        have CC : Hid (PcsV (fun y => xP.heap.size <= y) xC RA 1 [frBytes []]) := hi_ hvc
        have HCT : Hid (tb < xP.heap.size) := hi_ htb
        clear PP hsc hvc hv8 hbC
        replace CC : Hid (PcsV (fun y => tb < y) xC RA 1 [frBytes []]) := hi_ (PcsV.mono CC.out (fun y hy => Nat.lt_of_lt_of_le HCT.out hy))
        clear HCT htb
        refine hK.out _ _ ⟨(K3.out.next BW.out).c0, (K3.out.next BW.out).c1, (K3.out.next BW.out).c2, (K3.out.next BW.out).c3, (K3.out.next BW.out).c4⟩ (fun hHeld => ?_)
        clear hK K'
        try simp only [Act.put, sA_, sB_, sC_]
        replace CC : Hid (PcsV (fun y => y ≠ tb) xC RA 1 [frBytes []]) := hi_ (PcsV.mono CC.out (fun y hy => Nat.ne_of_gt hy))
        generalize xC = zW at BW CC TA hHeld ⊢
      case' c53 =>
        go_simp
        obtain ⟨xL, hxL⟩ : ∃ v, v = xA.alloc (.cells #[.slice (some ⟨mb, 0, none⟩) 512 512] 42) := ⟨_, rfl⟩
        have hbL : Below xA.heap.size xA xL := by rw [hxL]; exact (Below.refl _ _).alloc (Nat.le_refl _) _
        have hvL : VRow (fun _ => True) xL (some ⟨xA.heap.size, 0, none⟩) 1 1 [.slice (some ⟨mb, 0, none⟩) 512 512] := by rw [hxL]; exact (VRow.new xA #[.slice (some ⟨mb, 0, none⟩) 512 512] _ 1 1 rfl).mono (fun _ _ => trivial)
        rw [<- hxL]
        clear hxL
        obtain ⟨lb, hlb⟩ : ∃ lb, lb = xA.heap.size := ⟨_, rfl⟩
        rw [<- hlb] at hvL ⊢
        replace BW := hi_ (BW.out.trans (hbL.mono BW.out.size))
        replace RM := hi_ (RM.out.below (Nat.le_refl _) hbL)
        replace TA := hi_ (TA.out.under hbL)
        have VL := hi_ hvL
        clear hvL hbL hlb
        refine hK.out _ _ ⟨(K3.out.next BW.out).c0, (K3.out.next BW.out).c1, (K3.out.next BW.out).c2, (K3.out.next BW.out).c3, (K3.out.next BW.out).c4⟩ (fun hHeld => ?_)
        clear hK K'
        try simp only [Act.put, sA_, sB_, sC_]
        refine wpAnyH_ready (rs := [2]) (by kernel_rfl) (by simp) ?_
        refine AllReadyH.cons (o := ⟨some 8, .call { callee := .value (.func 17), args := #[.const (.int .i64 3), .const (.int .i64 4), .const (.int .i64 9), .tmp 7], argTypes := #[3, 3, 3, 42] }, 25, "law.go:21", #[⟨1, .data⟩], none⟩) rfl (fun K' hK => ?_) AllReadyH.nil
        go_simp
        go_at_call 17; refine (RSealed_any B3 5 c3 (frBytes []) 3 4 9 xL (R3.out.1.below (Nat.le_refl _) BW.out) R3.out.2 (by omega) (by omega) (by omega)).mono ?_; rintro e xS ⟨lvS, vsS, DS, rfl, hpS, _⟩
        rw [live18_sec] at hpS
        have hbS : Below xL.heap.size xL xS := hpS.bel
        have HBS : Hid (w3.heap.size <= xL.heap.size) := hi_ BW.out.size
        have NE : Hid (lvS.ownBlock ≠ some mb) := hi_ (fun e => by have h1 := (hpS.own_lt e).1; have h2 := rd_lt RM.out (by decide); omega)
        have NT : Hid (lvS.ownBlock ≠ some tb) := hi_ (fun e => by have h1 := (hpS.own_lt e).1; have h2 := TA.out.lt; omega)
        replace BW := hi_ (BW.out.trans (hbS.mono BW.out.size))
        replace RM := hi_ (RM.out.below (Nat.le_refl _) hbS)
        replace VL := hi_ (VL.out.below hbS)
        replace TA := hi_ (TA.out.under hbS)
        have PS := hi_ hpS
        clear hpS hbS
        refine hK.out _ _ ⟨(K3.out.next BW.out).c0, (K3.out.next BW.out).c1, (K3.out.next BW.out).c2, (K3.out.next BW.out).c3, (K3.out.next BW.out).c4⟩ (fun hHeld => ?_)
        clear hK K'
        try simp only [Act.put, sA_, sB_, sC_]
        refine wpAnyH_ready (rs := [5]) (by kernel_rfl) (by simp) ?_
        refine AllReadyH.cons (o := ⟨some 11, .call { callee := .builtin .append, args := #[.tmp 8, .tmp 10], argTypes := #[25, 25] }, 25, "law.go:21", #[⟨2, .data⟩, ⟨4, .data⟩, ⟨2, .chain⟩], none⟩) rfl (fun K' hK => ?_) AllReadyH.nil
        refine step_appX (K := fun _ => True) rowsT rfl (.tmp 8) (.tmp 10) rfl xL.heap.size lvS 1 vsS rfl PS.out.gr.ow (some ⟨lb, 0, none⟩) 1 1 [.slice (some ⟨mb, 0, none⟩) 512 512] rfl VL.out (fun u hu => by simp at hu; rw [hu]; rfl) (by omega) (by decide) PS.out.bel.size ?_; intro v9 xP ho9 hg9 hv9
        obtain ⟨A9, c9, rfl, _, _, _⟩ := own_vrow ho9
        obtain ⟨vs9, D9, hP9, _⟩ := PS.out.putG (K := fun y => y = mb) (Below.refl _ _) RM.out (Nat.le_refl _) (fun b o e _ => by injection e with e; injection e with e1; exact e1.symm) (fun y hy => by rw [hy]; exact NE.out) ho9 hg9 hv9
        have hbP : Below w3.heap.size w3 xP := BW.out.grown hg9 BW.out.size (fun k hk => Nat.le_trans HBS.out (PS.out.own_lt hk).1)
        replace TA := hi_ (TA.out.block (hg9.block tb TA.out.lt (fun e => NT.out e.symm)))
        replace BW := hi_ hbP
        have PP : Hid (PcG xL xP (.slice A9 2 c9) live18_l vs9 D9) := hi_ hP9
        clear ho9 hg9 hv9 hP9 hbP PS RM VL NE HBS
        clear NT
        refine hK.out _ _ ⟨(K3.out.next BW.out).c0, (K3.out.next BW.out).c1, (K3.out.next BW.out).c2, (K3.out.next BW.out).c3, (K3.out.next BW.out).c4⟩ (fun hHeld => ?_)
        clear hK K'
        try simp only [Act.put, sA_, sB_, sC_]
        refine wpAnyH_ready (rs := [6]) (by kernel_rfl) (by simp) ?_
        refine AllReadyH.cons (o := ⟨some 12, .call { callee := .value (.func 11), args := #[.tmp 6, .tmp 11, .const (.int .i64 4), .const (.int .i64 2), .const (.int .i64 9)], argTypes := #[24, 25, 3, 3, 3] }, 33, "law.go:21", #[⟨0, .data⟩, ⟨5, .data⟩, ⟨5, .chain⟩], none⟩) rfl (fun K' hK => ?_) AllReadyH.nil
        go_simp
        obtain ⟨A8, c8, he8, _, _, hv8⟩ := PP.out.done
        have he9 : A9 = A8 := by injection he8
        subst he9
        have htb := TA.out.lt
        go_at_call 11; refine (LScan_ok 2 4 1 1 none 0 0 [] A9 2 c9 live18_l (by omega) (fun k hk => by cases hk) (by decide) 4 2 9 xP ⟨KRd.nil _ _, hv8⟩).mono ?_; rintro e xC ⟨bs, TT, EE, QQ, RA, rn, rc, rfl, hsc, hvc, hrc, _, hbC⟩
        rw [live18_eff] at hsc
        obtain ⟨hbs, rfl, rfl, rfl⟩ := live18_scn.det hsc
        subst hbs
        have hrn : 1 = rn := hvc.len
        subst hrn
        replace BW := hi_ (BW.out.trans (hbC.mono BW.out.size))
        replace TA := hi_ (TA.out.under hbC)
        replace PP := hi_ (PP.out.below hbC)
        have CC : Hid (PcsV (fun y => xP.heap.size <= y) xC RA 1 [frBytes []]) := hi_ hvc
        have HCT : Hid (tb < xP.heap.size) := hi_ htb
        clear PP hsc hvc hv8 hbC
        replace CC : Hid (PcsV (fun y => tb < y) xC RA 1 [frBytes []]) := hi_ (PcsV.mono CC.out (fun y hy => Nat.lt_of_lt_of_le HCT.out hy))
        clear HCT htb
        refine hK.out _ _ ⟨(K3.out.next BW.out).c0, (K3.out.next BW.out).c1, (K3.out.next BW.out).c2, (K3.out.next BW.out).c3, (K3.out.next BW.out).c4⟩ (fun hHeld => ?_)
        clear hK K'
        try simp only [Act.put, sA_, sB_, sC_]
        replace CC : Hid (PcsV (fun y => y ≠ tb) xC RA 1 [frBytes []]) := hi_ (PcsV.mono CC.out (fun y hy => Nat.ne_of_gt hy))
        generalize xC = zW at BW CC TA hHeld ⊢
  case' c3 =>
    go_simp
    obtain ⟨xA, hxA⟩ : ∃ v, v = x0.alloc (.cells #[.slice none 0 0, .int .i64 0, .int .i64 0, .int .i64 0] 33) := ⟨_, rfl⟩
    have hbA : Below x0.heap.size x0 xA := by rw [hxA]; exact (Below.refl _ _).alloc (Nat.le_refl _) _
    have hrA : Rec 33 xA x0.heap.size #[.slice none 0 0, .int .i64 0, .int .i64 0, .int .i64 0] := by rw [hxA]; exact Rec.new x0 _ _
    rw [<- hxA]
    clear hxA
    obtain ⟨tb, htb⟩ : ∃ tb, tb = x0.heap.size := ⟨_, rfl⟩
    have HTB : Hid (w3.heap.size <= tb) := hi_ (by rw [htb]; exact BW.out.size)
    rw [<- htb] at hrA ⊢
    replace BW := hi_ (BW.out.trans (hbA.mono BW.out.size))
    have TA := hi_ hrA
    clear hrA hbA htb
    refine hK.out _ _ ⟨(K3.out.next BW.out).c0, (K3.out.next BW.out).c1, (K3.out.next BW.out).c2, (K3.out.next BW.out).c3, (K3.out.next BW.out).c4⟩ (fun hHeld => ?_)
    clear hK K'
    try simp only [Act.put, sA_, sB_, sC_]
    refine wpAnyH_ready (rs := [2, 3]) (by kernel_rfl) (by simp) ?_
    refine AllReadyH.cons (o := ⟨some 8, .call { callee := .value (.func 17), args := #[.const (.int .i64 3), .const (.int .i64 4), .const (.int .i64 9), .tmp 7], argTypes := #[3, 3, 3, 42] }, 25, "law.go:21", #[⟨1, .data⟩], none⟩) rfl (fun K' hK => ?c60) (AllReadyH.cons (o := ⟨some 9, .makeSlice 42 (.const (.int .i64 512)) (.const (.int .i64 512)), 42, "law.go:21", #[], none⟩) rfl (fun K' hK => ?c61) AllReadyH.nil)
    case' c60 =>
      go_simp
      go_at_call 17; refine (RSealed_any B3 5 c3 (frBytes []) 3 4 9 xA (R3.out.1.below (Nat.le_refl _) BW.out) R3.out.2 (by omega) (by omega) (by omega)).mono ?_; rintro e xS ⟨lvS, vsS, DS, rfl, hpS, _⟩
      rw [live18_sec] at hpS
      have hbS : Below xA.heap.size xA xS := hpS.bel
      have HBS : Hid (w3.heap.size <= xA.heap.size) := hi_ BW.out.size
      have NT : Hid (lvS.ownBlock ≠ some tb) := hi_ (fun e => by have h1 := (hpS.own_lt e).1; have h2 := TA.out.lt; omega)
      replace BW := hi_ (BW.out.trans (hbS.mono BW.out.size))
      replace TA := hi_ (TA.out.under hbS)
      have PS := hi_ hpS
      clear hpS hbS
      refine hK.out _ _ ⟨(K3.out.next BW.out).c0, (K3.out.next BW.out).c1, (K3.out.next BW.out).c2, (K3.out.next BW.out).c3, (K3.out.next BW.out).c4⟩ (fun hHeld => ?_)
      clear hK K'
      try simp only [Act.put, sA_, sB_, sC_]
      refine wpAnyH_ready (rs := [3]) (by kernel_rfl) (by simp) ?_
      refine AllReadyH.cons (o := ⟨some 9, .makeSlice 42 (.const (.int .i64 512)) (.const (.int .i64 512)), 42, "law.go:21", #[], none⟩) rfl (fun K' hK => ?_) AllReadyH.nil
      refine step_mkn _ bytesT rfl (.const (.int .i64 512)) (.const (.int .i64 512)) rfl xS.heap.size .i64 .i64 _ _ 512 rfl rfl rfl rfl (by decide) (by unfold maxLen; omega) (Nat.le_refl _) ?_; intro xM hoM hbM
      rw [made_zeros] at hoM
      have hrM := own_rd hoM
      obtain ⟨mb, hmb⟩ : ∃ mb, mb = xS.heap.size := ⟨_, rfl⟩
      rw [<- hmb] at hrM
      have NE : Hid (lvS.ownBlock ≠ some mb) := hi_ (fun e => by have h1 := (PS.out.own_lt e).2; omega)
      replace BW := hi_ (BW.out.trans (hbM.mono BW.out.size))
      replace PS := hi_ (PS.out.below hbM)
      replace TA := hi_ (TA.out.under hbM)
      have RM := hi_ hrM
      try rw [<- hmb]
      clear hoM hbM hrM hmb
      refine hK.out _ _ ⟨(K3.out.next BW.out).c0, (K3.out.next BW.out).c1, (K3.out.next BW.out).c2, (K3.out.next BW.out).c3, (K3.out.next BW.out).c4⟩ (fun hHeld => ?_)
      clear hK K'
      try simp only [Act.put, sA_, sB_, sC_]
      refine wpAnyH_ready (rs := [4]) (by kernel_rfl) (by simp) ?_
      refine AllReadyH.cons (o := ⟨some 10, .buildSlice 25 1 #[(0, .tmp 9)], 25, "law.go:21", #[⟨3, .data⟩], none⟩) rfl (fun K' hK => ?_) AllReadyH.nil
      go_simp
      obtain ⟨xL, hxL⟩ : ∃ v, v = xM.alloc (.cells #[.slice (some ⟨mb, 0, none⟩) 512 512] 42) := ⟨_, rfl⟩
      have hbL : Below xM.heap.size xM xL := by rw [hxL]; exact (Below.refl _ _).alloc (Nat.le_refl _) _
      have hvL : VRow (fun _ => True) xL (some ⟨xM.heap.size, 0, none⟩) 1 1 [.slice (some ⟨mb, 0, none⟩) 512 512] := by rw [hxL]; exact (VRow.new xM #[.slice (some ⟨mb, 0, none⟩) 512 512] _ 1 1 rfl).mono (fun _ _ => trivial)
      rw [<- hxL]
      clear hxL
      obtain ⟨lb, hlb⟩ : ∃ lb, lb = xM.heap.size := ⟨_, rfl⟩
      rw [<- hlb] at hvL ⊢
      replace BW := hi_ (BW.out.trans (hbL.mono BW.out.size))
      replace PS := hi_ (PS.out.below hbL)
      replace RM := hi_ (RM.out.below (Nat.le_refl _) hbL)
      replace TA := hi_ (TA.out.under hbL)
      have VL := hi_ hvL
      clear hvL hbL hlb
      refine hK.out _ _ ⟨(K3.out.next BW.out).c0, (K3.out.next BW.out).c1, (K3.out.next BW.out).c2, (K3.out.next BW.out).c3, (K3.out.next BW.out).c4⟩ (fun hHeld => ?_)
      clear hK K'
      try simp only [Act.put, sA_, sB_, sC_]
      refine wpAnyH_ready (rs := [5]) (by kernel_rfl) (by simp) ?_
      refine AllReadyH.cons (o := ⟨some 11, .call { callee := .builtin .append, args := #[.tmp 8, .tmp 10], argTypes := #[25, 25] }, 25, "law.go:21", #[⟨2, .data⟩, ⟨4, .data⟩, ⟨2, .chain⟩], none⟩) rfl (fun K' hK => ?_) AllReadyH.nil
      refine step_appX (K := fun _ => True) rowsT rfl (.tmp 8) (.tmp 10) rfl xA.heap.size lvS 1 vsS rfl PS.out.gr.ow (some ⟨lb, 0, none⟩) 1 1 [.slice (some ⟨mb, 0, none⟩) 512 512] rfl VL.out (fun u hu => by simp at hu; rw [hu]; rfl) (by omega) (by decide) PS.out.bel.size ?_; intro v9 xP ho9 hg9 hv9
      obtain ⟨A9, c9, rfl, _, _, _⟩ := own_vrow ho9
      obtain ⟨vs9, D9, hP9, _⟩ := PS.out.putG (K := fun y => y = mb) (Below.refl _ _) RM.out (Nat.le_refl _) (fun b o e _ => by injection e with e; injection e with e1; exact e1.symm) (fun y hy => by rw [hy]; exact NE.out) ho9 hg9 hv9
      have hbP : Below w3.heap.size w3 xP := BW.out.grown hg9 BW.out.size (fun k hk => Nat.le_trans HBS.out (PS.out.own_lt hk).1)
      replace TA := hi_ (TA.out.block (hg9.block tb TA.out.lt (fun e => NT.out e.symm)))
      replace BW := hi_ hbP
      have PP : Hid (PcG xA xP (.slice A9 2 c9) live18_l vs9 D9) := hi_ hP9
      clear ho9 hg9 hv9 hP9 hbP PS RM VL NE HBS
      clear NT
      refine hK.out _ _ ⟨(K3.out.next BW.out).c0, (K3.out.next BW.out).c1, (K3.out.next BW.out).c2, (K3.out.next BW.out).c3, (K3.out.next BW.out).c4⟩ (fun hHeld => ?_)
      clear hK K'
      try simp only [Act.put, sA_, sB_, sC_]
      refine wpAnyH_ready (rs := [6]) (by kernel_rfl) (by simp) ?_
      refine AllReadyH.cons (o := ⟨some 12, .call { callee := .value (.func 11), args := #[.tmp 6, .tmp 11, .const (.int .i64 4), .const (.int .i64 2), .const (.int .i64 9)], argTypes := #[24, 25, 3, 3, 3] }, 33, "law.go:21", #[⟨0, .data⟩, ⟨5, .data⟩, ⟨5, .chain⟩], none⟩) rfl (fun K' hK => ?_) AllReadyH.nil
      go_simp
      obtain ⟨A8, c8, he8, _, _, hv8⟩ := PP.out.done
      have he9 : A9 = A8 := by injection he8
      subst he9
      have htb := TA.out.lt
      go_at_call 11; refine (LScan_ok 2 4 1 1 none 0 0 [] A9 2 c9 live18_l (by omega) (fun k hk => by cases hk) (by decide) 4 2 9 xP ⟨KRd.nil _ _, hv8⟩).mono ?_; rintro e xC ⟨bs, TT, EE, QQ, RA, rn, rc, rfl, hsc, hvc, hrc, _, hbC⟩
      rw [live18_eff] at hsc
      obtain ⟨hbs, rfl, rfl, rfl⟩ := live18_scn.det hsc
      subst hbs
      have hrn : 1 = rn := hvc.len
      subst hrn
      replace BW := hi_ (BW.out.trans (hbC.mono BW.out.size))
      replace TA := hi_ (TA.out.under hbC)
      replace PP := hi_ (PP.out.below hbC)
      have CC : Hid (PcsV (fun y => xP.heap.size <= y) xC RA 1 [frBytes []]) := hi_ hvc
      have HCT : Hid (tb < xP.heap.size) := hi_ htb
      clear PP hsc hvc hv8 hbC
      replace CC : Hid (PcsV (fun y => tb < y) xC RA 1 [frBytes []]) := hi_ (PcsV.mono CC.out (fun y hy => Nat.lt_of_lt_of_le HCT.out hy))
      clear HCT htb
      refine hK.out _ _ ⟨(K3.out.next BW.out).c0, (K3.out.next BW.out).c1, (K3.out.next BW.out).c2, (K3.out.next BW.out).c3, (K3.out.next BW.out).c4⟩ (fun hHeld => ?_)
      clear hK K'
      try simp only [Act.put, sA_, sB_, sC_]
      replace CC : Hid (PcsV (fun y => y ≠ tb) xC RA 1 [frBytes []]) := hi_ (PcsV.mono CC.out (fun y hy => Nat.ne_of_gt hy))
      generalize xC = zW at BW CC TA hHeld ⊢
    case' c61 =>
      refine step_mkn _ bytesT rfl (.const (.int .i64 512)) (.const (.int .i64 512)) rfl xA.heap.size .i64 .i64 _ _ 512 rfl rfl rfl rfl (by decide) (by unfold maxLen; omega) (Nat.le_refl _) ?_; intro xM hoM hbM
      rw [made_zeros] at hoM
      have hrM := own_rd hoM
      obtain ⟨mb, hmb⟩ : ∃ mb, mb = xA.heap.size := ⟨_, rfl⟩
      rw [<- hmb] at hrM
      replace BW := hi_ (BW.out.trans (hbM.mono BW.out.size))
      replace TA := hi_ (TA.out.under hbM)
      have RM := hi_ hrM
      try rw [<- hmb]
      clear hoM hbM hrM hmb
      refine hK.out _ _ ⟨(K3.out.next BW.out).c0, (K3.out.next BW.out).c1, (K3.out.next BW.out).c2, (K3.out.next BW.out).c3, (K3.out.next BW.out).c4⟩ (fun hHeld => ?_)
      clear hK K'
      try simp only [Act.put, sA_, sB_, sC_]
      refine wpAnyH_ready (rs := [2, 4]) (by kernel_rfl) (by simp) ?_
      refine AllReadyH.cons (o := ⟨some 8, .call { callee := .value (.func 17), args := #[.const (.int .i64 3), .const (.int .i64 4), .const (.int .i64 9), .tmp 7], argTypes := #[3, 3, 3, 42] }, 25, "law.go:21", #[⟨1, .data⟩], none⟩) rfl (fun K' hK => ?c66) (AllReadyH.cons (o := ⟨some 10, .buildSlice 25 1 #[(0, .tmp 9)], 25, "law.go:21", #[⟨3, .data⟩], none⟩) rfl (fun K' hK => ?c67) AllReadyH.nil)
      case' c66 =>
        go_simp
        go_at_call 17; refine (RSealed_any B3 5 c3 (frBytes []) 3 4 9 xM (R3.out.1.below (Nat.le_refl _) BW.out) R3.out.2 (by omega) (by omega) (by omega)).mono ?_; rintro e xS ⟨lvS, vsS, DS, rfl, hpS, _⟩
        rw [live18_sec] at hpS
        have hbS : Below xM.heap.size xM xS := hpS.bel
        have HBS : Hid (w3.heap.size <= xM.heap.size) := hi_ BW.out.size
        have NE : Hid (lvS.ownBlock ≠ some mb) := hi_ (fun e => by have h1 := (hpS.own_lt e).1; have h2 := rd_lt RM.out (by decide); omega)
        have NT : Hid (lvS.ownBlock ≠ some tb) := hi_ (fun e => by have h1 := (hpS.own_lt e).1; have h2 := TA.out.lt; omega)
        replace BW := hi_ (BW.out.trans (hbS.mono BW.out.size))
        replace RM := hi_ (RM.out.below (Nat.le_refl _) hbS)
        replace TA := hi_ (TA.out.under hbS)
        have PS := hi_ hpS
        clear hpS hbS
        refine hK.out _ _ ⟨(K3.out.next BW.out).c0, (K3.out.next BW.out).c1, (K3.out.next BW.out).c2, (K3.out.next BW.out).c3, (K3.out.next BW.out).c4⟩ (fun hHeld => ?_)
        clear hK K'
        try simp only [Act.put, sA_, sB_, sC_]
        refine wpAnyH_ready (rs := [4]) (by kernel_rfl) (by simp) ?_
        refine AllReadyH.cons (o := ⟨some 10, .buildSlice 25 1 #[(0, .tmp 9)], 25, "law.go:21", #[⟨3, .data⟩], none⟩) rfl (fun K' hK => ?_) AllReadyH.nil
        go_simp
        obtain ⟨xL, hxL⟩ : ∃ v, v = xS.alloc (.cells #[.slice (some ⟨mb, 0, none⟩) 512 512] 42) := ⟨_, rfl⟩
        have hbL : Below xS.heap.size xS xL := by rw [hxL]; exact (Below.refl _ _).alloc (Nat.le_refl _) _
        have hvL : VRow (fun _ => True) xL (some ⟨xS.heap.size, 0, none⟩) 1 1 [.slice (some ⟨mb, 0, none⟩) 512 512] := by rw [hxL]; exact (VRow.new xS #[.slice (some ⟨mb, 0, none⟩) 512 512] _ 1 1 rfl).mono (fun _ _ => trivial)
        rw [<- hxL]
        clear hxL
        obtain ⟨lb, hlb⟩ : ∃ lb, lb = xS.heap.size := ⟨_, rfl⟩
        rw [<- hlb] at hvL ⊢
        replace BW := hi_ (BW.out.trans (hbL.mono BW.out.size))
        replace PS := hi_ (PS.out.below hbL)
        replace RM := hi_ (RM.out.below (Nat.le_refl _) hbL)
        replace TA := hi_ (TA.out.under hbL)
        have VL := hi_ hvL
        clear hvL hbL hlb
        refine hK.out _ _ ⟨(K3.out.next BW.out).c0, (K3.out.next BW.out).c1, (K3.out.next BW.out).c2, (K3.out.next BW.out).c3, (K3.out.next BW.out).c4⟩ (fun hHeld => ?_)
        clear hK K'
        try simp only [Act.put, sA_, sB_, sC_]
        refine wpAnyH_ready (rs := [5]) (by kernel_rfl) (by simp) ?_
        refine AllReadyH.cons (o := ⟨some 11, .call { callee := .builtin .append, args := #[.tmp 8, .tmp 10], argTypes := #[25, 25] }, 25, "law.go:21", #[⟨2, .data⟩, ⟨4, .data⟩, ⟨2, .chain⟩], none⟩) rfl (fun K' hK => ?_) AllReadyH.nil
        refine step_appX (K := fun _ => True) rowsT rfl (.tmp 8) (.tmp 10) rfl xM.heap.size lvS 1 vsS rfl PS.out.gr.ow (some ⟨lb, 0, none⟩) 1 1 [.slice (some ⟨mb, 0, none⟩) 512 512] rfl VL.out (fun u hu => by simp at hu; rw [hu]; rfl) (by omega) (by decide) PS.out.bel.size ?_; intro v9 xP ho9 hg9 hv9
        obtain ⟨A9, c9, rfl, _, _, _⟩ := own_vrow ho9
        obtain ⟨vs9, D9, hP9, _⟩ := PS.out.putG (K := fun y => y = mb) (Below.refl _ _) RM.out (Nat.le_refl _) (fun b o e _ => by injection e with e; injection e with e1; exact e1.symm) (fun y hy => by rw [hy]; exact NE.out) ho9 hg9 hv9
        have hbP : Below w3.heap.size w3 xP := BW.out.grown hg9 BW.out.size (fun k hk => Nat.le_trans HBS.out (PS.out.own_lt hk).1)
        replace TA := hi_ (TA.out.block (hg9.block tb TA.out.lt (fun e => NT.out e.symm)))
        replace BW := hi_ hbP
        have PP : Hid (PcG xM xP (.slice A9 2 c9) live18_l vs9 D9) := hi_ hP9
        clear ho9 hg9 hv9 hP9 hbP PS RM VL NE HBS
        clear NT
        refine hK.out _ _ ⟨(K3.out.next BW.out).c0, (K3.out.next BW.out).c1, (K3.out.next BW.out).c2, (K3.out.next BW.out).c3, (K3.out.next BW.out).c4⟩ (fun hHeld => ?_)
        clear hK K'
        try simp only [Act.put, sA_, sB_, sC_]
        refine wpAnyH_ready (rs := [6]) (by kernel_rfl) (by simp) ?_
        refine AllReadyH.cons (o := ⟨some 12, .call { callee := .value (.func 11), args := #[.tmp 6, .tmp 11, .const (.int .i64 4), .const (.int .i64 2), .const (.int .i64 9)], argTypes := #[24, 25, 3, 3, 3] }, 33, "law.go:21", #[⟨0, .data⟩, ⟨5, .data⟩, ⟨5, .chain⟩], none⟩) rfl (fun K' hK => ?_) AllReadyH.nil
        go_simp
        obtain ⟨A8, c8, he8, _, _, hv8⟩ := PP.out.done
        have he9 : A9 = A8 := by injection he8
        subst he9
        have htb := TA.out.lt
        go_at_call 11; refine (LScan_ok 2 4 1 1 none 0 0 [] A9 2 c9 live18_l (by omega) (fun k hk => by cases hk) (by decide) 4 2 9 xP ⟨KRd.nil _ _, hv8⟩).mono ?_; rintro e xC ⟨bs, TT, EE, QQ, RA, rn, rc, rfl, hsc, hvc, hrc, _, hbC⟩
        rw [live18_eff] at hsc
        obtain ⟨hbs, rfl, rfl, rfl⟩ := live18_scn.det hsc
        subst hbs
        have hrn : 1 = rn := hvc.len
        subst hrn
        replace BW := hi_ (BW.out.trans (hbC.mono BW.out.size))
        replace TA := hi_ (TA.out.under hbC)
        replace PP := hi_ (PP.out.below hbC)
        have CC : Hid (PcsV (fun y => xP.heap.size <= y) xC RA 1 [frBytes []]) := hi_ hvc
        have HCT : Hid (tb < xP.heap.size) := hi_ htb
        clear PP hsc hvc hv8 hbC
        replace CC : Hid (PcsV (fun y => tb < y) xC RA 1 [frBytes []]) := hi_ (PcsV.mono CC.out (fun y hy => Nat.lt_of_lt_of_le HCT.out hy))
        clear HCT htb
        refine hK.out _ _ ⟨(K3.out.next BW.out).c0, (K3.out.next BW.out).c1, (K3.out.next BW.out).c2, (K3.out.next BW.out).c3, (K3.out.next BW.out).c4⟩ (fun hHeld => ?_)
        clear hK K'
        try simp only [Act.put, sA_, sB_, sC_]
        replace CC : Hid (PcsV (fun y => y ≠ tb) xC RA 1 [frBytes []]) := hi_ (PcsV.mono CC.out (fun y hy => Nat.ne_of_gt hy))
        generalize xC = zW at BW CC TA hHeld ⊢
      case' c67 =>
        go_simp
        obtain ⟨xL, hxL⟩ : ∃ v, v = xM.alloc (.cells #[.slice (some ⟨mb, 0, none⟩) 512 512] 42) := ⟨_, rfl⟩
        have hbL : Below xM.heap.size xM xL := by rw [hxL]; exact (Below.refl _ _).alloc (Nat.le_refl _) _
        have hvL : VRow (fun _ => True) xL (some ⟨xM.heap.size, 0, none⟩) 1 1 [.slice (some ⟨mb, 0, none⟩) 512 512] := by rw [hxL]; exact (VRow.new xM #[.slice (some ⟨mb, 0, none⟩) 512 512] _ 1 1 rfl).mono (fun _ _ => trivial)
        rw [<- hxL]
        clear hxL
        obtain ⟨lb, hlb⟩ : ∃ lb, lb = xM.heap.size := ⟨_, rfl⟩
        rw [<- hlb] at hvL ⊢
        replace BW := hi_ (BW.out.trans (hbL.mono BW.out.size))
        replace RM := hi_ (RM.out.below (Nat.le_refl _) hbL)
        replace TA := hi_ (TA.out.under hbL)
        have VL := hi_ hvL
        clear hvL hbL hlb
        refine hK.out _ _ ⟨(K3.out.next BW.out).c0, (K3.out.next BW.out).c1, (K3.out.next BW.out).c2, (K3.out.next BW.out).c3, (K3.out.next BW.out).c4⟩ (fun hHeld => ?_)
        clear hK K'
        try simp only [Act.put, sA_, sB_, sC_]
        refine wpAnyH_ready (rs := [2]) (by kernel_rfl) (by simp) ?_
        refine AllReadyH.cons (o := ⟨some 8, .call { callee := .value (.func 17), args := #[.const (.int .i64 3), .const (.int .i64 4), .const (.int .i64 9), .tmp 7], argTypes := #[3, 3, 3, 42] }, 25, "law.go:21", #[⟨1, .data⟩], none⟩) rfl (fun K' hK => ?_) AllReadyH.nil
        go_simp
        go_at_call 17; refine (RSealed_any B3 5 c3 (frBytes []) 3 4 9 xL (R3.out.1.below (Nat.le_refl _) BW.out) R3.out.2 (by omega) (by omega) (by omega)).mono ?_; rintro e xS ⟨lvS, vsS, DS, rfl, hpS, _⟩
        rw [live18_sec] at hpS
        have hbS : Below xL.heap.size xL xS := hpS.bel
        have HBS : Hid (w3.heap.size <= xL.heap.size) := hi_ BW.out.size
        have NE : Hid (lvS.ownBlock ≠ some mb) := hi_ (fun e => by have h1 := (hpS.own_lt e).1; have h2 := rd_lt RM.out (by decide); omega)
        have NT : Hid (lvS.ownBlock ≠ some tb) := hi_ (fun e => by have h1 := (hpS.own_lt e).1; have h2 := TA.out.lt; omega)
        replace BW := hi_ (BW.out.trans (hbS.mono BW.out.size))
        replace RM := hi_ (RM.out.below (Nat.le_refl _) hbS)
        replace VL := hi_ (VL.out.below hbS)
        replace TA := hi_ (TA.out.under hbS)
        have PS := hi_ hpS
        clear hpS hbS
        refine hK.out _ _ ⟨(K3.out.next BW.out).c0, (K3.out.next BW.out).c1, (K3.out.next BW.out).c2, (K3.out.next BW.out).c3, (K3.out.next BW.out).c4⟩ (fun hHeld => ?_)
        clear hK K'
        try simp only [Act.put, sA_, sB_, sC_]
        refine wpAnyH_ready (rs := [5]) (by kernel_rfl) (by simp) ?_
        refine AllReadyH.cons (o := ⟨some 11, .call { callee := .builtin .append, args := #[.tmp 8, .tmp 10], argTypes := #[25, 25] }, 25, "law.go:21", #[⟨2, .data⟩, ⟨4, .data⟩, ⟨2, .chain⟩], none⟩) rfl (fun K' hK => ?_) AllReadyH.nil
        refine step_appX (K := fun _ => True) rowsT rfl (.tmp 8) (.tmp 10) rfl xL.heap.size lvS 1 vsS rfl PS.out.gr.ow (some ⟨lb, 0, none⟩) 1 1 [.slice (some ⟨mb, 0, none⟩) 512 512] rfl VL.out (fun u hu => by simp at hu; rw [hu]; rfl) (by omega) (by decide) PS.out.bel.size ?_; intro v9 xP ho9 hg9 hv9
        obtain ⟨A9, c9, rfl, _, _, _⟩ := own_vrow ho9
        obtain ⟨vs9, D9, hP9, _⟩ := PS.out.putG (K := fun y => y = mb) (Below.refl _ _) RM.out (Nat.le_refl _) (fun b o e _ => by injection e with e; injection e with e1; exact e1.symm) (fun y hy => by rw [hy]; exact NE.out) ho9 hg9 hv9
        have hbP : Below w3.heap.size w3 xP := BW.out.grown hg9 BW.out.size (fun k hk => Nat.le_trans HBS.out (PS.out.own_lt hk).1)
        replace TA := hi_ (TA.out.block (hg9.block tb TA.out.lt (fun e => NT.out e.symm)))
        replace BW := hi_ hbP
        have PP : Hid (PcG xL xP (.slice A9 2 c9) live18_l vs9 D9) := hi_ hP9
        clear ho9 hg9 hv9 hP9 hbP PS RM VL NE HBS
        clear NT
        refine hK.out _ _ ⟨(K3.out.next BW.out).c0, (K3.out.next BW.out).c1, (K3.out.next BW.out).c2, (K3.out.next BW.out).c3, (K3.out.next BW.out).c4⟩ (fun hHeld => ?_)
        clear hK K'
        try simp only [Act.put, sA_, sB_, sC_]
        refine wpAnyH_ready (rs := [6]) (by kernel_rfl) (by simp) ?_
        refine AllReadyH.cons (o := ⟨some 12, .call { callee := .value (.func 11), args := #[.tmp 6, .tmp 11, .const (.int .i64 4), .const (.int .i64 2), .const (.int .i64 9)], argTypes := #[24, 25, 3, 3, 3] }, 33, "law.go:21", #[⟨0, .data⟩, ⟨5, .data⟩, ⟨5, .chain⟩], none⟩) rfl (fun K' hK => ?_) AllReadyH.nil
        go_simp
        obtain ⟨A8, c8, he8, _, _, hv8⟩ := PP.out.done
        have he9 : A9 = A8 := by injection he8
        subst he9
        have htb := TA.out.lt
        go_at_call 11; refine (LScan_ok 2 4 1 1 none 0 0 [] A9 2 c9 live18_l (by omega) (fun k hk => by cases hk) (by decide) 4 2 9 xP ⟨KRd.nil _ _, hv8⟩).mono ?_; rintro e xC ⟨bs, TT, EE, QQ, RA, rn, rc, rfl, hsc, hvc, hrc, _, hbC⟩
        rw [live18_eff] at hsc
        obtain ⟨hbs, rfl, rfl, rfl⟩ := live18_scn.det hsc
        subst hbs
        have hrn : 1 = rn := hvc.len
        subst hrn
        replace BW := hi_ (BW.out.trans (hbC.mono BW.out.size))
        replace TA := hi_ (TA.out.under hbC)
        replace PP := hi_ (PP.out.below hbC)
        have CC : Hid (PcsV (fun y => xP.heap.size <= y) xC RA 1 [frBytes []]) := hi_ hvc
        have HCT : Hid (tb < xP.heap.size) := hi_ htb
        clear PP hsc hvc hv8 hbC
        replace CC : Hid (PcsV (fun y => tb < y) xC RA 1 [frBytes []]) := hi_ (PcsV.mono CC.out (fun y hy => Nat.lt_of_lt_of_le HCT.out hy))
        clear HCT htb
        refine hK.out _ _ ⟨(K3.out.next BW.out).c0, (K3.out.next BW.out).c1, (K3.out.next BW.out).c2, (K3.out.next BW.out).c3, (K3.out.next BW.out).c4⟩ (fun hHeld => ?_)
        clear hK K'
        try simp only [Act.put, sA_, sB_, sC_]
        replace CC : Hid (PcsV (fun y => y ≠ tb) xC RA 1 [frBytes []]) := hi_ (PcsV.mono CC.out (fun y hy => Nat.ne_of_gt hy))
        generalize xC = zW at BW CC TA hHeld ⊢
  all_goals
    refine wpAnyH_ready (rs := [8]) (by kernel_rfl) (by simp) ?_
    refine AllReadyH.cons (o := ⟨none, .store 33 (.tmp 3) (.tmp 12), 0, "law.go:21", #[⟨7, .data⟩, ⟨6, .data⟩, ⟨6, .chain⟩, ⟨0, .phase⟩, ⟨1, .phase⟩, ⟨2, .phase⟩, ⟨3, .phase⟩, ⟨4, .phase⟩, ⟨5, .phase⟩, ⟨6, .phase⟩, ⟨7, .phase⟩], none⟩) rfl (fun K' hK => ?_) AllReadyH.nil
    refine step_stS (cs' := #[.slice RA 1 rc, .int .i64 5, .int .i64 3, .int .i64 10]) tlT rfl rfl (by simp [Value.oneCell']) rfl (.tmp 3) (.tmp 12) rfl rfl rfl TA.out ?_; intro xT hRT hFT
    have htlt := HTB.out
    have hbT : Below w3.heap.size w3 xT := BW.out.trans (hFT.toBelow (fun x e => by rw [e]; exact htlt) BW.out.size)
    have CT : Hid (PcsV (fun y => y ≠ tb) xT RA 1 [frBytes []]) := hi_ (PcsV.mono (PcsV.stays (PcsV.lt CC.out) ⟨hFT.size, fun y hy => hFT.block y hy.2 hy.1⟩) (fun y hy => hy.1))
    have RT := hi_ hRT
    replace BW := hi_ hbT
    clear hRT hFT htlt hbT
    refine hK.out _ _ ⟨(K3.out.next BW.out).c0, (K3.out.next BW.out).c1, (K3.out.next BW.out).c2, (K3.out.next BW.out).c3, (K3.out.next BW.out).c4⟩ (fun hHeld => ?_)
    clear hK K'
    try simp only [Act.put]
    refine wpAnyH_done (by kernel_rfl) ?_ _
    refine NoPanic.normal ?_
    clear hHeld
    have t0 : xT.cell? ⟨tb, 0, none⟩ = some (.slice RA 1 rc) := RT.out.at_ 0
    have t1 : xT.cell? ⟨tb, 1, none⟩ = some (.int .i64 5) := RT.out.at_ 1
    have t2 : xT.cell? ⟨tb, 2, none⟩ = some (.int .i64 3) := RT.out.at_ 2
    have t3 : xT.cell? ⟨tb, 3, none⟩ = some (.int .i64 10) := RT.out.at_ 3
    obtain ⟨cb, co, EA, em, ec, hRA, hclt, hccell, hcr, hce, _⟩ := PcsV.cell CT.out (j := 0) rfl
    subst hRA
    have hem : em = 5 := by have := hcr.1; rw [live18_len] at this; omega
    subst hem
    have hccell : xT.cell? ⟨cb, co, none⟩ = some (.slice EA 5 ec) := hccell
    have CSM := hi_ (Same_any EA B3 5 ec 5 c3 (frBytes []) (frBytes []) xT hcr (R3.out.1.below (Nat.le_refl _) BW.out))
    rw [decide_eq_true rfl] at CSM
    have BT := BW
    clear hcr BW hclt
    go_wp2_with (go_at_call 24; refine CSM.out.mono ?_; rintro e w' ⟨rfl, hw'⟩; subst hw')
    go_ret
    exact ⟨rfl, BE3.out.trans (BT.out.mono BE3.out.size)⟩
end Go.Proofs.YthabmlbmlncbmaaGreat
