/- TbT, CmSR -/
import Derived.Test.YtnjfogeefdmlkaaDoorQl9
import Derived.Deep.RegionHeld3
namespace Go.Proofs.YtnjfogeefdmlkaaDoor
open Go.RowKit
set_option maxRecDepth 20000
set_option linter.unusedSimpArgs false

theorem ofL_listZ {s : Nat} (hs : s < 18446744073709551616) : ofL (listZ s) 64 = s :=
  eq_of_bits (ofL_lt _ 64) hs fun i hi => by
    rw [ofL_bit]
    by_cases hb : s.testBit i = true
    · rw [hb]
      exact decide_eq_true ⟨hi, mem_listZ.2 ⟨hi, hb⟩⟩
    · rw [Bool.eq_false_iff.2 hb]
      exact decide_eq_false fun h => hb (mem_listZ.1 h.2).2
theorem IntsV.ird {K : Nat → Prop} {w : World} {A : Option Addr} {n : Nat} {xs : List Int} (h : IntsV K w A n xs) : IRd w A n xs :=
  ⟨h.len, fun hn => by
    obtain ⟨b, o, e, hlt, _⟩ := IntsV.at_ h hn
    refine ⟨b, o, e, hlt, fun j hj => ?_⟩
    obtain ⟨b', o', e', _, hc⟩ := IntsV.at_ h (j := j) (by have := h.len; omega)
    rw [e] at e'
    injection e' with e'
    injection e' with e1 e2
    subst e1 e2
    exact hc⟩

section
variable {K : Nat → Prop} {w : World} {N : Nat} {tag : Nat → Nat} {p m : Nat} {v : Value} {q : Nat → Nat} {sg : Nat} {t : Tb} {d : Rt}
set_option maxHeartbeats 4000000 in
theorem tsame_any (h : TbA w N tag p m v q sg t) (hr : RtS K w d t) {comp : Int} (hk : In64 comp) :
    Calls Tryd.prog 19 #[.pointer (some ⟨p, 0, none⟩), .agg d.cs, .int .i64 comp] w fun e w' => e = .returned (.bool true) ∧ Below w.heap.size w w' := by
  have hrn := hr.rn
  have hcn := hr.cn
  obtain ⟨CA, cn, cc, SA, sn, sc, RA, rn, rc⟩ := d
  simp only at hrn hcn
  have hil : t.ids.length = rn := by rw [t.ids_len]; omega
  have hrn1 : rn ≤ 1024 := by rw [hrn]; exact h.ok.n
  have hcn1 : cn ≤ 64 := by rw [hcn]; exact h.ok.cn
  have hofl : ofL (t.cs.map (·.1)) 64 = sg := by rw [← h.sig]; exact ofL_listZ h.sgl
  obtain ⟨w1, hw1⟩ : ∃ w1, w1 = w.alloc (.cells #[.slice CA cn cc, .slice SA sn sc, .slice RA rn rc] 40) := ⟨_, rfl⟩
  have hb1 : Below w.heap.size w w1 := by rw [hw1]; exact (Below.refl _ _).alloc (Nat.le_refl _) _
  have HR1 := Lib.hid (show Rec 40 w1 w.heap.size #[.slice CA cn cc, .slice SA sn sc, .slice RA rn rc] by rw [hw1]; exact Rec.new _ _ _)
  obtain ⟨cb, cf, hcol⟩ : ∃ cb cf, t.col comp = (cb, cf) := ⟨_, _, rfl⟩
  have HA := Lib.hid h
  have HRt := Lib.hid hr
  have HB1 := Lib.hid hb1
  have HCOL := Lib.hid hcol
  have HOFL := Lib.hid hofl
  have HIL := Lib.hid hil
  clear h hr hb1 hcol hofl hil hrn hcn
  show Calls _ _ #[.pointer (some ⟨p, 0, none⟩), .agg #[.slice CA cn cc, .slice SA sn sc, .slice RA rn rc], .int .i64 comp] w _
  go_enter Tryd.func19, Tryd.ntmps19
  go_wp2_with (rw [← hw1]; clear hw1)
  refine (TCol_go (HA.out.below HB1.out) hk).mono ?_
  rw [HCOL.out]
  rintro e w2 ⟨BA, bn, bc, rfl, hV, hb2⟩
  simp only at hV
  have HV := Lib.hid hV
  have HB2 := Lib.hid (HB1.out.trans (hb2.mono HB1.out.size))
  have HR2 := Lib.hid (HR1.out.under hb2)
  clear hV hb2 HR1 HB1
  go_wp2_with (with_reducible refine wpList_ldS rtabT rfl rfl (.tmp 4) rfl rfl HR2.out ?_)
  refine (RCol_any (HRt.out.below HB2.out) HA.out.ok comp).mono ?_
  rw [HCOL.out]
  rintro e w3 ⟨DA, dn, dc, rfl, hD, hb3⟩
  simp only at hD
  obtain ⟨_, _, _, e1, hrb, _⟩ := HV.out.below hb3
  injection e1 with e1 e2 e3
  subst e1 e2 e3
  have hld : Below w3.heap.size w3 w3.drew := (Below.refl _ _).drew
  have hb3w := HB2.out.trans (hb3.mono HB2.out.size)
  have hA3 := HA.out.below hb3w
  have hR3 := HR2.out.under hb3
  have hRt3 := HRt.out.below hb3w
  have SS0 : ∀ W, Below w3.heap.size w3 W → (W.cell? ⟨w.heap.size, 0, none⟩ = some (.slice CA cn cc) ∧ W.cell? ⟨w.heap.size, 1, none⟩ = some (.slice SA sn sc) ∧ W.cell? ⟨w.heap.size, 2, none⟩ = some (.slice RA rn rc)) := fun W hW => by
    have := hR3.under hW
    exact ⟨this.at_ 0, this.at_ 1, this.at_ 2⟩
  have CSIG := Lib.hid (show ∀ W, Below w3.heap.size w3 W → Calls Tryd.prog 18 #[.pointer (some ⟨p, 0, none⟩)] W fun e w' => e = .returned (.int .u64 sg) ∧ W = w' from fun W hW => tsig_any (hA3.below hW).i)
  have COF := Lib.hid (show ∀ W, Below w3.heap.size w3 W → Calls Tryd.prog 30 #[.slice CA cn cc] W fun e w' => e = .returned (.int .u64 sg) ∧ W = w' from fun W hW => by
    have := ROf_any CA cn cc _ W (IntsV.ird (hRt3.below hW).c) (by omega)
    rw [HOFL.out] at this
    exact this)
  have CLEN := Lib.hid (show ∀ W, Below w3.heap.size w3 W → Calls Tryd.prog 16 #[.pointer (some ⟨p, 0, none⟩)] W fun e w' => e = .returned (.int .i64 rn) ∧ W = w' from fun W hW => by
    have := tlen_any (hA3.below hW).i
    rw [HIL.out] at this
    exact this)
  have CIDS := Lib.hid (show ∀ W, Below w3.heap.size w3 W → Calls Tryd.prog 17 #[.pointer (some ⟨p, 0, none⟩)] W fun e w' => ∃ A c, e = .returned (.slice A rn c) ∧ IdsV (fun x => W.heap.size ≤ x ∧ x < w'.heap.size) w' A rn t.ids ∧ Below W.heap.size W w' from fun W hW => by
    have := TIDs_any (hA3.below hW).i (by rw [HIL.out]; omega)
    rw [HIL.out] at this
    exact this)
  have CRID := Lib.hid (show ∀ W, Below w3.heap.size w3 W → Calls Tryd.prog 41 #[.agg #[.slice CA cn cc, .slice SA sn sc, .slice RA rn rc]] W fun e w' => ∃ A c, e = .returned (.slice A rn c) ∧ IdsV (fun x => W.heap.size ≤ x ∧ x < w'.heap.size) w' A rn t.ids ∧ Below W.heap.size W w' from fun W hW => by
    refine (RIDs_any (hRt3.below hW) HA.out.ok.n).mono ?_
    rintro e w' ⟨A, n, c, rfl, hI, hB⟩
    have hl := hI.len
    have : n = rn := by rw [← HIL.out, t.ids_len]; simpa using hl.symm
    subst this
    exact ⟨A, c, rfl, hI, hB⟩)
  have CSM := Lib.hid (show ∀ W, Below w3.heap.size w3 W → Calls Tryd.prog 24 #[.slice BA bn bc, .slice DA dn dc] W fun e w' => e = .returned (.bool true) ∧ W = w' from fun W hW => Same_yes BA DA bn bc dn dc cb W (hrb.below (Nat.le_refl _) hW) (hD.below (Nat.le_refl _) hW))
  have SS := Lib.hid SS0
  have BD := Lib.hid hld
  have S0 := SS0 _ hld
  have HB3 := Lib.hid hb3w
  clear hD hb3 hrb hld hb3w hA3 hR3 hRt3 SS0 HR2 HV HB2
  go_wp2
  go_region_held3 (fun W => W.cell? ⟨w.heap.size, 0, none⟩ = some (.slice CA cn cc) ∧ W.cell? ⟨w.heap.size, 1, none⟩ = some (.slice SA sn sc) ∧ W.cell? ⟨w.heap.size, 2, none⟩ = some (.slice RA rn rc)) (first | exact SX | exact SJ | exact SI | exact S0)
    ((first
      | (go_at_call 18; refine (CSIG.out _ (by first | exact BX.out | exact BJ.out | exact BI.out | exact BD.out)).mono ?_; rintro e w7 ⟨rfl, rfl⟩)
      | (go_at_call 30; refine (COF.out _ (by first | exact BX.out | exact BJ.out | exact BI.out | exact BD.out)).mono ?_; rintro e w7 ⟨rfl, rfl⟩)
      | (go_at_call 16; refine (CLEN.out _ (by first | exact BX.out | exact BJ.out | exact BI.out | exact BD.out)).mono ?_; rintro e w7 ⟨rfl, rfl⟩)
      | (go_at_call 24; refine (CSM.out _ (by first | exact BX.out | exact BJ.out | exact BI.out | exact BD.out)).mono ?_; rintro e w7 ⟨rfl, rfl⟩)
      | (go_at_call 17; refine (CIDS.out _ BD.out).mono ?_; rintro e wI ⟨IA, ic, rfl, hI, hbI⟩; have BI := Lib.hid (BD.out.trans (hbI.mono BD.out.size)); have HI := Lib.hid (show ∀ W, Below wI.heap.size wI W → IdsV _ W IA rn t.ids from fun W hW => IdsV.below hI hW); have RI := Lib.hid (Below.refl wI.heap.size wI); have SI := SS.out _ BI.out; clear hI hbI)
      | (go_at_call 41; refine (CRID.out _ BI.out).mono ?_; rintro e wJ ⟨JA, jc, rfl, hJ, hbJ⟩; have BJ := Lib.hid (BI.out.trans (hbJ.mono BI.out.size)); have HJ := Lib.hid hJ; have HIJ := Lib.hid (HI.out _ hbJ); have SJ := SS.out _ BJ.out; clear hJ hbJ)
      | (go_at_call 41; refine (CRID.out _ BD.out).mono ?_; rintro e wI ⟨JA, jc, rfl, hJ, hbJ⟩; have BI := Lib.hid (BD.out.trans (hbJ.mono BD.out.size)); have HI := Lib.hid (show ∀ W, Below wI.heap.size wI W → IdsV _ W JA rn t.ids from fun W hW => IdsV.below hJ hW); have RI := Lib.hid (Below.refl wI.heap.size wI); have SI := SS.out _ BI.out; clear hJ hbJ)
      | (go_at_call 17; refine (CIDS.out _ BI.out).mono ?_; rintro e wJ ⟨IA, ic, rfl, hI, hbI⟩; have BJ := Lib.hid (BI.out.trans (hbI.mono BI.out.size)); have HJ := Lib.hid hI; have HIJ := Lib.hid (HI.out _ hbI); have SJ := SS.out _ BJ.out; clear hI hbI)
      | (go_at_call 40; first | (refine (SameIDs_yes IA JA rn ic jc t.ids wJ HIJ.out HJ.out (by omega)).mono ?_; rintro e wX ⟨rfl, hbX⟩; have BX := Lib.hid (BJ.out.trans (hbX.mono BJ.out.size)); have SX := SS.out _ BX.out; clear hbX) | (refine (SameIDs_yes IA JA rn ic jc t.ids wJ HJ.out HIJ.out (by omega)).mono ?_; rintro e wX ⟨rfl, hbX⟩; have BX := Lib.hid (BJ.out.trans (hbX.mono BJ.out.size)); have SX := SS.out _ BX.out; clear hbX))))
  go_wp2
  go_ret
  exact ⟨rfl, HB3.out.trans (BX.out.mono HB3.out.size)⟩
end
end Go.Proofs.YtnjfogeefdmlkaaDoor
namespace Go.Proofs.YtnjfogeefdmlkaaDoor
open Go.RowKit
set_option linter.unusedVariables false

section
variable (lg pg en gn : Int) (A : Option Addr) (n cap : Nat) (ks : List Kd) (w : World)

theorem RSize_any (h : KRd w A n ks) (hn : n ≤ 1000000) (k : Int) :
    Calls Tryd.prog 52 #[cv lg pg en gn A n cap, .int .i64 k] w fun e w' => e = .returned (.tuple #[.int .i64 (sizeK ks k).1, .bool (sizeK ks k).2]) ∧ Below w.heap.size w w' := by
  obtain ⟨w1, hw1⟩ : ∃ w1, w1 = w.alloc (.cells (cc lg pg en gn A n cap) 24) := ⟨_, rfl⟩
  have C1 := CAt.new h lg pg en gn cap
  rw [← hw1] at C1
  obtain ⟨g, hg⟩ : ∃ g, g = w.heap.size := ⟨_, rfl⟩
  rw [← hg] at C1
  have c4 := C1.c4
  have hl := h.1
  have K1 := Lib.hid C1
  have HG := Lib.hid hg
  clear h hg C1
  by_cases hk0 : k < 0
  · have e1 : sizeK ks k = (0, false) := sizeK_no (by omega)
    rw [e1]
    clear e1
    go_enter Tryd.func52, Tryd.ntmps52
    go_wp2_with (rw [← hw1, ← HG.out]; clear hw1)
    go_ret2
    exact ⟨rfl, K1.out.bel⟩
  · by_cases hk1 : k < n
    · obtain ⟨j, rfl⟩ : ∃ j : Nat, k = (j : Int) := ⟨k.toNat, by omega⟩
      obtain ⟨b, o, s', z, rfl, _, k0, k1, hl', hk⟩ := K1.out.rd.at_ (show j < n by omega)
      rw [sizeK_yes hl' hk]
      clear hk
      go_enter Tryd.func52, Tryd.ntmps52
      go_wp2_with (rw [← hw1, ← HG.out]; clear hw1)
      go_ret2
      exact ⟨rfl, K1.out.bel⟩
    · have e1 : sizeK ks k = (0, false) := sizeK_no (by omega)
      rw [e1]
      clear e1
      go_enter Tryd.func52, Tryd.ntmps52
      go_wp2_with (rw [← hw1, ← HG.out]; clear hw1)
      go_ret2
      exact ⟨rfl, K1.out.bel⟩
end
end Go.Proofs.YtnjfogeefdmlkaaDoor
