/- EcLs -/
import Derived.Test.YtaoinkjjmakhaaaGreatDoorQl1
import Derived.Test.YtaoinkjjmakhaaaGreatDoorQl22
namespace Go.Proofs.YtaoinkjjmakhaaaGreatDoor
open Go.RowKit
set_option maxRecDepth 20000
set_option linter.unusedVariables false
set_option linter.unusedSimpArgs false
section
variable (lg pg en gn : Int) (A : Option Addr) (n cap : Nat) (ks : List Kd) (GA : Option Addr) (gN gc : Nat) (gs : List Int) (FA : Option Addr) (fN fc : Nat) (fs : List Int) (LA : Option Addr) (ln lc : Nat) (w : World)
set_option maxHeartbeats 8000000 in
theorem RLoadE_any {xs : List Rw} (h : KRd w A n ks) (hn : n <= 1000000) (hL : Lens ks) (hR : (Cf.mk lg pg en gn ks).Right) (hg : IRd w GA gN gs) (hf : IRd w FA fN fs) (hgn : gN <= 60) (hfn : fN <= 60) (hgc : gN <= gc) (hfc : fN <= fc) (hok : LdOk (ldNs en gn gs fs))
  (hx : RowsRd w LA ln xs) (hln : ln <= 40) (hfew : ∀ r ∈ xs, RwFew r) :
  Calls Tryz.prog 20 #[cv lg pg en gn A n cap, .slice GA gN gc, .slice FA fN fc, .slice LA ln lc] w (RLdA GA gN gc FA fN fc n (zsK ks) (ldNs en gn gs fs) xs w) := by
 obtain ⟨w1, hw1⟩ : ∃ w1, w1 = (w.alloc (.cells (cc lg pg en gn A n cap) 24)).alloc (.cells (stC none 0 0 none 0 0 none 0 0) 41) := ⟨_, rfl⟩
 have hb1 : Below w.heap.size w w1 := by rw [hw1]; exact ((Below.refl _ _).alloc (Nat.le_refl _) _).alloc (by simp) _
 have hs1 : w1.heap.size = w.heap.size + 2 := by rw [hw1]; simp
 have r1 : Rec 24 w1 w.heap.size (cc lg pg en gn A n cap) := by rw [hw1]; exact (Rec.new w _ _).under ((Below.refl _ _).alloc (Nat.le_refl _) _)
 have r2 : Rec 41 w1 (w.heap.size + 1) (stC none 0 0 none 0 0 none 0 0) := by
  have h := Rec.new (w.alloc (.cells (cc lg pg en gn A n cap) 24)) 41 (stC none 0 0 none 0 0 none 0 0)
  rw [World.size_alloc, <- hw1] at h
  exact h
 have CR := RRight_any lg pg en gn A n cap ks w1 (h.below hb1) hn hL
 rw [decide_eq_true hR] at CR
 have CR := hi_ CR
 obtain ⟨s, hs⟩ : ∃ s, s = ldNs en gn gs fs := ⟨_, rfl⟩
 have hsg : s.g = gs := by rw [hs]; rfl
 rw [<- hs] at hok ⊢
 have CI : Hid (∀ W, Below w1.heap.size w1 W -> Calls Tryz.prog 53 #[.int .i64 en, .int .i64 gn, .slice GA gN gc, .slice FA fN fc] W fun e w' => e = .returned (.tuple #[.agg #[.int .i64 (nears en 1024), .int .i64 (nears gn 1073741824), .slice GA gN gc, .slice FA fN fc], .int .i64 0]) /\ Below W.heap.size W w') := hi_ (fun W hW => by
  have hwW := hb1.trans (hW.mono hb1.size)
  refine (RLoad_any en gn GA gN gc gs FA fN fc fs W (hg.below hwW) (hf.below hwW) (by omega) (by omega) hfc).mono ?_
  rw [hs] at hok
  rintro e w' (⟨_, rfl, hb⟩ | ⟨hno, _⟩)
  ·exact ⟨rfl, hb⟩
  ·exact absurd hok hno)
 have HXS : Hid (xs.length = ln) := hi_ hx.1
 have HRW := hi_ (And.intro hx hfew)
 have HKR := hi_ (And.intro h hn)
 have HB := hi_ (And.intro hb1 hs1)
 have R1 := hi_ r1
 have R2 := hi_ r2
 have HS := hi_ hs
 have HSG := hi_ hsg
 have HGF := hi_ (And.intro hg hf)
 have k0 := r1.at_ 0
 have k1 := r1.at_ 1
 have k2 := r1.at_ 2
 have k3 := r1.at_ 3
 have k4 := r1.at_ 4
 have HOK := hi_ hok
 clear h hb1 r1 r2 hR hg hf hok hx hs1 hL hs hsg hfew hn
 go_enter Tryz.func20, Tryz.ntmps20
 go_wp2_with (first
  | (rw [<- hw1]; clear hw1)
  | (go_at_call 7; refine CR.out.mono ?_; rintro e w2 ⟨rfl, hb2⟩; have e2 := (R1.out.under hb2).at_ 2; have e3 := (R1.out.under hb2).at_ 3; have HB2 := hi_ hb2; clear hb2 k0 k1 k2 k3 k4)
  | (go_at_call 53; refine (CI.out _ HB2.out).mono ?_; rintro e w3 ⟨rfl, hb3⟩
     obtain ⟨w4, hw4⟩ : ∃ w4, w4 = w3.alloc (.cells #[.int .i64 (nears en 1024), .int .i64 (nears gn 1073741824), .slice GA gN gc, .slice FA fN fc] 123) := ⟨_, rfl⟩
     have R4 := hi_ (show Rec 123 w4 w3.heap.size #[.int .i64 (nears en 1024), .int .i64 (nears gn 1073741824), .slice GA gN gc, .slice FA fN fc] by rw [hw4]; exact Rec.new w3 _ _)
     have HB4 := hi_ (show Below w1.heap.size w1 w4 from (HB2.out.trans (hb3.mono HB2.out.size)).trans ((show Below w3.heap.size w3 w4 by rw [hw4]; exact (Below.refl _ _).alloc (Nat.le_refl _) _).mono (HB2.out.trans (hb3.mono HB2.out.size)).size))
     clear hb3 e2 e3)
  | (rw [<- hw4]; clear hw4))
 go_loopw [12, 13] (fun av iv wr => ∃ (j : Nat) (vs : List Value) (D : Nat -> Prop), j <= ln /\ iv = .int .i64 j /\ Hid (∀ i r, i < j -> xs[i]? = some r -> RowIn n (zsK ks) xs i r) /\ Hid (Gr EE 95 3 wr w4.heap.size av vs D (entsTo n (zsK ks) xs j)) /\ Hid (Below w4.heap.size w4 wr) /\ Hid ((entsTo n (zsK ks) xs j).length <= j * 60)) (fun _ iv _ => ln - (intOf iv).toNat)
 case atStart => exact ⟨0, [], fun _ => False, Nat.zero_le _, rfl, hi_ (fun _ _ h => absurd h (Nat.not_lt_zero _)), hi_ (Gr.start (World.ownsRow_nil _ _ _ _) (Nat.le_refl _)), hi_ (Below.refl _ _), hi_ (Nat.le_refl _)⟩
 case round =>
  obtain ⟨j, vs, D, hj, rfl, hrows, hG, hB4, hEL⟩ := hrel
  have hB : Below w1.heap.size w1 wr := HB4.out.trans (hB4.out.mono HB4.out.size)
  by_cases hjn : j < ln
  ·obtain ⟨r, hr⟩ : ∃ r, xs[j]? = some r := ⟨_, List.getElem?_eq_getElem (by rw [HXS.out]; exact hjn)⟩
   obtain ⟨b, o, hLA, hlt, hall⟩ := HRW.out.1.at_ hr
   obtain ⟨IA, ic, CA, cx, hRL⟩ := hall j r hr
   have hwr : Below w.heap.size w wr := HB.out.1.trans (hB.mono HB.out.1.size)
   obtain ⟨h0, h1, h2⟩ := hRL.below hwr hlt
   have hprev : ∀ jj, j = jj + 1 -> ∃ ps : Nat, prevS xs j = some ps /\ wr.cell? ⟨b, o + jj * 3, none⟩ = some (.int .u64 (ps : Int)) := fun jj e => by
    obtain ⟨rp, hrp⟩ : ∃ rp, xs[jj]? = some rp := ⟨_, List.getElem?_eq_getElem (by rw [HXS.out]; omega)⟩
    obtain ⟨_, _, _, _, hRp⟩ := hall jj rp hrp
    exact ⟨rp.1, by rw [e]; show (xs[jj]?).map (·.1) = _; rw [hrp]; rfl, (hRp.below hwr hlt).1⟩
   have hmem := List.mem_of_getElem? hr
   have CT : Hid (∀ W, Below w.heap.size w W -> Calls Tryz.prog 54 #[cv lg pg en gn A n cap, .int .u64 (r.1 : Nat), .slice IA r.2.1.length ic, .slice CA r.2.2.length cx] W (RTLd (· < w.heap.size) n ks r W)) := hi_ (fun W hW => RTLoad_at lg pg en gn A n cap ks w W HKR.out.1 HKR.out.2 hW hRL (HRW.out.1.2.2.1 r hmem).1 (HRW.out.2 r hmem))
   have hf60 := (HRW.out.2 r hmem).1
   obtain ⟨sg, ids, cols⟩ := r
   simp only at h0 h1 h2 hf60
   obtain ⟨m, hm⟩ : ∃ m, m = ids.length := ⟨_, rfl⟩
   obtain ⟨q, hq⟩ : ∃ q, q = cols.length := ⟨_, rfl⟩
   rw [<- hm] at h1 hf60
   rw [<- hq] at h2
   have HLA := hi_ hLA
   subst hLA
   have HMQ := hi_ (And.intro hm hq)
   have HS8 : Hid (∀ W, Below wr.heap.size wr W -> W.cell? ⟨w.heap.size, 0, none⟩ = some (.int .i64 lg) /\ W.cell? ⟨w.heap.size, 1, none⟩ = some (.int .i64 pg) /\ W.cell? ⟨w.heap.size, 2, none⟩ = some (.int .i64 en) /\ W.cell? ⟨w.heap.size, 3, none⟩ = some (.int .i64 gn) /\ W.cell? ⟨w.heap.size, 4, none⟩ = some (.slice A n cap) /\ W.cell? ⟨b, o + j * 3, none⟩ = some (.int .u64 (sg : Int)) /\ W.cell? ⟨b, o + j * 3 + 1, none⟩ = some (.slice IA m ic) /\ W.cell? ⟨b, o + j * 3 + 2, none⟩ = some (.slice CA q cx)) := hi_ (fun W hW => by
    have hc := (R1.out.under (hB.trans (hW.mono hB.size)))
    have hblt : b < wr.heap.size := Nat.lt_of_lt_of_le hlt hwr.size
    exact ⟨hc.at_ 0, hc.at_ 1, hc.at_ 2, hc.at_ 3, hc.at_ 4, (hW.cell (p := ⟨b, o + j * 3, none⟩) hblt).trans h0, (hW.cell (p := ⟨b, o + j * 3 + 1, none⟩) hblt).trans h1, (hW.cell (p := ⟨b, o + j * 3 + 2, none⟩) hblt).trans h2⟩)
   have HPV : Hid (∀ jj, j = jj + 1 -> ∃ ps : Nat, prevS xs j = some ps /\ ∀ W, Below wr.heap.size wr W -> W.cell? ⟨b, o + jj * 3, none⟩ = some (.int .u64 (ps : Int))) := hi_ (fun jj e => by
    obtain ⟨ps, h1, h2⟩ := hprev jj e
    exact ⟨ps, h1, fun W hW => (hW.cell (p := ⟨b, o + jj * 3, none⟩) (Nat.lt_of_lt_of_le hlt hwr.size)).trans h2⟩)
   have HH := hi_ (And.intro hB (And.intro hr (And.intro hwr hlt)))
   have s10 := HS8.out wr.drew ((Below.refl _ _).drew)
   have hs45 : w1.heap.size <= w4.heap.size := HB4.out.size
   clear hr hall hRL h0 h1 h2 hprev hmem hm hq hB hlt
   go_upto_region 10 with fail
   go_cut [14, 15] from 40 to 99 (fun av bv wl => ∃ (gx : Nat) (f : Int), av = .pointer (some ⟨gx, 0, none⟩) /\ bv = .int .i64 f /\ wr.heap.size <= gx /\ Below wr.heap.size wr wl /\ ((RowFit n (zsK ks) (sg, ids, cols) /\ f = 0 /\ ∃ (d : Rt) (Kd2 : Nat -> Prop), Rec 127 wl gx d.cs /\ EntsV Kd2 wl d.RA d.rn (rowT n (zsK ks) (sg, ids, cols)).rows /\ ∀ y, Kd2 y -> y < w.heap.size \/ wr.heap.size <= y) \/ (¬ RowFit n (zsK ks) (sg, ids, cols) /\ f = 11)))
   case first =>
    by_cases hfit : RowFit n (zsK ks) (sg, ids, cols)
    ·have CT2 : Hid (∀ W, Below w.heap.size w W -> Calls Tryz.prog 54 #[cv lg pg en gn A n cap, .int .u64 (sg : Nat), .slice IA m ic, .slice CA q cx] W fun e w' => Below W.heap.size W w' /\ ∃ d : Rt, e = .returned (.tuple #[.agg d.cs, .int .i64 0]) /\ RtS (fun y => y < w.heap.size \/ (W.heap.size <= y /\ y < w'.heap.size)) w' d (rowT n (zsK ks) (sg, ids, cols))) := hi_ (fun W hW => by
      rw [HMQ.out.1, HMQ.out.2]
      refine (CT.out W hW).mono ?_
      rintro e w' ⟨hb, ⟨_, d, h1, h2⟩ | ⟨hno, _⟩⟩
      ·exact ⟨hb, d, h1, h2⟩
      ·exact absurd hfit hno)
     have HFIT := hi_ hfit
     clear CT hfit
     refine wp_region_noPanic ?_
     refine wp_region_held_drew (S := fun W => W.cell? ⟨w.heap.size, 0, none⟩ = some (.int .i64 lg) /\ W.cell? ⟨w.heap.size, 1, none⟩ = some (.int .i64 pg) /\ W.cell? ⟨w.heap.size, 2, none⟩ = some (.int .i64 en) /\ W.cell? ⟨w.heap.size, 3, none⟩ = some (.int .i64 gn) /\ W.cell? ⟨w.heap.size, 4, none⟩ = some (.slice A n cap) /\ W.cell? ⟨b, o + j * 3, none⟩ = some (.int .u64 (sg : Int)) /\ W.cell? ⟨b, o + j * 3 + 1, none⟩ = some (.slice IA m ic) /\ W.cell? ⟨b, o + j * 3 + 2, none⟩ = some (.slice CA q cx)) (by kernel_rfl) s10 (fun hHeld => ?_)
     refine tk_ 0 ⟨some 47, .load 24 (.tmp 4), 24, "ref.go:191", #[], none⟩ hHeld ?_
     simp only [Act.put, sA_, sB_, sC_]
     refine tk_ 1 ⟨some 48, .move (.tmp 3), 43, "ref.go:191", #[], none⟩ hHeld ?_
     simp only [Act.put, sA_, sB_, sC_]
     refine tk_ 2 ⟨some 49, .move (.tmp 13), 3, "ref.go:191", #[], none⟩ hHeld ?_
     simp only [Act.put, sA_, sB_, sC_]
     refine tk_ 3 ⟨some 50, .indexAddr 43 (.tmp 48) (.tmp 49), 0, "ref.go:191", #[⟨1, .data⟩, ⟨2, .data⟩], none⟩ hHeld ?_
     simp only [Act.put, sA_, sB_, sC_]
     refine tk_ 4 ⟨some 51, .fieldAddr 100 (.tmp 50) 0, 0, "ref.go:191", #[⟨3, .data⟩], none⟩ hHeld ?_
     simp only [Act.put, sA_, sB_, sC_]
     refine tk_ 5 ⟨some 52, .load 68 (.tmp 51), 68, "ref.go:191", #[⟨4, .data⟩], none⟩ hHeld ?_
     simp only [Act.put, sA_, sB_, sC_]
     refine tk_ 6 ⟨some 53, .move (.tmp 3), 43, "ref.go:191", #[], none⟩ hHeld ?_
     simp only [Act.put, sA_, sB_, sC_]
     refine tk_ 7 ⟨some 54, .move (.tmp 13), 3, "ref.go:191", #[], none⟩ hHeld ?_
     simp only [Act.put, sA_, sB_, sC_]
     refine tk_ 8 ⟨some 55, .indexAddr 43 (.tmp 53) (.tmp 54), 0, "ref.go:191", #[⟨6, .data⟩, ⟨7, .data⟩], none⟩ hHeld ?_
     simp only [Act.put, sA_, sB_, sC_]
     refine tk_ 9 ⟨some 56, .fieldAddr 100 (.tmp 55) 1, 0, "ref.go:191", #[⟨8, .data⟩], none⟩ hHeld ?_
     simp only [Act.put, sA_, sB_, sC_]
     refine tk_ 10 ⟨some 57, .load 66 (.tmp 56), 66, "ref.go:191", #[⟨9, .data⟩], none⟩ hHeld ?_
     simp only [Act.put, sA_, sB_, sC_]
     refine tk_ 11 ⟨some 58, .move (.tmp 3), 43, "ref.go:191", #[], none⟩ hHeld ?_
     simp only [Act.put, sA_, sB_, sC_]
     refine tk_ 12 ⟨some 59, .move (.tmp 13), 3, "ref.go:191", #[], none⟩ hHeld ?_
     simp only [Act.put, sA_, sB_, sC_]
     refine tk_ 13 ⟨some 60, .indexAddr 43 (.tmp 58) (.tmp 59), 0, "ref.go:191", #[⟨11, .data⟩, ⟨12, .data⟩], none⟩ hHeld ?_
     simp only [Act.put, sA_, sB_, sC_]
     refine tk_ 14 ⟨some 61, .fieldAddr 100 (.tmp 60) 2, 0, "ref.go:191", #[⟨13, .data⟩], none⟩ hHeld ?_
     simp only [Act.put, sA_, sB_, sC_]
     refine tk_ 15 ⟨some 62, .load 98 (.tmp 61), 98, "ref.go:191", #[⟨14, .data⟩], none⟩ hHeld ?_
     simp only [Act.put, sA_, sB_, sC_]
     refine wpAnyH_ready (rs := [16, 20]) (by kernel_rfl) (by simp) ?_
     refine AllReadyH.cons (o := ⟨some 63, .call { callee := .value (.func 54), args := #[.tmp 47, .tmp 52, .tmp 57, .tmp 62], argTypes := #[24, 68, 66, 98] }, 128, "ref.go:191", #[⟨0, .data⟩, ⟨5, .data⟩, ⟨10, .data⟩, ⟨15, .data⟩], none⟩) rfl (fun K' hK => ?c1) (AllReadyH.cons (o := ⟨some 14, .alloc 127, 0, "ref.go:191", #[], none⟩) rfl (fun K' hK => ?c2) AllReadyH.nil)
     case' c1 =>
      go_simp
      go_at_call 54; refine (CT2.out wr.drew (hwr.drew)).mono ?_; rintro e wk ⟨hbc, d, rfl, hd⟩
      have bk : Below wr.heap.size wr wk := (Below.refl _ _).drew.trans hbc
      refine hK.out _ _ (HS8.out wk bk) (fun hHeld => ?_)
      clear hK K'
      try simp only [Act.put, sA_, sB_, sC_]
      refine tk_ 17 ⟨some 46, .move (.tmp 63), 128, "ref.go:191", #[⟨16, .data⟩], none⟩ hHeld ?_
      simp only [Act.put, sA_, sB_, sC_]
      refine tk_ 18 ⟨some 64, .extract (.tmp 46) 0, 127, "ref.go:191", #[⟨17, .data⟩], none⟩ hHeld ?_
      simp only [Act.put, sA_, sB_, sC_]
      refine tk_ 19 ⟨some 65, .extract (.tmp 46) 1, 3, "ref.go:191", #[⟨17, .data⟩, ⟨21, .gcOnly .lateStores⟩], none⟩ hHeld ?_
      simp only [Act.put, sA_, sB_, sC_]
      refine wpAnyH_ready (rs := [20]) (by kernel_rfl) (by simp) ?_
      refine AllReadyH.cons (o := ⟨some 14, .alloc 127, 0, "ref.go:191", #[], none⟩) rfl (fun K' hK => ?_) AllReadyH.nil
      go_simp
      obtain ⟨wx, hwx⟩ : ∃ wx, wx = wk.alloc (.cells zT 127) := ⟨_, rfl⟩
      rw [<- hwx]
      have bkx : Below wk.heap.size wk wx := by rw [hwx]; exact (Below.refl _ _).alloc (Nat.le_refl _) _
      have rx : Rec 127 wx wk.heap.size zT := by rw [hwx]; exact Rec.new wk _ _
      have bx : Below wr.heap.size wr wx := bk.trans (bkx.mono bk.size)
      have hd := (RtS.below hd bkx)
      clear hwx
      refine hK.out _ _ (HS8.out wx bx) (fun hHeld => ?_)
      clear hK K'
      try simp only [Act.put, sA_, sB_, sC_]
      obtain ⟨gx, hge⟩ : ∃ g, g = wk.heap.size := ⟨_, rfl⟩
      have hgx : wr.heap.size <= gx := by rw [hge]; exact bk.size
      rw [<- hge] at rx ⊢
      obtain ⟨Kd2, hKd, hKe, hKl, hd2⟩ : ∃ Kd2 : Nat -> Prop, (∀ y, Kd2 y -> y < w.heap.size \/ wr.heap.size <= y) /\ (∀ y, Kd2 y -> y ≠ gx) /\ (∀ y, Kd2 y -> y < wx.heap.size) /\ RtS Kd2 wx d (rowT n (zsK ks) (sg, ids, cols)) := ⟨_, fun y hy => hy.imp id (fun h => h.1), fun y hy e => by rw [hge] at e; have h1 := hwr.size; have h2 := bk.size; rcases hy with h | h <;> omega, fun y hy => by have h1 := hwr.size; have h2 := bk.size; have h3 := bx.size; have h4 := bkx.size; rcases hy with h | h <;> omega, hd⟩
     case' c2 =>
      go_simp
      obtain ⟨wk, hwk⟩ : ∃ wk, wk = (wr.alloc (.cells zT 127)).drew := ⟨_, rfl⟩
      rw [<- hwk]
      have bk : Below wr.heap.size wr wk := by rw [hwk]; exact ((Below.refl _ _).alloc (Nat.le_refl _) _).drew
      have rk : Rec 127 wk wr.heap.size zT := by rw [hwk]; exact (show Rec 127 (wr.alloc (.cells zT 127)) wr.heap.size zT from Rec.new wr _ _)
      clear hwk
      refine hK.out _ _ (HS8.out wk bk) (fun hHeld => ?_)
      clear hK K'
      try simp only [Act.put, sA_, sB_, sC_]
      refine wpAnyH_ready (rs := [16]) (by kernel_rfl) (by simp) ?_
      refine AllReadyH.cons (o := ⟨some 63, .call { callee := .value (.func 54), args := #[.tmp 47, .tmp 52, .tmp 57, .tmp 62], argTypes := #[24, 68, 66, 98] }, 128, "ref.go:191", #[⟨0, .data⟩, ⟨5, .data⟩, ⟨10, .data⟩, ⟨15, .data⟩], none⟩) rfl (fun K' hK => ?_) AllReadyH.nil
      go_simp
      go_at_call 54; refine (CT2.out wk (hwr.trans (bk.mono hwr.size))).mono ?_; rintro e wx ⟨hbc, d, rfl, hd⟩
      have bx : Below wr.heap.size wr wx := bk.trans (hbc.mono bk.size)
      have rx : Rec 127 wx wr.heap.size zT := rk.under hbc
      refine hK.out _ _ (HS8.out wx bx) (fun hHeld => ?_)
      clear hK K'
      try simp only [Act.put, sA_, sB_, sC_]
      refine tk_ 17 ⟨some 46, .move (.tmp 63), 128, "ref.go:191", #[⟨16, .data⟩], none⟩ hHeld ?_
      simp only [Act.put, sA_, sB_, sC_]
      refine tk_ 18 ⟨some 64, .extract (.tmp 46) 0, 127, "ref.go:191", #[⟨17, .data⟩], none⟩ hHeld ?_
      simp only [Act.put, sA_, sB_, sC_]
      refine tk_ 19 ⟨some 65, .extract (.tmp 46) 1, 3, "ref.go:191", #[⟨17, .data⟩, ⟨21, .gcOnly .lateStores⟩], none⟩ hHeld ?_
      simp only [Act.put, sA_, sB_, sC_]
      obtain ⟨gx, hge⟩ : ∃ g, g = wr.heap.size := ⟨_, rfl⟩
      have hgx : wr.heap.size <= gx := by rw [hge]; exact Nat.le_refl _
      rw [<- hge] at rx ⊢
      obtain ⟨Kd2, hKd, hKe, hKl, hd2⟩ : ∃ Kd2 : Nat -> Prop, (∀ y, Kd2 y -> y < w.heap.size \/ wr.heap.size <= y) /\ (∀ y, Kd2 y -> y ≠ gx) /\ (∀ y, Kd2 y -> y < wx.heap.size) /\ RtS Kd2 wx d (rowT n (zsK ks) (sg, ids, cols)) := ⟨_, fun y hy => hy.imp id (fun h => Nat.le_trans bk.size h.1), fun y hy e => by rw [hge] at e; have h1 := hwr.size; have h2 := rk.lt; rcases hy with h | h <;> omega, fun y hy => by have h1 := hwr.size; have h2 := bx.size; rcases hy with h | h <;> omega, hd⟩
     all_goals
      refine wpAnyH_ready (rs := [21]) (by kernel_rfl) (by simp) ?_
      refine AllReadyH.cons (o := ⟨none, .store 127 (.tmp 14) (.tmp 64), 0, "ref.go:191", #[⟨20, .data⟩, ⟨18, .data⟩, ⟨16, .chain⟩, ⟨0, .phase⟩, ⟨1, .phase⟩, ⟨2, .phase⟩, ⟨3, .phase⟩, ⟨4, .phase⟩, ⟨5, .phase⟩, ⟨6, .phase⟩, ⟨7, .phase⟩, ⟨8, .phase⟩, ⟨9, .phase⟩, ⟨10, .phase⟩, ⟨11, .phase⟩, ⟨12, .phase⟩, ⟨13, .phase⟩, ⟨14, .phase⟩, ⟨15, .phase⟩, ⟨16, .phase⟩, ⟨17, .phase⟩, ⟨18, .phase⟩, ⟨19, .textOnly .lateStores⟩, ⟨20, .phase⟩], none⟩) rfl (fun K' hK => ?_) AllReadyH.nil
      refine step_stS (cs' := d.cs) rtabT rfl rfl (by simp [Rt.cs, Value.oneCell']) rfl (.tmp 14) (.tmp 64) rfl rfl rfl rx ?_; intro w5 hr5 hF5
      have b5 : Below wr.heap.size wr w5 := bx.trans (hF5.toBelow (fun y hy => by rw [show y = gx from hy]; exact hgx) bx.size)
      refine hK.out _ _ (HS8.out w5 b5) (fun hHeld => ?_)
      clear hK K'
      try simp only [Act.put, sA_, sB_, sC_]
      refine tk_ 22 ⟨some 15, .assign (.tmp 65), 3, "ref.go:191", #[⟨19, .data⟩, ⟨21, .chain⟩, ⟨0, .phase⟩, ⟨1, .phase⟩, ⟨2, .phase⟩, ⟨3, .phase⟩, ⟨4, .phase⟩, ⟨5, .phase⟩, ⟨6, .phase⟩, ⟨7, .phase⟩, ⟨8, .phase⟩, ⟨9, .phase⟩, ⟨10, .phase⟩, ⟨11, .phase⟩, ⟨12, .phase⟩, ⟨13, .phase⟩, ⟨14, .phase⟩, ⟨15, .phase⟩, ⟨16, .phase⟩, ⟨17, .phase⟩, ⟨18, .phase⟩, ⟨19, .phase⟩, ⟨20, .phase⟩, ⟨21, .phase⟩], none⟩ hHeld ?_
      simp only [Act.put, sA_, sB_, sC_]
      refine wpAnyH_done (by kernel_rfl) ?_ _
      refine NoPanic.normal ?_
      clear hHeld
      have B5 := hi_ (And.intro b5 hr5)
      have HGX := hi_ hgx
      have HE5 := hi_ (And.intro (show EntsV Kd2 w5 d.RA d.rn (rowT n (zsK ks) (sg, ids, cols)).rows from hd2.r.stays ⟨hF5.size, fun y hy => hF5.block y (hKl y hy) (hKe y hy)⟩) hKd)
      clear hd2 hKd hKe hKl
      clear b5 hr5 hF5 hgx bx rx hge
      go_wp2_with fail
      go_meet
      case' rel => exact ⟨gx, _, rfl, rfl, HGX.out, B5.out.1, .inl ⟨HFIT.out, rfl, d, Kd2, B5.out.2, HE5.out.1, HE5.out.2⟩⟩
    ·have CT2 : Hid (∀ W, Below w.heap.size w W -> Calls Tryz.prog 54 #[cv lg pg en gn A n cap, .int .u64 (sg : Nat), .slice IA m ic, .slice CA q cx] W fun e w' => Below W.heap.size W w' /\ e = .returned (.tuple #[.agg zT, .int .i64 11])) := hi_ (fun W hW => by
      rw [HMQ.out.1, HMQ.out.2]
      refine (CT.out W hW).mono ?_
      rintro e w' ⟨hb, ⟨hf, _⟩ | ⟨_, h1⟩⟩
      ·exact absurd hf hfit
      ·exact ⟨hb, h1⟩)
     have HFIT := hi_ hfit
     clear CT hfit
     refine wp_region_noPanic ?_
     refine wp_region_held_drew (S := fun W => W.cell? ⟨w.heap.size, 0, none⟩ = some (.int .i64 lg) /\ W.cell? ⟨w.heap.size, 1, none⟩ = some (.int .i64 pg) /\ W.cell? ⟨w.heap.size, 2, none⟩ = some (.int .i64 en) /\ W.cell? ⟨w.heap.size, 3, none⟩ = some (.int .i64 gn) /\ W.cell? ⟨w.heap.size, 4, none⟩ = some (.slice A n cap) /\ W.cell? ⟨b, o + j * 3, none⟩ = some (.int .u64 (sg : Int)) /\ W.cell? ⟨b, o + j * 3 + 1, none⟩ = some (.slice IA m ic) /\ W.cell? ⟨b, o + j * 3 + 2, none⟩ = some (.slice CA q cx)) (by kernel_rfl) s10 (fun hHeld => ?_)
     refine tk_ 0 ⟨some 47, .load 24 (.tmp 4), 24, "ref.go:191", #[], none⟩ hHeld ?_
     simp only [Act.put, sA_, sB_, sC_]
     refine tk_ 1 ⟨some 48, .move (.tmp 3), 43, "ref.go:191", #[], none⟩ hHeld ?_
     simp only [Act.put, sA_, sB_, sC_]
     refine tk_ 2 ⟨some 49, .move (.tmp 13), 3, "ref.go:191", #[], none⟩ hHeld ?_
     simp only [Act.put, sA_, sB_, sC_]
     refine tk_ 3 ⟨some 50, .indexAddr 43 (.tmp 48) (.tmp 49), 0, "ref.go:191", #[⟨1, .data⟩, ⟨2, .data⟩], none⟩ hHeld ?_
     simp only [Act.put, sA_, sB_, sC_]
     refine tk_ 4 ⟨some 51, .fieldAddr 100 (.tmp 50) 0, 0, "ref.go:191", #[⟨3, .data⟩], none⟩ hHeld ?_
     simp only [Act.put, sA_, sB_, sC_]
     refine tk_ 5 ⟨some 52, .load 68 (.tmp 51), 68, "ref.go:191", #[⟨4, .data⟩], none⟩ hHeld ?_
     simp only [Act.put, sA_, sB_, sC_]
     refine tk_ 6 ⟨some 53, .move (.tmp 3), 43, "ref.go:191", #[], none⟩ hHeld ?_
     simp only [Act.put, sA_, sB_, sC_]
     refine tk_ 7 ⟨some 54, .move (.tmp 13), 3, "ref.go:191", #[], none⟩ hHeld ?_
     simp only [Act.put, sA_, sB_, sC_]
     refine tk_ 8 ⟨some 55, .indexAddr 43 (.tmp 53) (.tmp 54), 0, "ref.go:191", #[⟨6, .data⟩, ⟨7, .data⟩], none⟩ hHeld ?_
     simp only [Act.put, sA_, sB_, sC_]
     refine tk_ 9 ⟨some 56, .fieldAddr 100 (.tmp 55) 1, 0, "ref.go:191", #[⟨8, .data⟩], none⟩ hHeld ?_
     simp only [Act.put, sA_, sB_, sC_]
     refine tk_ 10 ⟨some 57, .load 66 (.tmp 56), 66, "ref.go:191", #[⟨9, .data⟩], none⟩ hHeld ?_
     simp only [Act.put, sA_, sB_, sC_]
     refine tk_ 11 ⟨some 58, .move (.tmp 3), 43, "ref.go:191", #[], none⟩ hHeld ?_
     simp only [Act.put, sA_, sB_, sC_]
     refine tk_ 12 ⟨some 59, .move (.tmp 13), 3, "ref.go:191", #[], none⟩ hHeld ?_
     simp only [Act.put, sA_, sB_, sC_]
     refine tk_ 13 ⟨some 60, .indexAddr 43 (.tmp 58) (.tmp 59), 0, "ref.go:191", #[⟨11, .data⟩, ⟨12, .data⟩], none⟩ hHeld ?_
     simp only [Act.put, sA_, sB_, sC_]
     refine tk_ 14 ⟨some 61, .fieldAddr 100 (.tmp 60) 2, 0, "ref.go:191", #[⟨13, .data⟩], none⟩ hHeld ?_
     simp only [Act.put, sA_, sB_, sC_]
     refine tk_ 15 ⟨some 62, .load 98 (.tmp 61), 98, "ref.go:191", #[⟨14, .data⟩], none⟩ hHeld ?_
     simp only [Act.put, sA_, sB_, sC_]
     refine wpAnyH_ready (rs := [16, 20]) (by kernel_rfl) (by simp) ?_
     refine AllReadyH.cons (o := ⟨some 63, .call { callee := .value (.func 54), args := #[.tmp 47, .tmp 52, .tmp 57, .tmp 62], argTypes := #[24, 68, 66, 98] }, 128, "ref.go:191", #[⟨0, .data⟩, ⟨5, .data⟩, ⟨10, .data⟩, ⟨15, .data⟩], none⟩) rfl (fun K' hK => ?cn1) (AllReadyH.cons (o := ⟨some 14, .alloc 127, 0, "ref.go:191", #[], none⟩) rfl (fun K' hK => ?cn2) AllReadyH.nil)
     case' cn1 =>
      go_simp
      go_at_call 54; refine (CT2.out wr.drew (hwr.drew)).mono ?_; rintro e wk ⟨hbc, rfl⟩
      have bk : Below wr.heap.size wr wk := (Below.refl _ _).drew.trans hbc
      refine hK.out _ _ (HS8.out wk bk) (fun hHeld => ?_)
      clear hK K'
      try simp only [Act.put, sA_, sB_, sC_]
      refine tk_ 17 ⟨some 46, .move (.tmp 63), 128, "ref.go:191", #[⟨16, .data⟩], none⟩ hHeld ?_
      simp only [Act.put, sA_, sB_, sC_]
      refine tk_ 18 ⟨some 64, .extract (.tmp 46) 0, 127, "ref.go:191", #[⟨17, .data⟩], none⟩ hHeld ?_
      simp only [Act.put, sA_, sB_, sC_]
      refine tk_ 19 ⟨some 65, .extract (.tmp 46) 1, 3, "ref.go:191", #[⟨17, .data⟩, ⟨21, .gcOnly .lateStores⟩], none⟩ hHeld ?_
      simp only [Act.put, sA_, sB_, sC_]
      refine wpAnyH_ready (rs := [20]) (by kernel_rfl) (by simp) ?_
      refine AllReadyH.cons (o := ⟨some 14, .alloc 127, 0, "ref.go:191", #[], none⟩) rfl (fun K' hK => ?_) AllReadyH.nil
      go_simp
      obtain ⟨wx, hwx⟩ : ∃ wx, wx = wk.alloc (.cells zT 127) := ⟨_, rfl⟩
      rw [<- hwx]
      have bkx : Below wk.heap.size wk wx := by rw [hwx]; exact (Below.refl _ _).alloc (Nat.le_refl _) _
      have rx : Rec 127 wx wk.heap.size zT := by rw [hwx]; exact Rec.new wk _ _
      have bx : Below wr.heap.size wr wx := bk.trans (bkx.mono bk.size)
      clear hwx
      refine hK.out _ _ (HS8.out wx bx) (fun hHeld => ?_)
      clear hK K'
      try simp only [Act.put, sA_, sB_, sC_]
      obtain ⟨gx, hge⟩ : ∃ g, g = wk.heap.size := ⟨_, rfl⟩
      have hgx : wr.heap.size <= gx := by rw [hge]; exact bk.size
      rw [<- hge] at rx ⊢
     case' cn2 =>
      go_simp
      obtain ⟨wk, hwk⟩ : ∃ wk, wk = (wr.alloc (.cells zT 127)).drew := ⟨_, rfl⟩
      rw [<- hwk]
      have bk : Below wr.heap.size wr wk := by rw [hwk]; exact ((Below.refl _ _).alloc (Nat.le_refl _) _).drew
      have rk : Rec 127 wk wr.heap.size zT := by rw [hwk]; exact (show Rec 127 (wr.alloc (.cells zT 127)) wr.heap.size zT from Rec.new wr _ _)
      clear hwk
      refine hK.out _ _ (HS8.out wk bk) (fun hHeld => ?_)
      clear hK K'
      try simp only [Act.put, sA_, sB_, sC_]
      refine wpAnyH_ready (rs := [16]) (by kernel_rfl) (by simp) ?_
      refine AllReadyH.cons (o := ⟨some 63, .call { callee := .value (.func 54), args := #[.tmp 47, .tmp 52, .tmp 57, .tmp 62], argTypes := #[24, 68, 66, 98] }, 128, "ref.go:191", #[⟨0, .data⟩, ⟨5, .data⟩, ⟨10, .data⟩, ⟨15, .data⟩], none⟩) rfl (fun K' hK => ?_) AllReadyH.nil
      go_simp
      go_at_call 54; refine (CT2.out wk (hwr.trans (bk.mono hwr.size))).mono ?_; rintro e wx ⟨hbc, rfl⟩
      have bx : Below wr.heap.size wr wx := bk.trans (hbc.mono bk.size)
      have rx : Rec 127 wx wr.heap.size zT := rk.under hbc
      refine hK.out _ _ (HS8.out wx bx) (fun hHeld => ?_)
      clear hK K'
      try simp only [Act.put, sA_, sB_, sC_]
      refine tk_ 17 ⟨some 46, .move (.tmp 63), 128, "ref.go:191", #[⟨16, .data⟩], none⟩ hHeld ?_
      simp only [Act.put, sA_, sB_, sC_]
      refine tk_ 18 ⟨some 64, .extract (.tmp 46) 0, 127, "ref.go:191", #[⟨17, .data⟩], none⟩ hHeld ?_
      simp only [Act.put, sA_, sB_, sC_]
      refine tk_ 19 ⟨some 65, .extract (.tmp 46) 1, 3, "ref.go:191", #[⟨17, .data⟩, ⟨21, .gcOnly .lateStores⟩], none⟩ hHeld ?_
      simp only [Act.put, sA_, sB_, sC_]
      obtain ⟨gx, hge⟩ : ∃ g, g = wr.heap.size := ⟨_, rfl⟩
      have hgx : wr.heap.size <= gx := by rw [hge]; exact Nat.le_refl _
      rw [<- hge] at rx ⊢
     all_goals
      refine wpAnyH_ready (rs := [21]) (by kernel_rfl) (by simp) ?_
      refine AllReadyH.cons (o := ⟨none, .store 127 (.tmp 14) (.tmp 64), 0, "ref.go:191", #[⟨20, .data⟩, ⟨18, .data⟩, ⟨16, .chain⟩, ⟨0, .phase⟩, ⟨1, .phase⟩, ⟨2, .phase⟩, ⟨3, .phase⟩, ⟨4, .phase⟩, ⟨5, .phase⟩, ⟨6, .phase⟩, ⟨7, .phase⟩, ⟨8, .phase⟩, ⟨9, .phase⟩, ⟨10, .phase⟩, ⟨11, .phase⟩, ⟨12, .phase⟩, ⟨13, .phase⟩, ⟨14, .phase⟩, ⟨15, .phase⟩, ⟨16, .phase⟩, ⟨17, .phase⟩, ⟨18, .phase⟩, ⟨19, .textOnly .lateStores⟩, ⟨20, .phase⟩], none⟩) rfl (fun K' hK => ?_) AllReadyH.nil
      refine step_stS (cs' := zT) rtabT rfl rfl (by simp [Rt.cs, Value.oneCell']) rfl (.tmp 14) (.tmp 64) rfl rfl rfl rx ?_; intro w5 hr5 hF5
      have b5 : Below wr.heap.size wr w5 := bx.trans (hF5.toBelow (fun y hy => by rw [show y = gx from hy]; exact hgx) bx.size)
      refine hK.out _ _ (HS8.out w5 b5) (fun hHeld => ?_)
      clear hK K'
      try simp only [Act.put, sA_, sB_, sC_]
      refine tk_ 22 ⟨some 15, .assign (.tmp 65), 3, "ref.go:191", #[⟨19, .data⟩, ⟨21, .chain⟩, ⟨0, .phase⟩, ⟨1, .phase⟩, ⟨2, .phase⟩, ⟨3, .phase⟩, ⟨4, .phase⟩, ⟨5, .phase⟩, ⟨6, .phase⟩, ⟨7, .phase⟩, ⟨8, .phase⟩, ⟨9, .phase⟩, ⟨10, .phase⟩, ⟨11, .phase⟩, ⟨12, .phase⟩, ⟨13, .phase⟩, ⟨14, .phase⟩, ⟨15, .phase⟩, ⟨16, .phase⟩, ⟨17, .phase⟩, ⟨18, .phase⟩, ⟨19, .phase⟩, ⟨20, .phase⟩, ⟨21, .phase⟩], none⟩ hHeld ?_
      simp only [Act.put, sA_, sB_, sC_]
      refine wpAnyH_done (by kernel_rfl) ?_ _
      refine NoPanic.normal ?_
      clear hHeld
      have B5 := hi_ (And.intro b5 hr5)
      have HGX := hi_ hgx
      clear b5 hr5 hF5 hgx bx rx hge
      go_wp2_with fail
      go_meet
      case' rel => exact ⟨gx, _, rfl, rfl, HGX.out, B5.out.1, .inr ⟨HFIT.out, rfl⟩⟩
   case rest =>
    obtain ⟨gx, f, rfl, rfl, hgx, hb5, hcase⟩ := hcut
    clear CT s10
    obtain ⟨E, hE⟩ : ∃ E : Bool, (E = true ↔ ¬ RowIn n (zsK ks) xs j (sg, ids, cols)) := by classical exact ⟨decide (¬ RowIn n (zsK ks) xs j (sg, ids, cols)), by simp⟩
    have HC := hi_ (And.intro hgx (And.intro hb5 hcase))
    have hf0 : f = 0 /\ RowFit n (zsK ks) (sg, ids, cols) \/ f = 11 /\ ¬ RowFit n (zsK ks) (sg, ids, cols) := hcase.imp (fun h => ⟨h.2.1, h.1⟩) (fun h => ⟨h.2, h.1⟩)
    have HF0 := hi_ hf0
    have HEE := hi_ hE
    have c1 := (HS8.out wc.drew hb5.drew).2.2.2.2.2
    have b5d := hb5.drew
    clear hE hgx hcase hf0 hb5
    go_upto_region 11 with fail
    go_cut [94] from 40 to 99 (fun v wl => v = .bool E /\ wl = wc.drew)
    case first =>
     by_cases hjf : j = 0
     ·have s11 : (wc.drew.cell? ⟨b, o + j * 3, none⟩ = some (.int .u64 (sg : Int)) /\ wc.drew.cell? ⟨b, o + j * 3 + 1, none⟩ = some (.slice IA m ic)) := ⟨c1.1, c1.2.1⟩
      clear b5d c1
      rcases HF0.out with ⟨rfl, hfit⟩ | ⟨rfl, hfit⟩
      ·have HFIT := hi_ hfit
       clear hfit HF0
       by_cases hmz : m = 0
       ·have hcz : ln <= 9223372036854775807 := by omega
        have dj : decide ((0 : Int) < (j : Int)) = false := decide_eq_false (by omega)
        have dj' : decide ((j : Int) > 0) = false := decide_eq_false (by omega)
        have dj2 : decide (0 < j) = false := decide_eq_false (by omega)
        have dm2 : decide (m = 0) = true := decide_eq_true (by omega)
        have dm : decide ((m : Int) = 0) = true := decide_eq_true (by omega)
        have dm' : ((m : Int) == 0) = true := by simp; omega
        have HJ := hi_ hjf
        clear hjf
        have HMZ := hi_ hmz
        clear hmz
        refine wp_region_noPanic ?_
        refine wp_region_held_drew (S := fun W => W.cell? ⟨b, o + j * 3, none⟩ = some (.int .u64 (sg : Int)) /\ W.cell? ⟨b, o + j * 3 + 1, none⟩ = some (.slice IA m ic)) (by kernel_rfl) s11 (fun hHeld => ?_)
        refine tk_ 0 ⟨some 66, .move (.tmp 13), 3, "ref.go:192", #[], none⟩ hHeld ?_
        simp only [Act.put, sA_, sB_, sC_]
        refine tk_ 1 ⟨some 67, .binOp .gtr 3 (.tmp 66) (.const (.int .i64 0)) 3, 4, "ref.go:192", #[⟨0, .data⟩], none⟩ hHeld ?_
        simp only [Act.put, sA_, sB_, sC_]
        refine tk_ 2 ⟨some 68, .move (.tmp 67), 4, "ref.go:192", #[⟨1, .data⟩], none⟩ hHeld ?_
        simp only [Act.put, sA_, sB_, sC_]
        refine sk_ 3 ⟨some 69, .move (.tmp 3), 43, "ref.go:192", #[⟨2, .guard⟩], some (2, true)⟩ hHeld ?_
        simp only [Act.put, sA_, sB_, sC_]
        refine sk_ 4 ⟨some 70, .move (.tmp 13), 3, "ref.go:192", #[⟨2, .guard⟩], some (2, true)⟩ hHeld ?_
        simp only [Act.put, sA_, sB_, sC_]
        refine sk_ 5 ⟨some 71, .indexAddr 43 (.tmp 69) (.tmp 70), 0, "ref.go:192", #[⟨3, .data⟩, ⟨4, .data⟩, ⟨2, .guard⟩], some (2, true)⟩ hHeld ?_
        simp only [Act.put, sA_, sB_, sC_]
        refine sk_ 6 ⟨some 72, .fieldAddr 100 (.tmp 71) 0, 0, "ref.go:192", #[⟨5, .data⟩, ⟨2, .guard⟩], some (2, true)⟩ hHeld ?_
        simp only [Act.put, sA_, sB_, sC_]
        refine sk_ 7 ⟨some 73, .load 68 (.tmp 72), 68, "ref.go:192", #[⟨6, .data⟩, ⟨2, .guard⟩], some (2, true)⟩ hHeld ?_
        simp only [Act.put, sA_, sB_, sC_]
        refine sk_ 8 ⟨some 74, .move (.tmp 3), 43, "ref.go:192", #[⟨2, .guard⟩], some (2, true)⟩ hHeld ?_
        simp only [Act.put, sA_, sB_, sC_]
        refine sk_ 9 ⟨some 75, .move (.tmp 13), 3, "ref.go:192", #[⟨2, .guard⟩], some (2, true)⟩ hHeld ?_
        simp only [Act.put, sA_, sB_, sC_]
        refine sk_ 10 ⟨some 76, .binOp .sub 3 (.tmp 75) (.const (.int .i64 1)) 3, 3, "ref.go:192", #[⟨9, .data⟩, ⟨2, .guard⟩], some (2, true)⟩ hHeld ?_
        simp only [Act.put, sA_, sB_, sC_]
        refine sk_ 11 ⟨some 77, .indexAddr 43 (.tmp 74) (.tmp 76), 0, "ref.go:192", #[⟨8, .data⟩, ⟨10, .data⟩, ⟨2, .guard⟩], some (2, true)⟩ hHeld ?_
        simp only [Act.put, sA_, sB_, sC_]
        refine sk_ 12 ⟨some 78, .fieldAddr 100 (.tmp 77) 0, 0, "ref.go:192", #[⟨11, .data⟩, ⟨2, .guard⟩], some (2, true)⟩ hHeld ?_
        simp only [Act.put, sA_, sB_, sC_]
        refine sk_ 13 ⟨some 79, .load 68 (.tmp 78), 68, "ref.go:192", #[⟨12, .data⟩, ⟨2, .guard⟩], some (2, true)⟩ hHeld ?_
        simp only [Act.put, sA_, sB_, sC_]
        refine sk_ 14 ⟨some 80, .binOp .leq 68 (.tmp 73) (.tmp 79) 68, 4, "ref.go:192", #[⟨7, .data⟩, ⟨13, .data⟩, ⟨2, .guard⟩], some (2, true)⟩ hHeld ?_
        simp only [Act.put, sA_, sB_, sC_]
        refine tk_ 15 ⟨some 81, .pick (.tmp 68) (.tmp 80) (.const (.bool false)), 4, "ref.go:192", #[⟨2, .data⟩, ⟨14, .data⟩], none⟩ hHeld ?_
        simp only [Act.put, sA_, sB_, sC_]
        refine tk_ 16 ⟨some 82, .move (.tmp 81), 4, "ref.go:192", #[⟨15, .data⟩, ⟨2, .chain⟩], none⟩ hHeld ?_
        simp only [Act.put, sA_, sB_, sC_]
        refine tk_ 17 ⟨some 83, .move (.tmp 15), 3, "ref.go:192", #[⟨16, .guard⟩], some (16, false)⟩ hHeld ?_
        simp only [Act.put, sA_, sB_, sC_]
        refine tk_ 18 ⟨some 84, .binOp .neq 3 (.tmp 83) (.const (.int .i64 0)) 3, 4, "ref.go:192", #[⟨17, .data⟩, ⟨16, .guard⟩], some (16, false)⟩ hHeld ?_
        simp only [Act.put, sA_, sB_, sC_]
        refine tk_ 19 ⟨some 85, .pick (.tmp 82) (.const (.bool true)) (.tmp 84), 4, "ref.go:192", #[⟨16, .data⟩, ⟨18, .data⟩], none⟩ hHeld ?_
        simp only [Act.put, sA_, sB_, sC_]
        refine tk_ 20 ⟨some 86, .move (.tmp 85), 4, "ref.go:192", #[⟨19, .data⟩, ⟨16, .chain⟩], none⟩ hHeld ?_
        simp only [Act.put, sA_, sB_, sC_]
        refine tk_ 21 ⟨some 87, .move (.tmp 3), 43, "ref.go:192", #[⟨20, .guard⟩], some (20, false)⟩ hHeld ?_
        simp only [Act.put, sA_, sB_, sC_]
        refine tk_ 22 ⟨some 88, .move (.tmp 13), 3, "ref.go:192", #[⟨20, .guard⟩], some (20, false)⟩ hHeld ?_
        simp only [Act.put, sA_, sB_, sC_]
        refine tk_ 23 ⟨some 89, .indexAddr 43 (.tmp 87) (.tmp 88), 0, "ref.go:192", #[⟨21, .data⟩, ⟨22, .data⟩, ⟨20, .guard⟩], some (20, false)⟩ hHeld ?_
        simp only [Act.put, sA_, sB_, sC_]
        refine tk_ 24 ⟨some 90, .fieldAddr 100 (.tmp 89) 1, 0, "ref.go:192", #[⟨23, .data⟩, ⟨20, .guard⟩], some (20, false)⟩ hHeld ?_
        simp only [Act.put, sA_, sB_, sC_]
        refine tk_ 25 ⟨some 91, .load 66 (.tmp 90), 66, "ref.go:192", #[⟨24, .data⟩, ⟨20, .guard⟩], some (20, false)⟩ hHeld ?_
        simp only [Act.put, sA_, sB_, sC_]
        refine tk_ 26 ⟨some 92, .call { callee := .builtin .len, args := #[.tmp 91], argTypes := #[66] }, 3, "ref.go:192", #[⟨25, .data⟩, ⟨20, .guard⟩], some (20, false)⟩ hHeld ?_
        simp only [Act.put, sA_, sB_, sC_]
        refine tk_ 27 ⟨some 93, .binOp .eql 3 (.tmp 92) (.const (.int .i64 0)) 3, 4, "ref.go:192", #[⟨26, .data⟩, ⟨20, .guard⟩], some (20, false)⟩ hHeld ?_
        simp only [Act.put, sA_, sB_, sC_]
        refine tk_ 28 ⟨some 94, .pick (.tmp 86) (.const (.bool true)) (.tmp 93), 4, "ref.go:192", #[⟨20, .data⟩, ⟨27, .data⟩], none⟩ hHeld ?_
        simp only [Act.put, sA_, sB_, sC_]
        refine wpAnyH_done (by kernel_rfl) ?_ _
        refine NoPanic.normal ?_
        go_wp2_with fail
        go_meet
        case' rel =>
         refine ⟨?_, rfl⟩
         rw [HEE.out.2 (fun hin => hin.2.1 (List.eq_nil_of_length_eq_zero (by show ids.length = 0; rw [<- HMQ.out.1]; exact HMZ.out)))]
       ·have hcz : ln <= 9223372036854775807 := by omega
        have dj : decide ((0 : Int) < (j : Int)) = false := decide_eq_false (by omega)
        have dj' : decide ((j : Int) > 0) = false := decide_eq_false (by omega)
        have dj2 : decide (0 < j) = false := decide_eq_false (by omega)
        have dm2 : decide (m = 0) = false := decide_eq_false (by omega)
        have dm : decide ((m : Int) = 0) = false := decide_eq_false (by omega)
        have dm' : ((m : Int) == 0) = false := by simp; omega
        have HJ := hi_ hjf
        clear hjf
        have HMZ := hi_ hmz
        clear hmz
        refine wp_region_noPanic ?_
        refine wp_region_held_drew (S := fun W => W.cell? ⟨b, o + j * 3, none⟩ = some (.int .u64 (sg : Int)) /\ W.cell? ⟨b, o + j * 3 + 1, none⟩ = some (.slice IA m ic)) (by kernel_rfl) s11 (fun hHeld => ?_)
        refine tk_ 0 ⟨some 66, .move (.tmp 13), 3, "ref.go:192", #[], none⟩ hHeld ?_
        simp only [Act.put, sA_, sB_, sC_]
        refine tk_ 1 ⟨some 67, .binOp .gtr 3 (.tmp 66) (.const (.int .i64 0)) 3, 4, "ref.go:192", #[⟨0, .data⟩], none⟩ hHeld ?_
        simp only [Act.put, sA_, sB_, sC_]
        refine tk_ 2 ⟨some 68, .move (.tmp 67), 4, "ref.go:192", #[⟨1, .data⟩], none⟩ hHeld ?_
        simp only [Act.put, sA_, sB_, sC_]
        refine sk_ 3 ⟨some 69, .move (.tmp 3), 43, "ref.go:192", #[⟨2, .guard⟩], some (2, true)⟩ hHeld ?_
        simp only [Act.put, sA_, sB_, sC_]
        refine sk_ 4 ⟨some 70, .move (.tmp 13), 3, "ref.go:192", #[⟨2, .guard⟩], some (2, true)⟩ hHeld ?_
        simp only [Act.put, sA_, sB_, sC_]
        refine sk_ 5 ⟨some 71, .indexAddr 43 (.tmp 69) (.tmp 70), 0, "ref.go:192", #[⟨3, .data⟩, ⟨4, .data⟩, ⟨2, .guard⟩], some (2, true)⟩ hHeld ?_
        simp only [Act.put, sA_, sB_, sC_]
        refine sk_ 6 ⟨some 72, .fieldAddr 100 (.tmp 71) 0, 0, "ref.go:192", #[⟨5, .data⟩, ⟨2, .guard⟩], some (2, true)⟩ hHeld ?_
        simp only [Act.put, sA_, sB_, sC_]
        refine sk_ 7 ⟨some 73, .load 68 (.tmp 72), 68, "ref.go:192", #[⟨6, .data⟩, ⟨2, .guard⟩], some (2, true)⟩ hHeld ?_
        simp only [Act.put, sA_, sB_, sC_]
        refine sk_ 8 ⟨some 74, .move (.tmp 3), 43, "ref.go:192", #[⟨2, .guard⟩], some (2, true)⟩ hHeld ?_
        simp only [Act.put, sA_, sB_, sC_]
        refine sk_ 9 ⟨some 75, .move (.tmp 13), 3, "ref.go:192", #[⟨2, .guard⟩], some (2, true)⟩ hHeld ?_
        simp only [Act.put, sA_, sB_, sC_]
        refine sk_ 10 ⟨some 76, .binOp .sub 3 (.tmp 75) (.const (.int .i64 1)) 3, 3, "ref.go:192", #[⟨9, .data⟩, ⟨2, .guard⟩], some (2, true)⟩ hHeld ?_
        simp only [Act.put, sA_, sB_, sC_]
        refine sk_ 11 ⟨some 77, .indexAddr 43 (.tmp 74) (.tmp 76), 0, "ref.go:192", #[⟨8, .data⟩, ⟨10, .data⟩, ⟨2, .guard⟩], some (2, true)⟩ hHeld ?_
        simp only [Act.put, sA_, sB_, sC_]
        refine sk_ 12 ⟨some 78, .fieldAddr 100 (.tmp 77) 0, 0, "ref.go:192", #[⟨11, .data⟩, ⟨2, .guard⟩], some (2, true)⟩ hHeld ?_
        simp only [Act.put, sA_, sB_, sC_]
        refine sk_ 13 ⟨some 79, .load 68 (.tmp 78), 68, "ref.go:192", #[⟨12, .data⟩, ⟨2, .guard⟩], some (2, true)⟩ hHeld ?_
        simp only [Act.put, sA_, sB_, sC_]
        refine sk_ 14 ⟨some 80, .binOp .leq 68 (.tmp 73) (.tmp 79) 68, 4, "ref.go:192", #[⟨7, .data⟩, ⟨13, .data⟩, ⟨2, .guard⟩], some (2, true)⟩ hHeld ?_
        simp only [Act.put, sA_, sB_, sC_]
        refine tk_ 15 ⟨some 81, .pick (.tmp 68) (.tmp 80) (.const (.bool false)), 4, "ref.go:192", #[⟨2, .data⟩, ⟨14, .data⟩], none⟩ hHeld ?_
        simp only [Act.put, sA_, sB_, sC_]
        refine tk_ 16 ⟨some 82, .move (.tmp 81), 4, "ref.go:192", #[⟨15, .data⟩, ⟨2, .chain⟩], none⟩ hHeld ?_
        simp only [Act.put, sA_, sB_, sC_]
        refine tk_ 17 ⟨some 83, .move (.tmp 15), 3, "ref.go:192", #[⟨16, .guard⟩], some (16, false)⟩ hHeld ?_
        simp only [Act.put, sA_, sB_, sC_]
        refine tk_ 18 ⟨some 84, .binOp .neq 3 (.tmp 83) (.const (.int .i64 0)) 3, 4, "ref.go:192", #[⟨17, .data⟩, ⟨16, .guard⟩], some (16, false)⟩ hHeld ?_
        simp only [Act.put, sA_, sB_, sC_]
        refine tk_ 19 ⟨some 85, .pick (.tmp 82) (.const (.bool true)) (.tmp 84), 4, "ref.go:192", #[⟨16, .data⟩, ⟨18, .data⟩], none⟩ hHeld ?_
        simp only [Act.put, sA_, sB_, sC_]
        refine tk_ 20 ⟨some 86, .move (.tmp 85), 4, "ref.go:192", #[⟨19, .data⟩, ⟨16, .chain⟩], none⟩ hHeld ?_
        simp only [Act.put, sA_, sB_, sC_]
        refine tk_ 21 ⟨some 87, .move (.tmp 3), 43, "ref.go:192", #[⟨20, .guard⟩], some (20, false)⟩ hHeld ?_
        simp only [Act.put, sA_, sB_, sC_]
        refine tk_ 22 ⟨some 88, .move (.tmp 13), 3, "ref.go:192", #[⟨20, .guard⟩], some (20, false)⟩ hHeld ?_
        simp only [Act.put, sA_, sB_, sC_]
        refine tk_ 23 ⟨some 89, .indexAddr 43 (.tmp 87) (.tmp 88), 0, "ref.go:192", #[⟨21, .data⟩, ⟨22, .data⟩, ⟨20, .guard⟩], some (20, false)⟩ hHeld ?_
        simp only [Act.put, sA_, sB_, sC_]
        refine tk_ 24 ⟨some 90, .fieldAddr 100 (.tmp 89) 1, 0, "ref.go:192", #[⟨23, .data⟩, ⟨20, .guard⟩], some (20, false)⟩ hHeld ?_
        simp only [Act.put, sA_, sB_, sC_]
        refine tk_ 25 ⟨some 91, .load 66 (.tmp 90), 66, "ref.go:192", #[⟨24, .data⟩, ⟨20, .guard⟩], some (20, false)⟩ hHeld ?_
        simp only [Act.put, sA_, sB_, sC_]
        refine tk_ 26 ⟨some 92, .call { callee := .builtin .len, args := #[.tmp 91], argTypes := #[66] }, 3, "ref.go:192", #[⟨25, .data⟩, ⟨20, .guard⟩], some (20, false)⟩ hHeld ?_
        simp only [Act.put, sA_, sB_, sC_]
        refine tk_ 27 ⟨some 93, .binOp .eql 3 (.tmp 92) (.const (.int .i64 0)) 3, 4, "ref.go:192", #[⟨26, .data⟩, ⟨20, .guard⟩], some (20, false)⟩ hHeld ?_
        simp only [Act.put, sA_, sB_, sC_]
        refine tk_ 28 ⟨some 94, .pick (.tmp 86) (.const (.bool true)) (.tmp 93), 4, "ref.go:192", #[⟨20, .data⟩, ⟨27, .data⟩], none⟩ hHeld ?_
        simp only [Act.put, sA_, sB_, sC_]
        refine wpAnyH_done (by kernel_rfl) ?_ _
        refine NoPanic.normal ?_
        go_wp2_with fail
        go_meet
        case' rel =>
         refine ⟨?_, rfl⟩
         rw [show E = false from Bool.eq_false_iff.2 (fun h => HEE.out.1 h (⟨(fun s' e => by rw [HJ.out] at e; cases e), fun e => HMZ.out (by rw [HMQ.out.1]; show ids.length = 0; rw [show ids = [] from e]; rfl), HFIT.out⟩))]
      ·have HFIT := hi_ hfit
       clear hfit HF0
       have hcz : ln <= 9223372036854775807 := by omega
       have dj : decide ((0 : Int) < (j : Int)) = false := decide_eq_false (by omega)
       have dj' : decide ((j : Int) > 0) = false := decide_eq_false (by omega)
       have dj2 : decide (0 < j) = false := decide_eq_false (by omega)
       have HJ := hi_ hjf
       clear hjf
       refine wp_region_noPanic ?_
       refine wp_region_held_drew (S := fun W => W.cell? ⟨b, o + j * 3, none⟩ = some (.int .u64 (sg : Int)) /\ W.cell? ⟨b, o + j * 3 + 1, none⟩ = some (.slice IA m ic)) (by kernel_rfl) s11 (fun hHeld => ?_)
       refine tk_ 0 ⟨some 66, .move (.tmp 13), 3, "ref.go:192", #[], none⟩ hHeld ?_
       simp only [Act.put, sA_, sB_, sC_]
       refine tk_ 1 ⟨some 67, .binOp .gtr 3 (.tmp 66) (.const (.int .i64 0)) 3, 4, "ref.go:192", #[⟨0, .data⟩], none⟩ hHeld ?_
       simp only [Act.put, sA_, sB_, sC_]
       refine tk_ 2 ⟨some 68, .move (.tmp 67), 4, "ref.go:192", #[⟨1, .data⟩], none⟩ hHeld ?_
       simp only [Act.put, sA_, sB_, sC_]
       refine sk_ 3 ⟨some 69, .move (.tmp 3), 43, "ref.go:192", #[⟨2, .guard⟩], some (2, true)⟩ hHeld ?_
       simp only [Act.put, sA_, sB_, sC_]
       refine sk_ 4 ⟨some 70, .move (.tmp 13), 3, "ref.go:192", #[⟨2, .guard⟩], some (2, true)⟩ hHeld ?_
       simp only [Act.put, sA_, sB_, sC_]
       refine sk_ 5 ⟨some 71, .indexAddr 43 (.tmp 69) (.tmp 70), 0, "ref.go:192", #[⟨3, .data⟩, ⟨4, .data⟩, ⟨2, .guard⟩], some (2, true)⟩ hHeld ?_
       simp only [Act.put, sA_, sB_, sC_]
       refine sk_ 6 ⟨some 72, .fieldAddr 100 (.tmp 71) 0, 0, "ref.go:192", #[⟨5, .data⟩, ⟨2, .guard⟩], some (2, true)⟩ hHeld ?_
       simp only [Act.put, sA_, sB_, sC_]
       refine sk_ 7 ⟨some 73, .load 68 (.tmp 72), 68, "ref.go:192", #[⟨6, .data⟩, ⟨2, .guard⟩], some (2, true)⟩ hHeld ?_
       simp only [Act.put, sA_, sB_, sC_]
       refine sk_ 8 ⟨some 74, .move (.tmp 3), 43, "ref.go:192", #[⟨2, .guard⟩], some (2, true)⟩ hHeld ?_
       simp only [Act.put, sA_, sB_, sC_]
       refine sk_ 9 ⟨some 75, .move (.tmp 13), 3, "ref.go:192", #[⟨2, .guard⟩], some (2, true)⟩ hHeld ?_
       simp only [Act.put, sA_, sB_, sC_]
       refine sk_ 10 ⟨some 76, .binOp .sub 3 (.tmp 75) (.const (.int .i64 1)) 3, 3, "ref.go:192", #[⟨9, .data⟩, ⟨2, .guard⟩], some (2, true)⟩ hHeld ?_
       simp only [Act.put, sA_, sB_, sC_]
       refine sk_ 11 ⟨some 77, .indexAddr 43 (.tmp 74) (.tmp 76), 0, "ref.go:192", #[⟨8, .data⟩, ⟨10, .data⟩, ⟨2, .guard⟩], some (2, true)⟩ hHeld ?_
       simp only [Act.put, sA_, sB_, sC_]
       refine sk_ 12 ⟨some 78, .fieldAddr 100 (.tmp 77) 0, 0, "ref.go:192", #[⟨11, .data⟩, ⟨2, .guard⟩], some (2, true)⟩ hHeld ?_
       simp only [Act.put, sA_, sB_, sC_]
       refine sk_ 13 ⟨some 79, .load 68 (.tmp 78), 68, "ref.go:192", #[⟨12, .data⟩, ⟨2, .guard⟩], some (2, true)⟩ hHeld ?_
       simp only [Act.put, sA_, sB_, sC_]
       refine sk_ 14 ⟨some 80, .binOp .leq 68 (.tmp 73) (.tmp 79) 68, 4, "ref.go:192", #[⟨7, .data⟩, ⟨13, .data⟩, ⟨2, .guard⟩], some (2, true)⟩ hHeld ?_
       simp only [Act.put, sA_, sB_, sC_]
       refine tk_ 15 ⟨some 81, .pick (.tmp 68) (.tmp 80) (.const (.bool false)), 4, "ref.go:192", #[⟨2, .data⟩, ⟨14, .data⟩], none⟩ hHeld ?_
       simp only [Act.put, sA_, sB_, sC_]
       refine tk_ 16 ⟨some 82, .move (.tmp 81), 4, "ref.go:192", #[⟨15, .data⟩, ⟨2, .chain⟩], none⟩ hHeld ?_
       simp only [Act.put, sA_, sB_, sC_]
       refine tk_ 17 ⟨some 83, .move (.tmp 15), 3, "ref.go:192", #[⟨16, .guard⟩], some (16, false)⟩ hHeld ?_
       simp only [Act.put, sA_, sB_, sC_]
       refine tk_ 18 ⟨some 84, .binOp .neq 3 (.tmp 83) (.const (.int .i64 0)) 3, 4, "ref.go:192", #[⟨17, .data⟩, ⟨16, .guard⟩], some (16, false)⟩ hHeld ?_
       simp only [Act.put, sA_, sB_, sC_]
       refine tk_ 19 ⟨some 85, .pick (.tmp 82) (.const (.bool true)) (.tmp 84), 4, "ref.go:192", #[⟨16, .data⟩, ⟨18, .data⟩], none⟩ hHeld ?_
       simp only [Act.put, sA_, sB_, sC_]
       refine tk_ 20 ⟨some 86, .move (.tmp 85), 4, "ref.go:192", #[⟨19, .data⟩, ⟨16, .chain⟩], none⟩ hHeld ?_
       simp only [Act.put, sA_, sB_, sC_]
       refine sk_ 21 ⟨some 87, .move (.tmp 3), 43, "ref.go:192", #[⟨20, .guard⟩], some (20, false)⟩ hHeld ?_
       simp only [Act.put, sA_, sB_, sC_]
       refine sk_ 22 ⟨some 88, .move (.tmp 13), 3, "ref.go:192", #[⟨20, .guard⟩], some (20, false)⟩ hHeld ?_
       simp only [Act.put, sA_, sB_, sC_]
       refine sk_ 23 ⟨some 89, .indexAddr 43 (.tmp 87) (.tmp 88), 0, "ref.go:192", #[⟨21, .data⟩, ⟨22, .data⟩, ⟨20, .guard⟩], some (20, false)⟩ hHeld ?_
       simp only [Act.put, sA_, sB_, sC_]
       refine sk_ 24 ⟨some 90, .fieldAddr 100 (.tmp 89) 1, 0, "ref.go:192", #[⟨23, .data⟩, ⟨20, .guard⟩], some (20, false)⟩ hHeld ?_
       simp only [Act.put, sA_, sB_, sC_]
       refine sk_ 25 ⟨some 91, .load 66 (.tmp 90), 66, "ref.go:192", #[⟨24, .data⟩, ⟨20, .guard⟩], some (20, false)⟩ hHeld ?_
       simp only [Act.put, sA_, sB_, sC_]
       refine sk_ 26 ⟨some 92, .call { callee := .builtin .len, args := #[.tmp 91], argTypes := #[66] }, 3, "ref.go:192", #[⟨25, .data⟩, ⟨20, .guard⟩], some (20, false)⟩ hHeld ?_
       simp only [Act.put, sA_, sB_, sC_]
       refine sk_ 27 ⟨some 93, .binOp .eql 3 (.tmp 92) (.const (.int .i64 0)) 3, 4, "ref.go:192", #[⟨26, .data⟩, ⟨20, .guard⟩], some (20, false)⟩ hHeld ?_
       simp only [Act.put, sA_, sB_, sC_]
       refine tk_ 28 ⟨some 94, .pick (.tmp 86) (.const (.bool true)) (.tmp 93), 4, "ref.go:192", #[⟨20, .data⟩, ⟨27, .data⟩], none⟩ hHeld ?_
       simp only [Act.put, sA_, sB_, sC_]
       refine wpAnyH_done (by kernel_rfl) ?_ _
       refine NoPanic.normal ?_
       go_wp2_with fail
       go_meet
       case' rel =>
        refine ⟨?_, rfl⟩
        rw [HEE.out.2 (fun hin => HFIT.out hin.2.2)]
     ·obtain ⟨jj, hjj⟩ : ∃ jj, j = jj + 1 := ⟨j - 1, by omega⟩
      obtain ⟨ps, hps, kp⟩ := HPV.out jj hjj
      have HPS := hi_ hps
      have s11 : (wc.drew.cell? ⟨b, o + j * 3, none⟩ = some (.int .u64 (sg : Int)) /\ wc.drew.cell? ⟨b, o + j * 3 + 1, none⟩ = some (.slice IA m ic) /\ wc.drew.cell? ⟨b, o + jj * 3, none⟩ = some (.int .u64 (ps : Int))) := ⟨c1.1, c1.2.1, kp wc.drew b5d⟩
      clear hps kp b5d c1
      by_cases hle : sg <= ps
      ·rcases HF0.out with ⟨rfl, hfit⟩ | ⟨rfl, hfit⟩
       ·clear hfit HF0
        have hcz : ln <= 9223372036854775807 := by omega
        have hjl : jj < ln := by omega
        have dj : decide ((0 : Int) < (j : Int)) = true := decide_eq_true (by omega)
        have dj' : decide ((j : Int) > 0) = true := decide_eq_true (by omega)
        have dj2 : decide (0 < j) = true := decide_eq_true (by omega)
        have hwrap : IntKind.i64.wrap ((j : Int) - 1) = (jj : Int) := by rw [show (j : Int) - 1 = (jj : Int) by omega]; exact IntWalk.i64_in _ (by omega)
        have dg2 : decide (sg <= ps) = true := decide_eq_true (by omega)
        have dg : decide ((sg : Int) <= (ps : Int)) = true := decide_eq_true (by omega)
        have HJ := hi_ hjf
        clear hjf
        have HLE := hi_ hle
        have HJJ := hi_ hjj
        clear hle hjj
        refine wp_region_noPanic ?_
        refine wp_region_held_drew (S := fun W => W.cell? ⟨b, o + j * 3, none⟩ = some (.int .u64 (sg : Int)) /\ W.cell? ⟨b, o + j * 3 + 1, none⟩ = some (.slice IA m ic) /\ W.cell? ⟨b, o + jj * 3, none⟩ = some (.int .u64 (ps : Int))) (by kernel_rfl) s11 (fun hHeld => ?_)
        refine tk_ 0 ⟨some 66, .move (.tmp 13), 3, "ref.go:192", #[], none⟩ hHeld ?_
        simp only [Act.put, sA_, sB_, sC_]
        refine tk_ 1 ⟨some 67, .binOp .gtr 3 (.tmp 66) (.const (.int .i64 0)) 3, 4, "ref.go:192", #[⟨0, .data⟩], none⟩ hHeld ?_
        simp only [Act.put, sA_, sB_, sC_]
        refine tk_ 2 ⟨some 68, .move (.tmp 67), 4, "ref.go:192", #[⟨1, .data⟩], none⟩ hHeld ?_
        simp only [Act.put, sA_, sB_, sC_]
        refine tk_ 3 ⟨some 69, .move (.tmp 3), 43, "ref.go:192", #[⟨2, .guard⟩], some (2, true)⟩ hHeld ?_
        simp only [Act.put, sA_, sB_, sC_]
        refine tk_ 4 ⟨some 70, .move (.tmp 13), 3, "ref.go:192", #[⟨2, .guard⟩], some (2, true)⟩ hHeld ?_
        simp only [Act.put, sA_, sB_, sC_]
        refine tk_ 5 ⟨some 71, .indexAddr 43 (.tmp 69) (.tmp 70), 0, "ref.go:192", #[⟨3, .data⟩, ⟨4, .data⟩, ⟨2, .guard⟩], some (2, true)⟩ hHeld ?_
        simp only [Act.put, sA_, sB_, sC_]
        refine tk_ 6 ⟨some 72, .fieldAddr 100 (.tmp 71) 0, 0, "ref.go:192", #[⟨5, .data⟩, ⟨2, .guard⟩], some (2, true)⟩ hHeld ?_
        simp only [Act.put, sA_, sB_, sC_]
        refine tk_ 7 ⟨some 73, .load 68 (.tmp 72), 68, "ref.go:192", #[⟨6, .data⟩, ⟨2, .guard⟩], some (2, true)⟩ hHeld ?_
        simp only [Act.put, sA_, sB_, sC_]
        refine tk_ 8 ⟨some 74, .move (.tmp 3), 43, "ref.go:192", #[⟨2, .guard⟩], some (2, true)⟩ hHeld ?_
        simp only [Act.put, sA_, sB_, sC_]
        refine tk_ 9 ⟨some 75, .move (.tmp 13), 3, "ref.go:192", #[⟨2, .guard⟩], some (2, true)⟩ hHeld ?_
        simp only [Act.put, sA_, sB_, sC_]
        refine tk_ 10 ⟨some 76, .binOp .sub 3 (.tmp 75) (.const (.int .i64 1)) 3, 3, "ref.go:192", #[⟨9, .data⟩, ⟨2, .guard⟩], some (2, true)⟩ hHeld ?_
        simp only [Act.put, sA_, sB_, sC_]
        refine tk_ 11 ⟨some 77, .indexAddr 43 (.tmp 74) (.tmp 76), 0, "ref.go:192", #[⟨8, .data⟩, ⟨10, .data⟩, ⟨2, .guard⟩], some (2, true)⟩ hHeld ?_
        simp only [Act.put, sA_, sB_, sC_]
        refine tk_ 12 ⟨some 78, .fieldAddr 100 (.tmp 77) 0, 0, "ref.go:192", #[⟨11, .data⟩, ⟨2, .guard⟩], some (2, true)⟩ hHeld ?_
        simp only [Act.put, sA_, sB_, sC_]
        refine tk_ 13 ⟨some 79, .load 68 (.tmp 78), 68, "ref.go:192", #[⟨12, .data⟩, ⟨2, .guard⟩], some (2, true)⟩ hHeld ?_
        simp only [Act.put, sA_, sB_, sC_]
        refine tk_ 14 ⟨some 80, .binOp .leq 68 (.tmp 73) (.tmp 79) 68, 4, "ref.go:192", #[⟨7, .data⟩, ⟨13, .data⟩, ⟨2, .guard⟩], some (2, true)⟩ hHeld ?_
        simp only [Act.put, sA_, sB_, sC_]
        refine tk_ 15 ⟨some 81, .pick (.tmp 68) (.tmp 80) (.const (.bool false)), 4, "ref.go:192", #[⟨2, .data⟩, ⟨14, .data⟩], none⟩ hHeld ?_
        simp only [Act.put, sA_, sB_, sC_]
        refine tk_ 16 ⟨some 82, .move (.tmp 81), 4, "ref.go:192", #[⟨15, .data⟩, ⟨2, .chain⟩], none⟩ hHeld ?_
        simp only [Act.put, sA_, sB_, sC_]
        refine sk_ 17 ⟨some 83, .move (.tmp 15), 3, "ref.go:192", #[⟨16, .guard⟩], some (16, false)⟩ hHeld ?_
        simp only [Act.put, sA_, sB_, sC_]
        refine sk_ 18 ⟨some 84, .binOp .neq 3 (.tmp 83) (.const (.int .i64 0)) 3, 4, "ref.go:192", #[⟨17, .data⟩, ⟨16, .guard⟩], some (16, false)⟩ hHeld ?_
        simp only [Act.put, sA_, sB_, sC_]
        refine tk_ 19 ⟨some 85, .pick (.tmp 82) (.const (.bool true)) (.tmp 84), 4, "ref.go:192", #[⟨16, .data⟩, ⟨18, .data⟩], none⟩ hHeld ?_
        simp only [Act.put, sA_, sB_, sC_]
        refine tk_ 20 ⟨some 86, .move (.tmp 85), 4, "ref.go:192", #[⟨19, .data⟩, ⟨16, .chain⟩], none⟩ hHeld ?_
        simp only [Act.put, sA_, sB_, sC_]
        refine sk_ 21 ⟨some 87, .move (.tmp 3), 43, "ref.go:192", #[⟨20, .guard⟩], some (20, false)⟩ hHeld ?_
        simp only [Act.put, sA_, sB_, sC_]
        refine sk_ 22 ⟨some 88, .move (.tmp 13), 3, "ref.go:192", #[⟨20, .guard⟩], some (20, false)⟩ hHeld ?_
        simp only [Act.put, sA_, sB_, sC_]
        refine sk_ 23 ⟨some 89, .indexAddr 43 (.tmp 87) (.tmp 88), 0, "ref.go:192", #[⟨21, .data⟩, ⟨22, .data⟩, ⟨20, .guard⟩], some (20, false)⟩ hHeld ?_
        simp only [Act.put, sA_, sB_, sC_]
        refine sk_ 24 ⟨some 90, .fieldAddr 100 (.tmp 89) 1, 0, "ref.go:192", #[⟨23, .data⟩, ⟨20, .guard⟩], some (20, false)⟩ hHeld ?_
        simp only [Act.put, sA_, sB_, sC_]
        refine sk_ 25 ⟨some 91, .load 66 (.tmp 90), 66, "ref.go:192", #[⟨24, .data⟩, ⟨20, .guard⟩], some (20, false)⟩ hHeld ?_
        simp only [Act.put, sA_, sB_, sC_]
        refine sk_ 26 ⟨some 92, .call { callee := .builtin .len, args := #[.tmp 91], argTypes := #[66] }, 3, "ref.go:192", #[⟨25, .data⟩, ⟨20, .guard⟩], some (20, false)⟩ hHeld ?_
        simp only [Act.put, sA_, sB_, sC_]
        refine sk_ 27 ⟨some 93, .binOp .eql 3 (.tmp 92) (.const (.int .i64 0)) 3, 4, "ref.go:192", #[⟨26, .data⟩, ⟨20, .guard⟩], some (20, false)⟩ hHeld ?_
        simp only [Act.put, sA_, sB_, sC_]
        refine tk_ 28 ⟨some 94, .pick (.tmp 86) (.const (.bool true)) (.tmp 93), 4, "ref.go:192", #[⟨20, .data⟩, ⟨27, .data⟩], none⟩ hHeld ?_
        simp only [Act.put, sA_, sB_, sC_]
        refine wpAnyH_done (by kernel_rfl) ?_ _
        refine NoPanic.normal ?_
        go_wp2_with fail
        go_meet
        case' rel =>
         refine ⟨?_, rfl⟩
         rw [HEE.out.2 (fun hin => absurd (hin.1 ps HPS.out) (by have h2 := HLE.out; omega))]
       ·clear hfit HF0
        have hcz : ln <= 9223372036854775807 := by omega
        have hjl : jj < ln := by omega
        have dj : decide ((0 : Int) < (j : Int)) = true := decide_eq_true (by omega)
        have dj' : decide ((j : Int) > 0) = true := decide_eq_true (by omega)
        have dj2 : decide (0 < j) = true := decide_eq_true (by omega)
        have hwrap : IntKind.i64.wrap ((j : Int) - 1) = (jj : Int) := by rw [show (j : Int) - 1 = (jj : Int) by omega]; exact IntWalk.i64_in _ (by omega)
        have dg2 : decide (sg <= ps) = true := decide_eq_true (by omega)
        have dg : decide ((sg : Int) <= (ps : Int)) = true := decide_eq_true (by omega)
        have HJ := hi_ hjf
        clear hjf
        have HLE := hi_ hle
        have HJJ := hi_ hjj
        clear hle hjj
        refine wp_region_noPanic ?_
        refine wp_region_held_drew (S := fun W => W.cell? ⟨b, o + j * 3, none⟩ = some (.int .u64 (sg : Int)) /\ W.cell? ⟨b, o + j * 3 + 1, none⟩ = some (.slice IA m ic) /\ W.cell? ⟨b, o + jj * 3, none⟩ = some (.int .u64 (ps : Int))) (by kernel_rfl) s11 (fun hHeld => ?_)
        refine tk_ 0 ⟨some 66, .move (.tmp 13), 3, "ref.go:192", #[], none⟩ hHeld ?_
        simp only [Act.put, sA_, sB_, sC_]
        refine tk_ 1 ⟨some 67, .binOp .gtr 3 (.tmp 66) (.const (.int .i64 0)) 3, 4, "ref.go:192", #[⟨0, .data⟩], none⟩ hHeld ?_
        simp only [Act.put, sA_, sB_, sC_]
        refine tk_ 2 ⟨some 68, .move (.tmp 67), 4, "ref.go:192", #[⟨1, .data⟩], none⟩ hHeld ?_
        simp only [Act.put, sA_, sB_, sC_]
        refine tk_ 3 ⟨some 69, .move (.tmp 3), 43, "ref.go:192", #[⟨2, .guard⟩], some (2, true)⟩ hHeld ?_
        simp only [Act.put, sA_, sB_, sC_]
        refine tk_ 4 ⟨some 70, .move (.tmp 13), 3, "ref.go:192", #[⟨2, .guard⟩], some (2, true)⟩ hHeld ?_
        simp only [Act.put, sA_, sB_, sC_]
        refine tk_ 5 ⟨some 71, .indexAddr 43 (.tmp 69) (.tmp 70), 0, "ref.go:192", #[⟨3, .data⟩, ⟨4, .data⟩, ⟨2, .guard⟩], some (2, true)⟩ hHeld ?_
        simp only [Act.put, sA_, sB_, sC_]
        refine tk_ 6 ⟨some 72, .fieldAddr 100 (.tmp 71) 0, 0, "ref.go:192", #[⟨5, .data⟩, ⟨2, .guard⟩], some (2, true)⟩ hHeld ?_
        simp only [Act.put, sA_, sB_, sC_]
        refine tk_ 7 ⟨some 73, .load 68 (.tmp 72), 68, "ref.go:192", #[⟨6, .data⟩, ⟨2, .guard⟩], some (2, true)⟩ hHeld ?_
        simp only [Act.put, sA_, sB_, sC_]
        refine tk_ 8 ⟨some 74, .move (.tmp 3), 43, "ref.go:192", #[⟨2, .guard⟩], some (2, true)⟩ hHeld ?_
        simp only [Act.put, sA_, sB_, sC_]
        refine tk_ 9 ⟨some 75, .move (.tmp 13), 3, "ref.go:192", #[⟨2, .guard⟩], some (2, true)⟩ hHeld ?_
        simp only [Act.put, sA_, sB_, sC_]
        refine tk_ 10 ⟨some 76, .binOp .sub 3 (.tmp 75) (.const (.int .i64 1)) 3, 3, "ref.go:192", #[⟨9, .data⟩, ⟨2, .guard⟩], some (2, true)⟩ hHeld ?_
        simp only [Act.put, sA_, sB_, sC_]
        refine tk_ 11 ⟨some 77, .indexAddr 43 (.tmp 74) (.tmp 76), 0, "ref.go:192", #[⟨8, .data⟩, ⟨10, .data⟩, ⟨2, .guard⟩], some (2, true)⟩ hHeld ?_
        simp only [Act.put, sA_, sB_, sC_]
        refine tk_ 12 ⟨some 78, .fieldAddr 100 (.tmp 77) 0, 0, "ref.go:192", #[⟨11, .data⟩, ⟨2, .guard⟩], some (2, true)⟩ hHeld ?_
        simp only [Act.put, sA_, sB_, sC_]
        refine tk_ 13 ⟨some 79, .load 68 (.tmp 78), 68, "ref.go:192", #[⟨12, .data⟩, ⟨2, .guard⟩], some (2, true)⟩ hHeld ?_
        simp only [Act.put, sA_, sB_, sC_]
        refine tk_ 14 ⟨some 80, .binOp .leq 68 (.tmp 73) (.tmp 79) 68, 4, "ref.go:192", #[⟨7, .data⟩, ⟨13, .data⟩, ⟨2, .guard⟩], some (2, true)⟩ hHeld ?_
        simp only [Act.put, sA_, sB_, sC_]
        refine tk_ 15 ⟨some 81, .pick (.tmp 68) (.tmp 80) (.const (.bool false)), 4, "ref.go:192", #[⟨2, .data⟩, ⟨14, .data⟩], none⟩ hHeld ?_
        simp only [Act.put, sA_, sB_, sC_]
        refine tk_ 16 ⟨some 82, .move (.tmp 81), 4, "ref.go:192", #[⟨15, .data⟩, ⟨2, .chain⟩], none⟩ hHeld ?_
        simp only [Act.put, sA_, sB_, sC_]
        refine sk_ 17 ⟨some 83, .move (.tmp 15), 3, "ref.go:192", #[⟨16, .guard⟩], some (16, false)⟩ hHeld ?_
        simp only [Act.put, sA_, sB_, sC_]
        refine sk_ 18 ⟨some 84, .binOp .neq 3 (.tmp 83) (.const (.int .i64 0)) 3, 4, "ref.go:192", #[⟨17, .data⟩, ⟨16, .guard⟩], some (16, false)⟩ hHeld ?_
        simp only [Act.put, sA_, sB_, sC_]
        refine tk_ 19 ⟨some 85, .pick (.tmp 82) (.const (.bool true)) (.tmp 84), 4, "ref.go:192", #[⟨16, .data⟩, ⟨18, .data⟩], none⟩ hHeld ?_
        simp only [Act.put, sA_, sB_, sC_]
        refine tk_ 20 ⟨some 86, .move (.tmp 85), 4, "ref.go:192", #[⟨19, .data⟩, ⟨16, .chain⟩], none⟩ hHeld ?_
        simp only [Act.put, sA_, sB_, sC_]
        refine sk_ 21 ⟨some 87, .move (.tmp 3), 43, "ref.go:192", #[⟨20, .guard⟩], some (20, false)⟩ hHeld ?_
        simp only [Act.put, sA_, sB_, sC_]
        refine sk_ 22 ⟨some 88, .move (.tmp 13), 3, "ref.go:192", #[⟨20, .guard⟩], some (20, false)⟩ hHeld ?_
        simp only [Act.put, sA_, sB_, sC_]
        refine sk_ 23 ⟨some 89, .indexAddr 43 (.tmp 87) (.tmp 88), 0, "ref.go:192", #[⟨21, .data⟩, ⟨22, .data⟩, ⟨20, .guard⟩], some (20, false)⟩ hHeld ?_
        simp only [Act.put, sA_, sB_, sC_]
        refine sk_ 24 ⟨some 90, .fieldAddr 100 (.tmp 89) 1, 0, "ref.go:192", #[⟨23, .data⟩, ⟨20, .guard⟩], some (20, false)⟩ hHeld ?_
        simp only [Act.put, sA_, sB_, sC_]
        refine sk_ 25 ⟨some 91, .load 66 (.tmp 90), 66, "ref.go:192", #[⟨24, .data⟩, ⟨20, .guard⟩], some (20, false)⟩ hHeld ?_
        simp only [Act.put, sA_, sB_, sC_]
        refine sk_ 26 ⟨some 92, .call { callee := .builtin .len, args := #[.tmp 91], argTypes := #[66] }, 3, "ref.go:192", #[⟨25, .data⟩, ⟨20, .guard⟩], some (20, false)⟩ hHeld ?_
        simp only [Act.put, sA_, sB_, sC_]
        refine sk_ 27 ⟨some 93, .binOp .eql 3 (.tmp 92) (.const (.int .i64 0)) 3, 4, "ref.go:192", #[⟨26, .data⟩, ⟨20, .guard⟩], some (20, false)⟩ hHeld ?_
        simp only [Act.put, sA_, sB_, sC_]
        refine tk_ 28 ⟨some 94, .pick (.tmp 86) (.const (.bool true)) (.tmp 93), 4, "ref.go:192", #[⟨20, .data⟩, ⟨27, .data⟩], none⟩ hHeld ?_
        simp only [Act.put, sA_, sB_, sC_]
        refine wpAnyH_done (by kernel_rfl) ?_ _
        refine NoPanic.normal ?_
        go_wp2_with fail
        go_meet
        case' rel =>
         refine ⟨?_, rfl⟩
         rw [HEE.out.2 (fun hin => absurd (hin.1 ps HPS.out) (by have h2 := HLE.out; omega))]
      ·rcases HF0.out with ⟨rfl, hfit⟩ | ⟨rfl, hfit⟩
       ·have HFIT := hi_ hfit
        clear hfit HF0
        by_cases hmz : m = 0
        ·have hcz : ln <= 9223372036854775807 := by omega
         have hjl : jj < ln := by omega
         have dj : decide ((0 : Int) < (j : Int)) = true := decide_eq_true (by omega)
         have dj' : decide ((j : Int) > 0) = true := decide_eq_true (by omega)
         have dj2 : decide (0 < j) = true := decide_eq_true (by omega)
         have hwrap : IntKind.i64.wrap ((j : Int) - 1) = (jj : Int) := by rw [show (j : Int) - 1 = (jj : Int) by omega]; exact IntWalk.i64_in _ (by omega)
         have dg2 : decide (sg <= ps) = false := decide_eq_false (by omega)
         have dg : decide ((sg : Int) <= (ps : Int)) = false := decide_eq_false (by omega)
         have dm2 : decide (m = 0) = true := decide_eq_true (by omega)
         have dm : decide ((m : Int) = 0) = true := decide_eq_true (by omega)
         have dm' : ((m : Int) == 0) = true := by simp; omega
         have HJ := hi_ hjf
         clear hjf
         have HMZ := hi_ hmz
         clear hmz
         have HLE := hi_ hle
         have HJJ := hi_ hjj
         clear hle hjj
         refine wp_region_noPanic ?_
         refine wp_region_held_drew (S := fun W => W.cell? ⟨b, o + j * 3, none⟩ = some (.int .u64 (sg : Int)) /\ W.cell? ⟨b, o + j * 3 + 1, none⟩ = some (.slice IA m ic) /\ W.cell? ⟨b, o + jj * 3, none⟩ = some (.int .u64 (ps : Int))) (by kernel_rfl) s11 (fun hHeld => ?_)
         refine tk_ 0 ⟨some 66, .move (.tmp 13), 3, "ref.go:192", #[], none⟩ hHeld ?_
         simp only [Act.put, sA_, sB_, sC_]
         refine tk_ 1 ⟨some 67, .binOp .gtr 3 (.tmp 66) (.const (.int .i64 0)) 3, 4, "ref.go:192", #[⟨0, .data⟩], none⟩ hHeld ?_
         simp only [Act.put, sA_, sB_, sC_]
         refine tk_ 2 ⟨some 68, .move (.tmp 67), 4, "ref.go:192", #[⟨1, .data⟩], none⟩ hHeld ?_
         simp only [Act.put, sA_, sB_, sC_]
         refine tk_ 3 ⟨some 69, .move (.tmp 3), 43, "ref.go:192", #[⟨2, .guard⟩], some (2, true)⟩ hHeld ?_
         simp only [Act.put, sA_, sB_, sC_]
         refine tk_ 4 ⟨some 70, .move (.tmp 13), 3, "ref.go:192", #[⟨2, .guard⟩], some (2, true)⟩ hHeld ?_
         simp only [Act.put, sA_, sB_, sC_]
         refine tk_ 5 ⟨some 71, .indexAddr 43 (.tmp 69) (.tmp 70), 0, "ref.go:192", #[⟨3, .data⟩, ⟨4, .data⟩, ⟨2, .guard⟩], some (2, true)⟩ hHeld ?_
         simp only [Act.put, sA_, sB_, sC_]
         refine tk_ 6 ⟨some 72, .fieldAddr 100 (.tmp 71) 0, 0, "ref.go:192", #[⟨5, .data⟩, ⟨2, .guard⟩], some (2, true)⟩ hHeld ?_
         simp only [Act.put, sA_, sB_, sC_]
         refine tk_ 7 ⟨some 73, .load 68 (.tmp 72), 68, "ref.go:192", #[⟨6, .data⟩, ⟨2, .guard⟩], some (2, true)⟩ hHeld ?_
         simp only [Act.put, sA_, sB_, sC_]
         refine tk_ 8 ⟨some 74, .move (.tmp 3), 43, "ref.go:192", #[⟨2, .guard⟩], some (2, true)⟩ hHeld ?_
         simp only [Act.put, sA_, sB_, sC_]
         refine tk_ 9 ⟨some 75, .move (.tmp 13), 3, "ref.go:192", #[⟨2, .guard⟩], some (2, true)⟩ hHeld ?_
         simp only [Act.put, sA_, sB_, sC_]
         refine tk_ 10 ⟨some 76, .binOp .sub 3 (.tmp 75) (.const (.int .i64 1)) 3, 3, "ref.go:192", #[⟨9, .data⟩, ⟨2, .guard⟩], some (2, true)⟩ hHeld ?_
         simp only [Act.put, sA_, sB_, sC_]
         refine tk_ 11 ⟨some 77, .indexAddr 43 (.tmp 74) (.tmp 76), 0, "ref.go:192", #[⟨8, .data⟩, ⟨10, .data⟩, ⟨2, .guard⟩], some (2, true)⟩ hHeld ?_
         simp only [Act.put, sA_, sB_, sC_]
         refine tk_ 12 ⟨some 78, .fieldAddr 100 (.tmp 77) 0, 0, "ref.go:192", #[⟨11, .data⟩, ⟨2, .guard⟩], some (2, true)⟩ hHeld ?_
         simp only [Act.put, sA_, sB_, sC_]
         refine tk_ 13 ⟨some 79, .load 68 (.tmp 78), 68, "ref.go:192", #[⟨12, .data⟩, ⟨2, .guard⟩], some (2, true)⟩ hHeld ?_
         simp only [Act.put, sA_, sB_, sC_]
         refine tk_ 14 ⟨some 80, .binOp .leq 68 (.tmp 73) (.tmp 79) 68, 4, "ref.go:192", #[⟨7, .data⟩, ⟨13, .data⟩, ⟨2, .guard⟩], some (2, true)⟩ hHeld ?_
         simp only [Act.put, sA_, sB_, sC_]
         refine tk_ 15 ⟨some 81, .pick (.tmp 68) (.tmp 80) (.const (.bool false)), 4, "ref.go:192", #[⟨2, .data⟩, ⟨14, .data⟩], none⟩ hHeld ?_
         simp only [Act.put, sA_, sB_, sC_]
         refine tk_ 16 ⟨some 82, .move (.tmp 81), 4, "ref.go:192", #[⟨15, .data⟩, ⟨2, .chain⟩], none⟩ hHeld ?_
         simp only [Act.put, sA_, sB_, sC_]
         refine tk_ 17 ⟨some 83, .move (.tmp 15), 3, "ref.go:192", #[⟨16, .guard⟩], some (16, false)⟩ hHeld ?_
         simp only [Act.put, sA_, sB_, sC_]
         refine tk_ 18 ⟨some 84, .binOp .neq 3 (.tmp 83) (.const (.int .i64 0)) 3, 4, "ref.go:192", #[⟨17, .data⟩, ⟨16, .guard⟩], some (16, false)⟩ hHeld ?_
         simp only [Act.put, sA_, sB_, sC_]
         refine tk_ 19 ⟨some 85, .pick (.tmp 82) (.const (.bool true)) (.tmp 84), 4, "ref.go:192", #[⟨16, .data⟩, ⟨18, .data⟩], none⟩ hHeld ?_
         simp only [Act.put, sA_, sB_, sC_]
         refine tk_ 20 ⟨some 86, .move (.tmp 85), 4, "ref.go:192", #[⟨19, .data⟩, ⟨16, .chain⟩], none⟩ hHeld ?_
         simp only [Act.put, sA_, sB_, sC_]
         refine tk_ 21 ⟨some 87, .move (.tmp 3), 43, "ref.go:192", #[⟨20, .guard⟩], some (20, false)⟩ hHeld ?_
         simp only [Act.put, sA_, sB_, sC_]
         refine tk_ 22 ⟨some 88, .move (.tmp 13), 3, "ref.go:192", #[⟨20, .guard⟩], some (20, false)⟩ hHeld ?_
         simp only [Act.put, sA_, sB_, sC_]
         refine tk_ 23 ⟨some 89, .indexAddr 43 (.tmp 87) (.tmp 88), 0, "ref.go:192", #[⟨21, .data⟩, ⟨22, .data⟩, ⟨20, .guard⟩], some (20, false)⟩ hHeld ?_
         simp only [Act.put, sA_, sB_, sC_]
         refine tk_ 24 ⟨some 90, .fieldAddr 100 (.tmp 89) 1, 0, "ref.go:192", #[⟨23, .data⟩, ⟨20, .guard⟩], some (20, false)⟩ hHeld ?_
         simp only [Act.put, sA_, sB_, sC_]
         refine tk_ 25 ⟨some 91, .load 66 (.tmp 90), 66, "ref.go:192", #[⟨24, .data⟩, ⟨20, .guard⟩], some (20, false)⟩ hHeld ?_
         simp only [Act.put, sA_, sB_, sC_]
         refine tk_ 26 ⟨some 92, .call { callee := .builtin .len, args := #[.tmp 91], argTypes := #[66] }, 3, "ref.go:192", #[⟨25, .data⟩, ⟨20, .guard⟩], some (20, false)⟩ hHeld ?_
         simp only [Act.put, sA_, sB_, sC_]
         refine tk_ 27 ⟨some 93, .binOp .eql 3 (.tmp 92) (.const (.int .i64 0)) 3, 4, "ref.go:192", #[⟨26, .data⟩, ⟨20, .guard⟩], some (20, false)⟩ hHeld ?_
         simp only [Act.put, sA_, sB_, sC_]
         refine tk_ 28 ⟨some 94, .pick (.tmp 86) (.const (.bool true)) (.tmp 93), 4, "ref.go:192", #[⟨20, .data⟩, ⟨27, .data⟩], none⟩ hHeld ?_
         simp only [Act.put, sA_, sB_, sC_]
         refine wpAnyH_done (by kernel_rfl) ?_ _
         refine NoPanic.normal ?_
         go_wp2_with fail
         go_meet
         case' rel =>
          refine ⟨?_, rfl⟩
          rw [HEE.out.2 (fun hin => hin.2.1 (List.eq_nil_of_length_eq_zero (by show ids.length = 0; rw [<- HMQ.out.1]; exact HMZ.out)))]
        ·have hcz : ln <= 9223372036854775807 := by omega
         have hjl : jj < ln := by omega
         have dj : decide ((0 : Int) < (j : Int)) = true := decide_eq_true (by omega)
         have dj' : decide ((j : Int) > 0) = true := decide_eq_true (by omega)
         have dj2 : decide (0 < j) = true := decide_eq_true (by omega)
         have hwrap : IntKind.i64.wrap ((j : Int) - 1) = (jj : Int) := by rw [show (j : Int) - 1 = (jj : Int) by omega]; exact IntWalk.i64_in _ (by omega)
         have dg2 : decide (sg <= ps) = false := decide_eq_false (by omega)
         have dg : decide ((sg : Int) <= (ps : Int)) = false := decide_eq_false (by omega)
         have dm2 : decide (m = 0) = false := decide_eq_false (by omega)
         have dm : decide ((m : Int) = 0) = false := decide_eq_false (by omega)
         have dm' : ((m : Int) == 0) = false := by simp; omega
         have HJ := hi_ hjf
         clear hjf
         have HMZ := hi_ hmz
         clear hmz
         have HLE := hi_ hle
         have HJJ := hi_ hjj
         clear hle hjj
         refine wp_region_noPanic ?_
         refine wp_region_held_drew (S := fun W => W.cell? ⟨b, o + j * 3, none⟩ = some (.int .u64 (sg : Int)) /\ W.cell? ⟨b, o + j * 3 + 1, none⟩ = some (.slice IA m ic) /\ W.cell? ⟨b, o + jj * 3, none⟩ = some (.int .u64 (ps : Int))) (by kernel_rfl) s11 (fun hHeld => ?_)
         refine tk_ 0 ⟨some 66, .move (.tmp 13), 3, "ref.go:192", #[], none⟩ hHeld ?_
         simp only [Act.put, sA_, sB_, sC_]
         refine tk_ 1 ⟨some 67, .binOp .gtr 3 (.tmp 66) (.const (.int .i64 0)) 3, 4, "ref.go:192", #[⟨0, .data⟩], none⟩ hHeld ?_
         simp only [Act.put, sA_, sB_, sC_]
         refine tk_ 2 ⟨some 68, .move (.tmp 67), 4, "ref.go:192", #[⟨1, .data⟩], none⟩ hHeld ?_
         simp only [Act.put, sA_, sB_, sC_]
         refine tk_ 3 ⟨some 69, .move (.tmp 3), 43, "ref.go:192", #[⟨2, .guard⟩], some (2, true)⟩ hHeld ?_
         simp only [Act.put, sA_, sB_, sC_]
         refine tk_ 4 ⟨some 70, .move (.tmp 13), 3, "ref.go:192", #[⟨2, .guard⟩], some (2, true)⟩ hHeld ?_
         simp only [Act.put, sA_, sB_, sC_]
         refine tk_ 5 ⟨some 71, .indexAddr 43 (.tmp 69) (.tmp 70), 0, "ref.go:192", #[⟨3, .data⟩, ⟨4, .data⟩, ⟨2, .guard⟩], some (2, true)⟩ hHeld ?_
         simp only [Act.put, sA_, sB_, sC_]
         refine tk_ 6 ⟨some 72, .fieldAddr 100 (.tmp 71) 0, 0, "ref.go:192", #[⟨5, .data⟩, ⟨2, .guard⟩], some (2, true)⟩ hHeld ?_
         simp only [Act.put, sA_, sB_, sC_]
         refine tk_ 7 ⟨some 73, .load 68 (.tmp 72), 68, "ref.go:192", #[⟨6, .data⟩, ⟨2, .guard⟩], some (2, true)⟩ hHeld ?_
         simp only [Act.put, sA_, sB_, sC_]
         refine tk_ 8 ⟨some 74, .move (.tmp 3), 43, "ref.go:192", #[⟨2, .guard⟩], some (2, true)⟩ hHeld ?_
         simp only [Act.put, sA_, sB_, sC_]
         refine tk_ 9 ⟨some 75, .move (.tmp 13), 3, "ref.go:192", #[⟨2, .guard⟩], some (2, true)⟩ hHeld ?_
         simp only [Act.put, sA_, sB_, sC_]
         refine tk_ 10 ⟨some 76, .binOp .sub 3 (.tmp 75) (.const (.int .i64 1)) 3, 3, "ref.go:192", #[⟨9, .data⟩, ⟨2, .guard⟩], some (2, true)⟩ hHeld ?_
         simp only [Act.put, sA_, sB_, sC_]
         refine tk_ 11 ⟨some 77, .indexAddr 43 (.tmp 74) (.tmp 76), 0, "ref.go:192", #[⟨8, .data⟩, ⟨10, .data⟩, ⟨2, .guard⟩], some (2, true)⟩ hHeld ?_
         simp only [Act.put, sA_, sB_, sC_]
         refine tk_ 12 ⟨some 78, .fieldAddr 100 (.tmp 77) 0, 0, "ref.go:192", #[⟨11, .data⟩, ⟨2, .guard⟩], some (2, true)⟩ hHeld ?_
         simp only [Act.put, sA_, sB_, sC_]
         refine tk_ 13 ⟨some 79, .load 68 (.tmp 78), 68, "ref.go:192", #[⟨12, .data⟩, ⟨2, .guard⟩], some (2, true)⟩ hHeld ?_
         simp only [Act.put, sA_, sB_, sC_]
         refine tk_ 14 ⟨some 80, .binOp .leq 68 (.tmp 73) (.tmp 79) 68, 4, "ref.go:192", #[⟨7, .data⟩, ⟨13, .data⟩, ⟨2, .guard⟩], some (2, true)⟩ hHeld ?_
         simp only [Act.put, sA_, sB_, sC_]
         refine tk_ 15 ⟨some 81, .pick (.tmp 68) (.tmp 80) (.const (.bool false)), 4, "ref.go:192", #[⟨2, .data⟩, ⟨14, .data⟩], none⟩ hHeld ?_
         simp only [Act.put, sA_, sB_, sC_]
         refine tk_ 16 ⟨some 82, .move (.tmp 81), 4, "ref.go:192", #[⟨15, .data⟩, ⟨2, .chain⟩], none⟩ hHeld ?_
         simp only [Act.put, sA_, sB_, sC_]
         refine tk_ 17 ⟨some 83, .move (.tmp 15), 3, "ref.go:192", #[⟨16, .guard⟩], some (16, false)⟩ hHeld ?_
         simp only [Act.put, sA_, sB_, sC_]
         refine tk_ 18 ⟨some 84, .binOp .neq 3 (.tmp 83) (.const (.int .i64 0)) 3, 4, "ref.go:192", #[⟨17, .data⟩, ⟨16, .guard⟩], some (16, false)⟩ hHeld ?_
         simp only [Act.put, sA_, sB_, sC_]
         refine tk_ 19 ⟨some 85, .pick (.tmp 82) (.const (.bool true)) (.tmp 84), 4, "ref.go:192", #[⟨16, .data⟩, ⟨18, .data⟩], none⟩ hHeld ?_
         simp only [Act.put, sA_, sB_, sC_]
         refine tk_ 20 ⟨some 86, .move (.tmp 85), 4, "ref.go:192", #[⟨19, .data⟩, ⟨16, .chain⟩], none⟩ hHeld ?_
         simp only [Act.put, sA_, sB_, sC_]
         refine tk_ 21 ⟨some 87, .move (.tmp 3), 43, "ref.go:192", #[⟨20, .guard⟩], some (20, false)⟩ hHeld ?_
         simp only [Act.put, sA_, sB_, sC_]
         refine tk_ 22 ⟨some 88, .move (.tmp 13), 3, "ref.go:192", #[⟨20, .guard⟩], some (20, false)⟩ hHeld ?_
         simp only [Act.put, sA_, sB_, sC_]
         refine tk_ 23 ⟨some 89, .indexAddr 43 (.tmp 87) (.tmp 88), 0, "ref.go:192", #[⟨21, .data⟩, ⟨22, .data⟩, ⟨20, .guard⟩], some (20, false)⟩ hHeld ?_
         simp only [Act.put, sA_, sB_, sC_]
         refine tk_ 24 ⟨some 90, .fieldAddr 100 (.tmp 89) 1, 0, "ref.go:192", #[⟨23, .data⟩, ⟨20, .guard⟩], some (20, false)⟩ hHeld ?_
         simp only [Act.put, sA_, sB_, sC_]
         refine tk_ 25 ⟨some 91, .load 66 (.tmp 90), 66, "ref.go:192", #[⟨24, .data⟩, ⟨20, .guard⟩], some (20, false)⟩ hHeld ?_
         simp only [Act.put, sA_, sB_, sC_]
         refine tk_ 26 ⟨some 92, .call { callee := .builtin .len, args := #[.tmp 91], argTypes := #[66] }, 3, "ref.go:192", #[⟨25, .data⟩, ⟨20, .guard⟩], some (20, false)⟩ hHeld ?_
         simp only [Act.put, sA_, sB_, sC_]
         refine tk_ 27 ⟨some 93, .binOp .eql 3 (.tmp 92) (.const (.int .i64 0)) 3, 4, "ref.go:192", #[⟨26, .data⟩, ⟨20, .guard⟩], some (20, false)⟩ hHeld ?_
         simp only [Act.put, sA_, sB_, sC_]
         refine tk_ 28 ⟨some 94, .pick (.tmp 86) (.const (.bool true)) (.tmp 93), 4, "ref.go:192", #[⟨20, .data⟩, ⟨27, .data⟩], none⟩ hHeld ?_
         simp only [Act.put, sA_, sB_, sC_]
         refine wpAnyH_done (by kernel_rfl) ?_ _
         refine NoPanic.normal ?_
         go_wp2_with fail
         go_meet
         case' rel =>
          refine ⟨?_, rfl⟩
          rw [show E = false from Bool.eq_false_iff.2 (fun h => HEE.out.1 h (⟨fun s' e => by rw [HPS.out] at e; injection e with e; have h2 := HLE.out; omega, fun e => HMZ.out (by rw [HMQ.out.1]; show ids.length = 0; rw [show ids = [] from e]; rfl), HFIT.out⟩))]
       ·have HFIT := hi_ hfit
        clear hfit HF0
        have hcz : ln <= 9223372036854775807 := by omega
        have hjl : jj < ln := by omega
        have dj : decide ((0 : Int) < (j : Int)) = true := decide_eq_true (by omega)
        have dj' : decide ((j : Int) > 0) = true := decide_eq_true (by omega)
        have dj2 : decide (0 < j) = true := decide_eq_true (by omega)
        have hwrap : IntKind.i64.wrap ((j : Int) - 1) = (jj : Int) := by rw [show (j : Int) - 1 = (jj : Int) by omega]; exact IntWalk.i64_in _ (by omega)
        have dg2 : decide (sg <= ps) = false := decide_eq_false (by omega)
        have dg : decide ((sg : Int) <= (ps : Int)) = false := decide_eq_false (by omega)
        have HJ := hi_ hjf
        clear hjf
        have HLE := hi_ hle
        have HJJ := hi_ hjj
        clear hle hjj
        refine wp_region_noPanic ?_
        refine wp_region_held_drew (S := fun W => W.cell? ⟨b, o + j * 3, none⟩ = some (.int .u64 (sg : Int)) /\ W.cell? ⟨b, o + j * 3 + 1, none⟩ = some (.slice IA m ic) /\ W.cell? ⟨b, o + jj * 3, none⟩ = some (.int .u64 (ps : Int))) (by kernel_rfl) s11 (fun hHeld => ?_)
        refine tk_ 0 ⟨some 66, .move (.tmp 13), 3, "ref.go:192", #[], none⟩ hHeld ?_
        simp only [Act.put, sA_, sB_, sC_]
        refine tk_ 1 ⟨some 67, .binOp .gtr 3 (.tmp 66) (.const (.int .i64 0)) 3, 4, "ref.go:192", #[⟨0, .data⟩], none⟩ hHeld ?_
        simp only [Act.put, sA_, sB_, sC_]
        refine tk_ 2 ⟨some 68, .move (.tmp 67), 4, "ref.go:192", #[⟨1, .data⟩], none⟩ hHeld ?_
        simp only [Act.put, sA_, sB_, sC_]
        refine tk_ 3 ⟨some 69, .move (.tmp 3), 43, "ref.go:192", #[⟨2, .guard⟩], some (2, true)⟩ hHeld ?_
        simp only [Act.put, sA_, sB_, sC_]
        refine tk_ 4 ⟨some 70, .move (.tmp 13), 3, "ref.go:192", #[⟨2, .guard⟩], some (2, true)⟩ hHeld ?_
        simp only [Act.put, sA_, sB_, sC_]
        refine tk_ 5 ⟨some 71, .indexAddr 43 (.tmp 69) (.tmp 70), 0, "ref.go:192", #[⟨3, .data⟩, ⟨4, .data⟩, ⟨2, .guard⟩], some (2, true)⟩ hHeld ?_
        simp only [Act.put, sA_, sB_, sC_]
        refine tk_ 6 ⟨some 72, .fieldAddr 100 (.tmp 71) 0, 0, "ref.go:192", #[⟨5, .data⟩, ⟨2, .guard⟩], some (2, true)⟩ hHeld ?_
        simp only [Act.put, sA_, sB_, sC_]
        refine tk_ 7 ⟨some 73, .load 68 (.tmp 72), 68, "ref.go:192", #[⟨6, .data⟩, ⟨2, .guard⟩], some (2, true)⟩ hHeld ?_
        simp only [Act.put, sA_, sB_, sC_]
        refine tk_ 8 ⟨some 74, .move (.tmp 3), 43, "ref.go:192", #[⟨2, .guard⟩], some (2, true)⟩ hHeld ?_
        simp only [Act.put, sA_, sB_, sC_]
        refine tk_ 9 ⟨some 75, .move (.tmp 13), 3, "ref.go:192", #[⟨2, .guard⟩], some (2, true)⟩ hHeld ?_
        simp only [Act.put, sA_, sB_, sC_]
        refine tk_ 10 ⟨some 76, .binOp .sub 3 (.tmp 75) (.const (.int .i64 1)) 3, 3, "ref.go:192", #[⟨9, .data⟩, ⟨2, .guard⟩], some (2, true)⟩ hHeld ?_
        simp only [Act.put, sA_, sB_, sC_]
        refine tk_ 11 ⟨some 77, .indexAddr 43 (.tmp 74) (.tmp 76), 0, "ref.go:192", #[⟨8, .data⟩, ⟨10, .data⟩, ⟨2, .guard⟩], some (2, true)⟩ hHeld ?_
        simp only [Act.put, sA_, sB_, sC_]
        refine tk_ 12 ⟨some 78, .fieldAddr 100 (.tmp 77) 0, 0, "ref.go:192", #[⟨11, .data⟩, ⟨2, .guard⟩], some (2, true)⟩ hHeld ?_
        simp only [Act.put, sA_, sB_, sC_]
        refine tk_ 13 ⟨some 79, .load 68 (.tmp 78), 68, "ref.go:192", #[⟨12, .data⟩, ⟨2, .guard⟩], some (2, true)⟩ hHeld ?_
        simp only [Act.put, sA_, sB_, sC_]
        refine tk_ 14 ⟨some 80, .binOp .leq 68 (.tmp 73) (.tmp 79) 68, 4, "ref.go:192", #[⟨7, .data⟩, ⟨13, .data⟩, ⟨2, .guard⟩], some (2, true)⟩ hHeld ?_
        simp only [Act.put, sA_, sB_, sC_]
        refine tk_ 15 ⟨some 81, .pick (.tmp 68) (.tmp 80) (.const (.bool false)), 4, "ref.go:192", #[⟨2, .data⟩, ⟨14, .data⟩], none⟩ hHeld ?_
        simp only [Act.put, sA_, sB_, sC_]
        refine tk_ 16 ⟨some 82, .move (.tmp 81), 4, "ref.go:192", #[⟨15, .data⟩, ⟨2, .chain⟩], none⟩ hHeld ?_
        simp only [Act.put, sA_, sB_, sC_]
        refine tk_ 17 ⟨some 83, .move (.tmp 15), 3, "ref.go:192", #[⟨16, .guard⟩], some (16, false)⟩ hHeld ?_
        simp only [Act.put, sA_, sB_, sC_]
        refine tk_ 18 ⟨some 84, .binOp .neq 3 (.tmp 83) (.const (.int .i64 0)) 3, 4, "ref.go:192", #[⟨17, .data⟩, ⟨16, .guard⟩], some (16, false)⟩ hHeld ?_
        simp only [Act.put, sA_, sB_, sC_]
        refine tk_ 19 ⟨some 85, .pick (.tmp 82) (.const (.bool true)) (.tmp 84), 4, "ref.go:192", #[⟨16, .data⟩, ⟨18, .data⟩], none⟩ hHeld ?_
        simp only [Act.put, sA_, sB_, sC_]
        refine tk_ 20 ⟨some 86, .move (.tmp 85), 4, "ref.go:192", #[⟨19, .data⟩, ⟨16, .chain⟩], none⟩ hHeld ?_
        simp only [Act.put, sA_, sB_, sC_]
        refine sk_ 21 ⟨some 87, .move (.tmp 3), 43, "ref.go:192", #[⟨20, .guard⟩], some (20, false)⟩ hHeld ?_
        simp only [Act.put, sA_, sB_, sC_]
        refine sk_ 22 ⟨some 88, .move (.tmp 13), 3, "ref.go:192", #[⟨20, .guard⟩], some (20, false)⟩ hHeld ?_
        simp only [Act.put, sA_, sB_, sC_]
        refine sk_ 23 ⟨some 89, .indexAddr 43 (.tmp 87) (.tmp 88), 0, "ref.go:192", #[⟨21, .data⟩, ⟨22, .data⟩, ⟨20, .guard⟩], some (20, false)⟩ hHeld ?_
        simp only [Act.put, sA_, sB_, sC_]
        refine sk_ 24 ⟨some 90, .fieldAddr 100 (.tmp 89) 1, 0, "ref.go:192", #[⟨23, .data⟩, ⟨20, .guard⟩], some (20, false)⟩ hHeld ?_
        simp only [Act.put, sA_, sB_, sC_]
        refine sk_ 25 ⟨some 91, .load 66 (.tmp 90), 66, "ref.go:192", #[⟨24, .data⟩, ⟨20, .guard⟩], some (20, false)⟩ hHeld ?_
        simp only [Act.put, sA_, sB_, sC_]
        refine sk_ 26 ⟨some 92, .call { callee := .builtin .len, args := #[.tmp 91], argTypes := #[66] }, 3, "ref.go:192", #[⟨25, .data⟩, ⟨20, .guard⟩], some (20, false)⟩ hHeld ?_
        simp only [Act.put, sA_, sB_, sC_]
        refine sk_ 27 ⟨some 93, .binOp .eql 3 (.tmp 92) (.const (.int .i64 0)) 3, 4, "ref.go:192", #[⟨26, .data⟩, ⟨20, .guard⟩], some (20, false)⟩ hHeld ?_
        simp only [Act.put, sA_, sB_, sC_]
        refine tk_ 28 ⟨some 94, .pick (.tmp 86) (.const (.bool true)) (.tmp 93), 4, "ref.go:192", #[⟨20, .data⟩, ⟨27, .data⟩], none⟩ hHeld ?_
        simp only [Act.put, sA_, sB_, sC_]
        refine wpAnyH_done (by kernel_rfl) ?_ _
        refine NoPanic.normal ?_
        go_wp2_with fail
        go_meet
        case' rel =>
         refine ⟨?_, rfl⟩
         rw [HEE.out.2 (fun hin => HFIT.out hin.2.2)]
    case rest =>
     obtain ⟨rfl, rfl⟩ := hcut
     cases E with
     | true =>
      have R8 := hi_ (show Rec 41 wc.drew (w.heap.size + 1) (stC none 0 0 none 0 0 none 0 0) from R2.out.under (HH.out.1.trans ((HC.out.2.1.drew).mono HH.out.1.size)))
      go_wp2_with (first
       | ((with_reducible refine wpList_stS (cs' := stC none 0 0 none 0 0 none 0 0) stT rfl rfl (by simp [Value.oneCell']) rfl (.tmp 8) (.tmp 95) rfl rfl rfl R8.out ?_); intro w9 hR9 hF9)
       | (refine bodyPost_ret (res_ct rfl rfl (hR9.load stT rfl)) rfl ?_
          exact RLdA.no ((HH.out.2.2.1.trans ((HC.out.2.1.drew).mono HH.out.2.2.1.size)).trans (hF9.toBelow (fun y hy => by rw [show y = w.heap.size + 1 from hy]; omega) (Nat.le_trans HH.out.2.2.1.size HC.out.2.1.size))) (fun h => HEE.out.1 (by first | rfl | trivial) (h.rows j (sg, ids, cols) HH.out.2.1))))
     | false =>
      obtain ⟨hgx, hb5, hcase⟩ := HC.out
      have hin : RowIn n (zsK ks) xs j (sg, ids, cols) := Classical.not_not.1 (fun h => by have := HEE.out.2 h; cases this)
      rcases hcase with ⟨_, hf0, d, Kd2, hrd, hE2, hKd⟩ | ⟨hno, _⟩
      rotate_left 1
      ·exact absurd hin.2.2 hno
      subst hf0
      obtain ⟨vs2, hl2, hV2, hH2⟩ := (show EntsV Kd2 wc.drew d.RA d.rn (rowT n (zsK ks) (sg, ids, cols)).rows from hE2)
      have g2 : wc.drew.cell? ⟨gx, 2, none⟩ = some (.slice d.RA d.rn d.rc) := hrd.at_ 2
      have hG6 := Gr.below EE.ok hG.out hb5.drew
      have hone : ∀ u ∈ vs2, u.oneCell' = true := hH2.one (fun _ _ hx => EE.one hx)
      have hrn : d.rn <= 60 := by
       rw [<- hl2, <- List.length_map (f := fun e : En => e.1), rowT_ids, <- HMQ.out.1]
       exact hf60
      have hen := hEL.out
      have HV := hi_ (And.intro hV2 (And.intro hone (And.intro hrn (And.intro hen (And.intro hH2 (And.intro hl2 (And.intro hin hKd)))))))
      have HG6 := hi_ hG6
      have hw41 : w.heap.size <= w4.heap.size := Nat.le_trans HB.out.1.size hs45
      have HBC := hi_ (And.intro (hB4.out.trans (hb5.drew.mono hB4.out.size)) (And.intro hb5 hw41))
      obtain ⟨en1, hen1⟩ : ∃ q, q = (entsTo n (zsK ks) xs j).length := ⟨_, rfl⟩
      have HEN := hi_ hen1
      clear hV2 hone hrn hen hH2 hl2 hin hKd hG6 hE2 hrd hgx hb5 hw41 hen1
      go_wp2_with (at_builtin; refine wpList_appX (K := Kd2) entsT rfl (.tmp 96) (.tmp 98) rfl w4.heap.size _ en1 vs rfl (by have := HG6.out.ow; rw [<- HEN.out] at this; exact this) d.RA d.rn d.rc vs2 rfl HV.out.1 HV.out.2.1 (by have h1 := HV.out.2.2.1; have h2 := HV.out.2.2.2.1; rw [<- HEN.out] at h2; omega) (by decide) HG6.out.Bw ?_; intro v9 w9 ho9 hg9 hv9; have G9 := hi_ (HG6.out.puts EE.ok (ys := (rowT n (zsK ks) (sg, ids, cols)).rows) HV.out.2.2.2.2.1 (fun y hy e => by have h1 := own_geB hG.out.ow e; have h2 := HBC.out.2.2; rcases HV.out.2.2.2.2.2.2.2 y hy with h | h <;> omega) (by rw [HV.out.2.2.2.2.2.1, <- HEN.out]; exact ho9) hg9 hv9); have F9 := hi_ ((Fr.grown (own := fun y => w4.heap.size <= y) hg9 (fun x hx => (own_geB HG6.out.ow hx).1)).toBelow (fun _ h => h) HG6.out.Bw); clear ho9 hg9 hv9)
      go_roundw
      case rel =>
       have hes := entsTo_succ (n := n) (zs := zsK ks) HH.out.2.1
       refine ⟨j + 1, _, _, hjn, by go_num, hi_ (fun i r hi hr => ?_), hi_ (by rw [hes]; exact G9.out), hi_ (HBC.out.1.trans F9.out), hi_ ?_⟩
       ·by_cases e : i = j
        ·subst e
         rw [HH.out.2.1] at hr
         injection hr with hr
         subst hr
         exact HV.out.2.2.2.2.2.2.1
        ·exact hrows.out i r (by omega) hr
       ·rw [hes, List.length_append, HV.out.2.2.2.2.2.1]
        have h1 := HV.out.2.2.1
        have h2 := HV.out.2.2.2.1
        omega
      case measure => simp [intOf]; omega
  ·obtain rfl : j = ln := by omega
   obtain ⟨wo, hwo⟩ : ∃ v, v = wr := ⟨_, rfl⟩
   subst hwo
   obtain ⟨al, hal⟩ : ∃ l, l = entsTo n (zsK ks) xs j := ⟨_, rfl⟩
   have hG' := hG.out
   have hEL' := hEL.out
   rw [<- hal] at hG' hEL'
   obtain ⟨AA, ac, hov, hac, _, hrw⟩ := hG'.rows EE.ok
   obtain ⟨an, han⟩ : ∃ a, a = al.length := ⟨_, rfl⟩
   rw [<- han] at hov hrw hac hEL'
   subst hov
   have HKA : Hid (∃ KA : Nat -> Prop, (∀ y, KA y -> y < wo.heap.size) /\ EntsV KA wo AA an al) := hi_ ⟨_, fun y hy => hy.elim (fun h => (hG'.dx y h).1) (fun h => h.2), hrw⟩
   obtain ⟨w5, hw5⟩ : ∃ w5, w5 = wo.alloc (.cells (stC GA gN gc FA fN fc none 0 0) 41) := ⟨_, rfl⟩
   obtain ⟨gS, hgS⟩ : ∃ g, g = wo.heap.size := ⟨_, rfl⟩
   have hb5 : Below wo.heap.size wo w5 := by rw [hw5]; exact (Below.refl _ _).alloc (Nat.le_refl _) _
   have HR5 := hi_ (show Rec 41 w5 gS (stC GA gN gc FA fN fc none 0 0) by rw [hw5, hgS]; exact Rec.new wo _ _)
   have HS5 := hi_ (show w5.heap.size = gS + 1 by rw [hw5, hgS]; simp)
   have hwr : Below w.heap.size w wo := HB.out.1.trans (hB.mono HB.out.1.size)
   have HWR := hi_ (And.intro hwr (And.intro hb5 (And.intro hB (And.intro hB4.out hgS))))
   have HAL := hi_ (And.intro hal (And.intro han hEL'))
   have hal60 : an <= 2400 := by omega
   have HROWS := hi_ hrows.out
   clear hal han hG' hrw hEL' hG hEL hB hB4 hrows hb5 hwr
   go_wp2_with (first | (rw [<- hw5]; clear hw5))
   rw [<- hgS]
   clear hgS
   obtain ⟨B, hBB⟩ : ∃ B, B = w5.heap.size := ⟨_, rfl⟩
   have HBB := hi_ hBB
   clear hBB
   go_loopw [17] (fun iv wl => ∃ (i : Nat) (EA : Option Addr) (el ec : Nat) (vs : List Value) (D : Nat -> Prop), i <= gN /\ iv = .int .i64 i /\ Hid (el = (entsBy i al).length) /\ Hid (∀ e ∈ al, 0 <= e.1.1 -> e.1.1 < i -> s.alive e.1.1 e.1.2 = true) /\ Hid (Gr EE 95 3 wl B (.slice EA el ec) vs D (entsBy i al)) /\ Hid (Rec 41 wl gS (stC GA gN gc FA fN fc EA el ec)) /\ Hid (∀ y, D y -> y < gS) /\ Hid (Fr (fun y => y = gS \/ B <= y) w5 wl)) (fun iv _ => gN - (intOf iv).toNat)
   case atStart => exact ⟨0, none, 0, 0, [], fun _ => False, Nat.zero_le _, rfl, hi_ rfl, hi_ (fun _ _ h1 h2 => by omega), hi_ (Gr.start (World.ownsRow_nil _ _ _ _) (Nat.le_of_eq HBB.out)), HR5, hi_ (fun _ h => h.elim), hi_ (Fr.refl _ _)⟩
   case round =>
    obtain ⟨i, EA, el, ec, vs2, D2, hi, rfl, hel, hoks, hG2, hR2, hD2, hF2⟩ := hrel
    have hgB : B = gS + 1 := by rw [HBB.out, HS5.out]
    have hwl : Below w.heap.size w wr := (HWR.out.1.trans (HWR.out.2.1.mono HWR.out.1.size)).trans (hF2.out.toBelow (fun y hy => by have h1 := HWR.out.1.size; have h2 := HWR.out.2.2.2.2; rcases hy with h | h <;> omega) (by have h1 := HWR.out.1.size; have h2 := HWR.out.2.1.size; omega))
    have h4l : Below w4.heap.size w4 wr := (HWR.out.2.2.2.1.trans (HWR.out.2.1.mono HWR.out.2.2.2.1.size)).trans (hF2.out.toBelow (fun y hy => by have h1 := HWR.out.2.2.2.1.size; have h2 := HWR.out.2.2.2.2; rcases hy with h | h <;> omega) (by have h1 := HWR.out.2.2.2.1.size; have h2 := HWR.out.2.1.size; omega))
    have HWL := hi_ (And.intro hwl (And.intro h4l hgB))
    have rI : Rec 123 wr w3.heap.size #[.int .i64 (nears en 1024), .int .i64 (nears gn 1073741824), .slice GA gN gc, .slice FA fN fc] := R4.out.under h4l
    have RI := hi_ rI
    by_cases hin : i < gN
    ·obtain ⟨⟨⟨a1, a2⟩, av⟩, hat⟩ : ∃ p, p = s.at_ i := ⟨_, rfl⟩
     have CAT : Hid (Calls Tryz.prog 55 #[.agg #[.int .i64 (nears en 1024), .int .i64 (nears gn 1073741824), .slice GA gN gc, .slice FA fN fc], .int .i64 (i : Int)] wr fun e w' => e = .returned (.tuple #[.agg #[.int .i64 a1, .int .i64 a2], .bool av]) /\ Below wr.heap.size wr w') := hi_ (by
      have h := RAt_any (K := fun _ => True) (d := ⟨nears en 1024, nears gn 1073741824, GA, gN, gc, FA, fN, fc⟩) (s := s) (w := wr) ⟨by rw [HS.out]; show nears en 1024 = ((nears en 1024).toNat : Int); have h := (nears_bounds en 1024 (by decide)).1; omega, by rw [HS.out]; rfl, by rw [HSG.out]; exact HGF.out.1.1.symm, by rw [HS.out]; exact HGF.out.2.1.symm, ⟨by rw [HSG.out]; exact HGF.out.1.below hwl, fun _ _ _ _ => trivial⟩, ⟨by rw [HS.out]; exact HGF.out.2.below hwl, fun _ _ _ _ => trivial⟩, hgc, hfc⟩ (by rw [HS.out]; show fs.length <= _; rw [HGF.out.2.1]; omega) i
      rw [<- hat] at h
      exact h)
     have HAT := hi_ hat
     clear hat hwl h4l rI
     go_upto_region 22 with (first
      | ((with_reducible refine wpList_ldS idsT6 rfl rfl (.tmp 10) rfl rfl RI.out ?_))
      | (go_at_call 55; refine CAT.out.mono ?_; rintro e w6 ⟨rfl, hb6⟩; have HB6 := hi_ hb6; clear hb6))
     obtain ⟨w7, hw7⟩ : ∃ v, v = w6.alloc (.cells #[.int .i64 a1, .int .i64 a2] 32) := ⟨_, rfl⟩
     obtain ⟨gI, hgI⟩ : ∃ g, g = w6.heap.size := ⟨_, rfl⟩
     have hb7 : Below w6.heap.size w6 w7 := by rw [hw7]; exact (Below.refl _ _).alloc (Nat.le_refl _) _
     have R7 := hi_ (show Rec 32 w7 gI #[.int .i64 a1, .int .i64 a2] by rw [hw7, hgI]; exact Rec.new w6 _ _)
     have hbi : Below wr.heap.size wr w7 := HB6.out.trans (hb7.mono HB6.out.size)
     obtain ⟨wi, hwi⟩ : ∃ v, v = wr := ⟨_, rfl⟩
     subst hwi
     have hSI := hi_ (show gS < gI by rw [hgI]; exact Nat.lt_of_lt_of_le hR2.out.lt HB6.out.size)
     have G7 := hi_ (Gr.below EE.ok hG2.out hbi)
     have S7 := hi_ (hR2.out.under hbi)
     have F7 := hi_ (hF2.out.trans (Fr.ofBelow _ hbi))
     rw [<- hw7, <- hgI]
     clear hw7 hgI hbi hb7
     go_loopw [20] (fun qv ww => ∃ (q : Nat) (EA : Option Addr) (el ec : Nat) (vs : List Value) (D : Nat -> Prop), q <= an /\ qv = .int .i64 q /\ Hid (el = (ent3 i al q).length) /\ Hid (∀ e ∈ al.take q, e.1.1 = (i : Int) -> s.alive e.1.1 e.1.2 = true) /\ Hid (Gr EE 95 3 ww B (.slice EA el ec) vs D (ent3 i al q)) /\ Hid (Rec 41 ww gS (stC GA gN gc FA fN fc EA el ec)) /\ Hid (∀ y, D y -> y < gS) /\ Hid (Fr (fun y => y = gS \/ B <= y) w5 ww) /\ Hid (Rec 32 ww gI #[.int .i64 a1, .int .i64 a2])) (fun qv _ => an - (intOf qv).toNat)
     case atStart => exact ⟨0, EA, el, ec, vs2, D2, Nat.zero_le _, rfl, hi_ (by rw [ent3_zero]; exact hel.out), hi_ (fun e he => absurd he (by simp)), hi_ (by rw [ent3_zero]; exact G7.out), S7, hD2, F7, R7⟩
     case round =>
      obtain ⟨q, EA3, el3, ec3, vs3, D3, hq, rfl, hel3, hok3, hG3, hR3, hD3, hF3, hI3⟩ := hrel
      by_cases hqn : q < an
      ·obtain ⟨e, he⟩ : ∃ e, al[q]? = some e := ⟨_, List.getElem?_eq_getElem (by rw [<- HAL.out.2.1]; exact hqn)⟩
       obtain ⟨KA, hKA, hEA⟩ := HKA.out
       obtain ⟨b, o, PA, pn, pc, hAA, hbK, hblt, k0, k1, k2, hP⟩ := hEA.cell he
       subst hAA
       have hnb : ¬ (b = gS \/ B <= b) := fun hh => by have h1 := HWL.out.2.2; have h2 := HWR.out.2.2.2.2; rcases hh with h | h <;> omega
       have tr : ∀ x, wr.cell? ⟨b, x, none⟩ = wo.cell? ⟨b, x, none⟩ := fun x => (World.cell?_of_block (hF3.out.block b (Nat.lt_of_lt_of_le hblt HWR.out.2.1.size) hnb)).trans (HWR.out.2.1.cell (p := ⟨b, x, none⟩) hblt)
       obtain ⟨⟨ei, eg⟩, ep⟩ := e
       simp only at k0 k1
       have m0 := (tr _).trans k0
       have m1 := (tr _).trans k1
       have m2 := (tr _).trans k2
       have s22 : wr.drew.cell? ⟨b, o + q * 3, none⟩ = some (.int .i64 ei) /\ wr.drew.cell? ⟨b, o + q * 3 + 1, none⟩ = some (.int .i64 eg) /\ wr.drew.cell? ⟨gI, 0, none⟩ = some (.int .i64 a1) /\ wr.drew.cell? ⟨gI, 1, none⟩ = some (.int .i64 a2) := ⟨m0, m1, hI3.out.at_ 0, hI3.out.at_ 1⟩
       have HM := hi_ (And.intro m0 (And.intro m1 m2))
       have HE3 := hi_ he
       have HP := hi_ (And.intro hKA (And.intro hP hnb))
       have HBL := hi_ (show b < wr.heap.size from Nat.lt_of_lt_of_le hblt (Nat.le_trans HWR.out.2.1.size hF3.out.size))
       obtain ⟨E, hE⟩ : ∃ E : Bool, (E = true ↔ ei = (i : Int) /\ ¬ s.alive ei eg = true) := by classical exact ⟨decide (ei = (i : Int) /\ ¬ s.alive ei eg = true), by simp⟩
       have HEE := hi_ hE
       clear m0 m1 m2 k0 k1 k2 tr hnb hP hKA hEA he hE hblt hbK
       go_upto_region 22 with fail
       go_cut [141] from 115 to 159 (fun v wl => v = .bool E /\ wl = wr.drew)
       case first =>
        by_cases hei : ei = (i : Int)
        ·have HEI := hi_ hei
         have de : decide (ei = (i : Int)) = true := decide_eq_true hei
         have db : (ei == (i : Int)) = true := by simp [hei]
         clear hei
         cases av with
         | false =>
          refine wp_region_noPanic ?_
          refine wp_region_held_drew (S := fun W => W.cell? ⟨b, o + q * 3, none⟩ = some (.int .i64 ei) /\ W.cell? ⟨b, o + q * 3 + 1, none⟩ = some (.int .i64 eg) /\ W.cell? ⟨gI, 0, none⟩ = some (.int .i64 a1) /\ W.cell? ⟨gI, 1, none⟩ = some (.int .i64 a2)) (by kernel_rfl) s22 (fun hHeld => ?_)
          refine tk_ 0 ⟨some 121, .move (.tmp 12), 39, "ref.go:201", #[], none⟩ hHeld ?_
          simp only [Act.put, sA_, sB_, sC_]
          refine tk_ 1 ⟨some 122, .move (.tmp 20), 3, "ref.go:201", #[], none⟩ hHeld ?_
          simp only [Act.put, sA_, sB_, sC_]
          refine tk_ 2 ⟨some 123, .indexAddr 39 (.tmp 121) (.tmp 122), 0, "ref.go:201", #[⟨0, .data⟩, ⟨1, .data⟩], none⟩ hHeld ?_
          simp only [Act.put, sA_, sB_, sC_]
          refine tk_ 3 ⟨some 124, .fieldAddr 95 (.tmp 123) 0, 0, "ref.go:201", #[⟨2, .data⟩], none⟩ hHeld ?_
          simp only [Act.put, sA_, sB_, sC_]
          refine tk_ 4 ⟨some 125, .fieldAddr 32 (.tmp 124) 0, 0, "ref.go:201", #[⟨3, .data⟩], none⟩ hHeld ?_
          simp only [Act.put, sA_, sB_, sC_]
          refine tk_ 5 ⟨some 126, .load 3 (.tmp 125), 3, "ref.go:201", #[⟨4, .data⟩], none⟩ hHeld ?_
          simp only [Act.put, sA_, sB_, sC_]
          refine tk_ 6 ⟨some 127, .move (.tmp 17), 3, "ref.go:201", #[], none⟩ hHeld ?_
          simp only [Act.put, sA_, sB_, sC_]
          refine tk_ 7 ⟨some 128, .binOp .eql 3 (.tmp 126) (.tmp 127) 3, 4, "ref.go:201", #[⟨5, .data⟩, ⟨6, .data⟩], none⟩ hHeld ?_
          simp only [Act.put, sA_, sB_, sC_]
          refine tk_ 8 ⟨some 129, .move (.tmp 128), 4, "ref.go:201", #[⟨7, .data⟩], none⟩ hHeld ?_
          simp only [Act.put, sA_, sB_, sC_]
          refine tk_ 9 ⟨some 130, .move (.tmp 19), 4, "ref.go:201", #[⟨8, .guard⟩], some (8, true)⟩ hHeld ?_
          simp only [Act.put, sA_, sB_, sC_]
          refine tk_ 10 ⟨some 131, .unOp .not 4 (.tmp 130), 4, "ref.go:201", #[⟨9, .data⟩, ⟨8, .guard⟩], some (8, true)⟩ hHeld ?_
          simp only [Act.put, sA_, sB_, sC_]
          refine tk_ 11 ⟨some 132, .move (.tmp 131), 4, "ref.go:201", #[⟨10, .data⟩, ⟨8, .chain⟩, ⟨8, .guard⟩], some (8, true)⟩ hHeld ?_
          simp only [Act.put, sA_, sB_, sC_]
          refine sk_ 12 ⟨some 133, .move (.tmp 12), 39, "ref.go:201", #[⟨11, .guard⟩], some (11, false)⟩ hHeld ?_
          simp only [Act.put, sA_, sB_, sC_]
          refine sk_ 13 ⟨some 134, .move (.tmp 20), 3, "ref.go:201", #[⟨11, .guard⟩], some (11, false)⟩ hHeld ?_
          simp only [Act.put, sA_, sB_, sC_]
          refine sk_ 14 ⟨some 135, .indexAddr 39 (.tmp 133) (.tmp 134), 0, "ref.go:201", #[⟨12, .data⟩, ⟨13, .data⟩, ⟨11, .guard⟩], some (11, false)⟩ hHeld ?_
          simp only [Act.put, sA_, sB_, sC_]
          refine sk_ 15 ⟨some 136, .fieldAddr 95 (.tmp 135) 0, 0, "ref.go:201", #[⟨14, .data⟩, ⟨11, .guard⟩], some (11, false)⟩ hHeld ?_
          simp only [Act.put, sA_, sB_, sC_]
          refine sk_ 16 ⟨some 137, .load 32 (.tmp 136), 32, "ref.go:201", #[⟨15, .data⟩, ⟨11, .guard⟩], some (11, false)⟩ hHeld ?_
          simp only [Act.put, sA_, sB_, sC_]
          refine sk_ 17 ⟨some 138, .load 32 (.tmp 18), 32, "ref.go:201", #[⟨11, .guard⟩], some (11, false)⟩ hHeld ?_
          simp only [Act.put, sA_, sB_, sC_]
          refine sk_ 18 ⟨some 139, .binOp .neq 32 (.tmp 137) (.tmp 138) 32, 4, "ref.go:201", #[⟨16, .data⟩, ⟨17, .data⟩, ⟨11, .guard⟩], some (11, false)⟩ hHeld ?_
          simp only [Act.put, sA_, sB_, sC_]
          refine tk_ 19 ⟨some 140, .pick (.tmp 132) (.const (.bool true)) (.tmp 139), 4, "ref.go:201", #[⟨11, .data⟩, ⟨18, .data⟩, ⟨8, .guard⟩], some (8, true)⟩ hHeld ?_
          simp only [Act.put, sA_, sB_, sC_]
          refine tk_ 20 ⟨some 141, .pick (.tmp 129) (.tmp 140) (.const (.bool false)), 4, "ref.go:201", #[⟨8, .data⟩, ⟨19, .data⟩], none⟩ hHeld ?_
          simp only [Act.put, sA_, sB_, sC_]
          refine wpAnyH_done (by kernel_rfl) ?_ _
          refine NoPanic.normal ?_
          go_wp2_with fail
          go_meet
          case' rel =>
           refine ⟨?_, rfl⟩
           rw [HEE.out.2 ⟨HEI.out, by rw [HEI.out, NS.at_alive HAT.out]; rintro ⟨h, _⟩; cases h⟩]
         | true =>
          by_cases heg : eg = a2
          ·have ha1 : a1 = (i : Int) := NS.at_index HAT.out
           have HEA := hi_ (show ei = a1 by have h := HEI.out; omega)
           have HEG := hi_ heg
           clear heg ha1
           refine wp_region_noPanic ?_
           refine wp_region_held_drew (S := fun W => W.cell? ⟨b, o + q * 3, none⟩ = some (.int .i64 ei) /\ W.cell? ⟨b, o + q * 3 + 1, none⟩ = some (.int .i64 eg) /\ W.cell? ⟨gI, 0, none⟩ = some (.int .i64 a1) /\ W.cell? ⟨gI, 1, none⟩ = some (.int .i64 a2)) (by kernel_rfl) s22 (fun hHeld => ?_)
           refine tk_ 0 ⟨some 121, .move (.tmp 12), 39, "ref.go:201", #[], none⟩ hHeld ?_
           simp only [Act.put, sA_, sB_, sC_]
           refine tk_ 1 ⟨some 122, .move (.tmp 20), 3, "ref.go:201", #[], none⟩ hHeld ?_
           simp only [Act.put, sA_, sB_, sC_]
           refine tk_ 2 ⟨some 123, .indexAddr 39 (.tmp 121) (.tmp 122), 0, "ref.go:201", #[⟨0, .data⟩, ⟨1, .data⟩], none⟩ hHeld ?_
           simp only [Act.put, sA_, sB_, sC_]
           refine tk_ 3 ⟨some 124, .fieldAddr 95 (.tmp 123) 0, 0, "ref.go:201", #[⟨2, .data⟩], none⟩ hHeld ?_
           simp only [Act.put, sA_, sB_, sC_]
           refine tk_ 4 ⟨some 125, .fieldAddr 32 (.tmp 124) 0, 0, "ref.go:201", #[⟨3, .data⟩], none⟩ hHeld ?_
           simp only [Act.put, sA_, sB_, sC_]
           refine tk_ 5 ⟨some 126, .load 3 (.tmp 125), 3, "ref.go:201", #[⟨4, .data⟩], none⟩ hHeld ?_
           simp only [Act.put, sA_, sB_, sC_]
           refine tk_ 6 ⟨some 127, .move (.tmp 17), 3, "ref.go:201", #[], none⟩ hHeld ?_
           simp only [Act.put, sA_, sB_, sC_]
           refine tk_ 7 ⟨some 128, .binOp .eql 3 (.tmp 126) (.tmp 127) 3, 4, "ref.go:201", #[⟨5, .data⟩, ⟨6, .data⟩], none⟩ hHeld ?_
           simp only [Act.put, sA_, sB_, sC_]
           refine tk_ 8 ⟨some 129, .move (.tmp 128), 4, "ref.go:201", #[⟨7, .data⟩], none⟩ hHeld ?_
           simp only [Act.put, sA_, sB_, sC_]
           refine tk_ 9 ⟨some 130, .move (.tmp 19), 4, "ref.go:201", #[⟨8, .guard⟩], some (8, true)⟩ hHeld ?_
           simp only [Act.put, sA_, sB_, sC_]
           refine tk_ 10 ⟨some 131, .unOp .not 4 (.tmp 130), 4, "ref.go:201", #[⟨9, .data⟩, ⟨8, .guard⟩], some (8, true)⟩ hHeld ?_
           simp only [Act.put, sA_, sB_, sC_]
           refine tk_ 11 ⟨some 132, .move (.tmp 131), 4, "ref.go:201", #[⟨10, .data⟩, ⟨8, .chain⟩, ⟨8, .guard⟩], some (8, true)⟩ hHeld ?_
           simp only [Act.put, sA_, sB_, sC_]
           refine tk_ 12 ⟨some 133, .move (.tmp 12), 39, "ref.go:201", #[⟨11, .guard⟩], some (11, false)⟩ hHeld ?_
           simp only [Act.put, sA_, sB_, sC_]
           refine tk_ 13 ⟨some 134, .move (.tmp 20), 3, "ref.go:201", #[⟨11, .guard⟩], some (11, false)⟩ hHeld ?_
           simp only [Act.put, sA_, sB_, sC_]
           refine tk_ 14 ⟨some 135, .indexAddr 39 (.tmp 133) (.tmp 134), 0, "ref.go:201", #[⟨12, .data⟩, ⟨13, .data⟩, ⟨11, .guard⟩], some (11, false)⟩ hHeld ?_
           simp only [Act.put, sA_, sB_, sC_]
           refine tk_ 15 ⟨some 136, .fieldAddr 95 (.tmp 135) 0, 0, "ref.go:201", #[⟨14, .data⟩, ⟨11, .guard⟩], some (11, false)⟩ hHeld ?_
           simp only [Act.put, sA_, sB_, sC_]
           refine tk_ 16 ⟨some 137, .load 32 (.tmp 136), 32, "ref.go:201", #[⟨15, .data⟩, ⟨11, .guard⟩], some (11, false)⟩ hHeld ?_
           simp only [Act.put, sA_, sB_, sC_]
           refine tk_ 17 ⟨some 138, .load 32 (.tmp 18), 32, "ref.go:201", #[⟨11, .guard⟩], some (11, false)⟩ hHeld ?_
           simp only [Act.put, sA_, sB_, sC_]
           refine wpAnyH_take (i := 18) (oi := ⟨some 139, .binOp .neq 32 (.tmp 137) (.tmp 138) 32, 4, "ref.go:201", #[⟨16, .data⟩, ⟨17, .data⟩, ⟨11, .guard⟩], some (11, false)⟩) (v := ?_) rfl (by kernel_rfl) (by kernel_rfl) (by kernel_rfl) (fun _ _ _ h => h) (Or.inl ⟨by rfl, ?_⟩) (by assumption) ?_
           rotate_left 1
           ·intro w' hSw; (try dsimp only at hSw); go_simp; rw [if_pos HEA.out, if_pos HEG.out]
           simp only [Act.put, sA_, sB_, sC_]
           refine tk_ 19 ⟨some 140, .pick (.tmp 132) (.const (.bool true)) (.tmp 139), 4, "ref.go:201", #[⟨11, .data⟩, ⟨18, .data⟩, ⟨8, .guard⟩], some (8, true)⟩ hHeld ?_
           simp only [Act.put, sA_, sB_, sC_]
           refine tk_ 20 ⟨some 141, .pick (.tmp 129) (.tmp 140) (.const (.bool false)), 4, "ref.go:201", #[⟨8, .data⟩, ⟨19, .data⟩], none⟩ hHeld ?_
           simp only [Act.put, sA_, sB_, sC_]
           refine wpAnyH_done (by kernel_rfl) ?_ _
           refine NoPanic.normal ?_
           go_wp2_with fail
           go_meet
           case' rel =>
            refine ⟨?_, rfl⟩
            rw [show E = false from Bool.eq_false_iff.2 (fun h => (HEE.out.1 h).2 (by rw [HEI.out, NS.at_alive HAT.out]; exact ⟨rfl, HEG.out⟩))]
          ·have ha1 : a1 = (i : Int) := NS.at_index HAT.out
           have HEA := hi_ (show ei = a1 by have h := HEI.out; omega)
           have HEG := hi_ heg
           clear heg ha1
           refine wp_region_noPanic ?_
           refine wp_region_held_drew (S := fun W => W.cell? ⟨b, o + q * 3, none⟩ = some (.int .i64 ei) /\ W.cell? ⟨b, o + q * 3 + 1, none⟩ = some (.int .i64 eg) /\ W.cell? ⟨gI, 0, none⟩ = some (.int .i64 a1) /\ W.cell? ⟨gI, 1, none⟩ = some (.int .i64 a2)) (by kernel_rfl) s22 (fun hHeld => ?_)
           refine tk_ 0 ⟨some 121, .move (.tmp 12), 39, "ref.go:201", #[], none⟩ hHeld ?_
           simp only [Act.put, sA_, sB_, sC_]
           refine tk_ 1 ⟨some 122, .move (.tmp 20), 3, "ref.go:201", #[], none⟩ hHeld ?_
           simp only [Act.put, sA_, sB_, sC_]
           refine tk_ 2 ⟨some 123, .indexAddr 39 (.tmp 121) (.tmp 122), 0, "ref.go:201", #[⟨0, .data⟩, ⟨1, .data⟩], none⟩ hHeld ?_
           simp only [Act.put, sA_, sB_, sC_]
           refine tk_ 3 ⟨some 124, .fieldAddr 95 (.tmp 123) 0, 0, "ref.go:201", #[⟨2, .data⟩], none⟩ hHeld ?_
           simp only [Act.put, sA_, sB_, sC_]
           refine tk_ 4 ⟨some 125, .fieldAddr 32 (.tmp 124) 0, 0, "ref.go:201", #[⟨3, .data⟩], none⟩ hHeld ?_
           simp only [Act.put, sA_, sB_, sC_]
           refine tk_ 5 ⟨some 126, .load 3 (.tmp 125), 3, "ref.go:201", #[⟨4, .data⟩], none⟩ hHeld ?_
           simp only [Act.put, sA_, sB_, sC_]
           refine tk_ 6 ⟨some 127, .move (.tmp 17), 3, "ref.go:201", #[], none⟩ hHeld ?_
           simp only [Act.put, sA_, sB_, sC_]
           refine tk_ 7 ⟨some 128, .binOp .eql 3 (.tmp 126) (.tmp 127) 3, 4, "ref.go:201", #[⟨5, .data⟩, ⟨6, .data⟩], none⟩ hHeld ?_
           simp only [Act.put, sA_, sB_, sC_]
           refine tk_ 8 ⟨some 129, .move (.tmp 128), 4, "ref.go:201", #[⟨7, .data⟩], none⟩ hHeld ?_
           simp only [Act.put, sA_, sB_, sC_]
           refine tk_ 9 ⟨some 130, .move (.tmp 19), 4, "ref.go:201", #[⟨8, .guard⟩], some (8, true)⟩ hHeld ?_
           simp only [Act.put, sA_, sB_, sC_]
           refine tk_ 10 ⟨some 131, .unOp .not 4 (.tmp 130), 4, "ref.go:201", #[⟨9, .data⟩, ⟨8, .guard⟩], some (8, true)⟩ hHeld ?_
           simp only [Act.put, sA_, sB_, sC_]
           refine tk_ 11 ⟨some 132, .move (.tmp 131), 4, "ref.go:201", #[⟨10, .data⟩, ⟨8, .chain⟩, ⟨8, .guard⟩], some (8, true)⟩ hHeld ?_
           simp only [Act.put, sA_, sB_, sC_]
           refine tk_ 12 ⟨some 133, .move (.tmp 12), 39, "ref.go:201", #[⟨11, .guard⟩], some (11, false)⟩ hHeld ?_
           simp only [Act.put, sA_, sB_, sC_]
           refine tk_ 13 ⟨some 134, .move (.tmp 20), 3, "ref.go:201", #[⟨11, .guard⟩], some (11, false)⟩ hHeld ?_
           simp only [Act.put, sA_, sB_, sC_]
           refine tk_ 14 ⟨some 135, .indexAddr 39 (.tmp 133) (.tmp 134), 0, "ref.go:201", #[⟨12, .data⟩, ⟨13, .data⟩, ⟨11, .guard⟩], some (11, false)⟩ hHeld ?_
           simp only [Act.put, sA_, sB_, sC_]
           refine tk_ 15 ⟨some 136, .fieldAddr 95 (.tmp 135) 0, 0, "ref.go:201", #[⟨14, .data⟩, ⟨11, .guard⟩], some (11, false)⟩ hHeld ?_
           simp only [Act.put, sA_, sB_, sC_]
           refine tk_ 16 ⟨some 137, .load 32 (.tmp 136), 32, "ref.go:201", #[⟨15, .data⟩, ⟨11, .guard⟩], some (11, false)⟩ hHeld ?_
           simp only [Act.put, sA_, sB_, sC_]
           refine tk_ 17 ⟨some 138, .load 32 (.tmp 18), 32, "ref.go:201", #[⟨11, .guard⟩], some (11, false)⟩ hHeld ?_
           simp only [Act.put, sA_, sB_, sC_]
           refine wpAnyH_take (i := 18) (oi := ⟨some 139, .binOp .neq 32 (.tmp 137) (.tmp 138) 32, 4, "ref.go:201", #[⟨16, .data⟩, ⟨17, .data⟩, ⟨11, .guard⟩], some (11, false)⟩) (v := ?_) rfl (by kernel_rfl) (by kernel_rfl) (by kernel_rfl) (fun _ _ _ h => h) (Or.inl ⟨by rfl, ?_⟩) (by assumption) ?_
           rotate_left 1
           ·intro w' hSw; (try dsimp only at hSw); go_simp; rw [if_pos HEA.out, if_neg HEG.out]
           simp only [Act.put, sA_, sB_, sC_]
           refine tk_ 19 ⟨some 140, .pick (.tmp 132) (.const (.bool true)) (.tmp 139), 4, "ref.go:201", #[⟨11, .data⟩, ⟨18, .data⟩, ⟨8, .guard⟩], some (8, true)⟩ hHeld ?_
           simp only [Act.put, sA_, sB_, sC_]
           refine tk_ 20 ⟨some 141, .pick (.tmp 129) (.tmp 140) (.const (.bool false)), 4, "ref.go:201", #[⟨8, .data⟩, ⟨19, .data⟩], none⟩ hHeld ?_
           simp only [Act.put, sA_, sB_, sC_]
           refine wpAnyH_done (by kernel_rfl) ?_ _
           refine NoPanic.normal ?_
           go_wp2_with fail
           go_meet
           case' rel =>
            refine ⟨?_, rfl⟩
            rw [HEE.out.2 ⟨HEI.out, by rw [HEI.out, NS.at_alive HAT.out]; rintro ⟨_, h⟩; exact HEG.out h⟩]
        ·have HEI := hi_ hei
         have de : decide (ei = (i : Int)) = false := decide_eq_false hei
         have db : (ei == (i : Int)) = false := by simp [hei]
         clear hei
         refine wp_region_noPanic ?_
         refine wp_region_held_drew (S := fun W => W.cell? ⟨b, o + q * 3, none⟩ = some (.int .i64 ei) /\ W.cell? ⟨b, o + q * 3 + 1, none⟩ = some (.int .i64 eg) /\ W.cell? ⟨gI, 0, none⟩ = some (.int .i64 a1) /\ W.cell? ⟨gI, 1, none⟩ = some (.int .i64 a2)) (by kernel_rfl) s22 (fun hHeld => ?_)
         refine tk_ 0 ⟨some 121, .move (.tmp 12), 39, "ref.go:201", #[], none⟩ hHeld ?_
         simp only [Act.put, sA_, sB_, sC_]
         refine tk_ 1 ⟨some 122, .move (.tmp 20), 3, "ref.go:201", #[], none⟩ hHeld ?_
         simp only [Act.put, sA_, sB_, sC_]
         refine tk_ 2 ⟨some 123, .indexAddr 39 (.tmp 121) (.tmp 122), 0, "ref.go:201", #[⟨0, .data⟩, ⟨1, .data⟩], none⟩ hHeld ?_
         simp only [Act.put, sA_, sB_, sC_]
         refine tk_ 3 ⟨some 124, .fieldAddr 95 (.tmp 123) 0, 0, "ref.go:201", #[⟨2, .data⟩], none⟩ hHeld ?_
         simp only [Act.put, sA_, sB_, sC_]
         refine tk_ 4 ⟨some 125, .fieldAddr 32 (.tmp 124) 0, 0, "ref.go:201", #[⟨3, .data⟩], none⟩ hHeld ?_
         simp only [Act.put, sA_, sB_, sC_]
         refine tk_ 5 ⟨some 126, .load 3 (.tmp 125), 3, "ref.go:201", #[⟨4, .data⟩], none⟩ hHeld ?_
         simp only [Act.put, sA_, sB_, sC_]
         refine tk_ 6 ⟨some 127, .move (.tmp 17), 3, "ref.go:201", #[], none⟩ hHeld ?_
         simp only [Act.put, sA_, sB_, sC_]
         refine tk_ 7 ⟨some 128, .binOp .eql 3 (.tmp 126) (.tmp 127) 3, 4, "ref.go:201", #[⟨5, .data⟩, ⟨6, .data⟩], none⟩ hHeld ?_
         simp only [Act.put, sA_, sB_, sC_]
         refine tk_ 8 ⟨some 129, .move (.tmp 128), 4, "ref.go:201", #[⟨7, .data⟩], none⟩ hHeld ?_
         simp only [Act.put, sA_, sB_, sC_]
         refine sk_ 9 ⟨some 130, .move (.tmp 19), 4, "ref.go:201", #[⟨8, .guard⟩], some (8, true)⟩ hHeld ?_
         simp only [Act.put, sA_, sB_, sC_]
         refine sk_ 10 ⟨some 131, .unOp .not 4 (.tmp 130), 4, "ref.go:201", #[⟨9, .data⟩, ⟨8, .guard⟩], some (8, true)⟩ hHeld ?_
         simp only [Act.put, sA_, sB_, sC_]
         refine sk_ 11 ⟨some 132, .move (.tmp 131), 4, "ref.go:201", #[⟨10, .data⟩, ⟨8, .chain⟩, ⟨8, .guard⟩], some (8, true)⟩ hHeld ?_
         simp only [Act.put, sA_, sB_, sC_]
         refine sk_ 12 ⟨some 133, .move (.tmp 12), 39, "ref.go:201", #[⟨11, .guard⟩], some (11, false)⟩ hHeld ?_
         simp only [Act.put, sA_, sB_, sC_]
         refine sk_ 13 ⟨some 134, .move (.tmp 20), 3, "ref.go:201", #[⟨11, .guard⟩], some (11, false)⟩ hHeld ?_
         simp only [Act.put, sA_, sB_, sC_]
         refine sk_ 14 ⟨some 135, .indexAddr 39 (.tmp 133) (.tmp 134), 0, "ref.go:201", #[⟨12, .data⟩, ⟨13, .data⟩, ⟨11, .guard⟩], some (11, false)⟩ hHeld ?_
         simp only [Act.put, sA_, sB_, sC_]
         refine sk_ 15 ⟨some 136, .fieldAddr 95 (.tmp 135) 0, 0, "ref.go:201", #[⟨14, .data⟩, ⟨11, .guard⟩], some (11, false)⟩ hHeld ?_
         simp only [Act.put, sA_, sB_, sC_]
         refine sk_ 16 ⟨some 137, .load 32 (.tmp 136), 32, "ref.go:201", #[⟨15, .data⟩, ⟨11, .guard⟩], some (11, false)⟩ hHeld ?_
         simp only [Act.put, sA_, sB_, sC_]
         refine sk_ 17 ⟨some 138, .load 32 (.tmp 18), 32, "ref.go:201", #[⟨11, .guard⟩], some (11, false)⟩ hHeld ?_
         simp only [Act.put, sA_, sB_, sC_]
         refine sk_ 18 ⟨some 139, .binOp .neq 32 (.tmp 137) (.tmp 138) 32, 4, "ref.go:201", #[⟨16, .data⟩, ⟨17, .data⟩, ⟨11, .guard⟩], some (11, false)⟩ hHeld ?_
         simp only [Act.put, sA_, sB_, sC_]
         refine sk_ 19 ⟨some 140, .pick (.tmp 132) (.const (.bool true)) (.tmp 139), 4, "ref.go:201", #[⟨11, .data⟩, ⟨18, .data⟩, ⟨8, .guard⟩], some (8, true)⟩ hHeld ?_
         simp only [Act.put, sA_, sB_, sC_]
         refine tk_ 20 ⟨some 141, .pick (.tmp 129) (.tmp 140) (.const (.bool false)), 4, "ref.go:201", #[⟨8, .data⟩, ⟨19, .data⟩], none⟩ hHeld ?_
         simp only [Act.put, sA_, sB_, sC_]
         refine wpAnyH_done (by kernel_rfl) ?_ _
         refine NoPanic.normal ?_
         go_wp2_with fail
         go_meet
         case' rel =>
          refine ⟨?_, rfl⟩
          rw [show E = false from Bool.eq_false_iff.2 (fun h => HEI.out (HEE.out.1 h).1)]
       case rest =>
        obtain ⟨rfl, rfl⟩ := hcut
        have hFr := hi_ (show Below w.heap.size w wr /\ Below w1.heap.size w1 wr /\ Below wo.heap.size wo wr by
         have h5 : Below wo.heap.size wo wr := HWR.out.2.1.trans (hF3.out.toBelow (fun y hy => by have h2 := HWR.out.2.2.2.2; have h3 := HWL.out.2.2; have h4 := HWR.out.2.1.size; rcases hy with h | h <;> omega) HWR.out.2.1.size)
         exact ⟨HWR.out.1.trans (h5.mono HWR.out.1.size), HWR.out.2.2.1.trans (h5.mono HWR.out.2.2.1.size), h5⟩)
        obtain ⟨wv, hwv⟩ : ∃ v, v = wr.drew := ⟨_, rfl⟩
        have hd : Below wr.heap.size wr wv := by rw [hwv]; exact (Below.refl _ _).drew
        rw [<- hwv]
        have hG4 := hi_ (Gr.below EE.ok hG3.out hd)
        have hR4 := hi_ (hR3.out.under hd)
        have hI4 := hi_ (hI3.out.under hd)
        have hF4 := hi_ (hF3.out.trans (Fr.ofBelow _ hd))
        have HM4 := hi_ (And.intro ((hd.cell (p := ⟨b, o + q * 3, none⟩) HBL.out).trans HM.out.1) (And.intro ((hd.cell (p := ⟨b, o + q * 3 + 1, none⟩) HBL.out).trans HM.out.2.1) ((hd.cell (p := ⟨b, o + q * 3 + 2, none⟩) HBL.out).trans HM.out.2.2)))
        have HBL4 := hi_ (show b < wv.heap.size from Nat.lt_of_lt_of_le HBL.out hd.size)
        have hFv := hi_ (And.intro (hFr.out.1.trans (hd.mono hFr.out.1.size)) (And.intro (hFr.out.2.1.trans (hd.mono hFr.out.2.1.size)) (hFr.out.2.2.trans (hd.mono hFr.out.2.2.size))))
        clear hwv hd hG3 hR3 hI3 hF3 HM HBL hFr
        cases E with
        | true =>
         have R8 := hi_ (show Rec 41 wv (w.heap.size + 1) (stC none 0 0 none 0 0 none 0 0) from R2.out.under (hFv.out.2.1))
         go_wp2_with (first
          | ((with_reducible refine wpList_stS (cs' := stC none 0 0 none 0 0 none 0 0) stT rfl rfl (by simp [Value.oneCell']) rfl (.tmp 8) (.tmp 142) rfl rfl rfl R8.out ?_); intro w9 hR9 hF9)
          | (refine bodyPost_ret (res_ct rfl rfl (hR9.load stT rfl)) rfl ?_
             refine RLdA.no (hFv.out.1.trans (hF9.toBelow (fun y hy => by rw [show y = w.heap.size + 1 from hy]; omega) hFv.out.1.size)) (fun h => ?_)
             obtain ⟨h1, h2⟩ := HEE.out.1 (by first | rfl | trivial)
             refine h2 (h.ok ((ei, eg), ep) (by rw [HXS.out, <- HAL.out.1]; exact List.mem_of_getElem? HE3.out) (by show 0 <= ei; omega) ?_)
             show ei < (s.g.length : Int)
             rw [HSG.out, HGF.out.1.1]
             omega))
        | false =>
         have hnE := HEE.out
         by_cases hei : ei = (i : Int)
         ·have HEI := hi_ hei
          have de : decide (ei = (i : Int)) = true := decide_eq_true hei
          have db : (ei == (i : Int)) = true := by simp [hei]
          have c0 := HM4.out.1
          have HAL3 := hi_ (show s.alive ei eg = true from Classical.not_not.1 (fun h => by have := hnE.2 ⟨hei, h⟩; cases this))
          have HXV : Hid (∀ W, Fr (fun y => y = gS \/ B <= y) wv W -> W.cell? ⟨b, o + q * 3, none⟩ = some (.int .i64 ei) /\ W.cell? ⟨b, o + q * 3 + 1, none⟩ = some (.int .i64 eg) /\ W.cell? ⟨b, o + q * 3 + 2, none⟩ = some (.slice PA pn pc)) := hi_ (fun W hW => ⟨(World.cell?_of_block (hW.block b HBL4.out HP.out.2.2)).trans HM4.out.1, (World.cell?_of_block (hW.block b HBL4.out HP.out.2.2)).trans HM4.out.2.1, (World.cell?_of_block (hW.block b HBL4.out HP.out.2.2)).trans HM4.out.2.2⟩)
          have s25 := HXV.out wv.drew (Fr.ofBelow _ (Below.refl _ _).drew)
          have HLE3 := hi_ (show el3 + 1 <= 1000000 by have h := ent3_le (i := i) (al := al) (q := q); have h1 := HAL.out.2.1; have h2 := hel3.out; omega)
          clear hei hnE
          go_upto_region 25 with fail
          clear c0 de db
          refine wp_region_noPanic ?_
          refine wp_region_held_drew (S := fun W => W.cell? ⟨b, o + q * 3, none⟩ = some (.int .i64 ei) /\ W.cell? ⟨b, o + q * 3 + 1, none⟩ = some (.int .i64 eg) /\ W.cell? ⟨b, o + q * 3 + 2, none⟩ = some (.slice PA pn pc)) (by kernel_rfl) s25 (fun hHeld => ?_)
          refine tk_ 0 ⟨some 151, .fieldAddr 41 (.tmp 16) 2, 0, "ref.go:205", #[], none⟩ hHeld ?_
          simp only [Act.put, sA_, sB_, sC_]
          refine tk_ 2 ⟨some 153, .move (.tmp 12), 39, "ref.go:205", #[], none⟩ hHeld ?_
          simp only [Act.put, sA_, sB_, sC_]
          refine tk_ 3 ⟨some 154, .move (.tmp 20), 3, "ref.go:205", #[], none⟩ hHeld ?_
          simp only [Act.put, sA_, sB_, sC_]
          refine tk_ 4 ⟨some 155, .indexAddr 39 (.tmp 153) (.tmp 154), 0, "ref.go:205", #[⟨2, .data⟩, ⟨3, .data⟩], none⟩ hHeld ?_
          simp only [Act.put, sA_, sB_, sC_]
          refine tk_ 5 ⟨some 156, .load 95 (.tmp 155), 95, "ref.go:205", #[⟨4, .data⟩], none⟩ hHeld ?_
          simp only [Act.put, sA_, sB_, sC_]
          refine wpAnyH_ready (rs := [1, 6]) (by kernel_rfl) (by simp) ?_
          refine AllReadyH.cons (o := ⟨some 152, .load 39 (.tmp 151), 39, "ref.go:205", #[⟨0, .data⟩], none⟩) rfl (fun K' hK => ?_) (AllReadyH.cons (o := ⟨some 157, .buildSlice 39 1 #[(0, .tmp 156)], 39, "ref.go:205", #[⟨5, .data⟩], none⟩) rfl (fun K' hK => ?_) AllReadyH.nil)
          ·have l2 : wv.cell? ⟨gS, 2, none⟩ = some (.slice EA3 el3 ec3) := hR4.out.at_ 2
           have l3 : wv.drew.cell? ⟨gS, 2, none⟩ = some (.slice EA3 el3 ec3) := hR4.out.at_ 2
           go_simp
           clear l2 l3
           refine hK.out _ _ s25 (fun hHeld => ?_)
           clear hK K'
           try simp only [Act.put, sA_, sB_, sC_]
           refine wpAnyH_ready (rs := [6]) (by kernel_rfl) (by simp) ?_
           refine AllReadyH.cons (o := ⟨some 157, .buildSlice 39 1 #[(0, .tmp 156)], 39, "ref.go:205", #[⟨5, .data⟩], none⟩) rfl (fun K' hK => ?_) AllReadyH.nil
           go_simp
           obtain ⟨wk, hwk⟩ : ∃ wk, wk = (wv.alloc (.cells #[.int .i64 ei, .int .i64 eg, .slice PA pn pc] 95)).drew := ⟨_, rfl⟩
           rw [<- hwk]
           have bk : Below wv.heap.size wv wk := by rw [hwk]; exact ((Below.refl _ _).alloc (Nat.le_refl _) _).drew
           have rk : Rec 95 wk wv.heap.size #[.int .i64 ei, .int .i64 eg, .slice PA pn pc] := by rw [hwk]; exact (show Rec 95 (wv.alloc (.cells #[.int .i64 ei, .int .i64 eg, .slice PA pn pc] 95)) wv.heap.size #[.int .i64 ei, .int .i64 eg, .slice PA pn pc] from Rec.new wv _ _)
           clear hwk
           refine hK.out _ _ (HXV.out wk (Fr.ofBelow _ bk)) (fun hHeld => ?_)
           clear hK K'
           try simp only [Act.put, sA_, sB_, sC_]
           refine wpAnyH_ready (rs := [7]) (by kernel_rfl) (by simp) ?_
           refine AllReadyH.cons (o := ⟨some 158, .call { callee := .builtin .append, args := #[.tmp 152, .tmp 157], argTypes := #[39, 39] }, 39, "ref.go:205", #[⟨1, .data⟩, ⟨6, .data⟩], none⟩) rfl (fun K' hK => ?_) AllReadyH.nil
           have gk := Gr.below EE.ok hG4.out bk
           refine step_appV entsT rfl (.tmp 152) (.tmp 157) rfl B (.slice EA3 el3 ec3) el3 vs3 rfl (by rw [hel3.out]; rw [hel3.out] at gk; exact gk.ow) ⟨wv.heap.size, 0, none⟩ 1 1 [.int .i64 ei, .int .i64 eg, .slice PA pn pc] rfl rfl (fun j u hj => by have h := rk.at_ j; rw [show (⟨wv.heap.size, 0, none⟩ : Addr).add j = ⟨wv.heap.size, j, none⟩ by unfold Addr.add; simp only [Nat.zero_add]; split <;> simp_all]; rw [h, <- hj]; simp) (fun u hu => by simp at hu; rcases hu with rfl | rfl | rfl <;> rfl) (by have h := HLE3.out; omega) (by decide) gk.Bw ?_; intro v9 w9 ho9 hg9 hv9
           obtain ⟨A9, c9, rfl, _, _, _⟩ := own_vrow ho9
           have f9 : Fr (fun y => B <= y /\ y ≠ gI) wk w9 := Fr.grown hg9 (fun x hx => ⟨(own_geB gk.ow hx).1, fun e => own_recne (hI4.out.under bk) gk.ow (e ▸ hx)⟩)
           have g9 := gk.put EE.ok (x := ((ei, eg), ep)) (r := [.int .i64 ei, .int .i64 eg, .slice PA pn pc]) (K := KA) rfl (EE.ok.below (K := KA) ⟨PA, pn, pc, rfl, HP.out.2.1⟩ (hFv.out.2.2.trans (bk.mono hFv.out.2.2.size))) (fun y hy e => by have h1 := (own_geB gk.ow e).1; have h2 := HP.out.1 y hy; have h3 := HWL.out.2.2; have h4 := HWR.out.2.2.2.2; omega) (by rw [<- hel3.out]; exact ho9) hg9 hv9
           have fz9 : Fr (fun y => y = gS \/ B <= y) wv w9 := (Fr.ofBelow _ bk).trans (f9.mono (fun y hy => .inr hy.1))
           have r9 := (hR4.out.under bk).fr f9 (fun e => by have h3 := HWL.out.2.2; have h := e.1; omega)
           have i9 := (hI4.out.under bk).fr f9 (fun e => e.2 rfl)
           have k9 : w9.cell? ⟨gS, 2, none⟩ = some (.slice EA3 el3 ec3) := r9.at_ 2
           have z9 := r9.fz 2
           clear ho9 hg9 hv9 f9 gk rk
           refine hK.out _ _ (HXV.out w9 fz9) (fun hHeld => ?_)
           clear hK K'
           try simp only [Act.put, sA_, sB_, sC_]
           refine tk_ 8 ⟨some 159, .fieldAddr 41 (.tmp 16) 2, 0, "ref.go:205", #[⟨0, .phase⟩, ⟨1, .phase⟩, ⟨2, .phase⟩, ⟨3, .phase⟩, ⟨4, .phase⟩, ⟨5, .phase⟩, ⟨6, .phase⟩, ⟨7, .phase⟩], none⟩ hHeld ?_
           simp only [Act.put, sA_, sB_, sC_]
           refine wpAnyH_ready (rs := [9]) (by kernel_rfl) (by simp) ?_
           refine AllReadyH.cons (o := ⟨none, .store 39 (.tmp 159) (.tmp 158), 0, "ref.go:205", #[⟨8, .data⟩, ⟨7, .data⟩, ⟨7, .chain⟩, ⟨0, .phase⟩, ⟨1, .phase⟩, ⟨2, .phase⟩, ⟨3, .phase⟩, ⟨4, .phase⟩, ⟨5, .phase⟩, ⟨6, .phase⟩, ⟨7, .phase⟩], none⟩) rfl (fun K' hK => ?_) AllReadyH.nil
           go_simp
           obtain ⟨wz, hwz⟩ : ∃ wz, wz = w9.setCell ⟨gS, 2, none⟩ (.slice A9 (el3 + 1) c9) := ⟨_, rfl⟩
           rw [<- hwz]
           have fx : Fr (· = gS) w9 wz := by rw [hwz]; exact Fr.setCell (own := (· = gS)) w9 (p := ⟨gS, 2, none⟩) rfl _
           have rz : Rec 41 wz gS (stC GA gN gc FA fN fc A9 (el3 + 1) c9) := by rw [hwz]; exact r9.set 2 _
           have fzz := fz9.trans (fx.mono (fun y hy => .inl hy))
           clear hwz k9 z9
           refine hK.out _ _ (HXV.out wz fzz) (fun hHeld => ?_)
           clear hK K'
           try simp only [Act.put, sA_, sB_, sC_]
           refine wpAnyH_done (by kernel_rfl) ?_ _
           refine NoPanic.normal ?_
           clear hHeld
           have gz := g9.fr EE.ok fx (fun y hy e => by have h1 := (own_geB g9.ow hy).1; have h2 := HWL.out.2.2; have e' : y = gS := e; omega) (fun y hy e => by have e' : y = gS := e; have h2 := HWR.out.2.2.2.2; rcases hy with h | h; (have := hD3.out y h; omega); (have := HP.out.1 y h.1; omega))
           have FZ := hi_ (And.intro gz (And.intro rz (And.intro fzz (i9.fr fx (fun e => by have h := hSI.out; have e' : gI = gS := e; omega)))))
           clear gz rz fzz i9 r9 fz9 g9 fx bk
           go_wp2_with fail
           refine ⟨⟨q + 1, A9, el3 + 1, c9, vs3 ++ [.int .i64 ei, .int .i64 eg, .slice PA pn pc], (fun y => D3 y \/ (KA y /\ y < wk.heap.size)), hqn, by go_num, hi_ (by rw [ent3_yes HE3.out HEI.out, List.length_append, <- hel3.out]; rfl), hi_ (fun e he h1 => ?_), hi_ (by rw [ent3_yes HE3.out HEI.out]; exact FZ.out.1), hi_ FZ.out.2.1, hi_ (fun y hy => ?_), hi_ (hF4.out.trans FZ.out.2.2.1), hi_ FZ.out.2.2.2⟩, by simp [intOf]; omega⟩
           ·rw [List.take_add_one, HE3.out] at he
            rcases List.mem_append.1 he with he | he
            ·exact hok3.out e he h1
            ·simp at he
             subst he
             exact HAL3.out
           ·have h2 := HWR.out.2.2.2.2
            rcases hy with h | h
            ·exact hD3.out y h
            ·have := HP.out.1 y h.1
             omega
          ·go_simp
           obtain ⟨wk, hwk⟩ : ∃ wk, wk = (wv.alloc (.cells #[.int .i64 ei, .int .i64 eg, .slice PA pn pc] 95)).drew := ⟨_, rfl⟩
           rw [<- hwk]
           have bk : Below wv.heap.size wv wk := by rw [hwk]; exact ((Below.refl _ _).alloc (Nat.le_refl _) _).drew
           have rk : Rec 95 wk wv.heap.size #[.int .i64 ei, .int .i64 eg, .slice PA pn pc] := by rw [hwk]; exact (show Rec 95 (wv.alloc (.cells #[.int .i64 ei, .int .i64 eg, .slice PA pn pc] 95)) wv.heap.size #[.int .i64 ei, .int .i64 eg, .slice PA pn pc] from Rec.new wv _ _)
           clear hwk
           refine hK.out _ _ (HXV.out wk (Fr.ofBelow _ bk)) (fun hHeld => ?_)
           clear hK K'
           try simp only [Act.put, sA_, sB_, sC_]
           refine wpAnyH_ready (rs := [1]) (by kernel_rfl) (by simp) ?_
           refine AllReadyH.cons (o := ⟨some 152, .load 39 (.tmp 151), 39, "ref.go:205", #[⟨0, .data⟩], none⟩) rfl (fun K' hK => ?_) AllReadyH.nil
           have l2 : wk.cell? ⟨gS, 2, none⟩ = some (.slice EA3 el3 ec3) := (hR4.out.under bk).at_ 2
           go_simp
           clear l2
           refine hK.out _ _ (HXV.out wk (Fr.ofBelow _ bk)) (fun hHeld => ?_)
           clear hK K'
           try simp only [Act.put, sA_, sB_, sC_]
           refine wpAnyH_ready (rs := [7]) (by kernel_rfl) (by simp) ?_
           refine AllReadyH.cons (o := ⟨some 158, .call { callee := .builtin .append, args := #[.tmp 152, .tmp 157], argTypes := #[39, 39] }, 39, "ref.go:205", #[⟨1, .data⟩, ⟨6, .data⟩], none⟩) rfl (fun K' hK => ?_) AllReadyH.nil
           have gk := Gr.below EE.ok hG4.out bk
           refine step_appV entsT rfl (.tmp 152) (.tmp 157) rfl B (.slice EA3 el3 ec3) el3 vs3 rfl (by rw [hel3.out]; rw [hel3.out] at gk; exact gk.ow) ⟨wv.heap.size, 0, none⟩ 1 1 [.int .i64 ei, .int .i64 eg, .slice PA pn pc] rfl rfl (fun j u hj => by have h := rk.at_ j; rw [show (⟨wv.heap.size, 0, none⟩ : Addr).add j = ⟨wv.heap.size, j, none⟩ by unfold Addr.add; simp only [Nat.zero_add]; split <;> simp_all]; rw [h, <- hj]; simp) (fun u hu => by simp at hu; rcases hu with rfl | rfl | rfl <;> rfl) (by have h := HLE3.out; omega) (by decide) gk.Bw ?_; intro v9 w9 ho9 hg9 hv9
           obtain ⟨A9, c9, rfl, _, _, _⟩ := own_vrow ho9
           have f9 : Fr (fun y => B <= y /\ y ≠ gI) wk w9 := Fr.grown hg9 (fun x hx => ⟨(own_geB gk.ow hx).1, fun e => own_recne (hI4.out.under bk) gk.ow (e ▸ hx)⟩)
           have g9 := gk.put EE.ok (x := ((ei, eg), ep)) (r := [.int .i64 ei, .int .i64 eg, .slice PA pn pc]) (K := KA) rfl (EE.ok.below (K := KA) ⟨PA, pn, pc, rfl, HP.out.2.1⟩ (hFv.out.2.2.trans (bk.mono hFv.out.2.2.size))) (fun y hy e => by have h1 := (own_geB gk.ow e).1; have h2 := HP.out.1 y hy; have h3 := HWL.out.2.2; have h4 := HWR.out.2.2.2.2; omega) (by rw [<- hel3.out]; exact ho9) hg9 hv9
           have fz9 : Fr (fun y => y = gS \/ B <= y) wv w9 := (Fr.ofBelow _ bk).trans (f9.mono (fun y hy => .inr hy.1))
           have r9 := (hR4.out.under bk).fr f9 (fun e => by have h3 := HWL.out.2.2; have h := e.1; omega)
           have i9 := (hI4.out.under bk).fr f9 (fun e => e.2 rfl)
           have k9 : w9.cell? ⟨gS, 2, none⟩ = some (.slice EA3 el3 ec3) := r9.at_ 2
           have z9 := r9.fz 2
           clear ho9 hg9 hv9 f9 gk rk
           refine hK.out _ _ (HXV.out w9 fz9) (fun hHeld => ?_)
           clear hK K'
           try simp only [Act.put, sA_, sB_, sC_]
           refine tk_ 8 ⟨some 159, .fieldAddr 41 (.tmp 16) 2, 0, "ref.go:205", #[⟨0, .phase⟩, ⟨1, .phase⟩, ⟨2, .phase⟩, ⟨3, .phase⟩, ⟨4, .phase⟩, ⟨5, .phase⟩, ⟨6, .phase⟩, ⟨7, .phase⟩], none⟩ hHeld ?_
           simp only [Act.put, sA_, sB_, sC_]
           refine wpAnyH_ready (rs := [9]) (by kernel_rfl) (by simp) ?_
           refine AllReadyH.cons (o := ⟨none, .store 39 (.tmp 159) (.tmp 158), 0, "ref.go:205", #[⟨8, .data⟩, ⟨7, .data⟩, ⟨7, .chain⟩, ⟨0, .phase⟩, ⟨1, .phase⟩, ⟨2, .phase⟩, ⟨3, .phase⟩, ⟨4, .phase⟩, ⟨5, .phase⟩, ⟨6, .phase⟩, ⟨7, .phase⟩], none⟩) rfl (fun K' hK => ?_) AllReadyH.nil
           go_simp
           obtain ⟨wz, hwz⟩ : ∃ wz, wz = w9.setCell ⟨gS, 2, none⟩ (.slice A9 (el3 + 1) c9) := ⟨_, rfl⟩
           rw [<- hwz]
           have fx : Fr (· = gS) w9 wz := by rw [hwz]; exact Fr.setCell (own := (· = gS)) w9 (p := ⟨gS, 2, none⟩) rfl _
           have rz : Rec 41 wz gS (stC GA gN gc FA fN fc A9 (el3 + 1) c9) := by rw [hwz]; exact r9.set 2 _
           have fzz := fz9.trans (fx.mono (fun y hy => .inl hy))
           clear hwz k9 z9
           refine hK.out _ _ (HXV.out wz fzz) (fun hHeld => ?_)
           clear hK K'
           try simp only [Act.put, sA_, sB_, sC_]
           refine wpAnyH_done (by kernel_rfl) ?_ _
           refine NoPanic.normal ?_
           clear hHeld
           have gz := g9.fr EE.ok fx (fun y hy e => by have h1 := (own_geB g9.ow hy).1; have h2 := HWL.out.2.2; have e' : y = gS := e; omega) (fun y hy e => by have e' : y = gS := e; have h2 := HWR.out.2.2.2.2; rcases hy with h | h; (have := hD3.out y h; omega); (have := HP.out.1 y h.1; omega))
           have FZ := hi_ (And.intro gz (And.intro rz (And.intro fzz (i9.fr fx (fun e => by have h := hSI.out; have e' : gI = gS := e; omega)))))
           clear gz rz fzz i9 r9 fz9 g9 fx bk
           go_wp2_with fail
           refine ⟨⟨q + 1, A9, el3 + 1, c9, vs3 ++ [.int .i64 ei, .int .i64 eg, .slice PA pn pc], (fun y => D3 y \/ (KA y /\ y < wk.heap.size)), hqn, by go_num, hi_ (by rw [ent3_yes HE3.out HEI.out, List.length_append, <- hel3.out]; rfl), hi_ (fun e he h1 => ?_), hi_ (by rw [ent3_yes HE3.out HEI.out]; exact FZ.out.1), hi_ FZ.out.2.1, hi_ (fun y hy => ?_), hi_ (hF4.out.trans FZ.out.2.2.1), hi_ FZ.out.2.2.2⟩, by simp [intOf]; omega⟩
           ·rw [List.take_add_one, HE3.out] at he
            rcases List.mem_append.1 he with he | he
            ·exact hok3.out e he h1
            ·simp at he
             subst he
             exact HAL3.out
           ·have h2 := HWR.out.2.2.2.2
            rcases hy with h | h
            ·exact hD3.out y h
            ·have := HP.out.1 y h.1
             omega
         ·have HEI := hi_ hei
          have de : decide (ei = (i : Int)) = false := decide_eq_false hei
          have db : (ei == (i : Int)) = false := by simp [hei]
          have c0 := HM4.out.1
          clear hei hnE
          go_wp2_with fail
          have hd : Below wv.heap.size wv wv := Below.refl _ _
          refine ⟨⟨q + 1, EA3, el3, ec3, vs3, D3, hqn, by go_num, hi_ (by rw [ent3_no HE3.out HEI.out]; exact hel3.out), hi_ (fun e he h1 => ?_), hi_ (by rw [ent3_no HE3.out HEI.out]; exact Gr.below EE.ok hG4.out hd), hi_ (hR4.out.under hd), hD3, hi_ (hF4.out.trans (Fr.ofBelow _ hd)), hi_ (hI4.out.under hd)⟩, by simp [intOf]; omega⟩
          rw [List.take_add_one, HE3.out] at he
          rcases List.mem_append.1 he with he | he
          ·exact hok3.out e he h1
          ·simp at he
           subst he
           exact absurd h1 HEI.out
      ·have hqa : q = an := by omega
       have hal3 : ent3 i al q = entsBy (i + 1) al := ent3_all (by rw [hqa]; exact Nat.le_of_eq HAL.out.2.1.symm)
       have htk : al.take q = al := List.take_of_length_le (by rw [hqa]; exact Nat.le_of_eq HAL.out.2.1.symm)
       rw [hal3] at hel3 hG3
       rw [htk] at hok3
       have hoks3 := hi_ (show ∀ e ∈ al, 0 <= e.1.1 -> e.1.1 < ((i + 1 : Nat) : Int) -> s.alive e.1.1 e.1.2 = true from fun e he h1 h2 => by
        by_cases h3 : e.1.1 = (i : Int)
        ·exact hok3.out e he h3
        ·exact hoks.out e he h1 (by omega))
       clear hal3 htk
       go_wp2_with fail
       exact ⟨⟨i + 1, EA3, el3, ec3, vs3, D3, hin, by go_num, hel3, hoks3, hG3, hR3, hD3, hF3⟩, by simp [intOf]; omega⟩
    ·have hig : i = gN := by omega
     subst hig
     have hgl : s.g.length = i := by rw [HSG.out]; exact HGF.out.1.1
     have CCN : Hid (Calls Tryz.prog 56 #[.agg #[.int .i64 (nears en 1024), .int .i64 (nears gn 1073741824), .slice GA i gc, .slice FA fN fc]] wr fun e w' => e = .returned (.int .i64 (s.cnt s.g.length)) /\ Below wr.heap.size wr w') := hi_ (by
      exact RCount_any (K := fun _ => True) (d := ⟨nears en 1024, nears gn 1073741824, GA, i, gc, FA, fN, fc⟩) (s := s) (w := wr) ⟨by rw [HS.out]; show nears en 1024 = ((nears en 1024).toNat : Int); have h := (nears_bounds en 1024 (by decide)).1; omega, by rw [HS.out]; rfl, hgl.symm, by rw [HS.out]; exact HGF.out.2.1.symm, ⟨by rw [HSG.out]; exact HGF.out.1.below hwl, fun _ _ _ _ => trivial⟩, ⟨by rw [HS.out]; exact HGF.out.2.below hwl, fun _ _ _ _ => trivial⟩, hgc, hfc⟩ (by rw [HS.out]; show fs.length <= _; rw [HGF.out.2.1]; omega) (by rw [hgl]; omega))
     have HGL := hi_ hgl
     have HWL2 := hi_ (And.intro hwl h4l)
     have c2 := hR2.out.at_ 2
     have R9 := hi_ (show Rec 41 wr (w.heap.size + 1) (stC none 0 0 none 0 0 none 0 0) from by
      have h5 : Below wo.heap.size wo wr := HWR.out.2.1.trans (hF2.out.toBelow (fun y hy => by have h2 := HWR.out.2.2.2.2; have h3 := HWL.out.2.2; have h4 := HWR.out.2.1.size; rcases hy with h | h <;> omega) HWR.out.2.1.size)
      exact R2.out.under (HWR.out.2.2.1.trans (h5.mono HWR.out.2.2.1.size)))
     clear hwl h4l hgl rI
     by_cases hlen : el = an
     ·have hlen' : an = el := hlen.symm
      subst hlen'
      clear hlen
      by_cases hcn : an = s.cnt s.g.length
      ·have HCN := hi_ hcn
       have dn : decide ((an : Int) = (s.cnt s.g.length : Int)) = true := decide_eq_true (by omega)
       have dm : ((an : Int) == (s.cnt s.g.length : Int)) = true := by simp; omega
       clear hcn
       obtain ⟨wq, hwq⟩ : ∃ v, v = wr := ⟨_, rfl⟩
       subst hwq
       go_wp2_with (first
        | ((with_reducible refine wpList_ldS idsT6 rfl rfl (.tmp 10) rfl rfl RI.out ?_))
        | (go_at_call 56; refine CCN.out.mono ?_; rintro e w6 ⟨rfl, hb6⟩; have HB6 := hi_ hb6; clear hb6))
       have HR6 := hi_ (hR2.out.under HB6.out)
       have HR96 := hi_ (R9.out.under HB6.out)
       have HEnt : Hid (∃ K : Nat -> Prop, EntsV K w6 EA an (entsBy i al)) := hi_ (by
        obtain ⟨A2, c2, e2, _, _, hrw⟩ := (Gr.below EE.ok hG2.out HB6.out).rows EE.ok
        injection e2 with e21 e22 e23
        subst e21
        rw [<- hel.out] at hrw
        exact ⟨_, hrw⟩)
       have HBW6 := hi_ (HWL2.out.1.trans (HB6.out.mono HWL2.out.1.size))
       have hg1 : w.heap.size + 1 ≠ gS := fun e => by have h1 := HWR.out.2.2.2.2; have h2 := HB.out.2; have h3 := HWR.out.2.2.1.size; omega
       have HG1 := hi_ hg1
       have HEL := hel
       clear hg1 hG2 hR2 hF2 hD2 hel c2 dn dm CCN RI R9
       go_loopw [21] (fun kv wl => ∃ k : Nat, 1 <= k /\ k <= an + 1 /\ kv = .int .i64 k /\ Hid (Below w6.heap.size w6 wl) /\ Hid (∀ (j : Nat) (a b : En), j + 1 < k -> (entsBy i al)[j]? = some a -> (entsBy i al)[j + 1]? = some b -> a.1.1 ≠ b.1.1)) (fun kv _ => an + 1 - (intOf kv).toNat)
       case atStart => exact ⟨1, Nat.le_refl _, by omega, rfl, hi_ (Below.refl _ _), hi_ (fun j a b h => by omega)⟩
       case round =>
        obtain ⟨k, hk1, hk, rfl, hb, hne⟩ := hrel
        by_cases hkn : k < an
        ·obtain ⟨kk, hkk⟩ : ∃ kk, k = kk + 1 := ⟨k - 1, by omega⟩
         obtain ⟨a, ha⟩ : ∃ a, (entsBy i al)[kk]? = some a := ⟨_, List.getElem?_eq_getElem (by rw [<- HEL.out]; omega)⟩
         obtain ⟨y, hy⟩ : ∃ y, (entsBy i al)[kk + 1]? = some y := ⟨_, List.getElem?_eq_getElem (by rw [<- HEL.out]; omega)⟩
         obtain ⟨K, hE⟩ := HEnt.out
         have hEw : EntsV K wr EA an (entsBy i al) := EntsV.below hE hb.out
         obtain ⟨b, o, PA, pn, pc, hAA, _, hblt, k0, k1, _, _⟩ := hEw.cell ha
         obtain ⟨b', o', PA', pn', pc', hAA', _, _, m0, m1, _, _⟩ := hEw.cell hy
         rw [hAA] at hAA'
         injection hAA' with hAA'
         injection hAA' with q1 q2
         subst q1 q2
         subst hAA
         obtain ⟨⟨ai, ag⟩, ap⟩ := a
         obtain ⟨⟨yi, yg⟩, yp⟩ := y
         simp only at k0 k1 m0 m1
         rw [<- hkk] at m0 m1
         have z2 : wr.cell? ⟨gS, 2, none⟩ = some (.slice (some ⟨b, o, none⟩) an ec) := (HR6.out.under hb.out).at_ 2
         have hwrap : IntKind.i64.wrap ((k : Int) - 1) = (kk : Int) := by rw [show (k : Int) - 1 = (kk : Int) by omega]; exact IntWalk.i64_in _ (by omega)
         have hkl : kk < an := by omega
         have hle4 := hi_ (show an <= 2400 by have h := HAL.out.2.2; have h2 := HAL.out.2.1; omega)
         have hz : an <= 9223372036854775807 := by have := hle4.out; omega
         have HAY := hi_ (And.intro ha hy)
         have HKK := hi_ hkk
         have s31 : (wr.drew.cell? ⟨gS, 2, none⟩ = some (.slice (some ⟨b, o, none⟩) an ec) /\ (wr.drew.cell? ⟨b, o + k * 3, none⟩ = some (.int .i64 yi) /\ wr.drew.cell? ⟨b, o + k * 3 + 1, none⟩ = some (.int .i64 yg)) /\ wr.drew.cell? ⟨b, o + kk * 3, none⟩ = some (.int .i64 ai) /\ wr.drew.cell? ⟨b, o + kk * 3 + 1, none⟩ = some (.int .i64 ag)) := ⟨z2, ⟨m0, m1⟩, k0, k1⟩
         clear ha hy hE hEw hblt hkk
         by_cases hq : yi = ai
         ·have HQ := hi_ hq
          have dq : decide (yi = ai) = true := decide_eq_true hq
          have db : (yi == ai) = true := by simp [hq]
          clear hq k0 k1 m0 m1
          go_upto_region 31 with fail
          clear z2
          refine wp_region_noPanic ?_
          refine wp_region_held_drew (S := fun W => W.cell? ⟨gS, 2, none⟩ = some (.slice (some ⟨b, o, none⟩) an ec) /\ (W.cell? ⟨b, o + k * 3, none⟩ = some (.int .i64 yi) /\ W.cell? ⟨b, o + k * 3 + 1, none⟩ = some (.int .i64 yg)) /\ W.cell? ⟨b, o + kk * 3, none⟩ = some (.int .i64 ai) /\ W.cell? ⟨b, o + kk * 3 + 1, none⟩ = some (.int .i64 ag)) (by kernel_rfl) s31 (fun hHeld => ?_)
          refine tk_ 0 ⟨some 181, .fieldAddr 41 (.tmp 16) 2, 0, "ref.go:213", #[], none⟩ hHeld ?_
          simp only [Act.put, sA_, sB_, sC_]
          refine tk_ 1 ⟨some 182, .load 39 (.tmp 181), 39, "ref.go:213", #[⟨0, .data⟩], none⟩ hHeld ?_
          simp only [Act.put, sA_, sB_, sC_]
          refine tk_ 2 ⟨some 183, .move (.tmp 21), 3, "ref.go:213", #[], none⟩ hHeld ?_
          simp only [Act.put, sA_, sB_, sC_]
          refine tk_ 3 ⟨some 184, .indexAddr 39 (.tmp 182) (.tmp 183), 0, "ref.go:213", #[⟨1, .data⟩, ⟨2, .data⟩], none⟩ hHeld ?_
          simp only [Act.put, sA_, sB_, sC_]
          refine tk_ 4 ⟨some 185, .fieldAddr 95 (.tmp 184) 0, 0, "ref.go:213", #[⟨3, .data⟩], none⟩ hHeld ?_
          simp only [Act.put, sA_, sB_, sC_]
          refine tk_ 5 ⟨some 186, .fieldAddr 32 (.tmp 185) 0, 0, "ref.go:213", #[⟨4, .data⟩], none⟩ hHeld ?_
          simp only [Act.put, sA_, sB_, sC_]
          refine tk_ 6 ⟨some 187, .load 3 (.tmp 186), 3, "ref.go:213", #[⟨5, .data⟩], none⟩ hHeld ?_
          simp only [Act.put, sA_, sB_, sC_]
          refine tk_ 7 ⟨some 188, .fieldAddr 41 (.tmp 16) 2, 0, "ref.go:213", #[], none⟩ hHeld ?_
          simp only [Act.put, sA_, sB_, sC_]
          refine tk_ 8 ⟨some 189, .load 39 (.tmp 188), 39, "ref.go:213", #[⟨7, .data⟩], none⟩ hHeld ?_
          simp only [Act.put, sA_, sB_, sC_]
          refine tk_ 9 ⟨some 190, .move (.tmp 21), 3, "ref.go:213", #[], none⟩ hHeld ?_
          simp only [Act.put, sA_, sB_, sC_]
          refine tk_ 10 ⟨some 191, .binOp .sub 3 (.tmp 190) (.const (.int .i64 1)) 3, 3, "ref.go:213", #[⟨9, .data⟩], none⟩ hHeld ?_
          simp only [Act.put, sA_, sB_, sC_]
          refine tk_ 11 ⟨some 192, .indexAddr 39 (.tmp 189) (.tmp 191), 0, "ref.go:213", #[⟨8, .data⟩, ⟨10, .data⟩], none⟩ hHeld ?_
          simp only [Act.put, sA_, sB_, sC_]
          refine tk_ 12 ⟨some 193, .fieldAddr 95 (.tmp 192) 0, 0, "ref.go:213", #[⟨11, .data⟩], none⟩ hHeld ?_
          simp only [Act.put, sA_, sB_, sC_]
          refine tk_ 13 ⟨some 194, .fieldAddr 32 (.tmp 193) 0, 0, "ref.go:213", #[⟨12, .data⟩], none⟩ hHeld ?_
          simp only [Act.put, sA_, sB_, sC_]
          refine tk_ 14 ⟨some 195, .load 3 (.tmp 194), 3, "ref.go:213", #[⟨13, .data⟩], none⟩ hHeld ?_
          simp only [Act.put, sA_, sB_, sC_]
          refine tk_ 15 ⟨some 196, .binOp .eql 3 (.tmp 187) (.tmp 195) 3, 4, "ref.go:213", #[⟨6, .data⟩, ⟨14, .data⟩], none⟩ hHeld ?_
          simp only [Act.put, sA_, sB_, sC_]
          refine wpAnyH_done (by kernel_rfl) ?_ _
          refine NoPanic.normal ?_
          clear hHeld s31
          have R8 := hi_ (HR96.out.under hb.out.drew)
          go_wp2_with (first
           | ((with_reducible refine wpList_stS (cs' := stC none 0 0 none 0 0 none 0 0) stT rfl rfl (by simp [Value.oneCell']) rfl (.tmp 8) (.tmp 197) rfl rfl rfl R8.out ?_); intro w9 hR9 hF9)
           | (refine bodyPost_ret (res_ct rfl rfl (hR9.load stT rfl)) rfl ?_
              have hb6 : Below w.heap.size w wr.drew := HBW6.out.trans (hb.out.drew.mono HBW6.out.size)
              refine RLdA.no (hb6.trans (hF9.toBelow (fun y hy => by rw [show y = w.heap.size + 1 from hy]; omega) hb6.size)) (fun h => ?_)
              have h1 := h.ne kk ((ai, ag), ap) ((yi, yg), yp)
              rw [HXS.out, <- HAL.out.1, HGL.out] at h1
              exact h1 HAY.out.1 HAY.out.2 HQ.out.symm))
         ·have HQ := hi_ hq
          have dq : decide (yi = ai) = false := decide_eq_false hq
          have db : (yi == ai) = false := by simp [hq]
          clear hq k0 k1 m0 m1
          go_upto_region 31 with fail
          clear z2
          refine wp_region_noPanic ?_
          refine wp_region_held_drew (S := fun W => W.cell? ⟨gS, 2, none⟩ = some (.slice (some ⟨b, o, none⟩) an ec) /\ (W.cell? ⟨b, o + k * 3, none⟩ = some (.int .i64 yi) /\ W.cell? ⟨b, o + k * 3 + 1, none⟩ = some (.int .i64 yg)) /\ W.cell? ⟨b, o + kk * 3, none⟩ = some (.int .i64 ai) /\ W.cell? ⟨b, o + kk * 3 + 1, none⟩ = some (.int .i64 ag)) (by kernel_rfl) s31 (fun hHeld => ?_)
          refine tk_ 0 ⟨some 181, .fieldAddr 41 (.tmp 16) 2, 0, "ref.go:213", #[], none⟩ hHeld ?_
          simp only [Act.put, sA_, sB_, sC_]
          refine tk_ 1 ⟨some 182, .load 39 (.tmp 181), 39, "ref.go:213", #[⟨0, .data⟩], none⟩ hHeld ?_
          simp only [Act.put, sA_, sB_, sC_]
          refine tk_ 2 ⟨some 183, .move (.tmp 21), 3, "ref.go:213", #[], none⟩ hHeld ?_
          simp only [Act.put, sA_, sB_, sC_]
          refine tk_ 3 ⟨some 184, .indexAddr 39 (.tmp 182) (.tmp 183), 0, "ref.go:213", #[⟨1, .data⟩, ⟨2, .data⟩], none⟩ hHeld ?_
          simp only [Act.put, sA_, sB_, sC_]
          refine tk_ 4 ⟨some 185, .fieldAddr 95 (.tmp 184) 0, 0, "ref.go:213", #[⟨3, .data⟩], none⟩ hHeld ?_
          simp only [Act.put, sA_, sB_, sC_]
          refine tk_ 5 ⟨some 186, .fieldAddr 32 (.tmp 185) 0, 0, "ref.go:213", #[⟨4, .data⟩], none⟩ hHeld ?_
          simp only [Act.put, sA_, sB_, sC_]
          refine tk_ 6 ⟨some 187, .load 3 (.tmp 186), 3, "ref.go:213", #[⟨5, .data⟩], none⟩ hHeld ?_
          simp only [Act.put, sA_, sB_, sC_]
          refine tk_ 7 ⟨some 188, .fieldAddr 41 (.tmp 16) 2, 0, "ref.go:213", #[], none⟩ hHeld ?_
          simp only [Act.put, sA_, sB_, sC_]
          refine tk_ 8 ⟨some 189, .load 39 (.tmp 188), 39, "ref.go:213", #[⟨7, .data⟩], none⟩ hHeld ?_
          simp only [Act.put, sA_, sB_, sC_]
          refine tk_ 9 ⟨some 190, .move (.tmp 21), 3, "ref.go:213", #[], none⟩ hHeld ?_
          simp only [Act.put, sA_, sB_, sC_]
          refine tk_ 10 ⟨some 191, .binOp .sub 3 (.tmp 190) (.const (.int .i64 1)) 3, 3, "ref.go:213", #[⟨9, .data⟩], none⟩ hHeld ?_
          simp only [Act.put, sA_, sB_, sC_]
          refine tk_ 11 ⟨some 192, .indexAddr 39 (.tmp 189) (.tmp 191), 0, "ref.go:213", #[⟨8, .data⟩, ⟨10, .data⟩], none⟩ hHeld ?_
          simp only [Act.put, sA_, sB_, sC_]
          refine tk_ 12 ⟨some 193, .fieldAddr 95 (.tmp 192) 0, 0, "ref.go:213", #[⟨11, .data⟩], none⟩ hHeld ?_
          simp only [Act.put, sA_, sB_, sC_]
          refine tk_ 13 ⟨some 194, .fieldAddr 32 (.tmp 193) 0, 0, "ref.go:213", #[⟨12, .data⟩], none⟩ hHeld ?_
          simp only [Act.put, sA_, sB_, sC_]
          refine tk_ 14 ⟨some 195, .load 3 (.tmp 194), 3, "ref.go:213", #[⟨13, .data⟩], none⟩ hHeld ?_
          simp only [Act.put, sA_, sB_, sC_]
          refine tk_ 15 ⟨some 196, .binOp .eql 3 (.tmp 187) (.tmp 195) 3, 4, "ref.go:213", #[⟨6, .data⟩, ⟨14, .data⟩], none⟩ hHeld ?_
          simp only [Act.put, sA_, sB_, sC_]
          refine wpAnyH_done (by kernel_rfl) ?_ _
          refine NoPanic.normal ?_
          clear hHeld s31
          go_wp2_with fail
          refine ⟨⟨k + 1, by omega, by omega, by go_num, hi_ hb.out.drew, hi_ (fun j a b hj h1 h2 => ?_)⟩, by simp [intOf]; omega⟩
          by_cases e : j = kk
          ·subst e
           rw [HAY.out.1] at h1
           rw [HAY.out.2] at h2
           injection h1 with h1
           injection h2 with h2
           rw [<- h1, <- h2]
           exact fun hh => HQ.out hh.symm
          ·have h3 := HKK.out
           exact hne.out j a b (by omega) h1 h2
        ·have z2 : wr.cell? ⟨gS, 2, none⟩ = some (.slice EA an ec) := (HR6.out.under hb.out).at_ 2
         have R16 := hi_ (HR6.out.under hb.out)
         have R8 := hi_ (HR96.out.under hb.out)
         go_wp2_with (first
          | ((with_reducible refine wpList_ldS stT rfl rfl (.tmp 16) rfl rfl R16.out ?_))
          | ((with_reducible refine wpList_stS (cs' := stC GA i gc FA fN fc EA an ec) stT rfl rfl (by simp [Value.oneCell']) rfl (.tmp 8) (.tmp 198) rfl rfl rfl R8.out ?_); intro w9 hR9 hF9)
          | (refine bodyPost_ret (res_ct rfl rfl (hR9.load stT rfl)) rfl ?_
             have hb6 : Below w.heap.size w wr := HBW6.out.trans (hb.out.mono HBW6.out.size)
             obtain ⟨K, hE⟩ := HEnt.out
             have hE9 := ents_fr R8.out (EntsV.below hE hb.out) hF9
             have hlen : (entsBy s.g.length (entsTo n (zsK ks) xs xs.length)).length = an := by rw [HXS.out, <- HAL.out.1, HGL.out]; exact HEL.out.symm
             refine ⟨hb6.trans (hF9.toBelow (fun y hy => by rw [show y = w.heap.size + 1 from hy]; omega) hb6.size), .inl ⟨⟨fun j r hj => ?_, fun e he h1 h2 => ?_, ?_, ?_, fun j a b h1 h2 => ?_⟩, K, EA, ec, ?_, ?_⟩⟩
             ·exact HROWS.out j r (by have := (List.getElem?_eq_some_iff.1 hj).1; rw [HXS.out] at this; exact this) hj
             ·rw [HXS.out, <- HAL.out.1] at he
              rw [HGL.out] at h2
              exact hoks.out e he h1 h2
             ·rw [hlen, HXS.out, <- HAL.out.1]; exact HAL.out.2.1
             ·rw [HXS.out, <- HAL.out.1, <- HAL.out.2.1]; exact HCN.out
             ·rw [HXS.out, <- HAL.out.1, HGL.out] at h1 h2
              exact hne.out j a b (by have h3 := (List.getElem?_eq_some_iff.1 h2).1; rw [<- HEL.out] at h3; omega) h1 h2
             ·rw [hlen]; rfl
             ·rw [hlen, HXS.out, <- HAL.out.1, HGL.out]; exact hE9))
      ·have HCN := hi_ hcn
       have dn : decide ((an : Int) = (s.cnt s.g.length : Int)) = false := decide_eq_false (by omega)
       have dm : ((an : Int) == (s.cnt s.g.length : Int)) = false := by simp; omega
       clear hcn
       go_wp2_with (first
        | ((with_reducible refine wpList_ldS idsT6 rfl rfl (.tmp 10) rfl rfl RI.out ?_))
        | (go_at_call 56; refine CCN.out.mono ?_; rintro e w6 ⟨rfl, hb6⟩; have HB6 := hi_ hb6; have R8 := hi_ (show Rec 41 w6 (w.heap.size + 1) (stC none 0 0 none 0 0 none 0 0) from R9.out.under hb6); clear hb6)
        | ((with_reducible refine wpList_stS (cs' := stC none 0 0 none 0 0 none 0 0) stT rfl rfl (by simp [Value.oneCell']) rfl (.tmp 8) (.tmp 173) rfl rfl rfl R8.out ?_); intro w9 hR9 hF9)
        | (refine bodyPost_ret (res_ct rfl rfl (hR9.load stT rfl)) rfl ?_
           refine RLdA.no ((HWL2.out.1.trans (HB6.out.mono HWL2.out.1.size)).trans (hF9.toBelow (fun y hy => by rw [show y = w.heap.size + 1 from hy]; omega) (Nat.le_trans HWL2.out.1.size HB6.out.size))) (fun h => ?_)
           have h1 := h.cnt
           rw [HXS.out, <- HAL.out.1, <- HAL.out.2.1] at h1
           exact HCN.out h1))
     ·have HLN := hi_ hlen
      have dl : decide ((el : Int) = (an : Int)) = false := decide_eq_false (by omega)
      have db : ((el : Int) == (an : Int)) = false := by simp; omega
      have hne : ¬ ((el : Int) = (an : Int)) := by omega
      clear hlen
      go_wp2_with (first
       | ((with_reducible refine wpList_stS (cs' := stC none 0 0 none 0 0 none 0 0) stT rfl rfl (by simp [Value.oneCell']) rfl (.tmp 8) (.tmp 173) rfl rfl rfl R9.out ?_); intro w9 hR9 hF9)
       | (refine bodyPost_ret (res_ct rfl rfl (hR9.load stT rfl)) rfl ?_
          refine RLdA.no (HWL2.out.1.trans (hF9.toBelow (fun y hy => by rw [show y = w.heap.size + 1 from hy]; omega) HWL2.out.1.size)) (fun h => ?_)
          have h1 := h.len
          rw [HXS.out, <- HAL.out.1, <- HAL.out.2.1, HGL.out, <- hel.out] at h1
          exact HLN.out h1))
end
end Go.Proofs.YtaoinkjjmakhaaaGreatDoor
