/- The reference's Go: a sync. -/
import Derived.Test.YtieknelmfjkbhaaDr9
namespace Go.Proofs.Ytieknelmfjkbhaa
open Go.RowKit

/-- What a sync leaves safe. -/
def syncL (safe : List (List UInt8)) (ls : List (Nat × List UInt8)) : List (List UInt8) := ls.foldl (fun s x => s.set x.1 x.2) safe
theorem syncL_snoc (safe : List (List UInt8)) (ls : List (Nat × List UInt8)) (x : Nat × List UInt8) : syncL safe (ls ++ [x]) = (syncL safe ls).set x.1 x.2 := by simp [syncL]
theorem syncL_len (safe : List (List UInt8)) (ls : List (Nat × List UInt8)) : (syncL safe ls).length = safe.length := by
  unfold syncL
  induction ls generalizing safe with
  | nil => rfl
  | cons x l ih => rw [List.foldl_cons, ih, List.length_set]
theorem HdS.set {K : Nat → Prop} {w : World} {vs : List Value} {ls : List (List UInt8)} (h : HdS K w vs ls) (j b o c : Nat) (l : List UInt8) (hk : K b) (hlt : b < w.heap.size) (hc : 512 ≤ c) (hm : c ≤ maxLen) (hr : Rd w (some ⟨b, o, none⟩) 512 l) : HdS K w (vs.set j (.slice (some ⟨b, o, none⟩) 512 c)) (ls.set j l) := by
  refine ⟨by simp [h.1], fun i hi => ?_⟩
  rw [List.length_set] at hi
  by_cases e : j = i
  · subst e
    refine ⟨b, o, c, by rw [List.getElem?_set_self (by have := h.1; omega)], hk, hlt, hc, hm, ?_⟩
    rw [List.getD, List.getElem?_set_self hi]
    exact hr
  · obtain ⟨b', o', c', h1, r⟩ := h.2 i hi
    refine ⟨b', o', c', by rw [List.getElem?_set_ne e]; exact h1, ?_⟩
    rw [List.getD, List.getElem?_set_ne e, ← List.getD]
    exact r

section
variable (d : Rf) (a : Int) (bA : Option Addr) (bn bc : Nat) (fA : Option Addr) (fn fc : Nat) (w : World)

set_option maxRecDepth 100000 in
set_option maxHeartbeats 2000000 in
theorem Go_sync (K : Nat → Prop) (ho : d.off = false ∧ d.fuse ≠ 0) (hfz : -9223372036854775808 ≤ d.fuse ∧ d.fuse ≤ 9223372036854775807)
    (safe : List (List UInt8)) (ls : List (Nat × List UInt8)) (hS : RowsK K w d.SA d.sn safe) (hW : WaitK K w d.WA d.wn ls) (hls : ∀ x ∈ ls, x.1 < d.sn) (hwn : d.wn ≤ 1000000) (hsn : d.sn ≤ 4096) :
    Calls Try.prog 11 #[d.v, stv 2 a bA bn bc fA fn fc] w fun e w' => ∃ SA' sc', e = .returned (.tuple #[Rf.v { d with fuse := if 0 < d.fuse then d.fuse - 1 else d.fuse, SA := SA', sc := sc', WA := none, wn := 0, wc := 0 }, .slice none 0 0, .int .i64 0]) ∧ RowsK (fun x => K x ∨ (w.heap.size ≤ x ∧ x < w'.heap.size)) w' SA' d.sn (syncL safe ls) ∧ Below w.heap.size w w' := by
  obtain ⟨SA, sn, sc, WA, wn, wc, fuse, off, rdd, wrr⟩ := d
  simp only at ho hfz hS hW hls hwn hsn
  have hL := laid_new w ⟨SA, sn, sc, WA, wn, wc, fuse, off, rdd, wrr⟩ 2 a bA bn bc fA fn fc
  obtain ⟨w1, hw1⟩ : ∃ w1, w1 = ((w.alloc (.cells #[.slice SA sn sc, .slice WA wn wc, .int .i64 fuse, .bool off, .int .i64 rdd, .int .i64 wrr] 30)).alloc (.cells #[.int .i64 2, .int .i64 a, .slice bA bn bc, .slice fA fn fc] 37)).alloc (.cells #[.slice none 0 0, .slice none 0 0, .int .i64 0, .bool false, .int .i64 0, .int .i64 0] 30) := ⟨_, rfl⟩
  have hB1 : Below w.heap.size w w1 := by rw [hw1]; exact (((Below.refl _ _).alloc (Nat.le_refl _) _).alloc (by simp) _).alloc (by simp; omega) _
  rw [← hw1] at hL
  have k0 : w1.cell? ⟨w.heap.size + 1, 0, none⟩ = some (.int .i64 2) := cell_of_row _ _ 0 _ _ _ hL.st
  have HL := Lib.hid hL
  have HB1 := Lib.hid hB1
  clear hL hB1
  show Calls Try.prog _ #[.agg #[.slice SA sn sc, .slice WA wn wc, .int .i64 fuse, .bool off, .int .i64 rdd, .int .i64 wrr], .agg #[.int .i64 2, .int .i64 a, .slice bA bn bc, .slice fA fn fc]] w _
  obtain ⟨rfl, hf0⟩ := ho
  obtain ⟨f', hf'⟩ : ∃ f' : Int, f' = if 0 < fuse then fuse - 1 else fuse := ⟨_, rfl⟩
  have cB := burn_yes SA sn sc WA wn wc fuse rdd wrr w1 hf0 hfz
  rw [← hf'] at cB ⊢
  have CB := Lib.hid cB
  obtain ⟨vs0, hsl, hSA0, hSH0⟩ := hS
  obtain ⟨vw, hln, hA0, hH0⟩ := hW
  have HSL := Lib.hid hsl
  have HSA := Lib.hid hSA0
  have HSH := Lib.hid hSH0
  have HLN := Lib.hid hln
  have HA0 := Lib.hid hA0
  have HH0 := Lib.hid hH0
  have HLS := Lib.hid hls
  clear cB hf' hf0 hfz hsl hSA0 hSH0 hln hA0 hH0 hls
  go_enter Try.func11, Try.ntmps11
  go_wp2_with (first
    | (rw [← hw1]; clear hw1)
    | (with_reducible refine wpList_ldR rfl (.tmp 2) rfl rfl HL.out.r0 ?_))
  refine CB.out.mono ?_
  rintro e w2 ⟨rfl, hB2⟩
  have R0 := Lib.hid (HL.out.r0.under hB2)
  have R2 := Lib.hid (HL.out.r2.under hB2)
  have hst2 : w2.heap[w.heap.size + 1]? = _ := (hB2.block (w.heap.size + 1) (Array.getElem?_eq_some_iff.1 HL.out.st).1).trans HL.out.st
  have ST2 := Lib.hid hst2
  have HB2 := Lib.hid (HB1.out.trans (hB2.mono HB1.out.size))
  have hlt2 := (HL.out.r2.under hB2).lt
  have HLT2 := Lib.hid hlt2
  clear hB2 k0 hst2 CB hlt2
  go_wp2_with (first
    | (refine wpList_stR (d' := ⟨SA, sn, sc, WA, wn, wc, f', false, rdd, wrr⟩) rfl (.tmp 2) (.tmp 48) rfl rfl rfl R0.out ?_; intro w3 hR3 hF3; have hR23 : RAt w3 (w.heap.size + 2) zeroR := (hF3.block (w.heap.size + 2) R2.out.lt (fun e => by have e' : w.heap.size + 2 = w.heap.size := e; omega)).trans R2.out; have hst3 : w3.heap[w.heap.size + 1]? = some (.cells #[.int .i64 2, .int .i64 a, .slice bA bn bc, .slice fA fn fc] 37 (0, 0)) := (hF3.block (w.heap.size + 1) (Array.getElem?_eq_some_iff.1 ST2.out).1 (fun e => by have e' : w.heap.size + 1 = w.heap.size := e; omega)).trans ST2.out; have k0 : w3.cell? ⟨w.heap.size + 1, 0, none⟩ = some (.int .i64 2) := cell_of_row _ _ 0 _ _ _ hst3; have hB3 : Below w.heap.size w w3 := HB2.out.trans (hF3.toBelow (fun x hx => by rw [show x = w.heap.size from hx]; exact Nat.le_refl _) HB2.out.size); have HB3 := Lib.hid hB3; have R3 := Lib.hid hR3; have R23 := Lib.hid hR23; have hBa : Below w3.heap.size w3 (w3.alloc (.cells #[] 32)) := (Below.refl _ _).alloc (Nat.le_refl _) _; have q0a : (w3.alloc (.cells #[] 32)).cell? ⟨w.heap.size, 0, none⟩ = some (.slice SA sn sc) := (R3.out.under hBa).h0; have hsa := hBa.size; have HBA := Lib.hid hBa; have HSZ := Lib.hid hsa; clear hB3 hR23 hst3 hBa hF3 hR3 hsa)
    | (at_builtin; refine wpList_appR (K := K) listT rfl (.tmp 78) (.tmp 80) rfl w3.heap.size _ 0 [] rfl (World.ownsRow_lit w3 #[] 0 (Nat.le_refl _) (Nat.zero_le _) rfl) SA sn sc vs0 rfl ((HSA.out.below HB3.out).below HBA.out) HSH.out.one (by omega) (by decide) HSZ.out (fun e => by subst e; exact HSA.out.nil0) ?_; intro v4 w4 ho4 hg4; rw [List.nil_append, Nat.zero_add] at ho4))
  obtain ⟨A8, c8, rfl, hsc, hcm, _⟩ := own_row ho4
  have ho30 : (w3.alloc (.cells #[] 32)).ownsRow w3.heap.size 32 1 (.slice (some ⟨w3.heap.size, 0, none⟩) 0 0) 0 [] := World.ownsRow_lit w3 #[] 0 (Nat.le_refl _) (Nat.zero_le _) rfl
  have hB34 : Below w3.heap.size w3 w4 := HBA.out.trans (below_own ho30 HSZ.out hg4)
  have hB4 : Below w.heap.size w w4 := HB3.out.trans (hB34.mono HB3.out.size)
  have R4 := Lib.hid (R3.out.under hB34)
  have R24 := Lib.hid (R23.out.under hB34)
  have hg3 : w.heap.size + 2 < w3.heap.size := R23.out.lt
  have G3 := Lib.hid hg3
  have HB4 := Lib.hid hB4
  have HO4 := Lib.hid ho4
  have S34 := Lib.hid hB34.size
  clear ho30 ho4 hg4 hB34 hB4 hg3 q0a R3 R23 R0 R2 ST2 HB2 HLT2 k0
  go_loopw [9] (fun iv wr => ∃ (j : Nat) (vs : List Value), j ≤ wn ∧ iv = .int .i64 j ∧ wr.ownsRow w3.heap.size 32 1 (.slice A8 sn c8) sn vs ∧ HdS K w vs (syncL safe (ls.take j)) ∧ Fr (fun x => (Value.slice A8 sn c8).ownBlock = some x) w4 wr) (fun iv _ => wn - (intOf iv).toNat)
  case atStart => exact ⟨0, vs0, Nat.zero_le _, rfl, HO4.out, HSH.out, Fr.refl _ _⟩
  case round =>
    obtain ⟨j, vs, hj, rfl, ho, hH, hF⟩ := hrel
    have hownlt : ∀ x, (Value.slice A8 sn c8).ownBlock = some x → w3.heap.size ≤ x := fun x hx => (HO4.out.lt x hx).1
    have hRq : RAt wr w.heap.size ⟨SA, sn, sc, WA, wn, wc, f', false, rdd, wrr⟩ := (hF.block _ R4.out.lt (fun e => by have := hownlt _ e; have := G3.out; omega)).trans R4.out
    have hR2q : RAt wr (w.heap.size + 2) zeroR := (hF.block _ R24.out.lt (fun e => by have := hownlt _ e; have := G3.out; omega)).trans R24.out
    have hBr : Below w.heap.size w wr := HB4.out.trans (hF.toBelow (fun x hx => by have := hownlt x hx; have := G3.out; omega) HB4.out.size)
    have q1 : wr.cell? ⟨w.heap.size, 1, none⟩ = some (.slice WA wn wc) := hRq.h1
    by_cases hjn : j < wn
    · obtain ⟨b, o, hWA, _, hbw, hcell⟩ := HA0.out.2 (by omega)
      obtain ⟨b', o', c', e0, e1, hk', hb', hc', hm', hr'⟩ := HH0.out.2 j (by rw [HLN.out]; exact hjn)
      have k0 := (hBr.cell (p := ⟨b, o + j * 2, none⟩) hbw).trans (hcell _ _ e0)
      have k1 := (hBr.cell (p := ⟨b, o + (j * 2 + 1), none⟩) hbw).trans (hcell _ _ e1)
      rw [← Nat.add_assoc] at k1
      obtain ⟨y, hy⟩ : ∃ y, y = ls.getD j (0, []) := ⟨_, rfl⟩
      have hjl : j < ls.length := by rw [HLN.out]; exact hjn
      have htk : ls.take (j + 1) = ls.take j ++ [y] := by
        rw [List.take_succ_eq_append_getElem hjl, hy, List.getD, List.getElem?_eq_getElem hjl]
        rfl
      have hys : y.1 < sn := HLS.out y (by rw [hy, List.getD, List.getElem?_eq_getElem hjl]; exact List.getElem_mem hjl)
      rw [← hy] at k0 hr'
      obtain ⟨r, hA8⟩ : ∃ r, A8 = some ⟨r, 0, none⟩ := by
        rcases ho.2 with ⟨h1, h2⟩ | ⟨g, cap, cur, h1, _⟩
        · omega
        · injection h1 with h1
          exact ⟨g, h1⟩
      subst hA8
      subst hWA
      have hr3 : w3.heap.size ≤ r := hownlt r rfl
      have hsv : y.1 < vs.length := by have := ho.1; omega
      have k5 := ho.cells (g := r) rfl y.1 _ (List.getElem?_eq_getElem hsv)
      rw [Addr.add_lit, Nat.zero_add] at k5
      have fz5 : wr.frozen? ⟨r, y.1, none⟩ = false := by obtain ⟨C, hC⟩ := own_tag ho (x := r) rfl; simp [World.frozen?, hC]
      have hne1 : ¬ w.heap.size = r := by have := G3.out; omega
      have hne2 : ¬ b = r := by have := G3.out; omega
      obtain ⟨hd, hhd⟩ : ∃ hd, hd = Value.slice (some ⟨b', o', none⟩) 512 c' := ⟨_, rfl⟩
      have hone : hd.oneCell' = true := by rw [hhd]; rfl
      have hFs : Fr (· = r) wr (wr.setCell ⟨r, y.1, none⟩ hd) := Fr.setCell (own := (· = r)) wr (p := ⟨r, y.1, none⟩) rfl _
      have s1 : wr.cell? ⟨w.heap.size, 1, none⟩ = some (.slice (some ⟨b, o, none⟩) wn wc) ∧ wr.cell? ⟨b, o + j * 2, none⟩ = some (.int .i64 ((y.1 : Nat) : Int)) ∧ wr.cell? ⟨b, o + j * 2 + 1, none⟩ = some (.slice (some ⟨b', o', none⟩) 512 c') := ⟨q1, k0, k1⟩
      have s2 : wr.drew.cell? ⟨w.heap.size, 1, none⟩ = some (.slice (some ⟨b, o, none⟩) wn wc) ∧ wr.drew.cell? ⟨b, o + j * 2, none⟩ = some (.int .i64 ((y.1 : Nat) : Int)) ∧ wr.drew.cell? ⟨b, o + j * 2 + 1, none⟩ = some (.slice (some ⟨b', o', none⟩) 512 c') := ⟨q1, k0, k1⟩
      have s3 : (wr.drew.setCell ⟨r, y.1, none⟩ (.slice (some ⟨b', o', none⟩) 512 c')).cell? ⟨w.heap.size, 1, none⟩ = some (.slice (some ⟨b, o, none⟩) wn wc) ∧ (wr.drew.setCell ⟨r, y.1, none⟩ (.slice (some ⟨b', o', none⟩) 512 c')).cell? ⟨b, o + j * 2, none⟩ = some (.int .i64 ((y.1 : Nat) : Int)) ∧ (wr.drew.setCell ⟨r, y.1, none⟩ (.slice (some ⟨b', o', none⟩) 512 c')).cell? ⟨b, o + j * 2 + 1, none⟩ = some (.slice (some ⟨b', o', none⟩) 512 c') := by
        have hh : ∀ (x i : Nat), ¬ x = r → (wr.drew.setCell ⟨r, y.1, none⟩ (.slice (some ⟨b', o', none⟩) 512 c')).cell? ⟨x, i, none⟩ = wr.cell? ⟨x, i, none⟩ := fun x i hx => World.cell?_of_block (w := wr) (a := ⟨x, i, none⟩) (Below.heap_setCell wr.drew ⟨r, y.1, none⟩ _ x hx)
        exact ⟨(hh _ _ hne1).trans q1, (hh _ _ hne2).trans k0, (hh _ _ hne2).trans k1⟩
      have HTK := Lib.hid htk
      have HO := Lib.hid ho
      have HH := Lib.hid hH
      have HF := Lib.hid hF
      have HRR := Lib.hid hr'
      have HK' := Lib.hid hk'
      have g1 : (0 : Int) ≤ (j : Int) := by omega
      have g2 : (j : Int) < (wn : Int) := by omega
      have g3 : (0 : Int) ≤ ((y.1 : Nat) : Int) := by omega
      have g4 : ((y.1 : Nat) : Int) < (sn : Int) := by omega
      have k5d : wr.drew.cell? ⟨r, y.1, none⟩ = _ := k5
      have fz5d : wr.drew.frozen? ⟨r, y.1, none⟩ = false := fz5
      clear ho hH hF hRq hR2q hBr hr' hy htk e0 e1 hcell hownlt hhd hone hFs hk' hd
      go_wp2_with fail
      go_region_held3 (fun w' => w'.cell? ⟨w.heap.size, 1, none⟩ = some (.slice (some ⟨b, o, none⟩) wn wc) ∧ w'.cell? ⟨b, o + j * 2, none⟩ = some (.int .i64 ((y.1 : Nat) : Int)) ∧ w'.cell? ⟨b, o + j * 2 + 1, none⟩ = some (.slice (some ⟨b', o', none⟩) 512 c')) (first
          | with_reducible exact s1
          | with_reducible exact s2
          | with_reducible exact s3
          | exact s3) (fail)
      all_goals
        have ho6 := own_set HO.out y.1 (.slice (some ⟨b', o', none⟩) 512 c')
        have hH6 := HH.out.set y.1 b' o' c' _ HK'.out hb' hc' hm' HRR.out
        rw [← syncL_snoc, ← HTK.out] at hH6
        have hF6 := HF.out.trans ((Fr.setCell (own := (· = r)) wr (p := ⟨r, y.1, none⟩) rfl (.slice (some ⟨b', o', none⟩) 512 c')).mono (fun x hx => by rw [show x = r from hx]; rfl))
        have O6 := Lib.hid ho6
        have K6 := Lib.hid hH6
        have F6 := Lib.hid hF6
        clear ho6 hH6 hF6 s1 s2 s3 q1 k0 k1 k5 k5d fz5 fz5d HO HH HF HRR
        go_wp2
        go_roundw
        case rel => exact ⟨j + 1, _, hjn, by go_num, O6.out, K6.out, F6.out.trans (Fr.drew _ _)⟩
        case measure => simp [intOf]; omega
    · have e : j = wn := by omega
      subst e
      have q0 : wr.cell? ⟨w.heap.size, 0, none⟩ = some (.slice SA sn sc) := hRq.h0
      have z0 := hRq.fz 0
      obtain ⟨wA, hwA⟩ : ∃ wA, wA = wr.setCell ⟨w.heap.size, 0, none⟩ (.slice A8 sn c8) := ⟨_, rfl⟩
      have RA : RAt wA w.heap.size ⟨A8, sn, c8, WA, j, wc, f', false, rdd, wrr⟩ := by rw [hwA]; exact heap_setCell_at hRq _
      have FA : Fr (· = w.heap.size) wr wA := by rw [hwA]; exact Fr.setCell (own := (· = w.heap.size)) wr (p := ⟨w.heap.size, 0, none⟩) rfl _
      have q1A : wA.cell? ⟨w.heap.size, 1, none⟩ = some (.slice WA j wc) := RA.h1
      have z1A := RA.fz 1
      obtain ⟨wB, hwB⟩ : ∃ wB, wB = wA.setCell ⟨w.heap.size, 1, none⟩ (.slice none 0 0) := ⟨_, rfl⟩
      have RB : RAt wB w.heap.size ⟨A8, sn, c8, none, 0, 0, f', false, rdd, wrr⟩ := by rw [hwB]; exact heap_setCell_at RA _
      have FB : Fr (· = w.heap.size) wr wB := FA.trans (by rw [hwB]; exact Fr.setCell (own := (· = w.heap.size)) wA (p := ⟨w.heap.size, 1, none⟩) rfl _)
      have R2B : RAt wB (w.heap.size + 2) zeroR := (FB.block (w.heap.size + 2) hR2q.lt (fun e => by have e' : w.heap.size + 2 = w.heap.size := e; omega)).trans hR2q
      have HO := Lib.hid ho
      have HH := Lib.hid hH
      have HBR := Lib.hid hBr
      have RRB := Lib.hid RB
      have RR2B := Lib.hid R2B
      have FFB := Lib.hid FB
      have HF := Lib.hid hF
      clear ho hH hBr RA RB FA FB R2B hRq hR2q hF hownlt
      go_wp2_with (first
        | (rw [← hwA]; clear hwA)
        | (rw [← hwB]; clear hwB)
        | (with_reducible refine wpList_ldR rfl (.tmp 2) rfl rfl RRB.out ?_)
        | (with_reducible refine wpList_stR rfl (.tmp 4) (.tmp 106) rfl rfl rfl RR2B.out ?_; intro w11 hR11 hF11))
      refine bodyPost_ret (res_R3 rfl rfl hR11) rfl ?_
      have g3 := G3.out
      have hsr : w3.heap.size ≤ wr.heap.size := Nat.le_trans S34.out HF.out.size
      have hBf : Below w.heap.size w w11 := (HBR.out.trans (FFB.out.toBelow (fun x hx => by rw [show x = w.heap.size from hx]; exact Nat.le_refl _) HBR.out.size)).trans (hF11.toBelow (fun x hx => by rw [show x = w.heap.size + 2 from hx]; omega) (by have := HBR.out.size; have := FFB.out.size; omega))
      have k8 := own_fr (own_fr HO.out FFB.out (fun x hx e => by have := (HO.out.lt x hx).1; have e' : x = w.heap.size := e; omega)) hF11 (fun x hx e => by have := (HO.out.lt x hx).1; have e' : x = w.heap.size + 2 := e; omega)
      obtain ⟨A9, c9, e9, _, _, hA9⟩ := own_row k8
      cases e9
      have hH9 := HH.out
      rw [List.take_of_length_le (by rw [HLN.out]; exact Nat.le_refl _)] at hH9
      exact ⟨A8, c8, rfl, ⟨vs, by rw [syncL_len, HSL.out], hA9.mono (fun x hx => .inr ⟨by omega, hx.2⟩), (hH9.below hBf).mono (fun x hx => .inl hx)⟩, hBf⟩
end
end Go.Proofs.Ytieknelmfjkbhaa
