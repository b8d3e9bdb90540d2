/- TbI, CmO, BitsLd, TbJ -/
import Derived.Test.YtpbmjinjpeddaaaDoorQb9
import Derived.Lib.SmallJoins
import Derived.Deep.Slices
import Derived.Deep.Fields
import Derived.ChangeSame
import Derived.WideShapes
import Derived.Test.YtpbmjinjpeddaaaDoorRows
import Derived.LaidMore
import Derived.Lib.LaidTab
namespace Go.Proofs.YtpbmjinjpeddaaaDoor
open Go.RowKit
set_option maxRecDepth 100000

section
variable (lg pg en gn : Int) (A : Option Addr) (n cap : Nat) (ks : List Kd) (w : World) (s : Nat) (LA : Option Addr) (ln lc : Nat) (st : List Tst) (comp row : Int)
set_option maxHeartbeats 1000000 in
theorem TableBack_much (h : KRd w A n ks) (hn : n ≤ 9223372036854775807) (hL : Lens ks) (hT : TabAt w) :
    (muchK ks = true → Calls Tryd.prog 5 #[cv lg pg en gn A n cap, .int .u64 (s : Nat), .slice LA ln lc, .int .i64 comp, .int .i64 row] w fun e w' => e = .returned (.bool true) ∧ Below w.heap.size w w') := by
  intro hmu
  obtain ⟨w1, hw1⟩ : ∃ w1, w1 = w.alloc (.cells (cc lg pg en gn A n cap) 24) := ⟨_, rfl⟩
  have hb1 : Below w.heap.size w w1 := by rw [hw1]; exact (Below.refl _ _).alloc (Nat.le_refl _) _
  have HR1 := Lib.hid (show Rec 24 w1 w.heap.size (cc lg pg en gn A n cap) by rw [hw1]; exact Rec.new _ _ _)
  have CM := Much_any lg pg en gn A n cap ks w1 (h.below hb1) hn hL
  rw [hmu] at CM
  have CM := Lib.hid CM
  have HB1 := Lib.hid hb1
  have HT := Lib.hid hT
  clear h hT hb1 hL hmu
  go_enter Tryd.func5, Tryd.ntmps5
  go_wp2_with (first
    | (rw [← hw1]; clear hw1)
    | (with_reducible refine wpList_ldS confT rfl rfl (.tmp 5) rfl rfl HR1.out ?_)
    | (go_at_call 6; refine CM.out.mono ?_; rintro e w2 ⟨rfl, hb2⟩; have HB2 := Lib.hid (HB1.out.trans (hb2.mono HB1.out.size)); clear hb2)
    | (go_at_call 8; refine (tlive_any _ (HT.out.below HB2.out)).mono ?_; rintro e w3 ⟨rfl, hb3⟩; have HB3 := Lib.hid hb3; clear hb3))
  go_ret
  exact ⟨rfl, HB2.out.trans (HB3.out.mono HB2.out.size)⟩

set_option maxHeartbeats 4000000 in
theorem TableBack_walk (h : KRd w A n ks) (hn : n ≤ 9223372036854775807) (hL : Lens ks) (hs : s < 18446744073709551616) (hl : TSRd (· < w.heap.size) w LA ln st) (hln : ln ≤ 9223372036854775807) (hk : In64 comp) (hT : TabAt w) :
    Calls Tryd.prog 5 #[cv lg pg en gn A n cap, .int .u64 (s : Nat), .slice LA ln lc, .int .i64 comp, .int .i64 row] w fun e w' => e = .returned (.bool true) ∧ Below w.heap.size w w' := by
  cases hmu : muchK ks with
  | true => exact TableBack_much lg pg en gn A n cap ks w s LA ln lc comp row h hn hL hT hmu
  | false =>
  have hn50 : n ≤ 1000000 := by have := much_le hmu; have := h.1; omega
  obtain ⟨w1, hw1⟩ : ∃ w1, w1 = w.alloc (.cells (cc lg pg en gn A n cap) 24) := ⟨_, rfl⟩
  have hb1 : Below w.heap.size w w1 := by rw [hw1]; exact (Below.refl _ _).alloc (Nat.le_refl _) _
  have HR1 := Lib.hid (show Rec 24 w1 w.heap.size (cc lg pg en gn A n cap) by rw [hw1]; exact Rec.new _ _ _)
  have CM := Much_any lg pg en gn A n cap ks w1 (h.below hb1) hn hL
  rw [hmu] at CM
  have CM := Lib.hid CM
  have HB1 := Lib.hid hb1
  have HT := Lib.hid hT
  have H := Lib.hid h
  have HL := Lib.hid hl
  clear h hT hb1 hL hl hmu
  go_enter Tryd.func5, Tryd.ntmps5
  go_wp2_with (first
    | (rw [← hw1]; clear hw1)
    | (with_reducible refine wpList_ldS confT rfl rfl (.tmp 5) rfl rfl HR1.out ?_)
    | (go_at_call 6; refine CM.out.mono ?_; rintro e w2 ⟨rfl, hb2⟩; have HR2 := Lib.hid (HR1.out.under hb2); have HB2 := Lib.hid (HB1.out.trans (hb2.mono HB1.out.size)); clear hb2))
  refine (TMuch_any w2 LA ln lc st (HL.out.below HB2.out) hln).mono ?_
  rintro e w3 ⟨rfl, r, rfl, hr⟩
  cases r with
  | true =>
    clear hr
    go_wp2_with (go_at_call 8; refine (tlive_any _ (HT.out.below HB2.out)).mono ?_; rintro e w3 ⟨rfl, hb3⟩; have HB3 := Lib.hid hb3; clear hb3)
    go_ret
    exact ⟨rfl, HB2.out.trans (HB3.out.mono HB2.out.size)⟩
  | false =>
    obtain ⟨h60, h40⟩ := hr rfl
    have H40 := Lib.hid h40
    clear hr h40 CM HR1 HB1
    go_wp2_with (first
      | (with_reducible refine wpList_ldS confT rfl rfl (.tmp 5) rfl rfl HR2.out ?_)
      | (go_at_call 9; refine (TNew_any lg pg en gn A n cap ks w2 (H.out.below HB2.out) hn50 s hs (HT.out.below HB2.out)).mono ?_; rintro e w3 ⟨p, m, q, tag, rfl, hI, hb3⟩; have HA3 := Lib.hid (TbA.new hs hI); have HB3 := Lib.hid hb3; clear hI hb3))
    have hs2 := HB2.out.size
    obtain ⟨t0, ht0⟩ : ∃ t0, t0 = Tb.new n (zsK ks) s := ⟨_, rfl⟩
    obtain ⟨sg, hsg⟩ : ∃ sg, sg = s &&& ofL (idxs n) 64 := ⟨_, rfl⟩
    have hA3 := HA3.out
    rw [← ht0, ← hsg] at hA3
    have HA := Lib.hid hA3
    have HT0 := Lib.hid ht0
    have HSG := Lib.hid hsg
    clear hA3 HA3 ht0 hsg
    go_loopw [12] (fun iv wr => ∃ (j : Nat) (t : Tb) (tag' : Nat → Nat) (v' : Value), j ≤ ln ∧ iv = .int .i64 j ∧ TbA wr w2.heap.size tag' p m v' q sg t ∧ t.cs = t0.cs ∧ Below w2.heap.size w2 wr) (fun iv _ => ln - (intOf iv).toNat)
    case atStart => exact ⟨0, t0, tag, nilv, Nat.zero_le _, rfl, HA.out, rfl, HB3.out⟩
    case round =>
      obtain ⟨j, t, tag', v', hj, rfl, hA, hcs, hB⟩ := hrel
      by_cases hjn : j < ln
      · obtain ⟨b, o, x, hLA, hlt, hx, hok, hc⟩ := HL.out.at_ hjn
        have HLA := Lib.hid hLA
        subst hLA
        have hBw : Below w.heap.size w wr := HB2.out.trans (hB.mono hs2)
        have hpn := H40.out j x (by omega) hx
        have CD := tdo_any hA (HT.out.below hBw) x (hok.ok.below hBw) (fun y hy => by
          rcases Nat.eq_zero_or_pos (tag' y) with h0 | h0
          · exact h0
          · have := hA.i.lo y (by omega); omega) hok.cz (by omega)
        have kc : ∀ i u, x.cs[i]? = some u → wr.cell? ⟨b, o + j * 7 + i, none⟩ = some u := fun i u hu => (hBw.cell (p := ⟨b, o + j * 7 + i, none⟩) hlt).trans (hc i u hu)
        have hlo := hA.i.lo
        have hNle := hA.i.Nle
        have HCS := Lib.hid hcs
        have HB := Lib.hid hB
        have HLO := Lib.hid hlo
        obtain ⟨T', hT'⟩ : ∃ T', T' = (t.go x.ts).1 := ⟨_, rfl⟩
        have hTcs : T'.cs = t0.cs := by rw [hT', Tb.go_cs, hcs]
        have HTcs := Lib.hid hTcs
        have HT' := Lib.hid hT'
        obtain ⟨d, i, g, pA, pn, pc, ps, row', comp', bA, bn, bc, bb⟩ := x
        have k0 : wr.cell? ⟨b, o + j * 7, none⟩ = some (.int .i64 d) := kc 0 _ rfl
        have k1 : wr.cell? ⟨b, o + j * 7 + 1, none⟩ = some (.int .i64 i) := kc 1 _ rfl
        have k2 : wr.cell? ⟨b, o + j * 7 + 2, none⟩ = some (.int .i64 g) := kc 2 _ rfl
        have k3 : wr.cell? ⟨b, o + j * 7 + 3, none⟩ = some (.slice pA pn pc) := kc 3 _ rfl
        have k4 : wr.cell? ⟨b, o + j * 7 + 4, none⟩ = some (.int .i64 row') := kc 4 _ rfl
        have k5 : wr.cell? ⟨b, o + j * 7 + 5, none⟩ = some (.int .i64 comp') := kc 5 _ rfl
        have k6 : wr.cell? ⟨b, o + j * 7 + 6, none⟩ = some (.slice bA bn bc) := kc 6 _ rfl
        have CD' : Calls Tryd.prog 11 #[.pointer (some ⟨p, 0, none⟩), .agg #[.int .i64 d, .int .i64 i, .int .i64 g, .slice pA pn pc, .int .i64 row', .int .i64 comp', .slice bA bn bc]] wr (DoR wr w2.heap.size tag' p m q sg (t.go (Tst.ts ⟨d, i, g, pA, pn, pc, ps, row', comp', bA, bn, bc, bb⟩))) := CD
        have CDH := Lib.hid CD'
        clear CD CD' kc hc hok hx hpn hcs hB hlo hTcs hT' hA hBw
        go_wp2_with (go_at_call 11; refine CDH.out.mono ?_; rintro e w5 ⟨_, _, _, _, _, _, rfl, _, tag5, v5, hA5, hG5⟩; rw [← HT'.out] at hA5; have HA5 := Lib.hid hA5; have HG5 := Lib.hid (hG5.toBelow HLO.out hNle); clear hA5 hG5)
        go_roundw
        case rel => exact ⟨j + 1, T', tag5, v5, hjn, by go_num, HA5.out, HTcs.out, HB.out.trans HG5.out⟩
        case measure => simp [intOf]; omega
      · obtain rfl : j = ln := by omega
        have CSG := Lib.hid (tsig_any hA.i)
        have hsl := hA.sgl
        have CRL := Lib.hid (RList_any sg wr hA.sgl)
        have hsig := hA.sig
        have hll : (listN sg).length = t.cs.length := by
          have := congrArg List.length hsig
          unfold listZ at this
          simpa using this
        obtain ⟨nc, hnc⟩ : ∃ nc, nc = t.cs.length := ⟨_, rfl⟩
        have HNC := Lib.hid hnc
        have HA := Lib.hid hA
        have HCS := Lib.hid hcs
        have HBr := Lib.hid hB
        have HSIG := Lib.hid hsig
        have HLL := Lib.hid hll
        have hcn := hA.ok.cn
        rw [← hnc] at hcn
        clear hA hcs hB hsig hll hnc H40 HL
        go_wp2_with (first
          | (go_at_call 26; refine CSG.out.mono ?_; rintro e w5 ⟨rfl, rfl⟩)
          | (go_at_call 27; refine CRL.out.mono ?_; rintro e w6 ⟨v6, rfl, ho6, hb6⟩; rw [HSIG.out, HLL.out, ← HNC.out] at ho6; obtain ⟨LA6, lc6, rfl, _, _, hI6⟩ := own_rowsL ho6 (ints_hd _) (by simp [← HNC.out]); have HI6 := Lib.hid hI6; have HB6 := Lib.hid hb6; have HA6 := Lib.hid (HA.out.below hb6); clear hI6 hb6 ho6))
        have hs6 := HB6.out.size
        go_loopw [14, 15] (fun ov iv wq => ∃ (k : Nat) (vs : List Value) (D : Nat → Prop), k ≤ nc ∧ iv = .int .i64 k ∧ Gr EB 37 1 wq w6.heap.size ov vs D (t.colsL k) ∧ (∀ x, D x → w6.heap.size ≤ x) ∧ Below w6.heap.size w6 wq) (fun _ iv _ => nc - (intOf iv).toNat)
        case atStart => exact ⟨0, [], _, Nat.zero_le _, rfl, Gr.start (World.ownsRow_nil _ _ _ _) (Nat.le_refl _), fun x hx => hx.elim, Below.refl _ _⟩
        case round =>
          obtain ⟨k, vs, D, hk', rfl, hG, hD, hB⟩ := hrel
          by_cases hkn : k < nc
          · have hkc : k < t.cs.length := by rw [← HNC.out]; exact hkn
            have hAq := HA6.out.below hB
            have CC := TCol_go hAq (Tb.comp_in HA6.out.ok hkc)
            rw [Tb.col_at HA6.out.ok hkc] at CC
            have hIq := IntsV.below HI6.out hB
            obtain ⟨b, o, hLA, hblt, kk⟩ := IntsV.cell hIq (get_fst hkc)
            have HLA := Lib.hid hLA
            subst hLA
            obtain ⟨cp, hcp⟩ : ∃ cp, cp = (t.cs.getD k (0, 0)).1 := ⟨_, rfl⟩
            rw [← hcp] at kk CC
            have CC := Lib.hid CC
            have HSN := Lib.hid (t.colsL_succ k)
            have HLJ := Lib.hid (t.colsL_len k)
            obtain ⟨bts, hbts⟩ : ∃ bts, bts = (t.co k).bytes := ⟨_, rfl⟩
            have HBT := Lib.hid hbts
            have HG := Lib.hid hG
            have HD := Lib.hid hD
            have HB := Lib.hid hB
            clear hAq hIq hG hD hB hcp hbts
            go_wp2_with (first
              | (go_at_call 20; refine CC.out.mono ?_; rintro e w7 ⟨GA, gm, gc, rfl, hV, hb7⟩; simp only [← HBT.out] at hV; obtain ⟨w8, hw8⟩ : ∃ w8, w8 = w7.alloc (.cells #[.slice GA gm gc] 37) := ⟨_, rfl⟩; have hb8 : Below w7.heap.size w7 w8 := (by rw [hw8]; exact (Below.refl _ _).alloc (Nat.le_refl _) _); have hv8 : VRow (fun x => w7.heap.size ≤ x) w8 (some ⟨w7.heap.size, 0, none⟩) 1 1 [.slice GA gm gc] := (by rw [hw8]; exact VRow.new w7 #[.slice GA gm gc] _ 1 1 rfl); have HV := Lib.hid (hV.below hb8); have HB8 := Lib.hid (hb7.trans (hb8.mono hb7.size)); have HV8 := Lib.hid hv8; have HW8 := Lib.hid hw8; clear hV hb7 hb8 hv8 hw8)
              | (rw [← HW8.out])
              | (at_builtin; have G8 := HG.out.below EB.ok HB8.out; refine wpList_appX bbT rfl (.tmp 70) (.tmp 72) rfl w6.heap.size _ k vs rfl (by have := G8.ow; rw [HLJ.out] at this; exact this) _ 1 1 _ rfl HV8.out (fun u hu => by rw [List.mem_singleton.1 hu]; rfl) (by omega) (by decide) G8.Bw ?_; intro v9 w9 ho9 hg9 hv9; have G9 := Lib.hid (G8.put EB.ok rfl ⟨_, rfl, HV.out⟩ (fun y hy e => by have := (own_geB HG.out.ow e).2; omega) (by rw [HLJ.out]; exact ho9) hg9 hv9); have B9 := Lib.hid ((HB.out.trans (HB8.out.mono HB.out.size)).trans ((Fr.grown hg9 (own := fun x => w6.heap.size ≤ x) (fun x hx => (own_geB G8.ow hx).1)).toBelow (fun x hx => hx) G8.Bw)); clear G8 ho9 hg9 hv9))
            go_roundw
            case rel =>
              refine ⟨k + 1, _, _, hkn, by go_num, (by rw [HSN.out, ← HBT.out]; exact G9.out), ?_, B9.out⟩
              intro x hx
              rcases hx with h2 | h2
              · exact HD.out x h2
              · have := h2.1
                have := HB.out.size
                omega
            case measure => simp [intOf]; omega
          · obtain rfl : k = nc := by omega
            obtain ⟨CA, cx, hov, _, _, hR⟩ := hG.rows EB.ok
            rw [t.colsL_len] at hov hR
            subst hov
            have hRV := EB.rows hR
            have hBq : Below w2.heap.size w2 wr := (HBr.out.trans (HB6.out.mono HBr.out.size)).trans (hB.mono (Nat.le_trans HBr.out.size hs6))
            have hBw : Below w.heap.size w wr := HB2.out.trans (hBq.mono hs2)
            have hld : Below wr.heap.size wr wr.drew := (Below.refl _ _).drew
            have hAq := HA6.out.below hB
            have hRq := HR2.out.below hBq HR2.out.lt
            have hSS : ∀ W, Below wr.heap.size wr W → (W.cell? ⟨w.heap.size, 0, none⟩ = some (.int .i64 lg) ∧ W.cell? ⟨w.heap.size, 1, none⟩ = some (.int .i64 pg) ∧ W.cell? ⟨w.heap.size, 2, none⟩ = some (.int .i64 en) ∧ W.cell? ⟨w.heap.size, 3, none⟩ = some (.int .i64 gn) ∧ W.cell? ⟨w.heap.size, 4, none⟩ = some (.slice A n cap)) := fun W hW => by
              have := hRq.under hW
              exact ⟨this.at_ 0, this.at_ 1, this.at_ 2, this.at_ 3, this.at_ 4⟩
            have hsg3 : sg &&& ofL (idxs n) 64 = sg := by rw [HSG.out]; exact and_twice _ _
            have hcs3 : t.cs = (Tb.new n (zsK ks) sg).cs := by rw [HCS.out, HT0.out, HSG.out, new_again]
            have hLD : ∀ (W : World) (IA : Option Addr) (ic : Nat) (K7 : Nat → Prop), Below wr.heap.size wr W → IdsV K7 W IA t.ids.length t.ids → Calls Tryd.prog 15 #[cv lg pg en gn A n cap, .int .u64 sg, .slice IA t.ids.length ic, .slice CA k cx] W fun e w' =>
                ∃ p2 m2 v2 q2 tag2, e = .returned (.tuple #[.pointer (some ⟨p2, 0, none⟩), .int .i64 0]) ∧ TbA w' W.heap.size tag2 p2 m2 v2 q2 sg t ∧ Below W.heap.size W w' := fun W IA ic K7 hW hI => by
              have hrv2 := hRV.below hW
              rw [HNC.out] at hrv2 ⊢
              refine (TLoad_any lg pg en gn A n cap ks W (H.out.below (hBw.trans (hW.mono hBw.size))) hn50 sg hAq.sgl (HT.out.below (hBw.trans (hW.mono hBw.size))) IA ic t.ids CA cx (t.colsL t.cs.length) t.cs hcs3 hI hrv2 hsg3 (by rw [t.ids_len]; exact hAq.ok.n)).mono ?_
              rintro e w' ⟨hb, ⟨_, p2, m2, v2, q2, tag2, rfl, hI2⟩ | ⟨hbad, _⟩⟩
              · exact ⟨p2, m2, v2, q2, tag2, rfl, ⟨hI2.congr (fun j hj => Tb.coOf_ hAq.ok hj), hAq.ok, hAq.sig, hAq.sgl⟩, hb⟩
              · exact absurd (Tb.colsFit_ hAq.ok) hbad
            have LD := Lib.hid hLD
            have SS := Lib.hid hSS
            have BD := Lib.hid hld
            have S0 : wr.drew.cell? ⟨w.heap.size, 0, none⟩ = some (.int .i64 lg) ∧ wr.drew.cell? ⟨w.heap.size, 1, none⟩ = some (.int .i64 pg) ∧ wr.drew.cell? ⟨w.heap.size, 2, none⟩ = some (.int .i64 en) ∧ wr.drew.cell? ⟨w.heap.size, 3, none⟩ = some (.int .i64 gn) ∧ wr.drew.cell? ⟨w.heap.size, 4, none⟩ = some (.slice A n cap) := hSS _ hld
            have CSIG := Lib.hid (show ∀ W, Below wr.heap.size wr W → Calls Tryd.prog 26 #[.pointer (some ⟨p, 0, none⟩)] W fun e w' => e = .returned (.int .u64 sg) ∧ W = w' from fun W hW => tsig_any (hAq.below hW).i)
            have CIDS := Lib.hid (show ∀ W, Below wr.heap.size wr W → Calls Tryd.prog 25 #[.pointer (some ⟨p, 0, none⟩)] W fun e w' => ∃ A c, e = .returned (.slice A t.ids.length c) ∧ IdsV (fun x => W.heap.size ≤ x ∧ x < w'.heap.size) w' A t.ids.length t.ids ∧ Below W.heap.size W w' from fun W hW => TIDs_any (hAq.below hW).i (by rw [t.ids_len]; exact hAq.ok.n))
            have HAq := Lib.hid hAq
            have HBw := Lib.hid hBw
            clear hG hD hB hR hRV hBq hBw hld hAq hRq hSS hsg3 hcs3 hLD
            go_wp2
            go_region_held3 (fun W => W.cell? ⟨w.heap.size, 0, none⟩ = some (.int .i64 lg) ∧ W.cell? ⟨w.heap.size, 1, none⟩ = some (.int .i64 pg) ∧ W.cell? ⟨w.heap.size, 2, none⟩ = some (.int .i64 en) ∧ W.cell? ⟨w.heap.size, 3, none⟩ = some (.int .i64 gn) ∧ W.cell? ⟨w.heap.size, 4, none⟩ = some (.slice A n cap)) (first | exact S0 | exact S7 | exact S8)
              ((first
                | (go_at_call 26; refine (CSIG.out _ (by first | exact BD.out | exact BI.out)).mono ?_; rintro e w7 ⟨rfl, rfl⟩)
                | (go_at_call 25; refine (CIDS.out _ BD.out).mono ?_; rintro e w7 ⟨IA, ic, rfl, hI7, hb7⟩; have BI := Lib.hid (BD.out.trans (hb7.mono BD.out.size)); have HI7 := Lib.hid hI7; have S7 : w7.cell? ⟨w.heap.size, 0, none⟩ = some (.int .i64 lg) ∧ w7.cell? ⟨w.heap.size, 1, none⟩ = some (.int .i64 pg) ∧ w7.cell? ⟨w.heap.size, 2, none⟩ = some (.int .i64 en) ∧ w7.cell? ⟨w.heap.size, 3, none⟩ = some (.int .i64 gn) ∧ w7.cell? ⟨w.heap.size, 4, none⟩ = some (.slice A n cap) := SS.out _ BI.out; clear hI7 hb7)
                | (go_at_call 15; refine (LD.out _ IA ic _ BI.out HI7.out).mono ?_; rintro e w8 ⟨p2, m2, v2, q2, tag2, rfl, hA8, hb8⟩; have B8 := Lib.hid (BI.out.trans (hb8.mono BI.out.size)); have S8 : w8.cell? ⟨w.heap.size, 0, none⟩ = some (.int .i64 lg) ∧ w8.cell? ⟨w.heap.size, 1, none⟩ = some (.int .i64 pg) ∧ w8.cell? ⟨w.heap.size, 2, none⟩ = some (.int .i64 en) ∧ w8.cell? ⟨w.heap.size, 3, none⟩ = some (.int .i64 gn) ∧ w8.cell? ⟨w.heap.size, 4, none⟩ = some (.slice A n cap) := SS.out _ B8.out; have HU8 := Lib.hid hA8; clear hA8 hb8)))
            have hT8 : TabAt w8 := HT.out.below (HBw.out.trans (B8.out.mono HBw.out.size))
            have HT8 := Lib.hid hT8
            have HA8 := Lib.hid (HAq.out.below B8.out)
            have HBE := Lib.hid (HBw.out.trans (B8.out.mono HBw.out.size))
            clear S0 S7 S8 hT8 SS LD CSIG CIDS HI7 BI BD HAq HA6 HI6 HR2
            obtain ⟨r, hr⟩ : ∃ r, r = (t.go ⟨3, (0, 0), [], row, 0, []⟩).2 := ⟨_, rfl⟩
            obtain ⟨cb, cf, hcol⟩ : ∃ cb cf, t.col comp = (cb, cf) := ⟨_, _, rfl⟩
            have HRR := Lib.hid hr
            have HCOL := Lib.hid hcol
            clear hr hcol
            go_wp2_with (go_at_call 21; refine (tcode_any _ _).mono ?_; rintro e w9 ⟨rfl, rfl⟩)
            refine (TParts_go HA8.out HT8.out (0, 0) [] row 0 []).mono ?_
            rintro e w9 ⟨⟨XA, xn, xc, rfl, _, hX⟩, _, hb9⟩
            rw [← HRR.out] at hX ⊢
            obtain ⟨re, hre⟩ : ∃ re, re = r.err := ⟨_, rfl⟩
            rw [← hre]
            have HX := Lib.hid hX
            have HB9 := Lib.hid hb9
            have HRE := Lib.hid hre
            clear hX hb9 hre
            go_wp2_with fail
            refine (TParts_go (HU8.out.below HB9.out) (HT8.out.below HB9.out) (0, 0) [] row 0 []).mono ?_
            rintro e w10 ⟨⟨YA, yn, yc, rfl, _, hY⟩, _, hb10⟩
            rw [← HRR.out] at hY ⊢
            rw [← HRE.out]
            have hxl := HX.out.len
            have hyl := hY.len
            have hxy : yn = xn := by omega
            subst hxy
            have hx60 : yn ≤ 1000000 := parts_le HA8.out.ok HRR.out hyl
            have HY := Lib.hid hY
            have HB10 := Lib.hid (HB9.out.trans (hb10.mono HB9.out.size))
            have HX10 := Lib.hid (PartsV.below HX.out hb10)
            clear hY hb10 hxl hyl HX
            go_wp2_with fail
            refine (TCol_go (HA8.out.below HB10.out) hk).mono ?_
            rw [HCOL.out]
            rintro e w11 ⟨PA, pn, pc, rfl, hP, hb11⟩
            simp only at hP
            have HP := Lib.hid hP
            have HB11 := Lib.hid (HB10.out.trans (hb11.mono HB10.out.size))
            have HX11 := Lib.hid (PartsV.below HX10.out hb11)
            have HY11 := Lib.hid (PartsV.below HY.out hb11)
            clear hP hb11 HX10 HY HB10
            go_wp2_with fail
            refine (TCol_go (HU8.out.below HB11.out) hk).mono ?_
            rw [HCOL.out]
            rintro e w12 ⟨QA, qn, qc, rfl, hQ, hb12⟩
            simp only at hQ
            have HQ := Lib.hid hQ
            have HP12 := Lib.hid (HP.out.below hb12)
            have HB12 := Lib.hid (HB11.out.trans (hb12.mono HB11.out.size))
            have HX12 := Lib.hid (PartsV.below HX11.out hb12)
            have HY12 := Lib.hid (PartsV.below HY11.out hb12)
            clear hQ hb12 HX11 HY11 HP HB11
            go_wp2_with fail
            refine (TIDs_any (HA8.out.below HB12.out).i (by rw [t.ids_len]; exact HA8.out.ok.n)).mono ?_
            rintro e w13 ⟨DA, dc, rfl, hD, hb13⟩
            have HD := Lib.hid hD
            have HB13 := Lib.hid (HB12.out.trans (hb13.mono HB12.out.size))
            have HB13' := Lib.hid hb13
            clear hD hb13
            go_wp2_with fail
            refine (TIDs_any (HU8.out.below HB13.out).i (by rw [t.ids_len]; exact HA8.out.ok.n)).mono ?_
            rintro e w14 ⟨EA, ec, rfl, hE, hb14⟩
            have HE := Lib.hid hE
            have HD14 := Lib.hid (IdsV.below HD.out hb14)
            have HB14 := Lib.hid (HB13.out.trans (hb14.mono HB13.out.size))
            have HB14' := Lib.hid (HB13'.out.trans (hb14.mono HB13'.out.size))
            clear hE hb14 HD HB13 HB13'
            have hil : t.ids.length ≤ 1000000 := by have := HA8.out.ok.n; rw [t.ids_len]; omega
            go_wp2_with fail
            refine (SameIDs_yes DA EA t.ids.length dc ec t.ids w14 HD14.out HE.out hil).mono ?_
            rintro e w15 ⟨rfl, hb15⟩
            have HB15 := Lib.hid (HB14.out.trans (hb15.mono HB14.out.size))
            have HB15' := Lib.hid (HB14'.out.trans (hb15.mono HB14'.out.size))
            have HX15 := Lib.hid (PartsV.below HX12.out HB15'.out)
            have HY15 := Lib.hid (PartsV.below HY12.out HB15'.out)
            clear hb15 HB14 HB14' HD14 HE
            go_wp2_with fail
            refine (SameParts_yes XA YA yn xc yc r.parts w15 HX15.out HY15.out hx60).mono ?_
            rintro e w16 ⟨rfl, hb16⟩
            have HB16 := Lib.hid (HB15.out.trans (hb16.mono HB15.out.size))
            obtain ⟨_, _, _, e1, hrp, _⟩ := HP12.out
            injection e1 with e1 e2 e3
            subst e1 e2 e3
            obtain ⟨_, _, _, e1, hrq, _⟩ := HQ.out
            injection e1 with e1 e2 e3
            subst e1 e2 e3
            have HRP := Lib.hid (hrp.below (Nat.le_refl _) (HB15'.out.trans (hb16.mono HB15'.out.size)))
            have HRQ := Lib.hid (hrq.below (Nat.le_refl _) (HB15'.out.trans (hb16.mono HB15'.out.size)))
            have HU16 := Lib.hid (HU8.out.below HB16.out).i
            have HA16 := Lib.hid (HA8.out.below HB16.out).i
            clear hb16 HB15 HB15' HX15 HY15 hrp hrq
            go_wp2_with (first
              | (go_at_call 21; refine (tcode_any _ _).mono ?_; rintro e w17 ⟨rfl, rfl⟩)
              | (go_at_call 30; refine (Same_yes PA QA pn pc qn qc cb w16 HRP.out HRQ.out).mono ?_; rintro e w17 ⟨rfl, rfl⟩)
              | (go_at_call 26; first | (refine (tsig_any HU16.out).mono ?_; rintro e w17 ⟨rfl, rfl⟩) | (refine (tsig_any HA16.out).mono ?_; rintro e w17 ⟨rfl, rfl⟩))
              | (go_at_call 8; refine (tlive_any _ (HT8.out.below HB16.out)).mono ?_; rintro e w17 ⟨rfl, hb17⟩; have HB17 := Lib.hid hb17; clear hb17))
            go_ret
            exact ⟨rfl, (HBE.out.trans (HB16.out.mono HBE.out.size)).trans (HB17.out.mono (Nat.le_trans HBE.out.size HB16.out.size))⟩
end
end Go.Proofs.YtpbmjinjpeddaaaDoor
namespace Go.Proofs.YtpbmjinjpeddaaaDoor
open Go.RowKit Go.ChangeShapes Go.WideShapes Go.Deep Go.Joins
set_option maxRecDepth 20000

section
variable {H : Type} {enc : TypeId × Value → H} {w : World} {base : Nat} {held : Bool}

theorem elems_atK {P : Program} {t e : TypeId} {fuel : Nat} {cs : List Value} {x : DataW H × List MemPlace} (ht : P.underlying t = some (.slice e)) (h : DataW.trod enc P w base (fun _ => true) held fuel t cs = some x) :
    cs = [.slice none 0 0] ∨ ∃ (a : Addr) (len cap : Nat), cs = [.slice (some a) len cap] ∧ len ≤ cap ∧ cap ≤ maxLen ∧
      ∀ i, i < len → ∃ cs' n y, (∀ j, j < P.cellsOf e → w.cell? ((a.add (i * P.cellsOf e)).add j) = cs'[j]?) ∧ DataW.trod enc P w base (fun _ => true) held n e cs' = some y := by
  rcases open_slice ht h with ⟨h0, _⟩ | ⟨a, len, cap, m, n, D, Pl, hcs, _, hl, hm, hmm, _, hi⟩
  · exact .inl h0
  · refine .inr ⟨a, len, cap, hcs, hl, hm, fun i him => ?_⟩
    have hmc : m = cap := by simpa using hmm
    obtain ⟨cs', hc, ht'⟩ := hi i (by omega)
    obtain ⟨_, _, hat⟩ := World.cells?_some hc
    exact ⟨cs', n, _, hat, ht'⟩

theorem open_comp {n : Nat} {cs : List Value} {y : DataW H × List MemPlace} (h : DataW.trod enc Tryd.prog w base (fun _ => true) held n 79 cs = some y) : ∃ k : Kd, cs = [.string k.1, .int .i64 k.2] ∧ k.1.size ≤ maxLen := by
  obtain ⟨y0, y1, n1, _, hl, h0, h1⟩ := trod_struct2 Tryd.underlying79 h
  have hc2 : Tryd.prog.cellsOf 79 = 2 := by kernel_rfl
  rw [hc2] at hl
  obtain ⟨v0, v1, rfl⟩ : ∃ a b, cs = [a, b] := by
    match cs, hl with
    | [a, b], _ => exact ⟨a, b, rfl⟩
  have hs1 : Tryd.prog.cellsOf 9 = 1 := by kernel_rfl
  have hn1 : Tryd.prog.cellsOf 3 = 1 := by kernel_rfl
  have g0 : DataW.trod enc Tryd.prog w base (fun _ => true) held n1 9 [v0] = some y0 := by
    have h := h0
    change DataW.trod enc Tryd.prog w base (fun _ => true) held _ 9 (([v0, v1].drop 0).take (Tryd.prog.cellsOf 9)) = _ at h
    rw [hs1] at h
    exact h
  have g1 : DataW.trod enc Tryd.prog w base (fun _ => true) held n1 3 [v1] = some y1 := by
    have h := h1
    change DataW.trod enc Tryd.prog w base (fun _ => true) held _ 3 (([v0, v1].drop 1).take (Tryd.prog.cellsOf 3)) = _ at h
    rw [hn1] at h
    exact h
  obtain ⟨s, hs, _, hsz⟩ := DataW.trod_string Tryd.underlying9 g0
  obtain ⟨z, hz, _⟩ := DataW.trod_int Tryd.underlying3 g1
  simp only [List.cons.injEq, and_true] at hs hz
  subst hs hz
  exact ⟨(s, z), rfl, hsz⟩

theorem open_comps {fuel : Nat} {cs : List Value} {x : DataW H × List MemPlace} (h : DataW.trod enc Tryd.prog w base (fun _ => true) held fuel 22 cs = some x) :
    ∃ A n c ks, cs = [.slice A n c] ∧ KRd w A n ks ∧ Lens ks ∧ n ≤ c ∧ c ≤ maxLen := by
  rcases elems_atK Tryd.underlying22 h with h0 | ⟨a, len, cap, hcs, hl, hm, hi⟩
  · exact ⟨none, 0, 0, [], h0, KRd.nil _ _, fun k hk => (by cases hk), Nat.le_refl _, Nat.zero_le _⟩
  have h2 : Tryd.prog.cellsOf 79 = 2 := by kernel_rfl
  rw [h2] at hi
  have key : ∀ i, ∃ k : Kd, i < len → (w.cell? ((a.add (i * 2)).add 0) = some (.string k.1) ∧ w.cell? ((a.add (i * 2)).add 1) = some (.int .i64 k.2)) ∧ k.1.size ≤ maxLen := fun i => by
    by_cases hil : i < len
    · obtain ⟨cs', n, y, hc, ht⟩ := hi i hil
      obtain ⟨k, rfl, hk⟩ := open_comp ht
      exact ⟨k, fun _ => ⟨⟨hc 0 (by decide), hc 1 (by decide)⟩, hk⟩⟩
    · exact ⟨(.empty, 0), fun h => absurd h hil⟩
  obtain ⟨F, hF⟩ := Classical.axiomOfChoice key
  refine ⟨some a, len, cap, (List.range len).map F, hcs, ⟨by simp, fun hpos => ?_⟩, fun k hk => ?_, hl, hm⟩
  · obtain ⟨b, off, spot⟩ := a
    have hs := (hF 0 hpos).1.1
    have hspot : spot = none := by simpa [Addr.add] using World.cell?_spot hs
    subst hspot
    refine ⟨b, off, rfl, by simpa [Addr.add] using World.block_lt_of_cell? w _ hs, fun j hj => ?_⟩
    have hj' : j < len := by simpa using hj
    obtain ⟨⟨c0, c1⟩, _⟩ := hF j hj'
    rw [Addr.add_lit, Addr.add_lit] at c0 c1
    simp only [List.getElem_map, List.getElem_range]
    exact ⟨c0, c1⟩
  · obtain ⟨i, hi', rfl⟩ := List.mem_map.1 hk
    have := (hF i (List.mem_range.1 hi')).2
    unfold maxLen at this
    omega

theorem array5 {α : Type} {cs : Array α} (h : cs.size = 5) : ∃ c0 c1 c2 c3 c4, cs = #[c0, c1, c2, c3, c4] := by
  obtain ⟨l⟩ := cs
  match l, h with
  | [c0, c1, c2, c3, c4], _ => exact ⟨c0, c1, c2, c3, c4, rfl⟩

/-- A layout that comes in. -/
theorem open_conf {r : Reach} {b0 : Nat} {v : Value} {d : DataW H} {p : List MemPlace} (hv : Value.okWide Tryd.prog w r b0 24 v) (h : DataW.Trod enc Tryd.prog w base (fun _ => true) held 24 v d p) :
    ∃ (lg pg en gn : Int) (A : Option Addr) (n c : Nat) (ks : List Kd), v = .agg #[.int .i64 lg, .int .i64 pg, .int .i64 en, .int .i64 gn, .slice A n c] ∧ KRd w A n ks ∧ Lens ks ∧ n ≤ c ∧ c ≤ maxLen := by
  obtain ⟨cs, rfl, hsz⟩ := okWide_struct Tryd.underlying24 hv
  have hc5 : Tryd.prog.cellsOf 24 = 5 := by kernel_rfl
  obtain ⟨c0, c1, c2, c3, c4, rfl⟩ := array5 (hsz.trans hc5)
  obtain ⟨fuel, hf⟩ := h
  obtain ⟨xs, n, _, _, hl, hxl, hg⟩ := DataW.trod_struct Tryd.underlying24 hf
  have hn1 : Tryd.prog.cellsOf 3 = 1 := by kernel_rfl
  have hs1 : Tryd.prog.cellsOf 22 = 1 := by kernel_rfl
  have hx : xs.length = 5 := hxl
  have e0 := hg 0 _ rfl
  have e1 := hg 1 _ rfl
  have e2 := hg 2 _ rfl
  have e3 := hg 3 _ rfl
  have e4 := hg 4 _ rfl
  rw [List.getElem?_eq_getElem (by omega)] at e0 e1 e2 e3 e4
  have f0 : DataW.trod enc Tryd.prog w base (fun _ => true) held n 3 [c0] = some xs[0] := by
    have h := e0
    change DataW.trod enc Tryd.prog w base (fun _ => true) held _ 3 (([c0, c1, c2, c3, c4].drop 0).take (Tryd.prog.cellsOf 3)) = _ at h
    rw [hn1] at h
    exact h
  have f1 : DataW.trod enc Tryd.prog w base (fun _ => true) held n 3 [c1] = some xs[1] := by
    have h := e1
    change DataW.trod enc Tryd.prog w base (fun _ => true) held _ 3 (([c0, c1, c2, c3, c4].drop 1).take (Tryd.prog.cellsOf 3)) = _ at h
    rw [hn1] at h
    exact h
  have f2 : DataW.trod enc Tryd.prog w base (fun _ => true) held n 3 [c2] = some xs[2] := by
    have h := e2
    change DataW.trod enc Tryd.prog w base (fun _ => true) held _ 3 (([c0, c1, c2, c3, c4].drop 2).take (Tryd.prog.cellsOf 3)) = _ at h
    rw [hn1] at h
    exact h
  have f3 : DataW.trod enc Tryd.prog w base (fun _ => true) held n 3 [c3] = some xs[3] := by
    have h := e3
    change DataW.trod enc Tryd.prog w base (fun _ => true) held _ 3 (([c0, c1, c2, c3, c4].drop 3).take (Tryd.prog.cellsOf 3)) = _ at h
    rw [hn1] at h
    exact h
  have f4 : DataW.trod enc Tryd.prog w base (fun _ => true) held n 22 [c4] = some xs[4] := by
    have h := e4
    change DataW.trod enc Tryd.prog w base (fun _ => true) held _ 22 (([c0, c1, c2, c3, c4].drop 4).take (Tryd.prog.cellsOf 22)) = _ at h
    rw [hs1] at h
    exact h
  obtain ⟨lg, q0, _⟩ := DataW.trod_int Tryd.underlying3 f0
  obtain ⟨pg, q1, _⟩ := DataW.trod_int Tryd.underlying3 f1
  obtain ⟨en, q2, _⟩ := DataW.trod_int Tryd.underlying3 f2
  obtain ⟨gn, q3, _⟩ := DataW.trod_int Tryd.underlying3 f3
  obtain ⟨A, m, c, ks, q4, hK, hL, h1, h2⟩ := open_comps f4
  simp only [List.cons.injEq, and_true] at q0 q1 q2 q3 q4
  subst q0 q1 q2 q3 q4
  exact ⟨lg, pg, en, gn, A, m, c, ks, rfl, hK, hL, h1, h2⟩
end
end Go.Proofs.YtpbmjinjpeddaaaDoor
namespace Go.Proofs.YtpbmjinjpeddaaaDoor
open Go.RowKit

theorem tab_of_laid {W : World} (h : laidMetH Tryd.prog [("math/bits.deBruijn64tab", Rows.laid_math_bits_deBruijn64tab)] W) : TabAt W := by
  rw [MakeChecks.laidMetH_plain _ _ _ (by kernel_rfl)] at h
  have hg : Tryd.prog.globalNamed "math/bits.deBruijn64tab" = some 0 := by kernel_rfl
  have ht : Lib.TabIs Tryd.prog W "math/bits.deBruijn64tab" .u8 (Lib.deBruijn64tab.map Int.ofNat) :=
    Lib.tabIs_of_head (n := 64) (rest := []) hg (by kernel_rfl) Tryd.underlying118 Tryd.underlying5 (by kernel_rfl) (by kernel_rfl) h
  intro j hj
  have hl : j < Lib.deBruijn64tab.length := hj
  rw [ht.cell hg j (by rw [List.length_map]; exact hl)]
  have e : (Lib.deBruijn64tab.map Int.ofNat).getD j 0 = ((Lib.deBruijn64tab.getD j 0 : Nat) : Int) := by
    simp [List.getD, hl]
  rw [e]
theorem u64_of {a : Int} (h : (Lit.int .u64 a).wf = true) : ∃ b : Nat, a = (b : Int) ∧ b < 18446744073709551616 := by
  have hb := bounds_u64 h
  exact ⟨a.toNat, by omega, by omega⟩
end Go.Proofs.YtpbmjinjpeddaaaDoor

