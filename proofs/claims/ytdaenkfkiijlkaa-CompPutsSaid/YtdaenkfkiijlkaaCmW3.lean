/- The law CompPuts, walked. -/
import Derived.Test.YtdaenkfkiijlkaaCm9
import Derived.Test.YtdaenkfkiijlkaaCmO
import Derived.Test.YtdaenkfkiijlkaaCmP
import Derived.Test.YtdaenkfkiijlkaaAppI
import Derived.Deep.RegionHeld3
namespace Go.Proofs.Ytdaenkfkiijlkaa
open Go.RowKit
set_option linter.unusedVariables false

section
variable (lg pg en gn : Int) (A : Option Addr) (n cap : Nat) (ks : List Kd) (w : World)

theorem CompPuts_much (h : KRd w A n ks) (hn : n ≤ 9223372036854775807) (hl : Lens ks) (hm : muchK ks = true) :
    Calls Try.prog 4 #[cv lg pg en gn A n cap] w fun e w' => e = .returned (.bool true) ∧ Below w.heap.size w w' := by
  obtain ⟨w1, hw1⟩ : ∃ w1, w1 = w.alloc (.cells (cc lg pg en gn A n cap) 24) := ⟨_, rfl⟩
  have C1 := CAt.new h lg pg en gn cap
  rw [← hw1] at C1
  obtain ⟨g, hg⟩ : ∃ g, g = w.heap.size := ⟨_, rfl⟩
  rw [← hg] at C1
  have c0 := C1.c0
  have c1 := C1.c1
  have c2 := C1.c2
  have c3 := C1.c3
  have c4 := C1.c4
  have K1 := Lib.hid C1
  have HG := Lib.hid hg
  have HL := Lib.hid hl
  have HM := Lib.hid hm
  clear h hg C1 hl hm
  go_enter Try.func4, Try.ntmps4
  go_wp2_with (first
    | (rw [← hw1, ← HG.out]; clear hw1)
    | (go_at_call 6; refine (Much_any lg pg en gn A n cap ks w1 K1.out.rd hn HL.out).mono ?_; rintro e w2 ⟨rfl, hb2⟩; rw [HM.out]; have HB2 := Lib.hid (K1.out.bel.trans (hb2.mono K1.out.bel.size)); clear hb2)
    | (go_at_call 7; refine (live_any w2).mono ?_; rintro e w3 ⟨rfl, hb3⟩))
  go_ret
  exact ⟨rfl, HB2.out.trans (hb3.mono HB2.out.size)⟩

set_option maxHeartbeats 4000000 in
theorem CompPuts_main (h : KRd w A n ks) (hn : n ≤ 40) (hl : Lens ks) (hm : muchK ks = false) (hs : ∀ k ∈ ks, k.1.size ≤ 100) :
    Calls Try.prog 4 #[cv lg pg en gn A n cap] w fun e w' => e = .returned (.bool true) ∧ Below w.heap.size w w' := by
  obtain ⟨w1, hw1⟩ : ∃ w1, w1 = w.alloc (.cells (cc lg pg en gn A n cap) 24) := ⟨_, rfl⟩
  have C1 := CAt.new h lg pg en gn cap
  rw [← hw1] at C1
  obtain ⟨g, hg⟩ : ∃ g, g = w.heap.size := ⟨_, rfl⟩
  rw [← hg] at C1
  have c0 := C1.c0
  have c1 := C1.c1
  have c2 := C1.c2
  have c3 := C1.c3
  have c4 := C1.c4
  have K1 := Lib.hid C1
  clear C1
  have hkl := h.1
  have HG := Lib.hid hg
  have HL := Lib.hid hl
  have HM := Lib.hid hm
  have HS := Lib.hid hs
  clear h hg hl hm hs
  go_enter Try.func4, Try.ntmps4
  go_wp2_with (rw [← hw1, ← HG.out]; clear hw1)
  refine (Much_any lg pg en gn A n cap ks w1 K1.out.rd (by omega) HL.out).mono ?_
  rintro e w2 ⟨rfl, hb2⟩
  rw [HM.out]
  have C2 := K1.out.next hb2
  clear c0 c1 c2 c3 c4 hb2 K1
  have c0 := C2.c0
  have c1 := C2.c1
  have c2 := C2.c2
  have c3 := C2.c3
  have c4 := C2.c4
  have K2 := Lib.hid C2
  clear C2
  go_wp2_with fail
  refine (CPut_any lg pg en gn A n cap ks w2 K2.out.rd hn HS.out).mono ?_
  rintro e w3 ⟨v3, rfl, ho3, hb3⟩
  obtain ⟨A3, d3, rfl, _, _, hr3⟩ := Rd.of_own ho3 rfl
  have C3 := K2.out.next hb3
  have R3 := Lib.hid hr3
  clear c0 c1 c2 c3 c4 hb3 K2 ho3 hr3
  have c0 := C3.c0
  have c1 := C3.c1
  have c2 := C3.c2
  have c3 := C3.c3
  have c4 := C3.c4
  have K3 := Lib.hid C3
  clear C3
  obtain ⟨N, hN⟩ : ∃ N, N = (confB lg pg en gn ks).length := ⟨_, rfl⟩
  rw [← hN] at R3 ⊢
  go_wp2_with fail
  refine (RBytes_any lg pg en gn A n cap ks w3 K3.out.rd hn HS.out).mono ?_
  rintro e w4 ⟨v4, rfl, ho4, hb4⟩
  obtain ⟨A4, d4, rfl, _, _, hr4⟩ := Rd.of_own ho4 rfl
  have C4 := K3.out.next hb4
  have R4 := Lib.hid (R3.out.below (Nat.le_refl _) hb4)
  rw [← hN] at hr4 ⊢
  have Q4 := Lib.hid hr4
  have HN := Lib.hid hN
  clear c0 c1 c2 c3 c4 hb4 K3 ho4 hr4 R3 hN
  have c0 := C4.c0
  have c1 := C4.c1
  have c2 := C4.c2
  have c3 := C4.c3
  have c4 := C4.c4
  have K4 := Lib.hid C4
  clear C4
  go_wp2_with fail
  refine (Same_yes A3 A4 N d3 N d4 _ w4 R4.out Q4.out).mono ?_
  rintro e w' ⟨rfl, rfl⟩
  by_cases hR : (Cf.mk lg pg en gn ks).Right
  · obtain ⟨⟨r1, r2⟩, ⟨r3, r4⟩, _, _, r5, r6⟩ := hR.bounds
    simp only at r1 r2 r3 r4 r5 r6
    have hgp := getC_put lg pg en gn ks hR
    have cR := RRight_any lg pg en gn A n cap ks w4 K4.out.rd (by omega) HL.out
    rw [decide_eq_true hR] at cR
    have CR := Lib.hid cR
    have HGP := Lib.hid hgp
    have hN1 : N ≤ 100000 := by
      have e := HN.out
      have e2 := rowsB_len ks HS.out
      rw [e, confB, List.length_append, List.length_append, numsB_len, numB_length]
      simp only [List.length_cons, List.length_nil]
      omega
    clear cR hgp hR r6
    go_wp2_with (go_at_call 14; refine CR.out.mono ?_; rintro e w5 ⟨rfl, hb5⟩; have K5 := Lib.hid (K4.out.next hb5); have R5 := Lib.hid (R4.out.below (Nat.le_refl _) hb5); have c4 := K5.out.c4; clear hb5)
    clear c0 c1 c2 c3 c4 K4 R4 Q4
    have c4 := K5.out.c4
    go_loopw [4, 5] (fun v i wr => ∃ j : Nat, j ≤ n ∧ i = .int .i64 j ∧ wr.ownsRow w5.heap.size 3 1 v j ((idxs j).map (Value.int .i64)) ∧ Below w5.heap.size w5 wr) (fun _ i _ => n - (intOf i).toNat)
    case atStart => exact ⟨0, Nat.zero_le _, rfl, World.ownsRow_nil _ _ _ _, Below.refl _ _⟩
    case round =>
      obtain ⟨j, hj, rfl, hown, hb⟩ := hrel
      have HO := Lib.hid hown
      have HB := Lib.hid hb
      have K6 := Lib.hid (K5.out.next hb)
      have c4 := K6.out.c4
      clear hown hb
      by_cases hjn : j < n
      · have hs1 := HB.out.size
        go_wp2_with (at_builtin; refine wpList_appI _ intT rfl (.tmp 29) (.tmp 31) rfl w5.heap.size _ j _ rfl (HO.out.alloc _) _ 1 1 [(j : Int)] rfl (one_ird wr j) (by omega) (by simp; omega) ?_; intro v2 w2' ho2 hg2; have H2 := Lib.hid (And.intro ho2 (below_own (HO.out.alloc (.cells #[.int .i64 (j : Int)] 3)) (by simp; omega) hg2)); clear ho2 hg2)
        go_roundw
        case rel =>
          obtain ⟨h1, h2⟩ := H2.out
          refine ⟨j + 1, hjn, by go_num, ?_, HB.out.trans (((Below.refl _ _).alloc hs1 _).trans h2)⟩
          rw [idxs_succ, List.map_append]
          exact h1
        case measure => simp [intOf]; omega
      · have hge : ¬ (j : Int) < (n : Int) := by omega
        obtain rfl : j = n := by omega
        obtain ⟨A7, d7, e7, hi7⟩ := IRd.of_own HO.out
        subst e7
        have R6 := Lib.hid (R5.out.below (Nat.le_refl _) HB.out)
        have I6 := Lib.hid hi7
        have cG := CGet_any A3 N d3 _ wr R6.out hN1
        rw [HGP.out] at cG
        simp only at cG
        have CG := Lib.hid cG
        clear hi7 cG
        go_wp2_with fail
        clear c4
        refine CG.out.mono ?_
        rintro e w7 ⟨A8, n8, d8, rfl, hk8, hn8, hb7⟩
        obtain rfl : n8 = j := by have := hk8.1; have := K6.out.rd.1; omega
        obtain ⟨w8, hw8⟩ : ∃ w8, w8 = w7.alloc (.cells (cc lg pg en gn A8 n8 d8) 24) := ⟨_, rfl⟩
        have C8 := CAt.new hk8 lg pg en gn d8
        rw [← hw8] at C8
        obtain ⟨h, hh⟩ : ∃ h, h = w7.heap.size := ⟨_, rfl⟩
        rw [← hh] at C8
        have D8 := (K6.out.next hb7).next C8.bel
        have I8 := Lib.hid (I6.out.below (hb7.trans (C8.bel.mono hb7.size)))
        have HH := Lib.hid hh
        have X8 := Lib.hid C8
        have Y8 := Lib.hid D8
        clear hh C8 D8 hk8 hb7
        have c0 := Y8.out.c0
        have c1 := Y8.out.c1
        have c2 := Y8.out.c2
        have c3 := Y8.out.c3
        have c4 := Y8.out.c4
        have e0 := X8.out.c0
        have e1 := X8.out.c1
        have e2 := X8.out.c2
        have e3 := X8.out.c3
        have e4 := X8.out.c4
        have m1 : IntKind.i64.wrap (lg + pg) = lg + pg := by rw [IntKind.wrap_i64]; omega
        have m2 : IntKind.i64.wrap (lg + pg + 2) = lg + pg + 2 := by rw [IntKind.wrap_i64]; omega
        have M1 := Lib.hid m1
        have M2 := Lib.hid m2
        clear m1 m2
        go_wp2_with (rw [← hw8, ← HH.out]; clear hw8)
        have m1 := M1.out
        have m2 := M2.out
        obtain ⟨s, hs⟩ : ∃ s, s = ofL (idxs n8) 64 := ⟨_, rfl⟩
        have hs8 := And.intro (And.intro c0 (And.intro c1 (And.intro c2 (And.intro c3 c4)))) (And.intro e0 (And.intro e1 (And.intro e2 (And.intro e3 e4))))
        have cA : ∀ W, KRd W A n8 ks → Calls Try.prog 22 #[cv lg pg en gn A n8 cap] W fun e w' => e = .returned (.int .u64 (s : Nat)) ∧ Below W.heap.size W w' := fun W hW => by
          have h := All_any lg pg en gn A n8 cap ks W hW (by omega)
          rw [← hs] at h
          exact h
        have cO : ∀ W, IRd W A7 n8 (idxs n8) → Calls Try.prog 23 #[.slice A7 n8 d7] W fun e w' => e = .returned (.int .u64 (s : Nat)) ∧ W = w' := fun W hW => by
          have h := ROf_any A7 n8 d7 (idxs n8) W hW (by omega)
          rw [← hs] at h
          exact h
        have CA := Lib.hid cA
        have CO := Lib.hid cO
        clear cA cO hs
        go_region_held3 (fun W => (W.cell? ⟨g, 0, none⟩ = some (.int .i64 lg) ∧ W.cell? ⟨g, 1, none⟩ = some (.int .i64 pg) ∧ W.cell? ⟨g, 2, none⟩ = some (.int .i64 en) ∧ W.cell? ⟨g, 3, none⟩ = some (.int .i64 gn) ∧ W.cell? ⟨g, 4, none⟩ = some (.slice A n8 cap)) ∧ (W.cell? ⟨h, 0, none⟩ = some (.int .i64 lg) ∧ W.cell? ⟨h, 1, none⟩ = some (.int .i64 pg) ∧ W.cell? ⟨h, 2, none⟩ = some (.int .i64 en) ∧ W.cell? ⟨h, 3, none⟩ = some (.int .i64 gn) ∧ W.cell? ⟨h, 4, none⟩ = some (.slice A8 n8 d8))) (first
            | with_reducible exact hs8
            | with_reducible exact s9
            | with_reducible exact s10
            | with_reducible exact s11
            | with_reducible exact s12
            | go_keep) (first
          | (go_at_call 21; refine (RSame_yes lg pg en gn A8 n8 d8 ks w8.drew A cap (X8.out.rd.below ((Below.refl _ _).drew)) (Y8.out.rd.below ((Below.refl _ _).drew)) (by omega)).mono ?_; rintro e w9 ⟨rfl, hb9'⟩; have hb9 : Below w8.heap.size w8 w9 := ((Below.refl _ _).drew).trans hb9'; have I9 := Lib.hid (I8.out.below hb9); have X9 := Lib.hid (X8.out.next hb9); have Y9 := Lib.hid (Y8.out.next hb9); have s9 := And.intro (And.intro Y9.out.c0 (And.intro Y9.out.c1 (And.intro Y9.out.c2 (And.intro Y9.out.c3 Y9.out.c4)))) (And.intro X9.out.c0 (And.intro X9.out.c1 (And.intro X9.out.c2 (And.intro X9.out.c3 X9.out.c4)))); clear hb9 hb9')
          | (go_at_call 13; refine (code_any _ _).mono ?_; rintro e w' ⟨rfl, rfl⟩)
          | (go_at_call 22; refine (CA.out w9 Y9.out.rd).mono ?_; rintro e w10 ⟨rfl, hb10⟩; have I10 := Lib.hid (I9.out.below hb10); have X10 := Lib.hid (X9.out.next hb10); have Y10 := Lib.hid (Y9.out.next hb10); have s10 := And.intro (And.intro Y10.out.c0 (And.intro Y10.out.c1 (And.intro Y10.out.c2 (And.intro Y10.out.c3 Y10.out.c4)))) (And.intro X10.out.c0 (And.intro X10.out.c1 (And.intro X10.out.c2 (And.intro X10.out.c3 X10.out.c4)))); clear hb10)
          | (go_at_call 23; refine (CO.out w10 I10.out).mono ?_; rintro e w' ⟨rfl, rfl⟩)
          | (go_at_call 24; refine (Sectors_any lg pg en gn A n8 cap ks w10 Y10.out.rd (by omega) (by omega)).mono ?_; rintro e w11 ⟨rfl, hb11⟩; have X11 := Lib.hid (X10.out.next hb11); have Y11 := Lib.hid (Y10.out.next hb11); have s11 := And.intro (And.intro Y11.out.c0 (And.intro Y11.out.c1 (And.intro Y11.out.c2 (And.intro Y11.out.c3 Y11.out.c4)))) (And.intro X11.out.c0 (And.intro X11.out.c1 (And.intro X11.out.c2 (And.intro X11.out.c3 X11.out.c4)))); clear hb11)
          | (go_at_call 7; refine (live_any w11).mono ?_; rintro e w12 ⟨rfl, hb12⟩; have X12 := Lib.hid (X11.out.next hb12); have Y12 := Lib.hid (Y11.out.next hb12); have s12 := And.intro (And.intro Y12.out.c0 (And.intro Y12.out.c1 (And.intro Y12.out.c2 (And.intro Y12.out.c3 Y12.out.c4)))) (And.intro X12.out.c0 (And.intro X12.out.c1 (And.intro X12.out.c2 (And.intro X12.out.c3 X12.out.c4)))); clear hb12))
        clear m1 m2
        go_wp2
        go_ret
        exact ⟨rfl, Y12.out.bel⟩
  · have cR := RRight_any lg pg en gn A n cap ks w4 K4.out.rd (by omega) HL.out
    rw [decide_eq_false hR] at cR
    have CR := Lib.hid cR
    clear cR hR
    go_wp2_with (first
      | (go_at_call 14; refine CR.out.mono ?_; rintro e w5 ⟨rfl, hb5⟩; have B5 := Lib.hid (K4.out.bel.trans (hb5.mono K4.out.bel.size)); clear hb5)
      | (go_at_call 7; refine (live_any w5).mono ?_; rintro e w6 ⟨rfl, hb6⟩; have B6 := B5.out.trans (hb6.mono B5.out.size)))
    go_ret
    exact ⟨rfl, B6⟩

theorem CompPuts_any (h : KRd w A n ks) (hn : n ≤ 9223372036854775807) (hl : Lens ks) :
    Calls Try.prog 4 #[cv lg pg en gn A n cap] w fun e w' => e = .returned (.bool true) ∧ Below w.heap.size w w' := by
  cases hm : muchK ks
  · obtain ⟨h1, h2⟩ := muchK_no hm
    exact CompPuts_main lg pg en gn A n cap ks w h (by have := h.1; omega) hl hm h2
  · exact CompPuts_much lg pg en gn A n cap ks w h hn hl hm
end
end Go.Proofs.Ytdaenkfkiijlkaa
