/- The law SealTurn, walked. -/
import Derived.Test.YtlafeobiodolbaaSeal13
namespace Go.Proofs.Ytlafeobiodolbaa
open Go.RowKit

theorem SealTurn_long (e n q : Int) (A : Option Addr) (m c : Nat) (no kind : Int) (A' : Option Addr) (m' c' : Nat) (k : Int) (w : World) (hm : (m : Int) ≤ 9223372036854775807) (hm' : (m' : Int) ≤ 9223372036854775807) (h : 600 < m ∨ 600 < m') :
    Calls Try.prog 7 #[.agg #[.int .i64 e, .int .i64 n, .int .i64 q, .slice A m c], .int .i64 no, .int .i64 kind, .slice A' m' c', .int .i64 k] w fun ed w' => ed = .returned (.bool true) ∧ Below w.heap.size w w' := by
  by_cases h1 : 600 < m
  · clear h
    go_enter Try.func7, Try.ntmps7
    go_wp2_with (go_at_call 8; refine (live_any _).mono ?_; rintro e w1 ⟨rfl, hb1⟩)
    go_ret
    exact ⟨rfl, ((Below.refl _ _).alloc (Nat.le_refl _) _).trans (hb1.mono (by simp))⟩
  · have h2 : 600 < m' := by omega
    clear h
    go_enter Try.func7, Try.ntmps7
    go_wp2_with (go_at_call 8; refine (live_any _).mono ?_; rintro e w1 ⟨rfl, hb1⟩)
    go_ret
    exact ⟨rfl, ((Below.refl _ _).alloc (Nat.le_refl _) _).trans (hb1.mono (by simp))⟩

set_option maxHeartbeats 3200000 in
theorem SealTurn_short (e n q : Int) (A : Option Addr) (m c : Nat) (l : List UInt8) (no kind : Int) (A' : Option Addr) (m' c' : Nat) (l' : List UInt8) (k : Int) (w : World) (hr : Rd w A m l) (hr' : Rd w A' m' l') (hmc : m ≤ c) (hmc' : m' ≤ c') (hc : (c : Int) ≤ 9223372036854775807) (hc' : (c' : Int) ≤ 9223372036854775807) (h : m ≤ 600) (h' : m' ≤ 600) :
    Calls Try.prog 7 #[.agg #[.int .i64 e, .int .i64 n, .int .i64 q, .slice A m c], .int .i64 no, .int .i64 kind, .slice A' m' c', .int .i64 k] w fun ed w' => ed = .returned (.bool true) ∧ Below w.heap.size w w' := by
  obtain ⟨w1, hw1⟩ : ∃ w1, w1 = w.alloc (.cells #[.int .i64 e, .int .i64 n, .int .i64 q, .slice A m c] 24) := ⟨_, rfl⟩
  have hB1 : Below w.heap.size w w1 := by rw [hw1]; exact (Below.refl _ _).alloc (Nat.le_refl _) _
  have hS1 : SealAt w1 w.heap.size e n q A m c := by rw [hw1]; exact SealAt.new w
  have hr1 := hr.below (Nat.le_refl _) hB1
  have hr1' := hr'.below (Nat.le_refl _) hB1
  have x0 := hS1.h0
  have x1 := hS1.h1
  have x2 := hS1.h2
  have x3 := hS1.h3
  have s1 := hS1.lt
  clear hr hr'
  obtain ⟨S, hS⟩ : ∃ S, S = sectorOf e n q l := ⟨_, rfl⟩
  obtain ⟨T, hT⟩ : ∃ T, T = sectorOf e no kind l' := ⟨_, rfl⟩
  have hSl : S.length = 512 := by rw [hS]; exact sectorOf_length _ _ _ _
  have hTl : T.length = 512 := by rw [hT]; exact sectorOf_length _ _ _ _
  have HS := Lib.hid hS
  have HT := Lib.hid hT
  clear hS hT
  go_enter Try.func7, Try.ntmps7
  go_wp2_with (rw [← hw1]; clear hw1)
  go_region_held3 (fun w' => w'.cell? ⟨w.heap.size, 0, none⟩ = some (.int .i64 e) ∧ w'.cell? ⟨w.heap.size, 1, none⟩ = some (.int .i64 n) ∧ w'.cell? ⟨w.heap.size, 2, none⟩ = some (.int .i64 q) ∧ w'.cell? ⟨w.heap.size, 3, none⟩ = some (.slice A m c))
    (first | exact ⟨x0, x1, x2, x3⟩ | exact ⟨y0, y1, y2, y3⟩ | exact ⟨z0, z1, z2, z3⟩)
    (first
      | (go_at_call_of 11 (Value.slice A m c); refine (RPut_any e n q A m c l _ hr1.drew hmc hc).mono ?_; rintro ed w2 ⟨v2, rfl, ho2, hB2⟩; obtain ⟨A2, c2, rfl, hc2, _, hr2⟩ := Rd.of_own ho2 rfl; rw [← HS.out] at hr2; have hr2' := hr1'.drew.below (Nat.le_refl _) hB2; have hS2 := hS1.drew.below hB2 s1; have y0 := hS2.h0; have y1 := hS2.h1; have y2 := hS2.h2; have y3 := hS2.h3)
      | (go_at_call 11; refine (RPut_any e no kind A' m' c' l' _ hr2' hmc' hc').mono ?_; rintro ed w3 ⟨v3, rfl, ho3, hB3⟩; obtain ⟨A3, c3, rfl, hc3, _, hr3⟩ := Rd.of_own ho3 rfl; rw [← HT.out] at hr3; have hr3' := hr2.below (Nat.le_refl _) hB3; have hS3 := hS2.below hB3 hS2.lt; have z0 := hS3.h0; have z1 := hS3.h1; have z2 := hS3.h2; have z3 := hS3.h3))
  have D3 : Below w1.heap.size w1 w3 := ((Below.refl _ _).drew).trans (hB2.trans (hB3.mono hB2.size))
  have H3 := hB1.trans (D3.mono (Nat.le_of_lt s1))
  clear x0 x1 x2 x3 y0 y1 y2 y3 z0 z1 z2 z3 ho2 ho3 hr1 hr1' hr2 hr2' hS1 hS2 hS3 hB1 hB2 hB3 D3
  go_wp2_with fail
  refine (RGet_sector e n q l A2 c2 w3 (by rw [← HS.out]; exact hr3') hc2).mono ?_
  rintro ed w4 ⟨A4, m4, c4, rfl, _, hB4⟩
  go_wp2_with (refine wpList_stseal rfl (.tmp 13) (.tmp 42) rfl rfl rfl (SealAt.new w4) ?_; intro w5 hS5 hB5 _; replace hB5 : Below w4.heap.size w4 w5 := ((Below.refl _ _).alloc (Nat.le_refl _) _).trans hB5)
  have D5 : Below w3.heap.size w3 w5 := hB4.trans (hB5.mono hB4.size)
  have H5 := H3.trans (D5.mono H3.size)
  have h5 := hr3.below (Nat.le_refl _) D5
  have h5' := hr3'.below (Nat.le_refl _) D5
  clear hr3 hr3' hB4 hB5 D5 H3
  refine (RGet_sector e no kind l' A3 c3 w5 (by rw [← HT.out]; exact h5) hc3).mono ?_
  rintro ed w6 ⟨A6, m6, c6, rfl, _, hB6⟩
  go_wp2_with (refine wpList_stseal rfl (.tmp 15) (.tmp 47) rfl rfl rfl (SealAt.new w6) ?_; intro w7 hS7 hB7 _; replace hB7 : Below w6.heap.size w6 w7 := ((Below.refl _ _).alloc (Nat.le_refl _) _).trans hB7; have D7 : Below w5.heap.size w5 w7 := hB6.trans (hB7.mono hB6.size); have hS5' := hS5.below D7 hS5.lt; have a1 := hS5'.h1; have b1 := hS7.h1; by_cases hno : nr n 281474976710656 = nr no 281474976710656)
  · have H7 := H5.trans (D7.mono H5.size)
    rw [← hno] at b1
    clear hno
    go_wp2_with (go_at_call 8; refine (live_any _).mono ?_; rintro ed w8 ⟨rfl, hB8⟩)
    go_ret
    exact ⟨rfl, H7.trans (hB8.mono H7.size)⟩
  have H7 := H5.trans (D7.mono H5.size)
  have h7 := h5.below (Nat.le_refl _) D7
  have h7' := h5'.below (Nat.le_refl _) D7
  have hor := fun hok => turn_or e n q l no kind l' k hno hok
  rw [← HS.out, ← HT.out] at hor
  replace hno : (nr n 281474976710656 == nr no 281474976710656) = false := by simp [hno]
  have HOR := Lib.hid hor
  clear hor h5 h5' hB6 hB7 D7 H5
  go_wp2_with fail
  refine (Tear_any A2 A3 512 c2 512 c3 S T k w7 h7' h7).mono ?_
  rintro ed w8 ⟨A8, rfl, h8, hB8⟩
  rw [cut_self hSl, cut_self hTl] at h8
  have H8 := H7.trans (hB8.mono H7.size)
  replace h7 := h7.below (Nat.le_refl _) hB8
  replace h7' := h7'.below (Nat.le_refl _) hB8
  clear a1 b1 hB8 H7
  obtain ⟨R, hR⟩ : ∃ R, R = tearL S T k := ⟨_, rfl⟩
  rw [← hR] at h8
  have HR := Lib.hid hR
  clear hR
  have cG := Get_any A8 512 512 R w8 h8
  by_cases hok : okL R
  · rw [decide_eq_true hok] at cG
    have hor2 := HOR.out (HR.out ▸ hok)
    rw [← HR.out] at hor2
    have CG := Lib.hid cG
    clear cG
    go_wp2_with fail
    refine CG.out.mono ?_
    rintro ed w9 ⟨A9, m9, c9, rfl, _, _, hB9⟩
    by_cases hRS : R = S
    · have csame := fun W h1 h2 => Same_yes A8 A2 512 512 512 c2 S W h1 h2
      have CSAME := Lib.hid csame
      rw [hRS] at h8
      clear hor2 csame
      go_wp2_with (first
        | (refine wpList_stseal rfl (.tmp 18) (.tmp 62) rfl rfl rfl (SealAt.new w9) ?_; intro wa hSa hBa _; replace hBa : Below w9.heap.size w9 wa := ((Below.refl _ _).alloc (Nat.le_refl _) _).trans hBa; have Da : Below w8.heap.size w8 wa := hB9.trans (hBa.mono hB9.size))
        | (go_at_call 10; refine (CSAME.out wa (h8.below (Nat.le_refl _) Da) (h7'.below (Nat.le_refl _) Da)).mono ?_; rintro ed w' ⟨rfl, rfl⟩)
        | (go_at_call 8; refine (live_any _).mono ?_; rintro ed wb ⟨rfl, hBb⟩))
      go_ret
      have Ha := H8.trans (Da.mono H8.size)
      exact ⟨rfl, Ha.trans (hBb.mono Ha.size)⟩
    · have hRT : R = T := hor2.resolve_left hRS
      have csame := fun W h1 h2 => Same_any A8 A2 512 512 512 c2 R S W h1 h2
      rw [decide_eq_false hRS] at csame
      have csame2 := fun W h1 h2 => Same_yes A8 A3 512 512 512 c3 T W h1 h2
      have CSAME := Lib.hid csame
      have CSAME2 := Lib.hid csame2
      have h8' := h8
      rw [hRT] at h8'
      clear hor2 csame csame2 hRT hRS
      go_wp2_with (first
        | (refine wpList_stseal rfl (.tmp 18) (.tmp 62) rfl rfl rfl (SealAt.new w9) ?_; intro wa hSa hBa _; replace hBa : Below w9.heap.size w9 wa := ((Below.refl _ _).alloc (Nat.le_refl _) _).trans hBa; have Da : Below w8.heap.size w8 wa := hB9.trans (hBa.mono hB9.size))
        | (go_at_call_of 10 (Value.slice A2 512 c2); refine (CSAME.out wa (h8.below (Nat.le_refl _) Da) (h7'.below (Nat.le_refl _) Da)).mono ?_; rintro ed w' ⟨rfl, rfl⟩)
        | (go_at_call 10; refine (CSAME2.out wa (h8'.below (Nat.le_refl _) Da) (h7.below (Nat.le_refl _) Da)).mono ?_; rintro ed w' ⟨rfl, rfl⟩)
        | (go_at_call 8; refine (live_any _).mono ?_; rintro ed wb ⟨rfl, hBb⟩))
      go_ret
      have Ha := H8.trans (Da.mono H8.size)
      exact ⟨rfl, Ha.trans (hBb.mono Ha.size)⟩
  · rw [decide_eq_false hok] at cG
    have CG := Lib.hid cG
    clear cG
    go_wp2_with fail
    refine CG.out.mono ?_
    rintro ed w9 ⟨A9, m9, c9, rfl, _, _, hB9⟩
    go_wp2_with (first
      | (refine wpList_stseal rfl (.tmp 18) (.tmp 62) rfl rfl rfl (SealAt.new w9) ?_; intro wa hSa hBa _; replace hBa : Below w9.heap.size w9 wa := ((Below.refl _ _).alloc (Nat.le_refl _) _).trans hBa)
      | (go_at_call 8; refine (live_any _).mono ?_; rintro ed wb ⟨rfl, hBb⟩))
    go_ret
    have H9 := H8.trans (hB9.mono H8.size)
    have Ha := H9.trans (hBa.mono H9.size)
    exact ⟨rfl, Ha.trans (hBb.mono Ha.size)⟩
end Go.Proofs.Ytlafeobiodolbaa
