/- The law SealTorn, walked. -/
import Derived.Test.YtlafeobiodolbaaSealT
namespace Go.Proofs.Ytlafeobiodolbaa
open Go.RowKit

theorem SealTorn_long (A : Option Addr) (m c : Nat) (e n q : Int) (A' : Option Addr) (m' c' : Nat) (k : Int) (w : World) (hm : (m : Int) ≤ 9223372036854775807) (hm' : (m' : Int) ≤ 9223372036854775807) (h : 600 < m ∨ 600 < m') :
    Calls Try.prog 6 #[.slice A m c, .agg #[.int .i64 e, .int .i64 n, .int .i64 q, .slice A' m' c'], .int .i64 k] w fun ed w' => ed = .returned (.bool true) ∧ Below w.heap.size w w' := by
  by_cases h1 : 600 < m
  · clear h
    go_enter Try.func6, Try.ntmps6
    go_wp2_with (go_at_call 8; refine (live_any _).mono ?_; rintro e w1 ⟨rfl, hb1⟩)
    go_ret
    exact ⟨rfl, ((Below.refl _ _).alloc (Nat.le_refl _) _).trans (hb1.mono (by simp))⟩
  · have h2 : 600 < m' := by omega
    clear h
    go_enter Try.func6, Try.ntmps6
    go_wp2_with (go_at_call 8; refine (live_any _).mono ?_; rintro e w1 ⟨rfl, hb1⟩)
    go_ret
    exact ⟨rfl, ((Below.refl _ _).alloc (Nat.le_refl _) _).trans (hb1.mono (by simp))⟩

set_option maxHeartbeats 3200000 in
theorem SealTorn_short (A : Option Addr) (m c : Nat) (l : List UInt8) (e n q : Int) (A' : Option Addr) (m' c' : Nat) (l' : List UInt8) (k : Int) (w : World) (hr : Rd w A m l) (hr' : Rd w A' m' l') (hmc : m' ≤ c') (hc : (c' : Int) ≤ 9223372036854775807) (h : m ≤ 600) (h' : m' ≤ 600) (hk : -9223372036854775808 ≤ k ∧ k ≤ 9223372036854775807) :
    Calls Try.prog 6 #[.slice A m c, .agg #[.int .i64 e, .int .i64 n, .int .i64 q, .slice A' m' c'], .int .i64 k] w fun ed w' => ed = .returned (.bool true) ∧ Below w.heap.size w w' := by
  obtain ⟨w1, hw1⟩ : ∃ w1, w1 = w.alloc (.cells #[.int .i64 e, .int .i64 n, .int .i64 q, .slice A' m' c'] 24) := ⟨_, rfl⟩
  have hB1 : Below w.heap.size w w1 := by rw [hw1]; exact (Below.refl _ _).alloc (Nat.le_refl _) _
  have hS1 : SealAt w1 w.heap.size e n q A' m' c' := by rw [hw1]; exact SealAt.new w
  have hr1 := hr.below (Nat.le_refl _) hB1
  have hr1' := hr'.below (Nat.le_refl _) hB1
  have k3 := hS1.h3
  have s1 := hS1.lt
  clear hr hr'
  obtain ⟨E, hE⟩ : ∃ E, E = nr e 281474976710656 := ⟨_, rfl⟩
  obtain ⟨a, ha⟩ : ∃ a, a = cut 512 l := ⟨_, rfl⟩
  have hal : a.length = 512 := by rw [ha]; exact cut_length _ _
  obtain ⟨t, ht⟩ : ∃ t, t = sectorOf e n q l' := ⟨_, rfl⟩
  have htl : t.length = 512 := by rw [ht]; exact sectorOf_length _ _ _ _
  have htop : topL t = E := by rw [ht, hE]; exact topL_sector _ _ _ _
  have HA := Lib.hid ha
  have HT := Lib.hid ht
  have HE := Lib.hid hE
  have HTOP := Lib.hid htop
  clear ha ht hE htop
  go_enter Try.func6, Try.ntmps6
  go_wp2_with (first
    | (rw [← hw1]; clear hw1)
    | (refine wpList_ldseal rfl (.tmp 4) rfl rfl hS1 ?_))
  clear k3
  refine (RPut_any e n q A' m' c' l' w1 hr1' hmc hc).mono ?_
  rintro ed w2 ⟨v2, rfl, ho2, hB2⟩
  obtain ⟨A2, c2, rfl, hc2, _, hr2⟩ := Rd.of_own ho2 rfl
  rw [← HT.out] at hr2
  have H2 := hB1.trans (hB2.mono (Nat.le_of_lt s1))
  have hr2' := hr1.below (Nat.le_refl _) hB2
  clear ho2 hr1 hr1' hS1 hB1 hB2
  go_wp2_with fail
  refine (RTear_any A none m c 0 0 l [] 0 w2 hr2' (Rd.nil _ _) (by decide)).mono ?_
  rintro ed w3 ⟨v3, rfl, ho3, hB3⟩
  obtain ⟨A3, c3, rfl, hc3, _, hr3⟩ := Rd.of_own ho3 rfl
  rw [tear_old (cut_length _ _) (cut_length _ _), ← HA.out] at hr3
  have H3 := H2.trans (hB3.mono H2.size)
  have hr3' := hr2.below (Nat.le_refl _) hB3
  clear ho3 hr2 hr2' H2 hB3
  go_wp2_with fail
  refine (REpochs_any A3 512 c3 a w3 hr3 (by decide)).mono ?_
  rintro ed w' ⟨rfl, rfl⟩
  go_wp2_with fail
  refine (RTop_any A2 512 c2 t w3 hr3' (by decide)).mono ?_
  rw [HTOP.out]
  rintro ed w' ⟨rfl, rfl⟩
  by_cases q1 : epF a = E
  · go_wp2_with (go_at_call 8; refine (live_any _).mono ?_; rintro ed w4 ⟨rfl, hB4⟩)
    go_ret
    exact ⟨rfl, H3.trans (hB4.mono H3.size)⟩
  by_cases q2 : epB a = E
  · go_wp2_with (go_at_call 8; refine (live_any _).mono ?_; rintro ed w4 ⟨rfl, hB4⟩)
    go_ret
    exact ⟨rfl, H3.trans (hB4.mono H3.size)⟩
  have hno := fun h1 h2 h3 => torn_not hal e n q l' k (HE.out ▸ q1) (HE.out ▸ q2) h1 h2 h3
  rw [← HT.out] at hno
  replace q1 : (epF a == E) = false := by simp [q1]
  replace q2 : (epB a == E) = false := by simp [q2]
  have HNO := Lib.hid hno
  clear hno
  go_wp2_with fail
  refine (Tear_any A3 A2 512 c3 512 c2 a t k w3 hr3 hr3').mono ?_
  rintro ed w4 ⟨A4, rfl, hr4, hB4⟩
  rw [cut_self hal, cut_self htl] at hr4
  have H4 := H3.trans (hB4.mono H3.size)
  have hra := hr3.below (Nat.le_refl _) hB4
  have hrt := hr3'.below (Nat.le_refl _) hB4
  clear hr3 hr3' hB4 H3
  by_cases p0 : k = 0
  · subst p0
    rw [tear_old hal htl] at hr4
    have cG := Get_any A4 512 512 a w4 hr4
    have cR := fun w hr => RGet_any A3 512 c3 a w hr hc3
    obtain ⟨gb, hgb⟩ : ∃ gb, gb = decide (okL a) := ⟨_, rfl⟩
    rw [← hgb] at cG cR
    have CG := Lib.hid cG
    have CR := Lib.hid cR
    clear cG cR hgb
    go_wp2_with fail
    refine CG.out.mono ?_
    rintro ed w5 ⟨A5, m5, c5, rfl, hr5, _, hB5⟩
    go_wp2_with (refine wpList_stseal rfl (.tmp 12) (.tmp 54) rfl rfl rfl (SealAt.new w5) ?_; intro w6 hS6 hB6 _; replace hB6 : Below w5.heap.size w5 w6 := ((Below.refl _ _).alloc (Nat.le_refl _) _).trans hB6)
    have D6 : Below w4.heap.size w4 w6 := hB5.trans (hB6.mono hB5.size)
    have H6 := H4.trans (D6.mono H4.size)
    refine (CR.out w6 (hra.below (Nat.le_refl _) D6)).mono ?_
    rintro ed w7 ⟨A7, m7, c7, rfl, hr7, _, hB7⟩
    go_wp2_with (first
      | (refine wpList_stseal rfl (.tmp 14) (.tmp 59) rfl rfl rfl (SealAt.new w7) ?_; intro w8 hS8 hB8 _; replace hB8 : Below w7.heap.size w7 w8 := ((Below.refl _ _).alloc (Nat.le_refl _) _).trans hB8; have D8 : Below w6.heap.size w6 w8 := hB7.trans (hB8.mono hB7.size); have hS6' := hS6.below D8 hS6.lt; have hx := (hr5.below (Nat.le_refl _) hB6).below (Nat.le_refl _) D8; have hy := hr7.below (Nat.le_refl _) hB8; have ht8 := (hrt.below (Nat.le_refl _) D6).below (Nat.le_refl _) D8)
      | (refine wpList_ldseal rfl (.tmp 12) rfl rfl hS6' ?_)
      | (refine wpList_ldseal rfl (.tmp 14) rfl rfl hS8 ?_)
      | (go_at_call 14; refine (RSame_self _ _ _ _ _ _ _ _ _ _ w8 hx hy).mono ?_; rintro ed w9 ⟨rfl, hB9⟩)
      | (go_at_call 8; refine (live_any _).mono ?_; rintro ed w10 ⟨rfl, hB10⟩))
    go_ret
    have H8 := H6.trans (D8.mono H6.size)
    have H9 := H8.trans (hB9.mono H8.size)
    exact ⟨rfl, H9.trans (hB10.mono H9.size)⟩
  by_cases p1 : 63 < k
  · have hnext : tearL a t k = t := tear_next hal htl k (.inl p1)
    have HNEXT := Lib.hid hnext
    clear hnext
    rw [HNEXT.out] at hr4
    have cG := Get_sector e n q l' A4 512 w4 (by rw [← HT.out]; exact hr4)
    have CG := Lib.hid cG
    clear cG
    go_wp2_with fail
    refine CG.out.mono ?_
    rintro ed w5 ⟨A5, m5, c5, rfl, hr5, hB5⟩
    go_wp2_with (refine wpList_stseal rfl (.tmp 12) (.tmp 54) rfl rfl rfl (SealAt.new w5) ?_; intro w6 hS6 hB6 _; replace hB6 : Below w5.heap.size w5 w6 := ((Below.refl _ _).alloc (Nat.le_refl _) _).trans hB6)
    have D6 : Below w4.heap.size w4 w6 := hB5.trans (hB6.mono hB5.size)
    have H6 := H4.trans (D6.mono H4.size)
    refine (RGet_any A3 512 c3 a w6 (hra.below (Nat.le_refl _) D6) hc3).mono ?_
    rintro ed w7 ⟨A7, m7, c7, rfl, hr7, _, hB7⟩
    go_wp2_with (refine wpList_stseal rfl (.tmp 14) (.tmp 59) rfl rfl rfl (SealAt.new w7) ?_; intro w8 hS8 hB8 _; replace hB8 : Below w7.heap.size w7 w8 := ((Below.refl _ _).alloc (Nat.le_refl _) _).trans hB8; have D8 : Below w6.heap.size w6 w8 := hB7.trans (hB8.mono hB7.size); have hS6' := hS6.below D8 hS6.lt; have hx := (hr5.below (Nat.le_refl _) hB6).below (Nat.le_refl _) D8; have hy := hr7.below (Nat.le_refl _) hB8; have ht8 := (hrt.below (Nat.le_refl _) D6).below (Nat.le_refl _) D8)
    refine (RGet_sector e n q l' A2 c2 w8 (by rw [← HT.out]; exact ht8) hc2).mono ?_
    rintro ed w9 ⟨A9, m9, c9, rfl, hr9, hB9⟩
    go_wp2_with (first
      | (refine wpList_stseal rfl (.tmp 16) (.tmp 70) rfl rfl rfl (SealAt.new w9) ?_; intro wa hSa hBa _; replace hBa : Below w9.heap.size w9 wa := ((Below.refl _ _).alloc (Nat.le_refl _) _).trans hBa; have Da : Below w8.heap.size w8 wa := hB9.trans (hBa.mono hB9.size); have hSx := hS6'.below Da hS6'.lt; have hx' := hx.below (Nat.le_refl _) Da; have hy' := hr9.below (Nat.le_refl _) hBa)
      | (refine wpList_ldseal rfl (.tmp 12) rfl rfl hSx ?_)
      | (refine wpList_ldseal rfl (.tmp 16) rfl rfl hSa ?_)
      | (go_at_call 14; refine (RSame_self _ _ _ _ _ _ _ _ _ _ wa hx' hy').mono ?_; rintro ed wb ⟨rfl, hBb⟩)
      | (go_at_call 8; refine (live_any _).mono ?_; rintro ed w10 ⟨rfl, hB10⟩))
    go_ret
    have H8 := H6.trans (D8.mono H6.size)
    have Ha := H8.trans (Da.mono H8.size)
    have Hb := Ha.trans (hBb.mono Ha.size)
    exact ⟨rfl, Hb.trans (hB10.mono Hb.size)⟩
  by_cases p2 : k < -63
  · have hnext : tearL a t k = t := tear_next hal htl k (.inr p2)
    have HNEXT := Lib.hid hnext
    clear hnext
    rw [HNEXT.out] at hr4
    have cG := Get_sector e n q l' A4 512 w4 (by rw [← HT.out]; exact hr4)
    have CG := Lib.hid cG
    clear cG
    go_wp2_with fail
    refine CG.out.mono ?_
    rintro ed w5 ⟨A5, m5, c5, rfl, hr5, hB5⟩
    go_wp2_with (refine wpList_stseal rfl (.tmp 12) (.tmp 54) rfl rfl rfl (SealAt.new w5) ?_; intro w6 hS6 hB6 _; replace hB6 : Below w5.heap.size w5 w6 := ((Below.refl _ _).alloc (Nat.le_refl _) _).trans hB6)
    have D6 : Below w4.heap.size w4 w6 := hB5.trans (hB6.mono hB5.size)
    have H6 := H4.trans (D6.mono H4.size)
    refine (RGet_any A3 512 c3 a w6 (hra.below (Nat.le_refl _) D6) hc3).mono ?_
    rintro ed w7 ⟨A7, m7, c7, rfl, hr7, _, hB7⟩
    go_wp2_with (refine wpList_stseal rfl (.tmp 14) (.tmp 59) rfl rfl rfl (SealAt.new w7) ?_; intro w8 hS8 hB8 _; replace hB8 : Below w7.heap.size w7 w8 := ((Below.refl _ _).alloc (Nat.le_refl _) _).trans hB8; have D8 : Below w6.heap.size w6 w8 := hB7.trans (hB8.mono hB7.size); have hS6' := hS6.below D8 hS6.lt; have hx := (hr5.below (Nat.le_refl _) hB6).below (Nat.le_refl _) D8; have hy := hr7.below (Nat.le_refl _) hB8; have ht8 := (hrt.below (Nat.le_refl _) D6).below (Nat.le_refl _) D8)
    refine (RGet_sector e n q l' A2 c2 w8 (by rw [← HT.out]; exact ht8) hc2).mono ?_
    rintro ed w9 ⟨A9, m9, c9, rfl, hr9, hB9⟩
    go_wp2_with (first
      | (refine wpList_stseal rfl (.tmp 16) (.tmp 70) rfl rfl rfl (SealAt.new w9) ?_; intro wa hSa hBa _; replace hBa : Below w9.heap.size w9 wa := ((Below.refl _ _).alloc (Nat.le_refl _) _).trans hBa; have Da : Below w8.heap.size w8 wa := hB9.trans (hBa.mono hB9.size); have hSx := hS6'.below Da hS6'.lt; have hx' := hx.below (Nat.le_refl _) Da; have hy' := hr9.below (Nat.le_refl _) hBa)
      | (refine wpList_ldseal rfl (.tmp 12) rfl rfl hSx ?_)
      | (refine wpList_ldseal rfl (.tmp 16) rfl rfl hSa ?_)
      | (go_at_call 14; refine (RSame_self _ _ _ _ _ _ _ _ _ _ wa hx' hy').mono ?_; rintro ed wb ⟨rfl, hBb⟩)
      | (go_at_call 8; refine (live_any _).mono ?_; rintro ed w10 ⟨rfl, hB10⟩))
    go_ret
    have H8 := H6.trans (D8.mono H6.size)
    have Ha := H8.trans (Da.mono H8.size)
    have Hb := Ha.trans (hBb.mono Ha.size)
    exact ⟨rfl, Hb.trans (hB10.mono Hb.size)⟩
  · skip
    have hno := HNO.out p0 (by omega) (by omega)
    have cG := Get_any A4 512 512 _ w4 hr4
    rw [decide_eq_false hno] at cG
    have CG := Lib.hid cG
    clear cG hno
    go_wp2_with fail
    refine CG.out.mono ?_
    rintro ed w5 ⟨A5, m5, c5, rfl, hr5, _, hB5⟩
    go_wp2_with (refine wpList_stseal rfl (.tmp 12) (.tmp 54) rfl rfl rfl (SealAt.new w5) ?_; intro w6 hS6 hB6 _; replace hB6 : Below w5.heap.size w5 w6 := ((Below.refl _ _).alloc (Nat.le_refl _) _).trans hB6)
    have D6 : Below w4.heap.size w4 w6 := hB5.trans (hB6.mono hB5.size)
    have H6 := H4.trans (D6.mono H4.size)
    refine (RGet_any A3 512 c3 a w6 (hra.below (Nat.le_refl _) D6) hc3).mono ?_
    rintro ed w7 ⟨A7, m7, c7, rfl, hr7, _, hB7⟩
    go_wp2_with (first
      | (refine wpList_stseal rfl (.tmp 14) (.tmp 59) rfl rfl rfl (SealAt.new w7) ?_; intro w8 hS8 hB8 _; replace hB8 : Below w7.heap.size w7 w8 := ((Below.refl _ _).alloc (Nat.le_refl _) _).trans hB8; have D8 : Below w6.heap.size w6 w8 := hB7.trans (hB8.mono hB7.size); have hS6' := hS6.below D8 hS6.lt; have hx := (hr5.below (Nat.le_refl _) hB6).below (Nat.le_refl _) D8; have hy := hr7.below (Nat.le_refl _) hB8; have ht8 := (hrt.below (Nat.le_refl _) D6).below (Nat.le_refl _) D8)
      | (go_at_call 8; refine (live_any _).mono ?_; rintro ed w10 ⟨rfl, hB10⟩))
    go_ret
    have H8 := H6.trans (D8.mono H6.size)
    exact ⟨rfl, H8.trans (hB10.mono H8.size)⟩
end Go.Proofs.Ytlafeobiodolbaa
