/- The law SealPuts, walked. -/
import Derived.Test.YtlafeobiodolbaaSeal11
namespace Go.Proofs.Ytlafeobiodolbaa
open Go.RowKit

theorem SealPuts_long (e n k : Int) (A : Option Addr) (m c : Nat) (w : World) (hm : (m : Int) ≤ 9223372036854775807) (h : 600 < m) :
    Calls Try.prog 3 #[.agg #[.int .i64 e, .int .i64 n, .int .i64 k, .slice A m c]] w fun e w' => e = .returned (.bool true) ∧ Below w.heap.size w w' := by
  go_enter Try.func3, Try.ntmps3
  go_wp2_with (go_at_call 8; refine (live_any _).mono ?_; rintro e w1 ⟨rfl, hb1⟩)
  go_ret
  exact ⟨rfl, ((Below.refl _ _).alloc (Nat.le_refl _) _).trans (hb1.mono (by simp))⟩

section
variable (e n k : Int) (b : List UInt8)
theorem ep_nr_self : ep (nr e 281474976710656) = nr e 281474976710656 := by
  have := nr_bd e 281474976710656 (by decide)
  unfold ep
  rw [if_pos this]
theorem epF_sector : epF (sectorOf e n k b) = nr e 281474976710656 := by
  rw [epF, if_pos (sectorOf_length _ _ _ _)]
  have := cE_sector e n k b
  unfold cE at this
  rw [this, ep_nr_self]
theorem epB_sector : epB (sectorOf e n k b) = nr e 281474976710656 := by
  rw [epB, if_pos (sectorOf_length _ _ _ _), okL_stamps (okL_sector e n k b)]
  have := cE_sector e n k b
  unfold cE at this
  rw [List.take_take, Nat.min_self, this, ep_nr_self]
theorem topL_sector : topL (sectorOf e n k b) = nr e 281474976710656 := by
  have := nr_bd e 281474976710656 (by decide)
  rw [topL, epF_sector, epB_sector]
  omega
theorem got_sector : gE (sectorOf e n k b) = nr e 281474976710656 ∧ gN (sectorOf e n k b) = nr n 281474976710656 ∧ gK (sectorOf e n k b) = nr k 255 ∧ gB (sectorOf e n k b) = b.take 472 ∧ decide (okL (sectorOf e n k b)) = true := by
  have h := okL_sector e n k b
  simp only [gE, gN, gK, gB, if_pos h, cE_sector, cN_sector, cK_sector, cB_sector, decide_eq_true h, and_self]
end

/-- What Get tells of the sector of a Seal. -/
theorem Get_sector (e n k : Int) (b : List UInt8) (A : Option Addr) (c : Nat) (w : World) (hr : Rd w A 512 (sectorOf e n k b)) :
    Calls Try.prog 12 #[.slice A 512 c] w fun ed w' => ∃ A' m' c', ed = .returned (.tuple #[.agg #[.int .i64 (nr e 281474976710656), .int .i64 (nr n 281474976710656), .int .i64 (nr k 255), .slice A' m' c'], .bool true]) ∧ Rd w' A' m' (b.take 472) ∧ Below w.heap.size w w' :=
  (Get_any A 512 c _ w hr).mono fun _ _ ⟨A', m', c', he, h1, _, h2⟩ => by
    obtain ⟨q1, q2, q3, q4, q5⟩ := got_sector e n k b
    rw [q1, q2, q3, q5] at he
    rw [q4] at h1
    exact ⟨A', m', c', he, h1, h2⟩
theorem RGet_sector (e n k : Int) (b : List UInt8) (A : Option Addr) (c : Nat) (w : World) (hr : Rd w A 512 (sectorOf e n k b)) (hc : 512 ≤ c) :
    Calls Try.prog 13 #[.slice A 512 c] w fun ed w' => ∃ A' m' c', ed = .returned (.tuple #[.agg #[.int .i64 (nr e 281474976710656), .int .i64 (nr n 281474976710656), .int .i64 (nr k 255), .slice A' m' c'], .bool true]) ∧ Rd w' A' m' (b.take 472) ∧ Below w.heap.size w w' :=
  (RGet_any A 512 c _ w hr hc).mono fun _ _ ⟨A', m', c', he, h1, _, h2⟩ => by
    obtain ⟨q1, q2, q3, q4, q5⟩ := got_sector e n k b
    rw [q1, q2, q3, q5] at he
    rw [q4] at h1
    exact ⟨A', m', c', he, h1, h2⟩

set_option maxHeartbeats 3200000 in
theorem SealPuts_short (e n k : Int) (A : Option Addr) (m c : Nat) (l : List UInt8) (w : World) (hr : Rd w A m l) (hmc : m ≤ c) (hc : (c : Int) ≤ 9223372036854775807) (h : m ≤ 600) :
    Calls Try.prog 3 #[.agg #[.int .i64 e, .int .i64 n, .int .i64 k, .slice A m c]] w fun ed w' => ed = .returned (.bool true) ∧ Below w.heap.size w w' := by
  obtain ⟨w1, hw1⟩ : ∃ w1, w1 = w.alloc (.cells #[.int .i64 e, .int .i64 n, .int .i64 k, .slice A m c] 24) := ⟨_, rfl⟩
  have hB1 : Below w.heap.size w w1 := by rw [hw1]; exact (Below.refl _ _).alloc (Nat.le_refl _) _
  have hS1 : SealAt w1 w.heap.size e n k A m c := by rw [hw1]; exact SealAt.new w
  have hr1 : Rd w1 A m l := hr.below (Nat.le_refl _) hB1
  have k3 := hS1.h3
  have s1 := hS1.lt
  go_enter Try.func3, Try.ntmps3
  go_wp2_with (first
    | (rw [← hw1]; clear hw1)
    | (refine wpList_ldseal rfl (.tmp 1) rfl rfl hS1 ?_))
  refine (SPut_any e n k A m c l w1 hr1).mono ?_
  rintro ed w2 ⟨g, rfl, hg, hs2, hB2⟩
  clear k3
  have H2 := hB1.trans (hB2.mono (Nat.le_of_lt s1))
  have hS2 := hS1.below hB2 s1
  have hr2 := hr1.below (Nat.le_refl _) hB2
  go_wp2_with (refine wpList_ldseal rfl (.tmp 1) rfl rfl hS2 ?_)
  refine (RPut_any e n k A m c l w2 hr2 hmc hc).mono ?_
  rintro ed w3 ⟨v3, rfl, ho3, hB3⟩
  obtain ⟨A3, c3, rfl, _, _, hr3⟩ := Rd.of_own ho3 rfl
  have H3 := H2.trans (hB3.mono H2.size)
  have hS3 := hS2.below hB3 hS2.lt
  have hr3' := hr2.below (Nat.le_refl _) hB3
  have hs3 := hs2.below hB3 hs2.lt
  clear ho3 hS1 hr1 hB1 hB2 hS2 hr2 hs2 hB3 H2
  go_wp2_with fail
  refine (Same_yes _ _ 512 512 _ _ _ w3 hs3.rd_all hr3).mono ?_
  rintro ed w' ⟨rfl, rfl⟩
  clear hr3
  go_wp2_with fail
  refine (Get_sector e n k l _ 512 w3 hs3.rd_all).mono ?_
  rintro ed w4 ⟨A4, m4, c4, rfl, hr4, hB4⟩
  go_wp2_with (refine wpList_stseal rfl (.tmp 4) (.tmp 24) rfl rfl rfl (SealAt.new w4) ?_; intro w5 hS5 hB5 _; replace hB5 : Below w4.heap.size w4 w5 := ((Below.refl _ _).alloc (Nat.le_refl _) _).trans hB5)
  have D5 : Below w3.heap.size w3 w5 := hB4.trans (hB5.mono hB4.size)
  have H5 := H3.trans (D5.mono H3.size)
  have hX5 := hS3.below D5 hS3.lt
  have hs5 := hs3.below D5 hs3.lt
  have hr5 := hr3'.below (Nat.le_refl _) D5
  have hb5 := hr4.below (Nat.le_refl _) hB5
  clear hS3 hs3 hr3' hr4 hB4 hB5 D5 H3
  refine (RGet_sector e n k l _ 512 w5 hs5.rd_all (by decide)).mono ?_
  rintro ed w6 ⟨A6, m6, c6, rfl, hr6, hB6⟩
  go_wp2_with (refine wpList_stseal rfl (.tmp 6) (.tmp 29) rfl rfl rfl (SealAt.new w6) ?_; intro w7 hS7 hB7 _; replace hB7 : Below w6.heap.size w6 w7 := ((Below.refl _ _).alloc (Nat.le_refl _) _).trans hB7)
  have D7 : Below w5.heap.size w5 w7 := hB6.trans (hB7.mono hB6.size)
  have H7 := H5.trans (D7.mono H5.size)
  have hX7 := hX5.below D7 hX5.lt
  have hY7 := hS5.below D7 hS5.lt
  have hs7 := hs5.below D7 hs5.lt
  have hr7 := hr5.below (Nat.le_refl _) D7
  have hb7 := hb5.below (Nat.le_refl _) D7
  have hd7 := hr6.below (Nat.le_refl _) hB7
  clear hX5 hS5 hs5 hr5 hb5 hr6 hB6 hB7 D7 H5
  have cT := fun W hr => Top_any (some ⟨g, 0, none⟩) 512 512 (sectorOf e n k l) W hr (by decide) (by decide)
  rw [topL_sector] at cT
  have CT := Lib.hid cT
  clear cT
  have a0 := hY7.h0
  have a1 := hY7.h1
  have a2 := hY7.h2
  have a3 := hY7.h3
  have b0 := hS7.h0
  have b1 := hS7.h1
  have b2 := hS7.h2
  have b3 := hS7.h3
  go_region_held3 (fun w' => (w'.cell? ⟨w4.heap.size, 0, none⟩ = some (.int .i64 (nr e 281474976710656)) ∧ w'.cell? ⟨w4.heap.size, 1, none⟩ = some (.int .i64 (nr n 281474976710656)) ∧ w'.cell? ⟨w4.heap.size, 2, none⟩ = some (.int .i64 (nr k 255)) ∧ w'.cell? ⟨w4.heap.size, 3, none⟩ = some (.slice A4 m4 c4)) ∧ w'.cell? ⟨w6.heap.size, 0, none⟩ = some (.int .i64 (nr e 281474976710656)) ∧ w'.cell? ⟨w6.heap.size, 1, none⟩ = some (.int .i64 (nr n 281474976710656)) ∧ w'.cell? ⟨w6.heap.size, 2, none⟩ = some (.int .i64 (nr k 255)) ∧ w'.cell? ⟨w6.heap.size, 3, none⟩ = some (.slice A6 m6 c6))
    (first | exact ⟨⟨a0, a1, a2, a3⟩, b0, b1, b2, b3⟩ | exact ⟨⟨p0, p1, p2, p3⟩, q0, q1, q2, q3⟩)
    (first
      | (go_at_call 14; refine (RSame_self _ _ _ _ _ _ _ _ _ _ _ hb7.drew hd7.drew).mono ?_; rintro ed w8 ⟨rfl, hB8⟩; have hY8 := hY7.drew.below hB8 hY7.lt; have hS8 := hS7.drew.below hB8 hS7.lt; have p0 := hY8.h0; have p1 := hY8.h1; have p2 := hY8.h2; have p3 := hY8.h3; have q0 := hS8.h0; have q1 := hS8.h1; have q2 := hS8.h2; have q3 := hS8.h3; have hs8 := hs7.drew.below hB8 hs7.lt)
      | (go_at_call 15; refine (CT.out _ hs8.rd_all).mono ?_; rintro ed w' ⟨rfl, rfl⟩))
  replace hB8 : Below w7.heap.size w7 w8 := ((Below.refl _ _).drew).trans hB8
  have H8 := H7.trans (hB8.mono H7.size)
  have hX8 := hX7.below hB8 hX7.lt
  have hr8 := hr7.below (Nat.le_refl _) hB8
  have hb8 := hb7.below (Nat.le_refl _) hB8
  replace hY8 := hY7.below hB8 hY7.lt
  have x0 := hX8.h0
  have x1 := hX8.h1
  have x2 := hX8.h2
  have x3 := hX8.h3
  clear a0 a1 a2 a3 b0 b1 b2 b3 p0 p1 p2 p3 q0 q1 q2 q3 CT hs8 hS8 hX7 hY7 hS7 hr7 hb7 hd7 hs7 hB8 H7
  by_cases r0 : 0 ≤ e
  · skip
    by_cases r1 : e ≤ 281474976710656
    · skip
      by_cases r2 : 0 ≤ n
      · skip
        by_cases r3 : n ≤ 281474976710656
        · skip
          by_cases r4 : 0 ≤ k
          · skip
            by_cases r5 : k ≤ 255
            · skip
              by_cases r6 : (m : Int) ≤ 472
              · skip
                have E0 : nr e 281474976710656 = e := nr_self r0 r1
                have E1 : nr n 281474976710656 = n := nr_self r2 r3
                have E2 : nr k 255 = k := nr_self r4 r5
                have E3 : l.take 472 = l := List.take_of_length_le (by have := hr8.1; omega)
                rw [E0, E1, E2] at hY8
                rw [E3] at hb8
                clear E0 E1 E2 E3
                go_wp2_with (first
                  | (refine wpList_ldseal rfl (.tmp 1) rfl rfl hX8 ?_)
                  | (refine wpList_ldseal rfl (.tmp 4) rfl rfl hY8 ?_)
                  | (go_at_call 14; refine (RSame_self e n k A A4 m c m4 c4 l w8 hr8 hb8).mono ?_; rintro ed w9 ⟨rfl, hB9⟩)
                  | (go_at_call 8; refine (live_any _).mono ?_; rintro ed w10 ⟨rfl, hB10⟩))
                go_ret
                have H9 := H8.trans (hB9.mono H8.size)
                exact ⟨rfl, H9.trans (hB10.mono H9.size)⟩
              · go_wp2_with (go_at_call 8; refine (live_any _).mono ?_; rintro ed w10 ⟨rfl, hB10⟩)
                go_ret
                exact ⟨rfl, H8.trans (hB10.mono H8.size)⟩
            · go_wp2_with (go_at_call 8; refine (live_any _).mono ?_; rintro ed w10 ⟨rfl, hB10⟩)
              go_ret
              exact ⟨rfl, H8.trans (hB10.mono H8.size)⟩
          · go_wp2_with (go_at_call 8; refine (live_any _).mono ?_; rintro ed w10 ⟨rfl, hB10⟩)
            go_ret
            exact ⟨rfl, H8.trans (hB10.mono H8.size)⟩
        · go_wp2_with (go_at_call 8; refine (live_any _).mono ?_; rintro ed w10 ⟨rfl, hB10⟩)
          go_ret
          exact ⟨rfl, H8.trans (hB10.mono H8.size)⟩
      · go_wp2_with (go_at_call 8; refine (live_any _).mono ?_; rintro ed w10 ⟨rfl, hB10⟩)
        go_ret
        exact ⟨rfl, H8.trans (hB10.mono H8.size)⟩
    · go_wp2_with (go_at_call 8; refine (live_any _).mono ?_; rintro ed w10 ⟨rfl, hB10⟩)
      go_ret
      exact ⟨rfl, H8.trans (hB10.mono H8.size)⟩
  · go_wp2_with (go_at_call 8; refine (live_any _).mono ?_; rintro ed w10 ⟨rfl, hB10⟩)
    go_ret
    exact ⟨rfl, H8.trans (hB10.mono H8.size)⟩
end Go.Proofs.Ytlafeobiodolbaa
