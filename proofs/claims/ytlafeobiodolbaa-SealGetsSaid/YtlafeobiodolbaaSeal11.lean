/- The laws SealTears and SealGets, walked. -/
import Derived.Test.YtlafeobiodolbaaSeal10
namespace Go.Proofs.Ytlafeobiodolbaa
open Go.RowKit

theorem SealTears_long (A A' : Option Addr) (n n' c c' : Nat) (k : Int) (w : World) (hn : (n : Int) ≤ 9223372036854775807) (hn' : (n' : Int) ≤ 9223372036854775807) (h : 600 < n ∨ 600 < n') :
    Calls Try.prog 5 #[.slice A n c, .slice A' n' c', .int .i64 k] w fun e w' => e = .returned (.bool true) ∧ Below w.heap.size w w' := by
  by_cases h1 : 600 < n
  · clear h
    go_enter Try.func5, Try.ntmps5
    go_wp2_with (go_at_call 8; refine (live_any _).mono ?_; rintro e w1 ⟨rfl, hb1⟩)
    go_ret
    exact ⟨rfl, hb1⟩
  · have h2 : 600 < n' := by omega
    clear h
    go_enter Try.func5, Try.ntmps5
    go_wp2_with (go_at_call 8; refine (live_any _).mono ?_; rintro e w1 ⟨rfl, hb1⟩)
    go_ret
    exact ⟨rfl, hb1⟩

theorem SealTears_short (A A' : Option Addr) (n n' c c' : Nat) (l l' : List UInt8) (k : Int) (w : World) (hr : Rd w A n l) (hr' : Rd w A' n' l') (hk : -9223372036854775808 ≤ k ∧ k ≤ 9223372036854775807) (h : n ≤ 600) (h' : n' ≤ 600) :
    Calls Try.prog 5 #[.slice A n c, .slice A' n' c', .int .i64 k] w fun e w' => e = .returned (.bool true) ∧ Below w.heap.size w w' := by
  go_enter Try.func5, Try.ntmps5
  go_wp2_with fail
  refine (Tear_any A A' n c n' c' l l' k w hr hr').mono ?_
  rintro e w1 ⟨A1, rfl, hr1, hB1⟩
  have s1 := hB1.size
  go_wp2_with fail
  refine (RTear_any A A' n c n' c' l l' k w1 (hr.below (Nat.le_refl _) hB1) (hr'.below (Nat.le_refl _) hB1) hk).mono ?_
  rintro e w2 ⟨v2, rfl, ho2, hB2⟩
  obtain ⟨A2, c2, rfl, _, _, hr2⟩ := Rd.of_own ho2 rfl
  have hr1' := hr1.below (Nat.le_refl _) hB2
  have hB := hB1.trans (hB2.mono s1)
  clear ho2 hr1
  go_wp2_with fail
  refine (Same_yes A1 A2 512 512 512 c2 _ w2 hr1' hr2).mono ?_
  rintro e w' ⟨rfl, rfl⟩
  go_wp2_with fail
  refine (live_any _).mono ?_
  rintro e w3 ⟨rfl, hB3⟩
  go_wp2
  go_ret
  exact ⟨rfl, hB.trans (hB3.mono hB.size)⟩

theorem SealGets_long (A : Option Addr) (n c : Nat) (w : World) (hn : (n : Int) ≤ 9223372036854775807) (h : 600 < n) :
    Calls Try.prog 4 #[.slice A n c] w fun e w' => e = .returned (.bool true) ∧ Below w.heap.size w w' := by
  go_enter Try.func4, Try.ntmps4
  go_wp2_with (go_at_call 8; refine (live_any _).mono ?_; rintro e w1 ⟨rfl, hb1⟩)
  go_ret
  exact ⟨rfl, hb1⟩

theorem RSame_self (e n k : Int) (A A' : Option Addr) (m c m' c' : Nat) (l : List UInt8) (w : World) (h1 : Rd w A m l) (h2 : Rd w A' m' l) :
    Calls Try.prog 14 #[.agg #[.int .i64 e, .int .i64 n, .int .i64 k, .slice A m c], .agg #[.int .i64 e, .int .i64 n, .int .i64 k, .slice A' m' c']] w fun ed w' => ed = .returned (.bool true) ∧ Below w.heap.size w w' :=
  (RSame_any e n k e n k A A' m c m' c' l l w h1 h2).mono fun _ _ ⟨he, hb⟩ => ⟨by rw [he]; simp, hb⟩

theorem SealGets_short (A : Option Addr) (n c : Nat) (l : List UInt8) (w : World) (hr : Rd w A n l) (hc : n ≤ c) (h : n ≤ 600) :
    Calls Try.prog 4 #[.slice A n c] w fun e w' => e = .returned (.bool true) ∧ Below w.heap.size w w' := by
  obtain ⟨gb, hgb⟩ : ∃ gb, gb = decide (okL l) := ⟨_, rfl⟩
  have cG := Get_any A n c l w hr
  rw [← hgb] at cG
  have cR := fun w hr => RGet_any A n c l w hr hc
  rw [← hgb] at cR
  have CG := Lib.hid cG
  have CR := Lib.hid cR
  have HGB := Lib.hid hgb
  clear cG cR hgb
  go_enter Try.func4, Try.ntmps4
  go_wp2_with fail
  refine CG.out.mono ?_
  rintro e w1 ⟨A1, m1, c1, rfl, hr1, hm1, hB1⟩
  have s1 := hB1.size
  go_wp2_with (refine wpList_stseal rfl (.tmp 3) (.tmp 18) rfl rfl rfl (SealAt.new w1) ?_; intro w2 hS2 hB2 _; replace hB2 : Below w1.heap.size w1 w2 := ((Below.refl _ _).alloc (Nat.le_refl _) _).trans hB2)
  have s2 := hB2.size
  have H2 := hB1.trans (hB2.mono s1)
  refine (CR.out w2 (hr.below (Nat.le_refl _) H2)).mono ?_
  rintro e w3 ⟨A3, m3, c3, rfl, hr3, hm3, hB3⟩
  have s3 := hB3.size
  have H3 := H2.trans (hB3.mono H2.size)
  go_wp2_with (refine wpList_stseal rfl (.tmp 5) (.tmp 23) rfl rfl rfl (SealAt.new w3) ?_; intro w4 hS4 hB4 _; replace hB4 : Below w3.heap.size w3 w4 := ((Below.refl _ _).alloc (Nat.le_refl _) _).trans hB4)
  have s4 := hB4.size
  have H4 := H3.trans (hB4.mono H3.size)
  have hr' := hr.below (Nat.le_refl _) H4
  have D4 : Below w2.heap.size w2 w4 := hB3.trans (hB4.mono s3)
  have hS2' := hS2.below D4 hS2.lt
  have hr1' := (hr1.below (Nat.le_refl _) hB2).below (Nat.le_refl _) D4
  have hr3' := hr3.below (Nat.le_refl _) hB4
  clear hS2 hr1 hr3 hr hB1 hB2 hB3 hB4 D4 H2 H3 CG CR
  refine (Epochs_any A n c l w4 hr' hc (by omega)).mono ?_
  rintro e w' ⟨rfl, rfl⟩
  go_wp2_with fail
  refine (REpochs_any A n c l w4 hr' (by omega)).mono ?_
  rintro e w' ⟨rfl, rfl⟩
  cases gb
  · clear HGB
    go_wp2_with (first
      | (refine wpList_ldseal rfl (.tmp 3) rfl rfl hS2' ?_)
      | (refine wpList_ldseal rfl (.tmp 5) rfl rfl hS4 ?_)
      | (go_at_call 14; refine (RSame_self _ _ _ _ _ _ _ _ _ _ w4 hr1' hr3').mono ?_; rintro ed w5 ⟨rfl, hB5⟩; have s5 := hB5.size; have hr5 := hr'.below (Nat.le_refl _) hB5)
      | (go_at_call 15; refine (Top_any A n c l w5 hr5 hc (by omega)).mono ?_; rintro e w' ⟨rfl, rfl⟩)
      | (go_at_call 18; refine (RTop_any A n c l w5 hr5 (by omega)).mono ?_; rintro e w' ⟨rfl, rfl⟩)
      | (go_at_call 8; refine (live_any _).mono ?_; rintro e w6 ⟨rfl, hB6⟩))
    go_ret
    exact ⟨rfl, (H4.trans (hB5.mono H4.size)).trans (hB6.mono (by have := H4.size; omega))⟩
  · have hok : okL l := of_decide_eq_true HGB.out.symm
    have hsec : sectorOf (gE l) (gN l) (gK l) (gB l) = l := by simp only [gE, gN, gK, gB, if_pos hok]; exact hok.symm
    clear HGB hok
    have cP := fun w hr => SPut_any (gE l) (gN l) (gK l) A1 m1 c1 (gB l) w hr
    rw [hsec] at cP
    have CP := Lib.hid cP
    clear cP hsec
    go_wp2_with (first
      | (refine wpList_ldseal rfl (.tmp 3) rfl rfl hS2' ?_)
      | (refine wpList_ldseal rfl (.tmp 5) rfl rfl hS4 ?_)
      | (go_at_call 14; refine (RSame_self _ _ _ _ _ _ _ _ _ _ w4 hr1' hr3').mono ?_; rintro ed w5 ⟨rfl, hB5⟩; have s5 := hB5.size; have hr5 := hr'.below (Nat.le_refl _) hB5; have hS5 := hS2'.below hB5 hS2'.lt; have hr1'' := hr1'.below (Nat.le_refl _) hB5)
      | (go_at_call 15; refine (Top_any A n c l w5 hr5 hc (by omega)).mono ?_; rintro e w' ⟨rfl, rfl⟩)
      | (go_at_call 18; refine (RTop_any A n c l w5 hr5 (by omega)).mono ?_; rintro e w' ⟨rfl, rfl⟩)
      | (refine wpList_ldseal rfl (.tmp 3) rfl rfl hS5 ?_)
      | (go_at_call 9; refine (CP.out w5 hr1'').mono ?_; rintro e w6 ⟨g6, rfl, _, hs6, hB6⟩; have hr6 := hr5.below (Nat.le_refl _) hB6)
      | (go_at_call 10; refine (Same_yes _ _ 512 512 _ _ l w6 hs6.rd_all hr6).mono ?_; rintro e w' ⟨rfl, rfl⟩)
      | (go_at_call 8; refine (live_any _).mono ?_; rintro e w7 ⟨rfl, hB7⟩))
    go_ret
    have t5 := H4.trans (hB5.mono H4.size)
    have t6 := t5.trans (hB6.mono t5.size)
    exact ⟨rfl, t6.trans (hB7.mono t6.size)⟩
end Go.Proofs.Ytlafeobiodolbaa
