/- The law LePuts, walked. -/
import Derived.Test.YtpideglbhllofaaLe6
namespace Go.Proofs.Ytpideglbhllofaa
open Go.RowKit

theorem LePuts_long (A : Option Addr) (n c : Nat) (width x : Int) (s : ByteArray) (w : World) (hn : n ≤ 9223372036854775807) (hs : s.size ≤ 9223372036854775807) (h : 300 < n ∨ 300 < s.size) :
    Calls Try.prog 3 #[.slice A n c, .int .i64 width, .int .i64 x, .string s] w fun e w' => e = .returned (.bool true) ∧ Below w.heap.size w w' := by
  by_cases hn : 300 < n
  · clear h
    go_enter Try.func3, Try.ntmps3
    go_wp2_with (go_at_call 5; refine (live_any _).mono ?_; rintro e w1 ⟨rfl, hb1⟩)
    go_ret
    exact ⟨rfl, hb1⟩
  · have h2 : 300 < s.size := by omega
    clear h
    go_enter Try.func3, Try.ntmps3
    go_wp2_with (go_at_call 5; refine (live_any _).mono ?_; rintro e w1 ⟨rfl, hb1⟩)
    go_ret
    exact ⟨rfl, hb1⟩

theorem LePuts_short (A : Option Addr) (n c : Nat) (l : List UInt8) (width x : Int) (s : ByteArray) (w : World) (hr : Rd w A n l) (hn : n ≤ 300) (hs : s.size ≤ 300) :
    Calls Try.prog 3 #[.slice A n c, .int .i64 width, .int .i64 x, .string s] w fun e w' => e = .returned (.bool true) ∧ Below w.heap.size w w' := by
  have hw := wd_bd width
  go_enter Try.func3, Try.ntmps3
  go_wp2_with fail
  refine (Put_any A n c l width x _ hr (by omega)).mono ?_
  rintro e w1 ⟨v1, rfl, ho1, hb1⟩
  obtain ⟨A1, c1, rfl, _, _, hr1⟩ := Rd.of_own ho1 rfl
  have s1 := hb1.size
  have q1 := hr.below (Nat.le_refl _) hb1
  clear ho1 hr
  go_wp2_with (at_builtin; refine wpList_app _ bytesT rfl (.tmp 25) (.tmp 26) rfl w1.heap.size _ 0 [] rfl (own_empty w1 _ _ (Nat.le_refl _)) A n c l rfl (q1.alloc _) (by omega) (by simp) ?_; intro v2 w2 ho2 hb2)
  simp only [Nat.zero_add, List.nil_append] at ho2
  have hB2 := ((Below.refl w1.heap.size w1).alloc (Nat.le_refl _) _).trans hb2
  have s2 := hB2.size
  refine (Num_any _ _ _).mono ?_
  rintro e w3 ⟨v3, rfl, ho3, hb3⟩
  obtain ⟨A3, c3, rfl, _, _, hr3⟩ := Rd.of_own ho3 rfl
  have ho2' := own_keep ho2 hb3
  have hB3 := hB2.trans (hb3.mono s2)
  clear ho3 ho2 hb2
  go_wp2_with (at_builtin; refine wpList_app _ bytesT rfl (.tmp 27) (.tmp 30) rfl w1.heap.size v2 n _ rfl ho2' A3 (wd width) c3 _ rfl hr3 (by omega) hB3.size ?_; intro v4 w4 ho4 hb4)
  rw [← cells_append] at ho4
  obtain ⟨A4, c4, rfl, _, _, hr4⟩ := Rd.of_own ho4 rfl
  have hB4 := hB3.trans hb4
  have q4 := q1.below (Nat.le_refl _) hB4
  have t4 := hr1.below (Nat.le_refl _) hB4
  have hW4 := hb1.trans (hB4.mono s1)
  have s4 := hW4.size
  clear hr1 hr3 q1 ho2' ho4 hb1 hb3 hb4 hB2 hB3 hB4 s1 s2
  refine (Same_yes A1 A4 _ _ _ _ _ _ t4 hr4).mono ?_
  rintro e w' ⟨rfl, rfl⟩
  clear t4 hr4
  go_wp2_with fail
  refine (PutText_any A n c l s _ q4 (by omega) (by omega)).mono ?_
  rintro e w5 ⟨v5, rfl, ho5, hb5⟩
  obtain ⟨A5, c5, rfl, _, _, hr5⟩ := Rd.of_own ho5 rfl
  have q5 := q4.below (Nat.le_refl _) hb5
  have hW5 := hW4.trans (hb5.mono s4)
  have s5 := hW5.size
  clear ho5 q4 hb5 hW4 s4
  go_wp2_with (at_builtin; refine wpList_app _ bytesT rfl (.tmp 37) (.tmp 38) rfl w5.heap.size _ 0 [] rfl (own_empty w5 _ _ (Nat.le_refl _)) A n c l rfl (q5.alloc _) (by omega) (by simp) ?_; intro v6 w6 ho6 hb6)
  simp only [Nat.zero_add, List.nil_append] at ho6
  have hB6 := ((Below.refl w5.heap.size w5).alloc (Nat.le_refl _) _).trans hb6
  have s6 := hB6.size
  refine (Text_any s _ (by omega)).mono ?_
  rintro e w7 ⟨v7, rfl, ho7, hb7⟩
  obtain ⟨A7, c7, rfl, _, _, hr7⟩ := Rd.of_own ho7 rfl
  have ho6' := own_keep ho6 hb7
  have hB7 := hB6.trans (hb7.mono s6)
  clear ho7 ho6 hb6
  go_wp2_with (at_builtin; refine wpList_app _ bytesT rfl (.tmp 39) (.tmp 41) rfl w5.heap.size v6 n _ rfl ho6' A7 (2 + s.size) c7 _ rfl hr7 (by omega) hB7.size ?_; intro v8 w8 ho8 hb8)
  rw [← cells_append] at ho8
  obtain ⟨A8, c8, rfl, _, _, hr8⟩ := Rd.of_own ho8 rfl
  have hB8 := hB7.trans hb8
  have q8 := q5.below (Nat.le_refl _) hB8
  have t8 := hr5.below (Nat.le_refl _) hB8
  have hW8 := hW5.trans (hB8.mono s5)
  have s8 := hW8.size
  clear hr5 hr7 q5 ho6' ho8 hb7 hb8 hB6 hB7 hB8 hW5 s5 s6
  refine (Same_yes A5 A8 _ _ _ _ _ _ t8 hr8).mono ?_
  rintro e w' ⟨rfl, rfl⟩
  clear t8 hr8
  have hk : x.tmod 400 ≤ 65535 := by
    have := Int.tmod_lt_of_pos x (show (0 : Int) < 400 by decide)
    omega
  go_wp2_with fail
  refine (Cut_any A n c l _ _ q8 hk).mono ?_
  rintro e w9 ⟨v9, rfl, ho9, hb9⟩
  obtain ⟨A9, c9, rfl, _, _, hr9⟩ := Rd.of_own ho9 rfl
  have q9 := q8.below (Nat.le_refl _) hb9
  have hW9 := hW8.trans (hb9.mono s8)
  have s9 := hW9.size
  clear ho9 q8 hb9 hW8 s8
  go_wp2_with fail
  refine (RCut_any A n c l _ _ q9 hk).mono ?_
  rintro e w10 ⟨v10, rfl, ho10, hb10⟩
  obtain ⟨A10, c10, rfl, _, _, hr10⟩ := Rd.of_own ho10 rfl
  have t10 := hr9.below (Nat.le_refl _) hb10
  have hW10 := hW9.trans (hb10.mono s9)
  have s10 := hW10.size
  clear ho10 q9 hr9 hb10 hW9 s9
  go_wp2_with fail
  refine (Same_yes A9 A10 _ _ _ _ _ _ t10 hr10).mono ?_
  rintro e w' ⟨rfl, rfl⟩
  clear t10 hr10
  go_wp2_with fail
  refine (live_any _).mono ?_
  rintro e w11 ⟨rfl, hb11⟩
  go_wp2
  go_ret
  exact ⟨rfl, hW10.trans (hb11.mono s10)⟩
end Go.Proofs.Ytpideglbhllofaa
