/- The law LeGets, walked. -/
import Derived.Test.YtpideglbhllofaaLe7
namespace Go.Proofs.Ytpideglbhllofaa
open Go.RowKit

theorem Gets_same (A : Option Addr) (n c : Nat) (l : List UInt8) (x width : Int) (hc : n ≤ c) (hn : n ≤ 1073741824) :
    ∃ (g : Int) (b : Bool), ∀ w : World, Rd w A n l →
      Calls Try.prog 13 #[.slice A n c, .int .i64 x, .int .i64 width] w (fun e w' => e = .returned (.tuple #[.int .i64 g, .bool b]) ∧ w = w') ∧
      Calls Try.prog 14 #[.slice A n c, .int .i64 x, .int .i64 width] w (fun e w' => e = .returned (.tuple #[.int .i64 g, .bool b]) ∧ w = w') := by
  by_cases h : x < 0 ∨ (n : Int) - wd width < x
  · exact ⟨0, false, fun w _ => ⟨Get_no A n c x width w hn h, RGet_no A n c x width w hn h⟩⟩
  · obtain ⟨k, rfl⟩ : ∃ k : Nat, x = k := ⟨x.toNat, by omega⟩
    exact ⟨_, true, fun w hr => ⟨Get_yes A n c l k width w hr hc hn (by omega), RGet_yes A n c l k width w hr hn (by omega)⟩⟩

theorem Get_Put (A : Option Addr) (n c : Nat) (l : List UInt8) (width x : Int) (w : World) (hn : n ≤ 300) (hr : Rd w A (n + wd width) (l ++ numB (wd width) x)) (hl : l.length = n) (hc : n + wd width ≤ c) :
    Calls Try.prog 13 #[.slice A (n + wd width : Nat) c, .int .i64 n, .int .i64 width] w fun e w' => e = .returned (.tuple #[.int .i64 (wrap64 (x % 2 ^ (8 * wd width))), .bool true]) ∧ w = w' := by
  have hw := wd_bd width
  refine (Get_yes A _ c _ n width w hr hc (by omega) (Nat.le_refl _)).mono fun e w' h => ?_
  have e1 : ((l ++ numB (wd width) x).drop n).take (wd width) = numB (wd width) x := by
    rw [← hl, List.drop_left, List.take_of_length_le (by simp)]
  rw [e1, getV, leN_numB] at h
  exact h

theorem LeGets_long (A : Option Addr) (n c : Nat) (x width k : Int) (w : World) (hn : n ≤ 9223372036854775807) (h : 300 < n) :
    Calls Try.prog 4 #[.slice A n c, .int .i64 x, .int .i64 width, .int .i64 k] w fun e w' => e = .returned (.bool true) ∧ Below w.heap.size w w' := by
  go_enter Try.func4, Try.ntmps4
  go_wp2_with (go_at_call 5; refine (live_any _).mono ?_; rintro e w1 ⟨rfl, hb1⟩)
  go_ret
  exact ⟨rfl, hb1⟩

theorem LeGets_short (A : Option Addr) (n c : Nat) (l : List UInt8) (x width k : Int) (w : World) (hr : Rd w A n l) (hc : n ≤ c) (hn : n ≤ 300) (hk : -9223372036854775808 ≤ k ∧ k ≤ 9223372036854775807) :
    Calls Try.prog 4 #[.slice A n c, .int .i64 x, .int .i64 width, .int .i64 k] w fun e w' => e = .returned (.bool true) ∧ Below w.heap.size w w' := by
  have hw := wd_bd width
  obtain ⟨g, b, hg⟩ := Gets_same A n c l x width hc (by omega)
  obtain ⟨hg1, hg2⟩ := hg w hr
  have G1 := Lib.hid hg1
  have G2 := Lib.hid hg2
  clear hg hg1 hg2
  by_cases h1 : width < 1
  · have hq := mask_255 k width h1
    go_enter Try.func4, Try.ntmps4
    go_wp2_with fail
    refine G1.out.mono ?_
    rintro e w' ⟨rfl, rfl⟩
    go_wp2_with fail
    refine G2.out.mono ?_
    rintro e w' ⟨rfl, rfl⟩
    go_wp2_with fail
    refine (Put_any A n c l width k _ hr (by omega)).mono ?_
    rintro e w1 ⟨v1, rfl, ho1, hb1⟩
    obtain ⟨A1, c1, rfl, hc1, _, hr1⟩ := Rd.of_own ho1 rfl
    clear ho1
    have s1 := hb1.size
    go_wp2_with fail
    refine (Get_Put A1 n c1 l width k _ hn hr1 hr.1 hc1).mono ?_
    rintro e w' ⟨rfl, rfl⟩
    go_wp2_with fail
    refine (live_any _).mono ?_
    rintro e w2 ⟨rfl, hb2⟩
    go_wp2
    go_ret
    exact ⟨rfl, hb1.trans (hb2.mono s1)⟩
  · by_cases h8 : width < 8
    · have hq := mask_wd k width (by omega) h8
      go_enter Try.func4, Try.ntmps4
      go_wp2_with fail
      refine G1.out.mono ?_
      rintro e w' ⟨rfl, rfl⟩
      go_wp2_with fail
      refine G2.out.mono ?_
      rintro e w' ⟨rfl, rfl⟩
      go_wp2_with fail
      refine (Put_any A n c l width k _ hr (by omega)).mono ?_
      rintro e w1 ⟨v1, rfl, ho1, hb1⟩
      obtain ⟨A1, c1, rfl, hc1, _, hr1⟩ := Rd.of_own ho1 rfl
      clear ho1
      have s1 := hb1.size
      go_wp2_with fail
      refine (Get_Put A1 n c1 l width k _ hn hr1 hr.1 hc1).mono ?_
      rintro e w' ⟨rfl, rfl⟩
      go_wp2_with fail
      refine (live_any _).mono ?_
      rintro e w2 ⟨rfl, hb2⟩
      go_wp2
      go_ret
      exact ⟨rfl, hb1.trans (hb2.mono s1)⟩
    · have hq := wrap_full k hk width (by omega)
      go_enter Try.func4, Try.ntmps4
      go_wp2_with fail
      refine G1.out.mono ?_
      rintro e w' ⟨rfl, rfl⟩
      go_wp2_with fail
      refine G2.out.mono ?_
      rintro e w' ⟨rfl, rfl⟩
      go_wp2_with fail
      refine (Put_any A n c l width k _ hr (by omega)).mono ?_
      rintro e w1 ⟨v1, rfl, ho1, hb1⟩
      obtain ⟨A1, c1, rfl, hc1, _, hr1⟩ := Rd.of_own ho1 rfl
      clear ho1
      have s1 := hb1.size
      go_wp2_with fail
      refine (Get_Put A1 n c1 l width k _ hn hr1 hr.1 hc1).mono ?_
      rintro e w' ⟨rfl, rfl⟩
      go_wp2_with fail
      refine (live_any _).mono ?_
      rintro e w2 ⟨rfl, hb2⟩
      go_wp2
      go_ret
      exact ⟨rfl, hb1.trans (hb2.mono s1)⟩
end Go.Proofs.Ytpideglbhllofaa
