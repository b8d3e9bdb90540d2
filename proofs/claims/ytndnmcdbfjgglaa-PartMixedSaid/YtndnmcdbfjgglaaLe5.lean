/- The contracts of part, Get and the reference's Get. -/
import Derived.Test.YtndnmcdbfjgglaaLe3
import Derived.Test.YtndnmcdbfjgglaaLe4s
namespace Go.Proofs.Ytndnmcdbfjgglaa
open Go.RowKit

theorem part_low (A : Option Addr) (n c : Nat) (x : Int) (k : Nat) (w : World) (hx : x < 0) :
    Calls Try.prog 28 #[.slice A n c, .int .i64 x, .int .i64 k] w fun e w' => e = .returned (.tuple #[.slice none 0 0, .bool false]) ∧ w = w' := by
  go_enter Try.func28, Try.ntmps28
  go_wp2
  go_ret2
  exact ⟨rfl, rfl⟩
theorem part_high (A : Option Addr) (n c : Nat) (x : Int) (k : Nat) (w : World) (hx : 0 ≤ x) (hk : k ≤ 1073741824) (hn : n ≤ 1073741824) (h : (n : Int) - k < x) :
    Calls Try.prog 28 #[.slice A n c, .int .i64 x, .int .i64 k] w fun e w' => e = .returned (.tuple #[.slice none 0 0, .bool false]) ∧ w = w' := by
  go_enter Try.func28, Try.ntmps28
  go_wp2
  go_ret2
  exact ⟨rfl, rfl⟩
theorem part_yes (A : Option Addr) (n c : Nat) (l : List UInt8) (x : Nat) (k : Nat) (w : World) (hr : Rd w A n l) (hc : n ≤ c) (h1 : 1 ≤ k) (hk : k ≤ 1073741824) (hn : n ≤ 1073741824) (h : x + k ≤ n) :
    Calls Try.prog 28 #[.slice A n c, .int .i64 x, .int .i64 k] w fun e w' => ∃ A', e = .returned (.tuple #[.slice A' k k, .bool true]) ∧ Rd w A' k ((l.drop x).take k) ∧ w = w' := by
  have h0 : ¬ k = 0 := by omega
  go_enter Try.func28, Try.ntmps28
  go_wp2
  go_ret2
  refine ⟨A.map fun a => a.add x, ?_, hr.part h _ (fun _ b o e => ?_), rfl⟩
  · show Ending.returned (.tuple #[.slice _ (x + k - x) (x + k - x), .bool true]) = _
    rw [Nat.add_sub_cancel_left]
  · rw [e]
    simp [Addr.add_lit]

theorem Get_yes (A : Option Addr) (n c : Nat) (l : List UInt8) (x : Nat) (width : Int) (w : World) (hr : Rd w A n l) (hc : n ≤ c) (hn : n ≤ 1073741824) (h : x + wd width ≤ n) :
    Calls Try.prog 23 #[.slice A n c, .int .i64 x, .int .i64 width] w fun e w' => e = .returned (.tuple #[.int .i64 (getV ((l.drop x).take (wd width))), .bool true]) ∧ w = w' := by
  have hw := wd_bd width
  go_enter Try.func23, Try.ntmps23
  go_wp2_with (first
    | (go_at_call 29; refine (nearest_wd _ _).mono ?_; rintro e w' ⟨rfl, rfl⟩)
    | (go_at_call 28; refine (part_yes A n c l x (wd width) _ hr hc (by omega) (by omega) hn h).mono ?_; rintro e w' ⟨A2, rfl, hp, rfl⟩))
  obtain ⟨p, hpe⟩ : ∃ p, p = (l.drop x).take (wd width) := ⟨_, rfl⟩
  rw [← hpe] at hp
  have HPE := Lib.hid hpe
  clear hpe
  have hpl := hp.1
  have h9 : leN p < 2 ^ (8 * p.length) := leN_lt p
  go_loop [9, 23] (fun u i => ∃ j : Nat, j ≤ wd width ∧ i = .int .i64 j ∧ u = .int .u64 (leN (p.take j) : Nat)) (fun _ i => wd width - (intOf i).toNat)
  case atStart => exact ⟨0, Nat.zero_le _, rfl, rfl⟩
  case round =>
    obtain ⟨j, hj, rfl, rfl⟩ := hrel
    by_cases hlt : j < wd width
    · obtain ⟨b, o, rfl, _, hcell⟩ := hp.at_ hlt
      go_wp2
      go_round
      case rel =>
        refine ⟨j + 1, hlt, by go_num, ?_⟩
        rw [or_step p j (by omega) (by omega)]
      case measure => simp [intOf]; omega
    · go_wp2
      go_ret2
      have : j = wd width := by omega
      subst this
      refine ⟨?_, rfl⟩
      rw [← HPE.out, List.take_of_length_le (by omega)]
      rfl

theorem Get_no (A : Option Addr) (n c : Nat) (x : Int) (width : Int) (w : World) (hn : n ≤ 1073741824) (h : x < 0 ∨ (n : Int) - wd width < x) :
    Calls Try.prog 23 #[.slice A n c, .int .i64 x, .int .i64 width] w fun e w' => e = .returned (.tuple #[.int .i64 0, .bool false]) ∧ w = w' := by
  have hw := wd_bd width
  by_cases hx : x < 0
  · clear h
    go_enter Try.func23, Try.ntmps23
    go_wp2_with (first
      | (go_at_call 29; refine (nearest_wd _ _).mono ?_; rintro e w' ⟨rfl, rfl⟩)
      | (go_at_call 28; refine (part_low A n c x (wd width) _ hx).mono ?_; rintro e w' ⟨rfl, rfl⟩))
    go_ret2
    exact ⟨rfl, rfl⟩
  · have h' : (n : Int) - wd width < x := by omega
    clear h
    go_enter Try.func23, Try.ntmps23
    go_wp2_with (first
      | (go_at_call 29; refine (nearest_wd _ _).mono ?_; rintro e w' ⟨rfl, rfl⟩)
      | (go_at_call 28; refine (part_high A n c x (wd width) _ (by omega) (by omega) hn h').mono ?_; rintro e w' ⟨rfl, rfl⟩))
    go_ret2
    exact ⟨rfl, rfl⟩

theorem RGet_no (A : Option Addr) (n c : Nat) (x : Int) (width : Int) (w : World) (hn : n ≤ 1073741824) (h : x < 0 ∨ (n : Int) - wd width < x) :
    Calls Try.prog 24 #[.slice A n c, .int .i64 x, .int .i64 width] w fun e w' => e = .returned (.tuple #[.int .i64 0, .bool false]) ∧ w = w' := by
  have hw := wd_bd width
  by_cases hx : x < 0
  · clear h
    go_enter Try.func24, Try.ntmps24
    go_wp2_with (go_at_call 27; refine (wide_wd _ _).mono ?_; rintro e w' ⟨rfl, rfl⟩)
    go_ret2
    exact ⟨rfl, rfl⟩
  · have h' : (n : Int) - wd width < x := by omega
    clear h
    go_enter Try.func24, Try.ntmps24
    go_wp2_with (go_at_call 27; refine (wide_wd _ _).mono ?_; rintro e w' ⟨rfl, rfl⟩)
    go_ret2
    exact ⟨rfl, rfl⟩

theorem RGet_yes (A : Option Addr) (n c : Nat) (l : List UInt8) (x : Nat) (width : Int) (w : World) (hr : Rd w A n l) (hn : n ≤ 1073741824) (h : x + wd width ≤ n) :
    Calls Try.prog 24 #[.slice A n c, .int .i64 x, .int .i64 width] w fun e w' => e = .returned (.tuple #[.int .i64 (getV ((l.drop x).take (wd width))), .bool true]) ∧ w = w' := by
  have hw := wd_bd width
  have hl := hr.1
  go_enter Try.func24, Try.ntmps24
  go_wp2_with (go_at_call 27; refine (wide_wd _ _).mono ?_; rintro e w' ⟨rfl, rfl⟩)
  obtain ⟨p, hpe⟩ : ∃ p, p = (l.drop x).take (wd width) := ⟨_, rfl⟩
  have hpl : p.length = wd width := by rw [hpe]; simp; omega
  have hpg : ∀ j (hj : j < wd width), p[j]'(by omega) = l[x + j]'(by omega) := by intro j hj; subst hpe; simp
  have HPE := Lib.hid hpe
  clear hpe
  have HPG := Lib.hid hpg
  clear hpg
  go_loop [9, 10] (fun u i => ∃ j : Nat, j ≤ wd width ∧ i = .int .i64 ((j : Int) - 1) ∧ u = .int .u64 (leN (p.drop j) : Nat)) (fun _ i => (intOf i + 1).toNat)
  case atStart => exact ⟨wd width, Nat.le_refl _, rfl, by rw [List.drop_of_length_le (by omega)]; rfl⟩
  case round =>
    obtain ⟨j, hj, rfl, rfl⟩ := hrel
    by_cases hlt : 0 < j
    · obtain ⟨i, rfl⟩ : ∃ i, j = i + 1 := ⟨j - 1, by omega⟩
      obtain ⟨b, o, rfl, _, hcell⟩ := hr.at_ (show x + i < n by omega)
      rw [← HPG.out i (by omega)] at hcell
      have hu := drop_step p i (by omega) (by omega)
      go_wp2
      go_round
      case rel =>
        refine ⟨i, by omega, by go_num, ?_⟩
        rw [leN_drop p i (by omega)]
        congr 1
        omega
      case measure => simp [intOf]
    · obtain rfl : j = 0 := by omega
      go_wp2
      go_ret2
      refine ⟨?_, rfl⟩
      rw [← HPE.out]
      rfl
end Go.Proofs.Ytndnmcdbfjgglaa
