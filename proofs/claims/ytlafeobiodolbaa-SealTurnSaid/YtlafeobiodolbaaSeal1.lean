/- The contracts of seal's and the reference's small functions: nearest, near, epochIn, Epochs, Top. -/
import Derived.Test.YtlafeobiodolbaaLe5
import Derived.Test.YtlafeobiodolbaaSealM
namespace Go.Proofs.Ytlafeobiodolbaa
open Go.RowKit

theorem snearest_any (n lo hi : Int) (w : World) :
    Calls Try.prog 30 #[.int .i64 n, .int .i64 lo, .int .i64 hi] w fun e w' => e = .returned (.int .i64 (min (max n lo) hi)) ∧ w = w' := by
  go_enter Try.func30, Try.ntmps30
  go_wp2
  all_goals go_ret
  all_goals exact ⟨ret_int (by omega), rfl⟩
theorem near_any (n hi : Int) (w : World) (h : 0 ≤ hi) :
    Calls Try.prog 22 #[.int .i64 n, .int .i64 hi] w fun e w' => e = .returned (.int .i64 (nr n hi)) ∧ w = w' := by
  go_enter Try.func22, Try.ntmps22
  go_wp2
  all_goals go_ret
  all_goals exact ⟨ret_int (by unfold nr; omega), rfl⟩

/-- What can be an epoch; else -1. -/
def ep (v : Int) : Int := if 0 ≤ v ∧ v ≤ 281474976710656 then v else -1

theorem Get8 (A : Option Addr) (n c : Nat) (l : List UInt8) (x : Nat) (w : World) (hr : Rd w A n l) (hc : n ≤ c) (hn : n ≤ 1073741824) (h : x + 8 ≤ n) :
    Calls Try.prog 36 #[.slice A n c, .int .i64 x, .int .i64 8] w fun e w' => e = .returned (.tuple #[.int .i64 (getV ((l.drop x).take 8)), .bool true]) ∧ w = w' :=
  Get_yes A n c l x 8 w hr hc hn (by rw [show wd 8 = 8 from by decide]; omega)
theorem RGet8 (A : Option Addr) (n c : Nat) (l : List UInt8) (x : Nat) (w : World) (hr : Rd w A n l) (hn : n ≤ 1073741824) (h : x + 8 ≤ n) :
    Calls Try.prog 27 #[.slice A n c, .int .i64 x, .int .i64 8] w fun e w' => e = .returned (.tuple #[.int .i64 (getV ((l.drop x).take 8)), .bool true]) ∧ w = w' :=
  RGet_yes A n c l x 8 w hr hn (by rw [show wd 8 = 8 from by decide]; omega)
theorem RGet2 (A : Option Addr) (n c : Nat) (l : List UInt8) (x : Nat) (w : World) (hr : Rd w A n l) (hn : n ≤ 1073741824) (h : x + 2 ≤ n) :
    Calls Try.prog 27 #[.slice A n c, .int .i64 x, .int .i64 2] w fun e w' => e = .returned (.tuple #[.int .i64 (getV ((l.drop x).take 2)), .bool true]) ∧ w = w' :=
  RGet_yes A n c l x 2 w hr hn (by rw [show wd 2 = 2 from by decide]; omega)

theorem epochIn_any (A : Option Addr) (n c : Nat) (l : List UInt8) (x : Nat) (w : World) (hr : Rd w A n l) (hc : n ≤ c) (hn : n ≤ 1073741824) (h : x + 8 ≤ n) :
    Calls Try.prog 28 #[.slice A n c, .int .i64 x] w fun e w' => e = .returned (.int .i64 (ep (getV ((l.drop x).take 8)))) ∧ w = w' := by
  obtain ⟨v, hv⟩ : ∃ v, v = getV ((l.drop x).take 8) := ⟨_, rfl⟩
  have hG := Get8 A n c l x w hr hc hn h
  rw [← hv] at hG ⊢
  clear hv
  have HG := Lib.hid hG
  clear hG
  unfold ep
  by_cases h0 : v < 0
  · rw [if_neg (by omega)]
    go_enter Try.func28, Try.ntmps28
    go_wp2_with (go_at_call 36; refine HG.out.mono ?_; rintro e w' ⟨rfl, rfl⟩)
    go_ret
    exact ⟨rfl, rfl⟩
  · by_cases h1 : 281474976710656 < v
    · rw [if_neg (by omega)]
      go_enter Try.func28, Try.ntmps28
      go_wp2_with (go_at_call 36; refine HG.out.mono ?_; rintro e w' ⟨rfl, rfl⟩)
      go_ret
      exact ⟨rfl, rfl⟩
    · rw [if_pos (by omega)]
      go_enter Try.func28, Try.ntmps28
      go_wp2_with (go_at_call 36; refine HG.out.mono ?_; rintro e w' ⟨rfl, rfl⟩)
      go_ret
      exact ⟨rfl, rfl⟩

/-- Both Epochs of any bytes. -/
def epF (l : List UInt8) : Int := if l.length = 512 then ep (getV (l.take 8)) else -1
def epB (l : List UInt8) : Int := if l.length = 512 then ep (getV ((l.drop 504).take 8)) else -1
def topL (l : List UInt8) : Int := max (max (epF l) (epB l)) 0

theorem Epochs_any (A : Option Addr) (n c : Nat) (l : List UInt8) (w : World) (hr : Rd w A n l) (hc : n ≤ c) (hn : n ≤ 1073741824) :
    Calls Try.prog 16 #[.slice A n c] w fun e w' => e = .returned (.tuple #[.int .i64 (epF l), .int .i64 (epB l)]) ∧ w = w' := by
  have hl := hr.1
  by_cases h : n = 512
  · subst h
    have e1 : epF l = ep (getV ((l.drop 0).take 8)) := by simp [epF, hl]
    have e2 : epB l = ep (getV ((l.drop 504).take 8)) := by simp [epB, hl]
    have c1 := fun w hr => epochIn_any A 512 c l 0 w hr hc hn (by omega)
    have c2 := fun w hr => epochIn_any A 512 c l 504 w hr hc hn (by omega)
    rw [← e1] at c1
    rw [← e2] at c2
    have C1 := Lib.hid c1
    have C2 := Lib.hid c2
    clear c1 c2 e1 e2
    go_enter Try.func16, Try.ntmps16
    go_wp2_with (first
      | (go_at_call_of 28 (Value.int .i64 0); refine (C1.out _ hr).mono ?_; rintro e w' ⟨rfl, rfl⟩)
      | (go_at_call_of 28 (Value.int .i64 504); refine (C2.out _ hr).mono ?_; rintro e w' ⟨rfl, rfl⟩))
    go_ret2
    exact ⟨rfl, rfl⟩
  · have e1 : epF l = -1 := by simp [epF, hl, h]
    have e2 : epB l = -1 := by simp [epB, hl, h]
    rw [e1, e2]
    clear e1 e2
    go_enter Try.func16, Try.ntmps16
    go_wp2
    go_ret2
    exact ⟨rfl, rfl⟩

theorem Top_any (A : Option Addr) (n c : Nat) (l : List UInt8) (w : World) (hr : Rd w A n l) (hc : n ≤ c) (hn : n ≤ 1073741824) :
    Calls Try.prog 15 #[.slice A n c] w fun e w' => e = .returned (.int .i64 (topL l)) ∧ w = w' := by
  go_enter Try.func15, Try.ntmps15
  go_wp2_with (go_at_call 16; refine (Epochs_any A n c l _ hr hc hn).mono ?_; rintro e w' ⟨rfl, rfl⟩)
  all_goals go_ret
  all_goals exact ⟨ret_int (by unfold topL; omega), rfl⟩

theorem ep_nr (v : Int) : ep v = if v = nr v 281474976710656 then v else -1 := by
  unfold ep nr
  split <;> split <;> omega

theorem REpochs_any (A : Option Addr) (n c : Nat) (l : List UInt8) (w : World) (hr : Rd w A n l) (hn : n ≤ 1073741824) :
    Calls Try.prog 17 #[.slice A n c] w fun e w' => e = .returned (.tuple #[.int .i64 (epF l), .int .i64 (epB l)]) ∧ w = w' := by
  have hl := hr.1
  by_cases h : n = 512
  · subst h
    obtain ⟨u, hu⟩ : ∃ u, u = getV ((l.drop 0).take 8) := ⟨_, rfl⟩
    obtain ⟨v, hv⟩ : ∃ v, v = getV ((l.drop 504).take 8) := ⟨_, rfl⟩
    have e1 : epF l = ep u := by rw [hu]; simp [epF, hl]
    have e2 : epB l = ep v := by rw [hv]; simp [epB, hl]
    have c1 := fun w hr => RGet8 A 512 c l 0 w hr hn (by omega)
    have c2 := fun w hr => RGet8 A 512 c l 504 w hr hn (by omega)
    rw [← hu] at c1
    rw [← hv] at c2
    rw [e1, e2, ep_nr, ep_nr]
    have C1 := Lib.hid c1
    have C2 := Lib.hid c2
    clear c1 c2 e1 e2 hu hv
    by_cases h1 : u = nr u 281474976710656 <;> by_cases h2 : v = nr v 281474976710656
    all_goals first | (rw [if_pos h1]; replace h1 := h1.symm) | rw [if_neg h1]
    all_goals first | (rw [if_pos h2]; replace h2 := h2.symm) | rw [if_neg h2]
    all_goals go_enter Try.func17, Try.ntmps17
    all_goals go_wp2_with (first
      | (go_at_call_of 27 (Value.int .i64 0); refine (C1.out _ hr).mono ?_; rintro e w' ⟨rfl, rfl⟩)
      | (go_at_call_of 27 (Value.int .i64 504); refine (C2.out _ hr).mono ?_; rintro e w' ⟨rfl, rfl⟩)
      | (go_at_call 22; refine (near_any _ _ _ (by decide)).mono ?_; rintro e w' ⟨rfl, rfl⟩))
    all_goals go_ret2
    all_goals exact ⟨rfl, rfl⟩
  · have e1 : epF l = -1 := by simp [epF, hl, h]
    have e2 : epB l = -1 := by simp [epB, hl, h]
    rw [e1, e2]
    clear e1 e2
    go_enter Try.func17, Try.ntmps17
    go_wp2
    go_ret2
    exact ⟨rfl, rfl⟩

theorem RTop_any (A : Option Addr) (n c : Nat) (l : List UInt8) (w : World) (hr : Rd w A n l) (hn : n ≤ 1073741824) :
    Calls Try.prog 18 #[.slice A n c] w fun e w' => e = .returned (.int .i64 (topL l)) ∧ w = w' := by
  go_enter Try.func18, Try.ntmps18
  go_wp2_with (go_at_call 17; refine (REpochs_any A n c l _ hr hn).mono ?_; rintro e w' ⟨rfl, rfl⟩)
  all_goals go_ret
  all_goals exact ⟨ret_int (by unfold topL; omega), rfl⟩
end Go.Proofs.Ytlafeobiodolbaa
