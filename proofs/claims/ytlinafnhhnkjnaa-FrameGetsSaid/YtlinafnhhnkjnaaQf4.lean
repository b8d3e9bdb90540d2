/- Le4s, CdD, FrB, Cat, Le1, Le1w, Le2, Le3 -/
import Derived.Test.YtlinafnhhnkjnaaQf3
import Derived.Lib.AppendZeros
import Derived.Deep.WholeRow
namespace Go.Proofs.Ytlinafnhhnkjnaa
open Go.RowKit

theorem Same_yes (A A' : Option Addr) (n c n' c' : Nat) (l : List UInt8) (w : World) (h1 : Rd w A n l) (h2 : Rd w A' n' l) :
    Calls Try.prog 14 #[.slice A n c, .slice A' n' c'] w fun e w' => e = .returned (.bool true) ∧ w = w' := by
  have k1 := run_to_string 25 9 5 Try.underlying25 Try.underlying5 Try.underlying9 w A n c l h1
  have k2 := run_to_string 25 9 5 Try.underlying25 Try.underlying5 Try.underlying9 w A' n' c' l h2
  clear h1 h2
  go_enter Try.func14, Try.ntmps14
  go_wp2
  go_ret
  exact ⟨ret_bool (by simp), rfl⟩

theorem str_toList (l : List UInt8) : (str l).toList = l := by rw [ByteArray.toList_eq]; rfl

theorem Same_any (A A' : Option Addr) (n c n' c' : Nat) (l l' : List UInt8) (w : World) (h1 : Rd w A n l) (h2 : Rd w A' n' l') :
    Calls Try.prog 14 #[.slice A n c, .slice A' n' c'] w fun e w' => e = .returned (.bool (decide (l = l'))) ∧ w = w' := by
  have k1 := run_to_string 25 9 5 Try.underlying25 Try.underlying5 Try.underlying9 w A n c l h1
  have k2 := run_to_string 25 9 5 Try.underlying25 Try.underlying5 Try.underlying9 w A' n' c' l' h2
  clear h1 h2
  go_enter Try.func14, Try.ntmps14
  go_wp2
  go_ret
  exact ⟨ret_bool (by rw [str_toList, str_toList]; by_cases h : l = l' <;> simp [h]), rfl⟩

end Go.Proofs.Ytlinafnhhnkjnaa
namespace Go.Proofs.Ytlinafnhhnkjnaa
open Go.RowKit
set_option linter.unusedVariables false
set_option maxRecDepth 20000

theorem Exact_0 (d : Int) (lc : Bool) (ix gn cp : Int) (dt : List UInt8) (d' : Int) (lc' : Bool) (ix' : Int) (gn' : Int) (cp' : Int) (dt' : List UInt8) (A A' : Option Addr) (n c n' c' : Nat) (w : World) (h : Rd w A n dt) (h' : Rd w A' n' dt') (hne : ¬ d = d') :
    Calls Try.prog 29 #[.agg (Cd.cs ⟨d, lc, ix, gn, cp, dt⟩ A n c), .agg (Cd.cs ⟨d', lc', ix', gn', cp', dt'⟩ A' n' c')] w fun e w' => e = .returned (.bool false) ∧ Below w.heap.size w w' := by
  obtain ⟨w1, hw1⟩ : ∃ w1, w1 = (w.alloc (.cells (Cd.cs ⟨d, lc, ix, gn, cp, dt⟩ A n c) 47)).alloc (.cells (Cd.cs ⟨d', lc', ix', gn', cp', dt'⟩ A' n' c') 47) := ⟨_, rfl⟩
  have hb1 : Below w.heap.size w w1 := by rw [hw1]; exact ((Below.refl _ _).alloc (Nat.le_refl _) _).alloc (by simp) _
  have r1 : Rec 47 w1 w.heap.size (Cd.cs ⟨d, lc, ix, gn, cp, dt⟩ A n c) := by rw [hw1]; exact (Rec.new w _ _).under ((Below.refl _ _).alloc (Nat.le_refl _) _)
  have r2 : Rec 47 w1 (w.heap.size + 1) (Cd.cs ⟨d', lc', ix', gn', cp', dt'⟩ A' n' c') := by
    have := Rec.new (w.alloc (.cells (Cd.cs ⟨d, lc, ix, gn, cp, dt⟩ A n c) 47)) 47 (Cd.cs ⟨d', lc', ix', gn', cp', dt'⟩ A' n' c')
    rw [World.size_alloc] at this
    rw [hw1]; exact this
  have CS := Lib.hid (Same_any A A' n c n' c' dt dt' w1 (h.below (Nat.le_refl _) hb1) (h'.below (Nat.le_refl _) hb1))
  have a0 := r1.at_ 0
  have b0 := r2.at_ 0
  have a1 := r1.at_ 1
  have b1 := r2.at_ 1
  have a2 := r1.at_ 2
  have b2 := r2.at_ 2
  have a3 := r1.at_ 3
  have b3 := r2.at_ 3
  have a4 := r1.at_ 4
  have b4 := r2.at_ 4
  have a5 := r1.at_ 5
  have b5 := r2.at_ 5
  have e1 : decide (d = d') = false := decide_eq_false hne
  have e2 : (d == d') = false := by simpa using hne
  have HB := Lib.hid hb1
  clear h h' hb1 r1 r2 hne
  go_enter Try.func29, Try.ntmps29
  go_wp2_with (first
    | (rw [← hw1]; clear hw1)
    | (go_at_call 14; refine CS.out.mono ?_; rintro e w' ⟨rfl, rfl⟩))
  go_ret
  exact ⟨rfl, HB.out⟩

theorem Exact_1 (d : Int) (lc : Bool) (ix gn cp : Int) (dt : List UInt8) (lc' : Bool) (ix' : Int) (gn' : Int) (cp' : Int) (dt' : List UInt8) (A A' : Option Addr) (n c n' c' : Nat) (w : World) (h : Rd w A n dt) (h' : Rd w A' n' dt') (hne : ¬ lc = lc') :
    Calls Try.prog 29 #[.agg (Cd.cs ⟨d, lc, ix, gn, cp, dt⟩ A n c), .agg (Cd.cs ⟨d, lc', ix', gn', cp', dt'⟩ A' n' c')] w fun e w' => e = .returned (.bool false) ∧ Below w.heap.size w w' := by
  obtain ⟨w1, hw1⟩ : ∃ w1, w1 = (w.alloc (.cells (Cd.cs ⟨d, lc, ix, gn, cp, dt⟩ A n c) 47)).alloc (.cells (Cd.cs ⟨d, lc', ix', gn', cp', dt'⟩ A' n' c') 47) := ⟨_, rfl⟩
  have hb1 : Below w.heap.size w w1 := by rw [hw1]; exact ((Below.refl _ _).alloc (Nat.le_refl _) _).alloc (by simp) _
  have r1 : Rec 47 w1 w.heap.size (Cd.cs ⟨d, lc, ix, gn, cp, dt⟩ A n c) := by rw [hw1]; exact (Rec.new w _ _).under ((Below.refl _ _).alloc (Nat.le_refl _) _)
  have r2 : Rec 47 w1 (w.heap.size + 1) (Cd.cs ⟨d, lc', ix', gn', cp', dt'⟩ A' n' c') := by
    have := Rec.new (w.alloc (.cells (Cd.cs ⟨d, lc, ix, gn, cp, dt⟩ A n c) 47)) 47 (Cd.cs ⟨d, lc', ix', gn', cp', dt'⟩ A' n' c')
    rw [World.size_alloc] at this
    rw [hw1]; exact this
  have CS := Lib.hid (Same_any A A' n c n' c' dt dt' w1 (h.below (Nat.le_refl _) hb1) (h'.below (Nat.le_refl _) hb1))
  have a0 := r1.at_ 0
  have b0 := r2.at_ 0
  have a1 := r1.at_ 1
  have b1 := r2.at_ 1
  have a2 := r1.at_ 2
  have b2 := r2.at_ 2
  have a3 := r1.at_ 3
  have b3 := r2.at_ 3
  have a4 := r1.at_ 4
  have b4 := r2.at_ 4
  have a5 := r1.at_ 5
  have b5 := r2.at_ 5
  have e1 : decide (lc = lc') = false := decide_eq_false hne
  have e2 : (lc == lc') = false := by simpa using hne
  have HB := Lib.hid hb1
  clear h h' hb1 r1 r2 hne
  go_enter Try.func29, Try.ntmps29
  go_wp2_with (first
    | (rw [← hw1]; clear hw1)
    | (go_at_call 14; refine CS.out.mono ?_; rintro e w' ⟨rfl, rfl⟩))
  go_ret
  exact ⟨rfl, HB.out⟩

theorem Exact_2 (d : Int) (lc : Bool) (ix gn cp : Int) (dt : List UInt8) (ix' : Int) (gn' : Int) (cp' : Int) (dt' : List UInt8) (A A' : Option Addr) (n c n' c' : Nat) (w : World) (h : Rd w A n dt) (h' : Rd w A' n' dt') (hne : ¬ ix = ix') :
    Calls Try.prog 29 #[.agg (Cd.cs ⟨d, lc, ix, gn, cp, dt⟩ A n c), .agg (Cd.cs ⟨d, lc, ix', gn', cp', dt'⟩ A' n' c')] w fun e w' => e = .returned (.bool false) ∧ Below w.heap.size w w' := by
  obtain ⟨w1, hw1⟩ : ∃ w1, w1 = (w.alloc (.cells (Cd.cs ⟨d, lc, ix, gn, cp, dt⟩ A n c) 47)).alloc (.cells (Cd.cs ⟨d, lc, ix', gn', cp', dt'⟩ A' n' c') 47) := ⟨_, rfl⟩
  have hb1 : Below w.heap.size w w1 := by rw [hw1]; exact ((Below.refl _ _).alloc (Nat.le_refl _) _).alloc (by simp) _
  have r1 : Rec 47 w1 w.heap.size (Cd.cs ⟨d, lc, ix, gn, cp, dt⟩ A n c) := by rw [hw1]; exact (Rec.new w _ _).under ((Below.refl _ _).alloc (Nat.le_refl _) _)
  have r2 : Rec 47 w1 (w.heap.size + 1) (Cd.cs ⟨d, lc, ix', gn', cp', dt'⟩ A' n' c') := by
    have := Rec.new (w.alloc (.cells (Cd.cs ⟨d, lc, ix, gn, cp, dt⟩ A n c) 47)) 47 (Cd.cs ⟨d, lc, ix', gn', cp', dt'⟩ A' n' c')
    rw [World.size_alloc] at this
    rw [hw1]; exact this
  have CS := Lib.hid (Same_any A A' n c n' c' dt dt' w1 (h.below (Nat.le_refl _) hb1) (h'.below (Nat.le_refl _) hb1))
  have a0 := r1.at_ 0
  have b0 := r2.at_ 0
  have a1 := r1.at_ 1
  have b1 := r2.at_ 1
  have a2 := r1.at_ 2
  have b2 := r2.at_ 2
  have a3 := r1.at_ 3
  have b3 := r2.at_ 3
  have a4 := r1.at_ 4
  have b4 := r2.at_ 4
  have a5 := r1.at_ 5
  have b5 := r2.at_ 5
  have e1 : decide (ix = ix') = false := decide_eq_false hne
  have e2 : (ix == ix') = false := by simpa using hne
  have HB := Lib.hid hb1
  clear h h' hb1 r1 r2 hne
  go_enter Try.func29, Try.ntmps29
  go_wp2_with (first
    | (rw [← hw1]; clear hw1)
    | (go_at_call 14; refine CS.out.mono ?_; rintro e w' ⟨rfl, rfl⟩))
  go_ret
  exact ⟨rfl, HB.out⟩

theorem Exact_3 (d : Int) (lc : Bool) (ix gn cp : Int) (dt : List UInt8) (gn' : Int) (cp' : Int) (dt' : List UInt8) (A A' : Option Addr) (n c n' c' : Nat) (w : World) (h : Rd w A n dt) (h' : Rd w A' n' dt') (hne : ¬ gn = gn') :
    Calls Try.prog 29 #[.agg (Cd.cs ⟨d, lc, ix, gn, cp, dt⟩ A n c), .agg (Cd.cs ⟨d, lc, ix, gn', cp', dt'⟩ A' n' c')] w fun e w' => e = .returned (.bool false) ∧ Below w.heap.size w w' := by
  obtain ⟨w1, hw1⟩ : ∃ w1, w1 = (w.alloc (.cells (Cd.cs ⟨d, lc, ix, gn, cp, dt⟩ A n c) 47)).alloc (.cells (Cd.cs ⟨d, lc, ix, gn', cp', dt'⟩ A' n' c') 47) := ⟨_, rfl⟩
  have hb1 : Below w.heap.size w w1 := by rw [hw1]; exact ((Below.refl _ _).alloc (Nat.le_refl _) _).alloc (by simp) _
  have r1 : Rec 47 w1 w.heap.size (Cd.cs ⟨d, lc, ix, gn, cp, dt⟩ A n c) := by rw [hw1]; exact (Rec.new w _ _).under ((Below.refl _ _).alloc (Nat.le_refl _) _)
  have r2 : Rec 47 w1 (w.heap.size + 1) (Cd.cs ⟨d, lc, ix, gn', cp', dt'⟩ A' n' c') := by
    have := Rec.new (w.alloc (.cells (Cd.cs ⟨d, lc, ix, gn, cp, dt⟩ A n c) 47)) 47 (Cd.cs ⟨d, lc, ix, gn', cp', dt'⟩ A' n' c')
    rw [World.size_alloc] at this
    rw [hw1]; exact this
  have CS := Lib.hid (Same_any A A' n c n' c' dt dt' w1 (h.below (Nat.le_refl _) hb1) (h'.below (Nat.le_refl _) hb1))
  have a0 := r1.at_ 0
  have b0 := r2.at_ 0
  have a1 := r1.at_ 1
  have b1 := r2.at_ 1
  have a2 := r1.at_ 2
  have b2 := r2.at_ 2
  have a3 := r1.at_ 3
  have b3 := r2.at_ 3
  have a4 := r1.at_ 4
  have b4 := r2.at_ 4
  have a5 := r1.at_ 5
  have b5 := r2.at_ 5
  have e1 : decide (gn = gn') = false := decide_eq_false hne
  have e2 : (gn == gn') = false := by simpa using hne
  have HB := Lib.hid hb1
  clear h h' hb1 r1 r2 hne
  go_enter Try.func29, Try.ntmps29
  go_wp2_with (first
    | (rw [← hw1]; clear hw1)
    | (go_at_call 14; refine CS.out.mono ?_; rintro e w' ⟨rfl, rfl⟩))
  go_ret
  exact ⟨rfl, HB.out⟩

theorem Exact_4 (d : Int) (lc : Bool) (ix gn cp : Int) (dt : List UInt8) (cp' : Int) (dt' : List UInt8) (A A' : Option Addr) (n c n' c' : Nat) (w : World) (h : Rd w A n dt) (h' : Rd w A' n' dt') (hne : ¬ cp = cp') :
    Calls Try.prog 29 #[.agg (Cd.cs ⟨d, lc, ix, gn, cp, dt⟩ A n c), .agg (Cd.cs ⟨d, lc, ix, gn, cp', dt'⟩ A' n' c')] w fun e w' => e = .returned (.bool false) ∧ Below w.heap.size w w' := by
  obtain ⟨w1, hw1⟩ : ∃ w1, w1 = (w.alloc (.cells (Cd.cs ⟨d, lc, ix, gn, cp, dt⟩ A n c) 47)).alloc (.cells (Cd.cs ⟨d, lc, ix, gn, cp', dt'⟩ A' n' c') 47) := ⟨_, rfl⟩
  have hb1 : Below w.heap.size w w1 := by rw [hw1]; exact ((Below.refl _ _).alloc (Nat.le_refl _) _).alloc (by simp) _
  have r1 : Rec 47 w1 w.heap.size (Cd.cs ⟨d, lc, ix, gn, cp, dt⟩ A n c) := by rw [hw1]; exact (Rec.new w _ _).under ((Below.refl _ _).alloc (Nat.le_refl _) _)
  have r2 : Rec 47 w1 (w.heap.size + 1) (Cd.cs ⟨d, lc, ix, gn, cp', dt'⟩ A' n' c') := by
    have := Rec.new (w.alloc (.cells (Cd.cs ⟨d, lc, ix, gn, cp, dt⟩ A n c) 47)) 47 (Cd.cs ⟨d, lc, ix, gn, cp', dt'⟩ A' n' c')
    rw [World.size_alloc] at this
    rw [hw1]; exact this
  have CS := Lib.hid (Same_any A A' n c n' c' dt dt' w1 (h.below (Nat.le_refl _) hb1) (h'.below (Nat.le_refl _) hb1))
  have a0 := r1.at_ 0
  have b0 := r2.at_ 0
  have a1 := r1.at_ 1
  have b1 := r2.at_ 1
  have a2 := r1.at_ 2
  have b2 := r2.at_ 2
  have a3 := r1.at_ 3
  have b3 := r2.at_ 3
  have a4 := r1.at_ 4
  have b4 := r2.at_ 4
  have a5 := r1.at_ 5
  have b5 := r2.at_ 5
  have e1 : decide (cp = cp') = false := decide_eq_false hne
  have e2 : (cp == cp') = false := by simpa using hne
  have HB := Lib.hid hb1
  clear h h' hb1 r1 r2 hne
  go_enter Try.func29, Try.ntmps29
  go_wp2_with (first
    | (rw [← hw1]; clear hw1)
    | (go_at_call 14; refine CS.out.mono ?_; rintro e w' ⟨rfl, rfl⟩))
  go_ret
  exact ⟨rfl, HB.out⟩

theorem Exact_5 (d : Int) (lc : Bool) (ix gn cp : Int) (dt : List UInt8)  (dt' : List UInt8) (A A' : Option Addr) (n c n' c' : Nat) (w : World) (h : Rd w A n dt) (h' : Rd w A' n' dt')  :
    Calls Try.prog 29 #[.agg (Cd.cs ⟨d, lc, ix, gn, cp, dt⟩ A n c), .agg (Cd.cs ⟨d, lc, ix, gn, cp, dt'⟩ A' n' c')] w fun e w' => e = .returned (.bool (decide (dt = dt'))) ∧ Below w.heap.size w w' := by
  obtain ⟨w1, hw1⟩ : ∃ w1, w1 = (w.alloc (.cells (Cd.cs ⟨d, lc, ix, gn, cp, dt⟩ A n c) 47)).alloc (.cells (Cd.cs ⟨d, lc, ix, gn, cp, dt'⟩ A' n' c') 47) := ⟨_, rfl⟩
  have hb1 : Below w.heap.size w w1 := by rw [hw1]; exact ((Below.refl _ _).alloc (Nat.le_refl _) _).alloc (by simp) _
  have r1 : Rec 47 w1 w.heap.size (Cd.cs ⟨d, lc, ix, gn, cp, dt⟩ A n c) := by rw [hw1]; exact (Rec.new w _ _).under ((Below.refl _ _).alloc (Nat.le_refl _) _)
  have r2 : Rec 47 w1 (w.heap.size + 1) (Cd.cs ⟨d, lc, ix, gn, cp, dt'⟩ A' n' c') := by
    have := Rec.new (w.alloc (.cells (Cd.cs ⟨d, lc, ix, gn, cp, dt⟩ A n c) 47)) 47 (Cd.cs ⟨d, lc, ix, gn, cp, dt'⟩ A' n' c')
    rw [World.size_alloc] at this
    rw [hw1]; exact this
  have CS := Lib.hid (Same_any A A' n c n' c' dt dt' w1 (h.below (Nat.le_refl _) hb1) (h'.below (Nat.le_refl _) hb1))
  have a0 := r1.at_ 0
  have b0 := r2.at_ 0
  have a1 := r1.at_ 1
  have b1 := r2.at_ 1
  have a2 := r1.at_ 2
  have b2 := r2.at_ 2
  have a3 := r1.at_ 3
  have b3 := r2.at_ 3
  have a4 := r1.at_ 4
  have b4 := r2.at_ 4
  have a5 := r1.at_ 5
  have b5 := r2.at_ 5
  have HB := Lib.hid hb1
  clear h h' hb1 r1 r2
  go_enter Try.func29, Try.ntmps29
  go_wp2_with (first
    | (rw [← hw1]; clear hw1)
    | (go_at_call 14; refine CS.out.mono ?_; rintro e w' ⟨rfl, rfl⟩))
  go_ret
  exact ⟨rfl, HB.out⟩

theorem Exact_any (x y : Cd) (A A' : Option Addr) (n c n' c' : Nat) (w : World) (h : Rd w A n x.dt) (h' : Rd w A' n' y.dt) :
    Calls Try.prog 29 #[.agg (x.cs A n c), .agg (y.cs A' n' c')] w fun e w' => e = .returned (.bool (x.eqB y)) ∧ Below w.heap.size w w' := by
  obtain ⟨d, lc, ix, gn, cp, dt⟩ := x
  obtain ⟨d', lc', ix', gn', cp', dt'⟩ := y
  unfold Cd.eqB
  by_cases h0 : d = d'
  · subst h0
    by_cases h1 : lc = lc'
    · subst h1
      by_cases h2 : ix = ix'
      · subst h2
        by_cases h3 : gn = gn'
        · subst h3
          by_cases h4 : cp = cp'
          · subst h4
            simpa using Exact_5 d lc ix gn cp dt dt' A A' n c n' c' w h h'
          · simpa [h4] using Exact_4 d lc ix gn cp dt cp' dt' A A' n c n' c' w h h' h4
        · simpa [h3] using Exact_3 d lc ix gn cp dt gn' cp' dt' A A' n c n' c' w h h' h3
      · simpa [h2] using Exact_2 d lc ix gn cp dt ix' gn' cp' dt' A A' n c n' c' w h h' h2
    · simpa [h1] using Exact_1 d lc ix gn cp dt lc' ix' gn' cp' dt' A A' n c n' c' w h h' h1
  · simpa [h0] using Exact_0 d lc ix gn cp dt d' lc' ix' gn' cp' dt' A A' n c n' c' w h h' h0
end Go.Proofs.Ytlinafnhhnkjnaa
namespace Go.Proofs.Ytlinafnhhnkjnaa
open Go.RowKit
set_option linter.unusedVariables false
set_option maxRecDepth 20000

/-- The first that may not be. -/
def chkL : List Cd → Int
  | [] => 0
  | x :: xs => if x.check ≠ 0 then x.check else chkL xs
/-- P14.1: Check. -/
def frCheck (xs : List Cd) : Int := if 64 < xs.length then 13 else chkL xs
theorem drop_at {α : Type} {xs : List α} {j : Nat} {x : α} (h : xs[j]? = some x) : xs.drop j = x :: xs.drop (j + 1) := by
  obtain ⟨hlt, e⟩ := List.getElem?_eq_some_iff.1 h
  rw [List.drop_eq_getElem_cons hlt, e]
section
variable {K : Nat → Prop} (A : Option Addr) (n c : Nat) (xs : List Cd) (w : World)
set_option maxHeartbeats 1000000 in
theorem RFCheck_any (h : CdsV K w A n xs) (hn : n ≤ 9223372036854775807) (hd : ∀ x ∈ xs, x.dt.length ≤ 9223372036854775807) :
    Calls Try.prog 9 #[.slice A n c] w fun e w' => e = .returned (.int .i64 (frCheck xs)) ∧ Below w.heap.size w w' := by
  have hl := h.len
  unfold frCheck
  rw [hl]
  by_cases h64 : 64 < n
  · rw [if_pos h64]
    clear hl
    go_enter Try.func9, Try.ntmps9
    go_wp2
    go_ret
    exact ⟨rfl, Below.refl _ _⟩
  rw [if_neg h64]
  have H := Lib.hid h
  have HL := Lib.hid hl
  have HD := Lib.hid hd
  clear h hl hd
  go_enter Try.func9, Try.ntmps9
  go_wp2
  go_loopw [3] (fun iv wr => ∃ j : Nat, j ≤ n ∧ iv = .int .i64 j ∧ Hid (chkL xs = chkL (xs.drop j)) ∧ Below w.heap.size w wr) (fun iv _ => n - (intOf iv).toNat)
  case atStart => exact ⟨0, Nat.zero_le _, rfl, Lib.hid (by simp), Below.refl _ _⟩
  case round =>
    obtain ⟨j, hj, rfl, hck, hb⟩ := hrel
    have HBw := Lib.hid hb
    by_cases hjn : j < n
    · obtain ⟨x, hx⟩ : ∃ x, xs[j]? = some x := ⟨_, List.getElem?_eq_getElem (by rw [HL.out]; exact hjn)⟩
      obtain ⟨b, o, A', m, cc, hA, hlt, hc, hr, hmc⟩ := (H.out.below hb).cell hx
      have HX := Lib.hid hx
      have hm := HD.out x (List.mem_of_getElem? hx)
      rw [hr.1] at hm
      have CR : Hid (∀ W, Below wr.heap.size wr W → Calls Try.prog 24 #[.agg (x.cs A' m cc)] W fun e w' => e = .returned (.int .i64 x.check) ∧ Below W.heap.size W w') := Lib.hid (fun W hW => RCheck_any x A' m cc W (hr.below (Nat.le_refl _) hW) hm)
      have HC : Hid (∀ W, Below wr.heap.size wr W → CdL W b (o + j * 6) x A' m cc) := Lib.hid (fun W hW => hc.below hW hlt)
      subst hA
      have HCK : Hid (chkL xs = if x.check ≠ 0 then x.check else chkL (xs.drop (j + 1))) := Lib.hid (by rw [hck.out, drop_at hx]; rfl)
      obtain ⟨ck, hck'⟩ : ∃ q, q = x.check := ⟨_, rfl⟩
      rw [← hck'] at CR HCK
      have C0 := HC.out wr (Below.refl _ _)
      have H0 := Lib.hid C0
      clear hx hr hc hck hb hck' hmc C0 hm
      by_cases h0 : ck = 0
      · subst h0
        go_wp2_with (first
          | ((with_reducible refine wpList_ldCd (b := b) (off := o + j * 6) rfl (.tmp 15) rfl rfl H0.out ?_))
          | (go_at_call 24; refine (CR.out wr (Below.refl _ _)).mono ?_; rintro e w2 ⟨rfl, hb2⟩))
        go_roundw
        case rel => exact ⟨j + 1, hjn, by go_num, Lib.hid (by rw [HCK.out]; simp), HBw.out.trans (hb2.mono HBw.out.size)⟩
        case measure => simp [intOf]; omega
      · have hne : (ck != 0) = true := bne_iff_ne.2 h0
        have HE := Lib.hid h0
        clear h0
        go_wp2_with (first
          | ((with_reducible refine wpList_ldCd (b := b) (off := o + j * 6) rfl (.tmp 15) rfl rfl H0.out ?_))
          | (go_at_call 24; have _t := H0; refine (CR.out wr (Below.refl _ _)).mono ?_; rintro e w2 ⟨rfl, hb2⟩; have H2 := Lib.hid (HC.out w2 hb2); have HB2 := Lib.hid hb2; clear H0 hb2)
          | ((with_reducible refine wpList_ldCd (b := b) (off := o + j * 6) rfl (.tmp 21) rfl rfl H2.out ?_))
          | (go_at_call 24; have _t := H2; refine (CR.out w2 HB2.out).mono ?_; rintro e w3 ⟨rfl, hb3⟩))
        go_ret
        refine ⟨ret_int ?_, HBw.out.trans ((HB2.out.trans (hb3.mono HB2.out.size)).mono HBw.out.size)⟩
        rw [HCK.out, if_pos HE.out]
    · obtain rfl : j = n := Nat.le_antisymm hj (Nat.le_of_not_lt hjn)
      have hz : chkL xs = 0 := by rw [hck.out, List.drop_of_length_le (Nat.le_of_eq HL.out)]; rfl
      have HZ := Lib.hid hz
      clear hz hck
      go_wp2
      go_ret
      exact ⟨ret_int HZ.out.symm, HBw.out⟩

/-- Is it more than is asked? -/
def FMuch (n : Nat) (xs : List Cd) (w : World) (e : Ending) (w' : World) : Prop := w = w' ∧ ∃ r, e = .returned (.bool r) ∧ (r = false → n ≤ 70 ∧ ∀ x ∈ xs, x.dt.length ≤ 200)
set_option maxHeartbeats 1000000 in
theorem FMuch_any (h : CdsV K w A n xs) (hn : n ≤ 9223372036854775807) (hd : ∀ x ∈ xs, x.dt.length ≤ 9223372036854775807) :
    Calls Try.prog 6 #[.slice A n c] w (FMuch n xs w) := by
  have H := Lib.hid h
  have HL := Lib.hid h.len
  have HD := Lib.hid hd
  clear h hd
  go_enter Try.func6, Try.ntmps6
  go_wp2
  go_loopw [3] (fun iv wr => ∃ j : Nat, j ≤ n ∧ j ≤ 100 ∧ iv = .int .i64 j ∧ w = wr ∧ ∀ (k : Nat) (x : Cd), k < j → xs[k]? = some x → x.dt.length ≤ 200) (fun iv _ => n - (intOf iv).toNat)
  case atStart => exact ⟨0, Nat.zero_le _, Nat.zero_le _, rfl, rfl, fun k x hk => absurd hk (Nat.not_lt_zero k)⟩
  case round =>
    obtain ⟨j, hj, hj1, rfl, rfl, hno⟩ := hrel
    by_cases hjn : j < n ∧ j < 100
    · obtain ⟨hjn, hj100⟩ := hjn
      obtain ⟨x, hx⟩ : ∃ x, xs[j]? = some x := ⟨_, List.getElem?_eq_getElem (by rw [HL.out]; exact hjn)⟩
      obtain ⟨b, o, A', m, cc, hA, hlt, hc, hr, hmc⟩ := H.out.cell hx
      have HA := Lib.hid hA
      subst hA
      have k5 := hc.c5
      have d100 : decide ((j : Int) < 100) = true := decide_eq_true (by omega)
      have hm := HD.out x (List.mem_of_getElem? hx)
      rw [hr.1] at hm
      have HX := Lib.hid hx
      have HM := Lib.hid hr.1
      have HNO := Lib.hid hno
      clear hc hr hx hno hmc
      by_cases h40 : 200 < m
      · have d40 : decide ((200 : Int) < (m : Int)) = true := decide_eq_true (by omega)
        go_wp2
        go_ret
        exact ⟨rfl, true, rfl, fun e => by cases e⟩
      · have d40 : decide ((200 : Int) < (m : Int)) = false := decide_eq_false (by omega)
        go_wp2
        go_roundw
        case rel =>
          refine ⟨j + 1, hjn, by omega, by go_num, by first | rfl | trivial, fun k y hk hy => ?_⟩
          by_cases e : k = j
          · subst e
            rw [HX.out] at hy
            injection hy with hy
            rw [← hy, HM.out]
            omega
          · exact HNO.out k y (by omega) hy
        case measure => simp [intOf]; omega
    · rcases Nat.lt_or_ge j n with h1 | h1
      · have d100 : decide ((j : Int) < 100) = false := decide_eq_false (by omega)
        have dn : decide ((70 : Int) < (n : Int)) = true := decide_eq_true (by omega)
        have HNO := Lib.hid hno
        clear hno
        go_wp2
        go_ret
        exact ⟨rfl, true, rfl, fun e => by cases e⟩
      · obtain rfl : j = n := Nat.le_antisymm hj h1
        have HNO := Lib.hid hno
        clear hno
        by_cases h60 : 70 < j
        · have dn : decide ((70 : Int) < (j : Int)) = true := decide_eq_true (by omega)
          go_wp2
          go_ret
          exact ⟨rfl, true, rfl, fun e => by cases e⟩
        · have dn : decide ((70 : Int) < (j : Int)) = false := decide_eq_false (by omega)
          go_wp2
          go_ret
          refine ⟨rfl, false, rfl, fun _ => ⟨by omega, fun x hx => ?_⟩⟩
          obtain ⟨k, hk, e⟩ := List.getElem_of_mem hx
          exact HNO.out k x (by rw [← HL.out]; exact hk) (by rw [List.getElem?_eq_getElem hk, e])

theorem cdsT : El Try.prog 22 47 (.agg #[.int .i64 0, .bool false, .int .i64 0, .int .i64 0, .int .i64 0, .slice none 0 0]) 6 64 := ⟨Try.underlying22, by kernel_rfl, rfl, by decide⟩
theorem cs_one (x : Cd) (A : Option Addr) (n c : Nat) : ∀ u ∈ [Value.int .i64 x.d, .bool x.lc, .int .i64 x.ix, .int .i64 x.gn, .int .i64 x.cp, .slice A n c], u.oneCell' = true := by
  intro u hu
  simp at hu
  rcases hu with rfl | rfl | rfl | rfl | rfl | rfl <;> rfl
set_option maxHeartbeats 2000000 in
/-- What counts of each. -/
theorem RFPlain_any (h : CdsV K w A n xs) (hn : n ≤ 1000000) :
    Calls Try.prog 17 #[.slice A n c] w fun e w' => ∃ A' c', e = .returned (.slice A' n c') ∧ CdsV (fun _ => True) w' A' n (xs.map Cd.plain) ∧ Below w.heap.size w w' := by
  have H := Lib.hid h
  have HL := Lib.hid h.len
  clear h
  go_enter Try.func17, Try.ntmps17
  go_wp2
  go_loopw [3, 4] (fun ov iv wr => ∃ (j : Nat) (vs : List Value) (D : Nat → Prop), j ≤ n ∧ iv = .int .i64 j ∧ Gr ECd 47 6 wr w.heap.size ov vs D ((xs.take j).map Cd.plain) ∧ Below w.heap.size w wr) (fun _ iv _ => n - (intOf iv).toNat)
  case atStart => exact ⟨0, [], fun _ => False, Nat.zero_le _, rfl, by simpa using Gr.start (E := ECd) (World.ownsRow_nil _ _ _ _) (Nat.le_refl _), Below.refl _ _⟩
  case round =>
    obtain ⟨j, vs, D, hj, rfl, hG, hb⟩ := hrel
    have HBw := Lib.hid hb
    have hlj : ((xs.take j).map Cd.plain).length = j := by have := HL.out; simp; omega
    by_cases hjn : j < n
    · obtain ⟨x, hx⟩ : ∃ x, xs[j]? = some x := ⟨_, List.getElem?_eq_getElem (by rw [HL.out]; exact hjn)⟩
      obtain ⟨b, o, A', m, cc, hA, hlt, hc, hr, hmc⟩ := (H.out.below hb).cell hx
      have hlo : ∀ b' o', A' = some ⟨b', o', none⟩ → 0 < m → b' < w.heap.size := fun b' o' e hp => by
        obtain ⟨b2, o2, A2, m2, c2, hA2, hlt2, hc2, hr2, _⟩ := H.out.cell hx
        have e1 := hc.c5
        rw [hA] at hA2
        injection hA2 with hA2
        injection hA2 with q1 q2
        subst q1 q2
        have e2 := (hc2.below hb hlt2).c5
        rw [e1] at e2
        injection e2 with e2
        injection e2 with e3 e4 e5
        subst e3 e4 e5
        exact hr2.lo b' o' e hp
      have CR := Lib.hid (RPlainL_any x A' m cc wr hr hmc)
      have H0 := Lib.hid hc
      have HM := Lib.hid hr.1
      have HX := Lib.hid (And.intro hx hlo)
      have HG := Lib.hid hG
      have HLJ := Lib.hid hlj
      subst hA
      clear hx hr hc hb hmc hlo hG hlj
      go_wp2_with (first
        | ((with_reducible refine wpList_ldCd (b := b) (off := o + j * 6) rfl (.tmp 14) rfl rfl H0.out ?_))
        | (go_at_call 30; refine CR.out.mono ?_; rintro e w10 ⟨A1, n1, c1, rfl, hr1, hc1, hb10, ho1⟩
           obtain ⟨w11, hw11⟩ : ∃ w11, w11 = w10.alloc (.cells (x.plain.cs A1 n1 c1) 47) := ⟨_, rfl⟩
           have hb11 : Below w10.heap.size w10 w11 := (by rw [hw11]; exact (Below.refl _ _).alloc (Nat.le_refl _) _)
           have HV11 : Hid (VRow (fun x => w10.heap.size ≤ x) w11 (some ⟨w10.heap.size, 0, none⟩) 1 6 (x.plain.cs A1 n1 c1).toList) := Lib.hid (by rw [hw11]; exact VRow.new w10 (x.plain.cs A1 n1 c1) _ 1 6 rfl)
           have G11 := Lib.hid (HG.out.below ECd.ok (hb10.trans (hb11.mono hb10.size)))
           have hlo1 : ∀ b' o', A1 = some ⟨b', o', none⟩ → 0 < n1 → b' < w.heap.size := fun b' o' e hp => by
             rcases ho1 with h1 | h1
             · rw [h1] at e; cases e
             · rw [h1] at e
               exact HX.out.2 b' o' e (by have := hr1.1; have := x.plain_dt; have := HM.out; omega)
           have HE11 := Lib.hid (show ECd (fun y => y < w.heap.size) w11 x.plain (x.plain.cs A1 n1 c1).toList from ⟨A1, n1, c1, rfl, ⟨A1, n1, c1, rfl, hr1.below (Nat.le_refl _) hb11, fun b' o' e hp => ⟨hlo1 b' o' e hp, by have := hlo1 b' o' e hp; have := HBw.out.size; have := hb10.size; have := hb11.size; omega⟩⟩, hc1⟩)
           have H11 := Lib.hid (hb10.trans (hb11.mono hb10.size))
           clear hr1 hc1 hb10 hb11 ho1 hlo1 CR H0)
        | (rw [← hw11]; clear hw11)
        | (at_builtin; refine wpList_appX cdsT rfl (.tmp 11) (.tmp 17) rfl w.heap.size _ j vs rfl (by have := G11.out.ow; rw [HLJ.out] at this; exact this) (some ⟨w10.heap.size, 0, none⟩) 1 1 (x.plain.cs A1 n1 c1).toList rfl HV11.out (cs_one _ _ _ _) (by omega) (by decide) G11.out.Bw ?_; intro v12 w12 ho12 hg12 hv12
           have G12 := Lib.hid (G11.out.put ECd.ok rfl HE11.out (fun y hy e => by have := own_geB G11.out.ow e; omega) (by rw [HLJ.out]; exact ho12) hg12 hv12)
           have F12 := Lib.hid (show Below w.heap.size wr w12 from (H11.out.mono HBw.out.size).trans ((Fr.grown (own := fun y => w.heap.size ≤ y) hg12 (fun x hx => (own_geB G11.out.ow hx).1)).toBelow (fun _ h => h) G11.out.Bw))
           clear ho12 hg12 hv12))
      go_roundw
      case rel =>
        refine ⟨j + 1, _, _, hjn, by go_num, (by have := G12.out; rw [show (xs.take j).map Cd.plain ++ [x.plain] = (xs.take (j + 1)).map Cd.plain by rw [List.take_add_one, HX.out.1]; simp] at this; exact this), HBw.out.trans F12.out⟩
      case measure => simp [intOf]; omega
    · obtain rfl : j = n := Nat.le_antisymm hj (Nat.le_of_not_lt hjn)
      have hes : xs.take j = xs := List.take_of_length_le (Nat.le_of_eq HL.out)
      rw [hes] at hG hlj
      obtain ⟨A2, c2, hov, _, _, hrw⟩ := hG.rows ECd.ok
      rw [hlj] at hov hrw
      subst hov
      have HRW := Lib.hid hrw
      clear hrw hG hlj hes
      go_wp2
      go_ret
      exact ⟨A2, c2, rfl, CdsV.mono HRW.out (fun _ _ => trivial), HBw.out⟩
end
end Go.Proofs.Ytlinafnhhnkjnaa
namespace Go.Proofs.Ytlinafnhhnkjnaa
open Go.RowKit
set_option linter.unusedVariables false

theorem intT : Try.prog.underlying 3 = some (.int .i64) := Try.underlying3

theorem grow_any (n : Nat) (w : World) (hn : n ≤ 1099511627776) :
    Calls Try.prog 52 #[.slice none 0 0, .int .i64 n] w fun e w' => ∃ v, e = .returned v ∧ w'.ownsRow w.heap.size 5 1 v 0 [] ∧ Below w.heap.size w w' := by
  by_cases h0 : n = 0
  · subst h0
    go_enter Try.func52, Try.ntmps52
    go_wp2
    go_ret
    exact ⟨_, rfl, World.ownsRow_nil _ _ _ _, Below.refl _ _⟩
  · obtain ⟨i, hi, hz, h1, h2⟩ := info_parts bytesT.info
    have hrun := fun ty => Lib.run_append_nil_zeros (P := Try.prog) w 25 3 ty 5 i (.int .u8 0) .i64 .i64 bytesT.und intT hi hz n (by omega) (by omega) (by omega) (by rw [h2]; omega)
    have HRUN := Lib.hid hrun
    have hge := grownCap_ge w n 0 5
    have hle := grownCap_le_maxLen w n 0 5 (by unfold maxLen; omega)
    obtain ⟨cap, hcap⟩ : ∃ cap, cap = grownCap w n 0 5 := ⟨_, rfl⟩
    rw [← hcap] at hge hle
    obtain ⟨C, hC⟩ : ∃ C, C = Builtin.zeroCells (Value.int .u8 0).cells n ++ Builtin.zeroCells (Value.int .u8 0).cells (cap - n) := ⟨_, rfl⟩
    have hCs : C.size = cap := by rw [hC]; simp [Builtin.zeroCells, Value.cells]; omega
    have hown : (w.drew.alloc (.cells C 5)).ownsRow w.heap.size 5 1 (.slice (some ⟨w.heap.size, 0, none⟩) 0 cap) 0 [] :=
      ⟨rfl, .inr ⟨w.heap.size, cap, C, rfl, Nat.le_refl _, heap_alloc_last w.drew _, Nat.zero_le _, hle, by omega, by simp⟩⟩
    have hbel : Below w.heap.size w (w.drew.alloc (.cells C 5)) := ((Below.refl _ _).drew).alloc (Nat.le_refl _) _
    obtain ⟨w2, hw2⟩ : ∃ w2, w2 = w.drew.alloc (.cells C 5) := ⟨_, rfl⟩
    have hrun2 : ∀ ty, (Builtin.append_ #[25, 3] ty #[.slice none 0 0, .int .i64 n]).run Try.prog w = .ok (.slice (some ⟨w.heap.size, 0, none⟩) n cap) w2 := fun ty => by
      have h := HRUN.out ty
      rw [← hcap, ← hC, ← hw2] at h
      exact h
    rw [← hw2] at hown hbel
    have HR2 := Lib.hid hrun2
    have HO := Lib.hid hown
    clear hrun hrun2 hown hw2 hC hCs hcap HRUN
    unfold maxLen at hle
    go_enter Try.func52, Try.ntmps52
    go_wp2_with (at_builtin; refine Lib.wpList_append_run w rfl (.tmp 20) (.tmp 21) 25 3 rfl _ _ rfl rfl _ w2 (HR2.out _) ?_)
    go_ret
    exact ⟨_, rfl, HO.out, hbel⟩

theorem concat_two (g : Nat) (A A' : Option Addr) (n c n' c' : Nat) (l l' : List UInt8) (w : World) (h0 : w.cell? ⟨g, 0, none⟩ = some (.slice A n c)) (h1 : w.cell? ⟨g, 1, none⟩ = some (.slice A' n' c'))
    (hr : Rd w A n l) (hr' : Rd w A' n' l') (hn : n ≤ 1073741824) (hn' : n' ≤ 1073741824) :
    Calls Try.prog 44 #[.slice (some ⟨g, 0, none⟩) 2 2] w fun e w' => ∃ v, e = .returned v ∧ w'.ownsRow w.heap.size 5 1 v (n + n') (cells (l ++ l')) ∧ Below w.heap.size w w' := by
  have hg : g < w.heap.size := by simpa using World.block_lt_of_cell? w _ h0
  have K : Hid (∀ W, Below w.heap.size w W → W.cell? ⟨g, 0, none⟩ = some (.slice A n c) ∧ W.cell? ⟨g, 1, none⟩ = some (.slice A' n' c') ∧ Rd W A n l ∧ Rd W A' n' l') := Lib.hid (fun W hW =>
    ⟨(hW.cell (p := ⟨g, 0, none⟩) hg).trans h0, (hW.cell (p := ⟨g, 1, none⟩) hg).trans h1, hr.below (Nat.le_refl _) hW, hr'.below (Nat.le_refl _) hW⟩)
  clear hr hr' hg
  have HG := Lib.hid (grow_any (n + n') w (by omega))
  go_enter Try.func44, Try.ntmps44
  go_wp2
  go_loop [3, 11] (fun s i => (i = .int .i64 0 ∧ s = .int .i64 0) ∨ (i = .int .i64 1 ∧ s = .int .i64 n) ∨ (i = .int .i64 2 ∧ s = .int .i64 ((n + n' : Nat) : Int))) (fun _ i => 2 - (intOf i).toNat)
  case atStart => exact .inl ⟨rfl, rfl⟩
  case round =>
    rcases hrel with ⟨rfl, rfl⟩ | ⟨rfl, rfl⟩ | ⟨rfl, rfl⟩
    · go_wp2
      go_round
      case rel => exact .inr (.inl ⟨rfl, by go_num⟩)
      case measure => simp [intOf]
    · go_wp2
      go_round
      case rel => exact .inr (.inr ⟨rfl, by go_num⟩)
      case measure => simp [intOf]
    · clear h0 h1
      go_wp2_with (go_at_call 52; refine HG.out.mono ?_; rintro e w1 ⟨v1, rfl, ho1, hb1⟩)
      go_loopw [6, 27] (fun v i wr => (i = .int .i64 0 ∧ wr.ownsRow w.heap.size 5 1 v 0 [] ∧ Below w.heap.size w wr) ∨ (i = .int .i64 1 ∧ wr.ownsRow w.heap.size 5 1 v n (cells l) ∧ Below w.heap.size w wr) ∨ (i = .int .i64 2 ∧ wr.ownsRow w.heap.size 5 1 v (n + n') (cells (l ++ l')) ∧ Below w.heap.size w wr)) (fun _ i _ => 2 - (intOf i).toNat)
      case atStart => exact .inl ⟨rfl, ho1, hb1⟩
      case round =>
        rcases hrel with ⟨rfl, ho, hb⟩ | ⟨rfl, ho, hb⟩ | ⟨rfl, ho, hb⟩
        · obtain ⟨k0, k1, r0, r1⟩ := K.out wr hb
          clear k1
          go_wp2_with (at_builtin; refine wpList_app _ bytesT rfl (.tmp 31) (.tmp 32) rfl w.heap.size _ 0 [] rfl ho A n c l rfl r0 (by omega) hb.size ?_; intro v2 w2 ho2 hb2; rw [Nat.zero_add, List.nil_append] at ho2)
          go_roundw
          case rel => exact .inr (.inl ⟨rfl, ho2, hb.trans hb2⟩)
          case measure => simp [intOf]
        · obtain ⟨k0, k1, r0, r1⟩ := K.out wr hb
          clear k0
          go_wp2_with (at_builtin; refine wpList_app _ bytesT rfl (.tmp 31) (.tmp 32) rfl w.heap.size _ n _ rfl ho A' n' c' l' rfl r1 (by omega) hb.size ?_; intro v2 w2 ho2 hb2; rw [← cells_append] at ho2)
          go_roundw
          case rel => exact .inr (.inr ⟨rfl, ho2, hb.trans hb2⟩)
          case measure => simp [intOf]
        · go_wp2
          go_ret
          exact ⟨_, rfl, ho, hb⟩
end Go.Proofs.Ytlinafnhhnkjnaa
namespace Go.Proofs.Ytlinafnhhnkjnaa
open Go.RowKit

theorem nearest_any (n lo hi : Int) (w : World) :
    Calls Try.prog 34 #[.int .i64 n, .int .i64 lo, .int .i64 hi] w fun e w' => e = .returned (.int .i64 (min (max n lo) hi)) ∧ w = w' := by
  go_enter Try.func34, Try.ntmps34
  go_wp2
  all_goals go_ret
  all_goals exact ⟨ret_int (by omega), rfl⟩
end Go.Proofs.Ytlinafnhhnkjnaa
namespace Go.Proofs.Ytlinafnhhnkjnaa
open Go.RowKit

theorem wide_any (n : Int) (w : World) :
    Calls Try.prog 32 #[.int .i64 n] w fun e w' => e = .returned (.int .i64 (min (max n 1) 8)) ∧ w = w' := by
  go_enter Try.func32, Try.ntmps32
  go_wp2
  all_goals go_ret
  all_goals exact ⟨ret_int (by omega), rfl⟩

theorem nearest_wd (n : Int) (w : World) : Calls Try.prog 34 #[.int .i64 n, .int .i64 1, .int .i64 8] w fun e w' => e = .returned (.int .i64 (wd n : Nat)) ∧ w = w' :=
  (nearest_any n 1 8 w).mono fun _ _ h => by rw [wd_cast]; exact h
theorem wide_wd (n : Int) (w : World) : Calls Try.prog 32 #[.int .i64 n] w fun e w' => e = .returned (.int .i64 (wd n : Nat)) ∧ w = w' :=
  (wide_any n w).mono fun _ _ h => by rw [wd_cast]; exact h
end Go.Proofs.Ytlinafnhhnkjnaa
namespace Go.Proofs.Ytlinafnhhnkjnaa
open Go.RowKit

theorem addNum_any (B : Nat) (v : Value) (m : Nat) (xs : List Value) (k : Nat) (n : Int) (w : World) (hB : B ≤ w.heap.size) (hown : w.ownsRow B 5 1 v m xs) (hk : k ≤ 8) (hm : m ≤ 1099511627776) :
    Calls Try.prog 35 #[v, .int .i64 k, .int .i64 n] w fun e w' => ∃ v', e = .returned v' ∧ w'.ownsRow B 5 1 v' (m + k) (xs ++ cells (numB k n)) ∧ Below B w w' := by
  go_enter Try.func35, Try.ntmps35
  go_wp2
  go_loopw [0, 9] (fun v i wr => ∃ j : Nat, j ≤ k ∧ i = .int .i64 j ∧ wr.ownsRow B 5 1 v (m + j) (xs ++ cells (numB j n)) ∧ Below B w wr) (fun _ i _ => k - (intOf i).toNat)
  case atStart => exact ⟨0, Nat.zero_le _, rfl, by simpa [numB_zero, cells_nil] using hown, Below.refl _ _⟩
  case round =>
    obtain ⟨j, hj, rfl, hown1, hb1⟩ := hrel
    by_cases hlt : j < k
    · have hR : Rd (wr.alloc (.cells #[.int .u8 (n / 2 ^ (8 * j) % 256)] 5)) (some ⟨wr.heap.size, 0, none⟩) 1 [byteOf n j] := by
        have := Rd.new wr 5 [byteOf n j] (0, 0)
        simpa [cells, byteOf_toNat] using this
      have hs := hb1.size
      go_wp2_with (at_builtin; refine wpList_app _ bytesT rfl (.tmp 12) (.tmp 18) rfl B _ (m + j) _ rfl (hown1.alloc _) _ 1 1 [byteOf n j] rfl hR (by omega) (by simp; omega) ?_; intro v2 w2 hown2 hb2)
      go_roundw
      case rel => exact ⟨j + 1, hlt, by go_num, by rw [numB_succ, cells_append, ← List.append_assoc]; exact hown2, (hb1.alloc (by omega) _).trans hb2⟩
      case measure => simp [intOf]; omega
    · go_wp2
      go_ret
      have : j = k := by omega
      subst this
      exact ⟨_, rfl, hown1, hb1⟩

theorem addNum_two (B : Nat) (v : Value) (m : Nat) (xs : List Value) (n : Int) (w : World) (hB : B ≤ w.heap.size) (hown : w.ownsRow B 5 1 v m xs) (hm : m ≤ 1099511627776) :
    Calls Try.prog 35 #[v, .int .i64 2, .int .i64 n] w fun e w' => ∃ v', e = .returned v' ∧ w'.ownsRow B 5 1 v' (m + 2) (xs ++ cells (numB 2 n)) ∧ Below B w w' :=
  addNum_any B v m xs 2 n w hB hown (by omega) hm
end Go.Proofs.Ytlinafnhhnkjnaa
namespace Go.Proofs.Ytlinafnhhnkjnaa
open Go.RowKit

theorem roomy_any (A : Option Addr) (n c : Nat) (l : List UInt8) (more : Int) (w : World) (hr : Rd w A n l) (h0 : 0 ≤ more) (h1 : more ≤ 1099511627776) (hn : n ≤ 1099511627776) :
    Calls Try.prog 36 #[.slice A n c, .int .i64 more] w fun e w' => ∃ v, e = .returned v ∧ w'.ownsRow w.heap.size 5 1 v n (cells l) ∧ Below w.heap.size w w' := by
  go_enter Try.func36, Try.ntmps36
  go_wp2_with (first
    | (at_make; refine wpList_mk _ bytesT rfl (.const (.int .i64 0)) (.tmp 8) rfl w.heap.size .i64 .i64 _ (n + more.toNat) rfl rfl (by omega) (by omega) (by unfold maxLen; omega) (by simp) ?_; intro v1 w1 hown1 hb1)
    | (at_builtin; refine wpList_app _ bytesT rfl (.tmp 9) (.tmp 10) rfl w.heap.size v1 0 [] rfl hown1 A n c l rfl (hr.below (Nat.le_refl _) hb1) (by omega) hb1.size ?_; intro v2 w2 hown2 hb2))
  go_ret
  exact ⟨_, rfl, by simpa using hown2, hb1.trans hb2⟩

theorem Put_any (A : Option Addr) (n c : Nat) (l : List UInt8) (width x : Int) (w : World) (hr : Rd w A n l) (hn : n ≤ 1073741824) :
    Calls Try.prog 21 #[.slice A n c, .int .i64 width, .int .i64 x] w fun e w' => ∃ v, e = .returned v ∧ w'.ownsRow w.heap.size 5 1 v (n + wd width) (cells (l ++ numB (wd width) x)) ∧ Below w.heap.size w w' := by
  have hw := wd_bd width
  go_enter Try.func21, Try.ntmps21
  go_wp2_with (first
    | (go_at_call 34; refine (nearest_wd _ _).mono ?_; rintro e w' ⟨rfl, rfl⟩)
    | (go_at_call 36; refine (roomy_any A n c l _ _ hr (by omega) (by omega) (by omega)).mono ?_; rintro e w1 ⟨v1, rfl, hown1, hb1⟩)
    | (go_at_call 35; refine (addNum_any w.heap.size v1 n (cells l) _ _ _ hb1.size hown1 (by omega) (by omega)).mono ?_; rintro e w2 ⟨v2, rfl, hown2, hb2⟩))
  go_ret
  exact ⟨_, rfl, by rw [cells_append]; exact hown2, hb1.trans hb2⟩

theorem Num_any (width x : Int) (w : World) :
    Calls Try.prog 19 #[.int .i64 width, .int .i64 x] w fun e w' => ∃ v, e = .returned v ∧ w'.ownsRow w.heap.size 5 1 v (wd width) (cells (numB (wd width) x)) ∧ Below w.heap.size w w' := by
  have hw := wd_bd width
  have h0 := rest64_bd x 0
  have e0 : IntKind.u64.wrap x = rest64 x 0 := by rw [rest64_zero, IntKind.wrap_u64]
  have E0 := Lib.hid e0
  clear e0
  go_enter Try.func19, Try.ntmps19
  go_wp2
  go_loopw [5, 6, 7] (fun v u i wr => ∃ j : Nat, j ≤ wd width ∧ i = .int .i64 j ∧ u = .int .u64 (rest64 x j) ∧ wr.ownsRow w.heap.size 5 1 v j (cells (numB j x)) ∧ Below w.heap.size w wr) (fun _ _ i _ => wd width - (intOf i).toNat)
  case atStart => exact ⟨0, Nat.zero_le _, rfl, by rw [← E0.out], World.ownsRow_nil _ _ _ _, Below.refl _ _⟩
  case round =>
    obtain ⟨j, hj, rfl, rfl, hown1, hb1⟩ := hrel
    have hs := hb1.size
    have hu := rest64_bd x j
    by_cases hlt : j < wd width
    · have hby := rest64_byte x j (by omega)
      have hR : Rd (wr.alloc (.cells #[.int .u8 (rest64 x j % 256)] 5)) (some ⟨wr.heap.size, 0, none⟩) 1 [byteOf x j] := by
        have := Rd.new wr 5 [byteOf x j] (0, 0)
        rw [hby]
        simpa [cells] using this
      have Hby := Lib.hid hby
      clear hby
      go_wp2_with (first
        | (go_at_call 32; refine (wide_wd _ _).mono ?_; rintro e w' ⟨rfl, rfl⟩)
        | (at_builtin; refine wpList_app _ bytesT rfl (.tmp 16) (.tmp 20) rfl w.heap.size _ j _ rfl (hown1.alloc _) _ 1 1 [byteOf x j] rfl hR (by omega) (by simp; omega) ?_; intro v2 w2 hown2 hb2))
      go_roundw
      case rel => exact ⟨j + 1, hlt, by go_num, by rw [rest64_succ], by rw [numB_succ, cells_append]; exact hown2, (hb1.alloc (by omega) _).trans hb2⟩
      case measure => simp [intOf]; omega
    · go_wp2_with (go_at_call 32; refine (wide_wd _ _).mono ?_; rintro e w' ⟨rfl, rfl⟩)
      go_ret
      have : j = wd width := by omega
      subst this
      exact ⟨_, rfl, hown1, hb1⟩
end Go.Proofs.Ytlinafnhhnkjnaa
