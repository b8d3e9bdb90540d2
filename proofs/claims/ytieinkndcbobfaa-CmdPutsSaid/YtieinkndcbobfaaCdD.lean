/- The contract of the reference's Exact (written by gen_cdd.py). -/
import Derived.Test.YtieinkndcbobfaaCdA
import Derived.Test.YtieinkndcbobfaaLe4s
namespace Go.Proofs.Ytieinkndcbobfaa
open Go.RowKit
set_option linter.unusedVariables false
set_option maxRecDepth 20000

theorem Exact_0 (d : Int) (lc : Bool) (ix gn cp : Int) (dt : List UInt8) (d' : Int) (lc' : Bool) (ix' : Int) (gn' : Int) (cp' : Int) (dt' : List UInt8) (A A' : Option Addr) (n c n' c' : Nat) (w : World) (h : Rd w A n dt) (h' : Rd w A' n' dt') (hne : ¬ d = d') :
    Calls Try.prog 10 #[.agg (Cd.cs ⟨d, lc, ix, gn, cp, dt⟩ A n c), .agg (Cd.cs ⟨d', lc', ix', gn', cp', dt'⟩ A' n' c')] w fun e w' => e = .returned (.bool false) ∧ Below w.heap.size w w' := by
  obtain ⟨w1, hw1⟩ : ∃ w1, w1 = (w.alloc (.cells (Cd.cs ⟨d, lc, ix, gn, cp, dt⟩ A n c) 26)).alloc (.cells (Cd.cs ⟨d', lc', ix', gn', cp', dt'⟩ A' n' c') 26) := ⟨_, rfl⟩
  have hb1 : Below w.heap.size w w1 := by rw [hw1]; exact ((Below.refl _ _).alloc (Nat.le_refl _) _).alloc (by simp) _
  have r1 : Rec 26 w1 w.heap.size (Cd.cs ⟨d, lc, ix, gn, cp, dt⟩ A n c) := by rw [hw1]; exact (Rec.new w _ _).under ((Below.refl _ _).alloc (Nat.le_refl _) _)
  have r2 : Rec 26 w1 (w.heap.size + 1) (Cd.cs ⟨d', lc', ix', gn', cp', dt'⟩ A' n' c') := by
    have := Rec.new (w.alloc (.cells (Cd.cs ⟨d, lc, ix, gn, cp, dt⟩ A n c) 26)) 26 (Cd.cs ⟨d', lc', ix', gn', cp', dt'⟩ A' n' c')
    rw [World.size_alloc] at this
    rw [hw1]; exact this
  have CS := Lib.hid (Same_any A A' n c n' c' dt dt' w1 (h.below (Nat.le_refl _) hb1) (h'.below (Nat.le_refl _) hb1))
  have a0 := r1.at_ 0
  have b0 := r2.at_ 0
  have a1 := r1.at_ 1
  have b1 := r2.at_ 1
  have a2 := r1.at_ 2
  have b2 := r2.at_ 2
  have a3 := r1.at_ 3
  have b3 := r2.at_ 3
  have a4 := r1.at_ 4
  have b4 := r2.at_ 4
  have a5 := r1.at_ 5
  have b5 := r2.at_ 5
  have e1 : decide (d = d') = false := decide_eq_false hne
  have e2 : (d == d') = false := by simpa using hne
  have HB := Lib.hid hb1
  clear h h' hb1 r1 r2 hne
  go_enter Try.func10, Try.ntmps10
  go_wp2_with (first
    | (rw [← hw1]; clear hw1)
    | (go_at_call 8; refine CS.out.mono ?_; rintro e w' ⟨rfl, rfl⟩))
  go_ret
  exact ⟨rfl, HB.out⟩

theorem Exact_1 (d : Int) (lc : Bool) (ix gn cp : Int) (dt : List UInt8) (lc' : Bool) (ix' : Int) (gn' : Int) (cp' : Int) (dt' : List UInt8) (A A' : Option Addr) (n c n' c' : Nat) (w : World) (h : Rd w A n dt) (h' : Rd w A' n' dt') (hne : ¬ lc = lc') :
    Calls Try.prog 10 #[.agg (Cd.cs ⟨d, lc, ix, gn, cp, dt⟩ A n c), .agg (Cd.cs ⟨d, lc', ix', gn', cp', dt'⟩ A' n' c')] w fun e w' => e = .returned (.bool false) ∧ Below w.heap.size w w' := by
  obtain ⟨w1, hw1⟩ : ∃ w1, w1 = (w.alloc (.cells (Cd.cs ⟨d, lc, ix, gn, cp, dt⟩ A n c) 26)).alloc (.cells (Cd.cs ⟨d, lc', ix', gn', cp', dt'⟩ A' n' c') 26) := ⟨_, rfl⟩
  have hb1 : Below w.heap.size w w1 := by rw [hw1]; exact ((Below.refl _ _).alloc (Nat.le_refl _) _).alloc (by simp) _
  have r1 : Rec 26 w1 w.heap.size (Cd.cs ⟨d, lc, ix, gn, cp, dt⟩ A n c) := by rw [hw1]; exact (Rec.new w _ _).under ((Below.refl _ _).alloc (Nat.le_refl _) _)
  have r2 : Rec 26 w1 (w.heap.size + 1) (Cd.cs ⟨d, lc', ix', gn', cp', dt'⟩ A' n' c') := by
    have := Rec.new (w.alloc (.cells (Cd.cs ⟨d, lc, ix, gn, cp, dt⟩ A n c) 26)) 26 (Cd.cs ⟨d, lc', ix', gn', cp', dt'⟩ A' n' c')
    rw [World.size_alloc] at this
    rw [hw1]; exact this
  have CS := Lib.hid (Same_any A A' n c n' c' dt dt' w1 (h.below (Nat.le_refl _) hb1) (h'.below (Nat.le_refl _) hb1))
  have a0 := r1.at_ 0
  have b0 := r2.at_ 0
  have a1 := r1.at_ 1
  have b1 := r2.at_ 1
  have a2 := r1.at_ 2
  have b2 := r2.at_ 2
  have a3 := r1.at_ 3
  have b3 := r2.at_ 3
  have a4 := r1.at_ 4
  have b4 := r2.at_ 4
  have a5 := r1.at_ 5
  have b5 := r2.at_ 5
  have e1 : decide (lc = lc') = false := decide_eq_false hne
  have e2 : (lc == lc') = false := by simpa using hne
  have HB := Lib.hid hb1
  clear h h' hb1 r1 r2 hne
  go_enter Try.func10, Try.ntmps10
  go_wp2_with (first
    | (rw [← hw1]; clear hw1)
    | (go_at_call 8; refine CS.out.mono ?_; rintro e w' ⟨rfl, rfl⟩))
  go_ret
  exact ⟨rfl, HB.out⟩

theorem Exact_2 (d : Int) (lc : Bool) (ix gn cp : Int) (dt : List UInt8) (ix' : Int) (gn' : Int) (cp' : Int) (dt' : List UInt8) (A A' : Option Addr) (n c n' c' : Nat) (w : World) (h : Rd w A n dt) (h' : Rd w A' n' dt') (hne : ¬ ix = ix') :
    Calls Try.prog 10 #[.agg (Cd.cs ⟨d, lc, ix, gn, cp, dt⟩ A n c), .agg (Cd.cs ⟨d, lc, ix', gn', cp', dt'⟩ A' n' c')] w fun e w' => e = .returned (.bool false) ∧ Below w.heap.size w w' := by
  obtain ⟨w1, hw1⟩ : ∃ w1, w1 = (w.alloc (.cells (Cd.cs ⟨d, lc, ix, gn, cp, dt⟩ A n c) 26)).alloc (.cells (Cd.cs ⟨d, lc, ix', gn', cp', dt'⟩ A' n' c') 26) := ⟨_, rfl⟩
  have hb1 : Below w.heap.size w w1 := by rw [hw1]; exact ((Below.refl _ _).alloc (Nat.le_refl _) _).alloc (by simp) _
  have r1 : Rec 26 w1 w.heap.size (Cd.cs ⟨d, lc, ix, gn, cp, dt⟩ A n c) := by rw [hw1]; exact (Rec.new w _ _).under ((Below.refl _ _).alloc (Nat.le_refl _) _)
  have r2 : Rec 26 w1 (w.heap.size + 1) (Cd.cs ⟨d, lc, ix', gn', cp', dt'⟩ A' n' c') := by
    have := Rec.new (w.alloc (.cells (Cd.cs ⟨d, lc, ix, gn, cp, dt⟩ A n c) 26)) 26 (Cd.cs ⟨d, lc, ix', gn', cp', dt'⟩ A' n' c')
    rw [World.size_alloc] at this
    rw [hw1]; exact this
  have CS := Lib.hid (Same_any A A' n c n' c' dt dt' w1 (h.below (Nat.le_refl _) hb1) (h'.below (Nat.le_refl _) hb1))
  have a0 := r1.at_ 0
  have b0 := r2.at_ 0
  have a1 := r1.at_ 1
  have b1 := r2.at_ 1
  have a2 := r1.at_ 2
  have b2 := r2.at_ 2
  have a3 := r1.at_ 3
  have b3 := r2.at_ 3
  have a4 := r1.at_ 4
  have b4 := r2.at_ 4
  have a5 := r1.at_ 5
  have b5 := r2.at_ 5
  have e1 : decide (ix = ix') = false := decide_eq_false hne
  have e2 : (ix == ix') = false := by simpa using hne
  have HB := Lib.hid hb1
  clear h h' hb1 r1 r2 hne
  go_enter Try.func10, Try.ntmps10
  go_wp2_with (first
    | (rw [← hw1]; clear hw1)
    | (go_at_call 8; refine CS.out.mono ?_; rintro e w' ⟨rfl, rfl⟩))
  go_ret
  exact ⟨rfl, HB.out⟩

theorem Exact_3 (d : Int) (lc : Bool) (ix gn cp : Int) (dt : List UInt8) (gn' : Int) (cp' : Int) (dt' : List UInt8) (A A' : Option Addr) (n c n' c' : Nat) (w : World) (h : Rd w A n dt) (h' : Rd w A' n' dt') (hne : ¬ gn = gn') :
    Calls Try.prog 10 #[.agg (Cd.cs ⟨d, lc, ix, gn, cp, dt⟩ A n c), .agg (Cd.cs ⟨d, lc, ix, gn', cp', dt'⟩ A' n' c')] w fun e w' => e = .returned (.bool false) ∧ Below w.heap.size w w' := by
  obtain ⟨w1, hw1⟩ : ∃ w1, w1 = (w.alloc (.cells (Cd.cs ⟨d, lc, ix, gn, cp, dt⟩ A n c) 26)).alloc (.cells (Cd.cs ⟨d, lc, ix, gn', cp', dt'⟩ A' n' c') 26) := ⟨_, rfl⟩
  have hb1 : Below w.heap.size w w1 := by rw [hw1]; exact ((Below.refl _ _).alloc (Nat.le_refl _) _).alloc (by simp) _
  have r1 : Rec 26 w1 w.heap.size (Cd.cs ⟨d, lc, ix, gn, cp, dt⟩ A n c) := by rw [hw1]; exact (Rec.new w _ _).under ((Below.refl _ _).alloc (Nat.le_refl _) _)
  have r2 : Rec 26 w1 (w.heap.size + 1) (Cd.cs ⟨d, lc, ix, gn', cp', dt'⟩ A' n' c') := by
    have := Rec.new (w.alloc (.cells (Cd.cs ⟨d, lc, ix, gn, cp, dt⟩ A n c) 26)) 26 (Cd.cs ⟨d, lc, ix, gn', cp', dt'⟩ A' n' c')
    rw [World.size_alloc] at this
    rw [hw1]; exact this
  have CS := Lib.hid (Same_any A A' n c n' c' dt dt' w1 (h.below (Nat.le_refl _) hb1) (h'.below (Nat.le_refl _) hb1))
  have a0 := r1.at_ 0
  have b0 := r2.at_ 0
  have a1 := r1.at_ 1
  have b1 := r2.at_ 1
  have a2 := r1.at_ 2
  have b2 := r2.at_ 2
  have a3 := r1.at_ 3
  have b3 := r2.at_ 3
  have a4 := r1.at_ 4
  have b4 := r2.at_ 4
  have a5 := r1.at_ 5
  have b5 := r2.at_ 5
  have e1 : decide (gn = gn') = false := decide_eq_false hne
  have e2 : (gn == gn') = false := by simpa using hne
  have HB := Lib.hid hb1
  clear h h' hb1 r1 r2 hne
  go_enter Try.func10, Try.ntmps10
  go_wp2_with (first
    | (rw [← hw1]; clear hw1)
    | (go_at_call 8; refine CS.out.mono ?_; rintro e w' ⟨rfl, rfl⟩))
  go_ret
  exact ⟨rfl, HB.out⟩

theorem Exact_4 (d : Int) (lc : Bool) (ix gn cp : Int) (dt : List UInt8) (cp' : Int) (dt' : List UInt8) (A A' : Option Addr) (n c n' c' : Nat) (w : World) (h : Rd w A n dt) (h' : Rd w A' n' dt') (hne : ¬ cp = cp') :
    Calls Try.prog 10 #[.agg (Cd.cs ⟨d, lc, ix, gn, cp, dt⟩ A n c), .agg (Cd.cs ⟨d, lc, ix, gn, cp', dt'⟩ A' n' c')] w fun e w' => e = .returned (.bool false) ∧ Below w.heap.size w w' := by
  obtain ⟨w1, hw1⟩ : ∃ w1, w1 = (w.alloc (.cells (Cd.cs ⟨d, lc, ix, gn, cp, dt⟩ A n c) 26)).alloc (.cells (Cd.cs ⟨d, lc, ix, gn, cp', dt'⟩ A' n' c') 26) := ⟨_, rfl⟩
  have hb1 : Below w.heap.size w w1 := by rw [hw1]; exact ((Below.refl _ _).alloc (Nat.le_refl _) _).alloc (by simp) _
  have r1 : Rec 26 w1 w.heap.size (Cd.cs ⟨d, lc, ix, gn, cp, dt⟩ A n c) := by rw [hw1]; exact (Rec.new w _ _).under ((Below.refl _ _).alloc (Nat.le_refl _) _)
  have r2 : Rec 26 w1 (w.heap.size + 1) (Cd.cs ⟨d, lc, ix, gn, cp', dt'⟩ A' n' c') := by
    have := Rec.new (w.alloc (.cells (Cd.cs ⟨d, lc, ix, gn, cp, dt⟩ A n c) 26)) 26 (Cd.cs ⟨d, lc, ix, gn, cp', dt'⟩ A' n' c')
    rw [World.size_alloc] at this
    rw [hw1]; exact this
  have CS := Lib.hid (Same_any A A' n c n' c' dt dt' w1 (h.below (Nat.le_refl _) hb1) (h'.below (Nat.le_refl _) hb1))
  have a0 := r1.at_ 0
  have b0 := r2.at_ 0
  have a1 := r1.at_ 1
  have b1 := r2.at_ 1
  have a2 := r1.at_ 2
  have b2 := r2.at_ 2
  have a3 := r1.at_ 3
  have b3 := r2.at_ 3
  have a4 := r1.at_ 4
  have b4 := r2.at_ 4
  have a5 := r1.at_ 5
  have b5 := r2.at_ 5
  have e1 : decide (cp = cp') = false := decide_eq_false hne
  have e2 : (cp == cp') = false := by simpa using hne
  have HB := Lib.hid hb1
  clear h h' hb1 r1 r2 hne
  go_enter Try.func10, Try.ntmps10
  go_wp2_with (first
    | (rw [← hw1]; clear hw1)
    | (go_at_call 8; refine CS.out.mono ?_; rintro e w' ⟨rfl, rfl⟩))
  go_ret
  exact ⟨rfl, HB.out⟩

theorem Exact_5 (d : Int) (lc : Bool) (ix gn cp : Int) (dt : List UInt8)  (dt' : List UInt8) (A A' : Option Addr) (n c n' c' : Nat) (w : World) (h : Rd w A n dt) (h' : Rd w A' n' dt')  :
    Calls Try.prog 10 #[.agg (Cd.cs ⟨d, lc, ix, gn, cp, dt⟩ A n c), .agg (Cd.cs ⟨d, lc, ix, gn, cp, dt'⟩ A' n' c')] w fun e w' => e = .returned (.bool (decide (dt = dt'))) ∧ Below w.heap.size w w' := by
  obtain ⟨w1, hw1⟩ : ∃ w1, w1 = (w.alloc (.cells (Cd.cs ⟨d, lc, ix, gn, cp, dt⟩ A n c) 26)).alloc (.cells (Cd.cs ⟨d, lc, ix, gn, cp, dt'⟩ A' n' c') 26) := ⟨_, rfl⟩
  have hb1 : Below w.heap.size w w1 := by rw [hw1]; exact ((Below.refl _ _).alloc (Nat.le_refl _) _).alloc (by simp) _
  have r1 : Rec 26 w1 w.heap.size (Cd.cs ⟨d, lc, ix, gn, cp, dt⟩ A n c) := by rw [hw1]; exact (Rec.new w _ _).under ((Below.refl _ _).alloc (Nat.le_refl _) _)
  have r2 : Rec 26 w1 (w.heap.size + 1) (Cd.cs ⟨d, lc, ix, gn, cp, dt'⟩ A' n' c') := by
    have := Rec.new (w.alloc (.cells (Cd.cs ⟨d, lc, ix, gn, cp, dt⟩ A n c) 26)) 26 (Cd.cs ⟨d, lc, ix, gn, cp, dt'⟩ A' n' c')
    rw [World.size_alloc] at this
    rw [hw1]; exact this
  have CS := Lib.hid (Same_any A A' n c n' c' dt dt' w1 (h.below (Nat.le_refl _) hb1) (h'.below (Nat.le_refl _) hb1))
  have a0 := r1.at_ 0
  have b0 := r2.at_ 0
  have a1 := r1.at_ 1
  have b1 := r2.at_ 1
  have a2 := r1.at_ 2
  have b2 := r2.at_ 2
  have a3 := r1.at_ 3
  have b3 := r2.at_ 3
  have a4 := r1.at_ 4
  have b4 := r2.at_ 4
  have a5 := r1.at_ 5
  have b5 := r2.at_ 5
  have HB := Lib.hid hb1
  clear h h' hb1 r1 r2
  go_enter Try.func10, Try.ntmps10
  go_wp2_with (first
    | (rw [← hw1]; clear hw1)
    | (go_at_call 8; refine CS.out.mono ?_; rintro e w' ⟨rfl, rfl⟩))
  go_ret
  exact ⟨rfl, HB.out⟩

theorem Exact_any (x y : Cd) (A A' : Option Addr) (n c n' c' : Nat) (w : World) (h : Rd w A n x.dt) (h' : Rd w A' n' y.dt) :
    Calls Try.prog 10 #[.agg (x.cs A n c), .agg (y.cs A' n' c')] w fun e w' => e = .returned (.bool (x.eqB y)) ∧ Below w.heap.size w w' := by
  obtain ⟨d, lc, ix, gn, cp, dt⟩ := x
  obtain ⟨d', lc', ix', gn', cp', dt'⟩ := y
  unfold Cd.eqB
  by_cases h0 : d = d'
  · subst h0
    by_cases h1 : lc = lc'
    · subst h1
      by_cases h2 : ix = ix'
      · subst h2
        by_cases h3 : gn = gn'
        · subst h3
          by_cases h4 : cp = cp'
          · subst h4
            simpa using Exact_5 d lc ix gn cp dt dt' A A' n c n' c' w h h'
          · simpa [h4] using Exact_4 d lc ix gn cp dt cp' dt' A A' n c n' c' w h h' h4
        · simpa [h3] using Exact_3 d lc ix gn cp dt gn' cp' dt' A A' n c n' c' w h h' h3
      · simpa [h2] using Exact_2 d lc ix gn cp dt ix' gn' cp' dt' A A' n c n' c' w h h' h2
    · simpa [h1] using Exact_1 d lc ix gn cp dt lc' ix' gn' cp' dt' A A' n c n' c' w h h' h1
  · simpa [h0] using Exact_0 d lc ix gn cp dt d' lc' ix' gn' cp' dt' A A' n c n' c' w h h' h0
end Go.Proofs.Ytieinkndcbobfaa
