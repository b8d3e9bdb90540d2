/- The contracts of part's Head and of the document's. -/
import Derived.Test.YtndnmcdbfjgglaaPtA
namespace Go.Proofs.Ytndnmcdbfjgglaa
open Go.RowKit
set_option linter.unusedVariables false
set_option maxRecDepth 20000
section
variable (A : Option Addr) (n c : Nat) (l : List UInt8) (w : World)
theorem PHead_any (hr : Rd w A n l) (hc : n ≤ c) (hn : n ≤ 1000000) :
    Calls Try.prog 13 #[.slice A n c] w fun e w' => e = .returned (hdT l) ∧ w = w' := by
  have hl := hr.1
  by_cases h0 : 12 ≤ n ∧ n ≤ 472
  · have d0 := decide_eq_true (show (12 : Int) ≤ (n : Int) ∧ (n : Int) ≤ 472 by omega)
    have C1 := Lib.hid (pget0 A n c l w hr hc hn h0.1)
    have C2 := Lib.hid (pget2 A n c l w hr hc hn h0.1)
    have C3 := Lib.hid (pget4 A n c l w hr hc hn h0.1)
    have hT : HdOk l ↔ ((1 ≤ cnt l ∧ cnt l ≤ 1024) ∧ plc l < cnt l ∧ (0 ≤ sqn l ∧ sqn l ≤ 281474976710656)) := by
      unfold HdOk
      rw [hl]
      exact ⟨fun h => h.2, fun h => ⟨h0, h⟩⟩
    have HT := Lib.hid hT
    unfold hdT
    clear hr hT hl h0
    generalize hpv : plc l = pv at *
    generalize hcv : cnt l = cv at *
    generalize hsv : sqn l = sv at *
    clear hpv hcv hsv
    by_cases h1 : 1 ≤ cv ∧ cv ≤ 1024
    · have d1 := decide_eq_true h1
      by_cases h2 : pv < cv
      · have e2 : decide (cv ≤ pv) = false := decide_eq_false (by omega)
        by_cases h3 : 0 ≤ sv ∧ sv ≤ 281474976710656
        · have d3 := decide_eq_true h3
          rw [if_pos (HT.out.2 ⟨h1, h2, h3⟩)]
          clear HT h1 h3
          go_enter Try.func13, Try.ntmps13
          go_wp2_with (first
            | (go_at_call 22; have _t := d0; refine (pwithin_any _ _ _ _).mono ?_; rintro e w' ⟨rfl, rfl⟩; rw [d0]; clear d0)
            | (go_at_call 23; have _t := C1; refine C1.out.mono ?_; rintro e w' ⟨rfl, rfl⟩; clear C1)
            | (go_at_call 23; have _t := C2; refine C2.out.mono ?_; rintro e w' ⟨rfl, rfl⟩; clear C2)
            | (go_at_call 23; have _t := C3; refine C3.out.mono ?_; rintro e w' ⟨rfl, rfl⟩; clear C3)
            | (go_at_call 22; have _t := d1; refine (pwithin_any _ _ _ _).mono ?_; rintro e w' ⟨rfl, rfl⟩; rw [d1]; clear d1)
            | (go_at_call 22; have _t := d3; refine (pwithin_any _ _ _ _).mono ?_; rintro e w' ⟨rfl, rfl⟩; rw [d3]; clear d3))
          refine bodyPost_ret (results_tmp4 rfl _ _ _) rfl ?_
          exact ⟨rfl, rfl⟩
        · have d3 := decide_eq_false h3
          rw [if_neg (fun q => h3 (HT.out.1 q).2.2)]
          clear HT h1 h3
          go_enter Try.func13, Try.ntmps13
          go_wp2_with (first
            | (go_at_call 22; have _t := d0; refine (pwithin_any _ _ _ _).mono ?_; rintro e w' ⟨rfl, rfl⟩; rw [d0]; clear d0)
            | (go_at_call 23; have _t := C1; refine C1.out.mono ?_; rintro e w' ⟨rfl, rfl⟩; clear C1)
            | (go_at_call 23; have _t := C2; refine C2.out.mono ?_; rintro e w' ⟨rfl, rfl⟩; clear C2)
            | (go_at_call 23; have _t := C3; refine C3.out.mono ?_; rintro e w' ⟨rfl, rfl⟩; clear C3)
            | (go_at_call 22; have _t := d1; refine (pwithin_any _ _ _ _).mono ?_; rintro e w' ⟨rfl, rfl⟩; rw [d1]; clear d1)
            | (go_at_call 22; have _t := d3; refine (pwithin_any _ _ _ _).mono ?_; rintro e w' ⟨rfl, rfl⟩; rw [d3]; clear d3))
          refine bodyPost_ret (results_tmp4 rfl _ _ _) rfl ?_
          exact ⟨rfl, rfl⟩
      · have e2 : decide (cv ≤ pv) = true := decide_eq_true (by omega)
        rw [if_neg (fun q => h2 (HT.out.1 q).2.1)]
        clear HT h1
        go_enter Try.func13, Try.ntmps13
        go_wp2_with (first
          | (go_at_call 22; have _t := d0; refine (pwithin_any _ _ _ _).mono ?_; rintro e w' ⟨rfl, rfl⟩; rw [d0]; clear d0)
          | (go_at_call 23; have _t := C1; refine C1.out.mono ?_; rintro e w' ⟨rfl, rfl⟩; clear C1)
          | (go_at_call 23; have _t := C2; refine C2.out.mono ?_; rintro e w' ⟨rfl, rfl⟩; clear C2)
          | (go_at_call 23; have _t := C3; refine C3.out.mono ?_; rintro e w' ⟨rfl, rfl⟩; clear C3)
          | (go_at_call 22; have _t := d1; refine (pwithin_any _ _ _ _).mono ?_; rintro e w' ⟨rfl, rfl⟩; rw [d1]; clear d1))
        refine bodyPost_ret (results_tmp4 rfl _ _ _) rfl ?_
        exact ⟨rfl, rfl⟩
    · have d1 := decide_eq_false h1
      rw [if_neg (fun q => h1 (HT.out.1 q).1)]
      clear HT h1
      go_enter Try.func13, Try.ntmps13
      go_wp2_with (first
        | (go_at_call 22; have _t := d0; refine (pwithin_any _ _ _ _).mono ?_; rintro e w' ⟨rfl, rfl⟩; rw [d0]; clear d0)
        | (go_at_call 23; have _t := C1; refine C1.out.mono ?_; rintro e w' ⟨rfl, rfl⟩; clear C1)
        | (go_at_call 23; have _t := C2; refine C2.out.mono ?_; rintro e w' ⟨rfl, rfl⟩; clear C2)
        | (go_at_call 23; have _t := C3; refine C3.out.mono ?_; rintro e w' ⟨rfl, rfl⟩; clear C3)
        | (go_at_call 22; have _t := d1; refine (pwithin_any _ _ _ _).mono ?_; rintro e w' ⟨rfl, rfl⟩; rw [d1]; clear d1))
      refine bodyPost_ret (results_tmp4 rfl _ _ _) rfl ?_
      exact ⟨rfl, rfl⟩
  · have d0 := decide_eq_false (show ¬ ((12 : Int) ≤ (n : Int) ∧ (n : Int) ≤ 472) by omega)
    have hT : ¬ HdOk l := fun h => h0 (by rw [← hl]; exact h.1)
    unfold hdT
    rw [if_neg hT]
    clear hr hT hl h0
    go_enter Try.func13, Try.ntmps13
    go_wp2_with (go_at_call 22; refine (pwithin_any _ _ _ _).mono ?_; rintro e w' ⟨rfl, rfl⟩; rw [d0])
    refine bodyPost_ret (results_tmp4 rfl _ _ _) rfl ?_
    exact ⟨rfl, rfl⟩
/-- The document's Head. -/
theorem RPHead_any (hr : Rd w A n l) (hn : n ≤ 1000000) :
    Calls Try.prog 14 #[.slice A n c] w fun e w' => e = .returned (hdT l) ∧ w = w' := by
  have hl := hr.1
  by_cases h0 : 12 ≤ n ∧ n ≤ 472
  · have C1 := Lib.hid (rget0 A n c l w hr hn h0.1)
    have C2 := Lib.hid (rget2 A n c l w hr hn h0.1)
    have C3 := Lib.hid (rget4 A n c l w hr hn h0.1)
    have hT : HdOk l ↔ ((1 ≤ cnt l ∧ cnt l ≤ 1024) ∧ plc l < cnt l ∧ (0 ≤ sqn l ∧ sqn l ≤ 281474976710656)) := by
      unfold HdOk
      rw [hl]
      exact ⟨fun h => h.2, fun h => ⟨h0, h⟩⟩
    have HT := Lib.hid hT
    unfold hdT
    clear hr hT hl
    generalize hpv : plc l = pv at *
    generalize hcv : cnt l = cv at *
    generalize hsv : sqn l = sv at *
    clear hpv hcv hsv
    by_cases h1 : cv < 1
    · have e1 : decide (cv < 1) = true := decide_eq_true h1
      rw [if_neg (fun q => by have := (HT.out.1 q).1.1; omega)]
      clear HT
      go_enter Try.func14, Try.ntmps14
      go_wp2_with (first
        | (go_at_call 24; have _t := C1; refine C1.out.mono ?_; rintro e w' ⟨rfl, rfl⟩; clear C1)
        | (go_at_call 24; have _t := C2; refine C2.out.mono ?_; rintro e w' ⟨rfl, rfl⟩; clear C2)
        | (go_at_call 24; have _t := C3; refine C3.out.mono ?_; rintro e w' ⟨rfl, rfl⟩; clear C3))
      refine bodyPost_ret (results_tmp4 rfl _ _ _) rfl ?_
      exact ⟨rfl, rfl⟩
    · have e1 : decide (cv < 1) = false := decide_eq_false h1
      by_cases h1' : 1024 < cv
      · have e1' : decide (1024 < cv) = true := decide_eq_true h1'
        rw [if_neg (fun q => by have := (HT.out.1 q).1.2; omega)]
        clear HT
        go_enter Try.func14, Try.ntmps14
        go_wp2_with (first
          | (go_at_call 24; have _t := C1; refine C1.out.mono ?_; rintro e w' ⟨rfl, rfl⟩; clear C1)
          | (go_at_call 24; have _t := C2; refine C2.out.mono ?_; rintro e w' ⟨rfl, rfl⟩; clear C2)
          | (go_at_call 24; have _t := C3; refine C3.out.mono ?_; rintro e w' ⟨rfl, rfl⟩; clear C3))
        refine bodyPost_ret (results_tmp4 rfl _ _ _) rfl ?_
        exact ⟨rfl, rfl⟩
      · have e1' : decide (1024 < cv) = false := decide_eq_false h1'
        by_cases h2 : cv ≤ pv
        · have e2 : decide (cv ≤ pv) = true := decide_eq_true h2
          rw [if_neg (fun q => by have := (HT.out.1 q).2.1; omega)]
          clear HT
          go_enter Try.func14, Try.ntmps14
          go_wp2_with (first
            | (go_at_call 24; have _t := C1; refine C1.out.mono ?_; rintro e w' ⟨rfl, rfl⟩; clear C1)
            | (go_at_call 24; have _t := C2; refine C2.out.mono ?_; rintro e w' ⟨rfl, rfl⟩; clear C2)
            | (go_at_call 24; have _t := C3; refine C3.out.mono ?_; rintro e w' ⟨rfl, rfl⟩; clear C3))
          refine bodyPost_ret (results_tmp4 rfl _ _ _) rfl ?_
          exact ⟨rfl, rfl⟩
        · have e2 : decide (cv ≤ pv) = false := decide_eq_false h2
          obtain ⟨q, hq⟩ : ∃ q, q = decide (Plc sv) := ⟨_, rfl⟩
          have HQ := Lib.hid hq
          clear hq
          cases q
          all_goals
            first
              | rw [if_pos (HT.out.2 ⟨by omega, by omega, of_decide_eq_true HQ.out.symm⟩)]
              | rw [if_neg (fun k => of_decide_eq_false HQ.out.symm (HT.out.1 k).2.2)]
            clear HT
            go_enter Try.func14, Try.ntmps14
            go_wp2_with (first
              | (go_at_call 24; have _t := C1; refine C1.out.mono ?_; rintro e w' ⟨rfl, rfl⟩; clear C1)
              | (go_at_call 24; have _t := C2; refine C2.out.mono ?_; rintro e w' ⟨rfl, rfl⟩; clear C2)
              | (go_at_call 24; have _t := C3; refine C3.out.mono ?_; rintro e w' ⟨rfl, rfl⟩; clear C3)
              | (go_at_call 25; refine (Place_yes _ _).mono ?_; rintro e w' ⟨rfl, rfl⟩; rw [← HQ.out]))
            refine bodyPost_ret (results_tmp4 rfl _ _ _) rfl ?_
            exact ⟨rfl, rfl⟩
  · have hT : ¬ HdOk l := fun h => h0 (by rw [← hl]; exact h.1)
    unfold hdT
    rw [if_neg hT]
    clear hr hT hl
    by_cases h1 : n < 12
    all_goals
      go_enter Try.func14, Try.ntmps14
      go_wp2
      refine bodyPost_ret (results_tmp4 rfl _ _ _) rfl ?_
      exact ⟨rfl, rfl⟩
end
end Go.Proofs.Ytndnmcdbfjgglaa
