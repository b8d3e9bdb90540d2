/- The contracts of the reference of geom: what lies where. Written by wip/tools/gen_gm.py. -/
import Derived.Test.YtabmaiphjcbfbaaGm1
import Derived.Test.YtabmaiphjcbfbaaCm6
import Derived.BigQuiet
import Derived.Deep.QuietTactic
namespace Go.Proofs.Ytabmaiphjcbfbaa
open Go.RowKit
set_option linter.unusedVariables false
set_option maxHeartbeats 1000000

section
variable (lg pg en gn : Int) (A : Option Addr) (n cap : Nat) (ks : List Kd) (w : World)

/-- What the reference tells of a layout is R. -/
def GRr (R : Bool) : Prop := ∀ W, KRd W A n ks → Calls Try.prog 20 #[cv lg pg en gn A n cap] W fun e w' => e = .returned (.bool R) ∧ Below W.heap.size W w'

theorem RLog_any (h : KRd w A n ks) {R : Bool} (cR : GRr lg pg en gn A n cap ks R) (hb : R = true → (2 ≤ lg ∧ lg ≤ 1024) ∧ (4 ≤ pg ∧ pg ≤ 1024)) (z : Int) :
    Calls Try.prog 13 #[cv lg pg en gn A n cap, .int .i64 z] w fun e w' => e = .returned (.int .i64 (logZ R lg z)) ∧ Below w.heap.size w w' := by
  cases R
  · rw [show logZ false lg z = -1 by simp [logZ]]
    obtain ⟨w1, hw1⟩ : ∃ w1, w1 = w.alloc (.cells (cc lg pg en gn A n cap) 24) := ⟨_, rfl⟩
    have C1 := CAt.new h lg pg en gn cap
    rw [← hw1] at C1
    obtain ⟨g, hg⟩ : ∃ g, g = w.heap.size := ⟨_, rfl⟩
    rw [← hg] at C1
    have c0 := C1.c0
    have c1 := C1.c1
    have c2 := C1.c2
    have c3 := C1.c3
    have c4 := C1.c4
    have K1 := Lib.hid C1
    have HG := Lib.hid hg
    clear h hg C1
    have CR := Lib.hid cR
    go_enter Try.func13, Try.ntmps13
    go_wp2_with (first
      | (rw [← hw1, ← HG.out]; clear hw1)
      | (go_at_call 20; refine (CR.out w1 K1.out.rd).mono ?_; rintro e w2 ⟨rfl, hb2⟩; have K2 := Lib.hid (K1.out.next hb2); have c02 := K2.out.c0; have c12 := K2.out.c1; have c22 := K2.out.c2; have c32 := K2.out.c3; have c42 := K2.out.c4; clear hb2))
    go_ret
    exact ⟨rfl, K2.out.bel⟩
  · obtain ⟨⟨hl2, hl1⟩, _⟩ := hb rfl
    by_cases hp : Plc z
    · rw [show logZ true lg z = 2 + z.tmod lg by unfold logZ; rw [if_pos ⟨rfl, hp⟩]]
      have d := decide_eq_true hp
      have hq := tmod_in z lg hp.1 hl2
      have hqm := tmod_of z lg
      have hq0 : 0 ≤ z.tdiv lg := Int.tdiv_nonneg hp.1 (by omega)
      have hq1 : z.tdiv lg ≤ z := by rw [Int.tdiv_eq_ediv_of_nonneg hp.1]; exact Int.ediv_le_self _ hp.1
      have hl0 : lg ≠ 0 := by omega
      obtain ⟨hz0, hz1⟩ := hp
      obtain ⟨w1, hw1⟩ : ∃ w1, w1 = w.alloc (.cells (cc lg pg en gn A n cap) 24) := ⟨_, rfl⟩
      have C1 := CAt.new h lg pg en gn cap
      rw [← hw1] at C1
      obtain ⟨g, hg⟩ : ∃ g, g = w.heap.size := ⟨_, rfl⟩
      rw [← hg] at C1
      have c0 := C1.c0
      have c1 := C1.c1
      have c2 := C1.c2
      have c3 := C1.c3
      have c4 := C1.c4
      have K1 := Lib.hid C1
      have HG := Lib.hid hg
      clear h hg C1
      have CR := Lib.hid cR
      go_enter Try.func13, Try.ntmps13
      go_wp2_with (first
        | (rw [← hw1, ← HG.out]; clear hw1)
        | (go_at_call 20; refine (CR.out w1 K1.out.rd).mono ?_; rintro e w2 ⟨rfl, hb2⟩; have K2 := Lib.hid (K1.out.next hb2); have c02 := K2.out.c0; have c12 := K2.out.c1; have c22 := K2.out.c2; have c32 := K2.out.c3; have c42 := K2.out.c4; clear hb2)
        | (go_at_call 26; refine (Place_yes _ _).mono ?_; rintro e w' ⟨rfl, rfl⟩; rw [d]))
      go_quiet (fail)
      go_wp2
      go_ret
      exact ⟨ret_int (by first | omega | (simp only [IntKind.wrap_i64]; omega)), K2.out.bel.trans ((below_drewNc _ _).mono K2.out.bel.size)⟩
    · rw [show logZ true lg z = -1 by unfold logZ; rw [if_neg (fun q => hp q.2)]]
      have d := decide_eq_false hp
      clear hp
      obtain ⟨w1, hw1⟩ : ∃ w1, w1 = w.alloc (.cells (cc lg pg en gn A n cap) 24) := ⟨_, rfl⟩
      have C1 := CAt.new h lg pg en gn cap
      rw [← hw1] at C1
      obtain ⟨g, hg⟩ : ∃ g, g = w.heap.size := ⟨_, rfl⟩
      rw [← hg] at C1
      have c0 := C1.c0
      have c1 := C1.c1
      have c2 := C1.c2
      have c3 := C1.c3
      have c4 := C1.c4
      have K1 := Lib.hid C1
      have HG := Lib.hid hg
      clear h hg C1
      have CR := Lib.hid cR
      go_enter Try.func13, Try.ntmps13
      go_wp2_with (first
        | (rw [← hw1, ← HG.out]; clear hw1)
        | (go_at_call 20; refine (CR.out w1 K1.out.rd).mono ?_; rintro e w2 ⟨rfl, hb2⟩; have K2 := Lib.hid (K1.out.next hb2); have c02 := K2.out.c0; have c12 := K2.out.c1; have c22 := K2.out.c2; have c32 := K2.out.c3; have c42 := K2.out.c4; clear hb2)
        | (go_at_call 26; refine (Place_yes _ _).mono ?_; rintro e w' ⟨rfl, rfl⟩; rw [d]))
      go_ret
      exact ⟨rfl, K2.out.bel⟩

theorem RPage_any (h : KRd w A n ks) {R : Bool} (cR : GRr lg pg en gn A n cap ks R) (hb : R = true → (2 ≤ lg ∧ lg ≤ 1024) ∧ (4 ≤ pg ∧ pg ≤ 1024)) (z : Int) :
    Calls Try.prog 15 #[cv lg pg en gn A n cap, .int .i64 z] w fun e w' => e = .returned (.int .i64 (pageZ R lg pg z)) ∧ Below w.heap.size w w' := by
  cases R
  · rw [show pageZ false lg pg z = -1 by simp [pageZ]]
    obtain ⟨w1, hw1⟩ : ∃ w1, w1 = w.alloc (.cells (cc lg pg en gn A n cap) 24) := ⟨_, rfl⟩
    have C1 := CAt.new h lg pg en gn cap
    rw [← hw1] at C1
    obtain ⟨g, hg⟩ : ∃ g, g = w.heap.size := ⟨_, rfl⟩
    rw [← hg] at C1
    have c0 := C1.c0
    have c1 := C1.c1
    have c2 := C1.c2
    have c3 := C1.c3
    have c4 := C1.c4
    have K1 := Lib.hid C1
    have HG := Lib.hid hg
    clear h hg C1
    have CR := Lib.hid cR
    go_enter Try.func15, Try.ntmps15
    go_wp2_with (first
      | (rw [← hw1, ← HG.out]; clear hw1)
      | (go_at_call 20; refine (CR.out w1 K1.out.rd).mono ?_; rintro e w2 ⟨rfl, hb2⟩; have K2 := Lib.hid (K1.out.next hb2); have c02 := K2.out.c0; have c12 := K2.out.c1; have c22 := K2.out.c2; have c32 := K2.out.c3; have c42 := K2.out.c4; clear hb2))
    go_ret
    exact ⟨rfl, K2.out.bel⟩
  · obtain ⟨⟨hl2, hl1⟩, hp2, hp1⟩ := hb rfl
    by_cases h0 : 0 ≤ z
    · have d0 : decide (0 ≤ z) = true := decide_eq_true h0
      by_cases h1 : z < pg
      · rw [show pageZ true lg pg z = lg + 2 + z by unfold pageZ; rw [if_pos ⟨rfl, by omega, by omega⟩]]
        have d1 : decide (z < pg) = true := decide_eq_true h1
        obtain ⟨w1, hw1⟩ : ∃ w1, w1 = w.alloc (.cells (cc lg pg en gn A n cap) 24) := ⟨_, rfl⟩
        have C1 := CAt.new h lg pg en gn cap
        rw [← hw1] at C1
        obtain ⟨g, hg⟩ : ∃ g, g = w.heap.size := ⟨_, rfl⟩
        rw [← hg] at C1
        have c0 := C1.c0
        have c1 := C1.c1
        have c2 := C1.c2
        have c3 := C1.c3
        have c4 := C1.c4
        have K1 := Lib.hid C1
        have HG := Lib.hid hg
        clear h hg C1
        have CR := Lib.hid cR
        go_enter Try.func15, Try.ntmps15
        go_wp2_with (first
          | (rw [← hw1, ← HG.out]; clear hw1)
          | (go_at_call 20; refine (CR.out w1 K1.out.rd).mono ?_; rintro e w2 ⟨rfl, hb2⟩; have K2 := Lib.hid (K1.out.next hb2); have c02 := K2.out.c0; have c12 := K2.out.c1; have c22 := K2.out.c2; have c32 := K2.out.c3; have c42 := K2.out.c4; clear hb2))
        go_ret
        exact ⟨ret_int (by omega), K2.out.bel⟩
      · rw [show pageZ true lg pg z = -1 by unfold pageZ; rw [if_neg (fun q => by omega)]]
        have d1 : decide (z < pg) = false := decide_eq_false h1
        obtain ⟨w1, hw1⟩ : ∃ w1, w1 = w.alloc (.cells (cc lg pg en gn A n cap) 24) := ⟨_, rfl⟩
        have C1 := CAt.new h lg pg en gn cap
        rw [← hw1] at C1
        obtain ⟨g, hg⟩ : ∃ g, g = w.heap.size := ⟨_, rfl⟩
        rw [← hg] at C1
        have c0 := C1.c0
        have c1 := C1.c1
        have c2 := C1.c2
        have c3 := C1.c3
        have c4 := C1.c4
        have K1 := Lib.hid C1
        have HG := Lib.hid hg
        clear h hg C1
        have CR := Lib.hid cR
        go_enter Try.func15, Try.ntmps15
        go_wp2_with (first
          | (rw [← hw1, ← HG.out]; clear hw1)
          | (go_at_call 20; refine (CR.out w1 K1.out.rd).mono ?_; rintro e w2 ⟨rfl, hb2⟩; have K2 := Lib.hid (K1.out.next hb2); have c02 := K2.out.c0; have c12 := K2.out.c1; have c22 := K2.out.c2; have c32 := K2.out.c3; have c42 := K2.out.c4; clear hb2))
        go_ret
        exact ⟨rfl, K2.out.bel⟩
    · rw [show pageZ true lg pg z = -1 by unfold pageZ; rw [if_neg (fun q => by omega)]]
      have d0 : decide (0 ≤ z) = false := decide_eq_false h0
      obtain ⟨w1, hw1⟩ : ∃ w1, w1 = w.alloc (.cells (cc lg pg en gn A n cap) 24) := ⟨_, rfl⟩
      have C1 := CAt.new h lg pg en gn cap
      rw [← hw1] at C1
      obtain ⟨g, hg⟩ : ∃ g, g = w.heap.size := ⟨_, rfl⟩
      rw [← hg] at C1
      have c0 := C1.c0
      have c1 := C1.c1
      have c2 := C1.c2
      have c3 := C1.c3
      have c4 := C1.c4
      have K1 := Lib.hid C1
      have HG := Lib.hid hg
      clear h hg C1
      have CR := Lib.hid cR
      go_enter Try.func15, Try.ntmps15
      go_wp2_with (first
        | (rw [← hw1, ← HG.out]; clear hw1)
        | (go_at_call 20; refine (CR.out w1 K1.out.rd).mono ?_; rintro e w2 ⟨rfl, hb2⟩; have K2 := Lib.hid (K1.out.next hb2); have c02 := K2.out.c0; have c12 := K2.out.c1; have c22 := K2.out.c2; have c32 := K2.out.c3; have c42 := K2.out.c4; clear hb2))
      go_ret
      exact ⟨rfl, K2.out.bel⟩

theorem RRoom_any (h : KRd w A n ks) {R : Bool} (cR : GRr lg pg en gn A n cap ks R) (hb : R = true → (2 ≤ lg ∧ lg ≤ 1024) ∧ (4 ≤ pg ∧ pg ≤ 1024)) (a t : Int) :
    Calls Try.prog 19 #[cv lg pg en gn A n cap, .int .i64 a, .int .i64 t] w fun e w' => e = .returned (.int .i64 (roomZ R lg a t)) ∧ Below w.heap.size w w' := by
  cases R
  · rw [show roomZ false lg a t = -1 by simp [roomZ]]
    obtain ⟨w1, hw1⟩ : ∃ w1, w1 = w.alloc (.cells (cc lg pg en gn A n cap) 24) := ⟨_, rfl⟩
    have C1 := CAt.new h lg pg en gn cap
    rw [← hw1] at C1
    obtain ⟨g, hg⟩ : ∃ g, g = w.heap.size := ⟨_, rfl⟩
    rw [← hg] at C1
    have c0 := C1.c0
    have c1 := C1.c1
    have c2 := C1.c2
    have c3 := C1.c3
    have c4 := C1.c4
    have K1 := Lib.hid C1
    have HG := Lib.hid hg
    clear h hg C1
    have CR := Lib.hid cR
    go_enter Try.func19, Try.ntmps19
    go_wp2_with (first
      | (rw [← hw1, ← HG.out]; clear hw1)
      | (go_at_call 20; refine (CR.out w1 K1.out.rd).mono ?_; rintro e w2 ⟨rfl, hb2⟩; have K2 := Lib.hid (K1.out.next hb2); have c02 := K2.out.c0; have c12 := K2.out.c1; have c22 := K2.out.c2; have c32 := K2.out.c3; have c42 := K2.out.c4; clear hb2))
    go_ret
    exact ⟨rfl, K2.out.bel⟩
  · obtain ⟨⟨hl2, hl1⟩, _⟩ := hb rfl
    by_cases hp : Plc a
    · have d := decide_eq_true hp
      have t1 : True := trivial
      by_cases hp1 : Plc t
      · have d1 := decide_eq_true hp1
        obtain ⟨ha0, ha1⟩ := hp
        obtain ⟨ht0, ht1⟩ := hp1
        by_cases h1 : t < a
        · rw [show roomZ true lg a t = -1 by unfold roomZ; rw [if_neg (fun q => by omega)]]
          have d2 : decide (t < a) = true := decide_eq_true h1
          obtain ⟨w1, hw1⟩ : ∃ w1, w1 = w.alloc (.cells (cc lg pg en gn A n cap) 24) := ⟨_, rfl⟩
          have C1 := CAt.new h lg pg en gn cap
          rw [← hw1] at C1
          obtain ⟨g, hg⟩ : ∃ g, g = w.heap.size := ⟨_, rfl⟩
          rw [← hg] at C1
          have c0 := C1.c0
          have c1 := C1.c1
          have c2 := C1.c2
          have c3 := C1.c3
          have c4 := C1.c4
          have K1 := Lib.hid C1
          have HG := Lib.hid hg
          clear h hg C1
          have CR := Lib.hid cR
          go_enter Try.func19, Try.ntmps19
          go_wp2_with (first
            | (rw [← hw1, ← HG.out]; clear hw1)
            | (go_at_call 20; refine (CR.out w1 K1.out.rd).mono ?_; rintro e w2 ⟨rfl, hb2⟩; have K2 := Lib.hid (K1.out.next hb2); have c02 := K2.out.c0; have c12 := K2.out.c1; have c22 := K2.out.c2; have c32 := K2.out.c3; have c42 := K2.out.c4; clear hb2)
            | (go_at_call 26; clear t1; refine (Place_yes _ _).mono ?_; rintro e w' ⟨rfl, rfl⟩; rw [d])
            | (go_at_call 26; refine (Place_yes _ _).mono ?_; rintro e w' ⟨rfl, rfl⟩; rw [d1]))
          go_ret
          exact ⟨rfl, K2.out.bel⟩
        · have d2 : decide (t < a) = false := decide_eq_false h1
          by_cases h2 : a + lg < t
          · rw [show roomZ true lg a t = -1 by unfold roomZ; rw [if_neg (fun q => by omega)]]
            have d3 : decide (a + lg < t) = true := decide_eq_true h2
            obtain ⟨w1, hw1⟩ : ∃ w1, w1 = w.alloc (.cells (cc lg pg en gn A n cap) 24) := ⟨_, rfl⟩
            have C1 := CAt.new h lg pg en gn cap
            rw [← hw1] at C1
            obtain ⟨g, hg⟩ : ∃ g, g = w.heap.size := ⟨_, rfl⟩
            rw [← hg] at C1
            have c0 := C1.c0
            have c1 := C1.c1
            have c2 := C1.c2
            have c3 := C1.c3
            have c4 := C1.c4
            have K1 := Lib.hid C1
            have HG := Lib.hid hg
            clear h hg C1
            have CR := Lib.hid cR
            go_enter Try.func19, Try.ntmps19
            go_wp2_with (first
              | (rw [← hw1, ← HG.out]; clear hw1)
              | (go_at_call 20; refine (CR.out w1 K1.out.rd).mono ?_; rintro e w2 ⟨rfl, hb2⟩; have K2 := Lib.hid (K1.out.next hb2); have c02 := K2.out.c0; have c12 := K2.out.c1; have c22 := K2.out.c2; have c32 := K2.out.c3; have c42 := K2.out.c4; clear hb2)
              | (go_at_call 26; clear t1; refine (Place_yes _ _).mono ?_; rintro e w' ⟨rfl, rfl⟩; rw [d])
              | (go_at_call 26; refine (Place_yes _ _).mono ?_; rintro e w' ⟨rfl, rfl⟩; rw [d1]))
            go_ret
            exact ⟨rfl, K2.out.bel⟩
          · rw [show roomZ true lg a t = lg - (t - a) by unfold roomZ; rw [if_pos ⟨rfl, ha0, by omega, ht1, by omega⟩]]
            have d3 : decide (a + lg < t) = false := decide_eq_false h2
            obtain ⟨w1, hw1⟩ : ∃ w1, w1 = w.alloc (.cells (cc lg pg en gn A n cap) 24) := ⟨_, rfl⟩
            have C1 := CAt.new h lg pg en gn cap
            rw [← hw1] at C1
            obtain ⟨g, hg⟩ : ∃ g, g = w.heap.size := ⟨_, rfl⟩
            rw [← hg] at C1
            have c0 := C1.c0
            have c1 := C1.c1
            have c2 := C1.c2
            have c3 := C1.c3
            have c4 := C1.c4
            have K1 := Lib.hid C1
            have HG := Lib.hid hg
            clear h hg C1
            have CR := Lib.hid cR
            go_enter Try.func19, Try.ntmps19
            go_wp2_with (first
              | (rw [← hw1, ← HG.out]; clear hw1)
              | (go_at_call 20; refine (CR.out w1 K1.out.rd).mono ?_; rintro e w2 ⟨rfl, hb2⟩; have K2 := Lib.hid (K1.out.next hb2); have c02 := K2.out.c0; have c12 := K2.out.c1; have c22 := K2.out.c2; have c32 := K2.out.c3; have c42 := K2.out.c4; clear hb2)
              | (go_at_call 26; clear t1; refine (Place_yes _ _).mono ?_; rintro e w' ⟨rfl, rfl⟩; rw [d])
              | (go_at_call 26; refine (Place_yes _ _).mono ?_; rintro e w' ⟨rfl, rfl⟩; rw [d1]))
            go_ret
            exact ⟨ret_int (by omega), K2.out.bel⟩
      · rw [show roomZ true lg a t = -1 by unfold roomZ; rw [if_neg (fun q => hp1 ⟨by omega, q.2.2.2.1⟩)]]
        have d1 := decide_eq_false hp1
        obtain ⟨w1, hw1⟩ : ∃ w1, w1 = w.alloc (.cells (cc lg pg en gn A n cap) 24) := ⟨_, rfl⟩
        have C1 := CAt.new h lg pg en gn cap
        rw [← hw1] at C1
        obtain ⟨g, hg⟩ : ∃ g, g = w.heap.size := ⟨_, rfl⟩
        rw [← hg] at C1
        have c0 := C1.c0
        have c1 := C1.c1
        have c2 := C1.c2
        have c3 := C1.c3
        have c4 := C1.c4
        have K1 := Lib.hid C1
        have HG := Lib.hid hg
        clear h hg C1
        have CR := Lib.hid cR
        go_enter Try.func19, Try.ntmps19
        go_wp2_with (first
          | (rw [← hw1, ← HG.out]; clear hw1)
          | (go_at_call 20; refine (CR.out w1 K1.out.rd).mono ?_; rintro e w2 ⟨rfl, hb2⟩; have K2 := Lib.hid (K1.out.next hb2); have c02 := K2.out.c0; have c12 := K2.out.c1; have c22 := K2.out.c2; have c32 := K2.out.c3; have c42 := K2.out.c4; clear hb2)
          | (go_at_call 26; clear t1; refine (Place_yes _ _).mono ?_; rintro e w' ⟨rfl, rfl⟩; rw [d])
          | (go_at_call 26; refine (Place_yes _ _).mono ?_; rintro e w' ⟨rfl, rfl⟩; rw [d1]))
        go_ret
        exact ⟨rfl, K2.out.bel⟩
    · rw [show roomZ true lg a t = -1 by unfold roomZ; rw [if_neg (fun q => hp ⟨q.2.1, by omega⟩)]]
      have d := decide_eq_false hp
      obtain ⟨w1, hw1⟩ : ∃ w1, w1 = w.alloc (.cells (cc lg pg en gn A n cap) 24) := ⟨_, rfl⟩
      have C1 := CAt.new h lg pg en gn cap
      rw [← hw1] at C1
      obtain ⟨g, hg⟩ : ∃ g, g = w.heap.size := ⟨_, rfl⟩
      rw [← hg] at C1
      have c0 := C1.c0
      have c1 := C1.c1
      have c2 := C1.c2
      have c3 := C1.c3
      have c4 := C1.c4
      have K1 := Lib.hid C1
      have HG := Lib.hid hg
      clear h hg C1
      have CR := Lib.hid cR
      go_enter Try.func19, Try.ntmps19
      go_wp2_with (first
        | (rw [← hw1, ← HG.out]; clear hw1)
        | (go_at_call 20; refine (CR.out w1 K1.out.rd).mono ?_; rintro e w2 ⟨rfl, hb2⟩; have K2 := Lib.hid (K1.out.next hb2); have c02 := K2.out.c0; have c12 := K2.out.c1; have c22 := K2.out.c2; have c32 := K2.out.c3; have c42 := K2.out.c4; clear hb2)
        | (go_at_call 26; refine (Place_yes _ _).mono ?_; rintro e w' ⟨rfl, rfl⟩; rw [d]))
      go_ret
      exact ⟨rfl, K2.out.bel⟩

theorem RWhat_any (h : KRd w A n ks) {R : Bool} (cR : GRr lg pg en gn A n cap ks R) (hb : R = true → (2 ≤ lg ∧ lg ≤ 1024) ∧ (4 ≤ pg ∧ pg ≤ 1024)) (z : Int) :
    Calls Try.prog 9 #[cv lg pg en gn A n cap, .int .i64 z] w fun e w' => e = .returned (.tuple #[.int .i64 (whatK R lg pg z), .int .i64 (whatN R lg pg z)]) ∧ Below w.heap.size w w' := by
  cases R
  · have hi : ¬ InZ false lg pg z := fun q => by cases q.1
    rw [show whatK false lg pg z = 0 by unfold whatK; rw [if_neg hi], show whatN false lg pg z = 0 by unfold whatN; rw [if_neg hi]]
    obtain ⟨w1, hw1⟩ : ∃ w1, w1 = w.alloc (.cells (cc lg pg en gn A n cap) 24) := ⟨_, rfl⟩
    have C1 := CAt.new h lg pg en gn cap
    rw [← hw1] at C1
    obtain ⟨g, hg⟩ : ∃ g, g = w.heap.size := ⟨_, rfl⟩
    rw [← hg] at C1
    have c0 := C1.c0
    have c1 := C1.c1
    have c2 := C1.c2
    have c3 := C1.c3
    have c4 := C1.c4
    have K1 := Lib.hid C1
    have HG := Lib.hid hg
    clear h hg C1
    have CR := Lib.hid cR
    go_enter Try.func9, Try.ntmps9
    go_wp2_with (first
      | (rw [← hw1, ← HG.out]; clear hw1)
      | (go_at_call 20; refine (CR.out w1 K1.out.rd).mono ?_; rintro e w2 ⟨rfl, hb2⟩; have K2 := Lib.hid (K1.out.next hb2); have c02 := K2.out.c0; have c12 := K2.out.c1; have c22 := K2.out.c2; have c32 := K2.out.c3; have c42 := K2.out.c4; clear hb2))
    go_ret2
    exact ⟨rfl, K2.out.bel⟩
  · obtain ⟨⟨hl2, hl1⟩, hp2, hp1⟩ := hb rfl
    by_cases h0 : z < 0
    · have hi : ¬ InZ true lg pg z := fun q => by have := q.2.1; omega
      rw [show whatK true lg pg z = 0 by unfold whatK; rw [if_neg hi], show whatN true lg pg z = 0 by unfold whatN; rw [if_neg hi]]
      have d0 : decide (z < 0) = true := decide_eq_true h0
      obtain ⟨w1, hw1⟩ : ∃ w1, w1 = w.alloc (.cells (cc lg pg en gn A n cap) 24) := ⟨_, rfl⟩
      have C1 := CAt.new h lg pg en gn cap
      rw [← hw1] at C1
      obtain ⟨g, hg⟩ : ∃ g, g = w.heap.size := ⟨_, rfl⟩
      rw [← hg] at C1
      have c0 := C1.c0
      have c1 := C1.c1
      have c2 := C1.c2
      have c3 := C1.c3
      have c4 := C1.c4
      have K1 := Lib.hid C1
      have HG := Lib.hid hg
      clear h hg C1
      have CR := Lib.hid cR
      go_enter Try.func9, Try.ntmps9
      go_wp2_with (first
        | (rw [← hw1, ← HG.out]; clear hw1)
        | (go_at_call 20; refine (CR.out w1 K1.out.rd).mono ?_; rintro e w2 ⟨rfl, hb2⟩; have K2 := Lib.hid (K1.out.next hb2); have c02 := K2.out.c0; have c12 := K2.out.c1; have c22 := K2.out.c2; have c32 := K2.out.c3; have c42 := K2.out.c4; clear hb2))
      go_ret2
      exact ⟨rfl, K2.out.bel⟩
    · have d0 : decide (z < 0) = false := decide_eq_false h0
      by_cases h3 : z < lg + 2 + pg
      · have hi : InZ true lg pg z := ⟨rfl, by omega, by omega⟩
        rw [show whatK true lg pg z = liesZ lg z by unfold whatK; rw [if_pos hi], show whatN true lg pg z = z - firstZ lg (liesZ lg z) by unfold whatN; rw [if_pos hi]]
        clear hi
        by_cases h1 : z < 2
        · have eL : liesZ lg z = 3 := by unfold liesZ; rw [if_pos h1]
          rw [eL, show firstZ lg 3 = 0 from rfl, Int.sub_zero]
          obtain ⟨w1, hw1⟩ : ∃ w1, w1 = w.alloc (.cells (cc lg pg en gn A n cap) 24) := ⟨_, rfl⟩
          have C1 := CAt.new h lg pg en gn cap
          rw [← hw1] at C1
          obtain ⟨g, hg⟩ : ∃ g, g = w.heap.size := ⟨_, rfl⟩
          rw [← hg] at C1
          have c0 := C1.c0
          have c1 := C1.c1
          have c2 := C1.c2
          have c3 := C1.c3
          have c4 := C1.c4
          have K1 := Lib.hid C1
          have HG := Lib.hid hg
          clear h hg C1
          have CR := Lib.hid cR
          go_enter Try.func9, Try.ntmps9
          go_wp2_with (first
            | (rw [← hw1, ← HG.out]; clear hw1)
            | (go_at_call 20; refine (CR.out w1 K1.out.rd).mono ?_; rintro e w2 ⟨rfl, hb2⟩; have K2 := Lib.hid (K1.out.next hb2); have c02 := K2.out.c0; have c12 := K2.out.c1; have c22 := K2.out.c2; have c32 := K2.out.c3; have c42 := K2.out.c4; clear hb2))
          go_ret2
          exact ⟨rfl, K2.out.bel⟩
        · by_cases h2 : z < lg + 2
          · have eL : liesZ lg z = 1 := by unfold liesZ; rw [if_neg h1, if_pos h2]
            rw [eL, show firstZ lg 1 = 2 from rfl]
            obtain ⟨w1, hw1⟩ : ∃ w1, w1 = w.alloc (.cells (cc lg pg en gn A n cap) 24) := ⟨_, rfl⟩
            have C1 := CAt.new h lg pg en gn cap
            rw [← hw1] at C1
            obtain ⟨g, hg⟩ : ∃ g, g = w.heap.size := ⟨_, rfl⟩
            rw [← hg] at C1
            have c0 := C1.c0
            have c1 := C1.c1
            have c2 := C1.c2
            have c3 := C1.c3
            have c4 := C1.c4
            have K1 := Lib.hid C1
            have HG := Lib.hid hg
            clear h hg C1
            have CR := Lib.hid cR
            go_enter Try.func9, Try.ntmps9
            go_wp2_with (first
              | (rw [← hw1, ← HG.out]; clear hw1)
              | (go_at_call 20; refine (CR.out w1 K1.out.rd).mono ?_; rintro e w2 ⟨rfl, hb2⟩; have K2 := Lib.hid (K1.out.next hb2); have c02 := K2.out.c0; have c12 := K2.out.c1; have c22 := K2.out.c2; have c32 := K2.out.c3; have c42 := K2.out.c4; clear hb2))
            go_ret2
            exact ⟨rfl, K2.out.bel⟩
          · have eL : liesZ lg z = 2 := by unfold liesZ; rw [if_neg h1, if_neg h2]
            rw [eL, show firstZ lg 2 = lg + 2 from rfl]
            obtain ⟨w1, hw1⟩ : ∃ w1, w1 = w.alloc (.cells (cc lg pg en gn A n cap) 24) := ⟨_, rfl⟩
            have C1 := CAt.new h lg pg en gn cap
            rw [← hw1] at C1
            obtain ⟨g, hg⟩ : ∃ g, g = w.heap.size := ⟨_, rfl⟩
            rw [← hg] at C1
            have c0 := C1.c0
            have c1 := C1.c1
            have c2 := C1.c2
            have c3 := C1.c3
            have c4 := C1.c4
            have K1 := Lib.hid C1
            have HG := Lib.hid hg
            clear h hg C1
            have CR := Lib.hid cR
            go_enter Try.func9, Try.ntmps9
            go_wp2_with (first
              | (rw [← hw1, ← HG.out]; clear hw1)
              | (go_at_call 20; refine (CR.out w1 K1.out.rd).mono ?_; rintro e w2 ⟨rfl, hb2⟩; have K2 := Lib.hid (K1.out.next hb2); have c02 := K2.out.c0; have c12 := K2.out.c1; have c22 := K2.out.c2; have c32 := K2.out.c3; have c42 := K2.out.c4; clear hb2))
            go_quiet (fail)
            go_wp2
            go_ret2
            exact ⟨by rw [show z - (lg + 2) = z - 2 - lg by omega]; rfl, K2.out.bel.trans ((below_drewNc _ _).mono K2.out.bel.size)⟩
      · have hi : ¬ InZ true lg pg z := fun q => by have := q.2.2; omega
        rw [show whatK true lg pg z = 0 by unfold whatK; rw [if_neg hi], show whatN true lg pg z = 0 by unfold whatN; rw [if_neg hi]]
        obtain ⟨w1, hw1⟩ : ∃ w1, w1 = w.alloc (.cells (cc lg pg en gn A n cap) 24) := ⟨_, rfl⟩
        have C1 := CAt.new h lg pg en gn cap
        rw [← hw1] at C1
        obtain ⟨g, hg⟩ : ∃ g, g = w.heap.size := ⟨_, rfl⟩
        rw [← hg] at C1
        have c0 := C1.c0
        have c1 := C1.c1
        have c2 := C1.c2
        have c3 := C1.c3
        have c4 := C1.c4
        have K1 := Lib.hid C1
        have HG := Lib.hid hg
        clear h hg C1
        have CR := Lib.hid cR
        go_enter Try.func9, Try.ntmps9
        go_wp2_with (first
          | (rw [← hw1, ← HG.out]; clear hw1)
          | (go_at_call 20; refine (CR.out w1 K1.out.rd).mono ?_; rintro e w2 ⟨rfl, hb2⟩; have K2 := Lib.hid (K1.out.next hb2); have c02 := K2.out.c0; have c12 := K2.out.c1; have c22 := K2.out.c2; have c32 := K2.out.c3; have c42 := K2.out.c4; clear hb2))
        go_ret2
        exact ⟨rfl, K2.out.bel⟩
end
end Go.Proofs.Ytabmaiphjcbfbaa
