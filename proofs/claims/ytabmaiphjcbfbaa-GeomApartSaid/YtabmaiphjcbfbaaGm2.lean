/- The contracts of geom: what lies where. Written by wip/tools/gen_gm.py. -/
import Derived.Test.YtabmaiphjcbfbaaGm1
import Derived.Deep.RegionHeld3
namespace Go.Proofs.Ytabmaiphjcbfbaa
open Go.RowKit
set_option linter.unusedVariables false
set_option maxHeartbeats 1000000

section
variable (lg pg en gn : Int) (A : Option Addr) (n cap : Nat) (ks : List Kd) (w : World)

/-- What tells whether a layout may be tells R. -/
def GRt (R : Bool) : Prop := ∀ W, KRd W A n ks → Calls Try.prog 21 #[cv lg pg en gn A n cap] W fun e w' => e = .returned (.bool R) ∧ Below W.heap.size W w'

theorem gright_any (h : KRd w A n ks) (hn : n ≤ 1000000) (hs : Lens ks) :
    Calls Try.prog 21 #[cv lg pg en gn A n cap] w fun e w' => e = .returned (.bool (decide (Cf.mk lg pg en gn ks).Right)) ∧ Below w.heap.size w w' := by
  by_cases hR : (Cf.mk lg pg en gn ks).Right
  · have cC : ∀ W, KRd W A n ks → Calls Try.prog 29 #[cv lg pg en gn A n cap] W fun e w' => e = .returned (.int .i64 0) ∧ Below W.heap.size W w' := fun W hW => (Check_any lg pg en gn A n cap ks W hW hn hs).mono fun e w' ⟨he, hb⟩ => ⟨by rw [he, if_pos hR], hb⟩
    have CC := Lib.hid cC
    clear cC
    obtain ⟨w1, hw1⟩ : ∃ w1, w1 = w.alloc (.cells (cc lg pg en gn A n cap) 24) := ⟨_, rfl⟩
    have C1 := CAt.new h lg pg en gn cap
    rw [← hw1] at C1
    obtain ⟨g, hg⟩ : ∃ g, g = w.heap.size := ⟨_, rfl⟩
    rw [← hg] at C1
    have c0 := C1.c0
    have c1 := C1.c1
    have c2 := C1.c2
    have c3 := C1.c3
    have c4 := C1.c4
    have K1 := Lib.hid C1
    have HG := Lib.hid hg
    clear h hg C1
    go_enter Try.func21, Try.ntmps21
    go_wp2_with (first
      | (rw [← hw1, ← HG.out]; clear hw1)
      | (go_at_call 29; refine (CC.out w1 K1.out.rd).mono ?_; rintro e w2 ⟨rfl, hb2⟩; have K2 := Lib.hid (K1.out.next hb2); have c02 := K2.out.c0; have c12 := K2.out.c1; have c22 := K2.out.c2; have c32 := K2.out.c3; have c42 := K2.out.c4; clear hb2))
    go_ret
    exact ⟨ret_bool (decide_eq_true hR).symm, K2.out.bel⟩
  · have cC : ∀ W, KRd W A n ks → Calls Try.prog 29 #[cv lg pg en gn A n cap] W fun e w' => e = .returned (.int .i64 1) ∧ Below W.heap.size W w' := fun W hW => (Check_any lg pg en gn A n cap ks W hW hn hs).mono fun e w' ⟨he, hb⟩ => ⟨by rw [he, if_neg hR], hb⟩
    have CC := Lib.hid cC
    clear cC
    obtain ⟨w1, hw1⟩ : ∃ w1, w1 = w.alloc (.cells (cc lg pg en gn A n cap) 24) := ⟨_, rfl⟩
    have C1 := CAt.new h lg pg en gn cap
    rw [← hw1] at C1
    obtain ⟨g, hg⟩ : ∃ g, g = w.heap.size := ⟨_, rfl⟩
    rw [← hg] at C1
    have c0 := C1.c0
    have c1 := C1.c1
    have c2 := C1.c2
    have c3 := C1.c3
    have c4 := C1.c4
    have K1 := Lib.hid C1
    have HG := Lib.hid hg
    clear h hg C1
    go_enter Try.func21, Try.ntmps21
    go_wp2_with (first
      | (rw [← hw1, ← HG.out]; clear hw1)
      | (go_at_call 29; refine (CC.out w1 K1.out.rd).mono ?_; rintro e w2 ⟨rfl, hb2⟩; have K2 := Lib.hid (K1.out.next hb2); have c02 := K2.out.c0; have c12 := K2.out.c1; have c22 := K2.out.c2; have c32 := K2.out.c3; have c42 := K2.out.c4; clear hb2))
    go_ret
    exact ⟨ret_bool (decide_eq_false hR).symm, K2.out.bel⟩

theorem first_1 (h : KRd w A n ks) (hl : 0 ≤ lg ∧ lg ≤ 1024) :
    Calls Try.prog 25 #[cv lg pg en gn A n cap, .int .i64 1] w fun e w' => e = .returned (.int .i64 (2)) ∧ Below w.heap.size w w' := by
  obtain ⟨w1, hw1⟩ : ∃ w1, w1 = w.alloc (.cells (cc lg pg en gn A n cap) 24) := ⟨_, rfl⟩
  have C1 := CAt.new h lg pg en gn cap
  rw [← hw1] at C1
  obtain ⟨g, hg⟩ : ∃ g, g = w.heap.size := ⟨_, rfl⟩
  rw [← hg] at C1
  have c0 := C1.c0
  have c1 := C1.c1
  have c2 := C1.c2
  have c3 := C1.c3
  have c4 := C1.c4
  have K1 := Lib.hid C1
  have HG := Lib.hid hg
  clear h hg C1
  go_enter Try.func25, Try.ntmps25
  go_wp2_with (rw [← hw1, ← HG.out]; clear hw1)
  go_ret
  exact ⟨rfl, K1.out.bel⟩

theorem first_2 (h : KRd w A n ks) (hl : 0 ≤ lg ∧ lg ≤ 1024) :
    Calls Try.prog 25 #[cv lg pg en gn A n cap, .int .i64 2] w fun e w' => e = .returned (.int .i64 (lg + 2)) ∧ Below w.heap.size w w' := by
  obtain ⟨w1, hw1⟩ : ∃ w1, w1 = w.alloc (.cells (cc lg pg en gn A n cap) 24) := ⟨_, rfl⟩
  have C1 := CAt.new h lg pg en gn cap
  rw [← hw1] at C1
  obtain ⟨g, hg⟩ : ∃ g, g = w.heap.size := ⟨_, rfl⟩
  rw [← hg] at C1
  have c0 := C1.c0
  have c1 := C1.c1
  have c2 := C1.c2
  have c3 := C1.c3
  have c4 := C1.c4
  have K1 := Lib.hid C1
  have HG := Lib.hid hg
  clear h hg C1
  go_enter Try.func25, Try.ntmps25
  go_wp2_with (rw [← hw1, ← HG.out]; clear hw1)
  go_ret
  exact ⟨ret_int (by first | omega | (rw [IntKind.wrap_i64]; omega)), K1.out.bel⟩

theorem first_3 (h : KRd w A n ks) (hl : 0 ≤ lg ∧ lg ≤ 1024) :
    Calls Try.prog 25 #[cv lg pg en gn A n cap, .int .i64 3] w fun e w' => e = .returned (.int .i64 (0)) ∧ Below w.heap.size w w' := by
  obtain ⟨w1, hw1⟩ : ∃ w1, w1 = w.alloc (.cells (cc lg pg en gn A n cap) 24) := ⟨_, rfl⟩
  have C1 := CAt.new h lg pg en gn cap
  rw [← hw1] at C1
  obtain ⟨g, hg⟩ : ∃ g, g = w.heap.size := ⟨_, rfl⟩
  rw [← hg] at C1
  have c0 := C1.c0
  have c1 := C1.c1
  have c2 := C1.c2
  have c3 := C1.c3
  have c4 := C1.c4
  have K1 := Lib.hid C1
  have HG := Lib.hid hg
  clear h hg C1
  go_enter Try.func25, Try.ntmps25
  go_wp2_with (rw [← hw1, ← HG.out]; clear hw1)
  go_ret
  exact ⟨rfl, K1.out.bel⟩

theorem lies_any (h : KRd w A n ks) (hl : 0 ≤ lg ∧ lg ≤ 1024) (z : Int) :
    Calls Try.prog 24 #[cv lg pg en gn A n cap, .int .i64 z] w fun e w' => e = .returned (.int .i64 (liesZ lg z)) ∧ Below w.heap.size w w' := by
  unfold liesZ
  by_cases h1 : z < 2
  · rw [if_pos h1]
    obtain ⟨w1, hw1⟩ : ∃ w1, w1 = w.alloc (.cells (cc lg pg en gn A n cap) 24) := ⟨_, rfl⟩
    have C1 := CAt.new h lg pg en gn cap
    rw [← hw1] at C1
    obtain ⟨g, hg⟩ : ∃ g, g = w.heap.size := ⟨_, rfl⟩
    rw [← hg] at C1
    have c0 := C1.c0
    have c1 := C1.c1
    have c2 := C1.c2
    have c3 := C1.c3
    have c4 := C1.c4
    have K1 := Lib.hid C1
    have HG := Lib.hid hg
    clear h hg C1
    go_enter Try.func24, Try.ntmps24
    go_wp2_with (first
      | (rw [← hw1, ← HG.out]; clear hw1)
      | (go_at_call 25; refine (first_1 lg pg en gn A n cap ks w1 K1.out.rd hl).mono ?_; rintro e w2 ⟨rfl, hb2⟩; have K2 := Lib.hid (K1.out.next hb2); have c02 := K2.out.c0; have c12 := K2.out.c1; have c22 := K2.out.c2; have c32 := K2.out.c3; have c42 := K2.out.c4; clear hb2))
    go_ret
    exact ⟨rfl, K2.out.bel⟩
  · rw [if_neg h1]
    by_cases h2 : z < lg + 2
    · rw [if_pos h2]
      have t1 : True := trivial
      obtain ⟨w1, hw1⟩ : ∃ w1, w1 = w.alloc (.cells (cc lg pg en gn A n cap) 24) := ⟨_, rfl⟩
      have C1 := CAt.new h lg pg en gn cap
      rw [← hw1] at C1
      obtain ⟨g, hg⟩ : ∃ g, g = w.heap.size := ⟨_, rfl⟩
      rw [← hg] at C1
      have c0 := C1.c0
      have c1 := C1.c1
      have c2 := C1.c2
      have c3 := C1.c3
      have c4 := C1.c4
      have K1 := Lib.hid C1
      have HG := Lib.hid hg
      clear h hg C1
      go_enter Try.func24, Try.ntmps24
      go_wp2_with (first
        | (rw [← hw1, ← HG.out]; clear hw1)
        | (go_at_call 25; clear t1; refine (first_1 lg pg en gn A n cap ks w1 K1.out.rd hl).mono ?_; rintro e w2 ⟨rfl, hb2⟩; have K2 := Lib.hid (K1.out.next hb2); have c02 := K2.out.c0; have c12 := K2.out.c1; have c22 := K2.out.c2; have c32 := K2.out.c3; have c42 := K2.out.c4; clear hb2)
        | (go_at_call 25; refine (first_2 lg pg en gn A n cap ks w2 K2.out.rd hl).mono ?_; rintro e w3 ⟨rfl, hb3⟩; have K3 := Lib.hid (K2.out.next hb3); have c03 := K3.out.c0; have c13 := K3.out.c1; have c23 := K3.out.c2; have c33 := K3.out.c3; have c43 := K3.out.c4; clear hb3))
      go_ret
      exact ⟨rfl, K3.out.bel⟩
    · rw [if_neg h2]
      have t1 : True := trivial
      obtain ⟨w1, hw1⟩ : ∃ w1, w1 = w.alloc (.cells (cc lg pg en gn A n cap) 24) := ⟨_, rfl⟩
      have C1 := CAt.new h lg pg en gn cap
      rw [← hw1] at C1
      obtain ⟨g, hg⟩ : ∃ g, g = w.heap.size := ⟨_, rfl⟩
      rw [← hg] at C1
      have c0 := C1.c0
      have c1 := C1.c1
      have c2 := C1.c2
      have c3 := C1.c3
      have c4 := C1.c4
      have K1 := Lib.hid C1
      have HG := Lib.hid hg
      clear h hg C1
      go_enter Try.func24, Try.ntmps24
      go_wp2_with (first
        | (rw [← hw1, ← HG.out]; clear hw1)
        | (go_at_call 25; clear t1; refine (first_1 lg pg en gn A n cap ks w1 K1.out.rd hl).mono ?_; rintro e w2 ⟨rfl, hb2⟩; have K2 := Lib.hid (K1.out.next hb2); have c02 := K2.out.c0; have c12 := K2.out.c1; have c22 := K2.out.c2; have c32 := K2.out.c3; have c42 := K2.out.c4; clear hb2)
        | (go_at_call 25; refine (first_2 lg pg en gn A n cap ks w2 K2.out.rd hl).mono ?_; rintro e w3 ⟨rfl, hb3⟩; have K3 := Lib.hid (K2.out.next hb3); have c03 := K3.out.c0; have c13 := K3.out.c1; have c23 := K3.out.c2; have c33 := K3.out.c3; have c43 := K3.out.c4; clear hb3))
      go_ret
      exact ⟨rfl, K3.out.bel⟩

theorem GLog_any (h : KRd w A n ks) {R : Bool} (cR : GRt lg pg en gn A n cap ks R) (hb : R = true → (2 ≤ lg ∧ lg ≤ 1024) ∧ (4 ≤ pg ∧ pg ≤ 1024)) (z : Int) :
    Calls Try.prog 12 #[cv lg pg en gn A n cap, .int .i64 z] w fun e w' => e = .returned (.int .i64 (logZ R lg z)) ∧ Below w.heap.size w w' := by
  cases R
  · rw [show logZ false lg z = -1 by simp [logZ]]
    obtain ⟨w1, hw1⟩ : ∃ w1, w1 = w.alloc (.cells (cc lg pg en gn A n cap) 24) := ⟨_, rfl⟩
    have C1 := CAt.new h lg pg en gn cap
    rw [← hw1] at C1
    obtain ⟨g, hg⟩ : ∃ g, g = w.heap.size := ⟨_, rfl⟩
    rw [← hg] at C1
    have c0 := C1.c0
    have c1 := C1.c1
    have c2 := C1.c2
    have c3 := C1.c3
    have c4 := C1.c4
    have K1 := Lib.hid C1
    have HG := Lib.hid hg
    clear h hg C1
    have CR := Lib.hid cR
    go_enter Try.func12, Try.ntmps12
    go_wp2_with (first
      | (rw [← hw1, ← HG.out]; clear hw1)
      | (go_at_call 21; refine (CR.out w1 K1.out.rd).mono ?_; rintro e w2 ⟨rfl, hb2⟩; have K2 := Lib.hid (K1.out.next hb2); have c02 := K2.out.c0; have c12 := K2.out.c1; have c22 := K2.out.c2; have c32 := K2.out.c3; have c42 := K2.out.c4; clear hb2))
    go_ret
    exact ⟨rfl, K2.out.bel⟩
  · obtain ⟨⟨hl2, hl1⟩, _⟩ := hb rfl
    have hl : 0 ≤ lg ∧ lg ≤ 1024 := ⟨by omega, hl1⟩
    by_cases hp : Plc z
    · rw [show logZ true lg z = 2 + z.tmod lg by unfold logZ; rw [if_pos ⟨rfl, hp⟩]]
      have d := decide_eq_true (show 0 ≤ z ∧ z ≤ 281474976710656 from hp)
      have hq := tmod_in z lg hp.1 hl2
      have hl0 : lg ≠ 0 := by omega
      clear hp
      obtain ⟨w1, hw1⟩ : ∃ w1, w1 = w.alloc (.cells (cc lg pg en gn A n cap) 24) := ⟨_, rfl⟩
      have C1 := CAt.new h lg pg en gn cap
      rw [← hw1] at C1
      obtain ⟨g, hg⟩ : ∃ g, g = w.heap.size := ⟨_, rfl⟩
      rw [← hg] at C1
      have c0 := C1.c0
      have c1 := C1.c1
      have c2 := C1.c2
      have c3 := C1.c3
      have c4 := C1.c4
      have K1 := Lib.hid C1
      have HG := Lib.hid hg
      clear h hg C1
      have CR := Lib.hid cR
      go_enter Try.func12, Try.ntmps12
      go_wp2_with (first
        | (rw [← hw1, ← HG.out]; clear hw1)
        | (go_at_call 21; refine (CR.out w1 K1.out.rd).mono ?_; rintro e w2 ⟨rfl, hb2⟩; have K2 := Lib.hid (K1.out.next hb2); have c02 := K2.out.c0; have c12 := K2.out.c1; have c22 := K2.out.c2; have c32 := K2.out.c3; have c42 := K2.out.c4; clear hb2)
        | (go_at_call 22; refine (gwithin_any _ _ _ _).mono ?_; rintro e w' ⟨rfl, rfl⟩; rw [d]))
      go_region_held3 (fun W => W.cell? ⟨g, 0, none⟩ = some (.int .i64 lg) ∧ W.cell? ⟨g, 1, none⟩ = some (.int .i64 pg) ∧ W.cell? ⟨g, 2, none⟩ = some (.int .i64 en) ∧ W.cell? ⟨g, 3, none⟩ = some (.int .i64 gn) ∧ W.cell? ⟨g, 4, none⟩ = some (.slice A n cap)) (first
        | with_reducible exact ⟨c02, c12, c22, c32, c42⟩
        | with_reducible exact ⟨c03, c13, c23, c33, c43⟩
        | go_keep) (first
        | (go_at_call 25; refine (first_1 lg pg en gn A n cap ks w2.drew (K2.out.rd.below ((Below.refl _ _).drew)) hl).mono ?_; rintro e w3 ⟨rfl, hb3'⟩; have hb3 : Below w2.heap.size w2 w3 := ((Below.refl _ _).drew).trans hb3'; have K3 := Lib.hid (K2.out.next hb3); have c03 := K3.out.c0; have c13 := K3.out.c1; have c23 := K3.out.c2; have c33 := K3.out.c3; have c43 := K3.out.c4; clear hb3 hb3'))
      go_wp2
      go_ret
      exact ⟨ret_int (by first | omega | (rw [IntKind.wrap_i64]; omega)), K3.out.bel⟩
    · rw [show logZ true lg z = -1 by unfold logZ; rw [if_neg (fun q => hp q.2)]]
      have d := decide_eq_false (show ¬ (0 ≤ z ∧ z ≤ 281474976710656) from hp)
      clear hp
      obtain ⟨w1, hw1⟩ : ∃ w1, w1 = w.alloc (.cells (cc lg pg en gn A n cap) 24) := ⟨_, rfl⟩
      have C1 := CAt.new h lg pg en gn cap
      rw [← hw1] at C1
      obtain ⟨g, hg⟩ : ∃ g, g = w.heap.size := ⟨_, rfl⟩
      rw [← hg] at C1
      have c0 := C1.c0
      have c1 := C1.c1
      have c2 := C1.c2
      have c3 := C1.c3
      have c4 := C1.c4
      have K1 := Lib.hid C1
      have HG := Lib.hid hg
      clear h hg C1
      have CR := Lib.hid cR
      go_enter Try.func12, Try.ntmps12
      go_wp2_with (first
        | (rw [← hw1, ← HG.out]; clear hw1)
        | (go_at_call 21; refine (CR.out w1 K1.out.rd).mono ?_; rintro e w2 ⟨rfl, hb2⟩; have K2 := Lib.hid (K1.out.next hb2); have c02 := K2.out.c0; have c12 := K2.out.c1; have c22 := K2.out.c2; have c32 := K2.out.c3; have c42 := K2.out.c4; clear hb2)
        | (go_at_call 22; refine (gwithin_any _ _ _ _).mono ?_; rintro e w' ⟨rfl, rfl⟩; rw [d]))
      go_ret
      exact ⟨rfl, K2.out.bel⟩

theorem GPage_any (h : KRd w A n ks) {R : Bool} (cR : GRt lg pg en gn A n cap ks R) (hb : R = true → (2 ≤ lg ∧ lg ≤ 1024) ∧ (4 ≤ pg ∧ pg ≤ 1024)) (z : Int) :
    Calls Try.prog 14 #[cv lg pg en gn A n cap, .int .i64 z] w fun e w' => e = .returned (.int .i64 (pageZ R lg pg z)) ∧ Below w.heap.size w w' := by
  cases R
  · rw [show pageZ false lg pg z = -1 by simp [pageZ]]
    obtain ⟨w1, hw1⟩ : ∃ w1, w1 = w.alloc (.cells (cc lg pg en gn A n cap) 24) := ⟨_, rfl⟩
    have C1 := CAt.new h lg pg en gn cap
    rw [← hw1] at C1
    obtain ⟨g, hg⟩ : ∃ g, g = w.heap.size := ⟨_, rfl⟩
    rw [← hg] at C1
    have c0 := C1.c0
    have c1 := C1.c1
    have c2 := C1.c2
    have c3 := C1.c3
    have c4 := C1.c4
    have K1 := Lib.hid C1
    have HG := Lib.hid hg
    clear h hg C1
    have CR := Lib.hid cR
    go_enter Try.func14, Try.ntmps14
    go_wp2_with (first
      | (rw [← hw1, ← HG.out]; clear hw1)
      | (go_at_call 21; refine (CR.out w1 K1.out.rd).mono ?_; rintro e w2 ⟨rfl, hb2⟩; have K2 := Lib.hid (K1.out.next hb2); have c02 := K2.out.c0; have c12 := K2.out.c1; have c22 := K2.out.c2; have c32 := K2.out.c3; have c42 := K2.out.c4; clear hb2))
    go_ret
    exact ⟨rfl, K2.out.bel⟩
  · obtain ⟨⟨hl2, hl1⟩, hp2, hp1⟩ := hb rfl
    have hl : 0 ≤ lg ∧ lg ≤ 1024 := ⟨by omega, hl1⟩
    by_cases hp : 0 ≤ z ∧ z ≤ pg - 1
    · rw [show pageZ true lg pg z = lg + 2 + z by unfold pageZ; rw [if_pos ⟨rfl, hp⟩]]
      have d := decide_eq_true hp
      obtain ⟨w1, hw1⟩ : ∃ w1, w1 = w.alloc (.cells (cc lg pg en gn A n cap) 24) := ⟨_, rfl⟩
      have C1 := CAt.new h lg pg en gn cap
      rw [← hw1] at C1
      obtain ⟨g, hg⟩ : ∃ g, g = w.heap.size := ⟨_, rfl⟩
      rw [← hg] at C1
      have c0 := C1.c0
      have c1 := C1.c1
      have c2 := C1.c2
      have c3 := C1.c3
      have c4 := C1.c4
      have K1 := Lib.hid C1
      have HG := Lib.hid hg
      clear h hg C1
      have CR := Lib.hid cR
      go_enter Try.func14, Try.ntmps14
      go_wp2_with (first
        | (rw [← hw1, ← HG.out]; clear hw1)
        | (go_at_call 21; refine (CR.out w1 K1.out.rd).mono ?_; rintro e w2 ⟨rfl, hb2⟩; have K2 := Lib.hid (K1.out.next hb2); have c02 := K2.out.c0; have c12 := K2.out.c1; have c22 := K2.out.c2; have c32 := K2.out.c3; have c42 := K2.out.c4; clear hb2)
        | (go_at_call 22; refine (gwithin_any _ _ _ _).mono ?_; rintro e w' ⟨rfl, rfl⟩; rw [d])
        | (go_at_call 25; refine (first_2 lg pg en gn A n cap ks w2 K2.out.rd hl).mono ?_; rintro e w3 ⟨rfl, hb3⟩; have K3 := Lib.hid (K2.out.next hb3); have c03 := K3.out.c0; have c13 := K3.out.c1; have c23 := K3.out.c2; have c33 := K3.out.c3; have c43 := K3.out.c4; clear hb3))
      go_ret
      exact ⟨ret_int (by first | omega | (rw [IntKind.wrap_i64]; omega)), K3.out.bel⟩
    · rw [show pageZ true lg pg z = -1 by unfold pageZ; rw [if_neg (fun q => hp q.2)]]
      have d := decide_eq_false hp
      obtain ⟨w1, hw1⟩ : ∃ w1, w1 = w.alloc (.cells (cc lg pg en gn A n cap) 24) := ⟨_, rfl⟩
      have C1 := CAt.new h lg pg en gn cap
      rw [← hw1] at C1
      obtain ⟨g, hg⟩ : ∃ g, g = w.heap.size := ⟨_, rfl⟩
      rw [← hg] at C1
      have c0 := C1.c0
      have c1 := C1.c1
      have c2 := C1.c2
      have c3 := C1.c3
      have c4 := C1.c4
      have K1 := Lib.hid C1
      have HG := Lib.hid hg
      clear h hg C1
      have CR := Lib.hid cR
      go_enter Try.func14, Try.ntmps14
      go_wp2_with (first
        | (rw [← hw1, ← HG.out]; clear hw1)
        | (go_at_call 21; refine (CR.out w1 K1.out.rd).mono ?_; rintro e w2 ⟨rfl, hb2⟩; have K2 := Lib.hid (K1.out.next hb2); have c02 := K2.out.c0; have c12 := K2.out.c1; have c22 := K2.out.c2; have c32 := K2.out.c3; have c42 := K2.out.c4; clear hb2)
        | (go_at_call 22; refine (gwithin_any _ _ _ _).mono ?_; rintro e w' ⟨rfl, rfl⟩; rw [d]))
      go_ret
      exact ⟨rfl, K2.out.bel⟩

theorem GRoom_any (h : KRd w A n ks) {R : Bool} (cR : GRt lg pg en gn A n cap ks R) (hb : R = true → (2 ≤ lg ∧ lg ≤ 1024) ∧ (4 ≤ pg ∧ pg ≤ 1024)) (a t : Int) :
    Calls Try.prog 18 #[cv lg pg en gn A n cap, .int .i64 a, .int .i64 t] w fun e w' => e = .returned (.int .i64 (roomZ R lg a t)) ∧ Below w.heap.size w w' := by
  cases R
  · rw [show roomZ false lg a t = -1 by simp [roomZ]]
    obtain ⟨w1, hw1⟩ : ∃ w1, w1 = w.alloc (.cells (cc lg pg en gn A n cap) 24) := ⟨_, rfl⟩
    have C1 := CAt.new h lg pg en gn cap
    rw [← hw1] at C1
    obtain ⟨g, hg⟩ : ∃ g, g = w.heap.size := ⟨_, rfl⟩
    rw [← hg] at C1
    have c0 := C1.c0
    have c1 := C1.c1
    have c2 := C1.c2
    have c3 := C1.c3
    have c4 := C1.c4
    have K1 := Lib.hid C1
    have HG := Lib.hid hg
    clear h hg C1
    have CR := Lib.hid cR
    go_enter Try.func18, Try.ntmps18
    go_wp2_with (first
      | (rw [← hw1, ← HG.out]; clear hw1)
      | (go_at_call 21; refine (CR.out w1 K1.out.rd).mono ?_; rintro e w2 ⟨rfl, hb2⟩; have K2 := Lib.hid (K1.out.next hb2); have c02 := K2.out.c0; have c12 := K2.out.c1; have c22 := K2.out.c2; have c32 := K2.out.c3; have c42 := K2.out.c4; clear hb2))
    go_ret
    exact ⟨rfl, K2.out.bel⟩
  · obtain ⟨⟨hl2, hl1⟩, _⟩ := hb rfl
    by_cases hp : 0 ≤ a ∧ a ≤ t
    · have d := decide_eq_true hp
      by_cases h1 : 281474976710656 < t
      · rw [show roomZ true lg a t = -1 by unfold roomZ; rw [if_neg (fun q => by omega)]]
        have d1 : decide (281474976710656 < t) = true := decide_eq_true h1
        obtain ⟨w1, hw1⟩ : ∃ w1, w1 = w.alloc (.cells (cc lg pg en gn A n cap) 24) := ⟨_, rfl⟩
        have C1 := CAt.new h lg pg en gn cap
        rw [← hw1] at C1
        obtain ⟨g, hg⟩ : ∃ g, g = w.heap.size := ⟨_, rfl⟩
        rw [← hg] at C1
        have c0 := C1.c0
        have c1 := C1.c1
        have c2 := C1.c2
        have c3 := C1.c3
        have c4 := C1.c4
        have K1 := Lib.hid C1
        have HG := Lib.hid hg
        clear h hg C1
        have CR := Lib.hid cR
        go_enter Try.func18, Try.ntmps18
        go_wp2_with (first
          | (rw [← hw1, ← HG.out]; clear hw1)
          | (go_at_call 21; refine (CR.out w1 K1.out.rd).mono ?_; rintro e w2 ⟨rfl, hb2⟩; have K2 := Lib.hid (K1.out.next hb2); have c02 := K2.out.c0; have c12 := K2.out.c1; have c22 := K2.out.c2; have c32 := K2.out.c3; have c42 := K2.out.c4; clear hb2)
          | (go_at_call 22; refine (gwithin_any _ _ _ _).mono ?_; rintro e w' ⟨rfl, rfl⟩; rw [d]))
        go_ret
        exact ⟨rfl, K2.out.bel⟩
      · have d1 : decide (281474976710656 < t) = false := decide_eq_false h1
        by_cases h2 : t - a ≤ lg
        · rw [show roomZ true lg a t = lg - (t - a) by unfold roomZ; rw [if_pos ⟨rfl, hp.1, hp.2, by omega, h2⟩]]
          obtain ⟨w1, hw1⟩ : ∃ w1, w1 = w.alloc (.cells (cc lg pg en gn A n cap) 24) := ⟨_, rfl⟩
          have C1 := CAt.new h lg pg en gn cap
          rw [← hw1] at C1
          obtain ⟨g, hg⟩ : ∃ g, g = w.heap.size := ⟨_, rfl⟩
          rw [← hg] at C1
          have c0 := C1.c0
          have c1 := C1.c1
          have c2 := C1.c2
          have c3 := C1.c3
          have c4 := C1.c4
          have K1 := Lib.hid C1
          have HG := Lib.hid hg
          clear h hg C1
          have CR := Lib.hid cR
          go_enter Try.func18, Try.ntmps18
          go_wp2_with (first
            | (rw [← hw1, ← HG.out]; clear hw1)
            | (go_at_call 21; refine (CR.out w1 K1.out.rd).mono ?_; rintro e w2 ⟨rfl, hb2⟩; have K2 := Lib.hid (K1.out.next hb2); have c02 := K2.out.c0; have c12 := K2.out.c1; have c22 := K2.out.c2; have c32 := K2.out.c3; have c42 := K2.out.c4; clear hb2)
            | (go_at_call 22; refine (gwithin_any _ _ _ _).mono ?_; rintro e w' ⟨rfl, rfl⟩; rw [d]))
          go_ret
          exact ⟨ret_int (by first | omega | (rw [IntKind.wrap_i64]; omega)), K2.out.bel⟩
        · rw [show roomZ true lg a t = -1 by unfold roomZ; rw [if_neg (fun q => by omega)]]
          obtain ⟨w1, hw1⟩ : ∃ w1, w1 = w.alloc (.cells (cc lg pg en gn A n cap) 24) := ⟨_, rfl⟩
          have C1 := CAt.new h lg pg en gn cap
          rw [← hw1] at C1
          obtain ⟨g, hg⟩ : ∃ g, g = w.heap.size := ⟨_, rfl⟩
          rw [← hg] at C1
          have c0 := C1.c0
          have c1 := C1.c1
          have c2 := C1.c2
          have c3 := C1.c3
          have c4 := C1.c4
          have K1 := Lib.hid C1
          have HG := Lib.hid hg
          clear h hg C1
          have CR := Lib.hid cR
          go_enter Try.func18, Try.ntmps18
          go_wp2_with (first
            | (rw [← hw1, ← HG.out]; clear hw1)
            | (go_at_call 21; refine (CR.out w1 K1.out.rd).mono ?_; rintro e w2 ⟨rfl, hb2⟩; have K2 := Lib.hid (K1.out.next hb2); have c02 := K2.out.c0; have c12 := K2.out.c1; have c22 := K2.out.c2; have c32 := K2.out.c3; have c42 := K2.out.c4; clear hb2)
            | (go_at_call 22; refine (gwithin_any _ _ _ _).mono ?_; rintro e w' ⟨rfl, rfl⟩; rw [d]))
          go_ret
          exact ⟨rfl, K2.out.bel⟩
    · rw [show roomZ true lg a t = -1 by unfold roomZ; rw [if_neg (fun q => by omega)]]
      have d := decide_eq_false hp
      obtain ⟨w1, hw1⟩ : ∃ w1, w1 = w.alloc (.cells (cc lg pg en gn A n cap) 24) := ⟨_, rfl⟩
      have C1 := CAt.new h lg pg en gn cap
      rw [← hw1] at C1
      obtain ⟨g, hg⟩ : ∃ g, g = w.heap.size := ⟨_, rfl⟩
      rw [← hg] at C1
      have c0 := C1.c0
      have c1 := C1.c1
      have c2 := C1.c2
      have c3 := C1.c3
      have c4 := C1.c4
      have K1 := Lib.hid C1
      have HG := Lib.hid hg
      clear h hg C1
      have CR := Lib.hid cR
      go_enter Try.func18, Try.ntmps18
      go_wp2_with (first
        | (rw [← hw1, ← HG.out]; clear hw1)
        | (go_at_call 21; refine (CR.out w1 K1.out.rd).mono ?_; rintro e w2 ⟨rfl, hb2⟩; have K2 := Lib.hid (K1.out.next hb2); have c02 := K2.out.c0; have c12 := K2.out.c1; have c22 := K2.out.c2; have c32 := K2.out.c3; have c42 := K2.out.c4; clear hb2)
        | (go_at_call 22; refine (gwithin_any _ _ _ _).mono ?_; rintro e w' ⟨rfl, rfl⟩; rw [d]))
      go_ret
      exact ⟨rfl, K2.out.bel⟩

theorem GWhat_any (h : KRd w A n ks) {R : Bool} (cR : GRt lg pg en gn A n cap ks R) (hb : R = true → (2 ≤ lg ∧ lg ≤ 1024) ∧ (4 ≤ pg ∧ pg ≤ 1024)) (z : Int) :
    Calls Try.prog 8 #[cv lg pg en gn A n cap, .int .i64 z] w fun e w' => e = .returned (.tuple #[.int .i64 (whatK R lg pg z), .int .i64 (whatN R lg pg z)]) ∧ Below w.heap.size w w' := by
  cases R
  · have hi : ¬ InZ false lg pg z := fun q => by cases q.1
    rw [show whatK false lg pg z = 0 by unfold whatK; rw [if_neg hi], show whatN false lg pg z = 0 by unfold whatN; rw [if_neg hi]]
    obtain ⟨w1, hw1⟩ : ∃ w1, w1 = w.alloc (.cells (cc lg pg en gn A n cap) 24) := ⟨_, rfl⟩
    have C1 := CAt.new h lg pg en gn cap
    rw [← hw1] at C1
    obtain ⟨g, hg⟩ : ∃ g, g = w.heap.size := ⟨_, rfl⟩
    rw [← hg] at C1
    have c0 := C1.c0
    have c1 := C1.c1
    have c2 := C1.c2
    have c3 := C1.c3
    have c4 := C1.c4
    have K1 := Lib.hid C1
    have HG := Lib.hid hg
    clear h hg C1
    have CR := Lib.hid cR
    go_enter Try.func8, Try.ntmps8
    go_wp2_with (first
      | (rw [← hw1, ← HG.out]; clear hw1)
      | (go_at_call 21; refine (CR.out w1 K1.out.rd).mono ?_; rintro e w2 ⟨rfl, hb2⟩; have K2 := Lib.hid (K1.out.next hb2); have c02 := K2.out.c0; have c12 := K2.out.c1; have c22 := K2.out.c2; have c32 := K2.out.c3; have c42 := K2.out.c4; clear hb2))
    go_ret2
    exact ⟨rfl, K2.out.bel⟩
  · obtain ⟨⟨hl2, hl1⟩, hp2, hp1⟩ := hb rfl
    have hl : 0 ≤ lg ∧ lg ≤ 1024 := ⟨by omega, hl1⟩
    have hpg : 0 ≤ pg ∧ pg ≤ 1024 := ⟨by omega, hp1⟩
    by_cases hp : 0 ≤ z ∧ z ≤ lg + pg + 2 - 1
    · have hi : InZ true lg pg z := ⟨rfl, hp.1, by omega⟩
      have d := decide_eq_true hp
      rw [show whatK true lg pg z = liesZ lg z by unfold whatK; rw [if_pos hi], show whatN true lg pg z = z - firstZ lg (liesZ lg z) by unfold whatN; rw [if_pos hi]]
      clear hi
      by_cases h1 : z < 2
      · have eL : liesZ lg z = 3 := by unfold liesZ; rw [if_pos h1]
        rw [eL, show firstZ lg 3 = 0 from rfl, Int.sub_zero]
        obtain ⟨hz0, hz1⟩ := hp
        have d : decide (0 ≤ z ∧ z ≤ lg + pg + 2 - 1) = true := d
        obtain ⟨w1, hw1⟩ : ∃ w1, w1 = w.alloc (.cells (cc lg pg en gn A n cap) 24) := ⟨_, rfl⟩
        have C1 := CAt.new h lg pg en gn cap
        rw [← hw1] at C1
        obtain ⟨g, hg⟩ : ∃ g, g = w.heap.size := ⟨_, rfl⟩
        rw [← hg] at C1
        have c0 := C1.c0
        have c1 := C1.c1
        have c2 := C1.c2
        have c3 := C1.c3
        have c4 := C1.c4
        have K1 := Lib.hid C1
        have HG := Lib.hid hg
        clear h hg C1
        have CR := Lib.hid cR
        go_enter Try.func8, Try.ntmps8
        go_wp2_with (first
          | (rw [← hw1, ← HG.out]; clear hw1)
          | (go_at_call 21; refine (CR.out w1 K1.out.rd).mono ?_; rintro e w2 ⟨rfl, hb2⟩; have K2 := Lib.hid (K1.out.next hb2); have c02 := K2.out.c0; have c12 := K2.out.c1; have c22 := K2.out.c2; have c32 := K2.out.c3; have c42 := K2.out.c4; clear hb2)
          | (go_at_call 23; refine (Sectors_any lg pg en gn A n cap ks w2 K2.out.rd hl hpg).mono ?_; rintro e w3 ⟨rfl, hb3⟩; have K3 := Lib.hid (K2.out.next hb3); have c03 := K3.out.c0; have c13 := K3.out.c1; have c23 := K3.out.c2; have c33 := K3.out.c3; have c43 := K3.out.c4; clear hb3)
          | (go_at_call 22; refine (gwithin_any _ _ _ _).mono ?_; rintro e w' ⟨rfl, rfl⟩; rw [d])
          | (go_at_call 24; refine (lies_any lg pg en gn A n cap ks w3 K3.out.rd hl z).mono ?_; rintro e w4 ⟨rfl, hb4⟩; rw [eL]; have K4 := Lib.hid (K3.out.next hb4); have c04 := K4.out.c0; have c14 := K4.out.c1; have c24 := K4.out.c2; have c34 := K4.out.c3; have c44 := K4.out.c4; clear hb4)
          | (go_at_call 25; refine (first_3 lg pg en gn A n cap ks w4 K4.out.rd hl).mono ?_; rintro e w5 ⟨rfl, hb5⟩; have K5 := Lib.hid (K4.out.next hb5); have c05 := K5.out.c0; have c15 := K5.out.c1; have c25 := K5.out.c2; have c35 := K5.out.c3; have c45 := K5.out.c4; clear hb5))
        go_ret2
        exact ⟨rfl, K5.out.bel⟩
      · by_cases h2 : z < lg + 2
        · have eL : liesZ lg z = 1 := by unfold liesZ; rw [if_neg h1, if_pos h2]
          rw [eL, show firstZ lg 1 = 2 from rfl]
          obtain ⟨hz0, hz1⟩ := hp
          have d : decide (0 ≤ z ∧ z ≤ lg + pg + 2 - 1) = true := d
          obtain ⟨w1, hw1⟩ : ∃ w1, w1 = w.alloc (.cells (cc lg pg en gn A n cap) 24) := ⟨_, rfl⟩
          have C1 := CAt.new h lg pg en gn cap
          rw [← hw1] at C1
          obtain ⟨g, hg⟩ : ∃ g, g = w.heap.size := ⟨_, rfl⟩
          rw [← hg] at C1
          have c0 := C1.c0
          have c1 := C1.c1
          have c2 := C1.c2
          have c3 := C1.c3
          have c4 := C1.c4
          have K1 := Lib.hid C1
          have HG := Lib.hid hg
          clear h hg C1
          have CR := Lib.hid cR
          go_enter Try.func8, Try.ntmps8
          go_wp2_with (first
            | (rw [← hw1, ← HG.out]; clear hw1)
            | (go_at_call 21; refine (CR.out w1 K1.out.rd).mono ?_; rintro e w2 ⟨rfl, hb2⟩; have K2 := Lib.hid (K1.out.next hb2); have c02 := K2.out.c0; have c12 := K2.out.c1; have c22 := K2.out.c2; have c32 := K2.out.c3; have c42 := K2.out.c4; clear hb2)
            | (go_at_call 23; refine (Sectors_any lg pg en gn A n cap ks w2 K2.out.rd hl hpg).mono ?_; rintro e w3 ⟨rfl, hb3⟩; have K3 := Lib.hid (K2.out.next hb3); have c03 := K3.out.c0; have c13 := K3.out.c1; have c23 := K3.out.c2; have c33 := K3.out.c3; have c43 := K3.out.c4; clear hb3)
            | (go_at_call 22; refine (gwithin_any _ _ _ _).mono ?_; rintro e w' ⟨rfl, rfl⟩; rw [d])
            | (go_at_call 24; refine (lies_any lg pg en gn A n cap ks w3 K3.out.rd hl z).mono ?_; rintro e w4 ⟨rfl, hb4⟩; rw [eL]; have K4 := Lib.hid (K3.out.next hb4); have c04 := K4.out.c0; have c14 := K4.out.c1; have c24 := K4.out.c2; have c34 := K4.out.c3; have c44 := K4.out.c4; clear hb4)
            | (go_at_call 25; refine (first_1 lg pg en gn A n cap ks w4 K4.out.rd hl).mono ?_; rintro e w5 ⟨rfl, hb5⟩; have K5 := Lib.hid (K4.out.next hb5); have c05 := K5.out.c0; have c15 := K5.out.c1; have c25 := K5.out.c2; have c35 := K5.out.c3; have c45 := K5.out.c4; clear hb5))
          go_ret2
          exact ⟨rfl, K5.out.bel⟩
        · have eL : liesZ lg z = 2 := by unfold liesZ; rw [if_neg h1, if_neg h2]
          rw [eL, show firstZ lg 2 = lg + 2 from rfl]
          obtain ⟨hz0, hz1⟩ := hp
          have d : decide (0 ≤ z ∧ z ≤ lg + pg + 2 - 1) = true := d
          obtain ⟨w1, hw1⟩ : ∃ w1, w1 = w.alloc (.cells (cc lg pg en gn A n cap) 24) := ⟨_, rfl⟩
          have C1 := CAt.new h lg pg en gn cap
          rw [← hw1] at C1
          obtain ⟨g, hg⟩ : ∃ g, g = w.heap.size := ⟨_, rfl⟩
          rw [← hg] at C1
          have c0 := C1.c0
          have c1 := C1.c1
          have c2 := C1.c2
          have c3 := C1.c3
          have c4 := C1.c4
          have K1 := Lib.hid C1
          have HG := Lib.hid hg
          clear h hg C1
          have CR := Lib.hid cR
          go_enter Try.func8, Try.ntmps8
          go_wp2_with (first
            | (rw [← hw1, ← HG.out]; clear hw1)
            | (go_at_call 21; refine (CR.out w1 K1.out.rd).mono ?_; rintro e w2 ⟨rfl, hb2⟩; have K2 := Lib.hid (K1.out.next hb2); have c02 := K2.out.c0; have c12 := K2.out.c1; have c22 := K2.out.c2; have c32 := K2.out.c3; have c42 := K2.out.c4; clear hb2)
            | (go_at_call 23; refine (Sectors_any lg pg en gn A n cap ks w2 K2.out.rd hl hpg).mono ?_; rintro e w3 ⟨rfl, hb3⟩; have K3 := Lib.hid (K2.out.next hb3); have c03 := K3.out.c0; have c13 := K3.out.c1; have c23 := K3.out.c2; have c33 := K3.out.c3; have c43 := K3.out.c4; clear hb3)
            | (go_at_call 22; refine (gwithin_any _ _ _ _).mono ?_; rintro e w' ⟨rfl, rfl⟩; rw [d])
            | (go_at_call 24; refine (lies_any lg pg en gn A n cap ks w3 K3.out.rd hl z).mono ?_; rintro e w4 ⟨rfl, hb4⟩; rw [eL]; have K4 := Lib.hid (K3.out.next hb4); have c04 := K4.out.c0; have c14 := K4.out.c1; have c24 := K4.out.c2; have c34 := K4.out.c3; have c44 := K4.out.c4; clear hb4)
            | (go_at_call 25; refine (first_2 lg pg en gn A n cap ks w4 K4.out.rd hl).mono ?_; rintro e w5 ⟨rfl, hb5⟩; have K5 := Lib.hid (K4.out.next hb5); have c05 := K5.out.c0; have c15 := K5.out.c1; have c25 := K5.out.c2; have c35 := K5.out.c3; have c45 := K5.out.c4; clear hb5))
          go_ret2
          exact ⟨rfl, K5.out.bel⟩
    · have hi : ¬ InZ true lg pg z := fun q => hp ⟨q.2.1, by have := q.2.2; omega⟩
      have d := decide_eq_false hp
      rw [show whatK true lg pg z = 0 by unfold whatK; rw [if_neg hi], show whatN true lg pg z = 0 by unfold whatN; rw [if_neg hi]]
      obtain ⟨w1, hw1⟩ : ∃ w1, w1 = w.alloc (.cells (cc lg pg en gn A n cap) 24) := ⟨_, rfl⟩
      have C1 := CAt.new h lg pg en gn cap
      rw [← hw1] at C1
      obtain ⟨g, hg⟩ : ∃ g, g = w.heap.size := ⟨_, rfl⟩
      rw [← hg] at C1
      have c0 := C1.c0
      have c1 := C1.c1
      have c2 := C1.c2
      have c3 := C1.c3
      have c4 := C1.c4
      have K1 := Lib.hid C1
      have HG := Lib.hid hg
      clear h hg C1
      have CR := Lib.hid cR
      go_enter Try.func8, Try.ntmps8
      go_wp2_with (first
        | (rw [← hw1, ← HG.out]; clear hw1)
        | (go_at_call 21; refine (CR.out w1 K1.out.rd).mono ?_; rintro e w2 ⟨rfl, hb2⟩; have K2 := Lib.hid (K1.out.next hb2); have c02 := K2.out.c0; have c12 := K2.out.c1; have c22 := K2.out.c2; have c32 := K2.out.c3; have c42 := K2.out.c4; clear hb2)
        | (go_at_call 23; refine (Sectors_any lg pg en gn A n cap ks w2 K2.out.rd hl hpg).mono ?_; rintro e w3 ⟨rfl, hb3⟩; have K3 := Lib.hid (K2.out.next hb3); have c03 := K3.out.c0; have c13 := K3.out.c1; have c23 := K3.out.c2; have c33 := K3.out.c3; have c43 := K3.out.c4; clear hb3)
        | (go_at_call 22; refine (gwithin_any _ _ _ _).mono ?_; rintro e w' ⟨rfl, rfl⟩; rw [d]))
      go_ret2
      exact ⟨rfl, K3.out.bel⟩
end
end Go.Proofs.Ytabmaiphjcbfbaa
