/- The contract of Check; written by wip/tools/gen_cmcheck.py. -/
import Derived.Test.YtabmaiphjcbfbaaCm3
import Derived.Test.YtabmaiphjcbfbaaCmA
namespace Go.Proofs.Ytabmaiphjcbfbaa
open Go.RowKit
set_option linter.unusedVariables false

section
variable (lg pg en gn : Int) (A : Option Addr) (n cap : Nat) (ks : List Kd) (w : World)

theorem Check_0 (h : KRd w A n ks) (hn : n ≤ 1000000) (hs : Lens ks) (d0 : decide (2 ≤ lg ∧ lg ≤ 1024) = false) :
    Calls Try.prog 29 #[cv lg pg en gn A n cap] w fun e w' => e = .returned (.int .i64 1) ∧ Below w.heap.size w w' := by
  obtain ⟨w1, hw1⟩ : ∃ w1, w1 = w.alloc (.cells (cc lg pg en gn A n cap) 24) := ⟨_, rfl⟩
  have C1 := CAt.new h lg pg en gn cap
  rw [← hw1] at C1
  obtain ⟨g, hg⟩ : ∃ g, g = w.heap.size := ⟨_, rfl⟩
  rw [← hg] at C1
  have HG := Lib.hid hg
  clear h hg
  have c0 := C1.c0
  have c1 := C1.c1
  have c2 := C1.c2
  have c3 := C1.c3
  have c4 := C1.c4
  have K1 := Lib.hid C1
  clear C1
  go_enter Try.func29, Try.ntmps29
  go_wp2_with (first
    | (rw [← hw1, ← HG.out]; clear hw1)
    | (go_at_call 30; refine (within_any _ _ _ _).mono ?_; rintro e w' ⟨rfl, rfl⟩; (first | rw [d0])))
  go_ret
  exact ⟨rfl, K1.out.bel⟩

theorem Check_1 (h : KRd w A n ks) (hn : n ≤ 1000000) (hs : Lens ks) (d0 : decide (2 ≤ lg ∧ lg ≤ 1024) = true) (d1 : decide (4 ≤ pg ∧ pg ≤ 1024) = false) :
    Calls Try.prog 29 #[cv lg pg en gn A n cap] w fun e w' => e = .returned (.int .i64 1) ∧ Below w.heap.size w w' := by
  obtain ⟨w1, hw1⟩ : ∃ w1, w1 = w.alloc (.cells (cc lg pg en gn A n cap) 24) := ⟨_, rfl⟩
  have C1 := CAt.new h lg pg en gn cap
  rw [← hw1] at C1
  obtain ⟨g, hg⟩ : ∃ g, g = w.heap.size := ⟨_, rfl⟩
  rw [← hg] at C1
  have HG := Lib.hid hg
  clear h hg
  have c0 := C1.c0
  have c1 := C1.c1
  have c2 := C1.c2
  have c3 := C1.c3
  have c4 := C1.c4
  have K1 := Lib.hid C1
  clear C1
  go_enter Try.func29, Try.ntmps29
  go_wp2_with (first
    | (rw [← hw1, ← HG.out]; clear hw1)
    | (go_at_call 30; refine (within_any _ _ _ _).mono ?_; rintro e w' ⟨rfl, rfl⟩; (first | rw [d0] | rw [d1])))
  go_ret
  exact ⟨rfl, K1.out.bel⟩

theorem Check_2 (h : KRd w A n ks) (hn : n ≤ 1000000) (hs : Lens ks) (d0 : decide (2 ≤ lg ∧ lg ≤ 1024) = true) (d1 : decide (4 ≤ pg ∧ pg ≤ 1024) = true) (d2 : decide (1 ≤ en ∧ en ≤ 1024) = false) :
    Calls Try.prog 29 #[cv lg pg en gn A n cap] w fun e w' => e = .returned (.int .i64 1) ∧ Below w.heap.size w w' := by
  obtain ⟨w1, hw1⟩ : ∃ w1, w1 = w.alloc (.cells (cc lg pg en gn A n cap) 24) := ⟨_, rfl⟩
  have C1 := CAt.new h lg pg en gn cap
  rw [← hw1] at C1
  obtain ⟨g, hg⟩ : ∃ g, g = w.heap.size := ⟨_, rfl⟩
  rw [← hg] at C1
  have HG := Lib.hid hg
  clear h hg
  have c0 := C1.c0
  have c1 := C1.c1
  have c2 := C1.c2
  have c3 := C1.c3
  have c4 := C1.c4
  have K1 := Lib.hid C1
  clear C1
  go_enter Try.func29, Try.ntmps29
  go_wp2_with (first
    | (rw [← hw1, ← HG.out]; clear hw1)
    | (go_at_call 30; refine (within_any _ _ _ _).mono ?_; rintro e w' ⟨rfl, rfl⟩; (first | rw [d0] | rw [d1] | rw [d2])))
  go_ret
  exact ⟨rfl, K1.out.bel⟩

theorem Check_3 (h : KRd w A n ks) (hn : n ≤ 1000000) (hs : Lens ks) (d0 : decide (2 ≤ lg ∧ lg ≤ 1024) = true) (d1 : decide (4 ≤ pg ∧ pg ≤ 1024) = true) (d2 : decide (1 ≤ en ∧ en ≤ 1024) = true) (d3 : decide (1 ≤ gn ∧ gn ≤ 1073741824) = false) :
    Calls Try.prog 29 #[cv lg pg en gn A n cap] w fun e w' => e = .returned (.int .i64 1) ∧ Below w.heap.size w w' := by
  obtain ⟨w1, hw1⟩ : ∃ w1, w1 = w.alloc (.cells (cc lg pg en gn A n cap) 24) := ⟨_, rfl⟩
  have C1 := CAt.new h lg pg en gn cap
  rw [← hw1] at C1
  obtain ⟨g, hg⟩ : ∃ g, g = w.heap.size := ⟨_, rfl⟩
  rw [← hg] at C1
  have HG := Lib.hid hg
  clear h hg
  have c0 := C1.c0
  have c1 := C1.c1
  have c2 := C1.c2
  have c3 := C1.c3
  have c4 := C1.c4
  have K1 := Lib.hid C1
  clear C1
  go_enter Try.func29, Try.ntmps29
  go_wp2_with (first
    | (rw [← hw1, ← HG.out]; clear hw1)
    | (go_at_call 30; refine (within_any _ _ _ _).mono ?_; rintro e w' ⟨rfl, rfl⟩; (first | rw [d0] | rw [d1] | rw [d2] | rw [d3])))
  go_ret
  exact ⟨rfl, K1.out.bel⟩

theorem Check_4 (h : KRd w A n ks) (hn : n ≤ 1000000) (hs : Lens ks) (d0 : decide (2 ≤ lg ∧ lg ≤ 1024) = true) (d1 : decide (4 ≤ pg ∧ pg ≤ 1024) = true) (d2 : decide (1 ≤ en ∧ en ≤ 1024) = true) (d3 : decide (1 ≤ gn ∧ gn ≤ 1073741824) = true) (d4 : ¬ n ≤ 32) :
    Calls Try.prog 29 #[cv lg pg en gn A n cap] w fun e w' => e = .returned (.int .i64 1) ∧ Below w.heap.size w w' := by
  obtain ⟨w1, hw1⟩ : ∃ w1, w1 = w.alloc (.cells (cc lg pg en gn A n cap) 24) := ⟨_, rfl⟩
  have C1 := CAt.new h lg pg en gn cap
  rw [← hw1] at C1
  obtain ⟨g, hg⟩ : ∃ g, g = w.heap.size := ⟨_, rfl⟩
  rw [← hg] at C1
  have HG := Lib.hid hg
  clear h hg
  have c0 := C1.c0
  have c1 := C1.c1
  have c2 := C1.c2
  have c3 := C1.c3
  have c4 := C1.c4
  have K1 := Lib.hid C1
  clear C1
  have d4' : ¬ (n : Int) ≤ 32 := by omega
  have d4'' : decide ((n : Int) ≤ 32) = false := decide_eq_false d4'
  go_enter Try.func29, Try.ntmps29
  go_wp2_with (first
    | (rw [← hw1, ← HG.out]; clear hw1)
    | (go_at_call 30; refine (within_any _ _ _ _).mono ?_; rintro e w' ⟨rfl, rfl⟩; (first | rw [d0] | rw [d1] | rw [d2] | rw [d3])))
  go_ret
  exact ⟨rfl, K1.out.bel⟩

theorem Check_5 (h : KRd w A n ks) (hn : n ≤ 1000000) (hs : Lens ks) (d0 : decide (2 ≤ lg ∧ lg ≤ 1024) = true) (d1 : decide (4 ≤ pg ∧ pg ≤ 1024) = true) (d2 : decide (1 ≤ en ∧ en ≤ 1024) = true) (d3 : decide (1 ≤ gn ∧ gn ≤ 1073741824) = true) (d4 : n ≤ 32) (d5 : decide (Named ks) = false) :
    Calls Try.prog 29 #[cv lg pg en gn A n cap] w fun e w' => e = .returned (.int .i64 1) ∧ Below w.heap.size w w' := by
  obtain ⟨w1, hw1⟩ : ∃ w1, w1 = w.alloc (.cells (cc lg pg en gn A n cap) 24) := ⟨_, rfl⟩
  have C1 := CAt.new h lg pg en gn cap
  rw [← hw1] at C1
  obtain ⟨g, hg⟩ : ∃ g, g = w.heap.size := ⟨_, rfl⟩
  rw [← hg] at C1
  have HG := Lib.hid hg
  clear h hg
  have c0 := C1.c0
  have c1 := C1.c1
  have c2 := C1.c2
  have c3 := C1.c3
  have c4 := C1.c4
  have K1 := Lib.hid C1
  clear C1
  have d4' : (n : Int) ≤ 32 := by omega
  go_enter Try.func29, Try.ntmps29
  go_wp2_with (first
    | (rw [← hw1, ← HG.out]; clear hw1)
    | (go_at_call 30; refine (within_any _ _ _ _).mono ?_; rintro e w' ⟨rfl, rfl⟩; (first | rw [d0] | rw [d1] | rw [d2] | rw [d3])))
  refine (named_any A n cap ks _ K1.out.rd hn hs).mono ?_
  rintro e w2 ⟨rfl, hb2⟩
  rw [d5]
  have C2 := K1.out.next hb2
  clear c0 c1 c2 c3 c4 hb2
  have c0 := C2.c0
  have c1 := C2.c1
  have c2 := C2.c2
  have c3 := C2.c3
  have c4 := C2.c4
  have K2 := Lib.hid C2
  clear C2
  go_wp2_with (fail)
  go_ret
  exact ⟨rfl, K2.out.bel⟩

theorem Check_6 (h : KRd w A n ks) (hn : n ≤ 1000000) (hs : Lens ks) (d0 : decide (2 ≤ lg ∧ lg ≤ 1024) = true) (d1 : decide (4 ≤ pg ∧ pg ≤ 1024) = true) (d2 : decide (1 ≤ en ∧ en ≤ 1024) = true) (d3 : decide (1 ≤ gn ∧ gn ≤ 1073741824) = true) (d4 : n ≤ 32) (d5 : decide (Named ks) = true) (d6 : decide (Apart ks) = false) :
    Calls Try.prog 29 #[cv lg pg en gn A n cap] w fun e w' => e = .returned (.int .i64 1) ∧ Below w.heap.size w w' := by
  obtain ⟨w1, hw1⟩ : ∃ w1, w1 = w.alloc (.cells (cc lg pg en gn A n cap) 24) := ⟨_, rfl⟩
  have C1 := CAt.new h lg pg en gn cap
  rw [← hw1] at C1
  obtain ⟨g, hg⟩ : ∃ g, g = w.heap.size := ⟨_, rfl⟩
  rw [← hg] at C1
  have HG := Lib.hid hg
  clear h hg
  have c0 := C1.c0
  have c1 := C1.c1
  have c2 := C1.c2
  have c3 := C1.c3
  have c4 := C1.c4
  have K1 := Lib.hid C1
  clear C1
  have d4' : (n : Int) ≤ 32 := by omega
  go_enter Try.func29, Try.ntmps29
  go_wp2_with (first
    | (rw [← hw1, ← HG.out]; clear hw1)
    | (go_at_call 30; refine (within_any _ _ _ _).mono ?_; rintro e w' ⟨rfl, rfl⟩; (first | rw [d0] | rw [d1] | rw [d2] | rw [d3])))
  refine (named_any A n cap ks _ K1.out.rd hn hs).mono ?_
  rintro e w2 ⟨rfl, hb2⟩
  rw [d5]
  have C2 := K1.out.next hb2
  clear c0 c1 c2 c3 c4 hb2
  have c0 := C2.c0
  have c1 := C2.c1
  have c2 := C2.c2
  have c3 := C2.c3
  have c4 := C2.c4
  have K2 := Lib.hid C2
  clear C2
  go_wp2_with (fail)
  refine (apart_any A n cap ks _ K2.out.rd hn).mono ?_
  rintro e w3 ⟨rfl, hb3⟩
  rw [d6]
  have C3 := K2.out.next hb3
  clear c0 c1 c2 c3 c4 hb3
  have c0 := C3.c0
  have c1 := C3.c1
  have c2 := C3.c2
  have c3 := C3.c3
  have c4 := C3.c4
  have K3 := Lib.hid C3
  clear C3
  go_wp2_with (fail)
  go_ret
  exact ⟨rfl, K3.out.bel⟩

theorem Check_7 (h : KRd w A n ks) (hn : n ≤ 1000000) (hs : Lens ks) (d0 : decide (2 ≤ lg ∧ lg ≤ 1024) = true) (d1 : decide (4 ≤ pg ∧ pg ≤ 1024) = true) (d2 : decide (1 ≤ en ∧ en ≤ 1024) = true) (d3 : decide (1 ≤ gn ∧ gn ≤ 1073741824) = true) (d4 : n ≤ 32) (d5 : decide (Named ks) = true) (d6 : decide (Apart ks) = true) (d7 : decide (Sized ks) = false) :
    Calls Try.prog 29 #[cv lg pg en gn A n cap] w fun e w' => e = .returned (.int .i64 1) ∧ Below w.heap.size w w' := by
  obtain ⟨w1, hw1⟩ : ∃ w1, w1 = w.alloc (.cells (cc lg pg en gn A n cap) 24) := ⟨_, rfl⟩
  have C1 := CAt.new h lg pg en gn cap
  rw [← hw1] at C1
  obtain ⟨g, hg⟩ : ∃ g, g = w.heap.size := ⟨_, rfl⟩
  rw [← hg] at C1
  have HG := Lib.hid hg
  clear h hg
  have c0 := C1.c0
  have c1 := C1.c1
  have c2 := C1.c2
  have c3 := C1.c3
  have c4 := C1.c4
  have K1 := Lib.hid C1
  clear C1
  have d4' : (n : Int) ≤ 32 := by omega
  go_enter Try.func29, Try.ntmps29
  go_wp2_with (first
    | (rw [← hw1, ← HG.out]; clear hw1)
    | (go_at_call 30; refine (within_any _ _ _ _).mono ?_; rintro e w' ⟨rfl, rfl⟩; (first | rw [d0] | rw [d1] | rw [d2] | rw [d3])))
  refine (named_any A n cap ks _ K1.out.rd hn hs).mono ?_
  rintro e w2 ⟨rfl, hb2⟩
  rw [d5]
  have C2 := K1.out.next hb2
  clear c0 c1 c2 c3 c4 hb2
  have c0 := C2.c0
  have c1 := C2.c1
  have c2 := C2.c2
  have c3 := C2.c3
  have c4 := C2.c4
  have K2 := Lib.hid C2
  clear C2
  go_wp2_with (fail)
  refine (apart_any A n cap ks _ K2.out.rd hn).mono ?_
  rintro e w3 ⟨rfl, hb3⟩
  rw [d6]
  have C3 := K2.out.next hb3
  clear c0 c1 c2 c3 c4 hb3
  have c0 := C3.c0
  have c1 := C3.c1
  have c2 := C3.c2
  have c3 := C3.c3
  have c4 := C3.c4
  have K3 := Lib.hid C3
  clear C3
  go_wp2_with (fail)
  refine (sized_any A n cap ks _ K3.out.rd hn).mono ?_
  rintro e w4 ⟨rfl, hb4⟩
  rw [d7]
  have C4 := K3.out.next hb4
  clear c0 c1 c2 c3 c4 hb4
  have c0 := C4.c0
  have c1 := C4.c1
  have c2 := C4.c2
  have c3 := C4.c3
  have c4 := C4.c4
  have K4 := Lib.hid C4
  clear C4
  go_wp2_with (fail)
  go_ret
  exact ⟨rfl, K4.out.bel⟩

theorem Check_8 (h : KRd w A n ks) (hn : n ≤ 1000000) (hs : Lens ks) (d0 : decide (2 ≤ lg ∧ lg ≤ 1024) = true) (d1 : decide (4 ≤ pg ∧ pg ≤ 1024) = true) (d2 : decide (1 ≤ en ∧ en ≤ 1024) = true) (d3 : decide (1 ≤ gn ∧ gn ≤ 1073741824) = true) (d4 : n ≤ 32) (d5 : decide (Named ks) = true) (d6 : decide (Apart ks) = true) (d7 : decide (Sized ks) = true) :
    Calls Try.prog 29 #[cv lg pg en gn A n cap] w fun e w' => e = .returned (.int .i64 0) ∧ Below w.heap.size w w' := by
  obtain ⟨w1, hw1⟩ : ∃ w1, w1 = w.alloc (.cells (cc lg pg en gn A n cap) 24) := ⟨_, rfl⟩
  have C1 := CAt.new h lg pg en gn cap
  rw [← hw1] at C1
  obtain ⟨g, hg⟩ : ∃ g, g = w.heap.size := ⟨_, rfl⟩
  rw [← hg] at C1
  have HG := Lib.hid hg
  clear h hg
  have c0 := C1.c0
  have c1 := C1.c1
  have c2 := C1.c2
  have c3 := C1.c3
  have c4 := C1.c4
  have K1 := Lib.hid C1
  clear C1
  have d4' : (n : Int) ≤ 32 := by omega
  go_enter Try.func29, Try.ntmps29
  go_wp2_with (first
    | (rw [← hw1, ← HG.out]; clear hw1)
    | (go_at_call 30; refine (within_any _ _ _ _).mono ?_; rintro e w' ⟨rfl, rfl⟩; (first | rw [d0] | rw [d1] | rw [d2] | rw [d3])))
  refine (named_any A n cap ks _ K1.out.rd hn hs).mono ?_
  rintro e w2 ⟨rfl, hb2⟩
  rw [d5]
  have C2 := K1.out.next hb2
  clear c0 c1 c2 c3 c4 hb2
  have c0 := C2.c0
  have c1 := C2.c1
  have c2 := C2.c2
  have c3 := C2.c3
  have c4 := C2.c4
  have K2 := Lib.hid C2
  clear C2
  go_wp2_with (fail)
  refine (apart_any A n cap ks _ K2.out.rd hn).mono ?_
  rintro e w3 ⟨rfl, hb3⟩
  rw [d6]
  have C3 := K2.out.next hb3
  clear c0 c1 c2 c3 c4 hb3
  have c0 := C3.c0
  have c1 := C3.c1
  have c2 := C3.c2
  have c3 := C3.c3
  have c4 := C3.c4
  have K3 := Lib.hid C3
  clear C3
  go_wp2_with (fail)
  refine (sized_any A n cap ks _ K3.out.rd hn).mono ?_
  rintro e w4 ⟨rfl, hb4⟩
  rw [d7]
  have C4 := K3.out.next hb4
  clear c0 c1 c2 c3 c4 hb4
  have c0 := C4.c0
  have c1 := C4.c1
  have c2 := C4.c2
  have c3 := C4.c3
  have c4 := C4.c4
  have K4 := Lib.hid C4
  clear C4
  go_wp2_with (fail)
  go_ret
  exact ⟨rfl, K4.out.bel⟩

theorem Check_any (h : KRd w A n ks) (hn : n ≤ 1000000) (hs : Lens ks) :
    Calls Try.prog 29 #[cv lg pg en gn A n cap] w fun e w' => e = .returned (.int .i64 (if (Cf.mk lg pg en gn ks).Right then 0 else 1)) ∧ Below w.heap.size w w' := by
  have hl := h.1
  have no : ∀ {P : Prop}, (¬ (Cf.mk lg pg en gn ks).Right) → Calls Try.prog 29 #[cv lg pg en gn A n cap] w (fun e w' => e = .returned (.int .i64 1) ∧ Below w.heap.size w w') → Calls Try.prog 29 #[cv lg pg en gn A n cap] w fun e w' => e = .returned (.int .i64 (if (Cf.mk lg pg en gn ks).Right then 0 else 1)) ∧ Below w.heap.size w w' :=
    fun hn hc => by rw [if_neg hn]; exact hc
  by_cases h0 : 2 ≤ lg ∧ lg ≤ 1024
  rotate_left 1
  · exact no (P := True) (fun R => h0 R.1.1) (Check_0 lg pg en gn A n cap ks w h hn hs  (decide_eq_false h0))
  by_cases h1 : 4 ≤ pg ∧ pg ≤ 1024
  rotate_left 1
  · exact no (P := True) (fun R => h1 R.1.2.1) (Check_1 lg pg en gn A n cap ks w h hn hs (decide_eq_true h0) (decide_eq_false h1))
  by_cases h2 : 1 ≤ en ∧ en ≤ 1024
  rotate_left 1
  · exact no (P := True) (fun R => h2 R.1.2.2.1) (Check_2 lg pg en gn A n cap ks w h hn hs (decide_eq_true h0) (decide_eq_true h1) (decide_eq_false h2))
  by_cases h3 : 1 ≤ gn ∧ gn ≤ 1073741824
  rotate_left 1
  · exact no (P := True) (fun R => h3 R.1.2.2.2.1) (Check_3 lg pg en gn A n cap ks w h hn hs (decide_eq_true h0) (decide_eq_true h1) (decide_eq_true h2) (decide_eq_false h3))
  by_cases h4 : n ≤ 32
  rotate_left 1
  · exact no (P := True) (fun R => h4 (by have : ks.length ≤ 32 := R.1.2.2.2.2; omega)) (Check_4 lg pg en gn A n cap ks w h hn hs (decide_eq_true h0) (decide_eq_true h1) (decide_eq_true h2) (decide_eq_true h3) h4)
  by_cases h5 : Named ks
  rotate_left 1
  · exact no (P := True) (fun R => h5 R.2.1) (Check_5 lg pg en gn A n cap ks w h hn hs (decide_eq_true h0) (decide_eq_true h1) (decide_eq_true h2) (decide_eq_true h3) h4 (decide_eq_false h5))
  by_cases h6 : Apart ks
  rotate_left 1
  · exact no (P := True) (fun R => h6 R.2.2.1) (Check_6 lg pg en gn A n cap ks w h hn hs (decide_eq_true h0) (decide_eq_true h1) (decide_eq_true h2) (decide_eq_true h3) h4 (decide_eq_true h5) (decide_eq_false h6))
  by_cases h7 : Sized ks
  rotate_left 1
  · exact no (P := True) (fun R => h7 R.2.2.2) (Check_7 lg pg en gn A n cap ks w h hn hs (decide_eq_true h0) (decide_eq_true h1) (decide_eq_true h2) (decide_eq_true h3) h4 (decide_eq_true h5) (decide_eq_true h6) (decide_eq_false h7))
  rw [if_pos ⟨⟨h0, h1, h2, h3, by show ks.length ≤ 32; omega⟩, h5, h6, h7⟩]
  exact Check_8 lg pg en gn A n cap ks w h hn hs (decide_eq_true h0) (decide_eq_true h1) (decide_eq_true h2) (decide_eq_true h3) h4 (decide_eq_true h5) (decide_eq_true h6) (decide_eq_true h7)
end
end Go.Proofs.Ytabmaiphjcbfbaa
