/- The laws of geom, walked. Written by wip/tools/gen_gm.py. -/
import Derived.Test.YtabmaiphjcbfbaaGm2
import Derived.Test.YtabmaiphjcbfbaaGm3
import Derived.Test.YtabmaiphjcbfbaaCmMu
import Derived.Test.YtabmaiphjcbfbaaCmO
import Derived.Deep.DeepCutAuto
namespace Go.Proofs.Ytabmaiphjcbfbaa
open Go.RowKit
set_option linter.unusedVariables false
set_option maxHeartbeats 2000000
set_option maxRecDepth 20000

/-- Where a place of the log lies. -/
theorem log_is (a lg : Int) (h : 2 ≤ lg) : logZ true lg a = -1 ∨ (2 ≤ logZ true lg a ∧ logZ true lg a < lg + 2) := by
  unfold logZ
  split
  · rename_i q
    have := tmod_in a lg q.2.1 h
    omega
  · exact .inl rfl
theorem page_is (p lg pg : Int) : pageZ true lg pg p = -1 ∨ lg + 2 ≤ pageZ true lg pg p := by
  unfold pageZ
  split
  · rename_i q
    have := q.2
    omega
  · exact .inl rfl
theorem page_apart (p q lg pg : Int) (h : p ≠ q) (h0 : 0 ≤ pageZ true lg pg p) : pageZ true lg pg p ≠ pageZ true lg pg q := by
  unfold pageZ at h0 ⊢
  split at h0
  · rename_i k
    rw [if_pos k]
    split
    · omega
    · have := k.2
      omega
  · omega
theorem apart4 (a b lg : Int) (h1 : 0 ≤ logZ true lg a) (h2 : 0 ≤ logZ true lg b) (h : logZ true lg a = logZ true lg b) : Plc a ∧ Plc b ∧ (a - b).tmod lg = 0 := by
  unfold logZ at h1 h2 h
  split at h1
  · rename_i k1
    split at h2
    · rename_i k2
      rw [if_pos k1, if_pos k2] at h
      exact ⟨k1.2, k2.2, tmod_apart k1.2.1 k2.2.1 (by omega)⟩
    · omega
  · omega
theorem bool6 {x y u v lg p q : Int} (hb2 : 2 ≤ lg) (hx : x = -1 ∨ (2 ≤ x ∧ x < lg + 2)) (hy : y = -1 ∨ (2 ≤ y ∧ y < lg + 2)) (hu : u = -1 ∨ lg + 2 ≤ u) (hpq : p ≠ q → 0 ≤ u → u ≠ v) :
    (decide (0 ≤ u) && (u == x || u == y || decide (u < 2) || p != q && u == v) || decide (0 ≤ x) && decide (x < 2)) = false := by
  rw [Bool.eq_false_iff]
  intro h
  simp only [Bool.or_eq_true, Bool.and_eq_true, decide_eq_true_eq, beq_iff_eq, bne_iff_ne] at h
  rcases h with ⟨h0, ((h1 | h1) | h1) | ⟨h1, h2⟩⟩ | ⟨h0, h1⟩
  · omega
  · omega
  · omega
  · exact hpq h1 h0 h2
  · omega

theorem live16R : (Cf.mk 4 8 1 1 []).Right := by decide
theorem live16_b : (true : Bool) = true → ((2 : Int) ≤ 4 ∧ (4 : Int) ≤ 1024) ∧ ((4 : Int) ≤ 8 ∧ (8 : Int) ≤ 1024) := fun _ => by omega
theorem live16_any (w : World) : Calls Try.prog 7 #[] w fun e w' => e = .returned (.bool true) ∧ Below w.heap.size w w' := by
  obtain ⟨w1, hw1⟩ : ∃ w1, w1 = w.alloc (.cells (cc 4 8 1 1 none 0 0) 24) := ⟨_, rfl⟩
  have C1 := CAt.new (KRd.nil w none) 4 8 1 1 0
  rw [← hw1] at C1
  obtain ⟨g, hg⟩ : ∃ g, g = w.heap.size := ⟨_, rfl⟩
  rw [← hg] at C1
  have c0 := C1.c0
  have c1 := C1.c1
  have c2 := C1.c2
  have c3 := C1.c3
  have c4 := C1.c4
  have cR : GRt 4 8 1 1 none 0 0 [] true := fun W hW => (gright_any 4 8 1 1 none 0 0 [] W hW (by omega) (fun k hk => by cases hk)).mono fun e w' ⟨he, hb⟩ => ⟨by rw [he, decide_eq_true live16R], hb⟩
  have K1 := Lib.hid C1
  have HG := Lib.hid hg
  have CR := Lib.hid cR
  clear hg C1 cR
  have E1 := Lib.hid (show logZ true 4 6 = 4 by decide)
  have E2 := Lib.hid (show pageZ true 4 8 0 = 6 by decide)
  have E3 := Lib.hid (show needZ 461 = 2 by decide)
  go_enter Try.func7, Try.ntmps7
  go_wp2_with (first
    | (rw [← hw1, ← HG.out]; clear hw1)
    | (go_at_call 12; refine (GLog_any 4 8 1 1 none 0 0 [] w1 K1.out.rd CR.out live16_b 6).mono ?_; rintro e w2 ⟨rfl, hb2⟩; rw [E1.out]; have K2 := Lib.hid (K1.out.next hb2); have c02 := K2.out.c0; have c12 := K2.out.c1; have c22 := K2.out.c2; have c32 := K2.out.c3; have c42 := K2.out.c4; clear hb2)
    | (go_at_call 14; refine (GPage_any 4 8 1 1 none 0 0 [] w2 K2.out.rd CR.out live16_b 0).mono ?_; rintro e w3 ⟨rfl, hb3⟩; rw [E2.out]; have K3 := Lib.hid (K2.out.next hb3); have c03 := K3.out.c0; have c13 := K3.out.c1; have c23 := K3.out.c2; have c33 := K3.out.c3; have c43 := K3.out.c4; clear hb3)
    | (go_at_call 16; refine (GNeed_any _ _ (by omega)).mono ?_; rintro e w' ⟨rfl, rfl⟩; rw [E3.out]))
  go_ret
  exact ⟨rfl, K3.out.bel⟩

section
variable (lg pg en gn : Int) (A : Option Addr) (n cap : Nat) (ks : List Kd) (w : World)

theorem right_nums {R : Bool} (hR : R = decide (Cf.mk lg pg en gn ks).Right) (h : R = true) : (2 ≤ lg ∧ lg ≤ 1024) ∧ (4 ≤ pg ∧ pg ≤ 1024) := by
  rw [hR, decide_eq_true_iff] at h
  exact ⟨h.1.1, h.1.2.1⟩

theorem GeomPlaces_much (h : KRd w A n ks) (hn : n ≤ 9223372036854775807) (hl : Lens ks) (hm : muchK ks = true) (a1 a2 a3 a4 : Int) :
    Calls Try.prog 3 #[cv lg pg en gn A n cap, .int .i64 a1, .int .i64 a2, .int .i64 a3, .int .i64 a4] w fun e w' => e = .returned (.bool true) ∧ Below w.heap.size w w' := by
  have HL := Lib.hid hl
  have HM := Lib.hid hm
  have HN := Lib.hid hn
  clear hl hm hn
  obtain ⟨w1, hw1⟩ : ∃ w1, w1 = w.alloc (.cells (cc lg pg en gn A n cap) 24) := ⟨_, rfl⟩
  have C1 := CAt.new h lg pg en gn cap
  rw [← hw1] at C1
  obtain ⟨g, hg⟩ : ∃ g, g = w.heap.size := ⟨_, rfl⟩
  rw [← hg] at C1
  have c0 := C1.c0
  have c1 := C1.c1
  have c2 := C1.c2
  have c3 := C1.c3
  have c4 := C1.c4
  have K1 := Lib.hid C1
  have HG := Lib.hid hg
  clear h hg C1
  go_enter Try.func3, Try.ntmps3
  go_wp2_with (first
    | (rw [← hw1, ← HG.out]; clear hw1)
    | (go_at_call 6; refine (Much_any lg pg en gn A n cap ks w1 K1.out.rd HN.out HL.out).mono ?_; rintro e w2 ⟨rfl, hb2⟩; rw [HM.out]; have K2 := Lib.hid (K1.out.next hb2); have c02 := K2.out.c0; have c12 := K2.out.c1; have c22 := K2.out.c2; have c32 := K2.out.c3; have c42 := K2.out.c4; clear hb2)
    | (go_at_call 7; refine (live16_any w2).mono ?_; rintro e w3 ⟨rfl, hb3⟩; have K3 := Lib.hid (K2.out.next hb3); have c03 := K3.out.c0; have c13 := K3.out.c1; have c23 := K3.out.c2; have c33 := K3.out.c3; have c43 := K3.out.c4; clear hb3))
  go_ret
  exact ⟨rfl, K3.out.bel⟩

theorem GeomRooms_much (h : KRd w A n ks) (hn : n ≤ 9223372036854775807) (hl : Lens ks) (hm : muchK ks = true) (a1 a2 a3 : Int) :
    Calls Try.prog 4 #[cv lg pg en gn A n cap, .int .i64 a1, .int .i64 a2, .int .i64 a3] w fun e w' => e = .returned (.bool true) ∧ Below w.heap.size w w' := by
  have HL := Lib.hid hl
  have HM := Lib.hid hm
  have HN := Lib.hid hn
  clear hl hm hn
  obtain ⟨w1, hw1⟩ : ∃ w1, w1 = w.alloc (.cells (cc lg pg en gn A n cap) 24) := ⟨_, rfl⟩
  have C1 := CAt.new h lg pg en gn cap
  rw [← hw1] at C1
  obtain ⟨g, hg⟩ : ∃ g, g = w.heap.size := ⟨_, rfl⟩
  rw [← hg] at C1
  have c0 := C1.c0
  have c1 := C1.c1
  have c2 := C1.c2
  have c3 := C1.c3
  have c4 := C1.c4
  have K1 := Lib.hid C1
  have HG := Lib.hid hg
  clear h hg C1
  go_enter Try.func4, Try.ntmps4
  go_wp2_with (first
    | (rw [← hw1, ← HG.out]; clear hw1)
    | (go_at_call 6; refine (Much_any lg pg en gn A n cap ks w1 K1.out.rd HN.out HL.out).mono ?_; rintro e w2 ⟨rfl, hb2⟩; rw [HM.out]; have K2 := Lib.hid (K1.out.next hb2); have c02 := K2.out.c0; have c12 := K2.out.c1; have c22 := K2.out.c2; have c32 := K2.out.c3; have c42 := K2.out.c4; clear hb2)
    | (go_at_call 7; refine (live16_any w2).mono ?_; rintro e w3 ⟨rfl, hb3⟩; have K3 := Lib.hid (K2.out.next hb3); have c03 := K3.out.c0; have c13 := K3.out.c1; have c23 := K3.out.c2; have c33 := K3.out.c3; have c43 := K3.out.c4; clear hb3))
  go_ret
  exact ⟨rfl, K3.out.bel⟩

theorem GeomApart_much (h : KRd w A n ks) (hn : n ≤ 9223372036854775807) (hl : Lens ks) (hm : muchK ks = true) (a1 a2 a3 a4 a5 : Int) :
    Calls Try.prog 5 #[cv lg pg en gn A n cap, .int .i64 a1, .int .i64 a2, .int .i64 a3, .int .i64 a4, .int .i64 a5] w fun e w' => e = .returned (.bool true) ∧ Below w.heap.size w w' := by
  have HL := Lib.hid hl
  have HM := Lib.hid hm
  have HN := Lib.hid hn
  clear hl hm hn
  obtain ⟨w1, hw1⟩ : ∃ w1, w1 = w.alloc (.cells (cc lg pg en gn A n cap) 24) := ⟨_, rfl⟩
  have C1 := CAt.new h lg pg en gn cap
  rw [← hw1] at C1
  obtain ⟨g, hg⟩ : ∃ g, g = w.heap.size := ⟨_, rfl⟩
  rw [← hg] at C1
  have c0 := C1.c0
  have c1 := C1.c1
  have c2 := C1.c2
  have c3 := C1.c3
  have c4 := C1.c4
  have K1 := Lib.hid C1
  have HG := Lib.hid hg
  clear h hg C1
  go_enter Try.func5, Try.ntmps5
  go_wp2_with (first
    | (rw [← hw1, ← HG.out]; clear hw1)
    | (go_at_call 6; refine (Much_any lg pg en gn A n cap ks w1 K1.out.rd HN.out HL.out).mono ?_; rintro e w2 ⟨rfl, hb2⟩; rw [HM.out]; have K2 := Lib.hid (K1.out.next hb2); have c02 := K2.out.c0; have c12 := K2.out.c1; have c22 := K2.out.c2; have c32 := K2.out.c3; have c42 := K2.out.c4; clear hb2)
    | (go_at_call 7; refine (live16_any w2).mono ?_; rintro e w3 ⟨rfl, hb3⟩; have K3 := Lib.hid (K2.out.next hb3); have c03 := K3.out.c0; have c13 := K3.out.c1; have c23 := K3.out.c2; have c33 := K3.out.c3; have c43 := K3.out.c4; clear hb3))
  go_ret
  exact ⟨rfl, K3.out.bel⟩

theorem GeomPlaces_yes (h : KRd w A n ks) (hn : n ≤ 9223372036854775807) (hl : Lens ks) (hm : muchK ks = false) {R : Bool} (cG : GRt lg pg en gn A n cap ks R) (cR : GRr lg pg en gn A n cap ks R) (hb : R = true → (2 ≤ lg ∧ lg ≤ 1024) ∧ (4 ≤ pg ∧ pg ≤ 1024)) (a1 a2 a3 a4 : Int) :
    Calls Try.prog 3 #[cv lg pg en gn A n cap, .int .i64 a1, .int .i64 a2, .int .i64 a3, .int .i64 a4] w fun e w' => e = .returned (.bool true) ∧ Below w.heap.size w w' := by
  have HL := Lib.hid hl
  have HM := Lib.hid hm
  have HN := Lib.hid hn
  clear hl hm hn
  have CG := Lib.hid cG
  have CR := Lib.hid cR
  have HB := Lib.hid hb
  clear cG cR hb
  obtain ⟨w1, hw1⟩ : ∃ w1, w1 = w.alloc (.cells (cc lg pg en gn A n cap) 24) := ⟨_, rfl⟩
  have C1 := CAt.new h lg pg en gn cap
  rw [← hw1] at C1
  obtain ⟨g, hg⟩ : ∃ g, g = w.heap.size := ⟨_, rfl⟩
  rw [← hg] at C1
  have c0 := C1.c0
  have c1 := C1.c1
  have c2 := C1.c2
  have c3 := C1.c3
  have c4 := C1.c4
  have K1 := Lib.hid C1
  have HG := Lib.hid hg
  clear h hg C1
  go_enter Try.func3, Try.ntmps3
  go_wp2_with (first
    | (rw [← hw1, ← HG.out]; clear hw1)
    | (go_at_call 6; refine (Much_any lg pg en gn A n cap ks w1 K1.out.rd HN.out HL.out).mono ?_; rintro e w2 ⟨rfl, hb2⟩; rw [HM.out]; have K2 := Lib.hid (K1.out.next hb2); have c02 := K2.out.c0; have c12 := K2.out.c1; have c22 := K2.out.c2; have c32 := K2.out.c3; have c42 := K2.out.c4; clear hb2)
    | (go_at_call 8; refine (GWhat_any lg pg en gn A n cap ks w2 K2.out.rd CG.out HB.out a4).mono ?_; rintro e w3 ⟨rfl, hb3⟩; have K3 := Lib.hid (K2.out.next hb3); have c03 := K3.out.c0; have c13 := K3.out.c1; have c23 := K3.out.c2; have c33 := K3.out.c3; have c43 := K3.out.c4; clear hb3)
    | (go_at_call 9; refine (RWhat_any lg pg en gn A n cap ks w3 K3.out.rd CR.out HB.out a4).mono ?_; rintro e w4 ⟨rfl, hb4⟩; have K4 := Lib.hid (K3.out.next hb4); have c04 := K4.out.c0; have c14 := K4.out.c1; have c24 := K4.out.c2; have c34 := K4.out.c3; have c44 := K4.out.c4; clear hb4))
  clear c0 c1 c2 c3 c4 c02 c12 c22 c32 c42 c03 c13 c23 c33 c43
  go_region_held3 (fun W => W.cell? ⟨g, 0, none⟩ = some (.int .i64 lg) ∧ W.cell? ⟨g, 1, none⟩ = some (.int .i64 pg) ∧ W.cell? ⟨g, 2, none⟩ = some (.int .i64 en) ∧ W.cell? ⟨g, 3, none⟩ = some (.int .i64 gn) ∧ W.cell? ⟨g, 4, none⟩ = some (.slice A n cap)) (first
    | with_reducible exact ⟨c04, c14, c24, c34, c44⟩
    | with_reducible exact ⟨c05, c15, c25, c35, c45⟩
    | with_reducible exact ⟨c06, c16, c26, c36, c46⟩
    | with_reducible exact ⟨c07, c17, c27, c37, c47⟩
    | with_reducible exact ⟨c08, c18, c28, c38, c48⟩
    | with_reducible exact ⟨c09, c19, c29, c39, c49⟩
    | go_keep) (first
    | (go_at_call 10; refine (GSuper_any _ _).mono ?_; rintro e w' ⟨rfl, rfl⟩)
    | (go_at_call 11; refine (RSuper_any _ _).mono ?_; rintro e w' ⟨rfl, rfl⟩)
    | (go_at_call 12; refine (GLog_any lg pg en gn A n cap ks w4.drew (K4.out.rd.below ((Below.refl _ _).drew)) CG.out HB.out a2).mono ?_; rintro e w5 ⟨rfl, hb5'⟩; have hb5 : Below w4.heap.size w4 w5 := ((Below.refl _ _).drew).trans hb5'; have K5 := Lib.hid (K4.out.next hb5); have c05 := K5.out.c0; have c15 := K5.out.c1; have c25 := K5.out.c2; have c35 := K5.out.c3; have c45 := K5.out.c4; clear hb5 hb5')
    | (go_at_call 13; refine (RLog_any lg pg en gn A n cap ks w5 K5.out.rd CR.out HB.out a2).mono ?_; rintro e w6 ⟨rfl, hb6⟩; have K6 := Lib.hid (K5.out.next hb6); have c06 := K6.out.c0; have c16 := K6.out.c1; have c26 := K6.out.c2; have c36 := K6.out.c3; have c46 := K6.out.c4; clear hb6)
    | (go_at_call 14; refine (GPage_any lg pg en gn A n cap ks w6 K6.out.rd CG.out HB.out a3).mono ?_; rintro e w7 ⟨rfl, hb7⟩; have K7 := Lib.hid (K6.out.next hb7); have c07 := K7.out.c0; have c17 := K7.out.c1; have c27 := K7.out.c2; have c37 := K7.out.c3; have c47 := K7.out.c4; clear hb7)
    | (go_at_call 15; refine (RPage_any lg pg en gn A n cap ks w7 K7.out.rd CR.out HB.out a3).mono ?_; rintro e w8 ⟨rfl, hb8⟩; have K8 := Lib.hid (K7.out.next hb8); have c08 := K8.out.c0; have c18 := K8.out.c1; have c28 := K8.out.c2; have c38 := K8.out.c3; have c48 := K8.out.c4; clear hb8)
    | (go_at_call 7; refine (live16_any w8).mono ?_; rintro e w9 ⟨rfl, hb9⟩; have K9 := Lib.hid (K8.out.next hb9); have c09 := K9.out.c0; have c19 := K9.out.c1; have c29 := K9.out.c2; have c39 := K9.out.c3; have c49 := K9.out.c4; clear hb9))
  go_wp2
  go_ret
  exact ⟨rfl, K9.out.bel⟩

theorem GeomRooms_yes (h : KRd w A n ks) (hn : n ≤ 9223372036854775807) (hl : Lens ks) (hm : muchK ks = false) {R : Bool} (cG : GRt lg pg en gn A n cap ks R) (cR : GRr lg pg en gn A n cap ks R) (hb : R = true → (2 ≤ lg ∧ lg ≤ 1024) ∧ (4 ≤ pg ∧ pg ≤ 1024)) (a1 a2 a3 : Int) (hr : -9223372036854775808 ≤ a3 ∧ a3 ≤ 9223372036854775807) :
    Calls Try.prog 4 #[cv lg pg en gn A n cap, .int .i64 a1, .int .i64 a2, .int .i64 a3] w fun e w' => e = .returned (.bool true) ∧ Below w.heap.size w w' := by
  have HL := Lib.hid hl
  have HM := Lib.hid hm
  have HN := Lib.hid hn
  clear hl hm hn
  have CG := Lib.hid cG
  have CR := Lib.hid cR
  have HB := Lib.hid hb
  clear cG cR hb
  obtain ⟨w1, hw1⟩ : ∃ w1, w1 = w.alloc (.cells (cc lg pg en gn A n cap) 24) := ⟨_, rfl⟩
  have C1 := CAt.new h lg pg en gn cap
  rw [← hw1] at C1
  obtain ⟨g, hg⟩ : ∃ g, g = w.heap.size := ⟨_, rfl⟩
  rw [← hg] at C1
  have c0 := C1.c0
  have c1 := C1.c1
  have c2 := C1.c2
  have c3 := C1.c3
  have c4 := C1.c4
  have K1 := Lib.hid C1
  have HG := Lib.hid hg
  clear h hg C1
  go_enter Try.func4, Try.ntmps4
  go_wp2_with (first
    | (rw [← hw1, ← HG.out]; clear hw1)
    | (go_at_call 6; refine (Much_any lg pg en gn A n cap ks w1 K1.out.rd HN.out HL.out).mono ?_; rintro e w2 ⟨rfl, hb2⟩; rw [HM.out]; have K2 := Lib.hid (K1.out.next hb2); have c02 := K2.out.c0; have c12 := K2.out.c1; have c22 := K2.out.c2; have c32 := K2.out.c3; have c42 := K2.out.c4; clear hb2))
  clear c0 c1 c2 c3 c4
  go_region_held3 (fun W => W.cell? ⟨g, 0, none⟩ = some (.int .i64 lg) ∧ W.cell? ⟨g, 1, none⟩ = some (.int .i64 pg) ∧ W.cell? ⟨g, 2, none⟩ = some (.int .i64 en) ∧ W.cell? ⟨g, 3, none⟩ = some (.int .i64 gn) ∧ W.cell? ⟨g, 4, none⟩ = some (.slice A n cap)) (first
    | with_reducible exact ⟨c02, c12, c22, c32, c42⟩
    | with_reducible exact ⟨c03, c13, c23, c33, c43⟩
    | with_reducible exact ⟨c04, c14, c24, c34, c44⟩
    | with_reducible exact ⟨c05, c15, c25, c35, c45⟩
    | go_keep) (first
    | (go_at_call 16; refine (GNeed_any _ _ hr).mono ?_; rintro e w' ⟨rfl, rfl⟩)
    | (go_at_call 17; refine (RNeed_any _ _ hr).mono ?_; rintro e w' ⟨rfl, rfl⟩)
    | (go_at_call 18; refine (GRoom_any lg pg en gn A n cap ks w2.drew (K2.out.rd.below ((Below.refl _ _).drew)) CG.out HB.out a1 a2).mono ?_; rintro e w3 ⟨rfl, hb3'⟩; have hb3 : Below w2.heap.size w2 w3 := ((Below.refl _ _).drew).trans hb3'; have K3 := Lib.hid (K2.out.next hb3); have c03 := K3.out.c0; have c13 := K3.out.c1; have c23 := K3.out.c2; have c33 := K3.out.c3; have c43 := K3.out.c4; clear hb3 hb3')
    | (go_at_call 19; refine (RRoom_any lg pg en gn A n cap ks w3 K3.out.rd CR.out HB.out a1 a2).mono ?_; rintro e w4 ⟨rfl, hb4⟩; have K4 := Lib.hid (K3.out.next hb4); have c04 := K4.out.c0; have c14 := K4.out.c1; have c24 := K4.out.c2; have c34 := K4.out.c3; have c44 := K4.out.c4; clear hb4)
    | (go_at_call 7; refine (live16_any w4).mono ?_; rintro e w5 ⟨rfl, hb5⟩; have K5 := Lib.hid (K4.out.next hb5); have c05 := K5.out.c0; have c15 := K5.out.c1; have c25 := K5.out.c2; have c35 := K5.out.c3; have c45 := K5.out.c4; clear hb5))
  go_wp2
  go_ret
  exact ⟨rfl, K5.out.bel⟩

theorem GeomApart_no (h : KRd w A n ks) (hn : n ≤ 9223372036854775807) (hl : Lens ks) (hm : muchK ks = false) (cR : GRr lg pg en gn A n cap ks false) (a1 a2 a3 a4 a5 : Int) :
    Calls Try.prog 5 #[cv lg pg en gn A n cap, .int .i64 a1, .int .i64 a2, .int .i64 a3, .int .i64 a4, .int .i64 a5] w fun e w' => e = .returned (.bool true) ∧ Below w.heap.size w w' := by
  have HL := Lib.hid hl
  have HM := Lib.hid hm
  have HN := Lib.hid hn
  clear hl hm hn
  have CR := Lib.hid cR
  clear cR
  obtain ⟨w1, hw1⟩ : ∃ w1, w1 = w.alloc (.cells (cc lg pg en gn A n cap) 24) := ⟨_, rfl⟩
  have C1 := CAt.new h lg pg en gn cap
  rw [← hw1] at C1
  obtain ⟨g, hg⟩ : ∃ g, g = w.heap.size := ⟨_, rfl⟩
  rw [← hg] at C1
  have c0 := C1.c0
  have c1 := C1.c1
  have c2 := C1.c2
  have c3 := C1.c3
  have c4 := C1.c4
  have K1 := Lib.hid C1
  have HG := Lib.hid hg
  clear h hg C1
  go_enter Try.func5, Try.ntmps5
  go_wp2_with (first
    | (rw [← hw1, ← HG.out]; clear hw1)
    | (go_at_call 6; refine (Much_any lg pg en gn A n cap ks w1 K1.out.rd HN.out HL.out).mono ?_; rintro e w2 ⟨rfl, hb2⟩; rw [HM.out]; have K2 := Lib.hid (K1.out.next hb2); have c02 := K2.out.c0; have c12 := K2.out.c1; have c22 := K2.out.c2; have c32 := K2.out.c3; have c42 := K2.out.c4; clear hb2)
    | (go_at_call 20; refine (CR.out w2 K2.out.rd).mono ?_; rintro e w3 ⟨rfl, hb3⟩; have K3 := Lib.hid (K2.out.next hb3); have c03 := K3.out.c0; have c13 := K3.out.c1; have c23 := K3.out.c2; have c33 := K3.out.c3; have c43 := K3.out.c4; clear hb3)
    | (go_at_call 7; refine (live16_any w3).mono ?_; rintro e w4 ⟨rfl, hb4⟩; have K4 := Lib.hid (K3.out.next hb4); have c04 := K4.out.c0; have c14 := K4.out.c1; have c24 := K4.out.c2; have c34 := K4.out.c3; have c44 := K4.out.c4; clear hb4))
  go_ret
  exact ⟨rfl, K4.out.bel⟩

theorem GeomApart_yes (h : KRd w A n ks) (hn : n ≤ 9223372036854775807) (hl : Lens ks) (hm : muchK ks = false) (cG : GRt lg pg en gn A n cap ks true) (cR : GRr lg pg en gn A n cap ks true) (hb2 : 2 ≤ lg) (hb1 : lg ≤ 1024) (hp2 : 4 ≤ pg) (hp1 : pg ≤ 1024) (a1 a2 a3 a4 a5 : Int) :
    Calls Try.prog 5 #[cv lg pg en gn A n cap, .int .i64 a1, .int .i64 a2, .int .i64 a3, .int .i64 a4, .int .i64 a5] w fun e w' => e = .returned (.bool true) ∧ Below w.heap.size w w' := by
  have HL := Lib.hid hl
  have HM := Lib.hid hm
  have HN := Lib.hid hn
  clear hl hm hn
  have CG := Lib.hid cG
  have CR := Lib.hid cR
  clear cG cR
  have t1 : True := trivial
  have t2 : True := trivial
  obtain ⟨w1, hw1⟩ : ∃ w1, w1 = w.alloc (.cells (cc lg pg en gn A n cap) 24) := ⟨_, rfl⟩
  have C1 := CAt.new h lg pg en gn cap
  rw [← hw1] at C1
  obtain ⟨g, hg⟩ : ∃ g, g = w.heap.size := ⟨_, rfl⟩
  rw [← hg] at C1
  have c0 := C1.c0
  have c1 := C1.c1
  have c2 := C1.c2
  have c3 := C1.c3
  have c4 := C1.c4
  have K1 := Lib.hid C1
  have HG := Lib.hid hg
  clear h hg C1
  go_enter Try.func5, Try.ntmps5
  go_upto_region 3 with (first
    | (rw [← hw1, ← HG.out]; clear hw1)
    | (go_at_call 6; refine (Much_any lg pg en gn A n cap ks w1 K1.out.rd HN.out HL.out).mono ?_; rintro e w2 ⟨rfl, hb2⟩; rw [HM.out]; have K2 := Lib.hid (K1.out.next hb2); have c02 := K2.out.c0; have c12 := K2.out.c1; have c22 := K2.out.c2; have c32 := K2.out.c3; have c42 := K2.out.c4; clear hb2)
    | (go_at_call 20; refine (CR.out w2 K2.out.rd).mono ?_; rintro e w3 ⟨rfl, hb3⟩; have K3 := Lib.hid (K2.out.next hb3); have c03 := K3.out.c0; have c13 := K3.out.c1; have c23 := K3.out.c2; have c33 := K3.out.c3; have c43 := K3.out.c4; clear hb3))
  clear c0 c1 c2 c3 c4 c02 c12 c22 c32 c42
  go_cut [13, 14, 15, 16] from 20 (fun a b c d wl => a = .int .i64 (logZ true lg a1) ∧ b = .int .i64 (logZ true lg a2) ∧ c = .int .i64 (pageZ true lg pg a3) ∧ d = .int .i64 (pageZ true lg pg a4) ∧ CAt w wl g lg pg en gn A n cap ks)
  case first =>
    go_region_held3 (fun W => W.cell? ⟨g, 0, none⟩ = some (.int .i64 lg) ∧ W.cell? ⟨g, 1, none⟩ = some (.int .i64 pg) ∧ W.cell? ⟨g, 2, none⟩ = some (.int .i64 en) ∧ W.cell? ⟨g, 3, none⟩ = some (.int .i64 gn) ∧ W.cell? ⟨g, 4, none⟩ = some (.slice A n cap)) (first
      | with_reducible exact ⟨c03, c13, c23, c33, c43⟩
      | with_reducible exact ⟨c04, c14, c24, c34, c44⟩
      | with_reducible exact ⟨c05, c15, c25, c35, c45⟩
      | with_reducible exact ⟨c06, c16, c26, c36, c46⟩
      | with_reducible exact ⟨c07, c17, c27, c37, c47⟩
      | go_keep) (first
      | (go_at_call 12; clear t1; refine (GLog_any lg pg en gn A n cap ks w3.drew (K3.out.rd.below ((Below.refl _ _).drew)) CG.out (fun _ => ⟨⟨hb2, hb1⟩, hp2, hp1⟩) a1).mono ?_; rintro e w4 ⟨rfl, hb4'⟩; have hb4 : Below w3.heap.size w3 w4 := ((Below.refl _ _).drew).trans hb4'; have K4 := Lib.hid (K3.out.next hb4); have c04 := K4.out.c0; have c14 := K4.out.c1; have c24 := K4.out.c2; have c34 := K4.out.c3; have c44 := K4.out.c4; clear hb4 hb4')
      | (go_at_call 12; refine (GLog_any lg pg en gn A n cap ks w4 K4.out.rd CG.out (fun _ => ⟨⟨hb2, hb1⟩, hp2, hp1⟩) a2).mono ?_; rintro e w5 ⟨rfl, hb5⟩; have K5 := Lib.hid (K4.out.next hb5); have c05 := K5.out.c0; have c15 := K5.out.c1; have c25 := K5.out.c2; have c35 := K5.out.c3; have c45 := K5.out.c4; clear hb5)
      | (go_at_call 14; clear t2; refine (GPage_any lg pg en gn A n cap ks w5 K5.out.rd CG.out (fun _ => ⟨⟨hb2, hb1⟩, hp2, hp1⟩) a3).mono ?_; rintro e w6 ⟨rfl, hb6⟩; have K6 := Lib.hid (K5.out.next hb6); have c06 := K6.out.c0; have c16 := K6.out.c1; have c26 := K6.out.c2; have c36 := K6.out.c3; have c46 := K6.out.c4; clear hb6)
      | (go_at_call 14; refine (GPage_any lg pg en gn A n cap ks w6 K6.out.rd CG.out (fun _ => ⟨⟨hb2, hb1⟩, hp2, hp1⟩) a4).mono ?_; rintro e w7 ⟨rfl, hb7⟩; have K7 := Lib.hid (K6.out.next hb7); have c07 := K7.out.c0; have c17 := K7.out.c1; have c27 := K7.out.c2; have c37 := K7.out.c3; have c47 := K7.out.c4; clear hb7))
    go_wp2
    go_meet
    exact ⟨rfl, rfl, rfl, rfl, K7.out⟩
  case rest =>
    obtain ⟨rfl, rfl, rfl, rfl, C7⟩ := hcut
    have c07 := C7.c0
    have c17 := C7.c1
    have c27 := C7.c2
    have c37 := C7.c3
    have c47 := C7.c4
    have K7 := Lib.hid C7
    clear C7 K3 c03 c13 c23 c33 c43
    have hapart := apart4 a1 a2 lg
    have hx := log_is a1 lg hb2
    have hy := log_is a2 lg hb2
    have hu := page_is a3 lg pg
    have hpq := page_apart a3 a4 lg pg
    generalize logZ true lg a1 = x at *
    generalize logZ true lg a2 = y at *
    generalize pageZ true lg pg a3 = u at *
    generalize pageZ true lg pg a4 = v at *
    have HX := Lib.hid hapart
    have HQ := Lib.hid hpq
    clear hapart hpq
    go_upto_region 4 with fail
    go_cut [59] from 20 (fun v wl => v = .bool false ∧ wl = wc)
    case first =>
      rcases hx with rfl | ⟨hx2, hx1⟩
      · go_wp2
        go_meet
        exact ⟨rfl, rfl⟩
      · have dx : decide (0 ≤ x) = true := decide_eq_true (by omega)
        rcases hy with rfl | ⟨hy2, hy1⟩
        · go_wp2
          go_meet
          exact ⟨rfl, rfl⟩
        · have dy : decide (0 ≤ y) = true := decide_eq_true (by omega)
          by_cases hxy : x = y
          · subst hxy
            obtain ⟨⟨r1, r2⟩, ⟨r3, r4⟩, e4⟩ := HX.out (by omega) (by omega) rfl
            have hlg0 : lg ≠ 0 := by omega
            go_wp2
            go_meet
            exact ⟨rfl, rfl⟩
          · have dxy : (x == y) = false := by simp [hxy]
            go_wp2
            go_meet
            exact ⟨rfl, rfl⟩
    case rest =>
      obtain ⟨rfl, rfl⟩ := hcut
      go_upto_region 6 with fail
      go_cut [93] from 20 (fun v wl => v = .bool false ∧ wl = wc)
      case first =>
        rcases hu with rfl | hu
        · rcases hx with rfl | ⟨hx2, hx1⟩
          · go_wp2
            go_meet
            exact ⟨rfl, rfl⟩
          · have dx : decide (0 ≤ x) = true := decide_eq_true (by omega)
            have dx2 : decide (x < 2) = false := decide_eq_false (by omega)
            go_wp2
            go_meet
            exact ⟨rfl, rfl⟩
        · have du : decide (0 ≤ u) = true := decide_eq_true (by omega)
          have du2 : decide (u < 2) = false := decide_eq_false (by omega)
          by_cases hpq : a3 = a4
          · have ep : (a3 != a4) = false := by simp [hpq]
            rcases hx with rfl | ⟨hx2, hx1⟩
            · have e1 : (u == -1) = false := by simp; omega
              have e2 : (u == y) = false := by simp; omega
              go_wp2
              go_meet
              exact ⟨rfl, rfl⟩
            · have dx : decide (0 ≤ x) = true := decide_eq_true (by omega)
              have dx2 : decide (x < 2) = false := decide_eq_false (by omega)
              have e1 : (u == x) = false := by simp; omega
              have e2 : (u == y) = false := by simp; omega
              go_wp2
              go_meet
              exact ⟨rfl, rfl⟩
          · have ep : (a3 != a4) = true := by simp [hpq]
            have ev : (u == v) = false := by simp [HQ.out hpq (by omega)]
            rcases hx with rfl | ⟨hx2, hx1⟩
            · have e1 : (u == -1) = false := by simp; omega
              have e2 : (u == y) = false := by simp; omega
              go_wp2
              go_meet
              exact ⟨rfl, rfl⟩
            · have dx : decide (0 ≤ x) = true := decide_eq_true (by omega)
              have dx2 : decide (x < 2) = false := decide_eq_false (by omega)
              have e1 : (u == x) = false := by simp; omega
              have e2 : (u == y) = false := by simp; omega
              go_wp2
              go_meet
              exact ⟨rfl, rfl⟩
      case rest =>
        obtain ⟨rfl, rfl⟩ := hcut
        clear hx hy hu HX HQ
        by_cases hi : InZ true lg pg a5
        · by_cases h1 : a5 < 2
          · have eL : liesZ lg a5 = 3 := by unfold liesZ; rw [if_pos h1]
            have EK := Lib.hid (show whatK true lg pg a5 = 3 by unfold whatK; rw [if_pos hi, eL])
            have EN := Lib.hid (show whatN true lg pg a5 = a5 by unfold whatN; rw [if_pos hi, eL]; exact Int.sub_zero _)
            have in0 : decide (0 ≤ a5) = true := decide_eq_true hi.2.1
            have in1 : decide (a5 < lg + pg + 2) = true := decide_eq_true (by have := hi.2.2; omega)
            have EV := Lib.hid (show superZ a5 = a5 by unfold superZ; rw [if_pos ⟨hi.2.1, by omega⟩])
            clear hi eL
            go_wp2_with (first
              | (go_at_call 8; refine (GWhat_any lg pg en gn A n cap ks wc K7.out.rd CG.out (fun _ => ⟨⟨hb2, hb1⟩, hp2, hp1⟩) a5).mono ?_; rintro e w8 ⟨rfl, hb8⟩; rw [EK.out, EN.out]; have K8 := Lib.hid (K7.out.next hb8); have c08 := K8.out.c0; have c18 := K8.out.c1; have c28 := K8.out.c2; have c38 := K8.out.c3; have c48 := K8.out.c4; clear hb8)
              | (go_at_call 10; refine (GSuper_any _ _).mono ?_; rintro e w' ⟨rfl, rfl⟩; rw [EV.out])
              | (go_at_call 7; refine (live16_any w8).mono ?_; rintro e w9 ⟨rfl, hb9⟩; have K9 := Lib.hid (K8.out.next hb9); have c09 := K9.out.c0; have c19 := K9.out.c1; have c29 := K9.out.c2; have c39 := K9.out.c3; have c49 := K9.out.c4; clear hb9))
            go_ret
            exact ⟨rfl, K9.out.bel⟩
          · by_cases h2 : a5 < lg + 2
            · have eL : liesZ lg a5 = 1 := by unfold liesZ; rw [if_neg h1, if_pos h2]
              have EK := Lib.hid (show whatK true lg pg a5 = 1 by unfold whatK; rw [if_pos hi, eL])
              have EN := Lib.hid (show whatN true lg pg a5 = a5 - 2 by unfold whatN; rw [if_pos hi, eL]; rfl)
              have in0 : decide (0 ≤ a5) = true := decide_eq_true hi.2.1
              have in1 : decide (a5 < lg + pg + 2) = true := decide_eq_true (by have := hi.2.2; omega)
              have EV := Lib.hid (show logZ true lg (a5 - 2) = a5 by unfold logZ; rw [if_pos ⟨rfl, by unfold Plc; omega⟩, tmod_small (by omega) (by omega)]; omega)
              clear hi eL
              go_wp2_with (first
                | (go_at_call 8; refine (GWhat_any lg pg en gn A n cap ks wc K7.out.rd CG.out (fun _ => ⟨⟨hb2, hb1⟩, hp2, hp1⟩) a5).mono ?_; rintro e w8 ⟨rfl, hb8⟩; rw [EK.out, EN.out]; have K8 := Lib.hid (K7.out.next hb8); have c08 := K8.out.c0; have c18 := K8.out.c1; have c28 := K8.out.c2; have c38 := K8.out.c3; have c48 := K8.out.c4; clear hb8)
                | (go_at_call 12; refine (GLog_any lg pg en gn A n cap ks w8 K8.out.rd CG.out (fun _ => ⟨⟨hb2, hb1⟩, hp2, hp1⟩) (a5 - 2)).mono ?_; rintro e w9 ⟨rfl, hb9⟩; rw [EV.out]; have K9 := Lib.hid (K8.out.next hb9); have c09 := K9.out.c0; have c19 := K9.out.c1; have c29 := K9.out.c2; have c39 := K9.out.c3; have c49 := K9.out.c4; clear hb9)
                | (go_at_call 7; refine (live16_any w9).mono ?_; rintro e w10 ⟨rfl, hb10⟩; have K10 := Lib.hid (K9.out.next hb10); have c010 := K10.out.c0; have c110 := K10.out.c1; have c210 := K10.out.c2; have c310 := K10.out.c3; have c410 := K10.out.c4; clear hb10))
              go_ret
              exact ⟨rfl, K10.out.bel⟩
            · have eL : liesZ lg a5 = 2 := by unfold liesZ; rw [if_neg h1, if_neg h2]
              have EK := Lib.hid (show whatK true lg pg a5 = 2 by unfold whatK; rw [if_pos hi, eL])
              have EN := Lib.hid (show whatN true lg pg a5 = a5 - (lg + 2) by unfold whatN; rw [if_pos hi, eL]; rfl)
              have in0 : decide (0 ≤ a5) = true := decide_eq_true hi.2.1
              have in1 : decide (a5 < lg + pg + 2) = true := decide_eq_true (by have := hi.2.2; omega)
              have EV := Lib.hid (show pageZ true lg pg (a5 - (lg + 2)) = a5 by have := hi.2.2; unfold pageZ; rw [if_pos ⟨rfl, by omega, by omega⟩]; omega)
              clear hi eL
              go_wp2_with (first
                | (go_at_call 8; refine (GWhat_any lg pg en gn A n cap ks wc K7.out.rd CG.out (fun _ => ⟨⟨hb2, hb1⟩, hp2, hp1⟩) a5).mono ?_; rintro e w8 ⟨rfl, hb8⟩; rw [EK.out, EN.out]; have K8 := Lib.hid (K7.out.next hb8); have c08 := K8.out.c0; have c18 := K8.out.c1; have c28 := K8.out.c2; have c38 := K8.out.c3; have c48 := K8.out.c4; clear hb8)
                | (go_at_call 14; refine (GPage_any lg pg en gn A n cap ks w8 K8.out.rd CG.out (fun _ => ⟨⟨hb2, hb1⟩, hp2, hp1⟩) (a5 - (lg + 2))).mono ?_; rintro e w9 ⟨rfl, hb9⟩; rw [EV.out]; have K9 := Lib.hid (K8.out.next hb9); have c09 := K9.out.c0; have c19 := K9.out.c1; have c29 := K9.out.c2; have c39 := K9.out.c3; have c49 := K9.out.c4; clear hb9)
                | (go_at_call 7; refine (live16_any w9).mono ?_; rintro e w10 ⟨rfl, hb10⟩; have K10 := Lib.hid (K9.out.next hb10); have c010 := K10.out.c0; have c110 := K10.out.c1; have c210 := K10.out.c2; have c310 := K10.out.c3; have c410 := K10.out.c4; clear hb10))
              go_ret
              exact ⟨rfl, K10.out.bel⟩
        · by_cases h1 : 0 ≤ a5
          · have in0 : decide (0 ≤ a5) = true := decide_eq_true h1
            have in1 : decide (a5 < lg + pg + 2) = false := decide_eq_false (fun q => hi ⟨rfl, h1, by omega⟩)
            have EK := Lib.hid (show whatK true lg pg a5 = 0 by unfold whatK; rw [if_neg hi])
            have EN := Lib.hid (show whatN true lg pg a5 = 0 by unfold whatN; rw [if_neg hi])
            clear hi
            go_wp2_with (first
              | (go_at_call 8; refine (GWhat_any lg pg en gn A n cap ks wc K7.out.rd CG.out (fun _ => ⟨⟨hb2, hb1⟩, hp2, hp1⟩) a5).mono ?_; rintro e w8 ⟨rfl, hb8⟩; rw [EK.out, EN.out]; have K8 := Lib.hid (K7.out.next hb8); have c08 := K8.out.c0; have c18 := K8.out.c1; have c28 := K8.out.c2; have c38 := K8.out.c3; have c48 := K8.out.c4; clear hb8)
              | (go_at_call 7; refine (live16_any w8).mono ?_; rintro e w9 ⟨rfl, hb9⟩; have K9 := Lib.hid (K8.out.next hb9); have c09 := K9.out.c0; have c19 := K9.out.c1; have c29 := K9.out.c2; have c39 := K9.out.c3; have c49 := K9.out.c4; clear hb9))
            go_ret
            exact ⟨rfl, K9.out.bel⟩
          · have in0 : decide (0 ≤ a5) = false := decide_eq_false h1
            have EK := Lib.hid (show whatK true lg pg a5 = 0 by unfold whatK; rw [if_neg hi])
            have EN := Lib.hid (show whatN true lg pg a5 = 0 by unfold whatN; rw [if_neg hi])
            clear hi
            go_wp2_with (first
              | (go_at_call 8; refine (GWhat_any lg pg en gn A n cap ks wc K7.out.rd CG.out (fun _ => ⟨⟨hb2, hb1⟩, hp2, hp1⟩) a5).mono ?_; rintro e w8 ⟨rfl, hb8⟩; rw [EK.out, EN.out]; have K8 := Lib.hid (K7.out.next hb8); have c08 := K8.out.c0; have c18 := K8.out.c1; have c28 := K8.out.c2; have c38 := K8.out.c3; have c48 := K8.out.c4; clear hb8)
              | (go_at_call 7; refine (live16_any w8).mono ?_; rintro e w9 ⟨rfl, hb9⟩; have K9 := Lib.hid (K8.out.next hb9); have c09 := K9.out.c0; have c19 := K9.out.c1; have c29 := K9.out.c2; have c39 := K9.out.c3; have c49 := K9.out.c4; clear hb9))
            go_ret
            exact ⟨rfl, K9.out.bel⟩

theorem GeomPlaces_any (h : KRd w A n ks) (hn : n ≤ 9223372036854775807) (hl : Lens ks) (a1 a2 a3 a4 : Int) :
    Calls Try.prog 3 #[cv lg pg en gn A n cap, .int .i64 a1, .int .i64 a2, .int .i64 a3, .int .i64 a4] w fun e w' => e = .returned (.bool true) ∧ Below w.heap.size w w' := by
  cases hm : muchK ks
  · have hn4 : n ≤ 40 := by have := (muchK_no hm).1; have := h.1; omega
    exact GeomPlaces_yes lg pg en gn A n cap ks w h (by omega) hl hm (R := decide (Cf.mk lg pg en gn ks).Right) (fun W hW => (gright_any lg pg en gn A n cap ks W hW (by omega) hl).mono fun e w' ⟨he, hb⟩ => ⟨by rw [he], hb⟩) (fun W hW => (RRight_any lg pg en gn A n cap ks W hW (by omega) hl).mono fun e w' ⟨he, hb⟩ => ⟨by rw [he], hb⟩) (fun q => right_nums lg pg en gn ks rfl q) a1 a2 a3 a4
  · exact GeomPlaces_much lg pg en gn A n cap ks w h hn hl hm a1 a2 a3 a4

theorem GeomRooms_any (h : KRd w A n ks) (hn : n ≤ 9223372036854775807) (hl : Lens ks) (a1 a2 a3 : Int) (hr : -9223372036854775808 ≤ a3 ∧ a3 ≤ 9223372036854775807) :
    Calls Try.prog 4 #[cv lg pg en gn A n cap, .int .i64 a1, .int .i64 a2, .int .i64 a3] w fun e w' => e = .returned (.bool true) ∧ Below w.heap.size w w' := by
  cases hm : muchK ks
  · have hn4 : n ≤ 40 := by have := (muchK_no hm).1; have := h.1; omega
    exact GeomRooms_yes lg pg en gn A n cap ks w h (by omega) hl hm (R := decide (Cf.mk lg pg en gn ks).Right) (fun W hW => (gright_any lg pg en gn A n cap ks W hW (by omega) hl).mono fun e w' ⟨he, hb⟩ => ⟨by rw [he], hb⟩) (fun W hW => (RRight_any lg pg en gn A n cap ks W hW (by omega) hl).mono fun e w' ⟨he, hb⟩ => ⟨by rw [he], hb⟩) (fun q => right_nums lg pg en gn ks rfl q) a1 a2 a3 hr
  · exact GeomRooms_much lg pg en gn A n cap ks w h hn hl hm a1 a2 a3

theorem GeomApart_any (h : KRd w A n ks) (hn : n ≤ 9223372036854775807) (hl : Lens ks) (a1 a2 a3 a4 a5 : Int) :
    Calls Try.prog 5 #[cv lg pg en gn A n cap, .int .i64 a1, .int .i64 a2, .int .i64 a3, .int .i64 a4, .int .i64 a5] w fun e w' => e = .returned (.bool true) ∧ Below w.heap.size w w' := by
  cases hm : muchK ks
  · have hn4 : n ≤ 40 := by have := (muchK_no hm).1; have := h.1; omega
    by_cases hR : (Cf.mk lg pg en gn ks).Right
    · obtain ⟨⟨hb2, hb1⟩, hp2, hp1⟩ := right_nums lg pg en gn ks rfl (decide_eq_true hR)
      exact GeomApart_yes lg pg en gn A n cap ks w h (by omega) hl hm (fun W hW => (gright_any lg pg en gn A n cap ks W hW (by omega) hl).mono fun e w' ⟨he, hb⟩ => ⟨by rw [he, decide_eq_true hR], hb⟩) (fun W hW => (RRight_any lg pg en gn A n cap ks W hW (by omega) hl).mono fun e w' ⟨he, hb⟩ => ⟨by rw [he, decide_eq_true hR], hb⟩) hb2 hb1 hp2 hp1 a1 a2 a3 a4 a5
    · exact GeomApart_no lg pg en gn A n cap ks w h (by omega) hl hm (fun W hW => (RRight_any lg pg en gn A n cap ks W hW (by omega) hl).mono fun e w' ⟨he, hb⟩ => ⟨by rw [he, decide_eq_false hR], hb⟩) a1 a2 a3 a4 a5
  · exact GeomApart_much lg pg en gn A n cap ks w h hn hl hm a1 a2 a3 a4 a5
end
end Go.Proofs.Ytabmaiphjcbfbaa
