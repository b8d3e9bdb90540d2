/- The contract of the reference's Right. -/
import Derived.Test.YtabmaiphjcbfbaaCm5
import Derived.Test.YtabmaiphjcbfbaaCmSa
import Derived.Deep.RegionHeld3
namespace Go.Proofs.Ytabmaiphjcbfbaa
open Go.RowKit
set_option linter.unusedVariables false

section
variable (lg pg en gn : Int) (A : Option Addr) (n cap : Nat) (ks : List Kd) (w : World)

/-- The numbers are out of bounds. -/
theorem RRight_num (h : KRd w A n ks) (hn : n ≤ 1000000) (hN : ¬ ((2 ≤ lg ∧ lg ≤ 1024) ∧ (4 ≤ pg ∧ pg ≤ 1024) ∧ (1 ≤ en ∧ en ≤ 1024) ∧ (1 ≤ gn ∧ gn ≤ 1073741824) ∧ n ≤ 32)) :
    Calls Try.prog 20 #[cv lg pg en gn A n cap] w fun e w' => e = .returned (.bool false) ∧ Below w.heap.size w w' := by
  obtain ⟨w1, hw1⟩ : ∃ w1, w1 = w.alloc (.cells (cc lg pg en gn A n cap) 24) := ⟨_, rfl⟩
  have C1 := CAt.new h lg pg en gn cap
  rw [← hw1] at C1
  obtain ⟨g, hg⟩ : ∃ g, g = w.heap.size := ⟨_, rfl⟩
  rw [← hg] at C1
  have c0 := C1.c0
  have c1 := C1.c1
  have c2 := C1.c2
  have c3 := C1.c3
  have c4 := C1.c4
  have K1 := Lib.hid C1
  have HG := Lib.hid hg
  clear h hg C1
  by_cases t0 : lg < 2
  · have d0 : decide (lg < 2) = true := decide_eq_true t0
    clear hN 
    go_enter Try.func20, Try.ntmps20
    go_wp2_with (rw [← hw1, ← HG.out]; clear hw1)
    go_ret
    exact ⟨rfl, K1.out.bel⟩
  by_cases t1 : 1024 < lg
  · have d0 : decide (lg < 2) = false := decide_eq_false t0
    have d1 : decide (1024 < lg) = true := decide_eq_true t1
    clear hN t0
    go_enter Try.func20, Try.ntmps20
    go_wp2_with (rw [← hw1, ← HG.out]; clear hw1)
    go_ret
    exact ⟨rfl, K1.out.bel⟩
  by_cases t2 : pg < 4
  · have d0 : decide (lg < 2) = false := decide_eq_false t0
    have d1 : decide (1024 < lg) = false := decide_eq_false t1
    have d2 : decide (pg < 4) = true := decide_eq_true t2
    clear hN t0 t1
    go_enter Try.func20, Try.ntmps20
    go_wp2_with (rw [← hw1, ← HG.out]; clear hw1)
    go_ret
    exact ⟨rfl, K1.out.bel⟩
  by_cases t3 : 1024 < pg
  · have d0 : decide (lg < 2) = false := decide_eq_false t0
    have d1 : decide (1024 < lg) = false := decide_eq_false t1
    have d2 : decide (pg < 4) = false := decide_eq_false t2
    have d3 : decide (1024 < pg) = true := decide_eq_true t3
    clear hN t0 t1 t2
    go_enter Try.func20, Try.ntmps20
    go_wp2_with (rw [← hw1, ← HG.out]; clear hw1)
    go_ret
    exact ⟨rfl, K1.out.bel⟩
  by_cases t4 : en < 1
  · have d0 : decide (lg < 2) = false := decide_eq_false t0
    have d1 : decide (1024 < lg) = false := decide_eq_false t1
    have d2 : decide (pg < 4) = false := decide_eq_false t2
    have d3 : decide (1024 < pg) = false := decide_eq_false t3
    have d4 : decide (en < 1) = true := decide_eq_true t4
    clear hN t0 t1 t2 t3
    go_enter Try.func20, Try.ntmps20
    go_wp2_with (rw [← hw1, ← HG.out]; clear hw1)
    go_ret
    exact ⟨rfl, K1.out.bel⟩
  by_cases t5 : 1024 < en
  · have d0 : decide (lg < 2) = false := decide_eq_false t0
    have d1 : decide (1024 < lg) = false := decide_eq_false t1
    have d2 : decide (pg < 4) = false := decide_eq_false t2
    have d3 : decide (1024 < pg) = false := decide_eq_false t3
    have d4 : decide (en < 1) = false := decide_eq_false t4
    have d5 : decide (1024 < en) = true := decide_eq_true t5
    clear hN t0 t1 t2 t3 t4
    go_enter Try.func20, Try.ntmps20
    go_wp2_with (rw [← hw1, ← HG.out]; clear hw1)
    go_ret
    exact ⟨rfl, K1.out.bel⟩
  by_cases t6 : gn < 1
  · have d0 : decide (lg < 2) = false := decide_eq_false t0
    have d1 : decide (1024 < lg) = false := decide_eq_false t1
    have d2 : decide (pg < 4) = false := decide_eq_false t2
    have d3 : decide (1024 < pg) = false := decide_eq_false t3
    have d4 : decide (en < 1) = false := decide_eq_false t4
    have d5 : decide (1024 < en) = false := decide_eq_false t5
    have d6 : decide (gn < 1) = true := decide_eq_true t6
    clear hN t0 t1 t2 t3 t4 t5
    go_enter Try.func20, Try.ntmps20
    go_wp2_with (rw [← hw1, ← HG.out]; clear hw1)
    go_ret
    exact ⟨rfl, K1.out.bel⟩
  by_cases t7 : 1073741824 < gn
  · have d0 : decide (lg < 2) = false := decide_eq_false t0
    have d1 : decide (1024 < lg) = false := decide_eq_false t1
    have d2 : decide (pg < 4) = false := decide_eq_false t2
    have d3 : decide (1024 < pg) = false := decide_eq_false t3
    have d4 : decide (en < 1) = false := decide_eq_false t4
    have d5 : decide (1024 < en) = false := decide_eq_false t5
    have d6 : decide (gn < 1) = false := decide_eq_false t6
    have d7 : decide (1073741824 < gn) = true := decide_eq_true t7
    clear hN t0 t1 t2 t3 t4 t5 t6
    go_enter Try.func20, Try.ntmps20
    go_wp2_with (rw [← hw1, ← HG.out]; clear hw1)
    go_ret
    exact ⟨rfl, K1.out.bel⟩
  by_cases t8 : (32 : Int) < (n : Int)
  · have d0 : decide (lg < 2) = false := decide_eq_false t0
    have d1 : decide (1024 < lg) = false := decide_eq_false t1
    have d2 : decide (pg < 4) = false := decide_eq_false t2
    have d3 : decide (1024 < pg) = false := decide_eq_false t3
    have d4 : decide (en < 1) = false := decide_eq_false t4
    have d5 : decide (1024 < en) = false := decide_eq_false t5
    have d6 : decide (gn < 1) = false := decide_eq_false t6
    have d7 : decide (1073741824 < gn) = false := decide_eq_false t7
    have d8 : decide ((32 : Int) < (n : Int)) = true := decide_eq_true t8
    clear hN t0 t1 t2 t3 t4 t5 t6 t7
    go_enter Try.func20, Try.ntmps20
    go_wp2_with (rw [← hw1, ← HG.out]; clear hw1)
    go_ret
    exact ⟨rfl, K1.out.bel⟩
  exact absurd ⟨⟨by omega, by omega⟩, ⟨by omega, by omega⟩, ⟨by omega, by omega⟩, ⟨by omega, by omega⟩, by omega⟩ hN

theorem RRight_yes (h : KRd w A n ks) (hs : Lens ks) (h0 : 2 ≤ lg) (h1 : lg ≤ 1024) (h2 : 4 ≤ pg) (h3 : pg ≤ 1024) (h4 : 1 ≤ en) (h5 : en ≤ 1024) (h6 : 1 ≤ gn) (h7 : gn ≤ 1073741824) (h8 : n ≤ 32) :
    Calls Try.prog 20 #[cv lg pg en gn A n cap] w fun e w' => e = .returned (.bool (decide (Named ks ∧ Apart ks ∧ Sized ks))) ∧ Below w.heap.size w w' := by
  obtain ⟨w1, hw1⟩ : ∃ w1, w1 = w.alloc (.cells (cc lg pg en gn A n cap) 24) := ⟨_, rfl⟩
  have C1 := CAt.new h lg pg en gn cap
  rw [← hw1] at C1
  obtain ⟨g, hg⟩ : ∃ g, g = w.heap.size := ⟨_, rfl⟩
  rw [← hg] at C1
  have c0 := C1.c0
  have c1 := C1.c1
  have c2 := C1.c2
  have c3 := C1.c3
  have c4 := C1.c4
  have hl := h.1
  have K1 := Lib.hid C1
  have HG := Lib.hid hg
  have HS := Lib.hid hs
  clear h hg C1 hs
  have d0 : decide (lg < 2) = false := decide_eq_false (by omega)
  have d1 : decide (1024 < lg) = false := decide_eq_false (by omega)
  have d2 : decide (pg < 4) = false := decide_eq_false (by omega)
  have d3 : decide (1024 < pg) = false := decide_eq_false (by omega)
  have d4 : decide (en < 1) = false := decide_eq_false (by omega)
  have d5 : decide (1024 < en) = false := decide_eq_false (by omega)
  have d6 : decide (gn < 1) = false := decide_eq_false (by omega)
  have d7 : decide (1073741824 < gn) = false := decide_eq_false (by omega)
  have d8 : decide ((32 : Int) < (n : Int)) = false := decide_eq_false (by omega)
  go_enter Try.func20, Try.ntmps20
  go_wp2_with (rw [← hw1, ← HG.out]; clear hw1)
  clear c0 c1 c2 c3 c4 h0 h1 h2 h3 h4 h5 h6 h7 d0 d1 d2 d3 d4 d5 d6 d7 d8
  go_loopw [3] (fun i wr => ∃ j : Nat, j ≤ n ∧ i = .int .i64 j ∧ Good ks j ∧ CAt w wr g lg pg en gn A n cap ks) (fun i _ => n - (intOf i).toNat)
  case atStart => exact ⟨0, Nat.zero_le _, rfl, Good.zero _, K1.out⟩
  case round =>
    obtain ⟨j, hj, rfl, hgd, hC⟩ := hrel
    have c0 := hC.c0
    have c1 := hC.c1
    have c2 := hC.c2
    have c3 := hC.c3
    have c4 := hC.c4
    by_cases hlt : j < n
    · obtain ⟨b, o, s, z, rfl, _, k0, k1, hl', hk⟩ := hC.rd.at_ hlt
      have hsn := good_snoc hl'
      have hfa := findK_at ks j hl'
      have hsz := HS.out.at_ hl' hk
      rw [hk] at hsn hfa
      have HSN := Lib.hid hsn
      have HFA := Lib.hid hfa
      have HGD := Lib.hid hgd
      have HC := Lib.hid hC
      have hlt' : (j : Int) < (n : Int) := by omega
      have cF : ∀ W, Below wr.heap.size wr W → Calls Try.prog 27 #[cv lg pg en gn (some ⟨b, o, none⟩) n cap, .string s] W fun e w' => e = .returned (.tuple #[.int .i64 (findK ks s).1, .bool (findK ks s).2]) ∧ Below W.heap.size W w' :=
        fun W hW => RFind_any lg pg en gn _ n cap ks W (HC.out.rd.below hW) (by omega) s
      have CF := Lib.hid cF
      clear hsn hfa hk hgd hC cF
      go_wp2
      go_region_held3 (fun W => W.cell? ⟨g, 0, none⟩ = some (.int .i64 lg) ∧ W.cell? ⟨g, 1, none⟩ = some (.int .i64 pg) ∧ W.cell? ⟨g, 2, none⟩ = some (.int .i64 en) ∧ W.cell? ⟨g, 3, none⟩ = some (.int .i64 gn) ∧ W.cell? ⟨g, 4, none⟩ = some (.slice (some ⟨b, o, none⟩) n cap) ∧ W.cell? ⟨b, o + j * 2, none⟩ = some (.string s)) (first
        | with_reducible exact ⟨c0, c1, c2, c3, c4, k0⟩
        | with_reducible exact ⟨C2.c0, C2.c1, C2.c2, C2.c3, C2.c4, k02⟩
        | go_keep) (first
        | (go_at_call 27; refine (CF.out wr.drew (Below.refl _ _).drew).mono ?_; rintro e w2 ⟨rfl, hb2'⟩; have hb2 : Below wr.heap.size wr w2 := ((Below.refl _ _).drew).trans hb2'; have C2 := HC.out.next hb2; have k02 := (hb2.cell (p := ⟨b, o + j * 2, none⟩) (World.block_lt_of_cell? wr _ k0)).trans k0))
      have C2' := C2
      have c4' := C2'.c4
      have k12 : w2.cell? ⟨b, o + j * 2 + 1, none⟩ = some (.int .i64 z) := (hb2.cell (p := ⟨b, o + j * 2 + 1, none⟩) (World.block_lt_of_cell? wr _ k1)).trans k1
      have HC2 := Lib.hid C2
      have HB2 := Lib.hid hb2
      clear c0 c1 c2 c3 c4 k0 k1 C2 C2' hb2' hb2
      rcases HFA.out with ⟨hF, hf⟩ | ⟨hF, hf⟩
      · have q1 : ((findK ks s).1 != (j : Int)) = false := by rw [hf]; simp
        have HF := Lib.hid hF
        clear hf hF
        cases hnm : nameB s
        · have HN := Lib.hid hnm
          clear hnm
          go_wp2_with (go_at_call 28; refine (RName_any s _ hsz).mono ?_; rintro e w3 ⟨rfl, nn, hw3⟩; rw [HN.out]; have hb3 := below_drewNc w2 nn; rw [← hw3] at hb3; clear hw3)
          go_ret
          refine ⟨ret_bool (decide_eq_false fun hN => ?_).symm, (HC2.out.next hb3).bel⟩
          have := (HSN.out.1 (good_take hN _)).2.2.1
          rw [HN.out] at this
          cases this
        · have HN := Lib.hid hnm
          clear hnm
          have cN : Calls Try.prog 28 #[.string s] w2 fun e w' => ∃ w3, w3 = w' ∧ e = .returned (.bool true) ∧ w3.cell? ⟨g, 4, none⟩ = some (.slice (some ⟨b, o, none⟩) n cap) ∧ w3.cell? ⟨b, o + j * 2 + 1, none⟩ = some (.int .i64 z) ∧ CAt w w3 g lg pg en gn (some ⟨b, o, none⟩) n cap ks :=
            (RName_any s _ hsz).mono fun e w3 ⟨he, nn, hw3⟩ => by
              have hb3 := below_drewNc w2 nn
              rw [← hw3] at hb3
              have C3 := HC2.out.next hb3
              exact ⟨w3, rfl, by rw [he, HN.out], C3.c4, (hb3.cell (p := ⟨b, o + j * 2 + 1, none⟩) (World.block_lt_of_cell? w2 _ k12)).trans k12, C3⟩
          have CN := Lib.hid cN
          clear cN
          by_cases hz0 : z < 0
          · have d0 : decide (z < 0) = true := decide_eq_true hz0
            have HZ := Lib.hid hz0
            clear hz0
            go_wp2_with (go_at_call 28; refine CN.out.mono ?_; rintro e w' ⟨w3, rfl, rfl, c43, k13, C3⟩; have HC3 := Lib.hid C3; clear C3)
            go_ret
            refine ⟨ret_bool (decide_eq_false fun hN => ?_).symm, HC3.out.bel⟩
            have := (HSN.out.1 (good_take hN _)).2.2.2
            have := HZ.out
            omega
          · have d0 : decide (z < 0) = false := decide_eq_false hz0
            by_cases hz1 : 64 < z
            · have d1 : decide (64 < z) = true := decide_eq_true hz1
              have HZ := Lib.hid hz1
              clear hz0 hz1
              go_wp2_with (go_at_call 28; refine CN.out.mono ?_; rintro e w' ⟨w3, rfl, rfl, c43, k13, C3⟩; have HC3 := Lib.hid C3; clear C3)
              go_ret
              refine ⟨ret_bool (decide_eq_false fun hN => ?_).symm, HC3.out.bel⟩
              have := (HSN.out.1 (good_take hN _)).2.2.2
              have := HZ.out
              omega
            · have d1 : decide (64 < z) = false := decide_eq_false hz1
              have hz : 0 ≤ z ∧ z ≤ 64 := by omega
              have HZ := Lib.hid hz
              clear hz hz0 hz1
              go_wp2_with (go_at_call 28; refine CN.out.mono ?_; rintro e w' ⟨w3, rfl, rfl, c43, k13, C3⟩; have HC3 := Lib.hid C3; clear C3)
              go_roundw
              case rel => exact ⟨j + 1, hlt, by go_num, HSN.out.2 ⟨HGD.out, HF.out, HN.out, HZ.out⟩, HC3.out⟩
              case measure => simp [intOf]; omega
      · have q1 : ((findK ks s).1 != (j : Int)) = true := bne_iff_ne.2 hf
        have HF := Lib.hid hF
        clear hf hF
        go_wp2
        go_ret
        exact ⟨ret_bool (decide_eq_false fun hN => HF.out (HSN.out.1 (good_take hN _)).2.1).symm, HC2.out.bel⟩
    · obtain rfl : j = n := by omega
      have HGD := Lib.hid hgd
      have HC := Lib.hid hC
      clear hgd hC
      go_wp2
      go_ret
      refine ⟨ret_bool (decide_eq_true ?_).symm, HC.out.bel⟩
      have := HGD.out
      rw [← hl] at this
      exact (good_all ks).1 this

theorem RRight_any (h : KRd w A n ks) (hn : n ≤ 1000000) (hs : Lens ks) :
    Calls Try.prog 20 #[cv lg pg en gn A n cap] w fun e w' => e = .returned (.bool (decide (Cf.mk lg pg en gn ks).Right)) ∧ Below w.heap.size w w' := by
  by_cases hN : (2 ≤ lg ∧ lg ≤ 1024) ∧ (4 ≤ pg ∧ pg ≤ 1024) ∧ (1 ≤ en ∧ en ≤ 1024) ∧ (1 ≤ gn ∧ gn ≤ 1073741824) ∧ n ≤ 32
  · obtain ⟨⟨h0, h1⟩, ⟨h2, h3⟩, ⟨h4, h5⟩, ⟨h6, h7⟩, h8⟩ := hN
    refine (RRight_yes lg pg en gn A n cap ks w h hs h0 h1 h2 h3 h4 h5 h6 h7 h8).mono fun e w' ⟨he, hb⟩ => ⟨he.trans (ret_bool ?_), hb⟩
    refine decide_eq_decide.2 ⟨fun H => ⟨⟨⟨h0, h1⟩, ⟨h2, h3⟩, ⟨h4, h5⟩, ⟨h6, h7⟩, by have := h.1; show ks.length ≤ 32; omega⟩, H⟩, fun H => H.2⟩
  · refine (RRight_num lg pg en gn A n cap ks w h hn hN).mono fun e w' ⟨he, hb⟩ => ⟨he.trans (ret_bool ?_), hb⟩
    exact (decide_eq_false fun R => hN ⟨R.1.1, R.1.2.1, R.1.2.2.1, R.1.2.2.2.1, by have := R.1.2.2.2.2; have := h.1; show n ≤ 32; simp only at *; omega⟩).symm
end
end Go.Proofs.Ytabmaiphjcbfbaa
