/- Cm6, Gm3, ScB, ScC, PtH, ByE, PtD, RowS -/
import Derived.Test.YthabmlbmlncbmaaGreatQa1
import Derived.Test.YthabmlbmlncbmaaGreatQa2
import Derived.Test.YthabmlbmlncbmaaGreatQa4
import Derived.Deep.RegionHeld3
import Derived.BigQuiet
import Derived.Deep.QuietTactic
namespace Go.Proofs.YthabmlbmlncbmaaGreat
open Go.RowKit
set_option linter.unusedVariables false
section
variable (lg pg en gn : Int) (A : Option Addr) (n cap : Nat) (ks : List Kd) (w : World)
theorem RRight_num (h : KRd w A n ks) (hn : n <= 1000000) (hN : ¬ ((2 <= lg /\ lg <= 1024) /\ (4 <= pg /\ pg <= 1024) /\ (1 <= en /\ en <= 1024) /\ (1 <= gn /\ gn <= 1073741824) /\ n <= 32)) :
    Calls Tryz.prog 5 #[cv lg pg en gn A n cap] w fun e w' => e = .returned (.bool false) /\ Below w.heap.size w w' := by
  obtain ⟨w1, hw1⟩ : ∃ w1, w1 = w.alloc (.cells (cc lg pg en gn A n cap) 24) := ⟨_, rfl⟩
  have C1 := CAt.new h lg pg en gn cap
  rw [<- hw1] at C1
  obtain ⟨g, hg⟩ : ∃ g, g = w.heap.size := ⟨_, rfl⟩
  rw [<- hg] at C1
  have c0 := C1.c0
  have c1 := C1.c1
  have c2 := C1.c2
  have c3 := C1.c3
  have c4 := C1.c4
  have K1 := hi_ C1
  have HG := hi_ hg
  clear h hg C1
  by_cases t0 : lg < 2
  · have d0 : decide (lg < 2) = true := decide_eq_true t0
    clear hN 
    go_enter Tryz.func5, Tryz.ntmps5
    go_wp2_with (rw [<- hw1, <- HG.out]; clear hw1)
    go_ret
    exact ⟨rfl, K1.out.bel⟩
  by_cases t1 : 1024 < lg
  · have d0 : decide (lg < 2) = false := decide_eq_false t0
    have d1 : decide (1024 < lg) = true := decide_eq_true t1
    clear hN t0
    go_enter Tryz.func5, Tryz.ntmps5
    go_wp2_with (rw [<- hw1, <- HG.out]; clear hw1)
    go_ret
    exact ⟨rfl, K1.out.bel⟩
  by_cases t2 : pg < 4
  · have d0 : decide (lg < 2) = false := decide_eq_false t0
    have d1 : decide (1024 < lg) = false := decide_eq_false t1
    have d2 : decide (pg < 4) = true := decide_eq_true t2
    clear hN t0 t1
    go_enter Tryz.func5, Tryz.ntmps5
    go_wp2_with (rw [<- hw1, <- HG.out]; clear hw1)
    go_ret
    exact ⟨rfl, K1.out.bel⟩
  by_cases t3 : 1024 < pg
  · have d0 : decide (lg < 2) = false := decide_eq_false t0
    have d1 : decide (1024 < lg) = false := decide_eq_false t1
    have d2 : decide (pg < 4) = false := decide_eq_false t2
    have d3 : decide (1024 < pg) = true := decide_eq_true t3
    clear hN t0 t1 t2
    go_enter Tryz.func5, Tryz.ntmps5
    go_wp2_with (rw [<- hw1, <- HG.out]; clear hw1)
    go_ret
    exact ⟨rfl, K1.out.bel⟩
  by_cases t4 : en < 1
  · have d0 : decide (lg < 2) = false := decide_eq_false t0
    have d1 : decide (1024 < lg) = false := decide_eq_false t1
    have d2 : decide (pg < 4) = false := decide_eq_false t2
    have d3 : decide (1024 < pg) = false := decide_eq_false t3
    have d4 : decide (en < 1) = true := decide_eq_true t4
    clear hN t0 t1 t2 t3
    go_enter Tryz.func5, Tryz.ntmps5
    go_wp2_with (rw [<- hw1, <- HG.out]; clear hw1)
    go_ret
    exact ⟨rfl, K1.out.bel⟩
  by_cases t5 : 1024 < en
  · have d0 : decide (lg < 2) = false := decide_eq_false t0
    have d1 : decide (1024 < lg) = false := decide_eq_false t1
    have d2 : decide (pg < 4) = false := decide_eq_false t2
    have d3 : decide (1024 < pg) = false := decide_eq_false t3
    have d4 : decide (en < 1) = false := decide_eq_false t4
    have d5 : decide (1024 < en) = true := decide_eq_true t5
    clear hN t0 t1 t2 t3 t4
    go_enter Tryz.func5, Tryz.ntmps5
    go_wp2_with (rw [<- hw1, <- HG.out]; clear hw1)
    go_ret
    exact ⟨rfl, K1.out.bel⟩
  by_cases t6 : gn < 1
  · have d0 : decide (lg < 2) = false := decide_eq_false t0
    have d1 : decide (1024 < lg) = false := decide_eq_false t1
    have d2 : decide (pg < 4) = false := decide_eq_false t2
    have d3 : decide (1024 < pg) = false := decide_eq_false t3
    have d4 : decide (en < 1) = false := decide_eq_false t4
    have d5 : decide (1024 < en) = false := decide_eq_false t5
    have d6 : decide (gn < 1) = true := decide_eq_true t6
    clear hN t0 t1 t2 t3 t4 t5
    go_enter Tryz.func5, Tryz.ntmps5
    go_wp2_with (rw [<- hw1, <- HG.out]; clear hw1)
    go_ret
    exact ⟨rfl, K1.out.bel⟩
  by_cases t7 : 1073741824 < gn
  · have d0 : decide (lg < 2) = false := decide_eq_false t0
    have d1 : decide (1024 < lg) = false := decide_eq_false t1
    have d2 : decide (pg < 4) = false := decide_eq_false t2
    have d3 : decide (1024 < pg) = false := decide_eq_false t3
    have d4 : decide (en < 1) = false := decide_eq_false t4
    have d5 : decide (1024 < en) = false := decide_eq_false t5
    have d6 : decide (gn < 1) = false := decide_eq_false t6
    have d7 : decide (1073741824 < gn) = true := decide_eq_true t7
    clear hN t0 t1 t2 t3 t4 t5 t6
    go_enter Tryz.func5, Tryz.ntmps5
    go_wp2_with (rw [<- hw1, <- HG.out]; clear hw1)
    go_ret
    exact ⟨rfl, K1.out.bel⟩
  by_cases t8 : (32 : Int) < (n : Int)
  · have d0 : decide (lg < 2) = false := decide_eq_false t0
    have d1 : decide (1024 < lg) = false := decide_eq_false t1
    have d2 : decide (pg < 4) = false := decide_eq_false t2
    have d3 : decide (1024 < pg) = false := decide_eq_false t3
    have d4 : decide (en < 1) = false := decide_eq_false t4
    have d5 : decide (1024 < en) = false := decide_eq_false t5
    have d6 : decide (gn < 1) = false := decide_eq_false t6
    have d7 : decide (1073741824 < gn) = false := decide_eq_false t7
    have d8 : decide ((32 : Int) < (n : Int)) = true := decide_eq_true t8
    clear hN t0 t1 t2 t3 t4 t5 t6 t7
    go_enter Tryz.func5, Tryz.ntmps5
    go_wp2_with (rw [<- hw1, <- HG.out]; clear hw1)
    go_ret
    exact ⟨rfl, K1.out.bel⟩
  exact absurd ⟨⟨by omega, by omega⟩, ⟨by omega, by omega⟩, ⟨by omega, by omega⟩, ⟨by omega, by omega⟩, by omega⟩ hN
theorem RRight_yes (h : KRd w A n ks) (hs : Lens ks) (h0 : 2 <= lg) (h1 : lg <= 1024) (h2 : 4 <= pg) (h3 : pg <= 1024) (h4 : 1 <= en) (h5 : en <= 1024) (h6 : 1 <= gn) (h7 : gn <= 1073741824) (h8 : n <= 32) :
    Calls Tryz.prog 5 #[cv lg pg en gn A n cap] w fun e w' => e = .returned (.bool (decide (Named ks /\ Apart ks /\ Sized ks))) /\ Below w.heap.size w w' := by
  obtain ⟨w1, hw1⟩ : ∃ w1, w1 = w.alloc (.cells (cc lg pg en gn A n cap) 24) := ⟨_, rfl⟩
  have C1 := CAt.new h lg pg en gn cap
  rw [<- hw1] at C1
  obtain ⟨g, hg⟩ : ∃ g, g = w.heap.size := ⟨_, rfl⟩
  rw [<- hg] at C1
  have c0 := C1.c0
  have c1 := C1.c1
  have c2 := C1.c2
  have c3 := C1.c3
  have c4 := C1.c4
  have hl := h.1
  have K1 := hi_ C1
  have HG := hi_ hg
  have HS := hi_ hs
  clear h hg C1 hs
  have d0 : decide (lg < 2) = false := decide_eq_false (by omega)
  have d1 : decide (1024 < lg) = false := decide_eq_false (by omega)
  have d2 : decide (pg < 4) = false := decide_eq_false (by omega)
  have d3 : decide (1024 < pg) = false := decide_eq_false (by omega)
  have d4 : decide (en < 1) = false := decide_eq_false (by omega)
  have d5 : decide (1024 < en) = false := decide_eq_false (by omega)
  have d6 : decide (gn < 1) = false := decide_eq_false (by omega)
  have d7 : decide (1073741824 < gn) = false := decide_eq_false (by omega)
  have d8 : decide ((32 : Int) < (n : Int)) = false := decide_eq_false (by omega)
  go_enter Tryz.func5, Tryz.ntmps5
  go_wp2_with (rw [<- hw1, <- HG.out]; clear hw1)
  clear c0 c1 c2 c3 c4 h0 h1 h2 h3 h4 h5 h6 h7 d0 d1 d2 d3 d4 d5 d6 d7 d8
  go_loopw [3] (fun i wr => ∃ j : Nat, j <= n /\ i = .int .i64 j /\ Good ks j /\ CAt w wr g lg pg en gn A n cap ks) (fun i _ => n - (intOf i).toNat)
  case atStart => exact ⟨0, Nat.zero_le _, rfl, Good.zero _, K1.out⟩
  case round =>
    obtain ⟨j, hj, rfl, hgd, hC⟩ := hrel
    have c0 := hC.c0
    have c1 := hC.c1
    have c2 := hC.c2
    have c3 := hC.c3
    have c4 := hC.c4
    by_cases hlt : j < n
    · obtain ⟨b, o, s, z, rfl, _, k0, k1, hl', hk⟩ := hC.rd.at_ hlt
      have hsn := good_snoc hl'
      have hfa := findK_at ks j hl'
      have hsz := HS.out.at_ hl' hk
      rw [hk] at hsn hfa
      have HSN := hi_ hsn
      have HFA := hi_ hfa
      have HGD := hi_ hgd
      have HC := hi_ hC
      have hlt' : (j : Int) < (n : Int) := by omega
      have cF : ∀ W, Below wr.heap.size wr W -> Calls Tryz.prog 21 #[cv lg pg en gn (some ⟨b, o, none⟩) n cap, .string s] W fun e w' => e = .returned (.tuple #[.int .i64 (findK ks s).1, .bool (findK ks s).2]) /\ Below W.heap.size W w' :=
        fun W hW => RFind_any lg pg en gn _ n cap ks W (HC.out.rd.below hW) (by omega) s
      have CF := hi_ cF
      clear hsn hfa hk hgd hC cF
      go_wp2
      go_region_held3 (fun W => W.cell? ⟨g, 0, none⟩ = some (.int .i64 lg) /\ W.cell? ⟨g, 1, none⟩ = some (.int .i64 pg) /\ W.cell? ⟨g, 2, none⟩ = some (.int .i64 en) /\ W.cell? ⟨g, 3, none⟩ = some (.int .i64 gn) /\ W.cell? ⟨g, 4, none⟩ = some (.slice (some ⟨b, o, none⟩) n cap) /\ W.cell? ⟨b, o + j * 2, none⟩ = some (.string s)) (first
        | with_reducible exact ⟨c0, c1, c2, c3, c4, k0⟩
        | with_reducible exact ⟨C2.c0, C2.c1, C2.c2, C2.c3, C2.c4, k02⟩
        | go_keep) (first
        | (go_at_call 21; refine (CF.out wr.drew (Below.refl _ _).drew).mono ?_; rintro e w2 ⟨rfl, hb2'⟩; have hb2 : Below wr.heap.size wr w2 := ((Below.refl _ _).drew).trans hb2'; have C2 := HC.out.next hb2; have k02 := (hb2.cell (p := ⟨b, o + j * 2, none⟩) (World.block_lt_of_cell? wr _ k0)).trans k0))
      have C2' := C2
      have c4' := C2'.c4
      have k12 : w2.cell? ⟨b, o + j * 2 + 1, none⟩ = some (.int .i64 z) := (hb2.cell (p := ⟨b, o + j * 2 + 1, none⟩) (World.block_lt_of_cell? wr _ k1)).trans k1
      have HC2 := hi_ C2
      have HB2 := hi_ hb2
      clear c0 c1 c2 c3 c4 k0 k1 C2 C2' hb2' hb2
      rcases HFA.out with ⟨hF, hf⟩ | ⟨hF, hf⟩
      · have q1 : ((findK ks s).1 != (j : Int)) = false := by rw [hf]; simp
        have HF := hi_ hF
        clear hf hF
        cases hnm : nameB s
        · have HN := hi_ hnm
          clear hnm
          go_wp2_with (go_at_call 22; refine (RName_any s _ hsz).mono ?_; rintro e w3 ⟨rfl, nn, hw3⟩; rw [HN.out]; have hb3 := below_drewNc w2 nn; rw [<- hw3] at hb3; clear hw3)
          go_ret
          refine ⟨ret_bool (decide_eq_false fun hN => ?_).symm, (HC2.out.next hb3).bel⟩
          have := (HSN.out.1 (good_take hN _)).2.2.1
          rw [HN.out] at this
          cases this
        · have HN := hi_ hnm
          clear hnm
          have cN : Calls Tryz.prog 22 #[.string s] w2 fun e w' => ∃ w3, w3 = w' /\ e = .returned (.bool true) /\ w3.cell? ⟨g, 4, none⟩ = some (.slice (some ⟨b, o, none⟩) n cap) /\ w3.cell? ⟨b, o + j * 2 + 1, none⟩ = some (.int .i64 z) /\ CAt w w3 g lg pg en gn (some ⟨b, o, none⟩) n cap ks :=
            (RName_any s _ hsz).mono fun e w3 ⟨he, nn, hw3⟩ => by
              have hb3 := below_drewNc w2 nn
              rw [<- hw3] at hb3
              have C3 := HC2.out.next hb3
              exact ⟨w3, rfl, by rw [he, HN.out], C3.c4, (hb3.cell (p := ⟨b, o + j * 2 + 1, none⟩) (World.block_lt_of_cell? w2 _ k12)).trans k12, C3⟩
          have CN := hi_ cN
          clear cN
          by_cases hz0 : z < 0
          · have d0 : decide (z < 0) = true := decide_eq_true hz0
            have HZ := hi_ hz0
            clear hz0
            go_wp2_with (go_at_call 22; refine CN.out.mono ?_; rintro e w' ⟨w3, rfl, rfl, c43, k13, C3⟩; have HC3 := hi_ C3; clear C3)
            go_ret
            refine ⟨ret_bool (decide_eq_false fun hN => ?_).symm, HC3.out.bel⟩
            have := (HSN.out.1 (good_take hN _)).2.2.2
            have := HZ.out
            omega
          · have d0 : decide (z < 0) = false := decide_eq_false hz0
            by_cases hz1 : 64 < z
            · have d1 : decide (64 < z) = true := decide_eq_true hz1
              have HZ := hi_ hz1
              clear hz0 hz1
              go_wp2_with (go_at_call 22; refine CN.out.mono ?_; rintro e w' ⟨w3, rfl, rfl, c43, k13, C3⟩; have HC3 := hi_ C3; clear C3)
              go_ret
              refine ⟨ret_bool (decide_eq_false fun hN => ?_).symm, HC3.out.bel⟩
              have := (HSN.out.1 (good_take hN _)).2.2.2
              have := HZ.out
              omega
            · have d1 : decide (64 < z) = false := decide_eq_false hz1
              have hz : 0 <= z /\ z <= 64 := by omega
              have HZ := hi_ hz
              clear hz hz0 hz1
              go_wp2_with (go_at_call 22; refine CN.out.mono ?_; rintro e w' ⟨w3, rfl, rfl, c43, k13, C3⟩; have HC3 := hi_ C3; clear C3)
              go_roundw
              case rel => exact ⟨j + 1, hlt, by go_num, HSN.out.2 ⟨HGD.out, HF.out, HN.out, HZ.out⟩, HC3.out⟩
              case measure => simp [intOf]; omega
      · have q1 : ((findK ks s).1 != (j : Int)) = true := bne_iff_ne.2 hf
        have HF := hi_ hF
        clear hf hF
        go_wp2
        go_ret
        exact ⟨ret_bool (decide_eq_false fun hN => HF.out (HSN.out.1 (good_take hN _)).2.1).symm, HC2.out.bel⟩
    · obtain rfl : j = n := by omega
      have HGD := hi_ hgd
      have HC := hi_ hC
      clear hgd hC
      go_wp2
      go_ret
      refine ⟨ret_bool (decide_eq_true ?_).symm, HC.out.bel⟩
      have := HGD.out
      rw [<- hl] at this
      exact (good_all ks).1 this
theorem RRight_any (h : KRd w A n ks) (hn : n <= 1000000) (hs : Lens ks) :
    Calls Tryz.prog 5 #[cv lg pg en gn A n cap] w fun e w' => e = .returned (.bool (decide (Cf.mk lg pg en gn ks).Right)) /\ Below w.heap.size w w' := by
  by_cases hN : (2 <= lg /\ lg <= 1024) /\ (4 <= pg /\ pg <= 1024) /\ (1 <= en /\ en <= 1024) /\ (1 <= gn /\ gn <= 1073741824) /\ n <= 32
  · obtain ⟨⟨h0, h1⟩, ⟨h2, h3⟩, ⟨h4, h5⟩, ⟨h6, h7⟩, h8⟩ := hN
    refine (RRight_yes lg pg en gn A n cap ks w h hs h0 h1 h2 h3 h4 h5 h6 h7 h8).mono fun e w' ⟨he, hb⟩ => ⟨he.trans (ret_bool ?_), hb⟩
    refine decide_eq_decide.2 ⟨fun H => ⟨⟨⟨h0, h1⟩, ⟨h2, h3⟩, ⟨h4, h5⟩, ⟨h6, h7⟩, by have := h.1; show ks.length <= 32; omega⟩, H⟩, fun H => H.2⟩
  · refine (RRight_num lg pg en gn A n cap ks w h hn hN).mono fun e w' ⟨he, hb⟩ => ⟨he.trans (ret_bool ?_), hb⟩
    exact (decide_eq_false fun R => hN ⟨R.1.1, R.1.2.1, R.1.2.2.1, R.1.2.2.2.1, by have := R.1.2.2.2.2; have := h.1; show n <= 32; simp only at *; omega⟩).symm
end
end Go.Proofs.YthabmlbmlncbmaaGreat
namespace Go.Proofs.YthabmlbmlncbmaaGreat
open Go.RowKit
set_option linter.unusedVariables false
set_option maxHeartbeats 1000000
section
variable (lg pg en gn : Int) (A : Option Addr) (n cap : Nat) (ks : List Kd) (w : World)
def GRr (R : Bool) : Prop := ∀ W, KRd W A n ks -> Calls Tryz.prog 5 #[cv lg pg en gn A n cap] W fun e w' => e = .returned (.bool R) /\ Below W.heap.size W w'
theorem RLog_any (h : KRd w A n ks) {R : Bool} (cR : GRr lg pg en gn A n cap ks R) (hb : R = true -> (2 <= lg /\ lg <= 1024) /\ (4 <= pg /\ pg <= 1024)) (z : Int) :
    Calls Tryz.prog 52 #[cv lg pg en gn A n cap, .int .i64 z] w fun e w' => e = .returned (.int .i64 (logZ R lg z)) /\ Below w.heap.size w w' := by
  cases R
  · rw [show logZ false lg z = -1 by simp [logZ]]
    obtain ⟨w1, hw1⟩ : ∃ w1, w1 = w.alloc (.cells (cc lg pg en gn A n cap) 24) := ⟨_, rfl⟩
    have C1 := CAt.new h lg pg en gn cap
    rw [<- hw1] at C1
    obtain ⟨g, hg⟩ : ∃ g, g = w.heap.size := ⟨_, rfl⟩
    rw [<- hg] at C1
    have c0 := C1.c0
    have c1 := C1.c1
    have c2 := C1.c2
    have c3 := C1.c3
    have c4 := C1.c4
    have K1 := hi_ C1
    have HG := hi_ hg
    clear h hg C1
    have CR := hi_ cR
    go_enter Tryz.func52, Tryz.ntmps52
    go_wp2_with (first
      | (rw [<- hw1, <- HG.out]; clear hw1)
      | (go_at_call 5; refine (CR.out w1 K1.out.rd).mono ?_; rintro e w2 ⟨rfl, hb2⟩; have K2 := hi_ (K1.out.next hb2); have c02 := K2.out.c0; have c12 := K2.out.c1; have c22 := K2.out.c2; have c32 := K2.out.c3; have c42 := K2.out.c4; clear hb2))
    go_ret
    exact ⟨rfl, K2.out.bel⟩
  · obtain ⟨⟨hl2, hl1⟩, _⟩ := hb rfl
    by_cases hp : Plc z
    · rw [show logZ true lg z = 2 + z.tmod lg by unfold logZ; rw [if_pos ⟨rfl, hp⟩]]
      have d := decide_eq_true hp
      have hq := tmod_in z lg hp.1 hl2
      have hqm := tmod_of z lg
      have hq0 : 0 <= z.tdiv lg := Int.tdiv_nonneg hp.1 (by omega)
      have hq1 : z.tdiv lg <= z := by rw [Int.tdiv_eq_ediv_of_nonneg hp.1]; exact Int.ediv_le_self _ hp.1
      have hl0 : lg ≠ 0 := by omega
      obtain ⟨hz0, hz1⟩ := hp
      obtain ⟨w1, hw1⟩ : ∃ w1, w1 = w.alloc (.cells (cc lg pg en gn A n cap) 24) := ⟨_, rfl⟩
      have C1 := CAt.new h lg pg en gn cap
      rw [<- hw1] at C1
      obtain ⟨g, hg⟩ : ∃ g, g = w.heap.size := ⟨_, rfl⟩
      rw [<- hg] at C1
      have c0 := C1.c0
      have c1 := C1.c1
      have c2 := C1.c2
      have c3 := C1.c3
      have c4 := C1.c4
      have K1 := hi_ C1
      have HG := hi_ hg
      clear h hg C1
      have CR := hi_ cR
      go_enter Tryz.func52, Tryz.ntmps52
      go_wp2_with (first
        | (rw [<- hw1, <- HG.out]; clear hw1)
        | (go_at_call 5; refine (CR.out w1 K1.out.rd).mono ?_; rintro e w2 ⟨rfl, hb2⟩; have K2 := hi_ (K1.out.next hb2); have c02 := K2.out.c0; have c12 := K2.out.c1; have c22 := K2.out.c2; have c32 := K2.out.c3; have c42 := K2.out.c4; clear hb2)
        | (go_at_call 34; refine (Place_yes _ _).mono ?_; rintro e w' ⟨rfl, rfl⟩; rw [d]))
      go_quiet (fail)
      go_wp2
      go_ret
      exact ⟨ret_int (by first | omega | (simp only [IntKind.wrap_i64]; omega)), K2.out.bel.trans ((below_drewNc _ _).mono K2.out.bel.size)⟩
    · rw [show logZ true lg z = -1 by unfold logZ; rw [if_neg (fun q => hp q.2)]]
      have d := decide_eq_false hp
      clear hp
      obtain ⟨w1, hw1⟩ : ∃ w1, w1 = w.alloc (.cells (cc lg pg en gn A n cap) 24) := ⟨_, rfl⟩
      have C1 := CAt.new h lg pg en gn cap
      rw [<- hw1] at C1
      obtain ⟨g, hg⟩ : ∃ g, g = w.heap.size := ⟨_, rfl⟩
      rw [<- hg] at C1
      have c0 := C1.c0
      have c1 := C1.c1
      have c2 := C1.c2
      have c3 := C1.c3
      have c4 := C1.c4
      have K1 := hi_ C1
      have HG := hi_ hg
      clear h hg C1
      have CR := hi_ cR
      go_enter Tryz.func52, Tryz.ntmps52
      go_wp2_with (first
        | (rw [<- hw1, <- HG.out]; clear hw1)
        | (go_at_call 5; refine (CR.out w1 K1.out.rd).mono ?_; rintro e w2 ⟨rfl, hb2⟩; have K2 := hi_ (K1.out.next hb2); have c02 := K2.out.c0; have c12 := K2.out.c1; have c22 := K2.out.c2; have c32 := K2.out.c3; have c42 := K2.out.c4; clear hb2)
        | (go_at_call 34; refine (Place_yes _ _).mono ?_; rintro e w' ⟨rfl, rfl⟩; rw [d]))
      go_ret
      exact ⟨rfl, K2.out.bel⟩
theorem RRoom_any (h : KRd w A n ks) {R : Bool} (cR : GRr lg pg en gn A n cap ks R) (hb : R = true -> (2 <= lg /\ lg <= 1024) /\ (4 <= pg /\ pg <= 1024)) (a t : Int) :
    Calls Tryz.prog 18 #[cv lg pg en gn A n cap, .int .i64 a, .int .i64 t] w fun e w' => e = .returned (.int .i64 (roomZ R lg a t)) /\ Below w.heap.size w w' := by
  cases R
  · rw [show roomZ false lg a t = -1 by simp [roomZ]]
    obtain ⟨w1, hw1⟩ : ∃ w1, w1 = w.alloc (.cells (cc lg pg en gn A n cap) 24) := ⟨_, rfl⟩
    have C1 := CAt.new h lg pg en gn cap
    rw [<- hw1] at C1
    obtain ⟨g, hg⟩ : ∃ g, g = w.heap.size := ⟨_, rfl⟩
    rw [<- hg] at C1
    have c0 := C1.c0
    have c1 := C1.c1
    have c2 := C1.c2
    have c3 := C1.c3
    have c4 := C1.c4
    have K1 := hi_ C1
    have HG := hi_ hg
    clear h hg C1
    have CR := hi_ cR
    go_enter Tryz.func18, Tryz.ntmps18
    go_wp2_with (first
      | (rw [<- hw1, <- HG.out]; clear hw1)
      | (go_at_call 5; refine (CR.out w1 K1.out.rd).mono ?_; rintro e w2 ⟨rfl, hb2⟩; have K2 := hi_ (K1.out.next hb2); have c02 := K2.out.c0; have c12 := K2.out.c1; have c22 := K2.out.c2; have c32 := K2.out.c3; have c42 := K2.out.c4; clear hb2))
    go_ret
    exact ⟨rfl, K2.out.bel⟩
  · obtain ⟨⟨hl2, hl1⟩, _⟩ := hb rfl
    by_cases hp : Plc a
    · have d := decide_eq_true hp
      have t1 : True := trivial
      by_cases hp1 : Plc t
      · have d1 := decide_eq_true hp1
        obtain ⟨ha0, ha1⟩ := hp
        obtain ⟨ht0, ht1⟩ := hp1
        by_cases h1 : t < a
        · rw [show roomZ true lg a t = -1 by unfold roomZ; rw [if_neg (fun q => by omega)]]
          have d2 : decide (t < a) = true := decide_eq_true h1
          obtain ⟨w1, hw1⟩ : ∃ w1, w1 = w.alloc (.cells (cc lg pg en gn A n cap) 24) := ⟨_, rfl⟩
          have C1 := CAt.new h lg pg en gn cap
          rw [<- hw1] at C1
          obtain ⟨g, hg⟩ : ∃ g, g = w.heap.size := ⟨_, rfl⟩
          rw [<- hg] at C1
          have c0 := C1.c0
          have c1 := C1.c1
          have c2 := C1.c2
          have c3 := C1.c3
          have c4 := C1.c4
          have K1 := hi_ C1
          have HG := hi_ hg
          clear h hg C1
          have CR := hi_ cR
          go_enter Tryz.func18, Tryz.ntmps18
          go_wp2_with (first
            | (rw [<- hw1, <- HG.out]; clear hw1)
            | (go_at_call 5; refine (CR.out w1 K1.out.rd).mono ?_; rintro e w2 ⟨rfl, hb2⟩; have K2 := hi_ (K1.out.next hb2); have c02 := K2.out.c0; have c12 := K2.out.c1; have c22 := K2.out.c2; have c32 := K2.out.c3; have c42 := K2.out.c4; clear hb2)
            | (go_at_call 34; clear t1; refine (Place_yes _ _).mono ?_; rintro e w' ⟨rfl, rfl⟩; rw [d])
            | (go_at_call 34; refine (Place_yes _ _).mono ?_; rintro e w' ⟨rfl, rfl⟩; rw [d1]))
          go_ret
          exact ⟨rfl, K2.out.bel⟩
        · have d2 : decide (t < a) = false := decide_eq_false h1
          by_cases h2 : a + lg < t
          · rw [show roomZ true lg a t = -1 by unfold roomZ; rw [if_neg (fun q => by omega)]]
            have d3 : decide (a + lg < t) = true := decide_eq_true h2
            obtain ⟨w1, hw1⟩ : ∃ w1, w1 = w.alloc (.cells (cc lg pg en gn A n cap) 24) := ⟨_, rfl⟩
            have C1 := CAt.new h lg pg en gn cap
            rw [<- hw1] at C1
            obtain ⟨g, hg⟩ : ∃ g, g = w.heap.size := ⟨_, rfl⟩
            rw [<- hg] at C1
            have c0 := C1.c0
            have c1 := C1.c1
            have c2 := C1.c2
            have c3 := C1.c3
            have c4 := C1.c4
            have K1 := hi_ C1
            have HG := hi_ hg
            clear h hg C1
            have CR := hi_ cR
            go_enter Tryz.func18, Tryz.ntmps18
            go_wp2_with (first
              | (rw [<- hw1, <- HG.out]; clear hw1)
              | (go_at_call 5; refine (CR.out w1 K1.out.rd).mono ?_; rintro e w2 ⟨rfl, hb2⟩; have K2 := hi_ (K1.out.next hb2); have c02 := K2.out.c0; have c12 := K2.out.c1; have c22 := K2.out.c2; have c32 := K2.out.c3; have c42 := K2.out.c4; clear hb2)
              | (go_at_call 34; clear t1; refine (Place_yes _ _).mono ?_; rintro e w' ⟨rfl, rfl⟩; rw [d])
              | (go_at_call 34; refine (Place_yes _ _).mono ?_; rintro e w' ⟨rfl, rfl⟩; rw [d1]))
            go_ret
            exact ⟨rfl, K2.out.bel⟩
          · rw [show roomZ true lg a t = lg - (t - a) by unfold roomZ; rw [if_pos ⟨rfl, ha0, by omega, ht1, by omega⟩]]
            have d3 : decide (a + lg < t) = false := decide_eq_false h2
            obtain ⟨w1, hw1⟩ : ∃ w1, w1 = w.alloc (.cells (cc lg pg en gn A n cap) 24) := ⟨_, rfl⟩
            have C1 := CAt.new h lg pg en gn cap
            rw [<- hw1] at C1
            obtain ⟨g, hg⟩ : ∃ g, g = w.heap.size := ⟨_, rfl⟩
            rw [<- hg] at C1
            have c0 := C1.c0
            have c1 := C1.c1
            have c2 := C1.c2
            have c3 := C1.c3
            have c4 := C1.c4
            have K1 := hi_ C1
            have HG := hi_ hg
            clear h hg C1
            have CR := hi_ cR
            go_enter Tryz.func18, Tryz.ntmps18
            go_wp2_with (first
              | (rw [<- hw1, <- HG.out]; clear hw1)
              | (go_at_call 5; refine (CR.out w1 K1.out.rd).mono ?_; rintro e w2 ⟨rfl, hb2⟩; have K2 := hi_ (K1.out.next hb2); have c02 := K2.out.c0; have c12 := K2.out.c1; have c22 := K2.out.c2; have c32 := K2.out.c3; have c42 := K2.out.c4; clear hb2)
              | (go_at_call 34; clear t1; refine (Place_yes _ _).mono ?_; rintro e w' ⟨rfl, rfl⟩; rw [d])
              | (go_at_call 34; refine (Place_yes _ _).mono ?_; rintro e w' ⟨rfl, rfl⟩; rw [d1]))
            go_ret
            exact ⟨ret_int (by omega), K2.out.bel⟩
      · rw [show roomZ true lg a t = -1 by unfold roomZ; rw [if_neg (fun q => hp1 ⟨by omega, q.2.2.2.1⟩)]]
        have d1 := decide_eq_false hp1
        obtain ⟨w1, hw1⟩ : ∃ w1, w1 = w.alloc (.cells (cc lg pg en gn A n cap) 24) := ⟨_, rfl⟩
        have C1 := CAt.new h lg pg en gn cap
        rw [<- hw1] at C1
        obtain ⟨g, hg⟩ : ∃ g, g = w.heap.size := ⟨_, rfl⟩
        rw [<- hg] at C1
        have c0 := C1.c0
        have c1 := C1.c1
        have c2 := C1.c2
        have c3 := C1.c3
        have c4 := C1.c4
        have K1 := hi_ C1
        have HG := hi_ hg
        clear h hg C1
        have CR := hi_ cR
        go_enter Tryz.func18, Tryz.ntmps18
        go_wp2_with (first
          | (rw [<- hw1, <- HG.out]; clear hw1)
          | (go_at_call 5; refine (CR.out w1 K1.out.rd).mono ?_; rintro e w2 ⟨rfl, hb2⟩; have K2 := hi_ (K1.out.next hb2); have c02 := K2.out.c0; have c12 := K2.out.c1; have c22 := K2.out.c2; have c32 := K2.out.c3; have c42 := K2.out.c4; clear hb2)
          | (go_at_call 34; clear t1; refine (Place_yes _ _).mono ?_; rintro e w' ⟨rfl, rfl⟩; rw [d])
          | (go_at_call 34; refine (Place_yes _ _).mono ?_; rintro e w' ⟨rfl, rfl⟩; rw [d1]))
        go_ret
        exact ⟨rfl, K2.out.bel⟩
    · rw [show roomZ true lg a t = -1 by unfold roomZ; rw [if_neg (fun q => hp ⟨q.2.1, by omega⟩)]]
      have d := decide_eq_false hp
      obtain ⟨w1, hw1⟩ : ∃ w1, w1 = w.alloc (.cells (cc lg pg en gn A n cap) 24) := ⟨_, rfl⟩
      have C1 := CAt.new h lg pg en gn cap
      rw [<- hw1] at C1
      obtain ⟨g, hg⟩ : ∃ g, g = w.heap.size := ⟨_, rfl⟩
      rw [<- hg] at C1
      have c0 := C1.c0
      have c1 := C1.c1
      have c2 := C1.c2
      have c3 := C1.c3
      have c4 := C1.c4
      have K1 := hi_ C1
      have HG := hi_ hg
      clear h hg C1
      have CR := hi_ cR
      go_enter Tryz.func18, Tryz.ntmps18
      go_wp2_with (first
        | (rw [<- hw1, <- HG.out]; clear hw1)
        | (go_at_call 5; refine (CR.out w1 K1.out.rd).mono ?_; rintro e w2 ⟨rfl, hb2⟩; have K2 := hi_ (K1.out.next hb2); have c02 := K2.out.c0; have c12 := K2.out.c1; have c22 := K2.out.c2; have c32 := K2.out.c3; have c42 := K2.out.c4; clear hb2)
        | (go_at_call 34; refine (Place_yes _ _).mono ?_; rintro e w' ⟨rfl, rfl⟩; rw [d]))
      go_ret
      exact ⟨rfl, K2.out.bel⟩
end
end Go.Proofs.YthabmlbmlncbmaaGreat
namespace Go.Proofs.YthabmlbmlncbmaaGreat
open Go.RowKit
set_option linter.unusedVariables false
set_option maxRecDepth 20000
def effL (R : Bool) (lg : Int) (xs : List (List UInt8)) : List (List UInt8) := if R = true /\ (xs.length : Int) = lg then xs else []
theorem hasQ_nil (n : Int) : ¬ HasQ [] n := fun h => by have := okL_len h.2.1; simp [secAt] at this
theorem effL_yes {lg : Int} {xs : List (List UInt8)} (h : (xs.length : Int) = lg) : effL true lg xs = xs := by unfold effL; rw [if_pos ⟨rfl, h⟩]
theorem effL_no {R : Bool} {lg : Int} {xs : List (List UInt8)} {n : Int} (h : ¬ (R = true /\ (xs.length : Int) = lg /\ Plc n)) : ¬ HasQ (effL R lg xs) n := fun hq => by
  unfold effL at hq
  split at hq
  · rename_i h1
    exact h ⟨h1.1, h1.2, hq.1⟩
  · exact hasQ_nil n hq
def LHasP (l : List (List UInt8)) (n : Int) (w : World) (e : Ending) (w' : World) : Prop :=
  (HasQ l n -> ∃ (A : Option Addr) (m c : Nat), e = .returned (.tuple #[.agg #[.int .i64 (cE (secAt l n)), .int .i64 n, .int .i64 1, .slice A m c], .bool true]) /\ Rd w' A m (cB (secAt l n)) /\ (m <= 472 /\ m <= c /\ ∀ b o, A = some ⟨b, o, none⟩ -> 0 < m -> w.heap.size <= b)) /\
  (¬ HasQ l n -> e = .returned (.tuple #[.agg #[.int .i64 0, .int .i64 0, .int .i64 0, .slice none 0 0], .bool false])) /\ Below w.heap.size w w'
theorem LHasP.no {l : List (List UInt8)} {n : Int} {w w' : World} (h : ¬ HasQ l n) (hb : Below w.heap.size w w') : LHasP l n w (.returned (.tuple #[.agg #[.int .i64 0, .int .i64 0, .int .i64 0, .slice none 0 0], .bool false])) w' := ⟨fun k => absurd k h, fun _ => rfl, hb⟩
theorem LHasP.yes {l : List (List UInt8)} {n : Int} {w w' : World} {A : Option Addr} {m c : Nat} (h : HasQ l n) (hr : Rd w' A m (cB (secAt l n))) (hm : m <= 472 /\ m <= c /\ ∀ b o, A = some ⟨b, o, none⟩ -> 0 < m -> w.heap.size <= b) (hb : Below w.heap.size w w') :
    LHasP l n w (.returned (.tuple #[.agg #[.int .i64 (cE (secAt l n)), .int .i64 n, .int .i64 1, .slice A m c], .bool true])) w' := ⟨fun _ => ⟨A, m, c, rfl, hr, hm⟩, fun k => absurd h k, hb⟩
theorem secAt_idx {xs : List (List UInt8)} {n lg : Int} (h0 : 0 <= n) (hl : (xs.length : Int) = lg) (h2 : 2 <= lg) : ∃ k : Nat, n.tmod lg = (k : Int) /\ k < xs.length /\ xs[k]? = some (secAt xs n) := by
  subst hl
  have h1 := Int.emod_nonneg n (show (xs.length : Int) ≠ 0 by omega)
  have h3 := Int.emod_lt_of_pos n (show (0 : Int) < xs.length by omega)
  refine ⟨(n % (xs.length : Int)).toNat, ?_, by omega, ?_⟩
  · rw [Int.tmod_eq_emod_of_nonneg h0]; omega
  · unfold secAt
    rw [List.getD_eq_getElem?_getD, List.getElem?_eq_getElem (show (n % (xs.length : Int)).toNat < xs.length by omega)]
    rfl
section
variable (lg pg en gn : Int) (A : Option Addr) (n cap : Nat) (ks : List Kd) {K : Nat -> Prop} (LA : Option Addr) (ln lc : Nat) (xs : List (List UInt8)) (lsn : Int) (w : World)
theorem box2 (h : KRd w A n ks) : ∃ w1, w1 = (w.alloc (.cells (cc lg pg en gn A n cap) 24)).alloc (.cells #[.int .i64 0, .int .i64 0, .int .i64 0, .slice none 0 0] 70) /\ CAt w w1 w.heap.size lg pg en gn A n cap ks /\ SealAt w1 (w.heap.size + 1) 0 0 0 none 0 0 := by
  refine ⟨_, rfl, (CAt.new h lg pg en gn cap).next ((Below.refl _ _).alloc (Nat.le_refl _) _), ?_⟩
  have := SealAt.new (e := 0) (n := 0) (k := 0) (A := none) (m := 0) (c := 0) (w.alloc (.cells (cc lg pg en gn A n cap) 24))
  rwa [World.size_alloc] at this
theorem RHas_none (h : KRd w A n ks) {R : Bool} (cR : GRr lg pg en gn A n cap ks R) (hno : ¬ (R = true /\ (ln : Int) = lg /\ Plc lsn)) :
    Calls Tryz.prog 37 #[cv lg pg en gn A n cap, .slice LA ln lc, .int .i64 lsn] w fun e w' => e = .returned (.tuple #[.agg #[.int .i64 0, .int .i64 0, .int .i64 0, .slice none 0 0], .bool false]) /\ Below w.heap.size w w' := by
  obtain ⟨w1, hw1, C1, Z1⟩ := box2 lg pg en gn A n cap ks w h
  have CR := hi_ cR
  have c0 := C1.c0
  have c1 := C1.c1
  have c2 := C1.c2
  have c3 := C1.c3
  have c4 := C1.c4
  have K1 := hi_ C1
  have hz1 := Z1.lt
  have HZ := hi_ Z1
  clear h C1 Z1
  cases R
  · clear hno cR
    go_enter Tryz.func37, Tryz.ntmps37
    go_wp2_with (first
      | (rw [<- hw1]; clear hw1)
      | (go_at_call 5; refine (CR.out w1 K1.out.rd).mono ?_; rintro e w2 ⟨rfl, hb2⟩; have K2 := hi_ (K1.out.next hb2); have c02 := K2.out.c0; have c12 := K2.out.c1; have c22 := K2.out.c2; have c32 := K2.out.c3; have c42 := K2.out.c4; have Z2 := hi_ (HZ.out.below hb2 hz1); clear hb2)
      | (refine wpList_stseal rfl (.tmp 6) (.tmp 25) rfl rfl rfl Z2.out ?_; intro w3 hS3 hB3 _))
    refine bodyPost_ret (res_seal_tmp rfl rfl hS3) rfl ?_
    exact ⟨rfl, K2.out.bel.trans (hB3.mono (by omega))⟩
  · clear cR
    by_cases hl : (ln : Int) = lg
    · have hp : ¬ Plc lsn := fun hp => hno ⟨rfl, hl, hp⟩
      have d := decide_eq_false hp
      have hl' : ((ln : Int) != lg) = false := by simp [hl]
      have HL := hi_ hl
      clear hno hp hl
      go_enter Tryz.func37, Tryz.ntmps37
      go_wp2_with (first
        | (rw [<- hw1]; clear hw1)
        | (go_at_call 5; refine (CR.out w1 K1.out.rd).mono ?_; rintro e w2 ⟨rfl, hb2⟩; have K2 := hi_ (K1.out.next hb2); have c02 := K2.out.c0; have c12 := K2.out.c1; have c22 := K2.out.c2; have c32 := K2.out.c3; have c42 := K2.out.c4; have Z2 := hi_ (HZ.out.below hb2 hz1); clear hb2)
        | (go_at_call 34; refine (Place_yes _ _).mono ?_; rintro e w' ⟨rfl, rfl⟩; rw [d])
        | (refine wpList_stseal rfl (.tmp 6) (.tmp 25) rfl rfl rfl Z2.out ?_; intro w3 hS3 hB3 _))
      refine bodyPost_ret (res_seal_tmp rfl rfl hS3) rfl ?_
      exact ⟨rfl, K2.out.bel.trans (hB3.mono (by omega))⟩
    · have hl' : ((ln : Int) != lg) = true := by simpa using hl
      clear hno hl
      go_enter Tryz.func37, Tryz.ntmps37
      go_wp2_with (first
        | (rw [<- hw1]; clear hw1)
        | (go_at_call 5; refine (CR.out w1 K1.out.rd).mono ?_; rintro e w2 ⟨rfl, hb2⟩; have K2 := hi_ (K1.out.next hb2); have c02 := K2.out.c0; have c12 := K2.out.c1; have c22 := K2.out.c2; have c32 := K2.out.c3; have c42 := K2.out.c4; have Z2 := hi_ (HZ.out.below hb2 hz1); clear hb2)
        | (refine wpList_stseal rfl (.tmp 6) (.tmp 25) rfl rfl rfl Z2.out ?_; intro w3 hS3 hB3 _))
      refine bodyPost_ret (res_seal_tmp rfl rfl hS3) rfl ?_
      exact ⟨rfl, K2.out.bel.trans (hB3.mono (by omega))⟩
end
def GetL4 (F : Nat) (PA : Option Addr) (pm pc : Nat) (x : List UInt8) (E N Kk : Int) (ob : Bool) : Prop :=
  ∀ W, Rd W PA pm x -> Calls Tryz.prog F #[.slice PA pm pc] W fun ed w' => ∃ A' m' c', ed = .returned (.tuple #[.agg #[.int .i64 E, .int .i64 N, .int .i64 Kk, .slice A' m' c'], .bool ob]) /\ Rd w' A' m' (gB x) /\ (m' <= 472 /\ m' <= c' /\ ∀ b o, A' = some ⟨b, o, none⟩ -> 0 < m' -> W.heap.size <= b) /\ Below W.heap.size W w'
section
variable (lg pg en gn : Int) (A : Option Addr) (n cap : Nat) (ks : List Kd) {K : Nat -> Prop} (LA : Option Addr) (ln lc : Nat) (xs : List (List UInt8)) (lsn : Int) (w : World)
set_option maxHeartbeats 2000000 in
theorem RHas_yes {E : Int} (h : KRd w A n ks) (cR : GRr lg pg en gn A n cap ks true) (hb : (2 <= lg /\ lg <= 1024) /\ (4 <= pg /\ pg <= 1024)) (hl : (ln : Int) = lg) (hp : Plc lsn) (k b o pm pc : Nat) (PA : Option Addr) (x : List UInt8) (hk : lsn.tmod lg = (k : Int)) (hkl : k < ln)
    (hblt : b < w.heap.size) (hcell : w.cell? ⟨b, o + k, none⟩ = some (.slice PA pm pc)) (hrd : Rd w PA pm x) (hG : GetL4 51 PA pm pc x E lsn 1 true) :
    Calls Tryz.prog 37 #[cv lg pg en gn A n cap, .slice (some ⟨b, o, none⟩) ln lc, .int .i64 lsn] w fun e w' => ∃ A' m' c', e = .returned (.tuple #[.agg #[.int .i64 E, .int .i64 lsn, .int .i64 1, .slice A' m' c'], .bool true]) /\ Rd w' A' m' (gB x) /\ (m' <= 472 /\ m' <= c' /\ ∀ b o, A' = some ⟨b, o, none⟩ -> 0 < m' -> w.heap.size <= b) /\ Below w.heap.size w w' := by
  have HPL := hi_ hp
  have d := decide_eq_true hp
  have hl' : ((ln : Int) != lg) = false := by simp [hl]
  have hlog : logZ true lg lsn = 2 + (k : Int) := by unfold logZ; rw [if_pos ⟨rfl, hp⟩, hk]
  obtain ⟨z, hz⟩ : ∃ z, z = logZ true lg lsn := ⟨_, rfl⟩
  have CL : Hid (∀ W, KRd W A n ks -> Calls Tryz.prog 52 #[cv lg pg en gn A n cap, .int .i64 lsn] W fun e w' => e = .returned (.int .i64 z) /\ Below W.heap.size W w') := hi_ fun W hW => by rw [hz]; exact RLog_any lg pg en gn A n cap ks W hW cR (fun _ => hb) lsn
  have hzk : wrap64 (z - 2) = (k : Int) := by rw [hz, hlog]; unfold wrap64; omega
  have hzk2 : IntKind.i64.wrap (z - 2) = (k : Int) := by rw [wrapEq]; exact hzk
  obtain ⟨w1, hw1, C1, Z1⟩ := box2 lg pg en gn A n cap ks w h
  have CR := hi_ cR
  have c0 := C1.c0
  have c1 := C1.c1
  have c2 := C1.c2
  have c3 := C1.c3
  have c4 := C1.c4
  have K1 := hi_ C1
  have hz1 := Z1.lt
  have HZ := hi_ Z1
  clear h C1 Z1
  have HC := hi_ (And.intro hcell (And.intro hblt hrd))
  have hk0 : (0 : Int) <= (k : Int) := by omega
  have hk2 : (k : Int) < (ln : Int) := by omega
  have CG := hi_ hG
  clear hcell hblt hrd hl hp hb hk hG cR hz hlog
  go_enter Tryz.func37, Tryz.ntmps37
  go_wp2_with (first
    | (rw [<- hw1]; clear hw1)
    | (go_at_call 5; refine (CR.out w1 K1.out.rd).mono ?_; rintro e w2 ⟨rfl, hb2⟩; have K2 := hi_ (K1.out.next hb2); have c02 := K2.out.c0; have c12 := K2.out.c1; have c22 := K2.out.c2; have c32 := K2.out.c3; have c42 := K2.out.c4; have Z2 := hi_ (HZ.out.below hb2 hz1); clear hb2)
    | (go_at_call 34; refine (Place_yes _ _).mono ?_; rintro e w' ⟨rfl, rfl⟩; rw [d])
    | (go_at_call 52; refine (CL.out w2 K2.out.rd).mono ?_; rintro e w3 ⟨rfl, hb3⟩
       have K3 := hi_ (K2.out.next hb3)
       have hz2 := Z2.out.lt
       have Z3 := hi_ (Z2.out.below hb3 hz2)
       have b03 : Below w.heap.size w w3 := K3.out.bel
       have hc3 : w3.cell? ⟨b, o + k, none⟩ = some (.slice PA pm pc) := (b03.cell (p := ⟨b, o + k, none⟩) HC.out.2.1).trans HC.out.1
       have R3 := hi_ (HC.out.2.2.below (Nat.le_refl _) b03)
       clear hb3)
    | (go_at_call 51; refine (CG.out w3 R3.out).mono ?_; rintro e w4 ⟨A4, m4, c4', rfl, hr4, hm4, hb4⟩
       have hz3 := Z3.out.lt
       have Z4 := hi_ (Z3.out.below hb4 hz3)
       have B4 := hi_ (K3.out.bel.trans (hb4.mono K3.out.bel.size))
       have R4 := hi_ (And.intro hr4 (And.intro (And.intro hm4.1 (And.intro hm4.2.1 (fun b o e h0 => Nat.le_trans K3.out.bel.size (hm4.2.2 b o e h0)))) (And.intro hm4.2.2 hz3)))
       clear hr4 hm4 hb4 hz3)
    | (refine wpList_stseal rfl (.tmp 8) (.tmp 35) rfl rfl rfl (SealAt.new w4) ?_; intro w5 hS5 hB5 hE5
       have k1 : w5.cell? ⟨w4.heap.size, 1, none⟩ = some (.int .i64 lsn) := cell_of_row _ _ _ _ _ _ hS5
       have k2 : w5.cell? ⟨w4.heap.size, 2, none⟩ = some (.int .i64 (1)) := cell_of_row _ _ _ _ _ _ hS5
       have hz4 := Z4.out.lt
       have Z5 := hi_ ((Z4.out.alloc _).below hB5 hz4)
       have S5 := hi_ hS5
       have B5 := hi_ (B4.out.trans ((((Below.refl _ _).alloc (Nat.le_refl _) _).trans hB5).mono B4.out.size))
       have R5 := hi_ (R4.out.1.below (Nat.le_refl _) (((Below.refl _ _).alloc (Nat.le_refl _) _).trans hB5))
       clear hB5 hE5 hS5 hz4)
    | (refine wpList_ldseal rfl (.tmp 8) rfl rfl S5.out ?_)
    | (refine wpList_stseal rfl (.tmp 6) (.tmp 49) rfl rfl rfl Z5.out ?_; intro w6 hS6 hB6 hE6))
  refine bodyPost_ret (res_seal_tmp rfl rfl hS6) rfl ?_
  refine ⟨A4, m4, c4', rfl, ?_, R4.out.2.1, B5.out.trans (hB6.mono (by omega))⟩
  by_cases h0 : 0 < m4
  · exact R5.out.block hB6.size fun b o e => hE6 b (by have h1 := R4.out.2.2.1 b o e h0; have h2 := R4.out.2.2.2; omega)
  · exact ⟨R5.out.1, fun h => absurd h h0⟩
set_option maxHeartbeats 2000000 in
theorem RHas_no1 {E N Kk : Int} (h : KRd w A n ks) (cR : GRr lg pg en gn A n cap ks true) (hb : (2 <= lg /\ lg <= 1024) /\ (4 <= pg /\ pg <= 1024)) (hl : (ln : Int) = lg) (hp : Plc lsn) (k b o pm pc : Nat) (PA : Option Addr) (x : List UInt8) (hk : lsn.tmod lg = (k : Int)) (hkl : k < ln)
    (hblt : b < w.heap.size) (hcell : w.cell? ⟨b, o + k, none⟩ = some (.slice PA pm pc)) (hrd : Rd w PA pm x) (hG : GetL4 51 PA pm pc x E N Kk false) :
    Calls Tryz.prog 37 #[cv lg pg en gn A n cap, .slice (some ⟨b, o, none⟩) ln lc, .int .i64 lsn] w fun e w' => e = .returned (.tuple #[.agg #[.int .i64 0, .int .i64 0, .int .i64 0, .slice none 0 0], .bool false]) /\ Below w.heap.size w w' := by
  have HPL := hi_ hp
  have d := decide_eq_true hp
  have hl' : ((ln : Int) != lg) = false := by simp [hl]
  have hlog : logZ true lg lsn = 2 + (k : Int) := by unfold logZ; rw [if_pos ⟨rfl, hp⟩, hk]
  obtain ⟨z, hz⟩ : ∃ z, z = logZ true lg lsn := ⟨_, rfl⟩
  have CL : Hid (∀ W, KRd W A n ks -> Calls Tryz.prog 52 #[cv lg pg en gn A n cap, .int .i64 lsn] W fun e w' => e = .returned (.int .i64 z) /\ Below W.heap.size W w') := hi_ fun W hW => by rw [hz]; exact RLog_any lg pg en gn A n cap ks W hW cR (fun _ => hb) lsn
  have hzk : wrap64 (z - 2) = (k : Int) := by rw [hz, hlog]; unfold wrap64; omega
  have hzk2 : IntKind.i64.wrap (z - 2) = (k : Int) := by rw [wrapEq]; exact hzk
  obtain ⟨w1, hw1, C1, Z1⟩ := box2 lg pg en gn A n cap ks w h
  have CR := hi_ cR
  have c0 := C1.c0
  have c1 := C1.c1
  have c2 := C1.c2
  have c3 := C1.c3
  have c4 := C1.c4
  have K1 := hi_ C1
  have hz1 := Z1.lt
  have HZ := hi_ Z1
  clear h C1 Z1
  have HC := hi_ (And.intro hcell (And.intro hblt hrd))
  have hk0 : (0 : Int) <= (k : Int) := by omega
  have hk2 : (k : Int) < (ln : Int) := by omega
  have CG := hi_ hG
  clear hcell hblt hrd hl hp hb hk hG cR hz hlog
  go_enter Tryz.func37, Tryz.ntmps37
  go_wp2_with (first
    | (rw [<- hw1]; clear hw1)
    | (go_at_call 5; refine (CR.out w1 K1.out.rd).mono ?_; rintro e w2 ⟨rfl, hb2⟩; have K2 := hi_ (K1.out.next hb2); have c02 := K2.out.c0; have c12 := K2.out.c1; have c22 := K2.out.c2; have c32 := K2.out.c3; have c42 := K2.out.c4; have Z2 := hi_ (HZ.out.below hb2 hz1); clear hb2)
    | (go_at_call 34; refine (Place_yes _ _).mono ?_; rintro e w' ⟨rfl, rfl⟩; rw [d])
    | (go_at_call 52; refine (CL.out w2 K2.out.rd).mono ?_; rintro e w3 ⟨rfl, hb3⟩
       have K3 := hi_ (K2.out.next hb3)
       have hz2 := Z2.out.lt
       have Z3 := hi_ (Z2.out.below hb3 hz2)
       have b03 : Below w.heap.size w w3 := K3.out.bel
       have hc3 : w3.cell? ⟨b, o + k, none⟩ = some (.slice PA pm pc) := (b03.cell (p := ⟨b, o + k, none⟩) HC.out.2.1).trans HC.out.1
       have R3 := hi_ (HC.out.2.2.below (Nat.le_refl _) b03)
       clear hb3)
    | (go_at_call 51; refine (CG.out w3 R3.out).mono ?_; rintro e w4 ⟨A4, m4, c4', rfl, hr4, hm4, hb4⟩
       have hz3 := Z3.out.lt
       have Z4 := hi_ (Z3.out.below hb4 hz3)
       have B4 := hi_ (K3.out.bel.trans (hb4.mono K3.out.bel.size))
       have R4 := hi_ (And.intro hr4 (And.intro (And.intro hm4.1 (And.intro hm4.2.1 (fun b o e h0 => Nat.le_trans K3.out.bel.size (hm4.2.2 b o e h0)))) (And.intro hm4.2.2 hz3)))
       clear hr4 hm4 hb4 hz3)
    | (refine wpList_stseal rfl (.tmp 8) (.tmp 35) rfl rfl rfl (SealAt.new w4) ?_; intro w5 hS5 hB5 hE5
       have k1 : w5.cell? ⟨w4.heap.size, 1, none⟩ = some (.int .i64 N) := cell_of_row _ _ _ _ _ _ hS5
       have k2 : w5.cell? ⟨w4.heap.size, 2, none⟩ = some (.int .i64 (Kk)) := cell_of_row _ _ _ _ _ _ hS5
       have hz4 := Z4.out.lt
       have Z5 := hi_ ((Z4.out.alloc _).below hB5 hz4)
       have S5 := hi_ hS5
       have B5 := hi_ (B4.out.trans ((((Below.refl _ _).alloc (Nat.le_refl _) _).trans hB5).mono B4.out.size))
       have R5 := hi_ (R4.out.1.below (Nat.le_refl _) (((Below.refl _ _).alloc (Nat.le_refl _) _).trans hB5))
       clear hB5 hE5 hS5 hz4)
    | (refine wpList_stseal rfl (.tmp 6) (.tmp 50) rfl rfl rfl Z5.out ?_; intro w6 hS6 hB6 hE6))
  refine bodyPost_ret (res_seal_tmp rfl rfl hS6) rfl ?_
  exact ⟨rfl, B5.out.trans (hB6.mono (by omega))⟩
set_option maxHeartbeats 2000000 in
theorem RHas_no2 {E N Kk : Int} (h : KRd w A n ks) (cR : GRr lg pg en gn A n cap ks true) (hb : (2 <= lg /\ lg <= 1024) /\ (4 <= pg /\ pg <= 1024)) (hl : (ln : Int) = lg) (hp : Plc lsn) (k b o pm pc : Nat) (PA : Option Addr) (x : List UInt8) (hk : lsn.tmod lg = (k : Int)) (hkl : k < ln)
    (hblt : b < w.heap.size) (hcell : w.cell? ⟨b, o + k, none⟩ = some (.slice PA pm pc)) (hrd : Rd w PA pm x) (hG : GetL4 51 PA pm pc x E N Kk true) (hk1 : Kk ≠ 1) :
    Calls Tryz.prog 37 #[cv lg pg en gn A n cap, .slice (some ⟨b, o, none⟩) ln lc, .int .i64 lsn] w fun e w' => e = .returned (.tuple #[.agg #[.int .i64 0, .int .i64 0, .int .i64 0, .slice none 0 0], .bool false]) /\ Below w.heap.size w w' := by
  have HPL := hi_ hp
  have d := decide_eq_true hp
  have hl' : ((ln : Int) != lg) = false := by simp [hl]
  have hlog : logZ true lg lsn = 2 + (k : Int) := by unfold logZ; rw [if_pos ⟨rfl, hp⟩, hk]
  obtain ⟨z, hz⟩ : ∃ z, z = logZ true lg lsn := ⟨_, rfl⟩
  have CL : Hid (∀ W, KRd W A n ks -> Calls Tryz.prog 52 #[cv lg pg en gn A n cap, .int .i64 lsn] W fun e w' => e = .returned (.int .i64 z) /\ Below W.heap.size W w') := hi_ fun W hW => by rw [hz]; exact RLog_any lg pg en gn A n cap ks W hW cR (fun _ => hb) lsn
  have hzk : wrap64 (z - 2) = (k : Int) := by rw [hz, hlog]; unfold wrap64; omega
  have hzk2 : IntKind.i64.wrap (z - 2) = (k : Int) := by rw [wrapEq]; exact hzk
  obtain ⟨w1, hw1, C1, Z1⟩ := box2 lg pg en gn A n cap ks w h
  have CR := hi_ cR
  have c0 := C1.c0
  have c1 := C1.c1
  have c2 := C1.c2
  have c3 := C1.c3
  have c4 := C1.c4
  have K1 := hi_ C1
  have hz1 := Z1.lt
  have HZ := hi_ Z1
  clear h C1 Z1
  have HC := hi_ (And.intro hcell (And.intro hblt hrd))
  have hk0 : (0 : Int) <= (k : Int) := by omega
  have hk2 : (k : Int) < (ln : Int) := by omega
  have CG := hi_ hG
  have hq : (Kk == 1) = false := by simpa using hk1
  have hq2 : (Kk != 1) = true := by simpa using hk1
  clear hcell hblt hrd hl hp hb hk hG cR hz hlog hk1
  go_enter Tryz.func37, Tryz.ntmps37
  go_wp2_with (first
    | (rw [<- hw1]; clear hw1)
    | (go_at_call 5; refine (CR.out w1 K1.out.rd).mono ?_; rintro e w2 ⟨rfl, hb2⟩; have K2 := hi_ (K1.out.next hb2); have c02 := K2.out.c0; have c12 := K2.out.c1; have c22 := K2.out.c2; have c32 := K2.out.c3; have c42 := K2.out.c4; have Z2 := hi_ (HZ.out.below hb2 hz1); clear hb2)
    | (go_at_call 34; refine (Place_yes _ _).mono ?_; rintro e w' ⟨rfl, rfl⟩; rw [d])
    | (go_at_call 52; refine (CL.out w2 K2.out.rd).mono ?_; rintro e w3 ⟨rfl, hb3⟩
       have K3 := hi_ (K2.out.next hb3)
       have hz2 := Z2.out.lt
       have Z3 := hi_ (Z2.out.below hb3 hz2)
       have b03 : Below w.heap.size w w3 := K3.out.bel
       have hc3 : w3.cell? ⟨b, o + k, none⟩ = some (.slice PA pm pc) := (b03.cell (p := ⟨b, o + k, none⟩) HC.out.2.1).trans HC.out.1
       have R3 := hi_ (HC.out.2.2.below (Nat.le_refl _) b03)
       clear hb3)
    | (go_at_call 51; refine (CG.out w3 R3.out).mono ?_; rintro e w4 ⟨A4, m4, c4', rfl, hr4, hm4, hb4⟩
       have hz3 := Z3.out.lt
       have Z4 := hi_ (Z3.out.below hb4 hz3)
       have B4 := hi_ (K3.out.bel.trans (hb4.mono K3.out.bel.size))
       have R4 := hi_ (And.intro hr4 (And.intro (And.intro hm4.1 (And.intro hm4.2.1 (fun b o e h0 => Nat.le_trans K3.out.bel.size (hm4.2.2 b o e h0)))) (And.intro hm4.2.2 hz3)))
       clear hr4 hm4 hb4 hz3)
    | (refine wpList_stseal rfl (.tmp 8) (.tmp 35) rfl rfl rfl (SealAt.new w4) ?_; intro w5 hS5 hB5 hE5
       have k1 : w5.cell? ⟨w4.heap.size, 1, none⟩ = some (.int .i64 N) := cell_of_row _ _ _ _ _ _ hS5
       have k2 : w5.cell? ⟨w4.heap.size, 2, none⟩ = some (.int .i64 (Kk)) := cell_of_row _ _ _ _ _ _ hS5
       have hz4 := Z4.out.lt
       have Z5 := hi_ ((Z4.out.alloc _).below hB5 hz4)
       have S5 := hi_ hS5
       have B5 := hi_ (B4.out.trans ((((Below.refl _ _).alloc (Nat.le_refl _) _).trans hB5).mono B4.out.size))
       have R5 := hi_ (R4.out.1.below (Nat.le_refl _) (((Below.refl _ _).alloc (Nat.le_refl _) _).trans hB5))
       clear hB5 hE5 hS5 hz4)
    | (refine wpList_stseal rfl (.tmp 6) (.tmp 50) rfl rfl rfl Z5.out ?_; intro w6 hS6 hB6 hE6))
  refine bodyPost_ret (res_seal_tmp rfl rfl hS6) rfl ?_
  exact ⟨rfl, B5.out.trans (hB6.mono (by omega))⟩
set_option maxHeartbeats 2000000 in
theorem RHas_no3 {E N : Int} (h : KRd w A n ks) (cR : GRr lg pg en gn A n cap ks true) (hb : (2 <= lg /\ lg <= 1024) /\ (4 <= pg /\ pg <= 1024)) (hl : (ln : Int) = lg) (hp : Plc lsn) (k b o pm pc : Nat) (PA : Option Addr) (x : List UInt8) (hk : lsn.tmod lg = (k : Int)) (hkl : k < ln)
    (hblt : b < w.heap.size) (hcell : w.cell? ⟨b, o + k, none⟩ = some (.slice PA pm pc)) (hrd : Rd w PA pm x) (hG : GetL4 51 PA pm pc x E N 1 true) (hn1 : N ≠ lsn) :
    Calls Tryz.prog 37 #[cv lg pg en gn A n cap, .slice (some ⟨b, o, none⟩) ln lc, .int .i64 lsn] w fun e w' => e = .returned (.tuple #[.agg #[.int .i64 0, .int .i64 0, .int .i64 0, .slice none 0 0], .bool false]) /\ Below w.heap.size w w' := by
  have HPL := hi_ hp
  have d := decide_eq_true hp
  have hl' : ((ln : Int) != lg) = false := by simp [hl]
  have hlog : logZ true lg lsn = 2 + (k : Int) := by unfold logZ; rw [if_pos ⟨rfl, hp⟩, hk]
  obtain ⟨z, hz⟩ : ∃ z, z = logZ true lg lsn := ⟨_, rfl⟩
  have CL : Hid (∀ W, KRd W A n ks -> Calls Tryz.prog 52 #[cv lg pg en gn A n cap, .int .i64 lsn] W fun e w' => e = .returned (.int .i64 z) /\ Below W.heap.size W w') := hi_ fun W hW => by rw [hz]; exact RLog_any lg pg en gn A n cap ks W hW cR (fun _ => hb) lsn
  have hzk : wrap64 (z - 2) = (k : Int) := by rw [hz, hlog]; unfold wrap64; omega
  have hzk2 : IntKind.i64.wrap (z - 2) = (k : Int) := by rw [wrapEq]; exact hzk
  obtain ⟨w1, hw1, C1, Z1⟩ := box2 lg pg en gn A n cap ks w h
  have CR := hi_ cR
  have c0 := C1.c0
  have c1 := C1.c1
  have c2 := C1.c2
  have c3 := C1.c3
  have c4 := C1.c4
  have K1 := hi_ C1
  have hz1 := Z1.lt
  have HZ := hi_ Z1
  clear h C1 Z1
  have HC := hi_ (And.intro hcell (And.intro hblt hrd))
  have hk0 : (0 : Int) <= (k : Int) := by omega
  have hk2 : (k : Int) < (ln : Int) := by omega
  have CG := hi_ hG
  have hq : (N == lsn) = false := by simpa using hn1
  have hq2 : (N != lsn) = true := by simpa using hn1
  clear hcell hblt hrd hl hp hb hk hG cR hz hlog hn1
  go_enter Tryz.func37, Tryz.ntmps37
  go_wp2_with (first
    | (rw [<- hw1]; clear hw1)
    | (go_at_call 5; refine (CR.out w1 K1.out.rd).mono ?_; rintro e w2 ⟨rfl, hb2⟩; have K2 := hi_ (K1.out.next hb2); have c02 := K2.out.c0; have c12 := K2.out.c1; have c22 := K2.out.c2; have c32 := K2.out.c3; have c42 := K2.out.c4; have Z2 := hi_ (HZ.out.below hb2 hz1); clear hb2)
    | (go_at_call 34; refine (Place_yes _ _).mono ?_; rintro e w' ⟨rfl, rfl⟩; rw [d])
    | (go_at_call 52; refine (CL.out w2 K2.out.rd).mono ?_; rintro e w3 ⟨rfl, hb3⟩
       have K3 := hi_ (K2.out.next hb3)
       have hz2 := Z2.out.lt
       have Z3 := hi_ (Z2.out.below hb3 hz2)
       have b03 : Below w.heap.size w w3 := K3.out.bel
       have hc3 : w3.cell? ⟨b, o + k, none⟩ = some (.slice PA pm pc) := (b03.cell (p := ⟨b, o + k, none⟩) HC.out.2.1).trans HC.out.1
       have R3 := hi_ (HC.out.2.2.below (Nat.le_refl _) b03)
       clear hb3)
    | (go_at_call 51; refine (CG.out w3 R3.out).mono ?_; rintro e w4 ⟨A4, m4, c4', rfl, hr4, hm4, hb4⟩
       have hz3 := Z3.out.lt
       have Z4 := hi_ (Z3.out.below hb4 hz3)
       have B4 := hi_ (K3.out.bel.trans (hb4.mono K3.out.bel.size))
       have R4 := hi_ (And.intro hr4 (And.intro (And.intro hm4.1 (And.intro hm4.2.1 (fun b o e h0 => Nat.le_trans K3.out.bel.size (hm4.2.2 b o e h0)))) (And.intro hm4.2.2 hz3)))
       clear hr4 hm4 hb4 hz3)
    | (refine wpList_stseal rfl (.tmp 8) (.tmp 35) rfl rfl rfl (SealAt.new w4) ?_; intro w5 hS5 hB5 hE5
       have k1 : w5.cell? ⟨w4.heap.size, 1, none⟩ = some (.int .i64 N) := cell_of_row _ _ _ _ _ _ hS5
       have k2 : w5.cell? ⟨w4.heap.size, 2, none⟩ = some (.int .i64 (1)) := cell_of_row _ _ _ _ _ _ hS5
       have hz4 := Z4.out.lt
       have Z5 := hi_ ((Z4.out.alloc _).below hB5 hz4)
       have S5 := hi_ hS5
       have B5 := hi_ (B4.out.trans ((((Below.refl _ _).alloc (Nat.le_refl _) _).trans hB5).mono B4.out.size))
       have R5 := hi_ (R4.out.1.below (Nat.le_refl _) (((Below.refl _ _).alloc (Nat.le_refl _) _).trans hB5))
       clear hB5 hE5 hS5 hz4)
    | (refine wpList_stseal rfl (.tmp 6) (.tmp 50) rfl rfl rfl Z5.out ?_; intro w6 hS6 hB6 hE6))
  refine bodyPost_ret (res_seal_tmp rfl rfl hS6) rfl ?_
  exact ⟨rfl, B5.out.trans (hB6.mono (by omega))⟩
theorem RHas_any (h : KRd w A n ks) {R : Bool} (cR : GRr lg pg en gn A n cap ks R) (hb : R = true -> (2 <= lg /\ lg <= 1024) /\ (4 <= pg /\ pg <= 1024)) (hv : PcsV K w LA ln xs) :
    Calls Tryz.prog 37 #[cv lg pg en gn A n cap, .slice LA ln lc, .int .i64 lsn] w (LHasP (effL R lg xs) lsn w) := by
  have hxl := hv.len
  by_cases hno : R = true /\ (ln : Int) = lg /\ Plc lsn
  · obtain ⟨rfl, hl, hp⟩ := hno
    have hb' := hb rfl
    obtain ⟨k, hk, hkl, hx⟩ := secAt_idx (xs := xs) (n := lsn) (lg := lg) hp.1 (by rw [hxl]; exact hl) hb'.1.1
    rw [hxl] at hkl
    obtain ⟨b, o, PA, pm, pc, rfl, hblt, hcell, hrd, hpc, _⟩ := hv.cell hx
    rw [effL_yes (by rw [hxl]; exact hl)]
    obtain ⟨x, hxs⟩ : ∃ x, x = secAt xs lsn := ⟨_, rfl⟩
    rw [<- hxs] at hrd
    have G : GetL4 51 PA pm pc x (gE x) (gN x) (gK x) (decide (okL x)) := fun W hW => RGet_any PA pm pc x W hW hpc
    have HP := hp
    by_cases hq : HasQ xs lsn
    · have q := hq.2
      rw [<- hxs] at q
      have e0 : gE x = cE x := by unfold gE; rw [if_pos q.1]
      have e1 : gK x = 1 := by unfold gK; rw [if_pos q.1]; exact q.2.1
      have e2 : gN x = lsn := by unfold gN; rw [if_pos q.1]; exact q.2.2
      have e3 : gB x = cB x := by unfold gB; rw [if_pos q.1]
      rw [e0, e1, e2, decide_eq_true q.1] at G
      refine (RHas_yes lg pg en gn A n cap ks ln lc lsn w h cR hb' hl hp k b o pm pc PA x hk hkl hblt hcell hrd G).mono ?_
      rintro e w' ⟨A', m', c', rfl, hr, hm, hbl⟩
      rw [e3, hxs] at hr
      rw [hxs]
      exact .yes hq hr hm hbl
    · by_cases q1 : okL x
      · have e1 : gK x = cK x := by unfold gK; rw [if_pos q1]
        have e2 : gN x = cN x := by unfold gN; rw [if_pos q1]
        rw [decide_eq_true q1, e1, e2] at G
        by_cases q2 : cK x = 1
        · have q3 : cN x ≠ lsn := fun q3 => hq ⟨hp, by rw [<- hxs]; exact ⟨q1, q2, q3⟩⟩
          rw [q2] at G
          refine (RHas_no3 lg pg en gn A n cap ks ln lc lsn w h cR hb' hl hp k b o pm pc PA x hk hkl hblt hcell hrd G q3).mono ?_
          rintro e w' ⟨rfl, hbl⟩
          exact .no hq hbl
        · refine (RHas_no2 lg pg en gn A n cap ks ln lc lsn w h cR hb' hl hp k b o pm pc PA x hk hkl hblt hcell hrd G q2).mono ?_
          rintro e w' ⟨rfl, hbl⟩
          exact .no hq hbl
      · rw [decide_eq_false q1] at G
        refine (RHas_no1 lg pg en gn A n cap ks ln lc lsn w h cR hb' hl hp k b o pm pc PA x hk hkl hblt hcell hrd G).mono ?_
        rintro e w' ⟨rfl, hbl⟩
        exact .no hq hbl
  · refine (RHas_none lg pg en gn A n cap ks LA ln lc lsn w h cR hno).mono ?_
    rintro e w' ⟨rfl, hbl⟩
    exact .no (effL_no (by rw [hxl]; exact hno)) hbl
end
end Go.Proofs.YthabmlbmlncbmaaGreat
namespace Go.Proofs.YthabmlbmlncbmaaGreat
open Go.RowKit
set_option linter.unusedVariables false
set_option maxRecDepth 20000
section
variable (lg pg en gn : Int) (A : Option Addr) (n cap : Nat) (ks : List Kd) {K : Nat -> Prop} (LA : Option Addr) (ln lc : Nat) (xs : List (List UInt8)) (lsn : Int) (w : World)
theorem swithin_any (n lo hi : Int) (w : World) :
    Calls Tryz.prog 60 #[.int .i64 n, .int .i64 lo, .int .i64 hi] w fun e w' => e = .returned (.bool (decide (lo <= n /\ n <= hi))) /\ w = w' := by
  by_cases h1 : lo <= n
  · by_cases h2 : n <= hi
    · have d1 := decide_eq_true h1
      have d2 := decide_eq_true h2
      rw [decide_eq_true (show lo <= n /\ n <= hi from ⟨h1, h2⟩)]
      clear h1 h2
      go_enter Tryz.func60, Tryz.ntmps60
      go_wp2
      go_ret
      exact ⟨rfl, rfl⟩
    · have d1 := decide_eq_true h1
      have d2 := decide_eq_false h2
      rw [decide_eq_false (show ¬ (lo <= n /\ n <= hi) from fun h => h2 h.2)]
      clear h1 h2
      go_enter Tryz.func60, Tryz.ntmps60
      go_wp2
      go_ret
      exact ⟨rfl, rfl⟩
  · have d1 := decide_eq_false h1
    rw [decide_eq_false (show ¬ (lo <= n /\ n <= hi) from fun h => h1 h.1)]
    clear h1
    go_enter Tryz.func60, Tryz.ntmps60
    go_wp2
    go_ret
    exact ⟨rfl, rfl⟩
def PRt (R : Bool) : Prop := ∀ W, KRd W A n ks -> Calls Tryz.prog 59 #[cv lg pg en gn A n cap] W fun e w' => e = .returned (.int .i64 (if R = true then 0 else 1)) /\ Below W.heap.size W w'
theorem SHas_none (h : KRd w A n ks) {R : Bool} (cR : PRt lg pg en gn A n cap ks R) (hno : ¬ (R = true /\ (ln : Int) = lg /\ Plc lsn)) :
    Calls Tryz.prog 54 #[cv lg pg en gn A n cap, .slice LA ln lc, .int .i64 lsn] w fun e w' => e = .returned (.tuple #[.agg #[.int .i64 0, .int .i64 0, .int .i64 0, .slice none 0 0], .bool false]) /\ Below w.heap.size w w' := by
  obtain ⟨w1, hw1, C1, Z1⟩ := box2 lg pg en gn A n cap ks w h
  have CR := hi_ cR
  have c0 := C1.c0
  have c1 := C1.c1
  have c2 := C1.c2
  have c3 := C1.c3
  have c4 := C1.c4
  have K1 := hi_ C1
  have hz1 := Z1.lt
  have HZ := hi_ Z1
  clear h C1 Z1
  cases R
  · have CR : Hid (∀ W, KRd W A n ks -> Calls Tryz.prog 59 #[cv lg pg en gn A n cap] W fun e w' => e = .returned (.int .i64 1) /\ Below W.heap.size W w') := hi_ cR
    clear hno cR
    go_enter Tryz.func54, Tryz.ntmps54
    go_wp2_with (first
      | (rw [<- hw1]; clear hw1)
      | (go_at_call 59; refine (CR.out w1 K1.out.rd).mono ?_; rintro e w2 ⟨rfl, hb2⟩; have K2 := hi_ (K1.out.next hb2); have c02 := K2.out.c0; have c12 := K2.out.c1; have c22 := K2.out.c2; have c32 := K2.out.c3; have c42 := K2.out.c4; have Z2 := hi_ (HZ.out.below hb2 hz1); clear hb2)
      | (refine wpList_stseal rfl (.tmp 6) (.tmp 25) rfl rfl rfl Z2.out ?_; intro w3 hS3 hB3 _))
    refine bodyPost_ret (res_seal_tmp rfl rfl hS3) rfl ?_
    exact ⟨rfl, K2.out.bel.trans (hB3.mono (by omega))⟩
  · have CR : Hid (∀ W, KRd W A n ks -> Calls Tryz.prog 59 #[cv lg pg en gn A n cap] W fun e w' => e = .returned (.int .i64 0) /\ Below W.heap.size W w') := hi_ cR
    clear cR
    by_cases hl : (ln : Int) = lg
    · have hp : ¬ Plc lsn := fun hp => hno ⟨rfl, hl, hp⟩
      have d := decide_eq_false hp
      unfold Plc at d
      have hl' : ((ln : Int) != lg) = false := by simp [hl]
      have HL := hi_ hl
      clear hno hp hl
      go_enter Tryz.func54, Tryz.ntmps54
      go_wp2_with (first
        | (rw [<- hw1]; clear hw1)
        | (go_at_call 59; refine (CR.out w1 K1.out.rd).mono ?_; rintro e w2 ⟨rfl, hb2⟩; have K2 := hi_ (K1.out.next hb2); have c02 := K2.out.c0; have c12 := K2.out.c1; have c22 := K2.out.c2; have c32 := K2.out.c3; have c42 := K2.out.c4; have Z2 := hi_ (HZ.out.below hb2 hz1); clear hb2)
        | (go_at_call 60; refine (swithin_any _ _ _ _).mono ?_; rintro e w' ⟨rfl, rfl⟩; rw [d])
        | (refine wpList_stseal rfl (.tmp 6) (.tmp 25) rfl rfl rfl Z2.out ?_; intro w3 hS3 hB3 _))
      refine bodyPost_ret (res_seal_tmp rfl rfl hS3) rfl ?_
      exact ⟨rfl, K2.out.bel.trans (hB3.mono (by omega))⟩
    · have hl' : ((ln : Int) != lg) = true := by simpa using hl
      clear hno hl
      go_enter Tryz.func54, Tryz.ntmps54
      go_wp2_with (first
        | (rw [<- hw1]; clear hw1)
        | (go_at_call 59; refine (CR.out w1 K1.out.rd).mono ?_; rintro e w2 ⟨rfl, hb2⟩; have K2 := hi_ (K1.out.next hb2); have c02 := K2.out.c0; have c12 := K2.out.c1; have c22 := K2.out.c2; have c32 := K2.out.c3; have c42 := K2.out.c4; have Z2 := hi_ (HZ.out.below hb2 hz1); clear hb2)
        | (refine wpList_stseal rfl (.tmp 6) (.tmp 25) rfl rfl rfl Z2.out ?_; intro w3 hS3 hB3 _))
      refine bodyPost_ret (res_seal_tmp rfl rfl hS3) rfl ?_
      exact ⟨rfl, K2.out.bel.trans (hB3.mono (by omega))⟩
set_option maxHeartbeats 2000000 in
theorem SHas_yes {E : Int} (h : KRd w A n ks) (cR : PRt lg pg en gn A n cap ks true) (hb : (2 <= lg /\ lg <= 1024) /\ (4 <= pg /\ pg <= 1024)) (hl : (ln : Int) = lg) (hp : Plc lsn) (k b o pm pc : Nat) (PA : Option Addr) (x : List UInt8) (hk : lsn.tmod lg = (k : Int)) (hkl : k < ln)
    (hblt : b < w.heap.size) (hcell : w.cell? ⟨b, o + k, none⟩ = some (.slice PA pm pc)) (hrd : Rd w PA pm x) (hG : GetL4 61 PA pm pc x E lsn 1 true) :
    Calls Tryz.prog 54 #[cv lg pg en gn A n cap, .slice (some ⟨b, o, none⟩) ln lc, .int .i64 lsn] w fun e w' => ∃ A' m' c', e = .returned (.tuple #[.agg #[.int .i64 E, .int .i64 lsn, .int .i64 1, .slice A' m' c'], .bool true]) /\ Rd w' A' m' (gB x) /\ (m' <= 472 /\ m' <= c' /\ ∀ b o, A' = some ⟨b, o, none⟩ -> 0 < m' -> w.heap.size <= b) /\ Below w.heap.size w w' := by
  have HPL := hi_ hp
  have d := decide_eq_true hp
  unfold Plc at d
  have hl' : ((ln : Int) != lg) = false := by simp [hl]
  have ht0 : 0 <= lsn.tmod lg := by omega
  have ht1 : lsn.tmod lg < (ln : Int) := by omega
  have htn : (lsn.tmod lg).toNat = k := by omega
  have hl0 : lg ≠ 0 := by omega
  obtain ⟨w1, hw1, C1, Z1⟩ := box2 lg pg en gn A n cap ks w h
  have CR := hi_ cR
  have c0 := C1.c0
  have c1 := C1.c1
  have c2 := C1.c2
  have c3 := C1.c3
  have c4 := C1.c4
  have K1 := hi_ C1
  have hz1 := Z1.lt
  have HZ := hi_ Z1
  clear h C1 Z1
  have CR : Hid (∀ W, KRd W A n ks -> Calls Tryz.prog 59 #[cv lg pg en gn A n cap] W fun e w' => e = .returned (.int .i64 0) /\ Below W.heap.size W w') := hi_ cR
  have HC := hi_ (And.intro hcell (And.intro hblt hrd))
  have hk0 : (0 : Int) <= (k : Int) := by omega
  have hk2 : (k : Int) < (ln : Int) := by omega
  have CG := hi_ hG
  clear hcell hblt hrd hl hp hb hk hG cR
  go_enter Tryz.func54, Tryz.ntmps54
  go_wp2_with (first
    | (rw [<- hw1]; clear hw1)
    | (go_at_call 59; refine (CR.out w1 K1.out.rd).mono ?_; rintro e w2 ⟨rfl, hb2⟩; have K2 := hi_ (K1.out.next hb2); have c02 := K2.out.c0; have c12 := K2.out.c1; have c22 := K2.out.c2; have c32 := K2.out.c3; have c42 := K2.out.c4; have Z2 := hi_ (HZ.out.below hb2 hz1); have hc2 : w2.cell? ⟨b, o + k, none⟩ = some (.slice PA pm pc) := (K2.out.bel.cell (p := ⟨b, o + k, none⟩) HC.out.2.1).trans HC.out.1; have R2 := hi_ (HC.out.2.2.below (Nat.le_refl _) K2.out.bel); clear hb2)
    | (go_at_call 60; refine (swithin_any _ _ _ _).mono ?_; rintro e w' ⟨rfl, rfl⟩; rw [d])
    | (go_at_call 61; refine (CG.out w2 R2.out).mono ?_; rintro e w4 ⟨A4, m4, c4', rfl, hr4, hm4, hb4⟩
       have hz3 := Z2.out.lt
       have Z4 := hi_ (Z2.out.below hb4 hz3)
       have B4 := hi_ (K2.out.bel.trans (hb4.mono K2.out.bel.size))
       have R4 := hi_ (And.intro hr4 (And.intro (And.intro hm4.1 (And.intro hm4.2.1 (fun b o e h0 => Nat.le_trans K2.out.bel.size (hm4.2.2 b o e h0)))) (And.intro hm4.2.2 hz3)))
       clear hr4 hm4 hb4 hz3)
    | (refine wpList_stseal rfl (.tmp 8) (.tmp 35) rfl rfl rfl (SealAt.new w4) ?_; intro w5 hS5 hB5 hE5
       have k1 : w5.cell? ⟨w4.heap.size, 1, none⟩ = some (.int .i64 lsn) := cell_of_row _ _ _ _ _ _ hS5
       have k2 : w5.cell? ⟨w4.heap.size, 2, none⟩ = some (.int .i64 (1)) := cell_of_row _ _ _ _ _ _ hS5
       have hz4 := Z4.out.lt
       have Z5 := hi_ ((Z4.out.alloc _).below hB5 hz4)
       have S5 := hi_ hS5
       have B5 := hi_ (B4.out.trans ((((Below.refl _ _).alloc (Nat.le_refl _) _).trans hB5).mono B4.out.size))
       have R5 := hi_ (R4.out.1.below (Nat.le_refl _) (((Below.refl _ _).alloc (Nat.le_refl _) _).trans hB5))
       clear hB5 hE5 hS5 hz4)
    | (refine wpList_ldseal rfl (.tmp 8) rfl rfl S5.out ?_)
    | (refine wpList_stseal rfl (.tmp 6) (.tmp 51) rfl rfl rfl Z5.out ?_; intro w6 hS6 hB6 hE6))
  refine bodyPost_ret (res_seal_tmp rfl rfl hS6) rfl ?_
  refine ⟨A4, m4, c4', rfl, ?_, R4.out.2.1, B5.out.trans (hB6.mono (by omega))⟩
  by_cases h0 : 0 < m4
  · exact R5.out.block hB6.size fun b o e => hE6 b (by have h1 := R4.out.2.2.1 b o e h0; have h2 := R4.out.2.2.2; omega)
  · exact ⟨R5.out.1, fun h => absurd h h0⟩
set_option maxHeartbeats 2000000 in
theorem SHas_no1 {E N Kk : Int} (h : KRd w A n ks) (cR : PRt lg pg en gn A n cap ks true) (hb : (2 <= lg /\ lg <= 1024) /\ (4 <= pg /\ pg <= 1024)) (hl : (ln : Int) = lg) (hp : Plc lsn) (k b o pm pc : Nat) (PA : Option Addr) (x : List UInt8) (hk : lsn.tmod lg = (k : Int)) (hkl : k < ln)
    (hblt : b < w.heap.size) (hcell : w.cell? ⟨b, o + k, none⟩ = some (.slice PA pm pc)) (hrd : Rd w PA pm x) (hG : GetL4 61 PA pm pc x E N Kk false) :
    Calls Tryz.prog 54 #[cv lg pg en gn A n cap, .slice (some ⟨b, o, none⟩) ln lc, .int .i64 lsn] w fun e w' => e = .returned (.tuple #[.agg #[.int .i64 0, .int .i64 0, .int .i64 0, .slice none 0 0], .bool false]) /\ Below w.heap.size w w' := by
  have HPL := hi_ hp
  have d := decide_eq_true hp
  unfold Plc at d
  have hl' : ((ln : Int) != lg) = false := by simp [hl]
  have ht0 : 0 <= lsn.tmod lg := by omega
  have ht1 : lsn.tmod lg < (ln : Int) := by omega
  have htn : (lsn.tmod lg).toNat = k := by omega
  have hl0 : lg ≠ 0 := by omega
  obtain ⟨w1, hw1, C1, Z1⟩ := box2 lg pg en gn A n cap ks w h
  have CR := hi_ cR
  have c0 := C1.c0
  have c1 := C1.c1
  have c2 := C1.c2
  have c3 := C1.c3
  have c4 := C1.c4
  have K1 := hi_ C1
  have hz1 := Z1.lt
  have HZ := hi_ Z1
  clear h C1 Z1
  have CR : Hid (∀ W, KRd W A n ks -> Calls Tryz.prog 59 #[cv lg pg en gn A n cap] W fun e w' => e = .returned (.int .i64 0) /\ Below W.heap.size W w') := hi_ cR
  have HC := hi_ (And.intro hcell (And.intro hblt hrd))
  have hk0 : (0 : Int) <= (k : Int) := by omega
  have hk2 : (k : Int) < (ln : Int) := by omega
  have CG := hi_ hG
  clear hcell hblt hrd hl hp hb hk hG cR
  go_enter Tryz.func54, Tryz.ntmps54
  go_wp2_with (first
    | (rw [<- hw1]; clear hw1)
    | (go_at_call 59; refine (CR.out w1 K1.out.rd).mono ?_; rintro e w2 ⟨rfl, hb2⟩; have K2 := hi_ (K1.out.next hb2); have c02 := K2.out.c0; have c12 := K2.out.c1; have c22 := K2.out.c2; have c32 := K2.out.c3; have c42 := K2.out.c4; have Z2 := hi_ (HZ.out.below hb2 hz1); have hc2 : w2.cell? ⟨b, o + k, none⟩ = some (.slice PA pm pc) := (K2.out.bel.cell (p := ⟨b, o + k, none⟩) HC.out.2.1).trans HC.out.1; have R2 := hi_ (HC.out.2.2.below (Nat.le_refl _) K2.out.bel); clear hb2)
    | (go_at_call 60; refine (swithin_any _ _ _ _).mono ?_; rintro e w' ⟨rfl, rfl⟩; rw [d])
    | (go_at_call 61; refine (CG.out w2 R2.out).mono ?_; rintro e w4 ⟨A4, m4, c4', rfl, hr4, hm4, hb4⟩
       have hz3 := Z2.out.lt
       have Z4 := hi_ (Z2.out.below hb4 hz3)
       have B4 := hi_ (K2.out.bel.trans (hb4.mono K2.out.bel.size))
       have R4 := hi_ (And.intro hr4 (And.intro (And.intro hm4.1 (And.intro hm4.2.1 (fun b o e h0 => Nat.le_trans K2.out.bel.size (hm4.2.2 b o e h0)))) (And.intro hm4.2.2 hz3)))
       clear hr4 hm4 hb4 hz3)
    | (refine wpList_stseal rfl (.tmp 8) (.tmp 35) rfl rfl rfl (SealAt.new w4) ?_; intro w5 hS5 hB5 hE5
       have k1 : w5.cell? ⟨w4.heap.size, 1, none⟩ = some (.int .i64 N) := cell_of_row _ _ _ _ _ _ hS5
       have k2 : w5.cell? ⟨w4.heap.size, 2, none⟩ = some (.int .i64 (Kk)) := cell_of_row _ _ _ _ _ _ hS5
       have hz4 := Z4.out.lt
       have Z5 := hi_ ((Z4.out.alloc _).below hB5 hz4)
       have S5 := hi_ hS5
       have B5 := hi_ (B4.out.trans ((((Below.refl _ _).alloc (Nat.le_refl _) _).trans hB5).mono B4.out.size))
       have R5 := hi_ (R4.out.1.below (Nat.le_refl _) (((Below.refl _ _).alloc (Nat.le_refl _) _).trans hB5))
       clear hB5 hE5 hS5 hz4)
    | (refine wpList_stseal rfl (.tmp 6) (.tmp 50) rfl rfl rfl Z5.out ?_; intro w6 hS6 hB6 hE6))
  refine bodyPost_ret (res_seal_tmp rfl rfl hS6) rfl ?_
  exact ⟨rfl, B5.out.trans (hB6.mono (by omega))⟩
set_option maxHeartbeats 2000000 in
theorem SHas_no2 {E N Kk : Int} (h : KRd w A n ks) (cR : PRt lg pg en gn A n cap ks true) (hb : (2 <= lg /\ lg <= 1024) /\ (4 <= pg /\ pg <= 1024)) (hl : (ln : Int) = lg) (hp : Plc lsn) (k b o pm pc : Nat) (PA : Option Addr) (x : List UInt8) (hk : lsn.tmod lg = (k : Int)) (hkl : k < ln)
    (hblt : b < w.heap.size) (hcell : w.cell? ⟨b, o + k, none⟩ = some (.slice PA pm pc)) (hrd : Rd w PA pm x) (hG : GetL4 61 PA pm pc x E N Kk true) (hk1 : Kk ≠ 1) :
    Calls Tryz.prog 54 #[cv lg pg en gn A n cap, .slice (some ⟨b, o, none⟩) ln lc, .int .i64 lsn] w fun e w' => e = .returned (.tuple #[.agg #[.int .i64 0, .int .i64 0, .int .i64 0, .slice none 0 0], .bool false]) /\ Below w.heap.size w w' := by
  have HPL := hi_ hp
  have d := decide_eq_true hp
  unfold Plc at d
  have hl' : ((ln : Int) != lg) = false := by simp [hl]
  have ht0 : 0 <= lsn.tmod lg := by omega
  have ht1 : lsn.tmod lg < (ln : Int) := by omega
  have htn : (lsn.tmod lg).toNat = k := by omega
  have hl0 : lg ≠ 0 := by omega
  obtain ⟨w1, hw1, C1, Z1⟩ := box2 lg pg en gn A n cap ks w h
  have CR := hi_ cR
  have c0 := C1.c0
  have c1 := C1.c1
  have c2 := C1.c2
  have c3 := C1.c3
  have c4 := C1.c4
  have K1 := hi_ C1
  have hz1 := Z1.lt
  have HZ := hi_ Z1
  clear h C1 Z1
  have CR : Hid (∀ W, KRd W A n ks -> Calls Tryz.prog 59 #[cv lg pg en gn A n cap] W fun e w' => e = .returned (.int .i64 0) /\ Below W.heap.size W w') := hi_ cR
  have HC := hi_ (And.intro hcell (And.intro hblt hrd))
  have hk0 : (0 : Int) <= (k : Int) := by omega
  have hk2 : (k : Int) < (ln : Int) := by omega
  have CG := hi_ hG
  have hq : (Kk == 1) = false := by simpa using hk1
  have hq2 : (Kk != 1) = true := by simpa using hk1
  clear hcell hblt hrd hl hp hb hk hG cR hk1
  go_enter Tryz.func54, Tryz.ntmps54
  go_wp2_with (first
    | (rw [<- hw1]; clear hw1)
    | (go_at_call 59; refine (CR.out w1 K1.out.rd).mono ?_; rintro e w2 ⟨rfl, hb2⟩; have K2 := hi_ (K1.out.next hb2); have c02 := K2.out.c0; have c12 := K2.out.c1; have c22 := K2.out.c2; have c32 := K2.out.c3; have c42 := K2.out.c4; have Z2 := hi_ (HZ.out.below hb2 hz1); have hc2 : w2.cell? ⟨b, o + k, none⟩ = some (.slice PA pm pc) := (K2.out.bel.cell (p := ⟨b, o + k, none⟩) HC.out.2.1).trans HC.out.1; have R2 := hi_ (HC.out.2.2.below (Nat.le_refl _) K2.out.bel); clear hb2)
    | (go_at_call 60; refine (swithin_any _ _ _ _).mono ?_; rintro e w' ⟨rfl, rfl⟩; rw [d])
    | (go_at_call 61; refine (CG.out w2 R2.out).mono ?_; rintro e w4 ⟨A4, m4, c4', rfl, hr4, hm4, hb4⟩
       have hz3 := Z2.out.lt
       have Z4 := hi_ (Z2.out.below hb4 hz3)
       have B4 := hi_ (K2.out.bel.trans (hb4.mono K2.out.bel.size))
       have R4 := hi_ (And.intro hr4 (And.intro (And.intro hm4.1 (And.intro hm4.2.1 (fun b o e h0 => Nat.le_trans K2.out.bel.size (hm4.2.2 b o e h0)))) (And.intro hm4.2.2 hz3)))
       clear hr4 hm4 hb4 hz3)
    | (refine wpList_stseal rfl (.tmp 8) (.tmp 35) rfl rfl rfl (SealAt.new w4) ?_; intro w5 hS5 hB5 hE5
       have k1 : w5.cell? ⟨w4.heap.size, 1, none⟩ = some (.int .i64 N) := cell_of_row _ _ _ _ _ _ hS5
       have k2 : w5.cell? ⟨w4.heap.size, 2, none⟩ = some (.int .i64 (Kk)) := cell_of_row _ _ _ _ _ _ hS5
       have hz4 := Z4.out.lt
       have Z5 := hi_ ((Z4.out.alloc _).below hB5 hz4)
       have S5 := hi_ hS5
       have B5 := hi_ (B4.out.trans ((((Below.refl _ _).alloc (Nat.le_refl _) _).trans hB5).mono B4.out.size))
       have R5 := hi_ (R4.out.1.below (Nat.le_refl _) (((Below.refl _ _).alloc (Nat.le_refl _) _).trans hB5))
       clear hB5 hE5 hS5 hz4)
    | (refine wpList_stseal rfl (.tmp 6) (.tmp 50) rfl rfl rfl Z5.out ?_; intro w6 hS6 hB6 hE6))
  refine bodyPost_ret (res_seal_tmp rfl rfl hS6) rfl ?_
  exact ⟨rfl, B5.out.trans (hB6.mono (by omega))⟩
set_option maxHeartbeats 2000000 in
theorem SHas_no3 {E N : Int} (h : KRd w A n ks) (cR : PRt lg pg en gn A n cap ks true) (hb : (2 <= lg /\ lg <= 1024) /\ (4 <= pg /\ pg <= 1024)) (hl : (ln : Int) = lg) (hp : Plc lsn) (k b o pm pc : Nat) (PA : Option Addr) (x : List UInt8) (hk : lsn.tmod lg = (k : Int)) (hkl : k < ln)
    (hblt : b < w.heap.size) (hcell : w.cell? ⟨b, o + k, none⟩ = some (.slice PA pm pc)) (hrd : Rd w PA pm x) (hG : GetL4 61 PA pm pc x E N 1 true) (hn1 : N ≠ lsn) :
    Calls Tryz.prog 54 #[cv lg pg en gn A n cap, .slice (some ⟨b, o, none⟩) ln lc, .int .i64 lsn] w fun e w' => e = .returned (.tuple #[.agg #[.int .i64 0, .int .i64 0, .int .i64 0, .slice none 0 0], .bool false]) /\ Below w.heap.size w w' := by
  have HPL := hi_ hp
  have d := decide_eq_true hp
  unfold Plc at d
  have hl' : ((ln : Int) != lg) = false := by simp [hl]
  have ht0 : 0 <= lsn.tmod lg := by omega
  have ht1 : lsn.tmod lg < (ln : Int) := by omega
  have htn : (lsn.tmod lg).toNat = k := by omega
  have hl0 : lg ≠ 0 := by omega
  obtain ⟨w1, hw1, C1, Z1⟩ := box2 lg pg en gn A n cap ks w h
  have CR := hi_ cR
  have c0 := C1.c0
  have c1 := C1.c1
  have c2 := C1.c2
  have c3 := C1.c3
  have c4 := C1.c4
  have K1 := hi_ C1
  have hz1 := Z1.lt
  have HZ := hi_ Z1
  clear h C1 Z1
  have CR : Hid (∀ W, KRd W A n ks -> Calls Tryz.prog 59 #[cv lg pg en gn A n cap] W fun e w' => e = .returned (.int .i64 0) /\ Below W.heap.size W w') := hi_ cR
  have HC := hi_ (And.intro hcell (And.intro hblt hrd))
  have hk0 : (0 : Int) <= (k : Int) := by omega
  have hk2 : (k : Int) < (ln : Int) := by omega
  have CG := hi_ hG
  have hq : (N == lsn) = false := by simpa using hn1
  have hq2 : (N != lsn) = true := by simpa using hn1
  clear hcell hblt hrd hl hp hb hk hG cR hn1
  go_enter Tryz.func54, Tryz.ntmps54
  go_wp2_with (first
    | (rw [<- hw1]; clear hw1)
    | (go_at_call 59; refine (CR.out w1 K1.out.rd).mono ?_; rintro e w2 ⟨rfl, hb2⟩; have K2 := hi_ (K1.out.next hb2); have c02 := K2.out.c0; have c12 := K2.out.c1; have c22 := K2.out.c2; have c32 := K2.out.c3; have c42 := K2.out.c4; have Z2 := hi_ (HZ.out.below hb2 hz1); have hc2 : w2.cell? ⟨b, o + k, none⟩ = some (.slice PA pm pc) := (K2.out.bel.cell (p := ⟨b, o + k, none⟩) HC.out.2.1).trans HC.out.1; have R2 := hi_ (HC.out.2.2.below (Nat.le_refl _) K2.out.bel); clear hb2)
    | (go_at_call 60; refine (swithin_any _ _ _ _).mono ?_; rintro e w' ⟨rfl, rfl⟩; rw [d])
    | (go_at_call 61; refine (CG.out w2 R2.out).mono ?_; rintro e w4 ⟨A4, m4, c4', rfl, hr4, hm4, hb4⟩
       have hz3 := Z2.out.lt
       have Z4 := hi_ (Z2.out.below hb4 hz3)
       have B4 := hi_ (K2.out.bel.trans (hb4.mono K2.out.bel.size))
       have R4 := hi_ (And.intro hr4 (And.intro (And.intro hm4.1 (And.intro hm4.2.1 (fun b o e h0 => Nat.le_trans K2.out.bel.size (hm4.2.2 b o e h0)))) (And.intro hm4.2.2 hz3)))
       clear hr4 hm4 hb4 hz3)
    | (refine wpList_stseal rfl (.tmp 8) (.tmp 35) rfl rfl rfl (SealAt.new w4) ?_; intro w5 hS5 hB5 hE5
       have k1 : w5.cell? ⟨w4.heap.size, 1, none⟩ = some (.int .i64 N) := cell_of_row _ _ _ _ _ _ hS5
       have k2 : w5.cell? ⟨w4.heap.size, 2, none⟩ = some (.int .i64 (1)) := cell_of_row _ _ _ _ _ _ hS5
       have hz4 := Z4.out.lt
       have Z5 := hi_ ((Z4.out.alloc _).below hB5 hz4)
       have S5 := hi_ hS5
       have B5 := hi_ (B4.out.trans ((((Below.refl _ _).alloc (Nat.le_refl _) _).trans hB5).mono B4.out.size))
       have R5 := hi_ (R4.out.1.below (Nat.le_refl _) (((Below.refl _ _).alloc (Nat.le_refl _) _).trans hB5))
       clear hB5 hE5 hS5 hz4)
    | (refine wpList_stseal rfl (.tmp 6) (.tmp 50) rfl rfl rfl Z5.out ?_; intro w6 hS6 hB6 hE6))
  refine bodyPost_ret (res_seal_tmp rfl rfl hS6) rfl ?_
  exact ⟨rfl, B5.out.trans (hB6.mono (by omega))⟩
theorem SHas_any (h : KRd w A n ks) {R : Bool} (cR : PRt lg pg en gn A n cap ks R) (hb : R = true -> (2 <= lg /\ lg <= 1024) /\ (4 <= pg /\ pg <= 1024)) (hv : PcsV K w LA ln xs) :
    Calls Tryz.prog 54 #[cv lg pg en gn A n cap, .slice LA ln lc, .int .i64 lsn] w (LHasP (effL R lg xs) lsn w) := by
  have hxl := hv.len
  by_cases hno : R = true /\ (ln : Int) = lg /\ Plc lsn
  · obtain ⟨rfl, hl, hp⟩ := hno
    have hb' := hb rfl
    obtain ⟨k, hk, hkl, hx⟩ := secAt_idx (xs := xs) (n := lsn) (lg := lg) hp.1 (by rw [hxl]; exact hl) hb'.1.1
    rw [hxl] at hkl
    obtain ⟨b, o, PA, pm, pc, rfl, hblt, hcell, hrd, hpc, _⟩ := hv.cell hx
    rw [effL_yes (by rw [hxl]; exact hl)]
    obtain ⟨x, hxs⟩ : ∃ x, x = secAt xs lsn := ⟨_, rfl⟩
    rw [<- hxs] at hrd
    have G : GetL4 61 PA pm pc x (gE x) (gN x) (gK x) (decide (okL x)) := fun W hW => Get_any PA pm pc x W hW
    have HP := hp
    by_cases hq : HasQ xs lsn
    · have q := hq.2
      rw [<- hxs] at q
      have e0 : gE x = cE x := by unfold gE; rw [if_pos q.1]
      have e1 : gK x = 1 := by unfold gK; rw [if_pos q.1]; exact q.2.1
      have e2 : gN x = lsn := by unfold gN; rw [if_pos q.1]; exact q.2.2
      have e3 : gB x = cB x := by unfold gB; rw [if_pos q.1]
      rw [e0, e1, e2, decide_eq_true q.1] at G
      refine (SHas_yes lg pg en gn A n cap ks ln lc lsn w h cR hb' hl hp k b o pm pc PA x hk hkl hblt hcell hrd G).mono ?_
      rintro e w' ⟨A', m', c', rfl, hr, hm, hbl⟩
      rw [e3, hxs] at hr
      rw [hxs]
      exact .yes hq hr hm hbl
    · by_cases q1 : okL x
      · have e1 : gK x = cK x := by unfold gK; rw [if_pos q1]
        have e2 : gN x = cN x := by unfold gN; rw [if_pos q1]
        rw [decide_eq_true q1, e1, e2] at G
        by_cases q2 : cK x = 1
        · have q3 : cN x ≠ lsn := fun q3 => hq ⟨hp, by rw [<- hxs]; exact ⟨q1, q2, q3⟩⟩
          rw [q2] at G
          refine (SHas_no3 lg pg en gn A n cap ks ln lc lsn w h cR hb' hl hp k b o pm pc PA x hk hkl hblt hcell hrd G q3).mono ?_
          rintro e w' ⟨rfl, hbl⟩
          exact .no hq hbl
        · refine (SHas_no2 lg pg en gn A n cap ks ln lc lsn w h cR hb' hl hp k b o pm pc PA x hk hkl hblt hcell hrd G q2).mono ?_
          rintro e w' ⟨rfl, hbl⟩
          exact .no hq hbl
      · rw [decide_eq_false q1] at G
        refine (SHas_no1 lg pg en gn A n cap ks ln lc lsn w h cR hb' hl hp k b o pm pc PA x hk hkl hblt hcell hrd G).mono ?_
        rintro e w' ⟨rfl, hbl⟩
        exact .no hq hbl
  · refine (SHas_none lg pg en gn A n cap ks LA ln lc lsn w h cR hno).mono ?_
    rintro e w' ⟨rfl, hbl⟩
    exact .no (effL_no (by rw [hxl]; exact hno)) hbl
end
end Go.Proofs.YthabmlbmlncbmaaGreat
namespace Go.Proofs.YthabmlbmlncbmaaGreat
open Go.RowKit
set_option linter.unusedVariables false
set_option maxRecDepth 20000
section
variable (A : Option Addr) (n c : Nat) (l : List UInt8) (w : World)
theorem PHead_any (hr : Rd w A n l) (hc : n <= c) (hn : n <= 1000000) :
    Calls Tryz.prog 55 #[.slice A n c] w fun e w' => e = .returned (hdT l) /\ w = w' := by
  have hl := hr.1
  by_cases h0 : 12 <= n /\ n <= 472
  · have d0 := decide_eq_true (show (12 : Int) <= (n : Int) /\ (n : Int) <= 472 by omega)
    have C1 := hi_ (pget0 A n c l w hr hc hn h0.1)
    have C2 := hi_ (pget2 A n c l w hr hc hn h0.1)
    have C3 := hi_ (pget4 A n c l w hr hc hn h0.1)
    have hT : HdOk l ↔ ((1 <= cnt l /\ cnt l <= 1024) /\ plc l < cnt l /\ (0 <= sqn l /\ sqn l <= 281474976710656)) := by
      unfold HdOk
      rw [hl]
      exact ⟨fun h => h.2, fun h => ⟨h0, h⟩⟩
    have HT := hi_ hT
    unfold hdT
    clear hr hT hl h0
    generalize hpv : plc l = pv at *
    generalize hcv : cnt l = cv at *
    generalize hsv : sqn l = sv at *
    clear hpv hcv hsv
    by_cases h1 : 1 <= cv /\ cv <= 1024
    · have d1 := decide_eq_true h1
      by_cases h2 : pv < cv
      · have e2 : decide (cv <= pv) = false := decide_eq_false (by omega)
        by_cases h3 : 0 <= sv /\ sv <= 281474976710656
        · have d3 := decide_eq_true h3
          rw [if_pos (HT.out.2 ⟨h1, h2, h3⟩)]
          clear HT h1 h3
          go_enter Tryz.func55, Tryz.ntmps55
          go_wp2_with (first
            | (go_at_call 62; have _t := d0; refine (pwithin_any _ _ _ _).mono ?_; rintro e w' ⟨rfl, rfl⟩; rw [d0]; clear d0)
            | (go_at_call 63; have _t := C1; refine C1.out.mono ?_; rintro e w' ⟨rfl, rfl⟩; clear C1)
            | (go_at_call 63; have _t := C2; refine C2.out.mono ?_; rintro e w' ⟨rfl, rfl⟩; clear C2)
            | (go_at_call 63; have _t := C3; refine C3.out.mono ?_; rintro e w' ⟨rfl, rfl⟩; clear C3)
            | (go_at_call 62; have _t := d1; refine (pwithin_any _ _ _ _).mono ?_; rintro e w' ⟨rfl, rfl⟩; rw [d1]; clear d1)
            | (go_at_call 62; have _t := d3; refine (pwithin_any _ _ _ _).mono ?_; rintro e w' ⟨rfl, rfl⟩; rw [d3]; clear d3))
          refine bodyPost_ret (results_tmp4 rfl _ _ _) rfl ?_
          exact ⟨rfl, rfl⟩
        · have d3 := decide_eq_false h3
          rw [if_neg (fun q => h3 (HT.out.1 q).2.2)]
          clear HT h1 h3
          go_enter Tryz.func55, Tryz.ntmps55
          go_wp2_with (first
            | (go_at_call 62; have _t := d0; refine (pwithin_any _ _ _ _).mono ?_; rintro e w' ⟨rfl, rfl⟩; rw [d0]; clear d0)
            | (go_at_call 63; have _t := C1; refine C1.out.mono ?_; rintro e w' ⟨rfl, rfl⟩; clear C1)
            | (go_at_call 63; have _t := C2; refine C2.out.mono ?_; rintro e w' ⟨rfl, rfl⟩; clear C2)
            | (go_at_call 63; have _t := C3; refine C3.out.mono ?_; rintro e w' ⟨rfl, rfl⟩; clear C3)
            | (go_at_call 62; have _t := d1; refine (pwithin_any _ _ _ _).mono ?_; rintro e w' ⟨rfl, rfl⟩; rw [d1]; clear d1)
            | (go_at_call 62; have _t := d3; refine (pwithin_any _ _ _ _).mono ?_; rintro e w' ⟨rfl, rfl⟩; rw [d3]; clear d3))
          refine bodyPost_ret (results_tmp4 rfl _ _ _) rfl ?_
          exact ⟨rfl, rfl⟩
      · have e2 : decide (cv <= pv) = true := decide_eq_true (by omega)
        rw [if_neg (fun q => h2 (HT.out.1 q).2.1)]
        clear HT h1
        go_enter Tryz.func55, Tryz.ntmps55
        go_wp2_with (first
          | (go_at_call 62; have _t := d0; refine (pwithin_any _ _ _ _).mono ?_; rintro e w' ⟨rfl, rfl⟩; rw [d0]; clear d0)
          | (go_at_call 63; have _t := C1; refine C1.out.mono ?_; rintro e w' ⟨rfl, rfl⟩; clear C1)
          | (go_at_call 63; have _t := C2; refine C2.out.mono ?_; rintro e w' ⟨rfl, rfl⟩; clear C2)
          | (go_at_call 63; have _t := C3; refine C3.out.mono ?_; rintro e w' ⟨rfl, rfl⟩; clear C3)
          | (go_at_call 62; have _t := d1; refine (pwithin_any _ _ _ _).mono ?_; rintro e w' ⟨rfl, rfl⟩; rw [d1]; clear d1))
        refine bodyPost_ret (results_tmp4 rfl _ _ _) rfl ?_
        exact ⟨rfl, rfl⟩
    · have d1 := decide_eq_false h1
      rw [if_neg (fun q => h1 (HT.out.1 q).1)]
      clear HT h1
      go_enter Tryz.func55, Tryz.ntmps55
      go_wp2_with (first
        | (go_at_call 62; have _t := d0; refine (pwithin_any _ _ _ _).mono ?_; rintro e w' ⟨rfl, rfl⟩; rw [d0]; clear d0)
        | (go_at_call 63; have _t := C1; refine C1.out.mono ?_; rintro e w' ⟨rfl, rfl⟩; clear C1)
        | (go_at_call 63; have _t := C2; refine C2.out.mono ?_; rintro e w' ⟨rfl, rfl⟩; clear C2)
        | (go_at_call 63; have _t := C3; refine C3.out.mono ?_; rintro e w' ⟨rfl, rfl⟩; clear C3)
        | (go_at_call 62; have _t := d1; refine (pwithin_any _ _ _ _).mono ?_; rintro e w' ⟨rfl, rfl⟩; rw [d1]; clear d1))
      refine bodyPost_ret (results_tmp4 rfl _ _ _) rfl ?_
      exact ⟨rfl, rfl⟩
  · have d0 := decide_eq_false (show ¬ ((12 : Int) <= (n : Int) /\ (n : Int) <= 472) by omega)
    have hT : ¬ HdOk l := fun h => h0 (by rw [<- hl]; exact h.1)
    unfold hdT
    rw [if_neg hT]
    clear hr hT hl h0
    go_enter Tryz.func55, Tryz.ntmps55
    go_wp2_with (go_at_call 62; refine (pwithin_any _ _ _ _).mono ?_; rintro e w' ⟨rfl, rfl⟩; rw [d0])
    refine bodyPost_ret (results_tmp4 rfl _ _ _) rfl ?_
    exact ⟨rfl, rfl⟩
theorem RPHead_any (hr : Rd w A n l) (hn : n <= 1000000) :
    Calls Tryz.prog 38 #[.slice A n c] w fun e w' => e = .returned (hdT l) /\ w = w' := by
  have hl := hr.1
  by_cases h0 : 12 <= n /\ n <= 472
  · have C1 := hi_ (rget0 A n c l w hr hn h0.1)
    have C2 := hi_ (rget2 A n c l w hr hn h0.1)
    have C3 := hi_ (rget4 A n c l w hr hn h0.1)
    have hT : HdOk l ↔ ((1 <= cnt l /\ cnt l <= 1024) /\ plc l < cnt l /\ (0 <= sqn l /\ sqn l <= 281474976710656)) := by
      unfold HdOk
      rw [hl]
      exact ⟨fun h => h.2, fun h => ⟨h0, h⟩⟩
    have HT := hi_ hT
    unfold hdT
    clear hr hT hl
    generalize hpv : plc l = pv at *
    generalize hcv : cnt l = cv at *
    generalize hsv : sqn l = sv at *
    clear hpv hcv hsv
    by_cases h1 : cv < 1
    · have e1 : decide (cv < 1) = true := decide_eq_true h1
      rw [if_neg (fun q => by have := (HT.out.1 q).1.1; omega)]
      clear HT
      go_enter Tryz.func38, Tryz.ntmps38
      go_wp2_with (first
        | (go_at_call 50; have _t := C1; refine C1.out.mono ?_; rintro e w' ⟨rfl, rfl⟩; clear C1)
        | (go_at_call 50; have _t := C2; refine C2.out.mono ?_; rintro e w' ⟨rfl, rfl⟩; clear C2)
        | (go_at_call 50; have _t := C3; refine C3.out.mono ?_; rintro e w' ⟨rfl, rfl⟩; clear C3))
      refine bodyPost_ret (results_tmp4 rfl _ _ _) rfl ?_
      exact ⟨rfl, rfl⟩
    · have e1 : decide (cv < 1) = false := decide_eq_false h1
      by_cases h1' : 1024 < cv
      · have e1' : decide (1024 < cv) = true := decide_eq_true h1'
        rw [if_neg (fun q => by have := (HT.out.1 q).1.2; omega)]
        clear HT
        go_enter Tryz.func38, Tryz.ntmps38
        go_wp2_with (first
          | (go_at_call 50; have _t := C1; refine C1.out.mono ?_; rintro e w' ⟨rfl, rfl⟩; clear C1)
          | (go_at_call 50; have _t := C2; refine C2.out.mono ?_; rintro e w' ⟨rfl, rfl⟩; clear C2)
          | (go_at_call 50; have _t := C3; refine C3.out.mono ?_; rintro e w' ⟨rfl, rfl⟩; clear C3))
        refine bodyPost_ret (results_tmp4 rfl _ _ _) rfl ?_
        exact ⟨rfl, rfl⟩
      · have e1' : decide (1024 < cv) = false := decide_eq_false h1'
        by_cases h2 : cv <= pv
        · have e2 : decide (cv <= pv) = true := decide_eq_true h2
          rw [if_neg (fun q => by have := (HT.out.1 q).2.1; omega)]
          clear HT
          go_enter Tryz.func38, Tryz.ntmps38
          go_wp2_with (first
            | (go_at_call 50; have _t := C1; refine C1.out.mono ?_; rintro e w' ⟨rfl, rfl⟩; clear C1)
            | (go_at_call 50; have _t := C2; refine C2.out.mono ?_; rintro e w' ⟨rfl, rfl⟩; clear C2)
            | (go_at_call 50; have _t := C3; refine C3.out.mono ?_; rintro e w' ⟨rfl, rfl⟩; clear C3))
          refine bodyPost_ret (results_tmp4 rfl _ _ _) rfl ?_
          exact ⟨rfl, rfl⟩
        · have e2 : decide (cv <= pv) = false := decide_eq_false h2
          obtain ⟨q, hq⟩ : ∃ q, q = decide (Plc sv) := ⟨_, rfl⟩
          have HQ := hi_ hq
          clear hq
          cases q
          all_goals
            first
              | rw [if_pos (HT.out.2 ⟨by omega, by omega, of_decide_eq_true HQ.out.symm⟩)]
              | rw [if_neg (fun k => of_decide_eq_false HQ.out.symm (HT.out.1 k).2.2)]
            clear HT
            go_enter Tryz.func38, Tryz.ntmps38
            go_wp2_with (first
              | (go_at_call 50; have _t := C1; refine C1.out.mono ?_; rintro e w' ⟨rfl, rfl⟩; clear C1)
              | (go_at_call 50; have _t := C2; refine C2.out.mono ?_; rintro e w' ⟨rfl, rfl⟩; clear C2)
              | (go_at_call 50; have _t := C3; refine C3.out.mono ?_; rintro e w' ⟨rfl, rfl⟩; clear C3)
              | (go_at_call 34; refine (Place_yes _ _).mono ?_; rintro e w' ⟨rfl, rfl⟩; rw [<- HQ.out]))
            refine bodyPost_ret (results_tmp4 rfl _ _ _) rfl ?_
            exact ⟨rfl, rfl⟩
  · have hT : ¬ HdOk l := fun h => h0 (by rw [<- hl]; exact h.1)
    unfold hdT
    rw [if_neg hT]
    clear hr hT hl
    by_cases h1 : n < 12
    all_goals
      go_enter Tryz.func38, Tryz.ntmps38
      go_wp2
      refine bodyPost_ret (results_tmp4 rfl _ _ _) rfl ?_
      exact ⟨rfl, rfl⟩
end
end Go.Proofs.YthabmlbmlncbmaaGreat
namespace Go.Proofs.YthabmlbmlncbmaaGreat
open Go.RowKit
theorem Equal_any (A A' : Option Addr) (n c n' c' : Nat) (l l' : List UInt8) (w : World) (h1 : Rd w A n l) (h2 : Rd w A' n' l') :
    Calls Tryz.prog 66 #[.slice A n c, .slice A' n' c'] w fun e w' => e = .returned (.bool (decide (l = l'))) /\ w = w' := by
  have k1 := run_to_string 42 9 5 Tryz.underlying42 Tryz.underlying5 Tryz.underlying9 w A n c l h1
  have k2 := run_to_string 42 9 5 Tryz.underlying42 Tryz.underlying5 Tryz.underlying9 w A' n' c' l' h2
  clear h1 h2
  go_enter Tryz.func66, Tryz.ntmps66
  go_wp2
  go_ret
  exact ⟨ret_bool (by rw [str_toList, str_toList]; by_cases h : l = l' <;> simp [h]), rfl⟩
end Go.Proofs.YthabmlbmlncbmaaGreat
namespace Go.Proofs.YthabmlbmlncbmaaGreat
open Go.RowKit
set_option linter.unusedVariables false
set_option maxRecDepth 20000
section
variable {K K' : Nat -> Prop} (A A' : Option Addr) (n n' c c' : Nat) (xs ys : List (List UInt8)) (w : World)
theorem all_same {xs ys : List (List UInt8)} {n : Nat} (hx : xs.length = n) (hy : ys.length = n) (h : ∀ i, i < n -> xs[i]? = ys[i]?) : xs = ys := by
  apply List.ext_getElem?
  intro i
  by_cases hi : i < n
  · exact h i hi
  · rw [List.getElem?_eq_none (by omega), List.getElem?_eq_none (by omega)]
theorem EqF_any (h : PcsV K w A n xs) (h' : PcsV K' w A' n' ys) (hn : n <= 1000000) (hn' : n' <= 1000000) :
    Calls Tryz.prog 64 #[.slice A n c, .slice A' n' c', .func (.func 66) #[] #[]] w fun e w' => e = .returned (.bool (decide (xs = ys))) /\ w = w' := by
  have H := hi_ (And.intro h h')
  have hl := h.len
  have hl' := h'.len
  have HL := hi_ (And.intro hl hl')
  by_cases hnn : n = n'
  · subst hnn
    clear h h' hl hl'
    go_enter Tryz.func64, Tryz.ntmps64
    go_wp2
    go_loop [17] (fun iv => ∃ j : Nat, j <= n /\ iv = .int .i64 j /\ Hid (∀ i, i < j -> xs[i]? = ys[i]?)) (fun iv => n - (intOf iv).toNat)
    case atStart => exact ⟨0, Nat.zero_le _, rfl, hi_ (fun i hi => absurd hi (Nat.not_lt_zero _))⟩
    case round =>
      obtain ⟨j, hj, rfl, HS⟩ := hrel
      by_cases hjn : j < n
      · obtain ⟨x, hx⟩ : ∃ x, xs[j]? = some x := ⟨_, List.getElem?_eq_getElem (by rw [HL.out.1]; exact hjn)⟩
        obtain ⟨y, hy⟩ : ∃ y, ys[j]? = some y := ⟨_, List.getElem?_eq_getElem (by rw [HL.out.2]; exact hjn)⟩
        obtain ⟨b, o, PA, m, cc, rfl, hlt, hc, hr, hmc, _⟩ := H.out.1.cell hx
        obtain ⟨b', o', PA', m', cc', rfl, hlt', hc', hr', hmc', _⟩ := H.out.2.cell hy
        have CE := hi_ (Equal_any PA PA' m cc m' cc' x y w hr hr')
        have HX := hi_ (And.intro hx hy)
        clear hr hr' hmc hmc' hx hy hlt hlt'
        by_cases hxy : x = y
        · rw [decide_eq_true hxy] at CE
          go_wp2_with (go_at_call 66; refine CE.out.mono ?_; rintro e w2 ⟨rfl, rfl⟩)
          go_round
          case rel =>
            refine ⟨j + 1, hjn, by go_num, hi_ (fun i hi => ?_)⟩
            by_cases hij : i = j
            · subst hij; rw [HX.out.1, HX.out.2, hxy]
            · exact HS.out i (by omega)
          case measure => simp [intOf]; omega
        · rw [decide_eq_false hxy] at CE
          go_wp2_with (go_at_call 66; refine CE.out.mono ?_; rintro e w2 ⟨rfl, rfl⟩)
          go_ret
          refine ⟨ret_bool (decide_eq_false (fun e => hxy ?_)).symm, rfl⟩
          have h1 := HX.out.1
          rw [e, HX.out.2] at h1
          exact (Option.some.inj h1).symm
      · obtain rfl : j = n := by omega
        go_wp2
        go_ret
        exact ⟨ret_bool (decide_eq_true (all_same HL.out.1 HL.out.2 HS.out)).symm, rfl⟩
  · have hne : xs ≠ ys := fun e => hnn (by rw [<- hl, <- hl', e])
    rw [decide_eq_false hne]
    clear h h' hl hl'
    go_enter Tryz.func64, Tryz.ntmps64
    go_wp2
    go_ret
    exact ⟨rfl, rfl⟩
end
end Go.Proofs.YthabmlbmlncbmaaGreat
namespace Go.Proofs.YthabmlbmlncbmaaGreat
open Go.RowKit
section
variable {w : World} {B e r n c sz : Nat} {xs : List Value}
theorem own_setC (h : w.ownsRow B e sz (.slice (some ⟨r, 0, none⟩) n c) n xs) (j : Nat) (v : Value) : (w.setCell ⟨r, j, none⟩ v).ownsRow B e sz (.slice (some ⟨r, 0, none⟩) n c) n (xs.set j v) := by
  refine ⟨by rw [List.length_set]; exact h.1, ?_⟩
  rcases h.2 with ⟨h1, _⟩ | ⟨g, cap, cur, h1, hB, hh, hn, hc, hs, ht⟩
  · cases h1
  · injection h1 with h1 h2 h3
    injection h1 with h1
    injection h1 with h1
    subst h1 h3
    refine .inr ⟨r, c, cur.setIfInBounds j v, rfl, hB, heap_setCell_at hh v, hn, hc, by simpa using hs, ?_⟩
    rw [<- ht]
    simp [List.take_set]
end
section
variable {P : Program} {ops : Array Oper} {o : Oper} {a : Act} {w : World} {J : Act -> World -> Prop} {Q : Exit -> Act -> World -> Prop} {E : Prop}
end
end Go.Proofs.YthabmlbmlncbmaaGreat
