/- Cm6, EcVm, EcLb, IdR3, EcLc -/
import Derived.Test.YtaoinkjjmakhaaaGreatDoorQl1
import Derived.Test.YtaoinkjjmakhaaaGreatDoorQl17
import Derived.Test.YtaoinkjjmakhaaaGreatDoorQl19
import Derived.Test.YtaoinkjjmakhaaaGreatDoorQl20
import Derived.Test.YtaoinkjjmakhaaaGreatDoorQl21
import Derived.Deep.RegionHeld3
import Derived.Deep.QuietTactic
import Derived.BigQuiet
import Derived.IntWalk
import Derived.Deep.RegionLaw
namespace Go.Proofs.YtaoinkjjmakhaaaGreatDoor
open Go.RowKit
set_option linter.unusedVariables false
section
variable (lg pg en gn : Int) (A : Option Addr) (n cap : Nat) (ks : List Kd) (w : World)
theorem RRight_num (h : KRd w A n ks) (hn : n <= 1000000) (hN : ¬ ((2 <= lg /\ lg <= 1024) /\ (4 <= pg /\ pg <= 1024) /\ (1 <= en /\ en <= 1024) /\ (1 <= gn /\ gn <= 1073741824) /\ n <= 32)) :
  Calls Tryz.prog 7 #[cv lg pg en gn A n cap] w fun e w' => e = .returned (.bool false) /\ Below w.heap.size w w' := by
 obtain ⟨w1, hw1⟩ : ∃ w1, w1 = w.alloc (.cells (cc lg pg en gn A n cap) 24) := ⟨_, rfl⟩
 have C1 := CAt.new h lg pg en gn cap
 rw [<- hw1] at C1
 obtain ⟨g, hg⟩ : ∃ g, g = w.heap.size := ⟨_, rfl⟩
 rw [<- hg] at C1
 have c0 := C1.c0
 have c1 := C1.c1
 have c2 := C1.c2
 have c3 := C1.c3
 have c4 := C1.c4
 have K1 := hi_ C1
 have HG := hi_ hg
 clear h hg C1
 by_cases t0 : lg < 2
 ·have d0 : decide (lg < 2) = true := decide_eq_true t0
  clear hN 
  go_enter Tryz.func7, Tryz.ntmps7
  go_wp2_with (rw [<- hw1, <- HG.out]; clear hw1)
  go_ret
  exact ⟨rfl, K1.out.bel⟩
 by_cases t1 : 1024 < lg
 ·have d0 : decide (lg < 2) = false := decide_eq_false t0
  have d1 : decide (1024 < lg) = true := decide_eq_true t1
  clear hN t0
  go_enter Tryz.func7, Tryz.ntmps7
  go_wp2_with (rw [<- hw1, <- HG.out]; clear hw1)
  go_ret
  exact ⟨rfl, K1.out.bel⟩
 by_cases t2 : pg < 4
 ·have d0 : decide (lg < 2) = false := decide_eq_false t0
  have d1 : decide (1024 < lg) = false := decide_eq_false t1
  have d2 : decide (pg < 4) = true := decide_eq_true t2
  clear hN t0 t1
  go_enter Tryz.func7, Tryz.ntmps7
  go_wp2_with (rw [<- hw1, <- HG.out]; clear hw1)
  go_ret
  exact ⟨rfl, K1.out.bel⟩
 by_cases t3 : 1024 < pg
 ·have d0 : decide (lg < 2) = false := decide_eq_false t0
  have d1 : decide (1024 < lg) = false := decide_eq_false t1
  have d2 : decide (pg < 4) = false := decide_eq_false t2
  have d3 : decide (1024 < pg) = true := decide_eq_true t3
  clear hN t0 t1 t2
  go_enter Tryz.func7, Tryz.ntmps7
  go_wp2_with (rw [<- hw1, <- HG.out]; clear hw1)
  go_ret
  exact ⟨rfl, K1.out.bel⟩
 by_cases t4 : en < 1
 ·have d0 : decide (lg < 2) = false := decide_eq_false t0
  have d1 : decide (1024 < lg) = false := decide_eq_false t1
  have d2 : decide (pg < 4) = false := decide_eq_false t2
  have d3 : decide (1024 < pg) = false := decide_eq_false t3
  have d4 : decide (en < 1) = true := decide_eq_true t4
  clear hN t0 t1 t2 t3
  go_enter Tryz.func7, Tryz.ntmps7
  go_wp2_with (rw [<- hw1, <- HG.out]; clear hw1)
  go_ret
  exact ⟨rfl, K1.out.bel⟩
 by_cases t5 : 1024 < en
 ·have d0 : decide (lg < 2) = false := decide_eq_false t0
  have d1 : decide (1024 < lg) = false := decide_eq_false t1
  have d2 : decide (pg < 4) = false := decide_eq_false t2
  have d3 : decide (1024 < pg) = false := decide_eq_false t3
  have d4 : decide (en < 1) = false := decide_eq_false t4
  have d5 : decide (1024 < en) = true := decide_eq_true t5
  clear hN t0 t1 t2 t3 t4
  go_enter Tryz.func7, Tryz.ntmps7
  go_wp2_with (rw [<- hw1, <- HG.out]; clear hw1)
  go_ret
  exact ⟨rfl, K1.out.bel⟩
 by_cases t6 : gn < 1
 ·have d0 : decide (lg < 2) = false := decide_eq_false t0
  have d1 : decide (1024 < lg) = false := decide_eq_false t1
  have d2 : decide (pg < 4) = false := decide_eq_false t2
  have d3 : decide (1024 < pg) = false := decide_eq_false t3
  have d4 : decide (en < 1) = false := decide_eq_false t4
  have d5 : decide (1024 < en) = false := decide_eq_false t5
  have d6 : decide (gn < 1) = true := decide_eq_true t6
  clear hN t0 t1 t2 t3 t4 t5
  go_enter Tryz.func7, Tryz.ntmps7
  go_wp2_with (rw [<- hw1, <- HG.out]; clear hw1)
  go_ret
  exact ⟨rfl, K1.out.bel⟩
 by_cases t7 : 1073741824 < gn
 ·have d0 : decide (lg < 2) = false := decide_eq_false t0
  have d1 : decide (1024 < lg) = false := decide_eq_false t1
  have d2 : decide (pg < 4) = false := decide_eq_false t2
  have d3 : decide (1024 < pg) = false := decide_eq_false t3
  have d4 : decide (en < 1) = false := decide_eq_false t4
  have d5 : decide (1024 < en) = false := decide_eq_false t5
  have d6 : decide (gn < 1) = false := decide_eq_false t6
  have d7 : decide (1073741824 < gn) = true := decide_eq_true t7
  clear hN t0 t1 t2 t3 t4 t5 t6
  go_enter Tryz.func7, Tryz.ntmps7
  go_wp2_with (rw [<- hw1, <- HG.out]; clear hw1)
  go_ret
  exact ⟨rfl, K1.out.bel⟩
 by_cases t8 : (32 : Int) < (n : Int)
 ·have d0 : decide (lg < 2) = false := decide_eq_false t0
  have d1 : decide (1024 < lg) = false := decide_eq_false t1
  have d2 : decide (pg < 4) = false := decide_eq_false t2
  have d3 : decide (1024 < pg) = false := decide_eq_false t3
  have d4 : decide (en < 1) = false := decide_eq_false t4
  have d5 : decide (1024 < en) = false := decide_eq_false t5
  have d6 : decide (gn < 1) = false := decide_eq_false t6
  have d7 : decide (1073741824 < gn) = false := decide_eq_false t7
  have d8 : decide ((32 : Int) < (n : Int)) = true := decide_eq_true t8
  clear hN t0 t1 t2 t3 t4 t5 t6 t7
  go_enter Tryz.func7, Tryz.ntmps7
  go_wp2_with (rw [<- hw1, <- HG.out]; clear hw1)
  go_ret
  exact ⟨rfl, K1.out.bel⟩
 exact absurd ⟨⟨by omega, by omega⟩, ⟨by omega, by omega⟩, ⟨by omega, by omega⟩, ⟨by omega, by omega⟩, by omega⟩ hN
theorem RRight_yes (h : KRd w A n ks) (hs : Lens ks) (h0 : 2 <= lg) (h1 : lg <= 1024) (h2 : 4 <= pg) (h3 : pg <= 1024) (h4 : 1 <= en) (h5 : en <= 1024) (h6 : 1 <= gn) (h7 : gn <= 1073741824) (h8 : n <= 32) :
  Calls Tryz.prog 7 #[cv lg pg en gn A n cap] w fun e w' => e = .returned (.bool (decide (Named ks /\ Apart ks /\ Sized ks))) /\ Below w.heap.size w w' := by
 obtain ⟨w1, hw1⟩ : ∃ w1, w1 = w.alloc (.cells (cc lg pg en gn A n cap) 24) := ⟨_, rfl⟩
 have C1 := CAt.new h lg pg en gn cap
 rw [<- hw1] at C1
 obtain ⟨g, hg⟩ : ∃ g, g = w.heap.size := ⟨_, rfl⟩
 rw [<- hg] at C1
 have c0 := C1.c0
 have c1 := C1.c1
 have c2 := C1.c2
 have c3 := C1.c3
 have c4 := C1.c4
 have hl := h.1
 have K1 := hi_ C1
 have HG := hi_ hg
 have HS := hi_ hs
 clear h hg C1 hs
 have d0 : decide (lg < 2) = false := decide_eq_false (by omega)
 have d1 : decide (1024 < lg) = false := decide_eq_false (by omega)
 have d2 : decide (pg < 4) = false := decide_eq_false (by omega)
 have d3 : decide (1024 < pg) = false := decide_eq_false (by omega)
 have d4 : decide (en < 1) = false := decide_eq_false (by omega)
 have d5 : decide (1024 < en) = false := decide_eq_false (by omega)
 have d6 : decide (gn < 1) = false := decide_eq_false (by omega)
 have d7 : decide (1073741824 < gn) = false := decide_eq_false (by omega)
 have d8 : decide ((32 : Int) < (n : Int)) = false := decide_eq_false (by omega)
 go_enter Tryz.func7, Tryz.ntmps7
 go_wp2_with (rw [<- hw1, <- HG.out]; clear hw1)
 clear c0 c1 c2 c3 c4 h0 h1 h2 h3 h4 h5 h6 h7 d0 d1 d2 d3 d4 d5 d6 d7 d8
 go_loopw [3] (fun i wr => ∃ j : Nat, j <= n /\ i = .int .i64 j /\ Good ks j /\ CAt w wr g lg pg en gn A n cap ks) (fun i _ => n - (intOf i).toNat)
 case atStart => exact ⟨0, Nat.zero_le _, rfl, Good.zero _, K1.out⟩
 case round =>
  obtain ⟨j, hj, rfl, hgd, hC⟩ := hrel
  have c0 := hC.c0
  have c1 := hC.c1
  have c2 := hC.c2
  have c3 := hC.c3
  have c4 := hC.c4
  by_cases hlt : j < n
  ·obtain ⟨b, o, s, z, rfl, _, k0, k1, hl', hk⟩ := hC.rd.at_ hlt
   have hsn := good_snoc hl'
   have hfa := findK_at ks j hl'
   have hsz := HS.out.at_ hl' hk
   rw [hk] at hsn hfa
   have HSN := hi_ hsn
   have HFA := hi_ hfa
   have HGD := hi_ hgd
   have HC := hi_ hC
   have hlt' : (j : Int) < (n : Int) := by omega
   have cF : ∀ W, Below wr.heap.size wr W -> Calls Tryz.prog 21 #[cv lg pg en gn (some ⟨b, o, none⟩) n cap, .string s] W fun e w' => e = .returned (.tuple #[.int .i64 (findK ks s).1, .bool (findK ks s).2]) /\ Below W.heap.size W w' :=
    fun W hW => RFind_any lg pg en gn _ n cap ks W (HC.out.rd.below hW) (by omega) s
   have CF := hi_ cF
   clear hsn hfa hk hgd hC cF
   go_wp2
   go_region_held3 (fun W => W.cell? ⟨g, 0, none⟩ = some (.int .i64 lg) /\ W.cell? ⟨g, 1, none⟩ = some (.int .i64 pg) /\ W.cell? ⟨g, 2, none⟩ = some (.int .i64 en) /\ W.cell? ⟨g, 3, none⟩ = some (.int .i64 gn) /\ W.cell? ⟨g, 4, none⟩ = some (.slice (some ⟨b, o, none⟩) n cap) /\ W.cell? ⟨b, o + j * 2, none⟩ = some (.string s)) (first
    | with_reducible exact ⟨c0, c1, c2, c3, c4, k0⟩
    | with_reducible exact ⟨C2.c0, C2.c1, C2.c2, C2.c3, C2.c4, k02⟩
    | go_keep) (first
    | (go_at_call 21; refine (CF.out wr.drew (Below.refl _ _).drew).mono ?_; rintro e w2 ⟨rfl, hb2'⟩; have hb2 : Below wr.heap.size wr w2 := ((Below.refl _ _).drew).trans hb2'; have C2 := HC.out.next hb2; have k02 := (hb2.cell (p := ⟨b, o + j * 2, none⟩) (World.block_lt_of_cell? wr _ k0)).trans k0))
   have C2' := C2
   have c4' := C2'.c4
   have k12 : w2.cell? ⟨b, o + j * 2 + 1, none⟩ = some (.int .i64 z) := (hb2.cell (p := ⟨b, o + j * 2 + 1, none⟩) (World.block_lt_of_cell? wr _ k1)).trans k1
   have HC2 := hi_ C2
   have HB2 := hi_ hb2
   clear c0 c1 c2 c3 c4 k0 k1 C2 C2' hb2' hb2
   rcases HFA.out with ⟨hF, hf⟩ | ⟨hF, hf⟩
   ·have q1 : ((findK ks s).1 != (j : Int)) = false := by rw [hf]; simp
    have HF := hi_ hF
    clear hf hF
    cases hnm : nameB s
    ·have HN := hi_ hnm
     clear hnm
     go_wp2_with (go_at_call 22; refine (RName_any s _ hsz).mono ?_; rintro e w3 ⟨rfl, nn, hw3⟩; rw [HN.out]; have hb3 := below_drewNc w2 nn; rw [<- hw3] at hb3; clear hw3)
     go_ret
     refine ⟨ret_bool (decide_eq_false fun hN => ?_).symm, (HC2.out.next hb3).bel⟩
     have := (HSN.out.1 (good_take hN _)).2.2.1
     rw [HN.out] at this
     cases this
    ·have HN := hi_ hnm
     clear hnm
     have cN : Calls Tryz.prog 22 #[.string s] w2 fun e w' => ∃ w3, w3 = w' /\ e = .returned (.bool true) /\ w3.cell? ⟨g, 4, none⟩ = some (.slice (some ⟨b, o, none⟩) n cap) /\ w3.cell? ⟨b, o + j * 2 + 1, none⟩ = some (.int .i64 z) /\ CAt w w3 g lg pg en gn (some ⟨b, o, none⟩) n cap ks :=
      (RName_any s _ hsz).mono fun e w3 ⟨he, nn, hw3⟩ => by
       have hb3 := below_drewNc w2 nn
       rw [<- hw3] at hb3
       have C3 := HC2.out.next hb3
       exact ⟨w3, rfl, by rw [he, HN.out], C3.c4, (hb3.cell (p := ⟨b, o + j * 2 + 1, none⟩) (World.block_lt_of_cell? w2 _ k12)).trans k12, C3⟩
     have CN := hi_ cN
     clear cN
     by_cases hz0 : z < 0
     ·have d0 : decide (z < 0) = true := decide_eq_true hz0
      have HZ := hi_ hz0
      clear hz0
      go_wp2_with (go_at_call 22; refine CN.out.mono ?_; rintro e w' ⟨w3, rfl, rfl, c43, k13, C3⟩; have HC3 := hi_ C3; clear C3)
      go_ret
      refine ⟨ret_bool (decide_eq_false fun hN => ?_).symm, HC3.out.bel⟩
      have := (HSN.out.1 (good_take hN _)).2.2.2
      have := HZ.out
      omega
     ·have d0 : decide (z < 0) = false := decide_eq_false hz0
      by_cases hz1 : 64 < z
      ·have d1 : decide (64 < z) = true := decide_eq_true hz1
       have HZ := hi_ hz1
       clear hz0 hz1
       go_wp2_with (go_at_call 22; refine CN.out.mono ?_; rintro e w' ⟨w3, rfl, rfl, c43, k13, C3⟩; have HC3 := hi_ C3; clear C3)
       go_ret
       refine ⟨ret_bool (decide_eq_false fun hN => ?_).symm, HC3.out.bel⟩
       have := (HSN.out.1 (good_take hN _)).2.2.2
       have := HZ.out
       omega
      ·have d1 : decide (64 < z) = false := decide_eq_false hz1
       have hz : 0 <= z /\ z <= 64 := by omega
       have HZ := hi_ hz
       clear hz hz0 hz1
       go_wp2_with (go_at_call 22; refine CN.out.mono ?_; rintro e w' ⟨w3, rfl, rfl, c43, k13, C3⟩; have HC3 := hi_ C3; clear C3)
       go_roundw
       case rel => exact ⟨j + 1, hlt, by go_num, HSN.out.2 ⟨HGD.out, HF.out, HN.out, HZ.out⟩, HC3.out⟩
       case measure => simp [intOf]; omega
   ·have q1 : ((findK ks s).1 != (j : Int)) = true := bne_iff_ne.2 hf
    have HF := hi_ hF
    clear hf hF
    go_wp2
    go_ret
    exact ⟨ret_bool (decide_eq_false fun hN => HF.out (HSN.out.1 (good_take hN _)).2.1).symm, HC2.out.bel⟩
  ·obtain rfl : j = n := by omega
   have HGD := hi_ hgd
   have HC := hi_ hC
   clear hgd hC
   go_wp2
   go_ret
   refine ⟨ret_bool (decide_eq_true ?_).symm, HC.out.bel⟩
   have := HGD.out
   rw [<- hl] at this
   exact (good_all ks).1 this
theorem RRight_any (h : KRd w A n ks) (hn : n <= 1000000) (hs : Lens ks) :
  Calls Tryz.prog 7 #[cv lg pg en gn A n cap] w fun e w' => e = .returned (.bool (decide (Cf.mk lg pg en gn ks).Right)) /\ Below w.heap.size w w' := by
 by_cases hN : (2 <= lg /\ lg <= 1024) /\ (4 <= pg /\ pg <= 1024) /\ (1 <= en /\ en <= 1024) /\ (1 <= gn /\ gn <= 1073741824) /\ n <= 32
 ·obtain ⟨⟨h0, h1⟩, ⟨h2, h3⟩, ⟨h4, h5⟩, ⟨h6, h7⟩, h8⟩ := hN
  refine (RRight_yes lg pg en gn A n cap ks w h hs h0 h1 h2 h3 h4 h5 h6 h7 h8).mono fun e w' ⟨he, hb⟩ => ⟨he.trans (ret_bool ?_), hb⟩
  refine decide_eq_decide.2 ⟨fun H => ⟨⟨⟨h0, h1⟩, ⟨h2, h3⟩, ⟨h4, h5⟩, ⟨h6, h7⟩, by have := h.1; show ks.length <= 32; omega⟩, H⟩, fun H => H.2⟩
 ·refine (RRight_num lg pg en gn A n cap ks w h hn hN).mono fun e w' ⟨he, hb⟩ => ⟨he.trans (ret_bool ?_), hb⟩
  exact (decide_eq_false fun R => hN ⟨R.1.1, R.1.2.1, R.1.2.2.1, R.1.2.2.2.1, by have := R.1.2.2.2.2; have := h.1; show n <= 32; simp only at *; omega⟩).symm
end
end Go.Proofs.YtaoinkjjmakhaaaGreatDoor
namespace Go.Proofs.YtaoinkjjmakhaaaGreatDoor
open Go.RowKit
set_option maxRecDepth 20000
section
variable (lg pg en gn : Int) (A : Option Addr) (n cap : Nat) (ks : List Kd) (GA : Option Addr) (gN gc : Nat) (gs : List Int) (FA : Option Addr) (fN fc : Nat) (fs : List Int) (LA : Option Addr) (ln lc : Nat) (w : World)
def ldNs (en gn : Int) (gs fs : List Int) : NS := ⟨(nears en 1024).toNat, nears gn 1073741824, gs, fs⟩
theorem eload_conf (h : KRd w A n ks) (hn : n <= 1000000) (hL : Lens ks) (hR : ¬ (Cf.mk lg pg en gn ks).Right) :
  Calls Tryz.prog 15 #[cv lg pg en gn A n cap, .slice GA gN gc, .slice FA fN fc, .slice LA ln lc] w fun e w' => e = .returned (.tuple #[.pointer none, .int .i64 1]) /\ Below w.heap.size w w' := by
 obtain ⟨w1, hw1⟩ : ∃ w1, w1 = w.alloc (.cells (cc lg pg en gn A n cap) 24) := ⟨_, rfl⟩
 have hb1 : Below w.heap.size w w1 := by rw [hw1]; exact (Below.refl _ _).alloc (Nat.le_refl _) _
 have r1 : Rec 24 w1 w.heap.size (cc lg pg en gn A n cap) := by rw [hw1]; exact Rec.new w _ _
 have CC := Check_any lg pg en gn A n cap ks w1 (h.below hb1) hn hL
 rw [if_neg hR] at CC
 have CC := hi_ CC
 have k0 := r1.at_ 0
 have k1 := r1.at_ 1
 have k2 := r1.at_ 2
 have k3 := r1.at_ 3
 have k4 := r1.at_ 4
 have HB := hi_ hb1
 clear h hb1 r1 hR
 go_enter Tryz.func15, Tryz.ntmps15
 go_wp2_with (first
  | (rw [<- hw1]; clear hw1)
  | (go_at_call 26; refine CC.out.mono ?_; rintro e w2 ⟨rfl, hb2⟩; have HB2 := hi_ hb2; clear hb2))
 go_ret2
 exact ⟨rfl, HB.out.trans (HB2.out.mono HB.out.size)⟩
theorem eload_names (h : KRd w A n ks) (hn : n <= 1000000) (hL : Lens ks) (hR : (Cf.mk lg pg en gn ks).Right) (hg : IRd w GA gN gs) (hf : IRd w FA fN fs) (hgn : gN <= 1100) (hfn : fN <= 100) (hno : ¬ LdOk (ldNs en gn gs fs)) :
  Calls Tryz.prog 15 #[cv lg pg en gn A n cap, .slice GA gN gc, .slice FA fN fc, .slice LA ln lc] w fun e w' => e = .returned (.tuple #[.pointer none, .int .i64 11]) /\ Below w.heap.size w w' := by
 obtain ⟨w1, hw1⟩ : ∃ w1, w1 = w.alloc (.cells (cc lg pg en gn A n cap) 24) := ⟨_, rfl⟩
 have hb1 : Below w.heap.size w w1 := by rw [hw1]; exact (Below.refl _ _).alloc (Nat.le_refl _) _
 have r1 : Rec 24 w1 w.heap.size (cc lg pg en gn A n cap) := by rw [hw1]; exact Rec.new w _ _
 have CC := Check_any lg pg en gn A n cap ks w1 (h.below hb1) hn hL
 rw [if_pos hR] at CC
 have CC := hi_ CC
 have CI : Hid (∀ W, Below w1.heap.size w1 W -> Calls Tryz.prog 47 #[.int .i64 en, .int .i64 gn, .slice GA gN gc, .slice FA fN fc] W fun e w' => e = .returned (.tuple #[.pointer none, .int .i64 11]) /\ Below W.heap.size W w') := hi_ (fun W hW => by
  have hwW := hb1.trans (hW.mono hb1.size)
  refine (Load_any en gn GA gN gc gs FA fN fc fs W (hg.below hwW) (hf.below hwW) hgn hfn).mono ?_
  rintro e w' (⟨hok, _⟩ | ⟨_, h1, h2⟩)
  ·exact absurd hok hno
  ·exact ⟨h1, h2⟩)
 have k0 := r1.at_ 0
 have k1 := r1.at_ 1
 have k2 := r1.at_ 2
 have k3 := r1.at_ 3
 have k4 := r1.at_ 4
 have HB := hi_ hb1
 have R1 := hi_ r1
 clear h hb1 r1 hR hg hf hno
 go_enter Tryz.func15, Tryz.ntmps15
 go_wp2_with (first
  | (rw [<- hw1]; clear hw1)
  | (go_at_call 26; refine CC.out.mono ?_; rintro e w2 ⟨rfl, hb2⟩; have e2 := (R1.out.under hb2).at_ 2; have e3 := (R1.out.under hb2).at_ 3; have HB2 := hi_ hb2; clear hb2 k0 k1 k2 k3 k4)
  | (go_at_call 47; refine (CI.out _ HB2.out).mono ?_; rintro e w3 ⟨rfl, hb3⟩; have HB3 := hi_ hb3; clear hb3 e2 e3))
 go_ret2
 exact ⟨rfl, HB.out.trans ((HB2.out.trans (HB3.out.mono HB2.out.size)).mono HB.out.size)⟩
end
end Go.Proofs.YtaoinkjjmakhaaaGreatDoor
namespace Go.Proofs.YtaoinkjjmakhaaaGreatDoor
open Go.RowKit
set_option maxRecDepth 20000
set_option linter.unusedVariables false
theorem RowsRd.at_ {w : World} {A : Option Addr} {n : Nat} {xs : List Rw} (h : RowsRd w A n xs) {j : Nat} {r : Rw} (hr : xs[j]? = some r) : ∃ b o, A = some ⟨b, o, none⟩ /\ b < w.heap.size /\ ∀ (k : Nat) (r : Rw), xs[k]? = some r -> ∃ IA ic CA cc, RwL w b (o + k * 3) r IA ic CA cc := by
 obtain ⟨b, o, _, _, _, _, hA, hlt, _⟩ := RwsV.cell h.2.1 hr
 exact ⟨b, o, hA, hlt, fun k r hk => h.2.2.2 b o k r hA hk⟩
theorem RwL.below {w W : World} {b o : Nat} {r : Rw} {IA : Option Addr} {ic : Nat} {CA : Option Addr} {cc : Nat} (h : RwL w b o r IA ic CA cc) (hW : Below w.heap.size w W) (hlt : b < w.heap.size) :
  W.cell? ⟨b, o, none⟩ = some (.int .u64 r.1) /\ W.cell? ⟨b, o + 1, none⟩ = some (.slice IA r.2.1.length ic) /\ W.cell? ⟨b, o + 2, none⟩ = some (.slice CA r.2.2.length cc) :=
 ⟨(hW.cell (p := ⟨b, o, none⟩) hlt).trans h.c0, (hW.cell (p := ⟨b, o + 1, none⟩) hlt).trans h.c1, (hW.cell (p := ⟨b, o + 2, none⟩) hlt).trans h.c2⟩
theorem RTLoad_at (lg pg en gn : Int) (A : Option Addr) (n cap : Nat) (ks : List Kd) (w W : World) (h : KRd w A n ks) (hn : n <= 1000000) (hW : Below w.heap.size w W) {b o : Nat} {r : Rw} {IA : Option Addr} {ic : Nat} {CA : Option Addr} {cc : Nat} (hr : RwL w b o r IA ic CA cc) (hw : r.1 < 18446744073709551616) (hf : RwFew r) :
  Calls Tryz.prog 54 #[cv lg pg en gn A n cap, .int .u64 (r.1 : Nat), .slice IA r.2.1.length ic, .slice CA r.2.2.length cc] W (RTLd (· < w.heap.size) n ks r W) := by
 have hs : WStays (· < w.heap.size) w W := ⟨hW.size, fun x hx => hW.block x hx⟩
 refine RTLoad_go lg pg en gn A n cap ks W (h.below hW) hn r hw IA ic CA cc (hr.i.1.2.stays hs) (hr.c.1.2.1.stays hs) (Nat.le_trans hf.1 (by decide)) (Nat.le_trans hf.2.1 (by decide)) (fun k uA un uc b' o' hA hk hc => ?_) hf.2.2
 obtain ⟨b2, o2, hA2, hlt, _⟩ := hr.c.1.2.2.2 (by omega)
 rw [hA] at hA2
 injection hA2 with e
 injection e with e1 e2
 subst e1 e2
 exact hr.c.1.2.2.1 k uA un uc b' o' hA hk ((hW.cell (p := ⟨b', o' + k, none⟩) hlt).symm.trans hc)
def RLdA (GA : Option Addr) (gN gc : Nat) (FA : Option Addr) (fN fc : Nat) (n : Nat) (zs : Nat -> Int) (s : NS) (xs : List Rw) (w : World) (e : Ending) (w' : World) : Prop := Below w.heap.size w w' /\
 ((RLdOk n zs s xs /\ ∃ (K : Nat -> Prop) (EA : Option Addr) (ec : Nat), e = .returned (.tuple #[.agg (stC GA gN gc FA fN fc EA (entsBy s.g.length (entsTo n zs xs xs.length)).length ec), .int .i64 0]) /\ EntsV K w' EA (entsBy s.g.length (entsTo n zs xs xs.length)).length (entsBy s.g.length (entsTo n zs xs xs.length))) \/
 (¬ RLdOk n zs s xs /\ e = .returned (.tuple #[.agg (stC none 0 0 none 0 0 none 0 0), .int .i64 11])))
theorem RLdA.no {GA : Option Addr} {gN gc : Nat} {FA : Option Addr} {fN fc : Nat} {n : Nat} {zs : Nat -> Int} {s : NS} {xs : List Rw} {w w' : World} (hb : Below w.heap.size w w') (h : ¬ RLdOk n zs s xs) : RLdA GA gN gc FA fN fc n zs s xs w (.returned (.tuple #[.agg (stC none 0 0 none 0 0 none 0 0), .int .i64 11])) w' := ⟨hb, .inr ⟨h, rfl⟩⟩
end Go.Proofs.YtaoinkjjmakhaaaGreatDoor
namespace Go.Proofs.YtaoinkjjmakhaaaGreatDoor
open Go.RowKit
section
variable {K : Nat -> Prop} {w : World} {d : Rv} {s : NS}
theorem RCount_any (h : RS K w d s) (hf : s.fr.length <= 1000000) (hg : s.g.length <= 1024) :
  Calls Tryz.prog 56 #[d.v] w fun e w' => e = .returned (.int .i64 (s.cnt s.g.length)) /\ Below w.heap.size w w' := by
 obtain ⟨E, L, GA, gn, gc, FA, fn, fc⟩ := d
 have hgn := h.gn
 simp only at hgn
 subst hgn
 have H := hi_ h
 clear h
 show Calls _ _ #[.agg #[.int .i64 E, .int .i64 L, .slice GA s.g.length gc, .slice FA fn fc]] w _
 obtain ⟨w1, hw1⟩ : ∃ w1, w1 = w.alloc (.cells #[.int .i64 E, .int .i64 L, .slice GA s.g.length gc, .slice FA fn fc] 123) := ⟨_, rfl⟩
 have hb : Below w.heap.size w w1 := by rw [hw1]; exact (Below.refl _ _).alloc (Nat.le_refl _) _
 have hS1 : Rec 123 w1 w.heap.size #[.int .i64 E, .int .i64 L, .slice GA s.g.length gc, .slice FA fn fc] := by rw [hw1]; exact Rec.new _ _ _
 have HB := hi_ hb
 have HS := hi_ hS1
 clear hb hS1
 obtain ⟨n, hn⟩ : ∃ n, n = s.g.length := ⟨_, rfl⟩
 rw [<- hn] at HS hw1 H hg ⊢
 clear hn
 go_enter Tryz.func56, Tryz.ntmps56
 go_wp2_with (first | (rw [<- hw1]; clear hw1))
 go_loopw [3, 4] (fun v iv wr => ∃ j : Nat, j <= n /\ iv = .int .i64 j /\ v = .int .i64 (s.cnt j) /\ Below w1.heap.size w1 wr) (fun _ iv _ => n - (intOf iv).toNat)
 case atStart => exact ⟨0, Nat.zero_le _, rfl, rfl, Below.refl _ _⟩
 case round =>
  obtain ⟨j, hj, rfl, rfl, hB⟩ := hrel
  have hcl := s.cnt_le j
  have hcs := s.cnt_succ j
  obtain ⟨m, hm⟩ : ∃ m, m = s.cnt j := ⟨_, rfl⟩
  rw [<- hm] at hcl hcs ⊢
  have hS := HS.out.under hB
  have c2 : wr.cell? ⟨w.heap.size, 2, none⟩ = some (.slice GA n gc) := hS.at_ 2
  have HSR := hi_ hS
  have HBR := hi_ hB
  by_cases hjn : j < n
  ·have CA := RAt_any (H.out.below (HB.out.trans (hB.mono HB.out.size))) hf (j : Int)
   simp only [Rv.v] at CA
   have hs2 : (s.at_ (j : Int)).2 = s.live (j : Int) := by unfold NS.at_; cases hl : s.live (j : Int) <;> simp
   rw [hs2] at CA
   obtain ⟨b, hb⟩ : ∃ b, b = s.live (j : Int) := ⟨_, rfl⟩
   obtain ⟨a1, ha1⟩ : ∃ a1, a1 = (s.at_ (j : Int)).1.1 := ⟨_, rfl⟩
   obtain ⟨a2, ha2⟩ : ∃ a2, a2 = (s.at_ (j : Int)).1.2 := ⟨_, rfl⟩
   simp only [idv] at CA
   rw [<- hb, <- ha1, <- ha2] at CA
   rw [<- hb] at hcs
   have CB := hi_ CA
   clear hb hm hs2 ha1 ha2 CA hS hB
   cases b
   ·rw [if_neg (by decide)] at hcs
    have HCS := hi_ hcs
    clear hcs
    go_wp2_with (first
     | (with_reducible refine wpList_ldQ rfl (.tmp 1) rfl rfl HSR.out ?_)
     | (go_at_call 55; refine CB.out.mono ?_; rintro e w2 ⟨rfl, hB2⟩; have HB2 := hi_ (HBR.out.trans (hB2.mono HBR.out.size)); clear hB2))
    go_roundw
    case rel => exact ⟨j + 1, hjn, by go_num, by rw [HCS.out]; rfl, HB2.out.alloc HB2.out.size _⟩
    case measure => simp [intOf]; omega
   ·rw [if_pos rfl] at hcs
    have HCS := hi_ hcs
    clear hcs
    go_wp2_with (first
     | (with_reducible refine wpList_ldQ rfl (.tmp 1) rfl rfl HSR.out ?_)
     | (go_at_call 55; refine CB.out.mono ?_; rintro e w2 ⟨rfl, hB2⟩; have HB2 := hi_ (HBR.out.trans (hB2.mono HBR.out.size)); clear hB2))
    go_roundw
    case rel => exact ⟨j + 1, hjn, by go_num, by rw [HCS.out]; go_num, HB2.out.alloc HB2.out.size _⟩
    case measure => simp [intOf]; omega
  ·obtain rfl : j = n := by omega
   clear hcs hS hB
   go_wp2
   go_ret
   exact ⟨by rw [<- hm]; rfl, HB.out.trans (HBR.out.mono HB.out.size)⟩
end
end Go.Proofs.YtaoinkjjmakhaaaGreatDoor
namespace Go.Proofs.YtaoinkjjmakhaaaGreatDoor
open Go.RowKit
set_option linter.unusedVariables false
def ent3 (i : Nat) (al : List En) (q : Nat) : List En := entsBy i al ++ (al.take q).filter fun e => decide (e.1.1 = (i : Int))
section
variable {i : Nat} {al : List En} {q : Nat} {e : En}
theorem ent3_zero : ent3 i al 0 = entsBy i al := by simp [ent3]
theorem ent3_yes (h : al[q]? = some e) (he : e.1.1 = (i : Int)) : ent3 i al (q + 1) = ent3 i al q ++ [e] := by
 unfold ent3
 rw [List.take_add_one, h]
 simp [List.filter_append, he]
theorem ent3_no (h : al[q]? = some e) (he : ¬ e.1.1 = (i : Int)) : ent3 i al (q + 1) = ent3 i al q := by
 unfold ent3
 rw [List.take_add_one, h]
 simp [List.filter_append, he]
theorem ent3_all (h : al.length <= q) : ent3 i al q = entsBy (i + 1) al := by
 unfold ent3
 rw [List.take_of_length_le h, entsBy_succ]
theorem entsBy_len : (entsBy i al).length <= al.length := by
 rw [(entsBy_perm i).length_eq]
 exact List.length_filter_le _ _
theorem ent3_le : (ent3 i al q).length <= al.length := by
 have h : (ent3 i al q).length <= (entsBy (i + 1) al).length := by
  rw [entsBy_succ]
  unfold ent3
  rw [List.length_append, List.length_append]
  exact Nat.add_le_add_left ((List.take_sublist q al).filter _).length_le _
 exact Nat.le_trans h entsBy_len
end
theorem NS.at_alive {s : NS} {k a1 a2 g : Int} {av : Bool} (h : ((a1, a2), av) = s.at_ k) : s.alive k g = true ↔ av = true /\ g = a2 := by
 unfold NS.at_ at h
 unfold NS.alive
 by_cases hl : s.live k = true
 ·rw [if_pos hl] at h
  simp only [Prod.mk.injEq] at h
  obtain ⟨⟨_, rfl⟩, rfl⟩ := h
  rw [hl]
  simp only [Bool.true_and, decide_eq_true_eq, true_and]
  exact eq_comm
 ·rw [if_neg hl] at h
  simp only [Prod.mk.injEq] at h
  obtain ⟨_, rfl⟩ := h
  rw [Bool.eq_false_iff.2 hl]
  simp
theorem NS.at_index {s : NS} {k a1 a2 : Int} (h : ((a1, a2), true) = s.at_ k) : a1 = k := by
 unfold NS.at_ at h
 by_cases hl : s.live k = true
 ·rw [if_pos hl] at h
  simp only [Prod.mk.injEq] at h
  exact h.1.1
 ·rw [if_neg hl] at h
  simp only [Prod.mk.injEq] at h
  cases h.2
theorem own_recne {w : World} {B g k : Nat} {cs : Array Value} {v : Value} {vs : List Value} (h : Rec 32 w g cs) (ho : w.ownsRow B 95 3 v k vs) : v.ownBlock ≠ some g := by
 rcases ho.2 with ⟨rfl, _⟩ | ⟨g', cap, cur, rfl, _, hgb, _⟩
 ·simp [Value.ownBlock]
 ·intro e'
  obtain rfl : g = g' := by simpa [Value.ownBlock] using e'.symm
  unfold Rec at h
  rw [h] at hgb
  simp at hgb
theorem st_slice {w : World} {g : Nat} {GA FA EA : Option Addr} {gn gc fn fc en ec i : Nat} {v : Value} (hr : Rec 41 w g (stC GA gn gc FA fn fc EA en ec)) (h : w.cell? ⟨g, i, none⟩ = some v) : ∃ A n c, v = .slice A n c := by
 rw [hr.at_] at h
 match i, h with
 | 0, h => exact ⟨_, _, _, (Option.some.inj h).symm⟩
 | 1, h => exact ⟨_, _, _, (Option.some.inj h).symm⟩
 | 2, h => exact ⟨_, _, _, (Option.some.inj h).symm⟩
 | _ + 3, h => cases h
theorem vrow_ne {K : Nat -> Prop} {w : World} {A : Option Addr} {n sz g : Nat} {vs : List Value} {z : Int} {k : IntKind} (h : VRow K w A n sz vs) (h0 : 0 < n -> vs[0]? = some (.int k z)) (hs : ∀ i v, w.cell? ⟨g, i, none⟩ = some v -> ∃ A n c, v = .slice A n c) : VRow (fun y => K y /\ y ≠ g) w A n sz vs :=
 ⟨h.1, h.2.1, fun hp => by
  obtain ⟨b, o, e, hk, hlt, hc⟩ := h.2.2 hp
  refine ⟨b, o, e, ⟨hk, fun hb => ?_⟩, hlt, hc⟩
  have h1 := hc 0 _ (h0 hp)
  subst hb
  obtain ⟨_, _, _, e1⟩ := hs _ _ h1
  cases e1⟩
theorem hdl_head {α : Type} {sz : Nat} {E : α -> List Value -> Prop} {vs : List Value} {xs : List α} (h : HdL sz E vs xs) (hz : 0 < sz) {x : α} (hx : xs[0]? = some x) : ∃ r, E x r /\ r.length = sz /\ vs[0]? = r[0]? := by
 obtain ⟨ch, rfl, _, h3, h4⟩ := h
 obtain ⟨r, hr, he⟩ := h4 0 x hx
 refine ⟨r, he, h3 r (List.mem_of_getElem? hr), ?_⟩
 obtain ⟨c0, rest, rfl⟩ : ∃ c0 rest, ch = c0 :: rest := by
  cases ch with
  | nil => cases hr
  | cons a b => exact ⟨a, b, rfl⟩
 have e : c0 = r := Option.some.inj hr
 subst e
 have hl : 0 < c0.length := by rw [h3 c0 List.mem_cons_self]; exact hz
 rw [List.flatten_cons, List.getElem?_append_left hl]
theorem ents_less {K : Nat -> Prop} {w : World} {A : Option Addr} {n g : Nat} {es : List En} (hs : ∀ i v, w.cell? ⟨g, i, none⟩ = some v -> ∃ A n c, v = .slice A n c) (h : EntsV K w A n es) : EntsV (fun y => K y /\ y ≠ g) w A n es := by
 obtain ⟨vs, h1, h2, h3⟩ := h
 refine ⟨vs, h1, ?_, h3.imp fun x r hx => ?_⟩
 ·rcases Nat.eq_zero_or_pos n with h0 | hp
  ·exact ⟨h2.1, h2.2.1, fun hp => by omega⟩
  ·obtain ⟨x, hx⟩ : ∃ x, es[0]? = some x := ⟨_, List.getElem?_eq_getElem (by omega)⟩
   obtain ⟨r, ⟨_, _, _, rfl, _⟩, _, hv⟩ := hdl_head h3 (by decide) hx
   exact vrow_ne h2 (fun _ => hv) hs
 ·obtain ⟨PA, pn, pc, e, ps, p1, p2, p3⟩ := hx
  refine ⟨PA, pn, pc, e, ps, p1, ?_, p3.imp fun y q hy => ?_⟩
  ·rcases Nat.eq_zero_or_pos pn with h0 | hp
   ·exact ⟨p2.1, p2.2.1, fun hp => by omega⟩
   ·obtain ⟨y, hy⟩ : ∃ y, x.2[0]? = some y := ⟨_, List.getElem?_eq_getElem (by omega)⟩
    obtain ⟨q, ⟨_, rfl, _⟩, _, hv⟩ := hdl_head p3 (by decide) hy
    exact vrow_ne p2 (fun _ => hv) hs
  ·obtain ⟨u, rfl, DA, m, c, rfl, hr, hk⟩ := hy
   refine ⟨_, rfl, DA, m, c, rfl, hr, fun b o e hp => ⟨⟨(hk b o e hp).1, fun hb => ?_⟩, (hk b o e hp).2⟩⟩
   obtain ⟨b', o', e', _, hc⟩ := hr.2 hp
   rw [e] at e'
   injection e' with e'
   injection e' with e1 e2
   subst e1 e2 hb
   have h0 := hc 0 (by rw [hr.1]; exact hp)
   obtain ⟨_, _, _, e2⟩ := hs _ _ h0
   cases e2
theorem ents_fr {K : Nat -> Prop} {w w' : World} {A : Option Addr} {n g : Nat} {es : List En} {GA FA EA : Option Addr} {gn gc fn fc en ec : Nat} (hr : Rec 41 w g (stC GA gn gc FA fn fc EA en ec)) (h : EntsV K w A n es) (hF : Fr (· = g) w w') : EntsV K w' A n es :=
 ((ents_less (fun _ _ hc => st_slice hr hc) h).lt.stays ⟨hF.size, fun y hy => hF.block y hy.2 hy.1.2⟩).mono fun _ hy => hy.1.1
end Go.Proofs.YtaoinkjjmakhaaaGreatDoor
