/- Cm3, Cm4, EcG -/
import Derived.Test.YtaoinkjjmakhaaaGreatDoorQl1
import Derived.Test.YtaoinkjjmakhaaaGreatDoorQl2
import Derived.Test.YtaoinkjjmakhaaaGreatDoorQl8
import Derived.Test.YtaoinkjjmakhaaaGreatDoorQl14
import Derived.Deep.LoopGhost
namespace Go.Proofs.YtaoinkjjmakhaaaGreatDoor
open Go.RowKit
theorem named_any (A : Option Addr) (n c : Nat) (ks : List Kd) (w : World) (h : KRd w A n ks) (hn : n <= 1000000) (hs : Lens ks) :
  Calls Tryz.prog 73 #[.slice A n c] w fun e w' => e = .returned (.bool (decide (Named ks))) /\ Below w.heap.size w w' := by
 have H := hi_ h
 have HS := hi_ hs
 clear h hs
 go_enter Tryz.func73, Tryz.ntmps73
 go_wp2
 go_loopw [7] (fun i wr => ∃ j : Nat, j <= n /\ i = .int .i64 j /\ Named (ks.take j) /\ Below w.heap.size w wr) (fun i _ => n - (intOf i).toNat)
 case atStart => exact ⟨0, Nat.zero_le _, rfl, Named.nil, Below.refl _ _⟩
 case round =>
  obtain ⟨j, hj, rfl, hall, hb⟩ := hrel
  by_cases hlt : j < n
  ·obtain ⟨b, o, s, z, rfl, _, k0, k1, hl, hk⟩ := (H.out.below hb).at_ hlt
   have hsn := named_snoc hl
   have hsz := HS.out.at_ hl hk
   rw [hk] at hsn
   have HA := hi_ hall
   have HB := hi_ hb
   have HSN := hi_ hsn
   clear hall hb hsn hk
   go_wp2_with (go_at_call 127; refine (CName_any s _ hsz).mono ?_; rintro e w' ⟨rfl, rfl⟩)
   ·go_ret
    refine ⟨ret_bool (decide_eq_false fun hN => ?_).symm, HB.out.alloc HB.out.size _⟩
    have := (HSN.out.1 (named_take hN _)).2
    simp_all
   ·go_roundw
    case rel => exact ⟨j + 1, hlt, by go_num, HSN.out.2 ⟨HA.out, by simp_all⟩, HB.out.alloc HB.out.size _⟩
    case measure => simp [intOf]; omega
  ·go_wp2
   go_ret
   refine ⟨ret_bool (decide_eq_true ?_).symm, hb⟩
   rwa [List.take_of_length_le (by rw [H.out.1]; omega)] at hall
theorem sized_any (A : Option Addr) (n c : Nat) (ks : List Kd) (w : World) (h : KRd w A n ks) (hn : n <= 1000000) :
  Calls Tryz.prog 75 #[.slice A n c] w fun e w' => e = .returned (.bool (decide (Sized ks))) /\ Below w.heap.size w w' := by
 have H := hi_ h
 clear h
 go_enter Tryz.func75, Tryz.ntmps75
 go_wp2
 go_loopw [7] (fun i wr => ∃ j : Nat, j <= n /\ i = .int .i64 j /\ Sized (ks.take j) /\ Below w.heap.size w wr) (fun i _ => n - (intOf i).toNat)
 case atStart => exact ⟨0, Nat.zero_le _, rfl, Sized.nil, Below.refl _ _⟩
 case round =>
  obtain ⟨j, hj, rfl, hall, hb⟩ := hrel
  by_cases hlt : j < n
  ·obtain ⟨b, o, s, z, rfl, _, k0, k1, hl, hk⟩ := (H.out.below hb).at_ hlt
   have hsn := sized_snoc hl
   rw [hk] at hsn
   have HA := hi_ hall
   have HB := hi_ hb
   have HSN := hi_ hsn
   clear hall hb hsn hk
   by_cases hz : 0 <= z /\ z <= 64
   ·have hd := decide_eq_true hz
    have HZ := hi_ hz
    clear hz
    go_wp2_with (go_at_call 72; refine (within_any _ _ _ _).mono ?_; rintro e w' ⟨rfl, rfl⟩; rw [hd])
    go_roundw
    case rel => exact ⟨j + 1, hlt, by go_num, HSN.out.2 ⟨HA.out, HZ.out⟩, HB.out.alloc HB.out.size _⟩
    case measure => simp [intOf]; omega
   ·have hd : decide (0 <= z /\ z <= 64) = false := decide_eq_false hz
    have HZ := hi_ hz
    clear hz
    go_wp2_with (go_at_call 72; refine (within_any _ _ _ _).mono ?_; rintro e w' ⟨rfl, rfl⟩; rw [hd])
    go_ret
    exact ⟨ret_bool (decide_eq_false fun hN => HZ.out (HSN.out.1 (sized_take hN _)).2).symm, HB.out.alloc HB.out.size _⟩
  ·go_wp2
   go_ret
   refine ⟨ret_bool (decide_eq_true ?_).symm, hb⟩
   rwa [List.take_of_length_le (by rw [H.out.1]; omega)] at hall
theorem toList_inj {a b : ByteArray} : (a.toList == b.toList) = decide (a = b) := by
 rw [Bool.eq_iff_iff, beq_iff_eq, decide_eq_true_eq, ByteArray.toList_eq, ByteArray.toList_eq]
 refine ⟨fun h => ?_, fun h => by rw [h]⟩
 exact ByteArray.ext (Array.ext' h)
theorem apart_any (A : Option Addr) (n c : Nat) (ks : List Kd) (w : World) (h : KRd w A n ks) (hn : n <= 1000000) :
  Calls Tryz.prog 74 #[.slice A n c] w fun e w' => e = .returned (.bool (decide (Apart ks))) /\ Below w.heap.size w w' := by
 have H := hi_ h
 clear h
 go_enter Tryz.func74, Tryz.ntmps74
 go_wp2
 go_step3
 go_wp2
 go_step3
 go_wp2
 go_loopg [9] n (fun g i wr => ∃ j : Nat, j + g = n /\ i = .int .i64 j /\ Apart (ks.take j) /\ Below w.heap.size w wr)
 case atStart => exact ⟨0, by omega, rfl, Apart.nil, Below.refl _ _⟩
 case round =>
  obtain ⟨j, hj, rfl, hall, hb⟩ := hrel
  cases gk with
  | zero =>
   have hjz : ¬ ((j : Int) < (n : Int)) := by omega
   go_wp2
   try rw [Exit.noGoto_ret]
   go_ret
   refine ⟨ret_bool (decide_eq_true ?_).symm, hb⟩
   rwa [List.take_of_length_le (by rw [H.out.1]; omega)] at hall
  | succ g =>
   have hjz : (j : Int) < (n : Int) := by omega
   obtain ⟨b, o, s, z, rfl, _, k0, k1, hl, hk⟩ := (H.out.below hb).at_ (show j < n by omega)
   have hsn := apart_snoc hl
   rw [hk] at hsn
   have HA := hi_ hall
   have HB := hi_ hb
   have HSN := hi_ hsn
   clear hall hb hsn hk
   go_wp2
   obtain ⟨p, hp⟩ : ∃ p, p = wr.heap.size := ⟨_, rfl⟩
   obtain ⟨w1, hw1⟩ : ∃ w1, w1 = wr.alloc (.cells #[.string s, .int .i64 z] 59) := ⟨_, rfl⟩
   have hB1 : Below w.heap.size w w1 := by rw [hw1]; exact HB.out.alloc HB.out.size _
   have q0 : w1.cell? ⟨p, 0, none⟩ = some (.string s) := by rw [hw1, hp]; simp
   have hlt1 : p < w1.heap.size := by rw [hw1, hp]; simp
   rw [<- hw1, <- hp]
   clear hw1 hp
   have HB1 := hi_ hB1
   clear hB1
   go_loopg [16] (n - 1) (fun g2 i2 wy => ∃ m : Nat, m + g2 = n - 1 /\ m <= j /\ i2 = .int .i64 m /\ First ks s m /\ Below w1.heap.size w1 wy)
   case atStart => exact ⟨0, by omega, Nat.zero_le _, rfl, First.zero _ _, Below.refl _ _⟩
   case round =>
    obtain ⟨m, hmg, hmj, rfl, hf, hb2⟩ := hrel
    have hmn : (m : Int) < (n : Int) := by omega
    have Q0 : wr.cell? ⟨p, 0, none⟩ = some (.string s) := (hb2.cell (p := ⟨p, 0, none⟩) hlt1).trans q0
    have hB2 := HB1.out.trans (hb2.mono HB1.out.size)
    obtain ⟨b', o', s', z', hA', _, k0', k1', hl', hk'⟩ := (H.out.below hB2).at_ (show m < n by omega)
    obtain ⟨rfl, rfl⟩ : b = b' /\ o = o' := by simpa using hA'
    have hsn' := First.succ (s := s) hl'
    rw [hk'] at hsn'
    have Q1 : (wr.alloc (.cells #[.string s', .int .i64 z'] 59)).cell? ⟨p, 0, none⟩ = some (.string s) := (((Below.refl wr.heap.size wr).alloc (Nat.le_refl _) _).cell (p := ⟨p, 0, none⟩) (by have := hb2.size; simp; omega)).trans Q0
    have HB2 := hi_ hB2
    have Hb2 := hi_ hb2
    have HF := hi_ hf
    have HSN' := hi_ hsn'
    clear hB2 hb2 hf hsn' hA' hk'
    by_cases hmj' : m = j
    ·subst hmj'
     go_wp2
     go_roundg g
     case measure => omega
     case rel => exact ⟨m + 1, by omega, by go_num, HSN.out.2 ⟨HA.out, HF.out⟩, HB2.out.alloc HB2.out.size _⟩
    ·have hne : ((m : Int) == (j : Int)) = false := by simp; omega
     by_cases hss : s' = s
     ·subst hss
      go_wp2
      go_ret
      exact ⟨ret_bool (decide_eq_false fun hN => (by
       have h1 := (HSN.out.1 (apart_take hN _)).2
       have h2 : First ks s' (m + 1) := fun k hk => h1 k ((List.take_subset_take_left ks (show m + 1 <= j by omega)) hk)
       exact (HSN'.out.1 h2).2 rfl)).symm, HB2.out.alloc HB2.out.size _⟩
     ·have hbe : (s'.toList == s.toList) = false := by rw [toList_inj]; exact decide_eq_false hss
      cases gk with
      | zero => omega
      | succ g2 =>
       have HSS := hi_ hss
       clear hss
       go_wp2
       go_roundg g2
       case measure => omega
       case rel => exact ⟨m + 1, by omega, by omega, by go_num, HSN'.out.2 ⟨HF.out, HSS.out⟩, Hb2.out.alloc Hb2.out.size _⟩
end Go.Proofs.YtaoinkjjmakhaaaGreatDoor
namespace Go.Proofs.YtaoinkjjmakhaaaGreatDoor
open Go.RowKit
set_option linter.unusedVariables false
section
variable (lg pg en gn : Int) (A : Option Addr) (n cap : Nat) (ks : List Kd) (w : World)
theorem Check_0 (h : KRd w A n ks) (hn : n <= 1000000) (hs : Lens ks) (d0 : decide (2 <= lg /\ lg <= 1024) = false) :
  Calls Tryz.prog 26 #[cv lg pg en gn A n cap] w fun e w' => e = .returned (.int .i64 1) /\ Below w.heap.size w w' := by
 obtain ⟨w1, hw1⟩ : ∃ w1, w1 = w.alloc (.cells (cc lg pg en gn A n cap) 24) := ⟨_, rfl⟩
 have C1 := CAt.new h lg pg en gn cap
 rw [<- hw1] at C1
 obtain ⟨g, hg⟩ : ∃ g, g = w.heap.size := ⟨_, rfl⟩
 rw [<- hg] at C1
 have HG := hi_ hg
 clear h hg
 have c0 := C1.c0
 have c1 := C1.c1
 have c2 := C1.c2
 have c3 := C1.c3
 have c4 := C1.c4
 have K1 := hi_ C1
 clear C1
 go_enter Tryz.func26, Tryz.ntmps26
 go_wp2_with (first
  | (rw [<- hw1, <- HG.out]; clear hw1)
  | (go_at_call 72; refine (within_any _ _ _ _).mono ?_; rintro e w' ⟨rfl, rfl⟩; (first | rw [d0])))
 go_ret
 exact ⟨rfl, K1.out.bel⟩
theorem Check_1 (h : KRd w A n ks) (hn : n <= 1000000) (hs : Lens ks) (d0 : decide (2 <= lg /\ lg <= 1024) = true) (d1 : decide (4 <= pg /\ pg <= 1024) = false) :
  Calls Tryz.prog 26 #[cv lg pg en gn A n cap] w fun e w' => e = .returned (.int .i64 1) /\ Below w.heap.size w w' := by
 obtain ⟨w1, hw1⟩ : ∃ w1, w1 = w.alloc (.cells (cc lg pg en gn A n cap) 24) := ⟨_, rfl⟩
 have C1 := CAt.new h lg pg en gn cap
 rw [<- hw1] at C1
 obtain ⟨g, hg⟩ : ∃ g, g = w.heap.size := ⟨_, rfl⟩
 rw [<- hg] at C1
 have HG := hi_ hg
 clear h hg
 have c0 := C1.c0
 have c1 := C1.c1
 have c2 := C1.c2
 have c3 := C1.c3
 have c4 := C1.c4
 have K1 := hi_ C1
 clear C1
 go_enter Tryz.func26, Tryz.ntmps26
 go_wp2_with (first
  | (rw [<- hw1, <- HG.out]; clear hw1)
  | (go_at_call 72; refine (within_any _ _ _ _).mono ?_; rintro e w' ⟨rfl, rfl⟩; (first | rw [d0] | rw [d1])))
 go_ret
 exact ⟨rfl, K1.out.bel⟩
theorem Check_2 (h : KRd w A n ks) (hn : n <= 1000000) (hs : Lens ks) (d0 : decide (2 <= lg /\ lg <= 1024) = true) (d1 : decide (4 <= pg /\ pg <= 1024) = true) (d2 : decide (1 <= en /\ en <= 1024) = false) :
  Calls Tryz.prog 26 #[cv lg pg en gn A n cap] w fun e w' => e = .returned (.int .i64 1) /\ Below w.heap.size w w' := by
 obtain ⟨w1, hw1⟩ : ∃ w1, w1 = w.alloc (.cells (cc lg pg en gn A n cap) 24) := ⟨_, rfl⟩
 have C1 := CAt.new h lg pg en gn cap
 rw [<- hw1] at C1
 obtain ⟨g, hg⟩ : ∃ g, g = w.heap.size := ⟨_, rfl⟩
 rw [<- hg] at C1
 have HG := hi_ hg
 clear h hg
 have c0 := C1.c0
 have c1 := C1.c1
 have c2 := C1.c2
 have c3 := C1.c3
 have c4 := C1.c4
 have K1 := hi_ C1
 clear C1
 go_enter Tryz.func26, Tryz.ntmps26
 go_wp2_with (first
  | (rw [<- hw1, <- HG.out]; clear hw1)
  | (go_at_call 72; refine (within_any _ _ _ _).mono ?_; rintro e w' ⟨rfl, rfl⟩; (first | rw [d0] | rw [d1] | rw [d2])))
 go_ret
 exact ⟨rfl, K1.out.bel⟩
theorem Check_3 (h : KRd w A n ks) (hn : n <= 1000000) (hs : Lens ks) (d0 : decide (2 <= lg /\ lg <= 1024) = true) (d1 : decide (4 <= pg /\ pg <= 1024) = true) (d2 : decide (1 <= en /\ en <= 1024) = true) (d3 : decide (1 <= gn /\ gn <= 1073741824) = false) :
  Calls Tryz.prog 26 #[cv lg pg en gn A n cap] w fun e w' => e = .returned (.int .i64 1) /\ Below w.heap.size w w' := by
 obtain ⟨w1, hw1⟩ : ∃ w1, w1 = w.alloc (.cells (cc lg pg en gn A n cap) 24) := ⟨_, rfl⟩
 have C1 := CAt.new h lg pg en gn cap
 rw [<- hw1] at C1
 obtain ⟨g, hg⟩ : ∃ g, g = w.heap.size := ⟨_, rfl⟩
 rw [<- hg] at C1
 have HG := hi_ hg
 clear h hg
 have c0 := C1.c0
 have c1 := C1.c1
 have c2 := C1.c2
 have c3 := C1.c3
 have c4 := C1.c4
 have K1 := hi_ C1
 clear C1
 go_enter Tryz.func26, Tryz.ntmps26
 go_wp2_with (first
  | (rw [<- hw1, <- HG.out]; clear hw1)
  | (go_at_call 72; refine (within_any _ _ _ _).mono ?_; rintro e w' ⟨rfl, rfl⟩; (first | rw [d0] | rw [d1] | rw [d2] | rw [d3])))
 go_ret
 exact ⟨rfl, K1.out.bel⟩
theorem Check_4 (h : KRd w A n ks) (hn : n <= 1000000) (hs : Lens ks) (d0 : decide (2 <= lg /\ lg <= 1024) = true) (d1 : decide (4 <= pg /\ pg <= 1024) = true) (d2 : decide (1 <= en /\ en <= 1024) = true) (d3 : decide (1 <= gn /\ gn <= 1073741824) = true) (d4 : ¬ n <= 32) :
  Calls Tryz.prog 26 #[cv lg pg en gn A n cap] w fun e w' => e = .returned (.int .i64 1) /\ Below w.heap.size w w' := by
 obtain ⟨w1, hw1⟩ : ∃ w1, w1 = w.alloc (.cells (cc lg pg en gn A n cap) 24) := ⟨_, rfl⟩
 have C1 := CAt.new h lg pg en gn cap
 rw [<- hw1] at C1
 obtain ⟨g, hg⟩ : ∃ g, g = w.heap.size := ⟨_, rfl⟩
 rw [<- hg] at C1
 have HG := hi_ hg
 clear h hg
 have c0 := C1.c0
 have c1 := C1.c1
 have c2 := C1.c2
 have c3 := C1.c3
 have c4 := C1.c4
 have K1 := hi_ C1
 clear C1
 have d4' : ¬ (n : Int) <= 32 := by omega
 have d4'' : decide ((n : Int) <= 32) = false := decide_eq_false d4'
 go_enter Tryz.func26, Tryz.ntmps26
 go_wp2_with (first
  | (rw [<- hw1, <- HG.out]; clear hw1)
  | (go_at_call 72; refine (within_any _ _ _ _).mono ?_; rintro e w' ⟨rfl, rfl⟩; (first | rw [d0] | rw [d1] | rw [d2] | rw [d3])))
 go_ret
 exact ⟨rfl, K1.out.bel⟩
theorem Check_5 (h : KRd w A n ks) (hn : n <= 1000000) (hs : Lens ks) (d0 : decide (2 <= lg /\ lg <= 1024) = true) (d1 : decide (4 <= pg /\ pg <= 1024) = true) (d2 : decide (1 <= en /\ en <= 1024) = true) (d3 : decide (1 <= gn /\ gn <= 1073741824) = true) (d4 : n <= 32) (d5 : decide (Named ks) = false) :
  Calls Tryz.prog 26 #[cv lg pg en gn A n cap] w fun e w' => e = .returned (.int .i64 1) /\ Below w.heap.size w w' := by
 obtain ⟨w1, hw1⟩ : ∃ w1, w1 = w.alloc (.cells (cc lg pg en gn A n cap) 24) := ⟨_, rfl⟩
 have C1 := CAt.new h lg pg en gn cap
 rw [<- hw1] at C1
 obtain ⟨g, hg⟩ : ∃ g, g = w.heap.size := ⟨_, rfl⟩
 rw [<- hg] at C1
 have HG := hi_ hg
 clear h hg
 have c0 := C1.c0
 have c1 := C1.c1
 have c2 := C1.c2
 have c3 := C1.c3
 have c4 := C1.c4
 have K1 := hi_ C1
 clear C1
 have d4' : (n : Int) <= 32 := by omega
 go_enter Tryz.func26, Tryz.ntmps26
 go_wp2_with (first
  | (rw [<- hw1, <- HG.out]; clear hw1)
  | (go_at_call 72; refine (within_any _ _ _ _).mono ?_; rintro e w' ⟨rfl, rfl⟩; (first | rw [d0] | rw [d1] | rw [d2] | rw [d3])))
 refine (named_any A n cap ks _ K1.out.rd hn hs).mono ?_
 rintro e w2 ⟨rfl, hb2⟩
 rw [d5]
 have C2 := K1.out.next hb2
 clear c0 c1 c2 c3 c4 hb2
 have c0 := C2.c0
 have c1 := C2.c1
 have c2 := C2.c2
 have c3 := C2.c3
 have c4 := C2.c4
 have K2 := hi_ C2
 clear C2
 go_wp2_with (fail)
 go_ret
 exact ⟨rfl, K2.out.bel⟩
theorem Check_6 (h : KRd w A n ks) (hn : n <= 1000000) (hs : Lens ks) (d0 : decide (2 <= lg /\ lg <= 1024) = true) (d1 : decide (4 <= pg /\ pg <= 1024) = true) (d2 : decide (1 <= en /\ en <= 1024) = true) (d3 : decide (1 <= gn /\ gn <= 1073741824) = true) (d4 : n <= 32) (d5 : decide (Named ks) = true) (d6 : decide (Apart ks) = false) :
  Calls Tryz.prog 26 #[cv lg pg en gn A n cap] w fun e w' => e = .returned (.int .i64 1) /\ Below w.heap.size w w' := by
 obtain ⟨w1, hw1⟩ : ∃ w1, w1 = w.alloc (.cells (cc lg pg en gn A n cap) 24) := ⟨_, rfl⟩
 have C1 := CAt.new h lg pg en gn cap
 rw [<- hw1] at C1
 obtain ⟨g, hg⟩ : ∃ g, g = w.heap.size := ⟨_, rfl⟩
 rw [<- hg] at C1
 have HG := hi_ hg
 clear h hg
 have c0 := C1.c0
 have c1 := C1.c1
 have c2 := C1.c2
 have c3 := C1.c3
 have c4 := C1.c4
 have K1 := hi_ C1
 clear C1
 have d4' : (n : Int) <= 32 := by omega
 go_enter Tryz.func26, Tryz.ntmps26
 go_wp2_with (first
  | (rw [<- hw1, <- HG.out]; clear hw1)
  | (go_at_call 72; refine (within_any _ _ _ _).mono ?_; rintro e w' ⟨rfl, rfl⟩; (first | rw [d0] | rw [d1] | rw [d2] | rw [d3])))
 refine (named_any A n cap ks _ K1.out.rd hn hs).mono ?_
 rintro e w2 ⟨rfl, hb2⟩
 rw [d5]
 have C2 := K1.out.next hb2
 clear c0 c1 c2 c3 c4 hb2
 have c0 := C2.c0
 have c1 := C2.c1
 have c2 := C2.c2
 have c3 := C2.c3
 have c4 := C2.c4
 have K2 := hi_ C2
 clear C2
 go_wp2_with (fail)
 refine (apart_any A n cap ks _ K2.out.rd hn).mono ?_
 rintro e w3 ⟨rfl, hb3⟩
 rw [d6]
 have C3 := K2.out.next hb3
 clear c0 c1 c2 c3 c4 hb3
 have c0 := C3.c0
 have c1 := C3.c1
 have c2 := C3.c2
 have c3 := C3.c3
 have c4 := C3.c4
 have K3 := hi_ C3
 clear C3
 go_wp2_with (fail)
 go_ret
 exact ⟨rfl, K3.out.bel⟩
theorem Check_7 (h : KRd w A n ks) (hn : n <= 1000000) (hs : Lens ks) (d0 : decide (2 <= lg /\ lg <= 1024) = true) (d1 : decide (4 <= pg /\ pg <= 1024) = true) (d2 : decide (1 <= en /\ en <= 1024) = true) (d3 : decide (1 <= gn /\ gn <= 1073741824) = true) (d4 : n <= 32) (d5 : decide (Named ks) = true) (d6 : decide (Apart ks) = true) (d7 : decide (Sized ks) = false) :
  Calls Tryz.prog 26 #[cv lg pg en gn A n cap] w fun e w' => e = .returned (.int .i64 1) /\ Below w.heap.size w w' := by
 obtain ⟨w1, hw1⟩ : ∃ w1, w1 = w.alloc (.cells (cc lg pg en gn A n cap) 24) := ⟨_, rfl⟩
 have C1 := CAt.new h lg pg en gn cap
 rw [<- hw1] at C1
 obtain ⟨g, hg⟩ : ∃ g, g = w.heap.size := ⟨_, rfl⟩
 rw [<- hg] at C1
 have HG := hi_ hg
 clear h hg
 have c0 := C1.c0
 have c1 := C1.c1
 have c2 := C1.c2
 have c3 := C1.c3
 have c4 := C1.c4
 have K1 := hi_ C1
 clear C1
 have d4' : (n : Int) <= 32 := by omega
 go_enter Tryz.func26, Tryz.ntmps26
 go_wp2_with (first
  | (rw [<- hw1, <- HG.out]; clear hw1)
  | (go_at_call 72; refine (within_any _ _ _ _).mono ?_; rintro e w' ⟨rfl, rfl⟩; (first | rw [d0] | rw [d1] | rw [d2] | rw [d3])))
 refine (named_any A n cap ks _ K1.out.rd hn hs).mono ?_
 rintro e w2 ⟨rfl, hb2⟩
 rw [d5]
 have C2 := K1.out.next hb2
 clear c0 c1 c2 c3 c4 hb2
 have c0 := C2.c0
 have c1 := C2.c1
 have c2 := C2.c2
 have c3 := C2.c3
 have c4 := C2.c4
 have K2 := hi_ C2
 clear C2
 go_wp2_with (fail)
 refine (apart_any A n cap ks _ K2.out.rd hn).mono ?_
 rintro e w3 ⟨rfl, hb3⟩
 rw [d6]
 have C3 := K2.out.next hb3
 clear c0 c1 c2 c3 c4 hb3
 have c0 := C3.c0
 have c1 := C3.c1
 have c2 := C3.c2
 have c3 := C3.c3
 have c4 := C3.c4
 have K3 := hi_ C3
 clear C3
 go_wp2_with (fail)
 refine (sized_any A n cap ks _ K3.out.rd hn).mono ?_
 rintro e w4 ⟨rfl, hb4⟩
 rw [d7]
 have C4 := K3.out.next hb4
 clear c0 c1 c2 c3 c4 hb4
 have c0 := C4.c0
 have c1 := C4.c1
 have c2 := C4.c2
 have c3 := C4.c3
 have c4 := C4.c4
 have K4 := hi_ C4
 clear C4
 go_wp2_with (fail)
 go_ret
 exact ⟨rfl, K4.out.bel⟩
theorem Check_8 (h : KRd w A n ks) (hn : n <= 1000000) (hs : Lens ks) (d0 : decide (2 <= lg /\ lg <= 1024) = true) (d1 : decide (4 <= pg /\ pg <= 1024) = true) (d2 : decide (1 <= en /\ en <= 1024) = true) (d3 : decide (1 <= gn /\ gn <= 1073741824) = true) (d4 : n <= 32) (d5 : decide (Named ks) = true) (d6 : decide (Apart ks) = true) (d7 : decide (Sized ks) = true) :
  Calls Tryz.prog 26 #[cv lg pg en gn A n cap] w fun e w' => e = .returned (.int .i64 0) /\ Below w.heap.size w w' := by
 obtain ⟨w1, hw1⟩ : ∃ w1, w1 = w.alloc (.cells (cc lg pg en gn A n cap) 24) := ⟨_, rfl⟩
 have C1 := CAt.new h lg pg en gn cap
 rw [<- hw1] at C1
 obtain ⟨g, hg⟩ : ∃ g, g = w.heap.size := ⟨_, rfl⟩
 rw [<- hg] at C1
 have HG := hi_ hg
 clear h hg
 have c0 := C1.c0
 have c1 := C1.c1
 have c2 := C1.c2
 have c3 := C1.c3
 have c4 := C1.c4
 have K1 := hi_ C1
 clear C1
 have d4' : (n : Int) <= 32 := by omega
 go_enter Tryz.func26, Tryz.ntmps26
 go_wp2_with (first
  | (rw [<- hw1, <- HG.out]; clear hw1)
  | (go_at_call 72; refine (within_any _ _ _ _).mono ?_; rintro e w' ⟨rfl, rfl⟩; (first | rw [d0] | rw [d1] | rw [d2] | rw [d3])))
 refine (named_any A n cap ks _ K1.out.rd hn hs).mono ?_
 rintro e w2 ⟨rfl, hb2⟩
 rw [d5]
 have C2 := K1.out.next hb2
 clear c0 c1 c2 c3 c4 hb2
 have c0 := C2.c0
 have c1 := C2.c1
 have c2 := C2.c2
 have c3 := C2.c3
 have c4 := C2.c4
 have K2 := hi_ C2
 clear C2
 go_wp2_with (fail)
 refine (apart_any A n cap ks _ K2.out.rd hn).mono ?_
 rintro e w3 ⟨rfl, hb3⟩
 rw [d6]
 have C3 := K2.out.next hb3
 clear c0 c1 c2 c3 c4 hb3
 have c0 := C3.c0
 have c1 := C3.c1
 have c2 := C3.c2
 have c3 := C3.c3
 have c4 := C3.c4
 have K3 := hi_ C3
 clear C3
 go_wp2_with (fail)
 refine (sized_any A n cap ks _ K3.out.rd hn).mono ?_
 rintro e w4 ⟨rfl, hb4⟩
 rw [d7]
 have C4 := K3.out.next hb4
 clear c0 c1 c2 c3 c4 hb4
 have c0 := C4.c0
 have c1 := C4.c1
 have c2 := C4.c2
 have c3 := C4.c3
 have c4 := C4.c4
 have K4 := hi_ C4
 clear C4
 go_wp2_with (fail)
 go_ret
 exact ⟨rfl, K4.out.bel⟩
theorem Check_any (h : KRd w A n ks) (hn : n <= 1000000) (hs : Lens ks) :
  Calls Tryz.prog 26 #[cv lg pg en gn A n cap] w fun e w' => e = .returned (.int .i64 (if (Cf.mk lg pg en gn ks).Right then 0 else 1)) /\ Below w.heap.size w w' := by
 have hl := h.1
 have no : ∀ {P : Prop}, (¬ (Cf.mk lg pg en gn ks).Right) -> Calls Tryz.prog 26 #[cv lg pg en gn A n cap] w (fun e w' => e = .returned (.int .i64 1) /\ Below w.heap.size w w') -> Calls Tryz.prog 26 #[cv lg pg en gn A n cap] w fun e w' => e = .returned (.int .i64 (if (Cf.mk lg pg en gn ks).Right then 0 else 1)) /\ Below w.heap.size w w' :=
  fun hn hc => by rw [if_neg hn]; exact hc
 by_cases h0 : 2 <= lg /\ lg <= 1024
 rotate_left 1
 ·exact no (P := True) (fun R => h0 R.1.1) (Check_0 lg pg en gn A n cap ks w h hn hs  (decide_eq_false h0))
 by_cases h1 : 4 <= pg /\ pg <= 1024
 rotate_left 1
 ·exact no (P := True) (fun R => h1 R.1.2.1) (Check_1 lg pg en gn A n cap ks w h hn hs (decide_eq_true h0) (decide_eq_false h1))
 by_cases h2 : 1 <= en /\ en <= 1024
 rotate_left 1
 ·exact no (P := True) (fun R => h2 R.1.2.2.1) (Check_2 lg pg en gn A n cap ks w h hn hs (decide_eq_true h0) (decide_eq_true h1) (decide_eq_false h2))
 by_cases h3 : 1 <= gn /\ gn <= 1073741824
 rotate_left 1
 ·exact no (P := True) (fun R => h3 R.1.2.2.2.1) (Check_3 lg pg en gn A n cap ks w h hn hs (decide_eq_true h0) (decide_eq_true h1) (decide_eq_true h2) (decide_eq_false h3))
 by_cases h4 : n <= 32
 rotate_left 1
 ·exact no (P := True) (fun R => h4 (by have : ks.length <= 32 := R.1.2.2.2.2; omega)) (Check_4 lg pg en gn A n cap ks w h hn hs (decide_eq_true h0) (decide_eq_true h1) (decide_eq_true h2) (decide_eq_true h3) h4)
 by_cases h5 : Named ks
 rotate_left 1
 ·exact no (P := True) (fun R => h5 R.2.1) (Check_5 lg pg en gn A n cap ks w h hn hs (decide_eq_true h0) (decide_eq_true h1) (decide_eq_true h2) (decide_eq_true h3) h4 (decide_eq_false h5))
 by_cases h6 : Apart ks
 rotate_left 1
 ·exact no (P := True) (fun R => h6 R.2.2.1) (Check_6 lg pg en gn A n cap ks w h hn hs (decide_eq_true h0) (decide_eq_true h1) (decide_eq_true h2) (decide_eq_true h3) h4 (decide_eq_true h5) (decide_eq_false h6))
 by_cases h7 : Sized ks
 rotate_left 1
 ·exact no (P := True) (fun R => h7 R.2.2.2) (Check_7 lg pg en gn A n cap ks w h hn hs (decide_eq_true h0) (decide_eq_true h1) (decide_eq_true h2) (decide_eq_true h3) h4 (decide_eq_true h5) (decide_eq_true h6) (decide_eq_false h7))
 rw [if_pos ⟨⟨h0, h1, h2, h3, by show ks.length <= 32; omega⟩, h5, h6, h7⟩]
 exact Check_8 lg pg en gn A n cap ks w h hn hs (decide_eq_true h0) (decide_eq_true h1) (decide_eq_true h2) (decide_eq_true h3) h4 (decide_eq_true h5) (decide_eq_true h6) (decide_eq_true h7)
end
end Go.Proofs.YtaoinkjjmakhaaaGreatDoor
namespace Go.Proofs.YtaoinkjjmakhaaaGreatDoor
open Go.RowKit
set_option maxRecDepth 20000
structure Em (B : Nat) (W : World) (gG gT gP : Bool) (own : Nat -> Prop) (pg m1 m2 mt mp : Nat) : Prop where
 g : gG = true -> (∃ sv, GAt W own pg sv m1 m2 [0] (fun _ => none) 0) /\ ∀ y, own y -> B <= y /\ y < W.heap.size
 t : gT = true -> MapT W mt 0 (fun _ => none) /\ B <= mt
 p : gP = true -> MapP W mp 0 (fun _ => none) /\ B <= mp
 gt : gG = true -> gT = true -> ¬ own mt
 gp : gG = true -> gP = true -> ¬ own mp
 tp : gT = true -> gP = true -> mt ≠ mp
section
variable {B : Nat} {W W' : World} {gG gT gP : Bool} {own : Nat -> Prop} {pg m1 m2 mt mp : Nat}
theorem Em.start (B : Nat) (W : World) : Em B W false false false (fun _ => False) 0 0 0 0 0 := ⟨(fun h => by cases h), (fun h => by cases h), (fun h => by cases h), (fun h => by cases h), (fun h => by cases h), (fun h => by cases h)⟩
theorem Em.below (h : Em B W gG gT gP own pg m1 m2 mt mp) (hb : Below W.heap.size W W') : Em B W' gG gT gP own pg m1 m2 mt mp :=
 { h with
  g := fun e => by obtain ⟨⟨sv, g⟩, hd⟩ := h.g e; exact ⟨⟨sv, g.below hb⟩, fun y hy => ⟨(hd y hy).1, Nat.lt_of_lt_of_le (hd y hy).2 hb.size⟩⟩
  t := fun e => ⟨(h.t e).1.below hb, (h.t e).2⟩
  p := fun e => ⟨(h.p e).1.below hb, (h.p e).2⟩ }
theorem Em.G {own' : Nat -> Prop} {n1 n2 : Nat} (h : Em B W false gT gP own pg m1 m2 mt mp) (hB : B <= W.heap.size) (hb : Below W.heap.size W W') (ho : ∀ y, own' y -> W.heap.size <= y) (hG : GGo W own' W.heap.size n1 n2 [0] (fun _ => none) 0 W') : ∃ own2, Em B W' true gT gP own2 W.heap.size n1 n2 mt mp := by
 obtain ⟨hf, own2, sv, h1, hd, I⟩ := hG
 have H := h.below hb
 have lo : ∀ y, own2 y -> W.heap.size <= y := fun y hy => by rcases h1 y hy with h | h; exact ho y h; exact h
 exact ⟨own2, { H with
  g := fun _ => ⟨⟨sv, I⟩, fun y hy => ⟨Nat.le_trans hB (lo y hy), hd y hy⟩⟩
  gt := fun _ e hy => by have := (h.t e).1.lt; have := lo _ hy; omega
  gp := fun _ e hy => by have := (h.p e).1.lt; have := lo _ hy; omega }⟩
theorem Em.T (h : Em B W gG false gP own pg m1 m2 mt mp) (hB : B <= W.heap.size) : Em B (W.alloc (.map #[] 0)) gG true gP own pg m1 m2 W.heap.size mp :=
 have H := h.below ((Below.refl _ _).alloc (Nat.le_refl _) (.map #[] 0))
 { H with
  t := fun _ => ⟨MapE.made _ _ _ _ _ W, hB⟩
  gt := fun e _ hy => by have := ((h.g e).2 _ hy).2; exact Nat.lt_irrefl _ this
  tp := fun _ e hy => by have := (h.p e).1.lt; omega }
theorem Em.P (h : Em B W gG gT false own pg m1 m2 mt mp) (hB : B <= W.heap.size) : Em B (W.alloc (.map #[] 0)) gG gT true own pg m1 m2 mt W.heap.size :=
 have H := h.below ((Below.refl _ _).alloc (Nat.le_refl _) (.map #[] 0))
 { H with
  p := fun _ => ⟨MapE.made _ _ _ _ _ W, hB⟩
  gp := fun e _ hy => by have := ((h.g e).2 _ hy).2; exact Nat.lt_irrefl _ this
  tp := fun e _ hy => by have := (h.t e).1.lt; omega }
end
def ks0 (s : NS) : Ks := ⟨s, [0], fun _ => none, fun _ => none⟩
structure Fx.Of (x : Fx) (lg pg en gn : Int) (n : Nat) (ks : List Kd) : Prop where
 lg : x.lg = lg
 ps : x.ps = pg
 en : x.en = en
 gn : x.gn = gn
 n : x.n = n
 ks : x.ks = ks
section
variable (lg pg en gn : Int) (A : Option Addr) (n cap : Nat) (ks : List Kd) (w : World)
open Classical in
theorem Em.core {N : Nat} {W0 W : World} {own ownI : Nat -> Prop} {pgr m1 m2 mt mp pi : Nat} {gv av fv : Value} {s : NS} {lg pg en gn : Int} {A : Option Addr} {n cap : Nat} {ks : List Kd} (h : Em W0.heap.size W true true true own pgr m1 m2 mt mp) (hb : Below W0.heap.size W0 W) (hN : N <= W0.heap.size)
  (hk : KRd W0 A n ks) (hA : ∀ b o, A = some ⟨b, o, none⟩ -> N <= b /\ b < W0.heap.size /\ ¬ ownI b) (hI : IAt W0 ownI pi gv av fv s) (hId : ∀ y, ownI y -> N <= y /\ y < W0.heap.size) :
  ∃ x gr, x.p = W.heap.size /\ x.Of lg pg en gn n ks /\ CoJ 0 (W.alloc (.cells #[.int .i64 lg, .int .i64 pg, .int .i64 en, .int .i64 gn, .slice A n cap, .pointer (some ⟨pi, 0, none⟩), .pointer (some ⟨pgr, 0, none⟩), .map (some mt), .map (some mp)] 82)) N gr x (ks0 s) 0 (fun _ => 0) := by
 obtain ⟨⟨sv, hg⟩, hgd⟩ := h.g rfl
 obtain ⟨ht, htB⟩ := h.t rfl
 obtain ⟨hp, hpB⟩ := h.p rfl
 have gt := h.gt rfl rfl
 have gp := h.gp rfl rfl
 have tp := h.tp rfl rfl
 have htl := ht.lt
 have hpl := hp.lt
 have hs := hb.size
 have hal := (Below.refl W.heap.size W).alloc (Nat.le_refl _) (.cells #[.int .i64 lg, .int .i64 pg, .int .i64 en, .int .i64 gn, .slice A n cap, .pointer (some ⟨pi, 0, none⟩), .pointer (some ⟨pgr, 0, none⟩), .map (some mt), .map (some mp)] 82)
 refine ⟨⟨W.heap.size, pi, pgr, m1, m2, mt, mp, lg, pg, en, gn, A, n, cap, ks⟩, fun y => if y = W.heap.size then 1 else if y = mt then 2 else if y = mp then 3 else if ownI y then 4 else if own y then 5 else if ∃ o, A = some ⟨y, o, none⟩ then 7 else 0, rfl, ⟨rfl, rfl, rfl, rfl, rfl, rfl⟩, ?_⟩
 have e4 : ∀ y, ownI y -> (if y = W.heap.size then 1 else if y = mt then 2 else if y = mp then 3 else if ownI y then 4 else if own y then 5 else if ∃ o, A = some ⟨y, o, none⟩ then 7 else 0) = 4 := fun y hy => by
  have := (hId y hy).2
  rw [if_neg (by omega), if_neg (by omega), if_neg (by omega), if_pos hy]
 have e5 : ∀ y, own y -> (if y = W.heap.size then 1 else if y = mt then 2 else if y = mp then 3 else if ownI y then 4 else if own y then 5 else if ∃ o, A = some ⟨y, o, none⟩ then 7 else 0) = 5 := fun y hy => by
  have h1 := hgd y hy
  rw [if_neg (by omega), if_neg (fun e => by rw [e] at hy; exact gt hy), if_neg (fun e => by rw [e] at hy; exact gp hy), if_neg (fun hi => by have := (hId y hi).2; omega), if_pos hy]
 exact {
  blk := Rec.new W _ _
  kd := (hk.own_below (Nat.le_refl _) hb).below hal
  kA := fun b o e => by
   have e : A = some ⟨b, o, none⟩ := e
   obtain ⟨h1, h2, h3⟩ := hA b o e
   show (if b = W.heap.size then 1 else if b = mt then 2 else if b = mp then 3 else if ownI b then 4 else if own b then 5 else if ∃ o, A = some ⟨b, o, none⟩ then 7 else 0) = 7
   rw [if_neg (by omega), if_neg (by omega), if_neg (by omega), if_neg h3, if_neg (fun ho => by have := (hgd b ho).1; omega), if_pos ⟨o, e⟩]
  ids := fun _ => ⟨gv, av, fv, ((hI.below hb).below hal).mono (fun y hy => e4 y hy)⟩
  gph := fun _ => by
   have g2 := hg.below hal
   exact ⟨sv, _, 0, Nat.le_refl _, { g2 with ownp := e5 _ g2.ownp, own1 := e5 _ g2.own1, own2 := e5 _ g2.own2, ownv := fun y hy => e5 y (g2.ownv y hy) }⟩
  mpt := fun _ => ⟨0, Nat.le_refl _, ht.below hal⟩
  mpp := fun _ => ⟨0, Nat.le_refl _, hp.below hal⟩
  tab := fun i t _ ht => by cases ht
  gp := if_pos rfl
  gt := by show (if mt = W.heap.size then 1 else if mt = mt then 2 else _) = 2; rw [if_neg (by omega), if_pos rfl]
  gm := by show (if mp = W.heap.size then 1 else if mp = mt then 2 else if mp = mp then 3 else _) = 3; rw [if_neg (by omega), if_neg (fun e => tp e.symm), if_pos rfl]
  dom := fun y hy => by
   rw [World.size_alloc]
   refine Classical.byContradiction fun hn => hy ?_
   show (if y = W.heap.size then 1 else if y = mt then 2 else if y = mp then 3 else if ownI y then 4 else if own y then 5 else if ∃ o, A = some ⟨y, o, none⟩ then 7 else 0) = 0
   rw [if_neg (by omega), if_neg (by omega), if_neg (by omega), if_neg (fun hi => by have := (hId y hi).2; omega), if_neg (fun hi => by have := (hgd y hi).2; omega), if_neg (fun ⟨o, e⟩ => by have := (hA y o e).2.1; omega)]
  lo := fun y hy => by
   refine Classical.byContradiction fun hn => hy ?_
   show (if y = W.heap.size then 1 else if y = mt then 2 else if y = mp then 3 else if ownI y then 4 else if own y then 5 else if ∃ o, A = some ⟨y, o, none⟩ then 7 else 0) = 0
   rw [if_neg (by omega), if_neg (by omega), if_neg (by omega), if_neg (fun hi => by have := (hId y hi).1; omega), if_neg (fun hi => by have := (hgd y hi).1; omega), if_neg (fun ⟨o, e⟩ => by have := (hA y o e).1; omega)] }
def EmSaid (N : Nat) (lg pg en gn : Int) (n : Nat) (ks : List Kd) (s : NS) (w : World) (e : Ending) (w' : World) : Prop := ∃ x gr, e = .returned (.pointer (some ⟨x.p, 0, none⟩)) /\ x.Of lg pg en gn n ks /\ CoJ 0 w' N gr x (ks0 s) 0 (fun _ => 0) /\ Below w.heap.size w w'
theorem empty_any {N : Nat} {ownI : Nat -> Prop} {pi : Nat} {gv av fv : Value} {s : NS} (hN : N <= w.heap.size) (hk : KRd w A n ks) (hA : ∀ b o, A = some ⟨b, o, none⟩ -> N <= b /\ b < w.heap.size /\ ¬ ownI b) (hI : IAt w ownI pi gv av fv s) (hId : ∀ y, ownI y -> N <= y /\ y < w.heap.size) :
  Calls Tryz.prog 27 #[cv lg pg en gn A n cap, .pointer (some ⟨pi, 0, none⟩)] w (EmSaid N lg pg en gn n ks s w) := by
 obtain ⟨w1, hw1⟩ : ∃ w1, w1 = w.alloc (.cells (cc lg pg en gn A n cap) 24) := ⟨_, rfl⟩
 have hb1 : Below w.heap.size w w1 := by rw [hw1]; exact (Below.refl _ _).alloc (Nat.le_refl _) _
 have r1 : Rec 24 w1 w.heap.size (cc lg pg en gn A n cap) := by rw [hw1]; exact Rec.new w _ _
 have KS : Hid (∀ W, Below w1.heap.size w1 W -> W.cell? ⟨w.heap.size, 0, none⟩ = some (.int .i64 lg) /\ W.cell? ⟨w.heap.size, 1, none⟩ = some (.int .i64 pg) /\ W.cell? ⟨w.heap.size, 2, none⟩ = some (.int .i64 en) /\ W.cell? ⟨w.heap.size, 3, none⟩ = some (.int .i64 gn) /\ W.cell? ⟨w.heap.size, 4, none⟩ = some (.slice A n cap)) := hi_ (fun W hb => by
  have r2 := r1.under hb
  exact ⟨r2.at_ 0, r2.at_ 1, r2.at_ 2, r2.at_ 3, r2.at_ 4⟩)
 have HE : Hid (∀ W own pgr m1 m2 mt mp, Em w1.heap.size W true true true own pgr m1 m2 mt mp -> Below w1.heap.size w1 W -> EmSaid N lg pg en gn n ks s w (.returned (.pointer (some ⟨W.heap.size, 0, none⟩))) (W.alloc (.cells #[.int .i64 lg, .int .i64 pg, .int .i64 en, .int .i64 gn, .slice A n cap, .pointer (some ⟨pi, 0, none⟩), .pointer (some ⟨pgr, 0, none⟩), .map (some mt), .map (some mp)] 82))) := hi_ (fun W own pgr m1 m2 mt mp hE hb => by
  obtain ⟨x, gr, hp, hx, hC⟩ := hE.core (lg := lg) (pg := pg) (en := en) (gn := gn) (cap := cap) hb (Nat.le_trans hN hb1.size) (hk.below hb1) (fun b o e => ⟨(hA b o e).1, Nat.lt_of_lt_of_le (hA b o e).2.1 hb1.size, (hA b o e).2.2⟩) (hI.below hb1) (fun y hy => ⟨(hId y hy).1, Nat.lt_of_lt_of_le (hId y hy).2 hb1.size⟩)
  exact ⟨x, gr, by rw [hp], hx, hC, (hb1.trans (hb.mono hb1.size)).alloc (Nat.le_trans hb1.size hb.size) _⟩)
 have s0 := KS.out w1.drew (Below.refl _ _).drew
 have E0 := hi_ (Em.start w1.heap.size w1.drew)
 have B0 := hi_ (show Below w1.heap.size w1 w1.drew from (Below.refl _ _).drew)
 have hmm := @run_makeMap Tryz.prog
 clear hk hA hI hId hb1 r1 hN
 go_enter Tryz.func27, Tryz.ntmps27
 go_upto_region 1 with (rw [<- hw1]; clear hw1)
 refine wp_region_noPanic ?_
 refine wp_region_held_drew (S := fun W => W.cell? ⟨w.heap.size, 0, none⟩ = some (.int .i64 lg) /\ W.cell? ⟨w.heap.size, 1, none⟩ = some (.int .i64 pg) /\ W.cell? ⟨w.heap.size, 2, none⟩ = some (.int .i64 en) /\ W.cell? ⟨w.heap.size, 3, none⟩ = some (.int .i64 gn) /\ W.cell? ⟨w.heap.size, 4, none⟩ = some (.slice A n cap)) (by kernel_rfl) s0 (fun hHeld => ?_)
 refine tk_ 0 ⟨some 5, .load 24 (.tmp 2), 24, "ecs.go:201", #[], none⟩ hHeld ?_
 simp only [Act.put, sA_, sB_, sC_]
 refine tk_ 1 ⟨some 6, .move (.tmp 1), 72, "ecs.go:201", #[], none⟩ hHeld ?_
 simp only [Act.put, sA_, sB_, sC_]
 refine wpAnyH_ready (rs := [2, 3, 4]) (by kernel_rfl) (by simp) ?_
 refine AllReadyH.cons (o := ⟨some 7, .call { callee := .value (.func 76), args := #[], argTypes := #[] }, 78, "ecs.go:201", #[], none⟩) rfl (fun K' hK => ?_) (AllReadyH.cons (o := ⟨some 8, .makeMap 79 none, 79, "ecs.go:201", #[], none⟩) rfl (fun K' hK => ?_) (AllReadyH.cons (o := ⟨some 9, .makeMap 80 none, 80, "ecs.go:201", #[], none⟩) rfl (fun K' hK => ?_) AllReadyH.nil))
 ·go_simp
  go_at_call 76; refine (GNew_any w1.drew).mono ?_; rintro e wG ⟨rfl, owG, n1G, n2G, ho, hb, hG⟩
  obtain ⟨ozG, em⟩ := E0.out.G B0.out.size hb ho hG
  have E0G := hi_ em
  have B0G := hi_ (B0.out.trans (hb.mono B0.out.size))
  have s0G := KS.out wG B0G.out
  clear ho hb hG em
  refine hK.out _ _ s0G (fun hHeld => ?_)
  clear hK K'
  try simp only [Act.put, sA_, sB_, sC_]
  refine wpAnyH_ready (rs := [3, 4]) (by kernel_rfl) (by simp) ?_
  refine AllReadyH.cons (o := ⟨some 8, .makeMap 79 none, 79, "ecs.go:201", #[], none⟩) rfl (fun K' hK => ?_) (AllReadyH.cons (o := ⟨some 9, .makeMap 80 none, 80, "ecs.go:201", #[], none⟩) rfl (fun K' hK => ?_) AllReadyH.nil)
  ·go_simp
   obtain ⟨wGT, hwGT⟩ : ∃ W, W = wG.alloc (.map #[] 0) := ⟨_, rfl⟩
   rw [<- hwGT]
   have E0GT := hi_ (show Em w1.heap.size wGT _ _ _ _ _ _ _ _ _ by rw [hwGT]; exact E0G.out.T B0G.out.size)
   have B0GT := hi_ (show Below w1.heap.size w1 wGT by rw [hwGT]; exact B0G.out.alloc B0G.out.size _)
   have s0GT := KS.out wGT B0GT.out
   clear hwGT
   refine hK.out _ _ s0GT (fun hHeld => ?_)
   clear hK K'
   try simp only [Act.put, sA_, sB_, sC_]
   refine wpAnyH_ready (rs := [4]) (by kernel_rfl) (by simp) ?_
   refine AllReadyH.cons (o := ⟨some 9, .makeMap 80 none, 80, "ecs.go:201", #[], none⟩) rfl (fun K' hK => ?_) AllReadyH.nil
   go_simp
   obtain ⟨wGTP, hwGTP⟩ : ∃ W, W = wGT.alloc (.map #[] 0) := ⟨_, rfl⟩
   rw [<- hwGTP]
   have E0GTP := hi_ (show Em w1.heap.size wGTP _ _ _ _ _ _ _ _ _ by rw [hwGTP]; exact E0GT.out.P B0GT.out.size)
   have B0GTP := hi_ (show Below w1.heap.size w1 wGTP by rw [hwGTP]; exact B0GT.out.alloc B0GT.out.size _)
   have s0GTP := KS.out wGTP B0GTP.out
   clear hwGTP
   refine hK.out _ _ s0GTP (fun hHeld => ?_)
   clear hK K'
   try simp only [Act.put, sA_, sB_, sC_]
   refine tk_ 5 ⟨some 10, .build 82 #[(0, .tmp 5), (1, .tmp 6), (2, .tmp 7), (3, .tmp 8), (4, .tmp 9)], 82, "ecs.go:201", #[⟨0, .data⟩, ⟨1, .data⟩, ⟨2, .data⟩, ⟨3, .data⟩, ⟨4, .data⟩], none⟩ hHeld ?_
   simp only [Act.put, sA_, sB_, sC_]
   refine wpAnyH_ready (rs := [6]) (by kernel_rfl) (by simp) ?_
   refine AllReadyH.cons (o := ⟨some 11, .box 82 (.tmp 10), 29, "ecs.go:201", #[⟨5, .data⟩], none⟩) rfl (fun K' hK => ?_) AllReadyH.nil
   go_simp
   have SX := hi_ (HE.out wGTP _ _ _ _ _ _ E0GTP.out B0GTP.out)
   have s0GTPX := KS.out (wGTP.alloc (.cells #[.int .i64 lg, .int .i64 pg, .int .i64 en, .int .i64 gn, .slice A n cap, .pointer (some ⟨pi, 0, none⟩), .pointer (some ⟨w1.heap.size, 0, none⟩), .map (some wG.heap.size), .map (some wGT.heap.size)] 82)) (B0GTP.out.alloc B0GTP.out.size _)
   refine hK.out _ _ s0GTPX (fun hHeld => ?_)
   clear hK K'
   try simp only [Act.put, sA_, sB_, sC_]
   refine tk_ 7 ⟨some 4, .assign (.tmp 11), 29, "ecs.go:201", #[⟨6, .data⟩, ⟨2, .chain⟩, ⟨0, .phase⟩, ⟨1, .phase⟩, ⟨2, .phase⟩, ⟨3, .phase⟩, ⟨4, .phase⟩, ⟨5, .phase⟩, ⟨6, .phase⟩], none⟩ hHeld ?_
   simp only [Act.put, sA_, sB_, sC_]
   refine wpAnyH_done (by kernel_rfl) ?_ _
   refine NoPanic.normal ?_
   clear hHeld s0 s0G s0GT s0GTP s0GTPX
   go_wp2
   go_ret
   exact SX.out
  ·go_simp
   obtain ⟨wGP, hwGP⟩ : ∃ W, W = wG.alloc (.map #[] 0) := ⟨_, rfl⟩
   rw [<- hwGP]
   have E0GP := hi_ (show Em w1.heap.size wGP _ _ _ _ _ _ _ _ _ by rw [hwGP]; exact E0G.out.P B0G.out.size)
   have B0GP := hi_ (show Below w1.heap.size w1 wGP by rw [hwGP]; exact B0G.out.alloc B0G.out.size _)
   have s0GP := KS.out wGP B0GP.out
   clear hwGP
   refine hK.out _ _ s0GP (fun hHeld => ?_)
   clear hK K'
   try simp only [Act.put, sA_, sB_, sC_]
   refine wpAnyH_ready (rs := [3]) (by kernel_rfl) (by simp) ?_
   refine AllReadyH.cons (o := ⟨some 8, .makeMap 79 none, 79, "ecs.go:201", #[], none⟩) rfl (fun K' hK => ?_) AllReadyH.nil
   go_simp
   obtain ⟨wGPT, hwGPT⟩ : ∃ W, W = wGP.alloc (.map #[] 0) := ⟨_, rfl⟩
   rw [<- hwGPT]
   have E0GPT := hi_ (show Em w1.heap.size wGPT _ _ _ _ _ _ _ _ _ by rw [hwGPT]; exact E0GP.out.T B0GP.out.size)
   have B0GPT := hi_ (show Below w1.heap.size w1 wGPT by rw [hwGPT]; exact B0GP.out.alloc B0GP.out.size _)
   have s0GPT := KS.out wGPT B0GPT.out
   clear hwGPT
   refine hK.out _ _ s0GPT (fun hHeld => ?_)
   clear hK K'
   try simp only [Act.put, sA_, sB_, sC_]
   refine tk_ 5 ⟨some 10, .build 82 #[(0, .tmp 5), (1, .tmp 6), (2, .tmp 7), (3, .tmp 8), (4, .tmp 9)], 82, "ecs.go:201", #[⟨0, .data⟩, ⟨1, .data⟩, ⟨2, .data⟩, ⟨3, .data⟩, ⟨4, .data⟩], none⟩ hHeld ?_
   simp only [Act.put, sA_, sB_, sC_]
   refine wpAnyH_ready (rs := [6]) (by kernel_rfl) (by simp) ?_
   refine AllReadyH.cons (o := ⟨some 11, .box 82 (.tmp 10), 29, "ecs.go:201", #[⟨5, .data⟩], none⟩) rfl (fun K' hK => ?_) AllReadyH.nil
   go_simp
   have SX := hi_ (HE.out wGPT _ _ _ _ _ _ E0GPT.out B0GPT.out)
   have s0GPTX := KS.out (wGPT.alloc (.cells #[.int .i64 lg, .int .i64 pg, .int .i64 en, .int .i64 gn, .slice A n cap, .pointer (some ⟨pi, 0, none⟩), .pointer (some ⟨w1.heap.size, 0, none⟩), .map (some wGP.heap.size), .map (some wG.heap.size)] 82)) (B0GPT.out.alloc B0GPT.out.size _)
   refine hK.out _ _ s0GPTX (fun hHeld => ?_)
   clear hK K'
   try simp only [Act.put, sA_, sB_, sC_]
   refine tk_ 7 ⟨some 4, .assign (.tmp 11), 29, "ecs.go:201", #[⟨6, .data⟩, ⟨2, .chain⟩, ⟨0, .phase⟩, ⟨1, .phase⟩, ⟨2, .phase⟩, ⟨3, .phase⟩, ⟨4, .phase⟩, ⟨5, .phase⟩, ⟨6, .phase⟩], none⟩ hHeld ?_
   simp only [Act.put, sA_, sB_, sC_]
   refine wpAnyH_done (by kernel_rfl) ?_ _
   refine NoPanic.normal ?_
   clear hHeld s0 s0G s0GP s0GPT s0GPTX
   go_wp2
   go_ret
   exact SX.out
 ·go_simp
  obtain ⟨wT, hwT⟩ : ∃ W, W = (w1.alloc (.map #[] 0)).drew := ⟨_, rfl⟩
  rw [<- hwT]
  have E0T := hi_ (show Em w1.heap.size wT _ _ _ _ _ _ _ _ _ by rw [hwT]; exact E0.out.T B0.out.size)
  have B0T := hi_ (show Below w1.heap.size w1 wT by rw [hwT]; exact B0.out.alloc B0.out.size _)
  have s0T := KS.out wT B0T.out
  clear hwT
  refine hK.out _ _ s0T (fun hHeld => ?_)
  clear hK K'
  try simp only [Act.put, sA_, sB_, sC_]
  refine wpAnyH_ready (rs := [2, 4]) (by kernel_rfl) (by simp) ?_
  refine AllReadyH.cons (o := ⟨some 7, .call { callee := .value (.func 76), args := #[], argTypes := #[] }, 78, "ecs.go:201", #[], none⟩) rfl (fun K' hK => ?_) (AllReadyH.cons (o := ⟨some 9, .makeMap 80 none, 80, "ecs.go:201", #[], none⟩) rfl (fun K' hK => ?_) AllReadyH.nil)
  ·go_simp
   go_at_call 76; refine (GNew_any wT).mono ?_; rintro e wTG ⟨rfl, owTG, n1TG, n2TG, ho, hb, hG⟩
   obtain ⟨ozTG, em⟩ := E0T.out.G B0T.out.size hb ho hG
   have E0TG := hi_ em
   have B0TG := hi_ (B0T.out.trans (hb.mono B0T.out.size))
   have s0TG := KS.out wTG B0TG.out
   clear ho hb hG em
   refine hK.out _ _ s0TG (fun hHeld => ?_)
   clear hK K'
   try simp only [Act.put, sA_, sB_, sC_]
   refine wpAnyH_ready (rs := [4]) (by kernel_rfl) (by simp) ?_
   refine AllReadyH.cons (o := ⟨some 9, .makeMap 80 none, 80, "ecs.go:201", #[], none⟩) rfl (fun K' hK => ?_) AllReadyH.nil
   go_simp
   obtain ⟨wTGP, hwTGP⟩ : ∃ W, W = wTG.alloc (.map #[] 0) := ⟨_, rfl⟩
   rw [<- hwTGP]
   have E0TGP := hi_ (show Em w1.heap.size wTGP _ _ _ _ _ _ _ _ _ by rw [hwTGP]; exact E0TG.out.P B0TG.out.size)
   have B0TGP := hi_ (show Below w1.heap.size w1 wTGP by rw [hwTGP]; exact B0TG.out.alloc B0TG.out.size _)
   have s0TGP := KS.out wTGP B0TGP.out
   clear hwTGP
   refine hK.out _ _ s0TGP (fun hHeld => ?_)
   clear hK K'
   try simp only [Act.put, sA_, sB_, sC_]
   refine tk_ 5 ⟨some 10, .build 82 #[(0, .tmp 5), (1, .tmp 6), (2, .tmp 7), (3, .tmp 8), (4, .tmp 9)], 82, "ecs.go:201", #[⟨0, .data⟩, ⟨1, .data⟩, ⟨2, .data⟩, ⟨3, .data⟩, ⟨4, .data⟩], none⟩ hHeld ?_
   simp only [Act.put, sA_, sB_, sC_]
   refine wpAnyH_ready (rs := [6]) (by kernel_rfl) (by simp) ?_
   refine AllReadyH.cons (o := ⟨some 11, .box 82 (.tmp 10), 29, "ecs.go:201", #[⟨5, .data⟩], none⟩) rfl (fun K' hK => ?_) AllReadyH.nil
   go_simp
   have SX := hi_ (HE.out wTGP _ _ _ _ _ _ E0TGP.out B0TGP.out)
   have s0TGPX := KS.out (wTGP.alloc (.cells #[.int .i64 lg, .int .i64 pg, .int .i64 en, .int .i64 gn, .slice A n cap, .pointer (some ⟨pi, 0, none⟩), .pointer (some ⟨wT.heap.size, 0, none⟩), .map (some w1.heap.size), .map (some wTG.heap.size)] 82)) (B0TGP.out.alloc B0TGP.out.size _)
   refine hK.out _ _ s0TGPX (fun hHeld => ?_)
   clear hK K'
   try simp only [Act.put, sA_, sB_, sC_]
   refine tk_ 7 ⟨some 4, .assign (.tmp 11), 29, "ecs.go:201", #[⟨6, .data⟩, ⟨2, .chain⟩, ⟨0, .phase⟩, ⟨1, .phase⟩, ⟨2, .phase⟩, ⟨3, .phase⟩, ⟨4, .phase⟩, ⟨5, .phase⟩, ⟨6, .phase⟩], none⟩ hHeld ?_
   simp only [Act.put, sA_, sB_, sC_]
   refine wpAnyH_done (by kernel_rfl) ?_ _
   refine NoPanic.normal ?_
   clear hHeld s0 s0T s0TG s0TGP s0TGPX
   go_wp2
   go_ret
   exact SX.out
  ·go_simp
   obtain ⟨wTP, hwTP⟩ : ∃ W, W = wT.alloc (.map #[] 0) := ⟨_, rfl⟩
   rw [<- hwTP]
   have E0TP := hi_ (show Em w1.heap.size wTP _ _ _ _ _ _ _ _ _ by rw [hwTP]; exact E0T.out.P B0T.out.size)
   have B0TP := hi_ (show Below w1.heap.size w1 wTP by rw [hwTP]; exact B0T.out.alloc B0T.out.size _)
   have s0TP := KS.out wTP B0TP.out
   clear hwTP
   refine hK.out _ _ s0TP (fun hHeld => ?_)
   clear hK K'
   try simp only [Act.put, sA_, sB_, sC_]
   refine wpAnyH_ready (rs := [2]) (by kernel_rfl) (by simp) ?_
   refine AllReadyH.cons (o := ⟨some 7, .call { callee := .value (.func 76), args := #[], argTypes := #[] }, 78, "ecs.go:201", #[], none⟩) rfl (fun K' hK => ?_) AllReadyH.nil
   go_simp
   go_at_call 76; refine (GNew_any wTP).mono ?_; rintro e wTPG ⟨rfl, owTPG, n1TPG, n2TPG, ho, hb, hG⟩
   obtain ⟨ozTPG, em⟩ := E0TP.out.G B0TP.out.size hb ho hG
   have E0TPG := hi_ em
   have B0TPG := hi_ (B0TP.out.trans (hb.mono B0TP.out.size))
   have s0TPG := KS.out wTPG B0TPG.out
   clear ho hb hG em
   refine hK.out _ _ s0TPG (fun hHeld => ?_)
   clear hK K'
   try simp only [Act.put, sA_, sB_, sC_]
   refine tk_ 5 ⟨some 10, .build 82 #[(0, .tmp 5), (1, .tmp 6), (2, .tmp 7), (3, .tmp 8), (4, .tmp 9)], 82, "ecs.go:201", #[⟨0, .data⟩, ⟨1, .data⟩, ⟨2, .data⟩, ⟨3, .data⟩, ⟨4, .data⟩], none⟩ hHeld ?_
   simp only [Act.put, sA_, sB_, sC_]
   refine wpAnyH_ready (rs := [6]) (by kernel_rfl) (by simp) ?_
   refine AllReadyH.cons (o := ⟨some 11, .box 82 (.tmp 10), 29, "ecs.go:201", #[⟨5, .data⟩], none⟩) rfl (fun K' hK => ?_) AllReadyH.nil
   go_simp
   have SX := hi_ (HE.out wTPG _ _ _ _ _ _ E0TPG.out B0TPG.out)
   have s0TPGX := KS.out (wTPG.alloc (.cells #[.int .i64 lg, .int .i64 pg, .int .i64 en, .int .i64 gn, .slice A n cap, .pointer (some ⟨pi, 0, none⟩), .pointer (some ⟨wTP.heap.size, 0, none⟩), .map (some w1.heap.size), .map (some wT.heap.size)] 82)) (B0TPG.out.alloc B0TPG.out.size _)
   refine hK.out _ _ s0TPGX (fun hHeld => ?_)
   clear hK K'
   try simp only [Act.put, sA_, sB_, sC_]
   refine tk_ 7 ⟨some 4, .assign (.tmp 11), 29, "ecs.go:201", #[⟨6, .data⟩, ⟨2, .chain⟩, ⟨0, .phase⟩, ⟨1, .phase⟩, ⟨2, .phase⟩, ⟨3, .phase⟩, ⟨4, .phase⟩, ⟨5, .phase⟩, ⟨6, .phase⟩], none⟩ hHeld ?_
   simp only [Act.put, sA_, sB_, sC_]
   refine wpAnyH_done (by kernel_rfl) ?_ _
   refine NoPanic.normal ?_
   clear hHeld s0 s0T s0TP s0TPG s0TPGX
   go_wp2
   go_ret
   exact SX.out
 ·go_simp
  obtain ⟨wP, hwP⟩ : ∃ W, W = (w1.alloc (.map #[] 0)).drew := ⟨_, rfl⟩
  rw [<- hwP]
  have E0P := hi_ (show Em w1.heap.size wP _ _ _ _ _ _ _ _ _ by rw [hwP]; exact E0.out.P B0.out.size)
  have B0P := hi_ (show Below w1.heap.size w1 wP by rw [hwP]; exact B0.out.alloc B0.out.size _)
  have s0P := KS.out wP B0P.out
  clear hwP
  refine hK.out _ _ s0P (fun hHeld => ?_)
  clear hK K'
  try simp only [Act.put, sA_, sB_, sC_]
  refine wpAnyH_ready (rs := [2, 3]) (by kernel_rfl) (by simp) ?_
  refine AllReadyH.cons (o := ⟨some 7, .call { callee := .value (.func 76), args := #[], argTypes := #[] }, 78, "ecs.go:201", #[], none⟩) rfl (fun K' hK => ?_) (AllReadyH.cons (o := ⟨some 8, .makeMap 79 none, 79, "ecs.go:201", #[], none⟩) rfl (fun K' hK => ?_) AllReadyH.nil)
  ·go_simp
   go_at_call 76; refine (GNew_any wP).mono ?_; rintro e wPG ⟨rfl, owPG, n1PG, n2PG, ho, hb, hG⟩
   obtain ⟨ozPG, em⟩ := E0P.out.G B0P.out.size hb ho hG
   have E0PG := hi_ em
   have B0PG := hi_ (B0P.out.trans (hb.mono B0P.out.size))
   have s0PG := KS.out wPG B0PG.out
   clear ho hb hG em
   refine hK.out _ _ s0PG (fun hHeld => ?_)
   clear hK K'
   try simp only [Act.put, sA_, sB_, sC_]
   refine wpAnyH_ready (rs := [3]) (by kernel_rfl) (by simp) ?_
   refine AllReadyH.cons (o := ⟨some 8, .makeMap 79 none, 79, "ecs.go:201", #[], none⟩) rfl (fun K' hK => ?_) AllReadyH.nil
   go_simp
   obtain ⟨wPGT, hwPGT⟩ : ∃ W, W = wPG.alloc (.map #[] 0) := ⟨_, rfl⟩
   rw [<- hwPGT]
   have E0PGT := hi_ (show Em w1.heap.size wPGT _ _ _ _ _ _ _ _ _ by rw [hwPGT]; exact E0PG.out.T B0PG.out.size)
   have B0PGT := hi_ (show Below w1.heap.size w1 wPGT by rw [hwPGT]; exact B0PG.out.alloc B0PG.out.size _)
   have s0PGT := KS.out wPGT B0PGT.out
   clear hwPGT
   refine hK.out _ _ s0PGT (fun hHeld => ?_)
   clear hK K'
   try simp only [Act.put, sA_, sB_, sC_]
   refine tk_ 5 ⟨some 10, .build 82 #[(0, .tmp 5), (1, .tmp 6), (2, .tmp 7), (3, .tmp 8), (4, .tmp 9)], 82, "ecs.go:201", #[⟨0, .data⟩, ⟨1, .data⟩, ⟨2, .data⟩, ⟨3, .data⟩, ⟨4, .data⟩], none⟩ hHeld ?_
   simp only [Act.put, sA_, sB_, sC_]
   refine wpAnyH_ready (rs := [6]) (by kernel_rfl) (by simp) ?_
   refine AllReadyH.cons (o := ⟨some 11, .box 82 (.tmp 10), 29, "ecs.go:201", #[⟨5, .data⟩], none⟩) rfl (fun K' hK => ?_) AllReadyH.nil
   go_simp
   have SX := hi_ (HE.out wPGT _ _ _ _ _ _ E0PGT.out B0PGT.out)
   have s0PGTX := KS.out (wPGT.alloc (.cells #[.int .i64 lg, .int .i64 pg, .int .i64 en, .int .i64 gn, .slice A n cap, .pointer (some ⟨pi, 0, none⟩), .pointer (some ⟨wP.heap.size, 0, none⟩), .map (some wPG.heap.size), .map (some w1.heap.size)] 82)) (B0PGT.out.alloc B0PGT.out.size _)
   refine hK.out _ _ s0PGTX (fun hHeld => ?_)
   clear hK K'
   try simp only [Act.put, sA_, sB_, sC_]
   refine tk_ 7 ⟨some 4, .assign (.tmp 11), 29, "ecs.go:201", #[⟨6, .data⟩, ⟨2, .chain⟩, ⟨0, .phase⟩, ⟨1, .phase⟩, ⟨2, .phase⟩, ⟨3, .phase⟩, ⟨4, .phase⟩, ⟨5, .phase⟩, ⟨6, .phase⟩], none⟩ hHeld ?_
   simp only [Act.put, sA_, sB_, sC_]
   refine wpAnyH_done (by kernel_rfl) ?_ _
   refine NoPanic.normal ?_
   clear hHeld s0 s0P s0PG s0PGT s0PGTX
   go_wp2
   go_ret
   exact SX.out
  ·go_simp
   obtain ⟨wPT, hwPT⟩ : ∃ W, W = wP.alloc (.map #[] 0) := ⟨_, rfl⟩
   rw [<- hwPT]
   have E0PT := hi_ (show Em w1.heap.size wPT _ _ _ _ _ _ _ _ _ by rw [hwPT]; exact E0P.out.T B0P.out.size)
   have B0PT := hi_ (show Below w1.heap.size w1 wPT by rw [hwPT]; exact B0P.out.alloc B0P.out.size _)
   have s0PT := KS.out wPT B0PT.out
   clear hwPT
   refine hK.out _ _ s0PT (fun hHeld => ?_)
   clear hK K'
   try simp only [Act.put, sA_, sB_, sC_]
   refine wpAnyH_ready (rs := [2]) (by kernel_rfl) (by simp) ?_
   refine AllReadyH.cons (o := ⟨some 7, .call { callee := .value (.func 76), args := #[], argTypes := #[] }, 78, "ecs.go:201", #[], none⟩) rfl (fun K' hK => ?_) AllReadyH.nil
   go_simp
   go_at_call 76; refine (GNew_any wPT).mono ?_; rintro e wPTG ⟨rfl, owPTG, n1PTG, n2PTG, ho, hb, hG⟩
   obtain ⟨ozPTG, em⟩ := E0PT.out.G B0PT.out.size hb ho hG
   have E0PTG := hi_ em
   have B0PTG := hi_ (B0PT.out.trans (hb.mono B0PT.out.size))
   have s0PTG := KS.out wPTG B0PTG.out
   clear ho hb hG em
   refine hK.out _ _ s0PTG (fun hHeld => ?_)
   clear hK K'
   try simp only [Act.put, sA_, sB_, sC_]
   refine tk_ 5 ⟨some 10, .build 82 #[(0, .tmp 5), (1, .tmp 6), (2, .tmp 7), (3, .tmp 8), (4, .tmp 9)], 82, "ecs.go:201", #[⟨0, .data⟩, ⟨1, .data⟩, ⟨2, .data⟩, ⟨3, .data⟩, ⟨4, .data⟩], none⟩ hHeld ?_
   simp only [Act.put, sA_, sB_, sC_]
   refine wpAnyH_ready (rs := [6]) (by kernel_rfl) (by simp) ?_
   refine AllReadyH.cons (o := ⟨some 11, .box 82 (.tmp 10), 29, "ecs.go:201", #[⟨5, .data⟩], none⟩) rfl (fun K' hK => ?_) AllReadyH.nil
   go_simp
   have SX := hi_ (HE.out wPTG _ _ _ _ _ _ E0PTG.out B0PTG.out)
   have s0PTGX := KS.out (wPTG.alloc (.cells #[.int .i64 lg, .int .i64 pg, .int .i64 en, .int .i64 gn, .slice A n cap, .pointer (some ⟨pi, 0, none⟩), .pointer (some ⟨wPT.heap.size, 0, none⟩), .map (some wP.heap.size), .map (some w1.heap.size)] 82)) (B0PTG.out.alloc B0PTG.out.size _)
   refine hK.out _ _ s0PTGX (fun hHeld => ?_)
   clear hK K'
   try simp only [Act.put, sA_, sB_, sC_]
   refine tk_ 7 ⟨some 4, .assign (.tmp 11), 29, "ecs.go:201", #[⟨6, .data⟩, ⟨2, .chain⟩, ⟨0, .phase⟩, ⟨1, .phase⟩, ⟨2, .phase⟩, ⟨3, .phase⟩, ⟨4, .phase⟩, ⟨5, .phase⟩, ⟨6, .phase⟩], none⟩ hHeld ?_
   simp only [Act.put, sA_, sB_, sC_]
   refine wpAnyH_done (by kernel_rfl) ?_ _
   refine NoPanic.normal ?_
   clear hHeld s0 s0P s0PT s0PTG s0PTGX
   go_wp2
   go_ret
   exact SX.out
theorem enew_yes (h : KRd w A n ks) (hn : n <= 1000000) (hL : Lens ks) (hR : (Cf.mk lg pg en gn ks).Right) :
  Calls Tryz.prog 9 #[cv lg pg en gn A n cap] w (EmSaid w.heap.size lg pg en gn n ks (NS.new en gn) w) := by
 obtain ⟨w1, hw1⟩ : ∃ w1, w1 = w.alloc (.cells (cc lg pg en gn A n cap) 24) := ⟨_, rfl⟩
 have hb1 : Below w.heap.size w w1 := by rw [hw1]; exact (Below.refl _ _).alloc (Nat.le_refl _) _
 have r1 : Rec 24 w1 w.heap.size (cc lg pg en gn A n cap) := by rw [hw1]; exact Rec.new w _ _
 have CC := Check_any lg pg en gn A n cap ks w1 (h.below hb1) hn hL
 rw [if_pos hR] at CC
 have CC := hi_ CC
 have KS : Hid (∀ W, Below w1.heap.size w1 W -> W.cell? ⟨w.heap.size, 0, none⟩ = some (.int .i64 lg) /\ W.cell? ⟨w.heap.size, 1, none⟩ = some (.int .i64 pg) /\ W.cell? ⟨w.heap.size, 2, none⟩ = some (.int .i64 en) /\ W.cell? ⟨w.heap.size, 3, none⟩ = some (.int .i64 gn) /\ W.cell? ⟨w.heap.size, 4, none⟩ = some (.slice A n cap)) := hi_ (fun W hb => by
  have r2 := r1.under hb
  exact ⟨r2.at_ 0, r2.at_ 1, r2.at_ 2, r2.at_ 3, r2.at_ 4⟩)
 have CO : Hid (∀ W, Below w1.heap.size w1 W -> Calls Tryz.prog 28 #[cv lg pg en gn A n cap] W fun e w' => ∃ A' c', e = .returned (cv lg pg en gn A' n c') /\ KRd w' A' n ks /\ (∀ b o, A' = some ⟨b, o, none⟩ -> W.heap.size <= b /\ b < w'.heap.size) /\ Below W.heap.size W w') := hi_ (fun W hb => own_any lg pg en gn A n cap ks W ((h.below hb1).below hb) hn)
 have k0 := r1.at_ 0
 have k1 := r1.at_ 1
 have k2 := r1.at_ 2
 have k3 := r1.at_ 3
 have k4 := r1.at_ 4
 have HB := hi_ hb1
 clear h hb1 r1 hR
 go_enter Tryz.func9, Tryz.ntmps9
 go_upto_region 3 with (first
  | (rw [<- hw1]; clear hw1)
  | (go_at_call 26; refine CC.out.mono ?_; rintro e w2 ⟨rfl, hb2⟩; have HB2 := hi_ hb2; clear hb2 k0 k1 k2 k3 k4))
 have s2 := KS.out w2.drew (HB2.out.drew)
 refine wp_region_noPanic ?_
 refine wp_region_held_drew (S := fun W => W.cell? ⟨w.heap.size, 0, none⟩ = some (.int .i64 lg) /\ W.cell? ⟨w.heap.size, 1, none⟩ = some (.int .i64 pg) /\ W.cell? ⟨w.heap.size, 2, none⟩ = some (.int .i64 en) /\ W.cell? ⟨w.heap.size, 3, none⟩ = some (.int .i64 gn) /\ W.cell? ⟨w.heap.size, 4, none⟩ = some (.slice A n cap)) (by kernel_rfl) s2 (fun hHeld => ?_)
 refine tk_ 0 ⟨some 6, .load 24 (.tmp 1), 24, "ecs.go:47", #[], none⟩ hHeld ?_
 simp only [Act.put, sA_, sB_, sC_]
 refine tk_ 2 ⟨some 8, .fieldAddr 24 (.tmp 1) 2, 0, "ecs.go:47", #[], none⟩ hHeld ?_
 simp only [Act.put, sA_, sB_, sC_]
 refine tk_ 3 ⟨some 9, .load 3 (.tmp 8), 3, "ecs.go:47", #[⟨2, .data⟩], none⟩ hHeld ?_
 simp only [Act.put, sA_, sB_, sC_]
 refine tk_ 4 ⟨some 10, .fieldAddr 24 (.tmp 1) 3, 0, "ecs.go:47", #[], none⟩ hHeld ?_
 simp only [Act.put, sA_, sB_, sC_]
 refine tk_ 5 ⟨some 11, .load 3 (.tmp 10), 3, "ecs.go:47", #[⟨4, .data⟩], none⟩ hHeld ?_
 simp only [Act.put, sA_, sB_, sC_]
 refine wpAnyH_ready (rs := [1]) (by kernel_rfl) (by simp) ?_
 refine AllReadyH.cons (o := ⟨some 7, .call { callee := .value (.func 28), args := #[.tmp 6], argTypes := #[24] }, 24, "ecs.go:47", #[⟨0, .data⟩], none⟩) rfl (fun K' hK => ?_) AllReadyH.nil
 go_simp
 go_at_call 28; refine (CO.out w2.drew HB2.out.drew).mono ?_; rintro e w3 ⟨A', c', rfl, hk3, ha3, hb3⟩
 have HB3 := hi_ (HB2.out.trans ((show Below w2.heap.size w2 w3 from (Below.refl _ _).drew.trans hb3).mono HB2.out.size))
 have HS3 := hi_ (show w2.heap.size <= w3.heap.size from hb3.size)
 have s3 := KS.out w3 HB3.out
 have HK3 := hi_ (And.intro hk3 ha3)
 clear hk3 ha3 hb3
 refine hK.out _ _ s3 (fun hHeld => ?_)
 clear hK K'
 try simp only [Act.put, sA_, sB_, sC_]
 refine wpAnyH_ready (rs := [6]) (by kernel_rfl) (by simp) ?_
 refine AllReadyH.cons (o := ⟨some 12, .call { callee := .value (.func 29), args := #[.tmp 9, .tmp 11], argTypes := #[3, 3] }, 72, "ecs.go:47", #[⟨3, .data⟩, ⟨5, .data⟩, ⟨1, .chain⟩], none⟩) rfl (fun K' hK => ?_) AllReadyH.nil
 go_simp
 go_at_call 29; refine (INew_any en gn w3).mono ?_; rintro e w4 ⟨rfl, hb4, hlt4, I4⟩
 have HB4 := hi_ (HB3.out.trans (hb4.mono HB3.out.size))
 have s4 := KS.out w4 HB4.out
 have HI4 := hi_ (And.intro I4 (And.intro hb4 hlt4))
 clear hb4 hlt4 I4
 refine hK.out _ _ s4 (fun hHeld => ?_)
 clear hK K'
 try simp only [Act.put, sA_, sB_, sC_]
 refine wpAnyH_ready (rs := [7]) (by kernel_rfl) (by simp) ?_
 refine AllReadyH.cons (o := ⟨some 13, .call { callee := .value (.func 27), args := #[.tmp 7, .tmp 12], argTypes := #[24, 72] }, 29, "ecs.go:47", #[⟨1, .data⟩, ⟨6, .data⟩, ⟨6, .chain⟩], none⟩) rfl (fun K' hK => ?_) AllReadyH.nil
 go_simp
 have CE : Hid (Calls Tryz.prog 27 #[cv lg pg en gn A' n c', .pointer (some ⟨w3.heap.size, 0, none⟩)] w4 (EmSaid w.heap.size lg pg en gn n ks (NS.new en gn) w4)) := hi_ (by
  have hs1 := HB.out.size
  have hs2 := HB2.out.size
  have hs3 := HS3.out
  have hs4 := HI4.out.2.1.size
  have hlt := HI4.out.2.2
  exact empty_any lg pg en gn A' n c' ks w4 (by omega) (HK3.out.1.below HI4.out.2.1) (fun b o e => by have := HK3.out.2 b o e; have h1 : w2.heap.size <= b := this.1; exact ⟨by omega, by omega, fun e' => by have e' : b = w3.heap.size := e'; omega⟩) HI4.out.1 (fun y hy => by have e' : y = w3.heap.size := hy; exact ⟨by omega, by omega⟩))
 go_at_call 27; refine CE.out.mono ?_; rintro e w5 ⟨x, gr, rfl, hx, hC, hb5⟩
 have HB5 := hi_ (HB4.out.trans (hb5.mono HB4.out.size))
 have s5 := KS.out w5 HB5.out
 have HC := hi_ (And.intro hx hC)
 clear hx hC hb5
 refine hK.out _ _ s5 (fun hHeld => ?_)
 clear hK K'
 try simp only [Act.put]
 refine tk_ 8 ⟨some 2, .assign (.tmp 13), 29, "ecs.go:47", #[⟨7, .data⟩, ⟨7, .chain⟩, ⟨0, .phase⟩, ⟨1, .phase⟩, ⟨2, .phase⟩, ⟨3, .phase⟩, ⟨4, .phase⟩, ⟨5, .phase⟩, ⟨6, .phase⟩, ⟨7, .phase⟩], none⟩ hHeld ?_
 simp only [Act.put, sA_, sB_, sC_]
 refine wpAnyH_done (by kernel_rfl) ?_ _
 refine NoPanic.normal ?_
 clear hHeld s2 s3 s4 s5
 go_wp2
 go_ret
 exact ⟨x, gr, rfl, HC.out.1, HC.out.2, HB.out.trans (HB5.out.mono HB.out.size)⟩
end
end Go.Proofs.YtaoinkjjmakhaaaGreatDoor
