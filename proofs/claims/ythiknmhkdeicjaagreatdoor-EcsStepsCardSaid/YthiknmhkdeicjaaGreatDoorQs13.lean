/- Cm2, Cm3, Cm4 -/
import Derived.Test.YthiknmhkdeicjaaGreatDoorQs1
import Derived.Test.YthiknmhkdeicjaaGreatDoorQs4
import Derived.Test.YthiknmhkdeicjaaGreatDoorQs12
import Derived.Deep.LoopGhost
namespace Go.Proofs.YthiknmhkdeicjaaGreatDoor
open Go.RowKit
theorem bytes_at (s : ByteArray) (j : Nat) (h : j < s.size) : s.data.toList.take (j + 1) = s.data.toList.take j ++ [s[j]] := by
  have hl : j < s.data.toList.length := by simpa using h
  rw [List.take_succ_eq_append_getElem hl]
  rfl
theorem allP (s : ByteArray) (j : Nat) (h : j < s.size) : (s.data.toList.take (j + 1)).all plainN = ((s.data.toList.take j).all plainN && plainN s[j]) := by
  rw [bytes_at s j h, List.all_append]
  simp
theorem all_of_take (s : ByteArray) (j : Nat) (h : (s.data.toList.take j).all plainN = false) : s.data.toList.all plainN = false := by
  rw [List.all_eq_false] at h ⊢
  obtain ⟨x, hx, hp⟩ := h
  exact ⟨x, List.mem_of_mem_take hx, hp⟩
theorem CName_any (s : ByteArray) (w : World) (hs : s.size <= 9223372036854775807) :
    Calls Tryz.prog 140 #[.string s] w fun e w' => e = .returned (.bool (nameB s)) /\ w = w' := by
  by_cases h : 1 <= s.size /\ s.size <= 16
  · have hd : decide ((1 : Int) <= (s.size : Int) /\ (s.size : Int) <= 16) = true := by simp; omega
    have hn : nameB s = s.data.toList.all plainN := by simp [nameB, h]
    have HN := hi_ hn
    have HD := hi_ hd
    clear hn hd
    go_enter Tryz.func140, Tryz.ntmps140
    go_wp2_with (go_at_call 83; refine (within_any _ _ _ _).mono ?_; rintro e w' ⟨rfl, rfl⟩; rw [HD.out])
    go_loop [10, 3] (fun i _ => ∃ j : Nat, j <= s.size /\ i = .int .i64 j /\ (s.data.toList.take j).all plainN = true) (fun i _ => s.size - (intOf i).toNat)
    case atStart => exact ⟨0, Nat.zero_le _, rfl, rfl⟩
    case round =>
      obtain ⟨j, hj, rfl, hall⟩ := hrel
      by_cases hlt : j < s.size
      · have hp := allP s j hlt
        rw [hall, Bool.true_and] at hp
        have HA := hi_ hall
        clear hall
        cases hpl : plainN s[j]
        · rw [hpl] at hp
          have HP := hi_ (all_of_take s _ hp)
          have HL := hi_ hpl
          clear hp hpl
          go_wp2_with (go_at_call 171; refine (plain_any s[j] _).mono ?_; rintro e w' ⟨rfl, rfl⟩; rw [HL.out])
          go_ret
          exact ⟨ret_bool (by rw [HN.out, HP.out]), rfl⟩
        · rw [hpl] at hp
          have HP := hi_ hp
          have HL := hi_ hpl
          clear hp hpl
          go_wp2_with (go_at_call 171; refine (plain_any s[j] _).mono ?_; rintro e w' ⟨rfl, rfl⟩; rw [HL.out])
          go_round
          case rel => exact ⟨j + 1, hlt, by go_num, HP.out⟩
          case measure => simp [intOf]; omega
      · go_wp2
        go_ret
        refine ⟨ret_bool ?_, rfl⟩
        rw [HN.out, <- hall, List.take_of_length_le (by simp; omega)]
  · have hd : decide ((1 : Int) <= (s.size : Int) /\ (s.size : Int) <= 16) = false := by simp; omega
    have hn : nameB s = false := by simp [nameB]; omega
    rw [hn]
    clear hn h
    go_enter Tryz.func140, Tryz.ntmps140
    go_wp2_with (go_at_call 83; refine (within_any _ _ _ _).mono ?_; rintro e w' ⟨rfl, rfl⟩; rw [hd])
    go_ret
    exact ⟨rfl, rfl⟩
theorem RName_any (s : ByteArray) (w : World) (hs : s.size <= 9223372036854775807) :
    Calls Tryz.prog 36 #[.string s] w fun e w' => e = .returned (.bool (nameB s)) /\ ∃ n, w' = w.drewN n := by
  go_enter Tryz.func36, Tryz.ntmps36
  go_wp2
  go_loopw [3] (fun i wr => ∃ j n : Nat, j <= s.size /\ i = .int .i64 j /\ (s.data.toList.take j).all plainN = true /\ wr = w.drewN n) (fun i _ => s.size - (intOf i).toNat)
  case atStart => exact ⟨0, 0, Nat.zero_le _, rfl, rfl, rfl⟩
  case round =>
    obtain ⟨j, n, hj, rfl, hall, rfl⟩ := hrel
    by_cases hlt : j < s.size
    · have hp := allP s j hlt
      rw [hall, Bool.true_and] at hp
      have HA := hi_ hall
      clear hall
      have hlt' : (j : Int) < (s.size : Int) := by omega
      have hpl : plainN s[j] = (decide (97 <= s[j].toNat /\ s[j].toNat <= 122) || decide (48 <= s[j].toNat /\ s[j].toNat <= 57) || decide (s[j].toNat = 95)) := rfl
      by_cases h1 : (97 : Int) <= (s[j].toNat : Int) <;> by_cases h2 : (s[j].toNat : Int) <= 122 <;> by_cases h3 : (48 : Int) <= (s[j].toNat : Int) <;> by_cases h4 : (s[j].toNat : Int) <= 57 <;> by_cases h5 : (s[j].toNat : Int) = 95 <;> first
      | (exfalso; omega)
      | (have hv : plainN s[j] = true := by rw [hpl]; simp; omega
         (first | have e1 : decide ((97 : Int) <= (s[j].toNat : Int)) = true := decide_eq_true h1 | (have e1 : decide ((97 : Int) <= (s[j].toNat : Int)) = false := decide_eq_false h1; clear h1))
         (first | have e2 : decide ((s[j].toNat : Int) <= 122) = true := decide_eq_true h2 | (have e2 : decide ((s[j].toNat : Int) <= 122) = false := decide_eq_false h2; clear h2))
         (first | have e3 : decide ((48 : Int) <= (s[j].toNat : Int)) = true := decide_eq_true h3 | (have e3 : decide ((48 : Int) <= (s[j].toNat : Int)) = false := decide_eq_false h3; clear h3))
         (first | have e4 : decide ((s[j].toNat : Int) <= 57) = true := decide_eq_true h4 | (have e4 : decide ((s[j].toNat : Int) <= 57) = false := decide_eq_false h4; clear h4))
         (first | have e5 : decide ((s[j].toNat : Int) = 95) = true := decide_eq_true h5 | (have e5 : decide ((s[j].toNat : Int) = 95) = false := decide_eq_false h5; have g5 : ((s[j].toNat : Int) != 95) = true := bne_iff_ne.2 h5; clear h5))
         rw [hv] at hp
         have HP := hi_ hp
         clear hp hpl hv
         go_wp2
         go_quiet (fail)
         go_wp2
         go_roundw
         case rel => exact ⟨j + 1, _, hlt, by go_num, HP.out, rfl⟩
         case measure => simp [intOf]; omega)
      | (have hv : plainN s[j] = false := by rw [hpl]; simp; omega
         (first | have e1 : decide ((97 : Int) <= (s[j].toNat : Int)) = true := decide_eq_true h1 | (have e1 : decide ((97 : Int) <= (s[j].toNat : Int)) = false := decide_eq_false h1; clear h1))
         (first | have e2 : decide ((s[j].toNat : Int) <= 122) = true := decide_eq_true h2 | (have e2 : decide ((s[j].toNat : Int) <= 122) = false := decide_eq_false h2; clear h2))
         (first | have e3 : decide ((48 : Int) <= (s[j].toNat : Int)) = true := decide_eq_true h3 | (have e3 : decide ((48 : Int) <= (s[j].toNat : Int)) = false := decide_eq_false h3; clear h3))
         (first | have e4 : decide ((s[j].toNat : Int) <= 57) = true := decide_eq_true h4 | (have e4 : decide ((s[j].toNat : Int) <= 57) = false := decide_eq_false h4; clear h4))
         (first | have e5 : decide ((s[j].toNat : Int) = 95) = true := decide_eq_true h5 | (have e5 : decide ((s[j].toNat : Int) = 95) = false := decide_eq_false h5; have g5 : ((s[j].toNat : Int) != 95) = true := bne_iff_ne.2 h5; clear h5))
         rw [hv] at hp
         have HP := hi_ (all_of_take s _ hp)
         clear hp hpl hv
         go_wp2
         go_quiet (fail)
         go_wp2
         go_ret
         exact ⟨ret_bool (by simp [nameB, HP.out]), _, rfl⟩)
    · have hn : nameB s = decide (1 <= s.size /\ s.size <= 16) := by
        rw [List.take_of_length_le (by simp; omega)] at hall
        simp [nameB, hall]
      have HN := hi_ hn
      clear hn hall
      by_cases h1 : 1 <= s.size
      · have e1 : decide ((1 : Int) <= (s.size : Int)) = true := by simp; omega
        go_wp2
        go_ret
        exact ⟨ret_bool (by rw [HN.out, Bool.eq_iff_iff]; simp <;> omega), _, rfl⟩
      · have e1 : decide ((1 : Int) <= (s.size : Int)) = false := by simp; omega
        go_wp2
        go_ret
        exact ⟨ret_bool (by rw [HN.out, Bool.eq_iff_iff]; simp <;> omega), _, rfl⟩
end Go.Proofs.YthiknmhkdeicjaaGreatDoor
namespace Go.Proofs.YthiknmhkdeicjaaGreatDoor
open Go.RowKit
theorem named_any (A : Option Addr) (n c : Nat) (ks : List Kd) (w : World) (h : KRd w A n ks) (hn : n <= 1000000) (hs : Lens ks) :
  Calls Tryz.prog 84 #[.slice A n c] w fun e w' => e = .returned (.bool (decide (Named ks))) /\ Below w.heap.size w w' := by
 have H := hi_ h
 have HS := hi_ hs
 clear h hs
 go_enter Tryz.func84, Tryz.ntmps84
 go_wp2
 go_loopw [7] (fun i wr => ∃ j : Nat, j <= n /\ i = .int .i64 j /\ Named (ks.take j) /\ Below w.heap.size w wr) (fun i _ => n - (intOf i).toNat)
 case atStart => exact ⟨0, Nat.zero_le _, rfl, Named.nil, Below.refl _ _⟩
 case round =>
  obtain ⟨j, hj, rfl, hall, hb⟩ := hrel
  by_cases hlt : j < n
  ·obtain ⟨b, o, s, z, rfl, _, k0, k1, hl, hk⟩ := (H.out.below hb).at_ hlt
   have hsn := named_snoc hl
   have hsz := HS.out.at_ hl hk
   rw [hk] at hsn
   have HA := hi_ hall
   have HB := hi_ hb
   have HSN := hi_ hsn
   clear hall hb hsn hk
   go_wp2_with (go_at_call 140; refine (CName_any s _ hsz).mono ?_; rintro e w' ⟨rfl, rfl⟩)
   ·go_ret
    refine ⟨ret_bool (decide_eq_false fun hN => ?_).symm, HB.out.alloc HB.out.size _⟩
    have := (HSN.out.1 (named_take hN _)).2
    simp_all
   ·go_roundw
    case rel => exact ⟨j + 1, hlt, by go_num, HSN.out.2 ⟨HA.out, by simp_all⟩, HB.out.alloc HB.out.size _⟩
    case measure => simp [intOf]; omega
  ·go_wp2
   go_ret
   refine ⟨ret_bool (decide_eq_true ?_).symm, hb⟩
   rwa [List.take_of_length_le (by rw [H.out.1]; omega)] at hall
theorem sized_any (A : Option Addr) (n c : Nat) (ks : List Kd) (w : World) (h : KRd w A n ks) (hn : n <= 1000000) :
  Calls Tryz.prog 86 #[.slice A n c] w fun e w' => e = .returned (.bool (decide (Sized ks))) /\ Below w.heap.size w w' := by
 have H := hi_ h
 clear h
 go_enter Tryz.func86, Tryz.ntmps86
 go_wp2
 go_loopw [7] (fun i wr => ∃ j : Nat, j <= n /\ i = .int .i64 j /\ Sized (ks.take j) /\ Below w.heap.size w wr) (fun i _ => n - (intOf i).toNat)
 case atStart => exact ⟨0, Nat.zero_le _, rfl, Sized.nil, Below.refl _ _⟩
 case round =>
  obtain ⟨j, hj, rfl, hall, hb⟩ := hrel
  by_cases hlt : j < n
  ·obtain ⟨b, o, s, z, rfl, _, k0, k1, hl, hk⟩ := (H.out.below hb).at_ hlt
   have hsn := sized_snoc hl
   rw [hk] at hsn
   have HA := hi_ hall
   have HB := hi_ hb
   have HSN := hi_ hsn
   clear hall hb hsn hk
   by_cases hz : 0 <= z /\ z <= 64
   ·have hd := decide_eq_true hz
    have HZ := hi_ hz
    clear hz
    go_wp2_with (go_at_call 83; refine (within_any _ _ _ _).mono ?_; rintro e w' ⟨rfl, rfl⟩; rw [hd])
    go_roundw
    case rel => exact ⟨j + 1, hlt, by go_num, HSN.out.2 ⟨HA.out, HZ.out⟩, HB.out.alloc HB.out.size _⟩
    case measure => simp [intOf]; omega
   ·have hd : decide (0 <= z /\ z <= 64) = false := decide_eq_false hz
    have HZ := hi_ hz
    clear hz
    go_wp2_with (go_at_call 83; refine (within_any _ _ _ _).mono ?_; rintro e w' ⟨rfl, rfl⟩; rw [hd])
    go_ret
    exact ⟨ret_bool (decide_eq_false fun hN => HZ.out (HSN.out.1 (sized_take hN _)).2).symm, HB.out.alloc HB.out.size _⟩
  ·go_wp2
   go_ret
   refine ⟨ret_bool (decide_eq_true ?_).symm, hb⟩
   rwa [List.take_of_length_le (by rw [H.out.1]; omega)] at hall
theorem toList_inj {a b : ByteArray} : (a.toList == b.toList) = decide (a = b) := by
 rw [Bool.eq_iff_iff, beq_iff_eq, decide_eq_true_eq, ByteArray.toList_eq, ByteArray.toList_eq]
 refine ⟨fun h => ?_, fun h => by rw [h]⟩
 exact ByteArray.ext (Array.ext' h)
theorem apart_any (A : Option Addr) (n c : Nat) (ks : List Kd) (w : World) (h : KRd w A n ks) (hn : n <= 1000000) :
  Calls Tryz.prog 85 #[.slice A n c] w fun e w' => e = .returned (.bool (decide (Apart ks))) /\ Below w.heap.size w w' := by
 have H := hi_ h
 clear h
 go_enter Tryz.func85, Tryz.ntmps85
 go_wp2
 go_step3
 go_wp2
 go_step3
 go_wp2
 go_loopg [9] n (fun g i wr => ∃ j : Nat, j + g = n /\ i = .int .i64 j /\ Apart (ks.take j) /\ Below w.heap.size w wr)
 case atStart => exact ⟨0, by omega, rfl, Apart.nil, Below.refl _ _⟩
 case round =>
  obtain ⟨j, hj, rfl, hall, hb⟩ := hrel
  cases gk with
  | zero =>
   have hjz : ¬ ((j : Int) < (n : Int)) := by omega
   go_wp2
   try rw [Exit.noGoto_ret]
   go_ret
   refine ⟨ret_bool (decide_eq_true ?_).symm, hb⟩
   rwa [List.take_of_length_le (by rw [H.out.1]; omega)] at hall
  | succ g =>
   have hjz : (j : Int) < (n : Int) := by omega
   obtain ⟨b, o, s, z, rfl, _, k0, k1, hl, hk⟩ := (H.out.below hb).at_ (show j < n by omega)
   have hsn := apart_snoc hl
   rw [hk] at hsn
   have HA := hi_ hall
   have HB := hi_ hb
   have HSN := hi_ hsn
   clear hall hb hsn hk
   go_wp2
   obtain ⟨p, hp⟩ : ∃ p, p = wr.heap.size := ⟨_, rfl⟩
   obtain ⟨w1, hw1⟩ : ∃ w1, w1 = wr.alloc (.cells #[.string s, .int .i64 z] 70) := ⟨_, rfl⟩
   have hB1 : Below w.heap.size w w1 := by rw [hw1]; exact HB.out.alloc HB.out.size _
   have q0 : w1.cell? ⟨p, 0, none⟩ = some (.string s) := by rw [hw1, hp]; simp
   have hlt1 : p < w1.heap.size := by rw [hw1, hp]; simp
   rw [<- hw1, <- hp]
   clear hw1 hp
   have HB1 := hi_ hB1
   clear hB1
   go_loopg [16] (n - 1) (fun g2 i2 wy => ∃ m : Nat, m + g2 = n - 1 /\ m <= j /\ i2 = .int .i64 m /\ First ks s m /\ Below w1.heap.size w1 wy)
   case atStart => exact ⟨0, by omega, Nat.zero_le _, rfl, First.zero _ _, Below.refl _ _⟩
   case round =>
    obtain ⟨m, hmg, hmj, rfl, hf, hb2⟩ := hrel
    have hmn : (m : Int) < (n : Int) := by omega
    have Q0 : wr.cell? ⟨p, 0, none⟩ = some (.string s) := (hb2.cell (p := ⟨p, 0, none⟩) hlt1).trans q0
    have hB2 := HB1.out.trans (hb2.mono HB1.out.size)
    obtain ⟨b', o', s', z', hA', _, k0', k1', hl', hk'⟩ := (H.out.below hB2).at_ (show m < n by omega)
    obtain ⟨rfl, rfl⟩ : b = b' /\ o = o' := by simpa using hA'
    have hsn' := First.succ (s := s) hl'
    rw [hk'] at hsn'
    have Q1 : (wr.alloc (.cells #[.string s', .int .i64 z'] 70)).cell? ⟨p, 0, none⟩ = some (.string s) := (((Below.refl wr.heap.size wr).alloc (Nat.le_refl _) _).cell (p := ⟨p, 0, none⟩) (by have := hb2.size; simp; omega)).trans Q0
    have HB2 := hi_ hB2
    have Hb2 := hi_ hb2
    have HF := hi_ hf
    have HSN' := hi_ hsn'
    clear hB2 hb2 hf hsn' hA' hk'
    by_cases hmj' : m = j
    ·subst hmj'
     go_wp2
     go_roundg g
     case measure => omega
     case rel => exact ⟨m + 1, by omega, by go_num, HSN.out.2 ⟨HA.out, HF.out⟩, HB2.out.alloc HB2.out.size _⟩
    ·have hne : ((m : Int) == (j : Int)) = false := by simp; omega
     by_cases hss : s' = s
     ·subst hss
      go_wp2
      go_ret
      exact ⟨ret_bool (decide_eq_false fun hN => (by
       have h1 := (HSN.out.1 (apart_take hN _)).2
       have h2 : First ks s' (m + 1) := fun k hk => h1 k ((List.take_subset_take_left ks (show m + 1 <= j by omega)) hk)
       exact (HSN'.out.1 h2).2 rfl)).symm, HB2.out.alloc HB2.out.size _⟩
     ·have hbe : (s'.toList == s.toList) = false := by rw [toList_inj]; exact decide_eq_false hss
      cases gk with
      | zero => omega
      | succ g2 =>
       have HSS := hi_ hss
       clear hss
       go_wp2
       go_roundg g2
       case measure => omega
       case rel => exact ⟨m + 1, by omega, by omega, by go_num, HSN'.out.2 ⟨HF.out, HSS.out⟩, Hb2.out.alloc Hb2.out.size _⟩
end Go.Proofs.YthiknmhkdeicjaaGreatDoor
namespace Go.Proofs.YthiknmhkdeicjaaGreatDoor
open Go.RowKit
set_option linter.unusedVariables false
section
variable (lg pg en gn : Int) (A : Option Addr) (n cap : Nat) (ks : List Kd) (w : World)
theorem Check_0 (h : KRd w A n ks) (hn : n <= 1000000) (hs : Lens ks) (d0 : decide (2 <= lg /\ lg <= 1024) = false) :
  Calls Tryz.prog 31 #[cv lg pg en gn A n cap] w fun e w' => e = .returned (.int .i64 1) /\ Below w.heap.size w w' := by
 obtain ⟨w1, hw1⟩ : ∃ w1, w1 = w.alloc (.cells (cc lg pg en gn A n cap) 24) := ⟨_, rfl⟩
 have C1 := CAt.new h lg pg en gn cap
 rw [<- hw1] at C1
 obtain ⟨g, hg⟩ : ∃ g, g = w.heap.size := ⟨_, rfl⟩
 rw [<- hg] at C1
 have HG := hi_ hg
 clear h hg
 have c0 := C1.c0
 have c1 := C1.c1
 have c2 := C1.c2
 have c3 := C1.c3
 have c4 := C1.c4
 have K1 := hi_ C1
 clear C1
 go_enter Tryz.func31, Tryz.ntmps31
 go_wp2_with (first
  | (rw [<- hw1, <- HG.out]; clear hw1)
  | (go_at_call 83; refine (within_any _ _ _ _).mono ?_; rintro e w' ⟨rfl, rfl⟩; (first | rw [d0])))
 go_ret
 exact ⟨rfl, K1.out.bel⟩
theorem Check_1 (h : KRd w A n ks) (hn : n <= 1000000) (hs : Lens ks) (d0 : decide (2 <= lg /\ lg <= 1024) = true) (d1 : decide (4 <= pg /\ pg <= 1024) = false) :
  Calls Tryz.prog 31 #[cv lg pg en gn A n cap] w fun e w' => e = .returned (.int .i64 1) /\ Below w.heap.size w w' := by
 obtain ⟨w1, hw1⟩ : ∃ w1, w1 = w.alloc (.cells (cc lg pg en gn A n cap) 24) := ⟨_, rfl⟩
 have C1 := CAt.new h lg pg en gn cap
 rw [<- hw1] at C1
 obtain ⟨g, hg⟩ : ∃ g, g = w.heap.size := ⟨_, rfl⟩
 rw [<- hg] at C1
 have HG := hi_ hg
 clear h hg
 have c0 := C1.c0
 have c1 := C1.c1
 have c2 := C1.c2
 have c3 := C1.c3
 have c4 := C1.c4
 have K1 := hi_ C1
 clear C1
 go_enter Tryz.func31, Tryz.ntmps31
 go_wp2_with (first
  | (rw [<- hw1, <- HG.out]; clear hw1)
  | (go_at_call 83; refine (within_any _ _ _ _).mono ?_; rintro e w' ⟨rfl, rfl⟩; (first | rw [d0] | rw [d1])))
 go_ret
 exact ⟨rfl, K1.out.bel⟩
theorem Check_2 (h : KRd w A n ks) (hn : n <= 1000000) (hs : Lens ks) (d0 : decide (2 <= lg /\ lg <= 1024) = true) (d1 : decide (4 <= pg /\ pg <= 1024) = true) (d2 : decide (1 <= en /\ en <= 1024) = false) :
  Calls Tryz.prog 31 #[cv lg pg en gn A n cap] w fun e w' => e = .returned (.int .i64 1) /\ Below w.heap.size w w' := by
 obtain ⟨w1, hw1⟩ : ∃ w1, w1 = w.alloc (.cells (cc lg pg en gn A n cap) 24) := ⟨_, rfl⟩
 have C1 := CAt.new h lg pg en gn cap
 rw [<- hw1] at C1
 obtain ⟨g, hg⟩ : ∃ g, g = w.heap.size := ⟨_, rfl⟩
 rw [<- hg] at C1
 have HG := hi_ hg
 clear h hg
 have c0 := C1.c0
 have c1 := C1.c1
 have c2 := C1.c2
 have c3 := C1.c3
 have c4 := C1.c4
 have K1 := hi_ C1
 clear C1
 go_enter Tryz.func31, Tryz.ntmps31
 go_wp2_with (first
  | (rw [<- hw1, <- HG.out]; clear hw1)
  | (go_at_call 83; refine (within_any _ _ _ _).mono ?_; rintro e w' ⟨rfl, rfl⟩; (first | rw [d0] | rw [d1] | rw [d2])))
 go_ret
 exact ⟨rfl, K1.out.bel⟩
theorem Check_3 (h : KRd w A n ks) (hn : n <= 1000000) (hs : Lens ks) (d0 : decide (2 <= lg /\ lg <= 1024) = true) (d1 : decide (4 <= pg /\ pg <= 1024) = true) (d2 : decide (1 <= en /\ en <= 1024) = true) (d3 : decide (1 <= gn /\ gn <= 1073741824) = false) :
  Calls Tryz.prog 31 #[cv lg pg en gn A n cap] w fun e w' => e = .returned (.int .i64 1) /\ Below w.heap.size w w' := by
 obtain ⟨w1, hw1⟩ : ∃ w1, w1 = w.alloc (.cells (cc lg pg en gn A n cap) 24) := ⟨_, rfl⟩
 have C1 := CAt.new h lg pg en gn cap
 rw [<- hw1] at C1
 obtain ⟨g, hg⟩ : ∃ g, g = w.heap.size := ⟨_, rfl⟩
 rw [<- hg] at C1
 have HG := hi_ hg
 clear h hg
 have c0 := C1.c0
 have c1 := C1.c1
 have c2 := C1.c2
 have c3 := C1.c3
 have c4 := C1.c4
 have K1 := hi_ C1
 clear C1
 go_enter Tryz.func31, Tryz.ntmps31
 go_wp2_with (first
  | (rw [<- hw1, <- HG.out]; clear hw1)
  | (go_at_call 83; refine (within_any _ _ _ _).mono ?_; rintro e w' ⟨rfl, rfl⟩; (first | rw [d0] | rw [d1] | rw [d2] | rw [d3])))
 go_ret
 exact ⟨rfl, K1.out.bel⟩
theorem Check_4 (h : KRd w A n ks) (hn : n <= 1000000) (hs : Lens ks) (d0 : decide (2 <= lg /\ lg <= 1024) = true) (d1 : decide (4 <= pg /\ pg <= 1024) = true) (d2 : decide (1 <= en /\ en <= 1024) = true) (d3 : decide (1 <= gn /\ gn <= 1073741824) = true) (d4 : ¬ n <= 32) :
  Calls Tryz.prog 31 #[cv lg pg en gn A n cap] w fun e w' => e = .returned (.int .i64 1) /\ Below w.heap.size w w' := by
 obtain ⟨w1, hw1⟩ : ∃ w1, w1 = w.alloc (.cells (cc lg pg en gn A n cap) 24) := ⟨_, rfl⟩
 have C1 := CAt.new h lg pg en gn cap
 rw [<- hw1] at C1
 obtain ⟨g, hg⟩ : ∃ g, g = w.heap.size := ⟨_, rfl⟩
 rw [<- hg] at C1
 have HG := hi_ hg
 clear h hg
 have c0 := C1.c0
 have c1 := C1.c1
 have c2 := C1.c2
 have c3 := C1.c3
 have c4 := C1.c4
 have K1 := hi_ C1
 clear C1
 have d4' : ¬ (n : Int) <= 32 := by omega
 have d4'' : decide ((n : Int) <= 32) = false := decide_eq_false d4'
 go_enter Tryz.func31, Tryz.ntmps31
 go_wp2_with (first
  | (rw [<- hw1, <- HG.out]; clear hw1)
  | (go_at_call 83; refine (within_any _ _ _ _).mono ?_; rintro e w' ⟨rfl, rfl⟩; (first | rw [d0] | rw [d1] | rw [d2] | rw [d3])))
 go_ret
 exact ⟨rfl, K1.out.bel⟩
theorem Check_5 (h : KRd w A n ks) (hn : n <= 1000000) (hs : Lens ks) (d0 : decide (2 <= lg /\ lg <= 1024) = true) (d1 : decide (4 <= pg /\ pg <= 1024) = true) (d2 : decide (1 <= en /\ en <= 1024) = true) (d3 : decide (1 <= gn /\ gn <= 1073741824) = true) (d4 : n <= 32) (d5 : decide (Named ks) = false) :
  Calls Tryz.prog 31 #[cv lg pg en gn A n cap] w fun e w' => e = .returned (.int .i64 1) /\ Below w.heap.size w w' := by
 obtain ⟨w1, hw1⟩ : ∃ w1, w1 = w.alloc (.cells (cc lg pg en gn A n cap) 24) := ⟨_, rfl⟩
 have C1 := CAt.new h lg pg en gn cap
 rw [<- hw1] at C1
 obtain ⟨g, hg⟩ : ∃ g, g = w.heap.size := ⟨_, rfl⟩
 rw [<- hg] at C1
 have HG := hi_ hg
 clear h hg
 have c0 := C1.c0
 have c1 := C1.c1
 have c2 := C1.c2
 have c3 := C1.c3
 have c4 := C1.c4
 have K1 := hi_ C1
 clear C1
 have d4' : (n : Int) <= 32 := by omega
 go_enter Tryz.func31, Tryz.ntmps31
 go_wp2_with (first
  | (rw [<- hw1, <- HG.out]; clear hw1)
  | (go_at_call 83; refine (within_any _ _ _ _).mono ?_; rintro e w' ⟨rfl, rfl⟩; (first | rw [d0] | rw [d1] | rw [d2] | rw [d3])))
 refine (named_any A n cap ks _ K1.out.rd hn hs).mono ?_
 rintro e w2 ⟨rfl, hb2⟩
 rw [d5]
 have C2 := K1.out.next hb2
 clear c0 c1 c2 c3 c4 hb2
 have c0 := C2.c0
 have c1 := C2.c1
 have c2 := C2.c2
 have c3 := C2.c3
 have c4 := C2.c4
 have K2 := hi_ C2
 clear C2
 go_wp2_with (fail)
 go_ret
 exact ⟨rfl, K2.out.bel⟩
theorem Check_6 (h : KRd w A n ks) (hn : n <= 1000000) (hs : Lens ks) (d0 : decide (2 <= lg /\ lg <= 1024) = true) (d1 : decide (4 <= pg /\ pg <= 1024) = true) (d2 : decide (1 <= en /\ en <= 1024) = true) (d3 : decide (1 <= gn /\ gn <= 1073741824) = true) (d4 : n <= 32) (d5 : decide (Named ks) = true) (d6 : decide (Apart ks) = false) :
  Calls Tryz.prog 31 #[cv lg pg en gn A n cap] w fun e w' => e = .returned (.int .i64 1) /\ Below w.heap.size w w' := by
 obtain ⟨w1, hw1⟩ : ∃ w1, w1 = w.alloc (.cells (cc lg pg en gn A n cap) 24) := ⟨_, rfl⟩
 have C1 := CAt.new h lg pg en gn cap
 rw [<- hw1] at C1
 obtain ⟨g, hg⟩ : ∃ g, g = w.heap.size := ⟨_, rfl⟩
 rw [<- hg] at C1
 have HG := hi_ hg
 clear h hg
 have c0 := C1.c0
 have c1 := C1.c1
 have c2 := C1.c2
 have c3 := C1.c3
 have c4 := C1.c4
 have K1 := hi_ C1
 clear C1
 have d4' : (n : Int) <= 32 := by omega
 go_enter Tryz.func31, Tryz.ntmps31
 go_wp2_with (first
  | (rw [<- hw1, <- HG.out]; clear hw1)
  | (go_at_call 83; refine (within_any _ _ _ _).mono ?_; rintro e w' ⟨rfl, rfl⟩; (first | rw [d0] | rw [d1] | rw [d2] | rw [d3])))
 refine (named_any A n cap ks _ K1.out.rd hn hs).mono ?_
 rintro e w2 ⟨rfl, hb2⟩
 rw [d5]
 have C2 := K1.out.next hb2
 clear c0 c1 c2 c3 c4 hb2
 have c0 := C2.c0
 have c1 := C2.c1
 have c2 := C2.c2
 have c3 := C2.c3
 have c4 := C2.c4
 have K2 := hi_ C2
 clear C2
 go_wp2_with (fail)
 refine (apart_any A n cap ks _ K2.out.rd hn).mono ?_
 rintro e w3 ⟨rfl, hb3⟩
 rw [d6]
 have C3 := K2.out.next hb3
 clear c0 c1 c2 c3 c4 hb3
 have c0 := C3.c0
 have c1 := C3.c1
 have c2 := C3.c2
 have c3 := C3.c3
 have c4 := C3.c4
 have K3 := hi_ C3
 clear C3
 go_wp2_with (fail)
 go_ret
 exact ⟨rfl, K3.out.bel⟩
theorem Check_7 (h : KRd w A n ks) (hn : n <= 1000000) (hs : Lens ks) (d0 : decide (2 <= lg /\ lg <= 1024) = true) (d1 : decide (4 <= pg /\ pg <= 1024) = true) (d2 : decide (1 <= en /\ en <= 1024) = true) (d3 : decide (1 <= gn /\ gn <= 1073741824) = true) (d4 : n <= 32) (d5 : decide (Named ks) = true) (d6 : decide (Apart ks) = true) (d7 : decide (Sized ks) = false) :
  Calls Tryz.prog 31 #[cv lg pg en gn A n cap] w fun e w' => e = .returned (.int .i64 1) /\ Below w.heap.size w w' := by
 obtain ⟨w1, hw1⟩ : ∃ w1, w1 = w.alloc (.cells (cc lg pg en gn A n cap) 24) := ⟨_, rfl⟩
 have C1 := CAt.new h lg pg en gn cap
 rw [<- hw1] at C1
 obtain ⟨g, hg⟩ : ∃ g, g = w.heap.size := ⟨_, rfl⟩
 rw [<- hg] at C1
 have HG := hi_ hg
 clear h hg
 have c0 := C1.c0
 have c1 := C1.c1
 have c2 := C1.c2
 have c3 := C1.c3
 have c4 := C1.c4
 have K1 := hi_ C1
 clear C1
 have d4' : (n : Int) <= 32 := by omega
 go_enter Tryz.func31, Tryz.ntmps31
 go_wp2_with (first
  | (rw [<- hw1, <- HG.out]; clear hw1)
  | (go_at_call 83; refine (within_any _ _ _ _).mono ?_; rintro e w' ⟨rfl, rfl⟩; (first | rw [d0] | rw [d1] | rw [d2] | rw [d3])))
 refine (named_any A n cap ks _ K1.out.rd hn hs).mono ?_
 rintro e w2 ⟨rfl, hb2⟩
 rw [d5]
 have C2 := K1.out.next hb2
 clear c0 c1 c2 c3 c4 hb2
 have c0 := C2.c0
 have c1 := C2.c1
 have c2 := C2.c2
 have c3 := C2.c3
 have c4 := C2.c4
 have K2 := hi_ C2
 clear C2
 go_wp2_with (fail)
 refine (apart_any A n cap ks _ K2.out.rd hn).mono ?_
 rintro e w3 ⟨rfl, hb3⟩
 rw [d6]
 have C3 := K2.out.next hb3
 clear c0 c1 c2 c3 c4 hb3
 have c0 := C3.c0
 have c1 := C3.c1
 have c2 := C3.c2
 have c3 := C3.c3
 have c4 := C3.c4
 have K3 := hi_ C3
 clear C3
 go_wp2_with (fail)
 refine (sized_any A n cap ks _ K3.out.rd hn).mono ?_
 rintro e w4 ⟨rfl, hb4⟩
 rw [d7]
 have C4 := K3.out.next hb4
 clear c0 c1 c2 c3 c4 hb4
 have c0 := C4.c0
 have c1 := C4.c1
 have c2 := C4.c2
 have c3 := C4.c3
 have c4 := C4.c4
 have K4 := hi_ C4
 clear C4
 go_wp2_with (fail)
 go_ret
 exact ⟨rfl, K4.out.bel⟩
theorem Check_8 (h : KRd w A n ks) (hn : n <= 1000000) (hs : Lens ks) (d0 : decide (2 <= lg /\ lg <= 1024) = true) (d1 : decide (4 <= pg /\ pg <= 1024) = true) (d2 : decide (1 <= en /\ en <= 1024) = true) (d3 : decide (1 <= gn /\ gn <= 1073741824) = true) (d4 : n <= 32) (d5 : decide (Named ks) = true) (d6 : decide (Apart ks) = true) (d7 : decide (Sized ks) = true) :
  Calls Tryz.prog 31 #[cv lg pg en gn A n cap] w fun e w' => e = .returned (.int .i64 0) /\ Below w.heap.size w w' := by
 obtain ⟨w1, hw1⟩ : ∃ w1, w1 = w.alloc (.cells (cc lg pg en gn A n cap) 24) := ⟨_, rfl⟩
 have C1 := CAt.new h lg pg en gn cap
 rw [<- hw1] at C1
 obtain ⟨g, hg⟩ : ∃ g, g = w.heap.size := ⟨_, rfl⟩
 rw [<- hg] at C1
 have HG := hi_ hg
 clear h hg
 have c0 := C1.c0
 have c1 := C1.c1
 have c2 := C1.c2
 have c3 := C1.c3
 have c4 := C1.c4
 have K1 := hi_ C1
 clear C1
 have d4' : (n : Int) <= 32 := by omega
 go_enter Tryz.func31, Tryz.ntmps31
 go_wp2_with (first
  | (rw [<- hw1, <- HG.out]; clear hw1)
  | (go_at_call 83; refine (within_any _ _ _ _).mono ?_; rintro e w' ⟨rfl, rfl⟩; (first | rw [d0] | rw [d1] | rw [d2] | rw [d3])))
 refine (named_any A n cap ks _ K1.out.rd hn hs).mono ?_
 rintro e w2 ⟨rfl, hb2⟩
 rw [d5]
 have C2 := K1.out.next hb2
 clear c0 c1 c2 c3 c4 hb2
 have c0 := C2.c0
 have c1 := C2.c1
 have c2 := C2.c2
 have c3 := C2.c3
 have c4 := C2.c4
 have K2 := hi_ C2
 clear C2
 go_wp2_with (fail)
 refine (apart_any A n cap ks _ K2.out.rd hn).mono ?_
 rintro e w3 ⟨rfl, hb3⟩
 rw [d6]
 have C3 := K2.out.next hb3
 clear c0 c1 c2 c3 c4 hb3
 have c0 := C3.c0
 have c1 := C3.c1
 have c2 := C3.c2
 have c3 := C3.c3
 have c4 := C3.c4
 have K3 := hi_ C3
 clear C3
 go_wp2_with (fail)
 refine (sized_any A n cap ks _ K3.out.rd hn).mono ?_
 rintro e w4 ⟨rfl, hb4⟩
 rw [d7]
 have C4 := K3.out.next hb4
 clear c0 c1 c2 c3 c4 hb4
 have c0 := C4.c0
 have c1 := C4.c1
 have c2 := C4.c2
 have c3 := C4.c3
 have c4 := C4.c4
 have K4 := hi_ C4
 clear C4
 go_wp2_with (fail)
 go_ret
 exact ⟨rfl, K4.out.bel⟩
theorem Check_any (h : KRd w A n ks) (hn : n <= 1000000) (hs : Lens ks) :
  Calls Tryz.prog 31 #[cv lg pg en gn A n cap] w fun e w' => e = .returned (.int .i64 (if (Cf.mk lg pg en gn ks).Right then 0 else 1)) /\ Below w.heap.size w w' := by
 have hl := h.1
 have no : ∀ {P : Prop}, (¬ (Cf.mk lg pg en gn ks).Right) -> Calls Tryz.prog 31 #[cv lg pg en gn A n cap] w (fun e w' => e = .returned (.int .i64 1) /\ Below w.heap.size w w') -> Calls Tryz.prog 31 #[cv lg pg en gn A n cap] w fun e w' => e = .returned (.int .i64 (if (Cf.mk lg pg en gn ks).Right then 0 else 1)) /\ Below w.heap.size w w' :=
  fun hn hc => by rw [if_neg hn]; exact hc
 by_cases h0 : 2 <= lg /\ lg <= 1024
 rotate_left 1
 ·exact no (P := True) (fun R => h0 R.1.1) (Check_0 lg pg en gn A n cap ks w h hn hs  (decide_eq_false h0))
 by_cases h1 : 4 <= pg /\ pg <= 1024
 rotate_left 1
 ·exact no (P := True) (fun R => h1 R.1.2.1) (Check_1 lg pg en gn A n cap ks w h hn hs (decide_eq_true h0) (decide_eq_false h1))
 by_cases h2 : 1 <= en /\ en <= 1024
 rotate_left 1
 ·exact no (P := True) (fun R => h2 R.1.2.2.1) (Check_2 lg pg en gn A n cap ks w h hn hs (decide_eq_true h0) (decide_eq_true h1) (decide_eq_false h2))
 by_cases h3 : 1 <= gn /\ gn <= 1073741824
 rotate_left 1
 ·exact no (P := True) (fun R => h3 R.1.2.2.2.1) (Check_3 lg pg en gn A n cap ks w h hn hs (decide_eq_true h0) (decide_eq_true h1) (decide_eq_true h2) (decide_eq_false h3))
 by_cases h4 : n <= 32
 rotate_left 1
 ·exact no (P := True) (fun R => h4 (by have : ks.length <= 32 := R.1.2.2.2.2; omega)) (Check_4 lg pg en gn A n cap ks w h hn hs (decide_eq_true h0) (decide_eq_true h1) (decide_eq_true h2) (decide_eq_true h3) h4)
 by_cases h5 : Named ks
 rotate_left 1
 ·exact no (P := True) (fun R => h5 R.2.1) (Check_5 lg pg en gn A n cap ks w h hn hs (decide_eq_true h0) (decide_eq_true h1) (decide_eq_true h2) (decide_eq_true h3) h4 (decide_eq_false h5))
 by_cases h6 : Apart ks
 rotate_left 1
 ·exact no (P := True) (fun R => h6 R.2.2.1) (Check_6 lg pg en gn A n cap ks w h hn hs (decide_eq_true h0) (decide_eq_true h1) (decide_eq_true h2) (decide_eq_true h3) h4 (decide_eq_true h5) (decide_eq_false h6))
 by_cases h7 : Sized ks
 rotate_left 1
 ·exact no (P := True) (fun R => h7 R.2.2.2) (Check_7 lg pg en gn A n cap ks w h hn hs (decide_eq_true h0) (decide_eq_true h1) (decide_eq_true h2) (decide_eq_true h3) h4 (decide_eq_true h5) (decide_eq_true h6) (decide_eq_false h7))
 rw [if_pos ⟨⟨h0, h1, h2, h3, by show ks.length <= 32; omega⟩, h5, h6, h7⟩]
 exact Check_8 lg pg en gn A n cap ks w h hn hs (decide_eq_true h0) (decide_eq_true h1) (decide_eq_true h2) (decide_eq_true h3) h4 (decide_eq_true h5) (decide_eq_true h6) (decide_eq_true h7)
end
end Go.Proofs.YthiknmhkdeicjaaGreatDoor
