/- ScB, ScC, PtH, ByE, PtD, RowS, PtB, PtF -/
import Derived.Test.YthabmlbmlncbmaaQs1
import Derived.Test.YthabmlbmlncbmaaQs2
import Derived.Test.YthabmlbmlncbmaaQs3
import Derived.Test.YthabmlbmlncbmaaQs4
import Derived.Deep.RegionHeld3
namespace Go.Proofs.Ythabmlbmlncbmaa
open Go.RowKit
set_option linter.unusedVariables false
set_option maxRecDepth 20000
def effL (R : Bool) (lg : Int) (xs : List (List UInt8)) : List (List UInt8) := if R = true /\ (xs.length : Int) = lg then xs else []
theorem hasQ_nil (n : Int) : ¬ HasQ [] n := fun h => by have := okL_len h.2.1; simp [secAt] at this
theorem effL_yes {lg : Int} {xs : List (List UInt8)} (h : (xs.length : Int) = lg) : effL true lg xs = xs := by unfold effL; rw [if_pos ⟨rfl, h⟩]
theorem effL_no {R : Bool} {lg : Int} {xs : List (List UInt8)} {n : Int} (h : ¬ (R = true /\ (xs.length : Int) = lg /\ Plc n)) : ¬ HasQ (effL R lg xs) n := fun hq => by
  unfold effL at hq
  split at hq
  · rename_i h1
    exact h ⟨h1.1, h1.2, hq.1⟩
  · exact hasQ_nil n hq
def LHasP (l : List (List UInt8)) (n : Int) (w : World) (e : Ending) (w' : World) : Prop :=
  (HasQ l n -> ∃ (A : Option Addr) (m c : Nat), e = .returned (.tuple #[.agg #[.int .i64 (cE (secAt l n)), .int .i64 n, .int .i64 1, .slice A m c], .bool true]) /\ Rd w' A m (cB (secAt l n)) /\ (m <= 472 /\ m <= c /\ ∀ b o, A = some ⟨b, o, none⟩ -> 0 < m -> w.heap.size <= b)) /\
  (¬ HasQ l n -> e = .returned (.tuple #[.agg #[.int .i64 0, .int .i64 0, .int .i64 0, .slice none 0 0], .bool false])) /\ Below w.heap.size w w'
theorem LHasP.no {l : List (List UInt8)} {n : Int} {w w' : World} (h : ¬ HasQ l n) (hb : Below w.heap.size w w') : LHasP l n w (.returned (.tuple #[.agg #[.int .i64 0, .int .i64 0, .int .i64 0, .slice none 0 0], .bool false])) w' := ⟨fun k => absurd k h, fun _ => rfl, hb⟩
theorem LHasP.yes {l : List (List UInt8)} {n : Int} {w w' : World} {A : Option Addr} {m c : Nat} (h : HasQ l n) (hr : Rd w' A m (cB (secAt l n))) (hm : m <= 472 /\ m <= c /\ ∀ b o, A = some ⟨b, o, none⟩ -> 0 < m -> w.heap.size <= b) (hb : Below w.heap.size w w') :
    LHasP l n w (.returned (.tuple #[.agg #[.int .i64 (cE (secAt l n)), .int .i64 n, .int .i64 1, .slice A m c], .bool true])) w' := ⟨fun _ => ⟨A, m, c, rfl, hr, hm⟩, fun k => absurd h k, hb⟩
theorem secAt_idx {xs : List (List UInt8)} {n lg : Int} (h0 : 0 <= n) (hl : (xs.length : Int) = lg) (h2 : 2 <= lg) : ∃ k : Nat, n.tmod lg = (k : Int) /\ k < xs.length /\ xs[k]? = some (secAt xs n) := by
  subst hl
  have h1 := Int.emod_nonneg n (show (xs.length : Int) ≠ 0 by omega)
  have h3 := Int.emod_lt_of_pos n (show (0 : Int) < xs.length by omega)
  refine ⟨(n % (xs.length : Int)).toNat, ?_, by omega, ?_⟩
  · rw [Int.tmod_eq_emod_of_nonneg h0]; omega
  · unfold secAt
    rw [List.getD_eq_getElem?_getD, List.getElem?_eq_getElem (show (n % (xs.length : Int)).toNat < xs.length by omega)]
    rfl
section
variable (lg pg en gn : Int) (A : Option Addr) (n cap : Nat) (ks : List Kd) {K : Nat -> Prop} (LA : Option Addr) (ln lc : Nat) (xs : List (List UInt8)) (lsn : Int) (w : World)
theorem box2 (h : KRd w A n ks) : ∃ w1, w1 = (w.alloc (.cells (cc lg pg en gn A n cap) 24)).alloc (.cells #[.int .i64 0, .int .i64 0, .int .i64 0, .slice none 0 0] 39) /\ CAt w w1 w.heap.size lg pg en gn A n cap ks /\ SealAt w1 (w.heap.size + 1) 0 0 0 none 0 0 := by
  refine ⟨_, rfl, (CAt.new h lg pg en gn cap).next ((Below.refl _ _).alloc (Nat.le_refl _) _), ?_⟩
  have := SealAt.new (e := 0) (n := 0) (k := 0) (A := none) (m := 0) (c := 0) (w.alloc (.cells (cc lg pg en gn A n cap) 24))
  rwa [World.size_alloc] at this
theorem RHas_none (h : KRd w A n ks) {R : Bool} (cR : GRr lg pg en gn A n cap ks R) (hno : ¬ (R = true /\ (ln : Int) = lg /\ Plc lsn)) :
    Calls Try.prog 17 #[cv lg pg en gn A n cap, .slice LA ln lc, .int .i64 lsn] w fun e w' => e = .returned (.tuple #[.agg #[.int .i64 0, .int .i64 0, .int .i64 0, .slice none 0 0], .bool false]) /\ Below w.heap.size w w' := by
  obtain ⟨w1, hw1, C1, Z1⟩ := box2 lg pg en gn A n cap ks w h
  have CR := hi_ cR
  have c0 := C1.c0
  have c1 := C1.c1
  have c2 := C1.c2
  have c3 := C1.c3
  have c4 := C1.c4
  have K1 := hi_ C1
  have hz1 := Z1.lt
  have HZ := hi_ Z1
  clear h C1 Z1
  cases R
  · clear hno cR
    go_enter Try.func17, Try.ntmps17
    go_wp2_with (first
      | (rw [<- hw1]; clear hw1)
      | (go_at_call 20; refine (CR.out w1 K1.out.rd).mono ?_; rintro e w2 ⟨rfl, hb2⟩; have K2 := hi_ (K1.out.next hb2); have c02 := K2.out.c0; have c12 := K2.out.c1; have c22 := K2.out.c2; have c32 := K2.out.c3; have c42 := K2.out.c4; have Z2 := hi_ (HZ.out.below hb2 hz1); clear hb2)
      | (refine wpList_stseal rfl (.tmp 6) (.tmp 25) rfl rfl rfl Z2.out ?_; intro w3 hS3 hB3 _))
    refine bodyPost_ret (res_seal_tmp rfl rfl hS3) rfl ?_
    exact ⟨rfl, K2.out.bel.trans (hB3.mono (by omega))⟩
  · clear cR
    by_cases hl : (ln : Int) = lg
    · have hp : ¬ Plc lsn := fun hp => hno ⟨rfl, hl, hp⟩
      have d := decide_eq_false hp
      have hl' : ((ln : Int) != lg) = false := by simp [hl]
      have HL := hi_ hl
      clear hno hp hl
      go_enter Try.func17, Try.ntmps17
      go_wp2_with (first
        | (rw [<- hw1]; clear hw1)
        | (go_at_call 20; refine (CR.out w1 K1.out.rd).mono ?_; rintro e w2 ⟨rfl, hb2⟩; have K2 := hi_ (K1.out.next hb2); have c02 := K2.out.c0; have c12 := K2.out.c1; have c22 := K2.out.c2; have c32 := K2.out.c3; have c42 := K2.out.c4; have Z2 := hi_ (HZ.out.below hb2 hz1); clear hb2)
        | (go_at_call 22; refine (Place_yes _ _).mono ?_; rintro e w' ⟨rfl, rfl⟩; rw [d])
        | (refine wpList_stseal rfl (.tmp 6) (.tmp 25) rfl rfl rfl Z2.out ?_; intro w3 hS3 hB3 _))
      refine bodyPost_ret (res_seal_tmp rfl rfl hS3) rfl ?_
      exact ⟨rfl, K2.out.bel.trans (hB3.mono (by omega))⟩
    · have hl' : ((ln : Int) != lg) = true := by simpa using hl
      clear hno hl
      go_enter Try.func17, Try.ntmps17
      go_wp2_with (first
        | (rw [<- hw1]; clear hw1)
        | (go_at_call 20; refine (CR.out w1 K1.out.rd).mono ?_; rintro e w2 ⟨rfl, hb2⟩; have K2 := hi_ (K1.out.next hb2); have c02 := K2.out.c0; have c12 := K2.out.c1; have c22 := K2.out.c2; have c32 := K2.out.c3; have c42 := K2.out.c4; have Z2 := hi_ (HZ.out.below hb2 hz1); clear hb2)
        | (refine wpList_stseal rfl (.tmp 6) (.tmp 25) rfl rfl rfl Z2.out ?_; intro w3 hS3 hB3 _))
      refine bodyPost_ret (res_seal_tmp rfl rfl hS3) rfl ?_
      exact ⟨rfl, K2.out.bel.trans (hB3.mono (by omega))⟩
end
def GetL4 (F : Nat) (PA : Option Addr) (pm pc : Nat) (x : List UInt8) (E N Kk : Int) (ob : Bool) : Prop :=
  ∀ W, Rd W PA pm x -> Calls Try.prog F #[.slice PA pm pc] W fun ed w' => ∃ A' m' c', ed = .returned (.tuple #[.agg #[.int .i64 E, .int .i64 N, .int .i64 Kk, .slice A' m' c'], .bool ob]) /\ Rd w' A' m' (gB x) /\ (m' <= 472 /\ m' <= c' /\ ∀ b o, A' = some ⟨b, o, none⟩ -> 0 < m' -> W.heap.size <= b) /\ Below W.heap.size W w'
section
variable (lg pg en gn : Int) (A : Option Addr) (n cap : Nat) (ks : List Kd) {K : Nat -> Prop} (LA : Option Addr) (ln lc : Nat) (xs : List (List UInt8)) (lsn : Int) (w : World)
set_option maxHeartbeats 2000000 in
theorem RHas_yes {E : Int} (h : KRd w A n ks) (cR : GRr lg pg en gn A n cap ks true) (hb : (2 <= lg /\ lg <= 1024) /\ (4 <= pg /\ pg <= 1024)) (hl : (ln : Int) = lg) (hp : Plc lsn) (k b o pm pc : Nat) (PA : Option Addr) (x : List UInt8) (hk : lsn.tmod lg = (k : Int)) (hkl : k < ln)
    (hblt : b < w.heap.size) (hcell : w.cell? ⟨b, o + k, none⟩ = some (.slice PA pm pc)) (hrd : Rd w PA pm x) (hG : GetL4 42 PA pm pc x E lsn 1 true) :
    Calls Try.prog 17 #[cv lg pg en gn A n cap, .slice (some ⟨b, o, none⟩) ln lc, .int .i64 lsn] w fun e w' => ∃ A' m' c', e = .returned (.tuple #[.agg #[.int .i64 E, .int .i64 lsn, .int .i64 1, .slice A' m' c'], .bool true]) /\ Rd w' A' m' (gB x) /\ (m' <= 472 /\ m' <= c' /\ ∀ b o, A' = some ⟨b, o, none⟩ -> 0 < m' -> w.heap.size <= b) /\ Below w.heap.size w w' := by
  have HPL := hi_ hp
  have d := decide_eq_true hp
  have hl' : ((ln : Int) != lg) = false := by simp [hl]
  have hlog : logZ true lg lsn = 2 + (k : Int) := by unfold logZ; rw [if_pos ⟨rfl, hp⟩, hk]
  obtain ⟨z, hz⟩ : ∃ z, z = logZ true lg lsn := ⟨_, rfl⟩
  have CL : Hid (∀ W, KRd W A n ks -> Calls Try.prog 43 #[cv lg pg en gn A n cap, .int .i64 lsn] W fun e w' => e = .returned (.int .i64 z) /\ Below W.heap.size W w') := hi_ fun W hW => by rw [hz]; exact RLog_any lg pg en gn A n cap ks W hW cR (fun _ => hb) lsn
  have hzk : wrap64 (z - 2) = (k : Int) := by rw [hz, hlog]; unfold wrap64; omega
  have hzk2 : IntKind.i64.wrap (z - 2) = (k : Int) := by rw [wrapEq]; exact hzk
  obtain ⟨w1, hw1, C1, Z1⟩ := box2 lg pg en gn A n cap ks w h
  have CR := hi_ cR
  have c0 := C1.c0
  have c1 := C1.c1
  have c2 := C1.c2
  have c3 := C1.c3
  have c4 := C1.c4
  have K1 := hi_ C1
  have hz1 := Z1.lt
  have HZ := hi_ Z1
  clear h C1 Z1
  have HC := hi_ (And.intro hcell (And.intro hblt hrd))
  have hk0 : (0 : Int) <= (k : Int) := by omega
  have hk2 : (k : Int) < (ln : Int) := by omega
  have CG := hi_ hG
  clear hcell hblt hrd hl hp hb hk hG cR hz hlog
  go_enter Try.func17, Try.ntmps17
  go_wp2_with (first
    | (rw [<- hw1]; clear hw1)
    | (go_at_call 20; refine (CR.out w1 K1.out.rd).mono ?_; rintro e w2 ⟨rfl, hb2⟩; have K2 := hi_ (K1.out.next hb2); have c02 := K2.out.c0; have c12 := K2.out.c1; have c22 := K2.out.c2; have c32 := K2.out.c3; have c42 := K2.out.c4; have Z2 := hi_ (HZ.out.below hb2 hz1); clear hb2)
    | (go_at_call 22; refine (Place_yes _ _).mono ?_; rintro e w' ⟨rfl, rfl⟩; rw [d])
    | (go_at_call 43; refine (CL.out w2 K2.out.rd).mono ?_; rintro e w3 ⟨rfl, hb3⟩
       have K3 := hi_ (K2.out.next hb3)
       have hz2 := Z2.out.lt
       have Z3 := hi_ (Z2.out.below hb3 hz2)
       have b03 : Below w.heap.size w w3 := K3.out.bel
       have hc3 : w3.cell? ⟨b, o + k, none⟩ = some (.slice PA pm pc) := (b03.cell (p := ⟨b, o + k, none⟩) HC.out.2.1).trans HC.out.1
       have R3 := hi_ (HC.out.2.2.below (Nat.le_refl _) b03)
       clear hb3)
    | (go_at_call 42; refine (CG.out w3 R3.out).mono ?_; rintro e w4 ⟨A4, m4, c4', rfl, hr4, hm4, hb4⟩
       have hz3 := Z3.out.lt
       have Z4 := hi_ (Z3.out.below hb4 hz3)
       have B4 := hi_ (K3.out.bel.trans (hb4.mono K3.out.bel.size))
       have R4 := hi_ (And.intro hr4 (And.intro (And.intro hm4.1 (And.intro hm4.2.1 (fun b o e h0 => Nat.le_trans K3.out.bel.size (hm4.2.2 b o e h0)))) (And.intro hm4.2.2 hz3)))
       clear hr4 hm4 hb4 hz3)
    | (refine wpList_stseal rfl (.tmp 8) (.tmp 35) rfl rfl rfl (SealAt.new w4) ?_; intro w5 hS5 hB5 hE5
       have k1 : w5.cell? ⟨w4.heap.size, 1, none⟩ = some (.int .i64 lsn) := cell_of_row _ _ _ _ _ _ hS5
       have k2 : w5.cell? ⟨w4.heap.size, 2, none⟩ = some (.int .i64 (1)) := cell_of_row _ _ _ _ _ _ hS5
       have hz4 := Z4.out.lt
       have Z5 := hi_ ((Z4.out.alloc _).below hB5 hz4)
       have S5 := hi_ hS5
       have B5 := hi_ (B4.out.trans ((((Below.refl _ _).alloc (Nat.le_refl _) _).trans hB5).mono B4.out.size))
       have R5 := hi_ (R4.out.1.below (Nat.le_refl _) (((Below.refl _ _).alloc (Nat.le_refl _) _).trans hB5))
       clear hB5 hE5 hS5 hz4)
    | (refine wpList_ldseal rfl (.tmp 8) rfl rfl S5.out ?_)
    | (refine wpList_stseal rfl (.tmp 6) (.tmp 49) rfl rfl rfl Z5.out ?_; intro w6 hS6 hB6 hE6))
  refine bodyPost_ret (res_seal_tmp rfl rfl hS6) rfl ?_
  refine ⟨A4, m4, c4', rfl, ?_, R4.out.2.1, B5.out.trans (hB6.mono (by omega))⟩
  by_cases h0 : 0 < m4
  · exact R5.out.block hB6.size fun b o e => hE6 b (by have h1 := R4.out.2.2.1 b o e h0; have h2 := R4.out.2.2.2; omega)
  · exact ⟨R5.out.1, fun h => absurd h h0⟩
set_option maxHeartbeats 2000000 in
theorem RHas_no1 {E N Kk : Int} (h : KRd w A n ks) (cR : GRr lg pg en gn A n cap ks true) (hb : (2 <= lg /\ lg <= 1024) /\ (4 <= pg /\ pg <= 1024)) (hl : (ln : Int) = lg) (hp : Plc lsn) (k b o pm pc : Nat) (PA : Option Addr) (x : List UInt8) (hk : lsn.tmod lg = (k : Int)) (hkl : k < ln)
    (hblt : b < w.heap.size) (hcell : w.cell? ⟨b, o + k, none⟩ = some (.slice PA pm pc)) (hrd : Rd w PA pm x) (hG : GetL4 42 PA pm pc x E N Kk false) :
    Calls Try.prog 17 #[cv lg pg en gn A n cap, .slice (some ⟨b, o, none⟩) ln lc, .int .i64 lsn] w fun e w' => e = .returned (.tuple #[.agg #[.int .i64 0, .int .i64 0, .int .i64 0, .slice none 0 0], .bool false]) /\ Below w.heap.size w w' := by
  have HPL := hi_ hp
  have d := decide_eq_true hp
  have hl' : ((ln : Int) != lg) = false := by simp [hl]
  have hlog : logZ true lg lsn = 2 + (k : Int) := by unfold logZ; rw [if_pos ⟨rfl, hp⟩, hk]
  obtain ⟨z, hz⟩ : ∃ z, z = logZ true lg lsn := ⟨_, rfl⟩
  have CL : Hid (∀ W, KRd W A n ks -> Calls Try.prog 43 #[cv lg pg en gn A n cap, .int .i64 lsn] W fun e w' => e = .returned (.int .i64 z) /\ Below W.heap.size W w') := hi_ fun W hW => by rw [hz]; exact RLog_any lg pg en gn A n cap ks W hW cR (fun _ => hb) lsn
  have hzk : wrap64 (z - 2) = (k : Int) := by rw [hz, hlog]; unfold wrap64; omega
  have hzk2 : IntKind.i64.wrap (z - 2) = (k : Int) := by rw [wrapEq]; exact hzk
  obtain ⟨w1, hw1, C1, Z1⟩ := box2 lg pg en gn A n cap ks w h
  have CR := hi_ cR
  have c0 := C1.c0
  have c1 := C1.c1
  have c2 := C1.c2
  have c3 := C1.c3
  have c4 := C1.c4
  have K1 := hi_ C1
  have hz1 := Z1.lt
  have HZ := hi_ Z1
  clear h C1 Z1
  have HC := hi_ (And.intro hcell (And.intro hblt hrd))
  have hk0 : (0 : Int) <= (k : Int) := by omega
  have hk2 : (k : Int) < (ln : Int) := by omega
  have CG := hi_ hG
  clear hcell hblt hrd hl hp hb hk hG cR hz hlog
  go_enter Try.func17, Try.ntmps17
  go_wp2_with (first
    | (rw [<- hw1]; clear hw1)
    | (go_at_call 20; refine (CR.out w1 K1.out.rd).mono ?_; rintro e w2 ⟨rfl, hb2⟩; have K2 := hi_ (K1.out.next hb2); have c02 := K2.out.c0; have c12 := K2.out.c1; have c22 := K2.out.c2; have c32 := K2.out.c3; have c42 := K2.out.c4; have Z2 := hi_ (HZ.out.below hb2 hz1); clear hb2)
    | (go_at_call 22; refine (Place_yes _ _).mono ?_; rintro e w' ⟨rfl, rfl⟩; rw [d])
    | (go_at_call 43; refine (CL.out w2 K2.out.rd).mono ?_; rintro e w3 ⟨rfl, hb3⟩
       have K3 := hi_ (K2.out.next hb3)
       have hz2 := Z2.out.lt
       have Z3 := hi_ (Z2.out.below hb3 hz2)
       have b03 : Below w.heap.size w w3 := K3.out.bel
       have hc3 : w3.cell? ⟨b, o + k, none⟩ = some (.slice PA pm pc) := (b03.cell (p := ⟨b, o + k, none⟩) HC.out.2.1).trans HC.out.1
       have R3 := hi_ (HC.out.2.2.below (Nat.le_refl _) b03)
       clear hb3)
    | (go_at_call 42; refine (CG.out w3 R3.out).mono ?_; rintro e w4 ⟨A4, m4, c4', rfl, hr4, hm4, hb4⟩
       have hz3 := Z3.out.lt
       have Z4 := hi_ (Z3.out.below hb4 hz3)
       have B4 := hi_ (K3.out.bel.trans (hb4.mono K3.out.bel.size))
       have R4 := hi_ (And.intro hr4 (And.intro (And.intro hm4.1 (And.intro hm4.2.1 (fun b o e h0 => Nat.le_trans K3.out.bel.size (hm4.2.2 b o e h0)))) (And.intro hm4.2.2 hz3)))
       clear hr4 hm4 hb4 hz3)
    | (refine wpList_stseal rfl (.tmp 8) (.tmp 35) rfl rfl rfl (SealAt.new w4) ?_; intro w5 hS5 hB5 hE5
       have k1 : w5.cell? ⟨w4.heap.size, 1, none⟩ = some (.int .i64 N) := cell_of_row _ _ _ _ _ _ hS5
       have k2 : w5.cell? ⟨w4.heap.size, 2, none⟩ = some (.int .i64 (Kk)) := cell_of_row _ _ _ _ _ _ hS5
       have hz4 := Z4.out.lt
       have Z5 := hi_ ((Z4.out.alloc _).below hB5 hz4)
       have S5 := hi_ hS5
       have B5 := hi_ (B4.out.trans ((((Below.refl _ _).alloc (Nat.le_refl _) _).trans hB5).mono B4.out.size))
       have R5 := hi_ (R4.out.1.below (Nat.le_refl _) (((Below.refl _ _).alloc (Nat.le_refl _) _).trans hB5))
       clear hB5 hE5 hS5 hz4)
    | (refine wpList_stseal rfl (.tmp 6) (.tmp 50) rfl rfl rfl Z5.out ?_; intro w6 hS6 hB6 hE6))
  refine bodyPost_ret (res_seal_tmp rfl rfl hS6) rfl ?_
  exact ⟨rfl, B5.out.trans (hB6.mono (by omega))⟩
set_option maxHeartbeats 2000000 in
theorem RHas_no2 {E N Kk : Int} (h : KRd w A n ks) (cR : GRr lg pg en gn A n cap ks true) (hb : (2 <= lg /\ lg <= 1024) /\ (4 <= pg /\ pg <= 1024)) (hl : (ln : Int) = lg) (hp : Plc lsn) (k b o pm pc : Nat) (PA : Option Addr) (x : List UInt8) (hk : lsn.tmod lg = (k : Int)) (hkl : k < ln)
    (hblt : b < w.heap.size) (hcell : w.cell? ⟨b, o + k, none⟩ = some (.slice PA pm pc)) (hrd : Rd w PA pm x) (hG : GetL4 42 PA pm pc x E N Kk true) (hk1 : Kk ≠ 1) :
    Calls Try.prog 17 #[cv lg pg en gn A n cap, .slice (some ⟨b, o, none⟩) ln lc, .int .i64 lsn] w fun e w' => e = .returned (.tuple #[.agg #[.int .i64 0, .int .i64 0, .int .i64 0, .slice none 0 0], .bool false]) /\ Below w.heap.size w w' := by
  have HPL := hi_ hp
  have d := decide_eq_true hp
  have hl' : ((ln : Int) != lg) = false := by simp [hl]
  have hlog : logZ true lg lsn = 2 + (k : Int) := by unfold logZ; rw [if_pos ⟨rfl, hp⟩, hk]
  obtain ⟨z, hz⟩ : ∃ z, z = logZ true lg lsn := ⟨_, rfl⟩
  have CL : Hid (∀ W, KRd W A n ks -> Calls Try.prog 43 #[cv lg pg en gn A n cap, .int .i64 lsn] W fun e w' => e = .returned (.int .i64 z) /\ Below W.heap.size W w') := hi_ fun W hW => by rw [hz]; exact RLog_any lg pg en gn A n cap ks W hW cR (fun _ => hb) lsn
  have hzk : wrap64 (z - 2) = (k : Int) := by rw [hz, hlog]; unfold wrap64; omega
  have hzk2 : IntKind.i64.wrap (z - 2) = (k : Int) := by rw [wrapEq]; exact hzk
  obtain ⟨w1, hw1, C1, Z1⟩ := box2 lg pg en gn A n cap ks w h
  have CR := hi_ cR
  have c0 := C1.c0
  have c1 := C1.c1
  have c2 := C1.c2
  have c3 := C1.c3
  have c4 := C1.c4
  have K1 := hi_ C1
  have hz1 := Z1.lt
  have HZ := hi_ Z1
  clear h C1 Z1
  have HC := hi_ (And.intro hcell (And.intro hblt hrd))
  have hk0 : (0 : Int) <= (k : Int) := by omega
  have hk2 : (k : Int) < (ln : Int) := by omega
  have CG := hi_ hG
  have hq : (Kk == 1) = false := by simpa using hk1
  have hq2 : (Kk != 1) = true := by simpa using hk1
  clear hcell hblt hrd hl hp hb hk hG cR hz hlog hk1
  go_enter Try.func17, Try.ntmps17
  go_wp2_with (first
    | (rw [<- hw1]; clear hw1)
    | (go_at_call 20; refine (CR.out w1 K1.out.rd).mono ?_; rintro e w2 ⟨rfl, hb2⟩; have K2 := hi_ (K1.out.next hb2); have c02 := K2.out.c0; have c12 := K2.out.c1; have c22 := K2.out.c2; have c32 := K2.out.c3; have c42 := K2.out.c4; have Z2 := hi_ (HZ.out.below hb2 hz1); clear hb2)
    | (go_at_call 22; refine (Place_yes _ _).mono ?_; rintro e w' ⟨rfl, rfl⟩; rw [d])
    | (go_at_call 43; refine (CL.out w2 K2.out.rd).mono ?_; rintro e w3 ⟨rfl, hb3⟩
       have K3 := hi_ (K2.out.next hb3)
       have hz2 := Z2.out.lt
       have Z3 := hi_ (Z2.out.below hb3 hz2)
       have b03 : Below w.heap.size w w3 := K3.out.bel
       have hc3 : w3.cell? ⟨b, o + k, none⟩ = some (.slice PA pm pc) := (b03.cell (p := ⟨b, o + k, none⟩) HC.out.2.1).trans HC.out.1
       have R3 := hi_ (HC.out.2.2.below (Nat.le_refl _) b03)
       clear hb3)
    | (go_at_call 42; refine (CG.out w3 R3.out).mono ?_; rintro e w4 ⟨A4, m4, c4', rfl, hr4, hm4, hb4⟩
       have hz3 := Z3.out.lt
       have Z4 := hi_ (Z3.out.below hb4 hz3)
       have B4 := hi_ (K3.out.bel.trans (hb4.mono K3.out.bel.size))
       have R4 := hi_ (And.intro hr4 (And.intro (And.intro hm4.1 (And.intro hm4.2.1 (fun b o e h0 => Nat.le_trans K3.out.bel.size (hm4.2.2 b o e h0)))) (And.intro hm4.2.2 hz3)))
       clear hr4 hm4 hb4 hz3)
    | (refine wpList_stseal rfl (.tmp 8) (.tmp 35) rfl rfl rfl (SealAt.new w4) ?_; intro w5 hS5 hB5 hE5
       have k1 : w5.cell? ⟨w4.heap.size, 1, none⟩ = some (.int .i64 N) := cell_of_row _ _ _ _ _ _ hS5
       have k2 : w5.cell? ⟨w4.heap.size, 2, none⟩ = some (.int .i64 (Kk)) := cell_of_row _ _ _ _ _ _ hS5
       have hz4 := Z4.out.lt
       have Z5 := hi_ ((Z4.out.alloc _).below hB5 hz4)
       have S5 := hi_ hS5
       have B5 := hi_ (B4.out.trans ((((Below.refl _ _).alloc (Nat.le_refl _) _).trans hB5).mono B4.out.size))
       have R5 := hi_ (R4.out.1.below (Nat.le_refl _) (((Below.refl _ _).alloc (Nat.le_refl _) _).trans hB5))
       clear hB5 hE5 hS5 hz4)
    | (refine wpList_stseal rfl (.tmp 6) (.tmp 50) rfl rfl rfl Z5.out ?_; intro w6 hS6 hB6 hE6))
  refine bodyPost_ret (res_seal_tmp rfl rfl hS6) rfl ?_
  exact ⟨rfl, B5.out.trans (hB6.mono (by omega))⟩
set_option maxHeartbeats 2000000 in
theorem RHas_no3 {E N : Int} (h : KRd w A n ks) (cR : GRr lg pg en gn A n cap ks true) (hb : (2 <= lg /\ lg <= 1024) /\ (4 <= pg /\ pg <= 1024)) (hl : (ln : Int) = lg) (hp : Plc lsn) (k b o pm pc : Nat) (PA : Option Addr) (x : List UInt8) (hk : lsn.tmod lg = (k : Int)) (hkl : k < ln)
    (hblt : b < w.heap.size) (hcell : w.cell? ⟨b, o + k, none⟩ = some (.slice PA pm pc)) (hrd : Rd w PA pm x) (hG : GetL4 42 PA pm pc x E N 1 true) (hn1 : N ≠ lsn) :
    Calls Try.prog 17 #[cv lg pg en gn A n cap, .slice (some ⟨b, o, none⟩) ln lc, .int .i64 lsn] w fun e w' => e = .returned (.tuple #[.agg #[.int .i64 0, .int .i64 0, .int .i64 0, .slice none 0 0], .bool false]) /\ Below w.heap.size w w' := by
  have HPL := hi_ hp
  have d := decide_eq_true hp
  have hl' : ((ln : Int) != lg) = false := by simp [hl]
  have hlog : logZ true lg lsn = 2 + (k : Int) := by unfold logZ; rw [if_pos ⟨rfl, hp⟩, hk]
  obtain ⟨z, hz⟩ : ∃ z, z = logZ true lg lsn := ⟨_, rfl⟩
  have CL : Hid (∀ W, KRd W A n ks -> Calls Try.prog 43 #[cv lg pg en gn A n cap, .int .i64 lsn] W fun e w' => e = .returned (.int .i64 z) /\ Below W.heap.size W w') := hi_ fun W hW => by rw [hz]; exact RLog_any lg pg en gn A n cap ks W hW cR (fun _ => hb) lsn
  have hzk : wrap64 (z - 2) = (k : Int) := by rw [hz, hlog]; unfold wrap64; omega
  have hzk2 : IntKind.i64.wrap (z - 2) = (k : Int) := by rw [wrapEq]; exact hzk
  obtain ⟨w1, hw1, C1, Z1⟩ := box2 lg pg en gn A n cap ks w h
  have CR := hi_ cR
  have c0 := C1.c0
  have c1 := C1.c1
  have c2 := C1.c2
  have c3 := C1.c3
  have c4 := C1.c4
  have K1 := hi_ C1
  have hz1 := Z1.lt
  have HZ := hi_ Z1
  clear h C1 Z1
  have HC := hi_ (And.intro hcell (And.intro hblt hrd))
  have hk0 : (0 : Int) <= (k : Int) := by omega
  have hk2 : (k : Int) < (ln : Int) := by omega
  have CG := hi_ hG
  have hq : (N == lsn) = false := by simpa using hn1
  have hq2 : (N != lsn) = true := by simpa using hn1
  clear hcell hblt hrd hl hp hb hk hG cR hz hlog hn1
  go_enter Try.func17, Try.ntmps17
  go_wp2_with (first
    | (rw [<- hw1]; clear hw1)
    | (go_at_call 20; refine (CR.out w1 K1.out.rd).mono ?_; rintro e w2 ⟨rfl, hb2⟩; have K2 := hi_ (K1.out.next hb2); have c02 := K2.out.c0; have c12 := K2.out.c1; have c22 := K2.out.c2; have c32 := K2.out.c3; have c42 := K2.out.c4; have Z2 := hi_ (HZ.out.below hb2 hz1); clear hb2)
    | (go_at_call 22; refine (Place_yes _ _).mono ?_; rintro e w' ⟨rfl, rfl⟩; rw [d])
    | (go_at_call 43; refine (CL.out w2 K2.out.rd).mono ?_; rintro e w3 ⟨rfl, hb3⟩
       have K3 := hi_ (K2.out.next hb3)
       have hz2 := Z2.out.lt
       have Z3 := hi_ (Z2.out.below hb3 hz2)
       have b03 : Below w.heap.size w w3 := K3.out.bel
       have hc3 : w3.cell? ⟨b, o + k, none⟩ = some (.slice PA pm pc) := (b03.cell (p := ⟨b, o + k, none⟩) HC.out.2.1).trans HC.out.1
       have R3 := hi_ (HC.out.2.2.below (Nat.le_refl _) b03)
       clear hb3)
    | (go_at_call 42; refine (CG.out w3 R3.out).mono ?_; rintro e w4 ⟨A4, m4, c4', rfl, hr4, hm4, hb4⟩
       have hz3 := Z3.out.lt
       have Z4 := hi_ (Z3.out.below hb4 hz3)
       have B4 := hi_ (K3.out.bel.trans (hb4.mono K3.out.bel.size))
       have R4 := hi_ (And.intro hr4 (And.intro (And.intro hm4.1 (And.intro hm4.2.1 (fun b o e h0 => Nat.le_trans K3.out.bel.size (hm4.2.2 b o e h0)))) (And.intro hm4.2.2 hz3)))
       clear hr4 hm4 hb4 hz3)
    | (refine wpList_stseal rfl (.tmp 8) (.tmp 35) rfl rfl rfl (SealAt.new w4) ?_; intro w5 hS5 hB5 hE5
       have k1 : w5.cell? ⟨w4.heap.size, 1, none⟩ = some (.int .i64 N) := cell_of_row _ _ _ _ _ _ hS5
       have k2 : w5.cell? ⟨w4.heap.size, 2, none⟩ = some (.int .i64 (1)) := cell_of_row _ _ _ _ _ _ hS5
       have hz4 := Z4.out.lt
       have Z5 := hi_ ((Z4.out.alloc _).below hB5 hz4)
       have S5 := hi_ hS5
       have B5 := hi_ (B4.out.trans ((((Below.refl _ _).alloc (Nat.le_refl _) _).trans hB5).mono B4.out.size))
       have R5 := hi_ (R4.out.1.below (Nat.le_refl _) (((Below.refl _ _).alloc (Nat.le_refl _) _).trans hB5))
       clear hB5 hE5 hS5 hz4)
    | (refine wpList_stseal rfl (.tmp 6) (.tmp 50) rfl rfl rfl Z5.out ?_; intro w6 hS6 hB6 hE6))
  refine bodyPost_ret (res_seal_tmp rfl rfl hS6) rfl ?_
  exact ⟨rfl, B5.out.trans (hB6.mono (by omega))⟩
theorem RHas_any (h : KRd w A n ks) {R : Bool} (cR : GRr lg pg en gn A n cap ks R) (hb : R = true -> (2 <= lg /\ lg <= 1024) /\ (4 <= pg /\ pg <= 1024)) (hv : PcsV K w LA ln xs) :
    Calls Try.prog 17 #[cv lg pg en gn A n cap, .slice LA ln lc, .int .i64 lsn] w (LHasP (effL R lg xs) lsn w) := by
  have hxl := hv.len
  by_cases hno : R = true /\ (ln : Int) = lg /\ Plc lsn
  · obtain ⟨rfl, hl, hp⟩ := hno
    have hb' := hb rfl
    obtain ⟨k, hk, hkl, hx⟩ := secAt_idx (xs := xs) (n := lsn) (lg := lg) hp.1 (by rw [hxl]; exact hl) hb'.1.1
    rw [hxl] at hkl
    obtain ⟨b, o, PA, pm, pc, rfl, hblt, hcell, hrd, hpc, _⟩ := hv.cell hx
    rw [effL_yes (by rw [hxl]; exact hl)]
    obtain ⟨x, hxs⟩ : ∃ x, x = secAt xs lsn := ⟨_, rfl⟩
    rw [<- hxs] at hrd
    have G : GetL4 42 PA pm pc x (gE x) (gN x) (gK x) (decide (okL x)) := fun W hW => RGet_any PA pm pc x W hW hpc
    have HP := hp
    by_cases hq : HasQ xs lsn
    · have q := hq.2
      rw [<- hxs] at q
      have e0 : gE x = cE x := by unfold gE; rw [if_pos q.1]
      have e1 : gK x = 1 := by unfold gK; rw [if_pos q.1]; exact q.2.1
      have e2 : gN x = lsn := by unfold gN; rw [if_pos q.1]; exact q.2.2
      have e3 : gB x = cB x := by unfold gB; rw [if_pos q.1]
      rw [e0, e1, e2, decide_eq_true q.1] at G
      refine (RHas_yes lg pg en gn A n cap ks ln lc lsn w h cR hb' hl hp k b o pm pc PA x hk hkl hblt hcell hrd G).mono ?_
      rintro e w' ⟨A', m', c', rfl, hr, hm, hbl⟩
      rw [e3, hxs] at hr
      rw [hxs]
      exact .yes hq hr hm hbl
    · by_cases q1 : okL x
      · have e1 : gK x = cK x := by unfold gK; rw [if_pos q1]
        have e2 : gN x = cN x := by unfold gN; rw [if_pos q1]
        rw [decide_eq_true q1, e1, e2] at G
        by_cases q2 : cK x = 1
        · have q3 : cN x ≠ lsn := fun q3 => hq ⟨hp, by rw [<- hxs]; exact ⟨q1, q2, q3⟩⟩
          rw [q2] at G
          refine (RHas_no3 lg pg en gn A n cap ks ln lc lsn w h cR hb' hl hp k b o pm pc PA x hk hkl hblt hcell hrd G q3).mono ?_
          rintro e w' ⟨rfl, hbl⟩
          exact .no hq hbl
        · refine (RHas_no2 lg pg en gn A n cap ks ln lc lsn w h cR hb' hl hp k b o pm pc PA x hk hkl hblt hcell hrd G q2).mono ?_
          rintro e w' ⟨rfl, hbl⟩
          exact .no hq hbl
      · rw [decide_eq_false q1] at G
        refine (RHas_no1 lg pg en gn A n cap ks ln lc lsn w h cR hb' hl hp k b o pm pc PA x hk hkl hblt hcell hrd G).mono ?_
        rintro e w' ⟨rfl, hbl⟩
        exact .no hq hbl
  · refine (RHas_none lg pg en gn A n cap ks LA ln lc lsn w h cR hno).mono ?_
    rintro e w' ⟨rfl, hbl⟩
    exact .no (effL_no (by rw [hxl]; exact hno)) hbl
end
end Go.Proofs.Ythabmlbmlncbmaa
namespace Go.Proofs.Ythabmlbmlncbmaa
open Go.RowKit
set_option linter.unusedVariables false
set_option maxRecDepth 20000
section
variable (lg pg en gn : Int) (A : Option Addr) (n cap : Nat) (ks : List Kd) {K : Nat -> Prop} (LA : Option Addr) (ln lc : Nat) (xs : List (List UInt8)) (lsn : Int) (w : World)
theorem swithin_any (n lo hi : Int) (w : World) :
    Calls Try.prog 40 #[.int .i64 n, .int .i64 lo, .int .i64 hi] w fun e w' => e = .returned (.bool (decide (lo <= n /\ n <= hi))) /\ w = w' := by
  by_cases h1 : lo <= n
  · by_cases h2 : n <= hi
    · have d1 := decide_eq_true h1
      have d2 := decide_eq_true h2
      rw [decide_eq_true (show lo <= n /\ n <= hi from ⟨h1, h2⟩)]
      clear h1 h2
      go_enter Try.func40, Try.ntmps40
      go_wp2
      go_ret
      exact ⟨rfl, rfl⟩
    · have d1 := decide_eq_true h1
      have d2 := decide_eq_false h2
      rw [decide_eq_false (show ¬ (lo <= n /\ n <= hi) from fun h => h2 h.2)]
      clear h1 h2
      go_enter Try.func40, Try.ntmps40
      go_wp2
      go_ret
      exact ⟨rfl, rfl⟩
  · have d1 := decide_eq_false h1
    rw [decide_eq_false (show ¬ (lo <= n /\ n <= hi) from fun h => h1 h.1)]
    clear h1
    go_enter Try.func40, Try.ntmps40
    go_wp2
    go_ret
    exact ⟨rfl, rfl⟩
def PRt (R : Bool) : Prop := ∀ W, KRd W A n ks -> Calls Try.prog 39 #[cv lg pg en gn A n cap] W fun e w' => e = .returned (.int .i64 (if R = true then 0 else 1)) /\ Below W.heap.size W w'
theorem SHas_none (h : KRd w A n ks) {R : Bool} (cR : PRt lg pg en gn A n cap ks R) (hno : ¬ (R = true /\ (ln : Int) = lg /\ Plc lsn)) :
    Calls Try.prog 16 #[cv lg pg en gn A n cap, .slice LA ln lc, .int .i64 lsn] w fun e w' => e = .returned (.tuple #[.agg #[.int .i64 0, .int .i64 0, .int .i64 0, .slice none 0 0], .bool false]) /\ Below w.heap.size w w' := by
  obtain ⟨w1, hw1, C1, Z1⟩ := box2 lg pg en gn A n cap ks w h
  have CR := hi_ cR
  have c0 := C1.c0
  have c1 := C1.c1
  have c2 := C1.c2
  have c3 := C1.c3
  have c4 := C1.c4
  have K1 := hi_ C1
  have hz1 := Z1.lt
  have HZ := hi_ Z1
  clear h C1 Z1
  cases R
  · have CR : Hid (∀ W, KRd W A n ks -> Calls Try.prog 39 #[cv lg pg en gn A n cap] W fun e w' => e = .returned (.int .i64 1) /\ Below W.heap.size W w') := hi_ cR
    clear hno cR
    go_enter Try.func16, Try.ntmps16
    go_wp2_with (first
      | (rw [<- hw1]; clear hw1)
      | (go_at_call 39; refine (CR.out w1 K1.out.rd).mono ?_; rintro e w2 ⟨rfl, hb2⟩; have K2 := hi_ (K1.out.next hb2); have c02 := K2.out.c0; have c12 := K2.out.c1; have c22 := K2.out.c2; have c32 := K2.out.c3; have c42 := K2.out.c4; have Z2 := hi_ (HZ.out.below hb2 hz1); clear hb2)
      | (refine wpList_stseal rfl (.tmp 6) (.tmp 25) rfl rfl rfl Z2.out ?_; intro w3 hS3 hB3 _))
    refine bodyPost_ret (res_seal_tmp rfl rfl hS3) rfl ?_
    exact ⟨rfl, K2.out.bel.trans (hB3.mono (by omega))⟩
  · have CR : Hid (∀ W, KRd W A n ks -> Calls Try.prog 39 #[cv lg pg en gn A n cap] W fun e w' => e = .returned (.int .i64 0) /\ Below W.heap.size W w') := hi_ cR
    clear cR
    by_cases hl : (ln : Int) = lg
    · have hp : ¬ Plc lsn := fun hp => hno ⟨rfl, hl, hp⟩
      have d := decide_eq_false hp
      unfold Plc at d
      have hl' : ((ln : Int) != lg) = false := by simp [hl]
      have HL := hi_ hl
      clear hno hp hl
      go_enter Try.func16, Try.ntmps16
      go_wp2_with (first
        | (rw [<- hw1]; clear hw1)
        | (go_at_call 39; refine (CR.out w1 K1.out.rd).mono ?_; rintro e w2 ⟨rfl, hb2⟩; have K2 := hi_ (K1.out.next hb2); have c02 := K2.out.c0; have c12 := K2.out.c1; have c22 := K2.out.c2; have c32 := K2.out.c3; have c42 := K2.out.c4; have Z2 := hi_ (HZ.out.below hb2 hz1); clear hb2)
        | (go_at_call 40; refine (swithin_any _ _ _ _).mono ?_; rintro e w' ⟨rfl, rfl⟩; rw [d])
        | (refine wpList_stseal rfl (.tmp 6) (.tmp 25) rfl rfl rfl Z2.out ?_; intro w3 hS3 hB3 _))
      refine bodyPost_ret (res_seal_tmp rfl rfl hS3) rfl ?_
      exact ⟨rfl, K2.out.bel.trans (hB3.mono (by omega))⟩
    · have hl' : ((ln : Int) != lg) = true := by simpa using hl
      clear hno hl
      go_enter Try.func16, Try.ntmps16
      go_wp2_with (first
        | (rw [<- hw1]; clear hw1)
        | (go_at_call 39; refine (CR.out w1 K1.out.rd).mono ?_; rintro e w2 ⟨rfl, hb2⟩; have K2 := hi_ (K1.out.next hb2); have c02 := K2.out.c0; have c12 := K2.out.c1; have c22 := K2.out.c2; have c32 := K2.out.c3; have c42 := K2.out.c4; have Z2 := hi_ (HZ.out.below hb2 hz1); clear hb2)
        | (refine wpList_stseal rfl (.tmp 6) (.tmp 25) rfl rfl rfl Z2.out ?_; intro w3 hS3 hB3 _))
      refine bodyPost_ret (res_seal_tmp rfl rfl hS3) rfl ?_
      exact ⟨rfl, K2.out.bel.trans (hB3.mono (by omega))⟩
set_option maxHeartbeats 2000000 in
theorem SHas_yes {E : Int} (h : KRd w A n ks) (cR : PRt lg pg en gn A n cap ks true) (hb : (2 <= lg /\ lg <= 1024) /\ (4 <= pg /\ pg <= 1024)) (hl : (ln : Int) = lg) (hp : Plc lsn) (k b o pm pc : Nat) (PA : Option Addr) (x : List UInt8) (hk : lsn.tmod lg = (k : Int)) (hkl : k < ln)
    (hblt : b < w.heap.size) (hcell : w.cell? ⟨b, o + k, none⟩ = some (.slice PA pm pc)) (hrd : Rd w PA pm x) (hG : GetL4 41 PA pm pc x E lsn 1 true) :
    Calls Try.prog 16 #[cv lg pg en gn A n cap, .slice (some ⟨b, o, none⟩) ln lc, .int .i64 lsn] w fun e w' => ∃ A' m' c', e = .returned (.tuple #[.agg #[.int .i64 E, .int .i64 lsn, .int .i64 1, .slice A' m' c'], .bool true]) /\ Rd w' A' m' (gB x) /\ (m' <= 472 /\ m' <= c' /\ ∀ b o, A' = some ⟨b, o, none⟩ -> 0 < m' -> w.heap.size <= b) /\ Below w.heap.size w w' := by
  have HPL := hi_ hp
  have d := decide_eq_true hp
  unfold Plc at d
  have hl' : ((ln : Int) != lg) = false := by simp [hl]
  have ht0 : 0 <= lsn.tmod lg := by omega
  have ht1 : lsn.tmod lg < (ln : Int) := by omega
  have htn : (lsn.tmod lg).toNat = k := by omega
  have hl0 : lg ≠ 0 := by omega
  obtain ⟨w1, hw1, C1, Z1⟩ := box2 lg pg en gn A n cap ks w h
  have CR := hi_ cR
  have c0 := C1.c0
  have c1 := C1.c1
  have c2 := C1.c2
  have c3 := C1.c3
  have c4 := C1.c4
  have K1 := hi_ C1
  have hz1 := Z1.lt
  have HZ := hi_ Z1
  clear h C1 Z1
  have CR : Hid (∀ W, KRd W A n ks -> Calls Try.prog 39 #[cv lg pg en gn A n cap] W fun e w' => e = .returned (.int .i64 0) /\ Below W.heap.size W w') := hi_ cR
  have HC := hi_ (And.intro hcell (And.intro hblt hrd))
  have hk0 : (0 : Int) <= (k : Int) := by omega
  have hk2 : (k : Int) < (ln : Int) := by omega
  have CG := hi_ hG
  clear hcell hblt hrd hl hp hb hk hG cR
  go_enter Try.func16, Try.ntmps16
  go_wp2_with (first
    | (rw [<- hw1]; clear hw1)
    | (go_at_call 39; refine (CR.out w1 K1.out.rd).mono ?_; rintro e w2 ⟨rfl, hb2⟩; have K2 := hi_ (K1.out.next hb2); have c02 := K2.out.c0; have c12 := K2.out.c1; have c22 := K2.out.c2; have c32 := K2.out.c3; have c42 := K2.out.c4; have Z2 := hi_ (HZ.out.below hb2 hz1); have hc2 : w2.cell? ⟨b, o + k, none⟩ = some (.slice PA pm pc) := (K2.out.bel.cell (p := ⟨b, o + k, none⟩) HC.out.2.1).trans HC.out.1; have R2 := hi_ (HC.out.2.2.below (Nat.le_refl _) K2.out.bel); clear hb2)
    | (go_at_call 40; refine (swithin_any _ _ _ _).mono ?_; rintro e w' ⟨rfl, rfl⟩; rw [d])
    | (go_at_call 41; refine (CG.out w2 R2.out).mono ?_; rintro e w4 ⟨A4, m4, c4', rfl, hr4, hm4, hb4⟩
       have hz3 := Z2.out.lt
       have Z4 := hi_ (Z2.out.below hb4 hz3)
       have B4 := hi_ (K2.out.bel.trans (hb4.mono K2.out.bel.size))
       have R4 := hi_ (And.intro hr4 (And.intro (And.intro hm4.1 (And.intro hm4.2.1 (fun b o e h0 => Nat.le_trans K2.out.bel.size (hm4.2.2 b o e h0)))) (And.intro hm4.2.2 hz3)))
       clear hr4 hm4 hb4 hz3)
    | (refine wpList_stseal rfl (.tmp 8) (.tmp 35) rfl rfl rfl (SealAt.new w4) ?_; intro w5 hS5 hB5 hE5
       have k1 : w5.cell? ⟨w4.heap.size, 1, none⟩ = some (.int .i64 lsn) := cell_of_row _ _ _ _ _ _ hS5
       have k2 : w5.cell? ⟨w4.heap.size, 2, none⟩ = some (.int .i64 (1)) := cell_of_row _ _ _ _ _ _ hS5
       have hz4 := Z4.out.lt
       have Z5 := hi_ ((Z4.out.alloc _).below hB5 hz4)
       have S5 := hi_ hS5
       have B5 := hi_ (B4.out.trans ((((Below.refl _ _).alloc (Nat.le_refl _) _).trans hB5).mono B4.out.size))
       have R5 := hi_ (R4.out.1.below (Nat.le_refl _) (((Below.refl _ _).alloc (Nat.le_refl _) _).trans hB5))
       clear hB5 hE5 hS5 hz4)
    | (refine wpList_ldseal rfl (.tmp 8) rfl rfl S5.out ?_)
    | (refine wpList_stseal rfl (.tmp 6) (.tmp 51) rfl rfl rfl Z5.out ?_; intro w6 hS6 hB6 hE6))
  refine bodyPost_ret (res_seal_tmp rfl rfl hS6) rfl ?_
  refine ⟨A4, m4, c4', rfl, ?_, R4.out.2.1, B5.out.trans (hB6.mono (by omega))⟩
  by_cases h0 : 0 < m4
  · exact R5.out.block hB6.size fun b o e => hE6 b (by have h1 := R4.out.2.2.1 b o e h0; have h2 := R4.out.2.2.2; omega)
  · exact ⟨R5.out.1, fun h => absurd h h0⟩
set_option maxHeartbeats 2000000 in
theorem SHas_no1 {E N Kk : Int} (h : KRd w A n ks) (cR : PRt lg pg en gn A n cap ks true) (hb : (2 <= lg /\ lg <= 1024) /\ (4 <= pg /\ pg <= 1024)) (hl : (ln : Int) = lg) (hp : Plc lsn) (k b o pm pc : Nat) (PA : Option Addr) (x : List UInt8) (hk : lsn.tmod lg = (k : Int)) (hkl : k < ln)
    (hblt : b < w.heap.size) (hcell : w.cell? ⟨b, o + k, none⟩ = some (.slice PA pm pc)) (hrd : Rd w PA pm x) (hG : GetL4 41 PA pm pc x E N Kk false) :
    Calls Try.prog 16 #[cv lg pg en gn A n cap, .slice (some ⟨b, o, none⟩) ln lc, .int .i64 lsn] w fun e w' => e = .returned (.tuple #[.agg #[.int .i64 0, .int .i64 0, .int .i64 0, .slice none 0 0], .bool false]) /\ Below w.heap.size w w' := by
  have HPL := hi_ hp
  have d := decide_eq_true hp
  unfold Plc at d
  have hl' : ((ln : Int) != lg) = false := by simp [hl]
  have ht0 : 0 <= lsn.tmod lg := by omega
  have ht1 : lsn.tmod lg < (ln : Int) := by omega
  have htn : (lsn.tmod lg).toNat = k := by omega
  have hl0 : lg ≠ 0 := by omega
  obtain ⟨w1, hw1, C1, Z1⟩ := box2 lg pg en gn A n cap ks w h
  have CR := hi_ cR
  have c0 := C1.c0
  have c1 := C1.c1
  have c2 := C1.c2
  have c3 := C1.c3
  have c4 := C1.c4
  have K1 := hi_ C1
  have hz1 := Z1.lt
  have HZ := hi_ Z1
  clear h C1 Z1
  have CR : Hid (∀ W, KRd W A n ks -> Calls Try.prog 39 #[cv lg pg en gn A n cap] W fun e w' => e = .returned (.int .i64 0) /\ Below W.heap.size W w') := hi_ cR
  have HC := hi_ (And.intro hcell (And.intro hblt hrd))
  have hk0 : (0 : Int) <= (k : Int) := by omega
  have hk2 : (k : Int) < (ln : Int) := by omega
  have CG := hi_ hG
  clear hcell hblt hrd hl hp hb hk hG cR
  go_enter Try.func16, Try.ntmps16
  go_wp2_with (first
    | (rw [<- hw1]; clear hw1)
    | (go_at_call 39; refine (CR.out w1 K1.out.rd).mono ?_; rintro e w2 ⟨rfl, hb2⟩; have K2 := hi_ (K1.out.next hb2); have c02 := K2.out.c0; have c12 := K2.out.c1; have c22 := K2.out.c2; have c32 := K2.out.c3; have c42 := K2.out.c4; have Z2 := hi_ (HZ.out.below hb2 hz1); have hc2 : w2.cell? ⟨b, o + k, none⟩ = some (.slice PA pm pc) := (K2.out.bel.cell (p := ⟨b, o + k, none⟩) HC.out.2.1).trans HC.out.1; have R2 := hi_ (HC.out.2.2.below (Nat.le_refl _) K2.out.bel); clear hb2)
    | (go_at_call 40; refine (swithin_any _ _ _ _).mono ?_; rintro e w' ⟨rfl, rfl⟩; rw [d])
    | (go_at_call 41; refine (CG.out w2 R2.out).mono ?_; rintro e w4 ⟨A4, m4, c4', rfl, hr4, hm4, hb4⟩
       have hz3 := Z2.out.lt
       have Z4 := hi_ (Z2.out.below hb4 hz3)
       have B4 := hi_ (K2.out.bel.trans (hb4.mono K2.out.bel.size))
       have R4 := hi_ (And.intro hr4 (And.intro (And.intro hm4.1 (And.intro hm4.2.1 (fun b o e h0 => Nat.le_trans K2.out.bel.size (hm4.2.2 b o e h0)))) (And.intro hm4.2.2 hz3)))
       clear hr4 hm4 hb4 hz3)
    | (refine wpList_stseal rfl (.tmp 8) (.tmp 35) rfl rfl rfl (SealAt.new w4) ?_; intro w5 hS5 hB5 hE5
       have k1 : w5.cell? ⟨w4.heap.size, 1, none⟩ = some (.int .i64 N) := cell_of_row _ _ _ _ _ _ hS5
       have k2 : w5.cell? ⟨w4.heap.size, 2, none⟩ = some (.int .i64 (Kk)) := cell_of_row _ _ _ _ _ _ hS5
       have hz4 := Z4.out.lt
       have Z5 := hi_ ((Z4.out.alloc _).below hB5 hz4)
       have S5 := hi_ hS5
       have B5 := hi_ (B4.out.trans ((((Below.refl _ _).alloc (Nat.le_refl _) _).trans hB5).mono B4.out.size))
       have R5 := hi_ (R4.out.1.below (Nat.le_refl _) (((Below.refl _ _).alloc (Nat.le_refl _) _).trans hB5))
       clear hB5 hE5 hS5 hz4)
    | (refine wpList_stseal rfl (.tmp 6) (.tmp 50) rfl rfl rfl Z5.out ?_; intro w6 hS6 hB6 hE6))
  refine bodyPost_ret (res_seal_tmp rfl rfl hS6) rfl ?_
  exact ⟨rfl, B5.out.trans (hB6.mono (by omega))⟩
set_option maxHeartbeats 2000000 in
theorem SHas_no2 {E N Kk : Int} (h : KRd w A n ks) (cR : PRt lg pg en gn A n cap ks true) (hb : (2 <= lg /\ lg <= 1024) /\ (4 <= pg /\ pg <= 1024)) (hl : (ln : Int) = lg) (hp : Plc lsn) (k b o pm pc : Nat) (PA : Option Addr) (x : List UInt8) (hk : lsn.tmod lg = (k : Int)) (hkl : k < ln)
    (hblt : b < w.heap.size) (hcell : w.cell? ⟨b, o + k, none⟩ = some (.slice PA pm pc)) (hrd : Rd w PA pm x) (hG : GetL4 41 PA pm pc x E N Kk true) (hk1 : Kk ≠ 1) :
    Calls Try.prog 16 #[cv lg pg en gn A n cap, .slice (some ⟨b, o, none⟩) ln lc, .int .i64 lsn] w fun e w' => e = .returned (.tuple #[.agg #[.int .i64 0, .int .i64 0, .int .i64 0, .slice none 0 0], .bool false]) /\ Below w.heap.size w w' := by
  have HPL := hi_ hp
  have d := decide_eq_true hp
  unfold Plc at d
  have hl' : ((ln : Int) != lg) = false := by simp [hl]
  have ht0 : 0 <= lsn.tmod lg := by omega
  have ht1 : lsn.tmod lg < (ln : Int) := by omega
  have htn : (lsn.tmod lg).toNat = k := by omega
  have hl0 : lg ≠ 0 := by omega
  obtain ⟨w1, hw1, C1, Z1⟩ := box2 lg pg en gn A n cap ks w h
  have CR := hi_ cR
  have c0 := C1.c0
  have c1 := C1.c1
  have c2 := C1.c2
  have c3 := C1.c3
  have c4 := C1.c4
  have K1 := hi_ C1
  have hz1 := Z1.lt
  have HZ := hi_ Z1
  clear h C1 Z1
  have CR : Hid (∀ W, KRd W A n ks -> Calls Try.prog 39 #[cv lg pg en gn A n cap] W fun e w' => e = .returned (.int .i64 0) /\ Below W.heap.size W w') := hi_ cR
  have HC := hi_ (And.intro hcell (And.intro hblt hrd))
  have hk0 : (0 : Int) <= (k : Int) := by omega
  have hk2 : (k : Int) < (ln : Int) := by omega
  have CG := hi_ hG
  have hq : (Kk == 1) = false := by simpa using hk1
  have hq2 : (Kk != 1) = true := by simpa using hk1
  clear hcell hblt hrd hl hp hb hk hG cR hk1
  go_enter Try.func16, Try.ntmps16
  go_wp2_with (first
    | (rw [<- hw1]; clear hw1)
    | (go_at_call 39; refine (CR.out w1 K1.out.rd).mono ?_; rintro e w2 ⟨rfl, hb2⟩; have K2 := hi_ (K1.out.next hb2); have c02 := K2.out.c0; have c12 := K2.out.c1; have c22 := K2.out.c2; have c32 := K2.out.c3; have c42 := K2.out.c4; have Z2 := hi_ (HZ.out.below hb2 hz1); have hc2 : w2.cell? ⟨b, o + k, none⟩ = some (.slice PA pm pc) := (K2.out.bel.cell (p := ⟨b, o + k, none⟩) HC.out.2.1).trans HC.out.1; have R2 := hi_ (HC.out.2.2.below (Nat.le_refl _) K2.out.bel); clear hb2)
    | (go_at_call 40; refine (swithin_any _ _ _ _).mono ?_; rintro e w' ⟨rfl, rfl⟩; rw [d])
    | (go_at_call 41; refine (CG.out w2 R2.out).mono ?_; rintro e w4 ⟨A4, m4, c4', rfl, hr4, hm4, hb4⟩
       have hz3 := Z2.out.lt
       have Z4 := hi_ (Z2.out.below hb4 hz3)
       have B4 := hi_ (K2.out.bel.trans (hb4.mono K2.out.bel.size))
       have R4 := hi_ (And.intro hr4 (And.intro (And.intro hm4.1 (And.intro hm4.2.1 (fun b o e h0 => Nat.le_trans K2.out.bel.size (hm4.2.2 b o e h0)))) (And.intro hm4.2.2 hz3)))
       clear hr4 hm4 hb4 hz3)
    | (refine wpList_stseal rfl (.tmp 8) (.tmp 35) rfl rfl rfl (SealAt.new w4) ?_; intro w5 hS5 hB5 hE5
       have k1 : w5.cell? ⟨w4.heap.size, 1, none⟩ = some (.int .i64 N) := cell_of_row _ _ _ _ _ _ hS5
       have k2 : w5.cell? ⟨w4.heap.size, 2, none⟩ = some (.int .i64 (Kk)) := cell_of_row _ _ _ _ _ _ hS5
       have hz4 := Z4.out.lt
       have Z5 := hi_ ((Z4.out.alloc _).below hB5 hz4)
       have S5 := hi_ hS5
       have B5 := hi_ (B4.out.trans ((((Below.refl _ _).alloc (Nat.le_refl _) _).trans hB5).mono B4.out.size))
       have R5 := hi_ (R4.out.1.below (Nat.le_refl _) (((Below.refl _ _).alloc (Nat.le_refl _) _).trans hB5))
       clear hB5 hE5 hS5 hz4)
    | (refine wpList_stseal rfl (.tmp 6) (.tmp 50) rfl rfl rfl Z5.out ?_; intro w6 hS6 hB6 hE6))
  refine bodyPost_ret (res_seal_tmp rfl rfl hS6) rfl ?_
  exact ⟨rfl, B5.out.trans (hB6.mono (by omega))⟩
set_option maxHeartbeats 2000000 in
theorem SHas_no3 {E N : Int} (h : KRd w A n ks) (cR : PRt lg pg en gn A n cap ks true) (hb : (2 <= lg /\ lg <= 1024) /\ (4 <= pg /\ pg <= 1024)) (hl : (ln : Int) = lg) (hp : Plc lsn) (k b o pm pc : Nat) (PA : Option Addr) (x : List UInt8) (hk : lsn.tmod lg = (k : Int)) (hkl : k < ln)
    (hblt : b < w.heap.size) (hcell : w.cell? ⟨b, o + k, none⟩ = some (.slice PA pm pc)) (hrd : Rd w PA pm x) (hG : GetL4 41 PA pm pc x E N 1 true) (hn1 : N ≠ lsn) :
    Calls Try.prog 16 #[cv lg pg en gn A n cap, .slice (some ⟨b, o, none⟩) ln lc, .int .i64 lsn] w fun e w' => e = .returned (.tuple #[.agg #[.int .i64 0, .int .i64 0, .int .i64 0, .slice none 0 0], .bool false]) /\ Below w.heap.size w w' := by
  have HPL := hi_ hp
  have d := decide_eq_true hp
  unfold Plc at d
  have hl' : ((ln : Int) != lg) = false := by simp [hl]
  have ht0 : 0 <= lsn.tmod lg := by omega
  have ht1 : lsn.tmod lg < (ln : Int) := by omega
  have htn : (lsn.tmod lg).toNat = k := by omega
  have hl0 : lg ≠ 0 := by omega
  obtain ⟨w1, hw1, C1, Z1⟩ := box2 lg pg en gn A n cap ks w h
  have CR := hi_ cR
  have c0 := C1.c0
  have c1 := C1.c1
  have c2 := C1.c2
  have c3 := C1.c3
  have c4 := C1.c4
  have K1 := hi_ C1
  have hz1 := Z1.lt
  have HZ := hi_ Z1
  clear h C1 Z1
  have CR : Hid (∀ W, KRd W A n ks -> Calls Try.prog 39 #[cv lg pg en gn A n cap] W fun e w' => e = .returned (.int .i64 0) /\ Below W.heap.size W w') := hi_ cR
  have HC := hi_ (And.intro hcell (And.intro hblt hrd))
  have hk0 : (0 : Int) <= (k : Int) := by omega
  have hk2 : (k : Int) < (ln : Int) := by omega
  have CG := hi_ hG
  have hq : (N == lsn) = false := by simpa using hn1
  have hq2 : (N != lsn) = true := by simpa using hn1
  clear hcell hblt hrd hl hp hb hk hG cR hn1
  go_enter Try.func16, Try.ntmps16
  go_wp2_with (first
    | (rw [<- hw1]; clear hw1)
    | (go_at_call 39; refine (CR.out w1 K1.out.rd).mono ?_; rintro e w2 ⟨rfl, hb2⟩; have K2 := hi_ (K1.out.next hb2); have c02 := K2.out.c0; have c12 := K2.out.c1; have c22 := K2.out.c2; have c32 := K2.out.c3; have c42 := K2.out.c4; have Z2 := hi_ (HZ.out.below hb2 hz1); have hc2 : w2.cell? ⟨b, o + k, none⟩ = some (.slice PA pm pc) := (K2.out.bel.cell (p := ⟨b, o + k, none⟩) HC.out.2.1).trans HC.out.1; have R2 := hi_ (HC.out.2.2.below (Nat.le_refl _) K2.out.bel); clear hb2)
    | (go_at_call 40; refine (swithin_any _ _ _ _).mono ?_; rintro e w' ⟨rfl, rfl⟩; rw [d])
    | (go_at_call 41; refine (CG.out w2 R2.out).mono ?_; rintro e w4 ⟨A4, m4, c4', rfl, hr4, hm4, hb4⟩
       have hz3 := Z2.out.lt
       have Z4 := hi_ (Z2.out.below hb4 hz3)
       have B4 := hi_ (K2.out.bel.trans (hb4.mono K2.out.bel.size))
       have R4 := hi_ (And.intro hr4 (And.intro (And.intro hm4.1 (And.intro hm4.2.1 (fun b o e h0 => Nat.le_trans K2.out.bel.size (hm4.2.2 b o e h0)))) (And.intro hm4.2.2 hz3)))
       clear hr4 hm4 hb4 hz3)
    | (refine wpList_stseal rfl (.tmp 8) (.tmp 35) rfl rfl rfl (SealAt.new w4) ?_; intro w5 hS5 hB5 hE5
       have k1 : w5.cell? ⟨w4.heap.size, 1, none⟩ = some (.int .i64 N) := cell_of_row _ _ _ _ _ _ hS5
       have k2 : w5.cell? ⟨w4.heap.size, 2, none⟩ = some (.int .i64 (1)) := cell_of_row _ _ _ _ _ _ hS5
       have hz4 := Z4.out.lt
       have Z5 := hi_ ((Z4.out.alloc _).below hB5 hz4)
       have S5 := hi_ hS5
       have B5 := hi_ (B4.out.trans ((((Below.refl _ _).alloc (Nat.le_refl _) _).trans hB5).mono B4.out.size))
       have R5 := hi_ (R4.out.1.below (Nat.le_refl _) (((Below.refl _ _).alloc (Nat.le_refl _) _).trans hB5))
       clear hB5 hE5 hS5 hz4)
    | (refine wpList_stseal rfl (.tmp 6) (.tmp 50) rfl rfl rfl Z5.out ?_; intro w6 hS6 hB6 hE6))
  refine bodyPost_ret (res_seal_tmp rfl rfl hS6) rfl ?_
  exact ⟨rfl, B5.out.trans (hB6.mono (by omega))⟩
theorem SHas_any (h : KRd w A n ks) {R : Bool} (cR : PRt lg pg en gn A n cap ks R) (hb : R = true -> (2 <= lg /\ lg <= 1024) /\ (4 <= pg /\ pg <= 1024)) (hv : PcsV K w LA ln xs) :
    Calls Try.prog 16 #[cv lg pg en gn A n cap, .slice LA ln lc, .int .i64 lsn] w (LHasP (effL R lg xs) lsn w) := by
  have hxl := hv.len
  by_cases hno : R = true /\ (ln : Int) = lg /\ Plc lsn
  · obtain ⟨rfl, hl, hp⟩ := hno
    have hb' := hb rfl
    obtain ⟨k, hk, hkl, hx⟩ := secAt_idx (xs := xs) (n := lsn) (lg := lg) hp.1 (by rw [hxl]; exact hl) hb'.1.1
    rw [hxl] at hkl
    obtain ⟨b, o, PA, pm, pc, rfl, hblt, hcell, hrd, hpc, _⟩ := hv.cell hx
    rw [effL_yes (by rw [hxl]; exact hl)]
    obtain ⟨x, hxs⟩ : ∃ x, x = secAt xs lsn := ⟨_, rfl⟩
    rw [<- hxs] at hrd
    have G : GetL4 41 PA pm pc x (gE x) (gN x) (gK x) (decide (okL x)) := fun W hW => Get_any PA pm pc x W hW
    have HP := hp
    by_cases hq : HasQ xs lsn
    · have q := hq.2
      rw [<- hxs] at q
      have e0 : gE x = cE x := by unfold gE; rw [if_pos q.1]
      have e1 : gK x = 1 := by unfold gK; rw [if_pos q.1]; exact q.2.1
      have e2 : gN x = lsn := by unfold gN; rw [if_pos q.1]; exact q.2.2
      have e3 : gB x = cB x := by unfold gB; rw [if_pos q.1]
      rw [e0, e1, e2, decide_eq_true q.1] at G
      refine (SHas_yes lg pg en gn A n cap ks ln lc lsn w h cR hb' hl hp k b o pm pc PA x hk hkl hblt hcell hrd G).mono ?_
      rintro e w' ⟨A', m', c', rfl, hr, hm, hbl⟩
      rw [e3, hxs] at hr
      rw [hxs]
      exact .yes hq hr hm hbl
    · by_cases q1 : okL x
      · have e1 : gK x = cK x := by unfold gK; rw [if_pos q1]
        have e2 : gN x = cN x := by unfold gN; rw [if_pos q1]
        rw [decide_eq_true q1, e1, e2] at G
        by_cases q2 : cK x = 1
        · have q3 : cN x ≠ lsn := fun q3 => hq ⟨hp, by rw [<- hxs]; exact ⟨q1, q2, q3⟩⟩
          rw [q2] at G
          refine (SHas_no3 lg pg en gn A n cap ks ln lc lsn w h cR hb' hl hp k b o pm pc PA x hk hkl hblt hcell hrd G q3).mono ?_
          rintro e w' ⟨rfl, hbl⟩
          exact .no hq hbl
        · refine (SHas_no2 lg pg en gn A n cap ks ln lc lsn w h cR hb' hl hp k b o pm pc PA x hk hkl hblt hcell hrd G q2).mono ?_
          rintro e w' ⟨rfl, hbl⟩
          exact .no hq hbl
      · rw [decide_eq_false q1] at G
        refine (SHas_no1 lg pg en gn A n cap ks ln lc lsn w h cR hb' hl hp k b o pm pc PA x hk hkl hblt hcell hrd G).mono ?_
        rintro e w' ⟨rfl, hbl⟩
        exact .no hq hbl
  · refine (SHas_none lg pg en gn A n cap ks LA ln lc lsn w h cR hno).mono ?_
    rintro e w' ⟨rfl, hbl⟩
    exact .no (effL_no (by rw [hxl]; exact hno)) hbl
end
end Go.Proofs.Ythabmlbmlncbmaa
namespace Go.Proofs.Ythabmlbmlncbmaa
open Go.RowKit
set_option linter.unusedVariables false
set_option maxRecDepth 20000
section
variable (A : Option Addr) (n c : Nat) (l : List UInt8) (w : World)
theorem PHead_any (hr : Rd w A n l) (hc : n <= c) (hn : n <= 1000000) :
    Calls Try.prog 55 #[.slice A n c] w fun e w' => e = .returned (hdT l) /\ w = w' := by
  have hl := hr.1
  by_cases h0 : 12 <= n /\ n <= 472
  · have d0 := decide_eq_true (show (12 : Int) <= (n : Int) /\ (n : Int) <= 472 by omega)
    have C1 := hi_ (pget0 A n c l w hr hc hn h0.1)
    have C2 := hi_ (pget2 A n c l w hr hc hn h0.1)
    have C3 := hi_ (pget4 A n c l w hr hc hn h0.1)
    have hT : HdOk l ↔ ((1 <= cnt l /\ cnt l <= 1024) /\ plc l < cnt l /\ (0 <= sqn l /\ sqn l <= 281474976710656)) := by
      unfold HdOk
      rw [hl]
      exact ⟨fun h => h.2, fun h => ⟨h0, h⟩⟩
    have HT := hi_ hT
    unfold hdT
    clear hr hT hl h0
    generalize hpv : plc l = pv at *
    generalize hcv : cnt l = cv at *
    generalize hsv : sqn l = sv at *
    clear hpv hcv hsv
    by_cases h1 : 1 <= cv /\ cv <= 1024
    · have d1 := decide_eq_true h1
      by_cases h2 : pv < cv
      · have e2 : decide (cv <= pv) = false := decide_eq_false (by omega)
        by_cases h3 : 0 <= sv /\ sv <= 281474976710656
        · have d3 := decide_eq_true h3
          rw [if_pos (HT.out.2 ⟨h1, h2, h3⟩)]
          clear HT h1 h3
          go_enter Try.func55, Try.ntmps55
          go_wp2_with (first
            | (go_at_call 72; have _t := d0; refine (pwithin_any _ _ _ _).mono ?_; rintro e w' ⟨rfl, rfl⟩; rw [d0]; clear d0)
            | (go_at_call 73; have _t := C1; refine C1.out.mono ?_; rintro e w' ⟨rfl, rfl⟩; clear C1)
            | (go_at_call 73; have _t := C2; refine C2.out.mono ?_; rintro e w' ⟨rfl, rfl⟩; clear C2)
            | (go_at_call 73; have _t := C3; refine C3.out.mono ?_; rintro e w' ⟨rfl, rfl⟩; clear C3)
            | (go_at_call 72; have _t := d1; refine (pwithin_any _ _ _ _).mono ?_; rintro e w' ⟨rfl, rfl⟩; rw [d1]; clear d1)
            | (go_at_call 72; have _t := d3; refine (pwithin_any _ _ _ _).mono ?_; rintro e w' ⟨rfl, rfl⟩; rw [d3]; clear d3))
          refine bodyPost_ret (results_tmp4 rfl _ _ _) rfl ?_
          exact ⟨rfl, rfl⟩
        · have d3 := decide_eq_false h3
          rw [if_neg (fun q => h3 (HT.out.1 q).2.2)]
          clear HT h1 h3
          go_enter Try.func55, Try.ntmps55
          go_wp2_with (first
            | (go_at_call 72; have _t := d0; refine (pwithin_any _ _ _ _).mono ?_; rintro e w' ⟨rfl, rfl⟩; rw [d0]; clear d0)
            | (go_at_call 73; have _t := C1; refine C1.out.mono ?_; rintro e w' ⟨rfl, rfl⟩; clear C1)
            | (go_at_call 73; have _t := C2; refine C2.out.mono ?_; rintro e w' ⟨rfl, rfl⟩; clear C2)
            | (go_at_call 73; have _t := C3; refine C3.out.mono ?_; rintro e w' ⟨rfl, rfl⟩; clear C3)
            | (go_at_call 72; have _t := d1; refine (pwithin_any _ _ _ _).mono ?_; rintro e w' ⟨rfl, rfl⟩; rw [d1]; clear d1)
            | (go_at_call 72; have _t := d3; refine (pwithin_any _ _ _ _).mono ?_; rintro e w' ⟨rfl, rfl⟩; rw [d3]; clear d3))
          refine bodyPost_ret (results_tmp4 rfl _ _ _) rfl ?_
          exact ⟨rfl, rfl⟩
      · have e2 : decide (cv <= pv) = true := decide_eq_true (by omega)
        rw [if_neg (fun q => h2 (HT.out.1 q).2.1)]
        clear HT h1
        go_enter Try.func55, Try.ntmps55
        go_wp2_with (first
          | (go_at_call 72; have _t := d0; refine (pwithin_any _ _ _ _).mono ?_; rintro e w' ⟨rfl, rfl⟩; rw [d0]; clear d0)
          | (go_at_call 73; have _t := C1; refine C1.out.mono ?_; rintro e w' ⟨rfl, rfl⟩; clear C1)
          | (go_at_call 73; have _t := C2; refine C2.out.mono ?_; rintro e w' ⟨rfl, rfl⟩; clear C2)
          | (go_at_call 73; have _t := C3; refine C3.out.mono ?_; rintro e w' ⟨rfl, rfl⟩; clear C3)
          | (go_at_call 72; have _t := d1; refine (pwithin_any _ _ _ _).mono ?_; rintro e w' ⟨rfl, rfl⟩; rw [d1]; clear d1))
        refine bodyPost_ret (results_tmp4 rfl _ _ _) rfl ?_
        exact ⟨rfl, rfl⟩
    · have d1 := decide_eq_false h1
      rw [if_neg (fun q => h1 (HT.out.1 q).1)]
      clear HT h1
      go_enter Try.func55, Try.ntmps55
      go_wp2_with (first
        | (go_at_call 72; have _t := d0; refine (pwithin_any _ _ _ _).mono ?_; rintro e w' ⟨rfl, rfl⟩; rw [d0]; clear d0)
        | (go_at_call 73; have _t := C1; refine C1.out.mono ?_; rintro e w' ⟨rfl, rfl⟩; clear C1)
        | (go_at_call 73; have _t := C2; refine C2.out.mono ?_; rintro e w' ⟨rfl, rfl⟩; clear C2)
        | (go_at_call 73; have _t := C3; refine C3.out.mono ?_; rintro e w' ⟨rfl, rfl⟩; clear C3)
        | (go_at_call 72; have _t := d1; refine (pwithin_any _ _ _ _).mono ?_; rintro e w' ⟨rfl, rfl⟩; rw [d1]; clear d1))
      refine bodyPost_ret (results_tmp4 rfl _ _ _) rfl ?_
      exact ⟨rfl, rfl⟩
  · have d0 := decide_eq_false (show ¬ ((12 : Int) <= (n : Int) /\ (n : Int) <= 472) by omega)
    have hT : ¬ HdOk l := fun h => h0 (by rw [<- hl]; exact h.1)
    unfold hdT
    rw [if_neg hT]
    clear hr hT hl h0
    go_enter Try.func55, Try.ntmps55
    go_wp2_with (go_at_call 72; refine (pwithin_any _ _ _ _).mono ?_; rintro e w' ⟨rfl, rfl⟩; rw [d0])
    refine bodyPost_ret (results_tmp4 rfl _ _ _) rfl ?_
    exact ⟨rfl, rfl⟩
theorem RPHead_any (hr : Rd w A n l) (hn : n <= 1000000) :
    Calls Try.prog 36 #[.slice A n c] w fun e w' => e = .returned (hdT l) /\ w = w' := by
  have hl := hr.1
  by_cases h0 : 12 <= n /\ n <= 472
  · have C1 := hi_ (rget0 A n c l w hr hn h0.1)
    have C2 := hi_ (rget2 A n c l w hr hn h0.1)
    have C3 := hi_ (rget4 A n c l w hr hn h0.1)
    have hT : HdOk l ↔ ((1 <= cnt l /\ cnt l <= 1024) /\ plc l < cnt l /\ (0 <= sqn l /\ sqn l <= 281474976710656)) := by
      unfold HdOk
      rw [hl]
      exact ⟨fun h => h.2, fun h => ⟨h0, h⟩⟩
    have HT := hi_ hT
    unfold hdT
    clear hr hT hl
    generalize hpv : plc l = pv at *
    generalize hcv : cnt l = cv at *
    generalize hsv : sqn l = sv at *
    clear hpv hcv hsv
    by_cases h1 : cv < 1
    · have e1 : decide (cv < 1) = true := decide_eq_true h1
      rw [if_neg (fun q => by have := (HT.out.1 q).1.1; omega)]
      clear HT
      go_enter Try.func36, Try.ntmps36
      go_wp2_with (first
        | (go_at_call 58; have _t := C1; refine C1.out.mono ?_; rintro e w' ⟨rfl, rfl⟩; clear C1)
        | (go_at_call 58; have _t := C2; refine C2.out.mono ?_; rintro e w' ⟨rfl, rfl⟩; clear C2)
        | (go_at_call 58; have _t := C3; refine C3.out.mono ?_; rintro e w' ⟨rfl, rfl⟩; clear C3))
      refine bodyPost_ret (results_tmp4 rfl _ _ _) rfl ?_
      exact ⟨rfl, rfl⟩
    · have e1 : decide (cv < 1) = false := decide_eq_false h1
      by_cases h1' : 1024 < cv
      · have e1' : decide (1024 < cv) = true := decide_eq_true h1'
        rw [if_neg (fun q => by have := (HT.out.1 q).1.2; omega)]
        clear HT
        go_enter Try.func36, Try.ntmps36
        go_wp2_with (first
          | (go_at_call 58; have _t := C1; refine C1.out.mono ?_; rintro e w' ⟨rfl, rfl⟩; clear C1)
          | (go_at_call 58; have _t := C2; refine C2.out.mono ?_; rintro e w' ⟨rfl, rfl⟩; clear C2)
          | (go_at_call 58; have _t := C3; refine C3.out.mono ?_; rintro e w' ⟨rfl, rfl⟩; clear C3))
        refine bodyPost_ret (results_tmp4 rfl _ _ _) rfl ?_
        exact ⟨rfl, rfl⟩
      · have e1' : decide (1024 < cv) = false := decide_eq_false h1'
        by_cases h2 : cv <= pv
        · have e2 : decide (cv <= pv) = true := decide_eq_true h2
          rw [if_neg (fun q => by have := (HT.out.1 q).2.1; omega)]
          clear HT
          go_enter Try.func36, Try.ntmps36
          go_wp2_with (first
            | (go_at_call 58; have _t := C1; refine C1.out.mono ?_; rintro e w' ⟨rfl, rfl⟩; clear C1)
            | (go_at_call 58; have _t := C2; refine C2.out.mono ?_; rintro e w' ⟨rfl, rfl⟩; clear C2)
            | (go_at_call 58; have _t := C3; refine C3.out.mono ?_; rintro e w' ⟨rfl, rfl⟩; clear C3))
          refine bodyPost_ret (results_tmp4 rfl _ _ _) rfl ?_
          exact ⟨rfl, rfl⟩
        · have e2 : decide (cv <= pv) = false := decide_eq_false h2
          obtain ⟨q, hq⟩ : ∃ q, q = decide (Plc sv) := ⟨_, rfl⟩
          have HQ := hi_ hq
          clear hq
          cases q
          all_goals
            first
              | rw [if_pos (HT.out.2 ⟨by omega, by omega, of_decide_eq_true HQ.out.symm⟩)]
              | rw [if_neg (fun k => of_decide_eq_false HQ.out.symm (HT.out.1 k).2.2)]
            clear HT
            go_enter Try.func36, Try.ntmps36
            go_wp2_with (first
              | (go_at_call 58; have _t := C1; refine C1.out.mono ?_; rintro e w' ⟨rfl, rfl⟩; clear C1)
              | (go_at_call 58; have _t := C2; refine C2.out.mono ?_; rintro e w' ⟨rfl, rfl⟩; clear C2)
              | (go_at_call 58; have _t := C3; refine C3.out.mono ?_; rintro e w' ⟨rfl, rfl⟩; clear C3)
              | (go_at_call 22; refine (Place_yes _ _).mono ?_; rintro e w' ⟨rfl, rfl⟩; rw [<- HQ.out]))
            refine bodyPost_ret (results_tmp4 rfl _ _ _) rfl ?_
            exact ⟨rfl, rfl⟩
  · have hT : ¬ HdOk l := fun h => h0 (by rw [<- hl]; exact h.1)
    unfold hdT
    rw [if_neg hT]
    clear hr hT hl
    by_cases h1 : n < 12
    all_goals
      go_enter Try.func36, Try.ntmps36
      go_wp2
      refine bodyPost_ret (results_tmp4 rfl _ _ _) rfl ?_
      exact ⟨rfl, rfl⟩
end
end Go.Proofs.Ythabmlbmlncbmaa
namespace Go.Proofs.Ythabmlbmlncbmaa
open Go.RowKit
theorem Equal_any (A A' : Option Addr) (n c n' c' : Nat) (l l' : List UInt8) (w : World) (h1 : Rd w A n l) (h2 : Rd w A' n' l') :
    Calls Try.prog 76 #[.slice A n c, .slice A' n' c'] w fun e w' => e = .returned (.bool (decide (l = l'))) /\ w = w' := by
  have k1 := run_to_string 35 9 5 Try.underlying35 Try.underlying5 Try.underlying9 w A n c l h1
  have k2 := run_to_string 35 9 5 Try.underlying35 Try.underlying5 Try.underlying9 w A' n' c' l' h2
  clear h1 h2
  go_enter Try.func76, Try.ntmps76
  go_wp2
  go_ret
  exact ⟨ret_bool (by rw [str_toList, str_toList]; by_cases h : l = l' <;> simp [h]), rfl⟩
end Go.Proofs.Ythabmlbmlncbmaa
namespace Go.Proofs.Ythabmlbmlncbmaa
open Go.RowKit
set_option linter.unusedVariables false
set_option maxRecDepth 20000
section
variable {K K' : Nat -> Prop} (A A' : Option Addr) (n n' c c' : Nat) (xs ys : List (List UInt8)) (w : World)
theorem all_same {xs ys : List (List UInt8)} {n : Nat} (hx : xs.length = n) (hy : ys.length = n) (h : ∀ i, i < n -> xs[i]? = ys[i]?) : xs = ys := by
  apply List.ext_getElem?
  intro i
  by_cases hi : i < n
  · exact h i hi
  · rw [List.getElem?_eq_none (by omega), List.getElem?_eq_none (by omega)]
theorem EqF_any (h : PcsV K w A n xs) (h' : PcsV K' w A' n' ys) (hn : n <= 1000000) (hn' : n' <= 1000000) :
    Calls Try.prog 74 #[.slice A n c, .slice A' n' c', .func (.func 76) #[] #[]] w fun e w' => e = .returned (.bool (decide (xs = ys))) /\ w = w' := by
  have H := hi_ (And.intro h h')
  have hl := h.len
  have hl' := h'.len
  have HL := hi_ (And.intro hl hl')
  by_cases hnn : n = n'
  · subst hnn
    clear h h' hl hl'
    go_enter Try.func74, Try.ntmps74
    go_wp2
    go_loop [17] (fun iv => ∃ j : Nat, j <= n /\ iv = .int .i64 j /\ Hid (∀ i, i < j -> xs[i]? = ys[i]?)) (fun iv => n - (intOf iv).toNat)
    case atStart => exact ⟨0, Nat.zero_le _, rfl, hi_ (fun i hi => absurd hi (Nat.not_lt_zero _))⟩
    case round =>
      obtain ⟨j, hj, rfl, HS⟩ := hrel
      by_cases hjn : j < n
      · obtain ⟨x, hx⟩ : ∃ x, xs[j]? = some x := ⟨_, List.getElem?_eq_getElem (by rw [HL.out.1]; exact hjn)⟩
        obtain ⟨y, hy⟩ : ∃ y, ys[j]? = some y := ⟨_, List.getElem?_eq_getElem (by rw [HL.out.2]; exact hjn)⟩
        obtain ⟨b, o, PA, m, cc, rfl, hlt, hc, hr, hmc, _⟩ := H.out.1.cell hx
        obtain ⟨b', o', PA', m', cc', rfl, hlt', hc', hr', hmc', _⟩ := H.out.2.cell hy
        have CE := hi_ (Equal_any PA PA' m cc m' cc' x y w hr hr')
        have HX := hi_ (And.intro hx hy)
        clear hr hr' hmc hmc' hx hy hlt hlt'
        by_cases hxy : x = y
        · rw [decide_eq_true hxy] at CE
          go_wp2_with (go_at_call 76; refine CE.out.mono ?_; rintro e w2 ⟨rfl, rfl⟩)
          go_round
          case rel =>
            refine ⟨j + 1, hjn, by go_num, hi_ (fun i hi => ?_)⟩
            by_cases hij : i = j
            · subst hij; rw [HX.out.1, HX.out.2, hxy]
            · exact HS.out i (by omega)
          case measure => simp [intOf]; omega
        · rw [decide_eq_false hxy] at CE
          go_wp2_with (go_at_call 76; refine CE.out.mono ?_; rintro e w2 ⟨rfl, rfl⟩)
          go_ret
          refine ⟨ret_bool (decide_eq_false (fun e => hxy ?_)).symm, rfl⟩
          have h1 := HX.out.1
          rw [e, HX.out.2] at h1
          exact (Option.some.inj h1).symm
      · obtain rfl : j = n := by omega
        go_wp2
        go_ret
        exact ⟨ret_bool (decide_eq_true (all_same HL.out.1 HL.out.2 HS.out)).symm, rfl⟩
  · have hne : xs ≠ ys := fun e => hnn (by rw [<- hl, <- hl', e])
    rw [decide_eq_false hne]
    clear h h' hl hl'
    go_enter Try.func74, Try.ntmps74
    go_wp2
    go_ret
    exact ⟨rfl, rfl⟩
end
end Go.Proofs.Ythabmlbmlncbmaa
namespace Go.Proofs.Ythabmlbmlncbmaa
open Go.RowKit
section
variable {w : World} {B e r n c sz : Nat} {xs : List Value}
theorem own_setC (h : w.ownsRow B e sz (.slice (some ⟨r, 0, none⟩) n c) n xs) (j : Nat) (v : Value) : (w.setCell ⟨r, j, none⟩ v).ownsRow B e sz (.slice (some ⟨r, 0, none⟩) n c) n (xs.set j v) := by
  refine ⟨by rw [List.length_set]; exact h.1, ?_⟩
  rcases h.2 with ⟨h1, _⟩ | ⟨g, cap, cur, h1, hB, hh, hn, hc, hs, ht⟩
  · cases h1
  · injection h1 with h1 h2 h3
    injection h1 with h1
    injection h1 with h1
    subst h1 h3
    refine .inr ⟨r, c, cur.setIfInBounds j v, rfl, hB, heap_setCell_at hh v, hn, hc, by simpa using hs, ?_⟩
    rw [<- ht]
    simp [List.take_set]
end
section
variable {P : Program} {ops : Array Oper} {o : Oper} {a : Act} {w : World} {J : Act -> World -> Prop} {Q : Exit -> Act -> World -> Prop} {E : Prop}
end
end Go.Proofs.Ythabmlbmlncbmaa
namespace Go.Proofs.Ythabmlbmlncbmaa
open Go.RowKit
set_option linter.unusedVariables false
set_option maxRecDepth 20000
theorem run_appr {P : Program} (w : World) {T e : TypeId} (el : El P T e (.int .u8 0) 1 1) (ty : TypeId) (B g k cap : Nat) (xs : List Value) (hown : w.ownsRow B e 1 (.slice (some ⟨g, 0, none⟩) k cap) k xs)
    (A : Option Addr) (m c : Nat) (l : List UInt8) (hr : Rd w A m l) (hroom : k + m <= cap) :
    ∃ w', (Builtin.append_ #[T, T] ty #[.slice (some ⟨g, 0, none⟩) k cap, .slice A m c]).run P w = .ok (.slice (some ⟨g, 0, none⟩) (k + m) cap) w' /\ w'.ownsRow B e 1 (.slice (some ⟨g, 0, none⟩) (k + m) cap) (k + m) (xs ++ cells l) /\ w.grownBy w' (some g) := by
  obtain ⟨i, hi, hz, h1, h2⟩ := info_parts el.info
  rcases A with _ | ad
  · have hm : m = 0 := by
      rcases Nat.eq_zero_or_pos m with h0 | h0
      · exact h0
      · obtain ⟨_, _, h, _⟩ := hr.2 h0
        cases h
    subst hm
    have hn : l = [] := List.eq_nil_of_length_eq_zero hr.1
    subst hn
    exact ⟨w, run_app_nil w B T ty e i 1 el.und hi _ k xs hown c, by simpa [cells_nil] using hown, World.grownBy.refl _ _⟩
  · exact run_append_fits (P := P) w B T ty e i 1 el.und hi h1 g k cap xs hown ad m c (cells l) (by simp [hr.1]) hr.cells_at (cells_one l) hroom
theorem wpList_appr {P : Program} (w : World) {T e : TypeId} (el : El P T e (.int .u8 0) 1 1) {ops : Array Oper} {rest : List Oper} {o : Oper} {a : Act} {Q : Exit -> Act -> World -> Prop} (hgd : Region.wanted o (yielded ops a.tmps) = true) (s x : Operand)
    (ho : o.op = .call { callee := .builtin .append, args := #[s, x], argTypes := #[T, T] })
    (B g k cap : Nat) (xs : List Value) (hs : a.eval s = .slice (some ⟨g, 0, none⟩) k cap) (hown : w.ownsRow B e 1 (.slice (some ⟨g, 0, none⟩) k cap) k xs)
    (A : Option Addr) (m c : Nat) (l : List UInt8) (hx : a.eval x = .slice A m c) (hr : Rd w A m l) (hroom : k + m <= cap)
    (h : ∀ w', w'.ownsRow B e 1 (.slice (some ⟨g, 0, none⟩) (k + m) cap) (k + m) (xs ++ cells l) -> w.grownBy w' (some g) -> wpList P ops Q rest (a.put o.dst (.slice (some ⟨g, 0, none⟩) (k + m) cap)) w') : wpList P ops Q (o :: rest) a w :=
  wpList_w hgd fun _ hK => by
    obtain ⟨w', hrun, h2, h3⟩ := run_appr w el o.type B g k cap xs hown A m c l hr hroom
    unfold Oper.wp execOp
    simp only [ho, resolve, invoke, builtin, Sem.run_bind, Sem.run_pure, Result.andThen_ok, List.map_toArray, List.map_cons, List.map_nil, hs, hx, hrun]
    exact hK _ _ (h w' h2 h3)
theorem wpList_mkc {P : Program} (w : World) {T e : TypeId} {z : Value} {size bytes : Nat} (el : El P T e z size bytes) {ops : Array Oper} {rest : List Oper} {o : Oper} {a : Act} {Q : Exit -> Act -> World -> Prop} (hgd : o.guard = none) (x y : Operand)
    (ho : o.op = Op.makeSlice T x y) (B : Nat) (kl kc : IntKind) (C : Int) (n : Nat) (hl : a.eval x = .int kl 0) (hc : a.eval y = .int kc C) (hC : C = (n : Int)) (hb : bytes * n <= 281474976710656) (hm : n <= maxLen) (hB : B <= w.heap.size)
    (h : ∀ w', w'.ownsRow B e size (.slice (some ⟨w.heap.size, 0, none⟩) 0 n) 0 [] -> Below B w w' -> w.heap.size < w'.heap.size -> wpList P ops Q rest (a.put o.dst (.slice (some ⟨w.heap.size, 0, none⟩) 0 n)) w') : wpList P ops Q (o :: rest) a w := by
  obtain ⟨i, hi, hz, h1, h2⟩ := info_parts el.info
  refine wpList_make_own w hgd x y T ho B e i z size el.und hi hz h1 kl kc C n hl hc hC (by rw [h2]; exact hb) hm hB ?_
  intro w' hown hg
  refine h w' hown ((Below.refl _ _).grown hg hB (fun k hk => by cases hk)) ?_
  rcases hown.2 with ⟨h3, _⟩ | ⟨g, cap, cur, h3, _, hh, _⟩
  · cases h3
  · injection h3 with h3
    injection h3 with h3
    injection h3 with h3
    subst h3
    exact (Array.getElem?_eq_some_iff.1 hh).1
theorem grownBy_setCellA (W : World) (a : Addr) (v : Value) : W.grownBy (W.setCell a v) (some a.block) :=
  ⟨rfl, rfl, rfl, by simp [World.setCell], fun k _ hk => Below.heap_setCell _ _ _ k (fun e => hk (by rw [e]))⟩
structure SpI (w wr : World) (g gl q cap : Nat) (s : Int) (b : List UInt8) (j k : Nat) : Prop where
  kk : k = (pcs q s b j).flatten.length
  row : wr.ownsRow w.heap.size 5 1 (.slice (some ⟨g, 0, none⟩) k cap) k (cells (pcs q s b j).flatten)
  lst : ∃ vs, wr.ownsRow w.heap.size 35 1 (.slice (some ⟨gl, 0, none⟩) q q) q vs /\ ∀ i, i < j -> vs[i]? = some (.slice (some ⟨g, (pcs q s b i).flatten.length, none⟩) (piece q s b i).length (piece q s b i).length)
  ne : g ≠ gl
  bel : Below w.heap.size w wr
theorem SpI.next {w wr w1 w2 w3 : World} {g gl q cap : Nat} {s : Int} {b : List UInt8} {j k m : Nat} (h : SpI w wr g gl q cap s b j k) (hb1 : Below wr.heap.size wr w1)
    (r2 : w2.ownsRow w.heap.size 5 1 (.slice (some ⟨g, 0, none⟩) (k + 12) cap) (k + 12) (cells (pcs q s b j).flatten ++ cells (pcHead j q s))) (g2 : w1.grownBy w2 (some g))
    (r3 : w3.ownsRow w.heap.size 5 1 (.slice (some ⟨g, 0, none⟩) (k + 12 + m) cap) (k + 12 + m) (cells (pcs q s b j).flatten ++ cells (pcHead j q s) ++ cells (pcOwn b j))) (g3 : w2.grownBy w3 (some g)) (hj : j < q) :
    SpI w (w3.setCell ⟨gl, j, none⟩ (.slice (some ⟨g, k, none⟩) (k + 12 + m - k) (k + 12 + m - k))) g gl q cap s b (j + 1) (k + 12 + m) := by
  obtain ⟨hk, row, ⟨vs, lrow, hv⟩, ne, bel⟩ := h
  have l1 := own_keep lrow hb1
  have l2 := l1.kept g2 (.inr (by intro e; injection e with e; exact ne e.symm))
  have l3 := l2.kept g3 (.inr (by intro e; injection e with e; exact ne e.symm))
  have hvl : vs.length = q := by have := lrow.1; omega
  have hm : m = (pcOwn b j).length := by have := r3.1; simp only [List.length_append, cells_length, pcHead_len] at this; omega
  have hpl : (piece q s b j).length = 12 + m := by rw [piece, List.length_append, pcHead_len, hm]
  refine ⟨?_, ?_, ⟨_, own_setC l3 j _, fun i hi => ?_⟩, ne, ?_⟩
  · rw [pcs_succ, List.flatten_append, List.length_append, <- hk]
    simp only [List.flatten_cons, List.flatten_nil, List.append_nil, hpl]
    omega
  · have : cells (pcs q s b (j + 1)).flatten = cells (pcs q s b j).flatten ++ cells (pcHead j q s) ++ cells (pcOwn b j) := by
      rw [pcs_succ, List.flatten_append]
      simp only [List.flatten_cons, List.flatten_nil, List.append_nil, cells_append, piece, List.append_assoc]
    rw [this]
    exact r3.kept (grownBy_setCellA w3 ⟨gl, j, none⟩ _) (.inr (by intro e; injection e with e; exact ne e))
  · rw [List.getElem?_set]
    by_cases hij : j = i
    · subst hij
      rw [if_pos rfl, if_pos (by omega), hpl, <- hk]
      have : k + 12 + m - k = 12 + m := by omega
      rw [this]
    · rw [if_neg hij]
      exact hv i (by omega)
  · have b1 : Below w.heap.size w w1 := bel.trans (hb1.mono bel.size)
    have b2 : Below w.heap.size w w2 := b1.grown g2 b1.size (fun x hx => by injection hx with hx; subst hx; exact own_block r2 rfl)
    have b3 : Below w.heap.size w w3 := b2.grown g3 b2.size (fun x hx => by injection hx with hx; subst hx; exact own_block r2 rfl)
    exact b3.setCell (p := ⟨gl, j, none⟩) (own_block lrow rfl) _
theorem SpI.bel2 {w wr w1 w2 : World} {g gl q cap : Nat} {s : Int} {b : List UInt8} {j k : Nat} (h : SpI w wr g gl q cap s b j k) (hb1 : Below wr.heap.size wr w1) (g2 : w1.grownBy w2 (some g)) : Below w.heap.size w w2 := by
  have b1 : Below w.heap.size w w1 := h.bel.trans (hb1.mono h.bel.size)
  exact b1.grown g2 b1.size (fun x hx => by injection hx with hx; subst hx; exact own_block h.row rfl)
theorem SpI.at3 {w wr w1 w2 w3 : World} {g gl q cap : Nat} {s : Int} {b : List UInt8} {j k : Nat} (h : SpI w wr g gl q cap s b j k) (hb1 : Below wr.heap.size wr w1) (g2 : w1.grownBy w2 (some g)) (g3 : w2.grownBy w3 (some g)) (hj : j < q) :
    w3.frozen? ⟨gl, j, none⟩ = false /\ ∃ u, w3.cell? ⟨gl, j, none⟩ = some u := by
  obtain ⟨hk, row, ⟨vs, lrow, hv⟩, ne, bel⟩ := h
  have l1 := own_keep lrow hb1
  have l2 := l1.kept g2 (.inr (by intro e; injection e with e; exact ne e.symm))
  have l3 := l2.kept g3 (.inr (by intro e; injection e with e; exact ne e.symm))
  have hvl : vs.length = q := by have := lrow.1; omega
  refine ⟨l3.frozenAt j, vs[j], ?_⟩
  have := l3.cells (g := gl) rfl j _ (List.getElem?_eq_getElem (show j < vs.length by omega))
  rwa [Addr.add_lit, Nat.zero_add] at this
theorem SpI.done {w wr : World} {g gl q cap : Nat} {s : Int} {b : List UInt8} {k : Nat} (h : SpI w wr g gl q cap s b q k) : PcsV (fun x => w.heap.size <= x) wr (some ⟨gl, 0, none⟩) q (pcs q s b q) := by
  obtain ⟨hk, row, ⟨vs, lrow, hv⟩, ne, bel⟩ := h
  have hvl : vs.length = q := by have := lrow.1; omega
  have hgB := own_block row rfl
  obtain ⟨A, c, e, _, _, hr⟩ := Rd.of_own row rfl
  injection e with e1 e2 e3
  subst e1
  have key : HdL 1 (EPc (fun x => w.heap.size <= x) wr) vs (pcs q s b q) := HdL.of1 (by rw [hvl, pcs_len]) (fun i x hx => by
    obtain ⟨hi, rfl⟩ := pcs_some hx
    refine ⟨_, hv i hi, _, _, _, rfl, ⟨_, _, _, rfl, ?_, fun b' o' e hpos => ?_⟩, Nat.le_refl _⟩
    · have hle : (pcs q s b i).flatten.length + (piece q s b i).length <= k := by
        have h1 := flat_pcs q s b (i + 1)
        rw [pcs_succ, List.flatten_append, List.length_append] at h1
        simp only [List.flatten_cons, List.flatten_nil, List.append_nil] at h1
        have h2 := flat_pcs q s b q
        have h3 : min ((i + 1) * 460) b.length <= min (q * 460) b.length := by have := Nat.mul_le_mul_right 460 (show i + 1 <= q from hi); omega
        omega
      have := hr.part (lo := (pcs q s b i).flatten.length) (m := (piece q s b i).length) hle (some ⟨g, (pcs q s b i).flatten.length, none⟩) (fun _ b2 o2 e2 => by injection e2 with e2; injection e2 with e3 e4; subst e3 e4; rw [Nat.zero_add])
      rwa [flat_at hi] at this
    · injection e with e
      injection e with e
      subst e
      refine ⟨hgB, ?_⟩
      rcases row.2 with ⟨h3, _⟩ | ⟨g', cap', cur, h3, _, hh, _⟩
      · cases h3
      · injection h3 with h3
        injection h3 with h3
        injection h3 with h3
        subst h3
        exact (Array.getElem?_eq_some_iff.1 hh).1)
  obtain ⟨A2, c2, e', _, _, hR⟩ := own_rowsL lrow key (pcs_len q s b q)
  injection e' with e1
  subst e1
  obtain ⟨vs', h1, h2, h3⟩ := hR
  exact ⟨vs', h1, h2.mono (fun x hx => hx.1), h3⟩
def SplitP (w : World) (ls : List (List UInt8)) (e : Ending) (w' : World) : Prop := ∃ A n c, e = .returned (.slice A n c) /\ n <= c /\ PcsV (fun x => w.heap.size <= x) w' A n ls /\ Below w.heap.size w w'
set_option maxHeartbeats 2000000 in
theorem PSplit_any (A : Option Addr) (n c : Nat) (b : List UInt8) (s : Int) (w : World) (hr : Rd w A n b) (hc : n <= c) (hn : n <= 100000) :
    Calls Try.prog 75 #[.int .i64 s, .slice A n c] w (SplitP w (splitL s b)) := by
  have hl := hr.1
  obtain ⟨q, hq⟩ : ∃ q, q = needN n := ⟨_, rfl⟩
  have hqb := needN_bd n
  rw [<- hq] at hqb
  have hq2 : q <= 1024 := by omega
  have hS : splitL s b = pcs q (clampS s) b q := by rw [splitL_ok (by rw [hl, <- hq]; omega), hl, <- hq]
  rw [hS]
  have CN := hi_ (GNeed_any (n : Int) w (by omega))
  rw [needN_cast, <- hq] at CN
  have HR := hi_ hr
  have HL := hi_ hl
  have HQ := hi_ hqb
  have hzz : (s < 0 /\ clampS s = 0) \/ ((0 <= s /\ s <= 281474976710656) /\ clampS s = s) \/ (281474976710656 < s /\ clampS s = 281474976710656) := by unfold clampS; omega
  obtain ⟨z, hz⟩ : ∃ z, z = clampS s := ⟨_, rfl⟩
  rw [<- hz] at hzz ⊢
  clear hr hl hq hqb hS hz
  have CAP := hi_ (show (q : Int) * 12 + (n : Int) = ((q * 12 + n : Nat) : Int) by omega)
  rcases hzz with ⟨hs, hv⟩ | ⟨hs, hv⟩ | ⟨hs, hv⟩
  all_goals
    have HV := hi_ hv
    clear hv
    go_enter Try.func75, Try.ntmps75
    go_wp2_with (first
      | (go_at_call 87; refine CN.out.mono ?_; rintro e w' ⟨rfl, rfl⟩)
      | (at_make; refine wpList_mkc _ bytesT rfl (.const (.int .i64 0)) (.tmp 22) rfl w.heap.size .i64 .i64 _ (q * 12 + n) rfl rfl (by omega) (by omega) (by unfold maxLen; omega) (Nat.le_refl _) ?_; intro w1 ho1 hb1 hlt1)
      | (at_make; refine wpList_mkn _ rowsT rfl (.tmp 24) (.tmp 24) rfl w1.heap.size .i64 .i64 _ _ q rfl rfl rfl rfl (by omega) (by unfold maxLen; omega) (Nat.le_refl _) ?_; intro w2 ho2 hb2))
    have I0 : Hid (SpI w w2 w.heap.size w1.heap.size q (q * 12 + n) z b 0 0) := hi_ ⟨by simp [pcs], by
        have := own_keep ho1 hb2
        simpa [pcs, cells_nil] using this, ⟨_, own_mono ho2 hb1.size, fun i hi => absurd hi (Nat.not_lt_zero _)⟩, Nat.ne_of_lt hlt1, hb1.trans (hb2.mono hb1.size)⟩
    obtain ⟨g, hg⟩ : ∃ g, g = w.heap.size := ⟨_, rfl⟩
    obtain ⟨gl, hgl⟩ : ∃ g, g = w1.heap.size := ⟨_, rfl⟩
    rw [<- hgl] at I0 ⊢
    rw [<- hg] at I0 ⊢
    clear ho1 hb1 hlt1 ho2 hb2 hgl hg hs
    go_loopw [6, 28] (fun av iv wr => ∃ j k : Nat, j <= q /\ iv = .int .i64 j /\ av = .slice (some ⟨g, 0, none⟩) k (q * 12 + n) /\ Hid (SpI w wr g gl q (q * 12 + n) z b j k)) (fun _ iv _ => q - (intOf iv).toNat)
    case atStart => exact ⟨0, 0, Nat.zero_le _, rfl, rfl, I0⟩
    case round =>
      obtain ⟨j, k, hj, rfl, rfl, HI⟩ := hrel
      by_cases hjq : j < q
      · have hjn : j * 460 <= n := by have := HQ.out; omega
        have hk : k = 12 * j + min (j * 460) n := by have := HI.out.kk; rw [flat_pcs, HL.out] at this; exact this
        have hk1 : k + 12 <= q * 12 + n := by omega
        have hk2 : k + 12 + min 460 (n - j * 460) <= q * 12 + n := by omega
        have CH := hi_ (phead_any j q z wr)
        rw [HV.out] at CH
        obtain ⟨m, hm⟩ : ∃ m, m = min 460 (n - j * 460) := ⟨_, rfl⟩
        rw [<- hm] at hk2
        have HJ := hi_ hjn
        have HM := hi_ hm
        clear hk hjn hm
        go_wp2_with (first
          | (go_at_call 88; refine CH.out.mono ?_; rintro e w3 ⟨A1, c1, rfl, hr1, hb3⟩
             rw [<- HV.out] at hr1
             have R1 := hi_ (And.intro hr1 hb3)
             have O1 := hi_ (own_keep HI.out.row hb3)
             clear hr1 hb3)
          | (at_builtin; have _t := R1; refine wpList_appr _ bytesT rfl (.tmp 33) (.tmp 37) rfl w.heap.size g k (q * 12 + n) _ rfl O1.out A1 12 c1 _ rfl R1.out.1 hk1 ?_; intro w4 ho4 hg4
             have O4 := hi_ (And.intro ho4 hg4)
             have CO := hi_ (pown_any A n c b j w4 (HR.out.below (Nat.le_refl _) (HI.out.bel2 R1.out.2 hg4)) hc (by omega) HJ.out)
             rw [<- HM.out] at CO
             clear ho4 hg4)
          | (go_at_call 89; refine CO.out.mono ?_; rintro e w5 ⟨A2, c2, rfl, hr2, rfl⟩; have R2 := hi_ hr2; clear hr2)
          | (at_builtin; refine wpList_appr _ bytesT rfl (.tmp 39) (.tmp 42) rfl w.heap.size g (k + 12) (q * 12 + n) _ rfl O4.out.1 A2 m c2 _ rfl R2.out hk2 ?_; intro w6 ho6 hg6
             have O6 := hi_ (And.intro ho6 hg6)
             obtain ⟨f6, u6, c6⟩ := HI.out.at3 R1.out.2 O4.out.2 hg6 hjq
             clear ho6 hg6))
        go_roundw
        case rel =>
          refine ⟨j + 1, k + 12 + m, hjq, by go_num, rfl, ?_⟩
          exact hi_ (HI.out.next R1.out.2 O4.out.1 O4.out.2 O6.out.1 O6.out.2 hjq)
        case measure => simp [intOf]; omega
      · obtain rfl : j = q := by omega
        go_wp2
        go_ret
        exact ⟨_, _, _, rfl, Nat.le_refl _, HI.out.done, HI.out.bel⟩
end Go.Proofs.Ythabmlbmlncbmaa
namespace Go.Proofs.Ythabmlbmlncbmaa
open Go.RowKit
set_option linter.unusedVariables false
set_option maxRecDepth 20000
def JoinP (w : World) (r : Int × List UInt8 × Bool) (e : Ending) (w' : World) : Prop :=
  ∃ A n c, e = .returned (.tuple #[.int .i64 r.1, .slice A n c, .bool r.2.2]) /\ Rd w' A n r.2.1 /\ (n <= c /\ c <= maxLen /\ ∀ b o, A = some ⟨b, o, none⟩ -> 0 < n -> w.heap.size <= b) /\ Below w.heap.size w w'
theorem seqAt_succ {xs : List (List UInt8)} {j : Nat} {x : List UInt8} (h : xs[j]? = some x) : seqAt xs (j + 1) = sqn x := by
  unfold seqAt
  rw [if_neg (by omega), Nat.add_sub_cancel, List.getD_eq_getElem?_getD, h]
  rfl
theorem tails_take {xs : List (List UInt8)} {j : Nat} {x : List UInt8} (h : xs[j]? = some x) : tails (xs.take (j + 1)) = tails (xs.take j) ++ x.drop 12 := by
  rw [List.take_add_one, h, Option.toList_some, tails_snoc]
structure JnI (w wr : World) (bv : Value) (xs : List (List UInt8)) (j k : Nat) : Prop where
  hd : ∀ i x, i < j -> xs[i]? = some x -> HdOk x
  ow : wr.ownsRow w.heap.size 5 1 bv k (cells (tails (xs.take j)))
  kk : k <= 460 * j
  bel : Below w.heap.size w wr
theorem JnI.next {w wr w2 : World} {bv bv' : Value} {xs : List (List UInt8)} {j k m : Nat} {x : List UInt8} (h : JnI w wr bv xs j k) (hx : xs[j]? = some x) (hh : HdOk x) (hm : m = x.length - 12)
    (ho : w2.ownsRow w.heap.size 5 1 bv' (k + m) (cells (tails (xs.take j)) ++ cells (x.drop 12))) (hb : Below w.heap.size wr w2) : JnI w w2 bv' xs (j + 1) (k + m) := by
  refine ⟨fun i y hi hy => ?_, ?_, ?_, h.bel.trans hb⟩
  · by_cases hij : i = j
    · subst hij
      rw [hx] at hy
      exact (Option.some.inj hy) ▸ hh
    · exact h.hd i y (by omega) hy
  · rw [tails_take hx, cells_append]
    exact ho
  · have := h.kk
    have := hh.1.2
    omega
theorem hdT_yes {l : List UInt8} (h : HdOk l) : hdT l = .tuple #[.int .i64 (plc l), .int .i64 (cnt l), .int .i64 (sqn l), .bool true] := by unfold hdT; rw [if_pos h]
theorem hdT_no {l : List UInt8} (h : ¬ HdOk l) : hdT l = .tuple #[.int .i64 0, .int .i64 0, .int .i64 0, .bool false] := by unfold hdT; rw [if_neg h]
set_option maxHeartbeats 2000000 in
theorem PJoin_any {K : Nat -> Prop} (A : Option Addr) (n c : Nat) (xs : List (List UInt8)) (w : World) (h : PcsV K w A n xs) (hn : n <= 100) (hs : ∀ x ∈ xs, x.length <= 1000000) :
    Calls Try.prog 56 #[.slice A n c] w (JoinP w (joinL xs)) := by
  have H := hi_ h
  have HL := hi_ h.len
  have HS := hi_ hs
  clear h hs
  go_enter Try.func56, Try.ntmps56
  go_wp2
  go_loopw [2, 3, 9] (fun sv bv iv wr => ∃ j k : Nat, j <= n /\ iv = .int .i64 j /\ sv = .int .i64 (seqAt xs j) /\ Hid (JnI w wr bv xs j k)) (fun _ _ iv _ => n - (intOf iv).toNat)
  case atStart => exact ⟨0, 0, Nat.zero_le _, rfl, rfl, hi_ ⟨fun i x hi => absurd hi (Nat.not_lt_zero _), by simpa [tails, cells_nil] using World.ownsRow_nil _ _ _ _, Nat.le_refl _, Below.refl _ _⟩⟩
  case round =>
    obtain ⟨j, k, hj, rfl, rfl, HI⟩ := hrel
    by_cases hjn : j < n
    · obtain ⟨x, hx⟩ : ∃ x, xs[j]? = some x := ⟨_, List.getElem?_eq_getElem (by rw [HL.out]; exact hjn)⟩
      obtain ⟨b, o, PA, m, cc, rfl, hlt, hc, hr, hmc, _⟩ := (H.out.below HI.out.bel).cell hx
      have hxl := HS.out x (List.mem_of_getElem? hx)
      have hm := hr.1
      have CH := hi_ (PHead_any PA m cc x wr hr hmc (by omega))
      have HX := hi_ (And.intro hx (And.intro hr hmc))
      by_cases hh : HdOk x
      · rw [hdT_yes hh] at CH
        have h12 : 12 <= m /\ m <= 472 := by have := hh.1; omega
        have hkb : k <= 100000 := by have := HI.out.kk; omega
        have HH := hi_ hh
        have HM := hi_ hm
        have R1 : Hid (∀ A', (0 < m - 12 -> A' = PA.map fun x => x.add 12) -> Rd wr A' (m - 12) (x.drop 12)) := hi_ (fun A' hA => by
          have := hr.part (lo := 12) (m := m - 12) (by omega) A' (fun hp b o e => by rw [hA hp, e]; simp [Addr.add_lit])
          rwa [List.take_of_length_le (by rw [List.length_drop]; omega)] at this)
        have hcc : (cc = 12 /\ m = 12) \/ ¬ cc = 12 := by omega
        clear hr hh hm hxl hx hlt
        rcases hcc with ⟨rfl, rfl⟩ | hcc
        · go_wp2_with (first
            | (go_at_call 55; refine CH.out.mono ?_; rintro e w2 ⟨rfl, rfl⟩)
            | (at_builtin; refine wpList_app wr bytesT rfl (.tmp 22) (.tmp 24) rfl w.heap.size u3 k _ rfl HI.out.ow PA 0 0 (x.drop 12) rfl (R1.out _ (fun h => by omega)) (by omega) HI.out.bel.size ?_; intro v3 w3 ho3 hb3; have O3 := hi_ (And.intro ho3 hb3); clear ho3 hb3))
          go_roundw
          case rel => exact ⟨j + 1, k + 0, hjn, by go_num, by rw [seqAt_succ HX.out.1], hi_ (HI.out.next HX.out.1 HH.out (by rw [HM.out]) O3.out.1 O3.out.2)⟩
          case measure => simp [intOf]; omega
        · go_wp2_with (first
            | (go_at_call 55; refine CH.out.mono ?_; rintro e w2 ⟨rfl, rfl⟩)
            | (at_builtin; refine wpList_app wr bytesT rfl (.tmp 22) (.tmp 24) rfl w.heap.size u3 k _ rfl HI.out.ow (PA.map fun x => x.add 12) (m - 12) (cc - 12) (x.drop 12) rfl (R1.out _ (fun h => rfl)) (by omega) HI.out.bel.size ?_; intro v3 w3 ho3 hb3; have O3 := hi_ (And.intro ho3 hb3); clear ho3 hb3))
          go_roundw
          case rel => exact ⟨j + 1, k + (m - 12), hjn, by go_num, by rw [seqAt_succ HX.out.1], hi_ (HI.out.next HX.out.1 HH.out (by rw [HM.out]) O3.out.1 O3.out.2)⟩
          case measure => simp [intOf]; omega
      · rw [hdT_no hh] at CH
        have HH := hi_ hh
        clear hr hh hm hxl hx hlt
        go_wp2_with (go_at_call 55; refine CH.out.mono ?_; rintro e w2 ⟨rfl, rfl⟩)
        go_ret3
        have hj : joinL xs = (0, [], false) := joinL_no (fun s hg => HH.out (hg.2 j x HX.out.1).1)
        rw [hj]
        exact ⟨none, 0, 0, rfl, Rd.nil _ _, ⟨Nat.le_refl _, Nat.zero_le _, fun _ _ e => by cases e⟩, HI.out.bel⟩
    · obtain rfl : j = n := by omega
      have hT : xs.take j = xs := List.take_of_length_le (Nat.le_of_eq HL.out)
      have ho := HI.out.ow
      rw [hT] at ho
      have hk : k <= 46000 := by have := HI.out.kk; omega
      obtain ⟨BA, bc, hbv, hbc, hbm, hbr⟩ := Rd.of_own ho rfl
      subst hbv
      have CS := hi_ (PSplit_any BA k bc (tails xs) (seqAt xs j) wr hbr hbc (by omega))
      have HBR := hi_ (And.intro hbr (And.intro hbc (And.intro hbm (show ∀ b o, BA = some ⟨b, o, none⟩ -> 0 < k -> w.heap.size <= b from fun b o e _ => own_block ho e))))
      have hall : ∀ x ∈ xs, HdOk x := fun x hx => by
        obtain ⟨i, hi, e⟩ := List.getElem_of_mem hx
        exact HI.out.hd i x (by have := HL.out; omega) (by rw [List.getElem?_eq_getElem hi, e])
      have HJ : Hid (joinL xs = if xs = splitL (seqAt xs j) (tails xs) then (seqAt xs j, tails xs, true) else (0, [], false)) := hi_ (by
        have hgi := good_iff xs
        rw [HL.out] at hgi
        unfold joinL
        rw [HL.out]
        by_cases hq : xs = splitL (seqAt xs j) (tails xs)
        · rw [if_pos hq, if_pos (hgi.1 ⟨hall, hq⟩)]
        · rw [if_neg hq, if_neg (fun hg => hq (hgi.2 hg).2)])
      obtain ⟨ys, hys⟩ : ∃ ys, ys = splitL (seqAt xs j) (tails xs) := ⟨_, rfl⟩
      rw [<- hys] at CS HJ
      obtain ⟨sq, hsq⟩ : ∃ sq, sq = seqAt xs j := ⟨_, rfl⟩
      rw [<- hsq] at CS HJ ⊢
      have HB := hi_ HI.out.bel
      have hql : ys.length <= 1000000 := by
        rw [hys]
        unfold splitL
        have := needN_bd (tails xs).length
        split
        · simp
        · rw [pcs_len]; omega
      clear hys hsq hall hbr hbc hbm ho hT hk HI
      by_cases hq : xs = ys
      · rw [if_pos hq] at HJ
        have HQ := hi_ hq
        clear hq
        go_wp2_with (first
          | (go_at_call 75; refine CS.out.mono ?_; rintro e w2 ⟨SA, sn, sc, rfl, hsc, hsv, hsb⟩
             have hsn := hsv.len
             have CE := hi_ (EqF_any A SA j sn c sc xs ys w2 (H.out.below (HB.out.trans (hsb.mono HB.out.size))) hsv (by omega) (by omega))
             rw [decide_eq_true HQ.out] at CE
             have R2 := hi_ (And.intro (HBR.out.1.below (Nat.le_refl _) hsb) (HB.out.trans (hsb.mono HB.out.size)))
             clear hsn hsv hsb hsc)
          | (go_at_call 74; refine CE.out.mono ?_; rintro e w3 ⟨rfl, rfl⟩))
        go_ret3
        rw [HJ.out]
        exact ⟨BA, k, bc, rfl, R2.out.1, HBR.out.2, R2.out.2⟩
      · rw [if_neg hq] at HJ
        have HQ := hi_ hq
        clear hq
        go_wp2_with (first
          | (go_at_call 75; refine CS.out.mono ?_; rintro e w2 ⟨SA, sn, sc, rfl, hsc, hsv, hsb⟩
             have hsn := hsv.len
             have CE := hi_ (EqF_any A SA j sn c sc xs ys w2 (H.out.below (HB.out.trans (hsb.mono HB.out.size))) hsv (by omega) (by omega))
             rw [decide_eq_false HQ.out] at CE
             have R2 := hi_ (HB.out.trans (hsb.mono HB.out.size))
             clear hsn hsv hsb hsc)
          | (go_at_call 74; refine CE.out.mono ?_; rintro e w3 ⟨rfl, rfl⟩))
        go_ret3
        rw [HJ.out]
        exact ⟨none, 0, 0, rfl, Rd.nil _ _, ⟨Nat.le_refl _, Nat.zero_le _, fun _ _ e => by cases e⟩, R2.out⟩
end Go.Proofs.Ythabmlbmlncbmaa
