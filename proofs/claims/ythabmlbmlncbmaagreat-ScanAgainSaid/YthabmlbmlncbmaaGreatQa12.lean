/- ScF, ScH, ScI, PtE, ScJ, PtG -/
import Derived.Test.YthabmlbmlncbmaaGreatQa1
import Derived.Test.YthabmlbmlncbmaaGreatQa4
import Derived.Test.YthabmlbmlncbmaaGreatQa5
import Derived.Test.YthabmlbmlncbmaaGreatQa6
import Derived.Test.YthabmlbmlncbmaaGreatQa11
import Derived.BigQuiet
import Derived.Deep.DeepCutAuto
namespace Go.Proofs.YthabmlbmlncbmaaGreat
open Go.RowKit
set_option linter.unusedVariables false
set_option maxRecDepth 20000
def OneR (l : List (List UInt8)) (q e s most : Int) (w : World) (r : Ending) (w' : World) : Prop :=
  (∀ b m o, OneP okF l q e s most b m o -> ∃ (A : Option Addr) (k c : Nat), r = .returned (.tuple #[.slice A k c, .int .i64 (m : Int), .int .i64 o, .bool true]) /\ Rd w' A k b /\ (k <= c /\ ∀ b o, A = some ⟨b, o, none⟩ -> 0 < k -> w.heap.size <= b)) /\
  ((∀ b m o, ¬ OneP okF l q e s most b m o) -> r = .returned (.tuple #[.slice none 0 0, .int .i64 0, .int .i64 0, .bool false])) /\ Below w.heap.size w w'
section
variable {l : List (List UInt8)} {q e s most : Int} {b : List UInt8} {m : Nat} {o : Int}
theorem OneP.beg (h : OneP okF l q e s most b m o) : BegQ l q s := ⟨h.has, h.hd, h.pl, h.sq⟩
theorem OneP.rcq (h : OneP okF l q e s most b m o) : RcQ (bodies l q m) /\ b = (joinL (bodies l q m)).2.1 := by
  obtain ⟨z, hz⟩ := h.jn
  have h2 := h.fr
  unfold RcQ
  rw [hz]
  exact ⟨⟨rfl, h2⟩, rfl⟩
theorem OneP.allq (h : OneP okF l q e s most b m o) : AllQ l q o m := h.all
theorem OneP.mk2 (hb : BegQ l q s) (he : e <= cE (secAt l q)) (hm : cnt (cB (secAt l q)) = (m : Int)) (hmo : (m : Int) <= most) (ha : AllQ l q (cE (secAt l q)) m) (hr : RcQ (bodies l q m)) : OneP okF l q e s most (joinL (bodies l q m)).2.1 m (cE (secAt l q)) where
  has := hb.1
  hd := hb.2.1
  ep := he
  pl := hb.2.2.1
  sq := hb.2.2.2
  ct := hm
  mo := hmo
  ow := rfl
  all := ha
  jn := ⟨(joinL (bodies l q m)).1, by rw [<- hr.1]⟩
  fr := hr.2
theorem OneR.no {w w' : World} (h : ∀ b m o, ¬ OneP okF l q e s most b m o) (hb : Below w.heap.size w w') : OneR l q e s most w (.returned (.tuple #[.slice none 0 0, .int .i64 0, .int .i64 0, .bool false])) w' := ⟨fun b m o k => absurd k (h b m o), fun _ => rfl, hb⟩
theorem OneR.yes {w w' : World} {A : Option Addr} {k c : Nat} (h : OneP okF l q e s most b m o) (hr : Rd w' A k b) (hk : k <= c /\ ∀ b o, A = some ⟨b, o, none⟩ -> 0 < k -> w.heap.size <= b) (hb : Below w.heap.size w w') :
    OneR l q e s most w (.returned (.tuple #[.slice A k c, .int .i64 (m : Int), .int .i64 o, .bool true])) w' := by
  refine ⟨fun b' m' o' h' => ?_, fun hn => absurd h (hn b m o), hb⟩
  obtain ⟨rfl, rfl, rfl⟩ := h.one h'
  exact ⟨A, k, c, rfl, hr, hk⟩
end
section
variable (lg pg en gn : Int) (A : Option Addr) (n cap : Nat) (ks : List Kd) {K : Nat -> Prop} (LA : Option Addr) (ln lc : Nat) (xs : List (List UInt8)) (lsn ep s most : Int) (w : World)
set_option maxHeartbeats 2000000 in
theorem one_n0 {l : List (List UInt8)} (h : Log18 w A n ks K LA ln xs) (cH : LHasC lg pg en gn A n cap ks (K := K) LA ln lc xs l) (hl : l.length <= 100) (hq : ¬ BegQ l lsn s) :
    Calls Tryz.prog 26 #[cv lg pg en gn A n cap, .slice LA ln lc, .int .i64 lsn, .int .i64 ep, .int .i64 s, .int .i64 most] w (OneR l lsn ep s most w) := by
  obtain ⟨w1, hw1⟩ : ∃ w1, w1 = w.alloc (.cells (cc lg pg en gn A n cap) 24) := ⟨_, rfl⟩
  have C1 := CAt.new h.k lg pg en gn cap
  rw [<- hw1] at C1
  have HL := hi_ (h.below C1.bel)
  have CB := hi_ (begins_any lg pg en gn A n cap ks LA ln lc xs lsn s w1 HL.out cH)
  have HQ := hi_ hq
  have c0 := C1.c0
  have c1 := C1.c1
  have c2 := C1.c2
  have c3 := C1.c3
  have c4 := C1.c4
  have K1 := hi_ C1
  have HCH := hi_ cH
  have HLL := hi_ hl
  clear h C1 cH hq hl
  go_enter Tryz.func26, Tryz.ntmps26
  go_wp2_with (first
    | (rw [<- hw1]; clear hw1)
    | (go_at_call 41; refine CB.out.mono ?_; rintro e w2 hP; obtain rfl := hP.2.1 HQ.out
       have B2 := hi_ (K1.out.bel.trans (hP.2.2.mono K1.out.bel.size))
       clear hP)
    | (refine wpList_stseal rfl (.tmp 16) (.tmp 24) rfl rfl rfl (SealAt.new w2) ?_; intro w3 hS3 hB3 _
       have B3 := hi_ (B2.out.trans ((((Below.refl _ _).alloc (Nat.le_refl _) _).trans hB3).mono B2.out.size))
       clear hB3 hS3))
  refine bodyPost_ret (results_tmp4 rfl _ _ _) rfl ?_
  exact .no (fun b m o k => HQ.out k.beg) B3.out
set_option maxHeartbeats 2000000 in
theorem one_n1 {l : List (List UInt8)} {m : Nat} (h : Log18 w A n ks K LA ln xs) (cH : LHasC lg pg en gn A n cap ks (K := K) LA ln lc xs l) (hl : l.length <= 100) (hq : BegQ l lsn s) (hm : cnt (cB (secAt l lsn)) = (m : Int)) (he : ¬ ep <= cE (secAt l lsn)) :
    Calls Tryz.prog 26 #[cv lg pg en gn A n cap, .slice LA ln lc, .int .i64 lsn, .int .i64 ep, .int .i64 s, .int .i64 most] w (OneR l lsn ep s most w) := by
  obtain ⟨w1, hw1⟩ : ∃ w1, w1 = w.alloc (.cells (cc lg pg en gn A n cap) 24) := ⟨_, rfl⟩
  have C1 := CAt.new h.k lg pg en gn cap
  rw [<- hw1] at C1
  have HL := hi_ (h.below C1.bel)
  have CB := hi_ (begins_any lg pg en gn A n cap ks LA ln lc xs lsn s w1 HL.out cH)
  have HQ := hi_ hq
  have c0 := C1.c0
  have c1 := C1.c1
  have c2 := C1.c2
  have c3 := C1.c3
  have c4 := C1.c4
  have K1 := hi_ C1
  have HCH := hi_ cH
  have HLL := hi_ hl
  have HM := hi_ hm
  have hmb : 1 <= m /\ m <= 1024 := by have := hq.2.1.2.1; rw [hm] at this; omega
  obtain ⟨x, hx⟩ : ∃ x, x = cB (secAt l lsn) := ⟨_, rfl⟩
  obtain ⟨E, hE⟩ : ∃ E, E = cE (secAt l lsn) := ⟨_, rfl⟩
  rw [<- hE] at he
  have HX := hi_ hx
  have HE := hi_ hE
  have d1 : decide (E < ep) = true := decide_eq_true (by omega)
  have HN : Hid (∀ b m o, ¬ OneP okF l lsn ep s most b m o) := hi_ fun b m o k => he (by have := k.ep; rw [k.ow, <- hE] at this; exact this)
  have hq1 : HasQ l lsn := hq.1
  have HQ1 := hi_ hq1
  clear h C1 cH hq hl hx hE hm he hq1
  go_enter Tryz.func26, Tryz.ntmps26
  go_wp2_with (first
    | (rw [<- hw1]; clear hw1)
    | (go_at_call 41; refine CB.out.mono ?_; rintro e w2 hP; obtain ⟨A2, m2, c2', rfl, hr2, hm2⟩ := hP.1 HQ.out
       rw [<- HE.out, HM.out]
       have B2 := hi_ hP.2.2
       have R2 := hi_ (And.intro hr2 hm2)
       clear hP hr2 hm2)
    | (refine wpList_stseal rfl (.tmp 16) (.tmp 24) rfl rfl rfl (SealAt.new w2) ?_; intro w3 hS3 hB3 _
       have b3 : Below w1.heap.size w1 w3 := B2.out.trans ((((Below.refl _ _).alloc (Nat.le_refl _) _).trans hB3).mono B2.out.size)
       have k0 : w3.cell? ⟨w2.heap.size, 0, none⟩ = some (.int .i64 E) := cell_of_row _ _ _ _ _ _ hS3
       have K3 := hi_ (K1.out.next b3)
       have q0 := K3.out.c0
       have q1 := K3.out.c1
       have q2 := K3.out.c2
       have q3 := K3.out.c3
       have q4 := K3.out.c4
       have S3 := hi_ hS3
       have B3 := hi_ b3
       have R3 := hi_ (R2.out.1.below (Nat.le_refl _) (((Below.refl _ _).alloc (Nat.le_refl _) _).trans hB3))
       clear hB3 hS3 b3))
  refine bodyPost_ret (results_tmp4 rfl _ _ _) rfl ?_
  exact .no HN.out (K1.out.bel.trans (B3.out.mono K1.out.bel.size))
set_option maxHeartbeats 2000000 in
theorem one_n2 {l : List (List UInt8)} {m : Nat} (h : Log18 w A n ks K LA ln xs) (cH : LHasC lg pg en gn A n cap ks (K := K) LA ln lc xs l) (hl : l.length <= 100) (hq : BegQ l lsn s) (hm : cnt (cB (secAt l lsn)) = (m : Int)) (he : ep <= cE (secAt l lsn)) (hmo : ¬ (m : Int) <= most) :
    Calls Tryz.prog 26 #[cv lg pg en gn A n cap, .slice LA ln lc, .int .i64 lsn, .int .i64 ep, .int .i64 s, .int .i64 most] w (OneR l lsn ep s most w) := by
  obtain ⟨w1, hw1⟩ : ∃ w1, w1 = w.alloc (.cells (cc lg pg en gn A n cap) 24) := ⟨_, rfl⟩
  have C1 := CAt.new h.k lg pg en gn cap
  rw [<- hw1] at C1
  have HL := hi_ (h.below C1.bel)
  have CB := hi_ (begins_any lg pg en gn A n cap ks LA ln lc xs lsn s w1 HL.out cH)
  have HQ := hi_ hq
  have c0 := C1.c0
  have c1 := C1.c1
  have c2 := C1.c2
  have c3 := C1.c3
  have c4 := C1.c4
  have K1 := hi_ C1
  have HCH := hi_ cH
  have HLL := hi_ hl
  have HM := hi_ hm
  have hmb : 1 <= m /\ m <= 1024 := by have := hq.2.1.2.1; rw [hm] at this; omega
  obtain ⟨x, hx⟩ : ∃ x, x = cB (secAt l lsn) := ⟨_, rfl⟩
  obtain ⟨E, hE⟩ : ∃ E, E = cE (secAt l lsn) := ⟨_, rfl⟩
  rw [<- hE] at he
  have HX := hi_ hx
  have HE := hi_ hE
  have d1 : decide (E < ep) = false := decide_eq_false (by omega)
  have d2 : decide (most < (m : Int)) = true := decide_eq_true (by omega)
  have HN : Hid (∀ b m o, ¬ OneP okF l lsn ep s most b m o) := hi_ fun b m' o k => hmo (by have h1 := k.mo; have h2 := k.ct; rw [hm] at h2; omega)
  have hq1 : HasQ l lsn := hq.1
  have HQ1 := hi_ hq1
  clear h C1 cH hq hl hx hE hm he hq1 hmo
  go_enter Tryz.func26, Tryz.ntmps26
  go_wp2_with (first
    | (rw [<- hw1]; clear hw1)
    | (go_at_call 41; refine CB.out.mono ?_; rintro e w2 hP; obtain ⟨A2, m2, c2', rfl, hr2, hm2⟩ := hP.1 HQ.out
       rw [<- HE.out, HM.out]
       have B2 := hi_ hP.2.2
       have R2 := hi_ (And.intro hr2 hm2)
       clear hP hr2 hm2)
    | (refine wpList_stseal rfl (.tmp 16) (.tmp 24) rfl rfl rfl (SealAt.new w2) ?_; intro w3 hS3 hB3 _
       have b3 : Below w1.heap.size w1 w3 := B2.out.trans ((((Below.refl _ _).alloc (Nat.le_refl _) _).trans hB3).mono B2.out.size)
       have k0 : w3.cell? ⟨w2.heap.size, 0, none⟩ = some (.int .i64 E) := cell_of_row _ _ _ _ _ _ hS3
       have K3 := hi_ (K1.out.next b3)
       have q0 := K3.out.c0
       have q1 := K3.out.c1
       have q2 := K3.out.c2
       have q3 := K3.out.c3
       have q4 := K3.out.c4
       have S3 := hi_ hS3
       have B3 := hi_ b3
       have R3 := hi_ (R2.out.1.below (Nat.le_refl _) (((Below.refl _ _).alloc (Nat.le_refl _) _).trans hB3))
       clear hB3 hS3 b3))
  refine bodyPost_ret (results_tmp4 rfl _ _ _) rfl ?_
  exact .no HN.out (K1.out.bel.trans (B3.out.mono K1.out.bel.size))
set_option maxHeartbeats 2000000 in
theorem one_n3 {l : List (List UInt8)} {m : Nat} (h : Log18 w A n ks K LA ln xs) (cH : LHasC lg pg en gn A n cap ks (K := K) LA ln lc xs l) (hl : l.length <= 100) (hq : BegQ l lsn s) (hm : cnt (cB (secAt l lsn)) = (m : Int)) (he : ep <= cE (secAt l lsn)) (hmo : (m : Int) <= most) (ha : ¬ AllQ l lsn (cE (secAt l lsn)) m) :
    Calls Tryz.prog 26 #[cv lg pg en gn A n cap, .slice LA ln lc, .int .i64 lsn, .int .i64 ep, .int .i64 s, .int .i64 most] w (OneR l lsn ep s most w) := by
  obtain ⟨w1, hw1⟩ : ∃ w1, w1 = w.alloc (.cells (cc lg pg en gn A n cap) 24) := ⟨_, rfl⟩
  have C1 := CAt.new h.k lg pg en gn cap
  rw [<- hw1] at C1
  have HL := hi_ (h.below C1.bel)
  have CB := hi_ (begins_any lg pg en gn A n cap ks LA ln lc xs lsn s w1 HL.out cH)
  have HQ := hi_ hq
  have c0 := C1.c0
  have c1 := C1.c1
  have c2 := C1.c2
  have c3 := C1.c3
  have c4 := C1.c4
  have K1 := hi_ C1
  have HCH := hi_ cH
  have HLL := hi_ hl
  have HM := hi_ hm
  have hmb : 1 <= m /\ m <= 1024 := by have := hq.2.1.2.1; rw [hm] at this; omega
  obtain ⟨x, hx⟩ : ∃ x, x = cB (secAt l lsn) := ⟨_, rfl⟩
  obtain ⟨E, hE⟩ : ∃ E, E = cE (secAt l lsn) := ⟨_, rfl⟩
  rw [<- hE] at he ha
  have HX := hi_ hx
  have HE := hi_ hE
  have d1 : decide (E < ep) = false := decide_eq_false (by omega)
  have d2 : decide (most < (m : Int)) = false := decide_eq_false (by omega)
  have HN : Hid (∀ b m o, ¬ OneP okF l lsn ep s most b m o) := hi_ fun b m' o k => ha (by have h2 := k.ct; rw [hm] at h2; have h3 := k.ow; rw [<- hE] at h3; have h4 := k.allq; rw [h3, show m' = m by omega] at h4; exact h4)
  have HA := hi_ ha
  have hq1 : HasQ l lsn := hq.1
  have HQ1 := hi_ hq1
  clear h C1 cH hq hl hx hE hm he hq1 hmo ha
  go_enter Tryz.func26, Tryz.ntmps26
  go_wp2_with (first
    | (rw [<- hw1]; clear hw1)
    | (go_at_call 41; refine CB.out.mono ?_; rintro e w2 hP; obtain ⟨A2, m2, c2', rfl, hr2, hm2⟩ := hP.1 HQ.out
       rw [<- HE.out, HM.out]
       have B2 := hi_ hP.2.2
       have R2 := hi_ (And.intro hr2 hm2)
       clear hP hr2 hm2)
    | (refine wpList_stseal rfl (.tmp 16) (.tmp 24) rfl rfl rfl (SealAt.new w2) ?_; intro w3 hS3 hB3 _
       have b3 : Below w1.heap.size w1 w3 := B2.out.trans ((((Below.refl _ _).alloc (Nat.le_refl _) _).trans hB3).mono B2.out.size)
       have k0 : w3.cell? ⟨w2.heap.size, 0, none⟩ = some (.int .i64 E) := cell_of_row _ _ _ _ _ _ hS3
       have K3 := hi_ (K1.out.next b3)
       have q0 := K3.out.c0
       have q1 := K3.out.c1
       have q2 := K3.out.c2
       have q3 := K3.out.c3
       have q4 := K3.out.c4
       have S3 := hi_ hS3
       have B3 := hi_ b3
       have R3 := hi_ (R2.out.1.below (Nat.le_refl _) (((Below.refl _ _).alloc (Nat.le_refl _) _).trans hB3))
       clear hB3 hS3 b3)
    | (refine wpList_ldseal rfl (.tmp 16) rfl rfl S3.out ?_)
    | (go_at_call 42; refine (pieces_any lg pg en gn A n cap ks LA ln lc xs w3 (HL.out.below B3.out) HCH.out HQ1.out HE.out.symm hmb R3.out R2.out.2.2.1 HLL.out).mono ?_; rintro e w4 hP; obtain rfl := hP.2.1 HA.out
       have B4 := hi_ (B3.out.trans (hP.2.2.mono B3.out.size))
       clear hP))
  refine bodyPost_ret (results_tmp4 rfl _ _ _) rfl ?_
  exact .no HN.out (K1.out.bel.trans (B4.out.mono K1.out.bel.size))
set_option maxHeartbeats 2000000 in
theorem one_n4 {l : List (List UInt8)} {m : Nat} (h : Log18 w A n ks K LA ln xs) (cH : LHasC lg pg en gn A n cap ks (K := K) LA ln lc xs l) (hl : l.length <= 100) (hq : BegQ l lsn s) (hm : cnt (cB (secAt l lsn)) = (m : Int)) (he : ep <= cE (secAt l lsn)) (hmo : (m : Int) <= most) (ha : AllQ l lsn (cE (secAt l lsn)) m) (hj : ¬ RcQ (bodies l lsn m)) :
    Calls Tryz.prog 26 #[cv lg pg en gn A n cap, .slice LA ln lc, .int .i64 lsn, .int .i64 ep, .int .i64 s, .int .i64 most] w (OneR l lsn ep s most w) := by
  obtain ⟨w1, hw1⟩ : ∃ w1, w1 = w.alloc (.cells (cc lg pg en gn A n cap) 24) := ⟨_, rfl⟩
  have C1 := CAt.new h.k lg pg en gn cap
  rw [<- hw1] at C1
  have HL := hi_ (h.below C1.bel)
  have CB := hi_ (begins_any lg pg en gn A n cap ks LA ln lc xs lsn s w1 HL.out cH)
  have HQ := hi_ hq
  have c0 := C1.c0
  have c1 := C1.c1
  have c2 := C1.c2
  have c3 := C1.c3
  have c4 := C1.c4
  have K1 := hi_ C1
  have HCH := hi_ cH
  have HLL := hi_ hl
  have HM := hi_ hm
  have hmb : 1 <= m /\ m <= 1024 := by have := hq.2.1.2.1; rw [hm] at this; omega
  obtain ⟨x, hx⟩ : ∃ x, x = cB (secAt l lsn) := ⟨_, rfl⟩
  obtain ⟨E, hE⟩ : ∃ E, E = cE (secAt l lsn) := ⟨_, rfl⟩
  rw [<- hE] at he ha
  have HX := hi_ hx
  have HE := hi_ hE
  have d1 : decide (E < ep) = false := decide_eq_false (by omega)
  have d2 : decide (most < (m : Int)) = false := decide_eq_false (by omega)
  have HA := hi_ ha
  have hm100 : m <= 100 := Nat.le_trans (HasQ_len fun i hi => (ha i hi).1) hl
  have HJ := hi_ hj
  have HN : Hid (∀ b m o, ¬ OneP okF l lsn ep s most b m o) := hi_ fun b m' o k => hj (by have h2 := k.ct; rw [hm] at h2; have h4 := k.rcq.1; rw [show m' = m by omega] at h4; exact h4)
  have hq1 : HasQ l lsn := hq.1
  have HQ1 := hi_ hq1
  clear h C1 cH hq hl hx hE hm he hq1 hmo ha hj
  go_enter Tryz.func26, Tryz.ntmps26
  go_wp2_with (first
    | (rw [<- hw1]; clear hw1)
    | (go_at_call 41; refine CB.out.mono ?_; rintro e w2 hP; obtain ⟨A2, m2, c2', rfl, hr2, hm2⟩ := hP.1 HQ.out
       rw [<- HE.out, HM.out]
       have B2 := hi_ hP.2.2
       have R2 := hi_ (And.intro hr2 hm2)
       clear hP hr2 hm2)
    | (refine wpList_stseal rfl (.tmp 16) (.tmp 24) rfl rfl rfl (SealAt.new w2) ?_; intro w3 hS3 hB3 _
       have b3 : Below w1.heap.size w1 w3 := B2.out.trans ((((Below.refl _ _).alloc (Nat.le_refl _) _).trans hB3).mono B2.out.size)
       have k0 : w3.cell? ⟨w2.heap.size, 0, none⟩ = some (.int .i64 E) := cell_of_row _ _ _ _ _ _ hS3
       have K3 := hi_ (K1.out.next b3)
       have q0 := K3.out.c0
       have q1 := K3.out.c1
       have q2 := K3.out.c2
       have q3 := K3.out.c3
       have q4 := K3.out.c4
       have S3 := hi_ hS3
       have B3 := hi_ b3
       have R3 := hi_ (R2.out.1.below (Nat.le_refl _) (((Below.refl _ _).alloc (Nat.le_refl _) _).trans hB3))
       clear hB3 hS3 b3)
    | (refine wpList_ldseal rfl (.tmp 16) rfl rfl S3.out ?_)
    | (go_at_call 42; refine (pieces_any lg pg en gn A n cap ks LA ln lc xs w3 (HL.out.below B3.out) HCH.out HQ1.out HE.out.symm hmb R3.out R2.out.2.2.1 HLL.out).mono ?_; rintro e w4 hP; obtain ⟨A4, c4', rfl, hv4⟩ := hP.1 HA.out
       have B4 := hi_ (B3.out.trans (hP.2.2.mono B3.out.size))
       have S4 := hi_ (S3.out.below hP.2.2 S3.out.lt)
       have V4 := hi_ hv4
       clear hP hv4)
    | (go_at_call 43; refine (record_any A4 m c4' (bodies l lsn m) w4 V4.out hm100 (fun x hx => by obtain ⟨i, _, rfl⟩ := List.mem_map.1 hx; exact cB_len _)).mono ?_; rintro e w5 hP; obtain rfl := hP.2.1 HJ.out
       have B5 := hi_ (B4.out.trans (hP.2.2.mono B4.out.size))
       have S5 := hi_ (S4.out.below hP.2.2 S4.out.lt)
       have z0 : w5.cell? ⟨w2.heap.size, 0, none⟩ = some (.int .i64 E) := cell_of_row _ _ _ _ _ _ S5.out
       skip
       clear hP))
  refine bodyPost_ret (results_tmp4 rfl _ _ _) rfl ?_
  exact .no HN.out (K1.out.bel.trans (B5.out.mono K1.out.bel.size))
set_option maxHeartbeats 2000000 in
theorem one_yes {l : List (List UInt8)} {m : Nat} (h : Log18 w A n ks K LA ln xs) (cH : LHasC lg pg en gn A n cap ks (K := K) LA ln lc xs l) (hl : l.length <= 100) (hq : BegQ l lsn s) (hm : cnt (cB (secAt l lsn)) = (m : Int)) (he : ep <= cE (secAt l lsn)) (hmo : (m : Int) <= most) (ha : AllQ l lsn (cE (secAt l lsn)) m) (hj : RcQ (bodies l lsn m)) :
    Calls Tryz.prog 26 #[cv lg pg en gn A n cap, .slice LA ln lc, .int .i64 lsn, .int .i64 ep, .int .i64 s, .int .i64 most] w (OneR l lsn ep s most w) := by
  obtain ⟨w1, hw1⟩ : ∃ w1, w1 = w.alloc (.cells (cc lg pg en gn A n cap) 24) := ⟨_, rfl⟩
  have C1 := CAt.new h.k lg pg en gn cap
  rw [<- hw1] at C1
  have HL := hi_ (h.below C1.bel)
  have CB := hi_ (begins_any lg pg en gn A n cap ks LA ln lc xs lsn s w1 HL.out cH)
  have HQ := hi_ hq
  have c0 := C1.c0
  have c1 := C1.c1
  have c2 := C1.c2
  have c3 := C1.c3
  have c4 := C1.c4
  have K1 := hi_ C1
  have HCH := hi_ cH
  have HLL := hi_ hl
  have HM := hi_ hm
  have hmb : 1 <= m /\ m <= 1024 := by have := hq.2.1.2.1; rw [hm] at this; omega
  obtain ⟨x, hx⟩ : ∃ x, x = cB (secAt l lsn) := ⟨_, rfl⟩
  obtain ⟨E, hE⟩ : ∃ E, E = cE (secAt l lsn) := ⟨_, rfl⟩
  rw [<- hE] at he ha
  have HX := hi_ hx
  have HE := hi_ hE
  have d1 : decide (E < ep) = false := decide_eq_false (by omega)
  have d2 : decide (most < (m : Int)) = false := decide_eq_false (by omega)
  have HA := hi_ ha
  have hm100 : m <= 100 := Nat.le_trans (HasQ_len fun i hi => (ha i hi).1) hl
  have HJ := hi_ hj
  have HY : Hid (OneP okF l lsn ep s most (joinL (bodies l lsn m)).2.1 m E) := hi_ (by rw [hE]; rw [hE] at he ha; exact OneP.mk2 hq he hm hmo ha hj)
  have hq1 : HasQ l lsn := hq.1
  have HQ1 := hi_ hq1
  clear h C1 cH hq hl hx hE hm he hq1 hmo ha hj
  go_enter Tryz.func26, Tryz.ntmps26
  go_wp2_with (first
    | (rw [<- hw1]; clear hw1)
    | (go_at_call 41; refine CB.out.mono ?_; rintro e w2 hP; obtain ⟨A2, m2, c2', rfl, hr2, hm2⟩ := hP.1 HQ.out
       rw [<- HE.out, HM.out]
       have B2 := hi_ hP.2.2
       have R2 := hi_ (And.intro hr2 hm2)
       clear hP hr2 hm2)
    | (refine wpList_stseal rfl (.tmp 16) (.tmp 24) rfl rfl rfl (SealAt.new w2) ?_; intro w3 hS3 hB3 _
       have b3 : Below w1.heap.size w1 w3 := B2.out.trans ((((Below.refl _ _).alloc (Nat.le_refl _) _).trans hB3).mono B2.out.size)
       have k0 : w3.cell? ⟨w2.heap.size, 0, none⟩ = some (.int .i64 E) := cell_of_row _ _ _ _ _ _ hS3
       have K3 := hi_ (K1.out.next b3)
       have q0 := K3.out.c0
       have q1 := K3.out.c1
       have q2 := K3.out.c2
       have q3 := K3.out.c3
       have q4 := K3.out.c4
       have S3 := hi_ hS3
       have B3 := hi_ b3
       have R3 := hi_ (R2.out.1.below (Nat.le_refl _) (((Below.refl _ _).alloc (Nat.le_refl _) _).trans hB3))
       clear hB3 hS3 b3)
    | (refine wpList_ldseal rfl (.tmp 16) rfl rfl S3.out ?_)
    | (go_at_call 42; refine (pieces_any lg pg en gn A n cap ks LA ln lc xs w3 (HL.out.below B3.out) HCH.out HQ1.out HE.out.symm hmb R3.out R2.out.2.2.1 HLL.out).mono ?_; rintro e w4 hP; obtain ⟨A4, c4', rfl, hv4⟩ := hP.1 HA.out
       have B4 := hi_ (B3.out.trans (hP.2.2.mono B3.out.size))
       have S4 := hi_ (S3.out.below hP.2.2 S3.out.lt)
       have V4 := hi_ hv4
       clear hP hv4)
    | (go_at_call 43; refine (record_any A4 m c4' (bodies l lsn m) w4 V4.out hm100 (fun x hx => by obtain ⟨i, _, rfl⟩ := List.mem_map.1 hx; exact cB_len _)).mono ?_; rintro e w5 hP; obtain ⟨A5, m5, c5, rfl, hr5, hm5⟩ := hP.1 HJ.out
       have B5 := hi_ (B4.out.trans (hP.2.2.mono B4.out.size))
       have S5 := hi_ (S4.out.below hP.2.2 S4.out.lt)
       have z0 : w5.cell? ⟨w2.heap.size, 0, none⟩ = some (.int .i64 E) := cell_of_row _ _ _ _ _ _ S5.out
       have R5 := hi_ (And.intro hr5 (And.intro hm5.1 (fun b o e h0 => Nat.le_trans (Nat.le_trans K1.out.bel.size B4.out.size) (hm5.2.2 b o e h0))))
       clear hP hr5 hm5))
  go_quiet (fail)
  go_wp2
  refine bodyPost_ret (results_tmp4 rfl _ _ _) rfl ?_
  exact .yes HY.out (R5.out.1.below (Nat.le_refl _) (below_drewNc _ _)) R5.out.2 ((K1.out.bel.trans (B5.out.mono K1.out.bel.size)).trans ((below_drewNc _ _).mono (K1.out.bel.trans (B5.out.mono K1.out.bel.size)).size))
theorem One_any {l : List (List UInt8)} (h : Log18 w A n ks K LA ln xs) (cH : LHasC lg pg en gn A n cap ks (K := K) LA ln lc xs l) (hl : l.length <= 100) :
    Calls Tryz.prog 26 #[cv lg pg en gn A n cap, .slice LA ln lc, .int .i64 lsn, .int .i64 ep, .int .i64 s, .int .i64 most] w (OneR l lsn ep s most w) := by
  by_cases hq : BegQ l lsn s
  · obtain ⟨m, hm⟩ : ∃ m : Nat, cnt (cB (secAt l lsn)) = (m : Int) := ⟨(cnt (cB (secAt l lsn))).toNat, by have := hq.2.1.2.1; omega⟩
    by_cases he : ep <= cE (secAt l lsn)
    · by_cases hmo : (m : Int) <= most
      · by_cases ha : AllQ l lsn (cE (secAt l lsn)) m
        · by_cases hj : RcQ (bodies l lsn m)
          · exact one_yes lg pg en gn A n cap ks LA ln lc xs lsn ep s most w h cH hl hq hm he hmo ha hj
          · exact one_n4 lg pg en gn A n cap ks LA ln lc xs lsn ep s most w h cH hl hq hm he hmo ha hj
        · exact one_n3 lg pg en gn A n cap ks LA ln lc xs lsn ep s most w h cH hl hq hm he hmo ha
      · exact one_n2 lg pg en gn A n cap ks LA ln lc xs lsn ep s most w h cH hl hq hm he hmo
    · exact one_n1 lg pg en gn A n cap ks LA ln lc xs lsn ep s most w h cH hl hq hm he
  · exact one_n0 lg pg en gn A n cap ks LA ln lc xs lsn ep s most w h cH hl hq
end
end Go.Proofs.YthabmlbmlncbmaaGreat
namespace Go.Proofs.YthabmlbmlncbmaaGreat
open Go.RowKit
set_option linter.unusedVariables false
set_option maxRecDepth 20000
theorem tlT : RT Tryz.prog 33 4 := ⟨⟨_, Tryz.underlying33, rfl⟩, by kernel_rfl⟩
theorem PcG.fr {w wr w' : World} {lv : Value} {xs : List (List UInt8)} {vs : List Value} {D : Nat -> Prop} {g : Nat} (h : PcG w wr lv xs vs D) (hF : Fr (· = g) wr w') (ho : lv.ownBlock ≠ some g) (hd : ¬ D g) (hw : w.heap.size <= g) : PcG w w' lv xs vs D where
  gr := {
    Bw := Nat.le_trans h.gr.Bw hF.size
    ow := World.ownsRow.kept h.gr.ow (⟨hF.os, hF.tape, hF.output, hF.size, fun k hk hn => hF.block k hk (fun e => hn (by rw [e]))⟩ : wr.grownBy w' (some g)) (.inr ho)
    hd := h.gr.hd.imp fun _ _ hx => EPc.ok.stays hx ⟨hF.size, fun y hy => hF.block y (h.gr.dx y hy).1 (fun e => hd (e ▸ hy))⟩
    dx := fun y hy => ⟨Nat.lt_of_lt_of_le (h.gr.dx y hy).1 hF.size, (h.gr.dx y hy).2⟩ }
  bel := h.bel.trans (hF.toBelow (fun x e => by rw [e]; exact hw) h.bel.size)
theorem PcG.putK {w wr w2 w3 : World} {lv lv' : Value} {xs : List (List UInt8)} {vs : List Value} {D K : Nat -> Prop} {x : List UInt8} {A : Option Addr} {m c : Nat} {t : TypeId} (h : PcG w wr lv xs vs D) (hb : Below wr.heap.size wr w2) (hr : Rd w2 A m x) (hc : m <= c)
    (hK : ∀ b o, A = some ⟨b, o, none⟩ -> 0 < m -> K b) (hKo : ∀ y, K y -> lv.ownBlock ≠ some y) (ho : w3.ownsRow w.heap.size 42 1 lv' (xs.length + 1) (vs ++ [.slice A m c])) (hg : (w2.alloc (.cells #[.slice A m c] t)).grownBy w3 lv.ownBlock)
    (hv : lv'.ownBlock = lv.ownBlock \/ lv'.ownBlock = some (w2.alloc (.cells #[.slice A m c] t)).heap.size) : ∃ vs' D', PcG w w3 lv' (xs ++ [x]) vs' D' /\ ∀ y, D' y -> D y \/ K y := by
  have hb' : Below wr.heap.size wr (w2.alloc (.cells #[.slice A m c] t)) := hb.trans ((Below.refl _ w2).alloc hb.size _)
  have g2 := h.gr.below EPc.ok hb'
  have hx : EPc K (w2.alloc (.cells #[.slice A m c] t)) x [.slice A m c] := by
    have hr' := hr.alloc (.cells #[.slice A m c] t)
    refine ⟨A, m, c, rfl, ⟨A, m, c, rfl, hr', fun b o e hm => ⟨hK b o e hm, ?_⟩⟩, hc⟩
    obtain ⟨b', o', e', hlt, _⟩ := hr'.2 hm
    rw [e] at e'
    injection e' with e'
    injection e' with e1 e2
    rw [e1]
    exact hlt
  have g3 := g2.put EPc.ok (r := [.slice A m c]) rfl hx hKo ho hg hv
  refine ⟨_, _, ⟨g3, ?_⟩, fun y hy => hy.imp id (fun k => k.1)⟩
  have b2 : Below w.heap.size w (w2.alloc (.cells #[.slice A m c] t)) := h.bel.trans (hb'.mono h.bel.size)
  exact b2.grown hg b2.size (fun k hk => (own_geB h.gr.ow hk).1)
structure TlG (w wr : World) (g r : Nat) (lv : Value) (xs : List (List UInt8)) (vs : List Value) (D : Nat -> Prop) (T E Q : Int) : Prop where
  pc : PcG w wr lv xs vs D
  rc : Rec 33 wr g #[lv, .int .i64 T, .int .i64 E, .int .i64 Q]
  og : lv.ownBlock ≠ some g
  dd : ∀ y, D y -> y ≠ g /\ r < y
  gg : w.heap.size <= g
section
variable {w wr w5 w9 w' : World} {g r : Nat} {lv lv' : Value} {xs : List (List UInt8)} {vs : List Value} {D : Nat -> Prop} {T E Q : Int}
theorem TlG.rec9 {cs : Array Value} {t : TypeId} (h : TlG w wr g r lv xs vs D T E Q) (hb : Below wr.heap.size wr w5) (hg : (w5.alloc (.cells cs t)).grownBy w9 lv.ownBlock) : Rec 33 w9 g #[lv, .int .i64 T, .int .i64 E, .int .i64 Q] := by
  have h1 : Rec 33 (w5.alloc (.cells cs t)) g #[lv, .int .i64 T, .int .i64 E, .int .i64 Q] := (h.rc.under hb).under ((Below.refl _ _).alloc (Nat.le_refl _) _)
  exact h1.block (hg.block g h1.lt (fun e => h.og e.symm))
theorem TlG.next (h : TlG w wr g r lv xs vs D T E Q) (hb : Below wr.heap.size wr w5) {x : List UInt8} {A : Option Addr} {m c : Nat} {t : TypeId} (hr : Rd w5 A m x) (hc : m <= c)
    (hK : ∀ b o, A = some ⟨b, o, none⟩ -> 0 < m -> (b < w.heap.size \/ wr.heap.size <= b) /\ r < b) (ho : w9.ownsRow w.heap.size 42 1 lv' (xs.length + 1) (vs ++ [.slice A m c])) (hg : (w5.alloc (.cells #[.slice A m c] t)).grownBy w9 lv.ownBlock)
    (hv : lv'.ownBlock = lv.ownBlock \/ lv'.ownBlock = some (w5.alloc (.cells #[.slice A m c] t)).heap.size) (T' E' Q' : Int) :
    ∃ vs' D', TlG w ((((w9.setCell ⟨g, 0, none⟩ lv').setCell ⟨g, 1, none⟩ (.int .i64 T')).setCell ⟨g, 2, none⟩ (.int .i64 E')).setCell ⟨g, 3, none⟩ (.int .i64 Q')) g r lv' (xs ++ [x]) vs' D' T' E' Q' := by
  have hlt := h.rc.lt
  have hsz := hb.size
  obtain ⟨vs', D', p, hD⟩ := h.pc.putK (K := fun y => (y < w.heap.size \/ wr.heap.size <= y) /\ r < y) hb hr hc hK (fun y hy e => by have := own_geB h.pc.gr.ow e; rcases hy.1 with q | q <;> omega) ho hg hv
  have hdd : ∀ y, D' y -> y ≠ g /\ r < y := fun y hy => by
    rcases hD y hy with q | q
    · exact h.dd y q
    · have := h.gg
      exact ⟨by rcases q.1 with q | q <;> omega, q.2⟩
  have hog : lv'.ownBlock ≠ some g := by
    rcases hv with q | q
    · rw [q]; exact h.og
    · rw [q]
      intro e
      injection e with e
      simp at e
      omega
  have hF : Fr (· = g) w9 ((((w9.setCell ⟨g, 0, none⟩ lv').setCell ⟨g, 1, none⟩ (.int .i64 T')).setCell ⟨g, 2, none⟩ (.int .i64 E')).setCell ⟨g, 3, none⟩ (.int .i64 Q')) :=
    (((Fr.setCell (own := (· = g)) w9 (p := ⟨g, 0, none⟩) rfl _).trans (Fr.setCell (own := (· = g)) _ (p := ⟨g, 1, none⟩) rfl _)).trans (Fr.setCell (own := (· = g)) _ (p := ⟨g, 2, none⟩) rfl _)).trans (Fr.setCell (own := (· = g)) _ (p := ⟨g, 3, none⟩) rfl _)
  refine ⟨vs', D', p.fr hF hog (fun k => (hdd g k).1 rfl) h.gg, ?_, hog, hdd, h.gg⟩
  exact ((((h.rec9 hb hg).set 0 lv').set 1 (.int .i64 T')).set 2 (.int .i64 E')).set 3 (.int .i64 Q')
theorem TlG.done (h : TlG w wr g r lv xs vs D T E Q) (hr : r < w.heap.size) (hF : Fr (· = r) wr w') : ∃ A c, lv = .slice A xs.length c /\ xs.length <= c /\ PcsV (fun y => r <= y) w' A xs.length xs := by
  obtain ⟨A, c, e, h1, h2, h3⟩ := h.pc.gr.rows EPc.ok
  refine ⟨A, c, e, h1, PcsV.mono (PcsV.stays (K := fun x => D x \/ (w.heap.size <= x /\ x < wr.heap.size)) h3 ⟨hF.size, fun y hy => ?_⟩) fun y hy => ?_⟩
  rotate_left 1
  · rcases hy with q | q
    · exact Nat.le_of_lt (h.dd y q).2
    · exact Nat.le_of_lt (Nat.lt_of_lt_of_le hr q.1)
  rcases hy with q | q
  · exact hF.block y (h.pc.gr.dx y q).1 (fun e => by have := (h.dd y q).2; omega)
  · exact hF.block y q.2 (by omega)
end
def PreS (l : List (List UInt8)) (til n e s : Int) (bs : List (List UInt8)) (T E Q : Int) : Prop := ∀ cs T' E' Q', Scn okF l til T E Q cs T' E' Q' -> Scn okF l til n e s (bs ++ cs) T' E' Q'
theorem PreS.start (l : List (List UInt8)) (til n e s : Int) : PreS l til n e s [] n e s := fun cs T' E' Q' h => h
theorem PreS.next {l : List (List UInt8)} {til n e s : Int} {bs : List (List UInt8)} {T E Q : Int} {b : List UInt8} {m : Nat} {o : Int} (h : PreS l til n e s bs T E Q) (h1 : OneP okF l T E Q (til - T) b m o) : PreS l til n e s (bs ++ [b]) (T + m) o (Q + 1) := fun cs T' E' Q' k => by
  rw [List.append_assoc]
  exact h _ _ _ _ (.go h1 k)
theorem PreS.stop {l : List (List UInt8)} {til n e s : Int} {bs : List (List UInt8)} {T E Q : Int} (h : PreS l til n e s bs T E Q) (h1 : ∀ b m o, ¬ OneP okF l T E Q (til - T) b m o) : Scn okF l til n e s bs T E Q := by
  have := h _ _ _ _ (.stop h1)
  rwa [List.append_nil] at this
structure ScI (l : List (List UInt8)) (lg n e s : Int) (bs : List (List UInt8)) (T E Q : Int) : Prop where
  pre : PreS l (n + lg) n e s bs T E Q
  few : (bs.length : Int) <= T - n
  at_ : T = n \/ (0 <= n /\ n <= 281474976710656 /\ 0 <= T - n /\ T - n <= lg /\ lg <= 1024)
theorem ScI.start (l : List (List UInt8)) (lg n e s : Int) : ScI l lg n e s [] n e s := ⟨PreS.start _ _ _ _ _, by simp, .inl rfl⟩
theorem ScI.next {l : List (List UInt8)} {lg n e s : Int} {bs : List (List UInt8)} {T E Q : Int} {b : List UInt8} {m : Nat} {o : Int} (h : ScI l lg n e s bs T E Q) (hlg : ∀ x, HasQ l x -> lg <= 1024) (h1 : OneP okF l T E Q (n + lg - T) b m o) : ScI l lg n e s (bs ++ [b]) (T + m) o (Q + 1) := by
  have h2 := h1.has.1
  have h3 := hlg _ h1.has
  have h4 := h1.pos
  have h5 := h1.mo
  have h6 := h.few
  refine ⟨h.pre.next h1, by rw [List.length_append, List.length_singleton]; omega, .inr ?_⟩
  rcases h.at_ with q | q <;> omega
theorem OneP.seqr {l : List (List UInt8)} {q e s most : Int} {b : List UInt8} {m : Nat} {o : Int} (h : OneP okF l q e s most b m o) : 0 <= s /\ s <= 281474976710656 := by have := h.hd.2.2.2; rw [h.sq] at this; exact this
def ScanR (l : List (List UInt8)) (lg n e s : Int) (w : World) (r : Ending) (w' : World) : Prop :=
  ∃ (bs : List (List UInt8)) (T E Q : Int) (A : Option Addr) (k c : Nat), r = .returned (.agg #[.slice A k c, .int .i64 T, .int .i64 E, .int .i64 Q]) /\ Scn okF l (n + lg) n e s bs T E Q /\ PcsV (fun y => w.heap.size <= y) w' A k bs /\ k <= c /\ bs.length <= 1024 /\ Below w.heap.size w w'
theorem boxTl {lg pg en gn : Int} {A : Option Addr} {n cap : Nat} {ks : List Kd} (w : World) (h : KRd w A n ks) :
    ∃ w1, w1 = (w.alloc (.cells (cc lg pg en gn A n cap) 24)).alloc (.cells #[.slice none 0 0, .int .i64 0, .int .i64 0, .int .i64 0] 33) /\ CAt w w1 w.heap.size lg pg en gn A n cap ks /\ Rec 33 w1 (w.heap.size + 1) #[.slice none 0 0, .int .i64 0, .int .i64 0, .int .i64 0] := by
  refine ⟨_, rfl, (CAt.new h lg pg en gn cap).next ((Below.refl _ _).alloc (Nat.le_refl _) _), ?_⟩
  have := Rec.new (w.alloc (.cells (cc lg pg en gn A n cap) 24)) 33 #[.slice none 0 0, .int .i64 0, .int .i64 0, .int .i64 0]
  rwa [World.size_alloc] at this
theorem TlG.start {w w' : World} {g r : Nat} {T E Q : Int} (hb : Below w.heap.size w w') (hr : Rec 33 w' g #[.slice none 0 0, .int .i64 T, .int .i64 E, .int .i64 Q]) (hg : w.heap.size <= g) : TlG w w' g r (.slice none 0 0) [] [] (fun _ => False) T E Q :=
  ⟨⟨Gr.start (World.ownsRow_nil _ _ _ _) hb.size, hb⟩, hr, (by simp [Value.ownBlock]), fun _ h => h.elim, hg⟩
section
variable (lg pg en gn : Int) (A : Option Addr) (n cap : Nat) (ks : List Kd) {K : Nat -> Prop} (LA : Option Addr) (ln lc : Nat) (xs : List (List UInt8)) (hd0 ep s : Int) (w : World)
def OneC (f : FuncId) (l : List (List UInt8)) : Prop := ∀ (q e s most : Int) (W : World), Log18 W A n ks K LA ln xs -> Calls Tryz.prog f #[cv lg pg en gn A n cap, .slice LA ln lc, .int .i64 q, .int .i64 e, .int .i64 s, .int .i64 most] W (OneR l q e s most W)
set_option maxHeartbeats 4000000 in
theorem Scan_any {l : List (List UInt8)} (h : Log18 w A n ks K LA ln xs) (cO : OneC lg pg en gn A n cap ks (K := K) LA ln lc xs 26 l) (hlg : ∀ x, HasQ l x -> 0 <= lg /\ lg <= 1024) :
    Calls Tryz.prog 11 #[cv lg pg en gn A n cap, .slice LA ln lc, .int .i64 hd0, .int .i64 ep, .int .i64 s] w (ScanR l lg hd0 ep s w) := by
  obtain ⟨w1, hw1, C1, Z1⟩ := boxTl (lg := lg) (pg := pg) (en := en) (gn := gn) (cap := cap) w h.k
  have HL := hi_ (h.below C1.bel)
  have HCO := hi_ cO
  have HLG := hi_ hlg
  have K1 := hi_ C1
  have HZ := hi_ Z1
  clear h C1 Z1 cO hlg
  go_enter Tryz.func11, Tryz.ntmps11
  go_wp2_with (first
    | (rw [<- hw1]; clear hw1))
  go_step3
  go_wp2_with (first
    | ((with_reducible refine wpList_stS (cs' := #[.slice none 0 0, .int .i64 hd0, .int .i64 ep, .int .i64 s]) tlT rfl rfl (by simp [Value.oneCell']) rfl (.tmp 11) (.tmp 20) rfl rfl rfl (Rec.new w1 _ _) ?_); intro w2 hR2 hF2
       have B2 := hi_ (((Below.refl _ w1).alloc (Nat.le_refl _) _).trans (hF2.toBelow (B := w1.heap.size) (fun x e => by rw [e]; exact Nat.le_refl _) (by simp)))
       have R2 := hi_ hR2
       clear hR2 hF2))
  go_step3
  go_wp2
  simp only [Act.put]
  have I0 : Hid (TlG w1 w2 w1.heap.size (w.heap.size + 1) (.slice none 0 0) [] [] (fun _ => False) hd0 ep s) := hi_ (TlG.start B2.out R2.out (Nat.le_refl _))
  have hzlt := HZ.out.lt
  have HZL := hi_ hzlt
  obtain ⟨g, hg⟩ : ∃ g, g = w1.heap.size := ⟨_, rfl⟩
  rw [<- hg] at I0 ⊢
  have HGE := hi_ hg
  clear hg hzlt R2 B2
  go_loopw [12] (fun _ wr => ∃ (bs : List (List UInt8)) (T E Q : Int) (lv : Value) (vs : List Value) (D : Nat -> Prop), Hid (TlG w1 wr g (w.heap.size + 1) lv bs vs D T E Q) /\ Hid (ScI l lg hd0 ep s bs T E Q)) (fun _ wr => (hd0 + lg - intOf ((wr.cell? ⟨g, 1, none⟩).getD undef)).toNat)
  case atStart => exact ⟨[], hd0, ep, s, _, [], _, I0, hi_ (ScI.start _ _ _ _ _)⟩
  case round =>
    obtain ⟨bs, T, E, Q, lv, vs, D, HI, HS⟩ := hrel
    obtain ⟨RA, rc, rfl, _, _, _⟩ := own_vrow HI.out.pc.gr.ow
    have BW := hi_ HI.out.pc.bel
    have KW := hi_ (K1.out.next BW.out)
    have kc0 := KW.out.c0
    have kc1 := KW.out.c1
    have kc2 := KW.out.c2
    have kc3 := KW.out.c3
    have kc4 := KW.out.c4
    have z0 : wr.cell? ⟨g, 0, none⟩ = some (.slice RA bs.length rc) := HI.out.rc.at_ 0
    have z1 : wr.cell? ⟨g, 1, none⟩ = some (.int .i64 T) := HI.out.rc.at_ 1
    have z2 : wr.cell? ⟨g, 2, none⟩ = some (.int .i64 E) := HI.out.rc.at_ 2
    have z3 : wr.cell? ⟨g, 3, none⟩ = some (.int .i64 Q) := HI.out.rc.at_ 3
    obtain ⟨d, hd⟩ : ∃ d, d = T - hd0 := ⟨_, rfl⟩
    obtain ⟨L, hL⟩ : ∃ L, L = wrap64 (lg - d) := ⟨_, rfl⟩
    have hdr : d = 0 \/ (0 <= d /\ d <= lg /\ lg <= 1024) := by have := HS.out.at_; omega
    have f1 : T - hd0 = d := hd.symm
    have f2 : wrap64 d = d := by unfold wrap64; omega
    have f3 : IntKind.i64.wrap d = d := by rw [wrapEq]; exact f2
    have f5 : wrap64 (lg - d) = L := hL.symm
    have f6 : IntKind.i64.wrap (lg - d) = L := by rw [wrapEq]; exact f5
    have HLE : Hid (∀ b m o, OneP okF l T E Q L b m o ↔ OneP okF l T E Q (hd0 + lg - T) b m o) := hi_ fun b m o => by
      by_cases hq : HasQ l T
      · have h1 := HLG.out _ hq
        have h2 := hq.1
        have : L = hd0 + lg - T := by rw [hL]; unfold wrap64; omega
        rw [this]
      · exact ⟨fun k => absurd k.has hq, fun k => absurd k.has hq⟩
    have CW := hi_ (HCO.out T E Q L wr (HL.out.below BW.out))
    clear hdr hd hL
    by_cases hex : ∃ b m o, OneP okF l T E Q (hd0 + lg - T) b m o
    · obtain ⟨b, m, o, hO⟩ := hex
      have HO := hi_ hO
      have hN := HS.out.next (b := b) (m := m) (o := o) (fun x hx => (HLG.out x hx).2) hO
      have HN := hi_ hN
      have hb1 := hO.has.1
      have hb2 := hO.seqr
      have hb3 : m <= 1024 := by have := hO.hd.2.1.2; rw [hO.ct] at this; omega
      have hb4 : bs.length <= 2000 := by have h1 := HN.out.few; have h2 := HN.out.at_; have h3 := hO.pos; rw [List.length_append, List.length_singleton] at h1; omega
      obtain ⟨T2, hT2⟩ : ∃ T2, T2 = T + (m : Int) := ⟨_, rfl⟩
      obtain ⟨Q2, hQ2⟩ : ∃ Q2, Q2 = Q + 1 := ⟨_, rfl⟩
      have e1 : T + (m : Int) = T2 := hT2.symm
      have e2 : wrap64 T2 = T2 := by unfold wrap64; omega
      have e3 : IntKind.i64.wrap T2 = T2 := by rw [wrapEq]; exact e2
      have e4 : Q + 1 = Q2 := hQ2.symm
      have e5 : wrap64 Q2 = Q2 := by unfold wrap64; omega
      have e6 : IntKind.i64.wrap Q2 = Q2 := by rw [wrapEq]; exact e5
      have HM : Hid (T < T2 /\ T2 <= hd0 + lg) := hi_ (by have := hO.pos; have := hO.mo; omega)
      rw [<- hT2, <- hQ2] at hN
      have HN2 := hi_ hN
      clear hO hN hT2 hQ2 HN hb1 hb2
      go_wp2_with (first
        | (go_at_call 26; refine CW.out.mono ?_; rintro e w5 hP; obtain ⟨A5, k5, c5, rfl, hr5, hk5⟩ := hP.1 b m o ((HLE.out b m o).2 HO.out)
           have R5 := hi_ (And.intro hP.2.2 (And.intro hr5 (And.intro hk5.1 (fun b o e h0 => (⟨Or.inr (hk5.2 b o e h0), by have h1 := hk5.2 b o e h0; have h2 := BW.out.size; have h3 := HZL.out; omega⟩ : (b < w1.heap.size \/ wr.heap.size <= b) /\ w.heap.size + 1 < b)))))
           have hR5 := HI.out.rc.under hP.2.2
           have y0 : w5.cell? ⟨g, 0, none⟩ = some (.slice RA bs.length rc) := hR5.at_ 0
           clear hP hr5 hk5 hR5)
        | (at_builtin; have _t := R5; refine wpList_appX (K := fun y => w5.heap.size <= y) rowsT rfl (.tmp 44) (.tmp 46) rfl w1.heap.size (.slice RA bs.length rc) bs.length vs rfl (HI.out.pc.own (cs := #[.slice A5 k5 c5]) (t := 42) R5.out.1) (some ⟨w5.heap.size, 0, none⟩) 1 1 [.slice A5 k5 c5] rfl (VRow.new w5 #[.slice A5 k5 c5] _ 1 1 rfl) (fun u hu => by simp at hu; rw [hu]; rfl) (by omega) (by decide) (by simp; exact Nat.le_succ_of_le (BW.out.trans (R5.out.1.mono BW.out.size)).size) ?_; intro v9 w9 ho9 hg9 hv9
           obtain ⟨A9, c9, rfl, _, _, _⟩ := own_vrow ho9
           have O9 := hi_ (And.intro ho9 (And.intro hg9 hv9))
           have hQ9 := HI.out.rec9 R5.out.1 hg9
           have x0 : w9.cell? ⟨g, 0, none⟩ = some (.slice RA bs.length rc) := hQ9.at_ 0
           have x1 : w9.cell? ⟨g, 1, none⟩ = some (.int .i64 T) := hQ9.at_ 1
           have x2 : w9.cell? ⟨g, 2, none⟩ = some (.int .i64 E) := hQ9.at_ 2
           have x3 : w9.cell? ⟨g, 3, none⟩ = some (.int .i64 Q) := hQ9.at_ 3
           have y0 : w9.frozen? ⟨g, 0, none⟩ = false := hQ9.fz 0
           have y1 : w9.frozen? ⟨g, 1, none⟩ = false := hQ9.fz 1
           have y2 : w9.frozen? ⟨g, 2, none⟩ = false := hQ9.fz 2
           have y3 : w9.frozen? ⟨g, 3, none⟩ = false := hQ9.fz 3
           have Q9 := hi_ hQ9
           clear ho9 hg9 hv9 hQ9))
      go_roundw
      case rel =>
        obtain ⟨vs', D', h'⟩ := HI.out.next R5.out.1 R5.out.2.1 R5.out.2.2.1 R5.out.2.2.2 O9.out.1 O9.out.2.1 O9.out.2.2 T2 o Q2
        exact ⟨_, T2, o, Q2, _, vs', D', hi_ h', HN2⟩
      case measure =>
        have q1 : ((((w9.setCell ⟨g, 0, none⟩ (.slice A9 (bs.length + 1) c9)).setCell ⟨g, 1, none⟩ (.int .i64 T2)).setCell ⟨g, 2, none⟩ (.int .i64 o)).setCell ⟨g, 3, none⟩ (.int .i64 Q2)).cell? ⟨g, 1, none⟩ = some (.int .i64 T2) := ((((Q9.out.set 0 (.slice A9 (bs.length + 1) c9)).set 1 (.int .i64 T2)).set 2 (.int .i64 o)).set 3 (.int .i64 Q2)).at_ 1
        have q2 := HM.out
        rw [q1, z1]
        simp only [Option.getD_some, intOf]
        omega
    · have HNO : Hid (∀ b m o, ¬ OneP okF l T E Q L b m o) := hi_ fun b m o k => hex ⟨b, m, o, (HLE.out b m o).1 k⟩
      have HF := hi_ (HS.out.pre.stop (fun b m o k => hex ⟨b, m, o, k⟩))
      have HFEW : Hid (bs.length <= 1024) := hi_ (by have h1 := HS.out.few; have h2 := HS.out.at_; omega)
      clear hex
      go_wp2_with (first
        | (go_at_call 26; refine CW.out.mono ?_; rintro e w5 hP; obtain rfl := hP.2.1 HNO.out
           have B5 := hi_ hP.2.2
           have HZ5 := hi_ (HZ.out.below (BW.out.trans (hP.2.2.mono BW.out.size)) HZL.out)
           have HT5 := hi_ (HI.out.rc.under hP.2.2)
           clear hP)
        | ((with_reducible refine wpList_ldS tlT rfl rfl (.tmp 11) rfl rfl HT5.out ?_))
        | ((with_reducible refine wpList_stS (cs' := #[.slice RA bs.length rc, .int .i64 T, .int .i64 E, .int .i64 Q]) tlT rfl rfl (by simp [Value.oneCell']) rfl (.tmp 10) (.tmp 63) rfl rfl rfl HZ5.out ?_); intro w8 hR8 hF8
           have R8 := hi_ hR8
           have F8 := hi_ hF8
           clear hR8 hF8))
      rw [Exit.noGoto_ret]
      refine bodyPost_ret (res_c rfl rfl (R8.out.load tlT rfl)) rfl ?_
      obtain ⟨A9, c9, he, hc9, hv9⟩ := (show TlG w1 w5 g (w.heap.size + 1) (.slice RA bs.length rc) bs vs D T E Q from ⟨HI.out.pc.below B5.out, HI.out.rc.under B5.out, HI.out.og, HI.out.dd, HI.out.gg⟩).done HZL.out F8.out
      exact ⟨bs, T, E, Q, A9, bs.length, c9, by rw [he], HF.out, PcsV.mono hv9 (fun y hy => Nat.le_of_succ_le hy), hc9, HFEW.out, (K1.out.bel.trans ((BW.out.trans (B5.out.mono BW.out.size)).mono K1.out.bel.size)).trans (F8.out.toBelow (fun x e => by rw [e]; omega) (K1.out.bel.trans ((BW.out.trans (B5.out.mono BW.out.size)).mono K1.out.bel.size)).size)⟩
end
end Go.Proofs.YthabmlbmlncbmaaGreat
namespace Go.Proofs.YthabmlbmlncbmaaGreat
open Go.RowKit
set_option linter.unusedVariables false
set_option maxRecDepth 20000
theorem OneR.uni {l : List (List UInt8)} {q e s most : Int} {w w' : World} {r : Ending} (h : OneR l q e s most w r w') :
    ∃ (A : Option Addr) (k c : Nat) (m' o' : Int) (ok : Bool), r = .returned (.tuple #[.slice A k c, .int .i64 m', .int .i64 o', .bool ok]) /\
      (ok = true -> ∃ b m, m' = (m : Nat) /\ OneP okF l q e s most b m o' /\ Rd w' A k b /\ (k <= c /\ ∀ b o, A = some ⟨b, o, none⟩ -> 0 < k -> w.heap.size <= b)) /\ (ok = false -> ∀ b m o, ¬ OneP okF l q e s most b m o) /\ Below w.heap.size w w' := by
  by_cases hex : ∃ b m o, OneP okF l q e s most b m o
  · obtain ⟨b, m, o, hO⟩ := hex
    obtain ⟨A, k, c, rfl, hr, hk⟩ := h.1 b m o hO
    exact ⟨A, k, c, m, o, true, rfl, fun _ => ⟨b, m, rfl, hO, hr, hk⟩, fun h => absurd h (by decide), h.2.2⟩
  · exact ⟨none, 0, 0, 0, 0, false, h.2.1 fun b m o k => hex ⟨b, m, o, k⟩, fun h => absurd h (by decide), fun _ b m o k => hex ⟨b, m, o, k⟩, h.2.2⟩
theorem rd_lt {w : World} {b o k : Nat} {l : List UInt8} (h : Rd w (some ⟨b, o, none⟩) k l) (hk : 0 < k) : b < w.heap.size := by
  obtain ⟨b', o', e', hlt, _⟩ := h.2 hk
  injection e' with e'
  injection e' with e1 e2
  rw [e1]
  exact hlt
structure FndI (l : List (List UInt8)) (til T E Q : Int) (w2 wp wr : World) (r : Nat) (A : Option Addr) (k c : Nat) (m' o' : Int) (ok : Bool) : Prop where
  bel : Below wp.heap.size wp wr
  yes : ok = true -> ∃ b m, m' = (m : Nat) /\ OneP okF l T E Q (til - T) b m o' /\ Rd wr A k b /\ (k <= c /\ ∀ b o, A = some ⟨b, o, none⟩ -> 0 < k -> (b < w2.heap.size \/ wp.heap.size <= b) /\ r < b)
  no : ok = false -> ∀ b m o, ¬ OneP okF l T E Q (til - T) b m o
section
variable (lg pg en gn : Int) (A : Option Addr) (n cap : Nat) (ks : List Kd) {K : Nat -> Prop} (LA : Option Addr) (ln lc : Nat) (xs : List (List UInt8)) (hd0 ep s : Int) (w : World)
set_option maxHeartbeats 4000000 in
theorem RScan_any {l : List (List UInt8)} (h : Log18 w A n ks K LA ln xs) (cO : OneC lg pg en gn A n cap ks (K := K) LA ln lc xs 25 l) (hlg : ∀ x, HasQ l x -> 0 <= lg /\ lg <= 1024) :
    Calls Tryz.prog 9 #[cv lg pg en gn A n cap, .slice LA ln lc, .int .i64 hd0, .int .i64 ep, .int .i64 s] w (ScanR l lg hd0 ep s w) := by
  obtain ⟨w1, hw1, C1, Z1⟩ := boxTl (lg := lg) (pg := pg) (en := en) (gn := gn) (cap := cap) w h.k
  have HL := hi_ (h.below C1.bel)
  have HCO := hi_ cO
  have HLG := hi_ hlg
  have c0 := C1.c0
  have c1 := C1.c1
  have c2 := C1.c2
  have c3 := C1.c3
  have c4 := C1.c4
  have K1 := hi_ C1
  have HZ := hi_ Z1
  have hzlt := Z1.lt
  have HZL := hi_ hzlt
  have CW0 := hi_ (HCO.out hd0 ep s lg w1 HL.out)
  clear h C1 Z1 cO hlg hzlt
  go_enter Tryz.func9, Tryz.ntmps9
  go_wp2_with (first
    | (rw [<- hw1]; clear hw1)
    | (go_at_call 25; have _t := CW0; refine CW0.out.mono ?_; rintro e w2 hP; obtain ⟨A2, k2, c2', m2, o2, ok2, rfl, hy2, hn2, hb2⟩ := hP.uni
       have P2 := hi_ (And.intro hy2 (And.intro hn2 hb2))
       clear hP hy2 hn2 hb2 CW0)
    | ((with_reducible refine wpList_stS (cs' := #[.slice none 0 0, .int .i64 hd0, .int .i64 ep, .int .i64 s]) tlT rfl rfl (by simp [Value.oneCell']) rfl (.tmp 15) (.tmp 32) rfl rfl rfl (Rec.new w2 _ _) ?_); intro w3 hR3 hF3
       have B3 := hi_ (((Below.refl _ w2).alloc (Nat.le_refl _) _).trans (hF3.toBelow (B := w2.heap.size) (fun x e => by rw [e]; exact Nat.le_refl _) (by simp)))
       have R3 := hi_ hR3
       clear hR3 hF3))
  simp only [Act.put]
  have I0 : Hid (TlG w2 w3 w2.heap.size (w.heap.size + 1) (.slice none 0 0) [] [] (fun _ => False) hd0 ep s) := hi_ (TlG.start B3.out R3.out (Nat.le_refl _))
  have F0 : Hid (FndI l (hd0 + lg) hd0 ep s w2 w3 w3 (w.heap.size + 1) A2 k2 c2' m2 o2 ok2) := hi_ (by
    have e : hd0 + lg - hd0 = lg := by omega
    refine ⟨Below.refl _ _, fun hk => ?_, fun hk => by rw [e]; exact P2.out.2.1 hk⟩
    obtain ⟨b, m, h1, h2, h3, h4, h5⟩ := P2.out.1 hk
    rw [e]
    refine ⟨b, m, h1, h2, h3.below (Nat.le_refl _) B3.out, h4, fun bb oo ee h0 => ?_⟩
    subst ee
    exact ⟨.inl (rd_lt h3 h0), by have := h5 bb oo rfl h0; have := HZL.out; omega⟩)
  obtain ⟨g, hg⟩ : ∃ g, g = w2.heap.size := ⟨_, rfl⟩
  rw [<- hg] at I0 ⊢
  have BP := hi_ P2.out.2.2
  have HGE := hi_ hg
  clear hg R3 B3 P2 c0 c1 c2 c3 c4
  go_loopw [11, 12, 13, 14] (fun bv cv ov kv wr => ∃ (bs : List (List UInt8)) (T E Q : Int) (lv : Value) (vs : List Value) (D : Nat -> Prop) (wp : World) (A5 : Option Addr) (k5 c5 : Nat) (m5 o5 : Int) (ok5 : Bool), bv = .slice A5 k5 c5 /\ cv = .int .i64 m5 /\ ov = .int .i64 o5 /\ kv = .bool ok5 /\
    Hid (TlG w2 wp g (w.heap.size + 1) lv bs vs D T E Q) /\ Hid (ScI l lg hd0 ep s bs T E Q) /\ Hid (FndI l (hd0 + lg) T E Q w2 wp wr (w.heap.size + 1) A5 k5 c5 m5 o5 ok5)) (fun _ _ _ _ wr => (hd0 + lg - intOf ((wr.cell? ⟨g, 1, none⟩).getD undef)).toNat)
  case atStart => exact ⟨[], hd0, ep, s, _, [], _, w3, A2, k2, c2', m2, o2, ok2, rfl, rfl, rfl, rfl, I0, hi_ (ScI.start _ _ _ _ _), F0⟩
  case round =>
    obtain ⟨bs, T, E, Q, lv, vs, D, wp, A5, k5, c5, m5, o5, ok5, rfl, rfl, rfl, rfl, HI, HS, HF⟩ := hrel
    obtain ⟨RA, rc, rfl, _, _, _⟩ := own_vrow HI.out.pc.gr.ow
    have BW := hi_ (HI.out.pc.bel.trans (HF.out.bel.mono HI.out.pc.bel.size))
    have BW1 := hi_ (BP.out.trans (BW.out.mono BP.out.size))
    have HTr := hi_ (HI.out.rc.under HF.out.bel)
    have z0 : wr.cell? ⟨g, 0, none⟩ = some (.slice RA bs.length rc) := HTr.out.at_ 0
    have z1 : wr.cell? ⟨g, 1, none⟩ = some (.int .i64 T) := HTr.out.at_ 1
    have Z1' := hi_ z1
    cases ok5
    · have HF2 := hi_ (HS.out.pre.stop (HF.out.no rfl))
      have HFEW : Hid (bs.length <= 1024) := hi_ (by have h1 := HS.out.few; have h2 := HS.out.at_; omega)
      have HZ5 := hi_ (HZ.out.below BW1.out HZL.out)
      go_wp2_with (first
        | ((with_reducible refine wpList_ldS tlT rfl rfl (.tmp 15) rfl rfl HTr.out ?_))
        | ((with_reducible refine wpList_stS (cs' := #[.slice RA bs.length rc, .int .i64 T, .int .i64 E, .int .i64 Q]) tlT rfl rfl (by simp [Value.oneCell']) rfl (.tmp 10) (.tmp 72) rfl rfl rfl HZ5.out ?_); intro w8 hR8 hF8
           have R8 := hi_ hR8
           have F8 := hi_ hF8
           clear hR8 hF8))
      refine bodyPost_ret (res_c rfl rfl (R8.out.load tlT rfl)) rfl ?_
      obtain ⟨A9, c9, he, hc9, hv9⟩ := (show TlG w2 wr g (w.heap.size + 1) (.slice RA bs.length rc) bs vs D T E Q from ⟨HI.out.pc.below HF.out.bel, HTr.out, HI.out.og, HI.out.dd, HI.out.gg⟩).done (Nat.lt_of_lt_of_le HZL.out BP.out.size) F8.out
      exact ⟨bs, T, E, Q, A9, bs.length, c9, by rw [he], HF2.out, PcsV.mono hv9 (fun y hy => Nat.le_of_succ_le hy), hc9, HFEW.out, (K1.out.bel.trans (BW1.out.mono K1.out.bel.size)).trans (F8.out.toBelow (fun x e => by rw [e]; omega) (K1.out.bel.trans (BW1.out.mono K1.out.bel.size)).size)⟩
    · obtain ⟨b, m, rfl, hO, hr5, hk5, hK5⟩ := HF.out.yes rfl
      have hN := HS.out.next (b := b) (m := m) (o := o5) (fun x hx => (HLG.out x hx).2) hO
      have HN := hi_ hN
      have hb1 := hO.has.1
      have hb2 := hO.seqr
      have hb3 : m <= 1024 := by have := hO.hd.2.1.2; rw [hO.ct] at this; omega
      have hb4 : bs.length <= 2000 := by have h1 := HN.out.few; have h2 := HN.out.at_; have h3 := hO.pos; rw [List.length_append, List.length_singleton] at h1; omega
      obtain ⟨T2, hT2⟩ : ∃ T2, T2 = T + (m : Int) := ⟨_, rfl⟩
      obtain ⟨Q2, hQ2⟩ : ∃ Q2, Q2 = Q + 1 := ⟨_, rfl⟩
      obtain ⟨u, hu⟩ : ∃ u, u = hd0 + lg := ⟨_, rfl⟩
      obtain ⟨L2, hL2⟩ : ∃ L2, L2 = u - T2 := ⟨_, rfl⟩
      have hur : 0 <= hd0 /\ hd0 <= 281474976710656 /\ 0 <= lg /\ lg <= 1024 /\ T < T2 /\ T2 <= u := by
        have h1 := HLG.out _ hO.has
        have h2 := hO.pos
        have h3 := hO.mo
        have h4 := HS.out.at_
        omega
      have e1 : T + (m : Int) = T2 := hT2.symm
      have e2 : wrap64 T2 = T2 := by unfold wrap64; omega
      have e3 : IntKind.i64.wrap T2 = T2 := by rw [wrapEq]; exact e2
      have e4 : Q + 1 = Q2 := hQ2.symm
      have e5 : wrap64 Q2 = Q2 := by unfold wrap64; omega
      have e6 : IntKind.i64.wrap Q2 = Q2 := by rw [wrapEq]; exact e5
      have e7 : hd0 + lg = u := hu.symm
      have e8 : wrap64 u = u := by unfold wrap64; omega
      have e9 : IntKind.i64.wrap u = u := by rw [wrapEq]; exact e8
      have g7 : u - T2 = L2 := hL2.symm
      have g8 : wrap64 L2 = L2 := by unfold wrap64; omega
      have g9 : IntKind.i64.wrap L2 = L2 := by rw [wrapEq]; exact g8
      have HM : Hid (T < T2 /\ T2 <= hd0 + lg) := hi_ (by omega)
      have HLE : Hid (hd0 + lg - T2 = L2) := hi_ (by omega)
      rw [<- hT2, <- hQ2] at hN
      have HN2 := hi_ hN
      have R5 := hi_ (And.intro HF.out.bel (And.intro hr5 (And.intro hk5 hK5)))
      clear hO hN hT2 hQ2 HN hb1 hb2 hu hL2 hr5 hk5 hK5 hur
      go_upto_region 8 with (first
        | (at_builtin; have _t := R5; refine wpList_appX (K := fun y => wr.heap.size <= y) rowsT rfl (.tmp 35) (.tmp 37) rfl w2.heap.size (.slice RA bs.length rc) bs.length vs rfl (HI.out.pc.own (cs := #[.slice A5 k5 c5]) (t := 42) R5.out.1) (some ⟨wr.heap.size, 0, none⟩) 1 1 [.slice A5 k5 c5] rfl (VRow.new wr #[.slice A5 k5 c5] _ 1 1 rfl) (fun u hu => by simp at hu; rw [hu]; rfl) (by omega) (by decide) (by simp; exact Nat.le_succ_of_le BW.out.size) ?_; intro v9 w9 ho9 hg9 hv9
           obtain ⟨A9, c9, rfl, _, _, _⟩ := own_vrow ho9
           have O9 := hi_ (And.intro ho9 (And.intro hg9 hv9))
           have hQ9 := HI.out.rec9 R5.out.1 hg9
           have x0 : w9.cell? ⟨g, 0, none⟩ = some (.slice RA bs.length rc) := hQ9.at_ 0
           have x1 : w9.cell? ⟨g, 1, none⟩ = some (.int .i64 T) := hQ9.at_ 1
           have x2 : w9.cell? ⟨g, 2, none⟩ = some (.int .i64 E) := hQ9.at_ 2
           have x3 : w9.cell? ⟨g, 3, none⟩ = some (.int .i64 Q) := hQ9.at_ 3
           have y0 : w9.frozen? ⟨g, 0, none⟩ = false := hQ9.fz 0
           have y1 : w9.frozen? ⟨g, 1, none⟩ = false := hQ9.fz 1
           have y2 : w9.frozen? ⟨g, 2, none⟩ = false := hQ9.fz 2
           have y3 : w9.frozen? ⟨g, 3, none⟩ = false := hQ9.fz 3
           clear ho9 hg9 hv9 hQ9))
      obtain ⟨vs', D', h10⟩ := HI.out.next R5.out.1 R5.out.2.1 R5.out.2.2.1 R5.out.2.2.2 O9.out.1 O9.out.2.1 O9.out.2.2 T2 o5 Q2
      generalize hw10 : ((((w9.setCell ⟨g, 0, none⟩ (.slice A9 (bs.length + 1) c9)).setCell ⟨g, 1, none⟩ (.int .i64 T2)).setCell ⟨g, 2, none⟩ (.int .i64 o5)).setCell ⟨g, 3, none⟩ (.int .i64 Q2)) = w10 at h10
      have B10 := hi_ (BP.out.trans (h10.pc.bel.mono BP.out.size))
      have K10 := hi_ (K1.out.next B10.out)
      have kc0 := K10.out.c0
      have kc1 := K10.out.c1
      have kc2 := K10.out.c2
      have kc3 := K10.out.c3
      have kc4 := K10.out.c4
      have v1 : w10.cell? ⟨g, 1, none⟩ = some (.int .i64 T2) := h10.rc.at_ 1
      have v2 : w10.cell? ⟨g, 2, none⟩ = some (.int .i64 o5) := h10.rc.at_ 2
      have v3 : w10.cell? ⟨g, 3, none⟩ = some (.int .i64 Q2) := h10.rc.at_ 3
      have CW := hi_ (HCO.out T2 o5 Q2 L2 w10 (HL.out.below B10.out))
      have H10 := hi_ h10
      clear h10 z0 z1
      clear hw10
      go_wp2_with (first
        | (go_at_call 25; refine CW.out.mono ?_; rintro e w11 hP; obtain ⟨A11, k11, c11, m11, o11, ok11, rfl, hy11, hn11, hb11⟩ := hP.uni
           have P11 := hi_ (And.intro hy11 (And.intro hn11 hb11))
           clear hP hy11 hn11 hb11))
      go_roundw
      case rel =>
        refine ⟨_, T2, o5, Q2, _, vs', D', w10, A11, k11, c11, m11, o11, ok11, rfl, rfl, rfl, rfl, H10, HN2, hi_ ⟨P11.out.2.2, fun hk => ?_, fun hk => by rw [HLE.out]; exact P11.out.2.1 hk⟩⟩
        obtain ⟨b', m', h1, h2, h3, h4, h5⟩ := P11.out.1 hk
        rw [HLE.out]
        exact ⟨b', m', h1, h2, h3, h4, fun bb oo ee h0 => ⟨.inr (h5 bb oo ee h0), by have h6 := h5 bb oo ee h0; have h7 := HZL.out; have h8 := B10.out.size; omega⟩⟩
      case measure =>
        have q1 : w11.cell? ⟨g, 1, none⟩ = some (.int .i64 T2) := (H10.out.rc.under P11.out.2.2).at_ 1
        have q2 := HM.out
        rw [q1, Z1'.out]
        simp only [Option.getD_some, intOf]
        omega
end
end Go.Proofs.YthabmlbmlncbmaaGreat
namespace Go.Proofs.YthabmlbmlncbmaaGreat
open Go.RowKit
set_option linter.unusedVariables false
set_option maxRecDepth 20000
section
variable {K K' : Nat -> Prop} (A A' : Option Addr) (n n' c c' : Nat) (xs ys : List (List UInt8)) (w : World)
theorem RSameP_any (h : PcsV K w A n xs) (h' : PcsV K' w A' n' ys) (hn : n <= 1000000) (hn' : n' <= 1000000) :
    Calls Tryz.prog 12 #[.slice A n c, .slice A' n' c'] w fun e w' => e = .returned (.bool (decide (xs = ys))) /\ Below w.heap.size w w' := by
  have H := hi_ (And.intro h h')
  have hl := h.len
  have hl' := h'.len
  have HL := hi_ (And.intro hl hl')
  by_cases hnn : n = n'
  · subst hnn
    clear h h' hl hl'
    go_enter Tryz.func12, Tryz.ntmps12
    go_wp2
    go_loopw [5] (fun iv wr => ∃ j : Nat, j <= n /\ iv = .int .i64 j /\ Hid (∀ i, i < j -> xs[i]? = ys[i]?) /\ Below w.heap.size w wr) (fun iv _ => n - (intOf iv).toNat)
    case atStart => exact ⟨0, Nat.zero_le _, rfl, hi_ (fun i hi => absurd hi (Nat.not_lt_zero _)), Below.refl _ _⟩
    case round =>
      obtain ⟨j, hj, rfl, HS, hb⟩ := hrel
      have HB := hi_ hb.drew
      by_cases hjn : j < n
      · obtain ⟨x, hx⟩ : ∃ x, xs[j]? = some x := ⟨_, List.getElem?_eq_getElem (by rw [HL.out.1]; exact hjn)⟩
        obtain ⟨y, hy⟩ : ∃ y, ys[j]? = some y := ⟨_, List.getElem?_eq_getElem (by rw [HL.out.2]; exact hjn)⟩
        have hbd : Below w.heap.size w wr.drew := hb.drew
        obtain ⟨b, o, PA, m, cc, rfl, hlt, hc, hr, hmc, _⟩ := (H.out.1.below hbd).cell hx
        obtain ⟨b', o', PA', m', cc', rfl, hlt', hc', hr', hmc', _⟩ := (H.out.2.below hbd).cell hy
        have CE := hi_ (Same_any PA PA' m cc m' cc' x y wr.drew hr hr')
        have HX := hi_ (And.intro hx hy)
        clear hr hr' hmc hmc' hx hy hlt hlt' hb hbd
        by_cases hxy : x = y
        · rw [decide_eq_true hxy] at CE
          go_upto_region 6 with fail
          go_region_held3 (fun W => W.cell? ⟨b, o + j, none⟩ = some (.slice PA m cc) /\ W.cell? ⟨b', o' + j, none⟩ = some (.slice PA' m' cc')) (first | with_reducible exact ⟨hc, hc'⟩ | go_keep) (first | (go_at_call 24; refine CE.out.mono ?_; rintro e w2 ⟨rfl, rfl⟩))
          go_wp2
          go_roundw
          case rel =>
            refine ⟨j + 1, hjn, by go_num, hi_ (fun i hi => ?_), HB.out⟩
            by_cases hij : i = j
            · subst hij; rw [HX.out.1, HX.out.2, hxy]
            · exact HS.out i (by omega)
          case measure => simp [intOf]; omega
        · rw [decide_eq_false hxy] at CE
          go_upto_region 6 with fail
          go_region_held3 (fun W => W.cell? ⟨b, o + j, none⟩ = some (.slice PA m cc) /\ W.cell? ⟨b', o' + j, none⟩ = some (.slice PA' m' cc')) (first | with_reducible exact ⟨hc, hc'⟩ | go_keep) (first | (go_at_call 24; refine CE.out.mono ?_; rintro e w2 ⟨rfl, rfl⟩))
          go_wp2
          go_ret
          refine ⟨ret_bool (decide_eq_false (fun e => hxy ?_)).symm, HB.out⟩
          have h1 := HX.out.1
          rw [e, HX.out.2] at h1
          exact (Option.some.inj h1).symm
      · obtain rfl : j = n := by omega
        go_wp2
        go_ret
        exact ⟨ret_bool (decide_eq_true (all_same HL.out.1 HL.out.2 HS.out)).symm, hb⟩
  · have hne : xs ≠ ys := fun e => hnn (by rw [<- hl, <- hl', e])
    rw [decide_eq_false hne]
    clear h h' hl hl'
    go_enter Tryz.func12, Tryz.ntmps12
    go_wp2
    go_ret
    exact ⟨rfl, Below.refl _ _⟩
end
end Go.Proofs.YthabmlbmlncbmaaGreat
namespace Go.Proofs.YthabmlbmlncbmaaGreat
open Go.RowKit
set_option linter.unusedVariables false
set_option maxRecDepth 20000
theorem STop_any {K : Nat -> Prop} (A : Option Addr) (n c : Nat) (xs : List (List UInt8)) (w : World) (h : PcsV K w A n xs) (hn : n <= 9223372036854775807) (hs : ∀ x ∈ xs, x.length <= 1000000) :
    Calls Tryz.prog 13 #[.slice A n c] w fun e w' => e = .returned (.int .i64 (topA xs)) /\ w = w' := by
  have H := hi_ h
  have HL := hi_ h.len
  have HS := hi_ hs
  clear h hs
  go_enter Tryz.func13, Tryz.ntmps13
  go_wp2
  go_loop [3, 8] (fun tv iv => ∃ j : Nat, j <= n /\ iv = .int .i64 j /\ tv = .int .i64 (topA (xs.take j))) (fun _ iv => n - (intOf iv).toNat)
  case atStart => exact ⟨0, Nat.zero_le _, rfl, rfl⟩
  case round =>
    obtain ⟨j, hj, rfl, rfl⟩ := hrel
    by_cases hjn : j < n
    · obtain ⟨x, hx⟩ : ∃ x, xs[j]? = some x := ⟨_, List.getElem?_eq_getElem (by rw [HL.out]; exact hjn)⟩
      obtain ⟨b, o, PA, m, cc, rfl, hlt, hc, hr, hmc, _⟩ := H.out.cell hx
      have CT := hi_ (Top_any PA m cc x w hr hmc (by have := hr.1; have := HS.out x (List.mem_of_getElem? hx); omega))
      have HX := hi_ (topA_take hx)
      clear hx hr hmc hlt
      obtain ⟨t, ht⟩ : ∃ t, t = topA (xs.take j) := ⟨_, rfl⟩
      obtain ⟨u, hu⟩ : ∃ u, u = topL x := ⟨_, rfl⟩
      rw [<- ht, <- hu] at HX
      rw [<- hu] at CT
      rw [<- ht]
      clear ht hu
      by_cases hut : t < u
      · have h1 : max t u = u := Int.max_eq_right (by omega)
        go_wp2_with (go_at_call 27; refine CT.out.mono ?_; rintro e w2 ⟨rfl, rfl⟩)
        go_round
        case rel => exact ⟨j + 1, hjn, by go_num, by rw [HX.out, h1]⟩
        case measure => simp [intOf]; omega
      · have h1 : max t u = t := Int.max_eq_left (by omega)
        go_wp2_with (go_at_call 27; refine CT.out.mono ?_; rintro e w2 ⟨rfl, rfl⟩)
        go_round
        case rel => exact ⟨j + 1, hjn, by go_num, by rw [HX.out, h1]⟩
        case measure => simp [intOf]; omega
    · obtain rfl : j = n := by omega
      go_wp2
      go_ret
      exact ⟨by rw [List.take_of_length_le (Nat.le_of_eq HL.out)]; rfl, rfl⟩
theorem SameTl_yes {K K' : Nat -> Prop} (A A' : Option Addr) (n n' c c' : Nat) (xs : List (List UInt8)) (T E Q : Int) (w : World) (h : PcsV K w A n xs) (h' : PcsV K' w A' n' xs) (hn : n <= 1000000) :
    Calls Tryz.prog 10 #[.agg #[.slice A n c, .int .i64 T, .int .i64 E, .int .i64 Q], .agg #[.slice A' n' c', .int .i64 T, .int .i64 E, .int .i64 Q]] w fun e w' => e = .returned (.bool true) /\ Below w.heap.size w w' := by
  have hn' : n' <= 1000000 := by have h1 := h.len; have h2 := h'.len; omega
  obtain ⟨w1, hw1⟩ : ∃ w1, w1 = w.alloc (.cells #[.slice A n c, .int .i64 T, .int .i64 E, .int .i64 Q] 33) := ⟨_, rfl⟩
  have R1 : Rec 33 w1 w.heap.size #[.slice A n c, .int .i64 T, .int .i64 E, .int .i64 Q] := by rw [hw1]; exact Rec.new w _ _
  have B1 : Below w.heap.size w w1 := by rw [hw1]; exact (Below.refl _ _).alloc (Nat.le_refl _) _
  obtain ⟨w2, hw2⟩ : ∃ w2, w2 = w1.alloc (.cells #[.slice A' n' c', .int .i64 T, .int .i64 E, .int .i64 Q] 33) := ⟨_, rfl⟩
  have R2 : Rec 33 w2 w1.heap.size #[.slice A' n' c', .int .i64 T, .int .i64 E, .int .i64 Q] := by rw [hw2]; exact Rec.new w1 _ _
  have B2 : Below w1.heap.size w1 w2 := by rw [hw2]; exact (Below.refl _ _).alloc (Nat.le_refl _) _
  have R1' := R1.under B2
  have B02 := B1.trans (B2.mono B1.size)
  have CS := hi_ (RSameP_any A A' n n' c c' xs xs w2 (h.below B02) (h'.below B02) hn hn')
  rw [decide_eq_true rfl] at CS
  have k0 : w2.cell? ⟨w.heap.size, 0, none⟩ = some (.slice A n c) := R1'.at_ 0
  have q0 : w2.cell? ⟨w1.heap.size, 0, none⟩ = some (.slice A' n' c') := R2.at_ 0
  have HB := hi_ B02
  have HR1 := hi_ R1'
  have HR2 := hi_ R2
  clear h h' R1 B1 R2 B2 R1' B02
  go_enter Tryz.func10, Tryz.ntmps10
  go_wp2_with (first
    | (rw [<- hw1]; clear hw1)
    | (rw [<- hw2]; clear hw2)
    | (go_at_call 12; refine CS.out.mono ?_; rintro e w3 ⟨rfl, hb3⟩
       have hR1 := HR1.out.under hb3
       have hR2 := HR2.out.under hb3
       have z1 : w3.cell? ⟨w.heap.size, 1, none⟩ = some (.int .i64 T) := hR1.at_ 1
       have z2 : w3.cell? ⟨w.heap.size, 2, none⟩ = some (.int .i64 E) := hR1.at_ 2
       have z3 : w3.cell? ⟨w.heap.size, 3, none⟩ = some (.int .i64 Q) := hR1.at_ 3
       have y1 : w3.cell? ⟨w1.heap.size, 1, none⟩ = some (.int .i64 T) := hR2.at_ 1
       have y2 : w3.cell? ⟨w1.heap.size, 2, none⟩ = some (.int .i64 E) := hR2.at_ 2
       have y3 : w3.cell? ⟨w1.heap.size, 3, none⟩ = some (.int .i64 Q) := hR2.at_ 3
       have B3 := hi_ (HB.out.trans (hb3.mono HB.out.size))
       clear hb3 hR1 hR2))
  go_ret
  exact ⟨rfl, B3.out⟩
theorem PcG.mono {w w1 wr : World} {lv : Value} {xs : List (List UInt8)} {vs : List Value} {D : Nat -> Prop} (h : PcG w1 wr lv xs vs D) (hb : Below w.heap.size w w1) : PcG w wr lv xs vs D :=
  ⟨⟨Nat.le_trans hb.size h.gr.Bw, own_mono h.gr.ow hb.size, h.gr.hd, h.gr.dx⟩, hb.trans (h.bel.mono hb.size)⟩
def sealedJ (more n s : Int) (q : Nat) (b : List UInt8) (j : Nat) : List (List UInt8) := (List.range j).map fun i => sectorOf more (n + (i : Nat)) 1 (piece q s b i)
theorem sealedJ_succ (more n s : Int) (q : Nat) (b : List UInt8) (j : Nat) : sealedJ more n s q b (j + 1) = sealedJ more n s q b j ++ [sectorOf more (n + (j : Nat)) 1 (piece q s b j)] := by simp [sealedJ, List.range_succ]
theorem sealedJ_len (more n s : Int) (q : Nat) (b : List UInt8) (j : Nat) : (sealedJ more n s q b j).length = j := by simp [sealedJ]
set_option maxHeartbeats 2000000 in
theorem RSealed_any (A : Option Addr) (n c : Nat) (b : List UInt8) (more lsn s : Int) (w : World) (hr : Rd w A n b) (hc : n <= c) (hn : n <= 100000) (hs : 0 <= s /\ s <= 281474976710656) (hl : -4611686018427387904 <= lsn /\ lsn <= 4611686018427387904) :
    Calls Tryz.prog 17 #[.int .i64 more, .int .i64 lsn, .int .i64 s, .slice A n c] w fun e w' => ∃ lv vs D, e = .returned lv /\ PcG w w' lv (sealedL more lsn s b) vs D /\ ∀ y, D y -> w.heap.size <= y := by
  have hbl := hr.1
  have hqb := needN_bd n
  have CS := RSplit_any A n c b s w hr hc hn
  have e0 : sealedL more lsn s b = sealedJ more lsn s (needN n) b (needN n) := by rw [<- hbl]; rfl
  rw [splitL_ok (by rw [hbl]; omega), clampS_id hs, hbl] at CS
  rw [e0]
  obtain ⟨q, hq⟩ : ∃ q, q = needN n := ⟨_, rfl⟩
  rw [<- hq] at CS hqb ⊢
  have hq2 : q <= 1024 := by omega
  have CS' := hi_ CS
  clear hr hbl hqb CS e0 hq
  go_enter Tryz.func17, Tryz.ntmps17
  go_wp2_with (go_at_call 32; refine CS'.out.mono ?_; rintro e w1 ⟨SA, sn, sc, rfl, hsc, hsv, hsb⟩)
  have hsn := hsv.len
  rw [pcs_len] at hsn
  subst hsn
  have V1 := hi_ hsv
  have HSB := hi_ hsb
  clear hsv hsb
  have I0 : Hid (PcG w1 w1 (.slice none 0 0) (sealedJ more lsn s q b 0) [] (fun _ => False)) := hi_ (PcG.start w1)
  go_loopw [10, 11] (fun lv iv wr => ∃ (j : Nat) (vs : List Value) (D : Nat -> Prop), j <= q /\ iv = .int .i64 j /\ Hid (PcG w1 wr lv (sealedJ more lsn s q b j) vs D) /\ Hid (∀ y, D y -> w1.heap.size <= y)) (fun _ iv _ => q - (intOf iv).toNat)
  case atStart => exact ⟨0, [], _, Nat.zero_le _, rfl, I0, hi_ (fun y hy => hy.elim)⟩
  case round =>
    obtain ⟨j, vs, D, hj, rfl, HI, HDD⟩ := hrel
    by_cases hjq : j < q
    · obtain ⟨bb, oo, PA, pm, pc, rfl, hblt, hcell, hrd, hpc, _⟩ := (V1.out.below HI.out.bel).cell (pcs_get hjq)
      have RP := hi_ (And.intro hrd hpc)
      obtain ⟨qj, hqj⟩ : ∃ qj, qj = lsn + (j : Int) := ⟨_, rfl⟩
      have hq0 : lsn + (j : Int) = qj := hqj.symm
      have hwz : wrap64 qj = qj := by unfold wrap64; omega
      have hwz2 : IntKind.i64.wrap qj = qj := by rw [wrapEq]; exact hwz
      have HQJ := hi_ hqj
      have HB := hi_ HI.out.bel.size
      obtain ⟨pb, hpb⟩ : ∃ pb, pb = piece q s b j := ⟨_, rfl⟩
      rw [<- hpb] at RP
      have HPB := hi_ hpb
      clear hqj hrd hpc hpb hblt
      go_wp2_with (first
        | (go_at_call 33; refine (RPutX_any more qj 1 PA pm pc pb wr RP.out.1 RP.out.2).mono ?_; rintro e w5 ⟨v5, rfl, ho5, hb5⟩
           obtain ⟨A5, c5, rfl, hc5, _, hr5⟩ := Rd.of_own ho5 rfl
           have R5 := hi_ (And.intro hb5 (And.intro hr5 (And.intro hc5 (show ∀ b o, A5 = some ⟨b, o, none⟩ -> 0 < 512 -> wr.heap.size <= b from fun b o e _ => own_block ho5 e))))
           clear ho5 hb5 hr5 hc5)
        | (at_builtin; have _t := R5; refine wpList_appX (K := fun y => w5.heap.size <= y) rowsT rfl (.tmp 21) (.tmp 32) rfl w1.heap.size _ j vs rfl (by have := HI.out.own (cs := #[.slice A5 512 c5]) (t := 42) R5.out.1; rw [sealedJ_len] at this; exact this) (some ⟨w5.heap.size, 0, none⟩) 1 1 [.slice A5 512 c5] rfl (VRow.new w5 #[.slice A5 512 c5] _ 1 1 rfl) (fun u hu => by simp at hu; rw [hu]; rfl) (by omega) (by decide) (by simp; exact Nat.le_succ_of_le (HI.out.bel.trans (R5.out.1.mono HB.out)).size) ?_; intro v9 w9 ho9 hg9 hv9
           have O9 := hi_ (And.intro (show w9.ownsRow w1.heap.size 42 1 v9 ((sealedJ more lsn s q b j).length + 1) (vs ++ [.slice A5 512 c5]) from by rw [sealedJ_len]; exact ho9) (And.intro hg9 hv9))
           clear ho9 hg9 hv9))
      go_roundw
      case rel =>
        obtain ⟨vs', D', h', hD'⟩ := HI.out.putK (K := fun y => wr.heap.size <= y) R5.out.1 R5.out.2.1 R5.out.2.2.1 R5.out.2.2.2 (fun y hy e => by have := own_geB HI.out.gr.ow e; omega) O9.out.1 O9.out.2.1 O9.out.2.2
        exact ⟨j + 1, vs', D', hjq, by go_num, hi_ (by rw [sealedJ_succ, <- HPB.out, <- HQJ.out]; exact h'), hi_ (fun y hy => (hD' y hy).elim (HDD.out y) (fun h => Nat.le_trans HB.out h))⟩
      case measure => simp [intOf]; omega
    · obtain rfl : j = q := by omega
      go_wp2
      go_ret
      exact ⟨_, vs, D, rfl, HI.out.mono HSB.out, fun y hy => Nat.le_trans HSB.out.size (HDD.out y hy)⟩
end Go.Proofs.YthabmlbmlncbmaaGreat
namespace Go.Proofs.YthabmlbmlncbmaaGreat
open Go.RowKit
set_option linter.unusedVariables false
set_option maxRecDepth 20000
def OkAt (xs : List (List UInt8)) (s : Int) (i : Nat) (x : List UInt8) : Prop := HdOk x /\ plc x = i /\ cnt x = xs.length /\ sqn x = s /\ (i + 1 ≠ xs.length -> x.length = 472) /\ (i + 1 = xs.length -> 0 < i -> x.length ≠ 12)
def seq0 (xs : List (List UInt8)) (j : Nat) : Int := if j = 0 then 0 else sqn (xs.getD 0 [])
structure RjI (w wr : World) (bv : Value) (xs : List (List UInt8)) (j k : Nat) : Prop where
  hd : ∀ i x, i < j -> xs[i]? = some x -> OkAt xs (sqn (xs.getD 0 [])) i x
  ow : wr.ownsRow w.heap.size 5 1 bv k (cells (tails (xs.take j)))
  kk : k <= 460 * j
  bel : Below w.heap.size w wr
theorem RjI.next {w wr w2 : World} {bv bv' : Value} {xs : List (List UInt8)} {j k m : Nat} {x : List UInt8} (h : RjI w wr bv xs j k) (hx : xs[j]? = some x) (hh : OkAt xs (sqn (xs.getD 0 [])) j x) (hm : m = x.length - 12)
    (ho : w2.ownsRow w.heap.size 5 1 bv' (k + m) (cells (tails (xs.take j)) ++ cells (x.drop 12))) (hb : Below w.heap.size wr w2) : RjI w w2 bv' xs (j + 1) (k + m) := by
  refine ⟨fun i y hi hy => ?_, ?_, ?_, h.bel.trans hb⟩
  · by_cases hij : i = j
    · subst hij
      rw [hx] at hy
      exact (Option.some.inj hy) ▸ hh
    · exact h.hd i y (by omega) hy
  · rw [tails_take hx, cells_append]
    exact ho
  · have := h.kk
    have := hh.1.1.2
    omega
theorem hd_any (l : List UInt8) : ∃ (p q s : Int) (ok : Bool), hdT l = .tuple #[.int .i64 p, .int .i64 q, .int .i64 s, .bool ok] /\ (ok = true -> HdOk l /\ p = plc l /\ q = cnt l /\ s = sqn l) /\ (ok = false -> ¬ HdOk l) := by
  by_cases h : HdOk l
  · exact ⟨_, _, _, _, hdT_yes h, (fun _ => ⟨h, rfl, rfl, rfl⟩), (fun e => absurd e (by decide))⟩
  · exact ⟨_, _, _, _, hdT_no h, (fun e => absurd e (by decide)), (fun _ => h)⟩
theorem good_of {xs : List (List UInt8)} {n : Nat} (hn : xs.length = n) (h0 : 0 < n) (h : ∀ i x, i < n -> xs[i]? = some x -> OkAt xs (sqn (xs.getD 0 [])) i x) : GoodP xs (sqn (xs.getD 0 [])) :=
  ⟨fun e => by rw [e] at hn; simp at hn; omega, fun i x hx => h i x (by have := (List.getElem?_eq_some_iff.1 hx).1; omega) hx⟩
set_option maxHeartbeats 4000000 in
theorem RJoin_any {K : Nat -> Prop} (A : Option Addr) (n c : Nat) (xs : List (List UInt8)) (w : World) (h : PcsV K w A n xs) (hn : n <= 100) (hs : ∀ x ∈ xs, x.length <= 1000000) :
    Calls Tryz.prog 39 #[.slice A n c] w (JoinP w (joinL xs)) := by
  have H := hi_ h
  have HL := hi_ h.len
  have HS := hi_ hs
  clear h hs
  go_enter Tryz.func39, Tryz.ntmps39
  go_wp2
  go_loopw [5, 6, 7] (fun bv sv iv wr => ∃ j k : Nat, j <= n /\ iv = .int .i64 j /\ sv = .int .i64 (seq0 xs j) /\ Hid (RjI w wr bv xs j k)) (fun _ _ iv _ => n - (intOf iv).toNat)
  case atStart => exact ⟨0, 0, Nat.zero_le _, rfl, rfl, hi_ ⟨fun i x hi => absurd hi (Nat.not_lt_zero _), by simpa [tails, cells_nil] using World.ownsRow_nil _ _ _ _, Nat.le_refl _, Below.refl _ _⟩⟩
  case round =>
    obtain ⟨j, k, hj, rfl, rfl, HI⟩ := hrel
    by_cases hjn : j < n
    · obtain ⟨x, hx⟩ : ∃ x, xs[j]? = some x := ⟨_, List.getElem?_eq_getElem (by rw [HL.out]; exact hjn)⟩
      obtain ⟨b, o, PA, m, cc, rfl, hlt, hc, hr, hmc, _⟩ := (H.out.below HI.out.bel).cell hx
      have hxl := HS.out x (List.mem_of_getElem? hx)
      have hm := hr.1
      have CH := hi_ (RPHead_any PA m cc x wr hr (by omega))
      have HX := hi_ (And.intro hx (And.intro hr hmc))
      obtain ⟨p, q, s, ok, he, hy, hno⟩ := hd_any x
      rw [he] at CH
      obtain ⟨B, hB⟩ : ∃ B : Bool, B = true ↔ OkAt xs (sqn (xs.getD 0 [])) j x := by
        by_cases hq : OkAt xs (sqn (xs.getD 0 [])) j x
        · exact ⟨true, fun _ => hq, fun _ => rfl⟩
        · exact ⟨false, fun e => (by cases e), fun e => absurd e hq⟩
      have HB := hi_ hB
      have BN : Hid (¬ OkAt xs (sqn (xs.getD 0 [])) j x -> B = false) := hi_ (fun h => Bool.eq_false_iff.2 (fun e => h (hB.1 e)))
      have BY : Hid (OkAt xs (sqn (xs.getD 0 [])) j x -> B = true) := hi_ hB.2
      have HO := hi_ (And.intro hy hno)
      have HM := hi_ hm
      obtain ⟨sq, hsq⟩ : ∃ sq, sq = seq0 xs j := ⟨_, rfl⟩
      have HSQ := hi_ hsq
      rw [<- hsq]
      clear he hy hno hB hr hm hxl hx hlt hsq
      by_cases hj0 : j = 0
      · subst hj0
        rw [Nat.add_zero] at hc
        go_upto_region 10 with (go_at_call 38; refine CH.out.mono ?_; rintro e w2 ⟨rfl, rfl⟩)
        go_cut [81] from 12 to 88 (fun v wl => v = .bool (!B) /\ wl = wr)
        case first =>
          cases ok
          · have hb := hi_ (BN.out (fun h => HO.out.2 rfl h.1))
            go_wp2
            go_meet
            exact ⟨by rw [hb.out]; rfl, rfl⟩
          · have hO := hi_ (HO.out.1 rfl)
            by_cases h1 : p = ((0 : Nat) : Int)
            rotate_left
            · have hb := hi_ (BN.out (fun h => h1 (hO.out.2.1.trans h.2.1)))
              have f1 : (p != 0) = true := by simpa using h1
              go_wp2
              go_meet
              exact ⟨by rw [hb.out]; rfl, rfl⟩
            rw [Int.natCast_zero] at h1
            subst h1
            by_cases h2 : q = (n : Int)
            rotate_left
            · have hb := hi_ (BN.out (fun h => h2 (hO.out.2.2.1.trans (by rw [h.2.2.1, HL.out]))))
              have f2 : (q != (n : Int)) = true := by simpa using h2
              go_wp2
              go_meet
              exact ⟨by rw [hb.out]; rfl, rfl⟩
            subst h2
            have hs0 : Hid (sqn x = sqn (xs.getD 0 [])) := hi_ (by rw [List.getD_eq_getElem?_getD, HX.out.1]; rfl)
            by_cases h4 : 0 + 1 = n
            · have eL : ((0 : Int) == (n : Int) - 1) = true := by simp; omega
              have hb := hi_ (BY.out ⟨hO.out.1, hO.out.2.1.symm, by rw [HL.out]; exact hO.out.2.2.1.symm, hs0.out, fun h => absurd (by rw [HL.out]; exact h4) h, fun _ h => absurd h (Nat.lt_irrefl 0)⟩)
              clear h4
              go_wp2
              go_meet
              exact ⟨by rw [hb.out]; rfl, rfl⟩
            · have eL : ((0 : Int) == (n : Int) - 1) = false := by simp; omega
              by_cases h5 : m = 472
              · have hb := hi_ (BY.out ⟨hO.out.1, hO.out.2.1.symm, by rw [HL.out]; exact hO.out.2.2.1.symm, hs0.out, fun _ => by rw [HM.out]; exact h5, fun h => absurd (by rw [<- HL.out]; exact h) h4⟩)
                clear h4
                subst h5
                go_wp2
                go_meet
                exact ⟨by rw [hb.out]; rfl, rfl⟩
              · have hb := hi_ (BN.out (fun h => h5 (by rw [<- HM.out]; exact h.2.2.2.2.1 (by rw [HL.out]; exact h4))))
                have f5 : ((m : Int) != 472) = true := by simp; omega
                clear h4
                go_wp2
                go_meet
                exact ⟨by rw [hb.out]; rfl, rfl⟩
        case rest =>
          obtain ⟨rfl, rfl⟩ := hcut
          cases B
          · go_wp2
            go_ret3
            have hj : joinL xs = (0, [], false) := joinL_no (fun s' hg => absurd (HB.out.2 (by have h1 := hg.2 0 x HX.out.1; have h2 := (good_seq hg).2; rw [<- h2] at h1; exact h1)) (by decide))
            rw [hj]
            exact ⟨none, 0, 0, rfl, Rd.nil _ _, ⟨Nat.le_refl _, Nat.zero_le _, fun _ _ e => by cases e⟩, HI.out.bel⟩
          · have HH := hi_ (HB.out.1 rfl)
            have h12 : 12 <= m /\ m <= 472 := by have := HH.out.1.1; rw [HM.out] at this; exact this
            have hkb : k <= 100000 := by have := HI.out.kk; omega
            have R1 : Hid (∀ A', (0 < m - 12 -> A' = PA.map fun x => x.add 12) -> Rd wc A' (m - 12) (x.drop 12)) := hi_ (fun A' hA => by
              have := HX.out.2.1.part (lo := 12) (m := m - 12) (by omega) A' (fun hp b o e => by rw [hA hp, e]; simp [Addr.add_lit])
              rwa [List.take_of_length_le (by rw [List.length_drop, HM.out]; omega)] at this)
            have hcc : (cc = 12 /\ m = 12) \/ ¬ cc = 12 := by omega
            have hsq' : Hid (s = seq0 xs (0 + 1)) := hi_ (by
              cases ok
              · exact absurd HH.out.1 (HO.out.2 rfl)
              · rw [(HO.out.1 rfl).2.2.2, seq0, if_neg (by decide), List.getD_eq_getElem?_getD, HX.out.1]; rfl)
            rcases hcc with ⟨rfl, rfl⟩ | hcc
            · go_wp2_with (at_builtin; refine wpList_app wc bytesT rfl (.tmp 82) (.tmp 87) rfl w.heap.size u5 k _ rfl HI.out.ow PA 0 0 (x.drop 12) rfl (R1.out _ (fun h => by omega)) (by omega) HI.out.bel.size ?_; intro v3 w3 ho3 hb3; have O3 := hi_ (And.intro ho3 hb3); clear ho3 hb3)
              go_roundw
              case rel => exact ⟨1, k + 0, hjn, by go_num, by rw [hsq'.out], hi_ (HI.out.next HX.out.1 HH.out (by rw [HM.out]) O3.out.1 O3.out.2)⟩
              case measure => simp [intOf]; omega
            · go_wp2_with (at_builtin; refine wpList_app wc bytesT rfl (.tmp 82) (.tmp 87) rfl w.heap.size u5 k _ rfl HI.out.ow (PA.map fun x => x.add 12) (m - 12) (cc - 12) (x.drop 12) rfl (R1.out _ (fun h => rfl)) (by omega) HI.out.bel.size ?_; intro v3 w3 ho3 hb3; have O3 := hi_ (And.intro ho3 hb3); clear ho3 hb3)
              go_roundw
              case rel => exact ⟨1, k + (m - 12), hjn, by go_num, by rw [hsq'.out], hi_ (HI.out.next HX.out.1 HH.out (by rw [HM.out]) O3.out.1 O3.out.2)⟩
              case measure => simp [intOf]; omega
      · have e0 : ((j : Int) == 0) = false := by simp [hj0]
        have HJ0 := hi_ hj0
        go_upto_region 10 with (go_at_call 38; refine CH.out.mono ?_; rintro e w2 ⟨rfl, rfl⟩)
        go_cut [81] from 12 to 88 (fun v wl => v = .bool (!B) /\ wl = wr)
        case first =>
          cases ok
          · have hb := hi_ (BN.out (fun h => HO.out.2 rfl h.1))
            go_wp2
            go_meet
            exact ⟨by rw [hb.out]; rfl, rfl⟩
          · have hO := hi_ (HO.out.1 rfl)
            by_cases h1 : p = ((j : Nat) : Int)
            rotate_left
            · have hb := hi_ (BN.out (fun h => h1 (hO.out.2.1.trans h.2.1)))
              have f1 : (p != (j : Int)) = true := by simpa using h1
              go_wp2
              go_meet
              exact ⟨by rw [hb.out]; rfl, rfl⟩
            subst h1
            by_cases h2 : q = (n : Int)
            rotate_left
            · have hb := hi_ (BN.out (fun h => h2 (hO.out.2.2.1.trans (by rw [h.2.2.1, HL.out]))))
              have f2 : (q != (n : Int)) = true := by simpa using h2
              go_wp2
              go_meet
              exact ⟨by rw [hb.out]; rfl, rfl⟩
            subst h2
            by_cases h3 : s = sq
            rotate_left
            · have hb := hi_ (BN.out (fun h => h3 (hO.out.2.2.2.trans (by rw [h.2.2.2.1, HSQ.out, seq0, if_neg HJ0.out]))))
              have f3 : (s != sq) = true := by simpa using h3
              go_wp2
              go_meet
              exact ⟨by rw [hb.out]; rfl, rfl⟩
            subst h3
            have hs0 : Hid (sqn x = sqn (xs.getD 0 [])) := hi_ (hO.out.2.2.2.symm.trans (by rw [HSQ.out, seq0, if_neg HJ0.out]))
            by_cases h4 : j + 1 = n
            · have eL : ((j : Int) == (n : Int) - 1) = true := by simp; omega
              have hjp : 0 < j := Nat.pos_of_ne_zero HJ0.out
              by_cases h5 : m = 12
              · have hb := hi_ (BN.out (fun h => h.2.2.2.2.2 (by rw [HL.out]; exact h4) hjp (by rw [HM.out]; exact h5)))
                clear h4
                subst h5
                go_wp2
                go_meet
                exact ⟨by rw [hb.out]; rfl, rfl⟩
              · have hb := hi_ (BY.out ⟨hO.out.1, hO.out.2.1.symm, by rw [HL.out]; exact hO.out.2.2.1.symm, hs0.out, fun h => absurd (by rw [HL.out]; exact h4) h, fun _ _ h => h5 (by rw [<- HM.out]; exact h)⟩)
                have f5 : ((m : Int) == 12) = false := by simp; omega
                clear h4
                go_wp2
                go_meet
                exact ⟨by rw [hb.out]; rfl, rfl⟩
            · have eL : ((j : Int) == (n : Int) - 1) = false := by simp; omega
              by_cases h5 : m = 472
              · have hb := hi_ (BY.out ⟨hO.out.1, hO.out.2.1.symm, by rw [HL.out]; exact hO.out.2.2.1.symm, hs0.out, fun _ => by rw [HM.out]; exact h5, fun h => absurd (by rw [<- HL.out]; exact h) h4⟩)
                clear h4
                subst h5
                go_wp2
                go_meet
                exact ⟨by rw [hb.out]; rfl, rfl⟩
              · have hb := hi_ (BN.out (fun h => h5 (by rw [<- HM.out]; exact h.2.2.2.2.1 (by rw [HL.out]; exact h4))))
                have f5 : ((m : Int) != 472) = true := by simp; omega
                clear h4
                go_wp2
                go_meet
                exact ⟨by rw [hb.out]; rfl, rfl⟩
        case rest =>
          obtain ⟨rfl, rfl⟩ := hcut
          cases B
          · go_wp2
            go_ret3
            have hj : joinL xs = (0, [], false) := joinL_no (fun s' hg => absurd (HB.out.2 (by have h1 := hg.2 j x HX.out.1; have h2 := (good_seq hg).2; rw [<- h2] at h1; exact h1)) (by decide))
            rw [hj]
            exact ⟨none, 0, 0, rfl, Rd.nil _ _, ⟨Nat.le_refl _, Nat.zero_le _, fun _ _ e => by cases e⟩, HI.out.bel⟩
          · have HH := hi_ (HB.out.1 rfl)
            have h12 : 12 <= m /\ m <= 472 := by have := HH.out.1.1; rw [HM.out] at this; exact this
            have hkb : k <= 100000 := by have := HI.out.kk; omega
            have R1 : Hid (∀ A', (0 < m - 12 -> A' = PA.map fun x => x.add 12) -> Rd wc A' (m - 12) (x.drop 12)) := hi_ (fun A' hA => by
              have := HX.out.2.1.part (lo := 12) (m := m - 12) (by omega) A' (fun hp b o e => by rw [hA hp, e]; simp [Addr.add_lit])
              rwa [List.take_of_length_le (by rw [List.length_drop, HM.out]; omega)] at this)
            have hcc : (cc = 12 /\ m = 12) \/ ¬ cc = 12 := by omega
            have hsq' : Hid (sq = seq0 xs (j + 1)) := hi_ (by
              rw [HSQ.out, seq0, seq0, if_neg HJ0.out, if_neg (by omega)])
            rcases hcc with ⟨rfl, rfl⟩ | hcc
            · go_wp2_with (at_builtin; refine wpList_app wc bytesT rfl (.tmp 82) (.tmp 87) rfl w.heap.size u5 k _ rfl HI.out.ow PA 0 0 (x.drop 12) rfl (R1.out _ (fun h => by omega)) (by omega) HI.out.bel.size ?_; intro v3 w3 ho3 hb3; have O3 := hi_ (And.intro ho3 hb3); clear ho3 hb3)
              go_roundw
              case rel => exact ⟨j + 1, k + 0, hjn, by go_num, by rw [hsq'.out], hi_ (HI.out.next HX.out.1 HH.out (by rw [HM.out]) O3.out.1 O3.out.2)⟩
              case measure => simp [intOf]; omega
            · go_wp2_with (at_builtin; refine wpList_app wc bytesT rfl (.tmp 82) (.tmp 87) rfl w.heap.size u5 k _ rfl HI.out.ow (PA.map fun x => x.add 12) (m - 12) (cc - 12) (x.drop 12) rfl (R1.out _ (fun h => rfl)) (by omega) HI.out.bel.size ?_; intro v3 w3 ho3 hb3; have O3 := hi_ (And.intro ho3 hb3); clear ho3 hb3)
              go_roundw
              case rel => exact ⟨j + 1, k + (m - 12), hjn, by go_num, by rw [hsq'.out], hi_ (HI.out.next HX.out.1 HH.out (by rw [HM.out]) O3.out.1 O3.out.2)⟩
              case measure => simp [intOf]; omega
    · obtain rfl : j = n := by omega
      have hT : xs.take j = xs := List.take_of_length_le (Nat.le_of_eq HL.out)
      have ho := HI.out.ow
      rw [hT] at ho
      obtain ⟨BA, bc, hbv, hbc, hbm, hbr⟩ := Rd.of_own ho rfl
      subst hbv
      have HBR := hi_ (And.intro hbr (And.intro hbc (And.intro hbm (show ∀ b o, BA = some ⟨b, o, none⟩ -> 0 < k -> w.heap.size <= b from fun b o e _ => own_block ho e))))
      have HBE := hi_ HI.out.bel
      by_cases hj0 : j = 0
      · subst hj0
        have HJ : Hid (joinL xs = (0, [], false)) := hi_ (joinL_no (fun s hg => hg.1 (List.eq_nil_of_length_eq_zero HL.out)))
        clear hbr hbc hbm ho hT HI
        go_wp2
        go_ret3
        rw [HJ.out]
        exact ⟨none, 0, 0, rfl, Rd.nil _ _, ⟨Nat.le_refl _, Nat.zero_le _, fun _ _ e => by cases e⟩, HBE.out⟩
      · have hg := good_of HL.out (Nat.pos_of_ne_zero hj0) HI.out.hd
        have HJ : Hid (joinL xs = (seq0 xs j, tails xs, true)) := hi_ (by rw [joinL_yes hg, seq0, if_neg hj0])
        have f0 : ((j : Int) == 0) = false := by simp [hj0]
        clear hbr hbc hbm ho hT HI hg
        go_wp2
        go_ret3
        rw [HJ.out]
        exact ⟨BA, k, bc, rfl, HBR.out.1, HBR.out.2, HBE.out⟩
end Go.Proofs.YthabmlbmlncbmaaGreat
