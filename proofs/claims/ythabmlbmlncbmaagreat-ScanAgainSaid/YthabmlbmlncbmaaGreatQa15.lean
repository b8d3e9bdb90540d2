/- ScG, ScK, RowM, FrO, PtO, ScN -/
import Derived.Test.YthabmlbmlncbmaaGreatQa1
import Derived.Test.YthabmlbmlncbmaaGreatQa2
import Derived.Test.YthabmlbmlncbmaaGreatQa4
import Derived.Test.YthabmlbmlncbmaaGreatQa5
import Derived.Test.YthabmlbmlncbmaaGreatQa6
import Derived.Test.YthabmlbmlncbmaaGreatQa7
import Derived.Test.YthabmlbmlncbmaaGreatQa12
import Derived.Test.YthabmlbmlncbmaaGreatQa14
namespace Go.Proofs.YthabmlbmlncbmaaGreat
open Go.RowKit
set_option linter.unusedVariables false
set_option maxRecDepth 20000
theorem plc_nn (l : List UInt8) : 0 <= plc l := by unfold plc; exact (getV_short _ (by simp; omega)).1
section
variable (lg pg en gn : Int) (A : Option Addr) (n cap : Nat) (ks : List Kd) {K : Nat -> Prop} (LA : Option Addr) (ln lc : Nat) (xs : List (List UInt8)) (lsn ep s most : Int) (w : World)
def RHasC (l : List (List UInt8)) : Prop := ∀ (q : Int) (W : World), Log18 W A n ks K LA ln xs -> Calls Tryz.prog 37 #[cv lg pg en gn A n cap, .slice LA ln lc, .int .i64 q] W (LHasP l q W)
set_option maxHeartbeats 4000000 in
theorem Rone_n0 {l : List (List UInt8)} (h : Log18 w A n ks K LA ln xs) (cH : RHasC lg pg en gn A n cap ks (K := K) LA ln lc xs l) (hl : l.length <= 40) (hq : ¬ HasQ l lsn) :
    Calls Tryz.prog 25 #[cv lg pg en gn A n cap, .slice LA ln lc, .int .i64 lsn, .int .i64 ep, .int .i64 s, .int .i64 most] w (OneR l lsn ep s most w) := by
  obtain ⟨w1, hw1⟩ : ∃ w1, w1 = w.alloc (.cells (cc lg pg en gn A n cap) 24) := ⟨_, rfl⟩
  have C1 := CAt.new h.k lg pg en gn cap
  rw [<- hw1] at C1
  have HL := hi_ (h.below C1.bel)
  have CH := hi_ (cH lsn w1 HL.out)
  have HQ := hi_ hq
  have c0 := C1.c0
  have c1 := C1.c1
  have c2 := C1.c2
  have c3 := C1.c3
  have c4 := C1.c4
  have K1 := hi_ C1
  have HCH := hi_ cH
  have HLL := hi_ hl
  have HD : Hid (hdT [] = .tuple #[.int .i64 0, .int .i64 0, .int .i64 0, .bool false]) := hi_ (hdT_no (fun k => by have := k.1.1; simp at this))
  clear h C1 cH hq hl CH
  have CH := hi_ (HCH.out lsn w1 HL.out)
  go_enter Tryz.func25, Tryz.ntmps25
  go_wp2_with (first
    | (rw [<- hw1]; clear hw1)
    | (go_at_call 37; have _t := CH; refine CH.out.mono ?_; rintro e w2 hP; obtain rfl := hP.2.1 HQ.out
       have B2 := hi_ (K1.out.bel.trans (hP.2.2.mono K1.out.bel.size))
       clear hP CH)
    | (refine wpList_stseal rfl (.tmp 16) (.tmp 36) rfl rfl rfl (SealAt.new w2) ?_; intro w3 hS3 hB3 _
       have B3 := hi_ (B2.out.trans ((((Below.refl _ _).alloc (Nat.le_refl _) _).trans hB3).mono B2.out.size))
       have k3 : w3.cell? ⟨w2.heap.size, 3, none⟩ = some (.slice none 0 0) := cell_of_row _ _ _ _ _ _ hS3
       clear hB3 hS3)
    | (go_at_call 38; refine (RPHead_any none 0 0 [] w3 (Rd.nil _ _) (by omega)).mono ?_; rintro e w' ⟨he, hw'⟩; subst hw'; rw [HD.out] at he; subst he))
  refine bodyPost_ret (results_tmp4 rfl _ _ _) rfl ?_
  exact .no (fun b m o k => HQ.out k.has) B3.out
set_option maxHeartbeats 4000000 in
theorem Rone_n1 {l : List (List UInt8)} (h : Log18 w A n ks K LA ln xs) (cH : RHasC lg pg en gn A n cap ks (K := K) LA ln lc xs l) (hl : l.length <= 40) (hq : HasQ l lsn) (hh : ¬ HdOk (cB (secAt l lsn))) :
    Calls Tryz.prog 25 #[cv lg pg en gn A n cap, .slice LA ln lc, .int .i64 lsn, .int .i64 ep, .int .i64 s, .int .i64 most] w (OneR l lsn ep s most w) := by
  obtain ⟨w1, hw1⟩ : ∃ w1, w1 = w.alloc (.cells (cc lg pg en gn A n cap) 24) := ⟨_, rfl⟩
  have C1 := CAt.new h.k lg pg en gn cap
  rw [<- hw1] at C1
  have HL := hi_ (h.below C1.bel)
  have CH := hi_ (cH lsn w1 HL.out)
  have HQ := hi_ hq
  have c0 := C1.c0
  have c1 := C1.c1
  have c2 := C1.c2
  have c3 := C1.c3
  have c4 := C1.c4
  have K1 := hi_ C1
  have HCH := hi_ cH
  have HLL := hi_ hl
  obtain ⟨x, hx⟩ : ∃ x, x = cB (secAt l lsn) := ⟨_, rfl⟩
  obtain ⟨E, hE⟩ : ∃ E, E = cE (secAt l lsn) := ⟨_, rfl⟩
  have HX := hi_ hx
  have HE := hi_ hE
  have HN : Hid (∀ b m o, ¬ OneP okF l lsn ep s most b m o) := hi_ fun b m' o k => hh k.hd
  rw [<- hx] at hh
  have hT := hdT_no hh
  have HT := hi_ hT
  clear h C1 cH hq hl hx hE hh hT CH
  have CH := hi_ (HCH.out lsn w1 HL.out)
  go_enter Tryz.func25, Tryz.ntmps25
  go_wp2_with (first
    | (rw [<- hw1]; clear hw1)
    | (go_at_call 37; have _t := CH; refine CH.out.mono ?_; rintro e w2 hP; obtain ⟨A2, m2, c2', rfl, hr2, hm2⟩ := hP.1 HQ.out
       rw [<- HX.out] at hr2
       rw [<- HE.out]
       have B2 := hi_ hP.2.2
       have R2 := hi_ (And.intro hr2 hm2)
       clear hP hr2 hm2 CH)
    | (refine wpList_stseal rfl (.tmp 16) (.tmp 36) rfl rfl rfl (SealAt.new w2) ?_; intro w3 hS3 hB3 _
       have b3 : Below w1.heap.size w1 w3 := B2.out.trans ((((Below.refl _ _).alloc (Nat.le_refl _) _).trans hB3).mono B2.out.size)
       have k0 : w3.cell? ⟨w2.heap.size, 0, none⟩ = some (.int .i64 E) := cell_of_row _ _ _ _ _ _ hS3
       have k3 : w3.cell? ⟨w2.heap.size, 3, none⟩ = some (.slice A2 m2 c2') := cell_of_row _ _ _ _ _ _ hS3
       have S3 := hi_ hS3
       have B3 := hi_ b3
       have R3 := hi_ (R2.out.1.below (Nat.le_refl _) (((Below.refl _ _).alloc (Nat.le_refl _) _).trans hB3))
       clear hB3 hS3 b3)
    | (go_at_call 38; refine (RPHead_any A2 m2 c2' x w3 R3.out (by have := R2.out.2.1; omega)).mono ?_; rintro e w' ⟨he, hw'⟩; subst hw'; rw [HT.out] at he; subst he))
  refine bodyPost_ret (results_tmp4 rfl _ _ _) rfl ?_
  exact .no HN.out (K1.out.bel.trans (B3.out.mono K1.out.bel.size))
set_option maxHeartbeats 4000000 in
theorem Rone_n1e {l : List (List UInt8)} (h : Log18 w A n ks K LA ln xs) (cH : RHasC lg pg en gn A n cap ks (K := K) LA ln lc xs l) (hl : l.length <= 40) (hq : HasQ l lsn) (hh : HdOk (cB (secAt l lsn))) (he : ¬ ep <= cE (secAt l lsn)) :
    Calls Tryz.prog 25 #[cv lg pg en gn A n cap, .slice LA ln lc, .int .i64 lsn, .int .i64 ep, .int .i64 s, .int .i64 most] w (OneR l lsn ep s most w) := by
  obtain ⟨w1, hw1⟩ : ∃ w1, w1 = w.alloc (.cells (cc lg pg en gn A n cap) 24) := ⟨_, rfl⟩
  have C1 := CAt.new h.k lg pg en gn cap
  rw [<- hw1] at C1
  have HL := hi_ (h.below C1.bel)
  have CH := hi_ (cH lsn w1 HL.out)
  have HQ := hi_ hq
  have c0 := C1.c0
  have c1 := C1.c1
  have c2 := C1.c2
  have c3 := C1.c3
  have c4 := C1.c4
  have K1 := hi_ C1
  have HCH := hi_ cH
  have HLL := hi_ hl
  obtain ⟨x, hx⟩ : ∃ x, x = cB (secAt l lsn) := ⟨_, rfl⟩
  obtain ⟨E, hE⟩ : ∃ E, E = cE (secAt l lsn) := ⟨_, rfl⟩
  have HX := hi_ hx
  have HE := hi_ hE
  have HN : Hid (∀ b m o, ¬ OneP okF l lsn ep s most b m o) := hi_ fun b m' o k => he (by have := k.ep; rw [k.ow] at this; exact this)
  rw [<- hE] at he
  have d1 : decide (E < ep) = true := decide_eq_true (by omega)
  rw [<- hx] at hh
  obtain ⟨p, q, z, hT⟩ : ∃ p q z, hdT x = .tuple #[.int .i64 p, .int .i64 q, .int .i64 z, .bool true] := ⟨_, _, _, hdT_yes hh⟩
  have HT := hi_ hT
  clear h C1 cH hq hl hx hE hh he hT CH
  have CH := hi_ (HCH.out lsn w1 HL.out)
  go_enter Tryz.func25, Tryz.ntmps25
  go_wp2_with (first
    | (rw [<- hw1]; clear hw1)
    | (go_at_call 37; have _t := CH; refine CH.out.mono ?_; rintro e w2 hP; obtain ⟨A2, m2, c2', rfl, hr2, hm2⟩ := hP.1 HQ.out
       rw [<- HX.out] at hr2
       rw [<- HE.out]
       have B2 := hi_ hP.2.2
       have R2 := hi_ (And.intro hr2 hm2)
       clear hP hr2 hm2 CH)
    | (refine wpList_stseal rfl (.tmp 16) (.tmp 36) rfl rfl rfl (SealAt.new w2) ?_; intro w3 hS3 hB3 _
       have b3 : Below w1.heap.size w1 w3 := B2.out.trans ((((Below.refl _ _).alloc (Nat.le_refl _) _).trans hB3).mono B2.out.size)
       have k0 : w3.cell? ⟨w2.heap.size, 0, none⟩ = some (.int .i64 E) := cell_of_row _ _ _ _ _ _ hS3
       have k3 : w3.cell? ⟨w2.heap.size, 3, none⟩ = some (.slice A2 m2 c2') := cell_of_row _ _ _ _ _ _ hS3
       have S3 := hi_ hS3
       have B3 := hi_ b3
       have R3 := hi_ (R2.out.1.below (Nat.le_refl _) (((Below.refl _ _).alloc (Nat.le_refl _) _).trans hB3))
       clear hB3 hS3 b3)
    | (go_at_call 38; refine (RPHead_any A2 m2 c2' x w3 R3.out (by have := R2.out.2.1; omega)).mono ?_; rintro e w' ⟨he, hw'⟩; subst hw'; rw [HT.out] at he; subst he))
  refine bodyPost_ret (results_tmp4 rfl _ _ _) rfl ?_
  exact .no HN.out (K1.out.bel.trans (B3.out.mono K1.out.bel.size))
set_option maxHeartbeats 4000000 in
theorem Rone_n2 {l : List (List UInt8)} (h : Log18 w A n ks K LA ln xs) (cH : RHasC lg pg en gn A n cap ks (K := K) LA ln lc xs l) (hl : l.length <= 40) (hq : HasQ l lsn) (hh : HdOk (cB (secAt l lsn))) (he : ep <= cE (secAt l lsn)) (hp : plc (cB (secAt l lsn)) ≠ 0) :
    Calls Tryz.prog 25 #[cv lg pg en gn A n cap, .slice LA ln lc, .int .i64 lsn, .int .i64 ep, .int .i64 s, .int .i64 most] w (OneR l lsn ep s most w) := by
  obtain ⟨w1, hw1⟩ : ∃ w1, w1 = w.alloc (.cells (cc lg pg en gn A n cap) 24) := ⟨_, rfl⟩
  have C1 := CAt.new h.k lg pg en gn cap
  rw [<- hw1] at C1
  have HL := hi_ (h.below C1.bel)
  have CH := hi_ (cH lsn w1 HL.out)
  have HQ := hi_ hq
  have c0 := C1.c0
  have c1 := C1.c1
  have c2 := C1.c2
  have c3 := C1.c3
  have c4 := C1.c4
  have K1 := hi_ C1
  have HCH := hi_ cH
  have HLL := hi_ hl
  obtain ⟨x, hx⟩ : ∃ x, x = cB (secAt l lsn) := ⟨_, rfl⟩
  obtain ⟨E, hE⟩ : ∃ E, E = cE (secAt l lsn) := ⟨_, rfl⟩
  have HX := hi_ hx
  have HE := hi_ hE
  have HEP := hi_ he
  rw [<- hE] at he
  have d1 : decide (E < ep) = false := decide_eq_false (by omega)
  have HN : Hid (∀ b m o, ¬ OneP okF l lsn ep s most b m o) := hi_ fun b m' o k => hp k.pl
  rw [<- hx] at hh hp
  obtain ⟨p, q, z, hT, hp0⟩ : ∃ p q z, hdT x = .tuple #[.int .i64 p, .int .i64 q, .int .i64 z, .bool true] /\ decide (0 < p) = true := ⟨_, _, _, hdT_yes hh, decide_eq_true (by have := plc_nn x; omega)⟩
  have HT := hi_ hT
  clear h C1 cH hq hl hx hE hh he hp hT CH
  have CH := hi_ (HCH.out lsn w1 HL.out)
  go_enter Tryz.func25, Tryz.ntmps25
  go_wp2_with (first
    | (rw [<- hw1]; clear hw1)
    | (go_at_call 37; have _t := CH; refine CH.out.mono ?_; rintro e w2 hP; obtain ⟨A2, m2, c2', rfl, hr2, hm2⟩ := hP.1 HQ.out
       rw [<- HX.out] at hr2
       rw [<- HE.out]
       have B2 := hi_ hP.2.2
       have R2 := hi_ (And.intro hr2 hm2)
       clear hP hr2 hm2 CH)
    | (refine wpList_stseal rfl (.tmp 16) (.tmp 36) rfl rfl rfl (SealAt.new w2) ?_; intro w3 hS3 hB3 _
       have b3 : Below w1.heap.size w1 w3 := B2.out.trans ((((Below.refl _ _).alloc (Nat.le_refl _) _).trans hB3).mono B2.out.size)
       have k0 : w3.cell? ⟨w2.heap.size, 0, none⟩ = some (.int .i64 E) := cell_of_row _ _ _ _ _ _ hS3
       have k3 : w3.cell? ⟨w2.heap.size, 3, none⟩ = some (.slice A2 m2 c2') := cell_of_row _ _ _ _ _ _ hS3
       have S3 := hi_ hS3
       have B3 := hi_ b3
       have R3 := hi_ (R2.out.1.below (Nat.le_refl _) (((Below.refl _ _).alloc (Nat.le_refl _) _).trans hB3))
       clear hB3 hS3 b3)
    | (go_at_call 38; refine (RPHead_any A2 m2 c2' x w3 R3.out (by have := R2.out.2.1; omega)).mono ?_; rintro e w' ⟨he, hw'⟩; subst hw'; rw [HT.out] at he; subst he))
  refine bodyPost_ret (results_tmp4 rfl _ _ _) rfl ?_
  exact .no HN.out (K1.out.bel.trans (B3.out.mono K1.out.bel.size))
set_option maxHeartbeats 4000000 in
theorem Rone_n3 {l : List (List UInt8)} (h : Log18 w A n ks K LA ln xs) (cH : RHasC lg pg en gn A n cap ks (K := K) LA ln lc xs l) (hl : l.length <= 40) (hq : HasQ l lsn) (hh : HdOk (cB (secAt l lsn))) (he : ep <= cE (secAt l lsn)) (hp : plc (cB (secAt l lsn)) = 0) (hs : sqn (cB (secAt l lsn)) ≠ s) :
    Calls Tryz.prog 25 #[cv lg pg en gn A n cap, .slice LA ln lc, .int .i64 lsn, .int .i64 ep, .int .i64 s, .int .i64 most] w (OneR l lsn ep s most w) := by
  obtain ⟨w1, hw1⟩ : ∃ w1, w1 = w.alloc (.cells (cc lg pg en gn A n cap) 24) := ⟨_, rfl⟩
  have C1 := CAt.new h.k lg pg en gn cap
  rw [<- hw1] at C1
  have HL := hi_ (h.below C1.bel)
  have CH := hi_ (cH lsn w1 HL.out)
  have HQ := hi_ hq
  have c0 := C1.c0
  have c1 := C1.c1
  have c2 := C1.c2
  have c3 := C1.c3
  have c4 := C1.c4
  have K1 := hi_ C1
  have HCH := hi_ cH
  have HLL := hi_ hl
  obtain ⟨x, hx⟩ : ∃ x, x = cB (secAt l lsn) := ⟨_, rfl⟩
  obtain ⟨E, hE⟩ : ∃ E, E = cE (secAt l lsn) := ⟨_, rfl⟩
  have HX := hi_ hx
  have HE := hi_ hE
  have HEP := hi_ he
  rw [<- hE] at he
  have d1 : decide (E < ep) = false := decide_eq_false (by omega)
  have HN : Hid (∀ b m o, ¬ OneP okF l lsn ep s most b m o) := hi_ fun b m' o k => hs k.sq
  rw [<- hx] at hh hp hs
  obtain ⟨q, z, hT, hz0⟩ : ∃ q z, hdT x = .tuple #[.int .i64 0, .int .i64 q, .int .i64 z, .bool true] /\ (z != s) = true := ⟨_, _, by rw [hdT_yes hh, hp], by simpa using hs⟩
  have HT := hi_ hT
  clear h C1 cH hq hl hx hE hh he hp hs hT CH
  have CH := hi_ (HCH.out lsn w1 HL.out)
  go_enter Tryz.func25, Tryz.ntmps25
  go_wp2_with (first
    | (rw [<- hw1]; clear hw1)
    | (go_at_call 37; have _t := CH; refine CH.out.mono ?_; rintro e w2 hP; obtain ⟨A2, m2, c2', rfl, hr2, hm2⟩ := hP.1 HQ.out
       rw [<- HX.out] at hr2
       rw [<- HE.out]
       have B2 := hi_ hP.2.2
       have R2 := hi_ (And.intro hr2 hm2)
       clear hP hr2 hm2 CH)
    | (refine wpList_stseal rfl (.tmp 16) (.tmp 36) rfl rfl rfl (SealAt.new w2) ?_; intro w3 hS3 hB3 _
       have b3 : Below w1.heap.size w1 w3 := B2.out.trans ((((Below.refl _ _).alloc (Nat.le_refl _) _).trans hB3).mono B2.out.size)
       have k0 : w3.cell? ⟨w2.heap.size, 0, none⟩ = some (.int .i64 E) := cell_of_row _ _ _ _ _ _ hS3
       have k3 : w3.cell? ⟨w2.heap.size, 3, none⟩ = some (.slice A2 m2 c2') := cell_of_row _ _ _ _ _ _ hS3
       have S3 := hi_ hS3
       have B3 := hi_ b3
       have R3 := hi_ (R2.out.1.below (Nat.le_refl _) (((Below.refl _ _).alloc (Nat.le_refl _) _).trans hB3))
       clear hB3 hS3 b3)
    | (go_at_call 38; refine (RPHead_any A2 m2 c2' x w3 R3.out (by have := R2.out.2.1; omega)).mono ?_; rintro e w' ⟨he, hw'⟩; subst hw'; rw [HT.out] at he; subst he))
  refine bodyPost_ret (results_tmp4 rfl _ _ _) rfl ?_
  exact .no HN.out (K1.out.bel.trans (B3.out.mono K1.out.bel.size))
set_option maxHeartbeats 4000000 in
theorem Rone_n4 {l : List (List UInt8)} {m : Nat} (h : Log18 w A n ks K LA ln xs) (cH : RHasC lg pg en gn A n cap ks (K := K) LA ln lc xs l) (hl : l.length <= 40) (hq : HasQ l lsn) (hh : HdOk (cB (secAt l lsn))) (he : ep <= cE (secAt l lsn)) (hp : plc (cB (secAt l lsn)) = 0) (hs : sqn (cB (secAt l lsn)) = s) (hm : cnt (cB (secAt l lsn)) = (m : Int)) (hmo : ¬ (m : Int) <= most) :
    Calls Tryz.prog 25 #[cv lg pg en gn A n cap, .slice LA ln lc, .int .i64 lsn, .int .i64 ep, .int .i64 s, .int .i64 most] w (OneR l lsn ep s most w) := by
  obtain ⟨w1, hw1⟩ : ∃ w1, w1 = w.alloc (.cells (cc lg pg en gn A n cap) 24) := ⟨_, rfl⟩
  have C1 := CAt.new h.k lg pg en gn cap
  rw [<- hw1] at C1
  have HL := hi_ (h.below C1.bel)
  have CH := hi_ (cH lsn w1 HL.out)
  have HQ := hi_ hq
  have c0 := C1.c0
  have c1 := C1.c1
  have c2 := C1.c2
  have c3 := C1.c3
  have c4 := C1.c4
  have K1 := hi_ C1
  have HCH := hi_ cH
  have HLL := hi_ hl
  obtain ⟨x, hx⟩ : ∃ x, x = cB (secAt l lsn) := ⟨_, rfl⟩
  obtain ⟨E, hE⟩ : ∃ E, E = cE (secAt l lsn) := ⟨_, rfl⟩
  have HX := hi_ hx
  have HE := hi_ hE
  have HEP := hi_ he
  rw [<- hE] at he
  have d1 : decide (E < ep) = false := decide_eq_false (by omega)
  have HN : Hid (∀ b m o, ¬ OneP okF l lsn ep s most b m o) := hi_ fun b m' o k => hmo (by have h1 := k.mo; have h2 := k.ct; rw [hm] at h2; omega)
  have d2 : decide (most < (m : Int)) = true := decide_eq_true (by omega)
  rw [<- hx] at hh hp hs hm
  have hT : hdT x = .tuple #[.int .i64 0, .int .i64 (m : Int), .int .i64 s, .bool true] := by rw [hdT_yes hh, hp, hs, hm]
  have HT := hi_ hT
  clear h C1 cH hq hl hx hE hh he hp hs hm hmo hT CH
  have CH := hi_ (HCH.out lsn w1 HL.out)
  go_enter Tryz.func25, Tryz.ntmps25
  go_wp2_with (first
    | (rw [<- hw1]; clear hw1)
    | (go_at_call 37; have _t := CH; refine CH.out.mono ?_; rintro e w2 hP; obtain ⟨A2, m2, c2', rfl, hr2, hm2⟩ := hP.1 HQ.out
       rw [<- HX.out] at hr2
       rw [<- HE.out]
       have B2 := hi_ hP.2.2
       have R2 := hi_ (And.intro hr2 hm2)
       clear hP hr2 hm2 CH)
    | (refine wpList_stseal rfl (.tmp 16) (.tmp 36) rfl rfl rfl (SealAt.new w2) ?_; intro w3 hS3 hB3 _
       have b3 : Below w1.heap.size w1 w3 := B2.out.trans ((((Below.refl _ _).alloc (Nat.le_refl _) _).trans hB3).mono B2.out.size)
       have k0 : w3.cell? ⟨w2.heap.size, 0, none⟩ = some (.int .i64 E) := cell_of_row _ _ _ _ _ _ hS3
       have k3 : w3.cell? ⟨w2.heap.size, 3, none⟩ = some (.slice A2 m2 c2') := cell_of_row _ _ _ _ _ _ hS3
       have S3 := hi_ hS3
       have B3 := hi_ b3
       have R3 := hi_ (R2.out.1.below (Nat.le_refl _) (((Below.refl _ _).alloc (Nat.le_refl _) _).trans hB3))
       clear hB3 hS3 b3)
    | (go_at_call 38; refine (RPHead_any A2 m2 c2' x w3 R3.out (by have := R2.out.2.1; omega)).mono ?_; rintro e w' ⟨he, hw'⟩; subst hw'; rw [HT.out] at he; subst he))
  refine bodyPost_ret (results_tmp4 rfl _ _ _) rfl ?_
  exact .no HN.out (K1.out.bel.trans (B3.out.mono K1.out.bel.size))
set_option maxHeartbeats 4000000 in
theorem Rone_loop {l : List (List UInt8)} {m : Nat} (h : Log18 w A n ks K LA ln xs) (cH : RHasC lg pg en gn A n cap ks (K := K) LA ln lc xs l) (hl : l.length <= 40) (hq : HasQ l lsn) (hh : HdOk (cB (secAt l lsn))) (he : ep <= cE (secAt l lsn)) (hp : plc (cB (secAt l lsn)) = 0) (hs : sqn (cB (secAt l lsn)) = s) (hm : cnt (cB (secAt l lsn)) = (m : Int)) (hmo : (m : Int) <= most) :
    Calls Tryz.prog 25 #[cv lg pg en gn A n cap, .slice LA ln lc, .int .i64 lsn, .int .i64 ep, .int .i64 s, .int .i64 most] w (OneR l lsn ep s most w) := by
  obtain ⟨w1, hw1⟩ : ∃ w1, w1 = w.alloc (.cells (cc lg pg en gn A n cap) 24) := ⟨_, rfl⟩
  have C1 := CAt.new h.k lg pg en gn cap
  rw [<- hw1] at C1
  have HL := hi_ (h.below C1.bel)
  have CH := hi_ (cH lsn w1 HL.out)
  have HQ := hi_ hq
  have c0 := C1.c0
  have c1 := C1.c1
  have c2 := C1.c2
  have c3 := C1.c3
  have c4 := C1.c4
  have K1 := hi_ C1
  have HCH := hi_ cH
  have HLL := hi_ hl
  obtain ⟨x, hx⟩ : ∃ x, x = cB (secAt l lsn) := ⟨_, rfl⟩
  obtain ⟨E, hE⟩ : ∃ E, E = cE (secAt l lsn) := ⟨_, rfl⟩
  have HX := hi_ hx
  have HE := hi_ hE
  have HEP := hi_ he
  rw [<- hE] at he
  have d1 : decide (E < ep) = false := decide_eq_false (by omega)
  have d2 : decide (most < (m : Int)) = false := decide_eq_false (by omega)
  have hmb : 1 <= m /\ m <= 1024 := by have := hh.2.1; rw [hm] at this; omega
  have HNA : Hid (¬ AllQ l lsn E m -> ∀ b m o, ¬ OneP okF l lsn ep s most b m o) := hi_ fun ha b m' o k => ha (by have h2 := k.ct; rw [hm] at h2; have h3 := k.ow; rw [<- hE] at h3; have h4 := k.allq; rw [h3, show m' = m by omega] at h4; exact h4)
  have HNJ : Hid (¬ RcQ (bodies l lsn m) -> ∀ b m o, ¬ OneP okF l lsn ep s most b m o) := hi_ fun hj b m' o k => hj (by have h2 := k.ct; rw [hm] at h2; have h4 := k.rcq.1; rw [show m' = m by omega] at h4; exact h4)
  have HY : Hid (AllQ l lsn E m -> RcQ (bodies l lsn m) -> OneP okF l lsn ep s most (joinL (bodies l lsn m)).2.1 m E) := hi_ fun ha hj => by rw [hE]; rw [hE] at ha; exact OneP.mk2 ⟨hq, hh, hp, hs⟩ HEP.out hm hmo ha hj
  have hqr : 0 <= lsn /\ lsn <= 281474976710656 := hq.1
  rw [<- hx] at hh hp hs hm
  have hT : hdT x = .tuple #[.int .i64 0, .int .i64 (m : Int), .int .i64 s, .bool true] := by rw [hdT_yes hh, hp, hs, hm]
  have HT := hi_ hT
  clear h C1 cH hq hl hx hE hh he hp hs hm hmo hT CH
  have CH := hi_ (HCH.out lsn w1 HL.out)
  go_enter Tryz.func25, Tryz.ntmps25
  go_wp2_with (first
    | (rw [<- hw1]; clear hw1)
    | (go_at_call 37; have _t := CH; refine CH.out.mono ?_; rintro e w2 hP; obtain ⟨A2, m2, c2', rfl, hr2, hm2⟩ := hP.1 HQ.out
       rw [<- HX.out] at hr2
       rw [<- HE.out]
       have B2 := hi_ hP.2.2
       have R2 := hi_ (And.intro hr2 hm2)
       clear hP hr2 hm2 CH)
    | (refine wpList_stseal rfl (.tmp 16) (.tmp 36) rfl rfl rfl (SealAt.new w2) ?_; intro w3 hS3 hB3 _
       have b3 : Below w1.heap.size w1 w3 := B2.out.trans ((((Below.refl _ _).alloc (Nat.le_refl _) _).trans hB3).mono B2.out.size)
       have k0 : w3.cell? ⟨w2.heap.size, 0, none⟩ = some (.int .i64 E) := cell_of_row _ _ _ _ _ _ hS3
       have k3 : w3.cell? ⟨w2.heap.size, 3, none⟩ = some (.slice A2 m2 c2') := cell_of_row _ _ _ _ _ _ hS3
       have S3 := hi_ hS3
       have B3 := hi_ b3
       have R3 := hi_ (R2.out.1.below (Nat.le_refl _) (((Below.refl _ _).alloc (Nat.le_refl _) _).trans hB3))
       clear hB3 hS3 b3)
    | (go_at_call 38; refine (RPHead_any A2 m2 c2' x w3 R3.out (by have := R2.out.2.1; omega)).mono ?_; rintro e w' ⟨he, hw'⟩; subst hw'; rw [HT.out] at he; subst he))
  have I0 : Hid (PcG w3 w3 (.slice none 0 0) (bodies l lsn 0) [] (fun _ => False)) := hi_ (by rw [show bodies l lsn 0 = [] from rfl]; exact PcG.start w3)
  clear k0 k3 c0 c1 c2 c3 c4
  go_loopw [22, 23] (fun lv iv wr => ∃ (j : Nat) (vs : List Value) (D : Nat -> Prop), j <= m /\ iv = .int .i64 j /\ Hid (PcG w3 wr lv (bodies l lsn j) vs D) /\ Hid (AllQ l lsn E j)) (fun _ iv _ => m - (intOf iv).toNat)
  case atStart => exact ⟨0, [], _, Nat.zero_le _, rfl, I0, hi_ fun i hi => absurd hi (Nat.not_lt_zero _)⟩
  case round =>
    obtain ⟨j, vs, D, hj, rfl, HI, HA⟩ := hrel
    have hj100 : j <= 40 := Nat.le_trans (HasQ_len fun i hi => (HA.out i hi).1) HLL.out
    have BW := hi_ (B3.out.trans (HI.out.bel.mono B3.out.size))
    have SW := hi_ (S3.out.below HI.out.bel S3.out.lt)
    have z0 : wr.cell? ⟨w2.heap.size, 0, none⟩ = some (.int .i64 E) := cell_of_row _ _ _ _ _ _ SW.out
    by_cases hjm : j < m
    · have KW := hi_ (K1.out.next BW.out)
      have kc0 := KW.out.c0
      have kc1 := KW.out.c1
      have kc2 := KW.out.c2
      have kc3 := KW.out.c3
      have kc4 := KW.out.c4
      obtain ⟨qj, hqj⟩ : ∃ qj, qj = lsn + (j : Int) := ⟨_, rfl⟩
      have CW := hi_ (HCH.out qj wr (HL.out.below BW.out))
      have hq0 : lsn + (j : Int) = qj := hqj.symm
      have hwz : wrap64 qj = qj := by unfold wrap64; omega
      have hwz2 : IntKind.i64.wrap qj = qj := by rw [wrapEq]; exact hwz
      have HQJ := hi_ hqj
      have HB := hi_ HI.out.bel.size
      clear hqj
      by_cases h1 : HasQ l qj
      · obtain ⟨E2, hE2⟩ : ∃ E2, E2 = cE (secAt l qj) := ⟨_, rfl⟩
        have HE2 := hi_ hE2
        have H1 := hi_ h1
        by_cases h2 : E2 = E
        · have f2 : (E2 != E) = false := by simp [h2]
          have HEO := hi_ h2
          clear h1 h2 hE2
          go_wp2_with (first
            | (go_at_call 37; refine CW.out.mono ?_; rintro e w4 hP; obtain ⟨A4, m4, c4', rfl, hr4, hm4⟩ := hP.1 H1.out
               rw [<- HE2.out]
               have B4 := hi_ hP.2.2
               have ZZ4 := hi_ (SW.out.below hP.2.2 SW.out.lt)
               have R4 := hi_ (And.intro hr4 hm4)
               clear hP hr4 hm4)
            | (refine wpList_stseal rfl (.tmp 24) (.tmp 84) rfl rfl rfl (SealAt.new w4) ?_; intro w6 hS6 hB6 _
               have hb6 : Below wr.heap.size wr w6 := B4.out.trans ((((Below.refl _ _).alloc (Nat.le_refl _) _).trans hB6).mono B4.out.size)
               have zz0 : w6.cell? ⟨w2.heap.size, 0, none⟩ = some (.int .i64 E) := cell_of_row _ _ _ _ _ _ ((ZZ4.out.alloc _).below hB6 ZZ4.out.lt)
               have k0 : w6.cell? ⟨w4.heap.size, 0, none⟩ = some (.int .i64 E2) := cell_of_row _ _ _ _ _ _ hS6
               have k3 : w6.cell? ⟨w4.heap.size, 3, none⟩ = some (.slice A4 m4 c4') := cell_of_row _ _ _ _ _ _ hS6
               have hr6 := R4.out.1.below (Nat.le_refl _) (((Below.refl _ _).alloc (Nat.le_refl _) _).trans hB6)
               have R6 := hi_ (And.intro hb6 (And.intro hr6 (And.intro R4.out.2.2.1 (fun b o e h0 => (Or.inr (R4.out.2.2.2 b o e h0) : b < w3.heap.size \/ wr.heap.size <= b)))))
               clear hb6 hr6 hB6 hS6)
            | (at_builtin; have _t := R6; refine wpList_appX (K := fun y => w6.heap.size <= y) rowsT rfl (.tmp 95) (.tmp 98) rfl w3.heap.size _ j vs rfl (by have := HI.out.own (cs := #[.slice A4 m4 c4']) (t := 42) R6.out.1; rw [bodies_len] at this; exact this) (some ⟨w6.heap.size, 0, none⟩) 1 1 [.slice A4 m4 c4'] rfl (VRow.new w6 #[.slice A4 m4 c4'] _ 1 1 rfl) (fun u hu => by simp at hu; rw [hu]; rfl) (by omega) (by decide) (by simp; exact Nat.le_succ_of_le (HI.out.bel.trans (R6.out.1.mono HB.out)).size) ?_; intro v9 w9 ho9 hg9 hv9
               have O9 := hi_ (And.intro (show w9.ownsRow w3.heap.size 42 1 v9 ((bodies l lsn j).length + 1) (vs ++ [.slice A4 m4 c4']) from by rw [bodies_len]; exact ho9) (And.intro hg9 hv9))
               clear ho9 hg9 hv9))
          go_roundw
          case rel =>
            obtain ⟨vs', D', h'⟩ := HI.out.put (x := cB (secAt l qj)) R6.out.1 R6.out.2.1 R6.out.2.2.1 R6.out.2.2.2 O9.out.1 O9.out.2.1 O9.out.2.2
            exact ⟨j + 1, vs', D', hjm, by go_num, hi_ (by rw [bodies_succ, <- HQJ.out]; exact h'), hi_ (HA.out.succ (by rw [<- HQJ.out]; exact H1.out) (by rw [<- HQJ.out, <- HE2.out]; exact HEO.out))⟩
          case measure => simp [intOf]; omega
        · have f2 : (E2 != E) = true := by simpa using h2
          have HN : Hid (∀ b m o, ¬ OneP okF l lsn ep s most b m o) := hi_ (HNA.out fun k => h2 (by rw [hE2, HQJ.out]; exact (k j hjm).2))
          clear h1 h2 hE2
          go_wp2_with (first
            | (go_at_call 37; refine CW.out.mono ?_; rintro e w4 hP; obtain ⟨A4, m4, c4', rfl, hr4, hm4⟩ := hP.1 H1.out
               rw [<- HE2.out]
               have B4 := hi_ hP.2.2
               have ZZ4 := hi_ (SW.out.below hP.2.2 SW.out.lt)
               have R4 := hi_ (And.intro hr4 hm4)
               clear hP hr4 hm4)
            | (refine wpList_stseal rfl (.tmp 24) (.tmp 84) rfl rfl rfl (SealAt.new w4) ?_; intro w6 hS6 hB6 _
               have hb6 : Below wr.heap.size wr w6 := B4.out.trans ((((Below.refl _ _).alloc (Nat.le_refl _) _).trans hB6).mono B4.out.size)
               have zz0 : w6.cell? ⟨w2.heap.size, 0, none⟩ = some (.int .i64 E) := cell_of_row _ _ _ _ _ _ ((ZZ4.out.alloc _).below hB6 ZZ4.out.lt)
               have k0 : w6.cell? ⟨w4.heap.size, 0, none⟩ = some (.int .i64 E2) := cell_of_row _ _ _ _ _ _ hS6
               have R6 := hi_ hb6
               clear hb6 hB6 hS6))
          refine bodyPost_ret (results_tmp4 rfl _ _ _) rfl ?_
          exact .no HN.out (K1.out.bel.trans ((BW.out.trans (R6.out.mono BW.out.size)).mono K1.out.bel.size))
      · have HN : Hid (∀ b m o, ¬ OneP okF l lsn ep s most b m o) := hi_ (HNA.out fun k => h1 (by rw [HQJ.out]; exact (k j hjm).1))
        have H1 := hi_ h1
        clear h1
        go_wp2_with (first
          | (go_at_call 37; refine CW.out.mono ?_; rintro e w4 hP; obtain rfl := hP.2.1 H1.out
             have B4 := hi_ hP.2.2
             have ZZ4 := hi_ (SW.out.below hP.2.2 SW.out.lt)
             clear hP)
          | (refine wpList_stseal rfl (.tmp 24) (.tmp 84) rfl rfl rfl (SealAt.new w4) ?_; intro w6 hS6 hB6 _
             have hb6 : Below wr.heap.size wr w6 := B4.out.trans ((((Below.refl _ _).alloc (Nat.le_refl _) _).trans hB6).mono B4.out.size)
             have zz0 : w6.cell? ⟨w2.heap.size, 0, none⟩ = some (.int .i64 E) := cell_of_row _ _ _ _ _ _ ((ZZ4.out.alloc _).below hB6 ZZ4.out.lt)
             have R6 := hi_ hb6
             clear hb6 hB6 hS6))
        refine bodyPost_ret (results_tmp4 rfl _ _ _) rfl ?_
        exact .no HN.out (K1.out.bel.trans ((BW.out.trans (R6.out.mono BW.out.size)).mono K1.out.bel.size))
    · obtain rfl : j = m := by omega
      obtain ⟨A9, c9, he9, _, _, hv9⟩ := HI.out.done
      rw [bodies_len] at he9 hv9
      subst he9
      have CJ := hi_ (RJoin_any A9 j c9 (bodies l lsn j) wr hv9 (by omega) (fun x hx => by obtain ⟨i, _, rfl⟩ := List.mem_map.1 hx; have := cB_len (secAt l (lsn + (i : Nat))); omega))
      have HLE : Hid ((joinL (bodies l lsn j)).2.1.length <= 18880) := hi_ (by have := join_le (xs := bodies l lsn j) (fun x hx => by obtain ⟨i, _, rfl⟩ := List.mem_map.1 hx; exact cB_len _); rw [bodies_len] at this; omega)
      have HRC : Hid (RcQ (bodies l lsn j) ↔ ((joinL (bodies l lsn j)).2.2 = true /\ okF (joinL (bodies l lsn j)).2.1)) := hi_ Iff.rfl
      have HYA := hi_ (HY.out HA.out)
      obtain ⟨r, hr⟩ : ∃ r, r = joinL (bodies l lsn j) := ⟨_, rfl⟩
      rw [<- hr] at CJ HLE HRC HYA
      obtain ⟨z, b, ok⟩ := r
      simp only at HLE HRC HYA
      obtain ⟨fe, hfe⟩ : ∃ fe, fe = (frGet b).2 := ⟨_, rfl⟩
      have HFE := hi_ hfe
      have BWS := hi_ BW.out
      clear hv9 hr hfe
      cases ok
      · have HN : Hid (∀ b m o, ¬ OneP okF l lsn ep s most b m o) := hi_ (HNJ.out fun k => absurd (HRC.out.1 k).1 (by simp))
        go_wp2_with (first
          | (go_at_call 39; refine CJ.out.mono ?_; rintro e w4 ⟨A4, m4, c4', rfl, hr4, hm4, hb4⟩
             have B4 := hi_ (BWS.out.trans (hb4.mono BWS.out.size))
             have R4 := hi_ (And.intro (show Rd w4 A4 m4 b from hr4) (And.intro hm4.1 (fun b o e h0 => Nat.le_trans (Nat.le_trans K1.out.bel.size BWS.out.size) (hm4.2.2 b o e h0))))
             have S4 := hi_ (SW.out.below hb4 SW.out.lt)
             clear hr4 hm4 hb4)
          | (go_at_call 40; refine (RFGet_any c4' b w4 A4 m4 R4.out.1 (by have h1 := R4.out.1.1; have h2 := HLE.out; omega) R4.out.2.1).mono ?_; rintro e w5 ⟨A5, m5, c5, he5, _, hb5⟩
             rw [<- HFE.out] at he5
             subst he5
             have B5 := hi_ (B4.out.trans (hb5.mono B4.out.size))
             have R5 := hi_ (And.intro (R4.out.1.below (Nat.le_refl _) hb5) R4.out.2)
             have S5 := hi_ (S4.out.below hb5 S4.out.lt)
             have zf : w5.cell? ⟨w2.heap.size, 0, none⟩ = some (.int .i64 E) := cell_of_row _ _ _ _ _ _ S5.out
             clear hb5))
        refine bodyPost_ret (results_tmp4 rfl _ _ _) rfl ?_
        exact .no HN.out (K1.out.bel.trans (B5.out.mono K1.out.bel.size))
      · by_cases hf : fe = 0
        · have HF : Hid (RcQ (bodies l lsn j)) := hi_ (HRC.out.2 ⟨by trivial, by unfold okF; rw [<- HFE.out]; exact hf⟩)
          subst hf
          go_wp2_with (first
            | (go_at_call 39; refine CJ.out.mono ?_; rintro e w4 ⟨A4, m4, c4', rfl, hr4, hm4, hb4⟩
               have B4 := hi_ (BWS.out.trans (hb4.mono BWS.out.size))
               have R4 := hi_ (And.intro (show Rd w4 A4 m4 b from hr4) (And.intro hm4.1 (fun b o e h0 => Nat.le_trans (Nat.le_trans K1.out.bel.size BWS.out.size) (hm4.2.2 b o e h0))))
               have S4 := hi_ (SW.out.below hb4 SW.out.lt)
               clear hr4 hm4 hb4)
            | (go_at_call 40; refine (RFGet_any c4' b w4 A4 m4 R4.out.1 (by have h1 := R4.out.1.1; have h2 := HLE.out; omega) R4.out.2.1).mono ?_; rintro e w5 ⟨A5, m5, c5, he5, _, hb5⟩
               rw [<- HFE.out] at he5
               subst he5
               have B5 := hi_ (B4.out.trans (hb5.mono B4.out.size))
               have R5 := hi_ (And.intro (R4.out.1.below (Nat.le_refl _) hb5) R4.out.2)
               have S5 := hi_ (S4.out.below hb5 S4.out.lt)
               have zf : w5.cell? ⟨w2.heap.size, 0, none⟩ = some (.int .i64 E) := cell_of_row _ _ _ _ _ _ S5.out
               clear hb5))
          go_quiet (fail)
          go_wp2
          refine bodyPost_ret (results_tmp4 rfl _ _ _) rfl ?_
          exact .yes (HYA.out HF.out) (R5.out.1.below (Nat.le_refl _) (below_drewNc _ _)) R5.out.2 ((K1.out.bel.trans (B5.out.mono K1.out.bel.size)).trans ((below_drewNc _ _).mono (K1.out.bel.trans (B5.out.mono K1.out.bel.size)).size))
        · have f0 : (fe != 0) = true := by simpa using hf
          have HN : Hid (∀ b m o, ¬ OneP okF l lsn ep s most b m o) := hi_ (HNJ.out fun k => hf (by have := (HRC.out.1 k).2; unfold okF at this; rw [HFE.out]; exact this))
          clear hf
          go_wp2_with (first
            | (go_at_call 39; refine CJ.out.mono ?_; rintro e w4 ⟨A4, m4, c4', rfl, hr4, hm4, hb4⟩
               have B4 := hi_ (BWS.out.trans (hb4.mono BWS.out.size))
               have R4 := hi_ (And.intro (show Rd w4 A4 m4 b from hr4) (And.intro hm4.1 (fun b o e h0 => Nat.le_trans (Nat.le_trans K1.out.bel.size BWS.out.size) (hm4.2.2 b o e h0))))
               have S4 := hi_ (SW.out.below hb4 SW.out.lt)
               clear hr4 hm4 hb4)
            | (go_at_call 40; refine (RFGet_any c4' b w4 A4 m4 R4.out.1 (by have h1 := R4.out.1.1; have h2 := HLE.out; omega) R4.out.2.1).mono ?_; rintro e w5 ⟨A5, m5, c5, he5, _, hb5⟩
               rw [<- HFE.out] at he5
               subst he5
               have B5 := hi_ (B4.out.trans (hb5.mono B4.out.size))
               have R5 := hi_ (And.intro (R4.out.1.below (Nat.le_refl _) hb5) R4.out.2)
               have S5 := hi_ (S4.out.below hb5 S4.out.lt)
               have zf : w5.cell? ⟨w2.heap.size, 0, none⟩ = some (.int .i64 E) := cell_of_row _ _ _ _ _ _ S5.out
               clear hb5))
          refine bodyPost_ret (results_tmp4 rfl _ _ _) rfl ?_
          exact .no HN.out (K1.out.bel.trans (B5.out.mono K1.out.bel.size))
theorem ROne_any {l : List (List UInt8)} (h : Log18 w A n ks K LA ln xs) (cH : RHasC lg pg en gn A n cap ks (K := K) LA ln lc xs l) (hl : l.length <= 40) :
    Calls Tryz.prog 25 #[cv lg pg en gn A n cap, .slice LA ln lc, .int .i64 lsn, .int .i64 ep, .int .i64 s, .int .i64 most] w (OneR l lsn ep s most w) := by
  by_cases hq : HasQ l lsn
  · by_cases hh : HdOk (cB (secAt l lsn))
    · obtain ⟨m, hm⟩ : ∃ m : Nat, cnt (cB (secAt l lsn)) = (m : Int) := ⟨(cnt (cB (secAt l lsn))).toNat, by have := hh.2.1; omega⟩
      by_cases he : ep <= cE (secAt l lsn)
      · by_cases hp : plc (cB (secAt l lsn)) = 0
        · by_cases hs : sqn (cB (secAt l lsn)) = s
          · by_cases hmo : (m : Int) <= most
            · exact Rone_loop lg pg en gn A n cap ks LA ln lc xs lsn ep s most w h cH hl hq hh he hp hs hm hmo
            · exact Rone_n4 lg pg en gn A n cap ks LA ln lc xs lsn ep s most w h cH hl hq hh he hp hs hm hmo
          · exact Rone_n3 lg pg en gn A n cap ks LA ln lc xs lsn ep s most w h cH hl hq hh he hp hs
        · exact Rone_n2 lg pg en gn A n cap ks LA ln lc xs lsn ep s most w h cH hl hq hh he hp
      · exact Rone_n1e lg pg en gn A n cap ks LA ln lc xs lsn ep s most w h cH hl hq hh he
    · exact Rone_n1 lg pg en gn A n cap ks LA ln lc xs lsn ep s most w h cH hl hq hh
  · exact Rone_n0 lg pg en gn A n cap ks LA ln lc xs lsn ep s most w h cH hl hq
end
end Go.Proofs.YthabmlbmlncbmaaGreat
namespace Go.Proofs.YthabmlbmlncbmaaGreat
open Go.RowKit
set_option linter.unusedVariables false
set_option maxRecDepth 20000
theorem step_mkn {P : Program} (w : World) {T e : TypeId} {z : Value} {size bytes : Nat} (el : El P T e z size bytes) {ops : Array Oper} {o : Oper} {a : Act} {Q : Exit -> Act -> World -> Prop} {J : Act -> World -> Prop} {E : Prop} (hgd : o.guard = none) (x y : Operand)
    (ho : o.op = Op.makeSlice T x y) (B : Nat) (kl kc : IntKind) (L C : Int) (n : Nat) (hl : a.eval x = .int kl L) (hc : a.eval y = .int kc C) (hL : L = (n : Int)) (hC : C = (n : Int)) (hb : bytes * n <= 281474976710656) (hm : n <= maxLen) (hB : B <= w.heap.size)
    (h : ∀ w', w'.ownsRow B e size (.slice (some ⟨w.heap.size, 0, none⟩) n n) n (madeCells z.cells (n * size)).toList -> Below B w w' -> J (a.put o.dst (.slice (some ⟨w.heap.size, 0, none⟩) n n)) w') :
    if Region.wanted o (yielded ops a.tmps) = true then Oper.wp P o a w J Q else E := by
  have hw : Region.wanted o (yielded ops a.tmps) = true := by simp [Region.wanted, hgd]
  rw [if_pos hw]
  obtain ⟨i, hi, hz, h1, h2⟩ := info_parts el.info
  obtain ⟨w', hrun, r1, r2⟩ := run_make_full (P := P) w B T e i z size el.und hi hz h1 kl kc n (by rw [h2]; exact hb) hm hB
  subst hL
  subst hC
  unfold Oper.wp
  simp [execOp, ho, hl, hc, hrun, Result.andThen]
  exact h w' r1 ((Below.refl _ _).grown r2 hB (fun k hk => by cases hk))
theorem effL_lg {lg : Int} {R : Bool} {xs : List (List UInt8)} {x : Int} (hb : R = true -> (2 <= lg /\ lg <= 1024)) (h : HasQ (effL R lg xs) x) : 0 <= lg /\ lg <= 1024 := by
  by_cases hR : R = true
  · have := hb hR; omega
  · unfold effL at h
    rw [if_neg (fun k => hR k.1)] at h
    exact absurd h (hasQ_nil _)
section
variable (lg pg en gn : Int) (A : Option Addr) (n cap : Nat) (ks : List Kd) {K : Nat -> Prop} (LA : Option Addr) (ln lc : Nat) (xs : List (List UInt8))
def effR (ks : List Kd) : List (List UInt8) := effL (decide (Cf.mk lg pg en gn ks).Right) lg xs
theorem right_num (h : decide (Cf.mk lg pg en gn ks).Right = true) : (2 <= lg /\ lg <= 1024) /\ (4 <= pg /\ pg <= 1024) := by
  rw [decide_eq_true_iff] at h
  exact ⟨h.1.1, h.1.2.1⟩
theorem GRr_ok (hn : n <= 1000000) (hs : Lens ks) : GRr lg pg en gn A n cap ks (decide (Cf.mk lg pg en gn ks).Right) := fun W hW => RRight_any lg pg en gn A n cap ks W hW hn hs
theorem PRt_ok (hn : n <= 1000000) (hs : Lens ks) : PRt lg pg en gn A n cap ks (decide (Cf.mk lg pg en gn ks).Right) := fun W hW => (Check_any lg pg en gn A n cap ks W hW hn hs).mono fun e w' ⟨he, hb⟩ => by
  refine ⟨?_, hb⟩
  rw [he]
  by_cases hR : (Cf.mk lg pg en gn ks).Right
  · rw [if_pos hR, decide_eq_true hR, if_pos rfl]
  · rw [if_neg hR, decide_eq_false hR, if_neg (by decide)]
theorem LHas_ok (hn : n <= 1000000) (hs : Lens ks) : LHasC lg pg en gn A n cap ks (K := K) LA ln lc xs (effR lg pg en gn xs ks) := fun q W h => SHas_any lg pg en gn A n cap ks LA ln lc xs q W h.k (PRt_ok lg pg en gn A n cap ks hn hs) (right_num lg pg en gn ks) h.p
theorem RHas_ok (hn : n <= 1000000) (hs : Lens ks) : RHasC lg pg en gn A n cap ks (K := K) LA ln lc xs (effR lg pg en gn xs ks) := fun q W h => RHas_any lg pg en gn A n cap ks LA ln lc xs q W h.k (GRr_ok lg pg en gn A n cap ks hn hs) (right_num lg pg en gn ks) h.p
theorem LOne_ok (hn : n <= 1000000) (hs : Lens ks) (hx : xs.length <= 40) : OneC lg pg en gn A n cap ks (K := K) LA ln lc xs 26 (effR lg pg en gn xs ks) := fun q e s most W h =>
  One_any lg pg en gn A n cap ks LA ln lc xs q e s most W h (LHas_ok lg pg en gn A n cap ks LA ln lc xs hn hs) (by have := effL_len (decide (Cf.mk lg pg en gn ks).Right) lg xs; unfold effR; omega)
theorem ROne_ok (hn : n <= 1000000) (hs : Lens ks) (hx : xs.length <= 40) : OneC lg pg en gn A n cap ks (K := K) LA ln lc xs 25 (effR lg pg en gn xs ks) := fun q e s most W h =>
  ROne_any lg pg en gn A n cap ks LA ln lc xs q e s most W h (RHas_ok lg pg en gn A n cap ks LA ln lc xs hn hs) (by have := effL_len (decide (Cf.mk lg pg en gn ks).Right) lg xs; unfold effR; omega)
theorem LScan_ok (hn : n <= 1000000) (hs : Lens ks) (hx : xs.length <= 40) (hd0 ep s : Int) (W : World) (h : Log18 W A n ks K LA ln xs) :
    Calls Tryz.prog 11 #[cv lg pg en gn A n cap, .slice LA ln lc, .int .i64 hd0, .int .i64 ep, .int .i64 s] W (ScanR (effR lg pg en gn xs ks) lg hd0 ep s W) :=
  Scan_any lg pg en gn A n cap ks LA ln lc xs hd0 ep s W h (LOne_ok lg pg en gn A n cap ks LA ln lc xs hn hs hx) (fun x hq => effL_lg (fun hR => (right_num lg pg en gn ks hR).1) hq)
theorem RScan_ok (hn : n <= 1000000) (hs : Lens ks) (hx : xs.length <= 40) (hd0 ep s : Int) (W : World) (h : Log18 W A n ks K LA ln xs) :
    Calls Tryz.prog 9 #[cv lg pg en gn A n cap, .slice LA ln lc, .int .i64 hd0, .int .i64 ep, .int .i64 s] W (ScanR (effR lg pg en gn xs ks) lg hd0 ep s W) :=
  RScan_any lg pg en gn A n cap ks LA ln lc xs hd0 ep s W h (ROne_ok lg pg en gn A n cap ks LA ln lc xs hn hs hx) (fun x hq => effL_lg (fun hR => (right_num lg pg en gn ks hR).1) hq)
end
theorem live18R : (Cf.mk 2 4 1 1 []).Right := by decide
theorem live18_okF : okF (frBytes []) := by unfold okF; rw [frGet_put [] (by simp) (fun x hx => by cases hx)]
theorem live18_len : (frBytes []).length = 5 := by unfold frBytes frBody; simp [numB_length]
theorem live18_need : needN (frBytes []).length = 1 := by rw [live18_len]; decide
theorem live18_sec : sealedL 3 4 9 (frBytes []) = [sectorOf 3 4 1 (piece 1 9 (frBytes []) 0)] := by
  unfold sealedL
  rw [live18_need]
  simp
theorem zeros_cN : cN (zeros 512) = 0 := by
  have e : ((zeros 512).drop 8).take 8 = zeros 8 := by simp [zeros]
  unfold cN
  rw [e]
  have e2 : zeros 8 = numB 8 0 := by decide
  rw [e2]
  exact getV_numB8 (by decide)
def live18_l : List (List UInt8) := [sectorOf 3 4 1 (piece 1 9 (frBytes []) 0), zeros 512]
theorem live18_scn : Scn okF live18_l 6 4 2 9 [frBytes []] 5 3 10 := by
  have h4 : secAt live18_l 4 = sectorOf 3 4 1 (piece 1 9 (frBytes []) 0) := rfl
  have h5 : secAt live18_l 5 = zeros 512 := rfl
  have h1 : OneP okF live18_l 4 2 9 (6 - 4) (frBytes []) (needN (frBytes []).length) 3 := by
    refine new_one (by omega) (by omega) (by rw [live18_need]; decide) (by omega) (by omega) (by rw [live18_need]; decide) live18_okF (by omega) ?_
    rw [live18_need]
    intro i hi
    obtain rfl : i = 0 := by omega
    exact h4
  rw [live18_need] at h1
  refine Scn.go h1 (.stop fun b m o h => ?_)
  have h6 := h.has.2.2.2
  rw [show (4 : Int) + ((1 : Nat) : Int) = 5 from rfl, h5, zeros_cN] at h6
  omega
end Go.Proofs.YthabmlbmlncbmaaGreat
namespace Go.Proofs.YthabmlbmlncbmaaGreat
set_option maxRecDepth 20000
theorem RowsL.mk {α : Type} {sz : Nat} {E : α -> List Value -> Prop} {K : Nat -> Prop} {w : World} {b o n : Nat} (hsz : 0 < sz) (F : Nat -> α) (R : Nat -> List Value) (hK : 0 < n -> K b /\ b < w.heap.size)
    (h : ∀ i, i < n -> (R i).length = sz /\ E (F i) (R i) /\ ∀ r u, (R i)[r]? = some u -> w.cell? ⟨b, o + (i * sz + r), none⟩ = some u) : RowsL sz E K w (some ⟨b, o, none⟩) n ((List.range n).map F) := by
  have hl : ∀ r ∈ (List.range n).map R, r.length = sz := fun r hr => by
    obtain ⟨i, hi, rfl⟩ := List.mem_map.1 hr
    exact (h i (List.mem_range.1 hi)).1
  refine ⟨((List.range n).map R).flatten, by simp, ⟨by rw [flatg_len hl]; simp, (fun e => by cases e), fun hp => ⟨b, o, rfl, (hK hp).1, (hK hp).2, fun j u hj => ?_⟩⟩, (List.range n).map R, rfl, by simp, hl, fun j x hx => ?_⟩
  · have hjl := (List.getElem?_eq_some_iff.1 hj).1
    rw [flatg_len hl] at hjl
    simp only [List.length_map, List.length_range] at hjl
    have hi : j / sz < n := Nat.div_lt_of_lt_mul (by rw [Nat.mul_comm]; exact hjl)
    have hr : j % sz < sz := Nat.mod_lt _ hsz
    have e : j = j / sz * sz + j % sz := by rw [Nat.mul_comm]; exact (Nat.div_add_mod j sz).symm
    have hg := flatg_get hl (k := j / sz) (i := j % sz) (r := R (j / sz)) (by rw [List.getElem?_map, List.getElem?_range hi]; rfl) hr
    rw [<- e, hj] at hg
    have := (h (j / sz) hi).2.2 (j % sz) u hg.symm
    rw [<- e] at this
    exact this
  · rw [List.getElem?_map] at hx
    by_cases hj : j < n
    · rw [List.getElem?_range hj] at hx
      injection hx with hx
      exact ⟨R j, by rw [List.getElem?_map, List.getElem?_range hj]; rfl, hx ▸ (h j hj).2.1⟩
    · rw [List.getElem?_eq_none (by simp; omega)] at hx
      cases hx
end Go.Proofs.YthabmlbmlncbmaaGreat
namespace Go.Proofs.YthabmlbmlncbmaaGreat
open Go.RowKit Go.ChangeShapes Go.WideShapes Go.Deep
set_option maxRecDepth 20000
def CdsRd (w : World) (A : Option Addr) (n : Nat) (xs : List Cd) : Prop :=
  xs.length = n /\ CdsV (· < w.heap.size) w A n xs /\ ∀ x ∈ xs, x.wf /\ x.dt.length <= maxLen
section
variable {H : Type} {enc : TypeId × Value -> H} {w : World} {base : Nat} {held : Bool}
theorem open_cmds {fuel : Nat} {cs : List Value} {x : DataW H × List MemPlace} (h : DataW.trod enc Tryz.prog w base (fun _ => true) held fuel 40 cs = some x) :
    ∃ A n c xs, cs = [.slice A n c] /\ CdsRd w A n xs /\ n <= c /\ c <= maxLen := by
  have nil : ∀ A : Option Addr, CdsRd w A 0 [] := fun A => ⟨rfl, CdsV.nil _ _ _, fun _ h => absurd h List.not_mem_nil⟩
  rcases elems_at Tryz.underlying40 h with h0 | ⟨a, len, cap, hcs, hl, hm, hi⟩
  · exact ⟨none, 0, 0, [], h0, nil _, Nat.le_refl _, Nat.zero_le _⟩
  have h4 : Tryz.prog.cellsOf 61 = 6 := by kernel_rfl
  rw [h4] at hi
  have key : ∀ i, ∃ x : Cd × Option Addr × Nat × Nat, i < len -> ((∀ j, j < 6 -> w.cell? ((a.add (i * 6)).add j) = (x.1.cs x.2.1 x.2.2.1 x.2.2.2).toList[j]?) /\ (Rd w x.2.1 x.2.2.1 x.1.dt /\ x.2.2.1 <= x.2.2.2 /\ x.2.2.2 <= maxLen) /\ x.1.wf) := fun i => by
    by_cases hil : i < len
    · obtain ⟨cs', n, y, hc, ht⟩ := hi i hil
      obtain ⟨x, A, m, c, e, hx⟩ := open_cmd ht
      subst e
      exact ⟨(x, A, m, c), fun _ => ⟨fun j hj => hc j hj, hx⟩⟩
    · exact ⟨(⟨0, false, 0, 0, 0, []⟩, none, 0, 0), fun h => absurd h hil⟩
  obtain ⟨F, hF⟩ := Classical.axiomOfChoice key
  rcases Nat.eq_zero_or_pos len with h0 | hpos
  · subst h0
    exact ⟨some a, 0, cap, [], hcs, nil _, hl, hm⟩
  obtain ⟨b, off, spot⟩ := a
  have hs := (hF 0 hpos).1 0 (by decide)
  have hs' : w.cell? (((Addr.mk b off spot).add (0 * 6)).add 0) = some (.int .i64 (F 0).1.d) := hs
  have hspot : spot = none := by simpa [Addr.add] using World.cell?_spot hs'
  subst hspot
  have hlt : b < w.heap.size := by simpa [Addr.add] using World.block_lt_of_cell? w _ hs'
  refine ⟨_, len, cap, (List.range len).map fun i => (F i).1, hcs, ⟨by simp, RowsL.mk (by decide) (fun i => (F i).1) (fun i => ((F i).1.cs (F i).2.1 (F i).2.2.1 (F i).2.2.2).toList) (fun _ => ⟨hlt, hlt⟩) (fun i hi' => ⟨rfl, ⟨_, _, _, rfl, ⟨_, _, _, rfl, (hF i hi').2.1.1, fun b' o' e hn => ?_⟩, (hF i hi').2.1.2.1⟩, fun r u hr => ?_⟩), fun y hy => ?_⟩, hl, hm⟩
  · obtain ⟨b2, o2, e2, hlt2, _⟩ := (hF i hi').2.1.1.2 hn
    rw [e] at e2
    injection e2 with e2
    injection e2 with e3 e4
    exact ⟨(show b' < w.heap.size by omega), by omega⟩
  · have hr6 : r < 6 := (List.getElem?_eq_some_iff.1 hr).1
    have := (hF i hi').1 r hr6
    rw [Addr.add_lit, Addr.add_lit, Nat.add_assoc] at this
    rw [this]
    exact hr
  · obtain ⟨i, hi', rfl⟩ := List.mem_map.1 hy
    have := hF i (List.mem_range.1 hi')
    exact ⟨this.2.2, by rw [this.2.1.1.1]; exact Nat.le_trans this.2.1.2.1 this.2.1.2.2⟩
end
end Go.Proofs.YthabmlbmlncbmaaGreat
namespace Go.Proofs.YthabmlbmlncbmaaGreat
open Go.RowKit Go.ChangeShapes Go.WideShapes Go.Deep
set_option maxRecDepth 20000
def PcsRd (w : World) (A : Option Addr) (n : Nat) (xs : List (List UInt8)) : Prop := PcsV (· < w.heap.size) w A n xs /\ ∀ x ∈ xs, x.length <= maxLen
section
variable {H : Type} {enc : TypeId × Value -> H} {w : World} {base : Nat} {held : Bool}
theorem open_pb {fuel : Nat} {cs : List Value} {x : DataW H × List MemPlace} (h : DataW.trod enc Tryz.prog w base (fun _ => true) held fuel 42 cs = some x) :
    ∃ A n c l, cs = [.slice A n c] /\ VB (· < w.heap.size) w (.slice A n c) l /\ n <= c /\ c <= maxLen := by
  obtain ⟨A, n, c, l, hcs, hr, h1, h2⟩ := open_bytes h
  refine ⟨A, n, c, l, hcs, ⟨_, _, _, rfl, hr, fun b o e hn => ?_⟩, h1, h2⟩
  obtain ⟨b', o', e', hlt, _⟩ := hr.2 hn
  rw [e] at e'
  injection e' with e'
  injection e' with e1 e2
  exact ⟨(show b < w.heap.size by omega), by omega⟩
theorem open_pcs {fuel : Nat} {cs : List Value} {x : DataW H × List MemPlace} (h : DataW.trod enc Tryz.prog w base (fun _ => true) held fuel 25 cs = some x) :
    ∃ A n c ls, cs = [.slice A n c] /\ PcsRd w A n ls /\ n <= c /\ c <= maxLen := by
  have nil : ∀ A : Option Addr, PcsRd w A 0 [] := fun A => ⟨PcsV.nil _ _ _, fun _ h => absurd h List.not_mem_nil⟩
  rcases elems_at Tryz.underlying25 h with h0 | ⟨a, len, cap, hcs, hl, hm, hi⟩
  · exact ⟨none, 0, 0, [], h0, nil _, Nat.le_refl _, Nat.zero_le _⟩
  have h4 : Tryz.prog.cellsOf 42 = 1 := by kernel_rfl
  rw [h4] at hi
  have key : ∀ i, ∃ x : List UInt8 × Option Addr × Nat × Nat, i < len -> (w.cell? ((a.add (i * 1)).add 0) = some (.slice x.2.1 x.2.2.1 x.2.2.2) /\ VB (· < w.heap.size) w (.slice x.2.1 x.2.2.1 x.2.2.2) x.1 /\ x.2.2.1 <= x.2.2.2 /\ x.2.2.2 <= maxLen) := fun i => by
    by_cases hil : i < len
    · obtain ⟨cs', n, y, hc, ht⟩ := hi i hil
      obtain ⟨bA, bn, bc, b, eb, hvb, h1, h2⟩ := open_pb ht
      subst eb
      exact ⟨(b, bA, bn, bc), fun _ => ⟨hc 0 (by decide), hvb, h1, h2⟩⟩
    · exact ⟨([], none, 0, 0), fun h => absurd h hil⟩
  obtain ⟨F, hF⟩ := Classical.axiomOfChoice key
  rcases Nat.eq_zero_or_pos len with h0 | hpos
  · subst h0
    exact ⟨some a, 0, cap, [], hcs, nil _, hl, hm⟩
  obtain ⟨b, off, spot⟩ := a
  have hs := (hF 0 hpos).1
  have hspot : spot = none := by simpa [Addr.add] using World.cell?_spot hs
  subst hspot
  have hlt : b < w.heap.size := by simpa [Addr.add] using World.block_lt_of_cell? w _ hs
  refine ⟨_, len, cap, (List.range len).map fun i => (F i).1, hcs, ⟨RowsL.mk (by decide) (fun i => (F i).1) (fun i => [.slice (F i).2.1 (F i).2.2.1 (F i).2.2.2]) (fun _ => ⟨hlt, hlt⟩) (fun i hi' => ⟨rfl, ⟨_, _, _, rfl, (hF i hi').2.1, (hF i hi').2.2.1⟩, fun r u hr => ?_⟩), fun y hy => ?_⟩, hl, hm⟩
  · have hr1 : r < 1 := (List.getElem?_eq_some_iff.1 hr).1
    obtain rfl : r = 0 := by omega
    have := (hF i hi').1
    rw [Addr.add_lit, Addr.add_lit, Nat.add_assoc] at this
    rw [this]
    exact hr
  · obtain ⟨i, hi', rfl⟩ := List.mem_map.1 hy
    obtain ⟨_, ⟨A', m, c, e, hr, _⟩, h1, h2⟩ := hF i (List.mem_range.1 hi')
    injection e with e1 e2 e3
    have := hr.1
    show (F i).1.length <= maxLen
    omega
end
end Go.Proofs.YthabmlbmlncbmaaGreat
namespace Go.Proofs.YthabmlbmlncbmaaGreat
open Go.RowKit Go.ChangeShapes Go.WideShapes Go.Deep
set_option linter.unusedVariables false
set_option maxRecDepth 20000
def EFr (K : Nat -> Prop) (w : World) (x : List Cd) (r : List Value) : Prop := ∃ A n c, r = [.slice A n c] /\ CdsV K w A n x /\ n <= c
theorem EFr.ok : EOk EFr where
  stays := fun ⟨A, n, c, e, hu, hc⟩ hs => ⟨A, n, c, e, hu.stays hs, hc⟩
  mono := fun ⟨A, n, c, e, hu, hc⟩ hk => ⟨A, n, c, e, hu.mono hk, hc⟩
  lt := fun ⟨A, n, c, e, hu, hc⟩ => ⟨A, n, c, e, hu.lt, hc⟩
abbrev FrsV (K : Nat -> Prop) (w : World) (A : Option Addr) (n : Nat) (xs : List (List Cd)) : Prop := RowsL 1 (EFr K w) K w A n xs
section
variable {K K' : Nat -> Prop} {w w' : World} {A : Option Addr} {n : Nat} {xs : List (List Cd)}
theorem FrsV.below (h : FrsV K w A n xs) (hb : Below w.heap.size w w') : FrsV K w' A n xs := by
  obtain ⟨vs, h1, h2, h3⟩ := h
  exact ⟨vs, h1, h2.below hb, h3.imp fun x r hx => EFr.ok.below hx hb⟩
theorem FrsV.len (h : FrsV K w A n xs) : xs.length = n := by obtain ⟨_, h1, _⟩ := h; exact h1
theorem FrsV.nil (K : Nat -> Prop) (w : World) (A : Option Addr) : FrsV K w A 0 [] := ⟨[], rfl, ⟨rfl, fun _ => rfl, fun h => absurd h (Nat.lt_irrefl 0)⟩, HdL.nil _ _⟩
theorem FrsV.cell (h : FrsV K w A n xs) {j : Nat} {x : List Cd} (hj : xs[j]? = some x) : ∃ b o A' m c, A = some ⟨b, o, none⟩ /\ b < w.heap.size /\ w.cell? ⟨b, o + j, none⟩ = some (.slice A' m c) /\ CdsV K w A' m x /\ m <= c := by
  obtain ⟨b, o, r, e, hk, hlt, _, ⟨A', m, c, hr, hv, hmc⟩, hc⟩ := RowsL.cells h hj
  subst hr
  have h0 := hc 0 _ (by decide) rfl
  rw [Nat.mul_one, Nat.add_zero] at h0
  exact ⟨b, o, A', m, c, e, hlt, h0, hv, hmc⟩
end
def FrsRd (w : World) (A : Option Addr) (n : Nat) (xs : List (List Cd)) : Prop := FrsV (· < w.heap.size) w A n xs /\ ∀ x ∈ xs, (∀ y ∈ x, y.wf /\ y.dt.length <= maxLen) /\ x.length <= maxLen
def IRdW (w : World) (A : Option Addr) (n : Nat) (zs : List Int) : Prop :=
  (zs.length = n /\ (0 < n -> ∃ b o, A = some ⟨b, o, none⟩ /\ b < w.heap.size /\ ∀ j (_ : j < zs.length), w.cell? ⟨b, o + j, none⟩ = some (.int .i64 (zs.getD j 0)))) /\ ∀ z ∈ zs, -9223372036854775808 <= z /\ z <= 9223372036854775807
theorem IRdW.below {w w' : World} {A : Option Addr} {n : Nat} {zs : List Int} (h : IRdW w A n zs) (hb : Below w.heap.size w w') : IRdW w' A n zs :=
  ⟨⟨h.1.1, fun hp => by
    obtain ⟨b, o, e, hlt, hc⟩ := h.1.2 hp
    exact ⟨b, o, e, Nat.lt_of_lt_of_le hlt hb.size, fun j hj => (hb.cell (p := ⟨b, o + j, none⟩) hlt).trans (hc j hj)⟩⟩, h.2⟩
theorem irdw_of_row {w : World} {x : Addr} {len cap : Nat} {zs : List Int} (hl : len <= cap) (hz : zs.length = cap) (hc : ∀ i, i < zs.length -> w.cell? (x.add i) = some (.int .i64 (zs.getD i 0))) (hw : ∀ n ∈ zs, (Lit.int .i64 n).wf = true) : IRdW w (some x) len (zs.take len) := by
  refine ⟨⟨by simp; omega, fun hpos => ?_⟩, fun z hz => bounds_i64 (hw z (List.mem_of_mem_take hz))⟩
  have h0 := hc 0 (by omega)
  obtain ⟨b, off, spot⟩ := x
  have hspot : spot = none := by simpa [Addr.add] using World.cell?_spot h0
  subst hspot
  have hlt : ((⟨b, off, none⟩ : Addr).add 0).block < w.heap.size := World.block_lt_of_cell? w _ h0
  refine ⟨b, off, rfl, by simpa [Addr.add] using hlt, fun j hj => ?_⟩
  have hj' : j < len := by simp at hj; omega
  have h1 := hc j (by omega)
  rw [Addr.add_lit] at h1
  rw [h1]
  simp [List.getD, hj']
section
variable {H : Type} {enc : TypeId × Value -> H} {w : World} {base : Nat} {held : Bool}
theorem open_inlistW {fuel : Nat} {cs : List Value} {x : DataW H × List MemPlace} (h : DataW.trod enc Tryz.prog w base (fun _ => true) held fuel 27 cs = some x) :
    ∃ A n c zs, cs = [.slice A n c] /\ IRdW w A n zs /\ n <= c /\ c <= maxLen := by
  rcases open_ints Tryz.underlying27 Tryz.underlying3 (by kernel_rfl) h with ⟨hcs, _⟩ | ⟨x, l, c, zs, hcs, _, hl, hm, hz, _, hcell, hwz⟩
  · exact ⟨none, 0, 0, [], hcs, ⟨⟨rfl, fun h => absurd h (Nat.lt_irrefl 0)⟩, fun _ h => absurd h List.not_mem_nil⟩, Nat.le_refl _, Nat.zero_le _⟩
  · exact ⟨some x, l, c, zs.take l, hcs, irdw_of_row hl (by simpa using hz) hcell hwz, hl, hm⟩
theorem open_frs {fuel : Nat} {cs : List Value} {x : DataW H × List MemPlace} (h : DataW.trod enc Tryz.prog w base (fun _ => true) held fuel 26 cs = some x) :
    ∃ A n c ls, cs = [.slice A n c] /\ FrsRd w A n ls /\ n <= c /\ c <= maxLen := by
  have nil : ∀ A : Option Addr, FrsRd w A 0 [] := fun A => ⟨FrsV.nil _ _ _, fun _ h => absurd h List.not_mem_nil⟩
  rcases elems_at Tryz.underlying26 h with h0 | ⟨a, len, cap, hcs, hl, hm, hi⟩
  · exact ⟨none, 0, 0, [], h0, nil _, Nat.le_refl _, Nat.zero_le _⟩
  have h4 : Tryz.prog.cellsOf 40 = 1 := by kernel_rfl
  rw [h4] at hi
  have key : ∀ i, ∃ x : List Cd × Option Addr × Nat × Nat, i < len -> (w.cell? ((a.add (i * 1)).add 0) = some (.slice x.2.1 x.2.2.1 x.2.2.2) /\ CdsRd w x.2.1 x.2.2.1 x.1 /\ x.2.2.1 <= x.2.2.2 /\ x.2.2.2 <= maxLen) := fun i => by
    by_cases hil : i < len
    · obtain ⟨cs', n, y, hc, ht⟩ := hi i hil
      obtain ⟨bA, bn, bc, b, eb, hvb, h1, h2⟩ := open_cmds ht
      subst eb
      exact ⟨(b, bA, bn, bc), fun _ => ⟨hc 0 (by decide), hvb, h1, h2⟩⟩
    · exact ⟨([], none, 0, 0), fun h => absurd h hil⟩
  obtain ⟨F, hF⟩ := Classical.axiomOfChoice key
  rcases Nat.eq_zero_or_pos len with h0 | hpos
  · subst h0
    exact ⟨some a, 0, cap, [], hcs, nil _, hl, hm⟩
  obtain ⟨b, off, spot⟩ := a
  have hs := (hF 0 hpos).1
  have hspot : spot = none := by simpa [Addr.add] using World.cell?_spot hs
  subst hspot
  have hlt : b < w.heap.size := by simpa [Addr.add] using World.block_lt_of_cell? w _ hs
  refine ⟨_, len, cap, (List.range len).map fun i => (F i).1, hcs, ⟨RowsL.mk (by decide) (fun i => (F i).1) (fun i => [.slice (F i).2.1 (F i).2.2.1 (F i).2.2.2]) (fun _ => ⟨hlt, hlt⟩) (fun i hi' => ⟨rfl, ⟨_, _, _, rfl, (hF i hi').2.1.2.1, (hF i hi').2.2.1⟩, fun r u hr => ?_⟩), fun y hy => ?_⟩, hl, hm⟩
  · have hr1 : r < 1 := (List.getElem?_eq_some_iff.1 hr).1
    obtain rfl : r = 0 := by omega
    have := (hF i hi').1
    rw [Addr.add_lit, Addr.add_lit, Nat.add_assoc] at this
    rw [this]
    exact hr
  · obtain ⟨i, hi', rfl⟩ := List.mem_map.1 hy
    have h5 := hF i (List.mem_range.1 hi')
    exact ⟨h5.2.1.2.2, by rw [h5.2.1.1]; exact Nat.le_trans h5.2.2.1 h5.2.2.2⟩
end
def Full18 (lg : Int) (xs : List (List UInt8)) : Prop := (∀ x ∈ xs, x.length = 512) /\ (xs.length : Int) = lg /\ xs.length <= 20
def FullQ (lg : Int) (xs : List (List UInt8)) (w : World) (e : Ending) (w' : World) : Prop := (∃ q : Bool, e = .returned (.bool q) /\ (q = true -> Full18 lg xs)) /\ Below w.heap.size w w'
section
variable (lg pg en gn : Int) (A : Option Addr) (n cap : Nat) (ks : List Kd) {K : Nat -> Prop} (LA : Option Addr) (ln lc : Nat) (xs : List (List UInt8)) (w : World)
theorem full18_any (h : Log18 w A n ks K LA ln xs) (hln : ln <= 9223372036854775807) (hx : ∀ x ∈ xs, x.length <= 9223372036854775807) :
    Calls Tryz.prog 6 #[cv lg pg en gn A n cap, .slice LA ln lc] w (FullQ lg xs w) := by
  obtain ⟨w1, hw1⟩ : ∃ w1, w1 = w.alloc (.cells (cc lg pg en gn A n cap) 24) := ⟨_, rfl⟩
  have C1 := CAt.new h.k lg pg en gn cap
  rw [<- hw1] at C1
  have c0 := C1.c0
  have HB := hi_ C1.bel
  have HP := hi_ (h.p.below C1.bel)
  have HL := hi_ h.p.len
  have HX := hi_ hx
  clear h C1 hx
  go_enter Tryz.func6, Tryz.ntmps6
  go_wp2_with (rw [<- hw1]; clear hw1)
  go_loop [5] (fun iv => ∃ j : Nat, j <= ln /\ iv = .int .i64 j /\ Hid (∀ x ∈ xs.take j, x.length = 512)) (fun iv => ln - (intOf iv).toNat)
  case atStart => exact ⟨0, Nat.zero_le _, rfl, hi_ (fun x hx => by simp at hx)⟩
  case round =>
    obtain ⟨j, hj, rfl, HA⟩ := hrel
    by_cases hjn : j < ln
    · obtain ⟨x, hx⟩ : ∃ x, xs[j]? = some x := ⟨_, List.getElem?_eq_getElem (by rw [HL.out]; exact hjn)⟩
      obtain ⟨b, o, PA, m, cc', rfl, hlt, hc, hr, hmc, _⟩ := HP.out.cell hx
      have hm := hr.1
      have hmx := HX.out x (List.mem_of_getElem? hx)
      have HX2 := hi_ hx
      have HM := hi_ hm
      clear hx hr hmc hlt hm
      by_cases h5 : m = 512
      · subst h5
        clear hmx
        go_wp2
        go_round
        case rel => exact ⟨j + 1, hjn, by go_num, hi_ (fun y hy => by
          rw [List.take_add_one, HX2.out, Option.toList_some] at hy
          rcases List.mem_append.1 hy with q | q
          · exact HA.out y q
          · rw [List.mem_singleton.1 q]; exact HM.out)⟩
        case measure => simp [intOf]; omega
      · have f5 : ((m : Int) != 512) = true := by simp; omega
        have hmx2 : m <= 9223372036854775807 := by rw [<- HM.out]; exact hmx
        clear hmx
        go_wp2
        go_ret
        exact ⟨⟨false, rfl, fun h => absurd h (by decide)⟩, HB.out⟩
    · obtain rfl : j = ln := by omega
      have hall : ∀ x ∈ xs, x.length = 512 := fun x hx => HA.out x (by rw [List.take_of_length_le (Nat.le_of_eq HL.out)]; exact hx)
      have HALL := hi_ hall
      clear hall
      by_cases h1 : (j : Int) = lg
      · have f1 : ((j : Int) == lg) = true := by simp [h1]
        have H1 := hi_ h1
        clear h1
        by_cases h2 : j <= 20
        · have f2 : decide ((j : Int) <= 20) = true := decide_eq_true (by omega)
          have H2 := hi_ h2
          clear h2
          go_wp2
          go_ret
          exact ⟨⟨true, rfl, fun _ => ⟨HALL.out, by rw [HL.out]; exact H1.out, by rw [HL.out]; exact H2.out⟩⟩, HB.out⟩
        · have f2 : decide ((j : Int) <= 20) = false := decide_eq_false (by omega)
          clear h2
          go_wp2
          go_ret
          exact ⟨⟨false, rfl, fun h => absurd h (by decide)⟩, HB.out⟩
      · have f1 : ((j : Int) == lg) = false := by simpa using h1
        clear h1
        go_wp2
        go_ret
        exact ⟨⟨false, rfl, fun h => absurd h (by decide)⟩, HB.out⟩
end
end Go.Proofs.YthabmlbmlncbmaaGreat
