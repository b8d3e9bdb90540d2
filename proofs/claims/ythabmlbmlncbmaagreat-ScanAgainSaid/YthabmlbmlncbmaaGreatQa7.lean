/- CdG, CdQ, FrA, CdB, CdC, CdD, FrB, FrC, FrM, FrV, FrW1, FrE, CdFM -/
import Derived.Test.YthabmlbmlncbmaaGreatQa1
import Derived.Test.YthabmlbmlncbmaaGreatQa2
import Derived.Test.YthabmlbmlncbmaaGreatQa3
import Derived.Test.YthabmlbmlncbmaaGreatQa6
import Derived.Deep.RegionHeld3
import Derived.Deep.DeepCutAuto
namespace Go.Proofs.YthabmlbmlncbmaaGreat
open Go.RowKit
set_option linter.unusedVariables false
set_option maxRecDepth 20000
theorem numB_11 : numB 1 1 = [1] := by decide
theorem numB_10 : numB 1 0 = [0] := by decide
theorem CdAt.low {w0 w w' : World} {g : Nat} {x : Cd} {A : Option Addr} {n c B : Nat} (h : CdAt w0 w g x A n c) (hb : Below B w w') (hgB : g < B) (hw : w0.heap.size <= B) (hA : ∀ b o, A = some ⟨b, o, none⟩ -> 0 < n -> b < B) : CdAt w0 w' g x A n c :=
  ⟨h.r.below hb hgB, h.rd.below' hb (fun hn => by obtain ⟨b, o, e, _⟩ := h.rd.2 hn; exact ⟨b, o, e, hA b o e hn⟩), h.bel.trans (hb.mono hw), h.hg⟩
theorem RNumS_any (width : Nat) (h1 : 1 <= width) (h8 : width <= 8) (x : Int) (w : World) : Calls Tryz.prog 29 #[.int .i64 width, .int .i64 x] w fun e w' => ∃ v, e = .returned v /\ w'.ownsRow w.heap.size 5 1 v width (cells (numB width x)) /\ Below w.heap.size w w' := by
  have hw : wd (width : Int) = width := by have := wd_cast (width : Int); omega
  have h := Num_any width x w
  rw [hw] at h
  exact h
theorem Rd.lo' {w : World} {A : Option Addr} {n : Nat} {l : List UInt8} (h : Rd w A n l) (b o : Nat) (e : A = some ⟨b, o, none⟩) (hp : 0 < n) : b < w.heap.size := by
  obtain ⟨b', o', e', hlt, _⟩ := h.2 hp
  rw [e] at e'
  injection e' with e'
  injection e' with e1 e2
  omega
theorem RBytes_o (x : Cd) (hd : x.d < 0 \/ 3 < x.d) (A : Option Addr) (n c : Nat) (w : World) (h : Rd w A n x.dt) :
    Calls Tryz.prog 30 #[.agg (x.cs A n c)] w (GotS w x.bytes) := by
  obtain ⟨w1, hw1⟩ : ∃ w1, w1 = w.alloc (.cells (x.cs A n c) 61) := ⟨_, rfl⟩
  have K1 : CdAt w w1 w.heap.size x A n c := by rw [hw1]; exact CdAt.new w x A n c h
  have HX := hi_ (show x.bytes = [255] by simp [Cd.bytes, show ¬ x.d = 0 by omega, show ¬ x.d = 1 by omega, show ¬ x.d = 2 by omega, show ¬ x.d = 3 by omega])
  have c0 := K1.c0
  have HK := hi_ K1
  obtain ⟨d, e⟩ : ∃ d, d = x.d := ⟨_, rfl⟩
  rw [<- e] at c0 hd
  clear h K1 e
  rcases hd with hd | hd
  all_goals
    go_enter Tryz.func30, Tryz.ntmps30
    go_wp2_with (rw [<- hw1]; clear hw1)
    go_ret
    rw [HX.out]
    exact ⟨_, _, _, rfl, Rd.new w1 5 [255] (0, 0), Nat.le_refl _, HK.out.bel.alloc HK.out.bel.size _⟩
set_option maxHeartbeats 2000000 in
theorem RBytes_0f (ix gn cp : Int) (dt : List UInt8) (A : Option Addr) (n c : Nat) (w : World) (h : Rd w A n dt) (hn : n <= 1000000) :
    Calls Tryz.prog 30 #[.agg (Cd.cs ⟨0, false, ix, gn, cp, dt⟩ A n c)] w (GotS w (Cd.mk 0 false ix gn cp dt).bytes) := by
  obtain ⟨w1, hw1⟩ : ∃ w1, w1 = w.alloc (.cells (Cd.cs ⟨0, false, ix, gn, cp, dt⟩ A n c) 61) := ⟨_, rfl⟩
  have K1 : CdAt w w1 w.heap.size ⟨0, false, ix, gn, cp, dt⟩ A n c := by rw [hw1]; exact CdAt.new w ⟨0, false, ix, gn, cp, dt⟩ A n c h
  have HA := hi_ (fun b o (e : A = some ⟨b, o, none⟩) hp => Nat.lt_trans (h.lo' b o e hp) K1.r.lt)
  have HLT := hi_ (And.intro K1.r.lt K1.bel.size)
  have c0 := K1.c0
  have CN1 := hi_ (RNumS_any 1 (by decide) (by decide) 0 w1)
  have HX := hi_ (show (Cd.mk 0 false ix gn cp dt).bytes = numB 1 0 by rfl)
  have HK1 := hi_ K1
  clear h K1
  go_enter Tryz.func30, Tryz.ntmps30
  go_wp2_with (first
    | (rw [<- hw1]; clear hw1)
    | (go_at_call 29; have _t := CN1; refine CN1.out.mono ?_; rintro e w2 ⟨v2, rfl, ho2, hb2⟩
       have K2 := HK1.out.next hb2
       have q0 := K2.c0
       have HK2 := hi_ K2
       have HO2 := hi_ (And.intro ho2 hb2.size)
       clear K2 ho2 hb2 CN1 c0))
  go_ret
  rw [HX.out]
  exact GotS.own (own_mono HO2.out.1 HLT.out.2) HK2.out.bel
set_option maxHeartbeats 2000000 in
theorem RBytes_0t (ix gn cp : Int) (dt : List UInt8) (A : Option Addr) (n c : Nat) (w : World) (h : Rd w A n dt) (hn : n <= 1000000) :
    Calls Tryz.prog 30 #[.agg (Cd.cs ⟨0, true, ix, gn, cp, dt⟩ A n c)] w (GotS w (Cd.mk 0 true ix gn cp dt).bytes) := by
  obtain ⟨w1, hw1⟩ : ∃ w1, w1 = w.alloc (.cells (Cd.cs ⟨0, true, ix, gn, cp, dt⟩ A n c) 61) := ⟨_, rfl⟩
  have K1 : CdAt w w1 w.heap.size ⟨0, true, ix, gn, cp, dt⟩ A n c := by rw [hw1]; exact CdAt.new w ⟨0, true, ix, gn, cp, dt⟩ A n c h
  have HA := hi_ (fun b o (e : A = some ⟨b, o, none⟩) hp => Nat.lt_trans (h.lo' b o e hp) K1.r.lt)
  have HLT := hi_ (And.intro K1.r.lt K1.bel.size)
  have c0 := K1.c0
  have CN1 := hi_ (RNumS_any 1 (by decide) (by decide) 0 w1)
  have HX := hi_ (show (Cd.mk 0 true ix gn cp dt).bytes = numB 1 0 by rfl)
  have HK1 := hi_ K1
  clear h K1
  go_enter Tryz.func30, Tryz.ntmps30
  go_wp2_with (first
    | (rw [<- hw1]; clear hw1)
    | (go_at_call 29; have _t := CN1; refine CN1.out.mono ?_; rintro e w2 ⟨v2, rfl, ho2, hb2⟩
       have K2 := HK1.out.next hb2
       have q0 := K2.c0
       have HK2 := hi_ K2
       have HO2 := hi_ (And.intro ho2 hb2.size)
       clear K2 ho2 hb2 CN1 c0))
  go_ret
  rw [HX.out]
  exact GotS.own (own_mono HO2.out.1 HLT.out.2) HK2.out.bel
set_option maxHeartbeats 2000000 in
theorem RBytes_1f (ix gn cp : Int) (dt : List UInt8) (A : Option Addr) (n c : Nat) (w : World) (h : Rd w A n dt) (hn : n <= 1000000) :
    Calls Tryz.prog 30 #[.agg (Cd.cs ⟨1, false, ix, gn, cp, dt⟩ A n c)] w (GotS w (Cd.mk 1 false ix gn cp dt).bytes) := by
  obtain ⟨w1, hw1⟩ : ∃ w1, w1 = w.alloc (.cells (Cd.cs ⟨1, false, ix, gn, cp, dt⟩ A n c) 61) := ⟨_, rfl⟩
  have K1 : CdAt w w1 w.heap.size ⟨1, false, ix, gn, cp, dt⟩ A n c := by rw [hw1]; exact CdAt.new w ⟨1, false, ix, gn, cp, dt⟩ A n c h
  have HA := hi_ (fun b o (e : A = some ⟨b, o, none⟩) hp => Nat.lt_trans (h.lo' b o e hp) K1.r.lt)
  have HLT := hi_ (And.intro K1.r.lt K1.bel.size)
  have c0 := K1.c0
  have c1 := K1.c1
  have CN1 := hi_ (RNumS_any 1 (by decide) (by decide) 1 w1)
  have HX := hi_ (show (Cd.mk 1 false ix gn cp dt).bytes = numB 1 1 ++ [0] ++ numB 8 ix ++ numB 8 gn by simp [Cd.bytes, Cd.tgt, numB_10])
  have HK1 := hi_ K1
  clear h K1
  go_enter Tryz.func30, Tryz.ntmps30
  go_wp2_with (first
    | (rw [<- hw1]; clear hw1)
    | (go_at_call 29; have _t := CN1; refine CN1.out.mono ?_; rintro e w2 ⟨v2, rfl, ho2, hb2⟩
       have K2 := HK1.out.next hb2
       have q0 := K2.c0; have q1 := K2.c1; have q2 := K2.c2; have q3 := K2.c3; have q4 := K2.c4; have q5 := K2.c5
       have HK2 := hi_ K2
       have HO2 := hi_ (And.intro ho2 hb2.size)
       clear K2 ho2 hb2 CN1 c0 c1)
    | (at_builtin; have _t := HO2; refine wpList_app _ bytesT rfl (.tmp 31) (.tmp 32) rfl w1.heap.size v2 _ _ rfl (own_keep HO2.out.1 ((Below.refl _ _).alloc (Nat.le_refl _) _)) _ 1 1 [0] rfl (Rd.new w2 5 [0] (0, 0)) (by omega) (by have := HO2.out.2; simp; omega) ?_; intro v3 w3 ho3 hb3
       rw [<- cells_append] at ho3
       have hal : Below w2.heap.size w2 (w2.alloc (.cells #[.int .u8 0] 5)) := (Below.refl _ _).alloc (Nat.le_refl _) _
       have K3 := (HK2.out.next hal).low hb3 HLT.out.1 HLT.out.2 HA.out
       have q0 := K3.c0; have q1 := K3.c1; have q2 := K3.c2; have q3 := K3.c3; have q4 := K3.c4; have q5 := K3.c5
       have HK3 := hi_ K3
       have HO3 := hi_ (And.intro ho3 (Nat.le_trans HO2.out.2 (Nat.le_trans hal.size hb3.size)))
       have CN3 := hi_ (RNumS_any 8 (by decide) (by decide) ix w3)
       clear K3 ho3 hb3 hal HO2)
    | (go_at_call 29; have _t := CN3; refine CN3.out.mono ?_; rintro e w4 ⟨v4, rfl, ho4, hb4⟩
       obtain ⟨A4, cc4, rfl, _, _, hr4⟩ := Rd.of_own ho4 rfl
       have HK4 := hi_ (HK3.out.next hb4)
       have HO4 := hi_ (And.intro (own_keep HO3.out.1 hb4) (Nat.le_trans HO3.out.2 hb4.size))
       have HR4 := hi_ hr4
       clear hr4 ho4 hb4 CN3)
    | (at_builtin; have _t := HR4; refine wpList_app _ bytesT rfl (.tmp 34) (.tmp 38) rfl w1.heap.size v3 _ _ rfl HO4.out.1 A4 8 cc4 _ rfl HR4.out (by omega) HO4.out.2 ?_; intro v5 w5 ho5 hb5
       rw [<- cells_append] at ho5
       have K5 := HK4.out.low hb5 HLT.out.1 HLT.out.2 HA.out
       have q0 := K5.c0; have q1 := K5.c1; have q2 := K5.c2; have q3 := K5.c3; have q4 := K5.c4; have q5 := K5.c5
       have HK5 := hi_ K5
       have HO5 := hi_ (And.intro ho5 (Nat.le_trans HO4.out.2 hb5.size))
       have CN5 := hi_ (RNumS_any 8 (by decide) (by decide) gn w5)
       clear K5 ho5 hb5 HR4)
    | (go_at_call 29; have _t := CN5; refine CN5.out.mono ?_; rintro e w6 ⟨v6, rfl, ho6, hb6⟩
       obtain ⟨A6, cc6, rfl, _, _, hr6⟩ := Rd.of_own ho6 rfl
       have HK6 := hi_ (HK5.out.next hb6)
       have HO6 := hi_ (And.intro (own_keep HO5.out.1 hb6) (Nat.le_trans HO5.out.2 hb6.size))
       have HR6 := hi_ hr6
       clear hr6 ho6 hb6 CN5)
    | (at_builtin; have _t := HR6; refine wpList_app _ bytesT rfl (.tmp 40) (.tmp 44) rfl w1.heap.size v5 _ _ rfl HO6.out.1 A6 8 cc6 _ rfl HR6.out (by omega) HO6.out.2 ?_; intro v7 w7 ho7 hb7
       rw [<- cells_append] at ho7
       have K7 := HK6.out.low hb7 HLT.out.1 HLT.out.2 HA.out
       have q0 := K7.c0; have q1 := K7.c1; have q2 := K7.c2; have q3 := K7.c3; have q4 := K7.c4; have q5 := K7.c5
       have HK7 := hi_ K7
       have HO7 := hi_ (And.intro ho7 (Nat.le_trans HO6.out.2 hb7.size))
       clear K7 ho7 hb7 HR6))
  go_ret
  rw [HX.out]
  exact GotS.own (own_mono HO7.out.1 HLT.out.2) HK7.out.bel
set_option maxHeartbeats 2000000 in
theorem RBytes_1t (ix gn cp : Int) (dt : List UInt8) (A : Option Addr) (n c : Nat) (w : World) (h : Rd w A n dt) (hn : n <= 1000000) :
    Calls Tryz.prog 30 #[.agg (Cd.cs ⟨1, true, ix, gn, cp, dt⟩ A n c)] w (GotS w (Cd.mk 1 true ix gn cp dt).bytes) := by
  obtain ⟨w1, hw1⟩ : ∃ w1, w1 = w.alloc (.cells (Cd.cs ⟨1, true, ix, gn, cp, dt⟩ A n c) 61) := ⟨_, rfl⟩
  have K1 : CdAt w w1 w.heap.size ⟨1, true, ix, gn, cp, dt⟩ A n c := by rw [hw1]; exact CdAt.new w ⟨1, true, ix, gn, cp, dt⟩ A n c h
  have HA := hi_ (fun b o (e : A = some ⟨b, o, none⟩) hp => Nat.lt_trans (h.lo' b o e hp) K1.r.lt)
  have HLT := hi_ (And.intro K1.r.lt K1.bel.size)
  have c0 := K1.c0
  have c1 := K1.c1
  have CN1 := hi_ (RNumS_any 1 (by decide) (by decide) 1 w1)
  have HX := hi_ (show (Cd.mk 1 true ix gn cp dt).bytes = numB 1 1 ++ [1] ++ numB 8 ix by simp [Cd.bytes, Cd.tgt, numB_11])
  have HK1 := hi_ K1
  clear h K1
  go_enter Tryz.func30, Tryz.ntmps30
  go_wp2_with (first
    | (rw [<- hw1]; clear hw1)
    | (go_at_call 29; have _t := CN1; refine CN1.out.mono ?_; rintro e w2 ⟨v2, rfl, ho2, hb2⟩
       have K2 := HK1.out.next hb2
       have q0 := K2.c0; have q1 := K2.c1; have q2 := K2.c2; have q3 := K2.c3; have q4 := K2.c4; have q5 := K2.c5
       have HK2 := hi_ K2
       have HO2 := hi_ (And.intro ho2 hb2.size)
       clear K2 ho2 hb2 CN1 c0 c1)
    | (at_builtin; have _t := HO2; refine wpList_app _ bytesT rfl (.tmp 22) (.tmp 23) rfl w1.heap.size v2 _ _ rfl (own_keep HO2.out.1 ((Below.refl _ _).alloc (Nat.le_refl _) _)) _ 1 1 [1] rfl (Rd.new w2 5 [1] (0, 0)) (by omega) (by have := HO2.out.2; simp; omega) ?_; intro v3 w3 ho3 hb3
       rw [<- cells_append] at ho3
       have hal : Below w2.heap.size w2 (w2.alloc (.cells #[.int .u8 1] 5)) := (Below.refl _ _).alloc (Nat.le_refl _) _
       have K3 := (HK2.out.next hal).low hb3 HLT.out.1 HLT.out.2 HA.out
       have q0 := K3.c0; have q1 := K3.c1; have q2 := K3.c2; have q3 := K3.c3; have q4 := K3.c4; have q5 := K3.c5
       have HK3 := hi_ K3
       have HO3 := hi_ (And.intro ho3 (Nat.le_trans HO2.out.2 (Nat.le_trans hal.size hb3.size)))
       have CN3 := hi_ (RNumS_any 8 (by decide) (by decide) ix w3)
       clear K3 ho3 hb3 hal HO2)
    | (go_at_call 29; have _t := CN3; refine CN3.out.mono ?_; rintro e w4 ⟨v4, rfl, ho4, hb4⟩
       obtain ⟨A4, cc4, rfl, _, _, hr4⟩ := Rd.of_own ho4 rfl
       have HK4 := hi_ (HK3.out.next hb4)
       have HO4 := hi_ (And.intro (own_keep HO3.out.1 hb4) (Nat.le_trans HO3.out.2 hb4.size))
       have HR4 := hi_ hr4
       clear hr4 ho4 hb4 CN3)
    | (at_builtin; have _t := HR4; refine wpList_app _ bytesT rfl (.tmp 25) (.tmp 29) rfl w1.heap.size v3 _ _ rfl HO4.out.1 A4 8 cc4 _ rfl HR4.out (by omega) HO4.out.2 ?_; intro v5 w5 ho5 hb5
       rw [<- cells_append] at ho5
       have K5 := HK4.out.low hb5 HLT.out.1 HLT.out.2 HA.out
       have q0 := K5.c0; have q1 := K5.c1; have q2 := K5.c2; have q3 := K5.c3; have q4 := K5.c4; have q5 := K5.c5
       have HK5 := hi_ K5
       have HO5 := hi_ (And.intro ho5 (Nat.le_trans HO4.out.2 hb5.size))
       clear K5 ho5 hb5 HR4))
  go_ret
  rw [HX.out]
  exact GotS.own (own_mono HO5.out.1 HLT.out.2) HK5.out.bel
set_option maxHeartbeats 2000000 in
theorem RBytes_2f (ix gn cp : Int) (dt : List UInt8) (A : Option Addr) (n c : Nat) (w : World) (h : Rd w A n dt) (hn : n <= 1000000) :
    Calls Tryz.prog 30 #[.agg (Cd.cs ⟨2, false, ix, gn, cp, dt⟩ A n c)] w (GotS w (Cd.mk 2 false ix gn cp dt).bytes) := by
  obtain ⟨w1, hw1⟩ : ∃ w1, w1 = w.alloc (.cells (Cd.cs ⟨2, false, ix, gn, cp, dt⟩ A n c) 61) := ⟨_, rfl⟩
  have K1 : CdAt w w1 w.heap.size ⟨2, false, ix, gn, cp, dt⟩ A n c := by rw [hw1]; exact CdAt.new w ⟨2, false, ix, gn, cp, dt⟩ A n c h
  have HA := hi_ (fun b o (e : A = some ⟨b, o, none⟩) hp => Nat.lt_trans (h.lo' b o e hp) K1.r.lt)
  have HLT := hi_ (And.intro K1.r.lt K1.bel.size)
  have c0 := K1.c0
  have c1 := K1.c1
  have CN1 := hi_ (RNumS_any 1 (by decide) (by decide) 2 w1)
  have HX := hi_ (show (Cd.mk 2 false ix gn cp dt).bytes = numB 1 2 ++ [0] ++ numB 8 ix ++ numB 8 gn ++ numB 8 cp ++ numB 2 n ++ dt by have e : (n : Int) = (dt.length : Nat) := (by rw [h.1]); rw [e]; simp [Cd.bytes, Cd.tgt, numB_10])
  have HK1 := hi_ K1
  clear h K1
  go_enter Tryz.func30, Tryz.ntmps30
  go_wp2_with (first
    | (rw [<- hw1]; clear hw1)
    | (go_at_call 29; have _t := CN1; refine CN1.out.mono ?_; rintro e w2 ⟨v2, rfl, ho2, hb2⟩
       have K2 := HK1.out.next hb2
       have q0 := K2.c0; have q1 := K2.c1; have q2 := K2.c2; have q3 := K2.c3; have q4 := K2.c4; have q5 := K2.c5
       have HK2 := hi_ K2
       have HO2 := hi_ (And.intro ho2 hb2.size)
       clear K2 ho2 hb2 CN1 c0 c1)
    | (at_builtin; have _t := HO2; refine wpList_app _ bytesT rfl (.tmp 31) (.tmp 32) rfl w1.heap.size v2 _ _ rfl (own_keep HO2.out.1 ((Below.refl _ _).alloc (Nat.le_refl _) _)) _ 1 1 [0] rfl (Rd.new w2 5 [0] (0, 0)) (by omega) (by have := HO2.out.2; simp; omega) ?_; intro v3 w3 ho3 hb3
       rw [<- cells_append] at ho3
       have hal : Below w2.heap.size w2 (w2.alloc (.cells #[.int .u8 0] 5)) := (Below.refl _ _).alloc (Nat.le_refl _) _
       have K3 := (HK2.out.next hal).low hb3 HLT.out.1 HLT.out.2 HA.out
       have q0 := K3.c0; have q1 := K3.c1; have q2 := K3.c2; have q3 := K3.c3; have q4 := K3.c4; have q5 := K3.c5
       have HK3 := hi_ K3
       have HO3 := hi_ (And.intro ho3 (Nat.le_trans HO2.out.2 (Nat.le_trans hal.size hb3.size)))
       have CN3 := hi_ (RNumS_any 8 (by decide) (by decide) ix w3)
       clear K3 ho3 hb3 hal HO2)
    | (go_at_call 29; have _t := CN3; refine CN3.out.mono ?_; rintro e w4 ⟨v4, rfl, ho4, hb4⟩
       obtain ⟨A4, cc4, rfl, _, _, hr4⟩ := Rd.of_own ho4 rfl
       have HK4 := hi_ (HK3.out.next hb4)
       have HO4 := hi_ (And.intro (own_keep HO3.out.1 hb4) (Nat.le_trans HO3.out.2 hb4.size))
       have HR4 := hi_ hr4
       clear hr4 ho4 hb4 CN3)
    | (at_builtin; have _t := HR4; refine wpList_app _ bytesT rfl (.tmp 34) (.tmp 38) rfl w1.heap.size v3 _ _ rfl HO4.out.1 A4 8 cc4 _ rfl HR4.out (by omega) HO4.out.2 ?_; intro v5 w5 ho5 hb5
       rw [<- cells_append] at ho5
       have K5 := HK4.out.low hb5 HLT.out.1 HLT.out.2 HA.out
       have q0 := K5.c0; have q1 := K5.c1; have q2 := K5.c2; have q3 := K5.c3; have q4 := K5.c4; have q5 := K5.c5
       have HK5 := hi_ K5
       have HO5 := hi_ (And.intro ho5 (Nat.le_trans HO4.out.2 hb5.size))
       have CN5 := hi_ (RNumS_any 8 (by decide) (by decide) gn w5)
       clear K5 ho5 hb5 HR4)
    | (go_at_call 29; have _t := CN5; refine CN5.out.mono ?_; rintro e w6 ⟨v6, rfl, ho6, hb6⟩
       obtain ⟨A6, cc6, rfl, _, _, hr6⟩ := Rd.of_own ho6 rfl
       have HK6 := hi_ (HK5.out.next hb6)
       have HO6 := hi_ (And.intro (own_keep HO5.out.1 hb6) (Nat.le_trans HO5.out.2 hb6.size))
       have HR6 := hi_ hr6
       clear hr6 ho6 hb6 CN5)
    | (at_builtin; have _t := HR6; refine wpList_app _ bytesT rfl (.tmp 40) (.tmp 44) rfl w1.heap.size v5 _ _ rfl HO6.out.1 A6 8 cc6 _ rfl HR6.out (by omega) HO6.out.2 ?_; intro v7 w7 ho7 hb7
       rw [<- cells_append] at ho7
       have K7 := HK6.out.low hb7 HLT.out.1 HLT.out.2 HA.out
       have q0 := K7.c0; have q1 := K7.c1; have q2 := K7.c2; have q3 := K7.c3; have q4 := K7.c4; have q5 := K7.c5
       have HK7 := hi_ K7
       have HO7 := hi_ (And.intro ho7 (Nat.le_trans HO6.out.2 hb7.size))
       have CN7 := hi_ (RNumS_any 8 (by decide) (by decide) cp w7)
       clear K7 ho7 hb7 HR6)
    | (go_at_call 29; have _t := CN7; refine CN7.out.mono ?_; rintro e w8 ⟨v8, rfl, ho8, hb8⟩
       obtain ⟨A8, cc8, rfl, _, _, hr8⟩ := Rd.of_own ho8 rfl
       have HK8 := hi_ (HK7.out.next hb8)
       have HO8 := hi_ (And.intro (own_keep HO7.out.1 hb8) (Nat.le_trans HO7.out.2 hb8.size))
       have HR8 := hi_ hr8
       clear hr8 ho8 hb8 CN7)
    | (at_builtin; have _t := HR8; refine wpList_app _ bytesT rfl (.tmp 49) (.tmp 52) rfl w1.heap.size v7 _ _ rfl HO8.out.1 A8 8 cc8 _ rfl HR8.out (by omega) HO8.out.2 ?_; intro v9 w9 ho9 hb9
       rw [<- cells_append] at ho9
       have K9 := HK8.out.low hb9 HLT.out.1 HLT.out.2 HA.out
       have q0 := K9.c0; have q1 := K9.c1; have q2 := K9.c2; have q3 := K9.c3; have q4 := K9.c4; have q5 := K9.c5
       have HK9 := hi_ K9
       have HO9 := hi_ (And.intro ho9 (Nat.le_trans HO8.out.2 hb9.size))
       have CN9 := hi_ (RNumS_any 2 (by decide) (by decide) n w9)
       clear K9 ho9 hb9 HR8)
    | (go_at_call 29; have _t := CN9; refine CN9.out.mono ?_; rintro e w10 ⟨v10, rfl, ho10, hb10⟩
       obtain ⟨A10, cc10, rfl, _, _, hr10⟩ := Rd.of_own ho10 rfl
       have HK10 := hi_ (HK9.out.next hb10)
       have HO10 := hi_ (And.intro (own_keep HO9.out.1 hb10) (Nat.le_trans HO9.out.2 hb10.size))
       have HR10 := hi_ hr10
       clear hr10 ho10 hb10 CN9)
    | (at_builtin; have _t := HR10; refine wpList_app _ bytesT rfl (.tmp 57) (.tmp 61) rfl w1.heap.size v9 _ _ rfl HO10.out.1 A10 2 cc10 _ rfl HR10.out (by omega) HO10.out.2 ?_; intro v11 w11 ho11 hb11
       rw [<- cells_append] at ho11
       have K11 := HK10.out.low hb11 HLT.out.1 HLT.out.2 HA.out
       have q0 := K11.c0; have q1 := K11.c1; have q2 := K11.c2; have q3 := K11.c3; have q4 := K11.c4; have q5 := K11.c5
       have HK11 := hi_ K11
       have HO11 := hi_ (And.intro ho11 (Nat.le_trans HO10.out.2 hb11.size))
       clear K11 ho11 hb11 HR10)
    | (at_builtin; have _t := HO11; refine wpList_app _ bytesT rfl (.tmp 63) (.tmp 65) rfl w1.heap.size v11 _ _ rfl HO11.out.1 A n c dt rfl HK11.out.rd (by omega) HO11.out.2 ?_; intro v12 w12 ho12 hb12
       rw [<- cells_append] at ho12
       have HK12 := hi_ (HK11.out.low hb12 HLT.out.1 HLT.out.2 HA.out)
       have HO12 := hi_ (And.intro ho12 (Nat.le_trans HO11.out.2 hb12.size))
       clear ho12 hb12))
  go_ret
  rw [HX.out]
  exact GotS.own (own_mono HO12.out.1 HLT.out.2) HK12.out.bel
set_option maxHeartbeats 2000000 in
theorem RBytes_2t (ix gn cp : Int) (dt : List UInt8) (A : Option Addr) (n c : Nat) (w : World) (h : Rd w A n dt) (hn : n <= 1000000) :
    Calls Tryz.prog 30 #[.agg (Cd.cs ⟨2, true, ix, gn, cp, dt⟩ A n c)] w (GotS w (Cd.mk 2 true ix gn cp dt).bytes) := by
  obtain ⟨w1, hw1⟩ : ∃ w1, w1 = w.alloc (.cells (Cd.cs ⟨2, true, ix, gn, cp, dt⟩ A n c) 61) := ⟨_, rfl⟩
  have K1 : CdAt w w1 w.heap.size ⟨2, true, ix, gn, cp, dt⟩ A n c := by rw [hw1]; exact CdAt.new w ⟨2, true, ix, gn, cp, dt⟩ A n c h
  have HA := hi_ (fun b o (e : A = some ⟨b, o, none⟩) hp => Nat.lt_trans (h.lo' b o e hp) K1.r.lt)
  have HLT := hi_ (And.intro K1.r.lt K1.bel.size)
  have c0 := K1.c0
  have c1 := K1.c1
  have CN1 := hi_ (RNumS_any 1 (by decide) (by decide) 2 w1)
  have HX := hi_ (show (Cd.mk 2 true ix gn cp dt).bytes = numB 1 2 ++ [1] ++ numB 8 ix ++ numB 8 cp ++ numB 2 n ++ dt by have e : (n : Int) = (dt.length : Nat) := (by rw [h.1]); rw [e]; simp [Cd.bytes, Cd.tgt, numB_11])
  have HK1 := hi_ K1
  clear h K1
  go_enter Tryz.func30, Tryz.ntmps30
  go_wp2_with (first
    | (rw [<- hw1]; clear hw1)
    | (go_at_call 29; have _t := CN1; refine CN1.out.mono ?_; rintro e w2 ⟨v2, rfl, ho2, hb2⟩
       have K2 := HK1.out.next hb2
       have q0 := K2.c0; have q1 := K2.c1; have q2 := K2.c2; have q3 := K2.c3; have q4 := K2.c4; have q5 := K2.c5
       have HK2 := hi_ K2
       have HO2 := hi_ (And.intro ho2 hb2.size)
       clear K2 ho2 hb2 CN1 c0 c1)
    | (at_builtin; have _t := HO2; refine wpList_app _ bytesT rfl (.tmp 22) (.tmp 23) rfl w1.heap.size v2 _ _ rfl (own_keep HO2.out.1 ((Below.refl _ _).alloc (Nat.le_refl _) _)) _ 1 1 [1] rfl (Rd.new w2 5 [1] (0, 0)) (by omega) (by have := HO2.out.2; simp; omega) ?_; intro v3 w3 ho3 hb3
       rw [<- cells_append] at ho3
       have hal : Below w2.heap.size w2 (w2.alloc (.cells #[.int .u8 1] 5)) := (Below.refl _ _).alloc (Nat.le_refl _) _
       have K3 := (HK2.out.next hal).low hb3 HLT.out.1 HLT.out.2 HA.out
       have q0 := K3.c0; have q1 := K3.c1; have q2 := K3.c2; have q3 := K3.c3; have q4 := K3.c4; have q5 := K3.c5
       have HK3 := hi_ K3
       have HO3 := hi_ (And.intro ho3 (Nat.le_trans HO2.out.2 (Nat.le_trans hal.size hb3.size)))
       have CN3 := hi_ (RNumS_any 8 (by decide) (by decide) ix w3)
       clear K3 ho3 hb3 hal HO2)
    | (go_at_call 29; have _t := CN3; refine CN3.out.mono ?_; rintro e w4 ⟨v4, rfl, ho4, hb4⟩
       obtain ⟨A4, cc4, rfl, _, _, hr4⟩ := Rd.of_own ho4 rfl
       have HK4 := hi_ (HK3.out.next hb4)
       have HO4 := hi_ (And.intro (own_keep HO3.out.1 hb4) (Nat.le_trans HO3.out.2 hb4.size))
       have HR4 := hi_ hr4
       clear hr4 ho4 hb4 CN3)
    | (at_builtin; have _t := HR4; refine wpList_app _ bytesT rfl (.tmp 25) (.tmp 29) rfl w1.heap.size v3 _ _ rfl HO4.out.1 A4 8 cc4 _ rfl HR4.out (by omega) HO4.out.2 ?_; intro v5 w5 ho5 hb5
       rw [<- cells_append] at ho5
       have K5 := HK4.out.low hb5 HLT.out.1 HLT.out.2 HA.out
       have q0 := K5.c0; have q1 := K5.c1; have q2 := K5.c2; have q3 := K5.c3; have q4 := K5.c4; have q5 := K5.c5
       have HK5 := hi_ K5
       have HO5 := hi_ (And.intro ho5 (Nat.le_trans HO4.out.2 hb5.size))
       have CN5 := hi_ (RNumS_any 8 (by decide) (by decide) cp w5)
       clear K5 ho5 hb5 HR4)
    | (go_at_call 29; have _t := CN5; refine CN5.out.mono ?_; rintro e w6 ⟨v6, rfl, ho6, hb6⟩
       obtain ⟨A6, cc6, rfl, _, _, hr6⟩ := Rd.of_own ho6 rfl
       have HK6 := hi_ (HK5.out.next hb6)
       have HO6 := hi_ (And.intro (own_keep HO5.out.1 hb6) (Nat.le_trans HO5.out.2 hb6.size))
       have HR6 := hi_ hr6
       clear hr6 ho6 hb6 CN5)
    | (at_builtin; have _t := HR6; refine wpList_app _ bytesT rfl (.tmp 49) (.tmp 52) rfl w1.heap.size v5 _ _ rfl HO6.out.1 A6 8 cc6 _ rfl HR6.out (by omega) HO6.out.2 ?_; intro v7 w7 ho7 hb7
       rw [<- cells_append] at ho7
       have K7 := HK6.out.low hb7 HLT.out.1 HLT.out.2 HA.out
       have q0 := K7.c0; have q1 := K7.c1; have q2 := K7.c2; have q3 := K7.c3; have q4 := K7.c4; have q5 := K7.c5
       have HK7 := hi_ K7
       have HO7 := hi_ (And.intro ho7 (Nat.le_trans HO6.out.2 hb7.size))
       have CN7 := hi_ (RNumS_any 2 (by decide) (by decide) n w7)
       clear K7 ho7 hb7 HR6)
    | (go_at_call 29; have _t := CN7; refine CN7.out.mono ?_; rintro e w8 ⟨v8, rfl, ho8, hb8⟩
       obtain ⟨A8, cc8, rfl, _, _, hr8⟩ := Rd.of_own ho8 rfl
       have HK8 := hi_ (HK7.out.next hb8)
       have HO8 := hi_ (And.intro (own_keep HO7.out.1 hb8) (Nat.le_trans HO7.out.2 hb8.size))
       have HR8 := hi_ hr8
       clear hr8 ho8 hb8 CN7)
    | (at_builtin; have _t := HR8; refine wpList_app _ bytesT rfl (.tmp 57) (.tmp 61) rfl w1.heap.size v7 _ _ rfl HO8.out.1 A8 2 cc8 _ rfl HR8.out (by omega) HO8.out.2 ?_; intro v9 w9 ho9 hb9
       rw [<- cells_append] at ho9
       have K9 := HK8.out.low hb9 HLT.out.1 HLT.out.2 HA.out
       have q0 := K9.c0; have q1 := K9.c1; have q2 := K9.c2; have q3 := K9.c3; have q4 := K9.c4; have q5 := K9.c5
       have HK9 := hi_ K9
       have HO9 := hi_ (And.intro ho9 (Nat.le_trans HO8.out.2 hb9.size))
       clear K9 ho9 hb9 HR8)
    | (at_builtin; have _t := HO9; refine wpList_app _ bytesT rfl (.tmp 63) (.tmp 65) rfl w1.heap.size v9 _ _ rfl HO9.out.1 A n c dt rfl HK9.out.rd (by omega) HO9.out.2 ?_; intro v10 w10 ho10 hb10
       rw [<- cells_append] at ho10
       have HK10 := hi_ (HK9.out.low hb10 HLT.out.1 HLT.out.2 HA.out)
       have HO10 := hi_ (And.intro ho10 (Nat.le_trans HO9.out.2 hb10.size))
       clear ho10 hb10))
  go_ret
  rw [HX.out]
  exact GotS.own (own_mono HO10.out.1 HLT.out.2) HK10.out.bel
set_option maxHeartbeats 2000000 in
theorem RBytes_3f (ix gn cp : Int) (dt : List UInt8) (A : Option Addr) (n c : Nat) (w : World) (h : Rd w A n dt) (hn : n <= 1000000) :
    Calls Tryz.prog 30 #[.agg (Cd.cs ⟨3, false, ix, gn, cp, dt⟩ A n c)] w (GotS w (Cd.mk 3 false ix gn cp dt).bytes) := by
  obtain ⟨w1, hw1⟩ : ∃ w1, w1 = w.alloc (.cells (Cd.cs ⟨3, false, ix, gn, cp, dt⟩ A n c) 61) := ⟨_, rfl⟩
  have K1 : CdAt w w1 w.heap.size ⟨3, false, ix, gn, cp, dt⟩ A n c := by rw [hw1]; exact CdAt.new w ⟨3, false, ix, gn, cp, dt⟩ A n c h
  have HA := hi_ (fun b o (e : A = some ⟨b, o, none⟩) hp => Nat.lt_trans (h.lo' b o e hp) K1.r.lt)
  have HLT := hi_ (And.intro K1.r.lt K1.bel.size)
  have c0 := K1.c0
  have c1 := K1.c1
  have CN1 := hi_ (RNumS_any 1 (by decide) (by decide) 3 w1)
  have HX := hi_ (show (Cd.mk 3 false ix gn cp dt).bytes = numB 1 3 ++ [0] ++ numB 8 ix ++ numB 8 gn ++ numB 8 cp by simp [Cd.bytes, Cd.tgt, numB_10])
  have HK1 := hi_ K1
  clear h K1
  go_enter Tryz.func30, Tryz.ntmps30
  go_wp2_with (first
    | (rw [<- hw1]; clear hw1)
    | (go_at_call 29; have _t := CN1; refine CN1.out.mono ?_; rintro e w2 ⟨v2, rfl, ho2, hb2⟩
       have K2 := HK1.out.next hb2
       have q0 := K2.c0; have q1 := K2.c1; have q2 := K2.c2; have q3 := K2.c3; have q4 := K2.c4; have q5 := K2.c5
       have HK2 := hi_ K2
       have HO2 := hi_ (And.intro ho2 hb2.size)
       clear K2 ho2 hb2 CN1 c0 c1)
    | (at_builtin; have _t := HO2; refine wpList_app _ bytesT rfl (.tmp 31) (.tmp 32) rfl w1.heap.size v2 _ _ rfl (own_keep HO2.out.1 ((Below.refl _ _).alloc (Nat.le_refl _) _)) _ 1 1 [0] rfl (Rd.new w2 5 [0] (0, 0)) (by omega) (by have := HO2.out.2; simp; omega) ?_; intro v3 w3 ho3 hb3
       rw [<- cells_append] at ho3
       have hal : Below w2.heap.size w2 (w2.alloc (.cells #[.int .u8 0] 5)) := (Below.refl _ _).alloc (Nat.le_refl _) _
       have K3 := (HK2.out.next hal).low hb3 HLT.out.1 HLT.out.2 HA.out
       have q0 := K3.c0; have q1 := K3.c1; have q2 := K3.c2; have q3 := K3.c3; have q4 := K3.c4; have q5 := K3.c5
       have HK3 := hi_ K3
       have HO3 := hi_ (And.intro ho3 (Nat.le_trans HO2.out.2 (Nat.le_trans hal.size hb3.size)))
       have CN3 := hi_ (RNumS_any 8 (by decide) (by decide) ix w3)
       clear K3 ho3 hb3 hal HO2)
    | (go_at_call 29; have _t := CN3; refine CN3.out.mono ?_; rintro e w4 ⟨v4, rfl, ho4, hb4⟩
       obtain ⟨A4, cc4, rfl, _, _, hr4⟩ := Rd.of_own ho4 rfl
       have HK4 := hi_ (HK3.out.next hb4)
       have HO4 := hi_ (And.intro (own_keep HO3.out.1 hb4) (Nat.le_trans HO3.out.2 hb4.size))
       have HR4 := hi_ hr4
       clear hr4 ho4 hb4 CN3)
    | (at_builtin; have _t := HR4; refine wpList_app _ bytesT rfl (.tmp 34) (.tmp 38) rfl w1.heap.size v3 _ _ rfl HO4.out.1 A4 8 cc4 _ rfl HR4.out (by omega) HO4.out.2 ?_; intro v5 w5 ho5 hb5
       rw [<- cells_append] at ho5
       have K5 := HK4.out.low hb5 HLT.out.1 HLT.out.2 HA.out
       have q0 := K5.c0; have q1 := K5.c1; have q2 := K5.c2; have q3 := K5.c3; have q4 := K5.c4; have q5 := K5.c5
       have HK5 := hi_ K5
       have HO5 := hi_ (And.intro ho5 (Nat.le_trans HO4.out.2 hb5.size))
       have CN5 := hi_ (RNumS_any 8 (by decide) (by decide) gn w5)
       clear K5 ho5 hb5 HR4)
    | (go_at_call 29; have _t := CN5; refine CN5.out.mono ?_; rintro e w6 ⟨v6, rfl, ho6, hb6⟩
       obtain ⟨A6, cc6, rfl, _, _, hr6⟩ := Rd.of_own ho6 rfl
       have HK6 := hi_ (HK5.out.next hb6)
       have HO6 := hi_ (And.intro (own_keep HO5.out.1 hb6) (Nat.le_trans HO5.out.2 hb6.size))
       have HR6 := hi_ hr6
       clear hr6 ho6 hb6 CN5)
    | (at_builtin; have _t := HR6; refine wpList_app _ bytesT rfl (.tmp 40) (.tmp 44) rfl w1.heap.size v5 _ _ rfl HO6.out.1 A6 8 cc6 _ rfl HR6.out (by omega) HO6.out.2 ?_; intro v7 w7 ho7 hb7
       rw [<- cells_append] at ho7
       have K7 := HK6.out.low hb7 HLT.out.1 HLT.out.2 HA.out
       have q0 := K7.c0; have q1 := K7.c1; have q2 := K7.c2; have q3 := K7.c3; have q4 := K7.c4; have q5 := K7.c5
       have HK7 := hi_ K7
       have HO7 := hi_ (And.intro ho7 (Nat.le_trans HO6.out.2 hb7.size))
       have CN7 := hi_ (RNumS_any 8 (by decide) (by decide) cp w7)
       clear K7 ho7 hb7 HR6)
    | (go_at_call 29; have _t := CN7; refine CN7.out.mono ?_; rintro e w8 ⟨v8, rfl, ho8, hb8⟩
       obtain ⟨A8, cc8, rfl, _, _, hr8⟩ := Rd.of_own ho8 rfl
       have HK8 := hi_ (HK7.out.next hb8)
       have HO8 := hi_ (And.intro (own_keep HO7.out.1 hb8) (Nat.le_trans HO7.out.2 hb8.size))
       have HR8 := hi_ hr8
       clear hr8 ho8 hb8 CN7)
    | (at_builtin; have _t := HR8; refine wpList_app _ bytesT rfl (.tmp 49) (.tmp 52) rfl w1.heap.size v7 _ _ rfl HO8.out.1 A8 8 cc8 _ rfl HR8.out (by omega) HO8.out.2 ?_; intro v9 w9 ho9 hb9
       rw [<- cells_append] at ho9
       have K9 := HK8.out.low hb9 HLT.out.1 HLT.out.2 HA.out
       have q0 := K9.c0; have q1 := K9.c1; have q2 := K9.c2; have q3 := K9.c3; have q4 := K9.c4; have q5 := K9.c5
       have HK9 := hi_ K9
       have HO9 := hi_ (And.intro ho9 (Nat.le_trans HO8.out.2 hb9.size))
       clear K9 ho9 hb9 HR8))
  go_ret
  rw [HX.out]
  exact GotS.own (own_mono HO9.out.1 HLT.out.2) HK9.out.bel
set_option maxHeartbeats 2000000 in
theorem RBytes_3t (ix gn cp : Int) (dt : List UInt8) (A : Option Addr) (n c : Nat) (w : World) (h : Rd w A n dt) (hn : n <= 1000000) :
    Calls Tryz.prog 30 #[.agg (Cd.cs ⟨3, true, ix, gn, cp, dt⟩ A n c)] w (GotS w (Cd.mk 3 true ix gn cp dt).bytes) := by
  obtain ⟨w1, hw1⟩ : ∃ w1, w1 = w.alloc (.cells (Cd.cs ⟨3, true, ix, gn, cp, dt⟩ A n c) 61) := ⟨_, rfl⟩
  have K1 : CdAt w w1 w.heap.size ⟨3, true, ix, gn, cp, dt⟩ A n c := by rw [hw1]; exact CdAt.new w ⟨3, true, ix, gn, cp, dt⟩ A n c h
  have HA := hi_ (fun b o (e : A = some ⟨b, o, none⟩) hp => Nat.lt_trans (h.lo' b o e hp) K1.r.lt)
  have HLT := hi_ (And.intro K1.r.lt K1.bel.size)
  have c0 := K1.c0
  have c1 := K1.c1
  have CN1 := hi_ (RNumS_any 1 (by decide) (by decide) 3 w1)
  have HX := hi_ (show (Cd.mk 3 true ix gn cp dt).bytes = numB 1 3 ++ [1] ++ numB 8 ix ++ numB 8 cp by simp [Cd.bytes, Cd.tgt, numB_11])
  have HK1 := hi_ K1
  clear h K1
  go_enter Tryz.func30, Tryz.ntmps30
  go_wp2_with (first
    | (rw [<- hw1]; clear hw1)
    | (go_at_call 29; have _t := CN1; refine CN1.out.mono ?_; rintro e w2 ⟨v2, rfl, ho2, hb2⟩
       have K2 := HK1.out.next hb2
       have q0 := K2.c0; have q1 := K2.c1; have q2 := K2.c2; have q3 := K2.c3; have q4 := K2.c4; have q5 := K2.c5
       have HK2 := hi_ K2
       have HO2 := hi_ (And.intro ho2 hb2.size)
       clear K2 ho2 hb2 CN1 c0 c1)
    | (at_builtin; have _t := HO2; refine wpList_app _ bytesT rfl (.tmp 22) (.tmp 23) rfl w1.heap.size v2 _ _ rfl (own_keep HO2.out.1 ((Below.refl _ _).alloc (Nat.le_refl _) _)) _ 1 1 [1] rfl (Rd.new w2 5 [1] (0, 0)) (by omega) (by have := HO2.out.2; simp; omega) ?_; intro v3 w3 ho3 hb3
       rw [<- cells_append] at ho3
       have hal : Below w2.heap.size w2 (w2.alloc (.cells #[.int .u8 1] 5)) := (Below.refl _ _).alloc (Nat.le_refl _) _
       have K3 := (HK2.out.next hal).low hb3 HLT.out.1 HLT.out.2 HA.out
       have q0 := K3.c0; have q1 := K3.c1; have q2 := K3.c2; have q3 := K3.c3; have q4 := K3.c4; have q5 := K3.c5
       have HK3 := hi_ K3
       have HO3 := hi_ (And.intro ho3 (Nat.le_trans HO2.out.2 (Nat.le_trans hal.size hb3.size)))
       have CN3 := hi_ (RNumS_any 8 (by decide) (by decide) ix w3)
       clear K3 ho3 hb3 hal HO2)
    | (go_at_call 29; have _t := CN3; refine CN3.out.mono ?_; rintro e w4 ⟨v4, rfl, ho4, hb4⟩
       obtain ⟨A4, cc4, rfl, _, _, hr4⟩ := Rd.of_own ho4 rfl
       have HK4 := hi_ (HK3.out.next hb4)
       have HO4 := hi_ (And.intro (own_keep HO3.out.1 hb4) (Nat.le_trans HO3.out.2 hb4.size))
       have HR4 := hi_ hr4
       clear hr4 ho4 hb4 CN3)
    | (at_builtin; have _t := HR4; refine wpList_app _ bytesT rfl (.tmp 25) (.tmp 29) rfl w1.heap.size v3 _ _ rfl HO4.out.1 A4 8 cc4 _ rfl HR4.out (by omega) HO4.out.2 ?_; intro v5 w5 ho5 hb5
       rw [<- cells_append] at ho5
       have K5 := HK4.out.low hb5 HLT.out.1 HLT.out.2 HA.out
       have q0 := K5.c0; have q1 := K5.c1; have q2 := K5.c2; have q3 := K5.c3; have q4 := K5.c4; have q5 := K5.c5
       have HK5 := hi_ K5
       have HO5 := hi_ (And.intro ho5 (Nat.le_trans HO4.out.2 hb5.size))
       have CN5 := hi_ (RNumS_any 8 (by decide) (by decide) cp w5)
       clear K5 ho5 hb5 HR4)
    | (go_at_call 29; have _t := CN5; refine CN5.out.mono ?_; rintro e w6 ⟨v6, rfl, ho6, hb6⟩
       obtain ⟨A6, cc6, rfl, _, _, hr6⟩ := Rd.of_own ho6 rfl
       have HK6 := hi_ (HK5.out.next hb6)
       have HO6 := hi_ (And.intro (own_keep HO5.out.1 hb6) (Nat.le_trans HO5.out.2 hb6.size))
       have HR6 := hi_ hr6
       clear hr6 ho6 hb6 CN5)
    | (at_builtin; have _t := HR6; refine wpList_app _ bytesT rfl (.tmp 49) (.tmp 52) rfl w1.heap.size v5 _ _ rfl HO6.out.1 A6 8 cc6 _ rfl HR6.out (by omega) HO6.out.2 ?_; intro v7 w7 ho7 hb7
       rw [<- cells_append] at ho7
       have K7 := HK6.out.low hb7 HLT.out.1 HLT.out.2 HA.out
       have q0 := K7.c0; have q1 := K7.c1; have q2 := K7.c2; have q3 := K7.c3; have q4 := K7.c4; have q5 := K7.c5
       have HK7 := hi_ K7
       have HO7 := hi_ (And.intro ho7 (Nat.le_trans HO6.out.2 hb7.size))
       clear K7 ho7 hb7 HR6))
  go_ret
  rw [HX.out]
  exact GotS.own (own_mono HO7.out.1 HLT.out.2) HK7.out.bel
theorem RBytesC_any (x : Cd) (A : Option Addr) (n c : Nat) (w : World) (h : Rd w A n x.dt) (hn : n <= 1000000) : Calls Tryz.prog 30 #[.agg (x.cs A n c)] w (GotS w x.bytes) := by
  by_cases ho : x.d < 0 \/ 3 < x.d
  · exact RBytes_o x ho A n c w h
  obtain ⟨d, lc, ix, gn, cp, dt⟩ := x
  rcases cd_cases d with rfl | rfl | rfl | rfl | hd
  · cases lc
    · exact RBytes_0f ix gn cp dt A n c w h hn
    · exact RBytes_0t ix gn cp dt A n c w h hn
  · cases lc
    · exact RBytes_1f ix gn cp dt A n c w h hn
    · exact RBytes_1t ix gn cp dt A n c w h hn
  · cases lc
    · exact RBytes_2f ix gn cp dt A n c w h hn
    · exact RBytes_2t ix gn cp dt A n c w h hn
  · cases lc
    · exact RBytes_3f ix gn cp dt A n c w h hn
    · exact RBytes_3t ix gn cp dt A n c w h hn
  · exact absurd hd ho
end Go.Proofs.YthabmlbmlncbmaaGreat
namespace Go.Proofs.YthabmlbmlncbmaaGreat
open Go.RowKit
set_option linter.unusedVariables false
theorem td (l : List UInt8) (i j : Nat) (h : i + j <= 92) : ((l.take 92).drop i).take j = (l.drop i).take j := by
  rw [List.drop_take, List.take_take, Nat.min_eq_left (by omega)]
theorem getCd_take (l : List UInt8) : getCd (l.take 92) = getCd l := by
  by_cases h : l.length <= 92
  · rw [List.take_of_length_le h]
  have hl : (l.take 92).length = 92 := by simp; omega
  have h0 := take_getD l 92 0 (by decide)
  have h1 := take_getD l 92 1 (by decide)
  have t2 := td l 2 8 (by decide)
  have t10 := td l 10 8 (by decide)
  unfold getCd
  rw [h0, h1, hl, t2, t10]
  obtain ⟨e0, he0⟩ : ∃ e0, e0 = if (l.getD 1 0).toNat = 1 then 10 else 18 := ⟨_, rfl⟩
  have hb : e0 <= 18 := by rw [he0]; split <;> omega
  simp only [<- he0]
  have t3 := td l e0 8 (by omega)
  have t4 := td l (e0 + 8) 2 (by omega)
  rw [t3, t4]
  obtain ⟨m, hm⟩ : ∃ m, m = leN ((l.drop (e0 + 8)).take 2) := ⟨_, rfl⟩
  have f1 : (92 = 0) = False := eq_false (by decide)
  have f2 : (l.length = 0) = False := eq_false (by omega)
  have f3 : (92 = 1) = False := eq_false (by decide)
  have f4 : (l.length = 1) = False := eq_false (by omega)
  have f5 : (92 < e0) = False := eq_false (by omega)
  have f6 : (l.length < e0) = False := eq_false (by omega)
  have f7 : (92 < e0 + 8) = False := eq_false (by omega)
  have f8 : (l.length < e0 + 8) = False := eq_false (by omega)
  have f9 : (92 < e0 + 10) = False := eq_false (by omega)
  have f10 : (l.length < e0 + 10) = False := eq_false (by omega)
  simp only [<- hm, f1, f2, f3, f4, f5, f6, f7, f8, f9, f10, if_false]
  by_cases h64 : 64 < m
  · simp only [if_pos h64]
  · have t5 := td l (e0 + 10) m (by omega)
    have f11 : (92 < e0 + 10 + m) = False := eq_false (by omega)
    have f12 : (l.length < e0 + 10 + m) = False := eq_false (by omega)
    simp only [if_neg h64, f11, f12, if_false, t5]
theorem numB_0 (d : Nat) (h : d <= 255) : numB 1 (d : Int) = [UInt8.ofNat d] := by
  simp only [numB, List.range_succ, List.range_zero, List.nil_append, List.map_cons, List.map_nil, byteOf, Nat.mul_zero, Int.pow_zero, Int.ediv_one, List.cons.injEq, and_true]
  congr 1
  omega
theorem leN_numB2 (n : Nat) (h : n <= 65535) : leN (numB 2 (n : Int)) = n := by
  have := leN_numB 2 (n : Int)
  rw [Int.emod_eq_of_lt (by omega) (by omega)] at this
  exact Int.ofNat.inj this
theorem dl {α : Type} {l m : List α} {n : Nat} (h : l.length = n) (k : Nat) : (l ++ m).drop (n + k) = m.drop k := by
  rw [<- h, List.drop_append, Nat.add_sub_cancel_left, List.drop_of_length_le (by omega), List.nil_append]
theorem tl {α : Type} {l m : List α} {n : Nat} (h : l.length = n) : (l ++ m).take n = l := List.take_left' h
theorem getCd_put (x : Cd) (hd : 0 <= x.d /\ x.d <= 3) (hl : x.dt.length <= 64) (hw : x.wf) : getCd x.bytes = (x.plain, x.bytes.length, 0) := by
  obtain ⟨d, lc, ix, gn, cp, dt⟩ := x
  obtain ⟨w1, w2, w3⟩ := hw
  simp only at hd hl w1 w2 w3
  have v1 := getV_numB8 w1
  have v2 := getV_numB8 w2
  have v3 := getV_numB8 w3
  have lm := leN_numB2 dt.length (by omega)
  have L8 : ∀ y, (numB 8 y).length = 8 := numB_length 8
  have L2 : ∀ y, (numB 2 y).length = 2 := numB_length 2
  have b0 : numB 1 0 = [0] := by decide
  have b1 : numB 1 1 = [1] := by decide
  have b2 : numB 1 2 = [2] := by decide
  have b3 : numB 1 3 = [3] := by decide
  rcases cd_cases d with rfl | rfl | rfl | rfl | h
  · rfl
  · cases lc
    · have e : (Cd.mk 1 false ix gn cp dt).bytes = 1 :: 0 :: (numB 8 ix ++ numB 8 gn) := by simp [Cd.bytes, Cd.tgt, b0, b1]
      have p : (Cd.mk 1 false ix gn cp dt).plain = ⟨1, false, ix, gn, 0, []⟩ := rfl
      have d1 : (numB 8 ix ++ numB 8 gn).drop 8 = numB 8 gn := List.drop_left' (L8 _)
      rw [e, p]
      simp [getCd, d1, tl (L8 _), v1, v2, List.take_of_length_le (Nat.le_of_eq (L8 _))]
    · have e : (Cd.mk 1 true ix gn cp dt).bytes = 1 :: 1 :: numB 8 ix := by simp [Cd.bytes, Cd.tgt, b1]
      have p : (Cd.mk 1 true ix gn cp dt).plain = ⟨1, true, ix, 0, 0, []⟩ := rfl
      rw [e, p]
      simp [getCd, v1, List.take_of_length_le (Nat.le_of_eq (L8 _))]
  · cases lc
    · have e : (Cd.mk 2 false ix gn cp dt).bytes = 2 :: 0 :: (numB 8 ix ++ (numB 8 gn ++ (numB 8 cp ++ (numB 2 dt.length ++ dt)))) := by simp [Cd.bytes, Cd.tgt, b0, b2]
      have p : (Cd.mk 2 false ix gn cp dt).plain = ⟨2, false, ix, gn, cp, dt⟩ := rfl
      have d1 : (numB 8 ix ++ (numB 8 gn ++ (numB 8 cp ++ (numB 2 dt.length ++ dt)))).drop 8 = numB 8 gn ++ (numB 8 cp ++ (numB 2 dt.length ++ dt)) := List.drop_left' (L8 _)
      have d2 : (numB 8 ix ++ (numB 8 gn ++ (numB 8 cp ++ (numB 2 dt.length ++ dt)))).drop 16 = numB 8 cp ++ (numB 2 dt.length ++ dt) := by rw [dl (L8 _) 8]; exact List.drop_left' (L8 _)
      have d3 : (numB 8 ix ++ (numB 8 gn ++ (numB 8 cp ++ (numB 2 dt.length ++ dt)))).drop 24 = numB 2 dt.length ++ dt := by rw [dl (L8 _) 16, dl (L8 _) 8]; exact List.drop_left' (L8 _)
      have d4 : (numB 8 ix ++ (numB 8 gn ++ (numB 8 cp ++ (numB 2 dt.length ++ dt)))).drop 26 = dt := by rw [dl (L8 _) 18, dl (L8 _) 10, dl (L8 _) 2]; exact List.drop_left' (L2 _)
      rw [e, p]
      simp [getCd, d1, d2, d3, d4, tl (L8 _), tl (L2 _), v1, v2, v3, lm]
      rw [if_neg (by omega), if_neg (by omega), if_neg (by omega)]
      simp only [Prod.mk.injEq, and_true, true_and]
      omega
    · have e : (Cd.mk 2 true ix gn cp dt).bytes = 2 :: 1 :: (numB 8 ix ++ (numB 8 cp ++ (numB 2 dt.length ++ dt))) := by simp [Cd.bytes, Cd.tgt, b1, b2]
      have p : (Cd.mk 2 true ix gn cp dt).plain = ⟨2, true, ix, 0, cp, dt⟩ := rfl
      have d2 : (numB 8 ix ++ (numB 8 cp ++ (numB 2 dt.length ++ dt))).drop 8 = numB 8 cp ++ (numB 2 dt.length ++ dt) := List.drop_left' (L8 _)
      have d3 : (numB 8 ix ++ (numB 8 cp ++ (numB 2 dt.length ++ dt))).drop 16 = numB 2 dt.length ++ dt := by rw [dl (L8 _) 8]; exact List.drop_left' (L8 _)
      have d4 : (numB 8 ix ++ (numB 8 cp ++ (numB 2 dt.length ++ dt))).drop 18 = dt := by rw [dl (L8 _) 10, dl (L8 _) 2]; exact List.drop_left' (L2 _)
      rw [e, p]
      simp [getCd, d2, d3, d4, tl (L8 _), tl (L2 _), v1, v3, lm]
      rw [if_neg (by omega), if_neg (by omega), if_neg (by omega)]
      simp only [Prod.mk.injEq, and_true, true_and]
      omega
  · cases lc
    · have e : (Cd.mk 3 false ix gn cp dt).bytes = 3 :: 0 :: (numB 8 ix ++ (numB 8 gn ++ numB 8 cp)) := by simp [Cd.bytes, Cd.tgt, b0, b3]
      have p : (Cd.mk 3 false ix gn cp dt).plain = ⟨3, false, ix, gn, cp, []⟩ := rfl
      have d1 : (numB 8 ix ++ (numB 8 gn ++ numB 8 cp)).drop 8 = numB 8 gn ++ numB 8 cp := List.drop_left' (L8 _)
      have d2 : (numB 8 ix ++ (numB 8 gn ++ numB 8 cp)).drop 16 = numB 8 cp := by rw [dl (L8 _) 8]; exact List.drop_left' (L8 _)
      rw [e, p]
      simp [getCd, d1, d2, tl (L8 _), v1, v2, v3, List.take_of_length_le (Nat.le_of_eq (L8 _))]
    · have e : (Cd.mk 3 true ix gn cp dt).bytes = 3 :: 1 :: (numB 8 ix ++ numB 8 cp) := by simp [Cd.bytes, Cd.tgt, b1, b3]
      have p : (Cd.mk 3 true ix gn cp dt).plain = ⟨3, true, ix, 0, cp, []⟩ := rfl
      have d2 : (numB 8 ix ++ numB 8 cp).drop 8 = numB 8 cp := List.drop_left' (L8 _)
      rw [e, p]
      simp [getCd, d2, tl (L8 _), v1, v3, List.take_of_length_le (Nat.le_of_eq (L8 _))]
  · omega
theorem two_back (l : List UInt8) (h : 2 <= l.length) : l = [l.getD 0 0, l.getD 1 0] ++ l.drop 2 := by
  match l, h with
  | a :: b :: t, _ => rfl
theorem split_at (l : List UInt8) (i j : Nat) (h : i + j <= l.length) : l.drop i = (l.drop i).take j ++ l.drop (i + j) := by
  conv => lhs; rw [<- List.take_append_drop j (l.drop i), List.drop_drop]
theorem len_at (l : List UInt8) (i j : Nat) (h : i + j <= l.length) : ((l.drop i).take j).length = j := by simp; omega
theorem byte_eq {b : UInt8} {n : Nat} (h : b.toNat = n) : b = UInt8.ofNat n := by
  subst h
  simp
theorem getCd_back (l : List UInt8) (h : (getCd l).2.2 = 0) : (getCd l).1.bytes ++ l.drop (getCd l).2.1 = l /\ (getCd l).2.1 <= l.length /\ (getCd l).1.dt.length <= 64 := by
  have b0 : numB 1 0 = [0] := by decide
  have b1 : numB 1 1 = [1] := by decide
  have b2 : numB 1 2 = [2] := by decide
  have b3 : numB 1 3 = [3] := by decide
  unfold getCd at h ⊢
  by_cases h0 : l.length = 0
  · rw [if_pos h0] at h; exact absurd h (by decide)
  rw [if_neg h0] at h ⊢
  by_cases h3 : 3 < (l.getD 0 0).toNat
  · rw [if_pos h3] at h; exact absurd h (by decide)
  rw [if_neg h3] at h ⊢
  by_cases hz : (l.getD 0 0).toNat = 0
  · rw [if_pos hz] at h ⊢
    refine ⟨?_, by show 1 <= l.length; omega, by simp⟩
    match l, h0 with
    | a :: t, _ =>
      have : a = 0 := byte_eq hz
      subst this
      rfl
  rw [if_neg hz] at h ⊢
  by_cases h1 : l.length = 1
  · rw [if_pos h1] at h; exact absurd h (by decide)
  rw [if_neg h1] at h ⊢
  by_cases hb : 1 < (l.getD 1 0).toNat
  · rw [if_pos hb] at h; exact absurd h (by decide)
  rw [if_neg hb] at h ⊢
  have hl2 := two_back l (by omega)
  obtain ⟨d, hd⟩ : ∃ d, d = (l.getD 0 0).toNat := ⟨_, rfl⟩
  obtain ⟨b, hbb⟩ : ∃ b, b = (l.getD 1 0).toNat := ⟨_, rfl⟩
  rw [byte_eq hd.symm, byte_eq hbb.symm] at hl2
  rw [<- hd] at hz h3
  rw [<- hbb] at hb
  simp only [<- hd, <- hbb] at h ⊢
  clear hd hbb
  -- the target
  obtain ⟨e0, he0⟩ : ∃ e0, e0 = if b = 1 then 10 else 18 := ⟨_, rfl⟩
  simp only [<- he0] at h ⊢
  have htgt : ∀ dd cp dt, e0 <= l.length -> [UInt8.ofNat b] ++ l.drop 2 = (Cd.mk dd (decide (b = 1)) (getV ((l.drop 2).take 8)) (if b = 1 then 0 else getV ((l.drop 10).take 8)) cp dt).tgt ++ l.drop e0 := by
    intro dd cp dt he
    by_cases hb1 : b = 1
    · subst hb1
      rw [if_pos rfl] at he0
      subst he0
      have s2 := split_at l 2 8 (by omega)
      simp only [Cd.tgt, decide_true, if_true, b1]
      rw [numB8_getV (len_at l 2 8 (by omega)), List.append_assoc, <- s2]
      rfl
    · have hb0 : b = 0 := by omega
      subst hb0
      rw [if_neg hb1] at he0
      subst he0
      have s2 := split_at l 2 8 (by omega)
      have s10 := split_at l 10 8 (by omega)
      simp only [Cd.tgt, hb1, decide_false, if_false, b0, Bool.false_eq_true]
      rw [numB8_getV (len_at l 2 8 (by omega)), numB8_getV (len_at l 10 8 (by omega)), List.append_assoc, <- s10, List.append_assoc, <- s2]
      rfl
  by_cases hd1 : d = 1
  · subst hd1
    rw [if_pos rfl] at h ⊢
    by_cases hs : l.length < e0
    · rw [if_pos hs] at h; exact absurd h (by decide)
    rw [if_neg hs] at h ⊢
    refine ⟨?_, by show e0 <= l.length; omega, by simp⟩
    simp only [Cd.bytes, show ¬ (1 : Int) = 0 by decide, if_false, if_true, b1]
    rw [List.append_assoc, <- htgt 1 0 [] (by omega)]
    exact hl2.symm
  rw [if_neg hd1] at h ⊢
  by_cases hd3 : d = 3
  · subst hd3
    rw [if_pos rfl] at h ⊢
    by_cases hs : l.length < e0 + 8
    · rw [if_pos hs] at h; exact absurd h (by decide)
    rw [if_neg hs] at h ⊢
    refine ⟨?_, by show e0 + 8 <= l.length; omega, by simp⟩
    have s := split_at l e0 8 (by omega)
    simp only [Cd.bytes, show ¬ (3 : Int) = 0 by decide, show ¬ (3 : Int) = 1 by decide, show ¬ (3 : Int) = 2 by decide, if_false, if_true, b3]
    rw [numB8_getV (len_at l e0 8 (by omega)), List.append_assoc, <- s, List.append_assoc, <- htgt 3 (getV ((l.drop e0).take 8)) [] (by omega)]
    exact hl2.symm
  rw [if_neg hd3] at h ⊢
  have hd2 : d = 2 := by omega
  subst hd2
  by_cases hs : l.length < e0 + 10
  · rw [if_pos hs] at h; exact absurd h (by decide)
  rw [if_neg hs] at h ⊢
  obtain ⟨m, hm⟩ : ∃ m, m = leN ((l.drop (e0 + 8)).take 2) := ⟨_, rfl⟩
  simp only [<- hm] at h ⊢
  by_cases h64 : 64 < m
  · rw [if_pos h64] at h; exact absurd h (by decide)
  rw [if_neg h64] at h ⊢
  by_cases hs2 : l.length < e0 + 10 + m
  · rw [if_pos hs2] at h; exact absurd h (by decide)
  rw [if_neg hs2] at h ⊢
  have hdl : ((l.drop (e0 + 10)).take m).length = m := len_at l (e0 + 10) m (by omega)
  refine ⟨?_, by show e0 + 10 + m <= l.length; omega, by show ((l.drop (e0 + 10)).take m).length <= 64; omega⟩
  have s1 := split_at l e0 8 (by omega)
  have s2 := split_at l (e0 + 8) 2 (by omega)
  have s3 := split_at l (e0 + 10) m (by omega)
  have e2 : numB 2 (m : Int) = (l.drop (e0 + 8)).take 2 := by
    have q := numB_leN ((l.drop (e0 + 8)).take 2)
    rw [len_at l (e0 + 8) 2 (by omega), <- hm] at q
    exact q
  simp only [Cd.bytes, show ¬ (2 : Int) = 0 by decide, show ¬ (2 : Int) = 1 by decide, if_false, if_true, b2]
  rw [numB8_getV (len_at l e0 8 (by omega)), hdl, e2]
  have e3 : (l.drop (e0 + 10)).take m ++ l.drop (e0 + 10 + m) = l.drop (e0 + 10) := s3.symm
  rw [List.append_assoc, e3, List.append_assoc, show e0 + 10 = e0 + 8 + 2 from rfl, <- s2, List.append_assoc, <- s1, List.append_assoc, <- htgt 2 (getV ((l.drop e0).take 8)) ((l.drop (e0 + 10)).take m) (by omega)]
  exact hl2.symm
end Go.Proofs.YthabmlbmlncbmaaGreat
namespace Go.Proofs.YthabmlbmlncbmaaGreat
open Go.RowKit
set_option linter.unusedVariables false
set_option maxRecDepth 20000
def ECd (K : Nat -> Prop) (w : World) (x : Cd) (r : List Value) : Prop := ∃ A n c, r = (x.cs A n c).toList /\ VB K w (.slice A n c) x.dt /\ n <= c
theorem ECd.ok : EOk ECd where
  stays := fun ⟨A, n, c, e, hu, hc⟩ hs => ⟨A, n, c, e, hu.stays hs, hc⟩
  mono := fun ⟨A, n, c, e, hu, hc⟩ hk => ⟨A, n, c, e, hu.mono hk, hc⟩
  lt := fun ⟨A, n, c, e, hu, hc⟩ => ⟨A, n, c, e, hu.lt, hc⟩
abbrev CdsV (K : Nat -> Prop) (w : World) (A : Option Addr) (n : Nat) (xs : List Cd) : Prop := RowsL 6 (ECd K w) K w A n xs
section
variable {K K' : Nat -> Prop} {w w' : World} {A : Option Addr} {n : Nat} {xs : List Cd}
theorem CdsV.stays (h : CdsV K w A n xs) (hs : WStays K w w') : CdsV K w' A n xs := by
  obtain ⟨vs, h1, h2, h3⟩ := h
  exact ⟨vs, h1, h2.stays hs, h3.imp fun x r hx => ECd.ok.stays hx hs⟩
theorem CdsV.mono (h : CdsV K w A n xs) (hk : ∀ x, K x -> K' x) : CdsV K' w A n xs := by
  obtain ⟨vs, h1, h2, h3⟩ := h
  exact ⟨vs, h1, h2.mono hk, h3.imp fun x r hx => ECd.ok.mono hx hk⟩
theorem CdsV.lt (h : CdsV K w A n xs) : CdsV (fun x => K x /\ x < w.heap.size) w A n xs := by
  obtain ⟨vs, h1, h2, h3⟩ := h
  exact ⟨vs, h1, h2.lt, h3.imp fun x r hx => ECd.ok.lt hx⟩
theorem CdsV.below (h : CdsV K w A n xs) (hb : Below w.heap.size w w') : CdsV K w' A n xs := (h.lt.stays ⟨hb.size, fun x hx => hb.block x hx.2⟩).mono fun _ hx => hx.1
theorem CdsV.len (h : CdsV K w A n xs) : xs.length = n := by obtain ⟨_, h1, _⟩ := h; exact h1
theorem CdsV.nil (K : Nat -> Prop) (w : World) (A : Option Addr) : CdsV K w A 0 [] := ⟨[], rfl, ⟨rfl, fun _ => rfl, fun h => absurd h (Nat.lt_irrefl 0)⟩, HdL.nil _ _⟩
structure CdL (w : World) (b o : Nat) (x : Cd) (A : Option Addr) (n c : Nat) : Prop where
  c0 : w.cell? ⟨b, o, none⟩ = some (.int .i64 x.d)
  c1 : w.cell? ⟨b, o + 1, none⟩ = some (.bool x.lc)
  c2 : w.cell? ⟨b, o + 2, none⟩ = some (.int .i64 x.ix)
  c3 : w.cell? ⟨b, o + 3, none⟩ = some (.int .i64 x.gn)
  c4 : w.cell? ⟨b, o + 4, none⟩ = some (.int .i64 x.cp)
  c5 : w.cell? ⟨b, o + 5, none⟩ = some (.slice A n c)
theorem CdsV.cell (h : CdsV K w A n xs) {j : Nat} {x : Cd} (hj : xs[j]? = some x) :
    ∃ b o A' m c, A = some ⟨b, o, none⟩ /\ b < w.heap.size /\ CdL w b (o + j * 6) x A' m c /\ Rd w A' m x.dt /\ m <= c := by
  obtain ⟨b, o, r, e, hk, hlt, _, ⟨A', m, c, hr, hv, hmc⟩, hc⟩ := RowsL.cells h hj
  subst hr
  have h0 := hc 0 _ (by decide) rfl
  have h1 := hc 1 _ (by decide) rfl
  have h2 := hc 2 _ (by decide) rfl
  have h3 := hc 3 _ (by decide) rfl
  have h4 := hc 4 _ (by decide) rfl
  have h5 := hc 5 _ (by decide) rfl
  rw [Nat.add_zero] at h0
  rw [<- Nat.add_assoc] at h1 h2 h3 h4 h5
  obtain ⟨A2, m2, c2, e2, hr2, _⟩ := hv
  injection e2 with e3 e4 e5
  subst e3 e4 e5
  exact ⟨b, o, A', m, c, e, hlt, ⟨h0, h1, h2, h3, h4, h5⟩, hr2, hmc⟩
theorem CdL.below {b o : Nat} {x : Cd} {A : Option Addr} {n c : Nat} (h : CdL w b o x A n c) (hb : Below w.heap.size w w') (hlt : b < w.heap.size) : CdL w' b o x A n c :=
  ⟨(hb.cell (p := ⟨b, o, none⟩) hlt).trans h.c0, (hb.cell (p := ⟨b, o + 1, none⟩) hlt).trans h.c1, (hb.cell (p := ⟨b, o + 2, none⟩) hlt).trans h.c2, (hb.cell (p := ⟨b, o + 3, none⟩) hlt).trans h.c3, (hb.cell (p := ⟨b, o + 4, none⟩) hlt).trans h.c4, (hb.cell (p := ⟨b, o + 5, none⟩) hlt).trans h.c5⟩
theorem CdL.load {b o : Nat} {x : Cd} {A : Option Addr} {n c : Nat} (h : CdL w b o x A n c) : (Instr.loadAt 61 (.pointer (some ⟨b, o, none⟩))).run Tryz.prog w = .ok (.agg (x.cs A n c)) w := by
  obtain ⟨d, hd, hr⟩ := cdT.und
  have := run_loadVar_mid (P := Tryz.prog) w b o 61 (x.cs A n c).toList d (fun j v hj => by
    match j, hj with
    | 0, hj => injection hj with hj; rw [<- hj]; exact h.c0
    | 1, hj => injection hj with hj; rw [<- hj]; exact h.c1
    | 2, hj => injection hj with hj; rw [<- hj]; exact h.c2
    | 3, hj => injection hj with hj; rw [<- hj]; exact h.c3
    | 4, hj => injection hj with hj; rw [<- hj]; exact h.c4
    | 5, hj => injection hj with hj; rw [<- hj]; exact h.c5) hd hr (by rw [cdT.info]; rfl)
  simp only [Instr.loadAt, Instr.sureAddr, Sem.run_bind, Sem.run_pure, Result.andThen_ok, this]
theorem wpList_ldCd {ops : Array Oper} {rest : List Oper} {o : Oper} {a : Act} {Q : Exit -> Act -> World -> Prop} {b off : Nat} {x : Cd} {A : Option Addr} {n c : Nat} (hgd : Region.wanted o (yielded ops a.tmps) = true) (y : Operand) (ho : o.op = .load 61 y)
    (hx : a.eval y = .pointer (some ⟨b, off, none⟩)) (h : CdL w b off x A n c) (kk : wpList Tryz.prog ops Q rest (a.put o.dst (.agg (x.cs A n c))) w) : wpList Tryz.prog ops Q (o :: rest) a w :=
  wpList_w hgd fun _ hK => by
    unfold Oper.wp execOp
    simp only [ho, hx, h.load, Sem.run_bind, Sem.run_pure, Result.andThen_ok]
    exact hK _ _ kk
end
end Go.Proofs.YthabmlbmlncbmaaGreat
namespace Go.Proofs.YthabmlbmlncbmaaGreat
open Go.RowKit
set_option linter.unusedVariables false
set_option maxRecDepth 20000
structure PS (w0 W : World) (x : Cd) (A : Option Addr) (n c g3 g5 : Nat) (tv : Option (Array Value)) (cs : Array Value) : Prop where
  k : CdAt w0 W w0.heap.size x A n c
  r2 : Rec 61 W (w0.heap.size + 1) (Cd.zero.cs none 0 0)
  r3 : ∀ t, tv = some t -> Rec 139 W g3 t
  r5 : Rec 61 W g5 cs
  h3 : w0.heap.size + 1 < g5
  n3 : tv ≠ none -> g3 ≠ g5
section
variable {w0 W W' : World} {x : Cd} {A : Option Addr} {n c g3 g5 : Nat} {tv : Option (Array Value)} {cs : Array Value}
end
end Go.Proofs.YthabmlbmlncbmaaGreat
namespace Go.Proofs.YthabmlbmlncbmaaGreat
open Go.RowKit
set_option linter.unusedVariables false
set_option maxRecDepth 20000
end Go.Proofs.YthabmlbmlncbmaaGreat
namespace Go.Proofs.YthabmlbmlncbmaaGreat
open Go.RowKit
set_option linter.unusedVariables false
set_option maxRecDepth 20000
end Go.Proofs.YthabmlbmlncbmaaGreat
namespace Go.Proofs.YthabmlbmlncbmaaGreat
open Go.RowKit
set_option linter.unusedVariables false
set_option maxRecDepth 20000
def chkL : List Cd -> Int
  | [] => 0
  | x :: xs => if x.check ≠ 0 then x.check else chkL xs
def frCheck (xs : List Cd) : Int := if 64 < xs.length then 13 else chkL xs
theorem drop_at {α : Type} {xs : List α} {j : Nat} {x : α} (h : xs[j]? = some x) : xs.drop j = x :: xs.drop (j + 1) := by
  obtain ⟨hlt, e⟩ := List.getElem?_eq_some_iff.1 h
  rw [List.drop_eq_getElem_cons hlt, e]
section
variable {K : Nat -> Prop} (A : Option Addr) (n c : Nat) (xs : List Cd) (w : World)
set_option maxHeartbeats 1000000 in
theorem RFCheck_any (h : CdsV K w A n xs) (hn : n <= 9223372036854775807) (hd : ∀ x ∈ xs, x.dt.length <= 9223372036854775807) :
    Calls Tryz.prog 15 #[.slice A n c] w fun e w' => e = .returned (.int .i64 (frCheck xs)) /\ Below w.heap.size w w' := by
  have hl := h.len
  unfold frCheck
  rw [hl]
  by_cases h64 : 64 < n
  · rw [if_pos h64]
    clear hl
    go_enter Tryz.func15, Tryz.ntmps15
    go_wp2
    go_ret
    exact ⟨rfl, Below.refl _ _⟩
  rw [if_neg h64]
  have H := hi_ h
  have HL := hi_ hl
  have HD := hi_ hd
  clear h hl hd
  go_enter Tryz.func15, Tryz.ntmps15
  go_wp2
  go_loopw [3] (fun iv wr => ∃ j : Nat, j <= n /\ iv = .int .i64 j /\ Hid (chkL xs = chkL (xs.drop j)) /\ Below w.heap.size w wr) (fun iv _ => n - (intOf iv).toNat)
  case atStart => exact ⟨0, Nat.zero_le _, rfl, hi_ (by simp), Below.refl _ _⟩
  case round =>
    obtain ⟨j, hj, rfl, hck, hb⟩ := hrel
    have HBw := hi_ hb
    by_cases hjn : j < n
    · obtain ⟨x, hx⟩ : ∃ x, xs[j]? = some x := ⟨_, List.getElem?_eq_getElem (by rw [HL.out]; exact hjn)⟩
      obtain ⟨b, o, A', m, cc, hA, hlt, hc, hr, hmc⟩ := (H.out.below hb).cell hx
      have HX := hi_ hx
      have hm := HD.out x (List.mem_of_getElem? hx)
      rw [hr.1] at hm
      have CR : Hid (∀ W, Below wr.heap.size wr W -> Calls Tryz.prog 28 #[.agg (x.cs A' m cc)] W fun e w' => e = .returned (.int .i64 x.check) /\ Below W.heap.size W w') := hi_ (fun W hW => RCheck_any x A' m cc W (hr.below (Nat.le_refl _) hW) hm)
      have HC : Hid (∀ W, Below wr.heap.size wr W -> CdL W b (o + j * 6) x A' m cc) := hi_ (fun W hW => hc.below hW hlt)
      subst hA
      have HCK : Hid (chkL xs = if x.check ≠ 0 then x.check else chkL (xs.drop (j + 1))) := hi_ (by rw [hck.out, drop_at hx]; rfl)
      obtain ⟨ck, hck'⟩ : ∃ q, q = x.check := ⟨_, rfl⟩
      rw [<- hck'] at CR HCK
      have C0 := HC.out wr (Below.refl _ _)
      have H0 := hi_ C0
      clear hx hr hc hck hb hck' hmc C0 hm
      by_cases h0 : ck = 0
      · subst h0
        go_wp2_with (first
          | ((with_reducible refine wpList_ldCd (b := b) (off := o + j * 6) rfl (.tmp 15) rfl rfl H0.out ?_))
          | (go_at_call 28; refine (CR.out wr (Below.refl _ _)).mono ?_; rintro e w2 ⟨rfl, hb2⟩))
        go_roundw
        case rel => exact ⟨j + 1, hjn, by go_num, hi_ (by rw [HCK.out]; simp), HBw.out.trans (hb2.mono HBw.out.size)⟩
        case measure => simp [intOf]; omega
      · have hne : (ck != 0) = true := bne_iff_ne.2 h0
        have HE := hi_ h0
        clear h0
        go_wp2_with (first
          | ((with_reducible refine wpList_ldCd (b := b) (off := o + j * 6) rfl (.tmp 15) rfl rfl H0.out ?_))
          | (go_at_call 28; have _t := H0; refine (CR.out wr (Below.refl _ _)).mono ?_; rintro e w2 ⟨rfl, hb2⟩; have H2 := hi_ (HC.out w2 hb2); have HB2 := hi_ hb2; clear H0 hb2)
          | ((with_reducible refine wpList_ldCd (b := b) (off := o + j * 6) rfl (.tmp 21) rfl rfl H2.out ?_))
          | (go_at_call 28; have _t := H2; refine (CR.out w2 HB2.out).mono ?_; rintro e w3 ⟨rfl, hb3⟩))
        go_ret
        refine ⟨ret_int ?_, HBw.out.trans ((HB2.out.trans (hb3.mono HB2.out.size)).mono HBw.out.size)⟩
        rw [HCK.out, if_pos HE.out]
    · obtain rfl : j = n := Nat.le_antisymm hj (Nat.le_of_not_lt hjn)
      have hz : chkL xs = 0 := by rw [hck.out, List.drop_of_length_le (Nat.le_of_eq HL.out)]; rfl
      have HZ := hi_ hz
      clear hz hck
      go_wp2
      go_ret
      exact ⟨ret_int HZ.out.symm, HBw.out⟩
def FMuch (n : Nat) (xs : List Cd) (w : World) (e : Ending) (w' : World) : Prop := w = w' /\ ∃ r, e = .returned (.bool r) /\ (r = false -> n <= 70 /\ ∀ x ∈ xs, x.dt.length <= 200)
set_option maxHeartbeats 1000000 in
theorem FMuch_any (h : CdsV K w A n xs) (hn : n <= 9223372036854775807) (hd : ∀ x ∈ xs, x.dt.length <= 9223372036854775807) :
    Calls Tryz.prog 14 #[.slice A n c] w (FMuch n xs w) := by
  have H := hi_ h
  have HL := hi_ h.len
  have HD := hi_ hd
  clear h hd
  go_enter Tryz.func14, Tryz.ntmps14
  go_wp2
  go_loopw [3] (fun iv wr => ∃ j : Nat, j <= n /\ j <= 100 /\ iv = .int .i64 j /\ w = wr /\ ∀ (k : Nat) (x : Cd), k < j -> xs[k]? = some x -> x.dt.length <= 200) (fun iv _ => n - (intOf iv).toNat)
  case atStart => exact ⟨0, Nat.zero_le _, Nat.zero_le _, rfl, rfl, fun k x hk => absurd hk (Nat.not_lt_zero k)⟩
  case round =>
    obtain ⟨j, hj, hj1, rfl, rfl, hno⟩ := hrel
    by_cases hjn : j < n /\ j < 100
    · obtain ⟨hjn, hj100⟩ := hjn
      obtain ⟨x, hx⟩ : ∃ x, xs[j]? = some x := ⟨_, List.getElem?_eq_getElem (by rw [HL.out]; exact hjn)⟩
      obtain ⟨b, o, A', m, cc, hA, hlt, hc, hr, hmc⟩ := H.out.cell hx
      have HA := hi_ hA
      subst hA
      have k5 := hc.c5
      have d100 : decide ((j : Int) < 100) = true := decide_eq_true (by omega)
      have hm := HD.out x (List.mem_of_getElem? hx)
      rw [hr.1] at hm
      have HX := hi_ hx
      have HM := hi_ hr.1
      have HNO := hi_ hno
      clear hc hr hx hno hmc
      by_cases h40 : 200 < m
      · have d40 : decide ((200 : Int) < (m : Int)) = true := decide_eq_true (by omega)
        go_wp2
        go_ret
        exact ⟨rfl, true, rfl, fun e => by cases e⟩
      · have d40 : decide ((200 : Int) < (m : Int)) = false := decide_eq_false (by omega)
        go_wp2
        go_roundw
        case rel =>
          refine ⟨j + 1, hjn, by omega, by go_num, by first | rfl | trivial, fun k y hk hy => ?_⟩
          by_cases e : k = j
          · subst e
            rw [HX.out] at hy
            injection hy with hy
            rw [<- hy, HM.out]
            omega
          · exact HNO.out k y (by omega) hy
        case measure => simp [intOf]; omega
    · rcases Nat.lt_or_ge j n with h1 | h1
      · have d100 : decide ((j : Int) < 100) = false := decide_eq_false (by omega)
        have dn : decide ((70 : Int) < (n : Int)) = true := decide_eq_true (by omega)
        have HNO := hi_ hno
        clear hno
        go_wp2
        go_ret
        exact ⟨rfl, true, rfl, fun e => by cases e⟩
      · obtain rfl : j = n := Nat.le_antisymm hj h1
        have HNO := hi_ hno
        clear hno
        by_cases h60 : 70 < j
        · have dn : decide ((70 : Int) < (j : Int)) = true := decide_eq_true (by omega)
          go_wp2
          go_ret
          exact ⟨rfl, true, rfl, fun e => by cases e⟩
        · have dn : decide ((70 : Int) < (j : Int)) = false := decide_eq_false (by omega)
          go_wp2
          go_ret
          refine ⟨rfl, false, rfl, fun _ => ⟨by omega, fun x hx => ?_⟩⟩
          obtain ⟨k, hk, e⟩ := List.getElem_of_mem hx
          exact HNO.out k x (by rw [<- HL.out]; exact hk) (by rw [List.getElem?_eq_getElem hk, e])
theorem cdsT : El Tryz.prog 40 61 (.agg #[.int .i64 0, .bool false, .int .i64 0, .int .i64 0, .int .i64 0, .slice none 0 0]) 6 64 := ⟨Tryz.underlying40, by kernel_rfl, rfl, by decide⟩
theorem cs_one (x : Cd) (A : Option Addr) (n c : Nat) : ∀ u ∈ [Value.int .i64 x.d, .bool x.lc, .int .i64 x.ix, .int .i64 x.gn, .int .i64 x.cp, .slice A n c], u.oneCell' = true := by
  intro u hu
  simp at hu
  rcases hu with rfl | rfl | rfl | rfl | rfl | rfl <;> rfl
end
end Go.Proofs.YthabmlbmlncbmaaGreat
namespace Go.Proofs.YthabmlbmlncbmaaGreat
open Go.RowKit
set_option linter.unusedVariables false
set_option maxRecDepth 20000
section
def frBody (xs : List Cd) : List UInt8 := numB 1 xs.length ++ (xs.map Cd.bytes).flatten
def frBytes (xs : List Cd) : List UInt8 := frBody xs ++ numB 4 ((sumL (frBody xs) : Nat) : Int)
theorem flat_len (xs : List Cd) (hd : ∀ x ∈ xs, x.dt.length <= 1000) : (xs.map Cd.bytes).flatten.length <= xs.length * 1100 := by
  induction xs with
  | nil => simp
  | cons x xs ih =>
    have h1 := x.bytes_len
    have h2 := hd x List.mem_cons_self
    have h3 := ih (fun y hy => hd y (List.mem_cons_of_mem _ hy))
    simp only [List.map_cons, List.flatten_cons, List.length_append, List.length_cons]
    omega
theorem flat_take (xs : List Cd) (j : Nat) (x : Cd) (hx : xs[j]? = some x) : ((xs.take (j + 1)).map Cd.bytes).flatten = ((xs.take j).map Cd.bytes).flatten ++ x.bytes := by
  rw [List.take_add_one, hx]
  simp
set_option maxHeartbeats 2000000 in
theorem RFBytes_any {K : Nat -> Prop} (A : Option Addr) (n c : Nat) (xs : List Cd) (w : World) (h : CdsV K w A n xs) (hn : n <= 1000) (hd : ∀ x ∈ xs, x.dt.length <= 1000) :
    Calls Tryz.prog 16 #[.slice A n c] w (GotS w (frBytes xs)) := by
  have H := hi_ h
  have HL := hi_ h.len
  have HD := hi_ hd
  have C1 := hi_ (RNumS_any 1 (by decide) (by decide) n w)
  clear h hd
  go_enter Tryz.func16, Tryz.ntmps16
  go_wp2_with (go_at_call 29; have _t := C1; refine C1.out.mono ?_; rintro e w1 ⟨v1, rfl, ho1, hb1⟩; have O1 := hi_ (And.intro ho1 hb1); clear ho1 hb1 C1)
  go_loopw [3, 4] (fun bv iv wr => ∃ (j k : Nat) (ys : List UInt8), j <= n /\ iv = .int .i64 j /\ Hid (ys = numB 1 (n : Int) ++ ((xs.take j).map Cd.bytes).flatten /\ k = ys.length) /\ wr.ownsRow w.heap.size 5 1 bv k (cells ys) /\ Below w.heap.size w wr) (fun _ iv _ => n - (intOf iv).toNat)
  case atStart => exact ⟨0, 1, numB 1 n, Nat.zero_le _, rfl, hi_ ⟨by simp, by simp⟩, O1.out.1, O1.out.2⟩
  case round =>
    obtain ⟨j, k, ys, hj, rfl, hys, ho, hb⟩ := hrel
    have HBw := hi_ hb
    have HO := hi_ ho
    have hkb : k <= 1 + n * 1100 := by
      have h1 := flat_len (xs.take j) (fun x hx => HD.out x (List.mem_of_mem_take hx))
      have h2 := hys.out.2
      rw [hys.out.1] at h2
      simp only [List.length_append, numB_length, List.length_take] at h1 h2
      have h3 : min j xs.length * 1100 <= n * 1100 := Nat.mul_le_mul_right _ (by omega)
      omega
    by_cases hjn : j < n
    · obtain ⟨x, hx⟩ : ∃ x, xs[j]? = some x := ⟨_, List.getElem?_eq_getElem (by rw [HL.out]; exact hjn)⟩
      obtain ⟨b, o, PA, m, cc, hA, hlt, hc, hr, hmc⟩ := (H.out.below hb).cell hx
      have hm := HD.out x (List.mem_of_getElem? hx)
      have hm2 := hr.1
      have CB := hi_ (RBytesC_any x PA m cc wr hr (by omega))
      have H0 := hi_ hc
      have HX := hi_ (And.intro hx hm)
      subst hA
      clear hx hm hm2 hr hc hmc ho hb
      go_wp2_with (first
        | ((with_reducible refine wpList_ldCd (b := b) (off := o + j * 6) rfl (.tmp 17) rfl rfl H0.out ?_))
        | (go_at_call 30; refine CB.out.mono ?_; rintro e w2 ⟨A2, n2, c2, rfl, hr2, hc2, hb2⟩
           have R2 := hi_ (And.intro hr2 (And.intro hb2 (own_keep HO.out hb2)))
           have hn2 : n2 <= 1100 := by have := hr2.1; have := x.bytes_len; have := HX.out.2; omega
           clear hr2 hc2 hb2)
        | (at_builtin; refine wpList_app _ bytesT rfl (.tmp 14) (.tmp 19) rfl w.heap.size _ k _ rfl R2.out.2.2 A2 n2 c2 _ rfl R2.out.1 (by omega) (Nat.le_trans HBw.out.size R2.out.2.1.size) ?_; intro v3 w3 ho3 hb3
           rw [<- cells_append] at ho3
           have HO3 := hi_ ho3
           have HB3 := hi_ ((HBw.out.trans (R2.out.2.1.mono HBw.out.size)).trans hb3)
           clear ho3 hb3))
      go_roundw
      case rel => exact ⟨j + 1, _, _, hjn, by go_num, hi_ ⟨by rw [flat_take xs j x HX.out.1, <- List.append_assoc, <- hys.out.1], by have := R2.out.1.1; have := hys.out.2; rw [List.length_append]; omega⟩, HO3.out, HB3.out⟩
      case measure => simp [intOf]; omega
    · obtain rfl : j = n := Nat.le_antisymm hj (Nat.le_of_not_lt hjn)
      have hfin : ys = frBody xs := by rw [hys.out.1, List.take_of_length_le (Nat.le_of_eq HL.out)]; unfold frBody; rw [HL.out]
      have HF := hi_ hfin
      obtain ⟨B1, d1, rfl, _, _, hrd⟩ := Rd.of_own ho rfl
      have CO := hi_ (ROf_any B1 k d1 ys wr hrd (by omega))
      have CN := hi_ (RNumS_any 4 (by decide) (by decide) ((sumL ys : Nat) : Int) wr)
      have hsum : sumL ys < 4294967296 := sumL_lt ys
      obtain ⟨sm, hsm⟩ : ∃ q, q = sumL ys := ⟨_, rfl⟩
      rw [<- hsm] at CO CN hsum
      have HSM := hi_ hsm
      have hcv : IntKind.i64.wrap (sm : Int) = sm := IntWalk.i64_in _ (by omega)
      clear hfin hrd hsm hb ho
      go_wp2_with (first
        | (go_at_call 31; refine CO.out.mono ?_; rintro e w' ⟨rfl, rfl⟩)
        | (go_at_call 29; refine CN.out.mono ?_; rintro e w2 ⟨v2, rfl, ho2, hb2⟩
           obtain ⟨A2, c2, rfl, _, _, hr2⟩ := Rd.of_own ho2 rfl
           have R2 := hi_ (And.intro hr2 (And.intro hb2 (own_keep HO.out hb2)))
           clear hr2 ho2 hb2)
        | (at_builtin; refine wpList_app _ bytesT rfl (.tmp 21) (.tmp 25) rfl w.heap.size _ k _ rfl R2.out.2.2 A2 4 c2 _ rfl R2.out.1 (by omega) (Nat.le_trans HBw.out.size R2.out.2.1.size) ?_; intro v3 w3 ho3 hb3
           rw [<- cells_append] at ho3
           have HO3 := hi_ ho3
           have HB3 := hi_ ((HBw.out.trans (R2.out.2.1.mono HBw.out.size)).trans hb3)
           clear ho3 hb3))
      go_ret
      have hO := HO3.out
      rw [HSM.out, HF.out] at hO
      exact GotS.own hO HB3.out
end
end Go.Proofs.YthabmlbmlncbmaaGreat
namespace Go.Proofs.YthabmlbmlncbmaaGreat
open Go.RowKit
set_option linter.unusedVariables false
def getsL (inp : List UInt8) : Nat -> Nat -> List Cd × Int × Nat
  | 0, a => ([], 0, a)
  | k + 1, a => if (getCd (inp.drop a)).2.2 ≠ 0 then ([], (getCd (inp.drop a)).2.2, a)
    else ((getCd (inp.drop a)).1 :: (getsL inp k (a + (getCd (inp.drop a)).2.1)).1, (getsL inp k (a + (getCd (inp.drop a)).2.1)).2.1, (getsL inp k (a + (getCd (inp.drop a)).2.1)).2.2)
def frGet (l : List UInt8) : List Cd × Int :=
  if l.length < 5 then ([], 12)
  else if numB 4 ((sumL (l.take (l.length - 4)) : Nat) : Int) ≠ l.drop (l.length - 4) then ([], 11)
  else if 64 < (l.getD 0 0).toNat then ([], 13)
  else if (getsL (l.take (l.length - 4)) (l.getD 0 0).toNat 1).2.1 ≠ 0 then ([], (getsL (l.take (l.length - 4)) (l.getD 0 0).toNat 1).2.1)
  else if (getsL (l.take (l.length - 4)) (l.getD 0 0).toNat 1).2.2 < l.length - 4 then ([], 11)
  else ((getsL (l.take (l.length - 4)) (l.getD 0 0).toNat 1).1, 0)
theorem getCd_le (l : List UInt8) (h : (getCd l).2.2 = 0) : (getCd l).2.1 <= l.length := (getCd_back l h).2.1
theorem getCd_ext (l t : List UInt8) (h : (getCd l).2.2 = 0) : getCd (l ++ t) = getCd l := by
  unfold getCd at h ⊢
  have hL : (l ++ t).length = l.length + t.length := List.length_append
  by_cases h0 : l.length = 0
  · rw [if_pos h0] at h; exact absurd h (by decide)
  have hd0 : (l ++ t).getD 0 0 = l.getD 0 0 := by simp only [List.getD_eq_getElem?_getD, List.getElem?_append_left (show 0 < l.length by omega)]
  have P : ∀ i j, i + j <= l.length -> ((l ++ t).drop i).take j = (l.drop i).take j := fun i j hij => by
    rw [List.drop_append_of_le_length (by omega), List.take_append_of_le_length (by simp; omega)]
  have g0 : ¬ l.length + t.length = 0 := by omega
  rw [hd0, hL]
  simp only [if_neg h0, if_neg g0] at h ⊢
  by_cases h1 : 3 < (l.getD 0 0).toNat
  · rw [if_pos h1] at h; exact absurd h (by decide)
  simp only [if_neg h1] at h ⊢
  by_cases h2 : (l.getD 0 0).toNat = 0
  · simp only [if_pos h2]
  simp only [if_neg h2] at h ⊢
  by_cases h3 : l.length = 1
  · rw [if_pos h3] at h; exact absurd h (by decide)
  have g3 : ¬ l.length + t.length = 1 := by omega
  have hd1 : (l ++ t).getD 1 0 = l.getD 1 0 := by simp only [List.getD_eq_getElem?_getD, List.getElem?_append_left (show 1 < l.length by omega)]
  simp only [if_neg h3, if_neg g3, hd1] at h ⊢
  by_cases h4 : 1 < (l.getD 1 0).toNat
  · rw [if_pos h4] at h; exact absurd h (by decide)
  simp only [if_neg h4] at h ⊢
  obtain ⟨e0, he0⟩ : ∃ e0, e0 = if (l.getD 1 0).toNat = 1 then 10 else 18 := ⟨_, rfl⟩
  simp only [<- he0] at h ⊢
  have he10 : 10 <= e0 := by rw [he0]; split <;> omega
  have gn : e0 <= l.length -> (if (l.getD 1 0).toNat = 1 then (0 : Int) else getV (((l ++ t).drop 10).take 8)) = (if (l.getD 1 0).toNat = 1 then 0 else getV ((l.drop 10).take 8)) := fun hle => by
    by_cases hb : (l.getD 1 0).toNat = 1
    · rw [if_pos hb, if_pos hb]
    · rw [if_neg hb] at he0
      rw [if_neg hb, if_neg hb, P 10 8 (by omega)]
  by_cases h5 : (l.getD 0 0).toNat = 1
  · simp only [if_pos h5] at h ⊢
    by_cases h6 : l.length < e0
    · rw [if_pos h6] at h; exact absurd h (by decide)
    · rw [if_neg h6, if_neg (show ¬ l.length + t.length < e0 by omega), gn (by omega), P 2 8 (by omega)]
  simp only [if_neg h5] at h ⊢
  by_cases h7 : (l.getD 0 0).toNat = 3
  · simp only [if_pos h7] at h ⊢
    by_cases h6 : l.length < e0 + 8
    · rw [if_pos h6] at h; exact absurd h (by decide)
    · rw [if_neg h6, if_neg (show ¬ l.length + t.length < e0 + 8 by omega), gn (by omega), P 2 8 (by omega), P e0 8 (by omega)]
  simp only [if_neg h7] at h ⊢
  by_cases h8 : l.length < e0 + 10
  · rw [if_pos h8] at h; exact absurd h (by decide)
  have g8 : ¬ l.length + t.length < e0 + 10 := by omega
  rw [gn (by omega), P 2 8 (by omega), P e0 8 (by omega), P (e0 + 8) 2 (by omega)]
  simp only [if_neg h8, if_neg g8] at h ⊢
  obtain ⟨m, hm⟩ : ∃ m, m = leN ((l.drop (e0 + 8)).take 2) := ⟨_, rfl⟩
  simp only [<- hm] at h ⊢
  by_cases h9 : 64 < m
  · rw [if_pos h9] at h; exact absurd h (by decide)
  simp only [if_neg h9] at h ⊢
  by_cases h10 : l.length < e0 + 10 + m
  · rw [if_pos h10] at h; exact absurd h (by decide)
  · rw [if_neg h10, if_neg (show ¬ l.length + t.length < e0 + 10 + m by omega), P (e0 + 10) m (by omega)]
theorem getCd_pre (x : Cd) (t : List UInt8) (hg : getCd x.bytes = (x.plain, x.bytes.length, 0)) : getCd (x.bytes ++ t) = (x.plain, x.bytes.length, 0) := by
  rw [getCd_ext x.bytes t (by rw [hg]), hg]
theorem getsL_put (inp : List UInt8) : ∀ (xs : List Cd) (a : Nat) (t : List UInt8), inp.drop a = (xs.map Cd.bytes).flatten ++ t -> (∀ x ∈ xs, x.check = 0 /\ x.wf) -> a <= inp.length ->
    getsL inp xs.length a = (xs.map Cd.plain, 0, a + ((xs.map Cd.bytes).flatten).length)
  | [], a, t, h, hx, ha => by simp [getsL]
  | x :: xs, a, t, h, hx, ha => by
    obtain ⟨hc, hw⟩ := hx x List.mem_cons_self
    have hd : 0 <= x.d /\ x.d <= 3 := Classical.byContradiction fun h => by unfold Cd.check at hc; rw [if_neg h] at hc; exact absurd hc (by decide)
    have hl : x.dt.length <= 64 := Classical.byContradiction fun h => by unfold Cd.check at hc; rw [if_pos hd, if_neg h] at hc; exact absurd hc (by decide)
    have hg := getCd_put x hd hl hw
    simp only [List.map_cons, List.flatten_cons, List.append_assoc] at h
    have hg2 : getCd (inp.drop a) = (x.plain, x.bytes.length, 0) := by rw [h]; exact getCd_pre x _ hg
    have hlen : (inp.drop a).length = x.bytes.length + ((xs.map Cd.bytes).flatten ++ t).length := by rw [h, List.length_append]
    rw [List.length_drop] at hlen
    have ih := getsL_put inp xs (a + x.bytes.length) t (by rw [<- List.drop_drop, h, List.drop_left' rfl]) (fun y hy => hx y (List.mem_cons_of_mem _ hy)) (by omega)
    rw [List.length_cons]
    unfold getsL
    rw [hg2]
    simp only [ne_eq, not_true_eq_false, if_false, ih, List.map_cons, List.flatten_cons, List.length_append, Prod.mk.injEq, true_and]
    omega
theorem frGet_put (xs : List Cd) (h64 : xs.length <= 64) (hx : ∀ x ∈ xs, x.check = 0 /\ x.wf) : frGet (frBytes xs) = (xs.map Cd.plain, 0) := by
  have hbl : (frBytes xs).length = (frBody xs).length + 4 := by unfold frBytes; simp
  have hb0 : (frBody xs).length = 1 + ((xs.map Cd.bytes).flatten).length := by unfold frBody; simp
  have ht : (frBytes xs).take ((frBytes xs).length - 4) = frBody xs := by rw [hbl]; unfold frBytes; exact List.take_left' (by omega)
  have hdr : (frBytes xs).drop ((frBytes xs).length - 4) = numB 4 ((sumL (frBody xs) : Nat) : Int) := by rw [hbl]; unfold frBytes; exact List.drop_left' (by omega)
  have h0 : ((frBytes xs).getD 0 0).toNat = xs.length := by
    unfold frBytes frBody
    rw [numB_0 _ (by omega)]
    simp
    omega
  have hd1 : (frBody xs).drop 1 = (xs.map Cd.bytes).flatten ++ [] := by
    unfold frBody
    rw [List.drop_left' (by simp), List.append_nil]
  have hg := getsL_put (frBody xs) xs 1 [] hd1 hx (by omega)
  unfold frGet
  rw [if_neg (by omega), ht, hdr, if_neg (by simp), h0, if_neg (by omega), hg]
  simp only [ne_eq, not_true_eq_false, if_false]
  rw [if_neg (by omega)]
end Go.Proofs.YthabmlbmlncbmaaGreat
namespace Go.Proofs.YthabmlbmlncbmaaGreat
open Go.RowKit
set_option linter.unusedVariables false
set_option linter.unusedSimpArgs false
set_option maxRecDepth 20000
end Go.Proofs.YthabmlbmlncbmaaGreat
namespace Go.Proofs.YthabmlbmlncbmaaGreat
open Go.RowKit
set_option linter.unusedVariables false
set_option linter.unusedSimpArgs false
set_option maxRecDepth 20000
def FGotP (r : List Cd × Int) (w : World) (e : Ending) (w' : World) : Prop := ∃ A n c, e = .returned (.tuple #[.slice A n c, .int .i64 r.2]) /\ CdsV (fun _ => True) w' A n r.1 /\ n <= c /\ Below w.heap.size w w'
def FGetC : Prop := ∀ (A : Option Addr) (n c : Nat) (l : List UInt8) (w : World), Rd w A n l -> n <= 100000 -> n <= c -> c <= maxLen -> Calls Tryz.prog 57 #[.slice A n c] w (FGotP (frGet l) w)
theorem chkL_zero : ∀ (xs : List Cd), chkL xs = 0 -> ∀ x ∈ xs, x.check = 0
  | [], _, _, h => absurd h List.not_mem_nil
  | x :: xs, h, y, hy => by
    unfold chkL at h
    by_cases hx : x.check = 0
    · rw [if_neg (fun e => e hx)] at h
      rcases List.mem_cons.1 hy with rfl | hy
      · exact hx
      · exact chkL_zero xs h y hy
    · rw [if_pos hx] at h
      exact absurd h hx
section
variable (A : Option Addr) (n c : Nat) (xs : List Cd) (w : World)
end
end Go.Proofs.YthabmlbmlncbmaaGreat
namespace Go.Proofs.YthabmlbmlncbmaaGreat
open Go.RowKit
set_option linter.unusedVariables false
set_option maxRecDepth 20000
theorem CdL.new (w : World) (x : Cd) (A : Option Addr) (n c : Nat) : CdL (w.alloc (.cells (x.cs A n c) 61)) w.heap.size 0 x A n c := by
  have h := CdAt.c0 (w0 := w) (w := w.alloc (.cells (x.cs A n c) 61)) (g := w.heap.size) (x := x) (A := A) (n := n) (c := c)
  have r : Rec 61 (w.alloc (.cells (x.cs A n c) 61)) w.heap.size (x.cs A n c) := Rec.new w _ _
  exact ⟨r.at_ 0, r.at_ 1, r.at_ 2, r.at_ 3, r.at_ 4, r.at_ 5⟩
section
variable {K : Nat -> Prop} (A : Option Addr) (n c : Nat) (xs : List Cd) (w : World)
end
theorem fsum_any (A : Option Addr) (n c : Nat) (l : List UInt8) (w : World) (h : Rd w A n l) (hn : n <= 1099511627776) :
    Calls Tryz.prog 67 #[.slice A n c] w fun e w' => ∃ v, e = .returned v /\ w'.ownsRow w.heap.size 5 1 v 4 (cells (numB 4 ((sumL l : Nat) : Int))) /\ Below w.heap.size w w' := by
  have hsum := sumL_lt l
  obtain ⟨w1, hw1⟩ : ∃ w1, w1 = w.alloc (.cells #[.slice A n c] 42) := ⟨_, rfl⟩
  have CO := Of_one A n c l w h hn w.heap.size rfl 42 (0, 0)
  rw [<- hw1] at CO
  obtain ⟨sm, hsm⟩ : ∃ s, s = sumL l := ⟨_, rfl⟩
  rw [<- hsm] at CO hsum ⊢
  have CO2 := hi_ CO
  have hcv : IntKind.i64.wrap (sm : Int) = sm := IntWalk.i64_in _ (by omega)
  have hb1 : Below w.heap.size w w1 := by rw [hw1]; exact (Below.refl _ _).alloc (Nat.le_refl _) _
  have CP := hi_ (Put_any none 0 0 [] 4 (sm : Int) w1 (Rd.nil w1 none) (by decide))
  have HB1 := hi_ hb1
  clear CO hsm h hb1
  go_enter Tryz.func67, Tryz.ntmps67
  go_wp2_with (first
    | (rw [<- hw1]; clear hw1)
    | (go_at_call 81; refine CO2.out.mono ?_; rintro e w' ⟨rfl, hw'⟩; subst hw')
    | (go_at_call 80; refine CP.out.mono ?_; rintro e w2 ⟨v, rfl, ho, hb2⟩))
  go_ret
  rw [show wd 4 = 4 from rfl, Nat.zero_add, List.nil_append] at ho
  exact ⟨_, rfl, own_mono ho HB1.out.size, HB1.out.trans (hb2.mono HB1.out.size)⟩
end Go.Proofs.YthabmlbmlncbmaaGreat
namespace Go.Proofs.YthabmlbmlncbmaaGreat
open Go.RowKit
set_option linter.unusedVariables false
set_option maxRecDepth 20000
end Go.Proofs.YthabmlbmlncbmaaGreat
