/- CdG, CrcM, Crc1 -/
import Derived.Test.YtlinafnhhnkjnaaQf5
import Derived.Laws.BitsAllLaws
import Derived.Laws.BitsLemmas
namespace Go.Proofs.Ytlinafnhhnkjnaa
open Go.RowKit
set_option linter.unusedVariables false
set_option maxRecDepth 20000

theorem numB_11 : numB 1 1 = [1] := by decide
theorem numB_10 : numB 1 0 = [0] := by decide
theorem CdAt.low {w0 w w' : World} {g : Nat} {x : Cd} {A : Option Addr} {n c B : Nat} (h : CdAt w0 w g x A n c) (hb : Below B w w') (hgB : g < B) (hw : w0.heap.size ≤ B) (hA : ∀ b o, A = some ⟨b, o, none⟩ → 0 < n → b < B) : CdAt w0 w' g x A n c :=
  ⟨h.r.below hb hgB, h.rd.below' hb (fun hn => by obtain ⟨b, o, e, _⟩ := h.rd.2 hn; exact ⟨b, o, e, hA b o e hn⟩), h.bel.trans (hb.mono hw), h.hg⟩
theorem RNumS_any (width : Nat) (h1 : 1 ≤ width) (h8 : width ≤ 8) (x : Int) (w : World) : Calls Try.prog 19 #[.int .i64 width, .int .i64 x] w fun e w' => ∃ v, e = .returned v ∧ w'.ownsRow w.heap.size 5 1 v width (cells (numB width x)) ∧ Below w.heap.size w w' := by
  have hw : wd (width : Int) = width := by have := wd_cast (width : Int); omega
  have h := Num_any width x w
  rw [hw] at h
  exact h
theorem Rd.lo' {w : World} {A : Option Addr} {n : Nat} {l : List UInt8} (h : Rd w A n l) (b o : Nat) (e : A = some ⟨b, o, none⟩) (hp : 0 < n) : b < w.heap.size := by
  obtain ⟨b', o', e', hlt, _⟩ := h.2 hp
  rw [e] at e'
  injection e' with e'
  injection e' with e1 e2
  omega

theorem RBytes_o (x : Cd) (hd : x.d < 0 ∨ 3 < x.d) (A : Option Addr) (n c : Nat) (w : World) (h : Rd w A n x.dt) :
    Calls Try.prog 28 #[.agg (x.cs A n c)] w (GotS w x.bytes) := by
  obtain ⟨w1, hw1⟩ : ∃ w1, w1 = w.alloc (.cells (x.cs A n c) 47) := ⟨_, rfl⟩
  have K1 : CdAt w w1 w.heap.size x A n c := by rw [hw1]; exact CdAt.new w x A n c h
  have HX := Lib.hid (show x.bytes = [255] by simp [Cd.bytes, show ¬ x.d = 0 by omega, show ¬ x.d = 1 by omega, show ¬ x.d = 2 by omega, show ¬ x.d = 3 by omega])
  have c0 := K1.c0
  have HK := Lib.hid K1
  obtain ⟨d, e⟩ : ∃ d, d = x.d := ⟨_, rfl⟩
  rw [← e] at c0 hd
  clear h K1 e
  rcases hd with hd | hd
  all_goals
    go_enter Try.func28, Try.ntmps28
    go_wp2_with (rw [← hw1]; clear hw1)
    go_ret
    rw [HX.out]
    exact ⟨_, _, _, rfl, Rd.new w1 5 [255] (0, 0), Nat.le_refl _, HK.out.bel.alloc HK.out.bel.size _⟩

set_option maxHeartbeats 2000000 in
theorem RBytes_0f (ix gn cp : Int) (dt : List UInt8) (A : Option Addr) (n c : Nat) (w : World) (h : Rd w A n dt) (hn : n ≤ 1000000) :
    Calls Try.prog 28 #[.agg (Cd.cs ⟨0, false, ix, gn, cp, dt⟩ A n c)] w (GotS w (Cd.mk 0 false ix gn cp dt).bytes) := by
  obtain ⟨w1, hw1⟩ : ∃ w1, w1 = w.alloc (.cells (Cd.cs ⟨0, false, ix, gn, cp, dt⟩ A n c) 47) := ⟨_, rfl⟩
  have K1 : CdAt w w1 w.heap.size ⟨0, false, ix, gn, cp, dt⟩ A n c := by rw [hw1]; exact CdAt.new w ⟨0, false, ix, gn, cp, dt⟩ A n c h
  have HA := Lib.hid (fun b o (e : A = some ⟨b, o, none⟩) hp => Nat.lt_trans (h.lo' b o e hp) K1.r.lt)
  have HLT := Lib.hid (And.intro K1.r.lt K1.bel.size)
  have c0 := K1.c0
  have CN1 := Lib.hid (RNumS_any 1 (by decide) (by decide) 0 w1)
  have HX := Lib.hid (show (Cd.mk 0 false ix gn cp dt).bytes = numB 1 0 by rfl)
  have HK1 := Lib.hid K1
  clear h K1
  go_enter Try.func28, Try.ntmps28
  go_wp2_with (first
    | (rw [← hw1]; clear hw1)
    | (go_at_call 19; have _t := CN1; refine CN1.out.mono ?_; rintro e w2 ⟨v2, rfl, ho2, hb2⟩
       have K2 := HK1.out.next hb2
       have q0 := K2.c0
       have HK2 := Lib.hid K2
       have HO2 := Lib.hid (And.intro ho2 hb2.size)
       clear K2 ho2 hb2 CN1 c0))
  go_ret
  rw [HX.out]
  exact GotS.own (own_mono HO2.out.1 HLT.out.2) HK2.out.bel

set_option maxHeartbeats 2000000 in
theorem RBytes_0t (ix gn cp : Int) (dt : List UInt8) (A : Option Addr) (n c : Nat) (w : World) (h : Rd w A n dt) (hn : n ≤ 1000000) :
    Calls Try.prog 28 #[.agg (Cd.cs ⟨0, true, ix, gn, cp, dt⟩ A n c)] w (GotS w (Cd.mk 0 true ix gn cp dt).bytes) := by
  obtain ⟨w1, hw1⟩ : ∃ w1, w1 = w.alloc (.cells (Cd.cs ⟨0, true, ix, gn, cp, dt⟩ A n c) 47) := ⟨_, rfl⟩
  have K1 : CdAt w w1 w.heap.size ⟨0, true, ix, gn, cp, dt⟩ A n c := by rw [hw1]; exact CdAt.new w ⟨0, true, ix, gn, cp, dt⟩ A n c h
  have HA := Lib.hid (fun b o (e : A = some ⟨b, o, none⟩) hp => Nat.lt_trans (h.lo' b o e hp) K1.r.lt)
  have HLT := Lib.hid (And.intro K1.r.lt K1.bel.size)
  have c0 := K1.c0
  have CN1 := Lib.hid (RNumS_any 1 (by decide) (by decide) 0 w1)
  have HX := Lib.hid (show (Cd.mk 0 true ix gn cp dt).bytes = numB 1 0 by rfl)
  have HK1 := Lib.hid K1
  clear h K1
  go_enter Try.func28, Try.ntmps28
  go_wp2_with (first
    | (rw [← hw1]; clear hw1)
    | (go_at_call 19; have _t := CN1; refine CN1.out.mono ?_; rintro e w2 ⟨v2, rfl, ho2, hb2⟩
       have K2 := HK1.out.next hb2
       have q0 := K2.c0
       have HK2 := Lib.hid K2
       have HO2 := Lib.hid (And.intro ho2 hb2.size)
       clear K2 ho2 hb2 CN1 c0))
  go_ret
  rw [HX.out]
  exact GotS.own (own_mono HO2.out.1 HLT.out.2) HK2.out.bel

set_option maxHeartbeats 2000000 in
theorem RBytes_1f (ix gn cp : Int) (dt : List UInt8) (A : Option Addr) (n c : Nat) (w : World) (h : Rd w A n dt) (hn : n ≤ 1000000) :
    Calls Try.prog 28 #[.agg (Cd.cs ⟨1, false, ix, gn, cp, dt⟩ A n c)] w (GotS w (Cd.mk 1 false ix gn cp dt).bytes) := by
  obtain ⟨w1, hw1⟩ : ∃ w1, w1 = w.alloc (.cells (Cd.cs ⟨1, false, ix, gn, cp, dt⟩ A n c) 47) := ⟨_, rfl⟩
  have K1 : CdAt w w1 w.heap.size ⟨1, false, ix, gn, cp, dt⟩ A n c := by rw [hw1]; exact CdAt.new w ⟨1, false, ix, gn, cp, dt⟩ A n c h
  have HA := Lib.hid (fun b o (e : A = some ⟨b, o, none⟩) hp => Nat.lt_trans (h.lo' b o e hp) K1.r.lt)
  have HLT := Lib.hid (And.intro K1.r.lt K1.bel.size)
  have c0 := K1.c0
  have c1 := K1.c1
  have CN1 := Lib.hid (RNumS_any 1 (by decide) (by decide) 1 w1)
  have HX := Lib.hid (show (Cd.mk 1 false ix gn cp dt).bytes = numB 1 1 ++ [0] ++ numB 8 ix ++ numB 8 gn by simp [Cd.bytes, Cd.tgt, numB_10])
  have HK1 := Lib.hid K1
  clear h K1
  go_enter Try.func28, Try.ntmps28
  go_wp2_with (first
    | (rw [← hw1]; clear hw1)
    | (go_at_call 19; have _t := CN1; refine CN1.out.mono ?_; rintro e w2 ⟨v2, rfl, ho2, hb2⟩
       have K2 := HK1.out.next hb2
       have q0 := K2.c0; have q1 := K2.c1; have q2 := K2.c2; have q3 := K2.c3; have q4 := K2.c4; have q5 := K2.c5
       have HK2 := Lib.hid K2
       have HO2 := Lib.hid (And.intro ho2 hb2.size)
       clear K2 ho2 hb2 CN1 c0 c1)
    | (at_builtin; have _t := HO2; refine wpList_app _ bytesT rfl (.tmp 31) (.tmp 32) rfl w1.heap.size v2 _ _ rfl (own_keep HO2.out.1 ((Below.refl _ _).alloc (Nat.le_refl _) _)) _ 1 1 [0] rfl (Rd.new w2 5 [0] (0, 0)) (by omega) (by have := HO2.out.2; simp; omega) ?_; intro v3 w3 ho3 hb3
       rw [← cells_append] at ho3
       have hal : Below w2.heap.size w2 (w2.alloc (.cells #[.int .u8 0] 5)) := (Below.refl _ _).alloc (Nat.le_refl _) _
       have K3 := (HK2.out.next hal).low hb3 HLT.out.1 HLT.out.2 HA.out
       have q0 := K3.c0; have q1 := K3.c1; have q2 := K3.c2; have q3 := K3.c3; have q4 := K3.c4; have q5 := K3.c5
       have HK3 := Lib.hid K3
       have HO3 := Lib.hid (And.intro ho3 (Nat.le_trans HO2.out.2 (Nat.le_trans hal.size hb3.size)))
       have CN3 := Lib.hid (RNumS_any 8 (by decide) (by decide) ix w3)
       clear K3 ho3 hb3 hal HO2)
    | (go_at_call 19; have _t := CN3; refine CN3.out.mono ?_; rintro e w4 ⟨v4, rfl, ho4, hb4⟩
       obtain ⟨A4, cc4, rfl, _, _, hr4⟩ := Rd.of_own ho4 rfl
       have HK4 := Lib.hid (HK3.out.next hb4)
       have HO4 := Lib.hid (And.intro (own_keep HO3.out.1 hb4) (Nat.le_trans HO3.out.2 hb4.size))
       have HR4 := Lib.hid hr4
       clear hr4 ho4 hb4 CN3)
    | (at_builtin; have _t := HR4; refine wpList_app _ bytesT rfl (.tmp 34) (.tmp 38) rfl w1.heap.size v3 _ _ rfl HO4.out.1 A4 8 cc4 _ rfl HR4.out (by omega) HO4.out.2 ?_; intro v5 w5 ho5 hb5
       rw [← cells_append] at ho5
       have K5 := HK4.out.low hb5 HLT.out.1 HLT.out.2 HA.out
       have q0 := K5.c0; have q1 := K5.c1; have q2 := K5.c2; have q3 := K5.c3; have q4 := K5.c4; have q5 := K5.c5
       have HK5 := Lib.hid K5
       have HO5 := Lib.hid (And.intro ho5 (Nat.le_trans HO4.out.2 hb5.size))
       have CN5 := Lib.hid (RNumS_any 8 (by decide) (by decide) gn w5)
       clear K5 ho5 hb5 HR4)
    | (go_at_call 19; have _t := CN5; refine CN5.out.mono ?_; rintro e w6 ⟨v6, rfl, ho6, hb6⟩
       obtain ⟨A6, cc6, rfl, _, _, hr6⟩ := Rd.of_own ho6 rfl
       have HK6 := Lib.hid (HK5.out.next hb6)
       have HO6 := Lib.hid (And.intro (own_keep HO5.out.1 hb6) (Nat.le_trans HO5.out.2 hb6.size))
       have HR6 := Lib.hid hr6
       clear hr6 ho6 hb6 CN5)
    | (at_builtin; have _t := HR6; refine wpList_app _ bytesT rfl (.tmp 40) (.tmp 44) rfl w1.heap.size v5 _ _ rfl HO6.out.1 A6 8 cc6 _ rfl HR6.out (by omega) HO6.out.2 ?_; intro v7 w7 ho7 hb7
       rw [← cells_append] at ho7
       have K7 := HK6.out.low hb7 HLT.out.1 HLT.out.2 HA.out
       have q0 := K7.c0; have q1 := K7.c1; have q2 := K7.c2; have q3 := K7.c3; have q4 := K7.c4; have q5 := K7.c5
       have HK7 := Lib.hid K7
       have HO7 := Lib.hid (And.intro ho7 (Nat.le_trans HO6.out.2 hb7.size))
       clear K7 ho7 hb7 HR6))
  go_ret
  rw [HX.out]
  exact GotS.own (own_mono HO7.out.1 HLT.out.2) HK7.out.bel

set_option maxHeartbeats 2000000 in
theorem RBytes_1t (ix gn cp : Int) (dt : List UInt8) (A : Option Addr) (n c : Nat) (w : World) (h : Rd w A n dt) (hn : n ≤ 1000000) :
    Calls Try.prog 28 #[.agg (Cd.cs ⟨1, true, ix, gn, cp, dt⟩ A n c)] w (GotS w (Cd.mk 1 true ix gn cp dt).bytes) := by
  obtain ⟨w1, hw1⟩ : ∃ w1, w1 = w.alloc (.cells (Cd.cs ⟨1, true, ix, gn, cp, dt⟩ A n c) 47) := ⟨_, rfl⟩
  have K1 : CdAt w w1 w.heap.size ⟨1, true, ix, gn, cp, dt⟩ A n c := by rw [hw1]; exact CdAt.new w ⟨1, true, ix, gn, cp, dt⟩ A n c h
  have HA := Lib.hid (fun b o (e : A = some ⟨b, o, none⟩) hp => Nat.lt_trans (h.lo' b o e hp) K1.r.lt)
  have HLT := Lib.hid (And.intro K1.r.lt K1.bel.size)
  have c0 := K1.c0
  have c1 := K1.c1
  have CN1 := Lib.hid (RNumS_any 1 (by decide) (by decide) 1 w1)
  have HX := Lib.hid (show (Cd.mk 1 true ix gn cp dt).bytes = numB 1 1 ++ [1] ++ numB 8 ix by simp [Cd.bytes, Cd.tgt, numB_11])
  have HK1 := Lib.hid K1
  clear h K1
  go_enter Try.func28, Try.ntmps28
  go_wp2_with (first
    | (rw [← hw1]; clear hw1)
    | (go_at_call 19; have _t := CN1; refine CN1.out.mono ?_; rintro e w2 ⟨v2, rfl, ho2, hb2⟩
       have K2 := HK1.out.next hb2
       have q0 := K2.c0; have q1 := K2.c1; have q2 := K2.c2; have q3 := K2.c3; have q4 := K2.c4; have q5 := K2.c5
       have HK2 := Lib.hid K2
       have HO2 := Lib.hid (And.intro ho2 hb2.size)
       clear K2 ho2 hb2 CN1 c0 c1)
    | (at_builtin; have _t := HO2; refine wpList_app _ bytesT rfl (.tmp 22) (.tmp 23) rfl w1.heap.size v2 _ _ rfl (own_keep HO2.out.1 ((Below.refl _ _).alloc (Nat.le_refl _) _)) _ 1 1 [1] rfl (Rd.new w2 5 [1] (0, 0)) (by omega) (by have := HO2.out.2; simp; omega) ?_; intro v3 w3 ho3 hb3
       rw [← cells_append] at ho3
       have hal : Below w2.heap.size w2 (w2.alloc (.cells #[.int .u8 1] 5)) := (Below.refl _ _).alloc (Nat.le_refl _) _
       have K3 := (HK2.out.next hal).low hb3 HLT.out.1 HLT.out.2 HA.out
       have q0 := K3.c0; have q1 := K3.c1; have q2 := K3.c2; have q3 := K3.c3; have q4 := K3.c4; have q5 := K3.c5
       have HK3 := Lib.hid K3
       have HO3 := Lib.hid (And.intro ho3 (Nat.le_trans HO2.out.2 (Nat.le_trans hal.size hb3.size)))
       have CN3 := Lib.hid (RNumS_any 8 (by decide) (by decide) ix w3)
       clear K3 ho3 hb3 hal HO2)
    | (go_at_call 19; have _t := CN3; refine CN3.out.mono ?_; rintro e w4 ⟨v4, rfl, ho4, hb4⟩
       obtain ⟨A4, cc4, rfl, _, _, hr4⟩ := Rd.of_own ho4 rfl
       have HK4 := Lib.hid (HK3.out.next hb4)
       have HO4 := Lib.hid (And.intro (own_keep HO3.out.1 hb4) (Nat.le_trans HO3.out.2 hb4.size))
       have HR4 := Lib.hid hr4
       clear hr4 ho4 hb4 CN3)
    | (at_builtin; have _t := HR4; refine wpList_app _ bytesT rfl (.tmp 25) (.tmp 29) rfl w1.heap.size v3 _ _ rfl HO4.out.1 A4 8 cc4 _ rfl HR4.out (by omega) HO4.out.2 ?_; intro v5 w5 ho5 hb5
       rw [← cells_append] at ho5
       have K5 := HK4.out.low hb5 HLT.out.1 HLT.out.2 HA.out
       have q0 := K5.c0; have q1 := K5.c1; have q2 := K5.c2; have q3 := K5.c3; have q4 := K5.c4; have q5 := K5.c5
       have HK5 := Lib.hid K5
       have HO5 := Lib.hid (And.intro ho5 (Nat.le_trans HO4.out.2 hb5.size))
       clear K5 ho5 hb5 HR4))
  go_ret
  rw [HX.out]
  exact GotS.own (own_mono HO5.out.1 HLT.out.2) HK5.out.bel

set_option maxHeartbeats 2000000 in
theorem RBytes_2f (ix gn cp : Int) (dt : List UInt8) (A : Option Addr) (n c : Nat) (w : World) (h : Rd w A n dt) (hn : n ≤ 1000000) :
    Calls Try.prog 28 #[.agg (Cd.cs ⟨2, false, ix, gn, cp, dt⟩ A n c)] w (GotS w (Cd.mk 2 false ix gn cp dt).bytes) := by
  obtain ⟨w1, hw1⟩ : ∃ w1, w1 = w.alloc (.cells (Cd.cs ⟨2, false, ix, gn, cp, dt⟩ A n c) 47) := ⟨_, rfl⟩
  have K1 : CdAt w w1 w.heap.size ⟨2, false, ix, gn, cp, dt⟩ A n c := by rw [hw1]; exact CdAt.new w ⟨2, false, ix, gn, cp, dt⟩ A n c h
  have HA := Lib.hid (fun b o (e : A = some ⟨b, o, none⟩) hp => Nat.lt_trans (h.lo' b o e hp) K1.r.lt)
  have HLT := Lib.hid (And.intro K1.r.lt K1.bel.size)
  have c0 := K1.c0
  have c1 := K1.c1
  have CN1 := Lib.hid (RNumS_any 1 (by decide) (by decide) 2 w1)
  have HX := Lib.hid (show (Cd.mk 2 false ix gn cp dt).bytes = numB 1 2 ++ [0] ++ numB 8 ix ++ numB 8 gn ++ numB 8 cp ++ numB 2 n ++ dt by have e : (n : Int) = (dt.length : Nat) := (by rw [h.1]); rw [e]; simp [Cd.bytes, Cd.tgt, numB_10])
  have HK1 := Lib.hid K1
  clear h K1
  go_enter Try.func28, Try.ntmps28
  go_wp2_with (first
    | (rw [← hw1]; clear hw1)
    | (go_at_call 19; have _t := CN1; refine CN1.out.mono ?_; rintro e w2 ⟨v2, rfl, ho2, hb2⟩
       have K2 := HK1.out.next hb2
       have q0 := K2.c0; have q1 := K2.c1; have q2 := K2.c2; have q3 := K2.c3; have q4 := K2.c4; have q5 := K2.c5
       have HK2 := Lib.hid K2
       have HO2 := Lib.hid (And.intro ho2 hb2.size)
       clear K2 ho2 hb2 CN1 c0 c1)
    | (at_builtin; have _t := HO2; refine wpList_app _ bytesT rfl (.tmp 31) (.tmp 32) rfl w1.heap.size v2 _ _ rfl (own_keep HO2.out.1 ((Below.refl _ _).alloc (Nat.le_refl _) _)) _ 1 1 [0] rfl (Rd.new w2 5 [0] (0, 0)) (by omega) (by have := HO2.out.2; simp; omega) ?_; intro v3 w3 ho3 hb3
       rw [← cells_append] at ho3
       have hal : Below w2.heap.size w2 (w2.alloc (.cells #[.int .u8 0] 5)) := (Below.refl _ _).alloc (Nat.le_refl _) _
       have K3 := (HK2.out.next hal).low hb3 HLT.out.1 HLT.out.2 HA.out
       have q0 := K3.c0; have q1 := K3.c1; have q2 := K3.c2; have q3 := K3.c3; have q4 := K3.c4; have q5 := K3.c5
       have HK3 := Lib.hid K3
       have HO3 := Lib.hid (And.intro ho3 (Nat.le_trans HO2.out.2 (Nat.le_trans hal.size hb3.size)))
       have CN3 := Lib.hid (RNumS_any 8 (by decide) (by decide) ix w3)
       clear K3 ho3 hb3 hal HO2)
    | (go_at_call 19; have _t := CN3; refine CN3.out.mono ?_; rintro e w4 ⟨v4, rfl, ho4, hb4⟩
       obtain ⟨A4, cc4, rfl, _, _, hr4⟩ := Rd.of_own ho4 rfl
       have HK4 := Lib.hid (HK3.out.next hb4)
       have HO4 := Lib.hid (And.intro (own_keep HO3.out.1 hb4) (Nat.le_trans HO3.out.2 hb4.size))
       have HR4 := Lib.hid hr4
       clear hr4 ho4 hb4 CN3)
    | (at_builtin; have _t := HR4; refine wpList_app _ bytesT rfl (.tmp 34) (.tmp 38) rfl w1.heap.size v3 _ _ rfl HO4.out.1 A4 8 cc4 _ rfl HR4.out (by omega) HO4.out.2 ?_; intro v5 w5 ho5 hb5
       rw [← cells_append] at ho5
       have K5 := HK4.out.low hb5 HLT.out.1 HLT.out.2 HA.out
       have q0 := K5.c0; have q1 := K5.c1; have q2 := K5.c2; have q3 := K5.c3; have q4 := K5.c4; have q5 := K5.c5
       have HK5 := Lib.hid K5
       have HO5 := Lib.hid (And.intro ho5 (Nat.le_trans HO4.out.2 hb5.size))
       have CN5 := Lib.hid (RNumS_any 8 (by decide) (by decide) gn w5)
       clear K5 ho5 hb5 HR4)
    | (go_at_call 19; have _t := CN5; refine CN5.out.mono ?_; rintro e w6 ⟨v6, rfl, ho6, hb6⟩
       obtain ⟨A6, cc6, rfl, _, _, hr6⟩ := Rd.of_own ho6 rfl
       have HK6 := Lib.hid (HK5.out.next hb6)
       have HO6 := Lib.hid (And.intro (own_keep HO5.out.1 hb6) (Nat.le_trans HO5.out.2 hb6.size))
       have HR6 := Lib.hid hr6
       clear hr6 ho6 hb6 CN5)
    | (at_builtin; have _t := HR6; refine wpList_app _ bytesT rfl (.tmp 40) (.tmp 44) rfl w1.heap.size v5 _ _ rfl HO6.out.1 A6 8 cc6 _ rfl HR6.out (by omega) HO6.out.2 ?_; intro v7 w7 ho7 hb7
       rw [← cells_append] at ho7
       have K7 := HK6.out.low hb7 HLT.out.1 HLT.out.2 HA.out
       have q0 := K7.c0; have q1 := K7.c1; have q2 := K7.c2; have q3 := K7.c3; have q4 := K7.c4; have q5 := K7.c5
       have HK7 := Lib.hid K7
       have HO7 := Lib.hid (And.intro ho7 (Nat.le_trans HO6.out.2 hb7.size))
       have CN7 := Lib.hid (RNumS_any 8 (by decide) (by decide) cp w7)
       clear K7 ho7 hb7 HR6)
    | (go_at_call 19; have _t := CN7; refine CN7.out.mono ?_; rintro e w8 ⟨v8, rfl, ho8, hb8⟩
       obtain ⟨A8, cc8, rfl, _, _, hr8⟩ := Rd.of_own ho8 rfl
       have HK8 := Lib.hid (HK7.out.next hb8)
       have HO8 := Lib.hid (And.intro (own_keep HO7.out.1 hb8) (Nat.le_trans HO7.out.2 hb8.size))
       have HR8 := Lib.hid hr8
       clear hr8 ho8 hb8 CN7)
    | (at_builtin; have _t := HR8; refine wpList_app _ bytesT rfl (.tmp 49) (.tmp 52) rfl w1.heap.size v7 _ _ rfl HO8.out.1 A8 8 cc8 _ rfl HR8.out (by omega) HO8.out.2 ?_; intro v9 w9 ho9 hb9
       rw [← cells_append] at ho9
       have K9 := HK8.out.low hb9 HLT.out.1 HLT.out.2 HA.out
       have q0 := K9.c0; have q1 := K9.c1; have q2 := K9.c2; have q3 := K9.c3; have q4 := K9.c4; have q5 := K9.c5
       have HK9 := Lib.hid K9
       have HO9 := Lib.hid (And.intro ho9 (Nat.le_trans HO8.out.2 hb9.size))
       have CN9 := Lib.hid (RNumS_any 2 (by decide) (by decide) n w9)
       clear K9 ho9 hb9 HR8)
    | (go_at_call 19; have _t := CN9; refine CN9.out.mono ?_; rintro e w10 ⟨v10, rfl, ho10, hb10⟩
       obtain ⟨A10, cc10, rfl, _, _, hr10⟩ := Rd.of_own ho10 rfl
       have HK10 := Lib.hid (HK9.out.next hb10)
       have HO10 := Lib.hid (And.intro (own_keep HO9.out.1 hb10) (Nat.le_trans HO9.out.2 hb10.size))
       have HR10 := Lib.hid hr10
       clear hr10 ho10 hb10 CN9)
    | (at_builtin; have _t := HR10; refine wpList_app _ bytesT rfl (.tmp 57) (.tmp 61) rfl w1.heap.size v9 _ _ rfl HO10.out.1 A10 2 cc10 _ rfl HR10.out (by omega) HO10.out.2 ?_; intro v11 w11 ho11 hb11
       rw [← cells_append] at ho11
       have K11 := HK10.out.low hb11 HLT.out.1 HLT.out.2 HA.out
       have q0 := K11.c0; have q1 := K11.c1; have q2 := K11.c2; have q3 := K11.c3; have q4 := K11.c4; have q5 := K11.c5
       have HK11 := Lib.hid K11
       have HO11 := Lib.hid (And.intro ho11 (Nat.le_trans HO10.out.2 hb11.size))
       clear K11 ho11 hb11 HR10)
    | (at_builtin; have _t := HO11; refine wpList_app _ bytesT rfl (.tmp 63) (.tmp 65) rfl w1.heap.size v11 _ _ rfl HO11.out.1 A n c dt rfl HK11.out.rd (by omega) HO11.out.2 ?_; intro v12 w12 ho12 hb12
       rw [← cells_append] at ho12
       have HK12 := Lib.hid (HK11.out.low hb12 HLT.out.1 HLT.out.2 HA.out)
       have HO12 := Lib.hid (And.intro ho12 (Nat.le_trans HO11.out.2 hb12.size))
       clear ho12 hb12))
  go_ret
  rw [HX.out]
  exact GotS.own (own_mono HO12.out.1 HLT.out.2) HK12.out.bel

set_option maxHeartbeats 2000000 in
theorem RBytes_2t (ix gn cp : Int) (dt : List UInt8) (A : Option Addr) (n c : Nat) (w : World) (h : Rd w A n dt) (hn : n ≤ 1000000) :
    Calls Try.prog 28 #[.agg (Cd.cs ⟨2, true, ix, gn, cp, dt⟩ A n c)] w (GotS w (Cd.mk 2 true ix gn cp dt).bytes) := by
  obtain ⟨w1, hw1⟩ : ∃ w1, w1 = w.alloc (.cells (Cd.cs ⟨2, true, ix, gn, cp, dt⟩ A n c) 47) := ⟨_, rfl⟩
  have K1 : CdAt w w1 w.heap.size ⟨2, true, ix, gn, cp, dt⟩ A n c := by rw [hw1]; exact CdAt.new w ⟨2, true, ix, gn, cp, dt⟩ A n c h
  have HA := Lib.hid (fun b o (e : A = some ⟨b, o, none⟩) hp => Nat.lt_trans (h.lo' b o e hp) K1.r.lt)
  have HLT := Lib.hid (And.intro K1.r.lt K1.bel.size)
  have c0 := K1.c0
  have c1 := K1.c1
  have CN1 := Lib.hid (RNumS_any 1 (by decide) (by decide) 2 w1)
  have HX := Lib.hid (show (Cd.mk 2 true ix gn cp dt).bytes = numB 1 2 ++ [1] ++ numB 8 ix ++ numB 8 cp ++ numB 2 n ++ dt by have e : (n : Int) = (dt.length : Nat) := (by rw [h.1]); rw [e]; simp [Cd.bytes, Cd.tgt, numB_11])
  have HK1 := Lib.hid K1
  clear h K1
  go_enter Try.func28, Try.ntmps28
  go_wp2_with (first
    | (rw [← hw1]; clear hw1)
    | (go_at_call 19; have _t := CN1; refine CN1.out.mono ?_; rintro e w2 ⟨v2, rfl, ho2, hb2⟩
       have K2 := HK1.out.next hb2
       have q0 := K2.c0; have q1 := K2.c1; have q2 := K2.c2; have q3 := K2.c3; have q4 := K2.c4; have q5 := K2.c5
       have HK2 := Lib.hid K2
       have HO2 := Lib.hid (And.intro ho2 hb2.size)
       clear K2 ho2 hb2 CN1 c0 c1)
    | (at_builtin; have _t := HO2; refine wpList_app _ bytesT rfl (.tmp 22) (.tmp 23) rfl w1.heap.size v2 _ _ rfl (own_keep HO2.out.1 ((Below.refl _ _).alloc (Nat.le_refl _) _)) _ 1 1 [1] rfl (Rd.new w2 5 [1] (0, 0)) (by omega) (by have := HO2.out.2; simp; omega) ?_; intro v3 w3 ho3 hb3
       rw [← cells_append] at ho3
       have hal : Below w2.heap.size w2 (w2.alloc (.cells #[.int .u8 1] 5)) := (Below.refl _ _).alloc (Nat.le_refl _) _
       have K3 := (HK2.out.next hal).low hb3 HLT.out.1 HLT.out.2 HA.out
       have q0 := K3.c0; have q1 := K3.c1; have q2 := K3.c2; have q3 := K3.c3; have q4 := K3.c4; have q5 := K3.c5
       have HK3 := Lib.hid K3
       have HO3 := Lib.hid (And.intro ho3 (Nat.le_trans HO2.out.2 (Nat.le_trans hal.size hb3.size)))
       have CN3 := Lib.hid (RNumS_any 8 (by decide) (by decide) ix w3)
       clear K3 ho3 hb3 hal HO2)
    | (go_at_call 19; have _t := CN3; refine CN3.out.mono ?_; rintro e w4 ⟨v4, rfl, ho4, hb4⟩
       obtain ⟨A4, cc4, rfl, _, _, hr4⟩ := Rd.of_own ho4 rfl
       have HK4 := Lib.hid (HK3.out.next hb4)
       have HO4 := Lib.hid (And.intro (own_keep HO3.out.1 hb4) (Nat.le_trans HO3.out.2 hb4.size))
       have HR4 := Lib.hid hr4
       clear hr4 ho4 hb4 CN3)
    | (at_builtin; have _t := HR4; refine wpList_app _ bytesT rfl (.tmp 25) (.tmp 29) rfl w1.heap.size v3 _ _ rfl HO4.out.1 A4 8 cc4 _ rfl HR4.out (by omega) HO4.out.2 ?_; intro v5 w5 ho5 hb5
       rw [← cells_append] at ho5
       have K5 := HK4.out.low hb5 HLT.out.1 HLT.out.2 HA.out
       have q0 := K5.c0; have q1 := K5.c1; have q2 := K5.c2; have q3 := K5.c3; have q4 := K5.c4; have q5 := K5.c5
       have HK5 := Lib.hid K5
       have HO5 := Lib.hid (And.intro ho5 (Nat.le_trans HO4.out.2 hb5.size))
       have CN5 := Lib.hid (RNumS_any 8 (by decide) (by decide) cp w5)
       clear K5 ho5 hb5 HR4)
    | (go_at_call 19; have _t := CN5; refine CN5.out.mono ?_; rintro e w6 ⟨v6, rfl, ho6, hb6⟩
       obtain ⟨A6, cc6, rfl, _, _, hr6⟩ := Rd.of_own ho6 rfl
       have HK6 := Lib.hid (HK5.out.next hb6)
       have HO6 := Lib.hid (And.intro (own_keep HO5.out.1 hb6) (Nat.le_trans HO5.out.2 hb6.size))
       have HR6 := Lib.hid hr6
       clear hr6 ho6 hb6 CN5)
    | (at_builtin; have _t := HR6; refine wpList_app _ bytesT rfl (.tmp 49) (.tmp 52) rfl w1.heap.size v5 _ _ rfl HO6.out.1 A6 8 cc6 _ rfl HR6.out (by omega) HO6.out.2 ?_; intro v7 w7 ho7 hb7
       rw [← cells_append] at ho7
       have K7 := HK6.out.low hb7 HLT.out.1 HLT.out.2 HA.out
       have q0 := K7.c0; have q1 := K7.c1; have q2 := K7.c2; have q3 := K7.c3; have q4 := K7.c4; have q5 := K7.c5
       have HK7 := Lib.hid K7
       have HO7 := Lib.hid (And.intro ho7 (Nat.le_trans HO6.out.2 hb7.size))
       have CN7 := Lib.hid (RNumS_any 2 (by decide) (by decide) n w7)
       clear K7 ho7 hb7 HR6)
    | (go_at_call 19; have _t := CN7; refine CN7.out.mono ?_; rintro e w8 ⟨v8, rfl, ho8, hb8⟩
       obtain ⟨A8, cc8, rfl, _, _, hr8⟩ := Rd.of_own ho8 rfl
       have HK8 := Lib.hid (HK7.out.next hb8)
       have HO8 := Lib.hid (And.intro (own_keep HO7.out.1 hb8) (Nat.le_trans HO7.out.2 hb8.size))
       have HR8 := Lib.hid hr8
       clear hr8 ho8 hb8 CN7)
    | (at_builtin; have _t := HR8; refine wpList_app _ bytesT rfl (.tmp 57) (.tmp 61) rfl w1.heap.size v7 _ _ rfl HO8.out.1 A8 2 cc8 _ rfl HR8.out (by omega) HO8.out.2 ?_; intro v9 w9 ho9 hb9
       rw [← cells_append] at ho9
       have K9 := HK8.out.low hb9 HLT.out.1 HLT.out.2 HA.out
       have q0 := K9.c0; have q1 := K9.c1; have q2 := K9.c2; have q3 := K9.c3; have q4 := K9.c4; have q5 := K9.c5
       have HK9 := Lib.hid K9
       have HO9 := Lib.hid (And.intro ho9 (Nat.le_trans HO8.out.2 hb9.size))
       clear K9 ho9 hb9 HR8)
    | (at_builtin; have _t := HO9; refine wpList_app _ bytesT rfl (.tmp 63) (.tmp 65) rfl w1.heap.size v9 _ _ rfl HO9.out.1 A n c dt rfl HK9.out.rd (by omega) HO9.out.2 ?_; intro v10 w10 ho10 hb10
       rw [← cells_append] at ho10
       have HK10 := Lib.hid (HK9.out.low hb10 HLT.out.1 HLT.out.2 HA.out)
       have HO10 := Lib.hid (And.intro ho10 (Nat.le_trans HO9.out.2 hb10.size))
       clear ho10 hb10))
  go_ret
  rw [HX.out]
  exact GotS.own (own_mono HO10.out.1 HLT.out.2) HK10.out.bel

set_option maxHeartbeats 2000000 in
theorem RBytes_3f (ix gn cp : Int) (dt : List UInt8) (A : Option Addr) (n c : Nat) (w : World) (h : Rd w A n dt) (hn : n ≤ 1000000) :
    Calls Try.prog 28 #[.agg (Cd.cs ⟨3, false, ix, gn, cp, dt⟩ A n c)] w (GotS w (Cd.mk 3 false ix gn cp dt).bytes) := by
  obtain ⟨w1, hw1⟩ : ∃ w1, w1 = w.alloc (.cells (Cd.cs ⟨3, false, ix, gn, cp, dt⟩ A n c) 47) := ⟨_, rfl⟩
  have K1 : CdAt w w1 w.heap.size ⟨3, false, ix, gn, cp, dt⟩ A n c := by rw [hw1]; exact CdAt.new w ⟨3, false, ix, gn, cp, dt⟩ A n c h
  have HA := Lib.hid (fun b o (e : A = some ⟨b, o, none⟩) hp => Nat.lt_trans (h.lo' b o e hp) K1.r.lt)
  have HLT := Lib.hid (And.intro K1.r.lt K1.bel.size)
  have c0 := K1.c0
  have c1 := K1.c1
  have CN1 := Lib.hid (RNumS_any 1 (by decide) (by decide) 3 w1)
  have HX := Lib.hid (show (Cd.mk 3 false ix gn cp dt).bytes = numB 1 3 ++ [0] ++ numB 8 ix ++ numB 8 gn ++ numB 8 cp by simp [Cd.bytes, Cd.tgt, numB_10])
  have HK1 := Lib.hid K1
  clear h K1
  go_enter Try.func28, Try.ntmps28
  go_wp2_with (first
    | (rw [← hw1]; clear hw1)
    | (go_at_call 19; have _t := CN1; refine CN1.out.mono ?_; rintro e w2 ⟨v2, rfl, ho2, hb2⟩
       have K2 := HK1.out.next hb2
       have q0 := K2.c0; have q1 := K2.c1; have q2 := K2.c2; have q3 := K2.c3; have q4 := K2.c4; have q5 := K2.c5
       have HK2 := Lib.hid K2
       have HO2 := Lib.hid (And.intro ho2 hb2.size)
       clear K2 ho2 hb2 CN1 c0 c1)
    | (at_builtin; have _t := HO2; refine wpList_app _ bytesT rfl (.tmp 31) (.tmp 32) rfl w1.heap.size v2 _ _ rfl (own_keep HO2.out.1 ((Below.refl _ _).alloc (Nat.le_refl _) _)) _ 1 1 [0] rfl (Rd.new w2 5 [0] (0, 0)) (by omega) (by have := HO2.out.2; simp; omega) ?_; intro v3 w3 ho3 hb3
       rw [← cells_append] at ho3
       have hal : Below w2.heap.size w2 (w2.alloc (.cells #[.int .u8 0] 5)) := (Below.refl _ _).alloc (Nat.le_refl _) _
       have K3 := (HK2.out.next hal).low hb3 HLT.out.1 HLT.out.2 HA.out
       have q0 := K3.c0; have q1 := K3.c1; have q2 := K3.c2; have q3 := K3.c3; have q4 := K3.c4; have q5 := K3.c5
       have HK3 := Lib.hid K3
       have HO3 := Lib.hid (And.intro ho3 (Nat.le_trans HO2.out.2 (Nat.le_trans hal.size hb3.size)))
       have CN3 := Lib.hid (RNumS_any 8 (by decide) (by decide) ix w3)
       clear K3 ho3 hb3 hal HO2)
    | (go_at_call 19; have _t := CN3; refine CN3.out.mono ?_; rintro e w4 ⟨v4, rfl, ho4, hb4⟩
       obtain ⟨A4, cc4, rfl, _, _, hr4⟩ := Rd.of_own ho4 rfl
       have HK4 := Lib.hid (HK3.out.next hb4)
       have HO4 := Lib.hid (And.intro (own_keep HO3.out.1 hb4) (Nat.le_trans HO3.out.2 hb4.size))
       have HR4 := Lib.hid hr4
       clear hr4 ho4 hb4 CN3)
    | (at_builtin; have _t := HR4; refine wpList_app _ bytesT rfl (.tmp 34) (.tmp 38) rfl w1.heap.size v3 _ _ rfl HO4.out.1 A4 8 cc4 _ rfl HR4.out (by omega) HO4.out.2 ?_; intro v5 w5 ho5 hb5
       rw [← cells_append] at ho5
       have K5 := HK4.out.low hb5 HLT.out.1 HLT.out.2 HA.out
       have q0 := K5.c0; have q1 := K5.c1; have q2 := K5.c2; have q3 := K5.c3; have q4 := K5.c4; have q5 := K5.c5
       have HK5 := Lib.hid K5
       have HO5 := Lib.hid (And.intro ho5 (Nat.le_trans HO4.out.2 hb5.size))
       have CN5 := Lib.hid (RNumS_any 8 (by decide) (by decide) gn w5)
       clear K5 ho5 hb5 HR4)
    | (go_at_call 19; have _t := CN5; refine CN5.out.mono ?_; rintro e w6 ⟨v6, rfl, ho6, hb6⟩
       obtain ⟨A6, cc6, rfl, _, _, hr6⟩ := Rd.of_own ho6 rfl
       have HK6 := Lib.hid (HK5.out.next hb6)
       have HO6 := Lib.hid (And.intro (own_keep HO5.out.1 hb6) (Nat.le_trans HO5.out.2 hb6.size))
       have HR6 := Lib.hid hr6
       clear hr6 ho6 hb6 CN5)
    | (at_builtin; have _t := HR6; refine wpList_app _ bytesT rfl (.tmp 40) (.tmp 44) rfl w1.heap.size v5 _ _ rfl HO6.out.1 A6 8 cc6 _ rfl HR6.out (by omega) HO6.out.2 ?_; intro v7 w7 ho7 hb7
       rw [← cells_append] at ho7
       have K7 := HK6.out.low hb7 HLT.out.1 HLT.out.2 HA.out
       have q0 := K7.c0; have q1 := K7.c1; have q2 := K7.c2; have q3 := K7.c3; have q4 := K7.c4; have q5 := K7.c5
       have HK7 := Lib.hid K7
       have HO7 := Lib.hid (And.intro ho7 (Nat.le_trans HO6.out.2 hb7.size))
       have CN7 := Lib.hid (RNumS_any 8 (by decide) (by decide) cp w7)
       clear K7 ho7 hb7 HR6)
    | (go_at_call 19; have _t := CN7; refine CN7.out.mono ?_; rintro e w8 ⟨v8, rfl, ho8, hb8⟩
       obtain ⟨A8, cc8, rfl, _, _, hr8⟩ := Rd.of_own ho8 rfl
       have HK8 := Lib.hid (HK7.out.next hb8)
       have HO8 := Lib.hid (And.intro (own_keep HO7.out.1 hb8) (Nat.le_trans HO7.out.2 hb8.size))
       have HR8 := Lib.hid hr8
       clear hr8 ho8 hb8 CN7)
    | (at_builtin; have _t := HR8; refine wpList_app _ bytesT rfl (.tmp 49) (.tmp 52) rfl w1.heap.size v7 _ _ rfl HO8.out.1 A8 8 cc8 _ rfl HR8.out (by omega) HO8.out.2 ?_; intro v9 w9 ho9 hb9
       rw [← cells_append] at ho9
       have K9 := HK8.out.low hb9 HLT.out.1 HLT.out.2 HA.out
       have q0 := K9.c0; have q1 := K9.c1; have q2 := K9.c2; have q3 := K9.c3; have q4 := K9.c4; have q5 := K9.c5
       have HK9 := Lib.hid K9
       have HO9 := Lib.hid (And.intro ho9 (Nat.le_trans HO8.out.2 hb9.size))
       clear K9 ho9 hb9 HR8))
  go_ret
  rw [HX.out]
  exact GotS.own (own_mono HO9.out.1 HLT.out.2) HK9.out.bel

set_option maxHeartbeats 2000000 in
theorem RBytes_3t (ix gn cp : Int) (dt : List UInt8) (A : Option Addr) (n c : Nat) (w : World) (h : Rd w A n dt) (hn : n ≤ 1000000) :
    Calls Try.prog 28 #[.agg (Cd.cs ⟨3, true, ix, gn, cp, dt⟩ A n c)] w (GotS w (Cd.mk 3 true ix gn cp dt).bytes) := by
  obtain ⟨w1, hw1⟩ : ∃ w1, w1 = w.alloc (.cells (Cd.cs ⟨3, true, ix, gn, cp, dt⟩ A n c) 47) := ⟨_, rfl⟩
  have K1 : CdAt w w1 w.heap.size ⟨3, true, ix, gn, cp, dt⟩ A n c := by rw [hw1]; exact CdAt.new w ⟨3, true, ix, gn, cp, dt⟩ A n c h
  have HA := Lib.hid (fun b o (e : A = some ⟨b, o, none⟩) hp => Nat.lt_trans (h.lo' b o e hp) K1.r.lt)
  have HLT := Lib.hid (And.intro K1.r.lt K1.bel.size)
  have c0 := K1.c0
  have c1 := K1.c1
  have CN1 := Lib.hid (RNumS_any 1 (by decide) (by decide) 3 w1)
  have HX := Lib.hid (show (Cd.mk 3 true ix gn cp dt).bytes = numB 1 3 ++ [1] ++ numB 8 ix ++ numB 8 cp by simp [Cd.bytes, Cd.tgt, numB_11])
  have HK1 := Lib.hid K1
  clear h K1
  go_enter Try.func28, Try.ntmps28
  go_wp2_with (first
    | (rw [← hw1]; clear hw1)
    | (go_at_call 19; have _t := CN1; refine CN1.out.mono ?_; rintro e w2 ⟨v2, rfl, ho2, hb2⟩
       have K2 := HK1.out.next hb2
       have q0 := K2.c0; have q1 := K2.c1; have q2 := K2.c2; have q3 := K2.c3; have q4 := K2.c4; have q5 := K2.c5
       have HK2 := Lib.hid K2
       have HO2 := Lib.hid (And.intro ho2 hb2.size)
       clear K2 ho2 hb2 CN1 c0 c1)
    | (at_builtin; have _t := HO2; refine wpList_app _ bytesT rfl (.tmp 22) (.tmp 23) rfl w1.heap.size v2 _ _ rfl (own_keep HO2.out.1 ((Below.refl _ _).alloc (Nat.le_refl _) _)) _ 1 1 [1] rfl (Rd.new w2 5 [1] (0, 0)) (by omega) (by have := HO2.out.2; simp; omega) ?_; intro v3 w3 ho3 hb3
       rw [← cells_append] at ho3
       have hal : Below w2.heap.size w2 (w2.alloc (.cells #[.int .u8 1] 5)) := (Below.refl _ _).alloc (Nat.le_refl _) _
       have K3 := (HK2.out.next hal).low hb3 HLT.out.1 HLT.out.2 HA.out
       have q0 := K3.c0; have q1 := K3.c1; have q2 := K3.c2; have q3 := K3.c3; have q4 := K3.c4; have q5 := K3.c5
       have HK3 := Lib.hid K3
       have HO3 := Lib.hid (And.intro ho3 (Nat.le_trans HO2.out.2 (Nat.le_trans hal.size hb3.size)))
       have CN3 := Lib.hid (RNumS_any 8 (by decide) (by decide) ix w3)
       clear K3 ho3 hb3 hal HO2)
    | (go_at_call 19; have _t := CN3; refine CN3.out.mono ?_; rintro e w4 ⟨v4, rfl, ho4, hb4⟩
       obtain ⟨A4, cc4, rfl, _, _, hr4⟩ := Rd.of_own ho4 rfl
       have HK4 := Lib.hid (HK3.out.next hb4)
       have HO4 := Lib.hid (And.intro (own_keep HO3.out.1 hb4) (Nat.le_trans HO3.out.2 hb4.size))
       have HR4 := Lib.hid hr4
       clear hr4 ho4 hb4 CN3)
    | (at_builtin; have _t := HR4; refine wpList_app _ bytesT rfl (.tmp 25) (.tmp 29) rfl w1.heap.size v3 _ _ rfl HO4.out.1 A4 8 cc4 _ rfl HR4.out (by omega) HO4.out.2 ?_; intro v5 w5 ho5 hb5
       rw [← cells_append] at ho5
       have K5 := HK4.out.low hb5 HLT.out.1 HLT.out.2 HA.out
       have q0 := K5.c0; have q1 := K5.c1; have q2 := K5.c2; have q3 := K5.c3; have q4 := K5.c4; have q5 := K5.c5
       have HK5 := Lib.hid K5
       have HO5 := Lib.hid (And.intro ho5 (Nat.le_trans HO4.out.2 hb5.size))
       have CN5 := Lib.hid (RNumS_any 8 (by decide) (by decide) cp w5)
       clear K5 ho5 hb5 HR4)
    | (go_at_call 19; have _t := CN5; refine CN5.out.mono ?_; rintro e w6 ⟨v6, rfl, ho6, hb6⟩
       obtain ⟨A6, cc6, rfl, _, _, hr6⟩ := Rd.of_own ho6 rfl
       have HK6 := Lib.hid (HK5.out.next hb6)
       have HO6 := Lib.hid (And.intro (own_keep HO5.out.1 hb6) (Nat.le_trans HO5.out.2 hb6.size))
       have HR6 := Lib.hid hr6
       clear hr6 ho6 hb6 CN5)
    | (at_builtin; have _t := HR6; refine wpList_app _ bytesT rfl (.tmp 49) (.tmp 52) rfl w1.heap.size v5 _ _ rfl HO6.out.1 A6 8 cc6 _ rfl HR6.out (by omega) HO6.out.2 ?_; intro v7 w7 ho7 hb7
       rw [← cells_append] at ho7
       have K7 := HK6.out.low hb7 HLT.out.1 HLT.out.2 HA.out
       have q0 := K7.c0; have q1 := K7.c1; have q2 := K7.c2; have q3 := K7.c3; have q4 := K7.c4; have q5 := K7.c5
       have HK7 := Lib.hid K7
       have HO7 := Lib.hid (And.intro ho7 (Nat.le_trans HO6.out.2 hb7.size))
       clear K7 ho7 hb7 HR6))
  go_ret
  rw [HX.out]
  exact GotS.own (own_mono HO7.out.1 HLT.out.2) HK7.out.bel

theorem RBytesC_any (x : Cd) (A : Option Addr) (n c : Nat) (w : World) (h : Rd w A n x.dt) (hn : n ≤ 1000000) : Calls Try.prog 28 #[.agg (x.cs A n c)] w (GotS w x.bytes) := by
  by_cases ho : x.d < 0 ∨ 3 < x.d
  · exact RBytes_o x ho A n c w h
  obtain ⟨d, lc, ix, gn, cp, dt⟩ := x
  rcases cd_cases d with rfl | rfl | rfl | rfl | hd
  · cases lc
    · exact RBytes_0f ix gn cp dt A n c w h hn
    · exact RBytes_0t ix gn cp dt A n c w h hn
  · cases lc
    · exact RBytes_1f ix gn cp dt A n c w h hn
    · exact RBytes_1t ix gn cp dt A n c w h hn
  · cases lc
    · exact RBytes_2f ix gn cp dt A n c w h hn
    · exact RBytes_2t ix gn cp dt A n c w h hn
  · cases lc
    · exact RBytes_3f ix gn cp dt A n c w h hn
    · exact RBytes_3t ix gn cp dt A n c w h hn
  · exact absurd hd ho

end Go.Proofs.Ytlinafnhhnkjnaa
namespace Go.Proofs.Ytlinafnhhnkjnaa
open Go.RowKit

/-- One bit is let fall. -/
def bst (s : Nat) : Nat := s / 2 ^^^ (if s % 2 = 1 then 3988292384 else 0)
def bstN : Nat → Nat → Nat
  | 0, s => s
  | n + 1, s => bstN n (bst s)
/-- n bits of W, the lowest first. -/
def runB : Nat → Nat → Nat → Nat
  | 0, s, _ => s
  | n + 1, s, W => runB n (bst (s ^^^ W % 2)) (W / 2)
def addB (s : Nat) (c : UInt8) : Nat := runB 8 s c.toNat
def addL (s : Nat) (l : List UInt8) : Nat := l.foldl addB s
def sumL (l : List UInt8) : Nat := addL 4294967295 l ^^^ 4294967295

theorem bst_lt {s : Nat} (h : s < 4294967296) : bst s < 4294967296 := by
  unfold bst
  have h1 : s / 2 < 2 ^ 32 := by omega
  split
  · exact Nat.xor_lt_two_pow (n := 32) h1 (by decide)
  · exact Nat.xor_lt_two_pow (n := 32) h1 (by decide)
theorem xor_lt {a b : Nat} (h : a < 4294967296) (h' : b < 4294967296) : a ^^^ b < 4294967296 := Nat.xor_lt_two_pow (n := 32) h h'
theorem runB_lt (n : Nat) : ∀ {s W : Nat}, s < 4294967296 → runB n s W < 4294967296 := by
  induction n with
  | zero => exact fun h => h
  | succ n ih => exact fun h => ih (bst_lt (xor_lt h (by omega)))
theorem addB_lt {s : Nat} (h : s < 4294967296) (c : UInt8) : addB s c < 4294967296 := runB_lt 8 h
theorem addL_lt (l : List UInt8) : ∀ {s : Nat}, s < 4294967296 → addL s l < 4294967296 := by
  induction l with
  | nil => exact fun h => h
  | cons c l ih => exact fun h => ih (addB_lt h c)
theorem addL_append (s : Nat) (l m : List UInt8) : addL s (l ++ m) = addL (addL s l) m := by simp [addL, List.foldl_append]
theorem addL_snoc (s : Nat) (l : List UInt8) (c : UInt8) : addL s (l ++ [c]) = addB (addL s l) c := by simp [addL]
theorem addL_one (s : Nat) (c : UInt8) : addL s [c] = addB s c := rfl
theorem sumL_lt (l : List UInt8) : sumL l < 4294967296 := xor_lt (addL_lt l (by decide)) (by decide)

theorem xor_cancel {a b c : Nat} (h : a ^^^ c = b ^^^ c) : a = b := by
  have h1 : a ^^^ c ^^^ c = b ^^^ c ^^^ c := by rw [h]
  simpa [Nat.xor_assoc] using h1
theorem xor_half (a b : Nat) : (a ^^^ b) / 2 = a / 2 ^^^ b / 2 := Nat.xor_div_two
theorem xor_mod2 (a b : Nat) : (a ^^^ b) % 2 = (a + b) % 2 := by
  have h := Nat.testBit_xor a b 0
  simp only [Nat.testBit_zero] at h
  have := Nat.mod_two_eq_zero_or_one a
  have := Nat.mod_two_eq_zero_or_one b
  have := Nat.mod_two_eq_zero_or_one (a ^^^ b)
  rcases Nat.mod_two_eq_zero_or_one a with h1 | h1 <;> rcases Nat.mod_two_eq_zero_or_one b with h2 | h2 <;> rcases Nat.mod_two_eq_zero_or_one (a ^^^ b) with h3 | h3 <;> simp [h1, h2, h3] at h <;> omega

theorem bst_xor (a b : Nat) : bst (a ^^^ b) = bst a ^^^ bst b := by
  unfold bst
  rw [xor_half]
  have h := xor_mod2 a b
  by_cases h1 : a % 2 = 1 <;> by_cases h2 : b % 2 = 1
  · rw [if_pos h1, if_pos h2, if_neg (by omega)]
    rw [show a / 2 ^^^ 3988292384 ^^^ (b / 2 ^^^ 3988292384) = a / 2 ^^^ b / 2 ^^^ (3988292384 ^^^ 3988292384) from by ac_rfl, Nat.xor_self]
  · rw [if_pos h1, if_neg h2, if_pos (by omega), Nat.xor_zero]
    ac_rfl
  · rw [if_neg h1, if_pos h2, if_pos (by omega), Nat.xor_zero]
    ac_rfl
  · rw [if_neg h1, if_neg h2, if_neg (by omega)]
    simp
theorem bst_even (a : Nat) (h : a % 2 = 0) : bst a = a / 2 := by
  unfold bst
  rw [if_neg (by omega), Nat.xor_zero]
/-- A number is its lowest bit and the others. -/
theorem low_xor (W : Nat) : W = W % 2 ^^^ (W / 2 * 2) := by
  apply Nat.eq_of_testBit_eq
  intro i
  rw [Nat.testBit_xor]
  cases i with
  | zero => simp [Nat.testBit_zero]
  | succ i => simp [Nat.testBit_succ, show W % 2 / 2 = 0 from by omega]
theorem bst_low (s W : Nat) : bst (s ^^^ W) = bst (s ^^^ W % 2) ^^^ W / 2 := by
  conv => lhs; rw [low_xor W]
  rw [← Nat.xor_assoc, bst_xor, bst_even (W / 2 * 2) (by omega), Nat.mul_div_cancel _ (by decide)]

theorem bstN_eq (n : Nat) : ∀ s W : Nat, bstN n (s ^^^ W) = runB n s W ^^^ W / 2 ^ n := by
  induction n with
  | zero => intro s W; simp [bstN, runB]
  | succ n ih =>
    intro s W
    show bstN n (bst (s ^^^ W)) = runB n (bst (s ^^^ W % 2)) (W / 2) ^^^ _
    rw [bst_low, ih, Nat.div_div_eq_div_mul, Nat.pow_succ, Nat.mul_comm 2]
theorem bstN_byte (s : Nat) (c : UInt8) : bstN 8 (s ^^^ c.toNat) = addB s c := by
  rw [bstN_eq, show c.toNat / 2 ^ 8 = 0 from Nat.div_eq_of_lt c.toNat_lt, Nat.xor_zero]
  rfl
theorem bstN_snoc (n : Nat) : ∀ s : Nat, bstN (n + 1) s = bst (bstN n s) := by
  induction n with
  | zero => exact fun _ => rfl
  | succ n ih => exact fun s => ih (bst s)

/-- Without an if: what fell out is spread over all bits. -/
theorem bst_spread (s : Nat) : s / 2 ^^^ (3988292384 &&& ((4294967296 - s % 2) % 4294967296)) = bst s := by
  unfold bst
  rcases Nat.mod_two_eq_zero_or_one s with h | h
  · rw [h]; rfl
  · rw [h]; rfl

/-! The reference's way round. -/

/-- r is s, turned round. -/
def Rev (r s : Nat) : Prop := r < 4294967296 ∧ s < 4294967296 ∧ ∀ i, i < 32 → r.testBit i = s.testBit (31 - i)
theorem Rev.all : Rev 4294967295 4294967295 := ⟨by decide, by decide, by decide⟩
theorem Rev.top {r s : Nat} (h : Rev r s) : r / 2147483648 = s % 2 := by
  have h1 := h.2.2 31 (by decide)
  have h2 := h.1
  rw [Nat.testBit_eq_decide_div_mod_eq, Nat.testBit_eq_decide_div_mod_eq, decide_eq_decide] at h1
  have : r / 2147483648 < 2 := by omega
  simp at h1
  omega
theorem lt_of_bits {r : Nat} {n : Nat} (h : r < 2 ^ n) {i : Nat} (hi : n ≤ i) : r.testBit i = false :=
  Nat.testBit_lt_two_pow (Nat.lt_of_lt_of_le h (Nat.pow_le_pow_right (by decide) hi))
theorem Rev.half {r s : Nat} (h : Rev r s) : Rev (r * 2 % 4294967296) (s / 2) := by
  refine ⟨by omega, by have := h.2.1; omega, fun i hi => ?_⟩
  rw [show (4294967296 : Nat) = 2 ^ 32 from rfl, Nat.testBit_mod_two_pow]
  cases i with
  | zero =>
    rw [Nat.testBit_zero, show s / 2 = s / 2 ^ 1 from rfl, Nat.testBit_div_two_pow]
    rw [lt_of_bits (n := 32) h.2.1 (by decide)]
    simp
  | succ i =>
    rw [Nat.testBit_succ, Nat.mul_div_cancel _ (by decide), show s / 2 = s / 2 ^ 1 from rfl, Nat.testBit_div_two_pow, h.2.2 i (by omega)]
    simp [hi]
    congr 1
    omega
theorem Rev.xor_poly {r s : Nat} (h : Rev r s) : Rev (r ^^^ 79764919) (s ^^^ 3988292384) := by
  refine ⟨xor_lt h.1 (by decide), xor_lt h.2.1 (by decide), fun i hi => ?_⟩
  rw [Nat.testBit_xor, Nat.testBit_xor, h.2.2 i hi]
  congr 1
  have : ∀ i, i < 32 → Nat.testBit 79764919 i = Nat.testBit 3988292384 (31 - i) := by decide
  exact this i hi
theorem Rev.like {r s c : Nat} (h : Rev r s) (hc : r / 2147483648 = c % 2) : Rev (r * 2 % 4294967296) (bst (s ^^^ c % 2)) := by
  have e : bst (s ^^^ c % 2) = s / 2 := by
    have h1 := h.top
    have h2 := xor_mod2 s (c % 2)
    unfold bst
    rw [xor_half, show c % 2 / 2 = 0 from by omega, if_neg (by omega), Nat.xor_zero, Nat.xor_zero]
  rw [e]
  exact h.half
theorem Rev.unlike {r s c : Nat} (h : Rev r s) (hc : ¬ r / 2147483648 = c % 2) : Rev (r * 2 % 4294967296 ^^^ 79764919) (bst (s ^^^ c % 2)) := by
  have e : bst (s ^^^ c % 2) = s / 2 ^^^ 3988292384 := by
    have h1 := h.top
    have h2 := xor_mod2 s (c % 2)
    unfold bst
    rw [xor_half, show c % 2 / 2 = 0 from by omega, if_pos (by omega), Nat.xor_zero]
  rw [e]
  exact h.half.xor_poly
theorem Rev.bit {r s j : Nat} (h : Rev r s) (hj : j < 32) : r / 2 ^ j % 2 = s / 2 ^ (31 - j) % 2 := by
  have h1 := h.2.2 j hj
  rw [Nat.testBit_eq_decide_div_mod_eq, Nat.testBit_eq_decide_div_mod_eq, decide_eq_decide] at h1
  omega
theorem Rev.step {r s j : Nat} (h : Rev r s) (hj : j < 32) : s / 2 ^ (32 - j) * 2 + r / 2 ^ j % 2 = s / 2 ^ (32 - (j + 1)) := by
  rw [h.bit hj, show 32 - j = (31 - j) + 1 from by omega, show 32 - (j + 1) = 31 - j from by omega, Nat.pow_succ, ← Nat.div_div_eq_div_mul]
  omega

/-- All bits turned. -/
theorem turn_all {s : Nat} (h : s < 4294967296) : s ^^^ 4294967295 = 4294967295 - s := by
  apply Nat.eq_of_testBit_eq
  intro i
  rw [Nat.testBit_xor, show 4294967295 - s = 2 ^ 32 - (s + 1) from by omega, Nat.testBit_two_pow_sub_succ h]
  by_cases hi : i < 32
  · have : ∀ i, i < 32 → Nat.testBit 4294967295 i = true := by decide
    simp [hi, this i hi]
  · rw [lt_of_bits (n := 32) h (by omega), lt_of_bits (n := 32) (r := 4294967295) (by decide) (by omega)]
    simp [hi]

/-! Turnings of some of 32 bits in a row. -/

theorem bst_inj {a b : Nat} (ha : a < 4294967296) (hb : b < 4294967296) (h : bst a = bst b) : a = b := by
  have key : ∀ s, s < 4294967296 → (bst s / 2147483648 = s % 2) := by
    intro s hs
    unfold bst
    have e : ∀ x p : Nat, (x ^^^ p) / 2 ^ 31 = x / 2 ^ 31 ^^^ p / 2 ^ 31 := fun x p => by
      rw [← Nat.shiftRight_eq_div_pow, ← Nat.shiftRight_eq_div_pow, ← Nat.shiftRight_eq_div_pow, Nat.shiftRight_xor_distrib]
    have e' := e (s / 2) (if s % 2 = 1 then 3988292384 else 0)
    rw [show (2 : Nat) ^ 31 = 2147483648 from rfl] at e'
    rw [e', show s / 2 / 2147483648 = 0 from by omega]
    rcases Nat.mod_two_eq_zero_or_one s with h | h
    · rw [h]; rfl
    · rw [h]; rfl
  have h1 := key a ha
  have h2 := key b hb
  have h3 : a % 2 = b % 2 := by rw [← h1, ← h2, h]
  have h4 : a / 2 = b / 2 := by
    unfold bst at h
    rw [h3] at h
    exact xor_cancel h
  omega
theorem runB_inj (n : Nat) : ∀ {a b : Nat} (W : Nat), a < 4294967296 → b < 4294967296 → runB n a W = runB n b W → a = b := by
  induction n with
  | zero => exact fun _ _ _ h => h
  | succ n ih =>
    intro a b W ha hb h
    have h1 := ih (W / 2) (bst_lt (xor_lt ha (by omega))) (bst_lt (xor_lt hb (by omega))) h
    have h2 := bst_inj (xor_lt ha (by omega)) (xor_lt hb (by omega)) h1
    exact xor_cancel h2
theorem addL_inj (l : List UInt8) : ∀ {a b : Nat}, a < 4294967296 → b < 4294967296 → addL a l = addL b l → a = b := by
  induction l with
  | nil => exact fun _ _ h => h
  | cons c l ih =>
    intro a b ha hb h
    exact runB_inj 8 c.toNat ha hb (ih (addB_lt ha c) (addB_lt hb c) h)

/-- Bits beside bits. -/
theorem runB_xor (n : Nat) : ∀ s t V W : Nat, runB n (s ^^^ t) (V ^^^ W) = runB n s V ^^^ runB n t W := by
  induction n with
  | zero => exact fun _ _ _ _ => rfl
  | succ n ih =>
    intro s t V W
    show runB n (bst (s ^^^ t ^^^ (V ^^^ W) % 2)) ((V ^^^ W) / 2) = _
    have e : (V ^^^ W) % 2 = V % 2 ^^^ W % 2 := by
      have h := xor_mod2 V W
      rcases Nat.mod_two_eq_zero_or_one V with h1 | h1 <;> rcases Nat.mod_two_eq_zero_or_one W with h2 | h2 <;> rw [h, Nat.add_mod, h1, h2] <;> rfl
    rw [e, xor_half, show s ^^^ t ^^^ (V % 2 ^^^ W % 2) = (s ^^^ V % 2) ^^^ (t ^^^ W % 2) from by ac_rfl, bst_xor, ih]
    rfl
theorem runB_more (m n : Nat) : ∀ s W : Nat, runB (m + n) s W = runB n (runB m s W) (W / 2 ^ m) := by
  induction m with
  | zero => intro s W; simp [runB]
  | succ m ih =>
    intro s W
    rw [show m + 1 + n = (m + n) + 1 from by omega]
    show runB (m + n) _ _ = runB n (runB m _ _) _
    rw [ih, Nat.div_div_eq_div_mul, Nat.pow_succ, Nat.mul_comm 2]
theorem runB_low (n : Nat) : ∀ s W : Nat, runB n s (W % 2 ^ n) = runB n s W := by
  induction n with
  | zero => exact fun _ _ => rfl
  | succ n ih =>
    intro s W
    show runB n (bst (s ^^^ W % 2 ^ (n + 1) % 2)) (W % 2 ^ (n + 1) / 2) = runB n _ (W / 2)
    have e1 : W % 2 ^ (n + 1) % 2 = W % 2 := by rw [Nat.mod_mod_of_dvd]; exact ⟨2 ^ n, by rw [Nat.pow_succ, Nat.mul_comm]⟩
    have e2 : W % 2 ^ (n + 1) / 2 = W / 2 % 2 ^ n := by rw [Nat.pow_succ, Nat.mul_comm, Nat.mod_mul_right_div_self]
    rw [e1, e2, ih]
theorem runB_zero (n : Nat) : runB n 0 0 = 0 := by
  induction n with
  | zero => rfl
  | succ n ih => exact ih
theorem runB_gap (n : Nat) (k W : Nat) (hn : n ≤ k) : runB n 0 (W * 2 ^ k) = 0 := by
  rw [← runB_low]
  have e : W * 2 ^ k % 2 ^ n = 0 := by
    apply Nat.mod_eq_zero_of_dvd
    exact Nat.dvd_trans (Nat.pow_dvd_pow 2 hn) (Nat.dvd_mul_left _ _)
  rw [e, runB_zero]
theorem runB_ne (n : Nat) {s : Nat} (h : s < 4294967296) (h0 : s ≠ 0) : runB n s 0 ≠ 0 := fun e => h0 (runB_inj n 0 h (by decide) (e.trans (runB_zero n).symm))
/-- 32 bits, not all of them 0, lead from 0 to another state. -/
theorem runB_word (u : Nat) (hu : u < 4294967296) (h0 : u ≠ 0) : runB 32 0 u ≠ 0 := by
  have h1 := bstN_eq 32 0 u
  have h2 := bstN_eq 32 u 0
  rw [Nat.zero_xor, Nat.div_eq_of_lt hu, Nat.xor_zero] at h1
  rw [Nat.xor_zero, Nat.zero_div, Nat.xor_zero] at h2
  rw [← h1, h2]
  exact runB_ne 32 hu h0
theorem runB_burst (k u : Nat) (hk : k ≤ 8) (hu : u < 4294967296) (h0 : u ≠ 0) : runB 40 0 (u * 2 ^ k) ≠ 0 := by
  rw [show 40 = k + (32 + (8 - k)) from by omega, runB_more, runB_gap k k u (Nat.le_refl _), Nat.mul_div_cancel _ (Nat.pow_pos (by decide)), runB_more, Nat.div_eq_of_lt hu]
  exact runB_ne _ (runB_lt 32 (by decide)) (runB_word u hu h0)

/-- Five bytes turned. -/
def wideB (W : Nat) (i : Nat) : UInt8 := UInt8.ofNat (W / 256 ^ i % 256)
theorem addB_xor (s t : Nat) (c d : UInt8) : addB (s ^^^ t) (c ^^^ d) = addB s c ^^^ addB t d := by
  unfold addB
  rw [UInt8.toNat_xor]
  exact runB_xor 8 s t _ _
theorem addB_wide (s W i : Nat) : addB s (wideB W i) = runB 8 s (W / 256 ^ i) := by
  unfold addB wideB
  rw [UInt8.toNat_ofNat', show (2 : Nat) ^ 8 = 256 from rfl, Nat.mod_mod, ← runB_low 8 s (W / 256 ^ i)]
theorem five (W : Nat) : addB (addB (addB (addB (addB 0 (wideB W 0)) (wideB W 1)) (wideB W 2)) (wideB W 3)) (wideB W 4) = runB 40 0 W := by
  simp only [addB_wide]
  rw [show 40 = 8 + (8 + (8 + (8 + 8))) from rfl, runB_more, runB_more, runB_more, runB_more]
  simp only [Nat.div_div_eq_div_mul]
  simp
/-- The list with its places at .. at + 4 turned. -/
def turnL (l : List UInt8) (at' : Nat) (W : Nat) (j : Nat) : List UInt8 := (List.range l.length).map fun i => if at' ≤ i ∧ i < at' + j then l.getD i 0 ^^^ wideB W (i - at') else l.getD i 0

theorem turnL_zero (l : List UInt8) (p W : Nat) : turnL l p W 0 = l := by
  apply List.ext_getElem
  · simp [turnL]
  · intro i h1 h2
    have : ¬ (p ≤ i ∧ i < p) := by omega
    simp [turnL, h2, this]
theorem turnL_at (l : List UInt8) (p W j : Nat) (h : p + j < l.length) : (turnL l p W j)[p + j]'(by simp [turnL]; omega) = l.getD (p + j) 0 := by
  simp [turnL, h]
theorem turnL_succ (l : List UInt8) (p W j : Nat) : (turnL l p W j).set (p + j) (l.getD (p + j) 0 ^^^ wideB W j) = turnL l p W (j + 1) := by
  apply List.ext_getElem
  · simp [turnL]
  · intro i h1 h2
    have hi : i < l.length := by simpa [turnL] using h2
    rw [List.getElem_set]
    by_cases he : p + j = i
    · subst he
      rw [if_pos rfl]
      have e : p ≤ p + j ∧ p + j < p + (j + 1) := by omega
      simp only [turnL, List.getElem_map, List.getElem_range]
      rw [if_pos e, Nat.add_sub_cancel_left]
    · rw [if_neg he]
      simp only [turnL, List.getElem_map, List.getElem_range]
      by_cases h3 : p ≤ i ∧ i < p + j
      · rw [if_pos h3, if_pos (by omega)]
      · rw [if_neg h3, if_neg (by omega)]

theorem sum_ne (l : List UInt8) (p W : Nat) (h : p + 5 ≤ l.length) (hW : runB 40 0 W ≠ 0) : sumL (turnL l p W 5) ≠ sumL l := by
  intro he
  have he' : addL 4294967295 (turnL l p W 5) = addL 4294967295 l := xor_cancel he
  obtain ⟨a, b0, b1, b2, b3, b4, c, hl, ha⟩ : ∃ a b0 b1 b2 b3 b4 c, l = a ++ ([b0, b1, b2, b3, b4] ++ c) ∧ a.length = p := by
    refine ⟨l.take p, l[p]'(by omega), l[p + 1]'(by omega), l[p + 2]'(by omega), l[p + 3]'(by omega), l[p + 4]'(by omega), l.drop (p + 5), ?_, by simp; omega⟩
    conv => lhs; rw [← List.take_append_drop p l]
    congr 1
    rw [List.drop_eq_getElem_cons (by omega), List.drop_eq_getElem_cons (by omega), List.drop_eq_getElem_cons (by omega), List.drop_eq_getElem_cons (by omega), List.drop_eq_getElem_cons (by omega)]
    rfl
  have ht : turnL l p W 5 = a ++ ([b0 ^^^ wideB W 0, b1 ^^^ wideB W 1, b2 ^^^ wideB W 2, b3 ^^^ wideB W 3, b4 ^^^ wideB W 4] ++ c) := by
    apply List.ext_getElem?
    intro i
    unfold turnL
    rw [List.getElem?_map]
    by_cases hi : i < l.length
    · rw [List.getElem?_range hi]
      subst ha
      subst hl
      simp only [Option.map_some, List.getD]
      by_cases h1 : i < a.length
      · rw [if_neg (by omega), List.getElem?_append_left h1, List.getElem?_append_left h1, List.getElem?_eq_getElem h1]
        rfl
      · obtain ⟨j, rfl⟩ : ∃ j, i = a.length + j := ⟨i - a.length, by omega⟩
        have e1 : ∀ x : List UInt8, (a ++ x)[a.length + j]? = x[j]? := fun x => by rw [List.getElem?_append_right (by omega), Nat.add_sub_cancel_left]
        rw [e1, e1]
        by_cases h2 : j < 5
        · rw [if_pos (by omega), Nat.add_sub_cancel_left]
          obtain rfl | rfl | rfl | rfl | rfl : j = 0 ∨ j = 1 ∨ j = 2 ∨ j = 3 ∨ j = 4 := by omega
          all_goals rfl
        · rw [if_neg (by omega)]
          obtain ⟨k, rfl⟩ : ∃ k, j = k + 5 := ⟨j - 5, by omega⟩
          simp at hi
          simp [List.getElem?_eq_getElem (show k < c.length by omega)]
    · rw [List.getElem?_eq_none (by simp; omega), List.getElem?_eq_none (by subst hl; simp at hi ⊢; omega)]
      rfl
  rw [ht, hl, addL_append, addL_append, addL_append, addL_append] at he'
  have h5 := addL_inj c (addL_lt _ (addL_lt _ (by decide))) (addL_lt _ (addL_lt _ (by decide))) he'
  generalize addL 4294967295 a = s at h5
  simp only [addL, List.foldl_cons, List.foldl_nil] at h5
  have hx : ∀ (t : Nat) (b : UInt8) (d : UInt8), addB (s ^^^ t) (b ^^^ d) = addB s b ^^^ addB t d := fun t b d => addB_xor s t b d
  have h6 : addB (addB (addB (addB (addB s (b0 ^^^ wideB W 0)) (b1 ^^^ wideB W 1)) (b2 ^^^ wideB W 2)) (b3 ^^^ wideB W 3)) (b4 ^^^ wideB W 4) = addB (addB (addB (addB (addB s b0) b1) b2) b3) b4 ^^^ runB 40 0 W := by
    rw [← five]
    conv => lhs; rw [← Nat.xor_zero s]
    simp only [addB_xor]
  rw [h6] at h5
  apply hW
  generalize addB (addB (addB (addB (addB s b0) b1) b2) b3) b4 = z at h5
  generalize runB 40 0 W = y at h5
  have : z ^^^ (z ^^^ y) = z ^^^ z := by rw [h5]
  rw [← Nat.xor_assoc, Nat.xor_self, Nat.zero_xor] at this
  exact this
end Go.Proofs.Ytlinafnhhnkjnaa
namespace Go.Proofs.Ytlinafnhhnkjnaa
open Go.RowKit

theorem spread32 (t : Nat) (ht : t < 4294967296) : bits .xor .u32 ((t : Int) / 2) (bits .and .u32 3988292384 (-bits .and .u32 (t : Int) 1 % 4294967296)) = (bst t : Nat) := by
  have e1 : bits .and .u32 (t : Int) 1 = ((t % 2 : Nat) : Int) := by
    have h := u32_and_nat t 1 ht (by decide)
    rw [nat_mask1] at h
    exact h
  have e2 : (-((t % 2 : Nat) : Int)) % 4294967296 = (((4294967296 - t % 2) % 4294967296 : Nat) : Int) := by omega
  have e3 := u32_and_nat 3988292384 ((4294967296 - t % 2) % 4294967296) (by decide) (Nat.mod_lt _ (by decide))
  have e4 := u32_xor_nat (t / 2) (3988292384 &&& ((4294967296 - t % 2) % 4294967296)) (by omega) (Nat.lt_of_le_of_lt Nat.and_le_left (by decide))
  rw [bst_spread, ← e3] at e4
  rw [e1, e2]
  exact e4

theorem addByte_any (s : Nat) (c : UInt8) (w : World) (hs : s < 4294967296) :
    Calls Try.prog 54 #[.int .u32 s, .int .u8 (c.toNat : Int)] w fun e w' => e = .returned (.int .u32 (addB s c : Nat)) ∧ w = w' := by
  go_enter Try.func54, Try.ntmps54
  go_wp2
  go_loop [0, 10] (fun v i => ∃ j t : Nat, j ≤ 8 ∧ t < 4294967296 ∧ bstN (8 - j) t = addB s c ∧ i = .int .i64 j ∧ v = .int .u32 t) (fun _ i => 8 - (intOf i).toNat)
  case atStart =>
    have hc := c.toNat_lt
    refine ⟨0, s ^^^ c.toNat, by omega, xor_lt hs (by omega), bstN_byte s c, rfl, ?_⟩
    rw [show ((c.toNat : Int) % 4294967296) = (c.toNat : Int) from by omega, u32_xor_nat _ _ hs (by omega)]
  case round =>
    obtain ⟨j, t, hj, ht, he, rfl, rfl⟩ := hrel
    have HE := Lib.hid he
    clear he
    by_cases hlt : j < 8
    · go_wp2
      go_round
      case rel =>
        refine ⟨j + 1, bst t, by omega, bst_lt ht, ?_, by go_num, by rw [spread32 t ht]⟩
        rw [← HE.out, show 8 - j = (8 - (j + 1)) + 1 from by omega]
        rfl
      case measure => simp [intOf]; omega
    · go_wp2
      go_ret
      obtain rfl : j = 8 := by omega
      exact ⟨ret_int (by rw [← HE.out]; rfl), rfl⟩

theorem Start_any (w : World) : Calls Try.prog 46 #[] w fun e w' => e = .returned (.int .u32 4294967295) ∧ w = w' := by
  go_enter Try.func46, Try.ntmps46
  go_wp2
  go_ret
  exact ⟨rfl, rfl⟩

theorem End_any (s : Nat) (w : World) (hs : s < 4294967296) : Calls Try.prog 48 #[.int .u32 s] w fun e w' => e = .returned (.int .u32 (s ^^^ 4294967295 : Nat)) ∧ w = w' := by
  go_enter Try.func48, Try.ntmps48
  go_wp2
  go_ret
  exact ⟨ret_int (u32_xor_nat s 4294967295 hs (by decide)), rfl⟩

theorem take_snoc' {α : Type} (l : List α) (j : Nat) (h : j < l.length) : l.take (j + 1) = l.take j ++ [l[j]] := by
  rw [List.take_succ_eq_append_getElem h]

theorem Add_any (s : Nat) (A : Option Addr) (n c : Nat) (l : List UInt8) (w : World) (hs : s < 4294967296) (hr : Rd w A n l) (hn : n ≤ 1099511627776) :
    Calls Try.prog 47 #[.int .u32 s, .slice A n c] w fun e w' => e = .returned (.int .u32 (addL s l : Nat)) ∧ w = w' := by
  go_enter Try.func47, Try.ntmps47
  go_wp2
  go_loop [0, 9] (fun v i => ∃ j : Nat, j ≤ n ∧ i = .int .i64 j ∧ v = .int .u32 (addL s (l.take j) : Nat)) (fun _ i => n - (intOf i).toNat)
  case atStart => exact ⟨0, Nat.zero_le _, rfl, rfl⟩
  case round =>
    obtain ⟨j, hj, rfl, rfl⟩ := hrel
    by_cases hlt : j < n
    · obtain ⟨b, o, rfl, _, hcell⟩ := hr.at_ hlt
      have hsn := take_snoc' l j (by have := hr.1; omega)
      have HS := Lib.hid hsn
      clear hsn
      have ha := addL_lt (l.take j) hs
      go_wp2_with (go_at_call 54; refine (addByte_any _ _ _ ha).mono ?_; rintro e w' ⟨rfl, rfl⟩)
      go_round
      case rel => exact ⟨j + 1, hlt, by go_num, by rw [HS.out, addL_snoc]⟩
      case measure => simp [intOf]; omega
    · go_wp2
      go_ret
      exact ⟨ret_int (by rw [List.take_of_length_le (by have := hr.1; omega)]), rfl⟩
end Go.Proofs.Ytlinafnhhnkjnaa
