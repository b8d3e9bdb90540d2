/- The contracts of the reference's Bytes and of live (written by gen_cdg.py). -/
import Derived.Test.YtieinkndcbobfaaCdF
import Derived.Test.YtieinkndcbobfaaLe4s
namespace Go.Proofs.Ytieinkndcbobfaa
open Go.RowKit
set_option linter.unusedVariables false
set_option maxRecDepth 20000

theorem numB_11 : numB 1 1 = [1] := by decide
theorem numB_10 : numB 1 0 = [0] := by decide
theorem CdAt.low {w0 w w' : World} {g : Nat} {x : Cd} {A : Option Addr} {n c B : Nat} (h : CdAt w0 w g x A n c) (hb : Below B w w') (hgB : g < B) (hw : w0.heap.size ≤ B) (hA : ∀ b o, A = some ⟨b, o, none⟩ → 0 < n → b < B) : CdAt w0 w' g x A n c :=
  ⟨h.r.below hb hgB, h.rd.below' hb (fun hn => by obtain ⟨b, o, e, _⟩ := h.rd.2 hn; exact ⟨b, o, e, hA b o e hn⟩), h.bel.trans (hb.mono hw), h.hg⟩
theorem RNumS_any (width : Nat) (h1 : 1 ≤ width) (h8 : width ≤ 8) (x : Int) (w : World) : Calls Try.prog 21 #[.int .i64 width, .int .i64 x] w fun e w' => ∃ v, e = .returned v ∧ w'.ownsRow w.heap.size 5 1 v width (cells (numB width x)) ∧ Below w.heap.size w w' := by
  have hw : wd (width : Int) = width := by have := wd_cast (width : Int); omega
  have h := Num_any width x w
  rw [hw] at h
  exact h
theorem Rd.lo' {w : World} {A : Option Addr} {n : Nat} {l : List UInt8} (h : Rd w A n l) (b o : Nat) (e : A = some ⟨b, o, none⟩) (hp : 0 < n) : b < w.heap.size := by
  obtain ⟨b', o', e', hlt, _⟩ := h.2 hp
  rw [e] at e'
  injection e' with e'
  injection e' with e1 e2
  omega

theorem RBytes_o (x : Cd) (hd : x.d < 0 ∨ 3 < x.d) (A : Option Addr) (n c : Nat) (w : World) (h : Rd w A n x.dt) :
    Calls Try.prog 9 #[.agg (x.cs A n c)] w (GotS w x.bytes) := by
  obtain ⟨w1, hw1⟩ : ∃ w1, w1 = w.alloc (.cells (x.cs A n c) 26) := ⟨_, rfl⟩
  have K1 : CdAt w w1 w.heap.size x A n c := by rw [hw1]; exact CdAt.new w x A n c h
  have HX := Lib.hid (show x.bytes = [255] by simp [Cd.bytes, show ¬ x.d = 0 by omega, show ¬ x.d = 1 by omega, show ¬ x.d = 2 by omega, show ¬ x.d = 3 by omega])
  have c0 := K1.c0
  have HK := Lib.hid K1
  obtain ⟨d, e⟩ : ∃ d, d = x.d := ⟨_, rfl⟩
  rw [← e] at c0 hd
  clear h K1 e
  rcases hd with hd | hd
  all_goals
    go_enter Try.func9, Try.ntmps9
    go_wp2_with (rw [← hw1]; clear hw1)
    go_ret
    rw [HX.out]
    exact ⟨_, _, _, rfl, Rd.new w1 5 [255] (0, 0), Nat.le_refl _, HK.out.bel.alloc HK.out.bel.size _⟩

set_option maxHeartbeats 2000000 in
theorem RBytes_0f (ix gn cp : Int) (dt : List UInt8) (A : Option Addr) (n c : Nat) (w : World) (h : Rd w A n dt) (hn : n ≤ 1000000) :
    Calls Try.prog 9 #[.agg (Cd.cs ⟨0, false, ix, gn, cp, dt⟩ A n c)] w (GotS w (Cd.mk 0 false ix gn cp dt).bytes) := by
  obtain ⟨w1, hw1⟩ : ∃ w1, w1 = w.alloc (.cells (Cd.cs ⟨0, false, ix, gn, cp, dt⟩ A n c) 26) := ⟨_, rfl⟩
  have K1 : CdAt w w1 w.heap.size ⟨0, false, ix, gn, cp, dt⟩ A n c := by rw [hw1]; exact CdAt.new w ⟨0, false, ix, gn, cp, dt⟩ A n c h
  have HA := Lib.hid (fun b o (e : A = some ⟨b, o, none⟩) hp => Nat.lt_trans (h.lo' b o e hp) K1.r.lt)
  have HLT := Lib.hid (And.intro K1.r.lt K1.bel.size)
  have c0 := K1.c0
  have CN1 := Lib.hid (RNumS_any 1 (by decide) (by decide) 0 w1)
  have HX := Lib.hid (show (Cd.mk 0 false ix gn cp dt).bytes = numB 1 0 by rfl)
  have HK1 := Lib.hid K1
  clear h K1
  go_enter Try.func9, Try.ntmps9
  go_wp2_with (first
    | (rw [← hw1]; clear hw1)
    | (go_at_call 21; have _t := CN1; refine CN1.out.mono ?_; rintro e w2 ⟨v2, rfl, ho2, hb2⟩
       have K2 := HK1.out.next hb2
       have q0 := K2.c0
       have HK2 := Lib.hid K2
       have HO2 := Lib.hid (And.intro ho2 hb2.size)
       clear K2 ho2 hb2 CN1 c0))
  go_ret
  rw [HX.out]
  exact GotS.own (own_mono HO2.out.1 HLT.out.2) HK2.out.bel

set_option maxHeartbeats 2000000 in
theorem RBytes_0t (ix gn cp : Int) (dt : List UInt8) (A : Option Addr) (n c : Nat) (w : World) (h : Rd w A n dt) (hn : n ≤ 1000000) :
    Calls Try.prog 9 #[.agg (Cd.cs ⟨0, true, ix, gn, cp, dt⟩ A n c)] w (GotS w (Cd.mk 0 true ix gn cp dt).bytes) := by
  obtain ⟨w1, hw1⟩ : ∃ w1, w1 = w.alloc (.cells (Cd.cs ⟨0, true, ix, gn, cp, dt⟩ A n c) 26) := ⟨_, rfl⟩
  have K1 : CdAt w w1 w.heap.size ⟨0, true, ix, gn, cp, dt⟩ A n c := by rw [hw1]; exact CdAt.new w ⟨0, true, ix, gn, cp, dt⟩ A n c h
  have HA := Lib.hid (fun b o (e : A = some ⟨b, o, none⟩) hp => Nat.lt_trans (h.lo' b o e hp) K1.r.lt)
  have HLT := Lib.hid (And.intro K1.r.lt K1.bel.size)
  have c0 := K1.c0
  have CN1 := Lib.hid (RNumS_any 1 (by decide) (by decide) 0 w1)
  have HX := Lib.hid (show (Cd.mk 0 true ix gn cp dt).bytes = numB 1 0 by rfl)
  have HK1 := Lib.hid K1
  clear h K1
  go_enter Try.func9, Try.ntmps9
  go_wp2_with (first
    | (rw [← hw1]; clear hw1)
    | (go_at_call 21; have _t := CN1; refine CN1.out.mono ?_; rintro e w2 ⟨v2, rfl, ho2, hb2⟩
       have K2 := HK1.out.next hb2
       have q0 := K2.c0
       have HK2 := Lib.hid K2
       have HO2 := Lib.hid (And.intro ho2 hb2.size)
       clear K2 ho2 hb2 CN1 c0))
  go_ret
  rw [HX.out]
  exact GotS.own (own_mono HO2.out.1 HLT.out.2) HK2.out.bel

set_option maxHeartbeats 2000000 in
theorem RBytes_1f (ix gn cp : Int) (dt : List UInt8) (A : Option Addr) (n c : Nat) (w : World) (h : Rd w A n dt) (hn : n ≤ 1000000) :
    Calls Try.prog 9 #[.agg (Cd.cs ⟨1, false, ix, gn, cp, dt⟩ A n c)] w (GotS w (Cd.mk 1 false ix gn cp dt).bytes) := by
  obtain ⟨w1, hw1⟩ : ∃ w1, w1 = w.alloc (.cells (Cd.cs ⟨1, false, ix, gn, cp, dt⟩ A n c) 26) := ⟨_, rfl⟩
  have K1 : CdAt w w1 w.heap.size ⟨1, false, ix, gn, cp, dt⟩ A n c := by rw [hw1]; exact CdAt.new w ⟨1, false, ix, gn, cp, dt⟩ A n c h
  have HA := Lib.hid (fun b o (e : A = some ⟨b, o, none⟩) hp => Nat.lt_trans (h.lo' b o e hp) K1.r.lt)
  have HLT := Lib.hid (And.intro K1.r.lt K1.bel.size)
  have c0 := K1.c0
  have c1 := K1.c1
  have CN1 := Lib.hid (RNumS_any 1 (by decide) (by decide) 1 w1)
  have HX := Lib.hid (show (Cd.mk 1 false ix gn cp dt).bytes = numB 1 1 ++ [0] ++ numB 8 ix ++ numB 8 gn by simp [Cd.bytes, Cd.tgt, numB_10])
  have HK1 := Lib.hid K1
  clear h K1
  go_enter Try.func9, Try.ntmps9
  go_wp2_with (first
    | (rw [← hw1]; clear hw1)
    | (go_at_call 21; have _t := CN1; refine CN1.out.mono ?_; rintro e w2 ⟨v2, rfl, ho2, hb2⟩
       have K2 := HK1.out.next hb2
       have q0 := K2.c0; have q1 := K2.c1; have q2 := K2.c2; have q3 := K2.c3; have q4 := K2.c4; have q5 := K2.c5
       have HK2 := Lib.hid K2
       have HO2 := Lib.hid (And.intro ho2 hb2.size)
       clear K2 ho2 hb2 CN1 c0 c1)
    | (at_builtin; have _t := HO2; refine wpList_app _ bytesT rfl (.tmp 31) (.tmp 32) rfl w1.heap.size v2 _ _ rfl (own_keep HO2.out.1 ((Below.refl _ _).alloc (Nat.le_refl _) _)) _ 1 1 [0] rfl (Rd.new w2 5 [0] (0, 0)) (by omega) (by have := HO2.out.2; simp; omega) ?_; intro v3 w3 ho3 hb3
       rw [← cells_append] at ho3
       have hal : Below w2.heap.size w2 (w2.alloc (.cells #[.int .u8 0] 5)) := (Below.refl _ _).alloc (Nat.le_refl _) _
       have K3 := (HK2.out.next hal).low hb3 HLT.out.1 HLT.out.2 HA.out
       have q0 := K3.c0; have q1 := K3.c1; have q2 := K3.c2; have q3 := K3.c3; have q4 := K3.c4; have q5 := K3.c5
       have HK3 := Lib.hid K3
       have HO3 := Lib.hid (And.intro ho3 (Nat.le_trans HO2.out.2 (Nat.le_trans hal.size hb3.size)))
       have CN3 := Lib.hid (RNumS_any 8 (by decide) (by decide) ix w3)
       clear K3 ho3 hb3 hal HO2)
    | (go_at_call 21; have _t := CN3; refine CN3.out.mono ?_; rintro e w4 ⟨v4, rfl, ho4, hb4⟩
       obtain ⟨A4, cc4, rfl, _, _, hr4⟩ := Rd.of_own ho4 rfl
       have HK4 := Lib.hid (HK3.out.next hb4)
       have HO4 := Lib.hid (And.intro (own_keep HO3.out.1 hb4) (Nat.le_trans HO3.out.2 hb4.size))
       have HR4 := Lib.hid hr4
       clear hr4 ho4 hb4 CN3)
    | (at_builtin; have _t := HR4; refine wpList_app _ bytesT rfl (.tmp 34) (.tmp 38) rfl w1.heap.size v3 _ _ rfl HO4.out.1 A4 8 cc4 _ rfl HR4.out (by omega) HO4.out.2 ?_; intro v5 w5 ho5 hb5
       rw [← cells_append] at ho5
       have K5 := HK4.out.low hb5 HLT.out.1 HLT.out.2 HA.out
       have q0 := K5.c0; have q1 := K5.c1; have q2 := K5.c2; have q3 := K5.c3; have q4 := K5.c4; have q5 := K5.c5
       have HK5 := Lib.hid K5
       have HO5 := Lib.hid (And.intro ho5 (Nat.le_trans HO4.out.2 hb5.size))
       have CN5 := Lib.hid (RNumS_any 8 (by decide) (by decide) gn w5)
       clear K5 ho5 hb5 HR4)
    | (go_at_call 21; have _t := CN5; refine CN5.out.mono ?_; rintro e w6 ⟨v6, rfl, ho6, hb6⟩
       obtain ⟨A6, cc6, rfl, _, _, hr6⟩ := Rd.of_own ho6 rfl
       have HK6 := Lib.hid (HK5.out.next hb6)
       have HO6 := Lib.hid (And.intro (own_keep HO5.out.1 hb6) (Nat.le_trans HO5.out.2 hb6.size))
       have HR6 := Lib.hid hr6
       clear hr6 ho6 hb6 CN5)
    | (at_builtin; have _t := HR6; refine wpList_app _ bytesT rfl (.tmp 40) (.tmp 44) rfl w1.heap.size v5 _ _ rfl HO6.out.1 A6 8 cc6 _ rfl HR6.out (by omega) HO6.out.2 ?_; intro v7 w7 ho7 hb7
       rw [← cells_append] at ho7
       have K7 := HK6.out.low hb7 HLT.out.1 HLT.out.2 HA.out
       have q0 := K7.c0; have q1 := K7.c1; have q2 := K7.c2; have q3 := K7.c3; have q4 := K7.c4; have q5 := K7.c5
       have HK7 := Lib.hid K7
       have HO7 := Lib.hid (And.intro ho7 (Nat.le_trans HO6.out.2 hb7.size))
       clear K7 ho7 hb7 HR6))
  go_ret
  rw [HX.out]
  exact GotS.own (own_mono HO7.out.1 HLT.out.2) HK7.out.bel

set_option maxHeartbeats 2000000 in
theorem RBytes_1t (ix gn cp : Int) (dt : List UInt8) (A : Option Addr) (n c : Nat) (w : World) (h : Rd w A n dt) (hn : n ≤ 1000000) :
    Calls Try.prog 9 #[.agg (Cd.cs ⟨1, true, ix, gn, cp, dt⟩ A n c)] w (GotS w (Cd.mk 1 true ix gn cp dt).bytes) := by
  obtain ⟨w1, hw1⟩ : ∃ w1, w1 = w.alloc (.cells (Cd.cs ⟨1, true, ix, gn, cp, dt⟩ A n c) 26) := ⟨_, rfl⟩
  have K1 : CdAt w w1 w.heap.size ⟨1, true, ix, gn, cp, dt⟩ A n c := by rw [hw1]; exact CdAt.new w ⟨1, true, ix, gn, cp, dt⟩ A n c h
  have HA := Lib.hid (fun b o (e : A = some ⟨b, o, none⟩) hp => Nat.lt_trans (h.lo' b o e hp) K1.r.lt)
  have HLT := Lib.hid (And.intro K1.r.lt K1.bel.size)
  have c0 := K1.c0
  have c1 := K1.c1
  have CN1 := Lib.hid (RNumS_any 1 (by decide) (by decide) 1 w1)
  have HX := Lib.hid (show (Cd.mk 1 true ix gn cp dt).bytes = numB 1 1 ++ [1] ++ numB 8 ix by simp [Cd.bytes, Cd.tgt, numB_11])
  have HK1 := Lib.hid K1
  clear h K1
  go_enter Try.func9, Try.ntmps9
  go_wp2_with (first
    | (rw [← hw1]; clear hw1)
    | (go_at_call 21; have _t := CN1; refine CN1.out.mono ?_; rintro e w2 ⟨v2, rfl, ho2, hb2⟩
       have K2 := HK1.out.next hb2
       have q0 := K2.c0; have q1 := K2.c1; have q2 := K2.c2; have q3 := K2.c3; have q4 := K2.c4; have q5 := K2.c5
       have HK2 := Lib.hid K2
       have HO2 := Lib.hid (And.intro ho2 hb2.size)
       clear K2 ho2 hb2 CN1 c0 c1)
    | (at_builtin; have _t := HO2; refine wpList_app _ bytesT rfl (.tmp 22) (.tmp 23) rfl w1.heap.size v2 _ _ rfl (own_keep HO2.out.1 ((Below.refl _ _).alloc (Nat.le_refl _) _)) _ 1 1 [1] rfl (Rd.new w2 5 [1] (0, 0)) (by omega) (by have := HO2.out.2; simp; omega) ?_; intro v3 w3 ho3 hb3
       rw [← cells_append] at ho3
       have hal : Below w2.heap.size w2 (w2.alloc (.cells #[.int .u8 1] 5)) := (Below.refl _ _).alloc (Nat.le_refl _) _
       have K3 := (HK2.out.next hal).low hb3 HLT.out.1 HLT.out.2 HA.out
       have q0 := K3.c0; have q1 := K3.c1; have q2 := K3.c2; have q3 := K3.c3; have q4 := K3.c4; have q5 := K3.c5
       have HK3 := Lib.hid K3
       have HO3 := Lib.hid (And.intro ho3 (Nat.le_trans HO2.out.2 (Nat.le_trans hal.size hb3.size)))
       have CN3 := Lib.hid (RNumS_any 8 (by decide) (by decide) ix w3)
       clear K3 ho3 hb3 hal HO2)
    | (go_at_call 21; have _t := CN3; refine CN3.out.mono ?_; rintro e w4 ⟨v4, rfl, ho4, hb4⟩
       obtain ⟨A4, cc4, rfl, _, _, hr4⟩ := Rd.of_own ho4 rfl
       have HK4 := Lib.hid (HK3.out.next hb4)
       have HO4 := Lib.hid (And.intro (own_keep HO3.out.1 hb4) (Nat.le_trans HO3.out.2 hb4.size))
       have HR4 := Lib.hid hr4
       clear hr4 ho4 hb4 CN3)
    | (at_builtin; have _t := HR4; refine wpList_app _ bytesT rfl (.tmp 25) (.tmp 29) rfl w1.heap.size v3 _ _ rfl HO4.out.1 A4 8 cc4 _ rfl HR4.out (by omega) HO4.out.2 ?_; intro v5 w5 ho5 hb5
       rw [← cells_append] at ho5
       have K5 := HK4.out.low hb5 HLT.out.1 HLT.out.2 HA.out
       have q0 := K5.c0; have q1 := K5.c1; have q2 := K5.c2; have q3 := K5.c3; have q4 := K5.c4; have q5 := K5.c5
       have HK5 := Lib.hid K5
       have HO5 := Lib.hid (And.intro ho5 (Nat.le_trans HO4.out.2 hb5.size))
       clear K5 ho5 hb5 HR4))
  go_ret
  rw [HX.out]
  exact GotS.own (own_mono HO5.out.1 HLT.out.2) HK5.out.bel

set_option maxHeartbeats 2000000 in
theorem RBytes_2f (ix gn cp : Int) (dt : List UInt8) (A : Option Addr) (n c : Nat) (w : World) (h : Rd w A n dt) (hn : n ≤ 1000000) :
    Calls Try.prog 9 #[.agg (Cd.cs ⟨2, false, ix, gn, cp, dt⟩ A n c)] w (GotS w (Cd.mk 2 false ix gn cp dt).bytes) := by
  obtain ⟨w1, hw1⟩ : ∃ w1, w1 = w.alloc (.cells (Cd.cs ⟨2, false, ix, gn, cp, dt⟩ A n c) 26) := ⟨_, rfl⟩
  have K1 : CdAt w w1 w.heap.size ⟨2, false, ix, gn, cp, dt⟩ A n c := by rw [hw1]; exact CdAt.new w ⟨2, false, ix, gn, cp, dt⟩ A n c h
  have HA := Lib.hid (fun b o (e : A = some ⟨b, o, none⟩) hp => Nat.lt_trans (h.lo' b o e hp) K1.r.lt)
  have HLT := Lib.hid (And.intro K1.r.lt K1.bel.size)
  have c0 := K1.c0
  have c1 := K1.c1
  have CN1 := Lib.hid (RNumS_any 1 (by decide) (by decide) 2 w1)
  have HX := Lib.hid (show (Cd.mk 2 false ix gn cp dt).bytes = numB 1 2 ++ [0] ++ numB 8 ix ++ numB 8 gn ++ numB 8 cp ++ numB 2 n ++ dt by have e : (n : Int) = (dt.length : Nat) := (by rw [h.1]); rw [e]; simp [Cd.bytes, Cd.tgt, numB_10])
  have HK1 := Lib.hid K1
  clear h K1
  go_enter Try.func9, Try.ntmps9
  go_wp2_with (first
    | (rw [← hw1]; clear hw1)
    | (go_at_call 21; have _t := CN1; refine CN1.out.mono ?_; rintro e w2 ⟨v2, rfl, ho2, hb2⟩
       have K2 := HK1.out.next hb2
       have q0 := K2.c0; have q1 := K2.c1; have q2 := K2.c2; have q3 := K2.c3; have q4 := K2.c4; have q5 := K2.c5
       have HK2 := Lib.hid K2
       have HO2 := Lib.hid (And.intro ho2 hb2.size)
       clear K2 ho2 hb2 CN1 c0 c1)
    | (at_builtin; have _t := HO2; refine wpList_app _ bytesT rfl (.tmp 31) (.tmp 32) rfl w1.heap.size v2 _ _ rfl (own_keep HO2.out.1 ((Below.refl _ _).alloc (Nat.le_refl _) _)) _ 1 1 [0] rfl (Rd.new w2 5 [0] (0, 0)) (by omega) (by have := HO2.out.2; simp; omega) ?_; intro v3 w3 ho3 hb3
       rw [← cells_append] at ho3
       have hal : Below w2.heap.size w2 (w2.alloc (.cells #[.int .u8 0] 5)) := (Below.refl _ _).alloc (Nat.le_refl _) _
       have K3 := (HK2.out.next hal).low hb3 HLT.out.1 HLT.out.2 HA.out
       have q0 := K3.c0; have q1 := K3.c1; have q2 := K3.c2; have q3 := K3.c3; have q4 := K3.c4; have q5 := K3.c5
       have HK3 := Lib.hid K3
       have HO3 := Lib.hid (And.intro ho3 (Nat.le_trans HO2.out.2 (Nat.le_trans hal.size hb3.size)))
       have CN3 := Lib.hid (RNumS_any 8 (by decide) (by decide) ix w3)
       clear K3 ho3 hb3 hal HO2)
    | (go_at_call 21; have _t := CN3; refine CN3.out.mono ?_; rintro e w4 ⟨v4, rfl, ho4, hb4⟩
       obtain ⟨A4, cc4, rfl, _, _, hr4⟩ := Rd.of_own ho4 rfl
       have HK4 := Lib.hid (HK3.out.next hb4)
       have HO4 := Lib.hid (And.intro (own_keep HO3.out.1 hb4) (Nat.le_trans HO3.out.2 hb4.size))
       have HR4 := Lib.hid hr4
       clear hr4 ho4 hb4 CN3)
    | (at_builtin; have _t := HR4; refine wpList_app _ bytesT rfl (.tmp 34) (.tmp 38) rfl w1.heap.size v3 _ _ rfl HO4.out.1 A4 8 cc4 _ rfl HR4.out (by omega) HO4.out.2 ?_; intro v5 w5 ho5 hb5
       rw [← cells_append] at ho5
       have K5 := HK4.out.low hb5 HLT.out.1 HLT.out.2 HA.out
       have q0 := K5.c0; have q1 := K5.c1; have q2 := K5.c2; have q3 := K5.c3; have q4 := K5.c4; have q5 := K5.c5
       have HK5 := Lib.hid K5
       have HO5 := Lib.hid (And.intro ho5 (Nat.le_trans HO4.out.2 hb5.size))
       have CN5 := Lib.hid (RNumS_any 8 (by decide) (by decide) gn w5)
       clear K5 ho5 hb5 HR4)
    | (go_at_call 21; have _t := CN5; refine CN5.out.mono ?_; rintro e w6 ⟨v6, rfl, ho6, hb6⟩
       obtain ⟨A6, cc6, rfl, _, _, hr6⟩ := Rd.of_own ho6 rfl
       have HK6 := Lib.hid (HK5.out.next hb6)
       have HO6 := Lib.hid (And.intro (own_keep HO5.out.1 hb6) (Nat.le_trans HO5.out.2 hb6.size))
       have HR6 := Lib.hid hr6
       clear hr6 ho6 hb6 CN5)
    | (at_builtin; have _t := HR6; refine wpList_app _ bytesT rfl (.tmp 40) (.tmp 44) rfl w1.heap.size v5 _ _ rfl HO6.out.1 A6 8 cc6 _ rfl HR6.out (by omega) HO6.out.2 ?_; intro v7 w7 ho7 hb7
       rw [← cells_append] at ho7
       have K7 := HK6.out.low hb7 HLT.out.1 HLT.out.2 HA.out
       have q0 := K7.c0; have q1 := K7.c1; have q2 := K7.c2; have q3 := K7.c3; have q4 := K7.c4; have q5 := K7.c5
       have HK7 := Lib.hid K7
       have HO7 := Lib.hid (And.intro ho7 (Nat.le_trans HO6.out.2 hb7.size))
       have CN7 := Lib.hid (RNumS_any 8 (by decide) (by decide) cp w7)
       clear K7 ho7 hb7 HR6)
    | (go_at_call 21; have _t := CN7; refine CN7.out.mono ?_; rintro e w8 ⟨v8, rfl, ho8, hb8⟩
       obtain ⟨A8, cc8, rfl, _, _, hr8⟩ := Rd.of_own ho8 rfl
       have HK8 := Lib.hid (HK7.out.next hb8)
       have HO8 := Lib.hid (And.intro (own_keep HO7.out.1 hb8) (Nat.le_trans HO7.out.2 hb8.size))
       have HR8 := Lib.hid hr8
       clear hr8 ho8 hb8 CN7)
    | (at_builtin; have _t := HR8; refine wpList_app _ bytesT rfl (.tmp 49) (.tmp 52) rfl w1.heap.size v7 _ _ rfl HO8.out.1 A8 8 cc8 _ rfl HR8.out (by omega) HO8.out.2 ?_; intro v9 w9 ho9 hb9
       rw [← cells_append] at ho9
       have K9 := HK8.out.low hb9 HLT.out.1 HLT.out.2 HA.out
       have q0 := K9.c0; have q1 := K9.c1; have q2 := K9.c2; have q3 := K9.c3; have q4 := K9.c4; have q5 := K9.c5
       have HK9 := Lib.hid K9
       have HO9 := Lib.hid (And.intro ho9 (Nat.le_trans HO8.out.2 hb9.size))
       have CN9 := Lib.hid (RNumS_any 2 (by decide) (by decide) n w9)
       clear K9 ho9 hb9 HR8)
    | (go_at_call 21; have _t := CN9; refine CN9.out.mono ?_; rintro e w10 ⟨v10, rfl, ho10, hb10⟩
       obtain ⟨A10, cc10, rfl, _, _, hr10⟩ := Rd.of_own ho10 rfl
       have HK10 := Lib.hid (HK9.out.next hb10)
       have HO10 := Lib.hid (And.intro (own_keep HO9.out.1 hb10) (Nat.le_trans HO9.out.2 hb10.size))
       have HR10 := Lib.hid hr10
       clear hr10 ho10 hb10 CN9)
    | (at_builtin; have _t := HR10; refine wpList_app _ bytesT rfl (.tmp 57) (.tmp 61) rfl w1.heap.size v9 _ _ rfl HO10.out.1 A10 2 cc10 _ rfl HR10.out (by omega) HO10.out.2 ?_; intro v11 w11 ho11 hb11
       rw [← cells_append] at ho11
       have K11 := HK10.out.low hb11 HLT.out.1 HLT.out.2 HA.out
       have q0 := K11.c0; have q1 := K11.c1; have q2 := K11.c2; have q3 := K11.c3; have q4 := K11.c4; have q5 := K11.c5
       have HK11 := Lib.hid K11
       have HO11 := Lib.hid (And.intro ho11 (Nat.le_trans HO10.out.2 hb11.size))
       clear K11 ho11 hb11 HR10)
    | (at_builtin; have _t := HO11; refine wpList_app _ bytesT rfl (.tmp 63) (.tmp 65) rfl w1.heap.size v11 _ _ rfl HO11.out.1 A n c dt rfl HK11.out.rd (by omega) HO11.out.2 ?_; intro v12 w12 ho12 hb12
       rw [← cells_append] at ho12
       have HK12 := Lib.hid (HK11.out.low hb12 HLT.out.1 HLT.out.2 HA.out)
       have HO12 := Lib.hid (And.intro ho12 (Nat.le_trans HO11.out.2 hb12.size))
       clear ho12 hb12))
  go_ret
  rw [HX.out]
  exact GotS.own (own_mono HO12.out.1 HLT.out.2) HK12.out.bel

set_option maxHeartbeats 2000000 in
theorem RBytes_2t (ix gn cp : Int) (dt : List UInt8) (A : Option Addr) (n c : Nat) (w : World) (h : Rd w A n dt) (hn : n ≤ 1000000) :
    Calls Try.prog 9 #[.agg (Cd.cs ⟨2, true, ix, gn, cp, dt⟩ A n c)] w (GotS w (Cd.mk 2 true ix gn cp dt).bytes) := by
  obtain ⟨w1, hw1⟩ : ∃ w1, w1 = w.alloc (.cells (Cd.cs ⟨2, true, ix, gn, cp, dt⟩ A n c) 26) := ⟨_, rfl⟩
  have K1 : CdAt w w1 w.heap.size ⟨2, true, ix, gn, cp, dt⟩ A n c := by rw [hw1]; exact CdAt.new w ⟨2, true, ix, gn, cp, dt⟩ A n c h
  have HA := Lib.hid (fun b o (e : A = some ⟨b, o, none⟩) hp => Nat.lt_trans (h.lo' b o e hp) K1.r.lt)
  have HLT := Lib.hid (And.intro K1.r.lt K1.bel.size)
  have c0 := K1.c0
  have c1 := K1.c1
  have CN1 := Lib.hid (RNumS_any 1 (by decide) (by decide) 2 w1)
  have HX := Lib.hid (show (Cd.mk 2 true ix gn cp dt).bytes = numB 1 2 ++ [1] ++ numB 8 ix ++ numB 8 cp ++ numB 2 n ++ dt by have e : (n : Int) = (dt.length : Nat) := (by rw [h.1]); rw [e]; simp [Cd.bytes, Cd.tgt, numB_11])
  have HK1 := Lib.hid K1
  clear h K1
  go_enter Try.func9, Try.ntmps9
  go_wp2_with (first
    | (rw [← hw1]; clear hw1)
    | (go_at_call 21; have _t := CN1; refine CN1.out.mono ?_; rintro e w2 ⟨v2, rfl, ho2, hb2⟩
       have K2 := HK1.out.next hb2
       have q0 := K2.c0; have q1 := K2.c1; have q2 := K2.c2; have q3 := K2.c3; have q4 := K2.c4; have q5 := K2.c5
       have HK2 := Lib.hid K2
       have HO2 := Lib.hid (And.intro ho2 hb2.size)
       clear K2 ho2 hb2 CN1 c0 c1)
    | (at_builtin; have _t := HO2; refine wpList_app _ bytesT rfl (.tmp 22) (.tmp 23) rfl w1.heap.size v2 _ _ rfl (own_keep HO2.out.1 ((Below.refl _ _).alloc (Nat.le_refl _) _)) _ 1 1 [1] rfl (Rd.new w2 5 [1] (0, 0)) (by omega) (by have := HO2.out.2; simp; omega) ?_; intro v3 w3 ho3 hb3
       rw [← cells_append] at ho3
       have hal : Below w2.heap.size w2 (w2.alloc (.cells #[.int .u8 1] 5)) := (Below.refl _ _).alloc (Nat.le_refl _) _
       have K3 := (HK2.out.next hal).low hb3 HLT.out.1 HLT.out.2 HA.out
       have q0 := K3.c0; have q1 := K3.c1; have q2 := K3.c2; have q3 := K3.c3; have q4 := K3.c4; have q5 := K3.c5
       have HK3 := Lib.hid K3
       have HO3 := Lib.hid (And.intro ho3 (Nat.le_trans HO2.out.2 (Nat.le_trans hal.size hb3.size)))
       have CN3 := Lib.hid (RNumS_any 8 (by decide) (by decide) ix w3)
       clear K3 ho3 hb3 hal HO2)
    | (go_at_call 21; have _t := CN3; refine CN3.out.mono ?_; rintro e w4 ⟨v4, rfl, ho4, hb4⟩
       obtain ⟨A4, cc4, rfl, _, _, hr4⟩ := Rd.of_own ho4 rfl
       have HK4 := Lib.hid (HK3.out.next hb4)
       have HO4 := Lib.hid (And.intro (own_keep HO3.out.1 hb4) (Nat.le_trans HO3.out.2 hb4.size))
       have HR4 := Lib.hid hr4
       clear hr4 ho4 hb4 CN3)
    | (at_builtin; have _t := HR4; refine wpList_app _ bytesT rfl (.tmp 25) (.tmp 29) rfl w1.heap.size v3 _ _ rfl HO4.out.1 A4 8 cc4 _ rfl HR4.out (by omega) HO4.out.2 ?_; intro v5 w5 ho5 hb5
       rw [← cells_append] at ho5
       have K5 := HK4.out.low hb5 HLT.out.1 HLT.out.2 HA.out
       have q0 := K5.c0; have q1 := K5.c1; have q2 := K5.c2; have q3 := K5.c3; have q4 := K5.c4; have q5 := K5.c5
       have HK5 := Lib.hid K5
       have HO5 := Lib.hid (And.intro ho5 (Nat.le_trans HO4.out.2 hb5.size))
       have CN5 := Lib.hid (RNumS_any 8 (by decide) (by decide) cp w5)
       clear K5 ho5 hb5 HR4)
    | (go_at_call 21; have _t := CN5; refine CN5.out.mono ?_; rintro e w6 ⟨v6, rfl, ho6, hb6⟩
       obtain ⟨A6, cc6, rfl, _, _, hr6⟩ := Rd.of_own ho6 rfl
       have HK6 := Lib.hid (HK5.out.next hb6)
       have HO6 := Lib.hid (And.intro (own_keep HO5.out.1 hb6) (Nat.le_trans HO5.out.2 hb6.size))
       have HR6 := Lib.hid hr6
       clear hr6 ho6 hb6 CN5)
    | (at_builtin; have _t := HR6; refine wpList_app _ bytesT rfl (.tmp 49) (.tmp 52) rfl w1.heap.size v5 _ _ rfl HO6.out.1 A6 8 cc6 _ rfl HR6.out (by omega) HO6.out.2 ?_; intro v7 w7 ho7 hb7
       rw [← cells_append] at ho7
       have K7 := HK6.out.low hb7 HLT.out.1 HLT.out.2 HA.out
       have q0 := K7.c0; have q1 := K7.c1; have q2 := K7.c2; have q3 := K7.c3; have q4 := K7.c4; have q5 := K7.c5
       have HK7 := Lib.hid K7
       have HO7 := Lib.hid (And.intro ho7 (Nat.le_trans HO6.out.2 hb7.size))
       have CN7 := Lib.hid (RNumS_any 2 (by decide) (by decide) n w7)
       clear K7 ho7 hb7 HR6)
    | (go_at_call 21; have _t := CN7; refine CN7.out.mono ?_; rintro e w8 ⟨v8, rfl, ho8, hb8⟩
       obtain ⟨A8, cc8, rfl, _, _, hr8⟩ := Rd.of_own ho8 rfl
       have HK8 := Lib.hid (HK7.out.next hb8)
       have HO8 := Lib.hid (And.intro (own_keep HO7.out.1 hb8) (Nat.le_trans HO7.out.2 hb8.size))
       have HR8 := Lib.hid hr8
       clear hr8 ho8 hb8 CN7)
    | (at_builtin; have _t := HR8; refine wpList_app _ bytesT rfl (.tmp 57) (.tmp 61) rfl w1.heap.size v7 _ _ rfl HO8.out.1 A8 2 cc8 _ rfl HR8.out (by omega) HO8.out.2 ?_; intro v9 w9 ho9 hb9
       rw [← cells_append] at ho9
       have K9 := HK8.out.low hb9 HLT.out.1 HLT.out.2 HA.out
       have q0 := K9.c0; have q1 := K9.c1; have q2 := K9.c2; have q3 := K9.c3; have q4 := K9.c4; have q5 := K9.c5
       have HK9 := Lib.hid K9
       have HO9 := Lib.hid (And.intro ho9 (Nat.le_trans HO8.out.2 hb9.size))
       clear K9 ho9 hb9 HR8)
    | (at_builtin; have _t := HO9; refine wpList_app _ bytesT rfl (.tmp 63) (.tmp 65) rfl w1.heap.size v9 _ _ rfl HO9.out.1 A n c dt rfl HK9.out.rd (by omega) HO9.out.2 ?_; intro v10 w10 ho10 hb10
       rw [← cells_append] at ho10
       have HK10 := Lib.hid (HK9.out.low hb10 HLT.out.1 HLT.out.2 HA.out)
       have HO10 := Lib.hid (And.intro ho10 (Nat.le_trans HO9.out.2 hb10.size))
       clear ho10 hb10))
  go_ret
  rw [HX.out]
  exact GotS.own (own_mono HO10.out.1 HLT.out.2) HK10.out.bel

set_option maxHeartbeats 2000000 in
theorem RBytes_3f (ix gn cp : Int) (dt : List UInt8) (A : Option Addr) (n c : Nat) (w : World) (h : Rd w A n dt) (hn : n ≤ 1000000) :
    Calls Try.prog 9 #[.agg (Cd.cs ⟨3, false, ix, gn, cp, dt⟩ A n c)] w (GotS w (Cd.mk 3 false ix gn cp dt).bytes) := by
  obtain ⟨w1, hw1⟩ : ∃ w1, w1 = w.alloc (.cells (Cd.cs ⟨3, false, ix, gn, cp, dt⟩ A n c) 26) := ⟨_, rfl⟩
  have K1 : CdAt w w1 w.heap.size ⟨3, false, ix, gn, cp, dt⟩ A n c := by rw [hw1]; exact CdAt.new w ⟨3, false, ix, gn, cp, dt⟩ A n c h
  have HA := Lib.hid (fun b o (e : A = some ⟨b, o, none⟩) hp => Nat.lt_trans (h.lo' b o e hp) K1.r.lt)
  have HLT := Lib.hid (And.intro K1.r.lt K1.bel.size)
  have c0 := K1.c0
  have c1 := K1.c1
  have CN1 := Lib.hid (RNumS_any 1 (by decide) (by decide) 3 w1)
  have HX := Lib.hid (show (Cd.mk 3 false ix gn cp dt).bytes = numB 1 3 ++ [0] ++ numB 8 ix ++ numB 8 gn ++ numB 8 cp by simp [Cd.bytes, Cd.tgt, numB_10])
  have HK1 := Lib.hid K1
  clear h K1
  go_enter Try.func9, Try.ntmps9
  go_wp2_with (first
    | (rw [← hw1]; clear hw1)
    | (go_at_call 21; have _t := CN1; refine CN1.out.mono ?_; rintro e w2 ⟨v2, rfl, ho2, hb2⟩
       have K2 := HK1.out.next hb2
       have q0 := K2.c0; have q1 := K2.c1; have q2 := K2.c2; have q3 := K2.c3; have q4 := K2.c4; have q5 := K2.c5
       have HK2 := Lib.hid K2
       have HO2 := Lib.hid (And.intro ho2 hb2.size)
       clear K2 ho2 hb2 CN1 c0 c1)
    | (at_builtin; have _t := HO2; refine wpList_app _ bytesT rfl (.tmp 31) (.tmp 32) rfl w1.heap.size v2 _ _ rfl (own_keep HO2.out.1 ((Below.refl _ _).alloc (Nat.le_refl _) _)) _ 1 1 [0] rfl (Rd.new w2 5 [0] (0, 0)) (by omega) (by have := HO2.out.2; simp; omega) ?_; intro v3 w3 ho3 hb3
       rw [← cells_append] at ho3
       have hal : Below w2.heap.size w2 (w2.alloc (.cells #[.int .u8 0] 5)) := (Below.refl _ _).alloc (Nat.le_refl _) _
       have K3 := (HK2.out.next hal).low hb3 HLT.out.1 HLT.out.2 HA.out
       have q0 := K3.c0; have q1 := K3.c1; have q2 := K3.c2; have q3 := K3.c3; have q4 := K3.c4; have q5 := K3.c5
       have HK3 := Lib.hid K3
       have HO3 := Lib.hid (And.intro ho3 (Nat.le_trans HO2.out.2 (Nat.le_trans hal.size hb3.size)))
       have CN3 := Lib.hid (RNumS_any 8 (by decide) (by decide) ix w3)
       clear K3 ho3 hb3 hal HO2)
    | (go_at_call 21; have _t := CN3; refine CN3.out.mono ?_; rintro e w4 ⟨v4, rfl, ho4, hb4⟩
       obtain ⟨A4, cc4, rfl, _, _, hr4⟩ := Rd.of_own ho4 rfl
       have HK4 := Lib.hid (HK3.out.next hb4)
       have HO4 := Lib.hid (And.intro (own_keep HO3.out.1 hb4) (Nat.le_trans HO3.out.2 hb4.size))
       have HR4 := Lib.hid hr4
       clear hr4 ho4 hb4 CN3)
    | (at_builtin; have _t := HR4; refine wpList_app _ bytesT rfl (.tmp 34) (.tmp 38) rfl w1.heap.size v3 _ _ rfl HO4.out.1 A4 8 cc4 _ rfl HR4.out (by omega) HO4.out.2 ?_; intro v5 w5 ho5 hb5
       rw [← cells_append] at ho5
       have K5 := HK4.out.low hb5 HLT.out.1 HLT.out.2 HA.out
       have q0 := K5.c0; have q1 := K5.c1; have q2 := K5.c2; have q3 := K5.c3; have q4 := K5.c4; have q5 := K5.c5
       have HK5 := Lib.hid K5
       have HO5 := Lib.hid (And.intro ho5 (Nat.le_trans HO4.out.2 hb5.size))
       have CN5 := Lib.hid (RNumS_any 8 (by decide) (by decide) gn w5)
       clear K5 ho5 hb5 HR4)
    | (go_at_call 21; have _t := CN5; refine CN5.out.mono ?_; rintro e w6 ⟨v6, rfl, ho6, hb6⟩
       obtain ⟨A6, cc6, rfl, _, _, hr6⟩ := Rd.of_own ho6 rfl
       have HK6 := Lib.hid (HK5.out.next hb6)
       have HO6 := Lib.hid (And.intro (own_keep HO5.out.1 hb6) (Nat.le_trans HO5.out.2 hb6.size))
       have HR6 := Lib.hid hr6
       clear hr6 ho6 hb6 CN5)
    | (at_builtin; have _t := HR6; refine wpList_app _ bytesT rfl (.tmp 40) (.tmp 44) rfl w1.heap.size v5 _ _ rfl HO6.out.1 A6 8 cc6 _ rfl HR6.out (by omega) HO6.out.2 ?_; intro v7 w7 ho7 hb7
       rw [← cells_append] at ho7
       have K7 := HK6.out.low hb7 HLT.out.1 HLT.out.2 HA.out
       have q0 := K7.c0; have q1 := K7.c1; have q2 := K7.c2; have q3 := K7.c3; have q4 := K7.c4; have q5 := K7.c5
       have HK7 := Lib.hid K7
       have HO7 := Lib.hid (And.intro ho7 (Nat.le_trans HO6.out.2 hb7.size))
       have CN7 := Lib.hid (RNumS_any 8 (by decide) (by decide) cp w7)
       clear K7 ho7 hb7 HR6)
    | (go_at_call 21; have _t := CN7; refine CN7.out.mono ?_; rintro e w8 ⟨v8, rfl, ho8, hb8⟩
       obtain ⟨A8, cc8, rfl, _, _, hr8⟩ := Rd.of_own ho8 rfl
       have HK8 := Lib.hid (HK7.out.next hb8)
       have HO8 := Lib.hid (And.intro (own_keep HO7.out.1 hb8) (Nat.le_trans HO7.out.2 hb8.size))
       have HR8 := Lib.hid hr8
       clear hr8 ho8 hb8 CN7)
    | (at_builtin; have _t := HR8; refine wpList_app _ bytesT rfl (.tmp 49) (.tmp 52) rfl w1.heap.size v7 _ _ rfl HO8.out.1 A8 8 cc8 _ rfl HR8.out (by omega) HO8.out.2 ?_; intro v9 w9 ho9 hb9
       rw [← cells_append] at ho9
       have K9 := HK8.out.low hb9 HLT.out.1 HLT.out.2 HA.out
       have q0 := K9.c0; have q1 := K9.c1; have q2 := K9.c2; have q3 := K9.c3; have q4 := K9.c4; have q5 := K9.c5
       have HK9 := Lib.hid K9
       have HO9 := Lib.hid (And.intro ho9 (Nat.le_trans HO8.out.2 hb9.size))
       clear K9 ho9 hb9 HR8))
  go_ret
  rw [HX.out]
  exact GotS.own (own_mono HO9.out.1 HLT.out.2) HK9.out.bel

set_option maxHeartbeats 2000000 in
theorem RBytes_3t (ix gn cp : Int) (dt : List UInt8) (A : Option Addr) (n c : Nat) (w : World) (h : Rd w A n dt) (hn : n ≤ 1000000) :
    Calls Try.prog 9 #[.agg (Cd.cs ⟨3, true, ix, gn, cp, dt⟩ A n c)] w (GotS w (Cd.mk 3 true ix gn cp dt).bytes) := by
  obtain ⟨w1, hw1⟩ : ∃ w1, w1 = w.alloc (.cells (Cd.cs ⟨3, true, ix, gn, cp, dt⟩ A n c) 26) := ⟨_, rfl⟩
  have K1 : CdAt w w1 w.heap.size ⟨3, true, ix, gn, cp, dt⟩ A n c := by rw [hw1]; exact CdAt.new w ⟨3, true, ix, gn, cp, dt⟩ A n c h
  have HA := Lib.hid (fun b o (e : A = some ⟨b, o, none⟩) hp => Nat.lt_trans (h.lo' b o e hp) K1.r.lt)
  have HLT := Lib.hid (And.intro K1.r.lt K1.bel.size)
  have c0 := K1.c0
  have c1 := K1.c1
  have CN1 := Lib.hid (RNumS_any 1 (by decide) (by decide) 3 w1)
  have HX := Lib.hid (show (Cd.mk 3 true ix gn cp dt).bytes = numB 1 3 ++ [1] ++ numB 8 ix ++ numB 8 cp by simp [Cd.bytes, Cd.tgt, numB_11])
  have HK1 := Lib.hid K1
  clear h K1
  go_enter Try.func9, Try.ntmps9
  go_wp2_with (first
    | (rw [← hw1]; clear hw1)
    | (go_at_call 21; have _t := CN1; refine CN1.out.mono ?_; rintro e w2 ⟨v2, rfl, ho2, hb2⟩
       have K2 := HK1.out.next hb2
       have q0 := K2.c0; have q1 := K2.c1; have q2 := K2.c2; have q3 := K2.c3; have q4 := K2.c4; have q5 := K2.c5
       have HK2 := Lib.hid K2
       have HO2 := Lib.hid (And.intro ho2 hb2.size)
       clear K2 ho2 hb2 CN1 c0 c1)
    | (at_builtin; have _t := HO2; refine wpList_app _ bytesT rfl (.tmp 22) (.tmp 23) rfl w1.heap.size v2 _ _ rfl (own_keep HO2.out.1 ((Below.refl _ _).alloc (Nat.le_refl _) _)) _ 1 1 [1] rfl (Rd.new w2 5 [1] (0, 0)) (by omega) (by have := HO2.out.2; simp; omega) ?_; intro v3 w3 ho3 hb3
       rw [← cells_append] at ho3
       have hal : Below w2.heap.size w2 (w2.alloc (.cells #[.int .u8 1] 5)) := (Below.refl _ _).alloc (Nat.le_refl _) _
       have K3 := (HK2.out.next hal).low hb3 HLT.out.1 HLT.out.2 HA.out
       have q0 := K3.c0; have q1 := K3.c1; have q2 := K3.c2; have q3 := K3.c3; have q4 := K3.c4; have q5 := K3.c5
       have HK3 := Lib.hid K3
       have HO3 := Lib.hid (And.intro ho3 (Nat.le_trans HO2.out.2 (Nat.le_trans hal.size hb3.size)))
       have CN3 := Lib.hid (RNumS_any 8 (by decide) (by decide) ix w3)
       clear K3 ho3 hb3 hal HO2)
    | (go_at_call 21; have _t := CN3; refine CN3.out.mono ?_; rintro e w4 ⟨v4, rfl, ho4, hb4⟩
       obtain ⟨A4, cc4, rfl, _, _, hr4⟩ := Rd.of_own ho4 rfl
       have HK4 := Lib.hid (HK3.out.next hb4)
       have HO4 := Lib.hid (And.intro (own_keep HO3.out.1 hb4) (Nat.le_trans HO3.out.2 hb4.size))
       have HR4 := Lib.hid hr4
       clear hr4 ho4 hb4 CN3)
    | (at_builtin; have _t := HR4; refine wpList_app _ bytesT rfl (.tmp 25) (.tmp 29) rfl w1.heap.size v3 _ _ rfl HO4.out.1 A4 8 cc4 _ rfl HR4.out (by omega) HO4.out.2 ?_; intro v5 w5 ho5 hb5
       rw [← cells_append] at ho5
       have K5 := HK4.out.low hb5 HLT.out.1 HLT.out.2 HA.out
       have q0 := K5.c0; have q1 := K5.c1; have q2 := K5.c2; have q3 := K5.c3; have q4 := K5.c4; have q5 := K5.c5
       have HK5 := Lib.hid K5
       have HO5 := Lib.hid (And.intro ho5 (Nat.le_trans HO4.out.2 hb5.size))
       have CN5 := Lib.hid (RNumS_any 8 (by decide) (by decide) cp w5)
       clear K5 ho5 hb5 HR4)
    | (go_at_call 21; have _t := CN5; refine CN5.out.mono ?_; rintro e w6 ⟨v6, rfl, ho6, hb6⟩
       obtain ⟨A6, cc6, rfl, _, _, hr6⟩ := Rd.of_own ho6 rfl
       have HK6 := Lib.hid (HK5.out.next hb6)
       have HO6 := Lib.hid (And.intro (own_keep HO5.out.1 hb6) (Nat.le_trans HO5.out.2 hb6.size))
       have HR6 := Lib.hid hr6
       clear hr6 ho6 hb6 CN5)
    | (at_builtin; have _t := HR6; refine wpList_app _ bytesT rfl (.tmp 49) (.tmp 52) rfl w1.heap.size v5 _ _ rfl HO6.out.1 A6 8 cc6 _ rfl HR6.out (by omega) HO6.out.2 ?_; intro v7 w7 ho7 hb7
       rw [← cells_append] at ho7
       have K7 := HK6.out.low hb7 HLT.out.1 HLT.out.2 HA.out
       have q0 := K7.c0; have q1 := K7.c1; have q2 := K7.c2; have q3 := K7.c3; have q4 := K7.c4; have q5 := K7.c5
       have HK7 := Lib.hid K7
       have HO7 := Lib.hid (And.intro ho7 (Nat.le_trans HO6.out.2 hb7.size))
       clear K7 ho7 hb7 HR6))
  go_ret
  rw [HX.out]
  exact GotS.own (own_mono HO7.out.1 HLT.out.2) HK7.out.bel

theorem RBytesC_any (x : Cd) (A : Option Addr) (n c : Nat) (w : World) (h : Rd w A n x.dt) (hn : n ≤ 1000000) : Calls Try.prog 9 #[.agg (x.cs A n c)] w (GotS w x.bytes) := by
  by_cases ho : x.d < 0 ∨ 3 < x.d
  · exact RBytes_o x ho A n c w h
  obtain ⟨d, lc, ix, gn, cp, dt⟩ := x
  rcases cd_cases d with rfl | rfl | rfl | rfl | hd
  · cases lc
    · exact RBytes_0f ix gn cp dt A n c w h hn
    · exact RBytes_0t ix gn cp dt A n c w h hn
  · cases lc
    · exact RBytes_1f ix gn cp dt A n c w h hn
    · exact RBytes_1t ix gn cp dt A n c w h hn
  · cases lc
    · exact RBytes_2f ix gn cp dt A n c w h hn
    · exact RBytes_2t ix gn cp dt A n c w h hn
  · cases lc
    · exact RBytes_3f ix gn cp dt A n c w h hn
    · exact RBytes_3t ix gn cp dt A n c w h hn
  · exact absurd hd ho

theorem live_any (w : World) : Calls Try.prog 6 #[] w fun e w' => e = .returned (.bool true) ∧ Below w.heap.size w w' := by
  have D0 := (CPut_any none 0 0 [] Cd.zero none 0 0 w (Rd.nil _ _) (by decide) (Rd.nil _ _) (by decide))
  have b1 : Hid ([] ++ Cd.zero.bytes = [0]) := Lib.hid (by decide)
  have b2 : Hid ([] ++ (Cd.mk 1 true 2 0 0 []).bytes = [1, 1, 2, 0, 0, 0, 0, 0, 0, 0]) := Lib.hid (by decide)
  rw [b1.out] at D0
  have C2 := Lib.hid D0
  clear D0
  go_enter Try.func6, Try.ntmps6
  go_wp2_with (first
    | (go_at_call 7; have _t := C2; refine C2.out.mono ?_; rintro e w2 ⟨A2, n2, c2, rfl, r2, _, hb2⟩
       obtain ⟨w3, hw3⟩ : ∃ v, v = w2.alloc (.cells #[.int .u8 0] 5) := ⟨_, rfl⟩
       have hal : Below w2.heap.size w2 w3 := by rw [hw3]; exact (Below.refl _ _).alloc (Nat.le_refl _) _
       have CS2 := Lib.hid (Same_yes A2 (some ⟨w2.heap.size, 0, none⟩) n2 c2 1 1 [0] w3 (r2.below (Nat.le_refl _) hal) (by rw [hw3]; exact Rd.new w2 5 [0] (0, 0)))
       have HB2 := Lib.hid (hb2.trans (hal.mono hb2.size))
       have D1 := CPut_any none 0 0 [] (Cd.mk 1 true 2 0 0 []) none 0 0 w3 (Rd.nil _ _) (by decide) (Rd.nil _ _) (by decide)
       rw [b2.out] at D1
       have C4 := Lib.hid D1
       clear C2 r2 hb2 hal D1)
    | (rw [← hw3]; clear hw3)
    | (go_at_call 8; have _t := CS2; refine CS2.out.mono ?_; rintro e w' ⟨rfl, rfl⟩; clear CS2)
    | (go_at_call 7; have _t := C4; refine C4.out.mono ?_; rintro e w4 ⟨A4, n4, c4, rfl, r4, _, hb4⟩
       obtain ⟨w5, hw5⟩ : ∃ v, v = w4.alloc (.cells #[.int .u8 1, .int .u8 1, .int .u8 2, .int .u8 0, .int .u8 0, .int .u8 0, .int .u8 0, .int .u8 0, .int .u8 0, .int .u8 0] 5) := ⟨_, rfl⟩
       have hal : Below w4.heap.size w4 w5 := by rw [hw5]; exact (Below.refl _ _).alloc (Nat.le_refl _) _
       have CS4 := Lib.hid (Same_yes A4 (some ⟨w4.heap.size, 0, none⟩) n4 c4 10 10 [1, 1, 2, 0, 0, 0, 0, 0, 0, 0] w5 (r4.below (Nat.le_refl _) hal) (by rw [hw5]; exact Rd.new w4 5 [1, 1, 2, 0, 0, 0, 0, 0, 0, 0] (0, 0)))
       have HB4 := Lib.hid (HB2.out.trans ((hb4.trans (hal.mono hb4.size)).mono HB2.out.size))
       clear C4 r4 hb4 hal)
    | (rw [← hw5]; clear hw5)
    | (go_at_call 8; have _t := CS4; refine CS4.out.mono ?_; rintro e w' ⟨rfl, rfl⟩; clear CS4))
  go_ret
  exact ⟨rfl, HB4.out⟩
end Go.Proofs.Ytieinkndcbobfaa
