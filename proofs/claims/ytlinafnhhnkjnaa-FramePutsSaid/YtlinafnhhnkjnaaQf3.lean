/- CdC -/
import Derived.Test.YtlinafnhhnkjnaaQf2
namespace Go.Proofs.Ytlinafnhhnkjnaa
open Go.RowKit
set_option linter.unusedVariables false
set_option maxRecDepth 20000

theorem Cd.plain_o {x : Cd} (h : x.d < 0 ∨ 3 < x.d) : x.plain = x := by
  have h0 : ¬ x.d = 0 := by omega
  have h1 : ¬ x.d = 1 := by omega
  have h2 : ¬ x.d = 2 := by omega
  have h3 : ¬ x.d = 3 := by omega
  simp [Cd.plain, h0, h1, h2, h3]
theorem hasV_o {d : Int} (h : d < 0 ∨ 3 < d) : hasV d = .agg #[.bool false, .bool false, .bool false] ∧ hasB d = false := by
  unfold hasV hasB
  rw [decide_eq_false (show ¬ (1 ≤ d ∧ d ≤ 3) by omega), decide_eq_false (show ¬ (2 ≤ d ∧ d ≤ 3) by omega), decide_eq_false (show ¬ d = 2 by omega), decide_eq_false (show ¬ (0 ≤ d ∧ d ≤ 3) by omega)]
  exact ⟨rfl, rfl⟩



/-- What counts of x, by the document: its data lie where they lay, if it has them. -/
def PlainR (A0 : Option Addr) (x : Cd) (w : World) (e : Ending) (w' : World) : Prop := ∃ A n c, e = .returned (.agg (x.plain.cs A n c)) ∧ Rd w' A n x.plain.dt ∧ n ≤ c ∧ Below w.heap.size w w' ∧ (A = none ∨ A = A0)
set_option maxHeartbeats 2000000 in
theorem RPlain_o (d : Int) (lc : Bool) (ix gn cp : Int) (dt : List UInt8) (hd : d < 0 ∨ 3 < d) (A : Option Addr) (n c : Nat) (w : World) (h : Rd w A n dt) (hnc : n ≤ c) :
    Calls Try.prog 30 #[.agg (Cd.cs ⟨d, lc, ix, gn, cp, dt⟩ A n c)] w (PlainR A ⟨d, lc, ix, gn, cp, dt⟩ w) := by
  obtain ⟨w1, hw1⟩ : ∃ w1, w1 = (w.alloc (.cells (Cd.cs ⟨d, lc, ix, gn, cp, dt⟩ A n c) 47)).alloc (.cells (Cd.zero.cs none 0 0) 47) := ⟨_, rfl⟩
  have K1 : CdAt w w1 w.heap.size ⟨d, lc, ix, gn, cp, dt⟩ A n c := by rw [hw1]; exact (CdAt.new w ⟨d, lc, ix, gn, cp, dt⟩ A n c h).next ((Below.refl _ _).alloc (Nat.le_refl _) _)
  have R1 : Rec 47 w1 (w.heap.size + 1) (Cd.zero.cs none 0 0) := by
    have := Rec.new (w.alloc (.cells (Cd.cs ⟨d, lc, ix, gn, cp, dt⟩ A n c) 47)) 47 (Cd.zero.cs none 0 0)
    rw [World.size_alloc] at this
    rw [hw1]; exact this
  have hA := h.lo
  have c0 := K1.c0
  have HK := Lib.hid (And.intro K1 R1)
  have HX := Lib.hid (show (Cd.mk d lc ix gn cp dt).plain = ⟨d, lc, ix, gn, cp, dt⟩ from Cd.plain_o hd)
  have HA := Lib.hid hA
  clear h hA K1 R1
  rcases hd with hd | hd
  all_goals
    go_enter Try.func30, Try.ntmps30
    go_wp2_with (first
      | (rw [← hw1]; clear hw1)
      | ((with_reducible refine wpList_ldS cdT rfl rfl (.tmp 1) rfl rfl HK.out.1.r ?_))
      | ((with_reducible refine wpList_stS (cs' := Cd.cs ⟨d, lc, ix, gn, cp, dt⟩ A n c) cdT rfl rfl (by simp [Value.oneCell']) rfl (.tmp 2) (.tmp 12) rfl rfl rfl HK.out.2 ?_); intro w12 hR12 hF12))
    refine bodyPost_ret (res_c rfl rfl (hR12.load cdT rfl)) rfl ?_
    unfold PlainR
    rw [HX.out]
    exact ⟨A, n, c, rfl, HK.out.1.rd.fr hF12 (fun b o e hp e' => by have := HA.out b o e hp; omega), hnc, HK.out.1.bel.trans (hF12.toBelow (fun y hy => by have : y = w.heap.size + 1 := hy; omega) HK.out.1.bel.size), .inr rfl⟩

set_option maxHeartbeats 2000000 in
theorem RPlain_0f (ix gn cp : Int) (dt : List UInt8) (A : Option Addr) (n c : Nat) (w : World) (h : Rd w A n dt) (hnc : n ≤ c) :
    Calls Try.prog 30 #[.agg (Cd.cs ⟨0, false, ix, gn, cp, dt⟩ A n c)] w (PlainR A ⟨0, false, ix, gn, cp, dt⟩ w) := by
  obtain ⟨w1, hw1⟩ : ∃ w1, w1 = (w.alloc (.cells (Cd.cs ⟨0, false, ix, gn, cp, dt⟩ A n c) 47)).alloc (.cells (Cd.zero.cs none 0 0) 47) := ⟨_, rfl⟩
  have K1 : CdAt w w1 w.heap.size ⟨0, false, ix, gn, cp, dt⟩ A n c := by rw [hw1]; exact (CdAt.new w ⟨0, false, ix, gn, cp, dt⟩ A n c h).next ((Below.refl _ _).alloc (Nat.le_refl _) _)
  have R1 : Rec 47 w1 (w.heap.size + 1) (Cd.zero.cs none 0 0) := by
    have := Rec.new (w.alloc (.cells (Cd.cs ⟨0, false, ix, gn, cp, dt⟩ A n c) 47)) 47 (Cd.zero.cs none 0 0)
    rw [World.size_alloc] at this
    rw [hw1]; exact this
  have hA := h.lo
  obtain ⟨w4, hw4⟩ : ∃ w4, w4 = w1.alloc (.cells #[.int .i64 0, .bool false, .int .i64 0, .int .i64 0, .int .i64 0, .slice none 0 0] 47) := ⟨_, rfl⟩
  have hb4 : Below w1.heap.size w1 w4 := by rw [hw4]; exact (Below.refl _ _).alloc (Nat.le_refl _) _
  have s1 : w1.heap.size = w.heap.size + 2 := by rw [hw1]; simp
  have r4 : Rec 47 w4 w1.heap.size #[.int .i64 0, .bool false, .int .i64 0, .int .i64 0, .int .i64 0, .slice none 0 0] := by rw [hw4]; exact Rec.new w1 _ _
  have P4 := Lib.hid (show PS w w4 ⟨0, false, ix, gn, cp, dt⟩ A n c 0 w1.heap.size none #[.int .i64 0, .bool false, .int .i64 0, .int .i64 0, .int .i64 0, .slice none 0 0] from ⟨K1.next hb4, R1.under hb4, (fun t e => by cases e), r4, by omega, fun e => absurd rfl e⟩)
  have c0 := K1.c0
  have d0 := P4.out.k.c0
  obtain ⟨g5, hg5⟩ : ∃ g5, g5 = w1.heap.size := ⟨_, rfl⟩
  rw [← hg5] at P4
  have G := Lib.hid hg5
  have HA := Lib.hid hA
  clear h hA K1 R1 hb4 s1 r4 hg5
  go_enter Try.func30, Try.ntmps30
  go_wp2_with (first
    | (rw [← hw1]; clear hw1)
    | (rw [← hw4, ← G.out]; clear hw4)
    | ((with_reducible refine wpList_stS (cs' := #[.int .i64 0, .bool false, .int .i64 0, .int .i64 0, .int .i64 0, .slice none 0 0]) cdT rfl rfl (by simp [Value.oneCell']) rfl (.tmp 3) (.tmp 15) rfl rfl rfl P4.out.r5 ?_); intro w5 hR5 hF5
       have P5 := Lib.hid (P4.out.fr HA.out hF5 hR5)
       have e0 := P5.out.k.c0
       clear P4 hR5 hF5 c0 d0)
    | ((with_reducible refine wpList_ldS cdT rfl rfl (.tmp 3) rfl rfl P5.out.r5 ?_))
    | ((with_reducible refine wpList_stS (cs' := #[.int .i64 0, .bool false, .int .i64 0, .int .i64 0, .int .i64 0, .slice none 0 0]) cdT rfl rfl (by simp [Value.oneCell']) rfl (.tmp 2) (.tmp 19) rfl rfl rfl P5.out.r2 ?_); intro w9 hR9 hF9))
  refine bodyPost_ret (res_c rfl rfl (hR9.load cdT rfl)) rfl ?_
  exact ⟨none, 0, 0, rfl, Rd.nil _ _, Nat.le_refl _, P5.out.done hF9, .inl rfl⟩

set_option maxHeartbeats 2000000 in
theorem RPlain_0t (ix gn cp : Int) (dt : List UInt8) (A : Option Addr) (n c : Nat) (w : World) (h : Rd w A n dt) (hnc : n ≤ c) :
    Calls Try.prog 30 #[.agg (Cd.cs ⟨0, true, ix, gn, cp, dt⟩ A n c)] w (PlainR A ⟨0, true, ix, gn, cp, dt⟩ w) := by
  obtain ⟨w1, hw1⟩ : ∃ w1, w1 = (w.alloc (.cells (Cd.cs ⟨0, true, ix, gn, cp, dt⟩ A n c) 47)).alloc (.cells (Cd.zero.cs none 0 0) 47) := ⟨_, rfl⟩
  have K1 : CdAt w w1 w.heap.size ⟨0, true, ix, gn, cp, dt⟩ A n c := by rw [hw1]; exact (CdAt.new w ⟨0, true, ix, gn, cp, dt⟩ A n c h).next ((Below.refl _ _).alloc (Nat.le_refl _) _)
  have R1 : Rec 47 w1 (w.heap.size + 1) (Cd.zero.cs none 0 0) := by
    have := Rec.new (w.alloc (.cells (Cd.cs ⟨0, true, ix, gn, cp, dt⟩ A n c) 47)) 47 (Cd.zero.cs none 0 0)
    rw [World.size_alloc] at this
    rw [hw1]; exact this
  have hA := h.lo
  obtain ⟨w4, hw4⟩ : ∃ w4, w4 = w1.alloc (.cells #[.int .i64 0, .bool false, .int .i64 0, .int .i64 0, .int .i64 0, .slice none 0 0] 47) := ⟨_, rfl⟩
  have hb4 : Below w1.heap.size w1 w4 := by rw [hw4]; exact (Below.refl _ _).alloc (Nat.le_refl _) _
  have s1 : w1.heap.size = w.heap.size + 2 := by rw [hw1]; simp
  have r4 : Rec 47 w4 w1.heap.size #[.int .i64 0, .bool false, .int .i64 0, .int .i64 0, .int .i64 0, .slice none 0 0] := by rw [hw4]; exact Rec.new w1 _ _
  have P4 := Lib.hid (show PS w w4 ⟨0, true, ix, gn, cp, dt⟩ A n c 0 w1.heap.size none #[.int .i64 0, .bool false, .int .i64 0, .int .i64 0, .int .i64 0, .slice none 0 0] from ⟨K1.next hb4, R1.under hb4, (fun t e => by cases e), r4, by omega, fun e => absurd rfl e⟩)
  have c0 := K1.c0
  have d0 := P4.out.k.c0
  obtain ⟨g5, hg5⟩ : ∃ g5, g5 = w1.heap.size := ⟨_, rfl⟩
  rw [← hg5] at P4
  have G := Lib.hid hg5
  have HA := Lib.hid hA
  clear h hA K1 R1 hb4 s1 r4 hg5
  go_enter Try.func30, Try.ntmps30
  go_wp2_with (first
    | (rw [← hw1]; clear hw1)
    | (rw [← hw4, ← G.out]; clear hw4)
    | ((with_reducible refine wpList_stS (cs' := #[.int .i64 0, .bool false, .int .i64 0, .int .i64 0, .int .i64 0, .slice none 0 0]) cdT rfl rfl (by simp [Value.oneCell']) rfl (.tmp 3) (.tmp 15) rfl rfl rfl P4.out.r5 ?_); intro w5 hR5 hF5
       have P5 := Lib.hid (P4.out.fr HA.out hF5 hR5)
       have e0 := P5.out.k.c0
       clear P4 hR5 hF5 c0 d0)
    | ((with_reducible refine wpList_ldS cdT rfl rfl (.tmp 3) rfl rfl P5.out.r5 ?_))
    | ((with_reducible refine wpList_stS (cs' := #[.int .i64 0, .bool false, .int .i64 0, .int .i64 0, .int .i64 0, .slice none 0 0]) cdT rfl rfl (by simp [Value.oneCell']) rfl (.tmp 2) (.tmp 19) rfl rfl rfl P5.out.r2 ?_); intro w9 hR9 hF9))
  refine bodyPost_ret (res_c rfl rfl (hR9.load cdT rfl)) rfl ?_
  exact ⟨none, 0, 0, rfl, Rd.nil _ _, Nat.le_refl _, P5.out.done hF9, .inl rfl⟩

set_option maxHeartbeats 2000000 in
theorem RPlain_1f (ix gn cp : Int) (dt : List UInt8) (A : Option Addr) (n c : Nat) (w : World) (h : Rd w A n dt) (hnc : n ≤ c) :
    Calls Try.prog 30 #[.agg (Cd.cs ⟨1, false, ix, gn, cp, dt⟩ A n c)] w (PlainR A ⟨1, false, ix, gn, cp, dt⟩ w) := by
  obtain ⟨w1, hw1⟩ : ∃ w1, w1 = (w.alloc (.cells (Cd.cs ⟨1, false, ix, gn, cp, dt⟩ A n c) 47)).alloc (.cells (Cd.zero.cs none 0 0) 47) := ⟨_, rfl⟩
  have K1 : CdAt w w1 w.heap.size ⟨1, false, ix, gn, cp, dt⟩ A n c := by rw [hw1]; exact (CdAt.new w ⟨1, false, ix, gn, cp, dt⟩ A n c h).next ((Below.refl _ _).alloc (Nat.le_refl _) _)
  have R1 : Rec 47 w1 (w.heap.size + 1) (Cd.zero.cs none 0 0) := by
    have := Rec.new (w.alloc (.cells (Cd.cs ⟨1, false, ix, gn, cp, dt⟩ A n c) 47)) 47 (Cd.zero.cs none 0 0)
    rw [World.size_alloc] at this
    rw [hw1]; exact this
  have hA := h.lo
  obtain ⟨w4, hw4⟩ : ∃ w4, w4 = w1.alloc (.cells #[.int .i64 1, .bool false, .int .i64 0, .int .i64 0, .int .i64 0, .slice none 0 0] 47) := ⟨_, rfl⟩
  have hb4 : Below w1.heap.size w1 w4 := by rw [hw4]; exact (Below.refl _ _).alloc (Nat.le_refl _) _
  have s1 : w1.heap.size = w.heap.size + 2 := by rw [hw1]; simp
  have r4 : Rec 47 w4 w1.heap.size #[.int .i64 1, .bool false, .int .i64 0, .int .i64 0, .int .i64 0, .slice none 0 0] := by rw [hw4]; exact Rec.new w1 _ _
  have P4 := Lib.hid (show PS w w4 ⟨1, false, ix, gn, cp, dt⟩ A n c 0 w1.heap.size none #[.int .i64 1, .bool false, .int .i64 0, .int .i64 0, .int .i64 0, .slice none 0 0] from ⟨K1.next hb4, R1.under hb4, (fun t e => by cases e), r4, by omega, fun e => absurd rfl e⟩)
  have c0 := K1.c0
  have d0 := P4.out.k.c0
  obtain ⟨g5, hg5⟩ : ∃ g5, g5 = w1.heap.size := ⟨_, rfl⟩
  rw [← hg5] at P4
  have G := Lib.hid hg5
  have HA := Lib.hid hA
  clear h hA K1 R1 hb4 s1 r4 hg5
  go_enter Try.func30, Try.ntmps30
  go_upto_region 6 with (first
    | (rw [← hw1]; clear hw1)
    | (rw [← hw4, ← G.out]; clear hw4))
  have P4d := P4.out.below (Below.refl _ _).drew
  have s4 : w4.drew.cell? ⟨w.heap.size, 1, none⟩ = some (.bool false) ∧ w4.drew.cell? ⟨w.heap.size, 2, none⟩ = some (.int .i64 ix) := ⟨P4d.k.c1, P4d.k.c2⟩
  have P4D := Lib.hid P4d
  clear P4 c0 d0 P4d
  have k1 := P4D.out.r5.at_ 1
  have z1 := P4D.out.r5.fz 1
  have k2 := P4D.out.r5.at_ 2
  have z2 := P4D.out.r5.fz 2
  refine wp_region_noPanic ?_
  refine wp_region_held_drew (S := fun W => W.cell? ⟨w.heap.size, 1, none⟩ = some (.bool false) ∧ W.cell? ⟨w.heap.size, 2, none⟩ = some (.int .i64 ix)) (by kernel_rfl) s4 (fun hHeld => ?_)
  refine wpAnyH_take (i := 0) (oi := { dst := some 20, op := Op.fieldAddr 47 (Operand.tmp 1) 1, type := 0, pos := "ref.go:18", after := #[], guard := none }) (v := ?_) rfl (by kernel_rfl) (by kernel_rfl) (by kernel_rfl) (fun _ _ _ h => h) (Or.inl ⟨by rfl, ?_⟩) (by assumption) ?_
  rotate_left 1
  · intro w' hSw; (try dsimp only at hSw); go_simp; (try with_reducible rfl)
  simp only [Act.put, List.setIfInBounds_toArray, List.set_cons_zero, List.set_cons_succ]
  refine wpAnyH_take (i := 1) (oi := { dst := some 21, op := Op.load 4 (Operand.tmp 20), type := 4, pos := "ref.go:18", after := #[{ on := 0, ground := Ground.data }], guard := none }) (v := ?_) rfl (by kernel_rfl) (by kernel_rfl) (by kernel_rfl) (fun _ _ _ h => h) (Or.inl ⟨by rfl, ?_⟩) (by assumption) ?_
  rotate_left 1
  · intro w' hSw; (try dsimp only at hSw); go_simp; (try with_reducible rfl)
  simp only [Act.put, List.setIfInBounds_toArray, List.set_cons_zero, List.set_cons_succ]
  refine wpAnyH_take (i := 2) (oi := { dst := some 22, op := Op.fieldAddr 47 (Operand.tmp 1) 2, type := 0, pos := "ref.go:18", after := #[{ on := 6, ground := Ground.gcOnly Departure.lateStores }], guard := none }) (v := ?_) rfl (by kernel_rfl) (by kernel_rfl) (by kernel_rfl) (fun _ _ _ h => h) (Or.inl ⟨by rfl, ?_⟩) (by assumption) ?_
  rotate_left 1
  · intro w' hSw; (try dsimp only at hSw); go_simp; (try with_reducible rfl)
  simp only [Act.put, List.setIfInBounds_toArray, List.set_cons_zero, List.set_cons_succ]
  refine wpAnyH_take (i := 3) (oi := { dst := some 23, op := Op.fieldAddr 45 (Operand.tmp 22) 0, type := 0, pos := "ref.go:18", after := #[{ on := 2, ground := Ground.data }, { on := 6, ground := Ground.gcOnly Departure.lateStores }], guard := none }) (v := ?_) rfl (by kernel_rfl) (by kernel_rfl) (by kernel_rfl) (fun _ _ _ h => h) (Or.inl ⟨by rfl, ?_⟩) (by assumption) ?_
  rotate_left 1
  · intro w' hSw; (try dsimp only at hSw); go_simp; (try with_reducible rfl)
  simp only [Act.put, List.setIfInBounds_toArray, List.set_cons_zero, List.set_cons_succ]
  refine wpAnyH_take (i := 4) (oi := { dst := some 24, op := Op.load 3 (Operand.tmp 23), type := 3, pos := "ref.go:18", after := #[{ on := 3, ground := Ground.data }, { on := 6, ground := Ground.gcOnly Departure.lateStores }], guard := none }) (v := ?_) rfl (by kernel_rfl) (by kernel_rfl) (by kernel_rfl) (fun _ _ _ h => h) (Or.inl ⟨by rfl, ?_⟩) (by assumption) ?_
  rotate_left 1
  · intro w' hSw; (try dsimp only at hSw); go_simp; (try with_reducible rfl)
  simp only [Act.put, List.setIfInBounds_toArray, List.set_cons_zero, List.set_cons_succ]
  refine wpAnyH_take (i := 5) (oi := { dst := some 25, op := Op.fieldAddr 47 (Operand.tmp 3) 1, type := 0, pos := "ref.go:18", after := #[{ on := 0, ground := Ground.phase }, { on := 1, ground := Ground.phase }, { on := 2, ground := Ground.textOnly Departure.lateStores }, { on := 3, ground := Ground.textOnly Departure.lateStores }, { on := 4, ground := Ground.textOnly Departure.lateStores }], guard := none }) (v := ?_) rfl (by kernel_rfl) (by kernel_rfl) (by kernel_rfl) (fun _ _ _ h => h) (Or.inl ⟨by rfl, ?_⟩) (by assumption) ?_
  rotate_left 1
  · intro w' hSw; (try dsimp only at hSw); go_simp; (try with_reducible rfl)
  simp only [Act.put, List.setIfInBounds_toArray, List.set_cons_zero, List.set_cons_succ]
  refine wpAnyH_ready (rs := [6]) (by kernel_rfl) (by simp) ?_
  refine AllReadyH.cons (o := { dst := none, op := Op.store 4 (Operand.tmp 25) (Operand.tmp 21), type := 0, pos := "ref.go:18", after := #[{ on := 5, ground := Ground.data }, { on := 1, ground := Ground.data }, { on := 0, ground := Ground.phase }, { on := 1, ground := Ground.phase }, { on := 2, ground := Ground.textOnly Departure.lateStores }, { on := 3, ground := Ground.textOnly Departure.lateStores }, { on := 4, ground := Ground.textOnly Departure.lateStores }], guard := none }) rfl (fun K' hK => ?_) AllReadyH.nil
  go_simp
  obtain ⟨w5, hw5⟩ : ∃ v, v = (w4.setCell ⟨g5, 1, none⟩ (.bool false)).drew := ⟨_, rfl⟩
  rw [← hw5]
  have P5 : Hid (PS w w5 ⟨1, false, ix, gn, cp, dt⟩ A n c 0 g5 none #[.int .i64 1, .bool false, .int .i64 0, .int .i64 0, .int .i64 0, .slice none 0 0]) := Lib.hid (by have hh := P4D.out.set HA.out 1 (.bool false); rw [hw5]; exact (show PS w (w4.drew.setCell ⟨g5, 1, none⟩ (.bool false)) ⟨1, false, ix, gn, cp, dt⟩ A n c 0 g5 none #[.int .i64 1, .bool false, .int .i64 0, .int .i64 0, .int .i64 0, .slice none 0 0] by simpa using hh))
  have s5 : w5.cell? ⟨w.heap.size, 1, none⟩ = some (.bool false) ∧ w5.cell? ⟨w.heap.size, 2, none⟩ = some (.int .i64 ix) := ⟨P5.out.k.c1, P5.out.k.c2⟩
  clear hw5 k1 z1 k2 z2
  have k1 := P5.out.r5.at_ 1
  have z1 := P5.out.r5.fz 1
  have k2 := P5.out.r5.at_ 2
  have z2 := P5.out.r5.fz 2
  refine hK.out _ _ s5 (fun hHeld => ?_)
  clear hK K'
  try simp only [Act.put]
  refine wpAnyH_take (i := 7) (oi := { dst := some 26, op := Op.fieldAddr 47 (Operand.tmp 3) 2, type := 0, pos := "ref.go:18", after := #[{ on := 0, ground := Ground.phase }, { on := 1, ground := Ground.phase }, { on := 2, ground := Ground.phase }, { on := 3, ground := Ground.phase }, { on := 4, ground := Ground.phase }, { on := 5, ground := Ground.phase }, { on := 6, ground := Ground.phase }], guard := none }) (v := ?_) rfl (by kernel_rfl) (by kernel_rfl) (by kernel_rfl) (fun _ _ _ h => h) (Or.inl ⟨by rfl, ?_⟩) (by assumption) ?_
  rotate_left 1
  · intro w' hSw; (try dsimp only at hSw); go_simp; (try with_reducible rfl)
  simp only [Act.put, List.setIfInBounds_toArray, List.set_cons_zero, List.set_cons_succ]
  refine wpAnyH_take (i := 8) (oi := { dst := some 27, op := Op.fieldAddr 45 (Operand.tmp 26) 0, type := 0, pos := "ref.go:18", after := #[{ on := 7, ground := Ground.data }, { on := 0, ground := Ground.phase }, { on := 1, ground := Ground.phase }, { on := 2, ground := Ground.phase }, { on := 3, ground := Ground.phase }, { on := 4, ground := Ground.phase }, { on := 5, ground := Ground.phase }, { on := 6, ground := Ground.phase }], guard := none }) (v := ?_) rfl (by kernel_rfl) (by kernel_rfl) (by kernel_rfl) (fun _ _ _ h => h) (Or.inl ⟨by rfl, ?_⟩) (by assumption) ?_
  rotate_left 1
  · intro w' hSw; (try dsimp only at hSw); go_simp; (try with_reducible rfl)
  simp only [Act.put, List.setIfInBounds_toArray, List.set_cons_zero, List.set_cons_succ]
  refine wpAnyH_ready (rs := [9]) (by kernel_rfl) (by simp) ?_
  refine AllReadyH.cons (o := { dst := none, op := Op.store 3 (Operand.tmp 27) (Operand.tmp 24), type := 0, pos := "ref.go:18", after := #[{ on := 8, ground := Ground.data }, { on := 4, ground := Ground.data }, { on := 6, ground := Ground.chain }, { on := 0, ground := Ground.phase }, { on := 1, ground := Ground.phase }, { on := 2, ground := Ground.phase }, { on := 3, ground := Ground.phase }, { on := 4, ground := Ground.phase }, { on := 5, ground := Ground.phase }, { on := 6, ground := Ground.phase }], guard := none }) rfl (fun K' hK => ?_) AllReadyH.nil
  go_simp
  obtain ⟨w6, hw6⟩ : ∃ v, v = w5.setCell ⟨g5, 2, none⟩ (.int .i64 ix) := ⟨_, rfl⟩
  rw [← hw6]
  have P6 : Hid (PS w w6 ⟨1, false, ix, gn, cp, dt⟩ A n c 0 g5 none #[.int .i64 1, .bool false, .int .i64 ix, .int .i64 0, .int .i64 0, .slice none 0 0]) := Lib.hid (by have hh := P5.out.set HA.out 2 (.int .i64 ix); rw [hw6]; exact (show PS w (w5.setCell ⟨g5, 2, none⟩ (.int .i64 ix)) ⟨1, false, ix, gn, cp, dt⟩ A n c 0 g5 none #[.int .i64 1, .bool false, .int .i64 ix, .int .i64 0, .int .i64 0, .slice none 0 0] by simpa using hh))
  have s6 : w6.cell? ⟨w.heap.size, 1, none⟩ = some (.bool false) ∧ w6.cell? ⟨w.heap.size, 2, none⟩ = some (.int .i64 ix) := ⟨P6.out.k.c1, P6.out.k.c2⟩
  clear hw6 k1 z1 k2 z2
  refine hK.out _ _ s6 (fun hHeld => ?_)
  clear hK K'
  try simp only [Act.put]
  refine wpAnyH_done (by kernel_rfl) ?_ _
  refine NoPanic.normal ?_
  clear hHeld s4 s5 s6 P4D P5
  have q1 := P6.out.k.c1
  have q3 := P6.out.k.c3
  have z3 := P6.out.r5.fz 3
  have k3 := P6.out.r5.at_ 3
  obtain ⟨w7, hw7⟩ : ∃ v, v = w6.setCell ⟨g5, 3, none⟩ (.int .i64 gn) := ⟨_, rfl⟩
  have P7 : Hid (PS w w7 ⟨1, false, ix, gn, cp, dt⟩ A n c 0 g5 none #[.int .i64 1, .bool false, .int .i64 ix, .int .i64 gn, .int .i64 0, .slice none 0 0]) := Lib.hid (by have hh := P6.out.set HA.out 3 (.int .i64 gn); rw [hw7]; simpa using hh)
  have q0w7 := P7.out.k.c0
  go_wp2_with (first
    | (rw [← hw7]; clear hw7 z3 k3)
    | ((with_reducible refine wpList_ldS cdT rfl rfl (.tmp 3) rfl rfl P7.out.r5 ?_))
    | ((with_reducible refine wpList_stS (cs' := #[.int .i64 1, .bool false, .int .i64 ix, .int .i64 gn, .int .i64 0, .slice none 0 0]) cdT rfl rfl (by simp [Value.oneCell']) rfl (.tmp 2) (.tmp 48) rfl rfl rfl P7.out.r2 ?_); intro w12 hR12 hF12))
  refine bodyPost_ret (res_c rfl rfl (hR12.load cdT rfl)) rfl ?_
  exact ⟨none, 0, 0, rfl, Rd.nil _ _, Nat.le_refl _, P7.out.done hF12, .inl rfl⟩

set_option maxHeartbeats 2000000 in
theorem RPlain_1t (ix gn cp : Int) (dt : List UInt8) (A : Option Addr) (n c : Nat) (w : World) (h : Rd w A n dt) (hnc : n ≤ c) :
    Calls Try.prog 30 #[.agg (Cd.cs ⟨1, true, ix, gn, cp, dt⟩ A n c)] w (PlainR A ⟨1, true, ix, gn, cp, dt⟩ w) := by
  obtain ⟨w1, hw1⟩ : ∃ w1, w1 = (w.alloc (.cells (Cd.cs ⟨1, true, ix, gn, cp, dt⟩ A n c) 47)).alloc (.cells (Cd.zero.cs none 0 0) 47) := ⟨_, rfl⟩
  have K1 : CdAt w w1 w.heap.size ⟨1, true, ix, gn, cp, dt⟩ A n c := by rw [hw1]; exact (CdAt.new w ⟨1, true, ix, gn, cp, dt⟩ A n c h).next ((Below.refl _ _).alloc (Nat.le_refl _) _)
  have R1 : Rec 47 w1 (w.heap.size + 1) (Cd.zero.cs none 0 0) := by
    have := Rec.new (w.alloc (.cells (Cd.cs ⟨1, true, ix, gn, cp, dt⟩ A n c) 47)) 47 (Cd.zero.cs none 0 0)
    rw [World.size_alloc] at this
    rw [hw1]; exact this
  have hA := h.lo
  obtain ⟨w4, hw4⟩ : ∃ w4, w4 = w1.alloc (.cells #[.int .i64 1, .bool false, .int .i64 0, .int .i64 0, .int .i64 0, .slice none 0 0] 47) := ⟨_, rfl⟩
  have hb4 : Below w1.heap.size w1 w4 := by rw [hw4]; exact (Below.refl _ _).alloc (Nat.le_refl _) _
  have s1 : w1.heap.size = w.heap.size + 2 := by rw [hw1]; simp
  have r4 : Rec 47 w4 w1.heap.size #[.int .i64 1, .bool false, .int .i64 0, .int .i64 0, .int .i64 0, .slice none 0 0] := by rw [hw4]; exact Rec.new w1 _ _
  have P4 := Lib.hid (show PS w w4 ⟨1, true, ix, gn, cp, dt⟩ A n c 0 w1.heap.size none #[.int .i64 1, .bool false, .int .i64 0, .int .i64 0, .int .i64 0, .slice none 0 0] from ⟨K1.next hb4, R1.under hb4, (fun t e => by cases e), r4, by omega, fun e => absurd rfl e⟩)
  have c0 := K1.c0
  have d0 := P4.out.k.c0
  obtain ⟨g5, hg5⟩ : ∃ g5, g5 = w1.heap.size := ⟨_, rfl⟩
  rw [← hg5] at P4
  have G := Lib.hid hg5
  have HA := Lib.hid hA
  clear h hA K1 R1 hb4 s1 r4 hg5
  go_enter Try.func30, Try.ntmps30
  go_upto_region 6 with (first
    | (rw [← hw1]; clear hw1)
    | (rw [← hw4, ← G.out]; clear hw4))
  have P4d := P4.out.below (Below.refl _ _).drew
  have s4 : w4.drew.cell? ⟨w.heap.size, 1, none⟩ = some (.bool true) ∧ w4.drew.cell? ⟨w.heap.size, 2, none⟩ = some (.int .i64 ix) := ⟨P4d.k.c1, P4d.k.c2⟩
  have P4D := Lib.hid P4d
  clear P4 c0 d0 P4d
  have k1 := P4D.out.r5.at_ 1
  have z1 := P4D.out.r5.fz 1
  have k2 := P4D.out.r5.at_ 2
  have z2 := P4D.out.r5.fz 2
  refine wp_region_noPanic ?_
  refine wp_region_held_drew (S := fun W => W.cell? ⟨w.heap.size, 1, none⟩ = some (.bool true) ∧ W.cell? ⟨w.heap.size, 2, none⟩ = some (.int .i64 ix)) (by kernel_rfl) s4 (fun hHeld => ?_)
  refine wpAnyH_take (i := 0) (oi := { dst := some 20, op := Op.fieldAddr 47 (Operand.tmp 1) 1, type := 0, pos := "ref.go:18", after := #[], guard := none }) (v := ?_) rfl (by kernel_rfl) (by kernel_rfl) (by kernel_rfl) (fun _ _ _ h => h) (Or.inl ⟨by rfl, ?_⟩) (by assumption) ?_
  rotate_left 1
  · intro w' hSw; (try dsimp only at hSw); go_simp; (try with_reducible rfl)
  simp only [Act.put, List.setIfInBounds_toArray, List.set_cons_zero, List.set_cons_succ]
  refine wpAnyH_take (i := 1) (oi := { dst := some 21, op := Op.load 4 (Operand.tmp 20), type := 4, pos := "ref.go:18", after := #[{ on := 0, ground := Ground.data }], guard := none }) (v := ?_) rfl (by kernel_rfl) (by kernel_rfl) (by kernel_rfl) (fun _ _ _ h => h) (Or.inl ⟨by rfl, ?_⟩) (by assumption) ?_
  rotate_left 1
  · intro w' hSw; (try dsimp only at hSw); go_simp; (try with_reducible rfl)
  simp only [Act.put, List.setIfInBounds_toArray, List.set_cons_zero, List.set_cons_succ]
  refine wpAnyH_take (i := 2) (oi := { dst := some 22, op := Op.fieldAddr 47 (Operand.tmp 1) 2, type := 0, pos := "ref.go:18", after := #[{ on := 6, ground := Ground.gcOnly Departure.lateStores }], guard := none }) (v := ?_) rfl (by kernel_rfl) (by kernel_rfl) (by kernel_rfl) (fun _ _ _ h => h) (Or.inl ⟨by rfl, ?_⟩) (by assumption) ?_
  rotate_left 1
  · intro w' hSw; (try dsimp only at hSw); go_simp; (try with_reducible rfl)
  simp only [Act.put, List.setIfInBounds_toArray, List.set_cons_zero, List.set_cons_succ]
  refine wpAnyH_take (i := 3) (oi := { dst := some 23, op := Op.fieldAddr 45 (Operand.tmp 22) 0, type := 0, pos := "ref.go:18", after := #[{ on := 2, ground := Ground.data }, { on := 6, ground := Ground.gcOnly Departure.lateStores }], guard := none }) (v := ?_) rfl (by kernel_rfl) (by kernel_rfl) (by kernel_rfl) (fun _ _ _ h => h) (Or.inl ⟨by rfl, ?_⟩) (by assumption) ?_
  rotate_left 1
  · intro w' hSw; (try dsimp only at hSw); go_simp; (try with_reducible rfl)
  simp only [Act.put, List.setIfInBounds_toArray, List.set_cons_zero, List.set_cons_succ]
  refine wpAnyH_take (i := 4) (oi := { dst := some 24, op := Op.load 3 (Operand.tmp 23), type := 3, pos := "ref.go:18", after := #[{ on := 3, ground := Ground.data }, { on := 6, ground := Ground.gcOnly Departure.lateStores }], guard := none }) (v := ?_) rfl (by kernel_rfl) (by kernel_rfl) (by kernel_rfl) (fun _ _ _ h => h) (Or.inl ⟨by rfl, ?_⟩) (by assumption) ?_
  rotate_left 1
  · intro w' hSw; (try dsimp only at hSw); go_simp; (try with_reducible rfl)
  simp only [Act.put, List.setIfInBounds_toArray, List.set_cons_zero, List.set_cons_succ]
  refine wpAnyH_take (i := 5) (oi := { dst := some 25, op := Op.fieldAddr 47 (Operand.tmp 3) 1, type := 0, pos := "ref.go:18", after := #[{ on := 0, ground := Ground.phase }, { on := 1, ground := Ground.phase }, { on := 2, ground := Ground.textOnly Departure.lateStores }, { on := 3, ground := Ground.textOnly Departure.lateStores }, { on := 4, ground := Ground.textOnly Departure.lateStores }], guard := none }) (v := ?_) rfl (by kernel_rfl) (by kernel_rfl) (by kernel_rfl) (fun _ _ _ h => h) (Or.inl ⟨by rfl, ?_⟩) (by assumption) ?_
  rotate_left 1
  · intro w' hSw; (try dsimp only at hSw); go_simp; (try with_reducible rfl)
  simp only [Act.put, List.setIfInBounds_toArray, List.set_cons_zero, List.set_cons_succ]
  refine wpAnyH_ready (rs := [6]) (by kernel_rfl) (by simp) ?_
  refine AllReadyH.cons (o := { dst := none, op := Op.store 4 (Operand.tmp 25) (Operand.tmp 21), type := 0, pos := "ref.go:18", after := #[{ on := 5, ground := Ground.data }, { on := 1, ground := Ground.data }, { on := 0, ground := Ground.phase }, { on := 1, ground := Ground.phase }, { on := 2, ground := Ground.textOnly Departure.lateStores }, { on := 3, ground := Ground.textOnly Departure.lateStores }, { on := 4, ground := Ground.textOnly Departure.lateStores }], guard := none }) rfl (fun K' hK => ?_) AllReadyH.nil
  go_simp
  obtain ⟨w5, hw5⟩ : ∃ v, v = (w4.setCell ⟨g5, 1, none⟩ (.bool true)).drew := ⟨_, rfl⟩
  rw [← hw5]
  have P5 : Hid (PS w w5 ⟨1, true, ix, gn, cp, dt⟩ A n c 0 g5 none #[.int .i64 1, .bool true, .int .i64 0, .int .i64 0, .int .i64 0, .slice none 0 0]) := Lib.hid (by have hh := P4D.out.set HA.out 1 (.bool true); rw [hw5]; exact (show PS w (w4.drew.setCell ⟨g5, 1, none⟩ (.bool true)) ⟨1, true, ix, gn, cp, dt⟩ A n c 0 g5 none #[.int .i64 1, .bool true, .int .i64 0, .int .i64 0, .int .i64 0, .slice none 0 0] by simpa using hh))
  have s5 : w5.cell? ⟨w.heap.size, 1, none⟩ = some (.bool true) ∧ w5.cell? ⟨w.heap.size, 2, none⟩ = some (.int .i64 ix) := ⟨P5.out.k.c1, P5.out.k.c2⟩
  clear hw5 k1 z1 k2 z2
  have k1 := P5.out.r5.at_ 1
  have z1 := P5.out.r5.fz 1
  have k2 := P5.out.r5.at_ 2
  have z2 := P5.out.r5.fz 2
  refine hK.out _ _ s5 (fun hHeld => ?_)
  clear hK K'
  try simp only [Act.put]
  refine wpAnyH_take (i := 7) (oi := { dst := some 26, op := Op.fieldAddr 47 (Operand.tmp 3) 2, type := 0, pos := "ref.go:18", after := #[{ on := 0, ground := Ground.phase }, { on := 1, ground := Ground.phase }, { on := 2, ground := Ground.phase }, { on := 3, ground := Ground.phase }, { on := 4, ground := Ground.phase }, { on := 5, ground := Ground.phase }, { on := 6, ground := Ground.phase }], guard := none }) (v := ?_) rfl (by kernel_rfl) (by kernel_rfl) (by kernel_rfl) (fun _ _ _ h => h) (Or.inl ⟨by rfl, ?_⟩) (by assumption) ?_
  rotate_left 1
  · intro w' hSw; (try dsimp only at hSw); go_simp; (try with_reducible rfl)
  simp only [Act.put, List.setIfInBounds_toArray, List.set_cons_zero, List.set_cons_succ]
  refine wpAnyH_take (i := 8) (oi := { dst := some 27, op := Op.fieldAddr 45 (Operand.tmp 26) 0, type := 0, pos := "ref.go:18", after := #[{ on := 7, ground := Ground.data }, { on := 0, ground := Ground.phase }, { on := 1, ground := Ground.phase }, { on := 2, ground := Ground.phase }, { on := 3, ground := Ground.phase }, { on := 4, ground := Ground.phase }, { on := 5, ground := Ground.phase }, { on := 6, ground := Ground.phase }], guard := none }) (v := ?_) rfl (by kernel_rfl) (by kernel_rfl) (by kernel_rfl) (fun _ _ _ h => h) (Or.inl ⟨by rfl, ?_⟩) (by assumption) ?_
  rotate_left 1
  · intro w' hSw; (try dsimp only at hSw); go_simp; (try with_reducible rfl)
  simp only [Act.put, List.setIfInBounds_toArray, List.set_cons_zero, List.set_cons_succ]
  refine wpAnyH_ready (rs := [9]) (by kernel_rfl) (by simp) ?_
  refine AllReadyH.cons (o := { dst := none, op := Op.store 3 (Operand.tmp 27) (Operand.tmp 24), type := 0, pos := "ref.go:18", after := #[{ on := 8, ground := Ground.data }, { on := 4, ground := Ground.data }, { on := 6, ground := Ground.chain }, { on := 0, ground := Ground.phase }, { on := 1, ground := Ground.phase }, { on := 2, ground := Ground.phase }, { on := 3, ground := Ground.phase }, { on := 4, ground := Ground.phase }, { on := 5, ground := Ground.phase }, { on := 6, ground := Ground.phase }], guard := none }) rfl (fun K' hK => ?_) AllReadyH.nil
  go_simp
  obtain ⟨w6, hw6⟩ : ∃ v, v = w5.setCell ⟨g5, 2, none⟩ (.int .i64 ix) := ⟨_, rfl⟩
  rw [← hw6]
  have P6 : Hid (PS w w6 ⟨1, true, ix, gn, cp, dt⟩ A n c 0 g5 none #[.int .i64 1, .bool true, .int .i64 ix, .int .i64 0, .int .i64 0, .slice none 0 0]) := Lib.hid (by have hh := P5.out.set HA.out 2 (.int .i64 ix); rw [hw6]; exact (show PS w (w5.setCell ⟨g5, 2, none⟩ (.int .i64 ix)) ⟨1, true, ix, gn, cp, dt⟩ A n c 0 g5 none #[.int .i64 1, .bool true, .int .i64 ix, .int .i64 0, .int .i64 0, .slice none 0 0] by simpa using hh))
  have s6 : w6.cell? ⟨w.heap.size, 1, none⟩ = some (.bool true) ∧ w6.cell? ⟨w.heap.size, 2, none⟩ = some (.int .i64 ix) := ⟨P6.out.k.c1, P6.out.k.c2⟩
  clear hw6 k1 z1 k2 z2
  refine hK.out _ _ s6 (fun hHeld => ?_)
  clear hK K'
  try simp only [Act.put]
  refine wpAnyH_done (by kernel_rfl) ?_ _
  refine NoPanic.normal ?_
  clear hHeld s4 s5 s6 P4D P5
  have q1 := P6.out.k.c1
  have q0w6 := P6.out.k.c0
  go_wp2_with (first
    | ((with_reducible refine wpList_ldS cdT rfl rfl (.tmp 3) rfl rfl P6.out.r5 ?_))
    | ((with_reducible refine wpList_stS (cs' := #[.int .i64 1, .bool true, .int .i64 ix, .int .i64 0, .int .i64 0, .slice none 0 0]) cdT rfl rfl (by simp [Value.oneCell']) rfl (.tmp 2) (.tmp 48) rfl rfl rfl P6.out.r2 ?_); intro w12 hR12 hF12))
  refine bodyPost_ret (res_c rfl rfl (hR12.load cdT rfl)) rfl ?_
  exact ⟨none, 0, 0, rfl, Rd.nil _ _, Nat.le_refl _, P6.out.done hF12, .inl rfl⟩

set_option maxHeartbeats 2000000 in
theorem RPlain_2f (ix gn cp : Int) (dt : List UInt8) (A : Option Addr) (n c : Nat) (w : World) (h : Rd w A n dt) (hnc : n ≤ c) :
    Calls Try.prog 30 #[.agg (Cd.cs ⟨2, false, ix, gn, cp, dt⟩ A n c)] w (PlainR A ⟨2, false, ix, gn, cp, dt⟩ w) := by
  obtain ⟨w1, hw1⟩ : ∃ w1, w1 = (w.alloc (.cells (Cd.cs ⟨2, false, ix, gn, cp, dt⟩ A n c) 47)).alloc (.cells (Cd.zero.cs none 0 0) 47) := ⟨_, rfl⟩
  have K1 : CdAt w w1 w.heap.size ⟨2, false, ix, gn, cp, dt⟩ A n c := by rw [hw1]; exact (CdAt.new w ⟨2, false, ix, gn, cp, dt⟩ A n c h).next ((Below.refl _ _).alloc (Nat.le_refl _) _)
  have R1 : Rec 47 w1 (w.heap.size + 1) (Cd.zero.cs none 0 0) := by
    have := Rec.new (w.alloc (.cells (Cd.cs ⟨2, false, ix, gn, cp, dt⟩ A n c) 47)) 47 (Cd.zero.cs none 0 0)
    rw [World.size_alloc] at this
    rw [hw1]; exact this
  have hA := h.lo
  obtain ⟨w4, hw4⟩ : ∃ w4, w4 = w1.alloc (.cells #[.int .i64 2, .bool false, .int .i64 0, .int .i64 0, .int .i64 0, .slice none 0 0] 47) := ⟨_, rfl⟩
  have hb4 : Below w1.heap.size w1 w4 := by rw [hw4]; exact (Below.refl _ _).alloc (Nat.le_refl _) _
  have s1 : w1.heap.size = w.heap.size + 2 := by rw [hw1]; simp
  have r4 : Rec 47 w4 w1.heap.size #[.int .i64 2, .bool false, .int .i64 0, .int .i64 0, .int .i64 0, .slice none 0 0] := by rw [hw4]; exact Rec.new w1 _ _
  have P4 := Lib.hid (show PS w w4 ⟨2, false, ix, gn, cp, dt⟩ A n c 0 w1.heap.size none #[.int .i64 2, .bool false, .int .i64 0, .int .i64 0, .int .i64 0, .slice none 0 0] from ⟨K1.next hb4, R1.under hb4, (fun t e => by cases e), r4, by omega, fun e => absurd rfl e⟩)
  have c0 := K1.c0
  have d0 := P4.out.k.c0
  obtain ⟨g5, hg5⟩ : ∃ g5, g5 = w1.heap.size := ⟨_, rfl⟩
  rw [← hg5] at P4
  have G := Lib.hid hg5
  have HA := Lib.hid hA
  clear h hA K1 R1 hb4 s1 r4 hg5
  go_enter Try.func30, Try.ntmps30
  go_upto_region 6 with (first
    | (rw [← hw1]; clear hw1)
    | (rw [← hw4, ← G.out]; clear hw4))
  have P4d := P4.out.below (Below.refl _ _).drew
  have s4 : w4.drew.cell? ⟨w.heap.size, 1, none⟩ = some (.bool false) ∧ w4.drew.cell? ⟨w.heap.size, 2, none⟩ = some (.int .i64 ix) := ⟨P4d.k.c1, P4d.k.c2⟩
  have P4D := Lib.hid P4d
  clear P4 c0 d0 P4d
  have k1 := P4D.out.r5.at_ 1
  have z1 := P4D.out.r5.fz 1
  have k2 := P4D.out.r5.at_ 2
  have z2 := P4D.out.r5.fz 2
  refine wp_region_noPanic ?_
  refine wp_region_held_drew (S := fun W => W.cell? ⟨w.heap.size, 1, none⟩ = some (.bool false) ∧ W.cell? ⟨w.heap.size, 2, none⟩ = some (.int .i64 ix)) (by kernel_rfl) s4 (fun hHeld => ?_)
  refine wpAnyH_take (i := 0) (oi := { dst := some 20, op := Op.fieldAddr 47 (Operand.tmp 1) 1, type := 0, pos := "ref.go:18", after := #[], guard := none }) (v := ?_) rfl (by kernel_rfl) (by kernel_rfl) (by kernel_rfl) (fun _ _ _ h => h) (Or.inl ⟨by rfl, ?_⟩) (by assumption) ?_
  rotate_left 1
  · intro w' hSw; (try dsimp only at hSw); go_simp; (try with_reducible rfl)
  simp only [Act.put, List.setIfInBounds_toArray, List.set_cons_zero, List.set_cons_succ]
  refine wpAnyH_take (i := 1) (oi := { dst := some 21, op := Op.load 4 (Operand.tmp 20), type := 4, pos := "ref.go:18", after := #[{ on := 0, ground := Ground.data }], guard := none }) (v := ?_) rfl (by kernel_rfl) (by kernel_rfl) (by kernel_rfl) (fun _ _ _ h => h) (Or.inl ⟨by rfl, ?_⟩) (by assumption) ?_
  rotate_left 1
  · intro w' hSw; (try dsimp only at hSw); go_simp; (try with_reducible rfl)
  simp only [Act.put, List.setIfInBounds_toArray, List.set_cons_zero, List.set_cons_succ]
  refine wpAnyH_take (i := 2) (oi := { dst := some 22, op := Op.fieldAddr 47 (Operand.tmp 1) 2, type := 0, pos := "ref.go:18", after := #[{ on := 6, ground := Ground.gcOnly Departure.lateStores }], guard := none }) (v := ?_) rfl (by kernel_rfl) (by kernel_rfl) (by kernel_rfl) (fun _ _ _ h => h) (Or.inl ⟨by rfl, ?_⟩) (by assumption) ?_
  rotate_left 1
  · intro w' hSw; (try dsimp only at hSw); go_simp; (try with_reducible rfl)
  simp only [Act.put, List.setIfInBounds_toArray, List.set_cons_zero, List.set_cons_succ]
  refine wpAnyH_take (i := 3) (oi := { dst := some 23, op := Op.fieldAddr 45 (Operand.tmp 22) 0, type := 0, pos := "ref.go:18", after := #[{ on := 2, ground := Ground.data }, { on := 6, ground := Ground.gcOnly Departure.lateStores }], guard := none }) (v := ?_) rfl (by kernel_rfl) (by kernel_rfl) (by kernel_rfl) (fun _ _ _ h => h) (Or.inl ⟨by rfl, ?_⟩) (by assumption) ?_
  rotate_left 1
  · intro w' hSw; (try dsimp only at hSw); go_simp; (try with_reducible rfl)
  simp only [Act.put, List.setIfInBounds_toArray, List.set_cons_zero, List.set_cons_succ]
  refine wpAnyH_take (i := 4) (oi := { dst := some 24, op := Op.load 3 (Operand.tmp 23), type := 3, pos := "ref.go:18", after := #[{ on := 3, ground := Ground.data }, { on := 6, ground := Ground.gcOnly Departure.lateStores }], guard := none }) (v := ?_) rfl (by kernel_rfl) (by kernel_rfl) (by kernel_rfl) (fun _ _ _ h => h) (Or.inl ⟨by rfl, ?_⟩) (by assumption) ?_
  rotate_left 1
  · intro w' hSw; (try dsimp only at hSw); go_simp; (try with_reducible rfl)
  simp only [Act.put, List.setIfInBounds_toArray, List.set_cons_zero, List.set_cons_succ]
  refine wpAnyH_take (i := 5) (oi := { dst := some 25, op := Op.fieldAddr 47 (Operand.tmp 3) 1, type := 0, pos := "ref.go:18", after := #[{ on := 0, ground := Ground.phase }, { on := 1, ground := Ground.phase }, { on := 2, ground := Ground.textOnly Departure.lateStores }, { on := 3, ground := Ground.textOnly Departure.lateStores }, { on := 4, ground := Ground.textOnly Departure.lateStores }], guard := none }) (v := ?_) rfl (by kernel_rfl) (by kernel_rfl) (by kernel_rfl) (fun _ _ _ h => h) (Or.inl ⟨by rfl, ?_⟩) (by assumption) ?_
  rotate_left 1
  · intro w' hSw; (try dsimp only at hSw); go_simp; (try with_reducible rfl)
  simp only [Act.put, List.setIfInBounds_toArray, List.set_cons_zero, List.set_cons_succ]
  refine wpAnyH_ready (rs := [6]) (by kernel_rfl) (by simp) ?_
  refine AllReadyH.cons (o := { dst := none, op := Op.store 4 (Operand.tmp 25) (Operand.tmp 21), type := 0, pos := "ref.go:18", after := #[{ on := 5, ground := Ground.data }, { on := 1, ground := Ground.data }, { on := 0, ground := Ground.phase }, { on := 1, ground := Ground.phase }, { on := 2, ground := Ground.textOnly Departure.lateStores }, { on := 3, ground := Ground.textOnly Departure.lateStores }, { on := 4, ground := Ground.textOnly Departure.lateStores }], guard := none }) rfl (fun K' hK => ?_) AllReadyH.nil
  go_simp
  obtain ⟨w5, hw5⟩ : ∃ v, v = (w4.setCell ⟨g5, 1, none⟩ (.bool false)).drew := ⟨_, rfl⟩
  rw [← hw5]
  have P5 : Hid (PS w w5 ⟨2, false, ix, gn, cp, dt⟩ A n c 0 g5 none #[.int .i64 2, .bool false, .int .i64 0, .int .i64 0, .int .i64 0, .slice none 0 0]) := Lib.hid (by have hh := P4D.out.set HA.out 1 (.bool false); rw [hw5]; exact (show PS w (w4.drew.setCell ⟨g5, 1, none⟩ (.bool false)) ⟨2, false, ix, gn, cp, dt⟩ A n c 0 g5 none #[.int .i64 2, .bool false, .int .i64 0, .int .i64 0, .int .i64 0, .slice none 0 0] by simpa using hh))
  have s5 : w5.cell? ⟨w.heap.size, 1, none⟩ = some (.bool false) ∧ w5.cell? ⟨w.heap.size, 2, none⟩ = some (.int .i64 ix) := ⟨P5.out.k.c1, P5.out.k.c2⟩
  clear hw5 k1 z1 k2 z2
  have k1 := P5.out.r5.at_ 1
  have z1 := P5.out.r5.fz 1
  have k2 := P5.out.r5.at_ 2
  have z2 := P5.out.r5.fz 2
  refine hK.out _ _ s5 (fun hHeld => ?_)
  clear hK K'
  try simp only [Act.put]
  refine wpAnyH_take (i := 7) (oi := { dst := some 26, op := Op.fieldAddr 47 (Operand.tmp 3) 2, type := 0, pos := "ref.go:18", after := #[{ on := 0, ground := Ground.phase }, { on := 1, ground := Ground.phase }, { on := 2, ground := Ground.phase }, { on := 3, ground := Ground.phase }, { on := 4, ground := Ground.phase }, { on := 5, ground := Ground.phase }, { on := 6, ground := Ground.phase }], guard := none }) (v := ?_) rfl (by kernel_rfl) (by kernel_rfl) (by kernel_rfl) (fun _ _ _ h => h) (Or.inl ⟨by rfl, ?_⟩) (by assumption) ?_
  rotate_left 1
  · intro w' hSw; (try dsimp only at hSw); go_simp; (try with_reducible rfl)
  simp only [Act.put, List.setIfInBounds_toArray, List.set_cons_zero, List.set_cons_succ]
  refine wpAnyH_take (i := 8) (oi := { dst := some 27, op := Op.fieldAddr 45 (Operand.tmp 26) 0, type := 0, pos := "ref.go:18", after := #[{ on := 7, ground := Ground.data }, { on := 0, ground := Ground.phase }, { on := 1, ground := Ground.phase }, { on := 2, ground := Ground.phase }, { on := 3, ground := Ground.phase }, { on := 4, ground := Ground.phase }, { on := 5, ground := Ground.phase }, { on := 6, ground := Ground.phase }], guard := none }) (v := ?_) rfl (by kernel_rfl) (by kernel_rfl) (by kernel_rfl) (fun _ _ _ h => h) (Or.inl ⟨by rfl, ?_⟩) (by assumption) ?_
  rotate_left 1
  · intro w' hSw; (try dsimp only at hSw); go_simp; (try with_reducible rfl)
  simp only [Act.put, List.setIfInBounds_toArray, List.set_cons_zero, List.set_cons_succ]
  refine wpAnyH_ready (rs := [9]) (by kernel_rfl) (by simp) ?_
  refine AllReadyH.cons (o := { dst := none, op := Op.store 3 (Operand.tmp 27) (Operand.tmp 24), type := 0, pos := "ref.go:18", after := #[{ on := 8, ground := Ground.data }, { on := 4, ground := Ground.data }, { on := 6, ground := Ground.chain }, { on := 0, ground := Ground.phase }, { on := 1, ground := Ground.phase }, { on := 2, ground := Ground.phase }, { on := 3, ground := Ground.phase }, { on := 4, ground := Ground.phase }, { on := 5, ground := Ground.phase }, { on := 6, ground := Ground.phase }], guard := none }) rfl (fun K' hK => ?_) AllReadyH.nil
  go_simp
  obtain ⟨w6, hw6⟩ : ∃ v, v = w5.setCell ⟨g5, 2, none⟩ (.int .i64 ix) := ⟨_, rfl⟩
  rw [← hw6]
  have P6 : Hid (PS w w6 ⟨2, false, ix, gn, cp, dt⟩ A n c 0 g5 none #[.int .i64 2, .bool false, .int .i64 ix, .int .i64 0, .int .i64 0, .slice none 0 0]) := Lib.hid (by have hh := P5.out.set HA.out 2 (.int .i64 ix); rw [hw6]; exact (show PS w (w5.setCell ⟨g5, 2, none⟩ (.int .i64 ix)) ⟨2, false, ix, gn, cp, dt⟩ A n c 0 g5 none #[.int .i64 2, .bool false, .int .i64 ix, .int .i64 0, .int .i64 0, .slice none 0 0] by simpa using hh))
  have s6 : w6.cell? ⟨w.heap.size, 1, none⟩ = some (.bool false) ∧ w6.cell? ⟨w.heap.size, 2, none⟩ = some (.int .i64 ix) := ⟨P6.out.k.c1, P6.out.k.c2⟩
  clear hw6 k1 z1 k2 z2
  refine hK.out _ _ s6 (fun hHeld => ?_)
  clear hK K'
  try simp only [Act.put]
  refine wpAnyH_done (by kernel_rfl) ?_ _
  refine NoPanic.normal ?_
  clear hHeld s4 s5 s6 P4D P5
  have q1 := P6.out.k.c1
  have q3 := P6.out.k.c3
  have z3 := P6.out.r5.fz 3
  have k3 := P6.out.r5.at_ 3
  obtain ⟨w7, hw7⟩ : ∃ v, v = w6.setCell ⟨g5, 3, none⟩ (.int .i64 gn) := ⟨_, rfl⟩
  have P7 : Hid (PS w w7 ⟨2, false, ix, gn, cp, dt⟩ A n c 0 g5 none #[.int .i64 2, .bool false, .int .i64 ix, .int .i64 gn, .int .i64 0, .slice none 0 0]) := Lib.hid (by have hh := P6.out.set HA.out 3 (.int .i64 gn); rw [hw7]; simpa using hh)
  have q0w7 := P7.out.k.c0
  have q4 := P7.out.k.c4
  have z4 := P7.out.r5.fz 4
  have k4 := P7.out.r5.at_ 4
  obtain ⟨w8, hw8⟩ : ∃ v, v = w7.setCell ⟨g5, 4, none⟩ (.int .i64 cp) := ⟨_, rfl⟩
  have P8 : Hid (PS w w8 ⟨2, false, ix, gn, cp, dt⟩ A n c 0 g5 none #[.int .i64 2, .bool false, .int .i64 ix, .int .i64 gn, .int .i64 cp, .slice none 0 0]) := Lib.hid (by have hh := P7.out.set HA.out 4 (.int .i64 cp); rw [hw8]; simpa using hh)
  have q0w8 := P8.out.k.c0
  have q5 := P8.out.k.c5
  have z5 := P8.out.r5.fz 5
  have k5 := P8.out.r5.at_ 5
  obtain ⟨w9, hw9⟩ : ∃ v, v = w8.setCell ⟨g5, 5, none⟩ (.slice A n c) := ⟨_, rfl⟩
  have P9 : Hid (PS w w9 ⟨2, false, ix, gn, cp, dt⟩ A n c 0 g5 none #[.int .i64 2, .bool false, .int .i64 ix, .int .i64 gn, .int .i64 cp, .slice A n c]) := Lib.hid (by have hh := P8.out.set HA.out 5 (.slice A n c); rw [hw9]; simpa using hh)
  go_wp2_with (first
    | (rw [← hw7]; clear hw7 z3 k3)
    | (rw [← hw8]; clear hw8 z4 k4)
    | (rw [← hw9]; clear hw9 z5 k5)
    | ((with_reducible refine wpList_ldS cdT rfl rfl (.tmp 3) rfl rfl P9.out.r5 ?_))
    | ((with_reducible refine wpList_stS (cs' := #[.int .i64 2, .bool false, .int .i64 ix, .int .i64 gn, .int .i64 cp, .slice A n c]) cdT rfl rfl (by simp [Value.oneCell']) rfl (.tmp 2) (.tmp 48) rfl rfl rfl P9.out.r2 ?_); intro w12 hR12 hF12))
  refine bodyPost_ret (res_c rfl rfl (hR12.load cdT rfl)) rfl ?_
  exact ⟨A, n, c, rfl, P9.out.k.rd.fr hF12 (fun b o e hp e' => by have := HA.out b o e hp; omega), hnc, P9.out.done hF12, .inr rfl⟩

set_option maxHeartbeats 2000000 in
theorem RPlain_2t (ix gn cp : Int) (dt : List UInt8) (A : Option Addr) (n c : Nat) (w : World) (h : Rd w A n dt) (hnc : n ≤ c) :
    Calls Try.prog 30 #[.agg (Cd.cs ⟨2, true, ix, gn, cp, dt⟩ A n c)] w (PlainR A ⟨2, true, ix, gn, cp, dt⟩ w) := by
  obtain ⟨w1, hw1⟩ : ∃ w1, w1 = (w.alloc (.cells (Cd.cs ⟨2, true, ix, gn, cp, dt⟩ A n c) 47)).alloc (.cells (Cd.zero.cs none 0 0) 47) := ⟨_, rfl⟩
  have K1 : CdAt w w1 w.heap.size ⟨2, true, ix, gn, cp, dt⟩ A n c := by rw [hw1]; exact (CdAt.new w ⟨2, true, ix, gn, cp, dt⟩ A n c h).next ((Below.refl _ _).alloc (Nat.le_refl _) _)
  have R1 : Rec 47 w1 (w.heap.size + 1) (Cd.zero.cs none 0 0) := by
    have := Rec.new (w.alloc (.cells (Cd.cs ⟨2, true, ix, gn, cp, dt⟩ A n c) 47)) 47 (Cd.zero.cs none 0 0)
    rw [World.size_alloc] at this
    rw [hw1]; exact this
  have hA := h.lo
  obtain ⟨w4, hw4⟩ : ∃ w4, w4 = w1.alloc (.cells #[.int .i64 2, .bool false, .int .i64 0, .int .i64 0, .int .i64 0, .slice none 0 0] 47) := ⟨_, rfl⟩
  have hb4 : Below w1.heap.size w1 w4 := by rw [hw4]; exact (Below.refl _ _).alloc (Nat.le_refl _) _
  have s1 : w1.heap.size = w.heap.size + 2 := by rw [hw1]; simp
  have r4 : Rec 47 w4 w1.heap.size #[.int .i64 2, .bool false, .int .i64 0, .int .i64 0, .int .i64 0, .slice none 0 0] := by rw [hw4]; exact Rec.new w1 _ _
  have P4 := Lib.hid (show PS w w4 ⟨2, true, ix, gn, cp, dt⟩ A n c 0 w1.heap.size none #[.int .i64 2, .bool false, .int .i64 0, .int .i64 0, .int .i64 0, .slice none 0 0] from ⟨K1.next hb4, R1.under hb4, (fun t e => by cases e), r4, by omega, fun e => absurd rfl e⟩)
  have c0 := K1.c0
  have d0 := P4.out.k.c0
  obtain ⟨g5, hg5⟩ : ∃ g5, g5 = w1.heap.size := ⟨_, rfl⟩
  rw [← hg5] at P4
  have G := Lib.hid hg5
  have HA := Lib.hid hA
  clear h hA K1 R1 hb4 s1 r4 hg5
  go_enter Try.func30, Try.ntmps30
  go_upto_region 6 with (first
    | (rw [← hw1]; clear hw1)
    | (rw [← hw4, ← G.out]; clear hw4))
  have P4d := P4.out.below (Below.refl _ _).drew
  have s4 : w4.drew.cell? ⟨w.heap.size, 1, none⟩ = some (.bool true) ∧ w4.drew.cell? ⟨w.heap.size, 2, none⟩ = some (.int .i64 ix) := ⟨P4d.k.c1, P4d.k.c2⟩
  have P4D := Lib.hid P4d
  clear P4 c0 d0 P4d
  have k1 := P4D.out.r5.at_ 1
  have z1 := P4D.out.r5.fz 1
  have k2 := P4D.out.r5.at_ 2
  have z2 := P4D.out.r5.fz 2
  refine wp_region_noPanic ?_
  refine wp_region_held_drew (S := fun W => W.cell? ⟨w.heap.size, 1, none⟩ = some (.bool true) ∧ W.cell? ⟨w.heap.size, 2, none⟩ = some (.int .i64 ix)) (by kernel_rfl) s4 (fun hHeld => ?_)
  refine wpAnyH_take (i := 0) (oi := { dst := some 20, op := Op.fieldAddr 47 (Operand.tmp 1) 1, type := 0, pos := "ref.go:18", after := #[], guard := none }) (v := ?_) rfl (by kernel_rfl) (by kernel_rfl) (by kernel_rfl) (fun _ _ _ h => h) (Or.inl ⟨by rfl, ?_⟩) (by assumption) ?_
  rotate_left 1
  · intro w' hSw; (try dsimp only at hSw); go_simp; (try with_reducible rfl)
  simp only [Act.put, List.setIfInBounds_toArray, List.set_cons_zero, List.set_cons_succ]
  refine wpAnyH_take (i := 1) (oi := { dst := some 21, op := Op.load 4 (Operand.tmp 20), type := 4, pos := "ref.go:18", after := #[{ on := 0, ground := Ground.data }], guard := none }) (v := ?_) rfl (by kernel_rfl) (by kernel_rfl) (by kernel_rfl) (fun _ _ _ h => h) (Or.inl ⟨by rfl, ?_⟩) (by assumption) ?_
  rotate_left 1
  · intro w' hSw; (try dsimp only at hSw); go_simp; (try with_reducible rfl)
  simp only [Act.put, List.setIfInBounds_toArray, List.set_cons_zero, List.set_cons_succ]
  refine wpAnyH_take (i := 2) (oi := { dst := some 22, op := Op.fieldAddr 47 (Operand.tmp 1) 2, type := 0, pos := "ref.go:18", after := #[{ on := 6, ground := Ground.gcOnly Departure.lateStores }], guard := none }) (v := ?_) rfl (by kernel_rfl) (by kernel_rfl) (by kernel_rfl) (fun _ _ _ h => h) (Or.inl ⟨by rfl, ?_⟩) (by assumption) ?_
  rotate_left 1
  · intro w' hSw; (try dsimp only at hSw); go_simp; (try with_reducible rfl)
  simp only [Act.put, List.setIfInBounds_toArray, List.set_cons_zero, List.set_cons_succ]
  refine wpAnyH_take (i := 3) (oi := { dst := some 23, op := Op.fieldAddr 45 (Operand.tmp 22) 0, type := 0, pos := "ref.go:18", after := #[{ on := 2, ground := Ground.data }, { on := 6, ground := Ground.gcOnly Departure.lateStores }], guard := none }) (v := ?_) rfl (by kernel_rfl) (by kernel_rfl) (by kernel_rfl) (fun _ _ _ h => h) (Or.inl ⟨by rfl, ?_⟩) (by assumption) ?_
  rotate_left 1
  · intro w' hSw; (try dsimp only at hSw); go_simp; (try with_reducible rfl)
  simp only [Act.put, List.setIfInBounds_toArray, List.set_cons_zero, List.set_cons_succ]
  refine wpAnyH_take (i := 4) (oi := { dst := some 24, op := Op.load 3 (Operand.tmp 23), type := 3, pos := "ref.go:18", after := #[{ on := 3, ground := Ground.data }, { on := 6, ground := Ground.gcOnly Departure.lateStores }], guard := none }) (v := ?_) rfl (by kernel_rfl) (by kernel_rfl) (by kernel_rfl) (fun _ _ _ h => h) (Or.inl ⟨by rfl, ?_⟩) (by assumption) ?_
  rotate_left 1
  · intro w' hSw; (try dsimp only at hSw); go_simp; (try with_reducible rfl)
  simp only [Act.put, List.setIfInBounds_toArray, List.set_cons_zero, List.set_cons_succ]
  refine wpAnyH_take (i := 5) (oi := { dst := some 25, op := Op.fieldAddr 47 (Operand.tmp 3) 1, type := 0, pos := "ref.go:18", after := #[{ on := 0, ground := Ground.phase }, { on := 1, ground := Ground.phase }, { on := 2, ground := Ground.textOnly Departure.lateStores }, { on := 3, ground := Ground.textOnly Departure.lateStores }, { on := 4, ground := Ground.textOnly Departure.lateStores }], guard := none }) (v := ?_) rfl (by kernel_rfl) (by kernel_rfl) (by kernel_rfl) (fun _ _ _ h => h) (Or.inl ⟨by rfl, ?_⟩) (by assumption) ?_
  rotate_left 1
  · intro w' hSw; (try dsimp only at hSw); go_simp; (try with_reducible rfl)
  simp only [Act.put, List.setIfInBounds_toArray, List.set_cons_zero, List.set_cons_succ]
  refine wpAnyH_ready (rs := [6]) (by kernel_rfl) (by simp) ?_
  refine AllReadyH.cons (o := { dst := none, op := Op.store 4 (Operand.tmp 25) (Operand.tmp 21), type := 0, pos := "ref.go:18", after := #[{ on := 5, ground := Ground.data }, { on := 1, ground := Ground.data }, { on := 0, ground := Ground.phase }, { on := 1, ground := Ground.phase }, { on := 2, ground := Ground.textOnly Departure.lateStores }, { on := 3, ground := Ground.textOnly Departure.lateStores }, { on := 4, ground := Ground.textOnly Departure.lateStores }], guard := none }) rfl (fun K' hK => ?_) AllReadyH.nil
  go_simp
  obtain ⟨w5, hw5⟩ : ∃ v, v = (w4.setCell ⟨g5, 1, none⟩ (.bool true)).drew := ⟨_, rfl⟩
  rw [← hw5]
  have P5 : Hid (PS w w5 ⟨2, true, ix, gn, cp, dt⟩ A n c 0 g5 none #[.int .i64 2, .bool true, .int .i64 0, .int .i64 0, .int .i64 0, .slice none 0 0]) := Lib.hid (by have hh := P4D.out.set HA.out 1 (.bool true); rw [hw5]; exact (show PS w (w4.drew.setCell ⟨g5, 1, none⟩ (.bool true)) ⟨2, true, ix, gn, cp, dt⟩ A n c 0 g5 none #[.int .i64 2, .bool true, .int .i64 0, .int .i64 0, .int .i64 0, .slice none 0 0] by simpa using hh))
  have s5 : w5.cell? ⟨w.heap.size, 1, none⟩ = some (.bool true) ∧ w5.cell? ⟨w.heap.size, 2, none⟩ = some (.int .i64 ix) := ⟨P5.out.k.c1, P5.out.k.c2⟩
  clear hw5 k1 z1 k2 z2
  have k1 := P5.out.r5.at_ 1
  have z1 := P5.out.r5.fz 1
  have k2 := P5.out.r5.at_ 2
  have z2 := P5.out.r5.fz 2
  refine hK.out _ _ s5 (fun hHeld => ?_)
  clear hK K'
  try simp only [Act.put]
  refine wpAnyH_take (i := 7) (oi := { dst := some 26, op := Op.fieldAddr 47 (Operand.tmp 3) 2, type := 0, pos := "ref.go:18", after := #[{ on := 0, ground := Ground.phase }, { on := 1, ground := Ground.phase }, { on := 2, ground := Ground.phase }, { on := 3, ground := Ground.phase }, { on := 4, ground := Ground.phase }, { on := 5, ground := Ground.phase }, { on := 6, ground := Ground.phase }], guard := none }) (v := ?_) rfl (by kernel_rfl) (by kernel_rfl) (by kernel_rfl) (fun _ _ _ h => h) (Or.inl ⟨by rfl, ?_⟩) (by assumption) ?_
  rotate_left 1
  · intro w' hSw; (try dsimp only at hSw); go_simp; (try with_reducible rfl)
  simp only [Act.put, List.setIfInBounds_toArray, List.set_cons_zero, List.set_cons_succ]
  refine wpAnyH_take (i := 8) (oi := { dst := some 27, op := Op.fieldAddr 45 (Operand.tmp 26) 0, type := 0, pos := "ref.go:18", after := #[{ on := 7, ground := Ground.data }, { on := 0, ground := Ground.phase }, { on := 1, ground := Ground.phase }, { on := 2, ground := Ground.phase }, { on := 3, ground := Ground.phase }, { on := 4, ground := Ground.phase }, { on := 5, ground := Ground.phase }, { on := 6, ground := Ground.phase }], guard := none }) (v := ?_) rfl (by kernel_rfl) (by kernel_rfl) (by kernel_rfl) (fun _ _ _ h => h) (Or.inl ⟨by rfl, ?_⟩) (by assumption) ?_
  rotate_left 1
  · intro w' hSw; (try dsimp only at hSw); go_simp; (try with_reducible rfl)
  simp only [Act.put, List.setIfInBounds_toArray, List.set_cons_zero, List.set_cons_succ]
  refine wpAnyH_ready (rs := [9]) (by kernel_rfl) (by simp) ?_
  refine AllReadyH.cons (o := { dst := none, op := Op.store 3 (Operand.tmp 27) (Operand.tmp 24), type := 0, pos := "ref.go:18", after := #[{ on := 8, ground := Ground.data }, { on := 4, ground := Ground.data }, { on := 6, ground := Ground.chain }, { on := 0, ground := Ground.phase }, { on := 1, ground := Ground.phase }, { on := 2, ground := Ground.phase }, { on := 3, ground := Ground.phase }, { on := 4, ground := Ground.phase }, { on := 5, ground := Ground.phase }, { on := 6, ground := Ground.phase }], guard := none }) rfl (fun K' hK => ?_) AllReadyH.nil
  go_simp
  obtain ⟨w6, hw6⟩ : ∃ v, v = w5.setCell ⟨g5, 2, none⟩ (.int .i64 ix) := ⟨_, rfl⟩
  rw [← hw6]
  have P6 : Hid (PS w w6 ⟨2, true, ix, gn, cp, dt⟩ A n c 0 g5 none #[.int .i64 2, .bool true, .int .i64 ix, .int .i64 0, .int .i64 0, .slice none 0 0]) := Lib.hid (by have hh := P5.out.set HA.out 2 (.int .i64 ix); rw [hw6]; exact (show PS w (w5.setCell ⟨g5, 2, none⟩ (.int .i64 ix)) ⟨2, true, ix, gn, cp, dt⟩ A n c 0 g5 none #[.int .i64 2, .bool true, .int .i64 ix, .int .i64 0, .int .i64 0, .slice none 0 0] by simpa using hh))
  have s6 : w6.cell? ⟨w.heap.size, 1, none⟩ = some (.bool true) ∧ w6.cell? ⟨w.heap.size, 2, none⟩ = some (.int .i64 ix) := ⟨P6.out.k.c1, P6.out.k.c2⟩
  clear hw6 k1 z1 k2 z2
  refine hK.out _ _ s6 (fun hHeld => ?_)
  clear hK K'
  try simp only [Act.put]
  refine wpAnyH_done (by kernel_rfl) ?_ _
  refine NoPanic.normal ?_
  clear hHeld s4 s5 s6 P4D P5
  have q1 := P6.out.k.c1
  have q0w6 := P6.out.k.c0
  have q4 := P6.out.k.c4
  have z4 := P6.out.r5.fz 4
  have k4 := P6.out.r5.at_ 4
  obtain ⟨w8, hw8⟩ : ∃ v, v = w6.setCell ⟨g5, 4, none⟩ (.int .i64 cp) := ⟨_, rfl⟩
  have P8 : Hid (PS w w8 ⟨2, true, ix, gn, cp, dt⟩ A n c 0 g5 none #[.int .i64 2, .bool true, .int .i64 ix, .int .i64 0, .int .i64 cp, .slice none 0 0]) := Lib.hid (by have hh := P6.out.set HA.out 4 (.int .i64 cp); rw [hw8]; simpa using hh)
  have q0w8 := P8.out.k.c0
  have q5 := P8.out.k.c5
  have z5 := P8.out.r5.fz 5
  have k5 := P8.out.r5.at_ 5
  obtain ⟨w9, hw9⟩ : ∃ v, v = w8.setCell ⟨g5, 5, none⟩ (.slice A n c) := ⟨_, rfl⟩
  have P9 : Hid (PS w w9 ⟨2, true, ix, gn, cp, dt⟩ A n c 0 g5 none #[.int .i64 2, .bool true, .int .i64 ix, .int .i64 0, .int .i64 cp, .slice A n c]) := Lib.hid (by have hh := P8.out.set HA.out 5 (.slice A n c); rw [hw9]; simpa using hh)
  go_wp2_with (first
    | (rw [← hw8]; clear hw8 z4 k4)
    | (rw [← hw9]; clear hw9 z5 k5)
    | ((with_reducible refine wpList_ldS cdT rfl rfl (.tmp 3) rfl rfl P9.out.r5 ?_))
    | ((with_reducible refine wpList_stS (cs' := #[.int .i64 2, .bool true, .int .i64 ix, .int .i64 0, .int .i64 cp, .slice A n c]) cdT rfl rfl (by simp [Value.oneCell']) rfl (.tmp 2) (.tmp 48) rfl rfl rfl P9.out.r2 ?_); intro w12 hR12 hF12))
  refine bodyPost_ret (res_c rfl rfl (hR12.load cdT rfl)) rfl ?_
  exact ⟨A, n, c, rfl, P9.out.k.rd.fr hF12 (fun b o e hp e' => by have := HA.out b o e hp; omega), hnc, P9.out.done hF12, .inr rfl⟩

set_option maxHeartbeats 2000000 in
theorem RPlain_3f (ix gn cp : Int) (dt : List UInt8) (A : Option Addr) (n c : Nat) (w : World) (h : Rd w A n dt) (hnc : n ≤ c) :
    Calls Try.prog 30 #[.agg (Cd.cs ⟨3, false, ix, gn, cp, dt⟩ A n c)] w (PlainR A ⟨3, false, ix, gn, cp, dt⟩ w) := by
  obtain ⟨w1, hw1⟩ : ∃ w1, w1 = (w.alloc (.cells (Cd.cs ⟨3, false, ix, gn, cp, dt⟩ A n c) 47)).alloc (.cells (Cd.zero.cs none 0 0) 47) := ⟨_, rfl⟩
  have K1 : CdAt w w1 w.heap.size ⟨3, false, ix, gn, cp, dt⟩ A n c := by rw [hw1]; exact (CdAt.new w ⟨3, false, ix, gn, cp, dt⟩ A n c h).next ((Below.refl _ _).alloc (Nat.le_refl _) _)
  have R1 : Rec 47 w1 (w.heap.size + 1) (Cd.zero.cs none 0 0) := by
    have := Rec.new (w.alloc (.cells (Cd.cs ⟨3, false, ix, gn, cp, dt⟩ A n c) 47)) 47 (Cd.zero.cs none 0 0)
    rw [World.size_alloc] at this
    rw [hw1]; exact this
  have hA := h.lo
  obtain ⟨w4, hw4⟩ : ∃ w4, w4 = w1.alloc (.cells #[.int .i64 3, .bool false, .int .i64 0, .int .i64 0, .int .i64 0, .slice none 0 0] 47) := ⟨_, rfl⟩
  have hb4 : Below w1.heap.size w1 w4 := by rw [hw4]; exact (Below.refl _ _).alloc (Nat.le_refl _) _
  have s1 : w1.heap.size = w.heap.size + 2 := by rw [hw1]; simp
  have r4 : Rec 47 w4 w1.heap.size #[.int .i64 3, .bool false, .int .i64 0, .int .i64 0, .int .i64 0, .slice none 0 0] := by rw [hw4]; exact Rec.new w1 _ _
  have P4 := Lib.hid (show PS w w4 ⟨3, false, ix, gn, cp, dt⟩ A n c 0 w1.heap.size none #[.int .i64 3, .bool false, .int .i64 0, .int .i64 0, .int .i64 0, .slice none 0 0] from ⟨K1.next hb4, R1.under hb4, (fun t e => by cases e), r4, by omega, fun e => absurd rfl e⟩)
  have c0 := K1.c0
  have d0 := P4.out.k.c0
  obtain ⟨g5, hg5⟩ : ∃ g5, g5 = w1.heap.size := ⟨_, rfl⟩
  rw [← hg5] at P4
  have G := Lib.hid hg5
  have HA := Lib.hid hA
  clear h hA K1 R1 hb4 s1 r4 hg5
  go_enter Try.func30, Try.ntmps30
  go_upto_region 6 with (first
    | (rw [← hw1]; clear hw1)
    | (rw [← hw4, ← G.out]; clear hw4))
  have P4d := P4.out.below (Below.refl _ _).drew
  have s4 : w4.drew.cell? ⟨w.heap.size, 1, none⟩ = some (.bool false) ∧ w4.drew.cell? ⟨w.heap.size, 2, none⟩ = some (.int .i64 ix) := ⟨P4d.k.c1, P4d.k.c2⟩
  have P4D := Lib.hid P4d
  clear P4 c0 d0 P4d
  have k1 := P4D.out.r5.at_ 1
  have z1 := P4D.out.r5.fz 1
  have k2 := P4D.out.r5.at_ 2
  have z2 := P4D.out.r5.fz 2
  refine wp_region_noPanic ?_
  refine wp_region_held_drew (S := fun W => W.cell? ⟨w.heap.size, 1, none⟩ = some (.bool false) ∧ W.cell? ⟨w.heap.size, 2, none⟩ = some (.int .i64 ix)) (by kernel_rfl) s4 (fun hHeld => ?_)
  refine wpAnyH_take (i := 0) (oi := { dst := some 20, op := Op.fieldAddr 47 (Operand.tmp 1) 1, type := 0, pos := "ref.go:18", after := #[], guard := none }) (v := ?_) rfl (by kernel_rfl) (by kernel_rfl) (by kernel_rfl) (fun _ _ _ h => h) (Or.inl ⟨by rfl, ?_⟩) (by assumption) ?_
  rotate_left 1
  · intro w' hSw; (try dsimp only at hSw); go_simp; (try with_reducible rfl)
  simp only [Act.put, List.setIfInBounds_toArray, List.set_cons_zero, List.set_cons_succ]
  refine wpAnyH_take (i := 1) (oi := { dst := some 21, op := Op.load 4 (Operand.tmp 20), type := 4, pos := "ref.go:18", after := #[{ on := 0, ground := Ground.data }], guard := none }) (v := ?_) rfl (by kernel_rfl) (by kernel_rfl) (by kernel_rfl) (fun _ _ _ h => h) (Or.inl ⟨by rfl, ?_⟩) (by assumption) ?_
  rotate_left 1
  · intro w' hSw; (try dsimp only at hSw); go_simp; (try with_reducible rfl)
  simp only [Act.put, List.setIfInBounds_toArray, List.set_cons_zero, List.set_cons_succ]
  refine wpAnyH_take (i := 2) (oi := { dst := some 22, op := Op.fieldAddr 47 (Operand.tmp 1) 2, type := 0, pos := "ref.go:18", after := #[{ on := 6, ground := Ground.gcOnly Departure.lateStores }], guard := none }) (v := ?_) rfl (by kernel_rfl) (by kernel_rfl) (by kernel_rfl) (fun _ _ _ h => h) (Or.inl ⟨by rfl, ?_⟩) (by assumption) ?_
  rotate_left 1
  · intro w' hSw; (try dsimp only at hSw); go_simp; (try with_reducible rfl)
  simp only [Act.put, List.setIfInBounds_toArray, List.set_cons_zero, List.set_cons_succ]
  refine wpAnyH_take (i := 3) (oi := { dst := some 23, op := Op.fieldAddr 45 (Operand.tmp 22) 0, type := 0, pos := "ref.go:18", after := #[{ on := 2, ground := Ground.data }, { on := 6, ground := Ground.gcOnly Departure.lateStores }], guard := none }) (v := ?_) rfl (by kernel_rfl) (by kernel_rfl) (by kernel_rfl) (fun _ _ _ h => h) (Or.inl ⟨by rfl, ?_⟩) (by assumption) ?_
  rotate_left 1
  · intro w' hSw; (try dsimp only at hSw); go_simp; (try with_reducible rfl)
  simp only [Act.put, List.setIfInBounds_toArray, List.set_cons_zero, List.set_cons_succ]
  refine wpAnyH_take (i := 4) (oi := { dst := some 24, op := Op.load 3 (Operand.tmp 23), type := 3, pos := "ref.go:18", after := #[{ on := 3, ground := Ground.data }, { on := 6, ground := Ground.gcOnly Departure.lateStores }], guard := none }) (v := ?_) rfl (by kernel_rfl) (by kernel_rfl) (by kernel_rfl) (fun _ _ _ h => h) (Or.inl ⟨by rfl, ?_⟩) (by assumption) ?_
  rotate_left 1
  · intro w' hSw; (try dsimp only at hSw); go_simp; (try with_reducible rfl)
  simp only [Act.put, List.setIfInBounds_toArray, List.set_cons_zero, List.set_cons_succ]
  refine wpAnyH_take (i := 5) (oi := { dst := some 25, op := Op.fieldAddr 47 (Operand.tmp 3) 1, type := 0, pos := "ref.go:18", after := #[{ on := 0, ground := Ground.phase }, { on := 1, ground := Ground.phase }, { on := 2, ground := Ground.textOnly Departure.lateStores }, { on := 3, ground := Ground.textOnly Departure.lateStores }, { on := 4, ground := Ground.textOnly Departure.lateStores }], guard := none }) (v := ?_) rfl (by kernel_rfl) (by kernel_rfl) (by kernel_rfl) (fun _ _ _ h => h) (Or.inl ⟨by rfl, ?_⟩) (by assumption) ?_
  rotate_left 1
  · intro w' hSw; (try dsimp only at hSw); go_simp; (try with_reducible rfl)
  simp only [Act.put, List.setIfInBounds_toArray, List.set_cons_zero, List.set_cons_succ]
  refine wpAnyH_ready (rs := [6]) (by kernel_rfl) (by simp) ?_
  refine AllReadyH.cons (o := { dst := none, op := Op.store 4 (Operand.tmp 25) (Operand.tmp 21), type := 0, pos := "ref.go:18", after := #[{ on := 5, ground := Ground.data }, { on := 1, ground := Ground.data }, { on := 0, ground := Ground.phase }, { on := 1, ground := Ground.phase }, { on := 2, ground := Ground.textOnly Departure.lateStores }, { on := 3, ground := Ground.textOnly Departure.lateStores }, { on := 4, ground := Ground.textOnly Departure.lateStores }], guard := none }) rfl (fun K' hK => ?_) AllReadyH.nil
  go_simp
  obtain ⟨w5, hw5⟩ : ∃ v, v = (w4.setCell ⟨g5, 1, none⟩ (.bool false)).drew := ⟨_, rfl⟩
  rw [← hw5]
  have P5 : Hid (PS w w5 ⟨3, false, ix, gn, cp, dt⟩ A n c 0 g5 none #[.int .i64 3, .bool false, .int .i64 0, .int .i64 0, .int .i64 0, .slice none 0 0]) := Lib.hid (by have hh := P4D.out.set HA.out 1 (.bool false); rw [hw5]; exact (show PS w (w4.drew.setCell ⟨g5, 1, none⟩ (.bool false)) ⟨3, false, ix, gn, cp, dt⟩ A n c 0 g5 none #[.int .i64 3, .bool false, .int .i64 0, .int .i64 0, .int .i64 0, .slice none 0 0] by simpa using hh))
  have s5 : w5.cell? ⟨w.heap.size, 1, none⟩ = some (.bool false) ∧ w5.cell? ⟨w.heap.size, 2, none⟩ = some (.int .i64 ix) := ⟨P5.out.k.c1, P5.out.k.c2⟩
  clear hw5 k1 z1 k2 z2
  have k1 := P5.out.r5.at_ 1
  have z1 := P5.out.r5.fz 1
  have k2 := P5.out.r5.at_ 2
  have z2 := P5.out.r5.fz 2
  refine hK.out _ _ s5 (fun hHeld => ?_)
  clear hK K'
  try simp only [Act.put]
  refine wpAnyH_take (i := 7) (oi := { dst := some 26, op := Op.fieldAddr 47 (Operand.tmp 3) 2, type := 0, pos := "ref.go:18", after := #[{ on := 0, ground := Ground.phase }, { on := 1, ground := Ground.phase }, { on := 2, ground := Ground.phase }, { on := 3, ground := Ground.phase }, { on := 4, ground := Ground.phase }, { on := 5, ground := Ground.phase }, { on := 6, ground := Ground.phase }], guard := none }) (v := ?_) rfl (by kernel_rfl) (by kernel_rfl) (by kernel_rfl) (fun _ _ _ h => h) (Or.inl ⟨by rfl, ?_⟩) (by assumption) ?_
  rotate_left 1
  · intro w' hSw; (try dsimp only at hSw); go_simp; (try with_reducible rfl)
  simp only [Act.put, List.setIfInBounds_toArray, List.set_cons_zero, List.set_cons_succ]
  refine wpAnyH_take (i := 8) (oi := { dst := some 27, op := Op.fieldAddr 45 (Operand.tmp 26) 0, type := 0, pos := "ref.go:18", after := #[{ on := 7, ground := Ground.data }, { on := 0, ground := Ground.phase }, { on := 1, ground := Ground.phase }, { on := 2, ground := Ground.phase }, { on := 3, ground := Ground.phase }, { on := 4, ground := Ground.phase }, { on := 5, ground := Ground.phase }, { on := 6, ground := Ground.phase }], guard := none }) (v := ?_) rfl (by kernel_rfl) (by kernel_rfl) (by kernel_rfl) (fun _ _ _ h => h) (Or.inl ⟨by rfl, ?_⟩) (by assumption) ?_
  rotate_left 1
  · intro w' hSw; (try dsimp only at hSw); go_simp; (try with_reducible rfl)
  simp only [Act.put, List.setIfInBounds_toArray, List.set_cons_zero, List.set_cons_succ]
  refine wpAnyH_ready (rs := [9]) (by kernel_rfl) (by simp) ?_
  refine AllReadyH.cons (o := { dst := none, op := Op.store 3 (Operand.tmp 27) (Operand.tmp 24), type := 0, pos := "ref.go:18", after := #[{ on := 8, ground := Ground.data }, { on := 4, ground := Ground.data }, { on := 6, ground := Ground.chain }, { on := 0, ground := Ground.phase }, { on := 1, ground := Ground.phase }, { on := 2, ground := Ground.phase }, { on := 3, ground := Ground.phase }, { on := 4, ground := Ground.phase }, { on := 5, ground := Ground.phase }, { on := 6, ground := Ground.phase }], guard := none }) rfl (fun K' hK => ?_) AllReadyH.nil
  go_simp
  obtain ⟨w6, hw6⟩ : ∃ v, v = w5.setCell ⟨g5, 2, none⟩ (.int .i64 ix) := ⟨_, rfl⟩
  rw [← hw6]
  have P6 : Hid (PS w w6 ⟨3, false, ix, gn, cp, dt⟩ A n c 0 g5 none #[.int .i64 3, .bool false, .int .i64 ix, .int .i64 0, .int .i64 0, .slice none 0 0]) := Lib.hid (by have hh := P5.out.set HA.out 2 (.int .i64 ix); rw [hw6]; exact (show PS w (w5.setCell ⟨g5, 2, none⟩ (.int .i64 ix)) ⟨3, false, ix, gn, cp, dt⟩ A n c 0 g5 none #[.int .i64 3, .bool false, .int .i64 ix, .int .i64 0, .int .i64 0, .slice none 0 0] by simpa using hh))
  have s6 : w6.cell? ⟨w.heap.size, 1, none⟩ = some (.bool false) ∧ w6.cell? ⟨w.heap.size, 2, none⟩ = some (.int .i64 ix) := ⟨P6.out.k.c1, P6.out.k.c2⟩
  clear hw6 k1 z1 k2 z2
  refine hK.out _ _ s6 (fun hHeld => ?_)
  clear hK K'
  try simp only [Act.put]
  refine wpAnyH_done (by kernel_rfl) ?_ _
  refine NoPanic.normal ?_
  clear hHeld s4 s5 s6 P4D P5
  have q1 := P6.out.k.c1
  have q3 := P6.out.k.c3
  have z3 := P6.out.r5.fz 3
  have k3 := P6.out.r5.at_ 3
  obtain ⟨w7, hw7⟩ : ∃ v, v = w6.setCell ⟨g5, 3, none⟩ (.int .i64 gn) := ⟨_, rfl⟩
  have P7 : Hid (PS w w7 ⟨3, false, ix, gn, cp, dt⟩ A n c 0 g5 none #[.int .i64 3, .bool false, .int .i64 ix, .int .i64 gn, .int .i64 0, .slice none 0 0]) := Lib.hid (by have hh := P6.out.set HA.out 3 (.int .i64 gn); rw [hw7]; simpa using hh)
  have q0w7 := P7.out.k.c0
  have q4 := P7.out.k.c4
  have z4 := P7.out.r5.fz 4
  have k4 := P7.out.r5.at_ 4
  obtain ⟨w8, hw8⟩ : ∃ v, v = w7.setCell ⟨g5, 4, none⟩ (.int .i64 cp) := ⟨_, rfl⟩
  have P8 : Hid (PS w w8 ⟨3, false, ix, gn, cp, dt⟩ A n c 0 g5 none #[.int .i64 3, .bool false, .int .i64 ix, .int .i64 gn, .int .i64 cp, .slice none 0 0]) := Lib.hid (by have hh := P7.out.set HA.out 4 (.int .i64 cp); rw [hw8]; simpa using hh)
  have q0w8 := P8.out.k.c0
  go_wp2_with (first
    | (rw [← hw7]; clear hw7 z3 k3)
    | (rw [← hw8]; clear hw8 z4 k4)
    | ((with_reducible refine wpList_ldS cdT rfl rfl (.tmp 3) rfl rfl P8.out.r5 ?_))
    | ((with_reducible refine wpList_stS (cs' := #[.int .i64 3, .bool false, .int .i64 ix, .int .i64 gn, .int .i64 cp, .slice none 0 0]) cdT rfl rfl (by simp [Value.oneCell']) rfl (.tmp 2) (.tmp 48) rfl rfl rfl P8.out.r2 ?_); intro w12 hR12 hF12))
  refine bodyPost_ret (res_c rfl rfl (hR12.load cdT rfl)) rfl ?_
  exact ⟨none, 0, 0, rfl, Rd.nil _ _, Nat.le_refl _, P8.out.done hF12, .inl rfl⟩

set_option maxHeartbeats 2000000 in
theorem RPlain_3t (ix gn cp : Int) (dt : List UInt8) (A : Option Addr) (n c : Nat) (w : World) (h : Rd w A n dt) (hnc : n ≤ c) :
    Calls Try.prog 30 #[.agg (Cd.cs ⟨3, true, ix, gn, cp, dt⟩ A n c)] w (PlainR A ⟨3, true, ix, gn, cp, dt⟩ w) := by
  obtain ⟨w1, hw1⟩ : ∃ w1, w1 = (w.alloc (.cells (Cd.cs ⟨3, true, ix, gn, cp, dt⟩ A n c) 47)).alloc (.cells (Cd.zero.cs none 0 0) 47) := ⟨_, rfl⟩
  have K1 : CdAt w w1 w.heap.size ⟨3, true, ix, gn, cp, dt⟩ A n c := by rw [hw1]; exact (CdAt.new w ⟨3, true, ix, gn, cp, dt⟩ A n c h).next ((Below.refl _ _).alloc (Nat.le_refl _) _)
  have R1 : Rec 47 w1 (w.heap.size + 1) (Cd.zero.cs none 0 0) := by
    have := Rec.new (w.alloc (.cells (Cd.cs ⟨3, true, ix, gn, cp, dt⟩ A n c) 47)) 47 (Cd.zero.cs none 0 0)
    rw [World.size_alloc] at this
    rw [hw1]; exact this
  have hA := h.lo
  obtain ⟨w4, hw4⟩ : ∃ w4, w4 = w1.alloc (.cells #[.int .i64 3, .bool false, .int .i64 0, .int .i64 0, .int .i64 0, .slice none 0 0] 47) := ⟨_, rfl⟩
  have hb4 : Below w1.heap.size w1 w4 := by rw [hw4]; exact (Below.refl _ _).alloc (Nat.le_refl _) _
  have s1 : w1.heap.size = w.heap.size + 2 := by rw [hw1]; simp
  have r4 : Rec 47 w4 w1.heap.size #[.int .i64 3, .bool false, .int .i64 0, .int .i64 0, .int .i64 0, .slice none 0 0] := by rw [hw4]; exact Rec.new w1 _ _
  have P4 := Lib.hid (show PS w w4 ⟨3, true, ix, gn, cp, dt⟩ A n c 0 w1.heap.size none #[.int .i64 3, .bool false, .int .i64 0, .int .i64 0, .int .i64 0, .slice none 0 0] from ⟨K1.next hb4, R1.under hb4, (fun t e => by cases e), r4, by omega, fun e => absurd rfl e⟩)
  have c0 := K1.c0
  have d0 := P4.out.k.c0
  obtain ⟨g5, hg5⟩ : ∃ g5, g5 = w1.heap.size := ⟨_, rfl⟩
  rw [← hg5] at P4
  have G := Lib.hid hg5
  have HA := Lib.hid hA
  clear h hA K1 R1 hb4 s1 r4 hg5
  go_enter Try.func30, Try.ntmps30
  go_upto_region 6 with (first
    | (rw [← hw1]; clear hw1)
    | (rw [← hw4, ← G.out]; clear hw4))
  have P4d := P4.out.below (Below.refl _ _).drew
  have s4 : w4.drew.cell? ⟨w.heap.size, 1, none⟩ = some (.bool true) ∧ w4.drew.cell? ⟨w.heap.size, 2, none⟩ = some (.int .i64 ix) := ⟨P4d.k.c1, P4d.k.c2⟩
  have P4D := Lib.hid P4d
  clear P4 c0 d0 P4d
  have k1 := P4D.out.r5.at_ 1
  have z1 := P4D.out.r5.fz 1
  have k2 := P4D.out.r5.at_ 2
  have z2 := P4D.out.r5.fz 2
  refine wp_region_noPanic ?_
  refine wp_region_held_drew (S := fun W => W.cell? ⟨w.heap.size, 1, none⟩ = some (.bool true) ∧ W.cell? ⟨w.heap.size, 2, none⟩ = some (.int .i64 ix)) (by kernel_rfl) s4 (fun hHeld => ?_)
  refine wpAnyH_take (i := 0) (oi := { dst := some 20, op := Op.fieldAddr 47 (Operand.tmp 1) 1, type := 0, pos := "ref.go:18", after := #[], guard := none }) (v := ?_) rfl (by kernel_rfl) (by kernel_rfl) (by kernel_rfl) (fun _ _ _ h => h) (Or.inl ⟨by rfl, ?_⟩) (by assumption) ?_
  rotate_left 1
  · intro w' hSw; (try dsimp only at hSw); go_simp; (try with_reducible rfl)
  simp only [Act.put, List.setIfInBounds_toArray, List.set_cons_zero, List.set_cons_succ]
  refine wpAnyH_take (i := 1) (oi := { dst := some 21, op := Op.load 4 (Operand.tmp 20), type := 4, pos := "ref.go:18", after := #[{ on := 0, ground := Ground.data }], guard := none }) (v := ?_) rfl (by kernel_rfl) (by kernel_rfl) (by kernel_rfl) (fun _ _ _ h => h) (Or.inl ⟨by rfl, ?_⟩) (by assumption) ?_
  rotate_left 1
  · intro w' hSw; (try dsimp only at hSw); go_simp; (try with_reducible rfl)
  simp only [Act.put, List.setIfInBounds_toArray, List.set_cons_zero, List.set_cons_succ]
  refine wpAnyH_take (i := 2) (oi := { dst := some 22, op := Op.fieldAddr 47 (Operand.tmp 1) 2, type := 0, pos := "ref.go:18", after := #[{ on := 6, ground := Ground.gcOnly Departure.lateStores }], guard := none }) (v := ?_) rfl (by kernel_rfl) (by kernel_rfl) (by kernel_rfl) (fun _ _ _ h => h) (Or.inl ⟨by rfl, ?_⟩) (by assumption) ?_
  rotate_left 1
  · intro w' hSw; (try dsimp only at hSw); go_simp; (try with_reducible rfl)
  simp only [Act.put, List.setIfInBounds_toArray, List.set_cons_zero, List.set_cons_succ]
  refine wpAnyH_take (i := 3) (oi := { dst := some 23, op := Op.fieldAddr 45 (Operand.tmp 22) 0, type := 0, pos := "ref.go:18", after := #[{ on := 2, ground := Ground.data }, { on := 6, ground := Ground.gcOnly Departure.lateStores }], guard := none }) (v := ?_) rfl (by kernel_rfl) (by kernel_rfl) (by kernel_rfl) (fun _ _ _ h => h) (Or.inl ⟨by rfl, ?_⟩) (by assumption) ?_
  rotate_left 1
  · intro w' hSw; (try dsimp only at hSw); go_simp; (try with_reducible rfl)
  simp only [Act.put, List.setIfInBounds_toArray, List.set_cons_zero, List.set_cons_succ]
  refine wpAnyH_take (i := 4) (oi := { dst := some 24, op := Op.load 3 (Operand.tmp 23), type := 3, pos := "ref.go:18", after := #[{ on := 3, ground := Ground.data }, { on := 6, ground := Ground.gcOnly Departure.lateStores }], guard := none }) (v := ?_) rfl (by kernel_rfl) (by kernel_rfl) (by kernel_rfl) (fun _ _ _ h => h) (Or.inl ⟨by rfl, ?_⟩) (by assumption) ?_
  rotate_left 1
  · intro w' hSw; (try dsimp only at hSw); go_simp; (try with_reducible rfl)
  simp only [Act.put, List.setIfInBounds_toArray, List.set_cons_zero, List.set_cons_succ]
  refine wpAnyH_take (i := 5) (oi := { dst := some 25, op := Op.fieldAddr 47 (Operand.tmp 3) 1, type := 0, pos := "ref.go:18", after := #[{ on := 0, ground := Ground.phase }, { on := 1, ground := Ground.phase }, { on := 2, ground := Ground.textOnly Departure.lateStores }, { on := 3, ground := Ground.textOnly Departure.lateStores }, { on := 4, ground := Ground.textOnly Departure.lateStores }], guard := none }) (v := ?_) rfl (by kernel_rfl) (by kernel_rfl) (by kernel_rfl) (fun _ _ _ h => h) (Or.inl ⟨by rfl, ?_⟩) (by assumption) ?_
  rotate_left 1
  · intro w' hSw; (try dsimp only at hSw); go_simp; (try with_reducible rfl)
  simp only [Act.put, List.setIfInBounds_toArray, List.set_cons_zero, List.set_cons_succ]
  refine wpAnyH_ready (rs := [6]) (by kernel_rfl) (by simp) ?_
  refine AllReadyH.cons (o := { dst := none, op := Op.store 4 (Operand.tmp 25) (Operand.tmp 21), type := 0, pos := "ref.go:18", after := #[{ on := 5, ground := Ground.data }, { on := 1, ground := Ground.data }, { on := 0, ground := Ground.phase }, { on := 1, ground := Ground.phase }, { on := 2, ground := Ground.textOnly Departure.lateStores }, { on := 3, ground := Ground.textOnly Departure.lateStores }, { on := 4, ground := Ground.textOnly Departure.lateStores }], guard := none }) rfl (fun K' hK => ?_) AllReadyH.nil
  go_simp
  obtain ⟨w5, hw5⟩ : ∃ v, v = (w4.setCell ⟨g5, 1, none⟩ (.bool true)).drew := ⟨_, rfl⟩
  rw [← hw5]
  have P5 : Hid (PS w w5 ⟨3, true, ix, gn, cp, dt⟩ A n c 0 g5 none #[.int .i64 3, .bool true, .int .i64 0, .int .i64 0, .int .i64 0, .slice none 0 0]) := Lib.hid (by have hh := P4D.out.set HA.out 1 (.bool true); rw [hw5]; exact (show PS w (w4.drew.setCell ⟨g5, 1, none⟩ (.bool true)) ⟨3, true, ix, gn, cp, dt⟩ A n c 0 g5 none #[.int .i64 3, .bool true, .int .i64 0, .int .i64 0, .int .i64 0, .slice none 0 0] by simpa using hh))
  have s5 : w5.cell? ⟨w.heap.size, 1, none⟩ = some (.bool true) ∧ w5.cell? ⟨w.heap.size, 2, none⟩ = some (.int .i64 ix) := ⟨P5.out.k.c1, P5.out.k.c2⟩
  clear hw5 k1 z1 k2 z2
  have k1 := P5.out.r5.at_ 1
  have z1 := P5.out.r5.fz 1
  have k2 := P5.out.r5.at_ 2
  have z2 := P5.out.r5.fz 2
  refine hK.out _ _ s5 (fun hHeld => ?_)
  clear hK K'
  try simp only [Act.put]
  refine wpAnyH_take (i := 7) (oi := { dst := some 26, op := Op.fieldAddr 47 (Operand.tmp 3) 2, type := 0, pos := "ref.go:18", after := #[{ on := 0, ground := Ground.phase }, { on := 1, ground := Ground.phase }, { on := 2, ground := Ground.phase }, { on := 3, ground := Ground.phase }, { on := 4, ground := Ground.phase }, { on := 5, ground := Ground.phase }, { on := 6, ground := Ground.phase }], guard := none }) (v := ?_) rfl (by kernel_rfl) (by kernel_rfl) (by kernel_rfl) (fun _ _ _ h => h) (Or.inl ⟨by rfl, ?_⟩) (by assumption) ?_
  rotate_left 1
  · intro w' hSw; (try dsimp only at hSw); go_simp; (try with_reducible rfl)
  simp only [Act.put, List.setIfInBounds_toArray, List.set_cons_zero, List.set_cons_succ]
  refine wpAnyH_take (i := 8) (oi := { dst := some 27, op := Op.fieldAddr 45 (Operand.tmp 26) 0, type := 0, pos := "ref.go:18", after := #[{ on := 7, ground := Ground.data }, { on := 0, ground := Ground.phase }, { on := 1, ground := Ground.phase }, { on := 2, ground := Ground.phase }, { on := 3, ground := Ground.phase }, { on := 4, ground := Ground.phase }, { on := 5, ground := Ground.phase }, { on := 6, ground := Ground.phase }], guard := none }) (v := ?_) rfl (by kernel_rfl) (by kernel_rfl) (by kernel_rfl) (fun _ _ _ h => h) (Or.inl ⟨by rfl, ?_⟩) (by assumption) ?_
  rotate_left 1
  · intro w' hSw; (try dsimp only at hSw); go_simp; (try with_reducible rfl)
  simp only [Act.put, List.setIfInBounds_toArray, List.set_cons_zero, List.set_cons_succ]
  refine wpAnyH_ready (rs := [9]) (by kernel_rfl) (by simp) ?_
  refine AllReadyH.cons (o := { dst := none, op := Op.store 3 (Operand.tmp 27) (Operand.tmp 24), type := 0, pos := "ref.go:18", after := #[{ on := 8, ground := Ground.data }, { on := 4, ground := Ground.data }, { on := 6, ground := Ground.chain }, { on := 0, ground := Ground.phase }, { on := 1, ground := Ground.phase }, { on := 2, ground := Ground.phase }, { on := 3, ground := Ground.phase }, { on := 4, ground := Ground.phase }, { on := 5, ground := Ground.phase }, { on := 6, ground := Ground.phase }], guard := none }) rfl (fun K' hK => ?_) AllReadyH.nil
  go_simp
  obtain ⟨w6, hw6⟩ : ∃ v, v = w5.setCell ⟨g5, 2, none⟩ (.int .i64 ix) := ⟨_, rfl⟩
  rw [← hw6]
  have P6 : Hid (PS w w6 ⟨3, true, ix, gn, cp, dt⟩ A n c 0 g5 none #[.int .i64 3, .bool true, .int .i64 ix, .int .i64 0, .int .i64 0, .slice none 0 0]) := Lib.hid (by have hh := P5.out.set HA.out 2 (.int .i64 ix); rw [hw6]; exact (show PS w (w5.setCell ⟨g5, 2, none⟩ (.int .i64 ix)) ⟨3, true, ix, gn, cp, dt⟩ A n c 0 g5 none #[.int .i64 3, .bool true, .int .i64 ix, .int .i64 0, .int .i64 0, .slice none 0 0] by simpa using hh))
  have s6 : w6.cell? ⟨w.heap.size, 1, none⟩ = some (.bool true) ∧ w6.cell? ⟨w.heap.size, 2, none⟩ = some (.int .i64 ix) := ⟨P6.out.k.c1, P6.out.k.c2⟩
  clear hw6 k1 z1 k2 z2
  refine hK.out _ _ s6 (fun hHeld => ?_)
  clear hK K'
  try simp only [Act.put]
  refine wpAnyH_done (by kernel_rfl) ?_ _
  refine NoPanic.normal ?_
  clear hHeld s4 s5 s6 P4D P5
  have q1 := P6.out.k.c1
  have q0w6 := P6.out.k.c0
  have q4 := P6.out.k.c4
  have z4 := P6.out.r5.fz 4
  have k4 := P6.out.r5.at_ 4
  obtain ⟨w8, hw8⟩ : ∃ v, v = w6.setCell ⟨g5, 4, none⟩ (.int .i64 cp) := ⟨_, rfl⟩
  have P8 : Hid (PS w w8 ⟨3, true, ix, gn, cp, dt⟩ A n c 0 g5 none #[.int .i64 3, .bool true, .int .i64 ix, .int .i64 0, .int .i64 cp, .slice none 0 0]) := Lib.hid (by have hh := P6.out.set HA.out 4 (.int .i64 cp); rw [hw8]; simpa using hh)
  have q0w8 := P8.out.k.c0
  go_wp2_with (first
    | (rw [← hw8]; clear hw8 z4 k4)
    | ((with_reducible refine wpList_ldS cdT rfl rfl (.tmp 3) rfl rfl P8.out.r5 ?_))
    | ((with_reducible refine wpList_stS (cs' := #[.int .i64 3, .bool true, .int .i64 ix, .int .i64 0, .int .i64 cp, .slice none 0 0]) cdT rfl rfl (by simp [Value.oneCell']) rfl (.tmp 2) (.tmp 48) rfl rfl rfl P8.out.r2 ?_); intro w12 hR12 hF12))
  refine bodyPost_ret (res_c rfl rfl (hR12.load cdT rfl)) rfl ?_
  exact ⟨none, 0, 0, rfl, Rd.nil _ _, Nat.le_refl _, P8.out.done hF12, .inl rfl⟩

theorem RPlainL_any (x : Cd) (A : Option Addr) (n c : Nat) (w : World) (h : Rd w A n x.dt) (hnc : n ≤ c) : Calls Try.prog 30 #[.agg (x.cs A n c)] w (PlainR A x w) := by
  obtain ⟨d, lc, ix, gn, cp, dt⟩ := x
  rcases cd_cases d with rfl | rfl | rfl | rfl | hd
  · cases lc
    · exact RPlain_0f ix gn cp dt A n c w h hnc
    · exact RPlain_0t ix gn cp dt A n c w h hnc
  · cases lc
    · exact RPlain_1f ix gn cp dt A n c w h hnc
    · exact RPlain_1t ix gn cp dt A n c w h hnc
  · cases lc
    · exact RPlain_2f ix gn cp dt A n c w h hnc
    · exact RPlain_2t ix gn cp dt A n c w h hnc
  · cases lc
    · exact RPlain_3f ix gn cp dt A n c w h hnc
    · exact RPlain_3t ix gn cp dt A n c w h hnc
  · exact RPlain_o d lc ix gn cp dt hd A n c w h hnc
theorem RPlain_any (x : Cd) (A : Option Addr) (n c : Nat) (w : World) (h : Rd w A n x.dt) (hnc : n ≤ c) : Calls Try.prog 30 #[.agg (x.cs A n c)] w (PlainP x w) :=
  (RPlainL_any x A n c w h hnc).mono fun _ _ ⟨A', n', c', e, h1, h2, h3, _⟩ => ⟨A', n', c', e, h1, h2, h3⟩
end Go.Proofs.Ytlinafnhhnkjnaa
