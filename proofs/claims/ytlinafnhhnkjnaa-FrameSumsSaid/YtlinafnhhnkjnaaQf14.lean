/- CdT3, CdT2f, CdT2g, CdT2t, CdT2u -/
import Derived.Test.YtlinafnhhnkjnaaQf13
namespace Go.Proofs.Ytlinafnhhnkjnaa
open Go.RowKit
set_option linter.unusedVariables false
set_option maxRecDepth 20000

section
variable (n c : Nat) (l : List UInt8) (w : World)
variable (b o k : Nat)

set_option maxHeartbeats 4000000 in
theorem RG_3f_short (hr : Rd w (some ⟨b, o, none⟩) n l) (hlt : b < w.heap.size) (hn : n ≤ 1000) (hnc : n ≤ c) (hk : k + 2 ≤ n) (h0 : w.cell? ⟨b, o + k, none⟩ = some (.int .u8 3)) (h1 : w.cell? ⟨b, o + k + 1, none⟩ = some (.int .u8 0)) (hs : n < k + 26) :
    Calls Try.prog 31 #[.slice (some ⟨b, o, none⟩) n c, .int .i64 k] w (GetL (fun y => ∃ o', (some ⟨b, o, none⟩ : Option Addr) = some ⟨y, o', none⟩) w (Cd.zero, 0, 12)) := by
  obtain ⟨w1, hw1⟩ : ∃ w1, w1 = w.alloc (.cells (Cd.zero.cs none 0 0) 47) := ⟨_, rfl⟩
  obtain ⟨w2, hw2⟩ : ∃ w2, w2 = w1.alloc (.cells (Cd.zero.cs none 0 0) 47) := ⟨_, rfl⟩
  have s1 : w1.heap.size = w.heap.size + 1 := by rw [hw1]; simp
  have hb1 : Below w.heap.size w w1 := by rw [hw1]; exact (Below.refl _ _).alloc (Nat.le_refl _) _
  have hb12 : Below w1.heap.size w1 w2 := by rw [hw2]; exact (Below.refl _ _).alloc (Nat.le_refl _) _
  have hb2 : Below w.heap.size w w2 := hb1.trans (hb12.mono hb1.size)
  have r4 : Rec 47 w2 w.heap.size (Cd.zero.cs none 0 0) := (show Rec 47 w1 w.heap.size (Cd.zero.cs none 0 0) by rw [hw1]; exact Rec.new w _ _).under hb12
  have r7 : Rec 47 w2 (w.heap.size + 1) (Cd.zero.cs none 0 0) := by rw [← s1, hw2]; exact Rec.new w1 _ _
  have hck : ¬ k = c := by omega
  have q0 : w2.cell? ⟨b, o + k, none⟩ = some (.int .u8 3) := (hb2.cell (p := ⟨b, o + k, none⟩) hlt).trans h0
  have q1 : w2.cell? ⟨b, o + k + 1, none⟩ = some (.int .u8 0) := (hb2.cell (p := ⟨b, o + k + 1, none⟩) hlt).trans h1
  have rd2 : Rd w2 (some ⟨b, o + k, none⟩) (n - k) (l.drop k) := by
    have h := (hr.below (Nat.le_refl _) hb2).part (lo := k) (m := n - k) (by omega) (some ⟨b, o + k, none⟩) (fun _ b' o' e => by injection e with e; injection e with e1 e2; rw [e1, e2])
    rw [List.take_of_length_le (by have := hr.1; simp; omega)] at h
    exact h
  obtain ⟨w3, hw3⟩ : ∃ w3, w3 = w2.alloc (.cells #[.int .i64 3, .bool false, .int .i64 0, .int .i64 0, .int .i64 0, .slice none 0 0] 47) := ⟨_, rfl⟩
  have s2 : w2.heap.size = w.heap.size + 2 := by rw [hw2]; simp [s1]
  have hb23 : Below w2.heap.size w2 w3 := by rw [hw3]; exact (Below.refl _ _).alloc (Nat.le_refl _) _
  have G3 : GS w w3 (some ⟨b, o + k, none⟩) (n - k) (l.drop k) #[.int .i64 3, .bool false, .int .i64 0, .int .i64 0, .int .i64 0, .slice none 0 0] := ⟨r4.under hb23, r7.under hb23, by rw [← s2, hw3]; exact Rec.new w2 _ _, rd2.below (Nat.le_refl _) hb23, (fun b' o' e _ => by injection e with e; injection e with e1 e2; omega), hb2.trans (hb23.mono hb2.size)⟩
  have HS2 := Lib.hid s2
  clear s2 hb23
  obtain ⟨ix, hix⟩ : ∃ v, v = gv (l.drop k) 2 8 := ⟨_, rfl⟩
  obtain ⟨gn, hgn⟩ : ∃ v, v = gv (l.drop k) 10 8 := ⟨_, rfl⟩
  obtain ⟨cp, hcp⟩ : ∃ v, v = gv (l.drop k) 18 8 := ⟨_, rfl⟩
  have CC3 := RGetU (some ⟨b, o + k, none⟩) (n - k) (c - k) (l.drop k) 2 8 (by decide) w3 G3.rd (by omega) (by decide)
  rw [← hix] at CC3
  have C3 := Lib.hid CC3
  have z3 := G3.r10.fz 2
  have k3 := G3.r10.at_ 2
  obtain ⟨w4, hw4⟩ : ∃ v, v = w3.setCell ⟨w.heap.size + 2, 2, none⟩ (.int .i64 ix) := ⟨_, rfl⟩
  have G4 : GS w w4 (some ⟨b, o + k, none⟩) (n - k) (l.drop k) #[.int .i64 3, .bool false, .int .i64 ix, .int .i64 0, .int .i64 0, .slice none 0 0] := by have hh := G3.set 2 (.int .i64 ix); rw [hw4]; simpa using hh
  have CC4 := RGetU (some ⟨b, o + k, none⟩) (n - k) (c - k) (l.drop k) 10 8 (by decide) w4 G4.rd (by omega) (by decide)
  rw [← hgn] at CC4
  have C4 := Lib.hid CC4
  have z4 := G4.r10.fz 3
  have k4 := G4.r10.at_ 3
  obtain ⟨w5, hw5⟩ : ∃ v, v = w4.setCell ⟨w.heap.size + 2, 3, none⟩ (.int .i64 gn) := ⟨_, rfl⟩
  have G5 : GS w w5 (some ⟨b, o + k, none⟩) (n - k) (l.drop k) #[.int .i64 3, .bool false, .int .i64 ix, .int .i64 gn, .int .i64 0, .slice none 0 0] := by have hh := G4.set 3 (.int .i64 gn); rw [hw5]; simpa using hh
  have CC5 := RGetU (some ⟨b, o + k, none⟩) (n - k) (c - k) (l.drop k) 18 8 (by decide) w5 G5.rd (by omega) (by decide)
  rw [← hcp] at CC5
  have C5 := Lib.hid CC5
  have z5 := G5.r10.fz 4
  have k5 := G5.r10.at_ 4
  obtain ⟨w6, hw6⟩ : ∃ v, v = w5.setCell ⟨w.heap.size + 2, 4, none⟩ (.int .i64 cp) := ⟨_, rfl⟩
  have G6 : GS w w6 (some ⟨b, o + k, none⟩) (n - k) (l.drop k) #[.int .i64 3, .bool false, .int .i64 ix, .int .i64 gn, .int .i64 cp, .slice none 0 0] := by have hh := G5.set 4 (.int .i64 cp); rw [hw6]; simpa using hh
  have kl := G4.r10.at_ 1
  have kL := G3.r10.at_ 1
  have Hix := Lib.hid hix
  have Hgn := Lib.hid hgn
  have Hcp := Lib.hid hcp
  have HG3 := Lib.hid G3
  have HG4 := Lib.hid G4
  have HG5 := Lib.hid G5
  have HG6 := Lib.hid G6
  clear CC3 CC4 CC5 G3 G4 G5 G6 hix hgn hcp
  have HS1 := Lib.hid s1
  clear hr s1 hb1 hb12 hb2 r4 r7 rd2 h0 h1
  go_enter Try.func31, Try.ntmps31
  go_wp2_with (first
    | (rw [← hw1]; clear hw1)
    | (rw [← hw2, HS1.out]; clear hw2)
    | (rw [← hw3, HS2.out]; clear hw3)
    | (go_at_call 43; have _t := C3; refine C3.out.mono ?_; rintro e w' ⟨rfl, hw'⟩; subst hw'; clear C3)
    | (rw [← hw4]; clear hw4)
    | (go_at_call 43; have _t := C4; refine C4.out.mono ?_; rintro e w' ⟨rfl, hw'⟩; subst hw'; clear C4)
    | (rw [← hw5]; clear hw5)
    | (go_at_call 43; have _t := C5; refine C5.out.mono ?_; rintro e w' ⟨rfl, hw'⟩; subst hw'; clear C5)
    | (rw [← hw6]; clear hw6)
    | ((with_reducible refine wpList_ldS cdT rfl rfl (.tmp 7) rfl rfl HG6.out.r7 ?_))
    | ((with_reducible refine wpList_stS (cs' := (Cd.zero.cs none 0 0)) cdT rfl rfl (by simp [Value.oneCell']) rfl (.tmp 4) (.tmp 129) rfl rfl rfl HG6.out.r4 ?_); intro wz hRz hFz))
  refine bodyPost_ret (res_ctt rfl rfl (hRz.load cdT rfl)) rfl ?_
  exact GetE.fault 12 (HG6.out.fin hFz)

set_option maxHeartbeats 4000000 in
theorem RG_3f_ok (hr : Rd w (some ⟨b, o, none⟩) n l) (hlt : b < w.heap.size) (hn : n ≤ 1000) (hnc : n ≤ c) (hk : k + 2 ≤ n) (h0 : w.cell? ⟨b, o + k, none⟩ = some (.int .u8 3)) (h1 : w.cell? ⟨b, o + k + 1, none⟩ = some (.int .u8 0)) (hs : k + 26 ≤ n) :
    Calls Try.prog 31 #[.slice (some ⟨b, o, none⟩) n c, .int .i64 k] w (GetL (fun y => ∃ o', (some ⟨b, o, none⟩ : Option Addr) = some ⟨y, o', none⟩) w (⟨3, false, gv (l.drop k) 2 8, gv (l.drop k) 10 8, gv (l.drop k) 18 8, []⟩, (k : Int) + 26, 0)) := by
  obtain ⟨w1, hw1⟩ : ∃ w1, w1 = w.alloc (.cells (Cd.zero.cs none 0 0) 47) := ⟨_, rfl⟩
  obtain ⟨w2, hw2⟩ : ∃ w2, w2 = w1.alloc (.cells (Cd.zero.cs none 0 0) 47) := ⟨_, rfl⟩
  have s1 : w1.heap.size = w.heap.size + 1 := by rw [hw1]; simp
  have hb1 : Below w.heap.size w w1 := by rw [hw1]; exact (Below.refl _ _).alloc (Nat.le_refl _) _
  have hb12 : Below w1.heap.size w1 w2 := by rw [hw2]; exact (Below.refl _ _).alloc (Nat.le_refl _) _
  have hb2 : Below w.heap.size w w2 := hb1.trans (hb12.mono hb1.size)
  have r4 : Rec 47 w2 w.heap.size (Cd.zero.cs none 0 0) := (show Rec 47 w1 w.heap.size (Cd.zero.cs none 0 0) by rw [hw1]; exact Rec.new w _ _).under hb12
  have r7 : Rec 47 w2 (w.heap.size + 1) (Cd.zero.cs none 0 0) := by rw [← s1, hw2]; exact Rec.new w1 _ _
  have hck : ¬ k = c := by omega
  have q0 : w2.cell? ⟨b, o + k, none⟩ = some (.int .u8 3) := (hb2.cell (p := ⟨b, o + k, none⟩) hlt).trans h0
  have q1 : w2.cell? ⟨b, o + k + 1, none⟩ = some (.int .u8 0) := (hb2.cell (p := ⟨b, o + k + 1, none⟩) hlt).trans h1
  have rd2 : Rd w2 (some ⟨b, o + k, none⟩) (n - k) (l.drop k) := by
    have h := (hr.below (Nat.le_refl _) hb2).part (lo := k) (m := n - k) (by omega) (some ⟨b, o + k, none⟩) (fun _ b' o' e => by injection e with e; injection e with e1 e2; rw [e1, e2])
    rw [List.take_of_length_le (by have := hr.1; simp; omega)] at h
    exact h
  obtain ⟨w3, hw3⟩ : ∃ w3, w3 = w2.alloc (.cells #[.int .i64 3, .bool false, .int .i64 0, .int .i64 0, .int .i64 0, .slice none 0 0] 47) := ⟨_, rfl⟩
  have s2 : w2.heap.size = w.heap.size + 2 := by rw [hw2]; simp [s1]
  have hb23 : Below w2.heap.size w2 w3 := by rw [hw3]; exact (Below.refl _ _).alloc (Nat.le_refl _) _
  have G3 : GS w w3 (some ⟨b, o + k, none⟩) (n - k) (l.drop k) #[.int .i64 3, .bool false, .int .i64 0, .int .i64 0, .int .i64 0, .slice none 0 0] := ⟨r4.under hb23, r7.under hb23, by rw [← s2, hw3]; exact Rec.new w2 _ _, rd2.below (Nat.le_refl _) hb23, (fun b' o' e _ => by injection e with e; injection e with e1 e2; omega), hb2.trans (hb23.mono hb2.size)⟩
  have HS2 := Lib.hid s2
  clear s2 hb23
  obtain ⟨ix, hix⟩ : ∃ v, v = gv (l.drop k) 2 8 := ⟨_, rfl⟩
  obtain ⟨gn, hgn⟩ : ∃ v, v = gv (l.drop k) 10 8 := ⟨_, rfl⟩
  obtain ⟨cp, hcp⟩ : ∃ v, v = gv (l.drop k) 18 8 := ⟨_, rfl⟩
  have CC3 := RGetU (some ⟨b, o + k, none⟩) (n - k) (c - k) (l.drop k) 2 8 (by decide) w3 G3.rd (by omega) (by decide)
  rw [← hix] at CC3
  have C3 := Lib.hid CC3
  have z3 := G3.r10.fz 2
  have k3 := G3.r10.at_ 2
  obtain ⟨w4, hw4⟩ : ∃ v, v = w3.setCell ⟨w.heap.size + 2, 2, none⟩ (.int .i64 ix) := ⟨_, rfl⟩
  have G4 : GS w w4 (some ⟨b, o + k, none⟩) (n - k) (l.drop k) #[.int .i64 3, .bool false, .int .i64 ix, .int .i64 0, .int .i64 0, .slice none 0 0] := by have hh := G3.set 2 (.int .i64 ix); rw [hw4]; simpa using hh
  have CC4 := RGetU (some ⟨b, o + k, none⟩) (n - k) (c - k) (l.drop k) 10 8 (by decide) w4 G4.rd (by omega) (by decide)
  rw [← hgn] at CC4
  have C4 := Lib.hid CC4
  have z4 := G4.r10.fz 3
  have k4 := G4.r10.at_ 3
  obtain ⟨w5, hw5⟩ : ∃ v, v = w4.setCell ⟨w.heap.size + 2, 3, none⟩ (.int .i64 gn) := ⟨_, rfl⟩
  have G5 : GS w w5 (some ⟨b, o + k, none⟩) (n - k) (l.drop k) #[.int .i64 3, .bool false, .int .i64 ix, .int .i64 gn, .int .i64 0, .slice none 0 0] := by have hh := G4.set 3 (.int .i64 gn); rw [hw5]; simpa using hh
  have CC5 := RGetU (some ⟨b, o + k, none⟩) (n - k) (c - k) (l.drop k) 18 8 (by decide) w5 G5.rd (by omega) (by decide)
  rw [← hcp] at CC5
  have C5 := Lib.hid CC5
  have z5 := G5.r10.fz 4
  have k5 := G5.r10.at_ 4
  obtain ⟨w6, hw6⟩ : ∃ v, v = w5.setCell ⟨w.heap.size + 2, 4, none⟩ (.int .i64 cp) := ⟨_, rfl⟩
  have G6 : GS w w6 (some ⟨b, o + k, none⟩) (n - k) (l.drop k) #[.int .i64 3, .bool false, .int .i64 ix, .int .i64 gn, .int .i64 cp, .slice none 0 0] := by have hh := G5.set 4 (.int .i64 cp); rw [hw6]; simpa using hh
  have kl := G4.r10.at_ 1
  have kL := G3.r10.at_ 1
  have Hix := Lib.hid hix
  have Hgn := Lib.hid hgn
  have Hcp := Lib.hid hcp
  have HG3 := Lib.hid G3
  have HG4 := Lib.hid G4
  have HG5 := Lib.hid G5
  have HG6 := Lib.hid G6
  clear CC3 CC4 CC5 G3 G4 G5 G6 hix hgn hcp
  have HS1 := Lib.hid s1
  clear hr s1 hb1 hb12 hb2 r4 r7 rd2 h0 h1
  go_enter Try.func31, Try.ntmps31
  go_wp2_with (first
    | (rw [← hw1]; clear hw1)
    | (rw [← hw2, HS1.out]; clear hw2)
    | (rw [← hw3, HS2.out]; clear hw3)
    | (go_at_call 43; have _t := C3; refine C3.out.mono ?_; rintro e w' ⟨rfl, hw'⟩; subst hw'; clear C3)
    | (rw [← hw4]; clear hw4)
    | (go_at_call 43; have _t := C4; refine C4.out.mono ?_; rintro e w' ⟨rfl, hw'⟩; subst hw'; clear C4)
    | (rw [← hw5]; clear hw5)
    | (go_at_call 43; have _t := C5; refine C5.out.mono ?_; rintro e w' ⟨rfl, hw'⟩; subst hw'; clear C5)
    | (rw [← hw6]; clear hw6)
    | ((with_reducible refine wpList_ldS cdT rfl rfl (.tmp 10) rfl rfl HG6.out.r10 ?_))
    | ((with_reducible refine wpList_stS (cs' := #[.int .i64 3, .bool false, .int .i64 ix, .int .i64 gn, .int .i64 cp, .slice none 0 0]) cdT rfl rfl (by simp [Value.oneCell']) rfl (.tmp 4) (.tmp 130) rfl rfl rfl HG6.out.r4 ?_); intro wz hRz hFz))
  refine bodyPost_ret (res_ctt rfl rfl (hRz.load cdT rfl)) rfl ?_
  rw [← Hix.out]
  rw [← Hgn.out]
  rw [← Hcp.out]
  exact ⟨none, 0, 0, rfl, Rd.nil _ _, Nat.le_refl _, HG6.out.fin hFz, fun _ _ e => by cases e⟩

set_option maxHeartbeats 4000000 in
theorem RG_2t_none (hr : Rd w (some ⟨b, o, none⟩) n l) (hlt : b < w.heap.size) (hn : n ≤ 1000) (hnc : n ≤ c) (hk : k + 2 ≤ n) (h0 : w.cell? ⟨b, o + k, none⟩ = some (.int .u8 2)) (h1 : w.cell? ⟨b, o + k + 1, none⟩ = some (.int .u8 1)) (hs : n < k + 20) :
    Calls Try.prog 31 #[.slice (some ⟨b, o, none⟩) n c, .int .i64 k] w (GetL (fun y => ∃ o', (some ⟨b, o, none⟩ : Option Addr) = some ⟨y, o', none⟩) w (Cd.zero, 0, 12)) := by
  obtain ⟨w1, hw1⟩ : ∃ w1, w1 = w.alloc (.cells (Cd.zero.cs none 0 0) 47) := ⟨_, rfl⟩
  obtain ⟨w2, hw2⟩ : ∃ w2, w2 = w1.alloc (.cells (Cd.zero.cs none 0 0) 47) := ⟨_, rfl⟩
  have s1 : w1.heap.size = w.heap.size + 1 := by rw [hw1]; simp
  have hb1 : Below w.heap.size w w1 := by rw [hw1]; exact (Below.refl _ _).alloc (Nat.le_refl _) _
  have hb12 : Below w1.heap.size w1 w2 := by rw [hw2]; exact (Below.refl _ _).alloc (Nat.le_refl _) _
  have hb2 : Below w.heap.size w w2 := hb1.trans (hb12.mono hb1.size)
  have r4 : Rec 47 w2 w.heap.size (Cd.zero.cs none 0 0) := (show Rec 47 w1 w.heap.size (Cd.zero.cs none 0 0) by rw [hw1]; exact Rec.new w _ _).under hb12
  have r7 : Rec 47 w2 (w.heap.size + 1) (Cd.zero.cs none 0 0) := by rw [← s1, hw2]; exact Rec.new w1 _ _
  have hck : ¬ k = c := by omega
  have q0 : w2.cell? ⟨b, o + k, none⟩ = some (.int .u8 2) := (hb2.cell (p := ⟨b, o + k, none⟩) hlt).trans h0
  have q1 : w2.cell? ⟨b, o + k + 1, none⟩ = some (.int .u8 1) := (hb2.cell (p := ⟨b, o + k + 1, none⟩) hlt).trans h1
  have rd2 : Rd w2 (some ⟨b, o + k, none⟩) (n - k) (l.drop k) := by
    have h := (hr.below (Nat.le_refl _) hb2).part (lo := k) (m := n - k) (by omega) (some ⟨b, o + k, none⟩) (fun _ b' o' e => by injection e with e; injection e with e1 e2; rw [e1, e2])
    rw [List.take_of_length_le (by have := hr.1; simp; omega)] at h
    exact h
  obtain ⟨w3, hw3⟩ : ∃ w3, w3 = w2.alloc (.cells #[.int .i64 2, .bool true, .int .i64 0, .int .i64 0, .int .i64 0, .slice none 0 0] 47) := ⟨_, rfl⟩
  have s2 : w2.heap.size = w.heap.size + 2 := by rw [hw2]; simp [s1]
  have hb23 : Below w2.heap.size w2 w3 := by rw [hw3]; exact (Below.refl _ _).alloc (Nat.le_refl _) _
  have G3 : GS w w3 (some ⟨b, o + k, none⟩) (n - k) (l.drop k) #[.int .i64 2, .bool true, .int .i64 0, .int .i64 0, .int .i64 0, .slice none 0 0] := ⟨r4.under hb23, r7.under hb23, by rw [← s2, hw3]; exact Rec.new w2 _ _, rd2.below (Nat.le_refl _) hb23, (fun b' o' e _ => by injection e with e; injection e with e1 e2; omega), hb2.trans (hb23.mono hb2.size)⟩
  have HS2 := Lib.hid s2
  clear s2 hb23
  obtain ⟨ix, hix⟩ : ∃ v, v = gv (l.drop k) 2 8 := ⟨_, rfl⟩
  obtain ⟨cp, hcp⟩ : ∃ v, v = gv (l.drop k) 10 8 := ⟨_, rfl⟩
  have CC3 := RGetU (some ⟨b, o + k, none⟩) (n - k) (c - k) (l.drop k) 2 8 (by decide) w3 G3.rd (by omega) (by decide)
  rw [← hix] at CC3
  have C3 := Lib.hid CC3
  have z3 := G3.r10.fz 2
  have k3 := G3.r10.at_ 2
  obtain ⟨w4, hw4⟩ : ∃ v, v = w3.setCell ⟨w.heap.size + 2, 2, none⟩ (.int .i64 ix) := ⟨_, rfl⟩
  have G4 : GS w w4 (some ⟨b, o + k, none⟩) (n - k) (l.drop k) #[.int .i64 2, .bool true, .int .i64 ix, .int .i64 0, .int .i64 0, .slice none 0 0] := by have hh := G3.set 2 (.int .i64 ix); rw [hw4]; simpa using hh
  have CC4 := RGetU (some ⟨b, o + k, none⟩) (n - k) (c - k) (l.drop k) 10 8 (by decide) w4 G4.rd (by omega) (by decide)
  rw [← hcp] at CC4
  have C4 := Lib.hid CC4
  have z4 := G4.r10.fz 4
  have k4 := G4.r10.at_ 4
  obtain ⟨w5, hw5⟩ : ∃ v, v = w4.setCell ⟨w.heap.size + 2, 4, none⟩ (.int .i64 cp) := ⟨_, rfl⟩
  have G5 : GS w w5 (some ⟨b, o + k, none⟩) (n - k) (l.drop k) #[.int .i64 2, .bool true, .int .i64 ix, .int .i64 0, .int .i64 cp, .slice none 0 0] := by have hh := G4.set 4 (.int .i64 cp); rw [hw5]; simpa using hh
  have kl3 := G4.r10.at_ 1
  have kL := G3.r10.at_ 1
  have CC5 := RGetU (some ⟨b, o + k, none⟩) (n - k) (c - k) (l.drop k) 18 2 (by decide) w5 G5.rd (by omega) (by decide)
  have en : gv (l.drop k) 18 2 = 0 := by unfold gv; rw [if_neg (by have := rd2.1; omega)]
  rw [en, decide_eq_false (by omega)] at CC5
  clear en
  have C5 := Lib.hid CC5
  have Hix := Lib.hid hix
  have Hcp := Lib.hid hcp
  have HG3 := Lib.hid G3
  have HG4 := Lib.hid G4
  have HG5 := Lib.hid G5
  clear CC3 CC4 CC5 G3 G4 G5 hix hcp
  have HS1 := Lib.hid s1
  clear hr s1 hb1 hb12 hb2 r4 r7 rd2 h0 h1
  go_enter Try.func31, Try.ntmps31
  go_wp2_with (first
    | (rw [← hw1]; clear hw1)
    | (rw [← hw2, HS1.out]; clear hw2)
    | (rw [← hw3, HS2.out]; clear hw3)
    | (go_at_call 43; have _t := C3; refine C3.out.mono ?_; rintro e w' ⟨rfl, hw'⟩; subst hw'; clear C3)
    | (rw [← hw4]; clear hw4)
    | (go_at_call 43; have _t := C4; refine C4.out.mono ?_; rintro e w' ⟨rfl, hw'⟩; subst hw'; clear C4)
    | (rw [← hw5]; clear hw5)
    | (go_at_call 43; have _t := C5; refine C5.out.mono ?_; rintro e w' ⟨rfl, hw'⟩; subst hw'; clear C5)
    | ((with_reducible refine wpList_ldS cdT rfl rfl (.tmp 7) rfl rfl HG5.out.r7 ?_))
    | ((with_reducible refine wpList_stS (cs' := (Cd.zero.cs none 0 0)) cdT rfl rfl (by simp [Value.oneCell']) rfl (.tmp 4) (.tmp 129) rfl rfl rfl HG5.out.r4 ?_); intro wz hRz hFz))
  refine bodyPost_ret (res_ctt rfl rfl (hRz.load cdT rfl)) rfl ?_
  exact GetE.fault 12 (HG5.out.fin hFz)
end
end Go.Proofs.Ytlinafnhhnkjnaa
namespace Go.Proofs.Ytlinafnhhnkjnaa
open Go.RowKit
set_option linter.unusedVariables false
set_option maxRecDepth 20000

section
variable (n c : Nat) (l : List UInt8) (w : World)
variable (b o k : Nat)

set_option maxHeartbeats 4000000 in
theorem RG_2f_none (hr : Rd w (some ⟨b, o, none⟩) n l) (hlt : b < w.heap.size) (hn : n ≤ 1000) (hnc : n ≤ c) (hk : k + 2 ≤ n) (h0 : w.cell? ⟨b, o + k, none⟩ = some (.int .u8 2)) (h1 : w.cell? ⟨b, o + k + 1, none⟩ = some (.int .u8 0)) (hs : n < k + 28) :
    Calls Try.prog 31 #[.slice (some ⟨b, o, none⟩) n c, .int .i64 k] w (GetL (fun y => ∃ o', (some ⟨b, o, none⟩ : Option Addr) = some ⟨y, o', none⟩) w (Cd.zero, 0, 12)) := by
  obtain ⟨w1, hw1⟩ : ∃ w1, w1 = w.alloc (.cells (Cd.zero.cs none 0 0) 47) := ⟨_, rfl⟩
  obtain ⟨w2, hw2⟩ : ∃ w2, w2 = w1.alloc (.cells (Cd.zero.cs none 0 0) 47) := ⟨_, rfl⟩
  have s1 : w1.heap.size = w.heap.size + 1 := by rw [hw1]; simp
  have hb1 : Below w.heap.size w w1 := by rw [hw1]; exact (Below.refl _ _).alloc (Nat.le_refl _) _
  have hb12 : Below w1.heap.size w1 w2 := by rw [hw2]; exact (Below.refl _ _).alloc (Nat.le_refl _) _
  have hb2 : Below w.heap.size w w2 := hb1.trans (hb12.mono hb1.size)
  have r4 : Rec 47 w2 w.heap.size (Cd.zero.cs none 0 0) := (show Rec 47 w1 w.heap.size (Cd.zero.cs none 0 0) by rw [hw1]; exact Rec.new w _ _).under hb12
  have r7 : Rec 47 w2 (w.heap.size + 1) (Cd.zero.cs none 0 0) := by rw [← s1, hw2]; exact Rec.new w1 _ _
  have hck : ¬ k = c := by omega
  have q0 : w2.cell? ⟨b, o + k, none⟩ = some (.int .u8 2) := (hb2.cell (p := ⟨b, o + k, none⟩) hlt).trans h0
  have q1 : w2.cell? ⟨b, o + k + 1, none⟩ = some (.int .u8 0) := (hb2.cell (p := ⟨b, o + k + 1, none⟩) hlt).trans h1
  have rd2 : Rd w2 (some ⟨b, o + k, none⟩) (n - k) (l.drop k) := by
    have h := (hr.below (Nat.le_refl _) hb2).part (lo := k) (m := n - k) (by omega) (some ⟨b, o + k, none⟩) (fun _ b' o' e => by injection e with e; injection e with e1 e2; rw [e1, e2])
    rw [List.take_of_length_le (by have := hr.1; simp; omega)] at h
    exact h
  obtain ⟨w3, hw3⟩ : ∃ w3, w3 = w2.alloc (.cells #[.int .i64 2, .bool false, .int .i64 0, .int .i64 0, .int .i64 0, .slice none 0 0] 47) := ⟨_, rfl⟩
  have s2 : w2.heap.size = w.heap.size + 2 := by rw [hw2]; simp [s1]
  have hb23 : Below w2.heap.size w2 w3 := by rw [hw3]; exact (Below.refl _ _).alloc (Nat.le_refl _) _
  have G3 : GS w w3 (some ⟨b, o + k, none⟩) (n - k) (l.drop k) #[.int .i64 2, .bool false, .int .i64 0, .int .i64 0, .int .i64 0, .slice none 0 0] := ⟨r4.under hb23, r7.under hb23, by rw [← s2, hw3]; exact Rec.new w2 _ _, rd2.below (Nat.le_refl _) hb23, (fun b' o' e _ => by injection e with e; injection e with e1 e2; omega), hb2.trans (hb23.mono hb2.size)⟩
  have HS2 := Lib.hid s2
  clear s2 hb23
  obtain ⟨ix, hix⟩ : ∃ v, v = gv (l.drop k) 2 8 := ⟨_, rfl⟩
  obtain ⟨gn, hgn⟩ : ∃ v, v = gv (l.drop k) 10 8 := ⟨_, rfl⟩
  obtain ⟨cp, hcp⟩ : ∃ v, v = gv (l.drop k) 18 8 := ⟨_, rfl⟩
  have CC3 := RGetU (some ⟨b, o + k, none⟩) (n - k) (c - k) (l.drop k) 2 8 (by decide) w3 G3.rd (by omega) (by decide)
  rw [← hix] at CC3
  have C3 := Lib.hid CC3
  have z3 := G3.r10.fz 2
  have k3 := G3.r10.at_ 2
  obtain ⟨w4, hw4⟩ : ∃ v, v = w3.setCell ⟨w.heap.size + 2, 2, none⟩ (.int .i64 ix) := ⟨_, rfl⟩
  have G4 : GS w w4 (some ⟨b, o + k, none⟩) (n - k) (l.drop k) #[.int .i64 2, .bool false, .int .i64 ix, .int .i64 0, .int .i64 0, .slice none 0 0] := by have hh := G3.set 2 (.int .i64 ix); rw [hw4]; simpa using hh
  have CC4 := RGetU (some ⟨b, o + k, none⟩) (n - k) (c - k) (l.drop k) 10 8 (by decide) w4 G4.rd (by omega) (by decide)
  rw [← hgn] at CC4
  have C4 := Lib.hid CC4
  have z4 := G4.r10.fz 3
  have k4 := G4.r10.at_ 3
  obtain ⟨w5, hw5⟩ : ∃ v, v = w4.setCell ⟨w.heap.size + 2, 3, none⟩ (.int .i64 gn) := ⟨_, rfl⟩
  have G5 : GS w w5 (some ⟨b, o + k, none⟩) (n - k) (l.drop k) #[.int .i64 2, .bool false, .int .i64 ix, .int .i64 gn, .int .i64 0, .slice none 0 0] := by have hh := G4.set 3 (.int .i64 gn); rw [hw5]; simpa using hh
  have CC5 := RGetU (some ⟨b, o + k, none⟩) (n - k) (c - k) (l.drop k) 18 8 (by decide) w5 G5.rd (by omega) (by decide)
  rw [← hcp] at CC5
  have C5 := Lib.hid CC5
  have z5 := G5.r10.fz 4
  have k5 := G5.r10.at_ 4
  obtain ⟨w6, hw6⟩ : ∃ v, v = w5.setCell ⟨w.heap.size + 2, 4, none⟩ (.int .i64 cp) := ⟨_, rfl⟩
  have G6 : GS w w6 (some ⟨b, o + k, none⟩) (n - k) (l.drop k) #[.int .i64 2, .bool false, .int .i64 ix, .int .i64 gn, .int .i64 cp, .slice none 0 0] := by have hh := G5.set 4 (.int .i64 cp); rw [hw6]; simpa using hh
  have kl := G4.r10.at_ 1
  have kL := G3.r10.at_ 1
  have CC6 := RGetU (some ⟨b, o + k, none⟩) (n - k) (c - k) (l.drop k) 26 2 (by decide) w6 G6.rd (by omega) (by decide)
  have en : gv (l.drop k) 26 2 = 0 := by unfold gv; rw [if_neg (by have := rd2.1; omega)]
  rw [en, decide_eq_false (by omega)] at CC6
  clear en
  have C6 := Lib.hid CC6
  have Hix := Lib.hid hix
  have Hgn := Lib.hid hgn
  have Hcp := Lib.hid hcp
  have HG3 := Lib.hid G3
  have HG4 := Lib.hid G4
  have HG5 := Lib.hid G5
  have HG6 := Lib.hid G6
  clear CC3 CC4 CC5 CC6 G3 G4 G5 G6 hix hgn hcp
  have HS1 := Lib.hid s1
  clear hr s1 hb1 hb12 hb2 r4 r7 rd2 h0 h1
  go_enter Try.func31, Try.ntmps31
  go_wp2_with (first
    | (rw [← hw1]; clear hw1)
    | (rw [← hw2, HS1.out]; clear hw2)
    | (rw [← hw3, HS2.out]; clear hw3)
    | (go_at_call 43; have _t := C3; refine C3.out.mono ?_; rintro e w' ⟨rfl, hw'⟩; subst hw'; clear C3)
    | (rw [← hw4]; clear hw4)
    | (go_at_call 43; have _t := C4; refine C4.out.mono ?_; rintro e w' ⟨rfl, hw'⟩; subst hw'; clear C4)
    | (rw [← hw5]; clear hw5)
    | (go_at_call 43; have _t := C5; refine C5.out.mono ?_; rintro e w' ⟨rfl, hw'⟩; subst hw'; clear C5)
    | (rw [← hw6]; clear hw6)
    | (go_at_call 43; have _t := C6; refine C6.out.mono ?_; rintro e w' ⟨rfl, hw'⟩; subst hw'; clear C6)
    | ((with_reducible refine wpList_ldS cdT rfl rfl (.tmp 7) rfl rfl HG6.out.r7 ?_))
    | ((with_reducible refine wpList_stS (cs' := (Cd.zero.cs none 0 0)) cdT rfl rfl (by simp [Value.oneCell']) rfl (.tmp 4) (.tmp 129) rfl rfl rfl HG6.out.r4 ?_); intro wz hRz hFz))
  refine bodyPost_ret (res_ctt rfl rfl (hRz.load cdT rfl)) rfl ?_
  exact GetE.fault 12 (HG6.out.fin hFz)

set_option maxHeartbeats 4000000 in
theorem RG_2f_long (hr : Rd w (some ⟨b, o, none⟩) n l) (hlt : b < w.heap.size) (hn : n ≤ 1000) (hnc : n ≤ c) (hk : k + 2 ≤ n) (h0 : w.cell? ⟨b, o + k, none⟩ = some (.int .u8 2)) (h1 : w.cell? ⟨b, o + k + 1, none⟩ = some (.int .u8 0)) (hs : k + 28 ≤ n) (q : Nat) (hq : gv (l.drop k) 26 2 = (q : Int)) (h64 : 64 < q) :
    Calls Try.prog 31 #[.slice (some ⟨b, o, none⟩) n c, .int .i64 k] w (GetL (fun y => ∃ o', (some ⟨b, o, none⟩ : Option Addr) = some ⟨y, o', none⟩) w (Cd.zero, 0, 13)) := by
  obtain ⟨w1, hw1⟩ : ∃ w1, w1 = w.alloc (.cells (Cd.zero.cs none 0 0) 47) := ⟨_, rfl⟩
  obtain ⟨w2, hw2⟩ : ∃ w2, w2 = w1.alloc (.cells (Cd.zero.cs none 0 0) 47) := ⟨_, rfl⟩
  have s1 : w1.heap.size = w.heap.size + 1 := by rw [hw1]; simp
  have hb1 : Below w.heap.size w w1 := by rw [hw1]; exact (Below.refl _ _).alloc (Nat.le_refl _) _
  have hb12 : Below w1.heap.size w1 w2 := by rw [hw2]; exact (Below.refl _ _).alloc (Nat.le_refl _) _
  have hb2 : Below w.heap.size w w2 := hb1.trans (hb12.mono hb1.size)
  have r4 : Rec 47 w2 w.heap.size (Cd.zero.cs none 0 0) := (show Rec 47 w1 w.heap.size (Cd.zero.cs none 0 0) by rw [hw1]; exact Rec.new w _ _).under hb12
  have r7 : Rec 47 w2 (w.heap.size + 1) (Cd.zero.cs none 0 0) := by rw [← s1, hw2]; exact Rec.new w1 _ _
  have hck : ¬ k = c := by omega
  have q0 : w2.cell? ⟨b, o + k, none⟩ = some (.int .u8 2) := (hb2.cell (p := ⟨b, o + k, none⟩) hlt).trans h0
  have q1 : w2.cell? ⟨b, o + k + 1, none⟩ = some (.int .u8 0) := (hb2.cell (p := ⟨b, o + k + 1, none⟩) hlt).trans h1
  have rd2 : Rd w2 (some ⟨b, o + k, none⟩) (n - k) (l.drop k) := by
    have h := (hr.below (Nat.le_refl _) hb2).part (lo := k) (m := n - k) (by omega) (some ⟨b, o + k, none⟩) (fun _ b' o' e => by injection e with e; injection e with e1 e2; rw [e1, e2])
    rw [List.take_of_length_le (by have := hr.1; simp; omega)] at h
    exact h
  obtain ⟨w3, hw3⟩ : ∃ w3, w3 = w2.alloc (.cells #[.int .i64 2, .bool false, .int .i64 0, .int .i64 0, .int .i64 0, .slice none 0 0] 47) := ⟨_, rfl⟩
  have s2 : w2.heap.size = w.heap.size + 2 := by rw [hw2]; simp [s1]
  have hb23 : Below w2.heap.size w2 w3 := by rw [hw3]; exact (Below.refl _ _).alloc (Nat.le_refl _) _
  have G3 : GS w w3 (some ⟨b, o + k, none⟩) (n - k) (l.drop k) #[.int .i64 2, .bool false, .int .i64 0, .int .i64 0, .int .i64 0, .slice none 0 0] := ⟨r4.under hb23, r7.under hb23, by rw [← s2, hw3]; exact Rec.new w2 _ _, rd2.below (Nat.le_refl _) hb23, (fun b' o' e _ => by injection e with e; injection e with e1 e2; omega), hb2.trans (hb23.mono hb2.size)⟩
  have HS2 := Lib.hid s2
  clear s2 hb23
  obtain ⟨ix, hix⟩ : ∃ v, v = gv (l.drop k) 2 8 := ⟨_, rfl⟩
  obtain ⟨gn, hgn⟩ : ∃ v, v = gv (l.drop k) 10 8 := ⟨_, rfl⟩
  obtain ⟨cp, hcp⟩ : ∃ v, v = gv (l.drop k) 18 8 := ⟨_, rfl⟩
  have CC3 := RGetU (some ⟨b, o + k, none⟩) (n - k) (c - k) (l.drop k) 2 8 (by decide) w3 G3.rd (by omega) (by decide)
  rw [← hix] at CC3
  have C3 := Lib.hid CC3
  have z3 := G3.r10.fz 2
  have k3 := G3.r10.at_ 2
  obtain ⟨w4, hw4⟩ : ∃ v, v = w3.setCell ⟨w.heap.size + 2, 2, none⟩ (.int .i64 ix) := ⟨_, rfl⟩
  have G4 : GS w w4 (some ⟨b, o + k, none⟩) (n - k) (l.drop k) #[.int .i64 2, .bool false, .int .i64 ix, .int .i64 0, .int .i64 0, .slice none 0 0] := by have hh := G3.set 2 (.int .i64 ix); rw [hw4]; simpa using hh
  have CC4 := RGetU (some ⟨b, o + k, none⟩) (n - k) (c - k) (l.drop k) 10 8 (by decide) w4 G4.rd (by omega) (by decide)
  rw [← hgn] at CC4
  have C4 := Lib.hid CC4
  have z4 := G4.r10.fz 3
  have k4 := G4.r10.at_ 3
  obtain ⟨w5, hw5⟩ : ∃ v, v = w4.setCell ⟨w.heap.size + 2, 3, none⟩ (.int .i64 gn) := ⟨_, rfl⟩
  have G5 : GS w w5 (some ⟨b, o + k, none⟩) (n - k) (l.drop k) #[.int .i64 2, .bool false, .int .i64 ix, .int .i64 gn, .int .i64 0, .slice none 0 0] := by have hh := G4.set 3 (.int .i64 gn); rw [hw5]; simpa using hh
  have CC5 := RGetU (some ⟨b, o + k, none⟩) (n - k) (c - k) (l.drop k) 18 8 (by decide) w5 G5.rd (by omega) (by decide)
  rw [← hcp] at CC5
  have C5 := Lib.hid CC5
  have z5 := G5.r10.fz 4
  have k5 := G5.r10.at_ 4
  obtain ⟨w6, hw6⟩ : ∃ v, v = w5.setCell ⟨w.heap.size + 2, 4, none⟩ (.int .i64 cp) := ⟨_, rfl⟩
  have G6 : GS w w6 (some ⟨b, o + k, none⟩) (n - k) (l.drop k) #[.int .i64 2, .bool false, .int .i64 ix, .int .i64 gn, .int .i64 cp, .slice none 0 0] := by have hh := G5.set 4 (.int .i64 cp); rw [hw6]; simpa using hh
  have kl := G4.r10.at_ 1
  have kL := G3.r10.at_ 1
  have CC6 := RGetU (some ⟨b, o + k, none⟩) (n - k) (c - k) (l.drop k) 26 2 (by decide) w6 G6.rd (by omega) (by decide)
  rw [hq, decide_eq_true (by omega)] at CC6
  have C6 := Lib.hid CC6
  have Hix := Lib.hid hix
  have Hgn := Lib.hid hgn
  have Hcp := Lib.hid hcp
  have HG3 := Lib.hid G3
  have HG4 := Lib.hid G4
  have HG5 := Lib.hid G5
  have HG6 := Lib.hid G6
  clear CC3 CC4 CC5 CC6 G3 G4 G5 G6 hix hgn hcp
  clear hq
  have HS1 := Lib.hid s1
  clear hr s1 hb1 hb12 hb2 r4 r7 rd2 h0 h1
  go_enter Try.func31, Try.ntmps31
  go_wp2_with (first
    | (rw [← hw1]; clear hw1)
    | (rw [← hw2, HS1.out]; clear hw2)
    | (rw [← hw3, HS2.out]; clear hw3)
    | (go_at_call 43; have _t := C3; refine C3.out.mono ?_; rintro e w' ⟨rfl, hw'⟩; subst hw'; clear C3)
    | (rw [← hw4]; clear hw4)
    | (go_at_call 43; have _t := C4; refine C4.out.mono ?_; rintro e w' ⟨rfl, hw'⟩; subst hw'; clear C4)
    | (rw [← hw5]; clear hw5)
    | (go_at_call 43; have _t := C5; refine C5.out.mono ?_; rintro e w' ⟨rfl, hw'⟩; subst hw'; clear C5)
    | (rw [← hw6]; clear hw6)
    | (go_at_call 43; have _t := C6; refine C6.out.mono ?_; rintro e w' ⟨rfl, hw'⟩; subst hw'; clear C6)
    | ((with_reducible refine wpList_ldS cdT rfl rfl (.tmp 7) rfl rfl HG6.out.r7 ?_))
    | ((with_reducible refine wpList_stS (cs' := (Cd.zero.cs none 0 0)) cdT rfl rfl (by simp [Value.oneCell']) rfl (.tmp 4) (.tmp 105) rfl rfl rfl HG6.out.r4 ?_); intro wz hRz hFz))
  refine bodyPost_ret (res_ctt rfl rfl (hRz.load cdT rfl)) rfl ?_
  exact GetE.fault 13 (HG6.out.fin hFz)

set_option maxHeartbeats 4000000 in
theorem RG_2f_short (hr : Rd w (some ⟨b, o, none⟩) n l) (hlt : b < w.heap.size) (hn : n ≤ 1000) (hnc : n ≤ c) (hk : k + 2 ≤ n) (h0 : w.cell? ⟨b, o + k, none⟩ = some (.int .u8 2)) (h1 : w.cell? ⟨b, o + k + 1, none⟩ = some (.int .u8 0)) (hs : k + 28 ≤ n) (q : Nat) (hq : gv (l.drop k) 26 2 = (q : Int)) (h64 : q ≤ 64) (hs2 : n < k + 28 + q) :
    Calls Try.prog 31 #[.slice (some ⟨b, o, none⟩) n c, .int .i64 k] w (GetL (fun y => ∃ o', (some ⟨b, o, none⟩ : Option Addr) = some ⟨y, o', none⟩) w (Cd.zero, 0, 12)) := by
  obtain ⟨w1, hw1⟩ : ∃ w1, w1 = w.alloc (.cells (Cd.zero.cs none 0 0) 47) := ⟨_, rfl⟩
  obtain ⟨w2, hw2⟩ : ∃ w2, w2 = w1.alloc (.cells (Cd.zero.cs none 0 0) 47) := ⟨_, rfl⟩
  have s1 : w1.heap.size = w.heap.size + 1 := by rw [hw1]; simp
  have hb1 : Below w.heap.size w w1 := by rw [hw1]; exact (Below.refl _ _).alloc (Nat.le_refl _) _
  have hb12 : Below w1.heap.size w1 w2 := by rw [hw2]; exact (Below.refl _ _).alloc (Nat.le_refl _) _
  have hb2 : Below w.heap.size w w2 := hb1.trans (hb12.mono hb1.size)
  have r4 : Rec 47 w2 w.heap.size (Cd.zero.cs none 0 0) := (show Rec 47 w1 w.heap.size (Cd.zero.cs none 0 0) by rw [hw1]; exact Rec.new w _ _).under hb12
  have r7 : Rec 47 w2 (w.heap.size + 1) (Cd.zero.cs none 0 0) := by rw [← s1, hw2]; exact Rec.new w1 _ _
  have hck : ¬ k = c := by omega
  have q0 : w2.cell? ⟨b, o + k, none⟩ = some (.int .u8 2) := (hb2.cell (p := ⟨b, o + k, none⟩) hlt).trans h0
  have q1 : w2.cell? ⟨b, o + k + 1, none⟩ = some (.int .u8 0) := (hb2.cell (p := ⟨b, o + k + 1, none⟩) hlt).trans h1
  have rd2 : Rd w2 (some ⟨b, o + k, none⟩) (n - k) (l.drop k) := by
    have h := (hr.below (Nat.le_refl _) hb2).part (lo := k) (m := n - k) (by omega) (some ⟨b, o + k, none⟩) (fun _ b' o' e => by injection e with e; injection e with e1 e2; rw [e1, e2])
    rw [List.take_of_length_le (by have := hr.1; simp; omega)] at h
    exact h
  obtain ⟨w3, hw3⟩ : ∃ w3, w3 = w2.alloc (.cells #[.int .i64 2, .bool false, .int .i64 0, .int .i64 0, .int .i64 0, .slice none 0 0] 47) := ⟨_, rfl⟩
  have s2 : w2.heap.size = w.heap.size + 2 := by rw [hw2]; simp [s1]
  have hb23 : Below w2.heap.size w2 w3 := by rw [hw3]; exact (Below.refl _ _).alloc (Nat.le_refl _) _
  have G3 : GS w w3 (some ⟨b, o + k, none⟩) (n - k) (l.drop k) #[.int .i64 2, .bool false, .int .i64 0, .int .i64 0, .int .i64 0, .slice none 0 0] := ⟨r4.under hb23, r7.under hb23, by rw [← s2, hw3]; exact Rec.new w2 _ _, rd2.below (Nat.le_refl _) hb23, (fun b' o' e _ => by injection e with e; injection e with e1 e2; omega), hb2.trans (hb23.mono hb2.size)⟩
  have HS2 := Lib.hid s2
  clear s2 hb23
  obtain ⟨ix, hix⟩ : ∃ v, v = gv (l.drop k) 2 8 := ⟨_, rfl⟩
  obtain ⟨gn, hgn⟩ : ∃ v, v = gv (l.drop k) 10 8 := ⟨_, rfl⟩
  obtain ⟨cp, hcp⟩ : ∃ v, v = gv (l.drop k) 18 8 := ⟨_, rfl⟩
  have CC3 := RGetU (some ⟨b, o + k, none⟩) (n - k) (c - k) (l.drop k) 2 8 (by decide) w3 G3.rd (by omega) (by decide)
  rw [← hix] at CC3
  have C3 := Lib.hid CC3
  have z3 := G3.r10.fz 2
  have k3 := G3.r10.at_ 2
  obtain ⟨w4, hw4⟩ : ∃ v, v = w3.setCell ⟨w.heap.size + 2, 2, none⟩ (.int .i64 ix) := ⟨_, rfl⟩
  have G4 : GS w w4 (some ⟨b, o + k, none⟩) (n - k) (l.drop k) #[.int .i64 2, .bool false, .int .i64 ix, .int .i64 0, .int .i64 0, .slice none 0 0] := by have hh := G3.set 2 (.int .i64 ix); rw [hw4]; simpa using hh
  have CC4 := RGetU (some ⟨b, o + k, none⟩) (n - k) (c - k) (l.drop k) 10 8 (by decide) w4 G4.rd (by omega) (by decide)
  rw [← hgn] at CC4
  have C4 := Lib.hid CC4
  have z4 := G4.r10.fz 3
  have k4 := G4.r10.at_ 3
  obtain ⟨w5, hw5⟩ : ∃ v, v = w4.setCell ⟨w.heap.size + 2, 3, none⟩ (.int .i64 gn) := ⟨_, rfl⟩
  have G5 : GS w w5 (some ⟨b, o + k, none⟩) (n - k) (l.drop k) #[.int .i64 2, .bool false, .int .i64 ix, .int .i64 gn, .int .i64 0, .slice none 0 0] := by have hh := G4.set 3 (.int .i64 gn); rw [hw5]; simpa using hh
  have CC5 := RGetU (some ⟨b, o + k, none⟩) (n - k) (c - k) (l.drop k) 18 8 (by decide) w5 G5.rd (by omega) (by decide)
  rw [← hcp] at CC5
  have C5 := Lib.hid CC5
  have z5 := G5.r10.fz 4
  have k5 := G5.r10.at_ 4
  obtain ⟨w6, hw6⟩ : ∃ v, v = w5.setCell ⟨w.heap.size + 2, 4, none⟩ (.int .i64 cp) := ⟨_, rfl⟩
  have G6 : GS w w6 (some ⟨b, o + k, none⟩) (n - k) (l.drop k) #[.int .i64 2, .bool false, .int .i64 ix, .int .i64 gn, .int .i64 cp, .slice none 0 0] := by have hh := G5.set 4 (.int .i64 cp); rw [hw6]; simpa using hh
  have kl := G4.r10.at_ 1
  have kL := G3.r10.at_ 1
  have CC6 := RGetU (some ⟨b, o + k, none⟩) (n - k) (c - k) (l.drop k) 26 2 (by decide) w6 G6.rd (by omega) (by decide)
  rw [hq, decide_eq_true (by omega)] at CC6
  have C6 := Lib.hid CC6
  have Hix := Lib.hid hix
  have Hgn := Lib.hid hgn
  have Hcp := Lib.hid hcp
  have HG3 := Lib.hid G3
  have HG4 := Lib.hid G4
  have HG5 := Lib.hid G5
  have HG6 := Lib.hid G6
  clear CC3 CC4 CC5 CC6 G3 G4 G5 G6 hix hgn hcp
  clear hq
  have HS1 := Lib.hid s1
  clear hr s1 hb1 hb12 hb2 r4 r7 rd2 h0 h1
  go_enter Try.func31, Try.ntmps31
  go_wp2_with (first
    | (rw [← hw1]; clear hw1)
    | (rw [← hw2, HS1.out]; clear hw2)
    | (rw [← hw3, HS2.out]; clear hw3)
    | (go_at_call 43; have _t := C3; refine C3.out.mono ?_; rintro e w' ⟨rfl, hw'⟩; subst hw'; clear C3)
    | (rw [← hw4]; clear hw4)
    | (go_at_call 43; have _t := C4; refine C4.out.mono ?_; rintro e w' ⟨rfl, hw'⟩; subst hw'; clear C4)
    | (rw [← hw5]; clear hw5)
    | (go_at_call 43; have _t := C5; refine C5.out.mono ?_; rintro e w' ⟨rfl, hw'⟩; subst hw'; clear C5)
    | (rw [← hw6]; clear hw6)
    | (go_at_call 43; have _t := C6; refine C6.out.mono ?_; rintro e w' ⟨rfl, hw'⟩; subst hw'; clear C6)
    | ((with_reducible refine wpList_ldS cdT rfl rfl (.tmp 7) rfl rfl HG6.out.r7 ?_))
    | ((with_reducible refine wpList_stS (cs' := (Cd.zero.cs none 0 0)) cdT rfl rfl (by simp [Value.oneCell']) rfl (.tmp 4) (.tmp 129) rfl rfl rfl HG6.out.r4 ?_); intro wz hRz hFz))
  refine bodyPost_ret (res_ctt rfl rfl (hRz.load cdT rfl)) rfl ?_
  exact GetE.fault 12 (HG6.out.fin hFz)
end
end Go.Proofs.Ytlinafnhhnkjnaa
namespace Go.Proofs.Ytlinafnhhnkjnaa
open Go.RowKit
set_option linter.unusedVariables false
set_option maxRecDepth 20000

section
variable (n c : Nat) (l : List UInt8) (w : World)
variable (b o k : Nat)

set_option maxHeartbeats 4000000 in
theorem RG_2f_ok (hr : Rd w (some ⟨b, o, none⟩) n l) (hlt : b < w.heap.size) (hn : n ≤ 1000) (hnc : n ≤ c) (hk : k + 2 ≤ n) (h0 : w.cell? ⟨b, o + k, none⟩ = some (.int .u8 2)) (h1 : w.cell? ⟨b, o + k + 1, none⟩ = some (.int .u8 0)) (hs : k + 28 ≤ n) (q : Nat) (hq : gv (l.drop k) 26 2 = (q : Int)) (h64 : q ≤ 64) (hs2 : k + 28 + q ≤ n) (hcap : ¬ c - k = 28) :
    Calls Try.prog 31 #[.slice (some ⟨b, o, none⟩) n c, .int .i64 k] w (GetL (fun y => ∃ o', (some ⟨b, o, none⟩ : Option Addr) = some ⟨y, o', none⟩) w (⟨2, false, gv (l.drop k) 2 8, gv (l.drop k) 10 8, gv (l.drop k) 18 8, (((l.drop k).drop 28).take q)⟩, (k : Int) + (28 + q : Nat), 0)) := by
  obtain ⟨w1, hw1⟩ : ∃ w1, w1 = w.alloc (.cells (Cd.zero.cs none 0 0) 47) := ⟨_, rfl⟩
  obtain ⟨w2, hw2⟩ : ∃ w2, w2 = w1.alloc (.cells (Cd.zero.cs none 0 0) 47) := ⟨_, rfl⟩
  have s1 : w1.heap.size = w.heap.size + 1 := by rw [hw1]; simp
  have hb1 : Below w.heap.size w w1 := by rw [hw1]; exact (Below.refl _ _).alloc (Nat.le_refl _) _
  have hb12 : Below w1.heap.size w1 w2 := by rw [hw2]; exact (Below.refl _ _).alloc (Nat.le_refl _) _
  have hb2 : Below w.heap.size w w2 := hb1.trans (hb12.mono hb1.size)
  have r4 : Rec 47 w2 w.heap.size (Cd.zero.cs none 0 0) := (show Rec 47 w1 w.heap.size (Cd.zero.cs none 0 0) by rw [hw1]; exact Rec.new w _ _).under hb12
  have r7 : Rec 47 w2 (w.heap.size + 1) (Cd.zero.cs none 0 0) := by rw [← s1, hw2]; exact Rec.new w1 _ _
  have hck : ¬ k = c := by omega
  have q0 : w2.cell? ⟨b, o + k, none⟩ = some (.int .u8 2) := (hb2.cell (p := ⟨b, o + k, none⟩) hlt).trans h0
  have q1 : w2.cell? ⟨b, o + k + 1, none⟩ = some (.int .u8 0) := (hb2.cell (p := ⟨b, o + k + 1, none⟩) hlt).trans h1
  have rd2 : Rd w2 (some ⟨b, o + k, none⟩) (n - k) (l.drop k) := by
    have h := (hr.below (Nat.le_refl _) hb2).part (lo := k) (m := n - k) (by omega) (some ⟨b, o + k, none⟩) (fun _ b' o' e => by injection e with e; injection e with e1 e2; rw [e1, e2])
    rw [List.take_of_length_le (by have := hr.1; simp; omega)] at h
    exact h
  obtain ⟨w3, hw3⟩ : ∃ w3, w3 = w2.alloc (.cells #[.int .i64 2, .bool false, .int .i64 0, .int .i64 0, .int .i64 0, .slice none 0 0] 47) := ⟨_, rfl⟩
  have s2 : w2.heap.size = w.heap.size + 2 := by rw [hw2]; simp [s1]
  have hb23 : Below w2.heap.size w2 w3 := by rw [hw3]; exact (Below.refl _ _).alloc (Nat.le_refl _) _
  have G3 : GS w w3 (some ⟨b, o + k, none⟩) (n - k) (l.drop k) #[.int .i64 2, .bool false, .int .i64 0, .int .i64 0, .int .i64 0, .slice none 0 0] := ⟨r4.under hb23, r7.under hb23, by rw [← s2, hw3]; exact Rec.new w2 _ _, rd2.below (Nat.le_refl _) hb23, (fun b' o' e _ => by injection e with e; injection e with e1 e2; omega), hb2.trans (hb23.mono hb2.size)⟩
  have HS2 := Lib.hid s2
  clear s2 hb23
  obtain ⟨ix, hix⟩ : ∃ v, v = gv (l.drop k) 2 8 := ⟨_, rfl⟩
  obtain ⟨gn, hgn⟩ : ∃ v, v = gv (l.drop k) 10 8 := ⟨_, rfl⟩
  obtain ⟨cp, hcp⟩ : ∃ v, v = gv (l.drop k) 18 8 := ⟨_, rfl⟩
  have CC3 := RGetU (some ⟨b, o + k, none⟩) (n - k) (c - k) (l.drop k) 2 8 (by decide) w3 G3.rd (by omega) (by decide)
  rw [← hix] at CC3
  have C3 := Lib.hid CC3
  have z3 := G3.r10.fz 2
  have k3 := G3.r10.at_ 2
  obtain ⟨w4, hw4⟩ : ∃ v, v = w3.setCell ⟨w.heap.size + 2, 2, none⟩ (.int .i64 ix) := ⟨_, rfl⟩
  have G4 : GS w w4 (some ⟨b, o + k, none⟩) (n - k) (l.drop k) #[.int .i64 2, .bool false, .int .i64 ix, .int .i64 0, .int .i64 0, .slice none 0 0] := by have hh := G3.set 2 (.int .i64 ix); rw [hw4]; simpa using hh
  have CC4 := RGetU (some ⟨b, o + k, none⟩) (n - k) (c - k) (l.drop k) 10 8 (by decide) w4 G4.rd (by omega) (by decide)
  rw [← hgn] at CC4
  have C4 := Lib.hid CC4
  have z4 := G4.r10.fz 3
  have k4 := G4.r10.at_ 3
  obtain ⟨w5, hw5⟩ : ∃ v, v = w4.setCell ⟨w.heap.size + 2, 3, none⟩ (.int .i64 gn) := ⟨_, rfl⟩
  have G5 : GS w w5 (some ⟨b, o + k, none⟩) (n - k) (l.drop k) #[.int .i64 2, .bool false, .int .i64 ix, .int .i64 gn, .int .i64 0, .slice none 0 0] := by have hh := G4.set 3 (.int .i64 gn); rw [hw5]; simpa using hh
  have CC5 := RGetU (some ⟨b, o + k, none⟩) (n - k) (c - k) (l.drop k) 18 8 (by decide) w5 G5.rd (by omega) (by decide)
  rw [← hcp] at CC5
  have C5 := Lib.hid CC5
  have z5 := G5.r10.fz 4
  have k5 := G5.r10.at_ 4
  obtain ⟨w6, hw6⟩ : ∃ v, v = w5.setCell ⟨w.heap.size + 2, 4, none⟩ (.int .i64 cp) := ⟨_, rfl⟩
  have G6 : GS w w6 (some ⟨b, o + k, none⟩) (n - k) (l.drop k) #[.int .i64 2, .bool false, .int .i64 ix, .int .i64 gn, .int .i64 cp, .slice none 0 0] := by have hh := G5.set 4 (.int .i64 cp); rw [hw6]; simpa using hh
  have kl := G4.r10.at_ 1
  have kL := G3.r10.at_ 1
  have CC6 := RGetU (some ⟨b, o + k, none⟩) (n - k) (c - k) (l.drop k) 26 2 (by decide) w6 G6.rd (by omega) (by decide)
  rw [hq, decide_eq_true (by omega)] at CC6
  have C6 := Lib.hid CC6
  have z6 := G6.r10.fz 5
  have k6 := G6.r10.at_ 5
  obtain ⟨w7, hw7⟩ : ∃ v, v = w6.setCell ⟨w.heap.size + 2, 5, none⟩ (.slice (some ⟨b, o + k + 28, none⟩) q (c - k - 28)) := ⟨_, rfl⟩
  have G7 : GS w w7 (some ⟨b, o + k, none⟩) (n - k) (l.drop k) #[.int .i64 2, .bool false, .int .i64 ix, .int .i64 gn, .int .i64 cp, .slice (some ⟨b, o + k + 28, none⟩) q (c - k - 28)] := by have hh := G6.set 5 (.slice (some ⟨b, o + k + 28, none⟩) q (c - k - 28)); rw [hw7]; simpa using hh
  have RDD := Lib.hid (show Rd w7 (some ⟨b, o + k + 28, none⟩) q (((l.drop k).drop 28).take q) by have hp := G7.rd.part (lo := 28) (m := q) (by omega) (some ⟨b, o + k + 28, none⟩) (fun _ b' o' e => by injection e with e; injection e with e1 e2; rw [e1, e2]); exact hp)
  have Hix := Lib.hid hix
  have Hgn := Lib.hid hgn
  have Hcp := Lib.hid hcp
  have HG3 := Lib.hid G3
  have HG4 := Lib.hid G4
  have HG5 := Lib.hid G5
  have HG6 := Lib.hid G6
  have HG7 := Lib.hid G7
  clear CC3 CC4 CC5 CC6 G3 G4 G5 G6 G7 hix hgn hcp
  clear hq
  have HS1 := Lib.hid s1
  clear hr s1 hb1 hb12 hb2 r4 r7 rd2 h0 h1
  go_enter Try.func31, Try.ntmps31
  go_wp2_with (first
    | (rw [← hw1]; clear hw1)
    | (rw [← hw2, HS1.out]; clear hw2)
    | (rw [← hw3, HS2.out]; clear hw3)
    | (go_at_call 43; have _t := C3; refine C3.out.mono ?_; rintro e w' ⟨rfl, hw'⟩; subst hw'; clear C3)
    | (rw [← hw4]; clear hw4)
    | (go_at_call 43; have _t := C4; refine C4.out.mono ?_; rintro e w' ⟨rfl, hw'⟩; subst hw'; clear C4)
    | (rw [← hw5]; clear hw5)
    | (go_at_call 43; have _t := C5; refine C5.out.mono ?_; rintro e w' ⟨rfl, hw'⟩; subst hw'; clear C5)
    | (rw [← hw6]; clear hw6)
    | (go_at_call 43; have _t := C6; refine C6.out.mono ?_; rintro e w' ⟨rfl, hw'⟩; subst hw'; clear C6)
    | (rw [← hw7]; clear hw7)
    | ((with_reducible refine wpList_ldS cdT rfl rfl (.tmp 10) rfl rfl HG7.out.r10 ?_))
    | ((with_reducible refine wpList_stS (cs' := #[.int .i64 2, .bool false, .int .i64 ix, .int .i64 gn, .int .i64 cp, .slice (some ⟨b, o + k + 28, none⟩) q (c - k - 28)]) cdT rfl rfl (by simp [Value.oneCell']) rfl (.tmp 4) (.tmp 130) rfl rfl rfl HG7.out.r4 ?_); intro wz hRz hFz))
  refine bodyPost_ret (res_ctt rfl rfl (hRz.load cdT rfl)) rfl ?_
  rw [← Hix.out]
  rw [← Hgn.out]
  rw [← Hcp.out]
  exact ⟨some ⟨b, o + k + 28, none⟩, q, c - k - 28, rfl, RDD.out.fr hFz (fun b' o' e hp e' => by injection e with e; injection e with e1 e2; have : b' = w.heap.size := e'; omega), by omega, HG7.out.fin hFz, fun b' o' e _ => by injection e with e; injection e with e1 e2; exact ⟨o, by rw [e1]⟩⟩
end
end Go.Proofs.Ytlinafnhhnkjnaa
namespace Go.Proofs.Ytlinafnhhnkjnaa
open Go.RowKit
set_option linter.unusedVariables false
set_option maxRecDepth 20000

section
variable (n c : Nat) (l : List UInt8) (w : World)
variable (b o k : Nat)

set_option maxHeartbeats 4000000 in
theorem RG_2t_long (hr : Rd w (some ⟨b, o, none⟩) n l) (hlt : b < w.heap.size) (hn : n ≤ 1000) (hnc : n ≤ c) (hk : k + 2 ≤ n) (h0 : w.cell? ⟨b, o + k, none⟩ = some (.int .u8 2)) (h1 : w.cell? ⟨b, o + k + 1, none⟩ = some (.int .u8 1)) (hs : k + 20 ≤ n) (q : Nat) (hq : gv (l.drop k) 18 2 = (q : Int)) (h64 : 64 < q) :
    Calls Try.prog 31 #[.slice (some ⟨b, o, none⟩) n c, .int .i64 k] w (GetL (fun y => ∃ o', (some ⟨b, o, none⟩ : Option Addr) = some ⟨y, o', none⟩) w (Cd.zero, 0, 13)) := by
  obtain ⟨w1, hw1⟩ : ∃ w1, w1 = w.alloc (.cells (Cd.zero.cs none 0 0) 47) := ⟨_, rfl⟩
  obtain ⟨w2, hw2⟩ : ∃ w2, w2 = w1.alloc (.cells (Cd.zero.cs none 0 0) 47) := ⟨_, rfl⟩
  have s1 : w1.heap.size = w.heap.size + 1 := by rw [hw1]; simp
  have hb1 : Below w.heap.size w w1 := by rw [hw1]; exact (Below.refl _ _).alloc (Nat.le_refl _) _
  have hb12 : Below w1.heap.size w1 w2 := by rw [hw2]; exact (Below.refl _ _).alloc (Nat.le_refl _) _
  have hb2 : Below w.heap.size w w2 := hb1.trans (hb12.mono hb1.size)
  have r4 : Rec 47 w2 w.heap.size (Cd.zero.cs none 0 0) := (show Rec 47 w1 w.heap.size (Cd.zero.cs none 0 0) by rw [hw1]; exact Rec.new w _ _).under hb12
  have r7 : Rec 47 w2 (w.heap.size + 1) (Cd.zero.cs none 0 0) := by rw [← s1, hw2]; exact Rec.new w1 _ _
  have hck : ¬ k = c := by omega
  have q0 : w2.cell? ⟨b, o + k, none⟩ = some (.int .u8 2) := (hb2.cell (p := ⟨b, o + k, none⟩) hlt).trans h0
  have q1 : w2.cell? ⟨b, o + k + 1, none⟩ = some (.int .u8 1) := (hb2.cell (p := ⟨b, o + k + 1, none⟩) hlt).trans h1
  have rd2 : Rd w2 (some ⟨b, o + k, none⟩) (n - k) (l.drop k) := by
    have h := (hr.below (Nat.le_refl _) hb2).part (lo := k) (m := n - k) (by omega) (some ⟨b, o + k, none⟩) (fun _ b' o' e => by injection e with e; injection e with e1 e2; rw [e1, e2])
    rw [List.take_of_length_le (by have := hr.1; simp; omega)] at h
    exact h
  obtain ⟨w3, hw3⟩ : ∃ w3, w3 = w2.alloc (.cells #[.int .i64 2, .bool true, .int .i64 0, .int .i64 0, .int .i64 0, .slice none 0 0] 47) := ⟨_, rfl⟩
  have s2 : w2.heap.size = w.heap.size + 2 := by rw [hw2]; simp [s1]
  have hb23 : Below w2.heap.size w2 w3 := by rw [hw3]; exact (Below.refl _ _).alloc (Nat.le_refl _) _
  have G3 : GS w w3 (some ⟨b, o + k, none⟩) (n - k) (l.drop k) #[.int .i64 2, .bool true, .int .i64 0, .int .i64 0, .int .i64 0, .slice none 0 0] := ⟨r4.under hb23, r7.under hb23, by rw [← s2, hw3]; exact Rec.new w2 _ _, rd2.below (Nat.le_refl _) hb23, (fun b' o' e _ => by injection e with e; injection e with e1 e2; omega), hb2.trans (hb23.mono hb2.size)⟩
  have HS2 := Lib.hid s2
  clear s2 hb23
  obtain ⟨ix, hix⟩ : ∃ v, v = gv (l.drop k) 2 8 := ⟨_, rfl⟩
  obtain ⟨cp, hcp⟩ : ∃ v, v = gv (l.drop k) 10 8 := ⟨_, rfl⟩
  have CC3 := RGetU (some ⟨b, o + k, none⟩) (n - k) (c - k) (l.drop k) 2 8 (by decide) w3 G3.rd (by omega) (by decide)
  rw [← hix] at CC3
  have C3 := Lib.hid CC3
  have z3 := G3.r10.fz 2
  have k3 := G3.r10.at_ 2
  obtain ⟨w4, hw4⟩ : ∃ v, v = w3.setCell ⟨w.heap.size + 2, 2, none⟩ (.int .i64 ix) := ⟨_, rfl⟩
  have G4 : GS w w4 (some ⟨b, o + k, none⟩) (n - k) (l.drop k) #[.int .i64 2, .bool true, .int .i64 ix, .int .i64 0, .int .i64 0, .slice none 0 0] := by have hh := G3.set 2 (.int .i64 ix); rw [hw4]; simpa using hh
  have CC4 := RGetU (some ⟨b, o + k, none⟩) (n - k) (c - k) (l.drop k) 10 8 (by decide) w4 G4.rd (by omega) (by decide)
  rw [← hcp] at CC4
  have C4 := Lib.hid CC4
  have z4 := G4.r10.fz 4
  have k4 := G4.r10.at_ 4
  obtain ⟨w5, hw5⟩ : ∃ v, v = w4.setCell ⟨w.heap.size + 2, 4, none⟩ (.int .i64 cp) := ⟨_, rfl⟩
  have G5 : GS w w5 (some ⟨b, o + k, none⟩) (n - k) (l.drop k) #[.int .i64 2, .bool true, .int .i64 ix, .int .i64 0, .int .i64 cp, .slice none 0 0] := by have hh := G4.set 4 (.int .i64 cp); rw [hw5]; simpa using hh
  have kl3 := G4.r10.at_ 1
  have kL := G3.r10.at_ 1
  have CC5 := RGetU (some ⟨b, o + k, none⟩) (n - k) (c - k) (l.drop k) 18 2 (by decide) w5 G5.rd (by omega) (by decide)
  rw [hq, decide_eq_true (by omega)] at CC5
  have C5 := Lib.hid CC5
  have Hix := Lib.hid hix
  have Hcp := Lib.hid hcp
  have HG3 := Lib.hid G3
  have HG4 := Lib.hid G4
  have HG5 := Lib.hid G5
  clear CC3 CC4 CC5 G3 G4 G5 hix hcp
  clear hq
  have HS1 := Lib.hid s1
  clear hr s1 hb1 hb12 hb2 r4 r7 rd2 h0 h1
  go_enter Try.func31, Try.ntmps31
  go_wp2_with (first
    | (rw [← hw1]; clear hw1)
    | (rw [← hw2, HS1.out]; clear hw2)
    | (rw [← hw3, HS2.out]; clear hw3)
    | (go_at_call 43; have _t := C3; refine C3.out.mono ?_; rintro e w' ⟨rfl, hw'⟩; subst hw'; clear C3)
    | (rw [← hw4]; clear hw4)
    | (go_at_call 43; have _t := C4; refine C4.out.mono ?_; rintro e w' ⟨rfl, hw'⟩; subst hw'; clear C4)
    | (rw [← hw5]; clear hw5)
    | (go_at_call 43; have _t := C5; refine C5.out.mono ?_; rintro e w' ⟨rfl, hw'⟩; subst hw'; clear C5)
    | ((with_reducible refine wpList_ldS cdT rfl rfl (.tmp 7) rfl rfl HG5.out.r7 ?_))
    | ((with_reducible refine wpList_stS (cs' := (Cd.zero.cs none 0 0)) cdT rfl rfl (by simp [Value.oneCell']) rfl (.tmp 4) (.tmp 105) rfl rfl rfl HG5.out.r4 ?_); intro wz hRz hFz))
  refine bodyPost_ret (res_ctt rfl rfl (hRz.load cdT rfl)) rfl ?_
  exact GetE.fault 13 (HG5.out.fin hFz)

set_option maxHeartbeats 4000000 in
theorem RG_2t_short (hr : Rd w (some ⟨b, o, none⟩) n l) (hlt : b < w.heap.size) (hn : n ≤ 1000) (hnc : n ≤ c) (hk : k + 2 ≤ n) (h0 : w.cell? ⟨b, o + k, none⟩ = some (.int .u8 2)) (h1 : w.cell? ⟨b, o + k + 1, none⟩ = some (.int .u8 1)) (hs : k + 20 ≤ n) (q : Nat) (hq : gv (l.drop k) 18 2 = (q : Int)) (h64 : q ≤ 64) (hs2 : n < k + 20 + q) :
    Calls Try.prog 31 #[.slice (some ⟨b, o, none⟩) n c, .int .i64 k] w (GetL (fun y => ∃ o', (some ⟨b, o, none⟩ : Option Addr) = some ⟨y, o', none⟩) w (Cd.zero, 0, 12)) := by
  obtain ⟨w1, hw1⟩ : ∃ w1, w1 = w.alloc (.cells (Cd.zero.cs none 0 0) 47) := ⟨_, rfl⟩
  obtain ⟨w2, hw2⟩ : ∃ w2, w2 = w1.alloc (.cells (Cd.zero.cs none 0 0) 47) := ⟨_, rfl⟩
  have s1 : w1.heap.size = w.heap.size + 1 := by rw [hw1]; simp
  have hb1 : Below w.heap.size w w1 := by rw [hw1]; exact (Below.refl _ _).alloc (Nat.le_refl _) _
  have hb12 : Below w1.heap.size w1 w2 := by rw [hw2]; exact (Below.refl _ _).alloc (Nat.le_refl _) _
  have hb2 : Below w.heap.size w w2 := hb1.trans (hb12.mono hb1.size)
  have r4 : Rec 47 w2 w.heap.size (Cd.zero.cs none 0 0) := (show Rec 47 w1 w.heap.size (Cd.zero.cs none 0 0) by rw [hw1]; exact Rec.new w _ _).under hb12
  have r7 : Rec 47 w2 (w.heap.size + 1) (Cd.zero.cs none 0 0) := by rw [← s1, hw2]; exact Rec.new w1 _ _
  have hck : ¬ k = c := by omega
  have q0 : w2.cell? ⟨b, o + k, none⟩ = some (.int .u8 2) := (hb2.cell (p := ⟨b, o + k, none⟩) hlt).trans h0
  have q1 : w2.cell? ⟨b, o + k + 1, none⟩ = some (.int .u8 1) := (hb2.cell (p := ⟨b, o + k + 1, none⟩) hlt).trans h1
  have rd2 : Rd w2 (some ⟨b, o + k, none⟩) (n - k) (l.drop k) := by
    have h := (hr.below (Nat.le_refl _) hb2).part (lo := k) (m := n - k) (by omega) (some ⟨b, o + k, none⟩) (fun _ b' o' e => by injection e with e; injection e with e1 e2; rw [e1, e2])
    rw [List.take_of_length_le (by have := hr.1; simp; omega)] at h
    exact h
  obtain ⟨w3, hw3⟩ : ∃ w3, w3 = w2.alloc (.cells #[.int .i64 2, .bool true, .int .i64 0, .int .i64 0, .int .i64 0, .slice none 0 0] 47) := ⟨_, rfl⟩
  have s2 : w2.heap.size = w.heap.size + 2 := by rw [hw2]; simp [s1]
  have hb23 : Below w2.heap.size w2 w3 := by rw [hw3]; exact (Below.refl _ _).alloc (Nat.le_refl _) _
  have G3 : GS w w3 (some ⟨b, o + k, none⟩) (n - k) (l.drop k) #[.int .i64 2, .bool true, .int .i64 0, .int .i64 0, .int .i64 0, .slice none 0 0] := ⟨r4.under hb23, r7.under hb23, by rw [← s2, hw3]; exact Rec.new w2 _ _, rd2.below (Nat.le_refl _) hb23, (fun b' o' e _ => by injection e with e; injection e with e1 e2; omega), hb2.trans (hb23.mono hb2.size)⟩
  have HS2 := Lib.hid s2
  clear s2 hb23
  obtain ⟨ix, hix⟩ : ∃ v, v = gv (l.drop k) 2 8 := ⟨_, rfl⟩
  obtain ⟨cp, hcp⟩ : ∃ v, v = gv (l.drop k) 10 8 := ⟨_, rfl⟩
  have CC3 := RGetU (some ⟨b, o + k, none⟩) (n - k) (c - k) (l.drop k) 2 8 (by decide) w3 G3.rd (by omega) (by decide)
  rw [← hix] at CC3
  have C3 := Lib.hid CC3
  have z3 := G3.r10.fz 2
  have k3 := G3.r10.at_ 2
  obtain ⟨w4, hw4⟩ : ∃ v, v = w3.setCell ⟨w.heap.size + 2, 2, none⟩ (.int .i64 ix) := ⟨_, rfl⟩
  have G4 : GS w w4 (some ⟨b, o + k, none⟩) (n - k) (l.drop k) #[.int .i64 2, .bool true, .int .i64 ix, .int .i64 0, .int .i64 0, .slice none 0 0] := by have hh := G3.set 2 (.int .i64 ix); rw [hw4]; simpa using hh
  have CC4 := RGetU (some ⟨b, o + k, none⟩) (n - k) (c - k) (l.drop k) 10 8 (by decide) w4 G4.rd (by omega) (by decide)
  rw [← hcp] at CC4
  have C4 := Lib.hid CC4
  have z4 := G4.r10.fz 4
  have k4 := G4.r10.at_ 4
  obtain ⟨w5, hw5⟩ : ∃ v, v = w4.setCell ⟨w.heap.size + 2, 4, none⟩ (.int .i64 cp) := ⟨_, rfl⟩
  have G5 : GS w w5 (some ⟨b, o + k, none⟩) (n - k) (l.drop k) #[.int .i64 2, .bool true, .int .i64 ix, .int .i64 0, .int .i64 cp, .slice none 0 0] := by have hh := G4.set 4 (.int .i64 cp); rw [hw5]; simpa using hh
  have kl3 := G4.r10.at_ 1
  have kL := G3.r10.at_ 1
  have CC5 := RGetU (some ⟨b, o + k, none⟩) (n - k) (c - k) (l.drop k) 18 2 (by decide) w5 G5.rd (by omega) (by decide)
  rw [hq, decide_eq_true (by omega)] at CC5
  have C5 := Lib.hid CC5
  have Hix := Lib.hid hix
  have Hcp := Lib.hid hcp
  have HG3 := Lib.hid G3
  have HG4 := Lib.hid G4
  have HG5 := Lib.hid G5
  clear CC3 CC4 CC5 G3 G4 G5 hix hcp
  clear hq
  have HS1 := Lib.hid s1
  clear hr s1 hb1 hb12 hb2 r4 r7 rd2 h0 h1
  go_enter Try.func31, Try.ntmps31
  go_wp2_with (first
    | (rw [← hw1]; clear hw1)
    | (rw [← hw2, HS1.out]; clear hw2)
    | (rw [← hw3, HS2.out]; clear hw3)
    | (go_at_call 43; have _t := C3; refine C3.out.mono ?_; rintro e w' ⟨rfl, hw'⟩; subst hw'; clear C3)
    | (rw [← hw4]; clear hw4)
    | (go_at_call 43; have _t := C4; refine C4.out.mono ?_; rintro e w' ⟨rfl, hw'⟩; subst hw'; clear C4)
    | (rw [← hw5]; clear hw5)
    | (go_at_call 43; have _t := C5; refine C5.out.mono ?_; rintro e w' ⟨rfl, hw'⟩; subst hw'; clear C5)
    | ((with_reducible refine wpList_ldS cdT rfl rfl (.tmp 7) rfl rfl HG5.out.r7 ?_))
    | ((with_reducible refine wpList_stS (cs' := (Cd.zero.cs none 0 0)) cdT rfl rfl (by simp [Value.oneCell']) rfl (.tmp 4) (.tmp 129) rfl rfl rfl HG5.out.r4 ?_); intro wz hRz hFz))
  refine bodyPost_ret (res_ctt rfl rfl (hRz.load cdT rfl)) rfl ?_
  exact GetE.fault 12 (HG5.out.fin hFz)
end
end Go.Proofs.Ytlinafnhhnkjnaa
namespace Go.Proofs.Ytlinafnhhnkjnaa
open Go.RowKit
set_option linter.unusedVariables false
set_option maxRecDepth 20000

section
variable (n c : Nat) (l : List UInt8) (w : World)
variable (b o k : Nat)

set_option maxHeartbeats 4000000 in
theorem RG_2t_ok (hr : Rd w (some ⟨b, o, none⟩) n l) (hlt : b < w.heap.size) (hn : n ≤ 1000) (hnc : n ≤ c) (hk : k + 2 ≤ n) (h0 : w.cell? ⟨b, o + k, none⟩ = some (.int .u8 2)) (h1 : w.cell? ⟨b, o + k + 1, none⟩ = some (.int .u8 1)) (hs : k + 20 ≤ n) (q : Nat) (hq : gv (l.drop k) 18 2 = (q : Int)) (h64 : q ≤ 64) (hs2 : k + 20 + q ≤ n) (hcap : ¬ c - k = 20) :
    Calls Try.prog 31 #[.slice (some ⟨b, o, none⟩) n c, .int .i64 k] w (GetL (fun y => ∃ o', (some ⟨b, o, none⟩ : Option Addr) = some ⟨y, o', none⟩) w (⟨2, true, gv (l.drop k) 2 8, 0, gv (l.drop k) 10 8, (((l.drop k).drop 20).take q)⟩, (k : Int) + (20 + q : Nat), 0)) := by
  obtain ⟨w1, hw1⟩ : ∃ w1, w1 = w.alloc (.cells (Cd.zero.cs none 0 0) 47) := ⟨_, rfl⟩
  obtain ⟨w2, hw2⟩ : ∃ w2, w2 = w1.alloc (.cells (Cd.zero.cs none 0 0) 47) := ⟨_, rfl⟩
  have s1 : w1.heap.size = w.heap.size + 1 := by rw [hw1]; simp
  have hb1 : Below w.heap.size w w1 := by rw [hw1]; exact (Below.refl _ _).alloc (Nat.le_refl _) _
  have hb12 : Below w1.heap.size w1 w2 := by rw [hw2]; exact (Below.refl _ _).alloc (Nat.le_refl _) _
  have hb2 : Below w.heap.size w w2 := hb1.trans (hb12.mono hb1.size)
  have r4 : Rec 47 w2 w.heap.size (Cd.zero.cs none 0 0) := (show Rec 47 w1 w.heap.size (Cd.zero.cs none 0 0) by rw [hw1]; exact Rec.new w _ _).under hb12
  have r7 : Rec 47 w2 (w.heap.size + 1) (Cd.zero.cs none 0 0) := by rw [← s1, hw2]; exact Rec.new w1 _ _
  have hck : ¬ k = c := by omega
  have q0 : w2.cell? ⟨b, o + k, none⟩ = some (.int .u8 2) := (hb2.cell (p := ⟨b, o + k, none⟩) hlt).trans h0
  have q1 : w2.cell? ⟨b, o + k + 1, none⟩ = some (.int .u8 1) := (hb2.cell (p := ⟨b, o + k + 1, none⟩) hlt).trans h1
  have rd2 : Rd w2 (some ⟨b, o + k, none⟩) (n - k) (l.drop k) := by
    have h := (hr.below (Nat.le_refl _) hb2).part (lo := k) (m := n - k) (by omega) (some ⟨b, o + k, none⟩) (fun _ b' o' e => by injection e with e; injection e with e1 e2; rw [e1, e2])
    rw [List.take_of_length_le (by have := hr.1; simp; omega)] at h
    exact h
  obtain ⟨w3, hw3⟩ : ∃ w3, w3 = w2.alloc (.cells #[.int .i64 2, .bool true, .int .i64 0, .int .i64 0, .int .i64 0, .slice none 0 0] 47) := ⟨_, rfl⟩
  have s2 : w2.heap.size = w.heap.size + 2 := by rw [hw2]; simp [s1]
  have hb23 : Below w2.heap.size w2 w3 := by rw [hw3]; exact (Below.refl _ _).alloc (Nat.le_refl _) _
  have G3 : GS w w3 (some ⟨b, o + k, none⟩) (n - k) (l.drop k) #[.int .i64 2, .bool true, .int .i64 0, .int .i64 0, .int .i64 0, .slice none 0 0] := ⟨r4.under hb23, r7.under hb23, by rw [← s2, hw3]; exact Rec.new w2 _ _, rd2.below (Nat.le_refl _) hb23, (fun b' o' e _ => by injection e with e; injection e with e1 e2; omega), hb2.trans (hb23.mono hb2.size)⟩
  have HS2 := Lib.hid s2
  clear s2 hb23
  obtain ⟨ix, hix⟩ : ∃ v, v = gv (l.drop k) 2 8 := ⟨_, rfl⟩
  obtain ⟨cp, hcp⟩ : ∃ v, v = gv (l.drop k) 10 8 := ⟨_, rfl⟩
  have CC3 := RGetU (some ⟨b, o + k, none⟩) (n - k) (c - k) (l.drop k) 2 8 (by decide) w3 G3.rd (by omega) (by decide)
  rw [← hix] at CC3
  have C3 := Lib.hid CC3
  have z3 := G3.r10.fz 2
  have k3 := G3.r10.at_ 2
  obtain ⟨w4, hw4⟩ : ∃ v, v = w3.setCell ⟨w.heap.size + 2, 2, none⟩ (.int .i64 ix) := ⟨_, rfl⟩
  have G4 : GS w w4 (some ⟨b, o + k, none⟩) (n - k) (l.drop k) #[.int .i64 2, .bool true, .int .i64 ix, .int .i64 0, .int .i64 0, .slice none 0 0] := by have hh := G3.set 2 (.int .i64 ix); rw [hw4]; simpa using hh
  have CC4 := RGetU (some ⟨b, o + k, none⟩) (n - k) (c - k) (l.drop k) 10 8 (by decide) w4 G4.rd (by omega) (by decide)
  rw [← hcp] at CC4
  have C4 := Lib.hid CC4
  have z4 := G4.r10.fz 4
  have k4 := G4.r10.at_ 4
  obtain ⟨w5, hw5⟩ : ∃ v, v = w4.setCell ⟨w.heap.size + 2, 4, none⟩ (.int .i64 cp) := ⟨_, rfl⟩
  have G5 : GS w w5 (some ⟨b, o + k, none⟩) (n - k) (l.drop k) #[.int .i64 2, .bool true, .int .i64 ix, .int .i64 0, .int .i64 cp, .slice none 0 0] := by have hh := G4.set 4 (.int .i64 cp); rw [hw5]; simpa using hh
  have kl3 := G4.r10.at_ 1
  have kL := G3.r10.at_ 1
  have CC5 := RGetU (some ⟨b, o + k, none⟩) (n - k) (c - k) (l.drop k) 18 2 (by decide) w5 G5.rd (by omega) (by decide)
  rw [hq, decide_eq_true (by omega)] at CC5
  have C5 := Lib.hid CC5
  have z5 := G5.r10.fz 5
  have k5 := G5.r10.at_ 5
  obtain ⟨w6, hw6⟩ : ∃ v, v = w5.setCell ⟨w.heap.size + 2, 5, none⟩ (.slice (some ⟨b, o + k + 20, none⟩) q (c - k - 20)) := ⟨_, rfl⟩
  have G6 : GS w w6 (some ⟨b, o + k, none⟩) (n - k) (l.drop k) #[.int .i64 2, .bool true, .int .i64 ix, .int .i64 0, .int .i64 cp, .slice (some ⟨b, o + k + 20, none⟩) q (c - k - 20)] := by have hh := G5.set 5 (.slice (some ⟨b, o + k + 20, none⟩) q (c - k - 20)); rw [hw6]; simpa using hh
  have RDD := Lib.hid (show Rd w6 (some ⟨b, o + k + 20, none⟩) q (((l.drop k).drop 20).take q) by have hp := G6.rd.part (lo := 20) (m := q) (by omega) (some ⟨b, o + k + 20, none⟩) (fun _ b' o' e => by injection e with e; injection e with e1 e2; rw [e1, e2]); exact hp)
  have Hix := Lib.hid hix
  have Hcp := Lib.hid hcp
  have HG3 := Lib.hid G3
  have HG4 := Lib.hid G4
  have HG5 := Lib.hid G5
  have HG6 := Lib.hid G6
  clear CC3 CC4 CC5 G3 G4 G5 G6 hix hcp
  clear hq
  have HS1 := Lib.hid s1
  clear hr s1 hb1 hb12 hb2 r4 r7 rd2 h0 h1
  go_enter Try.func31, Try.ntmps31
  go_wp2_with (first
    | (rw [← hw1]; clear hw1)
    | (rw [← hw2, HS1.out]; clear hw2)
    | (rw [← hw3, HS2.out]; clear hw3)
    | (go_at_call 43; have _t := C3; refine C3.out.mono ?_; rintro e w' ⟨rfl, hw'⟩; subst hw'; clear C3)
    | (rw [← hw4]; clear hw4)
    | (go_at_call 43; have _t := C4; refine C4.out.mono ?_; rintro e w' ⟨rfl, hw'⟩; subst hw'; clear C4)
    | (rw [← hw5]; clear hw5)
    | (go_at_call 43; have _t := C5; refine C5.out.mono ?_; rintro e w' ⟨rfl, hw'⟩; subst hw'; clear C5)
    | (rw [← hw6]; clear hw6)
    | ((with_reducible refine wpList_ldS cdT rfl rfl (.tmp 10) rfl rfl HG6.out.r10 ?_))
    | ((with_reducible refine wpList_stS (cs' := #[.int .i64 2, .bool true, .int .i64 ix, .int .i64 0, .int .i64 cp, .slice (some ⟨b, o + k + 20, none⟩) q (c - k - 20)]) cdT rfl rfl (by simp [Value.oneCell']) rfl (.tmp 4) (.tmp 130) rfl rfl rfl HG6.out.r4 ?_); intro wz hRz hFz))
  refine bodyPost_ret (res_ctt rfl rfl (hRz.load cdT rfl)) rfl ?_
  rw [← Hix.out]
  rw [← Hcp.out]
  exact ⟨some ⟨b, o + k + 20, none⟩, q, c - k - 20, rfl, RDD.out.fr hFz (fun b' o' e hp e' => by injection e with e; injection e with e1 e2; have : b' = w.heap.size := e'; omega), by omega, HG6.out.fin hFz, fun b' o' e _ => by injection e with e; injection e with e1 e2; exact ⟨o, by rw [e1]⟩⟩
end
end Go.Proofs.Ytlinafnhhnkjnaa
