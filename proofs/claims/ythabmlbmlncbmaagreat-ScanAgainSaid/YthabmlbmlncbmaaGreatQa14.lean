/- CdT2g, CdT2t, CdT2u, CdT2v, CdU, FrD -/
import Derived.Test.YthabmlbmlncbmaaGreatQa1
import Derived.Test.YthabmlbmlncbmaaGreatQa7
import Derived.Test.YthabmlbmlncbmaaGreatQa13
namespace Go.Proofs.YthabmlbmlncbmaaGreat
open Go.RowKit
set_option linter.unusedVariables false
set_option maxRecDepth 20000
section
variable (n c : Nat) (l : List UInt8) (w : World)
variable (b o k : Nat)
set_option maxHeartbeats 4000000 in
theorem RG_2f_ok (hr : Rd w (some ⟨b, o, none⟩) n l) (hlt : b < w.heap.size) (hn : n <= 20000) (hnc : n <= c) (hk : k + 2 <= n) (h0 : w.cell? ⟨b, o + k, none⟩ = some (.int .u8 2)) (h1 : w.cell? ⟨b, o + k + 1, none⟩ = some (.int .u8 0)) (hs : k + 28 <= n) (q : Nat) (hq : gv (l.drop k) 26 2 = (q : Int)) (h64 : q <= 64) (hs2 : k + 28 + q <= n) (hcap : ¬ c - k = 28) :
    Calls Tryz.prog 53 #[.slice (some ⟨b, o, none⟩) n c, .int .i64 k] w (GetL (fun y => ∃ o', (some ⟨b, o, none⟩ : Option Addr) = some ⟨y, o', none⟩) w (⟨2, false, gv (l.drop k) 2 8, gv (l.drop k) 10 8, gv (l.drop k) 18 8, (((l.drop k).drop 28).take q)⟩, (k : Int) + (28 + q : Nat), 0)) := by
  obtain ⟨w1, hw1⟩ : ∃ w1, w1 = w.alloc (.cells (Cd.zero.cs none 0 0) 61) := ⟨_, rfl⟩
  obtain ⟨w2, hw2⟩ : ∃ w2, w2 = w1.alloc (.cells (Cd.zero.cs none 0 0) 61) := ⟨_, rfl⟩
  have s1 : w1.heap.size = w.heap.size + 1 := by rw [hw1]; simp
  have hb1 : Below w.heap.size w w1 := by rw [hw1]; exact (Below.refl _ _).alloc (Nat.le_refl _) _
  have hb12 : Below w1.heap.size w1 w2 := by rw [hw2]; exact (Below.refl _ _).alloc (Nat.le_refl _) _
  have hb2 : Below w.heap.size w w2 := hb1.trans (hb12.mono hb1.size)
  have r4 : Rec 61 w2 w.heap.size (Cd.zero.cs none 0 0) := (show Rec 61 w1 w.heap.size (Cd.zero.cs none 0 0) by rw [hw1]; exact Rec.new w _ _).under hb12
  have r7 : Rec 61 w2 (w.heap.size + 1) (Cd.zero.cs none 0 0) := by rw [<- s1, hw2]; exact Rec.new w1 _ _
  have hck : ¬ k = c := by omega
  have q0 : w2.cell? ⟨b, o + k, none⟩ = some (.int .u8 2) := (hb2.cell (p := ⟨b, o + k, none⟩) hlt).trans h0
  have q1 : w2.cell? ⟨b, o + k + 1, none⟩ = some (.int .u8 0) := (hb2.cell (p := ⟨b, o + k + 1, none⟩) hlt).trans h1
  have rd2 : Rd w2 (some ⟨b, o + k, none⟩) (n - k) (l.drop k) := by
    have h := (hr.below (Nat.le_refl _) hb2).part (lo := k) (m := n - k) (by omega) (some ⟨b, o + k, none⟩) (fun _ b' o' e => by injection e with e; injection e with e1 e2; rw [e1, e2])
    rw [List.take_of_length_le (by have := hr.1; simp; omega)] at h
    exact h
  obtain ⟨w3, hw3⟩ : ∃ w3, w3 = w2.alloc (.cells #[.int .i64 2, .bool false, .int .i64 0, .int .i64 0, .int .i64 0, .slice none 0 0] 61) := ⟨_, rfl⟩
  have s2 : w2.heap.size = w.heap.size + 2 := by rw [hw2]; simp [s1]
  have hb23 : Below w2.heap.size w2 w3 := by rw [hw3]; exact (Below.refl _ _).alloc (Nat.le_refl _) _
  have G3 : GS w w3 (some ⟨b, o + k, none⟩) (n - k) (l.drop k) #[.int .i64 2, .bool false, .int .i64 0, .int .i64 0, .int .i64 0, .slice none 0 0] := ⟨r4.under hb23, r7.under hb23, by rw [<- s2, hw3]; exact Rec.new w2 _ _, rd2.below (Nat.le_refl _) hb23, (fun b' o' e _ => by injection e with e; injection e with e1 e2; omega), hb2.trans (hb23.mono hb2.size)⟩
  have HS2 := hi_ s2
  clear s2 hb23
  obtain ⟨ix, hix⟩ : ∃ v, v = gv (l.drop k) 2 8 := ⟨_, rfl⟩
  obtain ⟨gn, hgn⟩ : ∃ v, v = gv (l.drop k) 10 8 := ⟨_, rfl⟩
  obtain ⟨cp, hcp⟩ : ∃ v, v = gv (l.drop k) 18 8 := ⟨_, rfl⟩
  have CC3 := RGetU (some ⟨b, o + k, none⟩) (n - k) (c - k) (l.drop k) 2 8 (by decide) w3 G3.rd (by omega) (by decide)
  rw [<- hix] at CC3
  have C3 := hi_ CC3
  have z3 := G3.r10.fz 2
  have k3 := G3.r10.at_ 2
  obtain ⟨w4, hw4⟩ : ∃ v, v = w3.setCell ⟨w.heap.size + 2, 2, none⟩ (.int .i64 ix) := ⟨_, rfl⟩
  have G4 : GS w w4 (some ⟨b, o + k, none⟩) (n - k) (l.drop k) #[.int .i64 2, .bool false, .int .i64 ix, .int .i64 0, .int .i64 0, .slice none 0 0] := by have hh := G3.set 2 (.int .i64 ix); rw [hw4]; simpa using hh
  have CC4 := RGetU (some ⟨b, o + k, none⟩) (n - k) (c - k) (l.drop k) 10 8 (by decide) w4 G4.rd (by omega) (by decide)
  rw [<- hgn] at CC4
  have C4 := hi_ CC4
  have z4 := G4.r10.fz 3
  have k4 := G4.r10.at_ 3
  obtain ⟨w5, hw5⟩ : ∃ v, v = w4.setCell ⟨w.heap.size + 2, 3, none⟩ (.int .i64 gn) := ⟨_, rfl⟩
  have G5 : GS w w5 (some ⟨b, o + k, none⟩) (n - k) (l.drop k) #[.int .i64 2, .bool false, .int .i64 ix, .int .i64 gn, .int .i64 0, .slice none 0 0] := by have hh := G4.set 3 (.int .i64 gn); rw [hw5]; simpa using hh
  have CC5 := RGetU (some ⟨b, o + k, none⟩) (n - k) (c - k) (l.drop k) 18 8 (by decide) w5 G5.rd (by omega) (by decide)
  rw [<- hcp] at CC5
  have C5 := hi_ CC5
  have z5 := G5.r10.fz 4
  have k5 := G5.r10.at_ 4
  obtain ⟨w6, hw6⟩ : ∃ v, v = w5.setCell ⟨w.heap.size + 2, 4, none⟩ (.int .i64 cp) := ⟨_, rfl⟩
  have G6 : GS w w6 (some ⟨b, o + k, none⟩) (n - k) (l.drop k) #[.int .i64 2, .bool false, .int .i64 ix, .int .i64 gn, .int .i64 cp, .slice none 0 0] := by have hh := G5.set 4 (.int .i64 cp); rw [hw6]; simpa using hh
  have kl := G4.r10.at_ 1
  have kL := G3.r10.at_ 1
  have CC6 := RGetU (some ⟨b, o + k, none⟩) (n - k) (c - k) (l.drop k) 26 2 (by decide) w6 G6.rd (by omega) (by decide)
  rw [hq, decide_eq_true (by omega)] at CC6
  have C6 := hi_ CC6
  have z6 := G6.r10.fz 5
  have k6 := G6.r10.at_ 5
  obtain ⟨w7, hw7⟩ : ∃ v, v = w6.setCell ⟨w.heap.size + 2, 5, none⟩ (.slice (some ⟨b, o + k + 28, none⟩) q (c - k - 28)) := ⟨_, rfl⟩
  have G7 : GS w w7 (some ⟨b, o + k, none⟩) (n - k) (l.drop k) #[.int .i64 2, .bool false, .int .i64 ix, .int .i64 gn, .int .i64 cp, .slice (some ⟨b, o + k + 28, none⟩) q (c - k - 28)] := by have hh := G6.set 5 (.slice (some ⟨b, o + k + 28, none⟩) q (c - k - 28)); rw [hw7]; simpa using hh
  have RDD := hi_ (show Rd w7 (some ⟨b, o + k + 28, none⟩) q (((l.drop k).drop 28).take q) by have hp := G7.rd.part (lo := 28) (m := q) (by omega) (some ⟨b, o + k + 28, none⟩) (fun _ b' o' e => by injection e with e; injection e with e1 e2; rw [e1, e2]); exact hp)
  have Hix := hi_ hix
  have Hgn := hi_ hgn
  have Hcp := hi_ hcp
  have HG3 := hi_ G3
  have HG4 := hi_ G4
  have HG5 := hi_ G5
  have HG6 := hi_ G6
  have HG7 := hi_ G7
  clear CC3 CC4 CC5 CC6 G3 G4 G5 G6 G7 hix hgn hcp
  clear hq
  have HS1 := hi_ s1
  clear hr s1 hb1 hb12 hb2 r4 r7 rd2 h0 h1
  go_enter Tryz.func53, Tryz.ntmps53
  go_wp2_with (first
    | (rw [<- hw1]; clear hw1)
    | (rw [<- hw2, HS1.out]; clear hw2)
    | (rw [<- hw3, HS2.out]; clear hw3)
    | (go_at_call 50; have _t := C3; refine C3.out.mono ?_; rintro e w' ⟨rfl, hw'⟩; subst hw'; clear C3)
    | (rw [<- hw4]; clear hw4)
    | (go_at_call 50; have _t := C4; refine C4.out.mono ?_; rintro e w' ⟨rfl, hw'⟩; subst hw'; clear C4)
    | (rw [<- hw5]; clear hw5)
    | (go_at_call 50; have _t := C5; refine C5.out.mono ?_; rintro e w' ⟨rfl, hw'⟩; subst hw'; clear C5)
    | (rw [<- hw6]; clear hw6)
    | (go_at_call 50; have _t := C6; refine C6.out.mono ?_; rintro e w' ⟨rfl, hw'⟩; subst hw'; clear C6)
    | (rw [<- hw7]; clear hw7)
    | ((with_reducible refine wpList_ldS cdT rfl rfl (.tmp 10) rfl rfl HG7.out.r10 ?_))
    | ((with_reducible refine wpList_stS (cs' := #[.int .i64 2, .bool false, .int .i64 ix, .int .i64 gn, .int .i64 cp, .slice (some ⟨b, o + k + 28, none⟩) q (c - k - 28)]) cdT rfl rfl (by simp [Value.oneCell']) rfl (.tmp 4) (.tmp 130) rfl rfl rfl HG7.out.r4 ?_); intro wz hRz hFz))
  refine bodyPost_ret (res_ctt rfl rfl (hRz.load cdT rfl)) rfl ?_
  rw [<- Hix.out]
  rw [<- Hgn.out]
  rw [<- Hcp.out]
  exact ⟨some ⟨b, o + k + 28, none⟩, q, c - k - 28, rfl, RDD.out.fr hFz (fun b' o' e hp e' => by injection e with e; injection e with e1 e2; have : b' = w.heap.size := e'; omega), by omega, HG7.out.fin hFz, fun b' o' e _ => by injection e with e; injection e with e1 e2; exact ⟨o, by rw [e1]⟩⟩
end
end Go.Proofs.YthabmlbmlncbmaaGreat
namespace Go.Proofs.YthabmlbmlncbmaaGreat
open Go.RowKit
set_option linter.unusedVariables false
set_option maxRecDepth 20000
section
variable (n c : Nat) (l : List UInt8) (w : World)
variable (b o k : Nat)
set_option maxHeartbeats 4000000 in
theorem RG_2t_long (hr : Rd w (some ⟨b, o, none⟩) n l) (hlt : b < w.heap.size) (hn : n <= 20000) (hnc : n <= c) (hk : k + 2 <= n) (h0 : w.cell? ⟨b, o + k, none⟩ = some (.int .u8 2)) (h1 : w.cell? ⟨b, o + k + 1, none⟩ = some (.int .u8 1)) (hs : k + 20 <= n) (q : Nat) (hq : gv (l.drop k) 18 2 = (q : Int)) (h64 : 64 < q) :
    Calls Tryz.prog 53 #[.slice (some ⟨b, o, none⟩) n c, .int .i64 k] w (GetL (fun y => ∃ o', (some ⟨b, o, none⟩ : Option Addr) = some ⟨y, o', none⟩) w (Cd.zero, 0, 13)) := by
  obtain ⟨w1, hw1⟩ : ∃ w1, w1 = w.alloc (.cells (Cd.zero.cs none 0 0) 61) := ⟨_, rfl⟩
  obtain ⟨w2, hw2⟩ : ∃ w2, w2 = w1.alloc (.cells (Cd.zero.cs none 0 0) 61) := ⟨_, rfl⟩
  have s1 : w1.heap.size = w.heap.size + 1 := by rw [hw1]; simp
  have hb1 : Below w.heap.size w w1 := by rw [hw1]; exact (Below.refl _ _).alloc (Nat.le_refl _) _
  have hb12 : Below w1.heap.size w1 w2 := by rw [hw2]; exact (Below.refl _ _).alloc (Nat.le_refl _) _
  have hb2 : Below w.heap.size w w2 := hb1.trans (hb12.mono hb1.size)
  have r4 : Rec 61 w2 w.heap.size (Cd.zero.cs none 0 0) := (show Rec 61 w1 w.heap.size (Cd.zero.cs none 0 0) by rw [hw1]; exact Rec.new w _ _).under hb12
  have r7 : Rec 61 w2 (w.heap.size + 1) (Cd.zero.cs none 0 0) := by rw [<- s1, hw2]; exact Rec.new w1 _ _
  have hck : ¬ k = c := by omega
  have q0 : w2.cell? ⟨b, o + k, none⟩ = some (.int .u8 2) := (hb2.cell (p := ⟨b, o + k, none⟩) hlt).trans h0
  have q1 : w2.cell? ⟨b, o + k + 1, none⟩ = some (.int .u8 1) := (hb2.cell (p := ⟨b, o + k + 1, none⟩) hlt).trans h1
  have rd2 : Rd w2 (some ⟨b, o + k, none⟩) (n - k) (l.drop k) := by
    have h := (hr.below (Nat.le_refl _) hb2).part (lo := k) (m := n - k) (by omega) (some ⟨b, o + k, none⟩) (fun _ b' o' e => by injection e with e; injection e with e1 e2; rw [e1, e2])
    rw [List.take_of_length_le (by have := hr.1; simp; omega)] at h
    exact h
  obtain ⟨w3, hw3⟩ : ∃ w3, w3 = w2.alloc (.cells #[.int .i64 2, .bool true, .int .i64 0, .int .i64 0, .int .i64 0, .slice none 0 0] 61) := ⟨_, rfl⟩
  have s2 : w2.heap.size = w.heap.size + 2 := by rw [hw2]; simp [s1]
  have hb23 : Below w2.heap.size w2 w3 := by rw [hw3]; exact (Below.refl _ _).alloc (Nat.le_refl _) _
  have G3 : GS w w3 (some ⟨b, o + k, none⟩) (n - k) (l.drop k) #[.int .i64 2, .bool true, .int .i64 0, .int .i64 0, .int .i64 0, .slice none 0 0] := ⟨r4.under hb23, r7.under hb23, by rw [<- s2, hw3]; exact Rec.new w2 _ _, rd2.below (Nat.le_refl _) hb23, (fun b' o' e _ => by injection e with e; injection e with e1 e2; omega), hb2.trans (hb23.mono hb2.size)⟩
  have HS2 := hi_ s2
  clear s2 hb23
  obtain ⟨ix, hix⟩ : ∃ v, v = gv (l.drop k) 2 8 := ⟨_, rfl⟩
  obtain ⟨cp, hcp⟩ : ∃ v, v = gv (l.drop k) 10 8 := ⟨_, rfl⟩
  have CC3 := RGetU (some ⟨b, o + k, none⟩) (n - k) (c - k) (l.drop k) 2 8 (by decide) w3 G3.rd (by omega) (by decide)
  rw [<- hix] at CC3
  have C3 := hi_ CC3
  have z3 := G3.r10.fz 2
  have k3 := G3.r10.at_ 2
  obtain ⟨w4, hw4⟩ : ∃ v, v = w3.setCell ⟨w.heap.size + 2, 2, none⟩ (.int .i64 ix) := ⟨_, rfl⟩
  have G4 : GS w w4 (some ⟨b, o + k, none⟩) (n - k) (l.drop k) #[.int .i64 2, .bool true, .int .i64 ix, .int .i64 0, .int .i64 0, .slice none 0 0] := by have hh := G3.set 2 (.int .i64 ix); rw [hw4]; simpa using hh
  have CC4 := RGetU (some ⟨b, o + k, none⟩) (n - k) (c - k) (l.drop k) 10 8 (by decide) w4 G4.rd (by omega) (by decide)
  rw [<- hcp] at CC4
  have C4 := hi_ CC4
  have z4 := G4.r10.fz 4
  have k4 := G4.r10.at_ 4
  obtain ⟨w5, hw5⟩ : ∃ v, v = w4.setCell ⟨w.heap.size + 2, 4, none⟩ (.int .i64 cp) := ⟨_, rfl⟩
  have G5 : GS w w5 (some ⟨b, o + k, none⟩) (n - k) (l.drop k) #[.int .i64 2, .bool true, .int .i64 ix, .int .i64 0, .int .i64 cp, .slice none 0 0] := by have hh := G4.set 4 (.int .i64 cp); rw [hw5]; simpa using hh
  have kl3 := G4.r10.at_ 1
  have kL := G3.r10.at_ 1
  have CC5 := RGetU (some ⟨b, o + k, none⟩) (n - k) (c - k) (l.drop k) 18 2 (by decide) w5 G5.rd (by omega) (by decide)
  rw [hq, decide_eq_true (by omega)] at CC5
  have C5 := hi_ CC5
  have Hix := hi_ hix
  have Hcp := hi_ hcp
  have HG3 := hi_ G3
  have HG4 := hi_ G4
  have HG5 := hi_ G5
  clear CC3 CC4 CC5 G3 G4 G5 hix hcp
  clear hq
  have HS1 := hi_ s1
  clear hr s1 hb1 hb12 hb2 r4 r7 rd2 h0 h1
  go_enter Tryz.func53, Tryz.ntmps53
  go_wp2_with (first
    | (rw [<- hw1]; clear hw1)
    | (rw [<- hw2, HS1.out]; clear hw2)
    | (rw [<- hw3, HS2.out]; clear hw3)
    | (go_at_call 50; have _t := C3; refine C3.out.mono ?_; rintro e w' ⟨rfl, hw'⟩; subst hw'; clear C3)
    | (rw [<- hw4]; clear hw4)
    | (go_at_call 50; have _t := C4; refine C4.out.mono ?_; rintro e w' ⟨rfl, hw'⟩; subst hw'; clear C4)
    | (rw [<- hw5]; clear hw5)
    | (go_at_call 50; have _t := C5; refine C5.out.mono ?_; rintro e w' ⟨rfl, hw'⟩; subst hw'; clear C5)
    | ((with_reducible refine wpList_ldS cdT rfl rfl (.tmp 7) rfl rfl HG5.out.r7 ?_))
    | ((with_reducible refine wpList_stS (cs' := (Cd.zero.cs none 0 0)) cdT rfl rfl (by simp [Value.oneCell']) rfl (.tmp 4) (.tmp 105) rfl rfl rfl HG5.out.r4 ?_); intro wz hRz hFz))
  refine bodyPost_ret (res_ctt rfl rfl (hRz.load cdT rfl)) rfl ?_
  exact GetE.fault 13 (HG5.out.fin hFz)
set_option maxHeartbeats 4000000 in
theorem RG_2t_short (hr : Rd w (some ⟨b, o, none⟩) n l) (hlt : b < w.heap.size) (hn : n <= 20000) (hnc : n <= c) (hk : k + 2 <= n) (h0 : w.cell? ⟨b, o + k, none⟩ = some (.int .u8 2)) (h1 : w.cell? ⟨b, o + k + 1, none⟩ = some (.int .u8 1)) (hs : k + 20 <= n) (q : Nat) (hq : gv (l.drop k) 18 2 = (q : Int)) (h64 : q <= 64) (hs2 : n < k + 20 + q) :
    Calls Tryz.prog 53 #[.slice (some ⟨b, o, none⟩) n c, .int .i64 k] w (GetL (fun y => ∃ o', (some ⟨b, o, none⟩ : Option Addr) = some ⟨y, o', none⟩) w (Cd.zero, 0, 12)) := by
  obtain ⟨w1, hw1⟩ : ∃ w1, w1 = w.alloc (.cells (Cd.zero.cs none 0 0) 61) := ⟨_, rfl⟩
  obtain ⟨w2, hw2⟩ : ∃ w2, w2 = w1.alloc (.cells (Cd.zero.cs none 0 0) 61) := ⟨_, rfl⟩
  have s1 : w1.heap.size = w.heap.size + 1 := by rw [hw1]; simp
  have hb1 : Below w.heap.size w w1 := by rw [hw1]; exact (Below.refl _ _).alloc (Nat.le_refl _) _
  have hb12 : Below w1.heap.size w1 w2 := by rw [hw2]; exact (Below.refl _ _).alloc (Nat.le_refl _) _
  have hb2 : Below w.heap.size w w2 := hb1.trans (hb12.mono hb1.size)
  have r4 : Rec 61 w2 w.heap.size (Cd.zero.cs none 0 0) := (show Rec 61 w1 w.heap.size (Cd.zero.cs none 0 0) by rw [hw1]; exact Rec.new w _ _).under hb12
  have r7 : Rec 61 w2 (w.heap.size + 1) (Cd.zero.cs none 0 0) := by rw [<- s1, hw2]; exact Rec.new w1 _ _
  have hck : ¬ k = c := by omega
  have q0 : w2.cell? ⟨b, o + k, none⟩ = some (.int .u8 2) := (hb2.cell (p := ⟨b, o + k, none⟩) hlt).trans h0
  have q1 : w2.cell? ⟨b, o + k + 1, none⟩ = some (.int .u8 1) := (hb2.cell (p := ⟨b, o + k + 1, none⟩) hlt).trans h1
  have rd2 : Rd w2 (some ⟨b, o + k, none⟩) (n - k) (l.drop k) := by
    have h := (hr.below (Nat.le_refl _) hb2).part (lo := k) (m := n - k) (by omega) (some ⟨b, o + k, none⟩) (fun _ b' o' e => by injection e with e; injection e with e1 e2; rw [e1, e2])
    rw [List.take_of_length_le (by have := hr.1; simp; omega)] at h
    exact h
  obtain ⟨w3, hw3⟩ : ∃ w3, w3 = w2.alloc (.cells #[.int .i64 2, .bool true, .int .i64 0, .int .i64 0, .int .i64 0, .slice none 0 0] 61) := ⟨_, rfl⟩
  have s2 : w2.heap.size = w.heap.size + 2 := by rw [hw2]; simp [s1]
  have hb23 : Below w2.heap.size w2 w3 := by rw [hw3]; exact (Below.refl _ _).alloc (Nat.le_refl _) _
  have G3 : GS w w3 (some ⟨b, o + k, none⟩) (n - k) (l.drop k) #[.int .i64 2, .bool true, .int .i64 0, .int .i64 0, .int .i64 0, .slice none 0 0] := ⟨r4.under hb23, r7.under hb23, by rw [<- s2, hw3]; exact Rec.new w2 _ _, rd2.below (Nat.le_refl _) hb23, (fun b' o' e _ => by injection e with e; injection e with e1 e2; omega), hb2.trans (hb23.mono hb2.size)⟩
  have HS2 := hi_ s2
  clear s2 hb23
  obtain ⟨ix, hix⟩ : ∃ v, v = gv (l.drop k) 2 8 := ⟨_, rfl⟩
  obtain ⟨cp, hcp⟩ : ∃ v, v = gv (l.drop k) 10 8 := ⟨_, rfl⟩
  have CC3 := RGetU (some ⟨b, o + k, none⟩) (n - k) (c - k) (l.drop k) 2 8 (by decide) w3 G3.rd (by omega) (by decide)
  rw [<- hix] at CC3
  have C3 := hi_ CC3
  have z3 := G3.r10.fz 2
  have k3 := G3.r10.at_ 2
  obtain ⟨w4, hw4⟩ : ∃ v, v = w3.setCell ⟨w.heap.size + 2, 2, none⟩ (.int .i64 ix) := ⟨_, rfl⟩
  have G4 : GS w w4 (some ⟨b, o + k, none⟩) (n - k) (l.drop k) #[.int .i64 2, .bool true, .int .i64 ix, .int .i64 0, .int .i64 0, .slice none 0 0] := by have hh := G3.set 2 (.int .i64 ix); rw [hw4]; simpa using hh
  have CC4 := RGetU (some ⟨b, o + k, none⟩) (n - k) (c - k) (l.drop k) 10 8 (by decide) w4 G4.rd (by omega) (by decide)
  rw [<- hcp] at CC4
  have C4 := hi_ CC4
  have z4 := G4.r10.fz 4
  have k4 := G4.r10.at_ 4
  obtain ⟨w5, hw5⟩ : ∃ v, v = w4.setCell ⟨w.heap.size + 2, 4, none⟩ (.int .i64 cp) := ⟨_, rfl⟩
  have G5 : GS w w5 (some ⟨b, o + k, none⟩) (n - k) (l.drop k) #[.int .i64 2, .bool true, .int .i64 ix, .int .i64 0, .int .i64 cp, .slice none 0 0] := by have hh := G4.set 4 (.int .i64 cp); rw [hw5]; simpa using hh
  have kl3 := G4.r10.at_ 1
  have kL := G3.r10.at_ 1
  have CC5 := RGetU (some ⟨b, o + k, none⟩) (n - k) (c - k) (l.drop k) 18 2 (by decide) w5 G5.rd (by omega) (by decide)
  rw [hq, decide_eq_true (by omega)] at CC5
  have C5 := hi_ CC5
  have Hix := hi_ hix
  have Hcp := hi_ hcp
  have HG3 := hi_ G3
  have HG4 := hi_ G4
  have HG5 := hi_ G5
  clear CC3 CC4 CC5 G3 G4 G5 hix hcp
  clear hq
  have HS1 := hi_ s1
  clear hr s1 hb1 hb12 hb2 r4 r7 rd2 h0 h1
  go_enter Tryz.func53, Tryz.ntmps53
  go_wp2_with (first
    | (rw [<- hw1]; clear hw1)
    | (rw [<- hw2, HS1.out]; clear hw2)
    | (rw [<- hw3, HS2.out]; clear hw3)
    | (go_at_call 50; have _t := C3; refine C3.out.mono ?_; rintro e w' ⟨rfl, hw'⟩; subst hw'; clear C3)
    | (rw [<- hw4]; clear hw4)
    | (go_at_call 50; have _t := C4; refine C4.out.mono ?_; rintro e w' ⟨rfl, hw'⟩; subst hw'; clear C4)
    | (rw [<- hw5]; clear hw5)
    | (go_at_call 50; have _t := C5; refine C5.out.mono ?_; rintro e w' ⟨rfl, hw'⟩; subst hw'; clear C5)
    | ((with_reducible refine wpList_ldS cdT rfl rfl (.tmp 7) rfl rfl HG5.out.r7 ?_))
    | ((with_reducible refine wpList_stS (cs' := (Cd.zero.cs none 0 0)) cdT rfl rfl (by simp [Value.oneCell']) rfl (.tmp 4) (.tmp 129) rfl rfl rfl HG5.out.r4 ?_); intro wz hRz hFz))
  refine bodyPost_ret (res_ctt rfl rfl (hRz.load cdT rfl)) rfl ?_
  exact GetE.fault 12 (HG5.out.fin hFz)
end
end Go.Proofs.YthabmlbmlncbmaaGreat
namespace Go.Proofs.YthabmlbmlncbmaaGreat
open Go.RowKit
set_option linter.unusedVariables false
set_option maxRecDepth 20000
section
variable (n c : Nat) (l : List UInt8) (w : World)
variable (b o k : Nat)
set_option maxHeartbeats 4000000 in
theorem RG_2t_ok (hr : Rd w (some ⟨b, o, none⟩) n l) (hlt : b < w.heap.size) (hn : n <= 20000) (hnc : n <= c) (hk : k + 2 <= n) (h0 : w.cell? ⟨b, o + k, none⟩ = some (.int .u8 2)) (h1 : w.cell? ⟨b, o + k + 1, none⟩ = some (.int .u8 1)) (hs : k + 20 <= n) (q : Nat) (hq : gv (l.drop k) 18 2 = (q : Int)) (h64 : q <= 64) (hs2 : k + 20 + q <= n) (hcap : ¬ c - k = 20) :
    Calls Tryz.prog 53 #[.slice (some ⟨b, o, none⟩) n c, .int .i64 k] w (GetL (fun y => ∃ o', (some ⟨b, o, none⟩ : Option Addr) = some ⟨y, o', none⟩) w (⟨2, true, gv (l.drop k) 2 8, 0, gv (l.drop k) 10 8, (((l.drop k).drop 20).take q)⟩, (k : Int) + (20 + q : Nat), 0)) := by
  obtain ⟨w1, hw1⟩ : ∃ w1, w1 = w.alloc (.cells (Cd.zero.cs none 0 0) 61) := ⟨_, rfl⟩
  obtain ⟨w2, hw2⟩ : ∃ w2, w2 = w1.alloc (.cells (Cd.zero.cs none 0 0) 61) := ⟨_, rfl⟩
  have s1 : w1.heap.size = w.heap.size + 1 := by rw [hw1]; simp
  have hb1 : Below w.heap.size w w1 := by rw [hw1]; exact (Below.refl _ _).alloc (Nat.le_refl _) _
  have hb12 : Below w1.heap.size w1 w2 := by rw [hw2]; exact (Below.refl _ _).alloc (Nat.le_refl _) _
  have hb2 : Below w.heap.size w w2 := hb1.trans (hb12.mono hb1.size)
  have r4 : Rec 61 w2 w.heap.size (Cd.zero.cs none 0 0) := (show Rec 61 w1 w.heap.size (Cd.zero.cs none 0 0) by rw [hw1]; exact Rec.new w _ _).under hb12
  have r7 : Rec 61 w2 (w.heap.size + 1) (Cd.zero.cs none 0 0) := by rw [<- s1, hw2]; exact Rec.new w1 _ _
  have hck : ¬ k = c := by omega
  have q0 : w2.cell? ⟨b, o + k, none⟩ = some (.int .u8 2) := (hb2.cell (p := ⟨b, o + k, none⟩) hlt).trans h0
  have q1 : w2.cell? ⟨b, o + k + 1, none⟩ = some (.int .u8 1) := (hb2.cell (p := ⟨b, o + k + 1, none⟩) hlt).trans h1
  have rd2 : Rd w2 (some ⟨b, o + k, none⟩) (n - k) (l.drop k) := by
    have h := (hr.below (Nat.le_refl _) hb2).part (lo := k) (m := n - k) (by omega) (some ⟨b, o + k, none⟩) (fun _ b' o' e => by injection e with e; injection e with e1 e2; rw [e1, e2])
    rw [List.take_of_length_le (by have := hr.1; simp; omega)] at h
    exact h
  obtain ⟨w3, hw3⟩ : ∃ w3, w3 = w2.alloc (.cells #[.int .i64 2, .bool true, .int .i64 0, .int .i64 0, .int .i64 0, .slice none 0 0] 61) := ⟨_, rfl⟩
  have s2 : w2.heap.size = w.heap.size + 2 := by rw [hw2]; simp [s1]
  have hb23 : Below w2.heap.size w2 w3 := by rw [hw3]; exact (Below.refl _ _).alloc (Nat.le_refl _) _
  have G3 : GS w w3 (some ⟨b, o + k, none⟩) (n - k) (l.drop k) #[.int .i64 2, .bool true, .int .i64 0, .int .i64 0, .int .i64 0, .slice none 0 0] := ⟨r4.under hb23, r7.under hb23, by rw [<- s2, hw3]; exact Rec.new w2 _ _, rd2.below (Nat.le_refl _) hb23, (fun b' o' e _ => by injection e with e; injection e with e1 e2; omega), hb2.trans (hb23.mono hb2.size)⟩
  have HS2 := hi_ s2
  clear s2 hb23
  obtain ⟨ix, hix⟩ : ∃ v, v = gv (l.drop k) 2 8 := ⟨_, rfl⟩
  obtain ⟨cp, hcp⟩ : ∃ v, v = gv (l.drop k) 10 8 := ⟨_, rfl⟩
  have CC3 := RGetU (some ⟨b, o + k, none⟩) (n - k) (c - k) (l.drop k) 2 8 (by decide) w3 G3.rd (by omega) (by decide)
  rw [<- hix] at CC3
  have C3 := hi_ CC3
  have z3 := G3.r10.fz 2
  have k3 := G3.r10.at_ 2
  obtain ⟨w4, hw4⟩ : ∃ v, v = w3.setCell ⟨w.heap.size + 2, 2, none⟩ (.int .i64 ix) := ⟨_, rfl⟩
  have G4 : GS w w4 (some ⟨b, o + k, none⟩) (n - k) (l.drop k) #[.int .i64 2, .bool true, .int .i64 ix, .int .i64 0, .int .i64 0, .slice none 0 0] := by have hh := G3.set 2 (.int .i64 ix); rw [hw4]; simpa using hh
  have CC4 := RGetU (some ⟨b, o + k, none⟩) (n - k) (c - k) (l.drop k) 10 8 (by decide) w4 G4.rd (by omega) (by decide)
  rw [<- hcp] at CC4
  have C4 := hi_ CC4
  have z4 := G4.r10.fz 4
  have k4 := G4.r10.at_ 4
  obtain ⟨w5, hw5⟩ : ∃ v, v = w4.setCell ⟨w.heap.size + 2, 4, none⟩ (.int .i64 cp) := ⟨_, rfl⟩
  have G5 : GS w w5 (some ⟨b, o + k, none⟩) (n - k) (l.drop k) #[.int .i64 2, .bool true, .int .i64 ix, .int .i64 0, .int .i64 cp, .slice none 0 0] := by have hh := G4.set 4 (.int .i64 cp); rw [hw5]; simpa using hh
  have kl3 := G4.r10.at_ 1
  have kL := G3.r10.at_ 1
  have CC5 := RGetU (some ⟨b, o + k, none⟩) (n - k) (c - k) (l.drop k) 18 2 (by decide) w5 G5.rd (by omega) (by decide)
  rw [hq, decide_eq_true (by omega)] at CC5
  have C5 := hi_ CC5
  have z5 := G5.r10.fz 5
  have k5 := G5.r10.at_ 5
  obtain ⟨w6, hw6⟩ : ∃ v, v = w5.setCell ⟨w.heap.size + 2, 5, none⟩ (.slice (some ⟨b, o + k + 20, none⟩) q (c - k - 20)) := ⟨_, rfl⟩
  have G6 : GS w w6 (some ⟨b, o + k, none⟩) (n - k) (l.drop k) #[.int .i64 2, .bool true, .int .i64 ix, .int .i64 0, .int .i64 cp, .slice (some ⟨b, o + k + 20, none⟩) q (c - k - 20)] := by have hh := G5.set 5 (.slice (some ⟨b, o + k + 20, none⟩) q (c - k - 20)); rw [hw6]; simpa using hh
  have RDD := hi_ (show Rd w6 (some ⟨b, o + k + 20, none⟩) q (((l.drop k).drop 20).take q) by have hp := G6.rd.part (lo := 20) (m := q) (by omega) (some ⟨b, o + k + 20, none⟩) (fun _ b' o' e => by injection e with e; injection e with e1 e2; rw [e1, e2]); exact hp)
  have Hix := hi_ hix
  have Hcp := hi_ hcp
  have HG3 := hi_ G3
  have HG4 := hi_ G4
  have HG5 := hi_ G5
  have HG6 := hi_ G6
  clear CC3 CC4 CC5 G3 G4 G5 G6 hix hcp
  clear hq
  have HS1 := hi_ s1
  clear hr s1 hb1 hb12 hb2 r4 r7 rd2 h0 h1
  go_enter Tryz.func53, Tryz.ntmps53
  go_wp2_with (first
    | (rw [<- hw1]; clear hw1)
    | (rw [<- hw2, HS1.out]; clear hw2)
    | (rw [<- hw3, HS2.out]; clear hw3)
    | (go_at_call 50; have _t := C3; refine C3.out.mono ?_; rintro e w' ⟨rfl, hw'⟩; subst hw'; clear C3)
    | (rw [<- hw4]; clear hw4)
    | (go_at_call 50; have _t := C4; refine C4.out.mono ?_; rintro e w' ⟨rfl, hw'⟩; subst hw'; clear C4)
    | (rw [<- hw5]; clear hw5)
    | (go_at_call 50; have _t := C5; refine C5.out.mono ?_; rintro e w' ⟨rfl, hw'⟩; subst hw'; clear C5)
    | (rw [<- hw6]; clear hw6)
    | ((with_reducible refine wpList_ldS cdT rfl rfl (.tmp 10) rfl rfl HG6.out.r10 ?_))
    | ((with_reducible refine wpList_stS (cs' := #[.int .i64 2, .bool true, .int .i64 ix, .int .i64 0, .int .i64 cp, .slice (some ⟨b, o + k + 20, none⟩) q (c - k - 20)]) cdT rfl rfl (by simp [Value.oneCell']) rfl (.tmp 4) (.tmp 130) rfl rfl rfl HG6.out.r4 ?_); intro wz hRz hFz))
  refine bodyPost_ret (res_ctt rfl rfl (hRz.load cdT rfl)) rfl ?_
  rw [<- Hix.out]
  rw [<- Hcp.out]
  exact ⟨some ⟨b, o + k + 20, none⟩, q, c - k - 20, rfl, RDD.out.fr hFz (fun b' o' e hp e' => by injection e with e; injection e with e1 e2; have : b' = w.heap.size := e'; omega), by omega, HG6.out.fin hFz, fun b' o' e _ => by injection e with e; injection e with e1 e2; exact ⟨o, by rw [e1]⟩⟩
end
end Go.Proofs.YthabmlbmlncbmaaGreat
namespace Go.Proofs.YthabmlbmlncbmaaGreat
open Go.RowKit
set_option linter.unusedVariables false
set_option maxRecDepth 20000
section
variable (n c : Nat) (l : List UInt8) (w : World)
variable (b o k : Nat)
set_option maxHeartbeats 4000000 in
theorem RG_2f_okc (hr : Rd w (some ⟨b, o, none⟩) (k + 28) l) (hlt : b < w.heap.size) (hn : k + 28 <= 20000) (h0 : w.cell? ⟨b, o + k, none⟩ = some (.int .u8 2)) (h1 : w.cell? ⟨b, o + k + 1, none⟩ = some (.int .u8 0)) (hq : gv (l.drop k) 26 2 = 0) :
    Calls Tryz.prog 53 #[.slice (some ⟨b, o, none⟩) (k + 28) (k + 28), .int .i64 k] w (GetL (fun y => ∃ o', (some ⟨b, o, none⟩ : Option Addr) = some ⟨y, o', none⟩) w (⟨2, false, gv (l.drop k) 2 8, gv (l.drop k) 10 8, gv (l.drop k) 18 8, []⟩, (k : Int) + 28, 0)) := by
  obtain ⟨w1, hw1⟩ : ∃ w1, w1 = w.alloc (.cells (Cd.zero.cs none 0 0) 61) := ⟨_, rfl⟩
  obtain ⟨w2, hw2⟩ : ∃ w2, w2 = w1.alloc (.cells (Cd.zero.cs none 0 0) 61) := ⟨_, rfl⟩
  have s1 : w1.heap.size = w.heap.size + 1 := by rw [hw1]; simp
  have hb1 : Below w.heap.size w w1 := by rw [hw1]; exact (Below.refl _ _).alloc (Nat.le_refl _) _
  have hb12 : Below w1.heap.size w1 w2 := by rw [hw2]; exact (Below.refl _ _).alloc (Nat.le_refl _) _
  have hb2 : Below w.heap.size w w2 := hb1.trans (hb12.mono hb1.size)
  have r4 : Rec 61 w2 w.heap.size (Cd.zero.cs none 0 0) := (show Rec 61 w1 w.heap.size (Cd.zero.cs none 0 0) by rw [hw1]; exact Rec.new w _ _).under hb12
  have r7 : Rec 61 w2 (w.heap.size + 1) (Cd.zero.cs none 0 0) := by rw [<- s1, hw2]; exact Rec.new w1 _ _
  have q0 : w2.cell? ⟨b, o + k, none⟩ = some (.int .u8 2) := (hb2.cell (p := ⟨b, o + k, none⟩) hlt).trans h0
  have q1 : w2.cell? ⟨b, o + k + 1, none⟩ = some (.int .u8 0) := (hb2.cell (p := ⟨b, o + k + 1, none⟩) hlt).trans h1
  have rd2 : Rd w2 (some ⟨b, o + k, none⟩) 28 (l.drop k) := by
    have h := (hr.below (Nat.le_refl _) hb2).part (lo := k) (m := 28) (by omega) (some ⟨b, o + k, none⟩) (fun _ b' o' e => by injection e with e; injection e with e1 e2; rw [e1, e2])
    rw [List.take_of_length_le (by have := hr.1; simp; omega)] at h
    exact h
  obtain ⟨w3, hw3⟩ : ∃ w3, w3 = w2.alloc (.cells #[.int .i64 2, .bool false, .int .i64 0, .int .i64 0, .int .i64 0, .slice none 0 0] 61) := ⟨_, rfl⟩
  have s2 : w2.heap.size = w.heap.size + 2 := by rw [hw2]; simp [s1]
  have hb23 : Below w2.heap.size w2 w3 := by rw [hw3]; exact (Below.refl _ _).alloc (Nat.le_refl _) _
  have G3 : GS w w3 (some ⟨b, o + k, none⟩) 28 (l.drop k) #[.int .i64 2, .bool false, .int .i64 0, .int .i64 0, .int .i64 0, .slice none 0 0] := ⟨r4.under hb23, r7.under hb23, by rw [<- s2, hw3]; exact Rec.new w2 _ _, rd2.below (Nat.le_refl _) hb23, (fun b' o' e _ => by injection e with e; injection e with e1 e2; omega), hb2.trans (hb23.mono hb2.size)⟩
  have HS2 := hi_ s2
  clear s2 hb23
  obtain ⟨ix, hix⟩ : ∃ v, v = gv (l.drop k) 2 8 := ⟨_, rfl⟩
  obtain ⟨gn, hgn⟩ : ∃ v, v = gv (l.drop k) 10 8 := ⟨_, rfl⟩
  obtain ⟨cp, hcp⟩ : ∃ v, v = gv (l.drop k) 18 8 := ⟨_, rfl⟩
  have CC3 := RGetU (some ⟨b, o + k, none⟩) 28 28 (l.drop k) 2 8 (by decide) w3 G3.rd (by omega) (by decide)
  rw [<- hix] at CC3
  have C3 := hi_ CC3
  have z3 := G3.r10.fz 2
  have k3 := G3.r10.at_ 2
  obtain ⟨w4, hw4⟩ : ∃ v, v = w3.setCell ⟨w.heap.size + 2, 2, none⟩ (.int .i64 ix) := ⟨_, rfl⟩
  have G4 : GS w w4 (some ⟨b, o + k, none⟩) 28 (l.drop k) #[.int .i64 2, .bool false, .int .i64 ix, .int .i64 0, .int .i64 0, .slice none 0 0] := by have hh := G3.set 2 (.int .i64 ix); rw [hw4]; simpa using hh
  have CC4 := RGetU (some ⟨b, o + k, none⟩) 28 28 (l.drop k) 10 8 (by decide) w4 G4.rd (by omega) (by decide)
  rw [<- hgn] at CC4
  have C4 := hi_ CC4
  have z4 := G4.r10.fz 3
  have k4 := G4.r10.at_ 3
  obtain ⟨w5, hw5⟩ : ∃ v, v = w4.setCell ⟨w.heap.size + 2, 3, none⟩ (.int .i64 gn) := ⟨_, rfl⟩
  have G5 : GS w w5 (some ⟨b, o + k, none⟩) 28 (l.drop k) #[.int .i64 2, .bool false, .int .i64 ix, .int .i64 gn, .int .i64 0, .slice none 0 0] := by have hh := G4.set 3 (.int .i64 gn); rw [hw5]; simpa using hh
  have CC5 := RGetU (some ⟨b, o + k, none⟩) 28 28 (l.drop k) 18 8 (by decide) w5 G5.rd (by omega) (by decide)
  rw [<- hcp] at CC5
  have C5 := hi_ CC5
  have z5 := G5.r10.fz 4
  have k5 := G5.r10.at_ 4
  obtain ⟨w6, hw6⟩ : ∃ v, v = w5.setCell ⟨w.heap.size + 2, 4, none⟩ (.int .i64 cp) := ⟨_, rfl⟩
  have G6 : GS w w6 (some ⟨b, o + k, none⟩) 28 (l.drop k) #[.int .i64 2, .bool false, .int .i64 ix, .int .i64 gn, .int .i64 cp, .slice none 0 0] := by have hh := G5.set 4 (.int .i64 cp); rw [hw6]; simpa using hh
  have kl := G4.r10.at_ 1
  have kL := G3.r10.at_ 1
  have CC6 := RGetU (some ⟨b, o + k, none⟩) 28 28 (l.drop k) 26 2 (by decide) w6 G6.rd (by omega) (by decide)
  rw [hq, decide_eq_true (by omega)] at CC6
  have C6 := hi_ CC6
  have z6 := G6.r10.fz 5
  have k6 := G6.r10.at_ 5
  obtain ⟨w7, hw7⟩ : ∃ v, v = w6.setCell ⟨w.heap.size + 2, 5, none⟩ (.slice (some ⟨b, o + k, none⟩) 0 0) := ⟨_, rfl⟩
  have G7 : GS w w7 (some ⟨b, o + k, none⟩) 28 (l.drop k) #[.int .i64 2, .bool false, .int .i64 ix, .int .i64 gn, .int .i64 cp, .slice (some ⟨b, o + k, none⟩) 0 0] := by have hh := G6.set 5 (.slice (some ⟨b, o + k, none⟩) 0 0); rw [hw7]; simpa using hh
  have Hix := hi_ hix
  have Hgn := hi_ hgn
  have Hcp := hi_ hcp
  have HG3 := hi_ G3
  have HG4 := hi_ G4
  have HG5 := hi_ G5
  have HG6 := hi_ G6
  have HG7 := hi_ G7
  clear CC3 CC4 CC5 CC6 G3 G4 G5 G6 G7 hix hgn hcp
  clear hq
  have HS1 := hi_ s1
  clear hr s1 hb1 hb12 hb2 r4 r7 rd2 h0 h1
  go_enter Tryz.func53, Tryz.ntmps53
  go_wp2_with (first
    | (rw [<- hw1]; clear hw1)
    | (rw [<- hw2, HS1.out]; clear hw2)
    | (rw [<- hw3, HS2.out]; clear hw3)
    | (go_at_call 50; have _t := C3; refine C3.out.mono ?_; rintro e w' ⟨rfl, hw'⟩; subst hw'; clear C3)
    | (rw [<- hw4]; clear hw4)
    | (go_at_call 50; have _t := C4; refine C4.out.mono ?_; rintro e w' ⟨rfl, hw'⟩; subst hw'; clear C4)
    | (rw [<- hw5]; clear hw5)
    | (go_at_call 50; have _t := C5; refine C5.out.mono ?_; rintro e w' ⟨rfl, hw'⟩; subst hw'; clear C5)
    | (rw [<- hw6]; clear hw6)
    | (go_at_call 50; have _t := C6; refine C6.out.mono ?_; rintro e w' ⟨rfl, hw'⟩; subst hw'; clear C6)
    | (rw [<- hw7]; clear hw7)
    | ((with_reducible refine wpList_ldS cdT rfl rfl (.tmp 10) rfl rfl HG7.out.r10 ?_))
    | ((with_reducible refine wpList_stS (cs' := #[.int .i64 2, .bool false, .int .i64 ix, .int .i64 gn, .int .i64 cp, .slice (some ⟨b, o + k, none⟩) 0 0]) cdT rfl rfl (by simp [Value.oneCell']) rfl (.tmp 4) (.tmp 130) rfl rfl rfl HG7.out.r4 ?_); intro wz hRz hFz))
  refine bodyPost_ret (res_ctt rfl rfl (hRz.load cdT rfl)) rfl ?_
  rw [<- Hix.out]
  rw [<- Hgn.out]
  rw [<- Hcp.out]
  exact ⟨some ⟨b, o + k, none⟩, 0, 0, rfl, Rd.nil _ _, Nat.le_refl _, HG7.out.fin hFz, fun _ _ _ hp => absurd hp (Nat.lt_irrefl 0)⟩
set_option maxHeartbeats 4000000 in
theorem RG_2t_okc (hr : Rd w (some ⟨b, o, none⟩) (k + 20) l) (hlt : b < w.heap.size) (hn : k + 20 <= 20000) (h0 : w.cell? ⟨b, o + k, none⟩ = some (.int .u8 2)) (h1 : w.cell? ⟨b, o + k + 1, none⟩ = some (.int .u8 1)) (hq : gv (l.drop k) 18 2 = 0) :
    Calls Tryz.prog 53 #[.slice (some ⟨b, o, none⟩) (k + 20) (k + 20), .int .i64 k] w (GetL (fun y => ∃ o', (some ⟨b, o, none⟩ : Option Addr) = some ⟨y, o', none⟩) w (⟨2, true, gv (l.drop k) 2 8, 0, gv (l.drop k) 10 8, []⟩, (k : Int) + 20, 0)) := by
  obtain ⟨w1, hw1⟩ : ∃ w1, w1 = w.alloc (.cells (Cd.zero.cs none 0 0) 61) := ⟨_, rfl⟩
  obtain ⟨w2, hw2⟩ : ∃ w2, w2 = w1.alloc (.cells (Cd.zero.cs none 0 0) 61) := ⟨_, rfl⟩
  have s1 : w1.heap.size = w.heap.size + 1 := by rw [hw1]; simp
  have hb1 : Below w.heap.size w w1 := by rw [hw1]; exact (Below.refl _ _).alloc (Nat.le_refl _) _
  have hb12 : Below w1.heap.size w1 w2 := by rw [hw2]; exact (Below.refl _ _).alloc (Nat.le_refl _) _
  have hb2 : Below w.heap.size w w2 := hb1.trans (hb12.mono hb1.size)
  have r4 : Rec 61 w2 w.heap.size (Cd.zero.cs none 0 0) := (show Rec 61 w1 w.heap.size (Cd.zero.cs none 0 0) by rw [hw1]; exact Rec.new w _ _).under hb12
  have r7 : Rec 61 w2 (w.heap.size + 1) (Cd.zero.cs none 0 0) := by rw [<- s1, hw2]; exact Rec.new w1 _ _
  have q0 : w2.cell? ⟨b, o + k, none⟩ = some (.int .u8 2) := (hb2.cell (p := ⟨b, o + k, none⟩) hlt).trans h0
  have q1 : w2.cell? ⟨b, o + k + 1, none⟩ = some (.int .u8 1) := (hb2.cell (p := ⟨b, o + k + 1, none⟩) hlt).trans h1
  have rd2 : Rd w2 (some ⟨b, o + k, none⟩) 20 (l.drop k) := by
    have h := (hr.below (Nat.le_refl _) hb2).part (lo := k) (m := 20) (by omega) (some ⟨b, o + k, none⟩) (fun _ b' o' e => by injection e with e; injection e with e1 e2; rw [e1, e2])
    rw [List.take_of_length_le (by have := hr.1; simp; omega)] at h
    exact h
  obtain ⟨w3, hw3⟩ : ∃ w3, w3 = w2.alloc (.cells #[.int .i64 2, .bool true, .int .i64 0, .int .i64 0, .int .i64 0, .slice none 0 0] 61) := ⟨_, rfl⟩
  have s2 : w2.heap.size = w.heap.size + 2 := by rw [hw2]; simp [s1]
  have hb23 : Below w2.heap.size w2 w3 := by rw [hw3]; exact (Below.refl _ _).alloc (Nat.le_refl _) _
  have G3 : GS w w3 (some ⟨b, o + k, none⟩) 20 (l.drop k) #[.int .i64 2, .bool true, .int .i64 0, .int .i64 0, .int .i64 0, .slice none 0 0] := ⟨r4.under hb23, r7.under hb23, by rw [<- s2, hw3]; exact Rec.new w2 _ _, rd2.below (Nat.le_refl _) hb23, (fun b' o' e _ => by injection e with e; injection e with e1 e2; omega), hb2.trans (hb23.mono hb2.size)⟩
  have HS2 := hi_ s2
  clear s2 hb23
  obtain ⟨ix, hix⟩ : ∃ v, v = gv (l.drop k) 2 8 := ⟨_, rfl⟩
  obtain ⟨cp, hcp⟩ : ∃ v, v = gv (l.drop k) 10 8 := ⟨_, rfl⟩
  have CC3 := RGetU (some ⟨b, o + k, none⟩) 20 20 (l.drop k) 2 8 (by decide) w3 G3.rd (by omega) (by decide)
  rw [<- hix] at CC3
  have C3 := hi_ CC3
  have z3 := G3.r10.fz 2
  have k3 := G3.r10.at_ 2
  obtain ⟨w4, hw4⟩ : ∃ v, v = w3.setCell ⟨w.heap.size + 2, 2, none⟩ (.int .i64 ix) := ⟨_, rfl⟩
  have G4 : GS w w4 (some ⟨b, o + k, none⟩) 20 (l.drop k) #[.int .i64 2, .bool true, .int .i64 ix, .int .i64 0, .int .i64 0, .slice none 0 0] := by have hh := G3.set 2 (.int .i64 ix); rw [hw4]; simpa using hh
  have CC4 := RGetU (some ⟨b, o + k, none⟩) 20 20 (l.drop k) 10 8 (by decide) w4 G4.rd (by omega) (by decide)
  rw [<- hcp] at CC4
  have C4 := hi_ CC4
  have z4 := G4.r10.fz 4
  have k4 := G4.r10.at_ 4
  obtain ⟨w5, hw5⟩ : ∃ v, v = w4.setCell ⟨w.heap.size + 2, 4, none⟩ (.int .i64 cp) := ⟨_, rfl⟩
  have G5 : GS w w5 (some ⟨b, o + k, none⟩) 20 (l.drop k) #[.int .i64 2, .bool true, .int .i64 ix, .int .i64 0, .int .i64 cp, .slice none 0 0] := by have hh := G4.set 4 (.int .i64 cp); rw [hw5]; simpa using hh
  have kl3 := G4.r10.at_ 1
  have kL := G3.r10.at_ 1
  have CC5 := RGetU (some ⟨b, o + k, none⟩) 20 20 (l.drop k) 18 2 (by decide) w5 G5.rd (by omega) (by decide)
  rw [hq, decide_eq_true (by omega)] at CC5
  have C5 := hi_ CC5
  have z5 := G5.r10.fz 5
  have k5 := G5.r10.at_ 5
  obtain ⟨w6, hw6⟩ : ∃ v, v = w5.setCell ⟨w.heap.size + 2, 5, none⟩ (.slice (some ⟨b, o + k, none⟩) 0 0) := ⟨_, rfl⟩
  have G6 : GS w w6 (some ⟨b, o + k, none⟩) 20 (l.drop k) #[.int .i64 2, .bool true, .int .i64 ix, .int .i64 0, .int .i64 cp, .slice (some ⟨b, o + k, none⟩) 0 0] := by have hh := G5.set 5 (.slice (some ⟨b, o + k, none⟩) 0 0); rw [hw6]; simpa using hh
  have Hix := hi_ hix
  have Hcp := hi_ hcp
  have HG3 := hi_ G3
  have HG4 := hi_ G4
  have HG5 := hi_ G5
  have HG6 := hi_ G6
  clear CC3 CC4 CC5 G3 G4 G5 G6 hix hcp
  clear hq
  have HS1 := hi_ s1
  clear hr s1 hb1 hb12 hb2 r4 r7 rd2 h0 h1
  go_enter Tryz.func53, Tryz.ntmps53
  go_wp2_with (first
    | (rw [<- hw1]; clear hw1)
    | (rw [<- hw2, HS1.out]; clear hw2)
    | (rw [<- hw3, HS2.out]; clear hw3)
    | (go_at_call 50; have _t := C3; refine C3.out.mono ?_; rintro e w' ⟨rfl, hw'⟩; subst hw'; clear C3)
    | (rw [<- hw4]; clear hw4)
    | (go_at_call 50; have _t := C4; refine C4.out.mono ?_; rintro e w' ⟨rfl, hw'⟩; subst hw'; clear C4)
    | (rw [<- hw5]; clear hw5)
    | (go_at_call 50; have _t := C5; refine C5.out.mono ?_; rintro e w' ⟨rfl, hw'⟩; subst hw'; clear C5)
    | (rw [<- hw6]; clear hw6)
    | ((with_reducible refine wpList_ldS cdT rfl rfl (.tmp 10) rfl rfl HG6.out.r10 ?_))
    | ((with_reducible refine wpList_stS (cs' := #[.int .i64 2, .bool true, .int .i64 ix, .int .i64 0, .int .i64 cp, .slice (some ⟨b, o + k, none⟩) 0 0]) cdT rfl rfl (by simp [Value.oneCell']) rfl (.tmp 4) (.tmp 130) rfl rfl rfl HG6.out.r4 ?_); intro wz hRz hFz))
  refine bodyPost_ret (res_ctt rfl rfl (hRz.load cdT rfl)) rfl ?_
  rw [<- Hix.out]
  rw [<- Hcp.out]
  exact ⟨some ⟨b, o + k, none⟩, 0, 0, rfl, Rd.nil _ _, Nat.le_refl _, HG6.out.fin hFz, fun _ _ _ hp => absurd hp (Nat.lt_irrefl 0)⟩
end
end Go.Proofs.YthabmlbmlncbmaaGreat
namespace Go.Proofs.YthabmlbmlncbmaaGreat
open Go.RowKit
set_option linter.unusedVariables false
set_option maxRecDepth 20000
theorem gv_in {L : List UInt8} {x k : Nat} (h : x + k <= L.length) : gv L x k = getV ((L.drop x).take k) := by unfold gv; rw [if_pos h]
theorem RGetCL_any (A : Option Addr) (n c : Nat) (l : List UInt8) (w : World) (a : Int) (hr : Rd w A n l) (hn : n <= 20000) (hnc : n <= c) : Calls Tryz.prog 53 #[.slice A n c, .int .i64 a] w (GetL (fun y => ∃ o', A = some ⟨y, o', none⟩) w (getAt l a)) := by
  have hl := hr.1
  by_cases ha : a < 0 \/ (n : Int) < a
  · have e : getAt l a = (Cd.zero, 0, 2) := by unfold getAt; rw [if_pos (by omega)]
    rw [e]
    exact RG_bad n c w A a (by omega) ha
  obtain ⟨k, rfl⟩ : ∃ k : Nat, a = (k : Int) := ⟨a.toNat, by omega⟩
  have e : getAt l k = ((getCd (l.drop k)).1, if (getCd (l.drop k)).2.2 = 0 then (k : Int) + (getCd (l.drop k)).2.1 else 0, (getCd (l.drop k)).2.2) := by unfold getAt; rw [if_neg (by omega), Int.toNat_natCast]
  rw [e]
  have hkn : k <= n := by omega
  have hL : (l.drop k).length = n - k := by simp; omega
  by_cases h0 : n = k
  · subst h0
    have g : getCd (l.drop n) = (Cd.zero, 0, 12) := by unfold getCd; rw [if_pos (by omega)]
    rw [g]
    exact RG_none n c w A n rfl (by omega) hnc
  obtain ⟨b, o, rfl, hlt, hcell⟩ := hr.2 (by omega)
  have h0c := hcell k (by omega)
  obtain ⟨d, hd⟩ : ∃ d, d = ((l.drop k).getD 0 0).toNat := ⟨_, rfl⟩
  have hd' : (l[k]'(by omega)).toNat = d := by rw [hd, drop_getD, Nat.add_zero, List.getD_eq_getElem?_getD, List.getElem?_eq_getElem (by omega)]; rfl
  rw [hd'] at h0c
  have hd2 : d < 256 := by rw [hd]; exact UInt8.toNat_lt _
  by_cases h3 : 3 < d
  · have g : getCd (l.drop k) = (Cd.zero, 0, 11) := by unfold getCd; rw [if_neg (by omega), <- hd, if_pos h3]
    rw [g]
    exact RG_do n c l w b o k hr hlt hn hnc d (by omega) h0c h3 hd2
  by_cases hd0 : d = 0
  · have g : getCd (l.drop k) = (⟨0, false, 0, 0, 0, []⟩, 1, 0) := by unfold getCd; rw [if_neg (by omega), <- hd, if_neg h3, if_pos hd0]
    rw [g]
    subst hd0
    exact RG_zero n c l w b o k hr hlt hn hnc (by omega) h0c
  have hd3 : d = 1 \/ d = 2 \/ d = 3 := by omega
  by_cases h1 : n = k + 1
  · have g : getCd (l.drop k) = (Cd.zero, 0, 12) := by unfold getCd; rw [if_neg (by omega), <- hd, if_neg h3, if_neg hd0, if_pos (by omega)]
    rw [g]
    rcases hd3 with rfl | rfl | rfl
    · exact RG_one1 n c l w b o k hr hlt hn hnc h1 h0c
    · exact RG_one2 n c l w b o k hr hlt hn hnc h1 h0c
    · exact RG_one3 n c l w b o k hr hlt hn hnc h1 h0c
  have h1c := hcell (k + 1) (by omega)
  obtain ⟨e1, he1⟩ : ∃ e, e = ((l.drop k).getD 1 0).toNat := ⟨_, rfl⟩
  have he' : (l[k + 1]'(by omega)).toNat = e1 := by rw [he1, drop_getD, List.getD_eq_getElem?_getD, List.getElem?_eq_getElem (by omega)]; rfl
  rw [he', <- Nat.add_assoc] at h1c
  have he2 : e1 < 256 := by rw [he1]; exact UInt8.toNat_lt _
  by_cases hb : 1 < e1
  · have g : getCd (l.drop k) = (Cd.zero, 0, 11) := by unfold getCd; rw [if_neg (by omega), <- hd, if_neg h3, if_neg hd0, if_neg (by omega), <- he1, if_pos hb]
    rw [g]
    rcases hd3 with rfl | rfl | rfl
    · exact RG_loc1 n c l w b o k hr hlt hn hnc e1 (by omega) h0c h1c hb he2
    · exact RG_loc2 n c l w b o k hr hlt hn hnc e1 (by omega) h0c h1c hb he2
    · exact RG_loc3 n c l w b o k hr hlt hn hnc e1 (by omega) h0c h1c hb he2
  have hk2 : k + 2 <= n := by omega
  -- what getCd tells behind the first two bytes
  have G : getCd (l.drop k) = (let e0 := if e1 = 1 then 10 else 18
      let gn := if e1 = 1 then 0 else getV (((l.drop k).drop 10).take 8)
      if d = 1 then (if (l.drop k).length < e0 then (Cd.zero, 0, 12) else (⟨1, decide (e1 = 1), getV (((l.drop k).drop 2).take 8), gn, 0, []⟩, e0, 0))
      else if d = 3 then (if (l.drop k).length < e0 + 8 then (Cd.zero, 0, 12) else (⟨3, decide (e1 = 1), getV (((l.drop k).drop 2).take 8), gn, getV (((l.drop k).drop e0).take 8), []⟩, e0 + 8, 0))
      else if (l.drop k).length < e0 + 10 then (Cd.zero, 0, 12)
      else if 64 < leN (((l.drop k).drop (e0 + 8)).take 2) then (Cd.zero, 0, 13)
      else if (l.drop k).length < e0 + 10 + leN (((l.drop k).drop (e0 + 8)).take 2) then (Cd.zero, 0, 12)
      else (⟨2, decide (e1 = 1), getV (((l.drop k).drop 2).take 8), gn, getV (((l.drop k).drop e0).take 8), ((l.drop k).drop (e0 + 10)).take (leN (((l.drop k).drop (e0 + 8)).take 2))⟩, e0 + 10 + leN (((l.drop k).drop (e0 + 8)).take 2), 0)) := by
    conv => lhs; unfold getCd
    rw [if_neg (by omega), <- hd, if_neg h3, if_neg hd0, if_neg (by omega), <- he1, if_neg hb]
  obtain ⟨L, hLL⟩ : ∃ L, L = l.drop k := ⟨_, rfl⟩
  rw [<- hLL] at G hL ⊢
  have he01 : e1 = 0 \/ e1 = 1 := by omega
  clear hd he1 hd' he' e hl hcell
  rcases he01 with rfl | rfl
  · simp only [show ¬ (0 : Nat) = 1 by decide, if_false, decide_false] at G
    rcases hd3 with rfl | rfl | rfl
    · simp only [if_true] at G
      by_cases hs : n < k + 18
      · rw [if_pos (by omega)] at G
        rw [G]
        exact RG_1f_short n c l w b o k hr hlt hn hnc hk2 h0c h1c hs
      · rw [if_neg (by omega)] at G
        rw [<- gv_in (L := L) (x := 2) (k := 8) (by omega), <- gv_in (L := L) (x := 10) (k := 8) (by omega)] at G
        rw [G, hLL]
        exact RG_1f_ok n c l w b o k hr hlt hn hnc hk2 h0c h1c (by omega)
    · simp only [show ¬ (2 : Nat) = 1 by decide, show ¬ (2 : Nat) = 3 by decide, if_false] at G
      by_cases hs : n < k + 28
      · rw [if_pos (by omega)] at G
        rw [G]
        exact RG_2f_none n c l w b o k hr hlt hn hnc hk2 h0c h1c hs
      rw [if_neg (by omega)] at G
      obtain ⟨q, hq⟩ : ∃ q, q = leN ((L.drop 26).take 2) := ⟨_, rfl⟩
      have hgq : gv (l.drop k) 26 2 = (q : Int) := by rw [<- hLL, gv_in (by omega), hq]; exact getV2 _ (by simp; omega)
      simp only [<- hq] at G
      by_cases h64 : 64 < q
      · rw [if_pos h64] at G
        rw [G]
        exact RG_2f_long n c l w b o k hr hlt hn hnc hk2 h0c h1c (by omega) q hgq h64
      rw [if_neg h64] at G
      by_cases hs2 : n < k + 28 + q
      · rw [if_pos (by omega)] at G
        rw [G]
        exact RG_2f_short n c l w b o k hr hlt hn hnc hk2 h0c h1c (by omega) q hgq (by omega) hs2
      rw [if_neg (by omega)] at G
      rw [<- gv_in (L := L) (x := 2) (k := 8) (by omega), <- gv_in (L := L) (x := 10) (k := 8) (by omega), <- gv_in (L := L) (x := 18) (k := 8) (by omega)] at G
      rw [G, hLL]
      by_cases hcap : c = k + 28
      · obtain rfl : q = 0 := by omega
        obtain rfl : n = k + 28 := by omega
        subst hcap
        have hgq0 : gv (l.drop k) 26 2 = 0 := hgq
        simpa using RG_2f_okc l w b o k hr hlt hn h0c h1c hgq0
      · exact RG_2f_ok n c l w b o k hr hlt hn hnc hk2 h0c h1c (by omega) q hgq (by omega) (by omega) (by omega)
    · simp only [show ¬ (3 : Nat) = 1 by decide, if_true, if_false] at G
      by_cases hs : n < k + 26
      · rw [if_pos (by omega)] at G
        rw [G]
        exact RG_3f_short n c l w b o k hr hlt hn hnc hk2 h0c h1c hs
      · rw [if_neg (by omega)] at G
        rw [<- gv_in (L := L) (x := 2) (k := 8) (by omega), <- gv_in (L := L) (x := 10) (k := 8) (by omega), <- gv_in (L := L) (x := 18) (k := 8) (by omega)] at G
        rw [G, hLL]
        exact RG_3f_ok n c l w b o k hr hlt hn hnc hk2 h0c h1c (by omega)
  · simp only [if_true, decide_true] at G
    rcases hd3 with rfl | rfl | rfl
    · simp only [if_true] at G
      by_cases hs : n < k + 10
      · rw [if_pos (by omega)] at G
        rw [G]
        exact RG_1t_short n c l w b o k hr hlt hn hnc hk2 h0c h1c hs
      · rw [if_neg (by omega)] at G
        rw [<- gv_in (L := L) (x := 2) (k := 8) (by omega)] at G
        rw [G, hLL]
        exact RG_1t_ok n c l w b o k hr hlt hn hnc hk2 h0c h1c (by omega)
    · simp only [show ¬ (2 : Nat) = 1 by decide, show ¬ (2 : Nat) = 3 by decide, if_false] at G
      by_cases hs : n < k + 20
      · rw [if_pos (by omega)] at G
        rw [G]
        exact RG_2t_none n c l w b o k hr hlt hn hnc hk2 h0c h1c hs
      rw [if_neg (by omega)] at G
      obtain ⟨q, hq⟩ : ∃ q, q = leN ((L.drop 18).take 2) := ⟨_, rfl⟩
      have hgq : gv (l.drop k) 18 2 = (q : Int) := by rw [<- hLL, gv_in (by omega), hq]; exact getV2 _ (by simp; omega)
      simp only [<- hq] at G
      by_cases h64 : 64 < q
      · rw [if_pos h64] at G
        rw [G]
        exact RG_2t_long n c l w b o k hr hlt hn hnc hk2 h0c h1c (by omega) q hgq h64
      rw [if_neg h64] at G
      by_cases hs2 : n < k + 20 + q
      · rw [if_pos (by omega)] at G
        rw [G]
        exact RG_2t_short n c l w b o k hr hlt hn hnc hk2 h0c h1c (by omega) q hgq (by omega) hs2
      rw [if_neg (by omega)] at G
      rw [<- gv_in (L := L) (x := 2) (k := 8) (by omega), <- gv_in (L := L) (x := 10) (k := 8) (by omega)] at G
      rw [G, hLL]
      by_cases hcap : c = k + 20
      · obtain rfl : q = 0 := by omega
        obtain rfl : n = k + 20 := by omega
        subst hcap
        have hgq0 : gv (l.drop k) 18 2 = 0 := hgq
        simpa using RG_2t_okc l w b o k hr hlt hn h0c h1c hgq0
      · exact RG_2t_ok n c l w b o k hr hlt hn hnc hk2 h0c h1c (by omega) q hgq (by omega) (by omega) (by omega)
    · simp only [show ¬ (3 : Nat) = 1 by decide, if_true, if_false] at G
      by_cases hs : n < k + 18
      · rw [if_pos (by omega)] at G
        rw [G]
        exact RG_3t_short n c l w b o k hr hlt hn hnc hk2 h0c h1c hs
      · rw [if_neg (by omega)] at G
        rw [<- gv_in (L := L) (x := 2) (k := 8) (by omega), <- gv_in (L := L) (x := 10) (k := 8) (by omega)] at G
        rw [G, hLL]
        exact RG_3t_ok n c l w b o k hr hlt hn hnc hk2 h0c h1c (by omega)
end Go.Proofs.YthabmlbmlncbmaaGreat
namespace Go.Proofs.YthabmlbmlncbmaaGreat
open Go.RowKit
set_option linter.unusedVariables false
set_option maxRecDepth 20000
def FGot (r : List Cd × Int) (w : World) (e : Ending) (w' : World) : Prop := ∃ A n c, e = .returned (.tuple #[.slice A n c, .int .i64 r.2]) /\ CdsV (fun _ => True) w' A n r.1 /\ Below w.heap.size w w'
theorem FGot.fault {w w' : World} (er : Int) (hb : Below w.heap.size w w') : FGot ([], er) w (.returned (.tuple #[.slice none 0 0, .int .i64 er])) w' := ⟨none, 0, 0, rfl, CdsV.nil _ _ _, hb⟩
section
variable (b o q c : Nat) (l : List UInt8) (w : World)
theorem RFGet_short (A : Option Addr) (n : Nat) (hl : l.length = n) (hn : n < 5) : Calls Tryz.prog 40 #[.slice A n c] w (FGot (frGet l) w) := by
  have e : frGet l = ([], 12) := by unfold frGet; rw [if_pos (by omega)]
  rw [e]
  clear hl e
  go_enter Tryz.func40, Tryz.ntmps40
  go_wp2
  go_ret2
  exact FGot.fault 12 (Below.refl _ _)
set_option maxHeartbeats 2000000 in
theorem RFGet_sum (hr : Rd w (some ⟨b, o, none⟩) (q + 4) l) (hlt : b < w.heap.size) (hq : 1 <= q) (hq2 : q <= 20000) (hc : q + 4 <= c) (hs : numB 4 ((sumL (l.take q) : Nat) : Int) ≠ l.drop q) :
    Calls Tryz.prog 40 #[.slice (some ⟨b, o, none⟩) (q + 4) c] w (FGot (frGet l) w) := by
  have hl := hr.1
  obtain ⟨inp, hinp⟩ : ∃ i, i = l.take q := ⟨_, rfl⟩
  have hil : inp.length = q := by rw [hinp]; simp; omega
  have hcq : ¬ c = q := by omega
  have hri : Rd w.drew (some ⟨b, o, none⟩) q inp := by
    have h := (hr.part (lo := 0) (m := q) (by omega) (some ⟨b, o, none⟩) (fun _ b' o' e => by injection e with e; injection e with e1 e2; rw [e1, e2]; rfl)).drew
    rw [List.drop_zero, <- hinp] at h
    exact h
  have hrt : Rd w.drew (some ⟨b, o + q, none⟩) 4 (l.drop q) := by
    have h := (hr.part (lo := q) (m := 4) (by omega) (some ⟨b, o + q, none⟩) (fun _ b' o' e => by injection e with e; injection e with e1 e2; rw [e1, e2])).drew
    rw [List.take_of_length_le (by simp; omega)] at h
    exact h
  have CO := hi_ (ROf_any (some ⟨b, o, none⟩) q c inp w.drew hri (by omega))
  have hsum := sumL_lt inp
  obtain ⟨sm, hsm⟩ : ∃ s, s = sumL inp := ⟨_, rfl⟩
  rw [<- hsm] at CO hsum
  have CN := hi_ (RNumS_any 4 (by decide) (by decide) (sm : Int) w.drew)
  have hcv : IntKind.i64.wrap (sm : Int) = sm := IntWalk.i64_in _ (by omega)
  have F : frGet l = if numB 4 (sm : Int) ≠ l.drop q then ([], 11) else if 64 < (l.getD 0 0).toNat then ([], 13) else if (getsL inp (l.getD 0 0).toNat 1).2.1 ≠ 0 then ([], (getsL inp (l.getD 0 0).toNat 1).2.1) else if (getsL inp (l.getD 0 0).toNat 1).2.2 < q then ([], 11) else ((getsL inp (l.getD 0 0).toNat 1).1, 0) := by
    have e : l.length - 4 = q := by omega
    unfold frGet
    rw [e, <- hinp, <- hsm, if_neg (by omega)]
  have HRT := hi_ hrt
  have hwq : IntKind.i64.wrap (q : Int) = (q : Int) := IntWalk.i64_in _ (by omega)
  have hqn : (q : Int) <= (q : Int) + 4 := by omega
  rw [<- hinp, <- hsm] at hs
  have HS := hi_ hs
  rw [F, if_pos hs]
  clear hr hl hinp hil hri hrt F hs hsm
  go_enter Tryz.func40, Tryz.ntmps40
  go_upto_region 4 with fail
  refine wp_region_noPanic ?_
  refine wp_region_held_drew (S := fun W => True) (by kernel_rfl) trivial (fun hHeld => ?_)
  refine tj_ 0 ⟨some 19, .move (.tmp 4), 42, "ref.go:39", #[], none⟩ hHeld (h := ?_)
  refine tj_ 4 ⟨some 23, .move (.tmp 0), 42, "ref.go:39", #[], none⟩ hHeld (h := ?_)
  refine tj_ 5 ⟨some 24, .move (.tmp 0), 42, "ref.go:39", #[], none⟩ hHeld (h := ?_)
  refine tj_ 6 ⟨some 25, .call { callee := .builtin .len, args := #[.tmp 24], argTypes := #[42] }, 3, "ref.go:39", #[⟨5, .data⟩], none⟩ hHeld (h := ?_)
  refine tj_ 7 ⟨some 26, .binOp .sub 3 (.tmp 25) (.const (.int .i64 4)) 3, 3, "ref.go:39", #[⟨6, .data⟩], none⟩ hHeld (h := ?_)
  refine tj_ 8 ⟨some 27, .slice 42 (.tmp 23) (some (.tmp 26)) none none, 42, "ref.go:39", #[⟨4, .data⟩, ⟨7, .data⟩], none⟩ hHeld (h := ?_)
  refine wpAnyH_ready (rs := [1]) (by kernel_rfl) (by simp) ?_
  refine AllReadyH.cons (o := ⟨some 20, .call { callee := .value (.func 31), args := #[.tmp 19], argTypes := #[42] }, 65, "ref.go:39", #[⟨0, .data⟩], none⟩) rfl (fun K' hK => ?_) AllReadyH.nil
  go_simp
  go_at_call 31; refine CO.out.mono ?_; rintro e w' ⟨rfl, hw'⟩; subst hw'
  refine hK.out _ _ trivial (fun hHeld => ?_)
  clear hK K'
  try simp only [Act.put, sA_, sB_, sC_]
  refine tj_ 2 ⟨some 21, .convert 65 3 (.tmp 20), 3, "ref.go:39", #[⟨1, .data⟩], none⟩ hHeld (h := ?_)
  refine wpAnyH_ready (rs := [3]) (by kernel_rfl) (by simp) ?_
  refine AllReadyH.cons (o := ⟨some 22, .call { callee := .value (.func 29), args := #[.const (.int .i64 4), .tmp 21], argTypes := #[3, 3] }, 42, "ref.go:39", #[⟨2, .data⟩, ⟨1, .chain⟩], none⟩) rfl (fun K' hK => ?_) AllReadyH.nil
  go_simp
  go_at_call 29; refine CN.out.mono ?_; rintro e w2 ⟨v2, rfl, ho2, hb2⟩
  obtain ⟨A2, c2, rfl, _, _, hr2⟩ := Rd.of_own ho2 rfl
  have R2 := hi_ (And.intro hr2 (show Below w.heap.size w w2 from (show Below w.heap.size w w.drew from (Below.refl _ _).drew).trans hb2))
  have CS := hi_ (Same_any A2 (some ⟨b, o + q, none⟩) 4 c2 4 (c - q) _ _ w2 hr2 (HRT.out.below (Nat.le_refl _) hb2))
  clear hr2 ho2 hb2
  refine hK.out _ _ trivial (fun hHeld => ?_)
  clear hK K'
  try simp only [Act.put, sA_, sB_, sC_]
  refine wpAnyH_ready (rs := [9]) (by kernel_rfl) (by simp) ?_
  refine AllReadyH.cons (o := ⟨some 28, .call { callee := .value (.func 24), args := #[.tmp 22, .tmp 27], argTypes := #[42, 42] }, 4, "ref.go:39", #[⟨3, .data⟩, ⟨8, .data⟩, ⟨3, .chain⟩], none⟩) rfl (fun K' hK => ?_) AllReadyH.nil
  go_simp
  have CS2 := CS.out
  rw [decide_eq_false HS.out] at CS2
  go_at_call 24; refine CS2.mono ?_; rintro e w' ⟨rfl, hw'⟩; subst hw'
  refine hK.out _ _ trivial (fun hHeld => ?_)
  clear hK K'
  try simp only [Act.put, sA_, sB_, sC_]
  refine tj_ 10 ⟨some 29, .unOp .not 4 (.tmp 28), 4, "ref.go:39", #[⟨9, .data⟩], none⟩ hHeld (h := ?_)
  refine wpAnyH_done (by kernel_rfl) ?_ _
  refine NoPanic.normal ?_
  clear hHeld
  go_wp2
  go_ret2
  exact FGot.fault 11 R2.out.2
set_option maxHeartbeats 2000000 in
theorem RFGet_many (hr : Rd w (some ⟨b, o, none⟩) (q + 4) l) (hlt : b < w.heap.size) (hq : 1 <= q) (hq2 : q <= 20000) (hc : q + 4 <= c) (hs : numB 4 ((sumL (l.take q) : Nat) : Int) = l.drop q) (d : Nat) (hd : (l.getD 0 0).toNat = d) (h64 : 64 < d) (h0 : w.cell? ⟨b, o, none⟩ = some (.int .u8 (d : Int))) :
    Calls Tryz.prog 40 #[.slice (some ⟨b, o, none⟩) (q + 4) c] w (FGot (frGet l) w) := by
  have hl := hr.1
  obtain ⟨inp, hinp⟩ : ∃ i, i = l.take q := ⟨_, rfl⟩
  have hil : inp.length = q := by rw [hinp]; simp; omega
  have hcq : ¬ c = q := by omega
  have hri : Rd w.drew (some ⟨b, o, none⟩) q inp := by
    have h := (hr.part (lo := 0) (m := q) (by omega) (some ⟨b, o, none⟩) (fun _ b' o' e => by injection e with e; injection e with e1 e2; rw [e1, e2]; rfl)).drew
    rw [List.drop_zero, <- hinp] at h
    exact h
  have hrt : Rd w.drew (some ⟨b, o + q, none⟩) 4 (l.drop q) := by
    have h := (hr.part (lo := q) (m := 4) (by omega) (some ⟨b, o + q, none⟩) (fun _ b' o' e => by injection e with e; injection e with e1 e2; rw [e1, e2])).drew
    rw [List.take_of_length_le (by simp; omega)] at h
    exact h
  have CO := hi_ (ROf_any (some ⟨b, o, none⟩) q c inp w.drew hri (by omega))
  have hsum := sumL_lt inp
  obtain ⟨sm, hsm⟩ : ∃ s, s = sumL inp := ⟨_, rfl⟩
  rw [<- hsm] at CO hsum
  have CN := hi_ (RNumS_any 4 (by decide) (by decide) (sm : Int) w.drew)
  have hcv : IntKind.i64.wrap (sm : Int) = sm := IntWalk.i64_in _ (by omega)
  have F : frGet l = if numB 4 (sm : Int) ≠ l.drop q then ([], 11) else if 64 < (l.getD 0 0).toNat then ([], 13) else if (getsL inp (l.getD 0 0).toNat 1).2.1 ≠ 0 then ([], (getsL inp (l.getD 0 0).toNat 1).2.1) else if (getsL inp (l.getD 0 0).toNat 1).2.2 < q then ([], 11) else ((getsL inp (l.getD 0 0).toNat 1).1, 0) := by
    have e : l.length - 4 = q := by omega
    unfold frGet
    rw [e, <- hinp, <- hsm, if_neg (by omega)]
  have HRT := hi_ hrt
  have hwq : IntKind.i64.wrap (q : Int) = (q : Int) := IntWalk.i64_in _ (by omega)
  have hqn : (q : Int) <= (q : Int) + 4 := by omega
  rw [<- hinp, <- hsm] at hs
  have HS := hi_ hs
  rw [F, if_neg (fun h => h hs), hd, if_pos h64]
  have hd2 : d < 256 := by rw [<- hd]; exact UInt8.toNat_lt _
  clear hr hl hinp hil hri hrt F hs hsm hd
  go_enter Tryz.func40, Tryz.ntmps40
  go_upto_region 4 with fail
  refine wp_region_noPanic ?_
  refine wp_region_held_drew (S := fun W => True) (by kernel_rfl) trivial (fun hHeld => ?_)
  refine tj_ 0 ⟨some 19, .move (.tmp 4), 42, "ref.go:39", #[], none⟩ hHeld (h := ?_)
  refine tj_ 4 ⟨some 23, .move (.tmp 0), 42, "ref.go:39", #[], none⟩ hHeld (h := ?_)
  refine tj_ 5 ⟨some 24, .move (.tmp 0), 42, "ref.go:39", #[], none⟩ hHeld (h := ?_)
  refine tj_ 6 ⟨some 25, .call { callee := .builtin .len, args := #[.tmp 24], argTypes := #[42] }, 3, "ref.go:39", #[⟨5, .data⟩], none⟩ hHeld (h := ?_)
  refine tj_ 7 ⟨some 26, .binOp .sub 3 (.tmp 25) (.const (.int .i64 4)) 3, 3, "ref.go:39", #[⟨6, .data⟩], none⟩ hHeld (h := ?_)
  refine tj_ 8 ⟨some 27, .slice 42 (.tmp 23) (some (.tmp 26)) none none, 42, "ref.go:39", #[⟨4, .data⟩, ⟨7, .data⟩], none⟩ hHeld (h := ?_)
  refine wpAnyH_ready (rs := [1]) (by kernel_rfl) (by simp) ?_
  refine AllReadyH.cons (o := ⟨some 20, .call { callee := .value (.func 31), args := #[.tmp 19], argTypes := #[42] }, 65, "ref.go:39", #[⟨0, .data⟩], none⟩) rfl (fun K' hK => ?_) AllReadyH.nil
  go_simp
  go_at_call 31; refine CO.out.mono ?_; rintro e w' ⟨rfl, hw'⟩; subst hw'
  refine hK.out _ _ trivial (fun hHeld => ?_)
  clear hK K'
  try simp only [Act.put, sA_, sB_, sC_]
  refine tj_ 2 ⟨some 21, .convert 65 3 (.tmp 20), 3, "ref.go:39", #[⟨1, .data⟩], none⟩ hHeld (h := ?_)
  refine wpAnyH_ready (rs := [3]) (by kernel_rfl) (by simp) ?_
  refine AllReadyH.cons (o := ⟨some 22, .call { callee := .value (.func 29), args := #[.const (.int .i64 4), .tmp 21], argTypes := #[3, 3] }, 42, "ref.go:39", #[⟨2, .data⟩, ⟨1, .chain⟩], none⟩) rfl (fun K' hK => ?_) AllReadyH.nil
  go_simp
  go_at_call 29; refine CN.out.mono ?_; rintro e w2 ⟨v2, rfl, ho2, hb2⟩
  obtain ⟨A2, c2, rfl, _, _, hr2⟩ := Rd.of_own ho2 rfl
  have R2 := hi_ (And.intro hr2 (show Below w.heap.size w w2 from (show Below w.heap.size w w.drew from (Below.refl _ _).drew).trans hb2))
  have CS := hi_ (Same_any A2 (some ⟨b, o + q, none⟩) 4 c2 4 (c - q) _ _ w2 hr2 (HRT.out.below (Nat.le_refl _) hb2))
  clear hr2 ho2 hb2
  refine hK.out _ _ trivial (fun hHeld => ?_)
  clear hK K'
  try simp only [Act.put, sA_, sB_, sC_]
  refine wpAnyH_ready (rs := [9]) (by kernel_rfl) (by simp) ?_
  refine AllReadyH.cons (o := ⟨some 28, .call { callee := .value (.func 24), args := #[.tmp 22, .tmp 27], argTypes := #[42, 42] }, 4, "ref.go:39", #[⟨3, .data⟩, ⟨8, .data⟩, ⟨3, .chain⟩], none⟩) rfl (fun K' hK => ?_) AllReadyH.nil
  go_simp
  have CS2 := CS.out
  rw [decide_eq_true HS.out] at CS2
  go_at_call 24; refine CS2.mono ?_; rintro e w' ⟨rfl, hw'⟩; subst hw'
  refine hK.out _ _ trivial (fun hHeld => ?_)
  clear hK K'
  try simp only [Act.put, sA_, sB_, sC_]
  refine tj_ 10 ⟨some 29, .unOp .not 4 (.tmp 28), 4, "ref.go:39", #[⟨9, .data⟩], none⟩ hHeld (h := ?_)
  refine wpAnyH_done (by kernel_rfl) ?_ _
  refine NoPanic.normal ?_
  clear hHeld
  have q0 : w2.cell? ⟨b, o, none⟩ = some (.int .u8 (d : Int)) := (R2.out.2.cell (p := ⟨b, o, none⟩) hlt).trans h0
  clear h0
  go_wp2
  go_ret2
  exact FGot.fault 13 R2.out.2
set_option maxHeartbeats 2000000 in
theorem RFGet_loop (hr : Rd w (some ⟨b, o, none⟩) (q + 4) l) (hlt : b < w.heap.size) (hq : 1 <= q) (hq2 : q <= 20000) (hc : q + 4 <= c) (hs : numB 4 ((sumL (l.take q) : Nat) : Int) = l.drop q) (d : Nat) (hd : (l.getD 0 0).toNat = d) (h64 : d <= 64) (h0 : w.cell? ⟨b, o, none⟩ = some (.int .u8 (d : Int))) :
    Calls Tryz.prog 40 #[.slice (some ⟨b, o, none⟩) (q + 4) c] w (FGot (frGet l) w) := by
  have hl := hr.1
  obtain ⟨inp, hinp⟩ : ∃ i, i = l.take q := ⟨_, rfl⟩
  have hil : inp.length = q := by rw [hinp]; simp; omega
  have hcq : ¬ c = q := by omega
  have hri : Rd w.drew (some ⟨b, o, none⟩) q inp := by
    have h := (hr.part (lo := 0) (m := q) (by omega) (some ⟨b, o, none⟩) (fun _ b' o' e => by injection e with e; injection e with e1 e2; rw [e1, e2]; rfl)).drew
    rw [List.drop_zero, <- hinp] at h
    exact h
  have hrt : Rd w.drew (some ⟨b, o + q, none⟩) 4 (l.drop q) := by
    have h := (hr.part (lo := q) (m := 4) (by omega) (some ⟨b, o + q, none⟩) (fun _ b' o' e => by injection e with e; injection e with e1 e2; rw [e1, e2])).drew
    rw [List.take_of_length_le (by simp; omega)] at h
    exact h
  have CO := hi_ (ROf_any (some ⟨b, o, none⟩) q c inp w.drew hri (by omega))
  have hsum := sumL_lt inp
  obtain ⟨sm, hsm⟩ : ∃ s, s = sumL inp := ⟨_, rfl⟩
  rw [<- hsm] at CO hsum
  have CN := hi_ (RNumS_any 4 (by decide) (by decide) (sm : Int) w.drew)
  have hcv : IntKind.i64.wrap (sm : Int) = sm := IntWalk.i64_in _ (by omega)
  have F : frGet l = if numB 4 (sm : Int) ≠ l.drop q then ([], 11) else if 64 < (l.getD 0 0).toNat then ([], 13) else if (getsL inp (l.getD 0 0).toNat 1).2.1 ≠ 0 then ([], (getsL inp (l.getD 0 0).toNat 1).2.1) else if (getsL inp (l.getD 0 0).toNat 1).2.2 < q then ([], 11) else ((getsL inp (l.getD 0 0).toNat 1).1, 0) := by
    have e : l.length - 4 = q := by omega
    unfold frGet
    rw [e, <- hinp, <- hsm, if_neg (by omega)]
  have HRT := hi_ hrt
  have hwq : IntKind.i64.wrap (q : Int) = (q : Int) := IntWalk.i64_in _ (by omega)
  have hqn : (q : Int) <= (q : Int) + 4 := by omega
  rw [<- hinp, <- hsm] at hs
  have HS := hi_ hs
  rw [F, if_neg (fun h => h hs), hd, if_neg (by omega)]
  obtain ⟨res, hres⟩ : ∃ r, r = (if (getsL inp d 1).2.1 ≠ 0 then (([], (getsL inp d 1).2.1) : List Cd × Int) else if (getsL inp d 1).2.2 < q then ([], 11) else ((getsL inp d 1).1, 0)) := ⟨_, rfl⟩
  rw [<- hres]
  have HRES := hi_ hres
  have HRI := hi_ (show Rd w (some ⟨b, o, none⟩) q inp from by
    have h := hr.part (lo := 0) (m := q) (by omega) (some ⟨b, o, none⟩) (fun _ b' o' e => by injection e with e; injection e with e1 e2; rw [e1, e2]; rfl)
    rw [List.drop_zero, <- hinp] at h
    exact h)
  have HIL := hi_ hil
  have H0 := hi_ h0
  clear hr hl hinp hil hri hrt F hs hsm hd h0 hres
  go_enter Tryz.func40, Tryz.ntmps40
  go_upto_region 4 with fail
  refine wp_region_noPanic ?_
  refine wp_region_held_drew (S := fun W => True) (by kernel_rfl) trivial (fun hHeld => ?_)
  refine tj_ 0 ⟨some 19, .move (.tmp 4), 42, "ref.go:39", #[], none⟩ hHeld (h := ?_)
  refine tj_ 4 ⟨some 23, .move (.tmp 0), 42, "ref.go:39", #[], none⟩ hHeld (h := ?_)
  refine tj_ 5 ⟨some 24, .move (.tmp 0), 42, "ref.go:39", #[], none⟩ hHeld (h := ?_)
  refine tj_ 6 ⟨some 25, .call { callee := .builtin .len, args := #[.tmp 24], argTypes := #[42] }, 3, "ref.go:39", #[⟨5, .data⟩], none⟩ hHeld (h := ?_)
  refine tj_ 7 ⟨some 26, .binOp .sub 3 (.tmp 25) (.const (.int .i64 4)) 3, 3, "ref.go:39", #[⟨6, .data⟩], none⟩ hHeld (h := ?_)
  refine tj_ 8 ⟨some 27, .slice 42 (.tmp 23) (some (.tmp 26)) none none, 42, "ref.go:39", #[⟨4, .data⟩, ⟨7, .data⟩], none⟩ hHeld (h := ?_)
  refine wpAnyH_ready (rs := [1]) (by kernel_rfl) (by simp) ?_
  refine AllReadyH.cons (o := ⟨some 20, .call { callee := .value (.func 31), args := #[.tmp 19], argTypes := #[42] }, 65, "ref.go:39", #[⟨0, .data⟩], none⟩) rfl (fun K' hK => ?_) AllReadyH.nil
  go_simp
  go_at_call 31; refine CO.out.mono ?_; rintro e w' ⟨rfl, hw'⟩; subst hw'
  refine hK.out _ _ trivial (fun hHeld => ?_)
  clear hK K'
  try simp only [Act.put, sA_, sB_, sC_]
  refine tj_ 2 ⟨some 21, .convert 65 3 (.tmp 20), 3, "ref.go:39", #[⟨1, .data⟩], none⟩ hHeld (h := ?_)
  refine wpAnyH_ready (rs := [3]) (by kernel_rfl) (by simp) ?_
  refine AllReadyH.cons (o := ⟨some 22, .call { callee := .value (.func 29), args := #[.const (.int .i64 4), .tmp 21], argTypes := #[3, 3] }, 42, "ref.go:39", #[⟨2, .data⟩, ⟨1, .chain⟩], none⟩) rfl (fun K' hK => ?_) AllReadyH.nil
  go_simp
  go_at_call 29; refine CN.out.mono ?_; rintro e w2 ⟨v2, rfl, ho2, hb2⟩
  obtain ⟨A2, c2, rfl, _, _, hr2⟩ := Rd.of_own ho2 rfl
  have R2 := hi_ (And.intro hr2 (show Below w.heap.size w w2 from (show Below w.heap.size w w.drew from (Below.refl _ _).drew).trans hb2))
  have CS := hi_ (Same_any A2 (some ⟨b, o + q, none⟩) 4 c2 4 (c - q) _ _ w2 hr2 (HRT.out.below (Nat.le_refl _) hb2))
  clear hr2 ho2 hb2
  refine hK.out _ _ trivial (fun hHeld => ?_)
  clear hK K'
  try simp only [Act.put, sA_, sB_, sC_]
  refine wpAnyH_ready (rs := [9]) (by kernel_rfl) (by simp) ?_
  refine AllReadyH.cons (o := ⟨some 28, .call { callee := .value (.func 24), args := #[.tmp 22, .tmp 27], argTypes := #[42, 42] }, 4, "ref.go:39", #[⟨3, .data⟩, ⟨8, .data⟩, ⟨3, .chain⟩], none⟩) rfl (fun K' hK => ?_) AllReadyH.nil
  go_simp
  have CS2 := CS.out
  rw [decide_eq_true HS.out] at CS2
  go_at_call 24; refine CS2.mono ?_; rintro e w' ⟨rfl, hw'⟩; subst hw'
  refine hK.out _ _ trivial (fun hHeld => ?_)
  clear hK K'
  try simp only [Act.put, sA_, sB_, sC_]
  refine tj_ 10 ⟨some 29, .unOp .not 4 (.tmp 28), 4, "ref.go:39", #[⟨9, .data⟩], none⟩ hHeld (h := ?_)
  refine wpAnyH_done (by kernel_rfl) ?_ _
  refine NoPanic.normal ?_
  clear hHeld
  have q0 : w2.cell? ⟨b, o, none⟩ = some (.int .u8 (d : Int)) := (R2.out.2.cell (p := ⟨b, o, none⟩) hlt).trans H0.out
  go_wp2
  clear q0
  go_loopw [5, 6, 7] (fun lv av iv wr => ∃ (j a : Nat) (ys : List Cd) (vs : List Value) (D : Nat -> Prop), j <= d /\ iv = .int .i64 j /\ av = .int .i64 a /\ Hid (getsL inp d 1 = (ys ++ (getsL inp (d - j) a).1, (getsL inp (d - j) a).2.1, (getsL inp (d - j) a).2.2)) /\ a <= q /\ Hid (ys.length = j) /\ Gr ECd 61 6 wr w.heap.size lv vs D ys /\ Below w.heap.size w wr) (fun _ _ iv _ => d - (intOf iv).toNat)
  case atStart => exact ⟨0, 1, [], [], fun _ => False, Nat.zero_le _, rfl, rfl, hi_ (by simp), by omega, hi_ rfl, by simpa using Gr.start (E := ECd) (World.ownsRow_nil _ _ _ _) R2.out.2.size, R2.out.2⟩
  case round =>
    obtain ⟨j, a, ys, vs, D, hj, rfl, rfl, hgs, haq, hyl, hG, hb⟩ := hrel
    have HBw := hi_ hb
    have q0 : wr.cell? ⟨b, o, none⟩ = some (.int .u8 (d : Int)) := (hb.cell (p := ⟨b, o, none⟩) hlt).trans H0.out
    by_cases hjd : j < d
    · have CG := RGetCL_any (some ⟨b, o, none⟩) q c inp wr (a : Int) (HRI.out.below (Nat.le_refl _) hb) hq2 (by omega)
      have ea : getAt inp (a : Int) = ((getCd (inp.drop a)).1, if (getCd (inp.drop a)).2.2 = 0 then (a : Int) + (getCd (inp.drop a)).2.1 else 0, (getCd (inp.drop a)).2.2) := by unfold getAt; rw [if_neg (by have := HIL.out; omega), Int.toNat_natCast]
      have egs : getsL inp (d - j) a = (if (getCd (inp.drop a)).2.2 ≠ 0 then ([], (getCd (inp.drop a)).2.2, a) else ((getCd (inp.drop a)).1 :: (getsL inp (d - (j + 1)) (a + (getCd (inp.drop a)).2.1)).1, (getsL inp (d - (j + 1)) (a + (getCd (inp.drop a)).2.1)).2.1, (getsL inp (d - (j + 1)) (a + (getCd (inp.drop a)).2.1)).2.2)) := by
        rw [show d - j = (d - (j + 1)) + 1 by omega]
        rfl
      have hle := getCd_le (inp.drop a)
      obtain ⟨⟨x, u, er⟩, hx⟩ : ∃ g, g = getCd (inp.drop a) := ⟨_, rfl⟩
      rw [ea, <- hx] at CG
      rw [<- hx] at egs hle
      simp only at CG egs hle
      have HLE := hi_ hle
      have HEG := hi_ egs
      have HG := hi_ hG
      have HAQ := hi_ haq
      unfold GetL at CG
      by_cases he : er = 0
      · subst he
        rw [if_pos rfl] at CG
        have CG2 := hi_ CG
        have hjb : j + 1 <= 65 := by omega
        clear ea egs hx hle CG hG hb haq
        go_wp2_with (first
          | (go_at_call 53; refine CG2.out.mono ?_; rintro e w5 ⟨A1, n1, c1, rfl, hr1, hc1, hb5, hlo1⟩
             obtain ⟨w6, hw6⟩ : ∃ w6, w6 = w5.alloc (.cells (x.cs A1 n1 c1) 61) := ⟨_, rfl⟩
             have hb6 : Below w5.heap.size w5 w6 := (by rw [hw6]; exact (Below.refl _ _).alloc (Nat.le_refl _) _)
             have R6 := hi_ (show Rec 61 w6 w5.heap.size (x.cs A1 n1 c1) by rw [hw6]; exact Rec.new w5 _ _)
             obtain ⟨w7, hw7⟩ : ∃ w7, w7 = w6.alloc (.cells (x.cs A1 n1 c1) 61) := ⟨_, rfl⟩
             have hb7 : Below w6.heap.size w6 w7 := (by rw [hw7]; exact (Below.refl _ _).alloc (Nat.le_refl _) _)
             have hb67 : Below w5.heap.size w5 w7 := hb6.trans (hb7.mono hb6.size)
             have HV7 : Hid (VRow (fun y => w6.heap.size <= y) w7 (some ⟨w6.heap.size, 0, none⟩) 1 6 (x.cs A1 n1 c1).toList) := hi_ (by rw [hw7]; exact VRow.new w6 (x.cs A1 n1 c1) _ 1 6 rfl)
             have hb57 : Below wr.heap.size wr w7 := hb5.trans (hb67.mono hb5.size)
             have G7 := hi_ (HG.out.below ECd.ok hb57)
             have HE7 := hi_ (show ECd (fun y => y < w.heap.size) w7 x (x.cs A1 n1 c1).toList from ⟨A1, n1, c1, rfl, ⟨A1, n1, c1, rfl, hr1.below (Nat.le_refl _) hb67, fun b' o' e hp => by
               obtain ⟨o2, e2⟩ := hlo1 b' o' e hp
               injection e2 with e2
               injection e2 with e3 e4
               exact ⟨by show b' < w.heap.size; omega, by have := HBw.out.size; have := hb57.size; omega⟩⟩, hc1⟩)
             have H7 := hi_ (HBw.out.trans (hb57.mono HBw.out.size))
             have G5 := hi_ (show w5.heap.size < w6.heap.size by have := R6.out.lt; exact this)
             clear hr1 hc1 hb5 hb6 hb7 hb67 hb57 hlo1 CG2)
          | (rw [<- hw6]; clear hw6)
          | ((with_reducible refine wpList_ldS cdT rfl rfl (.tmp 8) rfl rfl R6.out ?_))
          | (rw [<- hw7]; clear hw7)
          | (at_builtin; refine wpList_appX cdsT rfl (.tmp 52) (.tmp 54) rfl w.heap.size _ j vs rfl (by have := G7.out.ow; rw [hyl.out] at this; exact this) (some ⟨w6.heap.size, 0, none⟩) 1 1 (x.cs A1 n1 c1).toList rfl HV7.out (cs_one _ _ _ _) (by omega) (by decide) G7.out.Bw ?_; intro v12 w12 ho12 hg12 hv12
             have G12 := hi_ (G7.out.put ECd.ok rfl HE7.out (fun y hy e => by have := own_geB G7.out.ow e; omega) (by rw [hyl.out]; exact ho12) hg12 hv12)
             have F12 := hi_ (H7.out.trans ((Fr.grown (own := fun y => w.heap.size <= y) hg12 (fun x hx => (own_geB G7.out.ow hx).1)).toBelow (fun _ h => h) G7.out.Bw))
             clear ho12 hg12 hv12))
        go_roundw
        case rel => exact ⟨j + 1, a + u, ys ++ [x], _, _, hjd, by go_num, by go_num, hi_ (by rw [hgs.out, HEG.out]; simp), by have := HLE.out trivial; have := HIL.out; have := HAQ.out; rw [List.length_drop] at *; omega, hi_ (by rw [List.length_append, hyl.out]; rfl), G12.out, F12.out⟩
        case measure => simp [intOf]; omega
      · have hne : (er != 0) = true := bne_iff_ne.2 he
        rw [if_neg he] at CG
        have CG2 := hi_ CG
        have HF := hi_ (show getsL inp d 1 = (ys ++ [], er, a) by rw [hgs.out, HEG.out, if_pos he])
        have HE := hi_ he
        clear ea egs hx hle CG hG hb haq he HEG HLE hgs
        go_wp2_with (first
          | (go_at_call 53; refine CG2.out.mono ?_; rintro e w5 ⟨A1, n1, c1, rfl, hr1, hc1, hb5, hlo1⟩
             have H5 := hi_ ((HBw.out.trans (hb5.mono HBw.out.size)).alloc ((HBw.out.trans (hb5.mono HBw.out.size)).size) (.cells (x.cs A1 n1 c1) 61))
             clear hr1 hc1 hb5 hlo1 CG2))
        go_ret2
        rw [HRES.out, HF.out]
        simp only
        rw [if_pos HE.out]
        exact FGot.fault er H5.out
    · obtain rfl : j = d := Nat.le_antisymm hj (Nat.le_of_not_lt hjd)
      have HF := hi_ (show getsL inp j 1 = (ys, 0, a) by rw [hgs.out, Nat.sub_self]; simp [getsL])
      obtain ⟨A2, c2, hov, _, _, hrw⟩ := hG.rows ECd.ok
      rw [hyl.out] at hov hrw
      subst hov
      have HRW := hi_ hrw
      clear hrw hG hgs hb
      by_cases hend : a < q
      · go_wp2
        go_ret2
        rw [HRES.out, HF.out]
        simp only [ne_eq, not_true_eq_false, if_false]
        rw [if_pos hend]
        exact FGot.fault 11 HBw.out
      · go_wp2
        go_ret2
        rw [HRES.out, HF.out]
        simp only [ne_eq, not_true_eq_false, if_false]
        rw [if_neg hend]
        exact ⟨A2, j, c2, rfl, CdsV.mono HRW.out (fun _ _ => trivial), HBw.out⟩
theorem RFGet_any (A : Option Addr) (n : Nat) (hr : Rd w A n l) (hn : n <= 20004) (hc : n <= c) : Calls Tryz.prog 40 #[.slice A n c] w (FGot (frGet l) w) := by
  by_cases h5 : n < 5
  · exact RFGet_short c l w A n hr.1 h5
  obtain ⟨q, rfl⟩ : ∃ q, n = q + 4 := ⟨n - 4, by omega⟩
  obtain ⟨b, o, rfl, hlt, hcell⟩ := hr.2 (by omega)
  have hl := hr.1
  have h0 := hcell 0 (by omega)
  rw [Nat.add_zero] at h0
  have h0' : (l.getD 0 0).toNat = (l[0]'(by omega)).toNat := by rw [List.getD_eq_getElem?_getD, List.getElem?_eq_getElem (by omega)]; rfl
  by_cases hs : numB 4 ((sumL (l.take q) : Nat) : Int) = l.drop q
  · by_cases h64 : 64 < (l[0]'(by omega)).toNat
    · exact RFGet_many b o q c l w hr hlt (by omega) (by omega) hc hs _ h0' h64 h0
    · exact RFGet_loop b o q c l w hr hlt (by omega) (by omega) hc hs _ h0' (by omega) h0
  · exact RFGet_sum b o q c l w hr hlt (by omega) (by omega) hc hs
end
end Go.Proofs.YthabmlbmlncbmaaGreat
