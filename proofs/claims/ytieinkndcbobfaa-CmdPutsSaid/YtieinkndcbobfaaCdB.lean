/- The contracts of Plain and the reference's Plain (written by gen_cdb.py). -/
import Derived.Test.YtieinkndcbobfaaCdA
import Derived.Test.YtieinkndcbobfaaByC
import Derived.Deep.RegionHeld3
import Derived.Deep.DeepCutAuto
namespace Go.Proofs.Ytieinkndcbobfaa
open Go.RowKit
set_option linter.unusedVariables false
set_option maxRecDepth 20000

/-- While what counts of a command is laid together: the command's box, the answer's block, what has told (if it was asked), the answer so far. -/
structure PS (w0 W : World) (x : Cd) (A : Option Addr) (n c g3 g5 : Nat) (tv : Option (Array Value)) (cs : Array Value) : Prop where
  k : CdAt w0 W w0.heap.size x A n c
  r2 : Rec 26 W (w0.heap.size + 1) (Cd.zero.cs none 0 0)
  r3 : ∀ t, tv = some t → Rec 46 W g3 t
  r5 : Rec 26 W g5 cs
  h3 : w0.heap.size + 1 < g5
  n3 : tv ≠ none → g3 ≠ g5
section
variable {w0 W W' : World} {x : Cd} {A : Option Addr} {n c g3 g5 : Nat} {tv : Option (Array Value)} {cs : Array Value}
theorem PS.below (h : PS w0 W x A n c g3 g5 tv cs) (hb : Below W.heap.size W W') : PS w0 W' x A n c g3 g5 tv cs := ⟨h.k.next hb, h.r2.under hb, fun t e => (h.r3 t e).under hb, h.r5.under hb, h.h3, h.n3⟩
theorem PS.fr (h : PS w0 W x A n c g3 g5 tv cs) (hA : ∀ b o, A = some ⟨b, o, none⟩ → 0 < n → b < w0.heap.size) (hf : Fr (· = g5) W W') {cs' : Array Value} (hr : Rec 26 W' g5 cs') : PS w0 W' x A n c g3 g5 tv cs' :=
  have h3 := h.h3
  ⟨⟨h.k.r.fr hf (fun e => by omega), h.k.rd.fr hf (fun b o e hp e' => by have := hA b o e hp; omega), h.k.bel.trans (hf.toBelow (fun y hy => by have : y = g5 := hy; omega) h.k.bel.size), h.k.hg⟩,
   h.r2.fr hf (fun e => by omega), fun t e => (h.r3 t e).fr hf (h.n3 (by rw [e]; simp)), hr, h.h3, h.n3⟩
theorem PS.set (h : PS w0 W x A n c g3 g5 tv cs) (hA : ∀ b o, A = some ⟨b, o, none⟩ → 0 < n → b < w0.heap.size) (i : Nat) (v : Value) : PS w0 (W.setCell ⟨g5, i, none⟩ v) x A n c g3 g5 tv (cs.setIfInBounds i v) :=
  h.fr hA (Fr.setCell W (own := (· = g5)) (p := ⟨g5, i, none⟩) rfl v) (h.r5.set i v)
/-- What counts of x. -/
def PlainP (x : Cd) (w : World) (e : Ending) (w' : World) : Prop := ∃ A n c, e = .returned (.agg (x.plain.cs A n c)) ∧ Rd w' A n x.plain.dt ∧ n ≤ c ∧ Below w.heap.size w w'
theorem PS.done (h : PS w0 W x A n c g3 g5 tv cs) (hf : Fr (· = w0.heap.size + 1) W W') : Below w0.heap.size w0 W' := h.k.bel.trans (hf.toBelow (fun y hy => by have : y = w0.heap.size + 1 := hy; omega) h.k.bel.size)
theorem Rd.lo {w : World} {A : Option Addr} {n : Nat} {l : List UInt8} (h : Rd w A n l) (b o : Nat) (e : A = some ⟨b, o, none⟩) (hp : 0 < n) : b < w.heap.size := by
  obtain ⟨b', o', e', hlt, _⟩ := h.2 hp
  rw [e] at e'
  injection e' with e'
  injection e' with e1 e2
  omega
end
theorem own_lo' {w : World} {B : Nat} {e : TypeId} {n m c : Nat} {A : Option Addr} {xs : List Value} (h : w.ownsRow B e 1 (.slice A m c) n xs) (b o : Nat) (hA : A = some ⟨b, o, none⟩) : B ≤ b := by
  rcases h.2 with ⟨h1, _⟩ | ⟨g, cap, cur, hv, hB, _⟩
  · injection h1 with h1; rw [hA] at h1; cases h1
  · injection hv with h1
    rw [hA] at h1
    injection h1 with h1
    injection h1 with h1
    omega

set_option maxHeartbeats 2000000 in
theorem Plain_0f (ix gn cp : Int) (dt : List UInt8) (A : Option Addr) (n c : Nat) (w : World) (h : Rd w A n dt) (hn : n ≤ 140737488355328) :
    Calls Try.prog 11 #[.agg (Cd.cs ⟨0, false, ix, gn, cp, dt⟩ A n c)] w (PlainP ⟨0, false, ix, gn, cp, dt⟩ w) := by
  obtain ⟨w1, hw1⟩ : ∃ w1, w1 = (w.alloc (.cells (Cd.cs ⟨0, false, ix, gn, cp, dt⟩ A n c) 26)).alloc (.cells (Cd.zero.cs none 0 0) 26) := ⟨_, rfl⟩
  have K1 : CdAt w w1 w.heap.size ⟨0, false, ix, gn, cp, dt⟩ A n c := by rw [hw1]; exact (CdAt.new w ⟨0, false, ix, gn, cp, dt⟩ A n c h).next ((Below.refl _ _).alloc (Nat.le_refl _) _)
  have R1 : Rec 26 w1 (w.heap.size + 1) (Cd.zero.cs none 0 0) := by
    have := Rec.new (w.alloc (.cells (Cd.cs ⟨0, false, ix, gn, cp, dt⟩ A n c) 26)) 26 (Cd.zero.cs none 0 0)
    rw [World.size_alloc] at this
    rw [hw1]; exact this
  have hA := h.lo
  have hv : Calls Try.prog 22 #[.int .i64 0] w1 fun e w' => e = .returned (.tuple #[.agg #[.bool false, .bool false, .bool false], .bool true]) ∧ Below w1.heap.size w1 w' := (has_any 0 w1).mono fun e w' hp => by simpa [HasP, hasV, hasB] using hp
  have HV := Lib.hid hv
  have HA := Lib.hid hA
  have c0 := K1.c0
  have HK := Lib.hid (And.intro K1 R1)
  clear h hA hv K1 R1
  go_enter Try.func11, Try.ntmps11
  go_wp2_with (first
    | (rw [← hw1]; clear hw1)
    | (go_at_call 22; refine HV.out.mono ?_; rintro e w2 ⟨rfl, hb2⟩
       have HB2 := Lib.hid (And.intro hb2 (And.intro (HK.out.1.next hb2) (HK.out.2.under hb2)))
       obtain ⟨w3, hw3⟩ : ∃ w3, w3 = w2.alloc (.cells #[.bool false, .bool false, .bool false] 46) := ⟨_, rfl⟩
       have T3 := Lib.hid (show Rec 46 w3 w2.heap.size #[.bool false, .bool false, .bool false] by rw [hw3]; exact Rec.new w2 _ _)
       have B3 := Lib.hid (show Below w2.heap.size w2 w3 by rw [hw3]; exact (Below.refl _ _).alloc (Nat.le_refl _) _)
       clear hb2)
    | (rw [← hw3]; clear hw3)
    | ((with_reducible refine wpList_stS (cs' := #[.bool false, .bool false, .bool false]) trT rfl rfl (by simp [Value.oneCell']) rfl (.tmp 3) (.tmp 10) rfl rfl rfl T3.out ?_); intro w4 hR4 hF4
       have hb4 : Below w2.heap.size w2 w4 := B3.out.trans (hF4.toBelow (fun y hy => by have : y = w2.heap.size := hy; omega) B3.out.size)
       have K4 := HB2.out.2.1.next hb4
       have R4 := HB2.out.2.2.under hb4
       have c04 := K4.c0
       have t40 := hR4.at_ 0
       obtain ⟨w5, hw5⟩ : ∃ w5, w5 = w4.alloc (.cells #[.int .i64 0, .bool false, .int .i64 0, .int .i64 0, .int .i64 0, .slice none 0 0] 26) := ⟨_, rfl⟩
       have hb5 : Below w4.heap.size w4 w5 := by rw [hw5]; exact (Below.refl _ _).alloc (Nat.le_refl _) _
       have R5 := Lib.hid (show Rec 26 w5 w4.heap.size #[.int .i64 0, .bool false, .int .i64 0, .int .i64 0, .int .i64 0, .slice none 0 0] by rw [hw5]; exact Rec.new w4 _ _)
       have H5 := Lib.hid (And.intro (K4.next hb5) (And.intro (R4.under hb5) (And.intro (hR4.under hb5) R4.lt)))
       have L5 := Lib.hid hR4.lt
       obtain ⟨g5, hg5⟩ : ∃ g5, g5 = w4.heap.size := ⟨_, rfl⟩
       rw [← hg5] at R5
       have G5 := Lib.hid hg5
       clear K4 R4 hR4 hF4 hb4 hb5 hg5 T3 c0)
    | (rw [← hw5, ← G5.out]; clear hw5)
    | ((with_reducible refine wpList_stS (cs' := #[.int .i64 0, .bool false, .int .i64 0, .int .i64 0, .int .i64 0, .slice none 0 0]) cdT rfl rfl (by simp [Value.oneCell']) rfl (.tmp 5) (.tmp 21) rfl rfl rfl R5.out ?_); intro w6 hR6 hF6
       have R6 := Lib.hid hR6
       have F6 := Lib.hid hF6
       have hn6 : w2.heap.size ≠ g5 := by have := L5.out; have := G5.out; omega
       have t60 := (H5.out.2.2.1.fr hF6 hn6).at_ 0
       have t61 := (H5.out.2.2.1.fr hF6 hn6).at_ 1
       have t62 := (H5.out.2.2.1.fr hF6 hn6).at_ 2
       have Z6 := Lib.hid (H5.out.2.1.fr hF6 (by have := H5.out.2.2.2; have := G5.out; omega))
       have B6 := Lib.hid (H5.out.1.bel.trans (hF6.toBelow (B := w.heap.size) (fun y hy => by have : y = g5 := hy; have := H5.out.2.2.2; have := G5.out; omega) H5.out.1.bel.size))
       clear hR6 hF6 t40 c04 R5)
    | ((with_reducible refine wpList_ldS cdT rfl rfl (.tmp 5) rfl rfl R6.out ?_))
    | ((with_reducible refine wpList_stS (cs' := #[.int .i64 0, .bool false, .int .i64 0, .int .i64 0, .int .i64 0, .slice none 0 0]) cdT rfl rfl (by simp [Value.oneCell']) rfl (.tmp 2) (.tmp 45) rfl rfl rfl Z6.out ?_); intro w9 hR9 hF9))
  refine bodyPost_ret (res_c rfl rfl (hR9.load cdT rfl)) rfl ?_
  exact ⟨none, 0, 0, rfl, Rd.nil _ _, Nat.le_refl _, B6.out.trans (hF9.toBelow (fun y hy => by have : y = w.heap.size + 1 := hy; omega) B6.out.size)⟩

set_option maxHeartbeats 2000000 in
theorem Plain_0t (ix gn cp : Int) (dt : List UInt8) (A : Option Addr) (n c : Nat) (w : World) (h : Rd w A n dt) (hn : n ≤ 140737488355328) :
    Calls Try.prog 11 #[.agg (Cd.cs ⟨0, true, ix, gn, cp, dt⟩ A n c)] w (PlainP ⟨0, true, ix, gn, cp, dt⟩ w) := by
  obtain ⟨w1, hw1⟩ : ∃ w1, w1 = (w.alloc (.cells (Cd.cs ⟨0, true, ix, gn, cp, dt⟩ A n c) 26)).alloc (.cells (Cd.zero.cs none 0 0) 26) := ⟨_, rfl⟩
  have K1 : CdAt w w1 w.heap.size ⟨0, true, ix, gn, cp, dt⟩ A n c := by rw [hw1]; exact (CdAt.new w ⟨0, true, ix, gn, cp, dt⟩ A n c h).next ((Below.refl _ _).alloc (Nat.le_refl _) _)
  have R1 : Rec 26 w1 (w.heap.size + 1) (Cd.zero.cs none 0 0) := by
    have := Rec.new (w.alloc (.cells (Cd.cs ⟨0, true, ix, gn, cp, dt⟩ A n c) 26)) 26 (Cd.zero.cs none 0 0)
    rw [World.size_alloc] at this
    rw [hw1]; exact this
  have hA := h.lo
  have hv : Calls Try.prog 22 #[.int .i64 0] w1 fun e w' => e = .returned (.tuple #[.agg #[.bool false, .bool false, .bool false], .bool true]) ∧ Below w1.heap.size w1 w' := (has_any 0 w1).mono fun e w' hp => by simpa [HasP, hasV, hasB] using hp
  have HV := Lib.hid hv
  have HA := Lib.hid hA
  have c0 := K1.c0
  have HK := Lib.hid (And.intro K1 R1)
  clear h hA hv K1 R1
  go_enter Try.func11, Try.ntmps11
  go_wp2_with (first
    | (rw [← hw1]; clear hw1)
    | (go_at_call 22; refine HV.out.mono ?_; rintro e w2 ⟨rfl, hb2⟩
       have HB2 := Lib.hid (And.intro hb2 (And.intro (HK.out.1.next hb2) (HK.out.2.under hb2)))
       obtain ⟨w3, hw3⟩ : ∃ w3, w3 = w2.alloc (.cells #[.bool false, .bool false, .bool false] 46) := ⟨_, rfl⟩
       have T3 := Lib.hid (show Rec 46 w3 w2.heap.size #[.bool false, .bool false, .bool false] by rw [hw3]; exact Rec.new w2 _ _)
       have B3 := Lib.hid (show Below w2.heap.size w2 w3 by rw [hw3]; exact (Below.refl _ _).alloc (Nat.le_refl _) _)
       clear hb2)
    | (rw [← hw3]; clear hw3)
    | ((with_reducible refine wpList_stS (cs' := #[.bool false, .bool false, .bool false]) trT rfl rfl (by simp [Value.oneCell']) rfl (.tmp 3) (.tmp 10) rfl rfl rfl T3.out ?_); intro w4 hR4 hF4
       have hb4 : Below w2.heap.size w2 w4 := B3.out.trans (hF4.toBelow (fun y hy => by have : y = w2.heap.size := hy; omega) B3.out.size)
       have K4 := HB2.out.2.1.next hb4
       have R4 := HB2.out.2.2.under hb4
       have c04 := K4.c0
       have t40 := hR4.at_ 0
       obtain ⟨w5, hw5⟩ : ∃ w5, w5 = w4.alloc (.cells #[.int .i64 0, .bool false, .int .i64 0, .int .i64 0, .int .i64 0, .slice none 0 0] 26) := ⟨_, rfl⟩
       have hb5 : Below w4.heap.size w4 w5 := by rw [hw5]; exact (Below.refl _ _).alloc (Nat.le_refl _) _
       have R5 := Lib.hid (show Rec 26 w5 w4.heap.size #[.int .i64 0, .bool false, .int .i64 0, .int .i64 0, .int .i64 0, .slice none 0 0] by rw [hw5]; exact Rec.new w4 _ _)
       have H5 := Lib.hid (And.intro (K4.next hb5) (And.intro (R4.under hb5) (And.intro (hR4.under hb5) R4.lt)))
       have L5 := Lib.hid hR4.lt
       obtain ⟨g5, hg5⟩ : ∃ g5, g5 = w4.heap.size := ⟨_, rfl⟩
       rw [← hg5] at R5
       have G5 := Lib.hid hg5
       clear K4 R4 hR4 hF4 hb4 hb5 hg5 T3 c0)
    | (rw [← hw5, ← G5.out]; clear hw5)
    | ((with_reducible refine wpList_stS (cs' := #[.int .i64 0, .bool false, .int .i64 0, .int .i64 0, .int .i64 0, .slice none 0 0]) cdT rfl rfl (by simp [Value.oneCell']) rfl (.tmp 5) (.tmp 21) rfl rfl rfl R5.out ?_); intro w6 hR6 hF6
       have R6 := Lib.hid hR6
       have F6 := Lib.hid hF6
       have hn6 : w2.heap.size ≠ g5 := by have := L5.out; have := G5.out; omega
       have t60 := (H5.out.2.2.1.fr hF6 hn6).at_ 0
       have t61 := (H5.out.2.2.1.fr hF6 hn6).at_ 1
       have t62 := (H5.out.2.2.1.fr hF6 hn6).at_ 2
       have Z6 := Lib.hid (H5.out.2.1.fr hF6 (by have := H5.out.2.2.2; have := G5.out; omega))
       have B6 := Lib.hid (H5.out.1.bel.trans (hF6.toBelow (B := w.heap.size) (fun y hy => by have : y = g5 := hy; have := H5.out.2.2.2; have := G5.out; omega) H5.out.1.bel.size))
       clear hR6 hF6 t40 c04 R5)
    | ((with_reducible refine wpList_ldS cdT rfl rfl (.tmp 5) rfl rfl R6.out ?_))
    | ((with_reducible refine wpList_stS (cs' := #[.int .i64 0, .bool false, .int .i64 0, .int .i64 0, .int .i64 0, .slice none 0 0]) cdT rfl rfl (by simp [Value.oneCell']) rfl (.tmp 2) (.tmp 45) rfl rfl rfl Z6.out ?_); intro w9 hR9 hF9))
  refine bodyPost_ret (res_c rfl rfl (hR9.load cdT rfl)) rfl ?_
  exact ⟨none, 0, 0, rfl, Rd.nil _ _, Nat.le_refl _, B6.out.trans (hF9.toBelow (fun y hy => by have : y = w.heap.size + 1 := hy; omega) B6.out.size)⟩

set_option maxHeartbeats 2000000 in
theorem Plain_1f (ix gn cp : Int) (dt : List UInt8) (A : Option Addr) (n c : Nat) (w : World) (h : Rd w A n dt) (hn : n ≤ 140737488355328) :
    Calls Try.prog 11 #[.agg (Cd.cs ⟨1, false, ix, gn, cp, dt⟩ A n c)] w (PlainP ⟨1, false, ix, gn, cp, dt⟩ w) := by
  obtain ⟨w1, hw1⟩ : ∃ w1, w1 = (w.alloc (.cells (Cd.cs ⟨1, false, ix, gn, cp, dt⟩ A n c) 26)).alloc (.cells (Cd.zero.cs none 0 0) 26) := ⟨_, rfl⟩
  have K1 : CdAt w w1 w.heap.size ⟨1, false, ix, gn, cp, dt⟩ A n c := by rw [hw1]; exact (CdAt.new w ⟨1, false, ix, gn, cp, dt⟩ A n c h).next ((Below.refl _ _).alloc (Nat.le_refl _) _)
  have R1 : Rec 26 w1 (w.heap.size + 1) (Cd.zero.cs none 0 0) := by
    have := Rec.new (w.alloc (.cells (Cd.cs ⟨1, false, ix, gn, cp, dt⟩ A n c) 26)) 26 (Cd.zero.cs none 0 0)
    rw [World.size_alloc] at this
    rw [hw1]; exact this
  have hA := h.lo
  have hv : Calls Try.prog 22 #[.int .i64 1] w1 fun e w' => e = .returned (.tuple #[.agg #[.bool true, .bool false, .bool false], .bool true]) ∧ Below w1.heap.size w1 w' := (has_any 1 w1).mono fun e w' hp => by simpa [HasP, hasV, hasB] using hp
  have HV := Lib.hid hv
  have HA := Lib.hid hA
  have c0 := K1.c0
  have HK := Lib.hid (And.intro K1 R1)
  clear h hA hv K1 R1
  go_enter Try.func11, Try.ntmps11
  go_upto_region 7 with (first
    | (rw [← hw1]; clear hw1)
    | (go_at_call 22; refine HV.out.mono ?_; rintro e w2 ⟨rfl, hb2⟩
       have K2 := HK.out.1.next hb2
       have R2 := HK.out.2.under hb2
       have l2 := R2.lt
       obtain ⟨w3, hw3⟩ : ∃ w3, w3 = w2.alloc (.cells #[.bool true, .bool false, .bool false] 46) := ⟨_, rfl⟩
       have hb3 : Below w2.heap.size w2 w3 := by rw [hw3]; exact (Below.refl _ _).alloc (Nat.le_refl _) _
       have T3 : Rec 46 w3 w2.heap.size #[.bool true, .bool false, .bool false] := by rw [hw3]; exact Rec.new w2 _ _
       obtain ⟨w4, hw4⟩ : ∃ w4, w4 = w3.alloc (.cells #[.int .i64 1, .bool false, .int .i64 0, .int .i64 0, .int .i64 0, .slice none 0 0] 26) := ⟨_, rfl⟩
       have hb4 : Below w3.heap.size w3 w4 := by rw [hw4]; exact (Below.refl _ _).alloc (Nat.le_refl _) _
       have c03 : w3.cell? ⟨w.heap.size, 0, none⟩ = some (.int .i64 1) := (K2.next hb3).c0
       have r4 : Rec 26 w4 w3.heap.size #[.int .i64 1, .bool false, .int .i64 0, .int .i64 0, .int .i64 0, .slice none 0 0] := by rw [hw4]; exact Rec.new w3 _ _
       have t4 := T3.under hb4
       have P4 := Lib.hid (show PS w w4 ⟨1, false, ix, gn, cp, dt⟩ A n c w2.heap.size w3.heap.size (some #[.bool true, .bool false, .bool false]) #[.int .i64 1, .bool false, .int .i64 0, .int .i64 0, .int .i64 0, .slice none 0 0] from
         ⟨(K2.next hb3).next hb4, (R2.under hb3).under hb4, fun t e => by injection e with e; rw [← e]; exact t4, r4, by have := hb3.size; omega, fun _ => by have := T3.lt; omega⟩)
       have t40 := t4.at_ 0
       obtain ⟨g3, hg3⟩ : ∃ g3, g3 = w2.heap.size := ⟨_, rfl⟩
       obtain ⟨g5, hg5⟩ : ∃ g5, g5 = w3.heap.size := ⟨_, rfl⟩
       rw [← hg3] at t40
       rw [← hg3, ← hg5] at P4
       have G := Lib.hid (And.intro hg3 hg5)
       clear K2 R2 hb2 hb3 hb4 T3 r4 t4 c0 l2 hg3 hg5)
    | (rw [← hw3, ← G.out.1]; clear hw3)
    | (rw [← hw4, ← G.out.2]; clear hw4))
  have P4d := P4.out.below (Below.refl _ _).drew
  have s4 : w4.drew.cell? ⟨w.heap.size, 1, none⟩ = some (.bool false) ∧ w4.drew.cell? ⟨w.heap.size, 2, none⟩ = some (.int .i64 ix) ∧ w4.drew.cell? ⟨w.heap.size, 3, none⟩ = some (.int .i64 gn) := ⟨P4d.k.c1, P4d.k.c2, P4d.k.c3⟩
  have P4D := Lib.hid P4d
  clear t40 P4 c03 P4d
  have k1 := P4D.out.r5.at_ 1
  have z1 := P4D.out.r5.fz 1
  have k2 := P4D.out.r5.at_ 2
  have z2 := P4D.out.r5.fz 2
  have k3 := P4D.out.r5.at_ 3
  have z3 := P4D.out.r5.fz 3
  refine wp_region_noPanic ?_
  refine wp_region_held_drew (S := fun W => W.cell? ⟨w.heap.size, 1, none⟩ = some (.bool false) ∧ W.cell? ⟨w.heap.size, 2, none⟩ = some (.int .i64 ix) ∧ W.cell? ⟨w.heap.size, 3, none⟩ = some (.int .i64 gn)) (by kernel_rfl) s4 (fun hHeld => ?_)
  refine wpAnyH_take (i := 0) (oi := { dst := some 24, op := Op.fieldAddr 26 (Operand.tmp 1) 1, type := 0, pos := "cmd.go:50", after := #[], guard := none }) (v := ?_) rfl (by kernel_rfl) (by kernel_rfl) (by kernel_rfl) (fun _ _ _ h => h) (Or.inl ⟨by rfl, ?_⟩) (by assumption) ?_
  rotate_left 1
  · intro w' hSw; (try dsimp only at hSw); go_simp; (try with_reducible rfl)
  simp only [Act.put, List.setIfInBounds_toArray, List.set_cons_zero, List.set_cons_succ]
  refine wpAnyH_take (i := 1) (oi := { dst := some 25, op := Op.load 4 (Operand.tmp 24), type := 4, pos := "cmd.go:50", after := #[{ on := 0, ground := Ground.data }], guard := none }) (v := ?_) rfl (by kernel_rfl) (by kernel_rfl) (by kernel_rfl) (fun _ _ _ h => h) (Or.inl ⟨by rfl, ?_⟩) (by assumption) ?_
  rotate_left 1
  · intro w' hSw; (try dsimp only at hSw); go_simp; (try with_reducible rfl)
  simp only [Act.put, List.setIfInBounds_toArray, List.set_cons_zero, List.set_cons_succ]
  refine wpAnyH_take (i := 2) (oi := { dst := some 26, op := Op.fieldAddr 26 (Operand.tmp 1) 2, type := 0, pos := "cmd.go:50", after := #[{ on := 5, ground := Ground.gcOnly Departure.lateStores }], guard := none }) (v := ?_) rfl (by kernel_rfl) (by kernel_rfl) (by kernel_rfl) (fun _ _ _ h => h) (Or.inl ⟨by rfl, ?_⟩) (by assumption) ?_
  rotate_left 1
  · intro w' hSw; (try dsimp only at hSw); go_simp; (try with_reducible rfl)
  simp only [Act.put, List.setIfInBounds_toArray, List.set_cons_zero, List.set_cons_succ]
  refine wpAnyH_take (i := 3) (oi := { dst := some 27, op := Op.load 24 (Operand.tmp 26), type := 24, pos := "cmd.go:50", after := #[{ on := 2, ground := Ground.data }, { on := 5, ground := Ground.gcOnly Departure.lateStores }], guard := none }) (v := ?_) rfl (by kernel_rfl) (by kernel_rfl) (by kernel_rfl) (fun _ _ _ h => h) (Or.inl ⟨by rfl, ?_⟩) (by assumption) ?_
  rotate_left 1
  · intro w' hSw; (try dsimp only at hSw); go_simp; (try with_reducible rfl)
  simp only [Act.put, List.setIfInBounds_toArray, List.set_cons_zero, List.set_cons_succ]
  refine wpAnyH_take (i := 4) (oi := { dst := some 28, op := Op.fieldAddr 26 (Operand.tmp 5) 1, type := 0, pos := "cmd.go:50", after := #[{ on := 0, ground := Ground.phase }, { on := 1, ground := Ground.phase }, { on := 2, ground := Ground.textOnly Departure.lateStores }, { on := 3, ground := Ground.textOnly Departure.lateStores }], guard := none }) (v := ?_) rfl (by kernel_rfl) (by kernel_rfl) (by kernel_rfl) (fun _ _ _ h => h) (Or.inl ⟨by rfl, ?_⟩) (by assumption) ?_
  rotate_left 1
  · intro w' hSw; (try dsimp only at hSw); go_simp; (try with_reducible rfl)
  simp only [Act.put, List.setIfInBounds_toArray, List.set_cons_zero, List.set_cons_succ]
  refine wpAnyH_ready (rs := [5]) (by kernel_rfl) (by simp) ?_
  refine AllReadyH.cons (o := { dst := none, op := Op.store 4 (Operand.tmp 28) (Operand.tmp 25), type := 0, pos := "cmd.go:50", after := #[{ on := 4, ground := Ground.data }, { on := 1, ground := Ground.data }, { on := 0, ground := Ground.phase }, { on := 1, ground := Ground.phase }, { on := 2, ground := Ground.textOnly Departure.lateStores }, { on := 3, ground := Ground.textOnly Departure.lateStores }], guard := none }) rfl (fun K' hK => ?_) AllReadyH.nil
  go_simp
  obtain ⟨w5, hw5⟩ : ∃ v, v = (w4.setCell ⟨g5, 1, none⟩ (.bool false)).drew := ⟨_, rfl⟩
  rw [← hw5]
  have P5 : Hid (PS w w5 ⟨1, false, ix, gn, cp, dt⟩ A n c g3 g5 (some #[.bool true, .bool false, .bool false]) #[.int .i64 1, .bool false, .int .i64 0, .int .i64 0, .int .i64 0, .slice none 0 0]) := Lib.hid (by have hh := P4D.out.set HA.out 1 (.bool false); rw [hw5]; exact (show PS w (w4.drew.setCell ⟨g5, 1, none⟩ (.bool false)) ⟨1, false, ix, gn, cp, dt⟩ A n c g3 g5 (some #[.bool true, .bool false, .bool false]) #[.int .i64 1, .bool false, .int .i64 0, .int .i64 0, .int .i64 0, .slice none 0 0] by simpa using hh))
  have s5 : w5.cell? ⟨w.heap.size, 1, none⟩ = some (.bool false) ∧ w5.cell? ⟨w.heap.size, 2, none⟩ = some (.int .i64 ix) ∧ w5.cell? ⟨w.heap.size, 3, none⟩ = some (.int .i64 gn) := ⟨P5.out.k.c1, P5.out.k.c2, P5.out.k.c3⟩
  clear hw5 k1 z1 k2 z2 k3 z3
  have k1 := P5.out.r5.at_ 1
  have z1 := P5.out.r5.fz 1
  have k2 := P5.out.r5.at_ 2
  have z2 := P5.out.r5.fz 2
  have k3 := P5.out.r5.at_ 3
  have z3 := P5.out.r5.fz 3
  refine hK.out _ _ s5 (fun hHeld => ?_)
  clear hK K'
  try simp only [Act.put]
  refine wpAnyH_take (i := 6) (oi := { dst := some 29, op := Op.fieldAddr 26 (Operand.tmp 5) 2, type := 0, pos := "cmd.go:50", after := #[{ on := 0, ground := Ground.phase }, { on := 1, ground := Ground.phase }, { on := 2, ground := Ground.phase }, { on := 3, ground := Ground.phase }, { on := 4, ground := Ground.phase }, { on := 5, ground := Ground.phase }], guard := none }) (v := ?_) rfl (by kernel_rfl) (by kernel_rfl) (by kernel_rfl) (fun _ _ _ h => h) (Or.inl ⟨by rfl, ?_⟩) (by assumption) ?_
  rotate_left 1
  · intro w' hSw; (try dsimp only at hSw); go_simp; (try with_reducible rfl)
  simp only [Act.put, List.setIfInBounds_toArray, List.set_cons_zero, List.set_cons_succ]
  refine wpAnyH_ready (rs := [7]) (by kernel_rfl) (by simp) ?_
  refine AllReadyH.cons (o := { dst := none, op := Op.store 24 (Operand.tmp 29) (Operand.tmp 27), type := 0, pos := "cmd.go:50", after := #[{ on := 6, ground := Ground.data }, { on := 3, ground := Ground.data }, { on := 5, ground := Ground.chain }, { on := 0, ground := Ground.phase }, { on := 1, ground := Ground.phase }, { on := 2, ground := Ground.phase }, { on := 3, ground := Ground.phase }, { on := 4, ground := Ground.phase }, { on := 5, ground := Ground.phase }], guard := none }) rfl (fun K' hK => ?_) AllReadyH.nil
  go_simp
  obtain ⟨w6, hw6⟩ : ∃ v, v = (w5.setCell ⟨g5, 2, none⟩ (.int .i64 ix)).setCell ⟨g5, 3, none⟩ (.int .i64 gn) := ⟨_, rfl⟩
  rw [← hw6]
  have P6 : Hid (PS w w6 ⟨1, false, ix, gn, cp, dt⟩ A n c g3 g5 (some #[.bool true, .bool false, .bool false]) #[.int .i64 1, .bool false, .int .i64 ix, .int .i64 gn, .int .i64 0, .slice none 0 0]) := Lib.hid (by have hh := (P5.out.set HA.out 2 (.int .i64 ix)).set HA.out 3 (.int .i64 gn); rw [hw6]; exact (show PS w ((w5.setCell ⟨g5, 2, none⟩ (.int .i64 ix)).setCell ⟨g5, 3, none⟩ (.int .i64 gn)) ⟨1, false, ix, gn, cp, dt⟩ A n c g3 g5 (some #[.bool true, .bool false, .bool false]) #[.int .i64 1, .bool false, .int .i64 ix, .int .i64 gn, .int .i64 0, .slice none 0 0] by simpa using hh))
  have s6 : w6.cell? ⟨w.heap.size, 1, none⟩ = some (.bool false) ∧ w6.cell? ⟨w.heap.size, 2, none⟩ = some (.int .i64 ix) ∧ w6.cell? ⟨w.heap.size, 3, none⟩ = some (.int .i64 gn) := ⟨P6.out.k.c1, P6.out.k.c2, P6.out.k.c3⟩
  clear hw6 k1 z1 k2 z2 k3 z3
  refine hK.out _ _ s6 (fun hHeld => ?_)
  clear hK K'
  try simp only [Act.put]
  refine wpAnyH_done (by kernel_rfl) ?_ _
  refine NoPanic.normal ?_
  clear hHeld s4 s5 s6 P4D P5
  have q1 := P6.out.k.c1
  have P7 := P6
  obtain ⟨w7, hw7⟩ : ∃ v, v = w6 := ⟨_, rfl⟩
  rw [← hw7] at P7
  have t1 := (P7.out.r3 _ rfl).at_ 1
  have t2 := (P7.out.r3 _ rfl).at_ 2
  subst hw7; clear P6
  go_wp2_with (first
    | ((with_reducible refine wpList_ldS cdT rfl rfl (.tmp 5) rfl rfl P7.out.r5 ?_))
    | ((with_reducible refine wpList_stS (cs' := #[.int .i64 1, .bool false, .int .i64 ix, .int .i64 gn, .int .i64 0, .slice none 0 0]) cdT rfl rfl (by simp [Value.oneCell']) rfl (.tmp 2) (.tmp 45) rfl rfl rfl P7.out.r2 ?_); intro w12 hR12 hF12))
  refine bodyPost_ret (res_c rfl rfl (hR12.load cdT rfl)) rfl ?_
  exact ⟨none, 0, 0, rfl, Rd.nil _ _, Nat.le_refl _, P7.out.done hF12⟩

set_option maxHeartbeats 2000000 in
theorem Plain_1t (ix gn cp : Int) (dt : List UInt8) (A : Option Addr) (n c : Nat) (w : World) (h : Rd w A n dt) (hn : n ≤ 140737488355328) :
    Calls Try.prog 11 #[.agg (Cd.cs ⟨1, true, ix, gn, cp, dt⟩ A n c)] w (PlainP ⟨1, true, ix, gn, cp, dt⟩ w) := by
  obtain ⟨w1, hw1⟩ : ∃ w1, w1 = (w.alloc (.cells (Cd.cs ⟨1, true, ix, gn, cp, dt⟩ A n c) 26)).alloc (.cells (Cd.zero.cs none 0 0) 26) := ⟨_, rfl⟩
  have K1 : CdAt w w1 w.heap.size ⟨1, true, ix, gn, cp, dt⟩ A n c := by rw [hw1]; exact (CdAt.new w ⟨1, true, ix, gn, cp, dt⟩ A n c h).next ((Below.refl _ _).alloc (Nat.le_refl _) _)
  have R1 : Rec 26 w1 (w.heap.size + 1) (Cd.zero.cs none 0 0) := by
    have := Rec.new (w.alloc (.cells (Cd.cs ⟨1, true, ix, gn, cp, dt⟩ A n c) 26)) 26 (Cd.zero.cs none 0 0)
    rw [World.size_alloc] at this
    rw [hw1]; exact this
  have hA := h.lo
  have hv : Calls Try.prog 22 #[.int .i64 1] w1 fun e w' => e = .returned (.tuple #[.agg #[.bool true, .bool false, .bool false], .bool true]) ∧ Below w1.heap.size w1 w' := (has_any 1 w1).mono fun e w' hp => by simpa [HasP, hasV, hasB] using hp
  have HV := Lib.hid hv
  have HA := Lib.hid hA
  have c0 := K1.c0
  have HK := Lib.hid (And.intro K1 R1)
  clear h hA hv K1 R1
  go_enter Try.func11, Try.ntmps11
  go_upto_region 7 with (first
    | (rw [← hw1]; clear hw1)
    | (go_at_call 22; refine HV.out.mono ?_; rintro e w2 ⟨rfl, hb2⟩
       have K2 := HK.out.1.next hb2
       have R2 := HK.out.2.under hb2
       have l2 := R2.lt
       obtain ⟨w3, hw3⟩ : ∃ w3, w3 = w2.alloc (.cells #[.bool true, .bool false, .bool false] 46) := ⟨_, rfl⟩
       have hb3 : Below w2.heap.size w2 w3 := by rw [hw3]; exact (Below.refl _ _).alloc (Nat.le_refl _) _
       have T3 : Rec 46 w3 w2.heap.size #[.bool true, .bool false, .bool false] := by rw [hw3]; exact Rec.new w2 _ _
       obtain ⟨w4, hw4⟩ : ∃ w4, w4 = w3.alloc (.cells #[.int .i64 1, .bool false, .int .i64 0, .int .i64 0, .int .i64 0, .slice none 0 0] 26) := ⟨_, rfl⟩
       have hb4 : Below w3.heap.size w3 w4 := by rw [hw4]; exact (Below.refl _ _).alloc (Nat.le_refl _) _
       have c03 : w3.cell? ⟨w.heap.size, 0, none⟩ = some (.int .i64 1) := (K2.next hb3).c0
       have r4 : Rec 26 w4 w3.heap.size #[.int .i64 1, .bool false, .int .i64 0, .int .i64 0, .int .i64 0, .slice none 0 0] := by rw [hw4]; exact Rec.new w3 _ _
       have t4 := T3.under hb4
       have P4 := Lib.hid (show PS w w4 ⟨1, true, ix, gn, cp, dt⟩ A n c w2.heap.size w3.heap.size (some #[.bool true, .bool false, .bool false]) #[.int .i64 1, .bool false, .int .i64 0, .int .i64 0, .int .i64 0, .slice none 0 0] from
         ⟨(K2.next hb3).next hb4, (R2.under hb3).under hb4, fun t e => by injection e with e; rw [← e]; exact t4, r4, by have := hb3.size; omega, fun _ => by have := T3.lt; omega⟩)
       have t40 := t4.at_ 0
       obtain ⟨g3, hg3⟩ : ∃ g3, g3 = w2.heap.size := ⟨_, rfl⟩
       obtain ⟨g5, hg5⟩ : ∃ g5, g5 = w3.heap.size := ⟨_, rfl⟩
       rw [← hg3] at t40
       rw [← hg3, ← hg5] at P4
       have G := Lib.hid (And.intro hg3 hg5)
       clear K2 R2 hb2 hb3 hb4 T3 r4 t4 c0 l2 hg3 hg5)
    | (rw [← hw3, ← G.out.1]; clear hw3)
    | (rw [← hw4, ← G.out.2]; clear hw4))
  have P4d := P4.out.below (Below.refl _ _).drew
  have s4 : w4.drew.cell? ⟨w.heap.size, 1, none⟩ = some (.bool true) ∧ w4.drew.cell? ⟨w.heap.size, 2, none⟩ = some (.int .i64 ix) ∧ w4.drew.cell? ⟨w.heap.size, 3, none⟩ = some (.int .i64 gn) := ⟨P4d.k.c1, P4d.k.c2, P4d.k.c3⟩
  have P4D := Lib.hid P4d
  clear t40 P4 c03 P4d
  have k1 := P4D.out.r5.at_ 1
  have z1 := P4D.out.r5.fz 1
  have k2 := P4D.out.r5.at_ 2
  have z2 := P4D.out.r5.fz 2
  have k3 := P4D.out.r5.at_ 3
  have z3 := P4D.out.r5.fz 3
  refine wp_region_noPanic ?_
  refine wp_region_held_drew (S := fun W => W.cell? ⟨w.heap.size, 1, none⟩ = some (.bool true) ∧ W.cell? ⟨w.heap.size, 2, none⟩ = some (.int .i64 ix) ∧ W.cell? ⟨w.heap.size, 3, none⟩ = some (.int .i64 gn)) (by kernel_rfl) s4 (fun hHeld => ?_)
  refine wpAnyH_take (i := 0) (oi := { dst := some 24, op := Op.fieldAddr 26 (Operand.tmp 1) 1, type := 0, pos := "cmd.go:50", after := #[], guard := none }) (v := ?_) rfl (by kernel_rfl) (by kernel_rfl) (by kernel_rfl) (fun _ _ _ h => h) (Or.inl ⟨by rfl, ?_⟩) (by assumption) ?_
  rotate_left 1
  · intro w' hSw; (try dsimp only at hSw); go_simp; (try with_reducible rfl)
  simp only [Act.put, List.setIfInBounds_toArray, List.set_cons_zero, List.set_cons_succ]
  refine wpAnyH_take (i := 1) (oi := { dst := some 25, op := Op.load 4 (Operand.tmp 24), type := 4, pos := "cmd.go:50", after := #[{ on := 0, ground := Ground.data }], guard := none }) (v := ?_) rfl (by kernel_rfl) (by kernel_rfl) (by kernel_rfl) (fun _ _ _ h => h) (Or.inl ⟨by rfl, ?_⟩) (by assumption) ?_
  rotate_left 1
  · intro w' hSw; (try dsimp only at hSw); go_simp; (try with_reducible rfl)
  simp only [Act.put, List.setIfInBounds_toArray, List.set_cons_zero, List.set_cons_succ]
  refine wpAnyH_take (i := 2) (oi := { dst := some 26, op := Op.fieldAddr 26 (Operand.tmp 1) 2, type := 0, pos := "cmd.go:50", after := #[{ on := 5, ground := Ground.gcOnly Departure.lateStores }], guard := none }) (v := ?_) rfl (by kernel_rfl) (by kernel_rfl) (by kernel_rfl) (fun _ _ _ h => h) (Or.inl ⟨by rfl, ?_⟩) (by assumption) ?_
  rotate_left 1
  · intro w' hSw; (try dsimp only at hSw); go_simp; (try with_reducible rfl)
  simp only [Act.put, List.setIfInBounds_toArray, List.set_cons_zero, List.set_cons_succ]
  refine wpAnyH_take (i := 3) (oi := { dst := some 27, op := Op.load 24 (Operand.tmp 26), type := 24, pos := "cmd.go:50", after := #[{ on := 2, ground := Ground.data }, { on := 5, ground := Ground.gcOnly Departure.lateStores }], guard := none }) (v := ?_) rfl (by kernel_rfl) (by kernel_rfl) (by kernel_rfl) (fun _ _ _ h => h) (Or.inl ⟨by rfl, ?_⟩) (by assumption) ?_
  rotate_left 1
  · intro w' hSw; (try dsimp only at hSw); go_simp; (try with_reducible rfl)
  simp only [Act.put, List.setIfInBounds_toArray, List.set_cons_zero, List.set_cons_succ]
  refine wpAnyH_take (i := 4) (oi := { dst := some 28, op := Op.fieldAddr 26 (Operand.tmp 5) 1, type := 0, pos := "cmd.go:50", after := #[{ on := 0, ground := Ground.phase }, { on := 1, ground := Ground.phase }, { on := 2, ground := Ground.textOnly Departure.lateStores }, { on := 3, ground := Ground.textOnly Departure.lateStores }], guard := none }) (v := ?_) rfl (by kernel_rfl) (by kernel_rfl) (by kernel_rfl) (fun _ _ _ h => h) (Or.inl ⟨by rfl, ?_⟩) (by assumption) ?_
  rotate_left 1
  · intro w' hSw; (try dsimp only at hSw); go_simp; (try with_reducible rfl)
  simp only [Act.put, List.setIfInBounds_toArray, List.set_cons_zero, List.set_cons_succ]
  refine wpAnyH_ready (rs := [5]) (by kernel_rfl) (by simp) ?_
  refine AllReadyH.cons (o := { dst := none, op := Op.store 4 (Operand.tmp 28) (Operand.tmp 25), type := 0, pos := "cmd.go:50", after := #[{ on := 4, ground := Ground.data }, { on := 1, ground := Ground.data }, { on := 0, ground := Ground.phase }, { on := 1, ground := Ground.phase }, { on := 2, ground := Ground.textOnly Departure.lateStores }, { on := 3, ground := Ground.textOnly Departure.lateStores }], guard := none }) rfl (fun K' hK => ?_) AllReadyH.nil
  go_simp
  obtain ⟨w5, hw5⟩ : ∃ v, v = (w4.setCell ⟨g5, 1, none⟩ (.bool true)).drew := ⟨_, rfl⟩
  rw [← hw5]
  have P5 : Hid (PS w w5 ⟨1, true, ix, gn, cp, dt⟩ A n c g3 g5 (some #[.bool true, .bool false, .bool false]) #[.int .i64 1, .bool true, .int .i64 0, .int .i64 0, .int .i64 0, .slice none 0 0]) := Lib.hid (by have hh := P4D.out.set HA.out 1 (.bool true); rw [hw5]; exact (show PS w (w4.drew.setCell ⟨g5, 1, none⟩ (.bool true)) ⟨1, true, ix, gn, cp, dt⟩ A n c g3 g5 (some #[.bool true, .bool false, .bool false]) #[.int .i64 1, .bool true, .int .i64 0, .int .i64 0, .int .i64 0, .slice none 0 0] by simpa using hh))
  have s5 : w5.cell? ⟨w.heap.size, 1, none⟩ = some (.bool true) ∧ w5.cell? ⟨w.heap.size, 2, none⟩ = some (.int .i64 ix) ∧ w5.cell? ⟨w.heap.size, 3, none⟩ = some (.int .i64 gn) := ⟨P5.out.k.c1, P5.out.k.c2, P5.out.k.c3⟩
  clear hw5 k1 z1 k2 z2 k3 z3
  have k1 := P5.out.r5.at_ 1
  have z1 := P5.out.r5.fz 1
  have k2 := P5.out.r5.at_ 2
  have z2 := P5.out.r5.fz 2
  have k3 := P5.out.r5.at_ 3
  have z3 := P5.out.r5.fz 3
  refine hK.out _ _ s5 (fun hHeld => ?_)
  clear hK K'
  try simp only [Act.put]
  refine wpAnyH_take (i := 6) (oi := { dst := some 29, op := Op.fieldAddr 26 (Operand.tmp 5) 2, type := 0, pos := "cmd.go:50", after := #[{ on := 0, ground := Ground.phase }, { on := 1, ground := Ground.phase }, { on := 2, ground := Ground.phase }, { on := 3, ground := Ground.phase }, { on := 4, ground := Ground.phase }, { on := 5, ground := Ground.phase }], guard := none }) (v := ?_) rfl (by kernel_rfl) (by kernel_rfl) (by kernel_rfl) (fun _ _ _ h => h) (Or.inl ⟨by rfl, ?_⟩) (by assumption) ?_
  rotate_left 1
  · intro w' hSw; (try dsimp only at hSw); go_simp; (try with_reducible rfl)
  simp only [Act.put, List.setIfInBounds_toArray, List.set_cons_zero, List.set_cons_succ]
  refine wpAnyH_ready (rs := [7]) (by kernel_rfl) (by simp) ?_
  refine AllReadyH.cons (o := { dst := none, op := Op.store 24 (Operand.tmp 29) (Operand.tmp 27), type := 0, pos := "cmd.go:50", after := #[{ on := 6, ground := Ground.data }, { on := 3, ground := Ground.data }, { on := 5, ground := Ground.chain }, { on := 0, ground := Ground.phase }, { on := 1, ground := Ground.phase }, { on := 2, ground := Ground.phase }, { on := 3, ground := Ground.phase }, { on := 4, ground := Ground.phase }, { on := 5, ground := Ground.phase }], guard := none }) rfl (fun K' hK => ?_) AllReadyH.nil
  go_simp
  obtain ⟨w6, hw6⟩ : ∃ v, v = (w5.setCell ⟨g5, 2, none⟩ (.int .i64 ix)).setCell ⟨g5, 3, none⟩ (.int .i64 gn) := ⟨_, rfl⟩
  rw [← hw6]
  have P6 : Hid (PS w w6 ⟨1, true, ix, gn, cp, dt⟩ A n c g3 g5 (some #[.bool true, .bool false, .bool false]) #[.int .i64 1, .bool true, .int .i64 ix, .int .i64 gn, .int .i64 0, .slice none 0 0]) := Lib.hid (by have hh := (P5.out.set HA.out 2 (.int .i64 ix)).set HA.out 3 (.int .i64 gn); rw [hw6]; exact (show PS w ((w5.setCell ⟨g5, 2, none⟩ (.int .i64 ix)).setCell ⟨g5, 3, none⟩ (.int .i64 gn)) ⟨1, true, ix, gn, cp, dt⟩ A n c g3 g5 (some #[.bool true, .bool false, .bool false]) #[.int .i64 1, .bool true, .int .i64 ix, .int .i64 gn, .int .i64 0, .slice none 0 0] by simpa using hh))
  have s6 : w6.cell? ⟨w.heap.size, 1, none⟩ = some (.bool true) ∧ w6.cell? ⟨w.heap.size, 2, none⟩ = some (.int .i64 ix) ∧ w6.cell? ⟨w.heap.size, 3, none⟩ = some (.int .i64 gn) := ⟨P6.out.k.c1, P6.out.k.c2, P6.out.k.c3⟩
  clear hw6 k1 z1 k2 z2 k3 z3
  refine hK.out _ _ s6 (fun hHeld => ?_)
  clear hK K'
  try simp only [Act.put]
  refine wpAnyH_done (by kernel_rfl) ?_ _
  refine NoPanic.normal ?_
  clear hHeld s4 s5 s6 P4D P5
  have q1 := P6.out.k.c1
  have z3 := P6.out.r5.fz 3
  have k3 := P6.out.r5.at_ 3
  obtain ⟨w7, hw7⟩ : ∃ v, v = w6.setCell ⟨g5, 3, none⟩ (.int .i64 0) := ⟨_, rfl⟩
  have P7 : Hid (PS w w7 ⟨1, true, ix, gn, cp, dt⟩ A n c g3 g5 (some #[.bool true, .bool false, .bool false]) #[.int .i64 1, .bool true, .int .i64 ix, .int .i64 0, .int .i64 0, .slice none 0 0]) := Lib.hid (by have hh := P6.out.set HA.out 3 (.int .i64 0); rw [hw7]; simpa using hh)
  have t1 := (P7.out.r3 _ rfl).at_ 1
  have t2 := (P7.out.r3 _ rfl).at_ 2
  clear P6
  go_wp2_with (first
    | (rw [← hw7]; clear hw7 z3 k3 q1)
    | ((with_reducible refine wpList_ldS cdT rfl rfl (.tmp 5) rfl rfl P7.out.r5 ?_))
    | ((with_reducible refine wpList_stS (cs' := #[.int .i64 1, .bool true, .int .i64 ix, .int .i64 0, .int .i64 0, .slice none 0 0]) cdT rfl rfl (by simp [Value.oneCell']) rfl (.tmp 2) (.tmp 45) rfl rfl rfl P7.out.r2 ?_); intro w12 hR12 hF12))
  refine bodyPost_ret (res_c rfl rfl (hR12.load cdT rfl)) rfl ?_
  exact ⟨none, 0, 0, rfl, Rd.nil _ _, Nat.le_refl _, P7.out.done hF12⟩

set_option maxHeartbeats 2000000 in
theorem Plain_2f (ix gn cp : Int) (dt : List UInt8) (A : Option Addr) (n c : Nat) (w : World) (h : Rd w A n dt) (hn : n ≤ 140737488355328) :
    Calls Try.prog 11 #[.agg (Cd.cs ⟨2, false, ix, gn, cp, dt⟩ A n c)] w (PlainP ⟨2, false, ix, gn, cp, dt⟩ w) := by
  obtain ⟨w1, hw1⟩ : ∃ w1, w1 = (w.alloc (.cells (Cd.cs ⟨2, false, ix, gn, cp, dt⟩ A n c) 26)).alloc (.cells (Cd.zero.cs none 0 0) 26) := ⟨_, rfl⟩
  have K1 : CdAt w w1 w.heap.size ⟨2, false, ix, gn, cp, dt⟩ A n c := by rw [hw1]; exact (CdAt.new w ⟨2, false, ix, gn, cp, dt⟩ A n c h).next ((Below.refl _ _).alloc (Nat.le_refl _) _)
  have R1 : Rec 26 w1 (w.heap.size + 1) (Cd.zero.cs none 0 0) := by
    have := Rec.new (w.alloc (.cells (Cd.cs ⟨2, false, ix, gn, cp, dt⟩ A n c) 26)) 26 (Cd.zero.cs none 0 0)
    rw [World.size_alloc] at this
    rw [hw1]; exact this
  have hA := h.lo
  have hv : Calls Try.prog 22 #[.int .i64 2] w1 fun e w' => e = .returned (.tuple #[.agg #[.bool true, .bool true, .bool true], .bool true]) ∧ Below w1.heap.size w1 w' := (has_any 2 w1).mono fun e w' hp => by simpa [HasP, hasV, hasB] using hp
  have HV := Lib.hid hv
  have HA := Lib.hid hA
  have c0 := K1.c0
  have HK := Lib.hid (And.intro K1 R1)
  clear h hA hv K1 R1
  go_enter Try.func11, Try.ntmps11
  go_upto_region 7 with (first
    | (rw [← hw1]; clear hw1)
    | (go_at_call 22; refine HV.out.mono ?_; rintro e w2 ⟨rfl, hb2⟩
       have K2 := HK.out.1.next hb2
       have R2 := HK.out.2.under hb2
       have l2 := R2.lt
       obtain ⟨w3, hw3⟩ : ∃ w3, w3 = w2.alloc (.cells #[.bool true, .bool true, .bool true] 46) := ⟨_, rfl⟩
       have hb3 : Below w2.heap.size w2 w3 := by rw [hw3]; exact (Below.refl _ _).alloc (Nat.le_refl _) _
       have T3 : Rec 46 w3 w2.heap.size #[.bool true, .bool true, .bool true] := by rw [hw3]; exact Rec.new w2 _ _
       obtain ⟨w4, hw4⟩ : ∃ w4, w4 = w3.alloc (.cells #[.int .i64 2, .bool false, .int .i64 0, .int .i64 0, .int .i64 0, .slice none 0 0] 26) := ⟨_, rfl⟩
       have hb4 : Below w3.heap.size w3 w4 := by rw [hw4]; exact (Below.refl _ _).alloc (Nat.le_refl _) _
       have c03 : w3.cell? ⟨w.heap.size, 0, none⟩ = some (.int .i64 2) := (K2.next hb3).c0
       have r4 : Rec 26 w4 w3.heap.size #[.int .i64 2, .bool false, .int .i64 0, .int .i64 0, .int .i64 0, .slice none 0 0] := by rw [hw4]; exact Rec.new w3 _ _
       have t4 := T3.under hb4
       have P4 := Lib.hid (show PS w w4 ⟨2, false, ix, gn, cp, dt⟩ A n c w2.heap.size w3.heap.size (some #[.bool true, .bool true, .bool true]) #[.int .i64 2, .bool false, .int .i64 0, .int .i64 0, .int .i64 0, .slice none 0 0] from
         ⟨(K2.next hb3).next hb4, (R2.under hb3).under hb4, fun t e => by injection e with e; rw [← e]; exact t4, r4, by have := hb3.size; omega, fun _ => by have := T3.lt; omega⟩)
       have t40 := t4.at_ 0
       obtain ⟨g3, hg3⟩ : ∃ g3, g3 = w2.heap.size := ⟨_, rfl⟩
       obtain ⟨g5, hg5⟩ : ∃ g5, g5 = w3.heap.size := ⟨_, rfl⟩
       rw [← hg3] at t40
       rw [← hg3, ← hg5] at P4
       have G := Lib.hid (And.intro hg3 hg5)
       clear K2 R2 hb2 hb3 hb4 T3 r4 t4 c0 l2 hg3 hg5)
    | (rw [← hw3, ← G.out.1]; clear hw3)
    | (rw [← hw4, ← G.out.2]; clear hw4))
  have P4d := P4.out.below (Below.refl _ _).drew
  have s4 : w4.drew.cell? ⟨w.heap.size, 1, none⟩ = some (.bool false) ∧ w4.drew.cell? ⟨w.heap.size, 2, none⟩ = some (.int .i64 ix) ∧ w4.drew.cell? ⟨w.heap.size, 3, none⟩ = some (.int .i64 gn) := ⟨P4d.k.c1, P4d.k.c2, P4d.k.c3⟩
  have P4D := Lib.hid P4d
  clear t40 P4 c03 P4d
  have k1 := P4D.out.r5.at_ 1
  have z1 := P4D.out.r5.fz 1
  have k2 := P4D.out.r5.at_ 2
  have z2 := P4D.out.r5.fz 2
  have k3 := P4D.out.r5.at_ 3
  have z3 := P4D.out.r5.fz 3
  refine wp_region_noPanic ?_
  refine wp_region_held_drew (S := fun W => W.cell? ⟨w.heap.size, 1, none⟩ = some (.bool false) ∧ W.cell? ⟨w.heap.size, 2, none⟩ = some (.int .i64 ix) ∧ W.cell? ⟨w.heap.size, 3, none⟩ = some (.int .i64 gn)) (by kernel_rfl) s4 (fun hHeld => ?_)
  refine wpAnyH_take (i := 0) (oi := { dst := some 24, op := Op.fieldAddr 26 (Operand.tmp 1) 1, type := 0, pos := "cmd.go:50", after := #[], guard := none }) (v := ?_) rfl (by kernel_rfl) (by kernel_rfl) (by kernel_rfl) (fun _ _ _ h => h) (Or.inl ⟨by rfl, ?_⟩) (by assumption) ?_
  rotate_left 1
  · intro w' hSw; (try dsimp only at hSw); go_simp; (try with_reducible rfl)
  simp only [Act.put, List.setIfInBounds_toArray, List.set_cons_zero, List.set_cons_succ]
  refine wpAnyH_take (i := 1) (oi := { dst := some 25, op := Op.load 4 (Operand.tmp 24), type := 4, pos := "cmd.go:50", after := #[{ on := 0, ground := Ground.data }], guard := none }) (v := ?_) rfl (by kernel_rfl) (by kernel_rfl) (by kernel_rfl) (fun _ _ _ h => h) (Or.inl ⟨by rfl, ?_⟩) (by assumption) ?_
  rotate_left 1
  · intro w' hSw; (try dsimp only at hSw); go_simp; (try with_reducible rfl)
  simp only [Act.put, List.setIfInBounds_toArray, List.set_cons_zero, List.set_cons_succ]
  refine wpAnyH_take (i := 2) (oi := { dst := some 26, op := Op.fieldAddr 26 (Operand.tmp 1) 2, type := 0, pos := "cmd.go:50", after := #[{ on := 5, ground := Ground.gcOnly Departure.lateStores }], guard := none }) (v := ?_) rfl (by kernel_rfl) (by kernel_rfl) (by kernel_rfl) (fun _ _ _ h => h) (Or.inl ⟨by rfl, ?_⟩) (by assumption) ?_
  rotate_left 1
  · intro w' hSw; (try dsimp only at hSw); go_simp; (try with_reducible rfl)
  simp only [Act.put, List.setIfInBounds_toArray, List.set_cons_zero, List.set_cons_succ]
  refine wpAnyH_take (i := 3) (oi := { dst := some 27, op := Op.load 24 (Operand.tmp 26), type := 24, pos := "cmd.go:50", after := #[{ on := 2, ground := Ground.data }, { on := 5, ground := Ground.gcOnly Departure.lateStores }], guard := none }) (v := ?_) rfl (by kernel_rfl) (by kernel_rfl) (by kernel_rfl) (fun _ _ _ h => h) (Or.inl ⟨by rfl, ?_⟩) (by assumption) ?_
  rotate_left 1
  · intro w' hSw; (try dsimp only at hSw); go_simp; (try with_reducible rfl)
  simp only [Act.put, List.setIfInBounds_toArray, List.set_cons_zero, List.set_cons_succ]
  refine wpAnyH_take (i := 4) (oi := { dst := some 28, op := Op.fieldAddr 26 (Operand.tmp 5) 1, type := 0, pos := "cmd.go:50", after := #[{ on := 0, ground := Ground.phase }, { on := 1, ground := Ground.phase }, { on := 2, ground := Ground.textOnly Departure.lateStores }, { on := 3, ground := Ground.textOnly Departure.lateStores }], guard := none }) (v := ?_) rfl (by kernel_rfl) (by kernel_rfl) (by kernel_rfl) (fun _ _ _ h => h) (Or.inl ⟨by rfl, ?_⟩) (by assumption) ?_
  rotate_left 1
  · intro w' hSw; (try dsimp only at hSw); go_simp; (try with_reducible rfl)
  simp only [Act.put, List.setIfInBounds_toArray, List.set_cons_zero, List.set_cons_succ]
  refine wpAnyH_ready (rs := [5]) (by kernel_rfl) (by simp) ?_
  refine AllReadyH.cons (o := { dst := none, op := Op.store 4 (Operand.tmp 28) (Operand.tmp 25), type := 0, pos := "cmd.go:50", after := #[{ on := 4, ground := Ground.data }, { on := 1, ground := Ground.data }, { on := 0, ground := Ground.phase }, { on := 1, ground := Ground.phase }, { on := 2, ground := Ground.textOnly Departure.lateStores }, { on := 3, ground := Ground.textOnly Departure.lateStores }], guard := none }) rfl (fun K' hK => ?_) AllReadyH.nil
  go_simp
  obtain ⟨w5, hw5⟩ : ∃ v, v = (w4.setCell ⟨g5, 1, none⟩ (.bool false)).drew := ⟨_, rfl⟩
  rw [← hw5]
  have P5 : Hid (PS w w5 ⟨2, false, ix, gn, cp, dt⟩ A n c g3 g5 (some #[.bool true, .bool true, .bool true]) #[.int .i64 2, .bool false, .int .i64 0, .int .i64 0, .int .i64 0, .slice none 0 0]) := Lib.hid (by have hh := P4D.out.set HA.out 1 (.bool false); rw [hw5]; exact (show PS w (w4.drew.setCell ⟨g5, 1, none⟩ (.bool false)) ⟨2, false, ix, gn, cp, dt⟩ A n c g3 g5 (some #[.bool true, .bool true, .bool true]) #[.int .i64 2, .bool false, .int .i64 0, .int .i64 0, .int .i64 0, .slice none 0 0] by simpa using hh))
  have s5 : w5.cell? ⟨w.heap.size, 1, none⟩ = some (.bool false) ∧ w5.cell? ⟨w.heap.size, 2, none⟩ = some (.int .i64 ix) ∧ w5.cell? ⟨w.heap.size, 3, none⟩ = some (.int .i64 gn) := ⟨P5.out.k.c1, P5.out.k.c2, P5.out.k.c3⟩
  clear hw5 k1 z1 k2 z2 k3 z3
  have k1 := P5.out.r5.at_ 1
  have z1 := P5.out.r5.fz 1
  have k2 := P5.out.r5.at_ 2
  have z2 := P5.out.r5.fz 2
  have k3 := P5.out.r5.at_ 3
  have z3 := P5.out.r5.fz 3
  refine hK.out _ _ s5 (fun hHeld => ?_)
  clear hK K'
  try simp only [Act.put]
  refine wpAnyH_take (i := 6) (oi := { dst := some 29, op := Op.fieldAddr 26 (Operand.tmp 5) 2, type := 0, pos := "cmd.go:50", after := #[{ on := 0, ground := Ground.phase }, { on := 1, ground := Ground.phase }, { on := 2, ground := Ground.phase }, { on := 3, ground := Ground.phase }, { on := 4, ground := Ground.phase }, { on := 5, ground := Ground.phase }], guard := none }) (v := ?_) rfl (by kernel_rfl) (by kernel_rfl) (by kernel_rfl) (fun _ _ _ h => h) (Or.inl ⟨by rfl, ?_⟩) (by assumption) ?_
  rotate_left 1
  · intro w' hSw; (try dsimp only at hSw); go_simp; (try with_reducible rfl)
  simp only [Act.put, List.setIfInBounds_toArray, List.set_cons_zero, List.set_cons_succ]
  refine wpAnyH_ready (rs := [7]) (by kernel_rfl) (by simp) ?_
  refine AllReadyH.cons (o := { dst := none, op := Op.store 24 (Operand.tmp 29) (Operand.tmp 27), type := 0, pos := "cmd.go:50", after := #[{ on := 6, ground := Ground.data }, { on := 3, ground := Ground.data }, { on := 5, ground := Ground.chain }, { on := 0, ground := Ground.phase }, { on := 1, ground := Ground.phase }, { on := 2, ground := Ground.phase }, { on := 3, ground := Ground.phase }, { on := 4, ground := Ground.phase }, { on := 5, ground := Ground.phase }], guard := none }) rfl (fun K' hK => ?_) AllReadyH.nil
  go_simp
  obtain ⟨w6, hw6⟩ : ∃ v, v = (w5.setCell ⟨g5, 2, none⟩ (.int .i64 ix)).setCell ⟨g5, 3, none⟩ (.int .i64 gn) := ⟨_, rfl⟩
  rw [← hw6]
  have P6 : Hid (PS w w6 ⟨2, false, ix, gn, cp, dt⟩ A n c g3 g5 (some #[.bool true, .bool true, .bool true]) #[.int .i64 2, .bool false, .int .i64 ix, .int .i64 gn, .int .i64 0, .slice none 0 0]) := Lib.hid (by have hh := (P5.out.set HA.out 2 (.int .i64 ix)).set HA.out 3 (.int .i64 gn); rw [hw6]; exact (show PS w ((w5.setCell ⟨g5, 2, none⟩ (.int .i64 ix)).setCell ⟨g5, 3, none⟩ (.int .i64 gn)) ⟨2, false, ix, gn, cp, dt⟩ A n c g3 g5 (some #[.bool true, .bool true, .bool true]) #[.int .i64 2, .bool false, .int .i64 ix, .int .i64 gn, .int .i64 0, .slice none 0 0] by simpa using hh))
  have s6 : w6.cell? ⟨w.heap.size, 1, none⟩ = some (.bool false) ∧ w6.cell? ⟨w.heap.size, 2, none⟩ = some (.int .i64 ix) ∧ w6.cell? ⟨w.heap.size, 3, none⟩ = some (.int .i64 gn) := ⟨P6.out.k.c1, P6.out.k.c2, P6.out.k.c3⟩
  clear hw6 k1 z1 k2 z2 k3 z3
  refine hK.out _ _ s6 (fun hHeld => ?_)
  clear hK K'
  try simp only [Act.put]
  refine wpAnyH_done (by kernel_rfl) ?_ _
  refine NoPanic.normal ?_
  clear hHeld s4 s5 s6 P4D P5
  have q1 := P6.out.k.c1
  have P7 := P6
  obtain ⟨w7, hw7⟩ : ∃ v, v = w6 := ⟨_, rfl⟩
  rw [← hw7] at P7
  have t1 := (P7.out.r3 _ rfl).at_ 1
  have q4 := P7.out.k.c4
  have z4 := P7.out.r5.fz 4
  have k4 := P7.out.r5.at_ 4
  obtain ⟨w8, hw8⟩ : ∃ v, v = w7.setCell ⟨g5, 4, none⟩ (.int .i64 cp) := ⟨_, rfl⟩
  have P8 : Hid (PS w w8 ⟨2, false, ix, gn, cp, dt⟩ A n c g3 g5 (some #[.bool true, .bool true, .bool true]) #[.int .i64 2, .bool false, .int .i64 ix, .int .i64 gn, .int .i64 cp, .slice none 0 0]) := Lib.hid (by have hh := P7.out.set HA.out 4 (.int .i64 cp); rw [hw8]; simpa using hh)
  have t2 := (P8.out.r3 _ rfl).at_ 2
  have q5 := P8.out.k.c5
  have CC := Lib.hid (clone_any A n c dt w8 P8.out.k.rd (Lib.hid hn))
  subst hw7; clear P6
  go_wp2_with (first
    | (rw [← hw8]; clear hw8 z4 k4 q4 t1)
    | (go_at_call 23; refine CC.out.mono ?_; rintro e w9 ⟨v9, rfl, ho9, hb9⟩
       obtain ⟨A9, c9, rfl, hn9, _, hr9⟩ := Rd.of_own ho9 rfl
       have hlo9 := own_lo' ho9
       have P9 := P8.out.below hb9
       have z5 := P9.r5.fz 5
       have k5 := P9.r5.at_ 5
       obtain ⟨w10, hw10⟩ : ∃ v, v = w9.setCell ⟨g5, 5, none⟩ (.slice A9 n c9) := ⟨_, rfl⟩
       have hf10 : Fr (· = g5) w9 w10 := by rw [hw10]; exact Fr.setCell w9 (own := (· = g5)) (p := ⟨g5, 5, none⟩) rfl _
       have g58 := P8.out.r5.lt
       have P10 : Hid (PS w w10 ⟨2, false, ix, gn, cp, dt⟩ A n c g3 g5 (some #[.bool true, .bool true, .bool true]) #[.int .i64 2, .bool false, .int .i64 ix, .int .i64 gn, .int .i64 cp, .slice A9 n c9]) := Lib.hid (by have hh := P9.set HA.out 5 (.slice A9 n c9); rw [hw10]; simpa using hh)
       have RD10 := Lib.hid (And.intro hn9 (hr9.fr hf10 (fun b o e hp e' => by have := hlo9 b o e; omega)))
       have RDL := Lib.hid hlo9
       have G8 := Lib.hid (show w.heap.size + 1 < w8.heap.size by have := P8.out.h3; omega)
       clear P9 hb9 ho9 hr9 hlo9 hn9 hf10 g58 q5 t2)
    | (rw [← hw10]; clear hw10 z5 k5)
    | ((with_reducible refine wpList_ldS cdT rfl rfl (.tmp 5) rfl rfl P10.out.r5 ?_))
    | ((with_reducible refine wpList_stS (cs' := #[.int .i64 2, .bool false, .int .i64 ix, .int .i64 gn, .int .i64 cp, .slice A9 n c9]) cdT rfl rfl (by simp [Value.oneCell']) rfl (.tmp 2) (.tmp 45) rfl rfl rfl P10.out.r2 ?_); intro w12 hR12 hF12))
  refine bodyPost_ret (res_c rfl rfl (hR12.load cdT rfl)) rfl ?_
  exact ⟨A9, n, c9, rfl, RD10.out.2.fr hF12 (fun b o e hp e' => by have := RDL.out b o e; have := G8.out; omega), RD10.out.1, P10.out.done hF12⟩

set_option maxHeartbeats 2000000 in
theorem Plain_2t (ix gn cp : Int) (dt : List UInt8) (A : Option Addr) (n c : Nat) (w : World) (h : Rd w A n dt) (hn : n ≤ 140737488355328) :
    Calls Try.prog 11 #[.agg (Cd.cs ⟨2, true, ix, gn, cp, dt⟩ A n c)] w (PlainP ⟨2, true, ix, gn, cp, dt⟩ w) := by
  obtain ⟨w1, hw1⟩ : ∃ w1, w1 = (w.alloc (.cells (Cd.cs ⟨2, true, ix, gn, cp, dt⟩ A n c) 26)).alloc (.cells (Cd.zero.cs none 0 0) 26) := ⟨_, rfl⟩
  have K1 : CdAt w w1 w.heap.size ⟨2, true, ix, gn, cp, dt⟩ A n c := by rw [hw1]; exact (CdAt.new w ⟨2, true, ix, gn, cp, dt⟩ A n c h).next ((Below.refl _ _).alloc (Nat.le_refl _) _)
  have R1 : Rec 26 w1 (w.heap.size + 1) (Cd.zero.cs none 0 0) := by
    have := Rec.new (w.alloc (.cells (Cd.cs ⟨2, true, ix, gn, cp, dt⟩ A n c) 26)) 26 (Cd.zero.cs none 0 0)
    rw [World.size_alloc] at this
    rw [hw1]; exact this
  have hA := h.lo
  have hv : Calls Try.prog 22 #[.int .i64 2] w1 fun e w' => e = .returned (.tuple #[.agg #[.bool true, .bool true, .bool true], .bool true]) ∧ Below w1.heap.size w1 w' := (has_any 2 w1).mono fun e w' hp => by simpa [HasP, hasV, hasB] using hp
  have HV := Lib.hid hv
  have HA := Lib.hid hA
  have c0 := K1.c0
  have HK := Lib.hid (And.intro K1 R1)
  clear h hA hv K1 R1
  go_enter Try.func11, Try.ntmps11
  go_upto_region 7 with (first
    | (rw [← hw1]; clear hw1)
    | (go_at_call 22; refine HV.out.mono ?_; rintro e w2 ⟨rfl, hb2⟩
       have K2 := HK.out.1.next hb2
       have R2 := HK.out.2.under hb2
       have l2 := R2.lt
       obtain ⟨w3, hw3⟩ : ∃ w3, w3 = w2.alloc (.cells #[.bool true, .bool true, .bool true] 46) := ⟨_, rfl⟩
       have hb3 : Below w2.heap.size w2 w3 := by rw [hw3]; exact (Below.refl _ _).alloc (Nat.le_refl _) _
       have T3 : Rec 46 w3 w2.heap.size #[.bool true, .bool true, .bool true] := by rw [hw3]; exact Rec.new w2 _ _
       obtain ⟨w4, hw4⟩ : ∃ w4, w4 = w3.alloc (.cells #[.int .i64 2, .bool false, .int .i64 0, .int .i64 0, .int .i64 0, .slice none 0 0] 26) := ⟨_, rfl⟩
       have hb4 : Below w3.heap.size w3 w4 := by rw [hw4]; exact (Below.refl _ _).alloc (Nat.le_refl _) _
       have c03 : w3.cell? ⟨w.heap.size, 0, none⟩ = some (.int .i64 2) := (K2.next hb3).c0
       have r4 : Rec 26 w4 w3.heap.size #[.int .i64 2, .bool false, .int .i64 0, .int .i64 0, .int .i64 0, .slice none 0 0] := by rw [hw4]; exact Rec.new w3 _ _
       have t4 := T3.under hb4
       have P4 := Lib.hid (show PS w w4 ⟨2, true, ix, gn, cp, dt⟩ A n c w2.heap.size w3.heap.size (some #[.bool true, .bool true, .bool true]) #[.int .i64 2, .bool false, .int .i64 0, .int .i64 0, .int .i64 0, .slice none 0 0] from
         ⟨(K2.next hb3).next hb4, (R2.under hb3).under hb4, fun t e => by injection e with e; rw [← e]; exact t4, r4, by have := hb3.size; omega, fun _ => by have := T3.lt; omega⟩)
       have t40 := t4.at_ 0
       obtain ⟨g3, hg3⟩ : ∃ g3, g3 = w2.heap.size := ⟨_, rfl⟩
       obtain ⟨g5, hg5⟩ : ∃ g5, g5 = w3.heap.size := ⟨_, rfl⟩
       rw [← hg3] at t40
       rw [← hg3, ← hg5] at P4
       have G := Lib.hid (And.intro hg3 hg5)
       clear K2 R2 hb2 hb3 hb4 T3 r4 t4 c0 l2 hg3 hg5)
    | (rw [← hw3, ← G.out.1]; clear hw3)
    | (rw [← hw4, ← G.out.2]; clear hw4))
  have P4d := P4.out.below (Below.refl _ _).drew
  have s4 : w4.drew.cell? ⟨w.heap.size, 1, none⟩ = some (.bool true) ∧ w4.drew.cell? ⟨w.heap.size, 2, none⟩ = some (.int .i64 ix) ∧ w4.drew.cell? ⟨w.heap.size, 3, none⟩ = some (.int .i64 gn) := ⟨P4d.k.c1, P4d.k.c2, P4d.k.c3⟩
  have P4D := Lib.hid P4d
  clear t40 P4 c03 P4d
  have k1 := P4D.out.r5.at_ 1
  have z1 := P4D.out.r5.fz 1
  have k2 := P4D.out.r5.at_ 2
  have z2 := P4D.out.r5.fz 2
  have k3 := P4D.out.r5.at_ 3
  have z3 := P4D.out.r5.fz 3
  refine wp_region_noPanic ?_
  refine wp_region_held_drew (S := fun W => W.cell? ⟨w.heap.size, 1, none⟩ = some (.bool true) ∧ W.cell? ⟨w.heap.size, 2, none⟩ = some (.int .i64 ix) ∧ W.cell? ⟨w.heap.size, 3, none⟩ = some (.int .i64 gn)) (by kernel_rfl) s4 (fun hHeld => ?_)
  refine wpAnyH_take (i := 0) (oi := { dst := some 24, op := Op.fieldAddr 26 (Operand.tmp 1) 1, type := 0, pos := "cmd.go:50", after := #[], guard := none }) (v := ?_) rfl (by kernel_rfl) (by kernel_rfl) (by kernel_rfl) (fun _ _ _ h => h) (Or.inl ⟨by rfl, ?_⟩) (by assumption) ?_
  rotate_left 1
  · intro w' hSw; (try dsimp only at hSw); go_simp; (try with_reducible rfl)
  simp only [Act.put, List.setIfInBounds_toArray, List.set_cons_zero, List.set_cons_succ]
  refine wpAnyH_take (i := 1) (oi := { dst := some 25, op := Op.load 4 (Operand.tmp 24), type := 4, pos := "cmd.go:50", after := #[{ on := 0, ground := Ground.data }], guard := none }) (v := ?_) rfl (by kernel_rfl) (by kernel_rfl) (by kernel_rfl) (fun _ _ _ h => h) (Or.inl ⟨by rfl, ?_⟩) (by assumption) ?_
  rotate_left 1
  · intro w' hSw; (try dsimp only at hSw); go_simp; (try with_reducible rfl)
  simp only [Act.put, List.setIfInBounds_toArray, List.set_cons_zero, List.set_cons_succ]
  refine wpAnyH_take (i := 2) (oi := { dst := some 26, op := Op.fieldAddr 26 (Operand.tmp 1) 2, type := 0, pos := "cmd.go:50", after := #[{ on := 5, ground := Ground.gcOnly Departure.lateStores }], guard := none }) (v := ?_) rfl (by kernel_rfl) (by kernel_rfl) (by kernel_rfl) (fun _ _ _ h => h) (Or.inl ⟨by rfl, ?_⟩) (by assumption) ?_
  rotate_left 1
  · intro w' hSw; (try dsimp only at hSw); go_simp; (try with_reducible rfl)
  simp only [Act.put, List.setIfInBounds_toArray, List.set_cons_zero, List.set_cons_succ]
  refine wpAnyH_take (i := 3) (oi := { dst := some 27, op := Op.load 24 (Operand.tmp 26), type := 24, pos := "cmd.go:50", after := #[{ on := 2, ground := Ground.data }, { on := 5, ground := Ground.gcOnly Departure.lateStores }], guard := none }) (v := ?_) rfl (by kernel_rfl) (by kernel_rfl) (by kernel_rfl) (fun _ _ _ h => h) (Or.inl ⟨by rfl, ?_⟩) (by assumption) ?_
  rotate_left 1
  · intro w' hSw; (try dsimp only at hSw); go_simp; (try with_reducible rfl)
  simp only [Act.put, List.setIfInBounds_toArray, List.set_cons_zero, List.set_cons_succ]
  refine wpAnyH_take (i := 4) (oi := { dst := some 28, op := Op.fieldAddr 26 (Operand.tmp 5) 1, type := 0, pos := "cmd.go:50", after := #[{ on := 0, ground := Ground.phase }, { on := 1, ground := Ground.phase }, { on := 2, ground := Ground.textOnly Departure.lateStores }, { on := 3, ground := Ground.textOnly Departure.lateStores }], guard := none }) (v := ?_) rfl (by kernel_rfl) (by kernel_rfl) (by kernel_rfl) (fun _ _ _ h => h) (Or.inl ⟨by rfl, ?_⟩) (by assumption) ?_
  rotate_left 1
  · intro w' hSw; (try dsimp only at hSw); go_simp; (try with_reducible rfl)
  simp only [Act.put, List.setIfInBounds_toArray, List.set_cons_zero, List.set_cons_succ]
  refine wpAnyH_ready (rs := [5]) (by kernel_rfl) (by simp) ?_
  refine AllReadyH.cons (o := { dst := none, op := Op.store 4 (Operand.tmp 28) (Operand.tmp 25), type := 0, pos := "cmd.go:50", after := #[{ on := 4, ground := Ground.data }, { on := 1, ground := Ground.data }, { on := 0, ground := Ground.phase }, { on := 1, ground := Ground.phase }, { on := 2, ground := Ground.textOnly Departure.lateStores }, { on := 3, ground := Ground.textOnly Departure.lateStores }], guard := none }) rfl (fun K' hK => ?_) AllReadyH.nil
  go_simp
  obtain ⟨w5, hw5⟩ : ∃ v, v = (w4.setCell ⟨g5, 1, none⟩ (.bool true)).drew := ⟨_, rfl⟩
  rw [← hw5]
  have P5 : Hid (PS w w5 ⟨2, true, ix, gn, cp, dt⟩ A n c g3 g5 (some #[.bool true, .bool true, .bool true]) #[.int .i64 2, .bool true, .int .i64 0, .int .i64 0, .int .i64 0, .slice none 0 0]) := Lib.hid (by have hh := P4D.out.set HA.out 1 (.bool true); rw [hw5]; exact (show PS w (w4.drew.setCell ⟨g5, 1, none⟩ (.bool true)) ⟨2, true, ix, gn, cp, dt⟩ A n c g3 g5 (some #[.bool true, .bool true, .bool true]) #[.int .i64 2, .bool true, .int .i64 0, .int .i64 0, .int .i64 0, .slice none 0 0] by simpa using hh))
  have s5 : w5.cell? ⟨w.heap.size, 1, none⟩ = some (.bool true) ∧ w5.cell? ⟨w.heap.size, 2, none⟩ = some (.int .i64 ix) ∧ w5.cell? ⟨w.heap.size, 3, none⟩ = some (.int .i64 gn) := ⟨P5.out.k.c1, P5.out.k.c2, P5.out.k.c3⟩
  clear hw5 k1 z1 k2 z2 k3 z3
  have k1 := P5.out.r5.at_ 1
  have z1 := P5.out.r5.fz 1
  have k2 := P5.out.r5.at_ 2
  have z2 := P5.out.r5.fz 2
  have k3 := P5.out.r5.at_ 3
  have z3 := P5.out.r5.fz 3
  refine hK.out _ _ s5 (fun hHeld => ?_)
  clear hK K'
  try simp only [Act.put]
  refine wpAnyH_take (i := 6) (oi := { dst := some 29, op := Op.fieldAddr 26 (Operand.tmp 5) 2, type := 0, pos := "cmd.go:50", after := #[{ on := 0, ground := Ground.phase }, { on := 1, ground := Ground.phase }, { on := 2, ground := Ground.phase }, { on := 3, ground := Ground.phase }, { on := 4, ground := Ground.phase }, { on := 5, ground := Ground.phase }], guard := none }) (v := ?_) rfl (by kernel_rfl) (by kernel_rfl) (by kernel_rfl) (fun _ _ _ h => h) (Or.inl ⟨by rfl, ?_⟩) (by assumption) ?_
  rotate_left 1
  · intro w' hSw; (try dsimp only at hSw); go_simp; (try with_reducible rfl)
  simp only [Act.put, List.setIfInBounds_toArray, List.set_cons_zero, List.set_cons_succ]
  refine wpAnyH_ready (rs := [7]) (by kernel_rfl) (by simp) ?_
  refine AllReadyH.cons (o := { dst := none, op := Op.store 24 (Operand.tmp 29) (Operand.tmp 27), type := 0, pos := "cmd.go:50", after := #[{ on := 6, ground := Ground.data }, { on := 3, ground := Ground.data }, { on := 5, ground := Ground.chain }, { on := 0, ground := Ground.phase }, { on := 1, ground := Ground.phase }, { on := 2, ground := Ground.phase }, { on := 3, ground := Ground.phase }, { on := 4, ground := Ground.phase }, { on := 5, ground := Ground.phase }], guard := none }) rfl (fun K' hK => ?_) AllReadyH.nil
  go_simp
  obtain ⟨w6, hw6⟩ : ∃ v, v = (w5.setCell ⟨g5, 2, none⟩ (.int .i64 ix)).setCell ⟨g5, 3, none⟩ (.int .i64 gn) := ⟨_, rfl⟩
  rw [← hw6]
  have P6 : Hid (PS w w6 ⟨2, true, ix, gn, cp, dt⟩ A n c g3 g5 (some #[.bool true, .bool true, .bool true]) #[.int .i64 2, .bool true, .int .i64 ix, .int .i64 gn, .int .i64 0, .slice none 0 0]) := Lib.hid (by have hh := (P5.out.set HA.out 2 (.int .i64 ix)).set HA.out 3 (.int .i64 gn); rw [hw6]; exact (show PS w ((w5.setCell ⟨g5, 2, none⟩ (.int .i64 ix)).setCell ⟨g5, 3, none⟩ (.int .i64 gn)) ⟨2, true, ix, gn, cp, dt⟩ A n c g3 g5 (some #[.bool true, .bool true, .bool true]) #[.int .i64 2, .bool true, .int .i64 ix, .int .i64 gn, .int .i64 0, .slice none 0 0] by simpa using hh))
  have s6 : w6.cell? ⟨w.heap.size, 1, none⟩ = some (.bool true) ∧ w6.cell? ⟨w.heap.size, 2, none⟩ = some (.int .i64 ix) ∧ w6.cell? ⟨w.heap.size, 3, none⟩ = some (.int .i64 gn) := ⟨P6.out.k.c1, P6.out.k.c2, P6.out.k.c3⟩
  clear hw6 k1 z1 k2 z2 k3 z3
  refine hK.out _ _ s6 (fun hHeld => ?_)
  clear hK K'
  try simp only [Act.put]
  refine wpAnyH_done (by kernel_rfl) ?_ _
  refine NoPanic.normal ?_
  clear hHeld s4 s5 s6 P4D P5
  have q1 := P6.out.k.c1
  have z3 := P6.out.r5.fz 3
  have k3 := P6.out.r5.at_ 3
  obtain ⟨w7, hw7⟩ : ∃ v, v = w6.setCell ⟨g5, 3, none⟩ (.int .i64 0) := ⟨_, rfl⟩
  have P7 : Hid (PS w w7 ⟨2, true, ix, gn, cp, dt⟩ A n c g3 g5 (some #[.bool true, .bool true, .bool true]) #[.int .i64 2, .bool true, .int .i64 ix, .int .i64 0, .int .i64 0, .slice none 0 0]) := Lib.hid (by have hh := P6.out.set HA.out 3 (.int .i64 0); rw [hw7]; simpa using hh)
  have t1 := (P7.out.r3 _ rfl).at_ 1
  have q4 := P7.out.k.c4
  have z4 := P7.out.r5.fz 4
  have k4 := P7.out.r5.at_ 4
  obtain ⟨w8, hw8⟩ : ∃ v, v = w7.setCell ⟨g5, 4, none⟩ (.int .i64 cp) := ⟨_, rfl⟩
  have P8 : Hid (PS w w8 ⟨2, true, ix, gn, cp, dt⟩ A n c g3 g5 (some #[.bool true, .bool true, .bool true]) #[.int .i64 2, .bool true, .int .i64 ix, .int .i64 0, .int .i64 cp, .slice none 0 0]) := Lib.hid (by have hh := P7.out.set HA.out 4 (.int .i64 cp); rw [hw8]; simpa using hh)
  have t2 := (P8.out.r3 _ rfl).at_ 2
  have q5 := P8.out.k.c5
  have CC := Lib.hid (clone_any A n c dt w8 P8.out.k.rd (Lib.hid hn))
  clear P6
  go_wp2_with (first
    | (rw [← hw7]; clear hw7 z3 k3 q1)
    | (rw [← hw8]; clear hw8 z4 k4 q4 t1)
    | (go_at_call 23; refine CC.out.mono ?_; rintro e w9 ⟨v9, rfl, ho9, hb9⟩
       obtain ⟨A9, c9, rfl, hn9, _, hr9⟩ := Rd.of_own ho9 rfl
       have hlo9 := own_lo' ho9
       have P9 := P8.out.below hb9
       have z5 := P9.r5.fz 5
       have k5 := P9.r5.at_ 5
       obtain ⟨w10, hw10⟩ : ∃ v, v = w9.setCell ⟨g5, 5, none⟩ (.slice A9 n c9) := ⟨_, rfl⟩
       have hf10 : Fr (· = g5) w9 w10 := by rw [hw10]; exact Fr.setCell w9 (own := (· = g5)) (p := ⟨g5, 5, none⟩) rfl _
       have g58 := P8.out.r5.lt
       have P10 : Hid (PS w w10 ⟨2, true, ix, gn, cp, dt⟩ A n c g3 g5 (some #[.bool true, .bool true, .bool true]) #[.int .i64 2, .bool true, .int .i64 ix, .int .i64 0, .int .i64 cp, .slice A9 n c9]) := Lib.hid (by have hh := P9.set HA.out 5 (.slice A9 n c9); rw [hw10]; simpa using hh)
       have RD10 := Lib.hid (And.intro hn9 (hr9.fr hf10 (fun b o e hp e' => by have := hlo9 b o e; omega)))
       have RDL := Lib.hid hlo9
       have G8 := Lib.hid (show w.heap.size + 1 < w8.heap.size by have := P8.out.h3; omega)
       clear P9 hb9 ho9 hr9 hlo9 hn9 hf10 g58 q5 t2)
    | (rw [← hw10]; clear hw10 z5 k5)
    | ((with_reducible refine wpList_ldS cdT rfl rfl (.tmp 5) rfl rfl P10.out.r5 ?_))
    | ((with_reducible refine wpList_stS (cs' := #[.int .i64 2, .bool true, .int .i64 ix, .int .i64 0, .int .i64 cp, .slice A9 n c9]) cdT rfl rfl (by simp [Value.oneCell']) rfl (.tmp 2) (.tmp 45) rfl rfl rfl P10.out.r2 ?_); intro w12 hR12 hF12))
  refine bodyPost_ret (res_c rfl rfl (hR12.load cdT rfl)) rfl ?_
  exact ⟨A9, n, c9, rfl, RD10.out.2.fr hF12 (fun b o e hp e' => by have := RDL.out b o e; have := G8.out; omega), RD10.out.1, P10.out.done hF12⟩

set_option maxHeartbeats 2000000 in
theorem Plain_3f (ix gn cp : Int) (dt : List UInt8) (A : Option Addr) (n c : Nat) (w : World) (h : Rd w A n dt) (hn : n ≤ 140737488355328) :
    Calls Try.prog 11 #[.agg (Cd.cs ⟨3, false, ix, gn, cp, dt⟩ A n c)] w (PlainP ⟨3, false, ix, gn, cp, dt⟩ w) := by
  obtain ⟨w1, hw1⟩ : ∃ w1, w1 = (w.alloc (.cells (Cd.cs ⟨3, false, ix, gn, cp, dt⟩ A n c) 26)).alloc (.cells (Cd.zero.cs none 0 0) 26) := ⟨_, rfl⟩
  have K1 : CdAt w w1 w.heap.size ⟨3, false, ix, gn, cp, dt⟩ A n c := by rw [hw1]; exact (CdAt.new w ⟨3, false, ix, gn, cp, dt⟩ A n c h).next ((Below.refl _ _).alloc (Nat.le_refl _) _)
  have R1 : Rec 26 w1 (w.heap.size + 1) (Cd.zero.cs none 0 0) := by
    have := Rec.new (w.alloc (.cells (Cd.cs ⟨3, false, ix, gn, cp, dt⟩ A n c) 26)) 26 (Cd.zero.cs none 0 0)
    rw [World.size_alloc] at this
    rw [hw1]; exact this
  have hA := h.lo
  have hv : Calls Try.prog 22 #[.int .i64 3] w1 fun e w' => e = .returned (.tuple #[.agg #[.bool true, .bool true, .bool false], .bool true]) ∧ Below w1.heap.size w1 w' := (has_any 3 w1).mono fun e w' hp => by simpa [HasP, hasV, hasB] using hp
  have HV := Lib.hid hv
  have HA := Lib.hid hA
  have c0 := K1.c0
  have HK := Lib.hid (And.intro K1 R1)
  clear h hA hv K1 R1
  go_enter Try.func11, Try.ntmps11
  go_upto_region 7 with (first
    | (rw [← hw1]; clear hw1)
    | (go_at_call 22; refine HV.out.mono ?_; rintro e w2 ⟨rfl, hb2⟩
       have K2 := HK.out.1.next hb2
       have R2 := HK.out.2.under hb2
       have l2 := R2.lt
       obtain ⟨w3, hw3⟩ : ∃ w3, w3 = w2.alloc (.cells #[.bool true, .bool true, .bool false] 46) := ⟨_, rfl⟩
       have hb3 : Below w2.heap.size w2 w3 := by rw [hw3]; exact (Below.refl _ _).alloc (Nat.le_refl _) _
       have T3 : Rec 46 w3 w2.heap.size #[.bool true, .bool true, .bool false] := by rw [hw3]; exact Rec.new w2 _ _
       obtain ⟨w4, hw4⟩ : ∃ w4, w4 = w3.alloc (.cells #[.int .i64 3, .bool false, .int .i64 0, .int .i64 0, .int .i64 0, .slice none 0 0] 26) := ⟨_, rfl⟩
       have hb4 : Below w3.heap.size w3 w4 := by rw [hw4]; exact (Below.refl _ _).alloc (Nat.le_refl _) _
       have c03 : w3.cell? ⟨w.heap.size, 0, none⟩ = some (.int .i64 3) := (K2.next hb3).c0
       have r4 : Rec 26 w4 w3.heap.size #[.int .i64 3, .bool false, .int .i64 0, .int .i64 0, .int .i64 0, .slice none 0 0] := by rw [hw4]; exact Rec.new w3 _ _
       have t4 := T3.under hb4
       have P4 := Lib.hid (show PS w w4 ⟨3, false, ix, gn, cp, dt⟩ A n c w2.heap.size w3.heap.size (some #[.bool true, .bool true, .bool false]) #[.int .i64 3, .bool false, .int .i64 0, .int .i64 0, .int .i64 0, .slice none 0 0] from
         ⟨(K2.next hb3).next hb4, (R2.under hb3).under hb4, fun t e => by injection e with e; rw [← e]; exact t4, r4, by have := hb3.size; omega, fun _ => by have := T3.lt; omega⟩)
       have t40 := t4.at_ 0
       obtain ⟨g3, hg3⟩ : ∃ g3, g3 = w2.heap.size := ⟨_, rfl⟩
       obtain ⟨g5, hg5⟩ : ∃ g5, g5 = w3.heap.size := ⟨_, rfl⟩
       rw [← hg3] at t40
       rw [← hg3, ← hg5] at P4
       have G := Lib.hid (And.intro hg3 hg5)
       clear K2 R2 hb2 hb3 hb4 T3 r4 t4 c0 l2 hg3 hg5)
    | (rw [← hw3, ← G.out.1]; clear hw3)
    | (rw [← hw4, ← G.out.2]; clear hw4))
  have P4d := P4.out.below (Below.refl _ _).drew
  have s4 : w4.drew.cell? ⟨w.heap.size, 1, none⟩ = some (.bool false) ∧ w4.drew.cell? ⟨w.heap.size, 2, none⟩ = some (.int .i64 ix) ∧ w4.drew.cell? ⟨w.heap.size, 3, none⟩ = some (.int .i64 gn) := ⟨P4d.k.c1, P4d.k.c2, P4d.k.c3⟩
  have P4D := Lib.hid P4d
  clear t40 P4 c03 P4d
  have k1 := P4D.out.r5.at_ 1
  have z1 := P4D.out.r5.fz 1
  have k2 := P4D.out.r5.at_ 2
  have z2 := P4D.out.r5.fz 2
  have k3 := P4D.out.r5.at_ 3
  have z3 := P4D.out.r5.fz 3
  refine wp_region_noPanic ?_
  refine wp_region_held_drew (S := fun W => W.cell? ⟨w.heap.size, 1, none⟩ = some (.bool false) ∧ W.cell? ⟨w.heap.size, 2, none⟩ = some (.int .i64 ix) ∧ W.cell? ⟨w.heap.size, 3, none⟩ = some (.int .i64 gn)) (by kernel_rfl) s4 (fun hHeld => ?_)
  refine wpAnyH_take (i := 0) (oi := { dst := some 24, op := Op.fieldAddr 26 (Operand.tmp 1) 1, type := 0, pos := "cmd.go:50", after := #[], guard := none }) (v := ?_) rfl (by kernel_rfl) (by kernel_rfl) (by kernel_rfl) (fun _ _ _ h => h) (Or.inl ⟨by rfl, ?_⟩) (by assumption) ?_
  rotate_left 1
  · intro w' hSw; (try dsimp only at hSw); go_simp; (try with_reducible rfl)
  simp only [Act.put, List.setIfInBounds_toArray, List.set_cons_zero, List.set_cons_succ]
  refine wpAnyH_take (i := 1) (oi := { dst := some 25, op := Op.load 4 (Operand.tmp 24), type := 4, pos := "cmd.go:50", after := #[{ on := 0, ground := Ground.data }], guard := none }) (v := ?_) rfl (by kernel_rfl) (by kernel_rfl) (by kernel_rfl) (fun _ _ _ h => h) (Or.inl ⟨by rfl, ?_⟩) (by assumption) ?_
  rotate_left 1
  · intro w' hSw; (try dsimp only at hSw); go_simp; (try with_reducible rfl)
  simp only [Act.put, List.setIfInBounds_toArray, List.set_cons_zero, List.set_cons_succ]
  refine wpAnyH_take (i := 2) (oi := { dst := some 26, op := Op.fieldAddr 26 (Operand.tmp 1) 2, type := 0, pos := "cmd.go:50", after := #[{ on := 5, ground := Ground.gcOnly Departure.lateStores }], guard := none }) (v := ?_) rfl (by kernel_rfl) (by kernel_rfl) (by kernel_rfl) (fun _ _ _ h => h) (Or.inl ⟨by rfl, ?_⟩) (by assumption) ?_
  rotate_left 1
  · intro w' hSw; (try dsimp only at hSw); go_simp; (try with_reducible rfl)
  simp only [Act.put, List.setIfInBounds_toArray, List.set_cons_zero, List.set_cons_succ]
  refine wpAnyH_take (i := 3) (oi := { dst := some 27, op := Op.load 24 (Operand.tmp 26), type := 24, pos := "cmd.go:50", after := #[{ on := 2, ground := Ground.data }, { on := 5, ground := Ground.gcOnly Departure.lateStores }], guard := none }) (v := ?_) rfl (by kernel_rfl) (by kernel_rfl) (by kernel_rfl) (fun _ _ _ h => h) (Or.inl ⟨by rfl, ?_⟩) (by assumption) ?_
  rotate_left 1
  · intro w' hSw; (try dsimp only at hSw); go_simp; (try with_reducible rfl)
  simp only [Act.put, List.setIfInBounds_toArray, List.set_cons_zero, List.set_cons_succ]
  refine wpAnyH_take (i := 4) (oi := { dst := some 28, op := Op.fieldAddr 26 (Operand.tmp 5) 1, type := 0, pos := "cmd.go:50", after := #[{ on := 0, ground := Ground.phase }, { on := 1, ground := Ground.phase }, { on := 2, ground := Ground.textOnly Departure.lateStores }, { on := 3, ground := Ground.textOnly Departure.lateStores }], guard := none }) (v := ?_) rfl (by kernel_rfl) (by kernel_rfl) (by kernel_rfl) (fun _ _ _ h => h) (Or.inl ⟨by rfl, ?_⟩) (by assumption) ?_
  rotate_left 1
  · intro w' hSw; (try dsimp only at hSw); go_simp; (try with_reducible rfl)
  simp only [Act.put, List.setIfInBounds_toArray, List.set_cons_zero, List.set_cons_succ]
  refine wpAnyH_ready (rs := [5]) (by kernel_rfl) (by simp) ?_
  refine AllReadyH.cons (o := { dst := none, op := Op.store 4 (Operand.tmp 28) (Operand.tmp 25), type := 0, pos := "cmd.go:50", after := #[{ on := 4, ground := Ground.data }, { on := 1, ground := Ground.data }, { on := 0, ground := Ground.phase }, { on := 1, ground := Ground.phase }, { on := 2, ground := Ground.textOnly Departure.lateStores }, { on := 3, ground := Ground.textOnly Departure.lateStores }], guard := none }) rfl (fun K' hK => ?_) AllReadyH.nil
  go_simp
  obtain ⟨w5, hw5⟩ : ∃ v, v = (w4.setCell ⟨g5, 1, none⟩ (.bool false)).drew := ⟨_, rfl⟩
  rw [← hw5]
  have P5 : Hid (PS w w5 ⟨3, false, ix, gn, cp, dt⟩ A n c g3 g5 (some #[.bool true, .bool true, .bool false]) #[.int .i64 3, .bool false, .int .i64 0, .int .i64 0, .int .i64 0, .slice none 0 0]) := Lib.hid (by have hh := P4D.out.set HA.out 1 (.bool false); rw [hw5]; exact (show PS w (w4.drew.setCell ⟨g5, 1, none⟩ (.bool false)) ⟨3, false, ix, gn, cp, dt⟩ A n c g3 g5 (some #[.bool true, .bool true, .bool false]) #[.int .i64 3, .bool false, .int .i64 0, .int .i64 0, .int .i64 0, .slice none 0 0] by simpa using hh))
  have s5 : w5.cell? ⟨w.heap.size, 1, none⟩ = some (.bool false) ∧ w5.cell? ⟨w.heap.size, 2, none⟩ = some (.int .i64 ix) ∧ w5.cell? ⟨w.heap.size, 3, none⟩ = some (.int .i64 gn) := ⟨P5.out.k.c1, P5.out.k.c2, P5.out.k.c3⟩
  clear hw5 k1 z1 k2 z2 k3 z3
  have k1 := P5.out.r5.at_ 1
  have z1 := P5.out.r5.fz 1
  have k2 := P5.out.r5.at_ 2
  have z2 := P5.out.r5.fz 2
  have k3 := P5.out.r5.at_ 3
  have z3 := P5.out.r5.fz 3
  refine hK.out _ _ s5 (fun hHeld => ?_)
  clear hK K'
  try simp only [Act.put]
  refine wpAnyH_take (i := 6) (oi := { dst := some 29, op := Op.fieldAddr 26 (Operand.tmp 5) 2, type := 0, pos := "cmd.go:50", after := #[{ on := 0, ground := Ground.phase }, { on := 1, ground := Ground.phase }, { on := 2, ground := Ground.phase }, { on := 3, ground := Ground.phase }, { on := 4, ground := Ground.phase }, { on := 5, ground := Ground.phase }], guard := none }) (v := ?_) rfl (by kernel_rfl) (by kernel_rfl) (by kernel_rfl) (fun _ _ _ h => h) (Or.inl ⟨by rfl, ?_⟩) (by assumption) ?_
  rotate_left 1
  · intro w' hSw; (try dsimp only at hSw); go_simp; (try with_reducible rfl)
  simp only [Act.put, List.setIfInBounds_toArray, List.set_cons_zero, List.set_cons_succ]
  refine wpAnyH_ready (rs := [7]) (by kernel_rfl) (by simp) ?_
  refine AllReadyH.cons (o := { dst := none, op := Op.store 24 (Operand.tmp 29) (Operand.tmp 27), type := 0, pos := "cmd.go:50", after := #[{ on := 6, ground := Ground.data }, { on := 3, ground := Ground.data }, { on := 5, ground := Ground.chain }, { on := 0, ground := Ground.phase }, { on := 1, ground := Ground.phase }, { on := 2, ground := Ground.phase }, { on := 3, ground := Ground.phase }, { on := 4, ground := Ground.phase }, { on := 5, ground := Ground.phase }], guard := none }) rfl (fun K' hK => ?_) AllReadyH.nil
  go_simp
  obtain ⟨w6, hw6⟩ : ∃ v, v = (w5.setCell ⟨g5, 2, none⟩ (.int .i64 ix)).setCell ⟨g5, 3, none⟩ (.int .i64 gn) := ⟨_, rfl⟩
  rw [← hw6]
  have P6 : Hid (PS w w6 ⟨3, false, ix, gn, cp, dt⟩ A n c g3 g5 (some #[.bool true, .bool true, .bool false]) #[.int .i64 3, .bool false, .int .i64 ix, .int .i64 gn, .int .i64 0, .slice none 0 0]) := Lib.hid (by have hh := (P5.out.set HA.out 2 (.int .i64 ix)).set HA.out 3 (.int .i64 gn); rw [hw6]; exact (show PS w ((w5.setCell ⟨g5, 2, none⟩ (.int .i64 ix)).setCell ⟨g5, 3, none⟩ (.int .i64 gn)) ⟨3, false, ix, gn, cp, dt⟩ A n c g3 g5 (some #[.bool true, .bool true, .bool false]) #[.int .i64 3, .bool false, .int .i64 ix, .int .i64 gn, .int .i64 0, .slice none 0 0] by simpa using hh))
  have s6 : w6.cell? ⟨w.heap.size, 1, none⟩ = some (.bool false) ∧ w6.cell? ⟨w.heap.size, 2, none⟩ = some (.int .i64 ix) ∧ w6.cell? ⟨w.heap.size, 3, none⟩ = some (.int .i64 gn) := ⟨P6.out.k.c1, P6.out.k.c2, P6.out.k.c3⟩
  clear hw6 k1 z1 k2 z2 k3 z3
  refine hK.out _ _ s6 (fun hHeld => ?_)
  clear hK K'
  try simp only [Act.put]
  refine wpAnyH_done (by kernel_rfl) ?_ _
  refine NoPanic.normal ?_
  clear hHeld s4 s5 s6 P4D P5
  have q1 := P6.out.k.c1
  have P7 := P6
  obtain ⟨w7, hw7⟩ : ∃ v, v = w6 := ⟨_, rfl⟩
  rw [← hw7] at P7
  have t1 := (P7.out.r3 _ rfl).at_ 1
  have q4 := P7.out.k.c4
  have z4 := P7.out.r5.fz 4
  have k4 := P7.out.r5.at_ 4
  obtain ⟨w8, hw8⟩ : ∃ v, v = w7.setCell ⟨g5, 4, none⟩ (.int .i64 cp) := ⟨_, rfl⟩
  have P8 : Hid (PS w w8 ⟨3, false, ix, gn, cp, dt⟩ A n c g3 g5 (some #[.bool true, .bool true, .bool false]) #[.int .i64 3, .bool false, .int .i64 ix, .int .i64 gn, .int .i64 cp, .slice none 0 0]) := Lib.hid (by have hh := P7.out.set HA.out 4 (.int .i64 cp); rw [hw8]; simpa using hh)
  have t2 := (P8.out.r3 _ rfl).at_ 2
  subst hw7; clear P6
  go_wp2_with (first
    | (rw [← hw8]; clear hw8 z4 k4 q4 t1)
    | ((with_reducible refine wpList_ldS cdT rfl rfl (.tmp 5) rfl rfl P8.out.r5 ?_))
    | ((with_reducible refine wpList_stS (cs' := #[.int .i64 3, .bool false, .int .i64 ix, .int .i64 gn, .int .i64 cp, .slice none 0 0]) cdT rfl rfl (by simp [Value.oneCell']) rfl (.tmp 2) (.tmp 45) rfl rfl rfl P8.out.r2 ?_); intro w12 hR12 hF12))
  refine bodyPost_ret (res_c rfl rfl (hR12.load cdT rfl)) rfl ?_
  exact ⟨none, 0, 0, rfl, Rd.nil _ _, Nat.le_refl _, P8.out.done hF12⟩

set_option maxHeartbeats 2000000 in
theorem Plain_3t (ix gn cp : Int) (dt : List UInt8) (A : Option Addr) (n c : Nat) (w : World) (h : Rd w A n dt) (hn : n ≤ 140737488355328) :
    Calls Try.prog 11 #[.agg (Cd.cs ⟨3, true, ix, gn, cp, dt⟩ A n c)] w (PlainP ⟨3, true, ix, gn, cp, dt⟩ w) := by
  obtain ⟨w1, hw1⟩ : ∃ w1, w1 = (w.alloc (.cells (Cd.cs ⟨3, true, ix, gn, cp, dt⟩ A n c) 26)).alloc (.cells (Cd.zero.cs none 0 0) 26) := ⟨_, rfl⟩
  have K1 : CdAt w w1 w.heap.size ⟨3, true, ix, gn, cp, dt⟩ A n c := by rw [hw1]; exact (CdAt.new w ⟨3, true, ix, gn, cp, dt⟩ A n c h).next ((Below.refl _ _).alloc (Nat.le_refl _) _)
  have R1 : Rec 26 w1 (w.heap.size + 1) (Cd.zero.cs none 0 0) := by
    have := Rec.new (w.alloc (.cells (Cd.cs ⟨3, true, ix, gn, cp, dt⟩ A n c) 26)) 26 (Cd.zero.cs none 0 0)
    rw [World.size_alloc] at this
    rw [hw1]; exact this
  have hA := h.lo
  have hv : Calls Try.prog 22 #[.int .i64 3] w1 fun e w' => e = .returned (.tuple #[.agg #[.bool true, .bool true, .bool false], .bool true]) ∧ Below w1.heap.size w1 w' := (has_any 3 w1).mono fun e w' hp => by simpa [HasP, hasV, hasB] using hp
  have HV := Lib.hid hv
  have HA := Lib.hid hA
  have c0 := K1.c0
  have HK := Lib.hid (And.intro K1 R1)
  clear h hA hv K1 R1
  go_enter Try.func11, Try.ntmps11
  go_upto_region 7 with (first
    | (rw [← hw1]; clear hw1)
    | (go_at_call 22; refine HV.out.mono ?_; rintro e w2 ⟨rfl, hb2⟩
       have K2 := HK.out.1.next hb2
       have R2 := HK.out.2.under hb2
       have l2 := R2.lt
       obtain ⟨w3, hw3⟩ : ∃ w3, w3 = w2.alloc (.cells #[.bool true, .bool true, .bool false] 46) := ⟨_, rfl⟩
       have hb3 : Below w2.heap.size w2 w3 := by rw [hw3]; exact (Below.refl _ _).alloc (Nat.le_refl _) _
       have T3 : Rec 46 w3 w2.heap.size #[.bool true, .bool true, .bool false] := by rw [hw3]; exact Rec.new w2 _ _
       obtain ⟨w4, hw4⟩ : ∃ w4, w4 = w3.alloc (.cells #[.int .i64 3, .bool false, .int .i64 0, .int .i64 0, .int .i64 0, .slice none 0 0] 26) := ⟨_, rfl⟩
       have hb4 : Below w3.heap.size w3 w4 := by rw [hw4]; exact (Below.refl _ _).alloc (Nat.le_refl _) _
       have c03 : w3.cell? ⟨w.heap.size, 0, none⟩ = some (.int .i64 3) := (K2.next hb3).c0
       have r4 : Rec 26 w4 w3.heap.size #[.int .i64 3, .bool false, .int .i64 0, .int .i64 0, .int .i64 0, .slice none 0 0] := by rw [hw4]; exact Rec.new w3 _ _
       have t4 := T3.under hb4
       have P4 := Lib.hid (show PS w w4 ⟨3, true, ix, gn, cp, dt⟩ A n c w2.heap.size w3.heap.size (some #[.bool true, .bool true, .bool false]) #[.int .i64 3, .bool false, .int .i64 0, .int .i64 0, .int .i64 0, .slice none 0 0] from
         ⟨(K2.next hb3).next hb4, (R2.under hb3).under hb4, fun t e => by injection e with e; rw [← e]; exact t4, r4, by have := hb3.size; omega, fun _ => by have := T3.lt; omega⟩)
       have t40 := t4.at_ 0
       obtain ⟨g3, hg3⟩ : ∃ g3, g3 = w2.heap.size := ⟨_, rfl⟩
       obtain ⟨g5, hg5⟩ : ∃ g5, g5 = w3.heap.size := ⟨_, rfl⟩
       rw [← hg3] at t40
       rw [← hg3, ← hg5] at P4
       have G := Lib.hid (And.intro hg3 hg5)
       clear K2 R2 hb2 hb3 hb4 T3 r4 t4 c0 l2 hg3 hg5)
    | (rw [← hw3, ← G.out.1]; clear hw3)
    | (rw [← hw4, ← G.out.2]; clear hw4))
  have P4d := P4.out.below (Below.refl _ _).drew
  have s4 : w4.drew.cell? ⟨w.heap.size, 1, none⟩ = some (.bool true) ∧ w4.drew.cell? ⟨w.heap.size, 2, none⟩ = some (.int .i64 ix) ∧ w4.drew.cell? ⟨w.heap.size, 3, none⟩ = some (.int .i64 gn) := ⟨P4d.k.c1, P4d.k.c2, P4d.k.c3⟩
  have P4D := Lib.hid P4d
  clear t40 P4 c03 P4d
  have k1 := P4D.out.r5.at_ 1
  have z1 := P4D.out.r5.fz 1
  have k2 := P4D.out.r5.at_ 2
  have z2 := P4D.out.r5.fz 2
  have k3 := P4D.out.r5.at_ 3
  have z3 := P4D.out.r5.fz 3
  refine wp_region_noPanic ?_
  refine wp_region_held_drew (S := fun W => W.cell? ⟨w.heap.size, 1, none⟩ = some (.bool true) ∧ W.cell? ⟨w.heap.size, 2, none⟩ = some (.int .i64 ix) ∧ W.cell? ⟨w.heap.size, 3, none⟩ = some (.int .i64 gn)) (by kernel_rfl) s4 (fun hHeld => ?_)
  refine wpAnyH_take (i := 0) (oi := { dst := some 24, op := Op.fieldAddr 26 (Operand.tmp 1) 1, type := 0, pos := "cmd.go:50", after := #[], guard := none }) (v := ?_) rfl (by kernel_rfl) (by kernel_rfl) (by kernel_rfl) (fun _ _ _ h => h) (Or.inl ⟨by rfl, ?_⟩) (by assumption) ?_
  rotate_left 1
  · intro w' hSw; (try dsimp only at hSw); go_simp; (try with_reducible rfl)
  simp only [Act.put, List.setIfInBounds_toArray, List.set_cons_zero, List.set_cons_succ]
  refine wpAnyH_take (i := 1) (oi := { dst := some 25, op := Op.load 4 (Operand.tmp 24), type := 4, pos := "cmd.go:50", after := #[{ on := 0, ground := Ground.data }], guard := none }) (v := ?_) rfl (by kernel_rfl) (by kernel_rfl) (by kernel_rfl) (fun _ _ _ h => h) (Or.inl ⟨by rfl, ?_⟩) (by assumption) ?_
  rotate_left 1
  · intro w' hSw; (try dsimp only at hSw); go_simp; (try with_reducible rfl)
  simp only [Act.put, List.setIfInBounds_toArray, List.set_cons_zero, List.set_cons_succ]
  refine wpAnyH_take (i := 2) (oi := { dst := some 26, op := Op.fieldAddr 26 (Operand.tmp 1) 2, type := 0, pos := "cmd.go:50", after := #[{ on := 5, ground := Ground.gcOnly Departure.lateStores }], guard := none }) (v := ?_) rfl (by kernel_rfl) (by kernel_rfl) (by kernel_rfl) (fun _ _ _ h => h) (Or.inl ⟨by rfl, ?_⟩) (by assumption) ?_
  rotate_left 1
  · intro w' hSw; (try dsimp only at hSw); go_simp; (try with_reducible rfl)
  simp only [Act.put, List.setIfInBounds_toArray, List.set_cons_zero, List.set_cons_succ]
  refine wpAnyH_take (i := 3) (oi := { dst := some 27, op := Op.load 24 (Operand.tmp 26), type := 24, pos := "cmd.go:50", after := #[{ on := 2, ground := Ground.data }, { on := 5, ground := Ground.gcOnly Departure.lateStores }], guard := none }) (v := ?_) rfl (by kernel_rfl) (by kernel_rfl) (by kernel_rfl) (fun _ _ _ h => h) (Or.inl ⟨by rfl, ?_⟩) (by assumption) ?_
  rotate_left 1
  · intro w' hSw; (try dsimp only at hSw); go_simp; (try with_reducible rfl)
  simp only [Act.put, List.setIfInBounds_toArray, List.set_cons_zero, List.set_cons_succ]
  refine wpAnyH_take (i := 4) (oi := { dst := some 28, op := Op.fieldAddr 26 (Operand.tmp 5) 1, type := 0, pos := "cmd.go:50", after := #[{ on := 0, ground := Ground.phase }, { on := 1, ground := Ground.phase }, { on := 2, ground := Ground.textOnly Departure.lateStores }, { on := 3, ground := Ground.textOnly Departure.lateStores }], guard := none }) (v := ?_) rfl (by kernel_rfl) (by kernel_rfl) (by kernel_rfl) (fun _ _ _ h => h) (Or.inl ⟨by rfl, ?_⟩) (by assumption) ?_
  rotate_left 1
  · intro w' hSw; (try dsimp only at hSw); go_simp; (try with_reducible rfl)
  simp only [Act.put, List.setIfInBounds_toArray, List.set_cons_zero, List.set_cons_succ]
  refine wpAnyH_ready (rs := [5]) (by kernel_rfl) (by simp) ?_
  refine AllReadyH.cons (o := { dst := none, op := Op.store 4 (Operand.tmp 28) (Operand.tmp 25), type := 0, pos := "cmd.go:50", after := #[{ on := 4, ground := Ground.data }, { on := 1, ground := Ground.data }, { on := 0, ground := Ground.phase }, { on := 1, ground := Ground.phase }, { on := 2, ground := Ground.textOnly Departure.lateStores }, { on := 3, ground := Ground.textOnly Departure.lateStores }], guard := none }) rfl (fun K' hK => ?_) AllReadyH.nil
  go_simp
  obtain ⟨w5, hw5⟩ : ∃ v, v = (w4.setCell ⟨g5, 1, none⟩ (.bool true)).drew := ⟨_, rfl⟩
  rw [← hw5]
  have P5 : Hid (PS w w5 ⟨3, true, ix, gn, cp, dt⟩ A n c g3 g5 (some #[.bool true, .bool true, .bool false]) #[.int .i64 3, .bool true, .int .i64 0, .int .i64 0, .int .i64 0, .slice none 0 0]) := Lib.hid (by have hh := P4D.out.set HA.out 1 (.bool true); rw [hw5]; exact (show PS w (w4.drew.setCell ⟨g5, 1, none⟩ (.bool true)) ⟨3, true, ix, gn, cp, dt⟩ A n c g3 g5 (some #[.bool true, .bool true, .bool false]) #[.int .i64 3, .bool true, .int .i64 0, .int .i64 0, .int .i64 0, .slice none 0 0] by simpa using hh))
  have s5 : w5.cell? ⟨w.heap.size, 1, none⟩ = some (.bool true) ∧ w5.cell? ⟨w.heap.size, 2, none⟩ = some (.int .i64 ix) ∧ w5.cell? ⟨w.heap.size, 3, none⟩ = some (.int .i64 gn) := ⟨P5.out.k.c1, P5.out.k.c2, P5.out.k.c3⟩
  clear hw5 k1 z1 k2 z2 k3 z3
  have k1 := P5.out.r5.at_ 1
  have z1 := P5.out.r5.fz 1
  have k2 := P5.out.r5.at_ 2
  have z2 := P5.out.r5.fz 2
  have k3 := P5.out.r5.at_ 3
  have z3 := P5.out.r5.fz 3
  refine hK.out _ _ s5 (fun hHeld => ?_)
  clear hK K'
  try simp only [Act.put]
  refine wpAnyH_take (i := 6) (oi := { dst := some 29, op := Op.fieldAddr 26 (Operand.tmp 5) 2, type := 0, pos := "cmd.go:50", after := #[{ on := 0, ground := Ground.phase }, { on := 1, ground := Ground.phase }, { on := 2, ground := Ground.phase }, { on := 3, ground := Ground.phase }, { on := 4, ground := Ground.phase }, { on := 5, ground := Ground.phase }], guard := none }) (v := ?_) rfl (by kernel_rfl) (by kernel_rfl) (by kernel_rfl) (fun _ _ _ h => h) (Or.inl ⟨by rfl, ?_⟩) (by assumption) ?_
  rotate_left 1
  · intro w' hSw; (try dsimp only at hSw); go_simp; (try with_reducible rfl)
  simp only [Act.put, List.setIfInBounds_toArray, List.set_cons_zero, List.set_cons_succ]
  refine wpAnyH_ready (rs := [7]) (by kernel_rfl) (by simp) ?_
  refine AllReadyH.cons (o := { dst := none, op := Op.store 24 (Operand.tmp 29) (Operand.tmp 27), type := 0, pos := "cmd.go:50", after := #[{ on := 6, ground := Ground.data }, { on := 3, ground := Ground.data }, { on := 5, ground := Ground.chain }, { on := 0, ground := Ground.phase }, { on := 1, ground := Ground.phase }, { on := 2, ground := Ground.phase }, { on := 3, ground := Ground.phase }, { on := 4, ground := Ground.phase }, { on := 5, ground := Ground.phase }], guard := none }) rfl (fun K' hK => ?_) AllReadyH.nil
  go_simp
  obtain ⟨w6, hw6⟩ : ∃ v, v = (w5.setCell ⟨g5, 2, none⟩ (.int .i64 ix)).setCell ⟨g5, 3, none⟩ (.int .i64 gn) := ⟨_, rfl⟩
  rw [← hw6]
  have P6 : Hid (PS w w6 ⟨3, true, ix, gn, cp, dt⟩ A n c g3 g5 (some #[.bool true, .bool true, .bool false]) #[.int .i64 3, .bool true, .int .i64 ix, .int .i64 gn, .int .i64 0, .slice none 0 0]) := Lib.hid (by have hh := (P5.out.set HA.out 2 (.int .i64 ix)).set HA.out 3 (.int .i64 gn); rw [hw6]; exact (show PS w ((w5.setCell ⟨g5, 2, none⟩ (.int .i64 ix)).setCell ⟨g5, 3, none⟩ (.int .i64 gn)) ⟨3, true, ix, gn, cp, dt⟩ A n c g3 g5 (some #[.bool true, .bool true, .bool false]) #[.int .i64 3, .bool true, .int .i64 ix, .int .i64 gn, .int .i64 0, .slice none 0 0] by simpa using hh))
  have s6 : w6.cell? ⟨w.heap.size, 1, none⟩ = some (.bool true) ∧ w6.cell? ⟨w.heap.size, 2, none⟩ = some (.int .i64 ix) ∧ w6.cell? ⟨w.heap.size, 3, none⟩ = some (.int .i64 gn) := ⟨P6.out.k.c1, P6.out.k.c2, P6.out.k.c3⟩
  clear hw6 k1 z1 k2 z2 k3 z3
  refine hK.out _ _ s6 (fun hHeld => ?_)
  clear hK K'
  try simp only [Act.put]
  refine wpAnyH_done (by kernel_rfl) ?_ _
  refine NoPanic.normal ?_
  clear hHeld s4 s5 s6 P4D P5
  have q1 := P6.out.k.c1
  have z3 := P6.out.r5.fz 3
  have k3 := P6.out.r5.at_ 3
  obtain ⟨w7, hw7⟩ : ∃ v, v = w6.setCell ⟨g5, 3, none⟩ (.int .i64 0) := ⟨_, rfl⟩
  have P7 : Hid (PS w w7 ⟨3, true, ix, gn, cp, dt⟩ A n c g3 g5 (some #[.bool true, .bool true, .bool false]) #[.int .i64 3, .bool true, .int .i64 ix, .int .i64 0, .int .i64 0, .slice none 0 0]) := Lib.hid (by have hh := P6.out.set HA.out 3 (.int .i64 0); rw [hw7]; simpa using hh)
  have t1 := (P7.out.r3 _ rfl).at_ 1
  have q4 := P7.out.k.c4
  have z4 := P7.out.r5.fz 4
  have k4 := P7.out.r5.at_ 4
  obtain ⟨w8, hw8⟩ : ∃ v, v = w7.setCell ⟨g5, 4, none⟩ (.int .i64 cp) := ⟨_, rfl⟩
  have P8 : Hid (PS w w8 ⟨3, true, ix, gn, cp, dt⟩ A n c g3 g5 (some #[.bool true, .bool true, .bool false]) #[.int .i64 3, .bool true, .int .i64 ix, .int .i64 0, .int .i64 cp, .slice none 0 0]) := Lib.hid (by have hh := P7.out.set HA.out 4 (.int .i64 cp); rw [hw8]; simpa using hh)
  have t2 := (P8.out.r3 _ rfl).at_ 2
  clear P6
  go_wp2_with (first
    | (rw [← hw7]; clear hw7 z3 k3 q1)
    | (rw [← hw8]; clear hw8 z4 k4 q4 t1)
    | ((with_reducible refine wpList_ldS cdT rfl rfl (.tmp 5) rfl rfl P8.out.r5 ?_))
    | ((with_reducible refine wpList_stS (cs' := #[.int .i64 3, .bool true, .int .i64 ix, .int .i64 0, .int .i64 cp, .slice none 0 0]) cdT rfl rfl (by simp [Value.oneCell']) rfl (.tmp 2) (.tmp 45) rfl rfl rfl P8.out.r2 ?_); intro w12 hR12 hF12))
  refine bodyPost_ret (res_c rfl rfl (hR12.load cdT rfl)) rfl ?_
  exact ⟨none, 0, 0, rfl, Rd.nil _ _, Nat.le_refl _, P8.out.done hF12⟩
end Go.Proofs.Ytieinkndcbobfaa
