/- CdT, CdT1, CdT3, CdT2f -/
import Derived.Test.YthabmlbmlncbmaaGreatQa1
import Derived.Test.YthabmlbmlncbmaaGreatQa10
namespace Go.Proofs.YthabmlbmlncbmaaGreat
open Go.RowKit
set_option linter.unusedVariables false
set_option maxRecDepth 20000
def gv (L : List UInt8) (x k : Nat) : Int := if x + k <= L.length then getV ((L.drop x).take k) else 0
theorem RGetU (A : Option Addr) (n c : Nat) (L : List UInt8) (x k : Nat) (hk : 1 <= k /\ k <= 8) (w : World) (hr : Rd w A n L) (hn : n <= 1000000) (hx : x <= 20000) :
    Calls Tryz.prog 50 #[.slice A n c, .int .i64 x, .int .i64 k] w fun e w' => e = .returned (.tuple #[.int .i64 (gv L x k), .bool (decide (x + k <= n))]) /\ w = w' := by
  have hl := hr.1
  have hw : wd (k : Int) = k := by have := wd_cast (k : Int); omega
  by_cases h : x + k <= n
  · have c := RGet_yes A n c L x k w hr (by omega) (by rw [hw]; exact h)
    rw [hw] at c
    have e : gv L x k = getV ((L.drop x).take k) := by unfold gv; rw [if_pos (by omega)]
    rw [e, decide_eq_true h]
    exact c
  · have c := RGet_no A n c x k w (by omega) (by rw [hw]; omega)
    have e : gv L x k = 0 := by unfold gv; rw [if_neg (by omega)]
    rw [e, decide_eq_false h]
    exact c
structure GS (w0 W : World) (A : Option Addr) (m : Nat) (L : List UInt8) (cs : Array Value) : Prop where
  r4 : Rec 61 W w0.heap.size (Cd.zero.cs none 0 0)
  r7 : Rec 61 W (w0.heap.size + 1) (Cd.zero.cs none 0 0)
  r10 : Rec 61 W (w0.heap.size + 2) cs
  rd : Rd W A m L
  lo : ∀ b o, A = some ⟨b, o, none⟩ -> 0 < m -> b < w0.heap.size
  bel : Below w0.heap.size w0 W
theorem GS.set {w0 W : World} {A : Option Addr} {m : Nat} {L : List UInt8} {cs : Array Value} (h : GS w0 W A m L cs) (i : Nat) (v : Value) : GS w0 (W.setCell ⟨w0.heap.size + 2, i, none⟩ v) A m L (cs.setIfInBounds i v) :=
  have hf : Fr (· = w0.heap.size + 2) W (W.setCell ⟨w0.heap.size + 2, i, none⟩ v) := Fr.setCell W (own := (· = w0.heap.size + 2)) (p := ⟨w0.heap.size + 2, i, none⟩) rfl v
  ⟨h.r4.fr hf (by omega), h.r7.fr hf (by omega), h.r10.set i v, h.rd.fr hf (fun b o e hp e' => by have := h.lo b o e hp; have : b = w0.heap.size + 2 := e'; omega), h.lo, h.bel.trans (hf.toBelow (fun y hy => by have : y = w0.heap.size + 2 := hy; omega) h.bel.size)⟩
theorem GS.fin {w0 W W' : World} {A : Option Addr} {m : Nat} {L : List UInt8} {cs : Array Value} (h : GS w0 W A m L cs) (hf : Fr (· = w0.heap.size) W W') : Below w0.heap.size w0 W' :=
  h.bel.trans (hf.toBelow (fun y hy => by have : y = w0.heap.size := hy; omega) h.bel.size)
theorem GetE.fault {L : Nat -> Prop} {w w' : World} (er : Int) (hb : Below w.heap.size w w') : GetL L w (Cd.zero, 0, er) (.returned (.tuple #[.agg (Cd.zero.cs none 0 0), .int .i64 0, .int .i64 er])) w' := ⟨none, 0, 0, rfl, Rd.nil _ _, Nat.le_refl _, hb, fun _ _ e => by cases e⟩
section
variable (n c : Nat) (l : List UInt8) (w : World)
theorem RG_bad (A : Option Addr) (a : Int) (hn : n <= 9223372036854775807) (ha : a < 0 \/ (n : Int) < a) :
    Calls Tryz.prog 53 #[.slice A n c, .int .i64 a] w (GetL (fun y => ∃ o', A = some ⟨y, o', none⟩) w (Cd.zero, 0, 2)) := by
  obtain ⟨w1, hw1⟩ : ∃ w1, w1 = w.alloc (.cells (Cd.zero.cs none 0 0) 61) := ⟨_, rfl⟩
  have R1 := hi_ (show Rec 61 w1 w.heap.size (Cd.zero.cs none 0 0) by rw [hw1]; exact Rec.new w _ _)
  have B1 := hi_ (show Below w.heap.size w w1 by rw [hw1]; exact (Below.refl _ _).alloc (Nat.le_refl _) _)
  rcases ha with ha | ha
  all_goals
    go_enter Tryz.func53, Tryz.ntmps53
    go_wp2_with (first
      | (rw [<- hw1]; clear hw1)
      | ((with_reducible refine wpList_stS (cs' := (Cd.zero.cs none 0 0)) cdT rfl rfl (by simp [Value.oneCell']) rfl (.tmp 4) (.tmp 22) rfl rfl rfl R1.out ?_); intro wz hRz hFz))
    refine bodyPost_ret (res_ctt rfl rfl (hRz.load cdT rfl)) rfl ?_
    exact GetE.fault 2 (B1.out.trans (hFz.toBelow (fun y hy => by have : y = w.heap.size := hy; omega) B1.out.size))
theorem RG_none (A : Option Addr) (k : Nat) (hk : k = n) (hn : n <= 1000000) (hnc : n <= c) :
    Calls Tryz.prog 53 #[.slice A n c, .int .i64 k] w (GetL (fun y => ∃ o', A = some ⟨y, o', none⟩) w (Cd.zero, 0, 12)) := by
  obtain ⟨w1, hw1⟩ : ∃ w1, w1 = w.alloc (.cells (Cd.zero.cs none 0 0) 61) := ⟨_, rfl⟩
  obtain ⟨w2, hw2⟩ : ∃ w2, w2 = w1.alloc (.cells (Cd.zero.cs none 0 0) 61) := ⟨_, rfl⟩
  have s1 : w1.heap.size = w.heap.size + 1 := by rw [hw1]; simp
  have hb1 : Below w.heap.size w w1 := by rw [hw1]; exact (Below.refl _ _).alloc (Nat.le_refl _) _
  have hb12 : Below w1.heap.size w1 w2 := by rw [hw2]; exact (Below.refl _ _).alloc (Nat.le_refl _) _
  have hb2 : Below w.heap.size w w2 := hb1.trans (hb12.mono hb1.size)
  have r4 : Rec 61 w2 w.heap.size (Cd.zero.cs none 0 0) := (show Rec 61 w1 w.heap.size (Cd.zero.cs none 0 0) by rw [hw1]; exact Rec.new w _ _).under hb12
  have r7 : Rec 61 w2 (w.heap.size + 1) (Cd.zero.cs none 0 0) := by rw [<- s1, hw2]; exact Rec.new w1 _ _
  have HS1 := hi_ s1
  have R4 := hi_ (And.intro r4 (And.intro r7 hb2))
  clear s1 hb1 hb12 hb2 r4 r7
  subst hk
  by_cases hkc : k = c
  · subst hkc
    go_enter Tryz.func53, Tryz.ntmps53
    go_wp2_with (first
      | (rw [<- hw1]; clear hw1)
      | (rw [<- hw2, HS1.out]; clear hw2)
      | ((with_reducible refine wpList_ldS cdT rfl rfl (.tmp 7) rfl rfl R4.out.2.1 ?_))
      | ((with_reducible refine wpList_stS (cs' := (Cd.zero.cs none 0 0)) cdT rfl rfl (by simp [Value.oneCell']) rfl (.tmp 4) (.tmp 29) rfl rfl rfl R4.out.1 ?_); intro wz hRz hFz))
    refine bodyPost_ret (res_ctt rfl rfl (hRz.load cdT rfl)) rfl ?_
    exact GetE.fault 12 (R4.out.2.2.trans (hFz.toBelow (fun y hy => by have : y = w.heap.size := hy; omega) R4.out.2.2.size))
  · go_enter Tryz.func53, Tryz.ntmps53
    go_wp2_with (first
      | (rw [<- hw1]; clear hw1)
      | (rw [<- hw2, HS1.out]; clear hw2)
      | ((with_reducible refine wpList_ldS cdT rfl rfl (.tmp 7) rfl rfl R4.out.2.1 ?_))
      | ((with_reducible refine wpList_stS (cs' := (Cd.zero.cs none 0 0)) cdT rfl rfl (by simp [Value.oneCell']) rfl (.tmp 4) (.tmp 29) rfl rfl rfl R4.out.1 ?_); intro wz hRz hFz))
    refine bodyPost_ret (res_ctt rfl rfl (hRz.load cdT rfl)) rfl ?_
    exact GetE.fault 12 (R4.out.2.2.trans (hFz.toBelow (fun y hy => by have : y = w.heap.size := hy; omega) R4.out.2.2.size))
variable (b o k : Nat)
set_option maxHeartbeats 4000000 in
theorem RG_do (hr : Rd w (some ⟨b, o, none⟩) n l) (hlt : b < w.heap.size) (hn : n <= 20000) (hnc : n <= c) (d : Nat) (hk : k < n) (h0 : w.cell? ⟨b, o + k, none⟩ = some (.int .u8 (d : Int))) (hd : 3 < d) (hd2 : d < 256) :
    Calls Tryz.prog 53 #[.slice (some ⟨b, o, none⟩) n c, .int .i64 k] w (GetL (fun y => ∃ o', (some ⟨b, o, none⟩ : Option Addr) = some ⟨y, o', none⟩) w (Cd.zero, 0, 11)) := by
  obtain ⟨w1, hw1⟩ : ∃ w1, w1 = w.alloc (.cells (Cd.zero.cs none 0 0) 61) := ⟨_, rfl⟩
  obtain ⟨w2, hw2⟩ : ∃ w2, w2 = w1.alloc (.cells (Cd.zero.cs none 0 0) 61) := ⟨_, rfl⟩
  have s1 : w1.heap.size = w.heap.size + 1 := by rw [hw1]; simp
  have hb1 : Below w.heap.size w w1 := by rw [hw1]; exact (Below.refl _ _).alloc (Nat.le_refl _) _
  have hb12 : Below w1.heap.size w1 w2 := by rw [hw2]; exact (Below.refl _ _).alloc (Nat.le_refl _) _
  have hb2 : Below w.heap.size w w2 := hb1.trans (hb12.mono hb1.size)
  have r4 : Rec 61 w2 w.heap.size (Cd.zero.cs none 0 0) := (show Rec 61 w1 w.heap.size (Cd.zero.cs none 0 0) by rw [hw1]; exact Rec.new w _ _).under hb12
  have r7 : Rec 61 w2 (w.heap.size + 1) (Cd.zero.cs none 0 0) := by rw [<- s1, hw2]; exact Rec.new w1 _ _
  have hck : ¬ k = c := by omega
  have q0 : w2.cell? ⟨b, o + k, none⟩ = some (.int .u8 (d : Int)) := (hb2.cell (p := ⟨b, o + k, none⟩) hlt).trans h0
  have rd2 : Rd w2 (some ⟨b, o + k, none⟩) (n - k) (l.drop k) := by
    have h := (hr.below (Nat.le_refl _) hb2).part (lo := k) (m := n - k) (by omega) (some ⟨b, o + k, none⟩) (fun _ b' o' e => by injection e with e; injection e with e1 e2; rw [e1, e2])
    rw [List.take_of_length_le (by have := hr.1; simp; omega)] at h
    exact h
  have H1 := hi_ (And.intro r4 (And.intro r7 hb2))
  have HS1 := hi_ s1
  clear hr s1 hb1 hb12 hb2 r4 r7 rd2 h0
  go_enter Tryz.func53, Tryz.ntmps53
  go_wp2_with (first
    | (rw [<- hw1]; clear hw1)
    | (rw [<- hw2, HS1.out]; clear hw2)
    | ((with_reducible refine wpList_ldS cdT rfl rfl (.tmp 7) rfl rfl H1.out.2.1 ?_))
    | ((with_reducible refine wpList_stS (cs' := (Cd.zero.cs none 0 0)) cdT rfl rfl (by simp [Value.oneCell']) rfl (.tmp 4) (.tmp 34) rfl rfl rfl H1.out.1 ?_); intro wz hRz hFz))
  refine bodyPost_ret (res_ctt rfl rfl (hRz.load cdT rfl)) rfl ?_
  exact GetE.fault 11 (H1.out.2.2.trans (hFz.toBelow (fun y hy => by have : y = w.heap.size := hy; omega) H1.out.2.2.size))
set_option maxHeartbeats 4000000 in
theorem RG_zero (hr : Rd w (some ⟨b, o, none⟩) n l) (hlt : b < w.heap.size) (hn : n <= 20000) (hnc : n <= c) (hk : k < n) (h0 : w.cell? ⟨b, o + k, none⟩ = some (.int .u8 0)) :
    Calls Tryz.prog 53 #[.slice (some ⟨b, o, none⟩) n c, .int .i64 k] w (GetL (fun y => ∃ o', (some ⟨b, o, none⟩ : Option Addr) = some ⟨y, o', none⟩) w (⟨0, false, 0, 0, 0, []⟩, (k : Int) + 1, 0)) := by
  obtain ⟨w1, hw1⟩ : ∃ w1, w1 = w.alloc (.cells (Cd.zero.cs none 0 0) 61) := ⟨_, rfl⟩
  obtain ⟨w2, hw2⟩ : ∃ w2, w2 = w1.alloc (.cells (Cd.zero.cs none 0 0) 61) := ⟨_, rfl⟩
  have s1 : w1.heap.size = w.heap.size + 1 := by rw [hw1]; simp
  have hb1 : Below w.heap.size w w1 := by rw [hw1]; exact (Below.refl _ _).alloc (Nat.le_refl _) _
  have hb12 : Below w1.heap.size w1 w2 := by rw [hw2]; exact (Below.refl _ _).alloc (Nat.le_refl _) _
  have hb2 : Below w.heap.size w w2 := hb1.trans (hb12.mono hb1.size)
  have r4 : Rec 61 w2 w.heap.size (Cd.zero.cs none 0 0) := (show Rec 61 w1 w.heap.size (Cd.zero.cs none 0 0) by rw [hw1]; exact Rec.new w _ _).under hb12
  have r7 : Rec 61 w2 (w.heap.size + 1) (Cd.zero.cs none 0 0) := by rw [<- s1, hw2]; exact Rec.new w1 _ _
  have hck : ¬ k = c := by omega
  have q0 : w2.cell? ⟨b, o + k, none⟩ = some (.int .u8 0) := (hb2.cell (p := ⟨b, o + k, none⟩) hlt).trans h0
  have rd2 : Rd w2 (some ⟨b, o + k, none⟩) (n - k) (l.drop k) := by
    have h := (hr.below (Nat.le_refl _) hb2).part (lo := k) (m := n - k) (by omega) (some ⟨b, o + k, none⟩) (fun _ b' o' e => by injection e with e; injection e with e1 e2; rw [e1, e2])
    rw [List.take_of_length_le (by have := hr.1; simp; omega)] at h
    exact h
  have H1 := hi_ (And.intro r4 (And.intro r7 hb2))
  have HS1 := hi_ s1
  clear hr s1 hb1 hb12 hb2 r4 r7 rd2 h0
  go_enter Tryz.func53, Tryz.ntmps53
  go_wp2_with (first
    | (rw [<- hw1]; clear hw1)
    | (rw [<- hw2, HS1.out]; clear hw2)
    | ((with_reducible refine wpList_stS (cs' := (Cd.zero.cs none 0 0)) cdT rfl rfl (by simp [Value.oneCell']) rfl (.tmp 4) (.tmp 41) rfl rfl rfl H1.out.1 ?_); intro wz hRz hFz))
  refine bodyPost_ret (res_ctt rfl rfl (hRz.load cdT rfl)) rfl ?_
  exact ⟨none, 0, 0, rfl, Rd.nil _ _, Nat.le_refl _, H1.out.2.2.trans (hFz.toBelow (fun y hy => by have : y = w.heap.size := hy; omega) H1.out.2.2.size), fun _ _ e => by cases e⟩
set_option maxHeartbeats 4000000 in
theorem RG_one1 (hr : Rd w (some ⟨b, o, none⟩) n l) (hlt : b < w.heap.size) (hn : n <= 20000) (hnc : n <= c) (hk : n = k + 1) (h0 : w.cell? ⟨b, o + k, none⟩ = some (.int .u8 1)) :
    Calls Tryz.prog 53 #[.slice (some ⟨b, o, none⟩) n c, .int .i64 k] w (GetL (fun y => ∃ o', (some ⟨b, o, none⟩ : Option Addr) = some ⟨y, o', none⟩) w (Cd.zero, 0, 12)) := by
  obtain ⟨w1, hw1⟩ : ∃ w1, w1 = w.alloc (.cells (Cd.zero.cs none 0 0) 61) := ⟨_, rfl⟩
  obtain ⟨w2, hw2⟩ : ∃ w2, w2 = w1.alloc (.cells (Cd.zero.cs none 0 0) 61) := ⟨_, rfl⟩
  have s1 : w1.heap.size = w.heap.size + 1 := by rw [hw1]; simp
  have hb1 : Below w.heap.size w w1 := by rw [hw1]; exact (Below.refl _ _).alloc (Nat.le_refl _) _
  have hb12 : Below w1.heap.size w1 w2 := by rw [hw2]; exact (Below.refl _ _).alloc (Nat.le_refl _) _
  have hb2 : Below w.heap.size w w2 := hb1.trans (hb12.mono hb1.size)
  have r4 : Rec 61 w2 w.heap.size (Cd.zero.cs none 0 0) := (show Rec 61 w1 w.heap.size (Cd.zero.cs none 0 0) by rw [hw1]; exact Rec.new w _ _).under hb12
  have r7 : Rec 61 w2 (w.heap.size + 1) (Cd.zero.cs none 0 0) := by rw [<- s1, hw2]; exact Rec.new w1 _ _
  have hck : ¬ k = c := by omega
  have q0 : w2.cell? ⟨b, o + k, none⟩ = some (.int .u8 1) := (hb2.cell (p := ⟨b, o + k, none⟩) hlt).trans h0
  have rd2 : Rd w2 (some ⟨b, o + k, none⟩) (n - k) (l.drop k) := by
    have h := (hr.below (Nat.le_refl _) hb2).part (lo := k) (m := n - k) (by omega) (some ⟨b, o + k, none⟩) (fun _ b' o' e => by injection e with e; injection e with e1 e2; rw [e1, e2])
    rw [List.take_of_length_le (by have := hr.1; simp; omega)] at h
    exact h
  have H1 := hi_ (And.intro r4 (And.intro r7 hb2))
  have HS1 := hi_ s1
  clear hr s1 hb1 hb12 hb2 r4 r7 rd2 h0
  go_enter Tryz.func53, Tryz.ntmps53
  go_wp2_with (first
    | (rw [<- hw1]; clear hw1)
    | (rw [<- hw2, HS1.out]; clear hw2)
    | ((with_reducible refine wpList_ldS cdT rfl rfl (.tmp 7) rfl rfl H1.out.2.1 ?_))
    | ((with_reducible refine wpList_stS (cs' := (Cd.zero.cs none 0 0)) cdT rfl rfl (by simp [Value.oneCell']) rfl (.tmp 4) (.tmp 47) rfl rfl rfl H1.out.1 ?_); intro wz hRz hFz))
  refine bodyPost_ret (res_ctt rfl rfl (hRz.load cdT rfl)) rfl ?_
  exact GetE.fault 12 (H1.out.2.2.trans (hFz.toBelow (fun y hy => by have : y = w.heap.size := hy; omega) H1.out.2.2.size))
set_option maxHeartbeats 4000000 in
theorem RG_loc1 (hr : Rd w (some ⟨b, o, none⟩) n l) (hlt : b < w.heap.size) (hn : n <= 20000) (hnc : n <= c) (e : Nat) (hk : k + 2 <= n) (h0 : w.cell? ⟨b, o + k, none⟩ = some (.int .u8 1)) (h1 : w.cell? ⟨b, o + k + 1, none⟩ = some (.int .u8 (e : Int))) (he : 1 < e) (he2 : e < 256) :
    Calls Tryz.prog 53 #[.slice (some ⟨b, o, none⟩) n c, .int .i64 k] w (GetL (fun y => ∃ o', (some ⟨b, o, none⟩ : Option Addr) = some ⟨y, o', none⟩) w (Cd.zero, 0, 11)) := by
  obtain ⟨w1, hw1⟩ : ∃ w1, w1 = w.alloc (.cells (Cd.zero.cs none 0 0) 61) := ⟨_, rfl⟩
  obtain ⟨w2, hw2⟩ : ∃ w2, w2 = w1.alloc (.cells (Cd.zero.cs none 0 0) 61) := ⟨_, rfl⟩
  have s1 : w1.heap.size = w.heap.size + 1 := by rw [hw1]; simp
  have hb1 : Below w.heap.size w w1 := by rw [hw1]; exact (Below.refl _ _).alloc (Nat.le_refl _) _
  have hb12 : Below w1.heap.size w1 w2 := by rw [hw2]; exact (Below.refl _ _).alloc (Nat.le_refl _) _
  have hb2 : Below w.heap.size w w2 := hb1.trans (hb12.mono hb1.size)
  have r4 : Rec 61 w2 w.heap.size (Cd.zero.cs none 0 0) := (show Rec 61 w1 w.heap.size (Cd.zero.cs none 0 0) by rw [hw1]; exact Rec.new w _ _).under hb12
  have r7 : Rec 61 w2 (w.heap.size + 1) (Cd.zero.cs none 0 0) := by rw [<- s1, hw2]; exact Rec.new w1 _ _
  have hck : ¬ k = c := by omega
  have q0 : w2.cell? ⟨b, o + k, none⟩ = some (.int .u8 1) := (hb2.cell (p := ⟨b, o + k, none⟩) hlt).trans h0
  have q1 : w2.cell? ⟨b, o + k + 1, none⟩ = some (.int .u8 (e : Int)) := (hb2.cell (p := ⟨b, o + k + 1, none⟩) hlt).trans h1
  have rd2 : Rd w2 (some ⟨b, o + k, none⟩) (n - k) (l.drop k) := by
    have h := (hr.below (Nat.le_refl _) hb2).part (lo := k) (m := n - k) (by omega) (some ⟨b, o + k, none⟩) (fun _ b' o' e => by injection e with e; injection e with e1 e2; rw [e1, e2])
    rw [List.take_of_length_le (by have := hr.1; simp; omega)] at h
    exact h
  have H1 := hi_ (And.intro r4 (And.intro r7 hb2))
  have HS1 := hi_ s1
  clear hr s1 hb1 hb12 hb2 r4 r7 rd2 h0 h1
  go_enter Tryz.func53, Tryz.ntmps53
  go_wp2_with (first
    | (rw [<- hw1]; clear hw1)
    | (rw [<- hw2, HS1.out]; clear hw2)
    | ((with_reducible refine wpList_ldS cdT rfl rfl (.tmp 7) rfl rfl H1.out.2.1 ?_))
    | ((with_reducible refine wpList_stS (cs' := (Cd.zero.cs none 0 0)) cdT rfl rfl (by simp [Value.oneCell']) rfl (.tmp 4) (.tmp 52) rfl rfl rfl H1.out.1 ?_); intro wz hRz hFz))
  refine bodyPost_ret (res_ctt rfl rfl (hRz.load cdT rfl)) rfl ?_
  exact GetE.fault 11 (H1.out.2.2.trans (hFz.toBelow (fun y hy => by have : y = w.heap.size := hy; omega) H1.out.2.2.size))
set_option maxHeartbeats 4000000 in
theorem RG_one2 (hr : Rd w (some ⟨b, o, none⟩) n l) (hlt : b < w.heap.size) (hn : n <= 20000) (hnc : n <= c) (hk : n = k + 1) (h0 : w.cell? ⟨b, o + k, none⟩ = some (.int .u8 2)) :
    Calls Tryz.prog 53 #[.slice (some ⟨b, o, none⟩) n c, .int .i64 k] w (GetL (fun y => ∃ o', (some ⟨b, o, none⟩ : Option Addr) = some ⟨y, o', none⟩) w (Cd.zero, 0, 12)) := by
  obtain ⟨w1, hw1⟩ : ∃ w1, w1 = w.alloc (.cells (Cd.zero.cs none 0 0) 61) := ⟨_, rfl⟩
  obtain ⟨w2, hw2⟩ : ∃ w2, w2 = w1.alloc (.cells (Cd.zero.cs none 0 0) 61) := ⟨_, rfl⟩
  have s1 : w1.heap.size = w.heap.size + 1 := by rw [hw1]; simp
  have hb1 : Below w.heap.size w w1 := by rw [hw1]; exact (Below.refl _ _).alloc (Nat.le_refl _) _
  have hb12 : Below w1.heap.size w1 w2 := by rw [hw2]; exact (Below.refl _ _).alloc (Nat.le_refl _) _
  have hb2 : Below w.heap.size w w2 := hb1.trans (hb12.mono hb1.size)
  have r4 : Rec 61 w2 w.heap.size (Cd.zero.cs none 0 0) := (show Rec 61 w1 w.heap.size (Cd.zero.cs none 0 0) by rw [hw1]; exact Rec.new w _ _).under hb12
  have r7 : Rec 61 w2 (w.heap.size + 1) (Cd.zero.cs none 0 0) := by rw [<- s1, hw2]; exact Rec.new w1 _ _
  have hck : ¬ k = c := by omega
  have q0 : w2.cell? ⟨b, o + k, none⟩ = some (.int .u8 2) := (hb2.cell (p := ⟨b, o + k, none⟩) hlt).trans h0
  have rd2 : Rd w2 (some ⟨b, o + k, none⟩) (n - k) (l.drop k) := by
    have h := (hr.below (Nat.le_refl _) hb2).part (lo := k) (m := n - k) (by omega) (some ⟨b, o + k, none⟩) (fun _ b' o' e => by injection e with e; injection e with e1 e2; rw [e1, e2])
    rw [List.take_of_length_le (by have := hr.1; simp; omega)] at h
    exact h
  have H1 := hi_ (And.intro r4 (And.intro r7 hb2))
  have HS1 := hi_ s1
  clear hr s1 hb1 hb12 hb2 r4 r7 rd2 h0
  go_enter Tryz.func53, Tryz.ntmps53
  go_wp2_with (first
    | (rw [<- hw1]; clear hw1)
    | (rw [<- hw2, HS1.out]; clear hw2)
    | ((with_reducible refine wpList_ldS cdT rfl rfl (.tmp 7) rfl rfl H1.out.2.1 ?_))
    | ((with_reducible refine wpList_stS (cs' := (Cd.zero.cs none 0 0)) cdT rfl rfl (by simp [Value.oneCell']) rfl (.tmp 4) (.tmp 47) rfl rfl rfl H1.out.1 ?_); intro wz hRz hFz))
  refine bodyPost_ret (res_ctt rfl rfl (hRz.load cdT rfl)) rfl ?_
  exact GetE.fault 12 (H1.out.2.2.trans (hFz.toBelow (fun y hy => by have : y = w.heap.size := hy; omega) H1.out.2.2.size))
set_option maxHeartbeats 4000000 in
theorem RG_loc2 (hr : Rd w (some ⟨b, o, none⟩) n l) (hlt : b < w.heap.size) (hn : n <= 20000) (hnc : n <= c) (e : Nat) (hk : k + 2 <= n) (h0 : w.cell? ⟨b, o + k, none⟩ = some (.int .u8 2)) (h1 : w.cell? ⟨b, o + k + 1, none⟩ = some (.int .u8 (e : Int))) (he : 1 < e) (he2 : e < 256) :
    Calls Tryz.prog 53 #[.slice (some ⟨b, o, none⟩) n c, .int .i64 k] w (GetL (fun y => ∃ o', (some ⟨b, o, none⟩ : Option Addr) = some ⟨y, o', none⟩) w (Cd.zero, 0, 11)) := by
  obtain ⟨w1, hw1⟩ : ∃ w1, w1 = w.alloc (.cells (Cd.zero.cs none 0 0) 61) := ⟨_, rfl⟩
  obtain ⟨w2, hw2⟩ : ∃ w2, w2 = w1.alloc (.cells (Cd.zero.cs none 0 0) 61) := ⟨_, rfl⟩
  have s1 : w1.heap.size = w.heap.size + 1 := by rw [hw1]; simp
  have hb1 : Below w.heap.size w w1 := by rw [hw1]; exact (Below.refl _ _).alloc (Nat.le_refl _) _
  have hb12 : Below w1.heap.size w1 w2 := by rw [hw2]; exact (Below.refl _ _).alloc (Nat.le_refl _) _
  have hb2 : Below w.heap.size w w2 := hb1.trans (hb12.mono hb1.size)
  have r4 : Rec 61 w2 w.heap.size (Cd.zero.cs none 0 0) := (show Rec 61 w1 w.heap.size (Cd.zero.cs none 0 0) by rw [hw1]; exact Rec.new w _ _).under hb12
  have r7 : Rec 61 w2 (w.heap.size + 1) (Cd.zero.cs none 0 0) := by rw [<- s1, hw2]; exact Rec.new w1 _ _
  have hck : ¬ k = c := by omega
  have q0 : w2.cell? ⟨b, o + k, none⟩ = some (.int .u8 2) := (hb2.cell (p := ⟨b, o + k, none⟩) hlt).trans h0
  have q1 : w2.cell? ⟨b, o + k + 1, none⟩ = some (.int .u8 (e : Int)) := (hb2.cell (p := ⟨b, o + k + 1, none⟩) hlt).trans h1
  have rd2 : Rd w2 (some ⟨b, o + k, none⟩) (n - k) (l.drop k) := by
    have h := (hr.below (Nat.le_refl _) hb2).part (lo := k) (m := n - k) (by omega) (some ⟨b, o + k, none⟩) (fun _ b' o' e => by injection e with e; injection e with e1 e2; rw [e1, e2])
    rw [List.take_of_length_le (by have := hr.1; simp; omega)] at h
    exact h
  have H1 := hi_ (And.intro r4 (And.intro r7 hb2))
  have HS1 := hi_ s1
  clear hr s1 hb1 hb12 hb2 r4 r7 rd2 h0 h1
  go_enter Tryz.func53, Tryz.ntmps53
  go_wp2_with (first
    | (rw [<- hw1]; clear hw1)
    | (rw [<- hw2, HS1.out]; clear hw2)
    | ((with_reducible refine wpList_ldS cdT rfl rfl (.tmp 7) rfl rfl H1.out.2.1 ?_))
    | ((with_reducible refine wpList_stS (cs' := (Cd.zero.cs none 0 0)) cdT rfl rfl (by simp [Value.oneCell']) rfl (.tmp 4) (.tmp 52) rfl rfl rfl H1.out.1 ?_); intro wz hRz hFz))
  refine bodyPost_ret (res_ctt rfl rfl (hRz.load cdT rfl)) rfl ?_
  exact GetE.fault 11 (H1.out.2.2.trans (hFz.toBelow (fun y hy => by have : y = w.heap.size := hy; omega) H1.out.2.2.size))
set_option maxHeartbeats 4000000 in
theorem RG_one3 (hr : Rd w (some ⟨b, o, none⟩) n l) (hlt : b < w.heap.size) (hn : n <= 20000) (hnc : n <= c) (hk : n = k + 1) (h0 : w.cell? ⟨b, o + k, none⟩ = some (.int .u8 3)) :
    Calls Tryz.prog 53 #[.slice (some ⟨b, o, none⟩) n c, .int .i64 k] w (GetL (fun y => ∃ o', (some ⟨b, o, none⟩ : Option Addr) = some ⟨y, o', none⟩) w (Cd.zero, 0, 12)) := by
  obtain ⟨w1, hw1⟩ : ∃ w1, w1 = w.alloc (.cells (Cd.zero.cs none 0 0) 61) := ⟨_, rfl⟩
  obtain ⟨w2, hw2⟩ : ∃ w2, w2 = w1.alloc (.cells (Cd.zero.cs none 0 0) 61) := ⟨_, rfl⟩
  have s1 : w1.heap.size = w.heap.size + 1 := by rw [hw1]; simp
  have hb1 : Below w.heap.size w w1 := by rw [hw1]; exact (Below.refl _ _).alloc (Nat.le_refl _) _
  have hb12 : Below w1.heap.size w1 w2 := by rw [hw2]; exact (Below.refl _ _).alloc (Nat.le_refl _) _
  have hb2 : Below w.heap.size w w2 := hb1.trans (hb12.mono hb1.size)
  have r4 : Rec 61 w2 w.heap.size (Cd.zero.cs none 0 0) := (show Rec 61 w1 w.heap.size (Cd.zero.cs none 0 0) by rw [hw1]; exact Rec.new w _ _).under hb12
  have r7 : Rec 61 w2 (w.heap.size + 1) (Cd.zero.cs none 0 0) := by rw [<- s1, hw2]; exact Rec.new w1 _ _
  have hck : ¬ k = c := by omega
  have q0 : w2.cell? ⟨b, o + k, none⟩ = some (.int .u8 3) := (hb2.cell (p := ⟨b, o + k, none⟩) hlt).trans h0
  have rd2 : Rd w2 (some ⟨b, o + k, none⟩) (n - k) (l.drop k) := by
    have h := (hr.below (Nat.le_refl _) hb2).part (lo := k) (m := n - k) (by omega) (some ⟨b, o + k, none⟩) (fun _ b' o' e => by injection e with e; injection e with e1 e2; rw [e1, e2])
    rw [List.take_of_length_le (by have := hr.1; simp; omega)] at h
    exact h
  have H1 := hi_ (And.intro r4 (And.intro r7 hb2))
  have HS1 := hi_ s1
  clear hr s1 hb1 hb12 hb2 r4 r7 rd2 h0
  go_enter Tryz.func53, Tryz.ntmps53
  go_wp2_with (first
    | (rw [<- hw1]; clear hw1)
    | (rw [<- hw2, HS1.out]; clear hw2)
    | ((with_reducible refine wpList_ldS cdT rfl rfl (.tmp 7) rfl rfl H1.out.2.1 ?_))
    | ((with_reducible refine wpList_stS (cs' := (Cd.zero.cs none 0 0)) cdT rfl rfl (by simp [Value.oneCell']) rfl (.tmp 4) (.tmp 47) rfl rfl rfl H1.out.1 ?_); intro wz hRz hFz))
  refine bodyPost_ret (res_ctt rfl rfl (hRz.load cdT rfl)) rfl ?_
  exact GetE.fault 12 (H1.out.2.2.trans (hFz.toBelow (fun y hy => by have : y = w.heap.size := hy; omega) H1.out.2.2.size))
set_option maxHeartbeats 4000000 in
theorem RG_loc3 (hr : Rd w (some ⟨b, o, none⟩) n l) (hlt : b < w.heap.size) (hn : n <= 20000) (hnc : n <= c) (e : Nat) (hk : k + 2 <= n) (h0 : w.cell? ⟨b, o + k, none⟩ = some (.int .u8 3)) (h1 : w.cell? ⟨b, o + k + 1, none⟩ = some (.int .u8 (e : Int))) (he : 1 < e) (he2 : e < 256) :
    Calls Tryz.prog 53 #[.slice (some ⟨b, o, none⟩) n c, .int .i64 k] w (GetL (fun y => ∃ o', (some ⟨b, o, none⟩ : Option Addr) = some ⟨y, o', none⟩) w (Cd.zero, 0, 11)) := by
  obtain ⟨w1, hw1⟩ : ∃ w1, w1 = w.alloc (.cells (Cd.zero.cs none 0 0) 61) := ⟨_, rfl⟩
  obtain ⟨w2, hw2⟩ : ∃ w2, w2 = w1.alloc (.cells (Cd.zero.cs none 0 0) 61) := ⟨_, rfl⟩
  have s1 : w1.heap.size = w.heap.size + 1 := by rw [hw1]; simp
  have hb1 : Below w.heap.size w w1 := by rw [hw1]; exact (Below.refl _ _).alloc (Nat.le_refl _) _
  have hb12 : Below w1.heap.size w1 w2 := by rw [hw2]; exact (Below.refl _ _).alloc (Nat.le_refl _) _
  have hb2 : Below w.heap.size w w2 := hb1.trans (hb12.mono hb1.size)
  have r4 : Rec 61 w2 w.heap.size (Cd.zero.cs none 0 0) := (show Rec 61 w1 w.heap.size (Cd.zero.cs none 0 0) by rw [hw1]; exact Rec.new w _ _).under hb12
  have r7 : Rec 61 w2 (w.heap.size + 1) (Cd.zero.cs none 0 0) := by rw [<- s1, hw2]; exact Rec.new w1 _ _
  have hck : ¬ k = c := by omega
  have q0 : w2.cell? ⟨b, o + k, none⟩ = some (.int .u8 3) := (hb2.cell (p := ⟨b, o + k, none⟩) hlt).trans h0
  have q1 : w2.cell? ⟨b, o + k + 1, none⟩ = some (.int .u8 (e : Int)) := (hb2.cell (p := ⟨b, o + k + 1, none⟩) hlt).trans h1
  have rd2 : Rd w2 (some ⟨b, o + k, none⟩) (n - k) (l.drop k) := by
    have h := (hr.below (Nat.le_refl _) hb2).part (lo := k) (m := n - k) (by omega) (some ⟨b, o + k, none⟩) (fun _ b' o' e => by injection e with e; injection e with e1 e2; rw [e1, e2])
    rw [List.take_of_length_le (by have := hr.1; simp; omega)] at h
    exact h
  have H1 := hi_ (And.intro r4 (And.intro r7 hb2))
  have HS1 := hi_ s1
  clear hr s1 hb1 hb12 hb2 r4 r7 rd2 h0 h1
  go_enter Tryz.func53, Tryz.ntmps53
  go_wp2_with (first
    | (rw [<- hw1]; clear hw1)
    | (rw [<- hw2, HS1.out]; clear hw2)
    | ((with_reducible refine wpList_ldS cdT rfl rfl (.tmp 7) rfl rfl H1.out.2.1 ?_))
    | ((with_reducible refine wpList_stS (cs' := (Cd.zero.cs none 0 0)) cdT rfl rfl (by simp [Value.oneCell']) rfl (.tmp 4) (.tmp 52) rfl rfl rfl H1.out.1 ?_); intro wz hRz hFz))
  refine bodyPost_ret (res_ctt rfl rfl (hRz.load cdT rfl)) rfl ?_
  exact GetE.fault 11 (H1.out.2.2.trans (hFz.toBelow (fun y hy => by have : y = w.heap.size := hy; omega) H1.out.2.2.size))
end
end Go.Proofs.YthabmlbmlncbmaaGreat
namespace Go.Proofs.YthabmlbmlncbmaaGreat
open Go.RowKit
set_option linter.unusedVariables false
set_option maxRecDepth 20000
section
variable (n c : Nat) (l : List UInt8) (w : World)
variable (b o k : Nat)
set_option maxHeartbeats 4000000 in
theorem RG_1f_short (hr : Rd w (some ⟨b, o, none⟩) n l) (hlt : b < w.heap.size) (hn : n <= 20000) (hnc : n <= c) (hk : k + 2 <= n) (h0 : w.cell? ⟨b, o + k, none⟩ = some (.int .u8 1)) (h1 : w.cell? ⟨b, o + k + 1, none⟩ = some (.int .u8 0)) (hs : n < k + 18) :
    Calls Tryz.prog 53 #[.slice (some ⟨b, o, none⟩) n c, .int .i64 k] w (GetL (fun y => ∃ o', (some ⟨b, o, none⟩ : Option Addr) = some ⟨y, o', none⟩) w (Cd.zero, 0, 12)) := by
  obtain ⟨w1, hw1⟩ : ∃ w1, w1 = w.alloc (.cells (Cd.zero.cs none 0 0) 61) := ⟨_, rfl⟩
  obtain ⟨w2, hw2⟩ : ∃ w2, w2 = w1.alloc (.cells (Cd.zero.cs none 0 0) 61) := ⟨_, rfl⟩
  have s1 : w1.heap.size = w.heap.size + 1 := by rw [hw1]; simp
  have hb1 : Below w.heap.size w w1 := by rw [hw1]; exact (Below.refl _ _).alloc (Nat.le_refl _) _
  have hb12 : Below w1.heap.size w1 w2 := by rw [hw2]; exact (Below.refl _ _).alloc (Nat.le_refl _) _
  have hb2 : Below w.heap.size w w2 := hb1.trans (hb12.mono hb1.size)
  have r4 : Rec 61 w2 w.heap.size (Cd.zero.cs none 0 0) := (show Rec 61 w1 w.heap.size (Cd.zero.cs none 0 0) by rw [hw1]; exact Rec.new w _ _).under hb12
  have r7 : Rec 61 w2 (w.heap.size + 1) (Cd.zero.cs none 0 0) := by rw [<- s1, hw2]; exact Rec.new w1 _ _
  have hck : ¬ k = c := by omega
  have q0 : w2.cell? ⟨b, o + k, none⟩ = some (.int .u8 1) := (hb2.cell (p := ⟨b, o + k, none⟩) hlt).trans h0
  have q1 : w2.cell? ⟨b, o + k + 1, none⟩ = some (.int .u8 0) := (hb2.cell (p := ⟨b, o + k + 1, none⟩) hlt).trans h1
  have rd2 : Rd w2 (some ⟨b, o + k, none⟩) (n - k) (l.drop k) := by
    have h := (hr.below (Nat.le_refl _) hb2).part (lo := k) (m := n - k) (by omega) (some ⟨b, o + k, none⟩) (fun _ b' o' e => by injection e with e; injection e with e1 e2; rw [e1, e2])
    rw [List.take_of_length_le (by have := hr.1; simp; omega)] at h
    exact h
  obtain ⟨w3, hw3⟩ : ∃ w3, w3 = w2.alloc (.cells #[.int .i64 1, .bool false, .int .i64 0, .int .i64 0, .int .i64 0, .slice none 0 0] 61) := ⟨_, rfl⟩
  have s2 : w2.heap.size = w.heap.size + 2 := by rw [hw2]; simp [s1]
  have hb23 : Below w2.heap.size w2 w3 := by rw [hw3]; exact (Below.refl _ _).alloc (Nat.le_refl _) _
  have G3 : GS w w3 (some ⟨b, o + k, none⟩) (n - k) (l.drop k) #[.int .i64 1, .bool false, .int .i64 0, .int .i64 0, .int .i64 0, .slice none 0 0] := ⟨r4.under hb23, r7.under hb23, by rw [<- s2, hw3]; exact Rec.new w2 _ _, rd2.below (Nat.le_refl _) hb23, (fun b' o' e _ => by injection e with e; injection e with e1 e2; omega), hb2.trans (hb23.mono hb2.size)⟩
  have HS2 := hi_ s2
  clear s2 hb23
  obtain ⟨ix, hix⟩ : ∃ v, v = gv (l.drop k) 2 8 := ⟨_, rfl⟩
  obtain ⟨gn, hgn⟩ : ∃ v, v = gv (l.drop k) 10 8 := ⟨_, rfl⟩
  have CC3 := RGetU (some ⟨b, o + k, none⟩) (n - k) (c - k) (l.drop k) 2 8 (by decide) w3 G3.rd (by omega) (by decide)
  rw [<- hix] at CC3
  have C3 := hi_ CC3
  have z3 := G3.r10.fz 2
  have k3 := G3.r10.at_ 2
  obtain ⟨w4, hw4⟩ : ∃ v, v = w3.setCell ⟨w.heap.size + 2, 2, none⟩ (.int .i64 ix) := ⟨_, rfl⟩
  have G4 : GS w w4 (some ⟨b, o + k, none⟩) (n - k) (l.drop k) #[.int .i64 1, .bool false, .int .i64 ix, .int .i64 0, .int .i64 0, .slice none 0 0] := by have hh := G3.set 2 (.int .i64 ix); rw [hw4]; simpa using hh
  have CC4 := RGetU (some ⟨b, o + k, none⟩) (n - k) (c - k) (l.drop k) 10 8 (by decide) w4 G4.rd (by omega) (by decide)
  rw [<- hgn] at CC4
  have C4 := hi_ CC4
  have z4 := G4.r10.fz 3
  have k4 := G4.r10.at_ 3
  obtain ⟨w5, hw5⟩ : ∃ v, v = w4.setCell ⟨w.heap.size + 2, 3, none⟩ (.int .i64 gn) := ⟨_, rfl⟩
  have G5 : GS w w5 (some ⟨b, o + k, none⟩) (n - k) (l.drop k) #[.int .i64 1, .bool false, .int .i64 ix, .int .i64 gn, .int .i64 0, .slice none 0 0] := by have hh := G4.set 3 (.int .i64 gn); rw [hw5]; simpa using hh
  have kl := G4.r10.at_ 1
  have kL := G3.r10.at_ 1
  have Hix := hi_ hix
  have Hgn := hi_ hgn
  have HG3 := hi_ G3
  have HG4 := hi_ G4
  have HG5 := hi_ G5
  clear CC3 CC4 G3 G4 G5 hix hgn
  have HS1 := hi_ s1
  clear hr s1 hb1 hb12 hb2 r4 r7 rd2 h0 h1
  go_enter Tryz.func53, Tryz.ntmps53
  go_wp2_with (first
    | (rw [<- hw1]; clear hw1)
    | (rw [<- hw2, HS1.out]; clear hw2)
    | (rw [<- hw3, HS2.out]; clear hw3)
    | (go_at_call 50; have _t := C3; refine C3.out.mono ?_; rintro e w' ⟨rfl, hw'⟩; subst hw'; clear C3)
    | (rw [<- hw4]; clear hw4)
    | (go_at_call 50; have _t := C4; refine C4.out.mono ?_; rintro e w' ⟨rfl, hw'⟩; subst hw'; clear C4)
    | (rw [<- hw5]; clear hw5)
    | ((with_reducible refine wpList_ldS cdT rfl rfl (.tmp 7) rfl rfl HG5.out.r7 ?_))
    | ((with_reducible refine wpList_stS (cs' := (Cd.zero.cs none 0 0)) cdT rfl rfl (by simp [Value.oneCell']) rfl (.tmp 4) (.tmp 129) rfl rfl rfl HG5.out.r4 ?_); intro wz hRz hFz))
  refine bodyPost_ret (res_ctt rfl rfl (hRz.load cdT rfl)) rfl ?_
  exact GetE.fault 12 (HG5.out.fin hFz)
set_option maxHeartbeats 4000000 in
theorem RG_1f_ok (hr : Rd w (some ⟨b, o, none⟩) n l) (hlt : b < w.heap.size) (hn : n <= 20000) (hnc : n <= c) (hk : k + 2 <= n) (h0 : w.cell? ⟨b, o + k, none⟩ = some (.int .u8 1)) (h1 : w.cell? ⟨b, o + k + 1, none⟩ = some (.int .u8 0)) (hs : k + 18 <= n) :
    Calls Tryz.prog 53 #[.slice (some ⟨b, o, none⟩) n c, .int .i64 k] w (GetL (fun y => ∃ o', (some ⟨b, o, none⟩ : Option Addr) = some ⟨y, o', none⟩) w (⟨1, false, gv (l.drop k) 2 8, gv (l.drop k) 10 8, 0, []⟩, (k : Int) + 18, 0)) := by
  obtain ⟨w1, hw1⟩ : ∃ w1, w1 = w.alloc (.cells (Cd.zero.cs none 0 0) 61) := ⟨_, rfl⟩
  obtain ⟨w2, hw2⟩ : ∃ w2, w2 = w1.alloc (.cells (Cd.zero.cs none 0 0) 61) := ⟨_, rfl⟩
  have s1 : w1.heap.size = w.heap.size + 1 := by rw [hw1]; simp
  have hb1 : Below w.heap.size w w1 := by rw [hw1]; exact (Below.refl _ _).alloc (Nat.le_refl _) _
  have hb12 : Below w1.heap.size w1 w2 := by rw [hw2]; exact (Below.refl _ _).alloc (Nat.le_refl _) _
  have hb2 : Below w.heap.size w w2 := hb1.trans (hb12.mono hb1.size)
  have r4 : Rec 61 w2 w.heap.size (Cd.zero.cs none 0 0) := (show Rec 61 w1 w.heap.size (Cd.zero.cs none 0 0) by rw [hw1]; exact Rec.new w _ _).under hb12
  have r7 : Rec 61 w2 (w.heap.size + 1) (Cd.zero.cs none 0 0) := by rw [<- s1, hw2]; exact Rec.new w1 _ _
  have hck : ¬ k = c := by omega
  have q0 : w2.cell? ⟨b, o + k, none⟩ = some (.int .u8 1) := (hb2.cell (p := ⟨b, o + k, none⟩) hlt).trans h0
  have q1 : w2.cell? ⟨b, o + k + 1, none⟩ = some (.int .u8 0) := (hb2.cell (p := ⟨b, o + k + 1, none⟩) hlt).trans h1
  have rd2 : Rd w2 (some ⟨b, o + k, none⟩) (n - k) (l.drop k) := by
    have h := (hr.below (Nat.le_refl _) hb2).part (lo := k) (m := n - k) (by omega) (some ⟨b, o + k, none⟩) (fun _ b' o' e => by injection e with e; injection e with e1 e2; rw [e1, e2])
    rw [List.take_of_length_le (by have := hr.1; simp; omega)] at h
    exact h
  obtain ⟨w3, hw3⟩ : ∃ w3, w3 = w2.alloc (.cells #[.int .i64 1, .bool false, .int .i64 0, .int .i64 0, .int .i64 0, .slice none 0 0] 61) := ⟨_, rfl⟩
  have s2 : w2.heap.size = w.heap.size + 2 := by rw [hw2]; simp [s1]
  have hb23 : Below w2.heap.size w2 w3 := by rw [hw3]; exact (Below.refl _ _).alloc (Nat.le_refl _) _
  have G3 : GS w w3 (some ⟨b, o + k, none⟩) (n - k) (l.drop k) #[.int .i64 1, .bool false, .int .i64 0, .int .i64 0, .int .i64 0, .slice none 0 0] := ⟨r4.under hb23, r7.under hb23, by rw [<- s2, hw3]; exact Rec.new w2 _ _, rd2.below (Nat.le_refl _) hb23, (fun b' o' e _ => by injection e with e; injection e with e1 e2; omega), hb2.trans (hb23.mono hb2.size)⟩
  have HS2 := hi_ s2
  clear s2 hb23
  obtain ⟨ix, hix⟩ : ∃ v, v = gv (l.drop k) 2 8 := ⟨_, rfl⟩
  obtain ⟨gn, hgn⟩ : ∃ v, v = gv (l.drop k) 10 8 := ⟨_, rfl⟩
  have CC3 := RGetU (some ⟨b, o + k, none⟩) (n - k) (c - k) (l.drop k) 2 8 (by decide) w3 G3.rd (by omega) (by decide)
  rw [<- hix] at CC3
  have C3 := hi_ CC3
  have z3 := G3.r10.fz 2
  have k3 := G3.r10.at_ 2
  obtain ⟨w4, hw4⟩ : ∃ v, v = w3.setCell ⟨w.heap.size + 2, 2, none⟩ (.int .i64 ix) := ⟨_, rfl⟩
  have G4 : GS w w4 (some ⟨b, o + k, none⟩) (n - k) (l.drop k) #[.int .i64 1, .bool false, .int .i64 ix, .int .i64 0, .int .i64 0, .slice none 0 0] := by have hh := G3.set 2 (.int .i64 ix); rw [hw4]; simpa using hh
  have CC4 := RGetU (some ⟨b, o + k, none⟩) (n - k) (c - k) (l.drop k) 10 8 (by decide) w4 G4.rd (by omega) (by decide)
  rw [<- hgn] at CC4
  have C4 := hi_ CC4
  have z4 := G4.r10.fz 3
  have k4 := G4.r10.at_ 3
  obtain ⟨w5, hw5⟩ : ∃ v, v = w4.setCell ⟨w.heap.size + 2, 3, none⟩ (.int .i64 gn) := ⟨_, rfl⟩
  have G5 : GS w w5 (some ⟨b, o + k, none⟩) (n - k) (l.drop k) #[.int .i64 1, .bool false, .int .i64 ix, .int .i64 gn, .int .i64 0, .slice none 0 0] := by have hh := G4.set 3 (.int .i64 gn); rw [hw5]; simpa using hh
  have kl := G4.r10.at_ 1
  have kL := G3.r10.at_ 1
  have Hix := hi_ hix
  have Hgn := hi_ hgn
  have HG3 := hi_ G3
  have HG4 := hi_ G4
  have HG5 := hi_ G5
  clear CC3 CC4 G3 G4 G5 hix hgn
  have HS1 := hi_ s1
  clear hr s1 hb1 hb12 hb2 r4 r7 rd2 h0 h1
  go_enter Tryz.func53, Tryz.ntmps53
  go_wp2_with (first
    | (rw [<- hw1]; clear hw1)
    | (rw [<- hw2, HS1.out]; clear hw2)
    | (rw [<- hw3, HS2.out]; clear hw3)
    | (go_at_call 50; have _t := C3; refine C3.out.mono ?_; rintro e w' ⟨rfl, hw'⟩; subst hw'; clear C3)
    | (rw [<- hw4]; clear hw4)
    | (go_at_call 50; have _t := C4; refine C4.out.mono ?_; rintro e w' ⟨rfl, hw'⟩; subst hw'; clear C4)
    | (rw [<- hw5]; clear hw5)
    | ((with_reducible refine wpList_ldS cdT rfl rfl (.tmp 10) rfl rfl HG5.out.r10 ?_))
    | ((with_reducible refine wpList_stS (cs' := #[.int .i64 1, .bool false, .int .i64 ix, .int .i64 gn, .int .i64 0, .slice none 0 0]) cdT rfl rfl (by simp [Value.oneCell']) rfl (.tmp 4) (.tmp 130) rfl rfl rfl HG5.out.r4 ?_); intro wz hRz hFz))
  refine bodyPost_ret (res_ctt rfl rfl (hRz.load cdT rfl)) rfl ?_
  rw [<- Hix.out]
  rw [<- Hgn.out]
  exact ⟨none, 0, 0, rfl, Rd.nil _ _, Nat.le_refl _, HG5.out.fin hFz, fun _ _ e => by cases e⟩
set_option maxHeartbeats 4000000 in
theorem RG_1t_short (hr : Rd w (some ⟨b, o, none⟩) n l) (hlt : b < w.heap.size) (hn : n <= 20000) (hnc : n <= c) (hk : k + 2 <= n) (h0 : w.cell? ⟨b, o + k, none⟩ = some (.int .u8 1)) (h1 : w.cell? ⟨b, o + k + 1, none⟩ = some (.int .u8 1)) (hs : n < k + 10) :
    Calls Tryz.prog 53 #[.slice (some ⟨b, o, none⟩) n c, .int .i64 k] w (GetL (fun y => ∃ o', (some ⟨b, o, none⟩ : Option Addr) = some ⟨y, o', none⟩) w (Cd.zero, 0, 12)) := by
  obtain ⟨w1, hw1⟩ : ∃ w1, w1 = w.alloc (.cells (Cd.zero.cs none 0 0) 61) := ⟨_, rfl⟩
  obtain ⟨w2, hw2⟩ : ∃ w2, w2 = w1.alloc (.cells (Cd.zero.cs none 0 0) 61) := ⟨_, rfl⟩
  have s1 : w1.heap.size = w.heap.size + 1 := by rw [hw1]; simp
  have hb1 : Below w.heap.size w w1 := by rw [hw1]; exact (Below.refl _ _).alloc (Nat.le_refl _) _
  have hb12 : Below w1.heap.size w1 w2 := by rw [hw2]; exact (Below.refl _ _).alloc (Nat.le_refl _) _
  have hb2 : Below w.heap.size w w2 := hb1.trans (hb12.mono hb1.size)
  have r4 : Rec 61 w2 w.heap.size (Cd.zero.cs none 0 0) := (show Rec 61 w1 w.heap.size (Cd.zero.cs none 0 0) by rw [hw1]; exact Rec.new w _ _).under hb12
  have r7 : Rec 61 w2 (w.heap.size + 1) (Cd.zero.cs none 0 0) := by rw [<- s1, hw2]; exact Rec.new w1 _ _
  have hck : ¬ k = c := by omega
  have q0 : w2.cell? ⟨b, o + k, none⟩ = some (.int .u8 1) := (hb2.cell (p := ⟨b, o + k, none⟩) hlt).trans h0
  have q1 : w2.cell? ⟨b, o + k + 1, none⟩ = some (.int .u8 1) := (hb2.cell (p := ⟨b, o + k + 1, none⟩) hlt).trans h1
  have rd2 : Rd w2 (some ⟨b, o + k, none⟩) (n - k) (l.drop k) := by
    have h := (hr.below (Nat.le_refl _) hb2).part (lo := k) (m := n - k) (by omega) (some ⟨b, o + k, none⟩) (fun _ b' o' e => by injection e with e; injection e with e1 e2; rw [e1, e2])
    rw [List.take_of_length_le (by have := hr.1; simp; omega)] at h
    exact h
  obtain ⟨w3, hw3⟩ : ∃ w3, w3 = w2.alloc (.cells #[.int .i64 1, .bool true, .int .i64 0, .int .i64 0, .int .i64 0, .slice none 0 0] 61) := ⟨_, rfl⟩
  have s2 : w2.heap.size = w.heap.size + 2 := by rw [hw2]; simp [s1]
  have hb23 : Below w2.heap.size w2 w3 := by rw [hw3]; exact (Below.refl _ _).alloc (Nat.le_refl _) _
  have G3 : GS w w3 (some ⟨b, o + k, none⟩) (n - k) (l.drop k) #[.int .i64 1, .bool true, .int .i64 0, .int .i64 0, .int .i64 0, .slice none 0 0] := ⟨r4.under hb23, r7.under hb23, by rw [<- s2, hw3]; exact Rec.new w2 _ _, rd2.below (Nat.le_refl _) hb23, (fun b' o' e _ => by injection e with e; injection e with e1 e2; omega), hb2.trans (hb23.mono hb2.size)⟩
  have HS2 := hi_ s2
  clear s2 hb23
  obtain ⟨ix, hix⟩ : ∃ v, v = gv (l.drop k) 2 8 := ⟨_, rfl⟩
  have CC3 := RGetU (some ⟨b, o + k, none⟩) (n - k) (c - k) (l.drop k) 2 8 (by decide) w3 G3.rd (by omega) (by decide)
  rw [<- hix] at CC3
  have C3 := hi_ CC3
  have z3 := G3.r10.fz 2
  have k3 := G3.r10.at_ 2
  obtain ⟨w4, hw4⟩ : ∃ v, v = w3.setCell ⟨w.heap.size + 2, 2, none⟩ (.int .i64 ix) := ⟨_, rfl⟩
  have G4 : GS w w4 (some ⟨b, o + k, none⟩) (n - k) (l.drop k) #[.int .i64 1, .bool true, .int .i64 ix, .int .i64 0, .int .i64 0, .slice none 0 0] := by have hh := G3.set 2 (.int .i64 ix); rw [hw4]; simpa using hh
  have kl3 := G4.r10.at_ 1
  have kL := G3.r10.at_ 1
  have Hix := hi_ hix
  have HG3 := hi_ G3
  have HG4 := hi_ G4
  clear CC3 G3 G4 hix
  have HS1 := hi_ s1
  clear hr s1 hb1 hb12 hb2 r4 r7 rd2 h0 h1
  go_enter Tryz.func53, Tryz.ntmps53
  go_wp2_with (first
    | (rw [<- hw1]; clear hw1)
    | (rw [<- hw2, HS1.out]; clear hw2)
    | (rw [<- hw3, HS2.out]; clear hw3)
    | (go_at_call 50; have _t := C3; refine C3.out.mono ?_; rintro e w' ⟨rfl, hw'⟩; subst hw'; clear C3)
    | (rw [<- hw4]; clear hw4)
    | ((with_reducible refine wpList_ldS cdT rfl rfl (.tmp 7) rfl rfl HG4.out.r7 ?_))
    | ((with_reducible refine wpList_stS (cs' := (Cd.zero.cs none 0 0)) cdT rfl rfl (by simp [Value.oneCell']) rfl (.tmp 4) (.tmp 129) rfl rfl rfl HG4.out.r4 ?_); intro wz hRz hFz))
  refine bodyPost_ret (res_ctt rfl rfl (hRz.load cdT rfl)) rfl ?_
  exact GetE.fault 12 (HG4.out.fin hFz)
set_option maxHeartbeats 4000000 in
theorem RG_1t_ok (hr : Rd w (some ⟨b, o, none⟩) n l) (hlt : b < w.heap.size) (hn : n <= 20000) (hnc : n <= c) (hk : k + 2 <= n) (h0 : w.cell? ⟨b, o + k, none⟩ = some (.int .u8 1)) (h1 : w.cell? ⟨b, o + k + 1, none⟩ = some (.int .u8 1)) (hs : k + 10 <= n) :
    Calls Tryz.prog 53 #[.slice (some ⟨b, o, none⟩) n c, .int .i64 k] w (GetL (fun y => ∃ o', (some ⟨b, o, none⟩ : Option Addr) = some ⟨y, o', none⟩) w (⟨1, true, gv (l.drop k) 2 8, 0, 0, []⟩, (k : Int) + 10, 0)) := by
  obtain ⟨w1, hw1⟩ : ∃ w1, w1 = w.alloc (.cells (Cd.zero.cs none 0 0) 61) := ⟨_, rfl⟩
  obtain ⟨w2, hw2⟩ : ∃ w2, w2 = w1.alloc (.cells (Cd.zero.cs none 0 0) 61) := ⟨_, rfl⟩
  have s1 : w1.heap.size = w.heap.size + 1 := by rw [hw1]; simp
  have hb1 : Below w.heap.size w w1 := by rw [hw1]; exact (Below.refl _ _).alloc (Nat.le_refl _) _
  have hb12 : Below w1.heap.size w1 w2 := by rw [hw2]; exact (Below.refl _ _).alloc (Nat.le_refl _) _
  have hb2 : Below w.heap.size w w2 := hb1.trans (hb12.mono hb1.size)
  have r4 : Rec 61 w2 w.heap.size (Cd.zero.cs none 0 0) := (show Rec 61 w1 w.heap.size (Cd.zero.cs none 0 0) by rw [hw1]; exact Rec.new w _ _).under hb12
  have r7 : Rec 61 w2 (w.heap.size + 1) (Cd.zero.cs none 0 0) := by rw [<- s1, hw2]; exact Rec.new w1 _ _
  have hck : ¬ k = c := by omega
  have q0 : w2.cell? ⟨b, o + k, none⟩ = some (.int .u8 1) := (hb2.cell (p := ⟨b, o + k, none⟩) hlt).trans h0
  have q1 : w2.cell? ⟨b, o + k + 1, none⟩ = some (.int .u8 1) := (hb2.cell (p := ⟨b, o + k + 1, none⟩) hlt).trans h1
  have rd2 : Rd w2 (some ⟨b, o + k, none⟩) (n - k) (l.drop k) := by
    have h := (hr.below (Nat.le_refl _) hb2).part (lo := k) (m := n - k) (by omega) (some ⟨b, o + k, none⟩) (fun _ b' o' e => by injection e with e; injection e with e1 e2; rw [e1, e2])
    rw [List.take_of_length_le (by have := hr.1; simp; omega)] at h
    exact h
  obtain ⟨w3, hw3⟩ : ∃ w3, w3 = w2.alloc (.cells #[.int .i64 1, .bool true, .int .i64 0, .int .i64 0, .int .i64 0, .slice none 0 0] 61) := ⟨_, rfl⟩
  have s2 : w2.heap.size = w.heap.size + 2 := by rw [hw2]; simp [s1]
  have hb23 : Below w2.heap.size w2 w3 := by rw [hw3]; exact (Below.refl _ _).alloc (Nat.le_refl _) _
  have G3 : GS w w3 (some ⟨b, o + k, none⟩) (n - k) (l.drop k) #[.int .i64 1, .bool true, .int .i64 0, .int .i64 0, .int .i64 0, .slice none 0 0] := ⟨r4.under hb23, r7.under hb23, by rw [<- s2, hw3]; exact Rec.new w2 _ _, rd2.below (Nat.le_refl _) hb23, (fun b' o' e _ => by injection e with e; injection e with e1 e2; omega), hb2.trans (hb23.mono hb2.size)⟩
  have HS2 := hi_ s2
  clear s2 hb23
  obtain ⟨ix, hix⟩ : ∃ v, v = gv (l.drop k) 2 8 := ⟨_, rfl⟩
  have CC3 := RGetU (some ⟨b, o + k, none⟩) (n - k) (c - k) (l.drop k) 2 8 (by decide) w3 G3.rd (by omega) (by decide)
  rw [<- hix] at CC3
  have C3 := hi_ CC3
  have z3 := G3.r10.fz 2
  have k3 := G3.r10.at_ 2
  obtain ⟨w4, hw4⟩ : ∃ v, v = w3.setCell ⟨w.heap.size + 2, 2, none⟩ (.int .i64 ix) := ⟨_, rfl⟩
  have G4 : GS w w4 (some ⟨b, o + k, none⟩) (n - k) (l.drop k) #[.int .i64 1, .bool true, .int .i64 ix, .int .i64 0, .int .i64 0, .slice none 0 0] := by have hh := G3.set 2 (.int .i64 ix); rw [hw4]; simpa using hh
  have kl3 := G4.r10.at_ 1
  have kL := G3.r10.at_ 1
  have Hix := hi_ hix
  have HG3 := hi_ G3
  have HG4 := hi_ G4
  clear CC3 G3 G4 hix
  have HS1 := hi_ s1
  clear hr s1 hb1 hb12 hb2 r4 r7 rd2 h0 h1
  go_enter Tryz.func53, Tryz.ntmps53
  go_wp2_with (first
    | (rw [<- hw1]; clear hw1)
    | (rw [<- hw2, HS1.out]; clear hw2)
    | (rw [<- hw3, HS2.out]; clear hw3)
    | (go_at_call 50; have _t := C3; refine C3.out.mono ?_; rintro e w' ⟨rfl, hw'⟩; subst hw'; clear C3)
    | (rw [<- hw4]; clear hw4)
    | ((with_reducible refine wpList_ldS cdT rfl rfl (.tmp 10) rfl rfl HG4.out.r10 ?_))
    | ((with_reducible refine wpList_stS (cs' := #[.int .i64 1, .bool true, .int .i64 ix, .int .i64 0, .int .i64 0, .slice none 0 0]) cdT rfl rfl (by simp [Value.oneCell']) rfl (.tmp 4) (.tmp 130) rfl rfl rfl HG4.out.r4 ?_); intro wz hRz hFz))
  refine bodyPost_ret (res_ctt rfl rfl (hRz.load cdT rfl)) rfl ?_
  rw [<- Hix.out]
  exact ⟨none, 0, 0, rfl, Rd.nil _ _, Nat.le_refl _, HG4.out.fin hFz, fun _ _ e => by cases e⟩
set_option maxHeartbeats 4000000 in
theorem RG_3t_short (hr : Rd w (some ⟨b, o, none⟩) n l) (hlt : b < w.heap.size) (hn : n <= 20000) (hnc : n <= c) (hk : k + 2 <= n) (h0 : w.cell? ⟨b, o + k, none⟩ = some (.int .u8 3)) (h1 : w.cell? ⟨b, o + k + 1, none⟩ = some (.int .u8 1)) (hs : n < k + 18) :
    Calls Tryz.prog 53 #[.slice (some ⟨b, o, none⟩) n c, .int .i64 k] w (GetL (fun y => ∃ o', (some ⟨b, o, none⟩ : Option Addr) = some ⟨y, o', none⟩) w (Cd.zero, 0, 12)) := by
  obtain ⟨w1, hw1⟩ : ∃ w1, w1 = w.alloc (.cells (Cd.zero.cs none 0 0) 61) := ⟨_, rfl⟩
  obtain ⟨w2, hw2⟩ : ∃ w2, w2 = w1.alloc (.cells (Cd.zero.cs none 0 0) 61) := ⟨_, rfl⟩
  have s1 : w1.heap.size = w.heap.size + 1 := by rw [hw1]; simp
  have hb1 : Below w.heap.size w w1 := by rw [hw1]; exact (Below.refl _ _).alloc (Nat.le_refl _) _
  have hb12 : Below w1.heap.size w1 w2 := by rw [hw2]; exact (Below.refl _ _).alloc (Nat.le_refl _) _
  have hb2 : Below w.heap.size w w2 := hb1.trans (hb12.mono hb1.size)
  have r4 : Rec 61 w2 w.heap.size (Cd.zero.cs none 0 0) := (show Rec 61 w1 w.heap.size (Cd.zero.cs none 0 0) by rw [hw1]; exact Rec.new w _ _).under hb12
  have r7 : Rec 61 w2 (w.heap.size + 1) (Cd.zero.cs none 0 0) := by rw [<- s1, hw2]; exact Rec.new w1 _ _
  have hck : ¬ k = c := by omega
  have q0 : w2.cell? ⟨b, o + k, none⟩ = some (.int .u8 3) := (hb2.cell (p := ⟨b, o + k, none⟩) hlt).trans h0
  have q1 : w2.cell? ⟨b, o + k + 1, none⟩ = some (.int .u8 1) := (hb2.cell (p := ⟨b, o + k + 1, none⟩) hlt).trans h1
  have rd2 : Rd w2 (some ⟨b, o + k, none⟩) (n - k) (l.drop k) := by
    have h := (hr.below (Nat.le_refl _) hb2).part (lo := k) (m := n - k) (by omega) (some ⟨b, o + k, none⟩) (fun _ b' o' e => by injection e with e; injection e with e1 e2; rw [e1, e2])
    rw [List.take_of_length_le (by have := hr.1; simp; omega)] at h
    exact h
  obtain ⟨w3, hw3⟩ : ∃ w3, w3 = w2.alloc (.cells #[.int .i64 3, .bool true, .int .i64 0, .int .i64 0, .int .i64 0, .slice none 0 0] 61) := ⟨_, rfl⟩
  have s2 : w2.heap.size = w.heap.size + 2 := by rw [hw2]; simp [s1]
  have hb23 : Below w2.heap.size w2 w3 := by rw [hw3]; exact (Below.refl _ _).alloc (Nat.le_refl _) _
  have G3 : GS w w3 (some ⟨b, o + k, none⟩) (n - k) (l.drop k) #[.int .i64 3, .bool true, .int .i64 0, .int .i64 0, .int .i64 0, .slice none 0 0] := ⟨r4.under hb23, r7.under hb23, by rw [<- s2, hw3]; exact Rec.new w2 _ _, rd2.below (Nat.le_refl _) hb23, (fun b' o' e _ => by injection e with e; injection e with e1 e2; omega), hb2.trans (hb23.mono hb2.size)⟩
  have HS2 := hi_ s2
  clear s2 hb23
  obtain ⟨ix, hix⟩ : ∃ v, v = gv (l.drop k) 2 8 := ⟨_, rfl⟩
  obtain ⟨cp, hcp⟩ : ∃ v, v = gv (l.drop k) 10 8 := ⟨_, rfl⟩
  have CC3 := RGetU (some ⟨b, o + k, none⟩) (n - k) (c - k) (l.drop k) 2 8 (by decide) w3 G3.rd (by omega) (by decide)
  rw [<- hix] at CC3
  have C3 := hi_ CC3
  have z3 := G3.r10.fz 2
  have k3 := G3.r10.at_ 2
  obtain ⟨w4, hw4⟩ : ∃ v, v = w3.setCell ⟨w.heap.size + 2, 2, none⟩ (.int .i64 ix) := ⟨_, rfl⟩
  have G4 : GS w w4 (some ⟨b, o + k, none⟩) (n - k) (l.drop k) #[.int .i64 3, .bool true, .int .i64 ix, .int .i64 0, .int .i64 0, .slice none 0 0] := by have hh := G3.set 2 (.int .i64 ix); rw [hw4]; simpa using hh
  have CC4 := RGetU (some ⟨b, o + k, none⟩) (n - k) (c - k) (l.drop k) 10 8 (by decide) w4 G4.rd (by omega) (by decide)
  rw [<- hcp] at CC4
  have C4 := hi_ CC4
  have z4 := G4.r10.fz 4
  have k4 := G4.r10.at_ 4
  obtain ⟨w5, hw5⟩ : ∃ v, v = w4.setCell ⟨w.heap.size + 2, 4, none⟩ (.int .i64 cp) := ⟨_, rfl⟩
  have G5 : GS w w5 (some ⟨b, o + k, none⟩) (n - k) (l.drop k) #[.int .i64 3, .bool true, .int .i64 ix, .int .i64 0, .int .i64 cp, .slice none 0 0] := by have hh := G4.set 4 (.int .i64 cp); rw [hw5]; simpa using hh
  have kl3 := G4.r10.at_ 1
  have kL := G3.r10.at_ 1
  have Hix := hi_ hix
  have Hcp := hi_ hcp
  have HG3 := hi_ G3
  have HG4 := hi_ G4
  have HG5 := hi_ G5
  clear CC3 CC4 G3 G4 G5 hix hcp
  have HS1 := hi_ s1
  clear hr s1 hb1 hb12 hb2 r4 r7 rd2 h0 h1
  go_enter Tryz.func53, Tryz.ntmps53
  go_wp2_with (first
    | (rw [<- hw1]; clear hw1)
    | (rw [<- hw2, HS1.out]; clear hw2)
    | (rw [<- hw3, HS2.out]; clear hw3)
    | (go_at_call 50; have _t := C3; refine C3.out.mono ?_; rintro e w' ⟨rfl, hw'⟩; subst hw'; clear C3)
    | (rw [<- hw4]; clear hw4)
    | (go_at_call 50; have _t := C4; refine C4.out.mono ?_; rintro e w' ⟨rfl, hw'⟩; subst hw'; clear C4)
    | (rw [<- hw5]; clear hw5)
    | ((with_reducible refine wpList_ldS cdT rfl rfl (.tmp 7) rfl rfl HG5.out.r7 ?_))
    | ((with_reducible refine wpList_stS (cs' := (Cd.zero.cs none 0 0)) cdT rfl rfl (by simp [Value.oneCell']) rfl (.tmp 4) (.tmp 129) rfl rfl rfl HG5.out.r4 ?_); intro wz hRz hFz))
  refine bodyPost_ret (res_ctt rfl rfl (hRz.load cdT rfl)) rfl ?_
  exact GetE.fault 12 (HG5.out.fin hFz)
set_option maxHeartbeats 4000000 in
theorem RG_3t_ok (hr : Rd w (some ⟨b, o, none⟩) n l) (hlt : b < w.heap.size) (hn : n <= 20000) (hnc : n <= c) (hk : k + 2 <= n) (h0 : w.cell? ⟨b, o + k, none⟩ = some (.int .u8 3)) (h1 : w.cell? ⟨b, o + k + 1, none⟩ = some (.int .u8 1)) (hs : k + 18 <= n) :
    Calls Tryz.prog 53 #[.slice (some ⟨b, o, none⟩) n c, .int .i64 k] w (GetL (fun y => ∃ o', (some ⟨b, o, none⟩ : Option Addr) = some ⟨y, o', none⟩) w (⟨3, true, gv (l.drop k) 2 8, 0, gv (l.drop k) 10 8, []⟩, (k : Int) + 18, 0)) := by
  obtain ⟨w1, hw1⟩ : ∃ w1, w1 = w.alloc (.cells (Cd.zero.cs none 0 0) 61) := ⟨_, rfl⟩
  obtain ⟨w2, hw2⟩ : ∃ w2, w2 = w1.alloc (.cells (Cd.zero.cs none 0 0) 61) := ⟨_, rfl⟩
  have s1 : w1.heap.size = w.heap.size + 1 := by rw [hw1]; simp
  have hb1 : Below w.heap.size w w1 := by rw [hw1]; exact (Below.refl _ _).alloc (Nat.le_refl _) _
  have hb12 : Below w1.heap.size w1 w2 := by rw [hw2]; exact (Below.refl _ _).alloc (Nat.le_refl _) _
  have hb2 : Below w.heap.size w w2 := hb1.trans (hb12.mono hb1.size)
  have r4 : Rec 61 w2 w.heap.size (Cd.zero.cs none 0 0) := (show Rec 61 w1 w.heap.size (Cd.zero.cs none 0 0) by rw [hw1]; exact Rec.new w _ _).under hb12
  have r7 : Rec 61 w2 (w.heap.size + 1) (Cd.zero.cs none 0 0) := by rw [<- s1, hw2]; exact Rec.new w1 _ _
  have hck : ¬ k = c := by omega
  have q0 : w2.cell? ⟨b, o + k, none⟩ = some (.int .u8 3) := (hb2.cell (p := ⟨b, o + k, none⟩) hlt).trans h0
  have q1 : w2.cell? ⟨b, o + k + 1, none⟩ = some (.int .u8 1) := (hb2.cell (p := ⟨b, o + k + 1, none⟩) hlt).trans h1
  have rd2 : Rd w2 (some ⟨b, o + k, none⟩) (n - k) (l.drop k) := by
    have h := (hr.below (Nat.le_refl _) hb2).part (lo := k) (m := n - k) (by omega) (some ⟨b, o + k, none⟩) (fun _ b' o' e => by injection e with e; injection e with e1 e2; rw [e1, e2])
    rw [List.take_of_length_le (by have := hr.1; simp; omega)] at h
    exact h
  obtain ⟨w3, hw3⟩ : ∃ w3, w3 = w2.alloc (.cells #[.int .i64 3, .bool true, .int .i64 0, .int .i64 0, .int .i64 0, .slice none 0 0] 61) := ⟨_, rfl⟩
  have s2 : w2.heap.size = w.heap.size + 2 := by rw [hw2]; simp [s1]
  have hb23 : Below w2.heap.size w2 w3 := by rw [hw3]; exact (Below.refl _ _).alloc (Nat.le_refl _) _
  have G3 : GS w w3 (some ⟨b, o + k, none⟩) (n - k) (l.drop k) #[.int .i64 3, .bool true, .int .i64 0, .int .i64 0, .int .i64 0, .slice none 0 0] := ⟨r4.under hb23, r7.under hb23, by rw [<- s2, hw3]; exact Rec.new w2 _ _, rd2.below (Nat.le_refl _) hb23, (fun b' o' e _ => by injection e with e; injection e with e1 e2; omega), hb2.trans (hb23.mono hb2.size)⟩
  have HS2 := hi_ s2
  clear s2 hb23
  obtain ⟨ix, hix⟩ : ∃ v, v = gv (l.drop k) 2 8 := ⟨_, rfl⟩
  obtain ⟨cp, hcp⟩ : ∃ v, v = gv (l.drop k) 10 8 := ⟨_, rfl⟩
  have CC3 := RGetU (some ⟨b, o + k, none⟩) (n - k) (c - k) (l.drop k) 2 8 (by decide) w3 G3.rd (by omega) (by decide)
  rw [<- hix] at CC3
  have C3 := hi_ CC3
  have z3 := G3.r10.fz 2
  have k3 := G3.r10.at_ 2
  obtain ⟨w4, hw4⟩ : ∃ v, v = w3.setCell ⟨w.heap.size + 2, 2, none⟩ (.int .i64 ix) := ⟨_, rfl⟩
  have G4 : GS w w4 (some ⟨b, o + k, none⟩) (n - k) (l.drop k) #[.int .i64 3, .bool true, .int .i64 ix, .int .i64 0, .int .i64 0, .slice none 0 0] := by have hh := G3.set 2 (.int .i64 ix); rw [hw4]; simpa using hh
  have CC4 := RGetU (some ⟨b, o + k, none⟩) (n - k) (c - k) (l.drop k) 10 8 (by decide) w4 G4.rd (by omega) (by decide)
  rw [<- hcp] at CC4
  have C4 := hi_ CC4
  have z4 := G4.r10.fz 4
  have k4 := G4.r10.at_ 4
  obtain ⟨w5, hw5⟩ : ∃ v, v = w4.setCell ⟨w.heap.size + 2, 4, none⟩ (.int .i64 cp) := ⟨_, rfl⟩
  have G5 : GS w w5 (some ⟨b, o + k, none⟩) (n - k) (l.drop k) #[.int .i64 3, .bool true, .int .i64 ix, .int .i64 0, .int .i64 cp, .slice none 0 0] := by have hh := G4.set 4 (.int .i64 cp); rw [hw5]; simpa using hh
  have kl3 := G4.r10.at_ 1
  have kL := G3.r10.at_ 1
  have Hix := hi_ hix
  have Hcp := hi_ hcp
  have HG3 := hi_ G3
  have HG4 := hi_ G4
  have HG5 := hi_ G5
  clear CC3 CC4 G3 G4 G5 hix hcp
  have HS1 := hi_ s1
  clear hr s1 hb1 hb12 hb2 r4 r7 rd2 h0 h1
  go_enter Tryz.func53, Tryz.ntmps53
  go_wp2_with (first
    | (rw [<- hw1]; clear hw1)
    | (rw [<- hw2, HS1.out]; clear hw2)
    | (rw [<- hw3, HS2.out]; clear hw3)
    | (go_at_call 50; have _t := C3; refine C3.out.mono ?_; rintro e w' ⟨rfl, hw'⟩; subst hw'; clear C3)
    | (rw [<- hw4]; clear hw4)
    | (go_at_call 50; have _t := C4; refine C4.out.mono ?_; rintro e w' ⟨rfl, hw'⟩; subst hw'; clear C4)
    | (rw [<- hw5]; clear hw5)
    | ((with_reducible refine wpList_ldS cdT rfl rfl (.tmp 10) rfl rfl HG5.out.r10 ?_))
    | ((with_reducible refine wpList_stS (cs' := #[.int .i64 3, .bool true, .int .i64 ix, .int .i64 0, .int .i64 cp, .slice none 0 0]) cdT rfl rfl (by simp [Value.oneCell']) rfl (.tmp 4) (.tmp 130) rfl rfl rfl HG5.out.r4 ?_); intro wz hRz hFz))
  refine bodyPost_ret (res_ctt rfl rfl (hRz.load cdT rfl)) rfl ?_
  rw [<- Hix.out]
  rw [<- Hcp.out]
  exact ⟨none, 0, 0, rfl, Rd.nil _ _, Nat.le_refl _, HG5.out.fin hFz, fun _ _ e => by cases e⟩
end
end Go.Proofs.YthabmlbmlncbmaaGreat
namespace Go.Proofs.YthabmlbmlncbmaaGreat
open Go.RowKit
set_option linter.unusedVariables false
set_option maxRecDepth 20000
section
variable (n c : Nat) (l : List UInt8) (w : World)
variable (b o k : Nat)
set_option maxHeartbeats 4000000 in
theorem RG_3f_short (hr : Rd w (some ⟨b, o, none⟩) n l) (hlt : b < w.heap.size) (hn : n <= 20000) (hnc : n <= c) (hk : k + 2 <= n) (h0 : w.cell? ⟨b, o + k, none⟩ = some (.int .u8 3)) (h1 : w.cell? ⟨b, o + k + 1, none⟩ = some (.int .u8 0)) (hs : n < k + 26) :
    Calls Tryz.prog 53 #[.slice (some ⟨b, o, none⟩) n c, .int .i64 k] w (GetL (fun y => ∃ o', (some ⟨b, o, none⟩ : Option Addr) = some ⟨y, o', none⟩) w (Cd.zero, 0, 12)) := by
  obtain ⟨w1, hw1⟩ : ∃ w1, w1 = w.alloc (.cells (Cd.zero.cs none 0 0) 61) := ⟨_, rfl⟩
  obtain ⟨w2, hw2⟩ : ∃ w2, w2 = w1.alloc (.cells (Cd.zero.cs none 0 0) 61) := ⟨_, rfl⟩
  have s1 : w1.heap.size = w.heap.size + 1 := by rw [hw1]; simp
  have hb1 : Below w.heap.size w w1 := by rw [hw1]; exact (Below.refl _ _).alloc (Nat.le_refl _) _
  have hb12 : Below w1.heap.size w1 w2 := by rw [hw2]; exact (Below.refl _ _).alloc (Nat.le_refl _) _
  have hb2 : Below w.heap.size w w2 := hb1.trans (hb12.mono hb1.size)
  have r4 : Rec 61 w2 w.heap.size (Cd.zero.cs none 0 0) := (show Rec 61 w1 w.heap.size (Cd.zero.cs none 0 0) by rw [hw1]; exact Rec.new w _ _).under hb12
  have r7 : Rec 61 w2 (w.heap.size + 1) (Cd.zero.cs none 0 0) := by rw [<- s1, hw2]; exact Rec.new w1 _ _
  have hck : ¬ k = c := by omega
  have q0 : w2.cell? ⟨b, o + k, none⟩ = some (.int .u8 3) := (hb2.cell (p := ⟨b, o + k, none⟩) hlt).trans h0
  have q1 : w2.cell? ⟨b, o + k + 1, none⟩ = some (.int .u8 0) := (hb2.cell (p := ⟨b, o + k + 1, none⟩) hlt).trans h1
  have rd2 : Rd w2 (some ⟨b, o + k, none⟩) (n - k) (l.drop k) := by
    have h := (hr.below (Nat.le_refl _) hb2).part (lo := k) (m := n - k) (by omega) (some ⟨b, o + k, none⟩) (fun _ b' o' e => by injection e with e; injection e with e1 e2; rw [e1, e2])
    rw [List.take_of_length_le (by have := hr.1; simp; omega)] at h
    exact h
  obtain ⟨w3, hw3⟩ : ∃ w3, w3 = w2.alloc (.cells #[.int .i64 3, .bool false, .int .i64 0, .int .i64 0, .int .i64 0, .slice none 0 0] 61) := ⟨_, rfl⟩
  have s2 : w2.heap.size = w.heap.size + 2 := by rw [hw2]; simp [s1]
  have hb23 : Below w2.heap.size w2 w3 := by rw [hw3]; exact (Below.refl _ _).alloc (Nat.le_refl _) _
  have G3 : GS w w3 (some ⟨b, o + k, none⟩) (n - k) (l.drop k) #[.int .i64 3, .bool false, .int .i64 0, .int .i64 0, .int .i64 0, .slice none 0 0] := ⟨r4.under hb23, r7.under hb23, by rw [<- s2, hw3]; exact Rec.new w2 _ _, rd2.below (Nat.le_refl _) hb23, (fun b' o' e _ => by injection e with e; injection e with e1 e2; omega), hb2.trans (hb23.mono hb2.size)⟩
  have HS2 := hi_ s2
  clear s2 hb23
  obtain ⟨ix, hix⟩ : ∃ v, v = gv (l.drop k) 2 8 := ⟨_, rfl⟩
  obtain ⟨gn, hgn⟩ : ∃ v, v = gv (l.drop k) 10 8 := ⟨_, rfl⟩
  obtain ⟨cp, hcp⟩ : ∃ v, v = gv (l.drop k) 18 8 := ⟨_, rfl⟩
  have CC3 := RGetU (some ⟨b, o + k, none⟩) (n - k) (c - k) (l.drop k) 2 8 (by decide) w3 G3.rd (by omega) (by decide)
  rw [<- hix] at CC3
  have C3 := hi_ CC3
  have z3 := G3.r10.fz 2
  have k3 := G3.r10.at_ 2
  obtain ⟨w4, hw4⟩ : ∃ v, v = w3.setCell ⟨w.heap.size + 2, 2, none⟩ (.int .i64 ix) := ⟨_, rfl⟩
  have G4 : GS w w4 (some ⟨b, o + k, none⟩) (n - k) (l.drop k) #[.int .i64 3, .bool false, .int .i64 ix, .int .i64 0, .int .i64 0, .slice none 0 0] := by have hh := G3.set 2 (.int .i64 ix); rw [hw4]; simpa using hh
  have CC4 := RGetU (some ⟨b, o + k, none⟩) (n - k) (c - k) (l.drop k) 10 8 (by decide) w4 G4.rd (by omega) (by decide)
  rw [<- hgn] at CC4
  have C4 := hi_ CC4
  have z4 := G4.r10.fz 3
  have k4 := G4.r10.at_ 3
  obtain ⟨w5, hw5⟩ : ∃ v, v = w4.setCell ⟨w.heap.size + 2, 3, none⟩ (.int .i64 gn) := ⟨_, rfl⟩
  have G5 : GS w w5 (some ⟨b, o + k, none⟩) (n - k) (l.drop k) #[.int .i64 3, .bool false, .int .i64 ix, .int .i64 gn, .int .i64 0, .slice none 0 0] := by have hh := G4.set 3 (.int .i64 gn); rw [hw5]; simpa using hh
  have CC5 := RGetU (some ⟨b, o + k, none⟩) (n - k) (c - k) (l.drop k) 18 8 (by decide) w5 G5.rd (by omega) (by decide)
  rw [<- hcp] at CC5
  have C5 := hi_ CC5
  have z5 := G5.r10.fz 4
  have k5 := G5.r10.at_ 4
  obtain ⟨w6, hw6⟩ : ∃ v, v = w5.setCell ⟨w.heap.size + 2, 4, none⟩ (.int .i64 cp) := ⟨_, rfl⟩
  have G6 : GS w w6 (some ⟨b, o + k, none⟩) (n - k) (l.drop k) #[.int .i64 3, .bool false, .int .i64 ix, .int .i64 gn, .int .i64 cp, .slice none 0 0] := by have hh := G5.set 4 (.int .i64 cp); rw [hw6]; simpa using hh
  have kl := G4.r10.at_ 1
  have kL := G3.r10.at_ 1
  have Hix := hi_ hix
  have Hgn := hi_ hgn
  have Hcp := hi_ hcp
  have HG3 := hi_ G3
  have HG4 := hi_ G4
  have HG5 := hi_ G5
  have HG6 := hi_ G6
  clear CC3 CC4 CC5 G3 G4 G5 G6 hix hgn hcp
  have HS1 := hi_ s1
  clear hr s1 hb1 hb12 hb2 r4 r7 rd2 h0 h1
  go_enter Tryz.func53, Tryz.ntmps53
  go_wp2_with (first
    | (rw [<- hw1]; clear hw1)
    | (rw [<- hw2, HS1.out]; clear hw2)
    | (rw [<- hw3, HS2.out]; clear hw3)
    | (go_at_call 50; have _t := C3; refine C3.out.mono ?_; rintro e w' ⟨rfl, hw'⟩; subst hw'; clear C3)
    | (rw [<- hw4]; clear hw4)
    | (go_at_call 50; have _t := C4; refine C4.out.mono ?_; rintro e w' ⟨rfl, hw'⟩; subst hw'; clear C4)
    | (rw [<- hw5]; clear hw5)
    | (go_at_call 50; have _t := C5; refine C5.out.mono ?_; rintro e w' ⟨rfl, hw'⟩; subst hw'; clear C5)
    | (rw [<- hw6]; clear hw6)
    | ((with_reducible refine wpList_ldS cdT rfl rfl (.tmp 7) rfl rfl HG6.out.r7 ?_))
    | ((with_reducible refine wpList_stS (cs' := (Cd.zero.cs none 0 0)) cdT rfl rfl (by simp [Value.oneCell']) rfl (.tmp 4) (.tmp 129) rfl rfl rfl HG6.out.r4 ?_); intro wz hRz hFz))
  refine bodyPost_ret (res_ctt rfl rfl (hRz.load cdT rfl)) rfl ?_
  exact GetE.fault 12 (HG6.out.fin hFz)
set_option maxHeartbeats 4000000 in
theorem RG_3f_ok (hr : Rd w (some ⟨b, o, none⟩) n l) (hlt : b < w.heap.size) (hn : n <= 20000) (hnc : n <= c) (hk : k + 2 <= n) (h0 : w.cell? ⟨b, o + k, none⟩ = some (.int .u8 3)) (h1 : w.cell? ⟨b, o + k + 1, none⟩ = some (.int .u8 0)) (hs : k + 26 <= n) :
    Calls Tryz.prog 53 #[.slice (some ⟨b, o, none⟩) n c, .int .i64 k] w (GetL (fun y => ∃ o', (some ⟨b, o, none⟩ : Option Addr) = some ⟨y, o', none⟩) w (⟨3, false, gv (l.drop k) 2 8, gv (l.drop k) 10 8, gv (l.drop k) 18 8, []⟩, (k : Int) + 26, 0)) := by
  obtain ⟨w1, hw1⟩ : ∃ w1, w1 = w.alloc (.cells (Cd.zero.cs none 0 0) 61) := ⟨_, rfl⟩
  obtain ⟨w2, hw2⟩ : ∃ w2, w2 = w1.alloc (.cells (Cd.zero.cs none 0 0) 61) := ⟨_, rfl⟩
  have s1 : w1.heap.size = w.heap.size + 1 := by rw [hw1]; simp
  have hb1 : Below w.heap.size w w1 := by rw [hw1]; exact (Below.refl _ _).alloc (Nat.le_refl _) _
  have hb12 : Below w1.heap.size w1 w2 := by rw [hw2]; exact (Below.refl _ _).alloc (Nat.le_refl _) _
  have hb2 : Below w.heap.size w w2 := hb1.trans (hb12.mono hb1.size)
  have r4 : Rec 61 w2 w.heap.size (Cd.zero.cs none 0 0) := (show Rec 61 w1 w.heap.size (Cd.zero.cs none 0 0) by rw [hw1]; exact Rec.new w _ _).under hb12
  have r7 : Rec 61 w2 (w.heap.size + 1) (Cd.zero.cs none 0 0) := by rw [<- s1, hw2]; exact Rec.new w1 _ _
  have hck : ¬ k = c := by omega
  have q0 : w2.cell? ⟨b, o + k, none⟩ = some (.int .u8 3) := (hb2.cell (p := ⟨b, o + k, none⟩) hlt).trans h0
  have q1 : w2.cell? ⟨b, o + k + 1, none⟩ = some (.int .u8 0) := (hb2.cell (p := ⟨b, o + k + 1, none⟩) hlt).trans h1
  have rd2 : Rd w2 (some ⟨b, o + k, none⟩) (n - k) (l.drop k) := by
    have h := (hr.below (Nat.le_refl _) hb2).part (lo := k) (m := n - k) (by omega) (some ⟨b, o + k, none⟩) (fun _ b' o' e => by injection e with e; injection e with e1 e2; rw [e1, e2])
    rw [List.take_of_length_le (by have := hr.1; simp; omega)] at h
    exact h
  obtain ⟨w3, hw3⟩ : ∃ w3, w3 = w2.alloc (.cells #[.int .i64 3, .bool false, .int .i64 0, .int .i64 0, .int .i64 0, .slice none 0 0] 61) := ⟨_, rfl⟩
  have s2 : w2.heap.size = w.heap.size + 2 := by rw [hw2]; simp [s1]
  have hb23 : Below w2.heap.size w2 w3 := by rw [hw3]; exact (Below.refl _ _).alloc (Nat.le_refl _) _
  have G3 : GS w w3 (some ⟨b, o + k, none⟩) (n - k) (l.drop k) #[.int .i64 3, .bool false, .int .i64 0, .int .i64 0, .int .i64 0, .slice none 0 0] := ⟨r4.under hb23, r7.under hb23, by rw [<- s2, hw3]; exact Rec.new w2 _ _, rd2.below (Nat.le_refl _) hb23, (fun b' o' e _ => by injection e with e; injection e with e1 e2; omega), hb2.trans (hb23.mono hb2.size)⟩
  have HS2 := hi_ s2
  clear s2 hb23
  obtain ⟨ix, hix⟩ : ∃ v, v = gv (l.drop k) 2 8 := ⟨_, rfl⟩
  obtain ⟨gn, hgn⟩ : ∃ v, v = gv (l.drop k) 10 8 := ⟨_, rfl⟩
  obtain ⟨cp, hcp⟩ : ∃ v, v = gv (l.drop k) 18 8 := ⟨_, rfl⟩
  have CC3 := RGetU (some ⟨b, o + k, none⟩) (n - k) (c - k) (l.drop k) 2 8 (by decide) w3 G3.rd (by omega) (by decide)
  rw [<- hix] at CC3
  have C3 := hi_ CC3
  have z3 := G3.r10.fz 2
  have k3 := G3.r10.at_ 2
  obtain ⟨w4, hw4⟩ : ∃ v, v = w3.setCell ⟨w.heap.size + 2, 2, none⟩ (.int .i64 ix) := ⟨_, rfl⟩
  have G4 : GS w w4 (some ⟨b, o + k, none⟩) (n - k) (l.drop k) #[.int .i64 3, .bool false, .int .i64 ix, .int .i64 0, .int .i64 0, .slice none 0 0] := by have hh := G3.set 2 (.int .i64 ix); rw [hw4]; simpa using hh
  have CC4 := RGetU (some ⟨b, o + k, none⟩) (n - k) (c - k) (l.drop k) 10 8 (by decide) w4 G4.rd (by omega) (by decide)
  rw [<- hgn] at CC4
  have C4 := hi_ CC4
  have z4 := G4.r10.fz 3
  have k4 := G4.r10.at_ 3
  obtain ⟨w5, hw5⟩ : ∃ v, v = w4.setCell ⟨w.heap.size + 2, 3, none⟩ (.int .i64 gn) := ⟨_, rfl⟩
  have G5 : GS w w5 (some ⟨b, o + k, none⟩) (n - k) (l.drop k) #[.int .i64 3, .bool false, .int .i64 ix, .int .i64 gn, .int .i64 0, .slice none 0 0] := by have hh := G4.set 3 (.int .i64 gn); rw [hw5]; simpa using hh
  have CC5 := RGetU (some ⟨b, o + k, none⟩) (n - k) (c - k) (l.drop k) 18 8 (by decide) w5 G5.rd (by omega) (by decide)
  rw [<- hcp] at CC5
  have C5 := hi_ CC5
  have z5 := G5.r10.fz 4
  have k5 := G5.r10.at_ 4
  obtain ⟨w6, hw6⟩ : ∃ v, v = w5.setCell ⟨w.heap.size + 2, 4, none⟩ (.int .i64 cp) := ⟨_, rfl⟩
  have G6 : GS w w6 (some ⟨b, o + k, none⟩) (n - k) (l.drop k) #[.int .i64 3, .bool false, .int .i64 ix, .int .i64 gn, .int .i64 cp, .slice none 0 0] := by have hh := G5.set 4 (.int .i64 cp); rw [hw6]; simpa using hh
  have kl := G4.r10.at_ 1
  have kL := G3.r10.at_ 1
  have Hix := hi_ hix
  have Hgn := hi_ hgn
  have Hcp := hi_ hcp
  have HG3 := hi_ G3
  have HG4 := hi_ G4
  have HG5 := hi_ G5
  have HG6 := hi_ G6
  clear CC3 CC4 CC5 G3 G4 G5 G6 hix hgn hcp
  have HS1 := hi_ s1
  clear hr s1 hb1 hb12 hb2 r4 r7 rd2 h0 h1
  go_enter Tryz.func53, Tryz.ntmps53
  go_wp2_with (first
    | (rw [<- hw1]; clear hw1)
    | (rw [<- hw2, HS1.out]; clear hw2)
    | (rw [<- hw3, HS2.out]; clear hw3)
    | (go_at_call 50; have _t := C3; refine C3.out.mono ?_; rintro e w' ⟨rfl, hw'⟩; subst hw'; clear C3)
    | (rw [<- hw4]; clear hw4)
    | (go_at_call 50; have _t := C4; refine C4.out.mono ?_; rintro e w' ⟨rfl, hw'⟩; subst hw'; clear C4)
    | (rw [<- hw5]; clear hw5)
    | (go_at_call 50; have _t := C5; refine C5.out.mono ?_; rintro e w' ⟨rfl, hw'⟩; subst hw'; clear C5)
    | (rw [<- hw6]; clear hw6)
    | ((with_reducible refine wpList_ldS cdT rfl rfl (.tmp 10) rfl rfl HG6.out.r10 ?_))
    | ((with_reducible refine wpList_stS (cs' := #[.int .i64 3, .bool false, .int .i64 ix, .int .i64 gn, .int .i64 cp, .slice none 0 0]) cdT rfl rfl (by simp [Value.oneCell']) rfl (.tmp 4) (.tmp 130) rfl rfl rfl HG6.out.r4 ?_); intro wz hRz hFz))
  refine bodyPost_ret (res_ctt rfl rfl (hRz.load cdT rfl)) rfl ?_
  rw [<- Hix.out]
  rw [<- Hgn.out]
  rw [<- Hcp.out]
  exact ⟨none, 0, 0, rfl, Rd.nil _ _, Nat.le_refl _, HG6.out.fin hFz, fun _ _ e => by cases e⟩
set_option maxHeartbeats 4000000 in
theorem RG_2t_none (hr : Rd w (some ⟨b, o, none⟩) n l) (hlt : b < w.heap.size) (hn : n <= 20000) (hnc : n <= c) (hk : k + 2 <= n) (h0 : w.cell? ⟨b, o + k, none⟩ = some (.int .u8 2)) (h1 : w.cell? ⟨b, o + k + 1, none⟩ = some (.int .u8 1)) (hs : n < k + 20) :
    Calls Tryz.prog 53 #[.slice (some ⟨b, o, none⟩) n c, .int .i64 k] w (GetL (fun y => ∃ o', (some ⟨b, o, none⟩ : Option Addr) = some ⟨y, o', none⟩) w (Cd.zero, 0, 12)) := by
  obtain ⟨w1, hw1⟩ : ∃ w1, w1 = w.alloc (.cells (Cd.zero.cs none 0 0) 61) := ⟨_, rfl⟩
  obtain ⟨w2, hw2⟩ : ∃ w2, w2 = w1.alloc (.cells (Cd.zero.cs none 0 0) 61) := ⟨_, rfl⟩
  have s1 : w1.heap.size = w.heap.size + 1 := by rw [hw1]; simp
  have hb1 : Below w.heap.size w w1 := by rw [hw1]; exact (Below.refl _ _).alloc (Nat.le_refl _) _
  have hb12 : Below w1.heap.size w1 w2 := by rw [hw2]; exact (Below.refl _ _).alloc (Nat.le_refl _) _
  have hb2 : Below w.heap.size w w2 := hb1.trans (hb12.mono hb1.size)
  have r4 : Rec 61 w2 w.heap.size (Cd.zero.cs none 0 0) := (show Rec 61 w1 w.heap.size (Cd.zero.cs none 0 0) by rw [hw1]; exact Rec.new w _ _).under hb12
  have r7 : Rec 61 w2 (w.heap.size + 1) (Cd.zero.cs none 0 0) := by rw [<- s1, hw2]; exact Rec.new w1 _ _
  have hck : ¬ k = c := by omega
  have q0 : w2.cell? ⟨b, o + k, none⟩ = some (.int .u8 2) := (hb2.cell (p := ⟨b, o + k, none⟩) hlt).trans h0
  have q1 : w2.cell? ⟨b, o + k + 1, none⟩ = some (.int .u8 1) := (hb2.cell (p := ⟨b, o + k + 1, none⟩) hlt).trans h1
  have rd2 : Rd w2 (some ⟨b, o + k, none⟩) (n - k) (l.drop k) := by
    have h := (hr.below (Nat.le_refl _) hb2).part (lo := k) (m := n - k) (by omega) (some ⟨b, o + k, none⟩) (fun _ b' o' e => by injection e with e; injection e with e1 e2; rw [e1, e2])
    rw [List.take_of_length_le (by have := hr.1; simp; omega)] at h
    exact h
  obtain ⟨w3, hw3⟩ : ∃ w3, w3 = w2.alloc (.cells #[.int .i64 2, .bool true, .int .i64 0, .int .i64 0, .int .i64 0, .slice none 0 0] 61) := ⟨_, rfl⟩
  have s2 : w2.heap.size = w.heap.size + 2 := by rw [hw2]; simp [s1]
  have hb23 : Below w2.heap.size w2 w3 := by rw [hw3]; exact (Below.refl _ _).alloc (Nat.le_refl _) _
  have G3 : GS w w3 (some ⟨b, o + k, none⟩) (n - k) (l.drop k) #[.int .i64 2, .bool true, .int .i64 0, .int .i64 0, .int .i64 0, .slice none 0 0] := ⟨r4.under hb23, r7.under hb23, by rw [<- s2, hw3]; exact Rec.new w2 _ _, rd2.below (Nat.le_refl _) hb23, (fun b' o' e _ => by injection e with e; injection e with e1 e2; omega), hb2.trans (hb23.mono hb2.size)⟩
  have HS2 := hi_ s2
  clear s2 hb23
  obtain ⟨ix, hix⟩ : ∃ v, v = gv (l.drop k) 2 8 := ⟨_, rfl⟩
  obtain ⟨cp, hcp⟩ : ∃ v, v = gv (l.drop k) 10 8 := ⟨_, rfl⟩
  have CC3 := RGetU (some ⟨b, o + k, none⟩) (n - k) (c - k) (l.drop k) 2 8 (by decide) w3 G3.rd (by omega) (by decide)
  rw [<- hix] at CC3
  have C3 := hi_ CC3
  have z3 := G3.r10.fz 2
  have k3 := G3.r10.at_ 2
  obtain ⟨w4, hw4⟩ : ∃ v, v = w3.setCell ⟨w.heap.size + 2, 2, none⟩ (.int .i64 ix) := ⟨_, rfl⟩
  have G4 : GS w w4 (some ⟨b, o + k, none⟩) (n - k) (l.drop k) #[.int .i64 2, .bool true, .int .i64 ix, .int .i64 0, .int .i64 0, .slice none 0 0] := by have hh := G3.set 2 (.int .i64 ix); rw [hw4]; simpa using hh
  have CC4 := RGetU (some ⟨b, o + k, none⟩) (n - k) (c - k) (l.drop k) 10 8 (by decide) w4 G4.rd (by omega) (by decide)
  rw [<- hcp] at CC4
  have C4 := hi_ CC4
  have z4 := G4.r10.fz 4
  have k4 := G4.r10.at_ 4
  obtain ⟨w5, hw5⟩ : ∃ v, v = w4.setCell ⟨w.heap.size + 2, 4, none⟩ (.int .i64 cp) := ⟨_, rfl⟩
  have G5 : GS w w5 (some ⟨b, o + k, none⟩) (n - k) (l.drop k) #[.int .i64 2, .bool true, .int .i64 ix, .int .i64 0, .int .i64 cp, .slice none 0 0] := by have hh := G4.set 4 (.int .i64 cp); rw [hw5]; simpa using hh
  have kl3 := G4.r10.at_ 1
  have kL := G3.r10.at_ 1
  have CC5 := RGetU (some ⟨b, o + k, none⟩) (n - k) (c - k) (l.drop k) 18 2 (by decide) w5 G5.rd (by omega) (by decide)
  have en : gv (l.drop k) 18 2 = 0 := by unfold gv; rw [if_neg (by have := rd2.1; omega)]
  rw [en, decide_eq_false (by omega)] at CC5
  clear en
  have C5 := hi_ CC5
  have Hix := hi_ hix
  have Hcp := hi_ hcp
  have HG3 := hi_ G3
  have HG4 := hi_ G4
  have HG5 := hi_ G5
  clear CC3 CC4 CC5 G3 G4 G5 hix hcp
  have HS1 := hi_ s1
  clear hr s1 hb1 hb12 hb2 r4 r7 rd2 h0 h1
  go_enter Tryz.func53, Tryz.ntmps53
  go_wp2_with (first
    | (rw [<- hw1]; clear hw1)
    | (rw [<- hw2, HS1.out]; clear hw2)
    | (rw [<- hw3, HS2.out]; clear hw3)
    | (go_at_call 50; have _t := C3; refine C3.out.mono ?_; rintro e w' ⟨rfl, hw'⟩; subst hw'; clear C3)
    | (rw [<- hw4]; clear hw4)
    | (go_at_call 50; have _t := C4; refine C4.out.mono ?_; rintro e w' ⟨rfl, hw'⟩; subst hw'; clear C4)
    | (rw [<- hw5]; clear hw5)
    | (go_at_call 50; have _t := C5; refine C5.out.mono ?_; rintro e w' ⟨rfl, hw'⟩; subst hw'; clear C5)
    | ((with_reducible refine wpList_ldS cdT rfl rfl (.tmp 7) rfl rfl HG5.out.r7 ?_))
    | ((with_reducible refine wpList_stS (cs' := (Cd.zero.cs none 0 0)) cdT rfl rfl (by simp [Value.oneCell']) rfl (.tmp 4) (.tmp 129) rfl rfl rfl HG5.out.r4 ?_); intro wz hRz hFz))
  refine bodyPost_ret (res_ctt rfl rfl (hRz.load cdT rfl)) rfl ?_
  exact GetE.fault 12 (HG5.out.fin hFz)
end
end Go.Proofs.YthabmlbmlncbmaaGreat
namespace Go.Proofs.YthabmlbmlncbmaaGreat
open Go.RowKit
set_option linter.unusedVariables false
set_option maxRecDepth 20000
section
variable (n c : Nat) (l : List UInt8) (w : World)
variable (b o k : Nat)
set_option maxHeartbeats 4000000 in
theorem RG_2f_none (hr : Rd w (some ⟨b, o, none⟩) n l) (hlt : b < w.heap.size) (hn : n <= 20000) (hnc : n <= c) (hk : k + 2 <= n) (h0 : w.cell? ⟨b, o + k, none⟩ = some (.int .u8 2)) (h1 : w.cell? ⟨b, o + k + 1, none⟩ = some (.int .u8 0)) (hs : n < k + 28) :
    Calls Tryz.prog 53 #[.slice (some ⟨b, o, none⟩) n c, .int .i64 k] w (GetL (fun y => ∃ o', (some ⟨b, o, none⟩ : Option Addr) = some ⟨y, o', none⟩) w (Cd.zero, 0, 12)) := by
  obtain ⟨w1, hw1⟩ : ∃ w1, w1 = w.alloc (.cells (Cd.zero.cs none 0 0) 61) := ⟨_, rfl⟩
  obtain ⟨w2, hw2⟩ : ∃ w2, w2 = w1.alloc (.cells (Cd.zero.cs none 0 0) 61) := ⟨_, rfl⟩
  have s1 : w1.heap.size = w.heap.size + 1 := by rw [hw1]; simp
  have hb1 : Below w.heap.size w w1 := by rw [hw1]; exact (Below.refl _ _).alloc (Nat.le_refl _) _
  have hb12 : Below w1.heap.size w1 w2 := by rw [hw2]; exact (Below.refl _ _).alloc (Nat.le_refl _) _
  have hb2 : Below w.heap.size w w2 := hb1.trans (hb12.mono hb1.size)
  have r4 : Rec 61 w2 w.heap.size (Cd.zero.cs none 0 0) := (show Rec 61 w1 w.heap.size (Cd.zero.cs none 0 0) by rw [hw1]; exact Rec.new w _ _).under hb12
  have r7 : Rec 61 w2 (w.heap.size + 1) (Cd.zero.cs none 0 0) := by rw [<- s1, hw2]; exact Rec.new w1 _ _
  have hck : ¬ k = c := by omega
  have q0 : w2.cell? ⟨b, o + k, none⟩ = some (.int .u8 2) := (hb2.cell (p := ⟨b, o + k, none⟩) hlt).trans h0
  have q1 : w2.cell? ⟨b, o + k + 1, none⟩ = some (.int .u8 0) := (hb2.cell (p := ⟨b, o + k + 1, none⟩) hlt).trans h1
  have rd2 : Rd w2 (some ⟨b, o + k, none⟩) (n - k) (l.drop k) := by
    have h := (hr.below (Nat.le_refl _) hb2).part (lo := k) (m := n - k) (by omega) (some ⟨b, o + k, none⟩) (fun _ b' o' e => by injection e with e; injection e with e1 e2; rw [e1, e2])
    rw [List.take_of_length_le (by have := hr.1; simp; omega)] at h
    exact h
  obtain ⟨w3, hw3⟩ : ∃ w3, w3 = w2.alloc (.cells #[.int .i64 2, .bool false, .int .i64 0, .int .i64 0, .int .i64 0, .slice none 0 0] 61) := ⟨_, rfl⟩
  have s2 : w2.heap.size = w.heap.size + 2 := by rw [hw2]; simp [s1]
  have hb23 : Below w2.heap.size w2 w3 := by rw [hw3]; exact (Below.refl _ _).alloc (Nat.le_refl _) _
  have G3 : GS w w3 (some ⟨b, o + k, none⟩) (n - k) (l.drop k) #[.int .i64 2, .bool false, .int .i64 0, .int .i64 0, .int .i64 0, .slice none 0 0] := ⟨r4.under hb23, r7.under hb23, by rw [<- s2, hw3]; exact Rec.new w2 _ _, rd2.below (Nat.le_refl _) hb23, (fun b' o' e _ => by injection e with e; injection e with e1 e2; omega), hb2.trans (hb23.mono hb2.size)⟩
  have HS2 := hi_ s2
  clear s2 hb23
  obtain ⟨ix, hix⟩ : ∃ v, v = gv (l.drop k) 2 8 := ⟨_, rfl⟩
  obtain ⟨gn, hgn⟩ : ∃ v, v = gv (l.drop k) 10 8 := ⟨_, rfl⟩
  obtain ⟨cp, hcp⟩ : ∃ v, v = gv (l.drop k) 18 8 := ⟨_, rfl⟩
  have CC3 := RGetU (some ⟨b, o + k, none⟩) (n - k) (c - k) (l.drop k) 2 8 (by decide) w3 G3.rd (by omega) (by decide)
  rw [<- hix] at CC3
  have C3 := hi_ CC3
  have z3 := G3.r10.fz 2
  have k3 := G3.r10.at_ 2
  obtain ⟨w4, hw4⟩ : ∃ v, v = w3.setCell ⟨w.heap.size + 2, 2, none⟩ (.int .i64 ix) := ⟨_, rfl⟩
  have G4 : GS w w4 (some ⟨b, o + k, none⟩) (n - k) (l.drop k) #[.int .i64 2, .bool false, .int .i64 ix, .int .i64 0, .int .i64 0, .slice none 0 0] := by have hh := G3.set 2 (.int .i64 ix); rw [hw4]; simpa using hh
  have CC4 := RGetU (some ⟨b, o + k, none⟩) (n - k) (c - k) (l.drop k) 10 8 (by decide) w4 G4.rd (by omega) (by decide)
  rw [<- hgn] at CC4
  have C4 := hi_ CC4
  have z4 := G4.r10.fz 3
  have k4 := G4.r10.at_ 3
  obtain ⟨w5, hw5⟩ : ∃ v, v = w4.setCell ⟨w.heap.size + 2, 3, none⟩ (.int .i64 gn) := ⟨_, rfl⟩
  have G5 : GS w w5 (some ⟨b, o + k, none⟩) (n - k) (l.drop k) #[.int .i64 2, .bool false, .int .i64 ix, .int .i64 gn, .int .i64 0, .slice none 0 0] := by have hh := G4.set 3 (.int .i64 gn); rw [hw5]; simpa using hh
  have CC5 := RGetU (some ⟨b, o + k, none⟩) (n - k) (c - k) (l.drop k) 18 8 (by decide) w5 G5.rd (by omega) (by decide)
  rw [<- hcp] at CC5
  have C5 := hi_ CC5
  have z5 := G5.r10.fz 4
  have k5 := G5.r10.at_ 4
  obtain ⟨w6, hw6⟩ : ∃ v, v = w5.setCell ⟨w.heap.size + 2, 4, none⟩ (.int .i64 cp) := ⟨_, rfl⟩
  have G6 : GS w w6 (some ⟨b, o + k, none⟩) (n - k) (l.drop k) #[.int .i64 2, .bool false, .int .i64 ix, .int .i64 gn, .int .i64 cp, .slice none 0 0] := by have hh := G5.set 4 (.int .i64 cp); rw [hw6]; simpa using hh
  have kl := G4.r10.at_ 1
  have kL := G3.r10.at_ 1
  have CC6 := RGetU (some ⟨b, o + k, none⟩) (n - k) (c - k) (l.drop k) 26 2 (by decide) w6 G6.rd (by omega) (by decide)
  have en : gv (l.drop k) 26 2 = 0 := by unfold gv; rw [if_neg (by have := rd2.1; omega)]
  rw [en, decide_eq_false (by omega)] at CC6
  clear en
  have C6 := hi_ CC6
  have Hix := hi_ hix
  have Hgn := hi_ hgn
  have Hcp := hi_ hcp
  have HG3 := hi_ G3
  have HG4 := hi_ G4
  have HG5 := hi_ G5
  have HG6 := hi_ G6
  clear CC3 CC4 CC5 CC6 G3 G4 G5 G6 hix hgn hcp
  have HS1 := hi_ s1
  clear hr s1 hb1 hb12 hb2 r4 r7 rd2 h0 h1
  go_enter Tryz.func53, Tryz.ntmps53
  go_wp2_with (first
    | (rw [<- hw1]; clear hw1)
    | (rw [<- hw2, HS1.out]; clear hw2)
    | (rw [<- hw3, HS2.out]; clear hw3)
    | (go_at_call 50; have _t := C3; refine C3.out.mono ?_; rintro e w' ⟨rfl, hw'⟩; subst hw'; clear C3)
    | (rw [<- hw4]; clear hw4)
    | (go_at_call 50; have _t := C4; refine C4.out.mono ?_; rintro e w' ⟨rfl, hw'⟩; subst hw'; clear C4)
    | (rw [<- hw5]; clear hw5)
    | (go_at_call 50; have _t := C5; refine C5.out.mono ?_; rintro e w' ⟨rfl, hw'⟩; subst hw'; clear C5)
    | (rw [<- hw6]; clear hw6)
    | (go_at_call 50; have _t := C6; refine C6.out.mono ?_; rintro e w' ⟨rfl, hw'⟩; subst hw'; clear C6)
    | ((with_reducible refine wpList_ldS cdT rfl rfl (.tmp 7) rfl rfl HG6.out.r7 ?_))
    | ((with_reducible refine wpList_stS (cs' := (Cd.zero.cs none 0 0)) cdT rfl rfl (by simp [Value.oneCell']) rfl (.tmp 4) (.tmp 129) rfl rfl rfl HG6.out.r4 ?_); intro wz hRz hFz))
  refine bodyPost_ret (res_ctt rfl rfl (hRz.load cdT rfl)) rfl ?_
  exact GetE.fault 12 (HG6.out.fin hFz)
set_option maxHeartbeats 4000000 in
theorem RG_2f_long (hr : Rd w (some ⟨b, o, none⟩) n l) (hlt : b < w.heap.size) (hn : n <= 20000) (hnc : n <= c) (hk : k + 2 <= n) (h0 : w.cell? ⟨b, o + k, none⟩ = some (.int .u8 2)) (h1 : w.cell? ⟨b, o + k + 1, none⟩ = some (.int .u8 0)) (hs : k + 28 <= n) (q : Nat) (hq : gv (l.drop k) 26 2 = (q : Int)) (h64 : 64 < q) :
    Calls Tryz.prog 53 #[.slice (some ⟨b, o, none⟩) n c, .int .i64 k] w (GetL (fun y => ∃ o', (some ⟨b, o, none⟩ : Option Addr) = some ⟨y, o', none⟩) w (Cd.zero, 0, 13)) := by
  obtain ⟨w1, hw1⟩ : ∃ w1, w1 = w.alloc (.cells (Cd.zero.cs none 0 0) 61) := ⟨_, rfl⟩
  obtain ⟨w2, hw2⟩ : ∃ w2, w2 = w1.alloc (.cells (Cd.zero.cs none 0 0) 61) := ⟨_, rfl⟩
  have s1 : w1.heap.size = w.heap.size + 1 := by rw [hw1]; simp
  have hb1 : Below w.heap.size w w1 := by rw [hw1]; exact (Below.refl _ _).alloc (Nat.le_refl _) _
  have hb12 : Below w1.heap.size w1 w2 := by rw [hw2]; exact (Below.refl _ _).alloc (Nat.le_refl _) _
  have hb2 : Below w.heap.size w w2 := hb1.trans (hb12.mono hb1.size)
  have r4 : Rec 61 w2 w.heap.size (Cd.zero.cs none 0 0) := (show Rec 61 w1 w.heap.size (Cd.zero.cs none 0 0) by rw [hw1]; exact Rec.new w _ _).under hb12
  have r7 : Rec 61 w2 (w.heap.size + 1) (Cd.zero.cs none 0 0) := by rw [<- s1, hw2]; exact Rec.new w1 _ _
  have hck : ¬ k = c := by omega
  have q0 : w2.cell? ⟨b, o + k, none⟩ = some (.int .u8 2) := (hb2.cell (p := ⟨b, o + k, none⟩) hlt).trans h0
  have q1 : w2.cell? ⟨b, o + k + 1, none⟩ = some (.int .u8 0) := (hb2.cell (p := ⟨b, o + k + 1, none⟩) hlt).trans h1
  have rd2 : Rd w2 (some ⟨b, o + k, none⟩) (n - k) (l.drop k) := by
    have h := (hr.below (Nat.le_refl _) hb2).part (lo := k) (m := n - k) (by omega) (some ⟨b, o + k, none⟩) (fun _ b' o' e => by injection e with e; injection e with e1 e2; rw [e1, e2])
    rw [List.take_of_length_le (by have := hr.1; simp; omega)] at h
    exact h
  obtain ⟨w3, hw3⟩ : ∃ w3, w3 = w2.alloc (.cells #[.int .i64 2, .bool false, .int .i64 0, .int .i64 0, .int .i64 0, .slice none 0 0] 61) := ⟨_, rfl⟩
  have s2 : w2.heap.size = w.heap.size + 2 := by rw [hw2]; simp [s1]
  have hb23 : Below w2.heap.size w2 w3 := by rw [hw3]; exact (Below.refl _ _).alloc (Nat.le_refl _) _
  have G3 : GS w w3 (some ⟨b, o + k, none⟩) (n - k) (l.drop k) #[.int .i64 2, .bool false, .int .i64 0, .int .i64 0, .int .i64 0, .slice none 0 0] := ⟨r4.under hb23, r7.under hb23, by rw [<- s2, hw3]; exact Rec.new w2 _ _, rd2.below (Nat.le_refl _) hb23, (fun b' o' e _ => by injection e with e; injection e with e1 e2; omega), hb2.trans (hb23.mono hb2.size)⟩
  have HS2 := hi_ s2
  clear s2 hb23
  obtain ⟨ix, hix⟩ : ∃ v, v = gv (l.drop k) 2 8 := ⟨_, rfl⟩
  obtain ⟨gn, hgn⟩ : ∃ v, v = gv (l.drop k) 10 8 := ⟨_, rfl⟩
  obtain ⟨cp, hcp⟩ : ∃ v, v = gv (l.drop k) 18 8 := ⟨_, rfl⟩
  have CC3 := RGetU (some ⟨b, o + k, none⟩) (n - k) (c - k) (l.drop k) 2 8 (by decide) w3 G3.rd (by omega) (by decide)
  rw [<- hix] at CC3
  have C3 := hi_ CC3
  have z3 := G3.r10.fz 2
  have k3 := G3.r10.at_ 2
  obtain ⟨w4, hw4⟩ : ∃ v, v = w3.setCell ⟨w.heap.size + 2, 2, none⟩ (.int .i64 ix) := ⟨_, rfl⟩
  have G4 : GS w w4 (some ⟨b, o + k, none⟩) (n - k) (l.drop k) #[.int .i64 2, .bool false, .int .i64 ix, .int .i64 0, .int .i64 0, .slice none 0 0] := by have hh := G3.set 2 (.int .i64 ix); rw [hw4]; simpa using hh
  have CC4 := RGetU (some ⟨b, o + k, none⟩) (n - k) (c - k) (l.drop k) 10 8 (by decide) w4 G4.rd (by omega) (by decide)
  rw [<- hgn] at CC4
  have C4 := hi_ CC4
  have z4 := G4.r10.fz 3
  have k4 := G4.r10.at_ 3
  obtain ⟨w5, hw5⟩ : ∃ v, v = w4.setCell ⟨w.heap.size + 2, 3, none⟩ (.int .i64 gn) := ⟨_, rfl⟩
  have G5 : GS w w5 (some ⟨b, o + k, none⟩) (n - k) (l.drop k) #[.int .i64 2, .bool false, .int .i64 ix, .int .i64 gn, .int .i64 0, .slice none 0 0] := by have hh := G4.set 3 (.int .i64 gn); rw [hw5]; simpa using hh
  have CC5 := RGetU (some ⟨b, o + k, none⟩) (n - k) (c - k) (l.drop k) 18 8 (by decide) w5 G5.rd (by omega) (by decide)
  rw [<- hcp] at CC5
  have C5 := hi_ CC5
  have z5 := G5.r10.fz 4
  have k5 := G5.r10.at_ 4
  obtain ⟨w6, hw6⟩ : ∃ v, v = w5.setCell ⟨w.heap.size + 2, 4, none⟩ (.int .i64 cp) := ⟨_, rfl⟩
  have G6 : GS w w6 (some ⟨b, o + k, none⟩) (n - k) (l.drop k) #[.int .i64 2, .bool false, .int .i64 ix, .int .i64 gn, .int .i64 cp, .slice none 0 0] := by have hh := G5.set 4 (.int .i64 cp); rw [hw6]; simpa using hh
  have kl := G4.r10.at_ 1
  have kL := G3.r10.at_ 1
  have CC6 := RGetU (some ⟨b, o + k, none⟩) (n - k) (c - k) (l.drop k) 26 2 (by decide) w6 G6.rd (by omega) (by decide)
  rw [hq, decide_eq_true (by omega)] at CC6
  have C6 := hi_ CC6
  have Hix := hi_ hix
  have Hgn := hi_ hgn
  have Hcp := hi_ hcp
  have HG3 := hi_ G3
  have HG4 := hi_ G4
  have HG5 := hi_ G5
  have HG6 := hi_ G6
  clear CC3 CC4 CC5 CC6 G3 G4 G5 G6 hix hgn hcp
  clear hq
  have HS1 := hi_ s1
  clear hr s1 hb1 hb12 hb2 r4 r7 rd2 h0 h1
  go_enter Tryz.func53, Tryz.ntmps53
  go_wp2_with (first
    | (rw [<- hw1]; clear hw1)
    | (rw [<- hw2, HS1.out]; clear hw2)
    | (rw [<- hw3, HS2.out]; clear hw3)
    | (go_at_call 50; have _t := C3; refine C3.out.mono ?_; rintro e w' ⟨rfl, hw'⟩; subst hw'; clear C3)
    | (rw [<- hw4]; clear hw4)
    | (go_at_call 50; have _t := C4; refine C4.out.mono ?_; rintro e w' ⟨rfl, hw'⟩; subst hw'; clear C4)
    | (rw [<- hw5]; clear hw5)
    | (go_at_call 50; have _t := C5; refine C5.out.mono ?_; rintro e w' ⟨rfl, hw'⟩; subst hw'; clear C5)
    | (rw [<- hw6]; clear hw6)
    | (go_at_call 50; have _t := C6; refine C6.out.mono ?_; rintro e w' ⟨rfl, hw'⟩; subst hw'; clear C6)
    | ((with_reducible refine wpList_ldS cdT rfl rfl (.tmp 7) rfl rfl HG6.out.r7 ?_))
    | ((with_reducible refine wpList_stS (cs' := (Cd.zero.cs none 0 0)) cdT rfl rfl (by simp [Value.oneCell']) rfl (.tmp 4) (.tmp 105) rfl rfl rfl HG6.out.r4 ?_); intro wz hRz hFz))
  refine bodyPost_ret (res_ctt rfl rfl (hRz.load cdT rfl)) rfl ?_
  exact GetE.fault 13 (HG6.out.fin hFz)
set_option maxHeartbeats 4000000 in
theorem RG_2f_short (hr : Rd w (some ⟨b, o, none⟩) n l) (hlt : b < w.heap.size) (hn : n <= 20000) (hnc : n <= c) (hk : k + 2 <= n) (h0 : w.cell? ⟨b, o + k, none⟩ = some (.int .u8 2)) (h1 : w.cell? ⟨b, o + k + 1, none⟩ = some (.int .u8 0)) (hs : k + 28 <= n) (q : Nat) (hq : gv (l.drop k) 26 2 = (q : Int)) (h64 : q <= 64) (hs2 : n < k + 28 + q) :
    Calls Tryz.prog 53 #[.slice (some ⟨b, o, none⟩) n c, .int .i64 k] w (GetL (fun y => ∃ o', (some ⟨b, o, none⟩ : Option Addr) = some ⟨y, o', none⟩) w (Cd.zero, 0, 12)) := by
  obtain ⟨w1, hw1⟩ : ∃ w1, w1 = w.alloc (.cells (Cd.zero.cs none 0 0) 61) := ⟨_, rfl⟩
  obtain ⟨w2, hw2⟩ : ∃ w2, w2 = w1.alloc (.cells (Cd.zero.cs none 0 0) 61) := ⟨_, rfl⟩
  have s1 : w1.heap.size = w.heap.size + 1 := by rw [hw1]; simp
  have hb1 : Below w.heap.size w w1 := by rw [hw1]; exact (Below.refl _ _).alloc (Nat.le_refl _) _
  have hb12 : Below w1.heap.size w1 w2 := by rw [hw2]; exact (Below.refl _ _).alloc (Nat.le_refl _) _
  have hb2 : Below w.heap.size w w2 := hb1.trans (hb12.mono hb1.size)
  have r4 : Rec 61 w2 w.heap.size (Cd.zero.cs none 0 0) := (show Rec 61 w1 w.heap.size (Cd.zero.cs none 0 0) by rw [hw1]; exact Rec.new w _ _).under hb12
  have r7 : Rec 61 w2 (w.heap.size + 1) (Cd.zero.cs none 0 0) := by rw [<- s1, hw2]; exact Rec.new w1 _ _
  have hck : ¬ k = c := by omega
  have q0 : w2.cell? ⟨b, o + k, none⟩ = some (.int .u8 2) := (hb2.cell (p := ⟨b, o + k, none⟩) hlt).trans h0
  have q1 : w2.cell? ⟨b, o + k + 1, none⟩ = some (.int .u8 0) := (hb2.cell (p := ⟨b, o + k + 1, none⟩) hlt).trans h1
  have rd2 : Rd w2 (some ⟨b, o + k, none⟩) (n - k) (l.drop k) := by
    have h := (hr.below (Nat.le_refl _) hb2).part (lo := k) (m := n - k) (by omega) (some ⟨b, o + k, none⟩) (fun _ b' o' e => by injection e with e; injection e with e1 e2; rw [e1, e2])
    rw [List.take_of_length_le (by have := hr.1; simp; omega)] at h
    exact h
  obtain ⟨w3, hw3⟩ : ∃ w3, w3 = w2.alloc (.cells #[.int .i64 2, .bool false, .int .i64 0, .int .i64 0, .int .i64 0, .slice none 0 0] 61) := ⟨_, rfl⟩
  have s2 : w2.heap.size = w.heap.size + 2 := by rw [hw2]; simp [s1]
  have hb23 : Below w2.heap.size w2 w3 := by rw [hw3]; exact (Below.refl _ _).alloc (Nat.le_refl _) _
  have G3 : GS w w3 (some ⟨b, o + k, none⟩) (n - k) (l.drop k) #[.int .i64 2, .bool false, .int .i64 0, .int .i64 0, .int .i64 0, .slice none 0 0] := ⟨r4.under hb23, r7.under hb23, by rw [<- s2, hw3]; exact Rec.new w2 _ _, rd2.below (Nat.le_refl _) hb23, (fun b' o' e _ => by injection e with e; injection e with e1 e2; omega), hb2.trans (hb23.mono hb2.size)⟩
  have HS2 := hi_ s2
  clear s2 hb23
  obtain ⟨ix, hix⟩ : ∃ v, v = gv (l.drop k) 2 8 := ⟨_, rfl⟩
  obtain ⟨gn, hgn⟩ : ∃ v, v = gv (l.drop k) 10 8 := ⟨_, rfl⟩
  obtain ⟨cp, hcp⟩ : ∃ v, v = gv (l.drop k) 18 8 := ⟨_, rfl⟩
  have CC3 := RGetU (some ⟨b, o + k, none⟩) (n - k) (c - k) (l.drop k) 2 8 (by decide) w3 G3.rd (by omega) (by decide)
  rw [<- hix] at CC3
  have C3 := hi_ CC3
  have z3 := G3.r10.fz 2
  have k3 := G3.r10.at_ 2
  obtain ⟨w4, hw4⟩ : ∃ v, v = w3.setCell ⟨w.heap.size + 2, 2, none⟩ (.int .i64 ix) := ⟨_, rfl⟩
  have G4 : GS w w4 (some ⟨b, o + k, none⟩) (n - k) (l.drop k) #[.int .i64 2, .bool false, .int .i64 ix, .int .i64 0, .int .i64 0, .slice none 0 0] := by have hh := G3.set 2 (.int .i64 ix); rw [hw4]; simpa using hh
  have CC4 := RGetU (some ⟨b, o + k, none⟩) (n - k) (c - k) (l.drop k) 10 8 (by decide) w4 G4.rd (by omega) (by decide)
  rw [<- hgn] at CC4
  have C4 := hi_ CC4
  have z4 := G4.r10.fz 3
  have k4 := G4.r10.at_ 3
  obtain ⟨w5, hw5⟩ : ∃ v, v = w4.setCell ⟨w.heap.size + 2, 3, none⟩ (.int .i64 gn) := ⟨_, rfl⟩
  have G5 : GS w w5 (some ⟨b, o + k, none⟩) (n - k) (l.drop k) #[.int .i64 2, .bool false, .int .i64 ix, .int .i64 gn, .int .i64 0, .slice none 0 0] := by have hh := G4.set 3 (.int .i64 gn); rw [hw5]; simpa using hh
  have CC5 := RGetU (some ⟨b, o + k, none⟩) (n - k) (c - k) (l.drop k) 18 8 (by decide) w5 G5.rd (by omega) (by decide)
  rw [<- hcp] at CC5
  have C5 := hi_ CC5
  have z5 := G5.r10.fz 4
  have k5 := G5.r10.at_ 4
  obtain ⟨w6, hw6⟩ : ∃ v, v = w5.setCell ⟨w.heap.size + 2, 4, none⟩ (.int .i64 cp) := ⟨_, rfl⟩
  have G6 : GS w w6 (some ⟨b, o + k, none⟩) (n - k) (l.drop k) #[.int .i64 2, .bool false, .int .i64 ix, .int .i64 gn, .int .i64 cp, .slice none 0 0] := by have hh := G5.set 4 (.int .i64 cp); rw [hw6]; simpa using hh
  have kl := G4.r10.at_ 1
  have kL := G3.r10.at_ 1
  have CC6 := RGetU (some ⟨b, o + k, none⟩) (n - k) (c - k) (l.drop k) 26 2 (by decide) w6 G6.rd (by omega) (by decide)
  rw [hq, decide_eq_true (by omega)] at CC6
  have C6 := hi_ CC6
  have Hix := hi_ hix
  have Hgn := hi_ hgn
  have Hcp := hi_ hcp
  have HG3 := hi_ G3
  have HG4 := hi_ G4
  have HG5 := hi_ G5
  have HG6 := hi_ G6
  clear CC3 CC4 CC5 CC6 G3 G4 G5 G6 hix hgn hcp
  clear hq
  have HS1 := hi_ s1
  clear hr s1 hb1 hb12 hb2 r4 r7 rd2 h0 h1
  go_enter Tryz.func53, Tryz.ntmps53
  go_wp2_with (first
    | (rw [<- hw1]; clear hw1)
    | (rw [<- hw2, HS1.out]; clear hw2)
    | (rw [<- hw3, HS2.out]; clear hw3)
    | (go_at_call 50; have _t := C3; refine C3.out.mono ?_; rintro e w' ⟨rfl, hw'⟩; subst hw'; clear C3)
    | (rw [<- hw4]; clear hw4)
    | (go_at_call 50; have _t := C4; refine C4.out.mono ?_; rintro e w' ⟨rfl, hw'⟩; subst hw'; clear C4)
    | (rw [<- hw5]; clear hw5)
    | (go_at_call 50; have _t := C5; refine C5.out.mono ?_; rintro e w' ⟨rfl, hw'⟩; subst hw'; clear C5)
    | (rw [<- hw6]; clear hw6)
    | (go_at_call 50; have _t := C6; refine C6.out.mono ?_; rintro e w' ⟨rfl, hw'⟩; subst hw'; clear C6)
    | ((with_reducible refine wpList_ldS cdT rfl rfl (.tmp 7) rfl rfl HG6.out.r7 ?_))
    | ((with_reducible refine wpList_stS (cs' := (Cd.zero.cs none 0 0)) cdT rfl rfl (by simp [Value.oneCell']) rfl (.tmp 4) (.tmp 129) rfl rfl rfl HG6.out.r4 ?_); intro wz hRz hFz))
  refine bodyPost_ret (res_ctt rfl rfl (hRz.load cdT rfl)) rfl ?_
  exact GetE.fault 12 (HG6.out.fin hFz)
end
end Go.Proofs.YthabmlbmlncbmaaGreat
