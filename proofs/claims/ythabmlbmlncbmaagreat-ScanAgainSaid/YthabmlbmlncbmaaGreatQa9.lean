/- CdR -/
import Derived.Test.YthabmlbmlncbmaaGreatQa1
import Derived.Test.YthabmlbmlncbmaaGreatQa6
namespace Go.Proofs.YthabmlbmlncbmaaGreat
open Go.RowKit
set_option linter.unusedVariables false
set_option maxRecDepth 20000
structure RdS (w0 W : World) (N p : Nat) (st : RS) (g2 g4 g5 : Nat) (tv cs : Array Value) : Prop where
  rd : RdrIs N W p st
  r2 : Rec 61 W g2 (Cd.zero.cs none 0 0)
  r4 : Rec 61 W g4 cs
  t5 : Rec 139 W g5 tv
  fr : Fr (· = p) w0 W
  hp : p < N
  hN : N <= w0.heap.size
  h2 : w0.heap.size <= g2
  h24 : g2 < g4
  h45 : g4 < g5
section
variable {w0 W W' : World} {N p : Nat} {st st' : RS} {g2 g4 g5 : Nat} {tv cs : Array Value}
theorem RdS.num (h : RdS w0 W N p st g2 g4 g5 tv cs) (hr : RdrIs N W' p st') (hf : Fr (· = p) W W') : RdS w0 W' N p st' g2 g4 g5 tv cs :=
  have h1 := h.hp; have h2 := h.hN; have h3 := h.h2; have h4 := h.h24; have h5 := h.h45
  ⟨hr, h.r2.fr hf (by omega), h.r4.fr hf (by omega), h.t5.fr hf (by omega), h.fr.trans hf, h.hp, h.hN, h.h2, h.h24, h.h45⟩
theorem RdS.set (h : RdS w0 W N p st g2 g4 g5 tv cs) (i : Nat) (v : Value) : RdS w0 (W.setCell ⟨g4, i, none⟩ v) N p st g2 g4 g5 tv (cs.setIfInBounds i v) :=
  have h1 := h.hp; have h2 := h.hN; have h3 := h.h2; have h4 := h.h24; have h5 := h.h45
  have hf : Fr (· = g4) W (W.setCell ⟨g4, i, none⟩ v) := Fr.setCell W (own := (· = g4)) (p := ⟨g4, i, none⟩) rfl v
  ⟨h.rd.stay (B := g4) (by omega) (hf.toBelow (fun y hy => by have : y = g4 := hy; omega) (Nat.le_of_lt h.r4.lt)), h.r2.fr hf (by omega), h.r4.set i v, h.t5.fr hf (by omega),
   h.fr.trans' hf (fun y hy => .inr (by have : y = g4 := hy; omega)), h.hp, h.hN, h.h2, h.h24, h.h45⟩
theorem RdS.fin (h : RdS w0 W N p st g2 g4 g5 tv cs) (hf : Fr (· = g2) W W') : RdrIs N W' p st /\ Fr (· = p) w0 W' :=
  have h1 := h.hp; have h2 := h.hN; have h3 := h.h2
  ⟨h.rd.stay (B := g2) (by omega) (hf.toBelow (fun y hy => by have : y = g2 := hy; omega) (Nat.le_of_lt h.r2.lt)), h.fr.trans' hf (fun y hy => .inr (by have : y = g2 := hy; omega))⟩
def ReadE (N p : Nat) (w : World) (r : Cd × Int × RS) (e : Ending) (w' : World) : Prop :=
  ∃ (y : Cd) (A : Option Addr) (n c : Nat), e = .returned (.tuple #[.agg (y.cs A n c), .int .i64 r.2.1]) /\ (r.2.1 = 0 -> y = r.1 /\ Rd w' A n y.dt /\ n <= c /\ ∀ b o, A = some ⟨b, o, none⟩ -> 0 < n -> w.heap.size <= b) /\ RdrIs N w' p r.2.2 /\ Fr (· = p) w w'
theorem ReadE.fault {w w' : World} {er : Int} {x : Cd} (y : Cd) (A : Option Addr) (n c : Nat) (h : RdrIs N w' p st /\ Fr (· = p) w w') (he : er ≠ 0) : ReadE N p w (x, er, st) (.returned (.tuple #[.agg (y.cs A n c), .int .i64 er])) w' :=
  ⟨y, A, n, c, rfl, fun e => absurd e he, h.1, h.2⟩
theorem ReadE.miss {w w' : World} {x : Cd} {l : List UInt8} (y : Cd) (A : Option Addr) (n c : Nat) (h : RdrIs N w' p (l, true) /\ Fr (· = p) w w') : ReadE N p w (rdFin x (l, true)) (.returned (.tuple #[.agg (y.cs A n c), .int .i64 12])) w' := by
  rw [rdFin_off]
  exact ReadE.fault y A n c h (by decide)
theorem ReadE.good {w w' : World} {x : Cd} {l : List UInt8} (A : Option Addr) (n c : Nat) (h : RdrIs N w' p (l, false) /\ Fr (· = p) w w') (hr : Rd w' A n x.dt) (hc : n <= c) (hlo : ∀ b o, A = some ⟨b, o, none⟩ -> 0 < n -> w.heap.size <= b) : ReadE N p w (rdFin x (l, false)) (.returned (.tuple #[.agg (x.cs A n c), .int .i64 0])) w' := by
  rw [rdFin_on]
  exact ⟨x, A, n, c, rfl, fun _ => ⟨rfl, hr, hc, hlo⟩, h.1, h.2⟩
end
section
variable {N p : Nat} {st : RS} {w : World}
set_option maxHeartbeats 4000000 in
theorem read_o (d : Int) (st1 : RS) (h : RdrIs N w p st) (hN : N <= w.heap.size) (hq1 : rdNum 1 st = (d, st1)) (hd : d < 0 \/ 3 < d) :
    Calls Tryz.prog 95 #[.pointer (some ⟨p, 0, none⟩)] w (ReadE N p w (Cd.zero, 11, st1)) := by
  obtain ⟨w1, hw1⟩ : ∃ w1, w1 = w.alloc (.cells (Cd.zero.cs none 0 0) 61) := ⟨_, rfl⟩
  have hb1 : Below w.heap.size w w1 := by rw [hw1]; exact (Below.refl _ _).alloc (Nat.le_refl _) _
  have r1 : Rec 61 w1 w.heap.size (Cd.zero.cs none 0 0) := by rw [hw1]; exact Rec.new w _ _
  have hp : p < N := by obtain ⟨_, _, _, _, _, _, _, _, hp, _⟩ := h; exact hp
  have q1 := RNumK_any (h.below hb1) 1 (by decide)
  rw [hq1] at q1
  have C1 := hi_ q1
  have H1 := hi_ (And.intro r1 (And.intro hb1 (And.intro hp hN)))
  have HV : Hid (∀ W, Calls Tryz.prog 100 #[.int .i64 d] W fun e w' => e = .returned (.tuple #[.agg #[.bool false, .bool false, .bool false], .bool false]) /\ Below W.heap.size W w') := hi_ (fun W => (has_any d W).mono fun e w' hp => by
    have hp' := hp
    unfold HasP hasV hasB at hp'
    rw [decide_eq_false (show ¬ (1 <= d /\ d <= 3) by omega), decide_eq_false (show ¬ (2 <= d /\ d <= 3) by omega), decide_eq_false (show ¬ d = 2 by omega), decide_eq_false (show ¬ (0 <= d /\ d <= 3) by omega)] at hp'
    exact hp')
  clear h hN hb1 r1 hp q1 hq1 hd
  go_enter Tryz.func95, Tryz.ntmps95
  go_wp2_with (first
    | (rw [<- hw1]; clear hw1)
    | (go_at_call 99; have _t := C1; refine C1.out.mono ?_; rintro e w2 ⟨rfl, hr2, hf2⟩
       obtain ⟨w3, hw3⟩ : ∃ w3, w3 = w2.alloc (.cells (Cd.zero.cs none 0 0) 61) := ⟨_, rfl⟩
       have R3 := hi_ (show Rec 61 w3 w2.heap.size (Cd.zero.cs none 0 0) by rw [hw3]; exact Rec.new w2 _ _)
       have B3 := hi_ (show Below w2.heap.size w2 w3 by rw [hw3]; exact (Below.refl _ _).alloc (Nat.le_refl _) _)
       have H2 := hi_ (And.intro hr2 (And.intro hf2 (H1.out.1.fr hf2 (by have := H1.out.2.2; omega))))
       clear hr2 hf2 C1)
    | (rw [<- hw3]; clear hw3)
    | ((with_reducible refine wpList_stS (cs' := #[.int .i64 d, .bool false, .int .i64 0, .int .i64 0, .int .i64 0, .slice none 0 0]) cdT rfl rfl (by simp [Value.oneCell']) rfl (.tmp 4) (.tmp 11) rfl rfl rfl R3.out ?_); intro w4 hR4 hF4
       have b4 : Below w2.heap.size w2 w4 := B3.out.trans (hF4.toBelow (fun y hy => by have : y = w2.heap.size := hy; omega) B3.out.size)
       have q40 := hR4.at_ 0
       have H4 := hi_ (And.intro hR4 b4)
       clear hR4 hF4 b4 R3 B3)
    | (go_at_call 100; refine (HV.out w4).mono ?_; rintro e w5 ⟨rfl, hb5⟩
       obtain ⟨w6, hw6⟩ : ∃ w6, w6 = w5.alloc (.cells #[.bool false, .bool false, .bool false] 139) := ⟨_, rfl⟩
       have T6 := hi_ (show Rec 139 w6 w5.heap.size #[.bool false, .bool false, .bool false] by rw [hw6]; exact Rec.new w5 _ _)
       have B6 := hi_ (show Below w5.heap.size w5 w6 by rw [hw6]; exact (Below.refl _ _).alloc (Nat.le_refl _) _)
       have B5 := hi_ hb5
       clear hb5 q40)
    | (rw [<- hw6]; clear hw6)
    | ((with_reducible refine wpList_stS (cs' := #[.bool false, .bool false, .bool false]) trT rfl rfl (by simp [Value.oneCell']) rfl (.tmp 5) (.tmp 16) rfl rfl rfl T6.out ?_); intro w7 hR7 hF7
       have b57 : Below w5.heap.size w5 w7 := B6.out.trans (hF7.toBelow (fun y hy => by have : y = w5.heap.size := hy; omega) B6.out.size)
       have b47 : Below w4.heap.size w4 w7 := B5.out.trans (b57.mono B5.out.size)
       have b27 : Below w2.heap.size w2 w7 := H4.out.2.trans (b47.mono H4.out.2.size)
       have l4 := H4.out.1.lt
       have l1 := H1.out.1.lt
       have H7 := hi_ (show RdS w w7 N p st1 w.heap.size w2.heap.size w5.heap.size #[.bool false, .bool false, .bool false] #[.int .i64 d, .bool false, .int .i64 0, .int .i64 0, .int .i64 0, .slice none 0 0] from
         ⟨H2.out.1.below b27, H2.out.2.2.under b27, H4.out.1.under b47, hR7, (Fr.ofBelow _ H1.out.2.1).trans' (H2.out.2.1.trans (Fr.ofBelow _ b27)) (fun _ hx => .inl hx), H1.out.2.2.1, H1.out.2.2.2, Nat.le_refl _, by have := H2.out.2.1.size; omega, by have := B5.out.size; omega⟩)
       have t0 := H7.out.t5.at_ 0
       obtain ⟨g4, hg4⟩ : ∃ g4, g4 = w2.heap.size := ⟨_, rfl⟩
       obtain ⟨g5, hg5⟩ : ∃ g5, g5 = w5.heap.size := ⟨_, rfl⟩
       rw [<- hg4, <- hg5] at H7
       rw [<- hg5] at t0
       simp only [<- hg4, <- hg5]
       clear hR7 hF7 b57 b47 b27 l4 l1 H2 H4 T6 B6 hg4 hg5)
    | ((with_reducible refine wpList_ldS cdT rfl rfl (.tmp 4) rfl rfl H7.out.r4 ?_))
    | ((with_reducible refine wpList_stS (cs' := #[.int .i64 d, .bool false, .int .i64 0, .int .i64 0, .int .i64 0, .slice none 0 0]) cdT rfl rfl (by simp [Value.oneCell']) rfl (.tmp 2) (.tmp 20) rfl rfl rfl H7.out.r2 ?_); intro wz hRz hFz))
  refine bodyPost_ret (res_ct rfl rfl (hRz.load cdT rfl)) rfl ?_
  exact ReadE.fault ⟨d, false, 0, 0, 0, []⟩ none 0 0 (H7.out.fin hFz) (by decide)
set_option maxHeartbeats 4000000 in
theorem read_0 (st1 : RS) (h : RdrIs N w p st) (hN : N <= w.heap.size) (hq1 : rdNum 1 st = (0, st1)) :
    Calls Tryz.prog 95 #[.pointer (some ⟨p, 0, none⟩)] w (ReadE N p w (rdFin ⟨0, false, 0, 0, 0, []⟩ st1)) := by
  obtain ⟨w1, hw1⟩ : ∃ w1, w1 = w.alloc (.cells (Cd.zero.cs none 0 0) 61) := ⟨_, rfl⟩
  have hb1 : Below w.heap.size w w1 := by rw [hw1]; exact (Below.refl _ _).alloc (Nat.le_refl _) _
  have r1 : Rec 61 w1 w.heap.size (Cd.zero.cs none 0 0) := by rw [hw1]; exact Rec.new w _ _
  have hp : p < N := by obtain ⟨_, _, _, _, _, _, _, _, hp, _⟩ := h; exact hp
  have q1 := RNumK_any (h.below hb1) 1 (by decide)
  rw [hq1] at q1
  have C1 := hi_ q1
  have H1 := hi_ (And.intro r1 (And.intro hb1 (And.intro hp hN)))
  have HV : Hid (∀ W, Calls Tryz.prog 100 #[.int .i64 0] W fun e w' => e = .returned (.tuple #[.agg #[.bool false, .bool false, .bool false], .bool true]) /\ Below W.heap.size W w') := hi_ (fun W => (has_any 0 W).mono fun e w' hp => by simpa [HasP, hasV, hasB] using hp)
  clear h hN hb1 r1 hp q1 hq1
  obtain ⟨ll, mm⟩ := st1
  cases mm
  all_goals
    go_enter Tryz.func95, Tryz.ntmps95
    go_wp2_with (first
      | (rw [<- hw1]; clear hw1)
      | (go_at_call 99; have _t := C1; refine C1.out.mono ?_; rintro e w2 ⟨rfl, hr2, hf2⟩
         obtain ⟨w3, hw3⟩ : ∃ w3, w3 = w2.alloc (.cells (Cd.zero.cs none 0 0) 61) := ⟨_, rfl⟩
         have R3 := hi_ (show Rec 61 w3 w2.heap.size (Cd.zero.cs none 0 0) by rw [hw3]; exact Rec.new w2 _ _)
         have B3 := hi_ (show Below w2.heap.size w2 w3 by rw [hw3]; exact (Below.refl _ _).alloc (Nat.le_refl _) _)
         have H2 := hi_ (And.intro hr2 (And.intro hf2 (H1.out.1.fr hf2 (by have := H1.out.2.2; omega))))
         clear hr2 hf2 C1)
      | (rw [<- hw3]; clear hw3)
      | ((with_reducible refine wpList_stS (cs' := #[.int .i64 0, .bool false, .int .i64 0, .int .i64 0, .int .i64 0, .slice none 0 0]) cdT rfl rfl (by simp [Value.oneCell']) rfl (.tmp 4) (.tmp 11) rfl rfl rfl R3.out ?_); intro w4 hR4 hF4
         have b4 : Below w2.heap.size w2 w4 := B3.out.trans (hF4.toBelow (fun y hy => by have : y = w2.heap.size := hy; omega) B3.out.size)
         have q40 := hR4.at_ 0
         have H4 := hi_ (And.intro hR4 b4)
         clear hR4 hF4 b4 R3 B3)
      | (go_at_call 100; refine (HV.out w4).mono ?_; rintro e w5 ⟨rfl, hb5⟩
         obtain ⟨w6, hw6⟩ : ∃ w6, w6 = w5.alloc (.cells #[.bool false, .bool false, .bool false] 139) := ⟨_, rfl⟩
         have T6 := hi_ (show Rec 139 w6 w5.heap.size #[.bool false, .bool false, .bool false] by rw [hw6]; exact Rec.new w5 _ _)
         have B6 := hi_ (show Below w5.heap.size w5 w6 by rw [hw6]; exact (Below.refl _ _).alloc (Nat.le_refl _) _)
         have B5 := hi_ hb5
         clear hb5 q40)
      | (rw [<- hw6]; clear hw6)
      | ((with_reducible refine wpList_stS (cs' := #[.bool false, .bool false, .bool false]) trT rfl rfl (by simp [Value.oneCell']) rfl (.tmp 5) (.tmp 16) rfl rfl rfl T6.out ?_); intro w7 hR7 hF7
         have b57 : Below w5.heap.size w5 w7 := B6.out.trans (hF7.toBelow (fun y hy => by have : y = w5.heap.size := hy; omega) B6.out.size)
         have b47 : Below w4.heap.size w4 w7 := B5.out.trans (b57.mono B5.out.size)
         have b27 : Below w2.heap.size w2 w7 := H4.out.2.trans (b47.mono H4.out.2.size)
         have l4 := H4.out.1.lt
         have l1 := H1.out.1.lt
         have H7 := hi_ (show RdS w w7 N p _ w.heap.size w2.heap.size w5.heap.size #[.bool false, .bool false, .bool false] #[.int .i64 0, .bool false, .int .i64 0, .int .i64 0, .int .i64 0, .slice none 0 0] from
           ⟨H2.out.1.below b27, H2.out.2.2.under b27, H4.out.1.under b47, hR7, (Fr.ofBelow _ H1.out.2.1).trans' (H2.out.2.1.trans (Fr.ofBelow _ b27)) (fun _ hx => .inl hx), H1.out.2.2.1, H1.out.2.2.2, Nat.le_refl _, by have := H2.out.2.1.size; omega, by have := B5.out.size; omega⟩)
         have t0 := H7.out.t5.at_ 0
         obtain ⟨g4, hg4⟩ : ∃ g4, g4 = w2.heap.size := ⟨_, rfl⟩
         obtain ⟨g5, hg5⟩ : ∃ g5, g5 = w5.heap.size := ⟨_, rfl⟩
         rw [<- hg4, <- hg5] at H7
         rw [<- hg5] at t0
         simp only [<- hg4, <- hg5]
         have t1 := H7.out.t5.at_ 1
         have t2 := H7.out.t5.at_ 2
         clear hR7 hF7 b57 b47 b27 l4 l1 H2 H4 T6 B6 hg4 hg5)
      | (go_at_call 102; refine (OK_any H7.out.rd).mono ?_; rintro e w' ⟨rfl, rfl⟩)
      | ((with_reducible refine wpList_ldS cdT rfl rfl (.tmp 4) rfl rfl H7.out.r4 ?_))
      | ((with_reducible refine wpList_stS (cs' := #[.int .i64 0, .bool false, .int .i64 0, .int .i64 0, .int .i64 0, .slice none 0 0]) cdT rfl rfl (by simp [Value.oneCell']) rfl (.tmp 2) (.tmp 61) rfl rfl rfl H7.out.r2 ?_); intro wz hRz hFz)
      | ((with_reducible refine wpList_stS (cs' := #[.int .i64 0, .bool false, .int .i64 0, .int .i64 0, .int .i64 0, .slice none 0 0]) cdT rfl rfl (by simp [Value.oneCell']) rfl (.tmp 2) (.tmp 62) rfl rfl rfl H7.out.r2 ?_); intro wz hRz hFz))
    refine bodyPost_ret (res_ct rfl rfl (hRz.load cdT rfl)) rfl ?_
    first
      | exact ReadE.good (x := ⟨0, false, 0, 0, 0, []⟩) none 0 0 (H7.out.fin hFz) (Rd.nil _ _) (Nat.le_refl _) (fun _ _ e => by cases e)
      | exact ReadE.miss ⟨0, false, 0, 0, 0, []⟩ none 0 0 (H7.out.fin hFz)
set_option maxHeartbeats 4000000 in
theorem read_1x (st1 : RS) (st2 : RS) (b : Int) (h : RdrIs N w p st) (hN : N <= w.heap.size) (hq1 : rdNum 1 st = (1, st1)) (hq2 : rdNum 1 st1 = (b, st2)) (hb : 1 < b) :
    Calls Tryz.prog 95 #[.pointer (some ⟨p, 0, none⟩)] w (ReadE N p w (Cd.zero, 11, st2)) := by
  obtain ⟨w1, hw1⟩ : ∃ w1, w1 = w.alloc (.cells (Cd.zero.cs none 0 0) 61) := ⟨_, rfl⟩
  have hb1 : Below w.heap.size w w1 := by rw [hw1]; exact (Below.refl _ _).alloc (Nat.le_refl _) _
  have r1 : Rec 61 w1 w.heap.size (Cd.zero.cs none 0 0) := by rw [hw1]; exact Rec.new w _ _
  have hp : p < N := by obtain ⟨_, _, _, _, _, _, _, _, hp, _⟩ := h; exact hp
  have q1 := RNumK_any (h.below hb1) 1 (by decide)
  rw [hq1] at q1
  have C1 := hi_ q1
  have H1 := hi_ (And.intro r1 (And.intro hb1 (And.intro hp hN)))
  have HV : Hid (∀ W, Calls Tryz.prog 100 #[.int .i64 1] W fun e w' => e = .returned (.tuple #[.agg #[.bool true, .bool false, .bool false], .bool true]) /\ Below W.heap.size W w') := hi_ (fun W => (has_any 1 W).mono fun e w' hp => by simpa [HasP, hasV, hasB] using hp)
  have HQ2 := hi_ hq2
  clear h hN hb1 r1 hp q1 hq1 hq2
  go_enter Tryz.func95, Tryz.ntmps95
  go_wp2_with (first
    | (rw [<- hw1]; clear hw1)
    | (go_at_call 99; have _t := C1; refine C1.out.mono ?_; rintro e w2 ⟨rfl, hr2, hf2⟩
       obtain ⟨w3, hw3⟩ : ∃ w3, w3 = w2.alloc (.cells (Cd.zero.cs none 0 0) 61) := ⟨_, rfl⟩
       have R3 := hi_ (show Rec 61 w3 w2.heap.size (Cd.zero.cs none 0 0) by rw [hw3]; exact Rec.new w2 _ _)
       have B3 := hi_ (show Below w2.heap.size w2 w3 by rw [hw3]; exact (Below.refl _ _).alloc (Nat.le_refl _) _)
       have H2 := hi_ (And.intro hr2 (And.intro hf2 (H1.out.1.fr hf2 (by have := H1.out.2.2; omega))))
       clear hr2 hf2 C1)
    | (rw [<- hw3]; clear hw3)
    | ((with_reducible refine wpList_stS (cs' := #[.int .i64 1, .bool false, .int .i64 0, .int .i64 0, .int .i64 0, .slice none 0 0]) cdT rfl rfl (by simp [Value.oneCell']) rfl (.tmp 4) (.tmp 11) rfl rfl rfl R3.out ?_); intro w4 hR4 hF4
       have b4 : Below w2.heap.size w2 w4 := B3.out.trans (hF4.toBelow (fun y hy => by have : y = w2.heap.size := hy; omega) B3.out.size)
       have q40 := hR4.at_ 0
       have H4 := hi_ (And.intro hR4 b4)
       clear hR4 hF4 b4 R3 B3)
    | (go_at_call 100; refine (HV.out w4).mono ?_; rintro e w5 ⟨rfl, hb5⟩
       obtain ⟨w6, hw6⟩ : ∃ w6, w6 = w5.alloc (.cells #[.bool false, .bool false, .bool false] 139) := ⟨_, rfl⟩
       have T6 := hi_ (show Rec 139 w6 w5.heap.size #[.bool false, .bool false, .bool false] by rw [hw6]; exact Rec.new w5 _ _)
       have B6 := hi_ (show Below w5.heap.size w5 w6 by rw [hw6]; exact (Below.refl _ _).alloc (Nat.le_refl _) _)
       have B5 := hi_ hb5
       clear hb5 q40)
    | (rw [<- hw6]; clear hw6)
    | ((with_reducible refine wpList_stS (cs' := #[.bool true, .bool false, .bool false]) trT rfl rfl (by simp [Value.oneCell']) rfl (.tmp 5) (.tmp 16) rfl rfl rfl T6.out ?_); intro w7 hR7 hF7
       have b57 : Below w5.heap.size w5 w7 := B6.out.trans (hF7.toBelow (fun y hy => by have : y = w5.heap.size := hy; omega) B6.out.size)
       have b47 : Below w4.heap.size w4 w7 := B5.out.trans (b57.mono B5.out.size)
       have b27 : Below w2.heap.size w2 w7 := H4.out.2.trans (b47.mono H4.out.2.size)
       have l4 := H4.out.1.lt
       have l1 := H1.out.1.lt
       have H7 := hi_ (show RdS w w7 N p st1 w.heap.size w2.heap.size w5.heap.size #[.bool true, .bool false, .bool false] #[.int .i64 1, .bool false, .int .i64 0, .int .i64 0, .int .i64 0, .slice none 0 0] from
         ⟨H2.out.1.below b27, H2.out.2.2.under b27, H4.out.1.under b47, hR7, (Fr.ofBelow _ H1.out.2.1).trans' (H2.out.2.1.trans (Fr.ofBelow _ b27)) (fun _ hx => .inl hx), H1.out.2.2.1, H1.out.2.2.2, Nat.le_refl _, by have := H2.out.2.1.size; omega, by have := B5.out.size; omega⟩)
       have t0 := H7.out.t5.at_ 0
       obtain ⟨g4, hg4⟩ : ∃ g4, g4 = w2.heap.size := ⟨_, rfl⟩
       obtain ⟨g5, hg5⟩ : ∃ g5, g5 = w5.heap.size := ⟨_, rfl⟩
       rw [<- hg4, <- hg5] at H7
       rw [<- hg5] at t0
       simp only [<- hg4, <- hg5]
       have qq := RNumK_any H7.out.rd 1 (by decide)
       rw [HQ2.out] at qq
       have C7 := hi_ qq
       clear qq
       clear hR7 hF7 b57 b47 b27 l4 l1 H2 H4 T6 B6 hg4 hg5)
    | (go_at_call 99; have _t := C7; refine C7.out.mono ?_; rintro e w8 ⟨rfl, hrw8, hfw8⟩
       have Hw8 := hi_ (H7.out.num hrw8 hfw8)
       clear hrw8 hfw8 C7 t0)
    | ((with_reducible refine wpList_ldS cdT rfl rfl (.tmp 4) rfl rfl Hw8.out.r4 ?_))
    | ((with_reducible refine wpList_stS (cs' := #[.int .i64 1, .bool false, .int .i64 0, .int .i64 0, .int .i64 0, .slice none 0 0]) cdT rfl rfl (by simp [Value.oneCell']) rfl (.tmp 2) (.tmp 27) rfl rfl rfl Hw8.out.r2 ?_); intro wz hRz hFz))
  refine bodyPost_ret (res_ct rfl rfl (hRz.load cdT rfl)) rfl ?_
  exact ReadE.fault ⟨1, false, 0, 0, 0, []⟩ none 0 0 (Hw8.out.fin hFz) (by decide)
set_option maxHeartbeats 4000000 in
theorem read_11 (st1 : RS) (st2 : RS) (c : Int) (st3 : RS) (h : RdrIs N w p st) (hN : N <= w.heap.size) (hq1 : rdNum 1 st = (1, st1)) (hq2 : rdNum 1 st1 = (1, st2)) (hq3 : rdNum 8 st2 = (c, st3)) :
    Calls Tryz.prog 95 #[.pointer (some ⟨p, 0, none⟩)] w (ReadE N p w (rdFin ⟨1, true, c, 0, 0, []⟩ st3)) := by
  obtain ⟨w1, hw1⟩ : ∃ w1, w1 = w.alloc (.cells (Cd.zero.cs none 0 0) 61) := ⟨_, rfl⟩
  have hb1 : Below w.heap.size w w1 := by rw [hw1]; exact (Below.refl _ _).alloc (Nat.le_refl _) _
  have r1 : Rec 61 w1 w.heap.size (Cd.zero.cs none 0 0) := by rw [hw1]; exact Rec.new w _ _
  have hp : p < N := by obtain ⟨_, _, _, _, _, _, _, _, hp, _⟩ := h; exact hp
  have q1 := RNumK_any (h.below hb1) 1 (by decide)
  rw [hq1] at q1
  have C1 := hi_ q1
  have H1 := hi_ (And.intro r1 (And.intro hb1 (And.intro hp hN)))
  have HV : Hid (∀ W, Calls Tryz.prog 100 #[.int .i64 1] W fun e w' => e = .returned (.tuple #[.agg #[.bool true, .bool false, .bool false], .bool true]) /\ Below W.heap.size W w') := hi_ (fun W => (has_any 1 W).mono fun e w' hp => by simpa [HasP, hasV, hasB] using hp)
  have HQ2 := hi_ hq2
  have HQ3 := hi_ hq3
  clear h hN hb1 r1 hp q1 hq1 hq2 hq3
  obtain ⟨ll, mm⟩ := st3
  cases mm
  all_goals
    go_enter Tryz.func95, Tryz.ntmps95
    go_wp2_with (first
      | (rw [<- hw1]; clear hw1)
      | (go_at_call 99; have _t := C1; refine C1.out.mono ?_; rintro e w2 ⟨rfl, hr2, hf2⟩
         obtain ⟨w3, hw3⟩ : ∃ w3, w3 = w2.alloc (.cells (Cd.zero.cs none 0 0) 61) := ⟨_, rfl⟩
         have R3 := hi_ (show Rec 61 w3 w2.heap.size (Cd.zero.cs none 0 0) by rw [hw3]; exact Rec.new w2 _ _)
         have B3 := hi_ (show Below w2.heap.size w2 w3 by rw [hw3]; exact (Below.refl _ _).alloc (Nat.le_refl _) _)
         have H2 := hi_ (And.intro hr2 (And.intro hf2 (H1.out.1.fr hf2 (by have := H1.out.2.2; omega))))
         clear hr2 hf2 C1)
      | (rw [<- hw3]; clear hw3)
      | ((with_reducible refine wpList_stS (cs' := #[.int .i64 1, .bool false, .int .i64 0, .int .i64 0, .int .i64 0, .slice none 0 0]) cdT rfl rfl (by simp [Value.oneCell']) rfl (.tmp 4) (.tmp 11) rfl rfl rfl R3.out ?_); intro w4 hR4 hF4
         have b4 : Below w2.heap.size w2 w4 := B3.out.trans (hF4.toBelow (fun y hy => by have : y = w2.heap.size := hy; omega) B3.out.size)
         have q40 := hR4.at_ 0
         have H4 := hi_ (And.intro hR4 b4)
         clear hR4 hF4 b4 R3 B3)
      | (go_at_call 100; refine (HV.out w4).mono ?_; rintro e w5 ⟨rfl, hb5⟩
         obtain ⟨w6, hw6⟩ : ∃ w6, w6 = w5.alloc (.cells #[.bool false, .bool false, .bool false] 139) := ⟨_, rfl⟩
         have T6 := hi_ (show Rec 139 w6 w5.heap.size #[.bool false, .bool false, .bool false] by rw [hw6]; exact Rec.new w5 _ _)
         have B6 := hi_ (show Below w5.heap.size w5 w6 by rw [hw6]; exact (Below.refl _ _).alloc (Nat.le_refl _) _)
         have B5 := hi_ hb5
         clear hb5 q40)
      | (rw [<- hw6]; clear hw6)
      | ((with_reducible refine wpList_stS (cs' := #[.bool true, .bool false, .bool false]) trT rfl rfl (by simp [Value.oneCell']) rfl (.tmp 5) (.tmp 16) rfl rfl rfl T6.out ?_); intro w7 hR7 hF7
         have b57 : Below w5.heap.size w5 w7 := B6.out.trans (hF7.toBelow (fun y hy => by have : y = w5.heap.size := hy; omega) B6.out.size)
         have b47 : Below w4.heap.size w4 w7 := B5.out.trans (b57.mono B5.out.size)
         have b27 : Below w2.heap.size w2 w7 := H4.out.2.trans (b47.mono H4.out.2.size)
         have l4 := H4.out.1.lt
         have l1 := H1.out.1.lt
         have H7 := hi_ (show RdS w w7 N p st1 w.heap.size w2.heap.size w5.heap.size #[.bool true, .bool false, .bool false] #[.int .i64 1, .bool false, .int .i64 0, .int .i64 0, .int .i64 0, .slice none 0 0] from
           ⟨H2.out.1.below b27, H2.out.2.2.under b27, H4.out.1.under b47, hR7, (Fr.ofBelow _ H1.out.2.1).trans' (H2.out.2.1.trans (Fr.ofBelow _ b27)) (fun _ hx => .inl hx), H1.out.2.2.1, H1.out.2.2.2, Nat.le_refl _, by have := H2.out.2.1.size; omega, by have := B5.out.size; omega⟩)
         have t0 := H7.out.t5.at_ 0
         obtain ⟨g4, hg4⟩ : ∃ g4, g4 = w2.heap.size := ⟨_, rfl⟩
         obtain ⟨g5, hg5⟩ : ∃ g5, g5 = w5.heap.size := ⟨_, rfl⟩
         rw [<- hg4, <- hg5] at H7
         rw [<- hg5] at t0
         simp only [<- hg4, <- hg5]
         have qq := RNumK_any H7.out.rd 1 (by decide)
         rw [HQ2.out] at qq
         have C7 := hi_ qq
         clear qq
         clear hR7 hF7 b57 b47 b27 l4 l1 H2 H4 T6 B6 hg4 hg5)
      | (go_at_call 99; have _t := C7; refine C7.out.mono ?_; rintro e w8 ⟨rfl, hrw8, hfw8⟩
         have Hw8 := hi_ (H7.out.num hrw8 hfw8)
         have qq := RNumK_any Hw8.out.rd 8 (by decide)
         rw [HQ3.out] at qq
         have C8 := hi_ qq
         clear qq
         clear hrw8 hfw8 C7 t0)
      | (go_at_call 99; have _t := C8; refine C8.out.mono ?_; rintro e w9 ⟨rfl, hrw9, hfw9⟩
         have Hw9 := hi_ (Hw8.out.num hrw9 hfw9)
         have z1 := Hw9.out.r4.fz 1
         have k1 := Hw9.out.r4.at_ 1
         have z2 := Hw9.out.r4.fz 2
         have k2 := Hw9.out.r4.at_ 2
         obtain ⟨w10, hw10⟩ : ∃ v, v = (w9.setCell ⟨g4, 1, none⟩ (.bool true)).setCell ⟨g4, 2, none⟩ (.int .i64 c) := ⟨_, rfl⟩
         have Hw10 := hi_ (show RdS w w10 N p _ w.heap.size g4 g5 #[.bool true, .bool false, .bool false] #[.int .i64 1, .bool true, .int .i64 c, .int .i64 0, .int .i64 0, .slice none 0 0] by have hh := (Hw9.out.set 1 (.bool true)).set 2 (.int .i64 c); rw [hw10]; simpa using hh)
         have q1 := Hw10.out.r4.at_ 1
         have t1 := Hw10.out.t5.at_ 1
         have t2 := Hw10.out.t5.at_ 2
         clear hrw9 hfw9 C8)
      | (rw [<- hw10]; clear hw10 z1 k1 z2 k2)
      | (go_at_call 102; refine (OK_any Hw10.out.rd).mono ?_; rintro e w' ⟨rfl, rfl⟩)
      | ((with_reducible refine wpList_ldS cdT rfl rfl (.tmp 4) rfl rfl Hw10.out.r4 ?_))
      | ((with_reducible refine wpList_stS (cs' := #[.int .i64 1, .bool true, .int .i64 c, .int .i64 0, .int .i64 0, .slice none 0 0]) cdT rfl rfl (by simp [Value.oneCell']) rfl (.tmp 2) (.tmp 61) rfl rfl rfl Hw10.out.r2 ?_); intro wz hRz hFz)
      | ((with_reducible refine wpList_stS (cs' := #[.int .i64 1, .bool true, .int .i64 c, .int .i64 0, .int .i64 0, .slice none 0 0]) cdT rfl rfl (by simp [Value.oneCell']) rfl (.tmp 2) (.tmp 62) rfl rfl rfl Hw10.out.r2 ?_); intro wz hRz hFz))
    refine bodyPost_ret (res_ct rfl rfl (hRz.load cdT rfl)) rfl ?_
    first
      | exact ReadE.good (x := ⟨1, true, c, 0, 0, []⟩) none 0 0 (Hw10.out.fin hFz) (Rd.nil _ _) (Nat.le_refl _) (fun _ _ e => by cases e)
      | exact ReadE.miss ⟨1, true, c, 0, 0, []⟩ none 0 0 (Hw10.out.fin hFz)
set_option maxHeartbeats 4000000 in
theorem read_10 (st1 : RS) (st2 : RS) (c : Int) (st3 : RS) (g : Int) (st4 : RS) (h : RdrIs N w p st) (hN : N <= w.heap.size) (hq1 : rdNum 1 st = (1, st1)) (hq2 : rdNum 1 st1 = (0, st2)) (hq3 : rdNum 8 st2 = (c, st3)) (hq4 : rdNum 8 st3 = (g, st4)) :
    Calls Tryz.prog 95 #[.pointer (some ⟨p, 0, none⟩)] w (ReadE N p w (rdFin ⟨1, false, c, g, 0, []⟩ st4)) := by
  obtain ⟨w1, hw1⟩ : ∃ w1, w1 = w.alloc (.cells (Cd.zero.cs none 0 0) 61) := ⟨_, rfl⟩
  have hb1 : Below w.heap.size w w1 := by rw [hw1]; exact (Below.refl _ _).alloc (Nat.le_refl _) _
  have r1 : Rec 61 w1 w.heap.size (Cd.zero.cs none 0 0) := by rw [hw1]; exact Rec.new w _ _
  have hp : p < N := by obtain ⟨_, _, _, _, _, _, _, _, hp, _⟩ := h; exact hp
  have q1 := RNumK_any (h.below hb1) 1 (by decide)
  rw [hq1] at q1
  have C1 := hi_ q1
  have H1 := hi_ (And.intro r1 (And.intro hb1 (And.intro hp hN)))
  have HV : Hid (∀ W, Calls Tryz.prog 100 #[.int .i64 1] W fun e w' => e = .returned (.tuple #[.agg #[.bool true, .bool false, .bool false], .bool true]) /\ Below W.heap.size W w') := hi_ (fun W => (has_any 1 W).mono fun e w' hp => by simpa [HasP, hasV, hasB] using hp)
  have HQ2 := hi_ hq2
  have HQ3 := hi_ hq3
  have HQ4 := hi_ hq4
  clear h hN hb1 r1 hp q1 hq1 hq2 hq3 hq4
  obtain ⟨ll, mm⟩ := st4
  cases mm
  all_goals
    go_enter Tryz.func95, Tryz.ntmps95
    go_wp2_with (first
      | (rw [<- hw1]; clear hw1)
      | (go_at_call 99; have _t := C1; refine C1.out.mono ?_; rintro e w2 ⟨rfl, hr2, hf2⟩
         obtain ⟨w3, hw3⟩ : ∃ w3, w3 = w2.alloc (.cells (Cd.zero.cs none 0 0) 61) := ⟨_, rfl⟩
         have R3 := hi_ (show Rec 61 w3 w2.heap.size (Cd.zero.cs none 0 0) by rw [hw3]; exact Rec.new w2 _ _)
         have B3 := hi_ (show Below w2.heap.size w2 w3 by rw [hw3]; exact (Below.refl _ _).alloc (Nat.le_refl _) _)
         have H2 := hi_ (And.intro hr2 (And.intro hf2 (H1.out.1.fr hf2 (by have := H1.out.2.2; omega))))
         clear hr2 hf2 C1)
      | (rw [<- hw3]; clear hw3)
      | ((with_reducible refine wpList_stS (cs' := #[.int .i64 1, .bool false, .int .i64 0, .int .i64 0, .int .i64 0, .slice none 0 0]) cdT rfl rfl (by simp [Value.oneCell']) rfl (.tmp 4) (.tmp 11) rfl rfl rfl R3.out ?_); intro w4 hR4 hF4
         have b4 : Below w2.heap.size w2 w4 := B3.out.trans (hF4.toBelow (fun y hy => by have : y = w2.heap.size := hy; omega) B3.out.size)
         have q40 := hR4.at_ 0
         have H4 := hi_ (And.intro hR4 b4)
         clear hR4 hF4 b4 R3 B3)
      | (go_at_call 100; refine (HV.out w4).mono ?_; rintro e w5 ⟨rfl, hb5⟩
         obtain ⟨w6, hw6⟩ : ∃ w6, w6 = w5.alloc (.cells #[.bool false, .bool false, .bool false] 139) := ⟨_, rfl⟩
         have T6 := hi_ (show Rec 139 w6 w5.heap.size #[.bool false, .bool false, .bool false] by rw [hw6]; exact Rec.new w5 _ _)
         have B6 := hi_ (show Below w5.heap.size w5 w6 by rw [hw6]; exact (Below.refl _ _).alloc (Nat.le_refl _) _)
         have B5 := hi_ hb5
         clear hb5 q40)
      | (rw [<- hw6]; clear hw6)
      | ((with_reducible refine wpList_stS (cs' := #[.bool true, .bool false, .bool false]) trT rfl rfl (by simp [Value.oneCell']) rfl (.tmp 5) (.tmp 16) rfl rfl rfl T6.out ?_); intro w7 hR7 hF7
         have b57 : Below w5.heap.size w5 w7 := B6.out.trans (hF7.toBelow (fun y hy => by have : y = w5.heap.size := hy; omega) B6.out.size)
         have b47 : Below w4.heap.size w4 w7 := B5.out.trans (b57.mono B5.out.size)
         have b27 : Below w2.heap.size w2 w7 := H4.out.2.trans (b47.mono H4.out.2.size)
         have l4 := H4.out.1.lt
         have l1 := H1.out.1.lt
         have H7 := hi_ (show RdS w w7 N p st1 w.heap.size w2.heap.size w5.heap.size #[.bool true, .bool false, .bool false] #[.int .i64 1, .bool false, .int .i64 0, .int .i64 0, .int .i64 0, .slice none 0 0] from
           ⟨H2.out.1.below b27, H2.out.2.2.under b27, H4.out.1.under b47, hR7, (Fr.ofBelow _ H1.out.2.1).trans' (H2.out.2.1.trans (Fr.ofBelow _ b27)) (fun _ hx => .inl hx), H1.out.2.2.1, H1.out.2.2.2, Nat.le_refl _, by have := H2.out.2.1.size; omega, by have := B5.out.size; omega⟩)
         have t0 := H7.out.t5.at_ 0
         obtain ⟨g4, hg4⟩ : ∃ g4, g4 = w2.heap.size := ⟨_, rfl⟩
         obtain ⟨g5, hg5⟩ : ∃ g5, g5 = w5.heap.size := ⟨_, rfl⟩
         rw [<- hg4, <- hg5] at H7
         rw [<- hg5] at t0
         simp only [<- hg4, <- hg5]
         have qq := RNumK_any H7.out.rd 1 (by decide)
         rw [HQ2.out] at qq
         have C7 := hi_ qq
         clear qq
         clear hR7 hF7 b57 b47 b27 l4 l1 H2 H4 T6 B6 hg4 hg5)
      | (go_at_call 99; have _t := C7; refine C7.out.mono ?_; rintro e w8 ⟨rfl, hrw8, hfw8⟩
         have Hw8 := hi_ (H7.out.num hrw8 hfw8)
         have qq := RNumK_any Hw8.out.rd 8 (by decide)
         rw [HQ3.out] at qq
         have C8 := hi_ qq
         clear qq
         clear hrw8 hfw8 C7 t0)
      | (go_at_call 99; have _t := C8; refine C8.out.mono ?_; rintro e w9 ⟨rfl, hrw9, hfw9⟩
         have Hw9 := hi_ (Hw8.out.num hrw9 hfw9)
         have z1 := Hw9.out.r4.fz 1
         have k1 := Hw9.out.r4.at_ 1
         have z2 := Hw9.out.r4.fz 2
         have k2 := Hw9.out.r4.at_ 2
         obtain ⟨w10, hw10⟩ : ∃ v, v = (w9.setCell ⟨g4, 1, none⟩ (.bool false)).setCell ⟨g4, 2, none⟩ (.int .i64 c) := ⟨_, rfl⟩
         have Hw10 := hi_ (show RdS w w10 N p _ w.heap.size g4 g5 #[.bool true, .bool false, .bool false] #[.int .i64 1, .bool false, .int .i64 c, .int .i64 0, .int .i64 0, .slice none 0 0] by have hh := (Hw9.out.set 1 (.bool false)).set 2 (.int .i64 c); rw [hw10]; simpa using hh)
         have q1 := Hw10.out.r4.at_ 1
         have qq := RNumK_any Hw10.out.rd 8 (by decide)
         rw [HQ4.out] at qq
         have C10 := hi_ qq
         clear qq
         clear hrw9 hfw9 C8)
      | (rw [<- hw10]; clear hw10 z1 k1 z2 k2)
      | (go_at_call 99; have _t := C10; refine C10.out.mono ?_; rintro e w11 ⟨rfl, hrw11, hfw11⟩
         have Hw11 := hi_ (Hw10.out.num hrw11 hfw11)
         have z3 := Hw11.out.r4.fz 3
         have k3 := Hw11.out.r4.at_ 3
         obtain ⟨w12, hw12⟩ : ∃ v, v = w11.setCell ⟨g4, 3, none⟩ (.int .i64 g) := ⟨_, rfl⟩
         have Hw12 := hi_ (show RdS w w12 N p _ w.heap.size g4 g5 #[.bool true, .bool false, .bool false] #[.int .i64 1, .bool false, .int .i64 c, .int .i64 g, .int .i64 0, .slice none 0 0] by have hh := Hw11.out.set 3 (.int .i64 g); rw [hw12]; simpa using hh)
         have t1 := Hw12.out.t5.at_ 1
         have t2 := Hw12.out.t5.at_ 2
         clear hrw11 hfw11 C10 q1)
      | (rw [<- hw12]; clear hw12 z3 k3)
      | (go_at_call 102; refine (OK_any Hw12.out.rd).mono ?_; rintro e w' ⟨rfl, rfl⟩)
      | ((with_reducible refine wpList_ldS cdT rfl rfl (.tmp 4) rfl rfl Hw12.out.r4 ?_))
      | ((with_reducible refine wpList_stS (cs' := #[.int .i64 1, .bool false, .int .i64 c, .int .i64 g, .int .i64 0, .slice none 0 0]) cdT rfl rfl (by simp [Value.oneCell']) rfl (.tmp 2) (.tmp 61) rfl rfl rfl Hw12.out.r2 ?_); intro wz hRz hFz)
      | ((with_reducible refine wpList_stS (cs' := #[.int .i64 1, .bool false, .int .i64 c, .int .i64 g, .int .i64 0, .slice none 0 0]) cdT rfl rfl (by simp [Value.oneCell']) rfl (.tmp 2) (.tmp 62) rfl rfl rfl Hw12.out.r2 ?_); intro wz hRz hFz))
    refine bodyPost_ret (res_ct rfl rfl (hRz.load cdT rfl)) rfl ?_
    first
      | exact ReadE.good (x := ⟨1, false, c, g, 0, []⟩) none 0 0 (Hw12.out.fin hFz) (Rd.nil _ _) (Nat.le_refl _) (fun _ _ e => by cases e)
      | exact ReadE.miss ⟨1, false, c, g, 0, []⟩ none 0 0 (Hw12.out.fin hFz)
set_option maxHeartbeats 4000000 in
theorem read_2x (st1 : RS) (st2 : RS) (b : Int) (h : RdrIs N w p st) (hN : N <= w.heap.size) (hq1 : rdNum 1 st = (2, st1)) (hq2 : rdNum 1 st1 = (b, st2)) (hb : 1 < b) :
    Calls Tryz.prog 95 #[.pointer (some ⟨p, 0, none⟩)] w (ReadE N p w (Cd.zero, 11, st2)) := by
  obtain ⟨w1, hw1⟩ : ∃ w1, w1 = w.alloc (.cells (Cd.zero.cs none 0 0) 61) := ⟨_, rfl⟩
  have hb1 : Below w.heap.size w w1 := by rw [hw1]; exact (Below.refl _ _).alloc (Nat.le_refl _) _
  have r1 : Rec 61 w1 w.heap.size (Cd.zero.cs none 0 0) := by rw [hw1]; exact Rec.new w _ _
  have hp : p < N := by obtain ⟨_, _, _, _, _, _, _, _, hp, _⟩ := h; exact hp
  have q1 := RNumK_any (h.below hb1) 1 (by decide)
  rw [hq1] at q1
  have C1 := hi_ q1
  have H1 := hi_ (And.intro r1 (And.intro hb1 (And.intro hp hN)))
  have HV : Hid (∀ W, Calls Tryz.prog 100 #[.int .i64 2] W fun e w' => e = .returned (.tuple #[.agg #[.bool true, .bool true, .bool true], .bool true]) /\ Below W.heap.size W w') := hi_ (fun W => (has_any 2 W).mono fun e w' hp => by simpa [HasP, hasV, hasB] using hp)
  have HQ2 := hi_ hq2
  clear h hN hb1 r1 hp q1 hq1 hq2
  go_enter Tryz.func95, Tryz.ntmps95
  go_wp2_with (first
    | (rw [<- hw1]; clear hw1)
    | (go_at_call 99; have _t := C1; refine C1.out.mono ?_; rintro e w2 ⟨rfl, hr2, hf2⟩
       obtain ⟨w3, hw3⟩ : ∃ w3, w3 = w2.alloc (.cells (Cd.zero.cs none 0 0) 61) := ⟨_, rfl⟩
       have R3 := hi_ (show Rec 61 w3 w2.heap.size (Cd.zero.cs none 0 0) by rw [hw3]; exact Rec.new w2 _ _)
       have B3 := hi_ (show Below w2.heap.size w2 w3 by rw [hw3]; exact (Below.refl _ _).alloc (Nat.le_refl _) _)
       have H2 := hi_ (And.intro hr2 (And.intro hf2 (H1.out.1.fr hf2 (by have := H1.out.2.2; omega))))
       clear hr2 hf2 C1)
    | (rw [<- hw3]; clear hw3)
    | ((with_reducible refine wpList_stS (cs' := #[.int .i64 2, .bool false, .int .i64 0, .int .i64 0, .int .i64 0, .slice none 0 0]) cdT rfl rfl (by simp [Value.oneCell']) rfl (.tmp 4) (.tmp 11) rfl rfl rfl R3.out ?_); intro w4 hR4 hF4
       have b4 : Below w2.heap.size w2 w4 := B3.out.trans (hF4.toBelow (fun y hy => by have : y = w2.heap.size := hy; omega) B3.out.size)
       have q40 := hR4.at_ 0
       have H4 := hi_ (And.intro hR4 b4)
       clear hR4 hF4 b4 R3 B3)
    | (go_at_call 100; refine (HV.out w4).mono ?_; rintro e w5 ⟨rfl, hb5⟩
       obtain ⟨w6, hw6⟩ : ∃ w6, w6 = w5.alloc (.cells #[.bool false, .bool false, .bool false] 139) := ⟨_, rfl⟩
       have T6 := hi_ (show Rec 139 w6 w5.heap.size #[.bool false, .bool false, .bool false] by rw [hw6]; exact Rec.new w5 _ _)
       have B6 := hi_ (show Below w5.heap.size w5 w6 by rw [hw6]; exact (Below.refl _ _).alloc (Nat.le_refl _) _)
       have B5 := hi_ hb5
       clear hb5 q40)
    | (rw [<- hw6]; clear hw6)
    | ((with_reducible refine wpList_stS (cs' := #[.bool true, .bool true, .bool true]) trT rfl rfl (by simp [Value.oneCell']) rfl (.tmp 5) (.tmp 16) rfl rfl rfl T6.out ?_); intro w7 hR7 hF7
       have b57 : Below w5.heap.size w5 w7 := B6.out.trans (hF7.toBelow (fun y hy => by have : y = w5.heap.size := hy; omega) B6.out.size)
       have b47 : Below w4.heap.size w4 w7 := B5.out.trans (b57.mono B5.out.size)
       have b27 : Below w2.heap.size w2 w7 := H4.out.2.trans (b47.mono H4.out.2.size)
       have l4 := H4.out.1.lt
       have l1 := H1.out.1.lt
       have H7 := hi_ (show RdS w w7 N p st1 w.heap.size w2.heap.size w5.heap.size #[.bool true, .bool true, .bool true] #[.int .i64 2, .bool false, .int .i64 0, .int .i64 0, .int .i64 0, .slice none 0 0] from
         ⟨H2.out.1.below b27, H2.out.2.2.under b27, H4.out.1.under b47, hR7, (Fr.ofBelow _ H1.out.2.1).trans' (H2.out.2.1.trans (Fr.ofBelow _ b27)) (fun _ hx => .inl hx), H1.out.2.2.1, H1.out.2.2.2, Nat.le_refl _, by have := H2.out.2.1.size; omega, by have := B5.out.size; omega⟩)
       have t0 := H7.out.t5.at_ 0
       obtain ⟨g4, hg4⟩ : ∃ g4, g4 = w2.heap.size := ⟨_, rfl⟩
       obtain ⟨g5, hg5⟩ : ∃ g5, g5 = w5.heap.size := ⟨_, rfl⟩
       rw [<- hg4, <- hg5] at H7
       rw [<- hg5] at t0
       simp only [<- hg4, <- hg5]
       have qq := RNumK_any H7.out.rd 1 (by decide)
       rw [HQ2.out] at qq
       have C7 := hi_ qq
       clear qq
       clear hR7 hF7 b57 b47 b27 l4 l1 H2 H4 T6 B6 hg4 hg5)
    | (go_at_call 99; have _t := C7; refine C7.out.mono ?_; rintro e w8 ⟨rfl, hrw8, hfw8⟩
       have Hw8 := hi_ (H7.out.num hrw8 hfw8)
       clear hrw8 hfw8 C7 t0)
    | ((with_reducible refine wpList_ldS cdT rfl rfl (.tmp 4) rfl rfl Hw8.out.r4 ?_))
    | ((with_reducible refine wpList_stS (cs' := #[.int .i64 2, .bool false, .int .i64 0, .int .i64 0, .int .i64 0, .slice none 0 0]) cdT rfl rfl (by simp [Value.oneCell']) rfl (.tmp 2) (.tmp 27) rfl rfl rfl Hw8.out.r2 ?_); intro wz hRz hFz))
  refine bodyPost_ret (res_ct rfl rfl (hRz.load cdT rfl)) rfl ?_
  exact ReadE.fault ⟨2, false, 0, 0, 0, []⟩ none 0 0 (Hw8.out.fin hFz) (by decide)
set_option maxHeartbeats 4000000 in
theorem read_21 (st1 : RS) (st2 : RS) (c : Int) (st3 : RS) (k : Int) (st5 : RS) (m : Nat) (st6 : RS) (h : RdrIs N w p st) (hN : N <= w.heap.size) (hq1 : rdNum 1 st = (2, st1)) (hq2 : rdNum 1 st1 = (1, st2)) (hq3 : rdNum 8 st2 = (c, st3)) (hq5 : rdNum 8 st3 = (k, st5)) (hq6 : rdNum 2 st5 = ((m : Int), st6)) (hm : m <= 65535) :
    Calls Tryz.prog 95 #[.pointer (some ⟨p, 0, none⟩)] w (ReadE N p w (if 64 < (m : Int) then (Cd.zero, 13, st6) else rdFin ⟨2, true, c, 0, k, (rdBytes m st6).1⟩ (rdBytes m st6).2)) := by
  obtain ⟨w1, hw1⟩ : ∃ w1, w1 = w.alloc (.cells (Cd.zero.cs none 0 0) 61) := ⟨_, rfl⟩
  have hb1 : Below w.heap.size w w1 := by rw [hw1]; exact (Below.refl _ _).alloc (Nat.le_refl _) _
  have r1 : Rec 61 w1 w.heap.size (Cd.zero.cs none 0 0) := by rw [hw1]; exact Rec.new w _ _
  have hp : p < N := by obtain ⟨_, _, _, _, _, _, _, _, hp, _⟩ := h; exact hp
  have q1 := RNumK_any (h.below hb1) 1 (by decide)
  rw [hq1] at q1
  have C1 := hi_ q1
  have H1 := hi_ (And.intro r1 (And.intro hb1 (And.intro hp hN)))
  have HV : Hid (∀ W, Calls Tryz.prog 100 #[.int .i64 2] W fun e w' => e = .returned (.tuple #[.agg #[.bool true, .bool true, .bool true], .bool true]) /\ Below W.heap.size W w') := hi_ (fun W => (has_any 2 W).mono fun e w' hp => by simpa [HasP, hasV, hasB] using hp)
  have HQ2 := hi_ hq2
  have HQ3 := hi_ hq3
  have HQ5 := hi_ hq5
  have HQ6 := hi_ hq6
  clear h hN hb1 r1 hp q1 hq1 hq2 hq3 hq5 hq6
  by_cases h64 : 64 < m
  · rw [if_pos (by omega)]
    go_enter Tryz.func95, Tryz.ntmps95
    go_wp2_with (first
      | (rw [<- hw1]; clear hw1)
      | (go_at_call 99; have _t := C1; refine C1.out.mono ?_; rintro e w2 ⟨rfl, hr2, hf2⟩
         obtain ⟨w3, hw3⟩ : ∃ w3, w3 = w2.alloc (.cells (Cd.zero.cs none 0 0) 61) := ⟨_, rfl⟩
         have R3 := hi_ (show Rec 61 w3 w2.heap.size (Cd.zero.cs none 0 0) by rw [hw3]; exact Rec.new w2 _ _)
         have B3 := hi_ (show Below w2.heap.size w2 w3 by rw [hw3]; exact (Below.refl _ _).alloc (Nat.le_refl _) _)
         have H2 := hi_ (And.intro hr2 (And.intro hf2 (H1.out.1.fr hf2 (by have := H1.out.2.2; omega))))
         clear hr2 hf2 C1)
      | (rw [<- hw3]; clear hw3)
      | ((with_reducible refine wpList_stS (cs' := #[.int .i64 2, .bool false, .int .i64 0, .int .i64 0, .int .i64 0, .slice none 0 0]) cdT rfl rfl (by simp [Value.oneCell']) rfl (.tmp 4) (.tmp 11) rfl rfl rfl R3.out ?_); intro w4 hR4 hF4
         have b4 : Below w2.heap.size w2 w4 := B3.out.trans (hF4.toBelow (fun y hy => by have : y = w2.heap.size := hy; omega) B3.out.size)
         have q40 := hR4.at_ 0
         have H4 := hi_ (And.intro hR4 b4)
         clear hR4 hF4 b4 R3 B3)
      | (go_at_call 100; refine (HV.out w4).mono ?_; rintro e w5 ⟨rfl, hb5⟩
         obtain ⟨w6, hw6⟩ : ∃ w6, w6 = w5.alloc (.cells #[.bool false, .bool false, .bool false] 139) := ⟨_, rfl⟩
         have T6 := hi_ (show Rec 139 w6 w5.heap.size #[.bool false, .bool false, .bool false] by rw [hw6]; exact Rec.new w5 _ _)
         have B6 := hi_ (show Below w5.heap.size w5 w6 by rw [hw6]; exact (Below.refl _ _).alloc (Nat.le_refl _) _)
         have B5 := hi_ hb5
         clear hb5 q40)
      | (rw [<- hw6]; clear hw6)
      | ((with_reducible refine wpList_stS (cs' := #[.bool true, .bool true, .bool true]) trT rfl rfl (by simp [Value.oneCell']) rfl (.tmp 5) (.tmp 16) rfl rfl rfl T6.out ?_); intro w7 hR7 hF7
         have b57 : Below w5.heap.size w5 w7 := B6.out.trans (hF7.toBelow (fun y hy => by have : y = w5.heap.size := hy; omega) B6.out.size)
         have b47 : Below w4.heap.size w4 w7 := B5.out.trans (b57.mono B5.out.size)
         have b27 : Below w2.heap.size w2 w7 := H4.out.2.trans (b47.mono H4.out.2.size)
         have l4 := H4.out.1.lt
         have l1 := H1.out.1.lt
         have H7 := hi_ (show RdS w w7 N p st1 w.heap.size w2.heap.size w5.heap.size #[.bool true, .bool true, .bool true] #[.int .i64 2, .bool false, .int .i64 0, .int .i64 0, .int .i64 0, .slice none 0 0] from
           ⟨H2.out.1.below b27, H2.out.2.2.under b27, H4.out.1.under b47, hR7, (Fr.ofBelow _ H1.out.2.1).trans' (H2.out.2.1.trans (Fr.ofBelow _ b27)) (fun _ hx => .inl hx), H1.out.2.2.1, H1.out.2.2.2, Nat.le_refl _, by have := H2.out.2.1.size; omega, by have := B5.out.size; omega⟩)
         have t0 := H7.out.t5.at_ 0
         obtain ⟨g4, hg4⟩ : ∃ g4, g4 = w2.heap.size := ⟨_, rfl⟩
         obtain ⟨g5, hg5⟩ : ∃ g5, g5 = w5.heap.size := ⟨_, rfl⟩
         rw [<- hg4, <- hg5] at H7
         rw [<- hg5] at t0
         simp only [<- hg4, <- hg5]
         have qq := RNumK_any H7.out.rd 1 (by decide)
         rw [HQ2.out] at qq
         have C7 := hi_ qq
         clear qq
         clear hR7 hF7 b57 b47 b27 l4 l1 H2 H4 T6 B6 hg4 hg5)
      | (go_at_call 99; have _t := C7; refine C7.out.mono ?_; rintro e w8 ⟨rfl, hrw8, hfw8⟩
         have Hw8 := hi_ (H7.out.num hrw8 hfw8)
         have qq := RNumK_any Hw8.out.rd 8 (by decide)
         rw [HQ3.out] at qq
         have C8 := hi_ qq
         clear qq
         clear hrw8 hfw8 C7 t0)
      | (go_at_call 99; have _t := C8; refine C8.out.mono ?_; rintro e w9 ⟨rfl, hrw9, hfw9⟩
         have Hw9 := hi_ (Hw8.out.num hrw9 hfw9)
         have z1 := Hw9.out.r4.fz 1
         have k1 := Hw9.out.r4.at_ 1
         have z2 := Hw9.out.r4.fz 2
         have k2 := Hw9.out.r4.at_ 2
         obtain ⟨w10, hw10⟩ : ∃ v, v = (w9.setCell ⟨g4, 1, none⟩ (.bool true)).setCell ⟨g4, 2, none⟩ (.int .i64 c) := ⟨_, rfl⟩
         have Hw10 := hi_ (show RdS w w10 N p _ w.heap.size g4 g5 #[.bool true, .bool true, .bool true] #[.int .i64 2, .bool true, .int .i64 c, .int .i64 0, .int .i64 0, .slice none 0 0] by have hh := (Hw9.out.set 1 (.bool true)).set 2 (.int .i64 c); rw [hw10]; simpa using hh)
         have q1 := Hw10.out.r4.at_ 1
         have t1 := Hw10.out.t5.at_ 1
         have qq := RNumK_any Hw10.out.rd 8 (by decide)
         rw [HQ5.out] at qq
         have C12 := hi_ qq
         clear qq
         clear hrw9 hfw9 C8)
      | (rw [<- hw10]; clear hw10 z1 k1 z2 k2)
      | (go_at_call 99; have _t := C12; refine C12.out.mono ?_; rintro e w13 ⟨rfl, hrw13, hfw13⟩
         have Hw13 := hi_ (Hw10.out.num hrw13 hfw13)
         have z4 := Hw13.out.r4.fz 4
         have k4 := Hw13.out.r4.at_ 4
         obtain ⟨w14, hw14⟩ : ∃ v, v = w13.setCell ⟨g4, 4, none⟩ (.int .i64 k) := ⟨_, rfl⟩
         have Hw14 := hi_ (show RdS w w14 N p _ w.heap.size g4 g5 #[.bool true, .bool true, .bool true] #[.int .i64 2, .bool true, .int .i64 c, .int .i64 0, .int .i64 k, .slice none 0 0] by have hh := Hw13.out.set 4 (.int .i64 k); rw [hw14]; simpa using hh)
         have t2 := Hw14.out.t5.at_ 2
         have qq := RNumK_any Hw14.out.rd 2 (by decide)
         rw [HQ6.out] at qq
         have C14 := hi_ qq
         clear qq
         clear hrw13 hfw13 C12 t1)
      | (rw [<- hw14]; clear hw14 z4 k4)
      | (go_at_call 99; have _t := C14; refine C14.out.mono ?_; rintro e w15 ⟨rfl, hrw15, hfw15⟩
         have Hw15 := hi_ (Hw14.out.num hrw15 hfw15)
         clear hrw15 hfw15 C14 t2)
      | ((with_reducible refine wpList_ldS cdT rfl rfl (.tmp 4) rfl rfl Hw15.out.r4 ?_))
      | ((with_reducible refine wpList_stS (cs' := #[.int .i64 2, .bool true, .int .i64 c, .int .i64 0, .int .i64 k, .slice none 0 0]) cdT rfl rfl (by simp [Value.oneCell']) rfl (.tmp 2) (.tmp 53) rfl rfl rfl Hw15.out.r2 ?_); intro wz hRz hFz))
    refine bodyPost_ret (res_ct rfl rfl (hRz.load cdT rfl)) rfl ?_
    exact ReadE.fault ⟨2, true, c, 0, k, []⟩ none 0 0 (Hw15.out.fin hFz) (by decide)
  · rw [if_neg (by omega)]
    obtain ⟨⟨bs, ⟨ll, mm⟩⟩, hbs⟩ : ∃ q, q = rdBytes m st6 := ⟨_, rfl⟩
    rw [<- hbs]
    have HBS := hi_ hbs
    clear hbs
    cases mm
    all_goals
      go_enter Tryz.func95, Tryz.ntmps95
      go_wp2_with (first
        | (rw [<- hw1]; clear hw1)
        | (go_at_call 99; have _t := C1; refine C1.out.mono ?_; rintro e w2 ⟨rfl, hr2, hf2⟩
           obtain ⟨w3, hw3⟩ : ∃ w3, w3 = w2.alloc (.cells (Cd.zero.cs none 0 0) 61) := ⟨_, rfl⟩
           have R3 := hi_ (show Rec 61 w3 w2.heap.size (Cd.zero.cs none 0 0) by rw [hw3]; exact Rec.new w2 _ _)
           have B3 := hi_ (show Below w2.heap.size w2 w3 by rw [hw3]; exact (Below.refl _ _).alloc (Nat.le_refl _) _)
           have H2 := hi_ (And.intro hr2 (And.intro hf2 (H1.out.1.fr hf2 (by have := H1.out.2.2; omega))))
           clear hr2 hf2 C1)
        | (rw [<- hw3]; clear hw3)
        | ((with_reducible refine wpList_stS (cs' := #[.int .i64 2, .bool false, .int .i64 0, .int .i64 0, .int .i64 0, .slice none 0 0]) cdT rfl rfl (by simp [Value.oneCell']) rfl (.tmp 4) (.tmp 11) rfl rfl rfl R3.out ?_); intro w4 hR4 hF4
           have b4 : Below w2.heap.size w2 w4 := B3.out.trans (hF4.toBelow (fun y hy => by have : y = w2.heap.size := hy; omega) B3.out.size)
           have q40 := hR4.at_ 0
           have H4 := hi_ (And.intro hR4 b4)
           clear hR4 hF4 b4 R3 B3)
        | (go_at_call 100; refine (HV.out w4).mono ?_; rintro e w5 ⟨rfl, hb5⟩
           obtain ⟨w6, hw6⟩ : ∃ w6, w6 = w5.alloc (.cells #[.bool false, .bool false, .bool false] 139) := ⟨_, rfl⟩
           have T6 := hi_ (show Rec 139 w6 w5.heap.size #[.bool false, .bool false, .bool false] by rw [hw6]; exact Rec.new w5 _ _)
           have B6 := hi_ (show Below w5.heap.size w5 w6 by rw [hw6]; exact (Below.refl _ _).alloc (Nat.le_refl _) _)
           have B5 := hi_ hb5
           clear hb5 q40)
        | (rw [<- hw6]; clear hw6)
        | ((with_reducible refine wpList_stS (cs' := #[.bool true, .bool true, .bool true]) trT rfl rfl (by simp [Value.oneCell']) rfl (.tmp 5) (.tmp 16) rfl rfl rfl T6.out ?_); intro w7 hR7 hF7
           have b57 : Below w5.heap.size w5 w7 := B6.out.trans (hF7.toBelow (fun y hy => by have : y = w5.heap.size := hy; omega) B6.out.size)
           have b47 : Below w4.heap.size w4 w7 := B5.out.trans (b57.mono B5.out.size)
           have b27 : Below w2.heap.size w2 w7 := H4.out.2.trans (b47.mono H4.out.2.size)
           have l4 := H4.out.1.lt
           have l1 := H1.out.1.lt
           have H7 := hi_ (show RdS w w7 N p st1 w.heap.size w2.heap.size w5.heap.size #[.bool true, .bool true, .bool true] #[.int .i64 2, .bool false, .int .i64 0, .int .i64 0, .int .i64 0, .slice none 0 0] from
             ⟨H2.out.1.below b27, H2.out.2.2.under b27, H4.out.1.under b47, hR7, (Fr.ofBelow _ H1.out.2.1).trans' (H2.out.2.1.trans (Fr.ofBelow _ b27)) (fun _ hx => .inl hx), H1.out.2.2.1, H1.out.2.2.2, Nat.le_refl _, by have := H2.out.2.1.size; omega, by have := B5.out.size; omega⟩)
           have t0 := H7.out.t5.at_ 0
           obtain ⟨g4, hg4⟩ : ∃ g4, g4 = w2.heap.size := ⟨_, rfl⟩
           obtain ⟨g5, hg5⟩ : ∃ g5, g5 = w5.heap.size := ⟨_, rfl⟩
           rw [<- hg4, <- hg5] at H7
           rw [<- hg5] at t0
           simp only [<- hg4, <- hg5]
           have qq := RNumK_any H7.out.rd 1 (by decide)
           rw [HQ2.out] at qq
           have C7 := hi_ qq
           clear qq
           clear hR7 hF7 b57 b47 b27 l4 l1 H2 H4 T6 B6 hg4 hg5)
        | (go_at_call 99; have _t := C7; refine C7.out.mono ?_; rintro e w8 ⟨rfl, hrw8, hfw8⟩
           have Hw8 := hi_ (H7.out.num hrw8 hfw8)
           have qq := RNumK_any Hw8.out.rd 8 (by decide)
           rw [HQ3.out] at qq
           have C8 := hi_ qq
           clear qq
           clear hrw8 hfw8 C7 t0)
        | (go_at_call 99; have _t := C8; refine C8.out.mono ?_; rintro e w9 ⟨rfl, hrw9, hfw9⟩
           have Hw9 := hi_ (Hw8.out.num hrw9 hfw9)
           have z1 := Hw9.out.r4.fz 1
           have k1 := Hw9.out.r4.at_ 1
           have z2 := Hw9.out.r4.fz 2
           have k2 := Hw9.out.r4.at_ 2
           obtain ⟨w10, hw10⟩ : ∃ v, v = (w9.setCell ⟨g4, 1, none⟩ (.bool true)).setCell ⟨g4, 2, none⟩ (.int .i64 c) := ⟨_, rfl⟩
           have Hw10 := hi_ (show RdS w w10 N p _ w.heap.size g4 g5 #[.bool true, .bool true, .bool true] #[.int .i64 2, .bool true, .int .i64 c, .int .i64 0, .int .i64 0, .slice none 0 0] by have hh := (Hw9.out.set 1 (.bool true)).set 2 (.int .i64 c); rw [hw10]; simpa using hh)
           have q1 := Hw10.out.r4.at_ 1
           have t1 := Hw10.out.t5.at_ 1
           have qq := RNumK_any Hw10.out.rd 8 (by decide)
           rw [HQ5.out] at qq
           have C12 := hi_ qq
           clear qq
           clear hrw9 hfw9 C8)
        | (rw [<- hw10]; clear hw10 z1 k1 z2 k2)
        | (go_at_call 99; have _t := C12; refine C12.out.mono ?_; rintro e w13 ⟨rfl, hrw13, hfw13⟩
           have Hw13 := hi_ (Hw10.out.num hrw13 hfw13)
           have z4 := Hw13.out.r4.fz 4
           have k4 := Hw13.out.r4.at_ 4
           obtain ⟨w14, hw14⟩ : ∃ v, v = w13.setCell ⟨g4, 4, none⟩ (.int .i64 k) := ⟨_, rfl⟩
           have Hw14 := hi_ (show RdS w w14 N p _ w.heap.size g4 g5 #[.bool true, .bool true, .bool true] #[.int .i64 2, .bool true, .int .i64 c, .int .i64 0, .int .i64 k, .slice none 0 0] by have hh := Hw13.out.set 4 (.int .i64 k); rw [hw14]; simpa using hh)
           have t2 := Hw14.out.t5.at_ 2
           have qq := RNumK_any Hw14.out.rd 2 (by decide)
           rw [HQ6.out] at qq
           have C14 := hi_ qq
           clear qq
           clear hrw13 hfw13 C12 t1)
        | (rw [<- hw14]; clear hw14 z4 k4)
        | (go_at_call 99; have _t := C14; refine C14.out.mono ?_; rintro e w15 ⟨rfl, hrw15, hfw15⟩
           have Hw15 := hi_ (Hw14.out.num hrw15 hfw15)
           have qb := RBytes_any Hw15.out.rd m hm
           unfold GotB at qb
           rw [<- HBS.out] at qb
           have CB := hi_ qb
           clear qb
           clear hrw15 hfw15 C14 t2)
        | (go_at_call 101; have _t := CB; refine CB.out.mono ?_; rintro e w16 ⟨A9, n9, c9, rfl, hR9, hlo9, hn9, hr16, hf16⟩
           have H16 := hi_ (Hw15.out.num hr16 hf16)
           have z5 := H16.out.r4.fz 5
           have k5 := H16.out.r4.at_ 5
           obtain ⟨w17, hw17⟩ : ∃ v, v = w16.setCell ⟨g4, 5, none⟩ (.slice A9 n9 c9) := ⟨_, rfl⟩
           have hf17 : Fr (· = g4) w16 w17 := by rw [hw17]; exact Fr.setCell w16 (own := (· = g4)) (p := ⟨g4, 5, none⟩) rfl _
           have H17 := hi_ (show RdS w w17 N p _ w.heap.size g4 g5 #[.bool true, .bool true, .bool true] #[.int .i64 2, .bool true, .int .i64 c, .int .i64 0, .int .i64 k, .slice A9 n9 c9] by have hh := H16.out.set 5 (.slice A9 n9 c9); rw [hw17]; simpa using hh)
           have l15 := Hw15.out.r4.lt
           have l24 := Hw15.out.h24
           have D17 := hi_ (And.intro (hR9.fr hf17 (fun b o e hp e' => by have := hlo9 b o e hp; have : b = g4 := e'; omega)) (And.intro hn9 (show ∀ b o, A9 = some ⟨b, o, none⟩ -> 0 < n9 -> b ≠ w.heap.size /\ w.heap.size <= b from fun b o e hp => by have := hlo9 b o e hp; omega)))
           clear hR9 hlo9 hn9 hr16 hf16 CB hf17 l15 l24)
        | (rw [<- hw17]; clear hw17 z5 k5)
        | (go_at_call 102; refine (OK_any H17.out.rd).mono ?_; rintro e w' ⟨rfl, rfl⟩)
        | ((with_reducible refine wpList_ldS cdT rfl rfl (.tmp 4) rfl rfl H17.out.r4 ?_))
        | ((with_reducible refine wpList_stS (cs' := #[.int .i64 2, .bool true, .int .i64 c, .int .i64 0, .int .i64 k, .slice A9 n9 c9]) cdT rfl rfl (by simp [Value.oneCell']) rfl (.tmp 2) (.tmp 61) rfl rfl rfl H17.out.r2 ?_); intro wz hRz hFz)
        | ((with_reducible refine wpList_stS (cs' := #[.int .i64 2, .bool true, .int .i64 c, .int .i64 0, .int .i64 k, .slice A9 n9 c9]) cdT rfl rfl (by simp [Value.oneCell']) rfl (.tmp 2) (.tmp 62) rfl rfl rfl H17.out.r2 ?_); intro wz hRz hFz))
      refine bodyPost_ret (res_ct rfl rfl (hRz.load cdT rfl)) rfl ?_
      first
        | exact ReadE.good (x := ⟨2, true, c, 0, k, bs⟩) A9 n9 c9 (H17.out.fin hFz) (D17.out.1.fr hFz (fun b o e hp e' => (D17.out.2.2 b o e hp).1 e')) D17.out.2.1 (fun b o e hp => (D17.out.2.2 b o e hp).2)
        | exact ReadE.miss ⟨2, true, c, 0, k, bs⟩ A9 n9 c9 (H17.out.fin hFz)
set_option maxHeartbeats 4000000 in
theorem read_20 (st1 : RS) (st2 : RS) (c : Int) (st3 : RS) (g : Int) (st4 : RS) (k : Int) (st5 : RS) (m : Nat) (st6 : RS) (h : RdrIs N w p st) (hN : N <= w.heap.size) (hq1 : rdNum 1 st = (2, st1)) (hq2 : rdNum 1 st1 = (0, st2)) (hq3 : rdNum 8 st2 = (c, st3)) (hq4 : rdNum 8 st3 = (g, st4)) (hq5 : rdNum 8 st4 = (k, st5)) (hq6 : rdNum 2 st5 = ((m : Int), st6)) (hm : m <= 65535) :
    Calls Tryz.prog 95 #[.pointer (some ⟨p, 0, none⟩)] w (ReadE N p w (if 64 < (m : Int) then (Cd.zero, 13, st6) else rdFin ⟨2, false, c, g, k, (rdBytes m st6).1⟩ (rdBytes m st6).2)) := by
  obtain ⟨w1, hw1⟩ : ∃ w1, w1 = w.alloc (.cells (Cd.zero.cs none 0 0) 61) := ⟨_, rfl⟩
  have hb1 : Below w.heap.size w w1 := by rw [hw1]; exact (Below.refl _ _).alloc (Nat.le_refl _) _
  have r1 : Rec 61 w1 w.heap.size (Cd.zero.cs none 0 0) := by rw [hw1]; exact Rec.new w _ _
  have hp : p < N := by obtain ⟨_, _, _, _, _, _, _, _, hp, _⟩ := h; exact hp
  have q1 := RNumK_any (h.below hb1) 1 (by decide)
  rw [hq1] at q1
  have C1 := hi_ q1
  have H1 := hi_ (And.intro r1 (And.intro hb1 (And.intro hp hN)))
  have HV : Hid (∀ W, Calls Tryz.prog 100 #[.int .i64 2] W fun e w' => e = .returned (.tuple #[.agg #[.bool true, .bool true, .bool true], .bool true]) /\ Below W.heap.size W w') := hi_ (fun W => (has_any 2 W).mono fun e w' hp => by simpa [HasP, hasV, hasB] using hp)
  have HQ2 := hi_ hq2
  have HQ3 := hi_ hq3
  have HQ4 := hi_ hq4
  have HQ5 := hi_ hq5
  have HQ6 := hi_ hq6
  clear h hN hb1 r1 hp q1 hq1 hq2 hq3 hq4 hq5 hq6
  by_cases h64 : 64 < m
  · rw [if_pos (by omega)]
    go_enter Tryz.func95, Tryz.ntmps95
    go_wp2_with (first
      | (rw [<- hw1]; clear hw1)
      | (go_at_call 99; have _t := C1; refine C1.out.mono ?_; rintro e w2 ⟨rfl, hr2, hf2⟩
         obtain ⟨w3, hw3⟩ : ∃ w3, w3 = w2.alloc (.cells (Cd.zero.cs none 0 0) 61) := ⟨_, rfl⟩
         have R3 := hi_ (show Rec 61 w3 w2.heap.size (Cd.zero.cs none 0 0) by rw [hw3]; exact Rec.new w2 _ _)
         have B3 := hi_ (show Below w2.heap.size w2 w3 by rw [hw3]; exact (Below.refl _ _).alloc (Nat.le_refl _) _)
         have H2 := hi_ (And.intro hr2 (And.intro hf2 (H1.out.1.fr hf2 (by have := H1.out.2.2; omega))))
         clear hr2 hf2 C1)
      | (rw [<- hw3]; clear hw3)
      | ((with_reducible refine wpList_stS (cs' := #[.int .i64 2, .bool false, .int .i64 0, .int .i64 0, .int .i64 0, .slice none 0 0]) cdT rfl rfl (by simp [Value.oneCell']) rfl (.tmp 4) (.tmp 11) rfl rfl rfl R3.out ?_); intro w4 hR4 hF4
         have b4 : Below w2.heap.size w2 w4 := B3.out.trans (hF4.toBelow (fun y hy => by have : y = w2.heap.size := hy; omega) B3.out.size)
         have q40 := hR4.at_ 0
         have H4 := hi_ (And.intro hR4 b4)
         clear hR4 hF4 b4 R3 B3)
      | (go_at_call 100; refine (HV.out w4).mono ?_; rintro e w5 ⟨rfl, hb5⟩
         obtain ⟨w6, hw6⟩ : ∃ w6, w6 = w5.alloc (.cells #[.bool false, .bool false, .bool false] 139) := ⟨_, rfl⟩
         have T6 := hi_ (show Rec 139 w6 w5.heap.size #[.bool false, .bool false, .bool false] by rw [hw6]; exact Rec.new w5 _ _)
         have B6 := hi_ (show Below w5.heap.size w5 w6 by rw [hw6]; exact (Below.refl _ _).alloc (Nat.le_refl _) _)
         have B5 := hi_ hb5
         clear hb5 q40)
      | (rw [<- hw6]; clear hw6)
      | ((with_reducible refine wpList_stS (cs' := #[.bool true, .bool true, .bool true]) trT rfl rfl (by simp [Value.oneCell']) rfl (.tmp 5) (.tmp 16) rfl rfl rfl T6.out ?_); intro w7 hR7 hF7
         have b57 : Below w5.heap.size w5 w7 := B6.out.trans (hF7.toBelow (fun y hy => by have : y = w5.heap.size := hy; omega) B6.out.size)
         have b47 : Below w4.heap.size w4 w7 := B5.out.trans (b57.mono B5.out.size)
         have b27 : Below w2.heap.size w2 w7 := H4.out.2.trans (b47.mono H4.out.2.size)
         have l4 := H4.out.1.lt
         have l1 := H1.out.1.lt
         have H7 := hi_ (show RdS w w7 N p st1 w.heap.size w2.heap.size w5.heap.size #[.bool true, .bool true, .bool true] #[.int .i64 2, .bool false, .int .i64 0, .int .i64 0, .int .i64 0, .slice none 0 0] from
           ⟨H2.out.1.below b27, H2.out.2.2.under b27, H4.out.1.under b47, hR7, (Fr.ofBelow _ H1.out.2.1).trans' (H2.out.2.1.trans (Fr.ofBelow _ b27)) (fun _ hx => .inl hx), H1.out.2.2.1, H1.out.2.2.2, Nat.le_refl _, by have := H2.out.2.1.size; omega, by have := B5.out.size; omega⟩)
         have t0 := H7.out.t5.at_ 0
         obtain ⟨g4, hg4⟩ : ∃ g4, g4 = w2.heap.size := ⟨_, rfl⟩
         obtain ⟨g5, hg5⟩ : ∃ g5, g5 = w5.heap.size := ⟨_, rfl⟩
         rw [<- hg4, <- hg5] at H7
         rw [<- hg5] at t0
         simp only [<- hg4, <- hg5]
         have qq := RNumK_any H7.out.rd 1 (by decide)
         rw [HQ2.out] at qq
         have C7 := hi_ qq
         clear qq
         clear hR7 hF7 b57 b47 b27 l4 l1 H2 H4 T6 B6 hg4 hg5)
      | (go_at_call 99; have _t := C7; refine C7.out.mono ?_; rintro e w8 ⟨rfl, hrw8, hfw8⟩
         have Hw8 := hi_ (H7.out.num hrw8 hfw8)
         have qq := RNumK_any Hw8.out.rd 8 (by decide)
         rw [HQ3.out] at qq
         have C8 := hi_ qq
         clear qq
         clear hrw8 hfw8 C7 t0)
      | (go_at_call 99; have _t := C8; refine C8.out.mono ?_; rintro e w9 ⟨rfl, hrw9, hfw9⟩
         have Hw9 := hi_ (Hw8.out.num hrw9 hfw9)
         have z1 := Hw9.out.r4.fz 1
         have k1 := Hw9.out.r4.at_ 1
         have z2 := Hw9.out.r4.fz 2
         have k2 := Hw9.out.r4.at_ 2
         obtain ⟨w10, hw10⟩ : ∃ v, v = (w9.setCell ⟨g4, 1, none⟩ (.bool false)).setCell ⟨g4, 2, none⟩ (.int .i64 c) := ⟨_, rfl⟩
         have Hw10 := hi_ (show RdS w w10 N p _ w.heap.size g4 g5 #[.bool true, .bool true, .bool true] #[.int .i64 2, .bool false, .int .i64 c, .int .i64 0, .int .i64 0, .slice none 0 0] by have hh := (Hw9.out.set 1 (.bool false)).set 2 (.int .i64 c); rw [hw10]; simpa using hh)
         have q1 := Hw10.out.r4.at_ 1
         have qq := RNumK_any Hw10.out.rd 8 (by decide)
         rw [HQ4.out] at qq
         have C10 := hi_ qq
         clear qq
         clear hrw9 hfw9 C8)
      | (rw [<- hw10]; clear hw10 z1 k1 z2 k2)
      | (go_at_call 99; have _t := C10; refine C10.out.mono ?_; rintro e w11 ⟨rfl, hrw11, hfw11⟩
         have Hw11 := hi_ (Hw10.out.num hrw11 hfw11)
         have z3 := Hw11.out.r4.fz 3
         have k3 := Hw11.out.r4.at_ 3
         obtain ⟨w12, hw12⟩ : ∃ v, v = w11.setCell ⟨g4, 3, none⟩ (.int .i64 g) := ⟨_, rfl⟩
         have Hw12 := hi_ (show RdS w w12 N p _ w.heap.size g4 g5 #[.bool true, .bool true, .bool true] #[.int .i64 2, .bool false, .int .i64 c, .int .i64 g, .int .i64 0, .slice none 0 0] by have hh := Hw11.out.set 3 (.int .i64 g); rw [hw12]; simpa using hh)
         have t1 := Hw12.out.t5.at_ 1
         have qq := RNumK_any Hw12.out.rd 8 (by decide)
         rw [HQ5.out] at qq
         have C12 := hi_ qq
         clear qq
         clear hrw11 hfw11 C10 q1)
      | (rw [<- hw12]; clear hw12 z3 k3)
      | (go_at_call 99; have _t := C12; refine C12.out.mono ?_; rintro e w13 ⟨rfl, hrw13, hfw13⟩
         have Hw13 := hi_ (Hw12.out.num hrw13 hfw13)
         have z4 := Hw13.out.r4.fz 4
         have k4 := Hw13.out.r4.at_ 4
         obtain ⟨w14, hw14⟩ : ∃ v, v = w13.setCell ⟨g4, 4, none⟩ (.int .i64 k) := ⟨_, rfl⟩
         have Hw14 := hi_ (show RdS w w14 N p _ w.heap.size g4 g5 #[.bool true, .bool true, .bool true] #[.int .i64 2, .bool false, .int .i64 c, .int .i64 g, .int .i64 k, .slice none 0 0] by have hh := Hw13.out.set 4 (.int .i64 k); rw [hw14]; simpa using hh)
         have t2 := Hw14.out.t5.at_ 2
         have qq := RNumK_any Hw14.out.rd 2 (by decide)
         rw [HQ6.out] at qq
         have C14 := hi_ qq
         clear qq
         clear hrw13 hfw13 C12 t1)
      | (rw [<- hw14]; clear hw14 z4 k4)
      | (go_at_call 99; have _t := C14; refine C14.out.mono ?_; rintro e w15 ⟨rfl, hrw15, hfw15⟩
         have Hw15 := hi_ (Hw14.out.num hrw15 hfw15)
         clear hrw15 hfw15 C14 t2)
      | ((with_reducible refine wpList_ldS cdT rfl rfl (.tmp 4) rfl rfl Hw15.out.r4 ?_))
      | ((with_reducible refine wpList_stS (cs' := #[.int .i64 2, .bool false, .int .i64 c, .int .i64 g, .int .i64 k, .slice none 0 0]) cdT rfl rfl (by simp [Value.oneCell']) rfl (.tmp 2) (.tmp 53) rfl rfl rfl Hw15.out.r2 ?_); intro wz hRz hFz))
    refine bodyPost_ret (res_ct rfl rfl (hRz.load cdT rfl)) rfl ?_
    exact ReadE.fault ⟨2, false, c, g, k, []⟩ none 0 0 (Hw15.out.fin hFz) (by decide)
  · rw [if_neg (by omega)]
    obtain ⟨⟨bs, ⟨ll, mm⟩⟩, hbs⟩ : ∃ q, q = rdBytes m st6 := ⟨_, rfl⟩
    rw [<- hbs]
    have HBS := hi_ hbs
    clear hbs
    cases mm
    all_goals
      go_enter Tryz.func95, Tryz.ntmps95
      go_wp2_with (first
        | (rw [<- hw1]; clear hw1)
        | (go_at_call 99; have _t := C1; refine C1.out.mono ?_; rintro e w2 ⟨rfl, hr2, hf2⟩
           obtain ⟨w3, hw3⟩ : ∃ w3, w3 = w2.alloc (.cells (Cd.zero.cs none 0 0) 61) := ⟨_, rfl⟩
           have R3 := hi_ (show Rec 61 w3 w2.heap.size (Cd.zero.cs none 0 0) by rw [hw3]; exact Rec.new w2 _ _)
           have B3 := hi_ (show Below w2.heap.size w2 w3 by rw [hw3]; exact (Below.refl _ _).alloc (Nat.le_refl _) _)
           have H2 := hi_ (And.intro hr2 (And.intro hf2 (H1.out.1.fr hf2 (by have := H1.out.2.2; omega))))
           clear hr2 hf2 C1)
        | (rw [<- hw3]; clear hw3)
        | ((with_reducible refine wpList_stS (cs' := #[.int .i64 2, .bool false, .int .i64 0, .int .i64 0, .int .i64 0, .slice none 0 0]) cdT rfl rfl (by simp [Value.oneCell']) rfl (.tmp 4) (.tmp 11) rfl rfl rfl R3.out ?_); intro w4 hR4 hF4
           have b4 : Below w2.heap.size w2 w4 := B3.out.trans (hF4.toBelow (fun y hy => by have : y = w2.heap.size := hy; omega) B3.out.size)
           have q40 := hR4.at_ 0
           have H4 := hi_ (And.intro hR4 b4)
           clear hR4 hF4 b4 R3 B3)
        | (go_at_call 100; refine (HV.out w4).mono ?_; rintro e w5 ⟨rfl, hb5⟩
           obtain ⟨w6, hw6⟩ : ∃ w6, w6 = w5.alloc (.cells #[.bool false, .bool false, .bool false] 139) := ⟨_, rfl⟩
           have T6 := hi_ (show Rec 139 w6 w5.heap.size #[.bool false, .bool false, .bool false] by rw [hw6]; exact Rec.new w5 _ _)
           have B6 := hi_ (show Below w5.heap.size w5 w6 by rw [hw6]; exact (Below.refl _ _).alloc (Nat.le_refl _) _)
           have B5 := hi_ hb5
           clear hb5 q40)
        | (rw [<- hw6]; clear hw6)
        | ((with_reducible refine wpList_stS (cs' := #[.bool true, .bool true, .bool true]) trT rfl rfl (by simp [Value.oneCell']) rfl (.tmp 5) (.tmp 16) rfl rfl rfl T6.out ?_); intro w7 hR7 hF7
           have b57 : Below w5.heap.size w5 w7 := B6.out.trans (hF7.toBelow (fun y hy => by have : y = w5.heap.size := hy; omega) B6.out.size)
           have b47 : Below w4.heap.size w4 w7 := B5.out.trans (b57.mono B5.out.size)
           have b27 : Below w2.heap.size w2 w7 := H4.out.2.trans (b47.mono H4.out.2.size)
           have l4 := H4.out.1.lt
           have l1 := H1.out.1.lt
           have H7 := hi_ (show RdS w w7 N p st1 w.heap.size w2.heap.size w5.heap.size #[.bool true, .bool true, .bool true] #[.int .i64 2, .bool false, .int .i64 0, .int .i64 0, .int .i64 0, .slice none 0 0] from
             ⟨H2.out.1.below b27, H2.out.2.2.under b27, H4.out.1.under b47, hR7, (Fr.ofBelow _ H1.out.2.1).trans' (H2.out.2.1.trans (Fr.ofBelow _ b27)) (fun _ hx => .inl hx), H1.out.2.2.1, H1.out.2.2.2, Nat.le_refl _, by have := H2.out.2.1.size; omega, by have := B5.out.size; omega⟩)
           have t0 := H7.out.t5.at_ 0
           obtain ⟨g4, hg4⟩ : ∃ g4, g4 = w2.heap.size := ⟨_, rfl⟩
           obtain ⟨g5, hg5⟩ : ∃ g5, g5 = w5.heap.size := ⟨_, rfl⟩
           rw [<- hg4, <- hg5] at H7
           rw [<- hg5] at t0
           simp only [<- hg4, <- hg5]
           have qq := RNumK_any H7.out.rd 1 (by decide)
           rw [HQ2.out] at qq
           have C7 := hi_ qq
           clear qq
           clear hR7 hF7 b57 b47 b27 l4 l1 H2 H4 T6 B6 hg4 hg5)
        | (go_at_call 99; have _t := C7; refine C7.out.mono ?_; rintro e w8 ⟨rfl, hrw8, hfw8⟩
           have Hw8 := hi_ (H7.out.num hrw8 hfw8)
           have qq := RNumK_any Hw8.out.rd 8 (by decide)
           rw [HQ3.out] at qq
           have C8 := hi_ qq
           clear qq
           clear hrw8 hfw8 C7 t0)
        | (go_at_call 99; have _t := C8; refine C8.out.mono ?_; rintro e w9 ⟨rfl, hrw9, hfw9⟩
           have Hw9 := hi_ (Hw8.out.num hrw9 hfw9)
           have z1 := Hw9.out.r4.fz 1
           have k1 := Hw9.out.r4.at_ 1
           have z2 := Hw9.out.r4.fz 2
           have k2 := Hw9.out.r4.at_ 2
           obtain ⟨w10, hw10⟩ : ∃ v, v = (w9.setCell ⟨g4, 1, none⟩ (.bool false)).setCell ⟨g4, 2, none⟩ (.int .i64 c) := ⟨_, rfl⟩
           have Hw10 := hi_ (show RdS w w10 N p _ w.heap.size g4 g5 #[.bool true, .bool true, .bool true] #[.int .i64 2, .bool false, .int .i64 c, .int .i64 0, .int .i64 0, .slice none 0 0] by have hh := (Hw9.out.set 1 (.bool false)).set 2 (.int .i64 c); rw [hw10]; simpa using hh)
           have q1 := Hw10.out.r4.at_ 1
           have qq := RNumK_any Hw10.out.rd 8 (by decide)
           rw [HQ4.out] at qq
           have C10 := hi_ qq
           clear qq
           clear hrw9 hfw9 C8)
        | (rw [<- hw10]; clear hw10 z1 k1 z2 k2)
        | (go_at_call 99; have _t := C10; refine C10.out.mono ?_; rintro e w11 ⟨rfl, hrw11, hfw11⟩
           have Hw11 := hi_ (Hw10.out.num hrw11 hfw11)
           have z3 := Hw11.out.r4.fz 3
           have k3 := Hw11.out.r4.at_ 3
           obtain ⟨w12, hw12⟩ : ∃ v, v = w11.setCell ⟨g4, 3, none⟩ (.int .i64 g) := ⟨_, rfl⟩
           have Hw12 := hi_ (show RdS w w12 N p _ w.heap.size g4 g5 #[.bool true, .bool true, .bool true] #[.int .i64 2, .bool false, .int .i64 c, .int .i64 g, .int .i64 0, .slice none 0 0] by have hh := Hw11.out.set 3 (.int .i64 g); rw [hw12]; simpa using hh)
           have t1 := Hw12.out.t5.at_ 1
           have qq := RNumK_any Hw12.out.rd 8 (by decide)
           rw [HQ5.out] at qq
           have C12 := hi_ qq
           clear qq
           clear hrw11 hfw11 C10 q1)
        | (rw [<- hw12]; clear hw12 z3 k3)
        | (go_at_call 99; have _t := C12; refine C12.out.mono ?_; rintro e w13 ⟨rfl, hrw13, hfw13⟩
           have Hw13 := hi_ (Hw12.out.num hrw13 hfw13)
           have z4 := Hw13.out.r4.fz 4
           have k4 := Hw13.out.r4.at_ 4
           obtain ⟨w14, hw14⟩ : ∃ v, v = w13.setCell ⟨g4, 4, none⟩ (.int .i64 k) := ⟨_, rfl⟩
           have Hw14 := hi_ (show RdS w w14 N p _ w.heap.size g4 g5 #[.bool true, .bool true, .bool true] #[.int .i64 2, .bool false, .int .i64 c, .int .i64 g, .int .i64 k, .slice none 0 0] by have hh := Hw13.out.set 4 (.int .i64 k); rw [hw14]; simpa using hh)
           have t2 := Hw14.out.t5.at_ 2
           have qq := RNumK_any Hw14.out.rd 2 (by decide)
           rw [HQ6.out] at qq
           have C14 := hi_ qq
           clear qq
           clear hrw13 hfw13 C12 t1)
        | (rw [<- hw14]; clear hw14 z4 k4)
        | (go_at_call 99; have _t := C14; refine C14.out.mono ?_; rintro e w15 ⟨rfl, hrw15, hfw15⟩
           have Hw15 := hi_ (Hw14.out.num hrw15 hfw15)
           have qb := RBytes_any Hw15.out.rd m hm
           unfold GotB at qb
           rw [<- HBS.out] at qb
           have CB := hi_ qb
           clear qb
           clear hrw15 hfw15 C14 t2)
        | (go_at_call 101; have _t := CB; refine CB.out.mono ?_; rintro e w16 ⟨A9, n9, c9, rfl, hR9, hlo9, hn9, hr16, hf16⟩
           have H16 := hi_ (Hw15.out.num hr16 hf16)
           have z5 := H16.out.r4.fz 5
           have k5 := H16.out.r4.at_ 5
           obtain ⟨w17, hw17⟩ : ∃ v, v = w16.setCell ⟨g4, 5, none⟩ (.slice A9 n9 c9) := ⟨_, rfl⟩
           have hf17 : Fr (· = g4) w16 w17 := by rw [hw17]; exact Fr.setCell w16 (own := (· = g4)) (p := ⟨g4, 5, none⟩) rfl _
           have H17 := hi_ (show RdS w w17 N p _ w.heap.size g4 g5 #[.bool true, .bool true, .bool true] #[.int .i64 2, .bool false, .int .i64 c, .int .i64 g, .int .i64 k, .slice A9 n9 c9] by have hh := H16.out.set 5 (.slice A9 n9 c9); rw [hw17]; simpa using hh)
           have l15 := Hw15.out.r4.lt
           have l24 := Hw15.out.h24
           have D17 := hi_ (And.intro (hR9.fr hf17 (fun b o e hp e' => by have := hlo9 b o e hp; have : b = g4 := e'; omega)) (And.intro hn9 (show ∀ b o, A9 = some ⟨b, o, none⟩ -> 0 < n9 -> b ≠ w.heap.size /\ w.heap.size <= b from fun b o e hp => by have := hlo9 b o e hp; omega)))
           clear hR9 hlo9 hn9 hr16 hf16 CB hf17 l15 l24)
        | (rw [<- hw17]; clear hw17 z5 k5)
        | (go_at_call 102; refine (OK_any H17.out.rd).mono ?_; rintro e w' ⟨rfl, rfl⟩)
        | ((with_reducible refine wpList_ldS cdT rfl rfl (.tmp 4) rfl rfl H17.out.r4 ?_))
        | ((with_reducible refine wpList_stS (cs' := #[.int .i64 2, .bool false, .int .i64 c, .int .i64 g, .int .i64 k, .slice A9 n9 c9]) cdT rfl rfl (by simp [Value.oneCell']) rfl (.tmp 2) (.tmp 61) rfl rfl rfl H17.out.r2 ?_); intro wz hRz hFz)
        | ((with_reducible refine wpList_stS (cs' := #[.int .i64 2, .bool false, .int .i64 c, .int .i64 g, .int .i64 k, .slice A9 n9 c9]) cdT rfl rfl (by simp [Value.oneCell']) rfl (.tmp 2) (.tmp 62) rfl rfl rfl H17.out.r2 ?_); intro wz hRz hFz))
      refine bodyPost_ret (res_ct rfl rfl (hRz.load cdT rfl)) rfl ?_
      first
        | exact ReadE.good (x := ⟨2, false, c, g, k, bs⟩) A9 n9 c9 (H17.out.fin hFz) (D17.out.1.fr hFz (fun b o e hp e' => (D17.out.2.2 b o e hp).1 e')) D17.out.2.1 (fun b o e hp => (D17.out.2.2 b o e hp).2)
        | exact ReadE.miss ⟨2, false, c, g, k, bs⟩ A9 n9 c9 (H17.out.fin hFz)
set_option maxHeartbeats 4000000 in
theorem read_3x (st1 : RS) (st2 : RS) (b : Int) (h : RdrIs N w p st) (hN : N <= w.heap.size) (hq1 : rdNum 1 st = (3, st1)) (hq2 : rdNum 1 st1 = (b, st2)) (hb : 1 < b) :
    Calls Tryz.prog 95 #[.pointer (some ⟨p, 0, none⟩)] w (ReadE N p w (Cd.zero, 11, st2)) := by
  obtain ⟨w1, hw1⟩ : ∃ w1, w1 = w.alloc (.cells (Cd.zero.cs none 0 0) 61) := ⟨_, rfl⟩
  have hb1 : Below w.heap.size w w1 := by rw [hw1]; exact (Below.refl _ _).alloc (Nat.le_refl _) _
  have r1 : Rec 61 w1 w.heap.size (Cd.zero.cs none 0 0) := by rw [hw1]; exact Rec.new w _ _
  have hp : p < N := by obtain ⟨_, _, _, _, _, _, _, _, hp, _⟩ := h; exact hp
  have q1 := RNumK_any (h.below hb1) 1 (by decide)
  rw [hq1] at q1
  have C1 := hi_ q1
  have H1 := hi_ (And.intro r1 (And.intro hb1 (And.intro hp hN)))
  have HV : Hid (∀ W, Calls Tryz.prog 100 #[.int .i64 3] W fun e w' => e = .returned (.tuple #[.agg #[.bool true, .bool true, .bool false], .bool true]) /\ Below W.heap.size W w') := hi_ (fun W => (has_any 3 W).mono fun e w' hp => by simpa [HasP, hasV, hasB] using hp)
  have HQ2 := hi_ hq2
  clear h hN hb1 r1 hp q1 hq1 hq2
  go_enter Tryz.func95, Tryz.ntmps95
  go_wp2_with (first
    | (rw [<- hw1]; clear hw1)
    | (go_at_call 99; have _t := C1; refine C1.out.mono ?_; rintro e w2 ⟨rfl, hr2, hf2⟩
       obtain ⟨w3, hw3⟩ : ∃ w3, w3 = w2.alloc (.cells (Cd.zero.cs none 0 0) 61) := ⟨_, rfl⟩
       have R3 := hi_ (show Rec 61 w3 w2.heap.size (Cd.zero.cs none 0 0) by rw [hw3]; exact Rec.new w2 _ _)
       have B3 := hi_ (show Below w2.heap.size w2 w3 by rw [hw3]; exact (Below.refl _ _).alloc (Nat.le_refl _) _)
       have H2 := hi_ (And.intro hr2 (And.intro hf2 (H1.out.1.fr hf2 (by have := H1.out.2.2; omega))))
       clear hr2 hf2 C1)
    | (rw [<- hw3]; clear hw3)
    | ((with_reducible refine wpList_stS (cs' := #[.int .i64 3, .bool false, .int .i64 0, .int .i64 0, .int .i64 0, .slice none 0 0]) cdT rfl rfl (by simp [Value.oneCell']) rfl (.tmp 4) (.tmp 11) rfl rfl rfl R3.out ?_); intro w4 hR4 hF4
       have b4 : Below w2.heap.size w2 w4 := B3.out.trans (hF4.toBelow (fun y hy => by have : y = w2.heap.size := hy; omega) B3.out.size)
       have q40 := hR4.at_ 0
       have H4 := hi_ (And.intro hR4 b4)
       clear hR4 hF4 b4 R3 B3)
    | (go_at_call 100; refine (HV.out w4).mono ?_; rintro e w5 ⟨rfl, hb5⟩
       obtain ⟨w6, hw6⟩ : ∃ w6, w6 = w5.alloc (.cells #[.bool false, .bool false, .bool false] 139) := ⟨_, rfl⟩
       have T6 := hi_ (show Rec 139 w6 w5.heap.size #[.bool false, .bool false, .bool false] by rw [hw6]; exact Rec.new w5 _ _)
       have B6 := hi_ (show Below w5.heap.size w5 w6 by rw [hw6]; exact (Below.refl _ _).alloc (Nat.le_refl _) _)
       have B5 := hi_ hb5
       clear hb5 q40)
    | (rw [<- hw6]; clear hw6)
    | ((with_reducible refine wpList_stS (cs' := #[.bool true, .bool true, .bool false]) trT rfl rfl (by simp [Value.oneCell']) rfl (.tmp 5) (.tmp 16) rfl rfl rfl T6.out ?_); intro w7 hR7 hF7
       have b57 : Below w5.heap.size w5 w7 := B6.out.trans (hF7.toBelow (fun y hy => by have : y = w5.heap.size := hy; omega) B6.out.size)
       have b47 : Below w4.heap.size w4 w7 := B5.out.trans (b57.mono B5.out.size)
       have b27 : Below w2.heap.size w2 w7 := H4.out.2.trans (b47.mono H4.out.2.size)
       have l4 := H4.out.1.lt
       have l1 := H1.out.1.lt
       have H7 := hi_ (show RdS w w7 N p st1 w.heap.size w2.heap.size w5.heap.size #[.bool true, .bool true, .bool false] #[.int .i64 3, .bool false, .int .i64 0, .int .i64 0, .int .i64 0, .slice none 0 0] from
         ⟨H2.out.1.below b27, H2.out.2.2.under b27, H4.out.1.under b47, hR7, (Fr.ofBelow _ H1.out.2.1).trans' (H2.out.2.1.trans (Fr.ofBelow _ b27)) (fun _ hx => .inl hx), H1.out.2.2.1, H1.out.2.2.2, Nat.le_refl _, by have := H2.out.2.1.size; omega, by have := B5.out.size; omega⟩)
       have t0 := H7.out.t5.at_ 0
       obtain ⟨g4, hg4⟩ : ∃ g4, g4 = w2.heap.size := ⟨_, rfl⟩
       obtain ⟨g5, hg5⟩ : ∃ g5, g5 = w5.heap.size := ⟨_, rfl⟩
       rw [<- hg4, <- hg5] at H7
       rw [<- hg5] at t0
       simp only [<- hg4, <- hg5]
       have qq := RNumK_any H7.out.rd 1 (by decide)
       rw [HQ2.out] at qq
       have C7 := hi_ qq
       clear qq
       clear hR7 hF7 b57 b47 b27 l4 l1 H2 H4 T6 B6 hg4 hg5)
    | (go_at_call 99; have _t := C7; refine C7.out.mono ?_; rintro e w8 ⟨rfl, hrw8, hfw8⟩
       have Hw8 := hi_ (H7.out.num hrw8 hfw8)
       clear hrw8 hfw8 C7 t0)
    | ((with_reducible refine wpList_ldS cdT rfl rfl (.tmp 4) rfl rfl Hw8.out.r4 ?_))
    | ((with_reducible refine wpList_stS (cs' := #[.int .i64 3, .bool false, .int .i64 0, .int .i64 0, .int .i64 0, .slice none 0 0]) cdT rfl rfl (by simp [Value.oneCell']) rfl (.tmp 2) (.tmp 27) rfl rfl rfl Hw8.out.r2 ?_); intro wz hRz hFz))
  refine bodyPost_ret (res_ct rfl rfl (hRz.load cdT rfl)) rfl ?_
  exact ReadE.fault ⟨3, false, 0, 0, 0, []⟩ none 0 0 (Hw8.out.fin hFz) (by decide)
set_option maxHeartbeats 4000000 in
theorem read_31 (st1 : RS) (st2 : RS) (c : Int) (st3 : RS) (k : Int) (st5 : RS) (h : RdrIs N w p st) (hN : N <= w.heap.size) (hq1 : rdNum 1 st = (3, st1)) (hq2 : rdNum 1 st1 = (1, st2)) (hq3 : rdNum 8 st2 = (c, st3)) (hq5 : rdNum 8 st3 = (k, st5)) :
    Calls Tryz.prog 95 #[.pointer (some ⟨p, 0, none⟩)] w (ReadE N p w (rdFin ⟨3, true, c, 0, k, []⟩ st5)) := by
  obtain ⟨w1, hw1⟩ : ∃ w1, w1 = w.alloc (.cells (Cd.zero.cs none 0 0) 61) := ⟨_, rfl⟩
  have hb1 : Below w.heap.size w w1 := by rw [hw1]; exact (Below.refl _ _).alloc (Nat.le_refl _) _
  have r1 : Rec 61 w1 w.heap.size (Cd.zero.cs none 0 0) := by rw [hw1]; exact Rec.new w _ _
  have hp : p < N := by obtain ⟨_, _, _, _, _, _, _, _, hp, _⟩ := h; exact hp
  have q1 := RNumK_any (h.below hb1) 1 (by decide)
  rw [hq1] at q1
  have C1 := hi_ q1
  have H1 := hi_ (And.intro r1 (And.intro hb1 (And.intro hp hN)))
  have HV : Hid (∀ W, Calls Tryz.prog 100 #[.int .i64 3] W fun e w' => e = .returned (.tuple #[.agg #[.bool true, .bool true, .bool false], .bool true]) /\ Below W.heap.size W w') := hi_ (fun W => (has_any 3 W).mono fun e w' hp => by simpa [HasP, hasV, hasB] using hp)
  have HQ2 := hi_ hq2
  have HQ3 := hi_ hq3
  have HQ5 := hi_ hq5
  clear h hN hb1 r1 hp q1 hq1 hq2 hq3 hq5
  obtain ⟨ll, mm⟩ := st5
  cases mm
  all_goals
    go_enter Tryz.func95, Tryz.ntmps95
    go_wp2_with (first
      | (rw [<- hw1]; clear hw1)
      | (go_at_call 99; have _t := C1; refine C1.out.mono ?_; rintro e w2 ⟨rfl, hr2, hf2⟩
         obtain ⟨w3, hw3⟩ : ∃ w3, w3 = w2.alloc (.cells (Cd.zero.cs none 0 0) 61) := ⟨_, rfl⟩
         have R3 := hi_ (show Rec 61 w3 w2.heap.size (Cd.zero.cs none 0 0) by rw [hw3]; exact Rec.new w2 _ _)
         have B3 := hi_ (show Below w2.heap.size w2 w3 by rw [hw3]; exact (Below.refl _ _).alloc (Nat.le_refl _) _)
         have H2 := hi_ (And.intro hr2 (And.intro hf2 (H1.out.1.fr hf2 (by have := H1.out.2.2; omega))))
         clear hr2 hf2 C1)
      | (rw [<- hw3]; clear hw3)
      | ((with_reducible refine wpList_stS (cs' := #[.int .i64 3, .bool false, .int .i64 0, .int .i64 0, .int .i64 0, .slice none 0 0]) cdT rfl rfl (by simp [Value.oneCell']) rfl (.tmp 4) (.tmp 11) rfl rfl rfl R3.out ?_); intro w4 hR4 hF4
         have b4 : Below w2.heap.size w2 w4 := B3.out.trans (hF4.toBelow (fun y hy => by have : y = w2.heap.size := hy; omega) B3.out.size)
         have q40 := hR4.at_ 0
         have H4 := hi_ (And.intro hR4 b4)
         clear hR4 hF4 b4 R3 B3)
      | (go_at_call 100; refine (HV.out w4).mono ?_; rintro e w5 ⟨rfl, hb5⟩
         obtain ⟨w6, hw6⟩ : ∃ w6, w6 = w5.alloc (.cells #[.bool false, .bool false, .bool false] 139) := ⟨_, rfl⟩
         have T6 := hi_ (show Rec 139 w6 w5.heap.size #[.bool false, .bool false, .bool false] by rw [hw6]; exact Rec.new w5 _ _)
         have B6 := hi_ (show Below w5.heap.size w5 w6 by rw [hw6]; exact (Below.refl _ _).alloc (Nat.le_refl _) _)
         have B5 := hi_ hb5
         clear hb5 q40)
      | (rw [<- hw6]; clear hw6)
      | ((with_reducible refine wpList_stS (cs' := #[.bool true, .bool true, .bool false]) trT rfl rfl (by simp [Value.oneCell']) rfl (.tmp 5) (.tmp 16) rfl rfl rfl T6.out ?_); intro w7 hR7 hF7
         have b57 : Below w5.heap.size w5 w7 := B6.out.trans (hF7.toBelow (fun y hy => by have : y = w5.heap.size := hy; omega) B6.out.size)
         have b47 : Below w4.heap.size w4 w7 := B5.out.trans (b57.mono B5.out.size)
         have b27 : Below w2.heap.size w2 w7 := H4.out.2.trans (b47.mono H4.out.2.size)
         have l4 := H4.out.1.lt
         have l1 := H1.out.1.lt
         have H7 := hi_ (show RdS w w7 N p st1 w.heap.size w2.heap.size w5.heap.size #[.bool true, .bool true, .bool false] #[.int .i64 3, .bool false, .int .i64 0, .int .i64 0, .int .i64 0, .slice none 0 0] from
           ⟨H2.out.1.below b27, H2.out.2.2.under b27, H4.out.1.under b47, hR7, (Fr.ofBelow _ H1.out.2.1).trans' (H2.out.2.1.trans (Fr.ofBelow _ b27)) (fun _ hx => .inl hx), H1.out.2.2.1, H1.out.2.2.2, Nat.le_refl _, by have := H2.out.2.1.size; omega, by have := B5.out.size; omega⟩)
         have t0 := H7.out.t5.at_ 0
         obtain ⟨g4, hg4⟩ : ∃ g4, g4 = w2.heap.size := ⟨_, rfl⟩
         obtain ⟨g5, hg5⟩ : ∃ g5, g5 = w5.heap.size := ⟨_, rfl⟩
         rw [<- hg4, <- hg5] at H7
         rw [<- hg5] at t0
         simp only [<- hg4, <- hg5]
         have qq := RNumK_any H7.out.rd 1 (by decide)
         rw [HQ2.out] at qq
         have C7 := hi_ qq
         clear qq
         clear hR7 hF7 b57 b47 b27 l4 l1 H2 H4 T6 B6 hg4 hg5)
      | (go_at_call 99; have _t := C7; refine C7.out.mono ?_; rintro e w8 ⟨rfl, hrw8, hfw8⟩
         have Hw8 := hi_ (H7.out.num hrw8 hfw8)
         have qq := RNumK_any Hw8.out.rd 8 (by decide)
         rw [HQ3.out] at qq
         have C8 := hi_ qq
         clear qq
         clear hrw8 hfw8 C7 t0)
      | (go_at_call 99; have _t := C8; refine C8.out.mono ?_; rintro e w9 ⟨rfl, hrw9, hfw9⟩
         have Hw9 := hi_ (Hw8.out.num hrw9 hfw9)
         have z1 := Hw9.out.r4.fz 1
         have k1 := Hw9.out.r4.at_ 1
         have z2 := Hw9.out.r4.fz 2
         have k2 := Hw9.out.r4.at_ 2
         obtain ⟨w10, hw10⟩ : ∃ v, v = (w9.setCell ⟨g4, 1, none⟩ (.bool true)).setCell ⟨g4, 2, none⟩ (.int .i64 c) := ⟨_, rfl⟩
         have Hw10 := hi_ (show RdS w w10 N p _ w.heap.size g4 g5 #[.bool true, .bool true, .bool false] #[.int .i64 3, .bool true, .int .i64 c, .int .i64 0, .int .i64 0, .slice none 0 0] by have hh := (Hw9.out.set 1 (.bool true)).set 2 (.int .i64 c); rw [hw10]; simpa using hh)
         have q1 := Hw10.out.r4.at_ 1
         have t1 := Hw10.out.t5.at_ 1
         have qq := RNumK_any Hw10.out.rd 8 (by decide)
         rw [HQ5.out] at qq
         have C12 := hi_ qq
         clear qq
         clear hrw9 hfw9 C8)
      | (rw [<- hw10]; clear hw10 z1 k1 z2 k2)
      | (go_at_call 99; have _t := C12; refine C12.out.mono ?_; rintro e w13 ⟨rfl, hrw13, hfw13⟩
         have Hw13 := hi_ (Hw10.out.num hrw13 hfw13)
         have z4 := Hw13.out.r4.fz 4
         have k4 := Hw13.out.r4.at_ 4
         obtain ⟨w14, hw14⟩ : ∃ v, v = w13.setCell ⟨g4, 4, none⟩ (.int .i64 k) := ⟨_, rfl⟩
         have Hw14 := hi_ (show RdS w w14 N p _ w.heap.size g4 g5 #[.bool true, .bool true, .bool false] #[.int .i64 3, .bool true, .int .i64 c, .int .i64 0, .int .i64 k, .slice none 0 0] by have hh := Hw13.out.set 4 (.int .i64 k); rw [hw14]; simpa using hh)
         have t2 := Hw14.out.t5.at_ 2
         clear hrw13 hfw13 C12 t1)
      | (rw [<- hw14]; clear hw14 z4 k4)
      | (go_at_call 102; refine (OK_any Hw14.out.rd).mono ?_; rintro e w' ⟨rfl, rfl⟩)
      | ((with_reducible refine wpList_ldS cdT rfl rfl (.tmp 4) rfl rfl Hw14.out.r4 ?_))
      | ((with_reducible refine wpList_stS (cs' := #[.int .i64 3, .bool true, .int .i64 c, .int .i64 0, .int .i64 k, .slice none 0 0]) cdT rfl rfl (by simp [Value.oneCell']) rfl (.tmp 2) (.tmp 61) rfl rfl rfl Hw14.out.r2 ?_); intro wz hRz hFz)
      | ((with_reducible refine wpList_stS (cs' := #[.int .i64 3, .bool true, .int .i64 c, .int .i64 0, .int .i64 k, .slice none 0 0]) cdT rfl rfl (by simp [Value.oneCell']) rfl (.tmp 2) (.tmp 62) rfl rfl rfl Hw14.out.r2 ?_); intro wz hRz hFz))
    refine bodyPost_ret (res_ct rfl rfl (hRz.load cdT rfl)) rfl ?_
    first
      | exact ReadE.good (x := ⟨3, true, c, 0, k, []⟩) none 0 0 (Hw14.out.fin hFz) (Rd.nil _ _) (Nat.le_refl _) (fun _ _ e => by cases e)
      | exact ReadE.miss ⟨3, true, c, 0, k, []⟩ none 0 0 (Hw14.out.fin hFz)
set_option maxHeartbeats 4000000 in
theorem read_30 (st1 : RS) (st2 : RS) (c : Int) (st3 : RS) (g : Int) (st4 : RS) (k : Int) (st5 : RS) (h : RdrIs N w p st) (hN : N <= w.heap.size) (hq1 : rdNum 1 st = (3, st1)) (hq2 : rdNum 1 st1 = (0, st2)) (hq3 : rdNum 8 st2 = (c, st3)) (hq4 : rdNum 8 st3 = (g, st4)) (hq5 : rdNum 8 st4 = (k, st5)) :
    Calls Tryz.prog 95 #[.pointer (some ⟨p, 0, none⟩)] w (ReadE N p w (rdFin ⟨3, false, c, g, k, []⟩ st5)) := by
  obtain ⟨w1, hw1⟩ : ∃ w1, w1 = w.alloc (.cells (Cd.zero.cs none 0 0) 61) := ⟨_, rfl⟩
  have hb1 : Below w.heap.size w w1 := by rw [hw1]; exact (Below.refl _ _).alloc (Nat.le_refl _) _
  have r1 : Rec 61 w1 w.heap.size (Cd.zero.cs none 0 0) := by rw [hw1]; exact Rec.new w _ _
  have hp : p < N := by obtain ⟨_, _, _, _, _, _, _, _, hp, _⟩ := h; exact hp
  have q1 := RNumK_any (h.below hb1) 1 (by decide)
  rw [hq1] at q1
  have C1 := hi_ q1
  have H1 := hi_ (And.intro r1 (And.intro hb1 (And.intro hp hN)))
  have HV : Hid (∀ W, Calls Tryz.prog 100 #[.int .i64 3] W fun e w' => e = .returned (.tuple #[.agg #[.bool true, .bool true, .bool false], .bool true]) /\ Below W.heap.size W w') := hi_ (fun W => (has_any 3 W).mono fun e w' hp => by simpa [HasP, hasV, hasB] using hp)
  have HQ2 := hi_ hq2
  have HQ3 := hi_ hq3
  have HQ4 := hi_ hq4
  have HQ5 := hi_ hq5
  clear h hN hb1 r1 hp q1 hq1 hq2 hq3 hq4 hq5
  obtain ⟨ll, mm⟩ := st5
  cases mm
  all_goals
    go_enter Tryz.func95, Tryz.ntmps95
    go_wp2_with (first
      | (rw [<- hw1]; clear hw1)
      | (go_at_call 99; have _t := C1; refine C1.out.mono ?_; rintro e w2 ⟨rfl, hr2, hf2⟩
         obtain ⟨w3, hw3⟩ : ∃ w3, w3 = w2.alloc (.cells (Cd.zero.cs none 0 0) 61) := ⟨_, rfl⟩
         have R3 := hi_ (show Rec 61 w3 w2.heap.size (Cd.zero.cs none 0 0) by rw [hw3]; exact Rec.new w2 _ _)
         have B3 := hi_ (show Below w2.heap.size w2 w3 by rw [hw3]; exact (Below.refl _ _).alloc (Nat.le_refl _) _)
         have H2 := hi_ (And.intro hr2 (And.intro hf2 (H1.out.1.fr hf2 (by have := H1.out.2.2; omega))))
         clear hr2 hf2 C1)
      | (rw [<- hw3]; clear hw3)
      | ((with_reducible refine wpList_stS (cs' := #[.int .i64 3, .bool false, .int .i64 0, .int .i64 0, .int .i64 0, .slice none 0 0]) cdT rfl rfl (by simp [Value.oneCell']) rfl (.tmp 4) (.tmp 11) rfl rfl rfl R3.out ?_); intro w4 hR4 hF4
         have b4 : Below w2.heap.size w2 w4 := B3.out.trans (hF4.toBelow (fun y hy => by have : y = w2.heap.size := hy; omega) B3.out.size)
         have q40 := hR4.at_ 0
         have H4 := hi_ (And.intro hR4 b4)
         clear hR4 hF4 b4 R3 B3)
      | (go_at_call 100; refine (HV.out w4).mono ?_; rintro e w5 ⟨rfl, hb5⟩
         obtain ⟨w6, hw6⟩ : ∃ w6, w6 = w5.alloc (.cells #[.bool false, .bool false, .bool false] 139) := ⟨_, rfl⟩
         have T6 := hi_ (show Rec 139 w6 w5.heap.size #[.bool false, .bool false, .bool false] by rw [hw6]; exact Rec.new w5 _ _)
         have B6 := hi_ (show Below w5.heap.size w5 w6 by rw [hw6]; exact (Below.refl _ _).alloc (Nat.le_refl _) _)
         have B5 := hi_ hb5
         clear hb5 q40)
      | (rw [<- hw6]; clear hw6)
      | ((with_reducible refine wpList_stS (cs' := #[.bool true, .bool true, .bool false]) trT rfl rfl (by simp [Value.oneCell']) rfl (.tmp 5) (.tmp 16) rfl rfl rfl T6.out ?_); intro w7 hR7 hF7
         have b57 : Below w5.heap.size w5 w7 := B6.out.trans (hF7.toBelow (fun y hy => by have : y = w5.heap.size := hy; omega) B6.out.size)
         have b47 : Below w4.heap.size w4 w7 := B5.out.trans (b57.mono B5.out.size)
         have b27 : Below w2.heap.size w2 w7 := H4.out.2.trans (b47.mono H4.out.2.size)
         have l4 := H4.out.1.lt
         have l1 := H1.out.1.lt
         have H7 := hi_ (show RdS w w7 N p st1 w.heap.size w2.heap.size w5.heap.size #[.bool true, .bool true, .bool false] #[.int .i64 3, .bool false, .int .i64 0, .int .i64 0, .int .i64 0, .slice none 0 0] from
           ⟨H2.out.1.below b27, H2.out.2.2.under b27, H4.out.1.under b47, hR7, (Fr.ofBelow _ H1.out.2.1).trans' (H2.out.2.1.trans (Fr.ofBelow _ b27)) (fun _ hx => .inl hx), H1.out.2.2.1, H1.out.2.2.2, Nat.le_refl _, by have := H2.out.2.1.size; omega, by have := B5.out.size; omega⟩)
         have t0 := H7.out.t5.at_ 0
         obtain ⟨g4, hg4⟩ : ∃ g4, g4 = w2.heap.size := ⟨_, rfl⟩
         obtain ⟨g5, hg5⟩ : ∃ g5, g5 = w5.heap.size := ⟨_, rfl⟩
         rw [<- hg4, <- hg5] at H7
         rw [<- hg5] at t0
         simp only [<- hg4, <- hg5]
         have qq := RNumK_any H7.out.rd 1 (by decide)
         rw [HQ2.out] at qq
         have C7 := hi_ qq
         clear qq
         clear hR7 hF7 b57 b47 b27 l4 l1 H2 H4 T6 B6 hg4 hg5)
      | (go_at_call 99; have _t := C7; refine C7.out.mono ?_; rintro e w8 ⟨rfl, hrw8, hfw8⟩
         have Hw8 := hi_ (H7.out.num hrw8 hfw8)
         have qq := RNumK_any Hw8.out.rd 8 (by decide)
         rw [HQ3.out] at qq
         have C8 := hi_ qq
         clear qq
         clear hrw8 hfw8 C7 t0)
      | (go_at_call 99; have _t := C8; refine C8.out.mono ?_; rintro e w9 ⟨rfl, hrw9, hfw9⟩
         have Hw9 := hi_ (Hw8.out.num hrw9 hfw9)
         have z1 := Hw9.out.r4.fz 1
         have k1 := Hw9.out.r4.at_ 1
         have z2 := Hw9.out.r4.fz 2
         have k2 := Hw9.out.r4.at_ 2
         obtain ⟨w10, hw10⟩ : ∃ v, v = (w9.setCell ⟨g4, 1, none⟩ (.bool false)).setCell ⟨g4, 2, none⟩ (.int .i64 c) := ⟨_, rfl⟩
         have Hw10 := hi_ (show RdS w w10 N p _ w.heap.size g4 g5 #[.bool true, .bool true, .bool false] #[.int .i64 3, .bool false, .int .i64 c, .int .i64 0, .int .i64 0, .slice none 0 0] by have hh := (Hw9.out.set 1 (.bool false)).set 2 (.int .i64 c); rw [hw10]; simpa using hh)
         have q1 := Hw10.out.r4.at_ 1
         have qq := RNumK_any Hw10.out.rd 8 (by decide)
         rw [HQ4.out] at qq
         have C10 := hi_ qq
         clear qq
         clear hrw9 hfw9 C8)
      | (rw [<- hw10]; clear hw10 z1 k1 z2 k2)
      | (go_at_call 99; have _t := C10; refine C10.out.mono ?_; rintro e w11 ⟨rfl, hrw11, hfw11⟩
         have Hw11 := hi_ (Hw10.out.num hrw11 hfw11)
         have z3 := Hw11.out.r4.fz 3
         have k3 := Hw11.out.r4.at_ 3
         obtain ⟨w12, hw12⟩ : ∃ v, v = w11.setCell ⟨g4, 3, none⟩ (.int .i64 g) := ⟨_, rfl⟩
         have Hw12 := hi_ (show RdS w w12 N p _ w.heap.size g4 g5 #[.bool true, .bool true, .bool false] #[.int .i64 3, .bool false, .int .i64 c, .int .i64 g, .int .i64 0, .slice none 0 0] by have hh := Hw11.out.set 3 (.int .i64 g); rw [hw12]; simpa using hh)
         have t1 := Hw12.out.t5.at_ 1
         have qq := RNumK_any Hw12.out.rd 8 (by decide)
         rw [HQ5.out] at qq
         have C12 := hi_ qq
         clear qq
         clear hrw11 hfw11 C10 q1)
      | (rw [<- hw12]; clear hw12 z3 k3)
      | (go_at_call 99; have _t := C12; refine C12.out.mono ?_; rintro e w13 ⟨rfl, hrw13, hfw13⟩
         have Hw13 := hi_ (Hw12.out.num hrw13 hfw13)
         have z4 := Hw13.out.r4.fz 4
         have k4 := Hw13.out.r4.at_ 4
         obtain ⟨w14, hw14⟩ : ∃ v, v = w13.setCell ⟨g4, 4, none⟩ (.int .i64 k) := ⟨_, rfl⟩
         have Hw14 := hi_ (show RdS w w14 N p _ w.heap.size g4 g5 #[.bool true, .bool true, .bool false] #[.int .i64 3, .bool false, .int .i64 c, .int .i64 g, .int .i64 k, .slice none 0 0] by have hh := Hw13.out.set 4 (.int .i64 k); rw [hw14]; simpa using hh)
         have t2 := Hw14.out.t5.at_ 2
         clear hrw13 hfw13 C12 t1)
      | (rw [<- hw14]; clear hw14 z4 k4)
      | (go_at_call 102; refine (OK_any Hw14.out.rd).mono ?_; rintro e w' ⟨rfl, rfl⟩)
      | ((with_reducible refine wpList_ldS cdT rfl rfl (.tmp 4) rfl rfl Hw14.out.r4 ?_))
      | ((with_reducible refine wpList_stS (cs' := #[.int .i64 3, .bool false, .int .i64 c, .int .i64 g, .int .i64 k, .slice none 0 0]) cdT rfl rfl (by simp [Value.oneCell']) rfl (.tmp 2) (.tmp 61) rfl rfl rfl Hw14.out.r2 ?_); intro wz hRz hFz)
      | ((with_reducible refine wpList_stS (cs' := #[.int .i64 3, .bool false, .int .i64 c, .int .i64 g, .int .i64 k, .slice none 0 0]) cdT rfl rfl (by simp [Value.oneCell']) rfl (.tmp 2) (.tmp 62) rfl rfl rfl Hw14.out.r2 ?_); intro wz hRz hFz))
    refine bodyPost_ret (res_ct rfl rfl (hRz.load cdT rfl)) rfl ?_
    first
      | exact ReadE.good (x := ⟨3, false, c, g, k, []⟩) none 0 0 (Hw14.out.fin hFz) (Rd.nil _ _) (Nat.le_refl _) (fun _ _ e => by cases e)
      | exact ReadE.miss ⟨3, false, c, g, k, []⟩ none 0 0 (Hw14.out.fin hFz)
theorem rdNum_small (k : Nat) (hk : k <= 2) (st : RS) : ∃ n : Nat, (rdNum k st).1 = (n : Int) /\ n <= 65535 := by
  obtain ⟨l, m⟩ := st
  cases m
  · by_cases h : l.length < k
    · rw [rdNum_short h]; exact ⟨0, rfl, by omega⟩
    · rw [rdNum_yes (by omega)]
      have h1 := leN_lt (l.take k)
      have h2 : 2 ^ (8 * (l.take k).length) <= 2 ^ 16 := Nat.pow_le_pow_right (by decide) (by simp; omega)
      exact ⟨leN (l.take k), getV2 _ (by simp; omega), by omega⟩
  · rw [rdNum_offL]; exact ⟨0, rfl, by omega⟩
theorem read_any (h : RdrIs N w p st) (hN : N <= w.heap.size) : Calls Tryz.prog 95 #[.pointer (some ⟨p, 0, none⟩)] w (ReadE N p w (rdCmd st)) := by
  unfold rdCmd
  obtain ⟨⟨d, st1⟩, h1⟩ : ∃ q, q = rdNum 1 st := ⟨_, rfl⟩
  rw [<- h1]
  simp only
  by_cases ho : d < 0 \/ 3 < d
  · rw [if_pos ho]
    exact read_o d st1 h hN h1.symm ho
  rw [if_neg ho]
  by_cases h0 : d = 0
  · rw [if_pos h0]
    subst h0
    exact read_0 st1 h hN h1.symm
  rw [if_neg h0]
  obtain ⟨bn, e2, _⟩ := rdNum_small 1 (by decide) st1
  obtain ⟨⟨b, st2⟩, h2⟩ : ∃ q, q = rdNum 1 st1 := ⟨_, rfl⟩
  rw [<- h2] at e2 ⊢
  simp only at e2 ⊢
  subst e2
  by_cases hb : (1 : Int) < (bn : Int)
  · rw [if_pos hb]
    rcases cd_cases d with rfl | rfl | rfl | rfl | hd
    · exact absurd rfl h0
    · exact read_1x st1 st2 bn h hN h1.symm h2.symm hb
    · exact read_2x st1 st2 bn h hN h1.symm h2.symm hb
    · exact read_3x st1 st2 bn h hN h1.symm h2.symm hb
    · exact absurd hd ho
  rw [if_neg hb]
  obtain ⟨⟨c, st3⟩, h3⟩ : ∃ q, q = rdNum 8 st2 := ⟨_, rfl⟩
  rw [<- h3]
  simp only
  have hb' : bn = 0 \/ bn = 1 := by omega
  rcases hb' with rfl | rfl
  · simp only [show ¬ ((0 : Nat) : Int) = 1 by decide, if_false, decide_false]
    obtain ⟨⟨g, st4⟩, h4⟩ : ∃ q, q = rdNum 8 st3 := ⟨_, rfl⟩
    rw [<- h4]
    simp only
    rcases cd_cases d with rfl | rfl | rfl | rfl | hd
    · exact absurd rfl h0
    · rw [if_pos rfl]
      exact read_10 st1 st2 c st3 g st4 h hN h1.symm h2.symm h3.symm h4.symm
    · rw [if_neg (by decide)]
      obtain ⟨⟨k, st5⟩, h5⟩ : ∃ q, q = rdNum 8 st4 := ⟨_, rfl⟩
      rw [<- h5]
      simp only
      rw [if_neg (by decide)]
      obtain ⟨mn, e6, hm⟩ := rdNum_small 2 (by decide) st5
      obtain ⟨⟨m, st6⟩, h6⟩ : ∃ q, q = rdNum 2 st5 := ⟨_, rfl⟩
      rw [<- h6] at e6 ⊢
      simp only at e6 ⊢
      subst e6
      exact read_20 st1 st2 c st3 g st4 k st5 mn st6 h hN h1.symm h2.symm h3.symm h4.symm h5.symm h6.symm hm
    · rw [if_neg (by decide)]
      obtain ⟨⟨k, st5⟩, h5⟩ : ∃ q, q = rdNum 8 st4 := ⟨_, rfl⟩
      rw [<- h5]
      simp only
      rw [if_pos trivial]
      exact read_30 st1 st2 c st3 g st4 k st5 h hN h1.symm h2.symm h3.symm h4.symm h5.symm
    · exact absurd hd ho
  · simp only [show ((1 : Nat) : Int) = 1 by decide, if_true, decide_true]
    rcases cd_cases d with rfl | rfl | rfl | rfl | hd
    · exact absurd rfl h0
    · rw [if_pos rfl]
      exact read_11 st1 st2 c st3 h hN h1.symm h2.symm h3.symm
    · rw [if_neg (by decide)]
      obtain ⟨⟨k, st5⟩, h5⟩ : ∃ q, q = rdNum 8 st3 := ⟨_, rfl⟩
      rw [<- h5]
      simp only
      rw [if_neg (by decide)]
      obtain ⟨mn, e6, hm⟩ := rdNum_small 2 (by decide) st5
      obtain ⟨⟨m, st6⟩, h6⟩ : ∃ q, q = rdNum 2 st5 := ⟨_, rfl⟩
      rw [<- h6] at e6 ⊢
      simp only at e6 ⊢
      subst e6
      exact read_21 st1 st2 c st3 k st5 mn st6 h hN h1.symm h2.symm h3.symm h5.symm h6.symm hm
    · rw [if_neg (by decide)]
      obtain ⟨⟨k, st5⟩, h5⟩ : ∃ q, q = rdNum 8 st3 := ⟨_, rfl⟩
      rw [<- h5]
      simp only
      rw [if_pos trivial]
      exact read_31 st1 st2 c st3 k st5 h hN h1.symm h2.symm h3.symm h5.symm
    · exact absurd hd ho
end
end Go.Proofs.YthabmlbmlncbmaaGreat
