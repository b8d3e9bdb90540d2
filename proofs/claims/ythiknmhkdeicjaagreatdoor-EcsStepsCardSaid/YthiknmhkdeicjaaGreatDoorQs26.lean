/- EcRi, CmMu, Cm5, Cm6 -/
import Derived.Test.YthiknmhkdeicjaaGreatDoorQs1
import Derived.Test.YthiknmhkdeicjaaGreatDoorQs4
import Derived.Test.YthiknmhkdeicjaaGreatDoorQs9
import Derived.Test.YthiknmhkdeicjaaGreatDoorQs12
import Derived.Test.YthiknmhkdeicjaaGreatDoorQs13
import Derived.Test.YthiknmhkdeicjaaGreatDoorQs16
import Derived.Test.YthiknmhkdeicjaaGreatDoorQs17
import Derived.Test.YthiknmhkdeicjaaGreatDoorQs20
import Derived.Test.YthiknmhkdeicjaaGreatDoorQs25
import Derived.Deep.RegionHeld3
namespace Go.Proofs.YthiknmhkdeicjaaGreatDoor
open Go.RowKit
set_option maxRecDepth 20000
theorem res_cctt {P : Program} {T T' : TypeId} {w : World} {fn : Func} {p q u v : Tmp} {tmps : Array Value} {ad ad' : Addr} {x y : Value} (h : fn.results = #[.cell p T, .cell q T', .tmp u, .tmp v]) (hp : tmps.getD p undef = .pointer (some ad)) (hl : (loadVar T ad).run P w = .ok x w) (hq : tmps.getD q undef = .pointer (some ad')) (hl' : (loadVar T' ad').run P w = .ok y w) :
  (results fn tmps).run P w = .ok (.tuple #[x, y, tmps.getD u undef, tmps.getD v undef]) w := by
 rw [Array.getD_eq_getD_getElem?] at hp hq
 simp only [results, h]
 simp [Sem.run_bind, Result.andThen, hp, hq, asAddr, hl, hl']
theorem go_start (w : World) (lg pg en gn : Int) (A : Option Addr) (n cap : Nat) (d : Rst) (dd i g kk : Int) (DA : Option Addr) (dn dc : Nat) : ∃ w1, w1 = ((((w.alloc (.cells (cc lg pg en gn A n cap) 24)).alloc (.cells d.cs 37)).alloc (.cells (seC dd i g kk DA dn dc) 44)).alloc (.cells stZ 37)).alloc (.cells #[.int .i64 0, .int .i64 0] 39) /\ Below w.heap.size w w1 /\ Rec 24 w1 w.heap.size (cc lg pg en gn A n cap) /\ Rec 37 w1 (w.heap.size + 1) d.cs /\ Rec 44 w1 (w.heap.size + 2) (seC dd i g kk DA dn dc) /\ Rec 37 w1 (w.heap.size + 3) stZ /\ Rec 39 w1 (w.heap.size + 4) #[.int .i64 0, .int .i64 0] /\ w1.heap.size = w.heap.size + 5 := by
 obtain ⟨wa, hwa⟩ : ∃ wa, wa = w.alloc (.cells (cc lg pg en gn A n cap) 24) := ⟨_, rfl⟩
 obtain ⟨wb, hwb⟩ : ∃ wb, wb = wa.alloc (.cells d.cs 37) := ⟨_, rfl⟩
 obtain ⟨wc, hwc⟩ : ∃ wc, wc = wb.alloc (.cells (seC dd i g kk DA dn dc) 44) := ⟨_, rfl⟩
 obtain ⟨wd, hwd⟩ : ∃ wd, wd = wc.alloc (.cells stZ 37) := ⟨_, rfl⟩
 have sa : wa.heap.size = w.heap.size + 1 := by rw [hwa]; simp
 have sb : wb.heap.size = w.heap.size + 2 := by rw [hwb]; simp [sa]
 have sc : wc.heap.size = w.heap.size + 3 := by rw [hwc]; simp [sb]
 have sd : wd.heap.size = w.heap.size + 4 := by rw [hwd]; simp [sc]
 have ba : Below w.heap.size w wa := by rw [hwa]; exact (Below.refl _ _).alloc (Nat.le_refl _) _
 have bb : Below wa.heap.size wa wb := by rw [hwb]; exact (Below.refl _ _).alloc (Nat.le_refl _) _
 have bc : Below wb.heap.size wb wc := by rw [hwc]; exact (Below.refl _ _).alloc (Nat.le_refl _) _
 have bd : Below wc.heap.size wc wd := by rw [hwd]; exact (Below.refl _ _).alloc (Nat.le_refl _) _
 have be : Below wd.heap.size wd (wd.alloc (.cells #[.int .i64 0, .int .i64 0] 39)) := (Below.refl _ _).alloc (Nat.le_refl _) _
 have ra : Rec 24 wa w.heap.size (cc lg pg en gn A n cap) := by rw [hwa]; exact Rec.new w _ _
 have rb : Rec 37 wb (w.heap.size + 1) d.cs := by rw [hwb, <- sa]; exact Rec.new wa _ _
 have rc : Rec 44 wc (w.heap.size + 2) (seC dd i g kk DA dn dc) := by rw [hwc, <- sb]; exact Rec.new wb _ _
 have rd : Rec 37 wd (w.heap.size + 3) stZ := by rw [hwd, <- sc]; exact Rec.new wc _ _
 refine ⟨wd.alloc (.cells #[.int .i64 0, .int .i64 0] 39), by rw [hwd, hwc, hwb, hwa], ?_, ?_, ?_, ?_, ?_, ?_, ?_⟩
 ·exact (((ba.trans (bb.mono ba.size)).trans (bc.mono (Nat.le_trans ba.size bb.size))).trans (bd.mono (by omega))).trans (be.mono (by omega))
 ·exact (((ra.under bb).under bc).under bd).under be
 ·exact ((rb.under bc).under bd).under be
 ·exact (rc.under bd).under be
 ·exact rd.under be
 ·have := Rec.new wd 39 #[.int .i64 0, .int .i64 0]
  rwa [sd] at this
 ·simp [sd]
def RGoes (K : Nat -> Prop) (w : World) (o : Es × (Int × Int) × List UInt8 × Int) (e : Ending) (w' : World) : Prop :=
 ∃ (d' : Rst) (DA : Option Addr) (dn dc : Nat), e = .returned (.tuple #[.agg d'.cs, .agg #[.int .i64 o.2.1.1, .int .i64 o.2.1.2], .slice DA dn dc, .int .i64 o.2.2.2]) /\ RSt (fun y => K y \/ w.heap.size <= y) w' d' o.1 /\ VB K w' (.slice DA dn dc) o.2.2.1 /\ Below w.heap.size w w'
theorem RSt.past {K : Nat -> Prop} {w w1 w2 w4 w7 : World} {d : Rst} {s : Es} (h : RSt (fun y => (K y /\ y < w.heap.size) \/ w1.heap.size <= y) w2 d s) (hb : Below w2.heap.size w2 w4) (h1 : w.heap.size + 5 <= w1.heap.size) (hF : Fr (fun y => y = w.heap.size + 3 \/ y = w.heap.size + 4 \/ w2.heap.size <= y) w4 w7) : RSt (fun y => K y \/ w.heap.size <= y) w7 d s :=
 (((h.lt.below hb).stays ⟨hF.size, fun y hy => hF.block y (Nat.lt_of_lt_of_le hy.2 hb.size) (fun e => by rcases hy.1 with hy | hy <;> rcases e with e | e | e <;> omega)⟩).mono (fun y hy => by
  rcases hy.1 with hy | hy
  ·exact .inl hy.1
  ·exact .inr (by omega)))
section
variable {K : Nat -> Prop} {w : World} {d : Rst} {A : Option Addr} {n cap : Nat} {s' : Es} {z : Int} (lg pg en gn i g kk : Int) (DA : Option Addr) (dn dc : Nat)
theorem go_1 (C : Hid (∀ W, Below w.heap.size w W -> w.heap.size + 5 <= W.heap.size -> Calls Tryz.prog 40 #[cv lg pg en gn A n cap, .agg d.cs, .agg #[.int .i64 i, .int .i64 g]] W (RTold (fun y => K y /\ y < w.heap.size) W s' z))) :
  Calls Tryz.prog 14 #[cv lg pg en gn A n cap, .agg d.cs, .agg (seC 1 i g kk DA dn dc)] w (RGoes K w (s', (0, 0), [], z)) := by
 obtain ⟨w1, hw1, hb1, r0, r1, r2, r3, r4, hs1⟩ := go_start w lg pg en gn A n cap d 1 i g kk DA dn dc
 have C1 := hi_ (C.out w1 hb1 (by omega))
 have k0 := r2.at_ 0
 have k1 := r2.at_ 1
 have k2 := r2.at_ 2
 have k3 := r2.at_ 3
 have k4 := r2.at_ 4
 obtain ⟨GA, gn', gc, FA, fn, fc, EA, en', ec⟩ := d
 have HR := hi_ (And.intro r0 (And.intro r1 (And.intro r3 (And.intro r4 (And.intro hb1 hs1)))))
 clear r0 r1 r2 r3 r4 hb1 hs1 C
 go_enter Tryz.func14, Tryz.ntmps14
 go_wp2_with (first
  | (rw [<- hw1]; clear hw1)
  | ((with_reducible refine wpList_ldS confT rfl rfl (.tmp 3) rfl rfl HR.out.1 ?_))
  | ((with_reducible refine wpList_ldS stT rfl rfl (.tmp 4) rfl rfl HR.out.2.1 ?_))
  | (go_at_call 40; refine C1.out.mono ?_; rintro e w2 ⟨⟨GA2, gn2, gc2, FA2, fn2, fc2, EA2, en2, ec2⟩, rfl, hR2, hb2⟩; obtain ⟨w4, hw4⟩ : ∃ w4, w4 = w2.alloc (.cells stZ 37) := ⟨_, rfl⟩; have H4 := hi_ (And.intro (show Rec 37 w4 w2.heap.size stZ by rw [hw4]; exact Rec.new w2 _ _) (show Below w2.heap.size w2 w4 by rw [hw4]; exact (Below.refl _ _).alloc (Nat.le_refl _) _)); have H2 := hi_ (And.intro hR2 hb2); clear hR2 hb2 k0 k1 k2 k3 k4)
  | (rw [<- hw4]; clear hw4)
  | ((with_reducible refine wpList_stSt GA2 gn2 gc2 FA2 fn2 fc2 EA2 en2 ec2 rfl rfl (.tmp 10) (.tmp 30) rfl rfl rfl H4.out.1 ?_); intro w5 hR5 hF5; have H5 := hi_ (And.intro hR5 (And.intro hF5 (And.intro (((HR.out.2.2.1.under H2.out.2).under H4.out.2).fr hF5 (fun e => by have e' : w.heap.size + 3 = w2.heap.size := e; have := H2.out.2.size; have := HR.out.2.2.2.2.2; omega)) (((HR.out.2.2.2.1.under H2.out.2).under H4.out.2).fr hF5 (fun e => by have e' : w.heap.size + 4 = w2.heap.size := e; have := H2.out.2.size; have := HR.out.2.2.2.2.2; omega))))); clear hR5 hF5)
  | ((with_reducible refine wpList_ldS stT rfl rfl (.tmp 10) rfl rfl H5.out.1 ?_))
  | ((with_reducible refine wpList_stSt GA2 gn2 gc2 FA2 fn2 fc2 EA2 en2 ec2 rfl rfl (.tmp 6) (.tmp 32) rfl rfl rfl H5.out.2.2.1 ?_); intro w6 hR6 hF6; have H6 := hi_ (And.intro hR6 (And.intro hF6 (H5.out.2.2.2.fr hF6 (fun e => by have e' : w.heap.size + 4 = w.heap.size + 3 := e; omega)))); clear hR6 hF6)
  | ((with_reducible refine wpList_stP rfl (.tmp 7) (.tmp 33) rfl rfl rfl H6.out.2.2 ?_); intro w7 hR7 hF7))
 refine bodyPost_ret (res_cctt rfl rfl ((H6.out.1.fr hF7 (fun e => by have e' : w.heap.size + 3 = w.heap.size + 4 := e; omega)).load stT rfl) rfl (hR7.load idT rfl)) rfl ?_
 have hs1 := HR.out.2.2.2.2.2
 have hs2 := H2.out.2.size
 have hF : Fr (fun y => y = w.heap.size + 3 \/ y = w.heap.size + 4 \/ w2.heap.size <= y) w4 w7 := ((H5.out.2.1.mono (fun y hy => .inr (.inr (Nat.le_of_eq (show y = w2.heap.size from hy).symm)))).trans (H6.out.2.1.mono (fun y hy => .inl hy))).trans (hF7.mono (fun y hy => .inr (.inl hy)))
 have hb4 : Below w.heap.size w w4 := (HR.out.2.2.2.2.1.trans (H2.out.2.mono HR.out.2.2.2.2.1.size)).trans (H4.out.2.mono (by omega))
 exact ⟨⟨GA2, gn2, gc2, FA2, fn2, fc2, EA2, en2, ec2⟩, none, 0, 0, rfl, H2.out.1.past H4.out.2 (by omega) hF, VB.nil _ _ _, hb4.trans (hF.toBelow (fun y hy => by rcases hy with hy | hy | hy <;> omega) hb4.size)⟩
theorem go_2 (C : Hid (∀ W, Below w.heap.size w W -> w.heap.size + 5 <= W.heap.size -> Calls Tryz.prog 41 #[cv lg pg en gn A n cap, .agg d.cs, .agg #[.int .i64 i, .int .i64 g], .int .i64 kk, .slice DA dn dc] W (RTold (fun y => K y /\ y < w.heap.size) W s' z))) :
  Calls Tryz.prog 14 #[cv lg pg en gn A n cap, .agg d.cs, .agg (seC 2 i g kk DA dn dc)] w (RGoes K w (s', (0, 0), [], z)) := by
 obtain ⟨w1, hw1, hb1, r0, r1, r2, r3, r4, hs1⟩ := go_start w lg pg en gn A n cap d 2 i g kk DA dn dc
 have C1 := hi_ (C.out w1 hb1 (by omega))
 have k0 := r2.at_ 0
 have k1 := r2.at_ 1
 have k2 := r2.at_ 2
 have k3 := r2.at_ 3
 have k4 := r2.at_ 4
 obtain ⟨GA, gn', gc, FA, fn, fc, EA, en', ec⟩ := d
 have HR := hi_ (And.intro r0 (And.intro r1 (And.intro r3 (And.intro r4 (And.intro hb1 hs1)))))
 clear r0 r1 r2 r3 r4 hb1 hs1 C
 go_enter Tryz.func14, Tryz.ntmps14
 go_wp2_with (first
  | (rw [<- hw1]; clear hw1)
  | ((with_reducible refine wpList_ldS confT rfl rfl (.tmp 3) rfl rfl HR.out.1 ?_))
  | ((with_reducible refine wpList_ldS stT rfl rfl (.tmp 4) rfl rfl HR.out.2.1 ?_))
  | (go_at_call 41; refine C1.out.mono ?_; rintro e w2 ⟨⟨GA2, gn2, gc2, FA2, fn2, fc2, EA2, en2, ec2⟩, rfl, hR2, hb2⟩; obtain ⟨w4, hw4⟩ : ∃ w4, w4 = w2.alloc (.cells stZ 37) := ⟨_, rfl⟩; have H4 := hi_ (And.intro (show Rec 37 w4 w2.heap.size stZ by rw [hw4]; exact Rec.new w2 _ _) (show Below w2.heap.size w2 w4 by rw [hw4]; exact (Below.refl _ _).alloc (Nat.le_refl _) _)); have H2 := hi_ (And.intro hR2 hb2); clear hR2 hb2 k0 k1 k2 k3 k4)
  | (rw [<- hw4]; clear hw4)
  | ((with_reducible refine wpList_stSt GA2 gn2 gc2 FA2 fn2 fc2 EA2 en2 ec2 rfl rfl (.tmp 12) (.tmp 48) rfl rfl rfl H4.out.1 ?_); intro w5 hR5 hF5; have H5 := hi_ (And.intro hR5 (And.intro hF5 (And.intro (((HR.out.2.2.1.under H2.out.2).under H4.out.2).fr hF5 (fun e => by have e' : w.heap.size + 3 = w2.heap.size := e; have := H2.out.2.size; have := HR.out.2.2.2.2.2; omega)) (((HR.out.2.2.2.1.under H2.out.2).under H4.out.2).fr hF5 (fun e => by have e' : w.heap.size + 4 = w2.heap.size := e; have := H2.out.2.size; have := HR.out.2.2.2.2.2; omega))))); clear hR5 hF5)
  | ((with_reducible refine wpList_ldS stT rfl rfl (.tmp 12) rfl rfl H5.out.1 ?_))
  | ((with_reducible refine wpList_stSt GA2 gn2 gc2 FA2 fn2 fc2 EA2 en2 ec2 rfl rfl (.tmp 6) (.tmp 50) rfl rfl rfl H5.out.2.2.1 ?_); intro w6 hR6 hF6; have H6 := hi_ (And.intro hR6 (And.intro hF6 (H5.out.2.2.2.fr hF6 (fun e => by have e' : w.heap.size + 4 = w.heap.size + 3 := e; omega)))); clear hR6 hF6)
  | ((with_reducible refine wpList_stP rfl (.tmp 7) (.tmp 51) rfl rfl rfl H6.out.2.2 ?_); intro w7 hR7 hF7))
 refine bodyPost_ret (res_cctt rfl rfl ((H6.out.1.fr hF7 (fun e => by have e' : w.heap.size + 3 = w.heap.size + 4 := e; omega)).load stT rfl) rfl (hR7.load idT rfl)) rfl ?_
 have hs1 := HR.out.2.2.2.2.2
 have hs2 := H2.out.2.size
 have hF : Fr (fun y => y = w.heap.size + 3 \/ y = w.heap.size + 4 \/ w2.heap.size <= y) w4 w7 := ((H5.out.2.1.mono (fun y hy => .inr (.inr (Nat.le_of_eq (show y = w2.heap.size from hy).symm)))).trans (H6.out.2.1.mono (fun y hy => .inl hy))).trans (hF7.mono (fun y hy => .inr (.inl hy)))
 have hb4 : Below w.heap.size w w4 := (HR.out.2.2.2.2.1.trans (H2.out.2.mono HR.out.2.2.2.2.1.size)).trans (H4.out.2.mono (by omega))
 exact ⟨⟨GA2, gn2, gc2, FA2, fn2, fc2, EA2, en2, ec2⟩, none, 0, 0, rfl, H2.out.1.past H4.out.2 (by omega) hF, VB.nil _ _ _, hb4.trans (hF.toBelow (fun y hy => by rcases hy with hy | hy | hy <;> omega) hb4.size)⟩
theorem go_3 (C : Hid (∀ W, Below w.heap.size w W -> w.heap.size + 5 <= W.heap.size -> Calls Tryz.prog 42 #[cv lg pg en gn A n cap, .agg d.cs, .agg #[.int .i64 i, .int .i64 g], .int .i64 kk] W (RTold (fun y => K y /\ y < w.heap.size) W s' z))) :
  Calls Tryz.prog 14 #[cv lg pg en gn A n cap, .agg d.cs, .agg (seC 3 i g kk DA dn dc)] w (RGoes K w (s', (0, 0), [], z)) := by
 obtain ⟨w1, hw1, hb1, r0, r1, r2, r3, r4, hs1⟩ := go_start w lg pg en gn A n cap d 3 i g kk DA dn dc
 have C1 := hi_ (C.out w1 hb1 (by omega))
 have k0 := r2.at_ 0
 have k1 := r2.at_ 1
 have k2 := r2.at_ 2
 have k3 := r2.at_ 3
 have k4 := r2.at_ 4
 obtain ⟨GA, gn', gc, FA, fn, fc, EA, en', ec⟩ := d
 have HR := hi_ (And.intro r0 (And.intro r1 (And.intro r3 (And.intro r4 (And.intro hb1 hs1)))))
 clear r0 r1 r2 r3 r4 hb1 hs1 C
 go_enter Tryz.func14, Tryz.ntmps14
 go_wp2_with (first
  | (rw [<- hw1]; clear hw1)
  | ((with_reducible refine wpList_ldS confT rfl rfl (.tmp 3) rfl rfl HR.out.1 ?_))
  | ((with_reducible refine wpList_ldS stT rfl rfl (.tmp 4) rfl rfl HR.out.2.1 ?_))
  | (go_at_call 42; refine C1.out.mono ?_; rintro e w2 ⟨⟨GA2, gn2, gc2, FA2, fn2, fc2, EA2, en2, ec2⟩, rfl, hR2, hb2⟩; obtain ⟨w4, hw4⟩ : ∃ w4, w4 = w2.alloc (.cells stZ 37) := ⟨_, rfl⟩; have H4 := hi_ (And.intro (show Rec 37 w4 w2.heap.size stZ by rw [hw4]; exact Rec.new w2 _ _) (show Below w2.heap.size w2 w4 by rw [hw4]; exact (Below.refl _ _).alloc (Nat.le_refl _) _)); have H2 := hi_ (And.intro hR2 hb2); clear hR2 hb2 k0 k1 k2 k3 k4)
  | (rw [<- hw4]; clear hw4)
  | ((with_reducible refine wpList_stSt GA2 gn2 gc2 FA2 fn2 fc2 EA2 en2 ec2 rfl rfl (.tmp 14) (.tmp 64) rfl rfl rfl H4.out.1 ?_); intro w5 hR5 hF5; have H5 := hi_ (And.intro hR5 (And.intro hF5 (And.intro (((HR.out.2.2.1.under H2.out.2).under H4.out.2).fr hF5 (fun e => by have e' : w.heap.size + 3 = w2.heap.size := e; have := H2.out.2.size; have := HR.out.2.2.2.2.2; omega)) (((HR.out.2.2.2.1.under H2.out.2).under H4.out.2).fr hF5 (fun e => by have e' : w.heap.size + 4 = w2.heap.size := e; have := H2.out.2.size; have := HR.out.2.2.2.2.2; omega))))); clear hR5 hF5)
  | ((with_reducible refine wpList_ldS stT rfl rfl (.tmp 14) rfl rfl H5.out.1 ?_))
  | ((with_reducible refine wpList_stSt GA2 gn2 gc2 FA2 fn2 fc2 EA2 en2 ec2 rfl rfl (.tmp 6) (.tmp 66) rfl rfl rfl H5.out.2.2.1 ?_); intro w6 hR6 hF6; have H6 := hi_ (And.intro hR6 (And.intro hF6 (H5.out.2.2.2.fr hF6 (fun e => by have e' : w.heap.size + 4 = w.heap.size + 3 := e; omega)))); clear hR6 hF6)
  | ((with_reducible refine wpList_stP rfl (.tmp 7) (.tmp 67) rfl rfl rfl H6.out.2.2 ?_); intro w7 hR7 hF7))
 refine bodyPost_ret (res_cctt rfl rfl ((H6.out.1.fr hF7 (fun e => by have e' : w.heap.size + 3 = w.heap.size + 4 := e; omega)).load stT rfl) rfl (hR7.load idT rfl)) rfl ?_
 have hs1 := HR.out.2.2.2.2.2
 have hs2 := H2.out.2.size
 have hF : Fr (fun y => y = w.heap.size + 3 \/ y = w.heap.size + 4 \/ w2.heap.size <= y) w4 w7 := ((H5.out.2.1.mono (fun y hy => .inr (.inr (Nat.le_of_eq (show y = w2.heap.size from hy).symm)))).trans (H6.out.2.1.mono (fun y hy => .inl hy))).trans (hF7.mono (fun y hy => .inr (.inl hy)))
 have hb4 : Below w.heap.size w w4 := (HR.out.2.2.2.2.1.trans (H2.out.2.mono HR.out.2.2.2.2.1.size)).trans (H4.out.2.mono (by omega))
 exact ⟨⟨GA2, gn2, gc2, FA2, fn2, fc2, EA2, en2, ec2⟩, none, 0, 0, rfl, H2.out.1.past H4.out.2 (by omega) hF, VB.nil _ _ _, hb4.trans (hF.toBelow (fun y hy => by rcases hy with hy | hy | hy <;> omega) hb4.size)⟩
theorem go_4 {data : List UInt8} {s : Es} (h : RSt K w d s) (C : Hid (∀ W, Below w.heap.size w W -> w.heap.size + 5 <= W.heap.size -> Calls Tryz.prog 43 #[cv lg pg en gn A n cap, .agg d.cs, .agg #[.int .i64 i, .int .i64 g], .int .i64 kk] W fun e w' => (∃ DA dn dc, e = .returned (.tuple #[.slice DA dn dc, .int .i64 z]) /\ VB (fun y => K y /\ y < w.heap.size) w' (.slice DA dn dc) data) /\ Below W.heap.size W w')) :
  Calls Tryz.prog 14 #[cv lg pg en gn A n cap, .agg d.cs, .agg (seC 4 i g kk DA dn dc)] w (RGoes K w (s, (0, 0), data, z)) := by
 have H0 := hi_ h
 clear h
 obtain ⟨w1, hw1, hb1, r0, r1, r2, r3, r4, hs1⟩ := go_start w lg pg en gn A n cap d 4 i g kk DA dn dc
 have C1 := hi_ (C.out w1 hb1 (by omega))
 have k0 := r2.at_ 0
 have k1 := r2.at_ 1
 have k2 := r2.at_ 2
 have k3 := r2.at_ 3
 have k4 := r2.at_ 4
 obtain ⟨GA, gn', gc, FA, fn, fc, EA, en', ec⟩ := d
 have HR := hi_ (And.intro r0 (And.intro r1 (And.intro r3 (And.intro r4 (And.intro hb1 hs1)))))
 clear r0 r1 r2 r3 r4 hb1 hs1 C
 go_enter Tryz.func14, Tryz.ntmps14
 go_wp2_with (first
  | (rw [<- hw1]; clear hw1)
  | ((with_reducible refine wpList_ldS confT rfl rfl (.tmp 3) rfl rfl HR.out.1 ?_))
  | ((with_reducible refine wpList_ldS stT rfl rfl (.tmp 4) rfl rfl HR.out.2.1 ?_))
  | (go_at_call 43; refine C1.out.mono ?_; rintro e w2 ⟨⟨DA2, dn2, dc2, rfl, hV2⟩, hb2⟩; have H2 := hi_ (And.intro hV2 (And.intro hb2 (And.intro (HR.out.2.1.under hb2) (And.intro (HR.out.2.2.1.under hb2) (HR.out.2.2.2.1.under hb2))))); clear hV2 hb2 k0 k1 k2 k3 k4)
  | ((with_reducible refine wpList_ldS stT rfl rfl (.tmp 4) rfl rfl H2.out.2.2.1 ?_))
  | ((with_reducible refine wpList_stSt GA gn' gc FA fn fc EA en' ec rfl rfl (.tmp 6) (.tmp 82) rfl rfl rfl H2.out.2.2.2.1 ?_); intro w6 hR6 hF6; have H6 := hi_ (And.intro hR6 (And.intro hF6 (H2.out.2.2.2.2.fr hF6 (fun e => by have e' : w.heap.size + 4 = w.heap.size + 3 := e; omega)))); clear hR6 hF6)
  | ((with_reducible refine wpList_stP rfl (.tmp 7) (.tmp 83) rfl rfl rfl H6.out.2.2 ?_); intro w7 hR7 hF7))
 refine bodyPost_ret (res_cctt rfl rfl ((H6.out.1.fr hF7 (fun e => by have e' : w.heap.size + 3 = w.heap.size + 4 := e; omega)).load stT rfl) rfl (hR7.load idT rfl)) rfl ?_
 have hs1 := HR.out.2.2.2.2.2
 have hF : Fr (fun y => y = w.heap.size + 3 \/ y = w.heap.size + 4) w2 w7 := (H6.out.2.1.mono (fun y hy => .inl hy)).trans (hF7.mono (fun y hy => .inr hy))
 have hb2 : Below w.heap.size w w2 := HR.out.2.2.2.2.1.trans (H2.out.2.1.mono HR.out.2.2.2.2.1.size)
 have hb7 : Below w.heap.size w w7 := hb2.trans (hF.toBelow (fun y hy => by rcases hy with hy | hy <;> omega) hb2.size)
 refine ⟨⟨GA, gn', gc, FA, fn, fc, EA, en', ec⟩, DA2, dn2, dc2, rfl, (H0.out.below hb7).mono (fun y hy => .inl hy), ?_, hb7⟩
 exact (H2.out.1.stays ⟨hF.size, fun y hy => hF.block y (Nat.lt_of_lt_of_le hy.2 hb2.size) (fun e => by rcases e with e | e <;> omega)⟩).mono (fun y hy => hy.1)
theorem two_laidS (w3 w4 : World) (h : w4 = (w3.alloc (.cells stZ 37)).alloc (.cells #[.int .i64 0, .int .i64 0] 39)) : Below w3.heap.size w3 w4 /\ Rec 37 w4 w3.heap.size stZ /\ Rec 39 w4 (w3.heap.size + 1) #[.int .i64 0, .int .i64 0] /\ w4.heap.size = w3.heap.size + 2 := by
 obtain ⟨wa, hwa⟩ : ∃ wa, wa = w3.alloc (.cells stZ 37) := ⟨_, rfl⟩
 have sa : wa.heap.size = w3.heap.size + 1 := by rw [hwa]; simp
 have ba : Below w3.heap.size w3 wa := by rw [hwa]; exact (Below.refl _ _).alloc (Nat.le_refl _) _
 have bb : Below wa.heap.size wa (wa.alloc (.cells #[.int .i64 0, .int .i64 0] 39)) := (Below.refl _ _).alloc (Nat.le_refl _) _
 have ra : Rec 37 wa w3.heap.size stZ := by rw [hwa]; exact Rec.new w3 _ _
 rw [<- hwa] at h
 subst h
 refine ⟨ba.trans (bb.mono ba.size), ra.under bb, ?_, by simp [sa]⟩
 have := Rec.new wa 39 #[.int .i64 0, .int .i64 0]
 rwa [sa] at this
set_option maxHeartbeats 1000000 in
theorem go_0 (dd : Int) (h1 : dd ≠ 1) (h2 : dd ≠ 2) (h3 : dd ≠ 3) (h4 : dd ≠ 4) (x1 x2 : Int) (C : Hid (∀ W, Below w.heap.size w W -> w.heap.size + 5 <= W.heap.size -> Calls Tryz.prog 44 #[cv lg pg en gn A n cap, .agg d.cs] W (RToldI (fun y => K y /\ y < w.heap.size) W s' (x1, x2) z))) :
  Calls Tryz.prog 14 #[cv lg pg en gn A n cap, .agg d.cs, .agg (seC dd i g kk DA dn dc)] w (RGoes K w (s', (x1, x2), [], z)) := by
 obtain ⟨w1, hw1, hb1, r0, r1, r2, r3, r4, hs1⟩ := go_start w lg pg en gn A n cap d dd i g kk DA dn dc
 have C1 := hi_ (C.out w1 hb1 (by omega))
 have k0 := r2.at_ 0
 have k1 := r2.at_ 1
 have k2 := r2.at_ 2
 have k3 := r2.at_ 3
 have k4 := r2.at_ 4
 obtain ⟨GA, gn', gc, FA, fn, fc, EA, en', ec⟩ := d
 have HR := hi_ (And.intro r0 (And.intro r1 (And.intro r3 (And.intro r4 (And.intro hb1 hs1)))))
 clear r0 r1 r2 r3 r4 hb1 hs1 C
 have e1 : decide (dd = 1) = false := decide_eq_false h1
 have e2 : decide (dd = 2) = false := decide_eq_false h2
 have e3 : decide (dd = 3) = false := decide_eq_false h3
 have e4 : decide (dd = 4) = false := decide_eq_false h4
 have f1 : (dd == 1) = false := by simpa using h1
 have f2 : (dd == 2) = false := by simpa using h2
 have f3 : (dd == 3) = false := by simpa using h3
 have f4 : (dd == 4) = false := by simpa using h4
 go_enter Tryz.func14, Tryz.ntmps14
 go_upto_region 14 with (first
  | (rw [<- hw1]; clear hw1)
  | ((with_reducible refine wpList_ldS confT rfl rfl (.tmp 3) rfl rfl HR.out.1 ?_))
  | ((with_reducible refine wpList_ldS stT rfl rfl (.tmp 4) rfl rfl HR.out.2.1 ?_))
  | (go_at_call 44; refine C1.out.mono ?_; rintro e w2 ⟨⟨GA2, gn2, gc2, FA2, fn2, fc2, EA2, en2, ec2⟩, rfl, hR2, hb2⟩; obtain ⟨w4, hw4⟩ : ∃ w4, w4 = (w2.alloc (.cells stZ 37)).alloc (.cells #[.int .i64 0, .int .i64 0] 39) := ⟨_, rfl⟩; have H4 := hi_ (two_laidS w2 w4 hw4); have H2 := hi_ (And.intro hR2 hb2); clear hR2 hb2 k0 k1 k2 k3 k4)
  | (rw [<- hw4]; clear hw4)
  | ((with_reducible refine wpList_stSt GA2 gn2 gc2 FA2 fn2 fc2 EA2 en2 ec2 rfl rfl (.tmp 18) (.tmp 90) rfl rfl rfl H4.out.2.1 ?_); intro w5 hR5 hF5; have H5 := hi_ (And.intro hR5 (And.intro hF5 (H4.out.2.2.1.fr hF5 (fun e => by have e' : w2.heap.size + 1 = w2.heap.size := e; omega)))); clear hR5 hF5)
  | ((with_reducible refine wpList_stP rfl (.tmp 19) (.tmp 91) rfl rfl rfl H5.out.2.2 ?_); intro w6 hR6 hF6; have H6 := hi_ (And.intro hR6 (And.intro (H5.out.1.fr hF6 (fun e => by have e' : w2.heap.size = w2.heap.size + 1 := e; omega)) (And.intro ((H5.out.2.1.mono (own' := fun y => y = w.heap.size + 3 \/ y = w.heap.size + 4 \/ w2.heap.size <= y) (fun y hy => .inr (.inr (Nat.le_of_eq (show y = w2.heap.size from hy).symm)))).trans (hF6.mono (fun y hy => .inr (.inr (by rw [show y = w2.heap.size + 1 from hy]; omega))))) (hF6.size)))); have H6B : Hid (Fr (fun y => w2.heap.size <= y) w4 w6) := hi_ ((H5.out.2.1.mono (fun y hy => Nat.le_of_eq (show y = w2.heap.size from hy).symm)).trans (hF6.mono (fun y hy => by rw [show y = w2.heap.size + 1 from hy]; omega))); clear hR6 hF6))
 obtain ⟨hR6, hR6S, hF6, hz6⟩ := H6.out
 have hs1 := HR.out.2.2.2.2.2
 have hs2 := H2.out.2.size
 have hp5 := H5.out.2.1
 have hb24 : Below w2.heap.size w2 w6.drew := (H4.out.1.trans ((H6B.out).toBelow (fun y hy => hy) H4.out.1.size)).drew
 have hu3 := (HR.out.2.2.1.under H2.out.2).under hb24
 have hu4 := (HR.out.2.2.2.1.under H2.out.2).under hb24
 have hdr : Below w6.heap.size w6 w6.drew := (Below.refl _ _).drew
 have HZ := hi_ (And.intro hu3 (And.intro hu4 (And.intro (hR6S.under hdr) (hR6.under hdr))))
 have s0 : (w6.drew.cell? ⟨w2.heap.size, 0, none⟩ = some (.slice GA2 gn2 gc2) /\ w6.drew.cell? ⟨w2.heap.size, 1, none⟩ = some (.slice FA2 fn2 fc2) /\ w6.drew.cell? ⟨w2.heap.size, 2, none⟩ = some (.slice EA2 en2 ec2)) /\ w6.drew.cell? ⟨w2.heap.size + 1, 0, none⟩ = some (.int .i64 x1) /\ w6.drew.cell? ⟨w2.heap.size + 1, 1, none⟩ = some (.int .i64 x2) := ⟨⟨HZ.out.2.2.1.at_ 0, HZ.out.2.2.1.at_ 1, HZ.out.2.2.1.at_ 2⟩, HZ.out.2.2.2.at_ 0, HZ.out.2.2.2.at_ 1⟩
 have HSP : Hid (∀ W, Fr (fun y => y = w.heap.size + 3 \/ y = w.heap.size + 4) w6.drew W -> ((W.cell? ⟨w2.heap.size, 0, none⟩ = some (.slice GA2 gn2 gc2) /\ W.cell? ⟨w2.heap.size, 1, none⟩ = some (.slice FA2 fn2 fc2) /\ W.cell? ⟨w2.heap.size, 2, none⟩ = some (.slice EA2 en2 ec2)) /\ W.cell? ⟨w2.heap.size + 1, 0, none⟩ = some (.int .i64 x1) /\ W.cell? ⟨w2.heap.size + 1, 1, none⟩ = some (.int .i64 x2))) := hi_ fun W hF => by
  have t0 := HZ.out.2.2.1.fr hF (fun e => by rcases e with e | e <;> omega)
  have t1 := HZ.out.2.2.2.fr hF (fun e => by rcases e with e | e <;> omega)
  exact ⟨⟨t0.at_ 0, t0.at_ 1, t0.at_ 2⟩, t1.at_ 0, t1.at_ 1⟩
 clear hR6 hR6S hF6 hz6 hs1 hs2 hp5 hb24 hu3 hu4 hdr
 refine wp_region_noPanic ?_
 refine wp_region_held_drew (S := fun W => (W.cell? ⟨w2.heap.size, 0, none⟩ = some (.slice GA2 gn2 gc2) /\ W.cell? ⟨w2.heap.size, 1, none⟩ = some (.slice FA2 fn2 fc2) /\ W.cell? ⟨w2.heap.size, 2, none⟩ = some (.slice EA2 en2 ec2)) /\ W.cell? ⟨w2.heap.size + 1, 0, none⟩ = some (.int .i64 x1) /\ W.cell? ⟨w2.heap.size + 1, 1, none⟩ = some (.int .i64 x2)) (by kernel_rfl) s0 (fun hHeld => ?_)
 refine wpAnyH_take (i := 0) (oi := ⟨some 93, .load 37 (.tmp 18), 37, "ref.go:247", #[], none⟩) (v := ?_) rfl (by kernel_rfl) (by kernel_rfl) (by kernel_rfl) (fun _ _ _ h => h) (Or.inl ⟨by rfl, ?_⟩) (by assumption) ?_
 rotate_left 1
 ·intro w' hSw; (try dsimp only at hSw); go_simp; (try with_reducible rfl)
 simp only [Act.put, sA_, sB_, sC_]
 refine wpAnyH_take (i := 1) (oi := ⟨some 94, .load 39 (.tmp 19), 39, "ref.go:247", #[⟨3, .gcOnly .lateStores⟩], none⟩) (v := ?_) rfl (by kernel_rfl) (by kernel_rfl) (by kernel_rfl) (fun _ _ _ h => h) (Or.inl ⟨by rfl, ?_⟩) (by assumption) ?_
 rotate_left 1
 ·intro w' hSw; (try dsimp only at hSw); go_simp; (try with_reducible rfl)
 simp only [Act.put, sA_, sB_, sC_]
 refine wpAnyH_take (i := 2) (oi := ⟨some 95, .move (.tmp 20), 3, "ref.go:247", #[⟨5, .gcOnly .lateStores⟩], none⟩) (v := ?_) rfl (by kernel_rfl) (by kernel_rfl) (by kernel_rfl) (fun _ _ _ h => h) (Or.inl ⟨by rfl, ?_⟩) (by assumption) ?_
 rotate_left 1
 ·intro w' hSw; (try dsimp only at hSw); go_simp; (try with_reducible rfl)
 simp only [Act.put, sA_, sB_, sC_]
 refine wpAnyH_ready (rs := [3]) (by kernel_rfl) (by simp) ?_
 refine AllReadyH.cons (o := ⟨none, .store 37 (.tmp 6) (.tmp 93), 0, "ref.go:247", #[⟨0, .data⟩, ⟨0, .phase⟩, ⟨1, .textOnly .lateStores⟩, ⟨2, .textOnly .lateStores⟩], none⟩) rfl (fun K' hK => ?_) AllReadyH.nil
 refine step_stS (cs' := stC GA2 gn2 gc2 FA2 fn2 fc2 EA2 en2 ec2) stT rfl rfl (by simp [Value.oneCell']) rfl (.tmp 6) (.tmp 93) rfl rfl rfl HZ.out.1 ?_
 intro w11 hR11 hF11
 have s1 := HSP.out w11 (hF11.mono (fun y hy => .inl hy))
 have H11 := hi_ (And.intro hR11 (And.intro hF11 (HZ.out.2.1.fr hF11 (fun e => by have e' : w.heap.size + 4 = w.heap.size + 3 := e; omega))))
 clear hR11 hF11
 refine hK.out _ _ s1 (fun hHeld => ?_)
 clear hK K'
 try simp only [Act.put]
 refine wpAnyH_ready (rs := [4]) (by kernel_rfl) (by simp) ?_
 refine AllReadyH.cons (o := ⟨none, .store 39 (.tmp 7) (.tmp 94), 0, "ref.go:247", #[⟨1, .data⟩, ⟨3, .chain⟩, ⟨0, .phase⟩, ⟨1, .phase⟩, ⟨2, .textOnly .lateStores⟩, ⟨3, .phase⟩], none⟩) rfl (fun K' hK => ?_) AllReadyH.nil
 refine step_stS (cs' := #[.int .i64 x1, .int .i64 x2]) idT rfl rfl (by simp [Value.oneCell']) rfl (.tmp 7) (.tmp 94) rfl rfl rfl H11.out.2.2 ?_
 intro w12 hR12 hF12
 have s2 := HSP.out w12 ((H11.out.2.1.mono (fun y hy => .inl hy)).trans (hF12.mono (fun y hy => .inr hy)))
 have H12 := hi_ (And.intro hR12 hF12)
 clear hR12 hF12
 refine hK.out _ _ s2 (fun hHeld => ?_)
 clear hK K'
 try simp only [Act.put]
 refine wpAnyH_take (i := 5) (oi := ⟨some 8, .assign (.const (.slice none 0 0)), 40, "ref.go:247", #[⟨4, .chain⟩, ⟨0, .phase⟩, ⟨1, .phase⟩, ⟨2, .textOnly .lateStores⟩, ⟨3, .phase⟩, ⟨4, .phase⟩], none⟩) (v := ?_) rfl (by kernel_rfl) (by kernel_rfl) (by kernel_rfl) (fun _ _ _ h => h) (Or.inl ⟨by rfl, ?_⟩) (by assumption) ?_
 rotate_left 1
 ·intro w' hSw; (try dsimp only at hSw); go_simp; (try with_reducible rfl)
 simp only [Act.put, sA_, sB_, sC_]
 refine wpAnyH_take (i := 6) (oi := ⟨some 9, .assign (.tmp 95), 3, "ref.go:247", #[⟨2, .data⟩, ⟨5, .chain⟩, ⟨0, .phase⟩, ⟨1, .phase⟩, ⟨2, .phase⟩, ⟨3, .phase⟩, ⟨4, .phase⟩, ⟨5, .phase⟩], none⟩) (v := ?_) rfl (by kernel_rfl) (by kernel_rfl) (by kernel_rfl) (fun _ _ _ h => h) (Or.inl ⟨by rfl, ?_⟩) (by assumption) ?_
 rotate_left 1
 ·intro w' hSw; (try dsimp only at hSw); go_simp; (try with_reducible rfl)
 simp only [Act.put, sA_, sB_, sC_]
 refine wpAnyH_done (by kernel_rfl) ?_ _
 refine NoPanic.normal ?_
 clear hHeld s0 s1 s2
 go_wp2
 obtain ⟨hR11, hF11, _⟩ := H11.out
 obtain ⟨hR12, hF12⟩ := H12.out
 refine bodyPost_ret (res_cctt rfl rfl ((hR11.fr hF12 (fun e => by have e' : w.heap.size + 3 = w.heap.size + 4 := e; omega)).load stT rfl) rfl (hR12.load idT rfl)) rfl ?_
 have hs1 := HR.out.2.2.2.2.2
 have hs2 := H2.out.2.size
 have h4s := H4.out.2.2.2
 have hF : Fr (fun y => y = w.heap.size + 3 \/ y = w.heap.size + 4 \/ w2.heap.size <= y) w4 w12 := ((H6.out.2.2.1.trans' (Fr.drew (fun y => y = w.heap.size + 3 \/ y = w.heap.size + 4 \/ w2.heap.size <= y) w6) (fun y hy => by rcases hy with hy | hy | hy; exact .inl (.inl hy); exact .inl (.inr (.inl hy)); exact .inl (.inr (.inr hy)))).trans (hF11.mono (fun y hy => .inl hy))).trans (hF12.mono (fun y hy => .inr (.inl hy)))
 have hb4 : Below w.heap.size w w4 := (HR.out.2.2.2.2.1.trans (H2.out.2.mono HR.out.2.2.2.2.1.size)).trans (H4.out.1.mono (by omega))
 exact ⟨⟨GA2, gn2, gc2, FA2, fn2, fc2, EA2, en2, ec2⟩, none, 0, 0, rfl, H2.out.1.past H4.out.1 (by omega) hF, VB.nil _ _ _, hb4.trans (hF.toBelow (fun y hy => by rcases hy with hy | hy | hy <;> omega) hb4.size)⟩
end
theorem POk.len {z : Szs} {l : List Pt} (h : POk z l) : l.length <= z.length := by
 have hnd : (l.map (·.1)).Nodup := List.pairwise_map.2 (h.up.imp fun {a b} hab e => by rw [e] at hab; omega)
 have hs : l.map (·.1) ⊆ (List.range z.length).map Int.ofNat := fun k hk => by
  obtain ⟨p, hp, rfl⟩ := List.mem_map.1 hk
  have := h.sz p hp
  unfold szAt at this
  split at this
  ·rename_i hh
   exact List.mem_map.2 ⟨p.1.toNat, List.mem_range.2 (by omega), by show ((p.1.toNat : Nat) : Int) = _; omega⟩
  ·cases this
 have := List.Nodup.length_le_of_subset hnd hs
 simpa using this
section
variable {K : Nat -> Prop} {w : World} {d : Rst} {s : Es} {A : Option Addr} {n cap : Nat} {ks : List Kd}
set_option maxHeartbeats 1000000 in
theorem REGo_any (h : RSt K w d s) (ok : s.Ok (szX ks)) (hn : d.en <= 1000000) (hk : KRd w A n ks) (hkn : n <= 1000000) (hz : Sized ks) (hks : ks.length <= 1000) (lg pg en gn : Int) (hE : en = s.ns.E) (hL : gn = s.ns.L) (dd i g kk : Int) (DA : Option Addr) (dn dc : Nat) {b : List UInt8} (hV : VB K w (.slice DA dn dc) b) :
  Calls Tryz.prog 14 #[cv lg pg en gn A n cap, .agg d.cs, .agg (seC dd i g kk DA dn dc)] w (RGoes K w (s.go (szX ks) ⟨dd, (i, g), kk, b⟩)) := by
 have hps : ∀ e ∈ s.ents, e.2.length <= 1000 := fun e he => by
  have := (ok.parts e he).len
  rw [show (szX ks).length = ks.length by simp [szX]] at this
  omega
 have hdn : b.length = dn := by obtain ⟨_, _, _, e, hr, _⟩ := hV; injection e with _ e _; rw [e]; exact hr.1
 have h0 : ∀ W, Below w.heap.size w W -> RSt (fun y => K y /\ y < w.heap.size) W d s := fun W hW => h.lt.below hW
 have k0 : ∀ W, Below w.heap.size w W -> KRd W A n ks := fun W hW => hk.below hW
 have v0 : ∀ W, Below w.heap.size w W -> VB (fun y => K y /\ y < w.heap.size) W (.slice DA dn dc) b := fun W hW => hV.lt.below hW
 have keep : ∀ W W' z d', RSt (fun y => K y /\ y < w.heap.size) W d' s -> Below W.heap.size W W' -> RTold (fun y => K y /\ y < w.heap.size) W s z (.returned (.tuple #[.agg d'.cs, .int .i64 z])) W' := fun W W' z d' hh hb => ⟨d', rfl, (hh.below hb).mono (fun _ hy => .inl hy), hb⟩
 by_cases h1 : dd = 1
 ·subst h1
  have eo : s.go (szX ks) ⟨1, (i, g), kk, b⟩ = ((s.despawn (i, g)).1, (0, 0), [], (s.despawn (i, g)).2) := rfl
  rw [eo]
  refine go_1 lg pg en gn i g kk DA dn dc (hi_ fun W hW _ => ?_)
  cases hp : ePlace s.ents (i, g) with
  | none =>
   have e2 : s.despawn (i, g) = (s, 5) := by unfold Es.despawn; rw [hp]
   rw [e2]
   exact RDespawn_no (h0 W hW) hn lg pg en gn i g hp
  | some j =>
   have e2 : s.despawn (i, g) = (⟨(s.ns.give i g).1, s.ents.eraseIdx j⟩, 0) := by unfold Es.despawn; rw [hp]
   rw [e2]
   exact RDespawn_yes (h0 W hW) ok.ns hn lg pg en gn i g hE hL hp
 by_cases h2 : dd = 2
 ·subst h2
  have eo : s.go (szX ks) ⟨2, (i, g), kk, b⟩ = ((s.set (szX ks) (i, g) kk b).1, (0, 0), [], (s.set (szX ks) (i, g) kk b).2) := rfl
  rw [eo]
  refine go_2 lg pg en gn i g kk DA dn dc (hi_ fun W hW _ => ?_)
  have no : ∀ z : Int, z ≠ 0 -> s.set (szX ks) (i, g) kk b = (s, z) -> Calls Tryz.prog 41 #[cv lg pg en gn A n cap, .agg d.cs, .agg #[.int .i64 i, .int .i64 g], .int .i64 kk, .slice DA dn dc] W (RTold (fun y => K y /\ y < w.heap.size) W (s.set (szX ks) (i, g) kk b).1 (s.set (szX ks) (i, g) kk b).2) := fun z hz0 e2 => by
   rw [e2]
   exact RSet_no (h0 W hW) hn (k0 W hW) hkn hz lg pg en gn i g kk DA dn dc hdn z e2 hz0
  cases hp : ePlace s.ents (i, g) with
  | none => exact no 5 (by decide) (by unfold Es.set; rw [hp])
  | some j =>
   cases hzz : szAt (szX ks) kk with
   | none => exact no 6 (by decide) (by unfold Es.set; rw [hp]; simp only; rw [hzz])
   | some zz =>
    by_cases hb : b.length = zz
    ·have e2 : s.set (szX ks) (i, g) kk b = (⟨s.ns, s.ents.set j ((i, g), pSet kk b false (s.ents.getD j noEn).2)⟩, 0) := by unfold Es.set; rw [hp]; simp only; rw [hzz]; simp only; rw [if_pos hb]
     rw [e2]
     exact RSet_yes (h0 W hW) hn hps (k0 W hW) hkn hz lg pg en gn i g kk hp DA dn dc (by rw [hzz, <- hb, hdn]) (v0 W hW)
    ·exact no 7 (by decide) (by unfold Es.set; rw [hp]; simp only; rw [hzz]; simp only; rw [if_neg hb])
 by_cases h3 : dd = 3
 ·subst h3
  have eo : s.go (szX ks) ⟨3, (i, g), kk, b⟩ = ((s.remove (szX ks) (i, g) kk).1, (0, 0), [], (s.remove (szX ks) (i, g) kk).2) := rfl
  rw [eo]
  refine go_3 lg pg en gn i g kk DA dn dc (hi_ fun W hW _ => ?_)
  have no : ∀ z : Int, z ≠ 0 -> s.remove (szX ks) (i, g) kk = (s, z) -> Calls Tryz.prog 42 #[cv lg pg en gn A n cap, .agg d.cs, .agg #[.int .i64 i, .int .i64 g], .int .i64 kk] W (RTold (fun y => K y /\ y < w.heap.size) W (s.remove (szX ks) (i, g) kk).1 (s.remove (szX ks) (i, g) kk).2) := fun z hz0 e2 => by
   rw [e2]
   exact RRemove_no (h0 W hW) hn (fun e he => by have := hps e he; omega) (k0 W hW) hkn hz lg pg en gn i g kk z e2 hz0
  cases hp : ePlace s.ents (i, g) with
  | none => exact no 5 (by decide) (by unfold Es.remove; rw [hp])
  | some j =>
   cases hzz : szAt (szX ks) kk with
   | none => exact no 6 (by decide) (by unfold Es.remove; rw [hp]; simp only; rw [hzz])
   | some zz =>
    cases hq : pAt (s.ents.getD j noEn).2 kk with
    | none => exact no 8 (by decide) (by unfold Es.remove; rw [hp]; simp only; rw [hzz]; simp only; rw [hq])
    | some q =>
     have e2 : s.remove (szX ks) (i, g) kk = (⟨s.ns, s.ents.set j ((i, g), (s.ents.getD j noEn).2.eraseIdx q)⟩, 0) := by unfold Es.remove; rw [hp]; simp only; rw [hzz]; simp only; rw [hq]
     rw [e2]
     exact RRemove_yes (h0 W hW) hn hps (k0 W hW) hkn hz lg pg en gn i g kk hp hzz hq
 by_cases h4 : dd = 4
 ·subst h4
  have eo : s.go (szX ks) ⟨4, (i, g), kk, b⟩ = (s, (0, 0), (s.get (szX ks) (i, g) kk).1, (s.get (szX ks) (i, g) kk).2) := rfl
  rw [eo]
  exact go_4 lg pg en gn i g kk DA dn dc h (hi_ fun W hW _ => RGet_any (h0 W hW) hn (fun e he => by have := hps e he; omega) (k0 W hW) hkn hz lg pg en gn i g kk)
 have eo : s.go (szX ks) ⟨dd, (i, g), kk, b⟩ = (s.spawn.1, s.spawn.2.1, [], s.spawn.2.2) := by
  unfold Es.go
  rw [if_neg h1, if_neg h2, if_neg h3, if_neg h4]
 rw [eo]
 by_cases he : s.ns.take.2.2 = 0
 ·have e2 : s.spawn = (⟨s.ns.take.1, eIns (s.ns.take.2.1, []) s.ents⟩, s.ns.take.2.1, 0) := by unfold Es.spawn; rw [if_pos he]
  rw [e2]
  exact go_0 lg pg en gn i g kk DA dn dc dd h1 h2 h3 h4 s.ns.take.2.1.1 s.ns.take.2.1.2 (hi_ fun W hW _ => RSpawn_yes (h0 W hW) ok.ns hn lg pg en gn hE hL he)
 ·have e2 : s.spawn = (s, (0, 0), s.ns.take.2.2) := by unfold Es.spawn; rw [if_neg he]
  rw [e2]
  exact go_0 lg pg en gn i g kk DA dn dc dd h1 h2 h3 h4 0 0 (hi_ fun W hW _ => RSpawn_no (h0 W hW) ok.ns lg pg en gn hE hL _ rfl he)
end
end Go.Proofs.YthiknmhkdeicjaaGreatDoor
namespace Go.Proofs.YthiknmhkdeicjaaGreatDoor
open Go.RowKit
set_option linter.unusedVariables false
section
variable (lg pg en gn : Int) (A : Option Addr) (n cap : Nat) (ks : List Kd) (w : World)
theorem any_snoc {ks : List Kd} {j : Nat} (h : j < ks.length) : (ks.take (j + 1)).any (fun k => decide (100 < k.1.size)) = ((ks.take j).any (fun k => decide (100 < k.1.size)) || decide (100 < ks[j].1.size)) := by
 rw [take_snoc h, List.any_append]
 simp
theorem any_of_take {ks : List Kd} {j : Nat} (hj : j <= 50) (h : (ks.take j).any (fun k => decide (100 < k.1.size)) = true) : muchK ks = true := by
 rw [List.any_eq_true] at h
 obtain ⟨x, hx, hp⟩ := h
 unfold muchK
 rw [Bool.or_eq_true]
 exact .inl (List.any_eq_true.2 ⟨x, List.take_subset_take_left ks hj hx, hp⟩)
theorem Much_any (h : KRd w A n ks) (hn : n <= 9223372036854775807) (hs : Lens ks) :
  Calls Tryz.prog 6 #[cv lg pg en gn A n cap] w fun e w' => e = .returned (.bool (muchK ks)) /\ Below w.heap.size w w' := by
 obtain ⟨w1, hw1⟩ : ∃ w1, w1 = w.alloc (.cells (cc lg pg en gn A n cap) 24) := ⟨_, rfl⟩
 have C1 := CAt.new h lg pg en gn cap
 rw [<- hw1] at C1
 obtain ⟨g, hg⟩ : ∃ g, g = w.heap.size := ⟨_, rfl⟩
 rw [<- hg] at C1
 have c4 := C1.c4
 have hl := h.1
 have K1 := hi_ C1
 have HG := hi_ hg
 have HS := hi_ hs
 clear h hg C1 hs
 go_enter Tryz.func6, Tryz.ntmps6
 go_wp2_with (rw [<- hw1, <- HG.out]; clear hw1)
 go_loop [3] (fun i => ∃ j : Nat, j <= n /\ j <= 50 /\ i = .int .i64 j /\ (ks.take j).any (fun k => decide (100 < k.1.size)) = false) (fun i => n - (intOf i).toNat)
 case atStart => exact ⟨0, Nat.zero_le _, Nat.zero_le _, rfl, rfl⟩
 case round =>
  obtain ⟨j, hj, hj5, rfl, hf⟩ := hrel
  by_cases hlt : j < n
  ·by_cases hlt5 : j < 50
   ·obtain ⟨b, o, s', z, rfl, _, k0, k1, hl', hk⟩ := K1.out.rd.at_ hlt
    have hsn := any_snoc hl'
    rw [hk, hf, Bool.false_or] at hsn
    have hsz := HS.out.at_ hl' hk
    by_cases h1 : 100 < s'.size
    ·rw [decide_eq_true h1] at hsn
     have HM := hi_ (any_of_take (by omega) hsn)
     clear hsn hk hf
     go_wp2
     go_ret
     rw [HM.out]
     exact ⟨rfl, K1.out.bel⟩
    ·have HSN := hi_ (hsn.trans (decide_eq_false h1))
     clear hsn hk hf
     go_wp2
     go_round
     case rel => exact ⟨j + 1, hlt, hlt5, by go_num, HSN.out⟩
     case measure => simp [intOf]; omega
   ·obtain rfl : j = 50 := by omega
    have e1 : muchK ks = true := by unfold muchK; rw [Bool.or_eq_true]; exact .inr (decide_eq_true (by omega))
    have E1 := hi_ e1
    clear hf e1
    go_wp2
    go_ret
    rw [E1.out]
    exact ⟨ret_bool (a := decide ((40 : Int) < (n : Int))) (decide_eq_true (by omega)), K1.out.bel⟩
  ·have e1 : muchK ks = decide (40 < n) := by
    unfold muchK
    rw [show ks.take 50 = ks.take j by rw [List.take_of_length_le (by omega), List.take_of_length_le (by omega)], hf, Bool.false_or, hl]
   have E1 := hi_ e1
   clear hf e1
   go_wp2
   go_ret
   rw [E1.out]
   exact ⟨ret_bool (a := decide ((40 : Int) < (n : Int))) (by rw [Bool.eq_iff_iff]; simp <;> omega), K1.out.bel⟩
end
end Go.Proofs.YthiknmhkdeicjaaGreatDoor
namespace Go.Proofs.YthiknmhkdeicjaaGreatDoor
open Go.RowKit
set_option linter.unusedVariables false
section
variable (lg pg en gn : Int) (A : Option Addr) (n cap : Nat) (ks : List Kd) (w : World)
theorem RFind_any (h : KRd w A n ks) (hn : n <= 1000000) (s : ByteArray) :
  Calls Tryz.prog 35 #[cv lg pg en gn A n cap, .string s] w fun e w' => e = .returned (.tuple #[.int .i64 (findK ks s).1, .bool (findK ks s).2]) /\ Below w.heap.size w w' := by
 obtain ⟨w1, hw1⟩ : ∃ w1, w1 = w.alloc (.cells (cc lg pg en gn A n cap) 24) := ⟨_, rfl⟩
 have C1 := CAt.new h lg pg en gn cap
 rw [<- hw1] at C1
 obtain ⟨g, hg⟩ : ∃ g, g = w.heap.size := ⟨_, rfl⟩
 rw [<- hg] at C1
 have c4 := C1.c4
 have hl := h.1
 have K1 := hi_ C1
 have HG := hi_ hg
 clear h hg C1
 go_enter Tryz.func35, Tryz.ntmps35
 go_wp2_with (rw [<- hw1, <- HG.out]; clear hw1)
 go_loop [6] (fun i => ∃ j : Nat, j <= n /\ i = .int .i64 j /\ First ks s j) (fun i => n - (intOf i).toNat)
 case atStart => exact ⟨0, Nat.zero_le _, rfl, First.zero _ _⟩
 case round =>
  obtain ⟨j, hj, rfl, hf⟩ := hrel
  by_cases hlt : j < n
  ·obtain ⟨b, o, s', z, rfl, _, k0, k1, hl', hk⟩ := K1.out.rd.at_ hlt
   have hsn := First.succ (s := s) hl'
   rw [hk] at hsn
   by_cases hss : s' = s
   ·subst hss
    have hfy := findK_yes ks s' j hl' hf (by rw [hk])
    have HFY := hi_ hfy
    clear hsn hk hf hfy
    go_wp2
    go_ret2
    rw [HFY.out]
    exact ⟨rfl, K1.out.bel⟩
   ·have hbe : (s'.toList == s.toList) = false := by rw [toList_inj]; exact decide_eq_false hss
    have HF := hi_ (hsn.2 ⟨hf, hss⟩)
    clear hsn hk hf hss
    go_wp2
    go_round
    case rel => exact ⟨j + 1, hlt, by go_num, HF.out⟩
    case measure => simp [intOf]; omega
  ·have hfn := findK_no ks s (fun k hk => hf k (by rw [List.take_of_length_le (by omega)]; exact hk))
   have HFN := hi_ hfn
   clear hf hfn
   go_wp2
   go_ret2
   rw [HFN.out]
   exact ⟨rfl, K1.out.bel⟩
end
end Go.Proofs.YthiknmhkdeicjaaGreatDoor
namespace Go.Proofs.YthiknmhkdeicjaaGreatDoor
open Go.RowKit
set_option linter.unusedVariables false
section
variable (lg pg en gn : Int) (A : Option Addr) (n cap : Nat) (ks : List Kd) (w : World)
theorem RRight_num (h : KRd w A n ks) (hn : n <= 1000000) (hN : ¬ ((2 <= lg /\ lg <= 1024) /\ (4 <= pg /\ pg <= 1024) /\ (1 <= en /\ en <= 1024) /\ (1 <= gn /\ gn <= 1073741824) /\ n <= 32)) :
  Calls Tryz.prog 10 #[cv lg pg en gn A n cap] w fun e w' => e = .returned (.bool false) /\ Below w.heap.size w w' := by
 obtain ⟨w1, hw1⟩ : ∃ w1, w1 = w.alloc (.cells (cc lg pg en gn A n cap) 24) := ⟨_, rfl⟩
 have C1 := CAt.new h lg pg en gn cap
 rw [<- hw1] at C1
 obtain ⟨g, hg⟩ : ∃ g, g = w.heap.size := ⟨_, rfl⟩
 rw [<- hg] at C1
 have c0 := C1.c0
 have c1 := C1.c1
 have c2 := C1.c2
 have c3 := C1.c3
 have c4 := C1.c4
 have K1 := hi_ C1
 have HG := hi_ hg
 clear h hg C1
 by_cases t0 : lg < 2
 ·have d0 : decide (lg < 2) = true := decide_eq_true t0
  clear hN 
  go_enter Tryz.func10, Tryz.ntmps10
  go_wp2_with (rw [<- hw1, <- HG.out]; clear hw1)
  go_ret
  exact ⟨rfl, K1.out.bel⟩
 by_cases t1 : 1024 < lg
 ·have d0 : decide (lg < 2) = false := decide_eq_false t0
  have d1 : decide (1024 < lg) = true := decide_eq_true t1
  clear hN t0
  go_enter Tryz.func10, Tryz.ntmps10
  go_wp2_with (rw [<- hw1, <- HG.out]; clear hw1)
  go_ret
  exact ⟨rfl, K1.out.bel⟩
 by_cases t2 : pg < 4
 ·have d0 : decide (lg < 2) = false := decide_eq_false t0
  have d1 : decide (1024 < lg) = false := decide_eq_false t1
  have d2 : decide (pg < 4) = true := decide_eq_true t2
  clear hN t0 t1
  go_enter Tryz.func10, Tryz.ntmps10
  go_wp2_with (rw [<- hw1, <- HG.out]; clear hw1)
  go_ret
  exact ⟨rfl, K1.out.bel⟩
 by_cases t3 : 1024 < pg
 ·have d0 : decide (lg < 2) = false := decide_eq_false t0
  have d1 : decide (1024 < lg) = false := decide_eq_false t1
  have d2 : decide (pg < 4) = false := decide_eq_false t2
  have d3 : decide (1024 < pg) = true := decide_eq_true t3
  clear hN t0 t1 t2
  go_enter Tryz.func10, Tryz.ntmps10
  go_wp2_with (rw [<- hw1, <- HG.out]; clear hw1)
  go_ret
  exact ⟨rfl, K1.out.bel⟩
 by_cases t4 : en < 1
 ·have d0 : decide (lg < 2) = false := decide_eq_false t0
  have d1 : decide (1024 < lg) = false := decide_eq_false t1
  have d2 : decide (pg < 4) = false := decide_eq_false t2
  have d3 : decide (1024 < pg) = false := decide_eq_false t3
  have d4 : decide (en < 1) = true := decide_eq_true t4
  clear hN t0 t1 t2 t3
  go_enter Tryz.func10, Tryz.ntmps10
  go_wp2_with (rw [<- hw1, <- HG.out]; clear hw1)
  go_ret
  exact ⟨rfl, K1.out.bel⟩
 by_cases t5 : 1024 < en
 ·have d0 : decide (lg < 2) = false := decide_eq_false t0
  have d1 : decide (1024 < lg) = false := decide_eq_false t1
  have d2 : decide (pg < 4) = false := decide_eq_false t2
  have d3 : decide (1024 < pg) = false := decide_eq_false t3
  have d4 : decide (en < 1) = false := decide_eq_false t4
  have d5 : decide (1024 < en) = true := decide_eq_true t5
  clear hN t0 t1 t2 t3 t4
  go_enter Tryz.func10, Tryz.ntmps10
  go_wp2_with (rw [<- hw1, <- HG.out]; clear hw1)
  go_ret
  exact ⟨rfl, K1.out.bel⟩
 by_cases t6 : gn < 1
 ·have d0 : decide (lg < 2) = false := decide_eq_false t0
  have d1 : decide (1024 < lg) = false := decide_eq_false t1
  have d2 : decide (pg < 4) = false := decide_eq_false t2
  have d3 : decide (1024 < pg) = false := decide_eq_false t3
  have d4 : decide (en < 1) = false := decide_eq_false t4
  have d5 : decide (1024 < en) = false := decide_eq_false t5
  have d6 : decide (gn < 1) = true := decide_eq_true t6
  clear hN t0 t1 t2 t3 t4 t5
  go_enter Tryz.func10, Tryz.ntmps10
  go_wp2_with (rw [<- hw1, <- HG.out]; clear hw1)
  go_ret
  exact ⟨rfl, K1.out.bel⟩
 by_cases t7 : 1073741824 < gn
 ·have d0 : decide (lg < 2) = false := decide_eq_false t0
  have d1 : decide (1024 < lg) = false := decide_eq_false t1
  have d2 : decide (pg < 4) = false := decide_eq_false t2
  have d3 : decide (1024 < pg) = false := decide_eq_false t3
  have d4 : decide (en < 1) = false := decide_eq_false t4
  have d5 : decide (1024 < en) = false := decide_eq_false t5
  have d6 : decide (gn < 1) = false := decide_eq_false t6
  have d7 : decide (1073741824 < gn) = true := decide_eq_true t7
  clear hN t0 t1 t2 t3 t4 t5 t6
  go_enter Tryz.func10, Tryz.ntmps10
  go_wp2_with (rw [<- hw1, <- HG.out]; clear hw1)
  go_ret
  exact ⟨rfl, K1.out.bel⟩
 by_cases t8 : (32 : Int) < (n : Int)
 ·have d0 : decide (lg < 2) = false := decide_eq_false t0
  have d1 : decide (1024 < lg) = false := decide_eq_false t1
  have d2 : decide (pg < 4) = false := decide_eq_false t2
  have d3 : decide (1024 < pg) = false := decide_eq_false t3
  have d4 : decide (en < 1) = false := decide_eq_false t4
  have d5 : decide (1024 < en) = false := decide_eq_false t5
  have d6 : decide (gn < 1) = false := decide_eq_false t6
  have d7 : decide (1073741824 < gn) = false := decide_eq_false t7
  have d8 : decide ((32 : Int) < (n : Int)) = true := decide_eq_true t8
  clear hN t0 t1 t2 t3 t4 t5 t6 t7
  go_enter Tryz.func10, Tryz.ntmps10
  go_wp2_with (rw [<- hw1, <- HG.out]; clear hw1)
  go_ret
  exact ⟨rfl, K1.out.bel⟩
 exact absurd ⟨⟨by omega, by omega⟩, ⟨by omega, by omega⟩, ⟨by omega, by omega⟩, ⟨by omega, by omega⟩, by omega⟩ hN
theorem RRight_yes (h : KRd w A n ks) (hs : Lens ks) (h0 : 2 <= lg) (h1 : lg <= 1024) (h2 : 4 <= pg) (h3 : pg <= 1024) (h4 : 1 <= en) (h5 : en <= 1024) (h6 : 1 <= gn) (h7 : gn <= 1073741824) (h8 : n <= 32) :
  Calls Tryz.prog 10 #[cv lg pg en gn A n cap] w fun e w' => e = .returned (.bool (decide (Named ks /\ Apart ks /\ Sized ks))) /\ Below w.heap.size w w' := by
 obtain ⟨w1, hw1⟩ : ∃ w1, w1 = w.alloc (.cells (cc lg pg en gn A n cap) 24) := ⟨_, rfl⟩
 have C1 := CAt.new h lg pg en gn cap
 rw [<- hw1] at C1
 obtain ⟨g, hg⟩ : ∃ g, g = w.heap.size := ⟨_, rfl⟩
 rw [<- hg] at C1
 have c0 := C1.c0
 have c1 := C1.c1
 have c2 := C1.c2
 have c3 := C1.c3
 have c4 := C1.c4
 have hl := h.1
 have K1 := hi_ C1
 have HG := hi_ hg
 have HS := hi_ hs
 clear h hg C1 hs
 have d0 : decide (lg < 2) = false := decide_eq_false (by omega)
 have d1 : decide (1024 < lg) = false := decide_eq_false (by omega)
 have d2 : decide (pg < 4) = false := decide_eq_false (by omega)
 have d3 : decide (1024 < pg) = false := decide_eq_false (by omega)
 have d4 : decide (en < 1) = false := decide_eq_false (by omega)
 have d5 : decide (1024 < en) = false := decide_eq_false (by omega)
 have d6 : decide (gn < 1) = false := decide_eq_false (by omega)
 have d7 : decide (1073741824 < gn) = false := decide_eq_false (by omega)
 have d8 : decide ((32 : Int) < (n : Int)) = false := decide_eq_false (by omega)
 go_enter Tryz.func10, Tryz.ntmps10
 go_wp2_with (rw [<- hw1, <- HG.out]; clear hw1)
 clear c0 c1 c2 c3 c4 h0 h1 h2 h3 h4 h5 h6 h7 d0 d1 d2 d3 d4 d5 d6 d7 d8
 go_loopw [3] (fun i wr => ∃ j : Nat, j <= n /\ i = .int .i64 j /\ Good ks j /\ CAt w wr g lg pg en gn A n cap ks) (fun i _ => n - (intOf i).toNat)
 case atStart => exact ⟨0, Nat.zero_le _, rfl, Good.zero _, K1.out⟩
 case round =>
  obtain ⟨j, hj, rfl, hgd, hC⟩ := hrel
  have c0 := hC.c0
  have c1 := hC.c1
  have c2 := hC.c2
  have c3 := hC.c3
  have c4 := hC.c4
  by_cases hlt : j < n
  ·obtain ⟨b, o, s, z, rfl, _, k0, k1, hl', hk⟩ := hC.rd.at_ hlt
   have hsn := good_snoc hl'
   have hfa := findK_at ks j hl'
   have hsz := HS.out.at_ hl' hk
   rw [hk] at hsn hfa
   have HSN := hi_ hsn
   have HFA := hi_ hfa
   have HGD := hi_ hgd
   have HC := hi_ hC
   have hlt' : (j : Int) < (n : Int) := by omega
   have cF : ∀ W, Below wr.heap.size wr W -> Calls Tryz.prog 35 #[cv lg pg en gn (some ⟨b, o, none⟩) n cap, .string s] W fun e w' => e = .returned (.tuple #[.int .i64 (findK ks s).1, .bool (findK ks s).2]) /\ Below W.heap.size W w' :=
    fun W hW => RFind_any lg pg en gn _ n cap ks W (HC.out.rd.below hW) (by omega) s
   have CF := hi_ cF
   clear hsn hfa hk hgd hC cF
   go_wp2
   go_region_held3 (fun W => W.cell? ⟨g, 0, none⟩ = some (.int .i64 lg) /\ W.cell? ⟨g, 1, none⟩ = some (.int .i64 pg) /\ W.cell? ⟨g, 2, none⟩ = some (.int .i64 en) /\ W.cell? ⟨g, 3, none⟩ = some (.int .i64 gn) /\ W.cell? ⟨g, 4, none⟩ = some (.slice (some ⟨b, o, none⟩) n cap) /\ W.cell? ⟨b, o + j * 2, none⟩ = some (.string s)) (first
    | with_reducible exact ⟨c0, c1, c2, c3, c4, k0⟩
    | with_reducible exact ⟨C2.c0, C2.c1, C2.c2, C2.c3, C2.c4, k02⟩
    | go_keep) (first
    | (go_at_call 35; refine (CF.out wr.drew (Below.refl _ _).drew).mono ?_; rintro e w2 ⟨rfl, hb2'⟩; have hb2 : Below wr.heap.size wr w2 := ((Below.refl _ _).drew).trans hb2'; have C2 := HC.out.next hb2; have k02 := (hb2.cell (p := ⟨b, o + j * 2, none⟩) (World.block_lt_of_cell? wr _ k0)).trans k0))
   have C2' := C2
   have c4' := C2'.c4
   have k12 : w2.cell? ⟨b, o + j * 2 + 1, none⟩ = some (.int .i64 z) := (hb2.cell (p := ⟨b, o + j * 2 + 1, none⟩) (World.block_lt_of_cell? wr _ k1)).trans k1
   have HC2 := hi_ C2
   have HB2 := hi_ hb2
   clear c0 c1 c2 c3 c4 k0 k1 C2 C2' hb2' hb2
   rcases HFA.out with ⟨hF, hf⟩ | ⟨hF, hf⟩
   ·have q1 : ((findK ks s).1 != (j : Int)) = false := by rw [hf]; simp
    have HF := hi_ hF
    clear hf hF
    cases hnm : nameB s
    ·have HN := hi_ hnm
     clear hnm
     go_wp2_with (go_at_call 36; refine (RName_any s _ hsz).mono ?_; rintro e w3 ⟨rfl, nn, hw3⟩; rw [HN.out]; have hb3 := below_drewNc w2 nn; rw [<- hw3] at hb3; clear hw3)
     go_ret
     refine ⟨ret_bool (decide_eq_false fun hN => ?_).symm, (HC2.out.next hb3).bel⟩
     have := (HSN.out.1 (good_take hN _)).2.2.1
     rw [HN.out] at this
     cases this
    ·have HN := hi_ hnm
     clear hnm
     have cN : Calls Tryz.prog 36 #[.string s] w2 fun e w' => ∃ w3, w3 = w' /\ e = .returned (.bool true) /\ w3.cell? ⟨g, 4, none⟩ = some (.slice (some ⟨b, o, none⟩) n cap) /\ w3.cell? ⟨b, o + j * 2 + 1, none⟩ = some (.int .i64 z) /\ CAt w w3 g lg pg en gn (some ⟨b, o, none⟩) n cap ks :=
      (RName_any s _ hsz).mono fun e w3 ⟨he, nn, hw3⟩ => by
       have hb3 := below_drewNc w2 nn
       rw [<- hw3] at hb3
       have C3 := HC2.out.next hb3
       exact ⟨w3, rfl, by rw [he, HN.out], C3.c4, (hb3.cell (p := ⟨b, o + j * 2 + 1, none⟩) (World.block_lt_of_cell? w2 _ k12)).trans k12, C3⟩
     have CN := hi_ cN
     clear cN
     by_cases hz0 : z < 0
     ·have d0 : decide (z < 0) = true := decide_eq_true hz0
      have HZ := hi_ hz0
      clear hz0
      go_wp2_with (go_at_call 36; refine CN.out.mono ?_; rintro e w' ⟨w3, rfl, rfl, c43, k13, C3⟩; have HC3 := hi_ C3; clear C3)
      go_ret
      refine ⟨ret_bool (decide_eq_false fun hN => ?_).symm, HC3.out.bel⟩
      have := (HSN.out.1 (good_take hN _)).2.2.2
      have := HZ.out
      omega
     ·have d0 : decide (z < 0) = false := decide_eq_false hz0
      by_cases hz1 : 64 < z
      ·have d1 : decide (64 < z) = true := decide_eq_true hz1
       have HZ := hi_ hz1
       clear hz0 hz1
       go_wp2_with (go_at_call 36; refine CN.out.mono ?_; rintro e w' ⟨w3, rfl, rfl, c43, k13, C3⟩; have HC3 := hi_ C3; clear C3)
       go_ret
       refine ⟨ret_bool (decide_eq_false fun hN => ?_).symm, HC3.out.bel⟩
       have := (HSN.out.1 (good_take hN _)).2.2.2
       have := HZ.out
       omega
      ·have d1 : decide (64 < z) = false := decide_eq_false hz1
       have hz : 0 <= z /\ z <= 64 := by omega
       have HZ := hi_ hz
       clear hz hz0 hz1
       go_wp2_with (go_at_call 36; refine CN.out.mono ?_; rintro e w' ⟨w3, rfl, rfl, c43, k13, C3⟩; have HC3 := hi_ C3; clear C3)
       go_roundw
       case rel => exact ⟨j + 1, hlt, by go_num, HSN.out.2 ⟨HGD.out, HF.out, HN.out, HZ.out⟩, HC3.out⟩
       case measure => simp [intOf]; omega
   ·have q1 : ((findK ks s).1 != (j : Int)) = true := bne_iff_ne.2 hf
    have HF := hi_ hF
    clear hf hF
    go_wp2
    go_ret
    exact ⟨ret_bool (decide_eq_false fun hN => HF.out (HSN.out.1 (good_take hN _)).2.1).symm, HC2.out.bel⟩
  ·obtain rfl : j = n := by omega
   have HGD := hi_ hgd
   have HC := hi_ hC
   clear hgd hC
   go_wp2
   go_ret
   refine ⟨ret_bool (decide_eq_true ?_).symm, HC.out.bel⟩
   have := HGD.out
   rw [<- hl] at this
   exact (good_all ks).1 this
theorem RRight_any (h : KRd w A n ks) (hn : n <= 1000000) (hs : Lens ks) :
  Calls Tryz.prog 10 #[cv lg pg en gn A n cap] w fun e w' => e = .returned (.bool (decide (Cf.mk lg pg en gn ks).Right)) /\ Below w.heap.size w w' := by
 by_cases hN : (2 <= lg /\ lg <= 1024) /\ (4 <= pg /\ pg <= 1024) /\ (1 <= en /\ en <= 1024) /\ (1 <= gn /\ gn <= 1073741824) /\ n <= 32
 ·obtain ⟨⟨h0, h1⟩, ⟨h2, h3⟩, ⟨h4, h5⟩, ⟨h6, h7⟩, h8⟩ := hN
  refine (RRight_yes lg pg en gn A n cap ks w h hs h0 h1 h2 h3 h4 h5 h6 h7 h8).mono fun e w' ⟨he, hb⟩ => ⟨he.trans (ret_bool ?_), hb⟩
  refine decide_eq_decide.2 ⟨fun H => ⟨⟨⟨h0, h1⟩, ⟨h2, h3⟩, ⟨h4, h5⟩, ⟨h6, h7⟩, by have := h.1; show ks.length <= 32; omega⟩, H⟩, fun H => H.2⟩
 ·refine (RRight_num lg pg en gn A n cap ks w h hn hN).mono fun e w' ⟨he, hb⟩ => ⟨he.trans (ret_bool ?_), hb⟩
  exact (decide_eq_false fun R => hN ⟨R.1.1, R.1.2.1, R.1.2.2.1, R.1.2.2.2.1, by have := R.1.2.2.2.2; have := h.1; show n <= 32; simp only at *; omega⟩).symm
end
end Go.Proofs.YthiknmhkdeicjaaGreatDoor
