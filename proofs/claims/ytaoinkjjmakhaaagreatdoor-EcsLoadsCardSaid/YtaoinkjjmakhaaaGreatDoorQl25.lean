/- EcLw, BitsLd, EcLy -/
import Derived.Test.YtaoinkjjmakhaaaGreatDoorQl1
import Derived.Test.YtaoinkjjmakhaaaGreatDoorQl5
import Derived.Test.YtaoinkjjmakhaaaGreatDoorQl8
import Derived.Test.YtaoinkjjmakhaaaGreatDoorQl17
import Derived.Test.YtaoinkjjmakhaaaGreatDoorQl18
import Derived.Test.YtaoinkjjmakhaaaGreatDoorQl20
import Derived.Test.YtaoinkjjmakhaaaGreatDoorQl23
import Derived.Test.YtaoinkjjmakhaaaGreatDoorQl24
import Derived.Test.YtaoinkjjmakhaaaGreatDoorRows
import Derived.ChangeSame
import Derived.LaidMore
import Derived.Lib.LaidTab
namespace Go.Proofs.YtaoinkjjmakhaaaGreatDoor
open Go.RowKit
set_option maxRecDepth 20000
set_option linter.unusedVariables false
set_option linter.unusedSimpArgs false
theorem XR.ofL {x : Fx} {lg pg en gn : Int} {n : Nat} {ks : List Kd} (h : x.Of lg pg en gn n ks) (hn : ks.length = n) (hR : (Cf.mk lg pg en gn ks).Right) : XR x := by
 have hb := hR.1
 refine ⟨by rw [h.n, h.ks, hn], ?_, by rw [h.ks]; exact hR.2.2.2⟩
 rw [h.n, <- hn]
 exact hb.2.2.2.2
theorem ColsRd.below {w W : World} {A : Option Addr} {n : Nat} {ls : List (List UInt8)} (h : ColsRd w A n ls) (hW : Below w.heap.size w W) : ColsRd W A n ls := by
 obtain ⟨h1, h2, h3, h4⟩ := h
 have hs : WStays (· < w.heap.size) w W := ⟨hW.size, fun x hx => hW.block x hx⟩
 refine ⟨h1, (h2.stays hs).mono (fun y hy => Nat.lt_of_lt_of_le hy hW.size), fun k uA un uc b o hA hk hc => ?_, fun hp => ?_⟩
 ·obtain ⟨b', o', hA', hlt, _⟩ := h4 (by omega)
  rw [hA] at hA'
  injection hA' with hA'
  injection hA' with e1 e2
  subst e1 e2
  exact h3 k uA un uc b o hA hk ((hW.cell (p := ⟨b, o + k, none⟩) hlt).symm.trans hc)
 ·obtain ⟨b, o, hA, hlt, hc⟩ := h4 hp
  exact ⟨b, o, hA, Nat.lt_of_lt_of_le hlt hW.size, fun k hk => by
   obtain ⟨uA, un, uc, e, r⟩ := hc k hk
   exact ⟨uA, un, uc, (hW.cell (p := ⟨b, o + k, none⟩) hlt).trans e, r⟩⟩
theorem RwsV.wider {K K' : Nat -> Prop} {w : World} {A : Option Addr} {n : Nat} {xs : List Rw} (h : RwsV K w A n xs) (hk : ∀ x, K x -> K' x) : RwsV K' w A n xs := by
 obtain ⟨vs, h1, h2, h3⟩ := h
 exact ⟨vs, h1, h2.mono hk, h3.imp (fun _ _ hx => ERw.ok.mono hx hk)⟩
theorem RowsRd.below {w W : World} {A : Option Addr} {n : Nat} {xs : List Rw} (h : RowsRd w A n xs) (hW : Below w.heap.size w W) : RowsRd W A n xs := by
 have hs : WStays (· < w.heap.size) w W := ⟨hW.size, fun x hx => hW.block x hx⟩
 refine ⟨h.1, RwsV.wider (RwsV.below h.2.1 hW) (fun y hy => Nat.lt_of_lt_of_le hy hW.size), h.2.2.1, fun b o k r hA hk => ?_⟩
 obtain ⟨IA, ic, CA, cc, hr⟩ := h.2.2.2 b o k r hA hk
 obtain ⟨b', o', hA', hlt, _⟩ := h.at_ hk
 rw [hA] at hA'
 injection hA' with hA'
 injection hA' with e1 e2
 subst e1 e2
 obtain ⟨q0, q1, q2⟩ := hr.below hW hlt
 exact ⟨IA, ic, CA, cc, q0, q1, q2, ⟨⟨hr.i.1.1, (hr.i.1.2.stays hs).mono (fun y hy => Nat.lt_of_lt_of_le hy hW.size)⟩, hr.i.2⟩, ⟨hr.c.1.below hW, hr.c.2⟩⟩
theorem POk.lenL {z : Szs} {l : List Pt} (h : POk z l) : l.length <= z.length := by
 have hnd : (l.map (·.1)).Nodup := List.pairwise_map.2 (h.up.imp fun {a b} hab e => by rw [e] at hab; omega)
 have hs : l.map (·.1) ⊆ (List.range z.length).map Int.ofNat := fun k hk => by
  obtain ⟨p, hp, rfl⟩ := List.mem_map.1 hk
  have := h.sz p hp
  unfold szAt at this
  split at this
  ·rename_i hh
   exact List.mem_map.2 ⟨p.1.toNat, List.mem_range.2 (by omega), by show ((p.1.toNat : Nat) : Int) = _; omega⟩
  ·cases this
 have := List.Nodup.length_le_of_subset hnd hs
 simpa using this
section
variable (lg pg en gn : Int) (A : Option Addr) (n cap : Nat) (ks : List Kd) (GA : Option Addr) (gN gc : Nat) (gs : List Int) (FA : Option Addr) (fN fc : Nat) (fs : List Int) (LA : Option Addr) (ln lc : Nat) (xs : List Rw) (w : World)
theorem lawL_start : ∃ w1, w1 = w.alloc (.cells (cc lg pg en gn A n cap) 24) /\ Below w.heap.size w w1 /\ Rec 24 w1 w.heap.size (cc lg pg en gn A n cap) := ⟨_, rfl, (Below.refl _ _).alloc (Nat.le_refl _) _, Rec.new w _ _⟩
theorem EcsLoads_much (h : KRd w A n ks) (hn : n <= 9223372036854775807) (hl : Lens ks) (hT : TabAt w) (hgn : gN <= 9223372036854775807) (hfn : fN <= 9223372036854775807) (hm : muchK ks = true \/ 60 < gN \/ 60 < fN) :
  Calls Tryz.prog 4 #[cv lg pg en gn A n cap, .slice GA gN gc, .slice FA fN fc, .slice LA ln lc] w fun e w' => e = .returned (.bool true) /\ Below w.heap.size w w' := by
 obtain ⟨w1, hw1, hb1, r1⟩ := lawL_start lg pg en gn A n cap w
 have CM := Much_any lg pg en gn A n cap ks w1 (h.below hb1) hn hl
 obtain ⟨m, hme⟩ : ∃ m, m = muchK ks := ⟨_, rfl⟩
 rw [<- hme] at CM hm
 have CM := hi_ CM
 have HR := hi_ (And.intro r1 (And.intro hb1 hT))
 clear h hb1 r1 hT hme
 cases m with
 | true =>
  clear hm
  go_enter Tryz.func4, Tryz.ntmps4
  go_wp2_with (first
   | (rw [<- hw1]; clear hw1)
   | ((with_reducible refine wpList_ldS confT rfl rfl (.tmp 4) rfl rfl HR.out.1 ?_))
   | (go_at_call 5; refine CM.out.mono ?_; rintro e w2 ⟨rfl, hb2⟩; have HB2 := hi_ (HR.out.2.1.trans (hb2.mono HR.out.2.1.size)); clear hb2)
   | (go_at_call 8; refine (elive_any w2 (HR.out.2.2.below HB2.out)).mono ?_; rintro e w3 ⟨rfl, hb3⟩; have HB3 := hi_ hb3; clear hb3))
  go_ret
  exact ⟨rfl, HB2.out.trans (HB3.out.mono HB2.out.size)⟩
 | false =>
  by_cases hg : 60 < gN
  ·have dg : decide ((60 : Int) < (gN : Int)) = true := decide_eq_true (by omega)
   clear hm
   go_enter Tryz.func4, Tryz.ntmps4
   go_wp2_with (first
    | (rw [<- hw1]; clear hw1)
    | ((with_reducible refine wpList_ldS confT rfl rfl (.tmp 4) rfl rfl HR.out.1 ?_))
    | (go_at_call 5; refine CM.out.mono ?_; rintro e w2 ⟨rfl, hb2⟩; have HB2 := hi_ (HR.out.2.1.trans (hb2.mono HR.out.2.1.size)); clear hb2)
    | (go_at_call 8; refine (elive_any w2 (HR.out.2.2.below HB2.out)).mono ?_; rintro e w3 ⟨rfl, hb3⟩; have HB3 := hi_ hb3; clear hb3))
   go_ret
   exact ⟨rfl, HB2.out.trans (HB3.out.mono HB2.out.size)⟩
  ·have hf : 60 < fN := by rcases hm with h | h | h; cases h; exact absurd h hg; exact h
   have dg : decide ((60 : Int) < (gN : Int)) = false := decide_eq_false (by omega)
   have df : decide ((60 : Int) < (fN : Int)) = true := decide_eq_true (by omega)
   clear hm
   go_enter Tryz.func4, Tryz.ntmps4
   go_wp2_with (first
    | (rw [<- hw1]; clear hw1)
    | ((with_reducible refine wpList_ldS confT rfl rfl (.tmp 4) rfl rfl HR.out.1 ?_))
    | (go_at_call 5; refine CM.out.mono ?_; rintro e w2 ⟨rfl, hb2⟩; have HB2 := hi_ (HR.out.2.1.trans (hb2.mono HR.out.2.1.size)); clear hb2)
    | (go_at_call 8; refine (elive_any w2 (HR.out.2.2.below HB2.out)).mono ?_; rintro e w3 ⟨rfl, hb3⟩; have HB3 := hi_ hb3; clear hb3))
   go_ret
   exact ⟨rfl, HB2.out.trans (HB3.out.mono HB2.out.size)⟩
theorem EcsLoads_case (h : KRd w A n ks) (hn : n <= 1000000) (hL : Lens ks) (hg : IRd w GA gN gs) (hf : IRd w FA fN fs) (hgn : gN <= 60) (hfn : fN <= 60) (hgc : gN <= gc) (hfc : fN <= fc) (hx : RowsRd w LA ln xs) (hln : ln <= 40) (hfew : ∀ r ∈ xs, RwFew r) (hT : TabAt w) :
  (∃ z : Int, z ≠ 0 /\ (∀ W, Below w.heap.size w W -> Calls Tryz.prog 15 #[cv lg pg en gn A n cap, .slice GA gN gc, .slice FA fN fc, .slice LA ln lc] W fun e w' => e = .returned (.tuple #[.pointer none, .int .i64 z]) /\ Below W.heap.size W w') /\
   (∀ W, Below w.heap.size w W -> Calls Tryz.prog 20 #[cv lg pg en gn A n cap, .slice GA gN gc, .slice FA fN fc, .slice LA ln lc] W fun e w' => e = .returned (.tuple #[.agg stN, .int .i64 z]) /\ Below W.heap.size W w')) \/
  ((Cf.mk lg pg en gn ks).Right /\ ∃ k, LdTo n (zsK ks) (ldNs en gn gs fs) xs xs.length k /\ (namesTo xs xs.length).length = (ldNs en gn gs fs).cnt (ldNs en gn gs fs).g.length /\
   (∀ W, Below w.heap.size w W -> Calls Tryz.prog 15 #[cv lg pg en gn A n cap, .slice GA gN gc, .slice FA fN fc, .slice LA ln lc] W fun e w' => Below W.heap.size W w' /\ ∃ x gr c pt, e = .returned (.tuple #[.pointer (some ⟨x.p, 0, none⟩), .int .i64 0]) /\ x.Of lg pg en gn n ks /\ CoJ 0 w' (W.heap.size + 1) gr x k c pt /\ c <= 41000) /\
   (∀ W, Below w.heap.size w W -> Calls Tryz.prog 20 #[cv lg pg en gn A n cap, .slice GA gN gc, .slice FA fN fc, .slice LA ln lc] W fun e w' => Below W.heap.size W w' /\ ∃ (K : Nat -> Prop) (EA : Option Addr) (ec : Nat), e = .returned (.tuple #[.agg (stC GA gN gc FA fN fc EA (entsBy (ldNs en gn gs fs).g.length (entsTo n (zsK ks) xs xs.length)).length ec), .int .i64 0]) /\ EntsV K w' EA (entsBy (ldNs en gn gs fs).g.length (entsTo n (zsK ks) xs xs.length)).length (entsBy (ldNs en gn gs fs).g.length (entsTo n (zsK ks) xs xs.length)))) := by
 by_cases hR : (Cf.mk lg pg en gn ks).Right
 case neg => exact .inl ⟨1, by decide, fun W hW => eload_conf lg pg en gn A n cap ks GA gN gc FA fN fc LA ln lc W (h.below hW) hn hL hR, fun W hW => RLoadE_conf lg pg en gn A n cap ks GA gN gc FA fN fc LA ln lc W (h.below hW) hn hL hR⟩
 by_cases hok : LdOk (ldNs en gn gs fs)
 case neg => exact .inl ⟨11, by decide, fun W hW => eload_names lg pg en gn A n cap ks GA gN gc gs FA fN fc fs LA ln lc W (h.below hW) hn hL hR (hg.below hW) (hf.below hW) (by omega) (by omega) hok, fun W hW => RLoadE_names lg pg en gn A n cap ks GA gN gc gs FA fN fc fs LA ln lc W (h.below hW) hn hL hR (hg.below hW) (hf.below hW) hgn hfn hfc hok⟩
 have hrw : ∀ r ∈ xs, RwOk r := fun r hr => ⟨(hx.2.2.1 r hr).1, by have := (hfew r hr).1; omega, by have := (hfew r hr).2.1; omega, (hx.2.2.1 r hr).2⟩
 have CL := fun W (hW : Below w.heap.size w W) => eload_any lg pg en gn A n cap ks GA gN gc gs FA fN fc fs LA ln lc W (K := (· < w.heap.size)) (xs := xs) (h.below hW) hn hL hR (hg.below hW) (hf.below hW) (by omega) (by omega) hok (RwsV.below hx.2.1 hW) (by omega) hrw (fun W' hW' => hT.below (hW.trans (hW'.mono hW.size)))
 have CR := fun W (hW : Below w.heap.size w W) => RLoadE_any lg pg en gn A n cap ks GA gN gc gs FA fN fc fs LA ln lc W (xs := xs) (h.below hW) hn hL hR (hg.below hW) (hf.below hW) hgn hfn hgc hfc hok (hx.below hW) hln hfew
 by_cases hk : ∃ k, LdTo n (zsK ks) (ldNs en gn gs fs) xs xs.length k /\ (namesTo xs xs.length).length = (ldNs en gn gs fs).cnt (ldNs en gn gs fs).g.length
 ·obtain ⟨k, hk1, hk2⟩ := hk
  refine .inr ⟨hR, k, hk1, hk2, fun W hW => (CL W hW).mono ?_, fun W hW => (CR W hW).mono ?_⟩
  ·rintro e w' ⟨hb, ⟨x, gr, k', c, pt, h1, h2, h3, _, h5, h6⟩ | ⟨_, hno⟩⟩
   ·have := h3.uniq hk1
    subst this
    exact ⟨hb, x, gr, c, pt, h1, h2, h5, by have := hx.1; omega⟩
   ·exact absurd ⟨k, hk1, hk2⟩ hno
  ·rintro e w' ⟨hb, ⟨_, h1⟩ | ⟨hno, _⟩⟩
   ·exact ⟨hb, h1⟩
   ·exact absurd (rld_iff.2 ⟨k, hk1, hk2⟩) hno
 ·refine .inl ⟨11, by decide, fun W hW => (CL W hW).mono ?_, fun W hW => (CR W hW).mono ?_⟩
  ·rintro e w' ⟨hb, ⟨x, gr, k', c, pt, h1, h2, h3, h4, _⟩ | ⟨h1, _⟩⟩
   ·exact absurd ⟨k', h3, h4⟩ hk
   ·exact ⟨h1, hb⟩
  ·rintro e w' ⟨hb, ⟨hok, _⟩ | ⟨_, h1⟩⟩
   ·exact absurd (rld_iff.1 hok) hk
   ·exact ⟨h1, hb⟩
set_option maxHeartbeats 4000000 in
theorem EcsLoads_walk (h : KRd w A n ks) (hn : n <= 9223372036854775807) (hl : Lens ks) (hIg : IRd w GA gN gs) (hgc : gN <= gc) (hgn : gN <= 9223372036854775807) (hIf : IRd w FA fN fs) (hfc : fN <= fc) (hfn : fN <= 9223372036854775807) (hx : RowsRd w LA ln xs) (hln : ln <= 9223372036854775807) (hT : TabAt w) :
  Calls Tryz.prog 4 #[cv lg pg en gn A n cap, .slice GA gN gc, .slice FA fN fc, .slice LA ln lc] w fun e w' => e = .returned (.bool true) /\ Below w.heap.size w w' := by
 by_cases hm : muchK ks = true \/ 60 < gN \/ 60 < fN
 ·exact EcsLoads_much lg pg en gn A n cap ks GA gN gc FA fN fc LA ln lc w h hn hl hT hgn hfn hm
 have hm1 : muchK ks = false := Bool.eq_false_iff.2 (fun e => hm (.inl e))
 have hg : gN <= 60 := Nat.le_of_not_lt (fun e => hm (.inr (.inl e)))
 have hf : fN <= 60 := Nat.le_of_not_lt (fun e => hm (.inr (.inr e)))
 have hn6 : n <= 1000000 := by
  have h1 := h.1
  have h2 := (muchK_no hm1).1
  omega
 obtain ⟨w1, hw1, hb1, r1⟩ := lawL_start lg pg en gn A n cap w
 have CM := Much_any lg pg en gn A n cap ks w1 (h.below hb1) hn hl
 rw [hm1] at CM
 have CM := hi_ CM
 have CE : Hid (∀ W, Below w.heap.size w W -> Calls Tryz.prog 19 #[.slice LA ln lc] W (RwMuch ln xs W)) := hi_ fun W hW => RMuchRows_any W LA ln lc xs (RwsV.below hx.2.1 hW) hln
 have HR := hi_ (And.intro r1 (And.intro hb1 hT))
 have HP0 := hi_ (And.intro h (And.intro hn6 (And.intro hl (And.intro hIg (And.intro hIf hx)))))
 have HGF := hi_ (And.intro hg (And.intro hf (And.intro hgc hfc)))
 have dg : decide ((60 : Int) < (gN : Int)) = false := decide_eq_false (by omega)
 have df : decide ((60 : Int) < (fN : Int)) = false := decide_eq_false (by omega)
 clear h hn hb1 r1 hT hm hm1 hl hn6 hIg hIf hx
 go_enter Tryz.func4, Tryz.ntmps4
 go_wp2_with (first
  | (rw [<- hw1]; clear hw1)
  | ((with_reducible refine wpList_ldS confT rfl rfl (.tmp 4) rfl rfl HR.out.1 ?_))
  | (go_at_call 5; refine CM.out.mono ?_; rintro e w2 ⟨rfl, hb2⟩; have HB2 := hi_ (And.intro (HR.out.2.1.trans (hb2.mono HR.out.2.1.size)) (HR.out.1.under hb2)); clear hb2))
 refine (CE.out w2 HB2.out.1).mono ?_
 rintro e _ ⟨rfl, r, rfl, hr⟩
 have HT2 := hi_ (HR.out.2.2.below HB2.out.1)
 clear CM CE dg df hg hf hgc hfc
 cases r with
 | true =>
  go_wp2_with (go_at_call 8; refine (elive_any w2 HT2.out).mono ?_; rintro e w3 ⟨rfl, hb3⟩; have HB3 := hi_ hb3; clear hb3)
  go_ret
  exact ⟨rfl, HB2.out.1.trans (HB3.out.mono HB2.out.1.size)⟩
 | false =>
 have HF := hi_ (hr rfl)
 clear hr
 rcases EcsLoads_case lg pg en gn A n cap ks GA gN gc gs FA fN fc fs LA ln lc xs w HP0.out.1 HP0.out.2.1 HP0.out.2.2.1 HP0.out.2.2.2.1 HP0.out.2.2.2.2.1 HGF.out.1 HGF.out.2.1 HGF.out.2.2.1 HGF.out.2.2.2 HP0.out.2.2.2.2.2 HF.out.1 HF.out.2 HR.out.2.2 with ⟨z, hz, CL, CR⟩ | ⟨hR, k, hk, hc, CL, CR⟩
 ·have d1 : (z != 0) = true := bne_iff_ne.2 hz
  have d2 : decide (z = 0) = false := decide_eq_false hz
  have CL := hi_ CL
  have CR := hi_ CR
  clear hz
  go_wp2_with (first
   | (go_at_call 15; refine (CL.out w2 HB2.out.1).mono ?_; rintro e w3 ⟨rfl, hb3⟩; have HB3 := hi_ (And.intro (HB2.out.1.trans (hb3.mono HB2.out.1.size)) (HB2.out.2.under hb3)); clear hb3)
   | (go_at_call 20; refine (CR.out w3 HB3.out.1).mono ?_; rintro e w4 ⟨rfl, hb4⟩
      obtain ⟨w5, hw5⟩ : ∃ W, W = w4.alloc (.cells stN 41) := ⟨_, rfl⟩
      have R5 := hi_ (show Rec 41 w5 w4.heap.size stN by rw [hw5]; exact Rec.new w4 _ _)
      have HB4 := hi_ (HB3.out.1.trans (hb4.mono HB3.out.1.size))
      have HB5 := hi_ (show Below w4.heap.size w4 w5 by rw [hw5]; exact (Below.refl _ _).alloc (Nat.le_refl _) _)
      clear hb4)
   | (rw [<- hw5]; clear hw5)
   | ((with_reducible refine wpList_stS (cs' := stN) stT rfl rfl (by simp [Value.oneCell']) rfl (.tmp 11) (.tmp 44) rfl rfl rfl R5.out ?_); intro w6 hR6 hF6; have HB6 := hi_ (show Below w.heap.size w w6 from (HB4.out.trans (HB5.out.mono HB4.out.size)).trans (hF6.toBelow (fun y hy => by rw [show y = w4.heap.size from hy]; exact HB4.out.size) (HB4.out.trans (HB5.out.mono HB4.out.size)).size)); clear hR6 hF6)
   | (go_at_call 16; refine (ecode_any _ _).mono ?_; rintro e w7 ⟨rfl, rfl⟩)
   | (go_at_call 8; refine (elive_any w6 (HR.out.2.2.below HB6.out)).mono ?_; rintro e w8 ⟨rfl, hb8⟩; have HB8 := hi_ hb8; clear hb8)
   | ((with_reducible refine wpList_ldS confT rfl rfl (.tmp 4) rfl rfl HB2.out.2 ?_))
   | ((with_reducible refine wpList_ldS confT rfl rfl (.tmp 4) rfl rfl HB3.out.2 ?_)))
  go_ret
  exact ⟨rfl, HB6.out.trans (HB8.out.mono HB6.out.size)⟩
 have CL := hi_ CL
 obtain ⟨es, hes⟩ : ∃ es, es = entsBy (ldNs en gn gs fs).g.length (entsTo n (zsK ks) xs xs.length) := ⟨_, rfl⟩
 rw [<- hes] at CR
 obtain ⟨em, hem⟩ : ∃ em, em = es.length := ⟨_, rfl⟩
 rw [<- hem] at CR
 have CR := hi_ CR
 have HP := hi_ (And.intro hR (And.intro HP0.out.1.1 (And.intro HP0.out.2.2.2.1 (And.intro HP0.out.2.2.2.2.1 (And.intro HP0.out.2.2.2.2.2 HF.out)))))
 have HK := hi_ (And.intro hk hc)
 have HES := hi_ hes
 have HEM := hi_ hem
 clear hR hk hc hes hem
 go_upto_region 9 with (first
  | (go_at_call 15; refine (CL.out w2 HB2.out.1).mono ?_; rintro e w3 ⟨hb3, x, gr, c, pt, rfl, hOf, hC3, hc3⟩; have HB3 := hi_ (And.intro (HB2.out.1.trans (hb3.mono HB2.out.1.size)) (HB2.out.2.under hb3)); have HC3 := hi_ (And.intro hb3 (And.intro hOf (And.intro hC3 hc3))); clear hb3 hOf hC3 hc3)
  | (go_at_call 20; refine (CR.out w3 HB3.out.1).mono ?_; rintro e w4 ⟨hb4, K4, EA, ec, rfl, hE4⟩
     obtain ⟨w5, hw5⟩ : ∃ W, W = w4.alloc (.cells (stC GA gN gc FA fN fc EA em ec) 41) := ⟨_, rfl⟩
     obtain ⟨g11, hg11⟩ : ∃ g, g = w4.heap.size := ⟨_, rfl⟩
     have R5 := hi_ (show Rec 41 w5 g11 (stC GA gN gc FA fN fc EA em ec) by rw [hw5, hg11]; exact Rec.new w4 _ _)
     have HB5 := hi_ (show Below w4.heap.size w4 w5 by rw [hw5]; exact (Below.refl _ _).alloc (Nat.le_refl _) _)
     have HE4 := hi_ (And.intro hb4 hE4)
     have HG11 := hi_ hg11
     clear hb4 hE4 hg11)
  | (rw [<- hw5, <- HG11.out]; clear hw5)
  | (go_at_call 16; refine (ecode_any _ _).mono ?_; rintro e w7 ⟨rfl, rfl⟩)
  | ((with_reducible refine wpList_ldS confT rfl rfl (.tmp 4) rfl rfl HB2.out.2 ?_))
  | ((with_reducible refine wpList_ldS confT rfl rfl (.tmp 4) rfl rfl HB3.out.2 ?_)))
 obtain ⟨hb23, hOf, hC3, hc3⟩ := HC3.out
 obtain ⟨hb34, hE4⟩ := HE4.out
 obtain ⟨hR, hks, hIg, hIf, hx, hln, hfew⟩ := HP.out
 have hb35 : Below w3.heap.size w3 w5 := hb34.trans (HB5.out.mono hb34.size)
 have hw5' : Below w.heap.size w w5 := HB3.out.1.trans (hb35.mono HB3.out.1.size)
 have hC5 := hC3.below hb35
 have HX : Hid (XR x) := hi_ (XR.ofL hOf hks hR)
 have hkx : LdTo x.n (zsK x.ks) (ldNs en gn gs fs) xs xs.length k := by rw [hOf.n, hOf.ks]; exact HK.out.1
 have hr64 : ∀ r ∈ xs, r.1 < 18446744073709551616 := fun r hr => (hx.2.2.1 r hr).1
 have hxl : xs.length = ln := hx.1
 have hns := LdTo.ns hkx
 have hok : (ldNs en gn gs fs).Ok := by
  obtain ⟨_, _, _, I⟩ := hC3.ids (by decide)
  rw [<- hns]
  exact I.ok
 have hSim := LdTo.sim HX.out hok hr64 hkx HK.out.2
 rw [hOf.n, hOf.ks, <- HES.out] at hSim
 have hSl := (LdTo.S_len hkx).2
 have hS5 : k.S.length <= 5000 := by omega
 have hE := hSim.has HX.out (fun n t ht => hC5.tok ht) hS5
 have hel : es.length <= 1000000 := by
  have h1 := rld_iff.2 ⟨k, HK.out.1, HK.out.2⟩
  have h2 := h1.len
  have h3 := h1.cnt
  have h4 := NS.cnt_le (ldNs en gn gs fs) (ldNs en gn gs fs).g.length
  have h5 : (ldNs en gn gs fs).g.length = gN := hIg.1
  have h6 := HGF.out.1
  rw [<- HES.out] at h2
  omega
 have hps : ∀ e ∈ es, e.2.length <= 1000000 := fun e he => by
  have h1 := (hSim.ok.parts e he).lenL
  rw [hOf.ks, show (szX ks).length = ks.length by simp [szX]] at h1
  have h2 := hR.1.2.2.2.2
  have h3 : ks.length <= 32 := h2
  omega
 have hT5 : TabAt w5 := HR.out.2.2.below hw5'
 have HT4 := hi_ hT5
 have hgl : gN = (ldNs en gn gs fs).g.length := hIg.1.symm
 have hfl : fN = (ldNs en gn gs fs).fr.length := hIf.1.symm
 have hN : w2.heap.size + 1 <= w5.heap.size := by have h1 := hC5.Nle; omega
 have CST : Hid (∀ W, Below w5.heap.size w5 W -> Calls Tryz.prog 11 #[.pointer (some ⟨x.p, 0, none⟩)] W fun e w' => ∃ GA2 gc2 FA2 fc2 EA2 ec2, e = .returned (.agg (stC GA2 gN gc2 FA2 fN fc2 EA2 em ec2)) /\ StV (fun y => W.heap.size <= y) w' GA2 gN FA2 fN EA2 em gs fs es /\ Below W.heap.size W w') := hi_ fun W hW => by
  have h2W : Below w2.heap.size w2 W := hb23.trans ((hb35.trans (hW.mono hb35.size)).mono hb23.size)
  have := estate_yes (hC5.below hW) ⟨(TabAt.N (HR.out.2.2.below HB2.out.1) (Nat.le_succ _)).1, HT4.out.below hW⟩ hE hS5 hel
  rw [hns, <- hgl, <- hfl, <- HEM.out] at this
  exact this
 have CSS : Hid (∀ {K : Nat -> Prop} (W : World) (GA2 : Option Addr) (gc2 : Nat) (FA2 : Option Addr) (fc2 : Nat) (EA2 : Option Addr) (ec2 : Nat), Below w5.heap.size w5 W -> StV K W GA2 gN FA2 fN EA2 em gs fs es -> Calls Tryz.prog 17 #[.agg (stC GA2 gN gc2 FA2 fN fc2 EA2 em ec2), .agg (stC GA gN gc FA fN fc EA em ec)] W fun e w' => e = .returned (.bool true) /\ Below W.heap.size W w') := hi_ fun W GA2 gc2 FA2 fc2 EA2 ec2 hW hV =>
  RSameS_yes GA2 gN gc2 FA2 fN fc2 EA2 em ec2 GA gc FA fc EA ec gs fs es W hV ⟨hIg.below (hw5'.trans (hW.mono hw5'.size)), hIf.below (hw5'.trans (hW.mono hw5'.size)), EntsV.below hE4 (HB5.out.trans (hW.mono HB5.out.size))⟩ (by have := HGF.out.1; omega) (by have := HGF.out.2.1; omega) (by rw [HEM.out]; exact hel) hps
 have CRW : Hid (∀ W, Below w5.heap.size w5 W -> Calls Tryz.prog 12 #[.pointer (some ⟨x.p, 0, none⟩)] W fun e w' => ∃ QA qc, e = .returned (.slice QA ln qc) /\ RwsV (fun y => W.heap.size <= y) w' QA ln xs /\ Below W.heap.size W w') := hi_ fun W hW => by
  refine (erows_yes (hC5.below hW) (fun W' hW' => HT4.out.below (hW.trans (hW'.mono hW.size))) (by omega) (by omega)).mono ?_
  rintro e w' ⟨QA, m, cc, ns, rfl, hm, hnd, hmem, _, hp, hV, hb⟩
  have he := LdTo.rws hr64 hkx hnd hmem hp
  have hml : m = ln := by rw [hm, <- hxl, <- he, List.length_map]
  subst hml
  rw [he] at hV
  exact ⟨QA, cc, rfl, hV, hb⟩
 have CSR : Hid (∀ {K : Nat -> Prop} (W : World) (QA : Option Addr) (qc : Nat), Below w5.heap.size w5 W -> RwsV K W QA ln xs -> Calls Tryz.prog 13 #[.slice QA ln qc, .slice LA ln lc] W fun e w' => e = .returned (.bool true) /\ Below W.heap.size W w') := hi_ fun W QA qc hW hV =>
  RSameRows_yes QA LA ln qc lc xs W hV (RwsV.below hx.2.1 (hw5'.trans (hW.mono hw5'.size))) (by omega) (fun r hr => by have h1 := hfew r hr; exact ⟨by have := h1.1; omega, by have := h1.2.1; omega⟩)
 have SP : Hid (∀ W, Below w5.heap.size w5 W -> (W.cell? ⟨g11, 0, none⟩ = some (.slice GA gN gc) /\ W.cell? ⟨g11, 1, none⟩ = some (.slice FA fN fc) /\ W.cell? ⟨g11, 2, none⟩ = some (.slice EA em ec))) := hi_ fun W hW => by
  have b0 := R5.out.under hW
  exact ⟨b0.at_ 0, b0.at_ 1, b0.at_ 2⟩
 have BD : Hid (Below w5.heap.size w5 w5.drew) := hi_ (Below.refl _ _).drew
 have s5 := SP.out _ BD.out
 have HW4 := hi_ hw5'
 clear hb23 hOf hC3 hc3 hb34 hE4 hR hks hIg hIf hx hln hfew hb35 hw5' hC5 hkx hr64 hxl hns hok hSim hSl hS5 hE hel hps hT5 hgl hfl hN CL CR
 refine wp_region_noPanic ?_
 refine wp_region_held_drew (S := fun W => W.cell? ⟨g11, 0, none⟩ = some (.slice GA gN gc) /\ W.cell? ⟨g11, 1, none⟩ = some (.slice FA fN fc) /\ W.cell? ⟨g11, 2, none⟩ = some (.slice EA em ec)) (by kernel_rfl) s5 (fun hHeld => ?_)
 refine tk_ 0 ⟨some 57, .move (.tmp 9), 29, "law.go:114", #[], none⟩ hHeld ?_
 simp only [Act.put, sA_, sB_, sC_]
 refine tk_ 1 ⟨some 58, .binOp .neq 29 (.tmp 57) (.const (.pointer none)) 29, 4, "law.go:114", #[⟨0, .data⟩], none⟩ hHeld ?_
 simp only [Act.put, sA_, sB_, sC_]
 refine tk_ 2 ⟨some 59, .move (.tmp 58), 4, "law.go:114", #[⟨1, .data⟩], none⟩ hHeld ?_
 simp only [Act.put, sA_, sB_, sC_]
 refine tk_ 3 ⟨some 60, .move (.tmp 9), 29, "law.go:114", #[⟨2, .guard⟩], some (2, true)⟩ hHeld ?_
 simp only [Act.put, sA_, sB_, sC_]
 refine tk_ 5 ⟨some 62, .load 41 (.tmp 11), 41, "law.go:114", #[⟨2, .guard⟩], some (2, true)⟩ hHeld ?_
 simp only [Act.put, sA_, sB_, sC_]
 refine wpAnyH_ready (rs := [4]) (by kernel_rfl) (by simp) ?_
 refine AllReadyH.cons (o := ⟨some 61, .call { callee := .value (.func 11), args := #[.tmp 60], argTypes := #[29] }, 41, "law.go:114", #[⟨3, .data⟩, ⟨2, .chain⟩, ⟨2, .guard⟩], some (2, true)⟩) rfl (fun K' hK => ?_) AllReadyH.nil
 go_simp
 go_at_call 11; refine (CST.out _ BD.out).mono ?_; rintro e w6 ⟨GA2, gc2, FA2, fc2, EA2, ec2, rfl, hV6, hb6⟩
 have H6 := hi_ (And.intro hV6 (BD.out.trans (hb6.mono BD.out.size)))
 have s6 := SP.out w6 H6.out.2
 clear hV6 hb6
 refine hK.out _ _ s6 (fun hHeld => ?_)
 clear hK K'
 try simp only [Act.put, sA_, sB_, sC_]
 refine wpAnyH_ready (rs := [6]) (by kernel_rfl) (by simp) ?_
 refine AllReadyH.cons (o := ⟨some 63, .call { callee := .value (.func 17), args := #[.tmp 61, .tmp 62], argTypes := #[41, 41] }, 4, "law.go:114", #[⟨4, .data⟩, ⟨5, .data⟩, ⟨4, .chain⟩, ⟨2, .guard⟩], some (2, true)⟩) rfl (fun K' hK => ?_) AllReadyH.nil
 go_simp
 go_at_call 17; refine (CSS.out w6 GA2 gc2 FA2 fc2 EA2 ec2 H6.out.2 H6.out.1).mono ?_; rintro e w7 ⟨rfl, hb7⟩
 have H7 := hi_ (H6.out.2.trans (hb7.mono H6.out.2.size))
 have s7 := SP.out w7 H7.out
 clear hb7
 refine hK.out _ _ s7 (fun hHeld => ?_)
 clear hK K'
 try simp only [Act.put, sA_, sB_, sC_]
 refine tk_ 7 ⟨some 64, .pick (.tmp 59) (.tmp 63) (.const (.bool false)), 4, "law.go:114", #[⟨2, .data⟩, ⟨6, .data⟩], none⟩ hHeld ?_
 simp only [Act.put, sA_, sB_, sC_]
 refine tk_ 8 ⟨some 65, .move (.tmp 64), 4, "law.go:114", #[⟨7, .data⟩, ⟨6, .chain⟩], none⟩ hHeld ?_
 simp only [Act.put, sA_, sB_, sC_]
 refine tk_ 9 ⟨some 66, .move (.tmp 9), 29, "law.go:114", #[⟨8, .guard⟩], some (8, true)⟩ hHeld ?_
 simp only [Act.put, sA_, sB_, sC_]
 refine tk_ 11 ⟨some 68, .move (.tmp 3), 43, "law.go:114", #[⟨8, .guard⟩], some (8, true)⟩ hHeld ?_
 simp only [Act.put, sA_, sB_, sC_]
 refine wpAnyH_ready (rs := [10]) (by kernel_rfl) (by simp) ?_
 refine AllReadyH.cons (o := ⟨some 67, .call { callee := .value (.func 12), args := #[.tmp 66], argTypes := #[29] }, 43, "law.go:114", #[⟨9, .data⟩, ⟨8, .chain⟩, ⟨8, .guard⟩], some (8, true)⟩) rfl (fun K' hK => ?_) AllReadyH.nil
 go_simp
 go_at_call 12; refine (CRW.out w7 H7.out).mono ?_; rintro e w8 ⟨QA, qc, rfl, hV8, hb8⟩
 have H8 := hi_ (And.intro hV8 (H7.out.trans (hb8.mono H7.out.size)))
 have s8 := SP.out w8 H8.out.2
 clear hV8 hb8
 refine hK.out _ _ s8 (fun hHeld => ?_)
 clear hK K'
 try simp only [Act.put, sA_, sB_, sC_]
 refine wpAnyH_ready (rs := [12]) (by kernel_rfl) (by simp) ?_
 refine AllReadyH.cons (o := ⟨some 69, .call { callee := .value (.func 13), args := #[.tmp 67, .tmp 68], argTypes := #[43, 43] }, 4, "law.go:114", #[⟨10, .data⟩, ⟨11, .data⟩, ⟨10, .chain⟩, ⟨8, .guard⟩], some (8, true)⟩) rfl (fun K' hK => ?_) AllReadyH.nil
 go_simp
 go_at_call 13; refine (CSR.out w8 QA qc H8.out.2 H8.out.1).mono ?_; rintro e w9 ⟨rfl, hb9⟩
 have H9 := hi_ (H8.out.2.trans (hb9.mono H8.out.2.size))
 have s9 := SP.out w9 H9.out
 clear hb9
 refine hK.out _ _ s9 (fun hHeld => ?_)
 clear hK K'
 try simp only [Act.put, sA_, sB_, sC_]
 refine tk_ 13 ⟨some 70, .pick (.tmp 65) (.tmp 69) (.const (.bool false)), 4, "law.go:114", #[⟨8, .data⟩, ⟨12, .data⟩], none⟩ hHeld ?_
 simp only [Act.put, sA_, sB_, sC_]
 refine tk_ 14 ⟨some 71, .move (.tmp 70), 4, "law.go:114", #[⟨13, .data⟩, ⟨12, .chain⟩], none⟩ hHeld ?_
 simp only [Act.put, sA_, sB_, sC_]
 refine wpAnyH_ready (rs := [15]) (by kernel_rfl) (by simp) ?_
 refine AllReadyH.cons (o := ⟨some 72, .call { callee := .value (.func 8), args := #[], argTypes := #[] }, 4, "law.go:114", #[⟨14, .chain⟩, ⟨14, .guard⟩], some (14, true)⟩) rfl (fun K' hK => ?_) AllReadyH.nil
 go_simp
 go_at_call 8; refine (elive_any w9 (HT4.out.below H9.out)).mono ?_; rintro e w10 ⟨rfl, hb10⟩
 have H10 := hi_ (H9.out.trans (hb10.mono H9.out.size))
 have s10 := SP.out w10 H10.out
 clear hb10
 refine hK.out _ _ s10 (fun hHeld => ?_)
 clear hK K'
 try simp only [Act.put, sA_, sB_, sC_]
 refine tk_ 16 ⟨some 73, .pick (.tmp 71) (.tmp 72) (.const (.bool false)), 4, "law.go:114", #[⟨14, .data⟩, ⟨15, .data⟩], none⟩ hHeld ?_
 simp only [Act.put, sA_, sB_, sC_]
 refine tk_ 17 ⟨some 8, .assign (.tmp 73), 4, "law.go:114", #[⟨16, .data⟩, ⟨15, .chain⟩, ⟨0, .phase⟩, ⟨1, .phase⟩, ⟨2, .phase⟩, ⟨3, .phase⟩, ⟨4, .phase⟩, ⟨5, .phase⟩, ⟨6, .phase⟩, ⟨7, .phase⟩, ⟨8, .phase⟩, ⟨9, .phase⟩, ⟨10, .phase⟩, ⟨11, .phase⟩, ⟨12, .phase⟩, ⟨13, .phase⟩, ⟨14, .phase⟩, ⟨15, .phase⟩, ⟨16, .phase⟩], none⟩ hHeld ?_
 simp only [Act.put, sA_, sB_, sC_]
 refine wpAnyH_done (by kernel_rfl) ?_ _
 refine NoPanic.normal ?_
 clear hHeld s5 s6 s7 s8 s9 s10
 go_wp2_with fail
 go_ret
 exact ⟨rfl, HW4.out.trans (H10.out.mono HW4.out.size)⟩
end
end Go.Proofs.YtaoinkjjmakhaaaGreatDoor
namespace Go.Proofs.YtaoinkjjmakhaaaGreatDoor
open Go.RowKit
theorem tab_of_laid {W : World} (h : laidMetH Tryz.prog [("math/bits.deBruijn64tab", Rows.laid_math_bits_deBruijn64tab)] W) : TabAt W := by
 rw [MakeChecks.laidMetH_plain _ _ _ (by kernel_rfl)] at h
 have hg : Tryz.prog.globalNamed "math/bits.deBruijn64tab" = some 0 := by kernel_rfl
 have ht : Lib.TabIs Tryz.prog W "math/bits.deBruijn64tab" .u8 (Lib.deBruijn64tab.map Int.ofNat) :=
  Lib.tabIs_of_head (n := 64) (rest := []) hg (by kernel_rfl) Tryz.underlying248 Tryz.underlying5 (by kernel_rfl) (by kernel_rfl) h
 intro j hj
 have hl : j < Lib.deBruijn64tab.length := hj
 rw [ht.cell hg j (by rw [List.length_map]; exact hl)]
 have e : (Lib.deBruijn64tab.map Int.ofNat).getD j 0 = ((Lib.deBruijn64tab.getD j 0 : Nat) : Int) := by
  simp [List.getD, hl]
 rw [e]
end Go.Proofs.YtaoinkjjmakhaaaGreatDoor
namespace Go.Proofs.YtaoinkjjmakhaaaGreatDoor
open Go.RowKit Go.ChangeShapes Go.WideShapes Go.Deep
theorem open_inlist {H : Type} {enc : TypeId × Value -> H} {w : World} {base : Nat} {held : Bool} {fuel : Nat} {cs : List Value} {x : DataW H × List MemPlace} (h : DataW.trod enc Tryz.prog w base (fun _ => true) held fuel 38 cs = some x) :
  ∃ A n c zs, cs = [.slice A n c] /\ IRd w A n zs /\ n <= c /\ c <= maxLen := by
 rcases open_ints Tryz.underlying38 Tryz.underlying3 (by kernel_rfl) h with ⟨hcs, _⟩ | ⟨x, l, c, zs, hcs, _, hl, hm, hz, _, hcell, hwz⟩
 ·exact ⟨none, 0, 0, [], hcs, ⟨rfl, fun h => absurd h (Nat.lt_irrefl 0)⟩, Nat.le_refl _, Nat.zero_le _⟩
 ·obtain ⟨hr, h1, h2, _⟩ := ird_of_row (w := w) (a := some x) (len := l) (cap := c) (zs := zs) (.inr ⟨x, rfl, hl, hm, by simpa using hz, hcell, hwz⟩)
  exact ⟨some x, l, c, zs.take l, hcs, hr, h1, h2⟩
end Go.Proofs.YtaoinkjjmakhaaaGreatDoor
