/- TbR4, TbR2, TbR3, LeC, TbS -/
import Derived.Test.YtaoinkjjmakhaaaGreatDoorQl1
import Derived.Test.YtaoinkjjmakhaaaGreatDoorQl2
import Derived.Deep.RegionHeld3
namespace Go.Proofs.YtaoinkjjmakhaaaGreatDoor
open Go.RowKit
theorem own_ge {w : World} {B e size n : Nat} {v : Value} {xs : List Value} (h : w.ownsRow B e size v n xs) {x : Nat} (hx : v.ownBlock = some x) : B <= x /\ x < w.heap.size := by
 rcases h.2 with ⟨rfl, _⟩ | ⟨g, cap, cur, rfl, hB, hh, _⟩
 ·cases hx
 ·injection hx with hx
  have hx' : g = x := hx
  rw [<- hx']
  exact ⟨hB, (Array.getElem?_eq_some_iff.1 hh).1⟩
theorem own_slv {w : World} {B e size n : Nat} {v : Value} {xs : List Value} (h : w.ownsRow B e size v n xs) : ∃ A c, v = .slice A n c /\ n <= c /\ c <= maxLen := by
 obtain ⟨A, c, e, h1, h2, _⟩ := own_vrow h
 exact ⟨A, c, e, h1, h2⟩
abbrev ints (xs : List Int) : List Value := xs.map (Value.int .i64)
theorem ints_el (xs : List Int) : HdL 1 EI (ints xs) xs := by
 refine ⟨xs.map fun x => [.int .i64 x], ?_, by simp, fun r hr => ?_, fun j x hx => ⟨[.int .i64 x], by simp [hx], rfl⟩⟩
 ·induction xs with
  | nil => rfl
  | cons a xs ih => simp [ints] at ih ⊢; exact ih
 ·obtain ⟨x, _, rfl⟩ := List.mem_map.1 hr
  rfl
structure NewJ (w0 w : World) (B g : Nat) (cu su : Value) (xs ys : List Int) : Prop where
 bel : Below w0.heap.size w0 w
 ge : w0.heap.size <= g
 gB : g < B
 Bw : B <= w.heap.size
 blk : Rec 127 w g #[cu, su, nilv]
 oc : w.ownsRow B 3 1 cu xs.length (ints xs)
 os : w.ownsRow B 3 1 su ys.length (ints ys)
 ap : ∀ x, cu.ownBlock = some x -> su.ownBlock ≠ some x
section
variable {w0 w w' : World} {B g : Nat} {cu su : Value} {xs ys : List Int}
theorem NewJ.below (h : NewJ w0 w B g cu su xs ys) (hb : Below w.heap.size w w') : NewJ w0 w' B g cu su xs ys :=
 ⟨h.bel.trans (hb.mono h.bel.size), h.ge, h.gB, Nat.le_trans h.Bw hb.size, h.blk.under hb, own_keep h.oc hb, own_keep h.os hb, h.ap⟩
theorem NewJ.fr {w4 : World} (h : NewJ w0 w B g cu su xs ys) (hF : Fr (fun x => x = g \/ B <= x) w4 w) (hg : w.grownBy w' cu.ownBlock) : Fr (fun x => x = g \/ B <= x) w4 w' := hF.trans (Fr.grown hg (fun _ hy => .inr (own_ge h.oc hy).1))
theorem NewJ.fr2 {w4 : World} (h : NewJ w0 w B g cu su xs ys) (hF : Fr (fun x => x = g \/ B <= x) w4 w) (hg : w.grownBy w' su.ownBlock) : Fr (fun x => x = g \/ B <= x) w4 w' := hF.trans (Fr.grown hg (fun _ hy => .inr (own_ge h.os hy).1))
theorem NewJ.comp (h : NewJ w0 w B g cu su xs ys) {cu' : Value} {x : Int} (ho : w'.ownsRow B 3 1 cu' (xs.length + 1) (ints xs ++ [.int .i64 x])) (hg : w.grownBy w' cu.ownBlock) (hv : cu'.ownBlock = cu.ownBlock \/ cu'.ownBlock = some w.heap.size) :
  Rec 127 w' g #[cu, su, nilv] /\ NewJ w0 (w'.setCell ⟨g, 0, none⟩ cu') B g cu' su (xs ++ [x]) ys := by
 have hF : Fr (fun y => cu.ownBlock = some y) w w' := Fr.grown hg (fun y hy => hy)
 have hr : Rec 127 w' g #[cu, su, nilv] := h.blk.fr hF (fun e => by have := (own_ge h.oc e).1; have := h.gB; omega)
 have hS : Fr (· = g) w' (w'.setCell ⟨g, 0, none⟩ cu') := Fr.setCell (own := (· = g)) w' (p := ⟨g, 0, none⟩) rfl _
 have hB' := hF.size
 have hB2 := hS.size
 have hos := own_fr h.os hF (fun y hy e => h.ap y e hy)
 have hbel := h.bel.trans (hF.toBelow (fun y hy => by have := (own_ge h.oc hy).1; have := h.gB; have := h.ge; omega) h.bel.size)
 refine ⟨hr, hbel.trans (hS.toBelow (fun y hy => by rw [show y = g from hy]; exact h.ge) hbel.size), h.ge, h.gB, by have := h.Bw; omega, hr.set 0 cu', ?_, own_fr hos hS (fun y hy e => by have := (own_ge hos hy).1; have := h.gB; have e' : y = g := e; omega), fun y hy e => ?_⟩
 ·have := own_fr ho hS (fun y hy e => by have := (own_ge ho hy).1; have := h.gB; have e' : y = g := e; omega)
  unfold ints at this ⊢
  simpa using this
 ·rcases hv with h1 | h1
  ·exact h.ap y (h1 ▸ hy) e
  ·rw [h1] at hy
   injection hy with hy
   have := (own_ge h.os e).2
   omega
theorem NewJ.size_ (h : NewJ w0 w B g cu su xs ys) {su' : Value} {x : Int} (ho : w'.ownsRow B 3 1 su' (ys.length + 1) (ints ys ++ [.int .i64 x])) (hg : w.grownBy w' su.ownBlock) (hv : su'.ownBlock = su.ownBlock \/ su'.ownBlock = some w.heap.size) :
  Rec 127 w' g #[cu, su, nilv] /\ NewJ w0 (w'.setCell ⟨g, 1, none⟩ su') B g cu su' xs (ys ++ [x]) := by
 have hF : Fr (fun y => su.ownBlock = some y) w w' := Fr.grown hg (fun y hy => hy)
 have hr : Rec 127 w' g #[cu, su, nilv] := h.blk.fr hF (fun e => by have := (own_ge h.os e).1; have := h.gB; omega)
 have hS : Fr (· = g) w' (w'.setCell ⟨g, 1, none⟩ su') := Fr.setCell (own := (· = g)) w' (p := ⟨g, 1, none⟩) rfl _
 have hB' := hF.size
 have hB2 := hS.size
 have hoc := own_fr h.oc hF (fun y hy e => h.ap y hy e)
 have hbel := h.bel.trans (hF.toBelow (fun y hy => by have := (own_ge h.os hy).1; have := h.gB; have := h.ge; omega) h.bel.size)
 refine ⟨hr, hbel.trans (hS.toBelow (fun y hy => by rw [show y = g from hy]; exact h.ge) hbel.size), h.ge, h.gB, by have := h.Bw; omega, hr.set 1 su', own_fr hoc hS (fun y hy e => by have := (own_ge hoc hy).1; have := h.gB; have e' : y = g := e; omega), ?_, fun y hy e => ?_⟩
 ·have := own_fr ho hS (fun y hy e => by have := (own_ge ho hy).1; have := h.gB; have e' : y = g := e; omega)
  unfold ints at this ⊢
  simpa using this
 ·rcases hv with h1 | h1
  ·exact h.ap y hy (h1 ▸ e)
  ·rw [h1] at e
   injection e with e
   have := (own_ge h.oc hy).2
   omega
end
theorem CAt.fr {w0 w w' : World} {g : Nat} {lg pg en gn : Int} {A : Option Addr} {n cap : Nat} {ks : List Kd} {own : Nat -> Prop} (h : CAt w0 w g lg pg en gn A n cap ks) (hF : Fr own w w') (hg : ¬ own g) (hb : Below w0.heap.size w0 w') (hk : KRd w0 A n ks) : CAt w0 w' g lg pg en gn A n cap ks where
 bel := hb
 ge := h.ge
 lt := Nat.lt_of_lt_of_le h.lt hF.size
 c0 := (World.cell?_of_block (a := ⟨g, 0, none⟩) (hF.block g h.lt hg)).trans h.c0
 c1 := (World.cell?_of_block (a := ⟨g, 1, none⟩) (hF.block g h.lt hg)).trans h.c1
 c2 := (World.cell?_of_block (a := ⟨g, 2, none⟩) (hF.block g h.lt hg)).trans h.c2
 c3 := (World.cell?_of_block (a := ⟨g, 3, none⟩) (hF.block g h.lt hg)).trans h.c3
 c4 := (World.cell?_of_block (a := ⟨g, 4, none⟩) (hF.block g h.lt hg)).trans h.c4
 rd := hk.below hb
section
variable (lg pg en gn : Int) (A : Option Addr) (n cap : Nat) (ks : List Kd) (w : World)
def newL (m : Nat) (zs : Nat -> Int) (l : List Nat) : List (Int × Nat) := (l.filter fun (k : Nat) => decide (k < m)).map fun (k : Nat) => ((k : Int), (min (max (zs k) 0) 64).toNat)
theorem newL_snoc (m : Nat) (zs : Nat -> Int) (l : List Nat) (k : Nat) : newL m zs (l ++ [k]) = newL m zs l ++ (if k < m then [((k : Int), (min (max (zs k) 0) 64).toNat)] else []) := by
 unfold newL
 rw [List.filter_append, List.map_append]
 by_cases h : k < m <;> simp [h]
theorem newL_len (m : Nat) (zs : Nat -> Int) (l : List Nat) : (newL m zs l).length <= l.length := by
 unfold newL
 rw [List.length_map]
 exact List.length_filter_le _ _
set_option maxRecDepth 20000 in
set_option maxHeartbeats 4000000 in
theorem RTNew_nil (h : KRd w A n ks) (hn : n <= 1000000) (sig : Nat) (hs : sig < 18446744073709551616) :
  Calls Tryz.prog 110 #[cv lg pg en gn A n cap, .int .u64 (sig : Nat)] w fun e w' => ∃ d : Rt, e = .returned (.agg d.cs) /\ RtS (fun x => w.heap.size <= x /\ x < w'.heap.size) w' d (Tb.new n (zsK ks) sig) /\ Below w.heap.size w w' /\ d.RA = none /\ d.rc = 0 := by
 obtain ⟨w1, hw1⟩ : ∃ w1, w1 = w.alloc (.cells (cc lg pg en gn A n cap) 24) := ⟨_, rfl⟩
 have C1 := CAt.new h lg pg en gn cap
 rw [<- hw1] at C1
 obtain ⟨g, hg⟩ : ∃ g, g = w.heap.size := ⟨_, rfl⟩
 rw [<- hg] at C1
 have sz1 : w1.heap.size = g + 1 := by rw [hw1, hg]; simp
 obtain ⟨w2, hw2⟩ : ∃ w2, w2 = w1.alloc (.cells #[.slice none 0 0, .slice none 0 0, .slice none 0 0] 127) := ⟨_, rfl⟩
 have hB2 : Below w1.heap.size w1 w2 := by rw [hw2]; exact (Below.refl _ _).alloc (Nat.le_refl _) _
 have hR2 : Rec 127 w2 (g + 1) #[nilv, nilv, nilv] := by rw [hw2, <- sz1]; exact Rec.new _ _ _
 have sz2 : w2.heap.size = g + 2 := by rw [hw2, World.size_alloc, sz1]
 obtain ⟨w3, hw3⟩ : ∃ w3, w3 = w2.alloc (.cells #[.slice none 0 0, .slice none 0 0, .slice none 0 0] 127) := ⟨_, rfl⟩
 have hB3 : Below w2.heap.size w2 w3 := by rw [hw3]; exact (Below.refl _ _).alloc (Nat.le_refl _) _
 have hR3 : Rec 127 w3 (g + 2) #[nilv, nilv, nilv] := by rw [hw3, <- sz2]; exact Rec.new _ _ _
 have sz3 : w3.heap.size = g + 3 := by rw [hw3, World.size_alloc, sz2]
 have C3 := (C1.next hB2).next hB3
 have hR23 := hR2.under hB3
 have CL := hi_ (RList_any sig w3 hs)
 have HK := hi_ h
 have HC3 := hi_ C3
 have HR3 := hi_ hR3
 have HR23 := hi_ hR23
 have HG := hi_ hg
 have S1 := hi_ sz1
 have S2 := hi_ sz2
 have S3 := hi_ sz3
 have HW2 := hi_ hw2
 have HW3 := hi_ hw3
 clear h C1 C3 hB2 hB3 hR2 hR3 hR23 hg sz1 sz2 sz3 hw2 hw3
 go_enter Tryz.func110, Tryz.ntmps110
 go_wp2_with (first
  | (rw [<- hw1, <- HG.out]; clear hw1)
  | (rw [<- HW2.out])
  | (rw [<- HW3.out])
  | (go_at_call 98; refine CL.out.mono ?_; rintro e w4 ⟨v4, rfl, hO4, hB4⟩; have HO4 := hi_ hO4; have HB4 := hi_ hB4; clear hO4 hB4))
 rw [S1.out, S2.out]
 have C4 := HC3.out.next HB4.out
 have s3 := S3.out
 have s4 := HB4.out.size
 have hgw := HG.out
 have J4 : NewJ w w4 w4.heap.size (g + 2) nilv nilv [] [] :=
  ⟨C4.bel, by omega, by omega, Nat.le_refl _, HR3.out.under HB4.out, World.ownsRow_nil _ _ _ _, World.ownsRow_nil _ _ _ _, fun x hx => by cases hx⟩
 have R4 := HR23.out.under HB4.out
 have O4 := HO4.out
 have hLl : (listN sig).length <= 64 := by
  unfold listN
  exact Nat.le_trans (List.length_filter_le _ _) (by simp)
 obtain ⟨LA, Lc, rfl, _, _⟩ := own_slv O4
 have HC4 := hi_ C4
 have HR4 := hi_ R4
 have HO4 := hi_ O4
 have HJ4 := hi_ J4
 clear C4 J4 R4 O4 hgw
 obtain ⟨L, hL⟩ : ∃ L, L = listN sig := ⟨_, rfl⟩
 have hLz : listZ sig = L.map Int.ofNat := by rw [hL]; rfl
 rw [<- hL, hLz] at HO4
 rw [<- hL] at hLl ⊢
 have HLE := hi_ hL
 clear hL hLz
 go_loopw [7] (fun iv wr => ∃ (j : Nat) (cu su : Value), j <= L.length /\ iv = .int .i64 j /\ NewJ w wr w4.heap.size (g + 2) cu su ((newL n (zsK ks) (L.take j)).map (·.1)) ((newL n (zsK ks) (L.take j)).map fun c => (c.2 : Int)) /\ Fr (fun x => x = g + 2 \/ w4.heap.size <= x) w4 wr) (fun iv _ => L.length - (intOf iv).toNat)
 case atStart => exact ⟨0, nilv, nilv, Nat.zero_le _, rfl, HJ4.out, Fr.refl _ _⟩
 case round =>
  obtain ⟨j, cu, su, hj, rfl, hJ, hF⟩ := hrel
  by_cases hjn : j < L.length
  ·have hCr := HC4.out.fr hF (by omega) hJ.bel HK.out
   obtain ⟨x, hx⟩ : ∃ x, x = L[j] := ⟨_, rfl⟩
   obtain ⟨lb, hLA, hlb, hlc⟩ : ∃ lb, LA = some ⟨lb, 0, none⟩ /\ (w3.heap.size <= lb /\ lb < w4.heap.size) /\ w4.cell? ⟨lb, j, none⟩ = some (.int .i64 (x : Int)) := by
    obtain ⟨A', c', e, _, _, hV⟩ := own_vrow HO4.out
    injection e with e1 e2 e3
    subst e1
    rcases HO4.out.2 with ⟨hv, h0⟩ | ⟨gg, cap', cur, hv, hB', hh, _⟩
    ·omega
    ·injection hv with hv1 hv2 hv3
     refine ⟨gg, hv1, ⟨hB', (Array.getElem?_eq_some_iff.1 hh).1⟩, ?_⟩
     have := HO4.out.cells (g := gg) (by rw [hv1]; rfl) j (.int .i64 (x : Int)) (by rw [hx]; simp [List.getElem?_eq_getElem hjn])
     rw [Addr.add_lit, Nat.zero_add] at this
     exact this
   subst hLA
   have lc : wr.cell? ⟨lb, j, none⟩ = some (.int .i64 (x : Int)) := (World.cell?_of_block (a := ⟨lb, j, none⟩) (hF.block lb hlb.2 (by omega))).trans hlc
   have c0 := hCr.c0
   have c1 := hCr.c1
   have c2 := hCr.c2
   have c3 := hCr.c3
   have c4 := hCr.c4
   have bd : Below wr.heap.size wr wr.drew := (Below.refl _ _).drew
   obtain ⟨zz, okk, hsk⟩ : ∃ zz okk, sizeK ks (x : Int) = (zz, okk) := ⟨_, _, rfl⟩
   have hokk : (okk = true ↔ x < n) /\ (okk = true -> zz = zsK ks x) := by
    have hkn := HK.out.1
    unfold sizeK at hsk
    split at hsk
    ·injection hsk with h1 h2
     exact ⟨⟨fun _ => by omega, fun _ => h2.symm⟩, fun _ => by rw [<- h1, Int.toNat_natCast]; rfl⟩
    ·injection hsk with h1 h2
     exact ⟨⟨fun e => (by rw [<- h2] at e; cases e), fun e => (by omega)⟩, fun e => (by rw [<- h2] at e; cases e)⟩
   have hCS := RSize_any lg pg en gn A n cap ks wr.drew (hCr.rd.below bd) hn (x : Int)
   rw [hsk] at hCS
   have CS := hi_ hCS
   clear hsk hCS
   have SS : ∀ W, Below wr.heap.size wr W -> (W.cell? ⟨g, 0, none⟩ = some (.int .i64 lg) /\ W.cell? ⟨g, 1, none⟩ = some (.int .i64 pg) /\ W.cell? ⟨g, 2, none⟩ = some (.int .i64 en) /\ W.cell? ⟨g, 3, none⟩ = some (.int .i64 gn) /\ W.cell? ⟨g, 4, none⟩ = some (.slice A n cap)) /\ W.cell? ⟨lb, j, none⟩ = some (.int .i64 (x : Int)) := fun W hW =>
    ⟨⟨(hCr.next hW).c0, (hCr.next hW).c1, (hCr.next hW).c2, (hCr.next hW).c3, (hCr.next hW).c4⟩, (hW.cell (p := ⟨lb, j, none⟩) (by have := hF.size; show lb < _; omega)).trans lc⟩
   have SS := hi_ SS
   have s0 := SS.out wr (Below.refl _ _)
   have s0d := SS.out _ bd
   have HJ := hi_ hJ
   have HF := hi_ hF
   have hsn : newL n (zsK ks) (L.take (j + 1)) = newL n (zsK ks) (L.take j) ++ (if x < n then [((x : Int), (min (max (zsK ks x) 0) 64).toNat)] else []) := by
    rw [List.take_succ_eq_append_getElem hjn, newL_snoc, <- hx]
   have HSN := hi_ hsn
   have HLC := hi_ hlc
   have hln : (newL n (zsK ks) (L.take j)).length <= 64 := by
    have := newL_len n (zsK ks) (L.take j)
    rw [List.length_take] at this
    omega
   have hkn := HK.out.1
   clear hCr hJ hF hsn hlc hx c0 c1 c2 c3 c4 lc
   go_wp2_with fail
   go_region_held3 (fun W => (W.cell? ⟨g, 0, none⟩ = some (.int .i64 lg) /\ W.cell? ⟨g, 1, none⟩ = some (.int .i64 pg) /\ W.cell? ⟨g, 2, none⟩ = some (.int .i64 en) /\ W.cell? ⟨g, 3, none⟩ = some (.int .i64 gn) /\ W.cell? ⟨g, 4, none⟩ = some (.slice A n cap)) /\ W.cell? ⟨lb, j, none⟩ = some (.int .i64 (x : Int))) (first
     | with_reducible exact s0
     | with_reducible exact s0d
     | with_reducible exact s5) (first
    | (go_at_call 142; refine CS.out.mono ?_; rintro e w5 ⟨rfl, hB5⟩; have b5 := bd.trans (hB5.mono bd.size); have s5 := SS.out w5 b5; have HB5 := hi_ b5; clear hB5 b5))
   cases okk
   case false =>
    have hxn : ¬ x < n := fun e => by have := hokk.1.2 e; cases this
    go_wp2
    go_roundw
    case rel =>
     refine ⟨j + 1, cu, su, hjn, by go_num, ?_, HF.out.trans (Fr.ofBelow _ HB5.out)⟩
     rw [HSN.out, if_neg hxn, List.append_nil]
     exact HJ.out.below HB5.out
    case measure => simp [intOf]; omega
   case true =>
    have hxn : x < n := hokk.1.1 rfl
    have hzz := hokk.2 rfl
    obtain ⟨xs, hxs⟩ : ∃ xs, xs = (newL n (zsK ks) (L.take j)).map (·.1) := ⟨_, rfl⟩
    obtain ⟨ys, hys⟩ : ∃ ys, ys = (newL n (zsK ks) (L.take j)).map fun c => (c.2 : Int) := ⟨_, rfl⟩
    rw [<- hxs, <- hys] at HJ
    obtain ⟨kx, hkx⟩ : ∃ kx, kx = xs.length := ⟨_, rfl⟩
    obtain ⟨ky, hky⟩ : ∃ ky, ky = ys.length := ⟨_, rfl⟩
    have hkx1 : kx <= 64 := by rw [hkx, hxs, List.length_map]; exact hln
    have hky1 : ky <= 64 := by rw [hky, hys, List.length_map]; exact hln
    obtain ⟨cA, cc', e1, _, _⟩ := own_slv HJ.out.oc
    obtain ⟨sA', sc', e2, _, _⟩ := own_slv HJ.out.os
    rw [<- hkx] at e1
    rw [<- hky] at e2
    subst e1 e2
    have J5 := hi_ (HJ.out.below HB5.out)
    have J5d : Hid (NewJ w w5.drew w4.heap.size (g + 2) (.slice cA kx cc') (.slice sA' ky sc') xs ys) := hi_ (J5.out.below (Below.refl _ _).drew)
    have F5 := hi_ (HF.out.trans (Fr.ofBelow (fun y => y = g + 2 \/ w4.heap.size <= y) HB5.out))
    have LC0 : ∀ W, Fr (fun y => y = g + 2 \/ w4.heap.size <= y) w4 W -> W.cell? ⟨lb, j, none⟩ = some (.int .i64 (x : Int)) := fun W hW => (World.cell?_of_block (a := ⟨lb, j, none⟩) (hW.block lb hlb.2 (by omega))).trans HLC.out
    have LC := hi_ LC0
    have s5d := LC0 w5.drew (F5.out.trans (Fr.drew _ _))
    have HXS := hi_ hxs
    have HYS := hi_ hys
    have HKX := hi_ hkx
    have HKY := hi_ hky
    clear hxs hys hkx hky LC0 hln HJ hokk s0 s0d s5 SS CS
    by_cases hz0 : zz < 0
    ·have HZ : Hid ((0 : Int) = ((min (max (zsK ks x) 0) 64).toNat : Int)) := hi_ (by rw [<- hzz]; omega)
     clear hzz
     go_wp2_with fail
-- HOLE0
     refine wp_region_noPanic ?_
     refine wp_region_held_drew (S := fun W => W.cell? ⟨lb, j, none⟩ = some (.int .i64 (x : Int))) (by kernel_rfl) s5d (fun hHeld => ?_)
     refine tk_ 0 ⟨some 33, .fieldAddr 127 (.tmp 5) 0, 0, "ref.go:33", #[], none⟩ hHeld ?_
     simp only [Act.put, sA_, sB_, sC_]
     refine tk_ 2 ⟨some 35, .move (.tmp 6), 38, "ref.go:33", #[], none⟩ hHeld ?_
     simp only [Act.put, sA_, sB_, sC_]
     refine tk_ 3 ⟨some 36, .move (.tmp 7), 3, "ref.go:33", #[], none⟩ hHeld ?_
     simp only [Act.put, sA_, sB_, sC_]
     refine tk_ 4 ⟨some 37, .indexAddr 38 (.tmp 35) (.tmp 36), 0, "ref.go:33", #[⟨2, .data⟩, ⟨3, .data⟩], none⟩ hHeld ?_
     simp only [Act.put, sA_, sB_, sC_]
     refine tk_ 5 ⟨some 38, .load 3 (.tmp 37), 3, "ref.go:33", #[⟨4, .data⟩], none⟩ hHeld ?_
     simp only [Act.put, sA_, sB_, sC_]
     refine wpAnyH_ready (rs := [1, 6]) (by kernel_rfl) (by simp) ?_
     refine AllReadyH.cons (o := ⟨some 34, .load 38 (.tmp 33), 38, "ref.go:33", #[⟨0, .data⟩], none⟩) rfl (fun K' hK => ?_) (AllReadyH.cons (o := ⟨some 39, .buildSlice 38 1 #[(0, .tmp 38)], 38, "ref.go:33", #[⟨5, .data⟩], none⟩) rfl (fun K' hK => ?_) AllReadyH.nil)
     ·have q4 : w5.drew.cell? ⟨g + 2, 0, none⟩ = some (.slice cA kx cc') := J5d.out.blk.at_ 0
      go_simp
      clear q4
      refine hK.out _ _ s5d (fun hHeld => ?_)
      clear hK K'
      try simp only [Act.put, sA_, sB_, sC_]
      refine wpAnyH_ready (rs := [6]) (by kernel_rfl) (by simp) ?_
      refine AllReadyH.cons (o := ⟨some 39, .buildSlice 38 1 #[(0, .tmp 38)], 38, "ref.go:33", #[⟨5, .data⟩], none⟩) rfl (fun K' hK => ?_) AllReadyH.nil
      go_simp
      obtain ⟨xB, hxB⟩ : ∃ W, W = w5.drew.alloc (.cells #[.int .i64 (x : Int)] 3) := ⟨_, rfl⟩
      have bB : Below w5.heap.size w5 xB := by rw [hxB]; exact (Below.refl _ _).drew.alloc (Nat.le_refl _) _
      have hV : VRow (fun y => w5.heap.size <= y) xB (some ⟨w5.heap.size, 0, none⟩) 1 1 [.int .i64 (x : Int)] := by rw [hxB]; exact VRow.new w5.drew #[.int .i64 (x : Int)] _ 1 1 rfl
      have JB := hi_ (J5.out.below bB)
      have FB := hi_ (F5.out.trans (Fr.ofBelow (fun y => y = g + 2 \/ w4.heap.size <= y) bB))
      have sB := LC.out xB FB.out
      have HV := hi_ hV
      first | rw [<- hxB] | (rw [show (w5.alloc (.cells #[.int .i64 (x : Int)] 3)).drew = xB from hxB.symm])
      clear hxB bB hV
      refine hK.out _ _ sB (fun hHeld => ?_)
      clear hK K'
      try simp only [Act.put, sA_, sB_, sC_]
      refine wpAnyH_ready (rs := [7]) (by kernel_rfl) (by simp) ?_
      refine AllReadyH.cons (o := ⟨some 40, .call { callee := .builtin .append, args := #[.tmp 34, .tmp 39], argTypes := #[38, 38] }, 38, "ref.go:33", #[⟨1, .data⟩, ⟨6, .data⟩], none⟩) rfl (fun K' hK => ?_) AllReadyH.nil
      refine step_appX (K := fun y => w5.heap.size <= y) intT rfl (.tmp 34) (.tmp 39) rfl w4.heap.size (.slice cA kx cc') kx (ints xs) rfl (by have := JB.out.oc; rw [<- HKX.out] at this; exact this) (some ⟨w5.heap.size, 0, none⟩) 1 1 [.int .i64 (x : Int)] rfl HV.out (fun u hu => by rw [List.mem_singleton.1 hu]; rfl) (by omega) (by decide) JB.out.Bw ?_
      intro vA xA hoA hgA hvA
      obtain ⟨AA, cA2, rfl, _, _⟩ := own_slv hoA
      have hC := JB.out.comp (x := (x : Int)) (by rw [<- HKX.out]; exact hoA) hgA hvA
      have FA := hi_ (JB.out.fr FB.out hgA)
      have sA := LC.out xA FA.out
      have kA : xA.cell? ⟨g + 2, 0, none⟩ = some (.slice cA kx cc') := hC.1.at_ 0
      have fA := hC.1.fz 0
      have JA := hi_ hC.2
      clear hC hoA hgA hvA
      refine hK.out _ _ sA (fun hHeld => ?_)
      clear hK K'
      try simp only [Act.put, sA_, sB_, sC_]
      refine tk_ 8 ⟨some 41, .fieldAddr 127 (.tmp 5) 0, 0, "ref.go:33", #[⟨0, .phase⟩, ⟨1, .phase⟩, ⟨2, .phase⟩, ⟨3, .phase⟩, ⟨4, .phase⟩, ⟨5, .phase⟩, ⟨6, .phase⟩, ⟨7, .phase⟩], none⟩ hHeld ?_
      simp only [Act.put, sA_, sB_, sC_]
      refine wpAnyH_ready (rs := [9]) (by kernel_rfl) (by simp) ?_
      refine AllReadyH.cons (o := ⟨none, .store 38 (.tmp 41) (.tmp 40), 0, "ref.go:33", #[⟨8, .data⟩, ⟨7, .data⟩, ⟨7, .chain⟩, ⟨0, .phase⟩, ⟨1, .phase⟩, ⟨2, .phase⟩, ⟨3, .phase⟩, ⟨4, .phase⟩, ⟨5, .phase⟩, ⟨6, .phase⟩, ⟨7, .phase⟩], none⟩) rfl (fun K' hK => ?_) AllReadyH.nil
      have F9 := hi_ (FA.out.trans ((Fr.setCell (own := (· = g + 2)) xA (p := ⟨g + 2, 0, none⟩) rfl (.slice AA (kx + 1) cA2)).mono (fun y hy => .inl hy)))
      have sX := LC.out _ F9.out
      go_simp
      refine hK.out _ _ sX (fun hHeld => ?_)
      clear hK K'
      try simp only [Act.put]
      refine wpAnyH_done (by kernel_rfl) ?_ _
      refine NoPanic.normal ?_
      obtain ⟨x9, hx9⟩ : ∃ W, W = xA.setCell ⟨g + 2, 0, none⟩ (.slice AA (kx + 1) cA2) := ⟨_, rfl⟩
      rw [<- hx9] at JA F9 ⊢
      clear hx9 sX sA s5d
      have q1 : x9.cell? ⟨g + 2, 1, none⟩ = some (.slice sA' ky sc') := JA.out.blk.at_ 1
      obtain ⟨y0, hy0⟩ : ∃ W, W = x9.alloc (.cells #[.int .i64 0] 3) := ⟨_, rfl⟩
      have b0 : Below x9.heap.size x9 y0 := by rw [hy0]; exact (Below.refl _ _).alloc (Nat.le_refl _) _
      have hV0 : VRow (fun y => x9.heap.size <= y) y0 (some ⟨x9.heap.size, 0, none⟩) 1 1 [.int .i64 0] := by rw [hy0]; exact VRow.new x9 #[.int .i64 0] _ 1 1 rfl
      have J0 := hi_ (JA.out.below b0)
      have F0 := hi_ (F9.out.trans (Fr.ofBelow (fun y => y = g + 2 \/ w4.heap.size <= y) b0))
      have HV0 := hi_ hV0
      have HY0 := hi_ hy0
      clear b0 hV0 hy0 kA fA
      go_wp2_with (first
       | (rw [<- HY0.out])
       | (at_builtin; refine wpList_appX (K := fun y => x9.heap.size <= y) intT rfl (.tmp 43) (.tmp 45) rfl w4.heap.size (.slice sA' ky sc') ky (ints ys) rfl (by have := J0.out.os; rw [<- HKY.out] at this; exact this) (some ⟨x9.heap.size, 0, none⟩) 1 1 [.int .i64 0] rfl HV0.out (fun u hu => by rw [List.mem_singleton.1 hu]; rfl) (by omega) (by decide) J0.out.Bw ?_; intro vD xD hoD hgD hvD; obtain ⟨AD, cD, rfl, _, _⟩ := own_slv hoD; have hD := J0.out.size_ (x := 0) (by rw [<- HKY.out]; exact hoD) hgD hvD; have FD := hi_ (J0.out.fr2 F0.out hgD); have kD : xD.cell? ⟨g + 2, 1, none⟩ = some (.slice sA' ky sc') := hD.1.at_ 1; have fD := hD.1.fz 1; have JD := hi_ hD.2; clear hD hoD hgD hvD))
      go_roundw
      case rel =>
       refine ⟨j + 1, .slice AA (kx + 1) cA2, .slice AD (ky + 1) cD, hjn, by go_num, ?_, FD.out.trans ((Fr.setCell (own := (· = g + 2)) xD (p := ⟨g + 2, 1, none⟩) rfl (.slice AD (ky + 1) cD)).mono (fun y hy => .inl hy))⟩
       have e1 : (newL n (zsK ks) (L.take (j + 1))).map (·.1) = xs ++ [(x : Int)] := by rw [HSN.out, if_pos hxn, List.map_append, <- HXS.out]; rfl
       have e2 : ((newL n (zsK ks) (L.take (j + 1))).map fun c => (c.2 : Int)) = ys ++ [0] := by rw [HSN.out, if_pos hxn, List.map_append, <- HYS.out]; exact congrArg (fun v => ys ++ [v]) HZ.out.symm
       rw [e1, e2]
       exact JD.out
      case measure => simp [intOf]; omega
     ·go_simp
      obtain ⟨xB, hxB⟩ : ∃ W, W = w5.drew.alloc (.cells #[.int .i64 (x : Int)] 3) := ⟨_, rfl⟩
      have bB : Below w5.heap.size w5 xB := by rw [hxB]; exact (Below.refl _ _).drew.alloc (Nat.le_refl _) _
      have hV : VRow (fun y => w5.heap.size <= y) xB (some ⟨w5.heap.size, 0, none⟩) 1 1 [.int .i64 (x : Int)] := by rw [hxB]; exact VRow.new w5.drew #[.int .i64 (x : Int)] _ 1 1 rfl
      have JB := hi_ (J5.out.below bB)
      have FB := hi_ (F5.out.trans (Fr.ofBelow (fun y => y = g + 2 \/ w4.heap.size <= y) bB))
      have sB := LC.out xB FB.out
      have HV := hi_ hV
      first | rw [<- hxB] | (rw [show (w5.alloc (.cells #[.int .i64 (x : Int)] 3)).drew = xB from hxB.symm])
      clear hxB bB hV
      refine hK.out _ _ sB (fun hHeld => ?_)
      clear hK K'
      try simp only [Act.put, sA_, sB_, sC_]
      refine wpAnyH_ready (rs := [1]) (by kernel_rfl) (by simp) ?_
      refine AllReadyH.cons (o := ⟨some 34, .load 38 (.tmp 33), 38, "ref.go:33", #[⟨0, .data⟩], none⟩) rfl (fun K' hK => ?_) AllReadyH.nil
      have q4 : xB.cell? ⟨g + 2, 0, none⟩ = some (.slice cA kx cc') := JB.out.blk.at_ 0
      go_simp
      clear q4
      refine hK.out _ _ sB (fun hHeld => ?_)
      clear hK K'
      try simp only [Act.put, sA_, sB_, sC_]
      refine wpAnyH_ready (rs := [7]) (by kernel_rfl) (by simp) ?_
      refine AllReadyH.cons (o := ⟨some 40, .call { callee := .builtin .append, args := #[.tmp 34, .tmp 39], argTypes := #[38, 38] }, 38, "ref.go:33", #[⟨1, .data⟩, ⟨6, .data⟩], none⟩) rfl (fun K' hK => ?_) AllReadyH.nil
      refine step_appX (K := fun y => w5.heap.size <= y) intT rfl (.tmp 34) (.tmp 39) rfl w4.heap.size (.slice cA kx cc') kx (ints xs) rfl (by have := JB.out.oc; rw [<- HKX.out] at this; exact this) (some ⟨w5.heap.size, 0, none⟩) 1 1 [.int .i64 (x : Int)] rfl HV.out (fun u hu => by rw [List.mem_singleton.1 hu]; rfl) (by omega) (by decide) JB.out.Bw ?_
      intro vA xA hoA hgA hvA
      obtain ⟨AA, cA2, rfl, _, _⟩ := own_slv hoA
      have hC := JB.out.comp (x := (x : Int)) (by rw [<- HKX.out]; exact hoA) hgA hvA
      have FA := hi_ (JB.out.fr FB.out hgA)
      have sA := LC.out xA FA.out
      have kA : xA.cell? ⟨g + 2, 0, none⟩ = some (.slice cA kx cc') := hC.1.at_ 0
      have fA := hC.1.fz 0
      have JA := hi_ hC.2
      clear hC hoA hgA hvA
      refine hK.out _ _ sA (fun hHeld => ?_)
      clear hK K'
      try simp only [Act.put, sA_, sB_, sC_]
      refine tk_ 8 ⟨some 41, .fieldAddr 127 (.tmp 5) 0, 0, "ref.go:33", #[⟨0, .phase⟩, ⟨1, .phase⟩, ⟨2, .phase⟩, ⟨3, .phase⟩, ⟨4, .phase⟩, ⟨5, .phase⟩, ⟨6, .phase⟩, ⟨7, .phase⟩], none⟩ hHeld ?_
      simp only [Act.put, sA_, sB_, sC_]
      refine wpAnyH_ready (rs := [9]) (by kernel_rfl) (by simp) ?_
      refine AllReadyH.cons (o := ⟨none, .store 38 (.tmp 41) (.tmp 40), 0, "ref.go:33", #[⟨8, .data⟩, ⟨7, .data⟩, ⟨7, .chain⟩, ⟨0, .phase⟩, ⟨1, .phase⟩, ⟨2, .phase⟩, ⟨3, .phase⟩, ⟨4, .phase⟩, ⟨5, .phase⟩, ⟨6, .phase⟩, ⟨7, .phase⟩], none⟩) rfl (fun K' hK => ?_) AllReadyH.nil
      have F9 := hi_ (FA.out.trans ((Fr.setCell (own := (· = g + 2)) xA (p := ⟨g + 2, 0, none⟩) rfl (.slice AA (kx + 1) cA2)).mono (fun y hy => .inl hy)))
      have sX := LC.out _ F9.out
      go_simp
      refine hK.out _ _ sX (fun hHeld => ?_)
      clear hK K'
      try simp only [Act.put]
      refine wpAnyH_done (by kernel_rfl) ?_ _
      refine NoPanic.normal ?_
      obtain ⟨x9, hx9⟩ : ∃ W, W = xA.setCell ⟨g + 2, 0, none⟩ (.slice AA (kx + 1) cA2) := ⟨_, rfl⟩
      rw [<- hx9] at JA F9 ⊢
      clear hx9 sX sA s5d
      have q1 : x9.cell? ⟨g + 2, 1, none⟩ = some (.slice sA' ky sc') := JA.out.blk.at_ 1
      obtain ⟨y0, hy0⟩ : ∃ W, W = x9.alloc (.cells #[.int .i64 0] 3) := ⟨_, rfl⟩
      have b0 : Below x9.heap.size x9 y0 := by rw [hy0]; exact (Below.refl _ _).alloc (Nat.le_refl _) _
      have hV0 : VRow (fun y => x9.heap.size <= y) y0 (some ⟨x9.heap.size, 0, none⟩) 1 1 [.int .i64 0] := by rw [hy0]; exact VRow.new x9 #[.int .i64 0] _ 1 1 rfl
      have J0 := hi_ (JA.out.below b0)
      have F0 := hi_ (F9.out.trans (Fr.ofBelow (fun y => y = g + 2 \/ w4.heap.size <= y) b0))
      have HV0 := hi_ hV0
      have HY0 := hi_ hy0
      clear b0 hV0 hy0 kA fA
      go_wp2_with (first
       | (rw [<- HY0.out])
       | (at_builtin; refine wpList_appX (K := fun y => x9.heap.size <= y) intT rfl (.tmp 43) (.tmp 45) rfl w4.heap.size (.slice sA' ky sc') ky (ints ys) rfl (by have := J0.out.os; rw [<- HKY.out] at this; exact this) (some ⟨x9.heap.size, 0, none⟩) 1 1 [.int .i64 0] rfl HV0.out (fun u hu => by rw [List.mem_singleton.1 hu]; rfl) (by omega) (by decide) J0.out.Bw ?_; intro vD xD hoD hgD hvD; obtain ⟨AD, cD, rfl, _, _⟩ := own_slv hoD; have hD := J0.out.size_ (x := 0) (by rw [<- HKY.out]; exact hoD) hgD hvD; have FD := hi_ (J0.out.fr2 F0.out hgD); have kD : xD.cell? ⟨g + 2, 1, none⟩ = some (.slice sA' ky sc') := hD.1.at_ 1; have fD := hD.1.fz 1; have JD := hi_ hD.2; clear hD hoD hgD hvD))
      go_roundw
      case rel =>
       refine ⟨j + 1, .slice AA (kx + 1) cA2, .slice AD (ky + 1) cD, hjn, by go_num, ?_, FD.out.trans ((Fr.setCell (own := (· = g + 2)) xD (p := ⟨g + 2, 1, none⟩) rfl (.slice AD (ky + 1) cD)).mono (fun y hy => .inl hy))⟩
       have e1 : (newL n (zsK ks) (L.take (j + 1))).map (·.1) = xs ++ [(x : Int)] := by rw [HSN.out, if_pos hxn, List.map_append, <- HXS.out]; rfl
       have e2 : ((newL n (zsK ks) (L.take (j + 1))).map fun c => (c.2 : Int)) = ys ++ [0] := by rw [HSN.out, if_pos hxn, List.map_append, <- HYS.out]; exact congrArg (fun v => ys ++ [v]) HZ.out.symm
       rw [e1, e2]
       exact JD.out
      case measure => simp [intOf]; omega
-- ENDHOLE0
    ·by_cases hz1 : 64 < zz
     ·have HZ : Hid ((64 : Int) = ((min (max (zsK ks x) 0) 64).toNat : Int)) := hi_ (by rw [<- hzz]; omega)
      clear hzz
      go_wp2_with fail
-- HOLE1
      refine wp_region_noPanic ?_
      refine wp_region_held_drew (S := fun W => W.cell? ⟨lb, j, none⟩ = some (.int .i64 (x : Int))) (by kernel_rfl) s5d (fun hHeld => ?_)
      refine tk_ 0 ⟨some 33, .fieldAddr 127 (.tmp 5) 0, 0, "ref.go:33", #[], none⟩ hHeld ?_
      simp only [Act.put, sA_, sB_, sC_]
      refine tk_ 2 ⟨some 35, .move (.tmp 6), 38, "ref.go:33", #[], none⟩ hHeld ?_
      simp only [Act.put, sA_, sB_, sC_]
      refine tk_ 3 ⟨some 36, .move (.tmp 7), 3, "ref.go:33", #[], none⟩ hHeld ?_
      simp only [Act.put, sA_, sB_, sC_]
      refine tk_ 4 ⟨some 37, .indexAddr 38 (.tmp 35) (.tmp 36), 0, "ref.go:33", #[⟨2, .data⟩, ⟨3, .data⟩], none⟩ hHeld ?_
      simp only [Act.put, sA_, sB_, sC_]
      refine tk_ 5 ⟨some 38, .load 3 (.tmp 37), 3, "ref.go:33", #[⟨4, .data⟩], none⟩ hHeld ?_
      simp only [Act.put, sA_, sB_, sC_]
      refine wpAnyH_ready (rs := [1, 6]) (by kernel_rfl) (by simp) ?_
      refine AllReadyH.cons (o := ⟨some 34, .load 38 (.tmp 33), 38, "ref.go:33", #[⟨0, .data⟩], none⟩) rfl (fun K' hK => ?_) (AllReadyH.cons (o := ⟨some 39, .buildSlice 38 1 #[(0, .tmp 38)], 38, "ref.go:33", #[⟨5, .data⟩], none⟩) rfl (fun K' hK => ?_) AllReadyH.nil)
      ·have q4 : w5.drew.cell? ⟨g + 2, 0, none⟩ = some (.slice cA kx cc') := J5d.out.blk.at_ 0
       go_simp
       clear q4
       refine hK.out _ _ s5d (fun hHeld => ?_)
       clear hK K'
       try simp only [Act.put, sA_, sB_, sC_]
       refine wpAnyH_ready (rs := [6]) (by kernel_rfl) (by simp) ?_
       refine AllReadyH.cons (o := ⟨some 39, .buildSlice 38 1 #[(0, .tmp 38)], 38, "ref.go:33", #[⟨5, .data⟩], none⟩) rfl (fun K' hK => ?_) AllReadyH.nil
       go_simp
       obtain ⟨xB, hxB⟩ : ∃ W, W = w5.drew.alloc (.cells #[.int .i64 (x : Int)] 3) := ⟨_, rfl⟩
       have bB : Below w5.heap.size w5 xB := by rw [hxB]; exact (Below.refl _ _).drew.alloc (Nat.le_refl _) _
       have hV : VRow (fun y => w5.heap.size <= y) xB (some ⟨w5.heap.size, 0, none⟩) 1 1 [.int .i64 (x : Int)] := by rw [hxB]; exact VRow.new w5.drew #[.int .i64 (x : Int)] _ 1 1 rfl
       have JB := hi_ (J5.out.below bB)
       have FB := hi_ (F5.out.trans (Fr.ofBelow (fun y => y = g + 2 \/ w4.heap.size <= y) bB))
       have sB := LC.out xB FB.out
       have HV := hi_ hV
       first | rw [<- hxB] | (rw [show (w5.alloc (.cells #[.int .i64 (x : Int)] 3)).drew = xB from hxB.symm])
       clear hxB bB hV
       refine hK.out _ _ sB (fun hHeld => ?_)
       clear hK K'
       try simp only [Act.put, sA_, sB_, sC_]
       refine wpAnyH_ready (rs := [7]) (by kernel_rfl) (by simp) ?_
       refine AllReadyH.cons (o := ⟨some 40, .call { callee := .builtin .append, args := #[.tmp 34, .tmp 39], argTypes := #[38, 38] }, 38, "ref.go:33", #[⟨1, .data⟩, ⟨6, .data⟩], none⟩) rfl (fun K' hK => ?_) AllReadyH.nil
       refine step_appX (K := fun y => w5.heap.size <= y) intT rfl (.tmp 34) (.tmp 39) rfl w4.heap.size (.slice cA kx cc') kx (ints xs) rfl (by have := JB.out.oc; rw [<- HKX.out] at this; exact this) (some ⟨w5.heap.size, 0, none⟩) 1 1 [.int .i64 (x : Int)] rfl HV.out (fun u hu => by rw [List.mem_singleton.1 hu]; rfl) (by omega) (by decide) JB.out.Bw ?_
       intro vA xA hoA hgA hvA
       obtain ⟨AA, cA2, rfl, _, _⟩ := own_slv hoA
       have hC := JB.out.comp (x := (x : Int)) (by rw [<- HKX.out]; exact hoA) hgA hvA
       have FA := hi_ (JB.out.fr FB.out hgA)
       have sA := LC.out xA FA.out
       have kA : xA.cell? ⟨g + 2, 0, none⟩ = some (.slice cA kx cc') := hC.1.at_ 0
       have fA := hC.1.fz 0
       have JA := hi_ hC.2
       clear hC hoA hgA hvA
       refine hK.out _ _ sA (fun hHeld => ?_)
       clear hK K'
       try simp only [Act.put, sA_, sB_, sC_]
       refine tk_ 8 ⟨some 41, .fieldAddr 127 (.tmp 5) 0, 0, "ref.go:33", #[⟨0, .phase⟩, ⟨1, .phase⟩, ⟨2, .phase⟩, ⟨3, .phase⟩, ⟨4, .phase⟩, ⟨5, .phase⟩, ⟨6, .phase⟩, ⟨7, .phase⟩], none⟩ hHeld ?_
       simp only [Act.put, sA_, sB_, sC_]
       refine wpAnyH_ready (rs := [9]) (by kernel_rfl) (by simp) ?_
       refine AllReadyH.cons (o := ⟨none, .store 38 (.tmp 41) (.tmp 40), 0, "ref.go:33", #[⟨8, .data⟩, ⟨7, .data⟩, ⟨7, .chain⟩, ⟨0, .phase⟩, ⟨1, .phase⟩, ⟨2, .phase⟩, ⟨3, .phase⟩, ⟨4, .phase⟩, ⟨5, .phase⟩, ⟨6, .phase⟩, ⟨7, .phase⟩], none⟩) rfl (fun K' hK => ?_) AllReadyH.nil
       have F9 := hi_ (FA.out.trans ((Fr.setCell (own := (· = g + 2)) xA (p := ⟨g + 2, 0, none⟩) rfl (.slice AA (kx + 1) cA2)).mono (fun y hy => .inl hy)))
       have sX := LC.out _ F9.out
       go_simp
       refine hK.out _ _ sX (fun hHeld => ?_)
       clear hK K'
       try simp only [Act.put]
       refine wpAnyH_done (by kernel_rfl) ?_ _
       refine NoPanic.normal ?_
       obtain ⟨x9, hx9⟩ : ∃ W, W = xA.setCell ⟨g + 2, 0, none⟩ (.slice AA (kx + 1) cA2) := ⟨_, rfl⟩
       rw [<- hx9] at JA F9 ⊢
       clear hx9 sX sA s5d
       have q1 : x9.cell? ⟨g + 2, 1, none⟩ = some (.slice sA' ky sc') := JA.out.blk.at_ 1
       obtain ⟨y0, hy0⟩ : ∃ W, W = x9.alloc (.cells #[.int .i64 64] 3) := ⟨_, rfl⟩
       have b0 : Below x9.heap.size x9 y0 := by rw [hy0]; exact (Below.refl _ _).alloc (Nat.le_refl _) _
       have hV0 : VRow (fun y => x9.heap.size <= y) y0 (some ⟨x9.heap.size, 0, none⟩) 1 1 [.int .i64 64] := by rw [hy0]; exact VRow.new x9 #[.int .i64 64] _ 1 1 rfl
       have J0 := hi_ (JA.out.below b0)
       have F0 := hi_ (F9.out.trans (Fr.ofBelow (fun y => y = g + 2 \/ w4.heap.size <= y) b0))
       have HV0 := hi_ hV0
       have HY0 := hi_ hy0
       clear b0 hV0 hy0 kA fA
       go_wp2_with (first
        | (rw [<- HY0.out])
        | (at_builtin; refine wpList_appX (K := fun y => x9.heap.size <= y) intT rfl (.tmp 43) (.tmp 45) rfl w4.heap.size (.slice sA' ky sc') ky (ints ys) rfl (by have := J0.out.os; rw [<- HKY.out] at this; exact this) (some ⟨x9.heap.size, 0, none⟩) 1 1 [.int .i64 64] rfl HV0.out (fun u hu => by rw [List.mem_singleton.1 hu]; rfl) (by omega) (by decide) J0.out.Bw ?_; intro vD xD hoD hgD hvD; obtain ⟨AD, cD, rfl, _, _⟩ := own_slv hoD; have hD := J0.out.size_ (x := 64) (by rw [<- HKY.out]; exact hoD) hgD hvD; have FD := hi_ (J0.out.fr2 F0.out hgD); have kD : xD.cell? ⟨g + 2, 1, none⟩ = some (.slice sA' ky sc') := hD.1.at_ 1; have fD := hD.1.fz 1; have JD := hi_ hD.2; clear hD hoD hgD hvD))
       go_roundw
       case rel =>
        refine ⟨j + 1, .slice AA (kx + 1) cA2, .slice AD (ky + 1) cD, hjn, by go_num, ?_, FD.out.trans ((Fr.setCell (own := (· = g + 2)) xD (p := ⟨g + 2, 1, none⟩) rfl (.slice AD (ky + 1) cD)).mono (fun y hy => .inl hy))⟩
        have e1 : (newL n (zsK ks) (L.take (j + 1))).map (·.1) = xs ++ [(x : Int)] := by rw [HSN.out, if_pos hxn, List.map_append, <- HXS.out]; rfl
        have e2 : ((newL n (zsK ks) (L.take (j + 1))).map fun c => (c.2 : Int)) = ys ++ [64] := by rw [HSN.out, if_pos hxn, List.map_append, <- HYS.out]; exact congrArg (fun v => ys ++ [v]) HZ.out.symm
        rw [e1, e2]
        exact JD.out
       case measure => simp [intOf]; omega
      ·go_simp
       obtain ⟨xB, hxB⟩ : ∃ W, W = w5.drew.alloc (.cells #[.int .i64 (x : Int)] 3) := ⟨_, rfl⟩
       have bB : Below w5.heap.size w5 xB := by rw [hxB]; exact (Below.refl _ _).drew.alloc (Nat.le_refl _) _
       have hV : VRow (fun y => w5.heap.size <= y) xB (some ⟨w5.heap.size, 0, none⟩) 1 1 [.int .i64 (x : Int)] := by rw [hxB]; exact VRow.new w5.drew #[.int .i64 (x : Int)] _ 1 1 rfl
       have JB := hi_ (J5.out.below bB)
       have FB := hi_ (F5.out.trans (Fr.ofBelow (fun y => y = g + 2 \/ w4.heap.size <= y) bB))
       have sB := LC.out xB FB.out
       have HV := hi_ hV
       first | rw [<- hxB] | (rw [show (w5.alloc (.cells #[.int .i64 (x : Int)] 3)).drew = xB from hxB.symm])
       clear hxB bB hV
       refine hK.out _ _ sB (fun hHeld => ?_)
       clear hK K'
       try simp only [Act.put, sA_, sB_, sC_]
       refine wpAnyH_ready (rs := [1]) (by kernel_rfl) (by simp) ?_
       refine AllReadyH.cons (o := ⟨some 34, .load 38 (.tmp 33), 38, "ref.go:33", #[⟨0, .data⟩], none⟩) rfl (fun K' hK => ?_) AllReadyH.nil
       have q4 : xB.cell? ⟨g + 2, 0, none⟩ = some (.slice cA kx cc') := JB.out.blk.at_ 0
       go_simp
       clear q4
       refine hK.out _ _ sB (fun hHeld => ?_)
       clear hK K'
       try simp only [Act.put, sA_, sB_, sC_]
       refine wpAnyH_ready (rs := [7]) (by kernel_rfl) (by simp) ?_
       refine AllReadyH.cons (o := ⟨some 40, .call { callee := .builtin .append, args := #[.tmp 34, .tmp 39], argTypes := #[38, 38] }, 38, "ref.go:33", #[⟨1, .data⟩, ⟨6, .data⟩], none⟩) rfl (fun K' hK => ?_) AllReadyH.nil
       refine step_appX (K := fun y => w5.heap.size <= y) intT rfl (.tmp 34) (.tmp 39) rfl w4.heap.size (.slice cA kx cc') kx (ints xs) rfl (by have := JB.out.oc; rw [<- HKX.out] at this; exact this) (some ⟨w5.heap.size, 0, none⟩) 1 1 [.int .i64 (x : Int)] rfl HV.out (fun u hu => by rw [List.mem_singleton.1 hu]; rfl) (by omega) (by decide) JB.out.Bw ?_
       intro vA xA hoA hgA hvA
       obtain ⟨AA, cA2, rfl, _, _⟩ := own_slv hoA
       have hC := JB.out.comp (x := (x : Int)) (by rw [<- HKX.out]; exact hoA) hgA hvA
       have FA := hi_ (JB.out.fr FB.out hgA)
       have sA := LC.out xA FA.out
       have kA : xA.cell? ⟨g + 2, 0, none⟩ = some (.slice cA kx cc') := hC.1.at_ 0
       have fA := hC.1.fz 0
       have JA := hi_ hC.2
       clear hC hoA hgA hvA
       refine hK.out _ _ sA (fun hHeld => ?_)
       clear hK K'
       try simp only [Act.put, sA_, sB_, sC_]
       refine tk_ 8 ⟨some 41, .fieldAddr 127 (.tmp 5) 0, 0, "ref.go:33", #[⟨0, .phase⟩, ⟨1, .phase⟩, ⟨2, .phase⟩, ⟨3, .phase⟩, ⟨4, .phase⟩, ⟨5, .phase⟩, ⟨6, .phase⟩, ⟨7, .phase⟩], none⟩ hHeld ?_
       simp only [Act.put, sA_, sB_, sC_]
       refine wpAnyH_ready (rs := [9]) (by kernel_rfl) (by simp) ?_
       refine AllReadyH.cons (o := ⟨none, .store 38 (.tmp 41) (.tmp 40), 0, "ref.go:33", #[⟨8, .data⟩, ⟨7, .data⟩, ⟨7, .chain⟩, ⟨0, .phase⟩, ⟨1, .phase⟩, ⟨2, .phase⟩, ⟨3, .phase⟩, ⟨4, .phase⟩, ⟨5, .phase⟩, ⟨6, .phase⟩, ⟨7, .phase⟩], none⟩) rfl (fun K' hK => ?_) AllReadyH.nil
       have F9 := hi_ (FA.out.trans ((Fr.setCell (own := (· = g + 2)) xA (p := ⟨g + 2, 0, none⟩) rfl (.slice AA (kx + 1) cA2)).mono (fun y hy => .inl hy)))
       have sX := LC.out _ F9.out
       go_simp
       refine hK.out _ _ sX (fun hHeld => ?_)
       clear hK K'
       try simp only [Act.put]
       refine wpAnyH_done (by kernel_rfl) ?_ _
       refine NoPanic.normal ?_
       obtain ⟨x9, hx9⟩ : ∃ W, W = xA.setCell ⟨g + 2, 0, none⟩ (.slice AA (kx + 1) cA2) := ⟨_, rfl⟩
       rw [<- hx9] at JA F9 ⊢
       clear hx9 sX sA s5d
       have q1 : x9.cell? ⟨g + 2, 1, none⟩ = some (.slice sA' ky sc') := JA.out.blk.at_ 1
       obtain ⟨y0, hy0⟩ : ∃ W, W = x9.alloc (.cells #[.int .i64 64] 3) := ⟨_, rfl⟩
       have b0 : Below x9.heap.size x9 y0 := by rw [hy0]; exact (Below.refl _ _).alloc (Nat.le_refl _) _
       have hV0 : VRow (fun y => x9.heap.size <= y) y0 (some ⟨x9.heap.size, 0, none⟩) 1 1 [.int .i64 64] := by rw [hy0]; exact VRow.new x9 #[.int .i64 64] _ 1 1 rfl
       have J0 := hi_ (JA.out.below b0)
       have F0 := hi_ (F9.out.trans (Fr.ofBelow (fun y => y = g + 2 \/ w4.heap.size <= y) b0))
       have HV0 := hi_ hV0
       have HY0 := hi_ hy0
       clear b0 hV0 hy0 kA fA
       go_wp2_with (first
        | (rw [<- HY0.out])
        | (at_builtin; refine wpList_appX (K := fun y => x9.heap.size <= y) intT rfl (.tmp 43) (.tmp 45) rfl w4.heap.size (.slice sA' ky sc') ky (ints ys) rfl (by have := J0.out.os; rw [<- HKY.out] at this; exact this) (some ⟨x9.heap.size, 0, none⟩) 1 1 [.int .i64 64] rfl HV0.out (fun u hu => by rw [List.mem_singleton.1 hu]; rfl) (by omega) (by decide) J0.out.Bw ?_; intro vD xD hoD hgD hvD; obtain ⟨AD, cD, rfl, _, _⟩ := own_slv hoD; have hD := J0.out.size_ (x := 64) (by rw [<- HKY.out]; exact hoD) hgD hvD; have FD := hi_ (J0.out.fr2 F0.out hgD); have kD : xD.cell? ⟨g + 2, 1, none⟩ = some (.slice sA' ky sc') := hD.1.at_ 1; have fD := hD.1.fz 1; have JD := hi_ hD.2; clear hD hoD hgD hvD))
       go_roundw
       case rel =>
        refine ⟨j + 1, .slice AA (kx + 1) cA2, .slice AD (ky + 1) cD, hjn, by go_num, ?_, FD.out.trans ((Fr.setCell (own := (· = g + 2)) xD (p := ⟨g + 2, 1, none⟩) rfl (.slice AD (ky + 1) cD)).mono (fun y hy => .inl hy))⟩
        have e1 : (newL n (zsK ks) (L.take (j + 1))).map (·.1) = xs ++ [(x : Int)] := by rw [HSN.out, if_pos hxn, List.map_append, <- HXS.out]; rfl
        have e2 : ((newL n (zsK ks) (L.take (j + 1))).map fun c => (c.2 : Int)) = ys ++ [64] := by rw [HSN.out, if_pos hxn, List.map_append, <- HYS.out]; exact congrArg (fun v => ys ++ [v]) HZ.out.symm
        rw [e1, e2]
        exact JD.out
       case measure => simp [intOf]; omega
-- ENDHOLE1
     ·have HZ : Hid (zz = ((min (max (zsK ks x) 0) 64).toNat : Int)) := hi_ (by rw [<- hzz]; omega)
      clear hzz
      go_wp2_with fail
-- HOLE2
      refine wp_region_noPanic ?_
      refine wp_region_held_drew (S := fun W => W.cell? ⟨lb, j, none⟩ = some (.int .i64 (x : Int))) (by kernel_rfl) s5d (fun hHeld => ?_)
      refine tk_ 0 ⟨some 33, .fieldAddr 127 (.tmp 5) 0, 0, "ref.go:33", #[], none⟩ hHeld ?_
      simp only [Act.put, sA_, sB_, sC_]
      refine tk_ 2 ⟨some 35, .move (.tmp 6), 38, "ref.go:33", #[], none⟩ hHeld ?_
      simp only [Act.put, sA_, sB_, sC_]
      refine tk_ 3 ⟨some 36, .move (.tmp 7), 3, "ref.go:33", #[], none⟩ hHeld ?_
      simp only [Act.put, sA_, sB_, sC_]
      refine tk_ 4 ⟨some 37, .indexAddr 38 (.tmp 35) (.tmp 36), 0, "ref.go:33", #[⟨2, .data⟩, ⟨3, .data⟩], none⟩ hHeld ?_
      simp only [Act.put, sA_, sB_, sC_]
      refine tk_ 5 ⟨some 38, .load 3 (.tmp 37), 3, "ref.go:33", #[⟨4, .data⟩], none⟩ hHeld ?_
      simp only [Act.put, sA_, sB_, sC_]
      refine wpAnyH_ready (rs := [1, 6]) (by kernel_rfl) (by simp) ?_
      refine AllReadyH.cons (o := ⟨some 34, .load 38 (.tmp 33), 38, "ref.go:33", #[⟨0, .data⟩], none⟩) rfl (fun K' hK => ?_) (AllReadyH.cons (o := ⟨some 39, .buildSlice 38 1 #[(0, .tmp 38)], 38, "ref.go:33", #[⟨5, .data⟩], none⟩) rfl (fun K' hK => ?_) AllReadyH.nil)
      ·have q4 : w5.drew.cell? ⟨g + 2, 0, none⟩ = some (.slice cA kx cc') := J5d.out.blk.at_ 0
       go_simp
       clear q4
       refine hK.out _ _ s5d (fun hHeld => ?_)
       clear hK K'
       try simp only [Act.put, sA_, sB_, sC_]
       refine wpAnyH_ready (rs := [6]) (by kernel_rfl) (by simp) ?_
       refine AllReadyH.cons (o := ⟨some 39, .buildSlice 38 1 #[(0, .tmp 38)], 38, "ref.go:33", #[⟨5, .data⟩], none⟩) rfl (fun K' hK => ?_) AllReadyH.nil
       go_simp
       obtain ⟨xB, hxB⟩ : ∃ W, W = w5.drew.alloc (.cells #[.int .i64 (x : Int)] 3) := ⟨_, rfl⟩
       have bB : Below w5.heap.size w5 xB := by rw [hxB]; exact (Below.refl _ _).drew.alloc (Nat.le_refl _) _
       have hV : VRow (fun y => w5.heap.size <= y) xB (some ⟨w5.heap.size, 0, none⟩) 1 1 [.int .i64 (x : Int)] := by rw [hxB]; exact VRow.new w5.drew #[.int .i64 (x : Int)] _ 1 1 rfl
       have JB := hi_ (J5.out.below bB)
       have FB := hi_ (F5.out.trans (Fr.ofBelow (fun y => y = g + 2 \/ w4.heap.size <= y) bB))
       have sB := LC.out xB FB.out
       have HV := hi_ hV
       first | rw [<- hxB] | (rw [show (w5.alloc (.cells #[.int .i64 (x : Int)] 3)).drew = xB from hxB.symm])
       clear hxB bB hV
       refine hK.out _ _ sB (fun hHeld => ?_)
       clear hK K'
       try simp only [Act.put, sA_, sB_, sC_]
       refine wpAnyH_ready (rs := [7]) (by kernel_rfl) (by simp) ?_
       refine AllReadyH.cons (o := ⟨some 40, .call { callee := .builtin .append, args := #[.tmp 34, .tmp 39], argTypes := #[38, 38] }, 38, "ref.go:33", #[⟨1, .data⟩, ⟨6, .data⟩], none⟩) rfl (fun K' hK => ?_) AllReadyH.nil
       refine step_appX (K := fun y => w5.heap.size <= y) intT rfl (.tmp 34) (.tmp 39) rfl w4.heap.size (.slice cA kx cc') kx (ints xs) rfl (by have := JB.out.oc; rw [<- HKX.out] at this; exact this) (some ⟨w5.heap.size, 0, none⟩) 1 1 [.int .i64 (x : Int)] rfl HV.out (fun u hu => by rw [List.mem_singleton.1 hu]; rfl) (by omega) (by decide) JB.out.Bw ?_
       intro vA xA hoA hgA hvA
       obtain ⟨AA, cA2, rfl, _, _⟩ := own_slv hoA
       have hC := JB.out.comp (x := (x : Int)) (by rw [<- HKX.out]; exact hoA) hgA hvA
       have FA := hi_ (JB.out.fr FB.out hgA)
       have sA := LC.out xA FA.out
       have kA : xA.cell? ⟨g + 2, 0, none⟩ = some (.slice cA kx cc') := hC.1.at_ 0
       have fA := hC.1.fz 0
       have JA := hi_ hC.2
       clear hC hoA hgA hvA
       refine hK.out _ _ sA (fun hHeld => ?_)
       clear hK K'
       try simp only [Act.put, sA_, sB_, sC_]
       refine tk_ 8 ⟨some 41, .fieldAddr 127 (.tmp 5) 0, 0, "ref.go:33", #[⟨0, .phase⟩, ⟨1, .phase⟩, ⟨2, .phase⟩, ⟨3, .phase⟩, ⟨4, .phase⟩, ⟨5, .phase⟩, ⟨6, .phase⟩, ⟨7, .phase⟩], none⟩ hHeld ?_
       simp only [Act.put, sA_, sB_, sC_]
       refine wpAnyH_ready (rs := [9]) (by kernel_rfl) (by simp) ?_
       refine AllReadyH.cons (o := ⟨none, .store 38 (.tmp 41) (.tmp 40), 0, "ref.go:33", #[⟨8, .data⟩, ⟨7, .data⟩, ⟨7, .chain⟩, ⟨0, .phase⟩, ⟨1, .phase⟩, ⟨2, .phase⟩, ⟨3, .phase⟩, ⟨4, .phase⟩, ⟨5, .phase⟩, ⟨6, .phase⟩, ⟨7, .phase⟩], none⟩) rfl (fun K' hK => ?_) AllReadyH.nil
       have F9 := hi_ (FA.out.trans ((Fr.setCell (own := (· = g + 2)) xA (p := ⟨g + 2, 0, none⟩) rfl (.slice AA (kx + 1) cA2)).mono (fun y hy => .inl hy)))
       have sX := LC.out _ F9.out
       go_simp
       refine hK.out _ _ sX (fun hHeld => ?_)
       clear hK K'
       try simp only [Act.put]
       refine wpAnyH_done (by kernel_rfl) ?_ _
       refine NoPanic.normal ?_
       obtain ⟨x9, hx9⟩ : ∃ W, W = xA.setCell ⟨g + 2, 0, none⟩ (.slice AA (kx + 1) cA2) := ⟨_, rfl⟩
       rw [<- hx9] at JA F9 ⊢
       clear hx9 sX sA s5d
       have q1 : x9.cell? ⟨g + 2, 1, none⟩ = some (.slice sA' ky sc') := JA.out.blk.at_ 1
       obtain ⟨y0, hy0⟩ : ∃ W, W = x9.alloc (.cells #[.int .i64 zz] 3) := ⟨_, rfl⟩
       have b0 : Below x9.heap.size x9 y0 := by rw [hy0]; exact (Below.refl _ _).alloc (Nat.le_refl _) _
       have hV0 : VRow (fun y => x9.heap.size <= y) y0 (some ⟨x9.heap.size, 0, none⟩) 1 1 [.int .i64 zz] := by rw [hy0]; exact VRow.new x9 #[.int .i64 zz] _ 1 1 rfl
       have J0 := hi_ (JA.out.below b0)
       have F0 := hi_ (F9.out.trans (Fr.ofBelow (fun y => y = g + 2 \/ w4.heap.size <= y) b0))
       have HV0 := hi_ hV0
       have HY0 := hi_ hy0
       clear b0 hV0 hy0 kA fA
       go_wp2_with (first
        | (rw [<- HY0.out])
        | (at_builtin; refine wpList_appX (K := fun y => x9.heap.size <= y) intT rfl (.tmp 43) (.tmp 45) rfl w4.heap.size (.slice sA' ky sc') ky (ints ys) rfl (by have := J0.out.os; rw [<- HKY.out] at this; exact this) (some ⟨x9.heap.size, 0, none⟩) 1 1 [.int .i64 zz] rfl HV0.out (fun u hu => by rw [List.mem_singleton.1 hu]; rfl) (by omega) (by decide) J0.out.Bw ?_; intro vD xD hoD hgD hvD; obtain ⟨AD, cD, rfl, _, _⟩ := own_slv hoD; have hD := J0.out.size_ (x := zz) (by rw [<- HKY.out]; exact hoD) hgD hvD; have FD := hi_ (J0.out.fr2 F0.out hgD); have kD : xD.cell? ⟨g + 2, 1, none⟩ = some (.slice sA' ky sc') := hD.1.at_ 1; have fD := hD.1.fz 1; have JD := hi_ hD.2; clear hD hoD hgD hvD))
       go_roundw
       case rel =>
        refine ⟨j + 1, .slice AA (kx + 1) cA2, .slice AD (ky + 1) cD, hjn, by go_num, ?_, FD.out.trans ((Fr.setCell (own := (· = g + 2)) xD (p := ⟨g + 2, 1, none⟩) rfl (.slice AD (ky + 1) cD)).mono (fun y hy => .inl hy))⟩
        have e1 : (newL n (zsK ks) (L.take (j + 1))).map (·.1) = xs ++ [(x : Int)] := by rw [HSN.out, if_pos hxn, List.map_append, <- HXS.out]; rfl
        have e2 : ((newL n (zsK ks) (L.take (j + 1))).map fun c => (c.2 : Int)) = ys ++ [zz] := by rw [HSN.out, if_pos hxn, List.map_append, <- HYS.out]; exact congrArg (fun v => ys ++ [v]) HZ.out.symm
        rw [e1, e2]
        exact JD.out
       case measure => simp [intOf]; omega
      ·go_simp
       obtain ⟨xB, hxB⟩ : ∃ W, W = w5.drew.alloc (.cells #[.int .i64 (x : Int)] 3) := ⟨_, rfl⟩
       have bB : Below w5.heap.size w5 xB := by rw [hxB]; exact (Below.refl _ _).drew.alloc (Nat.le_refl _) _
       have hV : VRow (fun y => w5.heap.size <= y) xB (some ⟨w5.heap.size, 0, none⟩) 1 1 [.int .i64 (x : Int)] := by rw [hxB]; exact VRow.new w5.drew #[.int .i64 (x : Int)] _ 1 1 rfl
       have JB := hi_ (J5.out.below bB)
       have FB := hi_ (F5.out.trans (Fr.ofBelow (fun y => y = g + 2 \/ w4.heap.size <= y) bB))
       have sB := LC.out xB FB.out
       have HV := hi_ hV
       first | rw [<- hxB] | (rw [show (w5.alloc (.cells #[.int .i64 (x : Int)] 3)).drew = xB from hxB.symm])
       clear hxB bB hV
       refine hK.out _ _ sB (fun hHeld => ?_)
       clear hK K'
       try simp only [Act.put, sA_, sB_, sC_]
       refine wpAnyH_ready (rs := [1]) (by kernel_rfl) (by simp) ?_
       refine AllReadyH.cons (o := ⟨some 34, .load 38 (.tmp 33), 38, "ref.go:33", #[⟨0, .data⟩], none⟩) rfl (fun K' hK => ?_) AllReadyH.nil
       have q4 : xB.cell? ⟨g + 2, 0, none⟩ = some (.slice cA kx cc') := JB.out.blk.at_ 0
       go_simp
       clear q4
       refine hK.out _ _ sB (fun hHeld => ?_)
       clear hK K'
       try simp only [Act.put, sA_, sB_, sC_]
       refine wpAnyH_ready (rs := [7]) (by kernel_rfl) (by simp) ?_
       refine AllReadyH.cons (o := ⟨some 40, .call { callee := .builtin .append, args := #[.tmp 34, .tmp 39], argTypes := #[38, 38] }, 38, "ref.go:33", #[⟨1, .data⟩, ⟨6, .data⟩], none⟩) rfl (fun K' hK => ?_) AllReadyH.nil
       refine step_appX (K := fun y => w5.heap.size <= y) intT rfl (.tmp 34) (.tmp 39) rfl w4.heap.size (.slice cA kx cc') kx (ints xs) rfl (by have := JB.out.oc; rw [<- HKX.out] at this; exact this) (some ⟨w5.heap.size, 0, none⟩) 1 1 [.int .i64 (x : Int)] rfl HV.out (fun u hu => by rw [List.mem_singleton.1 hu]; rfl) (by omega) (by decide) JB.out.Bw ?_
       intro vA xA hoA hgA hvA
       obtain ⟨AA, cA2, rfl, _, _⟩ := own_slv hoA
       have hC := JB.out.comp (x := (x : Int)) (by rw [<- HKX.out]; exact hoA) hgA hvA
       have FA := hi_ (JB.out.fr FB.out hgA)
       have sA := LC.out xA FA.out
       have kA : xA.cell? ⟨g + 2, 0, none⟩ = some (.slice cA kx cc') := hC.1.at_ 0
       have fA := hC.1.fz 0
       have JA := hi_ hC.2
       clear hC hoA hgA hvA
       refine hK.out _ _ sA (fun hHeld => ?_)
       clear hK K'
       try simp only [Act.put, sA_, sB_, sC_]
       refine tk_ 8 ⟨some 41, .fieldAddr 127 (.tmp 5) 0, 0, "ref.go:33", #[⟨0, .phase⟩, ⟨1, .phase⟩, ⟨2, .phase⟩, ⟨3, .phase⟩, ⟨4, .phase⟩, ⟨5, .phase⟩, ⟨6, .phase⟩, ⟨7, .phase⟩], none⟩ hHeld ?_
       simp only [Act.put, sA_, sB_, sC_]
       refine wpAnyH_ready (rs := [9]) (by kernel_rfl) (by simp) ?_
       refine AllReadyH.cons (o := ⟨none, .store 38 (.tmp 41) (.tmp 40), 0, "ref.go:33", #[⟨8, .data⟩, ⟨7, .data⟩, ⟨7, .chain⟩, ⟨0, .phase⟩, ⟨1, .phase⟩, ⟨2, .phase⟩, ⟨3, .phase⟩, ⟨4, .phase⟩, ⟨5, .phase⟩, ⟨6, .phase⟩, ⟨7, .phase⟩], none⟩) rfl (fun K' hK => ?_) AllReadyH.nil
       have F9 := hi_ (FA.out.trans ((Fr.setCell (own := (· = g + 2)) xA (p := ⟨g + 2, 0, none⟩) rfl (.slice AA (kx + 1) cA2)).mono (fun y hy => .inl hy)))
       have sX := LC.out _ F9.out
       go_simp
       refine hK.out _ _ sX (fun hHeld => ?_)
       clear hK K'
       try simp only [Act.put]
       refine wpAnyH_done (by kernel_rfl) ?_ _
       refine NoPanic.normal ?_
       obtain ⟨x9, hx9⟩ : ∃ W, W = xA.setCell ⟨g + 2, 0, none⟩ (.slice AA (kx + 1) cA2) := ⟨_, rfl⟩
       rw [<- hx9] at JA F9 ⊢
       clear hx9 sX sA s5d
       have q1 : x9.cell? ⟨g + 2, 1, none⟩ = some (.slice sA' ky sc') := JA.out.blk.at_ 1
       obtain ⟨y0, hy0⟩ : ∃ W, W = x9.alloc (.cells #[.int .i64 zz] 3) := ⟨_, rfl⟩
       have b0 : Below x9.heap.size x9 y0 := by rw [hy0]; exact (Below.refl _ _).alloc (Nat.le_refl _) _
       have hV0 : VRow (fun y => x9.heap.size <= y) y0 (some ⟨x9.heap.size, 0, none⟩) 1 1 [.int .i64 zz] := by rw [hy0]; exact VRow.new x9 #[.int .i64 zz] _ 1 1 rfl
       have J0 := hi_ (JA.out.below b0)
       have F0 := hi_ (F9.out.trans (Fr.ofBelow (fun y => y = g + 2 \/ w4.heap.size <= y) b0))
       have HV0 := hi_ hV0
       have HY0 := hi_ hy0
       clear b0 hV0 hy0 kA fA
       go_wp2_with (first
        | (rw [<- HY0.out])
        | (at_builtin; refine wpList_appX (K := fun y => x9.heap.size <= y) intT rfl (.tmp 43) (.tmp 45) rfl w4.heap.size (.slice sA' ky sc') ky (ints ys) rfl (by have := J0.out.os; rw [<- HKY.out] at this; exact this) (some ⟨x9.heap.size, 0, none⟩) 1 1 [.int .i64 zz] rfl HV0.out (fun u hu => by rw [List.mem_singleton.1 hu]; rfl) (by omega) (by decide) J0.out.Bw ?_; intro vD xD hoD hgD hvD; obtain ⟨AD, cD, rfl, _, _⟩ := own_slv hoD; have hD := J0.out.size_ (x := zz) (by rw [<- HKY.out]; exact hoD) hgD hvD; have FD := hi_ (J0.out.fr2 F0.out hgD); have kD : xD.cell? ⟨g + 2, 1, none⟩ = some (.slice sA' ky sc') := hD.1.at_ 1; have fD := hD.1.fz 1; have JD := hi_ hD.2; clear hD hoD hgD hvD))
       go_roundw
       case rel =>
        refine ⟨j + 1, .slice AA (kx + 1) cA2, .slice AD (ky + 1) cD, hjn, by go_num, ?_, FD.out.trans ((Fr.setCell (own := (· = g + 2)) xD (p := ⟨g + 2, 1, none⟩) rfl (.slice AD (ky + 1) cD)).mono (fun y hy => .inl hy))⟩
        have e1 : (newL n (zsK ks) (L.take (j + 1))).map (·.1) = xs ++ [(x : Int)] := by rw [HSN.out, if_pos hxn, List.map_append, <- HXS.out]; rfl
        have e2 : ((newL n (zsK ks) (L.take (j + 1))).map fun c => (c.2 : Int)) = ys ++ [zz] := by rw [HSN.out, if_pos hxn, List.map_append, <- HYS.out]; exact congrArg (fun v => ys ++ [v]) HZ.out.symm
        rw [e1, e2]
        exact JD.out
       case measure => simp [intOf]; omega
-- ENDHOLE2
  ·have e : L.take j = L := List.take_of_length_le (by omega)
   rw [e] at hJ
   have R2 := hi_ hJ.blk
   have hR1 : Rec 127 wr (g + 1) #[nilv, nilv, nilv] := HR4.out.fr hF (fun h => by have := HR4.out.lt; omega)
   have R1 := hi_ hR1
   obtain ⟨cA, cc', e1, _, _⟩ := own_slv hJ.oc
   obtain ⟨sA', sc', e2, _, _⟩ := own_slv hJ.os
   subst e1 e2
   have HJ := hi_ hJ
   clear hJ hR1 e
   go_wp2_with (first
    | (with_reducible refine wpList_ldS rtabT rfl rfl (.tmp 5) rfl rfl R2.out ?_)
    | (with_reducible refine wpList_stS (cs' := #[.slice cA _ cc', .slice sA' _ sc', nilv]) rtabT rfl rfl (by simp [Value.oneCell']) rfl (.tmp 4) (.tmp 48) rfl rfl rfl R1.out ?_; intro w9 hR9 hF9))
   refine bodyPost_ret (res_c rfl rfl (hR9.load rtabT rfl)) rfl ?_
   have hnew : Tb.new n (zsK ks) sig = ⟨newL n (zsK ks) L, []⟩ := by rw [HLE.out]; rfl
   have hs9 := hF9.size
   have hg1 : ∀ x, w4.heap.size <= x -> ¬ x = g + 1 := fun x hx e => by have := HR4.out.lt; omega
   have oc9 := own_fr HJ.out.oc hF9 (fun x hx e => hg1 x (own_ge HJ.out.oc hx).1 e)
   have os9 := own_fr HJ.out.os hF9 (fun x hx e => hg1 x (own_ge HJ.out.os hx).1 e)
   obtain ⟨_, _, e3, _, _, hc9⟩ := own_rowsL oc9 (ints_el _) rfl
   obtain ⟨_, _, e4, _, _, hs9'⟩ := own_rowsL os9 (ints_el _) rfl
   injection e3 with e31 _ _
   injection e4 with e41 _ _
   subst e31 e41
   have hgw := HG.out
   have hb4 := HC4.out.bel.size
   refine ⟨⟨cA, _, cc', sA', _, sc', none, 0, 0⟩, rfl, ?_, HJ.out.bel.trans (hF9.toBelow (fun x hx => by rw [show x = g + 1 from hx]; omega) HJ.out.bel.size), rfl, rfl⟩
   rw [hnew]
   exact ⟨IntsV.mono hc9 (fun x hx => ⟨by omega, hx.2⟩), IntsV.mono hs9' (fun x hx => ⟨by omega, hx.2⟩), EntsV.nil _ _ _⟩
theorem RTNew_any (h : KRd w A n ks) (hn : n <= 1000000) (sig : Nat) (hs : sig < 18446744073709551616) :
  Calls Tryz.prog 110 #[cv lg pg en gn A n cap, .int .u64 (sig : Nat)] w fun e w' => ∃ d : Rt, e = .returned (.agg d.cs) /\ RtS (fun x => w.heap.size <= x /\ x < w'.heap.size) w' d (Tb.new n (zsK ks) sig) /\ Below w.heap.size w w' :=
 (RTNew_nil lg pg en gn A n cap ks w h hn sig hs).mono fun _ _ ⟨d, e, h1, h2, _⟩ => ⟨d, e, h1, h2⟩
end
end Go.Proofs.YtaoinkjjmakhaaaGreatDoor
namespace Go.Proofs.YtaoinkjjmakhaaaGreatDoor
open Go.RowKit
theorem VB.sl {K : Nat -> Prop} {w : World} {u : Value} {l : List UInt8} (h : VB K w u l) : ∃ A m c, u = .slice A m c /\ Rd w A m l := by obtain ⟨A, m, c, e, hr, _⟩ := h; exact ⟨A, m, c, e, hr⟩
theorem Rd.drewN {w : World} {A : Option Addr} {n : Nat} {l : List UInt8} (h : Rd w A n l) (k : Nat) : Rd (w.drewN k) A n l := h.below (Nat.le_refl _) (below_drewN (Below.refl _ _) k)
set_option maxRecDepth 20000 in
theorem SameParts_yes {K K' : Nat -> Prop} (A A' : Option Addr) (n c c' : Nat) (xs : List Pt) (w : World) (h : PartsV K w A n xs) (h' : PartsV K' w A' n xs) (hn : n <= 1000000) :
  Calls Tryz.prog 52 #[.slice A n c, .slice A' n c'] w fun e w' => e = .returned (.bool true) /\ Below w.heap.size w w' := by
 have hl := h.len
 have H := hi_ h
 have H' := hi_ h'
 clear h h'
 go_enter Tryz.func52, Tryz.ntmps52
 go_wp2
 go_loopw [5] (fun iv wr => ∃ j : Nat, j <= n /\ iv = .int .i64 j /\ Below w.heap.size w wr) (fun iv _ => n - (intOf iv).toNat)
 case atStart => exact ⟨0, Nat.zero_le _, rfl, Below.refl _ _⟩
 case round =>
  obtain ⟨j, hj, rfl, hB⟩ := hrel
  by_cases hjn : j < n
  ·obtain ⟨y, hy⟩ : ∃ y, xs[j]? = some y := ⟨_, List.getElem?_eq_getElem (by omega)⟩
   obtain ⟨b, o, u, hA, _, hblt, h0, h1, hu⟩ := H.out.cell hy
   obtain ⟨b', o', u', hA', _, hblt', h0', h1', hu'⟩ := H'.out.cell hy
   subst hA hA'
   obtain ⟨DA, dm, dc, rfl, hr⟩ := hu.sl
   obtain ⟨DA', dm', dc', rfl, hr'⟩ := hu'.sl
   obtain ⟨yi, yd⟩ := y
   simp only at h0 h0' hr hr'
   have k0 := (hB.cell (p := ⟨b, o + j * 2, none⟩) hblt).trans h0
   have k1 := (hB.cell (p := ⟨b, o + j * 2 + 1, none⟩) hblt).trans h1
   have k0' := (hB.cell (p := ⟨b', o' + j * 2, none⟩) hblt').trans h0'
   have k1' := (hB.cell (p := ⟨b', o' + j * 2 + 1, none⟩) hblt').trans h1'
   have CS : ∀ k, Calls Tryz.prog 18 #[.slice DA dm dc, .slice DA' dm' dc'] (wr.drewN k) fun e w' => e = .returned (.bool true) /\ w' = wr.drewN k := fun k =>
    (Same_yes DA DA' dm dc dm' dc' yd _ ((hr.below (Nat.le_refl _) hB).drewN k) ((hr'.below (Nat.le_refl _) hB).drewN k)).mono fun _ _ ⟨he, hw⟩ => ⟨he, hw.symm⟩
   have CS := hi_ CS
   clear h0 h1 h0' h1' hy hu hu' hr hr'
   go_wp2_with fail
   go_quiet ((go_at_call 18; exact Calls.quiet_of_same (CS.out _)))
   go_wp2
   go_roundw
   case rel => exact ⟨j + 1, hjn, by go_num, below_drewN hB _⟩
   case measure => simp [intOf]; omega
  ·go_wp2
   go_ret
   exact ⟨rfl, hB⟩
end Go.Proofs.YtaoinkjjmakhaaaGreatDoor
namespace Go.Proofs.YtaoinkjjmakhaaaGreatDoor
open Go.RowKit
theorem IntsV.at_ {K : Nat -> Prop} {w : World} {A : Option Addr} {n : Nat} {xs : List Int} (h : IntsV K w A n xs) {j : Nat} (hj : j < n) : ∃ b o, A = some ⟨b, o, none⟩ /\ b < w.heap.size /\ w.cell? ⟨b, o + j, none⟩ = some (.int .i64 (xs.getD j 0)) := by
 have hl := h.len
 have := h.cell (List.getElem?_eq_getElem (show j < xs.length by omega))
 rwa [show xs[j] = xs.getD j 0 by simp [List.getD, List.getElem?_eq_getElem (show j < xs.length by omega)]] at this
theorem getD_map {α β : Type} (f : α -> β) (l : List α) (j : Nat) (a : α) (hj : j < l.length) : (l.map f).getD j (f a) = f (l.getD j a) := by
 simp [List.getD, List.getElem?_eq_getElem hj]
section
variable {K : Nat -> Prop} {w : World} {d : Rt} {t : Tb}
end
end Go.Proofs.YtaoinkjjmakhaaaGreatDoor
namespace Go.Proofs.YtaoinkjjmakhaaaGreatDoor
open Go.RowKit
end Go.Proofs.YtaoinkjjmakhaaaGreatDoor
namespace Go.Proofs.YtaoinkjjmakhaaaGreatDoor
open Go.RowKit
end Go.Proofs.YtaoinkjjmakhaaaGreatDoor
