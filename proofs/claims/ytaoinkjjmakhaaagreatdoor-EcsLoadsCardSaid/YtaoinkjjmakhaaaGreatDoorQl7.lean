/- TbP7, CmAl, CmS, TbP8, RowM, OpnF, Opn, OpnV, TbO, TbG, TbC, TbP9, TbPA -/
import Derived.Test.YtaoinkjjmakhaaaGreatDoorQl1
import Derived.Test.YtaoinkjjmakhaaaGreatDoorQl2
import Derived.Test.YtaoinkjjmakhaaaGreatDoorQl3
import Derived.Test.YtaoinkjjmakhaaaGreatDoorQl4
import Derived.Test.YtaoinkjjmakhaaaGreatDoorQl5
import Derived.Test.YtaoinkjjmakhaaaGreatDoorQl6
import Derived.Deep.MidRow
import Derived.Deep.Slices
import Derived.Deep.Fields
import Derived.ChangeSame
import Derived.Deep.RegionHeld3
namespace Go.Proofs.YtaoinkjjmakhaaaGreatDoor
open Go.RowKit
set_option maxRecDepth 20000
theorem idTT : RT Tryz.prog 32 2 := ⟨⟨_, Tryz.underlying32, rfl⟩, by kernel_rfl⟩
theorem idc_set (l : List (Int × Int)) {k : Nat} (hk : k < l.length) (x : Int × Int) : ((idc l).set (k * 2) (.int .i64 x.1)).set (k * 2 + 1) (.int .i64 x.2) = idc (l.set k x) := by
 have h1 : ∀ r ∈ l.map (fun x : Int × Int => [Value.int .i64 x.1, .int .i64 x.2]), r.length = 2 := fun r hr => by obtain ⟨x, _, rfl⟩ := List.mem_map.1 hr; rfl
 have hg : (l.map (fun x : Int × Int => [Value.int .i64 x.1, .int .i64 x.2]))[k]? = some [Value.int .i64 l[k].1, .int .i64 l[k].2] := by rw [List.getElem?_map, List.getElem?_eq_getElem hk]; rfl
 unfold idc
 have e1 := flatg_set h1 hg (i := 0) (by decide) (.int .i64 x.1)
 rw [Nat.add_zero] at e1
 rw [e1]
 have h2 : ∀ r ∈ (l.map (fun x : Int × Int => [Value.int .i64 x.1, .int .i64 x.2])).set k ([Value.int .i64 l[k].1, .int .i64 l[k].2].set 0 (.int .i64 x.1)), r.length = 2 := fun r hr => by
  rcases List.mem_or_eq_of_mem_set hr with h | h
  ·exact h1 r h
  ·rw [h]; rfl
 have hg2 : ((l.map (fun x : Int × Int => [Value.int .i64 x.1, .int .i64 x.2])).set k ([Value.int .i64 l[k].1, .int .i64 l[k].2].set 0 (.int .i64 x.1)))[k]? = some ([Value.int .i64 l[k].1, .int .i64 l[k].2].set 0 (.int .i64 x.1)) := List.getElem?_set_self (by simpa using hk)
 rw [flatg_set h2 hg2 (i := 1) (by decide), List.set_set, List.map_set]
 rfl
theorem idc_take (l : List (Int × Int)) (k : Nat) : (idc l).take (k * 2) = idc (l.take k) := by
 unfold idc
 rw [flatg_take (fun r hr => by obtain ⟨x, _, rfl⟩ := List.mem_map.1 hr; rfl), List.map_take]
theorem TGo.more {own' : Nat -> Prop} {w w1 w2 : World} {tag tag1 : Nat -> Nat} (h : TGo w tag w1 tag1) (k : Fr own' w1 w2) (ho : ∀ x, own' x -> tag1 x ≠ 0 \/ w.heap.size <= x) : TGo w tag w2 tag1 :=
 ⟨h.fr.trans' k (fun x hx => by
  rcases ho x hx with h1 | h1
  ·exact h.own x h1
  ·exact .inr h1), h.own⟩
section
variable {w : World} {N : Nat} {tag : Nat -> Nat} {p m : Nat} {v : Value} {q : Nat -> Nat} {sg : Nat} {cs : List (Int × Nat)} {l : List (Int × Int)} {co : Nat -> Co}
theorem TDrop_no (h : TbI w N tag p m v q sg cs l co) (i : Int) (hi : ¬ (0 <= i /\ i < l.length)) : Calls Tryz.prog 128 #[.pointer (some ⟨p, 0, none⟩), .int .i64 i] w fun e w' => e = .returned (.tuple #[.agg #[.int .i64 0, .int .i64 0], .bool false, .int .i64 2]) /\ Below w.heap.size w w' := by
 obtain ⟨w1, hw1⟩ : ∃ w1, w1 = w.alloc (.cells #[.int .i64 0, .int .i64 0] 32) := ⟨_, rfl⟩
 have hb1 : Below w.heap.size w w1 := by rw [hw1]; exact (Below.refl _ _).alloc (Nat.le_refl _) _
 have HR1 := hi_ (show Rec 32 w1 w.heap.size #[.int .i64 0, .int .i64 0] by rw [hw1]; exact Rec.new _ _ _)
 have CF := hi_ (tcheck_no (h.below hb1) i hi)
 clear h hi
 go_enter Tryz.func128, Tryz.ntmps128
 go_wp2_with (first
  | (rw [<- hw1]; clear hw1)
  | (go_at_call 84; refine CF.out.mono ?_; rintro e w' ⟨rfl, rfl⟩)
  | (with_reducible refine wpList_stS (cs' := #[.int .i64 0, .int .i64 0]) idTT rfl rfl (by simp [Value.oneCell']) rfl (.tmp 4) (.tmp 16) rfl rfl rfl HR1.out ?_; intro w2 hR2 hF2))
 refine bodyPost_ret (res_cTT rfl rfl (hR2.load idTT rfl)) rfl ?_
 exact ⟨rfl, hb1.trans (hF2.toBelow (fun x hx => Nat.le_of_eq (show x = _ from hx).symm) hb1.size)⟩
set_option maxHeartbeats 1000000 in
theorem TDrop_ok (h : TbI w N tag p m v q sg cs l co) (hz : listZ sg = cs.map (·.1)) (hg : sg < 18446744073709551616) (hT : TabAt w) (hcn : cs.length <= 64) (hrw : ∀ j, j < cs.length -> (co j).rows.length = l.length) (i : Nat) (hi : i < l.length) (hll : l.length <= 1024) :
  Calls Tryz.prog 128 #[.pointer (some ⟨p, 0, none⟩), .int .i64 i] w fun e w' =>
   e = .returned (if i = l.length - 1 then .tuple #[.agg #[.int .i64 0, .int .i64 0], .bool false, .int .i64 0] else .tuple #[.agg #[.int .i64 (l.getD (l.length - 1) (0, 0)).1, .int .i64 (l.getD (l.length - 1) (0, 0)).2], .bool true, .int .i64 0]) /\
   ∃ tag' v', TbI w' N tag' p m v' q sg cs ((l.set i (l.getD (l.length - 1) (0, 0))).take (l.length - 1)) (fun a => (co a).drop i) /\ TGo w tag w' tag' := by
 obtain ⟨last, hlast⟩ : ∃ last, last = l.length - 1 := ⟨_, rfl⟩
 obtain ⟨mi, mg, hmv⟩ : ∃ mi mg, l.getD (l.length - 1) (0, 0) = (mi, mg) := ⟨_, _, rfl⟩
 have hge : l[last]? = some (mi, mg) := by rw [hlast, List.getElem?_eq_getElem (by omega), <- hmv]; simp [List.getD, List.getElem?_eq_getElem (show l.length - 1 < l.length by omega)]
 rw [hmv, <- hlast]
 have HGE := hi_ hge
 have HLA := hi_ hlast
 clear hge hmv hlast
 obtain ⟨w1, hw1⟩ : ∃ w1, w1 = w.alloc (.cells #[.int .i64 0, .int .i64 0] 32) := ⟨_, rfl⟩
 have hb1 : Below w.heap.size w w1 := by rw [hw1]; exact (Below.refl _ _).alloc (Nat.le_refl _) _
 have HR1 := hi_ (show Rec 32 w1 w.heap.size #[.int .i64 0, .int .i64 0] by rw [hw1]; exact Rec.new _ _ _)
 have h1 := h.below hb1
 have CF := hi_ (tcheck_ok h1 (i : Int) ⟨by omega, by omega⟩)
 have c0 := h1.c0
 obtain ⟨nc, hnc⟩ : ∃ nc, nc = cs.length := ⟨_, rfl⟩
 have HNC := hi_ hnc
 have CLT := hi_ (tlist_any hz hg (hT.below hb1))
 have H1 := hi_ h1
 have HB1 := hi_ hb1
 have HDm := hi_ h.dom
 clear h h1 hT hb1 hnc
 go_enter Tryz.func128, Tryz.ntmps128
 go_wp2_with (first
  | (rw [<- hw1]; clear hw1)
  | (go_at_call 84; refine CF.out.mono ?_; rintro e w' ⟨rfl, rfl⟩)
  | (go_at_call 85; refine CLT.out.mono ?_; rintro e w2 ⟨LA, lc, rfl, hI, hb2⟩; rw [<- HNC.out] at hI ⊢; have HI := hi_ hI; have HB2 := hi_ hb2; clear hI hb2 c0))
 have H2 := hi_ (H1.out.below HB2.out)
 have HR2 := hi_ (HR1.out.under HB2.out)
 have HI2 := hi_ (HI.out.mono (K' := fun x => tag x = 0 /\ x < w2.heap.size) (fun x hx => by
  rcases Nat.eq_zero_or_pos (tag x) with h0 | h0
  ·exact ⟨h0, hx.2⟩
  ·have := HDm.out x (by omega); have := HB1.out.size; omega))
 have htag : tag w.heap.size = 0 := by
  rcases Nat.eq_zero_or_pos (tag w.heap.size) with h0 | h0
  ·exact h0
  ·have := HDm.out _ (show tag w.heap.size ≠ 0 by omega); omega
 have HB0 := hi_ (HB1.out.trans (HB2.out.mono HB1.out.size))
 have hlt2 := HR2.out.lt
 clear H1 HR1 HI CF CLT HB1 HB2
 go_loopw [24] (fun iv wr => ∃ (j : Nat) (tag' : Nat -> Nat), j <= nc /\ iv = .int .i64 j /\ TbI wr N tag' p m v q sg cs l (fun a => if a < j then (co a).drop i else co a) /\ TGo w2 tag wr tag') (fun iv _ => nc - (intOf iv).toNat)
 case atStart => exact ⟨0, tag, Nat.zero_le _, rfl, H2.out.congr (fun a _ => by rw [if_neg (Nat.not_lt_zero a)]), TGo.refl _ _⟩
 case round =>
  obtain ⟨j, tag', hj, rfl, hI, hG⟩ := hrel
  have st : WStays (fun x => tag x = 0 /\ x < w2.heap.size) w2 wr := ⟨hG.fr.size, fun x hx => hG.fr.block x hx.2 (fun h2 => h2 hx.1)⟩
  by_cases hjn : j < nc
  ·have hjc : j < cs.length := by rw [<- HNC.out]; exact hjn
   obtain ⟨b, o, hLA, hblt, kk⟩ := (HI2.out.stays st).cell (get_fst hjc)
   subst hLA
   have c2 := hI.c2
   have LK := hI.look hjc
   obtain ⟨cu, hcu⟩ := hI.col j hjc
   simp only [if_neg (Nat.lt_irrefl j)] at hcu
   have CD := hi_ (Drop_ok (hI.cdom j) hcu i (by rw [hrw j hjc]; exact hi))
   obtain ⟨k, hkk⟩ : ∃ k, k = (cs.getD j (0, 0)).1 := ⟨_, rfl⟩
   rw [<- hkk] at kk LK
   have HIr := hi_ hI
   have HG := hi_ hG
   clear hI hG st hcu hkk
   go_wp2_with (go_at_call 166; refine CD.out.mono ?_; rintro e w5 ⟨rfl, hg5⟩; obtain ⟨tag5, hI5, hG5⟩ := HIr.out.turn hjc hg5; have HI5 := hi_ hI5; have HG5 := hi_ (HG.out.trans hG5); clear hg5 hI5 hG5)
   go_roundw
   case rel =>
    refine ⟨j + 1, _, hjn, by go_num, HI5.out.congr (fun a _ => ?_), HG5.out⟩
    by_cases ha : a = j
    ·subst ha
     rw [if_pos rfl, if_pos (Nat.lt_succ_self _)]
    ·rw [if_neg ha]
     by_cases h2 : a < j
     ·rw [if_pos h2, if_pos (by omega)]
     ·rw [if_neg h2, if_neg (by omega)]
   case measure => simp [intOf]; omega
  ·obtain rfl : j = nc := by omega
   have hI' := hI.congr (co' := fun a => (co a).drop i) (fun a ha => by rw [if_pos (by rw [HNC.out]; exact ha)])
   have HRr := hi_ (HR2.out.fr hG.fr (fun e => e htag))
   have HTB := hi_ (show tag' w.heap.size = 0 by
    rcases Nat.eq_zero_or_pos (tag' w.heap.size) with h0 | h0
    ·exact h0
    ·rcases hG.own _ (show tag' w.heap.size ≠ 0 by omega) with h1 | h1
     ·exact absurd htag h1
     ·omega)
   have hids := hI'.ids
   rcases hids.2 with ⟨_, h0⟩ | ⟨ib, ic, cur, hv, _, hh, hnc, hc, hs, _⟩
   ·omega
   subst hv
   have c1 := hI'.c1
   obtain ⟨A', c', e', _, _, hIV⟩ := own_rowsL hids (idc_el l) rfl
   injection e' with e1 e2 e3
   subst e1
   clear e2 e3
   obtain ⟨b', o', e', hblt, m0, m1⟩ := IdsV.cell hIV HGE.out
   injection e' with e'
   injection e' with e1 e2
   subst e1 e2
   simp only [Nat.zero_add] at m0 m1
   obtain ⟨n, hn⟩ : ∃ n, n = l.length := ⟨_, rfl⟩
   have hlast := HLA.out
   rw [<- hn] at c1 hi hll hnc hlast
   have el : (n : Int) - 1 = (last : Int) := by omega
   have hlt : (last : Int) < (n : Int) := by omega
   have hle : (0 : Int) <= (last : Int) := by omega
   have HI' := hi_ hI'
   have HG := hi_ hG
   have HN := hi_ hn
   have HIC := hi_ hnc
   have HHH := hi_ hh
   clear hI hI' hG st hids hIV hh hs hn hlast hnc
   go_wp2_with (first
    | (with_reducible refine wpList_stS (cs' := #[.int .i64 mi, .int .i64 mg]) idTT rfl rfl (by simp [Value.oneCell']) rfl (.tmp 4) (.tmp 49) rfl rfl rfl HRr.out ?_; intro w6 hR6 hF6; have HR6 := hi_ hR6; have HF6 := hi_ hF6; clear hR6 hF6))
   have hld : Below w6.heap.size w6 w6.drew := (Below.refl _ _).drew
   have i6 := (HI'.out.kept HF6.out (fun x hx e => by have e' : x = w.heap.size := e; rw [e', HTB.out] at hx; exact hx rfl)).below hld
   have r6 : Rec 32 w6.drew w.heap.size #[.int .i64 mi, .int .i64 mg] := HR6.out.under hld
   have g6 := (((TGo.ofBelow HB0.out).trans HG.out).more HF6.out (fun x hx => .inr (Nat.le_of_eq (show x = w.heap.size from hx).symm))).trans (TGo.ofBelow hld)
   have c1' := i6.c1
   have s6 : w6.drew.cell? ⟨p, 1, none⟩ = some (.slice (some ⟨ib, 0, none⟩) n ic) /\ w6.drew.cell? ⟨w.heap.size, 0, none⟩ = some (.int .i64 mi) /\ w6.drew.cell? ⟨w.heap.size, 1, none⟩ = some (.int .i64 mg) := ⟨by rw [c1', HN.out], r6.at_ 0, r6.at_ 1⟩
   have hi0 : (0 : Int) <= (i : Int) := by omega
   have hin : (i : Int) < (n : Int) := by omega
   have ids6 := i6.ids
   rw [<- HN.out] at ids6
   obtain ⟨w7, hw7⟩ : ∃ w7, w7 = w6.drew.setCells ib (i * 2) [.int .i64 mi, .int .i64 mg] := ⟨_, rfl⟩
   have ids7 : w7.ownsRow 0 32 2 (.slice (some ⟨ib, 0, none⟩) n ic) n (idc (l.set i (mi, mg))) := by
    rw [hw7, <- idc_set l (by rw [<- HN.out]; exact hi) (mi, mg)]
    exact own_setC (own_setC ids6 (i * 2) (.int .i64 mi)) (i * 2 + 1) (.int .i64 mg)
   have ht6 : w6.drew.there ib (i * 2) 2 := own_there ids6 (by omega)
   have f7 : Fr (fun x => (Value.slice (some ⟨ib, 0, none⟩) l.length ic).ownBlock = some x) w6.drew w7 := by rw [hw7]; exact Fr.setCells (fun x => (Value.slice (some ⟨ib, 0, none⟩) l.length ic).ownBlock = some x) ib rfl _ _ _
   have hb3 := i6.ti ib rfl
   have r7 : Rec 32 w7 w.heap.size #[.int .i64 mi, .int .i64 mg] := r6.fr f7 (fun e => by injection e with e; have e' : ib = w.heap.size := e; rw [e', HTB.out] at hb3; omega)
   have ids8 := own_lessS ids7 (m := last) (by omega)
   rw [idc_take] at ids8
   have hll8 : ((l.set i (mi, mg)).take last).length = last := by rw [List.length_take, List.length_set, <- HN.out]; omega
   obtain ⟨hR7, tag8, i8, g8⟩ := i6.newids (v' := .slice (some ⟨ib, 0, none⟩) last ic) (l' := (l.set i (mi, mg)).take last) f7 (by rw [hll8]; exact ids8) (fun x hx => .inl hx)
   have s7 : w7.cell? ⟨p, 1, none⟩ = some (.slice (some ⟨ib, 0, none⟩) n ic) /\ w7.cell? ⟨w.heap.size, 0, none⟩ = some (.int .i64 mi) /\ w7.cell? ⟨w.heap.size, 1, none⟩ = some (.int .i64 mg) := ⟨by have := hR7.at_ 1; rw [HN.out]; exact this, r7.at_ 0, r7.at_ 1⟩
   have k7 := s7.1
   have z7 := hR7.fz 1
   obtain ⟨w8, hw8⟩ : ∃ w8, w8 = w7.setCell ⟨p, 1, none⟩ (.slice (some ⟨ib, 0, none⟩) last ic) := ⟨_, rfl⟩
   rw [<- hw8] at i8 g8
   have htp := i6.tp
   have r8 : Rec 32 w8 w.heap.size #[.int .i64 mi, .int .i64 mg] := by
    rw [hw8]
    exact r7.fr (Fr.setCell (own := (· = p)) w7 (p := ⟨p, 1, none⟩) rfl _) (fun e => by have e' : w.heap.size = p := e; rw [<- e', HTB.out] at htp; omega)
   have ht8 : tag8 w.heap.size = 0 := by
    rcases Nat.eq_zero_or_pos (tag8 w.heap.size) with h0 | h0
    ·exact h0
    ·rcases g8.own _ (show tag8 w.heap.size ≠ 0 by omega) with h1 | h1
     ·exact absurd HTB.out h1
     ·have := r6.lt; omega
   have I8 := hi_ i8
   have G8 := hi_ (g6.trans g8)
   have R8 := hi_ r8
   have END : ∀ w9, Fr (· = w.heap.size) w8 w9 -> ∃ tag' v', TbI w9 N tag' p m v' q sg cs ((l.set i (mi, mg)).take last) (fun a => (co a).drop i) /\ TGo w tag w9 tag' := fun w9 hF =>
    ⟨tag8, _, I8.out.kept hF (fun x hx e => by have e' : x = w.heap.size := e; rw [e', ht8] at hx; exact hx rfl), G8.out.more hF (fun x hx => .inr (Nat.le_of_eq (show x = w.heap.size from hx).symm))⟩
   have END := hi_ END
   have HT6 := hi_ ht6
   have S6 := hi_ s6
   have S7 := hi_ s7
   have HW7 := hi_ hw7
   have HW8 := hi_ hw8
   have hl8 : (last : Int) <= (ic : Int) := by have := HIC.out; omega
   have hn8 : (n : Int) <= (ic : Int) := by have := HIC.out; omega
   clear hld i6 r6 g6 c1' ids6 ids7 ht6 f7 hb3 r7 ids8 hll8 hR7 i8 g8 htp r8 ht8 s7 hw7 hw8 c1 m0 m1
-- REGION11
   refine wp_region_noPanic ?_
   refine wp_region_held_drew (S := fun W => W.cell? ⟨p, 1, none⟩ = some (.slice (some ⟨ib, 0, none⟩) n ic) /\ W.cell? ⟨w.heap.size, 0, none⟩ = some (.int .i64 mi) /\ W.cell? ⟨w.heap.size, 1, none⟩ = some (.int .i64 mg)) (by kernel_rfl) s6 (fun hHeld => ?_)
   refine tk_ 0 ⟨some 50, .move (.tmp 0), 86, "table.go:131", #[], none⟩ hHeld ?_
   simp only [Act.put, sA_, sB_, sC_]
   refine tk_ 1 ⟨some 51, .nilCheck (.tmp 50), 0, "table.go:131", #[⟨0, .data⟩], none⟩ hHeld ?_
   simp only [Act.put, sA_, sB_, sC_]
   refine tk_ 2 ⟨some 52, .fieldAddr 163 (.tmp 51) 1, 0, "table.go:131", #[⟨1, .data⟩], none⟩ hHeld ?_
   simp only [Act.put, sA_, sB_, sC_]
   refine tk_ 3 ⟨some 53, .load 66 (.tmp 52), 66, "table.go:131", #[⟨2, .data⟩], none⟩ hHeld ?_
   simp only [Act.put, sA_, sB_, sC_]
   refine tk_ 4 ⟨some 54, .move (.tmp 1), 3, "table.go:131", #[], none⟩ hHeld ?_
   simp only [Act.put, sA_, sB_, sC_]
   refine tk_ 5 ⟨some 55, .load 32 (.tmp 4), 32, "table.go:131", #[], none⟩ hHeld ?_
   simp only [Act.put, sA_, sB_, sC_]
   refine tk_ 6 ⟨some 56, .indexAddr 66 (.tmp 53) (.tmp 54), 0, "table.go:131", #[⟨3, .data⟩, ⟨4, .data⟩, ⟨0, .phase⟩, ⟨1, .phase⟩, ⟨2, .phase⟩, ⟨3, .phase⟩, ⟨4, .phase⟩, ⟨5, .phase⟩], none⟩ hHeld ?_
   simp only [Act.put, sA_, sB_, sC_]
   refine wpAnyH_ready (rs := [7]) (by kernel_rfl) (by simp) ?_
   refine AllReadyH.cons (o := ⟨none, .store 32 (.tmp 56) (.tmp 55), 0, "table.go:131", #[⟨6, .data⟩, ⟨5, .data⟩, ⟨0, .phase⟩, ⟨1, .phase⟩, ⟨2, .phase⟩, ⟨3, .phase⟩, ⟨4, .phase⟩, ⟨5, .phase⟩], none⟩) rfl (fun K' hK => ?_) AllReadyH.nil
   refine step_stMid 32 rfl (.tmp 56) (.tmp 55) rfl ib (i * 2) #[.int .i64 mi, .int .i64 mg] rfl rfl HT6.out (by kernel_rfl) (by simp [Value.oneCell']) ?_
   rw [show w6.drew.setCells ib (i * 2) (#[Value.int .i64 mi, Value.int .i64 mg] : Array Value).toList = w7 from HW7.out.symm]
   refine hK.out _ _ S7.out (fun hHeld => ?_)
   clear hK K'
   try simp only [Act.put]
   refine wpAnyH_done (by kernel_rfl) ?_ _
   refine NoPanic.normal ?_
   clear s6 hHeld
   by_cases hil : i = last
   ·subst hil
    go_wp2_with (first
     | (rw [<- HW8.out]; clear k7 z7)
     | (with_reducible refine wpList_stS (cs' := #[.int .i64 0, .int .i64 0]) idTT rfl rfl (by simp [Value.oneCell']) rfl (.tmp 4) (.tmp 69) rfl rfl rfl R8.out ?_; intro w9 hR9 hF9))
    refine bodyPost_ret (res_cTT rfl rfl (hR9.load idTT rfl)) rfl ?_
    obtain ⟨t9, v9, h9, g9⟩ := END.out w9 hF9
    exact ⟨rfl, t9, ⟨v9, h9⟩, g9⟩
   ·have d1 : decide ((i : Int) = (last : Int)) = false := decide_eq_false (by omega)
    have d2 : decide (i = last) = false := decide_eq_false hil
    go_wp2_with (first
     | (rw [<- HW8.out]; clear k7 z7)
     | (with_reducible refine wpList_ldS idTT rfl rfl (.tmp 4) rfl rfl R8.out ?_)
     | (with_reducible refine wpList_stS (cs' := #[.int .i64 mi, .int .i64 mg]) idTT rfl rfl (by simp [Value.oneCell']) rfl (.tmp 4) (.tmp 70) rfl rfl rfl R8.out ?_; intro w9 hR9 hF9))
    refine bodyPost_ret (res_cTT rfl rfl (hR9.load idTT rfl)) rfl ?_
    obtain ⟨t9, v9, h9, g9⟩ := END.out w9 hF9
    exact ⟨rfl, t9, ⟨v9, h9⟩, g9⟩
-- END11
end
end Go.Proofs.YtaoinkjjmakhaaaGreatDoor
namespace Go.Proofs.YtaoinkjjmakhaaaGreatDoor
open Go.RowKit
set_option linter.unusedVariables false
section
variable (lg pg en gn : Int) (A : Option Addr) (n cap : Nat) (ks : List Kd) (w : World)
def idxs (n : Nat) : List Int := (List.range n).map Int.ofNat
theorem idxs_succ (n : Nat) : idxs (n + 1) = idxs n ++ [(n : Int)] := by simp [idxs, List.range_succ]
theorem orL_more (l : List Int) (c : Int) : orL l ||| orL [c] = orL (l ++ [c]) := by
 rw [orL_snoc, orL_one]
 split
 ·rfl
 ·exact Nat.or_zero _
theorem All_any (h : KRd w A n ks) (hn : n <= 1000000) :
  Calls Tryz.prog 147 #[cv lg pg en gn A n cap] w fun e w' => e = .returned (.int .u64 (ofL (idxs n) 64 : Nat)) /\ Below w.heap.size w w' := by
 obtain ⟨w1, hw1⟩ : ∃ w1, w1 = w.alloc (.cells (cc lg pg en gn A n cap) 24) := ⟨_, rfl⟩
 have C1 := CAt.new h lg pg en gn cap
 rw [<- hw1] at C1
 obtain ⟨g, hg⟩ : ∃ g, g = w.heap.size := ⟨_, rfl⟩
 rw [<- hg] at C1
 have c4 := C1.c4
 have K1 := hi_ C1
 have HG := hi_ hg
 clear h hg C1
 go_enter Tryz.func147, Tryz.ntmps147
 go_wp2_with (rw [<- hw1, <- HG.out]; clear hw1)
 go_loopw [3, 8] (fun v i wr => ∃ j : Nat, j <= n /\ i = .int .i64 j /\ v = .int .u64 (orL (idxs j) : Nat) /\ Below w.heap.size w wr) (fun _ i _ => n - (intOf i).toNat)
 case atStart => exact ⟨0, Nat.zero_le _, rfl, rfl, K1.out.bel⟩
 case round =>
  obtain ⟨j, hj, rfl, rfl, hb⟩ := hrel
  by_cases hlt : j < n
  ·have HB := hi_ hb
   have hlo := orL_lt (idxs j)
   have hmo := orL_more (idxs j) j
   obtain ⟨s, hs⟩ : ∃ s, s = orL (idxs j) := ⟨_, rfl⟩
   rw [<- hs] at hlo hmo ⊢
   have cW := With_any s j wr hlo
   rw [hmo, <- idxs_succ] at cW
   have CW := hi_ cW
   clear hb hlo hmo hs cW
   go_wp2_with (go_at_call 122; refine CW.out.mono ?_; rintro e w2 ⟨rfl, hb2⟩; have HB2 := hi_ hb2; clear hb2)
   go_roundw
   case rel => exact ⟨j + 1, hlt, by go_num, rfl, HB.out.trans (HB2.out.mono HB.out.size)⟩
   case measure => simp [intOf]; omega
  ·obtain rfl : j = n := by omega
   rw [orL_eq]
   have HB := hi_ hb
   clear hb
   go_wp2
   go_ret
   exact ⟨rfl, HB.out⟩
end
end Go.Proofs.YtaoinkjjmakhaaaGreatDoor
namespace Go.Proofs.YtaoinkjjmakhaaaGreatDoor
open Go.RowKit
set_option linter.unusedVariables false
section
variable (lg pg en gn : Int) (A : Option Addr) (n cap : Nat) (ks : List Kd) (w : World)
theorem Size_any (h : KRd w A n ks) (hn : n <= 1000000) (k : Int) :
  Calls Tryz.prog 61 #[cv lg pg en gn A n cap, .int .i64 k] w fun e w' => e = .returned (.tuple #[.int .i64 (sizeK ks k).1, .bool (sizeK ks k).2]) /\ Below w.heap.size w w' := by
 obtain ⟨w1, hw1⟩ : ∃ w1, w1 = w.alloc (.cells (cc lg pg en gn A n cap) 24) := ⟨_, rfl⟩
 have C1 := CAt.new h lg pg en gn cap
 rw [<- hw1] at C1
 obtain ⟨g, hg⟩ : ∃ g, g = w.heap.size := ⟨_, rfl⟩
 rw [<- hg] at C1
 have c4 := C1.c4
 have hl := h.1
 have K1 := hi_ C1
 have HG := hi_ hg
 clear h hg C1
 by_cases hk0 : k < 0
 ·have e1 : sizeK ks k = (0, false) := sizeK_no (by omega)
  rw [e1]
  clear e1
  go_enter Tryz.func61, Tryz.ntmps61
  go_wp2_with (rw [<- hw1, <- HG.out]; clear hw1)
  go_ret2
  exact ⟨rfl, K1.out.bel⟩
 ·by_cases hk1 : k < n
  ·obtain ⟨j, rfl⟩ : ∃ j : Nat, k = (j : Int) := ⟨k.toNat, by omega⟩
   obtain ⟨b, o, s', z, rfl, _, k0, k1, hl', hk⟩ := K1.out.rd.at_ (show j < n by omega)
   rw [sizeK_yes hl' hk]
   clear hk
   go_enter Tryz.func61, Tryz.ntmps61
   go_wp2_with (rw [<- hw1, <- HG.out]; clear hw1)
   go_ret2
   exact ⟨rfl, K1.out.bel⟩
  ·have e1 : sizeK ks k = (0, false) := sizeK_no (by omega)
   rw [e1]
   clear e1
   go_enter Tryz.func61, Tryz.ntmps61
   go_wp2_with (rw [<- hw1, <- HG.out]; clear hw1)
   go_ret2
   exact ⟨rfl, K1.out.bel⟩
end
end Go.Proofs.YtaoinkjjmakhaaaGreatDoor
namespace Go.Proofs.YtaoinkjjmakhaaaGreatDoor
open Go.RowKit
set_option maxRecDepth 20000
def noCo (cs : List (Int × Nat)) (j : Nat) : Co := ⟨(cs.getD j (0, 0)).2, []⟩
theorem new_cs (n : Nat) (zs : Nat -> Int) (s : Nat) : listZ (s &&& ofL (idxs n) 64) = (Tb.new n zs s).cs.map (·.1) := by
 show (listN _).map Int.ofNat = (((listN s).filter _).map _).map _
 rw [List.map_map]
 have e : listN (s &&& ofL (idxs n) 64) = (listN s).filter fun (k : Nat) => decide (k < n) := by
  unfold listN
  rw [List.filter_filter]
  refine List.filter_congr fun k hk => ?_
  have hk := List.mem_range.1 hk
  rw [Nat.testBit_and, ofL_bit, Bool.and_comm]
  congr 1
  refine decide_eq_decide.2 ⟨fun h => ?_, fun h => ⟨hk, ?_⟩⟩
  ·obtain ⟨_, h⟩ := h
   unfold idxs at h
   obtain ⟨a, ha, e⟩ := List.mem_map.1 h
   have := List.mem_range.1 ha
   have e' : (a : Int) = (k : Int) := e
   omega
  ·unfold idxs
   exact List.mem_map.2 ⟨k, List.mem_range.2 h, rfl⟩
 rw [e]
 rfl
theorem and_lt64 (s t : Nat) (h : s < 18446744073709551616) : s &&& t < 18446744073709551616 := Nat.lt_of_le_of_lt Nat.and_le_left h
theorem colAt_snoc {cs : List (Int × Nat)} {q : Nat -> Nat} {b : Nat} {k : Int} {z : Nat} (hk : k ∉ cs.map (·.1)) (i : Int) :
  (if i = k then some (Value.pointer (some ⟨b, 0, none⟩)) else colAt cs q i) = colAt (cs ++ [(k, z)]) (fun a => if a = cs.length then b else q a) i := by
 unfold colAt
 rw [List.findIdx?_append]
 by_cases hi : i = k
 ·subst hi
  have h0 : (cs.findIdx? fun c => decide (c.1 = i)) = none := by
   rw [List.findIdx?_eq_none_iff]
   intro x hx
   exact decide_eq_false fun e => hk (List.mem_map.2 ⟨x, hx, e⟩)
  rw [h0]
  simp
 ·rw [if_neg hi]
  cases hf : cs.findIdx? fun c => decide (c.1 = i) with
  | none =>
   have : ¬ k = i := fun e => hi e.symm
   simp [this]
  | some j =>
   rw [List.findIdx?_eq_some_iff_getElem] at hf
   obtain ⟨hj, _⟩ := hf
   simp [Nat.ne_of_lt hj]
section
variable {w w6 w7 : World} {N : Nat} {tag : Nat -> Nat} {p m : Nat} {v : Value} {q : Nat -> Nat} {sg : Nat} {cs : List (Int × Nat)} {l : List (Int × Int)} {co : Nat -> Co}
theorem TbI.more (h : TbI w N tag p m v q sg cs l co) (hb : Below w.heap.size w w6) {s : Co} (hlt : w.heap.size < w6.heap.size) (hc : ClAt w6 (· = w.heap.size) w.heap.size nilv s) {k : Int} {z : Nat} (hk : k ∉ cs.map (·.1)) (hk0 : 0 <= k /\ k < 64) {nm : Nat} (hnm : nm = cs.length + 1)
  (hm : MapZ Tryz.prog 3 (.pointer none) w7 m nm (fun i => if i = k then some (.pointer (some ⟨w.heap.size, 0, none⟩)) else colAt cs q i)) (hg : w6.grownBy w7 (some m)) :
  ∃ tag', TbI w7 N tag' p m v (fun a => if a = cs.length then w.heap.size else q a) sg (cs ++ [(k, z)]) l (fun a => if a = cs.length then s else co a) /\ (∀ x, tag' x ≠ 0 -> tag x ≠ 0 \/ w.heap.size <= x) := by
 have h6 := h.below hb
 have hF : Fr (· = m) w6 w7 := Fr.grown hg (fun x hx => by injection hx with hx; exact hx.symm)
 have hN := h.Nle
 have tb : tag w.heap.size = 0 := by
  rcases Nat.eq_zero_or_pos (tag w.heap.size) with h0 | h0
  ·exact h0
  ·have := h.dom _ (show tag w.heap.size ≠ 0 by omega); omega
 have ne : ∀ x, tag x ≠ 0 -> x ≠ w.heap.size := fun x hx e => hx (e ▸ tb)
 have kp : ∀ x, tag x ≠ 0 -> (if x = w.heap.size then cs.length + 4 else tag x) = tag x := fun x hx => if_neg (ne x hx)
 have hmlt := h.mp.lt
 refine ⟨fun x => if x = w.heap.size then cs.length + 4 else tag x, ⟨h6.blk.fr hF (fun e => by have := h.tp; rw [show p = m from e, h.tm] at this; omega), own_fr h6.ids hF (fun x hx e => by have := h.ti x hx; rw [show x = m from e, h.tm] at this; omega), ?_, fun j hj => ?_, ?_, ?_, fun x hx => ?_, fun x hx => ?_, fun x hx => ?_, ?_, ?_⟩, fun x hx => ?_⟩
 ·rw [List.length_append, List.length_singleton, <- hnm]
  exact hm.congr fun i => colAt_snoc hk i
 ·by_cases hjl : j = cs.length
  ·subst hjl
   simp only [if_true]
   exact ⟨_, (hc.kept hF (fun x hx e => by have e1 : x = w.heap.size := hx; have e2 : x = m := e; omega)).mono fun x hx => by
    show (if x = w.heap.size then cs.length + 4 else tag x) = cs.length + 4
    rw [if_pos hx]⟩
  ·simp only [if_neg hjl]
   rw [List.length_append, List.length_singleton] at hj
   obtain ⟨u, hu⟩ := h6.col j (by omega)
   exact ⟨u, (hu.kept hF (fun x hx e => by have e' : x = m := e; rw [e', h.tm] at hx; omega)).mono fun x hx => by
    show (if x = w.heap.size then cs.length + 4 else tag x) = j + 4
    rw [kp x (by rw [hx]; omega), hx]⟩
 ·show (if p = w.heap.size then _ else tag p) = 1
  rw [kp p (by rw [h.tp]; decide), h.tp]
 ·show (if m = w.heap.size then _ else tag m) = 2
  rw [kp m (by rw [h.tm]; decide), h.tm]
 ·show (if x = w.heap.size then _ else tag x) = 3
  rw [kp x (by rw [h.ti x hx]; decide), h.ti x hx]
 ·have hx' : (if x = w.heap.size then cs.length + 4 else tag x) ≠ 0 := hx
  have := hF.size
  split at hx'
  ·omega
  ·exact Nat.lt_of_lt_of_le (h6.dom x hx') this
 ·have hx' : (if x = w.heap.size then cs.length + 4 else tag x) ≠ 0 := hx
  split at hx'
  ·omega
  ·exact h.lo x hx'
 ·intro x hx
  rcases List.mem_append.1 hx with hx | hx
  ·exact h.cz x hx
  ·rw [List.mem_singleton.1 hx]; exact hk0
 ·rw [List.map_append, List.nodup_append]
  refine ⟨h.nd, by simp, fun a ha b hb e => ?_⟩
  simp at hb
  exact hk (by rw [<- hb, <- e]; exact ha)
 ·have hx' : (if x = w.heap.size then cs.length + 4 else tag x) ≠ 0 := hx
  split at hx'
  ·exact .inr (by omega)
  ·exact .inl hx'
end
end Go.Proofs.YtaoinkjjmakhaaaGreatDoor
namespace Go.Proofs.YtaoinkjjmakhaaaGreatDoor
set_option maxRecDepth 20000
theorem RowsL.mk {α : Type} {sz : Nat} {E : α -> List Value -> Prop} {K : Nat -> Prop} {w : World} {b o n : Nat} (hsz : 0 < sz) (F : Nat -> α) (R : Nat -> List Value) (hK : 0 < n -> K b /\ b < w.heap.size)
  (h : ∀ i, i < n -> (R i).length = sz /\ E (F i) (R i) /\ ∀ r u, (R i)[r]? = some u -> w.cell? ⟨b, o + (i * sz + r), none⟩ = some u) : RowsL sz E K w (some ⟨b, o, none⟩) n ((List.range n).map F) := by
 have hl : ∀ r ∈ (List.range n).map R, r.length = sz := fun r hr => by
  obtain ⟨i, hi, rfl⟩ := List.mem_map.1 hr
  exact (h i (List.mem_range.1 hi)).1
 refine ⟨((List.range n).map R).flatten, by simp, ⟨by rw [flatg_len hl]; simp, (fun e => by cases e), fun hp => ⟨b, o, rfl, (hK hp).1, (hK hp).2, fun j u hj => ?_⟩⟩, (List.range n).map R, rfl, by simp, hl, fun j x hx => ?_⟩
 ·have hjl := (List.getElem?_eq_some_iff.1 hj).1
  rw [flatg_len hl] at hjl
  simp only [List.length_map, List.length_range] at hjl
  have hi : j / sz < n := Nat.div_lt_of_lt_mul (by rw [Nat.mul_comm]; exact hjl)
  have hr : j % sz < sz := Nat.mod_lt _ hsz
  have e : j = j / sz * sz + j % sz := by rw [Nat.mul_comm]; exact (Nat.div_add_mod j sz).symm
  have hg := flatg_get hl (k := j / sz) (i := j % sz) (r := R (j / sz)) (by rw [List.getElem?_map, List.getElem?_range hi]; rfl) hr
  rw [<- e, hj] at hg
  have := (h (j / sz) hi).2.2 (j % sz) u hg.symm
  rw [<- e] at this
  exact this
 ·rw [List.getElem?_map] at hx
  by_cases hj : j < n
  ·rw [List.getElem?_range hj] at hx
   injection hx with hx
   exact ⟨R j, by rw [List.getElem?_map, List.getElem?_range hj]; rfl, hx ▸ (h j hj).2.1⟩
  ·rw [List.getElem?_eq_none (by simp; omega)] at hx
   cases hx
end Go.Proofs.YtaoinkjjmakhaaaGreatDoor
namespace Go.Proofs.YtaoinkjjmakhaaaGreatDoor
open Go.RowKit Go.ChangeShapes Go.WideShapes Go.Deep
section
variable {H : Type} {enc : TypeId × Value -> H} {w : World} {base : Nat} {held : Bool}
theorem field_at {P : Program} {t : TypeId} {fs : Array Field} {fuel : Nat} {cs : List Value} {x : DataW H × List MemPlace} (ht : P.underlying t = some (.struct fs)) (hone : oneCellFields P fs = true) (hk : P.cellsOf t = fs.size)
  (h : DataW.trod enc P w base (fun _ => true) held fuel t cs = some x) (j : Nat) (f : Field) (hj : fs[j]? = some f) : ∃ v n y, cs[j]? = some v /\ DataW.trod enc P w base (fun _ => true) held n f.type [v] = some y := by
 obtain ⟨xs, n, _, _, hl, hxl, hf⟩ := DataW.trod_struct ht h
 obtain ⟨ho, h1⟩ := hone_of hone j f hj
 have hlt : j < fs.size := (Array.getElem?_eq_some_iff.1 hj).1
 have e := hf j f hj
 rw [ho, h1, List.drop_eq_getElem_cons (by omega), List.getElem?_eq_getElem (by omega)] at e
 exact ⟨cs[j]'(by omega), n, _, List.getElem?_eq_getElem (by omega), e⟩
theorem elems_at {P : Program} {t e : TypeId} {fuel : Nat} {cs : List Value} {x : DataW H × List MemPlace} (ht : P.underlying t = some (.slice e)) (h : DataW.trod enc P w base (fun _ => true) held fuel t cs = some x) :
  cs = [.slice none 0 0] \/ ∃ (a : Addr) (len cap : Nat), cs = [.slice (some a) len cap] /\ len <= cap /\ cap <= maxLen /\
   ∀ i, i < len -> ∃ cs' n y, (∀ j, j < P.cellsOf e -> w.cell? ((a.add (i * P.cellsOf e)).add j) = cs'[j]?) /\ DataW.trod enc P w base (fun _ => true) held n e cs' = some y := by
 rcases open_slice ht h with ⟨h0, _⟩ | ⟨a, len, cap, m, n, D, Pl, hcs, _, hl, hm, hmm, _, hi⟩
 ·exact .inl h0
 ·refine .inr ⟨a, len, cap, hcs, hl, hm, fun i him => ?_⟩
  have hmc : m = cap := by simpa using hmm
  obtain ⟨cs', hc, ht'⟩ := hi i (by omega)
  obtain ⟨_, _, hat⟩ := World.cells?_some hc
  exact ⟨cs', n, _, hat, ht'⟩
end
end Go.Proofs.YtaoinkjjmakhaaaGreatDoor
namespace Go.Proofs.YtaoinkjjmakhaaaGreatDoor
open Go.RowKit Go.ChangeShapes Go.WideShapes Go.Deep
section
variable {H : Type} {enc : TypeId × Value -> H} {w : World} {base : Nat} {held : Bool}
theorem open_bytes {fuel : Nat} {cs : List Value} {x : DataW H × List MemPlace} (h : DataW.trod enc Tryz.prog w base (fun _ => true) held fuel 33 cs = some x) :
  ∃ A n c l, cs = [.slice A n c] /\ Rd w A n l /\ n <= c /\ c <= maxLen := by
 rcases open_ints Tryz.underlying33 Tryz.underlying5 (by kernel_rfl) h with ⟨hcs, _⟩ | ⟨x, l, c, zs, hcs, _, hl, hm, hz, _, hcell, hwz⟩
 ·exact ⟨none, 0, 0, [], hcs, Rd.nil _ _, Nat.le_refl _, Nat.zero_le _⟩
 ·obtain ⟨L, hr, h1, h2⟩ := rd_of_row (w := w) (a := some x) (len := l) (cap := c) (zs := zs) (.inr ⟨x, rfl, hl, hm, by simpa using hz, hcell, hwz⟩)
  exact ⟨some x, l, c, L, hcs, hr, h1, h2⟩
end
end Go.Proofs.YtaoinkjjmakhaaaGreatDoor
namespace Go.Proofs.YtaoinkjjmakhaaaGreatDoor
open Go.RowKit Go.ChangeShapes Go.WideShapes Go.Deep
set_option maxRecDepth 20000
section
variable {H : Type} {enc : TypeId × Value -> H} {w : World} {base : Nat} {held : Bool}
theorem open_vb {fuel : Nat} {cs : List Value} {x : DataW H × List MemPlace} (h : DataW.trod enc Tryz.prog w base (fun _ => true) held fuel 33 cs = some x) :
  ∃ A n c l, cs = [.slice A n c] /\ VB (· < w.heap.size) w (.slice A n c) l /\ n <= c /\ c <= maxLen := by
 obtain ⟨A, n, c, l, hcs, hr, h1, h2⟩ := open_bytes h
 refine ⟨A, n, c, l, hcs, ⟨_, _, _, rfl, hr, fun b o e hn => ?_⟩, h1, h2⟩
 obtain ⟨b', o', e', hlt, _⟩ := hr.2 hn
 rw [e] at e'
 injection e' with e'
 injection e' with e1 e2
 exact ⟨(show b < w.heap.size by omega), by omega⟩
end
end Go.Proofs.YtaoinkjjmakhaaaGreatDoor
namespace Go.Proofs.YtaoinkjjmakhaaaGreatDoor
open Go.RowKit Go.ChangeShapes Go.WideShapes Go.Deep
set_option maxRecDepth 20000
section
variable {H : Type} {enc : TypeId × Value -> H} {w : World} {base : Nat} {held : Bool}
end
end Go.Proofs.YtaoinkjjmakhaaaGreatDoor
namespace Go.Proofs.YtaoinkjjmakhaaaGreatDoor
open Go.RowKit
set_option maxRecDepth 20000
end Go.Proofs.YtaoinkjjmakhaaaGreatDoor
namespace Go.Proofs.YtaoinkjjmakhaaaGreatDoor
def Tb.co (t : Tb) (j : Nat) : Co := ⟨(t.cs.getD j (0, 0)).2, t.rows.map fun r => (r.2.getD j (0, [])).2⟩
def Tb.ids (t : Tb) : List (Int × Int) := t.rows.map (·.1)
section
variable {t : Tb}
theorem Tb.co_len (t : Tb) (j : Nat) : (t.co j).rows.length = t.rows.length := by unfold Tb.co; simp
theorem Tb.ids_len (t : Tb) : t.ids.length = t.rows.length := by unfold Tb.ids; simp
theorem getD_at {α : Type} {l : List α} {j : Nat} (h : j < l.length) (d : α) : l.getD j d = l[j] := by simp [List.getD, List.getElem?_eq_getElem h]
theorem Tb.co_add {id : Int × Int} {ps : List Pt} {j : Nat} (hj : j < t.cs.length) : Tb.co ⟨t.cs, t.rows ++ [(id, picks ps t.cs)]⟩ j = (t.co j).add (pick ps (t.cs.getD j (0, 0))) := by
 have e : ((picks ps t.cs).getD j (0, [])).2 = pick ps (t.cs.getD j (0, 0)) := by
  unfold picks
  rw [getD_at (by simpa using hj), getD_at hj]
  simp
 unfold Tb.co Co.add
 simp only [List.map_append, List.map_cons, List.map_nil, e]
theorem Tb.co_drop {i j : Nat} (hi : i < t.rows.length) : Tb.co ⟨t.cs, (t.rows.set i (t.rows.getD (t.rows.length - 1) noEn)).take (t.rows.length - 1)⟩ j = (t.co j).drop i := by
 unfold Tb.co Co.drop Co.set Co.cut
 simp only [List.map_take, List.map_set, List.length_map, List.length_set]
 rw [getD_at (l := t.rows) (by omega), getD_at (l := t.rows.map _) (by simp; omega), List.getElem_map]
theorem Tb.ids_drop {i : Nat} (hi : i < t.rows.length) : Tb.ids ⟨t.cs, (t.rows.set i (t.rows.getD (t.rows.length - 1) noEn)).take (t.rows.length - 1)⟩ = (t.ids.set i (t.ids.getD (t.ids.length - 1) (0, 0))).take (t.ids.length - 1) := by
 unfold Tb.ids
 simp only [List.map_take, List.map_set, List.length_map]
 rw [getD_at (by omega), getD_at (by simp; omega), List.getElem_map]
theorem Tb.ids_last (hi : 0 < t.rows.length) : t.ids.getD (t.ids.length - 1) (0, 0) = (t.rows.getD (t.rows.length - 1) noEn).1 := by
 unfold Tb.ids
 rw [List.length_map, getD_at (by simp; omega), getD_at (by omega), List.getElem_map]
theorem Tb.co_set (ok : t.Ok) {i k : Nat} (hi : i < t.rows.length) (hk : k < t.cs.length) (b : List UInt8) (j : Nat) (hj : j < t.cs.length) :
  Tb.co ⟨t.cs, t.rows.set i ((t.rows.getD i noEn).1, (t.rows.getD i noEn).2.set k (((t.rows.getD i noEn).2.getD k (0, [])).1, b))⟩ j = if j = k then (t.co k).set i b else t.co j := by
 have hl := (ok.getD hi).len
 rw [getD_at hi] at hl ⊢
 unfold Tb.co Co.set
 simp only [List.map_set]
 by_cases hjk : j = k
 ·subst hjk
  have e : ((t.rows[i].2.set j ((t.rows[i].2.getD j (0, [])).1, b)).getD j (0, [])).2 = b := by
   rw [getD_at (by rw [List.length_set]; omega)]
   simp
  rw [if_pos rfl, e]
 ·rw [if_neg hjk]
  congr 1
  have e : ((t.rows[i].2.set k ((t.rows[i].2.getD k (0, [])).1, b)).getD j (0, [])).2 = (t.rows[i].2.getD j (0, [])).2 := by
   rw [List.getD_eq_getElem?_getD, List.getElem?_set_ne (fun e => hjk e.symm), <- List.getD_eq_getElem?_getD]
  rw [e]
  apply List.ext_getElem (by simp)
  intro a h1 h2
  rw [List.getElem_set]
  split
  ·rename_i e'
   subst e'
   simp
  ·rfl
theorem Tb.ids_set {i : Nat} (hi : i < t.rows.length) (ps : List Pt) : Tb.ids ⟨t.cs, t.rows.set i ((t.rows.getD i noEn).1, ps)⟩ = t.ids := by
 unfold Tb.ids
 rw [getD_at hi, List.map_set]
 apply List.ext_getElem (by simp)
 intro a h1 h2
 rw [List.getElem_set]
 split
 ·rename_i e'
  subst e'
  simp
 ·rfl
theorem Tb.rowL_eq (ok : t.Ok) {i : Nat} (hi : i < t.rows.length) : rowL t.cs t.co i t.cs.length = (t.rows.getD i noEn).2 := by
 have hr := ok.getD hi
 have hl := hr.len
 unfold rowL
 apply List.ext_getElem (by rw [List.length_map, List.length_range, hl])
 intro j h1 h2
 have hj : j < t.cs.length := by simpa using h1
 have ha := (hr.at_ hj).1
 rw [getD_at h2] at ha
 rw [List.getElem_map, List.getElem_range, <- ha]
 show ((t.rows.getD i noEn).2[j].1, (t.rows.map fun r => (r.2.getD j (0, [])).2).getD i []) = _
 rw [getD_at (l := t.rows.map _) (by simpa using hi), List.getElem_map, <- getD_at hi noEn, getD_at h2]
end
end Go.Proofs.YtaoinkjjmakhaaaGreatDoor
namespace Go.Proofs.YtaoinkjjmakhaaaGreatDoor
open Go.RowKit
set_option maxRecDepth 20000
theorem nodup_take {α : Type} {l : List α} (h : l.Nodup) {j : Nat} {x : α} (hx : l[j]? = some x) : x ∉ l.take j := fun hm => by
 obtain ⟨hj, e⟩ := List.getElem?_eq_some_iff.1 hx
 obtain ⟨i, hi, e'⟩ := List.getElem_of_mem hm
 rw [List.length_take] at hi
 rw [List.getElem_take] at e'
 exact List.pairwise_iff_getElem.1 h i j (by omega) hj (by omega) (by rw [e', e])
theorem colAt_none {cs : List (Int × Nat)} {q : Nat -> Nat} {k : Int} (hk : k ∉ cs.map (·.1)) : colAt cs q k = none := by
 unfold colAt
 have h0 : (cs.findIdx? fun c => decide (c.1 = k)) = none := by
  rw [List.findIdx?_eq_none_iff]
  intro x hx
  exact decide_eq_false fun e => hk (List.mem_map.2 ⟨x, hx, e⟩)
 rw [h0]
 rfl
theorem TbI.start {w : World} {N : Nat} (hN : N <= w.heap.size) (sg : Nat) (q : Nat -> Nat) (co : Nat -> Co) :
  TbI ((w.alloc (.map #[] 0)).alloc (.cells #[.int .u64 sg, nilv, .map (some w.heap.size)] 163)) N (fun x => if x = w.heap.size then 2 else if x = w.heap.size + 1 then 1 else 0) (w.heap.size + 1) w.heap.size nilv q sg [] [] co where
 blk := by
  have := Rec.new (w.alloc (.map #[] 0)) 163 #[.int .u64 sg, nilv, .map (some w.heap.size)]
  rw [World.size_alloc] at this
  exact this
 ids := World.ownsRow_nil _ _ _ _
 mp := ((MapZ.made Tryz.prog 3 (.pointer none) w).below ((Below.refl _ _).alloc (Nat.le_refl _) _)).congr fun i => rfl
 col := fun j hj => absurd hj (Nat.not_lt_zero j)
 tp := by simp
 tm := by simp
 ti := fun x hx => by cases hx
 dom := fun x hx => by
  simp at hx ⊢
  by_cases h1 : x = w.heap.size
  ·omega
  ·rw [if_neg h1] at hx
   by_cases h2 : x = w.heap.size + 1
   ·omega
   ·rw [if_neg h2] at hx; exact absurd rfl hx
 lo := fun x hx => by
  by_cases h1 : x = w.heap.size
  ·omega
  ·simp only [if_neg h1] at hx
   by_cases h2 : x = w.heap.size + 1
   ·omega
   ·rw [if_neg h2] at hx; exact absurd rfl hx
 cz := fun x hx => absurd hx List.not_mem_nil
 nd := List.nodup_nil
section
variable (lg pg en gn : Int) (A : Option Addr) (n cap : Nat) (ks : List Kd) (w : World)
theorem TNew_any (h : KRd w A n ks) (hn : n <= 1000000) (s : Nat) (hs : s < 18446744073709551616) (hT : TabAt w) :
  Calls Tryz.prog 102 #[cv lg pg en gn A n cap, .int .u64 (s : Nat)] w fun e w' => ∃ p m q tag, e = .returned (.pointer (some ⟨p, 0, none⟩)) /\ TbI w' w.heap.size tag p m nilv q (s &&& ofL (idxs n) 64) (Tb.new n (zsK ks) s).cs [] (noCo (Tb.new n (zsK ks) s).cs) /\ Below w.heap.size w w' := by
 have hnl := h.1
 have hnew := Tb.new_ok n (zsK ks) s
 have hcs := new_cs n (zsK ks) s
 obtain ⟨cs, hcse⟩ : ∃ cs, cs = (Tb.new n (zsK ks) s).cs := ⟨_, rfl⟩
 rw [<- hcse] at hcs ⊢
 have hcz : ∀ x ∈ cs, 0 <= x.1 /\ x.1 < 64 := by rw [hcse]; exact hnew.cz
 have hcn : cs.length <= 64 := by rw [hcse]; exact hnew.cn
 have hnd : (cs.map (·.1)).Nodup := by rw [hcse]; exact hnew.nd
 have hat : ∀ j, j < cs.length -> ∃ k : Nat, k < n /\ cs.getD j (0, 0) = ((k : Int), (min (max (zsK ks k) 0) 64).toNat) := fun j hj => by
  have hm : cs[j] ∈ (Tb.new n (zsK ks) s).cs := hcse ▸ List.getElem_mem hj
  obtain ⟨k, hk, e⟩ := List.mem_map.1 hm
  refine ⟨k, of_decide_eq_true (List.mem_filter.1 hk).2, ?_⟩
  rw [List.getD_eq_getElem?_getD, List.getElem?_eq_getElem hj]
  exact e.symm
 obtain ⟨sg, hsg⟩ : ∃ sg, sg = s &&& ofL (idxs n) 64 := ⟨_, rfl⟩
 have hsl : sg < 18446744073709551616 := by rw [hsg]; exact and_lt64 _ _ hs
 rw [<- hsg] at hcs ⊢
 have eand : bits BinOp.and IntKind.u64 (s : Int) ((ofL (idxs n) 64 : Nat) : Int) = (sg : Int) := by rw [hsg]; exact u64_and_nat s (ofL (idxs n) 64) hs (ofL_lt _ 64)
 obtain ⟨al, hal⟩ : ∃ al, al = ofL (idxs n) 64 := ⟨_, rfl⟩
 rw [<- hal] at eand
 obtain ⟨w1, hw1⟩ : ∃ w1, w1 = w.alloc (.cells (cc lg pg en gn A n cap) 24) := ⟨_, rfl⟩
 have hb1 : Below w.heap.size w w1 := by rw [hw1]; exact (Below.refl _ _).alloc (Nat.le_refl _) _
 have hR1 : Rec 24 w1 w.heap.size (cc lg pg en gn A n cap) := by rw [hw1]; exact Rec.new _ _ _
 have CAL := All_any lg pg en gn A n cap ks w1 (h.below hb1) hn
 rw [<- hal] at CAL
 obtain ⟨nc, hnc⟩ : ∃ nc, nc = cs.length := ⟨_, rfl⟩
 rw [<- hnc] at hcn
 have HNC := hi_ hnc
 have CAL := hi_ CAL
 have HB1 := hi_ hb1
 have HR1 := hi_ hR1
 have HT := hi_ hT
 have H := hi_ h
 have HCZ := hi_ hcz
 have HND := hi_ hnd
 have HAT := hi_ hat
 have HNL := hi_ hnl
 clear h hT hb1 hR1 hnc hnew hcse hcz hnd hat hsg hal hnl
 have hmm := @run_makeMap Tryz.prog
 go_enter Tryz.func102, Tryz.ntmps102
 go_wp2_with (first
  | (rw [<- hw1]; clear hw1)
  | (with_reducible refine wpList_ldS confT rfl rfl (.tmp 2) rfl rfl HR1.out ?_)
  | (go_at_call 147; refine CAL.out.mono ?_; rintro e w2 ⟨rfl, hb2⟩; have hlt2 := (HR1.out.under hb2).lt; have hst := TbI.start (HB1.out.trans (hb2.mono HB1.out.size)).size sg (fun _ => 0) (noCo cs); obtain ⟨w3, hw3⟩ : ∃ w3, w3 = (w2.alloc (.map #[] 0)).alloc (.cells #[.int .u64 sg, nilv, .map (some w2.heap.size)] 163) := ⟨_, rfl⟩; rw [<- hw3] at hst; have hb3 : Below w2.heap.size w2 w3 := (by rw [hw3]; exact ((Below.refl _ _).alloc (Nat.le_refl _) _).alloc (by simp) _); have k0 := hst.c0; have HB3 := hi_ ((HB1.out.trans (hb2.mono HB1.out.size)).trans (hb3.mono (HB1.out.trans (hb2.mono HB1.out.size)).size)); have HR3 := hi_ ((HR1.out.under hb2).under hb3); have HST := hi_ hst; have HW3 := hi_ hw3; have HB23 := hi_ (HB1.out.trans (hb2.mono HB1.out.size)); clear hb2 hst hb3 hw3)
  | (rw [<- HW3.out])
  | (go_at_call 85; refine (tlist_any hcs hsl (HT.out.below HB3.out)).mono ?_; rintro e w4 ⟨LA, lc, rfl, hI, hb4⟩; rw [<- HNC.out] at hI ⊢; have HI := hi_ hI; have HB4 := hi_ hb4; clear hI hb4 k0))
 have H4 := hi_ (HST.out.below HB4.out)
 have HR4 := hi_ (HR3.out.under HB4.out)
 have HBw := hi_ (HB3.out.trans (HB4.out.mono HB3.out.size))
 have hs23 := HB23.out.size
 have hs34 := HB4.out.size
 have hp3 : w2.heap.size + 1 < w3.heap.size := HST.out.blk.lt
 have HW := hi_ (show ∀ x, (fun x => if x = w2.heap.size then 2 else if x = w2.heap.size + 1 then 1 else 0) x ≠ 0 -> x = w2.heap.size \/ x = w2.heap.size + 1 from fun x hx => by
  by_cases h1 : x = w2.heap.size
  ·exact .inl h1
  ·simp only [if_neg h1] at hx
   by_cases h2 : x = w2.heap.size + 1
   ·exact .inr h2
   ·rw [if_neg h2] at hx; exact absurd rfl hx)
 clear HST HR1 HR3 HB1 HB3 CAL
 go_loopw [23] (fun iv wr => ∃ (j : Nat) (q tag : Nat -> Nat), j <= nc /\ iv = .int .i64 j /\ TbI wr w.heap.size tag (w2.heap.size + 1) w2.heap.size nilv q sg (cs.take j) [] (noCo cs) /\ Fr (Two w2.heap.size (w2.heap.size + 2) w4.heap.size) w4 wr /\ (∀ x, tag x ≠ 0 -> Two w2.heap.size (w2.heap.size + 2) w4.heap.size x)) (fun iv _ => nc - (intOf iv).toNat)
 case atStart => exact ⟨0, _, _, Nat.zero_le _, rfl, H4.out, Fr.refl _ _, fun x hx => .inl (by have := HW.out x hx; omega)⟩
 case round =>
  obtain ⟨j, q, tag, hj, rfl, hI, hF, hTw⟩ := hrel
  have hss := hF.size
  by_cases hjn : j < nc
  ·have hjc : j < cs.length := by rw [<- HNC.out]; exact hjn
   have hIj := HI.out.stays (w' := wr) ⟨hss, fun x hx => hF.block x hx.2 (fun h2 => by rcases h2 with h2 | h2 <;> omega)⟩
   obtain ⟨b, o, hLA, hblt, kk⟩ := hIj.cell (get_fst hjc)
   have HLA := hi_ hLA
   subst hLA
   obtain ⟨k, hkn, hkc⟩ := HAT.out j hjc
   have hBr : Below w.heap.size w wr := HBw.out.trans (hF.toBelow (fun x hx => by rcases hx with hx | hx <;> omega) (by omega))
   have hRr := HR4.out.fr hF (fun e => by rcases e with e | e <;> omega)
   have CSZ := Size_any lg pg en gn A n cap ks wr (H.out.below hBr) hn (k : Int)
   rw [sizeK_at (by rw [HNL.out]; exact hkn)] at CSZ
   obtain ⟨z, hz⟩ : ∃ z, z = zsK ks k := ⟨_, rfl⟩
   rw [<- hz] at CSZ hkc
   rw [hkc] at kk
   simp only at kk
   have HKC := hi_ hkc
   have HRr := hi_ hRr
   have CSZ := hi_ CSZ
   have HIr := hi_ hI
   have HFr := hi_ hF
   have HTw := hi_ hTw
   clear hI hF hTw hIj hBr hRr hkc hz
   go_wp2_with (first
    | (with_reducible refine wpList_ldS confT rfl rfl (.tmp 2) rfl rfl HRr.out ?_)
    | (go_at_call 61; refine CSZ.out.mono ?_; rintro e w5 ⟨rfl, hb5⟩; have I5 := hi_ (HIr.out.below hb5); have HB5 := hi_ hb5; have c2 := I5.out.c2; clear hb5))
   have hld : Below w5.heap.size w5 w5.drew := (Below.refl _ _).drew
   have I5d := hi_ (I5.out.below hld)
   have s5 : w5.drew.cell? ⟨w2.heap.size + 1, 2, none⟩ = some (.map (some w2.heap.size)) := I5d.out.c2
   have hlj : (cs.take j).length = j := by rw [List.length_take]; omega
   have hnk : (k : Int) ∉ (cs.take j).map (·.1) := by
    have hg := get_fst hjc
    rw [HKC.out] at hg
    have := nodup_take HND.out hg
    rwa [List.map_take]
   have hk64 : 0 <= (k : Int) /\ (k : Int) < 64 := by
    have := HCZ.out cs[j] (List.getElem_mem hjc)
    have e : cs.getD j (0, 0) = cs[j] := by simp [List.getD, List.getElem?_eq_getElem hjc]
    rw [<- e, HKC.out] at this
    exact this
   have htk : cs.take (j + 1) = cs.take j ++ [((k : Int), (min (max z 0) 64).toNat)] := by rw [getD_take hjc, HKC.out]
   have hco : ∀ a, (if a = (cs.take j).length then Co.new z else noCo cs a) = noCo cs a := fun a => by
    rw [hlj]
    by_cases ha : a = j
    ·subst ha
     rw [if_pos rfl]
     unfold noCo
     rw [HKC.out]
     rfl
    ·rw [if_neg ha]
   have HLJ := hi_ hlj
   have HNK := hi_ hnk
   have HK64 := hi_ hk64
   have HTK := hi_ htk
   have HCO := hi_ hco
   clear hlj hnk hk64 htk hco c2 hld
-- REGION6
   refine wp_region_noPanic ?_
   refine wp_region_held_drew (S := fun W => W.cell? ⟨w2.heap.size + 1, 2, none⟩ = some (.map (some w2.heap.size))) (by kernel_rfl) s5 (fun hHeld => ?_)
   refine tk_ 0 ⟨some 33, .move (.tmp 5), 86, "table.go:25", #[], none⟩ hHeld ?_
   simp only [Act.put, sA_, sB_, sC_]
   refine tk_ 1 ⟨some 34, .nilCheck (.tmp 33), 0, "table.go:25", #[⟨0, .data⟩], none⟩ hHeld ?_
   simp only [Act.put, sA_, sB_, sC_]
   refine tk_ 2 ⟨some 35, .fieldAddr 163 (.tmp 34) 2, 0, "table.go:25", #[⟨1, .data⟩], none⟩ hHeld ?_
   simp only [Act.put, sA_, sB_, sC_]
   refine tk_ 3 ⟨some 36, .load 161 (.tmp 35), 161, "table.go:25", #[⟨2, .data⟩], none⟩ hHeld ?_
   simp only [Act.put, sA_, sB_, sC_]
   refine tk_ 4 ⟨some 37, .move (.tmp 7), 3, "table.go:25", #[], none⟩ hHeld ?_
   simp only [Act.put, sA_, sB_, sC_]
   refine tk_ 5 ⟨some 38, .move (.tmp 8), 3, "table.go:25", #[], none⟩ hHeld ?_
   simp only [Act.put, sA_, sB_, sC_]
   refine wpAnyH_ready (rs := [6]) (by kernel_rfl) (by simp) ?_
   refine AllReadyH.cons (o := ⟨some 39, .call { callee := .value (.func 148), args := #[.tmp 38], argTypes := #[3] }, 165, "table.go:25", #[⟨5, .data⟩], none⟩) rfl (fun K' hK => ?_) AllReadyH.nil
   go_simp
   go_at_call 148; refine (ClNew_any z w5.drew).mono ?_; rintro e w6 ⟨rfl, hb6, hlt6, hc6⟩
   have I6 := hi_ (I5d.out.below hb6)
   have s6 := I6.out.c2
   have HB6 := hi_ hb6
   have HC6 := hi_ hc6
   clear hb6 hc6
   refine hK.out _ _ s6 (fun hHeld => ?_)
   clear hK K'
   try simp only [Act.put, sA_, sB_, sC_]
   refine wpAnyH_ready (rs := [7]) (by kernel_rfl) (by simp) ?_
   refine AllReadyH.cons (o := ⟨none, .mapUpdate 161 (.tmp 36) (.tmp 37) (.tmp 39), 0, "table.go:25", #[⟨3, .data⟩, ⟨4, .data⟩, ⟨6, .data⟩, ⟨6, .chain⟩, ⟨0, .phase⟩, ⟨1, .phase⟩, ⟨2, .phase⟩, ⟨3, .phase⟩, ⟨4, .phase⟩, ⟨5, .phase⟩, ⟨6, .phase⟩], none⟩) rfl (fun K' hK => ?_) AllReadyH.nil
   refine step_putZ (z := .pointer none) (m := w2.heap.size) (n := (cs.take j).length) (f := colAt (cs.take j) q) Tryz.underlying3 Tryz.underlying161 (by rfl) (.tmp 36) (.tmp 37) (.tmp 39) rfl I6.out.mp (by rw [HLJ.out]; omega) (i := (k : Int)) (by have := HK64.out; omega) (.pointer (some ⟨w5.heap.size, 0, none⟩)) rfl rfl rfl ?_
   intro w7 hm7 hg7
   obtain ⟨tag7, hI7, hT7⟩ := I5d.out.more (z := (min (max z 0) 64).toNat) HB6.out hlt6 HC6.out HNK.out HK64.out (by rw [colAt_none HNK.out]; rfl) hm7 hg7
   have s7 := hI7.c2
   rw [<- HTK.out] at hI7
   have I7 := hi_ (hI7.congr (co' := noCo cs) (fun a _ => HCO.out a))
   have F7 := hi_ ((HFr.out.trans (Fr.ofBelow _ (HB5.out.trans (((Below.refl _ _).drew.trans HB6.out).mono HB5.out.size)))).trans (Fr.grown hg7 (fun x hx => by injection hx with hx; exact .inl ⟨Nat.le_of_eq hx, by omega⟩)))
   have T7 := hi_ (show ∀ x, tag7 x ≠ 0 -> Two w2.heap.size (w2.heap.size + 2) w4.heap.size x from fun x hx => by rcases hT7 x hx with h1 | h1; exact HTw.out x h1; have := HB5.out.size; exact .inr (Nat.le_trans hss (Nat.le_trans this h1)))
   clear hm7 hg7 hI7 hT7
   refine hK.out _ _ s7 (fun hHeld => ?_)
   clear hK K'
   try simp only [Act.put]
   refine wpAnyH_done (by kernel_rfl) ?_ _
   refine NoPanic.normal ?_
   clear s5 s6 s7 hHeld
-- END6
   go_wp2
   go_roundw
   case rel => exact ⟨j + 1, _, _, hjn, by go_num, I7.out, F7.out, T7.out⟩
   case measure => simp [intOf]; omega
  ·obtain rfl : j = nc := by omega
   have e1 : cs.take j = cs := List.take_of_length_le (by rw [<- HNC.out]; exact Nat.le_refl _)
   rw [e1] at hI
   have HBr := hi_ (HBw.out.trans (hF.toBelow (fun x hx => by rcases hx with hx | hx <;> omega) (by omega)))
   have HIr := hi_ hI
   clear hI hF hTw e1
   go_wp2
   go_ret
   exact ⟨_, rfl, ⟨_, _, _, HIr.out⟩, HBr.out⟩
end
end Go.Proofs.YtaoinkjjmakhaaaGreatDoor
namespace Go.Proofs.YtaoinkjjmakhaaaGreatDoor
open Go.RowKit
set_option maxRecDepth 20000
theorem ClLoad_no (z r : Nat) (hz : z <= 64) (hr : r <= 1024) (A : Option Addr) (n c : Nat) (hn : n ≠ r * z) (w : World) :
  Calls Tryz.prog 103 #[.int .i64 z, .int .i64 r, .slice A n c] w fun e w' => e = .returned (.tuple #[.pointer none, .int .i64 11]) /\ Below w.heap.size w w' := by
 obtain ⟨pz, hpz⟩ : ∃ pz, pz = r * z := ⟨_, rfl⟩
 have hps : pz <= 65536 := by rw [hpz]; exact Nat.le_trans (Nat.mul_le_mul hr hz) (by decide)
 rw [<- hpz] at hn
 have hp : (r : Int) * (z : Int) = (pz : Int) := by rw [hpz]; push_cast; rfl
 have e1 : (Co.new (z : Int)).sz = z := by show (min (max (z : Int) 0) 64).toNat = z; omega
 have d1 : decide ((n : Int) = (pz : Int)) = false := decide_eq_false (by omega)
 have d2 : decide (n = pz) = false := decide_eq_false hn
 have d5 : ((n : Int) != (pz : Int)) = true := bne_iff_ne.2 (by omega)
 have d6 : decide ((r : Int) < 0) = false := decide_eq_false (by omega)
 have d7 : decide ((1024 : Int) < (r : Int)) = false := decide_eq_false (by omega)
 clear hpz
 go_enter Tryz.func103, Tryz.ntmps103
 go_wp2_with (first
  | (go_at_call 148; refine (ClNew_any (z : Int) w).mono ?_; rintro e w1 ⟨rfl, hB1, hlt1, hC1⟩; have c0 := hC1.c0; rw [e1] at c0; have HB1 := hi_ hB1; clear hB1 hC1))
 go_ret2
 exact ⟨rfl, HB1.out⟩
theorem colAt_swap {cs : List (Int × Nat)} {q : Nat -> Nat} {b j : Nat} (nd : (cs.map (·.1)).Nodup) (hj : j < cs.length) (i : Int) :
  (if i = (cs.getD j (0, 0)).1 then some (Value.pointer (some ⟨b, 0, none⟩)) else colAt cs q i) = colAt cs (fun a => if a = j then b else q a) i := by
 by_cases hi : i = (cs.getD j (0, 0)).1
 ·subst hi
  rw [if_pos rfl, colAt_at nd hj, if_pos rfl]
 ·rw [if_neg hi]
  unfold colAt
  cases hf : cs.findIdx? fun c => decide (c.1 = i) with
  | none => rfl
  | some a =>
   have ha := Tb.at_lt (t := ⟨cs, []⟩) (comp := i) (k := a) hf
   have hne : a ≠ j := fun e => hi (by rw [<- ha.2, e])
   simp [hne]
section
variable {w w6 w7 : World} {N : Nat} {tag : Nat -> Nat} {p m : Nat} {v : Value} {q : Nat -> Nat} {sg : Nat} {cs : List (Int × Nat)} {l : List (Int × Int)} {co : Nat -> Co}
theorem TbI.swap (h : TbI w N tag p m v q sg cs l co) {j : Nat} (hj : j < cs.length) (hb : Below w.heap.size w w6) {s : Co} {b : Nat} {u : Value} (hc : ClAt w6 (fun x => w.heap.size <= x /\ x < w6.heap.size) b u s) {nm : Nat} (hnm : nm = cs.length)
  (hm : MapZ Tryz.prog 3 (.pointer none) w7 m nm (fun i => if i = (cs.getD j (0, 0)).1 then some (.pointer (some ⟨b, 0, none⟩)) else colAt cs q i)) (hg : w6.grownBy w7 (some m)) :
  ∃ tag', TbI w7 N tag' p m v (fun a => if a = j then b else q a) sg cs l (fun a => if a = j then s else co a) /\ (∀ x, tag' x ≠ 0 -> tag x ≠ 0 \/ w.heap.size <= x) := by
 have h6 := h.below hb
 have hF : Fr (· = m) w6 w7 := Fr.grown hg (fun x hx => by injection hx with hx; exact hx.symm)
 have hs7 := hF.size
 have hN := h.Nle
 have kp : ∀ x, tag x ≠ 0 -> (if x < w.heap.size then tag x else if x < w6.heap.size then j + 4 else 0) = tag x := fun x hx => if_pos (h.dom x hx)
 have hmlt := h.mp.lt
 refine ⟨fun x => if x < w.heap.size then tag x else if x < w6.heap.size then j + 4 else 0, ⟨h6.blk.fr hF (fun e => by have := h.tp; rw [show p = m from e, h.tm] at this; omega), own_fr h6.ids hF (fun x hx e => by have := h.ti x hx; rw [show x = m from e, h.tm] at this; omega), ?_, fun i hi => ?_, ?_, ?_, fun x hx => ?_, fun x hx => ?_, fun x hx => ?_, h.cz, h.nd⟩, fun x hx => ?_⟩
 ·rw [<- hnm]
  exact hm.congr fun i => colAt_swap h.nd hj i
 ·by_cases hij : i = j
  ·subst hij
   simp only [if_true]
   refine ⟨u, (hc.kept hF (fun x hx e => by have e1 : x = m := e; omega)).mono fun x hx => ?_⟩
   show (if x < w.heap.size then tag x else if x < w6.heap.size then i + 4 else 0) = i + 4
   rw [if_neg (by omega), if_pos hx.2]
  ·simp only [if_neg hij]
   obtain ⟨u', hu'⟩ := h6.col i hi
   refine ⟨u', (hu'.kept hF (fun x hx e => by have e' : x = m := e; rw [e', h.tm] at hx; omega)).mono fun x hx => ?_⟩
   show (if x < w.heap.size then tag x else if x < w6.heap.size then j + 4 else 0) = i + 4
   rw [kp x (by rw [hx]; omega), hx]
 ·show (if p < w.heap.size then tag p else _) = 1
  rw [if_pos h.blk.lt, h.tp]
 ·show (if m < w.heap.size then tag m else _) = 2
  rw [if_pos hmlt, h.tm]
 ·show (if x < w.heap.size then tag x else _) = 3
  rw [if_pos (h.dom x (by rw [h.ti x hx]; decide)), h.ti x hx]
 ·have hx' : (if x < w.heap.size then tag x else if x < w6.heap.size then j + 4 else 0) ≠ 0 := hx
  have := hb.size
  split at hx'
  ·omega
  ·split at hx'
   ·omega
   ·exact absurd rfl hx'
 ·have hx' : (if x < w.heap.size then tag x else if x < w6.heap.size then j + 4 else 0) ≠ 0 := hx
  split at hx'
  ·exact h.lo x hx'
  ·omega
 ·have hx' : (if x < w.heap.size then tag x else if x < w6.heap.size then j + 4 else 0) ≠ 0 := hx
  split at hx'
  ·exact .inl hx'
  ·exact .inr (by omega)
end
section
variable (lg pg en gn : Int) (A : Option Addr) (n cap : Nat) (ks : List Kd) (w : World)
theorem TLoad_no (h : KRd w A n ks) (hn : n <= 1000000) (s : Nat) (hs : s < 18446744073709551616) (hT : TabAt w) (IA : Option Addr) (m ic : Nat) (CA : Option Addr) (cn cx : Nat) (hm : m <= 1000000) (hc : cn <= 1000000)
  (hbad : ¬ (s &&& ofL (idxs n) 64 = s /\ cn = (Tb.new n (zsK ks) s).cs.length /\ m <= 1024)) :
  Calls Tryz.prog 48 #[cv lg pg en gn A n cap, .int .u64 (s : Nat), .slice IA m ic, .slice CA cn cx] w fun e w' => e = .returned (.tuple #[.pointer none, .int .i64 11]) /\ Below w.heap.size w w' := by
 obtain ⟨w1, hw1⟩ : ∃ w1, w1 = w.alloc (.cells (cc lg pg en gn A n cap) 24) := ⟨_, rfl⟩
 have hb1 : Below w.heap.size w w1 := by rw [hw1]; exact (Below.refl _ _).alloc (Nat.le_refl _) _
 have HR1 := hi_ (show Rec 24 w1 w.heap.size (cc lg pg en gn A n cap) by rw [hw1]; exact Rec.new _ _ _)
 have CN := TNew_any lg pg en gn A n cap ks w1 (h.below hb1) hn s hs (hT.below hb1)
 obtain ⟨sg, hsg⟩ : ∃ sg, sg = s &&& ofL (idxs n) 64 := ⟨_, rfl⟩
 obtain ⟨cs, hcs⟩ : ∃ cs, cs = (Tb.new n (zsK ks) s).cs := ⟨_, rfl⟩
 rw [<- hsg, <- hcs] at CN hbad
 have CN := hi_ CN
 have HB1 := hi_ hb1
 clear h hT hb1 hsg hcs hs
 by_cases h1 : sg = s
 ·subst h1
  by_cases h2 : cn = cs.length
  ·subst h2
   have h3 : ¬ m <= 1024 := fun h => hbad ⟨rfl, rfl, h⟩
   have d3 : decide ((1024 : Int) < (m : Int)) = true := decide_eq_true (by omega)
   have d4 : decide (1024 < m) = true := decide_eq_true (by omega)
   obtain ⟨nc, hnc⟩ : ∃ nc, nc = cs.length := ⟨_, rfl⟩
   rw [<- hnc] at hc ⊢
   have HNC := hi_ hnc
   clear hbad hnc
   go_enter Tryz.func48, Tryz.ntmps48
   go_wp2_with (first
    | (rw [<- hw1]; clear hw1)
    | (with_reducible refine wpList_ldS confT rfl rfl (.tmp 4) rfl rfl HR1.out ?_)
    | (go_at_call 102; refine CN.out.mono ?_; rintro e w2 ⟨p, mm, q, tag, rfl, hI, hb2⟩; have c0 := hI.c0; have c2 := hI.c2; have CL := hI.clen 3; rw [<- HNC.out] at CL; have HB2 := hi_ hb2; clear hI hb2))
   go_ret2
   exact ⟨rfl, HB1.out.trans (HB2.out.mono HB1.out.size)⟩
  ·obtain ⟨nc, hnc⟩ : ∃ nc, nc = cs.length := ⟨_, rfl⟩
   rw [<- hnc] at h2
   have HNC := hi_ hnc
   have d3 : decide ((cn : Int) = (nc : Int)) = false := decide_eq_false (by omega)
   have d4 : decide (cn = nc) = false := decide_eq_false h2
   clear hbad hnc
   go_enter Tryz.func48, Tryz.ntmps48
   go_wp2_with (first
    | (rw [<- hw1]; clear hw1)
    | (with_reducible refine wpList_ldS confT rfl rfl (.tmp 4) rfl rfl HR1.out ?_)
    | (go_at_call 102; refine CN.out.mono ?_; rintro e w2 ⟨p, mm, q, tag, rfl, hI, hb2⟩; have c0 := hI.c0; have c2 := hI.c2; have CL := hI.clen 3; rw [<- HNC.out] at CL; have HB2 := hi_ hb2; clear hI hb2))
   go_ret2
   exact ⟨rfl, HB1.out.trans (HB2.out.mono HB1.out.size)⟩
 ·have d3 : decide ((sg : Int) = (s : Int)) = false := decide_eq_false (by omega)
  have d4 : decide (sg = s) = false := decide_eq_false h1
  clear hbad
  go_enter Tryz.func48, Tryz.ntmps48
  go_wp2_with (first
   | (rw [<- hw1]; clear hw1)
   | (with_reducible refine wpList_ldS confT rfl rfl (.tmp 4) rfl rfl HR1.out ?_)
   | (go_at_call 102; refine CN.out.mono ?_; rintro e w2 ⟨p, mm, q, tag, rfl, hI, hb2⟩; have c0 := hI.c0; have HB2 := hi_ hb2; clear hI hb2))
  go_ret2
  exact ⟨rfl, HB1.out.trans (HB2.out.mono HB1.out.size)⟩
end
end Go.Proofs.YtaoinkjjmakhaaaGreatDoor
