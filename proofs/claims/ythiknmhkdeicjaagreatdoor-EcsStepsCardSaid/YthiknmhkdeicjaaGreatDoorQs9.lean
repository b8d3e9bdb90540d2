/- TbP7, TbZ, CmAl, CmS, TbP8, TbP9, TbPA, TbPB, TbD, TbE, TbF -/
import Derived.Test.YthiknmhkdeicjaaGreatDoorQs1
import Derived.Test.YthiknmhkdeicjaaGreatDoorQs3
import Derived.Test.YthiknmhkdeicjaaGreatDoorQs4
import Derived.Test.YthiknmhkdeicjaaGreatDoorQs5
import Derived.Test.YthiknmhkdeicjaaGreatDoorQs8
import Derived.Deep.MidRow
import Derived.Deep.RegionHeld3
namespace Go.Proofs.YthiknmhkdeicjaaGreatDoor
open Go.RowKit
set_option maxRecDepth 20000
theorem idTT : RT Tryz.prog 39 2 := ⟨⟨_, Tryz.underlying39, rfl⟩, by kernel_rfl⟩
theorem idc_set (l : List (Int × Int)) {k : Nat} (hk : k < l.length) (x : Int × Int) : ((idc l).set (k * 2) (.int .i64 x.1)).set (k * 2 + 1) (.int .i64 x.2) = idc (l.set k x) := by
 have h1 : ∀ r ∈ l.map (fun x : Int × Int => [Value.int .i64 x.1, .int .i64 x.2]), r.length = 2 := fun r hr => by obtain ⟨x, _, rfl⟩ := List.mem_map.1 hr; rfl
 have hg : (l.map (fun x : Int × Int => [Value.int .i64 x.1, .int .i64 x.2]))[k]? = some [Value.int .i64 l[k].1, .int .i64 l[k].2] := by rw [List.getElem?_map, List.getElem?_eq_getElem hk]; rfl
 unfold idc
 have e1 := flatg_set h1 hg (i := 0) (by decide) (.int .i64 x.1)
 rw [Nat.add_zero] at e1
 rw [e1]
 have h2 : ∀ r ∈ (l.map (fun x : Int × Int => [Value.int .i64 x.1, .int .i64 x.2])).set k ([Value.int .i64 l[k].1, .int .i64 l[k].2].set 0 (.int .i64 x.1)), r.length = 2 := fun r hr => by
  rcases List.mem_or_eq_of_mem_set hr with h | h
  ·exact h1 r h
  ·rw [h]; rfl
 have hg2 : ((l.map (fun x : Int × Int => [Value.int .i64 x.1, .int .i64 x.2])).set k ([Value.int .i64 l[k].1, .int .i64 l[k].2].set 0 (.int .i64 x.1)))[k]? = some ([Value.int .i64 l[k].1, .int .i64 l[k].2].set 0 (.int .i64 x.1)) := List.getElem?_set_self (by simpa using hk)
 rw [flatg_set h2 hg2 (i := 1) (by decide), List.set_set, List.map_set]
 rfl
theorem idc_take (l : List (Int × Int)) (k : Nat) : (idc l).take (k * 2) = idc (l.take k) := by
 unfold idc
 rw [flatg_take (fun r hr => by obtain ⟨x, _, rfl⟩ := List.mem_map.1 hr; rfl), List.map_take]
theorem TGo.more {own' : Nat -> Prop} {w w1 w2 : World} {tag tag1 : Nat -> Nat} (h : TGo w tag w1 tag1) (k : Fr own' w1 w2) (ho : ∀ x, own' x -> tag1 x ≠ 0 \/ w.heap.size <= x) : TGo w tag w2 tag1 :=
 ⟨h.fr.trans' k (fun x hx => by
  rcases ho x hx with h1 | h1
  ·exact h.own x h1
  ·exact .inr h1), h.own⟩
section
variable {w : World} {N : Nat} {tag : Nat -> Nat} {p m : Nat} {v : Value} {q : Nat -> Nat} {sg : Nat} {cs : List (Int × Nat)} {l : List (Int × Int)} {co : Nat -> Co}
theorem TDrop_no (h : TbI w N tag p m v q sg cs l co) (i : Int) (hi : ¬ (0 <= i /\ i < l.length)) : Calls Tryz.prog 141 #[.pointer (some ⟨p, 0, none⟩), .int .i64 i] w fun e w' => e = .returned (.tuple #[.agg #[.int .i64 0, .int .i64 0], .bool false, .int .i64 2]) /\ Below w.heap.size w w' := by
 obtain ⟨w1, hw1⟩ : ∃ w1, w1 = w.alloc (.cells #[.int .i64 0, .int .i64 0] 39) := ⟨_, rfl⟩
 have hb1 : Below w.heap.size w w1 := by rw [hw1]; exact (Below.refl _ _).alloc (Nat.le_refl _) _
 have HR1 := hi_ (show Rec 39 w1 w.heap.size #[.int .i64 0, .int .i64 0] by rw [hw1]; exact Rec.new _ _ _)
 have CF := hi_ (tcheck_no (h.below hb1) i hi)
 clear h hi
 go_enter Tryz.func141, Tryz.ntmps141
 go_wp2_with (first
  | (rw [<- hw1]; clear hw1)
  | (go_at_call 103; refine CF.out.mono ?_; rintro e w' ⟨rfl, rfl⟩)
  | (with_reducible refine wpList_stS (cs' := #[.int .i64 0, .int .i64 0]) idTT rfl rfl (by simp [Value.oneCell']) rfl (.tmp 4) (.tmp 16) rfl rfl rfl HR1.out ?_; intro w2 hR2 hF2))
 refine bodyPost_ret (res_cTT rfl rfl (hR2.load idTT rfl)) rfl ?_
 exact ⟨rfl, hb1.trans (hF2.toBelow (fun x hx => Nat.le_of_eq (show x = _ from hx).symm) hb1.size)⟩
set_option maxHeartbeats 1000000 in
theorem TDrop_ok (h : TbI w N tag p m v q sg cs l co) (hz : listZ sg = cs.map (·.1)) (hg : sg < 18446744073709551616) (hT : TabAt w) (hcn : cs.length <= 64) (hrw : ∀ j, j < cs.length -> (co j).rows.length = l.length) (i : Nat) (hi : i < l.length) (hll : l.length <= 1024) :
  Calls Tryz.prog 141 #[.pointer (some ⟨p, 0, none⟩), .int .i64 i] w fun e w' =>
   e = .returned (if i = l.length - 1 then .tuple #[.agg #[.int .i64 0, .int .i64 0], .bool false, .int .i64 0] else .tuple #[.agg #[.int .i64 (l.getD (l.length - 1) (0, 0)).1, .int .i64 (l.getD (l.length - 1) (0, 0)).2], .bool true, .int .i64 0]) /\
   ∃ tag' v', TbI w' N tag' p m v' q sg cs ((l.set i (l.getD (l.length - 1) (0, 0))).take (l.length - 1)) (fun a => (co a).drop i) /\ TGo w tag w' tag' := by
 obtain ⟨last, hlast⟩ : ∃ last, last = l.length - 1 := ⟨_, rfl⟩
 obtain ⟨mi, mg, hmv⟩ : ∃ mi mg, l.getD (l.length - 1) (0, 0) = (mi, mg) := ⟨_, _, rfl⟩
 have hge : l[last]? = some (mi, mg) := by rw [hlast, List.getElem?_eq_getElem (by omega), <- hmv]; simp [List.getD, List.getElem?_eq_getElem (show l.length - 1 < l.length by omega)]
 rw [hmv, <- hlast]
 have HGE := hi_ hge
 have HLA := hi_ hlast
 clear hge hmv hlast
 obtain ⟨w1, hw1⟩ : ∃ w1, w1 = w.alloc (.cells #[.int .i64 0, .int .i64 0] 39) := ⟨_, rfl⟩
 have hb1 : Below w.heap.size w w1 := by rw [hw1]; exact (Below.refl _ _).alloc (Nat.le_refl _) _
 have HR1 := hi_ (show Rec 39 w1 w.heap.size #[.int .i64 0, .int .i64 0] by rw [hw1]; exact Rec.new _ _ _)
 have h1 := h.below hb1
 have CF := hi_ (tcheck_ok h1 (i : Int) ⟨by omega, by omega⟩)
 have c0 := h1.c0
 obtain ⟨nc, hnc⟩ : ∃ nc, nc = cs.length := ⟨_, rfl⟩
 have HNC := hi_ hnc
 have CLT := hi_ (tlist_any hz hg (hT.below hb1))
 have H1 := hi_ h1
 have HB1 := hi_ hb1
 have HDm := hi_ h.dom
 clear h h1 hT hb1 hnc
 go_enter Tryz.func141, Tryz.ntmps141
 go_wp2_with (first
  | (rw [<- hw1]; clear hw1)
  | (go_at_call 103; refine CF.out.mono ?_; rintro e w' ⟨rfl, rfl⟩)
  | (go_at_call 104; refine CLT.out.mono ?_; rintro e w2 ⟨LA, lc, rfl, hI, hb2⟩; rw [<- HNC.out] at hI ⊢; have HI := hi_ hI; have HB2 := hi_ hb2; clear hI hb2 c0))
 have H2 := hi_ (H1.out.below HB2.out)
 have HR2 := hi_ (HR1.out.under HB2.out)
 have HI2 := hi_ (HI.out.mono (K' := fun x => tag x = 0 /\ x < w2.heap.size) (fun x hx => by
  rcases Nat.eq_zero_or_pos (tag x) with h0 | h0
  ·exact ⟨h0, hx.2⟩
  ·have := HDm.out x (by omega); have := HB1.out.size; omega))
 have htag : tag w.heap.size = 0 := by
  rcases Nat.eq_zero_or_pos (tag w.heap.size) with h0 | h0
  ·exact h0
  ·have := HDm.out _ (show tag w.heap.size ≠ 0 by omega); omega
 have HB0 := hi_ (HB1.out.trans (HB2.out.mono HB1.out.size))
 have hlt2 := HR2.out.lt
 clear H1 HR1 HI CF CLT HB1 HB2
 go_loopw [24] (fun iv wr => ∃ (j : Nat) (tag' : Nat -> Nat), j <= nc /\ iv = .int .i64 j /\ TbI wr N tag' p m v q sg cs l (fun a => if a < j then (co a).drop i else co a) /\ TGo w2 tag wr tag') (fun iv _ => nc - (intOf iv).toNat)
 case atStart => exact ⟨0, tag, Nat.zero_le _, rfl, H2.out.congr (fun a _ => by rw [if_neg (Nat.not_lt_zero a)]), TGo.refl _ _⟩
 case round =>
  obtain ⟨j, tag', hj, rfl, hI, hG⟩ := hrel
  have st : WStays (fun x => tag x = 0 /\ x < w2.heap.size) w2 wr := ⟨hG.fr.size, fun x hx => hG.fr.block x hx.2 (fun h2 => h2 hx.1)⟩
  by_cases hjn : j < nc
  ·have hjc : j < cs.length := by rw [<- HNC.out]; exact hjn
   obtain ⟨b, o, hLA, hblt, kk⟩ := (HI2.out.stays st).cell (get_fst hjc)
   subst hLA
   have c2 := hI.c2
   have LK := hI.look hjc
   obtain ⟨cu, hcu⟩ := hI.col j hjc
   simp only [if_neg (Nat.lt_irrefl j)] at hcu
   have CD := hi_ (Drop_ok (hI.cdom j) hcu i (by rw [hrw j hjc]; exact hi))
   obtain ⟨k, hkk⟩ : ∃ k, k = (cs.getD j (0, 0)).1 := ⟨_, rfl⟩
   rw [<- hkk] at kk LK
   have HIr := hi_ hI
   have HG := hi_ hG
   clear hI hG st hcu hkk
   go_wp2_with (go_at_call 172; refine CD.out.mono ?_; rintro e w5 ⟨rfl, hg5⟩; obtain ⟨tag5, hI5, hG5⟩ := HIr.out.turn hjc hg5; have HI5 := hi_ hI5; have HG5 := hi_ (HG.out.trans hG5); clear hg5 hI5 hG5)
   go_roundw
   case rel =>
    refine ⟨j + 1, _, hjn, by go_num, HI5.out.congr (fun a _ => ?_), HG5.out⟩
    by_cases ha : a = j
    ·subst ha
     rw [if_pos rfl, if_pos (Nat.lt_succ_self _)]
    ·rw [if_neg ha]
     by_cases h2 : a < j
     ·rw [if_pos h2, if_pos (by omega)]
     ·rw [if_neg h2, if_neg (by omega)]
   case measure => simp [intOf]; omega
  ·obtain rfl : j = nc := by omega
   have hI' := hI.congr (co' := fun a => (co a).drop i) (fun a ha => by rw [if_pos (by rw [HNC.out]; exact ha)])
   have HRr := hi_ (HR2.out.fr hG.fr (fun e => e htag))
   have HTB := hi_ (show tag' w.heap.size = 0 by
    rcases Nat.eq_zero_or_pos (tag' w.heap.size) with h0 | h0
    ·exact h0
    ·rcases hG.own _ (show tag' w.heap.size ≠ 0 by omega) with h1 | h1
     ·exact absurd htag h1
     ·omega)
   have hids := hI'.ids
   rcases hids.2 with ⟨_, h0⟩ | ⟨ib, ic, cur, hv, _, hh, hnc, hc, hs, _⟩
   ·omega
   subst hv
   have c1 := hI'.c1
   obtain ⟨A', c', e', _, _, hIV⟩ := own_rowsL hids (idc_el l) rfl
   injection e' with e1 e2 e3
   subst e1
   clear e2 e3
   obtain ⟨b', o', e', hblt, m0, m1⟩ := IdsV.cell hIV HGE.out
   injection e' with e'
   injection e' with e1 e2
   subst e1 e2
   simp only [Nat.zero_add] at m0 m1
   obtain ⟨n, hn⟩ : ∃ n, n = l.length := ⟨_, rfl⟩
   have hlast := HLA.out
   rw [<- hn] at c1 hi hll hnc hlast
   have el : (n : Int) - 1 = (last : Int) := by omega
   have hlt : (last : Int) < (n : Int) := by omega
   have hle : (0 : Int) <= (last : Int) := by omega
   have HI' := hi_ hI'
   have HG := hi_ hG
   have HN := hi_ hn
   have HIC := hi_ hnc
   have HHH := hi_ hh
   clear hI hI' hG st hids hIV hh hs hn hlast hnc
   go_wp2_with (first
    | (with_reducible refine wpList_stS (cs' := #[.int .i64 mi, .int .i64 mg]) idTT rfl rfl (by simp [Value.oneCell']) rfl (.tmp 4) (.tmp 49) rfl rfl rfl HRr.out ?_; intro w6 hR6 hF6; have HR6 := hi_ hR6; have HF6 := hi_ hF6; clear hR6 hF6))
   have hld : Below w6.heap.size w6 w6.drew := (Below.refl _ _).drew
   have i6 := (HI'.out.kept HF6.out (fun x hx e => by have e' : x = w.heap.size := e; rw [e', HTB.out] at hx; exact hx rfl)).below hld
   have r6 : Rec 39 w6.drew w.heap.size #[.int .i64 mi, .int .i64 mg] := HR6.out.under hld
   have g6 := (((TGo.ofBelow HB0.out).trans HG.out).more HF6.out (fun x hx => .inr (Nat.le_of_eq (show x = w.heap.size from hx).symm))).trans (TGo.ofBelow hld)
   have c1' := i6.c1
   have s6 : w6.drew.cell? ⟨p, 1, none⟩ = some (.slice (some ⟨ib, 0, none⟩) n ic) /\ w6.drew.cell? ⟨w.heap.size, 0, none⟩ = some (.int .i64 mi) /\ w6.drew.cell? ⟨w.heap.size, 1, none⟩ = some (.int .i64 mg) := ⟨by rw [c1', HN.out], r6.at_ 0, r6.at_ 1⟩
   have hi0 : (0 : Int) <= (i : Int) := by omega
   have hin : (i : Int) < (n : Int) := by omega
   have ids6 := i6.ids
   rw [<- HN.out] at ids6
   obtain ⟨w7, hw7⟩ : ∃ w7, w7 = w6.drew.setCells ib (i * 2) [.int .i64 mi, .int .i64 mg] := ⟨_, rfl⟩
   have ids7 : w7.ownsRow 0 39 2 (.slice (some ⟨ib, 0, none⟩) n ic) n (idc (l.set i (mi, mg))) := by
    rw [hw7, <- idc_set l (by rw [<- HN.out]; exact hi) (mi, mg)]
    exact own_setC (own_setC ids6 (i * 2) (.int .i64 mi)) (i * 2 + 1) (.int .i64 mg)
   have ht6 : w6.drew.there ib (i * 2) 2 := own_there ids6 (by omega)
   have f7 : Fr (fun x => (Value.slice (some ⟨ib, 0, none⟩) l.length ic).ownBlock = some x) w6.drew w7 := by rw [hw7]; exact Fr.setCells (fun x => (Value.slice (some ⟨ib, 0, none⟩) l.length ic).ownBlock = some x) ib rfl _ _ _
   have hb3 := i6.ti ib rfl
   have r7 : Rec 39 w7 w.heap.size #[.int .i64 mi, .int .i64 mg] := r6.fr f7 (fun e => by injection e with e; have e' : ib = w.heap.size := e; rw [e', HTB.out] at hb3; omega)
   have ids8 := own_lessS ids7 (m := last) (by omega)
   rw [idc_take] at ids8
   have hll8 : ((l.set i (mi, mg)).take last).length = last := by rw [List.length_take, List.length_set, <- HN.out]; omega
   obtain ⟨hR7, tag8, i8, g8⟩ := i6.newids (v' := .slice (some ⟨ib, 0, none⟩) last ic) (l' := (l.set i (mi, mg)).take last) f7 (by rw [hll8]; exact ids8) (fun x hx => .inl hx)
   have s7 : w7.cell? ⟨p, 1, none⟩ = some (.slice (some ⟨ib, 0, none⟩) n ic) /\ w7.cell? ⟨w.heap.size, 0, none⟩ = some (.int .i64 mi) /\ w7.cell? ⟨w.heap.size, 1, none⟩ = some (.int .i64 mg) := ⟨by have := hR7.at_ 1; rw [HN.out]; exact this, r7.at_ 0, r7.at_ 1⟩
   have k7 := s7.1
   have z7 := hR7.fz 1
   obtain ⟨w8, hw8⟩ : ∃ w8, w8 = w7.setCell ⟨p, 1, none⟩ (.slice (some ⟨ib, 0, none⟩) last ic) := ⟨_, rfl⟩
   rw [<- hw8] at i8 g8
   have htp := i6.tp
   have r8 : Rec 39 w8 w.heap.size #[.int .i64 mi, .int .i64 mg] := by
    rw [hw8]
    exact r7.fr (Fr.setCell (own := (· = p)) w7 (p := ⟨p, 1, none⟩) rfl _) (fun e => by have e' : w.heap.size = p := e; rw [<- e', HTB.out] at htp; omega)
   have ht8 : tag8 w.heap.size = 0 := by
    rcases Nat.eq_zero_or_pos (tag8 w.heap.size) with h0 | h0
    ·exact h0
    ·rcases g8.own _ (show tag8 w.heap.size ≠ 0 by omega) with h1 | h1
     ·exact absurd HTB.out h1
     ·have := r6.lt; omega
   have I8 := hi_ i8
   have G8 := hi_ (g6.trans g8)
   have R8 := hi_ r8
   have END : ∀ w9, Fr (· = w.heap.size) w8 w9 -> ∃ tag' v', TbI w9 N tag' p m v' q sg cs ((l.set i (mi, mg)).take last) (fun a => (co a).drop i) /\ TGo w tag w9 tag' := fun w9 hF =>
    ⟨tag8, _, I8.out.kept hF (fun x hx e => by have e' : x = w.heap.size := e; rw [e', ht8] at hx; exact hx rfl), G8.out.more hF (fun x hx => .inr (Nat.le_of_eq (show x = w.heap.size from hx).symm))⟩
   have END := hi_ END
   have HT6 := hi_ ht6
   have S6 := hi_ s6
   have S7 := hi_ s7
   have HW7 := hi_ hw7
   have HW8 := hi_ hw8
   have hl8 : (last : Int) <= (ic : Int) := by have := HIC.out; omega
   have hn8 : (n : Int) <= (ic : Int) := by have := HIC.out; omega
   clear hld i6 r6 g6 c1' ids6 ids7 ht6 f7 hb3 r7 ids8 hll8 hR7 i8 g8 htp r8 ht8 s7 hw7 hw8 c1 m0 m1
-- REGION11
   refine wp_region_noPanic ?_
   refine wp_region_held_drew (S := fun W => W.cell? ⟨p, 1, none⟩ = some (.slice (some ⟨ib, 0, none⟩) n ic) /\ W.cell? ⟨w.heap.size, 0, none⟩ = some (.int .i64 mi) /\ W.cell? ⟨w.heap.size, 1, none⟩ = some (.int .i64 mg)) (by kernel_rfl) s6 (fun hHeld => ?_)
   refine wpAnyH_take (i := 0) (oi := ⟨some 50, .move (.tmp 0), 106, "table.go:131", #[], none⟩) (v := ?_) rfl (by kernel_rfl) (by kernel_rfl) (by kernel_rfl) (fun _ _ _ h => h) (Or.inl ⟨by rfl, ?_⟩) (by assumption) ?_
   rotate_left 1
   ·intro w' hSw; (try dsimp only at hSw); go_simp; (try with_reducible rfl)
   simp only [Act.put, sA_, sB_, sC_]
   refine wpAnyH_take (i := 1) (oi := ⟨some 51, .nilCheck (.tmp 50), 0, "table.go:131", #[⟨0, .data⟩], none⟩) (v := ?_) rfl (by kernel_rfl) (by kernel_rfl) (by kernel_rfl) (fun _ _ _ h => h) (Or.inl ⟨by rfl, ?_⟩) (by assumption) ?_
   rotate_left 1
   ·intro w' hSw; (try dsimp only at hSw); go_simp; (try with_reducible rfl)
   simp only [Act.put, sA_, sB_, sC_]
   refine wpAnyH_take (i := 2) (oi := ⟨some 52, .fieldAddr 183 (.tmp 51) 1, 0, "table.go:131", #[⟨1, .data⟩], none⟩) (v := ?_) rfl (by kernel_rfl) (by kernel_rfl) (by kernel_rfl) (fun _ _ _ h => h) (Or.inl ⟨by rfl, ?_⟩) (by assumption) ?_
   rotate_left 1
   ·intro w' hSw; (try dsimp only at hSw); go_simp; (try with_reducible rfl)
   simp only [Act.put, sA_, sB_, sC_]
   refine wpAnyH_take (i := 3) (oi := ⟨some 53, .load 52 (.tmp 52), 52, "table.go:131", #[⟨2, .data⟩], none⟩) (v := ?_) rfl (by kernel_rfl) (by kernel_rfl) (by kernel_rfl) (fun _ _ _ h => h) (Or.inl ⟨by rfl, ?_⟩) (by assumption) ?_
   rotate_left 1
   ·intro w' hSw; (try dsimp only at hSw); go_simp; (try with_reducible rfl)
   simp only [Act.put, sA_, sB_, sC_]
   refine wpAnyH_take (i := 4) (oi := ⟨some 54, .move (.tmp 1), 3, "table.go:131", #[], none⟩) (v := ?_) rfl (by kernel_rfl) (by kernel_rfl) (by kernel_rfl) (fun _ _ _ h => h) (Or.inl ⟨by rfl, ?_⟩) (by assumption) ?_
   rotate_left 1
   ·intro w' hSw; (try dsimp only at hSw); go_simp; (try with_reducible rfl)
   simp only [Act.put, sA_, sB_, sC_]
   refine wpAnyH_take (i := 5) (oi := ⟨some 55, .load 39 (.tmp 4), 39, "table.go:131", #[], none⟩) (v := ?_) rfl (by kernel_rfl) (by kernel_rfl) (by kernel_rfl) (fun _ _ _ h => h) (Or.inl ⟨by rfl, ?_⟩) (by assumption) ?_
   rotate_left 1
   ·intro w' hSw; (try dsimp only at hSw); go_simp; (try with_reducible rfl)
   simp only [Act.put, sA_, sB_, sC_]
   refine wpAnyH_take (i := 6) (oi := ⟨some 56, .indexAddr 52 (.tmp 53) (.tmp 54), 0, "table.go:131", #[⟨3, .data⟩, ⟨4, .data⟩, ⟨0, .phase⟩, ⟨1, .phase⟩, ⟨2, .phase⟩, ⟨3, .phase⟩, ⟨4, .phase⟩, ⟨5, .phase⟩], none⟩) (v := ?_) rfl (by kernel_rfl) (by kernel_rfl) (by kernel_rfl) (fun _ _ _ h => h) (Or.inl ⟨by rfl, ?_⟩) (by assumption) ?_
   rotate_left 1
   ·intro w' hSw; (try dsimp only at hSw); go_simp; (try with_reducible rfl)
   simp only [Act.put, sA_, sB_, sC_]
   refine wpAnyH_ready (rs := [7]) (by kernel_rfl) (by simp) ?_
   refine AllReadyH.cons (o := ⟨none, .store 39 (.tmp 56) (.tmp 55), 0, "table.go:131", #[⟨6, .data⟩, ⟨5, .data⟩, ⟨0, .phase⟩, ⟨1, .phase⟩, ⟨2, .phase⟩, ⟨3, .phase⟩, ⟨4, .phase⟩, ⟨5, .phase⟩], none⟩) rfl (fun K' hK => ?_) AllReadyH.nil
   refine step_stMid 39 rfl (.tmp 56) (.tmp 55) rfl ib (i * 2) #[.int .i64 mi, .int .i64 mg] rfl rfl HT6.out (by kernel_rfl) (by simp [Value.oneCell']) ?_
   rw [show w6.drew.setCells ib (i * 2) (#[Value.int .i64 mi, Value.int .i64 mg] : Array Value).toList = w7 from HW7.out.symm]
   refine hK.out _ _ S7.out (fun hHeld => ?_)
   clear hK K'
   try simp only [Act.put]
   refine wpAnyH_done (by kernel_rfl) ?_ _
   refine NoPanic.normal ?_
   clear s6 hHeld
   by_cases hil : i = last
   ·subst hil
    go_wp2_with (first
     | (rw [<- HW8.out]; clear k7 z7)
     | (with_reducible refine wpList_stS (cs' := #[.int .i64 0, .int .i64 0]) idTT rfl rfl (by simp [Value.oneCell']) rfl (.tmp 4) (.tmp 69) rfl rfl rfl R8.out ?_; intro w9 hR9 hF9))
    refine bodyPost_ret (res_cTT rfl rfl (hR9.load idTT rfl)) rfl ?_
    obtain ⟨t9, v9, h9, g9⟩ := END.out w9 hF9
    exact ⟨rfl, t9, ⟨v9, h9⟩, g9⟩
   ·have d1 : decide ((i : Int) = (last : Int)) = false := decide_eq_false (by omega)
    have d2 : decide (i = last) = false := decide_eq_false hil
    go_wp2_with (first
     | (rw [<- HW8.out]; clear k7 z7)
     | (with_reducible refine wpList_ldS idTT rfl rfl (.tmp 4) rfl rfl R8.out ?_)
     | (with_reducible refine wpList_stS (cs' := #[.int .i64 mi, .int .i64 mg]) idTT rfl rfl (by simp [Value.oneCell']) rfl (.tmp 4) (.tmp 70) rfl rfl rfl R8.out ?_; intro w9 hR9 hF9))
    refine bodyPost_ret (res_cTT rfl rfl (hR9.load idTT rfl)) rfl ?_
    obtain ⟨t9, v9, h9, g9⟩ := END.out w9 hF9
    exact ⟨rfl, t9, ⟨v9, h9⟩, g9⟩
-- END11
end
end Go.Proofs.YthiknmhkdeicjaaGreatDoor
namespace Go.Proofs.YthiknmhkdeicjaaGreatDoor
def zsK (ks : List Kd) (k : Nat) : Int := (ks.getD k (.empty, 0)).2
theorem sizeK_at {ks : List Kd} {k : Nat} (h : k < ks.length) : sizeK ks (k : Int) = (zsK ks k, true) := by
 rw [sizeK_yes h (s := ks[k].1) (z := ks[k].2) rfl]
 unfold zsK
 rw [List.getD_eq_getElem?_getD, List.getElem?_eq_getElem h]
 rfl
end Go.Proofs.YthiknmhkdeicjaaGreatDoor
namespace Go.Proofs.YthiknmhkdeicjaaGreatDoor
open Go.RowKit
set_option linter.unusedVariables false
section
variable (lg pg en gn : Int) (A : Option Addr) (n cap : Nat) (ks : List Kd) (w : World)
def idxs (n : Nat) : List Int := (List.range n).map Int.ofNat
theorem idxs_succ (n : Nat) : idxs (n + 1) = idxs n ++ [(n : Int)] := by simp [idxs, List.range_succ]
theorem orL_more (l : List Int) (c : Int) : orL l ||| orL [c] = orL (l ++ [c]) := by
 rw [orL_snoc, orL_one]
 split
 ·rfl
 ·exact Nat.or_zero _
theorem All_any (h : KRd w A n ks) (hn : n <= 1000000) :
  Calls Tryz.prog 164 #[cv lg pg en gn A n cap] w fun e w' => e = .returned (.int .u64 (ofL (idxs n) 64 : Nat)) /\ Below w.heap.size w w' := by
 obtain ⟨w1, hw1⟩ : ∃ w1, w1 = w.alloc (.cells (cc lg pg en gn A n cap) 24) := ⟨_, rfl⟩
 have C1 := CAt.new h lg pg en gn cap
 rw [<- hw1] at C1
 obtain ⟨g, hg⟩ : ∃ g, g = w.heap.size := ⟨_, rfl⟩
 rw [<- hg] at C1
 have c4 := C1.c4
 have K1 := hi_ C1
 have HG := hi_ hg
 clear h hg C1
 go_enter Tryz.func164, Tryz.ntmps164
 go_wp2_with (rw [<- hw1, <- HG.out]; clear hw1)
 go_loopw [3, 8] (fun v i wr => ∃ j : Nat, j <= n /\ i = .int .i64 j /\ v = .int .u64 (orL (idxs j) : Nat) /\ Below w.heap.size w wr) (fun _ i _ => n - (intOf i).toNat)
 case atStart => exact ⟨0, Nat.zero_le _, rfl, rfl, K1.out.bel⟩
 case round =>
  obtain ⟨j, hj, rfl, rfl, hb⟩ := hrel
  by_cases hlt : j < n
  ·have HB := hi_ hb
   have hlo := orL_lt (idxs j)
   have hmo := orL_more (idxs j) j
   obtain ⟨s, hs⟩ : ∃ s, s = orL (idxs j) := ⟨_, rfl⟩
   rw [<- hs] at hlo hmo ⊢
   have cW := With_any s j wr hlo
   rw [hmo, <- idxs_succ] at cW
   have CW := hi_ cW
   clear hb hlo hmo hs cW
   go_wp2_with (go_at_call 139; refine CW.out.mono ?_; rintro e w2 ⟨rfl, hb2⟩; have HB2 := hi_ hb2; clear hb2)
   go_roundw
   case rel => exact ⟨j + 1, hlt, by go_num, rfl, HB.out.trans (HB2.out.mono HB.out.size)⟩
   case measure => simp [intOf]; omega
  ·obtain rfl : j = n := by omega
   rw [orL_eq]
   have HB := hi_ hb
   clear hb
   go_wp2
   go_ret
   exact ⟨rfl, HB.out⟩
end
end Go.Proofs.YthiknmhkdeicjaaGreatDoor
namespace Go.Proofs.YthiknmhkdeicjaaGreatDoor
open Go.RowKit
set_option linter.unusedVariables false
section
variable (lg pg en gn : Int) (A : Option Addr) (n cap : Nat) (ks : List Kd) (w : World)
theorem Size_any (h : KRd w A n ks) (hn : n <= 1000000) (k : Int) :
  Calls Tryz.prog 77 #[cv lg pg en gn A n cap, .int .i64 k] w fun e w' => e = .returned (.tuple #[.int .i64 (sizeK ks k).1, .bool (sizeK ks k).2]) /\ Below w.heap.size w w' := by
 obtain ⟨w1, hw1⟩ : ∃ w1, w1 = w.alloc (.cells (cc lg pg en gn A n cap) 24) := ⟨_, rfl⟩
 have C1 := CAt.new h lg pg en gn cap
 rw [<- hw1] at C1
 obtain ⟨g, hg⟩ : ∃ g, g = w.heap.size := ⟨_, rfl⟩
 rw [<- hg] at C1
 have c4 := C1.c4
 have hl := h.1
 have K1 := hi_ C1
 have HG := hi_ hg
 clear h hg C1
 by_cases hk0 : k < 0
 ·have e1 : sizeK ks k = (0, false) := sizeK_no (by omega)
  rw [e1]
  clear e1
  go_enter Tryz.func77, Tryz.ntmps77
  go_wp2_with (rw [<- hw1, <- HG.out]; clear hw1)
  go_ret2
  exact ⟨rfl, K1.out.bel⟩
 ·by_cases hk1 : k < n
  ·obtain ⟨j, rfl⟩ : ∃ j : Nat, k = (j : Int) := ⟨k.toNat, by omega⟩
   obtain ⟨b, o, s', z, rfl, _, k0, k1, hl', hk⟩ := K1.out.rd.at_ (show j < n by omega)
   rw [sizeK_yes hl' hk]
   clear hk
   go_enter Tryz.func77, Tryz.ntmps77
   go_wp2_with (rw [<- hw1, <- HG.out]; clear hw1)
   go_ret2
   exact ⟨rfl, K1.out.bel⟩
  ·have e1 : sizeK ks k = (0, false) := sizeK_no (by omega)
   rw [e1]
   clear e1
   go_enter Tryz.func77, Tryz.ntmps77
   go_wp2_with (rw [<- hw1, <- HG.out]; clear hw1)
   go_ret2
   exact ⟨rfl, K1.out.bel⟩
end
end Go.Proofs.YthiknmhkdeicjaaGreatDoor
namespace Go.Proofs.YthiknmhkdeicjaaGreatDoor
open Go.RowKit
set_option maxRecDepth 20000
def noCo (cs : List (Int × Nat)) (j : Nat) : Co := ⟨(cs.getD j (0, 0)).2, []⟩
theorem new_cs (n : Nat) (zs : Nat -> Int) (s : Nat) : listZ (s &&& ofL (idxs n) 64) = (Tb.new n zs s).cs.map (·.1) := by
 show (listN _).map Int.ofNat = (((listN s).filter _).map _).map _
 rw [List.map_map]
 have e : listN (s &&& ofL (idxs n) 64) = (listN s).filter fun (k : Nat) => decide (k < n) := by
  unfold listN
  rw [List.filter_filter]
  refine List.filter_congr fun k hk => ?_
  have hk := List.mem_range.1 hk
  rw [Nat.testBit_and, ofL_bit, Bool.and_comm]
  congr 1
  refine decide_eq_decide.2 ⟨fun h => ?_, fun h => ⟨hk, ?_⟩⟩
  ·obtain ⟨_, h⟩ := h
   unfold idxs at h
   obtain ⟨a, ha, e⟩ := List.mem_map.1 h
   have := List.mem_range.1 ha
   have e' : (a : Int) = (k : Int) := e
   omega
  ·unfold idxs
   exact List.mem_map.2 ⟨k, List.mem_range.2 h, rfl⟩
 rw [e]
 rfl
theorem and_lt64 (s t : Nat) (h : s < 18446744073709551616) : s &&& t < 18446744073709551616 := Nat.lt_of_le_of_lt Nat.and_le_left h
theorem colAt_snoc {cs : List (Int × Nat)} {q : Nat -> Nat} {b : Nat} {k : Int} {z : Nat} (hk : k ∉ cs.map (·.1)) (i : Int) :
  (if i = k then some (Value.pointer (some ⟨b, 0, none⟩)) else colAt cs q i) = colAt (cs ++ [(k, z)]) (fun a => if a = cs.length then b else q a) i := by
 unfold colAt
 rw [List.findIdx?_append]
 by_cases hi : i = k
 ·subst hi
  have h0 : (cs.findIdx? fun c => decide (c.1 = i)) = none := by
   rw [List.findIdx?_eq_none_iff]
   intro x hx
   exact decide_eq_false fun e => hk (List.mem_map.2 ⟨x, hx, e⟩)
  rw [h0]
  simp
 ·rw [if_neg hi]
  cases hf : cs.findIdx? fun c => decide (c.1 = i) with
  | none =>
   have : ¬ k = i := fun e => hi e.symm
   simp [this]
  | some j =>
   rw [List.findIdx?_eq_some_iff_getElem] at hf
   obtain ⟨hj, _⟩ := hf
   simp [Nat.ne_of_lt hj]
section
variable {w w6 w7 : World} {N : Nat} {tag : Nat -> Nat} {p m : Nat} {v : Value} {q : Nat -> Nat} {sg : Nat} {cs : List (Int × Nat)} {l : List (Int × Int)} {co : Nat -> Co}
theorem TbI.more (h : TbI w N tag p m v q sg cs l co) (hb : Below w.heap.size w w6) {s : Co} (hlt : w.heap.size < w6.heap.size) (hc : ClAt w6 (· = w.heap.size) w.heap.size nilv s) {k : Int} {z : Nat} (hk : k ∉ cs.map (·.1)) (hk0 : 0 <= k /\ k < 64) {nm : Nat} (hnm : nm = cs.length + 1)
  (hm : MapZ Tryz.prog 3 (.pointer none) w7 m nm (fun i => if i = k then some (.pointer (some ⟨w.heap.size, 0, none⟩)) else colAt cs q i)) (hg : w6.grownBy w7 (some m)) :
  ∃ tag', TbI w7 N tag' p m v (fun a => if a = cs.length then w.heap.size else q a) sg (cs ++ [(k, z)]) l (fun a => if a = cs.length then s else co a) /\ (∀ x, tag' x ≠ 0 -> tag x ≠ 0 \/ w.heap.size <= x) := by
 have h6 := h.below hb
 have hF : Fr (· = m) w6 w7 := Fr.grown hg (fun x hx => by injection hx with hx; exact hx.symm)
 have hN := h.Nle
 have tb : tag w.heap.size = 0 := by
  rcases Nat.eq_zero_or_pos (tag w.heap.size) with h0 | h0
  ·exact h0
  ·have := h.dom _ (show tag w.heap.size ≠ 0 by omega); omega
 have ne : ∀ x, tag x ≠ 0 -> x ≠ w.heap.size := fun x hx e => hx (e ▸ tb)
 have kp : ∀ x, tag x ≠ 0 -> (if x = w.heap.size then cs.length + 4 else tag x) = tag x := fun x hx => if_neg (ne x hx)
 have hmlt := h.mp.lt
 refine ⟨fun x => if x = w.heap.size then cs.length + 4 else tag x, ⟨h6.blk.fr hF (fun e => by have := h.tp; rw [show p = m from e, h.tm] at this; omega), own_fr h6.ids hF (fun x hx e => by have := h.ti x hx; rw [show x = m from e, h.tm] at this; omega), ?_, fun j hj => ?_, ?_, ?_, fun x hx => ?_, fun x hx => ?_, fun x hx => ?_, ?_, ?_⟩, fun x hx => ?_⟩
 ·rw [List.length_append, List.length_singleton, <- hnm]
  exact hm.congr fun i => colAt_snoc hk i
 ·by_cases hjl : j = cs.length
  ·subst hjl
   simp only [if_true]
   exact ⟨_, (hc.kept hF (fun x hx e => by have e1 : x = w.heap.size := hx; have e2 : x = m := e; omega)).mono fun x hx => by
    show (if x = w.heap.size then cs.length + 4 else tag x) = cs.length + 4
    rw [if_pos hx]⟩
  ·simp only [if_neg hjl]
   rw [List.length_append, List.length_singleton] at hj
   obtain ⟨u, hu⟩ := h6.col j (by omega)
   exact ⟨u, (hu.kept hF (fun x hx e => by have e' : x = m := e; rw [e', h.tm] at hx; omega)).mono fun x hx => by
    show (if x = w.heap.size then cs.length + 4 else tag x) = j + 4
    rw [kp x (by rw [hx]; omega), hx]⟩
 ·show (if p = w.heap.size then _ else tag p) = 1
  rw [kp p (by rw [h.tp]; decide), h.tp]
 ·show (if m = w.heap.size then _ else tag m) = 2
  rw [kp m (by rw [h.tm]; decide), h.tm]
 ·show (if x = w.heap.size then _ else tag x) = 3
  rw [kp x (by rw [h.ti x hx]; decide), h.ti x hx]
 ·have hx' : (if x = w.heap.size then cs.length + 4 else tag x) ≠ 0 := hx
  have := hF.size
  split at hx'
  ·omega
  ·exact Nat.lt_of_lt_of_le (h6.dom x hx') this
 ·have hx' : (if x = w.heap.size then cs.length + 4 else tag x) ≠ 0 := hx
  split at hx'
  ·omega
  ·exact h.lo x hx'
 ·intro x hx
  rcases List.mem_append.1 hx with hx | hx
  ·exact h.cz x hx
  ·rw [List.mem_singleton.1 hx]; exact hk0
 ·rw [List.map_append, List.nodup_append]
  refine ⟨h.nd, by simp, fun a ha b hb e => ?_⟩
  simp at hb
  exact hk (by rw [<- hb, <- e]; exact ha)
 ·have hx' : (if x = w.heap.size then cs.length + 4 else tag x) ≠ 0 := hx
  split at hx'
  ·exact .inr (by omega)
  ·exact .inl hx'
end
end Go.Proofs.YthiknmhkdeicjaaGreatDoor
namespace Go.Proofs.YthiknmhkdeicjaaGreatDoor
open Go.RowKit
set_option maxRecDepth 20000
theorem nodup_take {α : Type} {l : List α} (h : l.Nodup) {j : Nat} {x : α} (hx : l[j]? = some x) : x ∉ l.take j := fun hm => by
 obtain ⟨hj, e⟩ := List.getElem?_eq_some_iff.1 hx
 obtain ⟨i, hi, e'⟩ := List.getElem_of_mem hm
 rw [List.length_take] at hi
 rw [List.getElem_take] at e'
 exact List.pairwise_iff_getElem.1 h i j (by omega) hj (by omega) (by rw [e', e])
theorem colAt_none {cs : List (Int × Nat)} {q : Nat -> Nat} {k : Int} (hk : k ∉ cs.map (·.1)) : colAt cs q k = none := by
 unfold colAt
 have h0 : (cs.findIdx? fun c => decide (c.1 = k)) = none := by
  rw [List.findIdx?_eq_none_iff]
  intro x hx
  exact decide_eq_false fun e => hk (List.mem_map.2 ⟨x, hx, e⟩)
 rw [h0]
 rfl
theorem TbI.start {w : World} {N : Nat} (hN : N <= w.heap.size) (sg : Nat) (q : Nat -> Nat) (co : Nat -> Co) :
  TbI ((w.alloc (.map #[] 0)).alloc (.cells #[.int .u64 sg, nilv, .map (some w.heap.size)] 183)) N (fun x => if x = w.heap.size then 2 else if x = w.heap.size + 1 then 1 else 0) (w.heap.size + 1) w.heap.size nilv q sg [] [] co where
 blk := by
  have := Rec.new (w.alloc (.map #[] 0)) 183 #[.int .u64 sg, nilv, .map (some w.heap.size)]
  rw [World.size_alloc] at this
  exact this
 ids := World.ownsRow_nil _ _ _ _
 mp := ((MapZ.made Tryz.prog 3 (.pointer none) w).below ((Below.refl _ _).alloc (Nat.le_refl _) _)).congr fun i => rfl
 col := fun j hj => absurd hj (Nat.not_lt_zero j)
 tp := by simp
 tm := by simp
 ti := fun x hx => by cases hx
 dom := fun x hx => by
  simp at hx ⊢
  by_cases h1 : x = w.heap.size
  ·omega
  ·rw [if_neg h1] at hx
   by_cases h2 : x = w.heap.size + 1
   ·omega
   ·rw [if_neg h2] at hx; exact absurd rfl hx
 lo := fun x hx => by
  by_cases h1 : x = w.heap.size
  ·omega
  ·simp only [if_neg h1] at hx
   by_cases h2 : x = w.heap.size + 1
   ·omega
   ·rw [if_neg h2] at hx; exact absurd rfl hx
 cz := fun x hx => absurd hx List.not_mem_nil
 nd := List.nodup_nil
section
variable (lg pg en gn : Int) (A : Option Addr) (n cap : Nat) (ks : List Kd) (w : World)
theorem TNew_any (h : KRd w A n ks) (hn : n <= 1000000) (s : Nat) (hs : s < 18446744073709551616) (hT : TabAt w) :
  Calls Tryz.prog 122 #[cv lg pg en gn A n cap, .int .u64 (s : Nat)] w fun e w' => ∃ p m q tag, e = .returned (.pointer (some ⟨p, 0, none⟩)) /\ TbI w' w.heap.size tag p m nilv q (s &&& ofL (idxs n) 64) (Tb.new n (zsK ks) s).cs [] (noCo (Tb.new n (zsK ks) s).cs) /\ Below w.heap.size w w' := by
 have hnl := h.1
 have hnew := Tb.new_ok n (zsK ks) s
 have hcs := new_cs n (zsK ks) s
 obtain ⟨cs, hcse⟩ : ∃ cs, cs = (Tb.new n (zsK ks) s).cs := ⟨_, rfl⟩
 rw [<- hcse] at hcs ⊢
 have hcz : ∀ x ∈ cs, 0 <= x.1 /\ x.1 < 64 := by rw [hcse]; exact hnew.cz
 have hcn : cs.length <= 64 := by rw [hcse]; exact hnew.cn
 have hnd : (cs.map (·.1)).Nodup := by rw [hcse]; exact hnew.nd
 have hat : ∀ j, j < cs.length -> ∃ k : Nat, k < n /\ cs.getD j (0, 0) = ((k : Int), (min (max (zsK ks k) 0) 64).toNat) := fun j hj => by
  have hm : cs[j] ∈ (Tb.new n (zsK ks) s).cs := hcse ▸ List.getElem_mem hj
  obtain ⟨k, hk, e⟩ := List.mem_map.1 hm
  refine ⟨k, of_decide_eq_true (List.mem_filter.1 hk).2, ?_⟩
  rw [List.getD_eq_getElem?_getD, List.getElem?_eq_getElem hj]
  exact e.symm
 obtain ⟨sg, hsg⟩ : ∃ sg, sg = s &&& ofL (idxs n) 64 := ⟨_, rfl⟩
 have hsl : sg < 18446744073709551616 := by rw [hsg]; exact and_lt64 _ _ hs
 rw [<- hsg] at hcs ⊢
 have eand : bits BinOp.and IntKind.u64 (s : Int) ((ofL (idxs n) 64 : Nat) : Int) = (sg : Int) := by rw [hsg]; exact u64_and_nat s (ofL (idxs n) 64) hs (ofL_lt _ 64)
 obtain ⟨al, hal⟩ : ∃ al, al = ofL (idxs n) 64 := ⟨_, rfl⟩
 rw [<- hal] at eand
 obtain ⟨w1, hw1⟩ : ∃ w1, w1 = w.alloc (.cells (cc lg pg en gn A n cap) 24) := ⟨_, rfl⟩
 have hb1 : Below w.heap.size w w1 := by rw [hw1]; exact (Below.refl _ _).alloc (Nat.le_refl _) _
 have hR1 : Rec 24 w1 w.heap.size (cc lg pg en gn A n cap) := by rw [hw1]; exact Rec.new _ _ _
 have CAL := All_any lg pg en gn A n cap ks w1 (h.below hb1) hn
 rw [<- hal] at CAL
 obtain ⟨nc, hnc⟩ : ∃ nc, nc = cs.length := ⟨_, rfl⟩
 rw [<- hnc] at hcn
 have HNC := hi_ hnc
 have CAL := hi_ CAL
 have HB1 := hi_ hb1
 have HR1 := hi_ hR1
 have HT := hi_ hT
 have H := hi_ h
 have HCZ := hi_ hcz
 have HND := hi_ hnd
 have HAT := hi_ hat
 have HNL := hi_ hnl
 clear h hT hb1 hR1 hnc hnew hcse hcz hnd hat hsg hal hnl
 have hmm := @run_makeMap Tryz.prog
 go_enter Tryz.func122, Tryz.ntmps122
 go_wp2_with (first
  | (rw [<- hw1]; clear hw1)
  | (with_reducible refine wpList_ldS confT rfl rfl (.tmp 2) rfl rfl HR1.out ?_)
  | (go_at_call 164; refine CAL.out.mono ?_; rintro e w2 ⟨rfl, hb2⟩; have hlt2 := (HR1.out.under hb2).lt; have hst := TbI.start (HB1.out.trans (hb2.mono HB1.out.size)).size sg (fun _ => 0) (noCo cs); obtain ⟨w3, hw3⟩ : ∃ w3, w3 = (w2.alloc (.map #[] 0)).alloc (.cells #[.int .u64 sg, nilv, .map (some w2.heap.size)] 183) := ⟨_, rfl⟩; rw [<- hw3] at hst; have hb3 : Below w2.heap.size w2 w3 := (by rw [hw3]; exact ((Below.refl _ _).alloc (Nat.le_refl _) _).alloc (by simp) _); have k0 := hst.c0; have HB3 := hi_ ((HB1.out.trans (hb2.mono HB1.out.size)).trans (hb3.mono (HB1.out.trans (hb2.mono HB1.out.size)).size)); have HR3 := hi_ ((HR1.out.under hb2).under hb3); have HST := hi_ hst; have HW3 := hi_ hw3; have HB23 := hi_ (HB1.out.trans (hb2.mono HB1.out.size)); clear hb2 hst hb3 hw3)
  | (rw [<- HW3.out])
  | (go_at_call 104; refine (tlist_any hcs hsl (HT.out.below HB3.out)).mono ?_; rintro e w4 ⟨LA, lc, rfl, hI, hb4⟩; rw [<- HNC.out] at hI ⊢; have HI := hi_ hI; have HB4 := hi_ hb4; clear hI hb4 k0))
 have H4 := hi_ (HST.out.below HB4.out)
 have HR4 := hi_ (HR3.out.under HB4.out)
 have HBw := hi_ (HB3.out.trans (HB4.out.mono HB3.out.size))
 have hs23 := HB23.out.size
 have hs34 := HB4.out.size
 have hp3 : w2.heap.size + 1 < w3.heap.size := HST.out.blk.lt
 have HW := hi_ (show ∀ x, (fun x => if x = w2.heap.size then 2 else if x = w2.heap.size + 1 then 1 else 0) x ≠ 0 -> x = w2.heap.size \/ x = w2.heap.size + 1 from fun x hx => by
  by_cases h1 : x = w2.heap.size
  ·exact .inl h1
  ·simp only [if_neg h1] at hx
   by_cases h2 : x = w2.heap.size + 1
   ·exact .inr h2
   ·rw [if_neg h2] at hx; exact absurd rfl hx)
 clear HST HR1 HR3 HB1 HB3 CAL
 go_loopw [23] (fun iv wr => ∃ (j : Nat) (q tag : Nat -> Nat), j <= nc /\ iv = .int .i64 j /\ TbI wr w.heap.size tag (w2.heap.size + 1) w2.heap.size nilv q sg (cs.take j) [] (noCo cs) /\ Fr (Two w2.heap.size (w2.heap.size + 2) w4.heap.size) w4 wr /\ (∀ x, tag x ≠ 0 -> Two w2.heap.size (w2.heap.size + 2) w4.heap.size x)) (fun iv _ => nc - (intOf iv).toNat)
 case atStart => exact ⟨0, _, _, Nat.zero_le _, rfl, H4.out, Fr.refl _ _, fun x hx => .inl (by have := HW.out x hx; omega)⟩
 case round =>
  obtain ⟨j, q, tag, hj, rfl, hI, hF, hTw⟩ := hrel
  have hss := hF.size
  by_cases hjn : j < nc
  ·have hjc : j < cs.length := by rw [<- HNC.out]; exact hjn
   have hIj := HI.out.stays (w' := wr) ⟨hss, fun x hx => hF.block x hx.2 (fun h2 => by rcases h2 with h2 | h2 <;> omega)⟩
   obtain ⟨b, o, hLA, hblt, kk⟩ := hIj.cell (get_fst hjc)
   have HLA := hi_ hLA
   subst hLA
   obtain ⟨k, hkn, hkc⟩ := HAT.out j hjc
   have hBr : Below w.heap.size w wr := HBw.out.trans (hF.toBelow (fun x hx => by rcases hx with hx | hx <;> omega) (by omega))
   have hRr := HR4.out.fr hF (fun e => by rcases e with e | e <;> omega)
   have CSZ := Size_any lg pg en gn A n cap ks wr (H.out.below hBr) hn (k : Int)
   rw [sizeK_at (by rw [HNL.out]; exact hkn)] at CSZ
   obtain ⟨z, hz⟩ : ∃ z, z = zsK ks k := ⟨_, rfl⟩
   rw [<- hz] at CSZ hkc
   rw [hkc] at kk
   simp only at kk
   have HKC := hi_ hkc
   have HRr := hi_ hRr
   have CSZ := hi_ CSZ
   have HIr := hi_ hI
   have HFr := hi_ hF
   have HTw := hi_ hTw
   clear hI hF hTw hIj hBr hRr hkc hz
   go_wp2_with (first
    | (with_reducible refine wpList_ldS confT rfl rfl (.tmp 2) rfl rfl HRr.out ?_)
    | (go_at_call 77; refine CSZ.out.mono ?_; rintro e w5 ⟨rfl, hb5⟩; have I5 := hi_ (HIr.out.below hb5); have HB5 := hi_ hb5; have c2 := I5.out.c2; clear hb5))
   have hld : Below w5.heap.size w5 w5.drew := (Below.refl _ _).drew
   have I5d := hi_ (I5.out.below hld)
   have s5 : w5.drew.cell? ⟨w2.heap.size + 1, 2, none⟩ = some (.map (some w2.heap.size)) := I5d.out.c2
   have hlj : (cs.take j).length = j := by rw [List.length_take]; omega
   have hnk : (k : Int) ∉ (cs.take j).map (·.1) := by
    have hg := get_fst hjc
    rw [HKC.out] at hg
    have := nodup_take HND.out hg
    rwa [List.map_take]
   have hk64 : 0 <= (k : Int) /\ (k : Int) < 64 := by
    have := HCZ.out cs[j] (List.getElem_mem hjc)
    have e : cs.getD j (0, 0) = cs[j] := by simp [List.getD, List.getElem?_eq_getElem hjc]
    rw [<- e, HKC.out] at this
    exact this
   have htk : cs.take (j + 1) = cs.take j ++ [((k : Int), (min (max z 0) 64).toNat)] := by rw [getD_take hjc, HKC.out]
   have hco : ∀ a, (if a = (cs.take j).length then Co.new z else noCo cs a) = noCo cs a := fun a => by
    rw [hlj]
    by_cases ha : a = j
    ·subst ha
     rw [if_pos rfl]
     unfold noCo
     rw [HKC.out]
     rfl
    ·rw [if_neg ha]
   have HLJ := hi_ hlj
   have HNK := hi_ hnk
   have HK64 := hi_ hk64
   have HTK := hi_ htk
   have HCO := hi_ hco
   clear hlj hnk hk64 htk hco c2 hld
-- REGION6
   refine wp_region_noPanic ?_
   refine wp_region_held_drew (S := fun W => W.cell? ⟨w2.heap.size + 1, 2, none⟩ = some (.map (some w2.heap.size))) (by kernel_rfl) s5 (fun hHeld => ?_)
   refine wpAnyH_take (i := 0) (oi := ⟨some 33, .move (.tmp 5), 106, "table.go:25", #[], none⟩) (v := ?_) rfl (by kernel_rfl) (by kernel_rfl) (by kernel_rfl) (fun _ _ _ h => h) (Or.inl ⟨by rfl, ?_⟩) (by assumption) ?_
   rotate_left 1
   ·intro w' hSw; (try dsimp only at hSw); go_simp; (try with_reducible rfl)
   simp only [Act.put, sA_, sB_, sC_]
   refine wpAnyH_take (i := 1) (oi := ⟨some 34, .nilCheck (.tmp 33), 0, "table.go:25", #[⟨0, .data⟩], none⟩) (v := ?_) rfl (by kernel_rfl) (by kernel_rfl) (by kernel_rfl) (fun _ _ _ h => h) (Or.inl ⟨by rfl, ?_⟩) (by assumption) ?_
   rotate_left 1
   ·intro w' hSw; (try dsimp only at hSw); go_simp; (try with_reducible rfl)
   simp only [Act.put, sA_, sB_, sC_]
   refine wpAnyH_take (i := 2) (oi := ⟨some 35, .fieldAddr 183 (.tmp 34) 2, 0, "table.go:25", #[⟨1, .data⟩], none⟩) (v := ?_) rfl (by kernel_rfl) (by kernel_rfl) (by kernel_rfl) (fun _ _ _ h => h) (Or.inl ⟨by rfl, ?_⟩) (by assumption) ?_
   rotate_left 1
   ·intro w' hSw; (try dsimp only at hSw); go_simp; (try with_reducible rfl)
   simp only [Act.put, sA_, sB_, sC_]
   refine wpAnyH_take (i := 3) (oi := ⟨some 36, .load 181 (.tmp 35), 181, "table.go:25", #[⟨2, .data⟩], none⟩) (v := ?_) rfl (by kernel_rfl) (by kernel_rfl) (by kernel_rfl) (fun _ _ _ h => h) (Or.inl ⟨by rfl, ?_⟩) (by assumption) ?_
   rotate_left 1
   ·intro w' hSw; (try dsimp only at hSw); go_simp; (try with_reducible rfl)
   simp only [Act.put, sA_, sB_, sC_]
   refine wpAnyH_take (i := 4) (oi := ⟨some 37, .move (.tmp 7), 3, "table.go:25", #[], none⟩) (v := ?_) rfl (by kernel_rfl) (by kernel_rfl) (by kernel_rfl) (fun _ _ _ h => h) (Or.inl ⟨by rfl, ?_⟩) (by assumption) ?_
   rotate_left 1
   ·intro w' hSw; (try dsimp only at hSw); go_simp; (try with_reducible rfl)
   simp only [Act.put, sA_, sB_, sC_]
   refine wpAnyH_take (i := 5) (oi := ⟨some 38, .move (.tmp 8), 3, "table.go:25", #[], none⟩) (v := ?_) rfl (by kernel_rfl) (by kernel_rfl) (by kernel_rfl) (fun _ _ _ h => h) (Or.inl ⟨by rfl, ?_⟩) (by assumption) ?_
   rotate_left 1
   ·intro w' hSw; (try dsimp only at hSw); go_simp; (try with_reducible rfl)
   simp only [Act.put, sA_, sB_, sC_]
   refine wpAnyH_ready (rs := [6]) (by kernel_rfl) (by simp) ?_
   refine AllReadyH.cons (o := ⟨some 39, .call { callee := .value (.func 165), args := #[.tmp 38], argTypes := #[3] }, 185, "table.go:25", #[⟨5, .data⟩], none⟩) rfl (fun K' hK => ?_) AllReadyH.nil
   go_simp
   go_at_call 165; refine (ClNew_any z w5.drew).mono ?_; rintro e w6 ⟨rfl, hb6, hlt6, hc6⟩
   have I6 := hi_ (I5d.out.below hb6)
   have s6 := I6.out.c2
   have HB6 := hi_ hb6
   have HC6 := hi_ hc6
   clear hb6 hc6
   refine hK.out _ _ s6 (fun hHeld => ?_)
   clear hK K'
   try simp only [Act.put, sA_, sB_, sC_]
   refine wpAnyH_ready (rs := [7]) (by kernel_rfl) (by simp) ?_
   refine AllReadyH.cons (o := ⟨none, .mapUpdate 181 (.tmp 36) (.tmp 37) (.tmp 39), 0, "table.go:25", #[⟨3, .data⟩, ⟨4, .data⟩, ⟨6, .data⟩, ⟨6, .chain⟩, ⟨0, .phase⟩, ⟨1, .phase⟩, ⟨2, .phase⟩, ⟨3, .phase⟩, ⟨4, .phase⟩, ⟨5, .phase⟩, ⟨6, .phase⟩], none⟩) rfl (fun K' hK => ?_) AllReadyH.nil
   refine step_putZ (z := .pointer none) (m := w2.heap.size) (n := (cs.take j).length) (f := colAt (cs.take j) q) Tryz.underlying3 Tryz.underlying181 (by rfl) (.tmp 36) (.tmp 37) (.tmp 39) rfl I6.out.mp (by rw [HLJ.out]; omega) (i := (k : Int)) (by have := HK64.out; omega) (.pointer (some ⟨w5.heap.size, 0, none⟩)) rfl rfl rfl ?_
   intro w7 hm7 hg7
   obtain ⟨tag7, hI7, hT7⟩ := I5d.out.more (z := (min (max z 0) 64).toNat) HB6.out hlt6 HC6.out HNK.out HK64.out (by rw [colAt_none HNK.out]; rfl) hm7 hg7
   have s7 := hI7.c2
   rw [<- HTK.out] at hI7
   have I7 := hi_ (hI7.congr (co' := noCo cs) (fun a _ => HCO.out a))
   have F7 := hi_ ((HFr.out.trans (Fr.ofBelow _ (HB5.out.trans (((Below.refl _ _).drew.trans HB6.out).mono HB5.out.size)))).trans (Fr.grown hg7 (fun x hx => by injection hx with hx; exact .inl ⟨Nat.le_of_eq hx, by omega⟩)))
   have T7 := hi_ (show ∀ x, tag7 x ≠ 0 -> Two w2.heap.size (w2.heap.size + 2) w4.heap.size x from fun x hx => by rcases hT7 x hx with h1 | h1; exact HTw.out x h1; have := HB5.out.size; exact .inr (Nat.le_trans hss (Nat.le_trans this h1)))
   clear hm7 hg7 hI7 hT7
   refine hK.out _ _ s7 (fun hHeld => ?_)
   clear hK K'
   try simp only [Act.put]
   refine wpAnyH_done (by kernel_rfl) ?_ _
   refine NoPanic.normal ?_
   clear s5 s6 s7 hHeld
-- END6
   go_wp2
   go_roundw
   case rel => exact ⟨j + 1, _, _, hjn, by go_num, I7.out, F7.out, T7.out⟩
   case measure => simp [intOf]; omega
  ·obtain rfl : j = nc := by omega
   have e1 : cs.take j = cs := List.take_of_length_le (by rw [<- HNC.out]; exact Nat.le_refl _)
   rw [e1] at hI
   have HBr := hi_ (HBw.out.trans (hF.toBelow (fun x hx => by rcases hx with hx | hx <;> omega) (by omega)))
   have HIr := hi_ hI
   clear hI hF hTw e1
   go_wp2
   go_ret
   exact ⟨_, rfl, ⟨_, _, _, HIr.out⟩, HBr.out⟩
end
end Go.Proofs.YthiknmhkdeicjaaGreatDoor
namespace Go.Proofs.YthiknmhkdeicjaaGreatDoor
open Go.RowKit
set_option maxRecDepth 20000
section
variable {w w6 w7 : World} {N : Nat} {tag : Nat -> Nat} {p m : Nat} {v : Value} {q : Nat -> Nat} {sg : Nat} {cs : List (Int × Nat)} {l : List (Int × Int)} {co : Nat -> Co}
end
section
variable (lg pg en gn : Int) (A : Option Addr) (n cap : Nat) (ks : List Kd) (w : World)
end
end Go.Proofs.YthiknmhkdeicjaaGreatDoor
namespace Go.Proofs.YthiknmhkdeicjaaGreatDoor
open Go.RowKit
set_option maxRecDepth 20000
section
variable (lg pg en gn : Int) (A : Option Addr) (n cap : Nat) (ks : List Kd) (w : World)
end
end Go.Proofs.YthiknmhkdeicjaaGreatDoor
namespace Go.Proofs.YthiknmhkdeicjaaGreatDoor
open Go.RowKit
set_option maxRecDepth 20000
structure TbA (w : World) (N : Nat) (tag : Nat -> Nat) (p m : Nat) (v : Value) (q : Nat -> Nat) (sg : Nat) (t : Tb) : Prop where
 i : TbI w N tag p m v q sg t.cs t.ids t.co
 ok : t.Ok
 sig : listZ sg = t.cs.map (·.1)
 sgl : sg < 18446744073709551616
def TStep (w : World) (N : Nat) (tag : Nat -> Nat) (p m : Nat) (q : Nat -> Nat) (sg : Nat) (t' : Tb) (w' : World) : Prop := ∃ tag' v', TbA w' N tag' p m v' q sg t' /\ TGo w tag w' tag'
abbrev In64 (k : Int) : Prop := -9223372036854775808 <= k /\ k < 9223372036854775808
theorem VB.non (K : Nat -> Prop) (w : World) : VB K w (.slice none 0 0) [] := ⟨none, 0, 0, rfl, Rd.nil _ _, fun b o e _ => by cases e⟩
section
variable {w w' : World} {N : Nat} {tag : Nat -> Nat} {p m : Nat} {v : Value} {q : Nat -> Nat} {sg : Nat} {t t' : Tb}
theorem TbA.below (h : TbA w N tag p m v q sg t) (hb : Below w.heap.size w w') : TbA w' N tag p m v q sg t := ⟨h.i.below hb, h.ok, h.sig, h.sgl⟩
theorem TbA.kept {own' : Nat -> Prop} (h : TbA w N tag p m v q sg t) (hf : Fr own' w w') (hd : ∀ x, tag x ≠ 0 -> ¬ own' x) : TbA w' N tag p m v q sg t := ⟨h.i.kept hf hd, h.ok, h.sig, h.sgl⟩
theorem TbA.still (h : TbA w N tag p m v q sg t) (hb : Below w.heap.size w w') : TStep w N tag p m q sg t w' := ⟨tag, v, h.below hb, TGo.ofBelow hb⟩
theorem TbA.hrw (_h : TbA w N tag p m v q sg t) : ∀ j, j < t.cs.length -> (t.co j).rows.length = t.ids.length := fun j _ => by rw [t.co_len, t.ids_len]
theorem TbA.h64 (h : TbA w N tag p m v q sg t) : ∀ j, j < t.cs.length -> (t.cs.getD j (0, 0)).2 <= 64 := fun j hj => by
 rw [getD_at hj]
 exact h.ok.z _ (List.getElem_mem hj)
theorem TSet_go (h : TbA w N tag p m v q sg t) (id : Int × Int) (ps : List Pt) (row comp : Int) (hk : In64 comp) (A : Option Addr) (n c : Nat) (b : List UInt8) (hb : Rd w A n b) :
  Calls Tryz.prog 80 #[.pointer (some ⟨p, 0, none⟩), .int .i64 row, .int .i64 comp, .slice A n c] w fun e w' => e = .returned (.int .i64 (t.go ⟨1, id, ps, row, comp, b⟩).2.err) /\ TStep w N tag p m q sg (t.go ⟨1, id, ps, row, comp, b⟩).1 w' := by
 by_cases hr : 0 <= row /\ row < t.rows.length
 ·have hri : 0 <= row /\ row < t.ids.length := by rw [t.ids_len]; exact hr
  cases hat : t.at_ comp with
  | none =>
   have e : t.go ⟨1, id, ps, row, comp, b⟩ = (t, .e 8) := by
    unfold Tb.go
    simp only
    rw [if_neg (by decide), if_pos hr, if_neg (by decide), if_neg (by decide), hat]
   rw [e]
   refine (TSet_lacks h.i row hri hk hat A n c).mono ?_
   rintro e w' ⟨rfl, rfl⟩
   exact ⟨rfl, h.still (Below.refl _ _)⟩
  | some k =>
   have hkl := Tb.at_lt hat
   refine (TSet_any h.i row hri hk hat A n c b hb).mono ?_
   rintro e w' ⟨rfl, tag', hI, hG⟩
   obtain ⟨i, rfl⟩ : ∃ i : Nat, row = (i : Int) := ⟨row.toNat, by omega⟩
   have hi : i < t.rows.length := by omega
   have hco : 0 <= (i : Int) /\ (i : Int) < (t.co k).rows.length := by rw [t.co_len]; exact hr
   by_cases hl : b.length = (t.cs.getD k (0, 0)).2
   ·have e : t.go ⟨1, id, ps, i, comp, b⟩ = (⟨t.cs, t.rows.set i ((t.rows.getD i noEn).1, (t.rows.getD i noEn).2.set k (((t.rows.getD i noEn).2.getD k (0, [])).1, b))⟩, .e 0) := by
     unfold Tb.go
     simp only
     rw [if_neg (by decide), if_pos hr, if_neg (by decide), if_neg (by decide), hat]
     simp only
     rw [if_neg (by decide), if_pos hl]
     rfl
    have e2 : (t.co k).go 1 i b = ((t.co k).set i b, [], 0) := by
     unfold Co.go
     rw [if_pos rfl, if_pos hco, if_pos (show b.length = (t.co k).sz from hl)]
     rfl
    have hok := h.ok.go ⟨1, id, ps, i, comp, b⟩
    rw [e] at hok ⊢
    rw [e2] at hI ⊢
    refine ⟨rfl, tag', v, ⟨?_, hok, h.sig, h.sgl⟩, hG⟩
    have := hI.congr (co' := Tb.co ⟨t.cs, t.rows.set i ((t.rows.getD i noEn).1, (t.rows.getD i noEn).2.set k (((t.rows.getD i noEn).2.getD k (0, [])).1, b))⟩) (fun a ha => by
     rw [Tb.co_set h.ok hi hkl.1 b a ha])
    rw [<- Tb.ids_set hi ((t.rows.getD i noEn).2.set k (((t.rows.getD i noEn).2.getD k (0, [])).1, b))] at this
    exact this
   ·have e : t.go ⟨1, id, ps, i, comp, b⟩ = (t, .e 7) := by
     unfold Tb.go
     simp only
     rw [if_neg (by decide), if_pos hr, if_neg (by decide), if_neg (by decide), hat]
     simp only
     rw [if_neg (by decide), if_neg hl]
    have e2 : (t.co k).go 1 i b = (t.co k, [], 7) := by
     unfold Co.go
     rw [if_pos rfl, if_pos hco, if_neg (show ¬ b.length = (t.co k).sz from hl)]
    rw [e]
    rw [e2] at hI ⊢
    refine ⟨rfl, tag', v, ⟨hI.congr (fun a _ => ?_), h.ok, h.sig, h.sgl⟩, hG⟩
    by_cases ha : a = k
    ·rw [if_pos ha, ha]
    ·rw [if_neg ha]
 ·have hri : ¬ (0 <= row /\ row < t.ids.length) := by rw [t.ids_len]; exact hr
  have e : t.go ⟨1, id, ps, row, comp, b⟩ = (t, .e 2) := by
   unfold Tb.go
   simp only
   rw [if_neg (by decide), if_neg hr]
  rw [e]
  refine (TSet_no h.i row hri comp A n c).mono ?_
  rintro e w' ⟨rfl, rfl⟩
  exact ⟨rfl, h.still (Below.refl _ _)⟩
theorem TGet_go (h : TbA w N tag p m v q sg t) (id : Int × Int) (ps : List Pt) (row comp : Int) (hk : In64 comp) (b : List UInt8) :
  Calls Tryz.prog 93 #[.pointer (some ⟨p, 0, none⟩), .int .i64 row, .int .i64 comp] w fun e w' => (∃ A n c, e = .returned (.tuple #[.slice A n c, .int .i64 (t.go ⟨2, id, ps, row, comp, b⟩).2.err]) /\ (t.go ⟨2, id, ps, row, comp, b⟩).2 = { Tl.e (t.go ⟨2, id, ps, row, comp, b⟩).2.err with data := (t.go ⟨2, id, ps, row, comp, b⟩).2.data } /\ VB (fun x => w.heap.size <= x) w' (.slice A n c) (t.go ⟨2, id, ps, row, comp, b⟩).2.data) /\ (t.go ⟨2, id, ps, row, comp, b⟩).1 = t /\ Below w.heap.size w w' := by
 by_cases hr : 0 <= row /\ row < t.rows.length
 ·have hri : 0 <= row /\ row < t.ids.length := by rw [t.ids_len]; exact hr
  cases hat : t.at_ comp with
  | none =>
   have e : t.go ⟨2, id, ps, row, comp, b⟩ = (t, .e 8) := by
    unfold Tb.go
    simp only
    rw [if_neg (by decide), if_pos hr, if_neg (by decide), if_neg (by decide), hat]
   rw [e]
   refine (TGet_lacks h.i row hri hk hat).mono ?_
   rintro e w' ⟨rfl, rfl⟩
   exact ⟨⟨_, _, _, rfl, rfl, VB.non _ _⟩, rfl, Below.refl _ _⟩
  | some k =>
   have hkl := Tb.at_lt hat
   obtain ⟨i, rfl⟩ : ∃ i : Nat, row = (i : Int) := ⟨row.toNat, by omega⟩
   have hi : i < t.rows.length := by omega
   have e : t.go ⟨2, id, ps, i, comp, b⟩ = (t, { Tl.e 0 with data := ((t.rows.getD i noEn).2.getD k (0, [])).2 }) := by
    unfold Tb.go
    simp only
    rw [if_neg (by decide), if_pos hr, if_neg (by decide), if_neg (by decide), hat]
    simp only
    rw [if_pos trivial]
    rfl
   rw [e]
   refine (TGet_ok h.i h.hrw i (by rw [t.ids_len]; exact hi) hk hat).mono ?_
   rintro e w' ⟨g, rfl, hg, hO, hB⟩
   have ed : (t.co k).rows.getD i [] = ((t.rows.getD i noEn).2.getD k (0, [])).2 := by
    show (t.rows.map fun r => (r.2.getD k (0, [])).2).getD i [] = _
    rw [getD_at (by simpa using hi), List.getElem_map, getD_at hi]
   rw [ed] at hO
   have hl := hO.1
   rw [cells_length, Nat.mul_one] at hl
   have hlt : g < w'.heap.size := (own_geB hO rfl).2
   rw [<- hl] at hO ⊢
   exact ⟨⟨_, _, _, rfl, rfl, ⟨_, _, _, rfl, Rd.of_own' hO, fun b o e _ => by injection e with e; injection e with e1 e2; exact ⟨(show w.heap.size <= b by omega), e1 ▸ hlt⟩⟩⟩, rfl, hB⟩
 ·have hri : ¬ (0 <= row /\ row < t.ids.length) := by rw [t.ids_len]; exact hr
  have e : t.go ⟨2, id, ps, row, comp, b⟩ = (t, .e 2) := by
   unfold Tb.go
   simp only
   rw [if_neg (by decide), if_neg hr]
  rw [e]
  refine (TGet_no h.i row hri comp).mono ?_
  rintro e w' ⟨rfl, rfl⟩
  exact ⟨⟨_, _, _, rfl, rfl, VB.non _ _⟩, rfl, Below.refl _ _⟩
theorem TParts_go (h : TbA w N tag p m v q sg t) (hT : TabAt w) (id : Int × Int) (ps : List Pt) (row comp : Int) (b : List UInt8) :
  Calls Tryz.prog 51 #[.pointer (some ⟨p, 0, none⟩), .int .i64 row] w fun e w' => (∃ A n c, e = .returned (.tuple #[.slice A n c, .int .i64 (t.go ⟨3, id, ps, row, comp, b⟩).2.err]) /\ (t.go ⟨3, id, ps, row, comp, b⟩).2 = { Tl.e (t.go ⟨3, id, ps, row, comp, b⟩).2.err with parts := (t.go ⟨3, id, ps, row, comp, b⟩).2.parts } /\ PartsV (fun x => w.heap.size <= x) w' A n (t.go ⟨3, id, ps, row, comp, b⟩).2.parts) /\ (t.go ⟨3, id, ps, row, comp, b⟩).1 = t /\ Below w.heap.size w w' := by
 by_cases hr : 0 <= row /\ row < t.rows.length
 ·obtain ⟨i, rfl⟩ : ∃ i : Nat, row = (i : Int) := ⟨row.toNat, by omega⟩
  have hi : i < t.rows.length := by omega
  have e : t.go ⟨3, id, ps, i, comp, b⟩ = (t, { Tl.e 0 with parts := (t.rows.getD i noEn).2 }) := by
   unfold Tb.go
   simp only
   rw [if_neg (by decide), if_pos hr, if_pos trivial]
   rfl
  rw [e]
  refine (TParts_ok h.i h.sig h.sgl hT h.ok.cn h.hrw i (by rw [t.ids_len]; exact hi)).mono ?_
  rintro e w' ⟨PA, pc, rfl, hP, hB⟩
  rw [Tb.rowL_eq h.ok hi] at hP
  exact ⟨⟨_, _, _, rfl, rfl, hP⟩, rfl, hB⟩
 ·have hri : ¬ (0 <= row /\ row < t.ids.length) := by rw [t.ids_len]; exact hr
  have e : t.go ⟨3, id, ps, row, comp, b⟩ = (t, .e 2) := by
   unfold Tb.go
   simp only
   rw [if_neg (by decide), if_neg hr]
  rw [e]
  refine (TParts_no h.i row hri).mono ?_
  rintro e w' ⟨rfl, rfl⟩
  exact ⟨⟨_, _, _, rfl, rfl, PartsV.nil _ _ _⟩, rfl, Below.refl _ _⟩
theorem TDrop_go (h : TbA w N tag p m v q sg t) (hT : TabAt w) (id : Int × Int) (ps : List Pt) (row comp : Int) (b : List UInt8) :
  Calls Tryz.prog 141 #[.pointer (some ⟨p, 0, none⟩), .int .i64 row] w fun e w' => ∃ x, (t.go ⟨4, id, ps, row, comp, b⟩).2 = x /\ x.data = [] /\ x.parts = [] /\ e = .returned (.tuple #[.agg #[.int .i64 x.id.1, .int .i64 x.id.2], .bool x.ok, .int .i64 x.err]) /\ TStep w N tag p m q sg (t.go ⟨4, id, ps, row, comp, b⟩).1 w' := by
 by_cases hr : 0 <= row /\ row < t.rows.length
 ·obtain ⟨i, rfl⟩ : ∃ i : Nat, row = (i : Int) := ⟨row.toNat, by omega⟩
  have hi : i < t.rows.length := by omega
  have e : t.go ⟨4, id, ps, i, comp, b⟩ = (⟨t.cs, (t.rows.set i (t.rows.getD (t.rows.length - 1) noEn)).take (t.rows.length - 1)⟩, if i = t.rows.length - 1 then .e 0 else { Tl.e 0 with id := (t.rows.getD (t.rows.length - 1) noEn).1, ok := true }) := by
   unfold Tb.go
   simp only
   rw [if_neg (by decide), if_pos hr, if_neg (by decide), if_pos trivial]
   rfl
  have hok := h.ok.go ⟨4, id, ps, i, comp, b⟩
  rw [e] at hok ⊢
  refine (TDrop_ok h.i h.sig h.sgl hT h.ok.cn h.hrw i (by rw [t.ids_len]; exact hi) (by rw [t.ids_len]; exact h.ok.n)).mono ?_
  rintro e w' ⟨rfl, tag', v', hI, hG⟩
  have hS : TStep w N tag p m q sg ⟨t.cs, (t.rows.set i (t.rows.getD (t.rows.length - 1) noEn)).take (t.rows.length - 1)⟩ w' := by
   refine ⟨tag', v', ⟨?_, hok, h.sig, h.sgl⟩, hG⟩
   have := hI.congr (co' := Tb.co ⟨t.cs, (t.rows.set i (t.rows.getD (t.rows.length - 1) noEn)).take (t.rows.length - 1)⟩) (fun a _ => by rw [Tb.co_drop hi])
   rw [<- Tb.ids_drop hi] at this
   exact this
  rw [Tb.ids_last (by omega), t.ids_len]
  by_cases hil : i = t.rows.length - 1
  ·rw [if_pos hil, if_pos hil]
   exact ⟨_, rfl, rfl, rfl, rfl, hS⟩
  ·rw [if_neg hil, if_neg hil]
   exact ⟨_, rfl, rfl, rfl, rfl, hS⟩
 ·have hri : ¬ (0 <= row /\ row < t.ids.length) := by rw [t.ids_len]; exact hr
  have e : t.go ⟨4, id, ps, row, comp, b⟩ = (t, .e 2) := by
   unfold Tb.go
   simp only
   rw [if_neg (by decide), if_neg hr]
  rw [e]
  refine (TDrop_no h.i row hri).mono ?_
  rintro e w' ⟨rfl, hB⟩
  exact ⟨_, rfl, rfl, rfl, rfl, h.still hB⟩
theorem TAdd_go {K : Nat -> Prop} {A : Option Addr} {n : Nat} {ps : List Pt} (h : TbA w N tag p m v q sg t) (hT : TabAt w) (hp : PartsV K w A n ps) (hK : ∀ x, K x -> tag x = 0) (hn : n <= 1000000) (c : Nat) (i g : Int) :
  Calls Tryz.prog 132 #[.pointer (some ⟨p, 0, none⟩), .agg #[.int .i64 i, .int .i64 g], .slice A n c] w fun e w' => ∃ z, (t.add (i, g) ps).2 = .e z /\ e = .returned (.int .i64 z) /\ TStep w N tag p m q sg (t.add (i, g) ps).1 w' := by
 have hil := t.ids_len
 have hnn := h.ok.n
 by_cases hf : t.rows.length = 1024
 ·have e : t.add (i, g) ps = (t, .e 9) := by unfold Tb.add; rw [if_pos hf]
  rw [e]
  refine (TAdd_full h.i (by omega) i g A n c).mono ?_
  rintro e w' ⟨rfl, hB⟩
  exact ⟨9, rfl, rfl, h.still hB⟩
 ·cases hft : fits ps t.cs with
  | false =>
   have e : t.add (i, g) ps = (t, .e 7) := by unfold Tb.add; rw [if_neg hf, hft]; rfl
   rw [e]
   refine (TAdd_size h.i h.sig h.sgl hT h.ok.cn (fun j _ => rfl) h.h64 hp hn c (by omega) hft i g).mono ?_
   rintro e w' ⟨rfl, hB⟩
   exact ⟨7, rfl, rfl, h.still hB⟩
  | true =>
   have e : t.add (i, g) ps = (⟨t.cs, t.rows ++ [((i, g), picks ps t.cs)]⟩, .e 0) := by unfold Tb.add; rw [if_neg hf, hft]; rfl
   have hok := h.ok.add (i, g) ps
   rw [e] at hok ⊢
   refine (TAdd_ok h.i h.sig h.sgl hT h.ok.cn (fun j _ => rfl) h.h64 h.hrw hp hK hn c (by omega) hft i g).mono ?_
   rintro e w' ⟨rfl, tag', v', hI, hG⟩
   refine ⟨0, rfl, rfl, tag', v', ⟨?_, hok, h.sig, h.sgl⟩, hG⟩
   have := hI.congr (co' := Tb.co ⟨t.cs, t.rows ++ [((i, g), picks ps t.cs)]⟩) (fun a ha => by rw [Tb.co_add ha])
   have e3 : Tb.ids ⟨t.cs, t.rows ++ [((i, g), picks ps t.cs)]⟩ = t.ids ++ [(i, g)] := by unfold Tb.ids; rw [List.map_append]; rfl
   rw [<- e3] at this
   exact this
end
end Go.Proofs.YthiknmhkdeicjaaGreatDoor
namespace Go.Proofs.YthiknmhkdeicjaaGreatDoor
open Go.RowKit
set_option maxRecDepth 20000
section
variable {w w1 w2 w3 : World} {N : Nat} {tag : Nat -> Nat} {p m : Nat} {v : Value} {q : Nat -> Nat} {sg : Nat} {t t' : Tb}
variable (xd xi xg : Int) (pA : Option Addr) (pn pc : Nat) (ps : List Pt) (row comp : Int) (bA : Option Addr) (bn bc : Nat) (b : List UInt8)
abbrev sc (xd xi xg : Int) (pA : Option Addr) (pn pc : Nat) (row comp : Int) (bA : Option Addr) (bn bc : Nat) : Array Value := #[.int .i64 xd, .int .i64 xi, .int .i64 xg, .slice pA pn pc, .int .i64 row, .int .i64 comp, .slice bA bn bc]
end
end Go.Proofs.YthiknmhkdeicjaaGreatDoor
namespace Go.Proofs.YthiknmhkdeicjaaGreatDoor
open Go.RowKit
set_option maxRecDepth 20000
section
variable {w : World} {N : Nat} {tag : Nat -> Nat} {p m : Nat} {v : Value} {q : Nat -> Nat} {sg : Nat} {t : Tb}
end
theorem TbA.new {w' : World} {N : Nat} {tag : Nat -> Nat} {p m : Nat} {q : Nat -> Nat} {n : Nat} {zs : Nat -> Int} {s : Nat} (hs : s < 18446744073709551616) (hI : TbI w' N tag p m nilv q (s &&& ofL (idxs n) 64) (Tb.new n zs s).cs [] (noCo (Tb.new n zs s).cs)) :
  TbA w' N tag p m nilv q (s &&& ofL (idxs n) 64) (Tb.new n zs s) :=
 ⟨hI.congr (fun _ _ => rfl), Tb.new_ok n zs s, new_cs n zs s, and_lt64 _ _ hs⟩
end Go.Proofs.YthiknmhkdeicjaaGreatDoor
