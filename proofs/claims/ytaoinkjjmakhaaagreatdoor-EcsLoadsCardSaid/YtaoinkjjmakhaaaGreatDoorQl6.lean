/- TbP3, TbP4, TbP5, TbP6, RowS -/
import Derived.Test.YtaoinkjjmakhaaaGreatDoorQl1
import Derived.Test.YtaoinkjjmakhaaaGreatDoorQl5
import Derived.Deep.RegionHeld3
import Derived.Maps.AppendAt
namespace Go.Proofs.YtaoinkjjmakhaaaGreatDoor
open Go.RowKit
theorem bbT : El Tryz.prog 98 33 (.slice none 0 0) 1 24 := ⟨Tryz.underlying98, by kernel_rfl, rfl, by decide⟩
theorem get_fst {cs : List (Int × Nat)} {j : Nat} (hj : j < cs.length) : (cs.map (·.1))[j]? = some (cs.getD j (0, 0)).1 := by
 rw [List.getD_eq_getElem?_getD, List.getElem?_map, List.getElem?_eq_getElem hj]
 rfl
theorem getD_take {cs : List (Int × Nat)} {j : Nat} (hj : j < cs.length) : cs.take (j + 1) = cs.take j ++ [cs.getD j (0, 0)] := by
 rw [List.take_add_one, List.getD_eq_getElem?_getD, List.getElem?_eq_getElem hj]
 rfl
theorem fits_snoc (ps : List Pt) {cs : List (Int × Nat)} {j : Nat} (hj : j < cs.length) : fits ps (cs.take (j + 1)) = (fits ps (cs.take j) && decide ((pick ps (cs.getD j (0, 0))).length = (cs.getD j (0, 0)).2)) := by
 rw [getD_take hj]
 unfold fits
 rw [List.all_append]
 simp
theorem fits_no (ps : List Pt) {cs : List (Int × Nat)} {j : Nat} (hj : j < cs.length) (h : (pick ps (cs.getD j (0, 0))).length ≠ (cs.getD j (0, 0)).2) : fits ps cs = false := by
 unfold fits
 rw [List.all_eq_false]
 refine ⟨cs.getD j (0, 0), ?_, by simpa using h⟩
 rw [List.getD_eq_getElem?_getD, List.getElem?_eq_getElem hj]
 exact List.getElem_mem hj
theorem pick_some {ps : List Pt} {c : Int × Nat} {x : Pt} (h : ps.find? (fun p => decide (p.1 = c.1)) = some x) : pick ps c = x.2 := by unfold pick; rw [h]
theorem pick_none {ps : List Pt} {c : Int × Nat} (h : ps.find? (fun p => decide (p.1 = c.1)) = none) : pick ps c = List.replicate c.2 0 := by unfold pick; rw [h]
theorem made_bytes (n : Nat) : (madeCells (Value.int .u8 0).cells (n * 1)).toList = cells (List.replicate n 0) := by
 rw [Nat.mul_one]
 refine (toList_madeCells_one (Value.int .u8 0) n).trans ?_
 unfold cells
 rw [List.map_replicate]
 rfl
section
variable {K : Nat -> Prop} {w : World} {A : Option Addr} {n : Nat} {ps : List Pt}
theorem first_some (h : PartsV K w A n ps) (hn : n <= 1000000) (c : Nat) (k : Int) {x : Pt} (hx : ps.find? (fun p => decide (p.1 = k)) = some x) :
  Calls Tryz.prog 172 #[.slice A n c, .int .i64 k] w fun e w' => (∃ u, e = .returned (.tuple #[u, .bool true]) /\ VB K w' u x.2) /\ Below w.heap.size w w' := by
 refine (first_any h hn c k).mono ?_
 rintro e w' ⟨hB, ⟨y, u, hy, rfl, hu⟩ | ⟨hy, _⟩⟩
 ·rw [hx] at hy
  injection hy with hy
  subst hy
  exact ⟨⟨u, rfl, hu⟩, hB⟩
 ·rw [hx] at hy; cases hy
theorem first_none (h : PartsV K w A n ps) (hn : n <= 1000000) (c : Nat) (k : Int) (hx : ps.find? (fun p => decide (p.1 = k)) = none) :
  Calls Tryz.prog 172 #[.slice A n c, .int .i64 k] w fun e w' => e = .returned (.tuple #[nilv, .bool false]) /\ Below w.heap.size w w' := by
 refine (first_any h hn c k).mono ?_
 rintro e w' ⟨hB, ⟨y, u, hy, _, _⟩ | ⟨_, rfl⟩⟩
 ·rw [hx] at hy; cases hy
 ·exact ⟨rfl, hB⟩
end
section
variable {w : World} {N : Nat} {tag : Nat -> Nat} {p m : Nat} {v : Value} {q : Nat -> Nat} {sg : Nat} {cs : List (Int × Nat)} {l : List (Int × Int)} {co : Nat -> Co}
theorem tlist_any (hz : listZ sg = cs.map (·.1)) (hg : sg < 18446744073709551616) (hT : TabAt w) :
  Calls Tryz.prog 85 #[.int .u64 sg] w fun e w' => ∃ LA lc, e = .returned (.slice LA cs.length lc) /\ IntsV (fun x => w.heap.size <= x /\ x < w'.heap.size) w' LA cs.length (cs.map (·.1)) /\ Below w.heap.size w w' := by
 have hl : (listN sg).length = cs.length := by
  have := congrArg List.length hz
  unfold listZ at this
  simpa using this
 refine (List_any sg w hg hT).mono ?_
 rintro e w' ⟨v, rfl, ho, hB⟩
 rw [hz, hl] at ho
 obtain ⟨LA, lc, rfl, _, _, hI⟩ := own_rowsL ho (ints_hd _) (by simp)
 exact ⟨LA, lc, rfl, hI, hB⟩
set_option maxRecDepth 20000 in
theorem lay_any {K : Nat -> Prop} {A : Option Addr} {n : Nat} {ps : List Pt} (h : TbI w N tag p m v q sg cs l co) (hz : listZ sg = cs.map (·.1)) (hg : sg < 18446744073709551616) (hT : TabAt w) (hcn : cs.length <= 64)
  (hsz : ∀ j, j < cs.length -> (co j).sz = (cs.getD j (0, 0)).2) (h64 : ∀ j, j < cs.length -> (cs.getD j (0, 0)).2 <= 64) (hp : PartsV K w A n ps) (hn : n <= 1000000) (c : Nat) :
  Calls Tryz.prog 152 #[.pointer (some ⟨p, 0, none⟩), .slice A n c] w fun e w' => Below w.heap.size w w' /\
   ((fits ps cs = true /\ ∃ RA rc, e = .returned (.tuple #[.slice RA cs.length rc, .int .i64 0]) /\ RowsV (fun x => (K x /\ x < w.heap.size) \/ w.heap.size <= x) w' RA cs.length (cs.map (pick ps))) \/
   (fits ps cs = false /\ e = .returned (.tuple #[nilv, .int .i64 7]))) := by
 have c2 := h.c2
 have CL := h.clen 3
 obtain ⟨nc, hnc⟩ : ∃ nc, nc = cs.length := ⟨_, rfl⟩
 rw [<- hnc] at CL hcn ⊢
 have H := hi_ h
 have HDm := hi_ h.dom
 have HP := hi_ hp.lt
 have HT := hi_ hT
 have HNC := hi_ hnc
 clear h hp hT hnc
 go_enter Tryz.func152, Tryz.ntmps152
 go_wp2_with (first
  | (at_make; refine wpList_mk _ bbT rfl (.const (.int .i64 0)) (.tmp 16) rfl w.heap.size .i64 .i64 _ nc rfl rfl rfl (by omega) (by unfold maxLen; omega) (Nat.le_refl _) ?_; intro v1 w1 hown1 hb1; have H1 := hi_ (H.out.below hb1); have k0 := H1.out.c0; have HB1 := hi_ hb1; have HO1 := hi_ hown1; clear hb1 hown1)
  | (go_at_call 85; refine (tlist_any hz hg (HT.out.below HB1.out)).mono ?_; rintro e w2 ⟨LA, lc, rfl, hI, hb2⟩; rw [<- HNC.out] at hI ⊢; have HI := hi_ hI; have HB2 := hi_ hb2; clear hI hb2 k0))
 have HB0 := hi_ (HB1.out.trans (HB2.out.mono HB1.out.size))
 have G0 := hi_ (Gr.start (E := EB) (α := List UInt8) (own_keep HO1.out HB2.out) (by have := HB1.out.size; have := HB2.out.size; omega : w.heap.size <= w2.heap.size))
 have H2 := hi_ (H1.out.below HB2.out)
 have HOB := hi_ (show ∀ x, v1.ownBlock = some x -> Two w.heap.size w1.heap.size w2.heap.size x from fun x hx => .inl (own_geB HO1.out hx))
 have hs1 := HB1.out.size
 have hs2 := HB2.out.size
 clear H HO1 HB1 HB2 H1 c2 CL
 go_loopw [6, 24] (fun ov iv wr => ∃ (j : Nat) (vs : List Value) (D : Nat -> Prop), j <= nc /\ iv = .int .i64 j /\ Gr EB 33 1 wr w.heap.size ov vs D ((cs.take j).map (pick ps)) /\ (∀ x, D x -> (K x /\ x < w.heap.size) \/ w.heap.size <= x) /\ (∀ x, ov.ownBlock = some x -> Two w.heap.size w1.heap.size w2.heap.size x) /\ fits ps (cs.take j) = true /\ Fr (Two w.heap.size w1.heap.size w2.heap.size) w2 wr) (fun _ iv _ => nc - (intOf iv).toNat)
 case atStart => exact ⟨0, [], _, Nat.zero_le _, rfl, G0.out, fun x hx => hx.elim, HOB.out, rfl, Fr.refl _ _⟩
 case round =>
  obtain ⟨j, vs, D, hj, rfl, hG, hD, hob, hfit, hF⟩ := hrel
  by_cases hjn : j < nc
  ·have hjc : j < cs.length := by rw [<- HNC.out]; exact hjn
   have hss := hF.size
   have hI := HI.out.stays (w' := wr) ⟨hss, fun x hx => hF.block x hx.2 (fun h2 => by rcases h2 with h2 | h2 <;> omega)⟩
   obtain ⟨b, o, hLA, hblt, kk⟩ := hI.cell (get_fst hjc)
   have HLA := hi_ hLA
   subst hLA
   have HR := hi_ (H2.out.kept hF (fun x hx h2 => by have := HDm.out x hx; rcases h2 with h2 | h2 <;> omega))
   have c2 := HR.out.c2
   have LK := HR.out.look hjc
   obtain ⟨cu, hcu⟩ := HR.out.col j hjc
   have CS := ClSize_any hcu
   rw [hsz j hjc] at CS
   have hzz := h64 j hjc
   obtain ⟨k, hkk⟩ : ∃ k, k = (cs.getD j (0, 0)).1 := ⟨_, rfl⟩
   obtain ⟨z, hzz'⟩ : ∃ z, z = (cs.getD j (0, 0)).2 := ⟨_, rfl⟩
   have hsn := fits_snoc ps hjc
   have hfn := fits_no ps hjc
   have hpk : (cs.take (j + 1)).map (pick ps) = (cs.take j).map (pick ps) ++ [pick ps (cs.getD j (0, 0))] := by rw [getD_take hjc, List.map_append]; rfl
   have hps : ∀ x, ps.find? (fun p => decide (p.1 = k)) = some x -> pick ps (cs.getD j (0, 0)) = x.2 := fun x hx => pick_some (by rw [<- hkk]; exact hx)
   have hpn : ps.find? (fun p => decide (p.1 = k)) = none -> pick ps (cs.getD j (0, 0)) = List.replicate z 0 := fun hx => by rw [hzz']; exact pick_none (by rw [<- hkk]; exact hx)
   rw [hfit, Bool.true_and] at hsn
   obtain ⟨pk, hpk'⟩ : ∃ pk, pk = pick ps (cs.getD j (0, 0)) := ⟨_, rfl⟩
   rw [<- hpk'] at hsn hfn hpk hps hpn
   rw [<- hkk] at kk LK
   rw [<- hzz'] at CS hzz hsn hfn
   have hlj : ((cs.take j).map (pick ps)).length = j := by rw [List.length_map, List.length_take]; omega
   have hBw : Below w.heap.size w wr := HB0.out.trans (hF.toBelow (fun x hx => by rcases hx with hx | hx <;> omega) (by omega))
   have HSN := hi_ hsn
   have HPK := hi_ hpk
   have HFN := hi_ hfn
   have HG := hi_ hG
   have HD := hi_ hD
   have HF := hi_ hF
   have HOB := hi_ hob
   have HLJ := hi_ hlj
   have CS := hi_ CS
   have HBw := hi_ hBw
   have HPr := hi_ (HP.out.below HBw.out)
   clear hsn hpk hfn hkk hzz' hpk' hcu hG hD hF hob hfit hI hlj hBw
   cases hfd : ps.find? (fun p => decide (p.1 = k)) with
   | some x =>
    have hpx := hps x hfd
    have CF := hi_ (first_some HPr.out hn c k hfd)
    obtain ⟨xi, xd⟩ := x
    simp only at hpx
    subst hpx
    clear hps hpn hfd
    by_cases hlen : pk.length = z
    ·subst hlen
     go_wp2_with (first
      | (go_at_call 104; refine CS.out.mono ?_; rintro e w3 ⟨rfl, rfl⟩)
      | (go_at_call 172; refine CF.out.mono ?_; rintro e w3 ⟨⟨u, rfl, hu⟩, hb3⟩; obtain ⟨DA, dm, dc, rfl, hr, _⟩ := id hu; obtain rfl : dm = pk.length := hr.1.symm; obtain ⟨w4, hw4⟩ : ∃ w4, w4 = w3.alloc (.cells #[.slice DA pk.length dc] 33) := ⟨_, rfl⟩; have hb4 : Below w3.heap.size w3 w4 := (by rw [hw4]; exact (Below.refl _ _).alloc (Nat.le_refl _) _); have hv4 : VRow (fun x => w3.heap.size <= x) w4 (some ⟨w3.heap.size, 0, none⟩) 1 1 [.slice DA pk.length dc] := (by rw [hw4]; exact VRow.new w3 #[.slice DA pk.length dc] _ 1 1 rfl); have HU := hi_ (hu.below hb4); have HB4 := hi_ (hb3.trans (hb4.mono hb3.size)); have HV4 := hi_ hv4; have HW4 := hi_ hw4; clear hr hu hb3 hb4 hv4 hw4)
      | (rw [<- HW4.out])
      | (at_builtin; have G4 := HG.out.below EB.ok HB4.out; refine wpList_appX bbT rfl (.tmp 49) (.tmp 51) rfl w.heap.size _ j vs rfl (by have := G4.ow; rw [HLJ.out] at this; exact this) _ 1 1 _ rfl HV4.out (fun u hu => by rw [List.mem_singleton.1 hu]; rfl) (by omega) (by decide) G4.Bw ?_; intro v5 w5 ho5 hg5 hv5; have G5 := hi_ (G4.put EB.ok rfl ⟨_, rfl, HU.out⟩ (fun y hy e => by have := (own_geB G4.ow e).1; omega) (by rw [HLJ.out]; exact ho5) hg5 hv5); have F5 := hi_ ((HF.out.trans (Fr.ofBelow _ HB4.out)).trans (Fr.grown hg5 HOB.out)); have OB5 := hi_ (show ∀ x, v5.ownBlock = some x -> Two w.heap.size w1.heap.size w2.heap.size x from fun x hx => by (rcases hv5 with hv5 | hv5; exact HOB.out x (hv5 ▸ hx); rw [hv5] at hx; injection hx with hx; have := HF.out.size; have := HB4.out.size; exact .inr (by omega))); clear G4 ho5 hg5 hv5))
     go_roundw
     case rel =>
      refine ⟨j + 1, _, _, hjn, by go_num, (by rw [HPK.out]; exact G5.out), ?_, OB5.out, (by rw [HSN.out]; simp), F5.out⟩
      intro x hx
      rcases hx with h2 | h2
      ·exact HD.out x h2
      ·exact .inl h2.1
     case measure => simp [intOf]; omega
    ·have d1 : decide ((pk.length : Int) = (z : Int)) = false := decide_eq_false (by omega)
     have hfn := HFN.out hlen
     have HFN := hi_ hfn
     clear hfn
     go_wp2_with (first
      | (go_at_call 104; refine CS.out.mono ?_; rintro e w3 ⟨rfl, rfl⟩)
      | (go_at_call 172; refine CF.out.mono ?_; rintro e w3 ⟨⟨u, rfl, hu⟩, hb3⟩; obtain ⟨DA, dm, dc, rfl, hr, _⟩ := id hu; obtain rfl : dm = pk.length := hr.1.symm; have HB3 := hi_ hb3; clear hr hu hb3))
     go_ret2
     exact ⟨HBw.out.trans (HB3.out.mono HBw.out.size), .inr ⟨HFN.out, rfl⟩⟩
   | none =>
    have hpx := hpn hfd
    have CF := hi_ (first_none HPr.out hn c k hfd)
    clear hps hpn hfd HFN
    go_wp2_with (first
     | (go_at_call 104; refine CS.out.mono ?_; rintro e w3 ⟨rfl, rfl⟩)
     | (go_at_call 172; refine CF.out.mono ?_; rintro e w3 ⟨rfl, hb3⟩; have HB3 := hi_ hb3; clear hb3)
     | (at_make; refine wpList_mkn _ bytesT rfl (.tmp 43) (.tmp 43) rfl w3.heap.size .i64 .i64 _ _ z rfl rfl rfl rfl (by omega) (by unfold maxLen; omega) (Nat.le_refl _) ?_; intro w6 ho6 hb6; rw [made_bytes, <- hpx] at ho6; have hr6 : Rd w6 (some ⟨w3.heap.size, 0, none⟩) z pk := Rd.of_own' ho6; have hlt6 : w3.heap.size < w6.heap.size := (own_geB ho6 rfl).2; have hu : VB (fun x => w3.heap.size <= x) w6 (.slice (some ⟨w3.heap.size, 0, none⟩) z z) pk := ⟨_, _, _, rfl, hr6, fun b o e _ => by (injection e with e; injection e with e1 e2; omega)⟩; obtain ⟨w4, hw4⟩ : ∃ w4, w4 = w6.alloc (.cells #[.slice (some ⟨w3.heap.size, 0, none⟩) z z] 33) := ⟨_, rfl⟩; have hb4 : Below w6.heap.size w6 w4 := (by rw [hw4]; exact (Below.refl _ _).alloc (Nat.le_refl _) _); have hv4 : VRow (fun x => w6.heap.size <= x) w4 (some ⟨w6.heap.size, 0, none⟩) 1 1 [.slice (some ⟨w3.heap.size, 0, none⟩) z z] := (by rw [hw4]; exact VRow.new w6 #[.slice (some ⟨w3.heap.size, 0, none⟩) z z] _ 1 1 rfl); have HU := hi_ (hu.below hb4); have HB4 := hi_ (HB3.out.trans ((hb6.trans (hb4.mono hb6.size)).mono HB3.out.size)); have HV4 := hi_ hv4; have HW4 := hi_ hw4; clear hu hr6 ho6 hb4 hv4 hw4 hb6)
     | (rw [<- HW4.out])
     | (at_builtin; have G4 := HG.out.below EB.ok HB4.out; refine wpList_appX bbT rfl (.tmp 49) (.tmp 51) rfl w.heap.size _ j vs rfl (by have := G4.ow; rw [HLJ.out] at this; exact this) _ 1 1 _ rfl HV4.out (fun u hu => by rw [List.mem_singleton.1 hu]; rfl) (by omega) (by decide) G4.Bw ?_; intro v5 w5 ho5 hg5 hv5; have G5 := hi_ (G4.put EB.ok rfl ⟨_, rfl, HU.out⟩ (fun y hy e => by have := (own_geB HG.out.ow e).2; have := HB3.out.size; omega) (by rw [HLJ.out]; exact ho5) hg5 hv5); have F5 := hi_ ((HF.out.trans (Fr.ofBelow _ HB4.out)).trans (Fr.grown hg5 HOB.out)); have OB5 := hi_ (show ∀ x, v5.ownBlock = some x -> Two w.heap.size w1.heap.size w2.heap.size x from fun x hx => by (rcases hv5 with hv5 | hv5; exact HOB.out x (hv5 ▸ hx); rw [hv5] at hx; injection hx with hx; have := HF.out.size; have := HB4.out.size; exact .inr (by omega))); clear G4 ho5 hg5 hv5))
    go_roundw
    case rel =>
     refine ⟨j + 1, _, _, hjn, by go_num, (by rw [HPK.out]; exact G5.out), ?_, OB5.out, (by rw [HSN.out, hpx]; exact decide_eq_true (by simp)), F5.out⟩
     intro x hx
     rcases hx with h2 | h2
     ·exact HD.out x h2
     ·exact .inr (by have := h2.1; have := HB3.out.size; have := HF.out.size; omega)
    case measure => simp [intOf]; omega
  ·obtain rfl : j = nc := by omega
   have hBw : Below w.heap.size w wr := HB0.out.trans (hF.toBelow (fun x hx => by rcases hx with hx | hx <;> omega) (by omega))
   have e1 : cs.take j = cs := List.take_of_length_le (by rw [<- HNC.out]; exact Nat.le_refl _)
   rw [e1] at hG hfit
   obtain ⟨RA, rc, hov, _, _, hR⟩ := hG.rows EB.ok
   have hl : (cs.map (pick ps)).length = j := by rw [List.length_map]; exact HNC.out.symm
   rw [hl] at hov hR
   subst hov
   have HR := hi_ hR
   have HBw := hi_ hBw
   have HD := hi_ hD
   have HFT := hi_ hfit
   clear hR hBw hD hfit hG hF hob e1 hl
   go_wp2
   go_ret2
   exact ⟨HBw.out, .inl ⟨HFT.out, _, _, rfl, (EB.rows HR.out).mono (fun x hx => by rcases hx with h2 | h2; exact HD.out x h2; exact .inr h2.1)⟩⟩
end
end Go.Proofs.YtaoinkjjmakhaaaGreatDoor
namespace Go.Proofs.YtaoinkjjmakhaaaGreatDoor
open Go.RowKit
theorem idsTP : El Tryz.prog 66 32 (.agg #[.int .i64 0, .int .i64 0]) 2 16 := ⟨Tryz.underlying66, by kernel_rfl, rfl, by decide⟩
section
variable {w : World} {N : Nat} {tag : Nat -> Nat} {p m : Nat} {v : Value} {q : Nat -> Nat} {sg : Nat} {cs : List (Int × Nat)} {l : List (Int × Int)} {co : Nat -> Co}
theorem TbI.newids (h : TbI w N tag p m v q sg cs l co) {v' : Value} {l' : List (Int × Int)} {w1 : World} (hF : Fr (fun x => v.ownBlock = some x) w w1) (ho : w1.ownsRow 0 32 2 v' l'.length (idc l')) (hv : ∀ x, v'.ownBlock = some x -> v.ownBlock = some x \/ w.heap.size <= x) :
  Rec 163 w1 p #[.int .u64 sg, v, .map (some m)] /\ ∃ tag', TbI (w1.setCell ⟨p, 1, none⟩ v') N tag' p m v' q sg cs l' co /\ TGo w tag (w1.setCell ⟨p, 1, none⟩ v') tag' := by
 have hR := h.blk.fr hF (fun e => by have := h.ti p e; rw [h.tp] at this; omega)
 obtain ⟨w2, hw2⟩ : ∃ w2, w2 = w1.setCell ⟨p, 1, none⟩ v' := ⟨_, rfl⟩
 have hS : Fr (· = p) w1 w2 := by rw [hw2]; exact Fr.setCell (own := (· = p)) w1 (p := ⟨p, 1, none⟩) rfl _
 have hR2 : Rec 163 w2 p #[.int .u64 sg, v', .map (some m)] := by rw [hw2]; exact hR.set 1 v'
 rw [<- hw2]
 refine ⟨hR, ?_⟩
 have hF2 : Fr (fun x => v.ownBlock = some x \/ x = p) w w2 := (hF.mono fun x hx => .inl hx).trans (hS.mono fun x hx => .inr hx)
 have ht : ∀ x, (v.ownBlock = some x \/ x = p) -> tag x = 3 \/ tag x = 1 := fun x hx => by
  rcases hx with hx | hx
  ·exact .inl (h.ti x hx)
  ·exact .inr (by rw [hx]; exact h.tp)
 have hN := h.Nle
 have hs1 := hF.size
 have hs2 := hF2.size
 have kp : ∀ x, tag x ≠ 0 -> (if x < w.heap.size then tag x else if x < w2.heap.size then 3 else 0) = tag x := fun x hx => if_pos (h.dom x hx)
 have hlt : ∀ x, v'.ownBlock = some x -> x < w1.heap.size := fun x hx => (own_geB ho hx).2
 refine ⟨fun x => if x < w.heap.size then tag x else if x < w2.heap.size then 3 else 0, ⟨hR2, ?_, h.mp.fr hF2 (fun e => by have := ht m e; rw [h.tm] at this; omega), fun j hj => ?_, ?_, ?_, fun x hx => ?_, fun x hx => ?_, fun x hx => ?_, h.cz, h.nd⟩, ?_⟩
 ·refine own_fr ho hS (fun x hx e => ?_)
  have e' : x = p := e
  rcases hv x hx with h1 | h1
  ·have := h.ti x h1
   rw [e', h.tp] at this
   omega
  ·have := h.blk.lt
   omega
 ·obtain ⟨u, hu⟩ := h.col j hj
  refine ⟨u, (hu.kept hF2 (fun x hx e => by have := ht x e; omega)).mono fun x hx => ?_⟩
  show (if x < w.heap.size then tag x else if x < w2.heap.size then 3 else 0) = j + 4
  rw [kp x (by rw [hx]; omega), hx]
 ·show (if p < w.heap.size then tag p else _) = 1
  rw [if_pos h.blk.lt, h.tp]
 ·show (if m < w.heap.size then tag m else _) = 2
  rw [if_pos h.mp.lt, h.tm]
 ·show (if x < w.heap.size then tag x else if x < w2.heap.size then 3 else 0) = 3
  rcases hv x hx with h1 | h1
  ·rw [kp x (by rw [h.ti x h1]; decide), h.ti x h1]
  ·rw [if_neg (by omega), if_pos (by have := hlt x hx; have := hS.size; omega)]
 ·have hx' : (if x < w.heap.size then tag x else if x < w2.heap.size then 3 else 0) ≠ 0 := hx
  split at hx'
  ·omega
  ·split at hx'
   ·assumption
   ·exact absurd rfl hx'
 ·have hx' : (if x < w.heap.size then tag x else if x < w2.heap.size then 3 else 0) ≠ 0 := hx
  split at hx'
  ·exact h.lo x hx'
  ·omega
 ·refine ⟨hF2.mono fun x hx => by have := ht x hx; omega, fun x hx => ?_⟩
  have hx' : (if x < w.heap.size then tag x else if x < w2.heap.size then 3 else 0) ≠ 0 := hx
  split at hx'
  ·exact .inl hx'
  ·exact .inr (by omega)
theorem TAdd_full (h : TbI w N tag p m v q sg cs l co) (hl : l.length = 1024) (i g : Int) (A : Option Addr) (n c : Nat) : Calls Tryz.prog 114 #[.pointer (some ⟨p, 0, none⟩), .agg #[.int .i64 i, .int .i64 g], .slice A n c] w fun e w' => e = .returned (.int .i64 9) /\ Below w.heap.size w w' := by
 obtain ⟨IA, ic, rfl, _, _⟩ := h.sl
 obtain ⟨w1, hw1⟩ : ∃ w1, w1 = w.alloc (.cells #[.int .i64 i, .int .i64 g] 32) := ⟨_, rfl⟩
 have hb1 : Below w.heap.size w w1 := by rw [hw1]; exact (Below.refl _ _).alloc (Nat.le_refl _) _
 have c1 := (h.below hb1).c1
 rw [hl] at c1
 clear h hl
 go_enter Tryz.func114, Tryz.ntmps114
 go_wp2_with (rw [<- hw1]; clear hw1)
 go_ret
 exact ⟨rfl, hb1⟩
set_option maxRecDepth 20000 in
theorem TAdd_size {K : Nat -> Prop} {A : Option Addr} {n : Nat} {ps : List Pt} (h : TbI w N tag p m v q sg cs l co) (hz : listZ sg = cs.map (·.1)) (hg : sg < 18446744073709551616) (hT : TabAt w) (hcn : cs.length <= 64)
  (hsz : ∀ j, j < cs.length -> (co j).sz = (cs.getD j (0, 0)).2) (h64 : ∀ j, j < cs.length -> (cs.getD j (0, 0)).2 <= 64) (hp : PartsV K w A n ps) (hn : n <= 1000000) (c : Nat) (hl : l.length < 1024) (hfit : fits ps cs = false) (i g : Int) :
  Calls Tryz.prog 114 #[.pointer (some ⟨p, 0, none⟩), .agg #[.int .i64 i, .int .i64 g], .slice A n c] w fun e w' => e = .returned (.int .i64 7) /\ Below w.heap.size w w' := by
 obtain ⟨IA, ic, rfl, _, _⟩ := h.sl
 obtain ⟨w1, hw1⟩ : ∃ w1, w1 = w.alloc (.cells #[.int .i64 i, .int .i64 g] 32) := ⟨_, rfl⟩
 have hb1 : Below w.heap.size w w1 := by rw [hw1]; exact (Below.refl _ _).alloc (Nat.le_refl _) _
 have H1 := h.below hb1
 have c1 := H1.c1
 have CLY := hi_ (lay_any H1 hz hg (hT.below hb1) hcn hsz h64 (hp.below hb1) hn c)
 have d1 : decide ((l.length : Int) = 1024) = false := decide_eq_false (by omega)
 have HB1 := hi_ hb1
 clear h H1 hz hT hp hsz h64 hb1
 go_enter Tryz.func114, Tryz.ntmps114
 go_wp2_with (first
  | (rw [<- hw1]; clear hw1)
  | (go_at_call 152; refine CLY.out.mono ?_; rintro e w2 ⟨hb2, hh⟩; obtain rfl : e = .returned (.tuple #[nilv, .int .i64 7]) := (by rcases hh with ⟨hh, _⟩ | ⟨_, hh⟩; rw [hfit] at hh; cases hh; exact hh); have HB2 := hi_ hb2; clear hb2 hh))
 go_ret
 exact ⟨rfl, HB1.out.trans (HB2.out.mono HB1.out.size)⟩
set_option maxRecDepth 20000 in
theorem TAdd_ok {K : Nat -> Prop} {A : Option Addr} {n : Nat} {ps : List Pt} (h : TbI w N tag p m v q sg cs l co) (hz : listZ sg = cs.map (·.1)) (hg : sg < 18446744073709551616) (hT : TabAt w) (hcn : cs.length <= 64)
  (hsz : ∀ j, j < cs.length -> (co j).sz = (cs.getD j (0, 0)).2) (h64 : ∀ j, j < cs.length -> (cs.getD j (0, 0)).2 <= 64) (hrw : ∀ j, j < cs.length -> (co j).rows.length = l.length) (hp : PartsV K w A n ps) (hK : ∀ x, K x -> tag x = 0) (hn : n <= 1000000) (c : Nat) (hl : l.length < 1024) (hfit : fits ps cs = true) (i g : Int) :
  Calls Tryz.prog 114 #[.pointer (some ⟨p, 0, none⟩), .agg #[.int .i64 i, .int .i64 g], .slice A n c] w fun e w' => e = .returned (.int .i64 0) /\
   ∃ tag' v', TbI w' N tag' p m v' q sg cs (l ++ [(i, g)]) (fun j => (co j).add (pick ps (cs.getD j (0, 0)))) /\ TGo w tag w' tag' := by
 obtain ⟨IA, ic, rfl, _, _⟩ := h.sl
 obtain ⟨w1, hw1⟩ : ∃ w1, w1 = w.alloc (.cells #[.int .i64 i, .int .i64 g] 32) := ⟨_, rfl⟩
 have hb1 : Below w.heap.size w w1 := by rw [hw1]; exact (Below.refl _ _).alloc (Nat.le_refl _) _
 have hR1 : Rec 32 w1 w.heap.size #[.int .i64 i, .int .i64 g] := by rw [hw1]; exact Rec.new _ _ _
 have H1 := h.below hb1
 have c1 := H1.c1
 have CLY := hi_ (lay_any H1 hz hg (hT.below hb1) hcn hsz h64 (hp.below hb1) hn c)
 have d1 : decide ((l.length : Int) = 1024) = false := decide_eq_false (by omega)
 obtain ⟨nc, hnc⟩ : ∃ nc, nc = cs.length := ⟨_, rfl⟩
 rw [<- hnc] at hcn
 have HNC := hi_ hnc
 have HB1 := hi_ hb1
 have HR1 := hi_ hR1
 have HDm := hi_ h.dom
 have H1 := hi_ H1
 have HT := hi_ hT
 have HH := hi_ h
 clear h hT hp hb1 hR1 hnc
 go_enter Tryz.func114, Tryz.ntmps114
 go_wp2_with (first
  | (rw [<- hw1]; clear hw1)
  | (go_at_call 152; refine CLY.out.mono ?_; rintro e w2 ⟨hb2, hh⟩; obtain ⟨RA, rc, rfl, hR⟩ : ∃ RA rc, e = .returned (.tuple #[.slice RA cs.length rc, .int .i64 0]) /\ RowsV (fun x => (K x /\ x < w1.heap.size) \/ w1.heap.size <= x) w2 RA cs.length (cs.map (pick ps)) := (by rcases hh with ⟨_, hh⟩ | ⟨hh, _⟩; exact hh; rw [hfit] at hh; cases hh); rw [<- HNC.out] at hR ⊢; have HB2 := hi_ hb2; have HRW := hi_ hR; have H2 := hi_ (H1.out.below hb2); have c0 := H2.out.c0; clear hb2 hh hR)
  | (go_at_call 85; refine (tlist_any hz hg (HT.out.below (HB1.out.trans (HB2.out.mono HB1.out.size)))).mono ?_; rintro e w3 ⟨LA, lc, rfl, hI, hb3⟩; rw [<- HNC.out] at hI ⊢; have HI := hi_ hI; have HB3 := hi_ hb3; clear hI hb3 c0))
 have HB0 := hi_ (HB1.out.trans ((HB2.out.trans (HB3.out.mono HB2.out.size)).mono HB1.out.size))
 have H3 := hi_ (H2.out.below HB3.out)
 have HRW3 := hi_ ((HRW.out.below HB3.out).mono (K' := fun x => tag x = 0) (fun x hx => by
  rcases hx with hx | hx
  ·exact hK x hx.1
  ·rcases Nat.eq_zero_or_pos (tag x) with h0 | h0
   ·exact h0
   ·have := HDm.out x (by omega); have := HB1.out.size; omega))
 have HI3 := hi_ (HI.out.mono (K' := fun x => tag x = 0) (fun x hx => by
  rcases Nat.eq_zero_or_pos (tag x) with h0 | h0
  ·exact h0
  ·have := HDm.out x (by omega); have := HB1.out.size; have := HB2.out.size; omega))
 have HR3 := hi_ ((HR1.out.under HB2.out).under HB3.out)
 have hlt3 := HR3.out.lt
 have htag : tag w.heap.size = 0 := by
  rcases Nat.eq_zero_or_pos (tag w.heap.size) with h0 | h0
  ·exact h0
  ·have := HDm.out _ (show tag w.heap.size ≠ 0 by omega); omega
 clear H1 H2 HB1 HB2 HB3 HRW HI HR1 CLY c1
 go_loopw [34] (fun iv wr => ∃ (j : Nat) (tag' : Nat -> Nat), j <= nc /\ iv = .int .i64 j /\ TbI wr N tag' p m (.slice IA l.length ic) q sg cs l (fun a => if a < j then (co a).add (pick ps (cs.getD a (0, 0))) else co a) /\ TGo w3 tag wr tag') (fun iv _ => nc - (intOf iv).toNat)
 case atStart => exact ⟨0, tag, Nat.zero_le _, rfl, H3.out.congr (fun a _ => by rw [if_neg (Nat.not_lt_zero a)]), TGo.refl _ _⟩
 case round =>
  obtain ⟨j, tag', hj, rfl, hI, hG⟩ := hrel
  have st : WStays (fun x => tag x = 0 /\ x < w3.heap.size) w3 wr := ⟨hG.fr.size, fun x hx => hG.fr.block x hx.2 (fun h2 => h2 hx.1)⟩
  by_cases hjn : j < nc
  ·have hjc : j < cs.length := by rw [<- HNC.out]; exact hjn
   have hIj : IntsV (fun x => tag x = 0 /\ x < w3.heap.size) wr LA nc (cs.map (·.1)) := by
    obtain ⟨vs, h1, h2, h3⟩ := HI3.out
    exact IntsV.stays ⟨vs, h1, h2.lt, h3⟩ st
   obtain ⟨b, o, hLA, hblt, kk⟩ := hIj.cell (get_fst hjc)
   subst hLA
   obtain ⟨b2, o2, u, hRA, htb, hb2lt, k2, hu⟩ := (HRW3.out.lt.stays st).atK hjn
   subst hRA
   have ep : (cs.map (pick ps)).getD j [] = pick ps (cs.getD j (0, 0)) := by
    rw [List.getD_eq_getElem?_getD, List.getElem?_map, List.getD_eq_getElem?_getD, List.getElem?_eq_getElem hjc]
    rfl
   rw [ep] at hu
   have hld : Below wr.heap.size wr wr.drew := (Below.refl _ _).drew
   have hId := hI.below hld
   have c2 := hId.c2
   have LK := hId.look hjc
   obtain ⟨cu, hcu⟩ := hId.col j hjc
   simp only [if_neg (Nat.lt_irrefl j)] at hcu
   obtain ⟨DA, dm, dc, rfl, hr, _⟩ := id (hu.below hld)
   have hfl : (pick ps (cs.getD j (0, 0))).length = (co j).sz := by
    rw [hsz j hjc]
    unfold fits at hfit
    rw [List.all_eq_true] at hfit
    have := hfit (cs.getD j (0, 0)) (by rw [List.getD_eq_getElem?_getD, List.getElem?_eq_getElem hjc]; exact List.getElem_mem hjc)
    exact of_decide_eq_true this
   have hdm : dm = (co j).sz := by rw [<- hfl]; exact hr.1.symm
   have CA := hi_ (Add_ok (hId.cdom j) hcu DA dm dc _ hr hdm (by rw [hrw j hjc]; omega))
   obtain ⟨k, hkk⟩ : ∃ k, k = (cs.getD j (0, 0)).1 := ⟨_, rfl⟩
   rw [<- hkk] at kk LK
   have kd := (hld.cell (p := ⟨b2, o2 + j, none⟩) hb2lt).trans k2
   have ht2 : tag' b2 = 0 := by
    rcases Nat.eq_zero_or_pos (tag' b2) with h0 | h0
    ·exact h0
    ·rcases hG.own b2 (by omega) with h1 | h1
     ·exact absurd htb.1 h1
     ·exact absurd htb.2 (by omega)
   have HT2 := hi_ ht2
   have HId := hi_ hId
   have HG := hi_ (hG.trans (TGo.ofBelow hld))
   clear hI hG st hIj hu ep hcu hr hfl hdm hld hId
   clear htb ht2
   have S0 : wr.drew.cell? ⟨p, 2, none⟩ = some (.map (some m)) /\ (Instr.lookup 161 (.map (some m)) (.int .i64 k) false).run Tryz.prog wr.drew = .ok (.pointer (some ⟨q j, 0, none⟩)) wr.drew /\ wr.drew.cell? ⟨b2, o2 + j, none⟩ = some (.slice DA dm dc) := ⟨c2, LK, kd⟩
   have HKK := hi_ hkk
   clear c2 LK hkk
   go_wp2
   go_region_held3 (fun W => W.cell? ⟨p, 2, none⟩ = some (.map (some m)) /\ (Instr.lookup 161 (.map (some m)) (.int .i64 k) false).run Tryz.prog W = .ok (.pointer (some ⟨q j, 0, none⟩)) W /\ W.cell? ⟨b2, o2 + j, none⟩ = some (.slice DA dm dc)) (first | exact S0 | exact S5)
    ((go_at_call 153; refine CA.out.mono ?_; rintro e w5 ⟨rfl, hg5⟩; obtain ⟨tag5, hI5, hG5⟩ := HId.out.turn hjc hg5; have L5 := hI5.look hjc; rw [<- HKK.out] at L5; have S5 : w5.cell? ⟨p, 2, none⟩ = some (.map (some m)) /\ (Instr.lookup 161 (.map (some m)) (.int .i64 k) false).run Tryz.prog w5 = .ok (.pointer (some ⟨q j, 0, none⟩)) w5 /\ w5.cell? ⟨b2, o2 + j, none⟩ = some (.slice DA dm dc) := ⟨hI5.c2, L5, (World.cell?_of_block (w := wr.drew) (a := ⟨b2, o2 + j, none⟩) (hG5.fr.block b2 hb2lt (fun h2 => h2 HT2.out))).trans kd⟩; have HI5 := hi_ hI5; have HG5 := hi_ (HG.out.trans hG5); clear hg5 hI5 hG5 L5))
   go_wp2
   go_roundw
   case rel =>
    refine ⟨j + 1, _, hjn, by go_num, HI5.out.congr (fun a _ => ?_), HG5.out⟩
    by_cases ha : a = j
    ·subst ha
     rw [if_pos rfl, if_pos (Nat.lt_succ_self _)]
    ·rw [if_neg ha]
     by_cases h2 : a < j
     ·rw [if_pos h2, if_pos (by omega)]
     ·rw [if_neg h2, if_neg (by omega)]
   case measure => simp [intOf]; omega
  ·obtain rfl : j = nc := by omega
   have hld : Below wr.heap.size wr wr.drew := (Below.refl _ _).drew
   have hId := hI.below hld
   have HId := hi_ (hId.congr (co' := fun a => (co a).add (pick ps (cs.getD a (0, 0)))) (fun a ha => by rw [if_pos (by rw [HNC.out]; exact ha)]))
   have HG := hi_ (hG.trans (TGo.ofBelow hld))
   have hRd : Rec 32 wr.drew w.heap.size #[.int .i64 i, .int .i64 g] := (HR3.out.fr hG.fr (fun e => e htag)).under hld
   have HRd := hi_ hRd
   have HTB := hi_ (show tag' w.heap.size = 0 by
    rcases Nat.eq_zero_or_pos (tag' w.heap.size) with h0 | h0
    ·exact h0
    ·rcases hG.own _ (show tag' w.heap.size ≠ 0 by omega) with h1 | h1
     ·exact absurd htag h1
     ·omega)
   have hsd : wr.drew.cell? ⟨w.heap.size, 0, none⟩ = some (.int .i64 i) /\ wr.drew.cell? ⟨w.heap.size, 1, none⟩ = some (.int .i64 g) := ⟨hRd.at_ 0, hRd.at_ 1⟩
   clear hI hG hId hRd
   go_wp2
-- REGION13
   refine wp_region_noPanic ?_
   refine wp_region_held_drew (S := fun W => W.cell? ⟨w.heap.size, 0, none⟩ = some (.int .i64 i) /\ W.cell? ⟨w.heap.size, 1, none⟩ = some (.int .i64 g)) (by kernel_rfl) hsd (fun hHeld => ?_)
   refine tk_ 0 ⟨some 51, .move (.tmp 0), 86, "table.go:86", #[], none⟩ hHeld ?_
   simp only [Act.put, sA_, sB_, sC_]
   refine tk_ 1 ⟨some 52, .move (.tmp 0), 86, "table.go:86", #[], none⟩ hHeld ?_
   simp only [Act.put, sA_, sB_, sC_]
   refine tk_ 2 ⟨some 53, .nilCheck (.tmp 52), 0, "table.go:86", #[⟨1, .data⟩], none⟩ hHeld ?_
   simp only [Act.put, sA_, sB_, sC_]
   refine tk_ 3 ⟨some 54, .fieldAddr 163 (.tmp 53) 1, 0, "table.go:86", #[⟨2, .data⟩], none⟩ hHeld ?_
   simp only [Act.put, sA_, sB_, sC_]
   refine tk_ 5 ⟨some 56, .load 32 (.tmp 4), 32, "table.go:86", #[], none⟩ hHeld ?_
   simp only [Act.put, sA_, sB_, sC_]
   refine wpAnyH_ready (rs := [4, 6]) (by kernel_rfl) (by simp) ?_
   refine AllReadyH.cons (o := ⟨some 55, .load 66 (.tmp 54), 66, "table.go:86", #[⟨3, .data⟩], none⟩) rfl (fun K' hK => ?_) (AllReadyH.cons (o := ⟨some 57, .buildSlice 66 1 #[(0, .tmp 56)], 66, "table.go:86", #[⟨5, .data⟩], none⟩) rfl (fun K' hK => ?_) AllReadyH.nil)
   ·have q1 : wr.drew.cell? ⟨p, 1, none⟩ = some (.slice IA l.length ic) := HId.out.c1
    go_simp
    clear q1
    refine hK.out _ _ hsd (fun hHeld => ?_)
    clear hK K'
    try simp only [Act.put, sA_, sB_, sC_]
    refine wpAnyH_ready (rs := [6]) (by kernel_rfl) (by simp) ?_
    refine AllReadyH.cons (o := ⟨some 57, .buildSlice 66 1 #[(0, .tmp 56)], 66, "table.go:86", #[⟨5, .data⟩], none⟩) rfl (fun K' hK => ?_) AllReadyH.nil
    go_simp
    obtain ⟨xB, hxB⟩ : ∃ W, W = wr.drew.alloc (.cells #[.int .i64 i, .int .i64 g] 32) := ⟨_, rfl⟩
    have bB : Below wr.drew.heap.size wr.drew xB := by rw [hxB]; exact (Below.refl _ _).alloc (Nat.le_refl _) _
    have hV : VRow (fun y => wr.heap.size <= y) xB (some ⟨wr.heap.size, 0, none⟩) 1 2 [.int .i64 i, .int .i64 g] := by rw [hxB]; exact VRow.new wr.drew #[.int .i64 i, .int .i64 g] _ 1 2 rfl
    have JB := hi_ (HId.out.below bB)
    have GB := hi_ (HG.out.trans (TGo.ofBelow bB))
    have RB := hi_ (HRd.out.under bB)
    have sB : xB.cell? ⟨w.heap.size, 0, none⟩ = some (.int .i64 i) /\ xB.cell? ⟨w.heap.size, 1, none⟩ = some (.int .i64 g) := ⟨RB.out.at_ 0, RB.out.at_ 1⟩
    have HV := hi_ hV
    first | rw [<- hxB] | (rw [show (wr.alloc (.cells #[.int .i64 i, .int .i64 g] 32)).drew = xB from hxB.symm])
    clear hxB bB hV
    refine hK.out _ _ sB (fun hHeld => ?_)
    clear hK K'
    try simp only [Act.put, sA_, sB_, sC_]
    refine wpAnyH_ready (rs := [7]) (by kernel_rfl) (by simp) ?_
    refine AllReadyH.cons (o := ⟨some 58, .call { callee := .builtin .append, args := #[.tmp 55, .tmp 57], argTypes := #[66, 66] }, 66, "table.go:86", #[⟨4, .data⟩, ⟨6, .data⟩], none⟩) rfl (fun K' hK => ?_) AllReadyH.nil
    refine step_appX (K := fun y => wr.heap.size <= y) idsTP rfl (.tmp 55) (.tmp 57) rfl 0 (.slice IA l.length ic) l.length (idc l) rfl JB.out.ids (some ⟨wr.heap.size, 0, none⟩) 1 1 [.int .i64 i, .int .i64 g] rfl HV.out (fun u hu => by simp at hu; rcases hu with rfl | rfl <;> rfl) (by omega) (by decide) (Nat.zero_le _) ?_
    intro vA xA hoA hgA hvA
    have hFA : Fr (fun y => (Value.slice IA l.length ic).ownBlock = some y) xB xA := Fr.grown hgA (fun y hy => hy)
    obtain ⟨hRA, tagA, hIA, hGA⟩ := JB.out.newids (l' := l ++ [(i, g)]) hFA (by rw [idc_snoc, List.length_append]; exact hoA) (fun x hx => by rcases hvA with h1 | h1; exact .inl (h1 ▸ hx); rw [h1] at hx; injection hx with hx; exact .inr (Nat.le_of_eq hx))
    obtain ⟨AA, cA, e1, _⟩ := own_vrow hoA
    subst e1
    have RA := hi_ (RB.out.fr hFA (fun e => by have := JB.out.ti _ e; have := HTB.out; omega))
    have sA : xA.cell? ⟨w.heap.size, 0, none⟩ = some (.int .i64 i) /\ xA.cell? ⟨w.heap.size, 1, none⟩ = some (.int .i64 g) := ⟨RA.out.at_ 0, RA.out.at_ 1⟩
    have kA : xA.cell? ⟨p, 1, none⟩ = some (.slice IA l.length ic) := hRA.at_ 1
    have fA := hRA.fz 1
    have IA2 := hi_ hIA
    have GA := hi_ (GB.out.trans hGA)
    clear hRA hIA hGA hFA hoA hgA hvA
    refine hK.out _ _ sA (fun hHeld => ?_)
    clear hK K'
    try simp only [Act.put, sA_, sB_, sC_]
    refine tk_ 8 ⟨some 59, .nilCheck (.tmp 51), 0, "table.go:86", #[⟨0, .data⟩, ⟨0, .phase⟩, ⟨1, .phase⟩, ⟨2, .phase⟩, ⟨3, .phase⟩, ⟨4, .phase⟩, ⟨5, .phase⟩, ⟨6, .phase⟩, ⟨7, .phase⟩], none⟩ hHeld ?_
    simp only [Act.put, sA_, sB_, sC_]
    refine tk_ 9 ⟨some 60, .fieldAddr 163 (.tmp 59) 1, 0, "table.go:86", #[⟨8, .data⟩, ⟨0, .phase⟩, ⟨1, .phase⟩, ⟨2, .phase⟩, ⟨3, .phase⟩, ⟨4, .phase⟩, ⟨5, .phase⟩, ⟨6, .phase⟩, ⟨7, .phase⟩], none⟩ hHeld ?_
    simp only [Act.put, sA_, sB_, sC_]
    refine wpAnyH_ready (rs := [10]) (by kernel_rfl) (by simp) ?_
    refine AllReadyH.cons (o := ⟨none, .store 66 (.tmp 60) (.tmp 58), 0, "table.go:86", #[⟨9, .data⟩, ⟨7, .data⟩, ⟨7, .chain⟩, ⟨0, .phase⟩, ⟨1, .phase⟩, ⟨2, .phase⟩, ⟨3, .phase⟩, ⟨4, .phase⟩, ⟨5, .phase⟩, ⟨6, .phase⟩, ⟨7, .phase⟩], none⟩) rfl (fun K' hK => ?_) AllReadyH.nil
    have RX := hi_ (RA.out.fr (Fr.setCell (own := (· = p)) xA (p := ⟨p, 1, none⟩) rfl (.slice AA (l.length + 1) cA)) (fun e => by have e' : w.heap.size = p := e; have := HId.out.tp; rw [<- e'] at this; have := HTB.out; omega))
    have sX : (xA.setCell ⟨p, 1, none⟩ (.slice AA (l.length + 1) cA)).cell? ⟨w.heap.size, 0, none⟩ = some (.int .i64 i) /\ (xA.setCell ⟨p, 1, none⟩ (.slice AA (l.length + 1) cA)).cell? ⟨w.heap.size, 1, none⟩ = some (.int .i64 g) := ⟨RX.out.at_ 0, RX.out.at_ 1⟩
    go_simp
    refine hK.out _ _ sX (fun hHeld => ?_)
    clear hK K'
    try simp only [Act.put]
    refine wpAnyH_done (by kernel_rfl) ?_ _
    refine NoPanic.normal ?_
    obtain ⟨x9, hx9⟩ : ∃ W, W = xA.setCell ⟨p, 1, none⟩ (.slice AA (l.length + 1) cA) := ⟨_, rfl⟩
    rw [<- hx9] at IA2 GA ⊢
    clear hx9 sX sA hsd RX kA fA
    go_wp2
    go_ret
    exact ⟨rfl, tagA, _, IA2.out, (TGo.ofBelow HB0.out).trans GA.out⟩
   ·go_simp
    obtain ⟨xB, hxB⟩ : ∃ W, W = wr.drew.alloc (.cells #[.int .i64 i, .int .i64 g] 32) := ⟨_, rfl⟩
    have bB : Below wr.drew.heap.size wr.drew xB := by rw [hxB]; exact (Below.refl _ _).alloc (Nat.le_refl _) _
    have hV : VRow (fun y => wr.heap.size <= y) xB (some ⟨wr.heap.size, 0, none⟩) 1 2 [.int .i64 i, .int .i64 g] := by rw [hxB]; exact VRow.new wr.drew #[.int .i64 i, .int .i64 g] _ 1 2 rfl
    have JB := hi_ (HId.out.below bB)
    have GB := hi_ (HG.out.trans (TGo.ofBelow bB))
    have RB := hi_ (HRd.out.under bB)
    have sB : xB.cell? ⟨w.heap.size, 0, none⟩ = some (.int .i64 i) /\ xB.cell? ⟨w.heap.size, 1, none⟩ = some (.int .i64 g) := ⟨RB.out.at_ 0, RB.out.at_ 1⟩
    have HV := hi_ hV
    first | rw [<- hxB] | (rw [show (wr.alloc (.cells #[.int .i64 i, .int .i64 g] 32)).drew = xB from hxB.symm])
    clear hxB bB hV
    refine hK.out _ _ sB (fun hHeld => ?_)
    clear hK K'
    try simp only [Act.put, sA_, sB_, sC_]
    refine wpAnyH_ready (rs := [4]) (by kernel_rfl) (by simp) ?_
    refine AllReadyH.cons (o := ⟨some 55, .load 66 (.tmp 54), 66, "table.go:86", #[⟨3, .data⟩], none⟩) rfl (fun K' hK => ?_) AllReadyH.nil
    have q1 : xB.cell? ⟨p, 1, none⟩ = some (.slice IA l.length ic) := JB.out.c1
    go_simp
    clear q1
    refine hK.out _ _ sB (fun hHeld => ?_)
    clear hK K'
    try simp only [Act.put, sA_, sB_, sC_]
    refine wpAnyH_ready (rs := [7]) (by kernel_rfl) (by simp) ?_
    refine AllReadyH.cons (o := ⟨some 58, .call { callee := .builtin .append, args := #[.tmp 55, .tmp 57], argTypes := #[66, 66] }, 66, "table.go:86", #[⟨4, .data⟩, ⟨6, .data⟩], none⟩) rfl (fun K' hK => ?_) AllReadyH.nil
    refine step_appX (K := fun y => wr.heap.size <= y) idsTP rfl (.tmp 55) (.tmp 57) rfl 0 (.slice IA l.length ic) l.length (idc l) rfl JB.out.ids (some ⟨wr.heap.size, 0, none⟩) 1 1 [.int .i64 i, .int .i64 g] rfl HV.out (fun u hu => by simp at hu; rcases hu with rfl | rfl <;> rfl) (by omega) (by decide) (Nat.zero_le _) ?_
    intro vA xA hoA hgA hvA
    have hFA : Fr (fun y => (Value.slice IA l.length ic).ownBlock = some y) xB xA := Fr.grown hgA (fun y hy => hy)
    obtain ⟨hRA, tagA, hIA, hGA⟩ := JB.out.newids (l' := l ++ [(i, g)]) hFA (by rw [idc_snoc, List.length_append]; exact hoA) (fun x hx => by rcases hvA with h1 | h1; exact .inl (h1 ▸ hx); rw [h1] at hx; injection hx with hx; exact .inr (Nat.le_of_eq hx))
    obtain ⟨AA, cA, e1, _⟩ := own_vrow hoA
    subst e1
    have RA := hi_ (RB.out.fr hFA (fun e => by have := JB.out.ti _ e; have := HTB.out; omega))
    have sA : xA.cell? ⟨w.heap.size, 0, none⟩ = some (.int .i64 i) /\ xA.cell? ⟨w.heap.size, 1, none⟩ = some (.int .i64 g) := ⟨RA.out.at_ 0, RA.out.at_ 1⟩
    have kA : xA.cell? ⟨p, 1, none⟩ = some (.slice IA l.length ic) := hRA.at_ 1
    have fA := hRA.fz 1
    have IA2 := hi_ hIA
    have GA := hi_ (GB.out.trans hGA)
    clear hRA hIA hGA hFA hoA hgA hvA
    refine hK.out _ _ sA (fun hHeld => ?_)
    clear hK K'
    try simp only [Act.put, sA_, sB_, sC_]
    refine tk_ 8 ⟨some 59, .nilCheck (.tmp 51), 0, "table.go:86", #[⟨0, .data⟩, ⟨0, .phase⟩, ⟨1, .phase⟩, ⟨2, .phase⟩, ⟨3, .phase⟩, ⟨4, .phase⟩, ⟨5, .phase⟩, ⟨6, .phase⟩, ⟨7, .phase⟩], none⟩ hHeld ?_
    simp only [Act.put, sA_, sB_, sC_]
    refine tk_ 9 ⟨some 60, .fieldAddr 163 (.tmp 59) 1, 0, "table.go:86", #[⟨8, .data⟩, ⟨0, .phase⟩, ⟨1, .phase⟩, ⟨2, .phase⟩, ⟨3, .phase⟩, ⟨4, .phase⟩, ⟨5, .phase⟩, ⟨6, .phase⟩, ⟨7, .phase⟩], none⟩ hHeld ?_
    simp only [Act.put, sA_, sB_, sC_]
    refine wpAnyH_ready (rs := [10]) (by kernel_rfl) (by simp) ?_
    refine AllReadyH.cons (o := ⟨none, .store 66 (.tmp 60) (.tmp 58), 0, "table.go:86", #[⟨9, .data⟩, ⟨7, .data⟩, ⟨7, .chain⟩, ⟨0, .phase⟩, ⟨1, .phase⟩, ⟨2, .phase⟩, ⟨3, .phase⟩, ⟨4, .phase⟩, ⟨5, .phase⟩, ⟨6, .phase⟩, ⟨7, .phase⟩], none⟩) rfl (fun K' hK => ?_) AllReadyH.nil
    have RX := hi_ (RA.out.fr (Fr.setCell (own := (· = p)) xA (p := ⟨p, 1, none⟩) rfl (.slice AA (l.length + 1) cA)) (fun e => by have e' : w.heap.size = p := e; have := HId.out.tp; rw [<- e'] at this; have := HTB.out; omega))
    have sX : (xA.setCell ⟨p, 1, none⟩ (.slice AA (l.length + 1) cA)).cell? ⟨w.heap.size, 0, none⟩ = some (.int .i64 i) /\ (xA.setCell ⟨p, 1, none⟩ (.slice AA (l.length + 1) cA)).cell? ⟨w.heap.size, 1, none⟩ = some (.int .i64 g) := ⟨RX.out.at_ 0, RX.out.at_ 1⟩
    go_simp
    refine hK.out _ _ sX (fun hHeld => ?_)
    clear hK K'
    try simp only [Act.put]
    refine wpAnyH_done (by kernel_rfl) ?_ _
    refine NoPanic.normal ?_
    obtain ⟨x9, hx9⟩ : ∃ W, W = xA.setCell ⟨p, 1, none⟩ (.slice AA (l.length + 1) cA) := ⟨_, rfl⟩
    rw [<- hx9] at IA2 GA ⊢
    clear hx9 sX sA hsd RX kA fA
    go_wp2
    go_ret
    exact ⟨rfl, tagA, _, IA2.out, (TGo.ofBelow HB0.out).trans GA.out⟩
-- END13
end
end Go.Proofs.YtaoinkjjmakhaaaGreatDoor
namespace Go.Proofs.YtaoinkjjmakhaaaGreatDoor
open Go.RowKit
set_option maxRecDepth 20000
theorem partsTP : El Tryz.prog 91 143 (.agg #[.int .i64 0, .slice none 0 0]) 2 32 := ⟨Tryz.underlying91, by kernel_rfl, rfl, by decide⟩
theorem idsl_nil_eq (w : World) (a : Option Addr) (n c n' c' : Nat) : (binOp .eql 66 (.slice a n c) (.slice none n' c')).run Tryz.prog w = .ok (.bool a.isNone) w := Lib.run_eql_slice_nil w _ _ a n c n' c' Tryz.underlying66
section
variable {w : World} {N : Nat} {tag : Nat -> Nat} {p m : Nat} {v : Value} {q : Nat -> Nat} {sg : Nat} {cs : List (Int × Nat)} {l : List (Int × Int)} {co : Nat -> Co}
theorem fst_lt {cs : List (Int × Nat)} {k : Int} {j : Nat} (hj : (cs.findIdx? fun c => decide (c.1 = k)) = some j) : j < cs.length := by
 rw [List.findIdx?_eq_some_iff_getElem] at hj
 obtain ⟨h, _⟩ := hj
 exact h
theorem TSet_no (h : TbI w N tag p m v q sg cs l co) (i : Int) (hi : ¬ (0 <= i /\ i < l.length)) (k : Int) (A : Option Addr) (n c : Nat) : Calls Tryz.prog 64 #[.pointer (some ⟨p, 0, none⟩), .int .i64 i, .int .i64 k, .slice A n c] w fun e w' => e = .returned (.int .i64 2) /\ w = w' := by
 have CF := hi_ (find_no h i hi k)
 clear h hi
 go_enter Tryz.func64, Tryz.ntmps64
 go_wp2_with (go_at_call 117; refine CF.out.mono ?_; rintro e w' ⟨rfl, rfl⟩)
 go_ret
 exact ⟨rfl, rfl⟩
theorem TSet_lacks (h : TbI w N tag p m v q sg cs l co) (i : Int) (hi : 0 <= i /\ i < l.length) {k : Int} (hk : -9223372036854775808 <= k /\ k < 9223372036854775808) (hj : (cs.findIdx? fun c => decide (c.1 = k)) = none) (A : Option Addr) (n c : Nat) :
  Calls Tryz.prog 64 #[.pointer (some ⟨p, 0, none⟩), .int .i64 i, .int .i64 k, .slice A n c] w fun e w' => e = .returned (.int .i64 8) /\ w = w' := by
 have CF := hi_ (find_lacks h i hi hk hj)
 clear h hi hk hj
 go_enter Tryz.func64, Tryz.ntmps64
 go_wp2_with (go_at_call 117; refine CF.out.mono ?_; rintro e w' ⟨rfl, rfl⟩)
 go_ret
 exact ⟨rfl, rfl⟩
theorem TSet_any (h : TbI w N tag p m v q sg cs l co) (i : Int) (hi : 0 <= i /\ i < l.length) {k : Int} (hk : -9223372036854775808 <= k /\ k < 9223372036854775808) {j : Nat} (hj : (cs.findIdx? fun c => decide (c.1 = k)) = some j) (A : Option Addr) (n c : Nat) (b : List UInt8) (hb : Rd w A n b) :
  Calls Tryz.prog 64 #[.pointer (some ⟨p, 0, none⟩), .int .i64 i, .int .i64 k, .slice A n c] w fun e w' => e = .returned (.int .i64 ((co j).go 1 i b).2.2) /\ ∃ tag', TbI w' N tag' p m v q sg cs l (fun a => if a = j then ((co j).go 1 i b).1 else co a) /\ TGo w tag w' tag' := by
 have CF := hi_ (find_ok h i hi hk hj)
 have hjl := fst_lt hj
 obtain ⟨u, hu⟩ := h.col j hjl
 have CS := hi_ (Set_any (h.cdom j) hu i A n c b hb)
 have H := hi_ h
 clear h hk hj hu hb
 go_enter Tryz.func64, Tryz.ntmps64
 go_wp2_with (first
  | (go_at_call 117; refine CF.out.mono ?_; rintro e w' ⟨rfl, rfl⟩)
  | (go_at_call 118; refine CS.out.mono ?_; rintro e w' ⟨rfl, hg⟩; have HG := hi_ (H.out.turn hjl hg); clear hg))
 go_ret
 exact ⟨rfl, HG.out⟩
theorem TCol_no (h : TbI w N tag p m v q sg cs l co) {k : Int} (hk : -9223372036854775808 <= k /\ k < 9223372036854775808) (hj : (cs.findIdx? fun c => decide (c.1 = k)) = none) : Calls Tryz.prog 91 #[.pointer (some ⟨p, 0, none⟩), .int .i64 k] w fun e w' => e = .returned (.tuple #[nilv, .bool false]) /\ w = w' := by
 have c2 := h.c2
 have L := h.look_no hk hj
 clear h hk hj
 go_enter Tryz.func91, Tryz.ntmps91
 go_wp2
 go_ret2
 exact ⟨rfl, rfl⟩
theorem TCol_ok (h : TbI w N tag p m v q sg cs l co) {k : Int} (hk : -9223372036854775808 <= k /\ k < 9223372036854775808) {j : Nat} (hj : (cs.findIdx? fun c => decide (c.1 = k)) = some j) : Calls Tryz.prog 91 #[.pointer (some ⟨p, 0, none⟩), .int .i64 k] w fun e w' =>
  ∃ A n c, e = .returned (.tuple #[.slice A n c, .bool true]) /\ VB (fun x => w.heap.size <= x) w' (.slice A n c) (co j).bytes /\ Below w.heap.size w w' := by
 have c2 := h.c2
 have L := h.look_yes hk hj
 obtain ⟨u, hu⟩ := h.col j (fst_lt hj)
 have CB := hi_ (ClBytes_any hu)
 clear h hk hj hu
 go_enter Tryz.func91, Tryz.ntmps91
 go_wp2_with (go_at_call 139; refine CB.out.mono ?_; rintro e w' ⟨n, rfl, hO, hn, hB⟩; subst hn; have HO := hi_ hO; have HB := hi_ hB; clear hO hB)
 go_ret2
 exact ⟨_, _, _, rfl, ⟨_, _, _, rfl, Rd.of_own' HO.out, fun b o e _ => by injection e with e; injection e with e1 e2; exact ⟨Nat.le_of_eq e1, by rw [<- e1]; exact (own_geB HO.out rfl).2⟩⟩, HB.out⟩
theorem clone_any {K : Nat -> Prop} (A : Option Addr) (n c : Nat) (xs : List (Int × Int)) (hr : IdsV K w A n xs) (hn : n <= 1000000) :
  Calls Tryz.prog 105 #[.slice A n c] w fun e w' => ∃ v, e = .returned v /\ w'.ownsRow w.heap.size 32 2 v n (idc xs) /\ Below w.heap.size w w' := by
 obtain ⟨i0, hi0, hz0, hz1, hz2⟩ := info_parts idsTP.info
 obtain ⟨vs, h1, h2, h3⟩ := hr
 have hvs : vs = idc xs := by
  obtain ⟨ch, rfl, h4, h5, h6⟩ := h3
  unfold idc
  congr 1
  apply List.ext_getElem? 
  intro j
  by_cases hj : j < xs.length
  ·obtain ⟨r, hr, he⟩ := h6 j xs[j] (List.getElem?_eq_getElem hj)
   rw [hr, List.getElem?_map, List.getElem?_eq_getElem hj]
   exact congrArg some he
  ·rw [List.getElem?_eq_none (by omega), List.getElem?_eq_none (by simp; omega)]
 subst hvs
 rcases A with _ | ad
 ·have h0 := h2.2.1 rfl
  subst h0
  have hl : xs = [] := List.eq_nil_of_length_eq_zero h1
  subst hl
  clear h2 h3
  have q := idsl_nil_eq
  go_enter Tryz.func105, Tryz.ntmps105
  go_wp2
  go_ret
  exact ⟨_, rfl, World.ownsRow_nil _ _ _ _, Below.refl _ _⟩
 ·have ho : (w.alloc (.cells #[] 32)).ownsRow w.heap.size 32 2 (.slice (some ⟨w.heap.size, 0, none⟩) 0 0) 0 [] := World.ownsRow_lit w #[] 0 (Nat.le_refl _) (Nat.zero_le _) rfl
  have hv1 := h2.below ((Below.refl _ _).alloc (Nat.le_refl _) (.cells #[] 32))
  have HO := hi_ ho
  have HV1 := hi_ hv1
  have H3 := hi_ h3
  clear h2 hv1 h3 ho
  have q := idsl_nil_eq
  go_enter Tryz.func105, Tryz.ntmps105
  go_wp2_with (at_builtin; refine wpList_appW idsTP rfl (.tmp 5) (.tmp 6) rfl w.heap.size _ 0 [] rfl HO.out (some ad) n c (idc xs) rfl HV1.out (H3.out.one (fun x r hx => ED.one hx)) (by omega) (by decide) (by simp) ?_; intro v2 w2 ho2 hg2; rw [Nat.zero_add, List.nil_append] at ho2)
  go_ret
  exact ⟨_, rfl, ho2, ((Below.refl _ _).alloc (Nat.le_refl _) _).grown hg2 (by simp) (fun q hq => (own_geB HO.out hq).1)⟩
theorem TIDs_nil (w : World) : Calls Tryz.prog 68 #[.pointer none] w fun e w' => e = .returned nilv /\ w = w' := by
 go_enter Tryz.func68, Tryz.ntmps68
 go_wp2
 go_ret
 exact ⟨rfl, rfl⟩
theorem TIDs_any (h : TbI w N tag p m v q sg cs l co) (hl : l.length <= 1024) : Calls Tryz.prog 68 #[.pointer (some ⟨p, 0, none⟩)] w fun e w' => ∃ A c, e = .returned (.slice A l.length c) /\ IdsV (fun x => w.heap.size <= x /\ x < w'.heap.size) w' A l.length l /\ Below w.heap.size w w' := by
 have c1 := h.c1
 obtain ⟨A, c, rfl, _, _, hr⟩ := own_rowsL h.ids (idc_el l) rfl
 have CC := hi_ (clone_any A l.length c l hr (by omega))
 clear h hr
 go_enter Tryz.func68, Tryz.ntmps68
 go_wp2_with (go_at_call 105; refine CC.out.mono ?_; rintro e w' ⟨v, rfl, hO, hB⟩; have HO := hi_ hO; have HB := hi_ hB; clear hO hB)
 go_ret
 obtain ⟨A', c', rfl, _, _, hr'⟩ := own_rowsL HO.out (idc_el l) rfl
 exact ⟨A', c', rfl, hr', HB.out⟩
end
end Go.Proofs.YtaoinkjjmakhaaaGreatDoor
namespace Go.Proofs.YtaoinkjjmakhaaaGreatDoor
open Go.RowKit
set_option maxRecDepth 20000
def rowL (cs : List (Int × Nat)) (co : Nat -> Co) (i n : Nat) : List Pt := (List.range n).map fun j => ((cs.getD j (0, 0)).1, (co j).rows.getD i [])
theorem rowL_succ (cs : List (Int × Nat)) (co : Nat -> Co) (i j : Nat) : rowL cs co i (j + 1) = rowL cs co i j ++ [((cs.getD j (0, 0)).1, (co j).rows.getD i [])] := by
 unfold rowL
 rw [List.range_succ, List.map_append]
 rfl
theorem rowL_len (cs : List (Int × Nat)) (co : Nat -> Co) (i j : Nat) : (rowL cs co i j).length = j := by unfold rowL; simp
section
variable {w : World} {N : Nat} {tag : Nat -> Nat} {p m : Nat} {v : Value} {q : Nat -> Nat} {sg : Nat} {cs : List (Int × Nat)} {l : List (Int × Int)} {co : Nat -> Co}
theorem TParts_no (h : TbI w N tag p m v q sg cs l co) (i : Int) (hi : ¬ (0 <= i /\ i < l.length)) : Calls Tryz.prog 36 #[.pointer (some ⟨p, 0, none⟩), .int .i64 i] w fun e w' => e = .returned (.tuple #[nilv, .int .i64 2]) /\ w = w' := by
 have CF := hi_ (tcheck_no h i hi)
 clear h hi
 go_enter Tryz.func36, Tryz.ntmps36
 go_wp2_with (go_at_call 84; refine CF.out.mono ?_; rintro e w' ⟨rfl, rfl⟩)
 go_ret2
 exact ⟨rfl, rfl⟩
theorem TParts_gr (h : TbI w N tag p m v q sg cs l co) (hz : listZ sg = cs.map (·.1)) (hg : sg < 18446744073709551616) (hT : TabAt w) (hcn : cs.length <= 64) (hrw : ∀ j, j < cs.length -> (co j).rows.length = l.length) (i : Nat) (hi : i < l.length) :
  Calls Tryz.prog 36 #[.pointer (some ⟨p, 0, none⟩), .int .i64 i] w fun e w' => ∃ PA pc vs D, e = .returned (.tuple #[.slice PA cs.length pc, .int .i64 0]) /\ Gr EP 143 2 w' w.heap.size (.slice PA cs.length pc) vs D (rowL cs co i cs.length) /\ (∀ x, D x -> w.heap.size <= x) /\ Below w.heap.size w w' := by
 have CF := hi_ (tcheck_ok h (i : Int) ⟨by omega, by omega⟩)
 have c2 := h.c2
 have CL := h.clen 3
 obtain ⟨nc, hnc⟩ : ∃ nc, nc = cs.length := ⟨_, rfl⟩
 rw [<- hnc] at CL hcn ⊢
 have H := hi_ h
 have HDm := hi_ h.dom
 have HT := hi_ hT
 have HNC := hi_ hnc
 clear h hT hnc
 go_enter Tryz.func36, Tryz.ntmps36
 go_wp2_with (first
  | (go_at_call 84; refine CF.out.mono ?_; rintro e w' ⟨rfl, rfl⟩)
  | (at_make; refine wpList_mk _ partsTP rfl (.const (.int .i64 0)) (.tmp 22) rfl w.heap.size .i64 .i64 _ nc rfl rfl rfl (by omega) (by unfold maxLen; omega) (Nat.le_refl _) ?_; intro v1 w1 hown1 hb1; have H1 := hi_ (H.out.below hb1); have k0 := H1.out.c0; have HB1 := hi_ hb1; have HO1 := hi_ hown1; clear hb1 hown1)
  | (go_at_call 85; refine (tlist_any hz hg (HT.out.below HB1.out)).mono ?_; rintro e w2 ⟨LA, lc, rfl, hI, hb2⟩; rw [<- HNC.out] at hI ⊢; have HI := hi_ hI; have HB2 := hi_ hb2; clear hI hb2 k0))
 have HB0 := hi_ (HB1.out.trans (HB2.out.mono HB1.out.size))
 have G0 := hi_ (Gr.start (E := EP) (α := Int × List UInt8) (own_keep HO1.out HB2.out) (by have := HB1.out.size; have := HB2.out.size; omega : w.heap.size <= w2.heap.size))
 have H2 := hi_ (H1.out.below HB2.out)
 have HOB := hi_ (show ∀ x, v1.ownBlock = some x -> Two w.heap.size w1.heap.size w2.heap.size x from fun x hx => .inl (own_geB HO1.out hx))
 have hs1 := HB1.out.size
 have hs2 := HB2.out.size
 clear H HO1 HB1 HB2 H1 c2 CL
 go_loopw [7, 30] (fun ov iv wr => ∃ (j : Nat) (vs : List Value) (D : Nat -> Prop), j <= nc /\ iv = .int .i64 j /\ Gr EP 143 2 wr w.heap.size ov vs D (rowL cs co i j) /\ (∀ x, D x -> w.heap.size <= x) /\ (∀ x, ov.ownBlock = some x -> Two w.heap.size w1.heap.size w2.heap.size x) /\ Fr (Two w.heap.size w1.heap.size w2.heap.size) w2 wr) (fun _ iv _ => nc - (intOf iv).toNat)
 case atStart => exact ⟨0, [], _, Nat.zero_le _, rfl, G0.out, fun x hx => hx.elim, HOB.out, Fr.refl _ _⟩
 case round =>
  obtain ⟨j, vs, D, hj, rfl, hG, hD, hob, hF⟩ := hrel
  by_cases hjn : j < nc
  ·have hjc : j < cs.length := by rw [<- HNC.out]; exact hjn
   have hss := hF.size
   have hI := HI.out.stays (w' := wr) ⟨hss, fun x hx => hF.block x hx.2 (fun h2 => by rcases h2 with h2 | h2 <;> omega)⟩
   obtain ⟨b, o, hLA, hblt, kk⟩ := hI.cell (get_fst hjc)
   have HLA := hi_ hLA
   subst hLA
   have HR := hi_ (H2.out.kept hF (fun x hx h2 => by have := HDm.out x hx; rcases h2 with h2 | h2 <;> omega))
   have c2 := HR.out.c2
   have LK := HR.out.look hjc
   obtain ⟨cu, hcu⟩ := HR.out.col j hjc
   have CG := hi_ (Get_ok hcu i (by rw [hrw j hjc]; exact hi))
   obtain ⟨k, hkk⟩ : ∃ k, k = (cs.getD j (0, 0)).1 := ⟨_, rfl⟩
   obtain ⟨dd, hdd⟩ : ∃ dd, dd = (co j).rows.getD i [] := ⟨_, rfl⟩
   obtain ⟨z, hzz⟩ : ∃ z, z = (co j).sz := ⟨_, rfl⟩
   have hsn := rowL_succ cs co i j
   rw [<- hdd, <- hkk] at hsn
   rw [<- hkk] at kk LK
   rw [<- hdd, <- hzz] at CG
   have HSN := hi_ hsn
   have HLJ := hi_ (rowL_len cs co i j)
   have HG := hi_ hG
   have HD := hi_ hD
   have HF := hi_ hF
   have HOB := hi_ hob
   clear hsn hkk hdd hzz hcu hG hD hF hob hI
   go_wp2_with (first
    | (go_at_call 86; refine CG.out.mono ?_; rintro e w3 ⟨g, rfl, hg3, ho3, hb3⟩; have hu : VB (fun x => wr.heap.size <= x) w3 (.slice (some ⟨g, 0, none⟩) z z) dd := ⟨_, _, _, rfl, (by have hl3 := ho3.1; rw [cells_length, Nat.mul_one] at hl3; subst hl3; exact Rd.of_own' ho3), fun b o e _ => by (injection e with e; injection e with e1 e2; exact ⟨by omega, by rw [<- e1]; exact (own_geB ho3 rfl).2⟩)⟩; obtain ⟨w4, hw4⟩ : ∃ w4, w4 = w3.alloc (.cells #[.int .i64 k, .slice (some ⟨g, 0, none⟩) z z] 143) := ⟨_, rfl⟩; have hb4 : Below w3.heap.size w3 w4 := (by rw [hw4]; exact (Below.refl _ _).alloc (Nat.le_refl _) _); have hv4 : VRow (fun x => w3.heap.size <= x) w4 (some ⟨w3.heap.size, 0, none⟩) 1 2 [.int .i64 k, .slice (some ⟨g, 0, none⟩) z z] := (by rw [hw4]; exact VRow.new w3 #[.int .i64 k, .slice (some ⟨g, 0, none⟩) z z] _ 1 2 rfl); have HU := hi_ (hu.below hb4); have HB4 := hi_ (hb3.trans (hb4.mono hb3.size)); have HV4 := hi_ hv4; have HW4 := hi_ hw4; clear ho3 hu hb3 hb4 hv4 hw4)
    | (rw [<- HW4.out])
    | (at_builtin; have G4 := HG.out.below EP.ok HB4.out; refine wpList_appX partsTP rfl (.tmp 45) (.tmp 49) rfl w.heap.size _ j vs rfl (by have := G4.ow; rw [HLJ.out] at this; exact this) _ 1 1 _ rfl HV4.out (fun u hu => by simp at hu; rcases hu with rfl | rfl <;> rfl) (by omega) (by decide) G4.Bw ?_; intro v5 w5 ho5 hg5 hv5; have G5 := hi_ (G4.put EP.ok rfl ⟨_, rfl, HU.out⟩ (x := (k, dd)) (fun y hy e => by have := (own_geB HG.out.ow e).2; omega) (by rw [HLJ.out]; exact ho5) hg5 hv5); have F5 := hi_ ((HF.out.trans (Fr.ofBelow _ HB4.out)).trans (Fr.grown hg5 HOB.out)); have OB5 := hi_ (show ∀ x, v5.ownBlock = some x -> Two w.heap.size w1.heap.size w2.heap.size x from fun x hx => by (rcases hv5 with hv5 | hv5; exact HOB.out x (hv5 ▸ hx); rw [hv5] at hx; injection hx with hx; have := HF.out.size; have := HB4.out.size; exact .inr (by omega))); clear G4 ho5 hg5 hv5))
   go_roundw
   case rel =>
    refine ⟨j + 1, _, _, hjn, by go_num, (by rw [HSN.out]; exact G5.out), ?_, OB5.out, F5.out⟩
    intro x hx
    rcases hx with h2 | h2
    ·exact HD.out x h2
    ·have := h2.1
     have := HF.out.size
     omega
   case measure => simp [intOf]; omega
  ·obtain rfl : j = nc := by omega
   have hBw : Below w.heap.size w wr := HB0.out.trans (hF.toBelow (fun x hx => by rcases hx with hx | hx <;> omega) (by omega))
   obtain ⟨RA, rc, hov, _, _, _⟩ := hG.rows EP.ok
   rw [rowL_len] at hov
   subst hov
   have HR := hi_ hG
   have HBw := hi_ hBw
   have HD := hi_ hD
   clear hBw hD hG hF hob
   go_wp2
   go_ret2
   exact ⟨_, _, _, _, rfl, HR.out, HD.out, HBw.out⟩
theorem TParts_ok (h : TbI w N tag p m v q sg cs l co) (hz : listZ sg = cs.map (·.1)) (hg : sg < 18446744073709551616) (hT : TabAt w) (hcn : cs.length <= 64) (hrw : ∀ j, j < cs.length -> (co j).rows.length = l.length) (i : Nat) (hi : i < l.length) :
  Calls Tryz.prog 36 #[.pointer (some ⟨p, 0, none⟩), .int .i64 i] w fun e w' => ∃ PA pc, e = .returned (.tuple #[.slice PA cs.length pc, .int .i64 0]) /\ PartsV (fun x => w.heap.size <= x) w' PA cs.length (rowL cs co i cs.length) /\ Below w.heap.size w w' := by
 refine (TParts_gr h hz hg hT hcn hrw i hi).mono ?_
 rintro e w' ⟨PA, pc, vs, D, rfl, hG, hD, hb⟩
 obtain ⟨RA, rc, hov, _, _, hR⟩ := hG.rows EP.ok
 rw [rowL_len] at hov hR
 injection hov with e1 e2 e3
 subst e1
 exact ⟨_, _, rfl, PartsV.mono hR (fun x hx => by rcases hx with h2 | h2; exact hD x h2; exact h2.1), hb⟩
end
end Go.Proofs.YtaoinkjjmakhaaaGreatDoor
namespace Go.Proofs.YtaoinkjjmakhaaaGreatDoor
open Go.RowKit
section
variable {w : World} {B e r n c sz : Nat} {xs : List Value}
theorem own_setC (h : w.ownsRow B e sz (.slice (some ⟨r, 0, none⟩) n c) n xs) (j : Nat) (v : Value) : (w.setCell ⟨r, j, none⟩ v).ownsRow B e sz (.slice (some ⟨r, 0, none⟩) n c) n (xs.set j v) := by
 refine ⟨by rw [List.length_set]; exact h.1, ?_⟩
 rcases h.2 with ⟨h1, _⟩ | ⟨g, cap, cur, h1, hB, hh, hn, hc, hs, ht⟩
 ·cases h1
 ·injection h1 with h1 h2 h3
  injection h1 with h1
  injection h1 with h1
  subst h1 h3
  refine .inr ⟨r, c, cur.setIfInBounds j v, rfl, hB, heap_setCell_at hh v, hn, hc, by simpa using hs, ?_⟩
  rw [<- ht]
  simp [List.take_set]
theorem own_cur (h : w.ownsRow B e sz (.slice (some ⟨r, 0, none⟩) n c) n xs) : ∃ cur, w.heap[r]? = some (.cells cur e (0, 0)) /\ n <= c /\ cur.size = c * sz := by
 rcases h.2 with ⟨h1, _⟩ | ⟨g, cap, cur, h1, hB, hh, hn, hc, hs, ht⟩
 ·cases h1
 ·injection h1 with h1 h2 h3
  injection h1 with h1
  injection h1 with h1
  subst h1 h3
  exact ⟨cur, hh, hn, hs⟩
theorem own_there (h : w.ownsRow B e sz (.slice (some ⟨r, 0, none⟩) n c) n xs) {o m : Nat} (hm : o + m <= n * sz) : w.there r o m := by
 obtain ⟨cur, hh, hn, hs⟩ := own_cur h
 have := Nat.mul_le_mul_right sz hn
 intro j hj
 refine ⟨?_, frozen_of_row w r _ _ _ hh⟩
 rw [cell_of_row _ _ (o + j) _ _ _ hh, Array.getElem?_eq_getElem (by omega)]
 rfl
theorem own_lessS {A : Option Addr} {m : Nat} (h : w.ownsRow B e sz (.slice A n c) n xs) (hm : m <= n) : w.ownsRow B e sz (.slice A m c) m (xs.take (m * sz)) := by
 obtain ⟨hl, hr⟩ := h
 have := Nat.mul_le_mul_right sz hm
 refine ⟨by rw [List.length_take]; omega, ?_⟩
 rcases hr with ⟨h1, h0⟩ | ⟨g', cap, cur', h1, hB, hh, hn, hc, hs, ht⟩
 ·injection h1 with h1 h2 h3
  subst h1 h3
  exact .inl ⟨by rw [show m = 0 by omega], by omega⟩
 ·injection h1 with h1 h2 h3
  subst h1 h3
  refine .inr ⟨g', c, cur', rfl, hB, hh, by omega, hc, hs, ?_⟩
  rw [<- ht, List.take_take, Nat.min_eq_left this]
theorem Fr.setCells (own : Nat -> Prop) (b : Nat) (hb : own b) : ∀ (vs : List Value) (o : Nat) (w : World), Fr own w (w.setCells b o vs)
 | [], _, w => Fr.refl _ w
 | v :: vs, o, w => (Fr.setCell w (p := ⟨b, o, none⟩) hb v).trans (Fr.setCells own b hb vs (o + 1) (w.setCell ⟨b, o, none⟩ v))
end
theorem res_cTT {P : Program} {w : World} {fn : Func} {p u v : Tmp} {T : TypeId} {tmps : Array Value} {ad : Addr} {x : Value} (h : fn.results = #[.cell p T, .tmp u, .tmp v]) (hp : tmps.getD p undef = .pointer (some ad)) (hl : (loadVar T ad).run P w = .ok x w) :
  (results fn tmps).run P w = .ok (.tuple #[x, tmps.getD u undef, tmps.getD v undef]) w := by
 rw [Array.getD_eq_getD_getElem?] at hp
 simp only [results, h]
 simp [Result.andThen, hp, asAddr, hl]
section
variable {P : Program} {ops : Array Oper} {o : Oper} {a : Act} {w : World} {J : Act -> World -> Prop} {Q : Exit -> Act -> World -> Prop} {E : Prop}
theorem step_stMid (ty : TypeId) (hgd : o.guard = none) (x y : Operand) (ho : o.op = .store ty x y) (b p : Nat) (cells : Array Value) (hx : a.eval x = .pointer (some ⟨b, p, none⟩)) (hy : a.eval y = .agg cells)
  (ht : w.there b p cells.size) (hi : (P.info? ty).map (·.size) = some cells.size) (h1 : cells.all (·.oneCell') = true) (h : J (a.put o.dst undef) (w.setCells b p cells.toList)) :
  if Region.wanted o (yielded ops a.tmps) = true then Oper.wp P o a w J Q else E := by
 have hw : Region.wanted o (yielded ops a.tmps) = true := by simp [Region.wanted, hgd]
 rw [if_pos hw]
 exact wp_store_mid ty x y ho b p cells hx hy ht hi h1 h
end
end Go.Proofs.YtaoinkjjmakhaaaGreatDoor
