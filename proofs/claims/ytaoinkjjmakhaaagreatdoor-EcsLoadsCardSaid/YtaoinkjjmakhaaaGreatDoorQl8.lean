/- TbPB, TbD, TbE, TbF, TbHc, CmL, CmMu, TbH, BitsR, TbT, TbL1, TbLd -/
import Derived.Test.YtaoinkjjmakhaaaGreatDoorQl1
import Derived.Test.YtaoinkjjmakhaaaGreatDoorQl2
import Derived.Test.YtaoinkjjmakhaaaGreatDoorQl3
import Derived.Test.YtaoinkjjmakhaaaGreatDoorQl4
import Derived.Test.YtaoinkjjmakhaaaGreatDoorQl7
import Derived.Deep.RegionHeld3
import Derived.Laws.BitsAllLaws
import Derived.Laws.Bits128
import Derived.Deep.WholeRow
namespace Go.Proofs.YtaoinkjjmakhaaaGreatDoor
open Go.RowKit
set_option maxRecDepth 20000
def chunks (m z : Nat) (b : List UInt8) : List (List UInt8) := (List.range m).map fun i => (b.drop (i * z)).take z
def coOf (cs : List (Int × Nat)) (m : Nat) (cols : List (List UInt8)) (j : Nat) : Co := ⟨(cs.getD j (0, 0)).2, chunks m (cs.getD j (0, 0)).2 (cols.getD j [])⟩
theorem chunks_len {m z : Nat} {b : List UInt8} (h : b.length = m * z) : ∀ r ∈ chunks m z b, r.length = z := by
 intro r hr
 obtain ⟨i, hi, rfl⟩ := List.mem_map.1 hr
 have hi := List.mem_range.1 hi
 rw [List.length_take, List.length_drop, h]
 have : (i + 1) * z <= m * z := Nat.mul_le_mul_right z hi
 rw [Nat.succ_mul] at this
 omega
theorem chunks_flat : ∀ (m z : Nat) (b : List UInt8), b.length = m * z -> (chunks m z b).flatten = b
 | 0, z, b, h => by rw [Nat.zero_mul] at h; rw [List.eq_nil_of_length_eq_zero h]; rfl
 | m + 1, z, b, h => by
  have hb : (b.take (m * z)).length = m * z := by rw [List.length_take, h, Nat.succ_mul]; omega
  have ih := chunks_flat m z (b.take (m * z)) hb
  have e : chunks m z (b.take (m * z)) = chunks m z b := by
   unfold chunks
   refine List.map_congr_left fun i hi => ?_
   have hi := List.mem_range.1 hi
   have : (i + 1) * z <= m * z := Nat.mul_le_mul_right z hi
   rw [Nat.succ_mul] at this
   rw [List.drop_take, List.take_take, Nat.min_eq_left (by omega)]
  rw [e] at ih
  unfold chunks at ih ⊢
  rw [List.range_succ, List.map_append, List.flatten_append, ih]
  simp only [List.map_cons, List.map_nil, List.flatten_cons, List.flatten_nil, List.append_nil]
  rw [List.take_of_length_le (l := b.drop (m * z)) (by rw [List.length_drop, h, Nat.succ_mul]; omega), List.take_append_drop]
theorem coOf_ok {cs : List (Int × Nat)} {m : Nat} {cols : List (List UInt8)} {j : Nat} (hz : (cs.getD j (0, 0)).2 <= 64) (hm : m <= 1024) (h : (cols.getD j []).length = m * (cs.getD j (0, 0)).2) : (coOf cs m cols j).Ok where
 z := hz
 n := by show (chunks _ _ _).length <= 1024; unfold chunks; simp; exact hm
 each := chunks_len h
theorem coOf_bytes {cs : List (Int × Nat)} {m : Nat} {cols : List (List UInt8)} {j : Nat} (h : (cols.getD j []).length = m * (cs.getD j (0, 0)).2) : (coOf cs m cols j).bytes = cols.getD j [] := chunks_flat _ _ _ h
theorem coOf_rows (cs : List (Int × Nat)) (m : Nat) (cols : List (List UInt8)) (j : Nat) : (coOf cs m cols j).rows.length = m := by show (chunks _ _ _).length = m; unfold chunks; simp
def colsFit (cs : List (Int × Nat)) (m : Nat) (cols : List (List UInt8)) (j : Nat) : Prop := ∀ i, i < j -> (cols.getD i []).length = m * (cs.getD i (0, 0)).2
section
variable (lg pg en gn : Int) (A : Option Addr) (n cap : Nat) (ks : List Kd) (w : World)
theorem TLoad_any {K K' : Nat -> Prop} (h : KRd w A n ks) (hn : n <= 1000000) (s : Nat) (hs : s < 18446744073709551616) (hT : TabAt w) (IA : Option Addr) (ic : Nat) (ids : List (Int × Int)) (CA : Option Addr) (cx : Nat) (cols : List (List UInt8))
  (cs : List (Int × Nat)) (hcs : cs = (Tb.new n (zsK ks) s).cs) (hi : IdsV K w IA ids.length ids) (hc : RowsV K' w CA cs.length cols) (hs1 : s &&& ofL (idxs n) 64 = s) (hm : ids.length <= 1024) :
  Calls Tryz.prog 48 #[cv lg pg en gn A n cap, .int .u64 (s : Nat), .slice IA ids.length ic, .slice CA cs.length cx] w fun e w' => Below w.heap.size w w' /\
   ((colsFit cs ids.length cols cs.length /\ ∃ p m v q tag, e = .returned (.tuple #[.pointer (some ⟨p, 0, none⟩), .int .i64 0]) /\ TbI w' w.heap.size tag p m v q s cs ids (coOf cs ids.length cols)) \/
   (¬ colsFit cs ids.length cols cs.length /\ e = .returned (.tuple #[.pointer none, .int .i64 11]))) := by
 have hcnew := Tb.new_ok n (zsK ks) s
 have hcl : cs.length <= 64 := by rw [hcs]; exact hcnew.cn
 have hz64 : ∀ j, j < cs.length -> (cs.getD j (0, 0)).2 <= 64 := fun j hj => by
  have e : cs.getD j (0, 0) = cs[j] := by simp [List.getD, List.getElem?_eq_getElem hj]
  rw [e]
  refine hcnew.z _ ?_
  rw [<- hcs]
  exact List.getElem_mem hj
 have hzs := new_cs n (zsK ks) s
 rw [hs1, <- hcs] at hzs
 obtain ⟨w1, hw1⟩ : ∃ w1, w1 = w.alloc (.cells (cc lg pg en gn A n cap) 24) := ⟨_, rfl⟩
 have hb1 : Below w.heap.size w w1 := by rw [hw1]; exact (Below.refl _ _).alloc (Nat.le_refl _) _
 have HR1 := hi_ (show Rec 24 w1 w.heap.size (cc lg pg en gn A n cap) by rw [hw1]; exact Rec.new _ _ _)
 have CN := TNew_any lg pg en gn A n cap ks w1 (h.below hb1) hn s hs (hT.below hb1)
 rw [hs1, <- hcs] at CN
 have CN := hi_ CN
 have HB1 := hi_ hb1
 have HT := hi_ hT
 have HIds := hi_ hi
 have HC := hi_ hc
 have HZ64 := hi_ hz64
 obtain ⟨nc, hnc⟩ : ∃ nc, nc = cs.length := ⟨_, rfl⟩
 obtain ⟨m, hmm⟩ : ∃ m, m = ids.length := ⟨_, rfl⟩
 rw [<- hnc] at hcl ⊢
 rw [<- hmm] at hm ⊢
 have HNC := hi_ hnc
 have HM := hi_ hmm
 have d3 : decide ((1024 : Int) < (m : Int)) = false := decide_eq_false (by omega)
 have d4 : decide (1024 < m) = false := decide_eq_false (by omega)
 clear h hT hb1 hs1 hi hc hz64 hnc hmm hcs hcnew
 go_enter Tryz.func48, Tryz.ntmps48
 go_wp2_with (first
  | (rw [<- hw1]; clear hw1)
  | (with_reducible refine wpList_ldS confT rfl rfl (.tmp 4) rfl rfl HR1.out ?_)
  | (go_at_call 102; refine CN.out.mono ?_; rintro e w2 ⟨p, mm, q, tag, rfl, hI, hb2⟩; have c0 := hI.c0; have c2 := hI.c2; have CL := hI.clen 3; rw [<- HNC.out] at CL; have HB2 := hi_ hb2; have HI2 := hi_ hI; clear hI hb2)
  | (go_at_call 85; refine (tlist_any hzs hs (HT.out.below (HB1.out.trans (HB2.out.mono HB1.out.size)))).mono ?_; rintro e w3 ⟨LA, lc, rfl, hLI, hb3⟩; rw [<- HNC.out] at hLI ⊢; have HLI := hi_ hLI; have HB3 := hi_ hb3; clear hLI hb3 c0 c2 CL))
 have hs1 := HB1.out.size
 have hs2 := HB2.out.size
 have hs3 := HB3.out.size
 have HB0 := hi_ (HB1.out.trans ((HB2.out.trans (HB3.out.mono HB2.out.size)).mono HB1.out.size))
 have H3 := hi_ ({ HI2.out.below HB3.out with lo := fun x hx => Nat.le_trans hs1 (HI2.out.lo x hx) } : TbI w3 w.heap.size tag p mm nilv q s cs [] (noCo cs))
 have HT3 := hi_ (show ∀ x, tag x ≠ 0 -> Two w.heap.size w2.heap.size w3.heap.size x from fun x hx => .inl ⟨Nat.le_trans hs1 (HI2.out.lo x hx), HI2.out.dom x hx⟩)
 clear HI2 HB1 HB2 HB3 CN HR1
 go_loopw [42] (fun iv wr => ∃ (j : Nat) (q' tag' : Nat -> Nat), j <= nc /\ iv = .int .i64 j /\ TbI wr w.heap.size tag' p mm nilv q' s cs [] (fun a => if a < j then coOf cs m cols a else noCo cs a) /\ colsFit cs m cols j /\ Fr (Two w.heap.size w2.heap.size w3.heap.size) w3 wr /\ (∀ x, tag' x ≠ 0 -> Two w.heap.size w2.heap.size w3.heap.size x)) (fun iv _ => nc - (intOf iv).toNat)
 case atStart => exact ⟨0, q, tag, Nat.zero_le _, rfl, H3.out.congr (fun a _ => by rw [if_neg (Nat.not_lt_zero a)]), fun i hi => absurd hi (Nat.not_lt_zero i), Fr.refl _ _, HT3.out⟩
 case round =>
  obtain ⟨j, q', tag', hj, rfl, hI, hfit, hF, hTw⟩ := hrel
  have hss := hF.size
  have hBw : Below w.heap.size w wr := HB0.out.trans (hF.toBelow (fun x hx => by rcases hx with hx | hx <;> omega) (by omega))
  by_cases hjn : j < nc
  ·have hjc : j < cs.length := by rw [<- HNC.out]; exact hjn
   have hIj := HLI.out.stays (w' := wr) ⟨hss, fun x hx => hF.block x hx.2 (fun h2 => by rcases h2 with h2 | h2 <;> omega)⟩
   obtain ⟨b, o, hLA, hblt, kk⟩ := hIj.cell (get_fst hjc)
   have HLA := hi_ hLA
   subst hLA
   have hrv := HC.out.below hBw
   rw [<- HNC.out] at hrv
   obtain ⟨b2, o2, u, hCA, _, hb2lt, k2, hu⟩ := hrv.atK hjn
   have HCA := hi_ hCA
   subst hCA
   have hld : Below wr.heap.size wr wr.drew := (Below.refl _ _).drew
   have hId := hI.below hld
   have c2 := hId.c2
   have LK := hId.look hjc
   obtain ⟨cu, hcu⟩ := hId.col j hjc
   simp only [if_neg (Nat.lt_irrefl j)] at hcu
   have CS := ClSize_any hcu
   have hzz := HZ64.out j hjc
   obtain ⟨DA, dm, dc, rfl, hr, _⟩ := id (hu.below hld)
   have hdl := hr.1
   obtain ⟨k, hkk⟩ : ∃ k, k = (cs.getD j (0, 0)).1 := ⟨_, rfl⟩
   obtain ⟨z, hz⟩ : ∃ z, z = (cs.getD j (0, 0)).2 := ⟨_, rfl⟩
   have CS : Calls Tryz.prog 104 #[.pointer (some ⟨q' j, 0, none⟩)] wr.drew fun e w' => e = .returned (.int .i64 (z : Nat)) /\ wr.drew = w' := by rw [hz]; exact CS
   rw [<- hkk] at kk LK
   rw [<- hz] at hzz
   have kd := (hld.cell (p := ⟨b2, o2 + j, none⟩) hb2lt).trans k2
   have S0 : wr.drew.cell? ⟨p, 2, none⟩ = some (.map (some mm)) /\ (Instr.lookup 161 (.map (some mm)) (.int .i64 k) false).run Tryz.prog wr.drew = .ok (.pointer (some ⟨q' j, 0, none⟩)) wr.drew /\ wr.drew.cell? ⟨b2, o2 + j, none⟩ = some (.slice DA dm dc) := ⟨c2, LK, kd⟩
   have CS := hi_ CS
   have HId := hi_ hId
   have HF := hi_ hF
   have HTw := hi_ hTw
   have HKK := hi_ hkk
   have HFIT := hi_ hfit
   have HBw := hi_ hBw
   by_cases hf : (cols.getD j []).length = m * z
   ·have hlo : ∀ (_ : True), Calls Tryz.prog 103 #[.int .i64 (z : Nat), .int .i64 (m : Nat), .slice DA dm dc] wr.drew fun e w' => e = .returned (.tuple #[.pointer (some ⟨wr.drew.heap.size, 0, none⟩), .int .i64 0]) /\ Below wr.drew.heap.size wr.drew w' /\ ∃ v, ClAt w' (fun x => wr.drew.heap.size <= x /\ x < w'.heap.size) wr.drew.heap.size v (coOf cs m cols j) := fun _ => by
     have hf' : (cols.getD j []).length = m * (cs.getD j (0, 0)).2 := by rw [<- hz]; exact hf
     have := Load_ok (z : Int) (coOf cs m cols j) (coOf_ok (by rw [<- hz]; exact hzz) hm hf') (by show (cs.getD j (0, 0)).2 = (min (max (z : Int) 0) 64).toNat; rw [<- hz]; omega) DA dm dc (by rw [coOf_bytes hf']; exact hr)
     rw [coOf_rows] at this
     exact this
    have CLO := hi_ (hlo trivial)
    have hfit' : colsFit cs m cols (j + 1) := fun i hi => by
     by_cases e : i = j
     ·subst e; rw [<- hz]; exact hf
     ·exact hfit i (by omega)
    have HFIT' := hi_ hfit'
    have hcn0 : colAt cs q' k = some (.pointer (some ⟨q' j, 0, none⟩)) := by rw [hkk]; exact colAt_at hId.nd hjc
    have HCN := hi_ hcn0
    have hk64 : 0 <= k /\ k < 64 := by
     have e : cs.getD j (0, 0) = cs[j] := by simp [List.getD, List.getElem?_eq_getElem hjc]
     rw [hkk, e]
     exact hId.cz _ (List.getElem_mem hjc)
    have HK64 := hi_ hk64
    clear hI hF hTw hIj hrv hu hld hcu hr hkk hz hfit hlo hfit' hcn0 hk64 hId c2 LK hdl hf hBw
    go_wp2
    go_region_held3 (fun W => W.cell? ⟨p, 2, none⟩ = some (.map (some mm)) /\ (Instr.lookup 161 (.map (some mm)) (.int .i64 k) false).run Tryz.prog W = .ok (.pointer (some ⟨q' j, 0, none⟩)) W /\ W.cell? ⟨b2, o2 + j, none⟩ = some (.slice DA dm dc)) (first | exact S0 | exact S5)
     ((first
      | (go_at_call 104; refine CS.out.mono ?_; rintro e w5 ⟨rfl, rfl⟩)
      | (go_at_call 103; refine CLO.out.mono ?_; rintro e w5 ⟨rfl, hb5, cv5, hc5⟩; have I5 := HId.out.below hb5; have L5 := I5.look hjc; rw [<- HKK.out] at L5; have S5 : w5.cell? ⟨p, 2, none⟩ = some (.map (some mm)) /\ (Instr.lookup 161 (.map (some mm)) (.int .i64 k) false).run Tryz.prog w5 = .ok (.pointer (some ⟨q' j, 0, none⟩)) w5 /\ w5.cell? ⟨b2, o2 + j, none⟩ = some (.slice DA dm dc) := ⟨I5.c2, L5, (hb5.cell (p := ⟨b2, o2 + j, none⟩) hb2lt).trans kd⟩; have HB5 := hi_ hb5; have HC5 := hi_ hc5; have HI5 := hi_ I5; clear hb5 hc5 I5 L5)))
    have c5 := S5.1
    clear S0 S5 kd k2 kk
    go_wp2_with (first
     | (at_mapUpdate; refine wpList_putZ (z := .pointer none) (m := mm) (n := cs.length) (f := colAt cs q') Tryz.underlying3 Tryz.underlying161 (by rfl) (.tmp 70) (.tmp 71) (.tmp 72) rfl HI5.out.mp (by rw [<- HNC.out]; omega) (i := k) (by have := HK64.out; omega) (.pointer (some ⟨wr.heap.size, 0, none⟩)) rfl rfl rfl ?_; intro w7 hm7 hg7; rw [HCN.out] at hm7; rw [HKK.out] at hm7; obtain ⟨tag7, hI7, hT7⟩ := HId.out.swap hjc HB5.out HC5.out (by simp) hm7 hg7; have I7 := hi_ hI7; have F7 := hi_ ((HF.out.trans (Fr.ofBelow _ ((Below.refl _ _).drew.trans HB5.out))).trans (Fr.grown hg7 (fun x hx => by injection hx with hx; rw [<- hx]; exact HTw.out mm (by rw [HId.out.tm]; decide)))); have T7 := hi_ (show ∀ x, tag7 x ≠ 0 -> Two w.heap.size w2.heap.size w3.heap.size x from fun x hx => by rcases hT7 x hx with h1 | h1; exact HTw.out x h1; exact .inr (Nat.le_trans hss h1)); clear hm7 hg7 hI7 hT7))
    go_roundw
    case rel =>
     refine ⟨j + 1, _, _, hjn, by go_num, I7.out.congr (fun a _ => ?_), HFIT'.out, F7.out, T7.out⟩
     by_cases ha : a = j
     ·subst ha
      rw [if_pos rfl, if_pos (Nat.lt_succ_self _)]
     ·rw [if_neg ha]
      by_cases h2 : a < j
      ·rw [if_pos h2, if_pos (by omega)]
      ·rw [if_neg h2, if_neg (by omega)]
    case measure => simp [intOf]; omega
   ·have CLO := hi_ (ClLoad_no z m hzz hm DA dm dc (by rw [<- hdl]; exact hf) wr.drew)
    have hbad : ¬ colsFit cs m cols nc := fun h => hf (by rw [hz]; exact h j hjn)
    have HBAD := hi_ hbad
    clear hI hF hTw hIj hrv hu hld hcu hr hkk hz hfit hId c2 LK hdl hf hBw hbad
    go_wp2
    go_region_held3 (fun W => W.cell? ⟨p, 2, none⟩ = some (.map (some mm)) /\ (Instr.lookup 161 (.map (some mm)) (.int .i64 k) false).run Tryz.prog W = .ok (.pointer (some ⟨q' j, 0, none⟩)) W /\ W.cell? ⟨b2, o2 + j, none⟩ = some (.slice DA dm dc)) (first | exact S0 | exact S5)
     ((first
      | (go_at_call 104; refine CS.out.mono ?_; rintro e w5 ⟨rfl, rfl⟩)
      | (go_at_call 103; refine CLO.out.mono ?_; rintro e w5 ⟨rfl, hb5⟩; have I5 := HId.out.below hb5; have L5 := I5.look hjc; rw [<- HKK.out] at L5; have S5 : w5.cell? ⟨p, 2, none⟩ = some (.map (some mm)) /\ (Instr.lookup 161 (.map (some mm)) (.int .i64 k) false).run Tryz.prog w5 = .ok (.pointer (some ⟨q' j, 0, none⟩)) w5 /\ w5.cell? ⟨b2, o2 + j, none⟩ = some (.slice DA dm dc) := ⟨I5.c2, L5, (hb5.cell (p := ⟨b2, o2 + j, none⟩) hb2lt).trans kd⟩; have HB5 := hi_ hb5; clear hb5 I5 L5)))
    clear S0 S5 kd k2 kk
    go_wp2
    go_ret2
    exact ⟨HBw.out.trans (((Below.refl _ _).drew.trans HB5.out).mono HBw.out.size), .inr ⟨HBAD.out, rfl⟩⟩
  ·obtain rfl : j = nc := by omega
   have hI' := hI.congr (co' := coOf cs m cols) (fun a ha => by rw [if_pos (by rw [HNC.out]; exact ha)])
   have hids := HIds.out.below hBw
   rw [<- HM.out] at hids
   have CC := hi_ (clone_any IA m ic ids hids (by omega))
   have HIr := hi_ hI'
   have HBw := hi_ hBw
   have HFIT := hi_ hfit
   clear hI hI' hF hTw hids hBw hfit
   go_wp2_with (first
    | (go_at_call 105; refine CC.out.mono ?_; rintro e w6 ⟨v6, rfl, ho6, hb6⟩; obtain ⟨hR6, tag6, hI6, hG6⟩ := HIr.out.newids (l' := ids) (v' := v6) (Fr.ofBelow _ hb6) (by rw [<- HM.out]; exact own_mono ho6 (Nat.zero_le _)) (fun x hx => .inr (own_geB ho6 hx).1); have k6 : w6.cell? ⟨p, 1, none⟩ = some nilv := hR6.at_ 1; have z6 := hR6.fz 1; have HI6 := hi_ hI6; have HG6 := hi_ hG6; obtain ⟨IA6, ic6, hv6, _⟩ := own_vrow ho6; subst hv6; clear hR6 hI6 hG6 ho6 hb6))
   go_ret2
   exact ⟨HBw.out.trans (HG6.out.toBelow HIr.out.lo HBw.out.size), .inl ⟨HFIT.out, _, _, _, _, _, rfl, HI6.out⟩⟩
end
end Go.Proofs.YtaoinkjjmakhaaaGreatDoor
namespace Go.Proofs.YtaoinkjjmakhaaaGreatDoor
open Go.RowKit
set_option maxRecDepth 20000
structure TbA (w : World) (N : Nat) (tag : Nat -> Nat) (p m : Nat) (v : Value) (q : Nat -> Nat) (sg : Nat) (t : Tb) : Prop where
 i : TbI w N tag p m v q sg t.cs t.ids t.co
 ok : t.Ok
 sig : listZ sg = t.cs.map (·.1)
 sgl : sg < 18446744073709551616
def TStep (w : World) (N : Nat) (tag : Nat -> Nat) (p m : Nat) (q : Nat -> Nat) (sg : Nat) (t' : Tb) (w' : World) : Prop := ∃ tag' v', TbA w' N tag' p m v' q sg t' /\ TGo w tag w' tag'
abbrev In64 (k : Int) : Prop := -9223372036854775808 <= k /\ k < 9223372036854775808
theorem VB.non (K : Nat -> Prop) (w : World) : VB K w (.slice none 0 0) [] := ⟨none, 0, 0, rfl, Rd.nil _ _, fun b o e _ => by cases e⟩
section
variable {w w' : World} {N : Nat} {tag : Nat -> Nat} {p m : Nat} {v : Value} {q : Nat -> Nat} {sg : Nat} {t t' : Tb}
theorem TbA.below (h : TbA w N tag p m v q sg t) (hb : Below w.heap.size w w') : TbA w' N tag p m v q sg t := ⟨h.i.below hb, h.ok, h.sig, h.sgl⟩
theorem TbA.kept {own' : Nat -> Prop} (h : TbA w N tag p m v q sg t) (hf : Fr own' w w') (hd : ∀ x, tag x ≠ 0 -> ¬ own' x) : TbA w' N tag p m v q sg t := ⟨h.i.kept hf hd, h.ok, h.sig, h.sgl⟩
theorem TbA.still (h : TbA w N tag p m v q sg t) (hb : Below w.heap.size w w') : TStep w N tag p m q sg t w' := ⟨tag, v, h.below hb, TGo.ofBelow hb⟩
theorem TbA.hrw (_h : TbA w N tag p m v q sg t) : ∀ j, j < t.cs.length -> (t.co j).rows.length = t.ids.length := fun j _ => by rw [t.co_len, t.ids_len]
theorem TbA.h64 (h : TbA w N tag p m v q sg t) : ∀ j, j < t.cs.length -> (t.cs.getD j (0, 0)).2 <= 64 := fun j hj => by
 rw [getD_at hj]
 exact h.ok.z _ (List.getElem_mem hj)
theorem TSet_go (h : TbA w N tag p m v q sg t) (id : Int × Int) (ps : List Pt) (row comp : Int) (hk : In64 comp) (A : Option Addr) (n c : Nat) (b : List UInt8) (hb : Rd w A n b) :
  Calls Tryz.prog 64 #[.pointer (some ⟨p, 0, none⟩), .int .i64 row, .int .i64 comp, .slice A n c] w fun e w' => e = .returned (.int .i64 (t.go ⟨1, id, ps, row, comp, b⟩).2.err) /\ TStep w N tag p m q sg (t.go ⟨1, id, ps, row, comp, b⟩).1 w' := by
 by_cases hr : 0 <= row /\ row < t.rows.length
 ·have hri : 0 <= row /\ row < t.ids.length := by rw [t.ids_len]; exact hr
  cases hat : t.at_ comp with
  | none =>
   have e : t.go ⟨1, id, ps, row, comp, b⟩ = (t, .e 8) := by
    unfold Tb.go
    simp only
    rw [if_neg (by decide), if_pos hr, if_neg (by decide), if_neg (by decide), hat]
   rw [e]
   refine (TSet_lacks h.i row hri hk hat A n c).mono ?_
   rintro e w' ⟨rfl, rfl⟩
   exact ⟨rfl, h.still (Below.refl _ _)⟩
  | some k =>
   have hkl := Tb.at_lt hat
   refine (TSet_any h.i row hri hk hat A n c b hb).mono ?_
   rintro e w' ⟨rfl, tag', hI, hG⟩
   obtain ⟨i, rfl⟩ : ∃ i : Nat, row = (i : Int) := ⟨row.toNat, by omega⟩
   have hi : i < t.rows.length := by omega
   have hco : 0 <= (i : Int) /\ (i : Int) < (t.co k).rows.length := by rw [t.co_len]; exact hr
   by_cases hl : b.length = (t.cs.getD k (0, 0)).2
   ·have e : t.go ⟨1, id, ps, i, comp, b⟩ = (⟨t.cs, t.rows.set i ((t.rows.getD i noEn).1, (t.rows.getD i noEn).2.set k (((t.rows.getD i noEn).2.getD k (0, [])).1, b))⟩, .e 0) := by
     unfold Tb.go
     simp only
     rw [if_neg (by decide), if_pos hr, if_neg (by decide), if_neg (by decide), hat]
     simp only
     rw [if_neg (by decide), if_pos hl]
     rfl
    have e2 : (t.co k).go 1 i b = ((t.co k).set i b, [], 0) := by
     unfold Co.go
     rw [if_pos rfl, if_pos hco, if_pos (show b.length = (t.co k).sz from hl)]
     rfl
    have hok := h.ok.go ⟨1, id, ps, i, comp, b⟩
    rw [e] at hok ⊢
    rw [e2] at hI ⊢
    refine ⟨rfl, tag', v, ⟨?_, hok, h.sig, h.sgl⟩, hG⟩
    have := hI.congr (co' := Tb.co ⟨t.cs, t.rows.set i ((t.rows.getD i noEn).1, (t.rows.getD i noEn).2.set k (((t.rows.getD i noEn).2.getD k (0, [])).1, b))⟩) (fun a ha => by
     rw [Tb.co_set h.ok hi hkl.1 b a ha])
    rw [<- Tb.ids_set hi ((t.rows.getD i noEn).2.set k (((t.rows.getD i noEn).2.getD k (0, [])).1, b))] at this
    exact this
   ·have e : t.go ⟨1, id, ps, i, comp, b⟩ = (t, .e 7) := by
     unfold Tb.go
     simp only
     rw [if_neg (by decide), if_pos hr, if_neg (by decide), if_neg (by decide), hat]
     simp only
     rw [if_neg (by decide), if_neg hl]
    have e2 : (t.co k).go 1 i b = (t.co k, [], 7) := by
     unfold Co.go
     rw [if_pos rfl, if_pos hco, if_neg (show ¬ b.length = (t.co k).sz from hl)]
    rw [e]
    rw [e2] at hI ⊢
    refine ⟨rfl, tag', v, ⟨hI.congr (fun a _ => ?_), h.ok, h.sig, h.sgl⟩, hG⟩
    by_cases ha : a = k
    ·rw [if_pos ha, ha]
    ·rw [if_neg ha]
 ·have hri : ¬ (0 <= row /\ row < t.ids.length) := by rw [t.ids_len]; exact hr
  have e : t.go ⟨1, id, ps, row, comp, b⟩ = (t, .e 2) := by
   unfold Tb.go
   simp only
   rw [if_neg (by decide), if_neg hr]
  rw [e]
  refine (TSet_no h.i row hri comp A n c).mono ?_
  rintro e w' ⟨rfl, rfl⟩
  exact ⟨rfl, h.still (Below.refl _ _)⟩
theorem TParts_go (h : TbA w N tag p m v q sg t) (hT : TabAt w) (id : Int × Int) (ps : List Pt) (row comp : Int) (b : List UInt8) :
  Calls Tryz.prog 36 #[.pointer (some ⟨p, 0, none⟩), .int .i64 row] w fun e w' => (∃ A n c, e = .returned (.tuple #[.slice A n c, .int .i64 (t.go ⟨3, id, ps, row, comp, b⟩).2.err]) /\ (t.go ⟨3, id, ps, row, comp, b⟩).2 = { Tl.e (t.go ⟨3, id, ps, row, comp, b⟩).2.err with parts := (t.go ⟨3, id, ps, row, comp, b⟩).2.parts } /\ PartsV (fun x => w.heap.size <= x) w' A n (t.go ⟨3, id, ps, row, comp, b⟩).2.parts) /\ (t.go ⟨3, id, ps, row, comp, b⟩).1 = t /\ Below w.heap.size w w' := by
 by_cases hr : 0 <= row /\ row < t.rows.length
 ·obtain ⟨i, rfl⟩ : ∃ i : Nat, row = (i : Int) := ⟨row.toNat, by omega⟩
  have hi : i < t.rows.length := by omega
  have e : t.go ⟨3, id, ps, i, comp, b⟩ = (t, { Tl.e 0 with parts := (t.rows.getD i noEn).2 }) := by
   unfold Tb.go
   simp only
   rw [if_neg (by decide), if_pos hr, if_pos trivial]
   rfl
  rw [e]
  refine (TParts_ok h.i h.sig h.sgl hT h.ok.cn h.hrw i (by rw [t.ids_len]; exact hi)).mono ?_
  rintro e w' ⟨PA, pc, rfl, hP, hB⟩
  rw [Tb.rowL_eq h.ok hi] at hP
  exact ⟨⟨_, _, _, rfl, rfl, hP⟩, rfl, hB⟩
 ·have hri : ¬ (0 <= row /\ row < t.ids.length) := by rw [t.ids_len]; exact hr
  have e : t.go ⟨3, id, ps, row, comp, b⟩ = (t, .e 2) := by
   unfold Tb.go
   simp only
   rw [if_neg (by decide), if_neg hr]
  rw [e]
  refine (TParts_no h.i row hri).mono ?_
  rintro e w' ⟨rfl, rfl⟩
  exact ⟨⟨_, _, _, rfl, rfl, PartsV.nil _ _ _⟩, rfl, Below.refl _ _⟩
theorem TDrop_go (h : TbA w N tag p m v q sg t) (hT : TabAt w) (id : Int × Int) (ps : List Pt) (row comp : Int) (b : List UInt8) :
  Calls Tryz.prog 128 #[.pointer (some ⟨p, 0, none⟩), .int .i64 row] w fun e w' => ∃ x, (t.go ⟨4, id, ps, row, comp, b⟩).2 = x /\ x.data = [] /\ x.parts = [] /\ e = .returned (.tuple #[.agg #[.int .i64 x.id.1, .int .i64 x.id.2], .bool x.ok, .int .i64 x.err]) /\ TStep w N tag p m q sg (t.go ⟨4, id, ps, row, comp, b⟩).1 w' := by
 by_cases hr : 0 <= row /\ row < t.rows.length
 ·obtain ⟨i, rfl⟩ : ∃ i : Nat, row = (i : Int) := ⟨row.toNat, by omega⟩
  have hi : i < t.rows.length := by omega
  have e : t.go ⟨4, id, ps, i, comp, b⟩ = (⟨t.cs, (t.rows.set i (t.rows.getD (t.rows.length - 1) noEn)).take (t.rows.length - 1)⟩, if i = t.rows.length - 1 then .e 0 else { Tl.e 0 with id := (t.rows.getD (t.rows.length - 1) noEn).1, ok := true }) := by
   unfold Tb.go
   simp only
   rw [if_neg (by decide), if_pos hr, if_neg (by decide), if_pos trivial]
   rfl
  have hok := h.ok.go ⟨4, id, ps, i, comp, b⟩
  rw [e] at hok ⊢
  refine (TDrop_ok h.i h.sig h.sgl hT h.ok.cn h.hrw i (by rw [t.ids_len]; exact hi) (by rw [t.ids_len]; exact h.ok.n)).mono ?_
  rintro e w' ⟨rfl, tag', v', hI, hG⟩
  have hS : TStep w N tag p m q sg ⟨t.cs, (t.rows.set i (t.rows.getD (t.rows.length - 1) noEn)).take (t.rows.length - 1)⟩ w' := by
   refine ⟨tag', v', ⟨?_, hok, h.sig, h.sgl⟩, hG⟩
   have := hI.congr (co' := Tb.co ⟨t.cs, (t.rows.set i (t.rows.getD (t.rows.length - 1) noEn)).take (t.rows.length - 1)⟩) (fun a _ => by rw [Tb.co_drop hi])
   rw [<- Tb.ids_drop hi] at this
   exact this
  rw [Tb.ids_last (by omega), t.ids_len]
  by_cases hil : i = t.rows.length - 1
  ·rw [if_pos hil, if_pos hil]
   exact ⟨_, rfl, rfl, rfl, rfl, hS⟩
  ·rw [if_neg hil, if_neg hil]
   exact ⟨_, rfl, rfl, rfl, rfl, hS⟩
 ·have hri : ¬ (0 <= row /\ row < t.ids.length) := by rw [t.ids_len]; exact hr
  have e : t.go ⟨4, id, ps, row, comp, b⟩ = (t, .e 2) := by
   unfold Tb.go
   simp only
   rw [if_neg (by decide), if_neg hr]
  rw [e]
  refine (TDrop_no h.i row hri).mono ?_
  rintro e w' ⟨rfl, hB⟩
  exact ⟨_, rfl, rfl, rfl, rfl, h.still hB⟩
theorem TAdd_go {K : Nat -> Prop} {A : Option Addr} {n : Nat} {ps : List Pt} (h : TbA w N tag p m v q sg t) (hT : TabAt w) (hp : PartsV K w A n ps) (hK : ∀ x, K x -> tag x = 0) (hn : n <= 1000000) (c : Nat) (i g : Int) :
  Calls Tryz.prog 114 #[.pointer (some ⟨p, 0, none⟩), .agg #[.int .i64 i, .int .i64 g], .slice A n c] w fun e w' => ∃ z, (t.add (i, g) ps).2 = .e z /\ e = .returned (.int .i64 z) /\ TStep w N tag p m q sg (t.add (i, g) ps).1 w' := by
 have hil := t.ids_len
 have hnn := h.ok.n
 by_cases hf : t.rows.length = 1024
 ·have e : t.add (i, g) ps = (t, .e 9) := by unfold Tb.add; rw [if_pos hf]
  rw [e]
  refine (TAdd_full h.i (by omega) i g A n c).mono ?_
  rintro e w' ⟨rfl, hB⟩
  exact ⟨9, rfl, rfl, h.still hB⟩
 ·cases hft : fits ps t.cs with
  | false =>
   have e : t.add (i, g) ps = (t, .e 7) := by unfold Tb.add; rw [if_neg hf, hft]; rfl
   rw [e]
   refine (TAdd_size h.i h.sig h.sgl hT h.ok.cn (fun j _ => rfl) h.h64 hp hn c (by omega) hft i g).mono ?_
   rintro e w' ⟨rfl, hB⟩
   exact ⟨7, rfl, rfl, h.still hB⟩
  | true =>
   have e : t.add (i, g) ps = (⟨t.cs, t.rows ++ [((i, g), picks ps t.cs)]⟩, .e 0) := by unfold Tb.add; rw [if_neg hf, hft]; rfl
   have hok := h.ok.add (i, g) ps
   rw [e] at hok ⊢
   refine (TAdd_ok h.i h.sig h.sgl hT h.ok.cn (fun j _ => rfl) h.h64 h.hrw hp hK hn c (by omega) hft i g).mono ?_
   rintro e w' ⟨rfl, tag', v', hI, hG⟩
   refine ⟨0, rfl, rfl, tag', v', ⟨?_, hok, h.sig, h.sgl⟩, hG⟩
   have := hI.congr (co' := Tb.co ⟨t.cs, t.rows ++ [((i, g), picks ps t.cs)]⟩) (fun a ha => by rw [Tb.co_add ha])
   have e3 : Tb.ids ⟨t.cs, t.rows ++ [((i, g), picks ps t.cs)]⟩ = t.ids ++ [(i, g)] := by unfold Tb.ids; rw [List.map_append]; rfl
   rw [<- e3] at this
   exact this
end
end Go.Proofs.YtaoinkjjmakhaaaGreatDoor
namespace Go.Proofs.YtaoinkjjmakhaaaGreatDoor
open Go.RowKit
set_option maxRecDepth 20000
section
variable {w w1 w2 w3 : World} {N : Nat} {tag : Nat -> Nat} {p m : Nat} {v : Value} {q : Nat -> Nat} {sg : Nat} {t t' : Tb}
variable (xd xi xg : Int) (pA : Option Addr) (pn pc : Nat) (ps : List Pt) (row comp : Int) (bA : Option Addr) (bn bc : Nat) (b : List UInt8)
abbrev sc (xd xi xg : Int) (pA : Option Addr) (pn pc : Nat) (row comp : Int) (bA : Option Addr) (bn bc : Nat) : Array Value := #[.int .i64 xd, .int .i64 xi, .int .i64 xg, .slice pA pn pc, .int .i64 row, .int .i64 comp, .slice bA bn bc]
end
end Go.Proofs.YtaoinkjjmakhaaaGreatDoor
namespace Go.Proofs.YtaoinkjjmakhaaaGreatDoor
open Go.RowKit
set_option maxRecDepth 20000
section
variable {w : World} {N : Nat} {tag : Nat -> Nat} {p m : Nat} {v : Value} {q : Nat -> Nat} {sg : Nat} {t : Tb}
end
theorem TbA.new {w' : World} {N : Nat} {tag : Nat -> Nat} {p m : Nat} {q : Nat -> Nat} {n : Nat} {zs : Nat -> Int} {s : Nat} (hs : s < 18446744073709551616) (hI : TbI w' N tag p m nilv q (s &&& ofL (idxs n) 64) (Tb.new n zs s).cs [] (noCo (Tb.new n zs s).cs)) :
  TbA w' N tag p m nilv q (s &&& ofL (idxs n) 64) (Tb.new n zs s) :=
 ⟨hI.congr (fun _ _ => rfl), Tb.new_ok n zs s, new_cs n zs s, and_lt64 _ _ hs⟩
end Go.Proofs.YtaoinkjjmakhaaaGreatDoor
namespace Go.Proofs.YtaoinkjjmakhaaaGreatDoor
open Go.RowKit
set_option maxRecDepth 20000
section
variable {w : World} {N : Nat} {tag : Nat -> Nat} {p m : Nat} {v : Value} {q : Nat -> Nat} {sg : Nat} {t : Tb}
theorem TCol_go (h : TbA w N tag p m v q sg t) {comp : Int} (hk : In64 comp) : Calls Tryz.prog 91 #[.pointer (some ⟨p, 0, none⟩), .int .i64 comp] w fun e w' =>
  ∃ A n c, e = .returned (.tuple #[.slice A n c, .bool (t.col comp).2]) /\ VB (fun x => w.heap.size <= x) w' (.slice A n c) (t.col comp).1 /\ Below w.heap.size w w' := by
 cases hat : t.at_ comp with
 | none =>
  have e : t.col comp = ([], false) := by unfold Tb.col; rw [hat]
  rw [e]
  refine (TCol_no h.i hk hat).mono ?_
  rintro e w' ⟨rfl, rfl⟩
  exact ⟨_, _, _, rfl, VB.non _ _, Below.refl _ _⟩
 | some k =>
  have e : t.col comp = ((t.co k).bytes, true) := by unfold Tb.col; rw [hat]; rfl
  rw [e]
  refine (TCol_ok h.i hk hat).mono ?_
  rintro e w' ⟨A, n, c, rfl, hV, hB⟩
  exact ⟨A, n, c, rfl, hV, hB⟩
end
theorem Tb.col_at {t : Tb} (ok : t.Ok) {k : Nat} (hk : k < t.cs.length) : t.col (t.cs.getD k (0, 0)).1 = ((t.co k).bytes, true) := by
 have hat : t.at_ (t.cs.getD k (0, 0)).1 = some k := findIdx_at ok.nd hk
 unfold Tb.col
 rw [hat]
 rfl
theorem Tb.comp_in {t : Tb} (ok : t.Ok) {k : Nat} (hk : k < t.cs.length) : In64 (t.cs.getD k (0, 0)).1 := by
 rw [getD_at hk]
 have := ok.cz _ (List.getElem_mem hk)
 exact ⟨by omega, by omega⟩
end Go.Proofs.YtaoinkjjmakhaaaGreatDoor
namespace Go.Proofs.YtaoinkjjmakhaaaGreatDoor
open Go.RowKit
def Lens (ks : List Kd) : Prop := ∀ k ∈ ks, k.1.size <= 9223372036854775807
theorem Lens.at_ {ks : List Kd} (h : Lens ks) {j : Nat} {s : ByteArray} {z : Int} (hl : j < ks.length) (hk : ks[j] = (s, z)) : s.size <= 9223372036854775807 := by
 have := h _ (List.getElem_mem hl)
 rw [hk] at this
 exact this
end Go.Proofs.YtaoinkjjmakhaaaGreatDoor
namespace Go.Proofs.YtaoinkjjmakhaaaGreatDoor
open Go.RowKit
set_option linter.unusedVariables false
section
variable (lg pg en gn : Int) (A : Option Addr) (n cap : Nat) (ks : List Kd) (w : World)
theorem any_snoc {ks : List Kd} {j : Nat} (h : j < ks.length) : (ks.take (j + 1)).any (fun k => decide (100 < k.1.size)) = ((ks.take j).any (fun k => decide (100 < k.1.size)) || decide (100 < ks[j].1.size)) := by
 rw [take_snoc h, List.any_append]
 simp
theorem any_of_take {ks : List Kd} {j : Nat} (hj : j <= 50) (h : (ks.take j).any (fun k => decide (100 < k.1.size)) = true) : muchK ks = true := by
 rw [List.any_eq_true] at h
 obtain ⟨x, hx, hp⟩ := h
 unfold muchK
 rw [Bool.or_eq_true]
 exact .inl (List.any_eq_true.2 ⟨x, List.take_subset_take_left ks hj hx, hp⟩)
theorem Much_any (h : KRd w A n ks) (hn : n <= 9223372036854775807) (hs : Lens ks) :
  Calls Tryz.prog 5 #[cv lg pg en gn A n cap] w fun e w' => e = .returned (.bool (muchK ks)) /\ Below w.heap.size w w' := by
 obtain ⟨w1, hw1⟩ : ∃ w1, w1 = w.alloc (.cells (cc lg pg en gn A n cap) 24) := ⟨_, rfl⟩
 have C1 := CAt.new h lg pg en gn cap
 rw [<- hw1] at C1
 obtain ⟨g, hg⟩ : ∃ g, g = w.heap.size := ⟨_, rfl⟩
 rw [<- hg] at C1
 have c4 := C1.c4
 have hl := h.1
 have K1 := hi_ C1
 have HG := hi_ hg
 have HS := hi_ hs
 clear h hg C1 hs
 go_enter Tryz.func5, Tryz.ntmps5
 go_wp2_with (rw [<- hw1, <- HG.out]; clear hw1)
 go_loop [3] (fun i => ∃ j : Nat, j <= n /\ j <= 50 /\ i = .int .i64 j /\ (ks.take j).any (fun k => decide (100 < k.1.size)) = false) (fun i => n - (intOf i).toNat)
 case atStart => exact ⟨0, Nat.zero_le _, Nat.zero_le _, rfl, rfl⟩
 case round =>
  obtain ⟨j, hj, hj5, rfl, hf⟩ := hrel
  by_cases hlt : j < n
  ·by_cases hlt5 : j < 50
   ·obtain ⟨b, o, s', z, rfl, _, k0, k1, hl', hk⟩ := K1.out.rd.at_ hlt
    have hsn := any_snoc hl'
    rw [hk, hf, Bool.false_or] at hsn
    have hsz := HS.out.at_ hl' hk
    by_cases h1 : 100 < s'.size
    ·rw [decide_eq_true h1] at hsn
     have HM := hi_ (any_of_take (by omega) hsn)
     clear hsn hk hf
     go_wp2
     go_ret
     rw [HM.out]
     exact ⟨rfl, K1.out.bel⟩
    ·have HSN := hi_ (hsn.trans (decide_eq_false h1))
     clear hsn hk hf
     go_wp2
     go_round
     case rel => exact ⟨j + 1, hlt, hlt5, by go_num, HSN.out⟩
     case measure => simp [intOf]; omega
   ·obtain rfl : j = 50 := by omega
    have e1 : muchK ks = true := by unfold muchK; rw [Bool.or_eq_true]; exact .inr (decide_eq_true (by omega))
    have E1 := hi_ e1
    clear hf e1
    go_wp2
    go_ret
    rw [E1.out]
    exact ⟨ret_bool (a := decide ((40 : Int) < (n : Int))) (decide_eq_true (by omega)), K1.out.bel⟩
  ·have e1 : muchK ks = decide (40 < n) := by
    unfold muchK
    rw [show ks.take 50 = ks.take j by rw [List.take_of_length_le (by omega), List.take_of_length_le (by omega)], hf, Bool.false_or, hl]
   have E1 := hi_ e1
   clear hf e1
   go_wp2
   go_ret
   rw [E1.out]
   exact ⟨ret_bool (a := decide ((40 : Int) < (n : Int))) (by rw [Bool.eq_iff_iff]; simp <;> omega), K1.out.bel⟩
end
end Go.Proofs.YtaoinkjjmakhaaaGreatDoor
namespace Go.Proofs.YtaoinkjjmakhaaaGreatDoor
open Go.RowKit
set_option maxRecDepth 20000
end Go.Proofs.YtaoinkjjmakhaaaGreatDoor
namespace Go.Proofs.YtaoinkjjmakhaaaGreatDoor
open Go.RowKit
theorem ofL_snoc (l : List Int) (c : Nat) : ofL l (c + 1) = ofL l c + if (c : Int) ∈ l then 2 ^ c else 0 := rfl
theorem ROf_any (A : Option Addr) (n c : Nat) (zs : List Int) (w : World) (h : IRd w A n zs) (hn : n <= 1099511627776) :
  Calls Tryz.prog 97 #[.slice A n c] w fun e w' => e = .returned (.int .u64 (ofL zs 64 : Nat)) /\ w = w' := by
 have H := hi_ h
 clear h
 go_enter Tryz.func97, Tryz.ntmps97
 go_wp2
 go_loop [3, 4, 5] (fun sv bv cv => ∃ (j b : Nat), j <= 64 /\ cv = .int .i64 j /\ b = 2 ^ j % 18446744073709551616 /\ bv = .int .u64 b /\ sv = .int .u64 (ofL zs j : Nat)) (fun _ _ cv => 64 - (intOf cv).toNat)
 case atStart => exact ⟨0, 1, Nat.zero_le _, rfl, rfl, rfl, rfl⟩
 case round =>
  obtain ⟨j, b, hj, rfl, hb, rfl, rfl⟩ := hrel
  by_cases hj6 : j < 64
  ·have hlt := ofL_lt zs j
   have hsn := ofL_snoc zs j
   have h2 := two_lt hj6
   have hb0 : b = 2 ^ j := by rw [hb, Nat.mod_eq_of_lt h2]
   have hb1 : b * 2 % 18446744073709551616 = 2 ^ (j + 1) % 18446744073709551616 := by rw [hb0, Nat.pow_succ]
   have hlt2 := ofL_lt zs (j + 1)
   have h264 : 2 ^ (j + 1) <= 18446744073709551616 := show 2 ^ (j + 1) <= 2 ^ 64 from Nat.pow_le_pow_right (by omega) (by omega)
   obtain ⟨s, hs⟩ : ∃ s, s = ofL zs j := ⟨_, rfl⟩
   obtain ⟨s2, hs2⟩ : ∃ s2, s2 = ofL zs (j + 1) := ⟨_, rfl⟩
   rw [<- hs] at hlt hsn ⊢
   rw [<- hs2] at hlt2 hsn
   rw [<- hb0] at hlt h2 hsn
   have hs2l : s2 < 18446744073709551616 := Nat.lt_of_lt_of_le hlt2 h264
   clear hb hs hb0 hlt2 h264
   have HB1 := hi_ hb1
   have HSN := hi_ hsn
   have HS2 := hi_ hs2
   clear hb1 hsn hs2
   go_wp2
   go_loop [3, 6] (fun sv iv => ∃ i : Nat, i <= n /\ iv = .int .i64 i /\ sv = .int .u64 s /\ ¬ (j : Int) ∈ zs.take i) (fun _ iv => n - (intOf iv).toNat)
   case atStart => exact ⟨0, Nat.zero_le _, rfl, rfl, by simp⟩
   case round =>
    obtain ⟨i, hi, rfl, rfl, hni⟩ := hrel
    by_cases hin : i < n
    ·obtain ⟨bb, o, hA, _, hc⟩ := H.out.2 (by omega)
     have hil : i < zs.length := by rw [H.out.1]; exact hin
     have k0 := hc i hil
     obtain ⟨z, hz⟩ : ∃ z, z = zs.getD i 0 := ⟨_, rfl⟩
     rw [<- hz] at k0
     have hz' : z = zs[i] := by rw [hz, List.getD, List.getElem?_eq_getElem hil]; rfl
     subst hA
     clear hc hz
     have HZ := hi_ hz'
     have HNI := hi_ hni
     clear hz' hni
     by_cases hzj : z = (j : Int)
     ·have hm : (j : Int) ∈ zs := by rw [<- hzj, HZ.out]; exact List.getElem_mem hil
      have e := HSN.out
      rw [if_pos hm] at e
      subst hzj
      have E := hi_ e
      clear hm
      go_wp2
      go_round
      case rel => exact ⟨j + 1, b * 2 % 18446744073709551616, hj6, by go_num, HB1.out, by go_num, by rw [<- HS2.out]; go_num⟩
      case measure => simp [intOf]; omega
     ·go_wp2
      go_round
      case rel =>
       refine ⟨i + 1, hin, by go_num, rfl, ?_⟩
       rw [List.take_succ_eq_append_getElem hil, List.mem_append]
       rintro (h1 | h1)
       ·exact HNI.out h1
       ·rw [List.mem_singleton, <- HZ.out] at h1
        exact hzj h1.symm
      case measure => simp [intOf]; omega
    ·obtain rfl : i = n := by omega
     rw [List.take_of_length_le (by rw [H.out.1]; exact Nat.le_refl _)] at hni
     have e := HSN.out
     rw [if_neg hni, Nat.add_zero] at e
     have E := hi_ e
     clear e hni
     go_wp2
     go_round
     case rel => exact ⟨j + 1, b * 2 % 18446744073709551616, hj6, by go_num, HB1.out, by go_num, by rw [<- HS2.out, E.out]⟩
     case measure => simp [intOf]; omega
  ·obtain rfl : j = 64 := by omega
   clear hb
   go_wp2
   go_ret
   exact ⟨rfl, rfl⟩
end Go.Proofs.YtaoinkjjmakhaaaGreatDoor
namespace Go.Proofs.YtaoinkjjmakhaaaGreatDoor
open Go.RowKit
set_option maxRecDepth 20000
set_option linter.unusedSimpArgs false
theorem ofL_listZ {s : Nat} (hs : s < 18446744073709551616) : ofL (listZ s) 64 = s :=
 eq_of_bits (ofL_lt _ 64) hs fun i hi => by
  rw [ofL_bit]
  by_cases hb : s.testBit i = true
  ·rw [hb]
   exact decide_eq_true ⟨hi, mem_listZ.2 ⟨hi, hb⟩⟩
  ·rw [Bool.eq_false_iff.2 hb]
   exact decide_eq_false fun h => hb (mem_listZ.1 h.2).2
theorem IntsV.ird {K : Nat -> Prop} {w : World} {A : Option Addr} {n : Nat} {xs : List Int} (h : IntsV K w A n xs) : IRd w A n xs :=
 ⟨h.len, fun hn => by
  obtain ⟨b, o, e, hlt, _⟩ := IntsV.at_ h hn
  refine ⟨b, o, e, hlt, fun j hj => ?_⟩
  obtain ⟨b', o', e', _, hc⟩ := IntsV.at_ h (j := j) (by have := h.len; omega)
  rw [e] at e'
  injection e' with e'
  injection e' with e1 e2
  subst e1 e2
  exact hc⟩
section
variable {K : Nat -> Prop} {w : World} {N : Nat} {tag : Nat -> Nat} {p m : Nat} {v : Value} {q : Nat -> Nat} {sg : Nat} {t : Tb} {d : Rt}
end
end Go.Proofs.YtaoinkjjmakhaaaGreatDoor
namespace Go.Proofs.YtaoinkjjmakhaaaGreatDoor
open Go.RowKit
set_option maxRecDepth 20000
set_option linter.unusedSimpArgs false
set_option linter.unusedVariables false
section
variable (lg pg en gn : Int) (A : Option Addr) (n cap : Nat) (ks : List Kd) (w : World)
theorem wpList_stZ {w : World} {g : Nat} {ops : Array Oper} {rest : List Oper} {o : Oper} {a : Act} {Q : Exit -> Act -> World -> Prop} (d' : Rt) (hgd : Region.wanted o (yielded ops a.tmps) = true) (x y : Operand) (ho : o.op = .store 127 x y) (hx : a.eval x = .pointer (some ⟨g, 0, none⟩)) (hy : a.eval y = .agg d'.cs) (h : Rec 127 w g zT)
  (kk : ∀ w', Rec 127 w' g d'.cs -> Fr (· = g) w w' -> wpList Tryz.prog ops Q rest (a.put o.dst undef) w') : wpList Tryz.prog ops Q (o :: rest) a w := wpList_stS rtabT rfl rfl (by simp [Rt.cs, Value.oneCell']) hgd x y ho hx hy h kk
def RLBad (w : World) (e : Ending) (w' : World) : Prop := e = .returned (.tuple #[.agg #[.slice none 0 0, .slice none 0 0, .slice none 0 0], .int .i64 11]) /\ Below w.heap.size w w'
set_option maxHeartbeats 2000000 in
theorem RLoad_no (h : KRd w A n ks) (hn : n <= 1000000) (s : Nat) (hs : s < 18446744073709551616) (IA : Option Addr) (m ic : Nat) (CA : Option Addr) (cn cx : Nat) (hm : m <= 1000000) (hc : cn <= 1000000)
  (hbad : ¬ (s &&& ofL (idxs n) 64 = s /\ cn = (Tb.new n (zsK ks) s).cs.length /\ m <= 1024)) :
  Calls Tryz.prog 54 #[cv lg pg en gn A n cap, .int .u64 (s : Nat), .slice IA m ic, .slice CA cn cx] w (RLBad w) := by
 obtain ⟨w1, hw1⟩ : ∃ w1, w1 = (w.alloc (.cells (cc lg pg en gn A n cap) 24)).alloc (.cells #[.slice none 0 0, .slice none 0 0, .slice none 0 0] 127) := ⟨_, rfl⟩
 have hb1 : Below w.heap.size w w1 := by rw [hw1]; exact ((Below.refl _ _).alloc (Nat.le_refl _) _).alloc (by simp) _
 have HR1 := hi_ (show Rec 24 w1 w.heap.size (cc lg pg en gn A n cap) by rw [hw1]; exact (Rec.new _ _ _).under ((Below.refl _ _).alloc (Nat.le_refl _) _))
 have HZ1 := hi_ (show Rec 127 w1 (w.heap.size + 1) zT by
  have := Rec.new (w.alloc (.cells (cc lg pg en gn A n cap) 24)) 127 zT
  rw [World.size_alloc] at this
  rw [hw1]
  exact this)
 have hz := (Tb.new_ok n (zsK ks) s).cn
 have CN := RTNew_any lg pg en gn A n cap ks w1 (h.below hb1) hn s hs
 obtain ⟨sg, hsg⟩ : ∃ sg, sg = s &&& ofL (idxs n) 64 := ⟨_, rfl⟩
 have hof : ofL ((Tb.new n (zsK ks) s).cs.map (·.1)) 64 = sg := by
  have e := new_cs n (zsK ks) s
  have := ofL_listZ (and_lt64 s (ofL (idxs n) 64) hs)
  rw [e] at this
  rw [hsg]
  exact this
 obtain ⟨t0, ht0⟩ : ∃ t0, t0 = Tb.new n (zsK ks) s := ⟨_, rfl⟩
 rw [<- ht0] at CN hbad hof hz
 rw [<- hsg] at hbad
 have CN := hi_ CN
 have HB1 := hi_ hb1
 have HOF := hi_ hof
 have HZ := hi_ hz
 have hsz : w1.heap.size = w.heap.size + 2 := by rw [hw1]; simp
 have HSZ := hi_ hsz
 clear h hb1 hof hsg ht0 hz hs hsz
 obtain ⟨nc, hnc⟩ : ∃ nc, nc = t0.cs.length := ⟨_, rfl⟩
 rw [<- hnc] at hbad
 have HNC := hi_ hnc
 clear hnc
 by_cases h1 : sg = s
 ·subst h1
  by_cases h2 : cn = nc
  ·have h2 := h2.symm
   subst h2
   have h3 : ¬ m <= 1024 := fun h => hbad ⟨rfl, rfl, h⟩
   have d3 : decide ((1024 : Int) < (m : Int)) = true := decide_eq_true (by omega)
   have d4 : decide (1024 < m) = true := decide_eq_true (by omega)
   clear hbad
   go_enter Tryz.func54, Tryz.ntmps54
   go_wp2_with (first
    | (rw [<- hw1]; clear hw1)
    | (with_reducible refine wpList_ldS confT rfl rfl (.tmp 4) rfl rfl HR1.out ?_)
    | (go_at_call 110; refine CN.out.mono ?_; rintro e w2 ⟨d, rfl, hR, hb2⟩; have hcn := hR.cn; rw [<- HNC.out] at hcn; have HRd := hi_ hR; have HB2 := hi_ hb2; clear hR hb2; obtain ⟨w3, hw3⟩ : ∃ w3, w3 = w2.alloc (.cells #[.slice none 0 0, .slice none 0 0, .slice none 0 0] 127) := ⟨_, rfl⟩; have HW3 := hi_ hw3; have HR3 := hi_ (show Rec 127 w3 w2.heap.size zT from (by rw [hw3]; exact Rec.new _ _ _)); have HB3 := hi_ (show Below w2.heap.size w2 w3 from (by rw [hw3]; exact (Below.refl _ _).alloc (Nat.le_refl _) _)); have HCN := hi_ hcn; clear hw3 hcn)
    | (rw [<- HW3.out]; clear HW3)
    | ((with_reducible refine wpList_stZ d rfl (.tmp 10) (.tmp 18) rfl rfl rfl HR3.out ?_); intro w4 hR4 hF4; have HB4 := hi_ (HB3.out.trans (hF4.toBelow (fun x hx => (by rw [show x = w2.heap.size from hx]; exact Nat.le_refl _)) HB3.out.size)); have c0 : w4.cell? ⟨w2.heap.size, 0, none⟩ = some (.slice d.CA nc d.cc) := (by rw [<- HCN.out]; exact hR4.at_ 0); have HZ4 := hi_ (HZ1.out.under (HB2.out.trans (HB4.out.mono HB2.out.size))); have hrf := ROf_any d.CA nc d.cc (t0.cs.map (·.1)) w4 (by have := IntsV.ird (HRd.out.below HB4.out).c; rw [HCN.out] at this; exact this) (by have := HZ.out; have := HNC.out; omega); rw [HOF.out] at hrf; have HRf := hi_ hrf; clear hrf; clear hR4 hF4)
    | (go_at_call 97; refine HRf.out.mono ?_; rintro e w' ⟨rfl, rfl⟩)
    | ((with_reducible refine wpList_stS (cs' := #[.slice none 0 0, .slice none 0 0, .slice none 0 0]) rtabT rfl rfl (by simp [Value.oneCell']) rfl (.tmp 8) (.tmp 37) rfl rfl rfl HZ4.out ?_); intro w5 hR5 hF5))
   refine bodyPost_ret (res_ct rfl rfl (hR5.load rtabT rfl)) rfl ?_
   have hb4 := HB1.out.trans ((HB2.out.trans (HB4.out.mono HB2.out.size)).mono HB1.out.size)
   exact ⟨rfl, hb4.trans (hF5.toBelow (fun x hx => by rw [show x = w.heap.size + 1 from hx]; omega) hb4.size)⟩
  ·have d3 : decide ((cn : Int) = (nc : Int)) = false := decide_eq_false (by omega)
   have d4 : decide (cn = nc) = false := decide_eq_false h2
   have d5 : ((cn : Int) != (nc : Int)) = true := bne_iff_ne.2 (by omega)
   clear hbad
   go_enter Tryz.func54, Tryz.ntmps54
   go_wp2_with (first
    | (rw [<- hw1]; clear hw1)
    | (with_reducible refine wpList_ldS confT rfl rfl (.tmp 4) rfl rfl HR1.out ?_)
    | (go_at_call 110; refine CN.out.mono ?_; rintro e w2 ⟨d, rfl, hR, hb2⟩; have hcn := hR.cn; rw [<- HNC.out] at hcn; have HRd := hi_ hR; have HB2 := hi_ hb2; clear hR hb2; obtain ⟨w3, hw3⟩ : ∃ w3, w3 = w2.alloc (.cells #[.slice none 0 0, .slice none 0 0, .slice none 0 0] 127) := ⟨_, rfl⟩; have HW3 := hi_ hw3; have HR3 := hi_ (show Rec 127 w3 w2.heap.size zT from (by rw [hw3]; exact Rec.new _ _ _)); have HB3 := hi_ (show Below w2.heap.size w2 w3 from (by rw [hw3]; exact (Below.refl _ _).alloc (Nat.le_refl _) _)); have HCN := hi_ hcn; clear hw3 hcn)
    | (rw [<- HW3.out]; clear HW3)
    | ((with_reducible refine wpList_stZ d rfl (.tmp 10) (.tmp 18) rfl rfl rfl HR3.out ?_); intro w4 hR4 hF4; have HB4 := hi_ (HB3.out.trans (hF4.toBelow (fun x hx => (by rw [show x = w2.heap.size from hx]; exact Nat.le_refl _)) HB3.out.size)); have c0 : w4.cell? ⟨w2.heap.size, 0, none⟩ = some (.slice d.CA nc d.cc) := (by rw [<- HCN.out]; exact hR4.at_ 0); have HZ4 := hi_ (HZ1.out.under (HB2.out.trans (HB4.out.mono HB2.out.size))); have hrf := ROf_any d.CA nc d.cc (t0.cs.map (·.1)) w4 (by have := IntsV.ird (HRd.out.below HB4.out).c; rw [HCN.out] at this; exact this) (by have := HZ.out; have := HNC.out; omega); rw [HOF.out] at hrf; have HRf := hi_ hrf; clear hrf; clear hR4 hF4)
    | (go_at_call 97; refine HRf.out.mono ?_; rintro e w' ⟨rfl, rfl⟩)
    | ((with_reducible refine wpList_stS (cs' := #[.slice none 0 0, .slice none 0 0, .slice none 0 0]) rtabT rfl rfl (by simp [Value.oneCell']) rfl (.tmp 8) (.tmp 37) rfl rfl rfl HZ4.out ?_); intro w5 hR5 hF5))
   refine bodyPost_ret (res_ct rfl rfl (hR5.load rtabT rfl)) rfl ?_
   have hb4 := HB1.out.trans ((HB2.out.trans (HB4.out.mono HB2.out.size)).mono HB1.out.size)
   exact ⟨rfl, hb4.trans (hF5.toBelow (fun x hx => by rw [show x = w.heap.size + 1 from hx]; omega) hb4.size)⟩
 ·have d3 : decide ((sg : Int) = (s : Int)) = false := decide_eq_false (by omega)
  have d4 : decide (sg = s) = false := decide_eq_false h1
  have d5 : ((sg : Int) != (s : Int)) = true := bne_iff_ne.2 (by omega)
  clear hbad
  go_enter Tryz.func54, Tryz.ntmps54
  go_wp2_with (first
   | (rw [<- hw1]; clear hw1)
   | (with_reducible refine wpList_ldS confT rfl rfl (.tmp 4) rfl rfl HR1.out ?_)
   | (go_at_call 110; refine CN.out.mono ?_; rintro e w2 ⟨d, rfl, hR, hb2⟩; have hcn := hR.cn; rw [<- HNC.out] at hcn; have HRd := hi_ hR; have HB2 := hi_ hb2; clear hR hb2; obtain ⟨w3, hw3⟩ : ∃ w3, w3 = w2.alloc (.cells #[.slice none 0 0, .slice none 0 0, .slice none 0 0] 127) := ⟨_, rfl⟩; have HW3 := hi_ hw3; have HR3 := hi_ (show Rec 127 w3 w2.heap.size zT from (by rw [hw3]; exact Rec.new _ _ _)); have HB3 := hi_ (show Below w2.heap.size w2 w3 from (by rw [hw3]; exact (Below.refl _ _).alloc (Nat.le_refl _) _)); have HCN := hi_ hcn; clear hw3 hcn)
   | (rw [<- HW3.out]; clear HW3)
   | ((with_reducible refine wpList_stZ d rfl (.tmp 10) (.tmp 18) rfl rfl rfl HR3.out ?_); intro w4 hR4 hF4; have HB4 := hi_ (HB3.out.trans (hF4.toBelow (fun x hx => (by rw [show x = w2.heap.size from hx]; exact Nat.le_refl _)) HB3.out.size)); have c0 : w4.cell? ⟨w2.heap.size, 0, none⟩ = some (.slice d.CA nc d.cc) := (by rw [<- HCN.out]; exact hR4.at_ 0); have HZ4 := hi_ (HZ1.out.under (HB2.out.trans (HB4.out.mono HB2.out.size))); have hrf := ROf_any d.CA nc d.cc (t0.cs.map (·.1)) w4 (by have := IntsV.ird (HRd.out.below HB4.out).c; rw [HCN.out] at this; exact this) (by have := HZ.out; have := HNC.out; omega); rw [HOF.out] at hrf; have HRf := hi_ hrf; clear hrf; clear hR4 hF4)
   | (go_at_call 97; refine HRf.out.mono ?_; rintro e w' ⟨rfl, rfl⟩)
   | ((with_reducible refine wpList_stS (cs' := #[.slice none 0 0, .slice none 0 0, .slice none 0 0]) rtabT rfl rfl (by simp [Value.oneCell']) rfl (.tmp 8) (.tmp 37) rfl rfl rfl HZ4.out ?_); intro w5 hR5 hF5))
  refine bodyPost_ret (res_ct rfl rfl (hR5.load rtabT rfl)) rfl ?_
  have hb4 := HB1.out.trans ((HB2.out.trans (HB4.out.mono HB2.out.size)).mono HB1.out.size)
  exact ⟨rfl, hb4.trans (hF5.toBelow (fun x hx => by rw [show x = w.heap.size + 1 from hx]; omega) hb4.size)⟩
end
end Go.Proofs.YtaoinkjjmakhaaaGreatDoor
namespace Go.Proofs.YtaoinkjjmakhaaaGreatDoor
open Go.RowKit
set_option maxRecDepth 20000
def ldRow (cs : List (Int × Nat)) (cols : List (List UInt8)) (i k : Nat) : List Pt := (List.range k).map fun j => ((cs.getD j (0, 0)).1, ((cols.getD j []).drop (i * (cs.getD j (0, 0)).2)).take (cs.getD j (0, 0)).2)
def ldRows (cs : List (Int × Nat)) (ids : List (Int × Int)) (cols : List (List UInt8)) (i : Nat) : List En := (List.range i).map fun a => (ids.getD a (0, 0), ldRow cs cols a cs.length)
theorem ldRow_succ (cs : List (Int × Nat)) (cols : List (List UInt8)) (i k : Nat) : ldRow cs cols i (k + 1) = ldRow cs cols i k ++ [((cs.getD k (0, 0)).1, ((cols.getD k []).drop (i * (cs.getD k (0, 0)).2)).take (cs.getD k (0, 0)).2)] := by
 unfold ldRow
 rw [List.range_succ, List.map_append]
 rfl
theorem ldRows_succ (cs : List (Int × Nat)) (ids : List (Int × Int)) (cols : List (List UInt8)) (i : Nat) : ldRows cs ids cols (i + 1) = ldRows cs ids cols i ++ [(ids.getD i (0, 0), ldRow cs cols i cs.length)] := by
 unfold ldRows
 rw [List.range_succ, List.map_append]
 rfl
theorem ldRow_len (cs : List (Int × Nat)) (cols : List (List UInt8)) (i k : Nat) : (ldRow cs cols i k).length = k := by unfold ldRow; simp
theorem ldRows_len (cs : List (Int × Nat)) (ids : List (Int × Int)) (cols : List (List UInt8)) (i : Nat) : (ldRows cs ids cols i).length = i := by unfold ldRows; simp
end Go.Proofs.YtaoinkjjmakhaaaGreatDoor
