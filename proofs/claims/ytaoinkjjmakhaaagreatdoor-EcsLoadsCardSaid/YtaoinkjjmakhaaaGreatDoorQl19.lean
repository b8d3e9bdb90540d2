/- EcVj, TbV, EcVk, IdR1, IdV, IdQ, EcVl, EcM, EcN -/
import Derived.Test.YtaoinkjjmakhaaaGreatDoorQl1
import Derived.Test.YtaoinkjjmakhaaaGreatDoorQl2
import Derived.Test.YtaoinkjjmakhaaaGreatDoorQl8
import Derived.Test.YtaoinkjjmakhaaaGreatDoorQl9
import Derived.Test.YtaoinkjjmakhaaaGreatDoorQl10
import Derived.Test.YtaoinkjjmakhaaaGreatDoorQl18
namespace Go.Proofs.YtaoinkjjmakhaaaGreatDoor
open Go.RowKit
set_option maxRecDepth 20000
section
variable {w0 w : World} {N : Nat} {gr : Nat -> Nat} {x : Fx} {k : Ks} {c : Nat} {pt : Nat -> Nat} {tag : Nat -> Nat} {p m : Nat} {v : Value} {q : Nat -> Nat} {s : Nat} {t : Tb}
def LayR (N : Nat) (w0 w : World) (gr : Nat -> Nat) (x : Fx) (k : Ks) (c : Nat) (s : Nat) (t : Tb) (e : Ending) (w' : World) : Prop :=
 ∃ b, e = .returned (.bool b) /\ ((b = true /\ ∃ pl' gr' pt', layP (fun id => k.ns.alive id.1 id.2) (gNode k.S s).2 0 t.ids k.pl = some pl' /\ CoJ 0 w' N gr' x ⟨k.ns, (gNode k.S s).1, upd k.tb (gNode k.S s).2 (some t), pl'⟩ (c + 1 + t.ids.length) pt' /\ TGo w0 gr w' gr') \/
  (b = false /\ layP (fun id => k.ns.alive id.1 id.2) (gNode k.S s).2 0 t.ids k.pl = none /\ Below N w w'))
theorem lay_first (h : CoJ 0 w0 N gr x k c pt) (hb : Below w0.heap.size w0 w) (hA : TbA w w0.heap.size tag p m v q s t) (hc : c <= 900000) (hpos : 0 < k.S.length) (hS : k.S.length <= 900000) :
  Calls Tryz.prog 59 #[.pointer (some ⟨x.pg, 0, none⟩), .int .u64 s] w.drew fun e w2 => e = .returned (.int .i64 ((gNode k.S s).2 : Nat)) /\ w2.cell? ⟨x.p, 6, none⟩ = some (.pointer (some ⟨x.pg, 0, none⟩)) /\ w2.cell? ⟨x.p, 7, none⟩ = some (.map (some x.mt)) /\
   ∃ w3, (Instr.mapUpdate 79 (.map (some x.mt)) (.int .i64 ((gNode k.S s).2 : Nat)) (.pointer (some ⟨p, 0, none⟩))).run Tryz.prog w2 = .ok () w3 /\ ∃ gr3, CoJ 0 w3 N gr3 x ⟨k.ns, (gNode k.S s).1, upd k.tb (gNode k.S s).2 (some t), k.pl⟩ (c + 1) (upd pt (gNode k.S s).2 p) /\ TGo w0 gr w3 gr3 /\ Below N w w3 /\
    Calls Tryz.prog 68 #[.pointer (some ⟨p, 0, none⟩)] w3 fun e w' => ∃ A cc, e = .returned (.slice A t.ids.length cc) /\ IdsV (fun y => w3.heap.size <= y /\ y < w'.heap.size) w' A t.ids.length t.ids /\ Below w3.heap.size w3 w' := by
 have hd0 : ∀ y, tag y ≠ 0 -> gr y = 0 := fun y hy => Classical.byContradiction fun hn => by have := hA.i.lo y hy; have := h.dom y hn; omega
 have hbd : Below w0.heap.size w0 w.drew := hb.drew
 have hgl := gNode_len k.S s
 refine ((h.below hbd).node s hA.sgl hpos (by omega)).mono ?_
 rintro e w2 ⟨rfl, gr2, h2, hG2⟩
 have hs2 : (gNode k.S s).1[(gNode k.S s).2]? = some s := gNode_at k.S s
 have hnl := (List.getElem?_eq_some_iff.1 hs2).1
 have hwd : Below w.heap.size w w.drew := (Below.refl _ _).drew
 have hA2 : TbA w2 w0.heap.size tag p m v q s t := (hA.below hwd).kept hG2.fr (fun y hy hn => hn (hd0 y hy))
 have h02 : TGo w0 gr w2 gr2 := (TGo.ofBelow hbd).trans hG2
 obtain ⟨w3, hrun, gr3, h3, hF3, hO3⟩ := h2.put_in (n := (gNode k.S s).2) (by omega) (by unfold okN; omega) hA2 h.Nle (fun y hy => hG2.gr0 (hd0 y hy) ((hA.below hwd).i.dom y hy)) hs2
 obtain ⟨s', tag', m', v', q', hs', hA3, hg3⟩ := h3.tab (gNode k.S s).2 t (by omega) (if_pos rfl)
 rw [show upd pt (gNode k.S s).2 p (gNode k.S s).2 = p from if_pos rfl] at hA3
 refine ⟨rfl, h2.c6, h2.c7, w3, hrun, gr3, h3, ⟨?_, fun y hy => ?_⟩, ?_, (TIDs_any hA3.i (by rw [t.ids_len]; exact hA3.ok.n))⟩
 ·have F : Fr (fun y => gr y ≠ 0 \/ w0.heap.size <= y) w0 w3 := (h02.fr.mono (fun y hy => .inl hy)).trans (hF3.mono (fun y hy => h02.own y hy))
  exact ⟨F.os, F.tape, F.output, F.size, fun b hb hn => F.block b hb (by rintro (h1 | h1); exact hn h1; omega)⟩
 ·rcases hO3 y hy with h1 | h1 | h1
  ·exact h02.own y h1
  ·exact .inr (hA.i.lo y h1)
  ·have := h02.fr.size; exact .inr (by omega)
 ·have hN := h.Nle
  have hN2 := h2.Nle
  have hsz := hb.size
  exact (hwd.mono (by omega)).trans ((hG2.toBelow h.lo (by have := hwd.size; omega)).trans (hF3.toBelow h2.lo hN2))
set_option maxHeartbeats 2000000 in
theorem elay_any (h : CoJ 0 w0 N gr x k c pt) (hb : Below w0.heap.size w0 w) (hA : TbA w w0.heap.size tag p m v q s t) (hc : c <= 900000) (hpos : 0 < k.S.length) (hS : k.S.length <= 900000) (hok : ∀ id ∈ t.ids, okE id) :
  Calls Tryz.prog 49 #[.pointer (some ⟨x.p, 0, none⟩), .pointer (some ⟨p, 0, none⟩)] w (LayR N w0 w gr x k c s t) := by
 have CN := hi_ (lay_first h hb hA hc hpos hS)
 have CS : Hid (Calls Tryz.prog 63 #[.pointer (some ⟨p, 0, none⟩)] w.drew fun e w' => e = .returned (.int .u64 s) /\ w.drew = w') := hi_ (tsig_any (hA.below (Below.refl _ _).drew).i)
 have s1 : w.drew.cell? ⟨x.p, 6, none⟩ = some (.pointer (some ⟨x.pg, 0, none⟩)) := (h.below hb.drew).c6
 have hln : t.ids.length <= 1024 := by rw [t.ids_len]; exact hA.ok.n
 have HNw : Hid (N <= w.heap.size) := hi_ (Nat.le_trans h.Nle hb.size)
 have HOK := hi_ (And.intro hok (And.intro hc h.lo))
 have HLR : Hid (∀ e w', (∃ b, e = .returned (.bool b) /\ ((b = true /\ ∃ pl' gr' pt', layP (fun id => k.ns.alive id.1 id.2) (gNode k.S s).2 0 t.ids k.pl = some pl' /\ CoJ 0 w' N gr' x ⟨k.ns, (gNode k.S s).1, upd k.tb (gNode k.S s).2 (some t), pl'⟩ (c + 1 + t.ids.length) pt' /\ TGo w0 gr w' gr') \/ (b = false /\ layP (fun id => k.ns.alive id.1 id.2) (gNode k.S s).2 0 t.ids k.pl = none /\ Below N w w'))) -> LayR N w0 w gr x k c s t e w') := hi_ (fun _ _ h => h)
 obtain ⟨n, hn⟩ : ∃ n, n = (gNode k.S s).2 := ⟨_, rfl⟩
 obtain ⟨S', hS'⟩ : ∃ S', S' = (gNode k.S s).1 := ⟨_, rfl⟩
 obtain ⟨ids, hids⟩ : ∃ ids, ids = t.ids := ⟨_, rfl⟩
 obtain ⟨ln, hl⟩ : ∃ ln, ln = ids.length := ⟨_, rfl⟩
 obtain ⟨al, hal⟩ : ∃ al : Int × Int -> Bool, al = fun id => k.ns.alive id.1 id.2 := ⟨_, rfl⟩
 obtain ⟨k3, hk3⟩ : ∃ k3 : (Int × Int -> Option (Nat × Nat)) -> Ks, k3 = fun pl => ⟨k.ns, S', upd k.tb n (some t), pl⟩ := ⟨_, rfl⟩
 obtain ⟨pl0, hpl0⟩ : ∃ pl0, pl0 = k.pl := ⟨_, rfl⟩
 obtain ⟨c3, hc3⟩ : ∃ c3, c3 = c + 1 := ⟨_, rfl⟩
 rw [<- hn, <- hS', <- hids, <- hpl0] at CN HLR
 rw [show (⟨k.ns, S', upd k.tb n (some t), pl0⟩ : Ks) = k3 pl0 by rw [hk3], <- hl, <- hc3] at CN
 rw [<- hal, <- hl, <- hc3] at HLR
 rw [<- hids] at HOK hln
 rw [<- hl] at hln
 have HK3 : Hid (∀ pl, (⟨k.ns, S', upd k.tb n (some t), pl⟩ : Ks) = k3 pl) := hi_ (fun pl => by rw [hk3])
 have HKn : Hid (∀ pl i g, (k3 pl).ns.alive i g = al (i, g)) := hi_ (fun pl i g => by rw [hk3, hal])
 have HKp : Hid (∀ pl, (k3 pl).pl = pl) := hi_ (fun pl => by rw [hk3])
 have HKu : Hid (∀ pl pl2, ({ k3 pl with pl := pl2 } : Ks) = k3 pl2) := hi_ (fun pl pl2 => by rw [hk3])
 have HLN := hi_ hl
 have HC3 : Hid (c3 <= 900001) := hi_ (by omega)
 clear h hb hA hc hpos hS hok hn hS' hids hl hal hk3 hpl0 hc3
 go_enter Tryz.func49, Tryz.ntmps49
 go_upto_region 1 with fail
 refine wp_region_noPanic ?_
 refine wp_region_held_drew (S := fun W => W.cell? ⟨x.p, 6, none⟩ = some (.pointer (some ⟨x.pg, 0, none⟩))) (by kernel_rfl) s1 (fun hHeld => ?_)
 refine tk_ 0 ⟨some 10, .move (.tmp 0), 29, "ecs.go:272", #[], none⟩ hHeld ?_
 simp only [Act.put, sA_, sB_, sC_]
 refine tk_ 1 ⟨some 11, .nilCheck (.tmp 10), 0, "ecs.go:272", #[⟨0, .data⟩], none⟩ hHeld ?_
 simp only [Act.put, sA_, sB_, sC_]
 refine tk_ 2 ⟨some 12, .fieldAddr 82 (.tmp 11) 2, 0, "ecs.go:272", #[⟨1, .data⟩], none⟩ hHeld ?_
 simp only [Act.put, sA_, sB_, sC_]
 refine tk_ 3 ⟨some 13, .load 78 (.tmp 12), 78, "ecs.go:272", #[⟨2, .data⟩], none⟩ hHeld ?_
 simp only [Act.put, sA_, sB_, sC_]
 refine tk_ 4 ⟨some 14, .move (.tmp 1), 86, "ecs.go:272", #[], none⟩ hHeld ?_
 simp only [Act.put, sA_, sB_, sC_]
 refine wpAnyH_ready (rs := [5]) (by kernel_rfl) (by simp) ?_
 refine AllReadyH.cons (o := ⟨some 15, .call { callee := .value (.func 63), args := #[.tmp 14], argTypes := #[86] }, 68, "ecs.go:272", #[⟨4, .data⟩], none⟩) rfl (fun K' hK => ?_) AllReadyH.nil
 go_simp
 go_at_call 63; refine CS.out.mono ?_; rintro e w' ⟨rfl, rfl⟩
 refine hK.out _ _ s1 (fun hHeld => ?_)
 clear hK K'
 try simp only [Act.put, sA_, sB_, sC_]
 refine wpAnyH_ready (rs := [6]) (by kernel_rfl) (by simp) ?_
 refine AllReadyH.cons (o := ⟨some 16, .call { callee := .value (.func 59), args := #[.tmp 13, .tmp 15], argTypes := #[78, 68] }, 3, "ecs.go:272", #[⟨3, .data⟩, ⟨5, .data⟩, ⟨5, .chain⟩], none⟩) rfl (fun K' hK => ?_) AllReadyH.nil
 go_simp
 go_at_call 59; refine CN.out.mono ?_; rintro e w2 ⟨rfl, s2, c7, w3, hrun, gr3, h3, hG3, hB3, hI3⟩
 have H3 := hi_ (And.intro h3 (And.intro hG3 hB3))
 have CI := hi_ hI3
 clear h3 hG3 hB3 hI3
 refine hK.out _ _ s2 (fun hHeld => ?_)
 clear hK K'
 try simp only [Act.put, sA_, sB_, sC_]
 refine tk_ 7 ⟨some 5, .assign (.tmp 16), 3, "ecs.go:272", #[⟨6, .data⟩, ⟨6, .chain⟩, ⟨0, .phase⟩, ⟨1, .phase⟩, ⟨2, .phase⟩, ⟨3, .phase⟩, ⟨4, .phase⟩, ⟨5, .phase⟩, ⟨6, .phase⟩], none⟩ hHeld ?_
 simp only [Act.put, sA_, sB_, sC_]
 refine wpAnyH_done (by kernel_rfl) ?_ _
 refine NoPanic.normal ?_
 clear s1 s2 hHeld CS CN
 go_wp2_with (go_at_call 68; refine CI.out.mono ?_; rintro e w4 ⟨IA, ic, rfl, hI, hb4⟩; have HI := hi_ hI; have HB4 := hi_ hb4; clear hI hb4 c7 hrun CI)
 go_loopw [26] (fun iv wr => ∃ (j : Nat) (pl : Int × Int -> Option (Nat × Nat)) (gr' : Nat -> Nat), j <= ln /\ iv = .int .i64 j /\ layP al n 0 (ids.take j) pl0 = some pl /\ CoJ 0 wr N gr' x (k3 pl) (c3 + j) (upd pt n p) /\ TGo w4 gr3 wr gr') (fun iv _ => ln - (intOf iv).toNat)
 case atStart => exact ⟨0, pl0, gr3, Nat.zero_le _, rfl, rfl, H3.out.1.below HB4.out, TGo.refl _ _⟩
 case round =>
  obtain ⟨j, pl, gr', hj, rfl, hlp, hC, hG⟩ := hrel
  by_cases hjn : j < ln
  ·have hln := HLN.out
   obtain ⟨id, hid⟩ : ∃ id, ids[j]? = some id := ⟨_, List.getElem?_eq_getElem (by omega)⟩
   have hoid := HOK.out.1 id (List.mem_of_getElem? hid)
   have hsn : layP al n 0 (ids.take (j + 1)) pl0 = if (pl id).isSome || !al id then none else some (fun a => if a = id then some (n, j) else pl a) := by
    rw [List.take_add_one, hid, Option.toList_some, layP_snoc, hlp, Option.bind_some, Nat.zero_add, List.length_take, Nat.min_eq_left (by omega)]
   have hno : ((pl id).isSome || !al id) = true -> layP al n 0 ids pl0 = none := fun hh => by
    rw [if_pos hh] at hsn
    have := layP_none_append al n 0 (ids.take (j + 1)) (ids.drop (j + 1)) pl0 hsn
    rwa [List.take_append_drop] at this
   have hIr : IdsV (fun y => w3.heap.size <= y /\ y < w4.heap.size) wr IA ln ids := HI.out.stays ⟨hG.fr.size, fun y hy => hG.fr.block y hy.2 (fun hn => by have := H3.out.1.dom y hn; omega)⟩
   obtain ⟨b, o, hIA, hblt, k0, k1⟩ := hIr.cell hid
   have hLP := hC.lookP hoid
   rw [HKp.out] at hLP
   obtain ⟨i, g⟩ := id
   obtain ⟨pn, pr, hpv⟩ : ∃ pn pr : Nat, ((pl (i, g)).map plV).getD (.agg #[.int .i64 0, .int .i64 0]) = .agg #[.int .i64 (pn : Int), .int .i64 (pr : Int)] := by
    cases pl (i, g) with
    | none => exact ⟨0, 0, rfl⟩
    | some y => exact ⟨y.1, y.2, rfl⟩
   rw [hpv] at hLP
   obtain ⟨ok, hokk⟩ : ∃ ok, ok = (pl (i, g)).isSome := ⟨_, rfl⟩
   obtain ⟨aa, haa⟩ : ∃ aa, aa = al (i, g) := ⟨_, rfl⟩
   rw [<- hokk] at hLP hsn hno
   rw [<- haa] at hsn hno
   simp only at k0 k1
   subst hIA
   obtain ⟨w5, hw5⟩ : ∃ w5, w5 = wr.alloc (.cells #[.int .i64 0, .int .i64 0] 32) := ⟨_, rfl⟩
   have R5 := hi_ (show Rec 32 w5 wr.heap.size #[.int .i64 0, .int .i64 0] by rw [hw5]; exact Rec.new wr _ _)
   have HB5 := hi_ (show Below wr.heap.size wr w5 by rw [hw5]; exact (Below.refl _ _).alloc (Nat.le_refl _) _)
   have HC := hi_ hC
   have HG := hi_ hG
   have HP := hi_ (And.intro hsn (And.intro hno hoid))
   have HAA := hi_ haa
   have HOKK := hi_ hokk
   have HPV := hi_ hpv
   have hlb : j + 1 <= 1000000 := by omega
   clear hlp hC hG hid hoid hsn hno hIr hblt hLP hpv haa hokk hln
   go_upto_region 6 with (first
    | (rw [<- hw5]; clear hw5)
    | ((with_reducible refine wpList_stP rfl (.tmp 7) (.tmp 30) rfl rfl rfl R5.out ?_); intro w6 hR6 hF6; have H6 := hi_ (And.intro hR6 (HB5.out.trans (hF6.toBelow (fun y hy => by rw [show y = wr.heap.size from hy]; exact Nat.le_refl _) HB5.out.size))); clear hR6 hF6 k0 k1))
   obtain ⟨B, hB⟩ : ∃ B, B = wr.heap.size := ⟨_, rfl⟩
   have h6 := HC.out.below H6.out.2
   have r6 := H6.out.1
   rw [<- hB] at r6 ⊢
   have LP : Hid (∀ W, Below w6.heap.size w6 W -> (W.cell? ⟨x.p, 8, none⟩ = some (.map (some x.mp)) /\ (W.cell? ⟨B, 0, none⟩ = some (.int .i64 i) /\ W.cell? ⟨B, 1, none⟩ = some (.int .i64 g)) /\ (Instr.lookup 80 (.map (some x.mp)) (.agg #[.int .i64 i, .int .i64 g]) true).run Tryz.prog W = .ok (.tuple #[.agg #[.int .i64 (pn : Int), .int .i64 (pr : Int)], .bool ok]) W)) := hi_ (fun W hW => by
    have hWW := h6.below hW
    have L := hWW.lookP HP.out.2.2
    rw [HKp.out] at L
    have r6' := r6.under hW
    refine ⟨hWW.c8, ⟨r6'.at_ 0, r6'.at_ 1⟩, ?_⟩
    rw [HOKK.out]
    rw [show ((pl (i, g)).map plV).getD (.agg #[.int .i64 0, .int .i64 0]) = .agg #[.int .i64 (pn : Int), .int .i64 (pr : Int)] from HPV.out] at L
    exact L)
   obtain ⟨w7, hw7⟩ : ∃ w7, w7 = (w6.alloc (.cells #[.int .i64 0, .int .i64 0] 85)).drew := ⟨_, rfl⟩
   have hb7 : Below w6.heap.size w6 w7 := by rw [hw7]; exact ((Below.refl _ _).alloc (Nat.le_refl _) _).drew
   have R7 := hi_ (show Rec 85 w7 w6.heap.size #[.int .i64 0, .int .i64 0] by rw [hw7]; exact Rec.new w6 _ _)
   have HW7 := hi_ hw7
   have HB7 := hi_ hb7
   have RB := hi_ r6
   have C6 := hi_ h6
   have HB0 := hi_ (show Below wr.heap.size wr w6 from H6.out.2)
   have s1 := LP.out w6.drew (Below.refl _ _).drew
   have s2 := LP.out w7 hb7
   have HBB := hi_ hB
   clear h6 r6 hw7 hb7 hB H6
   refine wp_region_noPanic ?_
   refine wp_region_held_drew (S := fun W => W.cell? ⟨x.p, 8, none⟩ = some (.map (some x.mp)) /\ (W.cell? ⟨B, 0, none⟩ = some (.int .i64 i) /\ W.cell? ⟨B, 1, none⟩ = some (.int .i64 g)) /\ (Instr.lookup 80 (.map (some x.mp)) (.agg #[.int .i64 i, .int .i64 g]) true).run Tryz.prog W = .ok (.tuple #[.agg #[.int .i64 (pn : Int), .int .i64 (pr : Int)], .bool ok]) W) (by kernel_rfl) s1 (fun hHeld => ?_)
   refine tk_ 0 ⟨some 32, .move (.tmp 0), 29, "ecs.go:275", #[], none⟩ hHeld ?_
   simp only [Act.put, sA_, sB_, sC_]
   refine tk_ 1 ⟨some 33, .nilCheck (.tmp 32), 0, "ecs.go:275", #[⟨0, .data⟩], none⟩ hHeld ?_
   simp only [Act.put, sA_, sB_, sC_]
   refine tk_ 2 ⟨some 34, .fieldAddr 82 (.tmp 33) 4, 0, "ecs.go:275", #[⟨1, .data⟩], none⟩ hHeld ?_
   simp only [Act.put, sA_, sB_, sC_]
   refine tk_ 3 ⟨some 35, .load 80 (.tmp 34), 80, "ecs.go:275", #[⟨2, .data⟩], none⟩ hHeld ?_
   simp only [Act.put, sA_, sB_, sC_]
   refine tk_ 4 ⟨some 36, .load 32 (.tmp 7), 32, "ecs.go:275", #[], none⟩ hHeld ?_
   simp only [Act.put, sA_, sB_, sC_]
   refine tk_ 5 ⟨some 37, .lookup 80 (.tmp 35) (.tmp 36) true, 159, "ecs.go:275", #[⟨3, .data⟩, ⟨4, .data⟩], none⟩ hHeld ?_
   simp only [Act.put, sA_, sB_, sC_]
   refine tk_ 6 ⟨some 31, .move (.tmp 37), 159, "ecs.go:275", #[⟨5, .data⟩], none⟩ hHeld ?_
   simp only [Act.put, sA_, sB_, sC_]
   refine tk_ 7 ⟨some 38, .extract (.tmp 31) 0, 85, "ecs.go:275", #[⟨6, .data⟩], none⟩ hHeld ?_
   simp only [Act.put, sA_, sB_, sC_]
   refine tk_ 8 ⟨some 39, .extract (.tmp 31) 1, 4, "ecs.go:275", #[⟨6, .data⟩, ⟨10, .gcOnly .lateStores⟩], none⟩ hHeld ?_
   simp only [Act.put, sA_, sB_, sC_]
   refine wpAnyH_ready (rs := [9]) (by kernel_rfl) (by simp) ?_
   refine AllReadyH.cons (o := ⟨some 8, .alloc 85, 0, "ecs.go:275", #[], none⟩) rfl (fun K' hK => ?_) AllReadyH.nil
   go_simp
   rw [<- HW7.out]
   refine hK.out _ _ s2 (fun hHeld => ?_)
   clear hK K'
   try simp only [Act.put, sA_, sB_, sC_]
   refine wpAnyH_ready (rs := [10]) (by kernel_rfl) (by simp) ?_
   refine AllReadyH.cons (o := ⟨none, .store 85 (.tmp 8) (.tmp 38), 0, "ecs.go:275", #[⟨9, .data⟩, ⟨7, .data⟩, ⟨0, .phase⟩, ⟨1, .phase⟩, ⟨2, .phase⟩, ⟨3, .phase⟩, ⟨4, .phase⟩, ⟨5, .phase⟩, ⟨6, .phase⟩, ⟨7, .phase⟩, ⟨8, .textOnly .lateStores⟩, ⟨9, .phase⟩], none⟩) rfl (fun K' hK => ?_) AllReadyH.nil
   refine step_stPl pn pr rfl rfl (.tmp 8) (.tmp 38) rfl rfl rfl R7.out ?_
   intro w8 hR3 hF3
   have hb8 : Below w6.heap.size w6 w8 := HB7.out.trans (hF3.toBelow (fun y hy => by rw [show y = w6.heap.size from hy]; exact Nat.le_refl _) HB7.out.size)
   have HB86 := hi_ hb8.size
   have s3 := LP.out w8 hb8
   refine hK.out _ _ s3 (fun hHeld => ?_)
   clear hK K'
   try simp only [Act.put]
   refine tk_ 11 ⟨some 9, .assign (.tmp 39), 4, "ecs.go:275", #[⟨8, .data⟩, ⟨10, .chain⟩, ⟨0, .phase⟩, ⟨1, .phase⟩, ⟨2, .phase⟩, ⟨3, .phase⟩, ⟨4, .phase⟩, ⟨5, .phase⟩, ⟨6, .phase⟩, ⟨7, .phase⟩, ⟨8, .phase⟩, ⟨9, .phase⟩, ⟨10, .phase⟩], none⟩ hHeld ?_
   simp only [Act.put, sA_, sB_, sC_]
   refine wpAnyH_done (by kernel_rfl) ?_ _
   refine NoPanic.normal ?_
   clear s1 s2 s3 hHeld hR3 hF3 LP
   have h8 := C6.out.below hb8
   have r8 := RB.out.under hb8
   have hb08 : Below wr.heap.size wr w8 := HB0.out.trans (hb8.mono HB0.out.size)
   have HB8 := hi_ hb08
   clear hb08
   cases ok with
   | true =>
    clear h8 r8 hb8
    have s7 : True := trivial
    go_upto_region 7 with fail
    refine wp_region_noPanic ?_
    refine wp_region_held_drew (S := fun W => True) (by kernel_rfl) s7 (fun hHeld => ?_)
    refine tk_ 0 ⟨some 40, .move (.tmp 9), 4, "ecs.go:275", #[], none⟩ hHeld ?_
    simp only [Act.put, sA_, sB_, sC_]
    refine tk_ 1 ⟨some 41, .move (.tmp 40), 4, "ecs.go:275", #[⟨0, .data⟩], none⟩ hHeld ?_
    simp only [Act.put, sA_, sB_, sC_]
    refine sk_ 2 ⟨some 42, .move (.tmp 0), 29, "ecs.go:275", #[⟨1, .guard⟩], some (1, false)⟩ hHeld ?_
    simp only [Act.put, sA_, sB_, sC_]
    refine sk_ 3 ⟨some 43, .nilCheck (.tmp 42), 0, "ecs.go:275", #[⟨2, .data⟩, ⟨1, .guard⟩], some (1, false)⟩ hHeld ?_
    simp only [Act.put, sA_, sB_, sC_]
    refine sk_ 4 ⟨some 44, .fieldAddr 82 (.tmp 43) 1, 0, "ecs.go:275", #[⟨3, .data⟩, ⟨1, .guard⟩], some (1, false)⟩ hHeld ?_
    simp only [Act.put, sA_, sB_, sC_]
    refine sk_ 5 ⟨some 45, .load 72 (.tmp 44), 72, "ecs.go:275", #[⟨4, .data⟩, ⟨1, .guard⟩], some (1, false)⟩ hHeld ?_
    simp only [Act.put, sA_, sB_, sC_]
    refine sk_ 6 ⟨some 46, .load 32 (.tmp 7), 32, "ecs.go:275", #[⟨1, .guard⟩], some (1, false)⟩ hHeld ?_
    simp only [Act.put, sA_, sB_, sC_]
    refine sk_ 7 ⟨some 47, .call { callee := .value (.func 106), args := #[.tmp 45, .tmp 46], argTypes := #[72, 32] }, 4, "ecs.go:275", #[⟨5, .data⟩, ⟨6, .data⟩, ⟨1, .chain⟩, ⟨1, .guard⟩], some (1, false)⟩ hHeld ?_
    simp only [Act.put, sA_, sB_, sC_]
    refine sk_ 8 ⟨some 48, .unOp .not 4 (.tmp 47), 4, "ecs.go:275", #[⟨7, .data⟩, ⟨1, .guard⟩], some (1, false)⟩ hHeld ?_
    simp only [Act.put, sA_, sB_, sC_]
    refine tk_ 9 ⟨some 49, .pick (.tmp 41) (.const (.bool true)) (.tmp 48), 4, "ecs.go:275", #[⟨1, .data⟩, ⟨8, .data⟩], none⟩ hHeld ?_
    simp only [Act.put, sA_, sB_, sC_]
    refine wpAnyH_done (by kernel_rfl) ?_ _
    refine NoPanic.normal ?_
    clear s7 hHeld
    go_wp2
    go_ret
    exact HLR.out _ _ ⟨false, rfl, .inr ⟨rfl, HP.out.2.1 (by first | rfl | simp), H3.out.2.2.trans ((HB4.out.mono (Nat.le_trans HNw.out H3.out.2.2.size)).trans ((HG.out.toBelow H3.out.1.lo (Nat.le_trans (Nat.le_trans HNw.out H3.out.2.2.size) HB4.out.size)).trans ((HB8.out.drew).mono (Nat.le_trans (Nat.le_trans (Nat.le_trans HNw.out H3.out.2.2.size) HB4.out.size) HG.out.fr.size))))⟩⟩
   | false =>
    have CA : Hid (Calls Tryz.prog 106 #[.pointer (some ⟨x.pi, 0, none⟩), .agg #[.int .i64 i, .int .i64 g]] w8.drew fun e w' => e = .returned (.bool aa) /\ Below w8.drew.heap.size w8.drew w') := hi_ (by
     obtain ⟨gv, av, fv, I⟩ := (h8.below (Below.refl _ _).drew).ids (by decide)
     have := Alive_any I i g
     rw [HKn.out, <- HAA.out] at this
     exact this)
    have HX : Hid (∀ W, Below w8.heap.size w8 W -> (W.cell? ⟨x.p, 5, none⟩ = some (.pointer (some ⟨x.pi, 0, none⟩)) /\ (W.cell? ⟨B, 0, none⟩ = some (.int .i64 i) /\ W.cell? ⟨B, 1, none⟩ = some (.int .i64 g))) /\ W.cell? ⟨x.p, 8, none⟩ = some (.map (some x.mp))) := hi_ (fun W hW => ⟨⟨(h8.below hW).c5, (r8.under hW).at_ 0, (r8.under hW).at_ 1⟩, (h8.below hW).c8⟩)
    have s7 := (HX.out w8.drew (Below.refl _ _).drew).1
    have H8 := hi_ h8
    clear h8 r8 hb8
    go_upto_region 7 with fail
    refine wp_region_noPanic ?_
    refine wp_region_held_drew (S := fun W => W.cell? ⟨x.p, 5, none⟩ = some (.pointer (some ⟨x.pi, 0, none⟩)) /\ (W.cell? ⟨B, 0, none⟩ = some (.int .i64 i) /\ W.cell? ⟨B, 1, none⟩ = some (.int .i64 g))) (by kernel_rfl) s7 (fun hHeld => ?_)
    refine tk_ 0 ⟨some 40, .move (.tmp 9), 4, "ecs.go:275", #[], none⟩ hHeld ?_
    simp only [Act.put, sA_, sB_, sC_]
    refine tk_ 1 ⟨some 41, .move (.tmp 40), 4, "ecs.go:275", #[⟨0, .data⟩], none⟩ hHeld ?_
    simp only [Act.put, sA_, sB_, sC_]
    refine tk_ 2 ⟨some 42, .move (.tmp 0), 29, "ecs.go:275", #[⟨1, .guard⟩], some (1, false)⟩ hHeld ?_
    simp only [Act.put, sA_, sB_, sC_]
    refine tk_ 3 ⟨some 43, .nilCheck (.tmp 42), 0, "ecs.go:275", #[⟨2, .data⟩, ⟨1, .guard⟩], some (1, false)⟩ hHeld ?_
    simp only [Act.put, sA_, sB_, sC_]
    refine tk_ 4 ⟨some 44, .fieldAddr 82 (.tmp 43) 1, 0, "ecs.go:275", #[⟨3, .data⟩, ⟨1, .guard⟩], some (1, false)⟩ hHeld ?_
    simp only [Act.put, sA_, sB_, sC_]
    refine tk_ 5 ⟨some 45, .load 72 (.tmp 44), 72, "ecs.go:275", #[⟨4, .data⟩, ⟨1, .guard⟩], some (1, false)⟩ hHeld ?_
    simp only [Act.put, sA_, sB_, sC_]
    refine tk_ 6 ⟨some 46, .load 32 (.tmp 7), 32, "ecs.go:275", #[⟨1, .guard⟩], some (1, false)⟩ hHeld ?_
    simp only [Act.put, sA_, sB_, sC_]
    refine wpAnyH_ready (rs := [7]) (by kernel_rfl) (by simp) ?_
    refine AllReadyH.cons (o := ⟨some 47, .call { callee := .value (.func 106), args := #[.tmp 45, .tmp 46], argTypes := #[72, 32] }, 4, "ecs.go:275", #[⟨5, .data⟩, ⟨6, .data⟩, ⟨1, .chain⟩, ⟨1, .guard⟩], some (1, false)⟩) rfl (fun K' hK => ?_) AllReadyH.nil
    go_simp
    go_at_call 106; refine CA.out.mono ?_; rintro e w9 ⟨rfl, hb9⟩
    have HB9 := hi_ (show Below w8.heap.size w8.drew w9 from hb9)
    have s8 := (HX.out w9 ((show Below w8.heap.size w8 w8.drew from (Below.refl _ _).drew).trans HB9.out)).1
    clear hb9
    refine hK.out _ _ s8 (fun hHeld => ?_)
    clear hK K'
    try simp only [Act.put, sA_, sB_, sC_]
    refine tk_ 8 ⟨some 48, .unOp .not 4 (.tmp 47), 4, "ecs.go:275", #[⟨7, .data⟩, ⟨1, .guard⟩], some (1, false)⟩ hHeld ?_
    simp only [Act.put, sA_, sB_, sC_]
    refine tk_ 9 ⟨some 49, .pick (.tmp 41) (.const (.bool true)) (.tmp 48), 4, "ecs.go:275", #[⟨1, .data⟩, ⟨8, .data⟩], none⟩ hHeld ?_
    simp only [Act.put, sA_, sB_, sC_]
    refine wpAnyH_done (by kernel_rfl) ?_ _
    refine NoPanic.normal ?_
    clear s7 s8 hHeld CA
    cases aa with
    | false =>
     go_wp2
     go_ret
     exact HLR.out _ _ ⟨false, rfl, .inr ⟨rfl, HP.out.2.1 (by first | rfl | simp), H3.out.2.2.trans ((HB4.out.mono (Nat.le_trans HNw.out H3.out.2.2.size)).trans ((HG.out.toBelow H3.out.1.lo (Nat.le_trans (Nat.le_trans HNw.out H3.out.2.2.size) HB4.out.size)).trans (((HB8.out.drew).trans (HB9.out.mono HB8.out.drew.size)).mono (Nat.le_trans (Nat.le_trans (Nat.le_trans HNw.out H3.out.2.2.size) HB4.out.size) HG.out.fr.size))))⟩⟩
    | true =>
     have hb89 : Below w8.heap.size w8 w9 := (show Below w8.heap.size w8 w8.drew from (Below.refl _ _).drew).trans HB9.out
     have h9 := H8.out.below (hb89.drew)
     obtain ⟨w10, hrun, gr10, h10, hG10, hF10⟩ := h9.put_pl (by have := HC3.out; omega) HP.out.2.2 n j
     have s9 := And.intro (HX.out w9.drew hb89.drew).2 (HX.out w9.drew hb89.drew).1.2
     have hmpB : x.mp ≠ B := fun e => by have hh : gr' x.mp = 3 := HC.out.gm; have h1 := HC.out.dom x.mp (by rw [hh]; decide); have h2 := HBB.out; omega
     have kB := hF10.block B (Nat.lt_of_lt_of_le RB.out.lt (Nat.le_trans HB86.out hb89.drew.size)) (fun e => hmpB e.symm)
     have s10 : w10.cell? ⟨x.p, 8, none⟩ = some (.map (some x.mp)) /\ (w10.cell? ⟨B, 0, none⟩ = some (.int .i64 i) /\ w10.cell? ⟨B, 1, none⟩ = some (.int .i64 g)) := ⟨h10.c8, (World.cell?_of_block (w := w9.drew) (a := ⟨B, 0, none⟩) kB).trans s9.2.1, (World.cell?_of_block (w := w9.drew) (a := ⟨B, 1, none⟩) kB).trans s9.2.2⟩
     have H10 := hi_ (show CoJ 0 w10 N gr10 x (k3 fun a => if a = (i, g) then some (n, j) else pl a) (c3 + (j + 1)) (upd pt n p) /\ TGo w4 gr3 w10 gr10 from ⟨by rw [HKu.out, HKp.out] at h10; exact h10, HG.out.trans ((TGo.ofBelow (HB8.out.trans (hb89.drew.mono HB8.out.size))).trans hG10)⟩)
     clear h9 h10 hG10 hF10 hb89 hmpB kB
     go_upto_region 9 with fail
     refine wp_region_noPanic ?_
     refine wp_region_held_drew (S := fun W => W.cell? ⟨x.p, 8, none⟩ = some (.map (some x.mp)) /\ (W.cell? ⟨B, 0, none⟩ = some (.int .i64 i) /\ W.cell? ⟨B, 1, none⟩ = some (.int .i64 g))) (by kernel_rfl) s9 (fun hHeld => ?_)
     refine tk_ 0 ⟨some 50, .move (.tmp 0), 29, "ecs.go:278", #[], none⟩ hHeld ?_
     simp only [Act.put, sA_, sB_, sC_]
     refine tk_ 1 ⟨some 51, .nilCheck (.tmp 50), 0, "ecs.go:278", #[⟨0, .data⟩], none⟩ hHeld ?_
     simp only [Act.put, sA_, sB_, sC_]
     refine tk_ 2 ⟨some 52, .fieldAddr 82 (.tmp 51) 4, 0, "ecs.go:278", #[⟨1, .data⟩], none⟩ hHeld ?_
     simp only [Act.put, sA_, sB_, sC_]
     refine tk_ 3 ⟨some 53, .load 80 (.tmp 52), 80, "ecs.go:278", #[⟨2, .data⟩], none⟩ hHeld ?_
     simp only [Act.put, sA_, sB_, sC_]
     refine tk_ 4 ⟨some 54, .load 32 (.tmp 7), 32, "ecs.go:278", #[], none⟩ hHeld ?_
     simp only [Act.put, sA_, sB_, sC_]
     refine tk_ 5 ⟨some 55, .move (.tmp 5), 3, "ecs.go:278", #[], none⟩ hHeld ?_
     simp only [Act.put, sA_, sB_, sC_]
     refine tk_ 6 ⟨some 56, .move (.tmp 6), 3, "ecs.go:278", #[], none⟩ hHeld ?_
     simp only [Act.put, sA_, sB_, sC_]
     refine tk_ 7 ⟨some 57, .build 85 #[(0, .tmp 55), (1, .tmp 56)], 85, "ecs.go:278", #[⟨5, .data⟩, ⟨6, .data⟩], none⟩ hHeld ?_
     simp only [Act.put, sA_, sB_, sC_]
     refine wpAnyH_ready (rs := [8]) (by kernel_rfl) (by simp) ?_
     refine AllReadyH.cons (o := ⟨none, .mapUpdate 80 (.tmp 53) (.tmp 54) (.tmp 57), 0, "ecs.go:278", #[⟨3, .data⟩, ⟨4, .data⟩, ⟨7, .data⟩, ⟨0, .phase⟩, ⟨1, .phase⟩, ⟨2, .phase⟩, ⟨3, .phase⟩, ⟨4, .phase⟩, ⟨5, .phase⟩, ⟨6, .phase⟩, ⟨7, .phase⟩], none⟩) rfl (fun K' hK => ?_) AllReadyH.nil
     go_simp
     refine hK.out _ _ s10 (fun hHeld => ?_)
     clear hK K'
     try simp only [Act.put]
     refine wpAnyH_done (by kernel_rfl) ?_ _
     refine NoPanic.normal ?_
     clear s9 s10 hHeld
     go_wp2
     go_roundw
     case rel => exact ⟨j + 1, _, gr10, hjn, by go_num, by rw [HP.out.1]; rfl, H10.out.1, H10.out.2⟩
     case measure => simp [intOf]; omega
  ·obtain rfl : j = ln := by omega
   have hes : ids.take j = ids := List.take_of_length_le (Nat.le_of_eq HLN.out.symm)
   rw [hes] at hlp
   have HZ := hi_ (And.intro hlp (And.intro hC hG))
   clear hlp hC hG hes
   go_wp2
   go_ret
   exact HLR.out _ _ ⟨true, rfl, .inl ⟨rfl, pl, gr', _, HZ.out.1, by rw [HK3.out]; exact HZ.out.2.1, H3.out.2.1.trans ((TGo.ofBelow HB4.out).trans HZ.out.2.2)⟩⟩
end
end Go.Proofs.YtaoinkjjmakhaaaGreatDoor
namespace Go.Proofs.YtaoinkjjmakhaaaGreatDoor
open Go.RowKit
set_option maxRecDepth 20000
theorem ldRow_getD (cs : List (Int × Nat)) (cols : List (List UInt8)) (i k j : Nat) (hj : j < k) : (ldRow cs cols i k).getD j (0, []) = ((cs.getD j (0, 0)).1, ((cols.getD j []).drop (i * (cs.getD j (0, 0)).2)).take (cs.getD j (0, 0)).2) := by
 unfold ldRow
 rw [List.getD_eq_getElem?_getD, List.getElem?_map, List.getElem?_range hj]
 rfl
theorem ldRows_ids (cs : List (Int × Nat)) (ids : List (Int × Int)) (cols : List (List UInt8)) : (ldRows cs ids cols ids.length).map (·.1) = ids := by
 unfold ldRows
 rw [List.map_map]
 apply List.ext_getElem (by simp)
 intro j h1 h2
 simp [List.getD, List.getElem?_eq_getElem h2]
theorem loaded_ok {n : Nat} {zs : Nat -> Int} {s : Nat} {cs : List (Int × Nat)} {ids : List (Int × Int)} {cols : List (List UInt8)} (hcs : cs = (Tb.new n zs s).cs) (hm : ids.length <= 1024) (hfit : colsFit cs ids.length cols cs.length) : (⟨cs, ldRows cs ids cols ids.length⟩ : Tb).Ok := by
 have h0 := Tb.new_ok n zs s
 refine ⟨by show (ldRows cs ids cols ids.length).length <= 1024; rw [ldRows_len]; exact hm, by rw [hcs]; exact h0.cn, by rw [hcs]; exact h0.z, fun r hr => ?_, by rw [hcs]; exact h0.cz, by rw [hcs]; exact h0.nd⟩
 obtain ⟨i, hi, rfl⟩ := List.mem_map.1 hr
 have hi := List.mem_range.1 hi
 show (ldRow cs cols i cs.length).map (fun p => (p.1, p.2.length)) = cs
 unfold ldRow
 rw [List.map_map]
 apply List.ext_getElem (by simp)
 intro j h1 h2
 have hf := hfit j h2
 simp only [List.getElem_map, List.getElem_range, Function.comp_apply, List.length_take, List.length_drop, hf]
 have e : cs.getD j (0, 0) = cs[j] := by simp [List.getD, List.getElem?_eq_getElem h2]
 rw [e]
 have : (i + 1) * cs[j].2 <= ids.length * cs[j].2 := Nat.mul_le_mul_right _ hi
 rw [Nat.succ_mul] at this
 rw [Nat.min_eq_left (by omega)]
theorem TbA.loaded {w' : World} {N : Nat} {tag : Nat -> Nat} {p m : Nat} {v : Value} {q : Nat -> Nat} {n : Nat} {zs : Nat -> Int} {s : Nat} {cs : List (Int × Nat)} {ids : List (Int × Int)} {cols : List (List UInt8)} (hs : s < 18446744073709551616) (hcs : cs = (Tb.new n zs s).cs)
  (hs1 : s &&& ofL (idxs n) 64 = s) (hm : ids.length <= 1024) (hfit : colsFit cs ids.length cols cs.length) (hI : TbI w' N tag p m v q s cs ids (coOf cs ids.length cols)) : TbA w' N tag p m v q s ⟨cs, ldRows cs ids cols ids.length⟩ where
 i := by
  have hids : Tb.ids ⟨cs, ldRows cs ids cols ids.length⟩ = ids := ldRows_ids cs ids cols
  rw [hids]
  refine hI.congr (fun j hj => ?_)
  unfold coOf Tb.co chunks ldRows
  simp only [List.map_map]
  congr 1
  refine List.map_congr_left fun i _ => ?_
  simp only [Function.comp_apply, ldRow_getD cs cols i cs.length j hj]
 ok := loaded_ok hcs hm hfit
 sig := by
  have := new_cs n zs s
  rw [hs1, <- hcs] at this
  exact this
 sgl := hs
end Go.Proofs.YtaoinkjjmakhaaaGreatDoor
namespace Go.Proofs.YtaoinkjjmakhaaaGreatDoor
open Go.RowKit Go.Maps
set_option maxRecDepth 20000
theorem MapE.count {P : Program} {k : TypeId} {ι : Type} {val : ι -> Value} {lit : ι -> Lit} {ok : ι -> Prop} {z : Value} {w : World} {m n : Nat} {f : ι -> Option Value} (K : Kf P k val lit ok) (h : MapE P k lit ok z w m n f) (L : List ι) (hL : L.Nodup) (hm : ∀ i, i ∈ L ↔ ok i /\ (f i).isSome = true) : n = L.length := by
 obtain ⟨D, ho, hs, _, hh, hk⟩ := h
 obtain ⟨es, hD, hpw, _⟩ := ho.entries K.law
 subst hD
 have hsz : Maps.size (.map es) = es.length := rfl
 have hn1 : (es.map (·.1)).Nodup := by rw [List.nodup_iff_pairwise_ne, List.pairwise_map]; exact hpw
 have hn2 : (L.map lit).Nodup := by
  rw [List.nodup_iff_pairwise_ne, List.pairwise_map]
  exact (List.nodup_iff_pairwise_ne.1 hL).imp_of_mem (fun {a b} ha hb hne e => hne (K.inj ((hm a).1 ha).1 ((hm b).1 hb).1 e))
 have hp : (es.map (·.1)).Perm (L.map lit) := (List.perm_ext_iff_of_nodup hn1 hn2).2 (fun kl => by
  constructor
  ·intro hkl
   have hx : Maps.has (.map es) kl = true := by
    obtain ⟨p, hp, rfl⟩ := List.mem_map.1 hkl
    rw [has_eq, List.any_eq_true]
    obtain ⟨es', hD', hko⟩ := ho.keysOf
    obtain rfl : es = es' := by simpa using hD'
    obtain ⟨v, hv⟩ := hko p hp
    exact ⟨p, hp, WideAt.sameKey_self (K.law.key hv)⟩
   obtain ⟨i, hi, rfl⟩ := hk kl hx
   exact List.mem_map.2 ⟨i, (hm i).2 ⟨hi, by rw [<- hh i hi]; exact hx⟩, rfl⟩
  ·intro hkl
   obtain ⟨i, hi, rfl⟩ := List.mem_map.1 hkl
   have hx := hh i ((hm i).1 hi).1
   rw [((hm i).1 hi).2, has_eq, List.any_eq_true] at hx
   obtain ⟨p, hp, he⟩ := hx
   exact List.mem_map.2 ⟨p, hp, WideAt.sameKey_eq he⟩)
 have := hp.length_eq
 rw [List.length_map, List.length_map] at this
 rw [<- hs, hsz, this]
theorem layP_said (al : Int × Int -> Bool) (n : Nat) : ∀ (l : List (Int × Int)) (r : Nat) (pl q : Int × Int -> Option (Nat × Nat)), layP al n r l pl = some q -> l.Nodup /\ (∀ id ∈ l, pl id = none /\ al id = true) /\ ∀ id, (q id).isSome = true ↔ ((pl id).isSome = true \/ id ∈ l)
 | [], r, pl, q, h => by
  injection h with h
  subst h
  exact ⟨List.nodup_nil, fun _ h => absurd h List.not_mem_nil, fun id => by simp⟩
 | a :: l, r, pl, q, h => by
  rw [layP] at h
  by_cases h2 : ((pl a).isSome || !al a) = true
  ·rw [if_pos h2] at h; cases h
  ·rw [if_neg h2] at h
   have ha : pl a = none /\ al a = true := by
    cases hpa : pl a with
    | none => cases haa : al a with
     | true => exact ⟨rfl, rfl⟩
     | false => rw [hpa, haa] at h2; simp at h2
    | some y => rw [hpa] at h2; simp at h2
   obtain ⟨h3, h4, h5⟩ := layP_said al n l (r + 1) _ q h
   have hnot : a ∉ l := fun hm => by have := (h4 a hm).1; simp at this
   refine ⟨List.nodup_cons.2 ⟨hnot, h3⟩, fun id hid => ?_, fun id => ?_⟩
   ·rcases List.mem_cons.1 hid with e | e
    ·rw [e]; exact ha
    ·have := h4 id e
     by_cases he : id = a
     ·rw [he]; exact ha
     ·simp only [if_neg he] at this
      exact this
   ·rw [h5 id]
    by_cases he : id = a
    ·simp [he]
    ·simp [he]
theorem ColsL.rowsV {K : Nat -> Prop} {w : World} {A : Option Addr} {n : Nat} {ls : List (List UInt8)} (h : ColsL K w A n ls) : RowsV K w A n ls := by
 obtain ⟨vs, h1, h2, ch, rfl, h4, h5, h6⟩ := h
 refine ⟨_, h1, h2, by rw [flatg_len h5, Nat.mul_one]; exact h4, fun j u hj => ?_⟩
 have hjl : j < ls.length := by have := (List.getElem?_eq_some_iff.1 hj).1; rw [flatg_len h5, Nat.mul_one] at this; omega
 obtain ⟨r, hr, u', hu', hV⟩ := h6 j ls[j] (List.getElem?_eq_getElem hjl)
 subst hu'
 have hg := flatg_get h5 hr (i := 0) (by decide)
 rw [Nat.mul_one, Nat.add_zero, hj] at hg
 injection hg with hg
 rw [List.getD_eq_getElem?_getD, List.getElem?_eq_getElem hjl, Option.getD_some, hg]
 exact hV
def TLd (n : Nat) (zs : Nat -> Int) (r : Rw) (t : Tb) : Prop :=
 t = ⟨(Tb.new n zs r.1).cs, ldRows (Tb.new n zs r.1).cs r.2.1 r.2.2 r.2.1.length⟩ /\ r.1 &&& ofL (idxs n) 64 = r.1 /\ r.2.2.length = (Tb.new n zs r.1).cs.length /\ r.2.1.length <= 1024 /\ colsFit (Tb.new n zs r.1).cs r.2.1.length r.2.2 (Tb.new n zs r.1).cs.length
theorem TLd.ids {n : Nat} {zs : Nat -> Int} {r : Rw} {t : Tb} (h : TLd n zs r t) : t.ids = r.2.1 := by
 rw [h.1]
 exact ldRows_ids _ _ _
section
variable (lg pg en gn : Int) (A : Option Addr) (n cap : Nat) (ks : List Kd) (w : World)
theorem TLoad_go {K : Nat -> Prop} (h : KRd w A n ks) (hn : n <= 1000000) (hT : TabAt w) (r : Rw) (hs : r.1 < 18446744073709551616) (IA : Option Addr) (ic : Nat) (CA : Option Addr) (cx : Nat) (hi : IdsV K w IA r.2.1.length r.2.1) (hc : ColsL K w CA r.2.2.length r.2.2) (hm : r.2.1.length <= 1000000) (hcn : r.2.2.length <= 1000000) :
  Calls Tryz.prog 48 #[cv lg pg en gn A n cap, .int .u64 (r.1 : Nat), .slice IA r.2.1.length ic, .slice CA r.2.2.length cx] w fun e w' => Below w.heap.size w w' /\
   ((∃ t p m v q tag, TLd n (zsK ks) r t /\ e = .returned (.tuple #[.pointer (some ⟨p, 0, none⟩), .int .i64 0]) /\ TbA w' w.heap.size tag p m v q r.1 t) \/
   ((¬ ∃ t, TLd n (zsK ks) r t) /\ e = .returned (.tuple #[.pointer none, .int .i64 11]))) := by
 by_cases hb : r.1 &&& ofL (idxs n) 64 = r.1 /\ r.2.2.length = (Tb.new n (zsK ks) r.1).cs.length /\ r.2.1.length <= 1024
 ·obtain ⟨h1, h2, h3⟩ := hb
  have hc' := hc.rowsV
  rw [h2] at hc'
  have C := TLoad_any lg pg en gn A n cap ks w h hn r.1 hs hT IA ic r.2.1 CA cx r.2.2 (Tb.new n (zsK ks) r.1).cs rfl hi hc' h1 h3
  rw [<- h2] at C
  refine C.mono ?_
  rintro e w' ⟨hbw, ⟨hf, p, m, v, q, tag, rfl, hI⟩ | ⟨hf, rfl⟩⟩
  ·rw [h2] at hf
   exact ⟨hbw, .inl ⟨_, p, m, v, q, tag, ⟨rfl, h1, h2, h3, hf⟩, rfl, TbA.loaded hs rfl h1 h3 hf hI⟩⟩
  ·exact ⟨hbw, .inr ⟨fun ⟨t, _, _, _, _, h5⟩ => hf (by rw [h2]; exact h5), rfl⟩⟩
 ·refine (TLoad_no lg pg en gn A n cap ks w h hn r.1 hs hT IA r.2.1.length ic CA r.2.2.length cx hm hcn hb).mono ?_
  rintro e w' ⟨rfl, hbw⟩
  exact ⟨hbw, .inr ⟨fun ⟨t, _, h1, h2, h3, _⟩ => hb ⟨h1, h2, h3⟩, rfl⟩⟩
end
end Go.Proofs.YtaoinkjjmakhaaaGreatDoor
namespace Go.Proofs.YtaoinkjjmakhaaaGreatDoor
set_option maxRecDepth 20000
open Go.RowKit
def IRk (K : Nat -> Prop) (w : World) (A : Option Addr) (n : Nat) (zs : List Int) : Prop := IRd w A n zs /\ (0 < n -> ∀ b o, A = some ⟨b, o, none⟩ -> K b)
section
variable {K K' : Nat -> Prop} {w w' : World} {A : Option Addr} {n : Nat} {zs : List Int}
theorem IRk.below (h : IRk K w A n zs) (hb : Below w.heap.size w w') : IRk K w' A n zs := ⟨h.1.below hb, h.2⟩
def KStays (K : Nat -> Prop) (w w' : World) : Prop := w.heap.size <= w'.heap.size /\ ∀ x, K x -> w'.heap[x]? = w.heap[x]?
end
structure Rv where
 E : Int
 L : Int
 GA : Option Addr
 gn : Nat
 gc : Nat
 FA : Option Addr
 fn : Nat
 fc : Nat
def Rv.v (d : Rv) : Value := .agg #[.int .i64 d.E, .int .i64 d.L, .slice d.GA d.gn d.gc, .slice d.FA d.fn d.fc]
structure RS (K : Nat -> Prop) (w : World) (d : Rv) (s : NS) : Prop where
 E : d.E = s.E
 L : d.L = s.L
 gn : d.gn = s.g.length
 fn : d.fn = s.fr.length
 g : IRk K w d.GA d.gn s.g
 f : IRk K w d.FA d.fn s.fr
 gc : d.gn <= d.gc
 fc : d.fn <= d.fc
section
variable {K K' : Nat -> Prop} {w w' : World} {d : Rv} {s : NS}
theorem RS.below (h : RS K w d s) (hb : Below w.heap.size w w') : RS K w' d s := { h with g := h.g.below hb, f := h.f.below hb }
end
theorem rsT : RT Tryz.prog 123 4 := ⟨⟨_, Tryz.underlying123, rfl⟩, by kernel_rfl⟩
section
variable {ops : Array Oper} {rest : List Oper} {o : Oper} {a : Act} {w : World} {Q : Exit -> Act -> World -> Prop} {g : Nat} {E L E' L' : Int} {GA FA GA' FA' : Option Addr} {gn gc fn fc gn' gc' fn' fc' : Nat}
theorem wpList_ldQ (hgd : Region.wanted o (yielded ops a.tmps) = true) (x : Operand) (ho : o.op = .load 123 x)
  (hx : a.eval x = .pointer (some ⟨g, 0, none⟩)) (h : Rec 123 w g #[.int .i64 E, .int .i64 L, .slice GA gn gc, .slice FA fn fc]) (kk : wpList Tryz.prog ops Q rest (a.put o.dst (.agg #[.int .i64 E, .int .i64 L, .slice GA gn gc, .slice FA fn fc])) w) : wpList Tryz.prog ops Q (o :: rest) a w :=
 wpList_ldS rsT rfl hgd x ho hx h kk
theorem wpList_stQ (hgd : Region.wanted o (yielded ops a.tmps) = true) (x y : Operand) (ho : o.op = .store 123 x y)
  (hx : a.eval x = .pointer (some ⟨g, 0, none⟩)) (hy : a.eval y = .agg #[.int .i64 E', .int .i64 L', .slice GA' gn' gc', .slice FA' fn' fc']) (h : Rec 123 w g #[.int .i64 E, .int .i64 L, .slice GA gn gc, .slice FA fn fc])
  (kk : ∀ w', Rec 123 w' g #[.int .i64 E', .int .i64 L', .slice GA' gn' gc', .slice FA' fn' fc'] -> Fr (· = g) w w' -> wpList Tryz.prog ops Q rest (a.put o.dst undef) w') : wpList Tryz.prog ops Q (o :: rest) a w :=
 wpList_stS rsT rfl rfl (by simp [Value.oneCell']) hgd x y ho hx hy h kk
end
theorem near_any (n hi : Int) (w : World) (h : 1 <= hi) : Calls Tryz.prog 151 #[.int .i64 n, .int .i64 hi] w fun e w' => e = .returned (.int .i64 (nears n hi)) /\ w = w' := by
 unfold nears
 go_enter Tryz.func151, Tryz.ntmps151
 go_wp2
 all_goals go_ret
 all_goals exact ⟨ret_int (by omega), rfl⟩
theorem RNew_any (entities gens : Int) (w : World) :
  Calls Tryz.prog 108 #[.int .i64 entities, .int .i64 gens] w fun e w' => e = .returned (Rv.v ⟨nears entities 1024, nears gens 1073741824, none, 0, 0, none, 0, 0⟩) /\ Below w.heap.size w w' := by
 go_enter Tryz.func108, Tryz.ntmps108
 go_wp2_with (go_at_call 151; refine (near_any _ _ _ (by decide)).mono ?_; rintro e w' ⟨rfl, rfl⟩)
 refine bodyPost_ret (res_c rfl rfl ((Rec.new w 123 #[.int .i64 (nears entities 1024), .int .i64 (nears gens 1073741824), .slice none 0 0, .slice none 0 0]).load rsT rfl)) rfl ?_
 exact ⟨rfl, (Below.refl _ _).alloc (Nat.le_refl _) _⟩
theorem IHas_any (A : Option Addr) (n c : Nat) (zs : List Int) (k : Int) (w : World) (h : IRd w A n zs) (hn : n <= 1000000) :
  Calls Tryz.prog 109 #[.slice A n c, .int .i64 k] w fun e w' => e = .returned (.bool (decide (k ∈ zs))) /\ w' = w := by
 have H := hi_ h
 clear h
 go_enter Tryz.func109, Tryz.ntmps109
 go_wp2
 go_loop [5] (fun iv => ∃ j : Nat, j <= n /\ iv = .int .i64 j /\ k ∉ zs.take j) (fun iv => n - (intOf iv).toNat)
 case atStart => exact ⟨0, Nat.zero_le _, rfl, by simp⟩
 case round =>
  obtain ⟨j, hj, rfl, hno⟩ := hrel
  by_cases hjn : j < n
  ·obtain ⟨b, o, hA, _, hc⟩ := H.out.2 (by omega)
   have hjl : j < zs.length := by rw [H.out.1]; exact hjn
   have k0 := hc j hjl
   obtain ⟨z, hz⟩ : ∃ z, z = zs.getD j 0 := ⟨_, rfl⟩
   rw [<- hz] at k0
   have hzj : z = zs[j] := by rw [hz]; simp [List.getD, List.getElem?_eq_getElem hjl]
   have HZ := hi_ hzj
   have HN := hi_ hno
   have HJ := hi_ hjl
   subst hA
   clear hc hz hzj hno
   by_cases hk : z = k
   ·have hmem : Hid (decide (k ∈ zs) = true) := hi_ (decide_eq_true (by rw [<- hk, HZ.out]; exact List.getElem_mem HJ.out))
    go_wp2
    go_ret
    exact ⟨by rw [hmem.out]; first | rfl | skip, rfl⟩
   ·go_wp2
    go_round
    case rel =>
     refine ⟨j + 1, hjn, by go_num, ?_⟩
     rw [List.take_succ_eq_append_getElem HJ.out]
     intro hm
     rcases List.mem_append.1 hm with hm | hm
     ·exact HN.out hm
     ·exact hk (by rw [HZ.out]; exact (List.mem_singleton.1 hm).symm)
    case measure => simp [intOf]; omega
  ·have hmem : Hid (decide (k ∈ zs) = false) := hi_ (decide_eq_false (by rw [List.take_of_length_le (by rw [H.out.1]; omega)] at hno; exact hno))
   clear hno
   go_wp2
   go_ret
   exact ⟨by rw [hmem.out]; first | rfl | skip, rfl⟩
end Go.Proofs.YtaoinkjjmakhaaaGreatDoor
namespace Go.Proofs.YtaoinkjjmakhaaaGreatDoor
set_option maxRecDepth 20000
open Go.RowKit
def Idv (w0 w : World) (p : Nat) (keep : Nat -> Prop) (s : NS) : Prop :=
 ∃ own, Below w0.heap.size w0 w /\ (∀ x, own x -> w0.heap.size <= x) /\ (∀ x, keep x -> x < w.heap.size /\ ¬ own x) /\ IDv w own p s
section
variable {w0 w w' : World} {p : Nat} {keep keep' : Nat -> Prop} {s s' : NS}
theorem Idv.under (h : Idv w0 w p keep s) : Below w0.heap.size w0 w := by obtain ⟨_, hb, _⟩ := h; exact hb
theorem Idv.goes {own : Nat -> Prop} (h1 : Below w0.heap.size w0 w) (h2 : ∀ x, own x -> w0.heap.size <= x) (h3 : ∀ x, keep x -> x < w.heap.size /\ ¬ own x) (hG : IGoes w own p s' w') : Idv w0 w' p keep s' /\ KStays keep w w' := by
 obtain ⟨hf, own', ho, hD⟩ := hG
 refine ⟨⟨own', h1.trans (hf.toBelow h2 h1.size), fun x hx => ?_, fun x hx => ⟨Nat.lt_of_lt_of_le (h3 x hx).1 hf.size, fun hx' => ?_⟩, hD⟩, hf.size, fun x hx => hf.block x (h3 x hx).1 (h3 x hx).2⟩
 ·rcases ho x hx with h | h
  ·exact h2 x h
  ·have := h1.size; omega
 ·rcases ho x hx' with h | h
  ·exact (h3 x hx).2 h
  ·have := (h3 x hx).1; omega
theorem New_idv (entities gens : Int) (w : World) :
  Calls Tryz.prog 29 #[.int .i64 entities, .int .i64 gens] w fun e w' => ∃ p, e = .returned (.pointer (some ⟨p, 0, none⟩)) /\ Idv w w' p (· < w.heap.size) (NS.new entities gens) := by
 refine (INew_any entities gens w).mono ?_
 rintro e w' ⟨he, hb, hlt, I⟩
 exact ⟨_, he, (· = w.heap.size), hb, fun x hx => by rw [show x = w.heap.size from hx]; exact Nat.le_refl _, fun x hx => ⟨Nat.lt_of_lt_of_le hx hb.size, fun e => by have e' : x = w.heap.size := e; omega⟩, fun x hx => by rw [show x = w.heap.size from hx]; exact hlt, _, _, _, I⟩
end
end Go.Proofs.YtaoinkjjmakhaaaGreatDoor
namespace Go.Proofs.YtaoinkjjmakhaaaGreatDoor
open Go.RowKit
def NS.pre (s : NS) (i : Nat) : NS := { s with fr := s.fr.take i }
def NS.freed (s : NS) (k : Int) : NS := { s with fr := s.fr ++ [k] }
def LdOk (s : NS) : Prop := s.g.length <= s.E /\ (∀ x ∈ s.g, 0 <= x /\ x <= s.L) /\ ∀ i, i < s.fr.length -> (s.pre i).live (s.fr.getD i 0) = true /\ s.g.getD (s.fr.getD i 0).toNat 0 ≠ 0
theorem NS.freed_ok {s : NS} (h : s.Ok) {k : Int} (hl : s.live k = true) (h0 : s.g.getD k.toNat 0 ≠ 0) : (s.freed k).Ok := by
 obtain ⟨l0, l1, l2, l3⟩ := NS.live_iff.1 hl
 have hg := h.gD k.toNat
 refine ⟨h.E1, h.E2, h.L1, h.L2, h.len, h.gz, fun x hx => ?_, ?_⟩
 ·rcases List.mem_append.1 hx with hx | hx
  ·exact h.fz x hx
  ·rw [List.mem_singleton.1 hx]
   exact ⟨l0, l1, by show 1 <= s.g.getD k.toNat 0; omega, l3⟩
 ·refine List.nodup_append.2 ⟨h.nd, by simp, fun a ha b hb e => ?_⟩
  rw [List.mem_singleton.1 hb] at e
  exact l2 (e ▸ ha)
theorem NS.freed_live {s : NS} {k : Int} (hl : s.live k = true) : (s.freed k).liveL = s.liveL.set k.toNat false := by
 obtain ⟨l0, l1, l2, l3⟩ := NS.live_iff.1 hl
 apply List.ext_getElem
 ·simp [NS.liveL, NS.freed]
 ·intro j p1 p2
  rw [NS.liveL_get, List.getElem_set]
  by_cases hij : k.toNat = j
  ·rw [if_pos hij]
   apply Bool.eq_false_iff.2
   intro hh
   have := (NS.live_iff.1 hh).2.2.1
   exact this (List.mem_append.2 (.inr (List.mem_singleton.2 (by omega))))
  ·rw [if_neg hij, NS.liveL_get]
   unfold NS.live NS.freed
   apply decide_eq_decide.2
   have hne : (j : Int) ≠ k := by omega
   simp [hne]
theorem NS.pre_succ (s : NS) {i : Nat} (h : i < s.fr.length) : s.pre (i + 1) = (s.pre i).freed (s.fr.getD i 0) := by
 unfold NS.pre NS.freed
 simp only
 rw [List.take_succ_eq_append_getElem h]
 simp [List.getD, List.getElem?_eq_getElem h]
theorem NS.pre_all (s : NS) : s.pre s.fr.length = s := by unfold NS.pre; rw [List.take_length]
section
variable {w0 w w' : World} {p : Nat} {keep : Nat -> Prop} {s : NS}
theorem use_idv (h : Idv w0 w p keep s) (gen : Int) (hlen : s.g.length < s.E) (hg : 0 <= gen /\ gen <= s.L) :
  Calls Tryz.prog 99 #[.pointer (some ⟨p, 0, none⟩), .int .i64 gen] w fun e w' => e = .returned (.tuple #[]) /\ Idv w0 w' p keep (s.push gen) := by
 obtain ⟨own, h1, h2, h3, hd, gv, av, fv, I⟩ := h
 exact (use_any hd I gen hlen hg).mono fun e w' ⟨he, hG⟩ => ⟨he, (Idv.goes h1 h2 h3 hG).1⟩
theorem release_idv (h : Idv w0 w p keep s) (j : Nat) (hl : s.live (j : Int) = true) (h0 : s.g.getD j 0 ≠ 0) :
  Calls Tryz.prog 101 #[.pointer (some ⟨p, 0, none⟩), .int .i64 j] w fun e w' => e = .returned (.tuple #[]) /\ Idv w0 w' p keep (s.freed (j : Int)) := by
 obtain ⟨own, h1, h2, h3, hd, gv, av, fv, I⟩ := h
 have hj : j < s.g.length := by have := (NS.live_iff.1 hl).2.1; omega
 have hll := NS.freed_live hl
 rw [Int.toNat_natCast] at hll
 exact (release_any hd j (s.freed (j : Int)) hj rfl rfl rfl hll rfl (NS.freed_ok I.ok hl (by rw [Int.toNat_natCast]; exact h0)) I.blk I.gens I.ali I.free I.apart I.ownp I.owng I.owna I.ownf I.ok.few).mono fun e w' ⟨he, hG⟩ => ⟨he, (Idv.goes h1 h2 h3 hG).1⟩
theorem lives_idv (h : Idv w0 w p keep s) (k : Int) : Calls Tryz.prog 100 #[.pointer (some ⟨p, 0, none⟩), .int .i64 k] w fun e w' => e = .returned (.bool (s.live k)) /\ w = w' := by
 obtain ⟨own, h1, h2, h3, hd, gv, av, fv, I⟩ := h
 exact lives_any I k
theorem Idv.cells (h : Idv w0 w p keep s) : w.cell? ⟨p, 0, none⟩ = some (.int .i64 s.E) /\ w.cell? ⟨p, 1, none⟩ = some (.int .i64 s.L) := by
 obtain ⟨own, h1, h2, h3, hd, gv, av, fv, I⟩ := h
 exact ⟨I.c0, I.c1⟩
theorem Idv.gcell (h : Idv w0 w p keep s) {j : Nat} (hj : j < s.g.length) : ∃ g c, w.cell? ⟨p, 2, none⟩ = some (.slice (some ⟨g, 0, none⟩) s.g.length c) /\ w.cell? ⟨g, j, none⟩ = some (.int .i64 (s.g.getD j 0)) := by
 obtain ⟨own, h1, h2, h3, hd, gv, av, fv, I⟩ := h
 obtain ⟨A, c, rfl, _, _, hr⟩ := own_open I.gens
 obtain ⟨g, rfl, _, hc, _⟩ := hr (by omega)
 refine ⟨g, c, I.c2, ?_⟩
 rw [hc j hj, List.getElem?_map, List.getElem?_eq_getElem hj]
 simp [List.getD, List.getElem?_eq_getElem hj]
end
def LdSaid (w : World) (s : NS) (e : Ending) (w' : World) : Prop :=
 (LdOk s /\ ∃ p, e = .returned (.tuple #[.pointer (some ⟨p, 0, none⟩), .int .i64 0]) /\ Idv w w' p (· < w.heap.size) s) \/ (¬ LdOk s /\ e = .returned (.tuple #[.pointer none, .int .i64 11]) /\ Below w.heap.size w w')
set_option maxRecDepth 20000 in
set_option maxHeartbeats 2000000 in
theorem Load_any (nE nG : Int) (GA : Option Addr) (gn gc : Nat) (gs : List Int) (FA : Option Addr) (fn fc : Nat) (fs : List Int) (w : World) (hg : IRd w GA gn gs) (hf : IRd w FA fn fs) (hgn : gn <= 1100) (hfn : fn <= 100) :
  Calls Tryz.prog 47 #[.int .i64 nE, .int .i64 nG, .slice GA gn gc, .slice FA fn fc] w (LdSaid w ⟨(nears nE 1024).toNat, nears nG 1073741824, gs, fs⟩) := by
 have CN := New_idv nE nG w
 have hbE := nears_bounds nE 1024 (by decide)
 have hbL := nears_bounds nG 1073741824 (by decide)
 unfold NS.new at CN
 obtain ⟨E, hE⟩ : ∃ E, E = (nears nE 1024).toNat := ⟨_, rfl⟩
 obtain ⟨L, hL⟩ : ∃ L, L = nears nG 1073741824 := ⟨_, rfl⟩
 rw [<- hE, <- hL] at CN ⊢
 have hE1 : 1 <= E := by omega
 have hE2 : E <= 1024 := by omega
 have hL2 : L <= 1073741824 := by omega
 have hL1 : 1 <= L := by omega
 have CN' := hi_ CN
 have HG := hi_ hg
 have HF := hi_ hf
 clear CN hbE hbL hE hL hg hf
 go_enter Tryz.func47, Tryz.ntmps47
 go_wp2_with fail
 refine CN'.out.mono ?_
 rintro e w1 ⟨p, rfl, hD1⟩
 have k0 : w1.cell? ⟨p, 0, none⟩ = some (.int .i64 E) := hD1.cells.1
 have HD1 := hi_ hD1
 clear hD1 CN'
 by_cases hle : gn <= E
 case neg =>
  have hle2 : (E : Int) < gn := by omega
  go_wp2
  go_ret2
  exact .inr ⟨fun hh => hle (by have := hh.1; have := HG.out.1; simp only at *; omega), rfl, HD1.out.under⟩
 have hle2 : decide (E < gn) = false := decide_eq_false (by omega)
 have hle3 : decide ((E : Int) < gn) = false := decide_eq_false (by omega)
 go_wp2_with fail
 go_loopw [27] (fun iv wr => ∃ j : Nat, j <= gn /\ iv = .int .i64 j /\ (∀ x ∈ gs.take j, 0 <= x /\ x <= L) /\ Idv w wr p (· < w.heap.size) ⟨E, L, gs.take j, []⟩) (fun iv _ => gn - (intOf iv).toNat)
 case atStart => exact ⟨0, Nat.zero_le _, rfl, fun x hx => absurd hx (by simp), HD1.out⟩
 case round =>
  obtain ⟨j, hj, rfl, hgood, hD⟩ := hrel
  by_cases hjn : j < gn
  ·have hjl : j < gs.length := by rw [HG.out.1]; exact hjn
   obtain ⟨b, o, hA, hbw, hc⟩ := HG.out.2 (by omega)
   have c0 := (hD.under.cell (p := ⟨b, o + j, none⟩) hbw).trans (hc j hjl)
   have k1 : wr.cell? ⟨p, 1, none⟩ = some (.int .i64 L) := hD.cells.2
   obtain ⟨z, hz⟩ : ∃ z, z = gs.getD j 0 := ⟨_, rfl⟩
   rw [<- hz] at c0
   have hzj : gs[j] = z := by rw [hz]; simp [List.getD, List.getElem?_eq_getElem hjl]
   have hzm : z ∈ gs := by rw [<- hzj]; exact List.getElem_mem hjl
   have htk : gs.take (j + 1) = gs.take j ++ [z] := by rw [List.take_succ_eq_append_getElem hjl, hzj]
   subst hA
   by_cases hzz : 0 <= z /\ z <= L
   ·have CU := use_idv hD z (by simp only [List.length_take]; omega) hzz
    have CU' := hi_ CU
    have HGD := hi_ hgood
    have HTK := hi_ htk
    obtain ⟨hz0, hz1⟩ := hzz
    have hd0 : decide (z < 0) = false := decide_eq_false (by omega)
    have hd1 : decide (L < z) = false := decide_eq_false (by omega)
    clear CU hc hz hzj hzm htk hD hgood
    go_wp2_with ((go_at_call 99); refine CU'.out.mono ?_; rintro e w2 ⟨rfl, hD2⟩; have HD2 := hi_ hD2; clear hD2)
    go_roundw
    case rel =>
     refine ⟨j + 1, hjn, by go_num, fun x hx => ?_, ?_⟩
     ·rw [HTK.out] at hx
      rcases List.mem_append.1 hx with hx | hx
      ·exact HGD.out x hx
      ·rw [List.mem_singleton.1 hx]; exact ⟨hz0, hz1⟩
     ·rw [HTK.out]; exact HD2.out
    case measure => simp [intOf]; omega
   ·have HU := hi_ hD.under
    have HN : Hid (¬ LdOk ⟨E, L, gs, fs⟩) := hi_ (fun hh => hzz (hh.2.1 z hzm))
    clear hc hz hzj hzm htk hD hgood
    by_cases hz0 : 0 <= z
    ·have hz1 : L < z := by omega
     have hd0 : decide (z < 0) = false := decide_eq_false (by omega)
     have hd1 : decide (L < z) = true := decide_eq_true hz1
     go_wp2
     go_ret2
     exact .inr ⟨HN.out, rfl, HU.out⟩
    ·have hd0 : decide (z < 0) = true := decide_eq_true (by omega)
     go_wp2
     go_ret2
     exact .inr ⟨HN.out, rfl, HU.out⟩
  ·obtain rfl : j = gn := by omega
   have htk : gs.take j = gs := List.take_of_length_le (by rw [HG.out.1]; exact Nat.le_refl _)
   rw [htk] at hD hgood
   have HD := hi_ hD
   have HGD := hi_ hgood
   clear hD hgood htk
   go_wp2_with fail
   go_loopw [47] (fun iv wr => ∃ i : Nat, i <= fn /\ iv = .int .i64 i /\ (∀ q, q < i -> (NS.pre ⟨E, L, gs, fs⟩ q).live (fs.getD q 0) = true /\ gs.getD (fs.getD q 0).toNat 0 ≠ 0) /\ Idv w wr p (· < w.heap.size) (NS.pre ⟨E, L, gs, fs⟩ i)) (fun iv _ => fn - (intOf iv).toNat)
   case atStart => exact ⟨0, Nat.zero_le _, rfl, fun q hq => absurd hq (Nat.not_lt_zero q), HD.out⟩
   case round =>
    obtain ⟨i, hi, rfl, hgd, hD⟩ := hrel
    by_cases hin : i < fn
    ·have hil : i < fs.length := by rw [HF.out.1]; exact hin
     obtain ⟨b, o, hA, hbw, hc⟩ := HF.out.2 (by omega)
     have c0 := (hD.under.cell (p := ⟨b, o + i, none⟩) hbw).trans (hc i hil)
     obtain ⟨k, hk⟩ : ∃ k, k = fs.getD i 0 := ⟨_, rfl⟩
     rw [<- hk] at c0
     have CL := hi_ (lives_idv hD k)
     have hps := NS.pre_succ ⟨E, L, gs, fs⟩ hil
     simp only at hps
     rw [<- hk] at hps
     have HPS := hi_ hps
     have HGQ := hi_ hgd
     have HK := hi_ hk
     have HU := hi_ hD.under
     have HIL := hi_ hil
     subst hA
     cases hl : (NS.pre ⟨E, L, gs, fs⟩ i).live k
     ·have HN : Hid (¬ LdOk ⟨E, L, gs, fs⟩) := hi_ (fun hh => by
       have := (hh.2.2 i hil).1
       simp only at this
       rw [<- hk, hl] at this
       cases this)
      rw [hl] at CL
      clear hc hk hps hgd hD hil hl
      go_wp2_with ((go_at_call 100); refine CL.out.mono ?_; rintro e w2 ⟨rfl, rfl⟩)
      go_ret2
      exact .inr ⟨HN.out, rfl, HU.out⟩
     ·obtain ⟨l0, l1, l2, l3⟩ := NS.live_iff.1 hl
      obtain ⟨m, rfl⟩ : ∃ m : Nat, k = (m : Int) := ⟨k.toNat, by omega⟩
      have hml : m < (NS.pre ⟨E, L, gs, fs⟩ i).g.length := by omega
      obtain ⟨g2, c2, k2, d2⟩ := hD.gcell hml
      have hm2 : m < gs.length := hml
      have egs : (NS.pre ⟨E, L, gs, fs⟩ i).g = gs := rfl
      rw [egs] at k2 d2
      obtain ⟨z, hz⟩ : ∃ z, z = gs.getD m 0 := ⟨_, rfl⟩
      rw [<- hz] at d2
      rw [hl] at CL
      by_cases hz0 : z = 0
      ·have HN : Hid (¬ LdOk ⟨E, L, gs, fs⟩) := hi_ (fun hh => by
        have := (hh.2.2 i hil).2
        simp only at this
        rw [<- hk, Int.toNat_natCast, <- hz] at this
        exact this hz0)
       subst hz0
       clear hc hk hps hgd hD hil hl l0 l1 l2 l3 hz egs hml
       go_wp2_with ((go_at_call 100); refine CL.out.mono ?_; rintro e w2 ⟨rfl, rfl⟩)
       go_ret2
       exact .inr ⟨HN.out, rfl, HU.out⟩
      ·have CR := hi_ (release_idv hD m hl (by rw [egs, <- hz]; exact hz0))
       have HL2 := hi_ hl
       have HZ := hi_ hz
       have hz1 : (z == 0) = false := by simpa using hz0
       clear hc hk hps hgd hD hil hl l0 l1 l2 l3 hz egs hml
       go_wp2_with (first
        | ((go_at_call 100); refine CL.out.mono ?_; rintro e w2 ⟨rfl, rfl⟩)
        | ((go_at_call 101); refine CR.out.mono ?_; rintro e w3 ⟨rfl, hD3⟩; have HD3 := hi_ hD3; clear hD3))
       go_roundw
       case rel =>
        refine ⟨i + 1, hin, by go_num, fun q hq => ?_, by rw [HPS.out]; exact HD3.out⟩
        by_cases hqi : q = i
        ·subst hqi
         rw [<- HK.out, Int.toNat_natCast, <- HZ.out]
         exact ⟨HL2.out, hz0⟩
        ·exact HGQ.out q (by omega)
       case measure => simp [intOf]; omega
    ·obtain rfl : i = fn := by omega
     have he : NS.pre ⟨E, L, gs, fs⟩ i = ⟨E, L, gs, fs⟩ := by
      have := NS.pre_all ⟨E, L, gs, fs⟩
      simp only [HF.out.1] at this
      exact this
     rw [he] at hD
     have HY : Hid (LdOk ⟨E, L, gs, fs⟩) := hi_ ⟨by show gs.length <= E; rw [HG.out.1]; exact hle, HGD.out, fun q hq => hgd q (by rw [<- HF.out.1]; exact hq)⟩
     have HDF := hi_ hD
     clear hgd hD he
     go_wp2
     go_ret2
     exact .inl ⟨HY.out, p, rfl, HDF.out⟩
end Go.Proofs.YtaoinkjjmakhaaaGreatDoor
namespace Go.Proofs.YtaoinkjjmakhaaaGreatDoor
open Go.RowKit
set_option maxRecDepth 20000
def LdStep (n : Nat) (zs : Nat -> Int) (prev : Option Nat) (r : Rw) (k k' : Ks) : Prop :=
 (∀ s', prev = some s' -> s' < r.1) /\ r.2.1 ≠ [] /\ ∃ t, TLd n zs r t /\ ∃ pl, layP (fun id => k.ns.alive id.1 id.2) (gNode k.S r.1).2 0 t.ids k.pl = some pl /\ k' = ⟨k.ns, (gNode k.S r.1).1, upd k.tb (gNode k.S r.1).2 (some t), pl⟩
def prevS (xs : List Rw) : Nat -> Option Nat
 | 0 => none
 | j + 1 => (xs[j]?).map (·.1)
def LdTo (n : Nat) (zs : Nat -> Int) (s : NS) (xs : List Rw) : Nat -> Ks -> Prop
 | 0, k => k = ks0 s
 | j + 1, k' => ∃ r k, xs[j]? = some r /\ LdTo n zs s xs j k /\ LdStep n zs (prevS xs j) r k k'
section
variable {n : Nat} {zs : Nat -> Int} {s : NS} {xs : List Rw}
theorem LdStep.uniq {prev : Option Nat} {r : Rw} {k k1 k2 : Ks} (h1 : LdStep n zs prev r k k1) (h2 : LdStep n zs prev r k k2) : k1 = k2 := by
 obtain ⟨_, _, t1, ⟨e1, _⟩, p1, l1, rfl⟩ := h1
 obtain ⟨_, _, t2, ⟨e2, _⟩, p2, l2, rfl⟩ := h2
 rw [<- e2] at e1
 subst e1
 rw [l1] at l2
 injection l2 with l2
 rw [l2]
theorem LdTo.uniq : ∀ {j : Nat} {k1 k2 : Ks}, LdTo n zs s xs j k1 -> LdTo n zs s xs j k2 -> k1 = k2
 | 0, _, _, h1, h2 => by rw [show _ = _ from h1, show _ = _ from h2]
 | j + 1, _, _, ⟨r1, q1, a1, b1, c1⟩, ⟨r2, q2, a2, b2, c2⟩ => by
  rw [a1] at a2
  injection a2 with a2
  subst a2
  have := LdTo.uniq b1 b2
  subst this
  exact c1.uniq c2
theorem LdTo.upto : ∀ {m j : Nat} {k : Ks}, j <= m -> LdTo n zs s xs m k -> ∃ k', LdTo n zs s xs j k'
 | 0, j, k, hj, h => by
  have : j = 0 := by omega
  subst this
  exact ⟨k, h⟩
 | m + 1, j, k, hj, h => by
  by_cases e : j = m + 1
  ·subst e; exact ⟨k, h⟩
  ·obtain ⟨_, q, _, b, _⟩ := h
   exact LdTo.upto (by omega) b
theorem LdTo.stop {j : Nat} {r : Rw} {k : Ks} (h : LdTo n zs s xs j k) (hr : xs[j]? = some r) (hno : ¬ ∃ k', LdStep n zs (prevS xs j) r k k') : ¬ ∃ k', LdTo n zs s xs xs.length k' := by
 rintro ⟨kz, hz⟩
 have hj := (List.getElem?_eq_some_iff.1 hr).1
 obtain ⟨k', r', q, a, b, c⟩ := LdTo.upto (j := j + 1) (by omega) hz
 rw [hr] at a
 injection a with a
 subst a
 have := h.uniq b
 subst this
 exact hno ⟨k', c⟩
theorem LdTo.ns : ∀ {j : Nat} {k : Ks}, LdTo n zs s xs j k -> k.ns = s
 | 0, _, h => by rw [show _ = _ from h]; rfl
 | j + 1, k', ⟨_, q, _, b, _, _, _, _, _, _, e⟩ => by
  have := LdTo.ns b
  rw [e]
  exact this
theorem LdTo.S_len : ∀ {j : Nat} {k : Ks}, LdTo n zs s xs j k -> 0 < k.S.length /\ k.S.length <= j + 1
 | 0, _, h => by rw [show _ = _ from h]; exact ⟨by show 0 < 1; decide, by show 1 <= 1; decide⟩
 | j + 1, _, ⟨r, q, _, b, _, _, _, _, _, _, e⟩ => by
  have h1 := LdTo.S_len b
  have h2 := gNode_len q.S r.1
  rw [e]
  exact ⟨by show 0 < (gNode q.S r.1).1.length; omega, by show (gNode q.S r.1).1.length <= _; omega⟩
def namesTo (xs : List Rw) (j : Nat) : List (Int × Int) := ((xs.take j).map fun r => r.2.1).flatten
theorem namesTo_succ {j : Nat} {r : Rw} (h : xs[j]? = some r) : namesTo xs (j + 1) = namesTo xs j ++ r.2.1 := by
 unfold namesTo
 rw [List.take_add_one, h]
 simp
theorem LdTo.names : ∀ {j : Nat} {k : Ks}, LdTo n zs s xs j k -> (namesTo xs j).Nodup /\ (∀ id, (k.pl id).isSome = true ↔ id ∈ namesTo xs j) /\ ∀ id ∈ namesTo xs j, s.alive id.1 id.2 = true
 | 0, k, h => by
  rw [show k = _ from h]
  exact ⟨List.nodup_nil, fun id => by simp [ks0, namesTo], fun id hid => absurd hid List.not_mem_nil⟩
 | j + 1, k', ⟨r, k, hr, hb, _, _, t, ht, pl, hl, e⟩ => by
  obtain ⟨h1, h2, h3⟩ := LdTo.names hb
  obtain ⟨l1, l2, l3⟩ := layP_said _ _ _ _ _ _ hl
  rw [ht.ids] at l1 l2 l3
  have hns := LdTo.ns hb
  rw [namesTo_succ hr]
  refine ⟨List.nodup_append.2 ⟨h1, l1, fun a ha b hb' hab => ?_⟩, fun id => ?_, fun id hid => ?_⟩
  ·subst hab
   have := (h2 a).2 ha
   rw [(l2 a hb').1] at this
   cases this
  ·rw [e, List.mem_append, <- h2 id]
   exact l3 id
  ·rcases List.mem_append.1 hid with h | h
   ·exact h3 id h
   ·have := (l2 id h).2
    rw [hns] at this
    exact this
end
end Go.Proofs.YtaoinkjjmakhaaaGreatDoor
namespace Go.Proofs.YtaoinkjjmakhaaaGreatDoor
structure Es where
 ns : NS
 ents : List En
abbrev Szs := List Nat
def szAt (z : Szs) (k : Int) : Option Nat := if 0 <= k /\ k < z.length then some (z.getD k.toNat 0) else none
structure POk (z : Szs) (l : List Pt) : Prop where
 up : l.Pairwise fun a b => a.1 < b.1
 sz : ∀ p ∈ l, szAt z p.1 = some p.2.length
structure Es.Ok (z : Szs) (s : Es) : Prop where
 ns : s.ns.Ok
 up : s.ents.Pairwise fun a b => a.1.1 < b.1.1
 on : ∀ e ∈ s.ents, s.ns.alive e.1.1 e.1.2 = true
 all : ∀ k, s.ns.live k = true -> ∃ e ∈ s.ents, e.1.1 = k
 parts : ∀ e ∈ s.ents, POk z e.2
end Go.Proofs.YtaoinkjjmakhaaaGreatDoor
namespace Go.Proofs.YtaoinkjjmakhaaaGreatDoor
section
variable {s : NS}
theorem NS.alive_live {i gen : Int} (h : s.alive i gen = true) : s.live i = true /\ s.g.getD i.toNat 0 = gen := by
 unfold NS.alive at h
 rw [Bool.and_eq_true] at h
 exact ⟨h.1, of_decide_eq_true h.2⟩
end
section
variable {z : Szs} {s : Es}
end
end Go.Proofs.YtaoinkjjmakhaaaGreatDoor
