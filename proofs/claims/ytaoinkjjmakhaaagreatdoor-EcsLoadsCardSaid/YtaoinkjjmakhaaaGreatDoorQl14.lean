/- EcE, EcF, Cm1, Cm2 -/
import Derived.Test.YtaoinkjjmakhaaaGreatDoorQl1
import Derived.Test.YtaoinkjjmakhaaaGreatDoorQl2
import Derived.Test.YtaoinkjjmakhaaaGreatDoorQl13
namespace Go.Proofs.YtaoinkjjmakhaaaGreatDoor
open Go.RowKit
set_option maxRecDepth 20000
def Tb.lastR (t : Tb) : En := t.rows.getD (t.rows.length - 1) noEn
def Tb.dropR (t : Tb) (r : Nat) : Tb := ⟨t.cs, (t.rows.set r t.lastR).take (t.rows.length - 1)⟩
theorem Tb.go4 (t : Tb) {r : Nat} (hr : r < t.rows.length) (id : Int × Int) (ps : List Pt) (comp : Int) (b : List UInt8) :
  t.go ⟨4, id, ps, (r : Int), comp, b⟩ = (t.dropR r, if r = t.rows.length - 1 then .e 0 else { Tl.e 0 with id := t.lastR.1, ok := true }) := by
 unfold Tb.go Tb.dropR Tb.lastR
 simp only
 rw [if_neg (by decide), if_pos ⟨Int.natCast_nonneg _, by omega⟩, if_neg (by decide), if_pos trivial]
 simp
theorem Tb.dropR_len (t : Tb) (r : Nat) : (t.dropR r).rows.length = t.rows.length - 1 := by
 unfold Tb.dropR
 simp
def Ks.drop (k : Ks) (id : Int × Int) (n r : Nat) (t : Tb) : Ks :=
 { k with pl := fun j => if j = id then none else if r ≠ t.rows.length - 1 /\ j = t.lastR.1 then some (n, r) else k.pl j, tb := upd k.tb n (if t.rows.length = 1 then none else some (t.dropR r)) }
section
variable {w : World} {N : Nat} {gr : Nat -> Nat} {x : Fx} {k : Ks} {c : Nat} {pt : Nat -> Nat}
theorem CoJ.eq {k' : Ks} {j : Nat} (h : CoJ j w N gr x k c pt) (e : k = k') : CoJ j w N gr x k' c pt := e ▸ h
theorem plF_del (pl : Int × Int -> Option (Nat × Nat)) (id j : Int × Int) : (if j = id then none else plF pl j) = plF (fun j => if j = id then none else pl j) j := by
 unfold plF
 by_cases e : j = id
 ·simp only [if_pos e, Option.map_none]
 ·simp only [if_neg e]
theorem CoJ.del_pl (h : CoJ 0 w N gr x k c pt) (id : Int × Int) : ∃ np, MapP w x.mp np (plF k.pl) /\ ∀ w', MapP w' x.mp (if (plF k.pl id).isSome = true then np - 1 else np) (fun j => if j = id then none else plF k.pl j) -> w.grownBy w' (some x.mp) ->
  ∃ gr', CoJ 0 w' N gr' x { k with pl := fun j => if j = id then none else k.pl j } c pt /\ TGo w gr w' gr' /\ Fr (· = x.mp) w w' := by
 obtain ⟨np, hnp, hm⟩ := h.mpp (by decide)
 refine ⟨np, hm, fun w' hm' hg => ?_⟩
 obtain ⟨gr', h', hG⟩ := h.pl_go (pl' := fun j => if j = id then none else k.pl j) (hm'.congr (fun j _ => plF_del k.pl id j)) hg (show (if (plF k.pl id).isSome = true then np - 1 else np) <= c by split <;> omega) (Nat.le_refl c)
 exact ⟨gr', h', hG, Fr.grown hg (fun y e => by injection e with e; exact e.symm)⟩
theorem CoJ.del_tb (h : CoJ 0 w N gr x k c pt) (n : Nat) : ∃ nt, MapT w x.mt nt (tbV k.tb pt) /\ ∀ w', MapT w' x.mt (if (tbV k.tb pt n).isSome = true then nt - 1 else nt) (fun j => if j = n then none else tbV k.tb pt j) -> w.grownBy w' (some x.mt) ->
  ∃ gr', CoJ 0 w' N gr' x { k with tb := upd k.tb n none } c pt /\ TGo w gr w' gr' /\ Fr (· = x.mt) w w' := by
 obtain ⟨nt, hnt, hm⟩ := h.mpt (by decide)
 refine ⟨nt, hm, fun w' hm' hg => ?_⟩
 obtain ⟨gr', h', hG⟩ := h.tab_del hm' hg (show (if (tbV k.tb pt n).isSome = true then nt - 1 else nt) <= c by split <;> omega)
 exact ⟨gr', h', hG, Fr.grown hg (fun y e => by injection e with e; exact e.symm)⟩
theorem Rec.tgo {T : TypeId} {g : Nat} {cs : Array Value} {w w' : World} {gr gr' : Nat -> Nat} (h : Rec T w g cs) (hG : TGo w gr w' gr') (hg : gr g = 0) : Rec T w' g cs := h.fr hG.fr (fun e => e hg)
theorem edrop_A0 (h : CoJ 0 w N gr x k c pt) (hT : TabN N w) (hc : c <= 1000000) {i g : Int} (hw : okE (i, g)) {n r : Nat} (hn : okN n) {t : Tb} (ht : k.tb n = some t) (hr : r < t.rows.length) (hl : r = t.rows.length - 1) (h1l : t.rows.length = 1) :
  Calls Tryz.prog 79 #[.pointer (some ⟨x.p, 0, none⟩), .agg (enC n r i g (some ⟨pt n, 0, none⟩))] w fun e w' => e = .returned (.tuple #[]) /\ ∃ gr', CoJ 0 w' N gr' x (k.drop (i, g) n r t) (c + 1) pt /\ TGo w gr w' gr' := by
 obtain ⟨w1, hw1⟩ : ∃ w1, w1 = w.alloc (.cells (enC n r i g (some ⟨pt n, 0, none⟩)) 88) := ⟨_, rfl⟩
 have hb1 : Below w.heap.size w w1 := by rw [hw1]; exact (Below.refl _ _).alloc (Nat.le_refl _) _
 have r1 : Rec 88 w1 w.heap.size (enC n r i g (some ⟨pt n, 0, none⟩)) := by rw [hw1]; exact Rec.new w _ _
 have h1 := h.below hb1
 obtain ⟨mi, mg, hmv⟩ : ∃ mi mg, t.lastR.1 = (mi, mg) := ⟨_, _, rfl⟩
 obtain ⟨q, hq⟩ : ∃ q : Nat, q = pt n := ⟨_, rfl⟩
 rw [<- hq] at r1
 obtain ⟨s, tag, m, v, qq, hs, hA, hg⟩ := h1.tab n t (by omega) ht
 have CD : Hid (Calls Tryz.prog 128 #[.pointer (some ⟨q, 0, none⟩), .int .i64 (r : Nat)] w1 fun e w' => e = .returned (.tuple #[.agg #[.int .i64 0, .int .i64 0], .bool false, .int .i64 0]) /\ ∃ gr', CoJ 0 w' N gr' x { k with tb := upd k.tb n (some (t.dropR r)) } c pt /\ TGo w1 gr w' gr') := hi_ (by
  rw [hq]
  refine (TDrop_go hA (hT.below h hb1).2 (0, 0) [] (r : Int) 0 []).mono ?_
  rintro e w' ⟨y, hy, _, _, rfl, hS⟩
  rw [Tb.go4 t hr] at hy hS
  simp only [if_pos hl] at hy
  subst hy
  exact ⟨rfl, h1.tab_go ht hs hg hS⟩)
 have k0 := r1.at_ 0
 have k1 := r1.at_ 1
 have k4 := r1.at_ 4
 have hg0 : gr w.heap.size = 0 := Classical.byContradiction fun hh => by have := h.dom _ hh; omega
 have hmp : x.mp < w.heap.size := h.dom _ (by rw [h.gm]; decide)
 have hmt : x.mt < w.heap.size := h.dom _ (by rw [h.gt]; decide)
 have H1 := hi_ (And.intro r1 (And.intro hb1 (And.intro hg0 (And.intro hmp hmt))))
 have HN := hi_ (And.intro hn (And.intro hw (And.intro hc (And.intro hr hl))))
 have HX := hi_ h1l
 rw [<- hq]
 rw [<- hq] at hw1
 have HQ := hi_ hq
 have HMV := hi_ hmv
 clear h h1 hb1 r1 hA hg hT hs hw hn ht hr hc hq hmv hl hg0 hmp hmt h1l
 go_enter Tryz.func79, Tryz.ntmps79
 go_upto_region 2 with (first
  | (rw [<- hw1]; clear hw1)
  | (go_at_call 128; refine CD.out.mono ?_; rintro e w2 ⟨rfl, gr2, h2, hG2⟩; obtain ⟨w3, hw3⟩ : ∃ w3, w3 = w2.alloc (.cells #[.int .i64 0, .int .i64 0] 32) := ⟨_, rfl⟩; have R3 := hi_ (show Rec 32 w3 w2.heap.size #[.int .i64 0, .int .i64 0] by rw [hw3]; exact Rec.new w2 _ _); have HB3 := hi_ (show Below w2.heap.size w2 w3 by rw [hw3]; exact (Below.refl _ _).alloc (Nat.le_refl _) _); have H2 := hi_ (And.intro h2 hG2); clear h2 hG2 k0 k1 k4 CD)
  | (rw [<- hw3]; clear hw3)
  | ((with_reducible refine wpList_stP rfl (.tmp 4) (.tmp 14) rfl rfl rfl R3.out ?_); intro w4 hR4 hF4; have HR4 := hi_ (And.intro hR4 hF4); clear hR4 hF4))
 obtain ⟨r1, hb1, hg0, hmp, hmt⟩ := H1.out
 obtain ⟨hn, hw, hc, hr, hl⟩ := HN.out
 obtain ⟨h2, hG2⟩ := H2.out
 obtain ⟨hR4, hF4⟩ := HR4.out
 have hb4 : Below w2.heap.size w2 w4 := HB3.out.trans (hF4.toBelow (fun y hy => by rw [show y = w2.heap.size from hy]; exact Nat.le_refl _) HB3.out.size)
 have h4 := h2.below hb4
 have hG4 : TGo w1 gr w4 gr2 := hG2.trans (TGo.ofBelow hb4)
 have r4 := r1.tgo hG4 hg0
 have hd := h4.below (Below.refl _ _).drew
 obtain ⟨np, hm6, hE6⟩ := hd.del_pl (i, g)
 have s6 : (w4.drew.cell? ⟨x.p, 8, none⟩ = some (.map (some x.mp)) /\ w4.drew.cell? ⟨w.heap.size, 2, none⟩ = some (.int .i64 i) /\ w4.drew.cell? ⟨w.heap.size, 3, none⟩ = some (.int .i64 g)) := ⟨hd.c8, r4.at_ 2, r4.at_ 3⟩
 have HE6 := hi_ (show ∀ w6, MapP w6 x.mp (if (plF _ (i, g)).isSome = true then np - 1 else np) (fun j => if j = (i, g) then none else plF _ j) -> (w4.drew).grownBy w6 (some x.mp) -> ∃ gr6, CoJ 0 w6 N gr6 x _ _ pt /\ TGo w1 gr w6 gr6 /\ Rec 88 w6 w.heap.size (enC n r i g (some ⟨q, 0, none⟩)) from fun w6 hm hg => by
  obtain ⟨gr6, h6, hG6, hF6⟩ := hE6 w6 hm hg
  exact ⟨gr6, h6, hG4.trans ((TGo.ofBelow (Below.refl _ _).drew).trans hG6), Rec.fr (w := w4.drew) r4 hF6 (fun e => by have e' : w.heap.size = x.mp := e; omega)⟩)
 have HM6 := hi_ hm6
 have HW6 := hi_ hw
 clear hd hE6 hm6 r1 hb1 hg0 hmp hmt hn hw hr hl hc h2 hG2 h4 hG4 r4 hR4 hF4 hb4 H2 HR4 R3 HB3
 go_upto_region 4 with fail
 refine wp_region_noPanic ?_
 refine wp_region_held_drew (S := fun W => (W.cell? ⟨x.p, 8, none⟩ = some (.map (some x.mp)) /\ W.cell? ⟨w.heap.size, 2, none⟩ = some (.int .i64 i) /\ W.cell? ⟨w.heap.size, 3, none⟩ = some (.int .i64 g))) (by kernel_rfl) s6 (fun hHeld => ?_)
 refine tk_ 0 ⟨some 25, .move (.tmp 0), 29, "ecs.go:245", #[], none⟩ hHeld ?_
 simp only [Act.put, sA_, sB_, sC_]
 refine tk_ 1 ⟨some 26, .nilCheck (.tmp 25), 0, "ecs.go:245", #[⟨0, .data⟩], none⟩ hHeld ?_
 simp only [Act.put, sA_, sB_, sC_]
 refine tk_ 2 ⟨some 27, .fieldAddr 82 (.tmp 26) 4, 0, "ecs.go:245", #[⟨1, .data⟩], none⟩ hHeld ?_
 simp only [Act.put, sA_, sB_, sC_]
 refine tk_ 3 ⟨some 28, .load 80 (.tmp 27), 80, "ecs.go:245", #[⟨2, .data⟩], none⟩ hHeld ?_
 simp only [Act.put, sA_, sB_, sC_]
 refine tk_ 4 ⟨some 29, .fieldAddr 88 (.tmp 3) 1, 0, "ecs.go:245", #[], none⟩ hHeld ?_
 simp only [Act.put, sA_, sB_, sC_]
 refine tk_ 5 ⟨some 30, .load 32 (.tmp 29), 32, "ecs.go:245", #[⟨4, .data⟩], none⟩ hHeld ?_
 simp only [Act.put, sA_, sB_, sC_]
 refine wpAnyH_ready (rs := [6]) (by kernel_rfl) (by simp) ?_
 refine AllReadyH.cons (o := ⟨none, .call { callee := .builtin .delete, args := #[.tmp 28, .tmp 30], argTypes := #[80, 32] }, 0, "ecs.go:245", #[⟨3, .data⟩, ⟨5, .data⟩], none⟩) rfl (fun K' hK => ?_) AllReadyH.nil
 refine step_dropE kfD Tryz.underlying80 (by rfl) (.tmp 28) (.tmp 30) rfl HM6.out (i, g) HW6.out rfl rfl ?_
 intro w6 hm6 hg6
 obtain ⟨gr6, h6, hG6, r6⟩ := HE6.out w6 hm6 hg6
 have s7 : (w6.cell? ⟨x.p, 8, none⟩ = some (.map (some x.mp)) /\ w6.cell? ⟨w.heap.size, 2, none⟩ = some (.int .i64 i) /\ w6.cell? ⟨w.heap.size, 3, none⟩ = some (.int .i64 g)) := ⟨h6.c8, r6.at_ 2, r6.at_ 3⟩
 have H6 := hi_ (And.intro h6 (And.intro hG6 r6))
 clear hm6 hg6 h6 hG6 r6
 refine hK.out _ _ s7 (fun hHeld => ?_)
 clear hK K'
 try simp only [Act.put]
 refine wpAnyH_done (by kernel_rfl) ?_ _
 refine NoPanic.normal ?_
 clear s6 s7 hHeld HE6 HM6 HW6
 obtain ⟨h6, hG6, r6⟩ := H6.out
 have k64 := r6.at_ 4
 obtain ⟨s8, tag8, m8, v8, q8, hs8, hA8, hg8⟩ := h6.tab n (t.dropR r) (by omega) (if_pos rfl)
 have CL : Hid (Calls Tryz.prog 113 #[.pointer (some ⟨q, 0, none⟩)] w6 fun e w' => e = .returned (.int .i64 0) /\ w6 = w') := hi_ (by
  have := tlen_any hA8.i
  rw [Tb.ids_len, Tb.dropR_len, <- HQ.out] at this
  rw [HX.out] at this; exact this)
 clear h6 hG6 r6 hs8 hA8 hg8
 go_upto_region 6 with (go_at_call 113; refine CL.out.mono ?_; rintro e w' ⟨rfl, rfl⟩; clear k64)
 obtain ⟨r1, hb1, hg0, hmp, hmt⟩ := H1.out
 obtain ⟨hn, hw, hc, hr, hl⟩ := HN.out
 obtain ⟨h6, hG6, r6⟩ := H6.out
 have hd := h6.below (Below.refl _ _).drew
 obtain ⟨nt, hm7, hE7⟩ := hd.del_tb n
 have s6 : (w6.drew.cell? ⟨x.p, 7, none⟩ = some (.map (some x.mt)) /\ w6.drew.cell? ⟨w.heap.size, 0, none⟩ = some (.int .i64 (n : Int))) := ⟨hd.c7, r6.at_ 0⟩
 have HE7 := hi_ (show ∀ w7, MapT w7 x.mt (if (tbV _ pt n).isSome = true then nt - 1 else nt) (fun j => if j = n then none else tbV _ pt j) -> (w6.drew).grownBy w7 (some x.mt) -> ∃ gr7, CoJ 0 w7 N gr7 x _ _ pt /\ TGo w1 gr w7 gr7 /\ Rec 88 w7 w.heap.size (enC n r i g (some ⟨q, 0, none⟩)) from fun w7 hm hg => by
  obtain ⟨gr7, h7, hG7, hF7⟩ := hE7 w7 hm hg
  exact ⟨gr7, h7, hG6.trans ((TGo.ofBelow (Below.refl _ _).drew).trans hG7), Rec.fr (w := w6.drew) r6 hF7 (fun e => by have e' : w.heap.size = x.mt := e; omega)⟩)
 have HM7 := hi_ hm7
 clear hd hE7 hm7 r1 hb1 hg0 hmp hmt hn hw hr hl hc h6 hG6 r6 H6 CL
 refine wp_region_noPanic ?_
 refine wp_region_held_drew (S := fun W => (W.cell? ⟨x.p, 7, none⟩ = some (.map (some x.mt)) /\ W.cell? ⟨w.heap.size, 0, none⟩ = some (.int .i64 (n : Int)))) (by kernel_rfl) s6 (fun hHeld => ?_)
 refine tk_ 0 ⟨some 35, .move (.tmp 0), 29, "ecs.go:247", #[], none⟩ hHeld ?_
 simp only [Act.put, sA_, sB_, sC_]
 refine tk_ 1 ⟨some 36, .nilCheck (.tmp 35), 0, "ecs.go:247", #[⟨0, .data⟩], none⟩ hHeld ?_
 simp only [Act.put, sA_, sB_, sC_]
 refine tk_ 2 ⟨some 37, .fieldAddr 82 (.tmp 36) 3, 0, "ecs.go:247", #[⟨1, .data⟩], none⟩ hHeld ?_
 simp only [Act.put, sA_, sB_, sC_]
 refine tk_ 3 ⟨some 38, .load 79 (.tmp 37), 79, "ecs.go:247", #[⟨2, .data⟩], none⟩ hHeld ?_
 simp only [Act.put, sA_, sB_, sC_]
 refine tk_ 4 ⟨some 39, .fieldAddr 88 (.tmp 3) 0, 0, "ecs.go:247", #[], none⟩ hHeld ?_
 simp only [Act.put, sA_, sB_, sC_]
 refine tk_ 5 ⟨some 40, .fieldAddr 85 (.tmp 39) 0, 0, "ecs.go:247", #[⟨4, .data⟩], none⟩ hHeld ?_
 simp only [Act.put, sA_, sB_, sC_]
 refine tk_ 6 ⟨some 41, .load 3 (.tmp 40), 3, "ecs.go:247", #[⟨5, .data⟩], none⟩ hHeld ?_
 simp only [Act.put, sA_, sB_, sC_]
 refine wpAnyH_ready (rs := [7]) (by kernel_rfl) (by simp) ?_
 refine AllReadyH.cons (o := ⟨none, .call { callee := .builtin .delete, args := #[.tmp 38, .tmp 41], argTypes := #[79, 3] }, 0, "ecs.go:247", #[⟨3, .data⟩, ⟨6, .data⟩], none⟩) rfl (fun K' hK => ?_) AllReadyH.nil
 refine step_dropE kfN Tryz.underlying79 (by rfl) (.tmp 38) (.tmp 41) rfl HM7.out n HN.out.1 rfl rfl ?_
 intro w7 hm7 hg7
 obtain ⟨gr7, h7, hG7, r7⟩ := HE7.out w7 hm7 hg7
 have s7 : (w7.cell? ⟨x.p, 7, none⟩ = some (.map (some x.mt)) /\ w7.cell? ⟨w.heap.size, 0, none⟩ = some (.int .i64 (n : Int))) := ⟨h7.c7, r7.at_ 0⟩
 have H7 := hi_ (And.intro h7 hG7)
 clear hm7 hg7 h7 hG7 r7
 refine hK.out _ _ s7 (fun hHeld => ?_)
 clear hK K'
 try simp only [Act.put]
 refine wpAnyH_done (by kernel_rfl) ?_ _
 refine NoPanic.normal ?_
 clear s6 s7 hHeld
 go_wp2_with fail
 go_end0
 obtain ⟨r1, hb1, hg0, hmp, hmt⟩ := H1.out
 obtain ⟨hn, hw, hc, hr, hl⟩ := HN.out
 obtain ⟨h7, hG7⟩ := H7.out
 refine ⟨rfl, _, (h7.more (Nat.le_succ c)).eq ?_, (TGo.ofBelow hb1).trans hG7⟩
 unfold Ks.drop
 have h1l := HX.out
 congr 1
 ·funext a
  unfold upd
  by_cases e : a = n
  ·simp only [if_pos e, if_pos h1l]
  ·simp only [if_neg e]
 ·funext j
  by_cases e : j = (i, g)
  ·simp only [if_pos e]
  ·simp only [if_neg e]
   rw [if_neg (fun hh => hh.1 hl)]
theorem edrop_A1 (h : CoJ 0 w N gr x k c pt) (hT : TabN N w) (hc : c <= 1000000) {i g : Int} (hw : okE (i, g)) {n r : Nat} (hn : okN n) {t : Tb} (ht : k.tb n = some t) (hr : r < t.rows.length) (hl : r = t.rows.length - 1) (h1l : t.rows.length ≠ 1) :
  Calls Tryz.prog 79 #[.pointer (some ⟨x.p, 0, none⟩), .agg (enC n r i g (some ⟨pt n, 0, none⟩))] w fun e w' => e = .returned (.tuple #[]) /\ ∃ gr', CoJ 0 w' N gr' x (k.drop (i, g) n r t) (c + 1) pt /\ TGo w gr w' gr' := by
 obtain ⟨w1, hw1⟩ : ∃ w1, w1 = w.alloc (.cells (enC n r i g (some ⟨pt n, 0, none⟩)) 88) := ⟨_, rfl⟩
 have hb1 : Below w.heap.size w w1 := by rw [hw1]; exact (Below.refl _ _).alloc (Nat.le_refl _) _
 have r1 : Rec 88 w1 w.heap.size (enC n r i g (some ⟨pt n, 0, none⟩)) := by rw [hw1]; exact Rec.new w _ _
 have h1 := h.below hb1
 obtain ⟨mi, mg, hmv⟩ : ∃ mi mg, t.lastR.1 = (mi, mg) := ⟨_, _, rfl⟩
 obtain ⟨q, hq⟩ : ∃ q : Nat, q = pt n := ⟨_, rfl⟩
 rw [<- hq] at r1
 obtain ⟨s, tag, m, v, qq, hs, hA, hg⟩ := h1.tab n t (by omega) ht
 have CD : Hid (Calls Tryz.prog 128 #[.pointer (some ⟨q, 0, none⟩), .int .i64 (r : Nat)] w1 fun e w' => e = .returned (.tuple #[.agg #[.int .i64 0, .int .i64 0], .bool false, .int .i64 0]) /\ ∃ gr', CoJ 0 w' N gr' x { k with tb := upd k.tb n (some (t.dropR r)) } c pt /\ TGo w1 gr w' gr') := hi_ (by
  rw [hq]
  refine (TDrop_go hA (hT.below h hb1).2 (0, 0) [] (r : Int) 0 []).mono ?_
  rintro e w' ⟨y, hy, _, _, rfl, hS⟩
  rw [Tb.go4 t hr] at hy hS
  simp only [if_pos hl] at hy
  subst hy
  exact ⟨rfl, h1.tab_go ht hs hg hS⟩)
 have k0 := r1.at_ 0
 have k1 := r1.at_ 1
 have k4 := r1.at_ 4
 have hg0 : gr w.heap.size = 0 := Classical.byContradiction fun hh => by have := h.dom _ hh; omega
 have hmp : x.mp < w.heap.size := h.dom _ (by rw [h.gm]; decide)
 have hmt : x.mt < w.heap.size := h.dom _ (by rw [h.gt]; decide)
 have H1 := hi_ (And.intro r1 (And.intro hb1 (And.intro hg0 (And.intro hmp hmt))))
 have HN := hi_ (And.intro hn (And.intro hw (And.intro hc (And.intro hr hl))))
 have HX := hi_ h1l
 rw [<- hq]
 rw [<- hq] at hw1
 have HQ := hi_ hq
 have HMV := hi_ hmv
 clear h h1 hb1 r1 hA hg hT hs hw hn ht hr hc hq hmv hl hg0 hmp hmt h1l
 go_enter Tryz.func79, Tryz.ntmps79
 go_upto_region 2 with (first
  | (rw [<- hw1]; clear hw1)
  | (go_at_call 128; refine CD.out.mono ?_; rintro e w2 ⟨rfl, gr2, h2, hG2⟩; obtain ⟨w3, hw3⟩ : ∃ w3, w3 = w2.alloc (.cells #[.int .i64 0, .int .i64 0] 32) := ⟨_, rfl⟩; have R3 := hi_ (show Rec 32 w3 w2.heap.size #[.int .i64 0, .int .i64 0] by rw [hw3]; exact Rec.new w2 _ _); have HB3 := hi_ (show Below w2.heap.size w2 w3 by rw [hw3]; exact (Below.refl _ _).alloc (Nat.le_refl _) _); have H2 := hi_ (And.intro h2 hG2); clear h2 hG2 k0 k1 k4 CD)
  | (rw [<- hw3]; clear hw3)
  | ((with_reducible refine wpList_stP rfl (.tmp 4) (.tmp 14) rfl rfl rfl R3.out ?_); intro w4 hR4 hF4; have HR4 := hi_ (And.intro hR4 hF4); clear hR4 hF4))
 obtain ⟨r1, hb1, hg0, hmp, hmt⟩ := H1.out
 obtain ⟨hn, hw, hc, hr, hl⟩ := HN.out
 obtain ⟨h2, hG2⟩ := H2.out
 obtain ⟨hR4, hF4⟩ := HR4.out
 have hb4 : Below w2.heap.size w2 w4 := HB3.out.trans (hF4.toBelow (fun y hy => by rw [show y = w2.heap.size from hy]; exact Nat.le_refl _) HB3.out.size)
 have h4 := h2.below hb4
 have hG4 : TGo w1 gr w4 gr2 := hG2.trans (TGo.ofBelow hb4)
 have r4 := r1.tgo hG4 hg0
 have hd := h4.below (Below.refl _ _).drew
 obtain ⟨np, hm6, hE6⟩ := hd.del_pl (i, g)
 have s6 : (w4.drew.cell? ⟨x.p, 8, none⟩ = some (.map (some x.mp)) /\ w4.drew.cell? ⟨w.heap.size, 2, none⟩ = some (.int .i64 i) /\ w4.drew.cell? ⟨w.heap.size, 3, none⟩ = some (.int .i64 g)) := ⟨hd.c8, r4.at_ 2, r4.at_ 3⟩
 have HE6 := hi_ (show ∀ w6, MapP w6 x.mp (if (plF _ (i, g)).isSome = true then np - 1 else np) (fun j => if j = (i, g) then none else plF _ j) -> (w4.drew).grownBy w6 (some x.mp) -> ∃ gr6, CoJ 0 w6 N gr6 x _ _ pt /\ TGo w1 gr w6 gr6 /\ Rec 88 w6 w.heap.size (enC n r i g (some ⟨q, 0, none⟩)) from fun w6 hm hg => by
  obtain ⟨gr6, h6, hG6, hF6⟩ := hE6 w6 hm hg
  exact ⟨gr6, h6, hG4.trans ((TGo.ofBelow (Below.refl _ _).drew).trans hG6), Rec.fr (w := w4.drew) r4 hF6 (fun e => by have e' : w.heap.size = x.mp := e; omega)⟩)
 have HM6 := hi_ hm6
 have HW6 := hi_ hw
 clear hd hE6 hm6 r1 hb1 hg0 hmp hmt hn hw hr hl hc h2 hG2 h4 hG4 r4 hR4 hF4 hb4 H2 HR4 R3 HB3
 go_upto_region 4 with fail
 refine wp_region_noPanic ?_
 refine wp_region_held_drew (S := fun W => (W.cell? ⟨x.p, 8, none⟩ = some (.map (some x.mp)) /\ W.cell? ⟨w.heap.size, 2, none⟩ = some (.int .i64 i) /\ W.cell? ⟨w.heap.size, 3, none⟩ = some (.int .i64 g))) (by kernel_rfl) s6 (fun hHeld => ?_)
 refine tk_ 0 ⟨some 25, .move (.tmp 0), 29, "ecs.go:245", #[], none⟩ hHeld ?_
 simp only [Act.put, sA_, sB_, sC_]
 refine tk_ 1 ⟨some 26, .nilCheck (.tmp 25), 0, "ecs.go:245", #[⟨0, .data⟩], none⟩ hHeld ?_
 simp only [Act.put, sA_, sB_, sC_]
 refine tk_ 2 ⟨some 27, .fieldAddr 82 (.tmp 26) 4, 0, "ecs.go:245", #[⟨1, .data⟩], none⟩ hHeld ?_
 simp only [Act.put, sA_, sB_, sC_]
 refine tk_ 3 ⟨some 28, .load 80 (.tmp 27), 80, "ecs.go:245", #[⟨2, .data⟩], none⟩ hHeld ?_
 simp only [Act.put, sA_, sB_, sC_]
 refine tk_ 4 ⟨some 29, .fieldAddr 88 (.tmp 3) 1, 0, "ecs.go:245", #[], none⟩ hHeld ?_
 simp only [Act.put, sA_, sB_, sC_]
 refine tk_ 5 ⟨some 30, .load 32 (.tmp 29), 32, "ecs.go:245", #[⟨4, .data⟩], none⟩ hHeld ?_
 simp only [Act.put, sA_, sB_, sC_]
 refine wpAnyH_ready (rs := [6]) (by kernel_rfl) (by simp) ?_
 refine AllReadyH.cons (o := ⟨none, .call { callee := .builtin .delete, args := #[.tmp 28, .tmp 30], argTypes := #[80, 32] }, 0, "ecs.go:245", #[⟨3, .data⟩, ⟨5, .data⟩], none⟩) rfl (fun K' hK => ?_) AllReadyH.nil
 refine step_dropE kfD Tryz.underlying80 (by rfl) (.tmp 28) (.tmp 30) rfl HM6.out (i, g) HW6.out rfl rfl ?_
 intro w6 hm6 hg6
 obtain ⟨gr6, h6, hG6, r6⟩ := HE6.out w6 hm6 hg6
 have s7 : (w6.cell? ⟨x.p, 8, none⟩ = some (.map (some x.mp)) /\ w6.cell? ⟨w.heap.size, 2, none⟩ = some (.int .i64 i) /\ w6.cell? ⟨w.heap.size, 3, none⟩ = some (.int .i64 g)) := ⟨h6.c8, r6.at_ 2, r6.at_ 3⟩
 have H6 := hi_ (And.intro h6 (And.intro hG6 r6))
 clear hm6 hg6 h6 hG6 r6
 refine hK.out _ _ s7 (fun hHeld => ?_)
 clear hK K'
 try simp only [Act.put]
 refine wpAnyH_done (by kernel_rfl) ?_ _
 refine NoPanic.normal ?_
 clear s6 s7 hHeld HE6 HM6 HW6
 obtain ⟨h6, hG6, r6⟩ := H6.out
 have k64 := r6.at_ 4
 obtain ⟨s8, tag8, m8, v8, q8, hs8, hA8, hg8⟩ := h6.tab n (t.dropR r) (by omega) (if_pos rfl)
 have CL : Hid (Calls Tryz.prog 113 #[.pointer (some ⟨q, 0, none⟩)] w6 fun e w' => e = .returned (.int .i64 ((t.rows.length - 1 : Nat) : Int)) /\ w6 = w') := hi_ (by
  have := tlen_any hA8.i
  rw [Tb.ids_len, Tb.dropR_len, <- HQ.out] at this
  exact this)
 clear h6 hG6 r6 hs8 hA8 hg8
 have hne : ¬ ((t.rows.length - 1 : Nat) : Int) = 0 := by have := HN.out.2.2.2.1; have := HX.out; omega
 obtain ⟨ln, hln⟩ : ∃ ln : Nat, ln = t.rows.length - 1 := ⟨_, rfl⟩
 rw [<- hln] at CL hne
 clear hln
 go_wp2_with (go_at_call 113; refine CL.out.mono ?_; rintro e w' ⟨rfl, rfl⟩; clear k64)
 go_end0
 obtain ⟨r1, hb1, hg0, hmp, hmt⟩ := H1.out
 obtain ⟨hn, hw, hc, hr, hl⟩ := HN.out
 obtain ⟨h6, hG6, r6⟩ := H6.out
 refine ⟨rfl, _, (h6.more (Nat.le_succ c)).eq ?_, (TGo.ofBelow hb1).trans hG6⟩
 unfold Ks.drop
 have h1l : t.rows.length ≠ 1 := by exact HX.out
 congr 1
 ·funext a
  unfold upd
  by_cases e : a = n
  ·simp only [if_pos e, if_neg h1l]
  ·simp only [if_neg e]
 ·funext j
  by_cases e : j = (i, g)
  ·simp only [if_pos e]
  ·simp only [if_neg e]
   rw [if_neg (fun hh => hh.1 hl)]
theorem edrop_B (h : CoJ 0 w N gr x k c pt) (hT : TabN N w) (hc : c <= 1000000) {i g : Int} (hw : okE (i, g)) {n r : Nat} (hn : okN n) {t : Tb} (ht : k.tb n = some t) (hr : r < t.rows.length) (hl : r ≠ t.rows.length - 1) (hmo : okE t.lastR.1) :
  Calls Tryz.prog 79 #[.pointer (some ⟨x.p, 0, none⟩), .agg (enC n r i g (some ⟨pt n, 0, none⟩))] w fun e w' => e = .returned (.tuple #[]) /\ ∃ gr', CoJ 0 w' N gr' x (k.drop (i, g) n r t) (c + 1) pt /\ TGo w gr w' gr' := by
 obtain ⟨w1, hw1⟩ : ∃ w1, w1 = w.alloc (.cells (enC n r i g (some ⟨pt n, 0, none⟩)) 88) := ⟨_, rfl⟩
 have hb1 : Below w.heap.size w w1 := by rw [hw1]; exact (Below.refl _ _).alloc (Nat.le_refl _) _
 have r1 : Rec 88 w1 w.heap.size (enC n r i g (some ⟨pt n, 0, none⟩)) := by rw [hw1]; exact Rec.new w _ _
 have h1 := h.below hb1
 obtain ⟨mi, mg, hmv⟩ : ∃ mi mg, t.lastR.1 = (mi, mg) := ⟨_, _, rfl⟩
 obtain ⟨q, hq⟩ : ∃ q : Nat, q = pt n := ⟨_, rfl⟩
 rw [<- hq] at r1
 obtain ⟨s, tag, m, v, qq, hs, hA, hg⟩ := h1.tab n t (by omega) ht
 have CD : Hid (Calls Tryz.prog 128 #[.pointer (some ⟨q, 0, none⟩), .int .i64 (r : Nat)] w1 fun e w' => e = .returned (.tuple #[.agg #[.int .i64 mi, .int .i64 mg], .bool true, .int .i64 0]) /\ ∃ gr', CoJ 0 w' N gr' x { k with tb := upd k.tb n (some (t.dropR r)) } c pt /\ TGo w1 gr w' gr') := hi_ (by
  rw [hq]
  refine (TDrop_go hA (hT.below h hb1).2 (0, 0) [] (r : Int) 0 []).mono ?_
  rintro e w' ⟨y, hy, _, _, rfl, hS⟩
  rw [Tb.go4 t hr] at hy hS
  simp only [if_neg hl, hmv] at hy
  subst hy
  exact ⟨rfl, h1.tab_go ht hs hg hS⟩)
 have k0 := r1.at_ 0
 have k1 := r1.at_ 1
 have k4 := r1.at_ 4
 have hg0 : gr w.heap.size = 0 := Classical.byContradiction fun hh => by have := h.dom _ hh; omega
 have hmp : x.mp < w.heap.size := h.dom _ (by rw [h.gm]; decide)
 have hmt : x.mt < w.heap.size := h.dom _ (by rw [h.gt]; decide)
 have H1 := hi_ (And.intro r1 (And.intro hb1 (And.intro hg0 (And.intro hmp hmt))))
 have HN := hi_ (And.intro hn (And.intro hw (And.intro hc (And.intro hr hl))))
 have HX := hi_ hmo
 rw [<- hq]
 rw [<- hq] at hw1
 have HQ := hi_ hq
 have HMV := hi_ hmv
 clear h h1 hb1 r1 hA hg hT hs hw hn ht hr hc hq hmv hl hg0 hmp hmt hmo
 go_enter Tryz.func79, Tryz.ntmps79
 go_upto_region 2 with (first
  | (rw [<- hw1]; clear hw1)
  | (go_at_call 128; refine CD.out.mono ?_; rintro e w2 ⟨rfl, gr2, h2, hG2⟩; obtain ⟨w3, hw3⟩ : ∃ w3, w3 = w2.alloc (.cells #[.int .i64 0, .int .i64 0] 32) := ⟨_, rfl⟩; have R3 := hi_ (show Rec 32 w3 w2.heap.size #[.int .i64 0, .int .i64 0] by rw [hw3]; exact Rec.new w2 _ _); have HB3 := hi_ (show Below w2.heap.size w2 w3 by rw [hw3]; exact (Below.refl _ _).alloc (Nat.le_refl _) _); have H2 := hi_ (And.intro h2 hG2); clear h2 hG2 k0 k1 k4 CD)
  | (rw [<- hw3]; clear hw3)
  | ((with_reducible refine wpList_stP rfl (.tmp 4) (.tmp 14) rfl rfl rfl R3.out ?_); intro w4 hR4 hF4; have HR4 := hi_ (And.intro hR4 hF4); clear hR4 hF4))
 obtain ⟨r1, hb1, hg0, hmp, hmt⟩ := H1.out
 obtain ⟨hn, hw, hc, hr, hl⟩ := HN.out
 obtain ⟨h2, hG2⟩ := H2.out
 obtain ⟨hR4, hF4⟩ := HR4.out
 have hb4 : Below w2.heap.size w2 w4 := HB3.out.trans (hF4.toBelow (fun y hy => by rw [show y = w2.heap.size from hy]; exact Nat.le_refl _) HB3.out.size)
 have h4 := h2.below hb4
 have hG4 : TGo w1 gr w4 gr2 := hG2.trans (TGo.ofBelow hb4)
 have r4 := r1.tgo hG4 hg0
 have hmo := HX.out
 rw [HMV.out] at hmo
 have h4d := h4.below (Below.refl _ _).drew
 obtain ⟨w5, hrun5, gr5, h5, hG5, hF5⟩ := h4d.put_pl hc hmo n r
 have hgm : gr2 w2.heap.size = 0 := Classical.byContradiction fun hh => by have := h2.dom _ hh; omega
 have R5 := hi_ hrun5
 have s4 : (w4.drew.cell? ⟨x.p, 8, none⟩ = some (.map (some x.mp)) /\ (w4.drew.cell? ⟨w2.heap.size, 0, none⟩ = some (.int .i64 mi) /\ w4.drew.cell? ⟨w2.heap.size, 1, none⟩ = some (.int .i64 mg)) /\ w4.drew.cell? ⟨w.heap.size, 0, none⟩ = some (.int .i64 (n : Int)) /\ w4.drew.cell? ⟨w.heap.size, 1, none⟩ = some (.int .i64 (r : Int))) := ⟨h4d.c8, ⟨hR4.at_ 0, hR4.at_ 1⟩, r4.at_ 0, r4.at_ 1⟩
 have r5 : Rec 88 w5 w.heap.size (enC n r i g (some ⟨q, 0, none⟩)) := Rec.fr (w := w4.drew) r4 hF5 (fun e => by have e' : w.heap.size = x.mp := e; omega)
 have m5 : Rec 32 w5 w2.heap.size #[.int .i64 mi, .int .i64 mg] := Rec.fr (w := w4.drew) hR4 hF5 (fun e => by have := h2.dom x.mp (by rw [h2.gm]; decide); have e' : w2.heap.size = x.mp := e; omega)
 have s5 : (w5.cell? ⟨x.p, 8, none⟩ = some (.map (some x.mp)) /\ (w5.cell? ⟨w2.heap.size, 0, none⟩ = some (.int .i64 mi) /\ w5.cell? ⟨w2.heap.size, 1, none⟩ = some (.int .i64 mg)) /\ w5.cell? ⟨w.heap.size, 0, none⟩ = some (.int .i64 (n : Int)) /\ w5.cell? ⟨w.heap.size, 1, none⟩ = some (.int .i64 (r : Int))) := ⟨h5.c8, ⟨m5.at_ 0, m5.at_ 1⟩, r5.at_ 0, r5.at_ 1⟩
 have hG05 : TGo w1 gr w5 gr5 := hG4.trans ((TGo.ofBelow (Below.refl _ _).drew).trans hG5)
 have H5 := hi_ (And.intro h5 (And.intro hG05 r5))
 clear h2 hG2 h4 hG4 r4 hR4 hF4 hb4 h4d h5 hG5 hF5 r5 m5 hgm hG05 hrun5 r1 hb1 hg0 hmp hmt hn hw hr hl hc hmo H2 HR4 R3 HB3
 go_upto_region 3 with fail
 have hrun5 := R5.out
 refine wp_region_noPanic ?_
 refine wp_region_held_drew (S := fun W => (W.cell? ⟨x.p, 8, none⟩ = some (.map (some x.mp)) /\ (W.cell? ⟨w2.heap.size, 0, none⟩ = some (.int .i64 mi) /\ W.cell? ⟨w2.heap.size, 1, none⟩ = some (.int .i64 mg)) /\ W.cell? ⟨w.heap.size, 0, none⟩ = some (.int .i64 (n : Int)) /\ W.cell? ⟨w.heap.size, 1, none⟩ = some (.int .i64 (r : Int)))) (by kernel_rfl) s4 (fun hHeld => ?_)
 refine tk_ 0 ⟨some 18, .move (.tmp 0), 29, "ecs.go:243", #[], none⟩ hHeld ?_
 simp only [Act.put, sA_, sB_, sC_]
 refine tk_ 1 ⟨some 19, .nilCheck (.tmp 18), 0, "ecs.go:243", #[⟨0, .data⟩], none⟩ hHeld ?_
 simp only [Act.put, sA_, sB_, sC_]
 refine tk_ 2 ⟨some 20, .fieldAddr 82 (.tmp 19) 4, 0, "ecs.go:243", #[⟨1, .data⟩], none⟩ hHeld ?_
 simp only [Act.put, sA_, sB_, sC_]
 refine tk_ 3 ⟨some 21, .load 80 (.tmp 20), 80, "ecs.go:243", #[⟨2, .data⟩], none⟩ hHeld ?_
 simp only [Act.put, sA_, sB_, sC_]
 refine tk_ 4 ⟨some 22, .load 32 (.tmp 4), 32, "ecs.go:243", #[], none⟩ hHeld ?_
 simp only [Act.put, sA_, sB_, sC_]
 refine tk_ 5 ⟨some 23, .fieldAddr 88 (.tmp 3) 0, 0, "ecs.go:243", #[], none⟩ hHeld ?_
 simp only [Act.put, sA_, sB_, sC_]
 refine tk_ 6 ⟨some 24, .load 85 (.tmp 23), 85, "ecs.go:243", #[⟨5, .data⟩], none⟩ hHeld ?_
 simp only [Act.put, sA_, sB_, sC_]
 refine wpAnyH_ready (rs := [7]) (by kernel_rfl) (by simp) ?_
 refine AllReadyH.cons (o := ⟨none, .mapUpdate 80 (.tmp 21) (.tmp 22) (.tmp 24), 0, "ecs.go:243", #[⟨3, .data⟩, ⟨4, .data⟩, ⟨6, .data⟩, ⟨0, .phase⟩, ⟨1, .phase⟩, ⟨2, .phase⟩, ⟨3, .phase⟩, ⟨4, .phase⟩, ⟨5, .phase⟩, ⟨6, .phase⟩], none⟩) rfl (fun K' hK => ?_) AllReadyH.nil
 go_simp
 refine hK.out _ _ s5 (fun hHeld => ?_)
 clear hK K'
 try simp only [Act.put]
 refine wpAnyH_done (by kernel_rfl) ?_ _
 refine NoPanic.normal ?_
 clear s4 s5 hHeld hrun5
 obtain ⟨r1, hb1, hg0, hmp, hmt⟩ := H1.out
 obtain ⟨hn, hw, hc, hr, hl⟩ := HN.out
 obtain ⟨h5, hG5, r5⟩ := H5.out
 have hd := h5.below (Below.refl _ _).drew
 obtain ⟨np, hm6, hE6⟩ := hd.del_pl (i, g)
 have s6 : (w5.drew.cell? ⟨x.p, 8, none⟩ = some (.map (some x.mp)) /\ w5.drew.cell? ⟨w.heap.size, 2, none⟩ = some (.int .i64 i) /\ w5.drew.cell? ⟨w.heap.size, 3, none⟩ = some (.int .i64 g)) := ⟨hd.c8, r5.at_ 2, r5.at_ 3⟩
 have HE6 := hi_ (show ∀ w6, MapP w6 x.mp (if (plF _ (i, g)).isSome = true then np - 1 else np) (fun j => if j = (i, g) then none else plF _ j) -> (w5.drew).grownBy w6 (some x.mp) -> ∃ gr6, CoJ 0 w6 N gr6 x _ _ pt /\ TGo w1 gr w6 gr6 /\ Rec 88 w6 w.heap.size (enC n r i g (some ⟨q, 0, none⟩)) from fun w6 hm hg => by
  obtain ⟨gr6, h6, hG6, hF6⟩ := hE6 w6 hm hg
  exact ⟨gr6, h6, hG5.trans ((TGo.ofBelow (Below.refl _ _).drew).trans hG6), Rec.fr (w := w5.drew) r5 hF6 (fun e => by have e' : w.heap.size = x.mp := e; omega)⟩)
 have HM6 := hi_ hm6
 have HW6 := hi_ hw
 clear hd hE6 hm6 r1 hb1 hg0 hmp hmt hn hw hr hl hc h5 hG5 r5
 go_upto_region 4 with fail
 refine wp_region_noPanic ?_
 refine wp_region_held_drew (S := fun W => (W.cell? ⟨x.p, 8, none⟩ = some (.map (some x.mp)) /\ W.cell? ⟨w.heap.size, 2, none⟩ = some (.int .i64 i) /\ W.cell? ⟨w.heap.size, 3, none⟩ = some (.int .i64 g))) (by kernel_rfl) s6 (fun hHeld => ?_)
 refine tk_ 0 ⟨some 25, .move (.tmp 0), 29, "ecs.go:245", #[], none⟩ hHeld ?_
 simp only [Act.put, sA_, sB_, sC_]
 refine tk_ 1 ⟨some 26, .nilCheck (.tmp 25), 0, "ecs.go:245", #[⟨0, .data⟩], none⟩ hHeld ?_
 simp only [Act.put, sA_, sB_, sC_]
 refine tk_ 2 ⟨some 27, .fieldAddr 82 (.tmp 26) 4, 0, "ecs.go:245", #[⟨1, .data⟩], none⟩ hHeld ?_
 simp only [Act.put, sA_, sB_, sC_]
 refine tk_ 3 ⟨some 28, .load 80 (.tmp 27), 80, "ecs.go:245", #[⟨2, .data⟩], none⟩ hHeld ?_
 simp only [Act.put, sA_, sB_, sC_]
 refine tk_ 4 ⟨some 29, .fieldAddr 88 (.tmp 3) 1, 0, "ecs.go:245", #[], none⟩ hHeld ?_
 simp only [Act.put, sA_, sB_, sC_]
 refine tk_ 5 ⟨some 30, .load 32 (.tmp 29), 32, "ecs.go:245", #[⟨4, .data⟩], none⟩ hHeld ?_
 simp only [Act.put, sA_, sB_, sC_]
 refine wpAnyH_ready (rs := [6]) (by kernel_rfl) (by simp) ?_
 refine AllReadyH.cons (o := ⟨none, .call { callee := .builtin .delete, args := #[.tmp 28, .tmp 30], argTypes := #[80, 32] }, 0, "ecs.go:245", #[⟨3, .data⟩, ⟨5, .data⟩], none⟩) rfl (fun K' hK => ?_) AllReadyH.nil
 refine step_dropE kfD Tryz.underlying80 (by rfl) (.tmp 28) (.tmp 30) rfl HM6.out (i, g) HW6.out rfl rfl ?_
 intro w6 hm6 hg6
 obtain ⟨gr6, h6, hG6, r6⟩ := HE6.out w6 hm6 hg6
 have s7 : (w6.cell? ⟨x.p, 8, none⟩ = some (.map (some x.mp)) /\ w6.cell? ⟨w.heap.size, 2, none⟩ = some (.int .i64 i) /\ w6.cell? ⟨w.heap.size, 3, none⟩ = some (.int .i64 g)) := ⟨h6.c8, r6.at_ 2, r6.at_ 3⟩
 have H6 := hi_ (And.intro h6 (And.intro hG6 r6))
 clear hm6 hg6 h6 hG6 r6
 refine hK.out _ _ s7 (fun hHeld => ?_)
 clear hK K'
 try simp only [Act.put]
 refine wpAnyH_done (by kernel_rfl) ?_ _
 refine NoPanic.normal ?_
 clear s6 s7 hHeld HE6 HM6 HW6
 obtain ⟨h6, hG6, r6⟩ := H6.out
 have k64 := r6.at_ 4
 obtain ⟨s8, tag8, m8, v8, q8, hs8, hA8, hg8⟩ := h6.tab n (t.dropR r) (by omega) (if_pos rfl)
 have CL : Hid (Calls Tryz.prog 113 #[.pointer (some ⟨q, 0, none⟩)] w6 fun e w' => e = .returned (.int .i64 ((t.rows.length - 1 : Nat) : Int)) /\ w6 = w') := hi_ (by
  have := tlen_any hA8.i
  rw [Tb.ids_len, Tb.dropR_len, <- HQ.out] at this
  exact this)
 clear h6 hG6 r6 hs8 hA8 hg8
 have hne : ¬ ((t.rows.length - 1 : Nat) : Int) = 0 := by have := HN.out.2.2.2.1; have := HN.out.2.2.2.2; omega
 obtain ⟨ln, hln⟩ : ∃ ln : Nat, ln = t.rows.length - 1 := ⟨_, rfl⟩
 rw [<- hln] at CL hne
 clear hln
 go_wp2_with (go_at_call 113; refine CL.out.mono ?_; rintro e w' ⟨rfl, rfl⟩; clear k64)
 go_end0
 obtain ⟨r1, hb1, hg0, hmp, hmt⟩ := H1.out
 obtain ⟨hn, hw, hc, hr, hl⟩ := HN.out
 obtain ⟨h6, hG6, r6⟩ := H6.out
 refine ⟨rfl, _, (h6).eq ?_, (TGo.ofBelow hb1).trans hG6⟩
 unfold Ks.drop
 have h1l : t.rows.length ≠ 1 := by omega
 congr 1
 ·funext a
  unfold upd
  by_cases e : a = n
  ·simp only [if_pos e, if_neg h1l]
  ·simp only [if_neg e]
 ·funext j
  by_cases e : j = (i, g)
  ·simp only [if_pos e]
  ·simp only [if_neg e]
   rw [HMV.out]
   by_cases e2 : j = (mi, mg)
   ·rw [if_pos e2, if_pos ⟨hl, e2⟩]
   ·rw [if_neg e2, if_neg (fun hh => e2 hh.2)]
end
end Go.Proofs.YtaoinkjjmakhaaaGreatDoor
namespace Go.Proofs.YtaoinkjjmakhaaaGreatDoor
open Go.RowKit
set_option maxRecDepth 20000
theorem HdL.append {α : Type} {sz : Nat} {E : α -> List Value -> Prop} {vs vs' : List Value} {xs xs' : List α} (h : HdL sz E vs xs) (h' : HdL sz E vs' xs') : HdL sz E (vs ++ vs') (xs ++ xs') := by
 obtain ⟨ch, rfl, h2, h3, h4⟩ := h
 obtain ⟨ch', rfl, k2, k3, k4⟩ := h'
 refine ⟨ch ++ ch', by simp, by simp [h2, k2], fun q hq => ?_, fun j y hy => ?_⟩
 ·rcases List.mem_append.1 hq with h | h
  ·exact h3 q h
  ·exact k3 q h
 ·by_cases hj : j < xs.length
  ·rw [List.getElem?_append_left hj] at hy
   obtain ⟨q, hq, hE⟩ := h4 j y hy
   exact ⟨q, by rw [List.getElem?_append_left (by omega)]; exact hq, hE⟩
  ·rw [List.getElem?_append_right (by omega)] at hy
   obtain ⟨q, hq, hE⟩ := k4 _ y hy
   exact ⟨q, by rw [List.getElem?_append_right (by omega), h2]; exact hq, hE⟩
section
variable {α : Type} {E : (Nat -> Prop) -> World -> α -> List Value -> Prop} {e : TypeId} {sz : Nat} {w w' : World} {B : Nat} {v : Value} {vs : List Value} {D K : Nat -> Prop} {xs : List α}
theorem Gr.fr {own : Nat -> Prop} (ok : EOk E) (h : Gr E e sz w B v vs D xs) (hf : Fr own w w') (hv : ∀ y, v.ownBlock = some y -> ¬ own y) (hD : ∀ y, D y -> ¬ own y) : Gr E e sz w' B v vs D xs :=
 ⟨Nat.le_trans h.Bw hf.size, own_fr h.ow hf hv, h.hd.imp fun _ _ hx => ok.stays hx ⟨hf.size, fun y hy => hf.block y (h.dx y hy).1 (hD y hy)⟩, fun y hy => ⟨Nat.lt_of_lt_of_le (h.dx y hy).1 hf.size, (h.dx y hy).2⟩⟩
theorem Gr.puts (ok : EOk E) (h : Gr E e sz w B v vs D xs) {v' : Value} {ys : List α} {rs : List Value} (hE : HdL sz (E K w) rs ys) (hK : ∀ y, K y -> v.ownBlock ≠ some y)
  (ho : w'.ownsRow B e sz v' (xs.length + ys.length) (vs ++ rs)) (hg : w.grownBy w' v.ownBlock) (hv : v'.ownBlock = v.ownBlock \/ v'.ownBlock = some w.heap.size) :
  Gr E e sz w' B v' (vs ++ rs) (fun y => D y \/ (K y /\ y < w.heap.size)) (xs ++ ys) := by
 have hF : Fr (fun y => v.ownBlock = some y) w w' := Fr.grown hg (fun y hy => hy)
 have hs := hF.size
 have hall : ∀ y, (D y \/ (K y /\ y < w.heap.size)) -> y < w.heap.size /\ v.ownBlock ≠ some y := fun y hy => by
  rcases hy with h1 | h1
  ·exact h.dx y h1
  ·exact ⟨h1.2, hK y h1.1⟩
 have st : WStays (fun y => D y \/ (K y /\ y < w.heap.size)) w w' := ⟨hs, fun y hy => hF.block y (hall y hy).1 (hall y hy).2⟩
 refine ⟨Nat.le_trans h.Bw hs, by rw [List.length_append]; exact ho, ?_, fun y hy => ?_⟩
 ·exact (h.hd.imp fun _ _ hx => ok.stays (ok.mono hx (fun _ hy => .inl hy)) st).append (hE.imp fun _ _ hx => ok.stays (ok.mono (ok.lt hx) (fun _ hy => .inr hy)) st)
 ·obtain ⟨h1, h2⟩ := hall y hy
  refine ⟨by omega, fun e => ?_⟩
  rcases hv with hv | hv
  ·exact h2 (hv ▸ e)
  ·rw [hv] at e
   injection e with e
   omega
end
theorem VRow.own {K : Nat -> Prop} {w : World} {A : Option Addr} {n sz : Nat} {vs : List Value} (h : VRow K w A n sz vs) (c : Nat) : VRow (fun y => (Value.slice A n c).ownBlock = some y) w A n sz vs :=
 ⟨h.1, h.2.1, fun hn => by
  obtain ⟨b, o, e, _, r⟩ := h.2.2 hn
  exact ⟨b, o, e, by rw [e]; rfl, r⟩⟩
theorem Gr.rowsO {α : Type} {E : (Nat -> Prop) -> World -> α -> List Value -> Prop} {e : TypeId} {sz : Nat} {w : World} {B : Nat} {v : Value} {vs : List Value} {D : Nat -> Prop} {xs : List α} (ok : EOk E) (h : Gr E e sz w B v vs D xs) :
  ∃ A c, v = .slice A xs.length c /\ xs.length <= c /\ c <= maxLen /\ RowsL sz (E (fun y => D y \/ v.ownBlock = some y) w) (fun y => D y \/ v.ownBlock = some y) w A xs.length xs := by
 obtain ⟨A, c, e1, h1, h2, h3⟩ := own_vrow h.ow
 exact ⟨A, c, e1, h1, h2, vs, rfl, (h3.own c).mono (fun y hy => .inr (by rw [e1]; exact hy)), h.hd.imp fun _ _ hx => ok.mono hx (fun _ hy => .inl hy)⟩
section
variable {w : World} {N : Nat} {gr : Nat -> Nat} {x : Fx} {k : Ks} {c : Nat} {pt : Nat -> Nat}
theorem edrop_any (h : CoJ 0 w N gr x k c pt) (hT : TabN N w) (hc : c <= 1000000) {i g : Int} (hw : okE (i, g)) {n r : Nat} (hn : okN n) {t : Tb} (ht : k.tb n = some t) (hr : r < t.rows.length) (hmo : okE t.lastR.1) :
  Calls Tryz.prog 79 #[.pointer (some ⟨x.p, 0, none⟩), .agg (enC n r i g (some ⟨pt n, 0, none⟩))] w fun e w' => e = .returned (.tuple #[]) /\ ∃ gr', CoJ 0 w' N gr' x (k.drop (i, g) n r t) (c + 1) pt /\ TGo w gr w' gr' := by
 by_cases hl : r = t.rows.length - 1
 ·by_cases h1 : t.rows.length = 1
  ·exact edrop_A0 h hT hc hw hn ht hr hl h1
  ·exact edrop_A1 h hT hc hw hn ht hr hl h1
 ·exact edrop_B h hT hc hw hn ht hr hl hmo
def Ks.tab (k : Ks) (x : Fx) (n s : Nat) : Tb := (k.tb n).getD (Tb.new x.n (zsK x.ks) s)
theorem eadd_any (h : CoJ 0 w N gr x k c pt) (hT : TabN N w) (hc : c <= 100000) {i g : Int} (hw : okE (i, g)) {n : Nat} (hn : okN n) {s : Nat} (hs : k.S[n]? = some s) (hsl : s < 18446744073709551616) (hsub : s &&& ofL (idxs x.n) 64 = s) (hks : x.n <= 1000000) {K : Nat -> Prop} {PA : Option Addr} {pn : Nat} {ps : List Pt} (hp : PartsV K w PA pn ps) (hK : ∀ y, K y -> gr y = 0) (hpn : pn <= 1000000) (pc : Nat) :
  Calls Tryz.prog 58 #[.pointer (some ⟨x.p, 0, none⟩), .agg #[.int .i64 i, .int .i64 g], .int .i64 (n : Int), .slice PA pn pc] w fun e w' => e = .returned (.tuple #[]) /\ ∃ gr' pt', CoJ 0 w' N gr' x (k.put (i, g) n (k.tab x n s) ps) (c + 2) pt' /\ TGo w gr w' gr' := by
 unfold Ks.tab
 cases ht : k.tb n with
 | some t =>
  refine (eadd_old h hT (by omega) hw hn ht hp hK hpn pc).mono ?_
  rintro e w' ⟨rfl, gr', h', hG⟩
  exact ⟨rfl, gr', pt, h'.more (by omega), hG⟩
 | none => exact eadd_new h hT hc hw hn ht hs hsl hsub hks hp hK hpn pc
def Ks.move (k : Ks) (x : Fx) (id : Int × Int) (n r : Nat) (t : Tb) (n2 s2 : Nat) (ps : List Pt) : Ks := (k.drop id n r t).put id n2 ((k.drop id n r t).tab x n2 s2) ps
set_option maxHeartbeats 1000000 in
theorem emove_any (h : CoJ 0 w N gr x k c pt) (hT : TabN N w) (hc : c <= 90000) {i g : Int} (hw : okE (i, g)) {n r : Nat} (hn : okN n) {t : Tb} (ht : k.tb n = some t) (hr : r < t.rows.length) (hmo : okE t.lastR.1)
  {n2 s2 : Nat} (hn2 : okN n2) (hs2 : k.S[n2]? = some s2) (hsl : s2 < 18446744073709551616) (hsub : s2 &&& ofL (idxs x.n) 64 = s2) (hks : x.n <= 1000000) (hS : k.S.length <= 4096) {K : Nat -> Prop} {MA : Option Addr} {mn : Nat} {more : List Pt} (hm : PartsV K w MA mn more) (hK : ∀ y, K y -> gr y = 0) (hmn : mn <= 1000) (mc : Nat) :
  Calls Tryz.prog 65 #[.pointer (some ⟨x.p, 0, none⟩), .agg (enC n r i g (some ⟨pt n, 0, none⟩)), .int .i64 (n2 : Int), .slice MA mn mc] w fun e w' => e = .returned (.tuple #[]) /\ ∃ gr' pt', CoJ 0 w' N gr' x (k.move x (i, g) n r t n2 s2 ((t.rows.getD r noEn).2 ++ more)) (c + 3) pt' /\ TGo w gr w' gr' := by
 obtain ⟨w1, hw1⟩ : ∃ w1, w1 = w.alloc (.cells (enC n r i g (some ⟨pt n, 0, none⟩)) 88) := ⟨_, rfl⟩
 have hb1 : Below w.heap.size w w1 := by rw [hw1]; exact (Below.refl _ _).alloc (Nat.le_refl _) _
 have r1 : Rec 88 w1 w.heap.size (enC n r i g (some ⟨pt n, 0, none⟩)) := by rw [hw1]; exact Rec.new w _ _
 have hs1 : w1.heap.size = w.heap.size + 1 := by rw [hw1]; simp
 have h1 := h.below hb1
 obtain ⟨q, hq⟩ : ∃ q : Nat, q = pt n := ⟨_, rfl⟩
 rw [<- hq] at r1 hw1
 obtain ⟨s, tag, m, v, qq, hs, hA, hg⟩ := h1.tab n t (by omega) ht
 obtain ⟨ps, hps⟩ : ∃ ps, ps = (t.rows.getD r noEn).2 := ⟨_, rfl⟩
 have hpl : ps.length = t.cs.length := by rw [hps]; exact (Tb.Ok.getD hA.ok hr).len
 have hpl64 := hA.ok.cn
 have CP : Hid (Calls Tryz.prog 36 #[.pointer (some ⟨q, 0, none⟩), .int .i64 (r : Nat)] w1 fun e w' => ∃ PA pc vs D, e = .returned (.tuple #[.slice PA ps.length pc, .int .i64 0]) /\ Gr EP 143 2 w' w1.heap.size (.slice PA ps.length pc) vs D ps /\ (∀ y, D y -> w1.heap.size <= y) /\ Below w1.heap.size w1 w') := hi_ (by
  rw [hq]
  have := TParts_gr hA.i hA.sig hA.sgl (hT.below h hb1).2 hA.ok.cn hA.hrw r (by rw [t.ids_len]; exact hr)
  rw [Tb.rowL_eq hA.ok hr, <- hps, <- hpl] at this
  exact this)
 have hg0 : gr w.heap.size = 0 := Classical.byContradiction fun hh => by have := h.dom _ hh; omega
 have k1 := r1.at_ 1
 have k4 := r1.at_ 4
 have H1 := hi_ (And.intro r1 (And.intro hb1 (And.intro hg0 (And.intro hs1 h))))
 have HN := hi_ (And.intro hw (And.intro hn (And.intro ht (And.intro hr (And.intro hmo (And.intro hT hc))))))
 have HM := hi_ (And.intro hn2 (And.intro hs2 (And.intro hsl (And.intro hsub (And.intro hks (And.intro hS hmn))))))
 have HP := hi_ (And.intro hm (And.intro hK (And.intro hpl hpl64)))
 have HQ := hi_ hq
 rw [<- hps, <- hq]
 clear h hb1 r1 hA hg hT hs hw hn ht hr hc hq hg0 hmo hn2 hs2 hsl hsub hks hS hmn hm hK hpl hpl64 hps hs1
 have H1' := hi_ h1
 clear h1
 go_enter Tryz.func65, Tryz.ntmps65
 go_upto_region 2 with (first
  | (rw [<- hw1]; clear hw1)
  | (go_at_call 36; refine CP.out.mono ?_; rintro e w2 ⟨PA, pc, vs, D, rfl, hG2, hD2, hb2⟩; have H2 := hi_ (And.intro hG2 (And.intro hD2 hb2)); clear hG2 hD2 hb2 k1 k4))
 obtain ⟨r1, hb1, hg0, hs1, h⟩ := H1.out
 obtain ⟨hw, hn, ht, hr, hmo, hT, hc⟩ := HN.out
 obtain ⟨hG2, hD2, hb2⟩ := H2.out
 have h2 := H1'.out.below hb2
 have hb02 := hb1.trans (hb2.mono hb1.size)
 have CD := edrop_any h2 (hT.below h hb02) (by omega) hw hn ht hr hmo
 rw [<- HQ.out] at CD
 have CD := hi_ CD
 have R2 := hi_ (r1.under hb2)
 have B2 := hi_ hb02
 clear r1 hb1 hg0 hs1 h hw hn ht hr hmo hT hc hG2 hD2 hb2 h2 hb02 CP
 go_upto_region 3 with (first
  | (with_reducible refine wpList_ldN rfl (.tmp 5) rfl rfl R2.out ?_)
  | (go_at_call 79; refine CD.out.mono ?_; rintro e w3 ⟨rfl, gr3, h3, hG3⟩; have H3 := hi_ (And.intro h3 hG3); clear h3 hG3))
 obtain ⟨r1, hb1, hg0, hs1, h⟩ := H1.out
 obtain ⟨hw, hn, ht, hr, hmo, hT, hc⟩ := HN.out
 obtain ⟨hn2, hs2, hsl, hsub, hks, hS, hmn⟩ := HM.out
 obtain ⟨hm, hK, hpl, hpl64⟩ := HP.out
 obtain ⟨hG2, hD2, hb2⟩ := H2.out
 obtain ⟨h3, hG3⟩ := H3.out
 have hs2' := hb2.size
 have hG03 : TGo w gr w3 gr3 := (TGo.ofBelow B2.out).trans hG3
 have hz : ∀ y, w.heap.size <= y -> gr y = 0 := fun y hy => Classical.byContradiction fun hh => by have := h.dom y hh; omega
 have r3 : Rec 88 w3 w.heap.size (enC n r i g (some ⟨q, 0, none⟩)) := R2.out.tgo hG3 hg0
 have G3 : Gr EP 143 2 w3.drew w1.heap.size (.slice PA ps.length pc) vs D ps :=
  (hG2.fr EP.ok (own := fun y => gr y ≠ 0) hG3.fr (fun y hy e => e (hz y (by have := (own_geB hG2.ow hy).1; omega))) (fun y hy e => e (hz y (by have := hD2 y hy; omega)))).below EP.ok (Below.refl _ _).drew
 have m3 : PartsV (fun y => K y /\ y < w.heap.size) w3.drew MA mn more := ((hm.lt).stays ⟨hG03.fr.size, fun y hy => hG03.fr.block y hy.2 (fun hn => hn (hK y hy.1))⟩).below (Below.refl _ _).drew
 have h3d := h3.below (Below.refl _ _).drew
 obtain ⟨ms, hml, hmV, hmE⟩ := m3
 have s3 : w3.drew.cell? ⟨w.heap.size, 2, none⟩ = some (.int .i64 i) /\ w3.drew.cell? ⟨w.heap.size, 3, none⟩ = some (.int .i64 g) := ⟨r3.at_ 2, r3.at_ 3⟩
 have HV := hi_ (And.intro hmV (And.intro hmE hml))
 have HG := hi_ G3
 have HO : Hid (∀ v4 w4, w4.ownsRow w1.heap.size 143 2 v4 (ps.length + mn) (vs ++ ms) -> w3.drew.grownBy w4 (Value.slice PA ps.length pc).ownBlock -> (v4.ownBlock = (Value.slice PA ps.length pc).ownBlock \/ v4.ownBlock = some w3.drew.heap.size) ->
   ∃ A4 c4, v4 = .slice A4 (ps.length + mn) c4 /\ (w4.cell? ⟨w.heap.size, 2, none⟩ = some (.int .i64 i) /\ w4.cell? ⟨w.heap.size, 3, none⟩ = some (.int .i64 g)) /\
   Calls Tryz.prog 58 #[.pointer (some ⟨x.p, 0, none⟩), .agg #[.int .i64 i, .int .i64 g], .int .i64 (n2 : Int), .slice A4 (ps.length + mn) c4] w4 fun e w' => e = .returned (.tuple #[]) /\ (∃ gr' pt', CoJ 0 w' N gr' x (k.move x (i, g) n r t n2 s2 (ps ++ more)) (c + 3) pt' /\ TGo w gr w' gr') /\ Rec 88 w' w.heap.size (enC n r i g (some ⟨q, 0, none⟩))) := hi_ (fun v4 w4 ho4 hg4 hv4 => by
  have hF4 : Fr (fun y => (Value.slice PA ps.length pc).ownBlock = some y) w3.drew w4 := Fr.grown hg4 (fun y hy => hy)
  have G4 := G3.puts EP.ok (w' := w4) (v' := v4) hmE (fun y hy e => by have := (own_geB G3.ow e).1; omega) (by rw [hml]; exact ho4) hg4 hv4
  obtain ⟨A4, c4, e4, _, _, hR⟩ := G4.rowsO EP.ok
  rw [List.length_append, hml] at e4 hR
  have vz : ∀ y, (Value.slice PA ps.length pc).ownBlock = some y -> gr3 y = 0 := fun y hy => by
   have hy1 := (own_geB hG2.ow hy)
   exact hG3.gr0 (hz y (by omega)) hy1.2
  have h4 := h3d.kept hF4 (fun y hy e => hy (vz y e))
  have hB4 : Below w.heap.size w3.drew w4 := hF4.toBelow (fun y hy => by have := (own_geB hG2.ow hy).1; omega) (Nat.le_trans (Nat.le_of_lt (by omega)) (Nat.le_trans hs2' hG3.fr.size))
  have c4e := hF4.block w.heap.size (show w.heap.size < w3.heap.size from r3.lt) (fun e => by have := (own_geB hG2.ow e).1; omega)
  refine ⟨A4, c4, e4, ⟨(World.cell?_of_block (w := w3.drew) (a := ⟨w.heap.size, 2, none⟩) c4e).trans (r3.at_ 2), (World.cell?_of_block (w := w3.drew) (a := ⟨w.heap.size, 3, none⟩) c4e).trans (r3.at_ 3)⟩, ?_⟩
  have hG4 : TGo w gr w4 gr3 := ⟨(hG03.fr.trans (Fr.drew _ w3)).trans' hF4 (fun y hy => .inr (by have := (own_geB hG2.ow hy).1; omega)), hG03.own⟩
  have hT4 : TabN N w4 := hT.low (hG4.toBelow h.lo h.Nle)
  refine (eadd_any h4 hT4 (by omega) hw hn2 (s := s2) hs2 hsl hsub hks hR (fun y hy => ?_) (by omega) c4).mono ?_
  ·rcases hy with (hy | hy) | hy
   ·exact hG3.gr0 (hz y (by have := hD2 y hy; omega)) (hG2.dx y hy).1
   ·exact hG03.gr0 (hK y hy.1.1) hy.1.2
   ·rcases hv4 with e | e
    ·exact vz y (e ▸ hy)
    ·rw [e] at hy
     injection hy with hy
     refine Classical.byContradiction fun hn => ?_
     have := h3.dom y hn
     rw [<- hy] at this
     exact Nat.lt_irrefl _ this
  ·rintro e w' ⟨rfl, gr', pt', h', hG'⟩
   exact ⟨rfl, ⟨gr', pt', h', hG4.trans hG'⟩, (Rec.block r3 c4e).tgo hG' (hG3.gr0 (hz _ (Nat.le_refl _)) R2.out.lt)⟩)
 have S3' := hi_ s3
 clear r1 hb1 hg0 hs1 h hw hn ht hr hmo hT hc hn2 hs2 hsl hsub hks hS hmn hm hK hpl hpl64 hG2 hD2 hb2 h3 hG3 hs2' hG03 hz r3 G3 h3d hmV hmE hml
 refine wp_region_noPanic ?_
 refine wp_region_held_drew (S := fun W => W.cell? ⟨w.heap.size, 2, none⟩ = some (.int .i64 i) /\ W.cell? ⟨w.heap.size, 3, none⟩ = some (.int .i64 g)) (by kernel_rfl) s3 (fun hHeld => ?_)
 refine tk_ 0 ⟨some 22, .move (.tmp 0), 29, "ecs.go:255", #[], none⟩ hHeld ?_
 simp only [Act.put, sA_, sB_, sC_]
 refine tk_ 1 ⟨some 23, .fieldAddr 88 (.tmp 5) 1, 0, "ecs.go:255", #[], none⟩ hHeld ?_
 simp only [Act.put, sA_, sB_, sC_]
 refine tk_ 2 ⟨some 24, .load 32 (.tmp 23), 32, "ecs.go:255", #[⟨1, .data⟩], none⟩ hHeld ?_
 simp only [Act.put, sA_, sB_, sC_]
 refine tk_ 3 ⟨some 25, .move (.tmp 2), 3, "ecs.go:255", #[], none⟩ hHeld ?_
 simp only [Act.put, sA_, sB_, sC_]
 refine tk_ 4 ⟨some 26, .move (.tmp 8), 91, "ecs.go:255", #[], none⟩ hHeld ?_
 simp only [Act.put, sA_, sB_, sC_]
 refine tk_ 5 ⟨some 27, .move (.tmp 3), 91, "ecs.go:255", #[], none⟩ hHeld ?_
 simp only [Act.put, sA_, sB_, sC_]
 refine wpAnyH_ready (rs := [6]) (by kernel_rfl) (by simp) ?_
 refine AllReadyH.cons (o := ⟨some 28, .call { callee := .builtin .append, args := #[.tmp 26, .tmp 27], argTypes := #[91, 91] }, 91, "ecs.go:255", #[⟨4, .data⟩, ⟨5, .data⟩], none⟩) rfl (fun K' hK => ?_) AllReadyH.nil
 refine step_appX partsTP rfl (.tmp 26) (.tmp 27) rfl w1.heap.size (.slice PA ps.length pc) ps.length vs rfl HG.out.ow MA mn mc ms rfl HV.out.1 (HV.out.2.1.one (fun y r hr => EP.one hr)) (by have := HP.out.2.2.2; have := HP.out.2.2.1; have := HM.out.2.2.2.2.2.2; omega) (by decide) HG.out.Bw ?_
 intro v4 w4 ho4 hg4 hv4
 obtain ⟨A4, c4, rfl, s4, CA⟩ := HO.out v4 w4 ho4 hg4 hv4
 have CA := hi_ CA
 clear ho4 hg4 hv4
 refine hK.out _ _ s4 (fun hHeld => ?_)
 clear hK K'
 try simp only [Act.put, sA_, sB_, sC_]
 refine wpAnyH_ready (rs := [7]) (by kernel_rfl) (by simp) ?_
 refine AllReadyH.cons (o := ⟨some 29, .call { callee := .value (.func 58), args := #[.tmp 22, .tmp 24, .tmp 25, .tmp 28], argTypes := #[29, 32, 3, 91] }, 0, "ecs.go:255", #[⟨0, .data⟩, ⟨2, .data⟩, ⟨3, .data⟩, ⟨6, .data⟩, ⟨6, .chain⟩], none⟩) rfl (fun K' hK => ?_) AllReadyH.nil
 go_simp
 go_at_call 58; refine CA.out.mono ?_; rintro e w5 ⟨rfl, ⟨gr5, pt5, h5, hG5⟩, r5⟩
 have s5 : w5.cell? ⟨w.heap.size, 2, none⟩ = some (.int .i64 i) /\ w5.cell? ⟨w.heap.size, 3, none⟩ = some (.int .i64 g) := ⟨r5.at_ 2, r5.at_ 3⟩
 have H5 := hi_ (And.intro h5 hG5)
 clear h5 hG5 r5
 refine hK.out _ _ s5 (fun hHeld => ?_)
 clear hK K'
 try simp only [Act.put]
 refine wpAnyH_done (by kernel_rfl) ?_ _
 refine NoPanic.normal ?_
 clear s3 s4 s5 hHeld
 obtain ⟨h5, hG5⟩ := H5.out
 obtain ⟨sv, ed, b, _, hGA⟩ := h5.gph (by decide)
 have CL := hi_ (Len_any hGA)
 have c6 := h5.c6
 have hS : (k.move x (i, g) n r t n2 s2 (ps ++ more)).S.length <= 4096 := HM.out.2.2.2.2.2.1
 have d1 : decide (4096 < ((k.move x (i, g) n r t n2 s2 (ps ++ more)).S.length : Int)) = false := decide_eq_false (by omega)
 have d2 : decide (4096 < (k.move x (i, g) n r t n2 s2 (ps ++ more)).S.length) = false := decide_eq_false (by omega)
 obtain ⟨ln, hln⟩ : ∃ ln : Nat, ln = (k.move x (i, g) n r t n2 s2 (ps ++ more)).S.length := ⟨_, rfl⟩
 rw [<- hln] at CL d1 d2
 clear h5 hG5 hGA hS hln
 go_wp2_with (go_at_call 119; refine CL.out.mono ?_; rintro e w' ⟨rfl, rfl⟩)
 go_end0
 exact ⟨rfl, gr5, pt5, H5.out⟩
end
end Go.Proofs.YtaoinkjjmakhaaaGreatDoor
namespace Go.Proofs.YtaoinkjjmakhaaaGreatDoor
open Go.RowKit
theorem within_any (n lo hi : Int) (w : World) :
    Calls Tryz.prog 72 #[.int .i64 n, .int .i64 lo, .int .i64 hi] w fun e w' => e = .returned (.bool (decide (lo <= n /\ n <= hi))) /\ w = w' := by
  by_cases h1 : lo <= n
  · by_cases h2 : n <= hi
    all_goals
      go_enter Tryz.func72, Tryz.ntmps72
      go_wp2
      go_ret
      exact ⟨ret_bool (by simp <;> omega), rfl⟩
  · go_enter Tryz.func72, Tryz.ntmps72
    go_wp2
    go_ret
    exact ⟨ret_bool (by simp <;> omega), rfl⟩
theorem plain_any (b : UInt8) (w : World) :
    Calls Tryz.prog 165 #[.int .u8 (b.toNat : Int)] w fun e w' => e = .returned (.bool (plainN b)) /\ w = w' := by
  unfold plainN
  obtain ⟨x, hx⟩ : ∃ x, x = b.toNat := ⟨_, rfl⟩
  rw [<- hx]
  clear hx
  by_cases h1 : 97 <= x <;> by_cases h2 : x <= 122 <;> by_cases h3 : 48 <= x <;> by_cases h4 : x <= 57 <;> by_cases h5 : x = 95 <;> first
  | omega
  | (go_enter Tryz.func165, Tryz.ntmps165
     go_wp2
     go_ret
     exact ⟨ret_bool (by first | rfl | (rw [Bool.eq_iff_iff]; simp <;> omega)), rfl⟩)
end Go.Proofs.YtaoinkjjmakhaaaGreatDoor
namespace Go.Proofs.YtaoinkjjmakhaaaGreatDoor
open Go.RowKit
theorem bytes_at (s : ByteArray) (j : Nat) (h : j < s.size) : s.data.toList.take (j + 1) = s.data.toList.take j ++ [s[j]] := by
  have hl : j < s.data.toList.length := by simpa using h
  rw [List.take_succ_eq_append_getElem hl]
  rfl
theorem allP (s : ByteArray) (j : Nat) (h : j < s.size) : (s.data.toList.take (j + 1)).all plainN = ((s.data.toList.take j).all plainN && plainN s[j]) := by
  rw [bytes_at s j h, List.all_append]
  simp
theorem all_of_take (s : ByteArray) (j : Nat) (h : (s.data.toList.take j).all plainN = false) : s.data.toList.all plainN = false := by
  rw [List.all_eq_false] at h ⊢
  obtain ⟨x, hx, hp⟩ := h
  exact ⟨x, List.mem_of_mem_take hx, hp⟩
theorem CName_any (s : ByteArray) (w : World) (hs : s.size <= 9223372036854775807) :
    Calls Tryz.prog 127 #[.string s] w fun e w' => e = .returned (.bool (nameB s)) /\ w = w' := by
  by_cases h : 1 <= s.size /\ s.size <= 16
  · have hd : decide ((1 : Int) <= (s.size : Int) /\ (s.size : Int) <= 16) = true := by simp; omega
    have hn : nameB s = s.data.toList.all plainN := by simp [nameB, h]
    have HN := hi_ hn
    have HD := hi_ hd
    clear hn hd
    go_enter Tryz.func127, Tryz.ntmps127
    go_wp2_with (go_at_call 72; refine (within_any _ _ _ _).mono ?_; rintro e w' ⟨rfl, rfl⟩; rw [HD.out])
    go_loop [10, 3] (fun i _ => ∃ j : Nat, j <= s.size /\ i = .int .i64 j /\ (s.data.toList.take j).all plainN = true) (fun i _ => s.size - (intOf i).toNat)
    case atStart => exact ⟨0, Nat.zero_le _, rfl, rfl⟩
    case round =>
      obtain ⟨j, hj, rfl, hall⟩ := hrel
      by_cases hlt : j < s.size
      · have hp := allP s j hlt
        rw [hall, Bool.true_and] at hp
        have HA := hi_ hall
        clear hall
        cases hpl : plainN s[j]
        · rw [hpl] at hp
          have HP := hi_ (all_of_take s _ hp)
          have HL := hi_ hpl
          clear hp hpl
          go_wp2_with (go_at_call 165; refine (plain_any s[j] _).mono ?_; rintro e w' ⟨rfl, rfl⟩; rw [HL.out])
          go_ret
          exact ⟨ret_bool (by rw [HN.out, HP.out]), rfl⟩
        · rw [hpl] at hp
          have HP := hi_ hp
          have HL := hi_ hpl
          clear hp hpl
          go_wp2_with (go_at_call 165; refine (plain_any s[j] _).mono ?_; rintro e w' ⟨rfl, rfl⟩; rw [HL.out])
          go_round
          case rel => exact ⟨j + 1, hlt, by go_num, HP.out⟩
          case measure => simp [intOf]; omega
      · go_wp2
        go_ret
        refine ⟨ret_bool ?_, rfl⟩
        rw [HN.out, <- hall, List.take_of_length_le (by simp; omega)]
  · have hd : decide ((1 : Int) <= (s.size : Int) /\ (s.size : Int) <= 16) = false := by simp; omega
    have hn : nameB s = false := by simp [nameB]; omega
    rw [hn]
    clear hn h
    go_enter Tryz.func127, Tryz.ntmps127
    go_wp2_with (go_at_call 72; refine (within_any _ _ _ _).mono ?_; rintro e w' ⟨rfl, rfl⟩; rw [hd])
    go_ret
    exact ⟨rfl, rfl⟩
theorem RName_any (s : ByteArray) (w : World) (hs : s.size <= 9223372036854775807) :
    Calls Tryz.prog 22 #[.string s] w fun e w' => e = .returned (.bool (nameB s)) /\ ∃ n, w' = w.drewN n := by
  go_enter Tryz.func22, Tryz.ntmps22
  go_wp2
  go_loopw [3] (fun i wr => ∃ j n : Nat, j <= s.size /\ i = .int .i64 j /\ (s.data.toList.take j).all plainN = true /\ wr = w.drewN n) (fun i _ => s.size - (intOf i).toNat)
  case atStart => exact ⟨0, 0, Nat.zero_le _, rfl, rfl, rfl⟩
  case round =>
    obtain ⟨j, n, hj, rfl, hall, rfl⟩ := hrel
    by_cases hlt : j < s.size
    · have hp := allP s j hlt
      rw [hall, Bool.true_and] at hp
      have HA := hi_ hall
      clear hall
      have hlt' : (j : Int) < (s.size : Int) := by omega
      have hpl : plainN s[j] = (decide (97 <= s[j].toNat /\ s[j].toNat <= 122) || decide (48 <= s[j].toNat /\ s[j].toNat <= 57) || decide (s[j].toNat = 95)) := rfl
      by_cases h1 : (97 : Int) <= (s[j].toNat : Int) <;> by_cases h2 : (s[j].toNat : Int) <= 122 <;> by_cases h3 : (48 : Int) <= (s[j].toNat : Int) <;> by_cases h4 : (s[j].toNat : Int) <= 57 <;> by_cases h5 : (s[j].toNat : Int) = 95 <;> first
      | (exfalso; omega)
      | (have hv : plainN s[j] = true := by rw [hpl]; simp; omega
         (first | have e1 : decide ((97 : Int) <= (s[j].toNat : Int)) = true := decide_eq_true h1 | (have e1 : decide ((97 : Int) <= (s[j].toNat : Int)) = false := decide_eq_false h1; clear h1))
         (first | have e2 : decide ((s[j].toNat : Int) <= 122) = true := decide_eq_true h2 | (have e2 : decide ((s[j].toNat : Int) <= 122) = false := decide_eq_false h2; clear h2))
         (first | have e3 : decide ((48 : Int) <= (s[j].toNat : Int)) = true := decide_eq_true h3 | (have e3 : decide ((48 : Int) <= (s[j].toNat : Int)) = false := decide_eq_false h3; clear h3))
         (first | have e4 : decide ((s[j].toNat : Int) <= 57) = true := decide_eq_true h4 | (have e4 : decide ((s[j].toNat : Int) <= 57) = false := decide_eq_false h4; clear h4))
         (first | have e5 : decide ((s[j].toNat : Int) = 95) = true := decide_eq_true h5 | (have e5 : decide ((s[j].toNat : Int) = 95) = false := decide_eq_false h5; have g5 : ((s[j].toNat : Int) != 95) = true := bne_iff_ne.2 h5; clear h5))
         rw [hv] at hp
         have HP := hi_ hp
         clear hp hpl hv
         go_wp2
         go_quiet (fail)
         go_wp2
         go_roundw
         case rel => exact ⟨j + 1, _, hlt, by go_num, HP.out, rfl⟩
         case measure => simp [intOf]; omega)
      | (have hv : plainN s[j] = false := by rw [hpl]; simp; omega
         (first | have e1 : decide ((97 : Int) <= (s[j].toNat : Int)) = true := decide_eq_true h1 | (have e1 : decide ((97 : Int) <= (s[j].toNat : Int)) = false := decide_eq_false h1; clear h1))
         (first | have e2 : decide ((s[j].toNat : Int) <= 122) = true := decide_eq_true h2 | (have e2 : decide ((s[j].toNat : Int) <= 122) = false := decide_eq_false h2; clear h2))
         (first | have e3 : decide ((48 : Int) <= (s[j].toNat : Int)) = true := decide_eq_true h3 | (have e3 : decide ((48 : Int) <= (s[j].toNat : Int)) = false := decide_eq_false h3; clear h3))
         (first | have e4 : decide ((s[j].toNat : Int) <= 57) = true := decide_eq_true h4 | (have e4 : decide ((s[j].toNat : Int) <= 57) = false := decide_eq_false h4; clear h4))
         (first | have e5 : decide ((s[j].toNat : Int) = 95) = true := decide_eq_true h5 | (have e5 : decide ((s[j].toNat : Int) = 95) = false := decide_eq_false h5; have g5 : ((s[j].toNat : Int) != 95) = true := bne_iff_ne.2 h5; clear h5))
         rw [hv] at hp
         have HP := hi_ (all_of_take s _ hp)
         clear hp hpl hv
         go_wp2
         go_quiet (fail)
         go_wp2
         go_ret
         exact ⟨ret_bool (by simp [nameB, HP.out]), _, rfl⟩)
    · have hn : nameB s = decide (1 <= s.size /\ s.size <= 16) := by
        rw [List.take_of_length_le (by simp; omega)] at hall
        simp [nameB, hall]
      have HN := hi_ hn
      clear hn hall
      by_cases h1 : 1 <= s.size
      · have e1 : decide ((1 : Int) <= (s.size : Int)) = true := by simp; omega
        go_wp2
        go_ret
        exact ⟨ret_bool (by rw [HN.out, Bool.eq_iff_iff]; simp <;> omega), _, rfl⟩
      · have e1 : decide ((1 : Int) <= (s.size : Int)) = false := by simp; omega
        go_wp2
        go_ret
        exact ⟨ret_bool (by rw [HN.out, Bool.eq_iff_iff]; simp <;> omega), _, rfl⟩
end Go.Proofs.YtaoinkjjmakhaaaGreatDoor
