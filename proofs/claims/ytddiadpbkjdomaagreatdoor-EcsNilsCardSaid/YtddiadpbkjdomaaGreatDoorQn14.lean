/- EcE -/
import Derived.Test.YtddiadpbkjdomaaGreatDoorQn13
namespace Go.Proofs.YtddiadpbkjdomaaGreatDoor
open Go.RowKit
set_option maxRecDepth 20000

/-- A row goes: the last one takes its place. -/
def Tb.lastR (t : Tb) : En := t.rows.getD (t.rows.length - 1) noEn
def Tb.dropR (t : Tb) (r : Nat) : Tb := ⟨t.cs, (t.rows.set r t.lastR).take (t.rows.length - 1)⟩
theorem Tb.go4 (t : Tb) {r : Nat} (hr : r < t.rows.length) (id : Int × Int) (ps : List Pt) (comp : Int) (b : List UInt8) :
    t.go ⟨4, id, ps, (r : Int), comp, b⟩ = (t.dropR r, if r = t.rows.length - 1 then .e 0 else { Tl.e 0 with id := t.lastR.1, ok := true }) := by
  unfold Tb.go Tb.dropR Tb.lastR
  simp only
  rw [if_neg (by decide), if_pos ⟨Int.natCast_nonneg _, by omega⟩, if_neg (by decide), if_pos trivial]
  simp
theorem Tb.dropR_len (t : Tb) (r : Nat) : (t.dropR r).rows.length = t.rows.length - 1 := by
  unfold Tb.dropR
  simp
/-- An entity goes out of row r of the table t of node n. -/
def Ks.drop (k : Ks) (id : Int × Int) (n r : Nat) (t : Tb) : Ks :=
  { k with pl := fun j => if j = id then none else if r ≠ t.rows.length - 1 ∧ j = t.lastR.1 then some (n, r) else k.pl j, tb := upd k.tb n (if t.rows.length = 1 then none else some (t.dropR r)) }
section
variable {w : World} {N : Nat} {gr : Nat → Nat} {x : Fx} {k : Ks} {c : Nat} {pt : Nat → Nat}
theorem CoJ.eq {k' : Ks} {j : Nat} (h : CoJ j w N gr x k c pt) (e : k = k') : CoJ j w N gr x k' c pt := e ▸ h
theorem plF_del (pl : Int × Int → Option (Nat × Nat)) (id j : Int × Int) : (if j = id then none else plF pl j) = plF (fun j => if j = id then none else pl j) j := by
  unfold plF
  by_cases e : j = id
  · simp only [if_pos e, Option.map_none]
  · simp only [if_neg e]
/-- What a delete of a place leaves. -/
theorem CoJ.del_pl (h : CoJ 0 w N gr x k c pt) (id : Int × Int) : ∃ np, MapP w x.mp np (plF k.pl) ∧ ∀ w', MapP w' x.mp (if (plF k.pl id).isSome = true then np - 1 else np) (fun j => if j = id then none else plF k.pl j) → w.grownBy w' (some x.mp) →
    ∃ gr', CoJ 0 w' N gr' x { k with pl := fun j => if j = id then none else k.pl j } c pt ∧ TGo w gr w' gr' ∧ Fr (· = x.mp) w w' := by
  obtain ⟨np, hnp, hm⟩ := h.mpp (by decide)
  refine ⟨np, hm, fun w' hm' hg => ?_⟩
  obtain ⟨gr', h', hG⟩ := h.pl_go (pl' := fun j => if j = id then none else k.pl j) (hm'.congr (fun j _ => plF_del k.pl id j)) hg (show (if (plF k.pl id).isSome = true then np - 1 else np) ≤ c by split <;> omega) (Nat.le_refl c)
  exact ⟨gr', h', hG, Fr.grown hg (fun y e => by injection e with e; exact e.symm)⟩
/-- What a delete of a table leaves. -/
theorem CoJ.del_tb (h : CoJ 0 w N gr x k c pt) (n : Nat) : ∃ nt, MapT w x.mt nt (tbV k.tb pt) ∧ ∀ w', MapT w' x.mt (if (tbV k.tb pt n).isSome = true then nt - 1 else nt) (fun j => if j = n then none else tbV k.tb pt j) → w.grownBy w' (some x.mt) →
    ∃ gr', CoJ 0 w' N gr' x { k with tb := upd k.tb n none } c pt ∧ TGo w gr w' gr' ∧ Fr (· = x.mt) w w' := by
  obtain ⟨nt, hnt, hm⟩ := h.mpt (by decide)
  refine ⟨nt, hm, fun w' hm' hg => ?_⟩
  obtain ⟨gr', h', hG⟩ := h.tab_del hm' hg (show (if (tbV k.tb pt n).isSome = true then nt - 1 else nt) ≤ c by split <;> omega)
  exact ⟨gr', h', hG, Fr.grown hg (fun y e => by injection e with e; exact e.symm)⟩
/-- A block laid in this call stays under what the core's calls turn. -/
theorem Rec.tgo {T : TypeId} {g : Nat} {cs : Array Value} {w w' : World} {gr gr' : Nat → Nat} (h : Rec T w g cs) (hG : TGo w gr w' gr') (hg : gr g = 0) : Rec T w' g cs := h.fr hG.fr (fun e => e hg)

theorem edrop_A0 (h : CoJ 0 w N gr x k c pt) (hT : TabN N w) (hc : c ≤ 1000000) {i g : Int} (hw : okE (i, g)) {n r : Nat} (hn : okN n) {t : Tb} (ht : k.tb n = some t) (hr : r < t.rows.length) (hl : r = t.rows.length - 1) (h1l : t.rows.length = 1) :
    Calls Tryz.prog 93 #[.pointer (some ⟨x.p, 0, none⟩), .agg (enC n r i g (some ⟨pt n, 0, none⟩))] w fun e w' => e = .returned (.tuple #[]) ∧ ∃ gr', CoJ 0 w' N gr' x (k.drop (i, g) n r t) (c + 1) pt ∧ TGo w gr w' gr' := by
  obtain ⟨w1, hw1⟩ : ∃ w1, w1 = w.alloc (.cells (enC n r i g (some ⟨pt n, 0, none⟩)) 110) := ⟨_, rfl⟩
  have hb1 : Below w.heap.size w w1 := by rw [hw1]; exact (Below.refl _ _).alloc (Nat.le_refl _) _
  have r1 : Rec 110 w1 w.heap.size (enC n r i g (some ⟨pt n, 0, none⟩)) := by rw [hw1]; exact Rec.new w _ _
  have h1 := h.below hb1
  obtain ⟨mi, mg, hmv⟩ : ∃ mi mg, t.lastR.1 = (mi, mg) := ⟨_, _, rfl⟩
  obtain ⟨q, hq⟩ : ∃ q : Nat, q = pt n := ⟨_, rfl⟩
  rw [← hq] at r1
  obtain ⟨s, tag, m, v, qq, hs, hA, hg⟩ := h1.tab n t (by omega) ht
  have CD : Hid (Calls Tryz.prog 144 #[.pointer (some ⟨q, 0, none⟩), .int .i64 (r : Nat)] w1 fun e w' => e = .returned (.tuple #[.agg #[.int .i64 0, .int .i64 0], .bool false, .int .i64 0]) ∧ ∃ gr', CoJ 0 w' N gr' x { k with tb := upd k.tb n (some (t.dropR r)) } c pt ∧ TGo w1 gr w' gr') := Lib.hid (by
    rw [hq]
    refine (TDrop_go hA (hT.below h hb1).2 (0, 0) [] (r : Int) 0 []).mono ?_
    rintro e w' ⟨y, hy, _, _, rfl, hS⟩
    rw [Tb.go4 t hr] at hy hS
    simp only [if_pos hl] at hy
    subst hy
    exact ⟨rfl, h1.tab_go ht hs hg hS⟩)
  have k0 := r1.at_ 0
  have k1 := r1.at_ 1
  have k4 := r1.at_ 4
  have hg0 : gr w.heap.size = 0 := Classical.byContradiction fun hh => by have := h.dom _ hh; omega
  have hmp : x.mp < w.heap.size := h.dom _ (by rw [h.gm]; decide)
  have hmt : x.mt < w.heap.size := h.dom _ (by rw [h.gt]; decide)
  have H1 := Lib.hid (And.intro r1 (And.intro hb1 (And.intro hg0 (And.intro hmp hmt))))
  have HN := Lib.hid (And.intro hn (And.intro hw (And.intro hc (And.intro hr hl))))
  have HX := Lib.hid h1l
  rw [← hq]
  rw [← hq] at hw1
  have HQ := Lib.hid hq
  have HMV := Lib.hid hmv
  clear h h1 hb1 r1 hA hg hT hs hw hn ht hr hc hq hmv hl hg0 hmp hmt h1l
  go_enter Tryz.func93, Tryz.ntmps93
  go_upto_region 2 with (first
    | (rw [← hw1]; clear hw1)
    | (go_at_call 144; refine CD.out.mono ?_; rintro e w2 ⟨rfl, gr2, h2, hG2⟩; obtain ⟨w3, hw3⟩ : ∃ w3, w3 = w2.alloc (.cells #[.int .i64 0, .int .i64 0] 39) := ⟨_, rfl⟩; have R3 := Lib.hid (show Rec 39 w3 w2.heap.size #[.int .i64 0, .int .i64 0] by rw [hw3]; exact Rec.new w2 _ _); have HB3 := Lib.hid (show Below w2.heap.size w2 w3 by rw [hw3]; exact (Below.refl _ _).alloc (Nat.le_refl _) _); have H2 := Lib.hid (And.intro h2 hG2); clear h2 hG2 k0 k1 k4 CD)
    | (rw [← hw3]; clear hw3)
    | ((with_reducible refine wpList_stP rfl (.tmp 4) (.tmp 14) rfl rfl rfl R3.out ?_); intro w4 hR4 hF4; have HR4 := Lib.hid (And.intro hR4 hF4); clear hR4 hF4))
  obtain ⟨r1, hb1, hg0, hmp, hmt⟩ := H1.out
  obtain ⟨hn, hw, hc, hr, hl⟩ := HN.out
  obtain ⟨h2, hG2⟩ := H2.out
  obtain ⟨hR4, hF4⟩ := HR4.out
  have hb4 : Below w2.heap.size w2 w4 := HB3.out.trans (hF4.toBelow (fun y hy => by rw [show y = w2.heap.size from hy]; exact Nat.le_refl _) HB3.out.size)
  have h4 := h2.below hb4
  have hG4 : TGo w1 gr w4 gr2 := hG2.trans (TGo.ofBelow hb4)
  have r4 := r1.tgo hG4 hg0
  have hd := h4.below (Below.refl _ _).drew
  obtain ⟨np, hm6, hE6⟩ := hd.del_pl (i, g)
  have s6 : (w4.drew.cell? ⟨x.p, 8, none⟩ = some (.map (some x.mp)) ∧ w4.drew.cell? ⟨w.heap.size, 2, none⟩ = some (.int .i64 i) ∧ w4.drew.cell? ⟨w.heap.size, 3, none⟩ = some (.int .i64 g)) := ⟨hd.c8, r4.at_ 2, r4.at_ 3⟩
  have HE6 := Lib.hid (show ∀ w6, MapP w6 x.mp (if (plF _ (i, g)).isSome = true then np - 1 else np) (fun j => if j = (i, g) then none else plF _ j) → (w4.drew).grownBy w6 (some x.mp) → ∃ gr6, CoJ 0 w6 N gr6 x _ _ pt ∧ TGo w1 gr w6 gr6 ∧ Rec 110 w6 w.heap.size (enC n r i g (some ⟨q, 0, none⟩)) from fun w6 hm hg => by
    obtain ⟨gr6, h6, hG6, hF6⟩ := hE6 w6 hm hg
    exact ⟨gr6, h6, hG4.trans ((TGo.ofBelow (Below.refl _ _).drew).trans hG6), Rec.fr (w := w4.drew) r4 hF6 (fun e => by have e' : w.heap.size = x.mp := e; omega)⟩)
  have HM6 := Lib.hid hm6
  have HW6 := Lib.hid hw
  clear hd hE6 hm6 r1 hb1 hg0 hmp hmt hn hw hr hl hc h2 hG2 h4 hG4 r4 hR4 hF4 hb4 H2 HR4 R3 HB3
  go_upto_region 4 with fail
  refine wp_region_noPanic ?_
  refine wp_region_held_drew (S := fun W => (W.cell? ⟨x.p, 8, none⟩ = some (.map (some x.mp)) ∧ W.cell? ⟨w.heap.size, 2, none⟩ = some (.int .i64 i) ∧ W.cell? ⟨w.heap.size, 3, none⟩ = some (.int .i64 g))) (by kernel_rfl) s6 (fun hHeld => ?_)
  refine wpAnyH_take (i := 0) (oi := { dst := some 25, op := Op.move (Operand.tmp 0), type := 30, pos := "ecs.go:245", after := #[], guard := none }) (v := ?_) rfl (by kernel_rfl) (by kernel_rfl) (by kernel_rfl) (fun _ _ _ h => h) (Or.inl ⟨by rfl, ?_⟩) (by assumption) ?_
  rotate_left 1
  · intro w' hSw; (try dsimp only at hSw); go_simp; (try with_reducible rfl)
  simp only [Act.put, List.setIfInBounds_toArray, List.set_cons_zero, List.set_cons_succ]
  refine wpAnyH_take (i := 1) (oi := { dst := some 26, op := Op.nilCheck (Operand.tmp 25), type := 0, pos := "ecs.go:245", after := #[{ on := 0, ground := Ground.data }], guard := none }) (v := ?_) rfl (by kernel_rfl) (by kernel_rfl) (by kernel_rfl) (fun _ _ _ h => h) (Or.inl ⟨by rfl, ?_⟩) (by assumption) ?_
  rotate_left 1
  · intro w' hSw; (try dsimp only at hSw); go_simp; (try with_reducible rfl)
  simp only [Act.put, List.setIfInBounds_toArray, List.set_cons_zero, List.set_cons_succ]
  refine wpAnyH_take (i := 2) (oi := { dst := some 27, op := Op.fieldAddr 88 (Operand.tmp 26) 4, type := 0, pos := "ecs.go:245", after := #[{ on := 1, ground := Ground.data }], guard := none }) (v := ?_) rfl (by kernel_rfl) (by kernel_rfl) (by kernel_rfl) (fun _ _ _ h => h) (Or.inl ⟨by rfl, ?_⟩) (by assumption) ?_
  rotate_left 1
  · intro w' hSw; (try dsimp only at hSw); go_simp; (try with_reducible rfl)
  simp only [Act.put, List.setIfInBounds_toArray, List.set_cons_zero, List.set_cons_succ]
  refine wpAnyH_take (i := 3) (oi := { dst := some 28, op := Op.load 86 (Operand.tmp 27), type := 86, pos := "ecs.go:245", after := #[{ on := 2, ground := Ground.data }], guard := none }) (v := ?_) rfl (by kernel_rfl) (by kernel_rfl) (by kernel_rfl) (fun _ _ _ h => h) (Or.inl ⟨by rfl, ?_⟩) (by assumption) ?_
  rotate_left 1
  · intro w' hSw; (try dsimp only at hSw); go_simp; (try with_reducible rfl)
  simp only [Act.put, List.setIfInBounds_toArray, List.set_cons_zero, List.set_cons_succ]
  refine wpAnyH_take (i := 4) (oi := { dst := some 29, op := Op.fieldAddr 110 (Operand.tmp 3) 1, type := 0, pos := "ecs.go:245", after := #[], guard := none }) (v := ?_) rfl (by kernel_rfl) (by kernel_rfl) (by kernel_rfl) (fun _ _ _ h => h) (Or.inl ⟨by rfl, ?_⟩) (by assumption) ?_
  rotate_left 1
  · intro w' hSw; (try dsimp only at hSw); go_simp; (try with_reducible rfl)
  simp only [Act.put, List.setIfInBounds_toArray, List.set_cons_zero, List.set_cons_succ]
  refine wpAnyH_take (i := 5) (oi := { dst := some 30, op := Op.load 39 (Operand.tmp 29), type := 39, pos := "ecs.go:245", after := #[{ on := 4, ground := Ground.data }], guard := none }) (v := ?_) rfl (by kernel_rfl) (by kernel_rfl) (by kernel_rfl) (fun _ _ _ h => h) (Or.inl ⟨by rfl, ?_⟩) (by assumption) ?_
  rotate_left 1
  · intro w' hSw; (try dsimp only at hSw); go_simp; (try with_reducible rfl)
  simp only [Act.put, List.setIfInBounds_toArray, List.set_cons_zero, List.set_cons_succ]
  refine wpAnyH_ready (rs := [6]) (by kernel_rfl) (by simp) ?_
  refine AllReadyH.cons (o := { dst := none, op := Op.call { callee := Callee.builtin Builtin.delete, args := #[Operand.tmp 28, Operand.tmp 30], argTypes := #[86, 39] }, type := 0, pos := "ecs.go:245", after := #[{ on := 3, ground := Ground.data }, { on := 5, ground := Ground.data }], guard := none }) rfl (fun K' hK => ?_) AllReadyH.nil
  refine step_dropE kfD Tryz.underlying86 (by rfl) (.tmp 28) (.tmp 30) rfl HM6.out (i, g) HW6.out rfl rfl ?_
  intro w6 hm6 hg6
  obtain ⟨gr6, h6, hG6, r6⟩ := HE6.out w6 hm6 hg6
  have s7 : (w6.cell? ⟨x.p, 8, none⟩ = some (.map (some x.mp)) ∧ w6.cell? ⟨w.heap.size, 2, none⟩ = some (.int .i64 i) ∧ w6.cell? ⟨w.heap.size, 3, none⟩ = some (.int .i64 g)) := ⟨h6.c8, r6.at_ 2, r6.at_ 3⟩
  have H6 := Lib.hid (And.intro h6 (And.intro hG6 r6))
  clear hm6 hg6 h6 hG6 r6
  refine hK.out _ _ s7 (fun hHeld => ?_)
  clear hK K'
  try simp only [Act.put]
  refine wpAnyH_done (by kernel_rfl) ?_ _
  refine NoPanic.normal ?_
  clear s6 s7 hHeld HE6 HM6 HW6
  obtain ⟨h6, hG6, r6⟩ := H6.out
  have k64 := r6.at_ 4
  obtain ⟨s8, tag8, m8, v8, q8, hs8, hA8, hg8⟩ := h6.tab n (t.dropR r) (by omega) (if_pos rfl)
  have CL : Hid (Calls Tryz.prog 134 #[.pointer (some ⟨q, 0, none⟩)] w6 fun e w' => e = .returned (.int .i64 0) ∧ w6 = w') := Lib.hid (by
    have := tlen_any hA8.i
    rw [Tb.ids_len, Tb.dropR_len, ← HQ.out] at this
    rw [HX.out] at this; exact this)
  clear h6 hG6 r6 hs8 hA8 hg8
  go_upto_region 6 with (go_at_call 134; refine CL.out.mono ?_; rintro e w' ⟨rfl, rfl⟩; clear k64)
  obtain ⟨r1, hb1, hg0, hmp, hmt⟩ := H1.out
  obtain ⟨hn, hw, hc, hr, hl⟩ := HN.out
  obtain ⟨h6, hG6, r6⟩ := H6.out
  have hd := h6.below (Below.refl _ _).drew
  obtain ⟨nt, hm7, hE7⟩ := hd.del_tb n
  have s6 : (w6.drew.cell? ⟨x.p, 7, none⟩ = some (.map (some x.mt)) ∧ w6.drew.cell? ⟨w.heap.size, 0, none⟩ = some (.int .i64 (n : Int))) := ⟨hd.c7, r6.at_ 0⟩
  have HE7 := Lib.hid (show ∀ w7, MapT w7 x.mt (if (tbV _ pt n).isSome = true then nt - 1 else nt) (fun j => if j = n then none else tbV _ pt j) → (w6.drew).grownBy w7 (some x.mt) → ∃ gr7, CoJ 0 w7 N gr7 x _ _ pt ∧ TGo w1 gr w7 gr7 ∧ Rec 110 w7 w.heap.size (enC n r i g (some ⟨q, 0, none⟩)) from fun w7 hm hg => by
    obtain ⟨gr7, h7, hG7, hF7⟩ := hE7 w7 hm hg
    exact ⟨gr7, h7, hG6.trans ((TGo.ofBelow (Below.refl _ _).drew).trans hG7), Rec.fr (w := w6.drew) r6 hF7 (fun e => by have e' : w.heap.size = x.mt := e; omega)⟩)
  have HM7 := Lib.hid hm7
  clear hd hE7 hm7 r1 hb1 hg0 hmp hmt hn hw hr hl hc h6 hG6 r6 H6 CL
  refine wp_region_noPanic ?_
  refine wp_region_held_drew (S := fun W => (W.cell? ⟨x.p, 7, none⟩ = some (.map (some x.mt)) ∧ W.cell? ⟨w.heap.size, 0, none⟩ = some (.int .i64 (n : Int)))) (by kernel_rfl) s6 (fun hHeld => ?_)
  refine wpAnyH_take (i := 0) (oi := { dst := some 35, op := Op.move (Operand.tmp 0), type := 30, pos := "ecs.go:247", after := #[], guard := none }) (v := ?_) rfl (by kernel_rfl) (by kernel_rfl) (by kernel_rfl) (fun _ _ _ h => h) (Or.inl ⟨by rfl, ?_⟩) (by assumption) ?_
  rotate_left 1
  · intro w' hSw; (try dsimp only at hSw); go_simp; (try with_reducible rfl)
  simp only [Act.put, List.setIfInBounds_toArray, List.set_cons_zero, List.set_cons_succ]
  refine wpAnyH_take (i := 1) (oi := { dst := some 36, op := Op.nilCheck (Operand.tmp 35), type := 0, pos := "ecs.go:247", after := #[{ on := 0, ground := Ground.data }], guard := none }) (v := ?_) rfl (by kernel_rfl) (by kernel_rfl) (by kernel_rfl) (fun _ _ _ h => h) (Or.inl ⟨by rfl, ?_⟩) (by assumption) ?_
  rotate_left 1
  · intro w' hSw; (try dsimp only at hSw); go_simp; (try with_reducible rfl)
  simp only [Act.put, List.setIfInBounds_toArray, List.set_cons_zero, List.set_cons_succ]
  refine wpAnyH_take (i := 2) (oi := { dst := some 37, op := Op.fieldAddr 88 (Operand.tmp 36) 3, type := 0, pos := "ecs.go:247", after := #[{ on := 1, ground := Ground.data }], guard := none }) (v := ?_) rfl (by kernel_rfl) (by kernel_rfl) (by kernel_rfl) (fun _ _ _ h => h) (Or.inl ⟨by rfl, ?_⟩) (by assumption) ?_
  rotate_left 1
  · intro w' hSw; (try dsimp only at hSw); go_simp; (try with_reducible rfl)
  simp only [Act.put, List.setIfInBounds_toArray, List.set_cons_zero, List.set_cons_succ]
  refine wpAnyH_take (i := 3) (oi := { dst := some 38, op := Op.load 85 (Operand.tmp 37), type := 85, pos := "ecs.go:247", after := #[{ on := 2, ground := Ground.data }], guard := none }) (v := ?_) rfl (by kernel_rfl) (by kernel_rfl) (by kernel_rfl) (fun _ _ _ h => h) (Or.inl ⟨by rfl, ?_⟩) (by assumption) ?_
  rotate_left 1
  · intro w' hSw; (try dsimp only at hSw); go_simp; (try with_reducible rfl)
  simp only [Act.put, List.setIfInBounds_toArray, List.set_cons_zero, List.set_cons_succ]
  refine wpAnyH_take (i := 4) (oi := { dst := some 39, op := Op.fieldAddr 110 (Operand.tmp 3) 0, type := 0, pos := "ecs.go:247", after := #[], guard := none }) (v := ?_) rfl (by kernel_rfl) (by kernel_rfl) (by kernel_rfl) (fun _ _ _ h => h) (Or.inl ⟨by rfl, ?_⟩) (by assumption) ?_
  rotate_left 1
  · intro w' hSw; (try dsimp only at hSw); go_simp; (try with_reducible rfl)
  simp only [Act.put, List.setIfInBounds_toArray, List.set_cons_zero, List.set_cons_succ]
  refine wpAnyH_take (i := 5) (oi := { dst := some 40, op := Op.fieldAddr 107 (Operand.tmp 39) 0, type := 0, pos := "ecs.go:247", after := #[{ on := 4, ground := Ground.data }], guard := none }) (v := ?_) rfl (by kernel_rfl) (by kernel_rfl) (by kernel_rfl) (fun _ _ _ h => h) (Or.inl ⟨by rfl, ?_⟩) (by assumption) ?_
  rotate_left 1
  · intro w' hSw; (try dsimp only at hSw); go_simp; (try with_reducible rfl)
  simp only [Act.put, List.setIfInBounds_toArray, List.set_cons_zero, List.set_cons_succ]
  refine wpAnyH_take (i := 6) (oi := { dst := some 41, op := Op.load 3 (Operand.tmp 40), type := 3, pos := "ecs.go:247", after := #[{ on := 5, ground := Ground.data }], guard := none }) (v := ?_) rfl (by kernel_rfl) (by kernel_rfl) (by kernel_rfl) (fun _ _ _ h => h) (Or.inl ⟨by rfl, ?_⟩) (by assumption) ?_
  rotate_left 1
  · intro w' hSw; (try dsimp only at hSw); go_simp; (try with_reducible rfl)
  simp only [Act.put, List.setIfInBounds_toArray, List.set_cons_zero, List.set_cons_succ]
  refine wpAnyH_ready (rs := [7]) (by kernel_rfl) (by simp) ?_
  refine AllReadyH.cons (o := { dst := none, op := Op.call { callee := Callee.builtin Builtin.delete, args := #[Operand.tmp 38, Operand.tmp 41], argTypes := #[85, 3] }, type := 0, pos := "ecs.go:247", after := #[{ on := 3, ground := Ground.data }, { on := 6, ground := Ground.data }], guard := none }) rfl (fun K' hK => ?_) AllReadyH.nil
  refine step_dropE kfN Tryz.underlying85 (by rfl) (.tmp 38) (.tmp 41) rfl HM7.out n HN.out.1 rfl rfl ?_
  intro w7 hm7 hg7
  obtain ⟨gr7, h7, hG7, r7⟩ := HE7.out w7 hm7 hg7
  have s7 : (w7.cell? ⟨x.p, 7, none⟩ = some (.map (some x.mt)) ∧ w7.cell? ⟨w.heap.size, 0, none⟩ = some (.int .i64 (n : Int))) := ⟨h7.c7, r7.at_ 0⟩
  have H7 := Lib.hid (And.intro h7 hG7)
  clear hm7 hg7 h7 hG7 r7
  refine hK.out _ _ s7 (fun hHeld => ?_)
  clear hK K'
  try simp only [Act.put]
  refine wpAnyH_done (by kernel_rfl) ?_ _
  refine NoPanic.normal ?_
  clear s6 s7 hHeld
  go_wp2_with fail
  go_end0
  obtain ⟨r1, hb1, hg0, hmp, hmt⟩ := H1.out
  obtain ⟨hn, hw, hc, hr, hl⟩ := HN.out
  obtain ⟨h7, hG7⟩ := H7.out
  refine ⟨rfl, _, (h7.more (Nat.le_succ c)).eq ?_, (TGo.ofBelow hb1).trans hG7⟩
  unfold Ks.drop
  have h1l := HX.out
  congr 1
  · funext a
    unfold upd
    by_cases e : a = n
    · simp only [if_pos e, if_pos h1l]
    · simp only [if_neg e]
  · funext j
    by_cases e : j = (i, g)
    · simp only [if_pos e]
    · simp only [if_neg e]
      rw [if_neg (fun hh => hh.1 hl)]

theorem edrop_A1 (h : CoJ 0 w N gr x k c pt) (hT : TabN N w) (hc : c ≤ 1000000) {i g : Int} (hw : okE (i, g)) {n r : Nat} (hn : okN n) {t : Tb} (ht : k.tb n = some t) (hr : r < t.rows.length) (hl : r = t.rows.length - 1) (h1l : t.rows.length ≠ 1) :
    Calls Tryz.prog 93 #[.pointer (some ⟨x.p, 0, none⟩), .agg (enC n r i g (some ⟨pt n, 0, none⟩))] w fun e w' => e = .returned (.tuple #[]) ∧ ∃ gr', CoJ 0 w' N gr' x (k.drop (i, g) n r t) (c + 1) pt ∧ TGo w gr w' gr' := by
  obtain ⟨w1, hw1⟩ : ∃ w1, w1 = w.alloc (.cells (enC n r i g (some ⟨pt n, 0, none⟩)) 110) := ⟨_, rfl⟩
  have hb1 : Below w.heap.size w w1 := by rw [hw1]; exact (Below.refl _ _).alloc (Nat.le_refl _) _
  have r1 : Rec 110 w1 w.heap.size (enC n r i g (some ⟨pt n, 0, none⟩)) := by rw [hw1]; exact Rec.new w _ _
  have h1 := h.below hb1
  obtain ⟨mi, mg, hmv⟩ : ∃ mi mg, t.lastR.1 = (mi, mg) := ⟨_, _, rfl⟩
  obtain ⟨q, hq⟩ : ∃ q : Nat, q = pt n := ⟨_, rfl⟩
  rw [← hq] at r1
  obtain ⟨s, tag, m, v, qq, hs, hA, hg⟩ := h1.tab n t (by omega) ht
  have CD : Hid (Calls Tryz.prog 144 #[.pointer (some ⟨q, 0, none⟩), .int .i64 (r : Nat)] w1 fun e w' => e = .returned (.tuple #[.agg #[.int .i64 0, .int .i64 0], .bool false, .int .i64 0]) ∧ ∃ gr', CoJ 0 w' N gr' x { k with tb := upd k.tb n (some (t.dropR r)) } c pt ∧ TGo w1 gr w' gr') := Lib.hid (by
    rw [hq]
    refine (TDrop_go hA (hT.below h hb1).2 (0, 0) [] (r : Int) 0 []).mono ?_
    rintro e w' ⟨y, hy, _, _, rfl, hS⟩
    rw [Tb.go4 t hr] at hy hS
    simp only [if_pos hl] at hy
    subst hy
    exact ⟨rfl, h1.tab_go ht hs hg hS⟩)
  have k0 := r1.at_ 0
  have k1 := r1.at_ 1
  have k4 := r1.at_ 4
  have hg0 : gr w.heap.size = 0 := Classical.byContradiction fun hh => by have := h.dom _ hh; omega
  have hmp : x.mp < w.heap.size := h.dom _ (by rw [h.gm]; decide)
  have hmt : x.mt < w.heap.size := h.dom _ (by rw [h.gt]; decide)
  have H1 := Lib.hid (And.intro r1 (And.intro hb1 (And.intro hg0 (And.intro hmp hmt))))
  have HN := Lib.hid (And.intro hn (And.intro hw (And.intro hc (And.intro hr hl))))
  have HX := Lib.hid h1l
  rw [← hq]
  rw [← hq] at hw1
  have HQ := Lib.hid hq
  have HMV := Lib.hid hmv
  clear h h1 hb1 r1 hA hg hT hs hw hn ht hr hc hq hmv hl hg0 hmp hmt h1l
  go_enter Tryz.func93, Tryz.ntmps93
  go_upto_region 2 with (first
    | (rw [← hw1]; clear hw1)
    | (go_at_call 144; refine CD.out.mono ?_; rintro e w2 ⟨rfl, gr2, h2, hG2⟩; obtain ⟨w3, hw3⟩ : ∃ w3, w3 = w2.alloc (.cells #[.int .i64 0, .int .i64 0] 39) := ⟨_, rfl⟩; have R3 := Lib.hid (show Rec 39 w3 w2.heap.size #[.int .i64 0, .int .i64 0] by rw [hw3]; exact Rec.new w2 _ _); have HB3 := Lib.hid (show Below w2.heap.size w2 w3 by rw [hw3]; exact (Below.refl _ _).alloc (Nat.le_refl _) _); have H2 := Lib.hid (And.intro h2 hG2); clear h2 hG2 k0 k1 k4 CD)
    | (rw [← hw3]; clear hw3)
    | ((with_reducible refine wpList_stP rfl (.tmp 4) (.tmp 14) rfl rfl rfl R3.out ?_); intro w4 hR4 hF4; have HR4 := Lib.hid (And.intro hR4 hF4); clear hR4 hF4))
  obtain ⟨r1, hb1, hg0, hmp, hmt⟩ := H1.out
  obtain ⟨hn, hw, hc, hr, hl⟩ := HN.out
  obtain ⟨h2, hG2⟩ := H2.out
  obtain ⟨hR4, hF4⟩ := HR4.out
  have hb4 : Below w2.heap.size w2 w4 := HB3.out.trans (hF4.toBelow (fun y hy => by rw [show y = w2.heap.size from hy]; exact Nat.le_refl _) HB3.out.size)
  have h4 := h2.below hb4
  have hG4 : TGo w1 gr w4 gr2 := hG2.trans (TGo.ofBelow hb4)
  have r4 := r1.tgo hG4 hg0
  have hd := h4.below (Below.refl _ _).drew
  obtain ⟨np, hm6, hE6⟩ := hd.del_pl (i, g)
  have s6 : (w4.drew.cell? ⟨x.p, 8, none⟩ = some (.map (some x.mp)) ∧ w4.drew.cell? ⟨w.heap.size, 2, none⟩ = some (.int .i64 i) ∧ w4.drew.cell? ⟨w.heap.size, 3, none⟩ = some (.int .i64 g)) := ⟨hd.c8, r4.at_ 2, r4.at_ 3⟩
  have HE6 := Lib.hid (show ∀ w6, MapP w6 x.mp (if (plF _ (i, g)).isSome = true then np - 1 else np) (fun j => if j = (i, g) then none else plF _ j) → (w4.drew).grownBy w6 (some x.mp) → ∃ gr6, CoJ 0 w6 N gr6 x _ _ pt ∧ TGo w1 gr w6 gr6 ∧ Rec 110 w6 w.heap.size (enC n r i g (some ⟨q, 0, none⟩)) from fun w6 hm hg => by
    obtain ⟨gr6, h6, hG6, hF6⟩ := hE6 w6 hm hg
    exact ⟨gr6, h6, hG4.trans ((TGo.ofBelow (Below.refl _ _).drew).trans hG6), Rec.fr (w := w4.drew) r4 hF6 (fun e => by have e' : w.heap.size = x.mp := e; omega)⟩)
  have HM6 := Lib.hid hm6
  have HW6 := Lib.hid hw
  clear hd hE6 hm6 r1 hb1 hg0 hmp hmt hn hw hr hl hc h2 hG2 h4 hG4 r4 hR4 hF4 hb4 H2 HR4 R3 HB3
  go_upto_region 4 with fail
  refine wp_region_noPanic ?_
  refine wp_region_held_drew (S := fun W => (W.cell? ⟨x.p, 8, none⟩ = some (.map (some x.mp)) ∧ W.cell? ⟨w.heap.size, 2, none⟩ = some (.int .i64 i) ∧ W.cell? ⟨w.heap.size, 3, none⟩ = some (.int .i64 g))) (by kernel_rfl) s6 (fun hHeld => ?_)
  refine wpAnyH_take (i := 0) (oi := { dst := some 25, op := Op.move (Operand.tmp 0), type := 30, pos := "ecs.go:245", after := #[], guard := none }) (v := ?_) rfl (by kernel_rfl) (by kernel_rfl) (by kernel_rfl) (fun _ _ _ h => h) (Or.inl ⟨by rfl, ?_⟩) (by assumption) ?_
  rotate_left 1
  · intro w' hSw; (try dsimp only at hSw); go_simp; (try with_reducible rfl)
  simp only [Act.put, List.setIfInBounds_toArray, List.set_cons_zero, List.set_cons_succ]
  refine wpAnyH_take (i := 1) (oi := { dst := some 26, op := Op.nilCheck (Operand.tmp 25), type := 0, pos := "ecs.go:245", after := #[{ on := 0, ground := Ground.data }], guard := none }) (v := ?_) rfl (by kernel_rfl) (by kernel_rfl) (by kernel_rfl) (fun _ _ _ h => h) (Or.inl ⟨by rfl, ?_⟩) (by assumption) ?_
  rotate_left 1
  · intro w' hSw; (try dsimp only at hSw); go_simp; (try with_reducible rfl)
  simp only [Act.put, List.setIfInBounds_toArray, List.set_cons_zero, List.set_cons_succ]
  refine wpAnyH_take (i := 2) (oi := { dst := some 27, op := Op.fieldAddr 88 (Operand.tmp 26) 4, type := 0, pos := "ecs.go:245", after := #[{ on := 1, ground := Ground.data }], guard := none }) (v := ?_) rfl (by kernel_rfl) (by kernel_rfl) (by kernel_rfl) (fun _ _ _ h => h) (Or.inl ⟨by rfl, ?_⟩) (by assumption) ?_
  rotate_left 1
  · intro w' hSw; (try dsimp only at hSw); go_simp; (try with_reducible rfl)
  simp only [Act.put, List.setIfInBounds_toArray, List.set_cons_zero, List.set_cons_succ]
  refine wpAnyH_take (i := 3) (oi := { dst := some 28, op := Op.load 86 (Operand.tmp 27), type := 86, pos := "ecs.go:245", after := #[{ on := 2, ground := Ground.data }], guard := none }) (v := ?_) rfl (by kernel_rfl) (by kernel_rfl) (by kernel_rfl) (fun _ _ _ h => h) (Or.inl ⟨by rfl, ?_⟩) (by assumption) ?_
  rotate_left 1
  · intro w' hSw; (try dsimp only at hSw); go_simp; (try with_reducible rfl)
  simp only [Act.put, List.setIfInBounds_toArray, List.set_cons_zero, List.set_cons_succ]
  refine wpAnyH_take (i := 4) (oi := { dst := some 29, op := Op.fieldAddr 110 (Operand.tmp 3) 1, type := 0, pos := "ecs.go:245", after := #[], guard := none }) (v := ?_) rfl (by kernel_rfl) (by kernel_rfl) (by kernel_rfl) (fun _ _ _ h => h) (Or.inl ⟨by rfl, ?_⟩) (by assumption) ?_
  rotate_left 1
  · intro w' hSw; (try dsimp only at hSw); go_simp; (try with_reducible rfl)
  simp only [Act.put, List.setIfInBounds_toArray, List.set_cons_zero, List.set_cons_succ]
  refine wpAnyH_take (i := 5) (oi := { dst := some 30, op := Op.load 39 (Operand.tmp 29), type := 39, pos := "ecs.go:245", after := #[{ on := 4, ground := Ground.data }], guard := none }) (v := ?_) rfl (by kernel_rfl) (by kernel_rfl) (by kernel_rfl) (fun _ _ _ h => h) (Or.inl ⟨by rfl, ?_⟩) (by assumption) ?_
  rotate_left 1
  · intro w' hSw; (try dsimp only at hSw); go_simp; (try with_reducible rfl)
  simp only [Act.put, List.setIfInBounds_toArray, List.set_cons_zero, List.set_cons_succ]
  refine wpAnyH_ready (rs := [6]) (by kernel_rfl) (by simp) ?_
  refine AllReadyH.cons (o := { dst := none, op := Op.call { callee := Callee.builtin Builtin.delete, args := #[Operand.tmp 28, Operand.tmp 30], argTypes := #[86, 39] }, type := 0, pos := "ecs.go:245", after := #[{ on := 3, ground := Ground.data }, { on := 5, ground := Ground.data }], guard := none }) rfl (fun K' hK => ?_) AllReadyH.nil
  refine step_dropE kfD Tryz.underlying86 (by rfl) (.tmp 28) (.tmp 30) rfl HM6.out (i, g) HW6.out rfl rfl ?_
  intro w6 hm6 hg6
  obtain ⟨gr6, h6, hG6, r6⟩ := HE6.out w6 hm6 hg6
  have s7 : (w6.cell? ⟨x.p, 8, none⟩ = some (.map (some x.mp)) ∧ w6.cell? ⟨w.heap.size, 2, none⟩ = some (.int .i64 i) ∧ w6.cell? ⟨w.heap.size, 3, none⟩ = some (.int .i64 g)) := ⟨h6.c8, r6.at_ 2, r6.at_ 3⟩
  have H6 := Lib.hid (And.intro h6 (And.intro hG6 r6))
  clear hm6 hg6 h6 hG6 r6
  refine hK.out _ _ s7 (fun hHeld => ?_)
  clear hK K'
  try simp only [Act.put]
  refine wpAnyH_done (by kernel_rfl) ?_ _
  refine NoPanic.normal ?_
  clear s6 s7 hHeld HE6 HM6 HW6
  obtain ⟨h6, hG6, r6⟩ := H6.out
  have k64 := r6.at_ 4
  obtain ⟨s8, tag8, m8, v8, q8, hs8, hA8, hg8⟩ := h6.tab n (t.dropR r) (by omega) (if_pos rfl)
  have CL : Hid (Calls Tryz.prog 134 #[.pointer (some ⟨q, 0, none⟩)] w6 fun e w' => e = .returned (.int .i64 ((t.rows.length - 1 : Nat) : Int)) ∧ w6 = w') := Lib.hid (by
    have := tlen_any hA8.i
    rw [Tb.ids_len, Tb.dropR_len, ← HQ.out] at this
    exact this)
  clear h6 hG6 r6 hs8 hA8 hg8
  have hne : ¬ ((t.rows.length - 1 : Nat) : Int) = 0 := by have := HN.out.2.2.2.1; have := HX.out; omega
  obtain ⟨ln, hln⟩ : ∃ ln : Nat, ln = t.rows.length - 1 := ⟨_, rfl⟩
  rw [← hln] at CL hne
  clear hln
  go_wp2_with (go_at_call 134; refine CL.out.mono ?_; rintro e w' ⟨rfl, rfl⟩; clear k64)
  go_end0
  obtain ⟨r1, hb1, hg0, hmp, hmt⟩ := H1.out
  obtain ⟨hn, hw, hc, hr, hl⟩ := HN.out
  obtain ⟨h6, hG6, r6⟩ := H6.out
  refine ⟨rfl, _, (h6.more (Nat.le_succ c)).eq ?_, (TGo.ofBelow hb1).trans hG6⟩
  unfold Ks.drop
  have h1l : t.rows.length ≠ 1 := by exact HX.out
  congr 1
  · funext a
    unfold upd
    by_cases e : a = n
    · simp only [if_pos e, if_neg h1l]
    · simp only [if_neg e]
  · funext j
    by_cases e : j = (i, g)
    · simp only [if_pos e]
    · simp only [if_neg e]
      rw [if_neg (fun hh => hh.1 hl)]

theorem edrop_B (h : CoJ 0 w N gr x k c pt) (hT : TabN N w) (hc : c ≤ 1000000) {i g : Int} (hw : okE (i, g)) {n r : Nat} (hn : okN n) {t : Tb} (ht : k.tb n = some t) (hr : r < t.rows.length) (hl : r ≠ t.rows.length - 1) (hmo : okE t.lastR.1) :
    Calls Tryz.prog 93 #[.pointer (some ⟨x.p, 0, none⟩), .agg (enC n r i g (some ⟨pt n, 0, none⟩))] w fun e w' => e = .returned (.tuple #[]) ∧ ∃ gr', CoJ 0 w' N gr' x (k.drop (i, g) n r t) (c + 1) pt ∧ TGo w gr w' gr' := by
  obtain ⟨w1, hw1⟩ : ∃ w1, w1 = w.alloc (.cells (enC n r i g (some ⟨pt n, 0, none⟩)) 110) := ⟨_, rfl⟩
  have hb1 : Below w.heap.size w w1 := by rw [hw1]; exact (Below.refl _ _).alloc (Nat.le_refl _) _
  have r1 : Rec 110 w1 w.heap.size (enC n r i g (some ⟨pt n, 0, none⟩)) := by rw [hw1]; exact Rec.new w _ _
  have h1 := h.below hb1
  obtain ⟨mi, mg, hmv⟩ : ∃ mi mg, t.lastR.1 = (mi, mg) := ⟨_, _, rfl⟩
  obtain ⟨q, hq⟩ : ∃ q : Nat, q = pt n := ⟨_, rfl⟩
  rw [← hq] at r1
  obtain ⟨s, tag, m, v, qq, hs, hA, hg⟩ := h1.tab n t (by omega) ht
  have CD : Hid (Calls Tryz.prog 144 #[.pointer (some ⟨q, 0, none⟩), .int .i64 (r : Nat)] w1 fun e w' => e = .returned (.tuple #[.agg #[.int .i64 mi, .int .i64 mg], .bool true, .int .i64 0]) ∧ ∃ gr', CoJ 0 w' N gr' x { k with tb := upd k.tb n (some (t.dropR r)) } c pt ∧ TGo w1 gr w' gr') := Lib.hid (by
    rw [hq]
    refine (TDrop_go hA (hT.below h hb1).2 (0, 0) [] (r : Int) 0 []).mono ?_
    rintro e w' ⟨y, hy, _, _, rfl, hS⟩
    rw [Tb.go4 t hr] at hy hS
    simp only [if_neg hl, hmv] at hy
    subst hy
    exact ⟨rfl, h1.tab_go ht hs hg hS⟩)
  have k0 := r1.at_ 0
  have k1 := r1.at_ 1
  have k4 := r1.at_ 4
  have hg0 : gr w.heap.size = 0 := Classical.byContradiction fun hh => by have := h.dom _ hh; omega
  have hmp : x.mp < w.heap.size := h.dom _ (by rw [h.gm]; decide)
  have hmt : x.mt < w.heap.size := h.dom _ (by rw [h.gt]; decide)
  have H1 := Lib.hid (And.intro r1 (And.intro hb1 (And.intro hg0 (And.intro hmp hmt))))
  have HN := Lib.hid (And.intro hn (And.intro hw (And.intro hc (And.intro hr hl))))
  have HX := Lib.hid hmo
  rw [← hq]
  rw [← hq] at hw1
  have HQ := Lib.hid hq
  have HMV := Lib.hid hmv
  clear h h1 hb1 r1 hA hg hT hs hw hn ht hr hc hq hmv hl hg0 hmp hmt hmo
  go_enter Tryz.func93, Tryz.ntmps93
  go_upto_region 2 with (first
    | (rw [← hw1]; clear hw1)
    | (go_at_call 144; refine CD.out.mono ?_; rintro e w2 ⟨rfl, gr2, h2, hG2⟩; obtain ⟨w3, hw3⟩ : ∃ w3, w3 = w2.alloc (.cells #[.int .i64 0, .int .i64 0] 39) := ⟨_, rfl⟩; have R3 := Lib.hid (show Rec 39 w3 w2.heap.size #[.int .i64 0, .int .i64 0] by rw [hw3]; exact Rec.new w2 _ _); have HB3 := Lib.hid (show Below w2.heap.size w2 w3 by rw [hw3]; exact (Below.refl _ _).alloc (Nat.le_refl _) _); have H2 := Lib.hid (And.intro h2 hG2); clear h2 hG2 k0 k1 k4 CD)
    | (rw [← hw3]; clear hw3)
    | ((with_reducible refine wpList_stP rfl (.tmp 4) (.tmp 14) rfl rfl rfl R3.out ?_); intro w4 hR4 hF4; have HR4 := Lib.hid (And.intro hR4 hF4); clear hR4 hF4))
  obtain ⟨r1, hb1, hg0, hmp, hmt⟩ := H1.out
  obtain ⟨hn, hw, hc, hr, hl⟩ := HN.out
  obtain ⟨h2, hG2⟩ := H2.out
  obtain ⟨hR4, hF4⟩ := HR4.out
  have hb4 : Below w2.heap.size w2 w4 := HB3.out.trans (hF4.toBelow (fun y hy => by rw [show y = w2.heap.size from hy]; exact Nat.le_refl _) HB3.out.size)
  have h4 := h2.below hb4
  have hG4 : TGo w1 gr w4 gr2 := hG2.trans (TGo.ofBelow hb4)
  have r4 := r1.tgo hG4 hg0
  have hmo := HX.out
  rw [HMV.out] at hmo
  have h4d := h4.below (Below.refl _ _).drew
  obtain ⟨w5, hrun5, gr5, h5, hG5, hF5⟩ := h4d.put_pl hc hmo n r
  have hgm : gr2 w2.heap.size = 0 := Classical.byContradiction fun hh => by have := h2.dom _ hh; omega
  have R5 := Lib.hid hrun5
  have s4 : (w4.drew.cell? ⟨x.p, 8, none⟩ = some (.map (some x.mp)) ∧ (w4.drew.cell? ⟨w2.heap.size, 0, none⟩ = some (.int .i64 mi) ∧ w4.drew.cell? ⟨w2.heap.size, 1, none⟩ = some (.int .i64 mg)) ∧ w4.drew.cell? ⟨w.heap.size, 0, none⟩ = some (.int .i64 (n : Int)) ∧ w4.drew.cell? ⟨w.heap.size, 1, none⟩ = some (.int .i64 (r : Int))) := ⟨h4d.c8, ⟨hR4.at_ 0, hR4.at_ 1⟩, r4.at_ 0, r4.at_ 1⟩
  have r5 : Rec 110 w5 w.heap.size (enC n r i g (some ⟨q, 0, none⟩)) := Rec.fr (w := w4.drew) r4 hF5 (fun e => by have e' : w.heap.size = x.mp := e; omega)
  have m5 : Rec 39 w5 w2.heap.size #[.int .i64 mi, .int .i64 mg] := Rec.fr (w := w4.drew) hR4 hF5 (fun e => by have := h2.dom x.mp (by rw [h2.gm]; decide); have e' : w2.heap.size = x.mp := e; omega)
  have s5 : (w5.cell? ⟨x.p, 8, none⟩ = some (.map (some x.mp)) ∧ (w5.cell? ⟨w2.heap.size, 0, none⟩ = some (.int .i64 mi) ∧ w5.cell? ⟨w2.heap.size, 1, none⟩ = some (.int .i64 mg)) ∧ w5.cell? ⟨w.heap.size, 0, none⟩ = some (.int .i64 (n : Int)) ∧ w5.cell? ⟨w.heap.size, 1, none⟩ = some (.int .i64 (r : Int))) := ⟨h5.c8, ⟨m5.at_ 0, m5.at_ 1⟩, r5.at_ 0, r5.at_ 1⟩
  have hG05 : TGo w1 gr w5 gr5 := hG4.trans ((TGo.ofBelow (Below.refl _ _).drew).trans hG5)
  have H5 := Lib.hid (And.intro h5 (And.intro hG05 r5))
  clear h2 hG2 h4 hG4 r4 hR4 hF4 hb4 h4d h5 hG5 hF5 r5 m5 hgm hG05 hrun5 r1 hb1 hg0 hmp hmt hn hw hr hl hc hmo H2 HR4 R3 HB3
  go_upto_region 3 with fail
  have hrun5 := R5.out
  refine wp_region_noPanic ?_
  refine wp_region_held_drew (S := fun W => (W.cell? ⟨x.p, 8, none⟩ = some (.map (some x.mp)) ∧ (W.cell? ⟨w2.heap.size, 0, none⟩ = some (.int .i64 mi) ∧ W.cell? ⟨w2.heap.size, 1, none⟩ = some (.int .i64 mg)) ∧ W.cell? ⟨w.heap.size, 0, none⟩ = some (.int .i64 (n : Int)) ∧ W.cell? ⟨w.heap.size, 1, none⟩ = some (.int .i64 (r : Int)))) (by kernel_rfl) s4 (fun hHeld => ?_)
  refine wpAnyH_take (i := 0) (oi := { dst := some 18, op := Op.move (Operand.tmp 0), type := 30, pos := "ecs.go:243", after := #[], guard := none }) (v := ?_) rfl (by kernel_rfl) (by kernel_rfl) (by kernel_rfl) (fun _ _ _ h => h) (Or.inl ⟨by rfl, ?_⟩) (by assumption) ?_
  rotate_left 1
  · intro w' hSw; (try dsimp only at hSw); go_simp; (try with_reducible rfl)
  simp only [Act.put, List.setIfInBounds_toArray, List.set_cons_zero, List.set_cons_succ]
  refine wpAnyH_take (i := 1) (oi := { dst := some 19, op := Op.nilCheck (Operand.tmp 18), type := 0, pos := "ecs.go:243", after := #[{ on := 0, ground := Ground.data }], guard := none }) (v := ?_) rfl (by kernel_rfl) (by kernel_rfl) (by kernel_rfl) (fun _ _ _ h => h) (Or.inl ⟨by rfl, ?_⟩) (by assumption) ?_
  rotate_left 1
  · intro w' hSw; (try dsimp only at hSw); go_simp; (try with_reducible rfl)
  simp only [Act.put, List.setIfInBounds_toArray, List.set_cons_zero, List.set_cons_succ]
  refine wpAnyH_take (i := 2) (oi := { dst := some 20, op := Op.fieldAddr 88 (Operand.tmp 19) 4, type := 0, pos := "ecs.go:243", after := #[{ on := 1, ground := Ground.data }], guard := none }) (v := ?_) rfl (by kernel_rfl) (by kernel_rfl) (by kernel_rfl) (fun _ _ _ h => h) (Or.inl ⟨by rfl, ?_⟩) (by assumption) ?_
  rotate_left 1
  · intro w' hSw; (try dsimp only at hSw); go_simp; (try with_reducible rfl)
  simp only [Act.put, List.setIfInBounds_toArray, List.set_cons_zero, List.set_cons_succ]
  refine wpAnyH_take (i := 3) (oi := { dst := some 21, op := Op.load 86 (Operand.tmp 20), type := 86, pos := "ecs.go:243", after := #[{ on := 2, ground := Ground.data }], guard := none }) (v := ?_) rfl (by kernel_rfl) (by kernel_rfl) (by kernel_rfl) (fun _ _ _ h => h) (Or.inl ⟨by rfl, ?_⟩) (by assumption) ?_
  rotate_left 1
  · intro w' hSw; (try dsimp only at hSw); go_simp; (try with_reducible rfl)
  simp only [Act.put, List.setIfInBounds_toArray, List.set_cons_zero, List.set_cons_succ]
  refine wpAnyH_take (i := 4) (oi := { dst := some 22, op := Op.load 39 (Operand.tmp 4), type := 39, pos := "ecs.go:243", after := #[], guard := none }) (v := ?_) rfl (by kernel_rfl) (by kernel_rfl) (by kernel_rfl) (fun _ _ _ h => h) (Or.inl ⟨by rfl, ?_⟩) (by assumption) ?_
  rotate_left 1
  · intro w' hSw; (try dsimp only at hSw); go_simp; (try with_reducible rfl)
  simp only [Act.put, List.setIfInBounds_toArray, List.set_cons_zero, List.set_cons_succ]
  refine wpAnyH_take (i := 5) (oi := { dst := some 23, op := Op.fieldAddr 110 (Operand.tmp 3) 0, type := 0, pos := "ecs.go:243", after := #[], guard := none }) (v := ?_) rfl (by kernel_rfl) (by kernel_rfl) (by kernel_rfl) (fun _ _ _ h => h) (Or.inl ⟨by rfl, ?_⟩) (by assumption) ?_
  rotate_left 1
  · intro w' hSw; (try dsimp only at hSw); go_simp; (try with_reducible rfl)
  simp only [Act.put, List.setIfInBounds_toArray, List.set_cons_zero, List.set_cons_succ]
  refine wpAnyH_take (i := 6) (oi := { dst := some 24, op := Op.load 107 (Operand.tmp 23), type := 107, pos := "ecs.go:243", after := #[{ on := 5, ground := Ground.data }], guard := none }) (v := ?_) rfl (by kernel_rfl) (by kernel_rfl) (by kernel_rfl) (fun _ _ _ h => h) (Or.inl ⟨by rfl, ?_⟩) (by assumption) ?_
  rotate_left 1
  · intro w' hSw; (try dsimp only at hSw); go_simp; (try with_reducible rfl)
  simp only [Act.put, List.setIfInBounds_toArray, List.set_cons_zero, List.set_cons_succ]
  refine wpAnyH_ready (rs := [7]) (by kernel_rfl) (by simp) ?_
  refine AllReadyH.cons (o := { dst := none, op := Op.mapUpdate 86 (Operand.tmp 21) (Operand.tmp 22) (Operand.tmp 24), type := 0, pos := "ecs.go:243", after := #[{ on := 3, ground := Ground.data }, { on := 4, ground := Ground.data }, { on := 6, ground := Ground.data }, { on := 0, ground := Ground.phase }, { on := 1, ground := Ground.phase }, { on := 2, ground := Ground.phase }, { on := 3, ground := Ground.phase }, { on := 4, ground := Ground.phase }, { on := 5, ground := Ground.phase }, { on := 6, ground := Ground.phase }], guard := none }) rfl (fun K' hK => ?_) AllReadyH.nil
  go_simp
  refine hK.out _ _ s5 (fun hHeld => ?_)
  clear hK K'
  try simp only [Act.put]
  refine wpAnyH_done (by kernel_rfl) ?_ _
  refine NoPanic.normal ?_
  clear s4 s5 hHeld hrun5
  obtain ⟨r1, hb1, hg0, hmp, hmt⟩ := H1.out
  obtain ⟨hn, hw, hc, hr, hl⟩ := HN.out
  obtain ⟨h5, hG5, r5⟩ := H5.out
  have hd := h5.below (Below.refl _ _).drew
  obtain ⟨np, hm6, hE6⟩ := hd.del_pl (i, g)
  have s6 : (w5.drew.cell? ⟨x.p, 8, none⟩ = some (.map (some x.mp)) ∧ w5.drew.cell? ⟨w.heap.size, 2, none⟩ = some (.int .i64 i) ∧ w5.drew.cell? ⟨w.heap.size, 3, none⟩ = some (.int .i64 g)) := ⟨hd.c8, r5.at_ 2, r5.at_ 3⟩
  have HE6 := Lib.hid (show ∀ w6, MapP w6 x.mp (if (plF _ (i, g)).isSome = true then np - 1 else np) (fun j => if j = (i, g) then none else plF _ j) → (w5.drew).grownBy w6 (some x.mp) → ∃ gr6, CoJ 0 w6 N gr6 x _ _ pt ∧ TGo w1 gr w6 gr6 ∧ Rec 110 w6 w.heap.size (enC n r i g (some ⟨q, 0, none⟩)) from fun w6 hm hg => by
    obtain ⟨gr6, h6, hG6, hF6⟩ := hE6 w6 hm hg
    exact ⟨gr6, h6, hG5.trans ((TGo.ofBelow (Below.refl _ _).drew).trans hG6), Rec.fr (w := w5.drew) r5 hF6 (fun e => by have e' : w.heap.size = x.mp := e; omega)⟩)
  have HM6 := Lib.hid hm6
  have HW6 := Lib.hid hw
  clear hd hE6 hm6 r1 hb1 hg0 hmp hmt hn hw hr hl hc h5 hG5 r5
  go_upto_region 4 with fail
  refine wp_region_noPanic ?_
  refine wp_region_held_drew (S := fun W => (W.cell? ⟨x.p, 8, none⟩ = some (.map (some x.mp)) ∧ W.cell? ⟨w.heap.size, 2, none⟩ = some (.int .i64 i) ∧ W.cell? ⟨w.heap.size, 3, none⟩ = some (.int .i64 g))) (by kernel_rfl) s6 (fun hHeld => ?_)
  refine wpAnyH_take (i := 0) (oi := { dst := some 25, op := Op.move (Operand.tmp 0), type := 30, pos := "ecs.go:245", after := #[], guard := none }) (v := ?_) rfl (by kernel_rfl) (by kernel_rfl) (by kernel_rfl) (fun _ _ _ h => h) (Or.inl ⟨by rfl, ?_⟩) (by assumption) ?_
  rotate_left 1
  · intro w' hSw; (try dsimp only at hSw); go_simp; (try with_reducible rfl)
  simp only [Act.put, List.setIfInBounds_toArray, List.set_cons_zero, List.set_cons_succ]
  refine wpAnyH_take (i := 1) (oi := { dst := some 26, op := Op.nilCheck (Operand.tmp 25), type := 0, pos := "ecs.go:245", after := #[{ on := 0, ground := Ground.data }], guard := none }) (v := ?_) rfl (by kernel_rfl) (by kernel_rfl) (by kernel_rfl) (fun _ _ _ h => h) (Or.inl ⟨by rfl, ?_⟩) (by assumption) ?_
  rotate_left 1
  · intro w' hSw; (try dsimp only at hSw); go_simp; (try with_reducible rfl)
  simp only [Act.put, List.setIfInBounds_toArray, List.set_cons_zero, List.set_cons_succ]
  refine wpAnyH_take (i := 2) (oi := { dst := some 27, op := Op.fieldAddr 88 (Operand.tmp 26) 4, type := 0, pos := "ecs.go:245", after := #[{ on := 1, ground := Ground.data }], guard := none }) (v := ?_) rfl (by kernel_rfl) (by kernel_rfl) (by kernel_rfl) (fun _ _ _ h => h) (Or.inl ⟨by rfl, ?_⟩) (by assumption) ?_
  rotate_left 1
  · intro w' hSw; (try dsimp only at hSw); go_simp; (try with_reducible rfl)
  simp only [Act.put, List.setIfInBounds_toArray, List.set_cons_zero, List.set_cons_succ]
  refine wpAnyH_take (i := 3) (oi := { dst := some 28, op := Op.load 86 (Operand.tmp 27), type := 86, pos := "ecs.go:245", after := #[{ on := 2, ground := Ground.data }], guard := none }) (v := ?_) rfl (by kernel_rfl) (by kernel_rfl) (by kernel_rfl) (fun _ _ _ h => h) (Or.inl ⟨by rfl, ?_⟩) (by assumption) ?_
  rotate_left 1
  · intro w' hSw; (try dsimp only at hSw); go_simp; (try with_reducible rfl)
  simp only [Act.put, List.setIfInBounds_toArray, List.set_cons_zero, List.set_cons_succ]
  refine wpAnyH_take (i := 4) (oi := { dst := some 29, op := Op.fieldAddr 110 (Operand.tmp 3) 1, type := 0, pos := "ecs.go:245", after := #[], guard := none }) (v := ?_) rfl (by kernel_rfl) (by kernel_rfl) (by kernel_rfl) (fun _ _ _ h => h) (Or.inl ⟨by rfl, ?_⟩) (by assumption) ?_
  rotate_left 1
  · intro w' hSw; (try dsimp only at hSw); go_simp; (try with_reducible rfl)
  simp only [Act.put, List.setIfInBounds_toArray, List.set_cons_zero, List.set_cons_succ]
  refine wpAnyH_take (i := 5) (oi := { dst := some 30, op := Op.load 39 (Operand.tmp 29), type := 39, pos := "ecs.go:245", after := #[{ on := 4, ground := Ground.data }], guard := none }) (v := ?_) rfl (by kernel_rfl) (by kernel_rfl) (by kernel_rfl) (fun _ _ _ h => h) (Or.inl ⟨by rfl, ?_⟩) (by assumption) ?_
  rotate_left 1
  · intro w' hSw; (try dsimp only at hSw); go_simp; (try with_reducible rfl)
  simp only [Act.put, List.setIfInBounds_toArray, List.set_cons_zero, List.set_cons_succ]
  refine wpAnyH_ready (rs := [6]) (by kernel_rfl) (by simp) ?_
  refine AllReadyH.cons (o := { dst := none, op := Op.call { callee := Callee.builtin Builtin.delete, args := #[Operand.tmp 28, Operand.tmp 30], argTypes := #[86, 39] }, type := 0, pos := "ecs.go:245", after := #[{ on := 3, ground := Ground.data }, { on := 5, ground := Ground.data }], guard := none }) rfl (fun K' hK => ?_) AllReadyH.nil
  refine step_dropE kfD Tryz.underlying86 (by rfl) (.tmp 28) (.tmp 30) rfl HM6.out (i, g) HW6.out rfl rfl ?_
  intro w6 hm6 hg6
  obtain ⟨gr6, h6, hG6, r6⟩ := HE6.out w6 hm6 hg6
  have s7 : (w6.cell? ⟨x.p, 8, none⟩ = some (.map (some x.mp)) ∧ w6.cell? ⟨w.heap.size, 2, none⟩ = some (.int .i64 i) ∧ w6.cell? ⟨w.heap.size, 3, none⟩ = some (.int .i64 g)) := ⟨h6.c8, r6.at_ 2, r6.at_ 3⟩
  have H6 := Lib.hid (And.intro h6 (And.intro hG6 r6))
  clear hm6 hg6 h6 hG6 r6
  refine hK.out _ _ s7 (fun hHeld => ?_)
  clear hK K'
  try simp only [Act.put]
  refine wpAnyH_done (by kernel_rfl) ?_ _
  refine NoPanic.normal ?_
  clear s6 s7 hHeld HE6 HM6 HW6
  obtain ⟨h6, hG6, r6⟩ := H6.out
  have k64 := r6.at_ 4
  obtain ⟨s8, tag8, m8, v8, q8, hs8, hA8, hg8⟩ := h6.tab n (t.dropR r) (by omega) (if_pos rfl)
  have CL : Hid (Calls Tryz.prog 134 #[.pointer (some ⟨q, 0, none⟩)] w6 fun e w' => e = .returned (.int .i64 ((t.rows.length - 1 : Nat) : Int)) ∧ w6 = w') := Lib.hid (by
    have := tlen_any hA8.i
    rw [Tb.ids_len, Tb.dropR_len, ← HQ.out] at this
    exact this)
  clear h6 hG6 r6 hs8 hA8 hg8
  have hne : ¬ ((t.rows.length - 1 : Nat) : Int) = 0 := by have := HN.out.2.2.2.1; have := HN.out.2.2.2.2; omega
  obtain ⟨ln, hln⟩ : ∃ ln : Nat, ln = t.rows.length - 1 := ⟨_, rfl⟩
  rw [← hln] at CL hne
  clear hln
  go_wp2_with (go_at_call 134; refine CL.out.mono ?_; rintro e w' ⟨rfl, rfl⟩; clear k64)
  go_end0
  obtain ⟨r1, hb1, hg0, hmp, hmt⟩ := H1.out
  obtain ⟨hn, hw, hc, hr, hl⟩ := HN.out
  obtain ⟨h6, hG6, r6⟩ := H6.out
  refine ⟨rfl, _, (h6).eq ?_, (TGo.ofBelow hb1).trans hG6⟩
  unfold Ks.drop
  have h1l : t.rows.length ≠ 1 := by omega
  congr 1
  · funext a
    unfold upd
    by_cases e : a = n
    · simp only [if_pos e, if_neg h1l]
    · simp only [if_neg e]
  · funext j
    by_cases e : j = (i, g)
    · simp only [if_pos e]
    · simp only [if_neg e]
      rw [HMV.out]
      by_cases e2 : j = (mi, mg)
      · rw [if_pos e2, if_pos ⟨hl, e2⟩]
      · rw [if_neg e2, if_neg (fun hh => e2 hh.2)]
end
end Go.Proofs.YtddiadpbkjdomaaGreatDoor
