/- EcH, BitsHa -/
import Derived.Test.YtddiadpbkjdomaaGreatDoorQn16
import Derived.Laws.BitsAllLaws
import Derived.Laws.Bits128
import Derived.Deep.WholeRow
namespace Go.Proofs.YtddiadpbkjdomaaGreatDoor
open Go.RowKit
set_option maxRecDepth 20000

section
variable {w : World} {N : Nat} {gr : Nat → Nat} {x : Fx} {k : Ks} {c : Nat} {pt : Nat → Nat}
theorem espawn_nil (w : World) : Calls Tryz.prog 31 #[.pointer none] w fun e w' => e = .returned (.tuple #[.agg #[.int .i64 0, .int .i64 0], .int .i64 4]) ∧ Below w.heap.size w w' := by
  obtain ⟨w1, hw1⟩ : ∃ w1, w1 = w.alloc (.cells #[.int .i64 0, .int .i64 0] 39) := ⟨_, rfl⟩
  have hb1 : Below w.heap.size w w1 := by rw [hw1]; exact (Below.refl _ _).alloc (Nat.le_refl _) _
  have R1 := Lib.hid (show Rec 39 w1 w.heap.size #[.int .i64 0, .int .i64 0] by rw [hw1]; exact Rec.new w _ _)
  have HB := Lib.hid hb1
  clear hb1
  go_enter Tryz.func31, Tryz.ntmps31
  go_wp2_with (first
    | (rw [← hw1]; clear hw1)
    | ((with_reducible refine wpList_stP rfl (.tmp 2) (.tmp 8) rfl rfl rfl R1.out ?_); intro w5 hR5 hF5))
  refine bodyPost_ret (res_ct rfl rfl (hR5.load idT rfl)) rfl ?_
  exact ⟨rfl, HB.out.trans (hF5.toBelow (fun y hy => by rw [show y = w.heap.size from hy]; exact Nat.le_refl _) HB.out.size)⟩
/-- A name is taken. -/
theorem CoJ.take (h : CoJ 0 w N gr x k c pt) : Calls Tryz.prog 76 #[.pointer (some ⟨x.pi, 0, none⟩)] w fun e w' => e = .returned (.tuple #[.agg #[.int .i64 k.ns.take.2.1.1, .int .i64 k.ns.take.2.1.2], .int .i64 k.ns.take.2.2]) ∧ ∃ gr', CoJ 0 w' N gr' x { k with ns := k.ns.take.1 } c pt ∧ TGo w gr w' gr' := by
  obtain ⟨gv, av, fv, I⟩ := h.ids (by decide)
  refine (Take_any (fun y hy => h.dom y (by rw [show gr y = 4 from hy]; decide)) I).mono ?_
  rintro e w' ⟨rfl, hG⟩
  exact ⟨rfl, h.ids_go hG⟩
/-- The node of a set. -/
theorem CoJ.node (h : CoJ 0 w N gr x k c pt) (s : Nat) (hs : s < 18446744073709551616) (hpos : 0 < k.S.length) (hS : k.S.length ≤ 1000000) :
    Calls Tryz.prog 78 #[.pointer (some ⟨x.pg, 0, none⟩), .int .u64 s] w fun e w' => e = .returned (.int .i64 ((gNode k.S s).2 : Nat)) ∧ ∃ gr', CoJ 0 w' N gr' x { k with S := (gNode k.S s).1 } c pt ∧ TGo w gr w' gr' := by
  obtain ⟨sv, ed, b, hb, hG⟩ := h.gph (by decide)
  refine (Node_any (fun y hy => h.dom y (by rw [show gr y = 5 from hy]; decide)) hG s hs hpos hS).mono ?_
  rintro e w' ⟨rfl, hGo⟩
  exact ⟨rfl, h.gph_go ⟨ed, hGo⟩ (fun i t => gNode_keeps s) (Nat.le_refl _) hb⟩
/-- The state behind Spawn. -/
def Ks.spawn (k : Ks) (x : Fx) : Ks :=
  let k2 : Ks := { k with ns := k.ns.take.1, S := (gNode k.S 0).1 }
  k2.put k.ns.take.2.1 (gNode k.S 0).2 (k2.tab x (gNode k.S 0).2 0) []

theorem espawn_no (h : CoJ 0 w N gr x k c pt) (he : k.ns.take.2.2 ≠ 0) :
    Calls Tryz.prog 31 #[.pointer (some ⟨x.p, 0, none⟩)] w fun e w' => e = .returned (.tuple #[.agg #[.int .i64 0, .int .i64 0], .int .i64 k.ns.take.2.2]) ∧ ∃ gr' pt', CoJ 0 w' N gr' x { k with ns := k.ns.take.1 } (c + 2) pt' ∧ TGo w gr w' gr' := by
  obtain ⟨w1, hw1⟩ : ∃ w1, w1 = w.alloc (.cells #[.int .i64 0, .int .i64 0] 39) := ⟨_, rfl⟩
  have hb1 : Below w.heap.size w w1 := by rw [hw1]; exact (Below.refl _ _).alloc (Nat.le_refl _) _
  have r1 : Rec 39 w1 w.heap.size #[.int .i64 0, .int .i64 0] := by rw [hw1]; exact Rec.new w _ _
  have h1 := h.below hb1
  have c5 := h1.c5
  have hz : ∀ y, w.heap.size ≤ y → gr y = 0 := fun y hy => Classical.byContradiction fun hh => by have := h.dom y hh; omega
  have CT := h1.take
  obtain ⟨z, hz0⟩ : ∃ z, z = k.ns.take.2.2 := ⟨_, rfl⟩
  rw [← hz0] at CT he ⊢
  have d1 : decide (z = 0) = false := decide_eq_false he
  have d2 : (z != 0) = true := bne_iff_ne.2 he
  have CT := Lib.hid CT
  have H1 := Lib.hid (And.intro h1 (And.intro r1 (And.intro hb1 (And.intro hz h))))
  clear h h1 r1 hb1 hz he hz0
  go_enter Tryz.func31, Tryz.ntmps31
  go_upto_region 5 with (first
    | (rw [← hw1]; clear hw1)
    | (go_at_call 76; refine CT.out.mono ?_; rintro e w2 ⟨rfl, gr2, h2, hG2⟩; obtain ⟨w3, hw3⟩ : ∃ w3, w3 = w2.alloc (.cells #[.int .i64 0, .int .i64 0] 39) := ⟨_, rfl⟩; have R3 := Lib.hid (show Rec 39 w3 w2.heap.size #[.int .i64 0, .int .i64 0] by rw [hw3]; exact Rec.new w2 _ _); have HB3 := Lib.hid (show Below w2.heap.size w2 w3 by rw [hw3]; exact (Below.refl _ _).alloc (Nat.le_refl _) _); have H2 := Lib.hid (And.intro h2 hG2); clear h2 hG2 c5)
    | (rw [← hw3]; clear hw3)
    | ((with_reducible refine wpList_stP rfl (.tmp 4) (.tmp 15) rfl rfl rfl R3.out ?_); intro w4 hR4 hF4; have HR4 := Lib.hid (And.intro hR4 hF4); clear hR4 hF4))
  obtain ⟨h1, r1, hb1, hz, h⟩ := H1.out
  obtain ⟨h2, hG2⟩ := H2.out
  obtain ⟨hR4, hF4⟩ := HR4.out
  have hb4 : Below w2.heap.size w2 w4 := HB3.out.trans (hF4.toBelow (fun y hy => by rw [show y = w2.heap.size from hy]; exact Nat.le_refl _) HB3.out.size)
  have h4 := h2.below hb4
  have hG4 : TGo w gr w4 gr2 := (TGo.ofBelow hb1).trans (hG2.trans (TGo.ofBelow hb4))
  have r4 : Rec 39 w4 w.heap.size #[.int .i64 0, .int .i64 0] := (r1.tgo hG2 (hz _ (Nat.le_refl _))).under hb4
  have R4 := Lib.hid r4
  have H4 := Lib.hid (And.intro h4 hG4)
  clear h1 r1 hb1 hz h h2 hG2 hR4 hF4 hb4 h4 hG4 r4
  go_wp2_with ((with_reducible refine wpList_stP rfl (.tmp 2) (.tmp 19) rfl rfl rfl R4.out ?_); intro w5 hR5 hF5)
  refine bodyPost_ret (res_ct rfl rfl (hR5.load idT rfl)) rfl ?_
  obtain ⟨h1, r1, hb1, hz, h⟩ := H1.out
  obtain ⟨h4, hG4⟩ := H4.out
  have z : gr2 w.heap.size = 0 := H2.out.2.gr0 (hz _ (Nat.le_refl _)) r1.lt
  exact ⟨rfl, gr2, pt, (h4.kept hF5 (fun y hy e => hy (by rw [show y = w.heap.size from e]; exact z))).more (by omega), hG4.more hF5 (fun y hy => .inr (by rw [show y = w.heap.size from hy]; exact Nat.le_refl _))⟩

theorem espawn_yes (h : CoJ 0 w N gr x k c pt) (hT : TabN N w) (hc : c ≤ 90000) (hks : x.n ≤ 1000000) (hpos : 0 < k.S.length) (hS : k.S.length ≤ 1000000) (he : k.ns.take.2.2 = 0) (hw : okE k.ns.take.2.1) :
    Calls Tryz.prog 31 #[.pointer (some ⟨x.p, 0, none⟩)] w fun e w' => e = .returned (.tuple #[.agg #[.int .i64 k.ns.take.2.1.1, .int .i64 k.ns.take.2.1.2], .int .i64 0]) ∧ ∃ gr' pt', CoJ 0 w' N gr' x (k.spawn x) (c + 2) pt' ∧ TGo w gr w' gr' := by
  obtain ⟨w1, hw1⟩ : ∃ w1, w1 = w.alloc (.cells #[.int .i64 0, .int .i64 0] 39) := ⟨_, rfl⟩
  have hb1 : Below w.heap.size w w1 := by rw [hw1]; exact (Below.refl _ _).alloc (Nat.le_refl _) _
  have r1 : Rec 39 w1 w.heap.size #[.int .i64 0, .int .i64 0] := by rw [hw1]; exact Rec.new w _ _
  have h1 := h.below hb1
  have c5 := h1.c5
  have hz : ∀ y, w.heap.size ≤ y → gr y = 0 := fun y hy => Classical.byContradiction fun hh => by have := h.dom y hh; omega
  have CT := h1.take
  obtain ⟨i, g, hid⟩ : ∃ i g, k.ns.take.2.1 = (i, g) := ⟨_, _, rfl⟩
  rw [he] at CT
  simp only [hid] at CT
  rw [hid] at hw
  have CT := Lib.hid CT
  have H1 := Lib.hid (And.intro h1 (And.intro r1 (And.intro hb1 (And.intro hz h))))
  have HN := Lib.hid (And.intro hT (And.intro hc (And.intro hks (And.intro hpos (And.intro hS hw)))))
  have HID := Lib.hid hid
  simp only [hid]
  clear h h1 r1 hb1 hz hT hc hks hpos hS he hw hid
  go_enter Tryz.func31, Tryz.ntmps31
  go_upto_region 6 with (first
    | (rw [← hw1]; clear hw1)
    | (go_at_call 76; refine CT.out.mono ?_; rintro e w2 ⟨rfl, gr2, h2, hG2⟩; obtain ⟨w3, hw3⟩ : ∃ w3, w3 = w2.alloc (.cells #[.int .i64 0, .int .i64 0] 39) := ⟨_, rfl⟩; have R3 := Lib.hid (show Rec 39 w3 w2.heap.size #[.int .i64 0, .int .i64 0] by rw [hw3]; exact Rec.new w2 _ _); have HB3 := Lib.hid (show Below w2.heap.size w2 w3 by rw [hw3]; exact (Below.refl _ _).alloc (Nat.le_refl _) _); have H2 := Lib.hid (And.intro h2 hG2); clear h2 hG2 c5)
    | (rw [← hw3]; clear hw3)
    | ((with_reducible refine wpList_stP rfl (.tmp 4) (.tmp 15) rfl rfl rfl R3.out ?_); intro w4 hR4 hF4; have HR4 := Lib.hid (And.intro hR4 hF4); clear hR4 hF4))
  obtain ⟨h1, r1, hb1, hz, h⟩ := H1.out
  obtain ⟨h2, hG2⟩ := H2.out
  obtain ⟨hR4, hF4⟩ := HR4.out
  have hb4 : Below w2.heap.size w2 w4 := HB3.out.trans (hF4.toBelow (fun y hy => by rw [show y = w2.heap.size from hy]; exact Nat.le_refl _) HB3.out.size)
  have h4 := h2.below hb4
  have hG4 : TGo w gr w4 gr2 := (TGo.ofBelow hb1).trans (hG2.trans (TGo.ofBelow hb4))
  have r4 : Rec 39 w4 w.heap.size #[.int .i64 0, .int .i64 0] := (r1.tgo hG2 (hz _ (Nat.le_refl _))).under hb4
  obtain ⟨hT, hc, hks, hpos, hS, hw⟩ := HN.out
  have h4d := h4.below (Below.refl _ _).drew
  have hG4d : TGo w gr w4.drew gr2 := hG4.trans (TGo.ofBelow (Below.refl _ _).drew)
  have hlt0 : w.heap.size < w1.heap.size := r1.lt
  have hs12 := hG2.fr.size
  have CN := h4d.node 0 (by decide) hpos hS
  have CA : Hid (∀ W gr5, CoJ 0 W N gr5 x { k with ns := k.ns.take.1, S := (gNode k.S 0).1 } c pt → TGo w4.drew gr2 W gr5 → (W.cell? ⟨x.p, 6, none⟩ = some (.pointer (some ⟨x.pg, 0, none⟩)) ∧ W.cell? ⟨w2.heap.size, 0, none⟩ = some (.int .i64 i) ∧ W.cell? ⟨w2.heap.size, 1, none⟩ = some (.int .i64 g)) ∧ Calls Tryz.prog 77 #[.pointer (some ⟨x.p, 0, none⟩), .agg #[.int .i64 i, .int .i64 g], .int .i64 ((gNode k.S 0).2 : Nat), .slice none 0 0] W fun e w' => e = .returned (.tuple #[]) ∧ (∃ gr' pt', CoJ 0 w' N gr' x (k.spawn x) (c + 2) pt' ∧ TGo w gr w' gr' ∧ gr' w.heap.size = 0 ∧ gr' w2.heap.size = 0) ∧ (w'.cell? ⟨x.p, 6, none⟩ = some (.pointer (some ⟨x.pg, 0, none⟩)) ∧ w'.cell? ⟨w2.heap.size, 0, none⟩ = some (.int .i64 i) ∧ w'.cell? ⟨w2.heap.size, 1, none⟩ = some (.int .i64 g)) ∧ Rec 39 w' w2.heap.size #[.int .i64 i, .int .i64 g] ∧ Rec 39 w' w.heap.size #[.int .i64 0, .int .i64 0]) := Lib.hid (fun W gr5 h5 hG5 => by
    have z2 : gr2 w2.heap.size = 0 := Classical.byContradiction fun hh => by have := h2.dom _ hh; omega
    have z0 : gr2 w.heap.size = 0 := hG2.gr0 (hz _ (Nat.le_refl _)) hlt0
    have l2 : w2.heap.size < w4.drew.heap.size := hR4.lt
    have l0 : w.heap.size < w4.drew.heap.size := r4.lt
    have rW : Rec 39 W w2.heap.size #[.int .i64 i, .int .i64 g] := Rec.tgo (w := w4.drew) hR4 hG5 z2
    have rW0 : Rec 39 W w.heap.size #[.int .i64 0, .int .i64 0] := Rec.tgo (w := w4.drew) r4 hG5 z0
    refine ⟨⟨h5.c6, rW.at_ 0, rW.at_ 1⟩, ?_⟩
    have hG05 := hG4d.trans hG5
    have hat := gNode_at k.S 0
    have hln : (gNode k.S 0).2 < (gNode k.S 0).1.length := (List.getElem?_eq_some_iff.1 hat).1
    have hll := (gNode_len k.S 0).1
    refine (eadd_any h5 (hT.go h hG05) (by omega) hw (n := (gNode k.S 0).2) (by unfold okN; omega) hat (by decide) (Nat.zero_and _) hks (PartsV.nil (fun _ => False) W none) (fun y hy => hy.elim) (by decide) 0).mono ?_
    rintro e w' ⟨rfl, gr', pt', h', hG'⟩
    have z5 := hG5.gr0 z2 l2
    have z50 := hG5.gr0 z0 l0
    refine ⟨rfl, ⟨gr', pt', ?_, hG05.trans hG', hG'.gr0 z50 rW0.lt, hG'.gr0 z5 rW.lt⟩, ⟨h'.c6, (rW.tgo hG' z5).at_ 0, (rW.tgo hG' z5).at_ 1⟩, rW.tgo hG' z5, rW0.tgo hG' z50⟩
    unfold Ks.spawn
    rw [HID.out]
    exact h')
  have s4 : w4.drew.cell? ⟨x.p, 6, none⟩ = some (.pointer (some ⟨x.pg, 0, none⟩)) ∧ w4.drew.cell? ⟨w2.heap.size, 0, none⟩ = some (.int .i64 i) ∧ w4.drew.cell? ⟨w2.heap.size, 1, none⟩ = some (.int .i64 g) := ⟨h4d.c6, hR4.at_ 0, hR4.at_ 1⟩
  obtain ⟨n2, hn2⟩ : ∃ n2 : Nat, n2 = (gNode k.S 0).2 := ⟨_, rfl⟩
  rw [← hn2] at CN CA
  have CN := Lib.hid CN
  clear h1 r1 hb1 hz h h2 hG2 hR4 hF4 hb4 h4 hG4 r4 hT hc hks hpos hS hw h4d hG4d hlt0 hs12 hn2
  refine wp_region_noPanic ?_
  refine wp_region_held_drew (S := fun W => W.cell? ⟨x.p, 6, none⟩ = some (.pointer (some ⟨x.pg, 0, none⟩)) ∧ W.cell? ⟨w2.heap.size, 0, none⟩ = some (.int .i64 i) ∧ W.cell? ⟨w2.heap.size, 1, none⟩ = some (.int .i64 g)) (by kernel_rfl) s4 (fun hHeld => ?_)
  refine wpAnyH_take (i := 0) (oi := { dst := some 21, op := Op.move (Operand.tmp 0), type := 30, pos := "ecs.go:95", after := #[], guard := none }) (v := ?_) rfl (by kernel_rfl) (by kernel_rfl) (by kernel_rfl) (fun _ _ _ h => h) (Or.inl ⟨by rfl, ?_⟩) (by assumption) ?_
  rotate_left 1
  · intro w' hSw; (try dsimp only at hSw); go_simp; (try with_reducible rfl)
  simp only [Act.put, List.setIfInBounds_toArray, List.set_cons_zero, List.set_cons_succ]
  refine wpAnyH_take (i := 1) (oi := { dst := some 22, op := Op.load 39 (Operand.tmp 4), type := 39, pos := "ecs.go:95", after := #[], guard := none }) (v := ?_) rfl (by kernel_rfl) (by kernel_rfl) (by kernel_rfl) (fun _ _ _ h => h) (Or.inl ⟨by rfl, ?_⟩) (by assumption) ?_
  rotate_left 1
  · intro w' hSw; (try dsimp only at hSw); go_simp; (try with_reducible rfl)
  simp only [Act.put, List.setIfInBounds_toArray, List.set_cons_zero, List.set_cons_succ]
  refine wpAnyH_take (i := 2) (oi := { dst := some 23, op := Op.move (Operand.tmp 0), type := 30, pos := "ecs.go:95", after := #[], guard := none }) (v := ?_) rfl (by kernel_rfl) (by kernel_rfl) (by kernel_rfl) (fun _ _ _ h => h) (Or.inl ⟨by rfl, ?_⟩) (by assumption) ?_
  rotate_left 1
  · intro w' hSw; (try dsimp only at hSw); go_simp; (try with_reducible rfl)
  simp only [Act.put, List.setIfInBounds_toArray, List.set_cons_zero, List.set_cons_succ]
  refine wpAnyH_take (i := 3) (oi := { dst := some 24, op := Op.nilCheck (Operand.tmp 23), type := 0, pos := "ecs.go:95", after := #[{ on := 2, ground := Ground.data }], guard := none }) (v := ?_) rfl (by kernel_rfl) (by kernel_rfl) (by kernel_rfl) (fun _ _ _ h => h) (Or.inl ⟨by rfl, ?_⟩) (by assumption) ?_
  rotate_left 1
  · intro w' hSw; (try dsimp only at hSw); go_simp; (try with_reducible rfl)
  simp only [Act.put, List.setIfInBounds_toArray, List.set_cons_zero, List.set_cons_succ]
  refine wpAnyH_take (i := 4) (oi := { dst := some 25, op := Op.fieldAddr 88 (Operand.tmp 24) 2, type := 0, pos := "ecs.go:95", after := #[{ on := 3, ground := Ground.data }], guard := none }) (v := ?_) rfl (by kernel_rfl) (by kernel_rfl) (by kernel_rfl) (fun _ _ _ h => h) (Or.inl ⟨by rfl, ?_⟩) (by assumption) ?_
  rotate_left 1
  · intro w' hSw; (try dsimp only at hSw); go_simp; (try with_reducible rfl)
  simp only [Act.put, List.setIfInBounds_toArray, List.set_cons_zero, List.set_cons_succ]
  refine wpAnyH_take (i := 5) (oi := { dst := some 26, op := Op.load 84 (Operand.tmp 25), type := 84, pos := "ecs.go:95", after := #[{ on := 4, ground := Ground.data }], guard := none }) (v := ?_) rfl (by kernel_rfl) (by kernel_rfl) (by kernel_rfl) (fun _ _ _ h => h) (Or.inl ⟨by rfl, ?_⟩) (by assumption) ?_
  rotate_left 1
  · intro w' hSw; (try dsimp only at hSw); go_simp; (try with_reducible rfl)
  simp only [Act.put, List.setIfInBounds_toArray, List.set_cons_zero, List.set_cons_succ]
  refine wpAnyH_ready (rs := [6]) (by kernel_rfl) (by simp) ?_
  refine AllReadyH.cons (o := { dst := some 27, op := Op.call { callee := Callee.value (Operand.func 78), args := #[Operand.tmp 26, Operand.const (Value.int IntKind.u64 0)], argTypes := #[84, 26] }, type := 3, pos := "ecs.go:95", after := #[{ on := 5, ground := Ground.data }], guard := none }) rfl (fun K' hK => ?_) AllReadyH.nil
  go_simp
  go_at_call 78; refine CN.out.mono ?_; rintro e w5 ⟨rfl, gr5, h5, hG5⟩
  obtain ⟨s5, CB⟩ := CA.out w5 gr5 h5 hG5
  have CB := Lib.hid CB
  clear h5 hG5
  refine hK.out _ _ s5 (fun hHeld => ?_)
  clear hK K'
  try simp only [Act.put, List.setIfInBounds_toArray, List.set_cons_zero, List.set_cons_succ]
  refine wpAnyH_ready (rs := [7]) (by kernel_rfl) (by simp) ?_
  refine AllReadyH.cons (o := { dst := some 28, op := Op.call { callee := Callee.value (Operand.func 77), args := #[Operand.tmp 21, Operand.tmp 22, Operand.tmp 27, Operand.const (Value.slice none 0 0)], argTypes := #[30, 39, 3, 101] }, type := 0, pos := "ecs.go:95", after := #[{ on := 0, ground := Ground.data }, { on := 1, ground := Ground.data }, { on := 6, ground := Ground.data }, { on := 6, ground := Ground.chain }], guard := none }) rfl (fun K' hK => ?_) AllReadyH.nil
  go_simp
  go_at_call 77; refine CB.out.mono ?_; rintro e w6 ⟨rfl, hX, s6, r6, r60⟩
  have HX := Lib.hid (And.intro hX (And.intro r6 r60))
  clear hX r6 r60
  refine hK.out _ _ s6 (fun hHeld => ?_)
  clear hK K'
  try simp only [Act.put]
  refine wpAnyH_done (by kernel_rfl) ?_ _
  refine NoPanic.normal ?_
  clear s4 s5 s6 hHeld
  go_wp2_with (first
    | (with_reducible refine wpList_ldP rfl (.tmp 4) rfl rfl HX.out.2.1 ?_)
    | ((with_reducible refine wpList_stP rfl (.tmp 2) (.tmp 29) rfl rfl rfl HX.out.2.2 ?_); intro w7 hR7 hF7))
  refine bodyPost_ret (res_ct rfl rfl (hR7.load idT rfl)) rfl ?_
  obtain ⟨⟨gr', pt', h', hG', z, _⟩, r6, r60⟩ := HX.out
  refine ⟨rfl, gr', ⟨pt', h'.kept hF7 (fun y hy e => hy (by rw [show y = w.heap.size from e]; exact z))⟩, hG'.more hF7 (fun y hy => .inr (by rw [show y = w.heap.size from hy]; exact Nat.le_refl _))⟩
end
end Go.Proofs.YtddiadpbkjdomaaGreatDoor
namespace Go.Proofs.YtddiadpbkjdomaaGreatDoor
open Go.RowKit

theorem Has_any (s : Nat) (c : Int) (w : World) (hs : s < 18446744073709551616) :
    Calls Tryz.prog 81 #[.int .u64 s, .int .i64 c] w fun e w' => e = .returned (.bool (decide (0 ≤ c ∧ c < 64 ∧ s.testBit c.toNat = true))) ∧ Below w.heap.size w w' := by
  obtain ⟨w1, hw1⟩ : ∃ w1, w1 = w.alloc (.cells #[.int .i64 c] 3) := ⟨_, rfl⟩
  have hB : Below w.heap.size w w1 := by rw [hw1]; exact (Below.refl _ _).alloc (Nat.le_refl _) _
  have C := Lib.hid (Of_any (some ⟨w.heap.size, 0, none⟩) 1 1 [c] w1 (by rw [hw1]; exact one_ird w c) (by decide))
  have hA := Lib.hid (Apart_any s (orL [c]) w1 hs (orL_lt _))
  rw [hasN] at hA
  have HB := Lib.hid hB
  obtain ⟨o, ho⟩ : ∃ o, o = orL [c] := ⟨_, rfl⟩
  rw [← ho] at C hA
  obtain ⟨q, hq⟩ : ∃ q, q = decide (0 ≤ c ∧ c < 64 ∧ s.testBit c.toNat = true) := ⟨_, rfl⟩
  rw [← hq] at hA ⊢
  clear hB ho hq
  go_enter Tryz.func81, Tryz.ntmps81
  go_wp2_with (rw [← hw1]; clear hw1)
  refine C.out.mono ?_
  rintro e w' ⟨rfl, rfl⟩
  go_wp2_with fail
  refine hA.out.mono ?_
  rintro e w' ⟨rfl, rfl⟩
  go_wp2
  go_ret
  exact ⟨by simp, HB.out⟩
end Go.Proofs.YtddiadpbkjdomaaGreatDoor
