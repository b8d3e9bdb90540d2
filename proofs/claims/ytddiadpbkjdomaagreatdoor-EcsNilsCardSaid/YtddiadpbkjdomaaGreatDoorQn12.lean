/- EcB, EcC -/
import Derived.Test.YtddiadpbkjdomaaGreatDoorQn11
namespace Go.Proofs.YtddiadpbkjdomaaGreatDoor
open Go.RowKit
set_option maxRecDepth 20000

/-- An entity as a step finds it; none. -/
abbrev enC (n r : Nat) (i g : Int) (q : Option Addr) : Array Value := #[.int .i64 (n : Int), .int .i64 (r : Int), .int .i64 i, .int .i64 g, .pointer q]
abbrev enZ : Array Value := #[.int .i64 0, .int .i64 0, .int .i64 0, .int .i64 0, .pointer none]
theorem enZ_size : enZ.size = 5 := rfl
abbrev plC (n r : Nat) : Array Value := #[.int .i64 (n : Int), .int .i64 (r : Int)]
theorem zeroPl (w : World) : (zeroValue 107).run Tryz.prog w = .ok (.agg #[.int .i64 0, .int .i64 0]) w := by kernel_rfl
theorem zeroTp (w : World) : (zeroValue 108).run Tryz.prog w = .ok (.pointer none) w := by kernel_rfl
section
variable {ops : Array Oper} {rest : List Oper} {o : Oper} {a : Act} {w : World} {Q : Exit → Act → World → Prop} {g : Nat}
theorem wpList_ldN {n r : Nat} {i j : Int} {q : Option Addr} (hgd : Region.wanted o (yielded ops a.tmps) = true) (x : Operand) (ho : o.op = .load 110 x)
    (hx : a.eval x = .pointer (some ⟨g, 0, none⟩)) (h : Rec 110 w g (enC n r i j q)) (kk : wpList Tryz.prog ops Q rest (a.put o.dst (.agg (enC n r i j q))) w) : wpList Tryz.prog ops Q (o :: rest) a w := wpList_ldS entT rfl hgd x ho hx h kk
theorem wpList_stN {cs : Array Value} (n r : Nat) (i j : Int) (q : Option Addr) (hn : cs.size = 5) (hgd : Region.wanted o (yielded ops a.tmps) = true) (x y : Operand) (ho : o.op = .store 110 x y)
    (hx : a.eval x = .pointer (some ⟨g, 0, none⟩)) (hy : a.eval y = .agg (enC n r i j q)) (h : Rec 110 w g cs)
    (kk : ∀ w', Rec 110 w' g (enC n r i j q) → Fr (· = g) w w' → wpList Tryz.prog ops Q rest (a.put o.dst undef) w') : wpList Tryz.prog ops Q (o :: rest) a w := wpList_stS entT hn rfl (by simp [Value.oneCell']) hgd x y ho hx hy h kk
theorem wpList_stNz {cs : Array Value} (hn : cs.size = 5) (hgd : Region.wanted o (yielded ops a.tmps) = true) (x y : Operand) (ho : o.op = .store 110 x y)
    (hx : a.eval x = .pointer (some ⟨g, 0, none⟩)) (hy : a.eval y = .agg enZ) (h : Rec 110 w g cs)
    (kk : ∀ w', Rec 110 w' g enZ → Fr (· = g) w w' → wpList Tryz.prog ops Q rest (a.put o.dst undef) w') : wpList Tryz.prog ops Q (o :: rest) a w := wpList_stS entT hn rfl (by simp [Value.oneCell']) hgd x y ho hx hy h kk
theorem step_stN {J : Act → World → Prop} {E : Prop} {cs : Array Value} (n r : Nat) (i j : Int) (q : Option Addr) (hn : cs.size = 5) (hgd : o.guard = none) (x y : Operand) (ho : o.op = .store 110 x y)
    (hx : a.eval x = .pointer (some ⟨g, 0, none⟩)) (hy : a.eval y = .agg (enC n r i j q)) (h : Rec 110 w g cs)
    (kk : ∀ w', Rec 110 w' g (enC n r i j q) → Fr (· = g) w w' → J (a.put o.dst undef) w') : if Region.wanted o (yielded ops a.tmps) = true then Oper.wp Tryz.prog o a w J Q else E := step_stS entT hn rfl (by simp [Value.oneCell']) hgd x y ho hx hy h kk
theorem step_stPl {J : Act → World → Prop} {E : Prop} {cs : Array Value} (n r : Nat) (hn : cs.size = 2) (hgd : o.guard = none) (x y : Operand) (ho : o.op = .store 107 x y)
    (hx : a.eval x = .pointer (some ⟨g, 0, none⟩)) (hy : a.eval y = .agg (plC n r)) (h : Rec 107 w g cs)
    (kk : ∀ w', Rec 107 w' g (plC n r) → Fr (· = g) w w' → J (a.put o.dst undef) w') : if Region.wanted o (yielded ops a.tmps) = true then Oper.wp Tryz.prog o a w J Q else E := step_stS plaT hn rfl (by simp [Value.oneCell']) hgd x y ho hx hy h kk
end

section
variable {w : World} {N : Nat} {gr : Nat → Nat} {x : Fx} {k : Ks} {c : Nat} {pt : Nat → Nat}
theorem CoJ.lookP (h : CoJ 0 w N gr x k c pt) {id : Int × Int} (hw : okE id) : (Instr.lookup 86 (.map (some x.mp)) (.agg #[.int .i64 id.1, .int .i64 id.2]) true).run Tryz.prog w = .ok (.tuple #[((k.pl id).map plV).getD (.agg #[.int .i64 0, .int .i64 0]), .bool (k.pl id).isSome]) w := by
  obtain ⟨np, _, hm⟩ := h.mpp (by decide)
  have := MapE.look_ok kfD hm Tryz.underlying86 (zeroPl w) hw
  rw [show (plF k.pl id).isSome = (k.pl id).isSome by unfold plF; simp] at this
  exact this
theorem CoJ.lookT (h : CoJ 0 w N gr x k c pt) {n : Nat} (hn : okN n) : (Instr.lookup 85 (.map (some x.mt)) (.int .i64 (n : Int)) false).run Tryz.prog w = .ok ((tbV k.tb pt n).getD (.pointer none)) w := by
  obtain ⟨nt, _, hm⟩ := h.mpt (by decide)
  exact MapE.look kfN hm Tryz.underlying85 (zeroTp w) hn
theorem CoJ.lookT_ok (h : CoJ 0 w N gr x k c pt) {n : Nat} (hn : okN n) : (Instr.lookup 85 (.map (some x.mt)) (.int .i64 (n : Int)) true).run Tryz.prog w = .ok (.tuple #[(tbV k.tb pt n).getD (.pointer none), .bool (tbV k.tb pt n).isSome]) w := by
  obtain ⟨nt, _, hm⟩ := h.mpt (by decide)
  exact MapE.look_ok kfN hm Tryz.underlying85 (zeroTp w) hn
theorem CoJ.c8 (h : CoJ 0 w N gr x k c pt) : w.cell? ⟨x.p, 8, none⟩ = some (.map (some x.mp)) := h.cell 8
theorem CoJ.c7 (h : CoJ 0 w N gr x k c pt) : w.cell? ⟨x.p, 7, none⟩ = some (.map (some x.mt)) := h.cell 7
theorem CoJ.c6 (h : CoJ 0 w N gr x k c pt) : w.cell? ⟨x.p, 6, none⟩ = some (.pointer (some ⟨x.pg, 0, none⟩)) := h.cell 6
theorem CoJ.c5 (h : CoJ 0 w N gr x k c pt) : w.cell? ⟨x.p, 5, none⟩ = some (.pointer (some ⟨x.pi, 0, none⟩)) := h.cell 5

/-- The two blocks that find lays first. -/
theorem find_start (w : World) (i g : Int) : ∃ w1, w1 = (w.alloc (.cells #[.int .i64 i, .int .i64 g] 39)).alloc (.cells enZ 110) ∧ Below w.heap.size w w1 ∧ Rec 39 w1 w.heap.size #[.int .i64 i, .int .i64 g] ∧ Rec 110 w1 (w.heap.size + 1) enZ ∧ w1.heap.size = w.heap.size + 2 := by
  refine ⟨_, rfl, ((Below.refl _ _).alloc (Nat.le_refl _) _).alloc (by simp) _, (Rec.new w _ _).under ((Below.refl _ _).alloc (Nat.le_refl _) _), ?_, by simp⟩
  have := Rec.new (w.alloc (.cells #[.int .i64 i, .int .i64 g] 39)) 110 enZ
  rw [World.size_alloc] at this
  exact this
theorem efind_nil (i g : Int) (w : World) :
    Calls Tryz.prog 52 #[.pointer none, .agg #[.int .i64 i, .int .i64 g]] w fun e w' => e = .returned (.tuple #[.agg enZ, .int .i64 4]) ∧ Below w.heap.size w w' := by
  obtain ⟨w1, hw1, hb1, r1, r2, hs1⟩ := find_start w i g
  have HB := Lib.hid (And.intro hb1 (And.intro r2 hs1))
  clear hb1 r1 r2 hs1
  go_enter Tryz.func52, Tryz.ntmps52
  go_wp2_with (first
    | (rw [← hw1]; clear hw1)
    | ((with_reducible refine wpList_stNz enZ_size rfl (.tmp 4) (.tmp 10) rfl rfl rfl HB.out.2.1 ?_); intro w5 hR5 hF5))
  refine bodyPost_ret (res_ct rfl rfl (hR5.load entT rfl)) rfl ?_
  exact ⟨rfl, HB.out.1.trans (hF5.toBelow (fun y hy => by rw [show y = w.heap.size + 1 from hy]; omega) HB.out.1.size)⟩

theorem efind_no (h : CoJ 0 w N gr x k c pt) {i g : Int} (hw : okE (i, g)) (hp : k.pl (i, g) = none) :
    Calls Tryz.prog 52 #[.pointer (some ⟨x.p, 0, none⟩), .agg #[.int .i64 i, .int .i64 g]] w fun e w' => e = .returned (.tuple #[.agg enZ, .int .i64 5]) ∧ Below w.heap.size w w' := by
  obtain ⟨w1, hw1, hb1, r1, r2, hs1⟩ := find_start w i g
  have h1 := h.below hb1
  have hNp : x.p < w.heap.size := h.blk.lt
  have LP : Hid (∀ W, Below w1.heap.size w1 W → (W.cell? ⟨x.p, 8, none⟩ = some (.map (some x.mp)) ∧ (W.cell? ⟨w.heap.size, 0, none⟩ = some (.int .i64 i) ∧ W.cell? ⟨w.heap.size, 1, none⟩ = some (.int .i64 g)) ∧ (Instr.lookup 86 (.map (some x.mp)) (.agg #[.int .i64 i, .int .i64 g]) true).run Tryz.prog W = .ok (.tuple #[.agg #[.int .i64 0, .int .i64 0], .bool false]) W)) := Lib.hid (fun W hb => by
    have hW := h1.below hb
    have L := hW.lookP hw
    rw [hp] at L
    have r1' := r1.under hb
    exact ⟨hW.c8, ⟨r1'.at_ 0, r1'.at_ 1⟩, L⟩)
  obtain ⟨w2, hw2⟩ : ∃ w2, w2 = (w1.alloc (.cells #[.int .i64 0, .int .i64 0] 107)).drew := ⟨_, rfl⟩
  have hb2 : Below w1.heap.size w1 w2 := by rw [hw2]; exact ((Below.refl _ _).alloc (Nat.le_refl _) _).drew
  have R2 := Lib.hid (show Rec 107 w2 w1.heap.size #[.int .i64 0, .int .i64 0] by rw [hw2]; exact Rec.new w1 _ _)
  have HW2 := Lib.hid hw2
  have HB2 := Lib.hid hb2
  have HB := Lib.hid (And.intro hb1 (And.intro r1 (And.intro r2 hs1)))
  have H1 := Lib.hid h1
  have HDm0 := Lib.hid h.dom
  have s1 := LP.out w1.drew ((Below.refl _ _).drew)
  have s2 := LP.out w2 hb2
  clear h h1 hb1 r1 r2 hs1 hw2 hb2 hw hp
  go_enter Tryz.func52, Tryz.ntmps52
  go_upto_region 3 with (rw [← hw1]; clear hw1)
  refine wp_region_noPanic ?_
  refine wp_region_held_drew (S := fun W => W.cell? ⟨x.p, 8, none⟩ = some (.map (some x.mp)) ∧ (W.cell? ⟨w.heap.size, 0, none⟩ = some (.int .i64 i) ∧ W.cell? ⟨w.heap.size, 1, none⟩ = some (.int .i64 g)) ∧ (Instr.lookup 86 (.map (some x.mp)) (.agg #[.int .i64 i, .int .i64 g]) true).run Tryz.prog W = .ok (.tuple #[.agg #[.int .i64 0, .int .i64 0], .bool false]) W) (by kernel_rfl) s1 (fun hHeld => ?_)
  refine wpAnyH_take (i := 0) (oi := { dst := some 12, op := Op.move (Operand.tmp 0), type := 30, pos := "ecs.go:209", after := #[], guard := none }) (v := ?_) rfl (by kernel_rfl) (by kernel_rfl) (by kernel_rfl) (fun _ _ _ h => h) (Or.inl ⟨by rfl, ?_⟩) (by assumption) ?_
  rotate_left 1
  · intro w' hSw; (try dsimp only at hSw); go_simp; (try with_reducible rfl)
  simp only [Act.put, List.setIfInBounds_toArray, List.set_cons_zero, List.set_cons_succ]
  refine wpAnyH_take (i := 1) (oi := { dst := some 13, op := Op.nilCheck (Operand.tmp 12), type := 0, pos := "ecs.go:209", after := #[{ on := 0, ground := Ground.data }], guard := none }) (v := ?_) rfl (by kernel_rfl) (by kernel_rfl) (by kernel_rfl) (fun _ _ _ h => h) (Or.inl ⟨by rfl, ?_⟩) (by assumption) ?_
  rotate_left 1
  · intro w' hSw; (try dsimp only at hSw); go_simp; (try with_reducible rfl)
  simp only [Act.put, List.setIfInBounds_toArray, List.set_cons_zero, List.set_cons_succ]
  refine wpAnyH_take (i := 2) (oi := { dst := some 14, op := Op.fieldAddr 88 (Operand.tmp 13) 4, type := 0, pos := "ecs.go:209", after := #[{ on := 1, ground := Ground.data }], guard := none }) (v := ?_) rfl (by kernel_rfl) (by kernel_rfl) (by kernel_rfl) (fun _ _ _ h => h) (Or.inl ⟨by rfl, ?_⟩) (by assumption) ?_
  rotate_left 1
  · intro w' hSw; (try dsimp only at hSw); go_simp; (try with_reducible rfl)
  simp only [Act.put, List.setIfInBounds_toArray, List.set_cons_zero, List.set_cons_succ]
  refine wpAnyH_take (i := 3) (oi := { dst := some 15, op := Op.load 86 (Operand.tmp 14), type := 86, pos := "ecs.go:209", after := #[{ on := 2, ground := Ground.data }], guard := none }) (v := ?_) rfl (by kernel_rfl) (by kernel_rfl) (by kernel_rfl) (fun _ _ _ h => h) (Or.inl ⟨by rfl, ?_⟩) (by assumption) ?_
  rotate_left 1
  · intro w' hSw; (try dsimp only at hSw); go_simp; (try with_reducible rfl)
  simp only [Act.put, List.setIfInBounds_toArray, List.set_cons_zero, List.set_cons_succ]
  refine wpAnyH_take (i := 4) (oi := { dst := some 16, op := Op.load 39 (Operand.tmp 3), type := 39, pos := "ecs.go:209", after := #[], guard := none }) (v := ?_) rfl (by kernel_rfl) (by kernel_rfl) (by kernel_rfl) (fun _ _ _ h => h) (Or.inl ⟨by rfl, ?_⟩) (by assumption) ?_
  rotate_left 1
  · intro w' hSw; (try dsimp only at hSw); go_simp; (try with_reducible rfl)
  simp only [Act.put, List.setIfInBounds_toArray, List.set_cons_zero, List.set_cons_succ]
  refine wpAnyH_take (i := 5) (oi := { dst := some 17, op := Op.lookup 86 (Operand.tmp 15) (Operand.tmp 16) true, type := 181, pos := "ecs.go:209", after := #[{ on := 3, ground := Ground.data }, { on := 4, ground := Ground.data }], guard := none }) (v := ?_) rfl (by kernel_rfl) (by kernel_rfl) (by kernel_rfl) (fun _ _ _ h => h) (Or.inl ⟨by rfl, ?_⟩) (by assumption) ?_
  rotate_left 1
  · intro w' hSw; (try dsimp only at hSw); go_simp; (try with_reducible rfl)
  simp only [Act.put, List.setIfInBounds_toArray, List.set_cons_zero, List.set_cons_succ]
  refine wpAnyH_take (i := 6) (oi := { dst := some 11, op := Op.move (Operand.tmp 17), type := 181, pos := "ecs.go:209", after := #[{ on := 5, ground := Ground.data }], guard := none }) (v := ?_) rfl (by kernel_rfl) (by kernel_rfl) (by kernel_rfl) (fun _ _ _ h => h) (Or.inl ⟨by rfl, ?_⟩) (by assumption) ?_
  rotate_left 1
  · intro w' hSw; (try dsimp only at hSw); go_simp; (try with_reducible rfl)
  simp only [Act.put, List.setIfInBounds_toArray, List.set_cons_zero, List.set_cons_succ]
  refine wpAnyH_take (i := 7) (oi := { dst := some 18, op := Op.extract (Operand.tmp 11) 0, type := 107, pos := "ecs.go:209", after := #[{ on := 6, ground := Ground.data }], guard := none }) (v := ?_) rfl (by kernel_rfl) (by kernel_rfl) (by kernel_rfl) (fun _ _ _ h => h) (Or.inl ⟨by rfl, ?_⟩) (by assumption) ?_
  rotate_left 1
  · intro w' hSw; (try dsimp only at hSw); go_simp; (try with_reducible rfl)
  simp only [Act.put, List.setIfInBounds_toArray, List.set_cons_zero, List.set_cons_succ]
  refine wpAnyH_take (i := 8) (oi := { dst := some 19, op := Op.extract (Operand.tmp 11) 1, type := 4, pos := "ecs.go:209", after := #[{ on := 6, ground := Ground.data }, { on := 10, ground := Ground.gcOnly Departure.lateStores }], guard := none }) (v := ?_) rfl (by kernel_rfl) (by kernel_rfl) (by kernel_rfl) (fun _ _ _ h => h) (Or.inl ⟨by rfl, ?_⟩) (by assumption) ?_
  rotate_left 1
  · intro w' hSw; (try dsimp only at hSw); go_simp; (try with_reducible rfl)
  simp only [Act.put, List.setIfInBounds_toArray, List.set_cons_zero, List.set_cons_succ]
  refine wpAnyH_ready (rs := [9]) (by kernel_rfl) (by simp) ?_
  refine AllReadyH.cons (o := { dst := some 6, op := Op.alloc 107, type := 0, pos := "ecs.go:209", after := #[], guard := none }) rfl (fun K' hK => ?_) AllReadyH.nil
  go_simp
  rw [← HW2.out]
  refine hK.out _ _ s2 (fun hHeld => ?_)
  clear hK K'
  try simp only [Act.put, List.setIfInBounds_toArray, List.set_cons_zero, List.set_cons_succ]
  refine wpAnyH_ready (rs := [10]) (by kernel_rfl) (by simp) ?_
  refine AllReadyH.cons (o := { dst := none, op := Op.store 107 (Operand.tmp 6) (Operand.tmp 18), type := 0, pos := "ecs.go:209", after := #[{ on := 9, ground := Ground.data }, { on := 7, ground := Ground.data }, { on := 0, ground := Ground.phase }, { on := 1, ground := Ground.phase }, { on := 2, ground := Ground.phase }, { on := 3, ground := Ground.phase }, { on := 4, ground := Ground.phase }, { on := 5, ground := Ground.phase }, { on := 6, ground := Ground.phase }, { on := 7, ground := Ground.phase }, { on := 8, ground := Ground.textOnly Departure.lateStores }, { on := 9, ground := Ground.phase }], guard := none }) rfl (fun K' hK => ?_) AllReadyH.nil
  refine step_stPl 0 0 rfl rfl (.tmp 6) (.tmp 18) rfl rfl rfl R2.out ?_
  intro w3 hR3 hF3
  have hb3 : Below w1.heap.size w1 w3 := HB2.out.trans (hF3.toBelow (fun y hy => by rw [show y = w1.heap.size from hy]; exact Nat.le_refl _) HB2.out.size)
  have s3 := LP.out w3 hb3
  refine hK.out _ _ s3 (fun hHeld => ?_)
  clear hK K'
  try simp only [Act.put]
  refine wpAnyH_take (i := 11) (oi := { dst := some 7, op := Op.assign (Operand.tmp 19), type := 4, pos := "ecs.go:209", after := #[{ on := 8, ground := Ground.data }, { on := 10, ground := Ground.chain }, { on := 0, ground := Ground.phase }, { on := 1, ground := Ground.phase }, { on := 2, ground := Ground.phase }, { on := 3, ground := Ground.phase }, { on := 4, ground := Ground.phase }, { on := 5, ground := Ground.phase }, { on := 6, ground := Ground.phase }, { on := 7, ground := Ground.phase }, { on := 8, ground := Ground.phase }, { on := 9, ground := Ground.phase }, { on := 10, ground := Ground.phase }], guard := none }) (v := ?_) rfl (by kernel_rfl) (by kernel_rfl) (by kernel_rfl) (fun _ _ _ h => h) (Or.inl ⟨by rfl, ?_⟩) (by assumption) ?_
  rotate_left 1
  · intro w' hSw; (try dsimp only at hSw); go_simp; (try with_reducible rfl)
  simp only [Act.put, List.setIfInBounds_toArray, List.set_cons_zero, List.set_cons_succ]
  refine wpAnyH_done (by kernel_rfl) ?_ _
  refine NoPanic.normal ?_
  clear s1 s2 s3 hHeld
  have HB3 := Lib.hid (HB.out.1.trans (hb3.mono HB.out.1.size))
  have HR2e := Lib.hid (HB.out.2.2.1.under hb3)
  go_wp2_with ((with_reducible refine wpList_stNz enZ_size rfl (.tmp 4) (.tmp 22) rfl rfl rfl HR2e.out ?_); intro w5 hR5 hF5)
  refine bodyPost_ret (res_ct rfl rfl (hR5.load entT rfl)) rfl ?_
  exact ⟨rfl, HB3.out.trans (hF5.toBelow (fun y hy => by rw [show y = w.heap.size + 1 from hy]; omega) HB3.out.size)⟩

theorem efind_yes (h : CoJ 0 w N gr x k c pt) {i g : Int} (hw : okE (i, g)) {n r : Nat} {t : Tb} (hp : k.pl (i, g) = some (n, r)) (ht : k.tb n = some t) (hn : okN n) :
    Calls Tryz.prog 52 #[.pointer (some ⟨x.p, 0, none⟩), .agg #[.int .i64 i, .int .i64 g]] w fun e w' => e = .returned (.tuple #[.agg (enC n r i g (some ⟨pt n, 0, none⟩)), .int .i64 0]) ∧ Below w.heap.size w w' := by
  obtain ⟨w1, hw1, hb1, r1, r2, hs1⟩ := find_start w i g
  have h1 := h.below hb1
  have hNp : x.p < w.heap.size := h.blk.lt
  have LT : Hid (∀ W, CoJ 0 W N gr x k c pt → W.cell? ⟨x.p, 7, none⟩ = some (.map (some x.mt)) ∧ (Instr.lookup 85 (.map (some x.mt)) (.int .i64 (n : Int)) false).run Tryz.prog W = .ok (.pointer (some ⟨pt n, 0, none⟩)) W) := Lib.hid (fun W hW => by
    have L := hW.lookT hn
    rw [show (tbV k.tb pt n).getD (.pointer none) = .pointer (some ⟨pt n, 0, none⟩) by unfold tbV; rw [ht]; rfl] at L
    exact ⟨hW.c7, L⟩)
  have LP : Hid (∀ W, Below w1.heap.size w1 W → (W.cell? ⟨x.p, 8, none⟩ = some (.map (some x.mp)) ∧ (W.cell? ⟨w.heap.size, 0, none⟩ = some (.int .i64 i) ∧ W.cell? ⟨w.heap.size, 1, none⟩ = some (.int .i64 g)) ∧ (Instr.lookup 86 (.map (some x.mp)) (.agg #[.int .i64 i, .int .i64 g]) true).run Tryz.prog W = .ok (.tuple #[.agg #[.int .i64 (n : Int), .int .i64 (r : Int)], .bool true]) W)) := Lib.hid (fun W hb => by
    have hW := h1.below hb
    have L := hW.lookP hw
    rw [hp] at L
    have r1' := r1.under hb
    exact ⟨hW.c8, ⟨r1'.at_ 0, r1'.at_ 1⟩, L⟩)
  obtain ⟨w2, hw2⟩ : ∃ w2, w2 = (w1.alloc (.cells #[.int .i64 0, .int .i64 0] 107)).drew := ⟨_, rfl⟩
  have hb2 : Below w1.heap.size w1 w2 := by rw [hw2]; exact ((Below.refl _ _).alloc (Nat.le_refl _) _).drew
  have R2 := Lib.hid (show Rec 107 w2 w1.heap.size #[.int .i64 0, .int .i64 0] by rw [hw2]; exact Rec.new w1 _ _)
  have HW2 := Lib.hid hw2
  have HB2 := Lib.hid hb2
  have HB := Lib.hid (And.intro hb1 (And.intro r1 (And.intro r2 hs1)))
  have H1 := Lib.hid h1
  have HDm0 := Lib.hid h.dom
  have s1 := LP.out w1.drew ((Below.refl _ _).drew)
  have s2 := LP.out w2 hb2
  clear h h1 hb1 r1 r2 hs1 hw2 hb2 hw hp
  go_enter Tryz.func52, Tryz.ntmps52
  go_upto_region 3 with (rw [← hw1]; clear hw1)
  refine wp_region_noPanic ?_
  refine wp_region_held_drew (S := fun W => W.cell? ⟨x.p, 8, none⟩ = some (.map (some x.mp)) ∧ (W.cell? ⟨w.heap.size, 0, none⟩ = some (.int .i64 i) ∧ W.cell? ⟨w.heap.size, 1, none⟩ = some (.int .i64 g)) ∧ (Instr.lookup 86 (.map (some x.mp)) (.agg #[.int .i64 i, .int .i64 g]) true).run Tryz.prog W = .ok (.tuple #[.agg #[.int .i64 (n : Int), .int .i64 (r : Int)], .bool true]) W) (by kernel_rfl) s1 (fun hHeld => ?_)
  refine wpAnyH_take (i := 0) (oi := { dst := some 12, op := Op.move (Operand.tmp 0), type := 30, pos := "ecs.go:209", after := #[], guard := none }) (v := ?_) rfl (by kernel_rfl) (by kernel_rfl) (by kernel_rfl) (fun _ _ _ h => h) (Or.inl ⟨by rfl, ?_⟩) (by assumption) ?_
  rotate_left 1
  · intro w' hSw; (try dsimp only at hSw); go_simp; (try with_reducible rfl)
  simp only [Act.put, List.setIfInBounds_toArray, List.set_cons_zero, List.set_cons_succ]
  refine wpAnyH_take (i := 1) (oi := { dst := some 13, op := Op.nilCheck (Operand.tmp 12), type := 0, pos := "ecs.go:209", after := #[{ on := 0, ground := Ground.data }], guard := none }) (v := ?_) rfl (by kernel_rfl) (by kernel_rfl) (by kernel_rfl) (fun _ _ _ h => h) (Or.inl ⟨by rfl, ?_⟩) (by assumption) ?_
  rotate_left 1
  · intro w' hSw; (try dsimp only at hSw); go_simp; (try with_reducible rfl)
  simp only [Act.put, List.setIfInBounds_toArray, List.set_cons_zero, List.set_cons_succ]
  refine wpAnyH_take (i := 2) (oi := { dst := some 14, op := Op.fieldAddr 88 (Operand.tmp 13) 4, type := 0, pos := "ecs.go:209", after := #[{ on := 1, ground := Ground.data }], guard := none }) (v := ?_) rfl (by kernel_rfl) (by kernel_rfl) (by kernel_rfl) (fun _ _ _ h => h) (Or.inl ⟨by rfl, ?_⟩) (by assumption) ?_
  rotate_left 1
  · intro w' hSw; (try dsimp only at hSw); go_simp; (try with_reducible rfl)
  simp only [Act.put, List.setIfInBounds_toArray, List.set_cons_zero, List.set_cons_succ]
  refine wpAnyH_take (i := 3) (oi := { dst := some 15, op := Op.load 86 (Operand.tmp 14), type := 86, pos := "ecs.go:209", after := #[{ on := 2, ground := Ground.data }], guard := none }) (v := ?_) rfl (by kernel_rfl) (by kernel_rfl) (by kernel_rfl) (fun _ _ _ h => h) (Or.inl ⟨by rfl, ?_⟩) (by assumption) ?_
  rotate_left 1
  · intro w' hSw; (try dsimp only at hSw); go_simp; (try with_reducible rfl)
  simp only [Act.put, List.setIfInBounds_toArray, List.set_cons_zero, List.set_cons_succ]
  refine wpAnyH_take (i := 4) (oi := { dst := some 16, op := Op.load 39 (Operand.tmp 3), type := 39, pos := "ecs.go:209", after := #[], guard := none }) (v := ?_) rfl (by kernel_rfl) (by kernel_rfl) (by kernel_rfl) (fun _ _ _ h => h) (Or.inl ⟨by rfl, ?_⟩) (by assumption) ?_
  rotate_left 1
  · intro w' hSw; (try dsimp only at hSw); go_simp; (try with_reducible rfl)
  simp only [Act.put, List.setIfInBounds_toArray, List.set_cons_zero, List.set_cons_succ]
  refine wpAnyH_take (i := 5) (oi := { dst := some 17, op := Op.lookup 86 (Operand.tmp 15) (Operand.tmp 16) true, type := 181, pos := "ecs.go:209", after := #[{ on := 3, ground := Ground.data }, { on := 4, ground := Ground.data }], guard := none }) (v := ?_) rfl (by kernel_rfl) (by kernel_rfl) (by kernel_rfl) (fun _ _ _ h => h) (Or.inl ⟨by rfl, ?_⟩) (by assumption) ?_
  rotate_left 1
  · intro w' hSw; (try dsimp only at hSw); go_simp; (try with_reducible rfl)
  simp only [Act.put, List.setIfInBounds_toArray, List.set_cons_zero, List.set_cons_succ]
  refine wpAnyH_take (i := 6) (oi := { dst := some 11, op := Op.move (Operand.tmp 17), type := 181, pos := "ecs.go:209", after := #[{ on := 5, ground := Ground.data }], guard := none }) (v := ?_) rfl (by kernel_rfl) (by kernel_rfl) (by kernel_rfl) (fun _ _ _ h => h) (Or.inl ⟨by rfl, ?_⟩) (by assumption) ?_
  rotate_left 1
  · intro w' hSw; (try dsimp only at hSw); go_simp; (try with_reducible rfl)
  simp only [Act.put, List.setIfInBounds_toArray, List.set_cons_zero, List.set_cons_succ]
  refine wpAnyH_take (i := 7) (oi := { dst := some 18, op := Op.extract (Operand.tmp 11) 0, type := 107, pos := "ecs.go:209", after := #[{ on := 6, ground := Ground.data }], guard := none }) (v := ?_) rfl (by kernel_rfl) (by kernel_rfl) (by kernel_rfl) (fun _ _ _ h => h) (Or.inl ⟨by rfl, ?_⟩) (by assumption) ?_
  rotate_left 1
  · intro w' hSw; (try dsimp only at hSw); go_simp; (try with_reducible rfl)
  simp only [Act.put, List.setIfInBounds_toArray, List.set_cons_zero, List.set_cons_succ]
  refine wpAnyH_take (i := 8) (oi := { dst := some 19, op := Op.extract (Operand.tmp 11) 1, type := 4, pos := "ecs.go:209", after := #[{ on := 6, ground := Ground.data }, { on := 10, ground := Ground.gcOnly Departure.lateStores }], guard := none }) (v := ?_) rfl (by kernel_rfl) (by kernel_rfl) (by kernel_rfl) (fun _ _ _ h => h) (Or.inl ⟨by rfl, ?_⟩) (by assumption) ?_
  rotate_left 1
  · intro w' hSw; (try dsimp only at hSw); go_simp; (try with_reducible rfl)
  simp only [Act.put, List.setIfInBounds_toArray, List.set_cons_zero, List.set_cons_succ]
  refine wpAnyH_ready (rs := [9]) (by kernel_rfl) (by simp) ?_
  refine AllReadyH.cons (o := { dst := some 6, op := Op.alloc 107, type := 0, pos := "ecs.go:209", after := #[], guard := none }) rfl (fun K' hK => ?_) AllReadyH.nil
  go_simp
  rw [← HW2.out]
  refine hK.out _ _ s2 (fun hHeld => ?_)
  clear hK K'
  try simp only [Act.put, List.setIfInBounds_toArray, List.set_cons_zero, List.set_cons_succ]
  refine wpAnyH_ready (rs := [10]) (by kernel_rfl) (by simp) ?_
  refine AllReadyH.cons (o := { dst := none, op := Op.store 107 (Operand.tmp 6) (Operand.tmp 18), type := 0, pos := "ecs.go:209", after := #[{ on := 9, ground := Ground.data }, { on := 7, ground := Ground.data }, { on := 0, ground := Ground.phase }, { on := 1, ground := Ground.phase }, { on := 2, ground := Ground.phase }, { on := 3, ground := Ground.phase }, { on := 4, ground := Ground.phase }, { on := 5, ground := Ground.phase }, { on := 6, ground := Ground.phase }, { on := 7, ground := Ground.phase }, { on := 8, ground := Ground.textOnly Departure.lateStores }, { on := 9, ground := Ground.phase }], guard := none }) rfl (fun K' hK => ?_) AllReadyH.nil
  refine step_stPl n r rfl rfl (.tmp 6) (.tmp 18) rfl rfl rfl R2.out ?_
  intro w3 hR3 hF3
  have hb3 : Below w1.heap.size w1 w3 := HB2.out.trans (hF3.toBelow (fun y hy => by rw [show y = w1.heap.size from hy]; exact Nat.le_refl _) HB2.out.size)
  have s3 := LP.out w3 hb3
  refine hK.out _ _ s3 (fun hHeld => ?_)
  clear hK K'
  try simp only [Act.put]
  refine wpAnyH_take (i := 11) (oi := { dst := some 7, op := Op.assign (Operand.tmp 19), type := 4, pos := "ecs.go:209", after := #[{ on := 8, ground := Ground.data }, { on := 10, ground := Ground.chain }, { on := 0, ground := Ground.phase }, { on := 1, ground := Ground.phase }, { on := 2, ground := Ground.phase }, { on := 3, ground := Ground.phase }, { on := 4, ground := Ground.phase }, { on := 5, ground := Ground.phase }, { on := 6, ground := Ground.phase }, { on := 7, ground := Ground.phase }, { on := 8, ground := Ground.phase }, { on := 9, ground := Ground.phase }, { on := 10, ground := Ground.phase }], guard := none }) (v := ?_) rfl (by kernel_rfl) (by kernel_rfl) (by kernel_rfl) (fun _ _ _ h => h) (Or.inl ⟨by rfl, ?_⟩) (by assumption) ?_
  rotate_left 1
  · intro w' hSw; (try dsimp only at hSw); go_simp; (try with_reducible rfl)
  simp only [Act.put, List.setIfInBounds_toArray, List.set_cons_zero, List.set_cons_succ]
  refine wpAnyH_done (by kernel_rfl) ?_ _
  refine NoPanic.normal ?_
  have HB3 := Lib.hid (HB.out.1.trans (hb3.mono HB.out.1.size))
  have HR2e := Lib.hid (HB.out.2.2.1.under hb3)
  have hWd := (H1.out.below hb3).below (Below.refl _ _).drew
  have sT := LT.out w3.drew hWd
  have r1e := HB.out.2.1.under hb3
  have HWD := Lib.hid hWd
  have HR3 := Lib.hid (And.intro hR3 r1e)
  have HS1 := Lib.hid HB.out.2.2.2
  have HDm := Lib.hid H1.out.dom
  have s6 : ((w3.drew.cell? ⟨x.p, 7, none⟩ = some (.map (some x.mt)) ∧ (Instr.lookup 85 (.map (some x.mt)) (.int .i64 (n : Int)) false).run Tryz.prog w3.drew = .ok (.pointer (some ⟨pt n, 0, none⟩)) w3.drew) ∧ (w3.drew.cell? ⟨w1.heap.size, 0, none⟩ = some (.int .i64 (n : Int)) ∧ w3.drew.cell? ⟨w1.heap.size, 1, none⟩ = some (.int .i64 (r : Int)))) ∧ w3.drew.cell? ⟨w.heap.size, 0, none⟩ = some (.int .i64 i) ∧ w3.drew.cell? ⟨w.heap.size, 1, none⟩ = some (.int .i64 g) := ⟨⟨sT, hR3.at_ 0, hR3.at_ 1⟩, r1e.at_ 0, r1e.at_ 1⟩
  clear s1 s2 s3 hHeld hb3 hWd sT r1e hR3 hF3 LP
  go_upto_region 6 with fail
  refine wp_region_noPanic ?_
  refine wp_region_held_drew (S := fun W => ((W.cell? ⟨x.p, 7, none⟩ = some (.map (some x.mt)) ∧ (Instr.lookup 85 (.map (some x.mt)) (.int .i64 (n : Int)) false).run Tryz.prog W = .ok (.pointer (some ⟨pt n, 0, none⟩)) W) ∧ (W.cell? ⟨w1.heap.size, 0, none⟩ = some (.int .i64 (n : Int)) ∧ W.cell? ⟨w1.heap.size, 1, none⟩ = some (.int .i64 (r : Int)))) ∧ W.cell? ⟨w.heap.size, 0, none⟩ = some (.int .i64 i) ∧ W.cell? ⟨w.heap.size, 1, none⟩ = some (.int .i64 g)) (by kernel_rfl) s6 (fun hHeld => ?_)
  refine wpAnyH_take (i := 0) (oi := { dst := some 23, op := Op.load 107 (Operand.tmp 6), type := 107, pos := "ecs.go:213", after := #[], guard := none }) (v := ?_) rfl (by kernel_rfl) (by kernel_rfl) (by kernel_rfl) (fun _ _ _ h => h) (Or.inl ⟨by rfl, ?_⟩) (by assumption) ?_
  rotate_left 1
  · intro w' hSw; (try dsimp only at hSw); go_simp; (try with_reducible rfl)
  simp only [Act.put, List.setIfInBounds_toArray, List.set_cons_zero, List.set_cons_succ]
  refine wpAnyH_take (i := 1) (oi := { dst := some 24, op := Op.load 39 (Operand.tmp 3), type := 39, pos := "ecs.go:213", after := #[], guard := none }) (v := ?_) rfl (by kernel_rfl) (by kernel_rfl) (by kernel_rfl) (fun _ _ _ h => h) (Or.inl ⟨by rfl, ?_⟩) (by assumption) ?_
  rotate_left 1
  · intro w' hSw; (try dsimp only at hSw); go_simp; (try with_reducible rfl)
  simp only [Act.put, List.setIfInBounds_toArray, List.set_cons_zero, List.set_cons_succ]
  refine wpAnyH_take (i := 2) (oi := { dst := some 25, op := Op.move (Operand.tmp 0), type := 30, pos := "ecs.go:213", after := #[], guard := none }) (v := ?_) rfl (by kernel_rfl) (by kernel_rfl) (by kernel_rfl) (fun _ _ _ h => h) (Or.inl ⟨by rfl, ?_⟩) (by assumption) ?_
  rotate_left 1
  · intro w' hSw; (try dsimp only at hSw); go_simp; (try with_reducible rfl)
  simp only [Act.put, List.setIfInBounds_toArray, List.set_cons_zero, List.set_cons_succ]
  refine wpAnyH_take (i := 3) (oi := { dst := some 26, op := Op.nilCheck (Operand.tmp 25), type := 0, pos := "ecs.go:213", after := #[{ on := 2, ground := Ground.data }], guard := none }) (v := ?_) rfl (by kernel_rfl) (by kernel_rfl) (by kernel_rfl) (fun _ _ _ h => h) (Or.inl ⟨by rfl, ?_⟩) (by assumption) ?_
  rotate_left 1
  · intro w' hSw; (try dsimp only at hSw); go_simp; (try with_reducible rfl)
  simp only [Act.put, List.setIfInBounds_toArray, List.set_cons_zero, List.set_cons_succ]
  refine wpAnyH_take (i := 4) (oi := { dst := some 27, op := Op.fieldAddr 88 (Operand.tmp 26) 3, type := 0, pos := "ecs.go:213", after := #[{ on := 3, ground := Ground.data }], guard := none }) (v := ?_) rfl (by kernel_rfl) (by kernel_rfl) (by kernel_rfl) (fun _ _ _ h => h) (Or.inl ⟨by rfl, ?_⟩) (by assumption) ?_
  rotate_left 1
  · intro w' hSw; (try dsimp only at hSw); go_simp; (try with_reducible rfl)
  simp only [Act.put, List.setIfInBounds_toArray, List.set_cons_zero, List.set_cons_succ]
  refine wpAnyH_take (i := 5) (oi := { dst := some 28, op := Op.load 85 (Operand.tmp 27), type := 85, pos := "ecs.go:213", after := #[{ on := 4, ground := Ground.data }], guard := none }) (v := ?_) rfl (by kernel_rfl) (by kernel_rfl) (by kernel_rfl) (fun _ _ _ h => h) (Or.inl ⟨by rfl, ?_⟩) (by assumption) ?_
  rotate_left 1
  · intro w' hSw; (try dsimp only at hSw); go_simp; (try with_reducible rfl)
  simp only [Act.put, List.setIfInBounds_toArray, List.set_cons_zero, List.set_cons_succ]
  refine wpAnyH_take (i := 6) (oi := { dst := some 29, op := Op.fieldAddr 107 (Operand.tmp 6) 0, type := 0, pos := "ecs.go:213", after := #[], guard := none }) (v := ?_) rfl (by kernel_rfl) (by kernel_rfl) (by kernel_rfl) (fun _ _ _ h => h) (Or.inl ⟨by rfl, ?_⟩) (by assumption) ?_
  rotate_left 1
  · intro w' hSw; (try dsimp only at hSw); go_simp; (try with_reducible rfl)
  simp only [Act.put, List.setIfInBounds_toArray, List.set_cons_zero, List.set_cons_succ]
  refine wpAnyH_take (i := 7) (oi := { dst := some 30, op := Op.load 3 (Operand.tmp 29), type := 3, pos := "ecs.go:213", after := #[{ on := 6, ground := Ground.data }], guard := none }) (v := ?_) rfl (by kernel_rfl) (by kernel_rfl) (by kernel_rfl) (fun _ _ _ h => h) (Or.inl ⟨by rfl, ?_⟩) (by assumption) ?_
  rotate_left 1
  · intro w' hSw; (try dsimp only at hSw); go_simp; (try with_reducible rfl)
  simp only [Act.put, List.setIfInBounds_toArray, List.set_cons_zero, List.set_cons_succ]
  refine wpAnyH_take (i := 8) (oi := { dst := some 31, op := Op.lookup 85 (Operand.tmp 28) (Operand.tmp 30) false, type := 108, pos := "ecs.go:213", after := #[{ on := 5, ground := Ground.data }, { on := 7, ground := Ground.data }], guard := none }) (v := ?_) rfl (by kernel_rfl) (by kernel_rfl) (by kernel_rfl) (fun _ _ _ h => h) (Or.inl ⟨by rfl, ?_⟩) (by assumption) ?_
  rotate_left 1
  · intro w' hSw; (try dsimp only at hSw); go_simp; (try with_reducible rfl)
  simp only [Act.put, List.setIfInBounds_toArray, List.set_cons_zero, List.set_cons_succ]
  refine wpAnyH_take (i := 9) (oi := { dst := some 32, op := Op.build 110 #[(0, Operand.tmp 23), (1, Operand.tmp 24), (2, Operand.tmp 31)], type := 110, pos := "ecs.go:213", after := #[{ on := 0, ground := Ground.data }, { on := 1, ground := Ground.data }, { on := 8, ground := Ground.data }], guard := none }) (v := ?_) rfl (by kernel_rfl) (by kernel_rfl) (by kernel_rfl) (fun _ _ _ h => h) (Or.inl ⟨by rfl, ?_⟩) (by assumption) ?_
  rotate_left 1
  · intro w' hSw; (try dsimp only at hSw); go_simp; (try with_reducible rfl)
  simp only [Act.put, List.setIfInBounds_toArray, List.set_cons_zero, List.set_cons_succ]
  refine wpAnyH_ready (rs := [10]) (by kernel_rfl) (by simp) ?_
  refine AllReadyH.cons (o := { dst := none, op := Op.store 110 (Operand.tmp 4) (Operand.tmp 32), type := 0, pos := "ecs.go:213", after := #[{ on := 9, ground := Ground.data }, { on := 0, ground := Ground.phase }, { on := 1, ground := Ground.phase }, { on := 2, ground := Ground.phase }, { on := 3, ground := Ground.phase }, { on := 4, ground := Ground.phase }, { on := 5, ground := Ground.phase }, { on := 6, ground := Ground.phase }, { on := 7, ground := Ground.phase }, { on := 8, ground := Ground.phase }, { on := 9, ground := Ground.phase }], guard := none }) rfl (fun K' hK => ?_) AllReadyH.nil
  refine step_stN n r i g (some ⟨pt n, 0, none⟩) enZ_size rfl (.tmp 4) (.tmp 32) rfl rfl rfl (HR2e.out.under (Below.refl _ _).drew) ?_
  intro w5 hR5 hF5
  have s5 : ((w5.cell? ⟨x.p, 7, none⟩ = some (.map (some x.mt)) ∧ (Instr.lookup 85 (.map (some x.mt)) (.int .i64 (n : Int)) false).run Tryz.prog w5 = .ok (.pointer (some ⟨pt n, 0, none⟩)) w5) ∧ (w5.cell? ⟨w1.heap.size, 0, none⟩ = some (.int .i64 (n : Int)) ∧ w5.cell? ⟨w1.heap.size, 1, none⟩ = some (.int .i64 (r : Int)))) ∧ w5.cell? ⟨w.heap.size, 0, none⟩ = some (.int .i64 i) ∧ w5.cell? ⟨w.heap.size, 1, none⟩ = some (.int .i64 g) := ⟨⟨LT.out w5 (HWD.out.kept hF5 (fun y hy e => by have := HDm0.out y hy; have e' : y = w.heap.size + 1 := e; omega)), (World.cell?_of_block (w := w3) (a := ⟨w1.heap.size, 0, none⟩) (hF5.block _ HR3.out.1.lt (fun e => by have e' : w1.heap.size = w.heap.size + 1 := e; have := HS1.out; omega))).trans (HR3.out.1.at_ 0), (World.cell?_of_block (w := w3) (a := ⟨w1.heap.size, 1, none⟩) (hF5.block _ HR3.out.1.lt (fun e => by have e' : w1.heap.size = w.heap.size + 1 := e; have := HS1.out; omega))).trans (HR3.out.1.at_ 1)⟩, (World.cell?_of_block (w := w3) (a := ⟨w.heap.size, 0, none⟩) (hF5.block _ HR3.out.2.lt (fun e => by have e' : w.heap.size = w.heap.size + 1 := e; omega))).trans (HR3.out.2.at_ 0), (World.cell?_of_block (w := w3) (a := ⟨w.heap.size, 1, none⟩) (hF5.block _ HR3.out.2.lt (fun e => by have e' : w.heap.size = w.heap.size + 1 := e; omega))).trans (HR3.out.2.at_ 1)⟩
  refine hK.out _ _ s5 (fun hHeld => ?_)
  clear hK K'
  try simp only [Act.put]
  refine wpAnyH_take (i := 11) (oi := { dst := some 5, op := Op.assign (Operand.const (Value.int IntKind.i64 0)), type := 60, pos := "ecs.go:213", after := #[{ on := 10, ground := Ground.chain }, { on := 0, ground := Ground.phase }, { on := 1, ground := Ground.phase }, { on := 2, ground := Ground.phase }, { on := 3, ground := Ground.phase }, { on := 4, ground := Ground.phase }, { on := 5, ground := Ground.phase }, { on := 6, ground := Ground.phase }, { on := 7, ground := Ground.phase }, { on := 8, ground := Ground.phase }, { on := 9, ground := Ground.phase }, { on := 10, ground := Ground.phase }], guard := none }) (v := ?_) rfl (by kernel_rfl) (by kernel_rfl) (by kernel_rfl) (fun _ _ _ h => h) (Or.inl ⟨by rfl, ?_⟩) (by assumption) ?_
  rotate_left 1
  · intro w' hSw; (try dsimp only at hSw); go_simp; (try with_reducible rfl)
  simp only [Act.put, List.setIfInBounds_toArray, List.set_cons_zero, List.set_cons_succ]
  refine wpAnyH_done (by kernel_rfl) ?_ _
  refine NoPanic.normal ?_
  clear s6 s5 hHeld
  go_wp2
  refine bodyPost_ret (res_ct rfl rfl (hR5.load entT rfl)) rfl ?_
  exact ⟨rfl, HB3.out.trans ((Below.refl _ _).drew.trans (hF5.toBelow (fun y hy => by rw [show y = w.heap.size + 1 from hy]; omega) HB3.out.size))⟩
end
end Go.Proofs.YtddiadpbkjdomaaGreatDoor
namespace Go.Proofs.YtddiadpbkjdomaaGreatDoor
open Go.RowKit
set_option maxRecDepth 20000

section
variable {w : World} {N : Nat} {gr : Nat → Nat} {x : Fx} {k : Ks} {c : Nat} {pt : Nat → Nat}
theorem eask_not (R : Value) (i g : Int) (kk : Int) (z : Int) (hz : z ≠ 0) (w : World)
    (CF : Hid (∀ W, Below w.heap.size w W → Calls Tryz.prog 52 #[R, .agg #[.int .i64 i, .int .i64 g]] W fun e w' => e = .returned (.tuple #[.agg enZ, .int .i64 z]) ∧ Below W.heap.size W w')) :
    Calls Tryz.prog 79 #[R, .agg #[.int .i64 i, .int .i64 g], .int .i64 kk] w fun e w' => e = .returned (.tuple #[.agg enZ, .int .i64 z]) ∧ Below w.heap.size w w' := by
  obtain ⟨w1, hw1, hb1, r1, r2, hs1⟩ := find_start w i g
  have C1 := Lib.hid (CF.out w1 hb1)
  have k0 := r1.at_ 0
  have k1 := r1.at_ 1
  have d1 : decide (z = 0) = false := decide_eq_false hz
  have d2 : (z != 0) = true := bne_iff_ne.2 hz
  have HB := Lib.hid (And.intro hb1 (And.intro r2 hs1))
  clear hb1 r1 r2 hs1 CF
  go_enter Tryz.func79, Tryz.ntmps79
  go_wp2_with (first
    | (rw [← hw1]; clear hw1)
    | (go_at_call 52; refine C1.out.mono ?_; rintro e w2 ⟨rfl, hb2⟩; obtain ⟨w3, hw3⟩ : ∃ w3, w3 = w2.alloc (.cells enZ 110) := ⟨_, rfl⟩; have hb3 : Below w1.heap.size w1 w3 := hb2.trans (show Below w1.heap.size w2 w3 by rw [hw3]; exact (Below.refl _ _).alloc hb2.size _); have R3 := Lib.hid (show Rec 110 w3 w2.heap.size enZ by rw [hw3]; exact Rec.new w2 _ _); have HS := Lib.hid (And.intro hb2.size hb3); clear hb2 hb3 k0 k1)
    | (rw [← hw3]; clear hw3)
    | ((with_reducible refine wpList_stNz enZ_size rfl (.tmp 8) (.tmp 16) rfl rfl rfl R3.out ?_); intro w4 hR4 hF4; have HB3 := Lib.hid (HS.out.2.trans (hF4.toBelow (fun y hy => by rw [show y = w2.heap.size from hy]; exact HS.out.1) HS.out.2.size)); clear hR4 hF4)
    | ((with_reducible refine wpList_stNz enZ_size rfl (.tmp 6) (.tmp 20) rfl rfl rfl (HB.out.2.1.under HB3.out) ?_); intro w5 hR5 hF5))
  refine bodyPost_ret (res_ct rfl rfl (hR5.load entT rfl)) rfl ?_
  exact ⟨rfl, HB.out.1.trans ((HB3.out.mono HB.out.1.size).trans (hF5.toBelow (fun y hy => by rw [show y = w.heap.size + 1 from hy]; omega) (Nat.le_trans HB.out.1.size HB3.out.size)))⟩
theorem eask_nil (i g kk : Int) (w : World) : Calls Tryz.prog 79 #[.pointer none, .agg #[.int .i64 i, .int .i64 g], .int .i64 kk] w fun e w' => e = .returned (.tuple #[.agg enZ, .int .i64 4]) ∧ Below w.heap.size w w' :=
  eask_not _ i g kk 4 (by decide) w (Lib.hid fun W _ => efind_nil i g W)
theorem eask_no (h : CoJ 0 w N gr x k c pt) {i g : Int} (hw : okE (i, g)) (hp : k.pl (i, g) = none) (kk : Int) :
    Calls Tryz.prog 79 #[.pointer (some ⟨x.p, 0, none⟩), .agg #[.int .i64 i, .int .i64 g], .int .i64 kk] w fun e w' => e = .returned (.tuple #[.agg enZ, .int .i64 5]) ∧ Below w.heap.size w w' :=
  eask_not _ i g kk 5 (by decide) w (Lib.hid fun W hb => efind_no (h.below hb) hw hp)
theorem eask_yes (h : CoJ 0 w N gr x k c pt) {i g : Int} (hw : okE (i, g)) {n r : Nat} {t : Tb} (hp : k.pl (i, g) = some (n, r)) (ht : k.tb n = some t) (hn : okN n) (kk : Int) (hks : x.n ≤ 1000000) (b : Bool) (hb : (sizeK x.ks kk).2 = b) :
    Calls Tryz.prog 79 #[.pointer (some ⟨x.p, 0, none⟩), .agg #[.int .i64 i, .int .i64 g], .int .i64 kk] w fun e w' => e = .returned (if b = true then .tuple #[.agg (enC n r i g (some ⟨pt n, 0, none⟩)), .int .i64 0] else .tuple #[.agg enZ, .int .i64 6]) ∧ Below w.heap.size w w' := by
  obtain ⟨w1, hw1, hb1, r1, r2, hs1⟩ := find_start w i g
  have h1 := h.below hb1
  have C1 := Lib.hid (efind_yes h1 hw hp ht hn)
  have H1 := Lib.hid h1
  have k0 := r1.at_ 0
  have k1 := r1.at_ 1
  have HB := Lib.hid (And.intro hb1 (And.intro r2 hs1))
  obtain ⟨q, hq⟩ : ∃ q : Nat, q = pt n := ⟨_, rfl⟩
  rw [← hq] at C1 ⊢
  have HK := Lib.hid hks
  obtain ⟨sz, hsz⟩ : ∃ sz, sz = (sizeK x.ks kk).1 := ⟨_, rfl⟩
  have CS : Hid (∀ W, CoJ 0 W N gr x k c pt → Calls Tryz.prog 80 #[cv x.lg x.ps x.en x.gn x.A x.n x.cap, .int .i64 kk] W fun e w' => e = .returned (.tuple #[.int .i64 sz, .bool b]) ∧ Below W.heap.size W w') := Lib.hid (fun W hW => by
    have := Size_any x.lg x.ps x.en x.gn x.A x.n x.cap x.ks W hW.kd hks kk
    rw [hb, ← hsz] at this
    exact this)
  clear h h1 hb1 r1 r2 hs1 hw hp ht hn hks hb hsz hq
  go_enter Tryz.func79, Tryz.ntmps79
  go_upto_region 4 with (first
    | (rw [← hw1]; clear hw1)
    | (go_at_call 52; refine C1.out.mono ?_; rintro e w2 ⟨rfl, hb2⟩; obtain ⟨w3, hw3⟩ : ∃ w3, w3 = w2.alloc (.cells enZ 110) := ⟨_, rfl⟩; have hb3 : Below w1.heap.size w1 w3 := hb2.trans (show Below w1.heap.size w2 w3 by rw [hw3]; exact (Below.refl _ _).alloc hb2.size _); have R3 := Lib.hid (show Rec 110 w3 w2.heap.size enZ by rw [hw3]; exact Rec.new w2 _ _); have HS := Lib.hid (And.intro hb2.size hb3); clear hb2 hb3 k0 k1)
    | (rw [← hw3]; clear hw3)
    | ((with_reducible refine wpList_stN n r i g (some ⟨q, 0, none⟩) enZ_size rfl (.tmp 8) (.tmp 16) rfl rfl rfl R3.out ?_); intro w4 hR4 hF4; have hb4 := HS.out.2.trans (hF4.toBelow (fun y hy => by rw [show y = w2.heap.size from hy]; exact HS.out.1) HS.out.2.size); have H4 := Lib.hid (H1.out.below hb4); have HR4 := Lib.hid hR4; have HB4 := Lib.hid hb4; clear hR4 hF4 hb4))
  have C4 := Lib.hid (CS.out w4 H4.out)
  have k0 : w4.cell? ⟨x.p, 0, none⟩ = some (.int .i64 x.lg) := H4.out.cell 0
  have k1 : w4.cell? ⟨x.p, 1, none⟩ = some (.int .i64 x.ps) := H4.out.cell 1
  have k2 : w4.cell? ⟨x.p, 2, none⟩ = some (.int .i64 x.en) := H4.out.cell 2
  have k3 : w4.cell? ⟨x.p, 3, none⟩ = some (.int .i64 x.gn) := H4.out.cell 3
  have k4 : w4.cell? ⟨x.p, 4, none⟩ = some (.slice x.A x.n x.cap) := H4.out.cell 4
  have HB6 := Lib.hid (HB.out.1.trans (HB4.out.mono HB.out.1.size))
  have HE4 := Lib.hid (HB.out.2.1.under HB4.out)
  clear CS C1 R3 H1 H4
  cases b with
  | true =>
    go_wp2_with (first
      | (go_at_call 80; refine C4.out.mono ?_; rintro e w5 ⟨rfl, hb5⟩; have HB5 := Lib.hid hb5; have R5 := Lib.hid (HR4.out.under hb5); have E5 := Lib.hid (HE4.out.under hb5); clear hb5 k0 k1 k2 k3 k4)
      | (with_reducible refine wpList_ldN rfl (.tmp 8) rfl rfl R5.out ?_)
      | ((with_reducible refine wpList_stN n r i g (some ⟨q, 0, none⟩) enZ_size rfl (.tmp 6) (.tmp 34) rfl rfl rfl E5.out ?_); intro w6 hR6 hF6))
    refine bodyPost_ret (res_ct rfl rfl (hR6.load entT rfl)) rfl ?_
    exact ⟨rfl, HB6.out.trans ((HB5.out.mono HB6.out.size).trans (hF6.toBelow (fun y hy => by rw [show y = w.heap.size + 1 from hy]; omega) (Nat.le_trans HB6.out.size HB5.out.size)))⟩
  | false =>
    go_wp2_with (first
      | (go_at_call 80; refine C4.out.mono ?_; rintro e w5 ⟨rfl, hb5⟩; have HB5 := Lib.hid hb5; have E5 := Lib.hid (HE4.out.under hb5); clear hb5 k0 k1 k2 k3 k4)
      | ((with_reducible refine wpList_stNz enZ_size rfl (.tmp 6) (.tmp 33) rfl rfl rfl E5.out ?_); intro w6 hR6 hF6))
    refine bodyPost_ret (res_ct rfl rfl (hR6.load entT rfl)) rfl ?_
    exact ⟨rfl, HB6.out.trans ((HB5.out.mono HB6.out.size).trans (hF6.toBelow (fun y hy => by rw [show y = w.heap.size + 1 from hy]; omega) (Nat.le_trans HB6.out.size HB5.out.size)))⟩
end
end Go.Proofs.YtddiadpbkjdomaaGreatDoor
