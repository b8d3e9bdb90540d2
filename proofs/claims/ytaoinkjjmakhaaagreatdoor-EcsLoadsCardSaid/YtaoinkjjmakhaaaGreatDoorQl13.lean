/- EcB, EcC, EcD -/
import Derived.Test.YtaoinkjjmakhaaaGreatDoorQl1
import Derived.Test.YtaoinkjjmakhaaaGreatDoorQl7
import Derived.Test.YtaoinkjjmakhaaaGreatDoorQl12
namespace Go.Proofs.YtaoinkjjmakhaaaGreatDoor
open Go.RowKit
set_option maxRecDepth 20000
abbrev enC (n r : Nat) (i g : Int) (q : Option Addr) : Array Value := #[.int .i64 (n : Int), .int .i64 (r : Int), .int .i64 i, .int .i64 g, .pointer q]
abbrev enZ : Array Value := #[.int .i64 0, .int .i64 0, .int .i64 0, .int .i64 0, .pointer none]
theorem enZ_size : enZ.size = 5 := rfl
abbrev plC (n r : Nat) : Array Value := #[.int .i64 (n : Int), .int .i64 (r : Int)]
theorem zeroPl (w : World) : (zeroValue 85).run Tryz.prog w = .ok (.agg #[.int .i64 0, .int .i64 0]) w := by kernel_rfl
theorem zeroTp (w : World) : (zeroValue 86).run Tryz.prog w = .ok (.pointer none) w := by kernel_rfl
section
variable {ops : Array Oper} {rest : List Oper} {o : Oper} {a : Act} {w : World} {Q : Exit -> Act -> World -> Prop} {g : Nat}
theorem wpList_ldN {n r : Nat} {i j : Int} {q : Option Addr} (hgd : Region.wanted o (yielded ops a.tmps) = true) (x : Operand) (ho : o.op = .load 88 x)
  (hx : a.eval x = .pointer (some ⟨g, 0, none⟩)) (h : Rec 88 w g (enC n r i j q)) (kk : wpList Tryz.prog ops Q rest (a.put o.dst (.agg (enC n r i j q))) w) : wpList Tryz.prog ops Q (o :: rest) a w := wpList_ldS entT rfl hgd x ho hx h kk
theorem wpList_stN {cs : Array Value} (n r : Nat) (i j : Int) (q : Option Addr) (hn : cs.size = 5) (hgd : Region.wanted o (yielded ops a.tmps) = true) (x y : Operand) (ho : o.op = .store 88 x y)
  (hx : a.eval x = .pointer (some ⟨g, 0, none⟩)) (hy : a.eval y = .agg (enC n r i j q)) (h : Rec 88 w g cs)
  (kk : ∀ w', Rec 88 w' g (enC n r i j q) -> Fr (· = g) w w' -> wpList Tryz.prog ops Q rest (a.put o.dst undef) w') : wpList Tryz.prog ops Q (o :: rest) a w := wpList_stS entT hn rfl (by simp [Value.oneCell']) hgd x y ho hx hy h kk
theorem wpList_stNz {cs : Array Value} (hn : cs.size = 5) (hgd : Region.wanted o (yielded ops a.tmps) = true) (x y : Operand) (ho : o.op = .store 88 x y)
  (hx : a.eval x = .pointer (some ⟨g, 0, none⟩)) (hy : a.eval y = .agg enZ) (h : Rec 88 w g cs)
  (kk : ∀ w', Rec 88 w' g enZ -> Fr (· = g) w w' -> wpList Tryz.prog ops Q rest (a.put o.dst undef) w') : wpList Tryz.prog ops Q (o :: rest) a w := wpList_stS entT hn rfl (by simp [Value.oneCell']) hgd x y ho hx hy h kk
theorem step_stN {J : Act -> World -> Prop} {E : Prop} {cs : Array Value} (n r : Nat) (i j : Int) (q : Option Addr) (hn : cs.size = 5) (hgd : o.guard = none) (x y : Operand) (ho : o.op = .store 88 x y)
  (hx : a.eval x = .pointer (some ⟨g, 0, none⟩)) (hy : a.eval y = .agg (enC n r i j q)) (h : Rec 88 w g cs)
  (kk : ∀ w', Rec 88 w' g (enC n r i j q) -> Fr (· = g) w w' -> J (a.put o.dst undef) w') : if Region.wanted o (yielded ops a.tmps) = true then Oper.wp Tryz.prog o a w J Q else E := step_stS entT hn rfl (by simp [Value.oneCell']) hgd x y ho hx hy h kk
theorem step_stPl {J : Act -> World -> Prop} {E : Prop} {cs : Array Value} (n r : Nat) (hn : cs.size = 2) (hgd : o.guard = none) (x y : Operand) (ho : o.op = .store 85 x y)
  (hx : a.eval x = .pointer (some ⟨g, 0, none⟩)) (hy : a.eval y = .agg (plC n r)) (h : Rec 85 w g cs)
  (kk : ∀ w', Rec 85 w' g (plC n r) -> Fr (· = g) w w' -> J (a.put o.dst undef) w') : if Region.wanted o (yielded ops a.tmps) = true then Oper.wp Tryz.prog o a w J Q else E := step_stS plaT hn rfl (by simp [Value.oneCell']) hgd x y ho hx hy h kk
end
section
variable {w : World} {N : Nat} {gr : Nat -> Nat} {x : Fx} {k : Ks} {c : Nat} {pt : Nat -> Nat}
theorem CoJ.lookP (h : CoJ 0 w N gr x k c pt) {id : Int × Int} (hw : okE id) : (Instr.lookup 80 (.map (some x.mp)) (.agg #[.int .i64 id.1, .int .i64 id.2]) true).run Tryz.prog w = .ok (.tuple #[((k.pl id).map plV).getD (.agg #[.int .i64 0, .int .i64 0]), .bool (k.pl id).isSome]) w := by
 obtain ⟨np, _, hm⟩ := h.mpp (by decide)
 have := MapE.look_ok kfD hm Tryz.underlying80 (zeroPl w) hw
 rw [show (plF k.pl id).isSome = (k.pl id).isSome by unfold plF; simp] at this
 exact this
theorem CoJ.lookT (h : CoJ 0 w N gr x k c pt) {n : Nat} (hn : okN n) : (Instr.lookup 79 (.map (some x.mt)) (.int .i64 (n : Int)) false).run Tryz.prog w = .ok ((tbV k.tb pt n).getD (.pointer none)) w := by
 obtain ⟨nt, _, hm⟩ := h.mpt (by decide)
 exact MapE.look kfN hm Tryz.underlying79 (zeroTp w) hn
theorem CoJ.lookT_ok (h : CoJ 0 w N gr x k c pt) {n : Nat} (hn : okN n) : (Instr.lookup 79 (.map (some x.mt)) (.int .i64 (n : Int)) true).run Tryz.prog w = .ok (.tuple #[(tbV k.tb pt n).getD (.pointer none), .bool (tbV k.tb pt n).isSome]) w := by
 obtain ⟨nt, _, hm⟩ := h.mpt (by decide)
 exact MapE.look_ok kfN hm Tryz.underlying79 (zeroTp w) hn
theorem CoJ.c8 (h : CoJ 0 w N gr x k c pt) : w.cell? ⟨x.p, 8, none⟩ = some (.map (some x.mp)) := h.cell 8
theorem CoJ.c7 (h : CoJ 0 w N gr x k c pt) : w.cell? ⟨x.p, 7, none⟩ = some (.map (some x.mt)) := h.cell 7
theorem CoJ.c6 (h : CoJ 0 w N gr x k c pt) : w.cell? ⟨x.p, 6, none⟩ = some (.pointer (some ⟨x.pg, 0, none⟩)) := h.cell 6
theorem CoJ.c5 (h : CoJ 0 w N gr x k c pt) : w.cell? ⟨x.p, 5, none⟩ = some (.pointer (some ⟨x.pi, 0, none⟩)) := h.cell 5
theorem find_start (w : World) (i g : Int) : ∃ w1, w1 = (w.alloc (.cells #[.int .i64 i, .int .i64 g] 32)).alloc (.cells enZ 88) /\ Below w.heap.size w w1 /\ Rec 32 w1 w.heap.size #[.int .i64 i, .int .i64 g] /\ Rec 88 w1 (w.heap.size + 1) enZ /\ w1.heap.size = w.heap.size + 2 := by
 refine ⟨_, rfl, ((Below.refl _ _).alloc (Nat.le_refl _) _).alloc (by simp) _, (Rec.new w _ _).under ((Below.refl _ _).alloc (Nat.le_refl _) _), ?_, by simp⟩
 have := Rec.new (w.alloc (.cells #[.int .i64 i, .int .i64 g] 32)) 88 enZ
 rw [World.size_alloc] at this
 exact this
theorem efind_no (h : CoJ 0 w N gr x k c pt) {i g : Int} (hw : okE (i, g)) (hp : k.pl (i, g) = none) :
  Calls Tryz.prog 35 #[.pointer (some ⟨x.p, 0, none⟩), .agg #[.int .i64 i, .int .i64 g]] w fun e w' => e = .returned (.tuple #[.agg enZ, .int .i64 5]) /\ Below w.heap.size w w' := by
 obtain ⟨w1, hw1, hb1, r1, r2, hs1⟩ := find_start w i g
 have h1 := h.below hb1
 have hNp : x.p < w.heap.size := h.blk.lt
 have LP : Hid (∀ W, Below w1.heap.size w1 W -> (W.cell? ⟨x.p, 8, none⟩ = some (.map (some x.mp)) /\ (W.cell? ⟨w.heap.size, 0, none⟩ = some (.int .i64 i) /\ W.cell? ⟨w.heap.size, 1, none⟩ = some (.int .i64 g)) /\ (Instr.lookup 80 (.map (some x.mp)) (.agg #[.int .i64 i, .int .i64 g]) true).run Tryz.prog W = .ok (.tuple #[.agg #[.int .i64 0, .int .i64 0], .bool false]) W)) := hi_ (fun W hb => by
  have hW := h1.below hb
  have L := hW.lookP hw
  rw [hp] at L
  have r1' := r1.under hb
  exact ⟨hW.c8, ⟨r1'.at_ 0, r1'.at_ 1⟩, L⟩)
 obtain ⟨w2, hw2⟩ : ∃ w2, w2 = (w1.alloc (.cells #[.int .i64 0, .int .i64 0] 85)).drew := ⟨_, rfl⟩
 have hb2 : Below w1.heap.size w1 w2 := by rw [hw2]; exact ((Below.refl _ _).alloc (Nat.le_refl _) _).drew
 have R2 := hi_ (show Rec 85 w2 w1.heap.size #[.int .i64 0, .int .i64 0] by rw [hw2]; exact Rec.new w1 _ _)
 have HW2 := hi_ hw2
 have HB2 := hi_ hb2
 have HB := hi_ (And.intro hb1 (And.intro r1 (And.intro r2 hs1)))
 have H1 := hi_ h1
 have HDm0 := hi_ h.dom
 have s1 := LP.out w1.drew ((Below.refl _ _).drew)
 have s2 := LP.out w2 hb2
 clear h h1 hb1 r1 r2 hs1 hw2 hb2 hw hp
 go_enter Tryz.func35, Tryz.ntmps35
 go_upto_region 3 with (rw [<- hw1]; clear hw1)
 refine wp_region_noPanic ?_
 refine wp_region_held_drew (S := fun W => W.cell? ⟨x.p, 8, none⟩ = some (.map (some x.mp)) /\ (W.cell? ⟨w.heap.size, 0, none⟩ = some (.int .i64 i) /\ W.cell? ⟨w.heap.size, 1, none⟩ = some (.int .i64 g)) /\ (Instr.lookup 80 (.map (some x.mp)) (.agg #[.int .i64 i, .int .i64 g]) true).run Tryz.prog W = .ok (.tuple #[.agg #[.int .i64 0, .int .i64 0], .bool false]) W) (by kernel_rfl) s1 (fun hHeld => ?_)
 refine tk_ 0 ⟨some 12, .move (.tmp 0), 29, "ecs.go:209", #[], none⟩ hHeld ?_
 simp only [Act.put, sA_, sB_, sC_]
 refine tk_ 1 ⟨some 13, .nilCheck (.tmp 12), 0, "ecs.go:209", #[⟨0, .data⟩], none⟩ hHeld ?_
 simp only [Act.put, sA_, sB_, sC_]
 refine tk_ 2 ⟨some 14, .fieldAddr 82 (.tmp 13) 4, 0, "ecs.go:209", #[⟨1, .data⟩], none⟩ hHeld ?_
 simp only [Act.put, sA_, sB_, sC_]
 refine tk_ 3 ⟨some 15, .load 80 (.tmp 14), 80, "ecs.go:209", #[⟨2, .data⟩], none⟩ hHeld ?_
 simp only [Act.put, sA_, sB_, sC_]
 refine tk_ 4 ⟨some 16, .load 32 (.tmp 3), 32, "ecs.go:209", #[], none⟩ hHeld ?_
 simp only [Act.put, sA_, sB_, sC_]
 refine tk_ 5 ⟨some 17, .lookup 80 (.tmp 15) (.tmp 16) true, 159, "ecs.go:209", #[⟨3, .data⟩, ⟨4, .data⟩], none⟩ hHeld ?_
 simp only [Act.put, sA_, sB_, sC_]
 refine tk_ 6 ⟨some 11, .move (.tmp 17), 159, "ecs.go:209", #[⟨5, .data⟩], none⟩ hHeld ?_
 simp only [Act.put, sA_, sB_, sC_]
 refine tk_ 7 ⟨some 18, .extract (.tmp 11) 0, 85, "ecs.go:209", #[⟨6, .data⟩], none⟩ hHeld ?_
 simp only [Act.put, sA_, sB_, sC_]
 refine tk_ 8 ⟨some 19, .extract (.tmp 11) 1, 4, "ecs.go:209", #[⟨6, .data⟩, ⟨10, .gcOnly .lateStores⟩], none⟩ hHeld ?_
 simp only [Act.put, sA_, sB_, sC_]
 refine wpAnyH_ready (rs := [9]) (by kernel_rfl) (by simp) ?_
 refine AllReadyH.cons (o := ⟨some 6, .alloc 85, 0, "ecs.go:209", #[], none⟩) rfl (fun K' hK => ?_) AllReadyH.nil
 go_simp
 rw [<- HW2.out]
 refine hK.out _ _ s2 (fun hHeld => ?_)
 clear hK K'
 try simp only [Act.put, sA_, sB_, sC_]
 refine wpAnyH_ready (rs := [10]) (by kernel_rfl) (by simp) ?_
 refine AllReadyH.cons (o := ⟨none, .store 85 (.tmp 6) (.tmp 18), 0, "ecs.go:209", #[⟨9, .data⟩, ⟨7, .data⟩, ⟨0, .phase⟩, ⟨1, .phase⟩, ⟨2, .phase⟩, ⟨3, .phase⟩, ⟨4, .phase⟩, ⟨5, .phase⟩, ⟨6, .phase⟩, ⟨7, .phase⟩, ⟨8, .textOnly .lateStores⟩, ⟨9, .phase⟩], none⟩) rfl (fun K' hK => ?_) AllReadyH.nil
 refine step_stPl 0 0 rfl rfl (.tmp 6) (.tmp 18) rfl rfl rfl R2.out ?_
 intro w3 hR3 hF3
 have hb3 : Below w1.heap.size w1 w3 := HB2.out.trans (hF3.toBelow (fun y hy => by rw [show y = w1.heap.size from hy]; exact Nat.le_refl _) HB2.out.size)
 have s3 := LP.out w3 hb3
 refine hK.out _ _ s3 (fun hHeld => ?_)
 clear hK K'
 try simp only [Act.put]
 refine tk_ 11 ⟨some 7, .assign (.tmp 19), 4, "ecs.go:209", #[⟨8, .data⟩, ⟨10, .chain⟩, ⟨0, .phase⟩, ⟨1, .phase⟩, ⟨2, .phase⟩, ⟨3, .phase⟩, ⟨4, .phase⟩, ⟨5, .phase⟩, ⟨6, .phase⟩, ⟨7, .phase⟩, ⟨8, .phase⟩, ⟨9, .phase⟩, ⟨10, .phase⟩], none⟩ hHeld ?_
 simp only [Act.put, sA_, sB_, sC_]
 refine wpAnyH_done (by kernel_rfl) ?_ _
 refine NoPanic.normal ?_
 clear s1 s2 s3 hHeld
 have HB3 := hi_ (HB.out.1.trans (hb3.mono HB.out.1.size))
 have HR2e := hi_ (HB.out.2.2.1.under hb3)
 go_wp2_with ((with_reducible refine wpList_stNz enZ_size rfl (.tmp 4) (.tmp 22) rfl rfl rfl HR2e.out ?_); intro w5 hR5 hF5)
 refine bodyPost_ret (res_ct rfl rfl (hR5.load entT rfl)) rfl ?_
 exact ⟨rfl, HB3.out.trans (hF5.toBelow (fun y hy => by rw [show y = w.heap.size + 1 from hy]; omega) HB3.out.size)⟩
theorem efind_yes (h : CoJ 0 w N gr x k c pt) {i g : Int} (hw : okE (i, g)) {n r : Nat} {t : Tb} (hp : k.pl (i, g) = some (n, r)) (ht : k.tb n = some t) (hn : okN n) :
  Calls Tryz.prog 35 #[.pointer (some ⟨x.p, 0, none⟩), .agg #[.int .i64 i, .int .i64 g]] w fun e w' => e = .returned (.tuple #[.agg (enC n r i g (some ⟨pt n, 0, none⟩)), .int .i64 0]) /\ Below w.heap.size w w' := by
 obtain ⟨w1, hw1, hb1, r1, r2, hs1⟩ := find_start w i g
 have h1 := h.below hb1
 have hNp : x.p < w.heap.size := h.blk.lt
 have LT : Hid (∀ W, CoJ 0 W N gr x k c pt -> W.cell? ⟨x.p, 7, none⟩ = some (.map (some x.mt)) /\ (Instr.lookup 79 (.map (some x.mt)) (.int .i64 (n : Int)) false).run Tryz.prog W = .ok (.pointer (some ⟨pt n, 0, none⟩)) W) := hi_ (fun W hW => by
  have L := hW.lookT hn
  rw [show (tbV k.tb pt n).getD (.pointer none) = .pointer (some ⟨pt n, 0, none⟩) by unfold tbV; rw [ht]; rfl] at L
  exact ⟨hW.c7, L⟩)
 have LP : Hid (∀ W, Below w1.heap.size w1 W -> (W.cell? ⟨x.p, 8, none⟩ = some (.map (some x.mp)) /\ (W.cell? ⟨w.heap.size, 0, none⟩ = some (.int .i64 i) /\ W.cell? ⟨w.heap.size, 1, none⟩ = some (.int .i64 g)) /\ (Instr.lookup 80 (.map (some x.mp)) (.agg #[.int .i64 i, .int .i64 g]) true).run Tryz.prog W = .ok (.tuple #[.agg #[.int .i64 (n : Int), .int .i64 (r : Int)], .bool true]) W)) := hi_ (fun W hb => by
  have hW := h1.below hb
  have L := hW.lookP hw
  rw [hp] at L
  have r1' := r1.under hb
  exact ⟨hW.c8, ⟨r1'.at_ 0, r1'.at_ 1⟩, L⟩)
 obtain ⟨w2, hw2⟩ : ∃ w2, w2 = (w1.alloc (.cells #[.int .i64 0, .int .i64 0] 85)).drew := ⟨_, rfl⟩
 have hb2 : Below w1.heap.size w1 w2 := by rw [hw2]; exact ((Below.refl _ _).alloc (Nat.le_refl _) _).drew
 have R2 := hi_ (show Rec 85 w2 w1.heap.size #[.int .i64 0, .int .i64 0] by rw [hw2]; exact Rec.new w1 _ _)
 have HW2 := hi_ hw2
 have HB2 := hi_ hb2
 have HB := hi_ (And.intro hb1 (And.intro r1 (And.intro r2 hs1)))
 have H1 := hi_ h1
 have HDm0 := hi_ h.dom
 have s1 := LP.out w1.drew ((Below.refl _ _).drew)
 have s2 := LP.out w2 hb2
 clear h h1 hb1 r1 r2 hs1 hw2 hb2 hw hp
 go_enter Tryz.func35, Tryz.ntmps35
 go_upto_region 3 with (rw [<- hw1]; clear hw1)
 refine wp_region_noPanic ?_
 refine wp_region_held_drew (S := fun W => W.cell? ⟨x.p, 8, none⟩ = some (.map (some x.mp)) /\ (W.cell? ⟨w.heap.size, 0, none⟩ = some (.int .i64 i) /\ W.cell? ⟨w.heap.size, 1, none⟩ = some (.int .i64 g)) /\ (Instr.lookup 80 (.map (some x.mp)) (.agg #[.int .i64 i, .int .i64 g]) true).run Tryz.prog W = .ok (.tuple #[.agg #[.int .i64 (n : Int), .int .i64 (r : Int)], .bool true]) W) (by kernel_rfl) s1 (fun hHeld => ?_)
 refine tk_ 0 ⟨some 12, .move (.tmp 0), 29, "ecs.go:209", #[], none⟩ hHeld ?_
 simp only [Act.put, sA_, sB_, sC_]
 refine tk_ 1 ⟨some 13, .nilCheck (.tmp 12), 0, "ecs.go:209", #[⟨0, .data⟩], none⟩ hHeld ?_
 simp only [Act.put, sA_, sB_, sC_]
 refine tk_ 2 ⟨some 14, .fieldAddr 82 (.tmp 13) 4, 0, "ecs.go:209", #[⟨1, .data⟩], none⟩ hHeld ?_
 simp only [Act.put, sA_, sB_, sC_]
 refine tk_ 3 ⟨some 15, .load 80 (.tmp 14), 80, "ecs.go:209", #[⟨2, .data⟩], none⟩ hHeld ?_
 simp only [Act.put, sA_, sB_, sC_]
 refine tk_ 4 ⟨some 16, .load 32 (.tmp 3), 32, "ecs.go:209", #[], none⟩ hHeld ?_
 simp only [Act.put, sA_, sB_, sC_]
 refine tk_ 5 ⟨some 17, .lookup 80 (.tmp 15) (.tmp 16) true, 159, "ecs.go:209", #[⟨3, .data⟩, ⟨4, .data⟩], none⟩ hHeld ?_
 simp only [Act.put, sA_, sB_, sC_]
 refine tk_ 6 ⟨some 11, .move (.tmp 17), 159, "ecs.go:209", #[⟨5, .data⟩], none⟩ hHeld ?_
 simp only [Act.put, sA_, sB_, sC_]
 refine tk_ 7 ⟨some 18, .extract (.tmp 11) 0, 85, "ecs.go:209", #[⟨6, .data⟩], none⟩ hHeld ?_
 simp only [Act.put, sA_, sB_, sC_]
 refine tk_ 8 ⟨some 19, .extract (.tmp 11) 1, 4, "ecs.go:209", #[⟨6, .data⟩, ⟨10, .gcOnly .lateStores⟩], none⟩ hHeld ?_
 simp only [Act.put, sA_, sB_, sC_]
 refine wpAnyH_ready (rs := [9]) (by kernel_rfl) (by simp) ?_
 refine AllReadyH.cons (o := ⟨some 6, .alloc 85, 0, "ecs.go:209", #[], none⟩) rfl (fun K' hK => ?_) AllReadyH.nil
 go_simp
 rw [<- HW2.out]
 refine hK.out _ _ s2 (fun hHeld => ?_)
 clear hK K'
 try simp only [Act.put, sA_, sB_, sC_]
 refine wpAnyH_ready (rs := [10]) (by kernel_rfl) (by simp) ?_
 refine AllReadyH.cons (o := ⟨none, .store 85 (.tmp 6) (.tmp 18), 0, "ecs.go:209", #[⟨9, .data⟩, ⟨7, .data⟩, ⟨0, .phase⟩, ⟨1, .phase⟩, ⟨2, .phase⟩, ⟨3, .phase⟩, ⟨4, .phase⟩, ⟨5, .phase⟩, ⟨6, .phase⟩, ⟨7, .phase⟩, ⟨8, .textOnly .lateStores⟩, ⟨9, .phase⟩], none⟩) rfl (fun K' hK => ?_) AllReadyH.nil
 refine step_stPl n r rfl rfl (.tmp 6) (.tmp 18) rfl rfl rfl R2.out ?_
 intro w3 hR3 hF3
 have hb3 : Below w1.heap.size w1 w3 := HB2.out.trans (hF3.toBelow (fun y hy => by rw [show y = w1.heap.size from hy]; exact Nat.le_refl _) HB2.out.size)
 have s3 := LP.out w3 hb3
 refine hK.out _ _ s3 (fun hHeld => ?_)
 clear hK K'
 try simp only [Act.put]
 refine tk_ 11 ⟨some 7, .assign (.tmp 19), 4, "ecs.go:209", #[⟨8, .data⟩, ⟨10, .chain⟩, ⟨0, .phase⟩, ⟨1, .phase⟩, ⟨2, .phase⟩, ⟨3, .phase⟩, ⟨4, .phase⟩, ⟨5, .phase⟩, ⟨6, .phase⟩, ⟨7, .phase⟩, ⟨8, .phase⟩, ⟨9, .phase⟩, ⟨10, .phase⟩], none⟩ hHeld ?_
 simp only [Act.put, sA_, sB_, sC_]
 refine wpAnyH_done (by kernel_rfl) ?_ _
 refine NoPanic.normal ?_
 have HB3 := hi_ (HB.out.1.trans (hb3.mono HB.out.1.size))
 have HR2e := hi_ (HB.out.2.2.1.under hb3)
 have hWd := (H1.out.below hb3).below (Below.refl _ _).drew
 have sT := LT.out w3.drew hWd
 have r1e := HB.out.2.1.under hb3
 have HWD := hi_ hWd
 have HR3 := hi_ (And.intro hR3 r1e)
 have HS1 := hi_ HB.out.2.2.2
 have HDm := hi_ H1.out.dom
 have s6 : ((w3.drew.cell? ⟨x.p, 7, none⟩ = some (.map (some x.mt)) /\ (Instr.lookup 79 (.map (some x.mt)) (.int .i64 (n : Int)) false).run Tryz.prog w3.drew = .ok (.pointer (some ⟨pt n, 0, none⟩)) w3.drew) /\ (w3.drew.cell? ⟨w1.heap.size, 0, none⟩ = some (.int .i64 (n : Int)) /\ w3.drew.cell? ⟨w1.heap.size, 1, none⟩ = some (.int .i64 (r : Int)))) /\ w3.drew.cell? ⟨w.heap.size, 0, none⟩ = some (.int .i64 i) /\ w3.drew.cell? ⟨w.heap.size, 1, none⟩ = some (.int .i64 g) := ⟨⟨sT, hR3.at_ 0, hR3.at_ 1⟩, r1e.at_ 0, r1e.at_ 1⟩
 clear s1 s2 s3 hHeld hb3 hWd sT r1e hR3 hF3 LP
 go_upto_region 6 with fail
 refine wp_region_noPanic ?_
 refine wp_region_held_drew (S := fun W => ((W.cell? ⟨x.p, 7, none⟩ = some (.map (some x.mt)) /\ (Instr.lookup 79 (.map (some x.mt)) (.int .i64 (n : Int)) false).run Tryz.prog W = .ok (.pointer (some ⟨pt n, 0, none⟩)) W) /\ (W.cell? ⟨w1.heap.size, 0, none⟩ = some (.int .i64 (n : Int)) /\ W.cell? ⟨w1.heap.size, 1, none⟩ = some (.int .i64 (r : Int)))) /\ W.cell? ⟨w.heap.size, 0, none⟩ = some (.int .i64 i) /\ W.cell? ⟨w.heap.size, 1, none⟩ = some (.int .i64 g)) (by kernel_rfl) s6 (fun hHeld => ?_)
 refine tk_ 0 ⟨some 23, .load 85 (.tmp 6), 85, "ecs.go:213", #[], none⟩ hHeld ?_
 simp only [Act.put, sA_, sB_, sC_]
 refine tk_ 1 ⟨some 24, .load 32 (.tmp 3), 32, "ecs.go:213", #[], none⟩ hHeld ?_
 simp only [Act.put, sA_, sB_, sC_]
 refine tk_ 2 ⟨some 25, .move (.tmp 0), 29, "ecs.go:213", #[], none⟩ hHeld ?_
 simp only [Act.put, sA_, sB_, sC_]
 refine tk_ 3 ⟨some 26, .nilCheck (.tmp 25), 0, "ecs.go:213", #[⟨2, .data⟩], none⟩ hHeld ?_
 simp only [Act.put, sA_, sB_, sC_]
 refine tk_ 4 ⟨some 27, .fieldAddr 82 (.tmp 26) 3, 0, "ecs.go:213", #[⟨3, .data⟩], none⟩ hHeld ?_
 simp only [Act.put, sA_, sB_, sC_]
 refine tk_ 5 ⟨some 28, .load 79 (.tmp 27), 79, "ecs.go:213", #[⟨4, .data⟩], none⟩ hHeld ?_
 simp only [Act.put, sA_, sB_, sC_]
 refine tk_ 6 ⟨some 29, .fieldAddr 85 (.tmp 6) 0, 0, "ecs.go:213", #[], none⟩ hHeld ?_
 simp only [Act.put, sA_, sB_, sC_]
 refine tk_ 7 ⟨some 30, .load 3 (.tmp 29), 3, "ecs.go:213", #[⟨6, .data⟩], none⟩ hHeld ?_
 simp only [Act.put, sA_, sB_, sC_]
 refine tk_ 8 ⟨some 31, .lookup 79 (.tmp 28) (.tmp 30) false, 86, "ecs.go:213", #[⟨5, .data⟩, ⟨7, .data⟩], none⟩ hHeld ?_
 simp only [Act.put, sA_, sB_, sC_]
 refine tk_ 9 ⟨some 32, .build 88 #[(0, .tmp 23), (1, .tmp 24), (2, .tmp 31)], 88, "ecs.go:213", #[⟨0, .data⟩, ⟨1, .data⟩, ⟨8, .data⟩], none⟩ hHeld ?_
 simp only [Act.put, sA_, sB_, sC_]
 refine wpAnyH_ready (rs := [10]) (by kernel_rfl) (by simp) ?_
 refine AllReadyH.cons (o := ⟨none, .store 88 (.tmp 4) (.tmp 32), 0, "ecs.go:213", #[⟨9, .data⟩, ⟨0, .phase⟩, ⟨1, .phase⟩, ⟨2, .phase⟩, ⟨3, .phase⟩, ⟨4, .phase⟩, ⟨5, .phase⟩, ⟨6, .phase⟩, ⟨7, .phase⟩, ⟨8, .phase⟩, ⟨9, .phase⟩], none⟩) rfl (fun K' hK => ?_) AllReadyH.nil
 refine step_stN n r i g (some ⟨pt n, 0, none⟩) enZ_size rfl (.tmp 4) (.tmp 32) rfl rfl rfl (HR2e.out.under (Below.refl _ _).drew) ?_
 intro w5 hR5 hF5
 have s5 : ((w5.cell? ⟨x.p, 7, none⟩ = some (.map (some x.mt)) /\ (Instr.lookup 79 (.map (some x.mt)) (.int .i64 (n : Int)) false).run Tryz.prog w5 = .ok (.pointer (some ⟨pt n, 0, none⟩)) w5) /\ (w5.cell? ⟨w1.heap.size, 0, none⟩ = some (.int .i64 (n : Int)) /\ w5.cell? ⟨w1.heap.size, 1, none⟩ = some (.int .i64 (r : Int)))) /\ w5.cell? ⟨w.heap.size, 0, none⟩ = some (.int .i64 i) /\ w5.cell? ⟨w.heap.size, 1, none⟩ = some (.int .i64 g) := ⟨⟨LT.out w5 (HWD.out.kept hF5 (fun y hy e => by have := HDm0.out y hy; have e' : y = w.heap.size + 1 := e; omega)), (World.cell?_of_block (w := w3) (a := ⟨w1.heap.size, 0, none⟩) (hF5.block _ HR3.out.1.lt (fun e => by have e' : w1.heap.size = w.heap.size + 1 := e; have := HS1.out; omega))).trans (HR3.out.1.at_ 0), (World.cell?_of_block (w := w3) (a := ⟨w1.heap.size, 1, none⟩) (hF5.block _ HR3.out.1.lt (fun e => by have e' : w1.heap.size = w.heap.size + 1 := e; have := HS1.out; omega))).trans (HR3.out.1.at_ 1)⟩, (World.cell?_of_block (w := w3) (a := ⟨w.heap.size, 0, none⟩) (hF5.block _ HR3.out.2.lt (fun e => by have e' : w.heap.size = w.heap.size + 1 := e; omega))).trans (HR3.out.2.at_ 0), (World.cell?_of_block (w := w3) (a := ⟨w.heap.size, 1, none⟩) (hF5.block _ HR3.out.2.lt (fun e => by have e' : w.heap.size = w.heap.size + 1 := e; omega))).trans (HR3.out.2.at_ 1)⟩
 refine hK.out _ _ s5 (fun hHeld => ?_)
 clear hK K'
 try simp only [Act.put]
 refine tk_ 11 ⟨some 5, .assign (.const (.int .i64 0)), 47, "ecs.go:213", #[⟨10, .chain⟩, ⟨0, .phase⟩, ⟨1, .phase⟩, ⟨2, .phase⟩, ⟨3, .phase⟩, ⟨4, .phase⟩, ⟨5, .phase⟩, ⟨6, .phase⟩, ⟨7, .phase⟩, ⟨8, .phase⟩, ⟨9, .phase⟩, ⟨10, .phase⟩], none⟩ hHeld ?_
 simp only [Act.put, sA_, sB_, sC_]
 refine wpAnyH_done (by kernel_rfl) ?_ _
 refine NoPanic.normal ?_
 clear s6 s5 hHeld
 go_wp2
 refine bodyPost_ret (res_ct rfl rfl (hR5.load entT rfl)) rfl ?_
 exact ⟨rfl, HB3.out.trans ((Below.refl _ _).drew.trans (hF5.toBelow (fun y hy => by rw [show y = w.heap.size + 1 from hy]; omega) HB3.out.size))⟩
end
end Go.Proofs.YtaoinkjjmakhaaaGreatDoor
namespace Go.Proofs.YtaoinkjjmakhaaaGreatDoor
open Go.RowKit
set_option maxRecDepth 20000
section
variable {w : World} {N : Nat} {gr : Nat -> Nat} {x : Fx} {k : Ks} {c : Nat} {pt : Nat -> Nat}
theorem eask_not (R : Value) (i g : Int) (kk : Int) (z : Int) (hz : z ≠ 0) (w : World)
  (CF : Hid (∀ W, Below w.heap.size w W -> Calls Tryz.prog 35 #[R, .agg #[.int .i64 i, .int .i64 g]] W fun e w' => e = .returned (.tuple #[.agg enZ, .int .i64 z]) /\ Below W.heap.size W w')) :
  Calls Tryz.prog 60 #[R, .agg #[.int .i64 i, .int .i64 g], .int .i64 kk] w fun e w' => e = .returned (.tuple #[.agg enZ, .int .i64 z]) /\ Below w.heap.size w w' := by
 obtain ⟨w1, hw1, hb1, r1, r2, hs1⟩ := find_start w i g
 have C1 := hi_ (CF.out w1 hb1)
 have k0 := r1.at_ 0
 have k1 := r1.at_ 1
 have d1 : decide (z = 0) = false := decide_eq_false hz
 have d2 : (z != 0) = true := bne_iff_ne.2 hz
 have HB := hi_ (And.intro hb1 (And.intro r2 hs1))
 clear hb1 r1 r2 hs1 CF
 go_enter Tryz.func60, Tryz.ntmps60
 go_wp2_with (first
  | (rw [<- hw1]; clear hw1)
  | (go_at_call 35; refine C1.out.mono ?_; rintro e w2 ⟨rfl, hb2⟩; obtain ⟨w3, hw3⟩ : ∃ w3, w3 = w2.alloc (.cells enZ 88) := ⟨_, rfl⟩; have hb3 : Below w1.heap.size w1 w3 := hb2.trans (show Below w1.heap.size w2 w3 by rw [hw3]; exact (Below.refl _ _).alloc hb2.size _); have R3 := hi_ (show Rec 88 w3 w2.heap.size enZ by rw [hw3]; exact Rec.new w2 _ _); have HS := hi_ (And.intro hb2.size hb3); clear hb2 hb3 k0 k1)
  | (rw [<- hw3]; clear hw3)
  | ((with_reducible refine wpList_stNz enZ_size rfl (.tmp 8) (.tmp 16) rfl rfl rfl R3.out ?_); intro w4 hR4 hF4; have HB3 := hi_ (HS.out.2.trans (hF4.toBelow (fun y hy => by rw [show y = w2.heap.size from hy]; exact HS.out.1) HS.out.2.size)); clear hR4 hF4)
  | ((with_reducible refine wpList_stNz enZ_size rfl (.tmp 6) (.tmp 20) rfl rfl rfl (HB.out.2.1.under HB3.out) ?_); intro w5 hR5 hF5))
 refine bodyPost_ret (res_ct rfl rfl (hR5.load entT rfl)) rfl ?_
 exact ⟨rfl, HB.out.1.trans ((HB3.out.mono HB.out.1.size).trans (hF5.toBelow (fun y hy => by rw [show y = w.heap.size + 1 from hy]; omega) (Nat.le_trans HB.out.1.size HB3.out.size)))⟩
theorem eask_yes (h : CoJ 0 w N gr x k c pt) {i g : Int} (hw : okE (i, g)) {n r : Nat} {t : Tb} (hp : k.pl (i, g) = some (n, r)) (ht : k.tb n = some t) (hn : okN n) (kk : Int) (hks : x.n <= 1000000) (b : Bool) (hb : (sizeK x.ks kk).2 = b) :
  Calls Tryz.prog 60 #[.pointer (some ⟨x.p, 0, none⟩), .agg #[.int .i64 i, .int .i64 g], .int .i64 kk] w fun e w' => e = .returned (if b = true then .tuple #[.agg (enC n r i g (some ⟨pt n, 0, none⟩)), .int .i64 0] else .tuple #[.agg enZ, .int .i64 6]) /\ Below w.heap.size w w' := by
 obtain ⟨w1, hw1, hb1, r1, r2, hs1⟩ := find_start w i g
 have h1 := h.below hb1
 have C1 := hi_ (efind_yes h1 hw hp ht hn)
 have H1 := hi_ h1
 have k0 := r1.at_ 0
 have k1 := r1.at_ 1
 have HB := hi_ (And.intro hb1 (And.intro r2 hs1))
 obtain ⟨q, hq⟩ : ∃ q : Nat, q = pt n := ⟨_, rfl⟩
 rw [<- hq] at C1 ⊢
 have HK := hi_ hks
 obtain ⟨sz, hsz⟩ : ∃ sz, sz = (sizeK x.ks kk).1 := ⟨_, rfl⟩
 have CS : Hid (∀ W, CoJ 0 W N gr x k c pt -> Calls Tryz.prog 61 #[cv x.lg x.ps x.en x.gn x.A x.n x.cap, .int .i64 kk] W fun e w' => e = .returned (.tuple #[.int .i64 sz, .bool b]) /\ Below W.heap.size W w') := hi_ (fun W hW => by
  have := Size_any x.lg x.ps x.en x.gn x.A x.n x.cap x.ks W hW.kd hks kk
  rw [hb, <- hsz] at this
  exact this)
 clear h h1 hb1 r1 r2 hs1 hw hp ht hn hks hb hsz hq
 go_enter Tryz.func60, Tryz.ntmps60
 go_upto_region 4 with (first
  | (rw [<- hw1]; clear hw1)
  | (go_at_call 35; refine C1.out.mono ?_; rintro e w2 ⟨rfl, hb2⟩; obtain ⟨w3, hw3⟩ : ∃ w3, w3 = w2.alloc (.cells enZ 88) := ⟨_, rfl⟩; have hb3 : Below w1.heap.size w1 w3 := hb2.trans (show Below w1.heap.size w2 w3 by rw [hw3]; exact (Below.refl _ _).alloc hb2.size _); have R3 := hi_ (show Rec 88 w3 w2.heap.size enZ by rw [hw3]; exact Rec.new w2 _ _); have HS := hi_ (And.intro hb2.size hb3); clear hb2 hb3 k0 k1)
  | (rw [<- hw3]; clear hw3)
  | ((with_reducible refine wpList_stN n r i g (some ⟨q, 0, none⟩) enZ_size rfl (.tmp 8) (.tmp 16) rfl rfl rfl R3.out ?_); intro w4 hR4 hF4; have hb4 := HS.out.2.trans (hF4.toBelow (fun y hy => by rw [show y = w2.heap.size from hy]; exact HS.out.1) HS.out.2.size); have H4 := hi_ (H1.out.below hb4); have HR4 := hi_ hR4; have HB4 := hi_ hb4; clear hR4 hF4 hb4))
 have C4 := hi_ (CS.out w4 H4.out)
 have k0 : w4.cell? ⟨x.p, 0, none⟩ = some (.int .i64 x.lg) := H4.out.cell 0
 have k1 : w4.cell? ⟨x.p, 1, none⟩ = some (.int .i64 x.ps) := H4.out.cell 1
 have k2 : w4.cell? ⟨x.p, 2, none⟩ = some (.int .i64 x.en) := H4.out.cell 2
 have k3 : w4.cell? ⟨x.p, 3, none⟩ = some (.int .i64 x.gn) := H4.out.cell 3
 have k4 : w4.cell? ⟨x.p, 4, none⟩ = some (.slice x.A x.n x.cap) := H4.out.cell 4
 have HB6 := hi_ (HB.out.1.trans (HB4.out.mono HB.out.1.size))
 have HE4 := hi_ (HB.out.2.1.under HB4.out)
 clear CS C1 R3 H1 H4
 cases b with
 | true =>
  go_wp2_with (first
   | (go_at_call 61; refine C4.out.mono ?_; rintro e w5 ⟨rfl, hb5⟩; have HB5 := hi_ hb5; have R5 := hi_ (HR4.out.under hb5); have E5 := hi_ (HE4.out.under hb5); clear hb5 k0 k1 k2 k3 k4)
   | (with_reducible refine wpList_ldN rfl (.tmp 8) rfl rfl R5.out ?_)
   | ((with_reducible refine wpList_stN n r i g (some ⟨q, 0, none⟩) enZ_size rfl (.tmp 6) (.tmp 34) rfl rfl rfl E5.out ?_); intro w6 hR6 hF6))
  refine bodyPost_ret (res_ct rfl rfl (hR6.load entT rfl)) rfl ?_
  exact ⟨rfl, HB6.out.trans ((HB5.out.mono HB6.out.size).trans (hF6.toBelow (fun y hy => by rw [show y = w.heap.size + 1 from hy]; omega) (Nat.le_trans HB6.out.size HB5.out.size)))⟩
 | false =>
  go_wp2_with (first
   | (go_at_call 61; refine C4.out.mono ?_; rintro e w5 ⟨rfl, hb5⟩; have HB5 := hi_ hb5; have E5 := hi_ (HE4.out.under hb5); clear hb5 k0 k1 k2 k3 k4)
   | ((with_reducible refine wpList_stNz enZ_size rfl (.tmp 6) (.tmp 33) rfl rfl rfl E5.out ?_); intro w6 hR6 hF6))
  refine bodyPost_ret (res_ct rfl rfl (hR6.load entT rfl)) rfl ?_
  exact ⟨rfl, HB6.out.trans ((HB5.out.mono HB6.out.size).trans (hF6.toBelow (fun y hy => by rw [show y = w.heap.size + 1 from hy]; omega) (Nat.le_trans HB6.out.size HB5.out.size)))⟩
end
end Go.Proofs.YtaoinkjjmakhaaaGreatDoor
namespace Go.Proofs.YtaoinkjjmakhaaaGreatDoor
open Go.RowKit
set_option maxRecDepth 20000
def Ks.put (k : Ks) (id : Int × Int) (n : Nat) (t : Tb) (ps : List Pt) : Ks := { k with pl := fun j => if j = id then some (n, t.rows.length) else k.pl j, tb := upd k.tb n (some (t.add id ps).1) }
section
variable {w : World} {N : Nat} {gr : Nat -> Nat} {x : Fx} {k : Ks} {c : Nat} {pt : Nat -> Nat}
def TabN (N : Nat) (w : World) : Prop := 0 < N /\ TabAt w
theorem TabN.low {w w' : World} {N : Nat} (h : TabN N w) (hb : Below N w w') : TabN N w' := ⟨h.1, fun j hj => (hb.cell (p := ⟨0, j, none⟩) h.1).trans (h.2 j hj)⟩
theorem TabN.go {j : Nat} {w' : World} {gr' : Nat -> Nat} (h : TabN N w) (hC : CoJ j w N gr x k c pt) (hG : TGo w gr w' gr') : TabN N w' := h.low (hG.toBelow hC.lo hC.Nle)
theorem TabN.below {j : Nat} {w' : World} (h : TabN N w) (hC : CoJ j w N gr x k c pt) (hb : Below w.heap.size w w') : TabN N w' := h.low (hb.mono hC.Nle)
theorem TGo.gr0 {w w' : World} {gr gr' : Nat -> Nat} (h : TGo w gr w' gr') {y : Nat} (hy : gr y = 0) (hl : y < w.heap.size) : gr' y = 0 := by
 refine Classical.byContradiction fun hn => ?_
 rcases h.own y hn with h1 | h1
 ·exact h1 hy
 ·omega
theorem plF_put (pl : Int × Int -> Option (Nat × Nat)) (id : Int × Int) (n r : Nat) (j : Int × Int) : (if j = id then some (plV (n, r)) else plF pl j) = plF (fun j => if j = id then some (n, r) else pl j) j := by
 unfold plF
 by_cases e : j = id
 ·simp only [if_pos e, Option.map_some]
 ·simp only [if_neg e]
theorem CoJ.put_pl (h : CoJ 0 w N gr x k c pt) (hc : c <= 1000000) {i g : Int} (hw : okE (i, g)) (n r : Nat) :
  ∃ w', (Instr.mapUpdate 80 (.map (some x.mp)) (.agg #[.int .i64 i, .int .i64 g]) (.agg #[.int .i64 (n : Int), .int .i64 (r : Int)])).run Tryz.prog w = .ok () w' /\ ∃ gr', CoJ 0 w' N gr' x { k with pl := fun j => if j = (i, g) then some (n, r) else k.pl j } (c + 1) pt /\ TGo w gr w' gr' /\ Fr (· = x.mp) w w' := by
 obtain ⟨np, hnp, hm⟩ := h.mpp (by decide)
 obtain ⟨w', hrun, hm', hg⟩ := hm.put kfD Tryz.underlying80 (by unfold maxLen; omega) hw (plV (n, r))
 obtain ⟨gr', h', hG⟩ := h.pl_go (pl' := fun j => if j = (i, g) then some (n, r) else k.pl j) (hm'.congr (fun j _ => plF_put k.pl (i, g) n r j)) hg (show (if (plF k.pl (i, g)).isSome = true then np else np + 1) <= c + 1 by split <;> omega) (Nat.le_succ c)
 exact ⟨w', hrun, gr', h', hG, Fr.grown hg (fun y e => by injection e with e; exact e.symm)⟩
theorem eadd_old (h : CoJ 0 w N gr x k c pt) (hT : TabN N w) (hc : c <= 1000000) {i g : Int} (hw : okE (i, g)) {n : Nat} (hn : okN n) {t : Tb} (ht : k.tb n = some t) {K : Nat -> Prop} {PA : Option Addr} {pn : Nat} {ps : List Pt} (hp : PartsV K w PA pn ps) (hK : ∀ y, K y -> gr y = 0) (hpn : pn <= 1000000) (pc : Nat) :
  Calls Tryz.prog 58 #[.pointer (some ⟨x.p, 0, none⟩), .agg #[.int .i64 i, .int .i64 g], .int .i64 (n : Int), .slice PA pn pc] w fun e w' => e = .returned (.tuple #[]) /\ ∃ gr', CoJ 0 w' N gr' x (k.put (i, g) n t ps) (c + 1) pt /\ TGo w gr w' gr' := by
 obtain ⟨w1, hw1⟩ : ∃ w1, w1 = w.alloc (.cells #[.int .i64 i, .int .i64 g] 32) := ⟨_, rfl⟩
 have hb1 : Below w.heap.size w w1 := by rw [hw1]; exact (Below.refl _ _).alloc (Nat.le_refl _) _
 have r1 : Rec 32 w1 w.heap.size #[.int .i64 i, .int .i64 g] := by rw [hw1]; exact Rec.new w _ _
 have h1 := h.below hb1
 have c7 := h1.c7
 have LT := h1.lookT_ok hn
 rw [show tbV k.tb pt n = some (.pointer (some ⟨pt n, 0, none⟩)) by unfold tbV; rw [ht]; rfl] at LT
 simp only [Option.getD_some, Option.isSome_some] at LT
 obtain ⟨s, tag, m, v, q, hs, hA, hg⟩ := h1.tab n t (by omega) ht
 have h1d := h1.below (Below.refl _ _).drew
 have CL : Hid (Calls Tryz.prog 113 #[.pointer (some ⟨pt n, 0, none⟩)] w1.drew fun e w' => e = .returned (.int .i64 (t.rows.length : Nat)) /\ w1.drew = w') := hi_ (by
  have := tlen_any (hA.below (Below.refl _ _).drew).i
  rw [t.ids_len] at this
  exact this)
 obtain ⟨w2, hrun, gr2, h2, hG2, hF2⟩ := h1d.put_pl hc hw n t.rows.length
 obtain ⟨s', tag', m', v', q', hs', hA2, hg2⟩ := h2.tab n t (by omega) ht
 have hG12 : TGo w gr w2 gr2 := (TGo.ofBelow (hb1.drew)).trans hG2
 have hp2 : PartsV (fun y => K y /\ y < w.heap.size) w2 PA pn ps := (hp.lt).stays ⟨hG12.fr.size, fun y hy => hG12.fr.block y hy.2 (fun hn => hn (hK y hy.1))⟩
 have CA := hi_ (TAdd_go hA2 (hT.go h hG12).2 hp2 (fun y hy => by
  have h0 := hG12.gr0 (hK y hy.1) hy.2
  refine Classical.byContradiction fun hn => ?_
  have := hg2 y hn
  omega) hpn pc i g)
 have HE : Hid (∀ w', TStep w2 N tag' (pt n) m' q' s' (t.add (i, g) ps).1 w' -> ∃ gr', CoJ 0 w' N gr' x (k.put (i, g) n t ps) (c + 1) pt /\ TGo w gr w' gr') := hi_ (fun w' hS => by
  obtain ⟨gr', h', hG'⟩ := h2.tab_go ht hs' hg2 hS
  exact ⟨gr', h', hG12.trans hG'⟩)
 have k20 := (hF2.block w.heap.size (show w.heap.size < w1.drew.heap.size from r1.lt) (fun e => by have := h.dom x.mp (by rw [h.gm]; decide); have e' : w.heap.size = x.mp := e; omega))
 have s6 : w1.drew.cell? ⟨x.p, 8, none⟩ = some (.map (some x.mp)) /\ w1.drew.cell? ⟨w.heap.size, 0, none⟩ = some (.int .i64 i) /\ w1.drew.cell? ⟨w.heap.size, 1, none⟩ = some (.int .i64 g) := ⟨h1d.c8, r1.at_ 0, r1.at_ 1⟩
 have s7 : w2.cell? ⟨x.p, 8, none⟩ = some (.map (some x.mp)) /\ w2.cell? ⟨w.heap.size, 0, none⟩ = some (.int .i64 i) /\ w2.cell? ⟨w.heap.size, 1, none⟩ = some (.int .i64 g) := ⟨h2.c8, (World.cell?_of_block (w := w1.drew) (a := ⟨w.heap.size, 0, none⟩) k20).trans (r1.at_ 0), (World.cell?_of_block (w := w1.drew) (a := ⟨w.heap.size, 1, none⟩) k20).trans (r1.at_ 1)⟩
 have S7 := hi_ s7
 obtain ⟨z, hz⟩ : ∃ z : Nat, z = t.rows.length := ⟨_, rfl⟩
 rw [<- hz] at CL hrun
 clear h h1 hb1 r1 hA hg h1d h2 hA2 hg2 hG2 hG12 hF2 hp hp2 hK hT k20 hs hs' hz hw hn ht hc
 go_enter Tryz.func58, Tryz.ntmps58
 go_upto_region 6 with (rw [<- hw1]; clear hw1)
 refine wp_region_noPanic ?_
 refine wp_region_held_drew (S := fun W => W.cell? ⟨x.p, 8, none⟩ = some (.map (some x.mp)) /\ W.cell? ⟨w.heap.size, 0, none⟩ = some (.int .i64 i) /\ W.cell? ⟨w.heap.size, 1, none⟩ = some (.int .i64 g)) (by kernel_rfl) s6 (fun hHeld => ?_)
 refine tk_ 0 ⟨some 44, .move (.tmp 0), 29, "ecs.go:236", #[], none⟩ hHeld ?_
 simp only [Act.put, sA_, sB_, sC_]
 refine tk_ 1 ⟨some 45, .nilCheck (.tmp 44), 0, "ecs.go:236", #[⟨0, .data⟩], none⟩ hHeld ?_
 simp only [Act.put, sA_, sB_, sC_]
 refine tk_ 2 ⟨some 46, .fieldAddr 82 (.tmp 45) 4, 0, "ecs.go:236", #[⟨1, .data⟩], none⟩ hHeld ?_
 simp only [Act.put, sA_, sB_, sC_]
 refine tk_ 3 ⟨some 47, .load 80 (.tmp 46), 80, "ecs.go:236", #[⟨2, .data⟩], none⟩ hHeld ?_
 simp only [Act.put, sA_, sB_, sC_]
 refine tk_ 4 ⟨some 48, .load 32 (.tmp 5), 32, "ecs.go:236", #[], none⟩ hHeld ?_
 simp only [Act.put, sA_, sB_, sC_]
 refine tk_ 5 ⟨some 49, .move (.tmp 2), 3, "ecs.go:236", #[], none⟩ hHeld ?_
 simp only [Act.put, sA_, sB_, sC_]
 refine tk_ 6 ⟨some 50, .move (.tmp 8), 86, "ecs.go:236", #[], none⟩ hHeld ?_
 simp only [Act.put, sA_, sB_, sC_]
 refine wpAnyH_ready (rs := [7]) (by kernel_rfl) (by simp) ?_
 refine AllReadyH.cons (o := ⟨some 51, .call { callee := .value (.func 113), args := #[.tmp 50], argTypes := #[86] }, 3, "ecs.go:236", #[⟨6, .data⟩], none⟩) rfl (fun K' hK => ?_) AllReadyH.nil
 go_simp
 go_at_call 113; refine CL.out.mono ?_; rintro e w' ⟨rfl, rfl⟩
 refine hK.out _ _ s6 (fun hHeld => ?_)
 clear hK K'
 try simp only [Act.put, sA_, sB_, sC_]
 refine tk_ 8 ⟨some 52, .build 85 #[(0, .tmp 49), (1, .tmp 51)], 85, "ecs.go:236", #[⟨5, .data⟩, ⟨7, .data⟩], none⟩ hHeld ?_
 simp only [Act.put, sA_, sB_, sC_]
 refine wpAnyH_ready (rs := [9]) (by kernel_rfl) (by simp) ?_
 refine AllReadyH.cons (o := ⟨none, .mapUpdate 80 (.tmp 47) (.tmp 48) (.tmp 52), 0, "ecs.go:236", #[⟨3, .data⟩, ⟨4, .data⟩, ⟨8, .data⟩, ⟨7, .chain⟩, ⟨0, .phase⟩, ⟨1, .phase⟩, ⟨2, .phase⟩, ⟨3, .phase⟩, ⟨4, .phase⟩, ⟨5, .phase⟩, ⟨6, .phase⟩, ⟨7, .phase⟩, ⟨8, .phase⟩], none⟩) rfl (fun K' hK => ?_) AllReadyH.nil
 go_simp
 refine hK.out _ _ s7 (fun hHeld => ?_)
 clear hK K'
 try simp only [Act.put]
 refine wpAnyH_done (by kernel_rfl) ?_ _
 refine NoPanic.normal ?_
 clear s6 s7 hHeld
 have k0 := S7.out.2.1
 have k1 := S7.out.2.2
 go_wp2_with (go_at_call 114; refine CA.out.mono ?_; rintro e w5 ⟨z5, _, rfl, hS5⟩; have HS5 := hi_ hS5; clear hS5 k0 k1)
 go_end0
 exact ⟨rfl, HE.out _ HS5.out⟩
theorem CoJ.put_tab {w2 : World} {n s p' m : Nat} {q : Nat -> Nat} {tag : Nat -> Nat} {v : Value} {t : Tb} (h : CoJ 0 w N gr x k c pt) (hc : c <= 1000000) (hn : okN n) (hb : Below w.heap.size w w2) (hA : TbA w2 w.heap.size tag p' m v q s t) (hs : k.S[n]? = some s) (hi : k.tb n = none) :
  ∃ w', (Instr.mapUpdate 79 (.map (some x.mt)) (.int .i64 (n : Int)) (.pointer (some ⟨p', 0, none⟩))).run Tryz.prog w2 = .ok () w' /\ ∃ gr', CoJ 0 w' N gr' x { k with tb := upd k.tb n (some t) } (c + 1) (upd pt n p') /\ TGo w gr w' gr' /\ Fr (· = x.mt) w2 w' := by
 obtain ⟨nt, hnt, hm⟩ := h.mpt (by decide)
 obtain ⟨w', hrun, hm', hg⟩ := (hm.below hb).put kfN Tryz.underlying79 (by unfold maxLen; omega) hn (.pointer (some ⟨p', 0, none⟩))
 obtain ⟨gr', h', hG⟩ := h.tab_new hb hA hs hi hm' hg (show (if (tbV k.tb pt n).isSome = true then nt else nt + 1) <= c + 1 by split <;> omega)
 exact ⟨w', hrun, gr', h', hG, Fr.grown hg (fun y e => by injection e with e; exact e.symm)⟩
theorem eadd_new (h : CoJ 0 w N gr x k c pt) (hT : TabN N w) (hc : c <= 100000) {i g : Int} (hw : okE (i, g)) {n : Nat} (hn : okN n) (ht : k.tb n = none) {s : Nat} (hs : k.S[n]? = some s) (hsl : s < 18446744073709551616) (hsub : s &&& ofL (idxs x.n) 64 = s) (hks : x.n <= 1000000) {K : Nat -> Prop} {PA : Option Addr} {pn : Nat} {ps : List Pt} (hp : PartsV K w PA pn ps) (hK : ∀ y, K y -> gr y = 0) (hpn : pn <= 1000000) (pc : Nat) :
  Calls Tryz.prog 58 #[.pointer (some ⟨x.p, 0, none⟩), .agg #[.int .i64 i, .int .i64 g], .int .i64 (n : Int), .slice PA pn pc] w fun e w' => e = .returned (.tuple #[]) /\ ∃ gr' pt', CoJ 0 w' N gr' x (k.put (i, g) n (Tb.new x.n (zsK x.ks) s) ps) (c + 2) pt' /\ TGo w gr w' gr' := by
 obtain ⟨w1, hw1⟩ : ∃ w1, w1 = w.alloc (.cells #[.int .i64 i, .int .i64 g] 32) := ⟨_, rfl⟩
 have hb1 : Below w.heap.size w w1 := by rw [hw1]; exact (Below.refl _ _).alloc (Nat.le_refl _) _
 have r1 : Rec 32 w1 w.heap.size #[.int .i64 i, .int .i64 g] := by rw [hw1]; exact Rec.new w _ _
 have h1 := h.below hb1
 have c7 := h1.c7
 have c6 := h1.c6
 have k0 : w1.cell? ⟨x.p, 0, none⟩ = some (.int .i64 x.lg) := h1.cell 0
 have k1 : w1.cell? ⟨x.p, 1, none⟩ = some (.int .i64 x.ps) := h1.cell 1
 have k2 : w1.cell? ⟨x.p, 2, none⟩ = some (.int .i64 x.en) := h1.cell 2
 have k3 : w1.cell? ⟨x.p, 3, none⟩ = some (.int .i64 x.gn) := h1.cell 3
 have k4 : w1.cell? ⟨x.p, 4, none⟩ = some (.slice x.A x.n x.cap) := h1.cell 4
 have LT := h1.lookT_ok hn
 rw [show tbV k.tb pt n = none by unfold tbV; rw [ht]; rfl] at LT
 simp only [Option.getD_none, Option.isSome_none] at LT
 obtain ⟨sv, ed, b, _, hGA⟩ := h1.gph (by decide)
 have CS := hi_ (Sig_yes hGA n s hs)
 obtain ⟨T0, hT0⟩ : ∃ T0, T0 = Tb.new x.n (zsK x.ks) s := ⟨_, rfl⟩
 have CN : Hid (Calls Tryz.prog 102 #[cv x.lg x.ps x.en x.gn x.A x.n x.cap, .int .u64 (s : Nat)] w1 fun e w2 => ∃ p' m q tag, e = .returned (.pointer (some ⟨p', 0, none⟩)) /\ TbA w2 w1.heap.size tag p' m nilv q s T0 /\ Below w1.heap.size w1 w2) := hi_ (by
  refine (TNew_any x.lg x.ps x.en x.gn x.A x.n x.cap x.ks w1 h1.kd hks s hsl (hT.2.below hb1)).mono ?_
  rintro e w' ⟨p', m, q, tag, rfl, hI, hB⟩
  have hA := TbA.new hsl hI
  rw [hsub, <- hT0] at hA
  exact ⟨p', m, q, tag, rfl, hA, hB⟩)
 have H1 := hi_ (And.intro h1 (And.intro r1 (And.intro hb1 (And.intro hT (And.intro hp h)))))
 have HN := hi_ (And.intro hn (And.intro hs (And.intro ht (And.intro hw (And.intro hc (And.intro hK hpn))))))
 rw [<- hT0]
 clear h h1 hb1 r1 hp hK hT hs hw hn ht hc hGA hsl hsub hpn hT0
 go_enter Tryz.func58, Tryz.ntmps58
 go_upto_region 5 with (first
  | (rw [<- hw1]; clear hw1)
  | (go_at_call 112; refine CS.out.mono ?_; rintro e w' ⟨rfl, rfl⟩)
  | (go_at_call 102; refine CN.out.mono ?_; rintro e w2 ⟨p', m, q, tag, rfl, hA2, hb2⟩; have HA2 := hi_ hA2; have HB2 := hi_ hb2; clear hA2 hb2 k0 k1 k2 k3 k4 c6))
 obtain ⟨h1, r1, hb1, hT, hp, h⟩ := H1.out
 obtain ⟨hn, hs, ht, hw, hc, hK, hpn⟩ := HN.out
 have c7 : w2.cell? ⟨x.p, 7, none⟩ = some (.map (some x.mt)) := (h1.below HB2.out).c7
 obtain ⟨w3, hrun3, gr3, h3, hG3, hF3⟩ := h1.put_tab (by omega) hn HB2.out HA2.out hs ht
 have r3 := (r1.under HB2.out).fr hF3 (fun e => by have := h.dom x.mt (by rw [h.gt]; decide); have e' : w.heap.size = x.mt := e; omega)
 have h3d := h3.below (Below.refl _ _).drew
 obtain ⟨s4, tag4, m4, v4, q4, hs4, hA4, hg4⟩ := h3d.tab n T0 (by omega) (if_pos rfl)
 have CL : Hid (Calls Tryz.prog 113 #[.pointer (some ⟨p', 0, none⟩)] w3.drew fun e w' => e = .returned (.int .i64 (T0.rows.length : Nat)) /\ w3.drew = w') := hi_ (by
  have := tlen_any hA4.i
  rw [T0.ids_len, show upd pt n p' n = p' from if_pos rfl] at this
  exact this)
 obtain ⟨w5, hrun5, gr5, h5, hG5, hF5⟩ := h3d.put_pl (by omega) hw n T0.rows.length
 obtain ⟨s6', tag6, m6, v6, q6, hs6, hA6, hg6⟩ := h5.tab n T0 (by omega) (if_pos rfl)
 have hG05 : TGo w gr w5 gr5 := (TGo.ofBelow hb1).trans (hG3.trans ((TGo.ofBelow (Below.refl _ _).drew).trans hG5))
 have hp5 : PartsV (fun y => K y /\ y < w.heap.size) w5 PA pn ps := (hp.lt).stays ⟨hG05.fr.size, fun y hy => hG05.fr.block y hy.2 (fun hn => hn (hK y hy.1))⟩
 have CA := TAdd_go hA6 (hT.go h hG05).2 hp5 (fun y hy => by
  have h0 := hG05.gr0 (hK y hy.1) hy.2
  refine Classical.byContradiction fun hn => ?_
  have := hg6 y hn
  omega) hpn pc i g
 rw [show upd pt n p' n = p' from if_pos rfl] at CA
 have CA := hi_ CA
 have HE : Hid (∀ w', TStep w5 N tag6 p' m6 q6 s6' (T0.add (i, g) ps).1 w' -> ∃ gr' pt', CoJ 0 w' N gr' x (k.put (i, g) n T0 ps) (c + 2) pt' /\ TGo w gr w' gr') := hi_ (fun w' hS => by
  obtain ⟨gr', h', hG'⟩ := h5.tab_go (i := n) (if_pos rfl) hs6 hg6 (by rw [show upd pt n p' n = p' from if_pos rfl]; exact hS)
  refine ⟨gr', upd pt n p', ?_, hG05.trans hG'⟩
  have e : upd (upd k.tb n (some T0)) n (some (T0.add (i, g) ps).1) = upd k.tb n (some (T0.add (i, g) ps).1) := by
   funext a
   unfold upd
   split <;> rfl
  simp only [e] at h'
  exact h')
 have k50 := (hF5.block w.heap.size (show w.heap.size < w3.drew.heap.size from r3.lt) (fun e => by have := h.dom x.mp (by rw [h.gm]; decide); have e' : w.heap.size = x.mp := e; omega))
 have s6 : w3.drew.cell? ⟨x.p, 8, none⟩ = some (.map (some x.mp)) /\ w3.drew.cell? ⟨w.heap.size, 0, none⟩ = some (.int .i64 i) /\ w3.drew.cell? ⟨w.heap.size, 1, none⟩ = some (.int .i64 g) := ⟨h3d.c8, r3.at_ 0, r3.at_ 1⟩
 have s7 : w5.cell? ⟨x.p, 8, none⟩ = some (.map (some x.mp)) /\ w5.cell? ⟨w.heap.size, 0, none⟩ = some (.int .i64 i) /\ w5.cell? ⟨w.heap.size, 1, none⟩ = some (.int .i64 g) := ⟨h5.c8, (World.cell?_of_block (w := w3.drew) (a := ⟨w.heap.size, 0, none⟩) k50).trans (r3.at_ 0), (World.cell?_of_block (w := w3.drew) (a := ⟨w.heap.size, 1, none⟩) k50).trans (r3.at_ 1)⟩
 have S7 := hi_ s7
 have S6 := hi_ s6
 obtain ⟨z, hz⟩ : ∃ z : Nat, z = T0.rows.length := ⟨_, rfl⟩
 rw [<- hz] at CL hrun5
 have R5 := hi_ hrun5
 clear h h1 hb1 r1 h3 h3d hA4 hg4 h5 hA6 hg6 hG3 hG5 hG05 hF3 hF5 hp hp5 hK hT k50 hs hs4 hs6 hz hw hn ht hc hpn r3 s6 s7 hrun5 HA2 HB2 CN CS H1 HN LT
 go_upto_region 6 with fail
 have s6 := S6.out
 have s7 := S7.out
 have hrun5 := R5.out
 refine wp_region_noPanic ?_
 refine wp_region_held_drew (S := fun W => W.cell? ⟨x.p, 8, none⟩ = some (.map (some x.mp)) /\ W.cell? ⟨w.heap.size, 0, none⟩ = some (.int .i64 i) /\ W.cell? ⟨w.heap.size, 1, none⟩ = some (.int .i64 g)) (by kernel_rfl) s6 (fun hHeld => ?_)
 refine tk_ 0 ⟨some 44, .move (.tmp 0), 29, "ecs.go:236", #[], none⟩ hHeld ?_
 simp only [Act.put, sA_, sB_, sC_]
 refine tk_ 1 ⟨some 45, .nilCheck (.tmp 44), 0, "ecs.go:236", #[⟨0, .data⟩], none⟩ hHeld ?_
 simp only [Act.put, sA_, sB_, sC_]
 refine tk_ 2 ⟨some 46, .fieldAddr 82 (.tmp 45) 4, 0, "ecs.go:236", #[⟨1, .data⟩], none⟩ hHeld ?_
 simp only [Act.put, sA_, sB_, sC_]
 refine tk_ 3 ⟨some 47, .load 80 (.tmp 46), 80, "ecs.go:236", #[⟨2, .data⟩], none⟩ hHeld ?_
 simp only [Act.put, sA_, sB_, sC_]
 refine tk_ 4 ⟨some 48, .load 32 (.tmp 5), 32, "ecs.go:236", #[], none⟩ hHeld ?_
 simp only [Act.put, sA_, sB_, sC_]
 refine tk_ 5 ⟨some 49, .move (.tmp 2), 3, "ecs.go:236", #[], none⟩ hHeld ?_
 simp only [Act.put, sA_, sB_, sC_]
 refine tk_ 6 ⟨some 50, .move (.tmp 8), 86, "ecs.go:236", #[], none⟩ hHeld ?_
 simp only [Act.put, sA_, sB_, sC_]
 refine wpAnyH_ready (rs := [7]) (by kernel_rfl) (by simp) ?_
 refine AllReadyH.cons (o := ⟨some 51, .call { callee := .value (.func 113), args := #[.tmp 50], argTypes := #[86] }, 3, "ecs.go:236", #[⟨6, .data⟩], none⟩) rfl (fun K' hK => ?_) AllReadyH.nil
 go_simp
 go_at_call 113; refine CL.out.mono ?_; rintro e w' ⟨rfl, rfl⟩
 refine hK.out _ _ s6 (fun hHeld => ?_)
 clear hK K'
 try simp only [Act.put, sA_, sB_, sC_]
 refine tk_ 8 ⟨some 52, .build 85 #[(0, .tmp 49), (1, .tmp 51)], 85, "ecs.go:236", #[⟨5, .data⟩, ⟨7, .data⟩], none⟩ hHeld ?_
 simp only [Act.put, sA_, sB_, sC_]
 refine wpAnyH_ready (rs := [9]) (by kernel_rfl) (by simp) ?_
 refine AllReadyH.cons (o := ⟨none, .mapUpdate 80 (.tmp 47) (.tmp 48) (.tmp 52), 0, "ecs.go:236", #[⟨3, .data⟩, ⟨4, .data⟩, ⟨8, .data⟩, ⟨7, .chain⟩, ⟨0, .phase⟩, ⟨1, .phase⟩, ⟨2, .phase⟩, ⟨3, .phase⟩, ⟨4, .phase⟩, ⟨5, .phase⟩, ⟨6, .phase⟩, ⟨7, .phase⟩, ⟨8, .phase⟩], none⟩) rfl (fun K' hK => ?_) AllReadyH.nil
 go_simp
 refine hK.out _ _ s7 (fun hHeld => ?_)
 clear hK K'
 try simp only [Act.put]
 refine wpAnyH_done (by kernel_rfl) ?_ _
 refine NoPanic.normal ?_
 clear s6 s7 hHeld
 have k0 := S7.out.2.1
 have k1 := S7.out.2.2
 go_wp2_with (go_at_call 114; refine CA.out.mono ?_; rintro e w7 ⟨z5, _, rfl, hS5⟩; have HS5 := hi_ hS5; clear hS5 k0 k1)
 go_end0
 exact ⟨rfl, HE.out _ HS5.out⟩
end
end Go.Proofs.YtaoinkjjmakhaaaGreatDoor
