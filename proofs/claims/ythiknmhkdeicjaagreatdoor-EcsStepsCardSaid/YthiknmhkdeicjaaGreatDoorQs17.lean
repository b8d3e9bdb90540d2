/- EcV, OpnF, Opn, OpnV, CmO, EcO, CmSa, EcX -/
import Derived.Test.YthiknmhkdeicjaaGreatDoorQs1
import Derived.Test.YthiknmhkdeicjaaGreatDoorQs3
import Derived.Test.YthiknmhkdeicjaaGreatDoorQs4
import Derived.Test.YthiknmhkdeicjaaGreatDoorQs12
import Derived.Test.YthiknmhkdeicjaaGreatDoorQs16
import Derived.Deep.Slices
import Derived.Deep.Fields
import Derived.ChangeSame
import Derived.Lib.SmallJoins
import Derived.WideShapes
import Derived.BigQuiet
import Derived.Deep.QuietTactic
namespace Go.Proofs.YthiknmhkdeicjaaGreatDoor
open Go.RowKit
set_option maxRecDepth 20000
theorem KRd.oneE (w : World) (s : ByteArray) (z : Int) : KRd (w.alloc (.cells #[.string s, .int .i64 z] 70)) (some ⟨w.heap.size, 0, none⟩) 1 [(s, z)] :=
 ⟨rfl, fun _ => ⟨w.heap.size, 0, rfl, by simp, fun j hj => by
  obtain rfl : j = 0 := by simp at hj; omega
  exact ⟨cell_of_row _ _ 0 _ _ _ (heap_alloc_last w _), cell_of_row _ _ 1 _ _ _ (heap_alloc_last w _)⟩⟩⟩
def liveE : List Kd := [(⟨#[97]⟩, 1)]
theorem liveE_right : (Cf.mk 2 4 3 3 liveE).Right := by decide +kernel
theorem liveE_lens : Lens liveE := fun k hk => by
 rw [List.mem_singleton.1 hk]
 decide
theorem liveE_t0 : Tb.new 1 (zsK liveE) 0 = ⟨[], []⟩ := by kernel_rfl
theorem liveE_t1 : Tb.new 1 (zsK liveE) 1 = ⟨[(0, 1)], []⟩ := by kernel_rfl
theorem liveE_take : (NS.new 3 3).take = (⟨3, 3, [0], []⟩, (0, 0), 0) := rfl
def kLive1 : Ks := ⟨⟨3, 3, [0], []⟩, [0], fun a => if a = 0 then some ⟨[], [((0, 0), [])]⟩ else none, fun j => if j = (0, 0) then some (0, 0) else none⟩
theorem live_k1 {x : Fx} (hn : x.n = 1) (hk : x.ks = liveE) : (ks0 (NS.new 3 3)).spawn x = kLive1 := by
 have e : Tb.new x.n (zsK x.ks) 0 = ⟨[], []⟩ := by rw [hn, hk]; exact liveE_t0
 unfold Ks.spawn Ks.tab
 simp only [e]
 rfl
def kLive2 : Ks := ⟨⟨3, 3, [0], []⟩, [0, 1], fun a => if a = 1 then some ⟨[(0, 1)], [((0, 0), [(0, [9])])]⟩ else none, fun j => if j = (0, 0) then some (1, 0) else none⟩
theorem live_gn : gNode kLive1.S (chg true 0 0) = ([0, 1], 1) := by kernel_rfl
theorem live_chg : chg true 0 0 = 1 := by kernel_rfl
theorem live_drop : ({ kLive1 with S := [0, 1] } : Ks).drop (0, 0) 0 0 ⟨[], [((0, 0), [])]⟩ = ⟨⟨3, 3, [0], []⟩, [0, 1], fun _ => none, fun _ => none⟩ := by
 unfold Ks.drop kLive1
 congr 1
 ·funext a
  unfold upd
  by_cases e : a = 0
  ·simp [e]
  ·simp [e]
 ·funext j
  by_cases e : j = (0, 0)
  ·simp [e]
  ·simp [e]
theorem live_k2 {x : Fx} (hn : x.n = 1) (hk : x.ks = liveE) : ({ kLive1 with S := (gNode kLive1.S (chg true 0 0)).1 } : Ks).move x (0, 0) 0 0 ⟨[], [((0, 0), [])]⟩ (gNode kLive1.S (chg true 0 0)).2 (chg true 0 0) (((⟨[], [((0, 0), [])]⟩ : Tb).rows.getD 0 noEn).2 ++ [(0, [9])]) = kLive2 := by
 have e : Tb.new x.n (zsK x.ks) 1 = ⟨[(0, 1)], []⟩ := by rw [hn, hk]; exact liveE_t1
 rw [live_gn, live_chg]
 unfold Ks.move
 rw [live_drop]
 unfold Ks.put Ks.tab kLive2
 simp only [Option.getD_none, e]
 congr 1
theorem live_ids : kLive2.idsOf (sigsL kLive2.S 1 0 kLive2.S.length) = [(0, 0)] := by kernel_rfl
theorem TabAt.N {w : World} (h : TabAt w) {N : Nat} (hN : w.heap.size <= N) : TabN N w := ⟨Nat.lt_of_lt_of_le (World.block_lt_of_cell? w _ (h 0 (by decide))) hN, h⟩
set_option maxHeartbeats 1000000 in
theorem elive_any (w : World) (hT : TabAt w) : Calls Tryz.prog 8 #[] w fun e w' => e = .returned (.bool true) /\ Below w.heap.size w w' := by
 obtain ⟨w1, hw1⟩ : ∃ w1, w1 = w.alloc (.cells #[.string ⟨#[97]⟩, .int .i64 1] 70) := ⟨_, rfl⟩
 have hb1 : Below w.heap.size w w1 := by rw [hw1]; exact (Below.refl _ _).alloc (Nat.le_refl _) _
 have hK : KRd w1 (some ⟨w.heap.size, 0, none⟩) 1 liveE := by rw [hw1]; exact KRd.oneE w _ _
 have CN := hi_ (enew_yes 2 4 3 3 (some ⟨w.heap.size, 0, none⟩) 1 1 liveE w1 hK (by decide) liveE_lens liveE_right)
 have HB1 := hi_ (And.intro hb1 (hT.below hb1))
 clear hK hb1 hT
 go_enter Tryz.func8, Tryz.ntmps8
 go_upto_region 4 with (first
  | (rw [<- hw1]; clear hw1)
  | (go_at_call 9; refine CN.out.mono ?_; rintro e w2 ⟨x, gr, rfl, hx, hC, hb2⟩; have H2 := hi_ (And.intro hx (And.intro hC hb2)); clear hx hC hb2))
 obtain ⟨hx, hC, hb2⟩ := H2.out
 have hT2 : TabN w1.heap.size w2 := (HB1.out.2.N (Nat.le_refl _)).low hb2
 have CS := espawn_yes hC hT2 (by decide) (by rw [hx.n]; decide) (by decide) (by decide) (by rw [show (ks0 (NS.new 3 3)).ns = NS.new 3 3 from rfl, liveE_take]) (by rw [show (ks0 (NS.new 3 3)).ns = NS.new 3 3 from rfl, liveE_take]; exact ⟨by decide, by decide⟩)
 rw [live_k1 hx.n hx.ks, show (ks0 (NS.new 3 3)).ns = NS.new 3 3 from rfl, liveE_take] at CS
 simp only at CS
 have CS := hi_ CS
 have HT2 := hi_ hT2
 clear hx hC hb2 hT2 CN
 go_upto_region 5 with (first
  | (go_at_call 29; refine CS.out.mono ?_; rintro e w3 ⟨rfl, gr3, pt3, h3, hG3⟩; obtain ⟨w4, hw4⟩ : ∃ w4, w4 = w3.alloc (.cells #[.int .i64 0, .int .i64 0] 39) := ⟨_, rfl⟩; have R4 := hi_ (show Rec 39 w4 w3.heap.size #[.int .i64 0, .int .i64 0] by rw [hw4]; exact Rec.new w3 _ _); have HB4 := hi_ (show Below w3.heap.size w3 w4 by rw [hw4]; exact (Below.refl _ _).alloc (Nat.le_refl _) _); have H3 := hi_ (And.intro h3 hG3); clear h3 hG3)
  | (rw [<- hw4]; clear hw4)
  | ((with_reducible refine wpList_stP rfl (.tmp 2) (.tmp 15) rfl rfl rfl R4.out ?_); intro w5 hR5 hF5; have HR5 := hi_ (And.intro hR5 hF5); clear hR5 hF5))
 obtain ⟨hx, hC, hb2⟩ := H2.out
 obtain ⟨h3, hG3⟩ := H3.out
 obtain ⟨hR5, hF5⟩ := HR5.out
 have hb5 : Below w3.heap.size w3 w5 := HB4.out.trans (hF5.toBelow (fun y hy => by rw [show y = w3.heap.size from hy]; exact Nat.le_refl _) HB4.out.size)
 obtain ⟨w6, hw6⟩ : ∃ w6, w6 = w5.alloc (.cells #[.int .u8 9] 5) := ⟨_, rfl⟩
 have hb6 : Below w5.heap.size w5 w6 := by rw [hw6]; exact (Below.refl _ _).alloc (Nat.le_refl _) _
 have h5 := h3.below hb5
 have h6 := h5.below hb6
 have hG6 : TGo w2 gr w6 gr3 := (hG3.trans (TGo.ofBelow hb5)).trans (TGo.ofBelow hb6)
 have hD : VB (fun y => gr3 y = 0) w6 (.slice (some ⟨w5.heap.size, 0, none⟩) 1 1) [9] := ⟨_, _, _, rfl, by rw [hw6]; exact Rd.new w5 5 [9] (0, 0), fun b o e _ => by
  injection e with e
  injection e with e1 e2
  subst e1
  exact ⟨Classical.byContradiction fun hh => by have := h5.dom _ hh; omega, by rw [hw6]; simp⟩⟩
 have hT6 : TabN w1.heap.size w6 := HT2.out.go hC hG6
 have CST := eset_lacks h6 (i := 0) (g := 0) ⟨by decide, by decide⟩ (n := 0) (r := 0) (t := ⟨[], [((0, 0), [])]⟩) rfl rfl (by unfold okN; decide) (kk := 0) (by rw [hx.n]; decide) hT6 (by decide) (by decide) ⟨by decide, by decide⟩ (by decide) (some ⟨w5.heap.size, 0, none⟩) 1 1 (by rw [hx.ks]; rfl) hD (s0 := 0) rfl (by decide) (by rw [live_chg]; decide) (by rw [live_chg, hx.n]; kernel_rfl)
 rw [live_k2 hx.n hx.ks] at CST
 have CST := hi_ CST
 have HD6 := hi_ (And.intro h6 (And.intro hG6 (And.intro (hR5.under hb6) h5)))
 have k0 := hR5.at_ 0
 have k1 := hR5.at_ 1
 clear hx hC hb2 h3 hG3 hR5 hF5 hb5 hb6 h5 h6 hG6 hD hT6 CS R4 HB4
 go_upto_region 6 with (first
  | (rw [<- hw6]; clear hw6)
  | (go_at_call 30; refine CST.out.mono ?_; rintro e w7 ⟨rfl, gr7, pt7, h7, hG7⟩; have H7 := hi_ (And.intro h7 hG7); clear h7 hG7))
 have CQ := equery_yes H7.out.1 1 0 (by decide) (by decide) (by decide)
 rw [live_ids] at CQ
 have CQ := hi_ CQ
 clear k0 k1 CST
 go_upto_region 7 with (go_at_call 20; refine CQ.out.mono ?_; rintro e w8 ⟨QA, qm, qc, ys, rfl, hqm, hI8, hper, _, hb8⟩; have HQ8 := hi_ (And.intro hqm (And.intro hI8 (And.intro hper hb8))); clear hqm hI8 hper hb8)
 obtain ⟨hqm, hI8, hper, hb8⟩ := HQ8.out
 have hy : ys = [(0, 0)] := List.perm_singleton.1 hper
 subst hy
 have hqm : qm = 1 := hqm
 subst hqm
 obtain ⟨qb, qo, hQA, _, q0, q1⟩ := hI8.cell (j := 0) (x := (0, 0)) rfl
 subst hQA
 obtain ⟨h6, hG6, r6, h5⟩ := HD6.out
 obtain ⟨h7, hG7⟩ := H7.out
 have hz : gr3 w3.heap.size = 0 := Classical.byContradiction fun hh => by have := H3.out.1.dom _ hh; omega
 have r8 := (r6.tgo hG7 hz).under hb8
 have m0 := r8.at_ 0
 have m1 := r8.at_ 1
 have hBw : Below w.heap.size w w8 := by
  have hN := H2.out.2.1.Nle
  have h1 := HB1.out.1
  have h2 := H2.out.2.2
  have h12 := h1.trans (h2.mono h1.size)
  have h27 : Below w1.heap.size w2 w7 := (hG6.trans hG7).toBelow H2.out.2.1.lo hN
  have h17 := h12.trans (h27.mono h1.size)
  exact h17.trans (hb8.mono h17.size)
 have HBw := hi_ hBw
 clear hI8 hper hb8 h6 hG6 r6 h5 h7 hG7 hz r8 hBw HQ8 CQ
 simp only [Nat.zero_mul, Nat.add_zero] at q0 q1
 clear hqm
 have s8 : (w8.drew.cell? ⟨qb, qo, none⟩ = some (.int .i64 0) /\ w8.drew.cell? ⟨qb, qo + 1, none⟩ = some (.int .i64 0)) /\ w8.drew.cell? ⟨w3.heap.size, 0, none⟩ = some (.int .i64 0) /\ w8.drew.cell? ⟨w3.heap.size, 1, none⟩ = some (.int .i64 0) := ⟨⟨q0, q1⟩, m0, m1⟩
 refine wp_region_noPanic ?_
 refine wp_region_held_drew (S := fun W => (W.cell? ⟨qb, qo, none⟩ = some (.int .i64 0) /\ W.cell? ⟨qb, qo + 1, none⟩ = some (.int .i64 0)) /\ W.cell? ⟨w3.heap.size, 0, none⟩ = some (.int .i64 0) /\ W.cell? ⟨w3.heap.size, 1, none⟩ = some (.int .i64 0)) (by kernel_rfl) s8 (fun hHeld => ?_)
 refine wpAnyH_take (i := 0) (oi := ⟨some 23, .move (.tmp 3), 60, "law.go:24", #[], none⟩) (v := ?_) rfl (by kernel_rfl) (by kernel_rfl) (by kernel_rfl) (fun _ _ _ h => h) (Or.inl ⟨by rfl, ?_⟩) (by assumption) ?_
 rotate_left 1
 ·intro w' hSw; (try dsimp only at hSw); go_simp; (try with_reducible rfl)
 simp only [Act.put, sA_, sB_, sC_]
 refine wpAnyH_ready (rs := [1]) (by kernel_rfl) (by simp) ?_
 refine AllReadyH.cons (o := ⟨some 24, .call { callee := .value (.func 26), args := #[.tmp 23], argTypes := #[60] }, 3, "law.go:24", #[⟨0, .data⟩], none⟩) rfl (fun K' hK => ?_) AllReadyH.nil
 go_simp
 go_at_call 26; refine (ecode_any _ _).mono ?_; rintro e w' ⟨rfl, rfl⟩
 refine hK.out _ _ s8 (fun hHeld => ?_)
 clear hK K'
 try simp only [Act.put, sA_, sB_, sC_]
 refine wpAnyH_take (i := 2) (oi := ⟨some 25, .binOp .eql 3 (.tmp 24) (.const (.int .i64 0)) 3, 4, "law.go:24", #[⟨1, .data⟩], none⟩) (v := ?_) rfl (by kernel_rfl) (by kernel_rfl) (by kernel_rfl) (fun _ _ _ h => h) (Or.inl ⟨by rfl, ?_⟩) (by assumption) ?_
 rotate_left 1
 ·intro w' hSw; (try dsimp only at hSw); go_simp; (try with_reducible rfl)
 simp only [Act.put, sA_, sB_, sC_]
 refine wpAnyH_take (i := 3) (oi := ⟨some 26, .move (.tmp 25), 4, "law.go:24", #[⟨2, .data⟩, ⟨1, .chain⟩], none⟩) (v := ?_) rfl (by kernel_rfl) (by kernel_rfl) (by kernel_rfl) (fun _ _ _ h => h) (Or.inl ⟨by rfl, ?_⟩) (by assumption) ?_
 rotate_left 1
 ·intro w' hSw; (try dsimp only at hSw); go_simp; (try with_reducible rfl)
 simp only [Act.put, sA_, sB_, sC_]
 refine wpAnyH_take (i := 4) (oi := ⟨some 27, .move (.tmp 4), 60, "law.go:24", #[⟨3, .guard⟩], some (3, true)⟩) (v := ?_) rfl (by kernel_rfl) (by kernel_rfl) (by kernel_rfl) (fun _ _ _ h => h) (Or.inl ⟨by rfl, ?_⟩) (by assumption) ?_
 rotate_left 1
 ·intro w' hSw; (try dsimp only at hSw); go_simp; (try with_reducible rfl)
 simp only [Act.put, sA_, sB_, sC_]
 refine wpAnyH_ready (rs := [5]) (by kernel_rfl) (by simp) ?_
 refine AllReadyH.cons (o := ⟨some 28, .call { callee := .value (.func 26), args := #[.tmp 27], argTypes := #[60] }, 3, "law.go:24", #[⟨4, .data⟩, ⟨3, .chain⟩, ⟨3, .guard⟩], some (3, true)⟩) rfl (fun K' hK => ?_) AllReadyH.nil
 go_simp
 go_at_call 26; refine (ecode_any _ _).mono ?_; rintro e w' ⟨rfl, rfl⟩
 refine hK.out _ _ s8 (fun hHeld => ?_)
 clear hK K'
 try simp only [Act.put, sA_, sB_, sC_]
 refine wpAnyH_take (i := 6) (oi := ⟨some 29, .binOp .eql 3 (.tmp 28) (.const (.int .i64 0)) 3, 4, "law.go:24", #[⟨5, .data⟩, ⟨3, .guard⟩], some (3, true)⟩) (v := ?_) rfl (by kernel_rfl) (by kernel_rfl) (by kernel_rfl) (fun _ _ _ h => h) (Or.inl ⟨by rfl, ?_⟩) (by assumption) ?_
 rotate_left 1
 ·intro w' hSw; (try dsimp only at hSw); go_simp; (try with_reducible rfl)
 simp only [Act.put, sA_, sB_, sC_]
 refine wpAnyH_take (i := 7) (oi := ⟨some 30, .pick (.tmp 26) (.tmp 29) (.const (.bool false)), 4, "law.go:24", #[⟨3, .data⟩, ⟨6, .data⟩], none⟩) (v := ?_) rfl (by kernel_rfl) (by kernel_rfl) (by kernel_rfl) (fun _ _ _ h => h) (Or.inl ⟨by rfl, ?_⟩) (by assumption) ?_
 rotate_left 1
 ·intro w' hSw; (try dsimp only at hSw); go_simp; (try with_reducible rfl)
 simp only [Act.put, sA_, sB_, sC_]
 refine wpAnyH_take (i := 8) (oi := ⟨some 31, .move (.tmp 30), 4, "law.go:24", #[⟨7, .data⟩, ⟨5, .chain⟩], none⟩) (v := ?_) rfl (by kernel_rfl) (by kernel_rfl) (by kernel_rfl) (fun _ _ _ h => h) (Or.inl ⟨by rfl, ?_⟩) (by assumption) ?_
 rotate_left 1
 ·intro w' hSw; (try dsimp only at hSw); go_simp; (try with_reducible rfl)
 simp only [Act.put, sA_, sB_, sC_]
 refine wpAnyH_take (i := 9) (oi := ⟨some 32, .move (.tmp 5), 52, "law.go:24", #[⟨8, .guard⟩], some (8, true)⟩) (v := ?_) rfl (by kernel_rfl) (by kernel_rfl) (by kernel_rfl) (fun _ _ _ h => h) (Or.inl ⟨by rfl, ?_⟩) (by assumption) ?_
 rotate_left 1
 ·intro w' hSw; (try dsimp only at hSw); go_simp; (try with_reducible rfl)
 simp only [Act.put, sA_, sB_, sC_]
 refine wpAnyH_take (i := 10) (oi := ⟨some 33, .call { callee := .builtin .len, args := #[.tmp 32], argTypes := #[52] }, 3, "law.go:24", #[⟨9, .data⟩, ⟨8, .guard⟩], some (8, true)⟩) (v := ?_) rfl (by kernel_rfl) (by kernel_rfl) (by kernel_rfl) (fun _ _ _ h => h) (Or.inl ⟨by rfl, ?_⟩) (by assumption) ?_
 rotate_left 1
 ·intro w' hSw; (try dsimp only at hSw); go_simp; (try with_reducible rfl)
 simp only [Act.put, sA_, sB_, sC_]
 refine wpAnyH_take (i := 11) (oi := ⟨some 34, .binOp .eql 3 (.tmp 33) (.const (.int .i64 1)) 3, 4, "law.go:24", #[⟨10, .data⟩, ⟨8, .guard⟩], some (8, true)⟩) (v := ?_) rfl (by kernel_rfl) (by kernel_rfl) (by kernel_rfl) (fun _ _ _ h => h) (Or.inl ⟨by rfl, ?_⟩) (by assumption) ?_
 rotate_left 1
 ·intro w' hSw; (try dsimp only at hSw); go_simp; (try with_reducible rfl)
 simp only [Act.put, sA_, sB_, sC_]
 refine wpAnyH_take (i := 12) (oi := ⟨some 35, .pick (.tmp 31) (.tmp 34) (.const (.bool false)), 4, "law.go:24", #[⟨8, .data⟩, ⟨11, .data⟩], none⟩) (v := ?_) rfl (by kernel_rfl) (by kernel_rfl) (by kernel_rfl) (fun _ _ _ h => h) (Or.inl ⟨by rfl, ?_⟩) (by assumption) ?_
 rotate_left 1
 ·intro w' hSw; (try dsimp only at hSw); go_simp; (try with_reducible rfl)
 simp only [Act.put, sA_, sB_, sC_]
 refine wpAnyH_take (i := 13) (oi := ⟨some 36, .move (.tmp 35), 4, "law.go:24", #[⟨12, .data⟩, ⟨8, .chain⟩], none⟩) (v := ?_) rfl (by kernel_rfl) (by kernel_rfl) (by kernel_rfl) (fun _ _ _ h => h) (Or.inl ⟨by rfl, ?_⟩) (by assumption) ?_
 rotate_left 1
 ·intro w' hSw; (try dsimp only at hSw); go_simp; (try with_reducible rfl)
 simp only [Act.put, sA_, sB_, sC_]
 refine wpAnyH_take (i := 14) (oi := ⟨some 37, .move (.tmp 5), 52, "law.go:24", #[⟨13, .guard⟩], some (13, true)⟩) (v := ?_) rfl (by kernel_rfl) (by kernel_rfl) (by kernel_rfl) (fun _ _ _ h => h) (Or.inl ⟨by rfl, ?_⟩) (by assumption) ?_
 rotate_left 1
 ·intro w' hSw; (try dsimp only at hSw); go_simp; (try with_reducible rfl)
 simp only [Act.put, sA_, sB_, sC_]
 refine wpAnyH_take (i := 15) (oi := ⟨some 38, .indexAddr 52 (.tmp 37) (.const (.int .i64 0)), 0, "law.go:24", #[⟨14, .data⟩, ⟨13, .guard⟩], some (13, true)⟩) (v := ?_) rfl (by kernel_rfl) (by kernel_rfl) (by kernel_rfl) (fun _ _ _ h => h) (Or.inl ⟨by rfl, ?_⟩) (by assumption) ?_
 rotate_left 1
 ·intro w' hSw; (try dsimp only at hSw); go_simp; (try with_reducible rfl)
 simp only [Act.put, sA_, sB_, sC_]
 refine wpAnyH_take (i := 16) (oi := ⟨some 39, .load 39 (.tmp 38), 39, "law.go:24", #[⟨15, .data⟩, ⟨13, .guard⟩], some (13, true)⟩) (v := ?_) rfl (by kernel_rfl) (by kernel_rfl) (by kernel_rfl) (fun _ _ _ h => h) (Or.inl ⟨by rfl, ?_⟩) (by assumption) ?_
 rotate_left 1
 ·intro w' hSw; (try dsimp only at hSw); go_simp; (try with_reducible rfl)
 simp only [Act.put, sA_, sB_, sC_]
 refine wpAnyH_take (i := 17) (oi := ⟨some 40, .load 39 (.tmp 2), 39, "law.go:24", #[⟨13, .guard⟩], some (13, true)⟩) (v := ?_) rfl (by kernel_rfl) (by kernel_rfl) (by kernel_rfl) (fun _ _ _ h => h) (Or.inl ⟨by rfl, ?_⟩) (by assumption) ?_
 rotate_left 1
 ·intro w' hSw; (try dsimp only at hSw); go_simp; (try with_reducible rfl)
 simp only [Act.put, sA_, sB_, sC_]
 refine wpAnyH_take (i := 18) (oi := ⟨some 41, .binOp .eql 39 (.tmp 39) (.tmp 40) 39, 4, "law.go:24", #[⟨16, .data⟩, ⟨17, .data⟩, ⟨13, .guard⟩], some (13, true)⟩) (v := ?_) rfl (by kernel_rfl) (by kernel_rfl) (by kernel_rfl) (fun _ _ _ h => h) (Or.inl ⟨by rfl, ?_⟩) (by assumption) ?_
 rotate_left 1
 ·intro w' hSw; (try dsimp only at hSw); go_simp; (try with_reducible rfl)
 simp only [Act.put, sA_, sB_, sC_]
 refine wpAnyH_take (i := 19) (oi := ⟨some 42, .pick (.tmp 36) (.tmp 41) (.const (.bool false)), 4, "law.go:24", #[⟨13, .data⟩, ⟨18, .data⟩], none⟩) (v := ?_) rfl (by kernel_rfl) (by kernel_rfl) (by kernel_rfl) (fun _ _ _ h => h) (Or.inl ⟨by rfl, ?_⟩) (by assumption) ?_
 rotate_left 1
 ·intro w' hSw; (try dsimp only at hSw); go_simp; (try with_reducible rfl)
 simp only [Act.put, sA_, sB_, sC_]
 refine wpAnyH_take (i := 20) (oi := ⟨some 0, .assign (.tmp 42), 4, "law.go:24", #[⟨19, .data⟩, ⟨13, .chain⟩, ⟨0, .phase⟩, ⟨1, .phase⟩, ⟨2, .phase⟩, ⟨3, .phase⟩, ⟨4, .phase⟩, ⟨5, .phase⟩, ⟨6, .phase⟩, ⟨7, .phase⟩, ⟨8, .phase⟩, ⟨9, .phase⟩, ⟨10, .phase⟩, ⟨11, .phase⟩, ⟨12, .phase⟩, ⟨13, .phase⟩, ⟨14, .phase⟩, ⟨15, .phase⟩, ⟨16, .phase⟩, ⟨17, .phase⟩, ⟨18, .phase⟩, ⟨19, .phase⟩], none⟩) (v := ?_) rfl (by kernel_rfl) (by kernel_rfl) (by kernel_rfl) (fun _ _ _ h => h) (Or.inl ⟨by rfl, ?_⟩) (by assumption) ?_
 rotate_left 1
 ·intro w' hSw; (try dsimp only at hSw); go_simp; (try with_reducible rfl)
 simp only [Act.put, List.setIfInBounds_toArray, List.set_cons_zero]
 refine wpAnyH_done (by kernel_rfl) ?_ _
 refine NoPanic.normal ?_
 clear hHeld s8
 go_wp2
 go_ret
 exact ⟨rfl, HBw.out.drew⟩
end Go.Proofs.YthiknmhkdeicjaaGreatDoor
namespace Go.Proofs.YthiknmhkdeicjaaGreatDoor
open Go.RowKit Go.ChangeShapes Go.WideShapes Go.Deep
section
variable {H : Type} {enc : TypeId × Value -> H} {w : World} {base : Nat} {held : Bool}
theorem field_at {P : Program} {t : TypeId} {fs : Array Field} {fuel : Nat} {cs : List Value} {x : DataW H × List MemPlace} (ht : P.underlying t = some (.struct fs)) (hone : oneCellFields P fs = true) (hk : P.cellsOf t = fs.size)
  (h : DataW.trod enc P w base (fun _ => true) held fuel t cs = some x) (j : Nat) (f : Field) (hj : fs[j]? = some f) : ∃ v n y, cs[j]? = some v /\ DataW.trod enc P w base (fun _ => true) held n f.type [v] = some y := by
 obtain ⟨xs, n, _, _, hl, hxl, hf⟩ := DataW.trod_struct ht h
 obtain ⟨ho, h1⟩ := hone_of hone j f hj
 have hlt : j < fs.size := (Array.getElem?_eq_some_iff.1 hj).1
 have e := hf j f hj
 rw [ho, h1, List.drop_eq_getElem_cons (by omega), List.getElem?_eq_getElem (by omega)] at e
 exact ⟨cs[j]'(by omega), n, _, List.getElem?_eq_getElem (by omega), e⟩
theorem elems_at {P : Program} {t e : TypeId} {fuel : Nat} {cs : List Value} {x : DataW H × List MemPlace} (ht : P.underlying t = some (.slice e)) (h : DataW.trod enc P w base (fun _ => true) held fuel t cs = some x) :
  cs = [.slice none 0 0] \/ ∃ (a : Addr) (len cap : Nat), cs = [.slice (some a) len cap] /\ len <= cap /\ cap <= maxLen /\
   ∀ i, i < len -> ∃ cs' n y, (∀ j, j < P.cellsOf e -> w.cell? ((a.add (i * P.cellsOf e)).add j) = cs'[j]?) /\ DataW.trod enc P w base (fun _ => true) held n e cs' = some y := by
 rcases open_slice ht h with ⟨h0, _⟩ | ⟨a, len, cap, m, n, D, Pl, hcs, _, hl, hm, hmm, _, hi⟩
 ·exact .inl h0
 ·refine .inr ⟨a, len, cap, hcs, hl, hm, fun i him => ?_⟩
  have hmc : m = cap := by simpa using hmm
  obtain ⟨cs', hc, ht'⟩ := hi i (by omega)
  obtain ⟨_, _, hat⟩ := World.cells?_some hc
  exact ⟨cs', n, _, hat, ht'⟩
end
end Go.Proofs.YthiknmhkdeicjaaGreatDoor
namespace Go.Proofs.YthiknmhkdeicjaaGreatDoor
open Go.RowKit Go.ChangeShapes Go.WideShapes Go.Deep
section
variable {H : Type} {enc : TypeId × Value -> H} {w : World} {base : Nat} {held : Bool}
theorem open_bytes {fuel : Nat} {cs : List Value} {x : DataW H × List MemPlace} (h : DataW.trod enc Tryz.prog w base (fun _ => true) held fuel 40 cs = some x) :
  ∃ A n c l, cs = [.slice A n c] /\ Rd w A n l /\ n <= c /\ c <= maxLen := by
 rcases open_ints Tryz.underlying40 Tryz.underlying5 (by kernel_rfl) h with ⟨hcs, _⟩ | ⟨x, l, c, zs, hcs, _, hl, hm, hz, _, hcell, hwz⟩
 ·exact ⟨none, 0, 0, [], hcs, Rd.nil _ _, Nat.le_refl _, Nat.zero_le _⟩
 ·obtain ⟨L, hr, h1, h2⟩ := rd_of_row (w := w) (a := some x) (len := l) (cap := c) (zs := zs) (.inr ⟨x, rfl, hl, hm, by simpa using hz, hcell, hwz⟩)
  exact ⟨some x, l, c, L, hcs, hr, h1, h2⟩
end
end Go.Proofs.YthiknmhkdeicjaaGreatDoor
namespace Go.Proofs.YthiknmhkdeicjaaGreatDoor
open Go.RowKit Go.ChangeShapes Go.WideShapes Go.Deep
set_option maxRecDepth 20000
section
variable {H : Type} {enc : TypeId × Value -> H} {w : World} {base : Nat} {held : Bool}
theorem open_vb {fuel : Nat} {cs : List Value} {x : DataW H × List MemPlace} (h : DataW.trod enc Tryz.prog w base (fun _ => true) held fuel 40 cs = some x) :
  ∃ A n c l, cs = [.slice A n c] /\ VB (· < w.heap.size) w (.slice A n c) l /\ n <= c /\ c <= maxLen := by
 obtain ⟨A, n, c, l, hcs, hr, h1, h2⟩ := open_bytes h
 refine ⟨A, n, c, l, hcs, ⟨_, _, _, rfl, hr, fun b o e hn => ?_⟩, h1, h2⟩
 obtain ⟨b', o', e', hlt, _⟩ := hr.2 hn
 rw [e] at e'
 injection e' with e'
 injection e' with e1 e2
 exact ⟨(show b < w.heap.size by omega), by omega⟩
end
end Go.Proofs.YthiknmhkdeicjaaGreatDoor
namespace Go.Proofs.YthiknmhkdeicjaaGreatDoor
open Go.RowKit Go.ChangeShapes Go.WideShapes Go.Deep Go.Joins
set_option maxRecDepth 20000
section
variable {H : Type} {enc : TypeId × Value -> H} {w : World} {base : Nat} {held : Bool}
theorem elems_atK {P : Program} {t e : TypeId} {fuel : Nat} {cs : List Value} {x : DataW H × List MemPlace} (ht : P.underlying t = some (.slice e)) (h : DataW.trod enc P w base (fun _ => true) held fuel t cs = some x) :
  cs = [.slice none 0 0] \/ ∃ (a : Addr) (len cap : Nat), cs = [.slice (some a) len cap] /\ len <= cap /\ cap <= maxLen /\
   ∀ i, i < len -> ∃ cs' n y, (∀ j, j < P.cellsOf e -> w.cell? ((a.add (i * P.cellsOf e)).add j) = cs'[j]?) /\ DataW.trod enc P w base (fun _ => true) held n e cs' = some y := by
 rcases open_slice ht h with ⟨h0, _⟩ | ⟨a, len, cap, m, n, D, Pl, hcs, _, hl, hm, hmm, _, hi⟩
 ·exact .inl h0
 ·refine .inr ⟨a, len, cap, hcs, hl, hm, fun i him => ?_⟩
  have hmc : m = cap := by simpa using hmm
  obtain ⟨cs', hc, ht'⟩ := hi i (by omega)
  obtain ⟨_, _, hat⟩ := World.cells?_some hc
  exact ⟨cs', n, _, hat, ht'⟩
theorem open_comp {n : Nat} {cs : List Value} {y : DataW H × List MemPlace} (h : DataW.trod enc Tryz.prog w base (fun _ => true) held n 70 cs = some y) : ∃ k : Kd, cs = [.string k.1, .int .i64 k.2] /\ k.1.size <= maxLen := by
 obtain ⟨y0, y1, n1, _, hl, h0, h1⟩ := trod_struct2 Tryz.underlying70 h
 have hc2 : Tryz.prog.cellsOf 70 = 2 := by kernel_rfl
 rw [hc2] at hl
 obtain ⟨v0, v1, rfl⟩ : ∃ a b, cs = [a, b] := by
  match cs, hl with
  | [a, b], _ => exact ⟨a, b, rfl⟩
 have hs1 : Tryz.prog.cellsOf 9 = 1 := by kernel_rfl
 have hn1 : Tryz.prog.cellsOf 3 = 1 := by kernel_rfl
 have g0 : DataW.trod enc Tryz.prog w base (fun _ => true) held n1 9 [v0] = some y0 := by
  have h := h0
  change DataW.trod enc Tryz.prog w base (fun _ => true) held _ 9 (([v0, v1].drop 0).take (Tryz.prog.cellsOf 9)) = _ at h
  rw [hs1] at h
  exact h
 have g1 : DataW.trod enc Tryz.prog w base (fun _ => true) held n1 3 [v1] = some y1 := by
  have h := h1
  change DataW.trod enc Tryz.prog w base (fun _ => true) held _ 3 (([v0, v1].drop 1).take (Tryz.prog.cellsOf 3)) = _ at h
  rw [hn1] at h
  exact h
 obtain ⟨s, hs, _, hsz⟩ := DataW.trod_string Tryz.underlying9 g0
 obtain ⟨z, hz, _⟩ := DataW.trod_int Tryz.underlying3 g1
 simp only [List.cons.injEq, and_true] at hs hz
 subst hs hz
 exact ⟨(s, z), rfl, hsz⟩
theorem open_comps {fuel : Nat} {cs : List Value} {x : DataW H × List MemPlace} (h : DataW.trod enc Tryz.prog w base (fun _ => true) held fuel 22 cs = some x) :
  ∃ A n c ks, cs = [.slice A n c] /\ KRd w A n ks /\ Lens ks /\ n <= c /\ c <= maxLen := by
 rcases elems_atK Tryz.underlying22 h with h0 | ⟨a, len, cap, hcs, hl, hm, hi⟩
 ·exact ⟨none, 0, 0, [], h0, KRd.nil _ _, fun k hk => (by cases hk), Nat.le_refl _, Nat.zero_le _⟩
 have h2 : Tryz.prog.cellsOf 70 = 2 := by kernel_rfl
 rw [h2] at hi
 have key : ∀ i, ∃ k : Kd, i < len -> (w.cell? ((a.add (i * 2)).add 0) = some (.string k.1) /\ w.cell? ((a.add (i * 2)).add 1) = some (.int .i64 k.2)) /\ k.1.size <= maxLen := fun i => by
  by_cases hil : i < len
  ·obtain ⟨cs', n, y, hc, ht⟩ := hi i hil
   obtain ⟨k, rfl, hk⟩ := open_comp ht
   exact ⟨k, fun _ => ⟨⟨hc 0 (by decide), hc 1 (by decide)⟩, hk⟩⟩
  ·exact ⟨(.empty, 0), fun h => absurd h hil⟩
 obtain ⟨F, hF⟩ := Classical.axiomOfChoice key
 refine ⟨some a, len, cap, (List.range len).map F, hcs, ⟨by simp, fun hpos => ?_⟩, fun k hk => ?_, hl, hm⟩
 ·obtain ⟨b, off, spot⟩ := a
  have hs := (hF 0 hpos).1.1
  have hspot : spot = none := by simpa [Addr.add] using World.cell?_spot hs
  subst hspot
  refine ⟨b, off, rfl, by simpa [Addr.add] using World.block_lt_of_cell? w _ hs, fun j hj => ?_⟩
  have hj' : j < len := by simpa using hj
  obtain ⟨⟨c0, c1⟩, _⟩ := hF j hj'
  rw [Addr.add_lit, Addr.add_lit] at c0 c1
  simp only [List.getElem_map, List.getElem_range]
  exact ⟨c0, c1⟩
 ·obtain ⟨i, hi', rfl⟩ := List.mem_map.1 hk
  have := (hF i (List.mem_range.1 hi')).2
  unfold maxLen at this
  omega
theorem array5 {α : Type} {cs : Array α} (h : cs.size = 5) : ∃ c0 c1 c2 c3 c4, cs = #[c0, c1, c2, c3, c4] := by
 obtain ⟨l⟩ := cs
 match l, h with
 | [c0, c1, c2, c3, c4], _ => exact ⟨c0, c1, c2, c3, c4, rfl⟩
theorem open_conf {r : Reach} {b0 : Nat} {v : Value} {d : DataW H} {p : List MemPlace} (hv : Value.okWide Tryz.prog w r b0 24 v) (h : DataW.Trod enc Tryz.prog w base (fun _ => true) held 24 v d p) :
  ∃ (lg pg en gn : Int) (A : Option Addr) (n c : Nat) (ks : List Kd), v = .agg #[.int .i64 lg, .int .i64 pg, .int .i64 en, .int .i64 gn, .slice A n c] /\ KRd w A n ks /\ Lens ks /\ n <= c /\ c <= maxLen := by
 obtain ⟨cs, rfl, hsz⟩ := okWide_struct Tryz.underlying24 hv
 have hc5 : Tryz.prog.cellsOf 24 = 5 := by kernel_rfl
 obtain ⟨c0, c1, c2, c3, c4, rfl⟩ := array5 (hsz.trans hc5)
 obtain ⟨fuel, hf⟩ := h
 obtain ⟨xs, n, _, _, hl, hxl, hg⟩ := DataW.trod_struct Tryz.underlying24 hf
 have hn1 : Tryz.prog.cellsOf 3 = 1 := by kernel_rfl
 have hs1 : Tryz.prog.cellsOf 22 = 1 := by kernel_rfl
 have hx : xs.length = 5 := hxl
 have e0 := hg 0 _ rfl
 have e1 := hg 1 _ rfl
 have e2 := hg 2 _ rfl
 have e3 := hg 3 _ rfl
 have e4 := hg 4 _ rfl
 rw [List.getElem?_eq_getElem (by omega)] at e0 e1 e2 e3 e4
 have f0 : DataW.trod enc Tryz.prog w base (fun _ => true) held n 3 [c0] = some xs[0] := by
  have h := e0
  change DataW.trod enc Tryz.prog w base (fun _ => true) held _ 3 (([c0, c1, c2, c3, c4].drop 0).take (Tryz.prog.cellsOf 3)) = _ at h
  rw [hn1] at h
  exact h
 have f1 : DataW.trod enc Tryz.prog w base (fun _ => true) held n 3 [c1] = some xs[1] := by
  have h := e1
  change DataW.trod enc Tryz.prog w base (fun _ => true) held _ 3 (([c0, c1, c2, c3, c4].drop 1).take (Tryz.prog.cellsOf 3)) = _ at h
  rw [hn1] at h
  exact h
 have f2 : DataW.trod enc Tryz.prog w base (fun _ => true) held n 3 [c2] = some xs[2] := by
  have h := e2
  change DataW.trod enc Tryz.prog w base (fun _ => true) held _ 3 (([c0, c1, c2, c3, c4].drop 2).take (Tryz.prog.cellsOf 3)) = _ at h
  rw [hn1] at h
  exact h
 have f3 : DataW.trod enc Tryz.prog w base (fun _ => true) held n 3 [c3] = some xs[3] := by
  have h := e3
  change DataW.trod enc Tryz.prog w base (fun _ => true) held _ 3 (([c0, c1, c2, c3, c4].drop 3).take (Tryz.prog.cellsOf 3)) = _ at h
  rw [hn1] at h
  exact h
 have f4 : DataW.trod enc Tryz.prog w base (fun _ => true) held n 22 [c4] = some xs[4] := by
  have h := e4
  change DataW.trod enc Tryz.prog w base (fun _ => true) held _ 22 (([c0, c1, c2, c3, c4].drop 4).take (Tryz.prog.cellsOf 22)) = _ at h
  rw [hs1] at h
  exact h
 obtain ⟨lg, q0, _⟩ := DataW.trod_int Tryz.underlying3 f0
 obtain ⟨pg, q1, _⟩ := DataW.trod_int Tryz.underlying3 f1
 obtain ⟨en, q2, _⟩ := DataW.trod_int Tryz.underlying3 f2
 obtain ⟨gn, q3, _⟩ := DataW.trod_int Tryz.underlying3 f3
 obtain ⟨A, m, c, ks, q4, hK, hL, h1, h2⟩ := open_comps f4
 simp only [List.cons.injEq, and_true] at q0 q1 q2 q3 q4
 subst q0 q1 q2 q3 q4
 exact ⟨lg, pg, en, gn, A, m, c, ks, rfl, hK, hL, h1, h2⟩
end
end Go.Proofs.YthiknmhkdeicjaaGreatDoor
namespace Go.Proofs.YthiknmhkdeicjaaGreatDoor
open Go.RowKit Go.ChangeShapes Go.WideShapes Go.Deep Go.Joins
set_option maxRecDepth 20000
structure Est where
 d : Int
 i : Int
 g : Int
 kk : Int
 A : Option Addr
 n : Nat
 c : Nat
 b : List UInt8
def Est.cs (x : Est) : Array Value := seC x.d x.i x.g x.kk x.A x.n x.c
structure EstOk (K : Nat -> Prop) (w : World) (x : Est) : Prop where
 v : VB K w (.slice x.A x.n x.c) x.b
 ok : okE (x.i, x.g)
 kz : (Lit.int .i64 x.kk).wf = true
 dz : (Lit.int .i64 x.d).wf = true
 nc : x.n <= x.c
 cm : x.c <= maxLen
theorem EstOk.below {K : Nat -> Prop} {w w' : World} {x : Est} (h : EstOk K w x) (hb : Below w.heap.size w w') : EstOk K w' x := ⟨h.v.below hb, h.ok, h.kz, h.dz, h.nc, h.cm⟩
def EstRd (K : Nat -> Prop) (w : World) (A : Option Addr) (n : Nat) (st : List Est) : Prop :=
 st.length = n /\ (0 < n -> ∃ b o, A = some ⟨b, o, none⟩ /\ b < w.heap.size /\ ∀ j (h : j < st.length) i u, st[j].cs[i]? = some u -> w.cell? ⟨b, o + j * 5 + i, none⟩ = some u) /\ ∀ x ∈ st, EstOk K w x
abbrev EstR (w : World) (A : Option Addr) (n : Nat) (st : List Est) : Prop := EstRd (· < w.heap.size) w A n st
theorem EstRd.below {K : Nat -> Prop} {w w' : World} {A : Option Addr} {n : Nat} {st : List Est} (h : EstRd K w A n st) (hb : Below w.heap.size w w') : EstRd K w' A n st := by
 refine ⟨h.1, fun hp => ?_, fun x hx => (h.2.2 x hx).below hb⟩
 obtain ⟨b, o, e, hlt, hc⟩ := h.2.1 hp
 exact ⟨b, o, e, Nat.lt_of_lt_of_le hlt hb.size, fun j hj i u hu => (hb.cell (p := ⟨b, o + j * 5 + i, none⟩) hlt).trans (hc j hj i u hu)⟩
theorem EstRd.at_ {K : Nat -> Prop} {w : World} {A : Option Addr} {n : Nat} {st : List Est} (h : EstRd K w A n st) {j : Nat} (hj : j < n) :
  ∃ b o x, A = some ⟨b, o, none⟩ /\ b < w.heap.size /\ st[j]? = some x /\ EstOk K w x /\ ∀ i u, x.cs[i]? = some u -> w.cell? ⟨b, o + j * 5 + i, none⟩ = some u := by
 obtain ⟨b, o, e, hlt, hc⟩ := h.2.1 (by omega)
 have hjl : j < st.length := by rw [h.1]; exact hj
 exact ⟨b, o, st[j], e, hlt, List.getElem?_eq_getElem hjl, h.2.2 _ (List.getElem_mem hjl), hc j hjl⟩
section
variable {H : Type} {enc : TypeId × Value -> H} {w : World} {base : Nat} {held : Bool}
theorem open_estep {n : Nat} {cs : List Value} {y : DataW H × List MemPlace} (h : DataW.trod enc Tryz.prog w base (fun _ => true) held n 44 cs = some y) : ∃ x : Est, cs = x.cs.toList /\ EstOk (· < w.heap.size) w x := by
 obtain ⟨xs, n1, _, _, hl, hxl, hf⟩ := DataW.trod_struct Tryz.underlying44 h
 have hc5 : Tryz.prog.cellsOf 44 = 5 := by kernel_rfl
 rw [hc5] at hl
 obtain ⟨v0, v1, v2, v3, v4, rfl⟩ : ∃ a b c d e, cs = [a, b, c, d, e] := by
  match cs, hl with
  | [a, b, c, d, e], _ => exact ⟨a, b, c, d, e, rfl⟩
 have hx : xs.length = 4 := hxl
 have hi2 : Tryz.prog.cellsOf 39 = 2 := by kernel_rfl
 have hn1 : Tryz.prog.cellsOf 3 = 1 := by kernel_rfl
 have hb1 : Tryz.prog.cellsOf 40 = 1 := by kernel_rfl
 have e0 := hf 0 _ rfl
 have e1 := hf 1 _ rfl
 have e2 := hf 2 _ rfl
 have e3 := hf 3 _ rfl
 rw [List.getElem?_eq_getElem (by omega)] at e0 e1 e2 e3
 have f0 : DataW.trod enc Tryz.prog w base (fun _ => true) held n1 3 [v0] = some xs[0] := by
  have h := e0
  change DataW.trod enc Tryz.prog w base (fun _ => true) held _ 3 (([v0, v1, v2, v3, v4].drop 0).take (Tryz.prog.cellsOf 3)) = _ at h
  rw [hn1] at h
  exact h
 have f1 : DataW.trod enc Tryz.prog w base (fun _ => true) held n1 39 [v1, v2] = some xs[1] := by
  have h := e1
  change DataW.trod enc Tryz.prog w base (fun _ => true) held _ 39 (([v0, v1, v2, v3, v4].drop 1).take (Tryz.prog.cellsOf 39)) = _ at h
  rw [hi2] at h
  exact h
 have f2 : DataW.trod enc Tryz.prog w base (fun _ => true) held n1 3 [v3] = some xs[2] := by
  have h := e2
  change DataW.trod enc Tryz.prog w base (fun _ => true) held _ 3 (([v0, v1, v2, v3, v4].drop 3).take (Tryz.prog.cellsOf 3)) = _ at h
  rw [hn1] at h
  exact h
 have f3 : DataW.trod enc Tryz.prog w base (fun _ => true) held n1 40 [v4] = some xs[3] := by
  have h := e3
  change DataW.trod enc Tryz.prog w base (fun _ => true) held _ 40 (([v0, v1, v2, v3, v4].drop 4).take (Tryz.prog.cellsOf 40)) = _ at h
  rw [hb1] at h
  exact h
 obtain ⟨d, q0, _, wd⟩ := DataW.trod_int Tryz.underlying3 f0
 obtain ⟨va, na, ya, ea, ta⟩ := field_at Tryz.underlying39 (by kernel_rfl) (by kernel_rfl) f1 0 _ rfl
 obtain ⟨vb, nb, yb, eb, tb⟩ := field_at Tryz.underlying39 (by kernel_rfl) (by kernel_rfl) f1 1 _ rfl
 obtain ⟨i, qa, _, wi⟩ := DataW.trod_int Tryz.underlying3 ta
 obtain ⟨g, qb, _, wg⟩ := DataW.trod_int Tryz.underlying3 tb
 obtain ⟨kk, q2, _, wk⟩ := DataW.trod_int Tryz.underlying3 f2
 obtain ⟨bA, bn, bc, b, q3, hV, hb1', hb2⟩ := open_vb f3
 simp only [List.cons.injEq, and_true] at q0 qa qb q2 q3
 subst q0 qa qb q2 q3
 have ea' : v1 = .int .i64 i := by simpa using ea
 have eb' : v2 = .int .i64 g := by simpa using eb
 subst ea' eb'
 exact ⟨⟨d, i, g, kk, bA, bn, bc, b⟩, rfl, ⟨hV, ⟨wi, wg⟩, wk, wd, hb1', hb2⟩⟩
theorem open_esteps {fuel : Nat} {cs : List Value} {x : DataW H × List MemPlace} (h : DataW.trod enc Tryz.prog w base (fun _ => true) held fuel 25 cs = some x) :
  ∃ A n c st, cs = [.slice A n c] /\ EstRd (· < w.heap.size) w A n st /\ n <= c /\ c <= maxLen := by
 rcases elems_at Tryz.underlying25 h with h0 | ⟨a, len, cap, hcs, hl, hm, hi⟩
 ·exact ⟨none, 0, 0, [], h0, ⟨rfl, fun h => absurd h (Nat.lt_irrefl 0), fun _ hx => absurd hx List.not_mem_nil⟩, Nat.le_refl _, Nat.zero_le _⟩
 have h3 : Tryz.prog.cellsOf 44 = 5 := by kernel_rfl
 rw [h3] at hi
 have key : ∀ i, ∃ x : Est, i < len -> (∀ r u, x.cs[r]? = some u -> w.cell? ((a.add (i * 5)).add r) = some u) /\ EstOk (· < w.heap.size) w x := fun i => by
  by_cases hil : i < len
  ·obtain ⟨cs', n, y, hc, ht⟩ := hi i hil
   obtain ⟨x, rfl, hx⟩ := open_estep ht
   refine ⟨x, fun _ => ⟨fun r u hr => ?_, hx⟩⟩
   have hr7 : r < 5 := by
    have := (Array.getElem?_eq_some_iff.1 hr).1
    exact this
   rw [hc r hr7]
   simpa using hr
  ·exact ⟨⟨0, 0, 0, 0, none, 0, 0, []⟩, fun h => absurd h hil⟩
 obtain ⟨F, hF⟩ := Classical.axiomOfChoice key
 refine ⟨some a, len, cap, (List.range len).map F, hcs, ⟨by simp, fun hpos => ?_, fun x hx => ?_⟩, hl, hm⟩
 ·obtain ⟨b, off, spot⟩ := a
  have hs := (hF 0 hpos).1 0 _ rfl
  have hspot : spot = none := by simpa [Addr.add] using World.cell?_spot hs
  subst hspot
  refine ⟨b, off, rfl, by simpa [Addr.add] using World.block_lt_of_cell? w _ hs, fun j hj i u hu => ?_⟩
  have hj' : j < len := by simpa using hj
  simp only [List.getElem_map, List.getElem_range] at hu
  have := (hF j hj').1 i u hu
  rw [Addr.add_lit, Addr.add_lit] at this
  exact this
 ·obtain ⟨i, hi', rfl⟩ := List.mem_map.1 hx
  exact (hF i (List.mem_range.1 hi')).2
end
def EMuch (n : Nat) (st : List Est) (w : World) (e : Ending) (w' : World) : Prop := w = w' /\ ∃ r, e = .returned (.bool r) /\ (r = false -> n <= 60 /\ ∀ (j : Nat) (x : Est), j < 100 -> st[j]? = some x -> x.n <= 200)
set_option maxHeartbeats 1000000 in
theorem EMuch_any {K : Nat -> Prop} (w : World) (A : Option Addr) (n c : Nat) (st : List Est) (h : EstRd K w A n st) (hn : n <= 9223372036854775807) :
  Calls Tryz.prog 7 #[.slice A n c] w (EMuch n st w) := by
 have H := hi_ h
 clear h
 go_enter Tryz.func7, Tryz.ntmps7
 go_wp2
 go_loopw [3] (fun iv wr => ∃ j : Nat, j <= n /\ j <= 100 /\ iv = .int .i64 j /\ w = wr /\ ∀ (k : Nat) (x : Est), k < j -> st[k]? = some x -> x.n <= 200) (fun iv _ => n - (intOf iv).toNat)
 case atStart => exact ⟨0, Nat.zero_le _, Nat.zero_le _, rfl, rfl, fun k x hk => absurd hk (Nat.not_lt_zero k)⟩
 case round =>
  obtain ⟨j, hj, hj1, rfl, rfl, hno⟩ := hrel
  by_cases hjn : j < n /\ j < 100
  ·obtain ⟨hjn, hj100⟩ := hjn
   obtain ⟨b, o, x, hA, hlt, hx, hok, hc⟩ := H.out.at_ hjn
   have HA := hi_ hA
   subst hA
   have k4 : w.cell? ⟨b, o + j * 5 + 4, none⟩ = some (.slice x.A x.n x.c) := hc 4 _ rfl
   have d100 : decide ((j : Int) < 100) = true := decide_eq_true (by omega)
   have hcm := hok.cm
   have hnc := hok.nc
   unfold maxLen at hcm
   have HX := hi_ hx
   have HNO := hi_ hno
   obtain ⟨bA, bn, bc, hb1, hb2, hb3⟩ : ∃ bA bn bc, x.A = bA /\ x.n = bn /\ x.c = bc := ⟨_, _, _, rfl, rfl, rfl⟩
   rw [hb1, hb2, hb3] at k4
   rw [hb3] at hcm
   rw [hb2, hb3] at hnc
   have HB2 := hi_ hb2
   clear hc hok hx hno hb1 hb2 hb3
   by_cases h40 : 200 < bn
   ·have d40 : decide ((200 : Int) < (bn : Int)) = true := decide_eq_true (by omega)
    go_wp2
    go_ret
    exact ⟨rfl, true, rfl, fun e => by cases e⟩
   ·have d40 : decide ((200 : Int) < (bn : Int)) = false := decide_eq_false (by omega)
    go_wp2
    go_roundw
    case rel =>
     refine ⟨j + 1, hjn, by omega, by go_num, by first | rfl | trivial, fun k y hk hy => ?_⟩
     by_cases e : k = j
     ·subst e
      rw [HX.out] at hy
      injection hy with hy
      rw [<- hy, HB2.out]
      omega
     ·exact HNO.out k y (by omega) hy
    case measure => simp [intOf]; omega
  ·rcases Nat.lt_or_ge j n with h1 | h1
   ·have d100 : decide ((j : Int) < 100) = false := decide_eq_false (by omega)
    have dn : decide ((60 : Int) < (n : Int)) = true := decide_eq_true (by omega)
    have HNO := hi_ hno
    clear hno
    go_wp2
    go_ret
    exact ⟨rfl, true, rfl, fun e => by cases e⟩
   ·obtain rfl : j = n := Nat.le_antisymm hj h1
    have HNO := hi_ hno
    clear hno
    by_cases h60 : 60 < j
    ·have dn : decide ((60 : Int) < (j : Int)) = true := decide_eq_true (by omega)
     go_wp2
     go_ret
     exact ⟨rfl, true, rfl, fun e => by cases e⟩
    ·have dn : decide ((60 : Int) < (j : Int)) = false := decide_eq_false (by omega)
     go_wp2
     go_ret
     refine ⟨rfl, false, rfl, fun _ => ⟨by omega, fun k x hk hx => ?_⟩⟩
     have := (List.getElem?_eq_some_iff.1 hx).1
     rw [H.out.1] at this
     exact HNO.out k x this hx
end Go.Proofs.YthiknmhkdeicjaaGreatDoor
namespace Go.Proofs.YthiknmhkdeicjaaGreatDoor
open Go.RowKit
set_option linter.unusedVariables false
set_option maxRecDepth 20000
theorem below_drewNc (w : World) (n : Nat) : Below w.heap.size w (w.drewN n) := by
 induction n with
 | zero => exact Below.refl _ _
 | succ n ih => exact ih.drew
section
variable (lg pg en gn : Int) (A : Option Addr) (n cap : Nat) (ks : List Kd) (w : World)
theorem RSame_yes (A' : Option Addr) (cap' : Nat) (h : KRd w A n ks) (h' : KRd w A' n ks) (hn : n <= 1000000) :
  Calls Tryz.prog 11 #[cv lg pg en gn A n cap, cv lg pg en gn A' n cap'] w fun e w' => e = .returned (.bool true) /\ Below w.heap.size w w' := by
 obtain ⟨w1, hw1⟩ : ∃ w1, w1 = w.alloc (.cells (cc lg pg en gn A n cap) 24) := ⟨_, rfl⟩
 have C1 := CAt.new h lg pg en gn cap
 rw [<- hw1] at C1
 obtain ⟨w2, hw2⟩ : ∃ w2, w2 = w1.alloc (.cells (cc lg pg en gn A' n cap') 24) := ⟨_, rfl⟩
 have C2 := CAt.new (w := w1) (h'.below C1.bel) lg pg en gn cap'
 rw [<- hw2] at C2
 obtain ⟨g, hg⟩ : ∃ g, g = w.heap.size := ⟨_, rfl⟩
 rw [<- hg] at C1
 have hg2 : w1.heap.size = g + 1 := by rw [hw1, hg]; simp
 rw [hg2] at C2
 have hw12 : w2 = (w.alloc (.cells (cc lg pg en gn A n cap) 24)).alloc (.cells (cc lg pg en gn A' n cap') 24) := by rw [hw2, hw1]
 have C1' := C1.next C2.bel
 have c0 := C1'.c0
 have c1 := C1'.c1
 have c2 := C1'.c2
 have c3 := C1'.c3
 have c4 := C1'.c4
 have d0 := C2.c0
 have d1 := C2.c1
 have d2 := C2.c2
 have d3 := C2.c3
 have d4 := C2.c4
 have hl := h.1
 have K1 := hi_ C1'
 have K2 := hi_ C2
 have HG := hi_ hg
 clear h h' hg hg2 hw1 hw2 C1 C2 C1'
 go_enter Tryz.func11, Tryz.ntmps11
 go_wp2_with (rw [<- hw12, <- HG.out]; clear hw12)
 clear c0 c1 c2 c3 d0 d1 d2 d3
 go_loopw [5] (fun i wr => ∃ j nn : Nat, j <= n /\ i = .int .i64 j /\ wr = w2.drewN nn) (fun i _ => n - (intOf i).toNat)
 case atStart => exact ⟨0, 0, Nat.zero_le _, rfl, rfl⟩
 case round =>
  obtain ⟨j, nn, hj, rfl, rfl⟩ := hrel
  by_cases hlt : j < n
  ·obtain ⟨b, o, s, z, rfl, _, k0, k1, hl', hk⟩ := K1.out.rd.at_ hlt
   obtain ⟨b', o', s', z', rfl, _, k0', k1', hl'', hk'⟩ := K2.out.rd.at_ hlt
   obtain ⟨rfl, rfl⟩ : s = s' /\ z = z' := by
    have := hk.symm.trans hk'
    simpa using this
   clear hk hk'
   have hlt' : (j : Int) < (n : Int) := by omega
   go_wp2
   go_quiet (fail)
   go_wp2
   go_roundw
   case rel => exact ⟨j + 1, _, hlt, by go_num, rfl⟩
   case measure => simp [intOf]; omega
  ·go_wp2
   go_ret
   exact ⟨rfl, K1.out.bel.trans ((below_drewNc w2 nn).mono K1.out.bel.size)⟩
end
end Go.Proofs.YthiknmhkdeicjaaGreatDoor
namespace Go.Proofs.YthiknmhkdeicjaaGreatDoor
open Go.RowKit
set_option maxRecDepth 20000
abbrev stZ : Array Value := #[.slice none 0 0, .slice none 0 0, .slice none 0 0]
theorem state_start (w : World) : ∃ w1, w1 = w.alloc (.cells stZ 37) /\ Below w.heap.size w w1 /\ Rec 37 w1 w.heap.size stZ := ⟨_, rfl, (Below.refl _ _).alloc (Nat.le_refl _) _, Rec.new w _ _⟩
theorem wpList_stSt {ops : Array Oper} {rest : List Oper} {o : Oper} {a : Act} {w : World} {Q : Exit -> Act -> World -> Prop} {g : Nat} {cs : Array Value} (GA : Option Addr) (gn gc : Nat) (FA : Option Addr) (fn fc : Nat) (EA : Option Addr) (en ec : Nat) (hn : cs.size = 3) (hgd : Region.wanted o (yielded ops a.tmps) = true) (x y : Operand) (ho : o.op = .store 37 x y)
  (hx : a.eval x = .pointer (some ⟨g, 0, none⟩)) (hy : a.eval y = .agg (stC GA gn gc FA fn fc EA en ec)) (h : Rec 37 w g cs)
  (kk : ∀ w', Rec 37 w' g (stC GA gn gc FA fn fc EA en ec) -> Fr (· = g) w w' -> wpList Tryz.prog ops Q rest (a.put o.dst undef) w') : wpList Tryz.prog ops Q (o :: rest) a w :=
 wpList_stS stT hn rfl (by simp [Value.oneCell']) hgd x y ho hx hy h kk
end Go.Proofs.YthiknmhkdeicjaaGreatDoor
