/- FrL, CmO, ScD, ScE -/
import Derived.Test.YthabmlbmlncbmaaGreatQa1
import Derived.Test.YthabmlbmlncbmaaGreatQa4
import Derived.Test.YthabmlbmlncbmaaGreatQa5
import Derived.Test.YthabmlbmlncbmaaGreatQa6
import Derived.Test.YthabmlbmlncbmaaGreatQa10
import Derived.Lib.SmallJoins
import Derived.Deep.Slices
import Derived.Deep.Fields
import Derived.ChangeSame
import Derived.WideShapes
namespace Go.Proofs.YthabmlbmlncbmaaGreat
open Go.RowKit
set_option linter.unusedVariables false
set_option linter.unusedSimpArgs false
set_option maxRecDepth 20000
attribute [local go_sem] Oper.semAt_some
section
variable (A : Option Addr) (n c : Nat) (l : List UInt8) (w : World)
set_option maxHeartbeats 4000000 in
theorem GGet_loop (b o q : Nat) (hr : Rd w (some ⟨b, o, none⟩) (q + 4) l) (hlt : b < w.heap.size) (hq : 1 <= q) (hq2 : q <= 100000) (hc : q + 4 <= c) (hcm : c <= maxLen) (hs : numB 4 ((sumL (l.take q) : Nat) : Int) = l.drop q) (d : Nat) (hd : (l.getD 0 0).toNat = d) (h0 : w.cell? ⟨b, o, none⟩ = some (.int .u8 (d : Int))) (h64 : d <= 64) :
    Calls Tryz.prog 57 #[.slice (some ⟨b, o, none⟩) (q + 4) c] w (FGotP (frGet l) w) := by
  have hl := hr.1
  obtain ⟨inp, hinp⟩ : ∃ i, i = l.take q := ⟨_, rfl⟩
  have hil : inp.length = q := by rw [hinp]; simp; omega
  have hcq : ¬ c = q := by omega
  have hri : Rd w (some ⟨b, o, none⟩) q inp := by
    have h := hr.part (lo := 0) (m := q) (by omega) (some ⟨b, o, none⟩) (fun _ b' o' e => by injection e with e; injection e with e1 e2; rw [e1, e2]; rfl)
    rw [List.drop_zero, <- hinp] at h
    exact h
  have hrt : Rd w (some ⟨b, o + q, none⟩) 4 (l.drop q) := by
    have h := hr.part (lo := q) (m := 4) (by omega) (some ⟨b, o + q, none⟩) (fun _ b' o' e => by injection e with e; injection e with e1 e2; rw [e1, e2])
    rw [List.take_of_length_le (by simp; omega)] at h
    exact h
  obtain ⟨w1, hw1⟩ : ∃ w1, w1 = (w.alloc (.cells #[.slice none 0 0] 40)).alloc (.cells #[.int .i64 0] 99) := ⟨_, rfl⟩
  have R1 := hi_ (show Res2 w w1 (.slice none 0 0) 0 by rw [hw1]; exact Res2.start w)
  have CS := hi_ (fsum_any (some ⟨b, o, none⟩) q c inp w1.drew ((hri.below (Nat.le_refl _) R1.out.bl).drew) (by omega))
  have hsum := sumL_lt inp
  obtain ⟨sm, hsm⟩ : ∃ s, s = sumL inp := ⟨_, rfl⟩
  rw [<- hsm] at CS hsum
  have F : frGet l = if numB 4 (sm : Int) ≠ l.drop q then ([], 11) else if 64 < (l.getD 0 0).toNat then ([], 13) else if (getsL inp (l.getD 0 0).toNat 1).2.1 ≠ 0 then ([], (getsL inp (l.getD 0 0).toNat 1).2.1) else if (getsL inp (l.getD 0 0).toNat 1).2.2 < q then ([], 11) else ((getsL inp (l.getD 0 0).toNat 1).1, 0) := by
    have e : l.length - 4 = q := by omega
    unfold frGet
    rw [e, <- hinp, <- hsm, if_neg (by omega)]
  have HRT := hi_ hrt
  have HRI := hi_ hri
  have HIL := hi_ hil
  have hwq : IntKind.i64.wrap (q : Int) = (q : Int) := IntWalk.i64_in _ (by omega)
  have hqn : (q : Int) <= (q : Int) + 4 := by omega
  have hqc : q <= c := by omega
  rw [<- hinp, <- hsm] at hs
  have HS := hi_ hs
  rw [F, if_neg (fun h => h hs), hd, if_neg (by omega)]
  obtain ⟨res, hres⟩ : ∃ r, r = (if (getsL inp d 1).2.1 ≠ 0 then (([], (getsL inp d 1).2.1) : List Cd × Int) else if (getsL inp d 1).2.2 < q then ([], 11) else ((getsL inp d 1).1, 0)) := ⟨_, rfl⟩
  rw [<- hres]
  have HRES := hi_ hres
  have H0 := hi_ h0
  clear hr hl hinp hil hri hrt F hs hsm hd h0 hres
  refine calls_of_wp_marks Tryz.func57 rfl ?_
  simp only [Tryz.ntmps57, List.size_toArray, List.length_cons, List.length_nil, Nat.reduceAdd, Nat.reduceSub, Array.replicate_succ, Array.replicate_zero, List.push_toArray, List.append_toArray, List.nil_append, List.cons_append]
  go_upto_region 3 with (rw [<- hw1]; clear hw1)
  refine wp_region_noPanic ?_
  refine wp_region_held_drew (S := fun W => True) (by kernel_rfl) trivial (fun hHeld => ?_)
  refine tj_ 0 ⟨some 13, .move (.tmp 0), 42, "frame.go:58", #[], none⟩ hHeld (h := ?_)
  refine tj_ 1 ⟨some 14, .move (.tmp 0), 42, "frame.go:58", #[], none⟩ hHeld (h := ?_)
  refine tj_ 2 ⟨some 15, .call { callee := .builtin .len, args := #[.tmp 14], argTypes := #[42] }, 3, "frame.go:58", #[⟨1, .data⟩], none⟩ hHeld (h := ?_)
  refine tj_ 3 ⟨some 16, .binOp .sub 3 (.tmp 15) (.const (.int .i64 4)) 3, 3, "frame.go:58", #[⟨2, .data⟩], none⟩ hHeld (h := ?_)
  refine tj_ 4 ⟨some 17, .slice 42 (.tmp 13) none (some (.tmp 16)) none, 42, "frame.go:58", #[⟨0, .data⟩, ⟨3, .data⟩], none⟩ hHeld (h := ?_)
  refine tj_ 5 ⟨some 18, .move (.tmp 0), 42, "frame.go:58", #[], none⟩ hHeld (h := ?_)
  refine tj_ 6 ⟨some 19, .move (.tmp 0), 42, "frame.go:58", #[], none⟩ hHeld (h := ?_)
  refine tj_ 7 ⟨some 20, .call { callee := .builtin .len, args := #[.tmp 19], argTypes := #[42] }, 3, "frame.go:58", #[⟨6, .data⟩], none⟩ hHeld (h := ?_)
  refine tj_ 8 ⟨some 21, .binOp .sub 3 (.tmp 20) (.const (.int .i64 4)) 3, 3, "frame.go:58", #[⟨7, .data⟩], none⟩ hHeld (h := ?_)
  refine tj_ 9 ⟨some 22, .slice 42 (.tmp 18) (some (.tmp 21)) none none, 42, "frame.go:58", #[⟨5, .data⟩, ⟨8, .data⟩], none⟩ hHeld (h := ?_)
  refine tj_ 10 ⟨some 4, .assign (.tmp 17), 42, "frame.go:58", #[⟨4, .data⟩, ⟨0, .phase⟩, ⟨1, .phase⟩, ⟨2, .phase⟩, ⟨3, .phase⟩, ⟨4, .phase⟩, ⟨5, .textOnly .lateStores⟩, ⟨6, .textOnly .lateStores⟩, ⟨7, .textOnly .lateStoresUnsure⟩, ⟨8, .textOnly .lateStores⟩, ⟨9, .textOnly .lateStoresUnsure⟩], none⟩ hHeld (h := ?_)
  refine tj_ 11 ⟨some 5, .assign (.tmp 22), 42, "frame.go:58", #[⟨9, .data⟩, ⟨10, .chain⟩, ⟨0, .phase⟩, ⟨1, .phase⟩, ⟨2, .phase⟩, ⟨3, .phase⟩, ⟨4, .phase⟩, ⟨5, .phase⟩, ⟨6, .phase⟩, ⟨7, .phase⟩, ⟨8, .phase⟩, ⟨9, .phase⟩, ⟨10, .phase⟩], none⟩ hHeld (h := ?_)
  refine wpAnyH_done (by kernel_rfl) ?_ _
  refine NoPanic.normal ?_
  go_wp2_with (first
    | (go_at_call 67; refine CS.out.mono ?_; rintro e w2 ⟨v2, rfl, ho2, hb2⟩; obtain ⟨A2, c2', rfl, _, _, hr2⟩ := Rd.of_own ho2 rfl; have R2 := hi_ (R1.out.next (show Below w1.heap.size w1 w2 from ((Below.refl _ _).drew).trans hb2)); have CE := Equal_any (some ⟨b, o + q, none⟩) A2 4 (c - q) 4 c2' (l.drop q) (numB 4 (sm : Int)) w2 (HRT.out.below (Nat.le_refl _) R2.out.bl) hr2; rw [decide_eq_true HS.out.symm] at CE; have CE2 := hi_ CE; clear ho2 hb2 hr2 CE)
    | (go_at_call 66; refine CE2.out.mono ?_; rintro e w' ⟨rfl, hw'⟩; subst hw'; obtain ⟨w3, hw3⟩ : ∃ w3, w3 = (w2.alloc (.cells #[.slice none 0 0] 40)).alloc (.cells #[.int .i64 1] 3) := ⟨_, rfl⟩; have c2 := R2.out.b2.cell; have f2 := R2.out.b2.frozen; have c3 := R2.out.b3.cell; have f3 := R2.out.b3.frozen; have q0 : w2.cell? ⟨b, o, none⟩ = some (.int .u8 (d : Int)) := (R2.out.bl.cell (p := ⟨b, o, none⟩) hlt).trans H0.out)
    | (rw [<- hw3])
    | (go_at_call 68; refine (commands_any (some ⟨b, o, none⟩) q c d w3).mono ?_; rintro e w5 ⟨rfl, hw5⟩))
  rw [<- hw5]
  obtain ⟨gl, hgl⟩ : ∃ g, g = w2.heap.size := ⟨_, rfl⟩
  have s3 : w3.heap.size = gl + 2 := by rw [hw3, hgl]; simp
  have s5 : w5.heap.size = gl + 4 := by rw [hw5]; simp; omega
  have hwg : w.heap.size + 2 <= gl := by rw [hgl]; have := R2.out.b3.lt; omega
  have B3l : Boxed w3 gl 40 (.slice none 0 0) := by rw [hw3, hgl]; exact (Boxed.new w2 _ _).alloc _
  have B3e : Boxed w3 (gl + 1) 3 (.int .i64 1) := by
    have h := Boxed.new (w2.alloc (.cells #[.slice none 0 0] 40)) 3 (.int .i64 1)
    rw [World.size_alloc, <- hgl, <- hw3] at h
    exact h
  have b23 : Below w2.heap.size w2 w3 := by rw [hw3]; exact ((Below.refl _ _).alloc (Nat.le_refl _) _).alloc (by simp) _
  have b35 : Below w3.heap.size w3 w5 := by rw [hw5]; exact ((Below.refl _ _).alloc (Nat.le_refl _) _).alloc (by simp) _
  have R5 := (R2.out.next b23).next b35
  have B5l := B3l.kept (below_row b35) (by simp)
  have B5e := B3e.kept (below_row b35) (by simp)
  have B5b : Boxed w5 (gl + 2) 42 (.slice (some ⟨b, o, none⟩) q c) := by
    have h := (Boxed.new w3 42 (.slice (some ⟨b, o, none⟩) q c)).alloc (.cells #[.int .i64 d] 3)
    rw [<- hw5, s3] at h
    exact h
  have B5d : Boxed w5 (gl + 3) 3 (.int .i64 d) := by
    have h := Boxed.new (w3.alloc (.cells #[.slice (some ⟨b, o, none⟩) q c] 42)) 3 (.int .i64 d)
    rw [World.size_alloc, s3, <- hw5] at h
    exact h
  have RI5 := HRI.out.below (Nat.le_refl _) R5.bl
  rw [<- hgl]
  clear hgl hw3 hw5 c2 f2 c3 f3 q0 b23 b35 B3l B3e
  refine wp_rangeFunc_memA (gf := 82) (lb := #[.pointer (some ⟨gl + 3, 0, none⟩), .pointer (some ⟨gl + 2, 0, none⟩)]) rfl (enters_of Tryz.func82 (by kernel_rfl) rfl) (encs := Gt.enc) (fun _ => rfl) (fun N => GtAt.own inp d _ N) (Kp := fun k => k < w.heap.size \/ k = gl + 2) (fun k hk => by omega)
    (fun W hW => commands_seq (fun k => k < w.heap.size \/ k = gl + 2) (gl + 3) (gl + 2) (some ⟨b, o, none⟩) q c d inp W (fun k hk => by have := hW.size; omega) ((hW.cell (p := ⟨gl + 3, 0, none⟩) (by show gl + 3 < _; omega)).trans B5d.cell) ((hW.cell (p := ⟨gl + 2, 0, none⟩) (by show gl + 2 < _; omega)).trans B5b.cell) (.inr rfl) (RI5.below (Nat.le_refl _) hW) (fun b' o' e => by injection e with e; injection e with e1 e2; subst e1; exact .inl hlt) hq (by omega) hqc hcm (by omega))
    (GetI w gl (gl + 2) (.slice (some ⟨b, o, none⟩) q c)) (GetX w inp d) (GetI.own w gl _ _ _ (by omega)) (fun cd => GetX.own w inp d cd _ (by omega))
    ⟨⟨_, [], fun _ => False, B5l, Gr.start (World.ownsRow_nil _ _ _ _) R5.bl.size⟩, B5e, B5b, R5, fun _ h => absurd h List.not_mem_nil⟩
    (Ax := GotAx (fun g Bx => { tmps := #[.slice (some ⟨b, o, none⟩) (q + 4) c, undef, .pointer (some ⟨w.heap.size, 0, none⟩), .pointer (some ⟨w.heap.size + 1, 0, none⟩), .slice (some ⟨b, o, none⟩) q c, .slice (some ⟨b, o + q, none⟩) 4 (c - q), .int .i64 d, .pointer (some ⟨gl, 0, none⟩), .pointer (some ⟨gl + 1, 0, none⟩), .pointer (some ⟨Bx, 0, none⟩),
      .slice (some ⟨b, o, none⟩) (q + 4) c, .int .i64 (q + 4), .bool (decide ((q : Int) + 4 < 5)), .slice (some ⟨b, o, none⟩) (q + 4) c, .slice (some ⟨b, o, none⟩) (q + 4) c, .int .i64 (q + 4), .int .i64 q, .slice (some ⟨b, o, none⟩) q c, .slice (some ⟨b, o, none⟩) (q + 4) c, .slice (some ⟨b, o, none⟩) (q + 4) c, .int .i64 (q + 4), .int .i64 q, .slice (some ⟨b, o + q, none⟩) 4 (c - q), .slice (some ⟨b, o + q, none⟩) 4 (c - q),
      .slice (some ⟨b, o, none⟩) q c, .slice A2 4 c2', .bool true, .bool false, .slice (some ⟨b, o, none⟩) q c, .pointer (some ⟨b, o, none⟩), .int .u8 d, .int .i64 d, .int .i64 d, .bool (decide (64 < (d : Int))), .slice (some ⟨b, o, none⟩) q c, .int .i64 d, .func (.func 82) #[] #[.pointer (some ⟨gl + 3, 0, none⟩), .pointer (some ⟨gl + 2, 0, none⟩)], .agg g.cs] ++ Array.replicate 17 undef, defers := [] })) (GotAx.own _ _) ?assign ?body ?done ?stop
  case assign =>
    intro lid g W K hK
    simp only [Array.replicate_succ, Array.replicate_zero, List.push_toArray, List.append_toArray, List.nil_append, List.cons_append] at hK
    gi_wp2
    exact hK _ _ ((Below.refl _ _).alloc (Nat.le_refl _) _) ⟨W.heap.size, World.alloc_heap_new W _, rfl⟩
  case stop =>
    rintro D cd ys W hD _ ⟨rfl, er, her, hge, hR⟩ hK
    have HRet := hi_ (res2_kept hR (grownBy_putObj' W D (.deferred none)) (fun r e => by cases e; exact ⟨_, hK, rfl⟩) (fun r e => by injection e with e; omega))
    have HK := hi_ hK
    have HE := hi_ (And.intro her hge)
    clear hR hK her hge
    go_wp2
    refine ⟨by simp, .inl ⟨_, _, rfl, run_takeDeferred HK.out, ?_⟩⟩
    refine ⟨_, HRet.out.ret _ rfl rfl, ?_⟩
    rw [HRES.out, if_pos (by rw [HE.out.2]; exact HE.out.1), HE.out.2]
    exact FGotP.fault er HRet.out.bl
  case done =>
    rintro D ys W hD hS ⟨⟨v, vs, DD, hv, hG⟩, hE, hbb, hR, hok⟩ hK
    rcases hS with ⟨a, hpre, hlen⟩ | ⟨y, hy, hne⟩
    rotate_left 1
    · exact absurd (hok y hy) hne
    obtain ⟨XS, hXS⟩ : ∃ XS, XS = ys.map Gt.x := ⟨_, rfl⟩
    have hdn := hpre.done hlen
    rw [<- hXS] at hdn hG
    have HDN := hi_ hdn
    clear hXS hdn
    have cE := hE.cell
    rw [hpre.at_] at cE
    have haq : a <= q := by have := hpre.le; have := HIL.out; omega
    have cl := hv.cell
    have c2 := hR.b2.cell
    have f2 := hR.b2.frozen
    have c3 := hR.b3.cell
    have f3 := hR.b3.frozen
    have HRR := hi_ hR
    have HK := hi_ hK
    have HG := hi_ hG
    have HSD := hi_ (show w.heap.size <= D by omega)
    have ks : ∀ (u : Value) (e : Int), ((W.setCell ⟨w.heap.size, 0, none⟩ u).setCell ⟨w.heap.size + 1, 0, none⟩ (.int .i64 e)).heap[D]? = some (.deferred (some [])) := fun u e => ((KeepsOthers.setCell W ⟨w.heap.size, 0, none⟩ u).trans (KeepsOthers.setCell _ ⟨w.heap.size + 1, 0, none⟩ (.int .i64 e))).same D _ HK.out rfl
    have KS := hi_ ks
    have rt : ∀ (u : Value) (e : Int), Res2 w (((W.setCell ⟨w.heap.size, 0, none⟩ u).setCell ⟨w.heap.size + 1, 0, none⟩ (.int .i64 e)).putObj D (.deferred none)) u e := fun u e => res2_kept (HRR.out.set u e) (grownBy_putObj' _ D (.deferred none)) (fun r h => by cases h; exact ⟨_, KS.out u e, rfl⟩) (fun r h => by injection h with h; have := HSD.out; omega)
    have RT := hi_ rt
    clear hv hG hE hbb hR hok hK hpre hlen ks rt hD B5l B5e B5b B5d RI5 R5
    by_cases hend : a < q
    · go_wp2
      refine ⟨by simp, .inl ⟨_, _, rfl, run_takeDeferred (KS.out _ _), ?_⟩⟩
      refine ⟨_, (RT.out _ _).ret _ rfl rfl, ?_⟩
      rw [HRES.out, HDN.out]
      simp only [ne_eq, not_true_eq_false, if_false]
      rw [if_pos hend]
      exact FGotP.fault 11 (RT.out (.slice none 0 0) 11).bl
    · have hge : ¬ (a : Int) < q := by omega
      have G1 := gr_kept (gr_set (gr_set HG.out HRR.out.b2 (by decide) (fun _ e => by cases e) v) (HRR.out.b3.other (by omega) v) (by decide) (fun _ e => by cases e) (.int .i64 0)) (grownBy_putObj' _ D (.deferred none)) (fun r h => by cases h; exact ⟨_, KS.out v 0, rfl⟩)
      obtain ⟨A9, c9, hov, hc9, _, hrw⟩ := G1.rows ECd.ok
      have HRW := hi_ (And.intro hc9 hrw)
      subst hov
      clear G1 hrw hc9
      go_wp2
      refine ⟨by simp, .inl ⟨_, _, rfl, run_takeDeferred (KS.out _ _), ?_⟩⟩
      refine ⟨_, (RT.out _ _).ret _ rfl rfl, ?_⟩
      rw [HRES.out, HDN.out]
      simp only [ne_eq, not_true_eq_false, if_false]
      rw [if_neg hend]
      exact ⟨A9, _, c9, rfl, CdsV.mono HRW.out.2 (fun _ _ => trivial), HRW.out.1, (RT.out _ _).bl⟩
  case body =>
    rintro lid pre ⟨x, A', m, cc, nx, er⟩ _ W0 W ⟨Bx, hBx, hact⟩ ⟨⟨v0, vs0, D0, hv0, hG0⟩, _⟩ hs0 hc0 ⟨a, hpre, hpl, hx, he, hnx, hrd, hncc, hnew⟩ ⟨⟨v, vs, DD, hv, hG⟩, hE, hbb, hR, hok⟩
    simp only at hact
    subst hact
    simp only [Array.replicate_succ, Array.replicate_zero, List.push_toArray, List.append_toArray, List.nil_append, List.cons_append]
    simp only at hx he hnx hrd hncc hnew hpl
    obtain rfl : v = v0 := by
      have h := hc0 gl _ hv0 rfl
      rw [show W.heap[gl]? = _ from hv] at h
      simpa using h
    have c7 := (gt_cells hBx).2.2.2.2.2.2.2
    simp only at c7
    by_cases her : er = 0
    · have hpl64 : pre.length + 1 <= 65 := by omega
      have hown : ∀ k, v.ownBlock = some k -> k < W0.heap.size := fun k hk => (own_geB hG0.ow hk).2
      have hEd : ECd (fun y => W0.heap.size <= y) W x (x.cs A' m cc).toList := ⟨A', m, cc, rfl, ⟨A', m, cc, rfl, hrd, fun b' o' e hm => ⟨hnew b' o' e hm, by obtain ⟨b2, o2, e2, hl2, _⟩ := hrd.2 hm; rw [e] at e2; injection e2 with e2; injection e2 with e3 e4; omega⟩⟩, hncc⟩
      have hvs : ∀ k, v ≠ .int .u8 k := fun k e => by
        rcases hG.ow.2 with ⟨h, _⟩ | ⟨_, _, _, h, _⟩ <;> rw [h] at e <;> cases e
      have hU : w.heap.size <= W.heap.size := hR.bl.size
      have hbW : gl + 2 < W.heap.size := hbb.lt
      obtain ⟨PS, hPS⟩ : ∃ PS, PS = pre.map Gt.x := ⟨_, rfl⟩
      rw [<- hPS] at hG
      have HPS := hi_ hPS
      have HV := hi_ (And.intro hv (And.intro hE (And.intro hbb (And.intro hR (And.intro hBx hG)))))
      have HOW := hi_ (And.intro hown (And.intro hEd (And.intro hvs (And.intro hok her))))
      have HPL := hi_ (show PS.length + 1 <= 65 by rw [hPS, List.length_map]; exact hpl64)
      clear hPS
      have q8 : W.drew.cell? ⟨Bx, 0, none⟩ = some (.int .i64 x.d) /\ W.drew.cell? ⟨Bx, 1, none⟩ = some (.bool x.lc) /\ W.drew.cell? ⟨Bx, 2, none⟩ = some (.int .i64 x.ix) /\ W.drew.cell? ⟨Bx, 3, none⟩ = some (.int .i64 x.gn) /\ W.drew.cell? ⟨Bx, 4, none⟩ = some (.int .i64 x.cp) /\ W.drew.cell? ⟨Bx, 5, none⟩ = some (.slice A' m cc) /\ W.drew.cell? ⟨Bx, 6, none⟩ = some (.int .i64 nx) /\ W.drew.cell? ⟨Bx, 7, none⟩ = some (.int .i64 er) := gt_cells hBx
      have cl : W.drew.cell? ⟨gl, 0, none⟩ = some v := hv.cell
      clear hv0 hG0 hs0 hc0 hpre hpl hx he hnx hrd hncc hnew hv hG hE hbb hok hR hBx B5l B5e B5b B5d RI5 R5 hown hEd hvs hpl64
      subst her
      gi_wp2
      skip
      refine region_round (S := fun W => W.cell? ⟨Bx, 0, none⟩ = some (.int .i64 x.d) /\ W.cell? ⟨Bx, 1, none⟩ = some (.bool x.lc) /\ W.cell? ⟨Bx, 2, none⟩ = some (.int .i64 x.ix) /\ W.cell? ⟨Bx, 3, none⟩ = some (.int .i64 x.gn) /\ W.cell? ⟨Bx, 4, none⟩ = some (.int .i64 x.cp) /\ W.cell? ⟨Bx, 5, none⟩ = some (.slice A' m cc) /\ W.cell? ⟨Bx, 6, none⟩ = some (.int .i64 nx) /\ W.cell? ⟨Bx, 7, none⟩ = some (.int .i64 0)) (by kernel_rfl) (by kernel_rfl) q8 (fun hHeld => ?_)
      refine tj_ 1 ⟨some 44, .fieldAddr 111 (.tmp 9) 0, 0, "frame.go:71", #[], none⟩ hHeld (h := ?_)
      refine tj_ 2 ⟨some 45, .load 61 (.tmp 44), 61, "frame.go:71", #[⟨1, .data⟩], none⟩ hHeld (h := ?_)
      refine tj_ 5 ⟨some 48, .fieldAddr 111 (.tmp 9) 1, 0, "frame.go:71", #[⟨7, .gcOnly .lateStores⟩], none⟩ hHeld (h := ?_)
      refine tj_ 6 ⟨some 49, .load 3 (.tmp 48), 3, "frame.go:71", #[⟨5, .data⟩, ⟨7, .gcOnly .lateStores⟩], none⟩ hHeld (h := ?_)
      refine wpAnyH_ready (rs := [0, 3]) (by kernel_rfl) (by simp) ?_
      refine AllReadyH.cons (o := ⟨some 43, .load 40 (.tmp 7), 40, "frame.go:71", #[], none⟩) rfl (fun K' hK => ?_) (AllReadyH.cons (o := ⟨some 46, .buildSlice 40 1 #[(0, .tmp 45)], 40, "frame.go:71", #[⟨2, .data⟩], none⟩) rfl (fun K' hK => ?_) AllReadyH.nil)
      · go_simp
        refine hK.out _ _ q8 (fun hHeld => ?_)
        clear hK K'
        try simp only [Act.put, sA_, sB_, sC_]
        refine wpAnyH_ready (rs := [3]) (by kernel_rfl) (by simp) ?_
        refine AllReadyH.cons (o := ⟨some 46, .buildSlice 40 1 #[(0, .tmp 45)], 40, "frame.go:71", #[⟨2, .data⟩], none⟩) rfl (fun K' hK => ?_) AllReadyH.nil
        go_simp
        obtain ⟨w6, hw6⟩ : ∃ w6, w6 = (W.alloc (.cells (x.cs A' m cc) 61)).drew := ⟨_, rfl⟩
        rw [<- hw6]
        have b6 : Below W.heap.size W w6 := by rw [hw6]; exact ((Below.refl _ _).alloc (Nat.le_refl _) _).drew
        have V6 : VRow (fun y => W.heap.size <= y) w6 (some ⟨W.heap.size, 0, none⟩) 1 6 (x.cs A' m cc).toList := by rw [hw6]; exact VRow.new W.drew (x.cs A' m cc) _ 1 6 rfl
        have x6 := below_at b6 HV.out.2.2.2.2.1
        have q86 := gt_cells x6
        simp only at q86
        have cl6 := (HV.out.1.kept (below_row b6) (by simp)).cell
        have G6 := HV.out.2.2.2.2.2.below ECd.ok b6
        clear hw6
        refine hK.out _ _ q86 (fun hHeld => ?_)
        clear hK K'
        try simp only [Act.put, sA_, sB_, sC_]
        refine wpAnyH_ready (rs := [4]) (by kernel_rfl) (by simp) ?_
        refine AllReadyH.cons (o := ⟨some 47, .call { callee := .builtin .append, args := #[.tmp 43, .tmp 46], argTypes := #[40, 40] }, 40, "frame.go:71", #[⟨0, .data⟩, ⟨3, .data⟩], none⟩) rfl (fun K' hK => ?_) AllReadyH.nil
        refine step_appX cdsT rfl (.tmp 43) (.tmp 46) rfl w.heap.size v _ vs rfl G6.ow (some ⟨W.heap.size, 0, none⟩) 1 1 (x.cs A' m cc).toList rfl V6 (cs_one _ _ _ _) (by have := HPL.out; omega) (by decide) (Nat.le_trans hU b6.size) ?_; intro v7 w7 ho7 hg7 hv7
        have h7 := get_seven HV.out.1 HV.out.2.1 HV.out.2.2.1 HV.out.2.2.2.1 HV.out.2.2.2.2.1 HV.out.2.2.2.2.2 b6 hg7
        have G7 := G6.put ECd.ok rfl (ECd.ok.below HOW.out.2.1 b6) (fun y hy e => by have := HOW.out.1 y e; omega) ho7 hg7 hv7
        obtain ⟨g7, c7', rfl⟩ := ownsRow_succ ho7
        have q87 := gt_cells h7.2.2.2.2.1
        simp only at q87
        have cl7 := h7.1.cell
        have fl7 := h7.1.frozen
        refine hK.out _ _ q87 (fun hHeld => ?_)
        clear hK K'
        try simp only [Act.put, sA_, sB_, sC_]
        refine wpAnyH_ready (rs := [7]) (by kernel_rfl) (by simp) ?_
        refine AllReadyH.cons (o := ⟨none, .store 40 (.tmp 7) (.tmp 47), 0, "frame.go:71", #[⟨4, .data⟩, ⟨4, .chain⟩, ⟨0, .phase⟩, ⟨1, .phase⟩, ⟨2, .phase⟩, ⟨3, .phase⟩, ⟨4, .phase⟩, ⟨5, .textOnly .lateStores⟩, ⟨6, .textOnly .lateStores⟩], none⟩) rfl (fun K' hK => ?_) AllReadyH.nil
        go_simp
        obtain ⟨w8, hw8⟩ : ∃ w8, w8 = w7.setCell ⟨gl, 0, none⟩ (.slice (some ⟨g7, 0, none⟩) (PS.length + 1) c7') := ⟨_, rfl⟩
        rw [<- hw8]
        have x8 : w8.heap[Bx]? = some (.cells (Gt.cs ⟨x, A', m, cc, nx, 0⟩) 111 (0, 0)) := by rw [hw8]; exact (Below.heap_setCell _ _ _ _ (show Bx ≠ gl from fun e => by have h := h7.1; rw [<- e] at h; have := (show w7.heap[Bx]? = _ from h).symm.trans h7.2.2.2.2.1; simp at this)).trans h7.2.2.2.2.1
        have q88 := gt_cells x8
        simp only at q88
        have e8 : Boxed w8 (gl + 1) 3 (.int .i64 (nxt pre)) := by rw [hw8]; exact h7.2.1.other (by omega) _
        have ce8 := e8.cell
        have fe8 := e8.frozen
        have HW8 := hi_ hw8
        clear hw8
        refine hK.out _ _ q88 (fun hHeld => ?_)
        clear hK K'
        try simp only [Act.put, sA_, sB_, sC_]
        refine wpAnyH_ready (rs := [8]) (by kernel_rfl) (by simp) ?_
        refine AllReadyH.cons (o := ⟨none, .store 3 (.tmp 8) (.tmp 49), 0, "frame.go:71", #[⟨6, .data⟩, ⟨7, .chain⟩, ⟨0, .phase⟩, ⟨1, .phase⟩, ⟨2, .phase⟩, ⟨3, .phase⟩, ⟨4, .phase⟩, ⟨5, .phase⟩, ⟨6, .phase⟩, ⟨7, .phase⟩], none⟩) rfl (fun K' hK => ?_) AllReadyH.nil
        go_simp
        obtain ⟨w9, hw9⟩ : ∃ w9, w9 = w8.setCell ⟨gl + 1, 0, none⟩ (.int .i64 nx) := ⟨_, rfl⟩
        rw [<- hw9]
        have x9 : w9.heap[Bx]? = some (.cells (Gt.cs ⟨x, A', m, cc, nx, 0⟩) 111 (0, 0)) := by rw [hw9]; exact (Below.heap_setCell _ _ _ _ (show Bx ≠ gl + 1 from fun e => by have h := e8; rw [<- e] at h; have := (show w8.heap[Bx]? = _ from h).symm.trans x8; simp at this)).trans x8
        have q89 := gt_cells x9
        simp only at q89
        refine hK.out _ _ q89 (fun hHeld => ?_)
        clear hK K'
        try simp only [Act.put, sA_, sB_, sC_]
        refine wpAnyH_done (by kernel_rfl) ?_ _
        refine Calm.normal ?_
        rw [show PS ++ [x] = pre.map Gt.x ++ [x] from by rw [HPS.out]] at G7
        have N9 := get_nine (g := ⟨x, A', m, cc, nx, 0⟩) hwg ⟨by omega, by omega⟩ h7 HOW.out.2.2.1 G7 HOW.out.2.2.2.1 rfl hU hbW w5.heap.size
        simp only at N9
        rw [<- HW8.out, <- hw9] at N9
        have N9H := hi_ N9
        clear N9 hw9 x8 q88 e8 ce8 fe8 x9 q89 h7 G7 q87 cl7 fl7 ho7 hg7 hv7 q86 cl6 G6 V6 b6 x6 q8 cl hHeld
        gi_wp2
        exact N9H.out
      · go_simp
        obtain ⟨w6, hw6⟩ : ∃ w6, w6 = (W.alloc (.cells (x.cs A' m cc) 61)).drew := ⟨_, rfl⟩
        rw [<- hw6]
        have b6 : Below W.heap.size W w6 := by rw [hw6]; exact ((Below.refl _ _).alloc (Nat.le_refl _) _).drew
        have V6 : VRow (fun y => W.heap.size <= y) w6 (some ⟨W.heap.size, 0, none⟩) 1 6 (x.cs A' m cc).toList := by rw [hw6]; exact VRow.new W.drew (x.cs A' m cc) _ 1 6 rfl
        have x6 := below_at b6 HV.out.2.2.2.2.1
        have q86 := gt_cells x6
        simp only at q86
        have cl6 := (HV.out.1.kept (below_row b6) (by simp)).cell
        have G6 := HV.out.2.2.2.2.2.below ECd.ok b6
        clear hw6
        refine hK.out _ _ q86 (fun hHeld => ?_)
        clear hK K'
        try simp only [Act.put, sA_, sB_, sC_]
        refine wpAnyH_ready (rs := [0]) (by kernel_rfl) (by simp) ?_
        refine AllReadyH.cons (o := ⟨some 43, .load 40 (.tmp 7), 40, "frame.go:71", #[], none⟩) rfl (fun K' hK => ?_) AllReadyH.nil
        go_simp
        refine hK.out _ _ q86 (fun hHeld => ?_)
        clear hK K'
        try simp only [Act.put, sA_, sB_, sC_]
        refine wpAnyH_ready (rs := [4]) (by kernel_rfl) (by simp) ?_
        refine AllReadyH.cons (o := ⟨some 47, .call { callee := .builtin .append, args := #[.tmp 43, .tmp 46], argTypes := #[40, 40] }, 40, "frame.go:71", #[⟨0, .data⟩, ⟨3, .data⟩], none⟩) rfl (fun K' hK => ?_) AllReadyH.nil
        refine step_appX cdsT rfl (.tmp 43) (.tmp 46) rfl w.heap.size v _ vs rfl G6.ow (some ⟨W.heap.size, 0, none⟩) 1 1 (x.cs A' m cc).toList rfl V6 (cs_one _ _ _ _) (by have := HPL.out; omega) (by decide) (Nat.le_trans hU b6.size) ?_; intro v7 w7 ho7 hg7 hv7
        have h7 := get_seven HV.out.1 HV.out.2.1 HV.out.2.2.1 HV.out.2.2.2.1 HV.out.2.2.2.2.1 HV.out.2.2.2.2.2 b6 hg7
        have G7 := G6.put ECd.ok rfl (ECd.ok.below HOW.out.2.1 b6) (fun y hy e => by have := HOW.out.1 y e; omega) ho7 hg7 hv7
        obtain ⟨g7, c7', rfl⟩ := ownsRow_succ ho7
        have q87 := gt_cells h7.2.2.2.2.1
        simp only at q87
        have cl7 := h7.1.cell
        have fl7 := h7.1.frozen
        refine hK.out _ _ q87 (fun hHeld => ?_)
        clear hK K'
        try simp only [Act.put, sA_, sB_, sC_]
        refine wpAnyH_ready (rs := [7]) (by kernel_rfl) (by simp) ?_
        refine AllReadyH.cons (o := ⟨none, .store 40 (.tmp 7) (.tmp 47), 0, "frame.go:71", #[⟨4, .data⟩, ⟨4, .chain⟩, ⟨0, .phase⟩, ⟨1, .phase⟩, ⟨2, .phase⟩, ⟨3, .phase⟩, ⟨4, .phase⟩, ⟨5, .textOnly .lateStores⟩, ⟨6, .textOnly .lateStores⟩], none⟩) rfl (fun K' hK => ?_) AllReadyH.nil
        go_simp
        obtain ⟨w8, hw8⟩ : ∃ w8, w8 = w7.setCell ⟨gl, 0, none⟩ (.slice (some ⟨g7, 0, none⟩) (PS.length + 1) c7') := ⟨_, rfl⟩
        rw [<- hw8]
        have x8 : w8.heap[Bx]? = some (.cells (Gt.cs ⟨x, A', m, cc, nx, 0⟩) 111 (0, 0)) := by rw [hw8]; exact (Below.heap_setCell _ _ _ _ (show Bx ≠ gl from fun e => by have h := h7.1; rw [<- e] at h; have := (show w7.heap[Bx]? = _ from h).symm.trans h7.2.2.2.2.1; simp at this)).trans h7.2.2.2.2.1
        have q88 := gt_cells x8
        simp only at q88
        have e8 : Boxed w8 (gl + 1) 3 (.int .i64 (nxt pre)) := by rw [hw8]; exact h7.2.1.other (by omega) _
        have ce8 := e8.cell
        have fe8 := e8.frozen
        have HW8 := hi_ hw8
        clear hw8
        refine hK.out _ _ q88 (fun hHeld => ?_)
        clear hK K'
        try simp only [Act.put, sA_, sB_, sC_]
        refine wpAnyH_ready (rs := [8]) (by kernel_rfl) (by simp) ?_
        refine AllReadyH.cons (o := ⟨none, .store 3 (.tmp 8) (.tmp 49), 0, "frame.go:71", #[⟨6, .data⟩, ⟨7, .chain⟩, ⟨0, .phase⟩, ⟨1, .phase⟩, ⟨2, .phase⟩, ⟨3, .phase⟩, ⟨4, .phase⟩, ⟨5, .phase⟩, ⟨6, .phase⟩, ⟨7, .phase⟩], none⟩) rfl (fun K' hK => ?_) AllReadyH.nil
        go_simp
        obtain ⟨w9, hw9⟩ : ∃ w9, w9 = w8.setCell ⟨gl + 1, 0, none⟩ (.int .i64 nx) := ⟨_, rfl⟩
        rw [<- hw9]
        have x9 : w9.heap[Bx]? = some (.cells (Gt.cs ⟨x, A', m, cc, nx, 0⟩) 111 (0, 0)) := by rw [hw9]; exact (Below.heap_setCell _ _ _ _ (show Bx ≠ gl + 1 from fun e => by have h := e8; rw [<- e] at h; have := (show w8.heap[Bx]? = _ from h).symm.trans x8; simp at this)).trans x8
        have q89 := gt_cells x9
        simp only at q89
        refine hK.out _ _ q89 (fun hHeld => ?_)
        clear hK K'
        try simp only [Act.put, sA_, sB_, sC_]
        refine wpAnyH_done (by kernel_rfl) ?_ _
        refine Calm.normal ?_
        rw [show PS ++ [x] = pre.map Gt.x ++ [x] from by rw [HPS.out]] at G7
        have N9 := get_nine (g := ⟨x, A', m, cc, nx, 0⟩) hwg ⟨by omega, by omega⟩ h7 HOW.out.2.2.1 G7 HOW.out.2.2.2.1 rfl hU hbW w5.heap.size
        simp only at N9
        rw [<- HW8.out, <- hw9] at N9
        have N9H := hi_ N9
        clear N9 hw9 x8 q88 e8 ce8 fe8 x9 q89 h7 G7 q87 cl7 fl7 ho7 hg7 hv7 q86 cl6 G6 V6 b6 x6 q8 cl hHeld
        gi_wp2
        exact N9H.out
    · have hne : (er != 0) = true := bne_iff_ne.2 her
      have HX := hi_ (And.intro her (show (getsL inp d 1).2.1 = er by rw [hpre.err hpl (by rw [<- he]; exact her), <- he]))
      have HBx := hi_ hBx
      have HR := hi_ hR
      have q7 : W.drew.cell? ⟨Bx, 7, none⟩ = some (.int .i64 er) := c7
      have c2 : W.drew.cell? ⟨w.heap.size, 0, none⟩ = some (.slice none 0 0) := hR.b2.cell
      have f2 : W.drew.frozen? ⟨w.heap.size, 0, none⟩ = false := hR.b2.frozen
      have hB2 : Bx ≠ w.heap.size := fun e => by have h := hR.b2; rw [<- e] at h; have := (show W.heap[Bx]? = _ from h).symm.trans hBx; simp at this
      clear hv0 hG0 hs0 hc0 hpre hpl hx he hnx hrd hncc hnew hv hG hE hbb hok hR her hBx B5l B5e B5b B5d RI5 R5
      gi_wp2
      skip
      refine region_round (S := fun W => W.cell? ⟨Bx, 7, none⟩ = some (.int .i64 er)) (by kernel_rfl) (by kernel_rfl) q7 (fun hHeld => ?_)
      refine tj_ 0 ⟨some 41, .fieldAddr 111 (.tmp 9) 2, 0, "frame.go:69", #[⟨2, .gcOnly .lateStores⟩], none⟩ hHeld (h := ?_)
      refine tj_ 1 ⟨some 42, .load 99 (.tmp 41), 99, "frame.go:69", #[⟨0, .data⟩, ⟨2, .gcOnly .lateStores⟩], none⟩ hHeld (h := ?_)
      refine wpAnyH_ready (rs := [2]) (by kernel_rfl) (by simp) ?_
      refine AllReadyH.cons (o := ⟨none, .store 40 (.tmp 2) (.const (.slice none 0 0)), 0, "frame.go:69", #[⟨0, .textOnly .lateStores⟩, ⟨1, .textOnly .lateStores⟩], none⟩) rfl (fun K' hK => ?_) AllReadyH.nil
      go_simp
      obtain ⟨w8, hw8⟩ : ∃ w8, w8 = (W.setCell ⟨w.heap.size, 0, none⟩ (.slice none 0 0)).drew := ⟨_, rfl⟩
      rw [<- hw8]
      have x8 : w8.heap[Bx]? = some (.cells (Gt.cs ⟨x, A', m, cc, nx, er⟩) 111 (0, 0)) := by rw [hw8]; exact (Below.heap_setCell _ _ _ _ hB2).trans HBx.out
      have q78 := (gt_cells x8).2.2.2.2.2.2.2
      have b38 : Boxed w8 (w.heap.size + 1) 99 (.int .i64 0) := by rw [hw8]; exact Boxed.other HR.out.b3 (by omega) _
      have c38 := b38.cell
      have f38 := b38.frozen
      have HW8 := hi_ hw8
      clear hw8
      refine hK.out _ _ q78 (fun hHeld => ?_)
      clear hK K'
      try simp only [Act.put, sA_, sB_, sC_]
      refine wpAnyH_ready (rs := [3]) (by kernel_rfl) (by simp) ?_
      refine AllReadyH.cons (o := ⟨none, .store 99 (.tmp 3) (.tmp 42), 0, "frame.go:69", #[⟨1, .data⟩, ⟨2, .chain⟩, ⟨0, .phase⟩, ⟨1, .phase⟩, ⟨2, .phase⟩], none⟩) rfl (fun K' hK => ?_) AllReadyH.nil
      go_simp
      obtain ⟨w9, hw9⟩ : ∃ w9, w9 = w8.setCell ⟨w.heap.size + 1, 0, none⟩ (.int .i64 er) := ⟨_, rfl⟩
      rw [<- hw9]
      have x9 : w9.heap[Bx]? = some (.cells (Gt.cs ⟨x, A', m, cc, nx, er⟩) 111 (0, 0)) := by rw [hw9]; exact (Below.heap_setCell _ _ _ _ (show Bx ≠ w.heap.size + 1 from fun e => by have h := b38; rw [<- e] at h; have := (show w8.heap[Bx]? = _ from h).symm.trans x8; simp at this)).trans x8
      have q79 := (gt_cells x9).2.2.2.2.2.2.2
      refine hK.out _ _ q79 (fun hHeld => ?_)
      clear hK K'
      try simp only [Act.put, sA_, sB_, sC_]
      refine wpAnyH_done (by kernel_rfl) ?_ _
      refine Calm.normal ?_
      have K9 : KeepsOthers W w9 := by rw [hw9, HW8.out]; exact ((KeepsOthers.setCell W _ _).trans (KeepsOthers.drew _)).trans (KeepsOthers.setCell _ _ _)
      have R9 : Res2 w w9 (.slice none 0 0) er := by rw [hw9, HW8.out]; exact (HR.out.next ((Below.refl _ _).drew)).set _ _
      have K9H := hi_ (And.intro K9 R9)
      clear K9 R9 hw9 x8 q78 b38 c38 f38 x9 q79 hHeld c2 f2 q7 c7
      gi_wp2
      exact ⟨K9H.out.1.from _, rfl, er, HX.out.1, HX.out.2, K9H.out.2⟩
theorem FGet_ok : FGetC := fun A n c l w hr hn hc hcm => by
  by_cases h5 : n < 5
  · exact GGet_short A n c l w hr.1 h5
  obtain ⟨q, rfl⟩ : ∃ q, n = q + 4 := ⟨n - 4, by omega⟩
  obtain ⟨b, o, rfl, hlt, hcell⟩ := hr.2 (by omega)
  have hl := hr.1
  have h0 := hcell 0 (by omega)
  rw [Nat.add_zero] at h0
  have h0' : (l.getD 0 0).toNat = (l[0]'(by omega)).toNat := by rw [List.getD_eq_getElem?_getD, List.getElem?_eq_getElem (by omega)]; rfl
  by_cases hs : numB 4 ((sumL (l.take q) : Nat) : Int) = l.drop q
  · by_cases h64 : 64 < (l[0]'(by omega)).toNat
    · exact GGet_many c l w b o q hr hlt (by omega) (by omega) hc hcm hs _ h0' h0 h64
    · exact GGet_loop c l w b o q hr hlt (by omega) (by omega) hc hcm hs _ h0' h0 (by omega)
  · exact GGet_sum c l w b o q hr hlt (by omega) (by omega) hc hcm hs
end
end Go.Proofs.YthabmlbmlncbmaaGreat
namespace Go.Proofs.YthabmlbmlncbmaaGreat
open Go.RowKit Go.ChangeShapes Go.WideShapes Go.Deep Go.Joins
set_option maxRecDepth 20000
section
variable {H : Type} {enc : TypeId × Value -> H} {w : World} {base : Nat} {held : Bool}
theorem elems_atK {P : Program} {t e : TypeId} {fuel : Nat} {cs : List Value} {x : DataW H × List MemPlace} (ht : P.underlying t = some (.slice e)) (h : DataW.trod enc P w base (fun _ => true) held fuel t cs = some x) :
    cs = [.slice none 0 0] \/ ∃ (a : Addr) (len cap : Nat), cs = [.slice (some a) len cap] /\ len <= cap /\ cap <= maxLen /\
      ∀ i, i < len -> ∃ cs' n y, (∀ j, j < P.cellsOf e -> w.cell? ((a.add (i * P.cellsOf e)).add j) = cs'[j]?) /\ DataW.trod enc P w base (fun _ => true) held n e cs' = some y := by
  rcases open_slice ht h with ⟨h0, _⟩ | ⟨a, len, cap, m, n, D, Pl, hcs, _, hl, hm, hmm, _, hi⟩
  · exact .inl h0
  · refine .inr ⟨a, len, cap, hcs, hl, hm, fun i him => ?_⟩
    have hmc : m = cap := by simpa using hmm
    obtain ⟨cs', hc, ht'⟩ := hi i (by omega)
    obtain ⟨_, _, hat⟩ := World.cells?_some hc
    exact ⟨cs', n, _, hat, ht'⟩
theorem open_comp {n : Nat} {cs : List Value} {y : DataW H × List MemPlace} (h : DataW.trod enc Tryz.prog w base (fun _ => true) held n 50 cs = some y) : ∃ k : Kd, cs = [.string k.1, .int .i64 k.2] /\ k.1.size <= maxLen := by
  obtain ⟨y0, y1, n1, _, hl, h0, h1⟩ := trod_struct2 Tryz.underlying50 h
  have hc2 : Tryz.prog.cellsOf 50 = 2 := by kernel_rfl
  rw [hc2] at hl
  obtain ⟨v0, v1, rfl⟩ : ∃ a b, cs = [a, b] := by
    match cs, hl with
    | [a, b], _ => exact ⟨a, b, rfl⟩
  have hs1 : Tryz.prog.cellsOf 9 = 1 := by kernel_rfl
  have hn1 : Tryz.prog.cellsOf 3 = 1 := by kernel_rfl
  have g0 : DataW.trod enc Tryz.prog w base (fun _ => true) held n1 9 [v0] = some y0 := by
    have h := h0
    change DataW.trod enc Tryz.prog w base (fun _ => true) held _ 9 (([v0, v1].drop 0).take (Tryz.prog.cellsOf 9)) = _ at h
    rw [hs1] at h
    exact h
  have g1 : DataW.trod enc Tryz.prog w base (fun _ => true) held n1 3 [v1] = some y1 := by
    have h := h1
    change DataW.trod enc Tryz.prog w base (fun _ => true) held _ 3 (([v0, v1].drop 1).take (Tryz.prog.cellsOf 3)) = _ at h
    rw [hn1] at h
    exact h
  obtain ⟨s, hs, _, hsz⟩ := DataW.trod_string Tryz.underlying9 g0
  obtain ⟨z, hz, _⟩ := DataW.trod_int Tryz.underlying3 g1
  simp only [List.cons.injEq, and_true] at hs hz
  subst hs hz
  exact ⟨(s, z), rfl, hsz⟩
theorem open_comps {fuel : Nat} {cs : List Value} {x : DataW H × List MemPlace} (h : DataW.trod enc Tryz.prog w base (fun _ => true) held fuel 22 cs = some x) :
    ∃ A n c ks, cs = [.slice A n c] /\ KRd w A n ks /\ Lens ks /\ n <= c /\ c <= maxLen := by
  rcases elems_atK Tryz.underlying22 h with h0 | ⟨a, len, cap, hcs, hl, hm, hi⟩
  · exact ⟨none, 0, 0, [], h0, KRd.nil _ _, fun k hk => (by cases hk), Nat.le_refl _, Nat.zero_le _⟩
  have h2 : Tryz.prog.cellsOf 50 = 2 := by kernel_rfl
  rw [h2] at hi
  have key : ∀ i, ∃ k : Kd, i < len -> (w.cell? ((a.add (i * 2)).add 0) = some (.string k.1) /\ w.cell? ((a.add (i * 2)).add 1) = some (.int .i64 k.2)) /\ k.1.size <= maxLen := fun i => by
    by_cases hil : i < len
    · obtain ⟨cs', n, y, hc, ht⟩ := hi i hil
      obtain ⟨k, rfl, hk⟩ := open_comp ht
      exact ⟨k, fun _ => ⟨⟨hc 0 (by decide), hc 1 (by decide)⟩, hk⟩⟩
    · exact ⟨(.empty, 0), fun h => absurd h hil⟩
  obtain ⟨F, hF⟩ := Classical.axiomOfChoice key
  refine ⟨some a, len, cap, (List.range len).map F, hcs, ⟨by simp, fun hpos => ?_⟩, fun k hk => ?_, hl, hm⟩
  · obtain ⟨b, off, spot⟩ := a
    have hs := (hF 0 hpos).1.1
    have hspot : spot = none := by simpa [Addr.add] using World.cell?_spot hs
    subst hspot
    refine ⟨b, off, rfl, by simpa [Addr.add] using World.block_lt_of_cell? w _ hs, fun j hj => ?_⟩
    have hj' : j < len := by simpa using hj
    obtain ⟨⟨c0, c1⟩, _⟩ := hF j hj'
    rw [Addr.add_lit, Addr.add_lit] at c0 c1
    simp only [List.getElem_map, List.getElem_range]
    exact ⟨c0, c1⟩
  · obtain ⟨i, hi', rfl⟩ := List.mem_map.1 hk
    have := (hF i (List.mem_range.1 hi')).2
    unfold maxLen at this
    omega
theorem array5 {α : Type} {cs : Array α} (h : cs.size = 5) : ∃ c0 c1 c2 c3 c4, cs = #[c0, c1, c2, c3, c4] := by
  obtain ⟨l⟩ := cs
  match l, h with
  | [c0, c1, c2, c3, c4], _ => exact ⟨c0, c1, c2, c3, c4, rfl⟩
theorem open_conf {r : Reach} {b0 : Nat} {v : Value} {d : DataW H} {p : List MemPlace} (hv : Value.okWide Tryz.prog w r b0 24 v) (h : DataW.Trod enc Tryz.prog w base (fun _ => true) held 24 v d p) :
    ∃ (lg pg en gn : Int) (A : Option Addr) (n c : Nat) (ks : List Kd), v = .agg #[.int .i64 lg, .int .i64 pg, .int .i64 en, .int .i64 gn, .slice A n c] /\ KRd w A n ks /\ Lens ks /\ n <= c /\ c <= maxLen := by
  obtain ⟨cs, rfl, hsz⟩ := okWide_struct Tryz.underlying24 hv
  have hc5 : Tryz.prog.cellsOf 24 = 5 := by kernel_rfl
  obtain ⟨c0, c1, c2, c3, c4, rfl⟩ := array5 (hsz.trans hc5)
  obtain ⟨fuel, hf⟩ := h
  obtain ⟨xs, n, _, _, hl, hxl, hg⟩ := DataW.trod_struct Tryz.underlying24 hf
  have hn1 : Tryz.prog.cellsOf 3 = 1 := by kernel_rfl
  have hs1 : Tryz.prog.cellsOf 22 = 1 := by kernel_rfl
  have hx : xs.length = 5 := hxl
  have e0 := hg 0 _ rfl
  have e1 := hg 1 _ rfl
  have e2 := hg 2 _ rfl
  have e3 := hg 3 _ rfl
  have e4 := hg 4 _ rfl
  rw [List.getElem?_eq_getElem (by omega)] at e0 e1 e2 e3 e4
  have f0 : DataW.trod enc Tryz.prog w base (fun _ => true) held n 3 [c0] = some xs[0] := by
    have h := e0
    change DataW.trod enc Tryz.prog w base (fun _ => true) held _ 3 (([c0, c1, c2, c3, c4].drop 0).take (Tryz.prog.cellsOf 3)) = _ at h
    rw [hn1] at h
    exact h
  have f1 : DataW.trod enc Tryz.prog w base (fun _ => true) held n 3 [c1] = some xs[1] := by
    have h := e1
    change DataW.trod enc Tryz.prog w base (fun _ => true) held _ 3 (([c0, c1, c2, c3, c4].drop 1).take (Tryz.prog.cellsOf 3)) = _ at h
    rw [hn1] at h
    exact h
  have f2 : DataW.trod enc Tryz.prog w base (fun _ => true) held n 3 [c2] = some xs[2] := by
    have h := e2
    change DataW.trod enc Tryz.prog w base (fun _ => true) held _ 3 (([c0, c1, c2, c3, c4].drop 2).take (Tryz.prog.cellsOf 3)) = _ at h
    rw [hn1] at h
    exact h
  have f3 : DataW.trod enc Tryz.prog w base (fun _ => true) held n 3 [c3] = some xs[3] := by
    have h := e3
    change DataW.trod enc Tryz.prog w base (fun _ => true) held _ 3 (([c0, c1, c2, c3, c4].drop 3).take (Tryz.prog.cellsOf 3)) = _ at h
    rw [hn1] at h
    exact h
  have f4 : DataW.trod enc Tryz.prog w base (fun _ => true) held n 22 [c4] = some xs[4] := by
    have h := e4
    change DataW.trod enc Tryz.prog w base (fun _ => true) held _ 22 (([c0, c1, c2, c3, c4].drop 4).take (Tryz.prog.cellsOf 22)) = _ at h
    rw [hs1] at h
    exact h
  obtain ⟨lg, q0, _⟩ := DataW.trod_int Tryz.underlying3 f0
  obtain ⟨pg, q1, _⟩ := DataW.trod_int Tryz.underlying3 f1
  obtain ⟨en, q2, _⟩ := DataW.trod_int Tryz.underlying3 f2
  obtain ⟨gn, q3, _⟩ := DataW.trod_int Tryz.underlying3 f3
  obtain ⟨A, m, c, ks, q4, hK, hL, h1, h2⟩ := open_comps f4
  simp only [List.cons.injEq, and_true] at q0 q1 q2 q3 q4
  subst q0 q1 q2 q3 q4
  exact ⟨lg, pg, en, gn, A, m, c, ks, rfl, hK, hL, h1, h2⟩
end
end Go.Proofs.YthabmlbmlncbmaaGreat
namespace Go.Proofs.YthabmlbmlncbmaaGreat
open Go.RowKit
set_option linter.unusedVariables false
set_option maxRecDepth 20000
theorem bodies_len (l : List (List UInt8)) (n : Int) (m : Nat) : (bodies l n m).length = m := by simp [bodies]
theorem bodies_succ (l : List (List UInt8)) (n : Int) (m : Nat) : bodies l n (m + 1) = bodies l n m ++ [cB (secAt l (n + (m : Nat)))] := by simp [bodies, List.range_succ]
theorem bodies_one (l : List (List UInt8)) (n : Int) : bodies l n 1 = [cB (secAt l n)] := by simp [bodies]
theorem cB_len (x : List UInt8) : (cB x).length <= 472 := by unfold cB; rw [cut_length]; omega
theorem HasQ_len {l : List (List UInt8)} {n : Int} {k : Nat} (h : ∀ i : Nat, i < k -> HasQ l (n + i)) : k <= l.length := by
  apply Classical.byContradiction
  intro hk
  have h0 := h 0 (by omega)
  have h1 := h l.length (by omega)
  have e : secAt l (n + (l.length : Nat)) = secAt l (n + (0 : Nat)) := by
    unfold secAt
    rw [Int.add_emod_right, Int.natCast_zero, Int.add_zero]
  have e1 := h1.2.2.2
  rw [e, h0.2.2.2] at e1
  have : l.length = 0 := by omega
  have hnil : l = [] := List.eq_nil_of_length_eq_zero this
  rw [hnil] at h0
  exact hasQ_nil _ h0
theorem effL_len (R : Bool) (lg : Int) (xs : List (List UInt8)) : (effL R lg xs).length <= xs.length := by
  unfold effL
  split
  · exact Nat.le_refl _
  · exact Nat.zero_le _
structure PcG (w wr : World) (lv : Value) (xs : List (List UInt8)) (vs : List Value) (D : Nat -> Prop) : Prop where
  gr : Gr EPc 42 1 wr w.heap.size lv vs D xs
  bel : Below w.heap.size w wr
theorem PcG.start (w : World) : PcG w w (.slice none 0 0) [] [] (fun _ => False) := ⟨Gr.start (World.ownsRow_nil _ _ _ _) (Nat.le_refl _), Below.refl _ _⟩
theorem PcG.below {w wr w2 : World} {lv : Value} {xs : List (List UInt8)} {vs : List Value} {D : Nat -> Prop} (h : PcG w wr lv xs vs D) (hb : Below wr.heap.size wr w2) : PcG w w2 lv xs vs D := ⟨h.gr.below EPc.ok hb, h.bel.trans (hb.mono h.bel.size)⟩
theorem PcG.put {w wr w2 w3 : World} {lv lv' : Value} {xs : List (List UInt8)} {vs : List Value} {D : Nat -> Prop} {x : List UInt8} {A : Option Addr} {m c : Nat} {t : TypeId} (h : PcG w wr lv xs vs D) (hb : Below wr.heap.size wr w2) (hr : Rd w2 A m x) (hc : m <= c)
    (hK : ∀ b o, A = some ⟨b, o, none⟩ -> 0 < m -> b < w.heap.size \/ wr.heap.size <= b) (ho : w3.ownsRow w.heap.size 42 1 lv' (xs.length + 1) (vs ++ [.slice A m c])) (hg : (w2.alloc (.cells #[.slice A m c] t)).grownBy w3 lv.ownBlock)
    (hv : lv'.ownBlock = lv.ownBlock \/ lv'.ownBlock = some (w2.alloc (.cells #[.slice A m c] t)).heap.size) : ∃ vs' D', PcG w w3 lv' (xs ++ [x]) vs' D' := by
  have hb' : Below wr.heap.size wr (w2.alloc (.cells #[.slice A m c] t)) := hb.trans ((Below.refl _ w2).alloc hb.size _)
  have g2 := h.gr.below EPc.ok hb'
  have hx : EPc (fun y => y < w.heap.size \/ wr.heap.size <= y) (w2.alloc (.cells #[.slice A m c] t)) x [.slice A m c] := by
    have hr' := hr.alloc (.cells #[.slice A m c] t)
    refine ⟨A, m, c, rfl, ⟨A, m, c, rfl, hr', fun b o e hm => ⟨hK b o e hm, ?_⟩⟩, hc⟩
    obtain ⟨b', o', e', hlt, _⟩ := hr'.2 hm
    rw [e] at e'
    injection e' with e'
    injection e' with e1 e2
    rw [e1]
    exact hlt
  have g3 := g2.put EPc.ok (r := [.slice A m c]) rfl hx (fun y hy e => by have := own_geB h.gr.ow e; rcases hy with hy | hy <;> omega) ho hg hv
  refine ⟨_, _, g3, ?_⟩
  have b2 : Below w.heap.size w (w2.alloc (.cells #[.slice A m c] t)) := h.bel.trans (hb'.mono h.bel.size)
  exact b2.grown hg b2.size (fun k hk => (own_geB h.gr.ow hk).1)
theorem PcG.own {w wr w2 : World} {lv : Value} {xs : List (List UInt8)} {vs : List Value} {D : Nat -> Prop} {cs : Array Value} {t : TypeId} (h : PcG w wr lv xs vs D) (hb : Below wr.heap.size wr w2) : (w2.alloc (.cells cs t)).ownsRow w.heap.size 42 1 lv xs.length vs := (own_keep h.gr.ow hb).alloc _
theorem PcG.done {w wr : World} {lv : Value} {xs : List (List UInt8)} {vs : List Value} {D : Nat -> Prop} (h : PcG w wr lv xs vs D) : ∃ A c, lv = .slice A xs.length c /\ xs.length <= c /\ c <= maxLen /\ PcsV (fun _ => True) wr A xs.length xs := by
  obtain ⟨A, c, e, h1, h2, h3⟩ := h.gr.rows EPc.ok
  exact ⟨A, c, e, h1, h2, PcsV.mono (K := fun x => D x \/ (w.heap.size <= x /\ x < wr.heap.size)) h3 fun _ _ => trivial⟩
theorem PcG.lit {w : World} {A : Option Addr} {m c : Nat} {x : List UInt8} (hr : Rd w A m x) (hc : m <= c) : ∃ vs D, PcG w (w.alloc (.cells #[.slice A m c] 42)) (.slice (some ⟨w.heap.size, 0, none⟩) 1 1) [x] vs D := by
  have hb : Below w.heap.size w (w.alloc (.cells #[.slice A m c] 42)) := (Below.refl _ w).alloc (Nat.le_refl _) _
  have hr' := hr.alloc (.cells #[.slice A m c] 42)
  have hlt : ∀ b o, A = some ⟨b, o, none⟩ -> 0 < m -> b < w.heap.size := fun b o e hm => by
    obtain ⟨b', o', e', hlt, _⟩ := hr.2 hm
    rw [e] at e'
    injection e' with e'
    injection e' with e1 e2
    rw [e1]
    exact hlt
  refine ⟨[.slice A m c], fun y => y < w.heap.size, ⟨hb.size, ⟨rfl, .inr ⟨w.heap.size, 1, #[.slice A m c], rfl, Nat.le_refl _, heap_alloc_last w _, Nat.le_refl _, by unfold maxLen; omega, rfl, rfl⟩⟩, ?_, fun y hy => ⟨Nat.lt_of_lt_of_le hy hb.size, fun e => ?_⟩⟩, hb⟩
  · exact HdL.of1 rfl fun j y hy => by
      have hj : j < 1 := by have := (List.getElem?_eq_some_iff.1 hy).1; simpa using this
      obtain rfl : j = 0 := by omega
      simp only [List.getElem?_cons_zero, Option.some.injEq] at hy
      subst hy
      exact ⟨_, rfl, A, m, c, rfl, ⟨A, m, c, rfl, hr', fun b o e h0 => ⟨hlt b o e h0, Nat.lt_of_lt_of_le (hlt b o e h0) hb.size⟩⟩, hc⟩
  · have e2 : w.heap.size = y := by injection e
    omega
theorem res_seal_tmp2 {w : World} {g : Nat} {e n k : Int} {A : Option Addr} {m c : Nat} {fn : Func} {p u v : Tmp} (h : fn.results = #[.cell p 70, .tmp u, .tmp v]) {tmps : Array Value} (hp : tmps.getD p undef = .pointer (some ⟨g, 0, none⟩)) (hs : SealAt w g e n k A m c) :
    (results fn tmps).run Tryz.prog w = .ok (.tuple #[.agg #[.int .i64 e, .int .i64 n, .int .i64 k, .slice A m c], tmps.getD u undef, tmps.getD v undef]) w := by
  have h1 := hs.load
  simp only [Instr.loadAt, Instr.sureAddr, Sem.run_bind, Sem.run_pure, Result.andThen_ok] at h1
  rw [Array.getD_eq_getD_getElem?] at hp
  simp only [results, h]
  simp [hp, asAddr, h1, Result.andThen]
def BegQ (l : List (List UInt8)) (n s : Int) : Prop := HasQ l n /\ HdOk (cB (secAt l n)) /\ plc (cB (secAt l n)) = 0 /\ sqn (cB (secAt l n)) = s
def BegP (l : List (List UInt8)) (n s : Int) (w : World) (e : Ending) (w' : World) : Prop :=
  (BegQ l n s -> ∃ (A : Option Addr) (m c : Nat), e = .returned (.tuple #[.agg #[.int .i64 (cE (secAt l n)), .int .i64 n, .int .i64 1, .slice A m c], .int .i64 (cnt (cB (secAt l n))), .bool true]) /\ Rd w' A m (cB (secAt l n)) /\ (m <= 472 /\ m <= c /\ ∀ b o, A = some ⟨b, o, none⟩ -> 0 < m -> w.heap.size <= b)) /\
  (¬ BegQ l n s -> e = .returned (.tuple #[.agg #[.int .i64 0, .int .i64 0, .int .i64 0, .slice none 0 0], .int .i64 0, .bool false])) /\ Below w.heap.size w w'
structure Log18 (W : World) (A : Option Addr) (n : Nat) (ks : List Kd) (K : Nat -> Prop) (LA : Option Addr) (ln : Nat) (xs : List (List UInt8)) : Prop where
  k : KRd W A n ks
  p : PcsV K W LA ln xs
theorem Log18.below {W W' : World} {A : Option Addr} {n : Nat} {ks : List Kd} {K : Nat -> Prop} {LA : Option Addr} {ln : Nat} {xs : List (List UInt8)} (h : Log18 W A n ks K LA ln xs) (hb : Below W.heap.size W W') : Log18 W' A n ks K LA ln xs := ⟨h.k.below hb, h.p.below hb⟩
section
variable (lg pg en gn : Int) (A : Option Addr) (n cap : Nat) (ks : List Kd) {K : Nat -> Prop} (LA : Option Addr) (ln lc : Nat) (xs : List (List UInt8)) (lsn s : Int) (w : World)
def LHasC (l : List (List UInt8)) : Prop := ∀ (q : Int) (W : World), Log18 W A n ks K LA ln xs -> Calls Tryz.prog 54 #[cv lg pg en gn A n cap, .slice LA ln lc, .int .i64 q] W (LHasP l q W)
set_option maxHeartbeats 2000000 in
theorem beg_n0 {l : List (List UInt8)} (h : Log18 w A n ks K LA ln xs) (cH : LHasC lg pg en gn A n cap ks (K := K) LA ln lc xs l) (hq : ¬ HasQ l lsn) :
    Calls Tryz.prog 41 #[cv lg pg en gn A n cap, .slice LA ln lc, .int .i64 lsn, .int .i64 s] w (BegP l lsn s w) := by
  obtain ⟨w1, hw1, C1, Z1⟩ := box2 lg pg en gn A n cap ks w h.k
  have HL := hi_ (h.below C1.bel)
  have CH := hi_ (cH lsn w1 HL.out)
  have HQ := hi_ hq
  have c0 := C1.c0
  have c1 := C1.c1
  have c2 := C1.c2
  have c3 := C1.c3
  have c4 := C1.c4
  have K1 := hi_ C1
  have hz1 := Z1.lt
  have HZ := hi_ Z1
  clear h C1 Z1 cH hq
  go_enter Tryz.func41, Tryz.ntmps41
  go_wp2_with (first
    | (rw [<- hw1]; clear hw1)
    | (go_at_call 54; refine CH.out.mono ?_; rintro e w2 hP; obtain rfl := hP.2.1 HQ.out; have B2 := hi_ (K1.out.bel.trans (hP.2.2.mono K1.out.bel.size)); have Z2 := hi_ (HZ.out.below hP.2.2 hz1); clear hP)
    | (refine wpList_stseal rfl (.tmp 11) (.tmp 21) rfl rfl rfl (SealAt.new w2) ?_; intro w3 hS3 hB3 _
       have B3 := hi_ (B2.out.trans ((((Below.refl _ _).alloc (Nat.le_refl _) _).trans hB3).mono B2.out.size))
       have Z3 := hi_ ((Z2.out.alloc _).below hB3 Z2.out.lt)
       clear hB3 hS3)
    | (refine wpList_stseal rfl (.tmp 8) (.tmp 25) rfl rfl rfl Z3.out ?_; intro w6 hS6 hB6 hE6))
  refine bodyPost_ret (res_seal_tmp2 rfl rfl hS6) rfl ?_
  exact ⟨fun k => absurd k.1 HQ.out, fun _ => rfl, B3.out.trans (hB6.mono (by omega))⟩
set_option maxHeartbeats 2000000 in
theorem beg_n1 {l : List (List UInt8)} (h : Log18 w A n ks K LA ln xs) (cH : LHasC lg pg en gn A n cap ks (K := K) LA ln lc xs l) (hq : HasQ l lsn) (hh : ¬ HdOk (cB (secAt l lsn))) :
    Calls Tryz.prog 41 #[cv lg pg en gn A n cap, .slice LA ln lc, .int .i64 lsn, .int .i64 s] w (BegP l lsn s w) := by
  obtain ⟨w1, hw1, C1, Z1⟩ := box2 lg pg en gn A n cap ks w h.k
  have HL := hi_ (h.below C1.bel)
  have CH := hi_ (cH lsn w1 HL.out)
  have HQ := hi_ hq
  have c0 := C1.c0
  have c1 := C1.c1
  have c2 := C1.c2
  have c3 := C1.c3
  have c4 := C1.c4
  have K1 := hi_ C1
  have hz1 := Z1.lt
  have HZ := hi_ Z1
  obtain ⟨x, hx⟩ : ∃ x, x = cB (secAt l lsn) := ⟨_, rfl⟩
  rw [<- hx] at hh
  have HX := hi_ hx
  have HH := hi_ (hdT_no hh)
  have HN : Hid (¬ BegQ l lsn s) := hi_ fun k => hh (by rw [hx]; exact k.2.1)
  have hT := HH.out
  have HT := hi_ hT
  obtain ⟨E, hE⟩ : ∃ E, E = cE (secAt l lsn) := ⟨_, rfl⟩
  have HE := hi_ hE
  clear h C1 Z1 cH hq hh hx hT hE
  go_enter Tryz.func41, Tryz.ntmps41
  go_wp2_with (first
    | (rw [<- hw1]; clear hw1)
    | (go_at_call 54; refine CH.out.mono ?_; rintro e w2 hP; obtain ⟨A2, m2, c2', rfl, hr2, hm2⟩ := hP.1 HQ.out
       rw [<- HX.out] at hr2
       rw [<- HE.out]
       have B2 := hi_ (K1.out.bel.trans (hP.2.2.mono K1.out.bel.size))
       have Z2 := hi_ (HZ.out.below hP.2.2 hz1)
       have R2 := hi_ (And.intro hr2 (And.intro hm2.1 (And.intro hm2.2.1 (fun b o e h0 => (hm2.2.2 b o e h0 : w1.heap.size <= b)))))
       clear hP hr2 hm2)
    | (refine wpList_stseal rfl (.tmp 11) (.tmp 21) rfl rfl rfl (SealAt.new w2) ?_; intro w3 hS3 hB3 _
       have B3 := hi_ (B2.out.trans ((((Below.refl _ _).alloc (Nat.le_refl _) _).trans hB3).mono B2.out.size))
       have Z3 := hi_ ((Z2.out.alloc _).below hB3 Z2.out.lt)
       have R3 := hi_ (R2.out.1.below (Nat.le_refl _) (((Below.refl _ _).alloc (Nat.le_refl _) _).trans hB3))
       have k3 : w3.cell? ⟨w2.heap.size, 3, none⟩ = some (.slice A2 m2 c2') := cell_of_row _ _ _ _ _ _ hS3
       have S3 := hi_ hS3
       clear hB3 hS3)
    | (go_at_call 55; refine (PHead_any A2 m2 c2' x w3 R3.out R2.out.2.2.1 (by have := R2.out.2.1; omega)).mono ?_; rintro e w' ⟨he, hw'⟩; subst hw'; rw [HT.out] at he; subst he)
    | (refine wpList_stseal rfl (.tmp 8) (.tmp 45) rfl rfl rfl Z3.out ?_; intro w6 hS6 hB6 hE6))
  refine bodyPost_ret (res_seal_tmp2 rfl rfl hS6) rfl ?_
  exact ⟨fun k => absurd k HN.out, fun _ => rfl, B3.out.trans (hB6.mono (by omega))⟩
set_option maxHeartbeats 2000000 in
theorem beg_n2 {l : List (List UInt8)} (h : Log18 w A n ks K LA ln xs) (cH : LHasC lg pg en gn A n cap ks (K := K) LA ln lc xs l) (hq : HasQ l lsn) (hh : HdOk (cB (secAt l lsn))) (hp : plc (cB (secAt l lsn)) ≠ 0) :
    Calls Tryz.prog 41 #[cv lg pg en gn A n cap, .slice LA ln lc, .int .i64 lsn, .int .i64 s] w (BegP l lsn s w) := by
  obtain ⟨w1, hw1, C1, Z1⟩ := box2 lg pg en gn A n cap ks w h.k
  have HL := hi_ (h.below C1.bel)
  have CH := hi_ (cH lsn w1 HL.out)
  have HQ := hi_ hq
  have c0 := C1.c0
  have c1 := C1.c1
  have c2 := C1.c2
  have c3 := C1.c3
  have c4 := C1.c4
  have K1 := hi_ C1
  have hz1 := Z1.lt
  have HZ := hi_ Z1
  obtain ⟨x, hx⟩ : ∃ x, x = cB (secAt l lsn) := ⟨_, rfl⟩
  rw [<- hx] at hh hp
  have HX := hi_ hx
  have HH := hi_ (hdT_yes hh)
  have HN : Hid (¬ BegQ l lsn s) := hi_ fun k => hp (by rw [hx]; exact k.2.2.1)
  obtain ⟨p, q, z, hT, hp0⟩ : ∃ p q z, hdT x = .tuple #[.int .i64 p, .int .i64 q, .int .i64 z, .bool true] /\ (p != 0) = true := ⟨_, _, _, HH.out, by simpa using hp⟩
  have HT := hi_ hT
  obtain ⟨E, hE⟩ : ∃ E, E = cE (secAt l lsn) := ⟨_, rfl⟩
  have HE := hi_ hE
  clear h C1 Z1 cH hq hh hx hT hE hp
  go_enter Tryz.func41, Tryz.ntmps41
  go_wp2_with (first
    | (rw [<- hw1]; clear hw1)
    | (go_at_call 54; refine CH.out.mono ?_; rintro e w2 hP; obtain ⟨A2, m2, c2', rfl, hr2, hm2⟩ := hP.1 HQ.out
       rw [<- HX.out] at hr2
       rw [<- HE.out]
       have B2 := hi_ (K1.out.bel.trans (hP.2.2.mono K1.out.bel.size))
       have Z2 := hi_ (HZ.out.below hP.2.2 hz1)
       have R2 := hi_ (And.intro hr2 (And.intro hm2.1 (And.intro hm2.2.1 (fun b o e h0 => (hm2.2.2 b o e h0 : w1.heap.size <= b)))))
       clear hP hr2 hm2)
    | (refine wpList_stseal rfl (.tmp 11) (.tmp 21) rfl rfl rfl (SealAt.new w2) ?_; intro w3 hS3 hB3 _
       have B3 := hi_ (B2.out.trans ((((Below.refl _ _).alloc (Nat.le_refl _) _).trans hB3).mono B2.out.size))
       have Z3 := hi_ ((Z2.out.alloc _).below hB3 Z2.out.lt)
       have R3 := hi_ (R2.out.1.below (Nat.le_refl _) (((Below.refl _ _).alloc (Nat.le_refl _) _).trans hB3))
       have k3 : w3.cell? ⟨w2.heap.size, 3, none⟩ = some (.slice A2 m2 c2') := cell_of_row _ _ _ _ _ _ hS3
       have S3 := hi_ hS3
       clear hB3 hS3)
    | (go_at_call 55; refine (PHead_any A2 m2 c2' x w3 R3.out R2.out.2.2.1 (by have := R2.out.2.1; omega)).mono ?_; rintro e w' ⟨he, hw'⟩; subst hw'; rw [HT.out] at he; subst he)
    | (refine wpList_stseal rfl (.tmp 8) (.tmp 45) rfl rfl rfl Z3.out ?_; intro w6 hS6 hB6 hE6))
  refine bodyPost_ret (res_seal_tmp2 rfl rfl hS6) rfl ?_
  exact ⟨fun k => absurd k HN.out, fun _ => rfl, B3.out.trans (hB6.mono (by omega))⟩
set_option maxHeartbeats 2000000 in
theorem beg_n3 {l : List (List UInt8)} (h : Log18 w A n ks K LA ln xs) (cH : LHasC lg pg en gn A n cap ks (K := K) LA ln lc xs l) (hq : HasQ l lsn) (hh : HdOk (cB (secAt l lsn))) (hp : plc (cB (secAt l lsn)) = 0) (hs : sqn (cB (secAt l lsn)) ≠ s) :
    Calls Tryz.prog 41 #[cv lg pg en gn A n cap, .slice LA ln lc, .int .i64 lsn, .int .i64 s] w (BegP l lsn s w) := by
  obtain ⟨w1, hw1, C1, Z1⟩ := box2 lg pg en gn A n cap ks w h.k
  have HL := hi_ (h.below C1.bel)
  have CH := hi_ (cH lsn w1 HL.out)
  have HQ := hi_ hq
  have c0 := C1.c0
  have c1 := C1.c1
  have c2 := C1.c2
  have c3 := C1.c3
  have c4 := C1.c4
  have K1 := hi_ C1
  have hz1 := Z1.lt
  have HZ := hi_ Z1
  obtain ⟨x, hx⟩ : ∃ x, x = cB (secAt l lsn) := ⟨_, rfl⟩
  rw [<- hx] at hh hp hs
  have HX := hi_ hx
  have HH := hi_ (hdT_yes hh)
  have HN : Hid (¬ BegQ l lsn s) := hi_ fun k => hs (by rw [hx]; exact k.2.2.2)
  obtain ⟨q, z, hT, hz0⟩ : ∃ q z, hdT x = .tuple #[.int .i64 0, .int .i64 q, .int .i64 z, .bool true] /\ (z != s) = true := ⟨_, _, by rw [HH.out, hp], by simpa using hs⟩
  have HT := hi_ hT
  obtain ⟨E, hE⟩ : ∃ E, E = cE (secAt l lsn) := ⟨_, rfl⟩
  have HE := hi_ hE
  clear h C1 Z1 cH hq hh hx hT hE hp hs
  go_enter Tryz.func41, Tryz.ntmps41
  go_wp2_with (first
    | (rw [<- hw1]; clear hw1)
    | (go_at_call 54; refine CH.out.mono ?_; rintro e w2 hP; obtain ⟨A2, m2, c2', rfl, hr2, hm2⟩ := hP.1 HQ.out
       rw [<- HX.out] at hr2
       rw [<- HE.out]
       have B2 := hi_ (K1.out.bel.trans (hP.2.2.mono K1.out.bel.size))
       have Z2 := hi_ (HZ.out.below hP.2.2 hz1)
       have R2 := hi_ (And.intro hr2 (And.intro hm2.1 (And.intro hm2.2.1 (fun b o e h0 => (hm2.2.2 b o e h0 : w1.heap.size <= b)))))
       clear hP hr2 hm2)
    | (refine wpList_stseal rfl (.tmp 11) (.tmp 21) rfl rfl rfl (SealAt.new w2) ?_; intro w3 hS3 hB3 _
       have B3 := hi_ (B2.out.trans ((((Below.refl _ _).alloc (Nat.le_refl _) _).trans hB3).mono B2.out.size))
       have Z3 := hi_ ((Z2.out.alloc _).below hB3 Z2.out.lt)
       have R3 := hi_ (R2.out.1.below (Nat.le_refl _) (((Below.refl _ _).alloc (Nat.le_refl _) _).trans hB3))
       have k3 : w3.cell? ⟨w2.heap.size, 3, none⟩ = some (.slice A2 m2 c2') := cell_of_row _ _ _ _ _ _ hS3
       have S3 := hi_ hS3
       clear hB3 hS3)
    | (go_at_call 55; refine (PHead_any A2 m2 c2' x w3 R3.out R2.out.2.2.1 (by have := R2.out.2.1; omega)).mono ?_; rintro e w' ⟨he, hw'⟩; subst hw'; rw [HT.out] at he; subst he)
    | (refine wpList_stseal rfl (.tmp 8) (.tmp 45) rfl rfl rfl Z3.out ?_; intro w6 hS6 hB6 hE6))
  refine bodyPost_ret (res_seal_tmp2 rfl rfl hS6) rfl ?_
  exact ⟨fun k => absurd k HN.out, fun _ => rfl, B3.out.trans (hB6.mono (by omega))⟩
set_option maxHeartbeats 2000000 in
theorem beg_yes {l : List (List UInt8)} (h : Log18 w A n ks K LA ln xs) (cH : LHasC lg pg en gn A n cap ks (K := K) LA ln lc xs l) (hq : HasQ l lsn) (hh : HdOk (cB (secAt l lsn))) (hp : plc (cB (secAt l lsn)) = 0) (hs : sqn (cB (secAt l lsn)) = s) :
    Calls Tryz.prog 41 #[cv lg pg en gn A n cap, .slice LA ln lc, .int .i64 lsn, .int .i64 s] w (BegP l lsn s w) := by
  obtain ⟨w1, hw1, C1, Z1⟩ := box2 lg pg en gn A n cap ks w h.k
  have HL := hi_ (h.below C1.bel)
  have CH := hi_ (cH lsn w1 HL.out)
  have HQ := hi_ hq
  have c0 := C1.c0
  have c1 := C1.c1
  have c2 := C1.c2
  have c3 := C1.c3
  have c4 := C1.c4
  have K1 := hi_ C1
  have hz1 := Z1.lt
  have HZ := hi_ Z1
  obtain ⟨x, hx⟩ : ∃ x, x = cB (secAt l lsn) := ⟨_, rfl⟩
  rw [<- hx] at hh hp hs
  have HX := hi_ hx
  have HH := hi_ (hdT_yes hh)
  have HY : Hid (BegQ l lsn s) := hi_ ⟨hq, by rw [<- hx]; exact hh, by rw [<- hx]; exact hp, by rw [<- hx]; exact hs⟩
  obtain ⟨q, hT, HQ2⟩ : ∃ q, hdT x = .tuple #[.int .i64 0, .int .i64 q, .int .i64 s, .bool true] /\ Hid (q = cnt x) := ⟨_, by rw [HH.out, hp, hs], hi_ rfl⟩
  have HT := hi_ hT
  obtain ⟨E, hE⟩ : ∃ E, E = cE (secAt l lsn) := ⟨_, rfl⟩
  have HE := hi_ hE
  clear h C1 Z1 cH hq hh hx hT hE hp hs
  go_enter Tryz.func41, Tryz.ntmps41
  go_wp2_with (first
    | (rw [<- hw1]; clear hw1)
    | (go_at_call 54; refine CH.out.mono ?_; rintro e w2 hP; obtain ⟨A2, m2, c2', rfl, hr2, hm2⟩ := hP.1 HQ.out
       rw [<- HX.out] at hr2
       rw [<- HE.out]
       have B2 := hi_ (K1.out.bel.trans (hP.2.2.mono K1.out.bel.size))
       have Z2 := hi_ (HZ.out.below hP.2.2 hz1)
       have R2 := hi_ (And.intro hr2 (And.intro hm2.1 (And.intro hm2.2.1 (fun b o e h0 => (hm2.2.2 b o e h0 : w1.heap.size <= b)))))
       clear hP hr2 hm2)
    | (refine wpList_stseal rfl (.tmp 11) (.tmp 21) rfl rfl rfl (SealAt.new w2) ?_; intro w3 hS3 hB3 _
       have B3 := hi_ (B2.out.trans ((((Below.refl _ _).alloc (Nat.le_refl _) _).trans hB3).mono B2.out.size))
       have Z3 := hi_ ((Z2.out.alloc _).below hB3 Z2.out.lt)
       have R3 := hi_ (R2.out.1.below (Nat.le_refl _) (((Below.refl _ _).alloc (Nat.le_refl _) _).trans hB3))
       have k3 : w3.cell? ⟨w2.heap.size, 3, none⟩ = some (.slice A2 m2 c2') := cell_of_row _ _ _ _ _ _ hS3
       have S3 := hi_ hS3
       clear hB3 hS3)
    | (go_at_call 55; refine (PHead_any A2 m2 c2' x w3 R3.out R2.out.2.2.1 (by have := R2.out.2.1; omega)).mono ?_; rintro e w' ⟨he, hw'⟩; subst hw'; rw [HT.out] at he; subst he)
    | (refine wpList_ldseal rfl (.tmp 11) rfl rfl S3.out ?_)
    | (refine wpList_stseal rfl (.tmp 8) (.tmp 46) rfl rfl rfl Z3.out ?_; intro w6 hS6 hB6 hE6))
  refine bodyPost_ret (res_seal_tmp2 rfl rfl hS6) rfl ?_
  refine ⟨fun _ => ⟨A2, m2, c2', ?_, ?_, R2.out.2.1, R2.out.2.2.1, fun b o e h0 => Nat.le_trans K1.out.bel.size (R2.out.2.2.2 b o e h0)⟩, fun k => absurd HY.out k, B3.out.trans (hB6.mono (by omega))⟩
  · rw [<- HX.out, <- HQ2.out, <- HE.out]
    rfl
  · rw [<- HX.out]
    by_cases h0 : 0 < m2
    · exact R3.out.block hB6.size fun b o e => hE6 b (by have h1 := R2.out.2.2.2 b o e h0; omega)
    · exact ⟨R3.out.1, fun h => absurd h h0⟩
theorem begins_any {l : List (List UInt8)} (h : Log18 w A n ks K LA ln xs) (cH : LHasC lg pg en gn A n cap ks (K := K) LA ln lc xs l) :
    Calls Tryz.prog 41 #[cv lg pg en gn A n cap, .slice LA ln lc, .int .i64 lsn, .int .i64 s] w (BegP l lsn s w) := by
  by_cases hq : HasQ l lsn
  · by_cases hh : HdOk (cB (secAt l lsn))
    · by_cases hp : plc (cB (secAt l lsn)) = 0
      · by_cases hs : sqn (cB (secAt l lsn)) = s
        · exact beg_yes lg pg en gn A n cap ks LA ln lc xs lsn s w h cH hq hh hp hs
        · exact beg_n3 lg pg en gn A n cap ks LA ln lc xs lsn s w h cH hq hh hp hs
      · exact beg_n2 lg pg en gn A n cap ks LA ln lc xs lsn s w h cH hq hh hp
    · exact beg_n1 lg pg en gn A n cap ks LA ln lc xs lsn s w h cH hq hh
  · exact beg_n0 lg pg en gn A n cap ks LA ln lc xs lsn s w h cH hq
end
def okF (b : List UInt8) : Prop := (frGet b).2 = 0
def RcQ (xs : List (List UInt8)) : Prop := (joinL xs).2.2 = true /\ okF (joinL xs).2.1
def RcP (xs : List (List UInt8)) (w : World) (e : Ending) (w' : World) : Prop :=
  (RcQ xs -> ∃ (A : Option Addr) (k c : Nat), e = .returned (.tuple #[.slice A k c, .bool true]) /\ Rd w' A k (joinL xs).2.1 /\ (k <= c /\ c <= maxLen /\ ∀ b o, A = some ⟨b, o, none⟩ -> 0 < k -> w.heap.size <= b)) /\
  (¬ RcQ xs -> e = .returned (.tuple #[.slice none 0 0, .bool false])) /\ Below w.heap.size w w'
theorem tails_le : ∀ (xs : List (List UInt8)), (∀ x ∈ xs, x.length <= 472) -> (tails xs).length <= 472 * xs.length
  | [], _ => by simp [tails]
  | x :: xs, h => by
    have ih := tails_le xs fun y hy => h y (List.mem_cons_of_mem _ hy)
    have h1 := h x List.mem_cons_self
    simp only [tails, List.map_cons, List.flatten_cons, List.length_append, List.length_drop, List.length_cons] at ih ⊢
    omega
theorem join_le {xs : List (List UInt8)} (h : ∀ x ∈ xs, x.length <= 472) : (joinL xs).2.1.length <= 472 * xs.length := by
  unfold joinL
  split
  · exact tails_le xs h
  · simp
set_option maxHeartbeats 2000000 in
theorem record_any {K : Nat -> Prop} (A : Option Addr) (n c : Nat) (xs : List (List UInt8)) (w : World) (h : PcsV K w A n xs) (hn : n <= 100) (hs : ∀ x ∈ xs, x.length <= 472) :
    Calls Tryz.prog 43 #[.slice A n c] w (RcP xs w) := by
  have CJ := hi_ (PJoin_any A n c xs w h hn (fun x hx => Nat.le_trans (hs x hx) (by omega)))
  have hle := join_le hs
  rw [h.len] at hle
  have HLE : Hid ((joinL xs).2.1.length <= 47200) := hi_ (by omega)
  obtain ⟨r, hr⟩ : ∃ r, r = joinL xs := ⟨_, rfl⟩
  have HQR : Hid (RcQ xs ↔ (r.2.2 = true /\ okF r.2.1)) := hi_ (by rw [hr]; exact Iff.rfl)
  have HR := hi_ hr
  rw [<- hr] at CJ HLE
  obtain ⟨z, b, ok⟩ := r
  simp only at CJ HLE HQR
  clear h hs hle hr
  cases ok
  · go_enter Tryz.func43, Tryz.ntmps43
    go_wp2_with (first
      | (go_at_call 56; refine CJ.out.mono ?_; rintro e w2 ⟨A2, n2, c2, rfl, hr2, hc2, hb2⟩
         have J2 := hi_ (And.intro (And.intro hr2 hc2) hb2)
         clear hr2 hc2 hb2))
    go_ret2
    exact ⟨fun k => absurd (HQR.out.1 k).1 (by simp), fun _ => rfl, J2.out.2⟩
  · by_cases hf : (frGet b).2 = 0
    · have HF := hi_ hf
      clear hf
      go_enter Tryz.func43, Tryz.ntmps43
      go_wp2_with (first
        | (go_at_call 56; refine CJ.out.mono ?_; rintro e w2 ⟨A2, n2, c2, rfl, hr2, hc2, hb2⟩
           have J2 := hi_ (And.intro (And.intro hr2 hc2) hb2)
           clear hr2 hc2 hb2)
        | (go_at_call 57; refine (FGet_ok A2 n2 c2 b w2 J2.out.1.1 (by have h1 := J2.out.1.1.1; have h2 := HLE.out; omega) J2.out.1.2.1 J2.out.1.2.2.1).mono ?_; rintro e w3 ⟨A3, n3, c3, rfl, _, _, hb3⟩
           have G3 := hi_ hb3
           rw [HF.out]
           clear hb3))
      go_ret2
      exact ⟨fun _ => ⟨A2, n2, c2, rfl, by rw [<- HR.out]; exact J2.out.1.1.below (Nat.le_refl _) G3.out, J2.out.1.2⟩, fun k => absurd (HQR.out.2 (And.intro (by trivial) HF.out)) k, J2.out.2.trans (G3.out.mono J2.out.2.size)⟩
    · have HF := hi_ hf
      have hf2 : ((frGet b).2 != 0) = true := by simpa using hf
      obtain ⟨fe, hfe⟩ : ∃ fe, fe = (frGet b).2 := ⟨_, rfl⟩
      rw [<- hfe] at hf2
      have HFE := hi_ hfe
      clear hf hfe
      go_enter Tryz.func43, Tryz.ntmps43
      go_wp2_with (first
        | (go_at_call 56; refine CJ.out.mono ?_; rintro e w2 ⟨A2, n2, c2, rfl, hr2, hc2, hb2⟩
           have J2 := hi_ (And.intro (And.intro hr2 hc2) hb2)
           clear hr2 hc2 hb2)
        | (go_at_call 57; refine (FGet_ok A2 n2 c2 b w2 J2.out.1.1 (by have h1 := J2.out.1.1.1; have h2 := HLE.out; omega) J2.out.1.2.1 J2.out.1.2.2.1).mono ?_; rintro e w3 ⟨A3, n3, c3, rfl, _, _, hb3⟩
           have G3 := hi_ hb3
           rw [<- HFE.out]
           clear hb3))
      go_ret2
      exact ⟨fun k => absurd (HQR.out.1 k).2 HF.out, fun _ => rfl, J2.out.2.trans (G3.out.mono J2.out.2.size)⟩
end Go.Proofs.YthabmlbmlncbmaaGreat
namespace Go.Proofs.YthabmlbmlncbmaaGreat
open Go.RowKit
set_option linter.unusedVariables false
set_option maxRecDepth 20000
def AllQ (l : List (List UInt8)) (q o : Int) (m : Nat) : Prop := ∀ i : Nat, i < m -> HasQ l (q + i) /\ cE (secAt l (q + i)) = o
def PcP (l : List (List UInt8)) (q o : Int) (m : Nat) (w : World) (e : Ending) (w' : World) : Prop :=
  (AllQ l q o m -> ∃ (A : Option Addr) (c : Nat), e = .returned (.tuple #[.slice A m c, .bool true]) /\ PcsV (fun _ => True) w' A m (bodies l q m)) /\
  (¬ AllQ l q o m -> e = .returned (.tuple #[.slice none 0 0, .bool false])) /\ Below w.heap.size w w'
theorem AllQ.succ {l : List (List UInt8)} {q o : Int} {j : Nat} (h : AllQ l q o j) (h1 : HasQ l (q + (j : Nat))) (h2 : cE (secAt l (q + (j : Nat))) = o) : AllQ l q o (j + 1) := fun i hi => by
  by_cases hij : i < j
  · exact h i hij
  · obtain rfl : i = j := by omega
    exact ⟨h1, h2⟩
theorem boxPc {lg pg en gn : Int} {A : Option Addr} {n cap : Nat} {ks : List Kd} (o q : Int) (BA : Option Addr) (bm bc : Nat) (w : World) (h : KRd w A n ks) :
    ∃ w1, w1 = (w.alloc (.cells (cc lg pg en gn A n cap) 24)).alloc (.cells #[.int .i64 o, .int .i64 q, .int .i64 1, .slice BA bm bc] 70) /\ CAt w w1 w.heap.size lg pg en gn A n cap ks /\ SealAt w1 (w.heap.size + 1) o q 1 BA bm bc := by
  refine ⟨_, rfl, (CAt.new h lg pg en gn cap).next ((Below.refl _ _).alloc (Nat.le_refl _) _), ?_⟩
  have := SealAt.new (e := o) (n := q) (k := 1) (A := BA) (m := bm) (c := bc) (w.alloc (.cells (cc lg pg en gn A n cap) 24))
  rwa [World.size_alloc] at this
section
variable (lg pg en gn : Int) (A : Option Addr) (n cap : Nat) (ks : List Kd) {K : Nat -> Prop} (LA : Option Addr) (ln lc : Nat) (xs : List (List UInt8)) (w : World)
set_option maxHeartbeats 2000000 in
theorem pieces_any {l : List (List UInt8)} {q o : Int} {m : Nat} {BA : Option Addr} {bm bc : Nat} (h : Log18 w A n ks K LA ln xs) (cH : LHasC lg pg en gn A n cap ks (K := K) LA ln lc xs l) (hq : HasQ l q) (ho : cE (secAt l q) = o) (hm : 1 <= m /\ m <= 1024) (hr : Rd w BA bm (cB (secAt l q))) (hbm : bm <= bc) (hl : l.length <= 100) :
    Calls Tryz.prog 42 #[cv lg pg en gn A n cap, .slice LA ln lc, .agg #[.int .i64 o, .int .i64 q, .int .i64 1, .slice BA bm bc], .int .i64 (m : Int)] w (PcP l q o m w) := by
  obtain ⟨w1, hw1, C1, Z1⟩ := boxPc (lg := lg) (pg := pg) (en := en) (gn := gn) (cap := cap) o q BA bm bc w h.k
  have HL := hi_ (h.below C1.bel)
  have CH := hi_ cH
  have hqr : 0 <= q /\ q <= 281474976710656 := hq.1
  obtain ⟨vs0, D0, hP0⟩ := PcG.lit (hr.below (Nat.le_refl _) C1.bel) hbm
  have HP0 := hi_ hP0
  have A0 : Hid (AllQ l q o 1) := hi_ fun i hi => by
    obtain rfl : i = 0 := by omega
    rw [Int.natCast_zero, Int.add_zero]
    exact ⟨hq, ho⟩
  have kz3 : w1.cell? ⟨w.heap.size + 1, 3, none⟩ = some (.slice BA bm bc) := cell_of_row _ _ _ _ _ _ Z1
  have K1 := hi_ C1
  have HZ := hi_ Z1
  have HQL : Hid (l.length <= 100) := hi_ hl
  have hm1 := hm.1
  have hm2 := hm.2
  clear h C1 Z1 cH hq ho hr hP0 hbm hm hl
  go_enter Tryz.func42, Tryz.ntmps42
  go_wp2_with (rw [<- hw1]; clear hw1)
  have I0 : Hid (PcG w1 (w1.alloc (.cells #[.slice BA bm bc] 42)) (.slice (some ⟨w1.heap.size, 0, none⟩) 1 1) (bodies l q 1) vs0 D0) := hi_ (by rw [bodies_one]; exact HP0.out)
  clear kz3
  go_loopw [10, 11] (fun lv iv wr => ∃ (j : Nat) (vs : List Value) (D : Nat -> Prop), 1 <= j /\ j <= m /\ iv = .int .i64 j /\ Hid (PcG w1 wr lv (bodies l q j) vs D) /\ Hid (AllQ l q o j)) (fun _ iv _ => m - (intOf iv).toNat)
  case atStart => exact ⟨1, vs0, D0, Nat.le_refl _, hm1, rfl, I0, A0⟩
  case round =>
    obtain ⟨j, vs, D, hj1, hj, rfl, HI, HA⟩ := hrel
    have hj100 : j <= 100 := Nat.le_trans (HasQ_len fun i hi => (HA.out i hi).1) HQL.out
    by_cases hjm : j < m
    · have CW := CH.out (q + (j : Nat)) wr (HL.out.below HI.out.bel)
      have KW := hi_ (K1.out.next HI.out.bel)
      have kc0 := KW.out.c0
      have kc1 := KW.out.c1
      have kc2 := KW.out.c2
      have kc3 := KW.out.c3
      have kc4 := KW.out.c4
      have ZW := hi_ (HZ.out.below HI.out.bel HZ.out.lt)
      have z0 : wr.cell? ⟨w.heap.size + 1, 0, none⟩ = some (.int .i64 o) := cell_of_row _ _ _ _ _ _ ZW.out
      have z1 : wr.cell? ⟨w.heap.size + 1, 1, none⟩ = some (.int .i64 q) := cell_of_row _ _ _ _ _ _ ZW.out
      obtain ⟨qj, hqj⟩ : ∃ qj, qj = q + (j : Int) := ⟨_, rfl⟩
      rw [<- hqj] at CW
      have hq0 : q + (j : Int) = qj := hqj.symm
      have hwz : wrap64 qj = qj := by unfold wrap64; omega
      have hwz2 : IntKind.i64.wrap qj = qj := by rw [wrapEq]; exact hwz
      have HQJ := hi_ hqj
      have CW' := hi_ CW
      have HB := hi_ HI.out.bel.size
      clear CW hqj
      by_cases h1 : HasQ l qj
      · obtain ⟨E, hE⟩ : ∃ E, E = cE (secAt l qj) := ⟨_, rfl⟩
        have HE := hi_ hE
        have H1 := hi_ h1
        by_cases h2 : E = o
        · have f2 : (E != o) = false := by simp [h2]
          have HEO := hi_ h2
          clear h1 h2 hE
          go_wp2_with (first
            | (go_at_call 54; refine CW'.out.mono ?_; rintro e w2 hP; obtain ⟨A2, m2, c2', rfl, hr2, hm2⟩ := hP.1 H1.out
               rw [<- HE.out]
               have B2 := hi_ hP.2.2
               have Z2 := ZW.out.below hP.2.2 ZW.out.lt
               have R2 := hi_ (And.intro hr2 hm2)
               have ZZ2 := hi_ Z2
               clear hP hr2 hm2 Z2)
            | (refine wpList_stseal rfl (.tmp 12) (.tmp 30) rfl rfl rfl (SealAt.new w2) ?_; intro w6 hS6 hB6 _
               have hb6 : Below wr.heap.size wr w6 := B2.out.trans ((((Below.refl _ _).alloc (Nat.le_refl _) _).trans hB6).mono B2.out.size)
               have zz0 : w6.cell? ⟨w.heap.size + 1, 0, none⟩ = some (.int .i64 o) := cell_of_row _ _ _ _ _ _ ((ZZ2.out.alloc _).below hB6 ZZ2.out.lt)
               have k0 : w6.cell? ⟨w2.heap.size, 0, none⟩ = some (.int .i64 E) := cell_of_row _ _ _ _ _ _ hS6
               have k3 : w6.cell? ⟨w2.heap.size, 3, none⟩ = some (.slice A2 m2 c2') := cell_of_row _ _ _ _ _ _ hS6
               have hr6 := R2.out.1.below (Nat.le_refl _) (((Below.refl _ _).alloc (Nat.le_refl _) _).trans hB6)
               have R6 := hi_ (And.intro (hi_ hb6).out (And.intro (hi_ hr6) (And.intro R2.out.2.2.1 (fun b o e h0 => (Or.inr (R2.out.2.2.2 b o e h0) : b < w1.heap.size \/ wr.heap.size <= b)))))
               clear hb6 hr6 hB6 hS6)
            | (at_builtin; have _t := R6; refine wpList_appX (K := fun y => w6.heap.size <= y) rowsT rfl (.tmp 41) (.tmp 44) rfl w1.heap.size _ j vs rfl (by have := HI.out.own (cs := #[.slice A2 m2 c2']) (t := 42) R6.out.1; rw [bodies_len] at this; exact this) (some ⟨w6.heap.size, 0, none⟩) 1 1 [.slice A2 m2 c2'] rfl (VRow.new w6 #[.slice A2 m2 c2'] _ 1 1 rfl) (fun u hu => by simp at hu; rw [hu]; rfl) (by omega) (by decide) (by simp; exact Nat.le_succ_of_le (HI.out.bel.trans (R6.out.1.mono HB.out)).size) ?_; intro v9 w9 ho9 hg9 hv9
               have O9 := hi_ (And.intro (show w9.ownsRow w1.heap.size 42 1 v9 ((bodies l q j).length + 1) (vs ++ [.slice A2 m2 c2']) from by rw [bodies_len]; exact ho9) (And.intro hg9 hv9))
               clear ho9 hg9 hv9))
          go_roundw
          case rel =>
            obtain ⟨vs', D', h'⟩ := HI.out.put (x := cB (secAt l qj)) R6.out.1 R6.out.2.1.out R6.out.2.2.1 R6.out.2.2.2 O9.out.1 O9.out.2.1 O9.out.2.2
            exact ⟨j + 1, vs', D', by omega, hjm, by go_num, hi_ (by rw [bodies_succ, <- HQJ.out]; exact h'), hi_ (HA.out.succ (by rw [<- HQJ.out]; exact H1.out) (by rw [<- HQJ.out, <- HE.out]; exact HEO.out))⟩
          case measure => simp [intOf]; omega
        · have f2 : (E != o) = true := by simpa using h2
          have HN : Hid (¬ AllQ l q o m) := hi_ fun k => h2 (by rw [hE, HQJ.out]; exact (k j hjm).2)
          clear h1 h2 hE
          go_wp2_with (first
            | (go_at_call 54; refine CW'.out.mono ?_; rintro e w2 hP; obtain ⟨A2, m2, c2', rfl, hr2, hm2⟩ := hP.1 H1.out
               rw [<- HE.out]
               have B2 := hi_ hP.2.2
               have Z2 := ZW.out.below hP.2.2 ZW.out.lt
               have R2 := hi_ (And.intro hr2 hm2)
               have ZZ2 := hi_ Z2
               clear hP hr2 hm2 Z2)
            | (refine wpList_stseal rfl (.tmp 12) (.tmp 30) rfl rfl rfl (SealAt.new w2) ?_; intro w6 hS6 hB6 _
               have hb6 : Below wr.heap.size wr w6 := B2.out.trans ((((Below.refl _ _).alloc (Nat.le_refl _) _).trans hB6).mono B2.out.size)
               have zz0 : w6.cell? ⟨w.heap.size + 1, 0, none⟩ = some (.int .i64 o) := cell_of_row _ _ _ _ _ _ ((ZZ2.out.alloc _).below hB6 ZZ2.out.lt)
               have k0 : w6.cell? ⟨w2.heap.size, 0, none⟩ = some (.int .i64 E) := cell_of_row _ _ _ _ _ _ hS6
               have R6 := hi_ (K1.out.bel.trans ((HI.out.bel.trans (hb6.mono HI.out.bel.size)).mono K1.out.bel.size))
               clear hb6 hB6 hS6))
          go_ret2
          exact ⟨fun k => absurd k HN.out, fun _ => rfl, R6.out⟩
      · have HN : Hid (¬ AllQ l q o m) := hi_ fun k => h1 (by rw [HQJ.out]; exact (k j hjm).1)
        have H1 := hi_ h1
        clear h1
        go_wp2_with (first
          | (go_at_call 54; refine CW'.out.mono ?_; rintro e w2 hP; obtain rfl := hP.2.1 H1.out
             have B2 := hi_ hP.2.2
             have ZZ2 := hi_ (ZW.out.below hP.2.2 ZW.out.lt)
             clear hP)
          | (refine wpList_stseal rfl (.tmp 12) (.tmp 30) rfl rfl rfl (SealAt.new w2) ?_; intro w6 hS6 hB6 _
             have hb6 : Below wr.heap.size wr w6 := B2.out.trans ((((Below.refl _ _).alloc (Nat.le_refl _) _).trans hB6).mono B2.out.size)
             have zz0 : w6.cell? ⟨w.heap.size + 1, 0, none⟩ = some (.int .i64 o) := cell_of_row _ _ _ _ _ _ ((ZZ2.out.alloc _).below hB6 ZZ2.out.lt)
             have R6 := hi_ (K1.out.bel.trans ((HI.out.bel.trans (hb6.mono HI.out.bel.size)).mono K1.out.bel.size))
             clear hb6 hB6 hS6))
        go_ret2
        exact ⟨fun k => absurd k HN.out, fun _ => rfl, R6.out⟩
    · obtain rfl : j = m := by omega
      go_wp2
      go_ret2
      obtain ⟨A9, c9, he, _, _, hv9⟩ := HI.out.done
      rw [bodies_len] at he hv9
      exact ⟨fun _ => ⟨A9, c9, by rw [he]; rfl, hv9⟩, fun k => absurd HA.out k, K1.out.bel.trans (HI.out.bel.mono K1.out.bel.size)⟩
end
end Go.Proofs.YthabmlbmlncbmaaGreat
