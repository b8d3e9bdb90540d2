/- EcH, BitsHa, EcI, EcJ, EcS, EcVc -/
import Derived.Test.YtaoinkjjmakhaaaGreatDoorQl1
import Derived.Test.YtaoinkjjmakhaaaGreatDoorQl2
import Derived.Test.YtaoinkjjmakhaaaGreatDoorQl5
import Derived.Test.YtaoinkjjmakhaaaGreatDoorQl11
import Derived.Test.YtaoinkjjmakhaaaGreatDoorQl12
import Derived.Test.YtaoinkjjmakhaaaGreatDoorQl15
import Derived.Laws.BitsAllLaws
import Derived.Laws.Bits128
import Derived.Deep.WholeRow
import Derived.Shelf.SlSortCmp.NoneTotal
namespace Go.Proofs.YtaoinkjjmakhaaaGreatDoor
open Go.RowKit
set_option maxRecDepth 20000
section
variable {w : World} {N : Nat} {gr : Nat -> Nat} {x : Fx} {k : Ks} {c : Nat} {pt : Nat -> Nat}
theorem CoJ.take (h : CoJ 0 w N gr x k c pt) : Calls Tryz.prog 57 #[.pointer (some ⟨x.pi, 0, none⟩)] w fun e w' => e = .returned (.tuple #[.agg #[.int .i64 k.ns.take.2.1.1, .int .i64 k.ns.take.2.1.2], .int .i64 k.ns.take.2.2]) /\ ∃ gr', CoJ 0 w' N gr' x { k with ns := k.ns.take.1 } c pt /\ TGo w gr w' gr' := by
 obtain ⟨gv, av, fv, I⟩ := h.ids (by decide)
 refine (Take_any (fun y hy => h.dom y (by rw [show gr y = 4 from hy]; decide)) I).mono ?_
 rintro e w' ⟨rfl, hG⟩
 exact ⟨rfl, h.ids_go hG⟩
theorem CoJ.node (h : CoJ 0 w N gr x k c pt) (s : Nat) (hs : s < 18446744073709551616) (hpos : 0 < k.S.length) (hS : k.S.length <= 1000000) :
  Calls Tryz.prog 59 #[.pointer (some ⟨x.pg, 0, none⟩), .int .u64 s] w fun e w' => e = .returned (.int .i64 ((gNode k.S s).2 : Nat)) /\ ∃ gr', CoJ 0 w' N gr' x { k with S := (gNode k.S s).1 } c pt /\ TGo w gr w' gr' := by
 obtain ⟨sv, ed, b, hb, hG⟩ := h.gph (by decide)
 refine (Node_any (fun y hy => h.dom y (by rw [show gr y = 5 from hy]; decide)) hG s hs hpos hS).mono ?_
 rintro e w' ⟨rfl, hGo⟩
 exact ⟨rfl, h.gph_go ⟨ed, hGo⟩ (fun i t => gNode_keeps s) (Nat.le_refl _) hb⟩
def Ks.spawn (k : Ks) (x : Fx) : Ks :=
 let k2 : Ks := { k with ns := k.ns.take.1, S := (gNode k.S 0).1 }
 k2.put k.ns.take.2.1 (gNode k.S 0).2 (k2.tab x (gNode k.S 0).2 0) []
theorem espawn_yes (h : CoJ 0 w N gr x k c pt) (hT : TabN N w) (hc : c <= 90000) (hks : x.n <= 1000000) (hpos : 0 < k.S.length) (hS : k.S.length <= 1000000) (he : k.ns.take.2.2 = 0) (hw : okE k.ns.take.2.1) :
  Calls Tryz.prog 23 #[.pointer (some ⟨x.p, 0, none⟩)] w fun e w' => e = .returned (.tuple #[.agg #[.int .i64 k.ns.take.2.1.1, .int .i64 k.ns.take.2.1.2], .int .i64 0]) /\ ∃ gr' pt', CoJ 0 w' N gr' x (k.spawn x) (c + 2) pt' /\ TGo w gr w' gr' := by
 obtain ⟨w1, hw1⟩ : ∃ w1, w1 = w.alloc (.cells #[.int .i64 0, .int .i64 0] 32) := ⟨_, rfl⟩
 have hb1 : Below w.heap.size w w1 := by rw [hw1]; exact (Below.refl _ _).alloc (Nat.le_refl _) _
 have r1 : Rec 32 w1 w.heap.size #[.int .i64 0, .int .i64 0] := by rw [hw1]; exact Rec.new w _ _
 have h1 := h.below hb1
 have c5 := h1.c5
 have hz : ∀ y, w.heap.size <= y -> gr y = 0 := fun y hy => Classical.byContradiction fun hh => by have := h.dom y hh; omega
 have CT := h1.take
 obtain ⟨i, g, hid⟩ : ∃ i g, k.ns.take.2.1 = (i, g) := ⟨_, _, rfl⟩
 rw [he] at CT
 simp only [hid] at CT
 rw [hid] at hw
 have CT := hi_ CT
 have H1 := hi_ (And.intro h1 (And.intro r1 (And.intro hb1 (And.intro hz h))))
 have HN := hi_ (And.intro hT (And.intro hc (And.intro hks (And.intro hpos (And.intro hS hw)))))
 have HID := hi_ hid
 simp only [hid]
 clear h h1 r1 hb1 hz hT hc hks hpos hS he hw hid
 go_enter Tryz.func23, Tryz.ntmps23
 go_upto_region 6 with (first
  | (rw [<- hw1]; clear hw1)
  | (go_at_call 57; refine CT.out.mono ?_; rintro e w2 ⟨rfl, gr2, h2, hG2⟩; obtain ⟨w3, hw3⟩ : ∃ w3, w3 = w2.alloc (.cells #[.int .i64 0, .int .i64 0] 32) := ⟨_, rfl⟩; have R3 := hi_ (show Rec 32 w3 w2.heap.size #[.int .i64 0, .int .i64 0] by rw [hw3]; exact Rec.new w2 _ _); have HB3 := hi_ (show Below w2.heap.size w2 w3 by rw [hw3]; exact (Below.refl _ _).alloc (Nat.le_refl _) _); have H2 := hi_ (And.intro h2 hG2); clear h2 hG2 c5)
  | (rw [<- hw3]; clear hw3)
  | ((with_reducible refine wpList_stP rfl (.tmp 4) (.tmp 15) rfl rfl rfl R3.out ?_); intro w4 hR4 hF4; have HR4 := hi_ (And.intro hR4 hF4); clear hR4 hF4))
 obtain ⟨h1, r1, hb1, hz, h⟩ := H1.out
 obtain ⟨h2, hG2⟩ := H2.out
 obtain ⟨hR4, hF4⟩ := HR4.out
 have hb4 : Below w2.heap.size w2 w4 := HB3.out.trans (hF4.toBelow (fun y hy => by rw [show y = w2.heap.size from hy]; exact Nat.le_refl _) HB3.out.size)
 have h4 := h2.below hb4
 have hG4 : TGo w gr w4 gr2 := (TGo.ofBelow hb1).trans (hG2.trans (TGo.ofBelow hb4))
 have r4 : Rec 32 w4 w.heap.size #[.int .i64 0, .int .i64 0] := (r1.tgo hG2 (hz _ (Nat.le_refl _))).under hb4
 obtain ⟨hT, hc, hks, hpos, hS, hw⟩ := HN.out
 have h4d := h4.below (Below.refl _ _).drew
 have hG4d : TGo w gr w4.drew gr2 := hG4.trans (TGo.ofBelow (Below.refl _ _).drew)
 have hlt0 : w.heap.size < w1.heap.size := r1.lt
 have hs12 := hG2.fr.size
 have CN := h4d.node 0 (by decide) hpos hS
 have CA : Hid (∀ W gr5, CoJ 0 W N gr5 x { k with ns := k.ns.take.1, S := (gNode k.S 0).1 } c pt -> TGo w4.drew gr2 W gr5 -> (W.cell? ⟨x.p, 6, none⟩ = some (.pointer (some ⟨x.pg, 0, none⟩)) /\ W.cell? ⟨w2.heap.size, 0, none⟩ = some (.int .i64 i) /\ W.cell? ⟨w2.heap.size, 1, none⟩ = some (.int .i64 g)) /\ Calls Tryz.prog 58 #[.pointer (some ⟨x.p, 0, none⟩), .agg #[.int .i64 i, .int .i64 g], .int .i64 ((gNode k.S 0).2 : Nat), .slice none 0 0] W fun e w' => e = .returned (.tuple #[]) /\ (∃ gr' pt', CoJ 0 w' N gr' x (k.spawn x) (c + 2) pt' /\ TGo w gr w' gr' /\ gr' w.heap.size = 0 /\ gr' w2.heap.size = 0) /\ (w'.cell? ⟨x.p, 6, none⟩ = some (.pointer (some ⟨x.pg, 0, none⟩)) /\ w'.cell? ⟨w2.heap.size, 0, none⟩ = some (.int .i64 i) /\ w'.cell? ⟨w2.heap.size, 1, none⟩ = some (.int .i64 g)) /\ Rec 32 w' w2.heap.size #[.int .i64 i, .int .i64 g] /\ Rec 32 w' w.heap.size #[.int .i64 0, .int .i64 0]) := hi_ (fun W gr5 h5 hG5 => by
  have z2 : gr2 w2.heap.size = 0 := Classical.byContradiction fun hh => by have := h2.dom _ hh; omega
  have z0 : gr2 w.heap.size = 0 := hG2.gr0 (hz _ (Nat.le_refl _)) hlt0
  have l2 : w2.heap.size < w4.drew.heap.size := hR4.lt
  have l0 : w.heap.size < w4.drew.heap.size := r4.lt
  have rW : Rec 32 W w2.heap.size #[.int .i64 i, .int .i64 g] := Rec.tgo (w := w4.drew) hR4 hG5 z2
  have rW0 : Rec 32 W w.heap.size #[.int .i64 0, .int .i64 0] := Rec.tgo (w := w4.drew) r4 hG5 z0
  refine ⟨⟨h5.c6, rW.at_ 0, rW.at_ 1⟩, ?_⟩
  have hG05 := hG4d.trans hG5
  have hat := gNode_at k.S 0
  have hln : (gNode k.S 0).2 < (gNode k.S 0).1.length := (List.getElem?_eq_some_iff.1 hat).1
  have hll := (gNode_len k.S 0).1
  refine (eadd_any h5 (hT.go h hG05) (by omega) hw (n := (gNode k.S 0).2) (by unfold okN; omega) hat (by decide) (Nat.zero_and _) hks (PartsV.nil (fun _ => False) W none) (fun y hy => hy.elim) (by decide) 0).mono ?_
  rintro e w' ⟨rfl, gr', pt', h', hG'⟩
  have z5 := hG5.gr0 z2 l2
  have z50 := hG5.gr0 z0 l0
  refine ⟨rfl, ⟨gr', pt', ?_, hG05.trans hG', hG'.gr0 z50 rW0.lt, hG'.gr0 z5 rW.lt⟩, ⟨h'.c6, (rW.tgo hG' z5).at_ 0, (rW.tgo hG' z5).at_ 1⟩, rW.tgo hG' z5, rW0.tgo hG' z50⟩
  unfold Ks.spawn
  rw [HID.out]
  exact h')
 have s4 : w4.drew.cell? ⟨x.p, 6, none⟩ = some (.pointer (some ⟨x.pg, 0, none⟩)) /\ w4.drew.cell? ⟨w2.heap.size, 0, none⟩ = some (.int .i64 i) /\ w4.drew.cell? ⟨w2.heap.size, 1, none⟩ = some (.int .i64 g) := ⟨h4d.c6, hR4.at_ 0, hR4.at_ 1⟩
 obtain ⟨n2, hn2⟩ : ∃ n2 : Nat, n2 = (gNode k.S 0).2 := ⟨_, rfl⟩
 rw [<- hn2] at CN CA
 have CN := hi_ CN
 clear h1 r1 hb1 hz h h2 hG2 hR4 hF4 hb4 h4 hG4 r4 hT hc hks hpos hS hw h4d hG4d hlt0 hs12 hn2
 refine wp_region_noPanic ?_
 refine wp_region_held_drew (S := fun W => W.cell? ⟨x.p, 6, none⟩ = some (.pointer (some ⟨x.pg, 0, none⟩)) /\ W.cell? ⟨w2.heap.size, 0, none⟩ = some (.int .i64 i) /\ W.cell? ⟨w2.heap.size, 1, none⟩ = some (.int .i64 g)) (by kernel_rfl) s4 (fun hHeld => ?_)
 refine tk_ 0 ⟨some 21, .move (.tmp 0), 29, "ecs.go:95", #[], none⟩ hHeld ?_
 simp only [Act.put, sA_, sB_, sC_]
 refine tk_ 1 ⟨some 22, .load 32 (.tmp 4), 32, "ecs.go:95", #[], none⟩ hHeld ?_
 simp only [Act.put, sA_, sB_, sC_]
 refine tk_ 2 ⟨some 23, .move (.tmp 0), 29, "ecs.go:95", #[], none⟩ hHeld ?_
 simp only [Act.put, sA_, sB_, sC_]
 refine tk_ 3 ⟨some 24, .nilCheck (.tmp 23), 0, "ecs.go:95", #[⟨2, .data⟩], none⟩ hHeld ?_
 simp only [Act.put, sA_, sB_, sC_]
 refine tk_ 4 ⟨some 25, .fieldAddr 82 (.tmp 24) 2, 0, "ecs.go:95", #[⟨3, .data⟩], none⟩ hHeld ?_
 simp only [Act.put, sA_, sB_, sC_]
 refine tk_ 5 ⟨some 26, .load 78 (.tmp 25), 78, "ecs.go:95", #[⟨4, .data⟩], none⟩ hHeld ?_
 simp only [Act.put, sA_, sB_, sC_]
 refine wpAnyH_ready (rs := [6]) (by kernel_rfl) (by simp) ?_
 refine AllReadyH.cons (o := ⟨some 27, .call { callee := .value (.func 59), args := #[.tmp 26, .const (.int .u64 0)], argTypes := #[78, 68] }, 3, "ecs.go:95", #[⟨5, .data⟩], none⟩) rfl (fun K' hK => ?_) AllReadyH.nil
 go_simp
 go_at_call 59; refine CN.out.mono ?_; rintro e w5 ⟨rfl, gr5, h5, hG5⟩
 obtain ⟨s5, CB⟩ := CA.out w5 gr5 h5 hG5
 have CB := hi_ CB
 clear h5 hG5
 refine hK.out _ _ s5 (fun hHeld => ?_)
 clear hK K'
 try simp only [Act.put, sA_, sB_, sC_]
 refine wpAnyH_ready (rs := [7]) (by kernel_rfl) (by simp) ?_
 refine AllReadyH.cons (o := ⟨some 28, .call { callee := .value (.func 58), args := #[.tmp 21, .tmp 22, .tmp 27, .const (.slice none 0 0)], argTypes := #[29, 32, 3, 91] }, 0, "ecs.go:95", #[⟨0, .data⟩, ⟨1, .data⟩, ⟨6, .data⟩, ⟨6, .chain⟩], none⟩) rfl (fun K' hK => ?_) AllReadyH.nil
 go_simp
 go_at_call 58; refine CB.out.mono ?_; rintro e w6 ⟨rfl, hX, s6, r6, r60⟩
 have HX := hi_ (And.intro hX (And.intro r6 r60))
 clear hX r6 r60
 refine hK.out _ _ s6 (fun hHeld => ?_)
 clear hK K'
 try simp only [Act.put]
 refine wpAnyH_done (by kernel_rfl) ?_ _
 refine NoPanic.normal ?_
 clear s4 s5 s6 hHeld
 go_wp2_with (first
  | (with_reducible refine wpList_ldP rfl (.tmp 4) rfl rfl HX.out.2.1 ?_)
  | ((with_reducible refine wpList_stP rfl (.tmp 2) (.tmp 29) rfl rfl rfl HX.out.2.2 ?_); intro w7 hR7 hF7))
 refine bodyPost_ret (res_ct rfl rfl (hR7.load idT rfl)) rfl ?_
 obtain ⟨⟨gr', pt', h', hG', z, _⟩, r6, r60⟩ := HX.out
 refine ⟨rfl, gr', ⟨pt', h'.kept hF7 (fun y hy e => hy (by rw [show y = w.heap.size from e]; exact z))⟩, hG'.more hF7 (fun y hy => .inr (by rw [show y = w.heap.size from hy]; exact Nat.le_refl _))⟩
end
end Go.Proofs.YtaoinkjjmakhaaaGreatDoor
namespace Go.Proofs.YtaoinkjjmakhaaaGreatDoor
open Go.RowKit
theorem Has_any (s : Nat) (c : Int) (w : World) (hs : s < 18446744073709551616) :
  Calls Tryz.prog 62 #[.int .u64 s, .int .i64 c] w fun e w' => e = .returned (.bool (decide (0 <= c /\ c < 64 /\ s.testBit c.toNat = true))) /\ Below w.heap.size w w' := by
 obtain ⟨w1, hw1⟩ : ∃ w1, w1 = w.alloc (.cells #[.int .i64 c] 3) := ⟨_, rfl⟩
 have hB : Below w.heap.size w w1 := by rw [hw1]; exact (Below.refl _ _).alloc (Nat.le_refl _) _
 have C := hi_ (Of_any (some ⟨w.heap.size, 0, none⟩) 1 1 [c] w1 (by rw [hw1]; exact one_ird w c) (by decide))
 have hA := hi_ (Apart_any s (orL [c]) w1 hs (orL_lt _))
 rw [hasN] at hA
 have HB := hi_ hB
 obtain ⟨o, ho⟩ : ∃ o, o = orL [c] := ⟨_, rfl⟩
 rw [<- ho] at C hA
 obtain ⟨q, hq⟩ : ∃ q, q = decide (0 <= c /\ c < 64 /\ s.testBit c.toNat = true) := ⟨_, rfl⟩
 rw [<- hq] at hA ⊢
 clear hB ho hq
 go_enter Tryz.func62, Tryz.ntmps62
 go_wp2_with (rw [<- hw1]; clear hw1)
 refine C.out.mono ?_
 rintro e w' ⟨rfl, rfl⟩
 go_wp2_with fail
 refine hA.out.mono ?_
 rintro e w' ⟨rfl, rfl⟩
 go_wp2
 go_ret
 exact ⟨by simp, HB.out⟩
end Go.Proofs.YtaoinkjjmakhaaaGreatDoor
namespace Go.Proofs.YtaoinkjjmakhaaaGreatDoor
open Go.RowKit
set_option maxRecDepth 20000
theorem id_start (w : World) (i g : Int) : ∃ w1, w1 = w.alloc (.cells #[.int .i64 i, .int .i64 g] 32) /\ Below w.heap.size w w1 /\ Rec 32 w1 w.heap.size #[.int .i64 i, .int .i64 g] := ⟨_, rfl, (Below.refl _ _).alloc (Nat.le_refl _) _, Rec.new w _ _⟩
theorem parts_one {K : Nat -> Prop} (W : World) (kk : Int) {u : Value} {d : List UInt8} (h : VB K W u d) : PartsV (fun y => K y \/ y = W.heap.size) (W.alloc (.cells #[.int .i64 kk, u] 143)) (some ⟨W.heap.size, 0, none⟩) 1 [(kk, d)] := by
 have hb : Below W.heap.size W (W.alloc (.cells #[.int .i64 kk, u] 143)) := (Below.refl _ _).alloc (Nat.le_refl _) _
 refine ⟨[.int .i64 kk, u], rfl, ⟨rfl, (fun e => by cases e), fun _ => ⟨_, _, rfl, .inr rfl, by rw [World.size_alloc]; omega, fun j v hj => ?_⟩⟩, HdL.one1 rfl ⟨u, rfl, (h.below hb).mono (fun y hy => .inl hy)⟩⟩
 have := (Rec.new W 143 #[.int .i64 kk, u]).at_ j
 rw [show (⟨W.heap.size, 0 + j, none⟩ : Addr) = ⟨W.heap.size, j, none⟩ by rw [Nat.zero_add], this]
 simpa using hj
theorem gMove_at {S : List Nat} {n s : Nat} (hs : S[n]? = some s) (b : Bool) (c : Int) : gMove S b (n : Int) c = ((gNode S (chg b s c)).1, ((gNode S (chg b s c)).2 : Int)) := by
 have hl := (List.getElem?_eq_some_iff.1 hs).1
 have hd : S.getD n 0 = s := by rw [List.getD_eq_getElem?_getD, hs]; rfl
 unfold gMove
 rw [if_pos ⟨Int.natCast_nonneg _, by omega⟩, Int.toNat_natCast, hd]
section
variable {w : World} {N : Nat} {gr : Nat -> Nat} {x : Fx} {k : Ks} {c : Nat} {pt : Nat -> Nat}
theorem CoJ.with_ (h : CoJ 0 w N gr x k c pt) {n s : Nat} (hs : k.S[n]? = some s) (kk : Int) (hS : k.S.length <= 900000) (hc : c <= 400000) :
  Calls Tryz.prog 66 #[.pointer (some ⟨x.pg, 0, none⟩), .int .i64 (n : Int), .int .i64 kk] w fun e w' => e = .returned (.int .i64 ((gNode k.S (chg true s kk)).2 : Nat)) /\ ∃ gr', CoJ 0 w' N gr' x { k with S := (gNode k.S (chg true s kk)).1 } (c + 1) pt /\ TGo w gr w' gr' := by
 obtain ⟨sv, ed, b, hb, hG⟩ := h.gph (by decide)
 refine (GWith_any (fun y hy => h.dom y (by rw [show gr y = 5 from hy]; decide)) hG (n : Int) kk hS (by omega)).mono ?_
 rw [gMove_at hs]
 rintro e w' ⟨rfl, hGG⟩
 exact ⟨rfl, h.gph_go hGG (fun i t => gNode_keeps _) (Nat.le_succ c) (by omega)⟩
theorem eset_size (h : CoJ 0 w N gr x k c pt) {i g : Int} (hw : okE (i, g)) {n r : Nat} {t : Tb} (hp : k.pl (i, g) = some (n, r)) (ht : k.tb n = some t) (hn : okN n) {kk : Int} (hks : x.n <= 1000000) {z : Int} (hsz : sizeK x.ks kk = (z, true)) (DA : Option Addr) (dn dc : Nat) (hd : (dn : Int) ≠ z) :
  Calls Tryz.prog 24 #[.pointer (some ⟨x.p, 0, none⟩), .agg #[.int .i64 i, .int .i64 g], .int .i64 kk, .slice DA dn dc] w fun e w' => e = .returned (.int .i64 7) /\ Below w.heap.size w w' := by
 obtain ⟨w1, hw1, hb1, r1⟩ := id_start w i g
 have h1 := h.below hb1
 have CA := eask_yes h1 hw hp ht hn kk hks true (by rw [hsz])
 simp only [if_true] at CA
 have k0 := r1.at_ 0
 have k1 := r1.at_ 1
 obtain ⟨q, hq⟩ : ∃ q : Nat, q = pt n := ⟨_, rfl⟩
 rw [<- hq] at CA
 have CA := hi_ CA
 have H0 := hi_ h
 have HQ := hi_ hq
 have HB1 := hi_ hb1
 have H1 := hi_ h1
 have HN := hi_ (And.intro hw (And.intro hp (And.intro ht (And.intro hn (And.intro hks hsz)))))
 clear h h1 hb1 r1 hw hp ht hn hks hsz hq
 go_enter Tryz.func24, Tryz.ntmps24
 go_upto_region 4 with (first
  | (rw [<- hw1]; clear hw1)
  | (go_at_call 60; refine CA.out.mono ?_; rintro e w2 ⟨rfl, hb2⟩; obtain ⟨w3, hw3⟩ : ∃ w3, w3 = w2.alloc (.cells enZ 88) := ⟨_, rfl⟩; have hb3 : Below w1.heap.size w1 w3 := hb2.trans (show Below w1.heap.size w2 w3 by rw [hw3]; exact (Below.refl _ _).alloc hb2.size _); have R3 := hi_ (show Rec 88 w3 w2.heap.size enZ by rw [hw3]; exact Rec.new w2 _ _); have HS := hi_ (And.intro hb2.size hb3); clear hb2 hb3 k0 k1 CA)
  | (rw [<- hw3]; clear hw3)
  | ((with_reducible refine wpList_stN n r i g (some ⟨q, 0, none⟩) enZ_size rfl (.tmp 9) (.tmp 18) rfl rfl rfl R3.out ?_); intro w4 hR4 hF4; have HR4 := hi_ (And.intro hR4 hF4); clear hR4 hF4))
 obtain ⟨ge, hge⟩ : ∃ ge : Nat, ge = w2.heap.size := ⟨_, rfl⟩
 rw [<- hge] at HR4
 have HGE := hi_ hge
 rw [<- hge]
 obtain ⟨R4, hF4⟩ := HR4.out
 have hb4 : Below w1.heap.size w1 w4 := HS.out.2.trans (hF4.toBelow (fun y hy => by have := HS.out.1; have e' : y = ge := hy; omega) HS.out.2.size)
 have h4 := H1.out.below hb4
 have H4 := hi_ (And.intro h4 (And.intro R4 (HB1.out.trans (hb4.mono HB1.out.size))))
 have HG := hi_ (show gr ge = 0 from Classical.byContradiction fun hh => by have := H1.out.dom _ hh; have := HS.out.1; omega)
 clear hge hF4 hb4 h4 R4 HR4 HS R3
 have h4 := H4.out.1
 have k0 : w4.cell? ⟨x.p, 0, none⟩ = some (.int .i64 x.lg) := h4.cell 0
 have k1 : w4.cell? ⟨x.p, 1, none⟩ = some (.int .i64 x.ps) := h4.cell 1
 have k2 : w4.cell? ⟨x.p, 2, none⟩ = some (.int .i64 x.en) := h4.cell 2
 have k3 : w4.cell? ⟨x.p, 3, none⟩ = some (.int .i64 x.gn) := h4.cell 3
 have k4 : w4.cell? ⟨x.p, 4, none⟩ = some (.slice x.A x.n x.cap) := h4.cell 4
 have CS := Size_any x.lg x.ps x.en x.gn x.A x.n x.cap x.ks w4 h4.kd HN.out.2.2.2.2.1 kk
 rw [HN.out.2.2.2.2.2] at CS
 have CS := hi_ CS
 clear h4
 have d1 : decide ((dn : Int) = z) = false := decide_eq_false hd
 have d2 : ((dn : Int) != z) = true := bne_iff_ne.2 hd
 go_wp2_with (go_at_call 61; refine CS.out.mono ?_; rintro e w5 ⟨rfl, hb5⟩; have HB5 := hi_ (H4.out.2.2.trans (hb5.mono H4.out.2.2.size)); clear hb5 k0 k1 k2 k3 k4)
 go_ret
 exact ⟨rfl, HB5.out⟩
theorem eset_has (h : CoJ 0 w N gr x k c pt) {i g : Int} (hw : okE (i, g)) {n r : Nat} {t : Tb} (hp : k.pl (i, g) = some (n, r)) (ht : k.tb n = some t) (hn : okN n) {kk : Int} (hks : x.n <= 1000000) (hT : TabN N w) (DA : Option Addr) (dn dc : Nat) (hsz : sizeK x.ks kk = ((dn : Int), true)) {d : List UInt8} (hd : VB (fun y => gr y = 0) w (.slice DA dn dc) d) (hk : In64 kk) {s0 : Nat} (hs0 : k.S[n]? = some s0) (hh : decide (0 <= kk /\ kk < 64 /\ s0.testBit kk.toNat = true) = true) :
  Calls Tryz.prog 24 #[.pointer (some ⟨x.p, 0, none⟩), .agg #[.int .i64 i, .int .i64 g], .int .i64 kk, .slice DA dn dc] w fun e w' => e = .returned (.int .i64 (t.go ⟨1, (0, 0), [], (r : Int), kk, d⟩).2.err) /\ ∃ gr', CoJ 0 w' N gr' x { k with tb := upd k.tb n (some (t.go ⟨1, (0, 0), [], (r : Int), kk, d⟩).1) } c pt /\ TGo w gr w' gr' := by
 have HHB : Hid (∀ s, k.S[n]? = some s -> decide (0 <= kk /\ kk < 64 /\ s.testBit kk.toNat = true) = true) := hi_ (fun s hs => by rw [hs0] at hs; injection hs with hs; subst hs; exact hh)
 have HD := hi_ (And.intro hT (And.intro hd hk))
 obtain ⟨res, hres⟩ : ∃ res, res = t.go ⟨1, (0, 0), [], (r : Int), kk, d⟩ := ⟨_, rfl⟩
 rw [<- hres]
 obtain ⟨ze, hze⟩ : ∃ ze, ze = res.2.err := ⟨_, rfl⟩
 rw [<- hze]
 obtain ⟨t1, ht1⟩ : ∃ t1, t1 = res.1 := ⟨_, rfl⟩
 rw [<- ht1]
 have HRES := hi_ (And.intro hres (And.intro hze ht1))
 clear hres hze ht1
 obtain ⟨w1, hw1, hb1, r1⟩ := id_start w i g
 have h1 := h.below hb1
 have CA := eask_yes h1 hw hp ht hn kk hks true (by rw [hsz])
 simp only [if_true] at CA
 have k0 := r1.at_ 0
 have k1 := r1.at_ 1
 obtain ⟨q, hq⟩ : ∃ q : Nat, q = pt n := ⟨_, rfl⟩
 rw [<- hq] at CA
 have CA := hi_ CA
 have H0 := hi_ h
 have HQ := hi_ hq
 have HB1 := hi_ hb1
 have H1 := hi_ h1
 have HN := hi_ (And.intro hw (And.intro hp (And.intro ht (And.intro hn (And.intro hks hsz)))))
 clear h h1 hb1 r1 hw hp ht hn hks hsz hq hh hs0 hT hd hk
 go_enter Tryz.func24, Tryz.ntmps24
 go_upto_region 4 with (first
  | (rw [<- hw1]; clear hw1)
  | (go_at_call 60; refine CA.out.mono ?_; rintro e w2 ⟨rfl, hb2⟩; obtain ⟨w3, hw3⟩ : ∃ w3, w3 = w2.alloc (.cells enZ 88) := ⟨_, rfl⟩; have hb3 : Below w1.heap.size w1 w3 := hb2.trans (show Below w1.heap.size w2 w3 by rw [hw3]; exact (Below.refl _ _).alloc hb2.size _); have R3 := hi_ (show Rec 88 w3 w2.heap.size enZ by rw [hw3]; exact Rec.new w2 _ _); have HS := hi_ (And.intro hb2.size hb3); clear hb2 hb3 k0 k1 CA)
  | (rw [<- hw3]; clear hw3)
  | ((with_reducible refine wpList_stN n r i g (some ⟨q, 0, none⟩) enZ_size rfl (.tmp 9) (.tmp 18) rfl rfl rfl R3.out ?_); intro w4 hR4 hF4; have HR4 := hi_ (And.intro hR4 hF4); clear hR4 hF4))
 obtain ⟨ge, hge⟩ : ∃ ge : Nat, ge = w2.heap.size := ⟨_, rfl⟩
 rw [<- hge] at HR4
 have HGE := hi_ hge
 rw [<- hge]
 obtain ⟨R4, hF4⟩ := HR4.out
 have hb4 : Below w1.heap.size w1 w4 := HS.out.2.trans (hF4.toBelow (fun y hy => by have := HS.out.1; have e' : y = ge := hy; omega) HS.out.2.size)
 have h4 := H1.out.below hb4
 have H4 := hi_ (And.intro h4 (And.intro R4 (HB1.out.trans (hb4.mono HB1.out.size))))
 have HG := hi_ (show gr ge = 0 from Classical.byContradiction fun hh => by have := H1.out.dom _ hh; have := HS.out.1; omega)
 clear hge hF4 hb4 h4 R4 HR4 HS R3
 have h4 := H4.out.1
 have k0 : w4.cell? ⟨x.p, 0, none⟩ = some (.int .i64 x.lg) := h4.cell 0
 have k1 : w4.cell? ⟨x.p, 1, none⟩ = some (.int .i64 x.ps) := h4.cell 1
 have k2 : w4.cell? ⟨x.p, 2, none⟩ = some (.int .i64 x.en) := h4.cell 2
 have k3 : w4.cell? ⟨x.p, 3, none⟩ = some (.int .i64 x.gn) := h4.cell 3
 have k4 : w4.cell? ⟨x.p, 4, none⟩ = some (.slice x.A x.n x.cap) := h4.cell 4
 have CS := Size_any x.lg x.ps x.en x.gn x.A x.n x.cap x.ks w4 h4.kd HN.out.2.2.2.2.1 kk
 rw [HN.out.2.2.2.2.2] at CS
 have CS := hi_ CS
 clear h4
 go_upto_region 7 with (go_at_call 61; refine CS.out.mono ?_; rintro e w5 ⟨rfl, hb5⟩; have HB5 := hi_ hb5; clear hb5 k0 k1 k2 k3 k4 CS)
 have h5 := H4.out.1.below HB5.out
 have R5 := H4.out.2.1.under HB5.out
 obtain ⟨s, tag, m, v, qq, hs, hA, hg⟩ := h5.tab n t (by omega) HN.out.2.2.1
 have CG := tsig_any hA.i
 rw [<- HQ.out] at CG
 have CG := hi_ CG
 have CH := Has_any s kk w5 hA.sgl
 rw [HHB.out s hs] at CH
 have CH := hi_ CH
 have k4 := R5.at_ 4
 have H5 := hi_ (And.intro h5 R5)
 have HS5 := hi_ hs
 clear h5 R5 hs hA hg
 go_upto_region 8 with (first
  | (go_at_call 63; refine CG.out.mono ?_; rintro e w' ⟨rfl, rfl⟩)
  | (go_at_call 62; refine CH.out.mono ?_; rintro e w6 ⟨rfl, hb6⟩; have HB6 := hi_ hb6; clear hb6 k4))
 have hb56 := HB5.out.trans (HB6.out.mono HB5.out.size)
 have h6 := H5.out.1.below HB6.out
 have R6 := H5.out.2.under HB6.out
 obtain ⟨s', tag, m, v, qq, hs, hA, hg⟩ := h6.tab n t (by omega) HN.out.2.2.1
 have hb06 := H4.out.2.2.trans (hb56.mono H4.out.2.2.size)
 obtain ⟨_, _, _, e, hrd, _⟩ := HD.out.2.1.below hb06
 injection e with e1 e2 e3
 subst e1 e2 e3
 have CT := TSet_go hA (0, 0) [] (r : Int) kk HD.out.2.2 DA dn dc d hrd
 rw [<- HQ.out] at CT
 rw [<- HRES.out.1, <- HRES.out.2.1, <- HRES.out.2.2] at CT
 have CT := hi_ CT
 have HE : Hid (∀ w', TStep w6 N tag q m qq s' t1 w' -> ∃ gr', CoJ 0 w' N gr' x { k with tb := upd k.tb n (some t1) } c pt /\ TGo w gr w' gr') := hi_ (fun w' hS => by
  rw [HQ.out] at hS
  obtain ⟨gr', h', hG⟩ := h6.tab_go HN.out.2.2.1 hs hg hS
  exact ⟨gr', h', (TGo.ofBelow hb06).trans hG⟩)
 have k1 := R6.at_ 1
 have k4 := R6.at_ 4
 clear hb56 h6 R6 hs hA hg hb06 hrd
 go_wp2_with (go_at_call 64; refine CT.out.mono ?_; rintro e w7 ⟨rfl, hS7⟩; have HS7 := hi_ hS7; clear hS7 k1 k4)
 go_ret
 exact ⟨rfl, HE.out _ HS7.out⟩
theorem eset_lacks (h : CoJ 0 w N gr x k c pt) {i g : Int} (hw : okE (i, g)) {n r : Nat} {t : Tb} (hp : k.pl (i, g) = some (n, r)) (ht : k.tb n = some t) (hn : okN n) {kk : Int} (hks : x.n <= 1000000) (hT : TabN N w) (hc : c <= 80000) (hr : r < t.rows.length) (hmo : okE t.lastR.1) (hSl : k.S.length <= 4090) (DA : Option Addr) (dn dc : Nat) (hsz : sizeK x.ks kk = ((dn : Int), true)) {d : List UInt8} (hd : VB (fun y => gr y = 0) w (.slice DA dn dc) d) {s0 : Nat} (hs0 : k.S[n]? = some s0) (hh : decide (0 <= kk /\ kk < 64 /\ s0.testBit kk.toNat = true) = false) (hsl : chg true s0 kk < 18446744073709551616) (hsub : chg true s0 kk &&& ofL (idxs x.n) 64 = chg true s0 kk) :
  Calls Tryz.prog 24 #[.pointer (some ⟨x.p, 0, none⟩), .agg #[.int .i64 i, .int .i64 g], .int .i64 kk, .slice DA dn dc] w fun e w' => e = .returned (.int .i64 0) /\ ∃ gr' pt', CoJ 0 w' N gr' x (({ k with S := (gNode k.S (chg true s0 kk)).1 } : Ks).move x (i, g) n r t (gNode k.S (chg true s0 kk)).2 (chg true s0 kk) ((t.rows.getD r noEn).2 ++ [(kk, d)])) (c + 4) pt' /\ TGo w gr w' gr' := by
 have HHB : Hid (∀ s, k.S[n]? = some s -> decide (0 <= kk /\ kk < 64 /\ s.testBit kk.toNat = true) = false) := hi_ (fun s hs => by rw [hs0] at hs; injection hs with hs; subst hs; exact hh)
 have HD := hi_ (And.intro hT (And.intro hc (And.intro hr (And.intro hmo (And.intro hSl (And.intro hs0 (And.intro hsl hsub)))))))
 obtain ⟨K3, hK3⟩ : ∃ K3, K3 = (({ k with S := (gNode k.S (chg true s0 kk)).1 } : Ks).move x (i, g) n r t (gNode k.S (chg true s0 kk)).2 (chg true s0 kk) ((t.rows.getD r noEn).2 ++ [(kk, d)])) := ⟨_, rfl⟩
 rw [<- hK3]
 have HK3 := hi_ hK3
 clear hK3
 have HDD := hi_ hd
 obtain ⟨w1, hw1, hb1, r1⟩ := id_start w i g
 have h1 := h.below hb1
 have CA := eask_yes h1 hw hp ht hn kk hks true (by rw [hsz])
 simp only [if_true] at CA
 have k0 := r1.at_ 0
 have k1 := r1.at_ 1
 obtain ⟨q, hq⟩ : ∃ q : Nat, q = pt n := ⟨_, rfl⟩
 rw [<- hq] at CA
 have CA := hi_ CA
 have H0 := hi_ h
 have HQ := hi_ hq
 have HB1 := hi_ hb1
 have H1 := hi_ h1
 have HN := hi_ (And.intro hw (And.intro hp (And.intro ht (And.intro hn (And.intro hks hsz)))))
 clear h h1 hb1 r1 hw hp ht hn hks hsz hq hh hs0 hT hc hr hmo hSl hsl hsub hd
 go_enter Tryz.func24, Tryz.ntmps24
 go_upto_region 4 with (first
  | (rw [<- hw1]; clear hw1)
  | (go_at_call 60; refine CA.out.mono ?_; rintro e w2 ⟨rfl, hb2⟩; obtain ⟨w3, hw3⟩ : ∃ w3, w3 = w2.alloc (.cells enZ 88) := ⟨_, rfl⟩; have hb3 : Below w1.heap.size w1 w3 := hb2.trans (show Below w1.heap.size w2 w3 by rw [hw3]; exact (Below.refl _ _).alloc hb2.size _); have R3 := hi_ (show Rec 88 w3 w2.heap.size enZ by rw [hw3]; exact Rec.new w2 _ _); have HS := hi_ (And.intro hb2.size hb3); clear hb2 hb3 k0 k1 CA)
  | (rw [<- hw3]; clear hw3)
  | ((with_reducible refine wpList_stN n r i g (some ⟨q, 0, none⟩) enZ_size rfl (.tmp 9) (.tmp 18) rfl rfl rfl R3.out ?_); intro w4 hR4 hF4; have HR4 := hi_ (And.intro hR4 hF4); clear hR4 hF4))
 obtain ⟨ge, hge⟩ : ∃ ge : Nat, ge = w2.heap.size := ⟨_, rfl⟩
 rw [<- hge] at HR4
 have HGE := hi_ hge
 rw [<- hge]
 obtain ⟨R4, hF4⟩ := HR4.out
 have hb4 : Below w1.heap.size w1 w4 := HS.out.2.trans (hF4.toBelow (fun y hy => by have := HS.out.1; have e' : y = ge := hy; omega) HS.out.2.size)
 have h4 := H1.out.below hb4
 have H4 := hi_ (And.intro h4 (And.intro R4 (HB1.out.trans (hb4.mono HB1.out.size))))
 have HG := hi_ (show gr ge = 0 from Classical.byContradiction fun hh => by have := H1.out.dom _ hh; have := HS.out.1; omega)
 clear hge hF4 hb4 h4 R4 HR4 HS R3
 have h4 := H4.out.1
 have k0 : w4.cell? ⟨x.p, 0, none⟩ = some (.int .i64 x.lg) := h4.cell 0
 have k1 : w4.cell? ⟨x.p, 1, none⟩ = some (.int .i64 x.ps) := h4.cell 1
 have k2 : w4.cell? ⟨x.p, 2, none⟩ = some (.int .i64 x.en) := h4.cell 2
 have k3 : w4.cell? ⟨x.p, 3, none⟩ = some (.int .i64 x.gn) := h4.cell 3
 have k4 : w4.cell? ⟨x.p, 4, none⟩ = some (.slice x.A x.n x.cap) := h4.cell 4
 have CS := Size_any x.lg x.ps x.en x.gn x.A x.n x.cap x.ks w4 h4.kd HN.out.2.2.2.2.1 kk
 rw [HN.out.2.2.2.2.2] at CS
 have CS := hi_ CS
 clear h4
 go_upto_region 7 with (go_at_call 61; refine CS.out.mono ?_; rintro e w5 ⟨rfl, hb5⟩; have HB5 := hi_ hb5; clear hb5 k0 k1 k2 k3 k4 CS)
 have h5 := H4.out.1.below HB5.out
 have R5 := H4.out.2.1.under HB5.out
 obtain ⟨s, tag, m, v, qq, hs, hA, hg⟩ := h5.tab n t (by omega) HN.out.2.2.1
 have CG := tsig_any hA.i
 rw [<- HQ.out] at CG
 have CG := hi_ CG
 have CH := Has_any s kk w5 hA.sgl
 rw [HHB.out s hs] at CH
 have CH := hi_ CH
 have k4 := R5.at_ 4
 have H5 := hi_ (And.intro h5 R5)
 have HS5 := hi_ hs
 clear h5 R5 hs hA hg
 go_upto_region 9 with (first
  | (go_at_call 63; refine CG.out.mono ?_; rintro e w' ⟨rfl, rfl⟩)
  | (go_at_call 62; refine CH.out.mono ?_; rintro e w6 ⟨rfl, hb6⟩; have HB6 := hi_ hb6; clear hb6 k4))
 obtain ⟨hT, hc, hr, hmo, hSl, hs0, hsl, hsub⟩ := HD.out
 obtain ⟨hw, hp, ht, hn, hks, hsz⟩ := HN.out
 have hb56 := HB5.out.trans (HB6.out.mono HB5.out.size)
 have h6 := (H5.out.1.below HB6.out).below (Below.refl _ _).drew
 have R6 := H5.out.2.under HB6.out
 have hb06 := H4.out.2.2.trans (hb56.mono H4.out.2.2.size)
 have hB6d : Below w.heap.size w w6.drew := hb06.drew
 have hge6 : ge < w6.heap.size := R6.lt
 have CW : Hid (∀ W, CoJ 0 W N gr x k c pt -> Rec 88 W ge (enC n r i g (some ⟨q, 0, none⟩)) -> Calls Tryz.prog 66 #[.pointer (some ⟨x.pg, 0, none⟩), .int .i64 (n : Int), .int .i64 kk] W fun e w' => e = .returned (.int .i64 ((gNode k.S (chg true s0 kk)).2 : Nat)) /\ ∃ gr', CoJ 0 w' N gr' x { k with S := (gNode k.S (chg true s0 kk)).1 } (c + 1) pt /\ TGo W gr w' gr' /\ Rec 88 w' ge (enC n r i g (some ⟨q, 0, none⟩)) /\ gr' ge = 0) := hi_ (fun W hW hR => by
  refine (hW.with_ hs0 kk (by omega) (by omega)).mono ?_
  rintro e w' ⟨rfl, gr', h', hG'⟩
  exact ⟨rfl, gr', h', hG', hR.tgo hG' HG.out, hG'.gr0 HG.out hR.lt⟩)
 have CM : Hid (∀ W gr2 MA mn (more : List Pt) mc, more = [(kk, d)] -> CoJ 0 W N gr2 x { k with S := (gNode k.S (chg true s0 kk)).1 } (c + 1) pt -> TGo w gr W gr2 -> Rec 88 W ge (enC n r i g (some ⟨q, 0, none⟩)) -> gr2 ge = 0 -> PartsV (fun y => gr2 y = 0) W MA mn more -> mn <= 1000 ->
   Calls Tryz.prog 65 #[.pointer (some ⟨x.p, 0, none⟩), .agg (enC n r i g (some ⟨q, 0, none⟩)), .int .i64 ((gNode k.S (chg true s0 kk)).2 : Nat), .slice MA mn mc] W fun e w' => e = .returned (.tuple #[]) /\ (∃ gr' pt', CoJ 0 w' N gr' x K3 (c + 4) pt' /\ TGo w gr w' gr') /\ (w'.cell? ⟨x.p, 6, none⟩ = some (.pointer (some ⟨x.pg, 0, none⟩)) /\ (w'.cell? ⟨ge, 0, none⟩ = some (.int .i64 (n : Int)) /\ w'.cell? ⟨ge, 1, none⟩ = some (.int .i64 (r : Int)) /\ w'.cell? ⟨ge, 2, none⟩ = some (.int .i64 i) /\ w'.cell? ⟨ge, 3, none⟩ = some (.int .i64 g) /\ w'.cell? ⟨ge, 4, none⟩ = some (.pointer (some ⟨q, 0, none⟩))))) := hi_ (fun W gr2 MA mn more mc he2 h2 hG2 hR2 hz2 hm hmn => by
  subst he2
  have hat := gNode_at k.S (chg true s0 kk)
  have hln : (gNode k.S (chg true s0 kk)).2 < (gNode k.S (chg true s0 kk)).1.length := (List.getElem?_eq_some_iff.1 hat).1
  have hll := (gNode_len k.S (chg true s0 kk)).1
  have C := emove_any h2 (hT.go H0.out hG2) (by omega) hw hn ht hr hmo (n2 := (gNode k.S (chg true s0 kk)).2) (s2 := chg true s0 kk) (by unfold okN; omega) hat hsl hsub hks (by show (gNode k.S (chg true s0 kk)).1.length <= 4096; omega) hm (fun y hy => hy) hmn mc
  rw [<- HQ.out, <- HK3.out] at C
  refine C.mono ?_
  rintro e w' ⟨rfl, gr', pt', h', hG'⟩
  have R' := hR2.tgo hG' hz2
  exact ⟨rfl, ⟨gr', pt', h', hG2.trans hG'⟩, h'.c6, R'.at_ 0, R'.at_ 1, R'.at_ 2, R'.at_ 3, R'.at_ 4⟩)
 have s6 : w6.drew.cell? ⟨x.p, 6, none⟩ = some (.pointer (some ⟨x.pg, 0, none⟩)) /\ (w6.drew.cell? ⟨ge, 0, none⟩ = some (.int .i64 (n : Int)) /\ w6.drew.cell? ⟨ge, 1, none⟩ = some (.int .i64 (r : Int)) /\ w6.drew.cell? ⟨ge, 2, none⟩ = some (.int .i64 i) /\ w6.drew.cell? ⟨ge, 3, none⟩ = some (.int .i64 g) /\ w6.drew.cell? ⟨ge, 4, none⟩ = some (.pointer (some ⟨q, 0, none⟩))) := ⟨h6.c6, R6.at_ 0, R6.at_ 1, R6.at_ 2, R6.at_ 3, R6.at_ 4⟩
 have H6 := hi_ (And.intro h6 (And.intro R6 (And.intro hB6d hge6)))
 have D6 := HDD.out.below hB6d
 obtain ⟨wb, hwb⟩ : ∃ wb, wb = (w6.alloc (.cells #[.int .i64 kk, .slice DA dn dc] 143)).drew := ⟨_, rfl⟩
 have hbb : Below w6.heap.size w6 wb := by rw [hwb]; exact ((Below.refl _ _).alloc (Nat.le_refl _) _).drew
 have hbd : Below w6.drew.heap.size w6.drew wb := by rw [hwb]; exact (Below.refl _ _).alloc (Nat.le_refl _) _
 have hPb : PartsV (fun y => gr y = 0) wb (some ⟨w6.heap.size, 0, none⟩) 1 [(kk, d)] := by
  have := parts_one w6.drew kk D6
  refine PartsV.mono (by rw [hwb]; exact this) (fun y hy => ?_)
  rcases hy with hy | hy
  ·exact hy
  ·exact Classical.byContradiction fun hh => by have := h6.dom y hh; have e' : y = w6.heap.size := hy; have e2 : y < w6.heap.size := this; omega
 have hhb := h6.below hbd
 have hRb := R6.under hbb
 have sb : wb.cell? ⟨x.p, 6, none⟩ = some (.pointer (some ⟨x.pg, 0, none⟩)) /\ (wb.cell? ⟨ge, 0, none⟩ = some (.int .i64 (n : Int)) /\ wb.cell? ⟨ge, 1, none⟩ = some (.int .i64 (r : Int)) /\ wb.cell? ⟨ge, 2, none⟩ = some (.int .i64 i) /\ wb.cell? ⟨ge, 3, none⟩ = some (.int .i64 g) /\ wb.cell? ⟨ge, 4, none⟩ = some (.pointer (some ⟨q, 0, none⟩))) := ⟨hhb.c6, hRb.at_ 0, hRb.at_ 1, hRb.at_ 2, hRb.at_ 3, hRb.at_ 4⟩
 have HWB := hi_ hwb
 have HBB := hi_ (And.intro hhb (And.intro hRb (And.intro hPb (hB6d.trans (hbd.mono hB6d.size)))))
 have HD6 := hi_ D6
 clear D6 hwb hbb hbd hPb hhb hRb
 obtain ⟨n2, hn2⟩ : ∃ n2 : Nat, n2 = (gNode k.S (chg true s0 kk)).2 := ⟨_, rfl⟩
 rw [<- hn2] at CW CM
 clear hT hc hr hmo hSl hs0 hsl hsub hw hp ht hn hks hsz hb56 h6 R6 hb06 hB6d hge6 hn2
 refine wp_region_noPanic ?_
 refine wp_region_held_drew (S := fun W => W.cell? ⟨x.p, 6, none⟩ = some (.pointer (some ⟨x.pg, 0, none⟩)) /\ (W.cell? ⟨ge, 0, none⟩ = some (.int .i64 (n : Int)) /\ W.cell? ⟨ge, 1, none⟩ = some (.int .i64 (r : Int)) /\ W.cell? ⟨ge, 2, none⟩ = some (.int .i64 i) /\ W.cell? ⟨ge, 3, none⟩ = some (.int .i64 g) /\ W.cell? ⟨ge, 4, none⟩ = some (.pointer (some ⟨q, 0, none⟩)))) (by kernel_rfl) s6 (fun hHeld => ?_)
 refine tk_ 0 ⟨some 49, .move (.tmp 0), 29, "ecs.go:121", #[], none⟩ hHeld ?_
 simp only [Act.put, sA_, sB_, sC_]
 refine tk_ 1 ⟨some 50, .load 88 (.tmp 9), 88, "ecs.go:121", #[], none⟩ hHeld ?_
 simp only [Act.put, sA_, sB_, sC_]
 refine tk_ 2 ⟨some 51, .move (.tmp 0), 29, "ecs.go:121", #[], none⟩ hHeld ?_
 simp only [Act.put, sA_, sB_, sC_]
 refine tk_ 3 ⟨some 52, .nilCheck (.tmp 51), 0, "ecs.go:121", #[⟨2, .data⟩], none⟩ hHeld ?_
 simp only [Act.put, sA_, sB_, sC_]
 refine tk_ 4 ⟨some 53, .fieldAddr 82 (.tmp 52) 2, 0, "ecs.go:121", #[⟨3, .data⟩], none⟩ hHeld ?_
 simp only [Act.put, sA_, sB_, sC_]
 refine tk_ 5 ⟨some 54, .load 78 (.tmp 53), 78, "ecs.go:121", #[⟨4, .data⟩], none⟩ hHeld ?_
 simp only [Act.put, sA_, sB_, sC_]
 refine tk_ 6 ⟨some 55, .fieldAddr 88 (.tmp 9) 0, 0, "ecs.go:121", #[], none⟩ hHeld ?_
 simp only [Act.put, sA_, sB_, sC_]
 refine tk_ 7 ⟨some 56, .fieldAddr 85 (.tmp 55) 0, 0, "ecs.go:121", #[⟨6, .data⟩], none⟩ hHeld ?_
 simp only [Act.put, sA_, sB_, sC_]
 refine tk_ 8 ⟨some 57, .load 3 (.tmp 56), 3, "ecs.go:121", #[⟨7, .data⟩], none⟩ hHeld ?_
 simp only [Act.put, sA_, sB_, sC_]
 refine tk_ 9 ⟨some 58, .move (.tmp 2), 3, "ecs.go:121", #[], none⟩ hHeld ?_
 simp only [Act.put, sA_, sB_, sC_]
 refine tk_ 11 ⟨some 60, .move (.tmp 2), 3, "ecs.go:121", #[], none⟩ hHeld ?_
 simp only [Act.put, sA_, sB_, sC_]
 refine tk_ 12 ⟨some 61, .move (.tmp 3), 33, "ecs.go:121", #[], none⟩ hHeld ?_
 simp only [Act.put, sA_, sB_, sC_]
 refine tk_ 13 ⟨some 62, .build 143 #[(0, .tmp 60), (1, .tmp 61)], 143, "ecs.go:121", #[⟨11, .data⟩, ⟨12, .data⟩], none⟩ hHeld ?_
 simp only [Act.put, sA_, sB_, sC_]
 refine wpAnyH_ready (rs := [10, 14]) (by kernel_rfl) (by simp) ?_
 refine AllReadyH.cons (o := ⟨some 59, .call { callee := .value (.func 66), args := #[.tmp 54, .tmp 57, .tmp 58], argTypes := #[78, 3, 3] }, 3, "ecs.go:121", #[⟨5, .data⟩, ⟨8, .data⟩, ⟨9, .data⟩], none⟩) rfl (fun K' hK => ?_) (AllReadyH.cons (o := ⟨some 63, .buildSlice 91 1 #[(0, .tmp 62)], 91, "ecs.go:121", #[⟨13, .data⟩], none⟩) rfl (fun K' hK => ?_) AllReadyH.nil)
 ·go_simp
  go_at_call 66; refine (CW.out w6.drew H6.out.1 H6.out.2.1).mono ?_; rintro e w7 ⟨rfl, gr7, h7, hG7, R7, z7⟩
  have s7 : w7.cell? ⟨x.p, 6, none⟩ = some (.pointer (some ⟨x.pg, 0, none⟩)) /\ (w7.cell? ⟨ge, 0, none⟩ = some (.int .i64 (n : Int)) /\ w7.cell? ⟨ge, 1, none⟩ = some (.int .i64 (r : Int)) /\ w7.cell? ⟨ge, 2, none⟩ = some (.int .i64 i) /\ w7.cell? ⟨ge, 3, none⟩ = some (.int .i64 g) /\ w7.cell? ⟨ge, 4, none⟩ = some (.pointer (some ⟨q, 0, none⟩))) := ⟨h7.c6, R7.at_ 0, R7.at_ 1, R7.at_ 2, R7.at_ 3, R7.at_ 4⟩
  have H7 := hi_ (And.intro h7 (And.intro R7 (And.intro z7 hG7)))
  clear h7 hG7 R7 z7
  refine hK.out _ _ s7 (fun hHeld => ?_)
  clear hK K'
  try simp only [Act.put, sA_, sB_, sC_]
  refine wpAnyH_ready (rs := [14]) (by kernel_rfl) (by simp) ?_
  refine AllReadyH.cons (o := ⟨some 63, .buildSlice 91 1 #[(0, .tmp 62)], 91, "ecs.go:121", #[⟨13, .data⟩], none⟩) rfl (fun K' hK => ?_) AllReadyH.nil
  go_simp
  obtain ⟨w8, hw8⟩ : ∃ w8, w8 = w7.alloc (.cells #[.int .i64 kk, .slice DA dn dc] 143) := ⟨_, rfl⟩
  rw [<- hw8]
  have hb8 : Below w7.heap.size w7 w8 := by rw [hw8]; exact (Below.refl _ _).alloc (Nat.le_refl _) _
  have h8 := H7.out.1.below hb8
  have R8 := H7.out.2.1.under hb8
  have s8 : w8.cell? ⟨x.p, 6, none⟩ = some (.pointer (some ⟨x.pg, 0, none⟩)) /\ (w8.cell? ⟨ge, 0, none⟩ = some (.int .i64 (n : Int)) /\ w8.cell? ⟨ge, 1, none⟩ = some (.int .i64 (r : Int)) /\ w8.cell? ⟨ge, 2, none⟩ = some (.int .i64 i) /\ w8.cell? ⟨ge, 3, none⟩ = some (.int .i64 g) /\ w8.cell? ⟨ge, 4, none⟩ = some (.pointer (some ⟨q, 0, none⟩))) := ⟨h8.c6, R8.at_ 0, R8.at_ 1, R8.at_ 2, R8.at_ 3, R8.at_ 4⟩
  have HW8 := hi_ hw8
  have HB8 := hi_ hb8
  clear hw8 hb8 h8 R8
  refine hK.out _ _ s8 (fun hHeld => ?_)
  clear hK K'
  try simp only [Act.put, sA_, sB_, sC_]
  refine wpAnyH_ready (rs := [15]) (by kernel_rfl) (by simp) ?_
  refine AllReadyH.cons (o := ⟨some 64, .call { callee := .value (.func 65), args := #[.tmp 49, .tmp 50, .tmp 59, .tmp 63], argTypes := #[29, 88, 3, 91] }, 0, "ecs.go:121", #[⟨0, .data⟩, ⟨1, .data⟩, ⟨10, .data⟩, ⟨14, .data⟩, ⟨10, .chain⟩], none⟩) rfl (fun K' hK => ?_) AllReadyH.nil
  go_simp
  have D7 : VB (fun y => gr7 y = 0) w7 (.slice DA dn dc) d := ((HD6.out.lt).stays (w' := w7) ⟨H7.out.2.2.2.fr.size, fun y hy => H7.out.2.2.2.fr.block y hy.2 (fun hn => hn hy.1)⟩).mono (fun y hy => H7.out.2.2.2.gr0 hy.1 hy.2)
  have P8 : PartsV (fun y => gr7 y = 0) w8 (some ⟨w7.heap.size, 0, none⟩) 1 [(kk, d)] := by
   rw [HW8.out]
   refine PartsV.mono (parts_one w7 kk D7) (fun y hy => ?_)
   rcases hy with hy | hy
   ·exact hy
   ·exact Classical.byContradiction fun hh => by have := H7.out.1.dom y hh; omega
  have C8 := hi_ (CM.out w8 gr7 (some ⟨w7.heap.size, 0, none⟩) 1 [(kk, d)] 1 rfl (H7.out.1.below HB8.out) (((TGo.ofBelow H6.out.2.2.1).trans H7.out.2.2.2).trans (TGo.ofBelow HB8.out)) (H7.out.2.1.under HB8.out) H7.out.2.2.1 P8 (by decide))
  clear D7 P8
  go_at_call 65; refine C8.out.mono ?_; rintro e w9 ⟨rfl, hX9, s9⟩
  have HX9 := hi_ hX9
  clear hX9
  refine hK.out _ _ s9 (fun hHeld => ?_)
  clear hK K'
  try simp only [Act.put]
  refine wpAnyH_done (by kernel_rfl) ?_ _
  refine NoPanic.normal ?_
  clear hHeld s6 s7 s8 s9 sb
  go_wp2
  go_ret
  exact ⟨rfl, HX9.out⟩
 ·go_simp
  rw [<- HWB.out]
  refine hK.out _ _ sb (fun hHeld => ?_)
  clear hK K'
  try simp only [Act.put, sA_, sB_, sC_]
  refine wpAnyH_ready (rs := [10]) (by kernel_rfl) (by simp) ?_
  refine AllReadyH.cons (o := ⟨some 59, .call { callee := .value (.func 66), args := #[.tmp 54, .tmp 57, .tmp 58], argTypes := #[78, 3, 3] }, 3, "ecs.go:121", #[⟨5, .data⟩, ⟨8, .data⟩, ⟨9, .data⟩], none⟩) rfl (fun K' hK => ?_) AllReadyH.nil
  go_simp
  go_at_call 66; refine (CW.out wb HBB.out.1 HBB.out.2.1).mono ?_; rintro e w7 ⟨rfl, gr7, h7, hG7, R7, z7⟩
  have s7 : w7.cell? ⟨x.p, 6, none⟩ = some (.pointer (some ⟨x.pg, 0, none⟩)) /\ (w7.cell? ⟨ge, 0, none⟩ = some (.int .i64 (n : Int)) /\ w7.cell? ⟨ge, 1, none⟩ = some (.int .i64 (r : Int)) /\ w7.cell? ⟨ge, 2, none⟩ = some (.int .i64 i) /\ w7.cell? ⟨ge, 3, none⟩ = some (.int .i64 g) /\ w7.cell? ⟨ge, 4, none⟩ = some (.pointer (some ⟨q, 0, none⟩))) := ⟨h7.c6, R7.at_ 0, R7.at_ 1, R7.at_ 2, R7.at_ 3, R7.at_ 4⟩
  have H7 := hi_ (And.intro h7 (And.intro R7 (And.intro z7 hG7)))
  clear h7 hG7 R7 z7
  refine hK.out _ _ s7 (fun hHeld => ?_)
  clear hK K'
  try simp only [Act.put, sA_, sB_, sC_]
  refine wpAnyH_ready (rs := [15]) (by kernel_rfl) (by simp) ?_
  refine AllReadyH.cons (o := ⟨some 64, .call { callee := .value (.func 65), args := #[.tmp 49, .tmp 50, .tmp 59, .tmp 63], argTypes := #[29, 88, 3, 91] }, 0, "ecs.go:121", #[⟨0, .data⟩, ⟨1, .data⟩, ⟨10, .data⟩, ⟨14, .data⟩, ⟨10, .chain⟩], none⟩) rfl (fun K' hK => ?_) AllReadyH.nil
  go_simp
  have C8 := hi_ (CM.out w7 gr7 (some ⟨w6.heap.size, 0, none⟩) 1 [(kk, d)] 1 rfl H7.out.1 ((TGo.ofBelow HBB.out.2.2.2).trans H7.out.2.2.2) H7.out.2.1 H7.out.2.2.1 (((HBB.out.2.2.1.lt).stays ⟨H7.out.2.2.2.fr.size, fun y hy => H7.out.2.2.2.fr.block y hy.2 (fun hn => hn hy.1)⟩).mono (fun y hy => H7.out.2.2.2.gr0 hy.1 hy.2)) (by decide))
  go_at_call 65; refine C8.out.mono ?_; rintro e w9 ⟨rfl, hX9, s9⟩
  have HX9 := hi_ hX9
  clear hX9
  refine hK.out _ _ s9 (fun hHeld => ?_)
  clear hK K'
  try simp only [Act.put]
  refine wpAnyH_done (by kernel_rfl) ?_ _
  refine NoPanic.normal ?_
  clear hHeld s6 sb s7 s9
  go_wp2
  go_ret
  exact ⟨rfl, HX9.out⟩
end
end Go.Proofs.YtaoinkjjmakhaaaGreatDoor
namespace Go.Proofs.YtaoinkjjmakhaaaGreatDoor
open Go.RowKit
set_option maxRecDepth 20000
section
variable {w : World} {N : Nat} {gr : Nat -> Nat} {x : Fx} {k : Ks} {c : Nat} {pt : Nat -> Nat}
theorem ecount_yes (h : CoJ 0 w N gr x k c pt) : Calls Tryz.prog 50 #[.pointer (some ⟨x.p, 0, none⟩)] w fun e w' => e = .returned (.int .i64 (k.ns.cnt k.ns.g.length)) /\ w = w' := by
 obtain ⟨gv, av, fv, I⟩ := h.ids (by decide)
 obtain ⟨z, hz⟩ : ∃ z : Nat, z = k.ns.cnt k.ns.g.length := ⟨_, rfl⟩
 have CC := Count_any I
 rw [<- hz] at CC ⊢
 have CC := hi_ CC
 have c5 := h.c5
 clear h I hz
 go_enter Tryz.func50, Tryz.ntmps50
 go_wp2_with (go_at_call 107; refine CC.out.mono ?_; rintro e w' ⟨rfl, rfl⟩)
 go_ret
 exact ⟨rfl, rfl⟩
end
end Go.Proofs.YtaoinkjjmakhaaaGreatDoor
namespace Go.Proofs.YtaoinkjjmakhaaaGreatDoor
open Go.RowKit Go.Sort
set_option maxRecDepth 20000
def encD (x : Int × Int) : List Value := [.int .i64 x.1, .int .i64 x.2]
theorem encD_flat : ∀ (d : List (Int × Int)) (t : Nat) (u : Value), (idc d)[t]? = some u -> t < d.length * 2 /\ ∃ x, d[t / 2]? = some x /\ (encD x)[t % 2]? = some u := by
 intro d t u h
 have hl : t < (idc d).length := (List.getElem?_eq_some_iff.1 h).1
 rw [idc_len] at hl
 obtain ⟨ch, hch, hl2, hz, hx⟩ := idc_el d
 have hq : t / 2 < d.length := by omega
 obtain ⟨r, hr, he⟩ := hx (t / 2) d[t / 2] (List.getElem?_eq_getElem hq)
 have hg := flatg_get hz hr (i := t % 2) (by omega)
 rw [<- hch, show t / 2 * 2 + t % 2 = t by omega, h] at hg
 exact ⟨hl, d[t / 2], List.getElem?_eq_getElem hq, by rw [<- show r = encD d[t / 2] from he]; exact hg.symm⟩
theorem flat_idc (d : List (Int × Int)) : (flatK encD 2 d.toArray).toList = idc d := by
 apply List.ext_getElem?
 intro t
 by_cases ht : t < d.length * 2
 ·have h1 : t < (flatK encD 2 d.toArray).size := by simp; exact ht
  have h2 : t < (idc d).length := by rw [idc_len]; exact ht
  obtain ⟨_, x, hx, hu⟩ := encD_flat d t (idc d)[t] (List.getElem?_eq_getElem h2)
  have h3 := get_flatK encD 2 d.toArray t (by simpa using ht)
  rw [Array.getElem?_toList, Array.getElem?_eq_getElem h1, List.getElem?_eq_getElem h2]
  rw [getElem!_pos _ t h1] at h3
  rw [h3]
  have hq : t / 2 < d.length := by omega
  have hx' : d[t / 2] = x := by rw [List.getElem?_eq_getElem hq] at hx; exact Option.some.inj hx
  have e1 : d.toArray[t / 2]! = x := by rw [getElem!_pos _ _ (by simpa using hq)]; simpa using hx'
  rw [e1, List.getElem!_eq_getElem?_getD, hu]
  rfl
 ·rw [List.getElem?_eq_none (by simp; omega), List.getElem?_eq_none (by rw [idc_len]; omega)]
theorem ltIx (x y : Int × Int) : ltOf (fun x y : Int × Int => Lib.compareInt x.1 y.1) x y = decide (x.1 < y.1) := by
 unfold ltOf Lib.compareInt
 by_cases h1 : x.1 < y.1
 ·simp [h1]
 ·by_cases h2 : y.1 < x.1 <;> simp [h1, h2]
theorem swoIx : SWO (ltOf fun x y : Int × Int => Lib.compareInt x.1 y.1) where
 irrefl x := by rw [ltIx]; simp
 trans x y z h1 h2 := by rw [ltIx] at *; simp at *; omega
 ntrans x y z h1 h2 := by rw [ltIx] at *; simp at *; omega
set_option maxHeartbeats 1000000 in
theorem compare_any (a b : Int) (W : World) : Calls Tryz.prog 71 #[.int .i64 a, .int .i64 b] W fun e w' => e = .returned (.int .i64 (Lib.compareInt a b)) /\ ∃ q, w' = W.drewN q := by
 unfold Lib.compareInt
 rcases Int.lt_trichotomy a b with h | h | h
 ·rw [if_pos h]
  have e : ¬ b < a := by omega
  go_enter Tryz.func71, Tryz.ntmps71
  go_wp2
  go_ret
  exact ⟨rfl, 0, rfl⟩
 ·subst h
  rw [if_neg (Int.lt_irrefl a), if_neg (Int.lt_irrefl a)]
  go_enter Tryz.func71, Tryz.ntmps71
  go_wp2
  go_ret
  exact ⟨rfl, 0, rfl⟩
 ·have e : ¬ a < b := by omega
  rw [if_neg e, if_pos h]
  go_enter Tryz.func71, Tryz.ntmps71
  go_wp2
  go_ret
  exact ⟨rfl, 0, rfl⟩
set_option maxHeartbeats 1000000 in
theorem qcmp_any (a b : Int × Int) (W : World) : Calls Tryz.prog 70 #[.agg #[.int .i64 a.1, .int .i64 a.2], .agg #[.int .i64 b.1, .int .i64 b.2]] W fun e w' => e = .returned (.int .i64 (Lib.compareInt a.1 b.1)) /\ ∃ q os', w' = grow (W.drewN q) os' := by
 have hcon := fun W' => compare_any a.1 b.1 W'
 generalize Lib.compareInt a.1 b.1 = r at hcon ⊢
 have HC := hi_ hcon
 clear hcon
 go_enter Tryz.func70, Tryz.ntmps70
 go_wp2_with (go_at_call 71; refine (HC.out _).mono ?_; rintro e w' ⟨rfl, q, rfl⟩)
 go_ret
 exact ⟨rfl, q, #[.cells #[.int .i64 a.1, .int .i64 a.2] 32] ++ #[.cells #[.int .i64 b.1, .int .i64 b.2] 32], by rw [alloc_eq_grow, alloc_eq_grow, grow_grow]; rfl⟩
theorem sorted_fr (w : World) (blk off m : Nat) (d : Array (Int × Int)) (os : Array Obj) : Fr (· = blk) w (sortWorldK encD 2 w blk off m d os) :=
 ⟨rfl, rfl, rfl, by show w.heap.size <= (grow (putRowK encD 2 (Sort.ahead w m) blk off d) os).heap.size; rw [size_grow, show (putRowK encD 2 (Sort.ahead w m) blk off d).heap.size = w.heap.size from size_putRowK encD 2 (Sort.ahead w m) blk off d]; omega, fun b hb hn => by
  show (grow (putRowK encD 2 (Sort.ahead w m) blk off d) os).heap[b]? = _
  rw [heap_grow_old _ _ (by rw [show (putRowK encD 2 (Sort.ahead w m) blk off d).heap.size = w.heap.size from size_putRowK encD 2 (Sort.ahead w m) blk off d]; exact hb)]
  show (mapBlock (Sort.ahead w m) blk _).heap[b]? = _
  have : blk ≠ b := fun e => hn e.symm
  simp [mapBlock, Sort.ahead, Array.getElem?_modify, this]⟩
theorem sorted_list {d' : Array (Int × Int)} (h : SortedIn (ltOf fun x y : Int × Int => Lib.compareInt x.1 y.1) 0 d'.size d') : d'.toList.Pairwise fun x y => x.1 <= y.1 := by
 rw [List.pairwise_iff_getElem]
 intro i j hi hj hij
 have := h i j (Nat.zero_le _) hij (by simpa using hj)
 rw [ltIx, getElem!_pos d' i (by simpa using hi), getElem!_pos d' j (by simpa using hj)] at this
 have h2 := of_decide_eq_false this
 simp only [Array.getElem_toList]
 omega
theorem own_openS {w : World} {B e n sz : Nat} {v : Value} {xs : List Value} (h : w.ownsRow B e sz v n xs) :
  ∃ A c, v = .slice A n c /\ (0 < n -> ∃ g, A = some ⟨g, 0, none⟩ /\ g < w.heap.size /\ (∀ j u, xs[j]? = some u -> w.cell? ⟨g, j, none⟩ = some u) /\ (∀ j, w.frozen? ⟨g, j, none⟩ = false)) := by
 rcases h.2 with ⟨hv, h0⟩ | ⟨g, cap, cur, rfl, _, hh, hn, hc, hs, ht⟩
 ·exact ⟨none, 0, by rw [hv, h0], fun hp => by omega⟩
 ·refine ⟨_, cap, rfl, fun _ => ⟨g, rfl, (Array.getElem?_eq_some_iff.1 hh).1, fun j u hj => ?_, fun j => frozen_of_row w g j _ _ hh⟩⟩
  rw [cell_of_row _ _ _ _ _ _ hh]
  have hl : j < xs.length := (List.getElem?_eq_some_iff.1 hj).1
  rw [<- ht, List.getElem?_take_of_lt (by rw [h.1] at hl; exact hl), Array.getElem?_toList] at hj
  exact hj
theorem sortIds_any {B : Nat} {v : Value} {xs : List (Int × Int)} {n : Nat} (hn : xs.length = n) (w : World) (ho : w.ownsRow B 32 2 v n (idc xs)) (hlen : n <= 10000000) :
  ∃ A c, v = .slice A n c /\ Calls Tryz.prog 69 #[.slice A n c, .func (.func 70) #[] #[]] w fun e w' => e = .returned (.tuple #[]) /\ ∃ ys : List (Int × Int), ys.Perm xs /\ ys.Pairwise (fun x y => x.1 <= y.1) /\ IdsV (fun y => v.ownBlock = some y) w' A n ys /\ Fr (fun y => v.ownBlock = some y) w w' := by
 obtain ⟨A, c, hv, hp⟩ := own_openS ho
 refine ⟨A, c, hv, ?_⟩
 by_cases h0 : n = 0
 ·subst h0
  have hx : xs = [] := List.eq_nil_of_length_eq_zero hn
  subst hx
  refine (AnyF.slices_SortFunc_none Tryz.sortD A c (.func (.func 70) #[] #[]) w).mono ?_
  rintro e w' ⟨rfl, rfl⟩
  exact ⟨rfl, [], List.Perm.refl _, List.Pairwise.nil, ⟨[], rfl, ⟨rfl, fun _ => rfl, fun h => absurd h (Nat.lt_irrefl 0)⟩, HdL.nil _ _⟩, Fr.refl _ _⟩
 ·obtain ⟨b, hA, hb, hc, hf⟩ := hp (by omega)
  subst hA
  have hxl : (idc xs).length = n * 2 := by rw [idc_len, hn]
  have hH : HoldsK encD 2 w b 0 xs.toArray := fun j hj => by
   have hj' : j < n * 2 := by simp at hj; omega
   refine ⟨?_, by rw [Nat.zero_add]; exact hf j⟩
   rw [Nat.zero_add, getElem!_pos _ j hj]
   have e1 := flat_idc xs
   have e2 : (flatK encD 2 xs.toArray)[j]? = (idc xs)[j]? := by rw [<- e1]; simp
   rw [Array.getElem?_eq_getElem hj] at e2
   show w.cell? ⟨b, j, none⟩ = some (flatK encD 2 xs.toArray)[j]
   exact hc j _ e2.symm
  have hcmp : CmpLays Tryz.prog 70 #[] encD 2 (fun x y => Lib.compareInt x.1 y.1) b 0 xs.toArray.size w := fun _ _ _ _ x y => qcmp_any x y _
  have C := AnyQ.slices_SortFunc Tryz.sortD 2 Tryz.isAgg32 Tryz.sizeOf32 encD (fun _ => rfl) (fun x v hv => by simp [encD] at hv; rcases hv with rfl | rfl <;> rfl) (fun x y => Lib.compareInt x.1 y.1) swoIx 70 #[] b 0 c xs.toArray w (enters_of Tryz.func70 (by kernel_rfl) rfl) hcmp hH hb (by simp; omega)
  rw [show xs.toArray.size = n by simp; exact hn] at C
  refine C.mono ?_
  rintro e w' ⟨rfl, d', m, os, hpm, hso, rfl⟩
  obtain ⟨hs, _, hper⟩ := hpm
  have hs' : d'.size = n := by rw [hs]; simp; exact hn
  have hown : (Value.slice (some ⟨b, 0, none⟩) n c).ownBlock = some b := rfl
  rw [hv, hown]
  refine ⟨rfl, d'.toList, ?_, sorted_list (by rw [hs']; exact hso), ?_, (sorted_fr w b 0 m d' os).mono (fun y hy => by rw [show y = b from hy])⟩
  ·have e1 : d'.extract 0 n = d' := by rw [<- hs']; exact Array.extract_size
   have e2 : xs.toArray.extract 0 n = xs.toArray := by rw [<- hn]; simp
   rw [e1, e2] at hper
   simpa using hper
  ·have hH' : HoldsK encD 2 (sortWorldK encD 2 w b 0 m d' os) b 0 d' :=
    holdsK_grow encD 2 _ os b 0 d' (by rw [show (putRowK encD 2 (Sort.ahead w m) b 0 d').heap.size = w.heap.size from size_putRowK encD 2 (Sort.ahead w m) b 0 d']; exact hb) (holdsK_putRowK encD 2 (Sort.ahead w m) b 0 xs.toArray d' hH (by rw [hs', List.size_toArray, hn]))
   refine ⟨idc d'.toList, by simp; exact hs', ⟨by rw [idc_len]; simp; omega, (fun e => by cases e), fun _ => ⟨b, 0, rfl, rfl, Nat.lt_of_lt_of_le hb (sorted_fr w b 0 m d' os).size, fun j u hj => ?_⟩⟩, idc_el _⟩
   have hjl : j < n * 2 := by have := (List.getElem?_eq_some_iff.1 hj).1; rw [idc_len] at this; simp at this; omega
   have hjf : j < (flatK encD 2 d').size := by simp; omega
   have h1 := (hH' j hjf).1
   rw [getElem!_pos _ j hjf] at h1
   have e1 := flat_idc d'.toList
   have e2 : (flatK encD 2 d')[j]? = (idc d'.toList)[j]? := by rw [<- e1]; simp
   rw [Array.getElem?_eq_getElem hjf, hj] at e2
   rw [h1]
   exact e2
end Go.Proofs.YtaoinkjjmakhaaaGreatDoor
namespace Go.Proofs.YtaoinkjjmakhaaaGreatDoor
open Go.RowKit Go.Sort
set_option maxRecDepth 20000
set_option maxHeartbeats 1000000 in
theorem compareU_any (a b : Nat) (W : World) : Calls Tryz.prog 90 #[.int .u64 a, .int .u64 b] W fun e w' => e = .returned (.int .i64 (Lib.compareInt (a : Int) (b : Int))) /\ ∃ q, w' = W.drewN q := by
 unfold Lib.compareInt
 rcases Int.lt_trichotomy (a : Int) (b : Int) with h | h | h
 ·rw [if_pos h]
  have e : ¬ (b : Int) < a := by omega
  go_enter Tryz.func90, Tryz.ntmps90
  go_wp2
  go_ret
  exact ⟨rfl, 0, rfl⟩
 ·rw [<- h]
  rw [if_neg (Int.lt_irrefl _), if_neg (Int.lt_irrefl _)]
  go_enter Tryz.func90, Tryz.ntmps90
  go_wp2
  go_ret
  exact ⟨rfl, 0, rfl⟩
 ·have e : ¬ (a : Int) < b := by omega
  rw [if_neg e, if_pos h]
  go_enter Tryz.func90, Tryz.ntmps90
  go_wp2
  go_ret
  exact ⟨rfl, 0, rfl⟩
set_option maxHeartbeats 1000000 in
theorem scmp_any (pa pb : Option Addr) (sa sb : Nat) (W : World) (ha : Calls Tryz.prog 63 #[.pointer pa] W fun e w' => e = .returned (.int .u64 sa) /\ W = w')
  (hb : Calls Tryz.prog 63 #[.pointer pb] W fun e w' => e = .returned (.int .u64 sb) /\ W = w') :
  Calls Tryz.prog 89 #[.pointer pa, .pointer pb] W fun e w' => e = .returned (.int .i64 (Lib.compareInt (sa : Int) (sb : Int))) /\ ∃ q, w' = W.drewN q := by
 have hcon := fun W' => compareU_any sa sb W'
 generalize Lib.compareInt (sa : Int) (sb : Int) = r at hcon ⊢
 have HA := hi_ ha
 have HB := hi_ hb
 have HC := hi_ hcon
 clear hcon ha hb
 go_enter Tryz.func89, Tryz.ntmps89
 go_wp2_with (first
  | (go_at_call 63; ((with_reducible refine HA.out.mono ?_); rintro e w' ⟨rfl, rfl⟩); clear HA)
  | (go_at_call 63; ((with_reducible refine HB.out.mono ?_); rintro e w' ⟨rfl, rfl⟩); clear HB)
  | (go_at_call 90; refine (HC.out _).mono ?_; rintro e w' ⟨rfl, q, rfl⟩))
 go_ret
 exact ⟨rfl, _, rfl⟩
theorem ltBy {α : Type} (f : α -> Int) (x y : α) : ltOf (fun x y : α => Lib.compareInt (f x) (f y)) x y = decide (f x < f y) := by
 unfold ltOf Lib.compareInt
 by_cases h1 : f x < f y
 ·simp [h1]
 ·by_cases h2 : f y < f x <;> simp [h1, h2]
theorem swoBy {α : Type} (f : α -> Int) : SWO (ltOf fun x y : α => Lib.compareInt (f x) (f y)) where
 irrefl x := by rw [ltBy]; simp
 trans x y z h1 h2 := by rw [ltBy] at *; simp at *; omega
 ntrans x y z h1 h2 := by rw [ltBy] at *; simp at *; omega
theorem values_any (b : Nat) (w : World) : Calls Tryz.prog 88 #[.map (some b)] w fun e w' => e = .returned (.func (.func 137) #[] #[.pointer (some ⟨w.heap.size, 0, none⟩)]) /\ w' = w.alloc (.cells #[.map (some b)] 79) := by
 go_enter Tryz.func88, Tryz.ntmps88
 go_wp2
 go_ret
 exact ⟨rfl, rfl⟩
theorem appendSeq_any (Bm b nn : Nat) (tb : Nat -> Option Tb) (pt : Nat -> Nat) (w : World) (hBm : Bm < w.heap.size) (hm : w.cell? ⟨Bm, 0, none⟩ = some (.map (some b))) (hmap : MapT w b nn (tbV tb pt)) (hnn : nn <= 1000000000) :
  Calls Tryz.prog 168 #[.slice none 0 0, .func (.func 137) #[] #[.pointer (some ⟨Bm, 0, none⟩)]] w fun e W' =>
   ∃ v ss, e = .returned v /\ NodesOf tb ss /\ ss.length <= nn /\ W'.ownsRow w.heap.size 86 1 v ss.length (ss.map (ptV pt)) /\ Below w.heap.size w W' :=
 callsIn_wide.1 (appendSeq_in Fence.wide 3 trivial trivial rfl (by omega) Bm b nn tb pt w hBm hm hmap hnn)
theorem collect_any (Bm b nn : Nat) (tb : Nat -> Option Tb) (pt : Nat -> Nat) (w : World) (hBm : Bm < w.heap.size) (hm : w.cell? ⟨Bm, 0, none⟩ = some (.map (some b))) (hmap : MapT w b nn (tbV tb pt)) (hnn : nn <= 1000000000) :
  Calls Tryz.prog 135 #[.func (.func 137) #[] #[.pointer (some ⟨Bm, 0, none⟩)]] w fun e W' =>
   ∃ v ss, e = .returned v /\ NodesOf tb ss /\ ss.length <= nn /\ W'.ownsRow w.heap.size 86 1 v ss.length (ss.map (ptV pt)) /\ Below w.heap.size w W' := by
 have H := hi_ (appendSeq_any Bm b nn tb pt w hBm hm hmap hnn)
 clear hBm hm hmap hnn
 go_enter Tryz.func135, Tryz.ntmps135
 go_wp2_with (go_at_call 168; refine H.out.mono ?_; rintro e W' ⟨v, ss, rfl, h1, h2, h3, h4⟩; have HH := hi_ (And.intro h1 (And.intro h2 (And.intro h3 h4))); obtain ⟨A, cc, rfl, _⟩ := own_openS h3; clear h1 h2 h3 h4)
 go_ret
 exact ⟨_, ss, rfl, HH.out⟩
end Go.Proofs.YtaoinkjjmakhaaaGreatDoor
