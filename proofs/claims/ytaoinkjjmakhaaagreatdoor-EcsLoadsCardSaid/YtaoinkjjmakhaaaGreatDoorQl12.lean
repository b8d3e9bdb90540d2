/- EcK, EcVa, EcVb, ShelfP, Shelf, EcA -/
import Derived.Test.YtaoinkjjmakhaaaGreatDoorQl1
import Derived.Test.YtaoinkjjmakhaaaGreatDoorQl2
import Derived.Test.YtaoinkjjmakhaaaGreatDoorQl6
import Derived.Test.YtaoinkjjmakhaaaGreatDoorQl8
import Derived.Test.YtaoinkjjmakhaaaGreatDoorQl10
import Derived.Test.YtaoinkjjmakhaaaGreatDoorQl11
import Derived.RangeFuncStops
import Derived.Sort.MapsRangeIn
import Derived.Lib.SlKeysI
import Derived.Shelf.Abstract
import Derived.WalkKit
import Derived.OwnWalkIn
import Derived.TacticsInMore
import Derived.RegionIn
import Derived.LoopNIn
import Derived.LoopIn
import Derived.RangeFuncBox
import Derived.RangeFuncLeaves
import Derived.RangeFuncKeeps
import Derived.RangeFuncNested
import Derived.Maps.AppendAt
import Derived.Shelf.SlGeneric
import Derived.Shelf.SlSortCmp.Whole1
import Derived.Ground.SlsfProg
import Derived.Test.YtaoinkjjmakhaaaGreatDoorProg
import Derived.Shelf.SlSortCmp.WholeK
import Derived.Deep.DeepCutAuto
import Derived.BigQuiet
import Derived.Deep.QuietTactic
namespace Go.Proofs.YtaoinkjjmakhaaaGreatDoor
open Go.RowKit
set_option maxRecDepth 20000
theorem plaT : RT Tryz.prog 85 2 := ⟨⟨_, Tryz.underlying85, rfl⟩, by kernel_rfl⟩
theorem entT : RT Tryz.prog 88 5 := ⟨⟨_, Tryz.underlying88, rfl⟩, by kernel_rfl⟩
def valN (n : Nat) : Value := .int .i64 (n : Int)
def litN (n : Nat) : Lit := .int .i64 (n : Int)
def okN (n : Nat) : Prop := n < 9223372036854775808
theorem kfN : Kf Tryz.prog 3 valN litN okN where
 law := Maps.int_keyed Tryz.underlying3
 key h := Maps.keyOf_int_mk Tryz.underlying3 (WalkArith.wf_i64 (by unfold okN at h; omega))
 inj _ _ e := by unfold litN at e; injection e with _ e; omega
theorem lawD : WideMaps.KeyLaw Tryz.prog 32 := deep_law_laid laidOutG (m := 2) (by omega) (of_decide_eq_true (by kernel_rfl)) (by kernel_rfl) (by kernel_rfl)
theorem keyD {x : Int × Int} (h : okE x) : keyOf Tryz.prog 32 (valE x) = some (litE x) := by
 obtain ⟨a, b⟩ := x
 obtain ⟨h1, h2⟩ := h
 simp only at h1 h2
 have hk : Tryz.prog.keyType 32 = true := by kernel_rfl
 have hc : Tryz.prog.cellsOf 32 = 2 := by kernel_rfl
 have hc1 : Tryz.prog.cellsOf 3 = 1 := by kernel_rfl
 obtain ⟨D, hD⟩ : ∃ D, Tryz.prog.types.size = D + 1 := ⟨Tryz.prog.types.size - 1, by have : 0 < Tryz.prog.types.size := of_decide_eq_true (by kernel_rfl); omega⟩
 have hf : (valE (a, b)).formed Tryz.prog 32 = true := by simp [valE, Value.formed, Tryz.underlying32, hc]
 have hl : Tryz.prog.keyLits (Tryz.prog.types.size + 1) 32 (valE (a, b)).cells.toList = some [.int .i64 a, .int .i64 b] := by
  rw [hD]
  simp [Program.keyLits, Tryz.underlying32, Tryz.underlying3, valE, Value.cells, hc, hc1, h1, h2]
 simp only [keyOf, Tryz.underlying32, hk, hf, hl, Bool.and_self, if_true, Option.map_some]
 rfl
theorem kfD : Kf Tryz.prog 32 valE litE okE where
 law := Maps.Keyed.of_law lawD
 key h := keyD h
 inj {i j} hi hj e := by
  have := (Maps.Keyed.of_law lawD).inj (keyD hi) (by rw [e]; exact keyD hj)
  obtain ⟨a, b⟩ := i
  obtain ⟨c, d⟩ := j
  simp [valE] at this
  rw [this.1, this.2]
structure Ks where
 ns : NS
 S : List Nat
 tb : Nat -> Option Tb
 pl : Int × Int -> Option (Nat × Nat)
structure Fx where
 p : Nat
 pi : Nat
 pg : Nat
 m1 : Nat
 m2 : Nat
 mt : Nat
 mp : Nat
 lg : Int
 ps : Int
 en : Int
 gn : Int
 A : Option Addr
 n : Nat
 cap : Nat
 ks : List Kd
def Fx.cs (x : Fx) : Array Value := #[.int .i64 x.lg, .int .i64 x.ps, .int .i64 x.en, .int .i64 x.gn, .slice x.A x.n x.cap, .pointer (some ⟨x.pi, 0, none⟩), .pointer (some ⟨x.pg, 0, none⟩), .map (some x.mt), .map (some x.mp)]
def tbV (tb : Nat -> Option Tb) (pt : Nat -> Nat) (i : Nat) : Option Value := (tb i).map fun _ => .pointer (some ⟨pt i, 0, none⟩)
def plV (x : Nat × Nat) : Value := .agg #[.int .i64 (x.1 : Int), .int .i64 (x.2 : Int)]
def plF (pl : Int × Int -> Option (Nat × Nat)) (id : Int × Int) : Option Value := (pl id).map plV
abbrev MapT (w : World) (m n : Nat) (f : Nat -> Option Value) : Prop := MapE Tryz.prog 3 litN okN (.pointer none) w m n f
abbrev MapP (w : World) (m n : Nat) (f : Int × Int -> Option Value) : Prop := MapE Tryz.prog 32 litE okE (.agg #[.int .i64 0, .int .i64 0]) w m n f
structure CoJ (j : Nat) (w : World) (N : Nat) (gr : Nat -> Nat) (x : Fx) (k : Ks) (c : Nat) (pt : Nat -> Nat) : Prop where
 blk : Rec 82 w x.p x.cs
 kd : KRd w x.A x.n x.ks
 kA : ∀ b o, x.A = some ⟨b, o, none⟩ -> gr b = 7
 ids : j ≠ 4 -> ∃ gv av fv, IAt w (fun y => gr y = 4) x.pi gv av fv k.ns
 gph : j ≠ 5 -> ∃ sv ed b, b <= 2 * c /\ GAt w (fun y => gr y = 5) x.pg sv x.m1 x.m2 k.S ed b
 mpt : j ≠ 2 -> ∃ nt, nt <= c /\ MapT w x.mt nt (tbV k.tb pt)
 mpp : j ≠ 3 -> ∃ np, np <= c /\ MapP w x.mp np (plF k.pl)
 tab : ∀ i t, i + 8 ≠ j -> k.tb i = some t -> ∃ s tag m v q, k.S[i]? = some s /\ TbA w N tag (pt i) m v q s t /\ ∀ y, tag y ≠ 0 -> gr y = i + 8
 gp : gr x.p = 1
 gt : gr x.mt = 2
 gm : gr x.mp = 3
 dom : ∀ y, gr y ≠ 0 -> y < w.heap.size
 lo : ∀ y, gr y ≠ 0 -> N <= y
theorem KRd.fr {own : Nat -> Prop} {w w' : World} {A : Option Addr} {n : Nat} {ks : List Kd} (h : KRd w A n ks) (hf : Fr own w w') (hn : ∀ b o, A = some ⟨b, o, none⟩ -> ¬ own b) : KRd w' A n ks :=
 ⟨h.1, fun hp => by
  obtain ⟨b, o, e, hlt, hc⟩ := h.2 hp
  refine ⟨b, o, e, Nat.lt_of_lt_of_le hlt hf.size, fun j hj => ?_⟩
  obtain ⟨h0, h1⟩ := hc j hj
  have hb := hf.block b hlt (hn b o e)
  exact ⟨(World.cell?_of_block (w := w) (a := ⟨b, o + j * 2, none⟩) hb).trans h0, (World.cell?_of_block (w := w) (a := ⟨b, o + j * 2 + 1, none⟩) hb).trans h1⟩⟩
def grw (gr : Nat -> Nat) (w w' : World) (j : Nat) (y : Nat) : Nat := if y < w.heap.size then gr y else if y < w'.heap.size then j else 0
section
variable {j : Nat} {w w' w'' : World} {N : Nat} {gr gr' : Nat -> Nat} {x : Fx} {k : Ks} {c : Nat} {pt : Nat -> Nat}
theorem CoJ.Nle (h : CoJ j w N gr x k c pt) : N <= w.heap.size := Nat.le_of_lt (Nat.lt_of_le_of_lt (h.lo x.p (by rw [h.gp]; decide)) h.blk.lt)
theorem CoJ.cell (h : CoJ j w N gr x k c pt) (i : Nat) : w.cell? ⟨x.p, i, none⟩ = x.cs[i]? := h.blk.at_ i
theorem CoJ.kept {own' : Nat -> Prop} (h : CoJ j w N gr x k c pt) (hf : Fr own' w w') (hd : ∀ y, gr y ≠ 0 -> ¬ own' y) : CoJ j w' N gr x k c pt where
 blk := h.blk.fr hf (hd _ (by rw [h.gp]; decide))
 kd := h.kd.fr hf (fun b o e => hd b (by rw [h.kA b o e]; decide))
 kA := h.kA
 ids hj := by
  obtain ⟨gv, av, fv, I⟩ := h.ids hj
  exact ⟨gv, av, fv, I.kept hf (fun y hy => hd y (by rw [show gr y = 4 from hy]; decide))⟩
 gph hj := by
  obtain ⟨sv, ed, b, hb, I⟩ := h.gph hj
  exact ⟨sv, ed, b, hb, I.kept hf (fun y hy => hd y (by rw [show gr y = 5 from hy]; decide))⟩
 mpt hj := by
  obtain ⟨nt, hb, I⟩ := h.mpt hj
  exact ⟨nt, hb, I.fr hf (hd _ (by rw [h.gt]; decide))⟩
 mpp hj := by
  obtain ⟨nt, hb, I⟩ := h.mpp hj
  exact ⟨nt, hb, I.fr hf (hd _ (by rw [h.gm]; decide))⟩
 tab i t hi ht := by
  obtain ⟨s, tag, m, v, q, hs, hA, hg⟩ := h.tab i t hi ht
  exact ⟨s, tag, m, v, q, hs, hA.kept hf (fun y hy => hd y (by rw [hg y hy]; omega)), hg⟩
 gp := h.gp
 gt := h.gt
 gm := h.gm
 dom y hy := Nat.lt_of_lt_of_le (h.dom y hy) hf.size
 lo := h.lo
theorem CoJ.below (h : CoJ j w N gr x k c pt) (hb : Below w.heap.size w w') : CoJ j w' N gr x k c pt := h.kept (own' := fun _ => False) (Fr.ofBelow _ hb) (fun _ _ hy => hy)
theorem CoJ.turn (h : CoJ 0 w N gr x k c pt) (_hj0 : j ≠ 0) (hj1 : j ≠ 1) (hj7 : j ≠ 7) (hf : Fr (fun y => gr y = j) w w') : CoJ j w' N (grw gr w w' j) x k c pt := by
 have hN := h.Nle
 have kp : ∀ y, gr y ≠ 0 -> grw gr w w' j y = gr y := fun y hy => if_pos (h.dom y hy)
 have kj : ∀ {i y}, i ≠ j -> gr y = i -> ¬ gr y = j := fun {i y} hi e e' => hi (e.symm.trans e')
 exact {
  blk := h.blk.fr hf (kj (fun e => hj1 e.symm) h.gp)
  kd := h.kd.fr hf (fun b o e => kj (fun e => hj7 e.symm) (h.kA b o e))
  kA := fun b o e => by rw [kp b (by rw [h.kA b o e]; decide)]; exact h.kA b o e
  ids := fun hj => by
   obtain ⟨gv, av, fv, I⟩ := h.ids (by decide)
   exact ⟨gv, av, fv, (I.kept hf (fun y hy => kj (fun e => hj e.symm) hy)).mono (fun y hy => by have hy : gr y = 4 := hy; show grw gr w w' j y = 4; rw [kp y (by omega), hy])⟩
  gph := fun hj => by
   obtain ⟨sv, ed, b, hb, I⟩ := h.gph (by decide)
   have I' := I.kept hf (fun y hy => kj (fun e => hj e.symm) hy)
   have up : ∀ y, gr y = 5 -> grw gr w w' j y = 5 := fun y hy => by rw [kp y (by omega), hy]
   exact ⟨sv, ed, b, hb, { I' with ownp := up _ I'.ownp, own1 := up _ I'.own1, own2 := up _ I'.own2, ownv := fun y hy => up y (I'.ownv y hy) }⟩
  mpt := fun hj => by
   obtain ⟨nt, hb, I⟩ := h.mpt (by decide)
   exact ⟨nt, hb, I.fr hf (kj (fun e => hj e.symm) h.gt)⟩
  mpp := fun hj => by
   obtain ⟨nt, hb, I⟩ := h.mpp (by decide)
   exact ⟨nt, hb, I.fr hf (kj (fun e => hj e.symm) h.gm)⟩
  tab := fun i t hi ht => by
   obtain ⟨s, tag, m, v, q, hs, hA, hg⟩ := h.tab i t (by omega) ht
   exact ⟨s, tag, m, v, q, hs, hA.kept hf (fun y hy => kj hi (hg y hy)), fun y hy => by rw [kp y (by rw [hg y hy]; omega)]; exact hg y hy⟩
  gp := by rw [kp _ (by rw [h.gp]; decide)]; exact h.gp
  gt := by rw [kp _ (by rw [h.gt]; decide)]; exact h.gt
  gm := by rw [kp _ (by rw [h.gm]; decide)]; exact h.gm
  dom := fun y hy => by
   have := hf.size
   unfold grw at hy
   split at hy
   ·omega
   ·split at hy
    ·assumption
    ·exact absurd rfl hy
  lo := fun y hy => by
   unfold grw at hy
   split at hy
   ·exact h.lo y hy
   ·omega }
theorem grw_go (hf : Fr (fun y => gr y = j) w w') (hj0 : j ≠ 0) : TGo w gr w' (grw gr w w' j) :=
 ⟨hf.mono (fun y hy => by have hy : gr y = j := hy; show gr y ≠ 0; omega), fun y hy => by
  unfold grw at hy
  split at hy
  ·exact .inl hy
  ·rename_i hn; exact .inr (by omega)⟩
theorem grw_own {own' : Nat -> Prop} (dom : ∀ y, gr y ≠ 0 -> y < w.heap.size) (hj0 : j ≠ 0) (h1 : ∀ y, own' y -> gr y = j \/ w.heap.size <= y) (h2 : ∀ y, own' y -> y < w'.heap.size) : ∀ y, own' y -> grw gr w w' j y = j := fun y hy => by
 unfold grw
 rcases h1 y hy with h | h
 ·rw [if_pos (dom y (by omega))]; exact h
 ·rw [if_neg (by omega), if_pos (h2 y hy)]
theorem CoJ.ids_go {s : NS} (h : CoJ 0 w N gr x k c pt) (hG : IGoes w (fun y => gr y = 4) x.pi s w') : ∃ gr', CoJ 0 w' N gr' x { k with ns := s } c pt /\ TGo w gr w' gr' := by
 obtain ⟨hf, own', h1, hd, gv, av, fv, I⟩ := hG
 have T := h.turn (j := 4) (by decide) (by decide) (by decide) hf
 exact ⟨_, {
   blk := T.blk, kd := T.kd, kA := T.kA, ids := fun _ => ⟨gv, av, fv, I.mono (grw_own h.dom (by decide) h1 hd)⟩, gph := fun _ => T.gph (by decide), mpt := fun _ => T.mpt (by decide), mpp := fun _ => T.mpp (by decide),
   tab := fun i t _ ht => T.tab i t (by omega) ht, gp := T.gp, gt := T.gt, gm := T.gm, dom := T.dom, lo := T.lo }, grw_go hf (by decide)⟩
theorem CoJ.gph_go {S' : List Nat} {b' c' : Nat} (h : CoJ 0 w N gr x k c pt) (hG : GG w (fun y => gr y = 5) x.pg x.m1 x.m2 S' b' w') (hS : ∀ (i t : Nat), k.S[i]? = some t -> S'[i]? = some t) (hc : c <= c') (hb : b' <= 2 * c') :
  ∃ gr', CoJ 0 w' N gr' x { k with S := S' } c' pt /\ TGo w gr w' gr' := by
 obtain ⟨ed, hf, own', sv', h1, hd, I⟩ := hG
 have T := h.turn (j := 5) (by decide) (by decide) (by decide) hf
 have up := grw_own h.dom (by decide) h1 hd
 exact ⟨_, {
   blk := T.blk, kd := T.kd, kA := T.kA, ids := fun _ => T.ids (by decide), gph := fun _ => ⟨sv', ed, b', hb, { I with ownp := up _ I.ownp, own1 := up _ I.own1, own2 := up _ I.own2, ownv := fun y hy => up y (I.ownv y hy) }⟩,
   mpt := fun _ => by obtain ⟨n, h1, h2⟩ := T.mpt (by decide); exact ⟨n, Nat.le_trans h1 hc, h2⟩, mpp := fun _ => by obtain ⟨n, h1, h2⟩ := T.mpp (by decide); exact ⟨n, Nat.le_trans h1 hc, h2⟩,
   tab := fun i t _ ht => by obtain ⟨s, tag, m, v, q, hs, r⟩ := T.tab i t (by omega) ht; exact ⟨s, tag, m, v, q, hS i s hs, r⟩, gp := T.gp, gt := T.gt, gm := T.gm, dom := T.dom, lo := T.lo }, grw_go hf (by decide)⟩
theorem CoJ.more {c' : Nat} (h : CoJ j w N gr x k c pt) (hc : c <= c') : CoJ j w N gr x k c' pt :=
 { h with gph := fun hj => by obtain ⟨sv, ed, b, hb, r⟩ := h.gph hj; exact ⟨sv, ed, b, by omega, r⟩, mpt := fun hj => by obtain ⟨n, h1, h2⟩ := h.mpt hj; exact ⟨n, Nat.le_trans h1 hc, h2⟩, mpp := fun hj => by obtain ⟨n, h1, h2⟩ := h.mpp hj; exact ⟨n, Nat.le_trans h1 hc, h2⟩ }
def upd {α : Type} (f : Nat -> α) (i : Nat) (v : α) (a : Nat) : α := if a = i then v else f a
theorem CoJ.tab_go {i s m : Nat} {q : Nat -> Nat} {tag : Nat -> Nat} {t t' : Tb} (h : CoJ 0 w N gr x k c pt) (hi : k.tb i = some t) (hs : k.S[i]? = some s) (hg : ∀ y, tag y ≠ 0 -> gr y = i + 8) (hT : TStep w N tag (pt i) m q s t' w') :
  ∃ gr', CoJ 0 w' N gr' x { k with tb := upd k.tb i (some t') } c pt /\ TGo w gr w' gr' := by
 obtain ⟨tag', v', hA, hG⟩ := hT
 have hf : Fr (fun y => gr y = i + 8) w w' := hG.fr.mono hg
 have T := h.turn (j := i + 8) (by omega) (by omega) (by omega) hf
 have up : ∀ y, tag' y ≠ 0 -> grw gr w w' (i + 8) y = i + 8 := grw_own (own' := fun y => tag' y ≠ 0) h.dom (by omega) (fun y hy => (hG.own y hy).imp (hg y) id) hA.i.dom
 refine ⟨_, {
   blk := T.blk, kd := T.kd, kA := T.kA, ids := fun _ => T.ids (by omega), gph := fun _ => T.gph (by omega), mpt := fun _ => ?_, mpp := fun _ => T.mpp (by omega),
   tab := fun a t0 _ ht => ?_, gp := T.gp, gt := T.gt, gm := T.gm, dom := T.dom, lo := T.lo }, grw_go hf (by omega)⟩
 ·obtain ⟨n, h1, h2⟩ := T.mpt (by omega)
  refine ⟨n, h1, h2.congr fun a _ => ?_⟩
  show tbV k.tb pt a = tbV (upd k.tb i (some t')) pt a
  unfold tbV upd
  by_cases e : a = i
  ·subst e; rw [if_pos rfl, hi]; rfl
  ·rw [if_neg e]
 ·have ht : upd k.tb i (some t') a = some t0 := ht
  unfold upd at ht
  by_cases e : a = i
  ·subst e
   rw [if_pos rfl] at ht
   injection ht with ht
   subst ht
   exact ⟨s, tag', m, v', q, hs, hA, up⟩
  ·rw [if_neg e] at ht
   exact T.tab a t0 (by omega) ht
theorem CoJ.pl_go {pl' : Int × Int -> Option (Nat × Nat)} {np c' : Nat} (h : CoJ 0 w N gr x k c pt) (hm : MapP w' x.mp np (plF pl')) (hg : w.grownBy w' (some x.mp)) (hn : np <= c') (hc : c <= c') :
  ∃ gr', CoJ 0 w' N gr' x { k with pl := pl' } c' pt /\ TGo w gr w' gr' := by
 have hf : Fr (fun y => gr y = 3) w w' := Fr.grown hg (fun y e => by injection e with e; subst e; exact h.gm)
 have T := (h.turn (j := 3) (by decide) (by decide) (by decide) hf).more hc
 exact ⟨_, {
   blk := T.blk, kd := T.kd, kA := T.kA, ids := fun _ => T.ids (by decide), gph := fun _ => T.gph (by decide), mpt := fun _ => T.mpt (by decide), mpp := fun _ => ⟨np, hn, hm⟩,
   tab := fun i t _ ht => T.tab i t (by omega) ht, gp := T.gp, gt := T.gt, gm := T.gm, dom := T.dom, lo := T.lo }, grw_go hf (by decide)⟩
theorem CoJ.tab_del {i nt : Nat} (h : CoJ 0 w N gr x k c pt) (hm : MapT w' x.mt nt (fun a => if a = i then none else tbV k.tb pt a)) (hg : w.grownBy w' (some x.mt)) (hn : nt <= c) :
  ∃ gr', CoJ 0 w' N gr' x { k with tb := upd k.tb i none } c pt /\ TGo w gr w' gr' := by
 have hf : Fr (fun y => gr y = 2) w w' := Fr.grown hg (fun y e => by injection e with e; subst e; exact h.gt)
 have T := h.turn (j := 2) (by decide) (by decide) (by decide) hf
 refine ⟨_, {
   blk := T.blk, kd := T.kd, kA := T.kA, ids := fun _ => T.ids (by decide), gph := fun _ => T.gph (by decide), mpt := fun _ => ⟨nt, hn, hm.congr fun a _ => ?_⟩, mpp := fun _ => T.mpp (by decide),
   tab := fun a t _ ht => ?_, gp := T.gp, gt := T.gt, gm := T.gm, dom := T.dom, lo := T.lo }, grw_go hf (by decide)⟩
 ·show _ = tbV (upd k.tb i none) pt a
  unfold tbV upd
  by_cases e : a = i
  ·rw [if_pos e, if_pos e]; rfl
  ·rw [if_neg e, if_neg e]
 ·have ht : upd k.tb i none a = some t := ht
  unfold upd at ht
  by_cases e : a = i
  ·rw [if_pos e] at ht; cases ht
  ·rw [if_neg e] at ht; exact T.tab a t (by omega) ht
theorem CoJ.wider {gr2 : Nat -> Nat} (h : CoJ j w N gr x k c pt) (up : ∀ y, gr y ≠ 0 -> gr2 y = gr y) (dm : ∀ y, gr2 y ≠ 0 -> y < w.heap.size) (lo : ∀ y, gr2 y ≠ 0 -> N <= y) : CoJ j w N gr2 x k c pt :=
 have ups : ∀ y n, n ≠ 0 -> gr y = n -> gr2 y = n := fun y n hn hy => by rw [up y (by omega), hy]
 { h with
  kA := fun b o e => ups _ _ (by decide) (h.kA b o e)
  ids := fun hj => by
   obtain ⟨gv, av, fv, I⟩ := h.ids hj
   exact ⟨gv, av, fv, I.mono (fun y hy => ups y 4 (by decide) hy)⟩
  gph := fun hj => by
   obtain ⟨sv, ed, b, hb, I⟩ := h.gph hj
   have up5 : ∀ y, gr y = 5 -> gr2 y = 5 := fun y hy => ups y 5 (by decide) hy
   exact ⟨sv, ed, b, hb, { I with ownp := up5 _ I.ownp, own1 := up5 _ I.own1, own2 := up5 _ I.own2, ownv := fun y hy => up5 y (I.ownv y hy) }⟩
  tab := fun i t hi ht => by
   obtain ⟨s, tag, m, v, q, hs, hA, hg⟩ := h.tab i t hi ht
   exact ⟨s, tag, m, v, q, hs, hA, fun y hy => ups y _ (by omega) (hg y hy)⟩
  gp := ups _ _ (by decide) h.gp
  gt := ups _ _ (by decide) h.gt
  gm := ups _ _ (by decide) h.gm
  dom := dm
  lo := lo }
theorem TbA.lower {N' : Nat} {tag : Nat -> Nat} {p m : Nat} {v : Value} {q : Nat -> Nat} {sg : Nat} {t : Tb} (h : TbA w N tag p m v q sg t) (hN : N' <= N) : TbA w N' tag p m v q sg t :=
 { h with i := { h.i with lo := fun y hy => Nat.le_trans hN (h.i.lo y hy) } }
theorem CoJ.tab_new {i s p' m nt : Nat} {q : Nat -> Nat} {tag : Nat -> Nat} {v : Value} {t : Tb} (h : CoJ 0 w N gr x k c pt) (hb : Below w.heap.size w w') (hA : TbA w' w.heap.size tag p' m v q s t) (hs : k.S[i]? = some s) (hi : k.tb i = none)
  (hm : MapT w'' x.mt nt (fun a => if a = i then some (.pointer (some ⟨p', 0, none⟩)) else tbV k.tb pt a)) (hg : w'.grownBy w'' (some x.mt)) (hn : nt <= c + 1) :
  ∃ gr', CoJ 0 w'' N gr' x { k with tb := upd k.tb i (some t) } (c + 1) (upd pt i p') /\ TGo w gr w'' gr' := by
 have hN := h.Nle
 have hsz := hb.size
 have h1 := h.below hb
 have hg2 : gr x.mt = 2 := h.gt
 have hf : Fr (fun y => gr y = 2) w' w'' := Fr.grown hg (fun y e => by injection e with e; subst e; exact h.gt)
 have hsz2 := hf.size
 have T := (h1.turn (j := 2) (by decide) (by decide) (by decide) hf).more (Nat.le_succ c)
 have hmt : x.mt < w.heap.size := h.dom _ (by rw [hg2]; decide)
 have hA2 : TbA w'' w.heap.size tag p' m v q s t := hA.kept (own' := fun y => y = x.mt) (Fr.grown hg (fun y e => by injection e with e; exact e.symm)) (fun y hy e => by have := hA.i.lo y hy; omega)
 have tg : ∀ y, grw gr w' w'' 2 y ≠ 0 -> tag y = 0 := fun y hy => by
  refine Classical.byContradiction fun ht => ?_
  have h1 := hA.i.lo y ht
  have h2 := hA.i.dom y ht
  unfold grw at hy
  rw [if_pos h2] at hy
  have := h.dom y hy
  omega
 have U := T.wider (gr2 := fun y => if tag y ≠ 0 then i + 8 else grw gr w' w'' 2 y) (fun y hy => if_neg (fun hn => hn (tg y hy)))
  (fun y hy => by
   by_cases ht : tag y ≠ 0
   ·have := hA.i.dom y ht; omega
   ·exact T.dom y (by simpa [ht] using hy))
  (fun y hy => by
   by_cases ht : tag y ≠ 0
   ·have := hA.i.lo y ht; omega
   ·exact T.lo y (by simpa [ht] using hy))
 refine ⟨_, {
   blk := U.blk, kd := U.kd, kA := U.kA, ids := fun _ => U.ids (by decide), gph := fun _ => U.gph (by decide), mpt := fun _ => ⟨nt, hn, hm.congr fun a _ => ?_⟩, mpp := fun _ => U.mpp (by decide),
   tab := fun a t0 _ ht => ?_, gp := U.gp, gt := U.gt, gm := U.gm, dom := U.dom, lo := U.lo }, ⟨?_, fun y hy => ?_⟩⟩
 ·show _ = tbV (upd k.tb i (some t)) (upd pt i p') a
  unfold tbV upd
  by_cases e : a = i
  ·rw [if_pos e, if_pos e, if_pos e]; rfl
  ·rw [if_neg e, if_neg e, if_neg e]
 ·have ht : upd k.tb i (some t) a = some t0 := ht
  unfold upd at ht
  by_cases e : a = i
  ·subst e
   rw [if_pos rfl] at ht
   injection ht with ht
   subst ht
   refine ⟨s, tag, m, v, q, hs, ?_, fun y hy => if_pos hy⟩
   rw [show upd pt a p' a = p' from if_pos rfl]
   exact hA2.lower hN
  ·rw [if_neg e] at ht
   rw [show upd pt i p' a = pt a from if_neg e]
   exact U.tab a t0 (by omega) ht
 ·exact (Fr.ofBelow _ hb).trans (hf.mono (fun y hy => by have hy : gr y = 2 := hy; show gr y ≠ 0; omega))
 ·by_cases ht : tag y ≠ 0
  ·exact .inr (hA.i.lo y ht)
  ·have hy' : grw gr w' w'' 2 y ≠ 0 := by simpa [ht] using hy
   unfold grw at hy'
   split at hy'
   ·exact .inl hy'
   ·rename_i hn; exact .inr (by omega)
end
end Go.Proofs.YtaoinkjjmakhaaaGreatDoor
namespace Go.Proofs.YtaoinkjjmakhaaaGreatDoor
open Go.RowKit Go.Maps Go.Sort Go.Shelf
set_option maxRecDepth 100000
def ptV (pt : Nat -> Nat) (x : Int) : Value := .pointer (some ⟨pt x.toNat, 0, none⟩)
def NodesOf (tb : Nat -> Option Tb) (ss : List Int) : Prop := ss.Nodup /\ ∀ x : Int, x ∈ ss ↔ ∃ i : Nat, x = (i : Int) /\ okN i /\ (tb i).isSome = true
theorem int_key_inv {key : Value} {kl : Lit} (h : keyOf Tryz.prog 3 key = some kl) : ∃ x : Int, key = Value.int .i64 x := by
 obtain ⟨x, rfl, _⟩ := Maps.keyOf_int_inv Tryz.underlying3 h
 exact ⟨x, rfl⟩
set_option maxHeartbeats 1000000 in
theorem values1_in (F : Fence) (n : Nat) (hF : F.fn 137) (hro : F.round = none) (hn : 1 <= n) (l Bm b nn : Nat) (tb : Nat -> Option Tb) (pt : Nat -> Nat) (J Jx : List Int -> World -> Prop)
  (hY : ∀ pre x W, J pre W -> pre.length < nn -> YieldAt F (n - 1) Tryz.prog l #[ptV pt x] W fun e W' =>
   (e = .returned (.bool true) /\ J (pre ++ [x]) W' /\ KeepsWalks W W') \/ (e = .returned (.bool false) /\ Jx (pre ++ [x]) W'))
  (W : World) (hJ : AbidesFrom W.heap.size J) (hm : W.cell? ⟨Bm, 0, none⟩ = some (.map (some b))) (hmap : MapT W b nn (tbV tb pt)) (h0 : J [] W) :
  CallsIn F n Tryz.prog 137 #[.func (.yield l) #[] #[], .pointer (some ⟨Bm, 0, none⟩)] W fun e W' => (∃ v, e = .returned v) /\
   ((∃ ss : List Int, NodesOf tb ss /\ J ss W') \/ (∃ pre : List Int, True /\ Jx pre W')) := by
 obtain ⟨D0, hown, hsz, hat0, hhas, hall⟩ := hmap
 refine callsIn_of_wp Tryz.func137 rfl hF ?_ hro
 simp only [Tryz.ntmps137, List.size_toArray, List.length_cons, List.length_nil, Nat.reduceAdd, Nat.reduceSub, Array.replicate_succ, Array.replicate_zero, List.push_toArray, List.append_toArray, List.nil_append, List.cons_append]
 gi_wp2_with (first
  | (gi_at_range; refine wpListIn_range_own _ rfl _ 79 rfl 3 86 kfN.law Tryz.underlying79 itself b nn D0 rfl hown ?_; intro w0 hrg0 hg0 hs0)
  | gi_in)
 go_frame
 gi_loopw [4] (fun _ wr => ∃ (left : Lit -> Bool) (cnt : Nat) (ss : List Int), wr.ranges Tryz.prog 3 itself b W.heap.size nn D0 left cnt /\ ss.length + cnt <= Maps.size D0 /\ CollectedI D0 left ss /\ J ss wr)
  (fun _ wr => wr.rangeLeft b W.heap.size)
 case atStart =>
  exact ⟨_, _, [], hrg0, by simp, CollectedI.start D0, hJ [] W w0 none h0 hg0 (fun r e => by cases e)⟩
 case round =>
  obtain ⟨left, cnt, ss, hrg, hcs, hC, hJs⟩ := hrel
  gi_wp2_with (first
   | (gi_at_next; refine wpListIn_next_ranges _ rfl _ rfl 3 kfN.law itself (Value.int .i64) (fun v : Value => v) (fun key kl hk => int_key_inv hk) (fun v y hv => ⟨v, rfl⟩) b W.heap.size nn _ _ _ rfl hrg ?_ ?_)
   | gi_in)
  ·-- nothing is left
   intro hc0 hl0
   gi_wp2
   go_end0
   refine ⟨⟨_, rfl⟩, .inl ⟨ss, ⟨hC.1, fun x => ?_⟩, hJs⟩⟩
   rw [hC.2 x, hl0]
   constructor
   ·rintro ⟨hx, _⟩
    obtain ⟨i, hi, e⟩ := hall _ hx
    unfold litN at e
    injection e with _ e
    refine ⟨i, e, hi, ?_⟩
    rw [e] at hx
    have := hhas i hi
    unfold litN at this
    rw [hx] at this
    unfold tbV at this
    simpa using this.symm
   ·rintro ⟨i, rfl, hi, hs⟩
    have := hhas i hi
    unfold litN at this
    refine ⟨?_, rfl⟩
    rw [this]
    unfold tbV
    simpa using hs
  ·-- an entry has come: yield(v)
   intro x c kl y1 y2 w2 cnt2 hkey hlk hv hat hrg2 hlt hg2 hs2 hen
   obtain ⟨x', ex, rfl, _⟩ := Maps.keyOf_int_inv Tryz.underlying3 hkey
   cases ex
   have hhx := has_true_of_atKey hat
   obtain ⟨i, hi, e⟩ := hall _ hhx
   unfold litN at e
   injection e with _ e
   subst e
   simp only [itself, Option.some.injEq, Prod.mk.injEq] at hv
   obtain ⟨rfl, rfl⟩ := hv
   obtain rfl : c = ptV pt (i : Int) := by
    have h1 := hat0 i hi
    have h2 := hhas i hi
    unfold litN at h1 h2
    rw [hat] at h1
    rw [hhx] at h2
    unfold tbV at h1 h2
    cases ht : tb i with
    | none => rw [ht] at h2; cases h2
    | some t => rw [ht] at h1; simpa [ptV] using h1
   have hJ2 : J ss w2 := hJ ss wr w2 (some W.heap.size) hJs hg2 (fun r e => by cases e; exact ⟨Nat.le_refl _, hrg.iter_walk⟩)
   obtain ⟨fn, tmps, assign, body, hy, hR⟩ := hY ss (i : Int) w2 hJ2 (by omega)
   clear hs2
   gi_wp2
   refine hR.mono ?_
   have hC2 := hC.step hlk hat
   rintro e W3 (⟨rfl, hJ3, hk3⟩ | ⟨rfl, hJx3⟩)
   ·gi_wp2
    have hrg3 := hrg2.of_walks hk3
    go_roundw
    case rel => exact ⟨_, cnt2, ss ++ [(i : Int)], hrg3, by simp; omega, hC2, hJ3⟩
    case measure => rw [hrg3.left_eq, hrg.left_eq]; exact hlt
   ·gi_wp2
    refine bodyPost_ret (results_none rfl _ _ _) rfl ?_
    exact ⟨⟨_, rfl⟩, .inr ⟨ss ++ [(i : Int)], trivial, hJx3⟩⟩
end Go.Proofs.YtaoinkjjmakhaaaGreatDoor
namespace Go.Proofs.YtaoinkjjmakhaaaGreatDoor
open Go.RowKit Go.Maps Go.Sort Go.Shelf
set_option maxRecDepth 100000
attribute [local go_sem] Oper.semAt_some
theorem infoPT : (Tryz.prog.info? 86).map (fun i => (i.zero, i.size, i.bytes)) = some (some (.pointer none), 1, 8) := by kernel_rfl
theorem values_stops (F : Fence) (n : Nat) (hF : F.fn 137) (hro : F.round = none) (hn : 1 <= n) (Bm b nn : Nat) (tb : Nat -> Option Tb) (pt : Nat -> Nat) (w : World) (hBm : Bm < w.heap.size)
  (hm : w.cell? ⟨Bm, 0, none⟩ = some (.map (some b))) (hmap : MapT w b nn (tbV tb pt)) :
  SeqStopsK F n Tryz.prog 137 #[.pointer (some ⟨Bm, 0, none⟩)] (fun x => #[ptV pt x]) KeepsWalks (NodesOf tb) (fun _ => True) nn w := fun l J Jx W hW hJ _ hY h0 =>
 values1_in F n hF hro hn l Bm b nn tb pt J Jx hY W hJ ((hW.cell (p := ⟨Bm, 0, none⟩) hBm).trans hm) (hmap.below hW) h0
set_option maxHeartbeats 2000000 in
theorem appendSeq_in (F : Fence) (n : Nat) (h1F : F.fn 168) (hF : F.fn 137) (hro : F.round = none) (hn : 3 <= n) (Bm b nn : Nat) (tb : Nat -> Option Tb) (pt : Nat -> Nat) (w : World) (hBm : Bm < w.heap.size)
  (hm : w.cell? ⟨Bm, 0, none⟩ = some (.map (some b))) (hmap : MapT w b nn (tbV tb pt)) (hnn : nn <= 1000000000) :
  CallsIn F n Tryz.prog 168 #[.slice none 0 0, .func (.func 137) #[] #[.pointer (some ⟨Bm, 0, none⟩)]] w fun e W' =>
   ∃ v ss, e = .returned v /\ NodesOf tb ss /\ ss.length <= nn /\ W'.ownsRow w.heap.size 86 1 v ss.length (ss.map (ptV pt)) /\ Below w.heap.size w W' := by
 have h1 : 1 <= n := by omega
 obtain ⟨i0, hi, hz0, hz1, hz2⟩ := info_parts infoPT
 refine callsIn_of_wp_marks Tryz.func168 rfl h1F ?_ hro
 simp only [Tryz.ntmps168, List.size_toArray, List.length_cons, List.length_nil, Nat.reduceAdd, Nat.reduceSub, Array.replicate_succ, Array.replicate_zero, List.push_toArray, List.append_toArray, List.nil_append, List.cons_append]
 gi_wp2
 have bO := Boxed.new w 96 (.slice none 0 0)
 have hB0 : Below w.heap.size w (w.alloc (.cells #[.slice none 0 0] 96)) := (Below.refl _ w).alloc (Nat.le_refl _) _
 refine wpIn_rangeFunc_ownG hro h1 (gf := 137) (lb := #[.pointer (some ⟨Bm, 0, none⟩)]) rfl hF (enters_of Tryz.func137 (by kernel_rfl) rfl)
  (values_stops F (n - 1) hF hro (by omega) Bm b nn tb pt _ (by simp; omega) ((hB0.cell (p := ⟨Bm, 0, none⟩) hBm).trans hm) (hmap.below hB0)) walksK_t (fun W l o o' h1 h2 h3 h4 => walksK_b W l o o' h1 h2 h3 h4) (Below.refl _ _) (fun _ => rfl)
  (fun pre W => ((∃ v, Boxed W w.heap.size 96 v /\ W.ownsRow w.heap.size 86 1 v pre.length (pre.map (ptV pt)) /\ True) /\ Below w.heap.size w W) /\ pre.length <= nn)
  (fun _ _ _ => False)
  (OwnFrom.and (OwnFrom.and (Own.from (holdsRow_own w.heap.size w.heap.size 96 86 1 (fun pre : List Int => pre.length) (fun pre => pre.map (ptV pt)) (fun _ _ => True)) _) (ownFrom_below (Nat.le_refl _) (by simp))) (ownFrom_pure _ _))
  (fun _ _ _ _ _ hs _ _ => hs)
  ⟨⟨⟨_, bO, World.ownsRow_nil _ _ _ _, trivial⟩, hB0⟩, Nat.zero_le _⟩
  (fun x => { tmps := #[.slice none 0 0, .func (.func 137) #[] #[.pointer (some ⟨Bm, 0, none⟩)], .pointer (some ⟨w.heap.size, 0, none⟩), undef, .slice none 0 0, ptV pt x, .func (.func 137) #[] #[.pointer (some ⟨Bm, 0, none⟩)], ptV pt x, undef, undef, undef, undef, undef], defers := [] }) ?assign ?body ?done ?stop
 case assign =>
  intro l x W K hK
  gi_wp2
  exact hK
 case body =>
  rintro l pre x W ⟨⟨⟨v, hv, hrow, _⟩, hB⟩, hpl⟩ hlt
  have hc := hv.cell
  unfold ptV
  gi_wp2_with (gi_at_builtin; refine wpListIn_append_own _ rfl _ _ 96 rfl w.heap.size 86 i0 (.pointer none) 1 8 Tryz.underlying96 hi hz0 hz1 hz2 rfl (by decide) _ _ _ rfl (hrow.alloc _) ⟨W.heap.size, 0, none⟩ 1 1 [.pointer (some ⟨pt x.toNat, 0, none⟩)] rfl rfl (cell_one_new _ _ _) (by simp [Value.oneCell']) (by unfold maxLen; omega) (by omega) (by have := hB.size; simp; omega) ?_; intro v' w1 hown' hgrow _; obtain ⟨g', cap', rfl⟩ := ownsRow_succ hown'; obtain ⟨hv1, hv2, hr2, hk2, hb2⟩ := hv.appended (by decide) hrow hB.size (Nat.le_refl _) hown' hgrow; have hc1 := hv1.cell; have hf1 := hv1.frozen)
  exact ⟨hk2.from _, hk2.walks, ⟨⟨⟨_, hv2, by have h9 := hr2; simp at h9 ⊢; exact h9, trivial⟩, hB.trans hb2⟩, by simp; omega⟩⟩
 case done =>
  rintro D ss W hD hS ⟨⟨⟨v, hv, hrow, _⟩, hB⟩, hpl⟩ hK
  have hc := hv.cell
  gi_wp2
  refine ⟨by simp, .inl ⟨_, _, rfl, run_takeDeferred hK, ?_⟩⟩
  exact ⟨_, results_tmp rfl _ _ _, v, ss, rfl, hS, hpl, ownsRow_putObj hrow _ hK rfl, hB.trans (belowK_b (w := w) (Nat.le_refl _) W D _ _ (by simp at hD; omega) hK rfl rfl)⟩
 case stop =>
  rintro D c pre W _ _ h _
  exact h.elim
end Go.Proofs.YtaoinkjjmakhaaaGreatDoor
namespace Go.Proofs
open Go.Shelf
def Tryz.sortP_ren : Go.Shelf.Ren := ⟨fun | 6 => 136 | 15 => 125 | 14 => 169 | 28 => 163 | 29 => 164 | 20 => 178 | 21 => 179 | 22 => 180 | 23 => 181 | 24 => 182 | 25 => 183 | 26 => 184 | 27 => 185 | 46 => 187 | 47 => 174 | 48 => 175 | 49 => 188 | 50 => 189 | 57 => 190 | n => n, fun | 22 => 96 | 24 => 86 | 25 => 172 | 3 => 3 | 39 => 210 | 0 => 0 | 53 => 246 | 55 => 68 | 4 => 4 | 46 => 240 | 45 => 239 | 50 => 60 | 5 => 5 | 9 => 9 | 66 => 253 | 70 => 256 | 76 => 263 | 77 => 264 | n => n, fun | n => n⟩
theorem Tryz.sortP : Go.Proofs.SlLaysF.n6 Tryz.prog Tryz.sortP_ren := {
 mixed := by kernel_rfl
 f6 := ⟨Tryz.f136.name, by decide, Tryz.func136.trans (congrArg some (by kernel_rfl))⟩
 f14 := ⟨Tryz.f169.name, by decide, Tryz.func169.trans (congrArg some (by kernel_rfl))⟩
 f15 := Tryz.func125.trans (congrArg some (by kernel_rfl))
 f20 := ⟨Tryz.f178.name, by decide, Tryz.func178.trans (congrArg some (by kernel_rfl))⟩
 f21 := ⟨Tryz.f179.name, by decide, Tryz.func179.trans (congrArg some (by kernel_rfl))⟩
 f22 := ⟨Tryz.f180.name, by decide, Tryz.func180.trans (congrArg some (by kernel_rfl))⟩
 f23 := ⟨Tryz.f181.name, by decide, Tryz.func181.trans (congrArg some (by kernel_rfl))⟩
 f24 := ⟨Tryz.f182.name, by decide, Tryz.func182.trans (congrArg some (by kernel_rfl))⟩
 f25 := ⟨Tryz.f183.name, by decide, Tryz.func183.trans (congrArg some (by kernel_rfl))⟩
 f26 := ⟨Tryz.f184.name, by decide, Tryz.func184.trans (congrArg some (by kernel_rfl))⟩
 f27 := ⟨Tryz.f185.name, by decide, Tryz.func185.trans (congrArg some (by kernel_rfl))⟩
 f28 := Tryz.func163.trans (congrArg some (by kernel_rfl))
 f29 := Tryz.func164.trans (congrArg some (by kernel_rfl))
 f46 := ⟨Tryz.f187.name, by decide, Tryz.func187.trans (congrArg some (by kernel_rfl))⟩
 f47 := Tryz.func174.trans (congrArg some (by kernel_rfl))
 f48 := Tryz.func175.trans (congrArg some (by kernel_rfl))
 f49 := ⟨Tryz.f188.name, by decide, Tryz.func188.trans (congrArg some (by kernel_rfl))⟩
 f50 := ⟨Tryz.f189.name, by decide, Tryz.func189.trans (congrArg some (by kernel_rfl))⟩
 f57 := ⟨Tryz.f190.name, by decide, Tryz.func190.trans (congrArg some (by kernel_rfl))⟩
 t0 := Tryz.underlying0
 a0 := Tryz.isAgg0
 z0 := Tryz.sizeOf0
 v0 := Tryz.zeroValue0
 t3 := Tryz.underlying3
 a3 := Tryz.isAgg3
 z3 := Tryz.sizeOf3
 v3 := Tryz.zeroValue3
 t4 := Tryz.underlying4
 a4 := Tryz.isAgg4
 z4 := Tryz.sizeOf4
 v4 := Tryz.zeroValue4
 t5 := Tryz.underlying5
 a5 := Tryz.isAgg5
 z5 := Tryz.sizeOf5
 v5 := Tryz.zeroValue5
 t9 := Tryz.underlying9
 a9 := Tryz.isAgg9
 z9 := Tryz.sizeOf9
 v9 := Tryz.zeroValue9
 t22 := Tryz.underlying96
 a22 := Tryz.isAgg96
 z22 := Tryz.sizeOf96
 v22 := Tryz.zeroValue96
 a24 := Tryz.isAgg86
 z24 := Tryz.sizeOf86
 t25 := Tryz.underlying172
 a25 := Tryz.isAgg172
 z25 := Tryz.sizeOf172
 v25 := Tryz.zeroValue172
 t39 := Tryz.underlying210
 a39 := Tryz.isAgg210
 z39 := Tryz.sizeOf210
 v39 := Tryz.zeroValue210
 t45 := Tryz.underlying239
 a45 := Tryz.isAgg239
 z45 := Tryz.sizeOf239
 v45 := Tryz.zeroValue239
 t46 := Tryz.underlying240
 a46 := Tryz.isAgg240
 z46 := Tryz.sizeOf240
 v46 := Tryz.zeroValue240
 t50 := Tryz.underlying60
 a50 := Tryz.isAgg60
 z50 := Tryz.sizeOf60
 v50 := Tryz.zeroValue60
 t53 := Tryz.underlying246
 a53 := Tryz.isAgg246
 z53 := Tryz.sizeOf246
 v53 := Tryz.zeroValue246
 t55 := Tryz.underlying68
 a55 := Tryz.isAgg68
 z55 := Tryz.sizeOf68
 v55 := Tryz.zeroValue68
 t66 := Tryz.underlying253
 a66 := Tryz.isAgg253
 z66 := Tryz.sizeOf253
 v66 := Tryz.zeroValue253
 t70 := Tryz.underlying256
 a70 := Tryz.isAgg256
 z70 := Tryz.sizeOf256
 v70 := Tryz.zeroValue256
 t76 := Tryz.underlying263
 a76 := Tryz.isAgg263
 z76 := Tryz.sizeOf263
 v76 := Tryz.zeroValue263
 t77 := Tryz.underlying264
 a77 := Tryz.isAgg264
 z77 := Tryz.sizeOf264
 v77 := Tryz.zeroValue264 }
end Go.Proofs
namespace Go.Proofs
open Go.Shelf
def Tryz.sortD_ren : Go.Shelf.Ren := ⟨fun | 6 => 69 | 15 => 125 | 14 => 124 | 28 => 163 | 29 => 164 | 20 => 155 | 21 => 156 | 22 => 157 | 23 => 158 | 24 => 159 | 25 => 160 | 26 => 161 | 27 => 162 | 46 => 173 | 47 => 174 | 48 => 175 | 49 => 176 | 50 => 177 | 57 => 186 | n => n, fun | 22 => 66 | 24 => 32 | 25 => 147 | 3 => 3 | 39 => 210 | 0 => 0 | 53 => 246 | 55 => 68 | 4 => 4 | 46 => 240 | 45 => 239 | 50 => 60 | 5 => 5 | 9 => 9 | 66 => 253 | 70 => 256 | 76 => 263 | 77 => 264 | n => n, fun | n => n⟩
theorem Tryz.sortD : Go.Proofs.SlLaysF0.n6 Tryz.prog Tryz.sortD_ren := {
 mixed := by kernel_rfl
 f6 := ⟨Tryz.f69.name, by decide, Tryz.func69.trans (congrArg some (by kernel_rfl))⟩
 f14 := ⟨Tryz.f124.name, by decide, Tryz.func124.trans (congrArg some (by kernel_rfl))⟩
 f15 := Tryz.func125.trans (congrArg some (by kernel_rfl))
 f20 := ⟨Tryz.f155.name, by decide, Tryz.func155.trans (congrArg some (by kernel_rfl))⟩
 f21 := ⟨Tryz.f156.name, by decide, Tryz.func156.trans (congrArg some (by kernel_rfl))⟩
 f22 := ⟨Tryz.f157.name, by decide, Tryz.func157.trans (congrArg some (by kernel_rfl))⟩
 f23 := ⟨Tryz.f158.name, by decide, Tryz.func158.trans (congrArg some (by kernel_rfl))⟩
 f24 := ⟨Tryz.f159.name, by decide, Tryz.func159.trans (congrArg some (by kernel_rfl))⟩
 f25 := ⟨Tryz.f160.name, by decide, Tryz.func160.trans (congrArg some (by kernel_rfl))⟩
 f26 := ⟨Tryz.f161.name, by decide, Tryz.func161.trans (congrArg some (by kernel_rfl))⟩
 f27 := ⟨Tryz.f162.name, by decide, Tryz.func162.trans (congrArg some (by kernel_rfl))⟩
 f28 := Tryz.func163.trans (congrArg some (by kernel_rfl))
 f29 := Tryz.func164.trans (congrArg some (by kernel_rfl))
 f46 := ⟨Tryz.f173.name, by decide, Tryz.func173.trans (congrArg some (by kernel_rfl))⟩
 f47 := Tryz.func174.trans (congrArg some (by kernel_rfl))
 f48 := Tryz.func175.trans (congrArg some (by kernel_rfl))
 f49 := ⟨Tryz.f176.name, by decide, Tryz.func176.trans (congrArg some (by kernel_rfl))⟩
 f50 := ⟨Tryz.f177.name, by decide, Tryz.func177.trans (congrArg some (by kernel_rfl))⟩
 f57 := ⟨Tryz.f186.name, by decide, Tryz.func186.trans (congrArg some (by kernel_rfl))⟩
 t0 := Tryz.underlying0
 a0 := Tryz.isAgg0
 z0 := Tryz.sizeOf0
 v0 := Tryz.zeroValue0
 t3 := Tryz.underlying3
 a3 := Tryz.isAgg3
 z3 := Tryz.sizeOf3
 v3 := Tryz.zeroValue3
 t4 := Tryz.underlying4
 a4 := Tryz.isAgg4
 z4 := Tryz.sizeOf4
 v4 := Tryz.zeroValue4
 t5 := Tryz.underlying5
 a5 := Tryz.isAgg5
 z5 := Tryz.sizeOf5
 v5 := Tryz.zeroValue5
 t9 := Tryz.underlying9
 a9 := Tryz.isAgg9
 z9 := Tryz.sizeOf9
 v9 := Tryz.zeroValue9
 t22 := Tryz.underlying66
 a22 := Tryz.isAgg66
 z22 := Tryz.sizeOf66
 v22 := Tryz.zeroValue66
 t25 := Tryz.underlying147
 a25 := Tryz.isAgg147
 z25 := Tryz.sizeOf147
 v25 := Tryz.zeroValue147
 t39 := Tryz.underlying210
 a39 := Tryz.isAgg210
 z39 := Tryz.sizeOf210
 v39 := Tryz.zeroValue210
 t45 := Tryz.underlying239
 a45 := Tryz.isAgg239
 z45 := Tryz.sizeOf239
 v45 := Tryz.zeroValue239
 t46 := Tryz.underlying240
 a46 := Tryz.isAgg240
 z46 := Tryz.sizeOf240
 v46 := Tryz.zeroValue240
 t50 := Tryz.underlying60
 a50 := Tryz.isAgg60
 z50 := Tryz.sizeOf60
 v50 := Tryz.zeroValue60
 t53 := Tryz.underlying246
 a53 := Tryz.isAgg246
 z53 := Tryz.sizeOf246
 v53 := Tryz.zeroValue246
 t55 := Tryz.underlying68
 a55 := Tryz.isAgg68
 z55 := Tryz.sizeOf68
 v55 := Tryz.zeroValue68
 t66 := Tryz.underlying253
 a66 := Tryz.isAgg253
 z66 := Tryz.sizeOf253
 v66 := Tryz.zeroValue253
 t70 := Tryz.underlying256
 a70 := Tryz.isAgg256
 z70 := Tryz.sizeOf256
 v70 := Tryz.zeroValue256
 t76 := Tryz.underlying263
 a76 := Tryz.isAgg263
 z76 := Tryz.sizeOf263
 v76 := Tryz.zeroValue263
 t77 := Tryz.underlying264
 a77 := Tryz.isAgg264
 z77 := Tryz.sizeOf264
 v77 := Tryz.zeroValue264 }
end Go.Proofs
namespace Go.Proofs.YtaoinkjjmakhaaaGreatDoor
open Go.RowKit
set_option maxRecDepth 20000
def kdc (ks : List Kd) : List Value := (ks.map fun k => [Value.string k.1, .int .i64 k.2]).flatten
theorem kdc_hd (ks : List Kd) : HdL 2 (fun (k : Kd) r => r = [Value.string k.1, .int .i64 k.2]) (kdc ks) ks :=
 ⟨ks.map fun k => [Value.string k.1, .int .i64 k.2], rfl, by simp, fun r hr => by obtain ⟨k, _, rfl⟩ := List.mem_map.1 hr; rfl, fun j k hk => ⟨_, by simp [hk], rfl⟩⟩
theorem KRd.row {w : World} {a : Addr} {n : Nat} {ks : List Kd} (h : KRd w (some a) n ks) : VRow (fun _ => True) w (some a) n 2 (kdc ks) := by
 refine ⟨by rw [(kdc_hd ks).len, h.1], (fun e => by cases e), fun hp => ?_⟩
 obtain ⟨b, o, e, hlt, hc⟩ := h.2 hp
 refine ⟨b, o, e, trivial, hlt, fun j u hj => ?_⟩
 obtain ⟨ch, hch, hl, hz, hx⟩ := kdc_hd ks
 have hjl : j < (kdc ks).length := (List.getElem?_eq_some_iff.1 hj).1
 rw [(kdc_hd ks).len] at hjl
 have hq : j / 2 < ks.length := by omega
 obtain ⟨r, hr, he⟩ := hx (j / 2) ks[j / 2] (List.getElem?_eq_getElem hq)
 obtain ⟨h0, h1⟩ := hc (j / 2) hq
 have hg := flatg_get hz hr (i := j % 2) (by omega)
 rw [<- hch, show j / 2 * 2 + j % 2 = j by omega, hj] at hg
 rcases (by omega : j % 2 = 0 \/ j % 2 = 1) with hm | hm
 ·rw [hm, he] at hg
  rw [show o + j = o + j / 2 * 2 by omega, h0]
  simpa using hg.symm
 ·rw [hm, he] at hg
  rw [show o + j = o + j / 2 * 2 + 1 by omega, h1]
  simpa using hg.symm
theorem KRd.of_row {w : World} {K : Nat -> Prop} {A : Option Addr} {n : Nat} {ks : List Kd} (h : VRow K w A n 2 (kdc ks)) (hn : ks.length = n) : KRd w A n ks := by
 refine ⟨hn, fun hp => ?_⟩
 obtain ⟨b, o, e, _, hlt, hc⟩ := h.2.2 hp
 refine ⟨b, o, e, hlt, fun j hj => ?_⟩
 obtain ⟨ch, hch, hl, hz, hx⟩ := kdc_hd ks
 obtain ⟨r, hr, he⟩ := hx j ks[j] (List.getElem?_eq_getElem hj)
 have g0 := flatg_get hz hr (i := 0) (by omega)
 have g1 := flatg_get hz hr (i := 1) (by omega)
 rw [<- hch, he] at g0 g1
 exact ⟨hc (j * 2) _ (by simpa using g0), by rw [Nat.add_assoc]; exact hc (j * 2 + 1) _ (by simpa using g1)⟩
theorem comps_nil_eq (w : World) (a : Option Addr) (n c n' c' : Nat) : (binOp .eql 22 (.slice a n c) (.slice none n' c')).run Tryz.prog w = .ok (.bool a.isNone) w := Lib.run_eql_slice_nil w _ _ a n c n' c' Tryz.underlying22
theorem kclone_any (A : Option Addr) (n c : Nat) (ks : List Kd) (w : World) (h : KRd w A n ks) (hn : n <= 1000000) :
  Calls Tryz.prog 77 #[.slice A n c] w fun e w' => ∃ A' c', e = .returned (.slice A' n c') /\ KRd w' A' n ks /\ (∀ b o, A' = some ⟨b, o, none⟩ -> w.heap.size <= b /\ b < w'.heap.size) /\ Below w.heap.size w w' := by
 rcases A with _ | ad
 ·have h0 : n = 0 := Nat.eq_zero_of_not_pos (fun hp => by obtain ⟨b, o, e, _⟩ := h.2 hp; cases e)
  subst h0
  have hl : ks = [] := List.eq_nil_of_length_eq_zero h.1
  subst hl
  clear h
  have q := comps_nil_eq
  go_enter Tryz.func77, Tryz.ntmps77
  go_wp2
  go_ret
  exact ⟨none, 0, rfl, KRd.nil _ _, (fun b o e => by cases e), Below.refl _ _⟩
 ·have ho : (w.alloc (.cells #[] 59)).ownsRow w.heap.size 59 2 (.slice (some ⟨w.heap.size, 0, none⟩) 0 0) 0 [] := World.ownsRow_lit w #[] 0 (Nat.le_refl _) (Nat.zero_le _) rfl
  have hv1 := h.row.below ((Below.refl _ _).alloc (Nat.le_refl _) (.cells #[] 59))
  have hl := h.1
  have HO := hi_ ho
  have HV1 := hi_ hv1
  clear h hv1 ho
  have q := comps_nil_eq
  have H1 : Hid (∀ u ∈ kdc ks, u.oneCell' = true) := hi_ ((kdc_hd ks).one (fun k r hr u hu => by subst hr; simp at hu; rcases hu with rfl | rfl <;> rfl))
  go_enter Tryz.func77, Tryz.ntmps77
  go_wp2_with (at_builtin; refine wpList_appW compsT rfl (.tmp 5) (.tmp 6) rfl w.heap.size _ 0 [] rfl HO.out (some ad) n c (kdc ks) rfl HV1.out H1.out (by omega) (by decide) (by simp) ?_; intro v2 w2 ho2 hg2; rw [Nat.zero_add, List.nil_append] at ho2)
  go_ret
  obtain ⟨A', c', rfl, _, _, hV⟩ := own_vrow ho2
  refine ⟨A', c', rfl, KRd.of_row hV hl, fun b o e => ?_, ((Below.refl _ _).alloc (Nat.le_refl _) _).grown hg2 (by simp) (fun q hq => (own_geB HO.out hq).1)⟩
  have := own_geB ho2 (show (Value.slice A' n c').ownBlock = some b by rw [e]; rfl)
  exact this
theorem wpList_ldC {ops : Array Oper} {rest : List Oper} {o : Oper} {a : Act} {w : World} {Q : Exit -> Act -> World -> Prop} {g : Nat} {lg pg en gn : Int} {A : Option Addr} {n cap : Nat} (hgd : Region.wanted o (yielded ops a.tmps) = true) (x : Operand) (ho : o.op = .load 24 x)
  (hx : a.eval x = .pointer (some ⟨g, 0, none⟩)) (h : Rec 24 w g (cc lg pg en gn A n cap)) (kk : wpList Tryz.prog ops Q rest (a.put o.dst (cv lg pg en gn A n cap)) w) : wpList Tryz.prog ops Q (o :: rest) a w :=
 wpList_ldS confT rfl hgd x ho hx h kk
theorem wpList_stC {ops : Array Oper} {rest : List Oper} {o : Oper} {a : Act} {w : World} {Q : Exit -> Act -> World -> Prop} {g : Nat} {cs : Array Value} (lg pg en gn : Int) (A : Option Addr) (n cap : Nat) (hn : cs.size = 5) (hgd : Region.wanted o (yielded ops a.tmps) = true) (x y : Operand) (ho : o.op = .store 24 x y)
  (hx : a.eval x = .pointer (some ⟨g, 0, none⟩)) (hy : a.eval y = cv lg pg en gn A n cap) (h : Rec 24 w g cs)
  (kk : ∀ w', Rec 24 w' g (cc lg pg en gn A n cap) -> Fr (· = g) w w' -> wpList Tryz.prog ops Q rest (a.put o.dst undef) w') : wpList Tryz.prog ops Q (o :: rest) a w :=
 wpList_stS confT hn rfl (by simp [Value.oneCell']) hgd x y ho hx hy h kk
abbrev ccZ : Array Value := #[.int .i64 0, .int .i64 0, .int .i64 0, .int .i64 0, .slice none 0 0]
theorem ccZ_size : ccZ.size = 5 := rfl
variable (lg pg en gn : Int) (A : Option Addr) (n cap : Nat) (ks : List Kd) (w : World)
theorem conf_set {w : World} {g : Nat} (h : Rec 24 w g (cc lg pg en gn A n cap)) (A' : Option Addr) (n' c' : Nat) : Rec 24 (w.setCell ⟨g, 4, none⟩ (.slice A' n' c')) g (cc lg pg en gn A' n' c') := h.set 4 _
theorem own_any (h : KRd w A n ks) (hn : n <= 1000000) :
  Calls Tryz.prog 28 #[cv lg pg en gn A n cap] w fun e w' => ∃ A' c', e = .returned (cv lg pg en gn A' n c') /\ KRd w' A' n ks /\ (∀ b o, A' = some ⟨b, o, none⟩ -> w.heap.size <= b /\ b < w'.heap.size) /\ Below w.heap.size w w' := by
 obtain ⟨w1, hw1⟩ : ∃ w1, w1 = (w.alloc (.cells (cc lg pg en gn A n cap) 24)).alloc (.cells #[.int .i64 0, .int .i64 0, .int .i64 0, .int .i64 0, .slice none 0 0] 24) := ⟨_, rfl⟩
 have hb1 : Below w.heap.size w w1 := by rw [hw1]; exact ((Below.refl _ _).alloc (Nat.le_refl _) _).alloc (by simp) _
 have r1 : Rec 24 w1 w.heap.size (cc lg pg en gn A n cap) := by rw [hw1]; exact (Rec.new w _ _).under ((Below.refl _ _).alloc (Nat.le_refl _) _)
 have r2 : Rec 24 w1 (w.heap.size + 1) ccZ := by
  have := Rec.new (w.alloc (.cells (cc lg pg en gn A n cap) 24)) 24 #[.int .i64 0, .int .i64 0, .int .i64 0, .int .i64 0, .slice none 0 0]
  rw [World.size_alloc] at this
  rw [hw1]; exact this
 have CK := hi_ (kclone_any A n cap ks w1 (h.below hb1) hn)
 have k4 := r1.at_ 4
 have hs1 : w1.heap.size = w.heap.size + 2 := by rw [hw1]; simp
 have HB1 := hi_ (And.intro hb1 (And.intro r1 (And.intro r2 hs1)))
 clear h hb1 r1 r2 hs1
 go_enter Tryz.func28, Tryz.ntmps28
 go_upto_region 2 with (first
  | (rw [<- hw1]; clear hw1)
  | (go_at_call 77; (refine CK.out.mono ?_; rintro e w2 ⟨A', c', rfl, hk2, ha2, hb2⟩; have HK2 := hi_ (And.intro hk2 (And.intro ha2 hb2)); have R2 := hi_ (HB1.out.2.1.under hb2); have R3 := hi_ (HB1.out.2.2.1.under hb2); have f2 := R2.out.fz 4; have k2 := R2.out.at_ 4; obtain ⟨w3, hw3⟩ : ∃ w3, w3 = w2.setCell ⟨w.heap.size, 4, none⟩ (.slice A' n c') := ⟨_, rfl⟩; have R4 := hi_ (show Rec 24 w3 w.heap.size (cc lg pg en gn A' n c') by rw [hw3]; exact conf_set _ _ _ _ _ _ _ R2.out _ _ _); have HF3 := hi_ (show Fr (· = w.heap.size) w2 w3 by rw [hw3]; exact Fr.setCell (own := fun y => y = w.heap.size) w2 (p := ⟨w.heap.size, 4, none⟩) rfl _); clear hk2 ha2 hb2 k4)))
 rw [<- hw3]
 clear hw3 f2 k2
 go_wp2_with (first
  | (with_reducible refine wpList_ldC rfl (.tmp 1) rfl rfl R4.out ?_)
  | ((with_reducible refine wpList_stC lg pg en gn A' n c' ccZ_size rfl (.tmp 2) (.tmp 7) rfl rfl rfl (R3.out.fr HF3.out (fun e => by have e' : w.heap.size + 1 = w.heap.size := e; omega)) ?_); intro w5 hR5 hF5))
 refine bodyPost_ret (res_c rfl rfl (hR5.load confT rfl)) rfl ?_
 obtain ⟨b1, _, _, hs1⟩ := HB1.out
 obtain ⟨hk, ha, hb⟩ := HK2.out
 have F35 : Fr (fun y => y = w.heap.size \/ y = w.heap.size + 1) w2 w5 := (HF3.out.mono (fun y hy => .inl hy)).trans (hF5.mono (fun y hy => .inr hy))
 refine ⟨A', c', rfl, hk.fr F35 (fun b o e hy => ?_), fun b o e => ?_, (b1.trans (hb.mono b1.size)).trans (F35.toBelow (fun y hy => ?_) (Nat.le_trans b1.size hb.size))⟩
 ·have := (ha b o e).1
  rcases hy with hy | hy <;> omega
 ·have := ha b o e
  have := b1.size
  have := F35.size
  omega
 ·rcases hy with hy | hy <;> omega
end Go.Proofs.YtaoinkjjmakhaaaGreatDoor
