/- MapE, EcK, EcA -/
import Derived.Test.YthiknmhkdeicjaaGreatDoorQs1
import Derived.Test.YthiknmhkdeicjaaGreatDoorQs4
import Derived.Test.YthiknmhkdeicjaaGreatDoorQs5
import Derived.Test.YthiknmhkdeicjaaGreatDoorQs6
import Derived.Test.YthiknmhkdeicjaaGreatDoorQs8
import Derived.Test.YthiknmhkdeicjaaGreatDoorQs9
import Derived.Deep.DeepCutAuto
import Derived.BigQuiet
import Derived.Deep.QuietTactic
namespace Go.Proofs.YthiknmhkdeicjaaGreatDoor
open Go.RowKit Go.Maps
def MapE (P : Program) (k : TypeId) {ι : Type} (lit : ι -> Lit) (ok : ι -> Prop) (z : Value) (w : World) (m n : Nat) (f : ι -> Option Value) : Prop :=
 ∃ D : DataW Value, w.ownsMap P k itself m n D /\ Maps.size D = n /\ (∀ i, ok i -> D.atKey (lit i) (.held z) = .held ((f i).getD z)) /\ (∀ i, ok i -> Maps.has D (lit i) = (f i).isSome) /\ ∀ kl, Maps.has D kl = true -> ∃ i, ok i /\ kl = lit i
section
variable {P : Program} {k e T : TypeId} {ι : Type} {val : ι -> Value} {lit : ι -> Lit} {ok : ι -> Prop} {z : Value} {w w' : World} {m n : Nat} {f : ι -> Option Value}
theorem MapE.made (P : Program) (k : TypeId) (lit : ι -> Lit) (ok : ι -> Prop) (z : Value) (w : World) : MapE P k lit ok z (w.alloc (.map #[] 0)) w.heap.size 0 (fun _ => none) :=
 ⟨.map [], World.ownsMap_made w P k itself, rfl, fun _ _ => rfl, fun _ _ => rfl, fun kl h => by cases h⟩
theorem MapE.lt (h : MapE P k lit ok z w m n f) : m < w.heap.size := by obtain ⟨D, ho, _⟩ := h; exact ho.lt
theorem MapE.block (h : MapE P k lit ok z w m n f) (hb : w'.heap[m]? = w.heap[m]?) : MapE P k lit ok z w' m n f := by
 obtain ⟨D, ⟨es, clock, hm, r⟩, h2⟩ := h
 exact ⟨D, ⟨es, clock, hb.trans hm, r⟩, h2⟩
theorem MapE.fr {own : Nat -> Prop} (h : MapE P k lit ok z w m n f) (hf : Fr own w w') (hn : ¬ own m) : MapE P k lit ok z w' m n f := h.block (hf.block m h.lt hn)
theorem MapE.below (h : MapE P k lit ok z w m n f) (hb : Below w.heap.size w w') : MapE P k lit ok z w' m n f := h.block (hb.block m h.lt)
theorem MapE.congr {f' : ι -> Option Value} (h : MapE P k lit ok z w m n f) (hf : ∀ i, ok i -> f i = f' i) : MapE P k lit ok z w m n f' := by
 obtain ⟨D, ho, h0, h1, h2, h3⟩ := h
 exact ⟨D, ho, h0, fun i hi => by rw [h1 i hi, hf i hi], fun i hi => by rw [h2 i hi, hf i hi], h3⟩
theorem MapE.look_ok (K : Kf P k val lit ok) (h : MapE P k lit ok z w m n f) (hT : P.underlying T = some (.map k e)) (hz : (zeroValue e).run P w = .ok z w) {i : ι} (hi : ok i) :
  (Instr.lookup T (.map (some m)) (val i) true).run P w = .ok (.tuple #[(f i).getD z, .bool (f i).isSome]) w := by
 obtain ⟨D, ho, _, hat, hh, _⟩ := h
 obtain ⟨v, ps, hrun, hv⟩ := ho.look_ok K.law hT hz (zd := .held z) (zp := []) rfl (K.key hi)
 rw [hat i hi] at hv
 simp only [itself, Option.some.injEq, Prod.mk.injEq, DataW.held.injEq] at hv
 rw [hrun, hv.1, hh i hi]
theorem MapE.look (K : Kf P k val lit ok) (h : MapE P k lit ok z w m n f) (hT : P.underlying T = some (.map k e)) (hz : (zeroValue e).run P w = .ok z w) {i : ι} (hi : ok i) :
  (Instr.lookup T (.map (some m)) (val i) false).run P w = .ok ((f i).getD z) w := by
 obtain ⟨D, ho, _, hat, _⟩ := h
 obtain ⟨v, ps, hrun, hv⟩ := ho.lookup K.law hT hz (zd := .held z) (zp := []) rfl (K.key hi)
 rw [hat i hi] at hv
 simp only [itself, Option.some.injEq, Prod.mk.injEq, DataW.held.injEq] at hv
 rw [hrun, hv.1]
theorem MapE.put [DecidableEq ι] (K : Kf P k val lit ok) (h : MapE P k lit ok z w m n f) (hT : P.underlying T = some (.map k e)) (hn : n < maxLen) {i : ι} (hi : ok i) (v : Value) :
  ∃ w', (Instr.mapUpdate T (.map (some m)) (val i) v).run P w = .ok () w' /\ MapE P k lit ok z w' m (if (f i).isSome = true then n else n + 1) (fun j => if j = i then some v else f j) /\ w.grownBy w' (some m) := by
 obtain ⟨D, ho, hs, hat, hh, hk⟩ := h
 obtain ⟨w', hrun, ho', hg⟩ := ho.update K.law hT hn (val := v) (d := .held v) (ps := []) (K.key hi) rfl
 have hkl := K.law.key (K.key hi)
 have hsz := Maps.size_put (k := lit i) (ho.tidy K.law) (.held v)
 rw [hh i hi, hs] at hsz
 refine ⟨w', hrun, ⟨_, by rw [<- hsz]; exact ownsMap_tight ho', hsz, fun j hj => ?_, fun j hj => ?_, fun kl hkl' => ?_⟩, hg⟩
 ·by_cases e : j = i
  ·subst e
   simp only [if_true]
   exact Maps.atKey_put_same ho.isMap hkl _ _
  ·simp only [if_neg e]
   rw [Maps.atKey_put_other (fun h => e (K.inj hj hi h)), hat j hj]
 ·by_cases e : j = i
  ·subst e
   simp only [if_true]
   exact Maps.has_put_same ho.isMap hkl _
  ·simp only [if_neg e]
   rw [Maps.has_put_other (fun h => e (K.inj hj hi h)), hh j hj]
 ·by_cases e : kl = lit i
  ·exact ⟨i, hi, e⟩
  ·rw [Maps.has_put_other e] at hkl'
   exact hk kl hkl'
theorem MapE.drop [DecidableEq ι] (K : Kf P k val lit ok) (h : MapE P k lit ok z w m n f) (hT : P.underlying T = some (.map k e)) {i : ι} (hi : ok i) (ty : TypeId) :
  ∃ w', (Builtin.delete_ #[T, k] ty #[.map (some m), val i]).run P w = .ok (.tuple #[]) w' /\ MapE P k lit ok z w' m (if (f i).isSome = true then n - 1 else n) (fun j => if j = i then none else f j) /\ w.grownBy w' (some m) := by
 obtain ⟨D, ho, hs, hat, hh, hk⟩ := h
 obtain ⟨w', hrun, ho', hg⟩ := ho.drop K.law hT (K.key hi) ty
 have hsz := Maps.size_del (k := lit i) (ho.tidy K.law)
 rw [hh i hi, hs] at hsz
 have hsz' : Maps.size (D.del (lit i)) = if (f i).isSome = true then n - 1 else n := by split at hsz <;> rename_i hx <;> simp [hx] <;> omega
 refine ⟨w', hrun, ⟨_, by rw [<- hsz']; exact ownsMap_tight ho', hsz', fun j hj => ?_, fun j hj => ?_, fun kl hkl' => ?_⟩, World.mapTurned.grown hg⟩
 ·by_cases e : j = i
  ·subst e
   simp only [if_true]
   exact Maps.atKey_del_same _
  ·simp only [if_neg e]
   rw [Maps.atKey_del_other (fun h => e (K.inj hj hi h)), hat j hj]
 ·by_cases e : j = i
  ·subst e
   simp only [if_true]
   exact Maps.has_del_same
  ·simp only [if_neg e]
   rw [Maps.has_del_other (fun h => e (K.inj hj hi h)), hh j hj]
 ·by_cases e : kl = lit i
  ·rw [e, Maps.has_del_same] at hkl'; cases hkl'
  ·rw [Maps.has_del_other e] at hkl'
   exact hk kl hkl'
end
section
variable {P : Program} {ops : Array Oper} {o : Oper} {a : Act} {w : World} {K : Act -> World -> Prop} {Q : Exit -> Act -> World -> Prop} {E : Prop} {z : Value} {m n : Nat}
variable {ι : Type} {val : ι -> Value} {lit : ι -> Lit} {ok : ι -> Prop} {f : ι -> Option Value}
theorem step_dropE [DecidableEq ι] {k e T : TypeId} (KF : Kf P k val lit ok) (hT : P.underlying T = some (.map k e)) (hgd : Region.wanted o (yielded ops a.tmps) = true) (mo x : Operand) (ho : o.op = Op.call { callee := Callee.builtin Builtin.delete, args := #[mo, x], argTypes := #[T, k] })
  (h : MapE P k lit ok z w m n f) (i : ι) (hi : ok i) (hm : a.eval mo = .map (some m)) (hx : a.eval x = val i)
  (hK : ∀ w', MapE P k lit ok z w' m (if (f i).isSome = true then n - 1 else n) (fun j => if j = i then none else f j) -> w.grownBy w' (some m) -> K (a.put o.dst (.tuple #[])) w') :
  if Region.wanted o (yielded ops a.tmps) = true then Oper.wp P o a w K Q else E := by
 rw [if_pos hgd]
 obtain ⟨w', hrun, r1, r2⟩ := h.drop KF hT hi o.type
 unfold Oper.wp
 simp [execOp, ho, resolve, invoke, builtin, hm, hx, hrun, Result.andThen]
 exact hK w' r1 r2
end
end Go.Proofs.YthiknmhkdeicjaaGreatDoor
namespace Go.Proofs.YthiknmhkdeicjaaGreatDoor
open Go.RowKit
set_option maxRecDepth 20000
theorem plaT : RT Tryz.prog 105 2 := ⟨⟨_, Tryz.underlying105, rfl⟩, by kernel_rfl⟩
theorem entT : RT Tryz.prog 108 5 := ⟨⟨_, Tryz.underlying108, rfl⟩, by kernel_rfl⟩
def valN (n : Nat) : Value := .int .i64 (n : Int)
def litN (n : Nat) : Lit := .int .i64 (n : Int)
def okN (n : Nat) : Prop := n < 9223372036854775808
theorem kfN : Kf Tryz.prog 3 valN litN okN where
 law := Maps.int_keyed Tryz.underlying3
 key h := Maps.keyOf_int_mk Tryz.underlying3 (WalkArith.wf_i64 (by unfold okN at h; omega))
 inj _ _ e := by unfold litN at e; injection e with _ e; omega
theorem lawD : WideMaps.KeyLaw Tryz.prog 39 := deep_law_laid laidOutG (m := 2) (by omega) (of_decide_eq_true (by kernel_rfl)) (by kernel_rfl) (by kernel_rfl)
theorem keyD {x : Int × Int} (h : okE x) : keyOf Tryz.prog 39 (valE x) = some (litE x) := by
 obtain ⟨a, b⟩ := x
 obtain ⟨h1, h2⟩ := h
 simp only at h1 h2
 have hk : Tryz.prog.keyType 39 = true := by kernel_rfl
 have hc : Tryz.prog.cellsOf 39 = 2 := by kernel_rfl
 have hc1 : Tryz.prog.cellsOf 3 = 1 := by kernel_rfl
 obtain ⟨D, hD⟩ : ∃ D, Tryz.prog.types.size = D + 1 := ⟨Tryz.prog.types.size - 1, by have : 0 < Tryz.prog.types.size := of_decide_eq_true (by kernel_rfl); omega⟩
 have hf : (valE (a, b)).formed Tryz.prog 39 = true := by simp [valE, Value.formed, Tryz.underlying39, hc]
 have hl : Tryz.prog.keyLits (Tryz.prog.types.size + 1) 39 (valE (a, b)).cells.toList = some [.int .i64 a, .int .i64 b] := by
  rw [hD]
  simp [Program.keyLits, Tryz.underlying39, Tryz.underlying3, valE, Value.cells, hc, hc1, h1, h2]
 simp only [keyOf, Tryz.underlying39, hk, hf, hl, Bool.and_self, if_true, Option.map_some]
 rfl
theorem kfD : Kf Tryz.prog 39 valE litE okE where
 law := Maps.Keyed.of_law lawD
 key h := keyD h
 inj {i j} hi hj e := by
  have := (Maps.Keyed.of_law lawD).inj (keyD hi) (by rw [e]; exact keyD hj)
  obtain ⟨a, b⟩ := i
  obtain ⟨c, d⟩ := j
  simp [valE] at this
  rw [this.1, this.2]
structure Ks where
 ns : NS
 S : List Nat
 tb : Nat -> Option Tb
 pl : Int × Int -> Option (Nat × Nat)
structure Fx where
 p : Nat
 pi : Nat
 pg : Nat
 m1 : Nat
 m2 : Nat
 mt : Nat
 mp : Nat
 lg : Int
 ps : Int
 en : Int
 gn : Int
 A : Option Addr
 n : Nat
 cap : Nat
 ks : List Kd
def Fx.cs (x : Fx) : Array Value := #[.int .i64 x.lg, .int .i64 x.ps, .int .i64 x.en, .int .i64 x.gn, .slice x.A x.n x.cap, .pointer (some ⟨x.pi, 0, none⟩), .pointer (some ⟨x.pg, 0, none⟩), .map (some x.mt), .map (some x.mp)]
def tbV (tb : Nat -> Option Tb) (pt : Nat -> Nat) (i : Nat) : Option Value := (tb i).map fun _ => .pointer (some ⟨pt i, 0, none⟩)
def plV (x : Nat × Nat) : Value := .agg #[.int .i64 (x.1 : Int), .int .i64 (x.2 : Int)]
def plF (pl : Int × Int -> Option (Nat × Nat)) (id : Int × Int) : Option Value := (pl id).map plV
abbrev MapT (w : World) (m n : Nat) (f : Nat -> Option Value) : Prop := MapE Tryz.prog 3 litN okN (.pointer none) w m n f
abbrev MapP (w : World) (m n : Nat) (f : Int × Int -> Option Value) : Prop := MapE Tryz.prog 39 litE okE (.agg #[.int .i64 0, .int .i64 0]) w m n f
structure CoJ (j : Nat) (w : World) (N : Nat) (gr : Nat -> Nat) (x : Fx) (k : Ks) (c : Nat) (pt : Nat -> Nat) : Prop where
 blk : Rec 86 w x.p x.cs
 kd : KRd w x.A x.n x.ks
 kA : ∀ b o, x.A = some ⟨b, o, none⟩ -> gr b = 7
 ids : j ≠ 4 -> ∃ gv av fv, IAt w (fun y => gr y = 4) x.pi gv av fv k.ns
 gph : j ≠ 5 -> ∃ sv ed b, b <= 2 * c /\ GAt w (fun y => gr y = 5) x.pg sv x.m1 x.m2 k.S ed b
 mpt : j ≠ 2 -> ∃ nt, nt <= c /\ MapT w x.mt nt (tbV k.tb pt)
 mpp : j ≠ 3 -> ∃ np, np <= c /\ MapP w x.mp np (plF k.pl)
 tab : ∀ i t, i + 8 ≠ j -> k.tb i = some t -> ∃ s tag m v q, k.S[i]? = some s /\ TbA w N tag (pt i) m v q s t /\ ∀ y, tag y ≠ 0 -> gr y = i + 8
 gp : gr x.p = 1
 gt : gr x.mt = 2
 gm : gr x.mp = 3
 dom : ∀ y, gr y ≠ 0 -> y < w.heap.size
 lo : ∀ y, gr y ≠ 0 -> N <= y
theorem KRd.fr {own : Nat -> Prop} {w w' : World} {A : Option Addr} {n : Nat} {ks : List Kd} (h : KRd w A n ks) (hf : Fr own w w') (hn : ∀ b o, A = some ⟨b, o, none⟩ -> ¬ own b) : KRd w' A n ks :=
 ⟨h.1, fun hp => by
  obtain ⟨b, o, e, hlt, hc⟩ := h.2 hp
  refine ⟨b, o, e, Nat.lt_of_lt_of_le hlt hf.size, fun j hj => ?_⟩
  obtain ⟨h0, h1⟩ := hc j hj
  have hb := hf.block b hlt (hn b o e)
  exact ⟨(World.cell?_of_block (w := w) (a := ⟨b, o + j * 2, none⟩) hb).trans h0, (World.cell?_of_block (w := w) (a := ⟨b, o + j * 2 + 1, none⟩) hb).trans h1⟩⟩
def grw (gr : Nat -> Nat) (w w' : World) (j : Nat) (y : Nat) : Nat := if y < w.heap.size then gr y else if y < w'.heap.size then j else 0
section
variable {j : Nat} {w w' w'' : World} {N : Nat} {gr gr' : Nat -> Nat} {x : Fx} {k : Ks} {c : Nat} {pt : Nat -> Nat}
theorem CoJ.Nle (h : CoJ j w N gr x k c pt) : N <= w.heap.size := Nat.le_of_lt (Nat.lt_of_le_of_lt (h.lo x.p (by rw [h.gp]; decide)) h.blk.lt)
theorem CoJ.cell (h : CoJ j w N gr x k c pt) (i : Nat) : w.cell? ⟨x.p, i, none⟩ = x.cs[i]? := h.blk.at_ i
theorem CoJ.kept {own' : Nat -> Prop} (h : CoJ j w N gr x k c pt) (hf : Fr own' w w') (hd : ∀ y, gr y ≠ 0 -> ¬ own' y) : CoJ j w' N gr x k c pt where
 blk := h.blk.fr hf (hd _ (by rw [h.gp]; decide))
 kd := h.kd.fr hf (fun b o e => hd b (by rw [h.kA b o e]; decide))
 kA := h.kA
 ids hj := by
  obtain ⟨gv, av, fv, I⟩ := h.ids hj
  exact ⟨gv, av, fv, I.kept hf (fun y hy => hd y (by rw [show gr y = 4 from hy]; decide))⟩
 gph hj := by
  obtain ⟨sv, ed, b, hb, I⟩ := h.gph hj
  exact ⟨sv, ed, b, hb, I.kept hf (fun y hy => hd y (by rw [show gr y = 5 from hy]; decide))⟩
 mpt hj := by
  obtain ⟨nt, hb, I⟩ := h.mpt hj
  exact ⟨nt, hb, I.fr hf (hd _ (by rw [h.gt]; decide))⟩
 mpp hj := by
  obtain ⟨nt, hb, I⟩ := h.mpp hj
  exact ⟨nt, hb, I.fr hf (hd _ (by rw [h.gm]; decide))⟩
 tab i t hi ht := by
  obtain ⟨s, tag, m, v, q, hs, hA, hg⟩ := h.tab i t hi ht
  exact ⟨s, tag, m, v, q, hs, hA.kept hf (fun y hy => hd y (by rw [hg y hy]; omega)), hg⟩
 gp := h.gp
 gt := h.gt
 gm := h.gm
 dom y hy := Nat.lt_of_lt_of_le (h.dom y hy) hf.size
 lo := h.lo
theorem CoJ.below (h : CoJ j w N gr x k c pt) (hb : Below w.heap.size w w') : CoJ j w' N gr x k c pt := h.kept (own' := fun _ => False) (Fr.ofBelow _ hb) (fun _ _ hy => hy)
theorem CoJ.turn (h : CoJ 0 w N gr x k c pt) (_hj0 : j ≠ 0) (hj1 : j ≠ 1) (hj7 : j ≠ 7) (hf : Fr (fun y => gr y = j) w w') : CoJ j w' N (grw gr w w' j) x k c pt := by
 have hN := h.Nle
 have kp : ∀ y, gr y ≠ 0 -> grw gr w w' j y = gr y := fun y hy => if_pos (h.dom y hy)
 have kj : ∀ {i y}, i ≠ j -> gr y = i -> ¬ gr y = j := fun {i y} hi e e' => hi (e.symm.trans e')
 exact {
  blk := h.blk.fr hf (kj (fun e => hj1 e.symm) h.gp)
  kd := h.kd.fr hf (fun b o e => kj (fun e => hj7 e.symm) (h.kA b o e))
  kA := fun b o e => by rw [kp b (by rw [h.kA b o e]; decide)]; exact h.kA b o e
  ids := fun hj => by
   obtain ⟨gv, av, fv, I⟩ := h.ids (by decide)
   exact ⟨gv, av, fv, (I.kept hf (fun y hy => kj (fun e => hj e.symm) hy)).mono (fun y hy => by have hy : gr y = 4 := hy; show grw gr w w' j y = 4; rw [kp y (by omega), hy])⟩
  gph := fun hj => by
   obtain ⟨sv, ed, b, hb, I⟩ := h.gph (by decide)
   have I' := I.kept hf (fun y hy => kj (fun e => hj e.symm) hy)
   have up : ∀ y, gr y = 5 -> grw gr w w' j y = 5 := fun y hy => by rw [kp y (by omega), hy]
   exact ⟨sv, ed, b, hb, { I' with ownp := up _ I'.ownp, own1 := up _ I'.own1, own2 := up _ I'.own2, ownv := fun y hy => up y (I'.ownv y hy) }⟩
  mpt := fun hj => by
   obtain ⟨nt, hb, I⟩ := h.mpt (by decide)
   exact ⟨nt, hb, I.fr hf (kj (fun e => hj e.symm) h.gt)⟩
  mpp := fun hj => by
   obtain ⟨nt, hb, I⟩ := h.mpp (by decide)
   exact ⟨nt, hb, I.fr hf (kj (fun e => hj e.symm) h.gm)⟩
  tab := fun i t hi ht => by
   obtain ⟨s, tag, m, v, q, hs, hA, hg⟩ := h.tab i t (by omega) ht
   exact ⟨s, tag, m, v, q, hs, hA.kept hf (fun y hy => kj hi (hg y hy)), fun y hy => by rw [kp y (by rw [hg y hy]; omega)]; exact hg y hy⟩
  gp := by rw [kp _ (by rw [h.gp]; decide)]; exact h.gp
  gt := by rw [kp _ (by rw [h.gt]; decide)]; exact h.gt
  gm := by rw [kp _ (by rw [h.gm]; decide)]; exact h.gm
  dom := fun y hy => by
   have := hf.size
   unfold grw at hy
   split at hy
   ·omega
   ·split at hy
    ·assumption
    ·exact absurd rfl hy
  lo := fun y hy => by
   unfold grw at hy
   split at hy
   ·exact h.lo y hy
   ·omega }
theorem grw_go (hf : Fr (fun y => gr y = j) w w') (hj0 : j ≠ 0) : TGo w gr w' (grw gr w w' j) :=
 ⟨hf.mono (fun y hy => by have hy : gr y = j := hy; show gr y ≠ 0; omega), fun y hy => by
  unfold grw at hy
  split at hy
  ·exact .inl hy
  ·rename_i hn; exact .inr (by omega)⟩
theorem grw_own {own' : Nat -> Prop} (dom : ∀ y, gr y ≠ 0 -> y < w.heap.size) (hj0 : j ≠ 0) (h1 : ∀ y, own' y -> gr y = j \/ w.heap.size <= y) (h2 : ∀ y, own' y -> y < w'.heap.size) : ∀ y, own' y -> grw gr w w' j y = j := fun y hy => by
 unfold grw
 rcases h1 y hy with h | h
 ·rw [if_pos (dom y (by omega))]; exact h
 ·rw [if_neg (by omega), if_pos (h2 y hy)]
theorem CoJ.ids_go {s : NS} (h : CoJ 0 w N gr x k c pt) (hG : IGoes w (fun y => gr y = 4) x.pi s w') : ∃ gr', CoJ 0 w' N gr' x { k with ns := s } c pt /\ TGo w gr w' gr' := by
 obtain ⟨hf, own', h1, hd, gv, av, fv, I⟩ := hG
 have T := h.turn (j := 4) (by decide) (by decide) (by decide) hf
 exact ⟨_, {
   blk := T.blk, kd := T.kd, kA := T.kA, ids := fun _ => ⟨gv, av, fv, I.mono (grw_own h.dom (by decide) h1 hd)⟩, gph := fun _ => T.gph (by decide), mpt := fun _ => T.mpt (by decide), mpp := fun _ => T.mpp (by decide),
   tab := fun i t _ ht => T.tab i t (by omega) ht, gp := T.gp, gt := T.gt, gm := T.gm, dom := T.dom, lo := T.lo }, grw_go hf (by decide)⟩
theorem CoJ.gph_go {S' : List Nat} {b' c' : Nat} (h : CoJ 0 w N gr x k c pt) (hG : GG w (fun y => gr y = 5) x.pg x.m1 x.m2 S' b' w') (hS : ∀ (i t : Nat), k.S[i]? = some t -> S'[i]? = some t) (hc : c <= c') (hb : b' <= 2 * c') :
  ∃ gr', CoJ 0 w' N gr' x { k with S := S' } c' pt /\ TGo w gr w' gr' := by
 obtain ⟨ed, hf, own', sv', h1, hd, I⟩ := hG
 have T := h.turn (j := 5) (by decide) (by decide) (by decide) hf
 have up := grw_own h.dom (by decide) h1 hd
 exact ⟨_, {
   blk := T.blk, kd := T.kd, kA := T.kA, ids := fun _ => T.ids (by decide), gph := fun _ => ⟨sv', ed, b', hb, { I with ownp := up _ I.ownp, own1 := up _ I.own1, own2 := up _ I.own2, ownv := fun y hy => up y (I.ownv y hy) }⟩,
   mpt := fun _ => by obtain ⟨n, h1, h2⟩ := T.mpt (by decide); exact ⟨n, Nat.le_trans h1 hc, h2⟩, mpp := fun _ => by obtain ⟨n, h1, h2⟩ := T.mpp (by decide); exact ⟨n, Nat.le_trans h1 hc, h2⟩,
   tab := fun i t _ ht => by obtain ⟨s, tag, m, v, q, hs, r⟩ := T.tab i t (by omega) ht; exact ⟨s, tag, m, v, q, hS i s hs, r⟩, gp := T.gp, gt := T.gt, gm := T.gm, dom := T.dom, lo := T.lo }, grw_go hf (by decide)⟩
theorem CoJ.more {c' : Nat} (h : CoJ j w N gr x k c pt) (hc : c <= c') : CoJ j w N gr x k c' pt :=
 { h with gph := fun hj => by obtain ⟨sv, ed, b, hb, r⟩ := h.gph hj; exact ⟨sv, ed, b, by omega, r⟩, mpt := fun hj => by obtain ⟨n, h1, h2⟩ := h.mpt hj; exact ⟨n, Nat.le_trans h1 hc, h2⟩, mpp := fun hj => by obtain ⟨n, h1, h2⟩ := h.mpp hj; exact ⟨n, Nat.le_trans h1 hc, h2⟩ }
def upd {α : Type} (f : Nat -> α) (i : Nat) (v : α) (a : Nat) : α := if a = i then v else f a
theorem CoJ.tab_go {i s m : Nat} {q : Nat -> Nat} {tag : Nat -> Nat} {t t' : Tb} (h : CoJ 0 w N gr x k c pt) (hi : k.tb i = some t) (hs : k.S[i]? = some s) (hg : ∀ y, tag y ≠ 0 -> gr y = i + 8) (hT : TStep w N tag (pt i) m q s t' w') :
  ∃ gr', CoJ 0 w' N gr' x { k with tb := upd k.tb i (some t') } c pt /\ TGo w gr w' gr' := by
 obtain ⟨tag', v', hA, hG⟩ := hT
 have hf : Fr (fun y => gr y = i + 8) w w' := hG.fr.mono hg
 have T := h.turn (j := i + 8) (by omega) (by omega) (by omega) hf
 have up : ∀ y, tag' y ≠ 0 -> grw gr w w' (i + 8) y = i + 8 := grw_own (own' := fun y => tag' y ≠ 0) h.dom (by omega) (fun y hy => (hG.own y hy).imp (hg y) id) hA.i.dom
 refine ⟨_, {
   blk := T.blk, kd := T.kd, kA := T.kA, ids := fun _ => T.ids (by omega), gph := fun _ => T.gph (by omega), mpt := fun _ => ?_, mpp := fun _ => T.mpp (by omega),
   tab := fun a t0 _ ht => ?_, gp := T.gp, gt := T.gt, gm := T.gm, dom := T.dom, lo := T.lo }, grw_go hf (by omega)⟩
 ·obtain ⟨n, h1, h2⟩ := T.mpt (by omega)
  refine ⟨n, h1, h2.congr fun a _ => ?_⟩
  show tbV k.tb pt a = tbV (upd k.tb i (some t')) pt a
  unfold tbV upd
  by_cases e : a = i
  ·subst e; rw [if_pos rfl, hi]; rfl
  ·rw [if_neg e]
 ·have ht : upd k.tb i (some t') a = some t0 := ht
  unfold upd at ht
  by_cases e : a = i
  ·subst e
   rw [if_pos rfl] at ht
   injection ht with ht
   subst ht
   exact ⟨s, tag', m, v', q, hs, hA, up⟩
  ·rw [if_neg e] at ht
   exact T.tab a t0 (by omega) ht
theorem CoJ.pl_go {pl' : Int × Int -> Option (Nat × Nat)} {np c' : Nat} (h : CoJ 0 w N gr x k c pt) (hm : MapP w' x.mp np (plF pl')) (hg : w.grownBy w' (some x.mp)) (hn : np <= c') (hc : c <= c') :
  ∃ gr', CoJ 0 w' N gr' x { k with pl := pl' } c' pt /\ TGo w gr w' gr' := by
 have hf : Fr (fun y => gr y = 3) w w' := Fr.grown hg (fun y e => by injection e with e; subst e; exact h.gm)
 have T := (h.turn (j := 3) (by decide) (by decide) (by decide) hf).more hc
 exact ⟨_, {
   blk := T.blk, kd := T.kd, kA := T.kA, ids := fun _ => T.ids (by decide), gph := fun _ => T.gph (by decide), mpt := fun _ => T.mpt (by decide), mpp := fun _ => ⟨np, hn, hm⟩,
   tab := fun i t _ ht => T.tab i t (by omega) ht, gp := T.gp, gt := T.gt, gm := T.gm, dom := T.dom, lo := T.lo }, grw_go hf (by decide)⟩
theorem CoJ.tab_del {i nt : Nat} (h : CoJ 0 w N gr x k c pt) (hm : MapT w' x.mt nt (fun a => if a = i then none else tbV k.tb pt a)) (hg : w.grownBy w' (some x.mt)) (hn : nt <= c) :
  ∃ gr', CoJ 0 w' N gr' x { k with tb := upd k.tb i none } c pt /\ TGo w gr w' gr' := by
 have hf : Fr (fun y => gr y = 2) w w' := Fr.grown hg (fun y e => by injection e with e; subst e; exact h.gt)
 have T := h.turn (j := 2) (by decide) (by decide) (by decide) hf
 refine ⟨_, {
   blk := T.blk, kd := T.kd, kA := T.kA, ids := fun _ => T.ids (by decide), gph := fun _ => T.gph (by decide), mpt := fun _ => ⟨nt, hn, hm.congr fun a _ => ?_⟩, mpp := fun _ => T.mpp (by decide),
   tab := fun a t _ ht => ?_, gp := T.gp, gt := T.gt, gm := T.gm, dom := T.dom, lo := T.lo }, grw_go hf (by decide)⟩
 ·show _ = tbV (upd k.tb i none) pt a
  unfold tbV upd
  by_cases e : a = i
  ·rw [if_pos e, if_pos e]; rfl
  ·rw [if_neg e, if_neg e]
 ·have ht : upd k.tb i none a = some t := ht
  unfold upd at ht
  by_cases e : a = i
  ·rw [if_pos e] at ht; cases ht
  ·rw [if_neg e] at ht; exact T.tab a t (by omega) ht
theorem CoJ.wider {gr2 : Nat -> Nat} (h : CoJ j w N gr x k c pt) (up : ∀ y, gr y ≠ 0 -> gr2 y = gr y) (dm : ∀ y, gr2 y ≠ 0 -> y < w.heap.size) (lo : ∀ y, gr2 y ≠ 0 -> N <= y) : CoJ j w N gr2 x k c pt :=
 have ups : ∀ y n, n ≠ 0 -> gr y = n -> gr2 y = n := fun y n hn hy => by rw [up y (by omega), hy]
 { h with
  kA := fun b o e => ups _ _ (by decide) (h.kA b o e)
  ids := fun hj => by
   obtain ⟨gv, av, fv, I⟩ := h.ids hj
   exact ⟨gv, av, fv, I.mono (fun y hy => ups y 4 (by decide) hy)⟩
  gph := fun hj => by
   obtain ⟨sv, ed, b, hb, I⟩ := h.gph hj
   have up5 : ∀ y, gr y = 5 -> gr2 y = 5 := fun y hy => ups y 5 (by decide) hy
   exact ⟨sv, ed, b, hb, { I with ownp := up5 _ I.ownp, own1 := up5 _ I.own1, own2 := up5 _ I.own2, ownv := fun y hy => up5 y (I.ownv y hy) }⟩
  tab := fun i t hi ht => by
   obtain ⟨s, tag, m, v, q, hs, hA, hg⟩ := h.tab i t hi ht
   exact ⟨s, tag, m, v, q, hs, hA, fun y hy => ups y _ (by omega) (hg y hy)⟩
  gp := ups _ _ (by decide) h.gp
  gt := ups _ _ (by decide) h.gt
  gm := ups _ _ (by decide) h.gm
  dom := dm
  lo := lo }
theorem TbA.lower {N' : Nat} {tag : Nat -> Nat} {p m : Nat} {v : Value} {q : Nat -> Nat} {sg : Nat} {t : Tb} (h : TbA w N tag p m v q sg t) (hN : N' <= N) : TbA w N' tag p m v q sg t :=
 { h with i := { h.i with lo := fun y hy => Nat.le_trans hN (h.i.lo y hy) } }
theorem CoJ.tab_new {i s p' m nt : Nat} {q : Nat -> Nat} {tag : Nat -> Nat} {v : Value} {t : Tb} (h : CoJ 0 w N gr x k c pt) (hb : Below w.heap.size w w') (hA : TbA w' w.heap.size tag p' m v q s t) (hs : k.S[i]? = some s) (hi : k.tb i = none)
  (hm : MapT w'' x.mt nt (fun a => if a = i then some (.pointer (some ⟨p', 0, none⟩)) else tbV k.tb pt a)) (hg : w'.grownBy w'' (some x.mt)) (hn : nt <= c + 1) :
  ∃ gr', CoJ 0 w'' N gr' x { k with tb := upd k.tb i (some t) } (c + 1) (upd pt i p') /\ TGo w gr w'' gr' := by
 have hN := h.Nle
 have hsz := hb.size
 have h1 := h.below hb
 have hg2 : gr x.mt = 2 := h.gt
 have hf : Fr (fun y => gr y = 2) w' w'' := Fr.grown hg (fun y e => by injection e with e; subst e; exact h.gt)
 have hsz2 := hf.size
 have T := (h1.turn (j := 2) (by decide) (by decide) (by decide) hf).more (Nat.le_succ c)
 have hmt : x.mt < w.heap.size := h.dom _ (by rw [hg2]; decide)
 have hA2 : TbA w'' w.heap.size tag p' m v q s t := hA.kept (own' := fun y => y = x.mt) (Fr.grown hg (fun y e => by injection e with e; exact e.symm)) (fun y hy e => by have := hA.i.lo y hy; omega)
 have tg : ∀ y, grw gr w' w'' 2 y ≠ 0 -> tag y = 0 := fun y hy => by
  refine Classical.byContradiction fun ht => ?_
  have h1 := hA.i.lo y ht
  have h2 := hA.i.dom y ht
  unfold grw at hy
  rw [if_pos h2] at hy
  have := h.dom y hy
  omega
 have U := T.wider (gr2 := fun y => if tag y ≠ 0 then i + 8 else grw gr w' w'' 2 y) (fun y hy => if_neg (fun hn => hn (tg y hy)))
  (fun y hy => by
   by_cases ht : tag y ≠ 0
   ·have := hA.i.dom y ht; omega
   ·exact T.dom y (by simpa [ht] using hy))
  (fun y hy => by
   by_cases ht : tag y ≠ 0
   ·have := hA.i.lo y ht; omega
   ·exact T.lo y (by simpa [ht] using hy))
 refine ⟨_, {
   blk := U.blk, kd := U.kd, kA := U.kA, ids := fun _ => U.ids (by decide), gph := fun _ => U.gph (by decide), mpt := fun _ => ⟨nt, hn, hm.congr fun a _ => ?_⟩, mpp := fun _ => U.mpp (by decide),
   tab := fun a t0 _ ht => ?_, gp := U.gp, gt := U.gt, gm := U.gm, dom := U.dom, lo := U.lo }, ⟨?_, fun y hy => ?_⟩⟩
 ·show _ = tbV (upd k.tb i (some t)) (upd pt i p') a
  unfold tbV upd
  by_cases e : a = i
  ·rw [if_pos e, if_pos e, if_pos e]; rfl
  ·rw [if_neg e, if_neg e, if_neg e]
 ·have ht : upd k.tb i (some t) a = some t0 := ht
  unfold upd at ht
  by_cases e : a = i
  ·subst e
   rw [if_pos rfl] at ht
   injection ht with ht
   subst ht
   refine ⟨s, tag, m, v, q, hs, ?_, fun y hy => if_pos hy⟩
   rw [show upd pt a p' a = p' from if_pos rfl]
   exact hA2.lower hN
  ·rw [if_neg e] at ht
   rw [show upd pt i p' a = pt a from if_neg e]
   exact U.tab a t0 (by omega) ht
 ·exact (Fr.ofBelow _ hb).trans (hf.mono (fun y hy => by have hy : gr y = 2 := hy; show gr y ≠ 0; omega))
 ·by_cases ht : tag y ≠ 0
  ·exact .inr (hA.i.lo y ht)
  ·have hy' : grw gr w' w'' 2 y ≠ 0 := by simpa [ht] using hy
   unfold grw at hy'
   split at hy'
   ·exact .inl hy'
   ·rename_i hn; exact .inr (by omega)
end
end Go.Proofs.YthiknmhkdeicjaaGreatDoor
namespace Go.Proofs.YthiknmhkdeicjaaGreatDoor
open Go.RowKit
set_option maxRecDepth 20000
def kdc (ks : List Kd) : List Value := (ks.map fun k => [Value.string k.1, .int .i64 k.2]).flatten
theorem kdc_hd (ks : List Kd) : HdL 2 (fun (k : Kd) r => r = [Value.string k.1, .int .i64 k.2]) (kdc ks) ks :=
 ⟨ks.map fun k => [Value.string k.1, .int .i64 k.2], rfl, by simp, fun r hr => by obtain ⟨k, _, rfl⟩ := List.mem_map.1 hr; rfl, fun j k hk => ⟨_, by simp [hk], rfl⟩⟩
theorem KRd.row {w : World} {a : Addr} {n : Nat} {ks : List Kd} (h : KRd w (some a) n ks) : VRow (fun _ => True) w (some a) n 2 (kdc ks) := by
 refine ⟨by rw [(kdc_hd ks).len, h.1], (fun e => by cases e), fun hp => ?_⟩
 obtain ⟨b, o, e, hlt, hc⟩ := h.2 hp
 refine ⟨b, o, e, trivial, hlt, fun j u hj => ?_⟩
 obtain ⟨ch, hch, hl, hz, hx⟩ := kdc_hd ks
 have hjl : j < (kdc ks).length := (List.getElem?_eq_some_iff.1 hj).1
 rw [(kdc_hd ks).len] at hjl
 have hq : j / 2 < ks.length := by omega
 obtain ⟨r, hr, he⟩ := hx (j / 2) ks[j / 2] (List.getElem?_eq_getElem hq)
 obtain ⟨h0, h1⟩ := hc (j / 2) hq
 have hg := flatg_get hz hr (i := j % 2) (by omega)
 rw [<- hch, show j / 2 * 2 + j % 2 = j by omega, hj] at hg
 rcases (by omega : j % 2 = 0 \/ j % 2 = 1) with hm | hm
 ·rw [hm, he] at hg
  rw [show o + j = o + j / 2 * 2 by omega, h0]
  simpa using hg.symm
 ·rw [hm, he] at hg
  rw [show o + j = o + j / 2 * 2 + 1 by omega, h1]
  simpa using hg.symm
theorem KRd.of_row {w : World} {K : Nat -> Prop} {A : Option Addr} {n : Nat} {ks : List Kd} (h : VRow K w A n 2 (kdc ks)) (hn : ks.length = n) : KRd w A n ks := by
 refine ⟨hn, fun hp => ?_⟩
 obtain ⟨b, o, e, _, hlt, hc⟩ := h.2.2 hp
 refine ⟨b, o, e, hlt, fun j hj => ?_⟩
 obtain ⟨ch, hch, hl, hz, hx⟩ := kdc_hd ks
 obtain ⟨r, hr, he⟩ := hx j ks[j] (List.getElem?_eq_getElem hj)
 have g0 := flatg_get hz hr (i := 0) (by omega)
 have g1 := flatg_get hz hr (i := 1) (by omega)
 rw [<- hch, he] at g0 g1
 exact ⟨hc (j * 2) _ (by simpa using g0), by rw [Nat.add_assoc]; exact hc (j * 2 + 1) _ (by simpa using g1)⟩
theorem comps_nil_eq (w : World) (a : Option Addr) (n c n' c' : Nat) : (binOp .eql 22 (.slice a n c) (.slice none n' c')).run Tryz.prog w = .ok (.bool a.isNone) w := Lib.run_eql_slice_nil w _ _ a n c n' c' Tryz.underlying22
theorem kclone_any (A : Option Addr) (n c : Nat) (ks : List Kd) (w : World) (h : KRd w A n ks) (hn : n <= 1000000) :
  Calls Tryz.prog 88 #[.slice A n c] w fun e w' => ∃ A' c', e = .returned (.slice A' n c') /\ KRd w' A' n ks /\ (∀ b o, A' = some ⟨b, o, none⟩ -> w.heap.size <= b /\ b < w'.heap.size) /\ Below w.heap.size w w' := by
 rcases A with _ | ad
 ·have h0 : n = 0 := Nat.eq_zero_of_not_pos (fun hp => by obtain ⟨b, o, e, _⟩ := h.2 hp; cases e)
  subst h0
  have hl : ks = [] := List.eq_nil_of_length_eq_zero h.1
  subst hl
  clear h
  have q := comps_nil_eq
  go_enter Tryz.func88, Tryz.ntmps88
  go_wp2
  go_ret
  exact ⟨none, 0, rfl, KRd.nil _ _, (fun b o e => by cases e), Below.refl _ _⟩
 ·have ho : (w.alloc (.cells #[] 70)).ownsRow w.heap.size 70 2 (.slice (some ⟨w.heap.size, 0, none⟩) 0 0) 0 [] := World.ownsRow_lit w #[] 0 (Nat.le_refl _) (Nat.zero_le _) rfl
  have hv1 := h.row.below ((Below.refl _ _).alloc (Nat.le_refl _) (.cells #[] 70))
  have hl := h.1
  have HO := hi_ ho
  have HV1 := hi_ hv1
  clear h hv1 ho
  have q := comps_nil_eq
  have H1 : Hid (∀ u ∈ kdc ks, u.oneCell' = true) := hi_ ((kdc_hd ks).one (fun k r hr u hu => by subst hr; simp at hu; rcases hu with rfl | rfl <;> rfl))
  go_enter Tryz.func88, Tryz.ntmps88
  go_wp2_with (at_builtin; refine wpList_appW compsT rfl (.tmp 5) (.tmp 6) rfl w.heap.size _ 0 [] rfl HO.out (some ad) n c (kdc ks) rfl HV1.out H1.out (by omega) (by decide) (by simp) ?_; intro v2 w2 ho2 hg2; rw [Nat.zero_add, List.nil_append] at ho2)
  go_ret
  obtain ⟨A', c', rfl, _, _, hV⟩ := own_vrow ho2
  refine ⟨A', c', rfl, KRd.of_row hV hl, fun b o e => ?_, ((Below.refl _ _).alloc (Nat.le_refl _) _).grown hg2 (by simp) (fun q hq => (own_geB HO.out hq).1)⟩
  have := own_geB ho2 (show (Value.slice A' n c').ownBlock = some b by rw [e]; rfl)
  exact this
theorem wpList_ldC {ops : Array Oper} {rest : List Oper} {o : Oper} {a : Act} {w : World} {Q : Exit -> Act -> World -> Prop} {g : Nat} {lg pg en gn : Int} {A : Option Addr} {n cap : Nat} (hgd : Region.wanted o (yielded ops a.tmps) = true) (x : Operand) (ho : o.op = .load 24 x)
  (hx : a.eval x = .pointer (some ⟨g, 0, none⟩)) (h : Rec 24 w g (cc lg pg en gn A n cap)) (kk : wpList Tryz.prog ops Q rest (a.put o.dst (cv lg pg en gn A n cap)) w) : wpList Tryz.prog ops Q (o :: rest) a w :=
 wpList_ldS confT rfl hgd x ho hx h kk
theorem wpList_stC {ops : Array Oper} {rest : List Oper} {o : Oper} {a : Act} {w : World} {Q : Exit -> Act -> World -> Prop} {g : Nat} {cs : Array Value} (lg pg en gn : Int) (A : Option Addr) (n cap : Nat) (hn : cs.size = 5) (hgd : Region.wanted o (yielded ops a.tmps) = true) (x y : Operand) (ho : o.op = .store 24 x y)
  (hx : a.eval x = .pointer (some ⟨g, 0, none⟩)) (hy : a.eval y = cv lg pg en gn A n cap) (h : Rec 24 w g cs)
  (kk : ∀ w', Rec 24 w' g (cc lg pg en gn A n cap) -> Fr (· = g) w w' -> wpList Tryz.prog ops Q rest (a.put o.dst undef) w') : wpList Tryz.prog ops Q (o :: rest) a w :=
 wpList_stS confT hn rfl (by simp [Value.oneCell']) hgd x y ho hx hy h kk
abbrev ccZ : Array Value := #[.int .i64 0, .int .i64 0, .int .i64 0, .int .i64 0, .slice none 0 0]
theorem ccZ_size : ccZ.size = 5 := rfl
variable (lg pg en gn : Int) (A : Option Addr) (n cap : Nat) (ks : List Kd) (w : World)
theorem conf_set {w : World} {g : Nat} (h : Rec 24 w g (cc lg pg en gn A n cap)) (A' : Option Addr) (n' c' : Nat) : Rec 24 (w.setCell ⟨g, 4, none⟩ (.slice A' n' c')) g (cc lg pg en gn A' n' c') := h.set 4 _
theorem own_any (h : KRd w A n ks) (hn : n <= 1000000) :
  Calls Tryz.prog 33 #[cv lg pg en gn A n cap] w fun e w' => ∃ A' c', e = .returned (cv lg pg en gn A' n c') /\ KRd w' A' n ks /\ (∀ b o, A' = some ⟨b, o, none⟩ -> w.heap.size <= b /\ b < w'.heap.size) /\ Below w.heap.size w w' := by
 obtain ⟨w1, hw1⟩ : ∃ w1, w1 = (w.alloc (.cells (cc lg pg en gn A n cap) 24)).alloc (.cells #[.int .i64 0, .int .i64 0, .int .i64 0, .int .i64 0, .slice none 0 0] 24) := ⟨_, rfl⟩
 have hb1 : Below w.heap.size w w1 := by rw [hw1]; exact ((Below.refl _ _).alloc (Nat.le_refl _) _).alloc (by simp) _
 have r1 : Rec 24 w1 w.heap.size (cc lg pg en gn A n cap) := by rw [hw1]; exact (Rec.new w _ _).under ((Below.refl _ _).alloc (Nat.le_refl _) _)
 have r2 : Rec 24 w1 (w.heap.size + 1) ccZ := by
  have := Rec.new (w.alloc (.cells (cc lg pg en gn A n cap) 24)) 24 #[.int .i64 0, .int .i64 0, .int .i64 0, .int .i64 0, .slice none 0 0]
  rw [World.size_alloc] at this
  rw [hw1]; exact this
 have CK := hi_ (kclone_any A n cap ks w1 (h.below hb1) hn)
 have k4 := r1.at_ 4
 have hs1 : w1.heap.size = w.heap.size + 2 := by rw [hw1]; simp
 have HB1 := hi_ (And.intro hb1 (And.intro r1 (And.intro r2 hs1)))
 clear h hb1 r1 r2 hs1
 go_enter Tryz.func33, Tryz.ntmps33
 go_upto_region 2 with (first
  | (rw [<- hw1]; clear hw1)
  | (go_at_call 88; (refine CK.out.mono ?_; rintro e w2 ⟨A', c', rfl, hk2, ha2, hb2⟩; have HK2 := hi_ (And.intro hk2 (And.intro ha2 hb2)); have R2 := hi_ (HB1.out.2.1.under hb2); have R3 := hi_ (HB1.out.2.2.1.under hb2); have f2 := R2.out.fz 4; have k2 := R2.out.at_ 4; obtain ⟨w3, hw3⟩ : ∃ w3, w3 = w2.setCell ⟨w.heap.size, 4, none⟩ (.slice A' n c') := ⟨_, rfl⟩; have R4 := hi_ (show Rec 24 w3 w.heap.size (cc lg pg en gn A' n c') by rw [hw3]; exact conf_set _ _ _ _ _ _ _ R2.out _ _ _); have HF3 := hi_ (show Fr (· = w.heap.size) w2 w3 by rw [hw3]; exact Fr.setCell (own := fun y => y = w.heap.size) w2 (p := ⟨w.heap.size, 4, none⟩) rfl _); clear hk2 ha2 hb2 k4)))
 rw [<- hw3]
 clear hw3 f2 k2
 go_wp2_with (first
  | (with_reducible refine wpList_ldC rfl (.tmp 1) rfl rfl R4.out ?_)
  | ((with_reducible refine wpList_stC lg pg en gn A' n c' ccZ_size rfl (.tmp 2) (.tmp 7) rfl rfl rfl (R3.out.fr HF3.out (fun e => by have e' : w.heap.size + 1 = w.heap.size := e; omega)) ?_); intro w5 hR5 hF5))
 refine bodyPost_ret (res_c rfl rfl (hR5.load confT rfl)) rfl ?_
 obtain ⟨b1, _, _, hs1⟩ := HB1.out
 obtain ⟨hk, ha, hb⟩ := HK2.out
 have F35 : Fr (fun y => y = w.heap.size \/ y = w.heap.size + 1) w2 w5 := (HF3.out.mono (fun y hy => .inl hy)).trans (hF5.mono (fun y hy => .inr hy))
 refine ⟨A', c', rfl, hk.fr F35 (fun b o e hy => ?_), fun b o e => ?_, (b1.trans (hb.mono b1.size)).trans (F35.toBelow (fun y hy => ?_) (Nat.le_trans b1.size hb.size))⟩
 ·have := (ha b o e).1
  rcases hy with hy | hy <;> omega
 ·have := ha b o e
  have := b1.size
  have := F35.size
  omega
 ·rcases hy with hy | hy <;> omega
end Go.Proofs.YthiknmhkdeicjaaGreatDoor
