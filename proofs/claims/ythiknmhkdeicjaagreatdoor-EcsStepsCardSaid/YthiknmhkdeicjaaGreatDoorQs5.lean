/- MapZ, MapF, GrM, GrP1, GrP2, BitsO, BitsWo, GrP3 -/
import Derived.Test.YthiknmhkdeicjaaGreatDoorQs1
import Derived.Test.YthiknmhkdeicjaaGreatDoorQs3
import Derived.DeepKeys4
import Derived.Maps.OwnSet
import Derived.BigQuiet
import Derived.Deep.QuietTactic
import Derived.WalkSmall
import Derived.Laws.BitsAllLaws
import Derived.Laws.Bits128
import Derived.Deep.WholeRow
namespace Go.Proofs.YthiknmhkdeicjaaGreatDoor
open Go.RowKit Go.Maps
def MapZ (P : Program) (k : TypeId) (z : Value) (w : World) (m n : Nat) (f : Int -> Option Value) : Prop :=
 ∃ D : DataW Value, w.ownsMap P k itself m n D /\ Maps.size D = n /\ (∀ i : Int, D.atKey (.int .i64 i) (.held z) = .held ((f i).getD z)) /\ (∀ i : Int, Maps.has D (.int .i64 i) = (f i).isSome)
section
variable {P : Program} {k e T : TypeId} {z : Value} {w w' : World} {m n : Nat} {f : Int -> Option Value}
theorem ownsMap_tight {R : Value -> Option (DataW Value × List MemPlace)} {D : DataW Value} (h : w.ownsMap P k R m n D) : w.ownsMap P k R m (Maps.size D) D := by
 obtain ⟨es, clock, hb, F, hs, rfl⟩ := h
 have e1 : Maps.size (DataW.map ((es.toList.map (WideElems.rg P k R)).foldr DataW.insert [])) = es.size := by simp [Maps.size, length_sorted]
 exact ⟨es, clock, hb, F, by rw [e1]; exact Nat.le_refl _, rfl⟩
theorem MapZ.made (P : Program) (k : TypeId) (z : Value) (w : World) : MapZ P k z (w.alloc (.map #[] 0)) w.heap.size 0 (fun _ => none) :=
 ⟨.map [], World.ownsMap_made w P k itself, rfl, fun _ => rfl, fun _ => rfl⟩
theorem MapZ.lt (h : MapZ P k z w m n f) : m < w.heap.size := by obtain ⟨D, ho, _⟩ := h; exact ho.lt
theorem MapZ.block (h : MapZ P k z w m n f) (hb : w'.heap[m]? = w.heap[m]?) : MapZ P k z w' m n f := by
 obtain ⟨D, ⟨es, clock, hm, r⟩, h2⟩ := h
 exact ⟨D, ⟨es, clock, hb.trans hm, r⟩, h2⟩
theorem MapZ.fr {own : Nat -> Prop} (h : MapZ P k z w m n f) (hf : Fr own w w') (hn : ¬ own m) : MapZ P k z w' m n f := h.block (hf.block m h.lt hn)
theorem MapZ.below (h : MapZ P k z w m n f) (hb : Below w.heap.size w w') : MapZ P k z w' m n f := h.block (hb.block m h.lt)
theorem MapZ.congr {f' : Int -> Option Value} (h : MapZ P k z w m n f) (hf : ∀ i, f i = f' i) : MapZ P k z w m n f' := by
 obtain rfl : f = f' := funext hf
 exact h
theorem key_int (hk : P.underlying k = some (.int .i64)) {i : Int} (hi : -9223372036854775808 <= i /\ i < 9223372036854775808) : keyOf P k (.int .i64 i) = some (.int .i64 i) :=
 keyOf_int_mk hk (WalkArith.wf_i64 (by omega))
theorem int_lit_ne {i j : Int} (h : i ≠ j) : (Lit.int .i64 i) ≠ .int .i64 j := fun e => h (by injection e with _ e)
theorem MapZ.look (h : MapZ P k z w m n f) (hk : P.underlying k = some (.int .i64)) (hT : P.underlying T = some (.map k e)) (hz : (zeroValue e).run P w = .ok z w) {i : Int} (hi : -9223372036854775808 <= i /\ i < 9223372036854775808) :
  (Instr.lookup T (.map (some m)) (.int .i64 i) false).run P w = .ok ((f i).getD z) w := by
 obtain ⟨D, ho, _, hat, _⟩ := h
 obtain ⟨v, ps, hrun, hv⟩ := ho.lookup (int_keyed hk) hT hz (zd := .held z) (zp := []) rfl (key_int hk hi)
 rw [hat i] at hv
 simp only [itself, Option.some.injEq, Prod.mk.injEq, DataW.held.injEq] at hv
 rw [hrun, hv.1]
theorem MapZ.look_ok (h : MapZ P k z w m n f) (hk : P.underlying k = some (.int .i64)) (hT : P.underlying T = some (.map k e)) (hz : (zeroValue e).run P w = .ok z w) {i : Int} (hi : -9223372036854775808 <= i /\ i < 9223372036854775808) :
  (Instr.lookup T (.map (some m)) (.int .i64 i) true).run P w = .ok (.tuple #[(f i).getD z, .bool (f i).isSome]) w := by
 obtain ⟨D, ho, _, hat, hh⟩ := h
 obtain ⟨v, ps, hrun, hv⟩ := ho.look_ok (int_keyed hk) hT hz (zd := .held z) (zp := []) rfl (key_int hk hi)
 rw [hat i] at hv
 simp only [itself, Option.some.injEq, Prod.mk.injEq, DataW.held.injEq] at hv
 rw [hrun, hv.1, hh i]
theorem MapZ.len (h : MapZ P k z w m n f) (hT : P.underlying T = some (.map k e)) (ty : TypeId) : (Builtin.len_ #[T] ty #[.map (some m)]).run P w = .ok (.int .i64 n) w := by
 obtain ⟨D, ho, hs, _⟩ := h
 rw [ho.len hT ty, hs]
theorem MapZ.put (h : MapZ P k z w m n f) (hk : P.underlying k = some (.int .i64)) (hT : P.underlying T = some (.map k e)) (hn : n < maxLen) {i : Int} (hi : -9223372036854775808 <= i /\ i < 9223372036854775808) (v : Value) :
  ∃ w', (Instr.mapUpdate T (.map (some m)) (.int .i64 i) v).run P w = .ok () w' /\ MapZ P k z w' m (if (f i).isSome = true then n else n + 1) (fun j => if j = i then some v else f j) /\ w.grownBy w' (some m) := by
 obtain ⟨D, ho, hs, hat, hh⟩ := h
 obtain ⟨w', hrun, ho', hg⟩ := ho.update (int_keyed hk) hT hn (val := v) (d := .held v) (ps := []) (key_int hk hi) rfl
 have hkl := (int_keyed hk).key (key_int hk hi)
 have hsz := Maps.size_put (k := .int .i64 i) (ho.tidy (int_keyed hk)) (.held v)
 rw [hh i, hs] at hsz
 refine ⟨w', hrun, ⟨_, by rw [<- hsz]; exact ownsMap_tight ho', hsz, fun j => ?_, fun j => ?_⟩, hg⟩
 ·by_cases hj : j = i
  ·subst hj
   simp only [if_true]
   exact Maps.atKey_put_same ho.isMap hkl _ _
  ·simp only [if_neg hj]
   rw [Maps.atKey_put_other (int_lit_ne hj), hat j]
 ·by_cases hj : j = i
  ·subst hj
   simp only [if_true]
   exact Maps.has_put_same ho.isMap hkl _
  ·simp only [if_neg hj]
   rw [Maps.has_put_other (int_lit_ne hj), hh j]
end
section
variable {P : Program} {ops : Array Oper} {o : Oper} {a : Act} {w : World} {K : Act -> World -> Prop} {Q : Exit -> Act -> World -> Prop} {E : Prop} {z : Value} {m n : Nat} {f : Int -> Option Value}
theorem wpList_putZ {k e T : TypeId} {rest : List Oper} (hk : P.underlying k = some (.int .i64)) (hT : P.underlying T = some (.map k e)) (hgd : Region.wanted o (yielded ops a.tmps) = true) (mo x y : Operand) (ho : o.op = Op.mapUpdate T mo x y)
  (h : MapZ P k z w m n f) (hn : n < 1000000000) {i : Int} (hi : -9223372036854775808 <= i /\ i < 9223372036854775808) (v : Value) (hm : a.eval mo = .map (some m)) (hx : a.eval x = .int .i64 i) (hv : a.eval y = v)
  (hK : ∀ w', MapZ P k z w' m (if (f i).isSome = true then n else n + 1) (fun j => if j = i then some v else f j) -> w.grownBy w' (some m) -> wpList P ops Q rest (a.put o.dst undef) w') : wpList P ops Q (o :: rest) a w :=
 wpList_w hgd fun _ hK' => by
  obtain ⟨w', hrun, r1, r2⟩ := h.put hk hT (by unfold maxLen; omega) hi v
  unfold Oper.wp
  simp [execOp, ho, hm, hx, hv, hrun, Result.andThen]
  exact hK' _ _ (hK w' r1 r2)
theorem step_putZ {k e T : TypeId} (hk : P.underlying k = some (.int .i64)) (hT : P.underlying T = some (.map k e)) (hgd : Region.wanted o (yielded ops a.tmps) = true) (mo x y : Operand) (ho : o.op = Op.mapUpdate T mo x y)
  (h : MapZ P k z w m n f) (hn : n < 1000000000) {i : Int} (hi : -9223372036854775808 <= i /\ i < 9223372036854775808) (v : Value) (hm : a.eval mo = .map (some m)) (hx : a.eval x = .int .i64 i) (hv : a.eval y = v)
  (hK : ∀ w', MapZ P k z w' m (if (f i).isSome = true then n else n + 1) (fun j => if j = i then some v else f j) -> w.grownBy w' (some m) -> K (a.put o.dst undef) w') :
  if Region.wanted o (yielded ops a.tmps) = true then Oper.wp P o a w K Q else E := by
 rw [if_pos hgd]
 obtain ⟨w', hrun, r1, r2⟩ := h.put hk hT (by unfold maxLen; omega) hi v
 unfold Oper.wp
 simp [execOp, ho, hm, hx, hv, hrun, Result.andThen]
 exact hK w' r1 r2
end
end Go.Proofs.YthiknmhkdeicjaaGreatDoor
namespace Go.Proofs.YthiknmhkdeicjaaGreatDoor
open Go.RowKit Go.Maps
structure Kf (P : Program) (k : TypeId) {ι : Type} (val : ι -> Value) (lit : ι -> Lit) (ok : ι -> Prop) : Prop where
 law : Keyed P k
 key : ∀ {i}, ok i -> keyOf P k (val i) = some (lit i)
 inj : ∀ {i j}, ok i -> ok j -> lit i = lit j -> i = j
def MapF (P : Program) (k : TypeId) {ι : Type} (lit : ι -> Lit) (ok : ι -> Prop) (z : Value) (w : World) (m n : Nat) (f : ι -> Option Value) : Prop :=
 ∃ D : DataW Value, w.ownsMap P k itself m n D /\ (∀ i, ok i -> D.atKey (lit i) (.held z) = .held ((f i).getD z)) /\ (∀ i, ok i -> Maps.has D (lit i) = (f i).isSome)
section
variable {P : Program} {k e T : TypeId} {ι : Type} {val : ι -> Value} {lit : ι -> Lit} {ok : ι -> Prop} {z : Value} {w w' : World} {m n : Nat} {f : ι -> Option Value}
theorem MapF.made (P : Program) (k : TypeId) (lit : ι -> Lit) (ok : ι -> Prop) (z : Value) (w : World) : MapF P k lit ok z (w.alloc (.map #[] 0)) w.heap.size 0 (fun _ => none) :=
 ⟨.map [], World.ownsMap_made w P k itself, fun _ _ => rfl, fun _ _ => rfl⟩
theorem MapF.lt (h : MapF P k lit ok z w m n f) : m < w.heap.size := by obtain ⟨D, ho, _⟩ := h; exact ho.lt
theorem MapF.block (h : MapF P k lit ok z w m n f) (hb : w'.heap[m]? = w.heap[m]?) : MapF P k lit ok z w' m n f := by
 obtain ⟨D, ⟨es, clock, hm, r⟩, h2⟩ := h
 exact ⟨D, ⟨es, clock, hb.trans hm, r⟩, h2⟩
theorem MapF.map_at (h : MapF P k lit ok z w m n f) : ∃ es clock, w.heap[m]? = some (.map es clock) := by
 obtain ⟨D, ⟨es, clock, hm, r⟩, h2⟩ := h
 exact ⟨es, clock, hm⟩
theorem MapF.fr {own : Nat -> Prop} (h : MapF P k lit ok z w m n f) (hf : Fr own w w') (hn : ¬ own m) : MapF P k lit ok z w' m n f := h.block (hf.block m h.lt hn)
theorem MapF.below (h : MapF P k lit ok z w m n f) (hb : Below w.heap.size w w') : MapF P k lit ok z w' m n f := h.block (hb.block m h.lt)
theorem MapF.congr {f' : ι -> Option Value} (h : MapF P k lit ok z w m n f) (hf : ∀ i, ok i -> f i = f' i) : MapF P k lit ok z w m n f' := by
 obtain ⟨D, ho, h1, h2⟩ := h
 exact ⟨D, ho, fun i hi => by rw [h1 i hi, hf i hi], fun i hi => by rw [h2 i hi, hf i hi]⟩
theorem MapF.mono {n' : Nat} (h : MapF P k lit ok z w m n f) (hn : n <= n') : MapF P k lit ok z w m n' f := by
 obtain ⟨D, ho, h2⟩ := h
 exact ⟨D, ho.mono hn, h2⟩
theorem MapF.look_ok (K : Kf P k val lit ok) (h : MapF P k lit ok z w m n f) (hT : P.underlying T = some (.map k e)) (hz : (zeroValue e).run P w = .ok z w) {i : ι} (hi : ok i) :
  (Instr.lookup T (.map (some m)) (val i) true).run P w = .ok (.tuple #[(f i).getD z, .bool (f i).isSome]) w := by
 obtain ⟨D, ho, hat, hh⟩ := h
 obtain ⟨v, ps, hrun, hv⟩ := ho.look_ok K.law hT hz (zd := .held z) (zp := []) rfl (K.key hi)
 rw [hat i hi] at hv
 simp only [itself, Option.some.injEq, Prod.mk.injEq, DataW.held.injEq] at hv
 rw [hrun, hv.1, hh i hi]
theorem look_none (K : Kf P k val lit ok) (hT : P.underlying T = some (.map k e)) (hz : (zeroValue e).run P w = .ok z w) {i : ι} (hi : ok i) :
  (Instr.lookup T (.map none) (val i) true).run P w = .ok (.tuple #[z, .bool false]) w := Maps.look_nil true K.law hT hz (K.key hi)
theorem MapF.put [DecidableEq ι] (K : Kf P k val lit ok) (h : MapF P k lit ok z w m n f) (hT : P.underlying T = some (.map k e)) (hn : n < maxLen) {i : ι} (hi : ok i) (v : Value) :
  ∃ w', (Instr.mapUpdate T (.map (some m)) (val i) v).run P w = .ok () w' /\ MapF P k lit ok z w' m (n + 1) (fun j => if j = i then some v else f j) /\ w.grownBy w' (some m) := by
 obtain ⟨D, ho, hat, hh⟩ := h
 obtain ⟨w', hrun, ho', hg⟩ := ho.update K.law hT hn (val := v) (d := .held v) (ps := []) (K.key hi) rfl
 have hkl := K.law.key (K.key hi)
 refine ⟨w', hrun, ⟨_, ho', fun j hj => ?_, fun j hj => ?_⟩, hg⟩
 ·by_cases e : j = i
  ·subst e
   simp only [if_true]
   exact Maps.atKey_put_same ho.isMap hkl _ _
  ·simp only [if_neg e]
   rw [Maps.atKey_put_other (fun h => e (K.inj hj hi h)), hat j hj]
 ·by_cases e : j = i
  ·subst e
   simp only [if_true]
   exact Maps.has_put_same ho.isMap hkl _
  ·simp only [if_neg e]
   rw [Maps.has_put_other (fun h => e (K.inj hj hi h)), hh j hj]
end
section
variable {P : Program} {ops : Array Oper} {o : Oper} {a : Act} {w : World} {K : Act -> World -> Prop} {Q : Exit -> Act -> World -> Prop} {E : Prop} {z : Value} {m n : Nat}
variable {ι : Type} {val : ι -> Value} {lit : ι -> Lit} {ok : ι -> Prop} {f : ι -> Option Value}
theorem wpList_putF [DecidableEq ι] {k e T : TypeId} {rest : List Oper} (KF : Kf P k val lit ok) (hT : P.underlying T = some (.map k e)) (hgd : Region.wanted o (yielded ops a.tmps) = true) (mo x y : Operand) (ho : o.op = Op.mapUpdate T mo x y)
  (h : MapF P k lit ok z w m n f) (hn : n < 1000000000) (i : ι) (hi : ok i) (v : Value) (hm : a.eval mo = .map (some m)) (hx : a.eval x = val i) (hv : a.eval y = v)
  (hK : ∀ w', MapF P k lit ok z w' m (n + 1) (fun j => if j = i then some v else f j) -> w.grownBy w' (some m) -> wpList P ops Q rest (a.put o.dst undef) w') : wpList P ops Q (o :: rest) a w :=
 wpList_w hgd fun _ hK' => by
  obtain ⟨w', hrun, r1, r2⟩ := h.put KF hT (by unfold maxLen; omega) hi v
  unfold Oper.wp
  simp [execOp, ho, hm, hx, hv, hrun, Result.andThen]
  exact hK' _ _ (hK w' r1 r2)
end
def litU (s : Nat) : Lit := .int .u64 s
def okU (s : Nat) : Prop := s < 18446744073709551616
theorem kfU {P : Program} {k : TypeId} (hk : P.underlying k = some (.int .u64)) : Kf P k (fun s : Nat => .int .u64 (s : Int)) litU okU where
 law := int_keyed hk
 key h := keyOf_int_mk hk (WalkArith.wf_u64 (by unfold okU at h; omega))
 inj _ _ e := by unfold litU at e; injection e with _ e; omega
end Go.Proofs.YthiknmhkdeicjaaGreatDoor
namespace Go.Proofs.YthiknmhkdeicjaaGreatDoor
def ixS : List Nat -> Nat -> Option Nat
 | [], _ => none
 | t :: S, s => if t = s then some 0 else (ixS S s).map (· + 1)
theorem ixS_lt : ∀ {S : List Nat} {s i : Nat}, ixS S s = some i -> i < S.length /\ S[i]? = some s
 | [], _, _, h => by cases h
 | t :: S, s, i, h => by
  unfold ixS at h
  by_cases e : t = s
  ·rw [if_pos e] at h
   injection h with h
   subst h
   simp [e]
  ·rw [if_neg e] at h
   cases hx : ixS S s with
   | none => rw [hx] at h; cases h
   | some j =>
    rw [hx] at h
    injection h with h
    subst h
    have := ixS_lt hx
    simpa using this
theorem ixS_none : ∀ {S : List Nat} {s : Nat}, ixS S s = none -> s ∉ S
 | [], _, _ => List.not_mem_nil
 | t :: S, s, h => by
  unfold ixS at h
  by_cases e : t = s
  ·rw [if_pos e] at h; cases h
  ·rw [if_neg e] at h
   have := ixS_none (S := S) (s := s) (by cases hx : ixS S s with | none => rfl | some j => rw [hx] at h; cases h)
   simp [this, Ne.symm e]
theorem ixS_first : ∀ {S : List Nat} {s i : Nat}, ixS S s = some i -> ∀ j, j < i -> S[j]? ≠ some s
 | [], _, _, h => by cases h
 | t :: S, s, i, h => by
  unfold ixS at h
  by_cases e : t = s
  ·rw [if_pos e] at h
   injection h with h
   subst h
   intro j hj
   omega
  ·rw [if_neg e] at h
   cases hx : ixS S s with
   | none => rw [hx] at h; cases h
   | some k =>
    rw [hx] at h
    have h : k + 1 = i := by simpa using h
    subst h
    intro j hj
    cases j with
    | zero => simpa using e
    | succ j => simpa using ixS_first hx j (by omega)
theorem ixS_of_first {S : List Nat} {s i : Nat} (hi : S[i]? = some s) (hf : ∀ j, j < i -> S[j]? ≠ some s) : ixS S s = some i := by
 cases h : ixS S s with
 | none => exact absurd (List.mem_of_getElem? hi) (ixS_none h)
 | some j =>
  have h1 := ixS_lt h
  have h2 := ixS_first h
  by_cases e : j = i
  ·rw [e]
  ·rcases Nat.lt_or_gt_of_ne e with h3 | h3
   ·exact absurd h1.2 (hf j h3)
   ·exact absurd hi (h2 i h3)
theorem ixS_of_at {S : List Nat} (nd : S.Nodup) {s i : Nat} (hi : S[i]? = some s) : ixS S s = some i := by
 refine ixS_of_first hi (fun j hj e => ?_)
 obtain ⟨h1, h2⟩ := List.getElem?_eq_some_iff.1 hi
 obtain ⟨h3, h4⟩ := List.getElem?_eq_some_iff.1 e
 exact List.pairwise_iff_getElem.1 nd j i h3 h1 hj (h4.trans h2.symm)
theorem ixS_of_not {S : List Nat} {s : Nat} (h : s ∉ S) : ixS S s = none := by
 cases hx : ixS S s with
 | none => rfl
 | some j => exact absurd (List.mem_of_getElem? (ixS_lt hx).2) h
theorem ixS_snoc {S : List Nat} {t : Nat} (h : ixS S t = none) (s : Nat) : ixS (S ++ [t]) s = if s = t then some S.length else ixS S s := by
 by_cases e : s = t
 ·subst e
  rw [if_pos rfl]
  refine ixS_of_first (by simp) (fun j hj e => ?_)
  rw [List.getElem?_append_left hj] at e
  exact ixS_none h (List.mem_of_getElem? e)
 ·rw [if_neg e]
  cases hx : ixS S s with
  | none =>
   refine ixS_of_not fun hm => ?_
   rcases List.mem_append.1 hm with hm | hm
   ·exact ixS_none hx hm
   ·exact e (List.mem_singleton.1 hm)
  | some j =>
   have h1 := ixS_lt hx
   refine ixS_of_first (by rw [List.getElem?_append_left h1.1]; exact h1.2) (fun i hi => ?_)
   rw [List.getElem?_append_left (by omega)]
   exact ixS_first hx i hi
def gNode (S : List Nat) (s : Nat) : List Nat × Nat := match ixS S s with | some i => (S, i) | none => (S ++ [s], S.length)
theorem gNode_some {S : List Nat} {s i : Nat} (h : ixS S s = some i) : gNode S s = (S, i) := by unfold gNode; rw [h]
theorem gNode_none {S : List Nat} {s : Nat} (h : ixS S s = none) : gNode S s = (S ++ [s], S.length) := by unfold gNode; rw [h]
theorem gNode_at (S : List Nat) (s : Nat) : (gNode S s).1[(gNode S s).2]? = some s := by
 cases h : ixS S s with
 | some i => rw [gNode_some h]; exact (ixS_lt h).2
 | none => rw [gNode_none h]; simp
theorem gNode_len (S : List Nat) (s : Nat) : (gNode S s).1.length <= S.length + 1 /\ S.length <= (gNode S s).1.length := by
 cases h : ixS S s with
 | some i => rw [gNode_some h]; exact ⟨Nat.le_succ _, Nat.le_refl _⟩
 | none => rw [gNode_none h]; simp
theorem gNode_keeps {S : List Nat} (s : Nat) {i t : Nat} (h : S[i]? = some t) : (gNode S s).1[i]? = some t := by
 cases hx : ixS S s with
 | some j => rw [gNode_some hx]; exact h
 | none =>
  rw [gNode_none hx]
  show (S ++ [s])[i]? = _
  rw [List.getElem?_append_left (List.getElem?_eq_some_iff.1 h).1]
  exact h
structure SOk (S : List Nat) : Prop where
 nd : S.Nodup
 lt : ∀ s ∈ S, s < 18446744073709551616
theorem SOk.at_lt {S : List Nat} (h : SOk S) {i s : Nat} (hi : S[i]? = some s) : s < 18446744073709551616 := h.lt s (List.mem_of_getElem? hi)
theorem SOk.one : SOk [0] := ⟨by simp, fun _ hs => by rw [List.mem_singleton.1 hs]; decide⟩
theorem SOk.nil : SOk [] := ⟨List.nodup_nil, fun _ hs => absurd hs List.not_mem_nil⟩
theorem SOk.snoc {S : List Nat} (h : SOk S) {s : Nat} (hs : s < 18446744073709551616) (hx : ixS S s = none) : SOk (S ++ [s]) where
 nd := List.nodup_append.2 ⟨h.nd, by simp, fun a ha b hb e => ixS_none hx (by rw [<- List.mem_singleton.1 hb, <- e]; exact ha)⟩
 lt t ht := by
  rcases List.mem_append.1 ht with ht | ht
  ·exact h.lt t ht
  ·rw [List.mem_singleton.1 ht]; exact hs
theorem SOk.node {S : List Nat} (h : SOk S) {s : Nat} (hs : s < 18446744073709551616) : SOk (gNode S s).1 := by
 cases hx : ixS S s with
 | some i => rw [gNode_some hx]; exact h
 | none => rw [gNode_none hx]; exact h.snoc hs hx
def chg (b : Bool) (s : Nat) (c : Int) : Nat := if b = true then s ||| orL [c] else butN s (orL [c])
theorem chg_lt (b : Bool) {s : Nat} (c : Int) (h : s < 18446744073709551616) : chg b s c < 18446744073709551616 := by
 unfold chg
 split
 ·exact Nat.or_lt_two_pow (n := 64) h (orL_lt _)
 ·exact butN_lt h
def gMove (S : List Nat) (b : Bool) (n c : Int) : List Nat × Int :=
 if 0 <= n /\ n < S.length then ((gNode S (chg b (S.getD n.toNat 0) c)).1, ((gNode S (chg b (S.getD n.toNat 0) c)).2 : Int)) else (S, -1)
def Beside (s t : Nat) (c : Int) : Prop := s ≠ t /\ 0 <= c /\ c < 64 /\ ∀ i : Nat, i < 64 -> (i : Int) ≠ c -> s.testBit i = t.testBit i
theorem Beside.symm {s t : Nat} {c : Int} (h : Beside s t c) : Beside t s c := ⟨h.1.symm, h.2.1, h.2.2.1, fun i hi hc => (h.2.2.2 i hi hc).symm⟩
theorem Beside.same {s t t' : Nat} {c : Int} (hs : s < 18446744073709551616) (ht : t < 18446744073709551616) (ht' : t' < 18446744073709551616) (h : Beside s t c) (h' : Beside s t' c) : t = t' := by
 obtain ⟨e1, c0, c1, h2⟩ := h
 obtain ⟨e1', _, _, h2'⟩ := h'
 refine eq_of_bits ht ht' fun i hi => ?_
 by_cases hc : (i : Int) = c
 ·have d1 : s.testBit i ≠ t.testBit i := fun e => e1 (eq_of_bits hs ht fun j hj => by
   by_cases hj2 : (j : Int) = c
   ·have : j = i := by omega
    rw [this]; exact e
   ·exact h2 j hj hj2)
  have d2 : s.testBit i ≠ t'.testBit i := fun e => e1' (eq_of_bits hs ht' fun j hj => by
   by_cases hj2 : (j : Int) = c
   ·have : j = i := by omega
    rw [this]; exact e
   ·exact h2' j hj hj2)
  generalize s.testBit i = a at *
  generalize t.testBit i = b at *
  generalize t'.testBit i = d at *
  cases a <;> cases b <;> cases d <;> simp_all
 ·rw [<- h2 i hi hc, <- h2' i hi hc]
theorem chg_beside (b : Bool) {s : Nat} {c : Int} (hs : s < 18446744073709551616) (h : chg b s c ≠ s) : Beside s (chg b s c) c := by
 have hc : 0 <= c /\ c < 64 := by
  by_cases hc : 0 <= c /\ c < 64
  ·exact hc
  ·refine absurd ?_ h
   have h0 : orL [c] = 0 := by rw [orL_one, if_neg hc]
   unfold chg
   rw [h0]
   cases b
   ·simp only [Bool.false_eq_true, if_false]
    exact eq_of_bits (butN_lt hs) hs fun i hi => by rw [butN_bit' _ _ _ (by decide) hi]; simp
   ·simp
 refine ⟨fun e => h e.symm, hc.1, hc.2, fun i hi hne => ?_⟩
 have hb : (orL [c]).testBit i = false := by rw [orL_bit]; simp [hne]
 unfold chg
 cases b
 ·simp only [Bool.false_eq_true, if_false]
  rw [butN_bit' _ _ _ (orL_lt _) hi, hb]
  simp
 ·simp only [if_true]
  rw [Nat.testBit_or, hb]
  simp
end Go.Proofs.YthiknmhkdeicjaaGreatDoor
namespace Go.Proofs.YthiknmhkdeicjaaGreatDoor
set_option maxRecDepth 20000
open Go.RowKit
theorem setsT : El Tryz.prog 127 26 (.int .u64 0) 1 8 := ⟨Tryz.underlying127, by kernel_rfl, rfl, by decide⟩
def setsV (S : List Nat) : List Value := S.map fun s : Nat => .int .u64 (s : Int)
theorem setsV_get {S : List Nat} {i s : Nat} (h : S[i]? = some s) : (setsV S)[i]? = some (.int .u64 (s : Int)) := by simp [setsV, h]
theorem setsV_snoc (S : List Nat) (s : Nat) : setsV (S ++ [s]) = setsV S ++ [.int .u64 (s : Int)] := by simp [setsV]
def atV (o : Option Nat) : Option Value := o.map fun i => .int .i64 (i : Int)
theorem kfS : Kf Tryz.prog 26 (fun s : Nat => .int .u64 (s : Int)) litU okU := kfU Tryz.underlying26
theorem laidOutG : laidOutB Tryz.prog = true := by kernel_rfl
theorem lawE : WideMaps.KeyLaw Tryz.prog 251 := deep_law_laid laidOutG (m := 2) (by omega) (of_decide_eq_true (by kernel_rfl)) (by kernel_rfl) (by kernel_rfl)
def valE (x : Int × Int) : Value := .agg #[.int .i64 x.1, .int .i64 x.2]
def litE (x : Int × Int) : Lit := .string (keyBytes [.int .i64 x.1, .int .i64 x.2])
def okE (x : Int × Int) : Prop := (Lit.int .i64 x.1).wf = true /\ (Lit.int .i64 x.2).wf = true
theorem keyE {x : Int × Int} (h : okE x) : keyOf Tryz.prog 251 (valE x) = some (litE x) := by
 obtain ⟨a, b⟩ := x
 obtain ⟨h1, h2⟩ := h
 simp only at h1 h2
 have hk : Tryz.prog.keyType 251 = true := by kernel_rfl
 have hc : Tryz.prog.cellsOf 251 = 2 := by kernel_rfl
 have hc1 : Tryz.prog.cellsOf 3 = 1 := by kernel_rfl
 obtain ⟨D, hD⟩ : ∃ D, Tryz.prog.types.size = D + 1 := ⟨Tryz.prog.types.size - 1, by have : 0 < Tryz.prog.types.size := of_decide_eq_true (by kernel_rfl); omega⟩
 have hf : (valE (a, b)).formed Tryz.prog 251 = true := by simp [valE, Value.formed, Tryz.underlying251, hc]
 have hl : Tryz.prog.keyLits (Tryz.prog.types.size + 1) 251 (valE (a, b)).cells.toList = some [.int .i64 a, .int .i64 b] := by
  rw [hD]
  simp [Program.keyLits, Tryz.underlying251, Tryz.underlying3, valE, Value.cells, hc, hc1, h1, h2]
 simp only [keyOf, Tryz.underlying251, hk, hf, hl, Bool.and_self, if_true, Option.map_some]
 rfl
theorem kfE : Kf Tryz.prog 251 valE litE okE where
 law := Maps.Keyed.of_law lawE
 key h := keyE h
 inj {i j} hi hj e := by
  have := (Maps.Keyed.of_law lawE).inj (keyE hi) (by rw [e]; exact keyE hj)
  obtain ⟨a, b⟩ := i
  obtain ⟨c, d⟩ := j
  simp [valE] at this
  rw [this.1, this.2]
structure GAt (w : World) (own : Nat -> Prop) (p : Nat) (sv : Value) (m1 m2 : Nat) (S : List Nat) (ed : Int × Int -> Option Nat) (b : Nat) : Prop where
 blk : Rec 190 w p #[sv, .map (some m1), .map (some m2)]
 row : w.ownsRow 0 26 1 sv S.length (setsV S)
 nodes : MapF Tryz.prog 26 litU okU (.int .i64 0) w m1 S.length (fun s => atV (ixS S s))
 edges : MapF Tryz.prog 251 litE okE (.int .i64 0) w m2 b (fun x => atV (ed x))
 two : m1 ≠ m2
 ownp : own p
 own1 : own m1
 own2 : own m2
 ownv : ∀ x, sv.ownBlock = some x -> own x
 ok : SOk S
 edok : ∀ n c m, ed (n, c) = some m -> ∃ (i s t : Nat), n = (i : Int) /\ S[i]? = some s /\ S[m]? = some t /\ Beside s t c
section
variable {w w' : World} {own own' : Nat -> Prop} {p m1 m2 b : Nat} {sv : Value} {S : List Nat} {ed : Int × Int -> Option Nat}
theorem own_openG {w : World} {B e n : Nat} {v : Value} {xs : List Value} (h : w.ownsRow B e 1 v n xs) :
  ∃ A c, v = .slice A n c /\ n <= c /\ c <= maxLen /\ (0 < n -> ∃ g, A = some ⟨g, 0, none⟩ /\ g < w.heap.size /\ (∀ j, j < n -> w.cell? ⟨g, j, none⟩ = xs[j]?)) := by
 have h' := h
 rcases h.2 with ⟨hv, h0⟩ | ⟨g, cap, cur, rfl, _, hh, hn, hc, _, _⟩
 ·exact ⟨none, 0, by rw [hv, h0], by omega, by unfold maxLen; omega, fun hp => by omega⟩
 ·exact ⟨_, cap, rfl, hn, hc, fun _ => ⟨g, rfl, (Array.getElem?_eq_some_iff.1 hh).1, fun j hj => h'.cellAt j (by omega)⟩⟩
theorem GAt.c0 (h : GAt w own p sv m1 m2 S ed b) : w.cell? ⟨p, 0, none⟩ = some sv := h.blk.at_ 0
theorem GAt.c1 (h : GAt w own p sv m1 m2 S ed b) : w.cell? ⟨p, 1, none⟩ = some (.map (some m1)) := h.blk.at_ 1
theorem GAt.c2 (h : GAt w own p sv m1 m2 S ed b) : w.cell? ⟨p, 2, none⟩ = some (.map (some m2)) := h.blk.at_ 2
theorem GAt.kept (h : GAt w own p sv m1 m2 S ed b) (hf : Fr own' w w') (hd : ∀ x, own x -> ¬ own' x) : GAt w' own p sv m1 m2 S ed b :=
 { h with
  blk := h.blk.fr hf (hd p h.ownp)
  row := own_fr h.row hf (fun x hx => hd x (h.ownv x hx))
  nodes := h.nodes.fr hf (hd m1 h.own1)
  edges := h.edges.fr hf (hd m2 h.own2) }
theorem GAt.below (h : GAt w own p sv m1 m2 S ed b) (hb : Below w.heap.size w w') : GAt w' own p sv m1 m2 S ed b := h.kept (own' := fun _ => False) (Fr.ofBelow _ hb) (fun _ _ hx => hx)
theorem zeroI (w : World) : (zeroValue 3).run Tryz.prog w = .ok (.int .i64 0) w := by kernel_rfl
theorem GAt.look1 (h : GAt w own p sv m1 m2 S ed b) {s : Nat} (hs : s < 18446744073709551616) :
  (Instr.lookup 187 (.map (some m1)) (.int .u64 (s : Int)) true).run Tryz.prog w = .ok (.tuple #[(atV (ixS S s)).getD (.int .i64 0), .bool (atV (ixS S s)).isSome]) w :=
 h.nodes.look_ok kfS Tryz.underlying187 (zeroI w) (i := s) hs
theorem GAt.look2 (h : GAt w own p sv m1 m2 S ed b) {n c : Int} (hn : (Lit.int .i64 n).wf = true) (hc : (Lit.int .i64 c).wf = true) :
  (Instr.lookup 188 (.map (some m2)) (.agg #[.int .i64 n, .int .i64 c]) true).run Tryz.prog w = .ok (.tuple #[(atV (ed (n, c))).getD (.int .i64 0), .bool (atV (ed (n, c))).isSome]) w :=
 h.edges.look_ok kfE Tryz.underlying188 (zeroI w) (i := (n, c)) ⟨hn, hc⟩
theorem Len_any (h : GAt w own p sv m1 m2 S ed b) : Calls Tryz.prog 136 #[.pointer (some ⟨p, 0, none⟩)] w fun e w' => e = .returned (.int .i64 S.length) /\ w = w' := by
 obtain ⟨A, c, rfl, _, _, _⟩ := own_openG h.row
 have c0 := h.c0
 clear h
 go_enter Tryz.func136, Tryz.ntmps136
 go_wp2
 go_ret
 exact ⟨rfl, rfl⟩
theorem Sig_no (h : GAt w own p sv m1 m2 S ed b) (n : Int) (hn : ¬ (0 <= n /\ n < S.length)) :
  Calls Tryz.prog 130 #[.pointer (some ⟨p, 0, none⟩), .int .i64 n] w fun e w' => e = .returned (.tuple #[.int .u64 0, .bool false]) /\ w = w' := by
 have CL := hi_ (Len_any h)
 clear h
 by_cases h0 : n < 0
 ·have h1 : decide (n < 0) = true := decide_eq_true h0
  go_enter Tryz.func130, Tryz.ntmps130
  go_wp2_with (go_at_call 136; refine CL.out.mono ?_; rintro e w' ⟨rfl, rfl⟩)
  go_ret2
  exact ⟨rfl, rfl⟩
 ·have h1 : decide (n < 0) = false := decide_eq_false h0
  have h2 : decide ((S.length : Int) <= n) = true := decide_eq_true (by omega)
  go_enter Tryz.func130, Tryz.ntmps130
  go_wp2_with (go_at_call 136; refine CL.out.mono ?_; rintro e w' ⟨rfl, rfl⟩)
  go_ret2
  exact ⟨rfl, rfl⟩
theorem Sig_yes (h : GAt w own p sv m1 m2 S ed b) (i s : Nat) (hi : S[i]? = some s) :
  Calls Tryz.prog 130 #[.pointer (some ⟨p, 0, none⟩), .int .i64 i] w fun e w' => e = .returned (.tuple #[.int .u64 s, .bool true]) /\ w = w' := by
 have CL := hi_ (Len_any h)
 obtain ⟨A, c, rfl, _, _, hr⟩ := own_openG h.row
 have hlt := (List.getElem?_eq_some_iff.1 hi).1
 obtain ⟨g, rfl, hg, hc⟩ := hr (by omega)
 have c0 := h.c0
 have k := hc i hlt
 rw [setsV_get hi] at k
 have h1 : decide ((i : Int) < 0) = false := decide_eq_false (by omega)
 have h2 : decide ((S.length : Int) <= (i : Int)) = false := decide_eq_false (by omega)
 have h3 : decide (S.length <= i) = false := decide_eq_false (by omega)
 clear h hc hi hr
 go_enter Tryz.func130, Tryz.ntmps130
 go_wp2_with (go_at_call 136; refine CL.out.mono ?_; rintro e w' ⟨rfl, rfl⟩)
 go_ret2
 exact ⟨rfl, rfl⟩
end
end Go.Proofs.YthiknmhkdeicjaaGreatDoor
namespace Go.Proofs.YthiknmhkdeicjaaGreatDoor
set_option maxRecDepth 20000
open Go.RowKit
theorem own_tagG {w : World} {B e n : Nat} {v : Value} {xs : List Value} (h : w.ownsRow B e 1 v n xs) {x : Nat} (hx : v.ownBlock = some x) : ∃ C, w.heap[x]? = some (.cells C e (0, 0)) := by
 rcases h.2 with ⟨rfl, _⟩ | ⟨g, cap, cur, rfl, _, hh, _⟩
 ·cases hx
 ·simp [Value.ownBlock] at hx
  subst hx
  exact ⟨_, hh⟩
theorem own_notG {w : World} {B e n q : Nat} {T : TypeId} {C : Array Value} {v : Value} {xs : List Value} (h : w.ownsRow B e 1 v n xs) (hq : w.heap[q]? = some (.cells C T (0, 0))) (hne : T ≠ e) : v.ownBlock ≠ some q := fun hx => by
 obtain ⟨D, hD⟩ := own_tagG h hx
 rw [hq] at hD
 injection hD with hD
 injection hD with _ h2
 exact hne h2
theorem own_notM {w : World} {B e n q : Nat} {es : Array MapEntry} {cl : Nat} {v : Value} {xs : List Value} (h : w.ownsRow B e 1 v n xs) (hq : w.heap[q]? = some (.map es cl)) : v.ownBlock ≠ some q := fun hx => by
 obtain ⟨D, hD⟩ := own_tagG h hx
 rw [hq] at hD
 cases hD
theorem rec_notM {w : World} {q p : Nat} {es : Array MapEntry} {cl : Nat} {T : TypeId} {C : Array Value} (h : Rec T w p C) (hq : w.heap[q]? = some (.map es cl)) : q ≠ p := fun e => by
 have h' : w.heap[p]? = some (.cells C T (0, 0)) := h
 rw [<- e, hq] at h'
 cases h'
def GGo (w : World) (own : Nat -> Prop) (p m1 m2 : Nat) (S : List Nat) (ed : Int × Int -> Option Nat) (b : Nat) (w' : World) : Prop :=
 Fr own w w' /\ ∃ own' sv', (∀ x, own' x -> own x \/ w.heap.size <= x) /\ (∀ x, own' x -> x < w'.heap.size) /\ GAt w' own' p sv' m1 m2 S ed b
theorem GGo.of {w w' : World} {own : Nat -> Prop} {p m1 m2 b : Nat} {sv : Value} {S : List Nat} {ed : Int × Int -> Option Nat} (dom : ∀ x, own x -> x < w.heap.size) (hf : Fr own w w') (h : GAt w' own p sv m1 m2 S ed b) : GGo w own p m1 m2 S ed b w' :=
 ⟨hf, own, sv, fun _ hx => .inl hx, fun x hx => Nat.lt_of_lt_of_le (dom x hx) hf.size, h⟩
theorem GGo.pre {w w1 w2 : World} {own : Nat -> Prop} {p m1 m2 b : Nat} {S : List Nat} {ed : Int × Int -> Option Nat} (hb : Below w.heap.size w w1) (h : GGo w1 own p m1 m2 S ed b w2) : GGo w own p m1 m2 S ed b w2 := by
 obtain ⟨hf, own', sv', ho, hd⟩ := h
 exact ⟨(Fr.ofBelow own hb).trans hf, own', sv', fun x hx => (ho x hx).imp id (fun h => Nat.le_trans hb.size h), hd⟩
section
variable {w w' : World} {own own' : Nat -> Prop} {p m1 m2 b : Nat} {sv : Value} {S : List Nat} {ed : Int × Int -> Option Nat}
theorem Node_old (h : GAt w own p sv m1 m2 S ed b) (s i : Nat) (hs : s < 18446744073709551616) (hi : ixS S s = some i) :
  Calls Tryz.prog 75 #[.pointer (some ⟨p, 0, none⟩), .int .u64 s] w fun e w' => e = .returned (.int .i64 i) /\ w = w' := by
 have L : (Instr.lookup 187 (.map (some m1)) (.int .u64 (s : Int)) true).run Tryz.prog w = .ok (.tuple #[.int .i64 i, .bool true]) w := by
  have := h.look1 hs
  rw [hi] at this
  exact this
 have c1 := h.c1
 clear h
 go_enter Tryz.func75, Tryz.ntmps75
 go_wp2
 go_ret
 exact ⟨rfl, rfl⟩
theorem atV_snoc {S : List Nat} {s : Nat} (hi : ixS S s = none) (j : Nat) : (if j = s then some (Value.int .i64 (S.length : Int)) else atV (ixS S j)) = atV (ixS (S ++ [s]) j) := by
 rw [ixS_snoc hi]
 by_cases e : j = s
 ·rw [if_pos e, if_pos e]; rfl
 ·rw [if_neg e, if_neg e]
theorem GAt.grew {wa w4 w5 : World} {v' : Value} {s : Nat} (dom : ∀ x, own x -> x < wa.heap.size) (ha : GAt wa own p sv m1 m2 S ed b) (hs : s < 18446744073709551616) (hi : ixS S s = none)
  (ho4 : w4.ownsRow 0 26 1 v' (S.length + 1) (setsV S ++ [.int .u64 (s : Int)])) (hg4 : wa.grownBy w4 sv.ownBlock) (hloc : v'.ownBlock = sv.ownBlock \/ v'.ownBlock = some wa.heap.size) (hw5 : w5 = w4.setCell ⟨p, 0, none⟩ v') :
  MapF Tryz.prog 26 litU okU (.int .i64 0) w5 m1 S.length (fun s => atV (ixS S s)) /\
  ∀ w6, MapF Tryz.prog 26 litU okU (.int .i64 0) w6 m1 (S.length + 1) (fun j => if j = s then some (.int .i64 (S.length : Int)) else atV (ixS S j)) -> w5.grownBy w6 (some m1) -> GGo wa own p m1 m2 (S ++ [s]) ed b w6 := by
 obtain ⟨es1, cl1, hm1⟩ := ha.nodes.map_at
 obtain ⟨es2, cl2, hm2⟩ := ha.edges.map_at
 have np : sv.ownBlock ≠ some p := own_notG ha.row ha.blk (by decide)
 have n1 : sv.ownBlock ≠ some m1 := own_notM ha.row hm1
 have n2 : sv.ownBlock ≠ some m2 := own_notM ha.row hm2
 have q1 : m1 ≠ p := rec_notM ha.blk hm1
 have q2 : m2 ≠ p := rec_notM ha.blk hm2
 have hR4 : Rec 190 w4 p #[sv, .map (some m1), .map (some m2)] := ha.blk.block (hg4.block p ha.blk.lt (fun e => np e.symm))
 have hN4 := ha.nodes.block (hg4.block m1 ha.nodes.lt (fun e => n1 e.symm))
 have hE4 := ha.edges.block (hg4.block m2 ha.edges.lt (fun e => n2 e.symm))
 have f5 : Fr (· = p) w4 w5 := by rw [hw5]; exact Fr.setCell (own := (· = p)) w4 (p := ⟨p, 0, none⟩) rfl _
 have hR5 : Rec 190 w5 p #[v', .map (some m1), .map (some m2)] := by rw [hw5]; exact hR4.set 0 v'
 have hv4 : v'.ownBlock ≠ some p := own_notG ho4 hR4 (by decide)
 have hO5 := own_fr ho4 f5 (fun x hx e => hv4 (by rw [hx, show x = p from e]))
 have hN5 := hN4.fr f5 (fun e => q1 e)
 have hE5 := hE4.fr f5 (fun e => q2 e)
 have F4 : Fr own wa w4 := Fr.grown hg4 (fun x hx => ha.ownv x hx)
 have F5 : Fr own wa w5 := F4.trans' f5 (fun x hx => .inl (by rw [show x = p from hx]; exact ha.ownp))
 refine ⟨hN5, fun w6 hN6 hg6 => ?_⟩
 obtain ⟨es5, cl5, hm5⟩ := hN5.map_at
 have nv5 : v'.ownBlock ≠ some m1 := own_notM hO5 hm5
 have F6 : Fr own wa w6 := F5.trans' (Fr.grown (own := (· = m1)) hg6 (fun x hx => by injection hx with hx; exact hx.symm)) (fun x hx => .inl (by rw [show x = m1 from hx]; exact ha.own1))
 have f6 : Fr (· = m1) w5 w6 := Fr.grown hg6 (fun x hx => by injection hx with hx; exact hx.symm)
 refine ⟨F6, fun x => own x \/ v'.ownBlock = some x, v', fun x hx => ?_, fun x hx => ?_, ?_⟩
 ·rcases hx with hx | hx
  ·exact .inl hx
  ·rcases hloc with h | h
   ·exact .inl (ha.ownv x (by rw [<- h]; exact hx))
   ·rw [h] at hx
    injection hx with hx
    exact .inr (by omega)
 ·rcases hx with hx | hx
  ·exact Nat.lt_of_lt_of_le (dom x hx) F6.size
  ·obtain ⟨C, hC⟩ := own_tagG hO5 hx
   exact Nat.lt_of_lt_of_le (Array.getElem?_eq_some_iff.1 hC).1 f6.size
 ·exact {
   blk := hR5.fr f6 (fun e => q1 e.symm)
   row := by
    have := own_fr hO5 f6 (fun x hx e => nv5 (by rw [hx, show x = m1 from e]))
    rw [setsV_snoc, List.length_append]
    exact this
   nodes := by
    rw [List.length_append]
    exact hN6.congr (fun j _ => atV_snoc hi j)
   edges := hE5.fr f6 (fun e => ha.two e.symm)
   two := ha.two
   ownp := .inl ha.ownp
   own1 := .inl ha.own1
   own2 := .inl ha.own2
   ownv := fun x hx => .inr hx
   ok := ha.ok.snoc hs hi
   edok := fun n c m h => by
    obtain ⟨i, s', t, e1, e2, e3, e4⟩ := ha.edok n c m h
    exact ⟨i, s', t, e1, by rw [List.getElem?_append_left (List.getElem?_eq_some_iff.1 e2).1]; exact e2, by rw [List.getElem?_append_left (List.getElem?_eq_some_iff.1 e3).1]; exact e3, e4⟩ }
theorem Node_new (dom : ∀ x, own x -> x < w.heap.size) (h : GAt w own p sv m1 m2 S ed b) (s : Nat) (hs : s < 18446744073709551616) (hi : ixS S s = none) (hpos : 0 < S.length) (hS : S.length <= 1000000) :
  Calls Tryz.prog 75 #[.pointer (some ⟨p, 0, none⟩), .int .u64 s] w fun e w' => e = .returned (.int .i64 S.length) /\ GGo w own p m1 m2 (S ++ [s]) ed b w' := by
 obtain ⟨i0, hi0, hz0, hz1, hz2⟩ := info_parts setsT.info
 have L : (Instr.lookup 187 (.map (some m1)) (.int .u64 (s : Int)) true).run Tryz.prog w = .ok (.tuple #[.int .i64 0, .bool false]) w := by
  have := h.look1 hs
  rw [hi] at this
  exact this
 have c1 := h.c1
 have c0 := h.c0
 have hn0 : decide ((S.length : Int) = 0) = false := decide_eq_false (by omega)
 have hn1 : decide (S.length = 0) = false := decide_eq_false (by omega)
 have hn2 : ¬ S = [] := fun e => by rw [e] at hpos; exact absurd hpos (by decide)
 have hn3 : decide (S = []) = false := decide_eq_false hn2
 obtain ⟨wa, hwa⟩ : ∃ wa, wa = w.alloc (.cells #[.int .u64 (s : Int)] 26) := ⟨_, rfl⟩
 have ba : Below w.heap.size w wa := by rw [hwa]; exact (Below.refl _ _).alloc (Nat.le_refl _) _
 have ha := h.below ba
 have a0 := ha.c0
 have a1 := ha.c1
 have ho := ha.row
 have hcell : ∀ j u, [Value.int .u64 (s : Int)][j]? = some u -> wa.cell? ((⟨w.heap.size, 0, none⟩ : Addr).add j) = some u := by rw [hwa]; exact cell_one_new _ _ _
 have hsz : w.heap.size < wa.heap.size := by rw [hwa]; simp
 obtain ⟨A, c, rfl, _, _, _⟩ := own_openG h.row
 have HA := hi_ ha
 have HO := hi_ ho
 have HC := hi_ hcell
 have HB := hi_ ba
 have HD := hi_ dom
 have HNEW := hi_ hi
 have HOK := hi_ h.ok
 have HS := hi_ (setsV_snoc S s)
 clear h ha ho hcell ba dom hi
 go_enter Tryz.func75, Tryz.ntmps75
 go_wp2_with (first
  | (rw [<- hwa]; clear hwa)
  | (at_builtin; refine wpList_append_own_at _ rfl _ _ 127 rfl 0 26 i0 (.int .u64 0) 1 8 Tryz.underlying127 hi0 hz0 hz1 hz2 rfl (by decide) _ _ _ rfl HO.out ⟨w.heap.size, 0, none⟩ 1 1 [.int .u64 (s : Int)] rfl rfl HC.out (fun u hu => by rw [List.mem_singleton.1 hu]; rfl) (by unfold maxLen; omega) (by omega) (Nat.zero_le _) ?_; intro v' w4 ho4 hg4 _ hloc; obtain ⟨A4, c4, rfl, _, _, _⟩ := own_openG ho4; have hR4 := HA.out.blk.block (hg4.block p HA.out.blk.lt (fun e => own_notG HO.out HA.out.blk (by decide) e.symm)); have k0 : w4.cell? ⟨p, 0, none⟩ = _ := hR4.at_ 0; have k1 : w4.cell? ⟨p, 1, none⟩ = _ := hR4.at_ 1; have z0 : w4.frozen? ⟨p, 0, none⟩ = false := hR4.fz 0; have HO4 := hi_ ho4; have HG4 := hi_ hg4; have HL4 := hi_ hloc; have HR4 := hi_ hR4; clear ho4 hg4 hloc hR4)
  | (at_mapUpdate; refine wpList_putF kfS Tryz.underlying187 (by rfl) (.tmp 49) (.tmp 50) (.tmp 51) rfl (HA.out.grew (fun x hx => Nat.lt_of_lt_of_le (HD.out x hx) HB.out.size) hs HNEW.out HO4.out HG4.out HL4.out rfl).1 (by omega) s hs (.int .i64 S.length) rfl rfl rfl ?_; intro w6 hN6 hg6; have HG6 := hi_ (GGo.pre HB.out ((HA.out.grew (fun x hx => Nat.lt_of_lt_of_le (HD.out x hx) HB.out.size) hs HNEW.out HO4.out HG4.out HL4.out rfl).2 w6 hN6 hg6)); clear hN6 hg6))
 go_ret
 exact ⟨rfl, HG6.out⟩
theorem Node_any (dom : ∀ x, own x -> x < w.heap.size) (h : GAt w own p sv m1 m2 S ed b) (s : Nat) (hs : s < 18446744073709551616) (hpos : 0 < S.length) (hS : S.length <= 1000000) :
  Calls Tryz.prog 75 #[.pointer (some ⟨p, 0, none⟩), .int .u64 s] w fun e w' => e = .returned (.int .i64 ((gNode S s).2 : Nat)) /\ GGo w own p m1 m2 (gNode S s).1 ed b w' := by
 cases hi : ixS S s with
 | some i =>
  rw [gNode_some hi]
  refine (Node_old h s i hs hi).mono ?_
  rintro e w' ⟨rfl, rfl⟩
  exact ⟨rfl, GGo.of dom (Fr.refl _ _) h⟩
 | none =>
  rw [gNode_none hi]
  exact Node_new dom h s hs hi hpos hS
theorem GGo.preF {w1 w2 : World} (hb : Fr own w w1) (h : GGo w1 own p m1 m2 S ed b w2) : GGo w own p m1 m2 S ed b w2 := by
 obtain ⟨hf, own', sv', ho, hd⟩ := h
 exact ⟨hb.trans hf, own', sv', fun x hx => (ho x hx).imp id (fun h => Nat.le_trans hb.size h), hd⟩
def ownZ (p g : Nat) (x : Nat) : Prop := x = p \/ x = g \/ x = g + 1
theorem GAt.start {w w2 w3 : World} {p : Nat} (hR : Rec 190 w p #[.slice none 0 0, .map none, .map none])
  (hw2 : w2 = (w.setCell ⟨p, 1, none⟩ (.map (some w.heap.size))).setCell ⟨p, 2, none⟩ (.map (some (w.heap.size + 1)))) (hw3 : w3 = (w2.alloc (.map #[] 0)).alloc (.map #[] 0)) :
  w3.heap.size = w.heap.size + 2 /\ Fr (ownZ p w.heap.size) w w3 /\ GAt w3 (ownZ p w.heap.size) p (.slice none 0 0) w.heap.size (w.heap.size + 1) [] (fun _ => none) 0 := by
 have s2 : w2.heap.size = w.heap.size := by rw [hw2]; simp [World.setCell]
 have s3 : w3.heap.size = w.heap.size + 2 := by rw [hw3]; simp [s2]
 have f2 : Fr (· = p) w w2 := by rw [hw2]; exact (Fr.setCell (own := (· = p)) w (p := ⟨p, 1, none⟩) rfl _).trans (Fr.setCell (own := (· = p)) _ (p := ⟨p, 2, none⟩) rfl _)
 have r2 : Rec 190 w2 p #[.slice none 0 0, .map (some w.heap.size), .map (some (w.heap.size + 1))] := by rw [hw2]; exact (hR.set 1 _).set 2 _
 have b3 : Below w2.heap.size w2 w3 := by rw [hw3]; exact ((Below.refl _ _).alloc (Nat.le_refl _) _).alloc (by simp) _
 have g1 : MapF Tryz.prog 26 litU okU (.int .i64 0) w3 w.heap.size 0 (fun s => atV (ixS [] s)) := by
  have h := MapF.made Tryz.prog 26 litU okU (.int .i64 0) w2
  rw [s2] at h
  rw [hw3]
  exact (h.below ((Below.refl _ _).alloc (Nat.le_refl _) _)).congr (fun _ _ => rfl)
 have g2 : MapF Tryz.prog 251 litE okE (.int .i64 0) w3 (w.heap.size + 1) 0 (fun x => atV none) := by
  have h := MapF.made Tryz.prog 251 litE okE (.int .i64 0) (w2.alloc (.map #[] 0))
  rw [World.size_alloc, s2] at h
  rw [hw3]
  exact h.congr (fun _ _ => rfl)
 refine ⟨s3, (f2.mono (fun x hx => .inl hx)).trans (Fr.ofBelow _ b3), ?_⟩
 exact {
  blk := r2.under b3
  row := World.ownsRow_nil _ _ _ _
  nodes := g1
  edges := g2
  two := by omega
  ownp := .inl rfl
  own1 := .inr (.inl rfl)
  own2 := .inr (.inr rfl)
  ownv := fun x hx => by cases hx
  ok := SOk.nil
  edok := fun _ _ _ h => by cases h }
theorem Node_zero (p : Nat) (w : World) (hR : Rec 190 w p #[.slice none 0 0, .map none, .map none]) :
  Calls Tryz.prog 75 #[.pointer (some ⟨p, 0, none⟩), .int .u64 0] w fun e w' => e = .returned (.int .i64 0) /\ GGo w (ownZ p w.heap.size) p w.heap.size (w.heap.size + 1) [0] (fun _ => none) 0 w' := by
 obtain ⟨i0, hi0, hz0, hz1, hz2⟩ := info_parts setsT.info
 have L : (Instr.lookup 187 (.map none) (.int .u64 0) true).run Tryz.prog w = .ok (.tuple #[.int .i64 0, .bool false]) w := look_none kfS Tryz.underlying187 (zeroI w) (i := 0) (by unfold okU; decide)
 have c0 : w.cell? ⟨p, 0, none⟩ = some (.slice none 0 0) := hR.at_ 0
 have c1 : w.cell? ⟨p, 1, none⟩ = some (.map none) := hR.at_ 1
 have c2 : w.cell? ⟨p, 2, none⟩ = some (.map none) := hR.at_ 2
 have z1 : w.frozen? ⟨p, 1, none⟩ = false := hR.fz 1
 have z2 : w.frozen? ⟨p, 2, none⟩ = false := hR.fz 2
 have hp := hR.lt
 have hmm := @run_makeMap Tryz.prog
 obtain ⟨w2, hw2⟩ : ∃ w2, w2 = (w.setCell ⟨p, 1, none⟩ (.map (some w.heap.size))).setCell ⟨p, 2, none⟩ (.map (some (w.heap.size + 1))) := ⟨_, rfl⟩
 obtain ⟨w3, hw3⟩ : ∃ w3, w3 = (w2.alloc (.map #[] 0)).alloc (.map #[] 0) := ⟨_, rfl⟩
 obtain ⟨wa, hwa⟩ : ∃ wa, wa = w3.alloc (.cells #[.int .u64 0] 26) := ⟨_, rfl⟩
 obtain ⟨s3, F3, G3⟩ := GAt.start hR hw2 hw3
 have hcell : ∀ j u, [Value.int .u64 0][j]? = some u -> wa.cell? ((⟨w.heap.size + 1 + 1, 0, none⟩ : Addr).add j) = some u := by
  have := cell_one_new w3 (.int .u64 0) 26
  rw [s3] at this
  rw [hwa]
  exact this
 have ba : Below w3.heap.size w3 wa := by rw [hwa]; exact (Below.refl _ _).alloc (Nat.le_refl _) _
 have ga := G3.below ba
 have sa : w.heap.size + 2 <= wa.heap.size := by have := ba.size; omega
 have Fa := F3.trans (Fr.ofBelow (ownZ p w.heap.size) ba)
 have dom : ∀ x, ownZ p w.heap.size x -> x < wa.heap.size := fun x hx => by rcases hx with h | h | h <;> omega
 have e2 : ((w.setCell ⟨p, 1, none⟩ (.map (some w.heap.size))).setCell ⟨p, 2, none⟩ (.map (some (w.heap.size + 1)))) = w2 := hw2.symm
 have e3 : ((w2.alloc (.map #[] 0)).alloc (.map #[] 0)) = w3 := hw3.symm
 have hx0 : ixS [] 0 = none := rfl
 have HA := hi_ ga
 have HO := hi_ ga.row
 have HC := hi_ hcell
 have HF := hi_ Fa
 have HD := hi_ dom
 have HE := hi_ (And.intro e2 (And.intro e3 hwa.symm))
 clear ga hcell Fa dom e2 e3 hwa hw2 hw3 ba G3 F3 s3 hR
 go_enter Tryz.func75, Tryz.ntmps75
 go_wp2_with (first
  | (rw [HE.out.1, HE.out.2.1, HE.out.2.2])
  | (at_builtin; refine wpList_append_own_at _ rfl _ _ 127 rfl 0 26 i0 (.int .u64 0) 1 8 Tryz.underlying127 hi0 hz0 hz1 hz2 rfl (by decide) _ _ _ rfl HO.out ⟨w.heap.size + 1 + 1, 0, none⟩ 1 1 [.int .u64 0] rfl rfl HC.out (fun u hu => by rw [List.mem_singleton.1 hu]; rfl) (by unfold maxLen; decide) (by decide) (Nat.zero_le _) ?_; intro v' w4 ho4 hg4 _ hloc; obtain ⟨A4, c4, rfl, _, _, _⟩ := own_openG ho4; have hR4 := HA.out.blk.block (hg4.block p HA.out.blk.lt (fun e => own_notG HO.out HA.out.blk (by decide) e.symm)); have k0 : w4.cell? ⟨p, 0, none⟩ = _ := hR4.at_ 0; have k1 : w4.cell? ⟨p, 1, none⟩ = _ := hR4.at_ 1; have z0 : w4.frozen? ⟨p, 0, none⟩ = false := hR4.fz 0; have HO4 := hi_ ho4; have HG4 := hi_ hg4; have HL4 := hi_ hloc; have HR4 := hi_ hR4; clear ho4 hg4 hloc hR4)
  | (at_mapUpdate; refine wpList_putF kfS Tryz.underlying187 (by rfl) (.tmp 49) (.tmp 50) (.tmp 51) rfl (HA.out.grew HD.out (by decide) hx0 HO4.out HG4.out HL4.out rfl).1 (by decide) 0 (by unfold okU; decide) (.int .i64 0) rfl rfl rfl ?_; intro w6 hN6 hg6; have HG6 := hi_ (GGo.preF HF.out ((HA.out.grew HD.out (by decide) hx0 HO4.out HG4.out HL4.out rfl).2 w6 hN6 hg6)); clear hN6 hg6))
 go_ret
 exact ⟨rfl, HG6.out⟩
theorem GNew_any (w : World) :
  Calls Tryz.prog 87 #[] w fun e w' => e = .returned (.pointer (some ⟨w.heap.size, 0, none⟩)) /\ ∃ own m1 m2, (∀ x, own x -> w.heap.size <= x) /\ Below w.heap.size w w' /\ GGo w own w.heap.size m1 m2 [0] (fun _ => none) 0 w' := by
 obtain ⟨w1, hw1⟩ : ∃ w1, w1 = w.alloc (.cells #[.slice none 0 0, .map none, .map none] 190) := ⟨_, rfl⟩
 have hb : Below w.heap.size w w1 := by rw [hw1]; exact (Below.refl _ _).alloc (Nat.le_refl _) _
 have hR : Rec 190 w1 w.heap.size #[.slice none 0 0, .map none, .map none] := by rw [hw1]; exact Rec.new _ _ _
 have C := hi_ (Node_zero w.heap.size w1 hR)
 have HB := hi_ hb
 clear hR hb
 go_enter Tryz.func87, Tryz.ntmps87
 go_wp2_with (first
  | (rw [<- hw1]; clear hw1)
  | (go_at_call 75; refine C.out.mono ?_; rintro e w2 ⟨rfl, hG2⟩; have HG := hi_ hG2; clear hG2))
 go_ret
 have hh : ∀ x, ownZ w.heap.size w1.heap.size x -> w.heap.size <= x := fun x hx => by
  have := HB.out.size
  rcases hx with h | h | h <;> omega
 exact ⟨rfl, _, _, _, hh, HB.out.trans (HG.out.1.toBelow hh HB.out.size), GGo.pre HB.out HG.out⟩
end
end Go.Proofs.YthiknmhkdeicjaaGreatDoor
namespace Go.Proofs.YthiknmhkdeicjaaGreatDoor
open Go.RowKit
theorem one_ird (w : World) (c : Int) : IRd (w.alloc (.cells #[.int .i64 c] 3)) (some ⟨w.heap.size, 0, none⟩) 1 [c] :=
 ⟨rfl, fun _ => ⟨w.heap.size, 0, rfl, by simp, fun j hj => by
  obtain rfl : j = 0 := by simp at hj; omega
  exact cell_of_row _ _ 0 _ _ _ (heap_alloc_last w _)⟩⟩
theorem Of_any (A : Option Addr) (n c : Nat) (zs : List Int) (w : World) (h : IRd w A n zs) (hn : n <= 1099511627776) :
  Calls Tryz.prog 133 #[.slice A n c] w fun e w' => e = .returned (.int .u64 (orL zs : Nat)) /\ w = w' := by
 have H := hi_ h
 clear h
 go_enter Tryz.func133, Tryz.ntmps133
 go_wp2
 go_loop [3, 8] (fun v i => ∃ j : Nat, j <= n /\ i = .int .i64 j /\ v = .int .u64 (orL (zs.take j) : Nat)) (fun _ i => n - (intOf i).toNat)
 case atStart => exact ⟨0, Nat.zero_le _, rfl, rfl⟩
 case round =>
  obtain ⟨j, hj, rfl, rfl⟩ := hrel
  by_cases hjn : j < n
  ·obtain ⟨b, o, hA, _, hc⟩ := H.out.2 (by omega)
   have hjl : j < zs.length := by rw [H.out.1]; exact hjn
   have k0 := hc j hjl
   obtain ⟨z, hz⟩ : ∃ z, z = zs.getD j 0 := ⟨_, rfl⟩
   rw [<- hz] at k0
   have htk : zs.take (j + 1) = zs.take j ++ [z] := by
    rw [List.take_succ_eq_append_getElem hjl, hz, List.getD, List.getElem?_eq_getElem hjl]
    rfl
   have hs := orL_snoc (zs.take j) z
   rw [<- htk] at hs
   have hlt := orL_lt (zs.take j)
   obtain ⟨s, hs'⟩ : ∃ s, s = orL (zs.take j) := ⟨_, rfl⟩
   obtain ⟨s2, hs2⟩ : ∃ s2, s2 = orL (zs.take (j + 1)) := ⟨_, rfl⟩
   rw [<- hs', <- hs2] at hs
   rw [<- hs'] at hlt ⊢
   subst hA
   clear hc hz htk hs'
   by_cases h0 : 0 <= z
   ·by_cases h1 : z < 64
    ·rw [if_pos ⟨h0, h1⟩] at hs
     have hp := two_lt (c := z.toNat) (by omega)
     have e1 : IntKind.u64.wrap (2 ^ z.toNat) = ((2 ^ z.toNat : Nat) : Int) := by
      rw [IntKind.wrap_u64]
      have : ((2 : Int) ^ z.toNat) = ((2 ^ z.toNat : Nat) : Int) := by simp
      rw [this]
      exact Int.emod_eq_of_lt (Int.natCast_nonneg _) (Int.ofNat_lt.2 hp)
     have e2 := u64_or_nat s (2 ^ z.toNat) hlt hp
     rw [<- hs] at e2
     clear hs
     go_wp2
     go_round
     case rel =>
      have E2 := hi_ e2
      clear e1 e2 hp
      exact ⟨j + 1, hjn, by go_num, by rw [<- hs2, <- E2.out, Int.natCast_pow]; rfl⟩
     case measure => simp [intOf]; omega
    ·rw [if_neg (by omega)] at hs
     rw [hs] at hs2
     go_wp2
     go_round
     case rel => exact ⟨j + 1, hjn, by go_num, by rw [<- hs2]⟩
     case measure => simp [intOf]; omega
   ·rw [if_neg (by omega)] at hs
    rw [hs] at hs2
    go_wp2
    go_round
    case rel => exact ⟨j + 1, hjn, by go_num, by rw [<- hs2]⟩
    case measure => simp [intOf]; omega
  ·obtain rfl : j = n := by omega
   go_wp2
   go_ret
   rw [List.take_of_length_le (by rw [H.out.1]; exact Nat.le_refl _)]
   exact ⟨rfl, rfl⟩
theorem With_any (s : Nat) (c : Int) (w : World) (hs : s < 18446744073709551616) :
  Calls Tryz.prog 139 #[.int .u64 s, .int .i64 c] w fun e w' => e = .returned (.int .u64 (s ||| orL [c] : Nat)) /\ Below w.heap.size w w' := by
 obtain ⟨w1, hw1⟩ : ∃ w1, w1 = w.alloc (.cells #[.int .i64 c] 3) := ⟨_, rfl⟩
 have hB : Below w.heap.size w w1 := by rw [hw1]; exact (Below.refl _ _).alloc (Nat.le_refl _) _
 have C := hi_ (Of_any (some ⟨w.heap.size, 0, none⟩) 1 1 [c] w1 (by rw [hw1]; exact one_ird w c) (by decide))
 have e2 := u64_or_nat s (orL [c]) hs (orL_lt _)
 have HB := hi_ hB
 obtain ⟨o, ho⟩ : ∃ o, o = orL [c] := ⟨_, rfl⟩
 rw [<- ho] at C e2 ⊢
 clear hB ho
 go_enter Tryz.func139, Tryz.ntmps139
 go_wp2_with (rw [<- hw1]; clear hw1)
 refine C.out.mono ?_
 rintro e w' ⟨rfl, rfl⟩
 go_wp2
 go_ret
 exact ⟨rfl, HB.out⟩
end Go.Proofs.YthiknmhkdeicjaaGreatDoor
namespace Go.Proofs.YthiknmhkdeicjaaGreatDoor
open Go.RowKit
theorem Without_any (s : Nat) (c : Int) (w : World) (hs : s < 18446744073709551616) :
  Calls Tryz.prog 142 #[.int .u64 s, .int .i64 c] w fun e w' => e = .returned (.int .u64 (butN s (orL [c]) : Nat)) /\ Below w.heap.size w w' := by
 obtain ⟨w1, hw1⟩ : ∃ w1, w1 = w.alloc (.cells #[.int .i64 c] 3) := ⟨_, rfl⟩
 have hB : Below w.heap.size w w1 := by rw [hw1]; exact (Below.refl _ _).alloc (Nat.le_refl _) _
 have C := hi_ (Of_any (some ⟨w.heap.size, 0, none⟩) 1 1 [c] w1 (by rw [hw1]; exact one_ird w c) (by decide))
 have e2 := u64_andNot_nat s (orL [c]) hs (orL_lt _)
 have HB := hi_ hB
 unfold butN
 obtain ⟨o, ho⟩ : ∃ o, o = orL [c] := ⟨_, rfl⟩
 rw [<- ho] at C e2 ⊢
 clear hB ho
 go_enter Tryz.func142, Tryz.ntmps142
 go_wp2_with (rw [<- hw1]; clear hw1)
 refine C.out.mono ?_
 rintro e w' ⟨rfl, rfl⟩
 go_wp2
 go_ret
 exact ⟨rfl, HB.out⟩
end Go.Proofs.YthiknmhkdeicjaaGreatDoor
namespace Go.Proofs.YthiknmhkdeicjaaGreatDoor
set_option maxRecDepth 20000
open Go.RowKit
def edJoin (ed : Int × Int -> Option Nat) (i j : Nat) (c : Int) (x : Int × Int) : Option Nat := if x = ((j : Int), c) then some i else if x = ((i : Int), c) then some j else ed x
theorem atV_join (ed : Int × Int -> Option Nat) (i j : Nat) (c : Int) (x : Int × Int) :
  (if x = ((j : Int), c) then some (Value.int .i64 (i : Int)) else if x = ((i : Int), c) then some (.int .i64 (j : Int)) else atV (ed x)) = atV (edJoin ed i j c x) := by
 unfold edJoin
 by_cases h1 : x = ((j : Int), c)
 ·rw [if_pos h1, if_pos h1]; rfl
 ·rw [if_neg h1, if_neg h1]
  by_cases h2 : x = ((i : Int), c)
  ·rw [if_pos h2, if_pos h2]; rfl
  ·rw [if_neg h2, if_neg h2]
section
variable {w w' : World} {own own' : Nat -> Prop} {p m1 m2 b : Nat} {sv : Value} {S : List Nat} {ed : Int × Int -> Option Nat}
theorem GAt.wfI {i : Nat} (h : i <= 1000000) : (Lit.int .i64 (i : Int)).wf = true := WalkArith.wf_i64 (by omega)
theorem join_any (h : GAt w own p sv m1 m2 S ed b) (i j s t : Nat) (c : Int) (hi : S[i]? = some s) (hj : S[j]? = some t) (hbs : Beside s t c) (hS : S.length <= 1000000) (hb : b <= 1000000) :
  Calls Tryz.prog 170 #[.pointer (some ⟨p, 0, none⟩), .int .i64 i, .int .i64 j, .int .i64 c] w fun e w' => e = .returned (.tuple #[]) /\ Fr own w w' /\ GAt w' own p sv m1 m2 S (edJoin ed i j c) (b + 2) := by
 have hil := (List.getElem?_eq_some_iff.1 hi).1
 have hjl := (List.getElem?_eq_some_iff.1 hj).1
 have wi := GAt.wfI (i := i) (by omega)
 have wj := GAt.wfI (i := j) (by omega)
 have wc : (Lit.int .i64 c).wf = true := WalkArith.wf_i64 (by have := hbs.2.1; have := hbs.2.2.1; omega)
 have c2 := h.c2
 obtain ⟨es2, cl2, hm2⟩ := h.edges.map_at
 have q2 : m2 ≠ p := rec_notM h.blk hm2
 have HA := hi_ h
 have ME := hi_ h.edges
 clear h
 go_enter Tryz.func170, Tryz.ntmps170
 go_wp2_with (first
  | (at_mapUpdate; refine wpList_putF kfE Tryz.underlying188 (by rfl) (.tmp 11) (.tmp 14) (.tmp 15) rfl ME.out (by omega) ((i : Int), c) ⟨wi, wc⟩ (.int .i64 j) rfl rfl rfl ?_; intro w2 hM2 hg2; have f2 : Fr (· = m2) w w2 := (Fr.grown hg2 (fun x hx => by injection hx with hx; exact hx.symm)); have k2 : w2.cell? ⟨p, 2, none⟩ = some (.map (some m2)) := (HA.out.blk.fr f2 (fun e => q2 e.symm)).at_ 2; have M2 := hi_ hM2; have F2 := hi_ f2; clear hM2 hg2 f2)
  | (at_mapUpdate; refine wpList_putF kfE Tryz.underlying188 (by rfl) (.tmp 19) (.tmp 22) (.tmp 23) rfl M2.out (by omega) ((j : Int), c) ⟨wj, wc⟩ (.int .i64 i) rfl rfl rfl ?_; intro w3 hM3 hg3; have f3 : Fr (· = m2) w2 w3 := (Fr.grown hg3 (fun x hx => by injection hx with hx; exact hx.symm)); have M3 := hi_ hM3; have F3 := hi_ (F2.out.trans f3); clear hM3 hg3 f3))
 go_end0
 have h := HA.out
 have n2 : sv.ownBlock ≠ some m2 := own_notM h.row hm2
 refine ⟨rfl, F3.out.mono (fun x hx => by rw [show x = m2 from hx]; exact h.own2), ?_⟩
 exact {
  blk := h.blk.fr F3.out (fun e => q2 e.symm)
  row := own_fr h.row F3.out (fun x hx e => n2 (by rw [hx, show x = m2 from e]))
  nodes := h.nodes.fr F3.out (fun e => h.two e)
  edges := M3.out.congr (fun x _ => atV_join ed i j c x)
  two := h.two
  ownp := h.ownp
  own1 := h.own1
  own2 := h.own2
  ownv := h.ownv
  ok := h.ok
  edok := fun n c' m hm => by
   unfold edJoin at hm
   by_cases h1 : (n, c') = ((j : Int), c)
   ·rw [if_pos h1] at hm
    injection h1 with h1 h2
    injection hm with hm
    subst hm
    rw [h2]
    exact ⟨j, t, s, h1, hj, hi, hbs.symm⟩
   ·rw [if_neg h1] at hm
    by_cases h2 : (n, c') = ((i : Int), c)
    ·rw [if_pos h2] at hm
     injection h2 with h2 h3
     injection hm with hm
     subst hm
     rw [h3]
     exact ⟨i, s, t, h2, hi, hj, hbs⟩
    ·rw [if_neg h2] at hm
     exact h.edok n c' m hm }
def GG (w : World) (own : Nat -> Prop) (p m1 m2 : Nat) (S : List Nat) (b : Nat) (w' : World) : Prop := ∃ ed, GGo w own p m1 m2 S ed b w'
theorem step_no (h : GAt w own p sv m1 m2 S ed b) (F : Value) (n c : Int) (hn : ¬ (0 <= n /\ n < S.length)) :
  Calls Tryz.prog 138 #[.pointer (some ⟨p, 0, none⟩), .int .i64 n, .int .i64 c, F] w fun e w' => e = .returned (.int .i64 (-1)) /\ w = w' := by
 have CS := hi_ (Sig_no h n hn)
 clear h hn
 go_enter Tryz.func138, Tryz.ntmps138
 go_wp2_with (go_at_call 130; refine CS.out.mono ?_; rintro e w' ⟨rfl, rfl⟩)
 go_ret
 exact ⟨rfl, rfl⟩
end
end Go.Proofs.YthiknmhkdeicjaaGreatDoor
