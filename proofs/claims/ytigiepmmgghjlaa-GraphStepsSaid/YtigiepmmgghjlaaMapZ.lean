/- A map of integers to values, told entry by entry. Nothing here speaks of one program. -/
import Derived.Test.YtigiepmmgghjlaaDMem
namespace Go.Proofs.Ytigiepmmgghjlaa
open Go.RowKit Go.Maps

/-- Block m is a map of integers: at i it has f i; n entries. -/
def MapZ (P : Program) (k : TypeId) (z : Value) (w : World) (m n : Nat) (f : Int → Option Value) : Prop :=
  ∃ D : DataW Value, w.ownsMap P k itself m n D ∧ Maps.size D = n ∧ (∀ i : Int, D.atKey (.int .i64 i) (.held z) = .held ((f i).getD z)) ∧ (∀ i : Int, Maps.has D (.int .i64 i) = (f i).isSome)

section
variable {P : Program} {k e T : TypeId} {z : Value} {w w' : World} {m n : Nat} {f : Int → Option Value}
theorem ownsMap_tight {R : Value → Option (DataW Value × List MemPlace)} {D : DataW Value} (h : w.ownsMap P k R m n D) : w.ownsMap P k R m (Maps.size D) D := by
  obtain ⟨es, clock, hb, F, hs, rfl⟩ := h
  have e1 : Maps.size (DataW.map ((es.toList.map (WideElems.rg P k R)).foldr DataW.insert [])) = es.size := by simp [Maps.size, length_sorted]
  exact ⟨es, clock, hb, F, by rw [e1]; exact Nat.le_refl _, rfl⟩
theorem MapZ.made (P : Program) (k : TypeId) (z : Value) (w : World) : MapZ P k z (w.alloc (.map #[] 0)) w.heap.size 0 (fun _ => none) :=
  ⟨.map [], World.ownsMap_made w P k itself, rfl, fun _ => rfl, fun _ => rfl⟩
theorem MapZ.lt (h : MapZ P k z w m n f) : m < w.heap.size := by obtain ⟨D, ho, _⟩ := h; exact ho.lt
theorem MapZ.block (h : MapZ P k z w m n f) (hb : w'.heap[m]? = w.heap[m]?) : MapZ P k z w' m n f := by
  obtain ⟨D, ⟨es, clock, hm, r⟩, h2⟩ := h
  exact ⟨D, ⟨es, clock, hb.trans hm, r⟩, h2⟩
theorem MapZ.fr {own : Nat → Prop} (h : MapZ P k z w m n f) (hf : Fr own w w') (hn : ¬ own m) : MapZ P k z w' m n f := h.block (hf.block m h.lt hn)
theorem MapZ.below (h : MapZ P k z w m n f) (hb : Below w.heap.size w w') : MapZ P k z w' m n f := h.block (hb.block m h.lt)
theorem MapZ.congr {f' : Int → Option Value} (h : MapZ P k z w m n f) (hf : ∀ i, f i = f' i) : MapZ P k z w m n f' := by
  obtain rfl : f = f' := funext hf
  exact h
theorem key_int (hk : P.underlying k = some (.int .i64)) {i : Int} (hi : -9223372036854775808 ≤ i ∧ i < 9223372036854775808) : keyOf P k (.int .i64 i) = some (.int .i64 i) :=
  keyOf_int_mk hk (WalkArith.wf_i64 (by omega))
theorem int_lit_ne {i j : Int} (h : i ≠ j) : (Lit.int .i64 i) ≠ .int .i64 j := fun e => h (by injection e with _ e)
theorem MapZ.look (h : MapZ P k z w m n f) (hk : P.underlying k = some (.int .i64)) (hT : P.underlying T = some (.map k e)) (hz : (zeroValue e).run P w = .ok z w) {i : Int} (hi : -9223372036854775808 ≤ i ∧ i < 9223372036854775808) :
    (Instr.lookup T (.map (some m)) (.int .i64 i) false).run P w = .ok ((f i).getD z) w := by
  obtain ⟨D, ho, _, hat, _⟩ := h
  obtain ⟨v, ps, hrun, hv⟩ := ho.lookup (int_keyed hk) hT hz (zd := .held z) (zp := []) rfl (key_int hk hi)
  rw [hat i] at hv
  simp only [itself, Option.some.injEq, Prod.mk.injEq, DataW.held.injEq] at hv
  rw [hrun, hv.1]
theorem MapZ.look_ok (h : MapZ P k z w m n f) (hk : P.underlying k = some (.int .i64)) (hT : P.underlying T = some (.map k e)) (hz : (zeroValue e).run P w = .ok z w) {i : Int} (hi : -9223372036854775808 ≤ i ∧ i < 9223372036854775808) :
    (Instr.lookup T (.map (some m)) (.int .i64 i) true).run P w = .ok (.tuple #[(f i).getD z, .bool (f i).isSome]) w := by
  obtain ⟨D, ho, _, hat, hh⟩ := h
  obtain ⟨v, ps, hrun, hv⟩ := ho.look_ok (int_keyed hk) hT hz (zd := .held z) (zp := []) rfl (key_int hk hi)
  rw [hat i] at hv
  simp only [itself, Option.some.injEq, Prod.mk.injEq, DataW.held.injEq] at hv
  rw [hrun, hv.1, hh i]
theorem MapZ.len (h : MapZ P k z w m n f) (hT : P.underlying T = some (.map k e)) (ty : TypeId) : (Builtin.len_ #[T] ty #[.map (some m)]).run P w = .ok (.int .i64 n) w := by
  obtain ⟨D, ho, hs, _⟩ := h
  rw [ho.len hT ty, hs]
theorem MapZ.put (h : MapZ P k z w m n f) (hk : P.underlying k = some (.int .i64)) (hT : P.underlying T = some (.map k e)) (hn : n < maxLen) {i : Int} (hi : -9223372036854775808 ≤ i ∧ i < 9223372036854775808) (v : Value) :
    ∃ w', (Instr.mapUpdate T (.map (some m)) (.int .i64 i) v).run P w = .ok () w' ∧ MapZ P k z w' m (if (f i).isSome = true then n else n + 1) (fun j => if j = i then some v else f j) ∧ w.grownBy w' (some m) := by
  obtain ⟨D, ho, hs, hat, hh⟩ := h
  obtain ⟨w', hrun, ho', hg⟩ := ho.update (int_keyed hk) hT hn (val := v) (d := .held v) (ps := []) (key_int hk hi) rfl
  have hkl := (int_keyed hk).key (key_int hk hi)
  have hsz := Maps.size_put (k := .int .i64 i) (ho.tidy (int_keyed hk)) (.held v)
  rw [hh i, hs] at hsz
  refine ⟨w', hrun, ⟨_, by rw [← hsz]; exact ownsMap_tight ho', hsz, fun j => ?_, fun j => ?_⟩, hg⟩
  · by_cases hj : j = i
    · subst hj
      simp only [if_true]
      exact Maps.atKey_put_same ho.isMap hkl _ _
    · simp only [if_neg hj]
      rw [Maps.atKey_put_other (int_lit_ne hj), hat j]
  · by_cases hj : j = i
    · subst hj
      simp only [if_true]
      exact Maps.has_put_same ho.isMap hkl _
    · simp only [if_neg hj]
      rw [Maps.has_put_other (int_lit_ne hj), hh j]
end

section
variable {P : Program} {ops : Array Oper} {o : Oper} {a : Act} {w : World} {K : Act → World → Prop} {Q : Exit → Act → World → Prop} {E : Prop} {z : Value} {m n : Nat} {f : Int → Option Value}
/-- 'm[i] = v', in a walk. -/
theorem wpList_putZ {k e T : TypeId} {rest : List Oper} (hk : P.underlying k = some (.int .i64)) (hT : P.underlying T = some (.map k e)) (hgd : Region.wanted o (yielded ops a.tmps) = true) (mo x y : Operand) (ho : o.op = Op.mapUpdate T mo x y)
    (h : MapZ P k z w m n f) (hn : n < 1000000000) {i : Int} (hi : -9223372036854775808 ≤ i ∧ i < 9223372036854775808) (v : Value) (hm : a.eval mo = .map (some m)) (hx : a.eval x = .int .i64 i) (hv : a.eval y = v)
    (hK : ∀ w', MapZ P k z w' m (if (f i).isSome = true then n else n + 1) (fun j => if j = i then some v else f j) → w.grownBy w' (some m) → wpList P ops Q rest (a.put o.dst undef) w') : wpList P ops Q (o :: rest) a w :=
  wpList_w hgd fun _ hK' => by
    obtain ⟨w', hrun, r1, r2⟩ := h.put hk hT (by unfold maxLen; omega) hi v
    unfold Oper.wp
    simp [execOp, ho, hm, hx, hv, hrun, Result.andThen]
    exact hK' _ _ (hK w' r1 r2)
/-- The same as a step of a region that draws its order. -/
theorem step_putZ {k e T : TypeId} (hk : P.underlying k = some (.int .i64)) (hT : P.underlying T = some (.map k e)) (hgd : Region.wanted o (yielded ops a.tmps) = true) (mo x y : Operand) (ho : o.op = Op.mapUpdate T mo x y)
    (h : MapZ P k z w m n f) (hn : n < 1000000000) {i : Int} (hi : -9223372036854775808 ≤ i ∧ i < 9223372036854775808) (v : Value) (hm : a.eval mo = .map (some m)) (hx : a.eval x = .int .i64 i) (hv : a.eval y = v)
    (hK : ∀ w', MapZ P k z w' m (if (f i).isSome = true then n else n + 1) (fun j => if j = i then some v else f j) → w.grownBy w' (some m) → K (a.put o.dst undef) w') :
    if Region.wanted o (yielded ops a.tmps) = true then Oper.wp P o a w K Q else E := by
  rw [if_pos hgd]
  obtain ⟨w', hrun, r1, r2⟩ := h.put hk hT (by unfold maxLen; omega) hi v
  unfold Oper.wp
  simp [execOp, ho, hm, hx, hv, hrun, Result.andThen]
  exact hK w' r1 r2
end
end Go.Proofs.Ytigiepmmgghjlaa
