/- A map whose keys are a family of values of one type (numbers of any kind, structs of such), told key by key. Nothing here speaks of one program. -/
import Derived.Test.YtigiepmmgghjlaaMapZ
import Derived.DeepKeys4
import Derived.Maps.OwnSet
namespace Go.Proofs.Ytigiepmmgghjlaa
open Go.RowKit Go.Maps

/-- The keys of a map of key type k: each i that is allowed has a value and reads as one literal, apart from all others. -/
structure Kf (P : Program) (k : TypeId) {ι : Type} (val : ι → Value) (lit : ι → Lit) (ok : ι → Prop) : Prop where
  law : Keyed P k
  key : ∀ {i}, ok i → keyOf P k (val i) = some (lit i)
  inj : ∀ {i j}, ok i → ok j → lit i = lit j → i = j

/-- Block m is such a map: at i it has f i; of at most n entries. -/
def MapF (P : Program) (k : TypeId) {ι : Type} (lit : ι → Lit) (ok : ι → Prop) (z : Value) (w : World) (m n : Nat) (f : ι → Option Value) : Prop :=
  ∃ D : DataW Value, w.ownsMap P k itself m n D ∧ (∀ i, ok i → D.atKey (lit i) (.held z) = .held ((f i).getD z)) ∧ (∀ i, ok i → Maps.has D (lit i) = (f i).isSome)

section
variable {P : Program} {k e T : TypeId} {ι : Type} {val : ι → Value} {lit : ι → Lit} {ok : ι → Prop} {z : Value} {w w' : World} {m n : Nat} {f : ι → Option Value}
theorem MapF.made (P : Program) (k : TypeId) (lit : ι → Lit) (ok : ι → Prop) (z : Value) (w : World) : MapF P k lit ok z (w.alloc (.map #[] 0)) w.heap.size 0 (fun _ => none) :=
  ⟨.map [], World.ownsMap_made w P k itself, fun _ _ => rfl, fun _ _ => rfl⟩
theorem MapF.lt (h : MapF P k lit ok z w m n f) : m < w.heap.size := by obtain ⟨D, ho, _⟩ := h; exact ho.lt
theorem MapF.block (h : MapF P k lit ok z w m n f) (hb : w'.heap[m]? = w.heap[m]?) : MapF P k lit ok z w' m n f := by
  obtain ⟨D, ⟨es, clock, hm, r⟩, h2⟩ := h
  exact ⟨D, ⟨es, clock, hb.trans hm, r⟩, h2⟩
theorem MapF.map_at (h : MapF P k lit ok z w m n f) : ∃ es clock, w.heap[m]? = some (.map es clock) := by
  obtain ⟨D, ⟨es, clock, hm, r⟩, h2⟩ := h
  exact ⟨es, clock, hm⟩
theorem MapF.fr {own : Nat → Prop} (h : MapF P k lit ok z w m n f) (hf : Fr own w w') (hn : ¬ own m) : MapF P k lit ok z w' m n f := h.block (hf.block m h.lt hn)
theorem MapF.below (h : MapF P k lit ok z w m n f) (hb : Below w.heap.size w w') : MapF P k lit ok z w' m n f := h.block (hb.block m h.lt)
theorem MapF.congr {f' : ι → Option Value} (h : MapF P k lit ok z w m n f) (hf : ∀ i, ok i → f i = f' i) : MapF P k lit ok z w m n f' := by
  obtain ⟨D, ho, h1, h2⟩ := h
  exact ⟨D, ho, fun i hi => by rw [h1 i hi, hf i hi], fun i hi => by rw [h2 i hi, hf i hi]⟩
theorem MapF.mono {n' : Nat} (h : MapF P k lit ok z w m n f) (hn : n ≤ n') : MapF P k lit ok z w m n' f := by
  obtain ⟨D, ho, h2⟩ := h
  exact ⟨D, ho.mono hn, h2⟩
theorem MapF.look_ok (K : Kf P k val lit ok) (h : MapF P k lit ok z w m n f) (hT : P.underlying T = some (.map k e)) (hz : (zeroValue e).run P w = .ok z w) {i : ι} (hi : ok i) :
    (Instr.lookup T (.map (some m)) (val i) true).run P w = .ok (.tuple #[(f i).getD z, .bool (f i).isSome]) w := by
  obtain ⟨D, ho, hat, hh⟩ := h
  obtain ⟨v, ps, hrun, hv⟩ := ho.look_ok K.law hT hz (zd := .held z) (zp := []) rfl (K.key hi)
  rw [hat i hi] at hv
  simp only [itself, Option.some.injEq, Prod.mk.injEq, DataW.held.injEq] at hv
  rw [hrun, hv.1, hh i hi]
theorem look_none (K : Kf P k val lit ok) (hT : P.underlying T = some (.map k e)) (hz : (zeroValue e).run P w = .ok z w) {i : ι} (hi : ok i) :
    (Instr.lookup T (.map none) (val i) true).run P w = .ok (.tuple #[z, .bool false]) w := Maps.look_nil true K.law hT hz (K.key hi)
theorem MapF.put [DecidableEq ι] (K : Kf P k val lit ok) (h : MapF P k lit ok z w m n f) (hT : P.underlying T = some (.map k e)) (hn : n < maxLen) {i : ι} (hi : ok i) (v : Value) :
    ∃ w', (Instr.mapUpdate T (.map (some m)) (val i) v).run P w = .ok () w' ∧ MapF P k lit ok z w' m (n + 1) (fun j => if j = i then some v else f j) ∧ w.grownBy w' (some m) := by
  obtain ⟨D, ho, hat, hh⟩ := h
  obtain ⟨w', hrun, ho', hg⟩ := ho.update K.law hT hn (val := v) (d := .held v) (ps := []) (K.key hi) rfl
  have hkl := K.law.key (K.key hi)
  refine ⟨w', hrun, ⟨_, ho', fun j hj => ?_, fun j hj => ?_⟩, hg⟩
  · by_cases e : j = i
    · subst e
      simp only [if_true]
      exact Maps.atKey_put_same ho.isMap hkl _ _
    · simp only [if_neg e]
      rw [Maps.atKey_put_other (fun h => e (K.inj hj hi h)), hat j hj]
  · by_cases e : j = i
    · subst e
      simp only [if_true]
      exact Maps.has_put_same ho.isMap hkl _
    · simp only [if_neg e]
      rw [Maps.has_put_other (fun h => e (K.inj hj hi h)), hh j hj]
end

section
variable {P : Program} {ops : Array Oper} {o : Oper} {a : Act} {w : World} {K : Act → World → Prop} {Q : Exit → Act → World → Prop} {E : Prop} {z : Value} {m n : Nat}
variable {ι : Type} {val : ι → Value} {lit : ι → Lit} {ok : ι → Prop} {f : ι → Option Value}
/-- 'm[i] = v', in a walk. -/
theorem wpList_putF [DecidableEq ι] {k e T : TypeId} {rest : List Oper} (KF : Kf P k val lit ok) (hT : P.underlying T = some (.map k e)) (hgd : Region.wanted o (yielded ops a.tmps) = true) (mo x y : Operand) (ho : o.op = Op.mapUpdate T mo x y)
    (h : MapF P k lit ok z w m n f) (hn : n < 1000000000) (i : ι) (hi : ok i) (v : Value) (hm : a.eval mo = .map (some m)) (hx : a.eval x = val i) (hv : a.eval y = v)
    (hK : ∀ w', MapF P k lit ok z w' m (n + 1) (fun j => if j = i then some v else f j) → w.grownBy w' (some m) → wpList P ops Q rest (a.put o.dst undef) w') : wpList P ops Q (o :: rest) a w :=
  wpList_w hgd fun _ hK' => by
    obtain ⟨w', hrun, r1, r2⟩ := h.put KF hT (by unfold maxLen; omega) hi v
    unfold Oper.wp
    simp [execOp, ho, hm, hx, hv, hrun, Result.andThen]
    exact hK' _ _ (hK w' r1 r2)
end

/-- Numbers of 64 bits, no sign, as keys. -/
def litU (s : Nat) : Lit := .int .u64 s
def okU (s : Nat) : Prop := s < 18446744073709551616
theorem kfU {P : Program} {k : TypeId} (hk : P.underlying k = some (.int .u64)) : Kf P k (fun s : Nat => .int .u64 (s : Int)) litU okU where
  law := int_keyed hk
  key h := keyOf_int_mk hk (WalkArith.wf_u64 (by unfold okU at h; omega))
  inj _ _ e := by unfold litU at e; injection e with _ e; omega
end Go.Proofs.Ytigiepmmgghjlaa
