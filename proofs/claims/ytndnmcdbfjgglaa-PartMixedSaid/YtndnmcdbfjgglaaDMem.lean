/- What is kept while blocks of one's own are written; a map of integers to any values. Nothing here speaks of one program. -/
import Derived.Test.YtndnmcdbfjgglaaOwn
import Derived.Maps.RangeWalk
namespace Go.Proofs.Ytndnmcdbfjgglaa
open Go.RowKit Go.Maps

/-- Of what there was nothing but blocks of own has turned. -/
structure Fr (own : Nat → Prop) (w w' : World) : Prop where
  os : w'.os = w.os
  tape : w'.tape = w.tape
  output : w'.output = w.output
  size : w.heap.size ≤ w'.heap.size
  block : ∀ b, b < w.heap.size → ¬ own b → w'.heap[b]? = w.heap[b]?

section
variable {own own' : Nat → Prop} {a b w w' : World}
theorem Fr.refl (own : Nat → Prop) (w : World) : Fr own w w := ⟨rfl, rfl, rfl, Nat.le_refl _, fun _ _ _ => rfl⟩
theorem Fr.trans' (h : Fr own a w) (k : Fr own' w w') (ho : ∀ x, own' x → own x ∨ a.heap.size ≤ x) : Fr own a w' :=
  ⟨k.os.trans h.os, k.tape.trans h.tape, k.output.trans h.output, Nat.le_trans h.size k.size, fun i hi hn =>
    (k.block i (Nat.lt_of_lt_of_le hi h.size) (fun hx => by
      rcases ho i hx with h1 | h1
      · exact hn h1
      · omega)).trans (h.block i hi hn)⟩
theorem Fr.trans (h : Fr own a w) (k : Fr own w w') : Fr own a w' := h.trans' k (fun _ hx => .inl hx)
theorem Fr.mono (h : Fr own w w') (ho : ∀ x, own x → own' x) : Fr own' w w' := ⟨h.os, h.tape, h.output, h.size, fun i hi hn => h.block i hi (fun hx => hn (ho i hx))⟩
theorem Fr.ofBelow (own : Nat → Prop) (h : Below w.heap.size w w') : Fr own w w' := ⟨h.os, h.tape, h.output, h.size, fun i hi _ => h.block i hi⟩
theorem Fr.toBelow {B : Nat} (h : Fr own w w') (ho : ∀ x, own x → B ≤ x) (hB : B ≤ w.heap.size) : Below B w w' :=
  ⟨h.os, h.tape, h.output, h.size, fun i hi => h.block i (by omega) (fun hx => by have := ho i hx; omega)⟩
theorem Fr.grown {row : Option Nat} (hg : w.grownBy w' row) (ho : ∀ x, row = some x → own x) : Fr own w w' :=
  ⟨hg.os, hg.tape, hg.output, hg.size, fun i hi hn => hg.block i hi (fun e => hn (ho i e.symm))⟩
theorem Fr.setCell (w : World) {p : Addr} (hp : own p.block) (u : Value) : Fr own w (w.setCell p u) :=
  ⟨rfl, rfl, rfl, by simp [World.setCell], fun i _ hn => Below.heap_setCell w p u i (fun e => hn (e ▸ hp))⟩
theorem Fr.alloc (own : Nat → Prop) (w : World) (o : Obj) : Fr own w (w.alloc o) := Fr.ofBelow own ((Below.refl _ _).alloc (Nat.le_refl _) o)
theorem Fr.drew (own : Nat → Prop) (w : World) : Fr own w w.drew := ⟨rfl, rfl, rfl, Nat.le_refl _, fun _ _ _ => rfl⟩
theorem Fr.below {B : Nat} (h : Fr own w w') (hB : ∀ x, own x → B ≤ x) (hw : B ≤ w.heap.size) : Below B w w' := h.toBelow hB hw

theorem Rd.fr {A : Option Addr} {n : Nat} {l : List UInt8} (h : Rd w A n l) (hf : Fr own w w') (hn : ∀ b o, A = some ⟨b, o, none⟩ → 0 < n → ¬ own b) : Rd w' A n l :=
  ⟨h.1, fun hp => by
    obtain ⟨b, o, e, hlt, hc⟩ := h.2 hp
    exact ⟨b, o, e, Nat.lt_of_lt_of_le hlt hf.size, fun j hj => (World.cell?_of_block (w := w) (a := ⟨b, o + j, none⟩) (hf.block b hlt (hn b o e hp))).trans (hc j hj)⟩⟩
theorem own_fr {B : Nat} {e : TypeId} {size n : Nat} {v : Value} {xs : List Value} (h : w.ownsRow B e size v n xs) (hf : Fr own w w') (hn : ∀ x, v.ownBlock = some x → ¬ own x) : w'.ownsRow B e size v n xs :=
  ⟨h.1, h.2.elim .inl fun ⟨g, cap, cur, e1, e2, hh, r⟩ => .inr ⟨g, cap, cur, e1, e2, (hf.block g (Array.getElem?_eq_some_iff.1 hh).1 (hn g (by rw [e1]; rfl))).trans hh, r⟩⟩
end

/-! ### maps -/
abbrev nilv : Value := .slice none 0 0
/-- A value in a map reads as itself. -/
def itself (v : Value) : Option (DataW Value × List MemPlace) := some (.held v, [])

/-- Block m is a map of integers, of at most n entries: at i it has f i (nil where it has none); its keys are those of ks. -/
def MapIs (P : Program) (k : TypeId) (w : World) (m n : Nat) (f : Nat → Value) (ks : Nat → Bool) : Prop :=
  ∃ D : DataW Value, w.ownsMap P k itself m n D ∧ (∀ i : Nat, D.atKey (.int .i64 i) (.held nilv) = .held (f i)) ∧ (∀ i : Nat, Maps.has D (.int .i64 i) = ks i) ∧
    (∀ kl, Maps.has D kl = true → ∃ i : Nat, kl = .int .i64 i)

section
variable {P : Program} {k e T : TypeId} {w w' : World} {m n : Nat} {f : Nat → Value} {ks : Nat → Bool}

theorem MapIs.made (P : Program) (k : TypeId) (w : World) : MapIs P k (w.alloc (.map #[] 0)) w.heap.size 0 (fun _ => nilv) (fun _ => false) :=
  ⟨.map [], World.ownsMap_made w P k itself, fun _ => rfl, fun _ => rfl, fun kl h => by cases h⟩
theorem MapIs.lt (h : MapIs P k w m n f ks) : m < w.heap.size := by obtain ⟨D, ho, _⟩ := h; exact ho.lt
theorem MapIs.block (h : MapIs P k w m n f ks) (hb : w'.heap[m]? = w.heap[m]?) : MapIs P k w' m n f ks := by
  obtain ⟨D, ⟨es, clock, hm, r⟩, h2⟩ := h
  exact ⟨D, ⟨es, clock, hb.trans hm, r⟩, h2⟩
theorem MapIs.fr {own : Nat → Prop} (h : MapIs P k w m n f ks) (hf : Fr own w w') (hn : ¬ own m) : MapIs P k w' m n f ks := h.block (hf.block m h.lt hn)
theorem MapIs.mono {n' : Nat} (h : MapIs P k w m n f ks) (hn : n ≤ n') : MapIs P k w m n' f ks := by
  obtain ⟨D, ho, h2⟩ := h
  exact ⟨D, ho.mono hn, h2⟩
theorem MapIs.congr {f' : Nat → Value} {ks' : Nat → Bool} (h : MapIs P k w m n f ks) (hf : ∀ i, f i = f' i) (hk : ∀ i, ks i = ks' i) : MapIs P k w m n f' ks' := by
  obtain rfl : f = f' := funext hf
  obtain rfl : ks = ks' := funext hk
  exact h

theorem key_mk (hk : P.underlying k = some (.int .i64)) (i : Nat) (hi : i < 9223372036854775808) : keyOf P k (.int .i64 (i : Int)) = some (.int .i64 i) :=
  keyOf_int_mk hk (WalkArith.wf_i64 (by omega))
theorem nat_lit_ne {i j : Nat} (h : i ≠ j) : (Lit.int .i64 (i : Int)) ≠ .int .i64 (j : Int) := fun e => h (by injection e with _ e; omega)

theorem MapIs.look (h : MapIs P k w m n f ks) (hk : P.underlying k = some (.int .i64)) (hT : P.underlying T = some (.map k e)) (hz : (zeroValue e).run P w = .ok nilv w) (i : Nat) (hi : i < 9223372036854775808) :
    (Instr.lookup T (.map (some m)) (.int .i64 (i : Int)) false).run P w = .ok (f i) w := by
  obtain ⟨D, ho, hat, _, _⟩ := h
  obtain ⟨v, ps, hrun, hv⟩ := ho.lookup (int_keyed hk) hT hz (zd := .held nilv) (zp := []) rfl (key_mk hk i hi)
  rw [hat i] at hv
  simp only [itself, Option.some.injEq, Prod.mk.injEq, DataW.held.injEq] at hv
  rw [hrun, hv.1]

theorem MapIs.put (h : MapIs P k w m n f ks) (hk : P.underlying k = some (.int .i64)) (hT : P.underlying T = some (.map k e)) (hn : n < maxLen) (i : Nat) (hi : i < 9223372036854775808) (v : Value) :
    ∃ w', (Instr.mapUpdate T (.map (some m)) (.int .i64 (i : Int)) v).run P w = .ok () w' ∧ MapIs P k w' m (n + 1) (fun j => if j = i then v else f j) (fun j => decide (j = i) || ks j) ∧ w.grownBy w' (some m) := by
  obtain ⟨D, ho, hat, hh, hin⟩ := h
  obtain ⟨w', hrun, ho', hg⟩ := ho.update (int_keyed hk) hT hn (val := v) (d := .held v) (ps := []) (key_mk hk i hi) rfl
  have hkl := (int_keyed hk).key (key_mk hk i hi)
  refine ⟨w', hrun, ⟨_, ho', fun j => ?_, fun j => ?_, fun kl hkl' => ?_⟩, hg⟩
  · by_cases hj : j = i
    · subst hj
      simp only [if_true]
      exact Maps.atKey_put_same ho.isMap hkl _ _
    · simp only [if_neg hj]
      rw [Maps.atKey_put_other (nat_lit_ne hj), hat j]
  · by_cases hj : j = i
    · subst hj
      simp only [decide_true, Bool.true_or]
      exact Maps.has_put_same ho.isMap hkl _
    · simp only [decide_eq_false hj, Bool.false_or]
      rw [Maps.has_put_other (nat_lit_ne hj), hh j]
  · by_cases hj : kl = .int .i64 i
    · exact ⟨i, hj⟩
    · rw [Maps.has_put_other hj] at hkl'
      exact hin kl hkl'

theorem MapIs.wipe (h : MapIs P k w m n f ks) (hT : P.underlying T = some (.map k e)) (ty : TypeId) :
    ∃ w', (Builtin.clear_ #[T] ty #[.map (some m)]).run P w = .ok (.tuple #[]) w' ∧ MapIs P k w' m 0 (fun _ => nilv) (fun _ => false) ∧ w.grownBy w' (some m) := by
  obtain ⟨D, ⟨es, clock, hm, F, hs, _⟩, _⟩ := h
  refine ⟨_, ?_, ⟨.map [], ⟨#[], clock, ChangeMaps.heap_setBlock_same hm _, ⟨by simp, MapKept.stamped_empty clock, by simp⟩, Nat.le_refl _, rfl⟩, fun _ => rfl, fun _ => rfl, fun kl h => by cases h⟩, ?_⟩
  · simp [Builtin.clear_, run_underlying hT, MapKept.run_getObj_map hm, MapKept.run_setObj_map _ hm, Result.andThen]
    rfl
  · exact ⟨rfl, rfl, rfl, by simp [ChangeMaps.setBlock], fun i _ hi => ChangeMaps.heap_setBlock_other hm _ (fun e => hi (by rw [e]))⟩
end

/-! ### steps of a region that draws its order -/
section
variable {P : Program} {ops : Array Oper} {o : Oper} {a : Act} {w : World} {K : Act → World → Prop} {Q : Exit → Act → World → Prop} {E : Prop}

/-- 'append(v, x...)': v a row of one's own, of elements of one cell or more. -/
theorem step_appV {T e : TypeId} {z : Value} {size bytes : Nat} (el : El P T e z size bytes) (hgd : o.guard = none) (s x : Operand)
    (ho : o.op = .call { callee := .builtin .append, args := #[s, x], argTypes := #[T, T] })
    (B : Nat) (v : Value) (n : Nat) (xs : List Value) (hs : a.eval s = v) (hown : w.ownsRow B e size v n xs)
    (ad : Addr) (m c : Nat) (news : List Value) (hx : a.eval x = .slice (some ad) m c) (hl : news.length = m * size) (hnews : ∀ j u, news[j]? = some u → w.cell? (ad.add j) = some u) (h1 : ∀ u ∈ news, u.oneCell' = true)
    (hb : n + m ≤ 1000000000) (hby : bytes ≤ 100) (hB : B ≤ w.heap.size)
    (h : ∀ v' w', w'.ownsRow B e size v' (n + m) (xs ++ news) → w.grownBy w' v.ownBlock → (v'.ownBlock = v.ownBlock ∨ v'.ownBlock = some w.heap.size) → K (a.put o.dst v') w') :
    if Region.wanted o (yielded ops a.tmps) = true then Oper.wp P o a w K Q else E := by
  have hw : Region.wanted o (yielded ops a.tmps) = true := by simp [Region.wanted, hgd]
  rw [if_pos hw]
  obtain ⟨i, hi, hz, h2, h3⟩ := info_parts el.info
  have hbb : (n + m) * bytes ≤ 1000000000 * 100 := Nat.mul_le_mul hb hby
  obtain ⟨v', w', hrun, r1, r2, _, r3⟩ := run_append_own_at (P := P) w B T o.type e i z size bytes el.und hi hz h2 h3 el.zs el.pos v n xs hown ad m c news hl hnews h1 (by unfold maxLen; omega) (by omega) hB
  unfold Oper.wp execOp
  simp only [ho, resolve, invoke, builtin, Sem.run_bind, Sem.run_pure, Result.andThen_ok, List.map_toArray, List.map_cons, List.map_nil, hs, hx, hrun]
  exact h v' w' r1 r2 r3

/-- 'm[i] = v'. -/
theorem step_mapput {k e T : TypeId} (hk : P.underlying k = some (.int .i64)) (hT : P.underlying T = some (.map k e)) (hgd : o.guard = none) (mo x y : Operand) (ho : o.op = Op.mapUpdate T mo x y)
    (b n : Nat) (f : Nat → Value) (ks : Nat → Bool) (hmap : MapIs P k w b n f ks) (hn : n < 1000000000) (i : Nat) (hi : i < 1000000000) (v : Value) (hm : a.eval mo = .map (some b)) (hx : a.eval x = .int .i64 (i : Int)) (hv : a.eval y = v)
    (h : ∀ w', MapIs P k w' b (n + 1) (fun j => if j = i then v else f j) (fun j => decide (j = i) || ks j) → w.grownBy w' (some b) → K (a.put o.dst undef) w') :
    if Region.wanted o (yielded ops a.tmps) = true then Oper.wp P o a w K Q else E := by
  have hw : Region.wanted o (yielded ops a.tmps) = true := by simp [Region.wanted, hgd]
  rw [if_pos hw]
  obtain ⟨w', hrun, r1, r2⟩ := hmap.put hk hT (by unfold maxLen; omega) i (by omega) v
  unfold Oper.wp
  simp [execOp, ho, hm, hx, hv, hrun, Result.andThen]
  exact h w' r1 r2
end
end Go.Proofs.Ytndnmcdbfjgglaa
