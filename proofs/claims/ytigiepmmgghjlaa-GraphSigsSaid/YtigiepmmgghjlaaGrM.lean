/- A graph of sets, plain: the sets in the order in which they came; what a step makes of them. -/
import Derived.Test.YtigiepmmgghjlaaBitsM
namespace Go.Proofs.Ytigiepmmgghjlaa

/-- The place of s in S. -/
def ixS : List Nat → Nat → Option Nat
  | [], _ => none
  | t :: S, s => if t = s then some 0 else (ixS S s).map (· + 1)
theorem ixS_lt : ∀ {S : List Nat} {s i : Nat}, ixS S s = some i → i < S.length ∧ S[i]? = some s
  | [], _, _, h => by cases h
  | t :: S, s, i, h => by
    unfold ixS at h
    by_cases e : t = s
    · rw [if_pos e] at h
      injection h with h
      subst h
      simp [e]
    · rw [if_neg e] at h
      cases hx : ixS S s with
      | none => rw [hx] at h; cases h
      | some j =>
        rw [hx] at h
        injection h with h
        subst h
        have := ixS_lt hx
        simpa using this
theorem ixS_none : ∀ {S : List Nat} {s : Nat}, ixS S s = none → s ∉ S
  | [], _, _ => List.not_mem_nil
  | t :: S, s, h => by
    unfold ixS at h
    by_cases e : t = s
    · rw [if_pos e] at h; cases h
    · rw [if_neg e] at h
      have := ixS_none (S := S) (s := s) (by cases hx : ixS S s with | none => rfl | some j => rw [hx] at h; cases h)
      simp [this, Ne.symm e]
theorem ixS_first : ∀ {S : List Nat} {s i : Nat}, ixS S s = some i → ∀ j, j < i → S[j]? ≠ some s
  | [], _, _, h => by cases h
  | t :: S, s, i, h => by
    unfold ixS at h
    by_cases e : t = s
    · rw [if_pos e] at h
      injection h with h
      subst h
      intro j hj
      omega
    · rw [if_neg e] at h
      cases hx : ixS S s with
      | none => rw [hx] at h; cases h
      | some k =>
        rw [hx] at h
        have h : k + 1 = i := by simpa using h
        subst h
        intro j hj
        cases j with
        | zero => simpa using e
        | succ j => simpa using ixS_first hx j (by omega)
theorem ixS_of_first {S : List Nat} {s i : Nat} (hi : S[i]? = some s) (hf : ∀ j, j < i → S[j]? ≠ some s) : ixS S s = some i := by
  cases h : ixS S s with
  | none => exact absurd (List.mem_of_getElem? hi) (ixS_none h)
  | some j =>
    have h1 := ixS_lt h
    have h2 := ixS_first h
    by_cases e : j = i
    · rw [e]
    · rcases Nat.lt_or_gt_of_ne e with h3 | h3
      · exact absurd h1.2 (hf j h3)
      · exact absurd hi (h2 i h3)
theorem ixS_of_at {S : List Nat} (nd : S.Nodup) {s i : Nat} (hi : S[i]? = some s) : ixS S s = some i := by
  refine ixS_of_first hi (fun j hj e => ?_)
  obtain ⟨h1, h2⟩ := List.getElem?_eq_some_iff.1 hi
  obtain ⟨h3, h4⟩ := List.getElem?_eq_some_iff.1 e
  exact List.pairwise_iff_getElem.1 nd j i h3 h1 hj (h4.trans h2.symm)
theorem ixS_of_not {S : List Nat} {s : Nat} (h : s ∉ S) : ixS S s = none := by
  cases hx : ixS S s with
  | none => rfl
  | some j => exact absurd (List.mem_of_getElem? (ixS_lt hx).2) h
theorem ixS_snoc {S : List Nat} {t : Nat} (h : ixS S t = none) (s : Nat) : ixS (S ++ [t]) s = if s = t then some S.length else ixS S s := by
  by_cases e : s = t
  · subst e
    rw [if_pos rfl]
    refine ixS_of_first (by simp) (fun j hj e => ?_)
    rw [List.getElem?_append_left hj] at e
    exact ixS_none h (List.mem_of_getElem? e)
  · rw [if_neg e]
    cases hx : ixS S s with
    | none =>
      refine ixS_of_not fun hm => ?_
      rcases List.mem_append.1 hm with hm | hm
      · exact ixS_none hx hm
      · exact e (List.mem_singleton.1 hm)
    | some j =>
      have h1 := ixS_lt hx
      refine ixS_of_first (by rw [List.getElem?_append_left h1.1]; exact h1.2) (fun i hi => ?_)
      rw [List.getElem?_append_left (by omega)]
      exact ixS_first hx i hi

/-- The node of s: the sets, and its place. -/
def gNode (S : List Nat) (s : Nat) : List Nat × Nat := match ixS S s with | some i => (S, i) | none => (S ++ [s], S.length)
theorem gNode_some {S : List Nat} {s i : Nat} (h : ixS S s = some i) : gNode S s = (S, i) := by unfold gNode; rw [h]
theorem gNode_none {S : List Nat} {s : Nat} (h : ixS S s = none) : gNode S s = (S ++ [s], S.length) := by unfold gNode; rw [h]
theorem gNode_at (S : List Nat) (s : Nat) : (gNode S s).1[(gNode S s).2]? = some s := by
  cases h : ixS S s with
  | some i => rw [gNode_some h]; exact (ixS_lt h).2
  | none => rw [gNode_none h]; simp
theorem gNode_len (S : List Nat) (s : Nat) : (gNode S s).1.length ≤ S.length + 1 ∧ S.length ≤ (gNode S s).1.length := by
  cases h : ixS S s with
  | some i => rw [gNode_some h]; exact ⟨Nat.le_succ _, Nat.le_refl _⟩
  | none => rw [gNode_none h]; simp
theorem gNode_keeps {S : List Nat} (s : Nat) {i t : Nat} (h : S[i]? = some t) : (gNode S s).1[i]? = some t := by
  cases hx : ixS S s with
  | some j => rw [gNode_some hx]; exact h
  | none =>
    rw [gNode_none hx]
    show (S ++ [s])[i]? = _
    rw [List.getElem?_append_left (List.getElem?_eq_some_iff.1 h).1]
    exact h

/-- Sets of 64 numbers, each once. -/
structure SOk (S : List Nat) : Prop where
  nd : S.Nodup
  lt : ∀ s ∈ S, s < 18446744073709551616
theorem SOk.at_lt {S : List Nat} (h : SOk S) {i s : Nat} (hi : S[i]? = some s) : s < 18446744073709551616 := h.lt s (List.mem_of_getElem? hi)
theorem SOk.one : SOk [0] := ⟨by simp, fun _ hs => by rw [List.mem_singleton.1 hs]; decide⟩
theorem SOk.nil : SOk [] := ⟨List.nodup_nil, fun _ hs => absurd hs List.not_mem_nil⟩
theorem SOk.snoc {S : List Nat} (h : SOk S) {s : Nat} (hs : s < 18446744073709551616) (hx : ixS S s = none) : SOk (S ++ [s]) where
  nd := List.nodup_append.2 ⟨h.nd, by simp, fun a ha b hb e => ixS_none hx (by rw [← List.mem_singleton.1 hb, ← e]; exact ha)⟩
  lt t ht := by
    rcases List.mem_append.1 ht with ht | ht
    · exact h.lt t ht
    · rw [List.mem_singleton.1 ht]; exact hs
theorem SOk.node {S : List Nat} (h : SOk S) {s : Nat} (hs : s < 18446744073709551616) : SOk (gNode S s).1 := by
  cases hx : ixS S s with
  | some i => rw [gNode_some hx]; exact h
  | none => rw [gNode_none hx]; exact h.snoc hs hx

/-- A step of a script. -/
structure Gst where
  d : Int
  sig : Nat
  n : Int
  c : Int
  hs : sig < 18446744073709551616
/-- What With (true), Without (false) make of a set. -/
def chg (b : Bool) (s : Nat) (c : Int) : Nat := if b = true then s ||| orL [c] else butN s (orL [c])
theorem chg_lt (b : Bool) {s : Nat} (c : Int) (h : s < 18446744073709551616) : chg b s c < 18446744073709551616 := by
  unfold chg
  split
  · exact Nat.or_lt_two_pow (n := 64) h (orL_lt _)
  · exact butN_lt h
def gMove (S : List Nat) (b : Bool) (n c : Int) : List Nat × Int :=
  if 0 ≤ n ∧ n < S.length then ((gNode S (chg b (S.getD n.toNat 0) c)).1, ((gNode S (chg b (S.getD n.toNat 0) c)).2 : Int)) else (S, -1)
def gGo (S : List Nat) (x : Gst) : List Nat × Int :=
  if x.d = 1 then gMove S true x.n x.c else if x.d = 2 then gMove S false x.n x.c else ((gNode S x.sig).1, ((gNode S x.sig).2 : Int))
theorem gMove_ok {S : List Nat} (h : SOk S) (b : Bool) (n c : Int) : SOk (gMove S b n c).1 := by
  unfold gMove
  by_cases hn : 0 ≤ n ∧ n < S.length
  · rw [if_pos hn]
    refine h.node (chg_lt b c ?_)
    have : n.toNat < S.length := by omega
    rw [List.getD_eq_getElem?_getD, List.getElem?_eq_getElem this]
    exact h.lt _ (List.getElem_mem this)
  · rw [if_neg hn]; exact h
theorem gMove_len (S : List Nat) (b : Bool) (n c : Int) : (gMove S b n c).1.length ≤ S.length + 1 := by
  unfold gMove
  split
  · exact (gNode_len _ _).1
  · exact Nat.le_succ _
theorem gMove_keeps {S : List Nat} (b : Bool) (n c : Int) {i t : Nat} (h : S[i]? = some t) : (gMove S b n c).1[i]? = some t := by
  unfold gMove
  split
  · exact gNode_keeps _ h
  · exact h
theorem gGo_ok {S : List Nat} (h : SOk S) (x : Gst) : SOk (gGo S x).1 := by
  unfold gGo
  split
  · exact gMove_ok h _ _ _
  · split
    · exact gMove_ok h _ _ _
    · exact h.node x.hs
theorem gGo_len (S : List Nat) (x : Gst) : (gGo S x).1.length ≤ S.length + 1 := by
  unfold gGo
  split
  · exact gMove_len _ _ _ _
  · split
    · exact gMove_len _ _ _ _
    · exact (gNode_len _ _).1
theorem gMove_pos {S : List Nat} (h : 0 < S.length) (b : Bool) (n c : Int) : 0 < (gMove S b n c).1.length := by
  unfold gMove
  split
  · exact Nat.lt_of_lt_of_le h (gNode_len _ _).2
  · exact h
theorem gGo_pos {S : List Nat} (h : 0 < S.length) (x : Gst) : 0 < (gGo S x).1.length := by
  unfold gGo
  split
  · exact gMove_pos h _ _ _
  · split
    · exact gMove_pos h _ _ _
    · exact Nat.lt_of_lt_of_le h (gNode_len _ _).2
theorem gGo_keeps {S : List Nat} (x : Gst) {i t : Nat} (h : S[i]? = some t) : (gGo S x).1[i]? = some t := by
  unfold gGo
  split
  · exact gMove_keeps _ _ _ h
  · split
    · exact gMove_keeps _ _ _ h
    · exact gNode_keeps _ h

/-- The two sets differ in c alone. -/
def Beside (s t : Nat) (c : Int) : Prop := s ≠ t ∧ 0 ≤ c ∧ c < 64 ∧ ∀ i : Nat, i < 64 → (i : Int) ≠ c → s.testBit i = t.testBit i
theorem Beside.symm {s t : Nat} {c : Int} (h : Beside s t c) : Beside t s c := ⟨h.1.symm, h.2.1, h.2.2.1, fun i hi hc => (h.2.2.2 i hi hc).symm⟩
theorem Beside.same {s t t' : Nat} {c : Int} (hs : s < 18446744073709551616) (ht : t < 18446744073709551616) (ht' : t' < 18446744073709551616) (h : Beside s t c) (h' : Beside s t' c) : t = t' := by
  obtain ⟨e1, c0, c1, h2⟩ := h
  obtain ⟨e1', _, _, h2'⟩ := h'
  refine eq_of_bits ht ht' fun i hi => ?_
  by_cases hc : (i : Int) = c
  · have d1 : s.testBit i ≠ t.testBit i := fun e => e1 (eq_of_bits hs ht fun j hj => by
      by_cases hj2 : (j : Int) = c
      · have : j = i := by omega
        rw [this]; exact e
      · exact h2 j hj hj2)
    have d2 : s.testBit i ≠ t'.testBit i := fun e => e1' (eq_of_bits hs ht' fun j hj => by
      by_cases hj2 : (j : Int) = c
      · have : j = i := by omega
        rw [this]; exact e
      · exact h2' j hj hj2)
    generalize s.testBit i = a at *
    generalize t.testBit i = b at *
    generalize t'.testBit i = d at *
    cases a <;> cases b <;> cases d <;> simp_all
  · rw [← h2 i hi hc, ← h2' i hi hc]
theorem chg_beside (b : Bool) {s : Nat} {c : Int} (hs : s < 18446744073709551616) (h : chg b s c ≠ s) : Beside s (chg b s c) c := by
  have hc : 0 ≤ c ∧ c < 64 := by
    by_cases hc : 0 ≤ c ∧ c < 64
    · exact hc
    · refine absurd ?_ h
      have h0 : orL [c] = 0 := by rw [orL_one, if_neg hc]
      unfold chg
      rw [h0]
      cases b
      · simp only [Bool.false_eq_true, if_false]
        exact eq_of_bits (butN_lt hs) hs fun i hi => by rw [butN_bit' _ _ _ (by decide) hi]; simp
      · simp
  refine ⟨fun e => h e.symm, hc.1, hc.2, fun i hi hne => ?_⟩
  have hb : (orL [c]).testBit i = false := by rw [orL_bit]; simp [hne]
  unfold chg
  cases b
  · simp only [Bool.false_eq_true, if_false]
    rw [butN_bit' _ _ _ (orL_lt _) hi, hb]
    simp
  · simp only [if_true]
    rw [Nat.testBit_or, hb]
    simp
end Go.Proofs.Ytigiepmmgghjlaa
