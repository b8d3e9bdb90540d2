/- Sets of the numbers from 0 to 63 as numbers: plain mathematics. -/
import Derived.Lib.TrailingZeros
namespace Go.Proofs.Ytigiepmmgghjlaa

/-- All that are in s, rising. -/
def listN (s : Nat) : List Nat := (List.range 64).filter fun i => s.testBit i
theorem testBit_big {a i : Nat} (ha : a < 18446744073709551616) (hi : ¬ i < 64) : a.testBit i = false :=
  Nat.testBit_lt_two_pow (Nat.lt_of_lt_of_le ha (show 2 ^ 64 ≤ 2 ^ i from Nat.pow_le_pow_right (by decide) (by omega)))
theorem eq_of_bits {a b : Nat} (ha : a < 18446744073709551616) (hb : b < 18446744073709551616) (h : ∀ i, i < 64 → a.testBit i = b.testBit i) : a = b :=
  Nat.eq_of_testBit_eq fun i => by
    by_cases hi : i < 64
    · exact h i hi
    · rw [testBit_big ha hi, testBit_big hb hi]
theorem mem_listN {s i : Nat} : i ∈ listN s ↔ i < 64 ∧ s.testBit i = true := by simp [listN]

/-- The document's: bit after bit. -/
def ofL (l : List Int) : Nat → Nat
  | 0 => 0
  | c + 1 => ofL l c + if (c : Int) ∈ l then 2 ^ c else 0
theorem ofL_lt (l : List Int) : ∀ c, ofL l c < 2 ^ c
  | 0 => Nat.one_pos
  | c + 1 => by
    have := ofL_lt l c
    rw [Nat.pow_succ]
    unfold ofL
    split <;> omega
theorem ofL_bit (l : List Int) : ∀ c i, (ofL l c).testBit i = decide (i < c ∧ (i : Int) ∈ l)
  | 0, i => by simp [ofL]
  | c + 1, i => by
    have ih := ofL_bit l c i
    have hlt := ofL_lt l c
    unfold ofL
    by_cases hc : (c : Int) ∈ l
    · rw [if_pos hc, ← Nat.or_two_pow_eq_add_of_lt hlt, Nat.testBit_or, ih, Nat.testBit_two_pow]
      by_cases e : i = c
      · subst e
        simp [hc]
      · have h1 : i < c ↔ i < c + 1 := by omega
        have h2 : ¬ c = i := fun e' => e e'.symm
        simp [h1, h2]
    · rw [if_neg hc, Nat.add_zero, ih]
      by_cases e : i = c
      · subst e
        simp [hc]
      · have : i < c ↔ i < c + 1 := by omega
        simp [this]
/-- The program's: a bit for each that may be. -/
def orL (l : List Int) : Nat := l.foldl (fun s c => if 0 ≤ c ∧ c < 64 then s ||| 2 ^ c.toNat else s) 0
theorem orL_snoc (l : List Int) (c : Int) : orL (l ++ [c]) = if 0 ≤ c ∧ c < 64 then orL l ||| 2 ^ c.toNat else orL l := by simp [orL]
theorem orL_one (c : Int) : orL [c] = if 0 ≤ c ∧ c < 64 then 2 ^ c.toNat else 0 := by simp [orL]
theorem orF_bit (l : List Int) (i : Nat) : ∀ s : Nat, (l.foldl (fun (s : Nat) (c : Int) => if 0 ≤ c ∧ c < 64 then s ||| 2 ^ c.toNat else s) s).testBit i = (s.testBit i || decide (i < 64 ∧ (i : Int) ∈ l)) := by
  induction l with
  | nil => intro s; simp
  | cons c l ih =>
    intro s
    rw [List.foldl_cons, ih]
    by_cases hc : 0 ≤ c ∧ c < 64
    · rw [if_pos hc, Nat.testBit_or, Nat.testBit_two_pow]
      by_cases e : (i : Int) = c
      · have h1 : c.toNat = i := by omega
        have h2 : i < 64 := by omega
        simp [h1, e, h2]
      · have h1 : ¬ c.toNat = i := by omega
        simp [h1, e]
    · rw [if_neg hc]
      by_cases e : (i : Int) = c
      · have h2 : ¬ i < 64 := by omega
        simp [h2]
      · simp [e]
theorem orL_bit (l : List Int) (i : Nat) : (orL l).testBit i = decide (i < 64 ∧ (i : Int) ∈ l) := by
  unfold orL
  rw [orF_bit]
  simp
theorem orL_lt (l : List Int) : orL l < 18446744073709551616 :=
  Nat.lt_pow_two_of_testBit (n := 64) _ fun i hi => by
    rw [orL_bit]
    have : ¬ i < 64 := by omega
    simp [this]
theorem orL_eq (l : List Int) : orL l = ofL l 64 := eq_of_bits (orL_lt l) (ofL_lt l 64) fun i _ => by rw [orL_bit, ofL_bit]
theorem two_lt {c : Nat} (h : c < 64) : 2 ^ c < 18446744073709551616 := Nat.pow_lt_pow_right (a := 2) (by decide) (show c < 64 from h)

/-- s without o. -/
def butN (s o : Nat) : Nat := s &&& (18446744073709551615 - o)
theorem butN_bit' (s o i : Nat) (ho : o < 18446744073709551616) (h : i < 64) : (butN s o).testBit i = (s.testBit i && !o.testBit i) := by
  unfold butN
  rw [Nat.testBit_and, show 18446744073709551615 - o = 2 ^ 64 - (o + 1) from by omega, Nat.testBit_two_pow_sub_succ ho]
  simp [h]
theorem butN_lt {s o : Nat} (h : s < 18446744073709551616) : butN s o < 18446744073709551616 := Nat.lt_of_le_of_lt Nat.and_le_left h
def listZ (s : Nat) : List Int := (listN s).map Int.ofNat
theorem mem_listZ {s : Nat} {i : Nat} : (i : Int) ∈ listZ s ↔ i < 64 ∧ s.testBit i = true := by
  unfold listZ
  rw [List.mem_map]
  constructor
  · rintro ⟨a, ha, e⟩
    have : a = i := by have e' : (a : Int) = i := e; omega
    subst this
    exact mem_listN.1 ha
  · exact fun h => ⟨i, mem_listN.2 h, rfl⟩
theorem hasN (s : Nat) (c : Int) : (s &&& orL [c] == 0) = !decide (0 ≤ c ∧ c < 64 ∧ s.testBit c.toNat = true) := by
  rw [orL_one]
  by_cases hc : 0 ≤ c ∧ c < 64
  · rw [if_pos hc]
    by_cases hb : s.testBit c.toNat = true
    · have h0 : ¬ s &&& 2 ^ c.toNat = 0 := fun e => by
        have := congrArg (fun x => Nat.testBit x c.toNat) e
        simp [hb] at this
      simp [hc.1, hc.2, hb, h0]
    · have h0 : s &&& 2 ^ c.toNat = 0 := Nat.eq_of_testBit_eq fun i => by
        rw [Nat.testBit_and, Nat.testBit_two_pow]
        by_cases e : c.toNat = i
        · subst e; simp [hb]
        · simp [e]
      simp [hb, h0]
  · rw [if_neg hc]
    have : ¬ (0 ≤ c ∧ c < 64 ∧ s.testBit c.toNat = true) := fun h => hc ⟨h.1, h.2.1⟩
    simp only [this, Nat.and_zero, decide_false]
    rfl
theorem withN (s : Nat) (c : Int) (hs : s < 18446744073709551616) : s ||| orL [c] = ofL (listZ s ++ [c]) 64 :=
  eq_of_bits (Nat.or_lt_two_pow (n := 64) hs (orL_lt _)) (ofL_lt _ 64) fun i hi => by
    rw [Nat.testBit_or, orL_bit, ofL_bit]
    by_cases hb : s.testBit i = true
    · have := mem_listZ.2 ⟨hi, hb⟩
      simp [hi, hb, this]
    · have : ¬ (i : Int) ∈ listZ s := fun h => hb (mem_listZ.1 h).2
      simp [hi, hb, this]
theorem withoutN (s : Nat) (c : Int) (hs : s < 18446744073709551616) : butN s (orL [c]) = ofL ((listZ s).filter fun x => decide (x ≠ c)) 64 :=
  eq_of_bits (butN_lt hs) (ofL_lt _ 64) fun i hi => by
    rw [butN_bit' _ _ _ (orL_lt _) hi, orL_bit, ofL_bit]
    by_cases hb : s.testBit i = true
    · have := mem_listZ.2 ⟨hi, hb⟩
      simp [hi, hb, this, List.mem_filter]
    · have : ¬ (i : Int) ∈ listZ s := fun h => hb (mem_listZ.1 h).2
      simp [hb, this, List.mem_filter]
theorem backN (s : Nat) (hs : s < 18446744073709551616) : orL (listZ s) = s :=
  eq_of_bits (orL_lt _) hs fun i hi => by
    rw [orL_bit]
    by_cases hb : s.testBit i = true
    · have := mem_listZ.2 ⟨hi, hb⟩
      simp [hi, hb, this]
    · have : ¬ (i : Int) ∈ listZ s := fun h => hb (mem_listZ.1 h).2
      simp [hb, this]
theorem undoN (s : Nat) (c : Int) (hs : s < 18446744073709551616) (h : 0 ≤ c ∧ c < 64 ∧ s.testBit c.toNat = true) : butN s (orL [c]) ||| orL [c] = s :=
  eq_of_bits (Nat.or_lt_two_pow (n := 64) (butN_lt hs) (orL_lt _)) hs fun i hi => by
    rw [Nat.testBit_or, butN_bit' _ _ _ (orL_lt _) hi, orL_bit]
    by_cases e : (i : Int) = c
    · have : c.toNat = i := by omega
      rw [this] at h
      simp [h.2.2, e, hi]
    · simp [e]
theorem withinN (a b : Nat) (ha : a < 18446744073709551616) (hb0 : b < 18446744073709551616) : (butN a b == 0) = (listN a).all fun i => b.testBit i := by
  by_cases h : ∀ i ∈ listN a, b.testBit i = true
  · have h0 : butN a b = 0 := eq_of_bits (butN_lt ha) (by decide) fun i hi => by
      rw [butN_bit' _ _ _ hb0 hi]
      by_cases hb : a.testBit i = true
      · simp [h i (mem_listN.2 ⟨hi, hb⟩)]
      · simp [hb]
    rw [h0, List.all_eq_true.2 h]; rfl
  · have h1 : (listN a).all (fun i => b.testBit i) = false := by
      rw [Bool.eq_false_iff]
      exact fun e => h (List.all_eq_true.1 e)
    rw [h1, beq_eq_false_iff_ne]
    intro h0
    refine h fun i hi => ?_
    obtain ⟨h64, hb⟩ := mem_listN.1 hi
    have := butN_bit' a b i hb0 h64
    rw [h0, hb] at this
    simpa using this
theorem apartN (a b : Nat) (ha : a < 18446744073709551616) : (a &&& b == 0) = (listN a).all fun i => !b.testBit i := by
  by_cases h : ∀ i ∈ listN a, (!b.testBit i) = true
  · have h0 : a &&& b = 0 := eq_of_bits (Nat.lt_of_le_of_lt Nat.and_le_left ha) (by decide) fun i hi => by
      rw [Nat.testBit_and]
      by_cases hb : a.testBit i = true
      · have := h i (mem_listN.2 ⟨hi, hb⟩)
        simp_all
      · simp [hb]
    rw [h0, List.all_eq_true.2 h]; rfl
  · have h1 : (listN a).all (fun i => !b.testBit i) = false := by
      rw [Bool.eq_false_iff]
      exact fun e => h (List.all_eq_true.1 e)
    rw [h1, beq_eq_false_iff_ne]
    intro h0
    refine h fun i hi => ?_
    obtain ⟨h64, hb⟩ := mem_listN.1 hi
    have := Nat.testBit_and a b i
    rw [h0, hb] at this
    simpa using this

/-- The lowest of s, and the others. -/
theorem lowN (s : Nat) (h0 : s ≠ 0) (hs : s < 18446744073709551616) : Lib.ctz 64 s < 64 ∧ listN s = Lib.ctz 64 s :: listN (butN s (orL [(Lib.ctz 64 s : Nat)])) := by
  obtain ⟨m, hm, hk⟩ := Lib.ctzFrom_spec 64 s (Nat.pos_of_ne_zero h0) hs
  have hc : Lib.ctz 64 s = Lib.ctzFrom 64 s := by unfold Lib.ctz; rw [if_neg h0]
  rw [← hc] at hm hk
  obtain ⟨k, hk'⟩ : ∃ k, k = Lib.ctz 64 s := ⟨_, rfl⟩
  rw [← hk'] at hm hk ⊢
  clear hc hk'
  refine ⟨hk, ?_⟩
  have hb : ∀ i, s.testBit i = (decide (k ≤ i) && (2 * m + 1).testBit (i - k)) := fun i => by rw [hm, Nat.testBit_two_pow_mul]
  have hkk : s.testBit k = true := by rw [hb]; simp [Nat.testBit_zero]
  have hlow : ∀ i, i < k → s.testBit i = false := fun i hi => by
    rw [hb]
    have : ¬ k ≤ i := by omega
    simp [this]
  have hoth : ∀ i, i < 64 → i ≠ k → (butN s (orL [(k : Int)])).testBit i = s.testBit i := fun i hi hne => by
    rw [butN_bit' _ _ _ (orL_lt _) hi, orL_bit]
    have : ¬ (i : Int) = k := by omega
    simp [this]
  have hsame : (butN s (orL [(k : Int)])).testBit k = false := by
    rw [butN_bit' _ _ _ (orL_lt _) hk, orL_bit]
    simp [hk]
  unfold listN
  obtain ⟨d, hd⟩ : ∃ d, 64 = k + 1 + d := ⟨63 - k, by omega⟩
  have hr : List.range 64 = List.range k ++ ([k] ++ (List.range d).map (k + 1 + ·)) := by
    rw [hd, List.range_add, List.range_succ, List.append_assoc]
  have e1 : (List.range k).filter (fun i => s.testBit i) = [] := List.filter_eq_nil_iff.2 fun i hi => by
    rw [hlow i (List.mem_range.1 hi)]; simp
  have e2 : (List.range k).filter (fun i => (butN s (orL [(k : Int)])).testBit i) = [] := List.filter_eq_nil_iff.2 fun i hi => by
    have := List.mem_range.1 hi
    rw [hoth i (by omega) (by omega), hlow i this]; simp
  have e3 : ((List.range d).map (k + 1 + ·)).filter (fun i => (butN s (orL [(k : Int)])).testBit i) = ((List.range d).map (k + 1 + ·)).filter (fun i => s.testBit i) := List.filter_congr fun i hi => by
    obtain ⟨j, hj, rfl⟩ := List.mem_map.1 hi
    have := List.mem_range.1 hj
    exact hoth _ (by omega) (by omega)
  rw [hr, List.filter_append, List.filter_append, List.filter_append, List.filter_append, e1, e2, e3]
  simp [hkk, hsame]
theorem listN_zero : listN 0 = [] := by decide

end Go.Proofs.Ytigiepmmgghjlaa
