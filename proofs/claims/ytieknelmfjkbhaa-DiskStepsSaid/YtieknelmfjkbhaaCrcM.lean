/- Checksums: plain mathematics. -/
import Derived.Test.YtieknelmfjkbhaaMem
import Derived.Laws.BitsAllLaws
import Derived.Laws.BitsLemmas
namespace Go.Proofs.Ytieknelmfjkbhaa
open Go.RowKit

/-- One bit is let fall. -/
def bst (s : Nat) : Nat := s / 2 ^^^ (if s % 2 = 1 then 3988292384 else 0)
def bstN : Nat → Nat → Nat
  | 0, s => s
  | n + 1, s => bstN n (bst s)
/-- n bits of W, the lowest first. -/
def runB : Nat → Nat → Nat → Nat
  | 0, s, _ => s
  | n + 1, s, W => runB n (bst (s ^^^ W % 2)) (W / 2)
def addB (s : Nat) (c : UInt8) : Nat := runB 8 s c.toNat
def addL (s : Nat) (l : List UInt8) : Nat := l.foldl addB s
def sumL (l : List UInt8) : Nat := addL 4294967295 l ^^^ 4294967295

theorem bst_lt {s : Nat} (h : s < 4294967296) : bst s < 4294967296 := by
  unfold bst
  have h1 : s / 2 < 2 ^ 32 := by omega
  split
  · exact Nat.xor_lt_two_pow (n := 32) h1 (by decide)
  · exact Nat.xor_lt_two_pow (n := 32) h1 (by decide)
theorem xor_lt {a b : Nat} (h : a < 4294967296) (h' : b < 4294967296) : a ^^^ b < 4294967296 := Nat.xor_lt_two_pow (n := 32) h h'
theorem runB_lt (n : Nat) : ∀ {s W : Nat}, s < 4294967296 → runB n s W < 4294967296 := by
  induction n with
  | zero => exact fun h => h
  | succ n ih => exact fun h => ih (bst_lt (xor_lt h (by omega)))
theorem addB_lt {s : Nat} (h : s < 4294967296) (c : UInt8) : addB s c < 4294967296 := runB_lt 8 h
theorem addL_lt (l : List UInt8) : ∀ {s : Nat}, s < 4294967296 → addL s l < 4294967296 := by
  induction l with
  | nil => exact fun h => h
  | cons c l ih => exact fun h => ih (addB_lt h c)
theorem addL_append (s : Nat) (l m : List UInt8) : addL s (l ++ m) = addL (addL s l) m := by simp [addL, List.foldl_append]
theorem addL_snoc (s : Nat) (l : List UInt8) (c : UInt8) : addL s (l ++ [c]) = addB (addL s l) c := by simp [addL]
theorem addL_one (s : Nat) (c : UInt8) : addL s [c] = addB s c := rfl
theorem sumL_lt (l : List UInt8) : sumL l < 4294967296 := xor_lt (addL_lt l (by decide)) (by decide)

theorem xor_cancel {a b c : Nat} (h : a ^^^ c = b ^^^ c) : a = b := by
  have h1 : a ^^^ c ^^^ c = b ^^^ c ^^^ c := by rw [h]
  simpa [Nat.xor_assoc] using h1
theorem xor_half (a b : Nat) : (a ^^^ b) / 2 = a / 2 ^^^ b / 2 := Nat.xor_div_two
theorem xor_mod2 (a b : Nat) : (a ^^^ b) % 2 = (a + b) % 2 := by
  have h := Nat.testBit_xor a b 0
  simp only [Nat.testBit_zero] at h
  have := Nat.mod_two_eq_zero_or_one a
  have := Nat.mod_two_eq_zero_or_one b
  have := Nat.mod_two_eq_zero_or_one (a ^^^ b)
  rcases Nat.mod_two_eq_zero_or_one a with h1 | h1 <;> rcases Nat.mod_two_eq_zero_or_one b with h2 | h2 <;> rcases Nat.mod_two_eq_zero_or_one (a ^^^ b) with h3 | h3 <;> simp [h1, h2, h3] at h <;> omega

theorem bst_xor (a b : Nat) : bst (a ^^^ b) = bst a ^^^ bst b := by
  unfold bst
  rw [xor_half]
  have h := xor_mod2 a b
  by_cases h1 : a % 2 = 1 <;> by_cases h2 : b % 2 = 1
  · rw [if_pos h1, if_pos h2, if_neg (by omega)]
    rw [show a / 2 ^^^ 3988292384 ^^^ (b / 2 ^^^ 3988292384) = a / 2 ^^^ b / 2 ^^^ (3988292384 ^^^ 3988292384) from by ac_rfl, Nat.xor_self]
  · rw [if_pos h1, if_neg h2, if_pos (by omega), Nat.xor_zero]
    ac_rfl
  · rw [if_neg h1, if_pos h2, if_pos (by omega), Nat.xor_zero]
    ac_rfl
  · rw [if_neg h1, if_neg h2, if_neg (by omega)]
    simp
theorem bst_even (a : Nat) (h : a % 2 = 0) : bst a = a / 2 := by
  unfold bst
  rw [if_neg (by omega), Nat.xor_zero]
/-- A number is its lowest bit and the others. -/
theorem low_xor (W : Nat) : W = W % 2 ^^^ (W / 2 * 2) := by
  apply Nat.eq_of_testBit_eq
  intro i
  rw [Nat.testBit_xor]
  cases i with
  | zero => simp [Nat.testBit_zero]
  | succ i => simp [Nat.testBit_succ, show W % 2 / 2 = 0 from by omega]
theorem bst_low (s W : Nat) : bst (s ^^^ W) = bst (s ^^^ W % 2) ^^^ W / 2 := by
  conv => lhs; rw [low_xor W]
  rw [← Nat.xor_assoc, bst_xor, bst_even (W / 2 * 2) (by omega), Nat.mul_div_cancel _ (by decide)]

theorem bstN_eq (n : Nat) : ∀ s W : Nat, bstN n (s ^^^ W) = runB n s W ^^^ W / 2 ^ n := by
  induction n with
  | zero => intro s W; simp [bstN, runB]
  | succ n ih =>
    intro s W
    show bstN n (bst (s ^^^ W)) = runB n (bst (s ^^^ W % 2)) (W / 2) ^^^ _
    rw [bst_low, ih, Nat.div_div_eq_div_mul, Nat.pow_succ, Nat.mul_comm 2]
theorem bstN_byte (s : Nat) (c : UInt8) : bstN 8 (s ^^^ c.toNat) = addB s c := by
  rw [bstN_eq, show c.toNat / 2 ^ 8 = 0 from Nat.div_eq_of_lt c.toNat_lt, Nat.xor_zero]
  rfl
theorem bstN_snoc (n : Nat) : ∀ s : Nat, bstN (n + 1) s = bst (bstN n s) := by
  induction n with
  | zero => exact fun _ => rfl
  | succ n ih => exact fun s => ih (bst s)

/-- Without an if: what fell out is spread over all bits. -/
theorem bst_spread (s : Nat) : s / 2 ^^^ (3988292384 &&& ((4294967296 - s % 2) % 4294967296)) = bst s := by
  unfold bst
  rcases Nat.mod_two_eq_zero_or_one s with h | h
  · rw [h]; rfl
  · rw [h]; rfl

/-! The reference's way round. -/

/-- r is s, turned round. -/
def Rev (r s : Nat) : Prop := r < 4294967296 ∧ s < 4294967296 ∧ ∀ i, i < 32 → r.testBit i = s.testBit (31 - i)
theorem Rev.all : Rev 4294967295 4294967295 := ⟨by decide, by decide, by decide⟩
theorem Rev.top {r s : Nat} (h : Rev r s) : r / 2147483648 = s % 2 := by
  have h1 := h.2.2 31 (by decide)
  have h2 := h.1
  rw [Nat.testBit_eq_decide_div_mod_eq, Nat.testBit_eq_decide_div_mod_eq, decide_eq_decide] at h1
  have : r / 2147483648 < 2 := by omega
  simp at h1
  omega
theorem lt_of_bits {r : Nat} {n : Nat} (h : r < 2 ^ n) {i : Nat} (hi : n ≤ i) : r.testBit i = false :=
  Nat.testBit_lt_two_pow (Nat.lt_of_lt_of_le h (Nat.pow_le_pow_right (by decide) hi))
theorem Rev.half {r s : Nat} (h : Rev r s) : Rev (r * 2 % 4294967296) (s / 2) := by
  refine ⟨by omega, by have := h.2.1; omega, fun i hi => ?_⟩
  rw [show (4294967296 : Nat) = 2 ^ 32 from rfl, Nat.testBit_mod_two_pow]
  cases i with
  | zero =>
    rw [Nat.testBit_zero, show s / 2 = s / 2 ^ 1 from rfl, Nat.testBit_div_two_pow]
    rw [lt_of_bits (n := 32) h.2.1 (by decide)]
    simp
  | succ i =>
    rw [Nat.testBit_succ, Nat.mul_div_cancel _ (by decide), show s / 2 = s / 2 ^ 1 from rfl, Nat.testBit_div_two_pow, h.2.2 i (by omega)]
    simp [hi]
    congr 1
    omega
theorem Rev.xor_poly {r s : Nat} (h : Rev r s) : Rev (r ^^^ 79764919) (s ^^^ 3988292384) := by
  refine ⟨xor_lt h.1 (by decide), xor_lt h.2.1 (by decide), fun i hi => ?_⟩
  rw [Nat.testBit_xor, Nat.testBit_xor, h.2.2 i hi]
  congr 1
  have : ∀ i, i < 32 → Nat.testBit 79764919 i = Nat.testBit 3988292384 (31 - i) := by decide
  exact this i hi
theorem Rev.like {r s c : Nat} (h : Rev r s) (hc : r / 2147483648 = c % 2) : Rev (r * 2 % 4294967296) (bst (s ^^^ c % 2)) := by
  have e : bst (s ^^^ c % 2) = s / 2 := by
    have h1 := h.top
    have h2 := xor_mod2 s (c % 2)
    unfold bst
    rw [xor_half, show c % 2 / 2 = 0 from by omega, if_neg (by omega), Nat.xor_zero, Nat.xor_zero]
  rw [e]
  exact h.half
theorem Rev.unlike {r s c : Nat} (h : Rev r s) (hc : ¬ r / 2147483648 = c % 2) : Rev (r * 2 % 4294967296 ^^^ 79764919) (bst (s ^^^ c % 2)) := by
  have e : bst (s ^^^ c % 2) = s / 2 ^^^ 3988292384 := by
    have h1 := h.top
    have h2 := xor_mod2 s (c % 2)
    unfold bst
    rw [xor_half, show c % 2 / 2 = 0 from by omega, if_pos (by omega), Nat.xor_zero]
  rw [e]
  exact h.half.xor_poly
theorem Rev.bit {r s j : Nat} (h : Rev r s) (hj : j < 32) : r / 2 ^ j % 2 = s / 2 ^ (31 - j) % 2 := by
  have h1 := h.2.2 j hj
  rw [Nat.testBit_eq_decide_div_mod_eq, Nat.testBit_eq_decide_div_mod_eq, decide_eq_decide] at h1
  omega
theorem Rev.step {r s j : Nat} (h : Rev r s) (hj : j < 32) : s / 2 ^ (32 - j) * 2 + r / 2 ^ j % 2 = s / 2 ^ (32 - (j + 1)) := by
  rw [h.bit hj, show 32 - j = (31 - j) + 1 from by omega, show 32 - (j + 1) = 31 - j from by omega, Nat.pow_succ, ← Nat.div_div_eq_div_mul]
  omega

/-- All bits turned. -/
theorem turn_all {s : Nat} (h : s < 4294967296) : s ^^^ 4294967295 = 4294967295 - s := by
  apply Nat.eq_of_testBit_eq
  intro i
  rw [Nat.testBit_xor, show 4294967295 - s = 2 ^ 32 - (s + 1) from by omega, Nat.testBit_two_pow_sub_succ h]
  by_cases hi : i < 32
  · have : ∀ i, i < 32 → Nat.testBit 4294967295 i = true := by decide
    simp [hi, this i hi]
  · rw [lt_of_bits (n := 32) h (by omega), lt_of_bits (n := 32) (r := 4294967295) (by decide) (by omega)]
    simp [hi]

/-! Turnings of some of 32 bits in a row. -/

theorem bst_inj {a b : Nat} (ha : a < 4294967296) (hb : b < 4294967296) (h : bst a = bst b) : a = b := by
  have key : ∀ s, s < 4294967296 → (bst s / 2147483648 = s % 2) := by
    intro s hs
    unfold bst
    have e : ∀ x p : Nat, (x ^^^ p) / 2 ^ 31 = x / 2 ^ 31 ^^^ p / 2 ^ 31 := fun x p => by
      rw [← Nat.shiftRight_eq_div_pow, ← Nat.shiftRight_eq_div_pow, ← Nat.shiftRight_eq_div_pow, Nat.shiftRight_xor_distrib]
    have e' := e (s / 2) (if s % 2 = 1 then 3988292384 else 0)
    rw [show (2 : Nat) ^ 31 = 2147483648 from rfl] at e'
    rw [e', show s / 2 / 2147483648 = 0 from by omega]
    rcases Nat.mod_two_eq_zero_or_one s with h | h
    · rw [h]; rfl
    · rw [h]; rfl
  have h1 := key a ha
  have h2 := key b hb
  have h3 : a % 2 = b % 2 := by rw [← h1, ← h2, h]
  have h4 : a / 2 = b / 2 := by
    unfold bst at h
    rw [h3] at h
    exact xor_cancel h
  omega
theorem runB_inj (n : Nat) : ∀ {a b : Nat} (W : Nat), a < 4294967296 → b < 4294967296 → runB n a W = runB n b W → a = b := by
  induction n with
  | zero => exact fun _ _ _ h => h
  | succ n ih =>
    intro a b W ha hb h
    have h1 := ih (W / 2) (bst_lt (xor_lt ha (by omega))) (bst_lt (xor_lt hb (by omega))) h
    have h2 := bst_inj (xor_lt ha (by omega)) (xor_lt hb (by omega)) h1
    exact xor_cancel h2
theorem addL_inj (l : List UInt8) : ∀ {a b : Nat}, a < 4294967296 → b < 4294967296 → addL a l = addL b l → a = b := by
  induction l with
  | nil => exact fun _ _ h => h
  | cons c l ih =>
    intro a b ha hb h
    exact runB_inj 8 c.toNat ha hb (ih (addB_lt ha c) (addB_lt hb c) h)

/-- Bits beside bits. -/
theorem runB_xor (n : Nat) : ∀ s t V W : Nat, runB n (s ^^^ t) (V ^^^ W) = runB n s V ^^^ runB n t W := by
  induction n with
  | zero => exact fun _ _ _ _ => rfl
  | succ n ih =>
    intro s t V W
    show runB n (bst (s ^^^ t ^^^ (V ^^^ W) % 2)) ((V ^^^ W) / 2) = _
    have e : (V ^^^ W) % 2 = V % 2 ^^^ W % 2 := by
      have h := xor_mod2 V W
      rcases Nat.mod_two_eq_zero_or_one V with h1 | h1 <;> rcases Nat.mod_two_eq_zero_or_one W with h2 | h2 <;> rw [h, Nat.add_mod, h1, h2] <;> rfl
    rw [e, xor_half, show s ^^^ t ^^^ (V % 2 ^^^ W % 2) = (s ^^^ V % 2) ^^^ (t ^^^ W % 2) from by ac_rfl, bst_xor, ih]
    rfl
theorem runB_more (m n : Nat) : ∀ s W : Nat, runB (m + n) s W = runB n (runB m s W) (W / 2 ^ m) := by
  induction m with
  | zero => intro s W; simp [runB]
  | succ m ih =>
    intro s W
    rw [show m + 1 + n = (m + n) + 1 from by omega]
    show runB (m + n) _ _ = runB n (runB m _ _) _
    rw [ih, Nat.div_div_eq_div_mul, Nat.pow_succ, Nat.mul_comm 2]
theorem runB_low (n : Nat) : ∀ s W : Nat, runB n s (W % 2 ^ n) = runB n s W := by
  induction n with
  | zero => exact fun _ _ => rfl
  | succ n ih =>
    intro s W
    show runB n (bst (s ^^^ W % 2 ^ (n + 1) % 2)) (W % 2 ^ (n + 1) / 2) = runB n _ (W / 2)
    have e1 : W % 2 ^ (n + 1) % 2 = W % 2 := by rw [Nat.mod_mod_of_dvd]; exact ⟨2 ^ n, by rw [Nat.pow_succ, Nat.mul_comm]⟩
    have e2 : W % 2 ^ (n + 1) / 2 = W / 2 % 2 ^ n := by rw [Nat.pow_succ, Nat.mul_comm, Nat.mod_mul_right_div_self]
    rw [e1, e2, ih]
theorem runB_zero (n : Nat) : runB n 0 0 = 0 := by
  induction n with
  | zero => rfl
  | succ n ih => exact ih
theorem runB_gap (n : Nat) (k W : Nat) (hn : n ≤ k) : runB n 0 (W * 2 ^ k) = 0 := by
  rw [← runB_low]
  have e : W * 2 ^ k % 2 ^ n = 0 := by
    apply Nat.mod_eq_zero_of_dvd
    exact Nat.dvd_trans (Nat.pow_dvd_pow 2 hn) (Nat.dvd_mul_left _ _)
  rw [e, runB_zero]
theorem runB_ne (n : Nat) {s : Nat} (h : s < 4294967296) (h0 : s ≠ 0) : runB n s 0 ≠ 0 := fun e => h0 (runB_inj n 0 h (by decide) (e.trans (runB_zero n).symm))
/-- 32 bits, not all of them 0, lead from 0 to another state. -/
theorem runB_word (u : Nat) (hu : u < 4294967296) (h0 : u ≠ 0) : runB 32 0 u ≠ 0 := by
  have h1 := bstN_eq 32 0 u
  have h2 := bstN_eq 32 u 0
  rw [Nat.zero_xor, Nat.div_eq_of_lt hu, Nat.xor_zero] at h1
  rw [Nat.xor_zero, Nat.zero_div, Nat.xor_zero] at h2
  rw [← h1, h2]
  exact runB_ne 32 hu h0
theorem runB_burst (k u : Nat) (hk : k ≤ 8) (hu : u < 4294967296) (h0 : u ≠ 0) : runB 40 0 (u * 2 ^ k) ≠ 0 := by
  rw [show 40 = k + (32 + (8 - k)) from by omega, runB_more, runB_gap k k u (Nat.le_refl _), Nat.mul_div_cancel _ (Nat.pow_pos (by decide)), runB_more, Nat.div_eq_of_lt hu]
  exact runB_ne _ (runB_lt 32 (by decide)) (runB_word u hu h0)

/-- Five bytes turned. -/
def wideB (W : Nat) (i : Nat) : UInt8 := UInt8.ofNat (W / 256 ^ i % 256)
theorem addB_xor (s t : Nat) (c d : UInt8) : addB (s ^^^ t) (c ^^^ d) = addB s c ^^^ addB t d := by
  unfold addB
  rw [UInt8.toNat_xor]
  exact runB_xor 8 s t _ _
theorem addB_wide (s W i : Nat) : addB s (wideB W i) = runB 8 s (W / 256 ^ i) := by
  unfold addB wideB
  rw [UInt8.toNat_ofNat', show (2 : Nat) ^ 8 = 256 from rfl, Nat.mod_mod, ← runB_low 8 s (W / 256 ^ i)]
theorem five (W : Nat) : addB (addB (addB (addB (addB 0 (wideB W 0)) (wideB W 1)) (wideB W 2)) (wideB W 3)) (wideB W 4) = runB 40 0 W := by
  simp only [addB_wide]
  rw [show 40 = 8 + (8 + (8 + (8 + 8))) from rfl, runB_more, runB_more, runB_more, runB_more]
  simp only [Nat.div_div_eq_div_mul]
  simp
/-- The list with its places at .. at + 4 turned. -/
def turnL (l : List UInt8) (at' : Nat) (W : Nat) (j : Nat) : List UInt8 := (List.range l.length).map fun i => if at' ≤ i ∧ i < at' + j then l.getD i 0 ^^^ wideB W (i - at') else l.getD i 0

theorem turnL_zero (l : List UInt8) (p W : Nat) : turnL l p W 0 = l := by
  apply List.ext_getElem
  · simp [turnL]
  · intro i h1 h2
    have : ¬ (p ≤ i ∧ i < p) := by omega
    simp [turnL, h2, this]
theorem turnL_at (l : List UInt8) (p W j : Nat) (h : p + j < l.length) : (turnL l p W j)[p + j]'(by simp [turnL]; omega) = l.getD (p + j) 0 := by
  simp [turnL, h]
theorem turnL_succ (l : List UInt8) (p W j : Nat) : (turnL l p W j).set (p + j) (l.getD (p + j) 0 ^^^ wideB W j) = turnL l p W (j + 1) := by
  apply List.ext_getElem
  · simp [turnL]
  · intro i h1 h2
    have hi : i < l.length := by simpa [turnL] using h2
    rw [List.getElem_set]
    by_cases he : p + j = i
    · subst he
      rw [if_pos rfl]
      have e : p ≤ p + j ∧ p + j < p + (j + 1) := by omega
      simp only [turnL, List.getElem_map, List.getElem_range]
      rw [if_pos e, Nat.add_sub_cancel_left]
    · rw [if_neg he]
      simp only [turnL, List.getElem_map, List.getElem_range]
      by_cases h3 : p ≤ i ∧ i < p + j
      · rw [if_pos h3, if_pos (by omega)]
      · rw [if_neg h3, if_neg (by omega)]

theorem sum_ne (l : List UInt8) (p W : Nat) (h : p + 5 ≤ l.length) (hW : runB 40 0 W ≠ 0) : sumL (turnL l p W 5) ≠ sumL l := by
  intro he
  have he' : addL 4294967295 (turnL l p W 5) = addL 4294967295 l := xor_cancel he
  obtain ⟨a, b0, b1, b2, b3, b4, c, hl, ha⟩ : ∃ a b0 b1 b2 b3 b4 c, l = a ++ ([b0, b1, b2, b3, b4] ++ c) ∧ a.length = p := by
    refine ⟨l.take p, l[p]'(by omega), l[p + 1]'(by omega), l[p + 2]'(by omega), l[p + 3]'(by omega), l[p + 4]'(by omega), l.drop (p + 5), ?_, by simp; omega⟩
    conv => lhs; rw [← List.take_append_drop p l]
    congr 1
    rw [List.drop_eq_getElem_cons (by omega), List.drop_eq_getElem_cons (by omega), List.drop_eq_getElem_cons (by omega), List.drop_eq_getElem_cons (by omega), List.drop_eq_getElem_cons (by omega)]
    rfl
  have ht : turnL l p W 5 = a ++ ([b0 ^^^ wideB W 0, b1 ^^^ wideB W 1, b2 ^^^ wideB W 2, b3 ^^^ wideB W 3, b4 ^^^ wideB W 4] ++ c) := by
    apply List.ext_getElem?
    intro i
    unfold turnL
    rw [List.getElem?_map]
    by_cases hi : i < l.length
    · rw [List.getElem?_range hi]
      subst ha
      subst hl
      simp only [Option.map_some, List.getD]
      by_cases h1 : i < a.length
      · rw [if_neg (by omega), List.getElem?_append_left h1, List.getElem?_append_left h1, List.getElem?_eq_getElem h1]
        rfl
      · obtain ⟨j, rfl⟩ : ∃ j, i = a.length + j := ⟨i - a.length, by omega⟩
        have e1 : ∀ x : List UInt8, (a ++ x)[a.length + j]? = x[j]? := fun x => by rw [List.getElem?_append_right (by omega), Nat.add_sub_cancel_left]
        rw [e1, e1]
        by_cases h2 : j < 5
        · rw [if_pos (by omega), Nat.add_sub_cancel_left]
          obtain rfl | rfl | rfl | rfl | rfl : j = 0 ∨ j = 1 ∨ j = 2 ∨ j = 3 ∨ j = 4 := by omega
          all_goals rfl
        · rw [if_neg (by omega)]
          obtain ⟨k, rfl⟩ : ∃ k, j = k + 5 := ⟨j - 5, by omega⟩
          simp at hi
          simp [List.getElem?_eq_getElem (show k < c.length by omega)]
    · rw [List.getElem?_eq_none (by simp; omega), List.getElem?_eq_none (by subst hl; simp at hi ⊢; omega)]
      rfl
  rw [ht, hl, addL_append, addL_append, addL_append, addL_append] at he'
  have h5 := addL_inj c (addL_lt _ (addL_lt _ (by decide))) (addL_lt _ (addL_lt _ (by decide))) he'
  generalize addL 4294967295 a = s at h5
  simp only [addL, List.foldl_cons, List.foldl_nil] at h5
  have hx : ∀ (t : Nat) (b : UInt8) (d : UInt8), addB (s ^^^ t) (b ^^^ d) = addB s b ^^^ addB t d := fun t b d => addB_xor s t b d
  have h6 : addB (addB (addB (addB (addB s (b0 ^^^ wideB W 0)) (b1 ^^^ wideB W 1)) (b2 ^^^ wideB W 2)) (b3 ^^^ wideB W 3)) (b4 ^^^ wideB W 4) = addB (addB (addB (addB (addB s b0) b1) b2) b3) b4 ^^^ runB 40 0 W := by
    rw [← five]
    conv => lhs; rw [← Nat.xor_zero s]
    simp only [addB_xor]
  rw [h6] at h5
  apply hW
  generalize addB (addB (addB (addB (addB s b0) b1) b2) b3) b4 = z at h5
  generalize runB 40 0 W = y at h5
  have : z ^^^ (z ^^^ y) = z ^^^ z := by rw [h5]
  rw [← Nat.xor_assoc, Nat.xor_self, Nat.zero_xor] at this
  exact this
end Go.Proofs.Ytieknelmfjkbhaa
