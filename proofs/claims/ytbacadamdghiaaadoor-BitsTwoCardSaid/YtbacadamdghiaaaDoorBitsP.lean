/- How many bits: plain mathematics. -/
import Derived.Test.YtbacadamdghiaaaDoorBitsM
namespace Go.Proofs.YtbacadamdghiaaaDoor

/-! How many. -/
def cnt : Nat → Nat → Nat
  | 0, _ => 0
  | n + 1, x => x % 2 + cnt n (x / 2)
theorem cnt_list (n : Nat) : ∀ x, ((List.range n).filter fun i => x.testBit i).length = cnt n x := by
  induction n with
  | zero => intro x; rfl
  | succ n ih =>
    intro x
    rw [List.range_succ_eq_map, List.filter_cons]
    have hm : ((List.map Nat.succ (List.range n)).filter fun i => x.testBit i).length = cnt n (x / 2) := by
      rw [← ih, List.filter_map, List.length_map]
      congr 1
      exact List.filter_congr fun i _ => by simp [Nat.testBit_succ]
    unfold cnt
    rw [Nat.testBit_zero]
    by_cases h : x % 2 = 1
    · simp only [h, decide_true, if_true, List.length_cons, hm]
      omega
    · have : x % 2 = 0 := by omega
      simp only [this, Nat.zero_add]
      simpa using hm
theorem listN_len (s : Nat) : (listN s).length = cnt 64 s := cnt_list 64 s
theorem cnt_add (a : Nat) : ∀ b x, cnt (a + b) x = cnt a x + cnt b (x / 2 ^ a) := by
  induction a with
  | zero => intro b x; simp [cnt]
  | succ a ih =>
    intro b x
    rw [show a + 1 + b = (a + b) + 1 by omega]
    show x % 2 + cnt (a + b) (x / 2) = x % 2 + cnt a (x / 2) + cnt b (x / 2 ^ (a + 1))
    rw [ih, Nat.div_div_eq_div_mul, Nat.pow_succ, Nat.mul_comm 2]
    omega
theorem cnt_mod (a : Nat) : ∀ x, cnt a (x % 2 ^ a) = cnt a x := by
  induction a with
  | zero => intro x; rfl
  | succ a ih =>
    intro x
    show x % 2 ^ (a + 1) % 2 + cnt a (x % 2 ^ (a + 1) / 2) = x % 2 + cnt a (x / 2)
    have h1 : x % 2 ^ (a + 1) / 2 = (x / 2) % 2 ^ a := by rw [Nat.pow_succ, Nat.mul_comm, Nat.mod_mul_right_div_self]
    have h2 : x % 2 ^ (a + 1) % 2 = x % 2 := Nat.mod_mod_of_dvd _ ⟨2 ^ a, by rw [Nat.pow_succ, Nat.mul_comm]⟩
    rw [h1, h2, ih]
theorem cnt_byte (n x : Nat) : cnt (8 + n) x = cnt 8 (x % 256) + cnt n (x / 256) := by
  rw [cnt_add, ← cnt_mod 8 x]

theorem and_parts (a b c d : Nat) (ha : a < 256) (hc : c < 256) : (a + 256 * b) &&& (c + 256 * d) = (a &&& c) + 256 * (b &&& d) := by
  have hac : a &&& c < 2 ^ 8 := Nat.lt_of_le_of_lt Nat.and_le_left ha
  apply Nat.eq_of_testBit_eq
  intro i
  rw [Nat.testBit_and, Nat.add_comm a, Nat.add_comm c, Nat.add_comm (a &&& c), show (256 : Nat) = 2 ^ 8 from rfl, Nat.testBit_two_pow_mul_add _ ha, Nat.testBit_two_pow_mul_add _ hc, Nat.testBit_two_pow_mul_add _ hac]
  by_cases h : i < 8 <;> simp [h, Nat.testBit_and]
def rep (m : Nat) : Nat → Nat
  | 0 => 0
  | n + 1 => m + 256 * rep m n
theorem byte_parts (x : Nat) : x = x % 256 + 256 * (x / 256) := by omega
/-- The first sum, byte by byte. -/
def s1 (n x : Nat) : Nat := (x / 2 &&& rep 85 n) + (x &&& rep 85 n)
def s2 (n x : Nat) : Nat := (x / 4 &&& rep 51 n) + (x &&& rep 51 n)
def s3 (n x : Nat) : Nat := (x / 16 + x) &&& rep 15 n
theorem half_mask : ∀ a, a < 256 → ∀ b, b < 2 → (a / 2 + 128 * b) &&& 85 = a / 2 &&& 85 := by decide +kernel
theorem quarter_mask : ∀ a, a < 256 → ∀ b, b < 4 → (a / 4 + 64 * b) &&& 51 = a / 4 &&& 51 := by decide +kernel
theorem b1 : ∀ a, a < 256 → (a / 2 &&& 85) + (a &&& 85) < 256 := by decide +kernel
theorem b2 : ∀ a, a < 256 → (a / 4 &&& 51) + (a &&& 51) < 256 := by decide +kernel
theorem s1_step (n x : Nat) : s1 (n + 1) x = ((x % 256 / 2 &&& 85) + (x % 256 &&& 85)) + 256 * s1 n (x / 256) := by
  unfold s1
  have e1 : x / 2 = (x % 256 / 2 + 128 * (x / 256 % 2)) + 256 * (x / 256 / 2) := by omega
  have h1 : x / 2 &&& rep 85 (n + 1) = (x % 256 / 2 &&& 85) + 256 * (x / 256 / 2 &&& rep 85 n) := by
    rw [e1]
    show _ &&& (85 + 256 * rep 85 n) = _
    rw [and_parts _ _ _ _ (by omega) (by decide), half_mask _ (by omega) _ (by omega)]
  have h2 : x &&& rep 85 (n + 1) = (x % 256 &&& 85) + 256 * (x / 256 &&& rep 85 n) := by
    conv => lhs; rw [byte_parts x]
    show _ &&& (85 + 256 * rep 85 n) = _
    rw [and_parts _ _ _ _ (by omega) (by decide)]
  rw [h1, h2]
  omega
theorem s2_step (n x : Nat) : s2 (n + 1) x = ((x % 256 / 4 &&& 51) + (x % 256 &&& 51)) + 256 * s2 n (x / 256) := by
  unfold s2
  have e1 : x / 4 = (x % 256 / 4 + 64 * (x / 256 % 4)) + 256 * (x / 256 / 4) := by omega
  have h1 : x / 4 &&& rep 51 (n + 1) = (x % 256 / 4 &&& 51) + 256 * (x / 256 / 4 &&& rep 51 n) := by
    rw [e1]
    show _ &&& (51 + 256 * rep 51 n) = _
    rw [and_parts _ _ _ _ (by omega) (by decide), quarter_mask _ (by omega) _ (by omega)]
  have h2 : x &&& rep 51 (n + 1) = (x % 256 &&& 51) + 256 * (x / 256 &&& rep 51 n) := by
    conv => lhs; rw [byte_parts x]
    show _ &&& (51 + 256 * rep 51 n) = _
    rw [and_parts _ _ _ _ (by omega) (by decide)]
  rw [h1, h2]
  omega
/-- Both halves of each byte are at most 4. -/
def small4 : Nat → Nat → Prop
  | 0, _ => True
  | n + 1, x => x % 256 / 16 ≤ 4 ∧ x % 16 ≤ 4 ∧ small4 n (x / 256)
theorem and15 (a : Nat) : a &&& 15 = a % 16 := Nat.and_two_pow_sub_one_eq_mod a 4
theorem s3_step (n x : Nat) (h : x % 256 / 16 ≤ 4 ∧ x % 16 ≤ 4 ∧ x / 256 % 16 ≤ 4) : s3 (n + 1) x = (x % 256 / 16 + x % 16) + 256 * s3 n (x / 256) := by
  unfold s3
  have e1 : x / 16 + x = (x % 256 / 16 + x % 256 + 16 * (x / 256 % 16)) + 256 * (x / 256 / 16 + x / 256) := by omega
  rw [e1]
  show _ &&& (15 + 256 * rep 15 n) = _
  rw [and_parts _ _ _ _ (by omega) (by decide), and15]
  omega
theorem byte_count : ∀ a, a < 256 → (let u := (a / 2 &&& 85) + (a &&& 85); let v := (u / 4 &&& 51) + (u &&& 51); v < 256 ∧ v / 16 ≤ 4 ∧ v % 16 ≤ 4 ∧ v / 16 + v % 16 = cnt 8 a ∧ cnt 8 a ≤ 8) := by decide +kernel
def oc (n x : Nat) : Nat := s3 n (s2 n (s1 n x))
theorem s2_low (n x : Nat) : s2 n (s1 n x) % 16 ≤ 4 := by
  rcases n with _ | n
  · have h1 : s1 0 x = 0 := by unfold s1; show (x / 2 &&& 0) + (x &&& 0) = 0; simp
    rw [h1]
    decide
  · have hb := byte_count (x % 256) (by omega)
    have hu := b1 (x % 256) (by omega)
    rw [s2_step, s1_step]
    obtain ⟨u, hu'⟩ : ∃ u, u = (x % 256 / 2 &&& 85) + (x % 256 &&& 85) := ⟨_, rfl⟩
    rw [← hu'] at hu hb ⊢
    have e : (u + 256 * s1 n (x / 256)) % 256 = u := by omega
    rw [e]
    simp only at hb
    obtain ⟨_, _, k3, _⟩ := hb
    omega
theorem oc_step (n x : Nat) : oc (n + 1) x = cnt 8 (x % 256) + 256 * oc n (x / 256) ∧ cnt 8 (x % 256) ≤ 8 := by
  unfold oc
  obtain ⟨u, hu⟩ : ∃ u, u = (x % 256 / 2 &&& 85) + (x % 256 &&& 85) := ⟨_, rfl⟩
  obtain ⟨v, hv⟩ : ∃ v, v = (u / 4 &&& 51) + (u &&& 51) := ⟨_, rfl⟩
  have hb := byte_count (x % 256) (by omega)
  simp only [← hu, ← hv] at hb
  obtain ⟨k1, k2, k3, k4, k5⟩ := hb
  refine ⟨?_, k5⟩
  have hu1 : u < 256 := by rw [hu]; exact b1 _ (by omega)
  have e1 : s1 (n + 1) x = u + 256 * s1 n (x / 256) := by rw [s1_step, ← hu]
  have m1 : s1 (n + 1) x % 256 = u := by omega
  have d1 : s1 (n + 1) x / 256 = s1 n (x / 256) := by omega
  have e2 : s2 (n + 1) (s1 (n + 1) x) = v + 256 * s2 n (s1 n (x / 256)) := by rw [s2_step, m1, d1, ← hv]
  have m2 : s2 (n + 1) (s1 (n + 1) x) % 256 = v := by omega
  have m3 : s2 (n + 1) (s1 (n + 1) x) % 16 = v % 16 := by omega
  have d2 : s2 (n + 1) (s1 (n + 1) x) / 256 = s2 n (s1 n (x / 256)) := by omega
  have hnext := s2_low n (x / 256)
  rw [s3_step _ _ ⟨by rw [m2]; exact k2, by rw [m3]; exact k3, by rw [d2]; exact hnext⟩, m2, m3, d2, k4]
theorem s2_small (n : Nat) : ∀ x, s2 n (s1 n x) ≤ rep 68 n := by
  induction n with
  | zero => intro x; show (s1 0 x / 4 &&& 0) + (s1 0 x &&& 0) ≤ 0; simp
  | succ n ih =>
    intro x
    have hb := byte_count (x % 256) (by omega)
    have hu := b1 (x % 256) (by omega)
    have := ih (x / 256)
    rw [s2_step, s1_step]
    show _ ≤ 68 + 256 * rep 68 n
    obtain ⟨u, hu'⟩ : ∃ u, u = (x % 256 / 2 &&& 85) + (x % 256 &&& 85) := ⟨_, rfl⟩
    rw [← hu'] at hu hb ⊢
    have e : (u + 256 * s1 n (x / 256)) % 256 = u := by omega
    have e' : (u + 256 * s1 n (x / 256)) / 256 = s1 n (x / 256) := by omega
    rw [e, e']
    simp only at hb
    obtain ⟨_, k2, k3, _⟩ := hb
    omega
theorem s1_lt (n : Nat) : ∀ x, x < 256 ^ n → s1 n x < 256 ^ n := by
  induction n with
  | zero => intro x h; have : x = 0 := by simpa using h
            subst this; decide
  | succ n ih =>
    intro x h
    rw [Nat.pow_succ] at h ⊢
    have := ih (x / 256) (Nat.div_lt_of_lt_mul (by rw [Nat.mul_comm]; exact h))
    have := b1 (x % 256) (by omega)
    rw [s1_step]
    omega
theorem s2_lt (n : Nat) : ∀ x, x < 256 ^ n → s2 n x < 256 ^ n := by
  induction n with
  | zero => intro x h; have : x = 0 := by simpa using h
            subst this; decide
  | succ n ih =>
    intro x h
    rw [Nat.pow_succ] at h ⊢
    have := ih (x / 256) (Nat.div_lt_of_lt_mul (by rw [Nat.mul_comm]; exact h))
    have := b2 (x % 256) (by omega)
    rw [s2_step]
    omega
theorem dq {a p A : Nat} (e : a = p + 256 * A) (h : p < 256) : a / 256 = A := by omega
theorem addq {a b p q A B : Nat} (ha : a = p + 256 * A) (hb : b = q + 256 * B) : a + b = (p + q) + 256 * (A + B) := by omega
theorem bq {a p A K : Nat} (e : a = p + 256 * A) (h : p ≤ 8) (hA : A ≤ K) : a ≤ 8 + 256 * K := by omega
theorem mq {a p A : Nat} (e : a = p + 256 * A) (h : p < 128) : a % 128 = p := by omega
/-- The last three sums and the mask: A the digits to the base 256 from the k-th on. -/
theorem swar (A0 A1 A2 A3 A4 A5 A6 A7 p0 p1 p2 p3 p4 p5 p6 p7 : Nat) (h0 : p0 ≤ 8) (h1 : p1 ≤ 8) (h2 : p2 ≤ 8) (h3 : p3 ≤ 8) (h4 : p4 ≤ 8) (h5 : p5 ≤ 8) (h6 : p6 ≤ 8) (h7 : p7 ≤ 8)
    (e0 : A0 = p0 + 256 * A1) (e1 : A1 = p1 + 256 * A2) (e2 : A2 = p2 + 256 * A3) (e3 : A3 = p3 + 256 * A4) (e4 : A4 = p4 + 256 * A5) (e5 : A5 = p5 + 256 * A6) (e6 : A6 = p6 + 256 * A7) (e7 : A7 = p7 + 256 * 0) :
    A0 < 18446744073709551616 ∧ A0 + A0 / 256 < 18446744073709551616 ∧ (A0 + A0 / 256) + (A0 + A0 / 256) / 65536 < 18446744073709551616 ∧
    ((A0 + A0 / 256) + (A0 + A0 / 256) / 65536) + ((A0 + A0 / 256) + (A0 + A0 / 256) / 65536) / 4294967296 < 18446744073709551616 ∧
    (((A0 + A0 / 256) + (A0 + A0 / 256) / 65536) + ((A0 + A0 / 256) + (A0 + A0 / 256) / 65536) / 4294967296) % 128 = p0 + p1 + p2 + p3 + p4 + p5 + p6 + p7 := by
  have b7 := bq e7 h7 (Nat.le_refl 0)
  have b6 := bq e6 h6 b7
  have b5 := bq e5 h5 b6
  have b4 := bq e4 h4 b5
  have b3 := bq e3 h3 b4
  have b2 := bq e2 h2 b3
  have b1 := bq e1 h1 b2
  have b0 := bq e0 h0 b1
  have q0 : p0 + p1 < 256 := by clear e0 e1 e2 e3 e4 e5 e6 e7 b0 b1 b2 b3 b4 b5 b6 b7; omega
  have q1 : p1 + p2 < 256 := by clear e0 e1 e2 e3 e4 e5 e6 e7 b0 b1 b2 b3 b4 b5 b6 b7; omega
  have r0 : p0 + p1 + (p2 + p3) < 256 := by clear e0 e1 e2 e3 e4 e5 e6 e7 b0 b1 b2 b3 b4 b5 b6 b7; omega
  have r1 : p1 + p2 + (p3 + p4) < 256 := by clear e0 e1 e2 e3 e4 e5 e6 e7 b0 b1 b2 b3 b4 b5 b6 b7; omega
  have r2 : p2 + p3 + (p4 + p5) < 256 := by clear e0 e1 e2 e3 e4 e5 e6 e7 b0 b1 b2 b3 b4 b5 b6 b7; omega
  have r3 : p3 + p4 + (p5 + p6) < 256 := by clear e0 e1 e2 e3 e4 e5 e6 e7 b0 b1 b2 b3 b4 b5 b6 b7; omega
  have l0 : p0 + p1 + (p2 + p3) + (p4 + p5 + (p6 + p7)) < 128 := by clear e0 e1 e2 e3 e4 e5 e6 e7 b0 b1 b2 b3 b4 b5 b6 b7; omega
  have d0 : A0 / 256 = A1 := dq e0 (Nat.lt_of_le_of_lt h0 (by decide))
  rw [d0]
  have B0 := addq e0 e1
  have B1 := addq e1 e2
  have B2 := addq e2 e3
  have B3 := addq e3 e4
  have B4 := addq e4 e5
  have B5 := addq e5 e6
  have B6 := addq e6 e7
  have d1 : (A0 + A1) / 65536 = A2 + A3 := by rw [show (65536 : Nat) = 256 * 256 from rfl, ← Nat.div_div_eq_div_mul, dq B0 q0, dq B1 q1]
  rw [d1]
  have C0 := addq B0 B2
  have C1 := addq B1 B3
  have C2 := addq B2 B4
  have C3 := addq B3 B5
  have C4 := addq B4 B6
  have d2 : (A0 + A1 + (A2 + A3)) / 4294967296 = A4 + A5 + (A6 + A7) := by rw [show (4294967296 : Nat) = 256 * 256 * 256 * 256 from rfl, ← Nat.div_div_eq_div_mul, ← Nat.div_div_eq_div_mul, ← Nat.div_div_eq_div_mul, dq C0 r0, dq C1 r1, dq C2 r2, dq C3 r3]
  rw [d2]
  refine ⟨Nat.lt_of_le_of_lt b0 (by decide), Nat.lt_of_le_of_lt (Nat.add_le_add b0 b1) (by decide), Nat.lt_of_le_of_lt (Nat.add_le_add (Nat.add_le_add b0 b1) (Nat.add_le_add b2 b3)) (by decide), Nat.lt_of_le_of_lt (Nat.add_le_add (Nat.add_le_add (Nat.add_le_add b0 b1) (Nat.add_le_add b2 b3)) (Nat.add_le_add (Nat.add_le_add b4 b5) (Nat.add_le_add b6 b7))) (by decide), ?_⟩
  rw [mq (addq C0 C4) l0]
  simp only [Nat.add_assoc]
theorem oc_sum (x : Nat) (y : Nat) (hy : y = oc 8 x) : y < 18446744073709551616 ∧ y + y / 256 < 18446744073709551616 ∧ (y + y / 256) + (y + y / 256) / 65536 < 18446744073709551616 ∧
    ((y + y / 256) + (y + y / 256) / 65536) + ((y + y / 256) + (y + y / 256) / 65536) / 4294967296 < 18446744073709551616 ∧
    (((y + y / 256) + (y + y / 256) / 65536) + ((y + y / 256) + (y + y / 256) / 65536) / 4294967296) % 128 = cnt 64 x := by
  obtain ⟨x1, hx1⟩ : ∃ x1, x1 = x / 256 := ⟨_, rfl⟩
  obtain ⟨x2, hx2⟩ : ∃ x2, x2 = x1 / 256 := ⟨_, rfl⟩
  obtain ⟨x3, hx3⟩ : ∃ x3, x3 = x2 / 256 := ⟨_, rfl⟩
  obtain ⟨x4, hx4⟩ : ∃ x4, x4 = x3 / 256 := ⟨_, rfl⟩
  obtain ⟨x5, hx5⟩ : ∃ x5, x5 = x4 / 256 := ⟨_, rfl⟩
  obtain ⟨x6, hx6⟩ : ∃ x6, x6 = x5 / 256 := ⟨_, rfl⟩
  obtain ⟨x7, hx7⟩ : ∃ x7, x7 = x6 / 256 := ⟨_, rfl⟩
  have c7 : oc 8 x = _ ∧ _ := oc_step 7 x
  have c6 : oc 7 x1 = _ ∧ _ := oc_step 6 x1
  have c5 : oc 6 x2 = _ ∧ _ := oc_step 5 x2
  have c4 : oc 5 x3 = _ ∧ _ := oc_step 4 x3
  have c3 : oc 4 x4 = _ ∧ _ := oc_step 3 x4
  have c2 : oc 3 x5 = _ ∧ _ := oc_step 2 x5
  have c1 : oc 2 x6 = _ ∧ _ := oc_step 1 x6
  have c0 : oc 1 x7 = _ ∧ _ := oc_step 0 x7
  have z : oc 0 (x7 / 256) = 0 := Nat.and_zero _
  have k7 : cnt 64 x = cnt 8 (x % 256) + cnt 56 (x / 256) := cnt_byte 56 x
  have k6 : cnt 56 x1 = cnt 8 (x1 % 256) + cnt 48 (x1 / 256) := cnt_byte 48 x1
  have k5 : cnt 48 x2 = cnt 8 (x2 % 256) + cnt 40 (x2 / 256) := cnt_byte 40 x2
  have k4 : cnt 40 x3 = cnt 8 (x3 % 256) + cnt 32 (x3 / 256) := cnt_byte 32 x3
  have k3 : cnt 32 x4 = cnt 8 (x4 % 256) + cnt 24 (x4 / 256) := cnt_byte 24 x4
  have k2 : cnt 24 x5 = cnt 8 (x5 % 256) + cnt 16 (x5 / 256) := cnt_byte 16 x5
  have k1 : cnt 16 x6 = cnt 8 (x6 % 256) + cnt 8 (x6 / 256) := cnt_byte 8 x6
  have k0 : cnt 8 (x7 % 256) = cnt 8 x7 := cnt_mod 8 x7
  rw [← hx1] at c7 k7
  rw [← hx2] at c6 k6
  rw [← hx3] at c5 k5
  rw [← hx4] at c4 k4
  rw [← hx5] at c3 k3
  rw [← hx6] at c2 k2
  rw [← hx7] at c1 k1
  rw [z] at c0
  rw [← k0] at k1
  rw [← hy] at c7
  have key := swar y _ _ _ _ _ _ _ _ _ _ _ _ _ _ _ c7.2 c6.2 c5.2 c4.2 c3.2 c2.2 c1.2 c0.2 c7.1 c6.1 c5.1 c4.1 c3.1 c2.1 c1.1 c0.1
  rw [k7, k6, k5, k4, k3, k2, k1]
  rw [← Nat.add_assoc, ← Nat.add_assoc, ← Nat.add_assoc, ← Nat.add_assoc, ← Nat.add_assoc, ← Nat.add_assoc]
  exact key
end Go.Proofs.YtbacadamdghiaaaDoor
