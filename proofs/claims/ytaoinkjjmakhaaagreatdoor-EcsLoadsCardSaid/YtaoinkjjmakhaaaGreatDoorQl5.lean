/- BitsP, BitsTz, BitsCo, BitsO, BitsWo, BitsLi, TbP1, TbP2, Grow -/
import Derived.Test.YtaoinkjjmakhaaaGreatDoorQl1
import Derived.Test.YtaoinkjjmakhaaaGreatDoorQl2
import Derived.Test.YtaoinkjjmakhaaaGreatDoorQl4
import Derived.Laws.BitsAllLaws
import Derived.Laws.Bits128
import Derived.Deep.WholeRow
import Derived.BigQuiet
import Derived.Deep.QuietTactic
namespace Go.Proofs.YtaoinkjjmakhaaaGreatDoor
def cnt : Nat -> Nat -> Nat
  | 0, _ => 0
  | n + 1, x => x % 2 + cnt n (x / 2)
theorem cnt_list (n : Nat) : ∀ x, ((List.range n).filter fun i => x.testBit i).length = cnt n x := by
  induction n with
  | zero => intro x; rfl
  | succ n ih =>
    intro x
    rw [List.range_succ_eq_map, List.filter_cons]
    have hm : ((List.map Nat.succ (List.range n)).filter fun i => x.testBit i).length = cnt n (x / 2) := by
      rw [<- ih, List.filter_map, List.length_map]
      congr 1
      exact List.filter_congr fun i _ => by simp [Nat.testBit_succ]
    unfold cnt
    rw [Nat.testBit_zero]
    by_cases h : x % 2 = 1
    · simp only [h, decide_true, if_true, List.length_cons, hm]
      omega
    · have : x % 2 = 0 := by omega
      simp only [this, Nat.zero_add]
      simpa using hm
theorem listN_len (s : Nat) : (listN s).length = cnt 64 s := cnt_list 64 s
theorem cnt_add (a : Nat) : ∀ b x, cnt (a + b) x = cnt a x + cnt b (x / 2 ^ a) := by
  induction a with
  | zero => intro b x; simp [cnt]
  | succ a ih =>
    intro b x
    rw [show a + 1 + b = (a + b) + 1 by omega]
    show x % 2 + cnt (a + b) (x / 2) = x % 2 + cnt a (x / 2) + cnt b (x / 2 ^ (a + 1))
    rw [ih, Nat.div_div_eq_div_mul, Nat.pow_succ, Nat.mul_comm 2]
    omega
theorem cnt_mod (a : Nat) : ∀ x, cnt a (x % 2 ^ a) = cnt a x := by
  induction a with
  | zero => intro x; rfl
  | succ a ih =>
    intro x
    show x % 2 ^ (a + 1) % 2 + cnt a (x % 2 ^ (a + 1) / 2) = x % 2 + cnt a (x / 2)
    have h1 : x % 2 ^ (a + 1) / 2 = (x / 2) % 2 ^ a := by rw [Nat.pow_succ, Nat.mul_comm, Nat.mod_mul_right_div_self]
    have h2 : x % 2 ^ (a + 1) % 2 = x % 2 := Nat.mod_mod_of_dvd _ ⟨2 ^ a, by rw [Nat.pow_succ, Nat.mul_comm]⟩
    rw [h1, h2, ih]
theorem cnt_byte (n x : Nat) : cnt (8 + n) x = cnt 8 (x % 256) + cnt n (x / 256) := by
  rw [cnt_add, <- cnt_mod 8 x]
theorem and_parts (a b c d : Nat) (ha : a < 256) (hc : c < 256) : (a + 256 * b) &&& (c + 256 * d) = (a &&& c) + 256 * (b &&& d) := by
  have hac : a &&& c < 2 ^ 8 := Nat.lt_of_le_of_lt Nat.and_le_left ha
  apply Nat.eq_of_testBit_eq
  intro i
  rw [Nat.testBit_and, Nat.add_comm a, Nat.add_comm c, Nat.add_comm (a &&& c), show (256 : Nat) = 2 ^ 8 from rfl, Nat.testBit_two_pow_mul_add _ ha, Nat.testBit_two_pow_mul_add _ hc, Nat.testBit_two_pow_mul_add _ hac]
  by_cases h : i < 8 <;> simp [h, Nat.testBit_and]
def rep (m : Nat) : Nat -> Nat
  | 0 => 0
  | n + 1 => m + 256 * rep m n
theorem byte_parts (x : Nat) : x = x % 256 + 256 * (x / 256) := by omega
def s1 (n x : Nat) : Nat := (x / 2 &&& rep 85 n) + (x &&& rep 85 n)
def s2 (n x : Nat) : Nat := (x / 4 &&& rep 51 n) + (x &&& rep 51 n)
def s3 (n x : Nat) : Nat := (x / 16 + x) &&& rep 15 n
theorem half_mask : ∀ a, a < 256 -> ∀ b, b < 2 -> (a / 2 + 128 * b) &&& 85 = a / 2 &&& 85 := by decide +kernel
theorem quarter_mask : ∀ a, a < 256 -> ∀ b, b < 4 -> (a / 4 + 64 * b) &&& 51 = a / 4 &&& 51 := by decide +kernel
theorem b1 : ∀ a, a < 256 -> (a / 2 &&& 85) + (a &&& 85) < 256 := by decide +kernel
theorem b2 : ∀ a, a < 256 -> (a / 4 &&& 51) + (a &&& 51) < 256 := by decide +kernel
theorem s1_step (n x : Nat) : s1 (n + 1) x = ((x % 256 / 2 &&& 85) + (x % 256 &&& 85)) + 256 * s1 n (x / 256) := by
  unfold s1
  have e1 : x / 2 = (x % 256 / 2 + 128 * (x / 256 % 2)) + 256 * (x / 256 / 2) := by omega
  have h1 : x / 2 &&& rep 85 (n + 1) = (x % 256 / 2 &&& 85) + 256 * (x / 256 / 2 &&& rep 85 n) := by
    rw [e1]
    show _ &&& (85 + 256 * rep 85 n) = _
    rw [and_parts _ _ _ _ (by omega) (by decide), half_mask _ (by omega) _ (by omega)]
  have h2 : x &&& rep 85 (n + 1) = (x % 256 &&& 85) + 256 * (x / 256 &&& rep 85 n) := by
    conv => lhs; rw [byte_parts x]
    show _ &&& (85 + 256 * rep 85 n) = _
    rw [and_parts _ _ _ _ (by omega) (by decide)]
  rw [h1, h2]
  omega
theorem s2_step (n x : Nat) : s2 (n + 1) x = ((x % 256 / 4 &&& 51) + (x % 256 &&& 51)) + 256 * s2 n (x / 256) := by
  unfold s2
  have e1 : x / 4 = (x % 256 / 4 + 64 * (x / 256 % 4)) + 256 * (x / 256 / 4) := by omega
  have h1 : x / 4 &&& rep 51 (n + 1) = (x % 256 / 4 &&& 51) + 256 * (x / 256 / 4 &&& rep 51 n) := by
    rw [e1]
    show _ &&& (51 + 256 * rep 51 n) = _
    rw [and_parts _ _ _ _ (by omega) (by decide), quarter_mask _ (by omega) _ (by omega)]
  have h2 : x &&& rep 51 (n + 1) = (x % 256 &&& 51) + 256 * (x / 256 &&& rep 51 n) := by
    conv => lhs; rw [byte_parts x]
    show _ &&& (51 + 256 * rep 51 n) = _
    rw [and_parts _ _ _ _ (by omega) (by decide)]
  rw [h1, h2]
  omega
theorem and15 (a : Nat) : a &&& 15 = a % 16 := Nat.and_two_pow_sub_one_eq_mod a 4
theorem s3_step (n x : Nat) (h : x % 256 / 16 <= 4 /\ x % 16 <= 4 /\ x / 256 % 16 <= 4) : s3 (n + 1) x = (x % 256 / 16 + x % 16) + 256 * s3 n (x / 256) := by
  unfold s3
  have e1 : x / 16 + x = (x % 256 / 16 + x % 256 + 16 * (x / 256 % 16)) + 256 * (x / 256 / 16 + x / 256) := by omega
  rw [e1]
  show _ &&& (15 + 256 * rep 15 n) = _
  rw [and_parts _ _ _ _ (by omega) (by decide), and15]
  omega
theorem byte_count : ∀ a, a < 256 -> (let u := (a / 2 &&& 85) + (a &&& 85); let v := (u / 4 &&& 51) + (u &&& 51); v < 256 /\ v / 16 <= 4 /\ v % 16 <= 4 /\ v / 16 + v % 16 = cnt 8 a /\ cnt 8 a <= 8) := by decide +kernel
def oc (n x : Nat) : Nat := s3 n (s2 n (s1 n x))
theorem s2_low (n x : Nat) : s2 n (s1 n x) % 16 <= 4 := by
  rcases n with _ | n
  · have h1 : s1 0 x = 0 := by unfold s1; show (x / 2 &&& 0) + (x &&& 0) = 0; simp
    rw [h1]
    decide
  · have hb := byte_count (x % 256) (by omega)
    have hu := b1 (x % 256) (by omega)
    rw [s2_step, s1_step]
    obtain ⟨u, hu'⟩ : ∃ u, u = (x % 256 / 2 &&& 85) + (x % 256 &&& 85) := ⟨_, rfl⟩
    rw [<- hu'] at hu hb ⊢
    have e : (u + 256 * s1 n (x / 256)) % 256 = u := by omega
    rw [e]
    simp only at hb
    obtain ⟨_, _, k3, _⟩ := hb
    omega
theorem oc_step (n x : Nat) : oc (n + 1) x = cnt 8 (x % 256) + 256 * oc n (x / 256) /\ cnt 8 (x % 256) <= 8 := by
  unfold oc
  obtain ⟨u, hu⟩ : ∃ u, u = (x % 256 / 2 &&& 85) + (x % 256 &&& 85) := ⟨_, rfl⟩
  obtain ⟨v, hv⟩ : ∃ v, v = (u / 4 &&& 51) + (u &&& 51) := ⟨_, rfl⟩
  have hb := byte_count (x % 256) (by omega)
  simp only [<- hu, <- hv] at hb
  obtain ⟨k1, k2, k3, k4, k5⟩ := hb
  refine ⟨?_, k5⟩
  have hu1 : u < 256 := by rw [hu]; exact b1 _ (by omega)
  have e1 : s1 (n + 1) x = u + 256 * s1 n (x / 256) := by rw [s1_step, <- hu]
  have m1 : s1 (n + 1) x % 256 = u := by omega
  have d1 : s1 (n + 1) x / 256 = s1 n (x / 256) := by omega
  have e2 : s2 (n + 1) (s1 (n + 1) x) = v + 256 * s2 n (s1 n (x / 256)) := by rw [s2_step, m1, d1, <- hv]
  have m2 : s2 (n + 1) (s1 (n + 1) x) % 256 = v := by omega
  have m3 : s2 (n + 1) (s1 (n + 1) x) % 16 = v % 16 := by omega
  have d2 : s2 (n + 1) (s1 (n + 1) x) / 256 = s2 n (s1 n (x / 256)) := by omega
  have hnext := s2_low n (x / 256)
  rw [s3_step _ _ ⟨by rw [m2]; exact k2, by rw [m3]; exact k3, by rw [d2]; exact hnext⟩, m2, m3, d2, k4]
theorem s2_small (n : Nat) : ∀ x, s2 n (s1 n x) <= rep 68 n := by
  induction n with
  | zero => intro x; show (s1 0 x / 4 &&& 0) + (s1 0 x &&& 0) <= 0; simp
  | succ n ih =>
    intro x
    have hb := byte_count (x % 256) (by omega)
    have hu := b1 (x % 256) (by omega)
    have := ih (x / 256)
    rw [s2_step, s1_step]
    show _ <= 68 + 256 * rep 68 n
    obtain ⟨u, hu'⟩ : ∃ u, u = (x % 256 / 2 &&& 85) + (x % 256 &&& 85) := ⟨_, rfl⟩
    rw [<- hu'] at hu hb ⊢
    have e : (u + 256 * s1 n (x / 256)) % 256 = u := by omega
    have e' : (u + 256 * s1 n (x / 256)) / 256 = s1 n (x / 256) := by omega
    rw [e, e']
    simp only at hb
    obtain ⟨_, k2, k3, _⟩ := hb
    omega
theorem s1_lt (n : Nat) : ∀ x, x < 256 ^ n -> s1 n x < 256 ^ n := by
  induction n with
  | zero => intro x h; have : x = 0 := by simpa using h
            subst this; decide
  | succ n ih =>
    intro x h
    rw [Nat.pow_succ] at h ⊢
    have := ih (x / 256) (Nat.div_lt_of_lt_mul (by rw [Nat.mul_comm]; exact h))
    have := b1 (x % 256) (by omega)
    rw [s1_step]
    omega
theorem dq {a p A : Nat} (e : a = p + 256 * A) (h : p < 256) : a / 256 = A := by omega
theorem addq {a b p q A B : Nat} (ha : a = p + 256 * A) (hb : b = q + 256 * B) : a + b = (p + q) + 256 * (A + B) := by omega
theorem bq {a p A K : Nat} (e : a = p + 256 * A) (h : p <= 8) (hA : A <= K) : a <= 8 + 256 * K := by omega
theorem mq {a p A : Nat} (e : a = p + 256 * A) (h : p < 128) : a % 128 = p := by omega
theorem swar (A0 A1 A2 A3 A4 A5 A6 A7 p0 p1 p2 p3 p4 p5 p6 p7 : Nat) (h0 : p0 <= 8) (h1 : p1 <= 8) (h2 : p2 <= 8) (h3 : p3 <= 8) (h4 : p4 <= 8) (h5 : p5 <= 8) (h6 : p6 <= 8) (h7 : p7 <= 8)
    (e0 : A0 = p0 + 256 * A1) (e1 : A1 = p1 + 256 * A2) (e2 : A2 = p2 + 256 * A3) (e3 : A3 = p3 + 256 * A4) (e4 : A4 = p4 + 256 * A5) (e5 : A5 = p5 + 256 * A6) (e6 : A6 = p6 + 256 * A7) (e7 : A7 = p7 + 256 * 0) :
    A0 < 18446744073709551616 /\ A0 + A0 / 256 < 18446744073709551616 /\ (A0 + A0 / 256) + (A0 + A0 / 256) / 65536 < 18446744073709551616 /\
    ((A0 + A0 / 256) + (A0 + A0 / 256) / 65536) + ((A0 + A0 / 256) + (A0 + A0 / 256) / 65536) / 4294967296 < 18446744073709551616 /\
    (((A0 + A0 / 256) + (A0 + A0 / 256) / 65536) + ((A0 + A0 / 256) + (A0 + A0 / 256) / 65536) / 4294967296) % 128 = p0 + p1 + p2 + p3 + p4 + p5 + p6 + p7 := by
  have b7 := bq e7 h7 (Nat.le_refl 0)
  have b6 := bq e6 h6 b7
  have b5 := bq e5 h5 b6
  have b4 := bq e4 h4 b5
  have b3 := bq e3 h3 b4
  have b2 := bq e2 h2 b3
  have b1 := bq e1 h1 b2
  have b0 := bq e0 h0 b1
  have q0 : p0 + p1 < 256 := by clear e0 e1 e2 e3 e4 e5 e6 e7 b0 b1 b2 b3 b4 b5 b6 b7; omega
  have q1 : p1 + p2 < 256 := by clear e0 e1 e2 e3 e4 e5 e6 e7 b0 b1 b2 b3 b4 b5 b6 b7; omega
  have r0 : p0 + p1 + (p2 + p3) < 256 := by clear e0 e1 e2 e3 e4 e5 e6 e7 b0 b1 b2 b3 b4 b5 b6 b7; omega
  have r1 : p1 + p2 + (p3 + p4) < 256 := by clear e0 e1 e2 e3 e4 e5 e6 e7 b0 b1 b2 b3 b4 b5 b6 b7; omega
  have r2 : p2 + p3 + (p4 + p5) < 256 := by clear e0 e1 e2 e3 e4 e5 e6 e7 b0 b1 b2 b3 b4 b5 b6 b7; omega
  have r3 : p3 + p4 + (p5 + p6) < 256 := by clear e0 e1 e2 e3 e4 e5 e6 e7 b0 b1 b2 b3 b4 b5 b6 b7; omega
  have l0 : p0 + p1 + (p2 + p3) + (p4 + p5 + (p6 + p7)) < 128 := by clear e0 e1 e2 e3 e4 e5 e6 e7 b0 b1 b2 b3 b4 b5 b6 b7; omega
  have d0 : A0 / 256 = A1 := dq e0 (Nat.lt_of_le_of_lt h0 (by decide))
  rw [d0]
  have B0 := addq e0 e1
  have B1 := addq e1 e2
  have B2 := addq e2 e3
  have B3 := addq e3 e4
  have B4 := addq e4 e5
  have B5 := addq e5 e6
  have B6 := addq e6 e7
  have d1 : (A0 + A1) / 65536 = A2 + A3 := by rw [show (65536 : Nat) = 256 * 256 from rfl, <- Nat.div_div_eq_div_mul, dq B0 q0, dq B1 q1]
  rw [d1]
  have C0 := addq B0 B2
  have C1 := addq B1 B3
  have C2 := addq B2 B4
  have C3 := addq B3 B5
  have C4 := addq B4 B6
  have d2 : (A0 + A1 + (A2 + A3)) / 4294967296 = A4 + A5 + (A6 + A7) := by rw [show (4294967296 : Nat) = 256 * 256 * 256 * 256 from rfl, <- Nat.div_div_eq_div_mul, <- Nat.div_div_eq_div_mul, <- Nat.div_div_eq_div_mul, dq C0 r0, dq C1 r1, dq C2 r2, dq C3 r3]
  rw [d2]
  refine ⟨Nat.lt_of_le_of_lt b0 (by decide), Nat.lt_of_le_of_lt (Nat.add_le_add b0 b1) (by decide), Nat.lt_of_le_of_lt (Nat.add_le_add (Nat.add_le_add b0 b1) (Nat.add_le_add b2 b3)) (by decide), Nat.lt_of_le_of_lt (Nat.add_le_add (Nat.add_le_add (Nat.add_le_add b0 b1) (Nat.add_le_add b2 b3)) (Nat.add_le_add (Nat.add_le_add b4 b5) (Nat.add_le_add b6 b7))) (by decide), ?_⟩
  rw [mq (addq C0 C4) l0]
  simp only [Nat.add_assoc]
theorem oc_sum (x : Nat) (y : Nat) (hy : y = oc 8 x) : y < 18446744073709551616 /\ y + y / 256 < 18446744073709551616 /\ (y + y / 256) + (y + y / 256) / 65536 < 18446744073709551616 /\
    ((y + y / 256) + (y + y / 256) / 65536) + ((y + y / 256) + (y + y / 256) / 65536) / 4294967296 < 18446744073709551616 /\
    (((y + y / 256) + (y + y / 256) / 65536) + ((y + y / 256) + (y + y / 256) / 65536) / 4294967296) % 128 = cnt 64 x := by
  obtain ⟨x1, hx1⟩ : ∃ x1, x1 = x / 256 := ⟨_, rfl⟩
  obtain ⟨x2, hx2⟩ : ∃ x2, x2 = x1 / 256 := ⟨_, rfl⟩
  obtain ⟨x3, hx3⟩ : ∃ x3, x3 = x2 / 256 := ⟨_, rfl⟩
  obtain ⟨x4, hx4⟩ : ∃ x4, x4 = x3 / 256 := ⟨_, rfl⟩
  obtain ⟨x5, hx5⟩ : ∃ x5, x5 = x4 / 256 := ⟨_, rfl⟩
  obtain ⟨x6, hx6⟩ : ∃ x6, x6 = x5 / 256 := ⟨_, rfl⟩
  obtain ⟨x7, hx7⟩ : ∃ x7, x7 = x6 / 256 := ⟨_, rfl⟩
  have c7 : oc 8 x = _ /\ _ := oc_step 7 x
  have c6 : oc 7 x1 = _ /\ _ := oc_step 6 x1
  have c5 : oc 6 x2 = _ /\ _ := oc_step 5 x2
  have c4 : oc 5 x3 = _ /\ _ := oc_step 4 x3
  have c3 : oc 4 x4 = _ /\ _ := oc_step 3 x4
  have c2 : oc 3 x5 = _ /\ _ := oc_step 2 x5
  have c1 : oc 2 x6 = _ /\ _ := oc_step 1 x6
  have c0 : oc 1 x7 = _ /\ _ := oc_step 0 x7
  have z : oc 0 (x7 / 256) = 0 := Nat.and_zero _
  have k7 : cnt 64 x = cnt 8 (x % 256) + cnt 56 (x / 256) := cnt_byte 56 x
  have k6 : cnt 56 x1 = cnt 8 (x1 % 256) + cnt 48 (x1 / 256) := cnt_byte 48 x1
  have k5 : cnt 48 x2 = cnt 8 (x2 % 256) + cnt 40 (x2 / 256) := cnt_byte 40 x2
  have k4 : cnt 40 x3 = cnt 8 (x3 % 256) + cnt 32 (x3 / 256) := cnt_byte 32 x3
  have k3 : cnt 32 x4 = cnt 8 (x4 % 256) + cnt 24 (x4 / 256) := cnt_byte 24 x4
  have k2 : cnt 24 x5 = cnt 8 (x5 % 256) + cnt 16 (x5 / 256) := cnt_byte 16 x5
  have k1 : cnt 16 x6 = cnt 8 (x6 % 256) + cnt 8 (x6 / 256) := cnt_byte 8 x6
  have k0 : cnt 8 (x7 % 256) = cnt 8 x7 := cnt_mod 8 x7
  rw [<- hx1] at c7 k7
  rw [<- hx2] at c6 k6
  rw [<- hx3] at c5 k5
  rw [<- hx4] at c4 k4
  rw [<- hx5] at c3 k3
  rw [<- hx6] at c2 k2
  rw [<- hx7] at c1 k1
  rw [z] at c0
  rw [<- k0] at k1
  rw [<- hy] at c7
  have key := swar y _ _ _ _ _ _ _ _ _ _ _ _ _ _ _ c7.2 c6.2 c5.2 c4.2 c3.2 c2.2 c1.2 c0.2 c7.1 c6.1 c5.1 c4.1 c3.1 c2.1 c1.1 c0.1
  rw [k7, k6, k5, k4, k3, k2, k1]
  rw [<- Nat.add_assoc, <- Nat.add_assoc, <- Nat.add_assoc, <- Nat.add_assoc, <- Nat.add_assoc, <- Nat.add_assoc]
  exact key
end Go.Proofs.YtaoinkjjmakhaaaGreatDoor
namespace Go.Proofs.YtaoinkjjmakhaaaGreatDoor
open Go.RowKit
def TabAt (w : World) : Prop := ∀ j, j < 64 -> w.cell? ⟨0, j, none⟩ = some (.int .u8 ((Lib.deBruijn64tab.getD j 0 : Nat) : Int))
theorem tz_any (x : Nat) (w : World) (hx0 : x ≠ 0) (hx : x < 18446744073709551616) (hT : TabAt w) :
  Calls Tryz.prog 131 #[.int .u64 x] w fun e w' => e = .returned (.int .i64 (Lib.ctz 64 x : Nat)) /\ w = w' := by
 obtain ⟨hlow, hk⟩ := Lib.lowest_bit 64 x hx0 hx
 obtain ⟨hi, htab⟩ := Lib.deBruijn64_at _ hk
 obtain ⟨k, hk'⟩ : ∃ k, k = Lib.ctz 64 x := ⟨_, rfl⟩
 rw [<- hk'] at hlow hk hi htab ⊢
 obtain ⟨i, hi'⟩ : ∃ i, i = 2 ^ k * 285870213051353865 % 18446744073709551616 / 288230376151711744 := ⟨_, rfl⟩
 rw [<- hi'] at hi htab
 have hcell := hT i hi
 rw [htab] at hcell
 have hq : ((x : Int) == 0) = false := by simp; omega
 have key : IntKind.u64.wrap (bits BinOp.and IntKind.u64 (x : Int) (IntKind.u64.wrap (-(x : Int))) * 285870213051353865) / 288230376151711744 = (i : Int) := by
  have e1 : IntKind.u64.wrap (-(x : Int)) = ((18446744073709551616 - x : Nat) : Int) := by rw [IntKind.wrap_u64]; omega
  obtain ⟨a, ha⟩ : ∃ a, a = 2 ^ k := ⟨_, rfl⟩
  rw [<- ha] at hlow hi'
  rw [e1, u64_and_nat x _ hx (by omega), hlow, IntKind.wrap_u64, hi']
  have e2 : (a : Int) * 285870213051353865 = ((a * 285870213051353865 : Nat) : Int) := by rw [Int.natCast_mul]; rfl
  rw [e2]
  obtain ⟨q, hq'⟩ : ∃ q, q = a * 285870213051353865 := ⟨_, rfl⟩
  rw [<- hq']
  clear hlow htab hcell hT ha e1 e2 hq' hi'
  omega
 clear hi' htab hlow hT hk'
 go_enter Tryz.func131, Tryz.ntmps131
 go_wp2_with (simp only [key])
 go_ret
 exact ⟨rfl, rfl⟩
set_option maxRecDepth 10000 in
theorem TabAt.below {w w' : World} (h : TabAt w) (hb : Below w.heap.size w w') : TabAt w' := fun j hj => by
 have h1 := h j hj
 have hlt : 0 < w.heap.size := World.block_lt_of_cell? w _ h1
 exact (hb.cell (p := ⟨0, j, none⟩) hlt).trans h1
end Go.Proofs.YtaoinkjjmakhaaaGreatDoor
namespace Go.Proofs.YtaoinkjjmakhaaaGreatDoor
open Go.RowKit
theorem ones_any (x : Nat) (w : World) (hx : x < 18446744073709551616) :
  Calls Tryz.prog 167 #[.int .u64 x] w fun e w' => e = .returned (.int .i64 (listN x).length) /\ w = w' := by
 have r85 : rep 85 8 = 6148914691236517205 := by decide
 have r51 : rep 51 8 = 3689348814741910323 := by decide
 have r15 : rep 15 8 = 1085102592571150095 := by decide
 have r68 : rep 68 8 = 4919131752989213764 := by decide
 have h1 : s1 8 x < 18446744073709551616 := s1_lt 8 x hx
 have h2 : s2 8 (s1 8 x) <= 4919131752989213764 := r68 ▸ s2_small 8 x
 obtain ⟨y3, hy3⟩ : ∃ y, y = oc 8 x := ⟨_, rfl⟩
 obtain ⟨g3, g4, g5, g6, gc⟩ := oc_sum x y3 hy3
 rw [<- listN_len] at gc
 have k1 : IntKind.u64.wrap (bits BinOp.and IntKind.u64 ((x : Int) / 2) 6148914691236517205 + bits BinOp.and IntKind.u64 (x : Int) 6148914691236517205) = ((s1 8 x : Nat) : Int) := by
  have a1 := u64_and_nat (x / 2) 6148914691236517205 (by omega) (by decide)
  have a2 := u64_and_nat x 6148914691236517205 hx (by decide)
  have e : ((x : Int) / 2) = ((x / 2 : Nat) : Int) := by omega
  have e2 : ((6148914691236517205 : Nat) : Int) = 6148914691236517205 := rfl
  rw [e2] at a1 a2
  rw [e, a1, a2, IntKind.wrap_u64]
  have h1' := h1
  unfold s1 at h1' ⊢
  rw [r85] at h1' ⊢
  omega
 obtain ⟨y1, hy1⟩ : ∃ y, y = s1 8 x := ⟨_, rfl⟩
 rw [<- hy1] at k1 h1 h2
 have k2 : IntKind.u64.wrap (bits BinOp.and IntKind.u64 ((y1 : Int) / 4) 3689348814741910323 + bits BinOp.and IntKind.u64 (y1 : Int) 3689348814741910323) = ((s2 8 y1 : Nat) : Int) := by
  have a1 := u64_and_nat (y1 / 4) 3689348814741910323 (by omega) (by decide)
  have a2 := u64_and_nat y1 3689348814741910323 h1 (by decide)
  have e : ((y1 : Int) / 4) = ((y1 / 4 : Nat) : Int) := by omega
  have e2 : ((3689348814741910323 : Nat) : Int) = 3689348814741910323 := rfl
  rw [e2] at a1 a2
  rw [e, a1, a2, IntKind.wrap_u64]
  unfold s2 at h2 ⊢
  rw [r51] at h2 ⊢
  omega
 obtain ⟨y2, hy2⟩ : ∃ y, y = s2 8 y1 := ⟨_, rfl⟩
 rw [<- hy2] at k2 h2
 have k3 : bits BinOp.and IntKind.u64 (IntKind.u64.wrap ((y2 : Int) / 16 + (y2 : Int))) 1085102592571150095 = (y3 : Int) := by
  have a1 := u64_and_nat (y2 / 16 + y2) 1085102592571150095 (by omega) (by decide)
  have e : IntKind.u64.wrap ((y2 : Int) / 16 + (y2 : Int)) = ((y2 / 16 + y2 : Nat) : Int) := by rw [IntKind.wrap_u64]; omega
  have e2 : ((1085102592571150095 : Nat) : Int) = 1085102592571150095 := rfl
  rw [e2] at a1
  rw [e, a1, hy3]
  unfold oc s3
  rw [<- hy1, <- hy2, r15]
 clear r85 r51 r15 r68 h1 h2 hy1 hy2 hy3
 have k4 : IntKind.u64.wrap ((y3 : Int) + (y3 : Int) / 256) = ((y3 + y3 / 256 : Nat) : Int) := by rw [IntKind.wrap_u64]; omega
 obtain ⟨y4, hy4⟩ : ∃ y, y = y3 + y3 / 256 := ⟨_, rfl⟩
 rw [<- hy4] at k4 g4 g5 g6 gc
 clear hy4
 have k5 : IntKind.u64.wrap ((y4 : Int) + (y4 : Int) / 65536) = ((y4 + y4 / 65536 : Nat) : Int) := by rw [IntKind.wrap_u64]; omega
 obtain ⟨y5, hy5⟩ : ∃ y, y = y4 + y4 / 65536 := ⟨_, rfl⟩
 rw [<- hy5] at k5 g5 g6 gc
 clear hy5
 have k6 : IntKind.u64.wrap ((y5 : Int) + (y5 : Int) / 4294967296) = ((y5 + y5 / 4294967296 : Nat) : Int) := by rw [IntKind.wrap_u64]; omega
 obtain ⟨y6, hy6⟩ : ∃ y, y = y5 + y5 / 4294967296 := ⟨_, rfl⟩
 rw [<- hy6] at k6 g6 gc
 clear hy6
 have k7 : bits BinOp.and IntKind.i64 (wrap64 (y6 : Int)) 127 = ((listN x).length : Int) := by
  rw [<- gc, i64_and127]
  clear k1 k2 k3 k4 k5 k6
  unfold wrap64
  omega
 obtain ⟨c, hc⟩ : ∃ c, c = (listN x).length := ⟨_, rfl⟩
 rw [<- hc] at k7 ⊢
 clear gc hc g3 g4 g5
 go_enter Tryz.func167, Tryz.ntmps167
 go_wp2
 go_ret
 exact ⟨rfl, rfl⟩
theorem BCount_any (x : Nat) (w : World) (hx : x < 18446744073709551616) :
  Calls Tryz.prog 130 #[.int .u64 x] w fun e w' => e = .returned (.int .i64 (listN x).length) /\ w = w' := by
 have C := ones_any x w hx
 go_enter Tryz.func130, Tryz.ntmps130
 go_wp2_with fail
 refine C.mono ?_
 rintro e w' ⟨rfl, rfl⟩
 go_wp2
 go_ret
 exact ⟨rfl, rfl⟩
end Go.Proofs.YtaoinkjjmakhaaaGreatDoor
namespace Go.Proofs.YtaoinkjjmakhaaaGreatDoor
open Go.RowKit
theorem one_ird (w : World) (c : Int) : IRd (w.alloc (.cells #[.int .i64 c] 3)) (some ⟨w.heap.size, 0, none⟩) 1 [c] :=
 ⟨rfl, fun _ => ⟨w.heap.size, 0, rfl, by simp, fun j hj => by
  obtain rfl : j = 0 := by simp at hj; omega
  exact cell_of_row _ _ 0 _ _ _ (heap_alloc_last w _)⟩⟩
theorem Of_any (A : Option Addr) (n c : Nat) (zs : List Int) (w : World) (h : IRd w A n zs) (hn : n <= 1099511627776) :
  Calls Tryz.prog 116 #[.slice A n c] w fun e w' => e = .returned (.int .u64 (orL zs : Nat)) /\ w = w' := by
 have H := hi_ h
 clear h
 go_enter Tryz.func116, Tryz.ntmps116
 go_wp2
 go_loop [3, 8] (fun v i => ∃ j : Nat, j <= n /\ i = .int .i64 j /\ v = .int .u64 (orL (zs.take j) : Nat)) (fun _ i => n - (intOf i).toNat)
 case atStart => exact ⟨0, Nat.zero_le _, rfl, rfl⟩
 case round =>
  obtain ⟨j, hj, rfl, rfl⟩ := hrel
  by_cases hjn : j < n
  ·obtain ⟨b, o, hA, _, hc⟩ := H.out.2 (by omega)
   have hjl : j < zs.length := by rw [H.out.1]; exact hjn
   have k0 := hc j hjl
   obtain ⟨z, hz⟩ : ∃ z, z = zs.getD j 0 := ⟨_, rfl⟩
   rw [<- hz] at k0
   have htk : zs.take (j + 1) = zs.take j ++ [z] := by
    rw [List.take_succ_eq_append_getElem hjl, hz, List.getD, List.getElem?_eq_getElem hjl]
    rfl
   have hs := orL_snoc (zs.take j) z
   rw [<- htk] at hs
   have hlt := orL_lt (zs.take j)
   obtain ⟨s, hs'⟩ : ∃ s, s = orL (zs.take j) := ⟨_, rfl⟩
   obtain ⟨s2, hs2⟩ : ∃ s2, s2 = orL (zs.take (j + 1)) := ⟨_, rfl⟩
   rw [<- hs', <- hs2] at hs
   rw [<- hs'] at hlt ⊢
   subst hA
   clear hc hz htk hs'
   by_cases h0 : 0 <= z
   ·by_cases h1 : z < 64
    ·rw [if_pos ⟨h0, h1⟩] at hs
     have hp := two_lt (c := z.toNat) (by omega)
     have e1 : IntKind.u64.wrap (2 ^ z.toNat) = ((2 ^ z.toNat : Nat) : Int) := by
      rw [IntKind.wrap_u64]
      have : ((2 : Int) ^ z.toNat) = ((2 ^ z.toNat : Nat) : Int) := by simp
      rw [this]
      exact Int.emod_eq_of_lt (Int.natCast_nonneg _) (Int.ofNat_lt.2 hp)
     have e2 := u64_or_nat s (2 ^ z.toNat) hlt hp
     rw [<- hs] at e2
     clear hs
     go_wp2
     go_round
     case rel =>
      have E2 := hi_ e2
      clear e1 e2 hp
      exact ⟨j + 1, hjn, by go_num, by rw [<- hs2, <- E2.out, Int.natCast_pow]; rfl⟩
     case measure => simp [intOf]; omega
    ·rw [if_neg (by omega)] at hs
     rw [hs] at hs2
     go_wp2
     go_round
     case rel => exact ⟨j + 1, hjn, by go_num, by rw [<- hs2]⟩
     case measure => simp [intOf]; omega
   ·rw [if_neg (by omega)] at hs
    rw [hs] at hs2
    go_wp2
    go_round
    case rel => exact ⟨j + 1, hjn, by go_num, by rw [<- hs2]⟩
    case measure => simp [intOf]; omega
  ·obtain rfl : j = n := by omega
   go_wp2
   go_ret
   rw [List.take_of_length_le (by rw [H.out.1]; exact Nat.le_refl _)]
   exact ⟨rfl, rfl⟩
theorem With_any (s : Nat) (c : Int) (w : World) (hs : s < 18446744073709551616) :
  Calls Tryz.prog 122 #[.int .u64 s, .int .i64 c] w fun e w' => e = .returned (.int .u64 (s ||| orL [c] : Nat)) /\ Below w.heap.size w w' := by
 obtain ⟨w1, hw1⟩ : ∃ w1, w1 = w.alloc (.cells #[.int .i64 c] 3) := ⟨_, rfl⟩
 have hB : Below w.heap.size w w1 := by rw [hw1]; exact (Below.refl _ _).alloc (Nat.le_refl _) _
 have C := hi_ (Of_any (some ⟨w.heap.size, 0, none⟩) 1 1 [c] w1 (by rw [hw1]; exact one_ird w c) (by decide))
 have e2 := u64_or_nat s (orL [c]) hs (orL_lt _)
 have HB := hi_ hB
 obtain ⟨o, ho⟩ : ∃ o, o = orL [c] := ⟨_, rfl⟩
 rw [<- ho] at C e2 ⊢
 clear hB ho
 go_enter Tryz.func122, Tryz.ntmps122
 go_wp2_with (rw [<- hw1]; clear hw1)
 refine C.out.mono ?_
 rintro e w' ⟨rfl, rfl⟩
 go_wp2
 go_ret
 exact ⟨rfl, HB.out⟩
end Go.Proofs.YtaoinkjjmakhaaaGreatDoor
namespace Go.Proofs.YtaoinkjjmakhaaaGreatDoor
open Go.RowKit
theorem Without_any (s : Nat) (c : Int) (w : World) (hs : s < 18446744073709551616) :
  Calls Tryz.prog 129 #[.int .u64 s, .int .i64 c] w fun e w' => e = .returned (.int .u64 (butN s (orL [c]) : Nat)) /\ Below w.heap.size w w' := by
 obtain ⟨w1, hw1⟩ : ∃ w1, w1 = w.alloc (.cells #[.int .i64 c] 3) := ⟨_, rfl⟩
 have hB : Below w.heap.size w w1 := by rw [hw1]; exact (Below.refl _ _).alloc (Nat.le_refl _) _
 have C := hi_ (Of_any (some ⟨w.heap.size, 0, none⟩) 1 1 [c] w1 (by rw [hw1]; exact one_ird w c) (by decide))
 have e2 := u64_andNot_nat s (orL [c]) hs (orL_lt _)
 have HB := hi_ hB
 unfold butN
 obtain ⟨o, ho⟩ : ∃ o, o = orL [c] := ⟨_, rfl⟩
 rw [<- ho] at C e2 ⊢
 clear hB ho
 go_enter Tryz.func129, Tryz.ntmps129
 go_wp2_with (rw [<- hw1]; clear hw1)
 refine C.out.mono ?_
 rintro e w' ⟨rfl, rfl⟩
 go_wp2
 go_ret
 exact ⟨rfl, HB.out⟩
end Go.Proofs.YtaoinkjjmakhaaaGreatDoor
namespace Go.Proofs.YtaoinkjjmakhaaaGreatDoor
open Go.RowKit
set_option maxRecDepth 20000
theorem List_any (s : Nat) (w : World) (hs : s < 18446744073709551616) (hT : TabAt w) :
  Calls Tryz.prog 85 #[.int .u64 s] w fun e w' => ∃ v, e = .returned v /\ w'.ownsRow w.heap.size 3 1 v (listN s).length ((listZ s).map (Value.int .i64)) /\ Below w.heap.size w w' := by
 have C := hi_ (BCount_any s w hs)
 have hll : (listN s).length <= 64 := by
  have := List.length_filter_le (fun i => s.testBit i) (List.range 64)
  rw [List.length_range] at this
  exact this
 obtain ⟨i0, hi0, hz0, hz1, hz2⟩ := info_parts intT.info
 have HT := hi_ hT
 clear hT
 go_enter Tryz.func85, Tryz.ntmps85
 go_wp2_with fail
 refine C.out.mono ?_
 rintro e w' ⟨rfl, rfl⟩
 go_wp2_with (at_make; refine wpList_mk _ intT rfl (.const (.int .i64 0)) (.tmp 7) rfl w.heap.size .i64 .i64 _ (listN s).length rfl rfl rfl (by omega) (by unfold maxLen; omega) (Nat.le_refl _) ?_; intro v1 w1 hown1 hb1)
 go_loopw [3, 4] (fun v rv wr => ∃ (t : Nat) (pre : List Nat), t < 18446744073709551616 /\ rv = .int .u64 t /\ listN s = pre ++ listN t /\ wr.ownsRow w.heap.size 3 1 v pre.length ((pre.map Int.ofNat).map (Value.int .i64)) /\ Below w.heap.size w wr) (fun _ rv _ => (listN (intOf rv).toNat).length)
 case atStart => exact ⟨s, [], hs, rfl, rfl, hown1, hb1⟩
 case round =>
  obtain ⟨t, pre, ht, rfl, hl, ho, hB⟩ := hrel
  have hbs := hB.size
  by_cases h0 : t = 0
  ·subst h0
   have HB := hi_ hB
   have HL := hi_ hl
   clear hB hl
   go_wp2
   go_ret
   have e : pre = listN s := by rw [HL.out, listN_zero, List.append_nil]
   subst e
   exact ⟨_, rfl, ho, HB.out⟩
  ·obtain ⟨hk, hlow⟩ := lowN t h0 ht
   have TZ := hi_ (tz_any t wr h0 ht (HT.out.below hB))
   obtain ⟨k, hk'⟩ : ∃ k, k = Lib.ctz 64 t := ⟨_, rfl⟩
   rw [<- hk'] at hk hlow TZ
   have hlen := congrArg List.length hl
   rw [List.length_append] at hlen
   have HLow := hi_ hlow
   have HL := hi_ hl
   have HB := hi_ hB
   have HK := hi_ hlen
   have hpl : pre.length <= 64 := by omega
   clear hlow hl hB hk' hlen
   go_wp2_with fail
   refine TZ.out.mono ?_
   rintro e w' ⟨rfl, rfl⟩
   go_wp2_with (at_builtin; refine wpList_append_own_at _ rfl _ _ 38 rfl w.heap.size 3 i0 (.int .i64 0) 1 8 Tryz.underlying38 hi0 hz0 hz1 hz2 rfl (by decide) _ _ _ rfl (ho.alloc _) ⟨wr.heap.size, 0, none⟩ 1 1 [.int .i64 k] rfl rfl (cell_one_new _ _ _) (fun u hu => by rw [List.mem_singleton.1 hu]; rfl) (by unfold maxLen; omega) (by omega) (by simp; omega) ?_; intro v' w4 ho4 hg4 _ _; try go_frame)
   have hB4 : Below w.heap.size w w4 := (HB.out.alloc hbs _).grown hg4 (by simp; omega) (fun q hq => (ho.lt q hq).1)
   have W := hi_ (Without_any t (k : Int) w4 ht)
   have hs4 := hB4.size
   have HB4 := hi_ hB4
   have HO4 := hi_ ho4
   clear hB4 ho4 hg4 ho
   go_wp2_with fail
   refine W.out.mono ?_
   rintro e w5 ⟨rfl, hB5⟩
   have HB5 := hi_ hB5
   have HO5 := hi_ (own_keep HO4.out hB5)
   have hbl := butN_lt (o := orL [(k : Int)]) ht
   clear hB5
   obtain ⟨t', ht'⟩ : ∃ t', t' = butN t (orL [(k : Int)]) := ⟨_, rfl⟩
   rw [<- ht'] at HLow hbl ⊢
   clear ht'
   go_wp2
   go_roundw
   case rel =>
    refine ⟨t', pre ++ [k], hbl, rfl, ?_, ?_, HB4.out.trans (HB5.out.mono hs4)⟩
    ·rw [HL.out, HLow.out]; simp
    ·have := HO5.out
     simpa using this
   case measure =>
    rw [show (intOf (.int .u64 (t' : Int))).toNat = t' from rfl, show (intOf (.int .u64 (t : Int))).toNat = t from rfl, HLow.out]
    simp
end Go.Proofs.YtaoinkjjmakhaaaGreatDoor
namespace Go.Proofs.YtaoinkjjmakhaaaGreatDoor
open Go.RowKit
theorem zeroP (w : World) : (zeroValue 165).run Tryz.prog w = .ok (.pointer none) w := by kernel_rfl
def colAt (cs : List (Int × Nat)) (q : Nat -> Nat) (k : Int) : Option Value := (cs.findIdx? fun c => decide (c.1 = k)).map fun j => .pointer (some ⟨q j, 0, none⟩)
theorem findIdx_at {cs : List (Int × Nat)} (nd : (cs.map (·.1)).Nodup) {j : Nat} (hj : j < cs.length) : (cs.findIdx? fun c => decide (c.1 = (cs.getD j (0, 0)).1)) = some j := by
 have e : cs.getD j (0, 0) = cs[j] := by simp [List.getD, List.getElem?_eq_getElem hj]
 rw [List.findIdx?_eq_some_iff_getElem]
 refine ⟨hj, by rw [e]; exact decide_eq_true rfl, fun i hi => ?_⟩
 have hp := List.pairwise_iff_getElem.1 nd i j (by simp; omega) (by simpa using hj) hi
 rw [List.getElem_map, List.getElem_map] at hp
 rw [e]
 simpa using hp
theorem colAt_at {cs : List (Int × Nat)} {q : Nat -> Nat} (nd : (cs.map (·.1)).Nodup) {j : Nat} (hj : j < cs.length) : colAt cs q (cs.getD j (0, 0)).1 = some (.pointer (some ⟨q j, 0, none⟩)) := by
 unfold colAt
 rw [findIdx_at nd hj]
 rfl
def idc (l : List (Int × Int)) : List Value := (l.map fun x => [Value.int .i64 x.1, .int .i64 x.2]).flatten
theorem idc_el (l : List (Int × Int)) : HdL 2 ED (idc l) l :=
 ⟨l.map fun x => [Value.int .i64 x.1, .int .i64 x.2], rfl, by simp, fun r hr => by obtain ⟨x, _, rfl⟩ := List.mem_map.1 hr; rfl, fun j x hx => ⟨[Value.int .i64 x.1, .int .i64 x.2], by simp [hx], rfl⟩⟩
theorem idc_len (l : List (Int × Int)) : (idc l).length = l.length * 2 := (idc_el l).len
theorem idc_snoc (l : List (Int × Int)) (x : Int × Int) : idc (l ++ [x]) = idc l ++ [.int .i64 x.1, .int .i64 x.2] := by simp [idc]
structure TbI (w : World) (N : Nat) (tag : Nat -> Nat) (p m : Nat) (v : Value) (q : Nat -> Nat) (sg : Nat) (cs : List (Int × Nat)) (l : List (Int × Int)) (co : Nat -> Co) : Prop where
 blk : Rec 163 w p #[.int .u64 sg, v, .map (some m)]
 ids : w.ownsRow 0 32 2 v l.length (idc l)
 mp : MapZ Tryz.prog 3 (.pointer none) w m cs.length (colAt cs q)
 col : ∀ j, j < cs.length -> ∃ u, ClAt w (fun x => tag x = j + 4) (q j) u (co j)
 tp : tag p = 1
 tm : tag m = 2
 ti : ∀ x, v.ownBlock = some x -> tag x = 3
 dom : ∀ x, tag x ≠ 0 -> x < w.heap.size
 lo : ∀ x, tag x ≠ 0 -> N <= x
 cz : ∀ x ∈ cs, 0 <= x.1 /\ x.1 < 64
 nd : (cs.map (·.1)).Nodup
structure TGo (w : World) (tag : Nat -> Nat) (w' : World) (tag' : Nat -> Nat) : Prop where
 fr : Fr (fun x => tag x ≠ 0) w w'
 own : ∀ x, tag' x ≠ 0 -> tag x ≠ 0 \/ w.heap.size <= x
section
variable {w w' w'' : World} {N : Nat} {tag tag' tag'' : Nat -> Nat} {p m : Nat} {v : Value} {q : Nat -> Nat} {sg : Nat} {cs : List (Int × Nat)} {l : List (Int × Int)} {co : Nat -> Co}
theorem TGo.refl (w : World) (tag : Nat -> Nat) : TGo w tag w tag := ⟨Fr.refl _ _, fun _ h => .inl h⟩
theorem TGo.trans (h : TGo w tag w' tag') (k : TGo w' tag' w'' tag'') : TGo w tag w'' tag'' :=
 ⟨h.fr.trans' k.fr (fun x hx => h.own x hx), fun x hx => by
  rcases k.own x hx with h1 | h1
  ·exact h.own x h1
  ·exact .inr (Nat.le_trans h.fr.size h1)⟩
theorem TGo.ofBelow (h : Below w.heap.size w w') : TGo w tag w' tag := ⟨Fr.ofBelow _ h, fun _ hx => .inl hx⟩
theorem TGo.toBelow (h : TGo w tag w' tag') (lo : ∀ x, tag x ≠ 0 -> N <= x) (hN : N <= w.heap.size) : Below N w w' := h.fr.toBelow lo hN
theorem TbI.Nle (h : TbI w N tag p m v q sg cs l co) : N <= w.heap.size := Nat.le_of_lt (Nat.lt_of_le_of_lt (h.lo p (by rw [h.tp]; decide)) h.blk.lt)
theorem TbI.kept {own' : Nat -> Prop} (h : TbI w N tag p m v q sg cs l co) (hf : Fr own' w w') (hd : ∀ x, tag x ≠ 0 -> ¬ own' x) : TbI w' N tag p m v q sg cs l co where
 blk := h.blk.fr hf (hd p (by rw [h.tp]; decide))
 ids := own_fr h.ids hf (fun x hx => hd x (by rw [h.ti x hx]; decide))
 mp := h.mp.fr hf (hd m (by rw [h.tm]; decide))
 col := fun j hj => by
  obtain ⟨u, hu⟩ := h.col j hj
  exact ⟨u, hu.kept hf (fun x hx => hd x (by rw [hx]; omega))⟩
 tp := h.tp
 tm := h.tm
 ti := h.ti
 dom := fun x hx => Nat.lt_of_lt_of_le (h.dom x hx) hf.size
 lo := h.lo
 cz := h.cz
 nd := h.nd
theorem TbI.below (h : TbI w N tag p m v q sg cs l co) (hb : Below w.heap.size w w') : TbI w' N tag p m v q sg cs l co := h.kept (own' := fun _ => False) (Fr.ofBelow _ hb) (fun _ _ hx => hx)
theorem TbI.congr {co' : Nat -> Co} (h : TbI w N tag p m v q sg cs l co) (he : ∀ j, j < cs.length -> co j = co' j) : TbI w N tag p m v q sg cs l co' :=
 { h with col := fun j hj => by rw [<- he j hj]; exact h.col j hj }
theorem TbI.cdom (h : TbI w N tag p m v q sg cs l co) (j : Nat) : ∀ x, tag x = j + 4 -> x < w.heap.size := fun x hx => h.dom x (by rw [hx]; omega)
theorem TbI.turn (h : TbI w N tag p m v q sg cs l co) {j : Nat} (hj : j < cs.length) {s : Co} (g : ClGoes w (fun x => tag x = j + 4) (q j) s w') :
  ∃ tag', TbI w' N tag' p m v q sg cs l (fun i => if i = j then s else co i) /\ TGo w tag w' tag' := by
 obtain ⟨hf, own', h1, h2, u, hu⟩ := g
 have hN := h.Nle
 refine ⟨fun x => if x < w.heap.size then tag x else if x < w'.heap.size then j + 4 else 0, ?_, ?_⟩
 ·have kp : ∀ x, tag x ≠ 0 -> (if x < w.heap.size then tag x else if x < w'.heap.size then j + 4 else 0) = tag x := fun x hx => if_pos (h.dom x hx)
  refine ⟨h.blk.fr hf (by rw [h.tp]; omega), own_fr h.ids hf (fun x hx => by rw [h.ti x hx]; omega), h.mp.fr hf (by rw [h.tm]; omega), fun i hi => ?_, ?_, ?_, fun x hx => ?_, fun x hx => ?_, fun x hx => ?_, h.cz, h.nd⟩
  ·by_cases hij : i = j
   ·subst hij
    simp only [if_true]
    refine ⟨u, hu.mono fun x hx => ?_⟩
    show (if x < w.heap.size then tag x else if x < w'.heap.size then i + 4 else 0) = i + 4
    rcases h1 x hx with h3 | h3
    ·rw [kp x (by rw [h3]; omega), h3]
    ·rw [if_neg (by omega), if_pos (h2 x hx)]
   ·simp only [if_neg hij]
    obtain ⟨u', hu'⟩ := h.col i hi
    refine ⟨u', (hu'.kept hf (fun x hx => by rw [hx]; omega)).mono fun x hx => ?_⟩
    show (if x < w.heap.size then tag x else if x < w'.heap.size then j + 4 else 0) = i + 4
    rw [kp x (by rw [hx]; omega), hx]
  ·show (if p < w.heap.size then tag p else _) = 1
   rw [if_pos h.blk.lt, h.tp]
  ·show (if m < w.heap.size then tag m else _) = 2
   rw [if_pos h.mp.lt, h.tm]
  ·show (if x < w.heap.size then tag x else _) = 3
   rw [if_pos (h.dom x (by rw [h.ti x hx]; decide)), h.ti x hx]
  ·have hx' : (if x < w.heap.size then tag x else if x < w'.heap.size then j + 4 else 0) ≠ 0 := hx
   have := hf.size
   split at hx'
   ·omega
   ·split at hx'
    ·assumption
    ·exact absurd rfl hx'
  ·have hx' : (if x < w.heap.size then tag x else if x < w'.heap.size then j + 4 else 0) ≠ 0 := hx
   split at hx'
   ·exact h.lo x hx'
   ·omega
 ·refine ⟨hf.mono fun x hx => by rw [hx]; omega, fun x hx => ?_⟩
  have hx' : (if x < w.heap.size then tag x else if x < w'.heap.size then j + 4 else 0) ≠ 0 := hx
  split at hx'
  ·exact .inl hx'
  ·exact .inr (by omega)
theorem TbI.c0 (h : TbI w N tag p m v q sg cs l co) : w.cell? ⟨p, 0, none⟩ = some (.int .u64 sg) := h.blk.at_ 0
theorem TbI.c1 (h : TbI w N tag p m v q sg cs l co) : w.cell? ⟨p, 1, none⟩ = some v := h.blk.at_ 1
theorem TbI.c2 (h : TbI w N tag p m v q sg cs l co) : w.cell? ⟨p, 2, none⟩ = some (.map (some m)) := h.blk.at_ 2
theorem TbI.sl (h : TbI w N tag p m v q sg cs l co) : ∃ A c, v = .slice A l.length c /\ l.length <= c /\ c <= maxLen := by
 obtain ⟨A, c, e, h1, h2, _⟩ := own_vrow h.ids
 exact ⟨A, c, e, h1, h2⟩
theorem TbI.look (h : TbI w N tag p m v q sg cs l co) {j : Nat} (hj : j < cs.length) : (Instr.lookup 161 (.map (some m)) (.int .i64 (cs.getD j (0, 0)).1) false).run Tryz.prog w = .ok (.pointer (some ⟨q j, 0, none⟩)) w := by
 have hr : 0 <= (cs.getD j (0, 0)).1 /\ (cs.getD j (0, 0)).1 < 64 := by
  have e : cs.getD j (0, 0) = cs[j] := by simp [List.getD, List.getElem?_eq_getElem hj]
  rw [e]
  exact h.cz _ (List.getElem_mem hj)
 have := h.mp.look Tryz.underlying3 Tryz.underlying161 (zeroP w) (i := (cs.getD j (0, 0)).1) (by omega)
 rw [colAt_at h.nd hj] at this
 exact this
theorem TbI.look_yes (h : TbI w N tag p m v q sg cs l co) {k : Int} (hk : -9223372036854775808 <= k /\ k < 9223372036854775808) {j : Nat} (hj : (cs.findIdx? fun c => decide (c.1 = k)) = some j) :
  (Instr.lookup 161 (.map (some m)) (.int .i64 k) true).run Tryz.prog w = .ok (.tuple #[.pointer (some ⟨q j, 0, none⟩), .bool true]) w := by
 have := h.mp.look_ok Tryz.underlying3 Tryz.underlying161 (zeroP w) (i := k) hk
 unfold colAt at this
 rw [hj] at this
 exact this
theorem TbI.look_no (h : TbI w N tag p m v q sg cs l co) {k : Int} (hk : -9223372036854775808 <= k /\ k < 9223372036854775808) (hj : (cs.findIdx? fun c => decide (c.1 = k)) = none) :
  (Instr.lookup 161 (.map (some m)) (.int .i64 k) true).run Tryz.prog w = .ok (.tuple #[.pointer none, .bool false]) w := by
 have := h.mp.look_ok Tryz.underlying3 Tryz.underlying161 (zeroP w) (i := k) hk
 unfold colAt at this
 rw [hj] at this
 exact this
theorem TbI.clen (h : TbI w N tag p m v q sg cs l co) (ty : TypeId) : (Builtin.len_ #[161] ty #[.map (some m)]).run Tryz.prog w = .ok (.int .i64 cs.length) w := h.mp.len Tryz.underlying161 ty
theorem tcheck_ok (h : TbI w N tag p m v q sg cs l co) (i : Int) (hi : 0 <= i /\ i < l.length) : Calls Tryz.prog 84 #[.pointer (some ⟨p, 0, none⟩), .int .i64 i] w fun e w' => e = .returned (.int .i64 0) /\ w = w' := by
 have c1 := h.c1
 obtain ⟨A, c, rfl, _, _⟩ := h.sl
 obtain ⟨h0, h1⟩ := hi
 go_enter Tryz.func84, Tryz.ntmps84
 go_wp2
 go_ret
 exact ⟨rfl, rfl⟩
theorem tcheck_no (h : TbI w N tag p m v q sg cs l co) (i : Int) (hi : ¬ (0 <= i /\ i < l.length)) : Calls Tryz.prog 84 #[.pointer (some ⟨p, 0, none⟩), .int .i64 i] w fun e w' => e = .returned (.int .i64 2) /\ w = w' := by
 have c1 := h.c1
 obtain ⟨A, c, rfl, _, _⟩ := h.sl
 by_cases h0 : i < 0
 ·go_enter Tryz.func84, Tryz.ntmps84
  go_wp2
  go_ret
  exact ⟨rfl, rfl⟩
 ·have h1 : (l.length : Int) <= i := by omega
  clear hi
  go_enter Tryz.func84, Tryz.ntmps84
  go_wp2
  go_ret
  exact ⟨rfl, rfl⟩
theorem find_no (h : TbI w N tag p m v q sg cs l co) (i : Int) (hi : ¬ (0 <= i /\ i < l.length)) (k : Int) : Calls Tryz.prog 117 #[.pointer (some ⟨p, 0, none⟩), .int .i64 i, .int .i64 k] w fun e w' => e = .returned (.tuple #[.pointer none, .int .i64 2]) /\ w = w' := by
 have CK := hi_ (tcheck_no h i hi)
 clear h hi
 go_enter Tryz.func117, Tryz.ntmps117
 go_wp2_with (go_at_call 84; refine CK.out.mono ?_; rintro e w' ⟨rfl, rfl⟩)
 go_ret2
 exact ⟨rfl, rfl⟩
theorem find_lacks (h : TbI w N tag p m v q sg cs l co) (i : Int) (hi : 0 <= i /\ i < l.length) {k : Int} (hk : -9223372036854775808 <= k /\ k < 9223372036854775808) (hj : (cs.findIdx? fun c => decide (c.1 = k)) = none) :
  Calls Tryz.prog 117 #[.pointer (some ⟨p, 0, none⟩), .int .i64 i, .int .i64 k] w fun e w' => e = .returned (.tuple #[.pointer none, .int .i64 8]) /\ w = w' := by
 have CK := hi_ (tcheck_ok h i hi)
 have c2 := h.c2
 have L := h.look_no hk hj
 clear h hi hk hj
 go_enter Tryz.func117, Tryz.ntmps117
 go_wp2_with (go_at_call 84; refine CK.out.mono ?_; rintro e w' ⟨rfl, rfl⟩)
 go_ret2
 exact ⟨rfl, rfl⟩
theorem find_ok (h : TbI w N tag p m v q sg cs l co) (i : Int) (hi : 0 <= i /\ i < l.length) {k : Int} (hk : -9223372036854775808 <= k /\ k < 9223372036854775808) {j : Nat} (hj : (cs.findIdx? fun c => decide (c.1 = k)) = some j) :
  Calls Tryz.prog 117 #[.pointer (some ⟨p, 0, none⟩), .int .i64 i, .int .i64 k] w fun e w' => e = .returned (.tuple #[.pointer (some ⟨q j, 0, none⟩), .int .i64 0]) /\ w = w' := by
 have CK := hi_ (tcheck_ok h i hi)
 have c2 := h.c2
 have L := h.look_yes hk hj
 clear h hi hk hj
 go_enter Tryz.func117, Tryz.ntmps117
 go_wp2_with (go_at_call 84; refine CK.out.mono ?_; rintro e w' ⟨rfl, rfl⟩)
 go_ret2
 exact ⟨rfl, rfl⟩
theorem tsig_any (h : TbI w N tag p m v q sg cs l co) : Calls Tryz.prog 63 #[.pointer (some ⟨p, 0, none⟩)] w fun e w' => e = .returned (.int .u64 sg) /\ w = w' := by
 have c0 := h.c0
 go_enter Tryz.func63, Tryz.ntmps63
 go_wp2
 go_ret
 exact ⟨rfl, rfl⟩
theorem tlen_any (h : TbI w N tag p m v q sg cs l co) : Calls Tryz.prog 113 #[.pointer (some ⟨p, 0, none⟩)] w fun e w' => e = .returned (.int .i64 l.length) /\ w = w' := by
 have c1 := h.c1
 obtain ⟨A, c, rfl, _, _⟩ := h.sl
 go_enter Tryz.func113, Tryz.ntmps113
 go_wp2
 go_ret
 exact ⟨rfl, rfl⟩
end
end Go.Proofs.YtaoinkjjmakhaaaGreatDoor
namespace Go.Proofs.YtaoinkjjmakhaaaGreatDoor
open Go.RowKit
def NoneOf (ps : List Pt) (k : Int) (j : Nat) : Prop := ∀ i x, i < j -> ps[i]? = some x -> x.1 ≠ k
theorem NoneOf.more {ps : List Pt} {k : Int} {j : Nat} (h : NoneOf ps k j) {x : Pt} (hx : ps[j]? = some x) (hne : x.1 ≠ k) : NoneOf ps k (j + 1) := fun i y hi hy => by
 by_cases e : i = j
 ·subst e
  rw [hx] at hy
  injection hy with hy
  exact hy ▸ hne
 ·exact h i y (by omega) hy
theorem NoneOf.find {ps : List Pt} {k : Int} {j : Nat} (h : NoneOf ps k j) {x : Pt} (hx : ps[j]? = some x) (he : x.1 = k) : ps.find? (fun p => decide (p.1 = k)) = some x := by
 rw [List.find?_eq_some_iff_getElem]
 obtain ⟨hj, e⟩ := List.getElem?_eq_some_iff.1 hx
 refine ⟨decide_eq_true he, j, hj, e, fun i hi => ?_⟩
 have := h i ps[i] hi (List.getElem?_eq_getElem (by omega))
 simpa using this
theorem NoneOf.none_ {ps : List Pt} {k : Int} (h : NoneOf ps k ps.length) : ps.find? (fun p => decide (p.1 = k)) = none := by
 rw [List.find?_eq_none]
 intro x hx
 obtain ⟨i, hi, e⟩ := List.getElem_of_mem hx
 have := h i ps[i] hi (List.getElem?_eq_getElem hi)
 rw [e] at this
 simpa using this
section
variable {K : Nat -> Prop} {w : World} {A : Option Addr} {n : Nat} {ps : List Pt}
set_option maxRecDepth 20000 in
theorem first_any (h : PartsV K w A n ps) (hn : n <= 1000000) (c : Nat) (k : Int) :
  Calls Tryz.prog 172 #[.slice A n c, .int .i64 k] w fun e w' => Below w.heap.size w w' /\
   ((∃ x u, ps.find? (fun p => decide (p.1 = k)) = some x /\ e = .returned (.tuple #[u, .bool true]) /\ VB K w' u x.2) \/ (ps.find? (fun p => decide (p.1 = k)) = none /\ e = .returned (.tuple #[nilv, .bool false]))) := by
 have hl := h.len
 have H := hi_ h
 clear h
 go_enter Tryz.func172, Tryz.ntmps172
 go_wp2
 go_loopw [10] (fun iv wr => ∃ j : Nat, j <= n /\ iv = .int .i64 j /\ NoneOf ps k j /\ Below w.heap.size w wr) (fun iv _ => n - (intOf iv).toNat)
 case atStart => exact ⟨0, Nat.zero_le _, rfl, fun i x hi => absurd hi (Nat.not_lt_zero _), Below.refl _ _⟩
 case round =>
  obtain ⟨j, hj, rfl, hno, hB⟩ := hrel
  by_cases hjn : j < n
  ·obtain ⟨y, hy⟩ : ∃ y, ps[j]? = some y := ⟨_, List.getElem?_eq_getElem (by omega)⟩
   obtain ⟨b, o, u, hA, _, hblt, h0, h1, hu⟩ := H.out.cell hy
   subst hA
   have k0 := (hB.cell (p := ⟨b, o + j * 2, none⟩) hblt).trans h0
   have k1 := (hB.cell (p := ⟨b, o + j * 2 + 1, none⟩) hblt).trans h1
   obtain ⟨DA, dm, dc, rfl, _, _⟩ := id hu
   have HU := hi_ hu
   have HY := hi_ hy
   have HNO := hi_ hno
   obtain ⟨yi, yd⟩ := y
   simp only at k0
   have hb3 := hB.trans ((Below.refl _ _).alloc (hB.size) (.cells #[.int .i64 yi, .slice DA dm dc] 143))
   have HB3 := hi_ hb3
   clear h0 h1 hu hy hno hb3
   by_cases he : yi = k
   ·subst he
    go_wp2
    go_ret2
    exact ⟨HB3.out, .inl ⟨_, _, HNO.out.find HY.out rfl, _, rfl, (HU.out.below (hB.trans ((Below.refl _ _).alloc hB.size _)))⟩⟩
   ·have d1 : decide (yi = k) = false := decide_eq_false he
    go_wp2
    go_roundw
    case rel => exact ⟨j + 1, hjn, by go_num, HNO.out.more HY.out he, HB3.out⟩
    case measure => simp [intOf]; omega
  ·obtain rfl : j = n := by omega
   have HNO := hi_ hno
   clear hno
   go_wp2
   go_ret2
   exact ⟨hB, .inr ⟨NoneOf.none_ (by rw [hl]; exact HNO.out), rfl⟩⟩
end
end Go.Proofs.YtaoinkjjmakhaaaGreatDoor
namespace Go.Proofs.YtaoinkjjmakhaaaGreatDoor
open Go.RowKit
structure EOk {α : Type} (E : (Nat -> Prop) -> World -> α -> List Value -> Prop) : Prop where
 stays : ∀ {K : Nat -> Prop} {w w' : World} {x : α} {r : List Value}, E K w x r -> WStays K w w' -> E K w' x r
 mono : ∀ {K K' : Nat -> Prop} {w : World} {x : α} {r : List Value}, E K w x r -> (∀ y, K y -> K' y) -> E K' w x r
 lt : ∀ {K : Nat -> Prop} {w : World} {x : α} {r : List Value}, E K w x r -> E (fun y => K y /\ y < w.heap.size) w x r
theorem EOk.below {α : Type} {E : (Nat -> Prop) -> World -> α -> List Value -> Prop} (ok : EOk E) {K : Nat -> Prop} {w w' : World} {x : α} {r : List Value} (h : E K w x r) (hb : Below w.heap.size w w') : E K w' x r :=
 ok.mono (ok.stays (ok.lt h) ⟨hb.size, fun y hy => hb.block y hy.2⟩) (fun _ hy => hy.1)
structure Gr {α : Type} (E : (Nat -> Prop) -> World -> α -> List Value -> Prop) (e : TypeId) (sz : Nat) (w : World) (B : Nat) (v : Value) (vs : List Value) (D : Nat -> Prop) (xs : List α) : Prop where
 Bw : B <= w.heap.size
 ow : w.ownsRow B e sz v xs.length vs
 hd : HdL sz (E D w) vs xs
 dx : ∀ x, D x -> x < w.heap.size /\ v.ownBlock ≠ some x
section
variable {α : Type} {E : (Nat -> Prop) -> World -> α -> List Value -> Prop} {e : TypeId} {sz : Nat} {w w' : World} {B : Nat} {v : Value} {vs : List Value} {D K : Nat -> Prop} {xs : List α}
theorem own_geB {e size n : Nat} {xs : List Value} (h : w.ownsRow B e size v n xs) {x : Nat} (hx : v.ownBlock = some x) : B <= x /\ x < w.heap.size := by
 rcases h.2 with ⟨rfl, _⟩ | ⟨g, cap, cur, rfl, hB, hh, _⟩
 ·cases hx
 ·injection hx with hx
  have hx' : g = x := hx
  rw [<- hx']
  exact ⟨hB, (Array.getElem?_eq_some_iff.1 hh).1⟩
theorem Gr.start (h : w.ownsRow B e sz v 0 []) (hB : B <= w.heap.size) : Gr E e sz w B v [] (fun _ => False) ([] : List α) := ⟨hB, h, HdL.nil _ _, fun _ hx => hx.elim⟩
theorem Gr.below (ok : EOk E) (h : Gr E e sz w B v vs D xs) (hb : Below w.heap.size w w') : Gr E e sz w' B v vs D xs :=
 ⟨Nat.le_trans h.Bw hb.size, own_keep h.ow hb, h.hd.imp fun _ _ hx => ok.below hx hb, fun x hx => ⟨Nat.lt_of_lt_of_le (h.dx x hx).1 hb.size, (h.dx x hx).2⟩⟩
theorem Gr.put (ok : EOk E) (h : Gr E e sz w B v vs D xs) {v' : Value} {x : α} {r : List Value} (hr : r.length = sz) (hE : E K w x r) (hK : ∀ y, K y -> v.ownBlock ≠ some y)
  (ho : w'.ownsRow B e sz v' (xs.length + 1) (vs ++ r)) (hg : w.grownBy w' v.ownBlock) (hv : v'.ownBlock = v.ownBlock \/ v'.ownBlock = some w.heap.size) :
  Gr E e sz w' B v' (vs ++ r) (fun y => D y \/ (K y /\ y < w.heap.size)) (xs ++ [x]) := by
 have hF : Fr (fun y => v.ownBlock = some y) w w' := Fr.grown hg (fun y hy => hy)
 have hs := hF.size
 have hall : ∀ y, (D y \/ (K y /\ y < w.heap.size)) -> y < w.heap.size /\ v.ownBlock ≠ some y := fun y hy => by
  rcases hy with h1 | h1
  ·exact h.dx y h1
  ·exact ⟨h1.2, hK y h1.1⟩
 have st : WStays (fun y => D y \/ (K y /\ y < w.heap.size)) w w' := ⟨hs, fun y hy => hF.block y (hall y hy).1 (hall y hy).2⟩
 refine ⟨Nat.le_trans h.Bw hs, by rw [List.length_append, List.length_singleton]; exact ho, ?_, fun y hy => ?_⟩
 ·exact (h.hd.imp fun _ _ hx => ok.stays (ok.mono hx (fun _ hy => .inl hy)) st).snoc hr (ok.stays (ok.mono (ok.lt hE) (fun _ hy => .inr hy)) st)
 ·obtain ⟨h1, h2⟩ := hall y hy
  refine ⟨by omega, fun e => ?_⟩
  rcases hv with hv | hv
  ·exact h2 (hv ▸ e)
  ·rw [hv] at e
   injection e with e
   omega
theorem Gr.rows (ok : EOk E) (h : Gr E e sz w B v vs D xs) : ∃ A c, v = .slice A xs.length c /\ xs.length <= c /\ c <= maxLen /\ RowsL sz (E (fun x => D x \/ (B <= x /\ x < w.heap.size)) w) (fun x => D x \/ (B <= x /\ x < w.heap.size)) w A xs.length xs := by
 obtain ⟨A, c, e1, h1, h2, h3⟩ := own_vrow h.ow
 exact ⟨A, c, e1, h1, h2, vs, rfl, h3.mono (fun x hx => .inr hx), h.hd.imp fun _ _ hx => ok.mono hx (fun _ hy => .inl hy)⟩
end
def EB (K : Nat -> Prop) (w : World) (x : List UInt8) (r : List Value) : Prop := ∃ u, r = [u] /\ VB K w u x
theorem EB.ok : EOk EB where
 stays := fun ⟨u, e, hu⟩ hs => ⟨u, e, hu.stays hs⟩
 mono := fun ⟨u, e, hu⟩ hk => ⟨u, e, hu.mono hk⟩
 lt := fun ⟨u, e, hu⟩ => ⟨u, e, hu.lt⟩
theorem EP.ok : EOk EP where
 stays := fun ⟨u, e, hu⟩ hs => ⟨u, e, hu.stays hs⟩
 mono := fun ⟨u, e, hu⟩ hk => ⟨u, e, hu.mono hk⟩
 lt := fun ⟨u, e, hu⟩ => ⟨u, e, hu.lt⟩
theorem EB.rows {K : Nat -> Prop} {w : World} {A : Option Addr} {n : Nat} {ls : List (List UInt8)} (h : RowsL 1 (EB K w) K w A n ls) : RowsV K w A n ls := by
 obtain ⟨vs, h1, h2, ch, rfl, h4, h5, h6⟩ := h
 have hl : ch.flatten.length = n := by rw [h2.1, Nat.mul_one]
 refine ⟨_, h1, h2, by omega, fun j u hj => ?_⟩
 have hjl : j < ls.length := by have := (List.getElem?_eq_some_iff.1 hj).1; omega
 obtain ⟨r, hr, u', e, hu'⟩ := h6 j ls[j] (List.getElem?_eq_getElem hjl)
 have hg := flatg_get h5 hr (i := 0) (by decide)
 rw [Nat.mul_one, Nat.add_zero, hj, e] at hg
 injection hg with hg
 rw [List.getD_eq_getElem?_getD, List.getElem?_eq_getElem hjl, hg]
 exact hu'
theorem RowsV.atK {K : Nat -> Prop} {w : World} {A : Option Addr} {n : Nat} {ls : List (List UInt8)} (h : RowsV K w A n ls) {j : Nat} (hj : j < n) : ∃ b o u, A = some ⟨b, o, none⟩ /\ K b /\ b < w.heap.size /\ w.cell? ⟨b, o + j, none⟩ = some u /\ VB K w u (ls.getD j []) := by
 obtain ⟨vs, h1, h2, h3⟩ := h
 obtain ⟨b, o, e, hk, hlt, hc⟩ := h2.2.2 (by omega)
 have hjl : j < vs.length := by rw [h2.1]; omega
 have hv := List.getElem?_eq_getElem hjl
 exact ⟨b, o, vs[j], e, hk, hlt, hc j _ hv, h3.2 j _ hv⟩
theorem ints_hd (xs : List Int) : HdL 1 EI (xs.map (Value.int .i64)) xs := by
 refine ⟨xs.map fun x => [.int .i64 x], ?_, by simp, fun r hr => ?_, fun j x hx => ⟨[.int .i64 x], by simp [hx], rfl⟩⟩
 ·induction xs with
  | nil => rfl
  | cons a xs ih => simp at ih ⊢; exact ih
 ·obtain ⟨x, _, rfl⟩ := List.mem_map.1 hr
  rfl
def Two (a b c : Nat) (x : Nat) : Prop := (a <= x /\ x < b) \/ c <= x
end Go.Proofs.YtaoinkjjmakhaaaGreatDoor
