/- Numbers as bytes: plain mathematics. -/
import Derived.Test.YtndnmcdbfjgglaaMem
import Derived.Laws.BitsAllLaws
import Derived.Laws.BitsLemmas
namespace Go.Proofs.Ytndnmcdbfjgglaa
open Go.RowKit

/-- Byte i of n. -/
def byteOf (n : Int) (i : Nat) : UInt8 := UInt8.ofNat ((n / 2 ^ (8 * i)) % 256).toNat
/-- The lowest k bytes of n, the lowest first. -/
def numB (k : Nat) (n : Int) : List UInt8 := (List.range k).map (byteOf n)

@[simp] theorem numB_length (k : Nat) (n : Int) : (numB k n).length = k := by simp [numB]
theorem numB_zero (n : Int) : numB 0 n = [] := rfl
theorem numB_succ (k : Nat) (n : Int) : numB (k + 1) n = numB k n ++ [byteOf n k] := by simp [numB, List.range_succ]
theorem byteOf_toNat (n : Int) (i : Nat) : ((byteOf n i).toNat : Int) = (n / 2 ^ (8 * i)) % 256 := by
  have h1 : 0 ≤ (n / 2 ^ (8 * i)) % 256 := Int.emod_nonneg _ (by decide)
  have h2 : (n / 2 ^ (8 * i)) % 256 < 256 := Int.emod_lt_of_pos _ (by decide)
  unfold byteOf
  rw [UInt8.toNat_ofNat']
  omega

/-- A width that may be. -/
def wd (width : Int) : Nat := (min (max width 1) 8).toNat
theorem wd_cast (width : Int) : ((wd width : Nat) : Int) = min (max width 1) 8 := by unfold wd; omega
theorem wd_bd (width : Int) : 1 ≤ wd width ∧ wd width ≤ 8 := by unfold wd; omega

/-- What is left of n behind its j lowest bytes, as a number of 64 bits. -/
def rest64 (n : Int) (j : Nat) : Int := (n % 18446744073709551616) / 2 ^ (8 * j)
theorem rest64_zero (n : Int) : rest64 n 0 = n % 18446744073709551616 := by simp [rest64]
theorem rest64_succ (n : Int) (j : Nat) : rest64 n (j + 1) = rest64 n j / 256 := by
  unfold rest64
  rw [show 8 * (j + 1) = 8 * j + 8 from by omega, Int.pow_add, Int.ediv_ediv_of_nonneg (Int.le_of_lt (Int.pow_pos (by decide)))]
  rfl
theorem rest64_bd (n : Int) (j : Nat) : 0 ≤ rest64 n j ∧ rest64 n j ≤ 18446744073709551615 := by
  have h1 : 0 ≤ n % 18446744073709551616 := Int.emod_nonneg _ (by decide)
  have h2 : n % 18446744073709551616 < 18446744073709551616 := Int.emod_lt_of_pos _ (by decide)
  unfold rest64
  refine ⟨Int.ediv_nonneg h1 (Int.le_of_lt (Int.pow_pos (by decide))), ?_⟩
  have := Int.ediv_le_self (2 ^ (8 * j)) h1
  omega
theorem pow_split (j : Nat) (hj : j < 8) : (18446744073709551616 : Int) = 2 ^ (8 * j) * (256 * 2 ^ (8 * (7 - j))) := by
  rw [show (256 : Int) = 2 ^ 8 from rfl, ← Int.pow_add, ← Int.pow_add, show 8 * j + (8 + 8 * (7 - j)) = 64 from by omega]
  rfl
theorem rest64_byte (n : Int) (j : Nat) (hj : j < 8) : rest64 n j % 256 = ((byteOf n j).toNat : Int) := by
  rw [byteOf_toNat, rest64]
  have e := pow_split j hj
  have h0 : (2 : Int) ^ (8 * j) ≠ 0 := Int.ne_of_gt (Int.pow_pos (by decide))
  have hn := Int.mul_ediv_add_emod n 18446744073709551616
  have h1 : n = (n % 18446744073709551616) + 2 ^ (8 * j) * (256 * (2 ^ (8 * (7 - j)) * (n / 18446744073709551616))) := by
    have : (18446744073709551616 : Int) * (n / 18446744073709551616) = 2 ^ (8 * j) * (256 * (2 ^ (8 * (7 - j)) * (n / 18446744073709551616))) := by
      conv => lhs; rw [e]
      simp only [Int.mul_assoc]
      rw [← e]
    omega
  conv => rhs; rw [h1]
  rw [Int.add_mul_ediv_left _ _ h0]
  omega

/-- The first k bytes of l, and bytes 0, if there are fewer. -/
def cut (k : Nat) (l : List UInt8) : List UInt8 := (List.range k).map fun i => l.getD i 0
@[simp] theorem cut_length (k : Nat) (l : List UInt8) : (cut k l).length = k := by simp [cut]
theorem cut_succ (k : Nat) (l : List UInt8) : cut (k + 1) l = cut k l ++ [l.getD k 0] := by simp [cut, List.range_succ]

theorem cut_made (k : Nat) (l : List UInt8) : splice (madeCells (Value.int .u8 0).cells (k * 1)).toList 0 (cells (l.take k)) = cells (cut k l) := by
  have e : (madeCells (Value.int .u8 0).cells (k * 1)).toList = List.replicate k (Value.int .u8 0) := by
    rw [Nat.mul_one]
    exact toList_madeCells_one (Value.int .u8 0) k
  rw [e]
  apply List.ext_getElem?
  intro j
  have hlen : (cells (l.take k)).length = min k l.length := by simp
  unfold splice
  rw [List.take_zero, List.nil_append, Nat.zero_add, List.getElem?_append, hlen]
  by_cases h1 : j < min k l.length
  · rw [if_pos h1]
    simp [cells, cut, show j < k by omega, show j < l.length by omega]
  · rw [if_neg h1, List.getElem?_drop, List.getElem?_replicate]
    by_cases h2 : j < k
    · rw [if_pos (by omega)]
      simp [cells, cut, h2, List.getElem?_eq_none (show l.length ≤ j by omega)]
    · rw [if_neg (by omega)]
      simp [cells, cut, h2]

/-- The number that bytes are, the lowest first. -/
def leN : List UInt8 → Nat
  | [] => 0
  | b :: l => b.toNat + 256 * leN l
theorem leN_append (l m : List UInt8) : leN (l ++ m) = leN l + 2 ^ (8 * l.length) * leN m := by
  induction l with
  | nil => simp [leN]
  | cons b l ih =>
    simp only [List.cons_append, leN, ih, List.length_cons]
    rw [show 8 * (l.length + 1) = 8 + 8 * l.length from by omega, Nat.pow_add, Nat.mul_add, Nat.add_assoc, Nat.mul_assoc]
theorem leN_lt (l : List UInt8) : leN l < 2 ^ (8 * l.length) := by
  induction l with
  | nil => simp [leN]
  | cons b l ih =>
    simp only [leN, List.length_cons]
    rw [show 8 * (l.length + 1) = 8 + 8 * l.length from by omega, Nat.pow_add]
    have := b.toNat_lt
    omega
theorem leN_take_succ (l : List UInt8) (j : Nat) (h : j < l.length) : leN (l.take (j + 1)) = leN (l.take j) + l[j].toNat * 2 ^ (8 * j) := by
  rw [List.take_succ_eq_append_getElem h, leN_append]
  simp [leN, Nat.min_eq_left (Nat.le_of_lt h), Nat.mul_comm]
theorem leN_drop (l : List UInt8) (j : Nat) (h : j < l.length) : leN (l.drop j) = l[j].toNat + 256 * leN (l.drop (j + 1)) := by
  rw [List.drop_eq_getElem_cons h]
  rfl
theorem leN_take_or (l : List UInt8) (j : Nat) (h : j < l.length) : leN (l.take j) ||| (l[j].toNat * 2 ^ (8 * j)) = leN (l.take (j + 1)) := by
  have hlt : leN (l.take j) < 2 ^ (8 * j) := by
    have := leN_lt (l.take j)
    rwa [List.length_take, Nat.min_eq_left (Nat.le_of_lt h)] at this
  rw [leN_take_succ l j h, ← Nat.shiftLeft_eq, Nat.or_comm, ← Nat.shiftLeft_add_eq_or_of_lt hlt, Nat.add_comm]
/-- What Get tells of bytes that are there. -/
def getV (l : List UInt8) : Int := wrap64 (leN l : Int)
theorem emod_mul_split (n a b : Int) (ha : 0 < a) (hb : 0 < b) : n % (a * b) = n % a + a * (n / a % b) := by
  have h1 := Int.mul_ediv_add_emod n a
  have h2 := Int.mul_ediv_add_emod (n / a) b
  have p1 := Int.emod_nonneg n (Int.ne_of_gt ha)
  have p2 := Int.emod_lt_of_pos n ha
  have p3 := Int.emod_nonneg (n / a) (Int.ne_of_gt hb)
  have p4 := Int.emod_lt_of_pos (n / a) hb
  have e : n = (n % a + a * (n / a % b)) + a * b * (n / a / b) := by
    conv => lhs; rw [← h1, ← h2]
    rw [Int.mul_add, Int.mul_assoc]
    omega
  have q1 : 0 ≤ a * (n / a % b) := Int.mul_nonneg (Int.le_of_lt ha) p3
  have q2 : a * (n / a % b) ≤ a * (b - 1) := Int.mul_le_mul_of_nonneg_left (by omega) (Int.le_of_lt ha)
  rw [Int.mul_sub] at q2
  conv => lhs; rw [e]
  rw [Int.add_mul_emod_self_left]
  exact Int.emod_eq_of_lt (by omega) (by omega)
theorem leN_numB (k : Nat) (n : Int) : (leN (numB k n) : Int) = n % 2 ^ (8 * k) := by
  induction k with
  | zero => simp [numB, leN, Int.emod_one]
  | succ k ih =>
    rw [numB_succ, leN_append, numB_length]
    simp only [leN, Nat.mul_zero, Nat.add_zero]
    have e1 : (((2 : Nat) ^ (8 * k) : Nat) : Int) = (2 : Int) ^ (8 * k) := by simp
    rw [Int.natCast_add, Int.natCast_mul, ih, byteOf_toNat, e1, show 8 * (k + 1) = 8 * k + 8 from by omega, Int.pow_add, show (2 : Int) ^ 8 = 256 from rfl]
    exact (emod_mul_split n _ _ (Int.pow_pos (by decide)) (by decide)).symm

theorem pow_le64 (j : Nat) (h : j ≤ 7) : 2 ^ (8 * j) ≤ 72057594037927936 := by
  have := Nat.pow_le_pow_right (n := 2) (by decide) (show 8 * j ≤ 56 by omega)
  simpa using this
theorem leN_lt64 (l : List UInt8) (h : l.length ≤ 8) : leN l < 18446744073709551616 := by
  have h1 := leN_lt l
  have := Nat.pow_le_pow_right (n := 2) (by decide) (show 8 * l.length ≤ 64 by omega)
  omega
theorem u64_in (n : Nat) (h : n < 18446744073709551616) : IntKind.u64.wrap (n : Int) = n := by
  rw [IntKind.wrap_u64]
  omega
/-- One round of Get. -/
theorem or_step (p : List UInt8) (j : Nat) (h : j < p.length) (hp : p.length ≤ 8) :
    bits BinOp.or IntKind.u64 (↑(leN (List.take j p))) (IntKind.u64.wrap (IntKind.u64.wrap ↑p[j].toNat * 2 ^ (8 * j))) = ↑(leN (List.take (j + 1) p)) := by
  have hb := p[j].toNat_lt
  have h1 := pow_le64 j (by omega)
  have h2 : p[j].toNat * 2 ^ (8 * j) < 18446744073709551616 :=
    Nat.lt_of_lt_of_le (Nat.mul_lt_mul_of_pos_right hb (Nat.pow_pos (by decide))) (by omega)
  have e1 : IntKind.u64.wrap (p[j].toNat : Int) = p[j].toNat := u64_in _ (by omega)
  have e2 : (p[j].toNat : Int) * 2 ^ (8 * j) = ((p[j].toNat * 2 ^ (8 * j) : Nat) : Int) := by simp
  rw [e1, e2, u64_in _ h2, u64_or_nat _ _ (leN_lt64 _ (by simp; omega)) h2, leN_take_or p j h]

theorem drop_step (p : List UInt8) (i : Nat) (h : i < p.length) (hp : p.length ≤ 8) : leN (p.drop (i + 1)) ≤ 72057594037927935 ∧ p[i].toNat < 256 := by
  have h1 := leN_lt (p.drop (i + 1))
  have h2 := pow_le64 (p.length - (i + 1)) (by omega)
  rw [List.length_drop] at h1
  exact ⟨by omega, p[i].toNat_lt⟩

theorem getV_in (l : List UInt8) (h : leN l ≤ 9223372036854775807) : getV l = leN l := IntWalk.wrap64_in _ ⟨by omega, by omega⟩

theorem pow2_le56 (m : Nat) (hm : m ≤ 56) : 1 ≤ 2 ^ m ∧ 2 ^ m ≤ 72057594037927936 := by
  have := Nat.pow_le_pow_right (n := 2) (by decide) hm
  exact ⟨Nat.one_le_two_pow, by simpa using this⟩
/-- The lowest m bits of a number. -/
theorem mask_i64 (k : Int) (m : Nat) (hm : m ≤ 56) : bits BinOp.and IntKind.i64 k (2 ^ m - 1) = k % 2 ^ m := by
  obtain ⟨p1, p2⟩ := pow2_le56 m hm
  have e0 : (2 : Int) ^ m - 1 = ((2 ^ m - 1 : Nat) : Int) := by
    have : ((2 ^ m : Nat) : Int) = (2 : Int) ^ m := by simp
    omega
  rw [e0]
  show IntKind.i64.wrap ((BitVec.ofInt 64 k &&& BitVec.ofInt 64 ((2 ^ m - 1 : Nat) : Int)).toNat : Int) = _
  have e1 : (BitVec.ofInt 64 ((2 ^ m - 1 : Nat) : Int)).toNat = 2 ^ m - 1 := by
    rw [BitVec.ofInt_natCast, BitVec.toNat_ofNat]
    exact Nat.mod_eq_of_lt (by omega)
  rw [BitVec.toNat_and, e1, Nat.and_two_pow_sub_one_eq_mod, BitVec.toNat_ofInt]
  have e2 : (((k % ((2 ^ 64 : Nat) : Int)).toNat % 2 ^ m : Nat) : Int) = k % 2 ^ m := by
    have hd : ((2 : Int) ^ m) ∣ (2 ^ 64 : Int) := ⟨2 ^ (64 - m), by rw [← Int.pow_add, show m + (64 - m) = 64 from by omega]⟩
    have h0 : 0 ≤ k % ((2 ^ 64 : Nat) : Int) := Int.emod_nonneg _ (by decide)
    rw [Int.natCast_emod, Int.toNat_of_nonneg h0]
    have h1 : ((2 ^ m : Nat) : Int) = (2 : Int) ^ m := by simp
    rw [h1]
    exact Int.emod_emod_of_dvd k hd
  rw [e2, IntKind.wrap_i64]
  have h1 : ((2 ^ m : Nat) : Int) = (2 : Int) ^ m := by simp
  have h2 := Int.emod_nonneg k (b := (2 : Int) ^ m) (by omega)
  have h3 := Int.emod_lt_of_pos k (b := (2 : Int) ^ m) (by omega)
  omega
/-- The reference's mask for a width below 8. -/
theorem mask_wd (k width : Int) (h1 : 1 ≤ width) (h8 : width < 8) : bits BinOp.and IntKind.i64 k (wrap64 (wrap64 (2 ^ (8 * width).toNat) - 1)) = wrap64 (k % 2 ^ (8 * wd width)) := by
  have e : (8 * width).toNat = 8 * wd width := by have := wd_cast width; omega
  have hw : wd width ≤ 7 := by have := wd_cast width; omega
  obtain ⟨p1, p2⟩ := pow2_le56 (8 * wd width) (by omega)
  have e1 : ((2 ^ (8 * wd width) : Nat) : Int) = (2 : Int) ^ (8 * wd width) := by simp
  have h2 := Int.emod_nonneg k (b := (2 : Int) ^ (8 * wd width)) (by omega)
  have h3 := Int.emod_lt_of_pos k (b := (2 : Int) ^ (8 * wd width)) (by omega)
  rw [e, IntWalk.wrap64_in ((2 : Int) ^ (8 * wd width)) ⟨by omega, by omega⟩, IntWalk.wrap64_in ((2 : Int) ^ (8 * wd width) - 1) ⟨by omega, by omega⟩, mask_i64 k _ (by omega), IntWalk.wrap64_in (k % 2 ^ (8 * wd width)) ⟨by omega, by omega⟩]
theorem wrap_full (k : Int) (hk : -9223372036854775808 ≤ k ∧ k ≤ 9223372036854775807) (width : Int) (h : 8 ≤ width) : wrap64 (k % 2 ^ (8 * wd width)) = k := by
  have hw : wd width = 8 := by have := wd_cast width; omega
  rw [hw, show (2 : Int) ^ (8 * 8) = 18446744073709551616 from by decide]
  unfold wrap64
  omega

theorem mask_255 (k width : Int) (h : width < 1) : bits BinOp.and IntKind.i64 k 255 = wrap64 (k % 2 ^ (8 * wd width)) := by
  have hw : wd width = 1 := by have := wd_cast width; omega
  have h2 := Int.emod_nonneg k (b := (256 : Int)) (by omega)
  have h3 := Int.emod_lt_of_pos k (b := (256 : Int)) (by omega)
  rw [hw, show (2 : Int) ^ (8 * 1) = 256 from by decide, IntWalk.wrap64_in _ ⟨by omega, by omega⟩]
  exact mask_i64 k 8 (by decide)
end Go.Proofs.Ytndnmcdbfjgglaa
