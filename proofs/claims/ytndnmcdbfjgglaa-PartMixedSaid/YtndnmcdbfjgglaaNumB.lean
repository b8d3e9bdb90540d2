/- Numbers as bytes, there and back: plain. -/
import Derived.Test.YtndnmcdbfjgglaaNum
namespace Go.Proofs.Ytndnmcdbfjgglaa
open Go.RowKit

theorem numB_leN (b : List UInt8) : numB b.length (leN b : Nat) = b := by
  apply List.ext_getElem
  · simp
  · intro i h1 h2
    have hb : (numB b.length (leN b : Nat))[i] = byteOf (leN b : Nat) i := by simp [numB]
    rw [hb]
    apply UInt8.toNat_inj.1
    have e := byteOf_toNat (leN b : Nat) i
    have hs : leN b = leN (b.take i) + 2 ^ (8 * i) * leN (b.drop i) := by
      have := leN_append (b.take i) (b.drop i)
      rw [List.take_append_drop, List.length_take, Nat.min_eq_left (Nat.le_of_lt h2)] at this
      exact this
    have hlt : leN (b.take i) < 2 ^ (8 * i) := by
      have := leN_lt (b.take i)
      rwa [List.length_take, Nat.min_eq_left (Nat.le_of_lt h2)] at this
    have hd := leN_drop b i h2
    have hdiv : leN b / 2 ^ (8 * i) = leN (b.drop i) := by
      rw [hs, Nat.add_mul_div_left _ _ (Nat.pow_pos (by decide)), Nat.div_eq_of_lt hlt, Nat.zero_add]
    have h256 := b[i].toNat_lt
    have e2 : ((leN b : Nat) : Int) / 2 ^ (8 * i) % 256 = ((leN b / 2 ^ (8 * i) % 256 : Nat) : Int) := by simp
    rw [e2, hdiv, hd] at e
    omega
theorem numB_getV {b : List UInt8} {k : Nat} (h : b.length = k) (hk : k ≤ 7) : numB k (getV b) = b := by
  have h1 := leN_lt b
  have h2 : 2 ^ (8 * b.length) ≤ 2 ^ 56 := Nat.pow_le_pow_right (by decide) (by omega)
  rw [getV_in _ (by omega), ← h]
  exact numB_leN b
theorem getV_numB {x : Int} {k : Nat} (hk : k ≤ 7) (h0 : 0 ≤ x) (hx : x < 2 ^ (8 * k)) : getV (numB k x) = x := by
  have h1 := leN_lt (numB k x)
  rw [numB_length] at h1
  have h2 : 2 ^ (8 * k) ≤ 2 ^ 56 := Nat.pow_le_pow_right (by decide) (by omega)
  rw [getV_in _ (by omega), leN_numB, Int.emod_eq_of_lt h0 hx]
theorem wrap64_mod (n : Int) : wrap64 n % 18446744073709551616 = n % 18446744073709551616 := by unfold wrap64; omega
/-- Eight bytes are any number. -/
theorem numB8_wrap (n : Nat) : numB 8 (wrap64 (n : Int)) = numB 8 (n : Int) := by
  apply List.ext_getElem
  · simp
  · intro i h1 h2
    have hi : i < 8 := by simpa using h2
    simp only [numB, List.getElem_map, List.getElem_range]
    apply UInt8.toNat_inj.1
    have r1 := rest64_byte (wrap64 (n : Int)) i hi
    have r2 := rest64_byte (n : Int) i hi
    have r : rest64 (wrap64 (n : Int)) i = rest64 (n : Int) i := by unfold rest64; rw [wrap64_mod]
    rw [r] at r1
    exact Int.ofNat.inj (r1.symm.trans r2)
theorem numB8_getV {b : List UInt8} (h : b.length = 8) : numB 8 (getV b) = b := by
  unfold getV
  rw [numB8_wrap, ← h]
  exact numB_leN b
theorem getV_numB8 {x : Int} (hx : (Lit.int .i64 x).wf = true) : getV (numB 8 x) = x := by
  have hb := bounds_i64 hx
  unfold getV
  rw [leN_numB, show (2 : Int) ^ (8 * 8) = 18446744073709551616 from by decide]
  unfold wrap64
  omega
end Go.Proofs.Ytndnmcdbfjgglaa
