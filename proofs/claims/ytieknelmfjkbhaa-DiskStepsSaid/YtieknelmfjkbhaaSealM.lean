/- seal's sectors as lists of bytes: plain mathematics, nothing of one program. -/
import Derived.Test.YtieknelmfjkbhaaNum
import Derived.Test.YtieknelmfjkbhaaCrcM
namespace Go.Proofs.Ytieknelmfjkbhaa
open Go.RowKit

/-- n, or the nearest from 0 to hi. -/
def nr (n hi : Int) : Int := min (max n 0) hi
theorem nr_bd (n hi : Int) (h : 0 ≤ hi) : 0 ≤ nr n hi ∧ nr n hi ≤ hi := by unfold nr; omega
theorem nr_self {n hi : Int} (h0 : 0 ≤ n) (h1 : n ≤ hi) : nr n hi = n := by unfold nr; omega

/-- b over l from place p on. -/
def putL (l : List UInt8) (p : Nat) (b : List UInt8) : List UInt8 := l.take p ++ (b ++ l.drop (p + b.length))
theorem putL_length {l : List UInt8} {p : Nat} {b : List UInt8} (h : p + b.length ≤ l.length) : (putL l p b).length = l.length := by simp [putL]; omega
theorem splice_cells (l : List UInt8) (p : Nat) (b : List UInt8) : splice (cells l) p (cells b) = cells (putL l p b) := by
  simp [splice, putL, cells_append, cells_take, cells_drop]
theorem putL_mid {X M Y b : List UInt8} {p : Nat} (hp : X.length = p) (hb : M.length = b.length) : putL (X ++ (M ++ Y)) p b = X ++ (b ++ Y) := by
  subst hp
  simp only [putL, ← hb]
  rw [List.take_left' rfl, ← List.append_assoc X M Y, List.drop_left' (by simp)]


/-- The two stamps at the front. -/
def frontL (e n : Int) : List UInt8 := numB 8 e ++ numB 8 n
/-- What stands behind the sum. -/
def restL (e n k : Int) (b : List UInt8) : List UInt8 := numB 1 k ++ ([0] ++ (numB 2 (b.length : Int) ++ (cut 472 b ++ (numB 8 n ++ numB 8 e))))
def sealL (e n k : Int) (b : List UInt8) : List UInt8 := frontL e n ++ (numB 4 ((sumL (frontL e n ++ restL e n k b) : Nat) : Int) ++ restL e n k b)
/-- The sector of any seal. -/
def sectorOf (e n k : Int) (b : List UInt8) : List UInt8 := sealL (nr e 281474976710656) (nr n 281474976710656) (nr k 255) (b.take 472)

theorem frontL_length (e n : Int) : (frontL e n).length = 16 := by simp [frontL]
theorem restL_length (e n k : Int) (b : List UInt8) : (restL e n k b).length = 492 := by simp [restL, cut_length]
theorem sealL_length (e n k : Int) (b : List UInt8) : (sealL e n k b).length = 512 := by simp [sealL, frontL_length, restL_length]
theorem sectorOf_length (e n k : Int) (b : List UInt8) : (sectorOf e n k b).length = 512 := sealL_length _ _ _ _

theorem cut_short {k : Nat} {b : List UInt8} (h : b.length ≤ k) : cut k b = b ++ List.replicate (k - b.length) 0 := by
  apply List.ext_getElem
  · simp [cut_length]; omega
  · intro i h1 h2
    simp only [cut_length] at h1
    simp only [cut, List.getElem_map, List.getElem_range]
    by_cases hi : i < b.length
    · rw [List.getElem_append_left hi]; simp [List.getD, hi]
    · rw [List.getElem_append_right (by omega)]; simp [List.getD, List.getElem?_eq_none (show b.length ≤ i by omega)]
theorem cut_long {k : Nat} {b : List UInt8} (h : k ≤ b.length) : cut k b = b.take k := by
  apply List.ext_getElem
  · simp [cut_length]; omega
  · intro i h1 h2
    simp only [cut_length] at h1
    simp [cut, List.getD, List.getElem?_eq_getElem (show i < b.length by omega)]

def zeros (n : Nat) : List UInt8 := List.replicate n 0
theorem zeros_length (n : Nat) : (zeros n).length = n := by simp [zeros]
theorem zeros_add (n m : Nat) : zeros (n + m) = zeros n ++ zeros m := by simp [zeros, List.replicate_append_replicate]

/-- A sector of which the sum alone still lacks. -/
def unsummed (e n k : Int) (b : List UInt8) : List UInt8 := frontL e n ++ (zeros 4 ++ restL e n k b)

theorem filled (e n k : Int) (b : List UInt8) (hb : b.length ≤ 472) :
    putL (putL (putL (putL (putL (putL (putL (zeros 512) 0 (numB 8 e)) 8 (numB 8 n)) 20 (numB 1 k)) 24 b) 22 (numB 2 (b.length : Int))) 496 (numB 8 n)) 504 (numB 8 e) = unsummed e n k b := by
  have z : zeros 512 = [] ++ (zeros 8 ++ (zeros 8 ++ (zeros 4 ++ (zeros 1 ++ (zeros 1 ++ (zeros 2 ++ (zeros b.length ++ (zeros (472 - b.length) ++ (zeros 8 ++ (zeros 8 ++ [])))))))))) := by
    simp only [List.nil_append, List.append_nil, ← zeros_add]
    congr 1
    omega
  have hc := cut_short hb
  rw [z, putL_mid (by rfl) (by simp [zeros_length]), List.nil_append]
  rw [putL_mid (X := numB 8 e) (by simp) (by simp [zeros_length])]
  rw [show numB 8 e ++ (numB 8 n ++ (zeros 4 ++ (zeros 1 ++ (zeros 1 ++ (zeros 2 ++ (zeros b.length ++ (zeros (472 - b.length) ++ (zeros 8 ++ (zeros 8 ++ []))))))))) = (numB 8 e ++ numB 8 n ++ zeros 4) ++ (zeros 1 ++ (zeros 1 ++ (zeros 2 ++ (zeros b.length ++ (zeros (472 - b.length) ++ (zeros 8 ++ (zeros 8 ++ []))))))) from by simp only [List.append_assoc]]
  rw [putL_mid (by simp [zeros_length]) (by simp [zeros_length])]
  rw [show (numB 8 e ++ numB 8 n ++ zeros 4) ++ (numB 1 k ++ (zeros 1 ++ (zeros 2 ++ (zeros b.length ++ (zeros (472 - b.length) ++ (zeros 8 ++ (zeros 8 ++ []))))))) = (numB 8 e ++ numB 8 n ++ zeros 4 ++ numB 1 k ++ zeros 1 ++ zeros 2) ++ (zeros b.length ++ (zeros (472 - b.length) ++ (zeros 8 ++ (zeros 8 ++ [])))) from by simp only [List.append_assoc]]
  rw [putL_mid (by simp [zeros_length]) (by simp [zeros_length])]
  rw [show (numB 8 e ++ numB 8 n ++ zeros 4 ++ numB 1 k ++ zeros 1 ++ zeros 2) ++ (b ++ (zeros (472 - b.length) ++ (zeros 8 ++ (zeros 8 ++ [])))) = (numB 8 e ++ numB 8 n ++ zeros 4 ++ numB 1 k ++ zeros 1) ++ (zeros 2 ++ (b ++ (zeros (472 - b.length) ++ (zeros 8 ++ (zeros 8 ++ []))))) from by simp only [List.append_assoc]]
  rw [putL_mid (by simp [zeros_length]) (by simp [zeros_length])]
  rw [show (numB 8 e ++ numB 8 n ++ zeros 4 ++ numB 1 k ++ zeros 1) ++ (numB 2 (b.length : Int) ++ (b ++ (zeros (472 - b.length) ++ (zeros 8 ++ (zeros 8 ++ []))))) = (numB 8 e ++ numB 8 n ++ zeros 4 ++ numB 1 k ++ zeros 1 ++ numB 2 (b.length : Int) ++ b ++ zeros (472 - b.length)) ++ (zeros 8 ++ (zeros 8 ++ [])) from by simp only [List.append_assoc]]
  rw [putL_mid (by simp [zeros_length]; omega) (by simp [zeros_length])]
  rw [show (numB 8 e ++ numB 8 n ++ zeros 4 ++ numB 1 k ++ zeros 1 ++ numB 2 (b.length : Int) ++ b ++ zeros (472 - b.length)) ++ (numB 8 n ++ (zeros 8 ++ [])) = (numB 8 e ++ numB 8 n ++ zeros 4 ++ numB 1 k ++ zeros 1 ++ numB 2 (b.length : Int) ++ b ++ zeros (472 - b.length) ++ numB 8 n) ++ (zeros 8 ++ []) from by simp only [List.append_assoc]]
  rw [putL_mid (by simp [zeros_length]; omega) (by simp [zeros_length])]
  have hz : ([0] : List UInt8) = zeros 1 := rfl
  simp only [unsummed, frontL, restL, hc, List.append_assoc, List.append_nil, hz]
  rfl

theorem unsummed_length (e n k : Int) (b : List UInt8) : (unsummed e n k b).length = 512 := by simp [unsummed, frontL_length, restL_length, zeros_length]
theorem unsummed_front (e n k : Int) (b : List UInt8) : (unsummed e n k b).take 16 = frontL e n := List.take_left' (frontL_length e n)
theorem unsummed_rest (e n k : Int) (b : List UInt8) : (unsummed e n k b).drop 20 = restL e n k b := by
  rw [unsummed, ← List.append_assoc, List.drop_left' (by simp [frontL_length, zeros_length])]
theorem summed (e n k : Int) (b : List UInt8) : putL (unsummed e n k b) 16 (numB 4 ((sumL (frontL e n ++ restL e n k b) : Nat) : Int)) = sealL e n k b := by
  rw [unsummed, putL_mid (frontL_length e n) (by simp [zeros_length])]
  rfl

/-! What stands where in a sector. -/
def at8 (l : List UInt8) (p : Nat) : List UInt8 := (l.drop p).take 8
theorem drop_of {X Y : List UInt8} {p : Nat} (h : X.length = p) : (X ++ Y).drop p = Y := List.drop_left' h
theorem take_of {X Y : List UInt8} {p : Nat} (h : X.length = p) : (X ++ Y).take p = X := List.take_left' h

theorem sealL_0 (e n k : Int) (b : List UInt8) : (sealL e n k b).take 8 = numB 8 e := by
  rw [sealL, frontL, List.append_assoc, take_of (by simp)]
theorem sealL_8 (e n k : Int) (b : List UInt8) : ((sealL e n k b).drop 8).take 8 = numB 8 n := by
  rw [sealL, frontL, List.append_assoc, drop_of (by simp), take_of (by simp)]
theorem sealL_20 (e n k : Int) (b : List UInt8) : (sealL e n k b).drop 20 = restL e n k b := by
  rw [sealL, ← List.append_assoc, drop_of (by simp [frontL_length])]
theorem sealL_k (e n k : Int) (b : List UInt8) : ((sealL e n k b).drop 20).take 1 = numB 1 k := by
  rw [sealL_20, restL, take_of (by simp)]
theorem sealL_22 (e n k : Int) (b : List UInt8) : (sealL e n k b).drop 22 = numB 2 (b.length : Int) ++ (cut 472 b ++ (numB 8 n ++ numB 8 e)) := by
  rw [show (22 : Nat) = 20 + 2 from rfl, ← List.drop_drop, sealL_20, restL, ← List.append_assoc, drop_of (by simp)]
theorem sealL_long (e n k : Int) (b : List UInt8) : ((sealL e n k b).drop 22).take 2 = numB 2 (b.length : Int) := by
  rw [sealL_22, take_of (by simp)]
theorem sealL_24 (e n k : Int) (b : List UInt8) : (sealL e n k b).drop 24 = cut 472 b ++ (numB 8 n ++ numB 8 e) := by
  rw [show (24 : Nat) = 22 + 2 from rfl, ← List.drop_drop, sealL_22, drop_of (by simp)]
theorem sealL_496 (e n k : Int) (b : List UInt8) : (sealL e n k b).drop 496 = numB 8 n ++ numB 8 e := by
  rw [show (496 : Nat) = 24 + 472 from rfl, ← List.drop_drop, sealL_24, drop_of (by simp [cut_length])]
theorem sealL_504 (e n k : Int) (b : List UInt8) : (sealL e n k b).drop 504 = numB 8 e := by
  rw [show (504 : Nat) = 496 + 8 from rfl, ← List.drop_drop, sealL_496, drop_of (by simp)]
theorem sealL_496' (e n k : Int) (b : List UInt8) : ((sealL e n k b).drop 496).take 8 = numB 8 n := by
  rw [sealL_496, take_of (by simp)]

/-- A number that was put is got. -/
theorem getV_numB (k : Nat) (n : Int) (h0 : 0 ≤ n) (h1 : n < 2 ^ (8 * k)) (h2 : n ≤ 9223372036854775807) : getV (numB k n) = n := by
  have h := leN_numB k n
  rw [Int.emod_eq_of_lt h0 h1] at h
  rw [getV_in _ (by omega), h]

/-- What a sector claims to hold. -/
def cE (l : List UInt8) : Int := getV (l.take 8)
def cN (l : List UInt8) : Int := getV ((l.drop 8).take 8)
def cK (l : List UInt8) : Int := getV ((l.drop 20).take 1)
def cL (l : List UInt8) : Int := getV ((l.drop 22).take 2)
def cB (l : List UInt8) : List UInt8 := cut (min (cL l) 472).toNat (l.drop 24)
/-- Is it what is put of what it claims? -/
def okL (l : List UInt8) : Prop := l = sectorOf (cE l) (cN l) (cK l) (cB l)
instance (l : List UInt8) : Decidable (okL l) := inferInstanceAs (Decidable (l = _))

theorem getV_short (p : List UInt8) (h : p.length ≤ 2) : 0 ≤ getV p ∧ getV p ≤ 65535 := by
  have h1 := leN_lt p
  have h2 : 2 ^ (8 * p.length) ≤ 2 ^ 16 := Nat.pow_le_pow_right (by decide) (by omega)
  rw [getV_in _ (by omega)]
  omega
theorem getV_one (p : List UInt8) (h : p.length ≤ 1) : 0 ≤ getV p ∧ getV p ≤ 255 := by
  have h1 := leN_lt p
  have h2 : 2 ^ (8 * p.length) ≤ 2 ^ 8 := Nat.pow_le_pow_right (by decide) (by omega)
  rw [getV_in _ (by omega)]
  omega

theorem cE_sealL (e n k : Int) (b : List UInt8) (h0 : 0 ≤ e) (h1 : e ≤ 281474976710656) : cE (sealL e n k b) = e := by
  rw [cE, sealL_0, getV_numB 8 e h0 (by omega) (by omega)]
theorem cN_sealL (e n k : Int) (b : List UInt8) (h0 : 0 ≤ n) (h1 : n ≤ 281474976710656) : cN (sealL e n k b) = n := by
  rw [cN, sealL_8, getV_numB 8 n h0 (by omega) (by omega)]
theorem cK_sealL (e n k : Int) (b : List UInt8) (h0 : 0 ≤ k) (h1 : k ≤ 255) : cK (sealL e n k b) = k := by
  rw [cK, sealL_k, getV_numB 1 k h0 (by omega) (by omega)]
theorem cL_sealL (e n k : Int) (b : List UInt8) (h1 : b.length ≤ 472) : cL (sealL e n k b) = b.length := by
  rw [cL, sealL_long, getV_numB 2 _ (by omega) (by omega) (by omega)]
theorem cB_sealL (e n k : Int) (b : List UInt8) (h1 : b.length ≤ 472) : cB (sealL e n k b) = b := by
  rw [cB, cL_sealL _ _ _ _ h1, sealL_24, show (min (b.length : Int) 472).toNat = b.length from by omega, cut_long (by simp [cut_length]; omega), cut_short h1, List.append_assoc, take_of rfl]

section
variable (e n k : Int) (b : List UInt8)
theorem b_le : (b.take 472).length ≤ 472 := by simp; omega
theorem cE_sector : cE (sectorOf e n k b) = nr e 281474976710656 := cE_sealL _ _ _ _ (nr_bd _ _ (by decide)).1 (nr_bd _ _ (by decide)).2
theorem cN_sector : cN (sectorOf e n k b) = nr n 281474976710656 := cN_sealL _ _ _ _ (nr_bd _ _ (by decide)).1 (nr_bd _ _ (by decide)).2
theorem cK_sector : cK (sectorOf e n k b) = nr k 255 := cK_sealL _ _ _ _ (nr_bd _ _ (by decide)).1 (nr_bd _ _ (by decide)).2
theorem cB_sector : cB (sectorOf e n k b) = b.take 472 := cB_sealL _ _ _ _ (b_le b)
theorem nr_nr (n hi : Int) (h : 0 ≤ hi) : nr (nr n hi) hi = nr n hi := nr_self (nr_bd n hi h).1 (nr_bd n hi h).2
/-- What was put is got. -/
theorem okL_sector : okL (sectorOf e n k b) := by
  unfold okL
  rw [cE_sector, cN_sector, cK_sector, cB_sector]
  unfold sectorOf
  rw [nr_nr _ _ (by decide), nr_nr _ _ (by decide), nr_nr _ _ (by decide), List.take_take, Nat.min_self]
end

theorem okL_len {l : List UInt8} (h : okL l) : l.length = 512 := by rw [h, sectorOf_length]
theorem okL_stamps {l : List UInt8} (h : okL l) : l.drop 504 = l.take 8 := by
  rw [h]; unfold sectorOf; rw [sealL_504, sealL_0]
theorem okL_nos {l : List UInt8} (h : okL l) : (l.drop 496).take 8 = (l.drop 8).take 8 := by
  rw [h]; unfold sectorOf; rw [sealL_496', sealL_8]
theorem okL_long {l : List UInt8} (h : okL l) : cL l ≤ 472 := by
  rw [h]; unfold sectorOf; rw [cL_sealL _ _ _ _ (b_le _)]; have := b_le (cB l); omega

theorem cK_at (l : List UInt8) (h : 20 < l.length) : cK l = (l[20].toNat : Int) := by
  have e : (l.drop 20).take 1 = [l[20]] := by
    rw [List.drop_eq_getElem_cons h, List.take_succ_cons, List.take_zero]
  have hb := (l[20]).toNat_lt
  rw [cK, e, getV_in _ (by simp [leN]; omega)]
  simp [leN]
theorem cB_take (l : List UInt8) (hl : l.length = 512) (h : cL l ≤ 472) : cB l = (l.drop 24).take (cL l).toNat := by
  rw [cB, show min (cL l) 472 = cL l from by omega, cut_long (by simp; omega)]
theorem cL_bd (l : List UInt8) : 0 ≤ cL l ∧ cL l ≤ 65535 := getV_short _ (by simp; omega)

/-- The first k words of b over a, or the last -k. -/
def tearL (a b : List UInt8) (k : Int) : List UInt8 :=
  if 0 ≤ k then b.take (8 * (min k 64).toNat) ++ a.drop (8 * (min k 64).toNat) else a.take (512 - 8 * (min (-k) 64).toNat) ++ b.drop (512 - 8 * (min (-k) 64).toNat)
theorem tearL_length {a b : List UInt8} (ha : a.length = 512) (hb : b.length = 512) (k : Int) : (tearL a b k).length = 512 := by
  unfold tearL
  split <;> simp <;> omega
theorem tear_put0 {a b : List UInt8} (hb : b.length = 512) (k : Int) (h : 0 ≤ k) (F : Nat) (hF : F = 8 * (min k 64).toNat) : putL a 0 ((b.drop 0).take F) = tearL a b k := by
  have h2 : F ≤ 512 := by omega
  rw [tearL, if_pos h, ← hF, putL]
  simp only [List.take_zero, List.nil_append, List.drop_zero, Nat.zero_add, List.length_take]
  rw [Nat.min_eq_left (by omega)]
theorem tear_putF {a b : List UInt8} (ha : a.length = 512) (hb : b.length = 512) (k : Int) (h : k < 0) (F : Nat) (hF : F = 512 - 8 * (min (-k) 64).toNat) : putL a F ((b.drop F).take (512 - F)) = tearL a b k := by
  have h2 : F ≤ 512 := by omega
  have e1 : (b.drop F).take (512 - F) = b.drop F := List.take_of_length_le (by simp; omega)
  have e2 : a.drop (F + (b.drop F).length) = [] := List.drop_of_length_le (by simp; omega)
  rw [tearL, if_neg (by omega), ← hF, putL, e1, e2, List.append_nil]
/-- Word by word. -/
theorem tear_word {a b : List UInt8} (ha : a.length = 512) (hb : b.length = 512) (k : Int) (j : Nat) (hj : j < 64) : ((tearL a b k).drop (8 * j)).take 8 = (((if 0 < k ∧ (j : Int) < k ∨ k < 0 ∧ k ≤ (j : Int) - 64 then b else a).drop (8 * j)).take 8) := by
  unfold tearL
  by_cases h : 0 ≤ k
  · rw [if_pos h]
    by_cases h2 : (j : Int) < k
    · rw [if_pos (.inl ⟨by omega, h2⟩), List.drop_append_of_le_length (by simp; omega), List.take_append_of_le_length (by simp; omega), List.drop_take, List.take_take, Nat.min_eq_left (by omega)]
    · rw [if_neg (by omega), List.drop_append, List.drop_of_length_le (by simp; omega), List.nil_append, List.drop_drop, List.length_take]
      congr 2
      omega
  · rw [if_neg h]
    by_cases h2 : k ≤ (j : Int) - 64
    · rw [if_pos (.inr ⟨by omega, h2⟩), List.drop_append, List.drop_of_length_le (by simp; omega), List.nil_append, List.drop_drop, List.length_take]
      congr 2
      omega
    · rw [if_neg (by omega), List.drop_append_of_le_length (by simp; omega), List.take_append_of_le_length (by simp; omega), List.drop_take, List.take_take, Nat.min_eq_left (by omega)]
theorem take_words (l : List UInt8) (j : Nat) : l.take (8 * (j + 1)) = l.take (8 * j) ++ (l.drop (8 * j)).take 8 := by
  rw [Nat.mul_add, Nat.mul_one, List.take_add]
end Go.Proofs.Ytieknelmfjkbhaa
