/- Torn sectors: plain mathematics, nothing of one program. -/
import Derived.Test.YtlafeobiodolbaaSeal12
namespace Go.Proofs.Ytlafeobiodolbaa
open Go.RowKit

def word (l : List UInt8) (j : Nat) : List UInt8 := (l.drop (8 * j)).take 8
theorem word_tear {a b : List UInt8} (ha : a.length = 512) (hb : b.length = 512) (k : Int) (j : Nat) (hj : j < 64) : word (tearL a b k) j = word (if 0 < k ∧ (j : Int) < k ∨ k < 0 ∧ k ≤ (j : Int) - 64 then b else a) j := tear_word ha hb k j hj
theorem eq_of_words {a b : List UInt8} (ha : a.length = 512) (hb : b.length = 512) (h : ∀ j, j < 64 → word a j = word b j) : a = b := by
  have h2 : ∀ j, j ≤ 64 → a.take (8 * j) = b.take (8 * j) := by
    intro j
    induction j with
    | zero => intro _; simp
    | succ j ih => intro hj; rw [take_words, take_words, ih (by omega)]; exact congrArg _ (h j (by omega))
  have h3 := h2 64 (by omega)
  rw [List.take_of_length_le (by omega), List.take_of_length_le (by omega)] at h3
  exact h3
theorem cut_self {l : List UInt8} {k : Nat} (h : l.length = k) : cut k l = l := by rw [cut_long (by omega), List.take_of_length_le (by omega)]
theorem tear_next {a b : List UInt8} (ha : a.length = 512) (hb : b.length = 512) (k : Int) (h : 63 < k ∨ k < -63) : tearL a b k = b :=
  eq_of_words (tearL_length ha hb k) hb fun j hj => by rw [word_tear ha hb k j hj, if_pos (by omega)]
theorem tear_old {a b : List UInt8} (ha : a.length = 512) (hb : b.length = 512) : tearL a b 0 = a :=
  eq_of_words (tearL_length ha hb 0) ha fun j hj => by rw [word_tear ha hb 0 j hj, if_neg (by omega)]

section
variable (e n k : Int) (b : List UInt8)
theorem word0 : word (sectorOf e n k b) 0 = numB 8 (nr e 281474976710656) := sealL_0 _ _ _ _
theorem word1 : word (sectorOf e n k b) 1 = numB 8 (nr n 281474976710656) := sealL_8 _ _ _ _
theorem word62 : word (sectorOf e n k b) 62 = numB 8 (nr n 281474976710656) := sealL_496' _ _ _ _
theorem word63 : word (sectorOf e n k b) 63 = numB 8 (nr e 281474976710656) := by
  have h := sealL_504 (nr e 281474976710656) (nr n 281474976710656) (nr k 255) (b.take 472)
  unfold word sectorOf
  rw [show 8 * 63 = 504 from rfl, h, List.take_of_length_le (by simp)]
end
theorem ok_words {t : List UInt8} (h : okL t) : word t 63 = word t 0 ∧ word t 62 = word t 1 := by
  rw [h]
  exact ⟨by rw [word63, word0], by rw [word62, word1]⟩
theorem epF_word {a : List UInt8} (ha : a.length = 512) : epF a = ep (getV (word a 0)) := by rw [epF, if_pos ha]; rfl
theorem epB_word {a : List UInt8} (ha : a.length = 512) : epB a = ep (getV (word a 63)) := by rw [epB, if_pos ha]; rfl
theorem ep_num (e : Int) : ep (getV (numB 8 (nr e 281474976710656))) = nr e 281474976710656 := by
  have h := nr_bd e 281474976710656 (by decide)
  rw [getV_numB 8 _ h.1 (by omega) (by omega), ep_nr_self]

/-- A part of a seal over what has another epoch at both ends is none. -/
theorem torn_not {a : List UInt8} (ha : a.length = 512) (e n q : Int) (b : List UInt8) (k : Int) (h1 : epF a ≠ nr e 281474976710656) (h2 : epB a ≠ nr e 281474976710656) (hk : k ≠ 0) (hk1 : -63 ≤ k) (hk2 : k ≤ 63) : ¬ okL (tearL a (sectorOf e n q b) k) := by
  intro hok
  have hb := sectorOf_length e n q b
  have hw := (ok_words hok).1
  rw [word_tear ha hb k 63 (by omega), word_tear ha hb k 0 (by omega)] at hw
  by_cases h : 0 < k
  · rw [if_neg (by omega), if_pos (by omega), word0] at hw
    exact h2 (by rw [epB_word ha, hw, ep_num])
  · rw [if_pos (by omega), if_neg (by omega), word63] at hw
    exact h1 (by rw [epF_word ha, ← hw, ep_num])

/-- A part of a seal over another of the same epoch is either of both, or none. -/
theorem turn_or (e n q : Int) (b : List UInt8) (n' q' : Int) (b' : List UInt8) (k : Int) (hn : nr n 281474976710656 ≠ nr n' 281474976710656) (hok : okL (tearL (sectorOf e n q b) (sectorOf e n' q' b') k)) :
    tearL (sectorOf e n q b) (sectorOf e n' q' b') k = sectorOf e n q b ∨ tearL (sectorOf e n q b) (sectorOf e n' q' b') k = sectorOf e n' q' b' := by
  have ha := sectorOf_length e n q b
  have hb := sectorOf_length e n' q' b'
  have hne : numB 8 (nr n 281474976710656) ≠ numB 8 (nr n' 281474976710656) := fun h => hn (by
    have g1 := nr_bd n 281474976710656 (by decide)
    have g2 := nr_bd n' 281474976710656 (by decide)
    have := congrArg getV h
    rwa [getV_numB 8 _ g1.1 (by omega) (by omega), getV_numB 8 _ g2.1 (by omega) (by omega)] at this)
  have hw := (ok_words hok).2
  rw [word_tear ha hb k 62 (by omega), word_tear ha hb k 1 (by omega)] at hw
  by_cases c1 : (1 < k ∧ k ≤ 62) ∨ (-62 ≤ k ∧ k < -1)
  · exfalso
    rcases c1 with c | c
    · rw [if_neg (by omega), if_pos (by omega), word62, word1] at hw
      exact hne hw
    · rw [if_pos (by omega), if_neg (by omega), word62, word1] at hw
      exact hne hw.symm
  · by_cases c2 : -1 ≤ k ∧ k ≤ 1
    · refine .inl (eq_of_words (tearL_length ha hb k) ha fun j hj => ?_)
      rw [word_tear ha hb k j hj]
      split
      · have : j = 0 ∨ j = 63 := by omega
        rcases this with rfl | rfl
        · rw [word0, word0]
        · rw [word63, word63]
      · rfl
    · refine .inr (eq_of_words (tearL_length ha hb k) hb fun j hj => ?_)
      rw [word_tear ha hb k j hj]
      split
      · rfl
      · have : j = 0 ∨ j = 63 := by omega
        rcases this with rfl | rfl
        · rw [word0, word0]
        · rw [word63, word63]
end Go.Proofs.Ytlafeobiodolbaa
