/- The contract of the reference's Has. -/
import Derived.Test.YtigiepmmgghjlaaInts
import Derived.Test.YtigiepmmgghjlaaBitsM
import Derived.Laws.BitsAllLaws
import Derived.Laws.Bits128
import Derived.Deep.WholeRow
namespace Go.Proofs.Ytigiepmmgghjlaa
open Go.RowKit

/-- The document's Has. -/
theorem RHas_any (s : Nat) (c : Int) (w : World) (hs : s < 18446744073709551616) :
    Calls Try.prog 33 #[.int .u64 s, .int .i64 c] w fun e w' => e = .returned (.bool (decide (0 ≤ c ∧ c < 64 ∧ s.testBit c.toNat = true))) ∧ w = w' := by
  by_cases h0 : 0 ≤ c
  · by_cases h1 : c < 64
    · obtain ⟨k, hk⟩ : ∃ k : Nat, c = (k : Int) := ⟨c.toNat, by omega⟩
      subst hk
      have hk : k ≤ 63 := by omega
      clear h0 h1
      have hb : decide (0 ≤ (k : Int) ∧ (k : Int) < 64 ∧ s.testBit ((k : Int)).toNat = true) = decide (s / 2 ^ k % 2 = 1) := by
        have h1 : (k : Int) < 64 := by omega
        rw [Nat.testBit_eq_decide_div_mod_eq]
        simp [h1]
      rw [hb]
      clear hb
      go_enter Try.func33, Try.ntmps33
      go_wp2
      go_loop [0, 5] (fun v i => ∃ j : Nat, j ≤ k ∧ i = .int .i64 j ∧ v = .int .u64 (s / 2 ^ j : Nat)) (fun _ i => k - (intOf i).toNat)
      case atStart => exact ⟨0, Nat.zero_le _, rfl, by simp⟩
      case round =>
        obtain ⟨j, hj, rfl, rfl⟩ := hrel
        obtain ⟨t, ht⟩ : ∃ t, t = s / 2 ^ j := ⟨_, rfl⟩
        have htl : t < 18446744073709551616 := by rw [ht]; exact Nat.lt_of_le_of_lt (Nat.div_le_self _ _) hs
        rw [← ht]
        by_cases hjk : j < k
        · have h2 : s / 2 ^ (j + 1) = t / 2 := by rw [Nat.pow_succ, ← Nat.div_div_eq_div_mul, ← ht]
          clear ht
          go_wp2
          go_round
          case rel => exact ⟨j + 1, hjk, by go_num, by rw [h2]; rfl⟩
          case measure => simp [intOf]; omega
        · have e : j = k := by omega
          subst e
          have HT := Lib.hid ht
          clear ht
          go_wp2
          go_ret
          exact ⟨ret_bool (by rw [← HT.out, Bool.eq_iff_iff]; simp; omega), rfl⟩
    · have hb : decide (0 ≤ c ∧ c < 64 ∧ s.testBit c.toNat = true) = false := by simp; omega
      rw [hb]
      clear hb
      go_enter Try.func33, Try.ntmps33
      go_wp2
      go_ret
      exact ⟨rfl, rfl⟩
  · have hb : decide (0 ≤ c ∧ c < 64 ∧ s.testBit c.toNat = true) = false := by simp; omega
    rw [hb]
    clear hb
    go_enter Try.func33, Try.ntmps33
    go_wp2
    go_ret
    exact ⟨rfl, rfl⟩
end Go.Proofs.Ytigiepmmgghjlaa
