/- The contract of le's addNum. -/
import Derived.Test.YtndnmcdbfjgglaaNum
import Derived.Test.YtndnmcdbfjgglaaLe1w
import Derived.Test.YtndnmcdbfjgglaaBase
namespace Go.Proofs.Ytndnmcdbfjgglaa
open Go.RowKit

theorem addNum_any (B : Nat) (v : Value) (m : Nat) (xs : List Value) (k : Nat) (n : Int) (w : World) (hB : B ≤ w.heap.size) (hown : w.ownsRow B 5 1 v m xs) (hk : k ≤ 8) (hm : m ≤ 1099511627776) :
    Calls Try.prog 30 #[v, .int .i64 k, .int .i64 n] w fun e w' => ∃ v', e = .returned v' ∧ w'.ownsRow B 5 1 v' (m + k) (xs ++ cells (numB k n)) ∧ Below B w w' := by
  go_enter Try.func30, Try.ntmps30
  go_wp2
  go_loopw [0, 9] (fun v i wr => ∃ j : Nat, j ≤ k ∧ i = .int .i64 j ∧ wr.ownsRow B 5 1 v (m + j) (xs ++ cells (numB j n)) ∧ Below B w wr) (fun _ i _ => k - (intOf i).toNat)
  case atStart => exact ⟨0, Nat.zero_le _, rfl, by simpa [numB_zero, cells_nil] using hown, Below.refl _ _⟩
  case round =>
    obtain ⟨j, hj, rfl, hown1, hb1⟩ := hrel
    by_cases hlt : j < k
    · have hR : Rd (wr.alloc (.cells #[.int .u8 (n / 2 ^ (8 * j) % 256)] 5)) (some ⟨wr.heap.size, 0, none⟩) 1 [byteOf n j] := by
        have := Rd.new wr 5 [byteOf n j] (0, 0)
        simpa [cells, byteOf_toNat] using this
      have hs := hb1.size
      go_wp2_with (at_builtin; refine wpList_app _ bytesT rfl (.tmp 12) (.tmp 18) rfl B _ (m + j) _ rfl (hown1.alloc _) _ 1 1 [byteOf n j] rfl hR (by omega) (by simp; omega) ?_; intro v2 w2 hown2 hb2)
      go_roundw
      case rel => exact ⟨j + 1, hlt, by go_num, by rw [numB_succ, cells_append, ← List.append_assoc]; exact hown2, (hb1.alloc (by omega) _).trans hb2⟩
      case measure => simp [intOf]; omega
    · go_wp2
      go_ret
      have : j = k := by omega
      subst this
      exact ⟨_, rfl, hown1, hb1⟩

theorem addNum_two (B : Nat) (v : Value) (m : Nat) (xs : List Value) (n : Int) (w : World) (hB : B ≤ w.heap.size) (hown : w.ownsRow B 5 1 v m xs) (hm : m ≤ 1099511627776) :
    Calls Try.prog 30 #[v, .int .i64 2, .int .i64 n] w fun e w' => ∃ v', e = .returned v' ∧ w'.ownsRow B 5 1 v' (m + 2) (xs ++ cells (numB 2 n)) ∧ Below B w w' :=
  addNum_any B v m xs 2 n w hB hown (by omega) hm
end Go.Proofs.Ytndnmcdbfjgglaa
