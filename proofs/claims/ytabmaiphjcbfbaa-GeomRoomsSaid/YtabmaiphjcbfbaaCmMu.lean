/- The contract of the reference's Much of layouts. -/
import Derived.Test.YtabmaiphjcbfbaaCmL
import Derived.Test.YtabmaiphjcbfbaaCmA
namespace Go.Proofs.Ytabmaiphjcbfbaa
open Go.RowKit
set_option linter.unusedVariables false

section
variable (lg pg en gn : Int) (A : Option Addr) (n cap : Nat) (ks : List Kd) (w : World)

theorem any_snoc {ks : List Kd} {j : Nat} (h : j < ks.length) : (ks.take (j + 1)).any (fun k => decide (100 < k.1.size)) = ((ks.take j).any (fun k => decide (100 < k.1.size)) || decide (100 < ks[j].1.size)) := by
  rw [take_snoc h, List.any_append]
  simp
theorem any_of_take {ks : List Kd} {j : Nat} (hj : j ≤ 50) (h : (ks.take j).any (fun k => decide (100 < k.1.size)) = true) : muchK ks = true := by
  rw [List.any_eq_true] at h
  obtain ⟨x, hx, hp⟩ := h
  unfold muchK
  rw [Bool.or_eq_true]
  exact .inl (List.any_eq_true.2 ⟨x, List.take_subset_take_left ks hj hx, hp⟩)

theorem Much_any (h : KRd w A n ks) (hn : n ≤ 9223372036854775807) (hs : Lens ks) :
    Calls Try.prog 6 #[cv lg pg en gn A n cap] w fun e w' => e = .returned (.bool (muchK ks)) ∧ Below w.heap.size w w' := by
  obtain ⟨w1, hw1⟩ : ∃ w1, w1 = w.alloc (.cells (cc lg pg en gn A n cap) 24) := ⟨_, rfl⟩
  have C1 := CAt.new h lg pg en gn cap
  rw [← hw1] at C1
  obtain ⟨g, hg⟩ : ∃ g, g = w.heap.size := ⟨_, rfl⟩
  rw [← hg] at C1
  have c4 := C1.c4
  have hl := h.1
  have K1 := Lib.hid C1
  have HG := Lib.hid hg
  have HS := Lib.hid hs
  clear h hg C1 hs
  go_enter Try.func6, Try.ntmps6
  go_wp2_with (rw [← hw1, ← HG.out]; clear hw1)
  go_loop [3] (fun i => ∃ j : Nat, j ≤ n ∧ j ≤ 50 ∧ i = .int .i64 j ∧ (ks.take j).any (fun k => decide (100 < k.1.size)) = false) (fun i => n - (intOf i).toNat)
  case atStart => exact ⟨0, Nat.zero_le _, Nat.zero_le _, rfl, rfl⟩
  case round =>
    obtain ⟨j, hj, hj5, rfl, hf⟩ := hrel
    by_cases hlt : j < n
    · by_cases hlt5 : j < 50
      · obtain ⟨b, o, s', z, rfl, _, k0, k1, hl', hk⟩ := K1.out.rd.at_ hlt
        have hsn := any_snoc hl'
        rw [hk, hf, Bool.false_or] at hsn
        have hsz := HS.out.at_ hl' hk
        by_cases h1 : 100 < s'.size
        · rw [decide_eq_true h1] at hsn
          have HM := Lib.hid (any_of_take (by omega) hsn)
          clear hsn hk hf
          go_wp2
          go_ret
          rw [HM.out]
          exact ⟨rfl, K1.out.bel⟩
        · have HSN := Lib.hid (hsn.trans (decide_eq_false h1))
          clear hsn hk hf
          go_wp2
          go_round
          case rel => exact ⟨j + 1, hlt, hlt5, by go_num, HSN.out⟩
          case measure => simp [intOf]; omega
      · obtain rfl : j = 50 := by omega
        have e1 : muchK ks = true := by unfold muchK; rw [Bool.or_eq_true]; exact .inr (decide_eq_true (by omega))
        have E1 := Lib.hid e1
        clear hf e1
        go_wp2
        go_ret
        rw [E1.out]
        exact ⟨ret_bool (a := decide ((40 : Int) < (n : Int))) (decide_eq_true (by omega)), K1.out.bel⟩
    · have e1 : muchK ks = decide (40 < n) := by
        unfold muchK
        rw [show ks.take 50 = ks.take j by rw [List.take_of_length_le (by omega), List.take_of_length_le (by omega)], hf, Bool.false_or, hl]
      have E1 := Lib.hid e1
      clear hf e1
      go_wp2
      go_ret
      rw [E1.out]
      exact ⟨ret_bool (a := decide ((40 : Int) < (n : Int))) (by rw [Bool.eq_iff_iff]; simp <;> omega), K1.out.bel⟩
end
end Go.Proofs.Ytabmaiphjcbfbaa
