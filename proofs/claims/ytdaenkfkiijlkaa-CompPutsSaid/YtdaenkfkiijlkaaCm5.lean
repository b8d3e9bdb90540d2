/- The contracts of Find, Size, the reference's Find, Size, Much. -/
import Derived.Test.YtdaenkfkiijlkaaCm4
namespace Go.Proofs.Ytdaenkfkiijlkaa
open Go.RowKit
set_option linter.unusedVariables false

section
variable (lg pg en gn : Int) (A : Option Addr) (n cap : Nat) (ks : List Kd) (w : World)

theorem Find_any (h : KRd w A n ks) (hn : n ≤ 1000000) (s : ByteArray) :
    Calls Try.prog 9 #[cv lg pg en gn A n cap, .string s] w fun e w' => e = .returned (.tuple #[.int .i64 (findK ks s).1, .bool (findK ks s).2]) ∧ Below w.heap.size w w' := by
  obtain ⟨w1, hw1⟩ : ∃ w1, w1 = w.alloc (.cells (cc lg pg en gn A n cap) 24) := ⟨_, rfl⟩
  have C1 := CAt.new h lg pg en gn cap
  rw [← hw1] at C1
  obtain ⟨g, hg⟩ : ∃ g, g = w.heap.size := ⟨_, rfl⟩
  rw [← hg] at C1
  have c4 := C1.c4
  have hl := h.1
  have K1 := Lib.hid C1
  have HG := Lib.hid hg
  clear h hg C1
  go_enter Try.func9, Try.ntmps9
  go_wp2_with (rw [← hw1, ← HG.out]; clear hw1)
  go_loopw [11] (fun i wr => ∃ j : Nat, j ≤ n ∧ i = .int .i64 j ∧ First ks s j ∧ CAt w wr g lg pg en gn A n cap ks) (fun i _ => n - (intOf i).toNat)
  case atStart => exact ⟨0, Nat.zero_le _, rfl, First.zero _ _, K1.out⟩
  case round =>
    obtain ⟨j, hj, rfl, hf, hC⟩ := hrel
    by_cases hlt : j < n
    · obtain ⟨b, o, s', z, rfl, _, k0, k1, hl', hk⟩ := hC.rd.at_ hlt
      have hsn := First.succ (s := s) hl'
      rw [hk] at hsn
      have hC2 := hC.next ((Below.refl _ _).alloc (Nat.le_refl _) (.cells #[.string s', .int .i64 z] 50))
      have HC := Lib.hid hC2
      by_cases hss : s' = s
      · subst hss
        have hfy := findK_yes ks s' j hl' hf (by rw [hk])
        have HFY := Lib.hid hfy
        clear hsn hk hf hfy hC hC2
        go_wp2
        go_ret2
        rw [HFY.out]
        exact ⟨rfl, HC.out.bel⟩
      · have hbe : (s'.toList == s.toList) = false := by rw [toList_inj]; exact decide_eq_false hss
        have HF := Lib.hid (hsn.2 ⟨hf, hss⟩)
        clear hsn hk hf hss hC hC2
        go_wp2
        go_roundw
        case rel => exact ⟨j + 1, hlt, by go_num, HF.out, HC.out⟩
        case measure => simp [intOf]; omega
    · have hfn := findK_no ks s (fun k hk => hf k (by rw [List.take_of_length_le (by omega)]; exact hk))
      have HFN := Lib.hid hfn
      have HC := Lib.hid hC
      clear hf hfn hC
      go_wp2
      go_ret2
      rw [HFN.out]
      exact ⟨rfl, HC.out.bel⟩

theorem RFind_any (h : KRd w A n ks) (hn : n ≤ 1000000) (s : ByteArray) :
    Calls Try.prog 10 #[cv lg pg en gn A n cap, .string s] w fun e w' => e = .returned (.tuple #[.int .i64 (findK ks s).1, .bool (findK ks s).2]) ∧ Below w.heap.size w w' := by
  obtain ⟨w1, hw1⟩ : ∃ w1, w1 = w.alloc (.cells (cc lg pg en gn A n cap) 24) := ⟨_, rfl⟩
  have C1 := CAt.new h lg pg en gn cap
  rw [← hw1] at C1
  obtain ⟨g, hg⟩ : ∃ g, g = w.heap.size := ⟨_, rfl⟩
  rw [← hg] at C1
  have c4 := C1.c4
  have hl := h.1
  have K1 := Lib.hid C1
  have HG := Lib.hid hg
  clear h hg C1
  go_enter Try.func10, Try.ntmps10
  go_wp2_with (rw [← hw1, ← HG.out]; clear hw1)
  go_loop [6] (fun i => ∃ j : Nat, j ≤ n ∧ i = .int .i64 j ∧ First ks s j) (fun i => n - (intOf i).toNat)
  case atStart => exact ⟨0, Nat.zero_le _, rfl, First.zero _ _⟩
  case round =>
    obtain ⟨j, hj, rfl, hf⟩ := hrel
    by_cases hlt : j < n
    · obtain ⟨b, o, s', z, rfl, _, k0, k1, hl', hk⟩ := K1.out.rd.at_ hlt
      have hsn := First.succ (s := s) hl'
      rw [hk] at hsn
      by_cases hss : s' = s
      · subst hss
        have hfy := findK_yes ks s' j hl' hf (by rw [hk])
        have HFY := Lib.hid hfy
        clear hsn hk hf hfy
        go_wp2
        go_ret2
        rw [HFY.out]
        exact ⟨rfl, K1.out.bel⟩
      · have hbe : (s'.toList == s.toList) = false := by rw [toList_inj]; exact decide_eq_false hss
        have HF := Lib.hid (hsn.2 ⟨hf, hss⟩)
        clear hsn hk hf hss
        go_wp2
        go_round
        case rel => exact ⟨j + 1, hlt, by go_num, HF.out⟩
        case measure => simp [intOf]; omega
    · have hfn := findK_no ks s (fun k hk => hf k (by rw [List.take_of_length_le (by omega)]; exact hk))
      have HFN := Lib.hid hfn
      clear hf hfn
      go_wp2
      go_ret2
      rw [HFN.out]
      exact ⟨rfl, K1.out.bel⟩

theorem sizeK_yes {ks : List Kd} {j : Nat} {s : ByteArray} {z : Int} (h : j < ks.length) (hk : ks[j] = (s, z)) : sizeK ks (j : Int) = (z, true) := by
  unfold sizeK
  rw [if_pos ⟨by omega, by omega⟩, Int.toNat_natCast, List.getD, List.getElem?_eq_getElem h, hk]
  rfl
theorem sizeK_no {ks : List Kd} {k : Int} (h : ¬ (0 ≤ k ∧ k < ks.length)) : sizeK ks k = (0, false) := by
  unfold sizeK
  rw [if_neg h]

theorem Size_any (h : KRd w A n ks) (hn : n ≤ 1000000) (k : Int) :
    Calls Try.prog 11 #[cv lg pg en gn A n cap, .int .i64 k] w fun e w' => e = .returned (.tuple #[.int .i64 (sizeK ks k).1, .bool (sizeK ks k).2]) ∧ Below w.heap.size w w' := by
  obtain ⟨w1, hw1⟩ : ∃ w1, w1 = w.alloc (.cells (cc lg pg en gn A n cap) 24) := ⟨_, rfl⟩
  have C1 := CAt.new h lg pg en gn cap
  rw [← hw1] at C1
  obtain ⟨g, hg⟩ : ∃ g, g = w.heap.size := ⟨_, rfl⟩
  rw [← hg] at C1
  have c4 := C1.c4
  have hl := h.1
  have K1 := Lib.hid C1
  have HG := Lib.hid hg
  clear h hg C1
  by_cases hk0 : k < 0
  · have e1 : sizeK ks k = (0, false) := sizeK_no (by omega)
    rw [e1]
    clear e1
    go_enter Try.func11, Try.ntmps11
    go_wp2_with (rw [← hw1, ← HG.out]; clear hw1)
    go_ret2
    exact ⟨rfl, K1.out.bel⟩
  · by_cases hk1 : k < n
    · obtain ⟨j, rfl⟩ : ∃ j : Nat, k = (j : Int) := ⟨k.toNat, by omega⟩
      obtain ⟨b, o, s', z, rfl, _, k0, k1, hl', hk⟩ := K1.out.rd.at_ (show j < n by omega)
      rw [sizeK_yes hl' hk]
      clear hk
      go_enter Try.func11, Try.ntmps11
      go_wp2_with (rw [← hw1, ← HG.out]; clear hw1)
      go_ret2
      exact ⟨rfl, K1.out.bel⟩
    · have e1 : sizeK ks k = (0, false) := sizeK_no (by omega)
      rw [e1]
      clear e1
      go_enter Try.func11, Try.ntmps11
      go_wp2_with (rw [← hw1, ← HG.out]; clear hw1)
      go_ret2
      exact ⟨rfl, K1.out.bel⟩

theorem RSize_any (h : KRd w A n ks) (hn : n ≤ 1000000) (k : Int) :
    Calls Try.prog 12 #[cv lg pg en gn A n cap, .int .i64 k] w fun e w' => e = .returned (.tuple #[.int .i64 (sizeK ks k).1, .bool (sizeK ks k).2]) ∧ Below w.heap.size w w' := by
  obtain ⟨w1, hw1⟩ : ∃ w1, w1 = w.alloc (.cells (cc lg pg en gn A n cap) 24) := ⟨_, rfl⟩
  have C1 := CAt.new h lg pg en gn cap
  rw [← hw1] at C1
  obtain ⟨g, hg⟩ : ∃ g, g = w.heap.size := ⟨_, rfl⟩
  rw [← hg] at C1
  have c4 := C1.c4
  have hl := h.1
  have K1 := Lib.hid C1
  have HG := Lib.hid hg
  clear h hg C1
  by_cases hk0 : k < 0
  · have e1 : sizeK ks k = (0, false) := sizeK_no (by omega)
    rw [e1]
    clear e1
    go_enter Try.func12, Try.ntmps12
    go_wp2_with (rw [← hw1, ← HG.out]; clear hw1)
    go_ret2
    exact ⟨rfl, K1.out.bel⟩
  · by_cases hk1 : k < n
    · obtain ⟨j, rfl⟩ : ∃ j : Nat, k = (j : Int) := ⟨k.toNat, by omega⟩
      obtain ⟨b, o, s', z, rfl, _, k0, k1, hl', hk⟩ := K1.out.rd.at_ (show j < n by omega)
      rw [sizeK_yes hl' hk]
      clear hk
      go_enter Try.func12, Try.ntmps12
      go_wp2_with (rw [← hw1, ← HG.out]; clear hw1)
      go_ret2
      exact ⟨rfl, K1.out.bel⟩
    · have e1 : sizeK ks k = (0, false) := sizeK_no (by omega)
      rw [e1]
      clear e1
      go_enter Try.func12, Try.ntmps12
      go_wp2_with (rw [← hw1, ← HG.out]; clear hw1)
      go_ret2
      exact ⟨rfl, K1.out.bel⟩

theorem any_snoc {ks : List Kd} {j : Nat} (h : j < ks.length) : (ks.take (j + 1)).any (fun k => decide (100 < k.1.size)) = ((ks.take j).any (fun k => decide (100 < k.1.size)) || decide (100 < ks[j].1.size)) := by
  rw [take_snoc h, List.any_append]
  simp
theorem any_of_take {ks : List Kd} {j : Nat} (hj : j ≤ 50) (h : (ks.take j).any (fun k => decide (100 < k.1.size)) = true) : muchK ks = true := by
  rw [List.any_eq_true] at h
  obtain ⟨x, hx, hp⟩ := h
  unfold muchK
  rw [Bool.or_eq_true]
  exact .inl (List.any_eq_true.2 ⟨x, List.take_subset_take_left ks hj hx, hp⟩)

theorem Much_any (h : KRd w A n ks) (hn : n ≤ 9223372036854775807) (hs : Lens ks) :
    Calls Try.prog 6 #[cv lg pg en gn A n cap] w fun e w' => e = .returned (.bool (muchK ks)) ∧ Below w.heap.size w w' := by
  obtain ⟨w1, hw1⟩ : ∃ w1, w1 = w.alloc (.cells (cc lg pg en gn A n cap) 24) := ⟨_, rfl⟩
  have C1 := CAt.new h lg pg en gn cap
  rw [← hw1] at C1
  obtain ⟨g, hg⟩ : ∃ g, g = w.heap.size := ⟨_, rfl⟩
  rw [← hg] at C1
  have c4 := C1.c4
  have hl := h.1
  have K1 := Lib.hid C1
  have HG := Lib.hid hg
  have HS := Lib.hid hs
  clear h hg C1 hs
  go_enter Try.func6, Try.ntmps6
  go_wp2_with (rw [← hw1, ← HG.out]; clear hw1)
  go_loop [3] (fun i => ∃ j : Nat, j ≤ n ∧ j ≤ 50 ∧ i = .int .i64 j ∧ (ks.take j).any (fun k => decide (100 < k.1.size)) = false) (fun i => n - (intOf i).toNat)
  case atStart => exact ⟨0, Nat.zero_le _, Nat.zero_le _, rfl, rfl⟩
  case round =>
    obtain ⟨j, hj, hj5, rfl, hf⟩ := hrel
    by_cases hlt : j < n
    · by_cases hlt5 : j < 50
      · obtain ⟨b, o, s', z, rfl, _, k0, k1, hl', hk⟩ := K1.out.rd.at_ hlt
        have hsn := any_snoc hl'
        rw [hk, hf, Bool.false_or] at hsn
        have hsz := HS.out.at_ hl' hk
        by_cases h1 : 100 < s'.size
        · rw [decide_eq_true h1] at hsn
          have HM := Lib.hid (any_of_take (by omega) hsn)
          clear hsn hk hf
          go_wp2
          go_ret
          rw [HM.out]
          exact ⟨rfl, K1.out.bel⟩
        · have HSN := Lib.hid (hsn.trans (decide_eq_false h1))
          clear hsn hk hf
          go_wp2
          go_round
          case rel => exact ⟨j + 1, hlt, hlt5, by go_num, HSN.out⟩
          case measure => simp [intOf]; omega
      · obtain rfl : j = 50 := by omega
        have e1 : muchK ks = true := by unfold muchK; rw [Bool.or_eq_true]; exact .inr (decide_eq_true (by omega))
        have E1 := Lib.hid e1
        clear hf e1
        go_wp2
        go_ret
        rw [E1.out]
        exact ⟨ret_bool (a := decide ((40 : Int) < (n : Int))) (decide_eq_true (by omega)), K1.out.bel⟩
    · have e1 : muchK ks = decide (40 < n) := by
        unfold muchK
        rw [show ks.take 50 = ks.take j by rw [List.take_of_length_le (by omega), List.take_of_length_le (by omega)], hf, Bool.false_or, hl]
      have E1 := Lib.hid e1
      clear hf e1
      go_wp2
      go_ret
      rw [E1.out]
      exact ⟨ret_bool (a := decide ((40 : Int) < (n : Int))) (by rw [Bool.eq_iff_iff]; simp <;> omega), K1.out.bel⟩
end
end Go.Proofs.Ytdaenkfkiijlkaa
