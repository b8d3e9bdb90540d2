/- The contracts of Name and the reference's Name. -/
import Derived.Test.YtabmaiphjcbfbaaCm1
namespace Go.Proofs.Ytabmaiphjcbfbaa
open Go.RowKit

theorem bytes_at (s : ByteArray) (j : Nat) (h : j < s.size) : s.data.toList.take (j + 1) = s.data.toList.take j ++ [s[j]] := by
  have hl : j < s.data.toList.length := by simpa using h
  rw [List.take_succ_eq_append_getElem hl]
  rfl
theorem allP (s : ByteArray) (j : Nat) (h : j < s.size) : (s.data.toList.take (j + 1)).all plainN = ((s.data.toList.take j).all plainN && plainN s[j]) := by
  rw [bytes_at s j h, List.all_append]
  simp
theorem all_of_take (s : ByteArray) (j : Nat) (h : (s.data.toList.take j).all plainN = false) : s.data.toList.all plainN = false := by
  rw [List.all_eq_false] at h ⊢
  obtain ⟨x, hx, hp⟩ := h
  exact ⟨x, List.mem_of_mem_take hx, hp⟩

theorem CName_any (s : ByteArray) (w : World) (hs : s.size ≤ 9223372036854775807) :
    Calls Try.prog 34 #[.string s] w fun e w' => e = .returned (.bool (nameB s)) ∧ w = w' := by
  by_cases h : 1 ≤ s.size ∧ s.size ≤ 16
  · have hd : decide ((1 : Int) ≤ (s.size : Int) ∧ (s.size : Int) ≤ 16) = true := by simp; omega
    have hn : nameB s = s.data.toList.all plainN := by simp [nameB, h]
    have HN := Lib.hid hn
    have HD := Lib.hid hd
    clear hn hd
    go_enter Try.func34, Try.ntmps34
    go_wp2_with (go_at_call 30; refine (within_any _ _ _ _).mono ?_; rintro e w' ⟨rfl, rfl⟩; rw [HD.out])
    go_loop [10, 3] (fun i _ => ∃ j : Nat, j ≤ s.size ∧ i = .int .i64 j ∧ (s.data.toList.take j).all plainN = true) (fun i _ => s.size - (intOf i).toNat)
    case atStart => exact ⟨0, Nat.zero_le _, rfl, rfl⟩
    case round =>
      obtain ⟨j, hj, rfl, hall⟩ := hrel
      by_cases hlt : j < s.size
      · have hp := allP s j hlt
        rw [hall, Bool.true_and] at hp
        have HA := Lib.hid hall
        clear hall
        cases hpl : plainN s[j]
        · rw [hpl] at hp
          have HP := Lib.hid (all_of_take s _ hp)
          have HL := Lib.hid hpl
          clear hp hpl
          go_wp2_with (go_at_call 35; refine (plain_any s[j] _).mono ?_; rintro e w' ⟨rfl, rfl⟩; rw [HL.out])
          go_ret
          exact ⟨ret_bool (by rw [HN.out, HP.out]), rfl⟩
        · rw [hpl] at hp
          have HP := Lib.hid hp
          have HL := Lib.hid hpl
          clear hp hpl
          go_wp2_with (go_at_call 35; refine (plain_any s[j] _).mono ?_; rintro e w' ⟨rfl, rfl⟩; rw [HL.out])
          go_round
          case rel => exact ⟨j + 1, hlt, by go_num, HP.out⟩
          case measure => simp [intOf]; omega
      · go_wp2
        go_ret
        refine ⟨ret_bool ?_, rfl⟩
        rw [HN.out, ← hall, List.take_of_length_le (by simp; omega)]
  · have hd : decide ((1 : Int) ≤ (s.size : Int) ∧ (s.size : Int) ≤ 16) = false := by simp; omega
    have hn : nameB s = false := by simp [nameB]; omega
    rw [hn]
    clear hn h
    go_enter Try.func34, Try.ntmps34
    go_wp2_with (go_at_call 30; refine (within_any _ _ _ _).mono ?_; rintro e w' ⟨rfl, rfl⟩; rw [hd])
    go_ret
    exact ⟨rfl, rfl⟩

theorem RName_any (s : ByteArray) (w : World) (hs : s.size ≤ 9223372036854775807) :
    Calls Try.prog 28 #[.string s] w fun e w' => e = .returned (.bool (nameB s)) ∧ ∃ n, w' = w.drewN n := by
  go_enter Try.func28, Try.ntmps28
  go_wp2
  go_loopw [3] (fun i wr => ∃ j n : Nat, j ≤ s.size ∧ i = .int .i64 j ∧ (s.data.toList.take j).all plainN = true ∧ wr = w.drewN n) (fun i _ => s.size - (intOf i).toNat)
  case atStart => exact ⟨0, 0, Nat.zero_le _, rfl, rfl, rfl⟩
  case round =>
    obtain ⟨j, n, hj, rfl, hall, rfl⟩ := hrel
    by_cases hlt : j < s.size
    · have hp := allP s j hlt
      rw [hall, Bool.true_and] at hp
      have HA := Lib.hid hall
      clear hall
      have hlt' : (j : Int) < (s.size : Int) := by omega
      have hpl : plainN s[j] = (decide (97 ≤ s[j].toNat ∧ s[j].toNat ≤ 122) || decide (48 ≤ s[j].toNat ∧ s[j].toNat ≤ 57) || decide (s[j].toNat = 95)) := rfl
      by_cases h1 : (97 : Int) ≤ (s[j].toNat : Int) <;> by_cases h2 : (s[j].toNat : Int) ≤ 122 <;> by_cases h3 : (48 : Int) ≤ (s[j].toNat : Int) <;> by_cases h4 : (s[j].toNat : Int) ≤ 57 <;> by_cases h5 : (s[j].toNat : Int) = 95 <;> first
      | (exfalso; omega)
      | (have hv : plainN s[j] = true := by rw [hpl]; simp; omega
         (first | have e1 : decide ((97 : Int) ≤ (s[j].toNat : Int)) = true := decide_eq_true h1 | (have e1 : decide ((97 : Int) ≤ (s[j].toNat : Int)) = false := decide_eq_false h1; clear h1))
         (first | have e2 : decide ((s[j].toNat : Int) ≤ 122) = true := decide_eq_true h2 | (have e2 : decide ((s[j].toNat : Int) ≤ 122) = false := decide_eq_false h2; clear h2))
         (first | have e3 : decide ((48 : Int) ≤ (s[j].toNat : Int)) = true := decide_eq_true h3 | (have e3 : decide ((48 : Int) ≤ (s[j].toNat : Int)) = false := decide_eq_false h3; clear h3))
         (first | have e4 : decide ((s[j].toNat : Int) ≤ 57) = true := decide_eq_true h4 | (have e4 : decide ((s[j].toNat : Int) ≤ 57) = false := decide_eq_false h4; clear h4))
         (first | have e5 : decide ((s[j].toNat : Int) = 95) = true := decide_eq_true h5 | (have e5 : decide ((s[j].toNat : Int) = 95) = false := decide_eq_false h5; have g5 : ((s[j].toNat : Int) != 95) = true := bne_iff_ne.2 h5; clear h5))
         rw [hv] at hp
         have HP := Lib.hid hp
         clear hp hpl hv
         go_wp2
         go_quiet (fail)
         go_wp2
         go_roundw
         case rel => exact ⟨j + 1, _, hlt, by go_num, HP.out, rfl⟩
         case measure => simp [intOf]; omega)
      | (have hv : plainN s[j] = false := by rw [hpl]; simp; omega
         (first | have e1 : decide ((97 : Int) ≤ (s[j].toNat : Int)) = true := decide_eq_true h1 | (have e1 : decide ((97 : Int) ≤ (s[j].toNat : Int)) = false := decide_eq_false h1; clear h1))
         (first | have e2 : decide ((s[j].toNat : Int) ≤ 122) = true := decide_eq_true h2 | (have e2 : decide ((s[j].toNat : Int) ≤ 122) = false := decide_eq_false h2; clear h2))
         (first | have e3 : decide ((48 : Int) ≤ (s[j].toNat : Int)) = true := decide_eq_true h3 | (have e3 : decide ((48 : Int) ≤ (s[j].toNat : Int)) = false := decide_eq_false h3; clear h3))
         (first | have e4 : decide ((s[j].toNat : Int) ≤ 57) = true := decide_eq_true h4 | (have e4 : decide ((s[j].toNat : Int) ≤ 57) = false := decide_eq_false h4; clear h4))
         (first | have e5 : decide ((s[j].toNat : Int) = 95) = true := decide_eq_true h5 | (have e5 : decide ((s[j].toNat : Int) = 95) = false := decide_eq_false h5; have g5 : ((s[j].toNat : Int) != 95) = true := bne_iff_ne.2 h5; clear h5))
         rw [hv] at hp
         have HP := Lib.hid (all_of_take s _ hp)
         clear hp hpl hv
         go_wp2
         go_quiet (fail)
         go_wp2
         go_ret
         exact ⟨ret_bool (by simp [nameB, HP.out]), _, rfl⟩)
    · have hn : nameB s = decide (1 ≤ s.size ∧ s.size ≤ 16) := by
        rw [List.take_of_length_le (by simp; omega)] at hall
        simp [nameB, hall]
      have HN := Lib.hid hn
      clear hn hall
      by_cases h1 : 1 ≤ s.size
      · have e1 : decide ((1 : Int) ≤ (s.size : Int)) = true := by simp; omega
        go_wp2
        go_ret
        exact ⟨ret_bool (by rw [HN.out, Bool.eq_iff_iff]; simp <;> omega), _, rfl⟩
      · have e1 : decide ((1 : Int) ≤ (s.size : Int)) = false := by simp; omega
        go_wp2
        go_ret
        exact ⟨ret_bool (by rw [HN.out, Bool.eq_iff_iff]; simp <;> omega), _, rfl⟩
end Go.Proofs.Ytabmaiphjcbfbaa
