/- The contracts of the reference's turned and Of. -/
import Derived.Test.YtlafeobiodolbaaCrc1
namespace Go.Proofs.Ytlafeobiodolbaa
open Go.RowKit

theorem turned_any (r s : Nat) (w : World) (h : Rev r s) :
    Calls Try.prog 34 #[.int .u32 r] w fun e w' => e = .returned (.int .u32 s) ∧ w = w' := by
  have hr := h.1
  have hs := h.2.1
  go_enter Try.func34, Try.ntmps34
  go_wp2
  go_loop [0, 3, 4] (fun n o i => ∃ j x y : Nat, j ≤ 32 ∧ x = r / 2 ^ j ∧ y = s / 2 ^ (32 - j) ∧ i = .int .i64 j ∧ n = .int .u32 x ∧ o = .int .u32 y) (fun _ _ i => 32 - (intOf i).toNat)
  case atStart => exact ⟨0, r, 0, by omega, by simp, (Nat.div_eq_of_lt hs).symm, rfl, rfl, rfl⟩
  case round =>
    obtain ⟨j, x, y, hj, hx, hy, rfl, rfl, rfl⟩ := hrel
    have hx1 : x < 4294967296 := by rw [hx]; exact Nat.lt_of_le_of_lt (Nat.div_le_self _ _) hr
    by_cases hlt : j < 32
    · have hy1 : y ≤ 2147483647 := by
        rw [hy, show 32 - j = 31 - j + 1 from by omega, Nat.pow_succ, Nat.mul_comm, ← Nat.div_div_eq_div_mul]
        exact Nat.le_trans (Nat.div_le_self _ _) (by omega)
      have hst := h.step hlt
      have HX := Lib.hid hx
      have HY := Lib.hid hy
      have HS := Lib.hid hst
      have HR := Lib.hid h
      clear hx hy hst h
      go_wp2
      go_round
      case rel =>
        refine ⟨j + 1, x / 2, y * 2 + x % 2, by omega, ?_, ?_, by go_num, by go_num, by go_num⟩
        · rw [HX.out, Nat.pow_succ, Nat.div_div_eq_div_mul]
        · rw [HX.out, HY.out, HS.out]
      case measure => simp [intOf]; omega
    · have HX := Lib.hid hx
      have HY := Lib.hid hy
      have HR := Lib.hid h
      clear hx hy h
      go_wp2
      go_ret
      obtain rfl : j = 32 := by omega
      exact ⟨ret_int (by rw [HY.out]; simp), rfl⟩

theorem ROf_any (A : Option Addr) (n c : Nat) (l : List UInt8) (w : World) (hr : Rd w A n l) (hn : n ≤ 1099511627776) :
    Calls Try.prog 25 #[.slice A n c] w fun e w' => e = .returned (.int .u32 (sumL l : Nat)) ∧ w = w' := by
  go_enter Try.func25, Try.ntmps25
  go_wp2
  go_loop [3, 4] (fun v i => ∃ j r s : Nat, j ≤ n ∧ Rev r s ∧ s = addL 4294967295 (l.take j) ∧ i = .int .i64 j ∧ v = .int .u32 r) (fun _ i => n - (intOf i).toNat)
  case atStart => exact ⟨0, 4294967295, 4294967295, Nat.zero_le _, Rev.all, rfl, rfl, rfl⟩
  case round =>
    obtain ⟨j, r, s, hj, hrev, hs, rfl, rfl⟩ := hrel
    have HS := Lib.hid hs
    have HR := Lib.hid hrev
    clear hs hrev
    by_cases hlt : j < n
    · obtain ⟨b, o, rfl, _, hcell⟩ := hr.at_ hlt
      have hsn := take_snoc' l j (by have := hr.1; omega)
      have HN := Lib.hid hsn
      clear hsn
      obtain ⟨ch, hch⟩ : ∃ ch, ch = l[j]'(by have := hr.1; omega) := ⟨_, rfl⟩
      rw [← hch] at hcell
      have HC := Lib.hid hch
      clear hch
      have hcl := ch.toNat_lt
      go_wp2
      go_loop [3, 5, 6, 7] (fun v x i u => ∃ k r' t y : Nat, k ≤ 8 ∧ Rev r' t ∧ y = ch.toNat / 2 ^ k ∧ runB (8 - k) t y = addB s ch ∧ i = .int .i64 k ∧ v = .int .u32 r' ∧ x = .int .u32 y) (fun _ _ i _ => 8 - (intOf i).toNat)
      case atStart => exact ⟨0, r, s, ch.toNat, by omega, HR.out, by simp, rfl, rfl, rfl, by go_num⟩
      case round =>
        obtain ⟨k, r', t, y, hk, hrev, hy, hrun, rfl, rfl, rfl⟩ := hrel
        have hy1 : y < 256 := by rw [hy]; exact Nat.lt_of_le_of_lt (Nat.div_le_self _ _) hcl
        have hr1 := hrev.1
        have HT := Lib.hid hrev
        have HY := Lib.hid hy
        have HU := Lib.hid hrun
        clear hrev hy hrun
        by_cases hlt2 : k < 8
        · by_cases hu : r' / 2147483648 = y % 2
          · have e2 := HT.out.like hu
            have E2 := Lib.hid e2
            clear e2
            go_wp2
            go_round
            case rel =>
              refine ⟨k + 1, r' * 2 % 4294967296, bst (t ^^^ y % 2), y / 2, by omega, E2.out, by rw [HY.out, Nat.pow_succ, Nat.div_div_eq_div_mul], ?_, by go_num, by go_num, by go_num⟩
              rw [← HU.out, show 8 - k = (8 - (k + 1)) + 1 from by omega]
              rfl
            case measure => simp [intOf]; omega
          · have e2 := HT.out.unlike hu
            have E2 := Lib.hid e2
            clear e2
            go_wp2
            go_round
            case rel =>
              refine ⟨k + 1, r' * 2 % 4294967296 ^^^ 79764919, bst (t ^^^ y % 2), y / 2, by omega, E2.out, by rw [HY.out, Nat.pow_succ, Nat.div_div_eq_div_mul], ?_, by go_num, ?_, by go_num⟩
              · rw [← HU.out, show 8 - k = (8 - (k + 1)) + 1 from by omega]
                rfl
              · rw [← u32_xor_nat _ 79764919 (Nat.mod_lt _ (by decide)) (by decide)]
                go_num
            case measure => simp [intOf]; omega
        · go_wp2
          go_round
          case rel =>
            obtain rfl : k = 8 := by omega
            refine ⟨j + 1, r', t, hlt, HT.out, ?_, by go_num, rfl⟩
            rw [HN.out, addL_snoc, ← HC.out, ← HS.out, ← HU.out]
            rfl
          case measure => simp [intOf]; omega
    · go_wp2_with (go_at_call 34; refine (turned_any _ _ _ HR.out).mono ?_; rintro e w' ⟨rfl, rfl⟩)
      go_ret
      have hs1 := HR.out.2.1
      refine ⟨ret_int ?_, rfl⟩
      have e1 : l.take j = l := List.take_of_length_le (by have := hr.1; omega)
      have e2 : sumL l = 4294967295 - s := by
        unfold sumL
        rw [← turn_all hs1, HS.out, e1]
      rw [e2]
      omega
end Go.Proofs.Ytlafeobiodolbaa
