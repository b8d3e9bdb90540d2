/- The contract of the reference's Of. -/
import Derived.Test.YtigiepmmgghjlaaInts
import Derived.Test.YtigiepmmgghjlaaBitsM
import Derived.Laws.BitsAllLaws
import Derived.Laws.Bits128
import Derived.Deep.WholeRow
namespace Go.Proofs.Ytigiepmmgghjlaa
open Go.RowKit

theorem ofL_snoc (l : List Int) (c : Nat) : ofL l (c + 1) = ofL l c + if (c : Int) ∈ l then 2 ^ c else 0 := rfl
theorem ROf_any (A : Option Addr) (n c : Nat) (zs : List Int) (w : World) (h : IRd w A n zs) (hn : n ≤ 1099511627776) :
    Calls Try.prog 29 #[.slice A n c] w fun e w' => e = .returned (.int .u64 (ofL zs 64 : Nat)) ∧ w = w' := by
  have H := Lib.hid h
  clear h
  go_enter Try.func29, Try.ntmps29
  go_wp2
  go_loop [3, 4, 5] (fun sv bv cv => ∃ (j b : Nat), j ≤ 64 ∧ cv = .int .i64 j ∧ b = 2 ^ j % 18446744073709551616 ∧ bv = .int .u64 b ∧ sv = .int .u64 (ofL zs j : Nat)) (fun _ _ cv => 64 - (intOf cv).toNat)
  case atStart => exact ⟨0, 1, Nat.zero_le _, rfl, rfl, rfl, rfl⟩
  case round =>
    obtain ⟨j, b, hj, rfl, hb, rfl, rfl⟩ := hrel
    by_cases hj6 : j < 64
    · have hlt := ofL_lt zs j
      have hsn := ofL_snoc zs j
      have h2 := two_lt hj6
      have hb0 : b = 2 ^ j := by rw [hb, Nat.mod_eq_of_lt h2]
      have hb1 : b * 2 % 18446744073709551616 = 2 ^ (j + 1) % 18446744073709551616 := by rw [hb0, Nat.pow_succ]
      have hlt2 := ofL_lt zs (j + 1)
      have h264 : 2 ^ (j + 1) ≤ 18446744073709551616 := show 2 ^ (j + 1) ≤ 2 ^ 64 from Nat.pow_le_pow_right (by omega) (by omega)
      obtain ⟨s, hs⟩ : ∃ s, s = ofL zs j := ⟨_, rfl⟩
      obtain ⟨s2, hs2⟩ : ∃ s2, s2 = ofL zs (j + 1) := ⟨_, rfl⟩
      rw [← hs] at hlt hsn ⊢
      rw [← hs2] at hlt2 hsn
      rw [← hb0] at hlt h2 hsn
      have hs2l : s2 < 18446744073709551616 := Nat.lt_of_lt_of_le hlt2 h264
      clear hb hs hb0 hlt2 h264
      have HB1 := Lib.hid hb1
      have HSN := Lib.hid hsn
      have HS2 := Lib.hid hs2
      clear hb1 hsn hs2
      go_wp2
      go_loop [3, 6] (fun sv iv => ∃ i : Nat, i ≤ n ∧ iv = .int .i64 i ∧ sv = .int .u64 s ∧ ¬ (j : Int) ∈ zs.take i) (fun _ iv => n - (intOf iv).toNat)
      case atStart => exact ⟨0, Nat.zero_le _, rfl, rfl, by simp⟩
      case round =>
        obtain ⟨i, hi, rfl, rfl, hni⟩ := hrel
        by_cases hin : i < n
        · obtain ⟨bb, o, hA, _, hc⟩ := H.out.2 (by omega)
          have hil : i < zs.length := by rw [H.out.1]; exact hin
          have k0 := hc i hil
          obtain ⟨z, hz⟩ : ∃ z, z = zs.getD i 0 := ⟨_, rfl⟩
          rw [← hz] at k0
          have hz' : z = zs[i] := by rw [hz, List.getD, List.getElem?_eq_getElem hil]; rfl
          subst hA
          clear hc hz
          have HZ := Lib.hid hz'
          have HNI := Lib.hid hni
          clear hz' hni
          by_cases hzj : z = (j : Int)
          · have hm : (j : Int) ∈ zs := by rw [← hzj, HZ.out]; exact List.getElem_mem hil
            have e := HSN.out
            rw [if_pos hm] at e
            subst hzj
            have E := Lib.hid e
            clear hm
            go_wp2
            go_round
            case rel => exact ⟨j + 1, b * 2 % 18446744073709551616, hj6, by go_num, HB1.out, by go_num, by rw [← HS2.out]; go_num⟩
            case measure => simp [intOf]; omega
          · go_wp2
            go_round
            case rel =>
              refine ⟨i + 1, hin, by go_num, rfl, ?_⟩
              rw [List.take_succ_eq_append_getElem hil, List.mem_append]
              rintro (h1 | h1)
              · exact HNI.out h1
              · rw [List.mem_singleton, ← HZ.out] at h1
                exact hzj h1.symm
            case measure => simp [intOf]; omega
        · obtain rfl : i = n := by omega
          rw [List.take_of_length_le (by rw [H.out.1]; exact Nat.le_refl _)] at hni
          have e := HSN.out
          rw [if_neg hni, Nat.add_zero] at e
          have E := Lib.hid e
          clear e hni
          go_wp2
          go_round
          case rel => exact ⟨j + 1, b * 2 % 18446744073709551616, hj6, by go_num, HB1.out, by go_num, by rw [← HS2.out, E.out]⟩
          case measure => simp [intOf]; omega
    · obtain rfl : j = 64 := by omega
      clear hb
      go_wp2
      go_ret
      exact ⟨rfl, rfl⟩

end Go.Proofs.Ytigiepmmgghjlaa
