/- The contracts of bits' Of and With. -/
import Derived.Test.YtigiepmmgghjlaaInts
import Derived.Test.YtigiepmmgghjlaaBitsM
import Derived.Laws.BitsAllLaws
import Derived.Laws.Bits128
import Derived.Deep.WholeRow
namespace Go.Proofs.Ytigiepmmgghjlaa
open Go.RowKit

theorem one_ird (w : World) (c : Int) : IRd (w.alloc (.cells #[.int .i64 c] 3)) (some ⟨w.heap.size, 0, none⟩) 1 [c] :=
  ⟨rfl, fun _ => ⟨w.heap.size, 0, rfl, by simp, fun j hj => by
    obtain rfl : j = 0 := by simp at hj; omega
    exact cell_of_row _ _ 0 _ _ _ (heap_alloc_last w _)⟩⟩
theorem Of_any (A : Option Addr) (n c : Nat) (zs : List Int) (w : World) (h : IRd w A n zs) (hn : n ≤ 1099511627776) :
    Calls Try.prog 32 #[.slice A n c] w fun e w' => e = .returned (.int .u64 (orL zs : Nat)) ∧ w = w' := by
  have H := Lib.hid h
  clear h
  go_enter Try.func32, Try.ntmps32
  go_wp2
  go_loop [3, 8] (fun v i => ∃ j : Nat, j ≤ n ∧ i = .int .i64 j ∧ v = .int .u64 (orL (zs.take j) : Nat)) (fun _ i => n - (intOf i).toNat)
  case atStart => exact ⟨0, Nat.zero_le _, rfl, rfl⟩
  case round =>
    obtain ⟨j, hj, rfl, rfl⟩ := hrel
    by_cases hjn : j < n
    · obtain ⟨b, o, hA, _, hc⟩ := H.out.2 (by omega)
      have hjl : j < zs.length := by rw [H.out.1]; exact hjn
      have k0 := hc j hjl
      obtain ⟨z, hz⟩ : ∃ z, z = zs.getD j 0 := ⟨_, rfl⟩
      rw [← hz] at k0
      have htk : zs.take (j + 1) = zs.take j ++ [z] := by
        rw [List.take_succ_eq_append_getElem hjl, hz, List.getD, List.getElem?_eq_getElem hjl]
        rfl
      have hs := orL_snoc (zs.take j) z
      rw [← htk] at hs
      have hlt := orL_lt (zs.take j)
      obtain ⟨s, hs'⟩ : ∃ s, s = orL (zs.take j) := ⟨_, rfl⟩
      obtain ⟨s2, hs2⟩ : ∃ s2, s2 = orL (zs.take (j + 1)) := ⟨_, rfl⟩
      rw [← hs', ← hs2] at hs
      rw [← hs'] at hlt ⊢
      subst hA
      clear hc hz htk hs'
      by_cases h0 : 0 ≤ z
      · by_cases h1 : z < 64
        · rw [if_pos ⟨h0, h1⟩] at hs
          have hp := two_lt (c := z.toNat) (by omega)
          have e1 : IntKind.u64.wrap (2 ^ z.toNat) = ((2 ^ z.toNat : Nat) : Int) := by
            rw [IntKind.wrap_u64]
            have : ((2 : Int) ^ z.toNat) = ((2 ^ z.toNat : Nat) : Int) := by simp
            rw [this]
            exact Int.emod_eq_of_lt (Int.natCast_nonneg _) (Int.ofNat_lt.2 hp)
          have e2 := u64_or_nat s (2 ^ z.toNat) hlt hp
          rw [← hs] at e2
          clear hs
          go_wp2
          go_round
          case rel =>
            have E2 := Lib.hid e2
            clear e1 e2 hp
            exact ⟨j + 1, hjn, by go_num, by rw [← hs2, ← E2.out, Int.natCast_pow]; rfl⟩
          case measure => simp [intOf]; omega
        · rw [if_neg (by omega)] at hs
          rw [hs] at hs2
          go_wp2
          go_round
          case rel => exact ⟨j + 1, hjn, by go_num, by rw [← hs2]⟩
          case measure => simp [intOf]; omega
      · rw [if_neg (by omega)] at hs
        rw [hs] at hs2
        go_wp2
        go_round
        case rel => exact ⟨j + 1, hjn, by go_num, by rw [← hs2]⟩
        case measure => simp [intOf]; omega
    · obtain rfl : j = n := by omega
      go_wp2
      go_ret
      rw [List.take_of_length_le (by rw [H.out.1]; exact Nat.le_refl _)]
      exact ⟨rfl, rfl⟩

theorem With_any (s : Nat) (c : Int) (w : World) (hs : s < 18446744073709551616) :
    Calls Try.prog 24 #[.int .u64 s, .int .i64 c] w fun e w' => e = .returned (.int .u64 (s ||| orL [c] : Nat)) ∧ Below w.heap.size w w' := by
  obtain ⟨w1, hw1⟩ : ∃ w1, w1 = w.alloc (.cells #[.int .i64 c] 3) := ⟨_, rfl⟩
  have hB : Below w.heap.size w w1 := by rw [hw1]; exact (Below.refl _ _).alloc (Nat.le_refl _) _
  have C := Lib.hid (Of_any (some ⟨w.heap.size, 0, none⟩) 1 1 [c] w1 (by rw [hw1]; exact one_ird w c) (by decide))
  have e2 := u64_or_nat s (orL [c]) hs (orL_lt _)
  have HB := Lib.hid hB
  obtain ⟨o, ho⟩ : ∃ o, o = orL [c] := ⟨_, rfl⟩
  rw [← ho] at C e2 ⊢
  clear hB ho
  go_enter Try.func24, Try.ntmps24
  go_wp2_with (rw [← hw1]; clear hw1)
  refine C.out.mono ?_
  rintro e w' ⟨rfl, rfl⟩
  go_wp2
  go_ret
  exact ⟨rfl, HB.out⟩

end Go.Proofs.Ytigiepmmgghjlaa
