/- The contracts of bits: the lowest bit, Of, With, Without, Has, Within, Apart; the reference's Has. -/
import Derived.Test.YtbacadamdghiaaaDoorInts
import Derived.Test.YtbacadamdghiaaaDoorBitsP
import Derived.Laws.BitsAllLaws
import Derived.Laws.Bits128
import Derived.Deep.WholeRow
namespace Go.Proofs.YtbacadamdghiaaaDoor
open Go.RowKit

/-- The table of the library's. -/
def TabAt (w : World) : Prop := ∀ j, j < 64 → w.cell? ⟨0, j, none⟩ = some (.int .u8 ((Lib.deBruijn64tab.getD j 0 : Nat) : Int))

theorem tz_any (x : Nat) (w : World) (hx0 : x ≠ 0) (hx : x < 18446744073709551616) (hT : TabAt w) :
    Calls Tryd.prog 21 #[.int .u64 x] w fun e w' => e = .returned (.int .i64 (Lib.ctz 64 x : Nat)) ∧ w = w' := by
  obtain ⟨hlow, hk⟩ := Lib.lowest_bit 64 x hx0 hx
  obtain ⟨hi, htab⟩ := Lib.deBruijn64_at _ hk
  obtain ⟨k, hk'⟩ : ∃ k, k = Lib.ctz 64 x := ⟨_, rfl⟩
  rw [← hk'] at hlow hk hi htab ⊢
  obtain ⟨i, hi'⟩ : ∃ i, i = 2 ^ k * 285870213051353865 % 18446744073709551616 / 288230376151711744 := ⟨_, rfl⟩
  rw [← hi'] at hi htab
  have hcell := hT i hi
  rw [htab] at hcell
  have hq : ((x : Int) == 0) = false := by simp; omega
  have key : IntKind.u64.wrap (bits BinOp.and IntKind.u64 (x : Int) (IntKind.u64.wrap (-(x : Int))) * 285870213051353865) / 288230376151711744 = (i : Int) := by
    have e1 : IntKind.u64.wrap (-(x : Int)) = ((18446744073709551616 - x : Nat) : Int) := by rw [IntKind.wrap_u64]; omega
    obtain ⟨a, ha⟩ : ∃ a, a = 2 ^ k := ⟨_, rfl⟩
    rw [← ha] at hlow hi'
    rw [e1, u64_and_nat x _ hx (by omega), hlow, IntKind.wrap_u64, hi']
    have e2 : (a : Int) * 285870213051353865 = ((a * 285870213051353865 : Nat) : Int) := by rw [Int.natCast_mul]; rfl
    rw [e2]
    obtain ⟨q, hq'⟩ : ∃ q, q = a * 285870213051353865 := ⟨_, rfl⟩
    rw [← hq']
    clear hlow htab hcell hT ha e1 e2 hq' hi'
    omega
  clear hi' htab hlow hT hk'
  go_enter Tryd.func21, Tryd.ntmps21
  go_wp2_with (simp only [key])
  go_ret
  exact ⟨rfl, rfl⟩

theorem one_ird (w : World) (c : Int) : IRd (w.alloc (.cells #[.int .i64 c] 3)) (some ⟨w.heap.size, 0, none⟩) 1 [c] :=
  ⟨rfl, fun _ => ⟨w.heap.size, 0, rfl, by simp, fun j hj => by
    obtain rfl : j = 0 := by simp at hj; omega
    exact cell_of_row _ _ 0 _ _ _ (heap_alloc_last w _)⟩⟩
theorem Of_any (A : Option Addr) (n c : Nat) (zs : List Int) (w : World) (h : IRd w A n zs) (hn : n ≤ 1099511627776) :
    Calls Tryd.prog 7 #[.slice A n c] w fun e w' => e = .returned (.int .u64 (orL zs : Nat)) ∧ w = w' := by
  have H := Lib.hid h
  clear h
  go_enter Tryd.func7, Tryd.ntmps7
  go_wp2
  go_loop [3, 8] (fun v i => ∃ j : Nat, j ≤ n ∧ i = .int .i64 j ∧ v = .int .u64 (orL (zs.take j) : Nat)) (fun _ i => n - (intOf i).toNat)
  case atStart => exact ⟨0, Nat.zero_le _, rfl, rfl⟩
  case round =>
    obtain ⟨j, hj, rfl, rfl⟩ := hrel
    by_cases hjn : j < n
    · obtain ⟨b, o, hA, _, hc⟩ := H.out.2 (by omega)
      have hjl : j < zs.length := by rw [H.out.1]; exact hjn
      have k0 := hc j hjl
      obtain ⟨z, hz⟩ : ∃ z, z = zs.getD j 0 := ⟨_, rfl⟩
      rw [← hz] at k0
      have htk : zs.take (j + 1) = zs.take j ++ [z] := by
        rw [List.take_succ_eq_append_getElem hjl, hz, List.getD, List.getElem?_eq_getElem hjl]
        rfl
      have hs := orL_snoc (zs.take j) z
      rw [← htk] at hs
      have hlt := orL_lt (zs.take j)
      obtain ⟨s, hs'⟩ : ∃ s, s = orL (zs.take j) := ⟨_, rfl⟩
      obtain ⟨s2, hs2⟩ : ∃ s2, s2 = orL (zs.take (j + 1)) := ⟨_, rfl⟩
      rw [← hs', ← hs2] at hs
      rw [← hs'] at hlt ⊢
      subst hA
      clear hc hz htk hs'
      by_cases h0 : 0 ≤ z
      · by_cases h1 : z < 64
        · rw [if_pos ⟨h0, h1⟩] at hs
          have hp := two_lt (c := z.toNat) (by omega)
          have e1 : IntKind.u64.wrap (2 ^ z.toNat) = ((2 ^ z.toNat : Nat) : Int) := by
            rw [IntKind.wrap_u64]
            have : ((2 : Int) ^ z.toNat) = ((2 ^ z.toNat : Nat) : Int) := by simp
            rw [this]
            exact Int.emod_eq_of_lt (Int.natCast_nonneg _) (Int.ofNat_lt.2 hp)
          have e2 := u64_or_nat s (2 ^ z.toNat) hlt hp
          rw [← hs] at e2
          clear hs
          go_wp2
          go_round
          case rel =>
            have E2 := Lib.hid e2
            clear e1 e2 hp
            exact ⟨j + 1, hjn, by go_num, by rw [← hs2, ← E2.out, Int.natCast_pow]; rfl⟩
          case measure => simp [intOf]; omega
        · rw [if_neg (by omega)] at hs
          rw [hs] at hs2
          go_wp2
          go_round
          case rel => exact ⟨j + 1, hjn, by go_num, by rw [← hs2]⟩
          case measure => simp [intOf]; omega
      · rw [if_neg (by omega)] at hs
        rw [hs] at hs2
        go_wp2
        go_round
        case rel => exact ⟨j + 1, hjn, by go_num, by rw [← hs2]⟩
        case measure => simp [intOf]; omega
    · obtain rfl : j = n := by omega
      go_wp2
      go_ret
      rw [List.take_of_length_le (by rw [H.out.1]; exact Nat.le_refl _)]
      exact ⟨rfl, rfl⟩

set_option maxRecDepth 10000 in
theorem ones_any (x : Nat) (w : World) (hx : x < 18446744073709551616) :
    Calls Tryd.prog 22 #[.int .u64 x] w fun e w' => e = .returned (.int .i64 (listN x).length) ∧ w = w' := by
  have r85 : rep 85 8 = 6148914691236517205 := by decide
  have r51 : rep 51 8 = 3689348814741910323 := by decide
  have r15 : rep 15 8 = 1085102592571150095 := by decide
  have r68 : rep 68 8 = 4919131752989213764 := by decide
  have h1 : s1 8 x < 18446744073709551616 := s1_lt 8 x hx
  have h2 : s2 8 (s1 8 x) ≤ 4919131752989213764 := r68 ▸ s2_small 8 x
  obtain ⟨y3, hy3⟩ : ∃ y, y = oc 8 x := ⟨_, rfl⟩
  obtain ⟨g3, g4, g5, g6, gc⟩ := oc_sum x y3 hy3
  rw [← listN_len] at gc
  have k1 : IntKind.u64.wrap (bits BinOp.and IntKind.u64 ((x : Int) / 2) 6148914691236517205 + bits BinOp.and IntKind.u64 (x : Int) 6148914691236517205) = ((s1 8 x : Nat) : Int) := by
    have a1 := u64_and_nat (x / 2) 6148914691236517205 (by omega) (by decide)
    have a2 := u64_and_nat x 6148914691236517205 hx (by decide)
    have e : ((x : Int) / 2) = ((x / 2 : Nat) : Int) := by omega
    have e2 : ((6148914691236517205 : Nat) : Int) = 6148914691236517205 := rfl
    rw [e2] at a1 a2
    rw [e, a1, a2, IntKind.wrap_u64]
    have h1' := h1
    unfold s1 at h1' ⊢
    rw [r85] at h1' ⊢
    omega
  obtain ⟨y1, hy1⟩ : ∃ y, y = s1 8 x := ⟨_, rfl⟩
  rw [← hy1] at k1 h1 h2
  have k2 : IntKind.u64.wrap (bits BinOp.and IntKind.u64 ((y1 : Int) / 4) 3689348814741910323 + bits BinOp.and IntKind.u64 (y1 : Int) 3689348814741910323) = ((s2 8 y1 : Nat) : Int) := by
    have a1 := u64_and_nat (y1 / 4) 3689348814741910323 (by omega) (by decide)
    have a2 := u64_and_nat y1 3689348814741910323 h1 (by decide)
    have e : ((y1 : Int) / 4) = ((y1 / 4 : Nat) : Int) := by omega
    have e2 : ((3689348814741910323 : Nat) : Int) = 3689348814741910323 := rfl
    rw [e2] at a1 a2
    rw [e, a1, a2, IntKind.wrap_u64]
    unfold s2 at h2 ⊢
    rw [r51] at h2 ⊢
    omega
  obtain ⟨y2, hy2⟩ : ∃ y, y = s2 8 y1 := ⟨_, rfl⟩
  rw [← hy2] at k2 h2
  have k3 : bits BinOp.and IntKind.u64 (IntKind.u64.wrap ((y2 : Int) / 16 + (y2 : Int))) 1085102592571150095 = (y3 : Int) := by
    have a1 := u64_and_nat (y2 / 16 + y2) 1085102592571150095 (by omega) (by decide)
    have e : IntKind.u64.wrap ((y2 : Int) / 16 + (y2 : Int)) = ((y2 / 16 + y2 : Nat) : Int) := by rw [IntKind.wrap_u64]; omega
    have e2 : ((1085102592571150095 : Nat) : Int) = 1085102592571150095 := rfl
    rw [e2] at a1
    rw [e, a1, hy3]
    unfold oc s3
    rw [← hy1, ← hy2, r15]
  clear r85 r51 r15 r68 h1 h2 hy1 hy2 hy3
  have k4 : IntKind.u64.wrap ((y3 : Int) + (y3 : Int) / 256) = ((y3 + y3 / 256 : Nat) : Int) := by rw [IntKind.wrap_u64]; omega
  obtain ⟨y4, hy4⟩ : ∃ y, y = y3 + y3 / 256 := ⟨_, rfl⟩
  rw [← hy4] at k4 g4 g5 g6 gc
  clear hy4
  have k5 : IntKind.u64.wrap ((y4 : Int) + (y4 : Int) / 65536) = ((y4 + y4 / 65536 : Nat) : Int) := by rw [IntKind.wrap_u64]; omega
  obtain ⟨y5, hy5⟩ : ∃ y, y = y4 + y4 / 65536 := ⟨_, rfl⟩
  rw [← hy5] at k5 g5 g6 gc
  clear hy5
  have k6 : IntKind.u64.wrap ((y5 : Int) + (y5 : Int) / 4294967296) = ((y5 + y5 / 4294967296 : Nat) : Int) := by rw [IntKind.wrap_u64]; omega
  obtain ⟨y6, hy6⟩ : ∃ y, y = y5 + y5 / 4294967296 := ⟨_, rfl⟩
  rw [← hy6] at k6 g6 gc
  clear hy6
  have k7 : bits BinOp.and IntKind.i64 (wrap64 (y6 : Int)) 127 = ((listN x).length : Int) := by
    rw [← gc, i64_and127]
    clear k1 k2 k3 k4 k5 k6
    unfold wrap64
    omega
  obtain ⟨c, hc⟩ : ∃ c, c = (listN x).length := ⟨_, rfl⟩
  rw [← hc] at k7 ⊢
  clear gc hc g3 g4 g5
  go_enter Tryd.func22, Tryd.ntmps22
  go_wp2
  go_ret
  exact ⟨rfl, rfl⟩

theorem With_any (s : Nat) (c : Int) (w : World) (hs : s < 18446744073709551616) :
    Calls Tryd.prog 9 #[.int .u64 s, .int .i64 c] w fun e w' => e = .returned (.int .u64 (s ||| orL [c] : Nat)) ∧ Below w.heap.size w w' := by
  obtain ⟨w1, hw1⟩ : ∃ w1, w1 = w.alloc (.cells #[.int .i64 c] 3) := ⟨_, rfl⟩
  have hB : Below w.heap.size w w1 := by rw [hw1]; exact (Below.refl _ _).alloc (Nat.le_refl _) _
  have C := Lib.hid (Of_any (some ⟨w.heap.size, 0, none⟩) 1 1 [c] w1 (by rw [hw1]; exact one_ird w c) (by decide))
  have e2 := u64_or_nat s (orL [c]) hs (orL_lt _)
  have HB := Lib.hid hB
  obtain ⟨o, ho⟩ : ∃ o, o = orL [c] := ⟨_, rfl⟩
  rw [← ho] at C e2 ⊢
  clear hB ho
  go_enter Tryd.func9, Tryd.ntmps9
  go_wp2_with (rw [← hw1]; clear hw1)
  refine C.out.mono ?_
  rintro e w' ⟨rfl, rfl⟩
  go_wp2
  go_ret
  exact ⟨rfl, HB.out⟩

theorem Without_any (s : Nat) (c : Int) (w : World) (hs : s < 18446744073709551616) :
    Calls Tryd.prog 11 #[.int .u64 s, .int .i64 c] w fun e w' => e = .returned (.int .u64 (butN s (orL [c]) : Nat)) ∧ Below w.heap.size w w' := by
  obtain ⟨w1, hw1⟩ : ∃ w1, w1 = w.alloc (.cells #[.int .i64 c] 3) := ⟨_, rfl⟩
  have hB : Below w.heap.size w w1 := by rw [hw1]; exact (Below.refl _ _).alloc (Nat.le_refl _) _
  have C := Lib.hid (Of_any (some ⟨w.heap.size, 0, none⟩) 1 1 [c] w1 (by rw [hw1]; exact one_ird w c) (by decide))
  have e2 := u64_andNot_nat s (orL [c]) hs (orL_lt _)
  have HB := Lib.hid hB
  unfold butN
  obtain ⟨o, ho⟩ : ∃ o, o = orL [c] := ⟨_, rfl⟩
  rw [← ho] at C e2 ⊢
  clear hB ho
  go_enter Tryd.func11, Tryd.ntmps11
  go_wp2_with (rw [← hw1]; clear hw1)
  refine C.out.mono ?_
  rintro e w' ⟨rfl, rfl⟩
  go_wp2
  go_ret
  exact ⟨rfl, HB.out⟩

theorem Apart_any (a b : Nat) (w : World) (ha : a < 18446744073709551616) (hb : b < 18446744073709551616) :
    Calls Tryd.prog 20 #[.int .u64 a, .int .u64 b] w fun e w' => e = .returned (.bool (a &&& b == 0)) ∧ w = w' := by
  have e2 := u64_and_nat a b ha hb
  go_enter Tryd.func20, Tryd.ntmps20
  go_wp2
  go_ret
  exact ⟨ret_bool (by rw [← Int.natCast_zero, Bool.eq_iff_iff]; simp), rfl⟩

theorem Within_any (a b : Nat) (w : World) (ha : a < 18446744073709551616) (hb : b < 18446744073709551616) :
    Calls Tryd.prog 19 #[.int .u64 a, .int .u64 b] w fun e w' => e = .returned (.bool (butN a b == 0)) ∧ w = w' := by
  have e2 := u64_andNot_nat a b ha hb
  unfold butN
  go_enter Tryd.func19, Tryd.ntmps19
  go_wp2
  go_ret
  exact ⟨ret_bool (by rw [← Int.natCast_zero, Bool.eq_iff_iff]; simp), rfl⟩

theorem Has_any (s : Nat) (c : Int) (w : World) (hs : s < 18446744073709551616) :
    Calls Tryd.prog 13 #[.int .u64 s, .int .i64 c] w fun e w' => e = .returned (.bool (decide (0 ≤ c ∧ c < 64 ∧ s.testBit c.toNat = true))) ∧ Below w.heap.size w w' := by
  obtain ⟨w1, hw1⟩ : ∃ w1, w1 = w.alloc (.cells #[.int .i64 c] 3) := ⟨_, rfl⟩
  have hB : Below w.heap.size w w1 := by rw [hw1]; exact (Below.refl _ _).alloc (Nat.le_refl _) _
  have C := Lib.hid (Of_any (some ⟨w.heap.size, 0, none⟩) 1 1 [c] w1 (by rw [hw1]; exact one_ird w c) (by decide))
  have hA := Lib.hid (Apart_any s (orL [c]) w1 hs (orL_lt _))
  rw [hasN] at hA
  have HB := Lib.hid hB
  obtain ⟨o, ho⟩ : ∃ o, o = orL [c] := ⟨_, rfl⟩
  rw [← ho] at C hA
  obtain ⟨q, hq⟩ : ∃ q, q = decide (0 ≤ c ∧ c < 64 ∧ s.testBit c.toNat = true) := ⟨_, rfl⟩
  rw [← hq] at hA ⊢
  clear hB ho hq
  go_enter Tryd.func13, Tryd.ntmps13
  go_wp2_with (rw [← hw1]; clear hw1)
  refine C.out.mono ?_
  rintro e w' ⟨rfl, rfl⟩
  go_wp2_with fail
  refine hA.out.mono ?_
  rintro e w' ⟨rfl, rfl⟩
  go_wp2
  go_ret
  exact ⟨by simp, HB.out⟩

/-- The document's Has. -/
theorem RHas_any (s : Nat) (c : Int) (w : World) (hs : s < 18446744073709551616) :
    Calls Tryd.prog 14 #[.int .u64 s, .int .i64 c] w fun e w' => e = .returned (.bool (decide (0 ≤ c ∧ c < 64 ∧ s.testBit c.toNat = true))) ∧ w = w' := by
  by_cases h0 : 0 ≤ c
  · by_cases h1 : c < 64
    · obtain ⟨k, hk⟩ : ∃ k : Nat, c = (k : Int) := ⟨c.toNat, by omega⟩
      subst hk
      have hk : k ≤ 63 := by omega
      clear h0 h1
      have hb : decide (0 ≤ (k : Int) ∧ (k : Int) < 64 ∧ s.testBit ((k : Int)).toNat = true) = decide (s / 2 ^ k % 2 = 1) := by
        have h1 : (k : Int) < 64 := by omega
        rw [Nat.testBit_eq_decide_div_mod_eq]
        simp [h1]
      rw [hb]
      clear hb
      go_enter Tryd.func14, Tryd.ntmps14
      go_wp2
      go_loop [0, 5] (fun v i => ∃ j : Nat, j ≤ k ∧ i = .int .i64 j ∧ v = .int .u64 (s / 2 ^ j : Nat)) (fun _ i => k - (intOf i).toNat)
      case atStart => exact ⟨0, Nat.zero_le _, rfl, by simp⟩
      case round =>
        obtain ⟨j, hj, rfl, rfl⟩ := hrel
        obtain ⟨t, ht⟩ : ∃ t, t = s / 2 ^ j := ⟨_, rfl⟩
        have htl : t < 18446744073709551616 := by rw [ht]; exact Nat.lt_of_le_of_lt (Nat.div_le_self _ _) hs
        rw [← ht]
        by_cases hjk : j < k
        · have h2 : s / 2 ^ (j + 1) = t / 2 := by rw [Nat.pow_succ, ← Nat.div_div_eq_div_mul, ← ht]
          clear ht
          go_wp2
          go_round
          case rel => exact ⟨j + 1, hjk, by go_num, by rw [h2]; rfl⟩
          case measure => simp [intOf]; omega
        · have e : j = k := by omega
          subst e
          have HT := Lib.hid ht
          clear ht
          go_wp2
          go_ret
          exact ⟨ret_bool (by rw [← HT.out, Bool.eq_iff_iff]; simp; omega), rfl⟩
    · have hb : decide (0 ≤ c ∧ c < 64 ∧ s.testBit c.toNat = true) = false := by simp; omega
      rw [hb]
      clear hb
      go_enter Tryd.func14, Tryd.ntmps14
      go_wp2
      go_ret
      exact ⟨rfl, rfl⟩
  · have hb : decide (0 ≤ c ∧ c < 64 ∧ s.testBit c.toNat = true) = false := by simp; omega
    rw [hb]
    clear hb
    go_enter Tryd.func14, Tryd.ntmps14
    go_wp2
    go_ret
    exact ⟨rfl, rfl⟩

theorem Count_any (x : Nat) (w : World) (hx : x < 18446744073709551616) :
    Calls Tryd.prog 18 #[.int .u64 x] w fun e w' => e = .returned (.int .i64 (listN x).length) ∧ w = w' := by
  have C := ones_any x w hx
  go_enter Tryd.func18, Tryd.ntmps18
  go_wp2_with fail
  refine C.mono ?_
  rintro e w' ⟨rfl, rfl⟩
  go_wp2
  go_ret
  exact ⟨rfl, rfl⟩
end Go.Proofs.YtbacadamdghiaaaDoor
