/- The reference's Fits and Sigs. -/
import Derived.Test.YtigiepmmgghjlaaGrR1
import Derived.Test.YtigiepmmgghjlaaGrP5
import Derived.Test.YtigiepmmgghjlaaBitsRH
namespace Go.Proofs.Ytigiepmmgghjlaa
open Go.RowKit

theorem fitG_iff {wi wo s : Nat} (hwi : wi < 18446744073709551616) (hwo : wo < 18446744073709551616) (hs : s < 18446744073709551616) :
    fitG wi wo s = true ↔ ∀ i, i < 64 → (wi.testBit i = true → s.testBit i = true) ∧ ¬ (wo.testBit i = true ∧ s.testBit i = true) := by
  unfold fitG
  rw [Bool.and_eq_true, beq_iff_eq, beq_iff_eq]
  constructor
  · rintro ⟨h1, h2⟩ i hi
    refine ⟨fun hw => ?_, fun hw => ?_⟩
    · have := congrArg (fun x => Nat.testBit x i) h1
      simp only [butN_bit' _ _ _ hs hi, hw, Nat.zero_testBit, Bool.true_and] at this
      simpa using this
    · have := congrArg (fun x => Nat.testBit x i) h2
      simp only [Nat.testBit_and, hw.1, hw.2, Nat.zero_testBit] at this
      cases this
  · intro h
    refine ⟨eq_of_bits (butN_lt hwi) (by decide) fun i hi => ?_, eq_of_bits (Nat.lt_of_le_of_lt Nat.and_le_left hwo) (by decide) fun i hi => ?_⟩
    · rw [butN_bit' _ _ _ hs hi, Nat.zero_testBit]
      have := (h i hi).1
      cases hw : wi.testBit i <;> simp_all
    · rw [Nat.testBit_and, Nat.zero_testBit]
      have := (h i hi).2
      cases hw : wo.testBit i <;> cases hs : s.testBit i <;> simp_all

theorem RHas_bit (s j : Nat) (w : World) (hs : s < 18446744073709551616) (hj : j < 64) :
    Calls Try.prog 33 #[.int .u64 s, .int .i64 j] w fun e w' => e = .returned (.bool (s.testBit j)) ∧ w = w' := by
  have H := RHas_any s (j : Int) w hs
  have hd : decide (0 ≤ (j : Int) ∧ (j : Int) < 64 ∧ s.testBit ((j : Int)).toNat = true) = s.testBit j := by
    have h1 : (j : Int) < 64 := by omega
    simp [h1]
  rw [hd] at H
  exact H

set_option maxHeartbeats 1000000 in
theorem RFits_any (s wi wo : Nat) (w : World) (hs : s < 18446744073709551616) (hwi : wi < 18446744073709551616) (hwo : wo < 18446744073709551616) :
    Calls Try.prog 28 #[.int .u64 s, .int .u64 wi, .int .u64 wo] w fun e w' => e = .returned (.bool (fitG wi wo s)) ∧ w = w' := by
  have HI := Lib.hid (fitG_iff hwi hwo hs)
  go_enter Try.func28, Try.ntmps28
  go_wp2
  go_loop [7] (fun iv => ∃ j : Nat, j ≤ 64 ∧ iv = .int .i64 j ∧ ∀ i, i < j → (wi.testBit i = true → s.testBit i = true) ∧ ¬ (wo.testBit i = true ∧ s.testBit i = true)) (fun iv => 64 - (intOf iv).toNat)
  case atStart => exact ⟨0, Nat.zero_le _, rfl, fun i hi => absurd hi (Nat.not_lt_zero i)⟩
  case round =>
    obtain ⟨j, hj, rfl, hno⟩ := hrel
    by_cases hj6 : j < 64
    · have C1 := RHas_bit wi j w hwi hj6
      have C2 := RHas_bit s j w hs hj6
      have C3 := RHas_bit wo j w hwo hj6
      obtain ⟨b1, e1⟩ : ∃ x, x = wi.testBit j := ⟨_, rfl⟩
      obtain ⟨b2, e2⟩ : ∃ x, x = s.testBit j := ⟨_, rfl⟩
      obtain ⟨b3, e3⟩ : ∃ x, x = wo.testBit j := ⟨_, rfl⟩
      rw [← e1] at C1
      rw [← e2] at C2
      rw [← e3] at C3
      have C1 := Lib.hid C1
      have C2 := Lib.hid C2
      have C3 := Lib.hid C3
      by_cases hb : (b1 = true → b2 = true) ∧ ¬ (b3 = true ∧ b2 = true)
      · have HN : Hid (∀ i, i < j + 1 → (wi.testBit i = true → s.testBit i = true) ∧ ¬ (wo.testBit i = true ∧ s.testBit i = true)) := Lib.hid (fun i hi => by
          by_cases e : i = j
          · subst e
            rw [← e1, ← e2, ← e3]
            exact hb
          · exact hno i (by omega))
        clear hno e1 e2 e3
        cases b1 <;> cases b2 <;> cases b3 <;> first
          | (exact absurd hb (by decide))
          | (clear hb
             go_wp2_with (go_at_call 33; first
               | ((with_reducible refine C1.out.mono ?_); rintro e w' ⟨rfl, rfl⟩)
               | ((with_reducible refine C2.out.mono ?_); rintro e w' ⟨rfl, rfl⟩)
               | ((with_reducible refine C3.out.mono ?_); rintro e w' ⟨rfl, rfl⟩))
             go_round
             case rel => exact ⟨j + 1, hj6, by go_num, HN.out⟩
             case measure => simp [intOf]; omega)
      · have HF : fitG wi wo s = false := by
          cases hf : fitG wi wo s with
          | false => rfl
          | true =>
            have := HI.out.1 hf j hj6
            rw [← e1, ← e2, ← e3] at this
            exact absurd this hb
        have HF := Lib.hid HF
        clear hno e1 e2 e3
        cases b1 <;> cases b2 <;> cases b3 <;> first
          | (exact absurd (by decide) hb)
          | (clear hb
             go_wp2_with (go_at_call 33; first
               | ((with_reducible refine C1.out.mono ?_); rintro e w' ⟨rfl, rfl⟩)
               | ((with_reducible refine C2.out.mono ?_); rintro e w' ⟨rfl, rfl⟩)
               | ((with_reducible refine C3.out.mono ?_); rintro e w' ⟨rfl, rfl⟩))
             go_ret
             rw [HF.out]
             exact ⟨rfl, rfl⟩)
    · obtain rfl : j = 64 := by omega
      have HF := Lib.hid (HI.out.2 hno)
      clear hno
      go_wp2
      go_ret
      rw [HF.out]
      exact ⟨rfl, rfl⟩

theorem RSigs_any (A : Option Addr) (n c : Nat) (S : List Nat) (wi wo : Nat) (w : World) (h : URd w A n S) (ok : SOk S) (hn : n ≤ 1000000) (hwi : wi < 18446744073709551616) (hwo : wo < 18446744073709551616) :
    Calls Try.prog 19 #[.slice A n c, .int .u64 wi, .int .u64 wo] w fun e w' => ∃ v, e = .returned v ∧ w'.ownsRow w.heap.size 3 1 v (sigsL S wi wo S.length).length (((sigsL S wi wo S.length).map Int.ofNat).map (Value.int .i64)) ∧ Below w.heap.size w w' := by
  obtain ⟨i0, hi0, hz0, hz1, hz2⟩ := info_parts intT.info
  rw [h.1]
  have H := Lib.hid h
  have OK := Lib.hid ok
  clear h ok
  go_enter Try.func19, Try.ntmps19
  go_wp2
  go_loopw [7, 8] (fun v iv wr => ∃ (j : Nat) (pre : List Nat), j ≤ n ∧ iv = .int .i64 j ∧ pre = sigsL S wi wo j ∧ wr.ownsRow w.heap.size 3 1 v pre.length ((pre.map Int.ofNat).map (Value.int .i64)) ∧ Below w.heap.size w wr) (fun _ iv _ => n - (intOf iv).toNat)
  case atStart => exact ⟨0, [], Nat.zero_le _, rfl, rfl, World.ownsRow_nil _ _ _ _, Below.refl _ _⟩
  case round =>
    obtain ⟨j, pre, hj, rfl, hp, ho, hB⟩ := hrel
    have hbs := hB.size
    have HB := Lib.hid hB
    by_cases hjn : j < n
    · have hjl : j < S.length := by rw [H.out.1]; exact hjn
      obtain ⟨b, o, rfl, hb, hc⟩ := H.out.2 (by omega)
      have hx : S[j]? = some (S.getD j 0) := by rw [List.getD_eq_getElem?_getD, List.getElem?_eq_getElem hjl]; rfl
      have k0 := (hB.cell (p := ⟨b, o + j, none⟩) hb).trans (hc j _ hx)
      have hsl := OK.out.lt _ (List.mem_of_getElem? hx)
      have hsn : sigsL S wi wo (j + 1) = pre ++ if fitG wi wo (S.getD j 0) = true then [j] else [] := by rw [hp]; rfl
      have hpl : pre.length ≤ j := by rw [hp]; exact sigsL_len _ _ _ _
      obtain ⟨s, hs⟩ : ∃ s, s = S.getD j 0 := ⟨_, rfl⟩
      rw [← hs] at k0 hsl hsn
      have CF := RFits_any s wi wo wr hsl hwi hwo
      obtain ⟨b1, hb1⟩ : ∃ x, x = fitG wi wo s := ⟨_, rfl⟩
      rw [← hb1] at CF hsn
      have CF := Lib.hid CF
      clear hB hp hs hb1 hsl hc hx
      cases b1
      · rw [if_neg (by decide), List.append_nil] at hsn
        have HSN := Lib.hid hsn
        clear hsn
        go_wp2_with (go_at_call 28; refine CF.out.mono ?_; rintro e w' ⟨rfl, rfl⟩)
        go_roundw
        case rel => exact ⟨j + 1, pre, hjn, by go_num, HSN.out.symm, ho, HB.out⟩
        case measure => simp [intOf]; omega
      · rw [if_pos rfl] at hsn
        have HSN := Lib.hid hsn
        clear hsn
        go_wp2_with (first
          | (go_at_call 28; refine CF.out.mono ?_; rintro e w' ⟨rfl, rfl⟩)
          | (at_builtin; refine wpList_append_own_at _ rfl _ _ 42 rfl w.heap.size 3 i0 (.int .i64 0) 1 8 Try.underlying42 hi0 hz0 hz1 hz2 rfl (by decide) _ _ _ rfl (ho.alloc _) ⟨wr.heap.size, 0, none⟩ 1 1 [.int .i64 j] rfl rfl (cell_one_new _ _ _) (fun u hu => by rw [List.mem_singleton.1 hu]; rfl) (by unfold maxLen; omega) (by omega) (by simp; omega) ?_; intro v' w4 ho4 hg4 _ _; try go_frame))
        go_roundw
        case rel =>
          refine ⟨j + 1, pre ++ [j], hjn, by go_num, HSN.out.symm, ?_, (HB.out.alloc hbs _).grown hg4 (by simp; omega) (fun q hq => (ho.lt q hq).1)⟩
          simpa using ho4
        case measure => simp [intOf]; omega
    · obtain rfl : j = n := by omega
      have HP := Lib.hid hp
      clear hp hB
      go_wp2
      go_ret
      have e := HP.out
      subst e
      exact ⟨_, rfl, ho, HB.out⟩
end Go.Proofs.Ytigiepmmgghjlaa
