/- The contract of the reference's List. -/
import Derived.Test.YtigiepmmgghjlaaBitsRH
import Derived.Test.YtigiepmmgghjlaaAppI
import Derived.BigQuiet
import Derived.Deep.QuietTactic
namespace Go.Proofs.Ytigiepmmgghjlaa
open Go.RowKit
set_option maxRecDepth 20000

theorem listR_snoc (s j : Nat) : ((List.range (j + 1)).filter fun i => s.testBit i) = ((List.range j).filter fun i => s.testBit i) ++ (if s.testBit j = true then [j] else []) := by
  rw [List.range_succ, List.filter_append]
  by_cases h : s.testBit j = true <;> simp [h]

theorem RList_any (s : Nat) (w : World) (hs : s < 18446744073709551616) :
    Calls Try.prog 30 #[.int .u64 s] w fun e w' => ∃ v, e = .returned v ∧ w'.ownsRow w.heap.size 3 1 v (listN s).length ((listZ s).map (Value.int .i64)) ∧ Below w.heap.size w w' := by
  obtain ⟨i0, hi0, hz0, hz1, hz2⟩ := info_parts intT.info
  go_enter Try.func30, Try.ntmps30
  go_wp2
  go_loopw [3, 4] (fun v iv wr => ∃ (j : Nat) (pre : List Nat), j ≤ 64 ∧ iv = .int .i64 j ∧ pre = ((List.range j).filter fun i => s.testBit i) ∧ wr.ownsRow w.heap.size 3 1 v pre.length ((pre.map Int.ofNat).map (Value.int .i64)) ∧ Below w.heap.size w wr) (fun _ iv _ => 64 - (intOf iv).toNat)
  case atStart => exact ⟨0, [], Nat.zero_le _, rfl, rfl, World.ownsRow_nil _ _ _ _, Below.refl _ _⟩
  case round =>
    obtain ⟨j, pre, hj, rfl, hp, ho, hB⟩ := hrel
    have hbs := hB.size
    have HB := Lib.hid hB
    by_cases hj6 : j < 64
    · have H := Lib.hid (RHas_any s (j : Int) wr hs)
      have hsn := listR_snoc s j
      rw [← hp] at hsn
      have hpl : pre.length ≤ 64 := by
        have := List.length_filter_le (fun i => s.testBit i) (List.range j)
        rw [List.length_range, ← hp] at this
        omega
      have hd : decide (0 ≤ (j : Int) ∧ (j : Int) < 64 ∧ s.testBit ((j : Int)).toNat = true) = s.testBit j := by
        have h1 : (j : Int) < 64 := by omega
        simp [h1]
      rw [hd] at H
      clear hB hp hd
      by_cases hb : s.testBit j = true
      · rw [if_pos hb] at hsn
        rw [hb] at H
        have HSN := Lib.hid hsn
        clear hsn hb
        go_wp2_with fail
        refine H.out.mono ?_
        rintro e w' ⟨rfl, rfl⟩
        go_wp2_with (at_builtin; refine wpList_append_own_at _ rfl _ _ 42 rfl w.heap.size 3 i0 (.int .i64 0) 1 8 Try.underlying42 hi0 hz0 hz1 hz2 rfl (by decide) _ _ _ rfl (ho.alloc _) ⟨wr.heap.size, 0, none⟩ 1 1 [.int .i64 j] rfl rfl (cell_one_new _ _ _) (fun u hu => by rw [List.mem_singleton.1 hu]; rfl) (by unfold maxLen; omega) (by omega) (by simp; omega) ?_; intro v' w4 ho4 hg4 _ _; try go_frame)
        go_roundw
        case rel =>
          refine ⟨j + 1, pre ++ [j], hj6, by go_num, HSN.out.symm, ?_, (HB.out.alloc hbs _).grown hg4 (by simp; omega) (fun q hq => (ho.lt q hq).1)⟩
          simpa using ho4
        case measure => simp [intOf]; omega
      · rw [if_neg hb, List.append_nil] at hsn
        have hb : s.testBit j = false := by simpa using hb
        rw [hb] at H
        have HSN := Lib.hid hsn
        clear hsn hb
        go_wp2_with fail
        refine H.out.mono ?_
        rintro e w' ⟨rfl, rfl⟩
        go_wp2
        go_roundw
        case rel => exact ⟨j + 1, pre, hj6, by go_num, HSN.out.symm, ho, HB.out⟩
        case measure => simp [intOf]; omega
    · obtain rfl : j = 64 := by omega
      clear hB
      have HP := Lib.hid hp
      clear hp
      go_wp2
      go_ret
      have e : pre = listN s := HP.out
      subst e
      exact ⟨_, rfl, ho, HB.out⟩

theorem listN_le (s : Nat) : (listN s).length ≤ 64 := by
  have := List.length_filter_le (fun i => s.testBit i) (List.range 64)
  rw [List.length_range] at this
  exact this
theorem listZ_len (s : Nat) : (listZ s).length = (listN s).length := by unfold listZ; rw [List.length_map]
end Go.Proofs.Ytigiepmmgghjlaa
