/- The reference's With, Without. -/
import Derived.Test.YtigiepmmgghjlaaBitsRL
import Derived.Test.YtigiepmmgghjlaaBitsR
import Derived.BigQuiet
import Derived.Deep.QuietTactic
namespace Go.Proofs.Ytigiepmmgghjlaa
open Go.RowKit

theorem RWith_any (s : Nat) (c : Int) (w : World) (hs : s < 18446744073709551616) :
    Calls Try.prog 21 #[.int .u64 s, .int .i64 c] w fun e w' => e = .returned (.int .u64 (s ||| orL [c] : Nat)) ∧ Below w.heap.size w w' := by
  obtain ⟨i0, hi0, hz0, hz1, hz2⟩ := info_parts intT.info
  have L := Lib.hid (RList_any s w hs)
  have hw := withN s c hs
  have hl := listN_le s
  rw [hw]
  clear hw
  go_enter Try.func21, Try.ntmps21
  go_wp2_with fail
  refine L.out.mono ?_
  rintro e w1 ⟨v, rfl, ho, hB⟩
  have hs1 := hB.size
  have HB := Lib.hid hB
  clear hB
  go_wp2_with (at_builtin; refine wpList_append_own_at _ rfl _ _ 42 rfl w.heap.size 3 i0 (.int .i64 0) 1 8 Try.underlying42 hi0 hz0 hz1 hz2 rfl (by decide) _ _ _ rfl (ho.alloc _) ⟨w1.heap.size, 0, none⟩ 1 1 [.int .i64 c] rfl rfl (cell_one_new _ _ _) (fun u hu => by rw [List.mem_singleton.1 hu]; rfl) (by unfold maxLen; omega) (by omega) (by simp; omega) ?_; intro v' w4 ho4 hg4 _ _; try go_frame)
  have hB4 : Below w.heap.size w w4 := (HB.out.alloc hs1 _).grown hg4 (by simp; omega) (fun q hq => (ho.lt q hq).1)
  have ho4' : w4.ownsRow w.heap.size 3 1 v' ((listN s).length + 1) ((listZ s ++ [c]).map (Value.int .i64)) := by simpa using ho4
  obtain ⟨A4, c4, rfl, hr4⟩ := IRd.of_own ho4'
  have O := Lib.hid (ROf_any A4 _ c4 _ w4 hr4 (by omega))
  have HB4 := Lib.hid hB4
  clear ho4 ho4' hg4 hr4 hB4 ho
  go_wp2_with fail
  refine O.out.mono ?_
  rintro e w' ⟨rfl, rfl⟩
  go_wp2
  go_ret
  exact ⟨rfl, HB4.out⟩

set_option maxRecDepth 20000 in
theorem RWithout_any (s : Nat) (c : Int) (w : World) (hs : s < 18446744073709551616) :
    Calls Try.prog 22 #[.int .u64 s, .int .i64 c] w fun e w' => e = .returned (.int .u64 (butN s (orL [c]) : Nat)) ∧ Below w.heap.size w w' := by
  obtain ⟨i0, hi0, hz0, hz1, hz2⟩ := info_parts intT.info
  have L := Lib.hid (RList_any s w hs)
  have hw := withoutN s c hs
  have hl := listN_le s
  have hll := listZ_len s
  rw [hw]
  clear hw
  obtain ⟨zs, hzs⟩ : ∃ zs, zs = listZ s := ⟨_, rfl⟩
  obtain ⟨n, hn⟩ : ∃ n, n = (listN s).length := ⟨_, rfl⟩
  rw [← hzs, ← hn] at L hll
  rw [← hn] at hl
  rw [← hzs]
  clear hzs hn
  go_enter Try.func22, Try.ntmps22
  go_wp2_with fail
  refine L.out.mono ?_
  rintro e w1 ⟨v, rfl, ho, hB⟩
  obtain ⟨A, c1, rfl, hr⟩ := IRd.of_own ho
  have hs1 := hB.size
  have HB := Lib.hid hB
  have HR := Lib.hid hr
  clear hB hr ho
  go_wp2
  go_loopw [6, 7] (fun v6 v7 wr => ∃ j : Nat, j ≤ n ∧ v7 = .int .i64 j ∧ wr.ownsRow w1.heap.size 3 1 v6 ((zs.take j).filter fun x => decide (x ≠ c)).length (((zs.take j).filter fun x => decide (x ≠ c)).map (Value.int .i64)) ∧ Below w1.heap.size w1 wr) (fun _ v7 _ => n - (intOf v7).toNat)
  case atStart => exact ⟨0, Nat.zero_le _, rfl, World.ownsRow_nil _ _ _ _, Below.refl _ _⟩
  case round =>
    obtain ⟨j, hj, rfl, ho, hB⟩ := hrel
    have hbs := hB.size
    have hr := HR.out.below hB
    have HB1 := Lib.hid hB
    clear hB
    by_cases hjn : j < n
    · obtain ⟨b, o, hA, _, hc⟩ := hr.2 (by omega)
      have hjl : j < zs.length := by omega
      have k0 := hc j hjl
      obtain ⟨z, hz⟩ : ∃ z, z = zs.getD j 0 := ⟨_, rfl⟩
      rw [← hz] at k0
      have htk : (zs.take (j + 1)).filter (fun x => decide (x ≠ c)) = (zs.take j).filter (fun x => decide (x ≠ c)) ++ if z = c then [] else [z] := by
        rw [List.take_succ_eq_append_getElem hjl, List.filter_append, hz, List.getD, List.getElem?_eq_getElem hjl]
        by_cases h : zs[j] = c <;> simp [h]
      have hfl : ((zs.take j).filter fun x => decide (x ≠ c)).length ≤ 64 := by
        have := List.length_filter_le (fun x => decide (x ≠ c)) (zs.take j)
        rw [List.length_take] at this
        omega
      subst hA
      clear hc hz hr
      by_cases hzc : z = c
      · rw [if_pos hzc, List.append_nil] at htk
        have HT := Lib.hid htk
        clear htk
        go_wp2
        go_roundw
        case rel => exact ⟨j + 1, hjn, by go_num, by rw [HT.out]; exact ho, HB1.out⟩
        case measure => simp [intOf]; omega
      · rw [if_neg hzc] at htk
        have HT := Lib.hid htk
        clear htk
        go_wp2_with (at_builtin; refine wpList_append_own_at _ rfl _ _ 42 rfl w1.heap.size 3 i0 (.int .i64 0) 1 8 Try.underlying42 hi0 hz0 hz1 hz2 rfl (by decide) _ _ _ rfl (ho.alloc _) ⟨wr.heap.size, 0, none⟩ 1 1 [.int .i64 z] rfl rfl (cell_one_new _ _ _) (fun u hu => by rw [List.mem_singleton.1 hu]; rfl) (by unfold maxLen; omega) (by omega) (by simp; omega) ?_; intro v' w4 ho4 hg4 _ _; try go_frame)
        go_roundw
        case rel =>
          refine ⟨j + 1, hjn, by go_num, ?_, (HB1.out.alloc hbs _).grown hg4 (by simp; omega) (fun q hq => (ho.lt q hq).1)⟩
          rw [HT.out]
          simpa using ho4
        case measure => simp [intOf]; omega
    · obtain rfl : j = n := by omega
      rw [List.take_of_length_le (by omega)] at ho
      clear hr
      obtain ⟨A4, c4, rfl, hr4⟩ := IRd.of_own ho
      have hfl := List.length_filter_le (fun x => decide (x ≠ c)) zs
      obtain ⟨m, hm⟩ : ∃ m, m = (zs.filter fun x => decide (x ≠ c)).length := ⟨_, rfl⟩
      obtain ⟨r, hrr⟩ : ∃ r, r = ofL (zs.filter fun x => decide (x ≠ c)) 64 := ⟨_, rfl⟩
      have O := ROf_any A4 _ c4 _ wr hr4 (by omega)
      rw [← hm, ← hrr] at O
      have O := Lib.hid O
      have HRR := Lib.hid hrr
      rw [← hm]
      clear hr4 ho hm hfl hrr
      go_wp2_with fail
      refine O.out.mono ?_
      rintro e w' ⟨rfl, rfl⟩
      go_wp2
      go_ret
      exact ⟨by rw [HRR.out]; simp, HB.out.trans (HB1.out.mono hs1)⟩

end Go.Proofs.Ytigiepmmgghjlaa
