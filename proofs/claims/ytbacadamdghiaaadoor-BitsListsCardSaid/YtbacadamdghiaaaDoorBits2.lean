/- The contracts of bits, further: List; the reference's List, Of, With, Without; SameList; live. -/
import Derived.Test.YtbacadamdghiaaaDoorBits1
import Derived.Test.YtbacadamdghiaaaDoorSameL
import Derived.BigQuiet
import Derived.Deep.QuietTactic
namespace Go.Proofs.YtbacadamdghiaaaDoor
open Go.RowKit

theorem TabAt.below {w w' : World} (h : TabAt w) (hb : Below w.heap.size w w') : TabAt w' := fun j hj => by
  have h1 := h j hj
  have hlt : 0 < w.heap.size := World.block_lt_of_cell? w _ h1
  exact (hb.cell (p := ⟨0, j, none⟩) hlt).trans h1

theorem List_any (s : Nat) (w : World) (hs : s < 18446744073709551616) (hT : TabAt w) :
    Calls Tryd.prog 15 #[.int .u64 s] w fun e w' => ∃ v, e = .returned v ∧ w'.ownsRow w.heap.size 3 1 v (listN s).length ((listZ s).map (Value.int .i64)) ∧ Below w.heap.size w w' := by
  have C := Lib.hid (Count_any s w hs)
  have hll : (listN s).length ≤ 64 := by
    have := List.length_filter_le (fun i => s.testBit i) (List.range 64)
    rw [List.length_range] at this
    exact this
  obtain ⟨i0, hi0, hz0, hz1, hz2⟩ := info_parts intT.info
  have HT := Lib.hid hT
  clear hT
  go_enter Tryd.func15, Tryd.ntmps15
  go_wp2_with fail
  refine C.out.mono ?_
  rintro e w' ⟨rfl, rfl⟩
  go_wp2_with (at_make; refine wpList_mk _ intT rfl (.const (.int .i64 0)) (.tmp 7) rfl w.heap.size .i64 .i64 _ (listN s).length rfl rfl rfl (by omega) (by unfold maxLen; omega) (Nat.le_refl _) ?_; intro v1 w1 hown1 hb1)
  go_loopw [3, 4] (fun v rv wr => ∃ (t : Nat) (pre : List Nat), t < 18446744073709551616 ∧ rv = .int .u64 t ∧ listN s = pre ++ listN t ∧ wr.ownsRow w.heap.size 3 1 v pre.length ((pre.map Int.ofNat).map (Value.int .i64)) ∧ Below w.heap.size w wr) (fun _ rv _ => (listN (intOf rv).toNat).length)
  case atStart => exact ⟨s, [], hs, rfl, rfl, hown1, hb1⟩
  case round =>
    obtain ⟨t, pre, ht, rfl, hl, ho, hB⟩ := hrel
    have hbs := hB.size
    by_cases h0 : t = 0
    · subst h0
      have HB := Lib.hid hB
      have HL := Lib.hid hl
      clear hB hl
      go_wp2
      go_ret
      have e : pre = listN s := by rw [HL.out, listN_zero, List.append_nil]
      subst e
      exact ⟨_, rfl, ho, HB.out⟩
    · obtain ⟨hk, hlow⟩ := lowN t h0 ht
      have TZ := Lib.hid (tz_any t wr h0 ht (HT.out.below hB))
      obtain ⟨k, hk'⟩ : ∃ k, k = Lib.ctz 64 t := ⟨_, rfl⟩
      rw [← hk'] at hk hlow TZ
      have hlen := congrArg List.length hl
      rw [List.length_append] at hlen
      have HLow := Lib.hid hlow
      have HL := Lib.hid hl
      have HB := Lib.hid hB
      have HK := Lib.hid hlen
      have hpl : pre.length ≤ 64 := by omega
      clear hlow hl hB hk' hlen
      go_wp2_with fail
      refine TZ.out.mono ?_
      rintro e w' ⟨rfl, rfl⟩
      go_wp2_with (at_builtin; refine wpList_append_own_at _ rfl _ _ 22 rfl w.heap.size 3 i0 (.int .i64 0) 1 8 Tryd.underlying22 hi0 hz0 hz1 hz2 rfl (by decide) _ _ _ rfl (ho.alloc _) ⟨wr.heap.size, 0, none⟩ 1 1 [.int .i64 k] rfl rfl (cell_one_new _ _ _) (fun u hu => by rw [List.mem_singleton.1 hu]; rfl) (by unfold maxLen; omega) (by omega) (by simp; omega) ?_; intro v' w4 ho4 hg4 _ _; try go_frame)
      have hB4 : Below w.heap.size w w4 := (HB.out.alloc hbs _).grown hg4 (by simp; omega) (fun q hq => (ho.lt q hq).1)
      have W := Lib.hid (Without_any t (k : Int) w4 ht)
      have hs4 := hB4.size
      have HB4 := Lib.hid hB4
      have HO4 := Lib.hid ho4
      clear hB4 ho4 hg4 ho
      go_wp2_with fail
      refine W.out.mono ?_
      rintro e w5 ⟨rfl, hB5⟩
      have HB5 := Lib.hid hB5
      have HO5 := Lib.hid (own_keep HO4.out hB5)
      have hbl := butN_lt (o := orL [(k : Int)]) ht
      clear hB5
      obtain ⟨t', ht'⟩ : ∃ t', t' = butN t (orL [(k : Int)]) := ⟨_, rfl⟩
      rw [← ht'] at HLow hbl ⊢
      clear ht'
      go_wp2
      go_roundw
      case rel =>
        refine ⟨t', pre ++ [k], hbl, rfl, ?_, ?_, HB4.out.trans (HB5.out.mono hs4)⟩
        · rw [HL.out, HLow.out]; simp
        · have := HO5.out
          simpa using this
      case measure =>
        rw [show (intOf (.int .u64 (t' : Int))).toNat = t' from rfl, show (intOf (.int .u64 (t : Int))).toNat = t from rfl, HLow.out]
        simp

theorem listR_snoc (s j : Nat) : ((List.range (j + 1)).filter fun i => s.testBit i) = ((List.range j).filter fun i => s.testBit i) ++ (if s.testBit j = true then [j] else []) := by
  rw [List.range_succ, List.filter_append]
  by_cases h : s.testBit j = true <;> simp [h]

theorem RList_any (s : Nat) (w : World) (hs : s < 18446744073709551616) :
    Calls Tryd.prog 17 #[.int .u64 s] w fun e w' => ∃ v, e = .returned v ∧ w'.ownsRow w.heap.size 3 1 v (listN s).length ((listZ s).map (Value.int .i64)) ∧ Below w.heap.size w w' := by
  obtain ⟨i0, hi0, hz0, hz1, hz2⟩ := info_parts intT.info
  go_enter Tryd.func17, Tryd.ntmps17
  go_wp2
  go_loopw [3, 4] (fun v iv wr => ∃ (j : Nat) (pre : List Nat), j ≤ 64 ∧ iv = .int .i64 j ∧ pre = ((List.range j).filter fun i => s.testBit i) ∧ wr.ownsRow w.heap.size 3 1 v pre.length ((pre.map Int.ofNat).map (Value.int .i64)) ∧ Below w.heap.size w wr) (fun _ iv _ => 64 - (intOf iv).toNat)
  case atStart => exact ⟨0, [], Nat.zero_le _, rfl, rfl, World.ownsRow_nil _ _ _ _, Below.refl _ _⟩
  case round =>
    obtain ⟨j, pre, hj, rfl, hp, ho, hB⟩ := hrel
    have hbs := hB.size
    have HB := Lib.hid hB
    by_cases hj6 : j < 64
    · have H := Lib.hid (RHas_any s (j : Int) wr hs)
      have hsn := listR_snoc s j
      rw [← hp] at hsn
      have hpl : pre.length ≤ 64 := by
        have := List.length_filter_le (fun i => s.testBit i) (List.range j)
        rw [List.length_range, ← hp] at this
        omega
      have hd : decide (0 ≤ (j : Int) ∧ (j : Int) < 64 ∧ s.testBit ((j : Int)).toNat = true) = s.testBit j := by
        have h1 : (j : Int) < 64 := by omega
        simp [h1]
      rw [hd] at H
      clear hB hp hd
      by_cases hb : s.testBit j = true
      · rw [if_pos hb] at hsn
        rw [hb] at H
        have HSN := Lib.hid hsn
        clear hsn hb
        go_wp2_with fail
        refine H.out.mono ?_
        rintro e w' ⟨rfl, rfl⟩
        go_wp2_with (at_builtin; refine wpList_append_own_at _ rfl _ _ 22 rfl w.heap.size 3 i0 (.int .i64 0) 1 8 Tryd.underlying22 hi0 hz0 hz1 hz2 rfl (by decide) _ _ _ rfl (ho.alloc _) ⟨wr.heap.size, 0, none⟩ 1 1 [.int .i64 j] rfl rfl (cell_one_new _ _ _) (fun u hu => by rw [List.mem_singleton.1 hu]; rfl) (by unfold maxLen; omega) (by omega) (by simp; omega) ?_; intro v' w4 ho4 hg4 _ _; try go_frame)
        go_roundw
        case rel =>
          refine ⟨j + 1, pre ++ [j], hj6, by go_num, HSN.out.symm, ?_, (HB.out.alloc hbs _).grown hg4 (by simp; omega) (fun q hq => (ho.lt q hq).1)⟩
          simpa using ho4
        case measure => simp [intOf]; omega
      · rw [if_neg hb, List.append_nil] at hsn
        have hb : s.testBit j = false := by simpa using hb
        rw [hb] at H
        have HSN := Lib.hid hsn
        clear hsn hb
        go_wp2_with fail
        refine H.out.mono ?_
        rintro e w' ⟨rfl, rfl⟩
        go_wp2
        go_roundw
        case rel => exact ⟨j + 1, pre, hj6, by go_num, HSN.out.symm, ho, HB.out⟩
        case measure => simp [intOf]; omega
    · obtain rfl : j = 64 := by omega
      clear hB
      have HP := Lib.hid hp
      clear hp
      go_wp2
      go_ret
      have e : pre = listN s := HP.out
      subst e
      exact ⟨_, rfl, ho, HB.out⟩

theorem ofL_snoc (l : List Int) (c : Nat) : ofL l (c + 1) = ofL l c + if (c : Int) ∈ l then 2 ^ c else 0 := rfl
theorem ROf_any (A : Option Addr) (n c : Nat) (zs : List Int) (w : World) (h : IRd w A n zs) (hn : n ≤ 1099511627776) :
    Calls Tryd.prog 8 #[.slice A n c] w fun e w' => e = .returned (.int .u64 (ofL zs 64 : Nat)) ∧ w = w' := by
  have H := Lib.hid h
  clear h
  go_enter Tryd.func8, Tryd.ntmps8
  go_wp2
  go_loop [3, 4, 5] (fun sv bv cv => ∃ (j b : Nat), j ≤ 64 ∧ cv = .int .i64 j ∧ b = 2 ^ j % 18446744073709551616 ∧ bv = .int .u64 b ∧ sv = .int .u64 (ofL zs j : Nat)) (fun _ _ cv => 64 - (intOf cv).toNat)
  case atStart => exact ⟨0, 1, Nat.zero_le _, rfl, rfl, rfl, rfl⟩
  case round =>
    obtain ⟨j, b, hj, rfl, hb, rfl, rfl⟩ := hrel
    by_cases hj6 : j < 64
    · have hlt := ofL_lt zs j
      have hsn := ofL_snoc zs j
      have h2 := two_lt hj6
      have hb0 : b = 2 ^ j := by rw [hb, Nat.mod_eq_of_lt h2]
      have hb1 : b * 2 % 18446744073709551616 = 2 ^ (j + 1) % 18446744073709551616 := by rw [hb0, Nat.pow_succ]
      have hlt2 := ofL_lt zs (j + 1)
      have h264 : 2 ^ (j + 1) ≤ 18446744073709551616 := show 2 ^ (j + 1) ≤ 2 ^ 64 from Nat.pow_le_pow_right (by omega) (by omega)
      obtain ⟨s, hs⟩ : ∃ s, s = ofL zs j := ⟨_, rfl⟩
      obtain ⟨s2, hs2⟩ : ∃ s2, s2 = ofL zs (j + 1) := ⟨_, rfl⟩
      rw [← hs] at hlt hsn ⊢
      rw [← hs2] at hlt2 hsn
      rw [← hb0] at hlt h2 hsn
      have hs2l : s2 < 18446744073709551616 := Nat.lt_of_lt_of_le hlt2 h264
      clear hb hs hb0 hlt2 h264
      have HB1 := Lib.hid hb1
      have HSN := Lib.hid hsn
      have HS2 := Lib.hid hs2
      clear hb1 hsn hs2
      go_wp2
      go_loop [3, 6] (fun sv iv => ∃ i : Nat, i ≤ n ∧ iv = .int .i64 i ∧ sv = .int .u64 s ∧ ¬ (j : Int) ∈ zs.take i) (fun _ iv => n - (intOf iv).toNat)
      case atStart => exact ⟨0, Nat.zero_le _, rfl, rfl, by simp⟩
      case round =>
        obtain ⟨i, hi, rfl, rfl, hni⟩ := hrel
        by_cases hin : i < n
        · obtain ⟨bb, o, hA, _, hc⟩ := H.out.2 (by omega)
          have hil : i < zs.length := by rw [H.out.1]; exact hin
          have k0 := hc i hil
          obtain ⟨z, hz⟩ : ∃ z, z = zs.getD i 0 := ⟨_, rfl⟩
          rw [← hz] at k0
          have hz' : z = zs[i] := by rw [hz, List.getD, List.getElem?_eq_getElem hil]; rfl
          subst hA
          clear hc hz
          have HZ := Lib.hid hz'
          have HNI := Lib.hid hni
          clear hz' hni
          by_cases hzj : z = (j : Int)
          · have hm : (j : Int) ∈ zs := by rw [← hzj, HZ.out]; exact List.getElem_mem hil
            have e := HSN.out
            rw [if_pos hm] at e
            subst hzj
            have E := Lib.hid e
            clear hm
            go_wp2
            go_round
            case rel => exact ⟨j + 1, b * 2 % 18446744073709551616, hj6, by go_num, HB1.out, by go_num, by rw [← HS2.out]; go_num⟩
            case measure => simp [intOf]; omega
          · go_wp2
            go_round
            case rel =>
              refine ⟨i + 1, hin, by go_num, rfl, ?_⟩
              rw [List.take_succ_eq_append_getElem hil, List.mem_append]
              rintro (h1 | h1)
              · exact HNI.out h1
              · rw [List.mem_singleton, ← HZ.out] at h1
                exact hzj h1.symm
            case measure => simp [intOf]; omega
        · obtain rfl : i = n := by omega
          rw [List.take_of_length_le (by rw [H.out.1]; exact Nat.le_refl _)] at hni
          have e := HSN.out
          rw [if_neg hni, Nat.add_zero] at e
          have E := Lib.hid e
          clear e hni
          go_wp2
          go_round
          case rel => exact ⟨j + 1, b * 2 % 18446744073709551616, hj6, by go_num, HB1.out, by go_num, by rw [← HS2.out, E.out]⟩
          case measure => simp [intOf]; omega
    · obtain rfl : j = 64 := by omega
      clear hb
      go_wp2
      go_ret
      exact ⟨rfl, rfl⟩

theorem listN_le (s : Nat) : (listN s).length ≤ 64 := by
  have := List.length_filter_le (fun i => s.testBit i) (List.range 64)
  rw [List.length_range] at this
  exact this
theorem listZ_len (s : Nat) : (listZ s).length = (listN s).length := by unfold listZ; rw [List.length_map]

theorem RWith_any (s : Nat) (c : Int) (w : World) (hs : s < 18446744073709551616) :
    Calls Tryd.prog 10 #[.int .u64 s, .int .i64 c] w fun e w' => e = .returned (.int .u64 (s ||| orL [c] : Nat)) ∧ Below w.heap.size w w' := by
  obtain ⟨i0, hi0, hz0, hz1, hz2⟩ := info_parts intT.info
  have L := Lib.hid (RList_any s w hs)
  have hw := withN s c hs
  have hl := listN_le s
  rw [hw]
  clear hw
  go_enter Tryd.func10, Tryd.ntmps10
  go_wp2_with fail
  refine L.out.mono ?_
  rintro e w1 ⟨v, rfl, ho, hB⟩
  have hs1 := hB.size
  have HB := Lib.hid hB
  clear hB
  go_wp2_with (at_builtin; refine wpList_append_own_at _ rfl _ _ 22 rfl w.heap.size 3 i0 (.int .i64 0) 1 8 Tryd.underlying22 hi0 hz0 hz1 hz2 rfl (by decide) _ _ _ rfl (ho.alloc _) ⟨w1.heap.size, 0, none⟩ 1 1 [.int .i64 c] rfl rfl (cell_one_new _ _ _) (fun u hu => by rw [List.mem_singleton.1 hu]; rfl) (by unfold maxLen; omega) (by omega) (by simp; omega) ?_; intro v' w4 ho4 hg4 _ _; try go_frame)
  have hB4 : Below w.heap.size w w4 := (HB.out.alloc hs1 _).grown hg4 (by simp; omega) (fun q hq => (ho.lt q hq).1)
  have ho4' : w4.ownsRow w.heap.size 3 1 v' ((listN s).length + 1) ((listZ s ++ [c]).map (Value.int .i64)) := by simpa using ho4
  obtain ⟨A4, c4, rfl, hr4⟩ := IRd.of_own ho4'
  have O := Lib.hid (ROf_any A4 _ c4 _ w4 hr4 (by omega))
  have HB4 := Lib.hid hB4
  clear ho4 ho4' hg4 hr4 hB4 ho
  go_wp2_with fail
  refine O.out.mono ?_
  rintro e w' ⟨rfl, rfl⟩
  go_wp2
  go_ret
  exact ⟨rfl, HB4.out⟩

set_option maxRecDepth 20000 in
theorem RWithout_any (s : Nat) (c : Int) (w : World) (hs : s < 18446744073709551616) :
    Calls Tryd.prog 12 #[.int .u64 s, .int .i64 c] w fun e w' => e = .returned (.int .u64 (butN s (orL [c]) : Nat)) ∧ Below w.heap.size w w' := by
  obtain ⟨i0, hi0, hz0, hz1, hz2⟩ := info_parts intT.info
  have L := Lib.hid (RList_any s w hs)
  have hw := withoutN s c hs
  have hl := listN_le s
  have hll := listZ_len s
  rw [hw]
  clear hw
  obtain ⟨zs, hzs⟩ : ∃ zs, zs = listZ s := ⟨_, rfl⟩
  obtain ⟨n, hn⟩ : ∃ n, n = (listN s).length := ⟨_, rfl⟩
  rw [← hzs, ← hn] at L hll
  rw [← hn] at hl
  rw [← hzs]
  clear hzs hn
  go_enter Tryd.func12, Tryd.ntmps12
  go_wp2_with fail
  refine L.out.mono ?_
  rintro e w1 ⟨v, rfl, ho, hB⟩
  obtain ⟨A, c1, rfl, hr⟩ := IRd.of_own ho
  have hs1 := hB.size
  have HB := Lib.hid hB
  have HR := Lib.hid hr
  clear hB hr ho
  go_wp2
  go_loopw [6, 7] (fun v6 v7 wr => ∃ j : Nat, j ≤ n ∧ v7 = .int .i64 j ∧ wr.ownsRow w1.heap.size 3 1 v6 ((zs.take j).filter fun x => decide (x ≠ c)).length (((zs.take j).filter fun x => decide (x ≠ c)).map (Value.int .i64)) ∧ Below w1.heap.size w1 wr) (fun _ v7 _ => n - (intOf v7).toNat)
  case atStart => exact ⟨0, Nat.zero_le _, rfl, World.ownsRow_nil _ _ _ _, Below.refl _ _⟩
  case round =>
    obtain ⟨j, hj, rfl, ho, hB⟩ := hrel
    have hbs := hB.size
    have hr := HR.out.below hB
    have HB1 := Lib.hid hB
    clear hB
    by_cases hjn : j < n
    · obtain ⟨b, o, hA, _, hc⟩ := hr.2 (by omega)
      have hjl : j < zs.length := by omega
      have k0 := hc j hjl
      obtain ⟨z, hz⟩ : ∃ z, z = zs.getD j 0 := ⟨_, rfl⟩
      rw [← hz] at k0
      have htk : (zs.take (j + 1)).filter (fun x => decide (x ≠ c)) = (zs.take j).filter (fun x => decide (x ≠ c)) ++ if z = c then [] else [z] := by
        rw [List.take_succ_eq_append_getElem hjl, List.filter_append, hz, List.getD, List.getElem?_eq_getElem hjl]
        by_cases h : zs[j] = c <;> simp [h]
      have hfl : ((zs.take j).filter fun x => decide (x ≠ c)).length ≤ 64 := by
        have := List.length_filter_le (fun x => decide (x ≠ c)) (zs.take j)
        rw [List.length_take] at this
        omega
      subst hA
      clear hc hz hr
      by_cases hzc : z = c
      · rw [if_pos hzc, List.append_nil] at htk
        have HT := Lib.hid htk
        clear htk
        go_wp2
        go_roundw
        case rel => exact ⟨j + 1, hjn, by go_num, by rw [HT.out]; exact ho, HB1.out⟩
        case measure => simp [intOf]; omega
      · rw [if_neg hzc] at htk
        have HT := Lib.hid htk
        clear htk
        go_wp2_with (at_builtin; refine wpList_append_own_at _ rfl _ _ 22 rfl w1.heap.size 3 i0 (.int .i64 0) 1 8 Tryd.underlying22 hi0 hz0 hz1 hz2 rfl (by decide) _ _ _ rfl (ho.alloc _) ⟨wr.heap.size, 0, none⟩ 1 1 [.int .i64 z] rfl rfl (cell_one_new _ _ _) (fun u hu => by rw [List.mem_singleton.1 hu]; rfl) (by unfold maxLen; omega) (by omega) (by simp; omega) ?_; intro v' w4 ho4 hg4 _ _; try go_frame)
        go_roundw
        case rel =>
          refine ⟨j + 1, hjn, by go_num, ?_, (HB1.out.alloc hbs _).grown hg4 (by simp; omega) (fun q hq => (ho.lt q hq).1)⟩
          rw [HT.out]
          simpa using ho4
        case measure => simp [intOf]; omega
    · obtain rfl : j = n := by omega
      rw [List.take_of_length_le (by omega)] at ho
      clear hr
      obtain ⟨A4, c4, rfl, hr4⟩ := IRd.of_own ho
      have hfl := List.length_filter_le (fun x => decide (x ≠ c)) zs
      obtain ⟨m, hm⟩ : ∃ m, m = (zs.filter fun x => decide (x ≠ c)).length := ⟨_, rfl⟩
      obtain ⟨r, hrr⟩ : ∃ r, r = ofL (zs.filter fun x => decide (x ≠ c)) 64 := ⟨_, rfl⟩
      have O := ROf_any A4 _ c4 _ wr hr4 (by omega)
      rw [← hm, ← hrr] at O
      have O := Lib.hid O
      have HRR := Lib.hid hrr
      rw [← hm]
      clear hr4 ho hm hfl hrr
      go_wp2_with fail
      refine O.out.mono ?_
      rintro e w' ⟨rfl, rfl⟩
      go_wp2
      go_ret
      exact ⟨by rw [HRR.out]; simp, HB.out.trans (HB1.out.mono hs1)⟩

theorem listN_21 : listN 21 = [0, 2, 4] := by decide +kernel
theorem listZ_21 : listZ 21 = [0, 2, 4] := by decide +kernel
/-- The page's example. -/
theorem live5_any (w : World) (hT : TabAt w) :
    Calls Tryd.prog 6 #[] w fun e w' => e = .returned (.bool true) ∧ Below w.heap.size w w' := by
  have L := Lib.hid (List_any 21 w (by decide) hT)
  rw [listN_21, listZ_21] at L
  clear hT
  go_enter Tryd.func6, Tryd.ntmps6
  go_wp2_with fail
  refine L.out.mono ?_
  rintro e w1 ⟨v, rfl, ho, hB⟩
  obtain ⟨A, c, rfl, hr⟩ := IRd.of_own ho
  obtain ⟨w2, hw2⟩ : ∃ w2, w2 = w1.alloc (.cells #[.int .i64 0, .int .i64 2, .int .i64 4] 3) := ⟨_, rfl⟩
  have hB2 : Below w1.heap.size w1 w2 := by rw [hw2]; exact (Below.refl _ _).alloc (Nat.le_refl _) _
  have hr2 : IRd w2 (some ⟨w1.heap.size, 0, none⟩) 3 [0, 2, 4] := by rw [hw2]; exact IRd.new w1 _ _ [0, 2, 4]
  have S := Lib.hid (SameList_yes w2 A (some ⟨w1.heap.size, 0, none⟩) 3 c 3 [0, 2, 4] (hr.below hB2) hr2 (by decide))
  have hs := hB.size
  have HB := Lib.hid (hB.trans (hB2.mono hs))
  have hs2 := HB.out.size
  clear hB hB2 hr hr2 ho
  go_wp2_with (rw [← hw2]; clear hw2)
  refine S.out.mono ?_
  rintro e w3 ⟨rfl, hB3⟩
  have HB3 := Lib.hid hB3
  clear hB3
  go_wp2
  go_ret
  exact ⟨rfl, HB.out.trans (HB3.out.mono hs2)⟩
end Go.Proofs.YtbacadamdghiaaaDoor
