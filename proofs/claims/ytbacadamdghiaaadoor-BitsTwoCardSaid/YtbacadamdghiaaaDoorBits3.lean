/- The laws of bits, by their contracts. -/
import Derived.Test.YtbacadamdghiaaaDoorBits2
namespace Go.Proofs.YtbacadamdghiaaaDoor
open Go.RowKit

set_option maxRecDepth 20000 in
theorem BitsSets_short (A : Option Addr) (n c0 : Nat) (zs : List Int) (s : Nat) (c : Int) (w : World) (h : IRd w A n zs) (hn : n ≤ 100) (hs : s < 18446744073709551616) (hT : TabAt w) :
    Calls Tryd.prog 3 #[.slice A n c0, .int .u64 s, .int .i64 c] w fun e w' => e = .returned (.bool true) ∧ Below w.heap.size w w' := by
  have C1 := Of_any A n c0 zs w h (by omega)
  have C2 := ROf_any A n c0 zs w h (by omega)
  rw [orL_eq] at C1
  obtain ⟨o, ho⟩ : ∃ o, o = ofL zs 64 := ⟨_, rfl⟩
  rw [← ho] at C1 C2
  obtain ⟨x, hx⟩ : ∃ x, x = s ||| orL [c] := ⟨_, rfl⟩
  obtain ⟨y, hy⟩ : ∃ y, y = butN s (orL [c]) := ⟨_, rfl⟩
  obtain ⟨q, hq⟩ : ∃ q, q = decide (0 ≤ c ∧ c < 64 ∧ s.testBit c.toNat = true) := ⟨_, rfl⟩
  have D1 : ∀ w, Calls Tryd.prog 9 #[.int .u64 s, .int .i64 c] w fun e w' => e = .returned (.int .u64 (x : Nat)) ∧ Below w.heap.size w w' := fun w => by rw [hx]; exact With_any s c w hs
  have D2 : ∀ w, Calls Tryd.prog 10 #[.int .u64 s, .int .i64 c] w fun e w' => e = .returned (.int .u64 (x : Nat)) ∧ Below w.heap.size w w' := fun w => by rw [hx]; exact RWith_any s c w hs
  have E1 : ∀ w, Calls Tryd.prog 11 #[.int .u64 s, .int .i64 c] w fun e w' => e = .returned (.int .u64 (y : Nat)) ∧ Below w.heap.size w w' := fun w => by rw [hy]; exact Without_any s c w hs
  have E2 : ∀ w, Calls Tryd.prog 12 #[.int .u64 s, .int .i64 c] w fun e w' => e = .returned (.int .u64 (y : Nat)) ∧ Below w.heap.size w w' := fun w => by rw [hy]; exact RWithout_any s c w hs
  have F1 : ∀ w, Calls Tryd.prog 13 #[.int .u64 s, .int .i64 c] w fun e w' => e = .returned (.bool q) ∧ Below w.heap.size w w' := fun w => by rw [hq]; exact Has_any s c w hs
  have F2 : ∀ w, Calls Tryd.prog 14 #[.int .u64 s, .int .i64 c] w fun e w' => e = .returned (.bool q) ∧ w = w' := fun w => by rw [hq]; exact RHas_any s c w hs
  have G : ∀ w', Below w.heap.size w w' → Calls Tryd.prog 6 #[] w' fun e w2 => e = .returned (.bool true) ∧ Below w'.heap.size w' w2 := fun w' hb => live5_any w' (hT.below hb)
  clear hT hx hy hq ho hs h
  have C1 := Lib.hid C1
  have C2 := Lib.hid C2
  have D1 := Lib.hid D1
  have D2 := Lib.hid D2
  have E1 := Lib.hid E1
  have E2 := Lib.hid E2
  have F1 := Lib.hid F1
  have F2 := Lib.hid F2
  have G := Lib.hid G
  go_enter Tryd.func3, Tryd.ntmps3
  go_wp2_with fail
  refine C1.out.mono ?_
  rintro e w' ⟨rfl, rfl⟩
  go_wp2_with fail
  refine C2.out.mono ?_
  rintro e w' ⟨rfl, rfl⟩
  go_wp2_with fail
  refine (D1.out _).mono ?_
  rintro e w1 ⟨rfl, b1⟩
  have hs1 := b1.size
  have B1 := Lib.hid b1
  clear b1
  go_wp2_with fail
  refine (D2.out _).mono ?_
  rintro e w2 ⟨rfl, b2⟩
  have B2 := Lib.hid (B1.out.trans (b2.mono hs1))
  clear b2
  go_wp2_with fail
  refine (E1.out _).mono ?_
  rintro e w3 ⟨rfl, b3⟩
  have B3 := Lib.hid (B2.out.trans (b3.mono B2.out.size))
  clear b3
  go_wp2_with fail
  refine (E2.out _).mono ?_
  rintro e w4 ⟨rfl, b4⟩
  have B4 := Lib.hid (B3.out.trans (b4.mono B3.out.size))
  clear b4
  go_wp2_with fail
  refine (F1.out _).mono ?_
  rintro e w5 ⟨rfl, b5⟩
  have B5 := Lib.hid (B4.out.trans (b5.mono B4.out.size))
  clear b5
  go_wp2_with fail
  refine (F2.out _).mono ?_
  rintro e w' ⟨rfl, rfl⟩
  go_wp2_with fail
  refine (G.out _ B5.out).mono ?_
  rintro e w6 ⟨rfl, b6⟩
  have B6 := Lib.hid (B5.out.trans (b6.mono B5.out.size))
  clear b6
  go_wp2
  go_ret
  exact ⟨rfl, B6.out⟩

theorem BitsSets_long (A : Option Addr) (n c0 : Nat) (s c : Int) (w : World) (hm : n ≤ 9223372036854775807) (hn : 100 < n) (hT : TabAt w) :
    Calls Tryd.prog 3 #[.slice A n c0, .int .u64 s, .int .i64 c] w fun e w' => e = .returned (.bool true) ∧ Below w.heap.size w w' := by
  have G := Lib.hid (live5_any w hT)
  clear hT
  go_enter Tryd.func3, Tryd.ntmps3
  go_wp2_with fail
  refine G.out.mono ?_
  rintro e w6 ⟨rfl, b6⟩
  go_wp2
  go_ret
  exact ⟨rfl, b6⟩

set_option maxRecDepth 20000 in
theorem BitsLists_any (s : Nat) (c : Int) (w : World) (hs : s < 18446744073709551616) (hT : TabAt w) :
    Calls Tryd.prog 4 #[.int .u64 s, .int .i64 c] w fun e w' => e = .returned (.bool true) ∧ Below w.heap.size w w' := by
  have hb := backN s hs
  have hl := listN_le s
  have G : ∀ w', Below w.heap.size w w' → Calls Tryd.prog 6 #[] w' fun e w2 => e = .returned (.bool true) ∧ Below w'.heap.size w' w2 := fun w' hb => live5_any w' (hT.below hb)
  have L := List_any s w hs hT
  have R := fun w => RList_any s w hs
  have C := fun w => Count_any s w hs
  have F := fun w => RHas_any s c w hs
  have hu := undoN s c hs
  obtain ⟨q, hq⟩ : ∃ q, q = decide (0 ≤ c ∧ c < 64 ∧ s.testBit c.toNat = true) := ⟨_, rfl⟩
  obtain ⟨zs, hzs⟩ : ∃ zs, zs = listZ s := ⟨_, rfl⟩
  obtain ⟨n, hn⟩ : ∃ n, n = (listN s).length := ⟨_, rfl⟩
  obtain ⟨y, hy⟩ : ∃ y, y = butN s (orL [c]) := ⟨_, rfl⟩
  have hyl : y < 18446744073709551616 := by rw [hy]; exact butN_lt hs
  have E : ∀ w, Calls Tryd.prog 11 #[.int .u64 s, .int .i64 c] w fun e w' => e = .returned (.int .u64 (y : Nat)) ∧ Below w.heap.size w w' := fun w => by rw [hy]; exact Without_any s c w hs
  have D : q = true → ∀ w, Calls Tryd.prog 9 #[.int .u64 y, .int .i64 c] w fun e w' => e = .returned (.int .u64 (s : Nat)) ∧ Below w.heap.size w w' := fun h w => by
    have h2 := With_any y c w hyl
    rw [hq] at h
    rw [hy, hu (of_decide_eq_true h), ← hy] at h2
    exact h2
  rw [← hzs] at hb
  rw [← hn] at hl
  simp only [← hzs, ← hn] at L R
  simp only [← hn] at C
  simp only [← hq] at F
  clear hq hzs hn hy hyl hu hT hs
  have L := Lib.hid L
  have R := Lib.hid R
  have C := Lib.hid C
  have F := Lib.hid F
  have E := Lib.hid E
  have D := Lib.hid D
  have G := Lib.hid G
  go_enter Tryd.func4, Tryd.ntmps4
  go_wp2_with fail
  refine L.out.mono ?_
  rintro e w1 ⟨v, rfl, ho, b1⟩
  obtain ⟨A, c1, rfl, hr⟩ := IRd.of_own ho
  have B1 := Lib.hid b1
  have HR := Lib.hid hr
  clear b1 ho hr
  go_wp2_with fail
  refine (F.out _).mono ?_
  rintro e w' ⟨rfl, rfl⟩
  cases q with
  | true =>
    have D1 := Lib.hid (D.out rfl)
    clear D
    go_wp2_with fail
    refine (E.out _).mono ?_
    rintro e w2 ⟨rfl, b2⟩
    have B2 := Lib.hid (B1.out.trans (b2.mono B1.out.size))
    have HR2 := Lib.hid (HR.out.below b2)
    clear b2
    go_wp2_with fail
    refine (D1.out _).mono ?_
    rintro e w3 ⟨rfl, b3⟩
    have B3 := Lib.hid (B2.out.trans (b3.mono B2.out.size))
    have HR3 := Lib.hid (HR2.out.below b3)
    clear b3
    go_wp2_with fail
    refine (R.out _).mono ?_
    rintro e w4 ⟨v, rfl, ho, b4⟩
    have B4 := Lib.hid (B3.out.trans (b4.mono B3.out.size))
    have hr4 := HR3.out.below b4
    obtain ⟨A2, c2, rfl, hr⟩ := IRd.of_own ho
    have S := Lib.hid (SameList_yes w4 A A2 n c1 c2 zs hr4 hr (by omega))
    have HR4 := Lib.hid hr4
    clear b4 ho hr hr4
    go_wp2_with fail
    refine S.out.mono ?_
    rintro e w5 ⟨rfl, b5⟩
    have B5 := Lib.hid (B4.out.trans (b5.mono B4.out.size))
    have hr5 := HR4.out.below b5
    have O := Of_any A n c1 zs w5 hr5 (by omega)
    rw [hb] at O
    have O := Lib.hid O
    clear b5 hr5
    go_wp2_with fail
    refine (C.out _).mono ?_
    rintro e w' ⟨rfl, rfl⟩
    go_wp2_with fail
    refine O.out.mono ?_
    rintro e w' ⟨rfl, rfl⟩
    go_wp2_with fail
    refine (G.out _ B5.out).mono ?_
    rintro e w6 ⟨rfl, b6⟩
    have B6 := Lib.hid (B5.out.trans (b6.mono B5.out.size))
    clear b6
    go_wp2
    go_ret
    exact ⟨rfl, B6.out⟩
  | false =>
    clear D
    go_wp2_with fail
    refine (R.out _).mono ?_
    rintro e w4 ⟨v, rfl, ho, b4⟩
    have B4 := Lib.hid (B1.out.trans (b4.mono B1.out.size))
    have hr4 := HR.out.below b4
    obtain ⟨A2, c2, rfl, hr⟩ := IRd.of_own ho
    have S := Lib.hid (SameList_yes w4 A A2 n c1 c2 zs hr4 hr (by omega))
    have HR4 := Lib.hid hr4
    clear b4 ho hr hr4
    go_wp2_with fail
    refine S.out.mono ?_
    rintro e w5 ⟨rfl, b5⟩
    have B5 := Lib.hid (B4.out.trans (b5.mono B4.out.size))
    have hr5 := HR4.out.below b5
    have O := Of_any A n c1 zs w5 hr5 (by omega)
    rw [hb] at O
    have O := Lib.hid O
    clear b5 hr5
    go_wp2_with fail
    refine (C.out _).mono ?_
    rintro e w' ⟨rfl, rfl⟩
    go_wp2_with fail
    refine O.out.mono ?_
    rintro e w' ⟨rfl, rfl⟩
    go_wp2_with fail
    refine (G.out _ B5.out).mono ?_
    rintro e w6 ⟨rfl, b6⟩
    have B6 := Lib.hid (B5.out.trans (b6.mono B5.out.size))
    clear b6
    go_wp2
    go_ret
    exact ⟨rfl, B6.out⟩

theorem has_of_mem (b i : Nat) (hi : i < 64) : decide (0 ≤ (i : Int) ∧ (i : Int) < 64 ∧ b.testBit ((i : Int)).toNat = true) = b.testBit i := by
  have h1 : (i : Int) < 64 := by omega
  simp [h1]

set_option maxRecDepth 20000 in
theorem BitsTwo_any (a b : Nat) (w : World) (ha : a < 18446744073709551616) (hb : b < 18446744073709551616) (hT : TabAt w) :
    Calls Tryd.prog 5 #[.int .u64 a, .int .u64 b] w fun e w' => e = .returned (.bool true) ∧ Below w.heap.size w w' := by
  have R := Lib.hid (RList_any a w ha)
  have hl := listN_le a
  have G : ∀ w', Below w.heap.size w w' → Calls Tryd.prog 6 #[] w' fun e w2 => e = .returned (.bool true) ∧ Below w'.heap.size w' w2 := fun w' hb => live5_any w' (hT.below hb)
  have W := fun w => Within_any a b w ha hb
  have P := fun w => Apart_any a b w ha hb
  simp only [withinN a b ha hb] at W
  simp only [apartN a b ha] at P
  have F : ∀ i, i < 64 → ∀ w, Calls Tryd.prog 14 #[.int .u64 b, .int .i64 (i : Nat)] w fun e w' => e = .returned (.bool (b.testBit i)) ∧ w = w' := fun i hi w => by
    have h := RHas_any b (i : Int) w hb
    rw [has_of_mem b i hi] at h
    exact h
  have hmem : ∀ i ∈ listN a, i < 64 := fun i hi => (mem_listN.1 hi).1
  obtain ⟨L, hL⟩ : ∃ L, L = listN a := ⟨_, rfl⟩
  unfold listZ at R
  rw [← hL] at R hl hmem
  simp only [← hL] at W P
  clear hL hT ha hb
  obtain ⟨n, hn⟩ : ∃ n, n = L.length := ⟨_, rfl⟩
  rw [← hn] at R hl
  have W := Lib.hid W
  have P := Lib.hid P
  have F := Lib.hid F
  have G := Lib.hid G
  have HM := Lib.hid hmem
  have HN := Lib.hid hn
  clear hmem hn
  go_enter Tryd.func5, Tryd.ntmps5
  go_wp2_with fail
  refine R.out.mono ?_
  rintro e w1 ⟨v, rfl, ho, b1⟩
  obtain ⟨A, c1, rfl, hr⟩ := IRd.of_own ho
  have B1 := Lib.hid b1
  have HR := Lib.hid hr
  clear b1 ho hr
  go_wp2
  go_loop [5, 6, 8] (fun v5 v6 v8 => ∃ j : Nat, j ≤ n ∧ v8 = .int .i64 j ∧ v5 = .bool ((L.take j).all fun i => b.testBit i) ∧ v6 = .bool ((L.take j).all fun i => !b.testBit i)) (fun _ _ v8 => n - (intOf v8).toNat)
  case atStart => exact ⟨0, Nat.zero_le _, rfl, rfl, rfl⟩
  case round =>
    obtain ⟨j, hj, rfl, rfl, rfl⟩ := hrel
    by_cases hjn : j < n
    · obtain ⟨bb, o, hA, _, hc⟩ := HR.out.2 (by omega)
      have hjl : j < L.length := by rw [← HN.out]; exact hjn
      have k0 := hc j (by rw [HR.out.1]; exact hjn)
      obtain ⟨i, hi⟩ : ∃ i, i = L[j] := ⟨_, rfl⟩
      have hi6 : i < 64 := by rw [hi]; exact HM.out _ (List.getElem_mem hjl)
      rw [show (L.map Int.ofNat).getD j 0 = (i : Int) by rw [hi]; simp [List.getD, hjl]] at k0
      have ht : L.take (j + 1) = L.take j ++ [i] := by rw [hi, List.take_succ_eq_append_getElem hjl]
      have t1 : ((L.take (j + 1)).all fun i => b.testBit i) = (((L.take j).all fun i => b.testBit i) && b.testBit i) := by rw [ht, List.all_append]; simp
      have t2 : ((L.take (j + 1)).all fun i => !b.testBit i) = (((L.take j).all fun i => !b.testBit i) && !b.testBit i) := by rw [ht, List.all_append]; simp
      have F1 := F.out i hi6
      obtain ⟨p, hp⟩ : ∃ p, p = b.testBit i := ⟨_, rfl⟩
      obtain ⟨u, hu⟩ : ∃ u, u = ((L.take j).all fun i => b.testBit i) := ⟨_, rfl⟩
      obtain ⟨v, hv⟩ : ∃ v, v = ((L.take j).all fun i => !b.testBit i) := ⟨_, rfl⟩
      rw [← hp, ← hu] at t1
      rw [← hp, ← hv] at t2
      simp only [← hp] at F1
      rw [← hu, ← hv]
      have T1 := Lib.hid t1
      have T2 := Lib.hid t2
      have F1 := Lib.hid F1
      subst hA
      clear hc hi ht t1 t2 hp hu hv hjl
      cases u <;> cases v
      · go_wp2
        go_roundw
        case rel => exact ⟨j + 1, hjn, by go_num, by rw [T1.out]; rfl, by rw [T2.out]; rfl⟩
        case measure => simp [intOf]; omega
      · go_wp2_with fail
        refine (F1.out _).mono ?_
        rintro e w' ⟨rfl, rfl⟩
        go_wp2
        go_roundw
        case rel => exact ⟨j + 1, hjn, by go_num, by rw [T1.out]; rfl, by rw [T2.out]; simp⟩
        case measure => simp [intOf]; omega
      · go_wp2_with fail
        refine (F1.out _).mono ?_
        rintro e w' ⟨rfl, rfl⟩
        go_wp2
        go_roundw
        case rel => exact ⟨j + 1, hjn, by go_num, by rw [T1.out]; simp, by rw [T2.out]; rfl⟩
        case measure => simp [intOf]; omega
      · go_wp2_with fail
        refine (F1.out _).mono ?_
        rintro e w' ⟨rfl, rfl⟩
        go_wp2_with fail
        refine (F1.out _).mono ?_
        rintro e w' ⟨rfl, rfl⟩
        go_wp2
        go_roundw
        case rel => exact ⟨j + 1, hjn, by go_num, by rw [T1.out]; simp, by rw [T2.out]; simp⟩
        case measure => simp [intOf]; omega
    · obtain rfl : j = n := by omega
      rw [List.take_of_length_le (by rw [← HN.out]; exact Nat.le_refl _)]
      obtain ⟨u, hu⟩ : ∃ u, u = (L.all fun i => b.testBit i) := ⟨_, rfl⟩
      obtain ⟨v, hv⟩ : ∃ v, v = (L.all fun i => !b.testBit i) := ⟨_, rfl⟩
      rw [← hu, ← hv]
      have W1 := W.out
      have P1 := P.out
      simp only [← hu] at W1
      simp only [← hv] at P1
      have W1 := Lib.hid W1
      have P1 := Lib.hid P1
      clear hu hv
      go_wp2_with fail
      refine (W1.out _).mono ?_
      rintro e w' ⟨rfl, rfl⟩
      go_wp2_with fail
      refine (P1.out _).mono ?_
      rintro e w' ⟨rfl, rfl⟩
      go_wp2_with fail
      refine (G.out _ B1.out).mono ?_
      rintro e w6 ⟨rfl, b6⟩
      have B6 := Lib.hid (B1.out.trans (b6.mono B1.out.size))
      clear b6
      go_wp2
      go_ret
      exact ⟨rfl, B6.out⟩
end Go.Proofs.YtbacadamdghiaaaDoor
