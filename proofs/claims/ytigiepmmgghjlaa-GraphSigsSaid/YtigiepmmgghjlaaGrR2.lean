/- The reference's Node, whole, and its Go (written by gen_grr2.py). -/
import Derived.Test.YtigiepmmgghjlaaGrR1
import Derived.Test.YtigiepmmgghjlaaGrP5
import Derived.Test.YtigiepmmgghjlaaBitsRW
import Derived.Deep.RegionHeld3
namespace Go.Proofs.Ytigiepmmgghjlaa
open Go.RowKit

section
variable {w w' : World} {A : Option Addr} {n : Nat} {S : List Nat}
theorem RNode_any (c : Nat) (s : Nat) (h : URd w A n S) (hn : n ≤ 1000000) (hpos : 0 < n) :
    Calls Try.prog 20 #[.slice A n c, .int .u64 s] w (RGo w A (gNode S s).1 ((gNode S s).2 : Nat)) := by
  cases hi : ixS S s with
  | some i => rw [gNode_some hi]; exact RNode_old c s i h hn hi
  | none => rw [gNode_none hi]; have := RNode_new c s h hn hpos hi; exact this
theorem RGo.pre {w1 w2 : World} {S' : List Nat} {r : Int} {e : Ending} (hb : Below w.heap.size w w1) (h : RGo w1 A S' r e w2) : RGo w A S' r e w2 := by
  obtain ⟨A', c', he, hr, hB, hi⟩ := h
  exact ⟨A', c', he, hr, hb.trans (hB.mono hb.size), fun x hx => (hi x hx).imp id (fun h => ⟨Nat.le_trans hb.size h.1, h.2⟩)⟩
theorem gMove_no {S : List Nat} {b : Bool} {n c : Int} (h : ¬ (0 ≤ n ∧ n < S.length)) : gMove S b n c = (S, -1) := by unfold gMove; rw [if_neg h]
theorem gMove_yes {S : List Nat} {b : Bool} {i s : Nat} {c : Int} (h : S[i]? = some s) : gMove S b i c = ((gNode S (chg b s c)).1, ((gNode S (chg b s c)).2 : Int)) := by
  have hl := (List.getElem?_eq_some_iff.1 h).1
  have hd : S.getD i 0 = s := by rw [List.getD_eq_getElem?_getD, h]; rfl
  unfold gMove
  rw [if_pos (by omega), Int.toNat_natCast, hd]

/-- The step in a block of its own. -/
theorem RGo_node (c0 : Nat) (h : URd w A n S) (hn : n ≤ 1000000) (hpos : 0 < n) (d : Int) (sig : Nat) (m c : Int) (h1 : d ≠ 1) (h2 : d ≠ 2) :
    Calls Try.prog 9 #[.slice A n c0, .agg #[.int .i64 d, .int .u64 sig, .int .i64 m, .int .i64 c]] w (RGo w A (gNode S sig).1 ((gNode S sig).2 : Nat)) := by
  obtain ⟨w1, hw1⟩ : ∃ w1, w1 = w.alloc (.cells #[.int .i64 d, .int .u64 sig, .int .i64 m, .int .i64 c] 30) := ⟨_, rfl⟩
  have hB : Below w.heap.size w w1 := by rw [hw1]; exact (Below.refl _ _).alloc (Nat.le_refl _) _
  have hR : Rec 30 w1 w.heap.size #[.int .i64 d, .int .u64 sig, .int .i64 m, .int .i64 c] := by rw [hw1]; exact Rec.new _ _ _
  have k0 : w1.cell? ⟨w.heap.size, 0, none⟩ = some (.int .i64 d) := hR.at_ 0
  have k1 : w1.cell? ⟨w.heap.size, 1, none⟩ = some (.int .u64 sig) := hR.at_ 1
  have q1 : (d != 1) = true := bne_iff_ne.2 h1
  have q2 : (d != 2) = true := bne_iff_ne.2 h2
  have p1 : decide (d = 1) = false := decide_eq_false h1
  have p2 : decide (d = 2) = false := decide_eq_false h2
  have p3 : (d == 1) = false := by simpa using h1
  have p4 : (d == 2) = false := by simpa using h2
  have C := Lib.hid (RNode_any c0 sig (h.below hB) hn hpos)
  have HB := Lib.hid hB
  clear h hB hR
  go_enter Try.func9, Try.ntmps9
  go_wp2_with (first
    | (rw [← hw1]; clear hw1)
    | (go_at_call 20; refine C.out.mono ?_; rintro e w2 hG; have HG := Lib.hid (RGo.pre HB.out hG); obtain ⟨A', c', rfl, hr, hB2, hi⟩ := hG; clear hr hB2 hi))
  go_ret2
  exact HG.out

theorem RWith_chg (s : Nat) (c : Int) (w : World) (hs : s < 18446744073709551616) :
    Calls Try.prog 21 #[.int .u64 s, .int .i64 c] w fun e w' => e = .returned (.int .u64 (chg true s c : Nat)) ∧ Below w.heap.size w w' := RWith_any s c w hs
theorem RGo_With_no (c0 : Nat) (h : URd w A n S) (sig : Nat) (m c : Int) (hm : ¬ (0 ≤ m ∧ m < S.length)) :
    Calls Try.prog 9 #[.slice A n c0, .agg #[.int .i64 1, .int .u64 sig, .int .i64 m, .int .i64 c]] w (RGo w A S (-1)) := by
  obtain ⟨w1, hw1⟩ : ∃ w1, w1 = w.alloc (.cells #[.int .i64 1, .int .u64 sig, .int .i64 m, .int .i64 c] 30) := ⟨_, rfl⟩
  have hB : Below w.heap.size w w1 := by rw [hw1]; exact (Below.refl _ _).alloc (Nat.le_refl _) _
  have hR : Rec 30 w1 w.heap.size #[.int .i64 1, .int .u64 sig, .int .i64 m, .int .i64 c] := by rw [hw1]; exact Rec.new _ _ _
  have k0 : w1.cell? ⟨w.heap.size, 0, none⟩ = some (.int .i64 1) := hR.at_ 0
  have k2 : w1.cell? ⟨w.heap.size, 2, none⟩ = some (.int .i64 m) := hR.at_ 2
  rw [h.1] at hm
  have H1 := Lib.hid (h.below hB)
  have HB := Lib.hid hB
  have HL := Lib.hid h.1
  clear h hB hR
  by_cases h0 : m < 0
  · have q1 : decide (m < 0) = true := decide_eq_true h0
    go_enter Try.func9, Try.ntmps9
    go_wp2_with (first
      | (rw [← hw1]; clear hw1))
    go_ret2
    exact ⟨A, c0, by rw [HL.out]; rfl, by rw [HL.out]; exact H1.out, HB.out, fun x hx => .inl hx⟩
  · have q1 : decide (m < 0) = false := decide_eq_false h0
    have q2 : decide ((n : Int) ≤ m) = true := decide_eq_true (by omega)
    go_enter Try.func9, Try.ntmps9
    go_wp2_with (first
      | (rw [← hw1]; clear hw1))
    go_ret2
    exact ⟨A, c0, by rw [HL.out]; rfl, by rw [HL.out]; exact H1.out, HB.out, fun x hx => .inl hx⟩
theorem RGo_With_yes (c0 : Nat) (h : URd w A n S) (hn : n ≤ 1000000) (sig i s : Nat) (c : Int) (hi : S[i]? = some s) (hs : s < 18446744073709551616) :
    Calls Try.prog 9 #[.slice A n c0, .agg #[.int .i64 1, .int .u64 sig, .int .i64 i, .int .i64 c]] w (RGo w A (gNode S (chg true s c)).1 ((gNode S (chg true s c)).2 : Nat)) := by
  have hl := (List.getElem?_eq_some_iff.1 hi).1
  rw [h.1] at hl
  obtain ⟨b, o, rfl, hb, hc⟩ := h.2 (by omega)
  obtain ⟨w1, hw1⟩ : ∃ w1, w1 = w.alloc (.cells #[.int .i64 1, .int .u64 sig, .int .i64 i, .int .i64 c] 30) := ⟨_, rfl⟩
  have hB : Below w.heap.size w w1 := by rw [hw1]; exact (Below.refl _ _).alloc (Nat.le_refl _) _
  have hR : Rec 30 w1 w.heap.size #[.int .i64 1, .int .u64 sig, .int .i64 i, .int .i64 c] := by rw [hw1]; exact Rec.new _ _ _
  have k0 : w1.cell? ⟨w.heap.size, 0, none⟩ = some (.int .i64 1) := hR.at_ 0
  have k2 : w1.cell? ⟨w.heap.size, 2, none⟩ = some (.int .i64 i) := hR.at_ 2
  have q1 : decide ((i : Int) < 0) = false := decide_eq_false (by omega)
  have q2 : decide ((n : Int) ≤ (i : Int)) = false := decide_eq_false (by omega)
  have q3 : decide (n ≤ i) = false := decide_eq_false (by omega)
  have SS : ∀ W, Below w1.heap.size w1 W → (W.cell? ⟨w.heap.size, 2, none⟩ = some (.int .i64 i) ∧ W.cell? ⟨w.heap.size, 3, none⟩ = some (.int .i64 c) ∧ W.cell? ⟨b, o + i, none⟩ = some (.int .u64 s)) := fun W hW => by
    have x1 := hR.under hW
    exact ⟨x1.at_ 2, x1.at_ 3, (hW.cell (p := ⟨b, o + i, none⟩) (Nat.lt_of_lt_of_le hb hB.size)).trans ((hB.cell (p := ⟨b, o + i, none⟩) hb).trans (hc i s hi))⟩
  have CW := Lib.hid (fun W => RWith_chg s c W hs)
  obtain ⟨t, ht⟩ : ∃ t, t = chg true s c := ⟨_, rfl⟩
  rw [← ht] at CW ⊢
  have CN := Lib.hid (fun (W : World) (hW : Below w1.heap.size w1 W) => RNode_any (w := W) c0 t ((h.below hB).below hW) hn (by omega))
  have HS := Lib.hid SS
  have HB := Lib.hid hB
  have bd : Below w1.heap.size w1 w1.drew := (Below.refl _ _).drew
  have HBD := Lib.hid bd
  have s1d := SS _ bd
  clear h hB hR SS bd hc hi ht
  go_enter Try.func9, Try.ntmps9
  go_wp2_with (first
    | (rw [← hw1]; clear hw1))
  go_region_held3 (fun W => W.cell? ⟨w.heap.size, 2, none⟩ = some (.int .i64 i) ∧ W.cell? ⟨w.heap.size, 3, none⟩ = some (.int .i64 c) ∧ W.cell? ⟨b, o + i, none⟩ = some (.int .u64 s)) (first
      | with_reducible exact s1d
      | with_reducible exact s2
      | with_reducible exact s3) (first
    | (go_at_call 21; refine (CW.out _).mono ?_; rintro e w2 ⟨rfl, hB2⟩; have hb2 := HBD.out.trans (hB2.mono HBD.out.size); have s2 := HS.out w2 hb2; have CN2 := Lib.hid (CN.out w2 hb2); have HB2 := Lib.hid hb2; clear hB2 hb2)
    | (go_at_call 20; refine CN2.out.mono ?_; rintro e w3 hG; have HG := Lib.hid (RGo.pre HB.out (RGo.pre HB2.out hG)); obtain ⟨A', c', rfl, hr3, hB3, hi3⟩ := hG; have s3 := HS.out w3 (HB2.out.trans (hB3.mono HB2.out.size)); clear hr3 hB3 hi3))
  go_wp2
  go_ret2
  exact HG.out
theorem RGo_With (c0 : Nat) (h : URd w A n S) (ok : SOk S) (hn : n ≤ 1000000) (sig : Nat) (m c : Int) :
    Calls Try.prog 9 #[.slice A n c0, .agg #[.int .i64 1, .int .u64 sig, .int .i64 m, .int .i64 c]] w (RGo w A (gMove S true m c).1 (gMove S true m c).2) := by
  by_cases hm : 0 ≤ m ∧ m < S.length
  · obtain ⟨i, rfl⟩ : ∃ i : Nat, m = (i : Int) := ⟨m.toNat, by omega⟩
    have hi : S[i]? = some S[i] := List.getElem?_eq_getElem (by omega)
    rw [gMove_yes hi]
    exact RGo_With_yes c0 h hn sig i _ c hi (ok.lt _ (List.mem_of_getElem? hi))
  · rw [gMove_no hm]
    exact RGo_With_no c0 h sig m c hm

theorem RWithout_chg (s : Nat) (c : Int) (w : World) (hs : s < 18446744073709551616) :
    Calls Try.prog 22 #[.int .u64 s, .int .i64 c] w fun e w' => e = .returned (.int .u64 (chg false s c : Nat)) ∧ Below w.heap.size w w' := RWithout_any s c w hs
theorem RGo_Without_no (c0 : Nat) (h : URd w A n S) (sig : Nat) (m c : Int) (hm : ¬ (0 ≤ m ∧ m < S.length)) :
    Calls Try.prog 9 #[.slice A n c0, .agg #[.int .i64 2, .int .u64 sig, .int .i64 m, .int .i64 c]] w (RGo w A S (-1)) := by
  obtain ⟨w1, hw1⟩ : ∃ w1, w1 = w.alloc (.cells #[.int .i64 2, .int .u64 sig, .int .i64 m, .int .i64 c] 30) := ⟨_, rfl⟩
  have hB : Below w.heap.size w w1 := by rw [hw1]; exact (Below.refl _ _).alloc (Nat.le_refl _) _
  have hR : Rec 30 w1 w.heap.size #[.int .i64 2, .int .u64 sig, .int .i64 m, .int .i64 c] := by rw [hw1]; exact Rec.new _ _ _
  have k0 : w1.cell? ⟨w.heap.size, 0, none⟩ = some (.int .i64 2) := hR.at_ 0
  have k2 : w1.cell? ⟨w.heap.size, 2, none⟩ = some (.int .i64 m) := hR.at_ 2
  rw [h.1] at hm
  have H1 := Lib.hid (h.below hB)
  have HB := Lib.hid hB
  have HL := Lib.hid h.1
  clear h hB hR
  by_cases h0 : m < 0
  · have q1 : decide (m < 0) = true := decide_eq_true h0
    go_enter Try.func9, Try.ntmps9
    go_wp2_with (first
      | (rw [← hw1]; clear hw1))
    go_ret2
    exact ⟨A, c0, by rw [HL.out]; rfl, by rw [HL.out]; exact H1.out, HB.out, fun x hx => .inl hx⟩
  · have q1 : decide (m < 0) = false := decide_eq_false h0
    have q2 : decide ((n : Int) ≤ m) = true := decide_eq_true (by omega)
    go_enter Try.func9, Try.ntmps9
    go_wp2_with (first
      | (rw [← hw1]; clear hw1))
    go_ret2
    exact ⟨A, c0, by rw [HL.out]; rfl, by rw [HL.out]; exact H1.out, HB.out, fun x hx => .inl hx⟩
theorem RGo_Without_yes (c0 : Nat) (h : URd w A n S) (hn : n ≤ 1000000) (sig i s : Nat) (c : Int) (hi : S[i]? = some s) (hs : s < 18446744073709551616) :
    Calls Try.prog 9 #[.slice A n c0, .agg #[.int .i64 2, .int .u64 sig, .int .i64 i, .int .i64 c]] w (RGo w A (gNode S (chg false s c)).1 ((gNode S (chg false s c)).2 : Nat)) := by
  have hl := (List.getElem?_eq_some_iff.1 hi).1
  rw [h.1] at hl
  obtain ⟨b, o, rfl, hb, hc⟩ := h.2 (by omega)
  obtain ⟨w1, hw1⟩ : ∃ w1, w1 = w.alloc (.cells #[.int .i64 2, .int .u64 sig, .int .i64 i, .int .i64 c] 30) := ⟨_, rfl⟩
  have hB : Below w.heap.size w w1 := by rw [hw1]; exact (Below.refl _ _).alloc (Nat.le_refl _) _
  have hR : Rec 30 w1 w.heap.size #[.int .i64 2, .int .u64 sig, .int .i64 i, .int .i64 c] := by rw [hw1]; exact Rec.new _ _ _
  have k0 : w1.cell? ⟨w.heap.size, 0, none⟩ = some (.int .i64 2) := hR.at_ 0
  have k2 : w1.cell? ⟨w.heap.size, 2, none⟩ = some (.int .i64 i) := hR.at_ 2
  have q1 : decide ((i : Int) < 0) = false := decide_eq_false (by omega)
  have q2 : decide ((n : Int) ≤ (i : Int)) = false := decide_eq_false (by omega)
  have q3 : decide (n ≤ i) = false := decide_eq_false (by omega)
  have SS : ∀ W, Below w1.heap.size w1 W → (W.cell? ⟨w.heap.size, 2, none⟩ = some (.int .i64 i) ∧ W.cell? ⟨w.heap.size, 3, none⟩ = some (.int .i64 c) ∧ W.cell? ⟨b, o + i, none⟩ = some (.int .u64 s)) := fun W hW => by
    have x1 := hR.under hW
    exact ⟨x1.at_ 2, x1.at_ 3, (hW.cell (p := ⟨b, o + i, none⟩) (Nat.lt_of_lt_of_le hb hB.size)).trans ((hB.cell (p := ⟨b, o + i, none⟩) hb).trans (hc i s hi))⟩
  have CW := Lib.hid (fun W => RWithout_chg s c W hs)
  obtain ⟨t, ht⟩ : ∃ t, t = chg false s c := ⟨_, rfl⟩
  rw [← ht] at CW ⊢
  have CN := Lib.hid (fun (W : World) (hW : Below w1.heap.size w1 W) => RNode_any (w := W) c0 t ((h.below hB).below hW) hn (by omega))
  have HS := Lib.hid SS
  have HB := Lib.hid hB
  have bd : Below w1.heap.size w1 w1.drew := (Below.refl _ _).drew
  have HBD := Lib.hid bd
  have s1d := SS _ bd
  clear h hB hR SS bd hc hi ht
  go_enter Try.func9, Try.ntmps9
  go_wp2_with (first
    | (rw [← hw1]; clear hw1))
  go_region_held3 (fun W => W.cell? ⟨w.heap.size, 2, none⟩ = some (.int .i64 i) ∧ W.cell? ⟨w.heap.size, 3, none⟩ = some (.int .i64 c) ∧ W.cell? ⟨b, o + i, none⟩ = some (.int .u64 s)) (first
      | with_reducible exact s1d
      | with_reducible exact s2
      | with_reducible exact s3) (first
    | (go_at_call 22; refine (CW.out _).mono ?_; rintro e w2 ⟨rfl, hB2⟩; have hb2 := HBD.out.trans (hB2.mono HBD.out.size); have s2 := HS.out w2 hb2; have CN2 := Lib.hid (CN.out w2 hb2); have HB2 := Lib.hid hb2; clear hB2 hb2)
    | (go_at_call 20; refine CN2.out.mono ?_; rintro e w3 hG; have HG := Lib.hid (RGo.pre HB.out (RGo.pre HB2.out hG)); obtain ⟨A', c', rfl, hr3, hB3, hi3⟩ := hG; have s3 := HS.out w3 (HB2.out.trans (hB3.mono HB2.out.size)); clear hr3 hB3 hi3))
  go_wp2
  go_ret2
  exact HG.out
theorem RGo_Without (c0 : Nat) (h : URd w A n S) (ok : SOk S) (hn : n ≤ 1000000) (sig : Nat) (m c : Int) :
    Calls Try.prog 9 #[.slice A n c0, .agg #[.int .i64 2, .int .u64 sig, .int .i64 m, .int .i64 c]] w (RGo w A (gMove S false m c).1 (gMove S false m c).2) := by
  by_cases hm : 0 ≤ m ∧ m < S.length
  · obtain ⟨i, rfl⟩ : ∃ i : Nat, m = (i : Int) := ⟨m.toNat, by omega⟩
    have hi : S[i]? = some S[i] := List.getElem?_eq_getElem (by omega)
    rw [gMove_yes hi]
    exact RGo_Without_yes c0 h hn sig i _ c hi (ok.lt _ (List.mem_of_getElem? hi))
  · rw [gMove_no hm]
    exact RGo_Without_no c0 h sig m c hm

theorem RGo_any (c0 : Nat) (h : URd w A n S) (ok : SOk S) (hn : n ≤ 1000000) (hpos : 0 < n) (x : Gst) :
    Calls Try.prog 9 #[.slice A n c0, x.val] w (RGo w A (gGo S x).1 (gGo S x).2) := by
  obtain ⟨d, sig, m, c, hsig⟩ := x
  show Calls _ _ #[_, .agg #[.int .i64 d, .int .u64 sig, .int .i64 m, .int .i64 c]] _ _
  unfold gGo
  simp only
  by_cases e1 : d = 1
  · subst e1
    rw [if_pos rfl]
    exact RGo_With c0 h ok hn sig m c
  · rw [if_neg e1]
    by_cases e2 : d = 2
    · subst e2
      rw [if_pos rfl]
      exact RGo_Without c0 h ok hn sig m c
    · rw [if_neg e2]
      exact RGo_node c0 h hn hpos d sig m c e1 e2
end
end Go.Proofs.Ytigiepmmgghjlaa
