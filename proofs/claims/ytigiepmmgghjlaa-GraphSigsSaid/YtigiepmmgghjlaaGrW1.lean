/- The laws GraphSteps and GraphSigs, walked. -/
import Derived.Test.YtigiepmmgghjlaaGrW3
import Derived.Test.YtigiepmmgghjlaaGrR2
import Derived.Test.YtigiepmmgghjlaaGrR3
import Derived.Test.YtigiepmmgghjlaaSameL
namespace Go.Proofs.Ytigiepmmgghjlaa
open Go.RowKit

theorem fndV_eq (o : Option Nat) : fndV o = .tuple #[.int .i64 ((o.getD 0 : Nat) : Int), .bool o.isSome] := by cases o <;> rfl
/-- Both graphs ahead of a step: the program's at p, the reference's in a row of its own. -/
def BothG (w : World) (p m1 m2 : Nat) (m : Nat) (rv : Value) (S : List Nat) (wr : World) : Prop :=
  ∃ A c, rv = .slice A S.length c ∧ URd wr A S.length S ∧ Gv w wr p m1 m2 (InA A) S (2 * m) ∧ 0 < S.length ∧ S.length ≤ m + 1

section
variable {w wr w2 w3 : World} {p m1 m2 m b : Nat} {A A2 : Option Addr} {S T : List Nat}
/-- The reference's row, behind a step of the program's. -/
theorem URd.after (h : URd wr A S.length S) (hs : GStays (InA A) wr w2) : URd w2 A S.length S := h.stays hs.1 hs.2
/-- The program's graph, behind a step of the reference's. -/
theorem Gv.after (h : Gv w w2 p m1 m2 (InA A) S b) (hB : Below w2.heap.size w2 w3) (hi : ∀ x, InA A2 x → InA A x ∨ (w2.heap.size ≤ x ∧ x < w3.heap.size)) : Gv w w3 p m1 m2 (InA A2) S b :=
  (h.more hB (fun x => w2.heap.size ≤ x ∧ x < w3.heap.size) (fun _ hx => hx)).less hi
theorem BothG.start {w1 : World} (h : Gv w w1 p m1 m2 (· < w.heap.size) [0] 0) : BothG w p m1 m2 0 (.slice (some ⟨w1.heap.size, 0, none⟩) 1 1) [0] (w1.alloc (.cells #[.int .u64 0] 23)) := by
  have hb : Below w1.heap.size w1 (w1.alloc (.cells #[.int .u64 0] 23)) := (Below.refl _ _).alloc (Nat.le_refl _) _
  refine ⟨_, 1, rfl, ⟨rfl, fun _ => ⟨w1.heap.size, 0, rfl, by simp, fun j s hj => ?_⟩⟩, ?_, by decide, by decide⟩
  · have h0 : (w1.alloc (.cells #[.int .u64 0] 23)).heap[w1.heap.size]? = some (.cells #[.int .u64 0] 23 (0, 0)) := heap_alloc_last w1 _
    rw [cell_of_row _ w1.heap.size (0 + j) _ _ _ h0]
    cases j with
    | zero => injection hj with hj; subst hj; rfl
    | succ j => cases hj
  · refine (h.more hb (fun x => x = w1.heap.size) (fun x hx => ⟨by rw [hx]; exact Nat.le_refl _, by rw [hx]; simp⟩)).less (fun x hx => ?_)
    obtain ⟨o, e⟩ := hx
    injection e with e
    injection e with e1
    exact .inr e1.symm
end

section
variable {w0 w : World} {p m1 m2 b : Nat} {keep : Nat → Prop} {S : List Nat}
theorem Sig_gv_no (h : Gv w0 w p m1 m2 keep S b) (n : Int) (hn : ¬ (0 ≤ n ∧ n < S.length)) : Calls Try.prog 11 #[.pointer (some ⟨p, 0, none⟩), .int .i64 n] w fun e w' => e = .returned (.tuple #[.int .u64 0, .bool false]) ∧ w = w' := by
  obtain ⟨own, sv, ed, h1, h2, h3, hd, I⟩ := h
  exact Sig_no I n hn
theorem Find_gv_any (h : Gv w0 w p m1 m2 keep S b) (s : Nat) (hs : s < 18446744073709551616) : Calls Try.prog 12 #[.pointer (some ⟨p, 0, none⟩), .int .u64 s] w fun e w' => e = .returned (fndV (ixS S s)) ∧ w = w' := by
  obtain ⟨own, sv, ed, h1, h2, h3, hd, I⟩ := h
  exact Find_any I s hs
end

set_option maxRecDepth 100000 in
set_option maxHeartbeats 4000000 in
theorem GraphSteps_walk (A : Option Addr) (n c : Nat) (st : List Gst) (nn : Int) (sig : Nat) (w : World)
    (h : GRd w A n st) (hsig : sig < 18446744073709551616) (hn : (n : Int) ≤ 9223372036854775807) :
    Calls Try.prog 3 #[.slice A n c, .int .i64 nn, .int .u64 sig] w fun e w' => e = .returned (.bool true) ∧ Below w.heap.size w w' := by
  have HL := Lib.hid (live_any w)
  have H := Lib.hid h
  have CN := Lib.hid (New_gv w)
  clear h
  by_cases hn60 : n ≤ 60
  case neg =>
    go_enter Try.func3, Try.ntmps3
    go_wp2_with (go_at_call 6; refine HL.out.mono ?_; rintro e w1 ⟨rfl, hB1⟩)
    go_ret
    exact ⟨rfl, hB1⟩
  clear HL
  go_enter Try.func3, Try.ntmps3
  go_wp2_with (go_at_call 7; refine CN.out.mono ?_; rintro e w1 ⟨p, m1, m2, rfl, hD1⟩; have HD1 := Lib.hid (BothG.start hD1); clear hD1)
  clear CN
  go_loopw [8, 9] (fun rv iv wr => ∃ (j : Nat) (S : List Nat), j ≤ n ∧ iv = .int .i64 j ∧ BothG w p m1 m2 j rv S wr) (fun _ iv _ => n - (intOf iv).toNat)
  case atStart => exact ⟨0, [0], Nat.zero_le _, rfl, HD1.out⟩
  case round =>
    obtain ⟨j, S, hj, rfl, A1, c1, rfl, hU, hD, hpos, hlen⟩ := hrel
    by_cases hlt : j < n
    · obtain ⟨b, o, y, rfl, hy, k0, k1, k2, k3⟩ := H.out.cells hD.under hlt
      have C := do_gv hD y hpos (by omega) (by omega)
      have hok := hD.ok
      have HR : ∀ W, GStays (InA A1) wr W → Calls Try.prog 9 #[.slice A1 S.length c1, y.val] W (RGo W A1 (gGo S y).1 (gGo S y).2) := fun W hW => RGo_any c1 (hU.after hW) hok (by omega) hpos y
      have HK : ∀ W, Below w.heap.size w W → W.cell? ⟨b, o + j * 4, none⟩ = some (.int .i64 y.d) ∧ W.cell? ⟨b, o + j * 4 + 1, none⟩ = some (.int .u64 (y.sig : Int)) ∧ W.cell? ⟨b, o + j * 4 + 2, none⟩ = some (.int .i64 y.n) ∧ W.cell? ⟨b, o + j * 4 + 3, none⟩ = some (.int .i64 y.c) := fun W hW => by
        obtain ⟨b', o', y', e1, e2, e3⟩ := H.out.cells hW hlt
        injection e1 with e1
        injection e1 with e4 e5
        rw [hy] at e2
        injection e2 with e2
        subst e4 e5 e2
        exact e3
      have hG1 := gGo_pos hpos y
      have hG2 := gGo_len S y
      obtain ⟨r, hr⟩ : ∃ r, r = (gGo S y).2 := ⟨_, rfl⟩
      obtain ⟨T, hT⟩ : ∃ T, T = (gGo S y).1 := ⟨_, rfl⟩
      rw [← hr, ← hT] at C HR
      rw [← hT] at hG1 hG2
      have HK := Lib.hid HK
      have HR := Lib.hid HR
      clear hr hT hD hU hok
      clear hy
      obtain ⟨yd, ysig, yn, yc, yh⟩ := y
      simp only at k0 k1 k2 k3
      have C := Lib.hid (show Calls Try.prog 8 #[.pointer (some ⟨p, 0, none⟩), .agg #[.int .i64 yd, .int .u64 ysig, .int .i64 yn, .int .i64 yc]] wr _ from C)
      go_wp2_with (first
        | (go_at_call 8; refine C.out.mono ?_; rintro e w2 ⟨rfl, hD2, hS2⟩; obtain ⟨x0, x1, x2, x3⟩ := HK.out w2 hD2.under; have CR := Lib.hid (show Calls Try.prog 9 #[.slice A1 S.length c1, .agg #[.int .i64 yd, .int .u64 ysig, .int .i64 yn, .int .i64 yc]] w2 _ from HR.out w2 hS2); have HD2 := Lib.hid hD2; clear hD2 hS2; simp only at x0 x1 x2 x3)
        | (go_at_call 9; refine CR.out.mono ?_; rintro e w3 ⟨A2, c2, rfl, hU3, hB3, hi3⟩; have HD3 := Lib.hid (HD2.out.after hB3 hi3); have CL := Lib.hid (Len_gv HD3.out); have HU3 := Lib.hid hU3; clear hU3 hB3 hi3)
        | (go_at_call 10; refine CL.out.mono ?_; rintro e w' ⟨rfl, rfl⟩))
      go_roundw
      case rel => exact ⟨j + 1, T, hlt, by go_num, A2, c2, rfl, HU3.out, by rw [show 2 * (j + 1) = 2 * j + 2 by omega]; exact HD3.out, hG1, by omega⟩
      case measure => simp [intOf]; omega
    · obtain rfl : j = n := by omega
      have CF := Find_gv_any hD sig hsig
      have CG := RFind_any A1 S.length c1 S sig wr hU (by omega)
      rw [fndV_eq] at CF CG
      obtain ⟨x, hx⟩ : ∃ x, x = (((ixS S sig).getD 0 : Nat) : Int) := ⟨_, rfl⟩
      obtain ⟨y, hy⟩ : ∃ y, y = (ixS S sig).isSome := ⟨_, rfl⟩
      rw [← hx, ← hy] at CF CG
      have CF := Lib.hid CF
      have CG := Lib.hid CG
      have CV := Lib.hid (live_any wr)
      have HB := Lib.hid hD.under
      clear hx hy
      by_cases hnn : 0 ≤ nn ∧ nn < S.length
      · obtain ⟨i, rfl⟩ : ∃ i : Nat, nn = (i : Int) := ⟨nn.toNat, by omega⟩
        have hil : i < S.length := by omega
        obtain ⟨s, hs⟩ : ∃ s, S[i]? = some s := ⟨_, List.getElem?_eq_getElem hil⟩
        have CS := Lib.hid (Sig_gv hD i s hs)
        obtain ⟨b, o, rfl, _, hc⟩ := hU.2 hpos
        have k := hc i s hs
        have q1 : decide ((0 : Int) ≤ (i : Int)) = true := decide_eq_true (by omega)
        have q2 : decide ((i : Int) < (S.length : Int)) = true := decide_eq_true (by omega)
        clear hs hc hU hD
        go_wp2_with (first
          | (go_at_call 11; refine CS.out.mono ?_; rintro e w' ⟨rfl, rfl⟩)
          | (go_at_call 12; refine CF.out.mono ?_; rintro e w' ⟨rfl, rfl⟩)
          | (go_at_call 13; refine CG.out.mono ?_; rintro e w' ⟨rfl, rfl⟩)
          | (go_at_call 6; refine CV.out.mono ?_; rintro e w9 ⟨rfl, hB9⟩; have HB9 := Lib.hid hB9; clear hB9))
        go_ret
        exact ⟨rfl, HB.out.trans (HB9.out.mono HB.out.size)⟩
      · have CS := Lib.hid (Sig_gv_no hD nn hnn)
        clear hU hD
        by_cases h0 : 0 ≤ nn
        · have q1 : decide ((0 : Int) ≤ nn) = true := decide_eq_true h0
          have q2 : decide (nn < (S.length : Int)) = false := decide_eq_false (by omega)
          go_wp2_with (first
            | (go_at_call 11; refine CS.out.mono ?_; rintro e w' ⟨rfl, rfl⟩)
            | (go_at_call 12; refine CF.out.mono ?_; rintro e w' ⟨rfl, rfl⟩)
            | (go_at_call 13; refine CG.out.mono ?_; rintro e w' ⟨rfl, rfl⟩)
            | (go_at_call 6; refine CV.out.mono ?_; rintro e w9 ⟨rfl, hB9⟩; have HB9 := Lib.hid hB9; clear hB9))
          go_ret
          exact ⟨rfl, HB.out.trans (HB9.out.mono HB.out.size)⟩
        · have q1 : decide ((0 : Int) ≤ nn) = false := decide_eq_false h0
          have q3 : decide (nn < 0) = true := decide_eq_true (by omega)
          go_wp2_with (first
            | (go_at_call 11; refine CS.out.mono ?_; rintro e w' ⟨rfl, rfl⟩)
            | (go_at_call 12; refine CF.out.mono ?_; rintro e w' ⟨rfl, rfl⟩)
            | (go_at_call 13; refine CG.out.mono ?_; rintro e w' ⟨rfl, rfl⟩)
            | (go_at_call 6; refine CV.out.mono ?_; rintro e w9 ⟨rfl, hB9⟩; have HB9 := Lib.hid hB9; clear hB9))
          go_ret
          exact ⟨rfl, HB.out.trans (HB9.out.mono HB.out.size)⟩
end Go.Proofs.Ytigiepmmgghjlaa
