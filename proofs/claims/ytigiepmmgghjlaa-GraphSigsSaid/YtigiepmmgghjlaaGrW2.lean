/- The law GraphSigs, walked. -/
import Derived.Test.YtigiepmmgghjlaaGrW1
namespace Go.Proofs.Ytigiepmmgghjlaa
open Go.RowKit

section
variable {w0 w : World} {p m1 m2 b : Nat} {keep : Nat → Prop} {S : List Nat}
theorem Sigs_gv (h : Gv w0 w p m1 m2 keep S b) (wi wo : Nat) (hwi : wi < 18446744073709551616) (hwo : wo < 18446744073709551616) (hS : S.length ≤ 1000000) :
    Calls Try.prog 17 #[.pointer (some ⟨p, 0, none⟩), .int .u64 wi, .int .u64 wo] w fun e w' => ∃ A c, e = .returned (.slice A (sigsL S wi wo S.length).length c) ∧ IRd w' A (sigsL S wi wo S.length).length ((sigsL S wi wo S.length).map Int.ofNat) ∧ Below w.heap.size w w' := by
  obtain ⟨own, sv, ed, h1, h2, h3, hd, I⟩ := h
  refine (Sigs_any I wi wo hwi hwo hS).mono ?_
  rintro e w' ⟨v, rfl, ho, hb⟩
  obtain ⟨A, c, rfl, hr⟩ := IRd.of_own ho
  exact ⟨A, c, rfl, hr, hb⟩
end

set_option maxRecDepth 100000 in
set_option maxHeartbeats 4000000 in
theorem GraphSigs_walk (A : Option Addr) (n c : Nat) (st : List Gst) (wi wo : Nat) (w : World)
    (h : GRd w A n st) (hwi : wi < 18446744073709551616) (hwo : wo < 18446744073709551616) (hn : (n : Int) ≤ 9223372036854775807) :
    Calls Try.prog 4 #[.slice A n c, .int .u64 wi, .int .u64 wo] w fun e w' => e = .returned (.bool true) ∧ Below w.heap.size w w' := by
  have HL := Lib.hid (live_any w)
  have H := Lib.hid h
  have CN := Lib.hid (New_gv w)
  clear h
  by_cases hn60 : n ≤ 60
  case neg =>
    go_enter Try.func4, Try.ntmps4
    go_wp2_with (go_at_call 6; refine HL.out.mono ?_; rintro e w1 ⟨rfl, hB1⟩)
    go_ret
    exact ⟨rfl, hB1⟩
  clear HL
  go_enter Try.func4, Try.ntmps4
  go_wp2_with (go_at_call 7; refine CN.out.mono ?_; rintro e w1 ⟨p, m1, m2, rfl, hD1⟩; have HD1 := Lib.hid (BothG.start hD1); clear hD1)
  clear CN
  go_loopw [8, 9] (fun rv iv wr => ∃ (j : Nat) (S : List Nat), j ≤ n ∧ iv = .int .i64 j ∧ BothG w p m1 m2 j rv S wr) (fun _ iv _ => n - (intOf iv).toNat)
  case atStart => exact ⟨0, [0], Nat.zero_le _, rfl, HD1.out⟩
  case round =>
    obtain ⟨j, S, hj, rfl, A1, c1, rfl, hU, hD, hpos, hlen⟩ := hrel
    by_cases hlt : j < n
    · obtain ⟨b, o, y, rfl, hy, k0, k1, k2, k3⟩ := H.out.cells hD.under hlt
      have C := do_gv hD y hpos (by omega) (by omega)
      have hok := hD.ok
      have HR : ∀ W, GStays (InA A1) wr W → Calls Try.prog 9 #[.slice A1 S.length c1, y.val] W (RGo W A1 (gGo S y).1 (gGo S y).2) := fun W hW => RGo_any c1 (hU.after hW) hok (by omega) hpos y
      have HK : ∀ W, Below w.heap.size w W → W.cell? ⟨b, o + j * 4, none⟩ = some (.int .i64 y.d) ∧ W.cell? ⟨b, o + j * 4 + 1, none⟩ = some (.int .u64 (y.sig : Int)) ∧ W.cell? ⟨b, o + j * 4 + 2, none⟩ = some (.int .i64 y.n) ∧ W.cell? ⟨b, o + j * 4 + 3, none⟩ = some (.int .i64 y.c) := fun W hW => by
        obtain ⟨b', o', y', e1, e2, e3⟩ := H.out.cells hW hlt
        injection e1 with e1
        injection e1 with e4 e5
        rw [hy] at e2
        injection e2 with e2
        subst e4 e5 e2
        exact e3
      have hG1 := gGo_pos hpos y
      have hG2 := gGo_len S y
      obtain ⟨r, hr⟩ : ∃ r, r = (gGo S y).2 := ⟨_, rfl⟩
      obtain ⟨T, hT⟩ : ∃ T, T = (gGo S y).1 := ⟨_, rfl⟩
      rw [← hr, ← hT] at C HR
      rw [← hT] at hG1 hG2
      have HK := Lib.hid HK
      have HR := Lib.hid HR
      clear hr hT hD hU hok
      clear hy
      obtain ⟨yd, ysig, yn, yc, yh⟩ := y
      simp only at k0 k1 k2 k3
      have C := Lib.hid (show Calls Try.prog 8 #[.pointer (some ⟨p, 0, none⟩), .agg #[.int .i64 yd, .int .u64 ysig, .int .i64 yn, .int .i64 yc]] wr _ from C)
      go_wp2_with (first
        | (go_at_call 8; refine C.out.mono ?_; rintro e w2 ⟨rfl, hD2, hS2⟩; obtain ⟨x0, x1, x2, x3⟩ := HK.out w2 hD2.under; have CR := Lib.hid (show Calls Try.prog 9 #[.slice A1 S.length c1, .agg #[.int .i64 yd, .int .u64 ysig, .int .i64 yn, .int .i64 yc]] w2 _ from HR.out w2 hS2); have HD2 := Lib.hid hD2; clear hD2 hS2; simp only at x0 x1 x2 x3)
        | (go_at_call 9; refine CR.out.mono ?_; rintro e w3 ⟨A2, c2, rfl, hU3, hB3, hi3⟩; have HD3 := Lib.hid (HD2.out.after hB3 hi3); have HU3 := Lib.hid hU3; clear hU3 hB3 hi3)
        | fail)
      go_roundw
      case rel => exact ⟨j + 1, T, hlt, by go_num, A2, c2, rfl, HU3.out, by rw [show 2 * (j + 1) = 2 * j + 2 by omega]; exact HD3.out, hG1, by omega⟩
      case measure => simp [intOf]; omega
    · obtain rfl : j = n := by omega
      obtain ⟨L, hL⟩ : ∃ L, L = (sigsL S wi wo S.length).map Int.ofNat := ⟨_, rfl⟩
      obtain ⟨N, hN⟩ : ∃ N, N = (sigsL S wi wo S.length).length := ⟨_, rfl⟩
      have hNl : N ≤ 1000 := by have := sigsL_len S wi wo S.length; omega
      have C1 := Sigs_gv hD wi wo hwi hwo (by omega)
      have hok := hD.ok
      have C2 : ∀ W, Below wr.heap.size wr W → Calls Try.prog 19 #[.slice A1 S.length c1, .int .u64 wi, .int .u64 wo] W fun e w' => ∃ A c, e = .returned (.slice A (sigsL S wi wo S.length).length c) ∧ IRd w' A (sigsL S wi wo S.length).length ((sigsL S wi wo S.length).map Int.ofNat) ∧ Below W.heap.size W w' := fun W hW => by
        refine (RSigs_any A1 S.length c1 S wi wo W (hU.below hW) hok (by omega) hwi hwo).mono ?_
        rintro e w' ⟨v, rfl, ho, hb⟩
        obtain ⟨A, c, rfl, hr⟩ := IRd.of_own ho
        exact ⟨A, c, rfl, hr, hb⟩
      rw [← hN, ← hL] at C1 C2
      have C1 := Lib.hid C1
      have C2 := Lib.hid C2
      have HB := Lib.hid hD.under
      clear hU hD hok hL hN
      go_wp2_with (first
        | (go_at_call 11; refine (Sig_nil _ _).mono ?_; rintro e w' ⟨rfl, rfl⟩)
        | (go_at_call 12; refine (Find_nil 0 _).mono ?_; rintro e w' ⟨rfl, rfl⟩)
        | (go_at_call 14; refine (Node_nil 0 _).mono ?_; rintro e w' ⟨rfl, rfl⟩)
        | (go_at_call 15; refine (GWith_nil _ _ _).mono ?_; rintro e w' ⟨rfl, rfl⟩)
        | (go_at_call 16; refine (GWithout_nil _ _ _).mono ?_; rintro e w' ⟨rfl, rfl⟩)
        | (go_at_call 10; refine (Len_nil _).mono ?_; rintro e w' ⟨rfl, rfl⟩)
        | (go_at_call 17; ((with_reducible refine C1.out.mono ?_); rintro e w2 ⟨A2, c2, rfl, hI2, hB2⟩; have CR := Lib.hid (C2.out w2 hB2); have HI2 := Lib.hid hI2; have HB2 := Lib.hid hB2; clear hI2 hB2))
        | (go_at_call 17; refine (Sigs_nil 0 0 _).mono ?_; rintro e w' ⟨rfl, rfl⟩)
        | (go_at_call 19; refine CR.out.mono ?_; rintro e w3 ⟨A3, c3, rfl, hI3, hB3⟩; have CS := Lib.hid (SameList_yes w3 A2 A3 N c2 c3 L (HI2.out.below hB3) hI3 (by omega)); have HB3 := Lib.hid (HB2.out.trans (hB3.mono HB2.out.size)); clear hI3 hB3)
        | (go_at_call 18; refine CS.out.mono ?_; rintro e w4 ⟨rfl, hB4⟩; have HB4 := Lib.hid (HB3.out.trans (hB4.mono HB3.out.size)); have CV := Lib.hid (live_any w4); clear hB4)
        | (go_at_call 6; refine CV.out.mono ?_; rintro e w9 ⟨rfl, hB9⟩; have HB9 := Lib.hid hB9; clear hB9))
      go_ret
      have x4 := HB.out.trans (HB4.out.mono HB.out.size)
      exact ⟨rfl, x4.trans (HB9.out.mono x4.size)⟩
end Go.Proofs.Ytigiepmmgghjlaa
