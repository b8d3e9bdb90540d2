/- The law GraphOnce, walked. -/
import Derived.Test.YtigiepmmgghjlaaGrV
import Derived.Test.YtigiepmmgghjlaaGrO
namespace Go.Proofs.Ytigiepmmgghjlaa
open Go.RowKit

section
variable {w0 w w' : World} {p m1 m2 b : Nat} {keep keep' : Nat → Prop} {S S' : List Nat}
theorem Sig_gv (h : Gv w0 w p m1 m2 keep S b) (i s : Nat) (hi : S[i]? = some s) : Calls Try.prog 11 #[.pointer (some ⟨p, 0, none⟩), .int .i64 i] w fun e w' => e = .returned (.tuple #[.int .u64 s, .bool true]) ∧ w = w' := by
  obtain ⟨own, sv, ed, h1, h2, h3, hd, I⟩ := h
  exact Sig_yes I i s hi
theorem Find_gv (h : Gv w0 w p m1 m2 keep S b) (i s : Nat) (hi : S[i]? = some s) : Calls Try.prog 12 #[.pointer (some ⟨p, 0, none⟩), .int .u64 s] w fun e w' => e = .returned (.tuple #[.int .i64 i, .bool true]) ∧ w = w' := by
  obtain ⟨own, sv, ed, h1, h2, h3, hd, I⟩ := h
  have C := Find_any I s (I.ok.lt s (List.mem_of_getElem? hi))
  rw [ixS_of_at I.ok.nd hi] at C
  exact C
theorem Node_gv_at (h : Gv w0 w p m1 m2 keep S b) (i s : Nat) (hi : S[i]? = some s) : Calls Try.prog 14 #[.pointer (some ⟨p, 0, none⟩), .int .u64 s] w fun e w' => e = .returned (.int .i64 i) ∧ w = w' := by
  obtain ⟨own, sv, ed, h1, h2, h3, hd, I⟩ := h
  exact Node_old I s i (I.ok.lt s (List.mem_of_getElem? hi)) (ixS_of_at I.ok.nd hi)
/-- The cells of a step, in a world behind. -/
theorem GRd.cells {A : Option Addr} {n : Nat} {st : List Gst} (h : GRd w A n st) (hb : Below w.heap.size w w') {j : Nat} (hj : j < n) : ∃ (b o : Nat) (y : Gst), A = some ⟨b, o, none⟩ ∧ st[j]? = some y ∧
    w'.cell? ⟨b, o + j * 4, none⟩ = some (.int .i64 y.d) ∧ w'.cell? ⟨b, o + j * 4 + 1, none⟩ = some (.int .u64 (y.sig : Int)) ∧ w'.cell? ⟨b, o + j * 4 + 2, none⟩ = some (.int .i64 y.n) ∧ w'.cell? ⟨b, o + j * 4 + 3, none⟩ = some (.int .i64 y.c) := by
  have h' := h.below hb
  obtain ⟨b, o, e, _, hc⟩ := h'.2 (by omega)
  have hjl : j < st.length := by rw [h.1]; exact hj
  obtain ⟨h0, h1, h2, h3⟩ := hc j hjl
  exact ⟨b, o, st[j], e, List.getElem?_eq_getElem hjl, h0, h1, h2, h3⟩
end

set_option maxRecDepth 100000 in
set_option maxHeartbeats 4000000 in
theorem GraphOnce_walk (A : Option Addr) (n c : Nat) (st : List Gst) (A' : Option Addr) (n' c' : Nat) (st' : List Gst) (sig : Nat) (w : World)
    (h : GRd w A n st) (h' : GRd w A' n' st') (hsig : sig < 18446744073709551616) (hn : (n : Int) ≤ 9223372036854775807) (hn' : (n' : Int) ≤ 9223372036854775807) :
    Calls Try.prog 5 #[.slice A n c, .slice A' n' c', .int .u64 sig] w fun e w' => e = .returned (.bool true) ∧ Below w.heap.size w w' := by
  have HL := Lib.hid (live_any w)
  have H := Lib.hid h
  have H' := Lib.hid h'
  have CN := Lib.hid (New_gv w)
  clear h h'
  by_cases hn60 : n ≤ 60
  case neg =>
    go_enter Try.func5, Try.ntmps5
    go_wp2_with (go_at_call 6; refine HL.out.mono ?_; rintro e w1 ⟨rfl, hB1⟩)
    go_ret
    exact ⟨rfl, hB1⟩
  by_cases hm60 : n' ≤ 60
  case neg =>
    go_enter Try.func5, Try.ntmps5
    go_wp2_with (go_at_call 6; refine HL.out.mono ?_; rintro e w1 ⟨rfl, hB1⟩)
    go_ret
    exact ⟨rfl, hB1⟩
  clear HL
  go_enter Try.func5, Try.ntmps5
  go_wp2_with (go_at_call 7; refine CN.out.mono ?_; rintro e w1 ⟨p, m1, m2, rfl, hD1⟩; have HD1 := Lib.hid hD1; clear hD1)
  clear CN
  go_loopw [8] (fun iv wr => ∃ (j : Nat) (S : List Nat), j ≤ n ∧ iv = .int .i64 j ∧ Gv w wr p m1 m2 (· < w.heap.size) S (2 * j) ∧ 0 < S.length ∧ S.length ≤ j + 1) (fun iv _ => n - (intOf iv).toNat)
  case atStart => exact ⟨0, [0], Nat.zero_le _, rfl, HD1.out, by decide, by decide⟩
  case round =>
    obtain ⟨j, S, hj, rfl, hD, hpos, hlen⟩ := hrel
    by_cases hlt : j < n
    · obtain ⟨b, o, y, rfl, _, k0, k1, k2, k3⟩ := H.out.cells hD.under hlt
      have C := do_gv hD y hpos (by omega) (by omega)
      have hG1 := gGo_pos hpos y
      have hG2 := gGo_len S y
      obtain ⟨r, hr⟩ : ∃ r, r = (gGo S y).2 := ⟨_, rfl⟩
      obtain ⟨T, hT⟩ : ∃ T, T = (gGo S y).1 := ⟨_, rfl⟩
      rw [← hr, ← hT] at C
      rw [← hT] at hG1 hG2
      clear hr hT hD
      obtain ⟨yd, ysig, yn, yc, yh⟩ := y
      simp only at k0 k1 k2 k3
      have C := Lib.hid (show Calls Try.prog 8 #[.pointer (some ⟨p, 0, none⟩), .agg #[.int .i64 yd, .int .u64 ysig, .int .i64 yn, .int .i64 yc]] wr _ from C)
      go_wp2_with (go_at_call 8; refine C.out.mono ?_; rintro e w2 ⟨rfl, hD2, _⟩; have HD2 := Lib.hid hD2; clear hD2)
      go_roundw
      case rel => exact ⟨j + 1, T, hlt, by go_num, by rw [show 2 * (j + 1) = 2 * j + 2 by omega]; exact HD2.out, hG1, by omega⟩
      case measure => simp [intOf]; omega
    · obtain rfl : j = n := by omega
      have C := Node_gv hD sig hsig hpos (by omega)
      have hat := gNode_at S sig
      have hG2 := gNode_len S sig
      obtain ⟨k, hk⟩ : ∃ k, k = (gNode S sig).2 := ⟨_, rfl⟩
      obtain ⟨T, hT⟩ : ∃ T, T = (gNode S sig).1 := ⟨_, rfl⟩
      rw [← hk, ← hT] at C
      rw [← hk, ← hT] at hat
      rw [← hT] at hG2
      have hTp : 0 < T.length := by omega
      have hTl : T.length ≤ j + 2 := by omega
      have HAT := Lib.hid hat
      have C := Lib.hid C
      clear hk hT hD hG2 hat
      go_wp2_with (go_at_call 14; refine C.out.mono ?_; rintro e w2 ⟨rfl, hD2, _⟩; have HD2 := Lib.hid hD2; clear hD2)
      clear C
      go_loopw [10] (fun iv wr => ∃ (i : Nat) (U : List Nat), i ≤ n' ∧ iv = .int .i64 i ∧ Gv w wr p m1 m2 (· < w.heap.size) U (2 * j + 2 * i) ∧ 0 < U.length ∧ U.length ≤ j + 2 + i ∧ U[k]? = some sig) (fun iv _ => n' - (intOf iv).toNat)
      case atStart => exact ⟨0, T, Nat.zero_le _, rfl, HD2.out, hTp, hTl, HAT.out⟩
      case round =>
        obtain ⟨i, U, hi, rfl, hD, hpos, hlen, hUk⟩ := hrel
        by_cases hlt' : i < n'
        · obtain ⟨b, o, y, rfl, _, k0, k1, k2, k3⟩ := H'.out.cells hD.under hlt'
          have C := do_gv hD y hpos (by omega) (by omega)
          have hG1 := gGo_pos hpos y
          have hG2 := gGo_len U y
          have hG3 := gGo_keeps y hUk
          obtain ⟨r, hr⟩ : ∃ r, r = (gGo U y).2 := ⟨_, rfl⟩
          obtain ⟨V, hV⟩ : ∃ V, V = (gGo U y).1 := ⟨_, rfl⟩
          rw [← hr, ← hV] at C
          rw [← hV] at hG1 hG2 hG3
          have HUK := Lib.hid hG3
          clear hr hV hD hUk hG3
          obtain ⟨yd, ysig, yn, yc, yh⟩ := y
          simp only at k0 k1 k2 k3
          have C := Lib.hid (show Calls Try.prog 8 #[.pointer (some ⟨p, 0, none⟩), .agg #[.int .i64 yd, .int .u64 ysig, .int .i64 yn, .int .i64 yc]] wr _ from C)
          go_wp2_with (go_at_call 8; refine C.out.mono ?_; rintro e w3 ⟨rfl, hD3, _⟩; have HD3 := Lib.hid hD3; clear hD3)
          go_roundw
          case rel => exact ⟨i + 1, V, hlt', by go_num, by rw [show 2 * j + 2 * (i + 1) = 2 * j + 2 * i + 2 by omega]; exact HD3.out, hG1, by omega, HUK.out⟩
          case measure => simp [intOf]; omega
        · obtain rfl : i = n' := by omega
          have C1 := Lib.hid (Sig_gv hD k sig hUk)
          have C2 := Lib.hid (Node_gv_at hD k sig hUk)
          have HD := Lib.hid hD
          have HUK := Lib.hid hUk
          clear hD hUk
          go_wp2_with (first
            | (go_at_call 11; refine C1.out.mono ?_; rintro e w' ⟨rfl, rfl⟩)
            | (go_at_call 14; refine C2.out.mono ?_; rintro e w' ⟨rfl, rfl⟩))
          clear C1 C2
          obtain ⟨N, hN⟩ : ∃ N, N = U.length := ⟨_, rfl⟩
          have hNl : N ≤ 200 := by omega
          have HN := Lib.hid hN
          clear hN
          obtain ⟨wx, hwx⟩ : ∃ v, v = wr := ⟨_, rfl⟩
          subst hwx
          go_loopw [13] (fun iv wq => ∃ q : Nat, q ≤ N ∧ iv = .int .i64 q ∧ wq = wx) (fun iv _ => N - (intOf iv).toNat)
          case atStart => exact ⟨0, Nat.zero_le _, rfl, rfl⟩
          case round =>
            obtain ⟨q, hq, rfl, rfl⟩ := hrel
            have CL := Len_gv HD.out
            rw [← HN.out] at CL
            have CL := Lib.hid CL
            by_cases hqn : q < N
            · obtain ⟨s, hs⟩ : ∃ s, U[q]? = some s := ⟨_, List.getElem?_eq_getElem (by rw [← HN.out]; exact hqn)⟩
              have C1 := Lib.hid (Sig_gv HD.out q s hs)
              have C2 := Lib.hid (Find_gv HD.out q s hs)
              clear hs
              go_wp2_with (first
                | (go_at_call 10; refine CL.out.mono ?_; rintro e w' ⟨rfl, rfl⟩)
                | (go_at_call 11; refine C1.out.mono ?_; rintro e w' ⟨rfl, rfl⟩)
                | (go_at_call 12; refine C2.out.mono ?_; rintro e w' ⟨rfl, rfl⟩))
              go_roundw
              case rel => exact ⟨q + 1, hqn, by go_num, by first | rfl | trivial⟩
              case measure => simp [intOf]; omega
            · obtain rfl : q = N := by omega
              have CV := Lib.hid (live_any wr)
              have HB := Lib.hid HD.out.under
              go_wp2_with (first
                | (go_at_call 10; refine CL.out.mono ?_; rintro e w' ⟨rfl, rfl⟩)
                | (go_at_call 6; refine CV.out.mono ?_; rintro e w9 ⟨rfl, hB9⟩; have HB9 := Lib.hid hB9; clear hB9))
              go_ret
              exact ⟨rfl, HB.out.trans (HB9.out.mono HB.out.size)⟩
end Go.Proofs.Ytigiepmmgghjlaa
