/- The reference's of, its rows' blocks named. -/
import Derived.Test.YtieknelmfjkbhaaDr8
namespace Go.Proofs.Ytieknelmfjkbhaa
open Go.RowKit

theorem HdS.snoc {K : Nat → Prop} {w : World} {vs : List Value} {ls : List (List UInt8)} (h : HdS K w vs ls) (b o c : Nat) (l : List UInt8) (hk : K b) (hlt : b < w.heap.size) (hc : 512 ≤ c) (hm : c ≤ maxLen) (hr : Rd w (some ⟨b, o, none⟩) 512 l) : HdS K w (vs ++ [.slice (some ⟨b, o, none⟩) 512 c]) (ls ++ [l]) := by
  refine ⟨by simp [h.1], fun j hj => ?_⟩
  by_cases hj' : j < ls.length
  · obtain ⟨b', o', c', h1, r⟩ := h.2 j hj'
    refine ⟨b', o', c', by rw [List.getElem?_append_left (by have := h.1; omega)]; exact h1, ?_⟩
    rw [List.getD, List.getElem?_append_left hj', ← List.getD]; exact r
  · have e : j = ls.length := by simp at hj; omega
    subst e
    refine ⟨b, o, c, by rw [← h.1]; simp, hk, hlt, hc, hm, ?_⟩
    simpa [List.getD] using hr

section
variable (SA : Option Addr) (sn sc : Nat) (WA : Option Addr) (wn wc : Nat) (fuse : Int) (off : Bool) (rd wr : Int) (w : World)

set_option maxRecDepth 20000 in
theorem of_anyK (K : Nat → Prop) (i : Nat) (ls : List (Nat × List UInt8)) (hW : WaitK K w WA wn ls) (hwn : wn ≤ 1000000) :
    Calls Try.prog 37 #[rv SA sn sc WA wn wc fuse off rd wr, .int .i64 i] w fun e w' => ∃ A n c vs, e = .returned (.slice A n c) ∧ n ≤ c ∧ c ≤ maxLen ∧ n ≤ wn ∧ (fl i ls).length = n ∧ AtRow (fun _ => True) w' A n 1 vs ∧ HdS K w' vs (fl i ls) ∧ Below w.heap.size w w' := by
  unfold rv
  obtain ⟨w1, hw1⟩ : ∃ w1, w1 = w.alloc (.cells #[.slice SA sn sc, .slice WA wn wc, .int .i64 fuse, .bool off, .int .i64 rd, .int .i64 wr] 30) := ⟨_, rfl⟩
  have hB1 : Below w.heap.size w w1 := by rw [hw1]; exact (Below.refl _ _).alloc (Nat.le_refl _) _
  have q1 : w1.cell? ⟨w.heap.size, 1, none⟩ = some (.slice WA wn wc) := by rw [hw1]; simp
  have hlt : w.heap.size < w1.heap.size := by rw [hw1]; simp
  obtain ⟨vw, hl, hA0, hH0⟩ := hW
  have HA := Lib.hid hA0
  have HW := Lib.hid hH0
  have hlt0 : w.heap.size ≤ w1.heap.size := hB1.size
  have HB1 := Lib.hid hB1
  obtain ⟨i0, hi0, hz0, hz1, hz2⟩ := info_parts listT.info
  have HL := Lib.hid hl
  clear hA0 hH0 hB1 hl
  go_enter Try.func37, Try.ntmps37
  go_wp2
  rw [← hw1]
  clear hw1
  go_loopw [5, 6] (fun v iv wr => ∃ (j m : Nat) (vs : List Value), j ≤ wn ∧ m ≤ j ∧ iv = .int .i64 j ∧ wr.ownsRow w1.heap.size 32 1 v m vs ∧ HdS K w vs (fl i (ls.take j)) ∧ Below w1.heap.size w1 wr) (fun _ iv _ => wn - (intOf iv).toNat)
  case atStart => exact ⟨0, 0, [], Nat.zero_le _, Nat.le_refl _, rfl, World.ownsRow_nil _ _ _ _, ⟨rfl, fun j hj => absurd hj (Nat.not_lt_zero j)⟩, Below.refl _ _⟩
  case round =>
    obtain ⟨j, m, vs, hj, hmj, rfl, ho, hH, hB⟩ := hrel
    have q1' := (hB.cell (p := ⟨w.heap.size, 1, none⟩) hlt).trans q1
    by_cases hjn : j < wn
    · obtain ⟨b, o, hA, _, hblt, hc⟩ := HA.out.2 (by omega)
      obtain ⟨b', o', c', k0', k1', hk', hb', hc1, hc2, hr⟩ := HW.out.2 j (by rw [HL.out]; exact hjn)
      have hBw := HB1.out.trans (hB.mono HB1.out.size)
      have k0 := (hBw.cell (p := ⟨b, o + j * 2, none⟩) hblt).trans (hc _ _ k0')
      have k1 := (hBw.cell (p := ⟨b, o + (j * 2 + 1), none⟩) hblt).trans (hc _ _ k1')
      rw [← Nat.add_assoc] at k1
      have HK' := Lib.hid hk'
      have HB' := Lib.hid hb'
      clear k0' k1' hBw hk' hb'
      obtain ⟨y, hy⟩ : ∃ y, y = ls.getD j (0, []) := ⟨_, rfl⟩
      rw [← hy] at k0 hr
      have htk : ls.take (j + 1) = ls.take j ++ [y] := by
        rw [List.take_succ_eq_append_getElem (by rw [HL.out]; exact hjn), hy, List.getD, List.getElem?_eq_getElem (by rw [HL.out]; exact hjn)]
        rfl
      have HTK := Lib.hid htk
      clear hc hy htk
      subst hA
      have HH := Lib.hid hH
      have HR := Lib.hid hr
      clear hH hr
      by_cases hyi : y.1 = i
      · rw [hyi] at k0
        have HYI := Lib.hid hyi
        have hs := hB.size
        clear hyi
        go_wp2_with (at_builtin; refine wpList_append_own_at _ rfl _ _ 27 rfl w1.heap.size 32 i0 nilv 1 24 Try.underlying27 hi0 hz0 hz1 hz2 rfl (by decide) _ _ _ rfl (ho.alloc _) ⟨wr.heap.size, 0, none⟩ 1 1 [.slice (some ⟨b', o', none⟩) 512 c'] rfl rfl (cell_one_new _ _ _) (fun u hu => by rw [List.mem_singleton.1 hu]; rfl) (by unfold maxLen; omega) (by omega) (by simp; omega) ?_; intro v' w4 ho4 hg4 _ _; try go_frame)
        go_roundw
        case rel =>
          have hB4 : Below wr.heap.size wr (wr.alloc (.cells #[.slice (some ⟨b', o', none⟩) 512 c'] 32)) := (Below.refl _ _).alloc (Nat.le_refl _) _
          have hB5 : Below w1.heap.size w1 w4 := (hB.alloc hs _).grown hg4 (by simp; omega) (fun q hq => (ho.lt q hq).1)
          refine ⟨j + 1, m + 1, vs ++ [.slice (some ⟨b', o', none⟩) 512 c'], hjn, by omega, by go_num, ho4, ?_, hB5⟩
          rw [HTK.out, fl_snoc, if_pos HYI.out]
          exact HH.out.snoc b' o' c' _ HK'.out HB'.out hc1 hc2 HR.out
        case measure => simp [intOf]; omega
      · have hyi' : ¬ ((y.1 : Nat) : Int) = (i : Int) := by omega
        go_wp2
        go_roundw
        case rel => exact ⟨j + 1, m, vs, hjn, by omega, by go_num, ho, by rw [HTK.out, fl_snoc, if_neg hyi, List.append_nil]; exact HH.out, hB⟩
        case measure => simp [intOf]; omega
    · have e : j = wn := by omega
      subst e
      have HH := Lib.hid hH
      clear hH
      go_wp2
      go_ret
      have hH2 := HH.out
      rw [List.take_of_length_le (by rw [HL.out]; exact Nat.le_refl _)] at hH2
      obtain ⟨A, c, rfl, h1, h2, h3⟩ := own_row ho
      exact ⟨A, m, c, vs, rfl, h1, h2, hmj, by have := hH2.1; have := ho.1; omega, h3.mono (fun _ _ => trivial), hH2.below (HB1.out.trans (hB.mono HB1.out.size)), HB1.out.trans (hB.mono HB1.out.size)⟩
end
end Go.Proofs.Ytieknelmfjkbhaa
