/- The reference's Bytes, Dirty. -/
import Derived.Test.YtieknelmfjkbhaaDr2
import Derived.Test.YtieknelmfjkbhaaDk5
import Derived.Test.YtieknelmfjkbhaaInts
import Derived.BigQuiet
import Derived.Deep.QuietTactic
namespace Go.Proofs.Ytieknelmfjkbhaa
open Go.RowKit

section
variable (d : Rf) (w : World)

set_option maxRecDepth 20000 in
theorem RBytes_any (safe : List (List UInt8)) (hS : RowsR w d.SA d.sn safe) (hsn : d.sn ≤ 4096) :
    Calls Try.prog 20 #[d.v] w fun e w' => ∃ A c, e = .returned (.slice A (512 * d.sn) c) ∧ 512 * d.sn ≤ c ∧ c ≤ maxLen ∧ Rd w' A (512 * d.sn) safe.flatten ∧ Below w.heap.size w w' := by
  obtain ⟨SA, sn, sc, WA, wn, wc, fuse, off, rdd, wrr⟩ := d
  simp only at hS hsn
  obtain ⟨w1, hw1⟩ : ∃ w1, w1 = w.alloc (.cells #[.slice SA sn sc, .slice WA wn wc, .int .i64 fuse, .bool off, .int .i64 rdd, .int .i64 wrr] 30) := ⟨_, rfl⟩
  have hB1 : Below w.heap.size w w1 := by rw [hw1]; exact (Below.refl _ _).alloc (Nat.le_refl _) _
  have hR1 : RAt w1 w.heap.size ⟨SA, sn, sc, WA, wn, wc, fuse, off, rdd, wrr⟩ := by rw [hw1]; exact RAt.new w ⟨SA, sn, sc, WA, wn, wc, fuse, off, rdd, wrr⟩
  have HS := Lib.hid (hS.below hB1)
  have HB1 := Lib.hid hB1
  have q0 := hR1.h0
  have hlt := hR1.lt
  clear hS hB1 hR1
  show Calls Try.prog _ #[.agg #[.slice SA sn sc, .slice WA wn wc, .int .i64 fuse, .bool off, .int .i64 rdd, .int .i64 wrr]] w _
  go_enter Try.func20, Try.ntmps20
  go_wp2
  rw [← hw1]
  clear hw1
  go_loopw [3, 4] (fun v iv wr' => ∃ j : Nat, j ≤ sn ∧ iv = .int .i64 j ∧ wr'.ownsRow w1.heap.size 5 1 v (512 * j) (cells (safe.take j).flatten) ∧ Below w1.heap.size w1 wr') (fun _ iv _ => sn - (intOf iv).toNat)
  case atStart => exact ⟨0, Nat.zero_le _, rfl, World.ownsRow_nil _ _ _ _, Below.refl _ _⟩
  case round =>
    obtain ⟨j, hj, rfl, ho, hB⟩ := hrel
    have q0' := (hB.cell (p := ⟨w.heap.size, 0, none⟩) hlt).trans q0
    by_cases hjn : j < sn
    · obtain ⟨b, o, hA, hblt, hc⟩ := HS.out.2 (by omega)
      obtain ⟨b', o', c', k0', hc1, hc2, hr⟩ := hc j (by rw [HS.out.1]; exact hjn)
      have k0 := (hB.cell (p := ⟨b, o + j, none⟩) hblt).trans k0'
      have hr2 := hr.below (Nat.le_refl _) hB
      have hs := hB.size
      have htk : (safe.take (j + 1)).flatten = (safe.take j).flatten ++ safe.getD j [] := by
        rw [List.take_succ_eq_append_getElem (by rw [HS.out.1]; exact hjn), List.flatten_append, List.getD, List.getElem?_eq_getElem (by rw [HS.out.1]; exact hjn)]
        simp
      have HTK := Lib.hid htk
      have HB := Lib.hid hB
      clear hc htk k0' hr hB
      subst hA
      go_wp2_with (at_builtin; refine wpList_app _ bytesT rfl (.tmp 12) (.tmp 17) rfl w1.heap.size _ (512 * j) _ rfl ho _ 512 c' _ rfl hr2 (by omega) hs ?_; intro v2 w3 ho3 hb3; rw [← cells_append] at ho3)
      go_roundw
      case rel => exact ⟨j + 1, hjn, by go_num, by rw [HTK.out]; exact ho3, HB.out.trans hb3⟩
      case measure => simp [intOf]; omega
    · have e : j = sn := by omega
      subst e
      have HB := Lib.hid hB
      clear hB
      go_wp2
      go_ret
      rw [List.take_of_length_le (by rw [HS.out.1]; exact Nat.le_refl _)] at ho
      obtain ⟨A, c, rfl, h1, h2, h3⟩ := Rd.of_own ho rfl
      exact ⟨A, c, rfl, h1, h2, h3, HB1.out.trans (HB.out.mono HB1.out.size)⟩

def dirtyR (sn : Nat) (ls : List (Nat × List UInt8)) : List Nat := (List.range sn).filter fun i => !(fl i ls).isEmpty
theorem dirtyR_snoc (j : Nat) (ls : List (Nat × List UInt8)) : dirtyR (j + 1) ls = dirtyR j ls ++ (if (fl j ls).isEmpty then [] else [j]) := by
  unfold dirtyR
  rw [List.range_succ, List.filter_append]
  by_cases h : (fl j ls).isEmpty <;> simp [h]
theorem dirtyR_len (j : Nat) (ls : List (Nat × List UInt8)) : (dirtyR j ls).length ≤ j := by
  have := List.length_filter_le (fun i => !(fl i ls).isEmpty) (List.range j)
  rw [List.length_range] at this
  exact this

set_option maxRecDepth 20000 in
theorem RDirty_any (ls : List (Nat × List UInt8)) (hW : WaitR w d.WA d.wn ls) (hwn : d.wn ≤ 1000000) (hsn : d.sn ≤ 4096) :
    Calls Try.prog 18 #[d.v] w fun e w' => ∃ A c, e = .returned (.slice A (dirtyR d.sn ls).length c) ∧ IRd w' A (dirtyR d.sn ls).length ((dirtyR d.sn ls).map fun (i : Nat) => (i : Int)) ∧ Below w.heap.size w w' := by
  obtain ⟨SA, sn, sc, WA, wn, wc, fuse, off, rdd, wrr⟩ := d
  simp only at hW hwn hsn
  obtain ⟨w1, hw1⟩ : ∃ w1, w1 = w.alloc (.cells #[.slice SA sn sc, .slice WA wn wc, .int .i64 fuse, .bool off, .int .i64 rdd, .int .i64 wrr] 30) := ⟨_, rfl⟩
  have hB1 : Below w.heap.size w w1 := by rw [hw1]; exact (Below.refl _ _).alloc (Nat.le_refl _) _
  have hR1 : RAt w1 w.heap.size ⟨SA, sn, sc, WA, wn, wc, fuse, off, rdd, wrr⟩ := by rw [hw1]; exact RAt.new w ⟨SA, sn, sc, WA, wn, wc, fuse, off, rdd, wrr⟩
  have HW := Lib.hid (hW.below hB1)
  have HB1 := Lib.hid hB1
  have HR1 := Lib.hid hR1
  obtain ⟨i0, hi0, hz0, hz1, hz2⟩ := info_parts intT.info
  clear hW hB1 hR1
  show Calls Try.prog _ #[.agg #[.slice SA sn sc, .slice WA wn wc, .int .i64 fuse, .bool off, .int .i64 rdd, .int .i64 wrr]] w _
  go_enter Try.func18, Try.ntmps18
  go_wp2
  rw [← hw1]
  clear hw1
  go_loopw [3, 4] (fun v iv wr' => ∃ j : Nat, j ≤ sn ∧ iv = .int .i64 j ∧ wr'.ownsRow w1.heap.size 3 1 v (dirtyR j ls).length (((dirtyR j ls).map fun (i : Nat) => (i : Int)).map (Value.int .i64)) ∧ Below w1.heap.size w1 wr') (fun _ iv _ => sn - (intOf iv).toNat)
  case atStart => exact ⟨0, Nat.zero_le _, rfl, World.ownsRow_nil _ _ _ _, Below.refl _ _⟩
  case round =>
    obtain ⟨j, hj, rfl, ho, hB⟩ := hrel
    have hRq := HR1.out.below hB HR1.out.lt
    have q0 := hRq.h0
    have q1 := hRq.h1
    have q2 := hRq.h2
    have q3 := hRq.h3
    have q4 := hRq.h4
    have q5 := hRq.h5
    have hs := hB.size
    have HB := Lib.hid hB
    have hdl := dirtyR_len j ls
    by_cases hjn : j < sn
    · have cO := of_any SA sn sc WA wn wc fuse off rdd wrr wr j ls (HW.out.below hB) hwn
      have CO := Lib.hid cO
      clear cO hB
      unfold rv at CO
      go_wp2_with fail
      refine CO.out.mono ?_
      rintro e w3 ⟨A3, n3, c3, rfl, hnc, hcm, hnw, hr3, hB3⟩
      have ho3 := own_keep ho hB3
      have hs3 := hB3.size
      have HB3 := Lib.hid hB3
      have hl3 := hr3.1
      have HL3 := Lib.hid hl3
      clear hB3 hr3 hl3 ho q0 q1 q2 q3 q4 q5 hRq
      by_cases h0 : n3 = 0
      · have hem : (fl j ls).isEmpty = true := by rw [List.eq_nil_of_length_eq_zero (HL3.out.trans h0)]; rfl
        have hd : dirtyR (j + 1) ls = dirtyR j ls := by rw [dirtyR_snoc, hem]; simp
        have HD := Lib.hid hd
        subst h0
        clear hem hd
        go_wp2
        go_roundw
        case rel => exact ⟨j + 1, hjn, by go_num, by rw [HD.out]; exact ho3, HB.out.trans (HB3.out.mono hs)⟩
        case measure => simp [intOf]; omega
      · have hem : (fl j ls).isEmpty = false := by
          cases hh : fl j ls with
          | nil => rw [hh] at HL3; exact absurd HL3.out.symm h0
          | cons a r => rfl
        have hd : dirtyR (j + 1) ls = dirtyR j ls ++ [j] := by rw [dirtyR_snoc, hem]; simp
        have HD := Lib.hid hd
        clear hem hd
        have hpos : (0 : Int) < (n3 : Int) := by omega
        go_wp2_with (at_builtin; refine wpList_append_own_at _ rfl _ _ 43 rfl w1.heap.size 3 i0 (.int .i64 0) 1 8 Try.underlying43 hi0 hz0 hz1 hz2 rfl (by decide) _ _ _ rfl (ho3.alloc _) ⟨w3.heap.size, 0, none⟩ 1 1 [.int .i64 j] rfl rfl (cell_one_new _ _ _) (fun u hu => by rw [List.mem_singleton.1 hu]; rfl) (by unfold maxLen; omega) (by omega) (by simp; omega) ?_; intro v' w4 ho4 hg4 _ _; try go_frame)
        go_roundw
        case rel =>
          refine ⟨j + 1, hjn, by go_num, ?_, ((HB.out.trans (HB3.out.mono hs)).alloc (by omega) _).grown hg4 (by simp; omega) (fun q hq => (ho3.lt q hq).1)⟩
          rw [HD.out]
          simpa using ho4
        case measure => simp [intOf]; omega
    · have e : j = sn := by omega
      subst e
      clear hB
      go_wp2
      go_ret
      obtain ⟨A, c, rfl, h1⟩ := IRd.of_own ho
      exact ⟨A, ⟨c, rfl⟩, h1, HB1.out.trans (HB.out.mono HB1.out.size)⟩
end

end Go.Proofs.Ytieknelmfjkbhaa
