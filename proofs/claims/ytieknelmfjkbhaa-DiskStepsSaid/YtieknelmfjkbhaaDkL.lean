/- The page's example: live. -/
import Derived.Test.YtieknelmfjkbhaaDk7
namespace Go.Proofs.Ytieknelmfjkbhaa
open Go.RowKit Go.Maps

/-- k bytes 1, and bytes 0, n in all. -/
def onesL (n k : Nat) : List UInt8 := List.replicate k 1 ++ List.replicate (n - k) 0
theorem onesL_length (n k : Nat) (h : k ≤ n) : (onesL n k).length = n := by simp [onesL]; omega
theorem onesL_get (n k j : Nat) (h : j < (onesL n k).length) : (onesL n k)[j] = if j < k then 1 else 0 := by
  simp only [onesL]
  by_cases hj : j < k
  · rw [List.getElem_append_left (by simp; omega), if_pos hj]
    simp
  · rw [List.getElem_append_right (by simp; omega), if_neg hj]
    simp
theorem onesL_succ (n k : Nat) (h : k < n) : (cells (onesL n k)).toArray.setIfInBounds k (Value.int .u8 1) = (cells (onesL n (k + 1))).toArray := by
  rw [List.setIfInBounds_toArray]
  congr 1
  apply List.ext_getElem
  · simp [onesL_length n k (by omega), onesL_length n (k + 1) (by omega)]
  · intro j h1 h2
    have hj : j < n := by simpa [onesL_length n k (by omega)] using h1
    rw [List.getElem_set]
    simp only [cells, List.getElem_map, onesL_get]
    by_cases hk : k = j
    · rw [if_pos hk, if_pos (by omega)]
      rfl
    · rw [if_neg hk]
      by_cases hl : j < k
      · rw [if_pos hl, if_pos (by omega)]
      · rw [if_neg hl, if_neg (by omega)]

def liveS (Z O : List UInt8) : St := { (fresh 1 Z).burn with wr := (fresh 1 Z).wr + 1 }.push 0 O
theorem liveS_dirty (Z O : List UInt8) : (liveS Z O).dirty = [0] := by
  simp [liveS, St.push, St.dirty, St.burn, fresh]
def liveF : Nat → Int × Int := fun n => [((0 : Int), (2 : Int))].getD n (0, 0)
theorem liveS_sec (Z O : List UInt8) (hZ : Z.length = 512) (hO : O.length = 512) : ((liveS Z O).crash liveF).last 0 = tearL Z O 2 := by
  have hs : (liveS Z O).sec 0 = Z := by
    show (Z.drop (512 * 0)).take 512 = Z
    rw [Nat.mul_zero, List.drop_zero, List.take_of_length_le (by omega)]
  have hf : (liveS Z O).fated 0 0 2 = tearL Z O 2 := by
    have hk : (liveS Z O).kept 0 0 = 0 := by unfold St.kept; omega
    have hw : (liveS Z O).wait 0 = [O] := rfl
    unfold St.fated St.whole
    rw [hk, hs, hw]
    rfl
  have e : (liveS Z O).settled liveF (liveS Z O).dirty.length = (liveS Z O).setSec 0 (tearL Z O 2) := by
    rw [liveS_dirty]
    show (liveS Z O).settle ((liveS Z O).dirty.getD 0 0) 0 2 = _
    rw [liveS_dirty]
    show (liveS Z O).setSec 0 ((liveS Z O).fated 0 0 2) = _
    rw [hf]
  show ((liveS Z O).settled liveF (liveS Z O).dirty.length).sec 0 = _
  rw [e]
  exact sec_setSec_same (liveS Z O) 0 _ hZ Nat.zero_lt_one (tearL_length hZ hO 2)
theorem live_tear (Z O : List UInt8) (hZ : Z.length = 512) (hO : O.length = 512) (j : Nat) (hj : j < (tearL Z O 2).length) : (tearL Z O 2)[j] = if h : j < 16 then O[j]'(by omega) else Z[j]'(by rw [tearL_length hZ hO] at hj; omega) := by
  have e : tearL Z O 2 = O.take 16 ++ Z.drop 16 := by unfold tearL; rfl
  simp only [e]
  by_cases h : j < 16
  · rw [dif_pos h, List.getElem_append_left (by simp; omega), List.getElem_take]
  · rw [dif_neg h, List.getElem_append_right (by simp; omega), List.getElem_drop]
    congr 1
    simp
    omega

set_option maxRecDepth 20000 in
set_option maxHeartbeats 1000000 in
theorem live_any (w : World) : Calls Try.prog 7 #[] w fun e w' => e = .returned (.bool true) ∧ Below w.heap.size w w' := by
  have cN := New_any 1 w
  have e1 : (min (max (1 : Int) 0) 4096).toNat = 1 := by decide
  rw [e1] at cN
  have CN := Lib.hid cN
  clear cN e1
  go_enter Try.func7, Try.ntmps7
  go_wp2_with (first
    | (go_at_call 8; refine CN.out.mono ?_; rintro e w1 ⟨p, own, rfl, hB1, hown, hdom, m, sv, f, D1⟩)
    | (at_make; refine wpList_mkn _ bytesT rfl _ _ rfl w1.heap.size .i64 .i64 _ _ 512 rfl rfl rfl rfl (by decide) (by unfold maxLen; omega) (Nat.le_refl _) ?_; intro w2 ho2 hB2; rw [made_cells] at ho2))
  obtain ⟨_, _, hh2⟩ := own_full ho2
  have D2 := D1.below hB2
  have HB1 := Lib.hid hB1
  have HOWN := Lib.hid hown
  have HDOM := Lib.hid hdom
  have HB2 := Lib.hid hB2
  have HH2 := Lib.hid hh2
  have HD2 := Lib.hid D2
  clear hB1 hown hdom D1 ho2 hB2 hh2 D2 CN
  go_loopw [3] (fun i wr => ∃ k : Nat, k ≤ 512 ∧ i = .int .i64 k ∧ wr.heap[w1.heap.size]? = some (.cells (cells (onesL 512 k)).toArray 5 (0, 0)) ∧ Fr (· = w1.heap.size) w2 wr) (fun i _ => 512 - (intOf i).toNat)
  case atStart =>
    refine ⟨0, by omega, rfl, ?_, Fr.refl _ _⟩
    have : onesL 512 0 = List.replicate 512 0 := by unfold onesL; rfl
    rw [this]
    exact HH2.out
  case round =>
    obtain ⟨k, hk, rfl, hrow, hFr⟩ := hrel
    by_cases hlt : k < 512
    · have hcell : wr.cell? ⟨w1.heap.size, k, none⟩ = some (.int .u8 0) := by
        rw [cell_of_row _ _ _ _ _ _ hrow]
        have hl : k < (onesL 512 k).length := by rw [onesL_length 512 k hk]; exact hlt
        have := cells_get hl
        rw [onesL_get, if_neg (by omega)] at this
        simpa using this
      have hfz : wr.frozen? ⟨w1.heap.size, k, none⟩ = false := by simp [World.frozen?, hrow]
      have HROW := Lib.hid hrow
      have HFR := Lib.hid hFr
      clear hrow hFr
      go_wp2
      go_roundw
      case rel => exact ⟨k + 1, hlt, by go_num, by rw [heap_setCell_at HROW.out, onesL_succ 512 k hlt], HFR.out.trans (Fr.setCell (own := (· = w1.heap.size)) wr (p := ⟨w1.heap.size, k, none⟩) rfl _)⟩
      case measure => simp [intOf]; omega
    · have hk5 : k = 512 := by omega
      subst hk5
      have hs2 := HB2.out.size
      have hlt1 : ∀ x, own x → x < w1.heap.size := HDOM.out
      have Dr := HD2.out.kept hFr (fun x hx e => by have := hlt1 x hx; have e' : x = w1.heap.size := e; omega)
      have hltr : ∀ x, own x → x < wr.heap.size := fun x hx => by have := hlt1 x hx; have := hFr.size; omega
      have hrO : Rd wr (some ⟨w1.heap.size, 0, none⟩) 512 (onesL 512 512) := ⟨onesL_length 512 512 (by omega), fun _ => ⟨w1.heap.size, 0, rfl, (Array.getElem?_eq_some_iff.1 hrow).1, fun j hj => by
        rw [cell_of_row _ _ _ _ _ _ hrow, Nat.zero_add]
        simpa using cells_get hj⟩⟩
      have HB3 : Hid (Below w.heap.size w wr) := Lib.hid ((HB1.out.trans (HB2.out.mono HB1.out.size)).trans (hFr.toBelow (fun x hx => by rw [show x = w1.heap.size from hx]; exact HB1.out.size) (by have := HB1.out.size; omega)))
      have cW := Write_ok hltr Dr 0 Nat.zero_lt_one rfl (by decide) (some ⟨w1.heap.size, 0, none⟩) 512 512 (onesL 512 512) hrO (fun b o e _ hb => by injection e with e; injection e with e1 _; have := hlt1 b hb; omega)
      rw [cut_self (onesL_length 512 512 (by omega))] at cW
      have CW := Lib.hid cW
      clear cW hrO hrow hFr Dr hltr hlt1 hs2
      go_wp2_with (go_at_call 29; refine CW.out.mono ?_; rintro e w4 ⟨rfl, hF4, own4, ho4, hlt4, m4, sv4, f4, D4⟩)
      obtain ⟨w5, hw5⟩ : ∃ w5, w5 = w4.alloc (.cells #[.int .i64 0, .int .i64 2] 63) := ⟨_, rfl⟩
      have hB5 : Below w4.heap.size w4 w5 := by rw [hw5]; exact (Below.refl _ _).alloc (Nat.le_refl _) _
      have q0 : w5.cell? ⟨w4.heap.size, 0, none⟩ = some (.int .i64 0) := by rw [hw5]; simp
      have q1 : w5.cell? ⟨w4.heap.size, 1, none⟩ = some (.int .i64 2) := by rw [hw5]; simp
      have hl5 : w4.heap.size < w5.heap.size := by rw [hw5]; simp
      have hF : FRd w5 (some ⟨w4.heap.size, 0, none⟩) 1 [((0 : Int), (2 : Int))] := ⟨rfl, fun _ => ⟨w4.heap.size, 0, rfl, hl5, fun j hj => by
        have : j = 0 := by simpa using hj
        subst this
        exact ⟨q0, q1⟩⟩⟩
      have cC := Crash_any (fun x hx => by have := hlt4 x hx; omega) (D4.below hB5) (some ⟨w4.heap.size, 0, none⟩) 1 1 [((0 : Int), (2 : Int))] hF (fun b o e _ hb => by injection e with e; injection e with e1 _; have := hlt4 b hb; omega) (by decide)
      have CC := Lib.hid cC
      have HB4 : Hid (Below w.heap.size w w5) := Lib.hid ((HB3.out.trans (hF4.toBelow (fun x hx => by have := HOWN.out x hx; exact this) HB3.out.size)).trans (hB5.mono (by have := HB3.out.size; have := hF4.size; omega)))
      have HO4 : Hid (∀ x, own4 x → w.heap.size ≤ x) := Lib.hid (fun x hx => by
        have := HB3.out.size
        rcases ho4 x hx with h | h
        · exact HOWN.out x h
        · omega)
      clear cC hF hB5 D4 hF4 ho4 hlt4 q0 q1 CW
      go_wp2_with (first
        | (rw [← hw5]; clear hw5)
        | (go_at_call 22; refine CC.out.mono ?_; rintro e w6 ⟨rfl, hF6, D6⟩))
      have hZ : (List.replicate (512 * 1) (0 : UInt8)).length = 512 := by simp
      have hO := onesL_length 512 512 (Nat.le_refl _)
      obtain ⟨Z, hZe⟩ : ∃ Z, Z = List.replicate (512 * 1) (0 : UInt8) := ⟨_, rfl⟩
      rw [← hZe] at D6 hZ
      obtain ⟨O, hOe⟩ : ∃ O, O = onesL 512 512 := ⟨_, rfl⟩
      rw [← hOe] at D6 hO
      have D6' : DAt w6 own4 (0 + 2) p m4 sv4 (fun _ => nilv) ((liveS Z O).crash liveF) := D6
      have hk6 : 0 < ((liveS Z O).crash liveF).k := by
        show 0 < ((liveS Z O).settled liveF _).k
        rw [settled_k]
        exact Nat.zero_lt_one
      have cR := Read_ok D6' 0 hk6 rfl (by decide)
      rw [liveS_sec Z O hZ hO] at cR
      have h15 : (tearL Z O 2)[15]? = some 1 := by
        rw [List.getElem?_eq_getElem (by rw [tearL_length hZ hO]; decide), live_tear Z O hZ hO 15 _, dif_pos (by decide)]
        simp only [hOe]
        rw [onesL_get, if_pos (by decide)]
      have h16 : (tearL Z O 2)[16]? = some 0 := by
        rw [List.getElem?_eq_getElem (by rw [tearL_length hZ hO]; decide), live_tear Z O hZ hO 16 _, dif_neg (by decide)]
        simp only [hZe]
        rw [List.getElem_replicate]
      have CR := Lib.hid cR
      have H15 := Lib.hid h15
      have H16 := Lib.hid h16
      have HT : Hid ((tearL Z O 2).length = 512) := Lib.hid (tearL_length hZ hO 2)
      have HF6 := Lib.hid hF6
      have hpo := D6.ownp
      clear cR h15 h16 hZ hO hZe hOe D6 D6' hk6 hF6 CC
      go_wp2_with fail
      refine CR.out.mono ?_
      rintro e w7 ⟨A7, c7, rfl, hc7, hcm7, hr7, _, hF7, D7⟩
      obtain ⟨b7, o7, rfl, _, hcell⟩ := hr7.2 (by decide)
      have k15 := hcell 15 (by rw [HT.out]; decide)
      have k16 := hcell 16 (by rw [HT.out]; decide)
      rw [(List.getElem?_eq_some_iff.1 H15.out).2] at k15
      rw [(List.getElem?_eq_some_iff.1 H16.out).2] at k16
      replace k15 : w7.cell? ⟨b7, o7 + 15, none⟩ = some (.int .u8 1) := k15
      replace k16 : w7.cell? ⟨b7, o7 + 16, none⟩ = some (.int .u8 0) := k16
      have HB7 : Hid (Below w.heap.size w w7) := Lib.hid (HB4.out.trans ((HF6.out.trans (hF7.mono (fun x hx => by rw [show x = p from hx]; exact hpo))).toBelow HO4.out HB4.out.size))
      clear hcell hr7 hF7 D7 hcm7
      go_wp2_with (go_at_call 23; refine (dcode_any _ _).mono ?_; rintro e w' ⟨rfl, rfl⟩)
      go_ret
      exact ⟨rfl, HB7.out⟩
end Go.Proofs.Ytieknelmfjkbhaa
