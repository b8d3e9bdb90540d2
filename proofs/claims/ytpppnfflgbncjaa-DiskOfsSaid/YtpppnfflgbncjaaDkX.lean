/- The law DiskOfs, walked. -/
import Derived.Test.YtpppnfflgbncjaaDr7
import Derived.Test.YtpppnfflgbncjaaDkV
namespace Go.Proofs.Ytpppnfflgbncjaa
open Go.RowKit

theorem DiskOfs_long (A : Option Addr) (n c : Nat) (i : Int) (w : World) (hn : (n : Int) ≤ 9223372036854775807) (h : 4000 < n) :
    Calls Try.prog 5 #[.slice A n c, .int .i64 i] w fun e w' => e = .returned (.bool true) ∧ Below w.heap.size w w' := by
  go_enter Try.func5, Try.ntmps5
  go_wp2_with (go_at_call 7; refine (live_any _).mono ?_; rintro e w1 ⟨rfl, hb1⟩)
  go_ret
  exact ⟨rfl, hb1⟩

theorem flatten_sec (k : Nat) (l : List UInt8) (h : 512 * k ≤ l.length) : ((List.range k).map (secL l)).flatten = l.take (512 * k) := by
  induction k with
  | zero => simp
  | succ k ih =>
    rw [List.range_succ, List.map_append, List.flatten_append, ih (by omega)]
    simp only [List.map_cons, List.map_nil, List.flatten_cons, List.flatten_nil, List.append_nil, secL]
    rw [show 512 * (k + 1) = 512 * k + 512 by omega, List.take_add]

/-- What a read of a fresh device answers: bytes and a code. -/
def ofRead (l : List UInt8) (k : Nat) (i : Int) : List UInt8 × Int := if 0 ≤ i ∧ i < (k : Int) then (secL l i.toNat, 0) else ([], 2)

/-- The program's read, whatever the sector. -/
theorem ofs_read (w0 w : World) (own : Nat → Prop) (p k : Nat) (l : List UInt8) (i : Int) (hb : Below w0.heap.size w0 w) (ho : ∀ x, own x → w0.heap.size ≤ x) (hD : Dv w own 0 p (fresh k (l.take (512 * k)))) :
    Calls Try.prog 27 #[.pointer (some ⟨p, 0, none⟩), .int .i64 i] w fun e w' => ∃ A n c, e = .returned (.tuple #[.slice A n c, .int .i64 (ofRead l k i).2]) ∧ Rd w' A n (ofRead l k i).1 ∧ n ≤ 512 ∧ Below w0.heap.size w0 w' ∧ w.heap.size ≤ w'.heap.size ∧
      ∃ s, s.k = k ∧ s.safe = l.take (512 * k) ∧ Dv w' own 1 p s ∧ ∀ x, x < w.heap.size → ¬ own x → w'.heap[x]? = w.heap[x]? := by
  obtain ⟨hd, m, sv, f, D⟩ := hD
  by_cases hi : 0 ≤ i ∧ i < (k : Int)
  · obtain ⟨j, rfl⟩ : ∃ j : Nat, i = (j : Int) := ⟨i.toNat, by omega⟩
    have e0 : ofRead l k (j : Int) = (secL l j, 0) := by unfold ofRead; rw [if_pos hi]; rfl
    rw [e0]
    have hj : j < k := by omega
    refine (Read_ok D j hj rfl (by decide)).mono ?_
    rintro e w' ⟨A, c, he, hc, hm, hr, hA, hf, D'⟩
    have hlast : (fresh k (l.take (512 * k))).last j = secL l j := by
      show ((l.take (512 * k)).drop (512 * j)).take 512 = (l.drop (512 * j)).take 512
      rw [List.drop_take, List.take_take, Nat.min_eq_left (by omega)]
    rw [hlast] at hr
    have hfo : Fr own w w' := hf.mono (fun x hx => by rw [show x = p from hx]; exact D.ownp)
    exact ⟨A, 512, c, he, hr, Nat.le_refl _, hb.trans (hfo.toBelow ho hb.size), hf.size, _, rfl, rfl, ⟨fun x hx => Nat.lt_of_lt_of_le (hd x hx) hf.size, m, sv, f, D'⟩, fun x hx hn => hfo.block x hx hn⟩
  · have e0 : ofRead l k i = ([], 2) := by unfold ofRead; rw [if_neg hi]
    rw [e0]
    refine (Read_no D i (by simp only [fresh]; omega)).mono ?_
    rintro e w' ⟨he, rfl⟩
    exact ⟨none, 0, 0, he, Rd.nil _ _, Nat.zero_le _, hb, Nat.le_refl _, _, rfl, rfl, ⟨hd, m, sv, f, D.mono (by omega) (by decide)⟩, fun _ _ _ => rfl⟩

/-- The reference's. -/
theorem ofs_go (w : World) (A : Option Addr) (k c : Nat) (l : List UInt8) (i : Int) (hk : k ≤ 7) (hS : RowsR w A k ((List.range k).map (secL l))) :
    Calls Try.prog 11 #[rv A k c none 0 0 (-1) false 0 0, stv 0 i none 0 0 none 0 0] w fun e w' => ∃ d : Rf, ∃ B n c', e = .returned (.tuple #[d.v, .slice B n c', .int .i64 (ofRead l k i).2]) ∧ Rd w' B n (ofRead l k i).1 ∧ n ≤ 512 ∧ Below w.heap.size w w' := by
  by_cases hi : 0 ≤ i ∧ i < (k : Int)
  · obtain ⟨j, rfl⟩ : ∃ j : Nat, i = (j : Int) := ⟨i.toNat, by omega⟩
    have e0 : ofRead l k (j : Int) = (secL l j, 0) := by unfold ofRead; rw [if_pos hi]; rfl
    rw [e0]
    have hj : j < k := by omega
    refine (Go_read ⟨A, k, c, none, 0, 0, -1, false, 0, 0⟩ 0 (j : Int) none 0 0 none 0 0 w (by decide) j rfl hj ⟨rfl, show (-1 : Int) ≠ 0 by decide⟩ (show (-9223372036854775808 : Int) ≤ -1 ∧ (-1 : Int) ≤ 9223372036854775807 by decide) (show (0 : Int) ≤ 0 ∧ (0 : Int) ≤ 1000000 by decide) ((List.range k).map (secL l)) [] hS (WaitR.nil _ _) (Nat.zero_le _) (by simp only; omega)).mono ?_
    rintro e w' ⟨b, o, c', he, hc, hm, hr, hb⟩
    have hres : lastR ((List.range k).map (secL l)) [] j = secL l j := by
      show ((List.range k).map (secL l)).getD j [] = _
      rw [List.getD, List.getElem?_map, List.getElem?_range hj]
      rfl
    rw [hres] at hr
    exact ⟨_, _, 512, c', he, hr, Nat.le_refl _, hb⟩
  · have e0 : ofRead l k i = ([], 2) := by unfold ofRead; rw [if_neg hi]
    rw [e0]
    refine (Go_range ⟨A, k, c, none, 0, 0, -1, false, 0, 0⟩ 0 i none 0 0 none 0 0 w (by decide) (by simp only; omega)).mono ?_
    rintro e w' ⟨he, hb⟩
    exact ⟨_, none, 0, 0, he, Rd.nil _ _, Nat.zero_le _, hb⟩

set_option maxRecDepth 100000 in
set_option maxHeartbeats 1000000 in
theorem DiskOfs_short (A : Option Addr) (n c : Nat) (l : List UInt8) (i : Int) (w : World) (hr : Rd w A n l) (hc : n ≤ c) (hcm : c ≤ maxLen) (h : n ≤ 4000) :
    Calls Try.prog 5 #[.slice A n c, .int .i64 i] w fun e w' => e = .returned (.bool true) ∧ Below w.heap.size w w' := by
  obtain ⟨k, hk⟩ : ∃ k, n / 512 = k := ⟨_, rfl⟩
  have cO := Of_any A n c l w hr h hc
  rw [hk] at cO
  have CO := Lib.hid cO
  have HR := Lib.hid hr
  have HK := Lib.hid hk
  have HCM := Lib.hid hcm
  have hk7 : k ≤ 7 := by omega
  have hk512 : 512 * k ≤ n := by omega
  have g1 : (n : Int) / 512 = (k : Int) := by omega
  clear cO hr hk hcm
  go_enter Try.func5, Try.ntmps5
  go_wp2_with fail
  refine CO.out.mono ?_
  rintro e w1 ⟨p, own, rfl, hB1, ho1, hD1⟩
  have HB1 := Lib.hid hB1
  have HO1 := Lib.hid ho1
  have HD1 := Lib.hid hD1
  clear hB1 ho1 hD1 CO
  go_wp2_with fail
  refine (ROf_any A n c k l w1 (HR.out.below (Nat.le_refl _) HB1.out) h hc HCM.out HK.out).mono ?_
  rintro e w2 ⟨A2, c2, rfl, hfar, hkc, hcm2, hB2⟩
  unfold rv
  obtain ⟨w3, hw3⟩ : ∃ w3, w3 = w2.alloc (.cells #[.slice A2 k c2, .slice none 0 0, .int .i64 (-1), .bool false, .int .i64 0, .int .i64 0] 30) := ⟨_, rfl⟩
  have hB3 : Below w2.heap.size w2 w3 := by rw [hw3]; exact (Below.refl _ _).alloc (Nat.le_refl _) _
  have hR3 : RAt w3 w2.heap.size ⟨A2, k, c2, none, 0, 0, -1, false, 0, 0⟩ := by rw [hw3]; exact RAt.new w2 ⟨A2, k, c2, none, 0, 0, -1, false, 0, 0⟩
  have HB13 := Lib.hid (hB2.trans (hB3.mono hB2.size))
  have HB23 := Lib.hid hB3
  have HB2 := Lib.hid hB2
  have HR3 := Lib.hid hR3
  have HFAR := Lib.hid hfar
  have hD3 : Dv w3 own 0 p (fresh k (l.take (512 * k))) := by
    obtain ⟨hd, m, sv, f, D⟩ := HD1.out
    exact ⟨fun x hx => Nat.lt_of_lt_of_le (hd x hx) HB13.out.size, m, sv, f, D.below HB13.out⟩
  have cR := ofs_read w w3 own p k l i (HB1.out.trans (HB13.out.mono HB1.out.size)) HO1.out hD3
  have CR := Lib.hid cR
  clear hfar hB2 hB3 hR3 hD3 cR
  go_wp2_with (first | (rw [← hw3]; clear hw3))
  try rw [← hw3]
  refine CR.out.mono ?_
  rintro e w4 ⟨A4, n4, c4, rfl, hr4, hn4, hB4, hs4, s4, hk4, hsafe4, hD4, hkeep4⟩
  have hown : ∀ x, own x → x < w1.heap.size := HD1.out.1
  have hkeep : ∀ x, w1.heap.size ≤ x → x < w3.heap.size → w4.heap[x]? = w3.heap[x]? := fun x hx hx' => hkeep4 x hx' (fun ho => by have := hown x ho; omega)
  have hR4 : RAt w4 w2.heap.size ⟨A2, k, c2, none, 0, 0, -1, false, 0, 0⟩ := (hkeep _ HB2.out.size HR3.out.lt).trans HR3.out
  have hS4 : RowsR w4 A2 k ((List.range k).map (secL l)) := HFAR.out w4 (Nat.le_trans HB23.out.size hs4) (fun x hx hx' => (hkeep x hx (Nat.lt_of_lt_of_le hx' HB23.out.size)).trans (HB23.out.block x hx'))
  have HR4 := Lib.hid hR4
  have HRD4 := Lib.hid hr4
  have HB4 := Lib.hid hB4
  have HD4 := Lib.hid hD4
  have HS4 := Lib.hid hS4
  have HK4 := Lib.hid hk4
  have HSF4 := Lib.hid hsafe4
  clear hr4 hB4 hs4 hD4 hkeep4 hown hkeep hR4 hS4 hk4 hsafe4 CR HFAR
  go_wp2_with (with_reducible refine wpList_ldR rfl (.tmp 6) rfl rfl HR4.out ?_)
  refine (ofs_go w4 A2 k c2 l i hk7 HS4.out).mono ?_
  rintro e w5 ⟨d5, B5, n5, c5, rfl, hr5, hn5, hB5⟩
  obtain ⟨SA5, sn5, sc5, WA5, wn5, wc5, fu5, of5, rd5, wr5⟩ := d5
  simp only [Rf.v, rv]
  obtain ⟨w6, hw6⟩ : ∃ w6, w6 = w5.alloc (.cells #[.slice SA5 sn5 sc5, .slice WA5 wn5 wc5, .int .i64 fu5, .bool of5, .int .i64 rd5, .int .i64 wr5] 30) := ⟨_, rfl⟩
  have hB6 : Below w4.heap.size w4 w6 := by rw [hw6]; exact hB5.trans (((Below.refl _ _).alloc (Nat.le_refl _) _).mono hB5.size)
  have hr56 : Rd w6 B5 n5 (ofRead l k i).1 := by rw [hw6]; exact hr5.alloc _
  have HB6 := Lib.hid hB6
  have HR56 := Lib.hid hr56
  clear hr5 hB5 hB6 hr56
  go_wp2_with (first
    | (rw [← hw6]; clear hw6)
    | (go_at_call 28; refine (nil_Fuse _ _).mono ?_; rintro e w' ⟨rfl, rfl⟩)
    | (go_at_call 22; refine (nil_Crash _ _).mono ?_; rintro e w' ⟨rfl, rfl⟩)
    | (go_at_call 27; refine (nil_Read _ _).mono ?_; rintro e w' ⟨rfl, rfl⟩)
    | (go_at_call 29; refine (nil_Write _ _ _ _ _).mono ?_; rintro e w' ⟨rfl, rfl⟩)
    | (go_at_call 24; refine (nil_Sync _).mono ?_; rintro e w' ⟨rfl, rfl⟩)
    | (go_at_call 21; refine (nil_Size _).mono ?_; rintro e w' ⟨rfl, rfl⟩)
    | (go_at_call 13; refine (nil_Off _).mono ?_; rintro e w' ⟨rfl, rfl⟩)
    | (go_at_call 17; refine (nil_Dirty _).mono ?_; rintro e w' ⟨rfl, rfl⟩)
    | (go_at_call 19; refine (nil_Bytes _).mono ?_; rintro e w' ⟨rfl, rfl⟩)
    | (go_at_call 14; refine (nil_Reads _).mono ?_; rintro e w' ⟨rfl, rfl⟩)
    | (go_at_call 15; refine (nil_Writes _).mono ?_; rintro e w' ⟨rfl, rfl⟩)
    | (go_at_call 23; refine (dcode_any _ _).mono ?_; rintro e w' ⟨rfl, rfl⟩))
  obtain ⟨hd4, m4, sv4, f4, D4⟩ := HD4.out
  have D6 := D4.below HB6.out
  have D6d := D6.drew
  have hR6 := HR4.out.under HB6.out
  have s6 : (w6.cell? ⟨w2.heap.size, 0, none⟩ = some (.slice A2 k c2) ∧ w6.cell? ⟨w2.heap.size, 1, none⟩ = some (.slice none 0 0) ∧ w6.cell? ⟨w2.heap.size, 2, none⟩ = some (.int .i64 (-1)) ∧ w6.cell? ⟨w2.heap.size, 3, none⟩ = some (.bool false) ∧ w6.cell? ⟨w2.heap.size, 4, none⟩ = some (.int .i64 0) ∧ w6.cell? ⟨w2.heap.size, 5, none⟩ = some (.int .i64 0)) := ⟨hR6.h0, hR6.h1, hR6.h2, hR6.h3, hR6.h4, hR6.h5⟩
  have s6d : (w6.drew.cell? ⟨w2.heap.size, 0, none⟩ = some (.slice A2 k c2) ∧ w6.drew.cell? ⟨w2.heap.size, 1, none⟩ = some (.slice none 0 0) ∧ w6.drew.cell? ⟨w2.heap.size, 2, none⟩ = some (.int .i64 (-1)) ∧ w6.drew.cell? ⟨w2.heap.size, 3, none⟩ = some (.bool false) ∧ w6.drew.cell? ⟨w2.heap.size, 4, none⟩ = some (.int .i64 0) ∧ w6.drew.cell? ⟨w2.heap.size, 5, none⟩ = some (.int .i64 0)) := s6
  have cB := Bytes_any D6d
  rw [HK4.out, HSF4.out] at cB
  have CB := Lib.hid cB
  have hflat : ((List.range k).map (secL l)).flatten = l.take (512 * k) := flatten_sec k l (by have := HR.out.1; omega)
  have HFL := Lib.hid hflat
  have HD6 := Lib.hid D6
  have HR6 := Lib.hid hR6
  obtain ⟨cd, hcd⟩ : ∃ cd, cd = (ofRead l k i).2 := ⟨_, rfl⟩
  rw [← hcd]
  have g2 : (n : Int).tdiv 512 = (k : Int) := by rw [Int.tdiv_eq_ediv_of_nonneg (by omega)]; exact g1
  have g3 : IntKind.i64.wrap (k : Int) = (k : Int) := IntWalk.i64_in _ ⟨by omega, by omega⟩
  clear hd4 D4 D6 D6d hR6 cB hflat hcd
  have tok1 : True := trivial
  go_region_held3 (fun w' => (w'.cell? ⟨w2.heap.size, 0, none⟩ = some (.slice A2 k c2) ∧ w'.cell? ⟨w2.heap.size, 1, none⟩ = some (.slice none 0 0) ∧ w'.cell? ⟨w2.heap.size, 2, none⟩ = some (.int .i64 (-1)) ∧ w'.cell? ⟨w2.heap.size, 3, none⟩ = some (.bool false) ∧ w'.cell? ⟨w2.heap.size, 4, none⟩ = some (.int .i64 0) ∧ w'.cell? ⟨w2.heap.size, 5, none⟩ = some (.int .i64 0))) (first
      | with_reducible exact s6
      | with_reducible exact s6d
      | with_reducible exact s7
      | with_reducible exact s8
      | with_reducible exact s9) (first
    | (go_at_call 19; refine CB.out.mono ?_; rintro e w7 ⟨A7, c7, rfl, hc7, hm7, hr7, _, hB7⟩; have hB67 : Below w6.heap.size w6 w7 := ((Below.refl _ _).drew).trans hB7; have hR7 := HR6.out.under hB67; have s7 : (w7.cell? ⟨w2.heap.size, 0, none⟩ = some (.slice A2 k c2) ∧ w7.cell? ⟨w2.heap.size, 1, none⟩ = some (.slice none 0 0) ∧ w7.cell? ⟨w2.heap.size, 2, none⟩ = some (.int .i64 (-1)) ∧ w7.cell? ⟨w2.heap.size, 3, none⟩ = some (.bool false) ∧ w7.cell? ⟨w2.heap.size, 4, none⟩ = some (.int .i64 0) ∧ w7.cell? ⟨w2.heap.size, 5, none⟩ = some (.int .i64 0)) := ⟨hR7.h0, hR7.h1, hR7.h2, hR7.h3, hR7.h4, hR7.h5⟩; have cRB := RBytes_any ⟨A2, k, c2, none, 0, 0, -1, false, 0, 0⟩ w7 _ ((HS4.out.below HB6.out).below hB67) (by simp only; omega); simp only [Rf.v, rv, HFL.out] at cRB; have CRB := Lib.hid cRB; clear cRB; have HB67 := Lib.hid hB67; have HR7 := Lib.hid hr7)
    | (go_at_call 20; refine CRB.out.mono ?_; rintro e w8 ⟨A8, c8, rfl, hc8, hm8, hr8, hB8⟩; have hB68 : Below w6.heap.size w6 w8 := HB67.out.trans (hB8.mono HB67.out.size); have hR8 := HR6.out.under hB68; have s8 : (w8.cell? ⟨w2.heap.size, 0, none⟩ = some (.slice A2 k c2) ∧ w8.cell? ⟨w2.heap.size, 1, none⟩ = some (.slice none 0 0) ∧ w8.cell? ⟨w2.heap.size, 2, none⟩ = some (.int .i64 (-1)) ∧ w8.cell? ⟨w2.heap.size, 3, none⟩ = some (.bool false) ∧ w8.cell? ⟨w2.heap.size, 4, none⟩ = some (.int .i64 0) ∧ w8.cell? ⟨w2.heap.size, 5, none⟩ = some (.int .i64 0)) := ⟨hR8.h0, hR8.h1, hR8.h2, hR8.h3, hR8.h4, hR8.h5⟩; have HR8 := Lib.hid hr8; have HR78 := Lib.hid (HR7.out.below (Nat.le_refl _) hB8); have cZ := Size_any (HD6.out.below hB68); rw [HK4.out] at cZ; have CZ := Lib.hid cZ; clear cZ; have HX := Lib.hid ((HRD4.out.below (Nat.le_refl _) HB6.out).below (Nat.le_refl _) hB68); have HY := Lib.hid (HR56.out.below (Nat.le_refl _) hB68); have HB68 := Lib.hid hB68)
    | (go_at_call 12; have _t := tok1; (with_reducible refine (Same_yes _ _ _ _ _ _ _ w8 HR78.out HR8.out).mono ?_); rintro e w' ⟨rfl, rfl⟩; clear tok1)
    | (go_at_call 12; (with_reducible refine (Same_yes _ _ _ _ _ _ _ w8 HX.out HY.out).mono ?_); rintro e w' ⟨rfl, rfl⟩)
    | (go_at_call 21; refine CZ.out.mono ?_; rintro e w' ⟨rfl, rfl⟩)
    | (go_at_call 23; refine (dcode_any _ _).mono ?_; rintro e w' ⟨rfl, rfl⟩)
    | (go_at_call 7; refine (live_any _).mono ?_; rintro e w9 ⟨rfl, hB9⟩; have hB69 : Below w6.heap.size w6 w9 := HB68.out.trans (hB9.mono HB68.out.size); have hR9 := HR6.out.under hB69; have s9 : (w9.cell? ⟨w2.heap.size, 0, none⟩ = some (.slice A2 k c2) ∧ w9.cell? ⟨w2.heap.size, 1, none⟩ = some (.slice none 0 0) ∧ w9.cell? ⟨w2.heap.size, 2, none⟩ = some (.int .i64 (-1)) ∧ w9.cell? ⟨w2.heap.size, 3, none⟩ = some (.bool false) ∧ w9.cell? ⟨w2.heap.size, 4, none⟩ = some (.int .i64 0) ∧ w9.cell? ⟨w2.heap.size, 5, none⟩ = some (.int .i64 0)) := ⟨hR9.h0, hR9.h1, hR9.h2, hR9.h3, hR9.h4, hR9.h5⟩))
  all_goals
    go_wp2
    go_ret
    exact ⟨rfl, HB4.out.trans ((HB6.out.trans (hB69.mono HB6.out.size)).mono HB4.out.size)⟩
end Go.Proofs.Ytpppnfflgbncjaa
