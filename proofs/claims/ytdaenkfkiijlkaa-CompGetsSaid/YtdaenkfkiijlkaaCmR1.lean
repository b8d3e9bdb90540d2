/- le's Reader: as it lies in memory; the contracts of Read, OK, Left, take, Num, Text. -/
import Derived.Test.YtdaenkfkiijlkaaRec
import Derived.Test.YtdaenkfkiijlkaaLe5
import Derived.Test.YtdaenkfkiijlkaaOwn
import Derived.BigQuiet
import Derived.Deep.QuietTactic
namespace Go.Proofs.Ytdaenkfkiijlkaa
open Go.RowKit
set_option linter.unusedVariables false

/-- What is left to read, and whether something was missing. -/
abbrev RS := List UInt8 × Bool
/-- What the next number of k bytes is, and what it leaves. -/
def rdNum (k : Nat) (st : RS) : Int × RS :=
  if st.2 = true then (0, st) else if st.1.length < k then (0, (st.1, true)) else (getV (st.1.take k), (st.1.drop k, false))
/-- How long the next text tells to be. -/
def lenT (l : List UInt8) : Nat := if l.length < 2 then 0 else leN (l.take 2)
def rdText (st : RS) : ByteArray × RS :=
  if st.2 = true then (.empty, st) else if st.1.length < 2 + lenT st.1 then (.empty, (st.1, true)) else (str ((st.1.drop 2).take (lenT st.1)), (st.1.drop (2 + lenT st.1), false))

/-- A Reader at block p; its blocks lie below N. -/
def RdrIs (N : Nat) (w : World) (p : Nat) (st : RS) : Prop :=
  ∃ A n c, w.heap[p]? = some (.cells #[.slice A n c, .bool st.2] 68 (0, 0)) ∧ Rd w A n st.1 ∧ n ≤ c ∧ c ≤ maxLen ∧ n ≤ 1073741824 ∧ p < N ∧ ∀ a, A = some a → a.block ≠ p ∧ a.block < N

section
variable {w w' : World} {p N : Nat} {st : RS}
theorem RdrIs.lt (h : RdrIs N w p st) : p < w.heap.size := by obtain ⟨A, n, c, hb, _⟩ := h; exact (Array.getElem?_eq_some_iff.1 hb).1
theorem RdrIs.below (h : RdrIs N w p st) (hb : Below w.heap.size w w') : RdrIs N w' p st := by
  obtain ⟨A, n, c, h1, h2, h3, h4, h5, hpN, h6⟩ := h
  exact ⟨A, n, c, (hb.block p (Array.getElem?_eq_some_iff.1 h1).1).trans h1, h2.below (Nat.le_refl _) hb, h3, h4, h5, hpN, h6⟩
/-- The Reader stays where what was written lies from N on. -/
theorem RdrIs.stay (h : RdrIs N w p st) {B : Nat} (hN : N ≤ B) (hb : Below B w w') : RdrIs N w' p st := by
  obtain ⟨A, n, c, h1, h2, h3, h4, h5, hp, h6⟩ := h
  exact ⟨A, n, c, (hb.block p (by omega)).trans h1, h2.below' hb (fun hn => by
    obtain ⟨b, o, e, _, _⟩ := h2.2 hn
    have := (h6 _ e).2
    exact ⟨b, o, e, Nat.lt_of_lt_of_le this hN⟩), h3, h4, h5, hp, h6⟩

theorem OK_any (h : RdrIs N w p st) : Calls Try.prog 37 #[.pointer (some ⟨p, 0, none⟩)] w fun e w' => e = .returned (.bool (!st.2)) ∧ w = w' := by
  obtain ⟨A, n, c, h1, h2, h3, h4, h5, hpN, h6⟩ := h
  have c1 : w.cell? ⟨p, 1, none⟩ = some (.bool st.2) := cell_of_row _ _ 1 _ _ _ h1
  clear h1 h2 h6
  go_enter Try.func37, Try.ntmps37
  go_wp2
  go_ret
  exact ⟨rfl, rfl⟩

theorem Left_any (h : RdrIs N w p st) : Calls Try.prog 38 #[.pointer (some ⟨p, 0, none⟩)] w fun e w' => e = .returned (.int .i64 (st.1.length : Nat)) ∧ w = w' := by
  obtain ⟨A, n, c, h1, h2, h3, h4, h5, hpN, h6⟩ := h
  have c0 : w.cell? ⟨p, 0, none⟩ = some (.slice A n c) := cell_of_row _ _ 0 _ _ _ h1
  have hl := h2.1
  clear h1 h2 h6
  go_enter Try.func38, Try.ntmps38
  go_wp2
  go_ret
  exact ⟨ret_int (by rw [hl]), rfl⟩

/-- Nothing is taken where something was missing. -/
theorem take_off (l : List UInt8) (h : RdrIs N w p (l, true)) (k : Nat) :
    Calls Try.prog 49 #[.pointer (some ⟨p, 0, none⟩), .int .i64 k] w fun e w' => e = .returned (.slice none 0 0) ∧ w = w' := by
  have H := Lib.hid h
  clear h
  go_enter Try.func49, Try.ntmps49
  go_wp2_with (go_at_call 37; refine (OK_any H.out).mono ?_; rintro e w' ⟨rfl, rfl⟩)
  go_ret
  exact ⟨rfl, rfl⟩
theorem take_short (l : List UInt8) (h : RdrIs N w p (l, false)) (k : Nat) (hk : k ≤ 1073741824) (hs : l.length < k) :
    Calls Try.prog 49 #[.pointer (some ⟨p, 0, none⟩), .int .i64 k] w fun e w' => e = .returned (.slice none 0 0) ∧ RdrIs N w' p (l, true) ∧ Fr (· = p) w w' := by
  have H := Lib.hid h
  obtain ⟨A, n, c, h1, h2, h3, h4, h5, hpN, h6⟩ := h
  have c0 : w.cell? ⟨p, 0, none⟩ = some (.slice A n c) := cell_of_row _ _ 0 _ _ _ h1
  have f1 : w.frozen? ⟨p, 1, none⟩ = false := frozen_of_row w p 1 _ _ h1
  have c1 : w.cell? ⟨p, 1, none⟩ = some (.bool false) := cell_of_row _ _ 1 _ _ _ h1
  have hl := h2.1
  have hR : RdrIs N (w.setCell ⟨p, 1, none⟩ (.bool true)) p (l, true) := by
    refine ⟨A, n, c, ?_, h2.fr (Fr.setCell w (own := (· = p)) rfl _) (fun b o e _ => (h6 _ e).1), h3, h4, h5, hpN, h6⟩
    have := heap_setCell_at (j := 1) h1 (.bool true)
    simpa using this
  have HR := Lib.hid hR
  clear h1 h2 h6 hR
  go_enter Try.func49, Try.ntmps49
  go_wp2_with (first
    | (go_at_call 37; refine (OK_any H.out).mono ?_; rintro e w' ⟨rfl, rfl⟩)
    | (go_at_call 50; refine (part_high A n c 0 k w (by omega) hk h5 (by omega)).mono ?_; rintro e w' ⟨rfl, rfl⟩))
  go_ret
  exact ⟨rfl, HR.out, Fr.setCell w (own := (· = p)) rfl _⟩
theorem part_at (A : Option Addr) (n c : Nat) (k : Nat) (w : World) (hc : n ≤ c) (h1 : 1 ≤ k) (hk : k ≤ 1073741824) (hn : n ≤ 1073741824) (h : k ≤ n) :
    Calls Try.prog 50 #[.slice A n c, .int .i64 0, .int .i64 k] w fun e w' => e = .returned (.tuple #[.slice A k k, .bool true]) ∧ w = w' := by
  have h0 : ¬ k = 0 := by omega
  go_enter Try.func50, Try.ntmps50
  go_wp2
  go_ret2
  exact ⟨rfl, rfl⟩
theorem take_yes (l : List UInt8) (h : RdrIs N w p (l, false)) (k : Nat) (hk1 : 1 ≤ k) (hk : k ≤ 1073741824) (hs : k ≤ l.length) :
    Calls Try.prog 49 #[.pointer (some ⟨p, 0, none⟩), .int .i64 k] w fun e w' => ∃ A, e = .returned (.slice A k k) ∧ Rd w' A k (l.take k) ∧ RdrIs N w' p (l.drop k, false) ∧ Fr (· = p) w w' := by
  have H := Lib.hid h
  obtain ⟨A, n, c, h1, h2, h3, h4, h5, hpN, h6⟩ := h
  have c0 : w.cell? ⟨p, 0, none⟩ = some (.slice A n c) := cell_of_row _ _ 0 _ _ _ h1
  have f0 : w.frozen? ⟨p, 0, none⟩ = false := frozen_of_row w p 0 _ _ h1
  have hl := h2.1
  simp only at h1 h2 hl
  have H1 := Lib.hid h1
  have H2 := Lib.hid h2
  have H6 := Lib.hid h6
  have hkn : k ≤ n := by omega
  have hset : ∀ v, (w.setCell ⟨p, 0, none⟩ v).heap[p]? = some (.cells #[v, .bool false] 68 (0, 0)) := fun v => by
    have := heap_setCell_at (j := 0) h1 v
    simpa using this
  have hfr : ∀ v, Fr (· = p) w (w.setCell ⟨p, 0, none⟩ v) := fun v => Fr.setCell w (own := (· = p)) rfl v
  have hA : ∀ v, Rd (w.setCell ⟨p, 0, none⟩ v) A k (l.take k) := fun v => by
    have h := (h2.part (lo := 0) (m := k) (by omega) A (fun _ b o e => by rw [e]; rfl)).fr (hfr v) (fun b o e _ => (h6 _ e).1)
    rw [List.drop_zero] at h
    exact h
  have HSET := Lib.hid hset
  have HFR := Lib.hid hfr
  have HA := Lib.hid hA
  clear h1 h2 h6 hs hset hfr hA
  by_cases hck : c = k
  · subst hck
    obtain rfl : n = c := by omega
    go_enter Try.func49, Try.ntmps49
    go_wp2_with (first
      | (go_at_call 37; refine (OK_any H.out).mono ?_; rintro e w' ⟨rfl, rfl⟩)
      | (go_at_call 50; refine (part_at A n n n w h3 hk1 hk h5 hkn).mono ?_; rintro e w' ⟨rfl, rfl⟩))
    go_ret
    refine ⟨A, rfl, HA.out _, ⟨A, 0, 0, HSET.out _, ?_, Nat.le_refl _, Nat.zero_le _, Nat.zero_le _, hpN, H6.out⟩, HFR.out _⟩
    rw [List.drop_of_length_le (by omega)]
    exact Rd.nil _ _
  · have hkc : k < c := by omega
    go_enter Try.func49, Try.ntmps49
    go_wp2_with (first
      | (go_at_call 37; refine (OK_any H.out).mono ?_; rintro e w' ⟨rfl, rfl⟩)
      | (go_at_call 50; refine (part_at A n c k w h3 hk1 hk h5 hkn).mono ?_; rintro e w' ⟨rfl, rfl⟩))
    go_ret
    have hb : ∀ a, (A.map fun x => x.add k) = some a → a.block ≠ p ∧ a.block < N := fun a e => by
      cases A with
      | none => cases e
      | some a' =>
        simp only [Option.map_some, Option.some.injEq] at e
        rw [← e, block_add]
        exact H6.out a' rfl
    refine ⟨A, rfl, HA.out _, ⟨A.map fun x => x.add k, n - k, c - k, HSET.out _, ?_, by omega, by omega, by omega, hpN, hb⟩, HFR.out _⟩
    have h := (H2.out.part (lo := k) (m := n - k) (by omega) (A.map fun x => x.add k) (fun _ b o e => by rw [e]; simp [Addr.add_lit])).fr (HFR.out (.slice (A.map fun x => x.add k) (n - k) (c - k))) (fun b o e _ => (hb _ e).1)
    rw [List.take_of_length_le (by simp; omega)] at h
    exact h

theorem RNum_any (h : RdrIs N w p st) (k : Nat) (hk : k = 1 ∨ k = 4) :
    Calls Try.prog 45 #[.pointer (some ⟨p, 0, none⟩), .int .i64 k] w fun e w' => e = .returned (.int .i64 (rdNum k st).1) ∧ RdrIs N w' p (rdNum k st).2 ∧ Fr (· = p) w w' := by
  obtain ⟨l, m⟩ := st
  have hwd : wd (k : Int) = k := by rcases hk with rfl | rfl <;> decide
  have hn := nearest_wd (k : Int) w
  rw [hwd] at hn
  have HN := Lib.hid hn
  clear hn
  cases m
  · by_cases hs : l.length < k
    · have e1 : rdNum k (l, false) = (0, (l, true)) := by simp [rdNum, hs]
      rw [e1]
      have cT := Lib.hid (take_short l h k (by omega) hs)
      clear h e1
      go_enter Try.func45, Try.ntmps45
      go_wp2_with (first
        | (go_at_call 41; refine HN.out.mono ?_; rintro e w' ⟨rfl, rfl⟩)
        | (go_at_call 49; refine cT.out.mono ?_; rintro e w2 ⟨rfl, hr2, hf2⟩)
        | (go_at_call 48; refine (Get_no none 0 0 0 k w2 (by omega) (by rw [hwd]; omega)).mono ?_; rintro e w' ⟨rfl, rfl⟩))
      go_ret
      exact ⟨rfl, hr2, hf2⟩
    · have e1 : rdNum k (l, false) = (getV (l.take k), (l.drop k, false)) := by simp [rdNum, hs]
      rw [e1]
      have cT := Lib.hid (take_yes l h k (by omega) (by omega) (by omega))
      have hlk : (l.take k).length = k := by simp; omega
      have cG : ∀ A W, Rd W A k (l.take k) → Calls Try.prog 48 #[.slice A k k, .int .i64 0, .int .i64 k] W fun e w' => e = .returned (.tuple #[.int .i64 (getV (l.take k)), .bool true]) ∧ W = w' := fun A W hr => by
        have c := Get_yes A k k (l.take k) 0 k W hr (Nat.le_refl _) (by omega) (by rw [hwd]; omega)
        rw [hwd, List.drop_zero, List.take_take, Nat.min_self] at c
        exact c
      have CG := Lib.hid cG
      clear h e1 cG
      go_enter Try.func45, Try.ntmps45
      go_wp2_with (first
        | (go_at_call 41; refine HN.out.mono ?_; rintro e w' ⟨rfl, rfl⟩)
        | (go_at_call 49; refine cT.out.mono ?_; rintro e w2 ⟨A2, rfl, hR2, hr2, hf2⟩)
        | (go_at_call 48; refine (CG.out A2 w2 hR2).mono ?_; rintro e w' ⟨rfl, rfl⟩))
      go_ret
      exact ⟨rfl, hr2, hf2⟩
  · have e1 : rdNum k (l, true) = (0, (l, true)) := by simp [rdNum]
    rw [e1]
    have H := Lib.hid h
    have cT := Lib.hid (take_off l h k)
    clear h e1
    go_enter Try.func45, Try.ntmps45
    go_wp2_with (first
      | (go_at_call 41; refine HN.out.mono ?_; rintro e w' ⟨rfl, rfl⟩)
      | (go_at_call 49; refine cT.out.mono ?_; rintro e w' ⟨rfl, rfl⟩)
      | (go_at_call 48; refine (Get_no none 0 0 0 k w (by omega) (by rw [hwd]; omega)).mono ?_; rintro e w' ⟨rfl, rfl⟩))
    go_ret
    exact ⟨rfl, H.out, Fr.refl _ _⟩

theorem lenT_le (l : List UInt8) : lenT l ≤ 65535 := by
  unfold lenT
  split
  · omega
  · have := leN_lt (l.take 2)
    rw [List.length_take] at this
    have h2 : 2 ^ (8 * min 2 l.length) ≤ 2 ^ 16 := Nat.pow_le_pow_right (by decide) (by omega)
    omega
/-- How long the next text is, as Get tells it. -/
theorem Get_len (A : Option Addr) (n c : Nat) (l : List UInt8) (w : World) (hr : Rd w A n l) (hc : n ≤ c) (hn : n ≤ 1073741824) :
    Calls Try.prog 48 #[.slice A n c, .int .i64 0, .int .i64 2] w fun e w' => ∃ b, e = .returned (.tuple #[.int .i64 (lenT l : Nat), .bool b]) ∧ w = w' := by
  have hl := hr.1
  have hwd : wd 2 = 2 := by decide
  by_cases h2 : l.length < 2
  · have e1 : lenT l = 0 := by simp [lenT, h2]
    rw [e1]
    exact (Get_no A n c 0 2 w hn (by rw [hwd]; omega)).mono fun e w' ⟨he, hw⟩ => ⟨false, he, hw⟩
  · have e1 : getV (l.take 2) = (lenT l : Nat) := by
      have := lenT_le l
      unfold lenT at this ⊢
      rw [if_neg h2] at this ⊢
      exact getV_in _ (by omega)
    have cg := Get_yes A n c l 0 2 w hr hc hn (by rw [hwd]; omega)
    rw [hwd, List.drop_zero, e1] at cg
    exact cg.mono fun e w' ⟨he, hw⟩ => ⟨true, he, hw⟩

theorem RText_any (h : RdrIs N w p st) :
    Calls Try.prog 46 #[.pointer (some ⟨p, 0, none⟩)] w fun e w' => e = .returned (.string (rdText st).1) ∧ RdrIs N w' p (rdText st).2 ∧ Fr (· = p) w w' := by
  obtain ⟨l, m⟩ := st
  have H := Lib.hid h
  obtain ⟨A, n, c, h1, h2, h3, h4, h5, hpN, h6⟩ := h
  have c0 : w.cell? ⟨p, 0, none⟩ = some (.slice A n c) := cell_of_row _ _ 0 _ _ _ h1
  have cG := Lib.hid (Get_len A n c l w h2 h3 h5)
  have hg := lenT_le l
  clear h1 h2 h6
  cases m
  · by_cases hs : l.length < 2 + lenT l
    · have e1 : rdText (l, false) = (.empty, (l, true)) := by simp [rdText, hs]
      rw [e1]
      have t := take_short l H.out (2 + lenT l) (by omega) hs
      rw [Int.natCast_add] at t
      have cT := Lib.hid t
      obtain ⟨q, hq⟩ : ∃ q, q = lenT l := ⟨_, rfl⟩
      rw [← hq] at cT cG hg
      clear t e1 hs hq
      go_enter Try.func46, Try.ntmps46
      go_wp2_with (first
        | (go_at_call 48; refine cG.out.mono ?_; rintro e w' ⟨b, rfl, rfl⟩)
        | (go_at_call 49; refine cT.out.mono ?_; rintro e w2 ⟨rfl, hr2, hf2⟩))
      go_ret
      exact ⟨rfl, hr2, hf2⟩
    · have e1 : rdText (l, false) = (str ((l.drop 2).take (lenT l)), (l.drop (2 + lenT l), false)) := by simp [rdText, hs]
      rw [e1]
      have t := take_yes l H.out (2 + lenT l) (by omega) (by omega) (by omega)
      rw [Int.natCast_add] at t
      have cT := Lib.hid t
      obtain ⟨q, hq⟩ : ∃ q, q = lenT l := ⟨_, rfl⟩
      rw [← hq] at cT cG hg hs ⊢
      clear t e1 hq
      by_cases hq0 : q = 0
      · subst hq0
        simp only [Nat.add_zero, Int.natCast_zero, Int.add_zero] at cT cG ⊢
        go_enter Try.func46, Try.ntmps46
        go_wp2_with (first
          | (go_at_call 48; refine cG.out.mono ?_; rintro e w' ⟨b, rfl, rfl⟩)
          | (go_at_call 49; refine cT.out.mono ?_; rintro e w2 ⟨A2, rfl, hR2, hr2, hf2⟩))
        go_ret
        exact ⟨rfl, hr2, hf2⟩
      · go_enter Try.func46, Try.ntmps46
        go_wp2_with (first
          | (go_at_call 48; refine cG.out.mono ?_; rintro e w' ⟨b, rfl, rfl⟩)
          | (go_at_call 49; refine cT.out.mono ?_; rintro e w2 ⟨A2, rfl, hR2, hr2, hf2⟩
             obtain ⟨b2, o2, rfl, _⟩ := hR2.2 (by omega)
             have hp := hR2.part (lo := 2) (m := q) (by omega) (some ⟨b2, o2 + 2, none⟩) (fun _ b o e => by injection e with e; injection e with e1 e2; rw [← e1, ← e2])
             rw [List.drop_take, List.take_take, show min q (2 + q - 2) = q by omega] at hp
             have kc := run_to_string 35 9 5 Try.underlying35 Try.underlying5 Try.underlying9 w2 (some ⟨b2, o2 + 2, none⟩) q q _ hp
             clear hp hR2))
        go_ret
        exact ⟨rfl, hr2, hf2⟩
  · have e1 : rdText (l, true) = (.empty, (l, true)) := by simp [rdText]
    rw [e1]
    have t := take_off l H.out (2 + lenT l)
    rw [Int.natCast_add] at t
    have cT := Lib.hid t
    obtain ⟨q, hq⟩ : ∃ q, q = lenT l := ⟨_, rfl⟩
    rw [← hq] at cT cG hg
    clear t e1 hq
    go_enter Try.func46, Try.ntmps46
    go_wp2_with (first
      | (go_at_call 48; refine cG.out.mono ?_; rintro e w' ⟨b, rfl, rfl⟩)
      | (go_at_call 49; refine cT.out.mono ?_; rintro e w' ⟨rfl, rfl⟩))
    go_ret
    exact ⟨rfl, H.out, Fr.refl _ _⟩

theorem RRead_any (A : Option Addr) (n c : Nat) (l : List UInt8) (w : World) (hr : Rd w A n l) (hn : n ≤ 1000000) :
    Calls Try.prog 35 #[.slice A n c] w fun e w' => ∃ p, e = .returned (.pointer (some ⟨p, 0, none⟩)) ∧ w.heap.size ≤ p ∧ RdrIs w'.heap.size w' p (l, false) ∧ Below w.heap.size w w' := by
  go_enter Try.func35, Try.ntmps35
  go_wp2_with (go_at_call 43; refine (roomy_any A n c l 0 w hr (by omega) (by omega) (by omega)).mono ?_; rintro e w1 ⟨v1, rfl, ho1, hb1⟩; obtain ⟨A1, c1, rfl, hc1, hm1, hr1⟩ := Rd.of_own ho1 rfl)
  go_ret
  have hB := hb1.alloc hb1.size (.cells #[.slice A1 n c1, .bool false] 68)
  refine ⟨w1.heap.size, rfl, hb1.size, ⟨A1, n, c1, heap_alloc_new w1 _, hr1.alloc _, hc1, hm1, by omega, by simp, fun a e => ?_⟩, hB⟩
  have hlt : a.block < w1.heap.size := by
    rcases ho1.2 with ⟨h0, _⟩ | ⟨g, cap, cur, hv, _, hh, _⟩
    · rw [e] at h0; cases h0
    · injection hv with h1
      rw [e] at h1
      injection h1 with h1
      rw [h1]
      exact (Array.getElem?_eq_some_iff.1 hh).1
  exact ⟨by omega, by simp; omega⟩
end
end Go.Proofs.Ytdaenkfkiijlkaa
