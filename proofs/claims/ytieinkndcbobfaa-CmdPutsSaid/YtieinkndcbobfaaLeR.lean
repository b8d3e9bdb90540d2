/- le's Reader: as it lies in memory; the contracts of Read, OK, Left, take, Num. -/
import Derived.Test.YtieinkndcbobfaaRec
import Derived.Test.YtieinkndcbobfaaLe5
import Derived.Test.YtieinkndcbobfaaOwn
import Derived.BigQuiet
import Derived.Deep.QuietTactic
namespace Go.Proofs.Ytieinkndcbobfaa
open Go.RowKit
set_option linter.unusedVariables false

/-- What is left to read, and whether something was missing. -/
abbrev RS := List UInt8 × Bool
/-- What the next number of k bytes is, and what it leaves. -/
def rdNum (k : Nat) (st : RS) : Int × RS :=
  if st.2 = true then (0, st) else if st.1.length < k then (0, (st.1, true)) else (getV (st.1.take k), (st.1.drop k, false))
/-- A Reader at block p; its blocks lie below N. -/
def RdrIs (N : Nat) (w : World) (p : Nat) (st : RS) : Prop :=
  ∃ A n c, w.heap[p]? = some (.cells #[.slice A n c, .bool st.2] 63 (0, 0)) ∧ Rd w A n st.1 ∧ n ≤ c ∧ c ≤ maxLen ∧ n ≤ 1073741824 ∧ p < N ∧ ∀ a, A = some a → a.block ≠ p ∧ a.block < N

section
variable {w w' : World} {p N : Nat} {st : RS}
theorem RdrIs.lt (h : RdrIs N w p st) : p < w.heap.size := by obtain ⟨A, n, c, hb, _⟩ := h; exact (Array.getElem?_eq_some_iff.1 hb).1
theorem RdrIs.below (h : RdrIs N w p st) (hb : Below w.heap.size w w') : RdrIs N w' p st := by
  obtain ⟨A, n, c, h1, h2, h3, h4, h5, hpN, h6⟩ := h
  exact ⟨A, n, c, (hb.block p (Array.getElem?_eq_some_iff.1 h1).1).trans h1, h2.below (Nat.le_refl _) hb, h3, h4, h5, hpN, h6⟩
/-- The Reader stays where what was written lies from N on. -/
theorem RdrIs.stay (h : RdrIs N w p st) {B : Nat} (hN : N ≤ B) (hb : Below B w w') : RdrIs N w' p st := by
  obtain ⟨A, n, c, h1, h2, h3, h4, h5, hp, h6⟩ := h
  exact ⟨A, n, c, (hb.block p (by omega)).trans h1, h2.below' hb (fun hn => by
    obtain ⟨b, o, e, _, _⟩ := h2.2 hn
    have := (h6 _ e).2
    exact ⟨b, o, e, Nat.lt_of_lt_of_le this hN⟩), h3, h4, h5, hp, h6⟩

theorem OK_any (h : RdrIs N w p st) : Calls Try.prog 36 #[.pointer (some ⟨p, 0, none⟩)] w fun e w' => e = .returned (.bool (!st.2)) ∧ w = w' := by
  obtain ⟨A, n, c, h1, h2, h3, h4, h5, hpN, h6⟩ := h
  have c1 : w.cell? ⟨p, 1, none⟩ = some (.bool st.2) := cell_of_row _ _ 1 _ _ _ h1
  clear h1 h2 h6
  go_enter Try.func36, Try.ntmps36
  go_wp2
  go_ret
  exact ⟨rfl, rfl⟩

theorem Left_any (h : RdrIs N w p st) : Calls Try.prog 26 #[.pointer (some ⟨p, 0, none⟩)] w fun e w' => e = .returned (.int .i64 (st.1.length : Nat)) ∧ w = w' := by
  obtain ⟨A, n, c, h1, h2, h3, h4, h5, hpN, h6⟩ := h
  have c0 : w.cell? ⟨p, 0, none⟩ = some (.slice A n c) := cell_of_row _ _ 0 _ _ _ h1
  have hl := h2.1
  clear h1 h2 h6
  go_enter Try.func26, Try.ntmps26
  go_wp2
  go_ret
  exact ⟨ret_int (by rw [hl]), rfl⟩

/-- Nothing is taken where something was missing. -/
theorem take_off (l : List UInt8) (h : RdrIs N w p (l, true)) (k : Nat) :
    Calls Try.prog 40 #[.pointer (some ⟨p, 0, none⟩), .int .i64 k] w fun e w' => e = .returned (.slice none 0 0) ∧ w = w' := by
  have H := Lib.hid h
  clear h
  go_enter Try.func40, Try.ntmps40
  go_wp2_with (go_at_call 36; refine (OK_any H.out).mono ?_; rintro e w' ⟨rfl, rfl⟩)
  go_ret
  exact ⟨rfl, rfl⟩
theorem take_short (l : List UInt8) (h : RdrIs N w p (l, false)) (k : Nat) (hk : k ≤ 1073741824) (hs : l.length < k) :
    Calls Try.prog 40 #[.pointer (some ⟨p, 0, none⟩), .int .i64 k] w fun e w' => e = .returned (.slice none 0 0) ∧ RdrIs N w' p (l, true) ∧ Fr (· = p) w w' := by
  have H := Lib.hid h
  obtain ⟨A, n, c, h1, h2, h3, h4, h5, hpN, h6⟩ := h
  have c0 : w.cell? ⟨p, 0, none⟩ = some (.slice A n c) := cell_of_row _ _ 0 _ _ _ h1
  have f1 : w.frozen? ⟨p, 1, none⟩ = false := frozen_of_row w p 1 _ _ h1
  have c1 : w.cell? ⟨p, 1, none⟩ = some (.bool false) := cell_of_row _ _ 1 _ _ _ h1
  have hl := h2.1
  have hR : RdrIs N (w.setCell ⟨p, 1, none⟩ (.bool true)) p (l, true) := by
    refine ⟨A, n, c, ?_, h2.fr (Fr.setCell w (own := (· = p)) rfl _) (fun b o e _ => (h6 _ e).1), h3, h4, h5, hpN, h6⟩
    have := heap_setCell_at (j := 1) h1 (.bool true)
    simpa using this
  have HR := Lib.hid hR
  clear h1 h2 h6 hR
  go_enter Try.func40, Try.ntmps40
  go_wp2_with (first
    | (go_at_call 36; refine (OK_any H.out).mono ?_; rintro e w' ⟨rfl, rfl⟩)
    | (go_at_call 41; refine (part_high A n c 0 k w (by omega) hk h5 (by omega)).mono ?_; rintro e w' ⟨rfl, rfl⟩))
  go_ret
  exact ⟨rfl, HR.out, Fr.setCell w (own := (· = p)) rfl _⟩
theorem part_at (A : Option Addr) (n c : Nat) (k : Nat) (w : World) (hc : n ≤ c) (h1 : 1 ≤ k) (hk : k ≤ 1073741824) (hn : n ≤ 1073741824) (h : k ≤ n) :
    Calls Try.prog 41 #[.slice A n c, .int .i64 0, .int .i64 k] w fun e w' => e = .returned (.tuple #[.slice A k k, .bool true]) ∧ w = w' := by
  have h0 : ¬ k = 0 := by omega
  go_enter Try.func41, Try.ntmps41
  go_wp2
  go_ret2
  exact ⟨rfl, rfl⟩
theorem take_yes (l : List UInt8) (h : RdrIs N w p (l, false)) (k : Nat) (hk1 : 1 ≤ k) (hk : k ≤ 1073741824) (hs : k ≤ l.length) :
    Calls Try.prog 40 #[.pointer (some ⟨p, 0, none⟩), .int .i64 k] w fun e w' => ∃ A, e = .returned (.slice A k k) ∧ Rd w' A k (l.take k) ∧ RdrIs N w' p (l.drop k, false) ∧ Fr (· = p) w w' := by
  have H := Lib.hid h
  obtain ⟨A, n, c, h1, h2, h3, h4, h5, hpN, h6⟩ := h
  have c0 : w.cell? ⟨p, 0, none⟩ = some (.slice A n c) := cell_of_row _ _ 0 _ _ _ h1
  have f0 : w.frozen? ⟨p, 0, none⟩ = false := frozen_of_row w p 0 _ _ h1
  have hl := h2.1
  simp only at h1 h2 hl
  have H1 := Lib.hid h1
  have H2 := Lib.hid h2
  have H6 := Lib.hid h6
  have hkn : k ≤ n := by omega
  have hset : ∀ v, (w.setCell ⟨p, 0, none⟩ v).heap[p]? = some (.cells #[v, .bool false] 63 (0, 0)) := fun v => by
    have := heap_setCell_at (j := 0) h1 v
    simpa using this
  have hfr : ∀ v, Fr (· = p) w (w.setCell ⟨p, 0, none⟩ v) := fun v => Fr.setCell w (own := (· = p)) rfl v
  have hA : ∀ v, Rd (w.setCell ⟨p, 0, none⟩ v) A k (l.take k) := fun v => by
    have h := (h2.part (lo := 0) (m := k) (by omega) A (fun _ b o e => by rw [e]; rfl)).fr (hfr v) (fun b o e _ => (h6 _ e).1)
    rw [List.drop_zero] at h
    exact h
  have HSET := Lib.hid hset
  have HFR := Lib.hid hfr
  have HA := Lib.hid hA
  clear h1 h2 h6 hs hset hfr hA
  by_cases hck : c = k
  · subst hck
    obtain rfl : n = c := by omega
    go_enter Try.func40, Try.ntmps40
    go_wp2_with (first
      | (go_at_call 36; refine (OK_any H.out).mono ?_; rintro e w' ⟨rfl, rfl⟩)
      | (go_at_call 41; refine (part_at A n n n w h3 hk1 hk h5 hkn).mono ?_; rintro e w' ⟨rfl, rfl⟩))
    go_ret
    refine ⟨A, rfl, HA.out _, ⟨A, 0, 0, HSET.out _, ?_, Nat.le_refl _, Nat.zero_le _, Nat.zero_le _, hpN, H6.out⟩, HFR.out _⟩
    rw [List.drop_of_length_le (by omega)]
    exact Rd.nil _ _
  · have hkc : k < c := by omega
    go_enter Try.func40, Try.ntmps40
    go_wp2_with (first
      | (go_at_call 36; refine (OK_any H.out).mono ?_; rintro e w' ⟨rfl, rfl⟩)
      | (go_at_call 41; refine (part_at A n c k w h3 hk1 hk h5 hkn).mono ?_; rintro e w' ⟨rfl, rfl⟩))
    go_ret
    have hb : ∀ a, (A.map fun x => x.add k) = some a → a.block ≠ p ∧ a.block < N := fun a e => by
      cases A with
      | none => cases e
      | some a' =>
        simp only [Option.map_some, Option.some.injEq] at e
        rw [← e, block_add]
        exact H6.out a' rfl
    refine ⟨A, rfl, HA.out _, ⟨A.map fun x => x.add k, n - k, c - k, HSET.out _, ?_, by omega, by omega, by omega, hpN, hb⟩, HFR.out _⟩
    have h := (H2.out.part (lo := k) (m := n - k) (by omega) (A.map fun x => x.add k) (fun _ b o e => by rw [e]; simp [Addr.add_lit])).fr (HFR.out (.slice (A.map fun x => x.add k) (n - k) (c - k))) (fun b o e _ => (hb _ e).1)
    rw [List.take_of_length_le (by simp; omega)] at h
    exact h

theorem RNumK_any (h : RdrIs N w p st) (k : Nat) (hk : 1 ≤ k ∧ k ≤ 8) :
    Calls Try.prog 34 #[.pointer (some ⟨p, 0, none⟩), .int .i64 k] w fun e w' => e = .returned (.int .i64 (rdNum k st).1) ∧ RdrIs N w' p (rdNum k st).2 ∧ Fr (· = p) w w' := by
  obtain ⟨l, m⟩ := st
  have hwd : wd (k : Int) = k := by have := wd_cast (k : Int); omega
  have hn := nearest_wd (k : Int) w
  rw [hwd] at hn
  have HN := Lib.hid hn
  clear hn
  cases m
  · by_cases hs : l.length < k
    · have e1 : rdNum k (l, false) = (0, (l, true)) := by simp [rdNum, hs]
      rw [e1]
      have cT := Lib.hid (take_short l h k (by omega) hs)
      clear h e1
      go_enter Try.func34, Try.ntmps34
      go_wp2_with (first
        | (go_at_call 37; refine HN.out.mono ?_; rintro e w' ⟨rfl, rfl⟩)
        | (go_at_call 40; refine cT.out.mono ?_; rintro e w2 ⟨rfl, hr2, hf2⟩)
        | (go_at_call 39; refine (Get_no none 0 0 0 k w2 (by omega) (by rw [hwd]; omega)).mono ?_; rintro e w' ⟨rfl, rfl⟩))
      go_ret
      exact ⟨rfl, hr2, hf2⟩
    · have e1 : rdNum k (l, false) = (getV (l.take k), (l.drop k, false)) := by simp [rdNum, hs]
      rw [e1]
      have cT := Lib.hid (take_yes l h k (by omega) (by omega) (by omega))
      have hlk : (l.take k).length = k := by simp; omega
      have cG : ∀ A W, Rd W A k (l.take k) → Calls Try.prog 39 #[.slice A k k, .int .i64 0, .int .i64 k] W fun e w' => e = .returned (.tuple #[.int .i64 (getV (l.take k)), .bool true]) ∧ W = w' := fun A W hr => by
        have c := Get_yes A k k (l.take k) 0 k W hr (Nat.le_refl _) (by omega) (by rw [hwd]; omega)
        rw [hwd, List.drop_zero, List.take_take, Nat.min_self] at c
        exact c
      have CG := Lib.hid cG
      clear h e1 cG
      go_enter Try.func34, Try.ntmps34
      go_wp2_with (first
        | (go_at_call 37; refine HN.out.mono ?_; rintro e w' ⟨rfl, rfl⟩)
        | (go_at_call 40; refine cT.out.mono ?_; rintro e w2 ⟨A2, rfl, hR2, hr2, hf2⟩)
        | (go_at_call 39; refine (CG.out A2 w2 hR2).mono ?_; rintro e w' ⟨rfl, rfl⟩))
      go_ret
      exact ⟨rfl, hr2, hf2⟩
  · have e1 : rdNum k (l, true) = (0, (l, true)) := by simp [rdNum]
    rw [e1]
    have H := Lib.hid h
    have cT := Lib.hid (take_off l h k)
    clear h e1
    go_enter Try.func34, Try.ntmps34
    go_wp2_with (first
      | (go_at_call 37; refine HN.out.mono ?_; rintro e w' ⟨rfl, rfl⟩)
      | (go_at_call 40; refine cT.out.mono ?_; rintro e w' ⟨rfl, rfl⟩)
      | (go_at_call 39; refine (Get_no none 0 0 0 k w (by omega) (by rw [hwd]; omega)).mono ?_; rintro e w' ⟨rfl, rfl⟩))
    go_ret
    exact ⟨rfl, H.out, Fr.refl _ _⟩

theorem RRead_any (A : Option Addr) (n c : Nat) (l : List UInt8) (w : World) (hr : Rd w A n l) (hn : n ≤ 1000000) :
    Calls Try.prog 24 #[.slice A n c] w fun e w' => ∃ p, e = .returned (.pointer (some ⟨p, 0, none⟩)) ∧ w.heap.size ≤ p ∧ RdrIs w'.heap.size w' p (l, false) ∧ Below w.heap.size w w' := by
  go_enter Try.func24, Try.ntmps24
  go_wp2_with (go_at_call 33; refine (roomy_any A n c l 0 w hr (by omega) (by omega) (by omega)).mono ?_; rintro e w1 ⟨v1, rfl, ho1, hb1⟩; obtain ⟨A1, c1, rfl, hc1, hm1, hr1⟩ := Rd.of_own ho1 rfl)
  go_ret
  have hB := hb1.alloc hb1.size (.cells #[.slice A1 n c1, .bool false] 63)
  refine ⟨w1.heap.size, rfl, hb1.size, ⟨A1, n, c1, heap_alloc_new w1 _, hr1.alloc _, hc1, hm1, by omega, by simp, fun a e => ?_⟩, hB⟩
  have hlt : a.block < w1.heap.size := by
    rcases ho1.2 with ⟨h0, _⟩ | ⟨g, cap, cur, hv, _, hh, _⟩
    · rw [e] at h0; cases h0
    · injection hv with h1
      rw [e] at h1
      injection h1 with h1
      rw [h1]
      exact (Array.getElem?_eq_some_iff.1 hh).1
  exact ⟨by omega, by simp; omega⟩
end
end Go.Proofs.Ytieinkndcbobfaa
