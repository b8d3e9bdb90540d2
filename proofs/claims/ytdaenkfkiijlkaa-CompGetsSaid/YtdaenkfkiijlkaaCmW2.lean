/- The law CompGets, walked. -/
import Derived.Test.YtdaenkfkiijlkaaCm9
import Derived.Test.YtdaenkfkiijlkaaCmR5
namespace Go.Proofs.Ytdaenkfkiijlkaa
open Go.RowKit
set_option linter.unusedVariables false

section
variable (A : Option Addr) (n c : Nat) (w : World)

theorem CompGets_long (hn : 1000 < n) (hm : n ≤ 9223372036854775807) :
    Calls Try.prog 5 #[.slice A n c] w fun e w' => e = .returned (.bool true) ∧ Below w.heap.size w w' := by
  go_enter Try.func5, Try.ntmps5
  go_wp2_with (go_at_call 7; refine (live_any w).mono ?_; rintro e w1 ⟨rfl, hb1⟩)
  go_ret
  exact ⟨rfl, hb1⟩

theorem getC_err (l : List UInt8) : (getC l).2 = 0 ∨ (getC l).2 = 1 ∨ (getC l).2 = 11 ∨ (getC l).2 = 12 := by
  unfold getC
  split
  · exact .inr (.inr (.inr rfl))
  · split
    · exact .inr (.inr (.inl rfl))
    · split
      · exact .inl rfl
      · exact .inr (.inl rfl)

set_option maxHeartbeats 2000000 in
theorem CompGets_short (l : List UInt8) (hr : Rd w A n l) (hn : n ≤ 1000) (hnc : n ≤ c) :
    Calls Try.prog 5 #[.slice A n c] w fun e w' => e = .returned (.bool true) ∧ Below w.heap.size w w' := by
  have cG := CGet_any A n c l w hr (by omega)
  have cR := fun W (hW : Below w.heap.size w W) => RGetC_any A n c l W (hr.below (Nat.le_refl _) hW) hn hnc
  have her := getC_err l
  have hbk : (getC l).2 = 0 → ∀ lg pg en gn ks, (getC l).1 = ⟨lg, pg, en, gn, ks⟩ → ks.length ≤ 32 ∧ (∀ k ∈ ks, k.1.size ≤ 100) ∧ l = confB lg pg en gn ks := fun h0 lg pg en gn ks hc => by
    have h := getC_back (l := l) (c := ⟨lg, pg, en, gn, ks⟩) (by rw [← hc, ← h0])
    obtain ⟨_, _, _, _, h5, h6⟩ := h.1.bounds
    exact ⟨h5, fun k hk => by have := (h6 k hk).1; omega, h.2⟩
  unfold GotC at cR
  obtain ⟨⟨⟨lg, pg, en, gn, ks⟩, er⟩, hgc⟩ : ∃ x, x = getC l := ⟨_, rfl⟩
  rw [← hgc] at cG cR her hbk
  simp only at cG cR her hbk
  have CR := Lib.hid cR
  have HR := Lib.hid hr
  have HER := Lib.hid her
  have HBK := Lib.hid (fun h0 => hbk h0 lg pg en gn ks rfl)
  clear cR hr her hbk hgc
  go_enter Try.func5, Try.ntmps5
  go_wp2_with fail
  refine cG.mono ?_
  clear cG
  rintro e w1 ⟨A1, n1, c1, rfl, hk1, hn1, hb1⟩
  obtain ⟨w2, hw2⟩ : ∃ w2, w2 = w1.alloc (.cells (cc lg pg en gn A1 n1 c1) 24) := ⟨_, rfl⟩
  have C2 := CAt.new hk1 lg pg en gn c1
  rw [← hw2] at C2
  obtain ⟨g, hg⟩ : ∃ g, g = w1.heap.size := ⟨_, rfl⟩
  rw [← hg] at C2
  have HG := Lib.hid hg
  have K2 := Lib.hid C2
  have B1 := Lib.hid hb1
  have B2 := Lib.hid (hb1.trans (C2.bel.mono hb1.size))
  clear hg C2 hk1 hb1
  go_wp2_with (rw [← hw2, ← HG.out]; clear hw2)
  refine (CR.out w2 B2.out).mono ?_
  rintro e w3 ⟨A3, n3, c3, rfl, hk3, hn3, hb3⟩
  obtain ⟨w4, hw4⟩ : ∃ w4, w4 = w3.alloc (.cells (cc lg pg en gn A3 n3 c3) 24) := ⟨_, rfl⟩
  have C4 := CAt.new hk3 lg pg en gn c3
  rw [← hw4] at C4
  obtain ⟨h, hh⟩ : ∃ h, h = w3.heap.size := ⟨_, rfl⟩
  rw [← hh] at C4
  have D4 := (K2.out.next hb3).next C4.bel
  have hnn : n1 = n3 := by rw [← K2.out.rd.1, ← hk3.1]
  subst hnn
  have c0 := C4.c0
  have c1' := C4.c1
  have c2 := C4.c2
  have c3' := C4.c3
  have c4 := C4.c4
  have d0 := D4.c0
  have d1 := D4.c1
  have d2 := D4.c2
  have d3 := D4.c3
  have d4 := D4.c4
  have HH := Lib.hid hh
  have K4 := Lib.hid C4
  have L4 := Lib.hid D4
  have B4 := Lib.hid (B1.out.trans (D4.bel.mono B1.out.size))
  clear hh C4 D4 hk3 hb3 K2 B2
  go_wp2_with (rw [← hw4, ← HH.out]; clear hw4)
  refine (RSame_yes lg pg en gn A1 n1 c1 ks w4 A3 c3 L4.out.rd K4.out.rd (by omega)).mono ?_
  rintro e w5 ⟨rfl, hb5⟩
  have L5 := L4.out.next hb5
  have e0 := L5.c0
  have e1 := L5.c1
  have e2 := L5.c2
  have e3 := L5.c3
  have e4 := L5.c4
  have K5 := Lib.hid L5
  have B5 := Lib.hid (B4.out.trans (hb5.mono B4.out.size))
  clear c0 c1' c2 c3' c4 d0 d1 d2 d3 d4 L5 hb5 K4 L4 B4
  rcases HER.out with h0 | h0
  · subst h0
    obtain ⟨hk32, hk100, hl⟩ := HBK.out rfl
    have cP := CPut_any lg pg en gn A1 n1 c1 ks w5 K5.out.rd (by have := K5.out.rd.1; omega) hk100
    rw [← hl] at cP
    have CP := Lib.hid cP
    have HL := Lib.hid hl
    clear cP hl hk100
    go_wp2_with (first
      | (go_at_call 13; refine (code_any _ _).mono ?_; rintro e w' ⟨rfl, rfl⟩)
      | (go_at_call 17; refine CP.out.mono ?_; rintro e w6 ⟨v6, rfl, ho6, hb6⟩; obtain ⟨A6, c6, rfl, _, _, hr6⟩ := Rd.of_own ho6 rfl; have B6 := Lib.hid (B5.out.trans (hb6.mono B5.out.size)); clear ho6 hb6)
      | (go_at_call 18; refine (Same_yes A6 A l.length c6 n c l w6 hr6 (HR.out.below (Nat.le_refl _) B6.out)).mono ?_; rintro e w' ⟨rfl, rfl⟩)
      | (go_at_call 7; refine (live_any w6).mono ?_; rintro e w7 ⟨rfl, hb7⟩; have B7 := B6.out.trans (hb7.mono B6.out.size)))
    go_ret
    exact ⟨rfl, B7⟩
  · have hne : (er != 0) = true := bne_iff_ne.2 (by omega)
    clear h0
    go_wp2_with (first
      | (go_at_call 13; refine (code_any _ _).mono ?_; rintro e w' ⟨rfl, rfl⟩)
      | (go_at_call 7; refine (live_any w5).mono ?_; rintro e w7 ⟨rfl, hb7⟩; have B7 := B5.out.trans (hb7.mono B5.out.size)))
    go_ret
    exact ⟨rfl, B7⟩
end
end Go.Proofs.Ytdaenkfkiijlkaa
