/- The laws PartSplits and PartJoins, walked. -/
import Derived.Test.YtndnmcdbfjgglaaPtG
import Derived.Test.YtndnmcdbfjgglaaPtC
import Derived.Test.YtndnmcdbfjgglaaPtE
namespace Go.Proofs.Ytndnmcdbfjgglaa
open Go.RowKit
set_option linter.unusedVariables false
set_option maxRecDepth 20000

theorem live_pcs : splitL 7 [] = [[0, 0, 1, 0, 7, 0, 0, 0, 0, 0, 0, 0]] := by decide
theorem live17_any (w : World) : Calls Try.prog 6 #[] w fun e w' => e = .returned (.bool true) ∧ Below w.heap.size w w' := by
  have C := Lib.hid (PSplit_any none 0 0 [] 7 w (Rd.nil _ _) (Nat.le_refl _) (by decide))
  rw [live_pcs] at C
  go_enter Try.func6, Try.ntmps6
  go_wp2_with (first
    | (go_at_call 7; refine C.out.mono ?_; rintro e w2 ⟨SA, sn, sc, rfl, hsc, hsv, hsb⟩
       obtain rfl : 1 = sn := hsv.len
       obtain ⟨b, o, PA, m, cc, rfl, hlt, hc, hr, _, _⟩ := hsv.cell (j := 0) rfl
       rw [Nat.add_zero] at hc
       obtain rfl : 12 = m := hr.1
       have HB := Lib.hid hsb
       have R1 := Lib.hid (Same_any PA (some ⟨w2.heap.size, 0, none⟩) 12 cc 12 12 _ _ _ (hr.alloc (.cells (cells [0, 0, 1, 0, 7, 0, 0, 0, 0, 0, 0, 0]).toArray 5 (0, 0))) (Rd.new w2 5 [0, 0, 1, 0, 7, 0, 0, 0, 0, 0, 0, 0] (0, 0)))
       rw [decide_eq_true rfl] at R1
       clear hsv hr hsb C hsc)
    | (go_at_call 11; refine R1.out.mono ?_; rintro e w3 ⟨rfl, rfl⟩))
  go_ret
  exact ⟨rfl, HB.out.trans ((Below.refl _ _).alloc HB.out.size _)⟩

section
variable (A : Option Addr) (n c : Nat) (b : List UInt8) (s : Int) (w : World)
set_option maxHeartbeats 2000000 in
theorem PartSplits_any (hr : Rd w A n b) (hc : n ≤ c) (hn : n ≤ 9223372036854775807) :
    Calls Try.prog 3 #[.int .i64 s, .slice A n c] w fun e w' => e = .returned (.bool true) ∧ Below w.heap.size w w' := by
  by_cases hbig : 3000 < n
  · clear hr
    go_enter Try.func3, Try.ntmps3
    go_wp2_with (go_at_call 6; refine (live17_any w).mono ?_; rintro e w2 ⟨rfl, hb2⟩)
    go_ret
    exact ⟨rfl, hb2⟩
  · have C1 := Lib.hid (PSplit_any A n c b s w hr hc (by omega))
    have HR := Lib.hid (And.intro hr hc)
    have hl := hr.1
    have hneed : needN b.length ≤ 1024 := by have := needN_bd b.length; omega
    obtain ⟨ps, hps⟩ : ∃ ps, ps = splitL s b := ⟨_, rfl⟩
    have hpl : ps.length ≤ 100 := by rw [hps, splitL_ok hneed, pcs_len]; have := needN_bd b.length; omega
    have hpx : ∀ x ∈ ps, x.length ≤ 1000000 := fun x hx => by
      rw [hps] at hx
      obtain ⟨i, hi, e⟩ := List.getElem_of_mem hx
      have := ((split_good (s := s) hneed).2 i x (by rw [List.getElem?_eq_getElem hi, e])).1.1.2
      omega
    have HJ := Lib.hid (show joinL ps = (clampS s, b, true) by rw [hps]; exact joinL_split hneed)
    have HP := Lib.hid (And.intro hpl hpx)
    have HPS := Lib.hid hps
    rw [← hps] at C1
    clear hr hc hl hneed hpl hpx hps
    have hmay : (0 ≤ s ∧ s ≤ 281474976710656) ∨ ¬ (0 ≤ s ∧ s ≤ 281474976710656) := by omega
    have hcl : Hid ((0 ≤ s ∧ s ≤ 281474976710656) → clampS s = s) := Lib.hid clampS_id
    obtain ⟨z, hz⟩ : ∃ z, z = clampS s := ⟨_, rfl⟩
    rw [← hz] at HJ hcl
    clear hz
    have hz : (0 ≤ s ∧ s ≤ 281474976710656 ∧ z = s) ∨ s < 0 ∨ 281474976710656 < s := by
      rcases hmay with h | h
      · exact .inl ⟨h.1, h.2, hcl.out h⟩
      · omega
    clear hmay hcl
    rcases hz with ⟨h1, h2, h3⟩ | h1 | h1
    · have HZ := Lib.hid h3
      clear h3
      go_enter Try.func3, Try.ntmps3
      go_wp2_with (first
        | (go_at_call 7; refine C1.out.mono ?_; rintro e w2 ⟨SA, sn, sc, rfl, hsc, hsv, hsb⟩
           have S2 := Lib.hid (And.intro hsc (And.intro hsv hsb))
           have C2 := Lib.hid (RSplit_any A n c b s w2 (HR.out.1.below (Nat.le_refl _) hsb) HR.out.2 (by omega))
           rw [← HPS.out] at C2
           clear hsc hsv hsb C1)
        | (go_at_call 9; refine C2.out.mono ?_; rintro e w3 ⟨SB, tn, tc, rfl, htc, htv, htb⟩
           have S3 := Lib.hid (S2.out.2.1.below htb)
           have hsn := S3.out.len
           have htn := htv.len
           have C3 := Lib.hid (RSameP_any SA SB sn tn sc tc ps ps w3 S3.out htv (by have := HP.out.1; omega) (by have := HP.out.1; omega))
           rw [decide_eq_true rfl] at C3
           have B3 := Lib.hid (S2.out.2.2.trans (htb.mono S2.out.2.2.size))
           clear htc htv htb C2 hsn htn)
        | (go_at_call 8; refine C3.out.mono ?_; rintro e w4 ⟨rfl, hb4⟩
           have S4 := Lib.hid (S3.out.below hb4)
           have C4 := Lib.hid (PJoin_any SA sn sc ps w4 S4.out (by have := HP.out.1; have := S3.out.len; omega) HP.out.2)
           rw [HJ.out, HZ.out] at C4
           have B4 := Lib.hid (B3.out.trans (hb4.mono B3.out.size))
           clear hb4 C3)
        | (go_at_call 10; refine C4.out.mono ?_; rintro e w5 ⟨BA, bn, bc, rfl, hrd, hbc, hbb⟩
           have B5 := Lib.hid (B4.out.trans (hbb.mono B4.out.size))
           have C5 := Lib.hid (Same_any BA A bn bc n c b b w5 hrd (HR.out.1.below (Nat.le_refl _) B5.out))
           rw [decide_eq_true rfl] at C5
           clear hrd hbc hbb C4)
        | (go_at_call 11; refine C5.out.mono ?_; rintro e w6 ⟨rfl, rfl⟩)
        | (go_at_call 6; refine (live17_any _).mono ?_; rintro e w7 ⟨rfl, hb7⟩
           have B7 := Lib.hid (B5.out.trans (hb7.mono B5.out.size))
           clear hb7))
      go_ret
      exact ⟨rfl, B7.out⟩
    · skip
      go_enter Try.func3, Try.ntmps3
      go_wp2_with (first
        | (go_at_call 7; refine C1.out.mono ?_; rintro e w2 ⟨SA, sn, sc, rfl, hsc, hsv, hsb⟩
           have S2 := Lib.hid (And.intro hsc (And.intro hsv hsb))
           have C2 := Lib.hid (RSplit_any A n c b s w2 (HR.out.1.below (Nat.le_refl _) hsb) HR.out.2 (by omega))
           rw [← HPS.out] at C2
           clear hsc hsv hsb C1)
        | (go_at_call 9; refine C2.out.mono ?_; rintro e w3 ⟨SB, tn, tc, rfl, htc, htv, htb⟩
           have S3 := Lib.hid (S2.out.2.1.below htb)
           have hsn := S3.out.len
           have htn := htv.len
           have C3 := Lib.hid (RSameP_any SA SB sn tn sc tc ps ps w3 S3.out htv (by have := HP.out.1; omega) (by have := HP.out.1; omega))
           rw [decide_eq_true rfl] at C3
           have B3 := Lib.hid (S2.out.2.2.trans (htb.mono S2.out.2.2.size))
           clear htc htv htb C2 hsn htn)
        | (go_at_call 8; refine C3.out.mono ?_; rintro e w4 ⟨rfl, hb4⟩
           have S4 := Lib.hid (S3.out.below hb4)
           have C4 := Lib.hid (PJoin_any SA sn sc ps w4 S4.out (by have := HP.out.1; have := S3.out.len; omega) HP.out.2)
           rw [HJ.out] at C4
           have B4 := Lib.hid (B3.out.trans (hb4.mono B3.out.size))
           clear hb4 C3)
        | (go_at_call 10; refine C4.out.mono ?_; rintro e w5 ⟨BA, bn, bc, rfl, hrd, hbc, hbb⟩
           have B5 := Lib.hid (B4.out.trans (hbb.mono B4.out.size))
           have C5 := Lib.hid (Same_any BA A bn bc n c b b w5 hrd (HR.out.1.below (Nat.le_refl _) B5.out))
           rw [decide_eq_true rfl] at C5
           clear hrd hbc hbb C4)
        | (go_at_call 11; refine C5.out.mono ?_; rintro e w6 ⟨rfl, rfl⟩)
        | (go_at_call 6; refine (live17_any _).mono ?_; rintro e w7 ⟨rfl, hb7⟩
           have B7 := Lib.hid (B5.out.trans (hb7.mono B5.out.size))
           clear hb7))
      go_ret
      exact ⟨rfl, B7.out⟩
    · skip
      go_enter Try.func3, Try.ntmps3
      go_wp2_with (first
        | (go_at_call 7; refine C1.out.mono ?_; rintro e w2 ⟨SA, sn, sc, rfl, hsc, hsv, hsb⟩
           have S2 := Lib.hid (And.intro hsc (And.intro hsv hsb))
           have C2 := Lib.hid (RSplit_any A n c b s w2 (HR.out.1.below (Nat.le_refl _) hsb) HR.out.2 (by omega))
           rw [← HPS.out] at C2
           clear hsc hsv hsb C1)
        | (go_at_call 9; refine C2.out.mono ?_; rintro e w3 ⟨SB, tn, tc, rfl, htc, htv, htb⟩
           have S3 := Lib.hid (S2.out.2.1.below htb)
           have hsn := S3.out.len
           have htn := htv.len
           have C3 := Lib.hid (RSameP_any SA SB sn tn sc tc ps ps w3 S3.out htv (by have := HP.out.1; omega) (by have := HP.out.1; omega))
           rw [decide_eq_true rfl] at C3
           have B3 := Lib.hid (S2.out.2.2.trans (htb.mono S2.out.2.2.size))
           clear htc htv htb C2 hsn htn)
        | (go_at_call 8; refine C3.out.mono ?_; rintro e w4 ⟨rfl, hb4⟩
           have S4 := Lib.hid (S3.out.below hb4)
           have C4 := Lib.hid (PJoin_any SA sn sc ps w4 S4.out (by have := HP.out.1; have := S3.out.len; omega) HP.out.2)
           rw [HJ.out] at C4
           have B4 := Lib.hid (B3.out.trans (hb4.mono B3.out.size))
           clear hb4 C3)
        | (go_at_call 10; refine C4.out.mono ?_; rintro e w5 ⟨BA, bn, bc, rfl, hrd, hbc, hbb⟩
           have B5 := Lib.hid (B4.out.trans (hbb.mono B4.out.size))
           have C5 := Lib.hid (Same_any BA A bn bc n c b b w5 hrd (HR.out.1.below (Nat.le_refl _) B5.out))
           rw [decide_eq_true rfl] at C5
           clear hrd hbc hbb C4)
        | (go_at_call 11; refine C5.out.mono ?_; rintro e w6 ⟨rfl, rfl⟩)
        | (go_at_call 6; refine (live17_any _).mono ?_; rintro e w7 ⟨rfl, hb7⟩
           have B7 := Lib.hid (B5.out.trans (hb7.mono B5.out.size))
           clear hb7))
      go_ret
      exact ⟨rfl, B7.out⟩
end
end Go.Proofs.Ytndnmcdbfjgglaa
