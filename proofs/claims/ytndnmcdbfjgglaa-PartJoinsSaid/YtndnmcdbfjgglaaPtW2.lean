/- The law PartJoins, walked. -/
import Derived.Test.YtndnmcdbfjgglaaPtW
import Derived.Test.YtndnmcdbfjgglaaPtO
namespace Go.Proofs.Ytndnmcdbfjgglaa
open Go.RowKit
set_option linter.unusedVariables false
set_option maxRecDepth 20000

theorem joinL_true {xs : List (List UInt8)} {z : Int} {t : List UInt8} (h : joinL xs = (z, t, true)) : splitL z t = xs ∧ t.length ≤ 460 * xs.length := by
  unfold joinL at h
  by_cases hg : GoodP xs (seqAt xs xs.length)
  · rw [if_pos hg] at h
    injection h with h1 h2
    injection h2 with h2 _
    subst h1 h2
    have hs := good_split hg
    refine ⟨hs.1.symm, ?_⟩
    have := needN_bd (tails xs).length
    rw [hs.2.1] at this
    exact this.2.1
  · rw [if_neg hg] at h
    injection h with _ h2
    injection h2 with _ h3
    cases h3
section
variable {K : Nat → Prop} (A : Option Addr) (n c : Nat) (xs : List (List UInt8)) (PA : Option Addr) (pn pc : Nat) (p : List UInt8) (w : World)
set_option maxHeartbeats 4000000 in
theorem PartJoins_any (h : PcsV K w A n xs) (hn : n ≤ 9223372036854775807) (hx : ∀ x ∈ xs, x.length ≤ 9223372036854775807) (hr : Rd w PA pn p) (hc : pn ≤ pc) (hpn : pn ≤ 9223372036854775807) :
    Calls Try.prog 4 #[.slice A n c, .slice PA pn pc] w fun e w' => e = .returned (.bool true) ∧ Below w.heap.size w w' := by
  by_cases hbig : 10 < n
  · clear h hr hx
    go_enter Try.func4, Try.ntmps4
    go_wp2_with (go_at_call 6; refine (live17_any w).mono ?_; rintro e w2 ⟨rfl, hb2⟩)
    go_ret
    exact ⟨rfl, hb2⟩
  by_cases hpbig : 600 < pn
  · clear h hr hx
    have d1 : decide (10 < n) = false := decide_eq_false hbig
    have d2 : decide (600 < pn) = true := decide_eq_true hpbig
    go_enter Try.func4, Try.ntmps4
    go_wp2_with (go_at_call 6; refine (live17_any w).mono ?_; rintro e w2 ⟨rfl, hb2⟩)
    go_ret
    exact ⟨rfl, hb2⟩
  have H := Lib.hid h
  have HL := Lib.hid h.len
  have HS := Lib.hid hx
  have HR := Lib.hid (And.intro hr hc)
  clear h hr hc hx
  have d1 : decide (10 < n) = false := decide_eq_false hbig
  have d2 : decide (600 < pn) = false := decide_eq_false hpbig
  go_enter Try.func4, Try.ntmps4
  go_wp2
  go_loop [5] (fun iv => ∃ j : Nat, j ≤ n ∧ iv = .int .i64 j ∧ Hid (∀ i x, i < j → xs[i]? = some x → x.length ≤ 600)) (fun iv => n - (intOf iv).toNat)
  case atStart => exact ⟨0, Nat.zero_le _, rfl, Lib.hid (fun i x hi => absurd hi (Nat.not_lt_zero _))⟩
  case round =>
    obtain ⟨j, hj, rfl, HI⟩ := hrel
    by_cases hjn : j < n
    · obtain ⟨x, hx⟩ : ∃ x, xs[j]? = some x := ⟨_, List.getElem?_eq_getElem (by rw [HL.out]; exact hjn)⟩
      obtain ⟨b, o, QA, m, cc, rfl, hlt, hc, hr, hmc, _⟩ := H.out.cell hx
      have hm := hr.1
      have hxl := HS.out x (List.mem_of_getElem? hx)
      have HX := Lib.hid (And.intro hx hm)
      have hml : m ≤ 9223372036854775807 := by omega
      clear hx hr hlt hmc hm hxl
      by_cases hmb : 600 < m
      · go_wp2_with (go_at_call 6; refine (live17_any w).mono ?_; rintro e w2 ⟨rfl, hb2⟩)
        go_ret
        exact ⟨rfl, hb2⟩
      · go_wp2
        go_round
        case rel =>
          refine ⟨j + 1, hjn, by go_num, Lib.hid (fun i y hi hy => ?_)⟩
          by_cases hij : i = j
          · subst hij
            rw [HX.out.1] at hy
            have := Option.some.inj hy
            have := HX.out.2
            subst x
            omega
          · exact HI.out i y (by omega) hy
        case measure => simp [intOf]; omega
    · obtain rfl : j = n := by omega
      have hall : ∀ x ∈ xs, x.length ≤ 1000000 := fun x hx => by
        obtain ⟨i, hi, e⟩ := List.getElem_of_mem hx
        have := HI.out i x (by have := HL.out; omega) (by rw [List.getElem?_eq_getElem hi, e])
        omega
      have HA := Lib.hid hall
      have C1 := Lib.hid (PJoin_any A j c xs w H.out (by omega) hall)
      obtain ⟨⟨z, t, ok⟩, hJ⟩ : ∃ r, joinL xs = r := ⟨_, rfl⟩
      rw [hJ] at C1
      have HJ := Lib.hid hJ
      obtain ⟨hp, hq, hs, hok, he, _, _⟩ := hd_any p
      have HE := Lib.hid he
      clear hJ hall he
      cases ok
      · go_wp2_with (first
          | (go_at_call 10; refine C1.out.mono ?_; rintro e w1 ⟨BA, bn, bc, rfl, hrd, hbc, hbb⟩
             have R1 := Lib.hid (And.intro hrd hbb)
             have C2 := Lib.hid (RJoin_any A j c xs w1 (H.out.below hbb) (by omega) HA.out)
             rw [HJ.out] at C2
             clear hrd hbc hbb C1)
          | (go_at_call 12; refine C2.out.mono ?_; rintro e w2 ⟨CA, cn, cc, rfl, hrd, hbc, hbb⟩
             have B2 := Lib.hid (R1.out.2.trans (hbb.mono R1.out.2.size))
             have C3 := Lib.hid (PHead_any PA pn pc p w2 (HR.out.1.below (Nat.le_refl _) B2.out) HR.out.2 (by omega))
             have C4 := Lib.hid (RPHead_any PA pn pc p w2 (HR.out.1.below (Nat.le_refl _) B2.out) (by omega))
             rw [HE.out] at C3 C4
             have C5 := Lib.hid (Same_any BA CA bn bc cn cc _ _ w2 (R1.out.1.below (Nat.le_refl _) hbb) hrd)
             rw [decide_eq_true rfl] at C5
             clear hrd hbc hbb C2)
          | (go_at_call 13; refine C3.out.mono ?_; rintro e w3 ⟨rfl, rfl⟩)
          | (go_at_call 14; refine C4.out.mono ?_; rintro e w3 ⟨rfl, rfl⟩)
          | (go_at_call 11; refine C5.out.mono ?_; rintro e w3 ⟨rfl, rfl⟩)
          | (go_at_call 6; refine (live17_any _).mono ?_; rintro e w7 ⟨rfl, hb7⟩
             have B7 := Lib.hid (B2.out.trans (hb7.mono B2.out.size))
             clear hb7))
        go_ret
        exact ⟨rfl, B7.out⟩
      · have hT := joinL_true HJ.out
        have HT := Lib.hid hT.1
        have htl : t.length ≤ 4600 := by have := hT.2; rw [HL.out] at this; omega
        clear hT
        go_wp2_with (first
          | (go_at_call 10; refine C1.out.mono ?_; rintro e w1 ⟨BA, bn, bc, rfl, hrd, hbc, hbb⟩
             have R1 := Lib.hid (And.intro hrd (And.intro hbb hbc))
             have C2 := Lib.hid (RJoin_any A j c xs w1 (H.out.below hbb) (by omega) HA.out)
             rw [HJ.out] at C2
             clear hrd hbc hbb C1)
          | (go_at_call 12; refine C2.out.mono ?_; rintro e w2 ⟨CA, cn, cc, rfl, hrd, hbc, hbb⟩
             have B2 := Lib.hid (R1.out.2.1.trans (hbb.mono R1.out.2.1.size))
             have C3 := Lib.hid (PHead_any PA pn pc p w2 (HR.out.1.below (Nat.le_refl _) B2.out) HR.out.2 (by omega))
             have C4 := Lib.hid (RPHead_any PA pn pc p w2 (HR.out.1.below (Nat.le_refl _) B2.out) (by omega))
             rw [HE.out] at C3 C4
             have R2 := Lib.hid (R1.out.1.below (Nat.le_refl _) hbb)
             have C5 := Lib.hid (Same_any BA CA bn bc cn cc _ _ w2 R2.out hrd)
             rw [decide_eq_true rfl] at C5
             have C6 := Lib.hid (PSplit_any BA bn bc t z w2 R2.out R1.out.2.2 (by have : t.length = bn := R2.out.1; omega))
             rw [HT.out] at C6
             clear hrd hbc hbb C2)
          | (go_at_call 13; refine C3.out.mono ?_; rintro e w3 ⟨rfl, rfl⟩)
          | (go_at_call 14; refine C4.out.mono ?_; rintro e w3 ⟨rfl, rfl⟩)
          | (go_at_call 11; refine C5.out.mono ?_; rintro e w3 ⟨rfl, rfl⟩)
          | (go_at_call 7; refine C6.out.mono ?_; rintro e w4 ⟨SA, sn, sc, rfl, hsc, hsv, hsb⟩
             have B4 := Lib.hid (B2.out.trans (hsb.mono B2.out.size))
             have hsn := hsv.len
             have hxn := HL.out
             have C7 := Lib.hid (RSameP_any SA A sn j sc c xs xs w4 hsv (H.out.below B4.out) (by omega) (by omega))
             rw [decide_eq_true rfl] at C7
             clear hsc hsv hsb hsn hxn)
          | (go_at_call 8; refine C7.out.mono ?_; rintro e w5 ⟨rfl, hb5⟩
             have B5 := Lib.hid (B4.out.trans (hb5.mono B4.out.size))
             clear hb5)
          | (go_at_call 6; refine (live17_any _).mono ?_; rintro e w7 ⟨rfl, hb7⟩
             have B7 := Lib.hid (B5.out.trans (hb7.mono B5.out.size))
             clear hb7))
        go_ret
        exact ⟨rfl, B7.out⟩
end
end Go.Proofs.Ytndnmcdbfjgglaa
