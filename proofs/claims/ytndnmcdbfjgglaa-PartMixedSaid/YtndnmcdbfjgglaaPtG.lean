/- The contract of the document's Join. -/
import Derived.Test.YtndnmcdbfjgglaaPtF
import Derived.Deep.DeepCutAuto
namespace Go.Proofs.Ytndnmcdbfjgglaa
open Go.RowKit
set_option linter.unusedVariables false
set_option maxRecDepth 20000

/-- What a piece at place i must be. -/
def OkAt (xs : List (List UInt8)) (s : Int) (i : Nat) (x : List UInt8) : Prop := HdOk x ∧ plc x = i ∧ cnt x = xs.length ∧ sqn x = s ∧ (i + 1 ≠ xs.length → x.length = 472) ∧ (i + 1 = xs.length → 0 < i → x.length ≠ 12)
def seq0 (xs : List (List UInt8)) (j : Nat) : Int := if j = 0 then 0 else sqn (xs.getD 0 [])
/-- What the document's Join has between two rounds. -/
structure RjI (w wr : World) (bv : Value) (xs : List (List UInt8)) (j k : Nat) : Prop where
  hd : ∀ i x, i < j → xs[i]? = some x → OkAt xs (sqn (xs.getD 0 [])) i x
  ow : wr.ownsRow w.heap.size 5 1 bv k (cells (tails (xs.take j)))
  kk : k ≤ 460 * j
  bel : Below w.heap.size w wr
theorem RjI.next {w wr w2 : World} {bv bv' : Value} {xs : List (List UInt8)} {j k m : Nat} {x : List UInt8} (h : RjI w wr bv xs j k) (hx : xs[j]? = some x) (hh : OkAt xs (sqn (xs.getD 0 [])) j x) (hm : m = x.length - 12)
    (ho : w2.ownsRow w.heap.size 5 1 bv' (k + m) (cells (tails (xs.take j)) ++ cells (x.drop 12))) (hb : Below w.heap.size wr w2) : RjI w w2 bv' xs (j + 1) (k + m) := by
  refine ⟨fun i y hi hy => ?_, ?_, ?_, h.bel.trans hb⟩
  · by_cases hij : i = j
    · subst hij
      rw [hx] at hy
      exact (Option.some.inj hy) ▸ hh
    · exact h.hd i y (by omega) hy
  · rw [tails_take hx, cells_append]
    exact ho
  · have := h.kk
    have := hh.1.1.2
    omega
theorem hd_any (l : List UInt8) : ∃ (p q s : Int) (ok : Bool), hdT l = .tuple #[.int .i64 p, .int .i64 q, .int .i64 s, .bool ok] ∧ (ok = true → HdOk l ∧ p = plc l ∧ q = cnt l ∧ s = sqn l) ∧ (ok = false → ¬ HdOk l) := by
  by_cases h : HdOk l
  · exact ⟨_, _, _, _, hdT_yes h, (fun _ => ⟨h, rfl, rfl, rfl⟩), (fun e => absurd e (by decide))⟩
  · exact ⟨_, _, _, _, hdT_no h, (fun e => absurd e (by decide)), (fun _ => h)⟩
theorem good_of {xs : List (List UInt8)} {n : Nat} (hn : xs.length = n) (h0 : 0 < n) (h : ∀ i x, i < n → xs[i]? = some x → OkAt xs (sqn (xs.getD 0 [])) i x) : GoodP xs (sqn (xs.getD 0 [])) :=
  ⟨fun e => by rw [e] at hn; simp at hn; omega, fun i x hx => h i x (by have := (List.getElem?_eq_some_iff.1 hx).1; omega) hx⟩

set_option maxHeartbeats 4000000 in
theorem RJoin_any {K : Nat → Prop} (A : Option Addr) (n c : Nat) (xs : List (List UInt8)) (w : World) (h : PcsV K w A n xs) (hn : n ≤ 100) (hs : ∀ x ∈ xs, x.length ≤ 1000000) :
    Calls Try.prog 12 #[.slice A n c] w (JoinP w (joinL xs)) := by
  have H := Lib.hid h
  have HL := Lib.hid h.len
  have HS := Lib.hid hs
  clear h hs
  go_enter Try.func12, Try.ntmps12
  go_wp2
  go_loopw [5, 6, 7] (fun bv sv iv wr => ∃ j k : Nat, j ≤ n ∧ iv = .int .i64 j ∧ sv = .int .i64 (seq0 xs j) ∧ Hid (RjI w wr bv xs j k)) (fun _ _ iv _ => n - (intOf iv).toNat)
  case atStart => exact ⟨0, 0, Nat.zero_le _, rfl, rfl, Lib.hid ⟨fun i x hi => absurd hi (Nat.not_lt_zero _), by simpa [tails, cells_nil] using World.ownsRow_nil _ _ _ _, Nat.le_refl _, Below.refl _ _⟩⟩
  case round =>
    obtain ⟨j, k, hj, rfl, rfl, HI⟩ := hrel
    by_cases hjn : j < n
    · obtain ⟨x, hx⟩ : ∃ x, xs[j]? = some x := ⟨_, List.getElem?_eq_getElem (by rw [HL.out]; exact hjn)⟩
      obtain ⟨b, o, PA, m, cc, rfl, hlt, hc, hr, hmc, _⟩ := (H.out.below HI.out.bel).cell hx
      have hxl := HS.out x (List.mem_of_getElem? hx)
      have hm := hr.1
      have CH := Lib.hid (RPHead_any PA m cc x wr hr (by omega))
      have HX := Lib.hid (And.intro hx (And.intro hr hmc))
      obtain ⟨p, q, s, ok, he, hy, hno⟩ := hd_any x
      rw [he] at CH
      obtain ⟨B, hB⟩ : ∃ B : Bool, B = true ↔ OkAt xs (sqn (xs.getD 0 [])) j x := by
        by_cases hq : OkAt xs (sqn (xs.getD 0 [])) j x
        · exact ⟨true, fun _ => hq, fun _ => rfl⟩
        · exact ⟨false, fun e => (by cases e), fun e => absurd e hq⟩
      have HB := Lib.hid hB
      have BN : Hid (¬ OkAt xs (sqn (xs.getD 0 [])) j x → B = false) := Lib.hid (fun h => Bool.eq_false_iff.2 (fun e => h (hB.1 e)))
      have BY : Hid (OkAt xs (sqn (xs.getD 0 [])) j x → B = true) := Lib.hid hB.2
      have HO := Lib.hid (And.intro hy hno)
      have HM := Lib.hid hm
      obtain ⟨sq, hsq⟩ : ∃ sq, sq = seq0 xs j := ⟨_, rfl⟩
      have HSQ := Lib.hid hsq
      rw [← hsq]
      clear he hy hno hB hr hm hxl hx hlt hsq
      by_cases hj0 : j = 0
      · subst hj0
        rw [Nat.add_zero] at hc
        go_upto_region 10 with (go_at_call 14; refine CH.out.mono ?_; rintro e w2 ⟨rfl, rfl⟩)
        go_cut [81] from 12 to 88 (fun v wl => v = .bool (!B) ∧ wl = wr)
        case first =>
          cases ok
          · have hb := Lib.hid (BN.out (fun h => HO.out.2 rfl h.1))
            go_wp2
            go_meet
            exact ⟨by rw [hb.out]; rfl, rfl⟩
          · have hO := Lib.hid (HO.out.1 rfl)
            by_cases h1 : p = ((0 : Nat) : Int)
            rotate_left
            · have hb := Lib.hid (BN.out (fun h => h1 (hO.out.2.1.trans h.2.1)))
              have f1 : (p != 0) = true := by simpa using h1
              go_wp2
              go_meet
              exact ⟨by rw [hb.out]; rfl, rfl⟩
            rw [Int.natCast_zero] at h1
            subst h1
            by_cases h2 : q = (n : Int)
            rotate_left
            · have hb := Lib.hid (BN.out (fun h => h2 (hO.out.2.2.1.trans (by rw [h.2.2.1, HL.out]))))
              have f2 : (q != (n : Int)) = true := by simpa using h2
              go_wp2
              go_meet
              exact ⟨by rw [hb.out]; rfl, rfl⟩
            subst h2
            have hs0 : Hid (sqn x = sqn (xs.getD 0 [])) := Lib.hid (by rw [List.getD_eq_getElem?_getD, HX.out.1]; rfl)
            by_cases h4 : 0 + 1 = n
            · have eL : ((0 : Int) == (n : Int) - 1) = true := by simp; omega
              have hb := Lib.hid (BY.out ⟨hO.out.1, hO.out.2.1.symm, by rw [HL.out]; exact hO.out.2.2.1.symm, hs0.out, fun h => absurd (by rw [HL.out]; exact h4) h, fun _ h => absurd h (Nat.lt_irrefl 0)⟩)
              clear h4
              go_wp2
              go_meet
              exact ⟨by rw [hb.out]; rfl, rfl⟩
            · have eL : ((0 : Int) == (n : Int) - 1) = false := by simp; omega
              by_cases h5 : m = 472
              · have hb := Lib.hid (BY.out ⟨hO.out.1, hO.out.2.1.symm, by rw [HL.out]; exact hO.out.2.2.1.symm, hs0.out, fun _ => by rw [HM.out]; exact h5, fun h => absurd (by rw [← HL.out]; exact h) h4⟩)
                clear h4
                subst h5
                go_wp2
                go_meet
                exact ⟨by rw [hb.out]; rfl, rfl⟩
              · have hb := Lib.hid (BN.out (fun h => h5 (by rw [← HM.out]; exact h.2.2.2.2.1 (by rw [HL.out]; exact h4))))
                have f5 : ((m : Int) != 472) = true := by simp; omega
                clear h4
                go_wp2
                go_meet
                exact ⟨by rw [hb.out]; rfl, rfl⟩
        case rest =>
          obtain ⟨rfl, rfl⟩ := hcut
          cases B
          · go_wp2
            go_ret3
            have hj : joinL xs = (0, [], false) := joinL_no (fun s' hg => absurd (HB.out.2 (by have h1 := hg.2 0 x HX.out.1; have h2 := (good_seq hg).2; rw [← h2] at h1; exact h1)) (by decide))
            rw [hj]
            exact ⟨none, 0, 0, rfl, Rd.nil _ _, Nat.le_refl _, HI.out.bel⟩
          · have HH := Lib.hid (HB.out.1 rfl)
            have h12 : 12 ≤ m ∧ m ≤ 472 := by have := HH.out.1.1; rw [HM.out] at this; exact this
            have hkb : k ≤ 100000 := by have := HI.out.kk; omega
            have R1 : Hid (∀ A', (0 < m - 12 → A' = PA.map fun x => x.add 12) → Rd wc A' (m - 12) (x.drop 12)) := Lib.hid (fun A' hA => by
              have := HX.out.2.1.part (lo := 12) (m := m - 12) (by omega) A' (fun hp b o e => by rw [hA hp, e]; simp [Addr.add_lit])
              rwa [List.take_of_length_le (by rw [List.length_drop, HM.out]; omega)] at this)
            have hcc : (cc = 12 ∧ m = 12) ∨ ¬ cc = 12 := by omega
            have hsq' : Hid (s = seq0 xs (0 + 1)) := Lib.hid (by
              cases ok
              · exact absurd HH.out.1 (HO.out.2 rfl)
              · rw [(HO.out.1 rfl).2.2.2, seq0, if_neg (by decide), List.getD_eq_getElem?_getD, HX.out.1]; rfl)
            rcases hcc with ⟨rfl, rfl⟩ | hcc
            · go_wp2_with (at_builtin; refine wpList_app wc bytesT rfl (.tmp 82) (.tmp 87) rfl w.heap.size u5 k _ rfl HI.out.ow PA 0 0 (x.drop 12) rfl (R1.out _ (fun h => by omega)) (by omega) HI.out.bel.size ?_; intro v3 w3 ho3 hb3; have O3 := Lib.hid (And.intro ho3 hb3); clear ho3 hb3)
              go_roundw
              case rel => exact ⟨1, k + 0, hjn, by go_num, by rw [hsq'.out], Lib.hid (HI.out.next HX.out.1 HH.out (by rw [HM.out]) O3.out.1 O3.out.2)⟩
              case measure => simp [intOf]; omega
            · go_wp2_with (at_builtin; refine wpList_app wc bytesT rfl (.tmp 82) (.tmp 87) rfl w.heap.size u5 k _ rfl HI.out.ow (PA.map fun x => x.add 12) (m - 12) (cc - 12) (x.drop 12) rfl (R1.out _ (fun h => rfl)) (by omega) HI.out.bel.size ?_; intro v3 w3 ho3 hb3; have O3 := Lib.hid (And.intro ho3 hb3); clear ho3 hb3)
              go_roundw
              case rel => exact ⟨1, k + (m - 12), hjn, by go_num, by rw [hsq'.out], Lib.hid (HI.out.next HX.out.1 HH.out (by rw [HM.out]) O3.out.1 O3.out.2)⟩
              case measure => simp [intOf]; omega
      · have e0 : ((j : Int) == 0) = false := by simp [hj0]
        have HJ0 := Lib.hid hj0
        go_upto_region 10 with (go_at_call 14; refine CH.out.mono ?_; rintro e w2 ⟨rfl, rfl⟩)
        go_cut [81] from 12 to 88 (fun v wl => v = .bool (!B) ∧ wl = wr)
        case first =>
          cases ok
          · have hb := Lib.hid (BN.out (fun h => HO.out.2 rfl h.1))
            go_wp2
            go_meet
            exact ⟨by rw [hb.out]; rfl, rfl⟩
          · have hO := Lib.hid (HO.out.1 rfl)
            by_cases h1 : p = ((j : Nat) : Int)
            rotate_left
            · have hb := Lib.hid (BN.out (fun h => h1 (hO.out.2.1.trans h.2.1)))
              have f1 : (p != (j : Int)) = true := by simpa using h1
              go_wp2
              go_meet
              exact ⟨by rw [hb.out]; rfl, rfl⟩
            subst h1
            by_cases h2 : q = (n : Int)
            rotate_left
            · have hb := Lib.hid (BN.out (fun h => h2 (hO.out.2.2.1.trans (by rw [h.2.2.1, HL.out]))))
              have f2 : (q != (n : Int)) = true := by simpa using h2
              go_wp2
              go_meet
              exact ⟨by rw [hb.out]; rfl, rfl⟩
            subst h2
            by_cases h3 : s = sq
            rotate_left
            · have hb := Lib.hid (BN.out (fun h => h3 (hO.out.2.2.2.trans (by rw [h.2.2.2.1, HSQ.out, seq0, if_neg HJ0.out]))))
              have f3 : (s != sq) = true := by simpa using h3
              go_wp2
              go_meet
              exact ⟨by rw [hb.out]; rfl, rfl⟩
            subst h3
            have hs0 : Hid (sqn x = sqn (xs.getD 0 [])) := Lib.hid (hO.out.2.2.2.symm.trans (by rw [HSQ.out, seq0, if_neg HJ0.out]))
            by_cases h4 : j + 1 = n
            · have eL : ((j : Int) == (n : Int) - 1) = true := by simp; omega
              have hjp : 0 < j := Nat.pos_of_ne_zero HJ0.out
              by_cases h5 : m = 12
              · have hb := Lib.hid (BN.out (fun h => h.2.2.2.2.2 (by rw [HL.out]; exact h4) hjp (by rw [HM.out]; exact h5)))
                clear h4
                subst h5
                go_wp2
                go_meet
                exact ⟨by rw [hb.out]; rfl, rfl⟩
              · have hb := Lib.hid (BY.out ⟨hO.out.1, hO.out.2.1.symm, by rw [HL.out]; exact hO.out.2.2.1.symm, hs0.out, fun h => absurd (by rw [HL.out]; exact h4) h, fun _ _ h => h5 (by rw [← HM.out]; exact h)⟩)
                have f5 : ((m : Int) == 12) = false := by simp; omega
                clear h4
                go_wp2
                go_meet
                exact ⟨by rw [hb.out]; rfl, rfl⟩
            · have eL : ((j : Int) == (n : Int) - 1) = false := by simp; omega
              by_cases h5 : m = 472
              · have hb := Lib.hid (BY.out ⟨hO.out.1, hO.out.2.1.symm, by rw [HL.out]; exact hO.out.2.2.1.symm, hs0.out, fun _ => by rw [HM.out]; exact h5, fun h => absurd (by rw [← HL.out]; exact h) h4⟩)
                clear h4
                subst h5
                go_wp2
                go_meet
                exact ⟨by rw [hb.out]; rfl, rfl⟩
              · have hb := Lib.hid (BN.out (fun h => h5 (by rw [← HM.out]; exact h.2.2.2.2.1 (by rw [HL.out]; exact h4))))
                have f5 : ((m : Int) != 472) = true := by simp; omega
                clear h4
                go_wp2
                go_meet
                exact ⟨by rw [hb.out]; rfl, rfl⟩
        case rest =>
          obtain ⟨rfl, rfl⟩ := hcut
          cases B
          · go_wp2
            go_ret3
            have hj : joinL xs = (0, [], false) := joinL_no (fun s' hg => absurd (HB.out.2 (by have h1 := hg.2 j x HX.out.1; have h2 := (good_seq hg).2; rw [← h2] at h1; exact h1)) (by decide))
            rw [hj]
            exact ⟨none, 0, 0, rfl, Rd.nil _ _, Nat.le_refl _, HI.out.bel⟩
          · have HH := Lib.hid (HB.out.1 rfl)
            have h12 : 12 ≤ m ∧ m ≤ 472 := by have := HH.out.1.1; rw [HM.out] at this; exact this
            have hkb : k ≤ 100000 := by have := HI.out.kk; omega
            have R1 : Hid (∀ A', (0 < m - 12 → A' = PA.map fun x => x.add 12) → Rd wc A' (m - 12) (x.drop 12)) := Lib.hid (fun A' hA => by
              have := HX.out.2.1.part (lo := 12) (m := m - 12) (by omega) A' (fun hp b o e => by rw [hA hp, e]; simp [Addr.add_lit])
              rwa [List.take_of_length_le (by rw [List.length_drop, HM.out]; omega)] at this)
            have hcc : (cc = 12 ∧ m = 12) ∨ ¬ cc = 12 := by omega
            have hsq' : Hid (sq = seq0 xs (j + 1)) := Lib.hid (by
              rw [HSQ.out, seq0, seq0, if_neg HJ0.out, if_neg (by omega)])
            rcases hcc with ⟨rfl, rfl⟩ | hcc
            · go_wp2_with (at_builtin; refine wpList_app wc bytesT rfl (.tmp 82) (.tmp 87) rfl w.heap.size u5 k _ rfl HI.out.ow PA 0 0 (x.drop 12) rfl (R1.out _ (fun h => by omega)) (by omega) HI.out.bel.size ?_; intro v3 w3 ho3 hb3; have O3 := Lib.hid (And.intro ho3 hb3); clear ho3 hb3)
              go_roundw
              case rel => exact ⟨j + 1, k + 0, hjn, by go_num, by rw [hsq'.out], Lib.hid (HI.out.next HX.out.1 HH.out (by rw [HM.out]) O3.out.1 O3.out.2)⟩
              case measure => simp [intOf]; omega
            · go_wp2_with (at_builtin; refine wpList_app wc bytesT rfl (.tmp 82) (.tmp 87) rfl w.heap.size u5 k _ rfl HI.out.ow (PA.map fun x => x.add 12) (m - 12) (cc - 12) (x.drop 12) rfl (R1.out _ (fun h => rfl)) (by omega) HI.out.bel.size ?_; intro v3 w3 ho3 hb3; have O3 := Lib.hid (And.intro ho3 hb3); clear ho3 hb3)
              go_roundw
              case rel => exact ⟨j + 1, k + (m - 12), hjn, by go_num, by rw [hsq'.out], Lib.hid (HI.out.next HX.out.1 HH.out (by rw [HM.out]) O3.out.1 O3.out.2)⟩
              case measure => simp [intOf]; omega
    · obtain rfl : j = n := by omega
      have hT : xs.take j = xs := List.take_of_length_le (Nat.le_of_eq HL.out)
      have ho := HI.out.ow
      rw [hT] at ho
      obtain ⟨BA, bc, hbv, hbc, hbm, hbr⟩ := Rd.of_own ho rfl
      subst hbv
      have HBR := Lib.hid (And.intro hbr hbc)
      have HBE := Lib.hid HI.out.bel
      by_cases hj0 : j = 0
      · subst hj0
        have HJ : Hid (joinL xs = (0, [], false)) := Lib.hid (joinL_no (fun s hg => hg.1 (List.eq_nil_of_length_eq_zero HL.out)))
        clear hbr hbc hbm ho hT HI
        go_wp2
        go_ret3
        rw [HJ.out]
        exact ⟨none, 0, 0, rfl, Rd.nil _ _, Nat.le_refl _, HBE.out⟩
      · have hg := good_of HL.out (Nat.pos_of_ne_zero hj0) HI.out.hd
        have HJ : Hid (joinL xs = (seq0 xs j, tails xs, true)) := Lib.hid (by rw [joinL_yes hg, seq0, if_neg hj0])
        have f0 : ((j : Int) == 0) = false := by simp [hj0]
        clear hbr hbc hbm ho hT HI hg
        go_wp2
        go_ret3
        rw [HJ.out]
        exact ⟨BA, k, bc, rfl, HBR.out.1, HBR.out.2, HBE.out⟩
end Go.Proofs.Ytndnmcdbfjgglaa
