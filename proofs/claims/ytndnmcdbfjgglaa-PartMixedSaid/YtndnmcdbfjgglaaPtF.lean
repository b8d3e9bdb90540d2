/- The contract of part's Join. -/
import Derived.Test.YtndnmcdbfjgglaaPtD
import Derived.Test.YtndnmcdbfjgglaaPtH
import Derived.Test.YtndnmcdbfjgglaaPtB
namespace Go.Proofs.Ytndnmcdbfjgglaa
open Go.RowKit
set_option linter.unusedVariables false
set_option maxRecDepth 20000

/-- What Join hands back. -/
def JoinP (w : World) (r : Int × List UInt8 × Bool) (e : Ending) (w' : World) : Prop :=
  ∃ A n c, e = .returned (.tuple #[.int .i64 r.1, .slice A n c, .bool r.2.2]) ∧ Rd w' A n r.2.1 ∧ n ≤ c ∧ Below w.heap.size w w'
theorem seqAt_succ {xs : List (List UInt8)} {j : Nat} {x : List UInt8} (h : xs[j]? = some x) : seqAt xs (j + 1) = sqn x := by
  unfold seqAt
  rw [if_neg (by omega), Nat.add_sub_cancel, List.getD_eq_getElem?_getD, h]
  rfl
theorem tails_take {xs : List (List UInt8)} {j : Nat} {x : List UInt8} (h : xs[j]? = some x) : tails (xs.take (j + 1)) = tails (xs.take j) ++ x.drop 12 := by
  rw [List.take_add_one, h, Option.toList_some, tails_snoc]
/-- What Join has between two rounds. -/
structure JnI (w wr : World) (bv : Value) (xs : List (List UInt8)) (j k : Nat) : Prop where
  hd : ∀ i x, i < j → xs[i]? = some x → HdOk x
  ow : wr.ownsRow w.heap.size 5 1 bv k (cells (tails (xs.take j)))
  kk : k ≤ 460 * j
  bel : Below w.heap.size w wr
theorem JnI.next {w wr w2 : World} {bv bv' : Value} {xs : List (List UInt8)} {j k m : Nat} {x : List UInt8} (h : JnI w wr bv xs j k) (hx : xs[j]? = some x) (hh : HdOk x) (hm : m = x.length - 12)
    (ho : w2.ownsRow w.heap.size 5 1 bv' (k + m) (cells (tails (xs.take j)) ++ cells (x.drop 12))) (hb : Below w.heap.size wr w2) : JnI w w2 bv' xs (j + 1) (k + m) := by
  refine ⟨fun i y hi hy => ?_, ?_, ?_, h.bel.trans hb⟩
  · by_cases hij : i = j
    · subst hij
      rw [hx] at hy
      exact (Option.some.inj hy) ▸ hh
    · exact h.hd i y (by omega) hy
  · rw [tails_take hx, cells_append]
    exact ho
  · have := h.kk
    have := hh.1.2
    omega
theorem hdT_yes {l : List UInt8} (h : HdOk l) : hdT l = .tuple #[.int .i64 (plc l), .int .i64 (cnt l), .int .i64 (sqn l), .bool true] := by unfold hdT; rw [if_pos h]
theorem hdT_no {l : List UInt8} (h : ¬ HdOk l) : hdT l = .tuple #[.int .i64 0, .int .i64 0, .int .i64 0, .bool false] := by unfold hdT; rw [if_neg h]

set_option maxHeartbeats 2000000 in
theorem PJoin_any {K : Nat → Prop} (A : Option Addr) (n c : Nat) (xs : List (List UInt8)) (w : World) (h : PcsV K w A n xs) (hn : n ≤ 100) (hs : ∀ x ∈ xs, x.length ≤ 1000000) :
    Calls Try.prog 10 #[.slice A n c] w (JoinP w (joinL xs)) := by
  have H := Lib.hid h
  have HL := Lib.hid h.len
  have HS := Lib.hid hs
  clear h hs
  go_enter Try.func10, Try.ntmps10
  go_wp2
  go_loopw [2, 3, 9] (fun sv bv iv wr => ∃ j k : Nat, j ≤ n ∧ iv = .int .i64 j ∧ sv = .int .i64 (seqAt xs j) ∧ Hid (JnI w wr bv xs j k)) (fun _ _ iv _ => n - (intOf iv).toNat)
  case atStart => exact ⟨0, 0, Nat.zero_le _, rfl, rfl, Lib.hid ⟨fun i x hi => absurd hi (Nat.not_lt_zero _), by simpa [tails, cells_nil] using World.ownsRow_nil _ _ _ _, Nat.le_refl _, Below.refl _ _⟩⟩
  case round =>
    obtain ⟨j, k, hj, rfl, rfl, HI⟩ := hrel
    by_cases hjn : j < n
    · obtain ⟨x, hx⟩ : ∃ x, xs[j]? = some x := ⟨_, List.getElem?_eq_getElem (by rw [HL.out]; exact hjn)⟩
      obtain ⟨b, o, PA, m, cc, rfl, hlt, hc, hr, hmc, _⟩ := (H.out.below HI.out.bel).cell hx
      have hxl := HS.out x (List.mem_of_getElem? hx)
      have hm := hr.1
      have CH := Lib.hid (PHead_any PA m cc x wr hr hmc (by omega))
      have HX := Lib.hid (And.intro hx (And.intro hr hmc))
      by_cases hh : HdOk x
      · rw [hdT_yes hh] at CH
        have h12 : 12 ≤ m ∧ m ≤ 472 := by have := hh.1; omega
        have hkb : k ≤ 100000 := by have := HI.out.kk; omega
        have HH := Lib.hid hh
        have HM := Lib.hid hm
        have R1 : Hid (∀ A', (0 < m - 12 → A' = PA.map fun x => x.add 12) → Rd wr A' (m - 12) (x.drop 12)) := Lib.hid (fun A' hA => by
          have := hr.part (lo := 12) (m := m - 12) (by omega) A' (fun hp b o e => by rw [hA hp, e]; simp [Addr.add_lit])
          rwa [List.take_of_length_le (by rw [List.length_drop]; omega)] at this)
        have hcc : (cc = 12 ∧ m = 12) ∨ ¬ cc = 12 := by omega
        clear hr hh hm hxl hx hlt
        rcases hcc with ⟨rfl, rfl⟩ | hcc
        · go_wp2_with (first
            | (go_at_call 13; refine CH.out.mono ?_; rintro e w2 ⟨rfl, rfl⟩)
            | (at_builtin; refine wpList_app wr bytesT rfl (.tmp 22) (.tmp 24) rfl w.heap.size u3 k _ rfl HI.out.ow PA 0 0 (x.drop 12) rfl (R1.out _ (fun h => by omega)) (by omega) HI.out.bel.size ?_; intro v3 w3 ho3 hb3; have O3 := Lib.hid (And.intro ho3 hb3); clear ho3 hb3))
          go_roundw
          case rel => exact ⟨j + 1, k + 0, hjn, by go_num, by rw [seqAt_succ HX.out.1], Lib.hid (HI.out.next HX.out.1 HH.out (by rw [HM.out]) O3.out.1 O3.out.2)⟩
          case measure => simp [intOf]; omega
        · go_wp2_with (first
            | (go_at_call 13; refine CH.out.mono ?_; rintro e w2 ⟨rfl, rfl⟩)
            | (at_builtin; refine wpList_app wr bytesT rfl (.tmp 22) (.tmp 24) rfl w.heap.size u3 k _ rfl HI.out.ow (PA.map fun x => x.add 12) (m - 12) (cc - 12) (x.drop 12) rfl (R1.out _ (fun h => rfl)) (by omega) HI.out.bel.size ?_; intro v3 w3 ho3 hb3; have O3 := Lib.hid (And.intro ho3 hb3); clear ho3 hb3))
          go_roundw
          case rel => exact ⟨j + 1, k + (m - 12), hjn, by go_num, by rw [seqAt_succ HX.out.1], Lib.hid (HI.out.next HX.out.1 HH.out (by rw [HM.out]) O3.out.1 O3.out.2)⟩
          case measure => simp [intOf]; omega
      · rw [hdT_no hh] at CH
        have HH := Lib.hid hh
        clear hr hh hm hxl hx hlt
        go_wp2_with (go_at_call 13; refine CH.out.mono ?_; rintro e w2 ⟨rfl, rfl⟩)
        go_ret3
        have hj : joinL xs = (0, [], false) := joinL_no (fun s hg => HH.out (hg.2 j x HX.out.1).1)
        rw [hj]
        exact ⟨none, 0, 0, rfl, Rd.nil _ _, Nat.le_refl _, HI.out.bel⟩
    · obtain rfl : j = n := by omega
      have hT : xs.take j = xs := List.take_of_length_le (Nat.le_of_eq HL.out)
      have ho := HI.out.ow
      rw [hT] at ho
      have hk : k ≤ 46000 := by have := HI.out.kk; omega
      obtain ⟨BA, bc, hbv, hbc, hbm, hbr⟩ := Rd.of_own ho rfl
      subst hbv
      have CS := Lib.hid (PSplit_any BA k bc (tails xs) (seqAt xs j) wr hbr hbc (by omega))
      have HBR := Lib.hid (And.intro hbr hbc)
      have hall : ∀ x ∈ xs, HdOk x := fun x hx => by
        obtain ⟨i, hi, e⟩ := List.getElem_of_mem hx
        exact HI.out.hd i x (by have := HL.out; omega) (by rw [List.getElem?_eq_getElem hi, e])
      have HJ : Hid (joinL xs = if xs = splitL (seqAt xs j) (tails xs) then (seqAt xs j, tails xs, true) else (0, [], false)) := Lib.hid (by
        have hgi := good_iff xs
        rw [HL.out] at hgi
        unfold joinL
        rw [HL.out]
        by_cases hq : xs = splitL (seqAt xs j) (tails xs)
        · rw [if_pos hq, if_pos (hgi.1 ⟨hall, hq⟩)]
        · rw [if_neg hq, if_neg (fun hg => hq (hgi.2 hg).2)])
      obtain ⟨ys, hys⟩ : ∃ ys, ys = splitL (seqAt xs j) (tails xs) := ⟨_, rfl⟩
      rw [← hys] at CS HJ
      obtain ⟨sq, hsq⟩ : ∃ sq, sq = seqAt xs j := ⟨_, rfl⟩
      rw [← hsq] at CS HJ ⊢
      have HB := Lib.hid HI.out.bel
      have hql : ys.length ≤ 1000000 := by
        rw [hys]
        unfold splitL
        have := needN_bd (tails xs).length
        split
        · simp
        · rw [pcs_len]; omega
      clear hys hsq hall hbr hbc hbm ho hT hk HI
      by_cases hq : xs = ys
      · rw [if_pos hq] at HJ
        have HQ := Lib.hid hq
        clear hq
        go_wp2_with (first
          | (go_at_call 7; refine CS.out.mono ?_; rintro e w2 ⟨SA, sn, sc, rfl, hsc, hsv, hsb⟩
             have hsn := hsv.len
             have CE := Lib.hid (EqF_any A SA j sn c sc xs ys w2 (H.out.below (HB.out.trans (hsb.mono HB.out.size))) hsv (by omega) (by omega))
             rw [decide_eq_true HQ.out] at CE
             have R2 := Lib.hid (And.intro (HBR.out.1.below (Nat.le_refl _) hsb) (HB.out.trans (hsb.mono HB.out.size)))
             clear hsn hsv hsb hsc)
          | (go_at_call 20; refine CE.out.mono ?_; rintro e w3 ⟨rfl, rfl⟩))
        go_ret3
        rw [HJ.out]
        exact ⟨BA, k, bc, rfl, R2.out.1, HBR.out.2, R2.out.2⟩
      · rw [if_neg hq] at HJ
        have HQ := Lib.hid hq
        clear hq
        go_wp2_with (first
          | (go_at_call 7; refine CS.out.mono ?_; rintro e w2 ⟨SA, sn, sc, rfl, hsc, hsv, hsb⟩
             have hsn := hsv.len
             have CE := Lib.hid (EqF_any A SA j sn c sc xs ys w2 (H.out.below (HB.out.trans (hsb.mono HB.out.size))) hsv (by omega) (by omega))
             rw [decide_eq_false HQ.out] at CE
             have R2 := Lib.hid (HB.out.trans (hsb.mono HB.out.size))
             clear hsn hsv hsb hsc)
          | (go_at_call 20; refine CE.out.mono ?_; rintro e w3 ⟨rfl, rfl⟩))
        go_ret3
        rw [HJ.out]
        exact ⟨none, 0, 0, rfl, Rd.nil _ _, Nat.le_refl _, R2.out⟩
end Go.Proofs.Ytndnmcdbfjgglaa
