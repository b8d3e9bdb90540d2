/- The contract of the document's Same of pieces. -/
import Derived.Test.YtndnmcdbfjgglaaPtD
import Derived.Deep.DeepCutAuto
namespace Go.Proofs.Ytndnmcdbfjgglaa
open Go.RowKit
set_option linter.unusedVariables false
set_option maxRecDepth 20000

section
variable {K K' : Nat → Prop} (A A' : Option Addr) (n n' c c' : Nat) (xs ys : List (List UInt8)) (w : World)
theorem RSameP_any (h : PcsV K w A n xs) (h' : PcsV K' w A' n' ys) (hn : n ≤ 1000000) (hn' : n' ≤ 1000000) :
    Calls Try.prog 8 #[.slice A n c, .slice A' n' c'] w fun e w' => e = .returned (.bool (decide (xs = ys))) ∧ Below w.heap.size w w' := by
  have H := Lib.hid (And.intro h h')
  have hl := h.len
  have hl' := h'.len
  have HL := Lib.hid (And.intro hl hl')
  by_cases hnn : n = n'
  · subst hnn
    clear h h' hl hl'
    go_enter Try.func8, Try.ntmps8
    go_wp2
    go_loopw [5] (fun iv wr => ∃ j : Nat, j ≤ n ∧ iv = .int .i64 j ∧ Hid (∀ i, i < j → xs[i]? = ys[i]?) ∧ Below w.heap.size w wr) (fun iv _ => n - (intOf iv).toNat)
    case atStart => exact ⟨0, Nat.zero_le _, rfl, Lib.hid (fun i hi => absurd hi (Nat.not_lt_zero _)), Below.refl _ _⟩
    case round =>
      obtain ⟨j, hj, rfl, HS, hb⟩ := hrel
      have HB := Lib.hid hb.drew
      by_cases hjn : j < n
      · obtain ⟨x, hx⟩ : ∃ x, xs[j]? = some x := ⟨_, List.getElem?_eq_getElem (by rw [HL.out.1]; exact hjn)⟩
        obtain ⟨y, hy⟩ : ∃ y, ys[j]? = some y := ⟨_, List.getElem?_eq_getElem (by rw [HL.out.2]; exact hjn)⟩
        have hbd : Below w.heap.size w wr.drew := hb.drew
        obtain ⟨b, o, PA, m, cc, rfl, hlt, hc, hr, hmc, _⟩ := (H.out.1.below hbd).cell hx
        obtain ⟨b', o', PA', m', cc', rfl, hlt', hc', hr', hmc', _⟩ := (H.out.2.below hbd).cell hy
        have CE := Lib.hid (Same_any PA PA' m cc m' cc' x y wr.drew hr hr')
        have HX := Lib.hid (And.intro hx hy)
        clear hr hr' hmc hmc' hx hy hlt hlt' hb hbd
        by_cases hxy : x = y
        · rw [decide_eq_true hxy] at CE
          go_upto_region 6 with fail
          go_region_held3 (fun W => W.cell? ⟨b, o + j, none⟩ = some (.slice PA m cc) ∧ W.cell? ⟨b', o' + j, none⟩ = some (.slice PA' m' cc')) (first | with_reducible exact ⟨hc, hc'⟩ | go_keep) (first | (go_at_call 11; refine CE.out.mono ?_; rintro e w2 ⟨rfl, rfl⟩))
          go_wp2
          go_roundw
          case rel =>
            refine ⟨j + 1, hjn, by go_num, Lib.hid (fun i hi => ?_), HB.out⟩
            by_cases hij : i = j
            · subst hij; rw [HX.out.1, HX.out.2, hxy]
            · exact HS.out i (by omega)
          case measure => simp [intOf]; omega
        · rw [decide_eq_false hxy] at CE
          go_upto_region 6 with fail
          go_region_held3 (fun W => W.cell? ⟨b, o + j, none⟩ = some (.slice PA m cc) ∧ W.cell? ⟨b', o' + j, none⟩ = some (.slice PA' m' cc')) (first | with_reducible exact ⟨hc, hc'⟩ | go_keep) (first | (go_at_call 11; refine CE.out.mono ?_; rintro e w2 ⟨rfl, rfl⟩))
          go_wp2
          go_ret
          refine ⟨ret_bool (decide_eq_false (fun e => hxy ?_)).symm, HB.out⟩
          have h1 := HX.out.1
          rw [e, HX.out.2] at h1
          exact (Option.some.inj h1).symm
      · obtain rfl : j = n := by omega
        go_wp2
        go_ret
        exact ⟨ret_bool (decide_eq_true (all_same HL.out.1 HL.out.2 HS.out)).symm, hb⟩
  · have hne : xs ≠ ys := fun e => hnn (by rw [← hl, ← hl', e])
    rw [decide_eq_false hne]
    clear h h' hl hl'
    go_enter Try.func8, Try.ntmps8
    go_wp2
    go_ret
    exact ⟨rfl, Below.refl _ _⟩
end
end Go.Proofs.Ytndnmcdbfjgglaa
