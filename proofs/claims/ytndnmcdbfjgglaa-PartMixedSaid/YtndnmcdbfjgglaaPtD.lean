/- The contracts of slices.EqualFunc over slices of bytes, and of the document's Same of pieces. -/
import Derived.Test.YtndnmcdbfjgglaaPtA
import Derived.Test.YtndnmcdbfjgglaaByE
import Derived.Deep.RegionHeld3
namespace Go.Proofs.Ytndnmcdbfjgglaa
open Go.RowKit
set_option linter.unusedVariables false
set_option maxRecDepth 20000

section
variable {K K' : Nat → Prop} (A A' : Option Addr) (n n' c c' : Nat) (xs ys : List (List UInt8)) (w : World)
theorem all_same {xs ys : List (List UInt8)} {n : Nat} (hx : xs.length = n) (hy : ys.length = n) (h : ∀ i, i < n → xs[i]? = ys[i]?) : xs = ys := by
  apply List.ext_getElem?
  intro i
  by_cases hi : i < n
  · exact h i hi
  · rw [List.getElem?_eq_none (by omega), List.getElem?_eq_none (by omega)]
theorem EqF_any (h : PcsV K w A n xs) (h' : PcsV K' w A' n' ys) (hn : n ≤ 1000000) (hn' : n' ≤ 1000000) :
    Calls Try.prog 20 #[.slice A n c, .slice A' n' c', .func (.func 21) #[] #[]] w fun e w' => e = .returned (.bool (decide (xs = ys))) ∧ w = w' := by
  have H := Lib.hid (And.intro h h')
  have hl := h.len
  have hl' := h'.len
  have HL := Lib.hid (And.intro hl hl')
  by_cases hnn : n = n'
  · subst hnn
    clear h h' hl hl'
    go_enter Try.func20, Try.ntmps20
    go_wp2
    go_loop [17] (fun iv => ∃ j : Nat, j ≤ n ∧ iv = .int .i64 j ∧ Hid (∀ i, i < j → xs[i]? = ys[i]?)) (fun iv => n - (intOf iv).toNat)
    case atStart => exact ⟨0, Nat.zero_le _, rfl, Lib.hid (fun i hi => absurd hi (Nat.not_lt_zero _))⟩
    case round =>
      obtain ⟨j, hj, rfl, HS⟩ := hrel
      by_cases hjn : j < n
      · obtain ⟨x, hx⟩ : ∃ x, xs[j]? = some x := ⟨_, List.getElem?_eq_getElem (by rw [HL.out.1]; exact hjn)⟩
        obtain ⟨y, hy⟩ : ∃ y, ys[j]? = some y := ⟨_, List.getElem?_eq_getElem (by rw [HL.out.2]; exact hjn)⟩
        obtain ⟨b, o, PA, m, cc, rfl, hlt, hc, hr, hmc, _⟩ := H.out.1.cell hx
        obtain ⟨b', o', PA', m', cc', rfl, hlt', hc', hr', hmc', _⟩ := H.out.2.cell hy
        have CE := Lib.hid (Equal_any PA PA' m cc m' cc' x y w hr hr')
        have HX := Lib.hid (And.intro hx hy)
        clear hr hr' hmc hmc' hx hy hlt hlt'
        by_cases hxy : x = y
        · rw [decide_eq_true hxy] at CE
          go_wp2_with (go_at_call 21; refine CE.out.mono ?_; rintro e w2 ⟨rfl, rfl⟩)
          go_round
          case rel =>
            refine ⟨j + 1, hjn, by go_num, Lib.hid (fun i hi => ?_)⟩
            by_cases hij : i = j
            · subst hij; rw [HX.out.1, HX.out.2, hxy]
            · exact HS.out i (by omega)
          case measure => simp [intOf]; omega
        · rw [decide_eq_false hxy] at CE
          go_wp2_with (go_at_call 21; refine CE.out.mono ?_; rintro e w2 ⟨rfl, rfl⟩)
          go_ret
          refine ⟨ret_bool (decide_eq_false (fun e => hxy ?_)).symm, rfl⟩
          have h1 := HX.out.1
          rw [e, HX.out.2] at h1
          exact (Option.some.inj h1).symm
      · obtain rfl : j = n := by omega
        go_wp2
        go_ret
        exact ⟨ret_bool (decide_eq_true (all_same HL.out.1 HL.out.2 HS.out)).symm, rfl⟩
  · have hne : xs ≠ ys := fun e => hnn (by rw [← hl, ← hl', e])
    rw [decide_eq_false hne]
    clear h h' hl hl'
    go_enter Try.func20, Try.ntmps20
    go_wp2
    go_ret
    exact ⟨rfl, rfl⟩
end
end Go.Proofs.Ytndnmcdbfjgglaa
