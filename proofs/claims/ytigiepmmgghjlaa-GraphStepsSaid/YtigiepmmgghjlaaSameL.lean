/- The reference's SameList. -/
import Derived.Test.YtigiepmmgghjlaaInts
import Derived.BigQuiet
import Derived.Deep.QuietTactic
namespace Go.Proofs.Ytigiepmmgghjlaa
open Go.RowKit

theorem SameList_yes (w : World) (A A' : Option Addr) (n c c' : Nat) (zs : List Int) (h : IRd w A n zs) (h' : IRd w A' n zs) (hn : n ≤ 1000000) :
    Calls Try.prog 18 #[.slice A n c, .slice A' n c'] w fun e w' => e = .returned (.bool true) ∧ Below w.heap.size w w' := by
  have H := Lib.hid h
  have H' := Lib.hid h'
  clear h h'
  go_enter Try.func18, Try.ntmps18
  go_wp2
  go_loopw [5] (fun iv wq => ∃ j : Nat, j ≤ n ∧ iv = .int .i64 j ∧ Below w.heap.size w wq) (fun iv _ => n - (intOf iv).toNat)
  case atStart => exact ⟨0, Nat.zero_le _, rfl, Below.refl _ _⟩
  case round =>
    obtain ⟨j, hj, rfl, hB⟩ := hrel
    by_cases hjn : j < n
    · obtain ⟨b, o, hA, _, hc⟩ := (H.out.below hB).2 (by omega)
      obtain ⟨b', o', hA', _, hc'⟩ := (H'.out.below hB).2 (by omega)
      have k0 := hc j (by rw [H.out.1]; exact hjn)
      have k1 := hc' j (by rw [H'.out.1]; exact hjn)
      obtain ⟨z, hz⟩ : ∃ z, z = zs.getD j 0 := ⟨_, rfl⟩
      rw [← hz] at k0 k1
      have HB := Lib.hid hB
      clear hc hc' hz hB
      subst hA
      subst hA'
      go_wp2_with fail
      go_quiet (fail)
      go_wp2
      go_roundw
      case rel => exact ⟨j + 1, hjn, by go_num, ⟨HB.out.os, HB.out.tape, HB.out.output, HB.out.size, HB.out.block⟩⟩
      case measure => simp [intOf]; omega
    · have HB := Lib.hid hB
      clear hB
      go_wp2
      go_ret
      exact ⟨rfl, HB.out⟩
end Go.Proofs.Ytigiepmmgghjlaa
