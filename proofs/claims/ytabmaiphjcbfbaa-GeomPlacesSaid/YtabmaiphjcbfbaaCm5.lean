/- The contracts of Find, the reference's Find. -/
import Derived.Test.YtabmaiphjcbfbaaCm4
import Derived.Test.YtabmaiphjcbfbaaCmS
import Derived.Test.YtabmaiphjcbfbaaCmSR
import Derived.Test.YtabmaiphjcbfbaaCmMu
namespace Go.Proofs.Ytabmaiphjcbfbaa
open Go.RowKit
set_option linter.unusedVariables false

section
variable (lg pg en gn : Int) (A : Option Addr) (n cap : Nat) (ks : List Kd) (w : World)


theorem RFind_any (h : KRd w A n ks) (hn : n ≤ 1000000) (s : ByteArray) :
    Calls Try.prog 27 #[cv lg pg en gn A n cap, .string s] w fun e w' => e = .returned (.tuple #[.int .i64 (findK ks s).1, .bool (findK ks s).2]) ∧ Below w.heap.size w w' := by
  obtain ⟨w1, hw1⟩ : ∃ w1, w1 = w.alloc (.cells (cc lg pg en gn A n cap) 24) := ⟨_, rfl⟩
  have C1 := CAt.new h lg pg en gn cap
  rw [← hw1] at C1
  obtain ⟨g, hg⟩ : ∃ g, g = w.heap.size := ⟨_, rfl⟩
  rw [← hg] at C1
  have c4 := C1.c4
  have hl := h.1
  have K1 := Lib.hid C1
  have HG := Lib.hid hg
  clear h hg C1
  go_enter Try.func27, Try.ntmps27
  go_wp2_with (rw [← hw1, ← HG.out]; clear hw1)
  go_loop [6] (fun i => ∃ j : Nat, j ≤ n ∧ i = .int .i64 j ∧ First ks s j) (fun i => n - (intOf i).toNat)
  case atStart => exact ⟨0, Nat.zero_le _, rfl, First.zero _ _⟩
  case round =>
    obtain ⟨j, hj, rfl, hf⟩ := hrel
    by_cases hlt : j < n
    · obtain ⟨b, o, s', z, rfl, _, k0, k1, hl', hk⟩ := K1.out.rd.at_ hlt
      have hsn := First.succ (s := s) hl'
      rw [hk] at hsn
      by_cases hss : s' = s
      · subst hss
        have hfy := findK_yes ks s' j hl' hf (by rw [hk])
        have HFY := Lib.hid hfy
        clear hsn hk hf hfy
        go_wp2
        go_ret2
        rw [HFY.out]
        exact ⟨rfl, K1.out.bel⟩
      · have hbe : (s'.toList == s.toList) = false := by rw [toList_inj]; exact decide_eq_false hss
        have HF := Lib.hid (hsn.2 ⟨hf, hss⟩)
        clear hsn hk hf hss
        go_wp2
        go_round
        case rel => exact ⟨j + 1, hlt, by go_num, HF.out⟩
        case measure => simp [intOf]; omega
    · have hfn := findK_no ks s (fun k hk => hf k (by rw [List.take_of_length_le (by omega)]; exact hk))
      have HFN := Lib.hid hfn
      clear hf hfn
      go_wp2
      go_ret2
      rw [HFN.out]
      exact ⟨rfl, K1.out.bel⟩
end
end Go.Proofs.Ytabmaiphjcbfbaa
