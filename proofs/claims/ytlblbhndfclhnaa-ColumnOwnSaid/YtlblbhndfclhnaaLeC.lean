/- The contract of the reference's Cut. -/
import Derived.Test.YtlblbhndfclhnaaNum
import Derived.Test.YtlblbhndfclhnaaBase
namespace Go.Proofs.Ytlblbhndfclhnaa
open Go.RowKit

theorem RCut_any (A : Option Addr) (n c : Nat) (l : List UInt8) (k : Int) (w : World) (hr : Rd w A n l) (hk : k ≤ 65535) :
    Calls Try.prog 16 #[.slice A n c, .int .i64 k] w fun e w' => ∃ v, e = .returned v ∧ w'.ownsRow w.heap.size 5 1 v k.toNat (cells (cut k.toNat l)) ∧ Below w.heap.size w w' := by
  go_enter Try.func16, Try.ntmps16
  go_wp2
  go_loopw [5, 6] (fun v i wr => ∃ j : Nat, j ≤ k.toNat ∧ i = .int .i64 j ∧ wr.ownsRow w.heap.size 5 1 v j (cells (cut j l)) ∧ Below w.heap.size w wr) (fun _ i _ => k.toNat - (intOf i).toNat)
  case atStart => exact ⟨0, Nat.zero_le _, rfl, World.ownsRow_nil _ _ _ _, Below.refl _ _⟩
  case round =>
    obtain ⟨j, hj, rfl, hown1, hb1⟩ := hrel
    have hs := hb1.size
    by_cases hlt : j < k.toNat
    · have hR : Rd (wr.alloc (.cells #[.int .u8 (l.getD j 0).toNat] 5)) (some ⟨wr.heap.size, 0, none⟩) 1 [l.getD j 0] := Rd.new wr 5 [l.getD j 0] (0, 0)
      by_cases hjn : j < n
      · obtain ⟨b, o, rfl, _, hc⟩ := (hr.below (Nat.le_refl _) hb1).at_ hjn
        have e1 : l[j]'(by have := hr.1; omega) = l.getD j 0 := by simp [List.getD, List.getElem?_eq_getElem (show j < l.length by have := hr.1; omega)]
        rw [e1] at hc
        obtain ⟨z, hz⟩ : ∃ z, z = l.getD j 0 := ⟨_, rfl⟩
        rw [← hz] at hR hc
        have HZ := Lib.hid hz
        clear hz e1
        go_wp2_with (at_builtin; refine wpList_app _ bytesT rfl (.tmp 23) (.tmp 25) rfl w.heap.size _ j _ rfl (hown1.alloc _) _ 1 1 [z] rfl hR (by omega) (by simp; omega) ?_; intro v2 w2 hown2 hb2)
        go_roundw
        case rel => exact ⟨j + 1, hlt, by go_num, by rw [cut_succ, ← HZ.out, cells_append]; exact hown2, (hb1.alloc (by omega) _).trans hb2⟩
        case measure => simp [intOf]; omega
      · have e1 : l.getD j 0 = 0 := by simp [List.getD, List.getElem?_eq_none (show l.length ≤ j by have := hr.1; omega)]
        rw [e1] at hR
        have HZ := Lib.hid e1
        clear e1
        go_wp2_with (at_builtin; refine wpList_app _ bytesT rfl (.tmp 23) (.tmp 25) rfl w.heap.size _ j _ rfl (hown1.alloc _) _ 1 1 [0] rfl hR (by omega) (by simp; omega) ?_; intro v2 w2 hown2 hb2)
        go_roundw
        case rel => exact ⟨j + 1, hlt, by go_num, by rw [cut_succ, HZ.out, cells_append]; exact hown2, (hb1.alloc (by omega) _).trans hb2⟩
        case measure => simp [intOf]; omega
    · go_wp2
      go_ret
      have : j = k.toNat := by omega
      subst this
      exact ⟨_, rfl, hown1, hb1⟩

end Go.Proofs.Ytlblbhndfclhnaa
