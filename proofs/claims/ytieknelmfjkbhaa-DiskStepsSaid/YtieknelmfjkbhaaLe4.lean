/- The contracts of Same, Cut and the reference's Cut. -/
import Derived.Test.YtieknelmfjkbhaaLe1
import Derived.Test.YtieknelmfjkbhaaBase
namespace Go.Proofs.Ytieknelmfjkbhaa
open Go.RowKit

theorem Same_yes (A A' : Option Addr) (n c n' c' : Nat) (l : List UInt8) (w : World) (h1 : Rd w A n l) (h2 : Rd w A' n' l) :
    Calls Try.prog 12 #[.slice A n c, .slice A' n' c'] w fun e w' => e = .returned (.bool true) ∧ w = w' := by
  have k1 := run_to_string 32 9 5 Try.underlying32 Try.underlying5 Try.underlying9 w A n c l h1
  have k2 := run_to_string 32 9 5 Try.underlying32 Try.underlying5 Try.underlying9 w A' n' c' l h2
  clear h1 h2
  go_enter Try.func12, Try.ntmps12
  go_wp2
  go_ret
  exact ⟨ret_bool (by simp), rfl⟩

theorem str_toList (l : List UInt8) : (str l).toList = l := by rw [ByteArray.toList_eq]; rfl

theorem Same_any (A A' : Option Addr) (n c n' c' : Nat) (l l' : List UInt8) (w : World) (h1 : Rd w A n l) (h2 : Rd w A' n' l') :
    Calls Try.prog 12 #[.slice A n c, .slice A' n' c'] w fun e w' => e = .returned (.bool (decide (l = l'))) ∧ w = w' := by
  have k1 := run_to_string 32 9 5 Try.underlying32 Try.underlying5 Try.underlying9 w A n c l h1
  have k2 := run_to_string 32 9 5 Try.underlying32 Try.underlying5 Try.underlying9 w A' n' c' l' h2
  clear h1 h2
  go_enter Try.func12, Try.ntmps12
  go_wp2
  go_ret
  exact ⟨ret_bool (by rw [str_toList, str_toList]; by_cases h : l = l' <;> simp [h]), rfl⟩

theorem RCut_any (A : Option Addr) (n c : Nat) (l : List UInt8) (k : Int) (w : World) (hr : Rd w A n l) (hk : k ≤ 65535) :
    Calls Try.prog 32 #[.slice A n c, .int .i64 k] w fun e w' => ∃ v, e = .returned v ∧ w'.ownsRow w.heap.size 5 1 v k.toNat (cells (cut k.toNat l)) ∧ Below w.heap.size w w' := by
  go_enter Try.func32, Try.ntmps32
  go_wp2
  go_loopw [5, 6] (fun v i wr => ∃ j : Nat, j ≤ k.toNat ∧ i = .int .i64 j ∧ wr.ownsRow w.heap.size 5 1 v j (cells (cut j l)) ∧ Below w.heap.size w wr) (fun _ i _ => k.toNat - (intOf i).toNat)
  case atStart => exact ⟨0, Nat.zero_le _, rfl, World.ownsRow_nil _ _ _ _, Below.refl _ _⟩
  case round =>
    obtain ⟨j, hj, rfl, hown1, hb1⟩ := hrel
    have hs := hb1.size
    by_cases hlt : j < k.toNat
    · have hR : Rd (wr.alloc (.cells #[.int .u8 (l.getD j 0).toNat] 5)) (some ⟨wr.heap.size, 0, none⟩) 1 [l.getD j 0] := Rd.new wr 5 [l.getD j 0] (0, 0)
      by_cases hjn : j < n
      · obtain ⟨b, o, rfl, _, hc⟩ := (hr.below (Nat.le_refl _) hb1).at_ hjn
        have e1 : l[j]'(by have := hr.1; omega) = l.getD j 0 := by simp [List.getD, List.getElem?_eq_getElem (show j < l.length by have := hr.1; omega)]
        rw [e1] at hc
        obtain ⟨z, hz⟩ : ∃ z, z = l.getD j 0 := ⟨_, rfl⟩
        rw [← hz] at hR hc
        have HZ := Lib.hid hz
        clear hz e1
        go_wp2_with (at_builtin; refine wpList_app _ bytesT rfl (.tmp 23) (.tmp 25) rfl w.heap.size _ j _ rfl (hown1.alloc _) _ 1 1 [z] rfl hR (by omega) (by simp; omega) ?_; intro v2 w2 hown2 hb2)
        go_roundw
        case rel => exact ⟨j + 1, hlt, by go_num, by rw [cut_succ, ← HZ.out, cells_append]; exact hown2, (hb1.alloc (by omega) _).trans hb2⟩
        case measure => simp [intOf]; omega
      · have e1 : l.getD j 0 = 0 := by simp [List.getD, List.getElem?_eq_none (show l.length ≤ j by have := hr.1; omega)]
        rw [e1] at hR
        have HZ := Lib.hid e1
        clear e1
        go_wp2_with (at_builtin; refine wpList_app _ bytesT rfl (.tmp 23) (.tmp 25) rfl w.heap.size _ j _ rfl (hown1.alloc _) _ 1 1 [0] rfl hR (by omega) (by simp; omega) ?_; intro v2 w2 hown2 hb2)
        go_roundw
        case rel => exact ⟨j + 1, hlt, by go_num, by rw [cut_succ, HZ.out, cells_append]; exact hown2, (hb1.alloc (by omega) _).trans hb2⟩
        case measure => simp [intOf]; omega
    · go_wp2
      go_ret
      have : j = k.toNat := by omega
      subst this
      exact ⟨_, rfl, hown1, hb1⟩

theorem Cut_full (A : Option Addr) (n c : Nat) (l : List UInt8) (k : Int) (w : World) (hr : Rd w A n l) (hk : k ≤ 65535) :
    Calls Try.prog 44 #[.slice A n c, .int .i64 k] w fun e w' => e = .returned (.slice (some ⟨w.heap.size, 0, none⟩) k.toNat k.toNat) ∧ w'.ownsRow w.heap.size 5 1 (.slice (some ⟨w.heap.size, 0, none⟩) k.toNat k.toNat) k.toNat (cells (cut k.toNat l)) ∧ Below w.heap.size w w' := by
  have e1 : min (max k 0) 65535 = ((k.toNat : Nat) : Int) := by omega
  have E1 := Lib.hid e1
  clear e1
  go_enter Try.func44, Try.ntmps44
  go_wp2_with (first
    | (go_at_call 49; refine (nearest_any _ _ _ _).mono ?_; rintro e w' ⟨rfl, rfl⟩; rw [E1.out])
    | (at_make; refine wpList_mkn _ bytesT rfl (.tmp 7) (.tmp 7) rfl w.heap.size .i64 .i64 _ _ k.toNat rfl rfl (by omega) (by omega) (by omega) (by unfold maxLen; omega) (by simp) ?_; intro w1 hown1 hb1)
    | (with_reducible refine wpList_cpy bytesT rfl (.tmp 9) (.tmp 10) rfl w.heap.size w.heap.size k.toNat _ rfl hown1 A n c l rfl (hr.below (Nat.le_refl _) hb1) ?_; intro w2 hown2 hb2))
  go_ret
  refine ⟨rfl, ?_, hb1.trans hb2⟩
  have e2 : splice (madeCells (Value.int .u8 0).cells (k.toNat * 1)).toList 0 (cells (l.take k.toNat)) = cells (cut k.toNat l) := cut_made _ _
  rw [← e2]
  exact hown2
theorem Cut_any (A : Option Addr) (n c : Nat) (l : List UInt8) (k : Int) (w : World) (hr : Rd w A n l) (hk : k ≤ 65535) :
    Calls Try.prog 44 #[.slice A n c, .int .i64 k] w fun e w' => ∃ v, e = .returned v ∧ w'.ownsRow w.heap.size 5 1 v k.toNat (cells (cut k.toNat l)) ∧ Below w.heap.size w w' :=
  (Cut_full A n c l k w hr hk).mono fun _ _ ⟨he, ho, hb⟩ => ⟨_, he, ho, hb⟩
end Go.Proofs.Ytieknelmfjkbhaa
