/- The contract of bytes.Clone. -/
import Derived.Test.YtieinkndcbobfaaBase
import Derived.Carry
import Derived.Lib.SliceRun
namespace Go.Proofs.Ytieinkndcbobfaa
open Go.RowKit

theorem sl_nil_eq (w : World) (a : Option Addr) (n c n' c' : Nat) : (binOp .eql 22 (.slice a n c) (.slice none n' c')).run Try.prog w = .ok (.bool a.isNone) w := Lib.run_eql_slice_nil w _ _ a n c n' c' Try.underlying22

theorem clone_any (A : Option Addr) (n c : Nat) (l : List UInt8) (w : World) (hr : Rd w A n l) (hn : Hid (n ≤ 140737488355328)) :
    Calls Try.prog 23 #[.slice A n c] w fun e w' => ∃ v, e = .returned v ∧ w'.ownsRow w.heap.size 5 1 v n (cells l) ∧ Below w.heap.size w w' := by
  rcases A with _ | ad
  · have h0 : n = 0 := by
      rcases Nat.eq_zero_or_pos n with h0 | h0
      · exact h0
      · obtain ⟨_, _, e, _⟩ := hr.2 h0
        cases e
    subst h0
    have hl : l = [] := List.eq_nil_of_length_eq_zero hr.1
    subst hl
    clear hr
    have q := sl_nil_eq
    go_enter Try.func23, Try.ntmps23
    go_wp2
    go_ret
    exact ⟨_, rfl, World.ownsRow_nil _ _ _ _, Below.refl _ _⟩
  · have ho := own_empty w w.heap.size 5 (Nat.le_refl _)
    have hr1 := hr.alloc (.cells #[] 5)
    clear hr
    have q := sl_nil_eq
    go_enter Try.func23, Try.ntmps23
    go_wp2_with (at_builtin; refine wpList_app _ bytesT rfl (.tmp 5) (.tmp 6) rfl w.heap.size _ 0 [] rfl ho _ n c l rfl hr1 (by have := hn.out; omega) (by simp) ?_; intro v2 w2 ho2 hb2; rw [Nat.zero_add, List.nil_append] at ho2)
    go_ret
    exact ⟨_, rfl, ho2, ((Below.refl _ _).alloc (Nat.le_refl _) _).trans hb2⟩
end Go.Proofs.Ytieinkndcbobfaa
