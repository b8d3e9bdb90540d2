/- The law's own example. -/
import Derived.Test.YtpideglbhllofaaLe5
namespace Go.Proofs.Ytpideglbhllofaa
open Go.RowKit

theorem Put_258 (w : World) :
    Calls Try.prog 7 #[.slice none 0 0, .int .i64 2, .int .i64 258] w fun e w' => ∃ v, e = .returned v ∧ w'.ownsRow w.heap.size 5 1 v 2 (cells [2, 1]) ∧ Below w.heap.size w w' :=
  (Put_any none 0 0 [] 2 258 w (Rd.nil _ _) (by omega)).mono fun _ _ ⟨v, he, h, hb⟩ => by
    have e1 : wd 2 = 2 := by decide
    have e2 : numB 2 258 = [2, 1] := by decide
    rw [e1, e2] at h
    exact ⟨v, he, h, hb⟩
theorem Get_255 (w : World) (A : Option Addr) (hr : Rd w A 1 [255]) :
    Calls Try.prog 13 #[.slice A 1 1, .int .i64 0, .int .i64 1] w fun e w' => e = .returned (.tuple #[.int .i64 255, .bool true]) ∧ w = w' :=
  (Get_yes A 1 1 [255] (0 : Nat) 1 w hr (by omega) (by omega) (by decide)).mono fun _ _ h => by
    have e1 : getV ((List.drop 0 [255]).take (wd 1)) = 255 := by rw [getV_in _ (by decide)]; decide
    rw [e1] at h
    exact h

theorem live_any (w : World) : Calls Try.prog 5 #[] w fun e w' => e = .returned (.bool true) ∧ Below w.heap.size w w' := by
  have hR : Rd (w.alloc (.cells #[.int .u8 255] 5)) (some ⟨w.heap.size, 0, none⟩) 1 [255] := Rd.new w 5 [255] (0, 0)
  go_enter Try.func5, Try.ntmps5
  go_wp2_with (first
    | (go_at_call 13; refine (Get_255 _ _ hR).mono ?_; rintro e w' ⟨rfl, rfl⟩)
    | (go_at_call 7; refine (Put_258 _).mono ?_; rintro e w1 ⟨v1, rfl, hown1, hb1⟩; obtain ⟨A1, c1, rfl, _, _, hr1⟩ := Rd.of_own hown1 rfl)
    | (go_at_call 6; refine (Same_yes A1 _ 2 c1 2 2 [2, 1] _ (hr1.alloc _) (Rd.new w1 5 [2, 1] (0, 0))).mono ?_; rintro e w' ⟨rfl, rfl⟩))
  go_ret
  exact ⟨rfl, (((Below.refl _ _).alloc (Nat.le_refl _) _).trans (hb1.mono (by simp))).alloc (by have := hb1.size; simp at this; omega) _⟩
end Go.Proofs.Ytpideglbhllofaa
