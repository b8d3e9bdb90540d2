/- The contract of crc's Of. -/
import Derived.Test.YtlafeobiodolbaaCrc2
namespace Go.Proofs.Ytlafeobiodolbaa
open Go.RowKit

/-- A row of slices of bytes, read as lists. -/
def Rds (w : World) (A : Option Addr) (k : Nat) (ls : List (List UInt8)) : Prop :=
  ls.length = k ∧ ∀ j (hj : j < ls.length), ∃ b o A' n c, A = some ⟨b, o, none⟩ ∧ n ≤ 1099511627776 ∧ w.cell? ⟨b, o + j, none⟩ = some (.slice A' n c) ∧ Rd w A' n (ls[j])

theorem Rds.nil (w : World) (A : Option Addr) : Rds w A 0 [] := ⟨rfl, fun _ h => absurd h (by simp)⟩

theorem Of_any (A : Option Addr) (k c : Nat) (ls : List (List UInt8)) (w : World) (hr : Rds w A k ls) (hk : k ≤ 1099511627776) :
    Calls Try.prog 32 #[.slice A k c] w fun e w' => e = .returned (.int .u32 (sumL ls.flatten : Nat)) ∧ w = w' := by
  go_enter Try.func32, Try.ntmps32
  go_wp2_with (go_at_call 39; refine (Start_any _).mono ?_; rintro e w' ⟨rfl, rfl⟩)
  go_loop [3, 9] (fun v i => ∃ j : Nat, j ≤ k ∧ i = .int .i64 j ∧ v = .int .u32 (addL 4294967295 (ls.take j).flatten : Nat)) (fun _ i => k - (intOf i).toNat)
  case atStart => exact ⟨0, Nat.zero_le _, rfl, rfl⟩
  case round =>
    obtain ⟨j, hj, rfl, rfl⟩ := hrel
    have ha := addL_lt (ls.take j).flatten (s := 4294967295) (by decide)
    by_cases hlt : j < k
    · obtain ⟨b, o, A', n, c', rfl, hn, hcell, hR⟩ := hr.2 j (by have := hr.1; omega)
      have hsn := take_snoc' ls j (by have := hr.1; omega)
      have HS := Lib.hid hsn
      clear hsn
      go_wp2_with (go_at_call 40; refine (Add_any _ _ _ _ _ _ ha hR hn).mono ?_; rintro e w' ⟨rfl, rfl⟩)
      go_round
      case rel => exact ⟨j + 1, hlt, by go_num, by rw [HS.out, List.flatten_append, addL_append]; simp⟩
      case measure => simp [intOf]; omega
    · go_wp2_with (go_at_call 41; refine (End_any _ _ ha).mono ?_; rintro e w' ⟨rfl, rfl⟩)
      go_ret
      exact ⟨ret_int (by rw [List.take_of_length_le (by have := hr.1; omega)]; rfl), rfl⟩

theorem Rds.one (w : World) (A : Option Addr) (n c : Nat) (l : List UInt8) (h : Rd w A n l) (hn : n ≤ 1099511627776) (T : TypeId) (fr : Nat × Nat) :
    Rds (w.alloc (.cells #[.slice A n c] T fr)) (some ⟨w.heap.size, 0, none⟩) 1 [l] :=
  ⟨rfl, fun j hj => by
    obtain rfl : j = 0 := by simp at hj; omega
    refine ⟨_, _, A, n, c, rfl, hn, ?_, h.alloc _⟩
    have h0 : (w.alloc (.cells #[.slice A n c] T fr)).heap[w.heap.size]? = some (.cells #[.slice A n c] T fr) := by
      show (w.heap.push _)[w.heap.size]? = _
      simp
    rw [cell_of_row _ w.heap.size (0 + 0) _ T fr h0]
    rfl⟩
theorem Rds.two (w : World) (A A' : Option Addr) (n n' c c' : Nat) (l l' : List UInt8) (h : Rd w A n l) (h' : Rd w A' n' l') (hn : n ≤ 1099511627776) (hn' : n' ≤ 1099511627776) (T : TypeId) (fr : Nat × Nat) :
    Rds (w.alloc (.cells #[.slice A n c, .slice A' n' c'] T fr)) (some ⟨w.heap.size, 0, none⟩) 2 [l, l'] := by
  have h0 : (w.alloc (.cells #[.slice A n c, .slice A' n' c'] T fr)).heap[w.heap.size]? = some (.cells #[.slice A n c, .slice A' n' c'] T fr) := by
    show (w.heap.push _)[w.heap.size]? = _
    simp
  refine ⟨rfl, fun j hj => ?_⟩
  obtain rfl | rfl : j = 0 ∨ j = 1 := by simp at hj; omega
  · exact ⟨_, _, A, n, c, rfl, hn, by rw [cell_of_row _ w.heap.size (0 + 0) _ T fr h0]; rfl, h.alloc _⟩
  · exact ⟨_, _, A', n', c', rfl, hn', by rw [cell_of_row _ w.heap.size (0 + 1) _ T fr h0]; rfl, h'.alloc _⟩
theorem Rds.three (w : World) (A A' A'' : Option Addr) (n n' n'' c c' c'' : Nat) (l l' l'' : List UInt8) (h : Rd w A n l) (h' : Rd w A' n' l') (h'' : Rd w A'' n'' l'') (hn : n ≤ 1099511627776) (hn' : n' ≤ 1099511627776) (hn'' : n'' ≤ 1099511627776) (T : TypeId) (fr : Nat × Nat) :
    Rds (w.alloc (.cells #[.slice A n c, .slice A' n' c', .slice A'' n'' c''] T fr)) (some ⟨w.heap.size, 0, none⟩) 3 [l, l', l''] := by
  have h0 : (w.alloc (.cells #[.slice A n c, .slice A' n' c', .slice A'' n'' c''] T fr)).heap[w.heap.size]? = some (.cells #[.slice A n c, .slice A' n' c', .slice A'' n'' c''] T fr) := by
    show (w.heap.push _)[w.heap.size]? = _
    simp
  refine ⟨rfl, fun j hj => ?_⟩
  obtain rfl | rfl | rfl : j = 0 ∨ j = 1 ∨ j = 2 := by simp at hj; omega
  · exact ⟨_, _, A, n, c, rfl, hn, by rw [cell_of_row _ w.heap.size (0 + 0) _ T fr h0]; rfl, h.alloc _⟩
  · exact ⟨_, _, A', n', c', rfl, hn', by rw [cell_of_row _ w.heap.size (0 + 1) _ T fr h0]; rfl, h'.alloc _⟩
  · exact ⟨_, _, A'', n'', c'', rfl, hn'', by rw [cell_of_row _ w.heap.size (0 + 2) _ T fr h0]; rfl, h''.alloc _⟩

theorem Of_one (A : Option Addr) (n c : Nat) (l : List UInt8) (w : World) (h : Rd w A n l) (hn : n ≤ 1099511627776) (g : Nat) (hg : g = w.heap.size) (T : TypeId) (fr : Nat × Nat) :
    Calls Try.prog 32 #[.slice (some ⟨g, 0, none⟩) 1 1] (w.alloc (.cells #[.slice A n c] T fr)) fun e w' => e = .returned (.int .u32 (sumL l : Nat)) ∧ w.alloc (.cells #[.slice A n c] T fr) = w' := by
  subst hg
  exact (Of_any _ 1 1 [l] _ (Rds.one w A n c l h hn T fr) (by decide)).mono fun _ _ hh => by simpa using hh
theorem Of_two (A A' : Option Addr) (n n' c c' : Nat) (l l' : List UInt8) (w : World) (h : Rd w A n l) (h' : Rd w A' n' l') (hn : n ≤ 1099511627776) (hn' : n' ≤ 1099511627776) (g : Nat) (hg : g = w.heap.size) (T : TypeId) (fr : Nat × Nat) :
    Calls Try.prog 32 #[.slice (some ⟨g, 0, none⟩) 2 2] (w.alloc (.cells #[.slice A n c, .slice A' n' c'] T fr)) fun e w' => e = .returned (.int .u32 (sumL (l ++ l') : Nat)) ∧ w.alloc (.cells #[.slice A n c, .slice A' n' c'] T fr) = w' := by
  subst hg
  exact (Of_any _ 2 2 [l, l'] _ (Rds.two w A A' n n' c c' l l' h h' hn hn' T fr) (by decide)).mono fun _ _ hh => by simpa using hh
theorem Of_three (A A' A'' : Option Addr) (n n' n'' c c' c'' : Nat) (l l' l'' : List UInt8) (w : World) (h : Rd w A n l) (h' : Rd w A' n' l') (h'' : Rd w A'' n'' l'') (hn : n ≤ 1099511627776) (hn' : n' ≤ 1099511627776) (hn'' : n'' ≤ 1099511627776)
    (g : Nat) (hg : g = w.heap.size) (T : TypeId) (fr : Nat × Nat) :
    Calls Try.prog 32 #[.slice (some ⟨g, 0, none⟩) 3 3] (w.alloc (.cells #[.slice A n c, .slice A' n' c', .slice A'' n'' c''] T fr)) fun e w' => e = .returned (.int .u32 (sumL (l ++ (l' ++ l'')) : Nat)) ∧ w.alloc (.cells #[.slice A n c, .slice A' n' c', .slice A'' n'' c''] T fr) = w' := by
  subst hg
  exact (Of_any _ 3 3 [l, l', l''] _ (Rds.three w A A' A'' n n' n'' c c' c'' l l' l'' h h' h'' hn hn' hn'' T fr) (by decide)).mono fun _ _ hh => by simpa using hh
theorem Of_zero (w : World) : Calls Try.prog 32 #[.slice none 0 0] w fun e w' => e = .returned (.int .u32 0) ∧ w = w' :=
  (Of_any none 0 0 [] w (Rds.nil _ _) (by decide)).mono fun _ _ h => h

theorem End_sum (l : List UInt8) (w : World) : Calls Try.prog 41 #[.int .u32 (addL 4294967295 l : Nat)] w fun e w' => e = .returned (.int .u32 (sumL l : Nat)) ∧ w = w' :=
  End_any _ w (addL_lt l (by decide))
theorem Add_from (A : Option Addr) (n c : Nat) (l : List UInt8) (w : World) (hr : Rd w A n l) (hn : n ≤ 1099511627776) :
    Calls Try.prog 40 #[.int .u32 4294967295, .slice A n c] w fun e w' => e = .returned (.int .u32 (addL 4294967295 l : Nat)) ∧ w = w' :=
  Add_any 4294967295 A n c l w (by decide) hr hn
theorem Add_more (k l : List UInt8) (A : Option Addr) (n c : Nat) (w : World) (hr : Rd w A n l) (hn : n ≤ 1099511627776) :
    Calls Try.prog 40 #[.int .u32 (addL 4294967295 k : Nat), .slice A n c] w fun e w' => e = .returned (.int .u32 (addL 4294967295 (k ++ l) : Nat)) ∧ w = w' :=
  (Add_any _ A n c l w (addL_lt k (by decide)) hr hn).mono fun _ _ h => by rw [addL_append]; exact h
end Go.Proofs.Ytlafeobiodolbaa
