/- The laws CrcSums and CrcParts, walked. -/
import Derived.Test.YtcmoekpmgejlbaaCrc3
namespace Go.Proofs.Ytcmoekpmgejlbaa
open Go.RowKit

theorem CrcSums_long (A : Option Addr) (n c : Nat) (x : Int) (w : World) (hn : n ≤ 9223372036854775807) (h : 300 < n) :
    Calls Try.prog 3 #[.slice A n c, .int .u8 x] w fun e w' => e = .returned (.bool true) ∧ Below w.heap.size w w' := by
  go_enter Try.func3, Try.ntmps3
  go_wp2_with (go_at_call 6; refine (live2_any _).mono ?_; rintro e w1 ⟨rfl, hb1⟩)
  go_ret
  exact ⟨rfl, hb1⟩

theorem CrcSums_short (A : Option Addr) (n c : Nat) (l : List UInt8) (x : UInt8) (w : World) (hr : Rd w A n l) (hn : n ≤ 300) :
    Calls Try.prog 3 #[.slice A n c, .int .u8 (x.toNat : Int)] w fun e w' => e = .returned (.bool true) ∧ Below w.heap.size w w' := by
  go_enter Try.func3, Try.ntmps3
  go_wp2_with fail
  refine (Start_any _).mono ?_
  rintro e w' ⟨rfl, rfl⟩
  go_wp2_with fail
  refine (Add_from A n c l _ hr (by omega)).mono ?_
  rintro e w' ⟨rfl, rfl⟩
  go_wp2_with fail
  refine (Of_one A n c l _ hr (by omega) _ rfl _ _).mono ?_
  rintro e w' ⟨rfl, rfl⟩
  go_wp2_with fail
  have hW1 := (Below.refl w.heap.size w).alloc (Nat.le_refl _) (.cells #[.slice A n c] 22)
  have q1 := hr.alloc (.cells #[.slice A n c] 22)
  refine (ROf_any A n c l _ q1 (by omega)).mono ?_
  rintro e w' ⟨rfl, rfl⟩
  go_wp2_with fail
  refine (End_sum l _).mono ?_
  rintro e w' ⟨rfl, rfl⟩
  go_wp2_with fail
  refine (ROf_any A n c l _ q1 (by omega)).mono ?_
  rintro e w' ⟨rfl, rfl⟩
  obtain ⟨w1, hw1⟩ : ∃ w1, w1 = w.alloc (.cells #[.slice A n c] 22) := ⟨_, rfl⟩
  rw [← hw1] at hW1 q1 ⊢
  clear hr hw1
  have s1 := hW1.size
  go_wp2_with fail
  refine (Add_more l [x] _ 1 1 _ (Rd.new w1 5 [x] (0, 0)) (by decide)).mono ?_
  rintro e w' ⟨rfl, rfl⟩
  have hW2 := hW1.alloc s1 (.cells (cells [x]).toArray 5)
  have q2 := q1.alloc (.cells (cells [x]).toArray 5)
  go_wp2_with fail
  refine (End_sum (l ++ [x]) _).mono ?_
  rintro e w' ⟨rfl, rfl⟩
  obtain ⟨w2, hw2⟩ : ∃ w2, w2 = w1.alloc (.cells (cells [x]).toArray 5) := ⟨_, rfl⟩
  rw [← hw2] at hW2 q2 ⊢
  clear hw2 hW1 q1 s1
  have s2 := hW2.size
  go_wp2_with (first
    | (at_builtin; refine wpList_app _ bytesT rfl (.tmp 32) (.tmp 33) rfl w2.heap.size _ 0 [] rfl (own_empty w2 _ _ (Nat.le_refl _)) A n c l rfl (q2.alloc _) (by omega) (by simp) ?_; intro v3 w3 ho3 hb3; have hB3 := ((Below.refl w2.heap.size w2).alloc (Nat.le_refl _) _).trans hb3; have s3 := hB3.size; clear hb3)
    | (at_builtin; refine wpList_app _ bytesT rfl (.tmp 34) (.tmp 36) rfl w2.heap.size v3 _ _ rfl (ho3.alloc _) _ 1 1 [x] rfl (Rd.new w3 _ [x] (0, 0)) (by omega) (by simp; omega) ?_; intro v4 w4 ho4 hb4))
  have hB4 := (hB3.alloc s3 _).trans hb4
  have hW4 := hW2.trans (hB4.mono s2)
  simp only [List.nil_append, Nat.zero_add] at ho4
  rw [← cells_append] at ho4
  obtain ⟨A4, c4, rfl, _, _, hr4⟩ := Rd.of_own ho4 rfl
  clear ho3 ho4 hb4 hB3 hB4 hW2 s3
  refine (ROf_any A4 _ c4 _ _ hr4 (by omega)).mono ?_
  rintro e w' ⟨rfl, rfl⟩
  go_wp2_with fail
  refine (live2_any _).mono ?_
  rintro e w5 ⟨rfl, hb5⟩
  go_wp2
  go_ret
  exact ⟨rfl, hW4.trans (hb5.mono hW4.size)⟩
theorem CrcParts_long (A A' A'' : Option Addr) (n n' n'' c c' c'' : Nat) (w : World) (hn : n ≤ 140737488355328) (hn' : n' ≤ 140737488355328) (hn'' : n'' ≤ 140737488355328) (h : 600 < n + n' + n'') :
    Calls Try.prog 4 #[.slice A n c, .slice A' n' c', .slice A'' n'' c''] w fun e w' => e = .returned (.bool true) ∧ Below w.heap.size w w' := by
  go_enter Try.func4, Try.ntmps4
  go_wp2_with (go_at_call 6; refine (live2_any _).mono ?_; rintro e w1 ⟨rfl, hb1⟩)
  go_ret
  exact ⟨rfl, hb1⟩

theorem CrcParts_short (A A' A'' : Option Addr) (n n' n'' c c' c'' : Nat) (l l' l'' : List UInt8) (w : World) (hr : Rd w A n l) (hr' : Rd w A' n' l') (hr'' : Rd w A'' n'' l'') (h : n + n' + n'' ≤ 600) :
    Calls Try.prog 4 #[.slice A n c, .slice A' n' c', .slice A'' n'' c''] w fun e w' => e = .returned (.bool true) ∧ Below w.heap.size w w' := by
  go_enter Try.func4, Try.ntmps4
  go_wp2_with (first
    | (at_builtin; refine wpList_app _ bytesT rfl (.tmp 18) (.tmp 19) rfl w.heap.size _ 0 [] rfl (own_empty w _ _ (Nat.le_refl _)) A n c l rfl (hr.alloc _) (by omega) (by simp) ?_; intro v1 w1 ho1 hb1; have hB1 := ((Below.refl w.heap.size w).alloc (Nat.le_refl _) _).trans hb1; have s1 := hB1.size; clear hb1)
    | (at_builtin; refine wpList_app _ bytesT rfl (.tmp 20) (.tmp 21) rfl w.heap.size v1 _ _ rfl ho1 A' n' c' l' rfl (hr'.below (Nat.le_refl _) hB1) (by omega) s1 ?_; intro v2 w2 ho2 hb2; have hB2 := hB1.trans hb2; have s2 := hB2.size; clear hb2 hB1 s1 ho1)
    | (at_builtin; refine wpList_app _ bytesT rfl (.tmp 22) (.tmp 23) rfl w.heap.size v2 _ _ rfl ho2 A'' n'' c'' l'' rfl (hr''.below (Nat.le_refl _) hB2) (by omega) s2 ?_; intro v3 w3 ho3 hb3; have hB3 := hB2.trans hb3; have s3 := hB3.size; clear hb3 hB2 s2 ho2))
  simp only [List.nil_append, Nat.zero_add] at ho3
  rw [← cells_append, ← cells_append, List.append_assoc] at ho3
  obtain ⟨A3, c3, rfl, _, _, q⟩ := Rd.of_own ho3 rfl
  have p := hr.below (Nat.le_refl _) hB3
  have p' := hr'.below (Nat.le_refl _) hB3
  have p'' := hr''.below (Nat.le_refl _) hB3
  clear ho3 hr hr' hr''
  refine (Of_three A A' A'' n n' n'' c c' c'' l l' l'' _ p p' p'' (by omega) (by omega) (by omega) _ rfl _ _).mono ?_
  rintro e w' ⟨rfl, rfl⟩
  obtain ⟨w4, hw4⟩ : ∃ w4, w4 = w3.alloc (.cells #[.slice A n c, .slice A' n' c', .slice A'' n'' c''] 22) := ⟨_, rfl⟩
  have hB4 := hB3.alloc s3 (.cells #[.slice A n c, .slice A' n' c', .slice A'' n'' c''] 22)
  have p4 := p.alloc (.cells #[.slice A n c, .slice A' n' c', .slice A'' n'' c''] 22)
  have p4' := p'.alloc (.cells #[.slice A n c, .slice A' n' c', .slice A'' n'' c''] 22)
  have p4'' := p''.alloc (.cells #[.slice A n c, .slice A' n' c', .slice A'' n'' c''] 22)
  have q4 := q.alloc (.cells #[.slice A n c, .slice A' n' c', .slice A'' n'' c''] 22)
  rw [← hw4] at hB4 p4 p4' p4'' q4 ⊢
  clear p p' p'' q hB3 s3 hw4
  have s4 := hB4.size
  go_wp2_with fail
  refine (Of_one A3 _ c3 _ _ q4 (by omega) _ rfl _ _).mono ?_
  rintro e w' ⟨rfl, rfl⟩
  obtain ⟨w5, hw5⟩ : ∃ w5, w5 = w4.alloc (.cells #[.slice A3 (n + n' + n'') c3] 22) := ⟨_, rfl⟩
  have hB5 := hB4.alloc s4 (.cells #[.slice A3 (n + n' + n'') c3] 22)
  have p5 := p4.alloc (.cells #[.slice A3 (n + n' + n'') c3] 22)
  have p5' := p4'.alloc (.cells #[.slice A3 (n + n' + n'') c3] 22)
  have p5'' := p4''.alloc (.cells #[.slice A3 (n + n' + n'') c3] 22)
  have q5 := q4.alloc (.cells #[.slice A3 (n + n' + n'') c3] 22)
  rw [← hw5] at hB5 p5 p5' p5'' q5 ⊢
  clear p4 p4' p4'' q4 hB4 s4 hw5
  have s5 := hB5.size
  go_wp2_with (first
    | (at_builtin; refine wpList_app _ bytesT rfl (.tmp 36) (.tmp 37) rfl w5.heap.size _ 0 [] rfl (own_empty w5 _ _ (Nat.le_refl _)) A' n' c' l' rfl (p5'.alloc _) (by omega) (by simp) ?_; intro v6 w6 ho6 hb6; have hB6 := ((Below.refl w5.heap.size w5).alloc (Nat.le_refl _) _).trans hb6; have s6 := hB6.size; clear hb6)
    | (at_builtin; refine wpList_app _ bytesT rfl (.tmp 38) (.tmp 39) rfl w5.heap.size v6 _ _ rfl ho6 A'' n'' c'' l'' rfl (p5''.below (Nat.le_refl _) hB6) (by omega) s6 ?_; intro v7 w7 ho7 hb7; have hB7 := hB6.trans hb7; have s7 := hB7.size; clear hb7 hB6 s6 ho6; simp only [List.nil_append, Nat.zero_add] at ho7; rw [← cells_append] at ho7; obtain ⟨A7, c7, rfl, _, _, r7⟩ := Rd.of_own ho7 rfl))
  have p7 := p5.below (Nat.le_refl _) hB7
  have q7 := q5.below (Nat.le_refl _) hB7
  have hW7 := hB5.trans (hB7.mono s5)
  clear ho7 p5 p5' p5'' q5 hB5 hB7 s5 s7
  have s7 := hW7.size
  refine (Of_three A none A7 n 0 _ c 0 c7 l [] _ _ p7 (Rd.nil _ _) r7 (by omega) (by omega) (by omega) _ rfl _ _).mono ?_
  rintro e w' ⟨rfl, rfl⟩
  obtain ⟨w8, hw8⟩ : ∃ w8, w8 = w7.alloc (.cells #[.slice A n c, .slice none 0 0, .slice A7 (n' + n'') c7] 22) := ⟨_, rfl⟩
  have hW8 := hW7.alloc s7 (.cells #[.slice A n c, .slice none 0 0, .slice A7 (n' + n'') c7] 22)
  have q8 := q7.alloc (.cells #[.slice A n c, .slice none 0 0, .slice A7 (n' + n'') c7] 22)
  rw [← hw8] at hW8 q8 ⊢
  clear hw8 hW7 q7 r7 p7 s7
  have s8 := hW8.size
  rw [List.nil_append]
  go_wp2_with fail
  refine (Of_one A3 _ c3 _ _ q8 (by omega) _ rfl _ _).mono ?_
  rintro e w' ⟨rfl, rfl⟩
  have hW9 := hW8.alloc s8 (.cells #[.slice A3 (n + n' + n'') c3] 22)
  go_wp2_with fail
  refine (Of_zero _).mono ?_
  rintro e w' ⟨rfl, rfl⟩
  go_wp2_with fail
  refine (live2_any _).mono ?_
  rintro e w10 ⟨rfl, hb10⟩
  go_wp2
  go_ret
  exact ⟨rfl, hW9.trans (hb10.mono hW9.size)⟩
end Go.Proofs.Ytcmoekpmgejlbaa
