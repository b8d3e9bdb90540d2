/- The law CrcBursts, walked. -/
import Derived.Test.YtcmoekpmgejlbaaCrc3
namespace Go.Proofs.Ytcmoekpmgejlbaa
open Go.RowKit

theorem CrcBursts_out (A : Option Addr) (n c : Nat) (p u s : Int) (w : World) (hn : n ≤ 140737488355328) (hp : -9223372036854775808 ≤ p) (hp' : p ≤ 9223372036854775807) (h : 600 < n ∨ p < 0 ∨ (n : Int) - 5 < p ∨ u = 0) :
    Calls Try.prog 5 #[.slice A n c, .int .i64 p, .int .u32 u, .int .u8 s] w fun e w' => e = .returned (.bool true) ∧ Below w.heap.size w w' := by
  by_cases h1 : 600 < n
  · clear h
    go_enter Try.func5, Try.ntmps5
    go_wp2_with (go_at_call 6; refine (live2_any _).mono ?_; rintro e w1 ⟨rfl, hb1⟩)
    go_ret
    exact ⟨rfl, hb1⟩
  by_cases h2 : p < 0
  · clear h
    go_enter Try.func5, Try.ntmps5
    go_wp2_with (go_at_call 6; refine (live2_any _).mono ?_; rintro e w1 ⟨rfl, hb1⟩)
    go_ret
    exact ⟨rfl, hb1⟩
  by_cases h3 : (n : Int) - 5 < p
  · clear h
    go_enter Try.func5, Try.ntmps5
    go_wp2_with (go_at_call 6; refine (live2_any _).mono ?_; rintro e w1 ⟨rfl, hb1⟩)
    go_ret
    exact ⟨rfl, hb1⟩
  obtain rfl : u = 0 := by omega
  clear h
  go_enter Try.func5, Try.ntmps5
  go_wp2_with (go_at_call 6; refine (live2_any _).mono ?_; rintro e w1 ⟨rfl, hb1⟩)
  go_ret
  exact ⟨rfl, hb1⟩

theorem turn_byte (b : UInt8) (W j x : Nat) (hx : x = W / 256 ^ j) : bits .xor .u8 (b.toNat : Int) ((x : Int) % 256) = ((b ^^^ wideB W j).toNat : Int) := by
  have h := u8_xor_nat b.toNat (x % 256) b.toNat_lt (by omega)
  rw [UInt8.toNat_xor]
  have e : (wideB W j).toNat = x % 256 := by
    unfold wideB
    rw [UInt8.toNat_ofNat', ← hx]
    omega
  rw [e]
  exact h

theorem CrcBursts_in (A : Option Addr) (n c : Nat) (l : List UInt8) (p u s : Nat) (w : World) (hr : Rd w A n l) (hn : n ≤ 600) (hp : p + 5 ≤ n) (hu : 0 < u) (hu' : u < 4294967296) (hs : s < 256) :
    Calls Try.prog 5 #[.slice A n c, .int .i64 p, .int .u32 u, .int .u8 s] w fun e w' => e = .returned (.bool true) ∧ Below w.heap.size w w' := by
  have hu0 : ((u : Int) == 0) = false := by simp; omega
  go_enter Try.func5, Try.ntmps5
  go_wp2_with (at_builtin; refine wpList_app _ bytesT rfl (.tmp 31) (.tmp 32) rfl w.heap.size _ 0 [] rfl (own_empty w _ _ (Nat.le_refl _)) A n c l rfl (hr.alloc _) (by omega) (by simp) ?_; intro v1 w1 ho1 hb1)
  simp only [List.nil_append, Nat.zero_add] at ho1
  have hB1 := ((Below.refl w.heap.size w).alloc (Nat.le_refl _) _).trans hb1
  have hR1 := hr.below (Nat.le_refl _) hB1
  obtain ⟨g, c1, rfl, hg, _⟩ := ho1.form (by omega)
  have hW : u * 2 ^ (s % 8) < 1099511627776 := by
    have h1 : 2 ^ (s % 8) ≤ 2 ^ 7 := Nat.pow_le_pow_right (by decide) (by omega)
    exact Nat.lt_of_le_of_lt (Nat.mul_le_mul (Nat.le_of_lt_succ hu') h1) (by decide)
  obtain ⟨W, hWe⟩ : ∃ W, W = u * 2 ^ (s % 8) := ⟨_, rfl⟩
  rw [← hWe] at hW
  have HWE := Lib.hid hWe
  clear hWe hb1
  go_loopw [10, 11] (fun v i wr => ∃ j x : Nat, j ≤ 5 ∧ x = W / 256 ^ j ∧ i = .int .i64 j ∧ v = .int .u64 x ∧ wr.ownsRow w.heap.size 5 1 (.slice (some ⟨g, 0, none⟩) n c1) n (cells (turnL l p W j)) ∧ Below w.heap.size w wr) (fun _ i _ => 5 - (intOf i).toNat)
  case atStart =>
    refine ⟨0, W, by omega, by simp, rfl, ?_, ?_, hB1⟩
    · rw [HWE.out, IntKind.wrap_u64]
      rw [HWE.out] at hW
      congr 1
      rw [show ((u : Int) * 2 ^ (s % 8)) = ((u * 2 ^ (s % 8) : Nat) : Int) from by simp]
      omega
    · rw [turnL_zero]
      exact ho1
  case round =>
    obtain ⟨j, x, hj, hx, rfl, rfl, ho2, hB2⟩ := hrel
    have hx1 : x < 1099511627776 := by rw [hx]; exact Nat.lt_of_le_of_lt (Nat.div_le_self _ _) hW
    have HX := Lib.hid hx
    clear hx
    have hl := hr.1
    by_cases hlt : j < 5
    · have hcell := ho2.cellAt (p + j) (by omega)
      have hfr := ho2.frozenAt (p + j)
      rw [cells_get (by simp [turnL]; omega), turnL_at l p W j (by omega)] at hcell
      obtain ⟨b, hb⟩ : ∃ b, b = l.getD (p + j) 0 := ⟨_, rfl⟩
      rw [← hb] at hcell
      have HB := Lib.hid hb
      clear hb
      have hbl := b.toNat_lt
      go_wp2
      go_roundw
      case rel =>
        refine ⟨j + 1, x / 256, hlt, ?_, by go_num, by go_num, ?_, ?_⟩
        · rw [HX.out, Nat.pow_succ, Nat.div_div_eq_div_mul]
        · have hst := (ho2.stored (p + j) (.int .u8 ((b ^^^ wideB W j).toNat : Int))).1
          have e1 : (cells (turnL l p W j)).set (p + j) (.int .u8 ((b ^^^ wideB W j).toNat : Int)) = cells (turnL l p W (j + 1)) := by
            rw [← turnL_succ, ← HB.out]
            simp [cells, List.map_set]
          rw [e1] at hst
          rw [turn_byte b W j x HX.out]
          exact hst
        · exact hB2.setCell hg _
      case measure => simp [intOf]; omega
    · go_wp2_with fail
      obtain rfl : j = 5 := by omega
      have s2 := hB2.size
      obtain ⟨A2, c2, he2, _, _, hr2⟩ := Rd.of_own ho2 rfl
      injection he2 with he2 _ he3
      subst he2 he3
      have q := hr.below (Nat.le_refl _) hB2
      clear ho2 hR1 hr hB1
      have hne := sum_ne l p W (by omega) (by rw [HWE.out]; exact runB_burst _ _ (by omega) hu' (by omega))
      have hne' : ((sumL (turnL l p W 5) : Nat) : Int) ≠ (sumL l : Nat) := by omega
      have hne1 : (((sumL (turnL l p W 5) : Nat) : Int) == (sumL l : Nat)) = false := by simpa using hne'
      have hne2 : (((sumL (turnL l p W 5) : Nat) : Int) != (sumL l : Nat)) = true := by simpa using hne'
      have HN := Lib.hid hne
      clear hne hne'
      refine (Of_one _ n _ _ _ hr2 (by omega) _ rfl _ _).mono ?_
      rintro e w' ⟨rfl, rfl⟩
      go_wp2_with fail
      refine (Of_one _ n _ _ _ (q.alloc _) (by omega) _ (by simp) _ _).mono ?_
      rintro e w' ⟨rfl, rfl⟩
      go_wp2_with fail
      refine (live2_any _).mono ?_
      rintro e w10 ⟨rfl, hb10⟩
      go_wp2
      go_ret
      have hB3 := (hB2.alloc s2 (.cells #[.slice (some ⟨g, 0, none⟩) n c1] 22)).alloc (by simp; omega) (.cells #[.slice A n c] 22)
      exact ⟨rfl, hB3.trans (hb10.mono hB3.size)⟩
end Go.Proofs.Ytcmoekpmgejlbaa
