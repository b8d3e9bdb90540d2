/- The contracts of crc's addByte, Add, Start and End. -/
import Derived.Test.YtlafeobiodolbaaCrcM
import Derived.Test.YtlafeobiodolbaaBase
namespace Go.Proofs.Ytlafeobiodolbaa
open Go.RowKit

theorem spread32 (t : Nat) (ht : t < 4294967296) : bits .xor .u32 ((t : Int) / 2) (bits .and .u32 3988292384 (-bits .and .u32 (t : Int) 1 % 4294967296)) = (bst t : Nat) := by
  have e1 : bits .and .u32 (t : Int) 1 = ((t % 2 : Nat) : Int) := by
    have h := u32_and_nat t 1 ht (by decide)
    rw [nat_mask1] at h
    exact h
  have e2 : (-((t % 2 : Nat) : Int)) % 4294967296 = (((4294967296 - t % 2) % 4294967296 : Nat) : Int) := by omega
  have e3 := u32_and_nat 3988292384 ((4294967296 - t % 2) % 4294967296) (by decide) (Nat.mod_lt _ (by decide))
  have e4 := u32_xor_nat (t / 2) (3988292384 &&& ((4294967296 - t % 2) % 4294967296)) (by omega) (Nat.lt_of_le_of_lt Nat.and_le_left (by decide))
  rw [bst_spread, ← e3] at e4
  rw [e1, e2]
  exact e4

theorem addByte_any (s : Nat) (c : UInt8) (w : World) (hs : s < 4294967296) :
    Calls Try.prog 45 #[.int .u32 s, .int .u8 (c.toNat : Int)] w fun e w' => e = .returned (.int .u32 (addB s c : Nat)) ∧ w = w' := by
  go_enter Try.func45, Try.ntmps45
  go_wp2
  go_loop [0, 10] (fun v i => ∃ j t : Nat, j ≤ 8 ∧ t < 4294967296 ∧ bstN (8 - j) t = addB s c ∧ i = .int .i64 j ∧ v = .int .u32 t) (fun _ i => 8 - (intOf i).toNat)
  case atStart =>
    have hc := c.toNat_lt
    refine ⟨0, s ^^^ c.toNat, by omega, xor_lt hs (by omega), bstN_byte s c, rfl, ?_⟩
    rw [show ((c.toNat : Int) % 4294967296) = (c.toNat : Int) from by omega, u32_xor_nat _ _ hs (by omega)]
  case round =>
    obtain ⟨j, t, hj, ht, he, rfl, rfl⟩ := hrel
    have HE := Lib.hid he
    clear he
    by_cases hlt : j < 8
    · go_wp2
      go_round
      case rel =>
        refine ⟨j + 1, bst t, by omega, bst_lt ht, ?_, by go_num, by rw [spread32 t ht]⟩
        rw [← HE.out, show 8 - j = (8 - (j + 1)) + 1 from by omega]
        rfl
      case measure => simp [intOf]; omega
    · go_wp2
      go_ret
      obtain rfl : j = 8 := by omega
      exact ⟨ret_int (by rw [← HE.out]; rfl), rfl⟩

theorem Start_any (w : World) : Calls Try.prog 39 #[] w fun e w' => e = .returned (.int .u32 4294967295) ∧ w = w' := by
  go_enter Try.func39, Try.ntmps39
  go_wp2
  go_ret
  exact ⟨rfl, rfl⟩

theorem End_any (s : Nat) (w : World) (hs : s < 4294967296) : Calls Try.prog 41 #[.int .u32 s] w fun e w' => e = .returned (.int .u32 (s ^^^ 4294967295 : Nat)) ∧ w = w' := by
  go_enter Try.func41, Try.ntmps41
  go_wp2
  go_ret
  exact ⟨ret_int (u32_xor_nat s 4294967295 hs (by decide)), rfl⟩

theorem take_snoc' {α : Type} (l : List α) (j : Nat) (h : j < l.length) : l.take (j + 1) = l.take j ++ [l[j]] := by
  rw [List.take_succ_eq_append_getElem h]

theorem Add_any (s : Nat) (A : Option Addr) (n c : Nat) (l : List UInt8) (w : World) (hs : s < 4294967296) (hr : Rd w A n l) (hn : n ≤ 1099511627776) :
    Calls Try.prog 40 #[.int .u32 s, .slice A n c] w fun e w' => e = .returned (.int .u32 (addL s l : Nat)) ∧ w = w' := by
  go_enter Try.func40, Try.ntmps40
  go_wp2
  go_loop [0, 9] (fun v i => ∃ j : Nat, j ≤ n ∧ i = .int .i64 j ∧ v = .int .u32 (addL s (l.take j) : Nat)) (fun _ i => n - (intOf i).toNat)
  case atStart => exact ⟨0, Nat.zero_le _, rfl, rfl⟩
  case round =>
    obtain ⟨j, hj, rfl, rfl⟩ := hrel
    by_cases hlt : j < n
    · obtain ⟨b, o, rfl, _, hcell⟩ := hr.at_ hlt
      have hsn := take_snoc' l j (by have := hr.1; omega)
      have HS := Lib.hid hsn
      clear hsn
      have ha := addL_lt (l.take j) hs
      go_wp2_with (go_at_call 45; refine (addByte_any _ _ _ ha).mono ?_; rintro e w' ⟨rfl, rfl⟩)
      go_round
      case rel => exact ⟨j + 1, hlt, by go_num, by rw [HS.out, addL_snoc]⟩
      case measure => simp [intOf]; omega
    · go_wp2
      go_ret
      exact ⟨ret_int (by rw [List.take_of_length_le (by have := hr.1; omega)]), rfl⟩
end Go.Proofs.Ytlafeobiodolbaa
