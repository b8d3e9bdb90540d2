/- The contracts of roomy, Put and the reference's Num. -/
import Derived.Test.YtndnmcdbfjgglaaLe2
namespace Go.Proofs.Ytndnmcdbfjgglaa
open Go.RowKit

theorem roomy_any (A : Option Addr) (n c : Nat) (l : List UInt8) (more : Int) (w : World) (hr : Rd w A n l) (h0 : 0 ≤ more) (h1 : more ≤ 1099511627776) (hn : n ≤ 1099511627776) :
    Calls Try.prog 31 #[.slice A n c, .int .i64 more] w fun e w' => ∃ v, e = .returned v ∧ w'.ownsRow w.heap.size 5 1 v n (cells l) ∧ Below w.heap.size w w' := by
  go_enter Try.func31, Try.ntmps31
  go_wp2_with (first
    | (at_make; refine wpList_mk _ bytesT rfl (.const (.int .i64 0)) (.tmp 8) rfl w.heap.size .i64 .i64 _ (n + more.toNat) rfl rfl (by omega) (by omega) (by unfold maxLen; omega) (by simp) ?_; intro v1 w1 hown1 hb1)
    | (at_builtin; refine wpList_app _ bytesT rfl (.tmp 9) (.tmp 10) rfl w.heap.size v1 0 [] rfl hown1 A n c l rfl (hr.below (Nat.le_refl _) hb1) (by omega) hb1.size ?_; intro v2 w2 hown2 hb2))
  go_ret
  exact ⟨_, rfl, by simpa using hown2, hb1.trans hb2⟩

theorem Put_any (A : Option Addr) (n c : Nat) (l : List UInt8) (width x : Int) (w : World) (hr : Rd w A n l) (hn : n ≤ 1073741824) :
    Calls Try.prog 26 #[.slice A n c, .int .i64 width, .int .i64 x] w fun e w' => ∃ v, e = .returned v ∧ w'.ownsRow w.heap.size 5 1 v (n + wd width) (cells (l ++ numB (wd width) x)) ∧ Below w.heap.size w w' := by
  have hw := wd_bd width
  go_enter Try.func26, Try.ntmps26
  go_wp2_with (first
    | (go_at_call 29; refine (nearest_wd _ _).mono ?_; rintro e w' ⟨rfl, rfl⟩)
    | (go_at_call 31; refine (roomy_any A n c l _ _ hr (by omega) (by omega) (by omega)).mono ?_; rintro e w1 ⟨v1, rfl, hown1, hb1⟩)
    | (go_at_call 30; refine (addNum_any w.heap.size v1 n (cells l) _ _ _ hb1.size hown1 (by omega) (by omega)).mono ?_; rintro e w2 ⟨v2, rfl, hown2, hb2⟩))
  go_ret
  exact ⟨_, rfl, by rw [cells_append]; exact hown2, hb1.trans hb2⟩

theorem Num_any (width x : Int) (w : World) :
    Calls Try.prog 19 #[.int .i64 width, .int .i64 x] w fun e w' => ∃ v, e = .returned v ∧ w'.ownsRow w.heap.size 5 1 v (wd width) (cells (numB (wd width) x)) ∧ Below w.heap.size w w' := by
  have hw := wd_bd width
  have h0 := rest64_bd x 0
  have e0 : IntKind.u64.wrap x = rest64 x 0 := by rw [rest64_zero, IntKind.wrap_u64]
  have E0 := Lib.hid e0
  clear e0
  go_enter Try.func19, Try.ntmps19
  go_wp2
  go_loopw [5, 6, 7] (fun v u i wr => ∃ j : Nat, j ≤ wd width ∧ i = .int .i64 j ∧ u = .int .u64 (rest64 x j) ∧ wr.ownsRow w.heap.size 5 1 v j (cells (numB j x)) ∧ Below w.heap.size w wr) (fun _ _ i _ => wd width - (intOf i).toNat)
  case atStart => exact ⟨0, Nat.zero_le _, rfl, by rw [← E0.out], World.ownsRow_nil _ _ _ _, Below.refl _ _⟩
  case round =>
    obtain ⟨j, hj, rfl, rfl, hown1, hb1⟩ := hrel
    have hs := hb1.size
    have hu := rest64_bd x j
    by_cases hlt : j < wd width
    · have hby := rest64_byte x j (by omega)
      have hR : Rd (wr.alloc (.cells #[.int .u8 (rest64 x j % 256)] 5)) (some ⟨wr.heap.size, 0, none⟩) 1 [byteOf x j] := by
        have := Rd.new wr 5 [byteOf x j] (0, 0)
        rw [hby]
        simpa [cells] using this
      have Hby := Lib.hid hby
      clear hby
      go_wp2_with (first
        | (go_at_call 27; refine (wide_wd _ _).mono ?_; rintro e w' ⟨rfl, rfl⟩)
        | (at_builtin; refine wpList_app _ bytesT rfl (.tmp 16) (.tmp 20) rfl w.heap.size _ j _ rfl (hown1.alloc _) _ 1 1 [byteOf x j] rfl hR (by omega) (by simp; omega) ?_; intro v2 w2 hown2 hb2))
      go_roundw
      case rel => exact ⟨j + 1, hlt, by go_num, by rw [rest64_succ], by rw [numB_succ, cells_append]; exact hown2, (hb1.alloc (by omega) _).trans hb2⟩
      case measure => simp [intOf]; omega
    · go_wp2_with (go_at_call 27; refine (wide_wd _ _).mono ?_; rintro e w' ⟨rfl, rfl⟩)
      go_ret
      have : j = wd width := by omega
      subst this
      exact ⟨_, rfl, hown1, hb1⟩
end Go.Proofs.Ytndnmcdbfjgglaa
