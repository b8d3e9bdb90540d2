/- The contracts of slices.Grow of nil and of slices.Concat of two slices of bytes. -/
import Derived.Test.YtieinkndcbobfaaBase
import Derived.Test.YtieinkndcbobfaaOwn
import Derived.Lib.AppendZeros
import Derived.Deep.WholeRow
namespace Go.Proofs.Ytieinkndcbobfaa
open Go.RowKit
set_option linter.unusedVariables false

theorem intT : Try.prog.underlying 3 = some (.int .i64) := Try.underlying3

theorem grow_any (n : Nat) (w : World) (hn : n ≤ 1099511627776) :
    Calls Try.prog 29 #[.slice none 0 0, .int .i64 n] w fun e w' => ∃ v, e = .returned v ∧ w'.ownsRow w.heap.size 5 1 v 0 [] ∧ Below w.heap.size w w' := by
  by_cases h0 : n = 0
  · subst h0
    go_enter Try.func29, Try.ntmps29
    go_wp2
    go_ret
    exact ⟨_, rfl, World.ownsRow_nil _ _ _ _, Below.refl _ _⟩
  · obtain ⟨i, hi, hz, h1, h2⟩ := info_parts bytesT.info
    have hrun := fun ty => Lib.run_append_nil_zeros (P := Try.prog) w 22 3 ty 5 i (.int .u8 0) .i64 .i64 bytesT.und intT hi hz n (by omega) (by omega) (by omega) (by rw [h2]; omega)
    have HRUN := Lib.hid hrun
    have hge := grownCap_ge w n 0 5
    have hle := grownCap_le_maxLen w n 0 5 (by unfold maxLen; omega)
    obtain ⟨cap, hcap⟩ : ∃ cap, cap = grownCap w n 0 5 := ⟨_, rfl⟩
    rw [← hcap] at hge hle
    obtain ⟨C, hC⟩ : ∃ C, C = Builtin.zeroCells (Value.int .u8 0).cells n ++ Builtin.zeroCells (Value.int .u8 0).cells (cap - n) := ⟨_, rfl⟩
    have hCs : C.size = cap := by rw [hC]; simp [Builtin.zeroCells, Value.cells]; omega
    have hown : (w.drew.alloc (.cells C 5)).ownsRow w.heap.size 5 1 (.slice (some ⟨w.heap.size, 0, none⟩) 0 cap) 0 [] :=
      ⟨rfl, .inr ⟨w.heap.size, cap, C, rfl, Nat.le_refl _, heap_alloc_last w.drew _, Nat.zero_le _, hle, by omega, by simp⟩⟩
    have hbel : Below w.heap.size w (w.drew.alloc (.cells C 5)) := ((Below.refl _ _).drew).alloc (Nat.le_refl _) _
    obtain ⟨w2, hw2⟩ : ∃ w2, w2 = w.drew.alloc (.cells C 5) := ⟨_, rfl⟩
    have hrun2 : ∀ ty, (Builtin.append_ #[22, 3] ty #[.slice none 0 0, .int .i64 n]).run Try.prog w = .ok (.slice (some ⟨w.heap.size, 0, none⟩) n cap) w2 := fun ty => by
      have h := HRUN.out ty
      rw [← hcap, ← hC, ← hw2] at h
      exact h
    rw [← hw2] at hown hbel
    have HR2 := Lib.hid hrun2
    have HO := Lib.hid hown
    clear hrun hrun2 hown hw2 hC hCs hcap HRUN
    unfold maxLen at hle
    go_enter Try.func29, Try.ntmps29
    go_wp2_with (at_builtin; refine Lib.wpList_append_run w rfl (.tmp 20) (.tmp 21) 22 3 rfl _ _ rfl rfl _ w2 (HR2.out _) ?_)
    go_ret
    exact ⟨_, rfl, HO.out, hbel⟩

theorem concat_two (g : Nat) (A A' : Option Addr) (n c n' c' : Nat) (l l' : List UInt8) (w : World) (h0 : w.cell? ⟨g, 0, none⟩ = some (.slice A n c)) (h1 : w.cell? ⟨g, 1, none⟩ = some (.slice A' n' c'))
    (hr : Rd w A n l) (hr' : Rd w A' n' l') (hn : n ≤ 1073741824) (hn' : n' ≤ 1073741824) :
    Calls Try.prog 19 #[.slice (some ⟨g, 0, none⟩) 2 2] w fun e w' => ∃ v, e = .returned v ∧ w'.ownsRow w.heap.size 5 1 v (n + n') (cells (l ++ l')) ∧ Below w.heap.size w w' := by
  have hg : g < w.heap.size := by simpa using World.block_lt_of_cell? w _ h0
  have K : Hid (∀ W, Below w.heap.size w W → W.cell? ⟨g, 0, none⟩ = some (.slice A n c) ∧ W.cell? ⟨g, 1, none⟩ = some (.slice A' n' c') ∧ Rd W A n l ∧ Rd W A' n' l') := Lib.hid (fun W hW =>
    ⟨(hW.cell (p := ⟨g, 0, none⟩) hg).trans h0, (hW.cell (p := ⟨g, 1, none⟩) hg).trans h1, hr.below (Nat.le_refl _) hW, hr'.below (Nat.le_refl _) hW⟩)
  clear hr hr' hg
  have HG := Lib.hid (grow_any (n + n') w (by omega))
  go_enter Try.func19, Try.ntmps19
  go_wp2
  go_loop [3, 11] (fun s i => (i = .int .i64 0 ∧ s = .int .i64 0) ∨ (i = .int .i64 1 ∧ s = .int .i64 n) ∨ (i = .int .i64 2 ∧ s = .int .i64 ((n + n' : Nat) : Int))) (fun _ i => 2 - (intOf i).toNat)
  case atStart => exact .inl ⟨rfl, rfl⟩
  case round =>
    rcases hrel with ⟨rfl, rfl⟩ | ⟨rfl, rfl⟩ | ⟨rfl, rfl⟩
    · go_wp2
      go_round
      case rel => exact .inr (.inl ⟨rfl, by go_num⟩)
      case measure => simp [intOf]
    · go_wp2
      go_round
      case rel => exact .inr (.inr ⟨rfl, by go_num⟩)
      case measure => simp [intOf]
    · clear h0 h1
      go_wp2_with (go_at_call 29; refine HG.out.mono ?_; rintro e w1 ⟨v1, rfl, ho1, hb1⟩)
      go_loopw [6, 27] (fun v i wr => (i = .int .i64 0 ∧ wr.ownsRow w.heap.size 5 1 v 0 [] ∧ Below w.heap.size w wr) ∨ (i = .int .i64 1 ∧ wr.ownsRow w.heap.size 5 1 v n (cells l) ∧ Below w.heap.size w wr) ∨ (i = .int .i64 2 ∧ wr.ownsRow w.heap.size 5 1 v (n + n') (cells (l ++ l')) ∧ Below w.heap.size w wr)) (fun _ i _ => 2 - (intOf i).toNat)
      case atStart => exact .inl ⟨rfl, ho1, hb1⟩
      case round =>
        rcases hrel with ⟨rfl, ho, hb⟩ | ⟨rfl, ho, hb⟩ | ⟨rfl, ho, hb⟩
        · obtain ⟨k0, k1, r0, r1⟩ := K.out wr hb
          clear k1
          go_wp2_with (at_builtin; refine wpList_app _ bytesT rfl (.tmp 31) (.tmp 32) rfl w.heap.size _ 0 [] rfl ho A n c l rfl r0 (by omega) hb.size ?_; intro v2 w2 ho2 hb2; rw [Nat.zero_add, List.nil_append] at ho2)
          go_roundw
          case rel => exact .inr (.inl ⟨rfl, ho2, hb.trans hb2⟩)
          case measure => simp [intOf]
        · obtain ⟨k0, k1, r0, r1⟩ := K.out wr hb
          clear k0
          go_wp2_with (at_builtin; refine wpList_app _ bytesT rfl (.tmp 31) (.tmp 32) rfl w.heap.size _ n _ rfl ho A' n' c' l' rfl r1 (by omega) hb.size ?_; intro v2 w2 ho2 hb2; rw [← cells_append] at ho2)
          go_roundw
          case rel => exact .inr (.inr ⟨rfl, ho2, hb.trans hb2⟩)
          case measure => simp [intOf]
        · go_wp2
          go_ret
          exact ⟨_, rfl, ho, hb⟩
end Go.Proofs.Ytieinkndcbobfaa
