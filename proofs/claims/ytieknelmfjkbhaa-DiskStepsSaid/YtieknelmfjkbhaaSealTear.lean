/- The contracts of Tear and the reference's Tear. -/
import Derived.Test.YtieknelmfjkbhaaOwn
import Derived.Test.YtieknelmfjkbhaaLe4
import Derived.Test.YtieknelmfjkbhaaSealM
import Derived.Test.YtieknelmfjkbhaaSeal1n
import Derived.Deep.RegionHeld3
import Derived.Deep.WholeRow
import Derived.Deep.MidRow
namespace Go.Proofs.Ytieknelmfjkbhaa
open Go.RowKit

/-- 'copy(x[p:..], y)': x a row of 512 bytes of the call's own, as a step of a region that draws its order. -/
theorem step_cpy_row {ops : Array Oper} {o : Oper} {a : Act} {w : World} {K : Act → World → Prop} {Q : Exit → Act → World → Prop} {E : Prop} (hgd : o.guard = none) (d s : Operand)
    (ho : o.op = .call { callee := .builtin .copy, args := #[d, s], argTypes := #[32, 32] })
    (g p dl dc : Nat) (L : List UInt8) (hd : a.eval d = .slice (some ⟨g, p, none⟩) dl dc) (hp : p + dl ≤ L.length) (hL : w.heap[g]? = some (.cells (cells L).toArray 5 (0, 0)))
    (A : Option Addr) (n c : Nat) (l : List UInt8) (hs : a.eval s = .slice A n c) (hr : Rd w A n l)
    (h : ∀ w', w'.heap[g]? = some (.cells (cells (putL L p (l.take dl))).toArray 5 (0, 0)) → Below g w w' → K (a.put o.dst (goInt (l.take dl).length)) w') :
    if Region.wanted o (yielded ops a.tmps) = true then Oper.wp Try.prog o a w K Q else E := by
  have hl := hr.1
  have hm : (l.take dl).length = min dl n := by simp; omega
  refine step_copy_splice hgd d s _ _ ho 5 Try.underlying32 (by kernel_rfl) (some ⟨g, p, none⟩) A dl dc n c hd hs g p (cells L) 5 hL (cells (l.take dl)) (by rw [cells_length, hm]; show min dl n = min n dl; omega) (fun hpos => ⟨rfl, hr.src dl hpos⟩) (by rw [cells_length, cells_length]; omega) (cells_one _) g w (Below.refl _ _) (Nat.le_refl _) ?_
  intro w' hw' hb
  rw [cells_length]
  refine h w' ?_ hb
  rw [← splice_cells]; exact hw'.out

theorem Tear_any (A A' : Option Addr) (n c n' c' : Nat) (l l' : List UInt8) (k : Int) (w : World) (hr : Rd w A n l) (hr' : Rd w A' n' l') :
    Calls Try.prog 48 #[.slice A n c, .slice A' n' c', .int .i64 k] w fun e w' => ∃ A2, e = .returned (.slice A2 512 512) ∧ Rd w' A2 512 (tearL (cut 512 l) (cut 512 l') k) ∧ Below w.heap.size w w' := by
  by_cases hk : 0 ≤ k
  · obtain ⟨T, hT⟩ : ∃ T : Nat, min (max k 0) 64 = (T : Int) := ⟨(min k 64).toNat, by omega⟩
    have c1 := fun w => snearest_any k 0 64 w
    rw [hT] at c1
    have C1 := Lib.hid c1
    have hT64 : (T : Int) ≤ 64 := by omega
    have HT := Lib.hid hT
    clear c1 hT
    go_enter Try.func48, Try.ntmps48
    go_wp2_with fail
    refine (Cut_full A n c l 512 _ hr (by decide)).mono ?_
    rintro e w1 ⟨rfl, ho1, hB1⟩
    have s1 := hB1.size
    go_wp2_with fail
    refine (Cut_full A' n' c' l' 512 _ (hr'.below (Nat.le_refl _) hB1) (by decide)).mono ?_
    rintro e w2 ⟨rfl, ho2, hB2⟩
    replace ho1 := own_keep ho1 hB2
    go_wp2_with (go_at_call 61; refine (C1.out _).mono ?_; rintro e w' ⟨rfl, rfl⟩)
    replace ho1 : w2.ownsRow w.heap.size 5 1 (.slice (some ⟨w.heap.size, 0, none⟩) 512 512) 512 (cells (cut 512 l)) := ho1
    replace ho2 : w2.ownsRow w1.heap.size 5 1 (.slice (some ⟨w1.heap.size, 0, none⟩) 512 512) 512 (cells (cut 512 l')) := ho2
    obtain ⟨_, _, hh1⟩ := own_full ho1
    obtain ⟨_, _, he, _, _, hr2⟩ := Rd.of_own ho2 rfl
    cases he
    have h0 : (0 : Int) ≤ (T : Int) * 8 := by omega
    have h1 : (T : Int) * 8 ≤ 512 := by omega
    have h2 : ((T : Int) * 8).toNat = T * 8 := by omega
    have hq := hr2.part (lo := 0) (m := T * 8) (by omega) (some ⟨w1.heap.size, 0, none⟩) (fun _ b o e => by injection e with e; injection e with e1 e2; subst e1; subst e2; rfl)
    go_region_held3 (fun _ => True) (trivial) (first
      | (refine step_cpy_row rfl (.tmp 27) (.tmp 31) rfl w.heap.size 0 (T * 8) 512 (cut 512 l) rfl (by rw [cut_length]; omega) hh1 _ (T * 8) 512 _ rfl hq.drew ?_; intro w3 hh3 hB3))
    rw [List.take_take, Nat.min_self, tear_put0 (cut_length _ _) k hk (T * 8) (by have := HT.out; omega)] at hh3
    go_wp2
    go_ret
    have hlt3 := (Array.getElem?_eq_some_iff.1 hh3).1
    refine ⟨_, rfl, ⟨tearL_length (cut_length _ _) (cut_length _ _) k, fun _ => ⟨w.heap.size, 0, rfl, hlt3, fun j hj => ?_⟩⟩, (hB1.trans (hB2.mono s1)).trans (((Below.refl _ _).drew).trans hB3)⟩
    rw [cell_of_row _ _ _ _ _ _ hh3, Nat.zero_add]
    simpa using cells_get hj
  · obtain ⟨N, hN⟩ : ∃ N : Int, min (max k (-64)) 0 = N := ⟨_, rfl⟩
    have c1 := fun w => snearest_any k 0 64 w
    rw [show min (max k 0) 64 = 0 from by omega] at c1
    have c2 := fun w => snearest_any k (-64) 0 w
    rw [hN] at c2
    have C1 := Lib.hid c1
    have C2 := Lib.hid c2
    have hN1 : -64 ≤ N := by omega
    have hN2 : N ≤ -1 := by omega
    have HN := Lib.hid hN
    clear c1 c2 hN
    go_enter Try.func48, Try.ntmps48
    go_wp2_with fail
    refine (Cut_full A n c l 512 _ hr (by decide)).mono ?_
    rintro e w1 ⟨rfl, ho1, hB1⟩
    have s1 := hB1.size
    go_wp2_with fail
    refine (Cut_full A' n' c' l' 512 _ (hr'.below (Nat.le_refl _) hB1) (by decide)).mono ?_
    rintro e w2 ⟨rfl, ho2, hB2⟩
    replace ho1 := own_keep ho1 hB2
    go_wp2_with (first
      | (go_at_call_of 61 (Value.int .i64 64); refine (C1.out _).mono ?_; rintro e w' ⟨rfl, rfl⟩)
      | (go_at_call 61; refine (C2.out _).mono ?_; rintro e w' ⟨rfl, rfl⟩))
    replace ho1 : w2.ownsRow w.heap.size 5 1 (.slice (some ⟨w.heap.size, 0, none⟩) 512 512) 512 (cells (cut 512 l)) := ho1
    replace ho2 : w2.ownsRow w1.heap.size 5 1 (.slice (some ⟨w1.heap.size, 0, none⟩) 512 512) 512 (cells (cut 512 l')) := ho2
    obtain ⟨_, _, hh1⟩ := own_full ho1
    obtain ⟨_, _, he, _, _, hr2⟩ := Rd.of_own ho2 rfl
    cases he
    obtain ⟨F, hF⟩ : ∃ F : Nat, 512 + N * 8 = (F : Int) := ⟨(512 + N * 8).toNat, by omega⟩
    rw [hF]
    have hF0 : (0 : Int) ≤ (F : Int) := Int.natCast_nonneg _
    have hF1 : (F : Int) ≤ 512 := by omega
    have hF2 : ¬ 512 = F := by omega
    have hF3 : F = 512 - 8 * (min (-k) 64).toNat := by have := HN.out; omega
    have HF := Lib.hid hF
    have HF3 := Lib.hid hF3
    clear hF hF3
    have hq := hr2.part (lo := F) (m := 512 - F) (by omega) (some ⟨w1.heap.size, F, none⟩) (fun _ b o e => by injection e with e; injection e with e1 e2; subst e1; subst e2; simp)
    go_region_held3 (fun _ => True) (trivial) (first
      | (refine step_cpy_row rfl (.tmp 27) (.tmp 31) rfl w.heap.size F (512 - F) (512 - F) (cut 512 l) rfl (by rw [cut_length]; omega) hh1 _ (512 - F) (512 - F) _ rfl hq.drew ?_; intro w3 hh3 hB3))
    rw [List.take_take, Nat.min_self, tear_putF (cut_length _ _) (cut_length _ _) k (by omega) F HF3.out] at hh3
    go_wp2
    go_ret
    have hlt3 := (Array.getElem?_eq_some_iff.1 hh3).1
    refine ⟨_, rfl, ⟨tearL_length (cut_length _ _) (cut_length _ _) k, fun _ => ⟨w.heap.size, 0, rfl, hlt3, fun j hj => ?_⟩⟩, (hB1.trans (hB2.mono s1)).trans (((Below.refl _ _).drew).trans hB3)⟩
    rw [cell_of_row _ _ _ _ _ _ hh3, Nat.zero_add]
    simpa using cells_get hj

theorem RCut512 (A : Option Addr) (n c : Nat) (l : List UInt8) (w : World) (hr : Rd w A n l) :
    Calls Try.prog 32 #[.slice A n c, .int .i64 512] w fun e w' => ∃ b o c1, e = .returned (.slice (some ⟨b, o, none⟩) 512 c1) ∧ 512 ≤ c1 ∧ Rd w' (some ⟨b, o, none⟩) 512 (cut 512 l) ∧ Below w.heap.size w w' :=
  (RCut_any A n c l 512 w hr (by decide)).mono fun _ _ ⟨v, he, ho, hb⟩ => by
    obtain ⟨A1, c1, rfl, hc1, _, hr1⟩ := Rd.of_own (n := 512) ho rfl
    obtain ⟨b, o, rfl, _⟩ := hr1.2 (by decide)
    exact ⟨b, o, c1, he, hc1, hr1, hb⟩

theorem RTear_any (A A' : Option Addr) (n c n' c' : Nat) (l l' : List UInt8) (k : Int) (w : World) (hr : Rd w A n l) (hr' : Rd w A' n' l') (hk : -9223372036854775808 ≤ k ∧ k ≤ 9223372036854775807) :
    Calls Try.prog 45 #[.slice A n c, .slice A' n' c', .int .i64 k] w fun e w' => ∃ v, e = .returned v ∧ w'.ownsRow w.heap.size 5 1 v 512 (cells (tearL (cut 512 l) (cut 512 l') k)) ∧ Below w.heap.size w w' := by
  go_enter Try.func45, Try.ntmps45
  go_wp2_with fail
  refine (RCut512 A n c l _ hr).mono ?_
  rintro e w1 ⟨b, o, c1, rfl, hc1, hr1, hB1⟩
  have s1 := hB1.size
  go_wp2_with fail
  refine (RCut512 A' n' c' l' _ (hr'.below (Nat.le_refl _) hB1)).mono ?_
  rintro e w2 ⟨b', o', c2, rfl, hc2, hr2, hB2⟩
  have s2 := hB2.size
  replace hr1 := hr1.below (Nat.le_refl _) hB2
  have hB : Below w.heap.size w w2 := hB1.trans (hB2.mono s1)
  have hla := cut_length 512 l
  have hlb := cut_length 512 l'
  obtain ⟨a, ha⟩ : ∃ a, a = cut 512 l := ⟨_, rfl⟩
  obtain ⟨d, hd⟩ : ∃ d, d = cut 512 l' := ⟨_, rfl⟩
  rw [← ha] at hr1 hla
  rw [← hd] at hr2 hlb
  have HA := Lib.hid ha
  have HD := Lib.hid hd
  clear ha hd hr hr' hB1 hB2
  go_wp2
  go_loopw [9, 10] (fun v i wr => ∃ j : Nat, j ≤ 64 ∧ i = .int .i64 j ∧ wr.ownsRow w2.heap.size 5 1 v (8 * j) (cells ((tearL a d k).take (8 * j))) ∧ Below w2.heap.size w2 wr) (fun _ i _ => 64 - (intOf i).toNat)
  case atStart => exact ⟨0, Nat.zero_le _, rfl, by simpa [cells_nil] using World.ownsRow_nil _ _ _ _, Below.refl _ _⟩
  case round =>
    obtain ⟨j, hj, rfl, ho1, hb1⟩ := hrel
    have hs := hb1.size
    have hr1' := hr1.below (Nat.le_refl _) hb1
    have hr2' := hr2.below (Nat.le_refl _) hb1
    by_cases hlt : j < 64
    · have hq1 := hr1'.part (lo := 8 * j) (m := 8) (by omega) (some ⟨b, o + 8 * j, none⟩) (fun _ x y e => by injection e with e; injection e with e1 e2; subst e1; subst e2; rfl)
      have hq2 := hr2'.part (lo := 8 * j) (m := 8) (by omega) (some ⟨b', o' + 8 * j, none⟩) (fun _ x y e => by injection e with e; injection e with e1 e2; subst e1; subst e2; rfl)
      have g0 : (0 : Int) ≤ 8 * (j : Int) := by omega
      have g1 : 8 * (j : Int) ≤ 8 * (j : Int) + 8 := by omega
      have g2 : 8 * (j : Int) + 8 ≤ (c1 : Int) := by omega
      have g3 : 8 * (j : Int) + 8 ≤ (c2 : Int) := by omega
      have g4 : ¬ c1 = 8 * j := by omega
      have g5 : ¬ c2 = 8 * j := by omega
      have g6 : (8 * (j : Int)).toNat = 8 * j := by omega
      have g7 : (8 * (j : Int) + 8).toNat = 8 * j + 8 := by omega
      have g8 : 8 * j + 8 - 8 * j = 8 := by omega
      by_cases p1 : 0 < k
      · by_cases p2 : (j : Int) < k
        · clear hq1 g2 g4
          have hw := tear_word hla hlb k j hlt
          rw [if_pos (show (0 < k ∧ (j : Int) < k ∨ k < 0 ∧ k ≤ (j : Int) - 64) from by omega)] at hw
          rw [← hw] at hq2
          have HW := Lib.hid hw
          clear hw
          go_wp2_with (at_builtin; refine wpList_app _ bytesT rfl (.tmp 39) (.tmp 46) rfl w2.heap.size _ (8 * j) _ rfl ho1 _ 8 (c2 - 8 * j) _ rfl hq2 (by omega) hs ?_; intro v2 w3 ho3 hb3; rw [← cells_append, ← take_words] at ho3)
          go_roundw
          case rel => exact ⟨j + 1, hlt, by go_num, ho3, hb1.trans hb3⟩
          case measure => simp [intOf]; omega
        · clear hq2 g3 g5
          have hw := tear_word hla hlb k j hlt
          rw [if_neg (show ¬ (0 < k ∧ (j : Int) < k ∨ k < 0 ∧ k ≤ (j : Int) - 64) from by omega)] at hw
          rw [← hw] at hq1
          have HW := Lib.hid hw
          clear hw
          go_wp2_with (at_builtin; refine wpList_app _ bytesT rfl (.tmp 39) (.tmp 46) rfl w2.heap.size _ (8 * j) _ rfl ho1 _ 8 (c1 - 8 * j) _ rfl hq1 (by omega) hs ?_; intro v2 w3 ho3 hb3; rw [← cells_append, ← take_words] at ho3)
          go_roundw
          case rel => exact ⟨j + 1, hlt, by go_num, ho3, hb1.trans hb3⟩
          case measure => simp [intOf]; omega
      · by_cases p3 : k < 0
        · by_cases p4 : k ≤ (j : Int) - 64
          · clear hq1 g2 g4
            have hw := tear_word hla hlb k j hlt
            rw [if_pos (show (0 < k ∧ (j : Int) < k ∨ k < 0 ∧ k ≤ (j : Int) - 64) from by omega)] at hw
            rw [← hw] at hq2
            have HW := Lib.hid hw
            clear hw
            go_wp2_with (at_builtin; refine wpList_app _ bytesT rfl (.tmp 39) (.tmp 46) rfl w2.heap.size _ (8 * j) _ rfl ho1 _ 8 (c2 - 8 * j) _ rfl hq2 (by omega) hs ?_; intro v2 w3 ho3 hb3; rw [← cells_append, ← take_words] at ho3)
            go_roundw
            case rel => exact ⟨j + 1, hlt, by go_num, ho3, hb1.trans hb3⟩
            case measure => simp [intOf]; omega
          · clear hq2 g3 g5
            have hw := tear_word hla hlb k j hlt
            rw [if_neg (show ¬ (0 < k ∧ (j : Int) < k ∨ k < 0 ∧ k ≤ (j : Int) - 64) from by omega)] at hw
            rw [← hw] at hq1
            have HW := Lib.hid hw
            clear hw
            go_wp2_with (at_builtin; refine wpList_app _ bytesT rfl (.tmp 39) (.tmp 46) rfl w2.heap.size _ (8 * j) _ rfl ho1 _ 8 (c1 - 8 * j) _ rfl hq1 (by omega) hs ?_; intro v2 w3 ho3 hb3; rw [← cells_append, ← take_words] at ho3)
            go_roundw
            case rel => exact ⟨j + 1, hlt, by go_num, ho3, hb1.trans hb3⟩
            case measure => simp [intOf]; omega
        · clear hq2 g3 g5
          have hw := tear_word hla hlb k j hlt
          rw [if_neg (show ¬ (0 < k ∧ (j : Int) < k ∨ k < 0 ∧ k ≤ (j : Int) - 64) from by omega)] at hw
          rw [← hw] at hq1
          have HW := Lib.hid hw
          clear hw
          go_wp2_with (at_builtin; refine wpList_app _ bytesT rfl (.tmp 39) (.tmp 46) rfl w2.heap.size _ (8 * j) _ rfl ho1 _ 8 (c1 - 8 * j) _ rfl hq1 (by omega) hs ?_; intro v2 w3 ho3 hb3; rw [← cells_append, ← take_words] at ho3)
          go_roundw
          case rel => exact ⟨j + 1, hlt, by go_num, ho3, hb1.trans hb3⟩
          case measure => simp [intOf]; omega
    · go_wp2
      go_ret
      obtain rfl : j = 64 := by omega
      refine ⟨_, rfl, ?_, hB.trans (hb1.mono (by omega))⟩
      rw [List.take_of_length_le (by rw [tearL_length hla hlb]; omega)] at ho1
      rw [← HA.out, ← HD.out]
      exact own_mono ho1 (by omega)
end Go.Proofs.Ytieknelmfjkbhaa
