/- The contracts of named, sized, apart and Check. -/
import Derived.Test.YtabmaiphjcbfbaaCmL
import Derived.Test.YtabmaiphjcbfbaaCm2
import Derived.Deep.LoopGhost
namespace Go.Proofs.Ytabmaiphjcbfbaa
open Go.RowKit

theorem named_any (A : Option Addr) (n c : Nat) (ks : List Kd) (w : World) (h : KRd w A n ks) (hn : n ≤ 1000000) (hs : Lens ks) :
    Calls Try.prog 31 #[.slice A n c] w fun e w' => e = .returned (.bool (decide (Named ks))) ∧ Below w.heap.size w w' := by
  have H := Lib.hid h
  have HS := Lib.hid hs
  clear h hs
  go_enter Try.func31, Try.ntmps31
  go_wp2
  go_loopw [7] (fun i wr => ∃ j : Nat, j ≤ n ∧ i = .int .i64 j ∧ Named (ks.take j) ∧ Below w.heap.size w wr) (fun i _ => n - (intOf i).toNat)
  case atStart => exact ⟨0, Nat.zero_le _, rfl, Named.nil, Below.refl _ _⟩
  case round =>
    obtain ⟨j, hj, rfl, hall, hb⟩ := hrel
    by_cases hlt : j < n
    · obtain ⟨b, o, s, z, rfl, _, k0, k1, hl, hk⟩ := (H.out.below hb).at_ hlt
      have hsn := named_snoc hl
      have hsz := HS.out.at_ hl hk
      rw [hk] at hsn
      have HA := Lib.hid hall
      have HB := Lib.hid hb
      have HSN := Lib.hid hsn
      clear hall hb hsn hk
      go_wp2_with (go_at_call 34; refine (CName_any s _ hsz).mono ?_; rintro e w' ⟨rfl, rfl⟩)
      · go_ret
        refine ⟨ret_bool (decide_eq_false fun hN => ?_).symm, HB.out.alloc HB.out.size _⟩
        have := (HSN.out.1 (named_take hN _)).2
        simp_all
      · go_roundw
        case rel => exact ⟨j + 1, hlt, by go_num, HSN.out.2 ⟨HA.out, by simp_all⟩, HB.out.alloc HB.out.size _⟩
        case measure => simp [intOf]; omega
    · go_wp2
      go_ret
      refine ⟨ret_bool (decide_eq_true ?_).symm, hb⟩
      rwa [List.take_of_length_le (by rw [H.out.1]; omega)] at hall

theorem sized_any (A : Option Addr) (n c : Nat) (ks : List Kd) (w : World) (h : KRd w A n ks) (hn : n ≤ 1000000) :
    Calls Try.prog 33 #[.slice A n c] w fun e w' => e = .returned (.bool (decide (Sized ks))) ∧ Below w.heap.size w w' := by
  have H := Lib.hid h
  clear h
  go_enter Try.func33, Try.ntmps33
  go_wp2
  go_loopw [7] (fun i wr => ∃ j : Nat, j ≤ n ∧ i = .int .i64 j ∧ Sized (ks.take j) ∧ Below w.heap.size w wr) (fun i _ => n - (intOf i).toNat)
  case atStart => exact ⟨0, Nat.zero_le _, rfl, Sized.nil, Below.refl _ _⟩
  case round =>
    obtain ⟨j, hj, rfl, hall, hb⟩ := hrel
    by_cases hlt : j < n
    · obtain ⟨b, o, s, z, rfl, _, k0, k1, hl, hk⟩ := (H.out.below hb).at_ hlt
      have hsn := sized_snoc hl
      rw [hk] at hsn
      have HA := Lib.hid hall
      have HB := Lib.hid hb
      have HSN := Lib.hid hsn
      clear hall hb hsn hk
      by_cases hz : 0 ≤ z ∧ z ≤ 64
      · have hd := decide_eq_true hz
        have HZ := Lib.hid hz
        clear hz
        go_wp2_with (go_at_call 30; refine (within_any _ _ _ _).mono ?_; rintro e w' ⟨rfl, rfl⟩; rw [hd])
        go_roundw
        case rel => exact ⟨j + 1, hlt, by go_num, HSN.out.2 ⟨HA.out, HZ.out⟩, HB.out.alloc HB.out.size _⟩
        case measure => simp [intOf]; omega
      · have hd : decide (0 ≤ z ∧ z ≤ 64) = false := decide_eq_false hz
        have HZ := Lib.hid hz
        clear hz
        go_wp2_with (go_at_call 30; refine (within_any _ _ _ _).mono ?_; rintro e w' ⟨rfl, rfl⟩; rw [hd])
        go_ret
        exact ⟨ret_bool (decide_eq_false fun hN => HZ.out (HSN.out.1 (sized_take hN _)).2).symm, HB.out.alloc HB.out.size _⟩
    · go_wp2
      go_ret
      refine ⟨ret_bool (decide_eq_true ?_).symm, hb⟩
      rwa [List.take_of_length_le (by rw [H.out.1]; omega)] at hall

theorem toList_inj {a b : ByteArray} : (a.toList == b.toList) = decide (a = b) := by
  rw [Bool.eq_iff_iff, beq_iff_eq, decide_eq_true_eq, ByteArray.toList_eq, ByteArray.toList_eq]
  refine ⟨fun h => ?_, fun h => by rw [h]⟩
  exact ByteArray.ext (Array.ext' h)

theorem apart_any (A : Option Addr) (n c : Nat) (ks : List Kd) (w : World) (h : KRd w A n ks) (hn : n ≤ 1000000) :
    Calls Try.prog 32 #[.slice A n c] w fun e w' => e = .returned (.bool (decide (Apart ks))) ∧ Below w.heap.size w w' := by
  have H := Lib.hid h
  clear h
  go_enter Try.func32, Try.ntmps32
  go_wp2
  go_step3
  go_wp2
  go_step3
  go_wp2
  go_loopg [9] n (fun g i wr => ∃ j : Nat, j + g = n ∧ i = .int .i64 j ∧ Apart (ks.take j) ∧ Below w.heap.size w wr)
  case atStart => exact ⟨0, by omega, rfl, Apart.nil, Below.refl _ _⟩
  case round =>
    obtain ⟨j, hj, rfl, hall, hb⟩ := hrel
    cases gk with
    | zero =>
      have hjz : ¬ ((j : Int) < (n : Int)) := by omega
      go_wp2
      try rw [Exit.noGoto_ret]
      go_ret
      refine ⟨ret_bool (decide_eq_true ?_).symm, hb⟩
      rwa [List.take_of_length_le (by rw [H.out.1]; omega)] at hall
    | succ g =>
      have hjz : (j : Int) < (n : Int) := by omega
      obtain ⟨b, o, s, z, rfl, _, k0, k1, hl, hk⟩ := (H.out.below hb).at_ (show j < n by omega)
      have hsn := apart_snoc hl
      rw [hk] at hsn
      have HA := Lib.hid hall
      have HB := Lib.hid hb
      have HSN := Lib.hid hsn
      clear hall hb hsn hk
      go_wp2
      obtain ⟨p, hp⟩ : ∃ p, p = wr.heap.size := ⟨_, rfl⟩
      obtain ⟨w1, hw1⟩ : ∃ w1, w1 = wr.alloc (.cells #[.string s, .int .i64 z] 36) := ⟨_, rfl⟩
      have hB1 : Below w.heap.size w w1 := by rw [hw1]; exact HB.out.alloc HB.out.size _
      have q0 : w1.cell? ⟨p, 0, none⟩ = some (.string s) := by rw [hw1, hp]; simp
      have hlt1 : p < w1.heap.size := by rw [hw1, hp]; simp
      rw [← hw1, ← hp]
      clear hw1 hp
      have HB1 := Lib.hid hB1
      clear hB1
      go_loopg [16] (n - 1) (fun g2 i2 wy => ∃ m : Nat, m + g2 = n - 1 ∧ m ≤ j ∧ i2 = .int .i64 m ∧ First ks s m ∧ Below w1.heap.size w1 wy)
      case atStart => exact ⟨0, by omega, Nat.zero_le _, rfl, First.zero _ _, Below.refl _ _⟩
      case round =>
        obtain ⟨m, hmg, hmj, rfl, hf, hb2⟩ := hrel
        have hmn : (m : Int) < (n : Int) := by omega
        have Q0 : wr.cell? ⟨p, 0, none⟩ = some (.string s) := (hb2.cell (p := ⟨p, 0, none⟩) hlt1).trans q0
        have hB2 := HB1.out.trans (hb2.mono HB1.out.size)
        obtain ⟨b', o', s', z', hA', _, k0', k1', hl', hk'⟩ := (H.out.below hB2).at_ (show m < n by omega)
        obtain ⟨rfl, rfl⟩ : b = b' ∧ o = o' := by simpa using hA'
        have hsn' := First.succ (s := s) hl'
        rw [hk'] at hsn'
        have Q1 : (wr.alloc (.cells #[.string s', .int .i64 z'] 36)).cell? ⟨p, 0, none⟩ = some (.string s) := (((Below.refl wr.heap.size wr).alloc (Nat.le_refl _) _).cell (p := ⟨p, 0, none⟩) (by have := hb2.size; simp; omega)).trans Q0
        have HB2 := Lib.hid hB2
        have Hb2 := Lib.hid hb2
        have HF := Lib.hid hf
        have HSN' := Lib.hid hsn'
        clear hB2 hb2 hf hsn' hA' hk'
        by_cases hmj' : m = j
        · subst hmj'
          go_wp2
          go_roundg g
          case measure => omega
          case rel => exact ⟨m + 1, by omega, by go_num, HSN.out.2 ⟨HA.out, HF.out⟩, HB2.out.alloc HB2.out.size _⟩
        · have hne : ((m : Int) == (j : Int)) = false := by simp; omega
          by_cases hss : s' = s
          · subst hss
            go_wp2
            go_ret
            exact ⟨ret_bool (decide_eq_false fun hN => (by
              have h1 := (HSN.out.1 (apart_take hN _)).2
              have h2 : First ks s' (m + 1) := fun k hk => h1 k ((List.take_subset_take_left ks (show m + 1 ≤ j by omega)) hk)
              exact (HSN'.out.1 h2).2 rfl)).symm, HB2.out.alloc HB2.out.size _⟩
          · have hbe : (s'.toList == s.toList) = false := by rw [toList_inj]; exact decide_eq_false hss
            cases gk with
            | zero => omega
            | succ g2 =>
              have HSS := Lib.hid hss
              clear hss
              go_wp2
              go_roundg g2
              case measure => omega
              case rel => exact ⟨m + 1, by omega, by omega, by go_num, HSN'.out.2 ⟨HF.out, HSS.out⟩, Hb2.out.alloc Hb2.out.size _⟩
end Go.Proofs.Ytabmaiphjcbfbaa
