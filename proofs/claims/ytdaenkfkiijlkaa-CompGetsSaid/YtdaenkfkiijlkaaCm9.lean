/- The contracts of All, Sectors, the reference's Same; live. -/
import Derived.Test.YtdaenkfkiijlkaaCm8
import Derived.Test.YtdaenkfkiijlkaaLe4s
import Derived.Test.YtdaenkfkiijlkaaBitsO
import Derived.Test.YtdaenkfkiijlkaaBitsR
namespace Go.Proofs.Ytdaenkfkiijlkaa
open Go.RowKit
set_option linter.unusedVariables false

theorem KRd.one (w : World) (s : ByteArray) (z : Int) : KRd (w.alloc (.cells #[.string s, .int .i64 z] 50)) (some ⟨w.heap.size, 0, none⟩) 1 [(s, z)] :=
  ⟨rfl, fun _ => ⟨w.heap.size, 0, rfl, by simp, fun j hj => by
    obtain rfl : j = 0 := by simp at hj; omega
    exact ⟨cell_of_row _ _ 0 _ _ _ (heap_alloc_last w _), cell_of_row _ _ 1 _ _ _ (heap_alloc_last w _)⟩⟩⟩

def liveB : List UInt8 := [2, 0, 0, 0, 4, 0, 0, 0, 1, 0, 0, 0, 1, 0, 0, 0, 1, 1, 0, 97, 3]
theorem liveB_eq : confB 2 4 1 1 [(⟨#[97]⟩, 3)] = liveB := by decide +kernel

theorem live_any (w : World) : Calls Try.prog 7 #[] w fun e w' => e = .returned (.bool true) ∧ Below w.heap.size w w' := by
  obtain ⟨w1, hw1⟩ : ∃ w1, w1 = w.alloc (.cells #[.string ⟨#[97]⟩, .int .i64 3] 50) := ⟨_, rfl⟩
  have hK : KRd w1 (some ⟨w.heap.size, 0, none⟩) 1 [(⟨#[97]⟩, 3)] := by rw [hw1]; exact KRd.one w _ _
  have hB1 : Below w.heap.size w w1 := by rw [hw1]; exact (Below.refl _ _).alloc (Nat.le_refl _) _
  obtain ⟨w2, hw2⟩ : ∃ w2, w2 = w1.alloc (.cells #[.int .i64 2, .int .i64 4, .int .i64 1, .int .i64 1, .slice (some ⟨w.heap.size, 0, none⟩) 1 1] 24) := ⟨_, rfl⟩
  have hB2 : Below w.heap.size w w2 := by rw [hw2]; exact hB1.alloc hB1.size _
  have hK2 : KRd w2 (some ⟨w.heap.size, 0, none⟩) 1 [(⟨#[97]⟩, 3)] := by rw [hw2]; exact hK.alloc _
  have q0 : w2.cell? ⟨w1.heap.size, 0, none⟩ = some (.int .i64 2) := by rw [hw2]; simp
  have q1 : w2.cell? ⟨w1.heap.size, 1, none⟩ = some (.int .i64 4) := by rw [hw2]; simp
  have q2 : w2.cell? ⟨w1.heap.size, 2, none⟩ = some (.int .i64 1) := by rw [hw2]; simp
  have q3 : w2.cell? ⟨w1.heap.size, 3, none⟩ = some (.int .i64 1) := by rw [hw2]; simp
  have q4 : w2.cell? ⟨w1.heap.size, 4, none⟩ = some (.slice (some ⟨w.heap.size, 0, none⟩) 1 1) := by rw [hw2]; simp
  have cP := CPut_any 2 4 1 1 (some ⟨w.heap.size, 0, none⟩) 1 1 [(⟨#[97]⟩, 3)] w2 hK2 (by omega) (fun k hk => by simp at hk; subst hk; decide)
  rw [liveB_eq] at cP
  have CP := Lib.hid cP
  have HB2 := Lib.hid hB2
  clear hK hK2 hB1 hB2 cP
  go_enter Try.func7, Try.ntmps7
  go_wp2_with (first
    | (rw [← hw1]; clear hw1)
    | (rw [← hw2]; clear hw2)
    | (go_at_call 17; refine CP.out.mono ?_; rintro e w3 ⟨v3, rfl, ho3, hb3⟩; obtain ⟨A3, c3, rfl, _, _, hr3⟩ := Rd.of_own ho3 rfl; have hbw := HB2.out.trans (hb3.mono HB2.out.size)))
  have hR : Rd (w3.alloc (.cells #[.int .u8 2, .int .u8 0, .int .u8 0, .int .u8 0, .int .u8 4, .int .u8 0, .int .u8 0, .int .u8 0, .int .u8 1, .int .u8 0, .int .u8 0, .int .u8 0, .int .u8 1, .int .u8 0, .int .u8 0, .int .u8 0, .int .u8 1, .int .u8 1, .int .u8 0, .int .u8 97, .int .u8 3] 5)) (some ⟨w3.heap.size, 0, none⟩) 21 liveB := Rd.new w3 5 [2, 0, 0, 0, 4, 0, 0, 0, 1, 0, 0, 0, 1, 0, 0, 0, 1, 1, 0, 97, 3] (0, 0)
  refine (Same_yes A3 _ liveB.length c3 21 21 liveB _ (hr3.alloc _) hR).mono ?_
  rintro e w' ⟨rfl, rfl⟩
  go_wp2
  go_ret
  exact ⟨rfl, hbw.alloc hbw.size _⟩

section
variable (lg pg en gn : Int) (A : Option Addr) (n cap : Nat) (ks : List Kd) (w : World)

theorem Sectors_any (h : KRd w A n ks) (hlg : 0 ≤ lg ∧ lg ≤ 1024) (hpg : 0 ≤ pg ∧ pg ≤ 1024) :
    Calls Try.prog 24 #[cv lg pg en gn A n cap] w fun e w' => e = .returned (.int .i64 (lg + pg + 2)) ∧ Below w.heap.size w w' := by
  obtain ⟨w1, hw1⟩ : ∃ w1, w1 = w.alloc (.cells (cc lg pg en gn A n cap) 24) := ⟨_, rfl⟩
  have C1 := CAt.new h lg pg en gn cap
  rw [← hw1] at C1
  obtain ⟨g, hg⟩ : ∃ g, g = w.heap.size := ⟨_, rfl⟩
  rw [← hg] at C1
  have c0 := C1.c0
  have c1 := C1.c1
  have K1 := Lib.hid C1
  have HG := Lib.hid hg
  clear h hg C1
  go_enter Try.func24, Try.ntmps24
  go_wp2_with (rw [← hw1, ← HG.out]; clear hw1)
  go_ret
  exact ⟨ret_int (by omega), K1.out.bel⟩

theorem RSame_yes (A' : Option Addr) (cap' : Nat) (h : KRd w A n ks) (h' : KRd w A' n ks) (hn : n ≤ 1000000) :
    Calls Try.prog 21 #[cv lg pg en gn A n cap, cv lg pg en gn A' n cap'] w fun e w' => e = .returned (.bool true) ∧ Below w.heap.size w w' := by
  obtain ⟨w1, hw1⟩ : ∃ w1, w1 = w.alloc (.cells (cc lg pg en gn A n cap) 24) := ⟨_, rfl⟩
  have C1 := CAt.new h lg pg en gn cap
  rw [← hw1] at C1
  obtain ⟨w2, hw2⟩ : ∃ w2, w2 = w1.alloc (.cells (cc lg pg en gn A' n cap') 24) := ⟨_, rfl⟩
  have C2 := CAt.new (w := w1) (h'.below C1.bel) lg pg en gn cap'
  rw [← hw2] at C2
  obtain ⟨g, hg⟩ : ∃ g, g = w.heap.size := ⟨_, rfl⟩
  rw [← hg] at C1
  have hg2 : w1.heap.size = g + 1 := by rw [hw1, hg]; simp
  rw [hg2] at C2
  have hw12 : w2 = (w.alloc (.cells (cc lg pg en gn A n cap) 24)).alloc (.cells (cc lg pg en gn A' n cap') 24) := by rw [hw2, hw1]
  have C1' := C1.next C2.bel
  have c0 := C1'.c0
  have c1 := C1'.c1
  have c2 := C1'.c2
  have c3 := C1'.c3
  have c4 := C1'.c4
  have d0 := C2.c0
  have d1 := C2.c1
  have d2 := C2.c2
  have d3 := C2.c3
  have d4 := C2.c4
  have hl := h.1
  have K1 := Lib.hid C1'
  have K2 := Lib.hid C2
  have HG := Lib.hid hg
  clear h h' hg hg2 hw1 hw2 C1 C2 C1'
  go_enter Try.func21, Try.ntmps21
  go_wp2_with (rw [← hw12, ← HG.out]; clear hw12)
  clear c0 c1 c2 c3 d0 d1 d2 d3
  go_loopw [5] (fun i wr => ∃ j nn : Nat, j ≤ n ∧ i = .int .i64 j ∧ wr = w2.drewN nn) (fun i _ => n - (intOf i).toNat)
  case atStart => exact ⟨0, 0, Nat.zero_le _, rfl, rfl⟩
  case round =>
    obtain ⟨j, nn, hj, rfl, rfl⟩ := hrel
    by_cases hlt : j < n
    · obtain ⟨b, o, s, z, rfl, _, k0, k1, hl', hk⟩ := K1.out.rd.at_ hlt
      obtain ⟨b', o', s', z', rfl, _, k0', k1', hl'', hk'⟩ := K2.out.rd.at_ hlt
      obtain ⟨rfl, rfl⟩ : s = s' ∧ z = z' := by
        have := hk.symm.trans hk'
        simpa using this
      clear hk hk'
      have hlt' : (j : Int) < (n : Int) := by omega
      go_wp2
      go_quiet (fail)
      go_wp2
      go_roundw
      case rel => exact ⟨j + 1, _, hlt, by go_num, rfl⟩
      case measure => simp [intOf]; omega
    · go_wp2
      go_ret
      exact ⟨rfl, K1.out.bel.trans ((below_drewN w2 nn).mono K1.out.bel.size)⟩

/-- The places of n components. -/
def idxs (n : Nat) : List Int := (List.range n).map Int.ofNat
theorem idxs_succ (n : Nat) : idxs (n + 1) = idxs n ++ [(n : Int)] := by simp [idxs, List.range_succ]
theorem orL_more (l : List Int) (c : Int) : orL l ||| orL [c] = orL (l ++ [c]) := by
  rw [orL_snoc, orL_one]
  split
  · rfl
  · exact Nat.or_zero _

theorem All_any (h : KRd w A n ks) (hn : n ≤ 1000000) :
    Calls Try.prog 22 #[cv lg pg en gn A n cap] w fun e w' => e = .returned (.int .u64 (ofL (idxs n) 64 : Nat)) ∧ Below w.heap.size w w' := by
  obtain ⟨w1, hw1⟩ : ∃ w1, w1 = w.alloc (.cells (cc lg pg en gn A n cap) 24) := ⟨_, rfl⟩
  have C1 := CAt.new h lg pg en gn cap
  rw [← hw1] at C1
  obtain ⟨g, hg⟩ : ∃ g, g = w.heap.size := ⟨_, rfl⟩
  rw [← hg] at C1
  have c4 := C1.c4
  have K1 := Lib.hid C1
  have HG := Lib.hid hg
  clear h hg C1
  go_enter Try.func22, Try.ntmps22
  go_wp2_with (rw [← hw1, ← HG.out]; clear hw1)
  go_loopw [3, 8] (fun v i wr => ∃ j : Nat, j ≤ n ∧ i = .int .i64 j ∧ v = .int .u64 (orL (idxs j) : Nat) ∧ Below w.heap.size w wr) (fun _ i _ => n - (intOf i).toNat)
  case atStart => exact ⟨0, Nat.zero_le _, rfl, rfl, K1.out.bel⟩
  case round =>
    obtain ⟨j, hj, rfl, rfl, hb⟩ := hrel
    by_cases hlt : j < n
    · have HB := Lib.hid hb
      have hlo := orL_lt (idxs j)
      have hmo := orL_more (idxs j) j
      obtain ⟨s, hs⟩ : ∃ s, s = orL (idxs j) := ⟨_, rfl⟩
      rw [← hs] at hlo hmo ⊢
      have cW := With_any s j wr hlo
      rw [hmo, ← idxs_succ] at cW
      have CW := Lib.hid cW
      clear hb hlo hmo hs cW
      go_wp2_with (go_at_call 39; refine CW.out.mono ?_; rintro e w2 ⟨rfl, hb2⟩; have HB2 := Lib.hid hb2; clear hb2)
      go_roundw
      case rel => exact ⟨j + 1, hlt, by go_num, rfl, HB.out.trans (HB2.out.mono HB.out.size)⟩
      case measure => simp [intOf]; omega
    · obtain rfl : j = n := by omega
      rw [orL_eq]
      have HB := Lib.hid hb
      clear hb
      go_wp2
      go_ret
      exact ⟨rfl, HB.out⟩
end
end Go.Proofs.Ytdaenkfkiijlkaa
