/- The contract of Dirty. -/
import Derived.Test.YtieknelmfjkbhaaInts
import Derived.Test.YtieknelmfjkbhaaDk4
import Derived.Test.YtieknelmfjkbhaaShelf
import Derived.Lib.SlKeysI
import Derived.Sort.OwnSortedInts
namespace Go.Proofs.Ytieknelmfjkbhaa
open Go.RowKit Go.Maps Go.Sort


/-- The sectors that have writes which are not safe, rising. -/
def St.dirty (s : St) : List Nat := (List.range s.k).filter fun i => !(s.wait i).isEmpty
def St.dirtyI (s : St) : List Int := s.dirty.map fun (i : Nat) => (i : Int)

theorem dirty_mem (s : St) (hin : ∀ i, s.wait i ≠ [] → i < s.k) (x : Int) : x ∈ s.dirtyI ↔ ∃ i : Nat, x = i ∧ (!(s.wait i).isEmpty) = true := by
  simp only [St.dirtyI, St.dirty, List.mem_map, List.mem_filter, List.mem_range]
  constructor
  · rintro ⟨i, ⟨_, h2⟩, rfl⟩
    exact ⟨i, rfl, h2⟩
  · rintro ⟨i, rfl, h⟩
    exact ⟨i, ⟨hin i (fun e => by rw [e] at h; cases h), h⟩, rfl⟩
theorem dirty_len (s : St) : s.dirtyI.length = s.dirty.length := by simp [St.dirtyI]
theorem dirty_rise (s : St) : s.dirty.Pairwise (· < ·) := List.pairwise_lt_range.filter _
theorem dirty_lt (s : St) : ∀ i ∈ s.dirty, i < s.k := fun _ hi => List.mem_range.1 (List.mem_filter.1 hi).1
theorem dirty_sorted (s : St) (ss : List Int) (hp : ss.Perm s.dirtyI) : (ss.mergeSort fun x y => decide (x ≤ y)) = s.dirtyI := by
  rw [mergeSort_of_perm_i hp]
  refine List.mergeSort_of_pairwise (List.pairwise_map.2 ((dirty_rise s).imp fun h => ?_))
  simp
  omega
theorem dirty_nodup (s : St) : s.dirtyI.Nodup := List.pairwise_map.2 ((dirty_rise s).imp fun h => by omega)

theorem row_ne_iter' {w : World} {B : Nat} {e n : Nat} {v : Value} {xs : List Value} (h : w.ownsRow B e 1 v n xs) {r : Nat} {since c0 : Nat} {seen : Array Nat} {bm : Option Nat} (hr : w.heap[r]? = some (.mapIter bm since seen c0)) : some r ≠ v.ownBlock := fun e => by
  obtain ⟨C, hC⟩ := own_tag h e.symm
  rw [hr] at hC
  cases hC

section
variable {w : World} {own : Nat → Prop} {N p m : Nat} {sv : Value} {f : Nat → Value} {s : St}

set_option maxRecDepth 20000 in
theorem Dirty_any (h : DAt w own N p m sv f s) :
    Calls Try.prog 17 #[.pointer (some ⟨p, 0, none⟩)] w fun e w' => ∃ g c, e = .returned (.slice (some ⟨g, 0, none⟩) s.dirty.length c) ∧ w'.ownsRow w.heap.size 3 1 (.slice (some ⟨g, 0, none⟩) s.dirty.length c) s.dirty.length (s.dirtyI.map (Value.int .i64)) ∧ Below w.heap.size w w' := by
  have c1 := h.c1
  have hmlt := h.map.lt
  have hn := h.nle
  have HIN := Lib.hid h.inside
  obtain ⟨D, hown, _, hhas, hkeys⟩ := h.map
  have HHAS := Lib.hid hhas
  have HKEYS := Lib.hid hkeys
  have hsz := hown.size_le
  have law : Keyed Try.prog 3 := int_keyed Try.underlying3
  obtain ⟨i0, hi, hz0, hz1, hz2⟩ := info_parts intT.info
  clear h hhas hkeys
  go_enter Try.func17, Try.ntmps17
  go_wp2_with (first
    | (at_len; refine wpList_len_own _ rfl _ 72 rfl 3 27 Try.underlying72 itself m N D rfl hown ?_)
    | (at_make; refine wpList_make_own _ rfl _ _ 43 rfl w.heap.size 3 i0 (.int .i64 0) 1 Try.underlying43 hi hz0 hz1 _ _ _ (Maps.size D) rfl rfl rfl (by rw [hz2]; omega) (by unfold maxLen; omega) (Nat.le_refl _) ?_; intro w1 hrow1 hg1; have hown1 := hown.kept hg1 (by simp); have c1' := hg1.cell c1 (by simp))
    | (at_range; refine wpList_range_own _ rfl _ 72 rfl 3 27 law Try.underlying72 itself m N D rfl hown1 ?_; intro w2 hrg2 hg2 hs2))
  try go_frame
  go_loopw [3] (fun v wr => ∃ (left : Lit → Bool) (cnt : Nat) (ss : List Int), wr.ranges Try.prog 3 itself m w1.heap.size N D left cnt ∧ ss.length + cnt ≤ Maps.size D ∧
      wr.ownsRow w.heap.size 3 1 v ss.length (ss.map encZ) ∧ v ≠ .slice none 0 0 ∧ CollectedI D left ss ∧ Below w.heap.size w wr)
    (fun _ wr => wr.rangeLeft m w1.heap.size)
  case atStart =>
    exact ⟨_, _, [], hrg2, by simp, hrow1.kept hg2 (Or.inr (by simp [Value.ownBlock])), by simp, CollectedI.start D,
      ((Below.refl _ _).grown hg1 (Nat.le_refl _) (fun j hj => by cases hj)).grown hg2 hg1.size (fun j hj => by cases hj)⟩
  case round =>
    obtain ⟨left, cnt, ss, hrg, hcs, hrow, hnn, hC, hnx⟩ := hrel
    have hw1 := hg1.size
    go_wp2_with (at_next; refine wpList_next_ranges _ rfl _ rfl 3 law itself (Value.int .i64) (fun v : Value => v) (fun key kl hk => by obtain ⟨x, hx, _⟩ := Maps.keyOf_i64 Try.underlying3 hk; exact ⟨x, hx⟩) (fun v y hv => ⟨v, rfl⟩) m w1.heap.size N _ _ _ rfl hrg ?_ ?_)
    · intro hc0 hl0
      rcases hrow.2 with ⟨hnil, _⟩ | ⟨g, cap, cur, rfl, hbase, hb, h1, h2, h3, h4⟩
      · exact absurd hnil hnn
      have hH : Holds encZ wr g 0 ss.toArray := holds_of_blockI hb (by simpa using h4)
      have hgl : g < wr.heap.size := (Array.getElem?_eq_some_iff.1 hb).1
      have hc := Try.slices_Sort_int g 0 cap ss wr hH hgl (by omega)
      have hperm : ss.Perm s.dirtyI := (List.perm_ext_iff_of_nodup hC.1 (dirty_nodup s)).2 fun x => by
        rw [hC.2 x, dirty_mem s HIN.out x, hl0]
        constructor
        · rintro ⟨hx, _⟩
          obtain ⟨i, hi⟩ := HKEYS.out _ hx
          injection hi with _ hi
          subst hi
          exact ⟨i, rfl, by rw [← HHAS.out i]; exact hx⟩
        · rintro ⟨i, rfl, hx⟩
          exact ⟨by rw [HHAS.out i]; exact hx, rfl⟩
      have hlen : ss.length = s.dirty.length := by rw [hperm.length_eq, dirty_len]
      have hsort := dirty_sorted s ss hperm
      have HSORT := Lib.hid hsort
      have HLEN := Lib.hid hlen
      clear hsort hlen hperm
      go_wp2_with (go_at_call 36; refine hc.mono ?_; rintro e w' ⟨rfl, nn, os, rfl⟩)
      go_ret
      rw [HSORT.out]
      refine ⟨g, cap, by rw [HLEN.out]; rfl, ?_, hnx.grown (grownBy_sortedI _) hnx.size (fun j hj => by cases hj; exact hbase)⟩
      have := ownsRow_sortedI (w := wr) (base := w.heap.size) (os := os) (n := nn) (ts := s.dirtyI) (ss := ss) (by rw [dirty_len, HLEN.out]) hbase hb h1 h2 h3
      rw [HLEN.out] at this
      exact this
    · intro x c kl yd yp w3 cnt3 hkey hlk hv hat hrg3 hlt hg3 hs3 hen
      obtain ⟨x', ex, rfl, _⟩ := Maps.keyOf_i64 Try.underlying3 hkey
      obtain rfl : x = x' := encZ_inj ex
      have hitr : ∃ since seen c0, wr.heap[w1.heap.size]? = some (.mapIter (some m) since seen c0) := by obtain ⟨es, clock, since, seen, c0, _, _, _, _, hr, _⟩ := hrg; exact ⟨since, seen, c0, hr⟩
      obtain ⟨since, seen, c0, hr⟩ := hitr
      have hitr3 : ∃ since seen c0, w3.heap[w1.heap.size]? = some (.mapIter (some m) since seen c0) := by obtain ⟨es, clock, since, seen, c0, _, _, _, _, hr, _⟩ := hrg3; exact ⟨since, seen, c0, hr⟩
      obtain ⟨since3, seen3, c03, hr3⟩ := hitr3
      have hrow3 := hrow.kept hg3 (Or.inr (row_ne_iter' hrow hr).symm)
      clear hs3
      go_wp2_with (at_builtin; refine wpList_append_own _ rfl _ _ 43 rfl w.heap.size 3 i0 (.int .i64 0) 1 8 Try.underlying43 hi hz0 hz1 hz2 rfl (by decide) _ _ _ rfl (hrow3.alloc _) ⟨w3.heap.size, 0, none⟩ 1 1 [encZ x] rfl rfl (cell_one_new _ _ _) (by simp [Value.oneCell', encZ]) (by unfold maxLen at *; omega) (by omega) (by have := hnx.size; have := hg3.size; simp; omega) ?_; intro v' w4 hown' hg4 hnil4; go_frame)
      have hmb : some m ≠ v'.ownBlock ∨ True := .inr trivial
      have hrow3b : some m ≠ _ := fun e => by
        obtain ⟨C, hC⟩ := own_tag hrow3 e.symm
        obtain ⟨es, clock, _, _, _, hb, _⟩ := hrg3
        rw [hb] at hC
        cases hC
      have hrg4 := (hrg3.alloc _).kept hg4 hrow3b (row_ne_iter' hrow3 hr3)
      go_roundw
      case rel =>
        refine ⟨_, cnt3, ss ++ [x], hrg4, by simp; omega, by simpa using hown', fun hv' => by have := (hnil4.1 hv').2; omega, hC.step hlk hat, ?_⟩
        exact ((hnx.grown hg3 hnx.size (fun j hj => by cases hj; exact hg1.size)).alloc (by have := hnx.size; have := hg3.size; omega) _).grown hg4 (by have := hnx.size; have := hg3.size; simp; omega) (fun j hj => (hrow3.lt j hj).1)
      case measure => rw [hrg4.left_eq, hrg.left_eq]; exact hlt
end
end Go.Proofs.Ytieknelmfjkbhaa
