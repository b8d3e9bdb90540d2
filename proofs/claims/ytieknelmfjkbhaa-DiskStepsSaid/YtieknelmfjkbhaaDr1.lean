/- The reference's device as a value; its small functions: burn, of, Last. -/
import Derived.Test.YtieknelmfjkbhaaDkS
import Derived.Laws.ResultCell
namespace Go.Proofs.Ytieknelmfjkbhaa
open Go.RowKit

/-- A slice of slices of 512 bytes. -/
def RowsR (w : World) (A : Option Addr) (n : Nat) (ls : List (List UInt8)) : Prop :=
  ls.length = n ∧ (0 < n → ∃ b o, A = some ⟨b, o, none⟩ ∧ b < w.heap.size ∧ ∀ j (_ : j < ls.length), ∃ b' o' c', w.cell? ⟨b, o + j, none⟩ = some (.slice (some ⟨b', o', none⟩) 512 c') ∧ 512 ≤ c' ∧ c' ≤ maxLen ∧ Rd w (some ⟨b', o', none⟩) 512 (ls.getD j []))
/-- A slice of writes. -/
def WaitR (w : World) (A : Option Addr) (n : Nat) (ls : List (Nat × List UInt8)) : Prop :=
  ls.length = n ∧ (0 < n → ∃ b o, A = some ⟨b, o, none⟩ ∧ b < w.heap.size ∧ ∀ j (_ : j < ls.length), ∃ b' o' c', w.cell? ⟨b, o + j * 2, none⟩ = some (.int .i64 ((ls.getD j (0, [])).1 : Nat)) ∧ w.cell? ⟨b, o + j * 2 + 1, none⟩ = some (.slice (some ⟨b', o', none⟩) 512 c') ∧ 512 ≤ c' ∧ c' ≤ maxLen ∧ Rd w (some ⟨b', o', none⟩) 512 (ls.getD j (0, [])).2)

section
variable {w w' : World} {A : Option Addr} {n : Nat}
theorem RowsR.below {ls : List (List UInt8)} (h : RowsR w A n ls) (hb : Below w.heap.size w w') : RowsR w' A n ls :=
  ⟨h.1, fun hp => by
    obtain ⟨b, o, e, hlt, hc⟩ := h.2 hp
    refine ⟨b, o, e, Nat.lt_of_lt_of_le hlt hb.size, fun j hj => ?_⟩
    obtain ⟨b', o', c', h1, h2, h3, h4⟩ := hc j hj
    exact ⟨b', o', c', (hb.cell (p := ⟨b, o + j, none⟩) hlt).trans h1, h2, h3, h4.below (Nat.le_refl _) hb⟩⟩
theorem WaitR.below {ls : List (Nat × List UInt8)} (h : WaitR w A n ls) (hb : Below w.heap.size w w') : WaitR w' A n ls :=
  ⟨h.1, fun hp => by
    obtain ⟨b, o, e, hlt, hc⟩ := h.2 hp
    refine ⟨b, o, e, Nat.lt_of_lt_of_le hlt hb.size, fun j hj => ?_⟩
    obtain ⟨b', o', c', h0, h1, h2, h3, h4⟩ := hc j hj
    exact ⟨b', o', c', (hb.cell (p := ⟨b, o + j * 2, none⟩) hlt).trans h0, (hb.cell (p := ⟨b, o + j * 2 + 1, none⟩) hlt).trans h1, h2, h3, h4.below (Nat.le_refl _) hb⟩⟩
theorem RowsR.nil (w : World) (A : Option Addr) : RowsR w A 0 [] := ⟨rfl, fun h => absurd h (Nat.lt_irrefl 0)⟩
theorem WaitR.nil (w : World) (A : Option Addr) : WaitR w A 0 [] := ⟨rfl, fun h => absurd h (Nat.lt_irrefl 0)⟩
end

/-- The reference's device as a value. -/
def rv (SA : Option Addr) (sn sc : Nat) (WA : Option Addr) (wn wc : Nat) (fuse : Int) (off : Bool) (rd wr : Int) : Value :=
  .agg #[.slice SA sn sc, .slice WA wn wc, .int .i64 fuse, .bool off, .int .i64 rd, .int .i64 wr]

section
variable (SA : Option Addr) (sn sc : Nat) (WA : Option Addr) (wn wc : Nat) (fuse : Int) (off : Bool) (rd wr : Int) (w : World)

theorem burn_no (h : off = true ∨ fuse = 0) :
    Calls Try.prog 34 #[rv SA sn sc WA wn wc fuse off rd wr] w fun e w' => e = .returned (.tuple #[rv SA sn sc WA wn wc fuse true rd wr, .int .i64 3]) ∧ Below w.heap.size w w' := by
  unfold rv
  cases off
  · obtain rfl : fuse = 0 := by simpa using h
    clear h
    go_enter Try.func34, Try.ntmps34
    go_wp2
    exact bodyPost_ret (v := .tuple #[.agg #[.slice SA sn sc, .slice WA wn wc, .int .i64 0, .bool true, .int .i64 rd, .int .i64 wr], .int .i64 3]) (by simp [results, Try.results34, go_sem]) rfl ⟨rfl, (((Below.refl _ _).alloc (Nat.le_refl _) _).alloc (by simp) _)⟩
  · clear h
    go_enter Try.func34, Try.ntmps34
    go_wp2
    exact bodyPost_ret (v := .tuple #[.agg #[.slice SA sn sc, .slice WA wn wc, .int .i64 fuse, .bool true, .int .i64 rd, .int .i64 wr], .int .i64 3]) (by simp [results, Try.results34, go_sem]) rfl ⟨rfl, (((Below.refl _ _).alloc (Nat.le_refl _) _).alloc (by simp) _)⟩

theorem burn_yes (h : fuse ≠ 0) (hf : -9223372036854775808 ≤ fuse ∧ fuse ≤ 9223372036854775807) :
    Calls Try.prog 34 #[rv SA sn sc WA wn wc fuse false rd wr] w fun e w' => e = .returned (.tuple #[rv SA sn sc WA wn wc (if 0 < fuse then fuse - 1 else fuse) false rd wr, .int .i64 0]) ∧ Below w.heap.size w w' := by
  unfold rv
  by_cases hp : 0 < fuse
  · rw [if_pos hp]
    go_enter Try.func34, Try.ntmps34
    go_wp2
    exact bodyPost_ret (v := .tuple #[.agg #[.slice SA sn sc, .slice WA wn wc, .int .i64 (fuse - 1), .bool false, .int .i64 rd, .int .i64 wr], .int .i64 0]) (by simp [results, Try.results34, go_sem]) rfl ⟨rfl, (((Below.refl _ _).alloc (Nat.le_refl _) _).alloc (by simp) _)⟩
  · rw [if_neg hp]
    go_enter Try.func34, Try.ntmps34
    go_wp2
    exact bodyPost_ret (v := .tuple #[.agg #[.slice SA sn sc, .slice WA wn wc, .int .i64 fuse, .bool false, .int .i64 rd, .int .i64 wr], .int .i64 0]) (by simp [results, Try.results34, go_sem]) rfl ⟨rfl, (((Below.refl _ _).alloc (Nat.le_refl _) _).alloc (by simp) _)⟩
end

/-- The writes to sector i. -/
def fl (i : Nat) (ls : List (Nat × List UInt8)) : List (List UInt8) := (ls.filter fun x => decide (x.1 = i)).map (·.2)
theorem fl_snoc (i : Nat) (ls : List (Nat × List UInt8)) (x : Nat × List UInt8) : fl i (ls ++ [x]) = fl i ls ++ (if x.1 = i then [x.2] else []) := by
  unfold fl
  rw [List.filter_append, List.map_append]
  by_cases h : x.1 = i <;> simp [h]

/-- Values that are slices of 512 bytes. -/
def Hd (w : World) (vs : List Value) (ls : List (List UInt8)) : Prop :=
  vs.length = ls.length ∧ ∀ j (_ : j < ls.length), ∃ b' o' c', vs[j]? = some (.slice (some ⟨b', o', none⟩) 512 c') ∧ 512 ≤ c' ∧ c' ≤ maxLen ∧ Rd w (some ⟨b', o', none⟩) 512 (ls.getD j [])
theorem Hd.below {w w' : World} {vs : List Value} {ls : List (List UInt8)} (h : Hd w vs ls) (hb : Below w.heap.size w w') : Hd w' vs ls :=
  ⟨h.1, fun j hj => by obtain ⟨b', o', c', h1, h2, h3, h4⟩ := h.2 j hj; exact ⟨b', o', c', h1, h2, h3, h4.below (Nat.le_refl _) hb⟩⟩
theorem Hd.snoc {w : World} {vs : List Value} {ls : List (List UInt8)} (h : Hd w vs ls) (b o c : Nat) (l : List UInt8) (hc : 512 ≤ c) (hm : c ≤ maxLen) (hr : Rd w (some ⟨b, o, none⟩) 512 l) : Hd w (vs ++ [.slice (some ⟨b, o, none⟩) 512 c]) (ls ++ [l]) := by
  refine ⟨by simp [h.1], fun j hj => ?_⟩
  by_cases hj' : j < ls.length
  · obtain ⟨b', o', c', h1, h2, h3, h4⟩ := h.2 j hj'
    refine ⟨b', o', c', by rw [List.getElem?_append_left (by have := h.1; omega)]; exact h1, h2, h3, ?_⟩
    rw [List.getD, List.getElem?_append_left hj', ← List.getD]; exact h4
  · have e : j = ls.length := by simp at hj; omega
    subst e
    refine ⟨b, o, c, by rw [← h.1]; simp, hc, hm, ?_⟩
    simpa [List.getD] using hr
theorem Hd.rows {w : World} {B : Nat} {v : Value} {vs : List Value} {ls : List (List UInt8)} {n : Nat} (h : Hd w vs ls) (ho : w.ownsRow B 32 1 v n vs) : ∃ A c, v = .slice A n c ∧ n ≤ c ∧ c ≤ maxLen ∧ RowsR w A n ls := by
  have hn : ls.length = n := by have := ho.1; have := h.1; omega
  rcases ho.2 with ⟨rfl, rfl⟩ | ⟨g, cap, cur, rfl, _, hh, hnc, hc, _⟩
  · exact ⟨none, 0, rfl, Nat.le_refl _, Nat.zero_le _, hn, fun h => absurd h (Nat.lt_irrefl 0)⟩
  · refine ⟨_, cap, rfl, hnc, hc, hn, fun _ => ⟨g, 0, rfl, (Array.getElem?_eq_some_iff.1 hh).1, fun j hj => ?_⟩⟩
    obtain ⟨b', o', c', h1, h2, h3, h4⟩ := h.2 j hj
    have := ho.cells (g := g) rfl j _ h1
    rw [Addr.add_lit] at this
    exact ⟨b', o', c', this, h2, h3, h4⟩

section
variable (SA : Option Addr) (sn sc : Nat) (WA : Option Addr) (wn wc : Nat) (fuse : Int) (off : Bool) (rd wr : Int) (w : World)

set_option maxRecDepth 20000 in
theorem of_any (i : Nat) (ls : List (Nat × List UInt8)) (hW : WaitR w WA wn ls) (hwn : wn ≤ 1000000) :
    Calls Try.prog 37 #[rv SA sn sc WA wn wc fuse off rd wr, .int .i64 i] w fun e w' => ∃ A n c, e = .returned (.slice A n c) ∧ n ≤ c ∧ c ≤ maxLen ∧ n ≤ wn ∧ RowsR w' A n (fl i ls) ∧ Below w.heap.size w w' := by
  unfold rv
  obtain ⟨w1, hw1⟩ : ∃ w1, w1 = w.alloc (.cells #[.slice SA sn sc, .slice WA wn wc, .int .i64 fuse, .bool off, .int .i64 rd, .int .i64 wr] 30) := ⟨_, rfl⟩
  have hB1 : Below w.heap.size w w1 := by rw [hw1]; exact (Below.refl _ _).alloc (Nat.le_refl _) _
  have q1 : w1.cell? ⟨w.heap.size, 1, none⟩ = some (.slice WA wn wc) := by rw [hw1]; simp
  have hlt : w.heap.size < w1.heap.size := by rw [hw1]; simp
  have HW := Lib.hid (hW.below hB1)
  have HB1 := Lib.hid hB1
  obtain ⟨i0, hi0, hz0, hz1, hz2⟩ := info_parts listT.info
  have hl := hW.1
  have HL := Lib.hid hl
  clear hW hB1 hl
  go_enter Try.func37, Try.ntmps37
  go_wp2
  rw [← hw1]
  clear hw1
  go_loopw [5, 6] (fun v iv wr => ∃ (j m : Nat) (vs : List Value), j ≤ wn ∧ m ≤ j ∧ iv = .int .i64 j ∧ wr.ownsRow w1.heap.size 32 1 v m vs ∧ Hd w1 vs (fl i (ls.take j)) ∧ Below w1.heap.size w1 wr) (fun _ iv _ => wn - (intOf iv).toNat)
  case atStart => exact ⟨0, 0, [], Nat.zero_le _, Nat.le_refl _, rfl, World.ownsRow_nil _ _ _ _, ⟨rfl, fun j hj => absurd hj (Nat.not_lt_zero j)⟩, Below.refl _ _⟩
  case round =>
    obtain ⟨j, m, vs, hj, hmj, rfl, ho, hH, hB⟩ := hrel
    have q1' := (hB.cell (p := ⟨w.heap.size, 1, none⟩) hlt).trans q1
    by_cases hjn : j < wn
    · obtain ⟨b, o, hA, hblt, hc⟩ := HW.out.2 (by omega)
      obtain ⟨b', o', c', k0', k1', hc1, hc2, hr⟩ := hc j (by rw [HL.out]; exact hjn)
      have k0 := (hB.cell (p := ⟨b, o + j * 2, none⟩) hblt).trans k0'
      have k1 := (hB.cell (p := ⟨b, o + j * 2 + 1, none⟩) hblt).trans k1'
      clear k0' k1'
      obtain ⟨y, hy⟩ : ∃ y, y = ls.getD j (0, []) := ⟨_, rfl⟩
      rw [← hy] at k0 hr
      have htk : ls.take (j + 1) = ls.take j ++ [y] := by
        rw [List.take_succ_eq_append_getElem (by rw [HL.out]; exact hjn), hy, List.getD, List.getElem?_eq_getElem (by rw [HL.out]; exact hjn)]
        rfl
      have HTK := Lib.hid htk
      clear hc hy htk
      subst hA
      have HH := Lib.hid hH
      have HR := Lib.hid hr
      clear hH hr
      by_cases hyi : y.1 = i
      · rw [hyi] at k0
        have HYI := Lib.hid hyi
        have hs := hB.size
        clear hyi
        go_wp2_with (at_builtin; refine wpList_append_own_at _ rfl _ _ 27 rfl w1.heap.size 32 i0 nilv 1 24 Try.underlying27 hi0 hz0 hz1 hz2 rfl (by decide) _ _ _ rfl (ho.alloc _) ⟨wr.heap.size, 0, none⟩ 1 1 [.slice (some ⟨b', o', none⟩) 512 c'] rfl rfl (cell_one_new _ _ _) (fun u hu => by rw [List.mem_singleton.1 hu]; rfl) (by unfold maxLen; omega) (by omega) (by simp; omega) ?_; intro v' w4 ho4 hg4 _ _; try go_frame)
        go_roundw
        case rel =>
          have hB4 : Below wr.heap.size wr (wr.alloc (.cells #[.slice (some ⟨b', o', none⟩) 512 c'] 32)) := (Below.refl _ _).alloc (Nat.le_refl _) _
          have hB5 : Below w1.heap.size w1 w4 := (hB.alloc hs _).grown hg4 (by simp; omega) (fun q hq => (ho.lt q hq).1)
          refine ⟨j + 1, m + 1, vs ++ [.slice (some ⟨b', o', none⟩) 512 c'], hjn, by omega, by go_num, ho4, ?_, hB5⟩
          rw [HTK.out, fl_snoc, if_pos HYI.out]
          exact HH.out.snoc b' o' c' _ hc1 hc2 HR.out
        case measure => simp [intOf]; omega
      · have hyi' : ¬ ((y.1 : Nat) : Int) = (i : Int) := by omega
        go_wp2
        go_roundw
        case rel => exact ⟨j + 1, m, vs, hjn, by omega, by go_num, ho, by rw [HTK.out, fl_snoc, if_neg hyi, List.append_nil]; exact HH.out, hB⟩
        case measure => simp [intOf]; omega
    · have e : j = wn := by omega
      subst e
      have HH := Lib.hid hH
      clear hH
      go_wp2
      go_ret
      have hH2 := HH.out
      rw [List.take_of_length_le (by rw [HL.out]; exact Nat.le_refl _)] at hH2
      obtain ⟨A, c, rfl, h1, h2, h3⟩ := (hH2.below hB).rows ho
      exact ⟨A, m, c, rfl, h1, h2, hmj, h3, HB1.out.trans (hB.mono HB1.out.size)⟩
end
end Go.Proofs.Ytieknelmfjkbhaa
