/- What stays of a device, whatever comes: plain mathematics over the states. -/
import Derived.Test.YtieknelmfjkbhaaDkS
namespace Go.Proofs.Ytieknelmfjkbhaa
open Go.RowKit Go.Maps

/-- A state that a device may have. -/
structure SWf (s : St) : Prop where
  len : s.safe.length = 512 * s.k
  w512 : ∀ i l, l ∈ s.wait i → l.length = 512
  inside : ∀ i, s.wait i ≠ [] → i < s.k

theorem DAt.swf {w : World} {own : Nat → Prop} {N p m : Nat} {sv : Value} {f : Nat → Value} {s : St} (h : DAt w own N p m sv f s) : SWf s := by
  refine ⟨h.slen, fun i l hl => ?_, h.inside⟩
  obtain ⟨j, hj, rfl⟩ := List.mem_iff_getElem.1 hl
  have := (h.rows i).len512 j hj
  rwa [List.getD, List.getElem?_eq_getElem hj] at this

section
variable {s : St}
theorem SWf.getD (h : SWf s) (i j : Nat) (hj : j < (s.wait i).length) : ((s.wait i).getD j []).length = 512 := by
  rw [List.getD, List.getElem?_eq_getElem hj]
  exact h.w512 i _ (List.getElem_mem hj)
theorem SWf.fated (h : SWf s) (i : Nat) (hi : i < s.k) (kept torn : Int) : (s.fated i kept torn).length = 512 := by
  have hw : (s.whole i kept).length = 512 := by
    unfold St.whole
    by_cases h0 : s.kept i kept = 0
    · rw [if_pos h0]; exact sec_length s i h.len hi
    · rw [if_neg h0]; exact h.getD i _ (by unfold St.kept at *; omega)
  unfold St.fated
  by_cases h0 : s.kept i kept < (s.wait i).length
  · rw [if_pos h0]; exact tearL_length hw (h.getD i _ h0) torn
  · rw [if_neg h0]; exact hw
theorem SWf.last (h : SWf s) (i : Nat) (hi : i < s.k) : (s.last i).length = 512 := by
  unfold St.last
  rw [List.getLastD_eq_getLast?]
  cases hh : (s.wait i).getLast? with
  | none => exact sec_length s i h.len hi
  | some l => exact h.w512 i l (List.mem_of_getLast? hh)
theorem SWf.settle (h : SWf s) (i : Nat) (hi : i < s.k) (kept torn : Int) : SWf (s.settle i kept torn) :=
  ⟨setSec_length s i _ h.len hi (h.fated i hi kept torn), h.w512, h.inside⟩
theorem dirty_at (s : St) (n : Nat) (hn : n < s.dirty.length) : s.dirty.getD n 0 ∈ s.dirty := by
  rw [List.getD, List.getElem?_eq_getElem hn]
  exact List.getElem_mem hn
theorem SWf.settled (h : SWf s) (ft : Nat → Int × Int) (n : Nat) (hn : n ≤ s.dirty.length) : SWf (s.settled ft n) := by
  induction n with
  | zero => exact h
  | succ n ih => exact (ih (by omega)).settle _ (by rw [settled_k]; exact dirty_lt s _ (dirty_at s n (by omega))) _ _
theorem SWf.crash (h : SWf s) (ft : Nat → Int × Int) : SWf (s.crash ft) :=
  ⟨by have := (h.settled ft s.dirty.length (Nat.le_refl _)).len; exact this, fun _ _ hl => absurd (show _ ∈ ([] : List (List UInt8)) from hl) List.not_mem_nil, fun _ hi => absurd rfl hi⟩
theorem crash_k (s : St) (ft : Nat → Int × Int) : (s.crash ft).k = s.k := settled_k s ft _
theorem dirty_iff (h : SWf s) (i : Nat) : i ∈ s.dirty ↔ s.wait i ≠ [] := by
  unfold St.dirty
  rw [List.mem_filter, List.mem_range]
  constructor
  · rintro ⟨_, h2⟩ e
    rw [e] at h2
    cases h2
  · intro hw
    refine ⟨h.inside i hw, ?_⟩
    cases hh : s.wait i with
    | nil => exact absurd hh hw
    | cons a r => rfl
theorem settled_clean (h : SWf s) (ft : Nat → Int × Int) (i : Nat) (hw : s.wait i = []) (n : Nat) (hn : n ≤ s.dirty.length) : (s.settled ft n).sec i = s.sec i := by
  induction n with
  | zero => rfl
  | succ n ih =>
    have hm := dirty_at s n (by omega)
    have hlt := dirty_lt s _ hm
    have hq : i ≠ s.dirty.getD n 0 := fun e => (dirty_iff h i).1 (e ▸ hm) hw
    have hS := h.settled ft n (by omega)
    show ((s.settled ft n).setSec _ _).sec i = _
    rw [sec_setSec_other _ _ _ _ hS.len (by rw [settled_k]; exact hlt) (hS.fated _ (by rw [settled_k]; exact hlt) _ _) hq]
    exact ih (by omega)
theorem crash_clean (h : SWf s) (ft : Nat → Int × Int) (i : Nat) (hw : s.wait i = []) : (s.crash ft).sec i = s.sec i := settled_clean h ft i hw _ (Nat.le_refl _)
theorem sync_sec (h : SWf s) (i : Nat) (hi : i < s.k) : s.sync.sec i = s.last i := secsOf_sec _ _ (fun j hj => h.last j hj) i hi
theorem sync_clean (h : SWf s) (hw : ∀ i, s.wait i = []) : s.sync.safe = s.safe := by
  refine safe_ext (secsOf_length _ _ (fun i hi => h.last i hi)) h.len (fun i hi => ?_)
  refine (sync_sec h i hi).trans ?_
  unfold St.last
  rw [hw i]
  rfl
theorem dirty_nil (s : St) (hw : ∀ i, s.wait i = []) : s.dirty = [] := by
  unfold St.dirty
  rw [List.filter_eq_nil_iff]
  intro i _
  rw [hw i]
  simp
theorem crash_nothing (ft : Nat → Int × Int) (hw : ∀ i, s.wait i = []) : (s.crash ft).safe = s.safe := by
  unfold St.crash
  rw [dirty_nil s hw]
  rfl

theorem go_k (s : St) (x : Stp) : (s.go x).1.k = s.k := by
  unfold St.go
  split
  · split
    · split <;> rfl
    · rfl
  · split
    · split <;> rfl
    · split
      · rfl
      · split
        · exact crash_k s _
        · split
          · split <;> rfl
          · rfl

/-- Sector i has no writes that are not safe, and holds L. -/
def Un (s : St) (i : Nat) (L : List UInt8) : Prop := s.wait i = [] ∧ s.sec i = L

theorem go_un (h : SWf s) (x : Stp) (i : Nat) (hi : i < s.k) (L : List UInt8) (hu : Un s i L) (ht : ¬ (x.d = 1 ∧ x.a = (i : Int))) : Un (s.go x).1 i L := by
  obtain ⟨hw, hs⟩ := hu
  unfold St.go
  split
  · rename_i h1
    split
    · split
      · refine ⟨?_, hs⟩
        show (if i = x.a.toNat then _ else s.wait i) = []
        rw [if_neg (fun e => ht ⟨h1, by omega⟩), hw]
      · exact ⟨hw, hs⟩
    · exact ⟨hw, hs⟩
  · split
    · split
      · refine ⟨rfl, ?_⟩
        show (s.burn.sync).sec i = L
        have hb : SWf s.burn := ⟨h.len, h.w512, h.inside⟩
        rw [sync_sec hb i hi]
        show s.last i = L
        unfold St.last
        rw [hw]
        exact hs
      · exact ⟨hw, hs⟩
    · split
      · exact ⟨hw, hs⟩
      · split
        · exact ⟨rfl, (crash_clean h _ i hw).trans hs⟩
        · split
          · split <;> exact ⟨hw, hs⟩
          · exact ⟨hw, hs⟩
end
end Go.Proofs.Ytieknelmfjkbhaa
