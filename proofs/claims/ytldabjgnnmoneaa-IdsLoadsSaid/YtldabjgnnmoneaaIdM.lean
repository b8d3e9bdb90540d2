/- Names of entities, plainly: generations and free indexes. Nothing here speaks of one program. -/
import Derived.Test.YtldabjgnnmoneaaMem
namespace Go.Proofs.Ytldabjgnnmoneaa

/-- The state: how many indexes, how many generations, the generations, the free indexes. -/
structure NS where
  E : Nat
  L : Int
  g : List Int
  fr : List Int

def NS.live (s : NS) (k : Int) : Bool := decide (0 ≤ k ∧ k < s.g.length ∧ k ∉ s.fr ∧ s.g.getD k.toNat 0 < s.L)
def NS.at_ (s : NS) (k : Int) : (Int × Int) × Bool := if s.live k = true then ((k, s.g.getD k.toNat 0), true) else ((0, 0), false)
def NS.alive (s : NS) (i gen : Int) : Bool := s.live i && decide (s.g.getD i.toNat 0 = gen)
def NS.liveL (s : NS) : List Bool := (List.range s.g.length).map fun (i : Nat) => s.live i
def NS.cnt (s : NS) (n : Nat) : Nat := ((List.range n).filter fun (i : Nat) => s.live i).length

structure NS.Ok (s : NS) : Prop where
  E1 : 1 ≤ s.E
  E2 : s.E ≤ 1024
  L1 : 1 ≤ s.L
  L2 : s.L ≤ 1073741824
  len : s.g.length ≤ s.E
  gz : ∀ x ∈ s.g, 0 ≤ x ∧ x ≤ s.L
  fz : ∀ k ∈ s.fr, 0 ≤ k ∧ k < s.g.length ∧ 1 ≤ s.g.getD k.toNat 0 ∧ s.g.getD k.toNat 0 < s.L
  nd : s.fr.Nodup

def nears (n : Int) (high : Int) : Int := min (max n 1) high
def NS.new (entities gens : Int) : NS := ⟨(nears entities 1024).toNat, nears gens 1073741824, [], []⟩
def NS.take (s : NS) : NS × (Int × Int) × Int :=
  if s.fr = [] then
    if s.g.length = s.E then (s, (0, 0), 9) else ({ s with g := s.g ++ [0] }, (s.g.length, 0), 0)
  else ({ s with fr := s.fr.dropLast }, (s.fr.getLastD 0, s.g.getD (s.fr.getLastD 0).toNat 0), 0)
def NS.give (s : NS) (i gen : Int) : NS × Int :=
  if s.alive i gen = true then ({ s with g := s.g.set i.toNat (gen + 1), fr := if gen + 1 < s.L then s.fr ++ [i] else s.fr }, 0) else (s, 5)

theorem nears_bounds (n high : Int) (h : 1 ≤ high) : 1 ≤ nears n high ∧ nears n high ≤ high := by unfold nears; omega

section
variable {s : NS}

theorem NS.live_iff {k : Int} : s.live k = true ↔ 0 ≤ k ∧ k < s.g.length ∧ k ∉ s.fr ∧ s.g.getD k.toNat 0 < s.L := by simp [NS.live]
theorem NS.liveL_len (s : NS) : s.liveL.length = s.g.length := by simp [NS.liveL]
theorem NS.liveL_at (s : NS) {j : Nat} (h : j < s.g.length) : s.liveL.getD j false = s.live j := by simp [NS.liveL, h]
theorem NS.liveL_get (s : NS) {j : Nat} (h : j < s.liveL.length) : s.liveL[j] = s.live j := by simp [NS.liveL]
theorem NS.Ok.gD (h : s.Ok) (j : Nat) : 0 ≤ s.g.getD j 0 ∧ s.g.getD j 0 ≤ s.L := by
  by_cases hj : j < s.g.length
  · have := h.gz (s.g[j]) (List.getElem_mem hj)
    simpa [List.getD, List.getElem?_eq_getElem hj] using this
  · have := h.L1
    simp [List.getD, List.getElem?_eq_none (Nat.not_lt.1 hj)]
    omega
theorem NS.new_ok (entities gens : Int) : (NS.new entities gens).Ok := by
  have h1 := nears_bounds entities 1024 (by decide)
  have h2 := nears_bounds gens 1073741824 (by decide)
  refine ⟨?_, ?_, h2.1, h2.2, ?_, fun x hx => absurd hx List.not_mem_nil, fun x hx => absurd hx List.not_mem_nil, List.nodup_nil⟩
  · show 1 ≤ (nears entities 1024).toNat; omega
  · show (nears entities 1024).toNat ≤ 1024; omega
  · show (0 : Nat) ≤ _; exact Nat.zero_le _
theorem NS.cnt_succ (s : NS) (n : Nat) : s.cnt (n + 1) = s.cnt n + (if s.live n = true then 1 else 0) := by
  unfold NS.cnt
  rw [List.range_succ, List.filter_append, List.length_append]
  by_cases h : s.live n = true <;> simp [h]
theorem NS.cnt_le (s : NS) (n : Nat) : s.cnt n ≤ n := by
  unfold NS.cnt
  have := List.length_filter_le (fun (i : Nat) => s.live i) (List.range n)
  rw [List.length_range] at this
  exact this

/-- The free indexes, parted before the last one. -/
theorem NS.fr_last (h : s.fr ≠ []) : s.fr = s.fr.dropLast ++ [s.fr.getLastD 0] := by
  have := (List.dropLast_concat_getLast h).symm
  rw [List.getLastD_eq_getLast?, List.getLast?_eq_some_getLast h]
  exact this
theorem NS.last_mem (h : s.fr ≠ []) : s.fr.getLastD 0 ∈ s.fr := by
  rw [List.getLastD_eq_getLast?, List.getLast?_eq_some_getLast h]
  exact List.getLast_mem h

theorem NS.take_free (h : s.fr ≠ []) : s.take = ({ s with fr := s.fr.dropLast }, (s.fr.getLastD 0, s.g.getD (s.fr.getLastD 0).toNat 0), 0) := by unfold NS.take; rw [if_neg h]
theorem NS.take_full (h : s.fr = []) (hf : s.g.length = s.E) : s.take = (s, (0, 0), 9) := by unfold NS.take; rw [if_pos h, if_pos hf]
theorem NS.take_next (h : s.fr = []) (hf : s.g.length ≠ s.E) : s.take = ({ s with g := s.g ++ [0] }, ((s.g.length : Int), 0), 0) := by unfold NS.take; rw [if_pos h, if_neg hf]

theorem NS.take_ok (h : s.Ok) : s.take.1.Ok := by
  by_cases hf : s.fr = []
  · by_cases he : s.g.length = s.E
    · rw [NS.take_full hf he]; exact h
    · rw [NS.take_next hf he]
      have hl := h.len
      have hL1 := h.L1
      refine ⟨h.E1, h.E2, h.L1, h.L2, ?_, ?_, ?_, ?_⟩
      · simp only [List.length_append, List.length_singleton]; omega
      · intro x hx
        rcases List.mem_append.1 hx with hx | hx
        · exact h.gz x hx
        · rw [List.mem_singleton.1 hx]; exact ⟨by decide, by show (0 : Int) ≤ s.L; omega⟩
      · intro k hk; rw [show ({ s with g := s.g ++ [0] } : NS).fr = s.fr from rfl, hf] at hk; exact absurd hk List.not_mem_nil
      · exact h.nd
  · rw [NS.take_free hf]
    refine ⟨h.E1, h.E2, h.L1, h.L2, h.len, h.gz, ?_, ?_⟩
    · intro k hk
      exact h.fz k (List.dropLast_subset _ hk)
    · exact h.nd.sublist (List.dropLast_sublist _)

/-- What is alive behind a Take of a free index. -/
theorem NS.liveL_free (h : s.Ok) (hf : s.fr ≠ []) : s.take.1.liveL = s.liveL.set (s.fr.getLastD 0).toNat true := by
  rw [NS.take_free hf]
  obtain ⟨k0, k1, k2, k3⟩ := h.fz _ (NS.last_mem hf)
  have e := NS.fr_last hf
  have nd := h.nd
  rw [e] at nd
  obtain ⟨k, hk⟩ : ∃ k, k = s.fr.getLastD 0 := ⟨_, rfl⟩
  obtain ⟨f, hf'⟩ : ∃ f, f = s.fr.dropLast := ⟨_, rfl⟩
  rw [← hk] at k0 k1 k2 k3 e nd ⊢
  rw [← hf'] at e nd ⊢
  have hkf : k ∉ f := fun hm => (List.nodup_append.1 nd).2.2 k hm k (List.mem_singleton.2 rfl) rfl
  apply List.ext_getElem
  · simp [NS.liveL]
  · intro j h1 h2
    have hj : j < s.g.length := by simpa [NS.liveL] using h1
    rw [NS.liveL_get, List.getElem_set]
    by_cases hjk : k.toNat = j
    · rw [if_pos hjk]
      refine NS.live_iff.2 ⟨Int.natCast_nonneg _, Int.ofNat_lt.2 hj, ?_, ?_⟩
      · rw [show (j : Int) = k by omega]; exact hkf
      · show s.g.getD (j : Int).toNat 0 < s.L
        rw [show (j : Int).toNat = k.toNat by omega]; exact k3
    · rw [if_neg hjk, NS.liveL_get]
      unfold NS.live
      apply decide_eq_decide.2
      have : (j : Int) ≠ k := by omega
      simp only
      rw [e]
      simp [this]

/-- One index more. -/
def NS.push (s : NS) (gen : Int) : NS := { s with g := s.g ++ [gen] }
theorem NS.push_ok (h : s.Ok) {gen : Int} (hl : s.g.length < s.E) (hg : 0 ≤ gen ∧ gen ≤ s.L) : (s.push gen).Ok := by
  refine ⟨h.E1, h.E2, h.L1, h.L2, ?_, ?_, ?_, h.nd⟩
  · show (s.g ++ [gen]).length ≤ s.E; simp; omega
  · intro x hx
    rcases List.mem_append.1 hx with hx | hx
    · exact h.gz x hx
    · rw [List.mem_singleton.1 hx]; exact hg
  · intro k hk
    obtain ⟨k0, k1, k2, k3⟩ := h.fz k hk
    have e : (s.g ++ [gen]).getD k.toNat 0 = s.g.getD k.toNat 0 := by
      rw [List.getD_eq_getElem?_getD, List.getElem?_append_left (by omega), ← List.getD_eq_getElem?_getD]
    show 0 ≤ k ∧ k < ((s.g ++ [gen]).length : Nat) ∧ 1 ≤ (s.g ++ [gen]).getD k.toNat 0 ∧ (s.g ++ [gen]).getD k.toNat 0 < s.L
    rw [e]
    refine ⟨k0, ?_, k2, k3⟩
    simp
    omega
theorem NS.liveL_push (h : s.Ok) (gen : Int) : (s.push gen).liveL = s.liveL ++ [decide (gen < s.L)] := by
  apply List.ext_getElem
  · simp [NS.liveL, NS.push]
  · intro j h1 h2
    rw [NS.liveL_get]
    have hj : j < s.g.length + 1 := by simpa [NS.liveL, NS.push] using h1
    by_cases hjl : j < s.g.length
    · rw [List.getElem_append_left (by simpa [NS.liveL] using hjl), NS.liveL_get]
      unfold NS.live NS.push
      apply decide_eq_decide.2
      simp only [Int.toNat_natCast]
      rw [List.getD_eq_getElem?_getD, List.getElem?_append_left hjl, ← List.getD_eq_getElem?_getD]
      simp
      omega
    · obtain rfl : j = s.g.length := by omega
      rw [List.getElem_append_right (by simp [NS.liveL])]
      simp only [NS.liveL_len, Nat.sub_self, List.getElem_cons_zero]
      unfold NS.live NS.push
      apply decide_eq_decide.2
      have hm : (s.g.length : Int) ∉ s.fr := fun e => by have := h.fz _ e; omega
      simp only [Int.toNat_natCast]
      rw [List.getD_eq_getElem?_getD, List.getElem?_append_right (Nat.le_refl _)]
      simp [hm]
      omega
theorem NS.take_push (hf : s.fr = []) (he : s.g.length ≠ s.E) : s.take = (s.push 0, ((s.g.length : Int), 0), 0) := NS.take_next hf he

theorem NS.give_no {i gen : Int} (h : s.alive i gen = false) : s.give i gen = (s, 5) := by unfold NS.give; rw [if_neg (by simp [h])]
theorem NS.give_yes {i gen : Int} (h : s.alive i gen = true) : s.give i gen = ({ s with g := s.g.set i.toNat (gen + 1), fr := if gen + 1 < s.L then s.fr ++ [i] else s.fr }, 0) := by unfold NS.give; rw [if_pos h]
theorem NS.alive_iff {i gen : Int} : s.alive i gen = true ↔ (0 ≤ i ∧ i < s.g.length ∧ i ∉ s.fr ∧ s.g.getD i.toNat 0 < s.L) ∧ s.g.getD i.toNat 0 = gen := by simp [NS.alive, NS.live_iff]

theorem getD_set {l : List Int} {j k : Nat} {v : Int} : (l.set j v).getD k 0 = if j = k ∧ k < l.length then v else l.getD k 0 := by
  rw [List.getD_eq_getElem?_getD, List.getD_eq_getElem?_getD, List.getElem?_set]
  by_cases h : j = k
  · subst h
    by_cases h2 : j < l.length
    · simp [h2]
    · simp [h2]
  · simp [h]

theorem NS.give_ok (h : s.Ok) (i gen : Int) : (s.give i gen).1.Ok := by
  by_cases ha : s.alive i gen = true
  · rw [NS.give_yes ha]
    obtain ⟨⟨h0, h1, h2, h3⟩, h4⟩ := NS.alive_iff.1 ha
    have hg := h.gD i.toNat
    rw [h4] at hg h3
    refine ⟨h.E1, h.E2, h.L1, h.L2, by simpa using h.len, ?_, ?_, ?_⟩
    · intro x hx
      rcases List.mem_or_eq_of_mem_set hx with hx | hx
      · exact h.gz x hx
      · rw [hx]; exact ⟨by omega, by show gen + 1 ≤ s.L; omega⟩
    · intro k hk
      have hk' : k ∈ s.fr ∨ (k = i ∧ gen + 1 < s.L) := by
        by_cases hl : gen + 1 < s.L
        · simp only [if_pos hl] at hk
          rcases List.mem_append.1 hk with hk | hk
          · exact .inl hk
          · exact .inr ⟨List.mem_singleton.1 hk, hl⟩
        · simp only [if_neg hl] at hk
          exact .inl hk
      simp only [List.length_set, getD_set]
      rcases hk' with hk' | ⟨rfl, hl⟩
      · have := h.fz k hk'
        have hne : ¬ (i.toNat = k.toNat ∧ k.toNat < s.g.length) := fun e => h2 (by rw [show i = k by omega]; exact hk')
        rw [if_neg hne]
        exact this
      · rw [if_pos ⟨rfl, by omega⟩]
        exact ⟨h0, h1, by omega, hl⟩
    · by_cases hl : gen + 1 < s.L
      · simp only [if_pos hl]
        refine List.nodup_append.2 ⟨h.nd, by simp, fun a ha b hb e => ?_⟩
        rw [List.mem_singleton.1 hb] at e
        exact h2 (e ▸ ha)
      · simp only [if_neg hl]
        exact h.nd
  · rw [NS.give_no (by simpa using ha)]; exact h

theorem NS.liveL_give {i gen : Int} (ha : s.alive i gen = true) : (s.give i gen).1.liveL = s.liveL.set i.toNat false := by
  rw [NS.give_yes ha]
  obtain ⟨⟨h0, h1, h2, h3⟩, h4⟩ := NS.alive_iff.1 ha
  apply List.ext_getElem
  · simp [NS.liveL]
  · intro j p1 p2
    have hj : j < s.g.length := by simpa [NS.liveL] using p1
    rw [NS.liveL_get, List.getElem_set]
    by_cases hij : i.toNat = j
    · rw [if_pos hij]
      apply Bool.eq_false_iff.2
      intro hl
      obtain ⟨_, _, l3, l4⟩ := NS.live_iff.1 hl
      have e : (j : Int) = i := by omega
      rw [e] at l3 l4
      simp only [getD_set] at l4
      rw [if_pos ⟨trivial, by omega⟩] at l4
      simp only [if_pos l4] at l3
      exact l3 (List.mem_append.2 (.inr (List.mem_singleton.2 rfl)))
    · rw [if_neg hij, NS.liveL_get]
      unfold NS.live
      apply decide_eq_decide.2
      simp only [List.length_set, getD_set, Int.toNat_natCast]
      have hne : (j : Int) ≠ i := by omega
      have hnn : ¬ (i.toNat = j ∧ j < s.g.length) := fun e => hij e.1
      simp only [if_neg hnn]
      have hm : (j : Int) ∈ (if gen + 1 < s.L then s.fr ++ [i] else s.fr) ↔ (j : Int) ∈ s.fr := by
        by_cases hl : gen + 1 < s.L
        · rw [if_pos hl]; simp [hne]
        · rw [if_neg hl]
      rw [hm]
end
end Go.Proofs.Ytldabjgnnmoneaa
