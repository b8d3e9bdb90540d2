/- IdM, IdA, IdB, IdC -/
import Derived.Test.YtddiadpbkjdomaaGreatDoorQn1
import Derived.BigQuiet
import Derived.Deep.QuietTactic
import Derived.Carry
import Derived.Lib.SliceRun
import Derived.Deep.RegionLawGrows
namespace Go.Proofs.YtddiadpbkjdomaaGreatDoor

/-- The state: how many indexes, how many generations, the generations, the free indexes. -/
structure NS where
  E : Nat
  L : Int
  g : List Int
  fr : List Int

def NS.live (s : NS) (k : Int) : Bool := decide (0 ≤ k ∧ k < s.g.length ∧ k ∉ s.fr ∧ s.g.getD k.toNat 0 < s.L)
def NS.at_ (s : NS) (k : Int) : (Int × Int) × Bool := if s.live k = true then ((k, s.g.getD k.toNat 0), true) else ((0, 0), false)
def NS.alive (s : NS) (i gen : Int) : Bool := s.live i && decide (s.g.getD i.toNat 0 = gen)
def NS.liveL (s : NS) : List Bool := (List.range s.g.length).map fun (i : Nat) => s.live i
def NS.cnt (s : NS) (n : Nat) : Nat := ((List.range n).filter fun (i : Nat) => s.live i).length

structure NS.Ok (s : NS) : Prop where
  E1 : 1 ≤ s.E
  E2 : s.E ≤ 1024
  L1 : 1 ≤ s.L
  L2 : s.L ≤ 1073741824
  len : s.g.length ≤ s.E
  gz : ∀ x ∈ s.g, 0 ≤ x ∧ x ≤ s.L
  fz : ∀ k ∈ s.fr, 0 ≤ k ∧ k < s.g.length ∧ 1 ≤ s.g.getD k.toNat 0 ∧ s.g.getD k.toNat 0 < s.L
  nd : s.fr.Nodup

def nears (n : Int) (high : Int) : Int := min (max n 1) high
def NS.new (entities gens : Int) : NS := ⟨(nears entities 1024).toNat, nears gens 1073741824, [], []⟩
def NS.take (s : NS) : NS × (Int × Int) × Int :=
  if s.fr = [] then
    if s.g.length = s.E then (s, (0, 0), 9) else ({ s with g := s.g ++ [0] }, (s.g.length, 0), 0)
  else ({ s with fr := s.fr.dropLast }, (s.fr.getLastD 0, s.g.getD (s.fr.getLastD 0).toNat 0), 0)
def NS.give (s : NS) (i gen : Int) : NS × Int :=
  if s.alive i gen = true then ({ s with g := s.g.set i.toNat (gen + 1), fr := if gen + 1 < s.L then s.fr ++ [i] else s.fr }, 0) else (s, 5)

theorem nears_bounds (n high : Int) (h : 1 ≤ high) : 1 ≤ nears n high ∧ nears n high ≤ high := by unfold nears; omega

section
variable {s : NS}

theorem NS.live_iff {k : Int} : s.live k = true ↔ 0 ≤ k ∧ k < s.g.length ∧ k ∉ s.fr ∧ s.g.getD k.toNat 0 < s.L := by simp [NS.live]
theorem NS.liveL_len (s : NS) : s.liveL.length = s.g.length := by simp [NS.liveL]
theorem NS.liveL_at (s : NS) {j : Nat} (h : j < s.g.length) : s.liveL.getD j false = s.live j := by simp [NS.liveL, h]
theorem NS.liveL_get (s : NS) {j : Nat} (h : j < s.liveL.length) : s.liveL[j] = s.live j := by simp [NS.liveL]
theorem NS.Ok.gD (h : s.Ok) (j : Nat) : 0 ≤ s.g.getD j 0 ∧ s.g.getD j 0 ≤ s.L := by
  by_cases hj : j < s.g.length
  · have := h.gz (s.g[j]) (List.getElem_mem hj)
    simpa [List.getD, List.getElem?_eq_getElem hj] using this
  · have := h.L1
    simp [List.getD, List.getElem?_eq_none (Nat.not_lt.1 hj)]
    omega
theorem NS.new_ok (entities gens : Int) : (NS.new entities gens).Ok := by
  have h1 := nears_bounds entities 1024 (by decide)
  have h2 := nears_bounds gens 1073741824 (by decide)
  refine ⟨?_, ?_, h2.1, h2.2, ?_, fun x hx => absurd hx List.not_mem_nil, fun x hx => absurd hx List.not_mem_nil, List.nodup_nil⟩
  · show 1 ≤ (nears entities 1024).toNat; omega
  · show (nears entities 1024).toNat ≤ 1024; omega
  · show (0 : Nat) ≤ _; exact Nat.zero_le _
theorem NS.cnt_succ (s : NS) (n : Nat) : s.cnt (n + 1) = s.cnt n + (if s.live n = true then 1 else 0) := by
  unfold NS.cnt
  rw [List.range_succ, List.filter_append, List.length_append]
  by_cases h : s.live n = true <;> simp [h]
theorem NS.cnt_le (s : NS) (n : Nat) : s.cnt n ≤ n := by
  unfold NS.cnt
  have := List.length_filter_le (fun (i : Nat) => s.live i) (List.range n)
  rw [List.length_range] at this
  exact this

/-- The free indexes, parted before the last one. -/
theorem NS.fr_last (h : s.fr ≠ []) : s.fr = s.fr.dropLast ++ [s.fr.getLastD 0] := by
  have := (List.dropLast_concat_getLast h).symm
  rw [List.getLastD_eq_getLast?, List.getLast?_eq_some_getLast h]
  exact this
theorem NS.last_mem (h : s.fr ≠ []) : s.fr.getLastD 0 ∈ s.fr := by
  rw [List.getLastD_eq_getLast?, List.getLast?_eq_some_getLast h]
  exact List.getLast_mem h

theorem NS.take_free (h : s.fr ≠ []) : s.take = ({ s with fr := s.fr.dropLast }, (s.fr.getLastD 0, s.g.getD (s.fr.getLastD 0).toNat 0), 0) := by unfold NS.take; rw [if_neg h]
theorem NS.take_full (h : s.fr = []) (hf : s.g.length = s.E) : s.take = (s, (0, 0), 9) := by unfold NS.take; rw [if_pos h, if_pos hf]
theorem NS.take_next (h : s.fr = []) (hf : s.g.length ≠ s.E) : s.take = ({ s with g := s.g ++ [0] }, ((s.g.length : Int), 0), 0) := by unfold NS.take; rw [if_pos h, if_neg hf]

theorem NS.take_ok (h : s.Ok) : s.take.1.Ok := by
  by_cases hf : s.fr = []
  · by_cases he : s.g.length = s.E
    · rw [NS.take_full hf he]; exact h
    · rw [NS.take_next hf he]
      have hl := h.len
      have hL1 := h.L1
      refine ⟨h.E1, h.E2, h.L1, h.L2, ?_, ?_, ?_, ?_⟩
      · simp only [List.length_append, List.length_singleton]; omega
      · intro x hx
        rcases List.mem_append.1 hx with hx | hx
        · exact h.gz x hx
        · rw [List.mem_singleton.1 hx]; exact ⟨by decide, by show (0 : Int) ≤ s.L; omega⟩
      · intro k hk; rw [show ({ s with g := s.g ++ [0] } : NS).fr = s.fr from rfl, hf] at hk; exact absurd hk List.not_mem_nil
      · exact h.nd
  · rw [NS.take_free hf]
    refine ⟨h.E1, h.E2, h.L1, h.L2, h.len, h.gz, ?_, ?_⟩
    · intro k hk
      exact h.fz k (List.dropLast_subset _ hk)
    · exact h.nd.sublist (List.dropLast_sublist _)

/-- What is alive behind a Take of a free index. -/
theorem NS.liveL_free (h : s.Ok) (hf : s.fr ≠ []) : s.take.1.liveL = s.liveL.set (s.fr.getLastD 0).toNat true := by
  rw [NS.take_free hf]
  obtain ⟨k0, k1, k2, k3⟩ := h.fz _ (NS.last_mem hf)
  have e := NS.fr_last hf
  have nd := h.nd
  rw [e] at nd
  obtain ⟨k, hk⟩ : ∃ k, k = s.fr.getLastD 0 := ⟨_, rfl⟩
  obtain ⟨f, hf'⟩ : ∃ f, f = s.fr.dropLast := ⟨_, rfl⟩
  rw [← hk] at k0 k1 k2 k3 e nd ⊢
  rw [← hf'] at e nd ⊢
  have hkf : k ∉ f := fun hm => (List.nodup_append.1 nd).2.2 k hm k (List.mem_singleton.2 rfl) rfl
  apply List.ext_getElem
  · simp [NS.liveL]
  · intro j h1 h2
    have hj : j < s.g.length := by simpa [NS.liveL] using h1
    rw [NS.liveL_get, List.getElem_set]
    by_cases hjk : k.toNat = j
    · rw [if_pos hjk]
      refine NS.live_iff.2 ⟨Int.natCast_nonneg _, Int.ofNat_lt.2 hj, ?_, ?_⟩
      · rw [show (j : Int) = k by omega]; exact hkf
      · show s.g.getD (j : Int).toNat 0 < s.L
        rw [show (j : Int).toNat = k.toNat by omega]; exact k3
    · rw [if_neg hjk, NS.liveL_get]
      unfold NS.live
      apply decide_eq_decide.2
      have : (j : Int) ≠ k := by omega
      simp only
      rw [e]
      simp [this]

/-- One index more. -/
def NS.push (s : NS) (gen : Int) : NS := { s with g := s.g ++ [gen] }
theorem NS.push_ok (h : s.Ok) {gen : Int} (hl : s.g.length < s.E) (hg : 0 ≤ gen ∧ gen ≤ s.L) : (s.push gen).Ok := by
  refine ⟨h.E1, h.E2, h.L1, h.L2, ?_, ?_, ?_, h.nd⟩
  · show (s.g ++ [gen]).length ≤ s.E; simp; omega
  · intro x hx
    rcases List.mem_append.1 hx with hx | hx
    · exact h.gz x hx
    · rw [List.mem_singleton.1 hx]; exact hg
  · intro k hk
    obtain ⟨k0, k1, k2, k3⟩ := h.fz k hk
    have e : (s.g ++ [gen]).getD k.toNat 0 = s.g.getD k.toNat 0 := by
      rw [List.getD_eq_getElem?_getD, List.getElem?_append_left (by omega), ← List.getD_eq_getElem?_getD]
    show 0 ≤ k ∧ k < ((s.g ++ [gen]).length : Nat) ∧ 1 ≤ (s.g ++ [gen]).getD k.toNat 0 ∧ (s.g ++ [gen]).getD k.toNat 0 < s.L
    rw [e]
    refine ⟨k0, ?_, k2, k3⟩
    simp
    omega
theorem NS.liveL_push (h : s.Ok) (gen : Int) : (s.push gen).liveL = s.liveL ++ [decide (gen < s.L)] := by
  apply List.ext_getElem
  · simp [NS.liveL, NS.push]
  · intro j h1 h2
    rw [NS.liveL_get]
    have hj : j < s.g.length + 1 := by simpa [NS.liveL, NS.push] using h1
    by_cases hjl : j < s.g.length
    · rw [List.getElem_append_left (by simpa [NS.liveL] using hjl), NS.liveL_get]
      unfold NS.live NS.push
      apply decide_eq_decide.2
      simp only [Int.toNat_natCast]
      rw [List.getD_eq_getElem?_getD, List.getElem?_append_left hjl, ← List.getD_eq_getElem?_getD]
      simp
      omega
    · obtain rfl : j = s.g.length := by omega
      rw [List.getElem_append_right (by simp [NS.liveL])]
      simp only [NS.liveL_len, Nat.sub_self, List.getElem_cons_zero]
      unfold NS.live NS.push
      apply decide_eq_decide.2
      have hm : (s.g.length : Int) ∉ s.fr := fun e => by have := h.fz _ e; omega
      simp only [Int.toNat_natCast]
      rw [List.getD_eq_getElem?_getD, List.getElem?_append_right (Nat.le_refl _)]
      simp [hm]
      omega
theorem NS.take_push (hf : s.fr = []) (he : s.g.length ≠ s.E) : s.take = (s.push 0, ((s.g.length : Int), 0), 0) := NS.take_next hf he

theorem NS.give_no {i gen : Int} (h : s.alive i gen = false) : s.give i gen = (s, 5) := by unfold NS.give; rw [if_neg (by simp [h])]
theorem NS.give_yes {i gen : Int} (h : s.alive i gen = true) : s.give i gen = ({ s with g := s.g.set i.toNat (gen + 1), fr := if gen + 1 < s.L then s.fr ++ [i] else s.fr }, 0) := by unfold NS.give; rw [if_pos h]
theorem NS.alive_iff {i gen : Int} : s.alive i gen = true ↔ (0 ≤ i ∧ i < s.g.length ∧ i ∉ s.fr ∧ s.g.getD i.toNat 0 < s.L) ∧ s.g.getD i.toNat 0 = gen := by simp [NS.alive, NS.live_iff]

theorem getD_set {l : List Int} {j k : Nat} {v : Int} : (l.set j v).getD k 0 = if j = k ∧ k < l.length then v else l.getD k 0 := by
  rw [List.getD_eq_getElem?_getD, List.getD_eq_getElem?_getD, List.getElem?_set]
  by_cases h : j = k
  · subst h
    by_cases h2 : j < l.length
    · simp [h2]
    · simp [h2]
  · simp [h]

theorem NS.give_ok (h : s.Ok) (i gen : Int) : (s.give i gen).1.Ok := by
  by_cases ha : s.alive i gen = true
  · rw [NS.give_yes ha]
    obtain ⟨⟨h0, h1, h2, h3⟩, h4⟩ := NS.alive_iff.1 ha
    have hg := h.gD i.toNat
    rw [h4] at hg h3
    refine ⟨h.E1, h.E2, h.L1, h.L2, by simpa using h.len, ?_, ?_, ?_⟩
    · intro x hx
      rcases List.mem_or_eq_of_mem_set hx with hx | hx
      · exact h.gz x hx
      · rw [hx]; exact ⟨by omega, by show gen + 1 ≤ s.L; omega⟩
    · intro k hk
      have hk' : k ∈ s.fr ∨ (k = i ∧ gen + 1 < s.L) := by
        by_cases hl : gen + 1 < s.L
        · simp only [if_pos hl] at hk
          rcases List.mem_append.1 hk with hk | hk
          · exact .inl hk
          · exact .inr ⟨List.mem_singleton.1 hk, hl⟩
        · simp only [if_neg hl] at hk
          exact .inl hk
      simp only [List.length_set, getD_set]
      rcases hk' with hk' | ⟨rfl, hl⟩
      · have := h.fz k hk'
        have hne : ¬ (i.toNat = k.toNat ∧ k.toNat < s.g.length) := fun e => h2 (by rw [show i = k by omega]; exact hk')
        rw [if_neg hne]
        exact this
      · rw [if_pos ⟨rfl, by omega⟩]
        exact ⟨h0, h1, by omega, hl⟩
    · by_cases hl : gen + 1 < s.L
      · simp only [if_pos hl]
        refine List.nodup_append.2 ⟨h.nd, by simp, fun a ha b hb e => ?_⟩
        rw [List.mem_singleton.1 hb] at e
        exact h2 (e ▸ ha)
      · simp only [if_neg hl]
        exact h.nd
  · rw [NS.give_no (by simpa using ha)]; exact h

theorem NS.liveL_give {i gen : Int} (ha : s.alive i gen = true) : (s.give i gen).1.liveL = s.liveL.set i.toNat false := by
  rw [NS.give_yes ha]
  obtain ⟨⟨h0, h1, h2, h3⟩, h4⟩ := NS.alive_iff.1 ha
  apply List.ext_getElem
  · simp [NS.liveL]
  · intro j p1 p2
    have hj : j < s.g.length := by simpa [NS.liveL] using p1
    rw [NS.liveL_get, List.getElem_set]
    by_cases hij : i.toNat = j
    · rw [if_pos hij]
      apply Bool.eq_false_iff.2
      intro hl
      obtain ⟨_, _, l3, l4⟩ := NS.live_iff.1 hl
      have e : (j : Int) = i := by omega
      rw [e] at l3 l4
      simp only [getD_set] at l4
      rw [if_pos ⟨trivial, by omega⟩] at l4
      simp only [if_pos l4] at l3
      exact l3 (List.mem_append.2 (.inr (List.mem_singleton.2 rfl)))
    · rw [if_neg hij, NS.liveL_get]
      unfold NS.live
      apply decide_eq_decide.2
      simp only [List.length_set, getD_set, Int.toNat_natCast]
      have hne : (j : Int) ≠ i := by omega
      have hnn : ¬ (i.toNat = j ∧ j < s.g.length) := fun e => hij e.1
      simp only [if_neg hnn]
      have hm : (j : Int) ∈ (if gen + 1 < s.L then s.fr ++ [i] else s.fr) ↔ (j : Int) ∈ s.fr := by
        by_cases hl : gen + 1 < s.L
        · rw [if_pos hl]; simp [hne]
        · rw [if_neg hl]
      rw [hm]
end
end Go.Proofs.YtddiadpbkjdomaaGreatDoor
namespace Go.Proofs.YtddiadpbkjdomaaGreatDoor
set_option maxRecDepth 20000
open Go.RowKit

theorem boolT : El Tryz.prog 167 4 (.bool false) 1 1 := ⟨Tryz.underlying167, by kernel_rfl, rfl, by decide⟩

theorem idT : RT Tryz.prog 39 2 := ⟨⟨_, Tryz.underlying39, rfl⟩, by kernel_rfl⟩

section
variable {ops : Array Oper} {rest : List Oper} {o : Oper} {a : Act} {w : World} {Q : Exit → Act → World → Prop} {g : Nat} {x0 y0 x1 y1 : Int}
/-- An ID by value: load, store. -/
theorem wpList_ldP (hgd : Region.wanted o (yielded ops a.tmps) = true) (x : Operand) (ho : o.op = .load 39 x)
    (hx : a.eval x = .pointer (some ⟨g, 0, none⟩)) (h : Rec 39 w g #[.int .i64 x0, .int .i64 y0]) (kk : wpList Tryz.prog ops Q rest (a.put o.dst (.agg #[.int .i64 x0, .int .i64 y0])) w) : wpList Tryz.prog ops Q (o :: rest) a w :=
  wpList_ldS idT rfl hgd x ho hx h kk
theorem wpList_stP (hgd : Region.wanted o (yielded ops a.tmps) = true) (x y : Operand) (ho : o.op = .store 39 x y)
    (hx : a.eval x = .pointer (some ⟨g, 0, none⟩)) (hy : a.eval y = .agg #[.int .i64 x1, .int .i64 y1]) (h : Rec 39 w g #[.int .i64 x0, .int .i64 y0])
    (kk : ∀ w', Rec 39 w' g #[.int .i64 x1, .int .i64 y1] → Fr (· = g) w w' → wpList Tryz.prog ops Q rest (a.put o.dst undef) w') : wpList Tryz.prog ops Q (o :: rest) a w :=
  wpList_stS idT rfl rfl (by simp [Value.oneCell']) hgd x y ho hx hy h kk
end

theorem pigeon : ∀ (n : Nat) (l : List Int), l.Nodup → (∀ k ∈ l, 0 ≤ k ∧ k < n) → l.length ≤ n
  | 0, l, _, h => by
    cases l with
    | nil => exact Nat.le_refl _
    | cons a l => have := h a List.mem_cons_self; omega
  | n + 1, l, nd, h => by
    by_cases hm : (n : Int) ∈ l
    · have h1 := pigeon n (l.erase (n : Int)) (nd.erase _) (fun k hk => by
        obtain ⟨hne, hk'⟩ := nd.mem_erase_iff.1 hk
        have := h k hk'
        omega)
      rw [List.length_erase_of_mem hm] at h1
      omega
    · have h1 := pigeon n l nd (fun k hk => by
        have := h k hk
        have : k ≠ (n : Int) := fun e => hm (e ▸ hk)
        omega)
      omega
theorem NS.Ok.few {s : NS} (h : s.Ok) : s.fr.length ≤ 1024 := by
  have := pigeon s.g.length s.fr h.nd (fun k hk => ⟨(h.fz k hk).1, (h.fz k hk).2.1⟩)
  have := h.len
  have := h.E2
  omega

/-- Names at block p: their generations in gv, which are alive in av, the free ones in fv. -/
structure IAt (w : World) (own : Nat → Prop) (p : Nat) (gv av fv : Value) (s : NS) : Prop where
  blk : w.heap[p]? = some (.cells #[.int .i64 s.E, .int .i64 s.L, gv, av, fv] 169 (0, 0))
  gens : w.ownsRow 0 3 1 gv s.g.length (s.g.map (Value.int .i64))
  ali : w.ownsRow 0 4 1 av s.g.length (s.liveL.map Value.bool)
  free : w.ownsRow 0 3 1 fv s.fr.length (s.fr.map (Value.int .i64))
  apart : ∀ x, gv.ownBlock = some x → fv.ownBlock ≠ some x
  ownp : own p
  owng : ∀ x, gv.ownBlock = some x → own x
  owna : ∀ x, av.ownBlock = some x → own x
  ownf : ∀ x, fv.ownBlock = some x → own x
  ok : s.Ok

theorem own_tagI {w : World} {B e n : Nat} {v : Value} {xs : List Value} (h : w.ownsRow B e 1 v n xs) {x : Nat} (hx : v.ownBlock = some x) : ∃ C, w.heap[x]? = some (.cells C e (0, 0)) := by
  rcases h.2 with ⟨rfl, _⟩ | ⟨g, cap, cur, rfl, _, hh, _⟩
  · cases hx
  · simp [Value.ownBlock] at hx
    subst hx
    exact ⟨_, hh⟩
/-- What is owned, as the walk wants it. -/
theorem own_open {w : World} {B e n : Nat} {v : Value} {xs : List Value} (h : w.ownsRow B e 1 v n xs) :
    ∃ A c, v = .slice A n c ∧ n ≤ c ∧ c ≤ maxLen ∧ (0 < n → ∃ g, A = some ⟨g, 0, none⟩ ∧ g < w.heap.size ∧ (∀ j, j < n → w.cell? ⟨g, j, none⟩ = xs[j]?) ∧ (∀ j, w.frozen? ⟨g, j, none⟩ = false)) := by
  have h' := h
  rcases h.2 with ⟨hv, h0⟩ | ⟨g, cap, cur, rfl, _, hh, hn, hc, _, _⟩
  · exact ⟨none, 0, by rw [hv, h0], by omega, by unfold maxLen; omega, fun hp => by omega⟩
  · exact ⟨_, cap, rfl, hn, hc, fun _ => ⟨g, rfl, (Array.getElem?_eq_some_iff.1 hh).1, fun j hj => h'.cellAt j (by omega), fun j => h'.frozenAt j⟩⟩

section
variable {w w' : World} {own own' : Nat → Prop} {p : Nat} {gv av fv : Value} {s : NS}

theorem IAt.lt (h : IAt w own p gv av fv s) : p < w.heap.size := (Array.getElem?_eq_some_iff.1 h.blk).1
theorem IAt.cell (h : IAt w own p gv av fv s) (i : Nat) : w.cell? ⟨p, i, none⟩ = (#[.int .i64 s.E, .int .i64 s.L, gv, av, fv] : Array Value)[i]? := cell_of_row _ _ _ _ _ _ h.blk
theorem IAt.c0 (h : IAt w own p gv av fv s) : w.cell? ⟨p, 0, none⟩ = some (.int .i64 s.E) := h.cell 0
theorem IAt.c1 (h : IAt w own p gv av fv s) : w.cell? ⟨p, 1, none⟩ = some (.int .i64 s.L) := h.cell 1
theorem IAt.c2 (h : IAt w own p gv av fv s) : w.cell? ⟨p, 2, none⟩ = some gv := h.cell 2
theorem IAt.c3 (h : IAt w own p gv av fv s) : w.cell? ⟨p, 3, none⟩ = some av := h.cell 3
theorem IAt.c4 (h : IAt w own p gv av fv s) : w.cell? ⟨p, 4, none⟩ = some fv := h.cell 4
theorem IAt.fz (h : IAt w own p gv av fv s) (i : Nat) : w.frozen? ⟨p, i, none⟩ = false := frozen_of_row w p i _ _ h.blk
theorem IAt.kept (h : IAt w own p gv av fv s) (hf : Fr own' w w') (hd : ∀ x, own x → ¬ own' x) : IAt w' own p gv av fv s where
  blk := (hf.block p h.lt (hd p h.ownp)).trans h.blk
  gens := own_fr h.gens hf (fun x hx => hd x (h.owng x hx))
  ali := own_fr h.ali hf (fun x hx => hd x (h.owna x hx))
  free := own_fr h.free hf (fun x hx => hd x (h.ownf x hx))
  apart := h.apart
  ownp := h.ownp
  owng := h.owng
  owna := h.owna
  ownf := h.ownf
  ok := h.ok
theorem IAt.below (h : IAt w own p gv av fv s) (hb : Below w.heap.size w w') : IAt w' own p gv av fv s := h.kept (own' := fun _ => False) (Fr.ofBelow _ hb) (fun _ _ hx => hx)
theorem IAt.mono (h : IAt w own p gv av fv s) (hk : ∀ x, own x → own' x) : IAt w own' p gv av fv s := { h with ownp := hk _ h.ownp, owng := fun x hx => hk x (h.owng x hx), owna := fun x hx => hk x (h.owna x hx), ownf := fun x hx => hk x (h.ownf x hx) }
end

theorem inear_any (n lo hi : Int) (w : World) : Calls Tryz.prog 92 #[.int .i64 n, .int .i64 lo, .int .i64 hi] w fun e w' => e = .returned (.int .i64 (min (max n lo) hi)) ∧ w = w' := by
  go_enter Tryz.func92, Tryz.ntmps92
  go_wp2
  all_goals go_ret
  all_goals exact ⟨ret_int (by omega), rfl⟩

theorem INew_any (entities gens : Int) (w : World) :
    Calls Tryz.prog 36 #[.int .i64 entities, .int .i64 gens] w fun e w' => e = .returned (.pointer (some ⟨w.heap.size, 0, none⟩)) ∧ Below w.heap.size w w' ∧ w.heap.size < w'.heap.size ∧ IAt w' (· = w.heap.size) w.heap.size nilv nilv nilv (NS.new entities gens) := by
  have h1 := nears_bounds entities 1024 (by decide)
  have hE : (((NS.new entities gens).E : Nat) : Int) = min (max entities 1) 1024 := by
    show ((nears entities 1024).toNat : Int) = _
    unfold nears at h1 ⊢
    omega
  have hL : (NS.new entities gens).L = min (max gens 1) 1073741824 := rfl
  clear h1
  go_enter Tryz.func36, Tryz.ntmps36
  go_wp2_with (go_at_call 92; refine (inear_any _ _ _ _).mono ?_; rintro e w' ⟨rfl, rfl⟩)
  go_ret
  refine ⟨rfl, (Below.refl _ _).alloc (Nat.le_refl _) _, by simp, ?_⟩
  exact {
    blk := by rw [hE, hL]; exact heap_alloc_new w _
    gens := World.ownsRow_nil _ _ _ _
    ali := World.ownsRow_nil _ _ _ _
    free := World.ownsRow_nil _ _ _ _
    apart := fun x hx => by cases hx
    ownp := rfl
    owng := fun x hx => by cases hx
    owna := fun x hx => by cases hx
    ownf := fun x hx => by cases hx
    ok := NS.new_ok entities gens }

section
variable {w : World} {own : Nat → Prop} {p : Nat} {gv av fv : Value} {s : NS}

theorem lives_nil (k : Int) (w : World) : Calls Tryz.prog 104 #[.pointer none, .int .i64 k] w fun e w' => e = .returned (.bool false) ∧ w = w' := by
  go_enter Tryz.func104, Tryz.ntmps104
  go_wp2
  go_ret
  exact ⟨rfl, rfl⟩

theorem lives_any (h : IAt w own p gv av fv s) (k : Int) :
    Calls Tryz.prog 104 #[.pointer (some ⟨p, 0, none⟩), .int .i64 k] w fun e w' => e = .returned (.bool (s.live k)) ∧ w = w' := by
  obtain ⟨A, c, rfl, hc, hm, hr⟩ := own_open h.ali
  have c3 := h.c3
  by_cases hk0 : 0 ≤ k
  · by_cases hk1 : k < s.g.length
    · obtain ⟨j, rfl⟩ : ∃ j : Nat, k = (j : Int) := ⟨k.toNat, by omega⟩
      have hj : j < s.g.length := by omega
      obtain ⟨g, rfl, hg, hcell, _⟩ := hr (by omega)
      have c := hcell j hj
      have hjl : j < s.liveL.length := by rw [s.liveL_len]; exact hj
      rw [List.getElem?_map, List.getElem?_eq_getElem hjl, s.liveL_get] at c
      simp only [Option.map_some] at c
      obtain ⟨b, hb⟩ : ∃ b, b = s.live j := ⟨_, rfl⟩
      rw [← hb] at c ⊢
      clear hb hr hcell h
      go_enter Tryz.func104, Tryz.ntmps104
      go_wp2
      go_ret
      exact ⟨rfl, rfl⟩
    · have hl : s.live k = false := Bool.eq_false_iff.2 fun e => hk1 (NS.live_iff.1 e).2.1
      rw [hl]
      clear hl hr h
      go_enter Tryz.func104, Tryz.ntmps104
      go_wp2
      go_ret
      exact ⟨rfl, rfl⟩
  · have hl : s.live k = false := Bool.eq_false_iff.2 fun e => hk0 (NS.live_iff.1 e).1
    rw [hl]
    clear hl hr h
    go_enter Tryz.func104, Tryz.ntmps104
    go_wp2
    go_ret
    exact ⟨rfl, rfl⟩

theorem id_any (h : IAt w own p gv av fv s) (j : Nat) (hj : j < s.g.length) :
    Calls Tryz.prog 132 #[.pointer (some ⟨p, 0, none⟩), .int .i64 j] w fun e w' => e = .returned (.agg #[.int .i64 j, .int .i64 (s.g.getD j 0)]) ∧ Below w.heap.size w w' := by
  obtain ⟨A, c, rfl, hc, hm, hr⟩ := own_open h.gens
  have c2 := h.c2
  obtain ⟨g, rfl, hg, hcell, _⟩ := hr (by omega)
  have c := hcell j hj
  rw [List.getElem?_map, List.getElem?_eq_getElem hj] at c
  simp only [Option.map_some] at c
  have hz : s.g.getD j 0 = s.g[j] := by simp [List.getD, List.getElem?_eq_getElem hj]
  obtain ⟨z, hz'⟩ : ∃ z, z = s.g.getD j 0 := ⟨_, rfl⟩
  rw [← hz, ← hz'] at c
  rw [← hz']
  have hlt := h.lt
  clear hz hz' hr hcell h
  go_enter Tryz.func132, Tryz.ntmps132
  go_wp2
  refine bodyPost_ret (res_c rfl rfl ((Rec.new w 39 #[.int .i64 j, .int .i64 z]).load idT rfl)) rfl ?_
  exact ⟨rfl, (Below.refl _ _).alloc (Nat.le_refl _) _⟩

/-- A pair of ints as an ID. -/
def idv (x : Int × Int) : Value := .agg #[.int .i64 x.1, .int .i64 x.2]

theorem At_nil (k : Int) (w : World) : Calls Tryz.prog 131 #[.pointer none, .int .i64 k] w fun e w' => e = .returned (.tuple #[idv (0, 0), .bool false]) ∧ Below w.heap.size w w' := by
  go_enter Tryz.func131, Tryz.ntmps131
  go_wp2_with (go_at_call 104; refine (lives_nil _ _).mono ?_; rintro e w' ⟨rfl, rfl⟩)
  refine bodyPost_ret (res_ct rfl rfl ((Rec.new w 39 #[.int .i64 0, .int .i64 0]).load idT rfl)) rfl ?_
  exact ⟨rfl, (Below.refl _ _).alloc (Nat.le_refl _) _⟩

theorem At_any (h : IAt w own p gv av fv s) (k : Int) :
    Calls Tryz.prog 131 #[.pointer (some ⟨p, 0, none⟩), .int .i64 k] w fun e w' => e = .returned (.tuple #[idv (s.at_ k).1, .bool (s.at_ k).2]) ∧ Below w.heap.size w w' := by
  have hb : Below w.heap.size w (w.alloc (.cells #[.int .i64 0, .int .i64 0] 39)) := (Below.refl _ _).alloc (Nat.le_refl _) _
  have CL := Lib.hid (lives_any (h.below hb) k)
  by_cases hl : s.live k = true
  · have ha : s.at_ k = ((k, s.g.getD k.toNat 0), true) := by unfold NS.at_; rw [if_pos hl]
    obtain ⟨h0, h1, _⟩ := NS.live_iff.1 hl
    obtain ⟨j, rfl⟩ : ∃ j : Nat, k = (j : Int) := ⟨k.toNat, by omega⟩
    have CI := Lib.hid (id_any (h.below hb) j (by omega))
    rw [hl] at CL
    rw [ha, Int.toNat_natCast]
    obtain ⟨w1, hw1⟩ : ∃ w1, w1 = w.alloc (.cells #[.int .i64 0, .int .i64 0] 39) := ⟨_, rfl⟩
    have hR1 : Rec 39 w1 w.heap.size #[.int .i64 0, .int .i64 0] := by rw [hw1]; exact Rec.new _ _ _
    rw [← hw1] at hb CL CI
    have HB := Lib.hid hb
    have HR := Lib.hid hR1
    clear hl ha h0 h1 h hb hR1
    go_enter Tryz.func131, Tryz.ntmps131
    go_wp2_with (first
      | (rw [← hw1]; clear hw1)
      | (go_at_call 104; refine CL.out.mono ?_; rintro e w' ⟨rfl, rfl⟩)
      | (go_at_call 132; refine CI.out.mono ?_; rintro e w2 ⟨rfl, hB2⟩; have HR2 := Lib.hid (HR.out.under hB2); have HB2 := Lib.hid (HB.out.trans (hB2.mono HB.out.size)); clear hB2)
      | (with_reducible refine wpList_stP (x1 := j) (y1 := s.g.getD j 0) rfl (.tmp 4) (.tmp 13) rfl rfl rfl HR2.out ?_; intro w5 hR5 hF5))
    refine bodyPost_ret (res_ct rfl rfl (hR5.load idT rfl)) rfl ?_
    exact ⟨rfl, HB2.out.trans (hF5.toBelow (fun x hx => by rw [show x = w.heap.size from hx]; exact Nat.le_refl _) HB2.out.size)⟩
  · have hl : s.live k = false := by simpa using hl
    have ha : s.at_ k = ((0, 0), false) := by unfold NS.at_; rw [if_neg (by simp [hl])]
    rw [hl] at CL
    rw [ha]
    clear hl ha h hb
    go_enter Tryz.func131, Tryz.ntmps131
    go_wp2_with (go_at_call 104; refine CL.out.mono ?_; rintro e w' ⟨rfl, rfl⟩)
    refine bodyPost_ret (res_ct rfl rfl ((Rec.new w 39 #[.int .i64 0, .int .i64 0]).load idT rfl)) rfl ?_
    exact ⟨rfl, (Below.refl _ _).alloc (Nat.le_refl _) _⟩
end

/-- The ID handed over, and At's answer, in blocks of their own; two IDs compared. -/
theorem Alive_nil (i gen : Int) (w : World) : Calls Tryz.prog 75 #[.pointer none, idv (i, gen)] w fun e w' => e = .returned (.bool false) ∧ Below w.heap.size w w' := by
  show Calls _ _ #[.pointer none, .agg #[.int .i64 i, .int .i64 gen]] w _
  obtain ⟨w1, hw1⟩ : ∃ w1, w1 = w.alloc (.cells #[.int .i64 i, .int .i64 gen] 39) := ⟨_, rfl⟩
  have hb : Below w.heap.size w w1 := by rw [hw1]; exact (Below.refl _ _).alloc (Nat.le_refl _) _
  have hR1 : Rec 39 w1 w.heap.size #[.int .i64 i, .int .i64 gen] := by rw [hw1]; exact Rec.new _ _ _
  have c0 : w1.cell? ⟨w.heap.size, 0, none⟩ = some (.int .i64 i) := hR1.at_ 0
  have CA := Lib.hid (At_nil i w1)
  have HB := Lib.hid hb
  clear hb hR1
  go_enter Tryz.func75, Tryz.ntmps75
  go_wp2_with (first
    | (rw [← hw1]; clear hw1)
    | (go_at_call 131; refine CA.out.mono ?_; rintro e w2 ⟨rfl, hB2⟩; have HB2 := Lib.hid (HB.out.trans (hB2.mono HB.out.size)); clear hB2; simp only [idv]))
  go_ret
  exact ⟨rfl, HB2.out.trans ((Below.refl _ _).alloc HB2.out.size _)⟩
end Go.Proofs.YtddiadpbkjdomaaGreatDoor
namespace Go.Proofs.YtddiadpbkjdomaaGreatDoor
set_option maxRecDepth 20000
open Go.RowKit

section
variable {w : World} {own : Nat → Prop} {p : Nat} {gv av fv : Value} {s : NS}

theorem Alive_any (h : IAt w own p gv av fv s) (i gen : Int) :
    Calls Tryz.prog 75 #[.pointer (some ⟨p, 0, none⟩), idv (i, gen)] w fun e w' => e = .returned (.bool (s.alive i gen)) ∧ Below w.heap.size w w' := by
  show Calls _ _ #[.pointer (some ⟨p, 0, none⟩), .agg #[.int .i64 i, .int .i64 gen]] w _
  obtain ⟨w1, hw1⟩ : ∃ w1, w1 = w.alloc (.cells #[.int .i64 i, .int .i64 gen] 39) := ⟨_, rfl⟩
  have hb : Below w.heap.size w w1 := by rw [hw1]; exact (Below.refl _ _).alloc (Nat.le_refl _) _
  have hR1 : Rec 39 w1 w.heap.size #[.int .i64 i, .int .i64 gen] := by rw [hw1]; exact Rec.new _ _ _
  have c0 : w1.cell? ⟨w.heap.size, 0, none⟩ = some (.int .i64 i) := hR1.at_ 0
  have CA := At_any (h.below hb) i
  obtain ⟨z, hz⟩ : ∃ z, z = s.g.getD i.toNat 0 := ⟨_, rfl⟩
  by_cases hl : s.live i = true
  · have ha : s.at_ i = ((i, s.g.getD i.toNat 0), true) := by unfold NS.at_; rw [if_pos hl]
    have hal : s.alive i gen = decide (z = gen) := by unfold NS.alive; rw [hl, hz]; rfl
    rw [ha, ← hz] at CA
    rw [hal]
    have HB := Lib.hid hb
    have HR := Lib.hid hR1
    have CB := Lib.hid CA
    clear CA hb hR1 ha hal hz hl h
    go_enter Tryz.func75, Tryz.ntmps75
    go_wp2_with (first
      | (rw [← hw1]; clear hw1)
      | (go_at_call 131; refine CB.out.mono ?_; rintro e w2 ⟨rfl, hB2⟩; have hR2 := HR.out.under hB2; have k0 := hR2.at_ 0; have k1 := hR2.at_ 1; simp only [List.getElem?_toArray, List.getElem?_cons_zero, List.getElem?_cons_succ] at k0 k1; have HB2 := Lib.hid (HB.out.trans (hB2.mono HB.out.size)); have hlt2 := hR2.lt; clear hB2 hR2; simp only [idv]))
    all_goals go_ret
    all_goals exact ⟨rfl, HB2.out.trans ((Below.refl _ _).alloc HB2.out.size _)⟩
  · have hl : s.live i = false := by simpa using hl
    have ha : s.at_ i = ((0, 0), false) := by unfold NS.at_; rw [if_neg (by simp [hl])]
    have hal : s.alive i gen = false := by unfold NS.alive; rw [hl]; rfl
    rw [ha] at CA
    rw [hal]
    have HB := Lib.hid hb
    have CB := Lib.hid CA
    clear CA hb hR1 ha hal hz hl h
    go_enter Tryz.func75, Tryz.ntmps75
    go_wp2_with (first
      | (rw [← hw1]; clear hw1)
      | (go_at_call 131; refine CB.out.mono ?_; rintro e w2 ⟨rfl, hB2⟩; have HB2 := Lib.hid (HB.out.trans (hB2.mono HB.out.size)); clear hB2; simp only [idv]))
    go_ret
    exact ⟨rfl, HB2.out.trans ((Below.refl _ _).alloc HB2.out.size _)⟩
end

theorem intsl_nil_eq (w : World) (a : Option Addr) (n c n' c' : Nat) : (binOp .eql 34 (.slice a n c) (.slice none n' c')).run Tryz.prog w = .ok (.bool a.isNone) w := Lib.run_eql_slice_nil w _ _ a n c n' c' Tryz.underlying34

/-- slices.Clone of ints. -/
theorem iclone_any (A : Option Addr) (n c : Nat) (zs : List Int) (w : World) (hr : IRd w A n zs) (hn : Hid (n ≤ 1000000000)) :
    Calls Tryz.prog 105 #[.slice A n c] w fun e w' => ∃ v, e = .returned v ∧ w'.ownsRow w.heap.size 3 1 v n (zs.map (Value.int .i64)) ∧ Below w.heap.size w w' := by
  obtain ⟨i0, hi0, hz0, hz1, hz2⟩ := info_parts intT.info
  rcases A with _ | ad
  · have h0 : n = 0 := by
      rcases Nat.eq_zero_or_pos n with h0 | h0
      · exact h0
      · obtain ⟨_, _, e, _⟩ := hr.2 h0
        cases e
    subst h0
    have hl : zs = [] := List.eq_nil_of_length_eq_zero hr.1
    subst hl
    clear hr
    have q := intsl_nil_eq
    go_enter Tryz.func105, Tryz.ntmps105
    go_wp2
    go_ret
    exact ⟨_, rfl, World.ownsRow_nil _ _ _ _, Below.refl _ _⟩
  · have ho := own_empty w w.heap.size 3 (Nat.le_refl _)
    have hr1 := hr.below ((Below.refl _ _).alloc (Nat.le_refl _) (.cells #[] 3))
    have hcells : ∀ j u, (zs.map (Value.int .i64))[j]? = some u → (w.alloc (.cells #[] 3)).cell? (ad.add j) = some u := fun j u hj => by
      have hjl : j < zs.length := by have := (List.getElem?_eq_some_iff.1 hj).1; simpa using this
      obtain ⟨b, o, e, _, hc⟩ := hr1.2 (by have := hr1.1; omega)
      injection e with e
      subst e
      rw [Addr.add_lit, hc j hjl, ← hj]
      simp [List.getD, List.getElem?_eq_getElem hjl]
    have hlen := hr.1
    clear hr hr1
    have q := intsl_nil_eq
    go_enter Tryz.func105, Tryz.ntmps105
    go_wp2_with (at_builtin; refine wpList_append_own_at _ rfl (.tmp 5) (.tmp 6) 34 rfl w.heap.size 3 i0 (.int .i64 0) 1 8 Tryz.underlying34 hi0 hz0 hz1 hz2 rfl (by decide) _ 0 [] rfl ho ad n c (zs.map (Value.int .i64)) rfl (by simp; omega) hcells (fun u hu => by obtain ⟨_, _, rfl⟩ := List.mem_map.1 hu; rfl) (by have := hn.out; unfold maxLen; omega) (by have := hn.out; omega) (by simp) ?_; intro v2 w2 ho2 hg2 _ _; rw [Nat.zero_add, List.nil_append] at ho2)
    go_ret
    exact ⟨_, rfl, ho2, ((Below.refl _ _).alloc (Nat.le_refl _) _).grown hg2 (by simp) (fun q hq => (ho.lt q hq).1)⟩

section
variable {w : World} {own : Nat → Prop} {p : Nat} {gv av fv : Value} {s : NS}

theorem Gens_any (h : IAt w own p gv av fv s) :
    Calls Tryz.prog 50 #[.pointer (some ⟨p, 0, none⟩)] w fun e w' => ∃ A c, e = .returned (.slice A s.g.length c) ∧ IRd w' A s.g.length s.g ∧ Below w.heap.size w w' := by
  obtain ⟨A, c, rfl, hr⟩ := IRd.of_own h.gens
  have c2 := h.c2
  have hlen := h.ok.len
  have hE := h.ok.E2
  have CC := Lib.hid (iclone_any A s.g.length c s.g w hr (Lib.hid (by omega)))
  clear h hr hlen hE
  go_enter Tryz.func50, Tryz.ntmps50
  go_wp2_with (go_at_call 105; refine CC.out.mono ?_; rintro e w1 ⟨v, rfl, ho1, hb1⟩; obtain ⟨A1, c1, rfl, hr1⟩ := IRd.of_own ho1)
  go_ret
  exact ⟨_, _, rfl, hr1, hb1⟩
theorem Free_any (h : IAt w own p gv av fv s) :
    Calls Tryz.prog 51 #[.pointer (some ⟨p, 0, none⟩)] w fun e w' => ∃ A c, e = .returned (.slice A s.fr.length c) ∧ IRd w' A s.fr.length s.fr ∧ Below w.heap.size w w' := by
  obtain ⟨A, c, rfl, hr⟩ := IRd.of_own h.free
  have c4 := h.c4
  have hE := h.ok.few
  have CC := Lib.hid (iclone_any A s.fr.length c s.fr w hr (Lib.hid (by omega)))
  clear h hr hE
  go_enter Tryz.func51, Tryz.ntmps51
  go_wp2_with (go_at_call 105; refine CC.out.mono ?_; rintro e w1 ⟨v, rfl, ho1, hb1⟩; obtain ⟨A1, c1, rfl, hr1⟩ := IRd.of_own ho1)
  go_ret
  exact ⟨_, _, rfl, hr1, hb1⟩
theorem Gens_nil (w : World) : Calls Tryz.prog 50 #[.pointer none] w fun e w' => e = .returned (.slice none 0 0) ∧ w = w' := by
  go_enter Tryz.func50, Tryz.ntmps50
  go_wp2
  go_ret
  exact ⟨rfl, rfl⟩
theorem Free_nil (w : World) : Calls Tryz.prog 51 #[.pointer none] w fun e w' => e = .returned (.slice none 0 0) ∧ w = w' := by
  go_enter Tryz.func51, Tryz.ntmps51
  go_wp2
  go_ret
  exact ⟨rfl, rfl⟩

/-- How many of the first n are alive: count, handed the method value. -/
theorem count_any (h : IAt w own p gv av fv s) (n : Nat) (hn : n ≤ 1024) :
    Calls Tryz.prog 103 #[.int .i64 n, .func (.func 104) #[.pointer (some ⟨p, 0, none⟩)] #[]] w fun e w' => e = .returned (.int .i64 (s.cnt n)) ∧ w = w' := by
  have CL : ∀ k : Int, Calls Tryz.prog 104 #[.pointer (some ⟨p, 0, none⟩), .int .i64 k] w fun e w' => e = .returned (.bool (s.live k)) ∧ w = w' := lives_any h
  have CK := Lib.hid CL
  clear CL h
  go_enter Tryz.func103, Tryz.ntmps103
  go_wp2
  go_loopw [5, 8] (fun v iv wr => ∃ j : Nat, j ≤ n ∧ iv = .int .i64 j ∧ v = .int .i64 (s.cnt j) ∧ wr = w) (fun _ iv _ => n - (intOf iv).toNat)
  case atStart => exact ⟨0, Nat.zero_le _, rfl, rfl, rfl⟩
  case round =>
    obtain ⟨j, hj, rfl, rfl, rfl⟩ := hrel
    have hcl := s.cnt_le j
    have hcs := s.cnt_succ j
    obtain ⟨m, hm⟩ : ∃ m, m = s.cnt j := ⟨_, rfl⟩
    rw [← hm] at hcl hcs ⊢
    by_cases hjn : j < n
    · have C := Lib.hid (CK.out (j : Int))
      obtain ⟨b, hb⟩ : ∃ b, b = s.live (j : Int) := ⟨_, rfl⟩
      rw [← hb] at C hcs
      clear hb hm
      cases b
      · rw [if_neg (by decide)] at hcs
        have HCS := Lib.hid hcs
        clear hcs
        go_wp2_with (go_at_call 104; refine C.out.mono ?_; rintro e w' ⟨rfl, rfl⟩)
        go_roundw
        case rel => exact ⟨j + 1, hjn, by go_num, by rw [HCS.out]; rfl, by first | rfl | trivial⟩
        case measure => simp [intOf]; omega
      · rw [if_pos rfl] at hcs
        have HCS := Lib.hid hcs
        clear hcs
        go_wp2_with (go_at_call 104; refine C.out.mono ?_; rintro e w' ⟨rfl, rfl⟩)
        go_roundw
        case rel => exact ⟨j + 1, hjn, by go_num, by rw [HCS.out]; go_num, by first | rfl | trivial⟩
        case measure => simp [intOf]; omega
    · obtain rfl : j = n := by omega
      clear hcs
      go_wp2
      go_ret
      exact ⟨by rw [← hm]; rfl, rfl⟩
theorem Count_any (h : IAt w own p gv av fv s) :
    Calls Tryz.prog 47 #[.pointer (some ⟨p, 0, none⟩)] w fun e w' => e = .returned (.int .i64 (s.cnt s.g.length)) ∧ w = w' := by
  obtain ⟨A, c, rfl, _⟩ := IRd.of_own h.gens
  have c2 := h.c2
  have hmf : ∀ (fn : Fn) (first cap : Array Value) (w : World), (Instr.makeFunc fn first cap).run Tryz.prog w = .ok (.func fn first cap) w := fun _ _ _ _ => rfl
  have hlen := h.ok.len
  have hE := h.ok.E2
  have CC := Lib.hid (count_any h s.g.length (by omega))
  clear h hlen hE
  go_enter Tryz.func47, Tryz.ntmps47
  go_wp2_with (go_at_call 103; refine CC.out.mono ?_; rintro e w' ⟨rfl, rfl⟩)
  go_ret
  exact ⟨rfl, rfl⟩
theorem Count_nil (w : World) : Calls Tryz.prog 47 #[.pointer none] w fun e w' => e = .returned (.int .i64 0) ∧ w = w' := by
  go_enter Tryz.func47, Tryz.ntmps47
  go_wp2
  go_ret
  exact ⟨rfl, rfl⟩
end
end Go.Proofs.YtddiadpbkjdomaaGreatDoor
namespace Go.Proofs.YtddiadpbkjdomaaGreatDoor
set_option maxRecDepth 20000
open Go.RowKit

/-- Names at p all of whose blocks are of own. -/
def IDv (w : World) (own : Nat → Prop) (p : Nat) (s : NS) : Prop := (∀ x, own x → x < w.heap.size) ∧ ∃ gv av fv, IAt w own p gv av fv s
/-- What became of names. -/
def IGoes (w : World) (own : Nat → Prop) (p : Nat) (s : NS) (w' : World) : Prop := Fr own w w' ∧ ∃ own', (∀ x, own' x → own x ∨ w.heap.size ≤ x) ∧ IDv w' own' p s

theorem own_not {w : World} {B e n q : Nat} {T : TypeId} {C : Array Value} {v : Value} {xs : List Value} (h : w.ownsRow B e 1 v n xs) (hq : w.heap[q]? = some (.cells C T (0, 0))) (hne : T ≠ e) : v.ownBlock ≠ some q := fun hx => by
  obtain ⟨D, hD⟩ := own_tagI h hx
  rw [hq] at hD
  injection hD with hD
  injection hD with _ h2
  exact hne h2
theorem own_set {w : World} {B e n q i : Nat} {v u : Value} {xs : List Value} (h : w.ownsRow B e 1 v n xs) (hne : v.ownBlock ≠ some q) : (w.setCell ⟨q, i, none⟩ u).ownsRow B e 1 v n xs :=
  own_fr h (Fr.setCell (own := (· = q)) w (p := ⟨q, i, none⟩) rfl u) (fun x hx e => hne (by rw [hx, show x = q from e]))
theorem own_kept {w w' : World} {B e n : Nat} {v : Value} {xs : List Value} {row : Option Nat} (h : w.ownsRow B e 1 v n xs) (hg : w.grownBy w' row) (hne : ∀ x, row = some x → v.ownBlock ≠ some x) : w'.ownsRow B e 1 v n xs := by
  refine h.kept hg ?_
  cases hv : v.ownBlock with
  | none => exact .inl rfl
  | some y => exact .inr (fun e => hne y e.symm hv)
theorem rec_kept {w w' : World} {T p : Nat} {cs : Array Value} {row : Option Nat} (h : Rec T w p cs) (hg : w.grownBy w' row) (hne : row ≠ some p) : Rec T w' p cs := (hg.block p h.lt (fun e => hne e.symm)).trans h

section
variable {w : World} {own : Nat → Prop} {p : Nat} {gv av fv : Value} {s : NS}
theorem IAt.mem (h : IAt w own p gv av fv s) : Rec 169 w p #[.int .i64 s.E, .int .i64 s.L, gv, av, fv] := h.blk

/-- A row behind an append of one element: as a slice. -/
theorem own_sl {w : World} {B e n : Nat} {v : Value} {xs : List Value} (h : w.ownsRow B e 1 v n xs) : ∃ A c, v = .slice A n c := by
  obtain ⟨A, c, e, _⟩ := own_open h
  exact ⟨A, c, e⟩

set_option maxHeartbeats 1000000 in
theorem use_any (dom : ∀ x, own x → x < w.heap.size) (h : IAt w own p gv av fv s) (gen : Int) (hlen : s.g.length < s.E) (hg : 0 ≤ gen ∧ gen ≤ s.L) :
    Calls Tryz.prog 123 #[.pointer (some ⟨p, 0, none⟩), .int .i64 gen] w fun e w' => e = .returned (.tuple #[]) ∧ IGoes w own p (s.push gen) w' := by
  obtain ⟨i0, hi0, hz0, hz1, hz2⟩ := info_parts intT.info
  obtain ⟨A, c, rfl⟩ := own_sl h.gens
  obtain ⟨A3, c3', rfl⟩ := own_sl h.ali
  obtain ⟨A4, c4', rfl⟩ := own_sl h.free
  have c2 := h.c2
  have hE := h.ok.E2
  have H := Lib.hid h
  have hplt := h.lt
  have hone : ∀ u ∈ [Value.int .i64 gen], u.oneCell' = true := fun u hu => by rw [List.mem_singleton.1 hu]; rfl
  have hone2 : ∀ u ∈ [Value.bool (decide (gen < s.L))], u.oneCell' = true := fun u hu => by rw [List.mem_singleton.1 hu]; rfl
  -- the rows and the struct, the new element's block laid
  obtain ⟨wa, hwa⟩ : ∃ wa, wa = w.alloc (.cells #[.int .i64 gen] 3) := ⟨_, rfl⟩
  have ba : Below w.heap.size w wa := by rw [hwa]; exact (Below.refl _ _).alloc (Nat.le_refl _) _
  have hsza : wa.heap.size = w.heap.size + 1 := by rw [hwa]; simp
  have hra := h.mem.under ba
  have hga := own_keep h.gens ba
  have hla := own_keep h.ali ba
  have hfa := own_keep h.free ba
  have hone1 : ∀ j u, [Value.int .i64 gen][j]? = some u → wa.cell? ((⟨w.heap.size, 0, none⟩ : Addr).add j) = some u := by rw [hwa]; exact cell_one_new _ _ _
  clear h
  have HW := Lib.hid hwa
  clear hwa
  go_enter Tryz.func123, Tryz.ntmps123
  go_wp2_with (first
    | (rw [← HW.out])
    | (at_builtin; refine wpList_append_own_at _ rfl (.tmp 8) (.tmp 10) 34 rfl 0 3 i0 (.int .i64 0) 1 8 Tryz.underlying34 hi0 hz0 hz1 hz2 rfl (by decide) (.slice A s.g.length c) s.g.length (s.g.map (Value.int .i64)) rfl hga ⟨w.heap.size, 0, none⟩ 1 1 [.int .i64 gen] rfl rfl hone1 hone (by unfold maxLen; omega) (by omega) (Nat.zero_le _) ?_))
  intro v1 w1 ho1 hg1 _ he1
  obtain ⟨A1, c1, rfl⟩ := own_sl ho1
  have hr1 := rec_kept hra hg1 (own_not hga hra (by decide))
  have hl1 := own_kept hla hg1 (fun x hx e => by
    obtain ⟨C, hC⟩ := own_tagI hga hx
    exact own_not hla hC (by decide) e)
  have hf1 := own_kept hfa hg1 (fun x hx e => H.out.apart x hx e)
  have k2 : w1.cell? ⟨p, 2, none⟩ = some (.slice A s.g.length c) := hr1.at_ 2
  have f2 := hr1.fz 2
  have hF1 : Fr own w w1 := (Fr.ofBelow own ba).trans' (Fr.grown hg1 (own := own) (fun x hx => H.out.owng x hx)) (fun x hx => .inl hx)
  obtain ⟨w2, hw2⟩ : ∃ w2, w2 = w1.setCell ⟨p, 2, none⟩ (.slice A1 (s.g.length + 1) c1) := ⟨_, rfl⟩
  have hF2 : Fr own w w2 := hF1.trans (by rw [hw2]; exact Fr.setCell w1 (p := ⟨p, 2, none⟩) H.out.ownp _)
  have hr2 : Rec 169 w2 p #[.int .i64 s.E, .int .i64 s.L, .slice A1 (s.g.length + 1) c1, .slice A3 s.g.length c3', .slice A4 s.fr.length c4'] := by rw [hw2]; exact hr1.set 2 _
  have ho2 : w2.ownsRow 0 3 1 (.slice A1 (s.g.length + 1) c1) (s.g.length + 1) (s.g.map (Value.int .i64) ++ [.int .i64 gen]) := by rw [hw2]; exact own_set ho1 (own_not ho1 hr1 (by decide))
  have hl2 := own_set (i := 2) (u := .slice A1 (s.g.length + 1) c1) hl1 (own_not hl1 hr1 (by decide))
  have hf2 := own_set (i := 2) (u := .slice A1 (s.g.length + 1) c1) hf1 (own_not hf1 hr1 (by decide))
  rw [← hw2] at hl2 hf2
  have hs2 : w.heap.size + 1 ≤ w2.heap.size := by have := hg1.size; rw [hw2]; simp [World.setCell]; omega
  -- and with the second new element's block
  obtain ⟨wb, hwb⟩ : ∃ wb, wb = w2.alloc (.cells #[.bool (decide (gen < s.L))] 4) := ⟨_, rfl⟩
  have bb : Below w2.heap.size w2 wb := by rw [hwb]; exact (Below.refl _ _).alloc (Nat.le_refl _) _
  have hrb := hr2.under bb
  have hob := own_keep ho2 bb
  have hlb := own_keep hl2 bb
  have hfb := own_keep hf2 bb
  have hnew : ∀ j u, [Value.bool (decide (gen < s.L))][j]? = some u → wb.cell? ((⟨w2.heap.size, 0, none⟩ : Addr).add j) = some u := by rw [hwb]; exact cell_one_new _ _ _
  have q1 : w2.cell? ⟨p, 1, none⟩ = some (.int .i64 s.L) := hr2.at_ 1
  have q3 : w2.cell? ⟨p, 3, none⟩ = some (.slice A3 s.g.length c3') := hr2.at_ 3
  have q3b : (w2.alloc (.cells #[.bool (decide (gen < s.L))] 4)).cell? ⟨p, 3, none⟩ = some (.slice A3 s.g.length c3') := by rw [← hwb]; exact hrb.at_ 3
  have q1d : w2.drew.cell? ⟨p, 1, none⟩ = some (.int .i64 s.L) := q1
  have q3d : w2.drew.cell? ⟨p, 3, none⟩ = some (.slice A3 s.g.length c3') := q3
  have q3bd : (w2.alloc (.cells #[.bool (decide (gen < s.L))] 4)).drew.cell? ⟨p, 3, none⟩ = some (.slice A3 s.g.length c3') := q3b
  have hlbd : (w2.alloc (.cells #[.bool (decide (gen < s.L))] 4)).drew.ownsRow 0 4 1 (.slice A3 s.g.length c3') s.g.length (s.liveL.map Value.bool) := by rw [← hwb]; exact hlb
  have hnewd : ∀ j u, [Value.bool (decide (gen < s.L))][j]? = some u → (w2.alloc (.cells #[.bool (decide (gen < s.L))] 4)).drew.cell? ((⟨w2.heap.size, 0, none⟩ : Addr).add j) = some u := by rw [← hwb]; exact hnew
  have hrbd : Rec 169 (w2.alloc (.cells #[.bool (decide (gen < s.L))] 4)).drew p #[.int .i64 s.E, .int .i64 s.L, .slice A1 (s.g.length + 1) c1, .slice A3 s.g.length c3', .slice A4 s.fr.length c4'] := by rw [← hwb]; exact hrb
  have hobd : (w2.alloc (.cells #[.bool (decide (gen < s.L))] 4)).drew.ownsRow 0 3 1 (.slice A1 (s.g.length + 1) c1) (s.g.length + 1) (s.g.map (Value.int .i64) ++ [.int .i64 gen]) := by rw [← hwb]; exact hob
  have hfbd : (w2.alloc (.cells #[.bool (decide (gen < s.L))] 4)).drew.ownsRow 0 3 1 (.slice A4 s.fr.length c4') s.fr.length (s.fr.map (Value.int .i64)) := by rw [← hwb]; exact hfb
  have bbd : Below w2.heap.size w2 (w2.alloc (.cells #[.bool (decide (gen < s.L))] 4)).drew := by rw [← hwb]; exact bb.trans (Below.refl _ _).drew
  have hszb : (w2.alloc (.cells #[.bool (decide (gen < s.L))] 4)).drew.heap.size = w2.heap.size + 1 := by show (w2.heap.push _).size = _; simp
  have HB := Lib.hid hszb
  have HLBD := Lib.hid hlbd
  have HND := Lib.hid hnewd
  have HRB := Lib.hid hrbd
  have HOB := Lib.hid hobd
  have HFB := Lib.hid hfbd
  have BB := Lib.hid bbd
  have HF2 := Lib.hid hF2
  have HW2 := Lib.hid hw2
  have HE1 := Lib.hid he1
  have HS2 := Lib.hid hs2
  have HONE2 := Lib.hid hone2
  have HSZA := Lib.hid hsza
  clear hwb hlbd hnewd hrb hob hlb hfb bb hrbd hobd hfbd bbd hszb hF2 hw2 he1 hs2 hr1 hl1 hf1 hF1 hr2 ho2 hl2 hf2 ho1 hg1 hone hone2 hone1 hra hga hla hfa ba hsza HW c2 hnew
  go_wp2_with (first | (rw [← HW2.out]))
  go_region_law (first
    | (refine step_appV boolT rfl (.tmp 18) (.tmp 25) rfl 0 _ s.g.length (s.liveL.map Value.bool) rfl HLBD.out ⟨w2.heap.size, 0, none⟩ 1 1 [.bool (decide (gen < s.L))] rfl rfl HND.out HONE2.out (by omega) (by decide) (Nat.zero_le _) ?_; intro v3 w3 ho3 hg3 he3; obtain ⟨A5, c5, rfl⟩ := own_sl ho3; have hr3 := rec_kept HRB.out hg3 (own_not HLBD.out HRB.out (by decide)); have k3 : w3.cell? ⟨p, 3, none⟩ = some (.slice A3 s.g.length c3') := hr3.at_ 3; have f3 := hr3.fz 3))
  all_goals
    go_wp2
    go_end0
    have o3 := own_kept HOB.out hg3 (fun x hx e => by
      obtain ⟨C, hC⟩ := own_tagI HLBD.out hx
      exact own_not HOB.out hC (by decide) e)
    have g3 := own_kept HFB.out hg3 (fun x hx e => by
      obtain ⟨C, hC⟩ := own_tagI HLBD.out hx
      exact own_not HFB.out hC (by decide) e)
    have hF3 : Fr own w w3 := (HF2.out.trans (Fr.ofBelow own BB.out)).trans (Fr.grown hg3 (own := own) (fun x hx => H.out.owna x hx))
    have hF4 := hF3.trans (Fr.setCell (own := own) w3 (p := ⟨p, 3, none⟩) H.out.ownp (.slice A5 (s.g.length + 1) c5))
    have hs3 := hg3.size
    have hs4 : (w3.setCell ⟨p, 3, none⟩ (.slice A5 (s.g.length + 1) c5)).heap.size = w3.heap.size := by simp [World.setCell]
    have hs2 := HS2.out
    have hszb := HB.out
    have hsza := HSZA.out
    have a1 : ∀ x, (Value.slice A1 (s.g.length + 1) c1).ownBlock = some x → (Value.slice A s.g.length c).ownBlock = some x ∨ x = w.heap.size + 1 := fun x hx => by
      rcases HE1.out with e | e
      · exact .inl (e ▸ hx)
      · rw [hx] at e; injection e with e; exact .inr (by omega)
    have a5 : ∀ x, (Value.slice A5 (s.g.length + 1) c5).ownBlock = some x → own x ∨ x = w2.heap.size + 1 := fun x hx => by
      rcases he3 with e | e
      · exact .inl (H.out.owna x (e ▸ hx))
      · rw [hx] at e; injection e with e; exact .inr (by omega)
    refine ⟨rfl, hF4, fun x => own x ∨ (w.heap.size ≤ x ∧ x < w3.heap.size), fun x hx => hx.imp id And.left, fun x hx => ?_, .slice A1 (s.g.length + 1) c1, .slice A5 (s.g.length + 1) c5, .slice A4 s.fr.length c4', ?_⟩
    · rw [hs4]
      rcases hx with hx | hx
      · have := dom x hx; omega
      · exact hx.2
    · have hgl : (s.push gen).g.length = s.g.length + 1 := by simp [NS.push]
      exact {
        blk := hr3.set 3 _
        gens := by
          rw [hgl, show (s.push gen).g.map (Value.int .i64) = s.g.map (Value.int .i64) ++ [.int .i64 gen] by simp [NS.push]]
          exact own_set o3 (own_not o3 hr3 (by decide))
        ali := by
          rw [hgl, NS.liveL_push H.out.ok gen, List.map_append]
          exact own_set ho3 (own_not ho3 hr3 (by decide))
        free := own_set g3 (own_not g3 hr3 (by decide))
        apart := fun x hx e => by
          rcases a1 x hx with h1 | h1
          · exact H.out.apart x h1 e
          · have := dom x (H.out.ownf x e); omega
        ownp := .inl H.out.ownp
        owng := fun x hx => by
          rcases a1 x hx with h1 | h1
          · exact .inl (H.out.owng x h1)
          · have := (o3.lt x hx).2
            exact .inr ⟨by omega, by omega⟩
        owna := fun x hx => by
          rcases a5 x hx with h1 | h1
          · exact .inl h1
          · have := (ho3.lt x hx).2
            exact .inr ⟨by omega, by omega⟩
        ownf := fun x hx => .inl (H.out.ownf x hx)
        ok := NS.push_ok H.out.ok hlen hg }

set_option maxHeartbeats 1000000 in
theorem release_any (dom : ∀ x, own x → x < w.heap.size) (j : Nat) (s' : NS) (hj : j < s.g.length) (hE : s'.E = s.E) (hL : s'.L = s.L) (hgl : s'.g.length = s.g.length) (hll : s'.liveL = s.liveL.set j false) (hfr : s'.fr = s.fr ++ [(j : Int)]) (ok : s'.Ok)
    (hb : w.heap[p]? = some (.cells #[.int .i64 s.E, .int .i64 s.L, gv, av, fv] 169 (0, 0))) (hgens : w.ownsRow 0 3 1 gv s'.g.length (s'.g.map (Value.int .i64))) (hali : w.ownsRow 0 4 1 av s.g.length (s.liveL.map Value.bool))
    (hfree : w.ownsRow 0 3 1 fv s.fr.length (s.fr.map (Value.int .i64))) (apart : ∀ x, gv.ownBlock = some x → fv.ownBlock ≠ some x) (ownp : own p) (owng : ∀ x, gv.ownBlock = some x → own x) (owna : ∀ x, av.ownBlock = some x → own x) (ownf : ∀ x, fv.ownBlock = some x → own x) (hfew : s.fr.length ≤ 1024) :
    Calls Tryz.prog 124 #[.pointer (some ⟨p, 0, none⟩), .int .i64 j] w fun e w' => e = .returned (.tuple #[]) ∧ IGoes w own p s' w' := by
  obtain ⟨i0, hi0, hz0, hz1, hz2⟩ := info_parts intT.info
  obtain ⟨A, c, rfl⟩ := own_sl hgens
  obtain ⟨A3, c3', rfl, hc3, hm3, hr3⟩ := own_open hali
  obtain ⟨A4, c4', rfl⟩ := own_sl hfree
  obtain ⟨g3, rfl, hg3, hcell3, hfz3⟩ := hr3 (by omega)
  have hr : Rec 169 w p #[.int .i64 s.E, .int .i64 s.L, .slice A s'.g.length c, .slice (some ⟨g3, 0, none⟩) s.g.length c3', .slice A4 s.fr.length c4'] := hb
  have c3 : w.cell? ⟨p, 3, none⟩ = some (.slice (some ⟨g3, 0, none⟩) s.g.length c3') := hr.at_ 3
  have d3 := hcell3 j hj
  rw [List.getElem?_map, List.getElem?_eq_getElem (by rw [s.liveL_len]; exact hj)] at d3
  simp only [Option.map_some] at d3
  have e3 := hfz3 j
  have hone : ∀ u ∈ [Value.int .i64 j], u.oneCell' = true := fun u hu => by rw [List.mem_singleton.1 hu]; rfl
  obtain ⟨w1, hw1⟩ : ∃ w1, w1 = w.setCell ⟨g3, j, none⟩ (.bool false) := ⟨_, rfl⟩
  have hst := hali.stored j (.bool false)
  rw [← hw1] at hst
  obtain ⟨hali1, hgr1⟩ := hst
  have hp3 : g3 ≠ p := fun e => own_not hali hr (by decide) (by rw [← e]; rfl)
  have hr1 := rec_kept hr hgr1 (fun e => hp3 (by injection e))
  have hgens1 := own_kept hgens hgr1 (fun x hx e => by
    obtain ⟨C, hC⟩ := own_tagI hali (x := x) (by rw [← hx]; rfl)
    exact own_not hgens hC (by decide) e)
  have hfree1 := own_kept hfree hgr1 (fun x hx e => by
    obtain ⟨C, hC⟩ := own_tagI hali (x := x) (by rw [← hx]; rfl)
    exact own_not hfree hC (by decide) e)
  have hF1 : Fr own w w1 := Fr.grown hgr1 (fun x hx => owna x (by rw [← hx]; rfl))
  have hs1 : w1.heap.size = w.heap.size := by rw [hw1]; simp [World.setCell]
  have hset : (s.liveL.map Value.bool).set j (.bool false) = s'.liveL.map Value.bool := by rw [hll, List.map_set]
  rw [hset] at hali1
  obtain ⟨wa, hwa⟩ : ∃ wa, wa = w1.alloc (.cells #[.int .i64 j] 3) := ⟨_, rfl⟩
  have ba : Below w1.heap.size w1 wa := by rw [hwa]; exact (Below.refl _ _).alloc (Nat.le_refl _) _
  have hsza : wa.heap.size = w1.heap.size + 1 := by rw [hwa]; simp
  have hra := hr1.under ba
  have hga := own_keep hgens1 ba
  have hla := own_keep hali1 ba
  have hfa := own_keep hfree1 ba
  have hone1 : ∀ k u, [Value.int .i64 j][k]? = some u → wa.cell? ((⟨w1.heap.size, 0, none⟩ : Addr).add k) = some u := by rw [hwa]; exact cell_one_new _ _ _
  have k4 : w1.cell? ⟨p, 4, none⟩ = some (.slice A4 s.fr.length c4') := hr1.at_ 4
  have HW := Lib.hid hwa
  have HW1 := Lib.hid hw1
  have HF1 := Lib.hid hF1
  have BA := Lib.hid ba
  have HLL := Lib.hid hll
  have HGA := Lib.hid hga
  have HLA := Lib.hid hla
  have HRA := Lib.hid hra
  have HS1 := Lib.hid hs1
  have HSZA := Lib.hid hsza
  have OK := Lib.hid ok
  have HFR := Lib.hid hfr
  have HE := Lib.hid hE
  have HL := Lib.hid hL
  clear hwa hw1 hF1 ba hll hga hla hra hs1 hsza ok hfr hE hL hset hali hgens hfree hb hr hr1 hgr1 hali1 hgens1 hfree1 hcell3 hfz3 hr3
  go_enter Tryz.func124, Tryz.ntmps124
  go_wp2_with (first
    | (rw [← HW1.out])
    | (rw [← HW.out])
    | (at_builtin; refine wpList_append_own_at _ rfl (.tmp 14) (.tmp 16) 34 rfl 0 3 i0 (.int .i64 0) 1 8 Tryz.underlying34 hi0 hz0 hz1 hz2 rfl (by decide) (.slice A4 s.fr.length c4') s.fr.length (s.fr.map (Value.int .i64)) rfl hfa ⟨w1.heap.size, 0, none⟩ 1 1 [.int .i64 j] rfl rfl hone1 hone (by unfold maxLen; omega) (by omega) (Nat.zero_le _) ?_))
  intro v2 w2 ho2 hg2 _ he2
  obtain ⟨A2, c2, rfl⟩ := own_sl ho2
  have hr2 := rec_kept HRA.out hg2 (own_not hfa HRA.out (by decide))
  have q4 : w2.cell? ⟨p, 4, none⟩ = some (.slice A4 s.fr.length c4') := hr2.at_ 4
  have f4 := hr2.fz 4
  go_wp2
  go_end0
  have o2 := own_kept HGA.out hg2 (fun x hx e => apart x e hx)
  have l2 := own_kept HLA.out hg2 (fun x hx e => by
    obtain ⟨C, hC⟩ := own_tagI hfa hx
    exact own_not HLA.out hC (by decide) e)
  have hF2 : Fr own w w2 := (HF1.out.trans (Fr.ofBelow own BA.out)).trans (Fr.grown hg2 (own := own) (fun x hx => ownf x hx))
  have hF3 := hF2.trans (Fr.setCell (own := own) w2 (p := ⟨p, 4, none⟩) ownp (.slice A2 (s.fr.length + 1) c2))
  have hs3 : (w2.setCell ⟨p, 4, none⟩ (.slice A2 (s.fr.length + 1) c2)).heap.size = w2.heap.size := by simp [World.setCell]
  have hs2 := hg2.size
  have hs1 := HS1.out
  have hsza := HSZA.out
  have a2 : ∀ x, (Value.slice A2 (s.fr.length + 1) c2).ownBlock = some x → (Value.slice A4 s.fr.length c4').ownBlock = some x ∨ x = w.heap.size + 1 := fun x hx => by
    rcases he2 with e | e
    · exact .inl (e ▸ hx)
    · rw [hx] at e; injection e with e; exact .inr (by omega)
  refine ⟨rfl, hF3, fun x => own x ∨ (w.heap.size ≤ x ∧ x < w2.heap.size), fun x hx => hx.imp id And.left, fun x hx => ?_, .slice A s'.g.length c, .slice (some ⟨g3, 0, none⟩) s.g.length c3', .slice A2 (s.fr.length + 1) c2, ?_⟩
  · rw [hs3]
    rcases hx with hx | hx
    · have := dom x hx; omega
    · exact hx.2
  · have hfl : s'.fr.length = s.fr.length + 1 := by rw [HFR.out]; simp
    exact {
      blk := by rw [HE.out, HL.out]; exact hr2.set 4 _
      gens := own_set o2 (own_not o2 hr2 (by decide))
      ali := by
        rw [hgl]
        exact own_set l2 (own_not l2 hr2 (by decide))
      free := by
        rw [hfl, HFR.out, List.map_append]
        exact own_set ho2 (own_not ho2 hr2 (by decide))
      apart := fun x hx e => by
        rcases a2 x e with h1 | h1
        · exact apart x hx h1
        · have := dom x (owng x hx); omega
      ownp := .inl ownp
      owng := fun x hx => .inl (owng x hx)
      owna := fun x hx => .inl (owna x (by rw [← hx]))
      ownf := fun x hx => by
        rcases a2 x hx with h1 | h1
        · exact .inl (ownf x h1)
        · have := (ho2.lt x hx).2
          exact .inr ⟨by omega, by omega⟩
      ok := OK.out }
end
end Go.Proofs.YtddiadpbkjdomaaGreatDoor
