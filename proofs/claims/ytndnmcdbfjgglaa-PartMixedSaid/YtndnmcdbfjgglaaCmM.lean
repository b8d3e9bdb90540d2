/- Components and layouts: plain mathematics. -/
import Derived.Test.YtndnmcdbfjgglaaNum
namespace Go.Proofs.Ytndnmcdbfjgglaa

/-- A component: its name and its size. -/
abbrev Kd := ByteArray × Int
/-- A byte that a name may have. -/
def plainN (b : UInt8) : Bool := decide (97 ≤ b.toNat ∧ b.toNat ≤ 122) || decide (48 ≤ b.toNat ∧ b.toNat ≤ 57) || decide (b.toNat = 95)
/-- Is s a name? -/
def nameB (s : ByteArray) : Bool := decide (1 ≤ s.size ∧ s.size ≤ 16) && s.data.toList.all plainN
/-- A layout. -/
structure Cf where
  lg : Int
  pg : Int
  en : Int
  gn : Int
  ks : List Kd

def Named (ks : List Kd) : Prop := ∀ k ∈ ks, nameB k.1 = true
def Sized (ks : List Kd) : Prop := ∀ k ∈ ks, 0 ≤ k.2 ∧ k.2 ≤ 64
/-- No name is one ahead. -/
def Apart (ks : List Kd) : Prop := (ks.map Prod.fst).Nodup
instance (ks : List Kd) : Decidable (Named ks) := inferInstanceAs (Decidable (∀ k ∈ ks, nameB k.1 = true))
instance (ks : List Kd) : Decidable (Sized ks) := inferInstanceAs (Decidable (∀ k ∈ ks, 0 ≤ k.2 ∧ k.2 ≤ 64))
instance (ks : List Kd) : Decidable (Apart ks) := inferInstanceAs (Decidable (ks.map Prod.fst).Nodup)
/-- The numbers of a layout may be. -/
def Cf.Nums (c : Cf) : Prop := (2 ≤ c.lg ∧ c.lg ≤ 1024) ∧ (4 ≤ c.pg ∧ c.pg ≤ 1024) ∧ (1 ≤ c.en ∧ c.en ≤ 1024) ∧ (1 ≤ c.gn ∧ c.gn ≤ 1073741824) ∧ c.ks.length ≤ 32
instance (c : Cf) : Decidable c.Nums := by unfold Cf.Nums; infer_instance
/-- A layout that may be. -/
def Cf.Right (c : Cf) : Prop := c.Nums ∧ Named c.ks ∧ Apart c.ks ∧ Sized c.ks
instance (c : Cf) : Decidable c.Right := by unfold Cf.Right; infer_instance

theorem take_snoc {α : Type} {l : List α} {j : Nat} (h : j < l.length) : l.take (j + 1) = l.take j ++ [l[j]] := List.take_succ_eq_append_getElem h
theorem Named.nil : Named [] := fun _ h => by cases h
theorem Sized.nil : Sized [] := fun _ h => by cases h
theorem Apart.nil : Apart [] := List.nodup_nil
theorem named_snoc {ks : List Kd} {j : Nat} (h : j < ks.length) : Named (ks.take (j + 1)) ↔ Named (ks.take j) ∧ nameB ks[j].1 = true := by
  rw [take_snoc h]
  simp only [Named, List.mem_append, List.mem_singleton]
  exact ⟨fun H => ⟨fun k hk => H k (.inl hk), H _ (.inr rfl)⟩, fun ⟨H, h2⟩ k hk => hk.elim (H k) (fun e => e ▸ h2)⟩
theorem sized_snoc {ks : List Kd} {j : Nat} (h : j < ks.length) : Sized (ks.take (j + 1)) ↔ Sized (ks.take j) ∧ (0 ≤ ks[j].2 ∧ ks[j].2 ≤ 64) := by
  rw [take_snoc h]
  simp only [Sized, List.mem_append, List.mem_singleton]
  exact ⟨fun H => ⟨fun k hk => H k (.inl hk), H _ (.inr rfl)⟩, fun ⟨H, h2⟩ k hk => hk.elim (H k) (fun e => e ▸ h2)⟩
/-- No name of those ahead of the place j is that at j. -/
def First (ks : List Kd) (s : ByteArray) (j : Nat) : Prop := ∀ k ∈ ks.take j, k.1 ≠ s
theorem apart_snoc {ks : List Kd} {j : Nat} (h : j < ks.length) : Apart (ks.take (j + 1)) ↔ Apart (ks.take j) ∧ First ks ks[j].1 j := by
  rw [take_snoc h]
  simp only [Apart, First, List.map_append, List.map_cons, List.map_nil, List.nodup_append, List.mem_map, List.mem_singleton, List.nodup_cons, List.not_mem_nil, not_false_iff, List.nodup_nil, true_and]
  refine ⟨fun ⟨a, b⟩ => ⟨a, fun k hk e => b k.1 ⟨k, hk, rfl⟩ _ rfl e⟩, fun ⟨a, b⟩ => ⟨a, ?_⟩⟩
  rintro x ⟨k, hk, rfl⟩ y rfl
  exact b k hk
theorem named_take {ks : List Kd} (h : Named ks) (j : Nat) : Named (ks.take j) := fun k hk => h k (List.mem_of_mem_take hk)
theorem sized_take {ks : List Kd} (h : Sized ks) (j : Nat) : Sized (ks.take j) := fun k hk => h k (List.mem_of_mem_take hk)
theorem apart_take {ks : List Kd} (h : Apart ks) (j : Nat) : Apart (ks.take j) := by
  unfold Apart at h ⊢
  rw [List.map_take]
  exact h.sublist (List.take_sublist _ _)
theorem First.zero (ks : List Kd) (s : ByteArray) : First ks s 0 := fun k hk => by simp at hk
theorem First.succ {ks : List Kd} {s : ByteArray} {j : Nat} (h : j < ks.length) : First ks s (j + 1) ↔ First ks s j ∧ ks[j].1 ≠ s := by
  unfold First
  rw [take_snoc h]
  simp only [List.mem_append, List.mem_singleton]
  exact ⟨fun H => ⟨fun k hk => H k (.inl hk), H _ (.inr rfl)⟩, fun ⟨H, h2⟩ k hk => hk.elim (H k) (fun e => e ▸ h2)⟩

/-- The place of the first of that name. -/
def findK : List Kd → ByteArray → Int × Bool
  | [], _ => (0, false)
  | k :: l, s => if k.1 = s then (0, true) else if (findK l s).2 = true then ((findK l s).1 + 1, true) else (0, false)
theorem findK_yes : ∀ (ks : List Kd) (s : ByteArray) (j : Nat) (h : j < ks.length), First ks s j → ks[j].1 = s → findK ks s = ((j : Int), true)
  | k :: l, s, 0, _, _, e => by
    have e' : k.1 = s := e
    simp [findK, e']
  | k :: l, s, j + 1, h, f, e => by
    have hk : k.1 ≠ s := f k (by simp)
    have ih := findK_yes l s j (by simpa using h) (fun x hx => f x (by simp [hx])) e
    simp [findK, hk, ih]
theorem findK_no : ∀ (ks : List Kd) (s : ByteArray), (∀ k ∈ ks, k.1 ≠ s) → findK ks s = (0, false)
  | [], _, _ => rfl
  | k :: l, s, f => by
    have hk : k.1 ≠ s := f k (by simp)
    have ih := findK_no l s (fun x hx => f x (by simp [hx]))
    simp [findK, hk, ih]
/-- Of one that is there: it is the first, or the first lies ahead. -/
theorem findK_at (ks : List Kd) (j : Nat) (h : j < ks.length) : (First ks ks[j].1 j ∧ (findK ks ks[j].1).1 = j) ∨ (¬ First ks ks[j].1 j ∧ (findK ks ks[j].1).1 ≠ j) := by
  by_cases f : First ks ks[j].1 j
  · exact .inl ⟨f, by rw [findK_yes ks _ j h f rfl]⟩
  · refine .inr ⟨f, ?_⟩
    have key : ∀ i, i ≤ j → ¬ First ks ks[j].1 i → ∃ m, m < i ∧ ∃ hm : m < ks.length, First ks ks[j].1 m ∧ ks[m].1 = ks[j].1 := by
      intro i
      induction i with
      | zero => intro _ hn; exact absurd (First.zero _ _) hn
      | succ i ih =>
        intro hi hn
        have hil : i < ks.length := by omega
        by_cases hf : First ks ks[j].1 i
        · refine ⟨i, by omega, hil, hf, ?_⟩
          exact Classical.byContradiction fun hne => hn ((First.succ hil).2 ⟨hf, hne⟩)
        · obtain ⟨m, hm, r⟩ := ih (by omega) hf
          exact ⟨m, by omega, r⟩
    obtain ⟨m, hm, hml, hf, he⟩ := key j (Nat.le_refl _) f
    rw [findK_yes ks _ m hml hf he]
    show ((m : Nat) : Int) ≠ j
    omega
/-- What the reference asks of the one at the place j. -/
def Good (ks : List Kd) (j : Nat) : Prop := Named (ks.take j) ∧ Apart (ks.take j) ∧ Sized (ks.take j)
theorem Good.zero (ks : List Kd) : Good ks 0 := ⟨by simpa using Named.nil, by simpa using Apart.nil, by simpa using Sized.nil⟩
theorem good_snoc {ks : List Kd} {j : Nat} (h : j < ks.length) : Good ks (j + 1) ↔ Good ks j ∧ First ks ks[j].1 j ∧ nameB ks[j].1 = true ∧ 0 ≤ ks[j].2 ∧ ks[j].2 ≤ 64 := by
  unfold Good
  rw [named_snoc h, apart_snoc h, sized_snoc h]
  constructor
  · rintro ⟨⟨a, b⟩, ⟨c, d⟩, e, f⟩; exact ⟨⟨a, c, e⟩, d, b, f⟩
  · rintro ⟨⟨a, c, e⟩, d, b, f⟩; exact ⟨⟨a, b⟩, ⟨c, d⟩, e, f⟩
theorem good_all (ks : List Kd) : Good ks ks.length ↔ Named ks ∧ Apart ks ∧ Sized ks := by unfold Good; rw [List.take_length]
theorem good_take {ks : List Kd} (h : Named ks ∧ Apart ks ∧ Sized ks) (j : Nat) : Good ks j := ⟨named_take h.1 j, apart_take h.2.1 j, sized_take h.2.2 j⟩
/-- The Size of the one at a place. -/
def sizeK (ks : List Kd) (k : Int) : Int × Bool := if 0 ≤ k ∧ k < ks.length then ((ks.getD k.toNat (.empty, 0)).2, true) else (0, false)
/-- More than is asked. -/
def muchK (ks : List Kd) : Bool := (ks.take 50).any (fun k => decide (100 < k.1.size)) || decide (40 < ks.length)
theorem muchK_no {ks : List Kd} (h : muchK ks = false) : ks.length ≤ 40 ∧ ∀ k ∈ ks, k.1.size ≤ 100 := by
  simp only [muchK, Bool.or_eq_false_iff, List.any_eq_false, decide_eq_true_eq, decide_eq_false_iff_not] at h
  obtain ⟨h1, h2⟩ := h
  refine ⟨by omega, fun k hk => ?_⟩
  rw [List.take_of_length_le (by omega)] at h1
  have := h1 k hk
  omega
end Go.Proofs.Ytndnmcdbfjgglaa
