/- Rows of components of one's own; what a layout's bytes are read as; le's Reader in a loop. -/
import Derived.Test.YtdaenkfkiijlkaaCmR1
import Derived.Test.YtdaenkfkiijlkaaCm4
namespace Go.Proofs.Ytdaenkfkiijlkaa
open Go.RowKit
set_option linter.unusedVariables false

/-- Components as cells. -/
def kcells (ks : List Kd) : List Value := ks.flatMap fun k => [.string k.1, .int .i64 k.2]
theorem kcells_snoc (ks : List Kd) (k : Kd) : kcells (ks ++ [k]) = kcells ks ++ [.string k.1, .int .i64 k.2] := by simp [kcells]
theorem kcells_len (ks : List Kd) : (kcells ks).length = ks.length * 2 := by
  induction ks with
  | nil => rfl
  | cons k ks ih => simp only [kcells, List.flatMap_cons, List.length_append, List.length_cons, List.length_nil] at ih ⊢; omega
theorem kcells_at (ks : List Kd) : ∀ (j : Nat) (h : j < ks.length), (kcells ks)[j * 2]? = some (.string ks[j].1) ∧ (kcells ks)[j * 2 + 1]? = some (.int .i64 ks[j].2) := by
  induction ks with
  | nil => intro j h; simp at h
  | cons k ks ih =>
    intro j h
    cases j with
    | zero => exact ⟨rfl, rfl⟩
    | succ j =>
      have := ih j (by simpa using h)
      rw [show (j + 1) * 2 = j * 2 + 2 by omega]
      exact this
theorem KRd.of_own {w : World} {B : Nat} {v : Value} {n : Nat} {ks : List Kd} (h : w.ownsRow B 50 2 v n (kcells ks)) : ∃ A c, v = .slice A n c ∧ KRd w A n ks ∧ n ≤ c ∧ c ≤ maxLen := by
  have hl : ks.length = n := by have := h.1; rw [kcells_len] at this; omega
  rcases h.2 with ⟨rfl, rfl⟩ | ⟨g, cap, cur, rfl, _, hh, hn, hc, _⟩
  · exact ⟨none, 0, rfl, ⟨hl, fun h => absurd h (Nat.lt_irrefl 0)⟩, Nat.le_refl _, Nat.zero_le _⟩
  · refine ⟨_, cap, rfl, ⟨hl, fun _ => ⟨g, 0, rfl, (Array.getElem?_eq_some_iff.1 hh).1, fun j hj => ?_⟩⟩, hn, hc⟩
    obtain ⟨k0, k1⟩ := kcells_at ks j hj
    have h0 := h.cells (g := g) rfl (j * 2) _ k0
    have h1 := h.cells (g := g) rfl (j * 2 + 1) _ k1
    rw [Addr.add_lit] at h0 h1
    exact ⟨h0, h1⟩

/-- The next n components. -/
def rdKs : Nat → RS → List Kd × RS
  | 0, st => ([], st)
  | n + 1, st => ((rdKs n st).1 ++ [((rdText (rdKs n st).2).1, (rdNum 1 (rdText (rdKs n st).2).2).1)], (rdNum 1 (rdText (rdKs n st).2).2).2)
theorem rdKs_len (st : RS) : ∀ n, (rdKs n st).1.length = n
  | 0 => rfl
  | n + 1 => by simp [rdKs, rdKs_len st n]
/-- A layout, whatever it is. -/
def rdConf (st : RS) : Cf × RS :=
  let a := rdNum 4 st
  let b := rdNum 4 a.2
  let c := rdNum 4 b.2
  let d := rdNum 4 c.2
  let n := rdNum 1 d.2
  let k := rdKs n.1.toNat n.2
  (⟨a.1, b.1, c.1, d.1, k.1⟩, k.2)
/-- A byte is a number from 0 to 255. -/
theorem rdNum1 (st : RS) : ∃ n : Nat, (rdNum 1 st).1 = (n : Int) ∧ n ≤ 255 := by
  unfold rdNum
  split
  · exact ⟨0, rfl, by omega⟩
  · split
    · exact ⟨0, rfl, by omega⟩
    · have h := leN_lt (st.1.take 1)
      rw [List.length_take] at h
      have h2 : 2 ^ (8 * min 1 st.1.length) ≤ 2 ^ 8 := Nat.pow_le_pow_right (by decide) (by omega)
      exact ⟨leN (st.1.take 1), getV_in _ (by omega), by omega⟩
theorem rdText_len (st : RS) : (rdText st).1.size ≤ 65535 := by
  unfold rdText
  have h := lenT_le st.1
  split
  · exact Nat.zero_le _
  · split
    · exact Nat.zero_le _
    · show (str ((st.1.drop 2).take (lenT st.1))).size ≤ 65535
      have : (str ((st.1.drop 2).take (lenT st.1))).size = ((st.1.drop 2).take (lenT st.1)).length := rfl
      rw [this, List.length_take]
      omega
theorem rdKs_lens (st : RS) : ∀ n, ∀ k ∈ (rdKs n st).1, k.1.size ≤ 65535
  | 0 => fun k hk => by cases hk
  | n + 1 => fun k hk => by
    simp only [rdKs, List.mem_append, List.mem_singleton] at hk
    rcases hk with hk | rfl
    · exact rdKs_lens st n k hk
    · exact rdText_len _
end Go.Proofs.Ytdaenkfkiijlkaa
