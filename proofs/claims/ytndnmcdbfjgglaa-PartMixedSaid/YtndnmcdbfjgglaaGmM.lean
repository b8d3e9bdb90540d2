/- Where each thing of a disk lies: plain. -/
import Derived.Test.YtndnmcdbfjgglaaCmM
namespace Go.Proofs.Ytndnmcdbfjgglaa

/-- Places of the log that may be. -/
def Plc (n : Int) : Prop := 0 ≤ n ∧ n ≤ 281474976710656
instance (n : Int) : Decidable (Plc n) := by unfold Plc; infer_instance

/-- The sector that the things of a kind begin with. -/
def firstZ (lg k : Int) : Int := if k = 2 then lg + 2 else if k = 1 then 2 else 0
/-- The kind of thing that lies in a sector that there is. -/
def liesZ (lg s : Int) : Int := if s < 2 then 3 else if s < lg + 2 then 1 else 2

def superZ (n : Int) : Int := if 0 ≤ n ∧ n ≤ 1 then n else -1
def logZ (R : Bool) (lg n : Int) : Int := if R = true ∧ Plc n then 2 + n.tmod lg else -1
def pageZ (R : Bool) (lg pg p : Int) : Int := if R = true ∧ 0 ≤ p ∧ p ≤ pg - 1 then lg + 2 + p else -1
def roomZ (R : Bool) (lg h t : Int) : Int := if R = true ∧ 0 ≤ h ∧ h ≤ t ∧ t ≤ 281474976710656 ∧ t - h ≤ lg then lg - (t - h) else -1
def needZ (n : Int) : Int := if n ≤ 460 then 1 else (n - 1).tdiv 460 + 1
/-- There is such a sector. -/
def InZ (R : Bool) (lg pg s : Int) : Prop := R = true ∧ 0 ≤ s ∧ s ≤ lg + pg + 1
instance (R : Bool) (lg pg s : Int) : Decidable (InZ R lg pg s) := by unfold InZ; infer_instance
def whatK (R : Bool) (lg pg s : Int) : Int := if InZ R lg pg s then liesZ lg s else 0
def whatN (R : Bool) (lg pg s : Int) : Int := if InZ R lg pg s then s - firstZ lg (liesZ lg s) else 0

theorem needZ_eq (n : Int) : needZ n = if n < 1 then 1 else n.tdiv 460 + (if 0 < n.tmod 460 then 1 else 0) := by
  unfold needZ
  by_cases h : n < 1
  · rw [if_pos h, if_pos (by omega)]
  · have e1 : n.tdiv 460 = n / 460 := Int.tdiv_eq_ediv_of_nonneg (by omega)
    have e2 : n.tmod 460 = n % 460 := Int.tmod_eq_emod_of_nonneg (by omega)
    have e3 : (n - 1).tdiv 460 = (n - 1) / 460 := Int.tdiv_eq_ediv_of_nonneg (by omega)
    rw [if_neg h, e1, e2, e3]
    split <;> split <;> omega

theorem tmod_of (n lg : Int) : n.tmod lg = n - n.tdiv lg * lg := by
  have := Int.tmod_add_mul_tdiv n lg
  have hc : lg * n.tdiv lg = n.tdiv lg * lg := Int.mul_comm _ _
  omega
theorem tmod_in (n lg : Int) (h : 0 ≤ n) (hl : 2 ≤ lg) : 0 ≤ n.tmod lg ∧ n.tmod lg < lg := by
  rw [Int.tmod_eq_emod_of_nonneg h]
  exact ⟨Int.emod_nonneg _ (by omega), Int.emod_lt_of_pos _ (by omega)⟩
theorem tmod_small {n lg : Int} (h : 0 ≤ n) (hl : n < lg) : n.tmod lg = n := by
  rw [Int.tmod_eq_emod_of_nonneg h, Int.emod_eq_of_lt h hl]
/-- Places of the log in one sector are its length apart. -/
theorem tmod_apart {a b lg : Int} (ha : 0 ≤ a) (hb : 0 ≤ b) (h : a.tmod lg = b.tmod lg) : (a - b).tmod lg = 0 := by
  rw [Int.tmod_eq_emod_of_nonneg ha, Int.tmod_eq_emod_of_nonneg hb] at h
  exact Int.tmod_eq_zero_of_dvd (Int.dvd_of_emod_eq_zero (by rw [Int.sub_emod, h, Int.sub_self, Int.zero_emod]))
end Go.Proofs.Ytndnmcdbfjgglaa
