/- Commands: plain. -/
import Derived.Test.YtieinkndcbobfaaNum
namespace Go.Proofs.Ytieinkndcbobfaa
open Go.RowKit

/-- A command. -/
structure Cd where
  d : Int
  lc : Bool
  ix : Int
  gn : Int
  cp : Int
  dt : List UInt8
abbrev Cd.zero : Cd := ⟨0, false, 0, 0, 0, []⟩
/-- Its cells; the data lie at A. -/
abbrev Cd.cs (x : Cd) (A : Option Addr) (n c : Nat) : Array Value := #[.int .i64 x.d, .bool x.lc, .int .i64 x.ix, .int .i64 x.gn, .int .i64 x.cp, .slice A n c]
theorem Cd.cs_size (x : Cd) (A : Option Addr) (n c : Nat) : (x.cs A n c).size = 6 := rfl
theorem Cd.cs_one (x : Cd) (A : Option Addr) (n c : Nat) : (x.cs A n c).all (·.oneCell') = true := by simp [Value.oneCell']
/-- Is it one of the four, and what has it? -/
def Cd.ok (x : Cd) : Prop := 0 ≤ x.d ∧ x.d ≤ 3
/-- P13.1: what counts of it. -/
def Cd.plain (x : Cd) : Cd :=
  if x.d = 0 then ⟨0, false, 0, 0, 0, []⟩
  else if x.d = 1 then ⟨1, x.lc, x.ix, if x.lc then 0 else x.gn, 0, []⟩
  else if x.d = 2 then ⟨2, x.lc, x.ix, if x.lc then 0 else x.gn, x.cp, x.dt⟩
  else if x.d = 3 then ⟨3, x.lc, x.ix, if x.lc then 0 else x.gn, x.cp, []⟩
  else x
/-- P13.1: Check. -/
def Cd.check (x : Cd) : Int := if 0 ≤ x.d ∧ x.d ≤ 3 then (if x.dt.length ≤ 64 then 0 else 13) else 1
/-- Whom it is done to, as bytes. -/
def Cd.tgt (x : Cd) : List UInt8 := if x.lc then numB 1 1 ++ numB 8 x.ix else numB 1 0 ++ numB 8 x.ix ++ numB 8 x.gn
/-- P13.2: its bytes. -/
def Cd.bytes (x : Cd) : List UInt8 :=
  if x.d = 0 then numB 1 0
  else if x.d = 1 then numB 1 1 ++ x.tgt
  else if x.d = 2 then numB 1 2 ++ x.tgt ++ numB 8 x.cp ++ numB 2 x.dt.length ++ x.dt
  else if x.d = 3 then numB 1 3 ++ x.tgt ++ numB 8 x.cp
  else [255]

theorem cd_cases (d : Int) : d = 0 ∨ d = 1 ∨ d = 2 ∨ d = 3 ∨ (d < 0 ∨ 3 < d) := by omega
theorem Cd.plain_plain (x : Cd) : x.plain.plain = x.plain := by
  obtain ⟨d, lc, ix, gn, cp, dt⟩ := x
  rcases cd_cases d with rfl | rfl | rfl | rfl | h
  · rfl
  · cases lc <;> rfl
  · cases lc <;> rfl
  · cases lc <;> rfl
  · have h0 : ¬ d = 0 := by omega
    have h1 : ¬ d = 1 := by omega
    have h2 : ¬ d = 2 := by omega
    have h3 : ¬ d = 3 := by omega
    simp [Cd.plain, h0, h1, h2, h3]
/-- Are all fields the same? -/
def Cd.eqB (x y : Cd) : Bool := decide (x.d = y.d) && decide (x.lc = y.lc) && decide (x.ix = y.ix ∧ x.gn = y.gn) && decide (x.cp = y.cp) && decide (x.dt = y.dt)
theorem Cd.eqB_iff (x y : Cd) : x.eqB y = true ↔ x = y := by
  obtain ⟨d, lc, ix, gn, cp, dt⟩ := x
  obtain ⟨d', lc', ix', gn', cp', dt'⟩ := y
  simp only [Cd.eqB, Bool.and_eq_true, decide_eq_true_eq, Cd.mk.injEq]
  constructor
  · rintro ⟨⟨⟨⟨h1, h2⟩, h3, h4⟩, h5⟩, h6⟩
    exact ⟨h1, h2, h3, h4, h5, h6⟩
  · rintro ⟨h1, h2, h3, h4, h5, h6⟩
    exact ⟨⟨⟨⟨h1, h2⟩, h3, h4⟩, h5⟩, h6⟩
theorem Cd.eqB_self (x : Cd) : x.eqB x = true := (Cd.eqB_iff x x).2 rfl
theorem Cd.tgt_len (x : Cd) : x.tgt.length ≤ 17 := by unfold Cd.tgt; split <;> simp
theorem Cd.bytes_len (x : Cd) : x.bytes.length ≤ 28 + x.dt.length := by
  have := x.tgt_len
  unfold Cd.bytes
  repeat' split
  all_goals (simp; try omega)
theorem Cd.plain_dt (x : Cd) : x.plain.dt.length ≤ x.dt.length := by
  unfold Cd.plain
  repeat' split
  all_goals simp
end Go.Proofs.Ytieinkndcbobfaa
