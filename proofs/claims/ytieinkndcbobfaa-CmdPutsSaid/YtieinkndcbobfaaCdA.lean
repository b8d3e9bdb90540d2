/- Commands in memory; the contracts of has, Check, code and the reference's Check. -/
import Derived.Test.YtieinkndcbobfaaCdM
import Derived.Test.YtieinkndcbobfaaRec
import Derived.Test.YtieinkndcbobfaaBase
namespace Go.Proofs.Ytieinkndcbobfaa
open Go.RowKit
set_option linter.unusedVariables false

theorem cdT : RT Try.prog 26 6 := ⟨⟨_, Try.underlying26, rfl⟩, by kernel_rfl⟩
theorem trT : RT Try.prog 46 3 := ⟨⟨_, Try.underlying46, rfl⟩, by kernel_rfl⟩
/-- A command that is boxed at g. -/
structure CdAt (w0 w : World) (g : Nat) (x : Cd) (A : Option Addr) (n c : Nat) : Prop where
  r : Rec 26 w g (x.cs A n c)
  rd : Rd w A n x.dt
  bel : Below w0.heap.size w0 w
  hg : w0.heap.size ≤ g
section
variable {w0 w w' : World} {g : Nat} {x : Cd} {A : Option Addr} {n c : Nat}
theorem CdAt.new (w : World) (x : Cd) (A : Option Addr) (n c : Nat) (h : Rd w A n x.dt) : CdAt w (w.alloc (.cells (x.cs A n c) 26)) w.heap.size x A n c :=
  ⟨Rec.new w _ _, h.alloc _, (Below.refl _ _).alloc (Nat.le_refl _) _, Nat.le_refl _⟩
theorem CdAt.next (h : CdAt w0 w g x A n c) (hb : Below w.heap.size w w') : CdAt w0 w' g x A n c := ⟨h.r.under hb, h.rd.below (Nat.le_refl _) hb, h.bel.trans (hb.mono h.bel.size), h.hg⟩
theorem CdAt.c0 (h : CdAt w0 w g x A n c) : w.cell? ⟨g, 0, none⟩ = some (.int .i64 x.d) := h.r.at_ 0
theorem CdAt.c1 (h : CdAt w0 w g x A n c) : w.cell? ⟨g, 1, none⟩ = some (.bool x.lc) := h.r.at_ 1
theorem CdAt.c2 (h : CdAt w0 w g x A n c) : w.cell? ⟨g, 2, none⟩ = some (.int .i64 x.ix) := h.r.at_ 2
theorem CdAt.c3 (h : CdAt w0 w g x A n c) : w.cell? ⟨g, 3, none⟩ = some (.int .i64 x.gn) := h.r.at_ 3
theorem CdAt.c4 (h : CdAt w0 w g x A n c) : w.cell? ⟨g, 4, none⟩ = some (.int .i64 x.cp) := h.r.at_ 4
theorem CdAt.c5 (h : CdAt w0 w g x A n c) : w.cell? ⟨g, 5, none⟩ = some (.slice A n c) := h.r.at_ 5
end

/-- What has tells: what a command of this Do has. -/
def hasV (d : Int) : Value := .agg #[.bool (decide (1 ≤ d ∧ d ≤ 3)), .bool (decide (2 ≤ d ∧ d ≤ 3)), .bool (decide (d = 2))]
def hasB (d : Int) : Bool := decide (0 ≤ d ∧ d ≤ 3)
def HasP (d : Int) (w : World) (e : Ending) (w' : World) : Prop := e = .returned (.tuple #[hasV d, .bool (hasB d)]) ∧ Below w.heap.size w w'
theorem has_any (d : Int) (w : World) : Calls Try.prog 22 #[.int .i64 d] w (HasP d w) := by
  rcases cd_cases d with rfl | rfl | rfl | rfl | h
  · go_enter Try.func22, Try.ntmps22
    go_wp2
    exact bodyPost_ret (v := .tuple #[.agg #[.bool false, .bool false, .bool false], .bool true]) (by simp [results, Try.results22, go_sem]) rfl ⟨rfl, (Below.refl _ _).alloc (Nat.le_refl _) _⟩
  · go_enter Try.func22, Try.ntmps22
    go_wp2
    exact bodyPost_ret (v := .tuple #[.agg #[.bool true, .bool false, .bool false], .bool true]) (by simp [results, Try.results22, go_sem]) rfl ⟨rfl, (Below.refl _ _).alloc (Nat.le_refl _) _⟩
  · go_enter Try.func22, Try.ntmps22
    go_wp2
    exact bodyPost_ret (v := .tuple #[.agg #[.bool true, .bool true, .bool true], .bool true]) (by simp [results, Try.results22, go_sem]) rfl ⟨rfl, (Below.refl _ _).alloc (Nat.le_refl _) _⟩
  · go_enter Try.func22, Try.ntmps22
    go_wp2
    exact bodyPost_ret (v := .tuple #[.agg #[.bool true, .bool true, .bool false], .bool true]) (by simp [results, Try.results22, go_sem]) rfl ⟨rfl, (Below.refl _ _).alloc (Nat.le_refl _) _⟩
  · have h0 : ¬ d = 0 := by omega
    have h1 : ¬ d = 1 := by omega
    have h2 : ¬ d = 2 := by omega
    have h3 : ¬ d = 3 := by omega
    have q : hasV d = .agg #[.bool false, .bool false, .bool false] := by
      unfold hasV
      rw [decide_eq_false (show ¬ (1 ≤ d ∧ d ≤ 3) by omega), decide_eq_false (show ¬ (2 ≤ d ∧ d ≤ 3) by omega), decide_eq_false h2]
    have q2 : hasB d = false := decide_eq_false (by omega)
    have Q := Lib.hid (And.intro q q2)
    clear h q q2
    go_enter Try.func22, Try.ntmps22
    go_wp2
    exact bodyPost_ret (v := .tuple #[.agg #[.bool false, .bool false, .bool false], .bool false]) (by simp [results, Try.results22, go_sem]) rfl ⟨by rw [Q.out.1, Q.out.2], (Below.refl _ _).alloc (Nat.le_refl _) _⟩

section
variable (x : Cd) (A : Option Addr) (n c : Nat) (w : World)
theorem Check_any (h : Rd w A n x.dt) (hn : n ≤ 9223372036854775807) :
    Calls Try.prog 14 #[.agg (x.cs A n c)] w fun e w' => e = .returned (.int .i64 x.check) ∧ Below w.heap.size w w' := by
  obtain ⟨w1, hw1⟩ : ∃ w1, w1 = w.alloc (.cells (x.cs A n c) 26) := ⟨_, rfl⟩
  have C1 := CdAt.new w x A n c h
  rw [← hw1] at C1
  have c0 := C1.c0
  have hl := h.1
  have hv := has_any x.d w1
  have hck : x.check = if hasB x.d = true then (if n ≤ 64 then 0 else 13) else 1 := by unfold Cd.check hasB; rw [hl]; simp
  have K1 := Lib.hid C1
  have HV := Lib.hid hv
  have HK := Lib.hid hck
  obtain ⟨b, hb⟩ : ∃ b, b = hasB x.d := ⟨_, rfl⟩
  obtain ⟨a1, a2, a3, ha⟩ : ∃ a1 a2 a3, hasV x.d = .agg #[.bool a1, .bool a2, .bool a3] := ⟨_, _, _, rfl⟩
  have HB := Lib.hid hb
  have HA := Lib.hid ha
  clear C1 hv hck hl h hb ha
  have hr : ∀ b' e w2, HasP x.d w1 e w2 → hasB x.d = b' → e = .returned (.tuple #[.agg #[.bool a1, .bool a2, .bool a3], .bool b']) ∧ Below w1.heap.size w1 w2 := fun b' e w2 h e' => by rw [← e', ← HA.out]; exact h
  have HR := Lib.hid hr
  clear hr
  cases b
  · go_enter Try.func14, Try.ntmps14
    go_wp2_with (first
      | (rw [← hw1]; clear hw1)
      | (go_at_call 22; refine HV.out.mono ?_; intro e w2 hp; obtain ⟨rfl, hb2⟩ := HR.out false e w2 hp HB.out.symm; have K2 := Lib.hid (K1.out.next hb2); clear hb2 hp))
    go_ret
    refine ⟨ret_int ?_, K2.out.bel.alloc K2.out.bel.size _⟩
    rw [HK.out, ← HB.out]
    rfl
  · by_cases h64 : n ≤ 64
    all_goals
      go_enter Try.func14, Try.ntmps14
      go_wp2_with (first
        | (rw [← hw1]; clear hw1)
        | (go_at_call 22; refine HV.out.mono ?_; intro e w2 hp; obtain ⟨rfl, hb2⟩ := HR.out true e w2 hp HB.out.symm; have K2 := Lib.hid (K1.out.next hb2); have c5 := K2.out.c5; have g5 := K2.out.r.lt; clear hb2 hp))
      go_ret
      refine ⟨ret_int ?_, K2.out.bel.alloc K2.out.bel.size _⟩
      rw [HK.out, ← HB.out]
      simp [h64]

theorem RCheck_any (h : Rd w A n x.dt) (hn : n ≤ 9223372036854775807) :
    Calls Try.prog 15 #[.agg (x.cs A n c)] w fun e w' => e = .returned (.int .i64 x.check) ∧ Below w.heap.size w w' := by
  obtain ⟨w1, hw1⟩ : ∃ w1, w1 = w.alloc (.cells (x.cs A n c) 26) := ⟨_, rfl⟩
  have C1 := CdAt.new w x A n c h
  rw [← hw1] at C1
  have c0 := C1.c0
  have c5 := C1.c5
  have hl := h.1
  have hck : x.check = if 0 ≤ x.d ∧ x.d ≤ 3 then (if n ≤ 64 then 0 else 13) else 1 := by unfold Cd.check; rw [hl]
  have K1 := Lib.hid C1
  have HK := Lib.hid hck
  obtain ⟨d, hd⟩ : ∃ d, d = x.d := ⟨_, rfl⟩
  rw [← hd] at c0
  have HD := Lib.hid hd
  clear C1 hck hl h hd
  by_cases h0 : d < 0
  · go_enter Try.func15, Try.ntmps15
    go_wp2_with (rw [← hw1]; clear hw1)
    go_ret
    refine ⟨ret_int ?_, K1.out.bel⟩
    rw [HK.out, ← HD.out, if_neg (by omega)]
  · by_cases h3 : 3 < d
    · go_enter Try.func15, Try.ntmps15
      go_wp2_with (rw [← hw1]; clear hw1)
      go_ret
      refine ⟨ret_int ?_, K1.out.bel⟩
      rw [HK.out, ← HD.out, if_neg (by omega)]
    · by_cases h64 : n ≤ 64
      all_goals
        go_enter Try.func15, Try.ntmps15
        go_wp2_with (rw [← hw1]; clear hw1)
        go_ret
        refine ⟨ret_int ?_, K1.out.bel⟩
        rw [HK.out, ← HD.out, if_pos (by omega)]
        simp [h64]
end
theorem code_any (k : Int) (w : World) : Calls Try.prog 13 #[.int .i64 k] w fun e w' => e = .returned (.int .i64 k) ∧ w = w' := by
  go_enter Try.func13, Try.ntmps13
  go_wp2
  go_ret
  exact ⟨rfl, rfl⟩
end Go.Proofs.Ytieinkndcbobfaa
