/- ByE, CdE -/
import Derived.Test.YtlinafnhhnkjnaaQf10
namespace Go.Proofs.Ytlinafnhhnkjnaa
open Go.RowKit

theorem Equal_any (A A' : Option Addr) (n c n' c' : Nat) (l l' : List UInt8) (w : World) (h1 : Rd w A n l) (h2 : Rd w A' n' l') :
    Calls Try.prog 26 #[.slice A n c, .slice A' n' c'] w fun e w' => e = .returned (.bool (decide (l = l'))) ∧ w = w' := by
  have k1 := run_to_string 25 9 5 Try.underlying25 Try.underlying5 Try.underlying9 w A n c l h1
  have k2 := run_to_string 25 9 5 Try.underlying25 Try.underlying5 Try.underlying9 w A' n' c' l' h2
  clear h1 h2
  go_enter Try.func26, Try.ntmps26
  go_wp2
  go_ret
  exact ⟨ret_bool (by rw [str_toList, str_toList]; by_cases h : l = l' <;> simp [h]), rfl⟩
end Go.Proofs.Ytlinafnhhnkjnaa
namespace Go.Proofs.Ytlinafnhhnkjnaa
open Go.RowKit
set_option linter.unusedVariables false
set_option maxRecDepth 20000

section
variable {P : Program} {T : TypeId} {w w' : World} {g : Nat} {cs : Array Value} {n : Nat} {ops : Array Oper} {o : Oper} {a : Act} {Q : Exit → Act → World → Prop}
/-- The load of a struct by value, as a step of a region that draws its order. -/
theorem step_ldS {J : Act → World → Prop} {E : Prop} (rt : RT P T n) (hn : cs.size = n) (hgd : o.guard = none) (x : Operand) (ho : o.op = .load T x)
    (hx : a.eval x = .pointer (some ⟨g, 0, none⟩)) (h : Rec T w g cs) (kk : J (a.put o.dst (.agg cs)) w) : if Region.wanted o (yielded ops a.tmps) = true then Oper.wp P o a w J Q else E := by
  have hw : Region.wanted o (yielded ops a.tmps) = true := by simp [Region.wanted, hgd]
  rw [if_pos hw]
  unfold Oper.wp execOp
  simp only [ho, hx, h.loadAt rt hn, Sem.run_bind, Sem.run_pure, Result.andThen_ok]
  exact kk
end
/-- Bytes don't lie in a block that holds a command. -/
theorem Rd.ne_cd {w : World} {A : Option Addr} {n g : Nat} {l : List UInt8} {x : Cd} {A' : Option Addr} {n' c' : Nat} (h : Rd w A n l) (hr : Rec 47 w g (x.cs A' n' c')) (b o : Nat) (e : A = some ⟨b, o, none⟩) (hp : 0 < n) : b ≠ g := by
  rintro rfl
  obtain ⟨b', o', e', _, hc⟩ := h.2 hp
  rw [e] at e'
  obtain ⟨rfl, rfl⟩ : b = b' ∧ o = o' := by simpa using e'
  have h0 := hc 0 (by rw [h.1]; exact hp)
  rw [Nat.add_zero, hr.at_ o] at h0
  match o, h0 with
  | 0, h0 => simp at h0
  | 1, h0 => simp at h0
  | 2, h0 => simp at h0
  | 3, h0 => simp at h0
  | 4, h0 => simp at h0
  | 5, h0 => simp at h0
  | _ + 6, h0 => simp at h0

end Go.Proofs.Ytlinafnhhnkjnaa
