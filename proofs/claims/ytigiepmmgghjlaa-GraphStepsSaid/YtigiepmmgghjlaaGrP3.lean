/- The contracts of join, step, With, Without. -/
import Derived.Test.YtigiepmmgghjlaaGrP2
import Derived.Test.YtigiepmmgghjlaaBitsO
import Derived.Test.YtigiepmmgghjlaaBitsWo
namespace Go.Proofs.Ytigiepmmgghjlaa
open Go.RowKit

/-- What leads where, behind a join. -/
def edJoin (ed : Int × Int → Option Nat) (i j : Nat) (c : Int) (x : Int × Int) : Option Nat := if x = ((j : Int), c) then some i else if x = ((i : Int), c) then some j else ed x
theorem atV_join (ed : Int × Int → Option Nat) (i j : Nat) (c : Int) (x : Int × Int) :
    (if x = ((j : Int), c) then some (Value.int .i64 (i : Int)) else if x = ((i : Int), c) then some (.int .i64 (j : Int)) else atV (ed x)) = atV (edJoin ed i j c x) := by
  unfold edJoin
  by_cases h1 : x = ((j : Int), c)
  · rw [if_pos h1, if_pos h1]; rfl
  · rw [if_neg h1, if_neg h1]
    by_cases h2 : x = ((i : Int), c)
    · rw [if_pos h2, if_pos h2]; rfl
    · rw [if_neg h2, if_neg h2]

section
variable {w w' : World} {own own' : Nat → Prop} {p m1 m2 b : Nat} {sv : Value} {S : List Nat} {ed : Int × Int → Option Nat}

theorem GAt.wfI {i : Nat} (h : i ≤ 1000000) : (Lit.int .i64 (i : Int)).wf = true := WalkArith.wf_i64 (by omega)

theorem join_any (h : GAt w own p sv m1 m2 S ed b) (i j s t : Nat) (c : Int) (hi : S[i]? = some s) (hj : S[j]? = some t) (hbs : Beside s t c) (hS : S.length ≤ 1000000) (hb : b ≤ 1000000) :
    Calls Try.prog 31 #[.pointer (some ⟨p, 0, none⟩), .int .i64 i, .int .i64 j, .int .i64 c] w fun e w' => e = .returned (.tuple #[]) ∧ Fr own w w' ∧ GAt w' own p sv m1 m2 S (edJoin ed i j c) (b + 2) := by
  have hil := (List.getElem?_eq_some_iff.1 hi).1
  have hjl := (List.getElem?_eq_some_iff.1 hj).1
  have wi := GAt.wfI (i := i) (by omega)
  have wj := GAt.wfI (i := j) (by omega)
  have wc : (Lit.int .i64 c).wf = true := WalkArith.wf_i64 (by have := hbs.2.1; have := hbs.2.2.1; omega)
  have c2 := h.c2
  obtain ⟨es2, cl2, hm2⟩ := h.edges.map_at
  have q2 : m2 ≠ p := rec_notM h.blk hm2
  have HA := Lib.hid h
  have ME := Lib.hid h.edges
  clear h
  go_enter Try.func31, Try.ntmps31
  go_wp2_with (first
    | (at_mapUpdate; refine wpList_putF kfE Try.underlying49 (by rfl) (.tmp 11) (.tmp 14) (.tmp 15) rfl ME.out (by omega) ((i : Int), c) ⟨wi, wc⟩ (.int .i64 j) rfl rfl rfl ?_; intro w2 hM2 hg2; have f2 : Fr (· = m2) w w2 := (Fr.grown hg2 (fun x hx => by injection hx with hx; exact hx.symm)); have k2 : w2.cell? ⟨p, 2, none⟩ = some (.map (some m2)) := (HA.out.blk.fr f2 (fun e => q2 e.symm)).at_ 2; have M2 := Lib.hid hM2; have F2 := Lib.hid f2; clear hM2 hg2 f2)
    | (at_mapUpdate; refine wpList_putF kfE Try.underlying49 (by rfl) (.tmp 19) (.tmp 22) (.tmp 23) rfl M2.out (by omega) ((j : Int), c) ⟨wj, wc⟩ (.int .i64 i) rfl rfl rfl ?_; intro w3 hM3 hg3; have f3 : Fr (· = m2) w2 w3 := (Fr.grown hg3 (fun x hx => by injection hx with hx; exact hx.symm)); have M3 := Lib.hid hM3; have F3 := Lib.hid (F2.out.trans f3); clear hM3 hg3 f3))
  go_end0
  have h := HA.out
  have n2 : sv.ownBlock ≠ some m2 := own_notM h.row hm2
  refine ⟨rfl, F3.out.mono (fun x hx => by rw [show x = m2 from hx]; exact h.own2), ?_⟩
  exact {
    blk := h.blk.fr F3.out (fun e => q2 e.symm)
    row := own_fr h.row F3.out (fun x hx e => n2 (by rw [hx, show x = m2 from e]))
    nodes := h.nodes.fr F3.out (fun e => h.two e)
    edges := M3.out.congr (fun x _ => atV_join ed i j c x)
    two := h.two
    ownp := h.ownp
    own1 := h.own1
    own2 := h.own2
    ownv := h.ownv
    ok := h.ok
    edok := fun n c' m hm => by
      unfold edJoin at hm
      by_cases h1 : (n, c') = ((j : Int), c)
      · rw [if_pos h1] at hm
        injection h1 with h1 h2
        injection hm with hm
        subst hm
        rw [h2]
        exact ⟨j, t, s, h1, hj, hi, hbs.symm⟩
      · rw [if_neg h1] at hm
        by_cases h2 : (n, c') = ((i : Int), c)
        · rw [if_pos h2] at hm
          injection h2 with h2 h3
          injection hm with hm
          subst hm
          rw [h3]
          exact ⟨i, s, t, h2, hi, hj, hbs⟩
        · rw [if_neg h2] at hm
          exact h.edok n c' m hm }

/-- A graph behind a step: its sets, and what leads where is known in some way. -/
def GG (w : World) (own : Nat → Prop) (p m1 m2 : Nat) (S : List Nat) (b : Nat) (w' : World) : Prop := ∃ ed, GGo w own p m1 m2 S ed b w'

/-- The call of what changes the set. -/
def chgF (b : Bool) : Value := if b = true then .func (.func 24) #[] #[] else .func (.func 25) #[] #[]

theorem step_no (h : GAt w own p sv m1 m2 S ed b) (F : Value) (n c : Int) (hn : ¬ (0 ≤ n ∧ n < S.length)) :
    Calls Try.prog 23 #[.pointer (some ⟨p, 0, none⟩), .int .i64 n, .int .i64 c, F] w fun e w' => e = .returned (.int .i64 (-1)) ∧ w = w' := by
  have CS := Lib.hid (Sig_no h n hn)
  clear h hn
  go_enter Try.func23, Try.ntmps23
  go_wp2_with (go_at_call 11; refine CS.out.mono ?_; rintro e w' ⟨rfl, rfl⟩)
  go_ret
  exact ⟨rfl, rfl⟩
theorem step_nil (F : Value) (n c : Int) (w : World) : Calls Try.prog 23 #[.pointer none, .int .i64 n, .int .i64 c, F] w fun e w' => e = .returned (.int .i64 (-1)) ∧ w = w' := by
  go_enter Try.func23, Try.ntmps23
  go_wp2_with (go_at_call 11; refine (Sig_nil _ _).mono ?_; rintro e w' ⟨rfl, rfl⟩)
  go_ret
  exact ⟨rfl, rfl⟩
end
end Go.Proofs.Ytigiepmmgghjlaa
