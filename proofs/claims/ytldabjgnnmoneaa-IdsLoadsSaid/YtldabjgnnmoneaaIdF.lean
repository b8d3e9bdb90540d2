/- The contract of the law's do. -/
import Derived.Test.YtldabjgnnmoneaaIdE
namespace Go.Proofs.Ytldabjgnnmoneaa
open Go.RowKit

/-- A step of a script. -/
structure Stg where
  give : Bool
  i : Int
  gen : Int
def Stg.val (x : Stg) : Value := .agg #[.bool x.give, .int .i64 x.i, .int .i64 x.gen]
def NS.go (s : NS) (x : Stg) : NS × (Int × Int) × Int := if x.give = true then ((s.give x.i x.gen).1, (0, 0), (s.give x.i x.gen).2) else s.take

theorem code_any (n : Int) (w : World) : Calls Try.prog 15 #[.int .i64 n] w fun e w' => e = .returned (.int .i64 n) ∧ w = w' := by
  go_enter Try.func15, Try.ntmps15
  go_wp2
  go_ret
  exact ⟨rfl, rfl⟩

section
variable {w : World} {own : Nat → Prop} {p : Nat} {gv av fv : Value} {s : NS}
theorem Give_any (dom : ∀ x, own x → x < w.heap.size) (h : IAt w own p gv av fv s) (i gen : Int) :
    Calls Try.prog 17 #[.pointer (some ⟨p, 0, none⟩), idv (i, gen)] w fun e w' => e = .returned (.int .i64 (s.give i gen).2) ∧ IGoes w own p (s.give i gen).1 w' := by
  cases ha : s.alive i gen
  · have := Give_no dom h i gen ha
    rw [NS.give_no ha]
    exact this
  · have := Give_yes dom h i gen ha
    rw [show (s.give i gen).2 = 0 by rw [NS.give_yes ha]]
    exact this

theorem do_give (dom : ∀ x, own x → x < w.heap.size) (h : IAt w own p gv av fv s) (i gen : Int) :
    Calls Try.prog 9 #[.pointer (some ⟨p, 0, none⟩), .agg #[.bool true, .int .i64 i, .int .i64 gen]] w fun e w' => e = .returned (.tuple #[idv (0, 0), .int .i64 (s.give i gen).2]) ∧ IGoes w own p (s.give i gen).1 w' := by
  obtain ⟨w1, hw1⟩ : ∃ w1, w1 = (w.alloc (.cells #[.bool true, .int .i64 i, .int .i64 gen] 35)).alloc (.cells #[.int .i64 0, .int .i64 0] 24) := ⟨_, rfl⟩
  have hb : Below w.heap.size w w1 := by rw [hw1]; exact ((Below.refl _ _).alloc (Nat.le_refl _) _).alloc (by simp) _
  have hS1 : Rec 35 w1 w.heap.size #[.bool true, .int .i64 i, .int .i64 gen] := by rw [hw1]; exact (Rec.new w _ _).under ((Below.refl _ _).alloc (Nat.le_refl _) _)
  have hR1 : Rec 24 w1 (w.heap.size + 1) #[.int .i64 0, .int .i64 0] := by
    have := Rec.new (w.alloc (.cells #[.bool true, .int .i64 i, .int .i64 gen] 35)) 24 #[.int .i64 0, .int .i64 0]
    rw [World.size_alloc] at this
    rw [hw1]; exact this
  have c0 : w1.cell? ⟨w.heap.size, 0, none⟩ = some (.bool true) := hS1.at_ 0
  have c1 : w1.cell? ⟨w.heap.size, 1, none⟩ = some (.int .i64 i) := hS1.at_ 1
  have c2 : w1.cell? ⟨w.heap.size, 2, none⟩ = some (.int .i64 gen) := hS1.at_ 2
  have dom1 : ∀ x, own x → x < w1.heap.size := fun x hx => Nat.lt_of_lt_of_le (dom x hx) hb.size
  have CG := Give_any dom1 (h.below hb) i gen
  obtain ⟨r, hr⟩ : ∃ r, r = (s.give i gen).2 := ⟨_, rfl⟩
  rw [← hr] at CG ⊢
  have CH := Lib.hid CG
  have HB := Lib.hid hb
  have HR := Lib.hid hR1
  clear hb hR1 CG hr hS1 h
  go_enter Try.func9, Try.ntmps9
  go_wp2_with (first
    | (rw [← hw1]; clear hw1)
    | (go_at_call 17; refine CH.out.mono ?_; rintro e w2 ⟨rfl, hG2⟩; have HR2 := Lib.hid (IGoes.rec_ (w := w) dom HR.out (by omega) hG2); have HG2 := Lib.hid hG2; clear hG2)
    | (go_at_call 15; refine (code_any _ _).mono ?_; rintro e w' ⟨rfl, rfl⟩)
    | (with_reducible refine wpList_stP (x1 := 0) (y1 := 0) rfl (.tmp 4) (.tmp 10) rfl rfl rfl HR2.out ?_; intro w5 hR5 hF5))
  refine bodyPost_ret (res_ct rfl rfl (hR5.load idT rfl)) rfl ?_
  exact ⟨rfl, IGoes.res dom HB.out (by omega) HR.out.lt HG2.out hF5⟩

theorem step_stP {ops : Array Oper} {o : Oper} {a : Act} {J : Act → World → Prop} {Q : Exit → Act → World → Prop} {E : Prop} {g : Nat} {x0 y0 x1 y1 : Int} {w : World} (hgd : o.guard = none) (x y : Operand) (ho : o.op = .store 24 x y)
    (hx : a.eval x = .pointer (some ⟨g, 0, none⟩)) (hy : a.eval y = .agg #[.int .i64 x1, .int .i64 y1]) (h : Rec 24 w g #[.int .i64 x0, .int .i64 y0])
    (kk : ∀ w', Rec 24 w' g #[.int .i64 x1, .int .i64 y1] → Fr (· = g) w w' → J (a.put o.dst undef) w') : if Region.wanted o (yielded ops a.tmps) = true then Oper.wp Try.prog o a w J Q else E :=
  step_stS idT rfl rfl (by simp [Value.oneCell']) hgd x y ho hx hy h kk

theorem do_take (dom : ∀ x, own x → x < w.heap.size) (h : IAt w own p gv av fv s) (i gen : Int) :
    Calls Try.prog 9 #[.pointer (some ⟨p, 0, none⟩), .agg #[.bool false, .int .i64 i, .int .i64 gen]] w fun e w' => e = .returned (.tuple #[idv s.take.2.1, .int .i64 s.take.2.2]) ∧ IGoes w own p s.take.1 w' := by
  obtain ⟨w1, hw1⟩ : ∃ w1, w1 = (w.alloc (.cells #[.bool false, .int .i64 i, .int .i64 gen] 35)).alloc (.cells #[.int .i64 0, .int .i64 0] 24) := ⟨_, rfl⟩
  have hb : Below w.heap.size w w1 := by rw [hw1]; exact ((Below.refl _ _).alloc (Nat.le_refl _) _).alloc (by simp) _
  have hS1 : Rec 35 w1 w.heap.size #[.bool false, .int .i64 i, .int .i64 gen] := by rw [hw1]; exact (Rec.new w _ _).under ((Below.refl _ _).alloc (Nat.le_refl _) _)
  have hR1 : Rec 24 w1 (w.heap.size + 1) #[.int .i64 0, .int .i64 0] := by
    have := Rec.new (w.alloc (.cells #[.bool false, .int .i64 i, .int .i64 gen] 35)) 24 #[.int .i64 0, .int .i64 0]
    rw [World.size_alloc] at this
    rw [hw1]; exact this
  have c0 : w1.cell? ⟨w.heap.size, 0, none⟩ = some (.bool false) := hS1.at_ 0
  have dom1 : ∀ x, own x → x < w1.heap.size := fun x hx => Nat.lt_of_lt_of_le (dom x hx) hb.size
  have CG := Take_any dom1 (h.below hb)
  obtain ⟨a, ha⟩ : ∃ a, a = s.take.2.1.1 := ⟨_, rfl⟩
  obtain ⟨b, hb'⟩ : ∃ b, b = s.take.2.1.2 := ⟨_, rfl⟩
  obtain ⟨r, hr⟩ : ∃ r, r = s.take.2.2 := ⟨_, rfl⟩
  simp only [idv] at CG ⊢
  rw [← hr, ← ha, ← hb'] at CG ⊢
  have CH := Lib.hid CG
  have HB := Lib.hid hb
  have HR := Lib.hid hR1
  clear hb hR1 CG hr hS1 h ha hb'
  go_enter Try.func9, Try.ntmps9
  go_wp2_with (first
    | (rw [← hw1]; clear hw1)
    | (go_at_call 16; refine CH.out.mono ?_; rintro e w2 ⟨rfl, hG2⟩; have HR2 := Lib.hid (IGoes.rec_ (w := w) dom HR.out (by omega) hG2); have HG2 := Lib.hid hG2; clear hG2))
  obtain ⟨w3, hw3⟩ : ∃ w3, w3 = w2.alloc (.cells #[.int .i64 a, .int .i64 b] 24) := ⟨_, rfl⟩
  have b3 : Below w2.heap.size w2 w3 := by rw [hw3]; exact (Below.refl _ _).alloc (Nat.le_refl _) _
  have hR3 : Rec 24 w3 w2.heap.size #[.int .i64 a, .int .i64 b] := by rw [hw3]; exact Rec.new _ _ _
  have HT3 := Lib.hid (HR2.out.under b3)
  have HG3 := Lib.hid (HG2.out.below b3)
  rw [← hw3]
  have k0 : w3.cell? ⟨w2.heap.size, 0, none⟩ = some (.int .i64 a) := hR3.at_ 0
  have k1 : w3.cell? ⟨w2.heap.size, 1, none⟩ = some (.int .i64 b) := hR3.at_ 1
  clear hw3 b3 HR2 HG2 hR3
  have T0 : w3.cell? ⟨w.heap.size + 1, 0, none⟩ = some (.int .i64 0) := HT3.out.at_ 0
  have T1 : w3.cell? ⟨w.heap.size + 1, 1, none⟩ = some (.int .i64 0) := HT3.out.at_ 1
  have z0 := HT3.out.fz 0
  have z1 := HT3.out.fz 1
  have T0d : w3.drew.cell? ⟨w.heap.size + 1, 0, none⟩ = some (.int .i64 0) := T0
  have T1d : w3.drew.cell? ⟨w.heap.size + 1, 1, none⟩ = some (.int .i64 0) := T1
  have z0d : w3.drew.frozen? ⟨w.heap.size + 1, 0, none⟩ = false := z0
  have z1d : w3.drew.frozen? ⟨w.heap.size + 1, 1, none⟩ = false := z1
  have hR5 : Rec 24 ((w3.setCell ⟨w.heap.size + 1, 0, none⟩ (.int .i64 a)).setCell ⟨w.heap.size + 1, 1, none⟩ (.int .i64 b)).drew (w.heap.size + 1) #[.int .i64 a, .int .i64 b] := (HT3.out.set 0 _).set 1 _
  have hF5 : Fr (· = w.heap.size + 1) w3 ((w3.setCell ⟨w.heap.size + 1, 0, none⟩ (.int .i64 a)).setCell ⟨w.heap.size + 1, 1, none⟩ (.int .i64 b)).drew :=
    ((Fr.setCell (own := (· = w.heap.size + 1)) w3 (p := ⟨w.heap.size + 1, 0, none⟩) rfl _).trans (Fr.setCell (own := (· = w.heap.size + 1)) _ (p := ⟨w.heap.size + 1, 1, none⟩) rfl _)).trans (Fr.drew _ _)
  have HR5 := Lib.hid hR5
  have HF5 := Lib.hid hF5
  clear hR5 hF5
  go_region_law (go_simp; go_at_call 15; refine (code_any _ _).mono ?_; rintro e w' ⟨rfl, rfl⟩)
  all_goals go_wp2
  all_goals refine bodyPost_ret (res_ct rfl rfl (HR5.out.load idT rfl)) rfl ?_
  all_goals exact ⟨rfl, IGoes.res dom HB.out (by omega) HR.out.lt HG3.out HF5.out⟩

theorem do_any (dom : ∀ x, own x → x < w.heap.size) (h : IAt w own p gv av fv s) (x : Stg) :
    Calls Try.prog 9 #[.pointer (some ⟨p, 0, none⟩), x.val] w fun e w' => e = .returned (.tuple #[idv (s.go x).2.1, .int .i64 (s.go x).2.2]) ∧ IGoes w own p (s.go x).1 w' := by
  obtain ⟨gb, i, gen⟩ := x
  cases gb
  · exact do_take dom h i gen
  · exact do_give dom h i gen
end
end Go.Proofs.Ytldabjgnnmoneaa
