/- A command that comes in by value, as the row's frame reads it; of one among others. -/
import Derived.Test.YtieinkndcbobfaaCdA
import Derived.Test.YtieinkndcbobfaaOpn
import Derived.Lib.SmallJoins
namespace Go.Proofs.Ytieinkndcbobfaa
open Go.RowKit Go.ChangeShapes Go.WideShapes Go.Deep Go.Joins
set_option maxRecDepth 20000

/-- Its numbers are those that may be. -/
def Cd.wf (x : Cd) : Prop := (Lit.int .i64 x.ix).wf = true ∧ (Lit.int .i64 x.gn).wf = true ∧ (Lit.int .i64 x.cp).wf = true
section
variable {H : Type} {enc : TypeId × Value → H} {w : World} {base : Nat} {held : Bool}
theorem open_cmd {n : Nat} {cs : List Value} {y : DataW H × List MemPlace} (h : DataW.trod enc Try.prog w base (fun _ => true) held n 26 cs = some y) :
    ∃ (x : Cd) (A : Option Addr) (m c : Nat), cs = (x.cs A m c).toList ∧ (Rd w A m x.dt ∧ m ≤ c ∧ c ≤ maxLen) ∧ x.wf := by
  obtain ⟨xs, n1, _, _, hl, hxl, hf⟩ := DataW.trod_struct Try.underlying26 h
  have hc6 : Try.prog.cellsOf 26 = 6 := by kernel_rfl
  rw [hc6] at hl
  obtain ⟨v0, v1, v2, v3, v4, v5, rfl⟩ : ∃ a b c d e f, cs = [a, b, c, d, e, f] := by
    match cs, hl with
    | [a, b, c, d, e, f], _ => exact ⟨a, b, c, d, e, f, rfl⟩
  have hx : xs.length = 5 := hxl
  have hi2 : Try.prog.cellsOf 24 = 2 := by kernel_rfl
  have hn1 : Try.prog.cellsOf 3 = 1 := by kernel_rfl
  have hq1 : Try.prog.cellsOf 4 = 1 := by kernel_rfl
  have hb1 : Try.prog.cellsOf 22 = 1 := by kernel_rfl
  have e0 := hf 0 _ rfl
  have e1 := hf 1 _ rfl
  have e2 := hf 2 _ rfl
  have e3 := hf 3 _ rfl
  have e4 := hf 4 _ rfl
  rw [List.getElem?_eq_getElem (by omega)] at e0 e1 e2 e3 e4
  have f0 : DataW.trod enc Try.prog w base (fun _ => true) held n1 3 [v0] = some xs[0] := by
    have h := e0
    change DataW.trod enc Try.prog w base (fun _ => true) held _ 3 (([v0, v1, v2, v3, v4, v5].drop 0).take (Try.prog.cellsOf 3)) = _ at h
    rw [hn1] at h
    exact h
  have f1 : DataW.trod enc Try.prog w base (fun _ => true) held n1 4 [v1] = some xs[1] := by
    have h := e1
    change DataW.trod enc Try.prog w base (fun _ => true) held _ 4 (([v0, v1, v2, v3, v4, v5].drop 1).take (Try.prog.cellsOf 4)) = _ at h
    rw [hq1] at h
    exact h
  have f2 : DataW.trod enc Try.prog w base (fun _ => true) held n1 24 [v2, v3] = some xs[2] := by
    have h := e2
    change DataW.trod enc Try.prog w base (fun _ => true) held _ 24 (([v0, v1, v2, v3, v4, v5].drop 2).take (Try.prog.cellsOf 24)) = _ at h
    rw [hi2] at h
    exact h
  have f3 : DataW.trod enc Try.prog w base (fun _ => true) held n1 3 [v4] = some xs[3] := by
    have h := e3
    change DataW.trod enc Try.prog w base (fun _ => true) held _ 3 (([v0, v1, v2, v3, v4, v5].drop 4).take (Try.prog.cellsOf 3)) = _ at h
    rw [hn1] at h
    exact h
  have f4 : DataW.trod enc Try.prog w base (fun _ => true) held n1 22 [v5] = some xs[4] := by
    have h := e4
    change DataW.trod enc Try.prog w base (fun _ => true) held _ 22 (([v0, v1, v2, v3, v4, v5].drop 5).take (Try.prog.cellsOf 22)) = _ at h
    rw [hb1] at h
    exact h
  obtain ⟨d, q0, _, wd⟩ := DataW.trod_int Try.underlying3 f0
  obtain ⟨lc, q1, _⟩ := DataW.trod_bool Try.underlying4 f1
  obtain ⟨va, na, ya, ea, ta⟩ := field_at Try.underlying24 (by kernel_rfl) (by kernel_rfl) f2 0 _ rfl
  obtain ⟨vb, nb, yb, eb, tb⟩ := field_at Try.underlying24 (by kernel_rfl) (by kernel_rfl) f2 1 _ rfl
  obtain ⟨i, qa, _, wi⟩ := DataW.trod_int Try.underlying3 ta
  obtain ⟨g, qb, _, wg⟩ := DataW.trod_int Try.underlying3 tb
  obtain ⟨kk, q3, _, wk⟩ := DataW.trod_int Try.underlying3 f3
  obtain ⟨bA, bn, bc, b, q4, hR, hb1', hb2⟩ := open_bytes f4
  simp only [List.cons.injEq, and_true] at q0 q1 qa qb q3 q4
  subst q0 q1 qa qb q3 q4
  have ea' : v2 = .int .i64 i := by simpa using ea
  have eb' : v3 = .int .i64 g := by simpa using eb
  subst ea' eb'
  exact ⟨⟨d, lc, i, g, kk, b⟩, bA, bn, bc, rfl, ⟨hR, hb1', hb2⟩, wi, wg, wk⟩
/-- A command that comes in by value. -/
theorem open_cmdV {r : Reach} {b0 : Nat} {v : Value} {d : DataW H} {p : List MemPlace} (hv : Value.okWide Try.prog w r b0 26 v) (h : DataW.Trod enc Try.prog w base (fun _ => true) held 26 v d p) :
    ∃ (sd : Int) (sl : Bool) (si sg sk : Int) (A : Option Addr) (n c : Nat) (b : List UInt8), v = .agg #[.int .i64 sd, .bool sl, .int .i64 si, .int .i64 sg, .int .i64 sk, .slice A n c] ∧ (Rd w A n b ∧ n ≤ c ∧ c ≤ maxLen) ∧ (Cd.mk sd sl si sg sk b).wf := by
  obtain ⟨cs, rfl, _⟩ := okWide_struct Try.underlying26 hv
  obtain ⟨fuel, hf⟩ := h
  obtain ⟨x, A, m, c, e, hx⟩ := open_cmd hf
  have e' : cs.toList = (x.cs A m c).toList := e
  have e2 : cs = x.cs A m c := by
    have := congrArg List.toArray e'
    simpa using this
  exact ⟨x.d, x.lc, x.ix, x.gn, x.cp, A, m, c, x.dt, by rw [e2], hx⟩
end
end Go.Proofs.Ytieinkndcbobfaa
