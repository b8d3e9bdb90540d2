/- NumB, OpnF, Opn, CdO, CdQ, FrM, FrV -/
import Derived.Test.YtlinafnhhnkjnaaQf7
import Derived.Deep.Slices
import Derived.Deep.Fields
import Derived.ChangeSame
import Derived.Lib.SmallJoins
namespace Go.Proofs.Ytlinafnhhnkjnaa
open Go.RowKit

theorem numB_leN (b : List UInt8) : numB b.length (leN b : Nat) = b := by
  apply List.ext_getElem
  · simp
  · intro i h1 h2
    have hb : (numB b.length (leN b : Nat))[i] = byteOf (leN b : Nat) i := by simp [numB]
    rw [hb]
    apply UInt8.toNat_inj.1
    have e := byteOf_toNat (leN b : Nat) i
    have hs : leN b = leN (b.take i) + 2 ^ (8 * i) * leN (b.drop i) := by
      have := leN_append (b.take i) (b.drop i)
      rw [List.take_append_drop, List.length_take, Nat.min_eq_left (Nat.le_of_lt h2)] at this
      exact this
    have hlt : leN (b.take i) < 2 ^ (8 * i) := by
      have := leN_lt (b.take i)
      rwa [List.length_take, Nat.min_eq_left (Nat.le_of_lt h2)] at this
    have hd := leN_drop b i h2
    have hdiv : leN b / 2 ^ (8 * i) = leN (b.drop i) := by
      rw [hs, Nat.add_mul_div_left _ _ (Nat.pow_pos (by decide)), Nat.div_eq_of_lt hlt, Nat.zero_add]
    have h256 := b[i].toNat_lt
    have e2 : ((leN b : Nat) : Int) / 2 ^ (8 * i) % 256 = ((leN b / 2 ^ (8 * i) % 256 : Nat) : Int) := by simp
    rw [e2, hdiv, hd] at e
    omega
theorem numB_getV {b : List UInt8} {k : Nat} (h : b.length = k) (hk : k ≤ 7) : numB k (getV b) = b := by
  have h1 := leN_lt b
  have h2 : 2 ^ (8 * b.length) ≤ 2 ^ 56 := Nat.pow_le_pow_right (by decide) (by omega)
  rw [getV_in _ (by omega), ← h]
  exact numB_leN b
theorem getV_numB {x : Int} {k : Nat} (hk : k ≤ 7) (h0 : 0 ≤ x) (hx : x < 2 ^ (8 * k)) : getV (numB k x) = x := by
  have h1 := leN_lt (numB k x)
  rw [numB_length] at h1
  have h2 : 2 ^ (8 * k) ≤ 2 ^ 56 := Nat.pow_le_pow_right (by decide) (by omega)
  rw [getV_in _ (by omega), leN_numB, Int.emod_eq_of_lt h0 hx]
theorem wrap64_mod (n : Int) : wrap64 n % 18446744073709551616 = n % 18446744073709551616 := by unfold wrap64; omega
/-- Eight bytes are any number. -/
theorem numB8_wrap (n : Nat) : numB 8 (wrap64 (n : Int)) = numB 8 (n : Int) := by
  apply List.ext_getElem
  · simp
  · intro i h1 h2
    have hi : i < 8 := by simpa using h2
    simp only [numB, List.getElem_map, List.getElem_range]
    apply UInt8.toNat_inj.1
    have r1 := rest64_byte (wrap64 (n : Int)) i hi
    have r2 := rest64_byte (n : Int) i hi
    have r : rest64 (wrap64 (n : Int)) i = rest64 (n : Int) i := by unfold rest64; rw [wrap64_mod]
    rw [r] at r1
    exact Int.ofNat.inj (r1.symm.trans r2)
theorem numB8_getV {b : List UInt8} (h : b.length = 8) : numB 8 (getV b) = b := by
  unfold getV
  rw [numB8_wrap, ← h]
  exact numB_leN b
theorem getV_numB8 {x : Int} (hx : (Lit.int .i64 x).wf = true) : getV (numB 8 x) = x := by
  have hb := bounds_i64 hx
  unfold getV
  rw [leN_numB, show (2 : Int) ^ (8 * 8) = 18446744073709551616 from by decide]
  unfold wrap64
  omega
end Go.Proofs.Ytlinafnhhnkjnaa
namespace Go.Proofs.Ytlinafnhhnkjnaa
open Go.RowKit Go.ChangeShapes Go.WideShapes Go.Deep

section
variable {H : Type} {enc : TypeId × Value → H} {w : World} {base : Nat} {held : Bool}

/-- One field of a struct whose fields are one cell each. -/
theorem field_at {P : Program} {t : TypeId} {fs : Array Field} {fuel : Nat} {cs : List Value} {x : DataW H × List MemPlace} (ht : P.underlying t = some (.struct fs)) (hone : oneCellFields P fs = true) (hk : P.cellsOf t = fs.size)
    (h : DataW.trod enc P w base (fun _ => true) held fuel t cs = some x) (j : Nat) (f : Field) (hj : fs[j]? = some f) : ∃ v n y, cs[j]? = some v ∧ DataW.trod enc P w base (fun _ => true) held n f.type [v] = some y := by
  obtain ⟨xs, n, _, _, hl, hxl, hf⟩ := DataW.trod_struct ht h
  obtain ⟨ho, h1⟩ := hone_of hone j f hj
  have hlt : j < fs.size := (Array.getElem?_eq_some_iff.1 hj).1
  have e := hf j f hj
  rw [ho, h1, List.drop_eq_getElem_cons (by omega), List.getElem?_eq_getElem (by omega)] at e
  exact ⟨cs[j]'(by omega), n, _, List.getElem?_eq_getElem (by omega), e⟩

/-- A slice of structs of k cells each: its elements' cells, as the reader parts them. -/
theorem elems_at {P : Program} {t e : TypeId} {fuel : Nat} {cs : List Value} {x : DataW H × List MemPlace} (ht : P.underlying t = some (.slice e)) (h : DataW.trod enc P w base (fun _ => true) held fuel t cs = some x) :
    cs = [.slice none 0 0] ∨ ∃ (a : Addr) (len cap : Nat), cs = [.slice (some a) len cap] ∧ len ≤ cap ∧ cap ≤ maxLen ∧
      ∀ i, i < len → ∃ cs' n y, (∀ j, j < P.cellsOf e → w.cell? ((a.add (i * P.cellsOf e)).add j) = cs'[j]?) ∧ DataW.trod enc P w base (fun _ => true) held n e cs' = some y := by
  rcases open_slice ht h with ⟨h0, _⟩ | ⟨a, len, cap, m, n, D, Pl, hcs, _, hl, hm, hmm, _, hi⟩
  · exact .inl h0
  · refine .inr ⟨a, len, cap, hcs, hl, hm, fun i him => ?_⟩
    have hmc : m = cap := by simpa using hmm
    obtain ⟨cs', hc, ht'⟩ := hi i (by omega)
    obtain ⟨_, _, hat⟩ := World.cells?_some hc
    exact ⟨cs', n, _, hat, ht'⟩
end
end Go.Proofs.Ytlinafnhhnkjnaa
namespace Go.Proofs.Ytlinafnhhnkjnaa
open Go.RowKit Go.ChangeShapes Go.WideShapes Go.Deep

section
variable {H : Type} {enc : TypeId × Value → H} {w : World} {base : Nat} {held : Bool}

theorem open_bytes {fuel : Nat} {cs : List Value} {x : DataW H × List MemPlace} (h : DataW.trod enc Try.prog w base (fun _ => true) held fuel 25 cs = some x) :
    ∃ A n c l, cs = [.slice A n c] ∧ Rd w A n l ∧ n ≤ c ∧ c ≤ maxLen := by
  rcases open_ints Try.underlying25 Try.underlying5 (by kernel_rfl) h with ⟨hcs, _⟩ | ⟨x, l, c, zs, hcs, _, hl, hm, hz, _, hcell, hwz⟩
  · exact ⟨none, 0, 0, [], hcs, Rd.nil _ _, Nat.le_refl _, Nat.zero_le _⟩
  · obtain ⟨L, hr, h1, h2⟩ := rd_of_row (w := w) (a := some x) (len := l) (cap := c) (zs := zs) (.inr ⟨x, rfl, hl, hm, by simpa using hz, hcell, hwz⟩)
    exact ⟨some x, l, c, L, hcs, hr, h1, h2⟩
end
end Go.Proofs.Ytlinafnhhnkjnaa
namespace Go.Proofs.Ytlinafnhhnkjnaa
open Go.RowKit Go.ChangeShapes Go.WideShapes Go.Deep Go.Joins
set_option maxRecDepth 20000

/-- Its numbers are those that may be. -/
def Cd.wf (x : Cd) : Prop := (Lit.int .i64 x.ix).wf = true ∧ (Lit.int .i64 x.gn).wf = true ∧ (Lit.int .i64 x.cp).wf = true
section
variable {H : Type} {enc : TypeId × Value → H} {w : World} {base : Nat} {held : Bool}
theorem open_cmd {n : Nat} {cs : List Value} {y : DataW H × List MemPlace} (h : DataW.trod enc Try.prog w base (fun _ => true) held n 47 cs = some y) :
    ∃ (x : Cd) (A : Option Addr) (m c : Nat), cs = (x.cs A m c).toList ∧ (Rd w A m x.dt ∧ m ≤ c ∧ c ≤ maxLen) ∧ x.wf := by
  obtain ⟨xs, n1, _, _, hl, hxl, hf⟩ := DataW.trod_struct Try.underlying47 h
  have hc6 : Try.prog.cellsOf 47 = 6 := by kernel_rfl
  rw [hc6] at hl
  obtain ⟨v0, v1, v2, v3, v4, v5, rfl⟩ : ∃ a b c d e f, cs = [a, b, c, d, e, f] := by
    match cs, hl with
    | [a, b, c, d, e, f], _ => exact ⟨a, b, c, d, e, f, rfl⟩
  have hx : xs.length = 5 := hxl
  have hi2 : Try.prog.cellsOf 45 = 2 := by kernel_rfl
  have hn1 : Try.prog.cellsOf 3 = 1 := by kernel_rfl
  have hq1 : Try.prog.cellsOf 4 = 1 := by kernel_rfl
  have hb1 : Try.prog.cellsOf 25 = 1 := by kernel_rfl
  have e0 := hf 0 _ rfl
  have e1 := hf 1 _ rfl
  have e2 := hf 2 _ rfl
  have e3 := hf 3 _ rfl
  have e4 := hf 4 _ rfl
  rw [List.getElem?_eq_getElem (by omega)] at e0 e1 e2 e3 e4
  have f0 : DataW.trod enc Try.prog w base (fun _ => true) held n1 3 [v0] = some xs[0] := by
    have h := e0
    change DataW.trod enc Try.prog w base (fun _ => true) held _ 3 (([v0, v1, v2, v3, v4, v5].drop 0).take (Try.prog.cellsOf 3)) = _ at h
    rw [hn1] at h
    exact h
  have f1 : DataW.trod enc Try.prog w base (fun _ => true) held n1 4 [v1] = some xs[1] := by
    have h := e1
    change DataW.trod enc Try.prog w base (fun _ => true) held _ 4 (([v0, v1, v2, v3, v4, v5].drop 1).take (Try.prog.cellsOf 4)) = _ at h
    rw [hq1] at h
    exact h
  have f2 : DataW.trod enc Try.prog w base (fun _ => true) held n1 45 [v2, v3] = some xs[2] := by
    have h := e2
    change DataW.trod enc Try.prog w base (fun _ => true) held _ 45 (([v0, v1, v2, v3, v4, v5].drop 2).take (Try.prog.cellsOf 45)) = _ at h
    rw [hi2] at h
    exact h
  have f3 : DataW.trod enc Try.prog w base (fun _ => true) held n1 3 [v4] = some xs[3] := by
    have h := e3
    change DataW.trod enc Try.prog w base (fun _ => true) held _ 3 (([v0, v1, v2, v3, v4, v5].drop 4).take (Try.prog.cellsOf 3)) = _ at h
    rw [hn1] at h
    exact h
  have f4 : DataW.trod enc Try.prog w base (fun _ => true) held n1 25 [v5] = some xs[4] := by
    have h := e4
    change DataW.trod enc Try.prog w base (fun _ => true) held _ 25 (([v0, v1, v2, v3, v4, v5].drop 5).take (Try.prog.cellsOf 25)) = _ at h
    rw [hb1] at h
    exact h
  obtain ⟨d, q0, _, wd⟩ := DataW.trod_int Try.underlying3 f0
  obtain ⟨lc, q1, _⟩ := DataW.trod_bool Try.underlying4 f1
  obtain ⟨va, na, ya, ea, ta⟩ := field_at Try.underlying45 (by kernel_rfl) (by kernel_rfl) f2 0 _ rfl
  obtain ⟨vb, nb, yb, eb, tb⟩ := field_at Try.underlying45 (by kernel_rfl) (by kernel_rfl) f2 1 _ rfl
  obtain ⟨i, qa, _, wi⟩ := DataW.trod_int Try.underlying3 ta
  obtain ⟨g, qb, _, wg⟩ := DataW.trod_int Try.underlying3 tb
  obtain ⟨kk, q3, _, wk⟩ := DataW.trod_int Try.underlying3 f3
  obtain ⟨bA, bn, bc, b, q4, hR, hb1', hb2⟩ := open_bytes f4
  simp only [List.cons.injEq, and_true] at q0 q1 qa qb q3 q4
  subst q0 q1 qa qb q3 q4
  have ea' : v2 = .int .i64 i := by simpa using ea
  have eb' : v3 = .int .i64 g := by simpa using eb
  subst ea' eb'
  exact ⟨⟨d, lc, i, g, kk, b⟩, bA, bn, bc, rfl, ⟨hR, hb1', hb2⟩, wi, wg, wk⟩
/-- A command that comes in by value. -/
theorem open_cmdV {r : Reach} {b0 : Nat} {v : Value} {d : DataW H} {p : List MemPlace} (hv : Value.okWide Try.prog w r b0 47 v) (h : DataW.Trod enc Try.prog w base (fun _ => true) held 47 v d p) :
    ∃ (sd : Int) (sl : Bool) (si sg sk : Int) (A : Option Addr) (n c : Nat) (b : List UInt8), v = .agg #[.int .i64 sd, .bool sl, .int .i64 si, .int .i64 sg, .int .i64 sk, .slice A n c] ∧ (Rd w A n b ∧ n ≤ c ∧ c ≤ maxLen) ∧ (Cd.mk sd sl si sg sk b).wf := by
  obtain ⟨cs, rfl, _⟩ := okWide_struct Try.underlying47 hv
  obtain ⟨fuel, hf⟩ := h
  obtain ⟨x, A, m, c, e, hx⟩ := open_cmd hf
  have e' : cs.toList = (x.cs A m c).toList := e
  have e2 : cs = x.cs A m c := by
    have := congrArg List.toArray e'
    simpa using this
  exact ⟨x.d, x.lc, x.ix, x.gn, x.cp, A, m, c, x.dt, by rw [e2], hx⟩
end
end Go.Proofs.Ytlinafnhhnkjnaa
namespace Go.Proofs.Ytlinafnhhnkjnaa
open Go.RowKit
set_option linter.unusedVariables false

theorem td (l : List UInt8) (i j : Nat) (h : i + j ≤ 92) : ((l.take 92).drop i).take j = (l.drop i).take j := by
  rw [List.drop_take, List.take_take, Nat.min_eq_left (by omega)]
/-- What lies behind 92 bytes is none of a command's. -/
theorem getCd_take (l : List UInt8) : getCd (l.take 92) = getCd l := by
  by_cases h : l.length ≤ 92
  · rw [List.take_of_length_le h]
  have hl : (l.take 92).length = 92 := by simp; omega
  have h0 := take_getD l 92 0 (by decide)
  have h1 := take_getD l 92 1 (by decide)
  have t2 := td l 2 8 (by decide)
  have t10 := td l 10 8 (by decide)
  unfold getCd
  rw [h0, h1, hl, t2, t10]
  obtain ⟨e0, he0⟩ : ∃ e0, e0 = if (l.getD 1 0).toNat = 1 then 10 else 18 := ⟨_, rfl⟩
  have hb : e0 ≤ 18 := by rw [he0]; split <;> omega
  simp only [← he0]
  have t3 := td l e0 8 (by omega)
  have t4 := td l (e0 + 8) 2 (by omega)
  rw [t3, t4]
  obtain ⟨m, hm⟩ : ∃ m, m = leN ((l.drop (e0 + 8)).take 2) := ⟨_, rfl⟩
  have f1 : (92 = 0) = False := eq_false (by decide)
  have f2 : (l.length = 0) = False := eq_false (by omega)
  have f3 : (92 = 1) = False := eq_false (by decide)
  have f4 : (l.length = 1) = False := eq_false (by omega)
  have f5 : (92 < e0) = False := eq_false (by omega)
  have f6 : (l.length < e0) = False := eq_false (by omega)
  have f7 : (92 < e0 + 8) = False := eq_false (by omega)
  have f8 : (l.length < e0 + 8) = False := eq_false (by omega)
  have f9 : (92 < e0 + 10) = False := eq_false (by omega)
  have f10 : (l.length < e0 + 10) = False := eq_false (by omega)
  simp only [← hm, f1, f2, f3, f4, f5, f6, f7, f8, f9, f10, if_false]
  by_cases h64 : 64 < m
  · simp only [if_pos h64]
  · have t5 := td l (e0 + 10) m (by omega)
    have f11 : (92 < e0 + 10 + m) = False := eq_false (by omega)
    have f12 : (l.length < e0 + 10 + m) = False := eq_false (by omega)
    simp only [if_neg h64, f11, f12, if_false, t5]

theorem numB_0 (d : Nat) (h : d ≤ 255) : numB 1 (d : Int) = [UInt8.ofNat d] := by
  simp only [numB, List.range_succ, List.range_zero, List.nil_append, List.map_cons, List.map_nil, byteOf, Nat.mul_zero, Int.pow_zero, Int.ediv_one, List.cons.injEq, and_true]
  congr 1
  omega
theorem leN_numB2 (n : Nat) (h : n ≤ 65535) : leN (numB 2 (n : Int)) = n := by
  have := leN_numB 2 (n : Int)
  rw [Int.emod_eq_of_lt (by omega) (by omega)] at this
  exact Int.ofNat.inj this
theorem dl {α : Type} {l m : List α} {n : Nat} (h : l.length = n) (k : Nat) : (l ++ m).drop (n + k) = m.drop k := by
  rw [← h, List.drop_append, Nat.add_sub_cancel_left, List.drop_of_length_le (by omega), List.nil_append]
theorem tl {α : Type} {l m : List α} {n : Nat} (h : l.length = n) : (l ++ m).take n = l := List.take_left' h

/-- P13.4: what is put is got again. -/
theorem getCd_put (x : Cd) (hd : 0 ≤ x.d ∧ x.d ≤ 3) (hl : x.dt.length ≤ 64) (hw : x.wf) : getCd x.bytes = (x.plain, x.bytes.length, 0) := by
  obtain ⟨d, lc, ix, gn, cp, dt⟩ := x
  obtain ⟨w1, w2, w3⟩ := hw
  simp only at hd hl w1 w2 w3
  have v1 := getV_numB8 w1
  have v2 := getV_numB8 w2
  have v3 := getV_numB8 w3
  have lm := leN_numB2 dt.length (by omega)
  have L8 : ∀ y, (numB 8 y).length = 8 := numB_length 8
  have L2 : ∀ y, (numB 2 y).length = 2 := numB_length 2
  have b0 : numB 1 0 = [0] := by decide
  have b1 : numB 1 1 = [1] := by decide
  have b2 : numB 1 2 = [2] := by decide
  have b3 : numB 1 3 = [3] := by decide
  rcases cd_cases d with rfl | rfl | rfl | rfl | h
  · rfl
  · cases lc
    · have e : (Cd.mk 1 false ix gn cp dt).bytes = 1 :: 0 :: (numB 8 ix ++ numB 8 gn) := by simp [Cd.bytes, Cd.tgt, b0, b1]
      have p : (Cd.mk 1 false ix gn cp dt).plain = ⟨1, false, ix, gn, 0, []⟩ := rfl
      have d1 : (numB 8 ix ++ numB 8 gn).drop 8 = numB 8 gn := List.drop_left' (L8 _)
      rw [e, p]
      simp [getCd, d1, tl (L8 _), v1, v2, List.take_of_length_le (Nat.le_of_eq (L8 _))]
    · have e : (Cd.mk 1 true ix gn cp dt).bytes = 1 :: 1 :: numB 8 ix := by simp [Cd.bytes, Cd.tgt, b1]
      have p : (Cd.mk 1 true ix gn cp dt).plain = ⟨1, true, ix, 0, 0, []⟩ := rfl
      rw [e, p]
      simp [getCd, v1, List.take_of_length_le (Nat.le_of_eq (L8 _))]
  · cases lc
    · have e : (Cd.mk 2 false ix gn cp dt).bytes = 2 :: 0 :: (numB 8 ix ++ (numB 8 gn ++ (numB 8 cp ++ (numB 2 dt.length ++ dt)))) := by simp [Cd.bytes, Cd.tgt, b0, b2]
      have p : (Cd.mk 2 false ix gn cp dt).plain = ⟨2, false, ix, gn, cp, dt⟩ := rfl
      have d1 : (numB 8 ix ++ (numB 8 gn ++ (numB 8 cp ++ (numB 2 dt.length ++ dt)))).drop 8 = numB 8 gn ++ (numB 8 cp ++ (numB 2 dt.length ++ dt)) := List.drop_left' (L8 _)
      have d2 : (numB 8 ix ++ (numB 8 gn ++ (numB 8 cp ++ (numB 2 dt.length ++ dt)))).drop 16 = numB 8 cp ++ (numB 2 dt.length ++ dt) := by rw [dl (L8 _) 8]; exact List.drop_left' (L8 _)
      have d3 : (numB 8 ix ++ (numB 8 gn ++ (numB 8 cp ++ (numB 2 dt.length ++ dt)))).drop 24 = numB 2 dt.length ++ dt := by rw [dl (L8 _) 16, dl (L8 _) 8]; exact List.drop_left' (L8 _)
      have d4 : (numB 8 ix ++ (numB 8 gn ++ (numB 8 cp ++ (numB 2 dt.length ++ dt)))).drop 26 = dt := by rw [dl (L8 _) 18, dl (L8 _) 10, dl (L8 _) 2]; exact List.drop_left' (L2 _)
      rw [e, p]
      simp [getCd, d1, d2, d3, d4, tl (L8 _), tl (L2 _), v1, v2, v3, lm]
      rw [if_neg (by omega), if_neg (by omega), if_neg (by omega)]
      simp only [Prod.mk.injEq, and_true, true_and]
      omega
    · have e : (Cd.mk 2 true ix gn cp dt).bytes = 2 :: 1 :: (numB 8 ix ++ (numB 8 cp ++ (numB 2 dt.length ++ dt))) := by simp [Cd.bytes, Cd.tgt, b1, b2]
      have p : (Cd.mk 2 true ix gn cp dt).plain = ⟨2, true, ix, 0, cp, dt⟩ := rfl
      have d2 : (numB 8 ix ++ (numB 8 cp ++ (numB 2 dt.length ++ dt))).drop 8 = numB 8 cp ++ (numB 2 dt.length ++ dt) := List.drop_left' (L8 _)
      have d3 : (numB 8 ix ++ (numB 8 cp ++ (numB 2 dt.length ++ dt))).drop 16 = numB 2 dt.length ++ dt := by rw [dl (L8 _) 8]; exact List.drop_left' (L8 _)
      have d4 : (numB 8 ix ++ (numB 8 cp ++ (numB 2 dt.length ++ dt))).drop 18 = dt := by rw [dl (L8 _) 10, dl (L8 _) 2]; exact List.drop_left' (L2 _)
      rw [e, p]
      simp [getCd, d2, d3, d4, tl (L8 _), tl (L2 _), v1, v3, lm]
      rw [if_neg (by omega), if_neg (by omega), if_neg (by omega)]
      simp only [Prod.mk.injEq, and_true, true_and]
      omega
  · cases lc
    · have e : (Cd.mk 3 false ix gn cp dt).bytes = 3 :: 0 :: (numB 8 ix ++ (numB 8 gn ++ numB 8 cp)) := by simp [Cd.bytes, Cd.tgt, b0, b3]
      have p : (Cd.mk 3 false ix gn cp dt).plain = ⟨3, false, ix, gn, cp, []⟩ := rfl
      have d1 : (numB 8 ix ++ (numB 8 gn ++ numB 8 cp)).drop 8 = numB 8 gn ++ numB 8 cp := List.drop_left' (L8 _)
      have d2 : (numB 8 ix ++ (numB 8 gn ++ numB 8 cp)).drop 16 = numB 8 cp := by rw [dl (L8 _) 8]; exact List.drop_left' (L8 _)
      rw [e, p]
      simp [getCd, d1, d2, tl (L8 _), v1, v2, v3, List.take_of_length_le (Nat.le_of_eq (L8 _))]
    · have e : (Cd.mk 3 true ix gn cp dt).bytes = 3 :: 1 :: (numB 8 ix ++ numB 8 cp) := by simp [Cd.bytes, Cd.tgt, b1, b3]
      have p : (Cd.mk 3 true ix gn cp dt).plain = ⟨3, true, ix, 0, cp, []⟩ := rfl
      have d2 : (numB 8 ix ++ numB 8 cp).drop 8 = numB 8 cp := List.drop_left' (L8 _)
      rw [e, p]
      simp [getCd, d2, tl (L8 _), v1, v3, List.take_of_length_le (Nat.le_of_eq (L8 _))]
  · omega
theorem two_back (l : List UInt8) (h : 2 ≤ l.length) : l = [l.getD 0 0, l.getD 1 0] ++ l.drop 2 := by
  match l, h with
  | a :: b :: t, _ => rfl
theorem split_at (l : List UInt8) (i j : Nat) (h : i + j ≤ l.length) : l.drop i = (l.drop i).take j ++ l.drop (i + j) := by
  conv => lhs; rw [← List.take_append_drop j (l.drop i), List.drop_drop]
theorem len_at (l : List UInt8) (i j : Nat) (h : i + j ≤ l.length) : ((l.drop i).take j).length = j := by simp; omega
theorem byte_eq {b : UInt8} {n : Nat} (h : b.toNat = n) : b = UInt8.ofNat n := by
  subst h
  simp
/-- P13.4: bytes that are got are those that are put. -/
theorem getCd_back (l : List UInt8) (h : (getCd l).2.2 = 0) : (getCd l).1.bytes ++ l.drop (getCd l).2.1 = l ∧ (getCd l).2.1 ≤ l.length ∧ (getCd l).1.dt.length ≤ 64 := by
  have b0 : numB 1 0 = [0] := by decide
  have b1 : numB 1 1 = [1] := by decide
  have b2 : numB 1 2 = [2] := by decide
  have b3 : numB 1 3 = [3] := by decide
  unfold getCd at h ⊢
  by_cases h0 : l.length = 0
  · rw [if_pos h0] at h; exact absurd h (by decide)
  rw [if_neg h0] at h ⊢
  by_cases h3 : 3 < (l.getD 0 0).toNat
  · rw [if_pos h3] at h; exact absurd h (by decide)
  rw [if_neg h3] at h ⊢
  by_cases hz : (l.getD 0 0).toNat = 0
  · rw [if_pos hz] at h ⊢
    refine ⟨?_, by show 1 ≤ l.length; omega, by simp⟩
    match l, h0 with
    | a :: t, _ =>
      have : a = 0 := byte_eq hz
      subst this
      rfl
  rw [if_neg hz] at h ⊢
  by_cases h1 : l.length = 1
  · rw [if_pos h1] at h; exact absurd h (by decide)
  rw [if_neg h1] at h ⊢
  by_cases hb : 1 < (l.getD 1 0).toNat
  · rw [if_pos hb] at h; exact absurd h (by decide)
  rw [if_neg hb] at h ⊢
  have hl2 := two_back l (by omega)
  obtain ⟨d, hd⟩ : ∃ d, d = (l.getD 0 0).toNat := ⟨_, rfl⟩
  obtain ⟨b, hbb⟩ : ∃ b, b = (l.getD 1 0).toNat := ⟨_, rfl⟩
  rw [byte_eq hd.symm, byte_eq hbb.symm] at hl2
  rw [← hd] at hz h3
  rw [← hbb] at hb
  simp only [← hd, ← hbb] at h ⊢
  clear hd hbb
  -- the target
  obtain ⟨e0, he0⟩ : ∃ e0, e0 = if b = 1 then 10 else 18 := ⟨_, rfl⟩
  simp only [← he0] at h ⊢
  have htgt : ∀ dd cp dt, e0 ≤ l.length → [UInt8.ofNat b] ++ l.drop 2 = (Cd.mk dd (decide (b = 1)) (getV ((l.drop 2).take 8)) (if b = 1 then 0 else getV ((l.drop 10).take 8)) cp dt).tgt ++ l.drop e0 := by
    intro dd cp dt he
    by_cases hb1 : b = 1
    · subst hb1
      rw [if_pos rfl] at he0
      subst he0
      have s2 := split_at l 2 8 (by omega)
      simp only [Cd.tgt, decide_true, if_true, b1]
      rw [numB8_getV (len_at l 2 8 (by omega)), List.append_assoc, ← s2]
      rfl
    · have hb0 : b = 0 := by omega
      subst hb0
      rw [if_neg hb1] at he0
      subst he0
      have s2 := split_at l 2 8 (by omega)
      have s10 := split_at l 10 8 (by omega)
      simp only [Cd.tgt, hb1, decide_false, if_false, b0, Bool.false_eq_true]
      rw [numB8_getV (len_at l 2 8 (by omega)), numB8_getV (len_at l 10 8 (by omega)), List.append_assoc, ← s10, List.append_assoc, ← s2]
      rfl
  by_cases hd1 : d = 1
  · subst hd1
    rw [if_pos rfl] at h ⊢
    by_cases hs : l.length < e0
    · rw [if_pos hs] at h; exact absurd h (by decide)
    rw [if_neg hs] at h ⊢
    refine ⟨?_, by show e0 ≤ l.length; omega, by simp⟩
    simp only [Cd.bytes, show ¬ (1 : Int) = 0 by decide, if_false, if_true, b1]
    rw [List.append_assoc, ← htgt 1 0 [] (by omega)]
    exact hl2.symm
  rw [if_neg hd1] at h ⊢
  by_cases hd3 : d = 3
  · subst hd3
    rw [if_pos rfl] at h ⊢
    by_cases hs : l.length < e0 + 8
    · rw [if_pos hs] at h; exact absurd h (by decide)
    rw [if_neg hs] at h ⊢
    refine ⟨?_, by show e0 + 8 ≤ l.length; omega, by simp⟩
    have s := split_at l e0 8 (by omega)
    simp only [Cd.bytes, show ¬ (3 : Int) = 0 by decide, show ¬ (3 : Int) = 1 by decide, show ¬ (3 : Int) = 2 by decide, if_false, if_true, b3]
    rw [numB8_getV (len_at l e0 8 (by omega)), List.append_assoc, ← s, List.append_assoc, ← htgt 3 (getV ((l.drop e0).take 8)) [] (by omega)]
    exact hl2.symm
  rw [if_neg hd3] at h ⊢
  have hd2 : d = 2 := by omega
  subst hd2
  by_cases hs : l.length < e0 + 10
  · rw [if_pos hs] at h; exact absurd h (by decide)
  rw [if_neg hs] at h ⊢
  obtain ⟨m, hm⟩ : ∃ m, m = leN ((l.drop (e0 + 8)).take 2) := ⟨_, rfl⟩
  simp only [← hm] at h ⊢
  by_cases h64 : 64 < m
  · rw [if_pos h64] at h; exact absurd h (by decide)
  rw [if_neg h64] at h ⊢
  by_cases hs2 : l.length < e0 + 10 + m
  · rw [if_pos hs2] at h; exact absurd h (by decide)
  rw [if_neg hs2] at h ⊢
  have hdl : ((l.drop (e0 + 10)).take m).length = m := len_at l (e0 + 10) m (by omega)
  refine ⟨?_, by show e0 + 10 + m ≤ l.length; omega, by show ((l.drop (e0 + 10)).take m).length ≤ 64; omega⟩
  have s1 := split_at l e0 8 (by omega)
  have s2 := split_at l (e0 + 8) 2 (by omega)
  have s3 := split_at l (e0 + 10) m (by omega)
  have e2 : numB 2 (m : Int) = (l.drop (e0 + 8)).take 2 := by
    have q := numB_leN ((l.drop (e0 + 8)).take 2)
    rw [len_at l (e0 + 8) 2 (by omega), ← hm] at q
    exact q
  simp only [Cd.bytes, show ¬ (2 : Int) = 0 by decide, show ¬ (2 : Int) = 1 by decide, if_false, if_true, b2]
  rw [numB8_getV (len_at l e0 8 (by omega)), hdl, e2]
  have e3 : (l.drop (e0 + 10)).take m ++ l.drop (e0 + 10 + m) = l.drop (e0 + 10) := s3.symm
  rw [List.append_assoc, e3, List.append_assoc, show e0 + 10 = e0 + 8 + 2 from rfl, ← s2, List.append_assoc, ← s1, List.append_assoc, ← htgt 2 (getV ((l.drop e0).take 8)) ((l.drop (e0 + 10)).take m) (by omega)]
  exact hl2.symm
end Go.Proofs.Ytlinafnhhnkjnaa
namespace Go.Proofs.Ytlinafnhhnkjnaa
open Go.RowKit
set_option linter.unusedVariables false

/-- So many commands in a row: what they are, why there is none more, where that is. -/
def getsL (inp : List UInt8) : Nat → Nat → List Cd × Int × Nat
  | 0, a => ([], 0, a)
  | k + 1, a => if (getCd (inp.drop a)).2.2 ≠ 0 then ([], (getCd (inp.drop a)).2.2, a)
    else ((getCd (inp.drop a)).1 :: (getsL inp k (a + (getCd (inp.drop a)).2.1)).1, (getsL inp k (a + (getCd (inp.drop a)).2.1)).2.1, (getsL inp k (a + (getCd (inp.drop a)).2.1)).2.2)
/-- P14.2: which commands any bytes are. -/
def frGet (l : List UInt8) : List Cd × Int :=
  if l.length < 5 then ([], 12)
  else if numB 4 ((sumL (l.take (l.length - 4)) : Nat) : Int) ≠ l.drop (l.length - 4) then ([], 11)
  else if 64 < (l.getD 0 0).toNat then ([], 13)
  else if (getsL (l.take (l.length - 4)) (l.getD 0 0).toNat 1).2.1 ≠ 0 then ([], (getsL (l.take (l.length - 4)) (l.getD 0 0).toNat 1).2.1)
  else if (getsL (l.take (l.length - 4)) (l.getD 0 0).toNat 1).2.2 < l.length - 4 then ([], 11)
  else ((getsL (l.take (l.length - 4)) (l.getD 0 0).toNat 1).1, 0)
theorem getCd_le (l : List UInt8) (h : (getCd l).2.2 = 0) : (getCd l).2.1 ≤ l.length := (getCd_back l h).2.1
/-- Commands that are got lie within the bytes; they are those that are put. -/
theorem getsL_back (inp : List UInt8) : ∀ (k a : Nat), a ≤ inp.length → (getsL inp k a).2.1 = 0 →
    a ≤ (getsL inp k a).2.2 ∧ (getsL inp k a).2.2 ≤ inp.length ∧ (getsL inp k a).1.length = k ∧ (∀ x ∈ (getsL inp k a).1, x.dt.length ≤ 64) ∧ ((getsL inp k a).1.map Cd.bytes).flatten ++ inp.drop (getsL inp k a).2.2 = inp.drop a
  | 0, a, ha, h => ⟨Nat.le_refl _, ha, rfl, fun _ hx => absurd hx List.not_mem_nil, by simp [getsL]⟩
  | k + 1, a, ha, h => by
    unfold getsL at h ⊢
    by_cases he : (getCd (inp.drop a)).2.2 ≠ 0
    · rw [if_pos he] at h
      exact absurd h he
    · rw [if_neg he] at h ⊢
      have he0 : (getCd (inp.drop a)).2.2 = 0 := Classical.byContradiction he
      obtain ⟨b1, b2, b3⟩ := getCd_back (inp.drop a) he0
      have hle : a + (getCd (inp.drop a)).2.1 ≤ inp.length := by rw [List.length_drop] at b2; omega
      obtain ⟨i1, i2, i3, i4, i5⟩ := getsL_back inp k (a + (getCd (inp.drop a)).2.1) hle h
      refine ⟨by simp only; omega, i2, by simp [i3], fun x hx => ?_, ?_⟩
      · rcases List.mem_cons.1 hx with rfl | hx
        · exact b3
        · exact i4 x hx
      · simp only [List.map_cons, List.flatten_cons, List.append_assoc]
        rw [i5, ← List.drop_drop]
        exact b1
/-- Bytes that are got are those that are put. -/
theorem frGet_back (l : List UInt8) (h : (frGet l).2 = 0) : frBytes (frGet l).1 = l ∧ (frGet l).1.length ≤ 64 ∧ ∀ x ∈ (frGet l).1, x.dt.length ≤ 64 := by
  unfold frGet at h ⊢
  by_cases h5 : l.length < 5
  · rw [if_pos h5] at h; exact absurd h (by decide)
  rw [if_neg h5] at h ⊢
  by_cases hs : numB 4 ((sumL (l.take (l.length - 4)) : Nat) : Int) ≠ l.drop (l.length - 4)
  · rw [if_pos hs] at h; exact absurd h (by decide)
  rw [if_neg hs] at h ⊢
  by_cases h64 : 64 < (l.getD 0 0).toNat
  · rw [if_pos h64] at h; exact absurd h (by decide)
  rw [if_neg h64] at h ⊢
  obtain ⟨inp, hinp⟩ : ∃ i, i = l.take (l.length - 4) := ⟨_, rfl⟩
  have hil : inp.length = l.length - 4 := by rw [hinp]; simp
  simp only [← hinp] at h hs ⊢
  by_cases he : (getsL inp (l.getD 0 0).toNat 1).2.1 ≠ 0
  · rw [if_pos he] at h; exact absurd h he
  rw [if_neg he] at h ⊢
  by_cases hlt : (getsL inp (l.getD 0 0).toNat 1).2.2 < l.length - 4
  · rw [if_pos hlt] at h; exact absurd h (by decide)
  rw [if_neg hlt] at h ⊢
  obtain ⟨i1, i2, i3, i4, i5⟩ := getsL_back inp (l.getD 0 0).toNat 1 (by omega) (Classical.byContradiction he)
  simp only
  refine ⟨?_, by omega, i4⟩
  have hend : inp.drop (getsL inp (l.getD 0 0).toNat 1).2.2 = [] := List.drop_of_length_le (by omega)
  rw [hend, List.append_nil] at i5
  have hb : frBody (getsL inp (l.getD 0 0).toNat 1).1 = inp := by
    unfold frBody
    rw [i5, i3, numB_0 _ (by omega)]
    have h0 : inp.getD 0 0 = l.getD 0 0 := by rw [hinp]; exact take_getD l _ 0 (by omega)
    match inp, hil with
    | a :: t, _ =>
      have : a = l.getD 0 0 := h0
      rw [← this]
      simp
    | [], hil => exact absurd hil (by simp; omega)
  unfold frBytes
  rw [hb]
  have hs' : numB 4 ((sumL inp : Nat) : Int) = l.drop (l.length - 4) := Classical.byContradiction hs
  rw [hs', hinp]
  exact List.take_append_drop _ _
/-- What lies behind a command that may be got is not asked. -/
theorem getCd_ext (l t : List UInt8) (h : (getCd l).2.2 = 0) : getCd (l ++ t) = getCd l := by
  unfold getCd at h ⊢
  have hL : (l ++ t).length = l.length + t.length := List.length_append
  by_cases h0 : l.length = 0
  · rw [if_pos h0] at h; exact absurd h (by decide)
  have hd0 : (l ++ t).getD 0 0 = l.getD 0 0 := by simp only [List.getD_eq_getElem?_getD, List.getElem?_append_left (show 0 < l.length by omega)]
  have P : ∀ i j, i + j ≤ l.length → ((l ++ t).drop i).take j = (l.drop i).take j := fun i j hij => by
    rw [List.drop_append_of_le_length (by omega), List.take_append_of_le_length (by simp; omega)]
  have g0 : ¬ l.length + t.length = 0 := by omega
  rw [hd0, hL]
  simp only [if_neg h0, if_neg g0] at h ⊢
  by_cases h1 : 3 < (l.getD 0 0).toNat
  · rw [if_pos h1] at h; exact absurd h (by decide)
  simp only [if_neg h1] at h ⊢
  by_cases h2 : (l.getD 0 0).toNat = 0
  · simp only [if_pos h2]
  simp only [if_neg h2] at h ⊢
  by_cases h3 : l.length = 1
  · rw [if_pos h3] at h; exact absurd h (by decide)
  have g3 : ¬ l.length + t.length = 1 := by omega
  have hd1 : (l ++ t).getD 1 0 = l.getD 1 0 := by simp only [List.getD_eq_getElem?_getD, List.getElem?_append_left (show 1 < l.length by omega)]
  simp only [if_neg h3, if_neg g3, hd1] at h ⊢
  by_cases h4 : 1 < (l.getD 1 0).toNat
  · rw [if_pos h4] at h; exact absurd h (by decide)
  simp only [if_neg h4] at h ⊢
  obtain ⟨e0, he0⟩ : ∃ e0, e0 = if (l.getD 1 0).toNat = 1 then 10 else 18 := ⟨_, rfl⟩
  simp only [← he0] at h ⊢
  have he10 : 10 ≤ e0 := by rw [he0]; split <;> omega
  have gn : e0 ≤ l.length → (if (l.getD 1 0).toNat = 1 then (0 : Int) else getV (((l ++ t).drop 10).take 8)) = (if (l.getD 1 0).toNat = 1 then 0 else getV ((l.drop 10).take 8)) := fun hle => by
    by_cases hb : (l.getD 1 0).toNat = 1
    · rw [if_pos hb, if_pos hb]
    · rw [if_neg hb] at he0
      rw [if_neg hb, if_neg hb, P 10 8 (by omega)]
  by_cases h5 : (l.getD 0 0).toNat = 1
  · simp only [if_pos h5] at h ⊢
    by_cases h6 : l.length < e0
    · rw [if_pos h6] at h; exact absurd h (by decide)
    · rw [if_neg h6, if_neg (show ¬ l.length + t.length < e0 by omega), gn (by omega), P 2 8 (by omega)]
  simp only [if_neg h5] at h ⊢
  by_cases h7 : (l.getD 0 0).toNat = 3
  · simp only [if_pos h7] at h ⊢
    by_cases h6 : l.length < e0 + 8
    · rw [if_pos h6] at h; exact absurd h (by decide)
    · rw [if_neg h6, if_neg (show ¬ l.length + t.length < e0 + 8 by omega), gn (by omega), P 2 8 (by omega), P e0 8 (by omega)]
  simp only [if_neg h7] at h ⊢
  by_cases h8 : l.length < e0 + 10
  · rw [if_pos h8] at h; exact absurd h (by decide)
  have g8 : ¬ l.length + t.length < e0 + 10 := by omega
  rw [gn (by omega), P 2 8 (by omega), P e0 8 (by omega), P (e0 + 8) 2 (by omega)]
  simp only [if_neg h8, if_neg g8] at h ⊢
  obtain ⟨m, hm⟩ : ∃ m, m = leN ((l.drop (e0 + 8)).take 2) := ⟨_, rfl⟩
  simp only [← hm] at h ⊢
  by_cases h9 : 64 < m
  · rw [if_pos h9] at h; exact absurd h (by decide)
  simp only [if_neg h9] at h ⊢
  by_cases h10 : l.length < e0 + 10 + m
  · rw [if_pos h10] at h; exact absurd h (by decide)
  · rw [if_neg h10, if_neg (show ¬ l.length + t.length < e0 + 10 + m by omega), P (e0 + 10) m (by omega)]
theorem getCd_pre (x : Cd) (t : List UInt8) (hg : getCd x.bytes = (x.plain, x.bytes.length, 0)) : getCd (x.bytes ++ t) = (x.plain, x.bytes.length, 0) := by
  rw [getCd_ext x.bytes t (by rw [hg]), hg]
/-- What is put is got again. -/
theorem getsL_put (inp : List UInt8) : ∀ (xs : List Cd) (a : Nat) (t : List UInt8), inp.drop a = (xs.map Cd.bytes).flatten ++ t → (∀ x ∈ xs, x.check = 0 ∧ x.wf) → a ≤ inp.length →
    getsL inp xs.length a = (xs.map Cd.plain, 0, a + ((xs.map Cd.bytes).flatten).length)
  | [], a, t, h, hx, ha => by simp [getsL]
  | x :: xs, a, t, h, hx, ha => by
    obtain ⟨hc, hw⟩ := hx x List.mem_cons_self
    have hd : 0 ≤ x.d ∧ x.d ≤ 3 := Classical.byContradiction fun h => by unfold Cd.check at hc; rw [if_neg h] at hc; exact absurd hc (by decide)
    have hl : x.dt.length ≤ 64 := Classical.byContradiction fun h => by unfold Cd.check at hc; rw [if_pos hd, if_neg h] at hc; exact absurd hc (by decide)
    have hg := getCd_put x hd hl hw
    simp only [List.map_cons, List.flatten_cons, List.append_assoc] at h
    have hg2 : getCd (inp.drop a) = (x.plain, x.bytes.length, 0) := by rw [h]; exact getCd_pre x _ hg
    have hlen : (inp.drop a).length = x.bytes.length + ((xs.map Cd.bytes).flatten ++ t).length := by rw [h, List.length_append]
    rw [List.length_drop] at hlen
    have ih := getsL_put inp xs (a + x.bytes.length) t (by rw [← List.drop_drop, h, List.drop_left' rfl]) (fun y hy => hx y (List.mem_cons_of_mem _ hy)) (by omega)
    rw [List.length_cons]
    unfold getsL
    rw [hg2]
    simp only [ne_eq, not_true_eq_false, if_false, ih, List.map_cons, List.flatten_cons, List.length_append, Prod.mk.injEq, true_and]
    omega
/-- P14.3: what is put is got as its Plain. -/
theorem frGet_put (xs : List Cd) (h64 : xs.length ≤ 64) (hx : ∀ x ∈ xs, x.check = 0 ∧ x.wf) : frGet (frBytes xs) = (xs.map Cd.plain, 0) := by
  have hbl : (frBytes xs).length = (frBody xs).length + 4 := by unfold frBytes; simp
  have hb0 : (frBody xs).length = 1 + ((xs.map Cd.bytes).flatten).length := by unfold frBody; simp
  have ht : (frBytes xs).take ((frBytes xs).length - 4) = frBody xs := by rw [hbl]; unfold frBytes; exact List.take_left' (by omega)
  have hdr : (frBytes xs).drop ((frBytes xs).length - 4) = numB 4 ((sumL (frBody xs) : Nat) : Int) := by rw [hbl]; unfold frBytes; exact List.drop_left' (by omega)
  have h0 : ((frBytes xs).getD 0 0).toNat = xs.length := by
    unfold frBytes frBody
    rw [numB_0 _ (by omega)]
    simp
    omega
  have hd1 : (frBody xs).drop 1 = (xs.map Cd.bytes).flatten ++ [] := by
    unfold frBody
    rw [List.drop_left' (by simp), List.append_nil]
  have hg := getsL_put (frBody xs) xs 1 [] hd1 hx (by omega)
  unfold frGet
  rw [if_neg (by omega), ht, hdr, if_neg (by simp), h0, if_neg (by omega), hg]
  simp only [ne_eq, not_true_eq_false, if_false]
  rw [if_neg (by omega)]
end Go.Proofs.Ytlinafnhhnkjnaa
namespace Go.Proofs.Ytlinafnhhnkjnaa
open Go.RowKit
set_option linter.unusedVariables false
set_option linter.unusedSimpArgs false
set_option maxRecDepth 20000

theorem code14_any (k : Int) (w : World) : Calls Try.prog 10 #[.int .i64 k] w fun e w' => e = .returned (.int .i64 k) ∧ w = w' := by
  go_enter Try.func10, Try.ntmps10
  go_wp2
  go_ret
  exact ⟨rfl, rfl⟩
/-- What Put leaves. -/
def FPutP (xs : List Cd) (w : World) (e : Ending) (w' : World) : Prop :=
  ∃ B m d, e = .returned (.tuple #[.slice B m d, .int .i64 (frCheck xs)]) ∧ Rd w' B m (if frCheck xs = 0 then frBytes xs else []) ∧ m ≤ d ∧ d ≤ maxLen ∧ Below w.heap.size w w'
/-- The program's Put keeps the document. -/
def FPutC : Prop := ∀ (K : Nat → Prop) (A : Option Addr) (n c : Nat) (xs : List Cd) (w : World), CdsV K w A n xs → n ≤ 70 → n ≤ c → (∀ x ∈ xs, x.dt.length ≤ 200) → Calls Try.prog 8 #[.slice A n c] w (FPutP xs w)
theorem frBytes_nil : frBytes [] = (0 : UInt8) :: numB 4 ((sumL [0] : Nat) : Int) := by
  have e : numB 1 0 = [(0 : UInt8)] := by decide
  have e2 : frBody [] = [(0 : UInt8)] := by unfold frBody; simpa using e
  unfold frBytes
  rw [e2]
  rfl
set_option maxHeartbeats 1000000 in
theorem live14_any (HPut : FPutC) (w : World) : Calls Try.prog 7 #[] w fun e w' => e = .returned (.bool true) ∧ Below w.heap.size w w' := by
  have HP := Lib.hid (HPut (fun _ => True) none 0 0 [] w (CdsV.nil _ _ _) (by decide) (by decide) (fun _ h => absurd h List.not_mem_nil))
  clear HPut
  obtain ⟨sm, hsm⟩ : ∃ s, s = sumL [0] := ⟨_, rfl⟩
  have hsum := sumL_lt [0]
  rw [← hsm] at hsum
  have hcv : IntKind.i64.wrap (sm : Int) = sm := IntWalk.i64_in _ (by omega)
  have HSM := Lib.hid hsm
  clear hsm
  go_enter Try.func7, Try.ntmps7
  go_upto_region 2 with (first
    | (go_at_call 8; refine HP.out.mono ?_; rintro e w2 ⟨B, m, d, he, hr2, hd, hdm, hb2⟩; rw [show frCheck [] = 0 from rfl] at he hr2; subst he
       rw [show (if (0 : Int) = 0 then frBytes [] else []) = (0 : UInt8) :: numB 4 (sm : Int) from by rw [HSM.out]; exact frBytes_nil] at hr2
       have HR := Lib.hid hr2
       have HB := Lib.hid hb2
       have h5 : m = 5 := by have := hr2.1; simp at this; omega
       subst h5
       clear hr2 hb2))
  obtain ⟨b, o, rfl, hlt, hcell⟩ := HR.out.2 (by decide)
  have HLT := Lib.hid hlt
  have q0 : w2.drew.cell? ⟨b, o, none⟩ = some (.int .u8 0) := hcell 0 (by simp)
  have HRT := Lib.hid (show Rd w2.drew (some ⟨b, o + 1, none⟩) 4 (numB 4 (sm : Int)) from by
    have h := (HR.out.part (lo := 1) (m := 4) (by simp) (some ⟨b, o + 1, none⟩) (fun _ b' o' e => by injection e with e; injection e with e1 e2; rw [e1, e2])).drew
    exact h)
  clear hcell hlt
  have hd1 : ¬ d = 1 := by omega
  refine wp_region_noPanic ?_
  refine wp_region_held_drew (S := fun W => W.cell? ⟨b, o, none⟩ = some (.int .u8 0)) (by kernel_rfl) q0 (fun hHeld => ?_)
  refine wpAnyH_take (i := 0) (oi := { dst := some 7, op := Op.move (Operand.tmp 2), type := 26, pos := "law.go:18", after := #[], guard := none }) (v := ?_) rfl (by kernel_rfl) (by kernel_rfl) (by kernel_rfl) (fun _ _ _ h => h) (Or.inl ⟨by rfl, ?_⟩) (by assumption) ?_
  rotate_left 1
  · intro w' hSw; (try dsimp only at hSw); go_simp; (try with_reducible rfl)
  simp only [Act.put, List.setIfInBounds_toArray, List.set_cons_zero, List.set_cons_succ]
  refine wpAnyH_ready (rs := [1]) (by kernel_rfl) (by simp) ?_
  refine AllReadyH.cons (o := { dst := some 8, op := Op.call { callee := Callee.value (Operand.func 10), args := #[Operand.tmp 7], argTypes := #[26] }, type := 3, pos := "law.go:18", after := #[{ on := 0, ground := Ground.data }], guard := none }) rfl (fun K' hK => ?_) AllReadyH.nil
  go_simp
  go_at_call 10; refine (code14_any _ _).mono ?_; rintro e w' ⟨rfl, hw'⟩; subst hw'
  refine hK.out _ _ q0 (fun hHeld => ?_)
  clear hK K'
  try simp only [Act.put, List.setIfInBounds_toArray, List.set_cons_zero, List.set_cons_succ]
  refine wpAnyH_take (i := 2) (oi := { dst := some 9, op := Op.binOp BinOp.eql 3 (Operand.tmp 8) (Operand.const (Value.int IntKind.i64 0)) 3, type := 4, pos := "law.go:18", after := #[{ on := 1, ground := Ground.data }], guard := none }) (v := ?_) rfl (by kernel_rfl) (by kernel_rfl) (by kernel_rfl) (fun _ _ _ h => h) (Or.inl ⟨by rfl, ?_⟩) (by assumption) ?_
  rotate_left 1
  · intro w' hSw; (try dsimp only at hSw); go_simp; (try with_reducible rfl)
  simp only [Act.put, List.setIfInBounds_toArray, List.set_cons_zero, List.set_cons_succ]
  refine wpAnyH_take (i := 3) (oi := { dst := some 10, op := Op.move (Operand.tmp 9), type := 4, pos := "law.go:18", after := #[{ on := 2, ground := Ground.data }, { on := 1, ground := Ground.chain }], guard := none }) (v := ?_) rfl (by kernel_rfl) (by kernel_rfl) (by kernel_rfl) (fun _ _ _ h => h) (Or.inl ⟨by rfl, ?_⟩) (by assumption) ?_
  rotate_left 1
  · intro w' hSw; (try dsimp only at hSw); go_simp; (try with_reducible rfl)
  simp only [Act.put, List.setIfInBounds_toArray, List.set_cons_zero, List.set_cons_succ]
  refine wpAnyH_take (i := 4) (oi := { dst := some 11, op := Op.move (Operand.tmp 1), type := 25, pos := "law.go:18", after := #[{ on := 3, ground := Ground.guard }], guard := some (3, true) }) (v := ?_) rfl (by kernel_rfl) (by kernel_rfl) (by kernel_rfl) (fun _ _ _ h => h) (Or.inl ⟨by rfl, ?_⟩) (by assumption) ?_
  rotate_left 1
  · intro w' hSw; (try dsimp only at hSw); go_simp; (try with_reducible rfl)
  simp only [Act.put, List.setIfInBounds_toArray, List.set_cons_zero, List.set_cons_succ]
  refine wpAnyH_take (i := 5) (oi := { dst := some 12, op := Op.call { callee := Callee.builtin Builtin.len, args := #[Operand.tmp 11], argTypes := #[25] }, type := 3, pos := "law.go:18", after := #[{ on := 4, ground := Ground.data }, { on := 3, ground := Ground.guard }], guard := some (3, true) }) (v := ?_) rfl (by kernel_rfl) (by kernel_rfl) (by kernel_rfl) (fun _ _ _ h => h) (Or.inl ⟨by rfl, ?_⟩) (by assumption) ?_
  rotate_left 1
  · intro w' hSw; (try dsimp only at hSw); go_simp; (try with_reducible rfl)
  simp only [Act.put, List.setIfInBounds_toArray, List.set_cons_zero, List.set_cons_succ]
  refine wpAnyH_take (i := 6) (oi := { dst := some 13, op := Op.binOp BinOp.eql 3 (Operand.tmp 12) (Operand.const (Value.int IntKind.i64 5)) 3, type := 4, pos := "law.go:18", after := #[{ on := 5, ground := Ground.data }, { on := 3, ground := Ground.guard }], guard := some (3, true) }) (v := ?_) rfl (by kernel_rfl) (by kernel_rfl) (by kernel_rfl) (fun _ _ _ h => h) (Or.inl ⟨by rfl, ?_⟩) (by assumption) ?_
  rotate_left 1
  · intro w' hSw; (try dsimp only at hSw); go_simp; (try with_reducible rfl)
  simp only [Act.put, List.setIfInBounds_toArray, List.set_cons_zero, List.set_cons_succ]
  refine wpAnyH_take (i := 7) (oi := { dst := some 14, op := Op.pick (Operand.tmp 10) (Operand.tmp 13) (Operand.const (Value.bool false)), type := 4, pos := "law.go:18", after := #[{ on := 3, ground := Ground.data }, { on := 6, ground := Ground.data }], guard := none }) (v := ?_) rfl (by kernel_rfl) (by kernel_rfl) (by kernel_rfl) (fun _ _ _ h => h) (Or.inl ⟨by rfl, ?_⟩) (by assumption) ?_
  rotate_left 1
  · intro w' hSw; (try dsimp only at hSw); go_simp; (try with_reducible rfl)
  simp only [Act.put, List.setIfInBounds_toArray, List.set_cons_zero, List.set_cons_succ]
  refine wpAnyH_take (i := 8) (oi := { dst := some 15, op := Op.move (Operand.tmp 14), type := 4, pos := "law.go:18", after := #[{ on := 7, ground := Ground.data }, { on := 3, ground := Ground.chain }], guard := none }) (v := ?_) rfl (by kernel_rfl) (by kernel_rfl) (by kernel_rfl) (fun _ _ _ h => h) (Or.inl ⟨by rfl, ?_⟩) (by assumption) ?_
  rotate_left 1
  · intro w' hSw; (try dsimp only at hSw); go_simp; (try with_reducible rfl)
  simp only [Act.put, List.setIfInBounds_toArray, List.set_cons_zero, List.set_cons_succ]
  refine wpAnyH_take (i := 9) (oi := { dst := some 16, op := Op.move (Operand.tmp 1), type := 25, pos := "law.go:18", after := #[{ on := 8, ground := Ground.guard }], guard := some (8, true) }) (v := ?_) rfl (by kernel_rfl) (by kernel_rfl) (by kernel_rfl) (fun _ _ _ h => h) (Or.inl ⟨by rfl, ?_⟩) (by assumption) ?_
  rotate_left 1
  · intro w' hSw; (try dsimp only at hSw); go_simp; (try with_reducible rfl)
  simp only [Act.put, List.setIfInBounds_toArray, List.set_cons_zero, List.set_cons_succ]
  refine wpAnyH_take (i := 10) (oi := { dst := some 17, op := Op.indexAddr 25 (Operand.tmp 16) (Operand.const (Value.int IntKind.i64 0)), type := 0, pos := "law.go:18", after := #[{ on := 9, ground := Ground.data }, { on := 8, ground := Ground.guard }], guard := some (8, true) }) (v := ?_) rfl (by kernel_rfl) (by kernel_rfl) (by kernel_rfl) (fun _ _ _ h => h) (Or.inl ⟨by rfl, ?_⟩) (by assumption) ?_
  rotate_left 1
  · intro w' hSw; (try dsimp only at hSw); go_simp; (try with_reducible rfl)
  simp only [Act.put, List.setIfInBounds_toArray, List.set_cons_zero, List.set_cons_succ]
  refine wpAnyH_take (i := 11) (oi := { dst := some 18, op := Op.load 5 (Operand.tmp 17), type := 5, pos := "law.go:18", after := #[{ on := 10, ground := Ground.data }, { on := 8, ground := Ground.guard }], guard := some (8, true) }) (v := ?_) rfl (by kernel_rfl) (by kernel_rfl) (by kernel_rfl) (fun _ _ _ h => h) (Or.inl ⟨by rfl, ?_⟩) (by assumption) ?_
  rotate_left 1
  · intro w' hSw; (try dsimp only at hSw); go_simp; (try with_reducible rfl)
  simp only [Act.put, List.setIfInBounds_toArray, List.set_cons_zero, List.set_cons_succ]
  refine wpAnyH_take (i := 12) (oi := { dst := some 19, op := Op.binOp BinOp.eql 5 (Operand.tmp 18) (Operand.const (Value.int IntKind.u8 0)) 5, type := 4, pos := "law.go:18", after := #[{ on := 11, ground := Ground.data }, { on := 8, ground := Ground.guard }], guard := some (8, true) }) (v := ?_) rfl (by kernel_rfl) (by kernel_rfl) (by kernel_rfl) (fun _ _ _ h => h) (Or.inl ⟨by rfl, ?_⟩) (by assumption) ?_
  rotate_left 1
  · intro w' hSw; (try dsimp only at hSw); go_simp; (try with_reducible rfl)
  simp only [Act.put, List.setIfInBounds_toArray, List.set_cons_zero, List.set_cons_succ]
  refine wpAnyH_take (i := 13) (oi := { dst := some 20, op := Op.pick (Operand.tmp 15) (Operand.tmp 19) (Operand.const (Value.bool false)), type := 4, pos := "law.go:18", after := #[{ on := 8, ground := Ground.data }, { on := 12, ground := Ground.data }], guard := none }) (v := ?_) rfl (by kernel_rfl) (by kernel_rfl) (by kernel_rfl) (fun _ _ _ h => h) (Or.inl ⟨by rfl, ?_⟩) (by assumption) ?_
  rotate_left 1
  · intro w' hSw; (try dsimp only at hSw); go_simp; (try with_reducible rfl)
  simp only [Act.put, List.setIfInBounds_toArray, List.set_cons_zero, List.set_cons_succ]
  refine wpAnyH_take (i := 14) (oi := { dst := some 21, op := Op.move (Operand.tmp 20), type := 4, pos := "law.go:18", after := #[{ on := 13, ground := Ground.data }, { on := 8, ground := Ground.chain }], guard := none }) (v := ?_) rfl (by kernel_rfl) (by kernel_rfl) (by kernel_rfl) (fun _ _ _ h => h) (Or.inl ⟨by rfl, ?_⟩) (by assumption) ?_
  rotate_left 1
  · intro w' hSw; (try dsimp only at hSw); go_simp; (try with_reducible rfl)
  simp only [Act.put, List.setIfInBounds_toArray, List.set_cons_zero, List.set_cons_succ]
  refine wpAnyH_take (i := 15) (oi := { dst := some 22, op := Op.move (Operand.tmp 1), type := 25, pos := "law.go:18", after := #[{ on := 14, ground := Ground.guard }], guard := some (14, true) }) (v := ?_) rfl (by kernel_rfl) (by kernel_rfl) (by kernel_rfl) (fun _ _ _ h => h) (Or.inl ⟨by rfl, ?_⟩) (by assumption) ?_
  rotate_left 1
  · intro w' hSw; (try dsimp only at hSw); go_simp; (try with_reducible rfl)
  simp only [Act.put, List.setIfInBounds_toArray, List.set_cons_zero, List.set_cons_succ]
  refine wpAnyH_take (i := 16) (oi := { dst := some 23, op := Op.slice 25 (Operand.tmp 22) (some (Operand.const (Value.int IntKind.i64 1))) none none, type := 25, pos := "law.go:18", after := #[{ on := 15, ground := Ground.data }, { on := 14, ground := Ground.guard }], guard := some (14, true) }) (v := ?_) rfl (by kernel_rfl) (by kernel_rfl) (by kernel_rfl) (fun _ _ _ h => h) (Or.inl ⟨by rfl, ?_⟩) (by assumption) ?_
  rotate_left 1
  · intro w' hSw; (try dsimp only at hSw); go_simp; (try with_reducible rfl)
  simp only [Act.put, List.setIfInBounds_toArray, List.set_cons_zero, List.set_cons_succ]
  refine wpAnyH_ready (rs := [17]) (by kernel_rfl) (by simp) ?_
  refine AllReadyH.cons (o := { dst := some 24, op := Op.buildSlice 25 1 #[(0, Operand.const (Value.int IntKind.u8 0))], type := 25, pos := "law.go:18", after := #[{ on := 14, ground := Ground.guard }], guard := some (14, true) }) rfl (fun K' hK => ?_) AllReadyH.nil
  go_simp
  obtain ⟨v1, hv1⟩ : ∃ v, v = (w2.alloc (.cells #[.int .u8 0] 5)).drew := ⟨_, rfl⟩
  rw [← hv1]
  have hb1 : Below w2.drew.heap.size w2.drew v1 := by rw [hv1]; exact (show Below w2.drew.heap.size w2.drew (w2.drew.alloc (.cells #[.int .u8 0] 5)) from (Below.refl _ _).alloc (Nat.le_refl _) _)
  have CO := Lib.hid (ROf_any (some ⟨w2.heap.size, 0, none⟩) 1 1 [0] v1 (by rw [hv1]; exact Rd.new w2.drew 5 [0] (0, 0)) (by decide))
  rw [← HSM.out] at CO
  have q1 : v1.cell? ⟨b, o, none⟩ = some (.int .u8 0) := (hb1.cell (p := ⟨b, o, none⟩) HLT.out).trans q0
  have R1 := Lib.hid hb1
  clear hb1 hv1
  refine hK.out _ _ q1 (fun hHeld => ?_)
  clear hK K'
  try simp only [Act.put, List.setIfInBounds_toArray, List.set_cons_zero, List.set_cons_succ]
  refine wpAnyH_ready (rs := [18]) (by kernel_rfl) (by simp) ?_
  refine AllReadyH.cons (o := { dst := some 25, op := Op.call { callee := Callee.value (Operand.func 20), args := #[Operand.tmp 24], argTypes := #[25] }, type := 42, pos := "law.go:18", after := #[{ on := 17, ground := Ground.data }, { on := 14, ground := Ground.chain }, { on := 14, ground := Ground.guard }], guard := some (14, true) }) rfl (fun K' hK => ?_) AllReadyH.nil
  go_simp
  go_at_call 20; refine CO.out.mono ?_; rintro e w' ⟨rfl, hw'⟩; subst hw'
  refine hK.out _ _ q1 (fun hHeld => ?_)
  clear hK K'
  try simp only [Act.put, List.setIfInBounds_toArray, List.set_cons_zero, List.set_cons_succ]
  refine wpAnyH_take (i := 19) (oi := { dst := some 26, op := Op.convert 42 3 (Operand.tmp 25), type := 3, pos := "law.go:18", after := #[{ on := 18, ground := Ground.data }, { on := 14, ground := Ground.guard }], guard := some (14, true) }) (v := ?_) rfl (by kernel_rfl) (by kernel_rfl) (by kernel_rfl) (fun _ _ _ h => h) (Or.inl ⟨by rfl, ?_⟩) (by assumption) ?_
  rotate_left 1
  · intro w' hSw; (try dsimp only at hSw); go_simp; (try with_reducible rfl)
  simp only [Act.put, List.setIfInBounds_toArray, List.set_cons_zero, List.set_cons_succ]
  refine wpAnyH_ready (rs := [20]) (by kernel_rfl) (by simp) ?_
  refine AllReadyH.cons (o := { dst := some 27, op := Op.call { callee := Callee.value (Operand.func 19), args := #[Operand.const (Value.int IntKind.i64 4), Operand.tmp 26], argTypes := #[3, 3] }, type := 25, pos := "law.go:18", after := #[{ on := 19, ground := Ground.data }, { on := 18, ground := Ground.chain }, { on := 14, ground := Ground.guard }], guard := some (14, true) }) rfl (fun K' hK => ?_) AllReadyH.nil
  go_simp
  go_at_call 19; refine (RNumS_any 4 (by decide) (by decide) (sm : Int) v1).mono ?_; rintro e v2 ⟨u2, rfl, ho2, hb2⟩
  obtain ⟨A2, c2, rfl, _, _, hr2⟩ := Rd.of_own ho2 rfl
  have R2 := Lib.hid (R1.out.trans (hb2.mono R1.out.size))
  have q2 : v2.cell? ⟨b, o, none⟩ = some (.int .u8 0) := (R2.out.cell (p := ⟨b, o, none⟩) HLT.out).trans q0
  have CS := Lib.hid (Same_yes (some ⟨b, o + 1, none⟩) A2 4 (d - 1) 4 c2 (numB 4 (sm : Int)) v2 (HRT.out.below (Nat.le_refl _) R2.out) hr2)
  clear hr2 ho2 hb2
  refine hK.out _ _ q2 (fun hHeld => ?_)
  clear hK K'
  try simp only [Act.put, List.setIfInBounds_toArray, List.set_cons_zero, List.set_cons_succ]
  refine wpAnyH_ready (rs := [21]) (by kernel_rfl) (by simp) ?_
  refine AllReadyH.cons (o := { dst := some 28, op := Op.call { callee := Callee.value (Operand.func 14), args := #[Operand.tmp 23, Operand.tmp 27], argTypes := #[25, 25] }, type := 4, pos := "law.go:18", after := #[{ on := 16, ground := Ground.data }, { on := 20, ground := Ground.data }, { on := 20, ground := Ground.chain }, { on := 14, ground := Ground.guard }], guard := some (14, true) }) rfl (fun K' hK => ?_) AllReadyH.nil
  go_simp
  go_at_call 14; refine CS.out.mono ?_; rintro e w' ⟨rfl, hw'⟩; subst hw'
  refine hK.out _ _ q2 (fun hHeld => ?_)
  clear hK K'
  try simp only [Act.put, List.setIfInBounds_toArray, List.set_cons_zero, List.set_cons_succ]
  refine wpAnyH_take (i := 22) (oi := { dst := some 29, op := Op.pick (Operand.tmp 21) (Operand.tmp 28) (Operand.const (Value.bool false)), type := 4, pos := "law.go:18", after := #[{ on := 14, ground := Ground.data }, { on := 21, ground := Ground.data }], guard := none }) (v := ?_) rfl (by kernel_rfl) (by kernel_rfl) (by kernel_rfl) (fun _ _ _ h => h) (Or.inl ⟨by rfl, ?_⟩) (by assumption) ?_
  rotate_left 1
  · intro w' hSw; (try dsimp only at hSw); go_simp; (try with_reducible rfl)
  simp only [Act.put, List.setIfInBounds_toArray, List.set_cons_zero, List.set_cons_succ]
  refine wpAnyH_take (i := 23) (oi := { dst := some 0, op := Op.assign (Operand.tmp 29), type := 4, pos := "law.go:18", after := #[{ on := 22, ground := Ground.data }, { on := 21, ground := Ground.chain }, { on := 0, ground := Ground.phase }, { on := 1, ground := Ground.phase }, { on := 2, ground := Ground.phase }, { on := 3, ground := Ground.phase }, { on := 4, ground := Ground.phase }, { on := 5, ground := Ground.phase }, { on := 6, ground := Ground.phase }, { on := 7, ground := Ground.phase }, { on := 8, ground := Ground.phase }, { on := 9, ground := Ground.phase }, { on := 10, ground := Ground.phase }, { on := 11, ground := Ground.phase }, { on := 12, ground := Ground.phase }, { on := 13, ground := Ground.phase }, { on := 14, ground := Ground.phase }, { on := 15, ground := Ground.phase }, { on := 16, ground := Ground.phase }, { on := 17, ground := Ground.phase }, { on := 18, ground := Ground.phase }, { on := 19, ground := Ground.phase }, { on := 20, ground := Ground.phase }, { on := 21, ground := Ground.phase }, { on := 22, ground := Ground.phase }], guard := none }) (v := ?_) rfl (by kernel_rfl) (by kernel_rfl) (by kernel_rfl) (fun _ _ _ h => h) (Or.inl ⟨by rfl, ?_⟩) (by assumption) ?_
  rotate_left 1
  · intro w' hSw; (try dsimp only at hSw); go_simp; (try with_reducible rfl)
  simp only [Act.put, List.setIfInBounds_toArray, List.set_cons_zero, List.set_cons_succ]
  refine wpAnyH_done (by kernel_rfl) ?_ _
  refine NoPanic.normal ?_
  clear hHeld q0 q1 q2
  go_wp2
  go_ret
  exact ⟨rfl, HB.out.trans (((show Below w2.heap.size w2 w2.drew from (Below.refl _ _).drew).trans R2.out).mono HB.out.size)⟩
end Go.Proofs.Ytlinafnhhnkjnaa
