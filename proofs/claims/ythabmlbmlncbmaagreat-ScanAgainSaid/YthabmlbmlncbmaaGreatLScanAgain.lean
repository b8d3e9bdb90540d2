/-
  Proved: for every input the Go function vivarium/vivariumlaw18.ScanAgain of this commit's translation returns true, and each argument reads afterwards as it read before. Conditions: none but those that the row itself prints.
-/
import Derived.Test.YthabmlbmlncbmaaGreatRows
import Derived.Test.YthabmlbmlncbmaaGreatScU
import Derived.WalkKit
import Derived.ProofKit
import Derived.OpenShut
import Derived.ShutString
import Derived.ChangeOld
import Derived.Below
import Derived.Lib.SmallJoins
namespace Go.Proofs.YthabmlbmlncbmaaGreat.scanAgain
open Go.ChangeShapes Go.WideShapes Go.ChangeAt Go.RowKit Go.Joins
open Go.ChangeMaps (open_string shut_string)
set_option linter.unusedVariables false

theorem own : ownKnob Tryz.prog.godebug = none := by kernel_rfl
theorem laidOut : laidOutB Tryz.prog = true := by kernel_rfl

/-- What the walk is told of a slice of integers that came in. -/
def IsRow (k : IntKind) (w : World) (a : Option Addr) (len cap : Nat) (zs : List Int) : Prop :=
  (a = none ∧ len = 0 ∧ cap = 0 ∧ zs = []) ∨
  ∃ x, a = some x ∧ len ≤ cap ∧ cap ≤ maxLen ∧ zs.length = cap ∧ (∀ i, i < zs.length → w.cell? (x.add i) = some (.int k (zs.getD i 0))) ∧ ∀ n ∈ zs, (Lit.int k n).wf = true

theorem walk (lg0 pg0 en0 gn0 : Int) (a0 : Option Addr) (len0 cap0 : Nat) (x0 : List Kd) (a1 : Option Addr) (len1 cap1 : Nat) (x1 : List (List UInt8)) (a2 : Option Addr) (len2 cap2 : Nat) (x2 : List (List Cd)) (a3 : Option Addr) (len3 cap3 : Nat) (x3 : List Int) (a4 : Option Addr) (len4 cap4 : Nat) (x4 : List (List Cd)) (a5 : Option Addr) (len5 cap5 : Nat) (x5 : List Int) (w : World) (w0 : KRd w a0 len0 x0 ∧ Lens x0 ∧ len0 ≤ cap0 ∧ cap0 ≤ maxLen) (w1 : PcsRd w a1 len1 x1 ∧ len1 ≤ cap1 ∧ cap1 ≤ maxLen) (w2 : FrsRd w a2 len2 x2 ∧ len2 ≤ cap2 ∧ cap2 ≤ maxLen) (w3 : IRdW w a3 len3 x3 ∧ len3 ≤ cap3 ∧ cap3 ≤ maxLen) (w4 : FrsRd w a4 len4 x4 ∧ len4 ≤ cap4 ∧ cap4 ≤ maxLen) (w5 : IRdW w a5 len5 x5 ∧ len5 ≤ cap5 ∧ cap5 ≤ maxLen) :
    Calls Tryz.prog 3 #[.agg #[.int .i64 lg0, .int .i64 pg0, .int .i64 en0, .int .i64 gn0, .slice a0 len0 cap0], .slice a1 len1 cap1, .slice a2 len2 cap2, .slice a3 len3 cap3, .slice a4 len4 cap4, .slice a5 len5 cap5] w fun e w' => e = .returned (.bool true) ∧ Below w.heap.size w w' := by
  obtain ⟨hK, hL, h1, h2⟩ := w0
  obtain ⟨⟨hv, hx⟩, h3, h4⟩ := w1
  obtain ⟨⟨hf, hfx⟩, h5, h6⟩ := w2
  obtain ⟨ht, h7, h8⟩ := w3
  obtain ⟨⟨ho, hox⟩, h9, h10⟩ := w4
  obtain ⟨hu, h11, h12⟩ := w5
  have hm : (maxLen : Nat) ≤ 9223372036854775807 := by decide
  exact ScanAgain_any lg0 pg0 en0 gn0 a0 len0 cap0 x0 a1 len1 cap1 x1 a2 len2 cap2 x2 a3 len3 cap3 x3 a4 len4 cap4 x4 a5 len5 cap5 x5 w ⟨hK, by omega, hL, hv, by omega, fun x hxx => Nat.le_trans (hx x hxx) hm, ⟨hf, by omega, fun x hxx => ⟨fun y hy => ⟨((hfx x hxx).1 y hy).1, Nat.le_trans ((hfx x hxx).1 y hy).2 hm⟩, Nat.le_trans (hfx x hxx).2 hm⟩⟩, ht, by omega, ⟨ho, by omega, fun x hxx => ⟨fun y hy => ⟨((hox x hxx).1 y hy).1, Nat.le_trans ((hox x hxx).1 y hy).2 hm⟩, Nat.le_trans (hox x hxx).2 hm⟩⟩, hu, by omega⟩

set_option maxRecDepth 100000 in
theorem lifted (os : Os) (started : os.Started) (H : Type) (enc : TypeId × Value → H) :
    ReturnsInHanded {} Tryz.checked os 3 .any (Rows.scanAgainSpec.pre6 enc Tryz.prog Tryz.f3 Rows.scanAgainRow.domain false) (Rows.scanAgainSpec.post enc Tryz.prog Tryz.f3 false true false false) := by
  refine returnsInHanded_of_change (C := Tryz.checked) own started (by kernel_rfl) Tryz.func3
    (ChangeSpec.witness6 (enc := enc) (C := Tryz.checked) false ⟨#[], #[.agg #[.int .i64 0, .int .i64 0, .int .i64 0, .int .i64 0, .slice none 0 0], .slice none 0 0, .slice none 0 0, .slice none 0 0, .slice none 0 0, .slice none 0 0], []⟩ 12 (by kernel_rfl) (by kernel_rfl) (by kernel_rfl) (by kernel_rfl)) ?_
  intro W base args ds gs before hval0 hW hcnd _
  have hval : ∀ (j : Nat) t v, Tryz.f3.params[j]? = some t → args[j]? = some v → Value.okWide Tryz.prog W .any base t v := hval0
  have hW' := hW
  obtain ⟨p, q, hA0, hV, rfl, hfz, hnd⟩ := hW
  have hA : DataW.TrodAll enc Tryz.prog W 0 (fun _ => true) true Tryz.f3.params.toList args.toList ds p := hA0
  rw [Tryz.params3] at hA hval
  obtain ⟨v0, vs0, d0, ds0, p0, q0, hargs, rfl, rfl, h0, r0⟩ := trodAll_cons hA
  obtain ⟨v1, vs1, d1, ds1, p1, q1, rfl, rfl, rfl, h1, r1⟩ := trodAll_cons r0
  obtain ⟨v2, vs2, d2, ds2, p2, q2, rfl, rfl, rfl, h2, r2⟩ := trodAll_cons r1
  obtain ⟨v3, vs3, d3, ds3, p3, q3, rfl, rfl, rfl, h3, r3⟩ := trodAll_cons r2
  obtain ⟨v4, vs4, d4, ds4, p4, q4, rfl, rfl, rfl, h4, r4⟩ := trodAll_cons r3
  obtain ⟨v5, vs5, d5, ds5, p5, q5, rfl, rfl, rfl, h5, r5⟩ := trodAll_cons r4
  obtain ⟨rfl, rfl, rfl⟩ := trodAll_nil r5
  obtain rfl : args = #[v0, v1, v2, v3, v4, v5] := by cases args; simp_all
  obtain ⟨rfl, rfl⟩ := trodVars_none hV
  have kk0 := h0
  have lt0 : ∀ x ∈ p0, x.block < W.heap.size := by obtain ⟨m, hm⟩ := kk0; exact DataW.trod_lt m _ _ _ hm
  obtain ⟨lg0, pg0, en0, gn0, a0, len0, cap0, x0, rfl, w0⟩ := open_conf (hval 0 24 v0 rfl rfl) h0
  obtain ⟨a1, len1, cap1, rfl⟩ := okWide_slice Tryz.underlying25 (hval 1 25 v1 rfl rfl)
  have k1 := h1
  have lt1 : ∀ x ∈ p1, x.block < W.heap.size := by obtain ⟨m, hm⟩ := k1; exact DataW.trod_lt m _ _ _ hm
  obtain ⟨x1, w1⟩ : ∃ x, PcsRd W a1 len1 x ∧ len1 ≤ cap1 ∧ cap1 ≤ maxLen := by
    obtain ⟨fuel, hf⟩ := h1
    obtain ⟨A, n, c, x, hcs, hs, h1, h2⟩ := open_pcs hf
    simp [Value.cells] at hcs
    obtain ⟨rfl, rfl, rfl⟩ := hcs
    exact ⟨x, hs, h1, h2⟩
  obtain ⟨a2, len2, cap2, rfl⟩ := okWide_slice Tryz.underlying26 (hval 2 26 v2 rfl rfl)
  have k2 := h2
  have lt2 : ∀ x ∈ p2, x.block < W.heap.size := by obtain ⟨m, hm⟩ := k2; exact DataW.trod_lt m _ _ _ hm
  obtain ⟨x2, w2⟩ : ∃ x, FrsRd W a2 len2 x ∧ len2 ≤ cap2 ∧ cap2 ≤ maxLen := by
    obtain ⟨fuel, hf⟩ := h2
    obtain ⟨A, n, c, x, hcs, hs, h1, h2⟩ := open_frs hf
    simp [Value.cells] at hcs
    obtain ⟨rfl, rfl, rfl⟩ := hcs
    exact ⟨x, hs, h1, h2⟩
  obtain ⟨a3, len3, cap3, rfl⟩ := okWide_slice Tryz.underlying27 (hval 3 27 v3 rfl rfl)
  have k3 := h3
  have lt3 : ∀ x ∈ p3, x.block < W.heap.size := by obtain ⟨m, hm⟩ := k3; exact DataW.trod_lt m _ _ _ hm
  obtain ⟨x3, w3⟩ : ∃ x, IRdW W a3 len3 x ∧ len3 ≤ cap3 ∧ cap3 ≤ maxLen := by
    obtain ⟨fuel, hf⟩ := h3
    obtain ⟨A, n, c, x, hcs, hs, h1, h2⟩ := open_inlistW hf
    simp [Value.cells] at hcs
    obtain ⟨rfl, rfl, rfl⟩ := hcs
    exact ⟨x, hs, h1, h2⟩
  obtain ⟨a4, len4, cap4, rfl⟩ := okWide_slice Tryz.underlying26 (hval 4 26 v4 rfl rfl)
  have k4 := h4
  have lt4 : ∀ x ∈ p4, x.block < W.heap.size := by obtain ⟨m, hm⟩ := k4; exact DataW.trod_lt m _ _ _ hm
  obtain ⟨x4, w4⟩ : ∃ x, FrsRd W a4 len4 x ∧ len4 ≤ cap4 ∧ cap4 ≤ maxLen := by
    obtain ⟨fuel, hf⟩ := h4
    obtain ⟨A, n, c, x, hcs, hs, h1, h2⟩ := open_frs hf
    simp [Value.cells] at hcs
    obtain ⟨rfl, rfl, rfl⟩ := hcs
    exact ⟨x, hs, h1, h2⟩
  obtain ⟨a5, len5, cap5, rfl⟩ := okWide_slice Tryz.underlying27 (hval 5 27 v5 rfl rfl)
  have k5 := h5
  have lt5 : ∀ x ∈ p5, x.block < W.heap.size := by obtain ⟨m, hm⟩ := k5; exact DataW.trod_lt m _ _ _ hm
  obtain ⟨x5, w5⟩ : ∃ x, IRdW W a5 len5 x ∧ len5 ≤ cap5 ∧ cap5 ≤ maxLen := by
    obtain ⟨fuel, hf⟩ := h5
    obtain ⟨A, n, c, x, hcs, hs, h1, h2⟩ := open_inlistW hf
    simp [Value.cells] at hcs
    obtain ⟨rfl, rfl, rfl⟩ := hcs
    exact ⟨x, hs, h1, h2⟩
  clear hA0 hval0
  refine (walk lg0 pg0 en0 gn0 a0 len0 cap0 x0 a1 len1 cap1 x1 a2 len2 cap2 x2 a3 len3 cap3 x3 a4 len4 cap4 x4 a5 len5 cap5 x5 W w0 w1 w2 w3 w4 w5).mono fun e W' ⟨he, bel⟩ => ?_
  subst he
  exact ⟨_, rfl, _, _, _, [], _, [], hW', trodAll_mk1 (shut_bool Tryz.underlying4 _), (trodAll_cons_mk (Below.trod laidOut (by kernel_rfl) (of_decide_eq_true (by kernel_rfl)) kk0 bel lt0) (trodAll_cons_mk (Below.trod laidOut (by kernel_rfl) (of_decide_eq_true (by kernel_rfl)) k1 bel lt1) (trodAll_cons_mk (Below.trod laidOut (by kernel_rfl) (of_decide_eq_true (by kernel_rfl)) k2 bel lt2) (trodAll_cons_mk (Below.trod laidOut (by kernel_rfl) (of_decide_eq_true (by kernel_rfl)) k3 bel lt3) (trodAll_cons_mk (Below.trod laidOut (by kernel_rfl) (of_decide_eq_true (by kernel_rfl)) k4 bel lt4) (trodAll_cons_mk (Below.trod laidOut (by kernel_rfl) (of_decide_eq_true (by kernel_rfl)) k5 bel lt5) trodAll_mk0)))))), rfl, bel.frame _, fun h => by cases h⟩

theorem over : Rows.scanAgainRow.holds Tryz.pinned (OpenSpec.ofChange Rows.scanAgainSpec) :=
  OpenClaim.holds_of_wide 3 Tryz.f3 rfl rfl rfl rfl rfl rfl rfl ⟨rfl, rfl, rfl, rfl, rfl⟩ rfl rfl rfl rfl rfl (by kernel_rfl) Tryz.func3 (by kernel_rfl)
    (of_decide_eq_true (by kernel_rfl)) (by unfold Func.isWrapper; first | (rw [if_pos (by decide +kernel)]; kernel_rfl) | (rw [if_neg (by decide +kernel)]; exact ⟨rfl, rfl⟩))
    (fun os started H enc _ => lifted os started H enc)

/-- The statement. -/
theorem proved : Rows.ScanAgainSaid := over
#print axioms proved
end Go.Proofs.YthabmlbmlncbmaaGreat.scanAgain
