/- The graph as it lies in memory; the contracts of Len, Sig, Find. -/
import Derived.Test.YtigiepmmgghjlaaMapF
import Derived.Test.YtigiepmmgghjlaaRec
import Derived.Test.YtigiepmmgghjlaaGrM
import Derived.BigQuiet
import Derived.Deep.QuietTactic
namespace Go.Proofs.Ytigiepmmgghjlaa
open Go.RowKit

theorem setsT : El Try.prog 27 23 (.int .u64 0) 1 8 := ⟨Try.underlying27, by kernel_rfl, rfl, by decide⟩
theorem graphT : RT Try.prog 51 3 := ⟨⟨_, Try.underlying51, rfl⟩, by kernel_rfl⟩
/-- Sets as cells. -/
def setsV (S : List Nat) : List Value := S.map fun s : Nat => .int .u64 (s : Int)
theorem setsV_len (S : List Nat) : (setsV S).length = S.length := by simp [setsV]
theorem setsV_get {S : List Nat} {i s : Nat} (h : S[i]? = some s) : (setsV S)[i]? = some (.int .u64 (s : Int)) := by simp [setsV, h]
theorem setsV_snoc (S : List Nat) (s : Nat) : setsV (S ++ [s]) = setsV S ++ [.int .u64 (s : Int)] := by simp [setsV]
/-- A place, if there is one, as a map has it. -/
def atV (o : Option Nat) : Option Value := o.map fun i => .int .i64 (i : Int)

/-! ### the keys of both maps -/
theorem kfS : Kf Try.prog 23 (fun s : Nat => .int .u64 (s : Int)) litU okU := kfU Try.underlying23
theorem laidOutG : laidOutB Try.prog = true := by kernel_rfl
theorem lawE : WideMaps.KeyLaw Try.prog 60 := deep_law_laid laidOutG (m := 2) (by omega) (of_decide_eq_true (by kernel_rfl)) (by kernel_rfl) (by kernel_rfl)
def valE (x : Int × Int) : Value := .agg #[.int .i64 x.1, .int .i64 x.2]
def litE (x : Int × Int) : Lit := .string (keyBytes [.int .i64 x.1, .int .i64 x.2])
def okE (x : Int × Int) : Prop := (Lit.int .i64 x.1).wf = true ∧ (Lit.int .i64 x.2).wf = true
theorem keyE {x : Int × Int} (h : okE x) : keyOf Try.prog 60 (valE x) = some (litE x) := by
  obtain ⟨a, b⟩ := x
  obtain ⟨h1, h2⟩ := h
  simp only at h1 h2
  have hk : Try.prog.keyType 60 = true := by kernel_rfl
  have hc : Try.prog.cellsOf 60 = 2 := by kernel_rfl
  have hc1 : Try.prog.cellsOf 3 = 1 := by kernel_rfl
  obtain ⟨D, hD⟩ : ∃ D, Try.prog.types.size = D + 1 := ⟨Try.prog.types.size - 1, by have : 0 < Try.prog.types.size := of_decide_eq_true (by kernel_rfl); omega⟩
  have hf : (valE (a, b)).formed Try.prog 60 = true := by simp [valE, Value.formed, Try.underlying60, hc]
  have hl : Try.prog.keyLits (Try.prog.types.size + 1) 60 (valE (a, b)).cells.toList = some [.int .i64 a, .int .i64 b] := by
    rw [hD]
    simp [Program.keyLits, Try.underlying60, Try.underlying3, valE, Value.cells, hc, hc1, h1, h2]
  simp only [keyOf, Try.underlying60, hk, hf, hl, Bool.and_self, if_true, Option.map_some]
  rfl
theorem kfE : Kf Try.prog 60 valE litE okE where
  law := Maps.Keyed.of_law lawE
  key h := keyE h
  inj {i j} hi hj e := by
    have := (Maps.Keyed.of_law lawE).inj (keyE hi) (by rw [e]; exact keyE hj)
    obtain ⟨a, b⟩ := i
    obtain ⟨c, d⟩ := j
    simp [valE] at this
    rw [this.1, this.2]

/-- A graph at block p: its sets in sv, their places in m1, what leads where in m2. -/
structure GAt (w : World) (own : Nat → Prop) (p : Nat) (sv : Value) (m1 m2 : Nat) (S : List Nat) (ed : Int × Int → Option Nat) (b : Nat) : Prop where
  blk : Rec 51 w p #[sv, .map (some m1), .map (some m2)]
  row : w.ownsRow 0 23 1 sv S.length (setsV S)
  nodes : MapF Try.prog 23 litU okU (.int .i64 0) w m1 S.length (fun s => atV (ixS S s))
  edges : MapF Try.prog 60 litE okE (.int .i64 0) w m2 b (fun x => atV (ed x))
  two : m1 ≠ m2
  ownp : own p
  own1 : own m1
  own2 : own m2
  ownv : ∀ x, sv.ownBlock = some x → own x
  ok : SOk S
  edok : ∀ n c m, ed (n, c) = some m → ∃ (i s t : Nat), n = (i : Int) ∧ S[i]? = some s ∧ S[m]? = some t ∧ Beside s t c

section
variable {w w' : World} {own own' : Nat → Prop} {p m1 m2 b : Nat} {sv : Value} {S : List Nat} {ed : Int × Int → Option Nat}
theorem own_openG {w : World} {B e n : Nat} {v : Value} {xs : List Value} (h : w.ownsRow B e 1 v n xs) :
    ∃ A c, v = .slice A n c ∧ n ≤ c ∧ c ≤ maxLen ∧ (0 < n → ∃ g, A = some ⟨g, 0, none⟩ ∧ g < w.heap.size ∧ (∀ j, j < n → w.cell? ⟨g, j, none⟩ = xs[j]?)) := by
  have h' := h
  rcases h.2 with ⟨hv, h0⟩ | ⟨g, cap, cur, rfl, _, hh, hn, hc, _, _⟩
  · exact ⟨none, 0, by rw [hv, h0], by omega, by unfold maxLen; omega, fun hp => by omega⟩
  · exact ⟨_, cap, rfl, hn, hc, fun _ => ⟨g, rfl, (Array.getElem?_eq_some_iff.1 hh).1, fun j hj => h'.cellAt j (by omega)⟩⟩
theorem GAt.c0 (h : GAt w own p sv m1 m2 S ed b) : w.cell? ⟨p, 0, none⟩ = some sv := h.blk.at_ 0
theorem GAt.c1 (h : GAt w own p sv m1 m2 S ed b) : w.cell? ⟨p, 1, none⟩ = some (.map (some m1)) := h.blk.at_ 1
theorem GAt.c2 (h : GAt w own p sv m1 m2 S ed b) : w.cell? ⟨p, 2, none⟩ = some (.map (some m2)) := h.blk.at_ 2
theorem GAt.kept (h : GAt w own p sv m1 m2 S ed b) (hf : Fr own' w w') (hd : ∀ x, own x → ¬ own' x) : GAt w' own p sv m1 m2 S ed b :=
  { h with
    blk := h.blk.fr hf (hd p h.ownp)
    row := own_fr h.row hf (fun x hx => hd x (h.ownv x hx))
    nodes := h.nodes.fr hf (hd m1 h.own1)
    edges := h.edges.fr hf (hd m2 h.own2) }
theorem GAt.below (h : GAt w own p sv m1 m2 S ed b) (hb : Below w.heap.size w w') : GAt w' own p sv m1 m2 S ed b := h.kept (own' := fun _ => False) (Fr.ofBelow _ hb) (fun _ _ hx => hx)

theorem zeroI (w : World) : (zeroValue 3).run Try.prog w = .ok (.int .i64 0) w := by kernel_rfl
theorem GAt.look1 (h : GAt w own p sv m1 m2 S ed b) {s : Nat} (hs : s < 18446744073709551616) :
    (Instr.lookup 48 (.map (some m1)) (.int .u64 (s : Int)) true).run Try.prog w = .ok (.tuple #[(atV (ixS S s)).getD (.int .i64 0), .bool (atV (ixS S s)).isSome]) w :=
  h.nodes.look_ok kfS Try.underlying48 (zeroI w) (i := s) hs
theorem GAt.look2 (h : GAt w own p sv m1 m2 S ed b) {n c : Int} (hn : (Lit.int .i64 n).wf = true) (hc : (Lit.int .i64 c).wf = true) :
    (Instr.lookup 49 (.map (some m2)) (.agg #[.int .i64 n, .int .i64 c]) true).run Try.prog w = .ok (.tuple #[(atV (ed (n, c))).getD (.int .i64 0), .bool (atV (ed (n, c))).isSome]) w :=
  h.edges.look_ok kfE Try.underlying49 (zeroI w) (i := (n, c)) ⟨hn, hc⟩

theorem Len_nil (w : World) : Calls Try.prog 10 #[.pointer none] w fun e w' => e = .returned (.int .i64 0) ∧ w = w' := by
  go_enter Try.func10, Try.ntmps10
  go_wp2
  go_ret
  exact ⟨rfl, rfl⟩
theorem Len_any (h : GAt w own p sv m1 m2 S ed b) : Calls Try.prog 10 #[.pointer (some ⟨p, 0, none⟩)] w fun e w' => e = .returned (.int .i64 S.length) ∧ w = w' := by
  obtain ⟨A, c, rfl, _, _, _⟩ := own_openG h.row
  have c0 := h.c0
  clear h
  go_enter Try.func10, Try.ntmps10
  go_wp2
  go_ret
  exact ⟨rfl, rfl⟩
theorem Sig_nil (n : Int) (w : World) : Calls Try.prog 11 #[.pointer none, .int .i64 n] w fun e w' => e = .returned (.tuple #[.int .u64 0, .bool false]) ∧ w = w' := by
  by_cases hn : n < 0
  · go_enter Try.func11, Try.ntmps11
    go_wp2_with (go_at_call 10; refine (Len_nil _).mono ?_; rintro e w' ⟨rfl, rfl⟩)
    go_ret2
    exact ⟨rfl, rfl⟩
  · have h0 : decide (n < 0) = false := decide_eq_false hn
    have h1 : decide (0 ≤ n) = true := decide_eq_true (by omega)
    go_enter Try.func11, Try.ntmps11
    go_wp2_with (go_at_call 10; refine (Len_nil _).mono ?_; rintro e w' ⟨rfl, rfl⟩)
    go_ret2
    exact ⟨rfl, rfl⟩
theorem Sig_no (h : GAt w own p sv m1 m2 S ed b) (n : Int) (hn : ¬ (0 ≤ n ∧ n < S.length)) :
    Calls Try.prog 11 #[.pointer (some ⟨p, 0, none⟩), .int .i64 n] w fun e w' => e = .returned (.tuple #[.int .u64 0, .bool false]) ∧ w = w' := by
  have CL := Lib.hid (Len_any h)
  clear h
  by_cases h0 : n < 0
  · have h1 : decide (n < 0) = true := decide_eq_true h0
    go_enter Try.func11, Try.ntmps11
    go_wp2_with (go_at_call 10; refine CL.out.mono ?_; rintro e w' ⟨rfl, rfl⟩)
    go_ret2
    exact ⟨rfl, rfl⟩
  · have h1 : decide (n < 0) = false := decide_eq_false h0
    have h2 : decide ((S.length : Int) ≤ n) = true := decide_eq_true (by omega)
    go_enter Try.func11, Try.ntmps11
    go_wp2_with (go_at_call 10; refine CL.out.mono ?_; rintro e w' ⟨rfl, rfl⟩)
    go_ret2
    exact ⟨rfl, rfl⟩
theorem Sig_yes (h : GAt w own p sv m1 m2 S ed b) (i s : Nat) (hi : S[i]? = some s) :
    Calls Try.prog 11 #[.pointer (some ⟨p, 0, none⟩), .int .i64 i] w fun e w' => e = .returned (.tuple #[.int .u64 s, .bool true]) ∧ w = w' := by
  have CL := Lib.hid (Len_any h)
  obtain ⟨A, c, rfl, _, _, hr⟩ := own_openG h.row
  have hlt := (List.getElem?_eq_some_iff.1 hi).1
  obtain ⟨g, rfl, hg, hc⟩ := hr (by omega)
  have c0 := h.c0
  have k := hc i hlt
  rw [setsV_get hi] at k
  have h1 : decide ((i : Int) < 0) = false := decide_eq_false (by omega)
  have h2 : decide ((S.length : Int) ≤ (i : Int)) = false := decide_eq_false (by omega)
  have h3 : decide (S.length ≤ i) = false := decide_eq_false (by omega)
  clear h hc hi hr
  go_enter Try.func11, Try.ntmps11
  go_wp2_with (go_at_call 10; refine CL.out.mono ?_; rintro e w' ⟨rfl, rfl⟩)
  go_ret2
  exact ⟨rfl, rfl⟩
theorem Find_nil (s : Nat) (w : World) : Calls Try.prog 12 #[.pointer none, .int .u64 s] w fun e w' => e = .returned (.tuple #[.int .i64 0, .bool false]) ∧ w = w' := by
  go_enter Try.func12, Try.ntmps12
  go_wp2
  go_ret2
  exact ⟨rfl, rfl⟩
/-- Find's answer: a place, and whether there is one. -/
def fndV (o : Option Nat) : Value := .tuple #[(atV o).getD (.int .i64 0), .bool (atV o).isSome]
theorem Find_any (h : GAt w own p sv m1 m2 S ed b) (s : Nat) (hs : s < 18446744073709551616) :
    Calls Try.prog 12 #[.pointer (some ⟨p, 0, none⟩), .int .u64 s] w fun e w' => e = .returned (fndV (ixS S s)) ∧ w = w' := by
  have L := h.look1 hs
  have c1 := h.c1
  unfold fndV
  obtain ⟨x, hx⟩ : ∃ x, x = (atV (ixS S s)).getD (.int .i64 0) := ⟨_, rfl⟩
  obtain ⟨y, hy⟩ : ∃ y, y = (atV (ixS S s)).isSome := ⟨_, rfl⟩
  rw [← hx, ← hy] at L ⊢
  clear h hx hy
  go_enter Try.func12, Try.ntmps12
  go_wp2
  go_ret2
  exact ⟨rfl, rfl⟩
end
end Go.Proofs.Ytigiepmmgghjlaa
