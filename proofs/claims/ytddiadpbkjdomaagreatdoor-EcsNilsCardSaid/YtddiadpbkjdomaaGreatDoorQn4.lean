/- GrP1, GrP2, BitsO, BitsWo, GrP3, GrP4, BitsWi, BitsAp -/
import Derived.Test.YtddiadpbkjdomaaGreatDoorQn3
import Derived.BigQuiet
import Derived.Deep.QuietTactic
import Derived.WalkSmall
import Derived.Laws.BitsAllLaws
import Derived.Laws.Bits128
import Derived.Deep.WholeRow
namespace Go.Proofs.YtddiadpbkjdomaaGreatDoor
set_option maxRecDepth 20000
open Go.RowKit

theorem setsT : El Tryz.prog 129 26 (.int .u64 0) 1 8 := ⟨Tryz.underlying129, by kernel_rfl, rfl, by decide⟩
theorem graphT : RT Tryz.prog 192 3 := ⟨⟨_, Tryz.underlying192, rfl⟩, by kernel_rfl⟩
/-- Sets as cells. -/
def setsV (S : List Nat) : List Value := S.map fun s : Nat => .int .u64 (s : Int)
theorem setsV_len (S : List Nat) : (setsV S).length = S.length := by simp [setsV]
theorem setsV_get {S : List Nat} {i s : Nat} (h : S[i]? = some s) : (setsV S)[i]? = some (.int .u64 (s : Int)) := by simp [setsV, h]
theorem setsV_snoc (S : List Nat) (s : Nat) : setsV (S ++ [s]) = setsV S ++ [.int .u64 (s : Int)] := by simp [setsV]
/-- A place, if there is one, as a map has it. -/
def atV (o : Option Nat) : Option Value := o.map fun i => .int .i64 (i : Int)

/-! ### the keys of both maps -/
theorem kfS : Kf Tryz.prog 26 (fun s : Nat => .int .u64 (s : Int)) litU okU := kfU Tryz.underlying26
theorem laidOutG : laidOutB Tryz.prog = true := by kernel_rfl
theorem lawE : WideMaps.KeyLaw Tryz.prog 252 := deep_law_laid laidOutG (m := 2) (by omega) (of_decide_eq_true (by kernel_rfl)) (by kernel_rfl) (by kernel_rfl)
def valE (x : Int × Int) : Value := .agg #[.int .i64 x.1, .int .i64 x.2]
def litE (x : Int × Int) : Lit := .string (keyBytes [.int .i64 x.1, .int .i64 x.2])
def okE (x : Int × Int) : Prop := (Lit.int .i64 x.1).wf = true ∧ (Lit.int .i64 x.2).wf = true
theorem keyE {x : Int × Int} (h : okE x) : keyOf Tryz.prog 252 (valE x) = some (litE x) := by
  obtain ⟨a, b⟩ := x
  obtain ⟨h1, h2⟩ := h
  simp only at h1 h2
  have hk : Tryz.prog.keyType 252 = true := by kernel_rfl
  have hc : Tryz.prog.cellsOf 252 = 2 := by kernel_rfl
  have hc1 : Tryz.prog.cellsOf 3 = 1 := by kernel_rfl
  obtain ⟨D, hD⟩ : ∃ D, Tryz.prog.types.size = D + 1 := ⟨Tryz.prog.types.size - 1, by have : 0 < Tryz.prog.types.size := of_decide_eq_true (by kernel_rfl); omega⟩
  have hf : (valE (a, b)).formed Tryz.prog 252 = true := by simp [valE, Value.formed, Tryz.underlying252, hc]
  have hl : Tryz.prog.keyLits (Tryz.prog.types.size + 1) 252 (valE (a, b)).cells.toList = some [.int .i64 a, .int .i64 b] := by
    rw [hD]
    simp [Program.keyLits, Tryz.underlying252, Tryz.underlying3, valE, Value.cells, hc, hc1, h1, h2]
  simp only [keyOf, Tryz.underlying252, hk, hf, hl, Bool.and_self, if_true, Option.map_some]
  rfl
theorem kfE : Kf Tryz.prog 252 valE litE okE where
  law := Maps.Keyed.of_law lawE
  key h := keyE h
  inj {i j} hi hj e := by
    have := (Maps.Keyed.of_law lawE).inj (keyE hi) (by rw [e]; exact keyE hj)
    obtain ⟨a, b⟩ := i
    obtain ⟨c, d⟩ := j
    simp [valE] at this
    rw [this.1, this.2]

/-- A graph at block p: its sets in sv, their places in m1, what leads where in m2. -/
structure GAt (w : World) (own : Nat → Prop) (p : Nat) (sv : Value) (m1 m2 : Nat) (S : List Nat) (ed : Int × Int → Option Nat) (b : Nat) : Prop where
  blk : Rec 192 w p #[sv, .map (some m1), .map (some m2)]
  row : w.ownsRow 0 26 1 sv S.length (setsV S)
  nodes : MapF Tryz.prog 26 litU okU (.int .i64 0) w m1 S.length (fun s => atV (ixS S s))
  edges : MapF Tryz.prog 252 litE okE (.int .i64 0) w m2 b (fun x => atV (ed x))
  two : m1 ≠ m2
  ownp : own p
  own1 : own m1
  own2 : own m2
  ownv : ∀ x, sv.ownBlock = some x → own x
  ok : SOk S
  edok : ∀ n c m, ed (n, c) = some m → ∃ (i s t : Nat), n = (i : Int) ∧ S[i]? = some s ∧ S[m]? = some t ∧ Beside s t c

section
variable {w w' : World} {own own' : Nat → Prop} {p m1 m2 b : Nat} {sv : Value} {S : List Nat} {ed : Int × Int → Option Nat}
theorem own_openG {w : World} {B e n : Nat} {v : Value} {xs : List Value} (h : w.ownsRow B e 1 v n xs) :
    ∃ A c, v = .slice A n c ∧ n ≤ c ∧ c ≤ maxLen ∧ (0 < n → ∃ g, A = some ⟨g, 0, none⟩ ∧ g < w.heap.size ∧ (∀ j, j < n → w.cell? ⟨g, j, none⟩ = xs[j]?)) := by
  have h' := h
  rcases h.2 with ⟨hv, h0⟩ | ⟨g, cap, cur, rfl, _, hh, hn, hc, _, _⟩
  · exact ⟨none, 0, by rw [hv, h0], by omega, by unfold maxLen; omega, fun hp => by omega⟩
  · exact ⟨_, cap, rfl, hn, hc, fun _ => ⟨g, rfl, (Array.getElem?_eq_some_iff.1 hh).1, fun j hj => h'.cellAt j (by omega)⟩⟩
theorem GAt.c0 (h : GAt w own p sv m1 m2 S ed b) : w.cell? ⟨p, 0, none⟩ = some sv := h.blk.at_ 0
theorem GAt.c1 (h : GAt w own p sv m1 m2 S ed b) : w.cell? ⟨p, 1, none⟩ = some (.map (some m1)) := h.blk.at_ 1
theorem GAt.c2 (h : GAt w own p sv m1 m2 S ed b) : w.cell? ⟨p, 2, none⟩ = some (.map (some m2)) := h.blk.at_ 2
theorem GAt.kept (h : GAt w own p sv m1 m2 S ed b) (hf : Fr own' w w') (hd : ∀ x, own x → ¬ own' x) : GAt w' own p sv m1 m2 S ed b :=
  { h with
    blk := h.blk.fr hf (hd p h.ownp)
    row := own_fr h.row hf (fun x hx => hd x (h.ownv x hx))
    nodes := h.nodes.fr hf (hd m1 h.own1)
    edges := h.edges.fr hf (hd m2 h.own2) }
theorem GAt.below (h : GAt w own p sv m1 m2 S ed b) (hb : Below w.heap.size w w') : GAt w' own p sv m1 m2 S ed b := h.kept (own' := fun _ => False) (Fr.ofBelow _ hb) (fun _ _ hx => hx)

theorem zeroI (w : World) : (zeroValue 3).run Tryz.prog w = .ok (.int .i64 0) w := by kernel_rfl
theorem GAt.look1 (h : GAt w own p sv m1 m2 S ed b) {s : Nat} (hs : s < 18446744073709551616) :
    (Instr.lookup 189 (.map (some m1)) (.int .u64 (s : Int)) true).run Tryz.prog w = .ok (.tuple #[(atV (ixS S s)).getD (.int .i64 0), .bool (atV (ixS S s)).isSome]) w :=
  h.nodes.look_ok kfS Tryz.underlying189 (zeroI w) (i := s) hs
theorem GAt.look2 (h : GAt w own p sv m1 m2 S ed b) {n c : Int} (hn : (Lit.int .i64 n).wf = true) (hc : (Lit.int .i64 c).wf = true) :
    (Instr.lookup 190 (.map (some m2)) (.agg #[.int .i64 n, .int .i64 c]) true).run Tryz.prog w = .ok (.tuple #[(atV (ed (n, c))).getD (.int .i64 0), .bool (atV (ed (n, c))).isSome]) w :=
  h.edges.look_ok kfE Tryz.underlying190 (zeroI w) (i := (n, c)) ⟨hn, hc⟩

theorem Len_nil (w : World) : Calls Tryz.prog 139 #[.pointer none] w fun e w' => e = .returned (.int .i64 0) ∧ w = w' := by
  go_enter Tryz.func139, Tryz.ntmps139
  go_wp2
  go_ret
  exact ⟨rfl, rfl⟩
theorem Len_any (h : GAt w own p sv m1 m2 S ed b) : Calls Tryz.prog 139 #[.pointer (some ⟨p, 0, none⟩)] w fun e w' => e = .returned (.int .i64 S.length) ∧ w = w' := by
  obtain ⟨A, c, rfl, _, _, _⟩ := own_openG h.row
  have c0 := h.c0
  clear h
  go_enter Tryz.func139, Tryz.ntmps139
  go_wp2
  go_ret
  exact ⟨rfl, rfl⟩
theorem Sig_nil (n : Int) (w : World) : Calls Tryz.prog 133 #[.pointer none, .int .i64 n] w fun e w' => e = .returned (.tuple #[.int .u64 0, .bool false]) ∧ w = w' := by
  by_cases hn : n < 0
  · go_enter Tryz.func133, Tryz.ntmps133
    go_wp2_with (go_at_call 139; refine (Len_nil _).mono ?_; rintro e w' ⟨rfl, rfl⟩)
    go_ret2
    exact ⟨rfl, rfl⟩
  · have h0 : decide (n < 0) = false := decide_eq_false hn
    have h1 : decide (0 ≤ n) = true := decide_eq_true (by omega)
    go_enter Tryz.func133, Tryz.ntmps133
    go_wp2_with (go_at_call 139; refine (Len_nil _).mono ?_; rintro e w' ⟨rfl, rfl⟩)
    go_ret2
    exact ⟨rfl, rfl⟩
theorem Sig_no (h : GAt w own p sv m1 m2 S ed b) (n : Int) (hn : ¬ (0 ≤ n ∧ n < S.length)) :
    Calls Tryz.prog 133 #[.pointer (some ⟨p, 0, none⟩), .int .i64 n] w fun e w' => e = .returned (.tuple #[.int .u64 0, .bool false]) ∧ w = w' := by
  have CL := Lib.hid (Len_any h)
  clear h
  by_cases h0 : n < 0
  · have h1 : decide (n < 0) = true := decide_eq_true h0
    go_enter Tryz.func133, Tryz.ntmps133
    go_wp2_with (go_at_call 139; refine CL.out.mono ?_; rintro e w' ⟨rfl, rfl⟩)
    go_ret2
    exact ⟨rfl, rfl⟩
  · have h1 : decide (n < 0) = false := decide_eq_false h0
    have h2 : decide ((S.length : Int) ≤ n) = true := decide_eq_true (by omega)
    go_enter Tryz.func133, Tryz.ntmps133
    go_wp2_with (go_at_call 139; refine CL.out.mono ?_; rintro e w' ⟨rfl, rfl⟩)
    go_ret2
    exact ⟨rfl, rfl⟩
theorem Sig_yes (h : GAt w own p sv m1 m2 S ed b) (i s : Nat) (hi : S[i]? = some s) :
    Calls Tryz.prog 133 #[.pointer (some ⟨p, 0, none⟩), .int .i64 i] w fun e w' => e = .returned (.tuple #[.int .u64 s, .bool true]) ∧ w = w' := by
  have CL := Lib.hid (Len_any h)
  obtain ⟨A, c, rfl, _, _, hr⟩ := own_openG h.row
  have hlt := (List.getElem?_eq_some_iff.1 hi).1
  obtain ⟨g, rfl, hg, hc⟩ := hr (by omega)
  have c0 := h.c0
  have k := hc i hlt
  rw [setsV_get hi] at k
  have h1 : decide ((i : Int) < 0) = false := decide_eq_false (by omega)
  have h2 : decide ((S.length : Int) ≤ (i : Int)) = false := decide_eq_false (by omega)
  have h3 : decide (S.length ≤ i) = false := decide_eq_false (by omega)
  clear h hc hi hr
  go_enter Tryz.func133, Tryz.ntmps133
  go_wp2_with (go_at_call 139; refine CL.out.mono ?_; rintro e w' ⟨rfl, rfl⟩)
  go_ret2
  exact ⟨rfl, rfl⟩
/-- Find's answer: a place, and whether there is one. -/
def fndV (o : Option Nat) : Value := .tuple #[(atV o).getD (.int .i64 0), .bool (atV o).isSome]
end
end Go.Proofs.YtddiadpbkjdomaaGreatDoor
namespace Go.Proofs.YtddiadpbkjdomaaGreatDoor
set_option maxRecDepth 20000
open Go.RowKit

theorem own_tagG {w : World} {B e n : Nat} {v : Value} {xs : List Value} (h : w.ownsRow B e 1 v n xs) {x : Nat} (hx : v.ownBlock = some x) : ∃ C, w.heap[x]? = some (.cells C e (0, 0)) := by
  rcases h.2 with ⟨rfl, _⟩ | ⟨g, cap, cur, rfl, _, hh, _⟩
  · cases hx
  · simp [Value.ownBlock] at hx
    subst hx
    exact ⟨_, hh⟩
theorem own_notG {w : World} {B e n q : Nat} {T : TypeId} {C : Array Value} {v : Value} {xs : List Value} (h : w.ownsRow B e 1 v n xs) (hq : w.heap[q]? = some (.cells C T (0, 0))) (hne : T ≠ e) : v.ownBlock ≠ some q := fun hx => by
  obtain ⟨D, hD⟩ := own_tagG h hx
  rw [hq] at hD
  injection hD with hD
  injection hD with _ h2
  exact hne h2
theorem own_notM {w : World} {B e n q : Nat} {es : Array MapEntry} {cl : Nat} {v : Value} {xs : List Value} (h : w.ownsRow B e 1 v n xs) (hq : w.heap[q]? = some (.map es cl)) : v.ownBlock ≠ some q := fun hx => by
  obtain ⟨D, hD⟩ := own_tagG h hx
  rw [hq] at hD
  cases hD
theorem rec_notM {w : World} {q p : Nat} {es : Array MapEntry} {cl : Nat} {T : TypeId} {C : Array Value} (h : Rec T w p C) (hq : w.heap[q]? = some (.map es cl)) : q ≠ p := fun e => by
  have h' : w.heap[p]? = some (.cells C T (0, 0)) := h
  rw [← e, hq] at h'
  cases h'

/-- A graph went on: only its own blocks turned. -/
def GGo (w : World) (own : Nat → Prop) (p m1 m2 : Nat) (S : List Nat) (ed : Int × Int → Option Nat) (b : Nat) (w' : World) : Prop :=
  Fr own w w' ∧ ∃ own' sv', (∀ x, own' x → own x ∨ w.heap.size ≤ x) ∧ (∀ x, own' x → x < w'.heap.size) ∧ GAt w' own' p sv' m1 m2 S ed b
theorem GGo.of {w w' : World} {own : Nat → Prop} {p m1 m2 b : Nat} {sv : Value} {S : List Nat} {ed : Int × Int → Option Nat} (dom : ∀ x, own x → x < w.heap.size) (hf : Fr own w w') (h : GAt w' own p sv m1 m2 S ed b) : GGo w own p m1 m2 S ed b w' :=
  ⟨hf, own, sv, fun _ hx => .inl hx, fun x hx => Nat.lt_of_lt_of_le (dom x hx) hf.size, h⟩
theorem GGo.pre {w w1 w2 : World} {own : Nat → Prop} {p m1 m2 b : Nat} {S : List Nat} {ed : Int × Int → Option Nat} (hb : Below w.heap.size w w1) (h : GGo w1 own p m1 m2 S ed b w2) : GGo w own p m1 m2 S ed b w2 := by
  obtain ⟨hf, own', sv', ho, hd⟩ := h
  exact ⟨(Fr.ofBelow own hb).trans hf, own', sv', fun x hx => (ho x hx).imp id (fun h => Nat.le_trans hb.size h), hd⟩

section
variable {w w' : World} {own own' : Nat → Prop} {p m1 m2 b : Nat} {sv : Value} {S : List Nat} {ed : Int × Int → Option Nat}

theorem Node_nil (s : Nat) (w : World) : Calls Tryz.prog 78 #[.pointer none, .int .u64 s] w fun e w' => e = .returned (.int .i64 (-1)) ∧ w = w' := by
  go_enter Tryz.func78, Tryz.ntmps78
  go_wp2
  go_ret
  exact ⟨rfl, rfl⟩
theorem Node_old (h : GAt w own p sv m1 m2 S ed b) (s i : Nat) (hs : s < 18446744073709551616) (hi : ixS S s = some i) :
    Calls Tryz.prog 78 #[.pointer (some ⟨p, 0, none⟩), .int .u64 s] w fun e w' => e = .returned (.int .i64 i) ∧ w = w' := by
  have L : (Instr.lookup 189 (.map (some m1)) (.int .u64 (s : Int)) true).run Tryz.prog w = .ok (.tuple #[.int .i64 i, .bool true]) w := by
    have := h.look1 hs
    rw [hi] at this
    exact this
  have c1 := h.c1
  clear h
  go_enter Tryz.func78, Tryz.ntmps78
  go_wp2
  go_ret
  exact ⟨rfl, rfl⟩

theorem atV_snoc {S : List Nat} {s : Nat} (hi : ixS S s = none) (j : Nat) : (if j = s then some (Value.int .i64 (S.length : Int)) else atV (ixS S j)) = atV (ixS (S ++ [s]) j) := by
  rw [ixS_snoc hi]
  by_cases e : j = s
  · rw [if_pos e, if_pos e]; rfl
  · rw [if_neg e, if_neg e]

/-- The world behind the append of one set, its store, and the update of the places. -/
theorem GAt.grew {wa w4 w5 : World} {v' : Value} {s : Nat} (dom : ∀ x, own x → x < wa.heap.size) (ha : GAt wa own p sv m1 m2 S ed b) (hs : s < 18446744073709551616) (hi : ixS S s = none)
    (ho4 : w4.ownsRow 0 26 1 v' (S.length + 1) (setsV S ++ [.int .u64 (s : Int)])) (hg4 : wa.grownBy w4 sv.ownBlock) (hloc : v'.ownBlock = sv.ownBlock ∨ v'.ownBlock = some wa.heap.size) (hw5 : w5 = w4.setCell ⟨p, 0, none⟩ v') :
    MapF Tryz.prog 26 litU okU (.int .i64 0) w5 m1 S.length (fun s => atV (ixS S s)) ∧
    ∀ w6, MapF Tryz.prog 26 litU okU (.int .i64 0) w6 m1 (S.length + 1) (fun j => if j = s then some (.int .i64 (S.length : Int)) else atV (ixS S j)) → w5.grownBy w6 (some m1) → GGo wa own p m1 m2 (S ++ [s]) ed b w6 := by
  obtain ⟨es1, cl1, hm1⟩ := ha.nodes.map_at
  obtain ⟨es2, cl2, hm2⟩ := ha.edges.map_at
  have np : sv.ownBlock ≠ some p := own_notG ha.row ha.blk (by decide)
  have n1 : sv.ownBlock ≠ some m1 := own_notM ha.row hm1
  have n2 : sv.ownBlock ≠ some m2 := own_notM ha.row hm2
  have q1 : m1 ≠ p := rec_notM ha.blk hm1
  have q2 : m2 ≠ p := rec_notM ha.blk hm2
  have hR4 : Rec 192 w4 p #[sv, .map (some m1), .map (some m2)] := ha.blk.block (hg4.block p ha.blk.lt (fun e => np e.symm))
  have hN4 := ha.nodes.block (hg4.block m1 ha.nodes.lt (fun e => n1 e.symm))
  have hE4 := ha.edges.block (hg4.block m2 ha.edges.lt (fun e => n2 e.symm))
  have f5 : Fr (· = p) w4 w5 := by rw [hw5]; exact Fr.setCell (own := (· = p)) w4 (p := ⟨p, 0, none⟩) rfl _
  have hR5 : Rec 192 w5 p #[v', .map (some m1), .map (some m2)] := by rw [hw5]; exact hR4.set 0 v'
  have hv4 : v'.ownBlock ≠ some p := own_notG ho4 hR4 (by decide)
  have hO5 := own_fr ho4 f5 (fun x hx e => hv4 (by rw [hx, show x = p from e]))
  have hN5 := hN4.fr f5 (fun e => q1 e)
  have hE5 := hE4.fr f5 (fun e => q2 e)
  have F4 : Fr own wa w4 := Fr.grown hg4 (fun x hx => ha.ownv x hx)
  have F5 : Fr own wa w5 := F4.trans' f5 (fun x hx => .inl (by rw [show x = p from hx]; exact ha.ownp))
  refine ⟨hN5, fun w6 hN6 hg6 => ?_⟩
  obtain ⟨es5, cl5, hm5⟩ := hN5.map_at
  have nv5 : v'.ownBlock ≠ some m1 := own_notM hO5 hm5
  have F6 : Fr own wa w6 := F5.trans' (Fr.grown (own := (· = m1)) hg6 (fun x hx => by injection hx with hx; exact hx.symm)) (fun x hx => .inl (by rw [show x = m1 from hx]; exact ha.own1))
  have f6 : Fr (· = m1) w5 w6 := Fr.grown hg6 (fun x hx => by injection hx with hx; exact hx.symm)
  refine ⟨F6, fun x => own x ∨ v'.ownBlock = some x, v', fun x hx => ?_, fun x hx => ?_, ?_⟩
  · rcases hx with hx | hx
    · exact .inl hx
    · rcases hloc with h | h
      · exact .inl (ha.ownv x (by rw [← h]; exact hx))
      · rw [h] at hx
        injection hx with hx
        exact .inr (by omega)
  · rcases hx with hx | hx
    · exact Nat.lt_of_lt_of_le (dom x hx) F6.size
    · obtain ⟨C, hC⟩ := own_tagG hO5 hx
      exact Nat.lt_of_lt_of_le (Array.getElem?_eq_some_iff.1 hC).1 f6.size
  · exact {
      blk := hR5.fr f6 (fun e => q1 e.symm)
      row := by
        have := own_fr hO5 f6 (fun x hx e => nv5 (by rw [hx, show x = m1 from e]))
        rw [setsV_snoc, List.length_append]
        exact this
      nodes := by
        rw [List.length_append]
        exact hN6.congr (fun j _ => atV_snoc hi j)
      edges := hE5.fr f6 (fun e => ha.two e.symm)
      two := ha.two
      ownp := .inl ha.ownp
      own1 := .inl ha.own1
      own2 := .inl ha.own2
      ownv := fun x hx => .inr hx
      ok := ha.ok.snoc hs hi
      edok := fun n c m h => by
        obtain ⟨i, s', t, e1, e2, e3, e4⟩ := ha.edok n c m h
        exact ⟨i, s', t, e1, by rw [List.getElem?_append_left (List.getElem?_eq_some_iff.1 e2).1]; exact e2, by rw [List.getElem?_append_left (List.getElem?_eq_some_iff.1 e3).1]; exact e3, e4⟩ }

theorem Node_new (dom : ∀ x, own x → x < w.heap.size) (h : GAt w own p sv m1 m2 S ed b) (s : Nat) (hs : s < 18446744073709551616) (hi : ixS S s = none) (hpos : 0 < S.length) (hS : S.length ≤ 1000000) :
    Calls Tryz.prog 78 #[.pointer (some ⟨p, 0, none⟩), .int .u64 s] w fun e w' => e = .returned (.int .i64 S.length) ∧ GGo w own p m1 m2 (S ++ [s]) ed b w' := by
  obtain ⟨i0, hi0, hz0, hz1, hz2⟩ := info_parts setsT.info
  have L : (Instr.lookup 189 (.map (some m1)) (.int .u64 (s : Int)) true).run Tryz.prog w = .ok (.tuple #[.int .i64 0, .bool false]) w := by
    have := h.look1 hs
    rw [hi] at this
    exact this
  have c1 := h.c1
  have c0 := h.c0
  have hn0 : decide ((S.length : Int) = 0) = false := decide_eq_false (by omega)
  have hn1 : decide (S.length = 0) = false := decide_eq_false (by omega)
  have hn2 : ¬ S = [] := fun e => by rw [e] at hpos; exact absurd hpos (by decide)
  have hn3 : decide (S = []) = false := decide_eq_false hn2
  obtain ⟨wa, hwa⟩ : ∃ wa, wa = w.alloc (.cells #[.int .u64 (s : Int)] 26) := ⟨_, rfl⟩
  have ba : Below w.heap.size w wa := by rw [hwa]; exact (Below.refl _ _).alloc (Nat.le_refl _) _
  have ha := h.below ba
  have a0 := ha.c0
  have a1 := ha.c1
  have ho := ha.row
  have hcell : ∀ j u, [Value.int .u64 (s : Int)][j]? = some u → wa.cell? ((⟨w.heap.size, 0, none⟩ : Addr).add j) = some u := by rw [hwa]; exact cell_one_new _ _ _
  have hsz : w.heap.size < wa.heap.size := by rw [hwa]; simp
  obtain ⟨A, c, rfl, _, _, _⟩ := own_openG h.row
  have HA := Lib.hid ha
  have HO := Lib.hid ho
  have HC := Lib.hid hcell
  have HB := Lib.hid ba
  have HD := Lib.hid dom
  have HNEW := Lib.hid hi
  have HOK := Lib.hid h.ok
  have HS := Lib.hid (setsV_snoc S s)
  clear h ha ho hcell ba dom hi
  go_enter Tryz.func78, Tryz.ntmps78
  go_wp2_with (first
    | (rw [← hwa]; clear hwa)
    | (at_builtin; refine wpList_append_own_at _ rfl _ _ 129 rfl 0 26 i0 (.int .u64 0) 1 8 Tryz.underlying129 hi0 hz0 hz1 hz2 rfl (by decide) _ _ _ rfl HO.out ⟨w.heap.size, 0, none⟩ 1 1 [.int .u64 (s : Int)] rfl rfl HC.out (fun u hu => by rw [List.mem_singleton.1 hu]; rfl) (by unfold maxLen; omega) (by omega) (Nat.zero_le _) ?_; intro v' w4 ho4 hg4 _ hloc; obtain ⟨A4, c4, rfl, _, _, _⟩ := own_openG ho4; have hR4 := HA.out.blk.block (hg4.block p HA.out.blk.lt (fun e => own_notG HO.out HA.out.blk (by decide) e.symm)); have k0 : w4.cell? ⟨p, 0, none⟩ = _ := hR4.at_ 0; have k1 : w4.cell? ⟨p, 1, none⟩ = _ := hR4.at_ 1; have z0 : w4.frozen? ⟨p, 0, none⟩ = false := hR4.fz 0; have HO4 := Lib.hid ho4; have HG4 := Lib.hid hg4; have HL4 := Lib.hid hloc; have HR4 := Lib.hid hR4; clear ho4 hg4 hloc hR4)
    | (at_mapUpdate; refine wpList_putF kfS Tryz.underlying189 (by rfl) (.tmp 49) (.tmp 50) (.tmp 51) rfl (HA.out.grew (fun x hx => Nat.lt_of_lt_of_le (HD.out x hx) HB.out.size) hs HNEW.out HO4.out HG4.out HL4.out rfl).1 (by omega) s hs (.int .i64 S.length) rfl rfl rfl ?_; intro w6 hN6 hg6; have HG6 := Lib.hid (GGo.pre HB.out ((HA.out.grew (fun x hx => Nat.lt_of_lt_of_le (HD.out x hx) HB.out.size) hs HNEW.out HO4.out HG4.out HL4.out rfl).2 w6 hN6 hg6)); clear hN6 hg6))
  go_ret
  exact ⟨rfl, HG6.out⟩

theorem Node_any (dom : ∀ x, own x → x < w.heap.size) (h : GAt w own p sv m1 m2 S ed b) (s : Nat) (hs : s < 18446744073709551616) (hpos : 0 < S.length) (hS : S.length ≤ 1000000) :
    Calls Tryz.prog 78 #[.pointer (some ⟨p, 0, none⟩), .int .u64 s] w fun e w' => e = .returned (.int .i64 ((gNode S s).2 : Nat)) ∧ GGo w own p m1 m2 (gNode S s).1 ed b w' := by
  cases hi : ixS S s with
  | some i =>
    rw [gNode_some hi]
    refine (Node_old h s i hs hi).mono ?_
    rintro e w' ⟨rfl, rfl⟩
    exact ⟨rfl, GGo.of dom (Fr.refl _ _) h⟩
  | none =>
    rw [gNode_none hi]
    exact Node_new dom h s hs hi hpos hS

theorem GGo.preF {w1 w2 : World} (hb : Fr own w w1) (h : GGo w1 own p m1 m2 S ed b w2) : GGo w own p m1 m2 S ed b w2 := by
  obtain ⟨hf, own', sv', ho, hd⟩ := h
  exact ⟨hb.trans hf, own', sv', fun x hx => (ho x hx).imp id (fun h => Nat.le_trans hb.size h), hd⟩
/-- Whose blocks a new graph's are. -/
def ownZ (p g : Nat) (x : Nat) : Prop := x = p ∨ x = g ∨ x = g + 1
theorem GAt.start {w w2 w3 : World} {p : Nat} (hR : Rec 192 w p #[.slice none 0 0, .map none, .map none])
    (hw2 : w2 = (w.setCell ⟨p, 1, none⟩ (.map (some w.heap.size))).setCell ⟨p, 2, none⟩ (.map (some (w.heap.size + 1)))) (hw3 : w3 = (w2.alloc (.map #[] 0)).alloc (.map #[] 0)) :
    w3.heap.size = w.heap.size + 2 ∧ Fr (ownZ p w.heap.size) w w3 ∧ GAt w3 (ownZ p w.heap.size) p (.slice none 0 0) w.heap.size (w.heap.size + 1) [] (fun _ => none) 0 := by
  have s2 : w2.heap.size = w.heap.size := by rw [hw2]; simp [World.setCell]
  have s3 : w3.heap.size = w.heap.size + 2 := by rw [hw3]; simp [s2]
  have f2 : Fr (· = p) w w2 := by rw [hw2]; exact (Fr.setCell (own := (· = p)) w (p := ⟨p, 1, none⟩) rfl _).trans (Fr.setCell (own := (· = p)) _ (p := ⟨p, 2, none⟩) rfl _)
  have r2 : Rec 192 w2 p #[.slice none 0 0, .map (some w.heap.size), .map (some (w.heap.size + 1))] := by rw [hw2]; exact (hR.set 1 _).set 2 _
  have b3 : Below w2.heap.size w2 w3 := by rw [hw3]; exact ((Below.refl _ _).alloc (Nat.le_refl _) _).alloc (by simp) _
  have g1 : MapF Tryz.prog 26 litU okU (.int .i64 0) w3 w.heap.size 0 (fun s => atV (ixS [] s)) := by
    have h := MapF.made Tryz.prog 26 litU okU (.int .i64 0) w2
    rw [s2] at h
    rw [hw3]
    exact (h.below ((Below.refl _ _).alloc (Nat.le_refl _) _)).congr (fun _ _ => rfl)
  have g2 : MapF Tryz.prog 252 litE okE (.int .i64 0) w3 (w.heap.size + 1) 0 (fun x => atV none) := by
    have h := MapF.made Tryz.prog 252 litE okE (.int .i64 0) (w2.alloc (.map #[] 0))
    rw [World.size_alloc, s2] at h
    rw [hw3]
    exact h.congr (fun _ _ => rfl)
  refine ⟨s3, (f2.mono (fun x hx => .inl hx)).trans (Fr.ofBelow _ b3), ?_⟩
  exact {
    blk := r2.under b3
    row := World.ownsRow_nil _ _ _ _
    nodes := g1
    edges := g2
    two := by omega
    ownp := .inl rfl
    own1 := .inr (.inl rfl)
    own2 := .inr (.inr rfl)
    ownv := fun x hx => by cases hx
    ok := SOk.nil
    edok := fun _ _ _ h => by cases h }

/-- The first node, in a graph that is all zeros. -/
theorem Node_zero (p : Nat) (w : World) (hR : Rec 192 w p #[.slice none 0 0, .map none, .map none]) :
    Calls Tryz.prog 78 #[.pointer (some ⟨p, 0, none⟩), .int .u64 0] w fun e w' => e = .returned (.int .i64 0) ∧ GGo w (ownZ p w.heap.size) p w.heap.size (w.heap.size + 1) [0] (fun _ => none) 0 w' := by
  obtain ⟨i0, hi0, hz0, hz1, hz2⟩ := info_parts setsT.info
  have L : (Instr.lookup 189 (.map none) (.int .u64 0) true).run Tryz.prog w = .ok (.tuple #[.int .i64 0, .bool false]) w := look_none kfS Tryz.underlying189 (zeroI w) (i := 0) (by unfold okU; decide)
  have c0 : w.cell? ⟨p, 0, none⟩ = some (.slice none 0 0) := hR.at_ 0
  have c1 : w.cell? ⟨p, 1, none⟩ = some (.map none) := hR.at_ 1
  have c2 : w.cell? ⟨p, 2, none⟩ = some (.map none) := hR.at_ 2
  have z1 : w.frozen? ⟨p, 1, none⟩ = false := hR.fz 1
  have z2 : w.frozen? ⟨p, 2, none⟩ = false := hR.fz 2
  have hp := hR.lt
  have hmm := @run_makeMap Tryz.prog
  obtain ⟨w2, hw2⟩ : ∃ w2, w2 = (w.setCell ⟨p, 1, none⟩ (.map (some w.heap.size))).setCell ⟨p, 2, none⟩ (.map (some (w.heap.size + 1))) := ⟨_, rfl⟩
  obtain ⟨w3, hw3⟩ : ∃ w3, w3 = (w2.alloc (.map #[] 0)).alloc (.map #[] 0) := ⟨_, rfl⟩
  obtain ⟨wa, hwa⟩ : ∃ wa, wa = w3.alloc (.cells #[.int .u64 0] 26) := ⟨_, rfl⟩
  obtain ⟨s3, F3, G3⟩ := GAt.start hR hw2 hw3
  have hcell : ∀ j u, [Value.int .u64 0][j]? = some u → wa.cell? ((⟨w.heap.size + 1 + 1, 0, none⟩ : Addr).add j) = some u := by
    have := cell_one_new w3 (.int .u64 0) 26
    rw [s3] at this
    rw [hwa]
    exact this
  have ba : Below w3.heap.size w3 wa := by rw [hwa]; exact (Below.refl _ _).alloc (Nat.le_refl _) _
  have ga := G3.below ba
  have sa : w.heap.size + 2 ≤ wa.heap.size := by have := ba.size; omega
  have Fa := F3.trans (Fr.ofBelow (ownZ p w.heap.size) ba)
  have dom : ∀ x, ownZ p w.heap.size x → x < wa.heap.size := fun x hx => by rcases hx with h | h | h <;> omega
  have e2 : ((w.setCell ⟨p, 1, none⟩ (.map (some w.heap.size))).setCell ⟨p, 2, none⟩ (.map (some (w.heap.size + 1)))) = w2 := hw2.symm
  have e3 : ((w2.alloc (.map #[] 0)).alloc (.map #[] 0)) = w3 := hw3.symm
  have hx0 : ixS [] 0 = none := rfl
  have HA := Lib.hid ga
  have HO := Lib.hid ga.row
  have HC := Lib.hid hcell
  have HF := Lib.hid Fa
  have HD := Lib.hid dom
  have HE := Lib.hid (And.intro e2 (And.intro e3 hwa.symm))
  clear ga hcell Fa dom e2 e3 hwa hw2 hw3 ba G3 F3 s3 hR
  go_enter Tryz.func78, Tryz.ntmps78
  go_wp2_with (first
    | (rw [HE.out.1, HE.out.2.1, HE.out.2.2])
    | (at_builtin; refine wpList_append_own_at _ rfl _ _ 129 rfl 0 26 i0 (.int .u64 0) 1 8 Tryz.underlying129 hi0 hz0 hz1 hz2 rfl (by decide) _ _ _ rfl HO.out ⟨w.heap.size + 1 + 1, 0, none⟩ 1 1 [.int .u64 0] rfl rfl HC.out (fun u hu => by rw [List.mem_singleton.1 hu]; rfl) (by unfold maxLen; decide) (by decide) (Nat.zero_le _) ?_; intro v' w4 ho4 hg4 _ hloc; obtain ⟨A4, c4, rfl, _, _, _⟩ := own_openG ho4; have hR4 := HA.out.blk.block (hg4.block p HA.out.blk.lt (fun e => own_notG HO.out HA.out.blk (by decide) e.symm)); have k0 : w4.cell? ⟨p, 0, none⟩ = _ := hR4.at_ 0; have k1 : w4.cell? ⟨p, 1, none⟩ = _ := hR4.at_ 1; have z0 : w4.frozen? ⟨p, 0, none⟩ = false := hR4.fz 0; have HO4 := Lib.hid ho4; have HG4 := Lib.hid hg4; have HL4 := Lib.hid hloc; have HR4 := Lib.hid hR4; clear ho4 hg4 hloc hR4)
    | (at_mapUpdate; refine wpList_putF kfS Tryz.underlying189 (by rfl) (.tmp 49) (.tmp 50) (.tmp 51) rfl (HA.out.grew HD.out (by decide) hx0 HO4.out HG4.out HL4.out rfl).1 (by decide) 0 (by unfold okU; decide) (.int .i64 0) rfl rfl rfl ?_; intro w6 hN6 hg6; have HG6 := Lib.hid (GGo.preF HF.out ((HA.out.grew HD.out (by decide) hx0 HO4.out HG4.out HL4.out rfl).2 w6 hN6 hg6)); clear hN6 hg6))
  go_ret
  exact ⟨rfl, HG6.out⟩

theorem GNew_any (w : World) :
    Calls Tryz.prog 90 #[] w fun e w' => e = .returned (.pointer (some ⟨w.heap.size, 0, none⟩)) ∧ ∃ own m1 m2, (∀ x, own x → w.heap.size ≤ x) ∧ Below w.heap.size w w' ∧ GGo w own w.heap.size m1 m2 [0] (fun _ => none) 0 w' := by
  obtain ⟨w1, hw1⟩ : ∃ w1, w1 = w.alloc (.cells #[.slice none 0 0, .map none, .map none] 192) := ⟨_, rfl⟩
  have hb : Below w.heap.size w w1 := by rw [hw1]; exact (Below.refl _ _).alloc (Nat.le_refl _) _
  have hR : Rec 192 w1 w.heap.size #[.slice none 0 0, .map none, .map none] := by rw [hw1]; exact Rec.new _ _ _
  have C := Lib.hid (Node_zero w.heap.size w1 hR)
  have HB := Lib.hid hb
  clear hR hb
  go_enter Tryz.func90, Tryz.ntmps90
  go_wp2_with (first
    | (rw [← hw1]; clear hw1)
    | (go_at_call 78; refine C.out.mono ?_; rintro e w2 ⟨rfl, hG2⟩; have HG := Lib.hid hG2; clear hG2))
  go_ret
  have hh : ∀ x, ownZ w.heap.size w1.heap.size x → w.heap.size ≤ x := fun x hx => by
    have := HB.out.size
    rcases hx with h | h | h <;> omega
  exact ⟨rfl, _, _, _, hh, HB.out.trans (HG.out.1.toBelow hh HB.out.size), GGo.pre HB.out HG.out⟩
end
end Go.Proofs.YtddiadpbkjdomaaGreatDoor
namespace Go.Proofs.YtddiadpbkjdomaaGreatDoor
open Go.RowKit

theorem one_ird (w : World) (c : Int) : IRd (w.alloc (.cells #[.int .i64 c] 3)) (some ⟨w.heap.size, 0, none⟩) 1 [c] :=
  ⟨rfl, fun _ => ⟨w.heap.size, 0, rfl, by simp, fun j hj => by
    obtain rfl : j = 0 := by simp at hj; omega
    exact cell_of_row _ _ 0 _ _ _ (heap_alloc_last w _)⟩⟩
theorem Of_any (A : Option Addr) (n c : Nat) (zs : List Int) (w : World) (h : IRd w A n zs) (hn : n ≤ 1099511627776) :
    Calls Tryz.prog 136 #[.slice A n c] w fun e w' => e = .returned (.int .u64 (orL zs : Nat)) ∧ w = w' := by
  have H := Lib.hid h
  clear h
  go_enter Tryz.func136, Tryz.ntmps136
  go_wp2
  go_loop [3, 8] (fun v i => ∃ j : Nat, j ≤ n ∧ i = .int .i64 j ∧ v = .int .u64 (orL (zs.take j) : Nat)) (fun _ i => n - (intOf i).toNat)
  case atStart => exact ⟨0, Nat.zero_le _, rfl, rfl⟩
  case round =>
    obtain ⟨j, hj, rfl, rfl⟩ := hrel
    by_cases hjn : j < n
    · obtain ⟨b, o, hA, _, hc⟩ := H.out.2 (by omega)
      have hjl : j < zs.length := by rw [H.out.1]; exact hjn
      have k0 := hc j hjl
      obtain ⟨z, hz⟩ : ∃ z, z = zs.getD j 0 := ⟨_, rfl⟩
      rw [← hz] at k0
      have htk : zs.take (j + 1) = zs.take j ++ [z] := by
        rw [List.take_succ_eq_append_getElem hjl, hz, List.getD, List.getElem?_eq_getElem hjl]
        rfl
      have hs := orL_snoc (zs.take j) z
      rw [← htk] at hs
      have hlt := orL_lt (zs.take j)
      obtain ⟨s, hs'⟩ : ∃ s, s = orL (zs.take j) := ⟨_, rfl⟩
      obtain ⟨s2, hs2⟩ : ∃ s2, s2 = orL (zs.take (j + 1)) := ⟨_, rfl⟩
      rw [← hs', ← hs2] at hs
      rw [← hs'] at hlt ⊢
      subst hA
      clear hc hz htk hs'
      by_cases h0 : 0 ≤ z
      · by_cases h1 : z < 64
        · rw [if_pos ⟨h0, h1⟩] at hs
          have hp := two_lt (c := z.toNat) (by omega)
          have e1 : IntKind.u64.wrap (2 ^ z.toNat) = ((2 ^ z.toNat : Nat) : Int) := by
            rw [IntKind.wrap_u64]
            have : ((2 : Int) ^ z.toNat) = ((2 ^ z.toNat : Nat) : Int) := by simp
            rw [this]
            exact Int.emod_eq_of_lt (Int.natCast_nonneg _) (Int.ofNat_lt.2 hp)
          have e2 := u64_or_nat s (2 ^ z.toNat) hlt hp
          rw [← hs] at e2
          clear hs
          go_wp2
          go_round
          case rel =>
            have E2 := Lib.hid e2
            clear e1 e2 hp
            exact ⟨j + 1, hjn, by go_num, by rw [← hs2, ← E2.out, Int.natCast_pow]; rfl⟩
          case measure => simp [intOf]; omega
        · rw [if_neg (by omega)] at hs
          rw [hs] at hs2
          go_wp2
          go_round
          case rel => exact ⟨j + 1, hjn, by go_num, by rw [← hs2]⟩
          case measure => simp [intOf]; omega
      · rw [if_neg (by omega)] at hs
        rw [hs] at hs2
        go_wp2
        go_round
        case rel => exact ⟨j + 1, hjn, by go_num, by rw [← hs2]⟩
        case measure => simp [intOf]; omega
    · obtain rfl : j = n := by omega
      go_wp2
      go_ret
      rw [List.take_of_length_le (by rw [H.out.1]; exact Nat.le_refl _)]
      exact ⟨rfl, rfl⟩

theorem With_any (s : Nat) (c : Int) (w : World) (hs : s < 18446744073709551616) :
    Calls Tryz.prog 142 #[.int .u64 s, .int .i64 c] w fun e w' => e = .returned (.int .u64 (s ||| orL [c] : Nat)) ∧ Below w.heap.size w w' := by
  obtain ⟨w1, hw1⟩ : ∃ w1, w1 = w.alloc (.cells #[.int .i64 c] 3) := ⟨_, rfl⟩
  have hB : Below w.heap.size w w1 := by rw [hw1]; exact (Below.refl _ _).alloc (Nat.le_refl _) _
  have C := Lib.hid (Of_any (some ⟨w.heap.size, 0, none⟩) 1 1 [c] w1 (by rw [hw1]; exact one_ird w c) (by decide))
  have e2 := u64_or_nat s (orL [c]) hs (orL_lt _)
  have HB := Lib.hid hB
  obtain ⟨o, ho⟩ : ∃ o, o = orL [c] := ⟨_, rfl⟩
  rw [← ho] at C e2 ⊢
  clear hB ho
  go_enter Tryz.func142, Tryz.ntmps142
  go_wp2_with (rw [← hw1]; clear hw1)
  refine C.out.mono ?_
  rintro e w' ⟨rfl, rfl⟩
  go_wp2
  go_ret
  exact ⟨rfl, HB.out⟩

end Go.Proofs.YtddiadpbkjdomaaGreatDoor
namespace Go.Proofs.YtddiadpbkjdomaaGreatDoor
open Go.RowKit

theorem Without_any (s : Nat) (c : Int) (w : World) (hs : s < 18446744073709551616) :
    Calls Tryz.prog 145 #[.int .u64 s, .int .i64 c] w fun e w' => e = .returned (.int .u64 (butN s (orL [c]) : Nat)) ∧ Below w.heap.size w w' := by
  obtain ⟨w1, hw1⟩ : ∃ w1, w1 = w.alloc (.cells #[.int .i64 c] 3) := ⟨_, rfl⟩
  have hB : Below w.heap.size w w1 := by rw [hw1]; exact (Below.refl _ _).alloc (Nat.le_refl _) _
  have C := Lib.hid (Of_any (some ⟨w.heap.size, 0, none⟩) 1 1 [c] w1 (by rw [hw1]; exact one_ird w c) (by decide))
  have e2 := u64_andNot_nat s (orL [c]) hs (orL_lt _)
  have HB := Lib.hid hB
  unfold butN
  obtain ⟨o, ho⟩ : ∃ o, o = orL [c] := ⟨_, rfl⟩
  rw [← ho] at C e2 ⊢
  clear hB ho
  go_enter Tryz.func145, Tryz.ntmps145
  go_wp2_with (rw [← hw1]; clear hw1)
  refine C.out.mono ?_
  rintro e w' ⟨rfl, rfl⟩
  go_wp2
  go_ret
  exact ⟨rfl, HB.out⟩
end Go.Proofs.YtddiadpbkjdomaaGreatDoor
namespace Go.Proofs.YtddiadpbkjdomaaGreatDoor
set_option maxRecDepth 20000
open Go.RowKit

/-- What leads where, behind a join. -/
def edJoin (ed : Int × Int → Option Nat) (i j : Nat) (c : Int) (x : Int × Int) : Option Nat := if x = ((j : Int), c) then some i else if x = ((i : Int), c) then some j else ed x
theorem atV_join (ed : Int × Int → Option Nat) (i j : Nat) (c : Int) (x : Int × Int) :
    (if x = ((j : Int), c) then some (Value.int .i64 (i : Int)) else if x = ((i : Int), c) then some (.int .i64 (j : Int)) else atV (ed x)) = atV (edJoin ed i j c x) := by
  unfold edJoin
  by_cases h1 : x = ((j : Int), c)
  · rw [if_pos h1, if_pos h1]; rfl
  · rw [if_neg h1, if_neg h1]
    by_cases h2 : x = ((i : Int), c)
    · rw [if_pos h2, if_pos h2]; rfl
    · rw [if_neg h2, if_neg h2]

section
variable {w w' : World} {own own' : Nat → Prop} {p m1 m2 b : Nat} {sv : Value} {S : List Nat} {ed : Int × Int → Option Nat}

theorem GAt.wfI {i : Nat} (h : i ≤ 1000000) : (Lit.int .i64 (i : Int)).wf = true := WalkArith.wf_i64 (by omega)

theorem join_any (h : GAt w own p sv m1 m2 S ed b) (i j s t : Nat) (c : Int) (hi : S[i]? = some s) (hj : S[j]? = some t) (hbs : Beside s t c) (hS : S.length ≤ 1000000) (hb : b ≤ 1000000) :
    Calls Tryz.prog 172 #[.pointer (some ⟨p, 0, none⟩), .int .i64 i, .int .i64 j, .int .i64 c] w fun e w' => e = .returned (.tuple #[]) ∧ Fr own w w' ∧ GAt w' own p sv m1 m2 S (edJoin ed i j c) (b + 2) := by
  have hil := (List.getElem?_eq_some_iff.1 hi).1
  have hjl := (List.getElem?_eq_some_iff.1 hj).1
  have wi := GAt.wfI (i := i) (by omega)
  have wj := GAt.wfI (i := j) (by omega)
  have wc : (Lit.int .i64 c).wf = true := WalkArith.wf_i64 (by have := hbs.2.1; have := hbs.2.2.1; omega)
  have c2 := h.c2
  obtain ⟨es2, cl2, hm2⟩ := h.edges.map_at
  have q2 : m2 ≠ p := rec_notM h.blk hm2
  have HA := Lib.hid h
  have ME := Lib.hid h.edges
  clear h
  go_enter Tryz.func172, Tryz.ntmps172
  go_wp2_with (first
    | (at_mapUpdate; refine wpList_putF kfE Tryz.underlying190 (by rfl) (.tmp 11) (.tmp 14) (.tmp 15) rfl ME.out (by omega) ((i : Int), c) ⟨wi, wc⟩ (.int .i64 j) rfl rfl rfl ?_; intro w2 hM2 hg2; have f2 : Fr (· = m2) w w2 := (Fr.grown hg2 (fun x hx => by injection hx with hx; exact hx.symm)); have k2 : w2.cell? ⟨p, 2, none⟩ = some (.map (some m2)) := (HA.out.blk.fr f2 (fun e => q2 e.symm)).at_ 2; have M2 := Lib.hid hM2; have F2 := Lib.hid f2; clear hM2 hg2 f2)
    | (at_mapUpdate; refine wpList_putF kfE Tryz.underlying190 (by rfl) (.tmp 19) (.tmp 22) (.tmp 23) rfl M2.out (by omega) ((j : Int), c) ⟨wj, wc⟩ (.int .i64 i) rfl rfl rfl ?_; intro w3 hM3 hg3; have f3 : Fr (· = m2) w2 w3 := (Fr.grown hg3 (fun x hx => by injection hx with hx; exact hx.symm)); have M3 := Lib.hid hM3; have F3 := Lib.hid (F2.out.trans f3); clear hM3 hg3 f3))
  go_end0
  have h := HA.out
  have n2 : sv.ownBlock ≠ some m2 := own_notM h.row hm2
  refine ⟨rfl, F3.out.mono (fun x hx => by rw [show x = m2 from hx]; exact h.own2), ?_⟩
  exact {
    blk := h.blk.fr F3.out (fun e => q2 e.symm)
    row := own_fr h.row F3.out (fun x hx e => n2 (by rw [hx, show x = m2 from e]))
    nodes := h.nodes.fr F3.out (fun e => h.two e)
    edges := M3.out.congr (fun x _ => atV_join ed i j c x)
    two := h.two
    ownp := h.ownp
    own1 := h.own1
    own2 := h.own2
    ownv := h.ownv
    ok := h.ok
    edok := fun n c' m hm => by
      unfold edJoin at hm
      by_cases h1 : (n, c') = ((j : Int), c)
      · rw [if_pos h1] at hm
        injection h1 with h1 h2
        injection hm with hm
        subst hm
        rw [h2]
        exact ⟨j, t, s, h1, hj, hi, hbs.symm⟩
      · rw [if_neg h1] at hm
        by_cases h2 : (n, c') = ((i : Int), c)
        · rw [if_pos h2] at hm
          injection h2 with h2 h3
          injection hm with hm
          subst hm
          rw [h3]
          exact ⟨i, s, t, h2, hi, hj, hbs⟩
        · rw [if_neg h2] at hm
          exact h.edok n c' m hm }

/-- A graph behind a step: its sets, and what leads where is known in some way. -/
def GG (w : World) (own : Nat → Prop) (p m1 m2 : Nat) (S : List Nat) (b : Nat) (w' : World) : Prop := ∃ ed, GGo w own p m1 m2 S ed b w'

/-- The call of what changes the set. -/
def chgF (b : Bool) : Value := if b = true then .func (.func 142) #[] #[] else .func (.func 145) #[] #[]

theorem step_no (h : GAt w own p sv m1 m2 S ed b) (F : Value) (n c : Int) (hn : ¬ (0 ≤ n ∧ n < S.length)) :
    Calls Tryz.prog 141 #[.pointer (some ⟨p, 0, none⟩), .int .i64 n, .int .i64 c, F] w fun e w' => e = .returned (.int .i64 (-1)) ∧ w = w' := by
  have CS := Lib.hid (Sig_no h n hn)
  clear h hn
  go_enter Tryz.func141, Tryz.ntmps141
  go_wp2_with (go_at_call 133; refine CS.out.mono ?_; rintro e w' ⟨rfl, rfl⟩)
  go_ret
  exact ⟨rfl, rfl⟩
theorem step_nil (F : Value) (n c : Int) (w : World) : Calls Tryz.prog 141 #[.pointer none, .int .i64 n, .int .i64 c, F] w fun e w' => e = .returned (.int .i64 (-1)) ∧ w = w' := by
  go_enter Tryz.func141, Tryz.ntmps141
  go_wp2_with (go_at_call 133; refine (Sig_nil _ _).mono ?_; rintro e w' ⟨rfl, rfl⟩)
  go_ret
  exact ⟨rfl, rfl⟩
end
end Go.Proofs.YtddiadpbkjdomaaGreatDoor
namespace Go.Proofs.YtddiadpbkjdomaaGreatDoor
set_option maxRecDepth 20000
open Go.RowKit

theorem GAt.mono {w : World} {own : Nat → Prop} {p m1 m2 b b' : Nat} {sv : Value} {S : List Nat} {ed : Int × Int → Option Nat} (h : GAt w own p sv m1 m2 S ed b) (hb : b ≤ b') : GAt w own p sv m1 m2 S ed b' :=
  { h with edges := h.edges.mono hb }
theorem GGo.more {w w3 w4 : World} {own own' : Nat → Prop} {p m1 m2 b : Nat} {sv : Value} {S : List Nat} {ed : Int × Int → Option Nat} (F : Fr own w w3) (ho : ∀ x, own' x → own x ∨ w.heap.size ≤ x) (hd : ∀ x, own' x → x < w3.heap.size)
    (F4 : Fr own' w3 w4) (h : GAt w4 own' p sv m1 m2 S ed b) : GGo w own p m1 m2 S ed b w4 :=
  ⟨F.trans' F4 ho, own', sv, ho, fun x hx => Nat.lt_of_lt_of_le (hd x hx) F4.size, h⟩

section
variable {w w' : World} {own own' : Nat → Prop} {p m1 m2 b : Nat} {sv : Value} {S : List Nat} {ed : Int × Int → Option Nat}

theorem With_chg (s : Nat) (c : Int) (w : World) (hs : s < 18446744073709551616) :
    Calls Tryz.prog 142 #[.int .u64 s, .int .i64 c] w fun e w' => e = .returned (.int .u64 (chg true s c : Nat)) ∧ Below w.heap.size w w' := With_any s c w hs
theorem step_With_self (h : GAt w own p sv m1 m2 S ed b) (i s : Nat) (c : Int) (hi : S[i]? = some s) (hs : chg true s c = s) :
    Calls Tryz.prog 141 #[.pointer (some ⟨p, 0, none⟩), .int .i64 i, .int .i64 c, .func (.func 142) #[] #[]] w fun e w' => e = .returned (.int .i64 i) ∧ Below w.heap.size w w' := by
  have CS := Lib.hid (Sig_yes h i s hi)
  have CW := With_chg s c w (h.ok.lt s (List.mem_of_getElem? hi))
  rw [hs] at CW
  have CW := Lib.hid CW
  clear h hi hs
  go_enter Tryz.func141, Tryz.ntmps141
  go_wp2_with (first
    | (go_at_call 133; refine CS.out.mono ?_; rintro e w' ⟨rfl, rfl⟩)
    | (go_at_call 142; refine CW.out.mono ?_; rintro e w2 ⟨rfl, hb2⟩; have HB2 := Lib.hid hb2; clear hb2))
  go_ret
  exact ⟨rfl, HB2.out⟩
theorem step_With_old (h : GAt w own p sv m1 m2 S ed b) (i s m : Nat) (c : Int) (hi : S[i]? = some s) (hs : chg true s c ≠ s) (hm : ed ((i : Int), c) = some m) (hS : S.length ≤ 1000000) :
    Calls Tryz.prog 141 #[.pointer (some ⟨p, 0, none⟩), .int .i64 i, .int .i64 c, .func (.func 142) #[] #[]] w fun e w' => e = .returned (.int .i64 m) ∧ Below w.heap.size w w' := by
  have CS := Lib.hid (Sig_yes h i s hi)
  have hlt := h.ok.lt s (List.mem_of_getElem? hi)
  have CW := With_chg s c w hlt
  have hbs := chg_beside true hlt hs
  have wc : (Lit.int .i64 c).wf = true := WalkArith.wf_i64 (by have := hbs.2.1; have := hbs.2.2.1; omega)
  have hil := (List.getElem?_eq_some_iff.1 hi).1
  have wi := GAt.wfI (i := i) (by omega)
  obtain ⟨t, ht⟩ : ∃ t, t = chg true s c := ⟨_, rfl⟩
  rw [← ht] at CW hs
  have q1 : decide ((t : Int) = (s : Int)) = false := decide_eq_false (by omega)
  have q2 : ((t : Int) == (s : Int)) = false := beq_false_of_ne (by omega)
  have q3 : decide (t = s) = false := decide_eq_false hs
  have HL : Hid (∀ w2, Below w.heap.size w w2 → w2.cell? ⟨p, 2, none⟩ = some (.map (some m2)) ∧ (Instr.lookup 190 (.map (some m2)) (.agg #[.int .i64 i, .int .i64 c]) true).run Tryz.prog w2 = .ok (.tuple #[.int .i64 m, .bool true]) w2) := Lib.hid (fun w2 hb => by
    have h2 := h.below hb
    refine ⟨h2.c2, ?_⟩
    have := h2.look2 wi wc
    rw [hm] at this
    exact this)
  have CW := Lib.hid CW
  clear h hi hs hbs ht hlt wc wi hm hil
  go_enter Tryz.func141, Tryz.ntmps141
  go_wp2_with (first
    | (go_at_call 133; refine CS.out.mono ?_; rintro e w' ⟨rfl, rfl⟩)
    | (go_at_call 142; refine CW.out.mono ?_; rintro e w2 ⟨rfl, hb2⟩; obtain ⟨k2, l2⟩ := HL.out w2 hb2; have HB2 := Lib.hid hb2; clear hb2))
  go_ret
  exact ⟨rfl, HB2.out⟩
theorem step_With_new (dom : ∀ x, own x → x < w.heap.size) (h : GAt w own p sv m1 m2 S ed b) (i s : Nat) (c : Int) (hi : S[i]? = some s) (hs : chg true s c ≠ s) (hm : ed ((i : Int), c) = none) (hS : S.length ≤ 900000) (hb : b ≤ 1000000) :
    Calls Tryz.prog 141 #[.pointer (some ⟨p, 0, none⟩), .int .i64 i, .int .i64 c, .func (.func 142) #[] #[]] w fun e w' => e = .returned (.int .i64 ((gNode S (chg true s c)).2 : Nat)) ∧ GG w own p m1 m2 (gNode S (chg true s c)).1 (b + 2) w' := by
  have CS := Lib.hid (Sig_yes h i s hi)
  have hlt := h.ok.lt s (List.mem_of_getElem? hi)
  have CW := With_chg s c w hlt
  have hbs := chg_beside true hlt hs
  have htl := chg_lt true c hlt
  have wc : (Lit.int .i64 c).wf = true := WalkArith.wf_i64 (by have := hbs.2.1; have := hbs.2.2.1; omega)
  have hil := (List.getElem?_eq_some_iff.1 hi).1
  have wi := GAt.wfI (i := i) (by omega)
  obtain ⟨t, ht⟩ : ∃ t, t = chg true s c := ⟨_, rfl⟩
  rw [← ht] at CW hs hbs htl ⊢
  have q1 : decide ((t : Int) = (s : Int)) = false := decide_eq_false (by omega)
  have q2 : ((t : Int) == (s : Int)) = false := beq_false_of_ne (by omega)
  have q3 : decide (t = s) = false := decide_eq_false hs
  have HL : Hid (∀ w2, Below w.heap.size w w2 → w2.cell? ⟨p, 2, none⟩ = some (.map (some m2)) ∧ (Instr.lookup 190 (.map (some m2)) (.agg #[.int .i64 i, .int .i64 c]) true).run Tryz.prog w2 = .ok (.tuple #[.int .i64 0, .bool false]) w2) := Lib.hid (fun w2 hb => by
    have h2 := h.below hb
    refine ⟨h2.c2, ?_⟩
    have := h2.look2 wi wc
    rw [hm] at this
    exact this)
  have k1 := gNode_keeps (S := S) t hi
  have k2 := gNode_at S t
  have k3 := (gNode_len S t).1
  have HN : Hid (∀ w2, Below w.heap.size w w2 → Calls Tryz.prog 78 #[.pointer (some ⟨p, 0, none⟩), .int .u64 t] w2 fun e w' => e = .returned (.int .i64 ((gNode S t).2 : Nat)) ∧ GGo w2 own p m1 m2 (gNode S t).1 ed b w') :=
    Lib.hid (fun w2 hb2 => Node_any (fun x hx => Nat.lt_of_lt_of_le (dom x hx) hb2.size) (h.below hb2) t htl (by omega) (by omega))
  obtain ⟨j, hj⟩ : ∃ j, j = (gNode S t).2 := ⟨_, rfl⟩
  obtain ⟨S', hS'⟩ : ∃ S', S' = (gNode S t).1 := ⟨_, rfl⟩
  rw [← hj, ← hS'] at HN k2 ⊢
  rw [← hS'] at k1 k3
  have CW := Lib.hid CW
  have HK := Lib.hid (And.intro k1 (And.intro k2 (And.intro k3 hbs)))
  clear h hi hs hbs ht hlt wc wi hm hil dom k1 k2 k3 hj hS' htl
  go_enter Tryz.func141, Tryz.ntmps141
  go_wp2_with (first
    | (go_at_call 133; refine CS.out.mono ?_; rintro e w' ⟨rfl, rfl⟩)
    | (go_at_call 142; refine CW.out.mono ?_; rintro e w2 ⟨rfl, hb2⟩; obtain ⟨k2, l2⟩ := HL.out w2 hb2; have CN := Lib.hid (HN.out w2 hb2); have HB2 := Lib.hid hb2; clear hb2)
    | (go_at_call 78; refine CN.out.mono ?_; rintro e w3 ⟨rfl, hF3, own', sv', ho', hd', hG3⟩; have CJ := Lib.hid (join_any hG3 i j s t c HK.out.1 HK.out.2.1 HK.out.2.2.2 (by have := HK.out.2.2.1; omega) hb); have HF3 := Lib.hid hF3; have HO3 := Lib.hid (And.intro ho' hd'); clear hF3 ho' hd' hG3)
    | (go_at_call 172; refine CJ.out.mono ?_; rintro e w4 ⟨rfl, hF4, hG4⟩; have HF4 := Lib.hid hF4; have HG4 := Lib.hid hG4; clear hF4 hG4))
  go_ret
  exact ⟨rfl, _, GGo.pre HB2.out (GGo.more HF3.out HO3.out.1 HO3.out.2 HF4.out HG4.out)⟩
theorem step_With (dom : ∀ x, own x → x < w.heap.size) (h : GAt w own p sv m1 m2 S ed b) (n c : Int) (hS : S.length ≤ 900000) (hb : b ≤ 1000000) :
    Calls Tryz.prog 141 #[.pointer (some ⟨p, 0, none⟩), .int .i64 n, .int .i64 c, .func (.func 142) #[] #[]] w fun e w' => e = .returned (.int .i64 (gMove S true n c).2) ∧ GG w own p m1 m2 (gMove S true n c).1 (b + 2) w' := by
  by_cases hn : 0 ≤ n ∧ n < S.length
  · obtain ⟨i, rfl⟩ : ∃ i : Nat, n = (i : Int) := ⟨n.toNat, by omega⟩
    have hil : i < S.length := by omega
    obtain ⟨s, hs⟩ : ∃ s, s = S[i] := ⟨_, rfl⟩
    have hi : S[i]? = some s := by rw [List.getElem?_eq_getElem hil, hs]
    have hd : S.getD i 0 = s := by rw [List.getD_eq_getElem?_getD, hi]; rfl
    have hlt := h.ok.lt s (List.mem_of_getElem? hi)
    unfold gMove
    rw [if_pos hn, Int.toNat_natCast, hd]
    by_cases hc : chg true s c = s
    · have hx := gNode_some (ixS_of_at h.ok.nd hi)
      rw [hc, hx]
      refine (step_With_self h i s c hi hc).mono ?_
      rintro e w' ⟨rfl, hb'⟩
      exact ⟨rfl, ed, GGo.of dom (Fr.ofBelow _ hb') ((h.below hb').mono (by omega))⟩
    · cases hm : ed ((i : Int), c) with
      | some m =>
        obtain ⟨i', s', t, e1, e2, e3, e4⟩ := h.edok _ _ _ hm
        have e5 : i' = i := by omega
        rw [e5, hi] at e2
        injection e2 with e2
        have e6 := Beside.same hlt (h.ok.lt t (List.mem_of_getElem? e3)) (chg_lt true c hlt) (e2 ▸ e4) (chg_beside true hlt hc)
        rw [e6] at e3
        rw [gNode_some (ixS_of_at h.ok.nd e3)]
        refine (step_With_old h i s m c hi hc hm (by omega)).mono ?_
        rintro e w' ⟨rfl, hb'⟩
        exact ⟨rfl, ed, GGo.of dom (Fr.ofBelow _ hb') ((h.below hb').mono (by omega))⟩
      | none => exact step_With_new dom h i s c hi hc hm hS hb
  · unfold gMove
    rw [if_neg hn]
    refine (step_no h _ n c hn).mono ?_
    rintro e w' ⟨rfl, rfl⟩
    exact ⟨rfl, ed, GGo.of dom (Fr.refl _ _) (h.mono (by omega))⟩
theorem GWith_nil (n c : Int) (w : World) : Calls Tryz.prog 85 #[.pointer none, .int .i64 n, .int .i64 c] w fun e w' => e = .returned (.int .i64 (-1)) ∧ w = w' := by
  go_enter Tryz.func85, Tryz.ntmps85
  go_wp2_with (go_at_call 141; refine (step_nil _ _ _ _).mono ?_; rintro e w' ⟨rfl, rfl⟩)
  go_ret
  exact ⟨rfl, rfl⟩
theorem GWith_any (dom : ∀ x, own x → x < w.heap.size) (h : GAt w own p sv m1 m2 S ed b) (n c : Int) (hS : S.length ≤ 900000) (hb : b ≤ 1000000) :
    Calls Tryz.prog 85 #[.pointer (some ⟨p, 0, none⟩), .int .i64 n, .int .i64 c] w fun e w' => e = .returned (.int .i64 (gMove S true n c).2) ∧ GG w own p m1 m2 (gMove S true n c).1 (b + 2) w' := by
  have C := step_With dom h n c hS hb
  obtain ⟨r, hr⟩ : ∃ r, r = (gMove S true n c).2 := ⟨_, rfl⟩
  rw [← hr] at C ⊢
  have C := Lib.hid C
  clear h dom hr
  go_enter Tryz.func85, Tryz.ntmps85
  go_wp2_with (go_at_call 141; refine C.out.mono ?_; rintro e w' ⟨rfl, hG⟩; have HG := Lib.hid hG; clear hG)
  go_ret
  exact ⟨rfl, HG.out⟩

theorem Without_chg (s : Nat) (c : Int) (w : World) (hs : s < 18446744073709551616) :
    Calls Tryz.prog 145 #[.int .u64 s, .int .i64 c] w fun e w' => e = .returned (.int .u64 (chg false s c : Nat)) ∧ Below w.heap.size w w' := Without_any s c w hs
theorem step_Without_self (h : GAt w own p sv m1 m2 S ed b) (i s : Nat) (c : Int) (hi : S[i]? = some s) (hs : chg false s c = s) :
    Calls Tryz.prog 141 #[.pointer (some ⟨p, 0, none⟩), .int .i64 i, .int .i64 c, .func (.func 145) #[] #[]] w fun e w' => e = .returned (.int .i64 i) ∧ Below w.heap.size w w' := by
  have CS := Lib.hid (Sig_yes h i s hi)
  have CW := Without_chg s c w (h.ok.lt s (List.mem_of_getElem? hi))
  rw [hs] at CW
  have CW := Lib.hid CW
  clear h hi hs
  go_enter Tryz.func141, Tryz.ntmps141
  go_wp2_with (first
    | (go_at_call 133; refine CS.out.mono ?_; rintro e w' ⟨rfl, rfl⟩)
    | (go_at_call 145; refine CW.out.mono ?_; rintro e w2 ⟨rfl, hb2⟩; have HB2 := Lib.hid hb2; clear hb2))
  go_ret
  exact ⟨rfl, HB2.out⟩
theorem step_Without_old (h : GAt w own p sv m1 m2 S ed b) (i s m : Nat) (c : Int) (hi : S[i]? = some s) (hs : chg false s c ≠ s) (hm : ed ((i : Int), c) = some m) (hS : S.length ≤ 1000000) :
    Calls Tryz.prog 141 #[.pointer (some ⟨p, 0, none⟩), .int .i64 i, .int .i64 c, .func (.func 145) #[] #[]] w fun e w' => e = .returned (.int .i64 m) ∧ Below w.heap.size w w' := by
  have CS := Lib.hid (Sig_yes h i s hi)
  have hlt := h.ok.lt s (List.mem_of_getElem? hi)
  have CW := Without_chg s c w hlt
  have hbs := chg_beside false hlt hs
  have wc : (Lit.int .i64 c).wf = true := WalkArith.wf_i64 (by have := hbs.2.1; have := hbs.2.2.1; omega)
  have hil := (List.getElem?_eq_some_iff.1 hi).1
  have wi := GAt.wfI (i := i) (by omega)
  obtain ⟨t, ht⟩ : ∃ t, t = chg false s c := ⟨_, rfl⟩
  rw [← ht] at CW hs
  have q1 : decide ((t : Int) = (s : Int)) = false := decide_eq_false (by omega)
  have q2 : ((t : Int) == (s : Int)) = false := beq_false_of_ne (by omega)
  have q3 : decide (t = s) = false := decide_eq_false hs
  have HL : Hid (∀ w2, Below w.heap.size w w2 → w2.cell? ⟨p, 2, none⟩ = some (.map (some m2)) ∧ (Instr.lookup 190 (.map (some m2)) (.agg #[.int .i64 i, .int .i64 c]) true).run Tryz.prog w2 = .ok (.tuple #[.int .i64 m, .bool true]) w2) := Lib.hid (fun w2 hb => by
    have h2 := h.below hb
    refine ⟨h2.c2, ?_⟩
    have := h2.look2 wi wc
    rw [hm] at this
    exact this)
  have CW := Lib.hid CW
  clear h hi hs hbs ht hlt wc wi hm hil
  go_enter Tryz.func141, Tryz.ntmps141
  go_wp2_with (first
    | (go_at_call 133; refine CS.out.mono ?_; rintro e w' ⟨rfl, rfl⟩)
    | (go_at_call 145; refine CW.out.mono ?_; rintro e w2 ⟨rfl, hb2⟩; obtain ⟨k2, l2⟩ := HL.out w2 hb2; have HB2 := Lib.hid hb2; clear hb2))
  go_ret
  exact ⟨rfl, HB2.out⟩
theorem step_Without_new (dom : ∀ x, own x → x < w.heap.size) (h : GAt w own p sv m1 m2 S ed b) (i s : Nat) (c : Int) (hi : S[i]? = some s) (hs : chg false s c ≠ s) (hm : ed ((i : Int), c) = none) (hS : S.length ≤ 900000) (hb : b ≤ 1000000) :
    Calls Tryz.prog 141 #[.pointer (some ⟨p, 0, none⟩), .int .i64 i, .int .i64 c, .func (.func 145) #[] #[]] w fun e w' => e = .returned (.int .i64 ((gNode S (chg false s c)).2 : Nat)) ∧ GG w own p m1 m2 (gNode S (chg false s c)).1 (b + 2) w' := by
  have CS := Lib.hid (Sig_yes h i s hi)
  have hlt := h.ok.lt s (List.mem_of_getElem? hi)
  have CW := Without_chg s c w hlt
  have hbs := chg_beside false hlt hs
  have htl := chg_lt false c hlt
  have wc : (Lit.int .i64 c).wf = true := WalkArith.wf_i64 (by have := hbs.2.1; have := hbs.2.2.1; omega)
  have hil := (List.getElem?_eq_some_iff.1 hi).1
  have wi := GAt.wfI (i := i) (by omega)
  obtain ⟨t, ht⟩ : ∃ t, t = chg false s c := ⟨_, rfl⟩
  rw [← ht] at CW hs hbs htl ⊢
  have q1 : decide ((t : Int) = (s : Int)) = false := decide_eq_false (by omega)
  have q2 : ((t : Int) == (s : Int)) = false := beq_false_of_ne (by omega)
  have q3 : decide (t = s) = false := decide_eq_false hs
  have HL : Hid (∀ w2, Below w.heap.size w w2 → w2.cell? ⟨p, 2, none⟩ = some (.map (some m2)) ∧ (Instr.lookup 190 (.map (some m2)) (.agg #[.int .i64 i, .int .i64 c]) true).run Tryz.prog w2 = .ok (.tuple #[.int .i64 0, .bool false]) w2) := Lib.hid (fun w2 hb => by
    have h2 := h.below hb
    refine ⟨h2.c2, ?_⟩
    have := h2.look2 wi wc
    rw [hm] at this
    exact this)
  have k1 := gNode_keeps (S := S) t hi
  have k2 := gNode_at S t
  have k3 := (gNode_len S t).1
  have HN : Hid (∀ w2, Below w.heap.size w w2 → Calls Tryz.prog 78 #[.pointer (some ⟨p, 0, none⟩), .int .u64 t] w2 fun e w' => e = .returned (.int .i64 ((gNode S t).2 : Nat)) ∧ GGo w2 own p m1 m2 (gNode S t).1 ed b w') :=
    Lib.hid (fun w2 hb2 => Node_any (fun x hx => Nat.lt_of_lt_of_le (dom x hx) hb2.size) (h.below hb2) t htl (by omega) (by omega))
  obtain ⟨j, hj⟩ : ∃ j, j = (gNode S t).2 := ⟨_, rfl⟩
  obtain ⟨S', hS'⟩ : ∃ S', S' = (gNode S t).1 := ⟨_, rfl⟩
  rw [← hj, ← hS'] at HN k2 ⊢
  rw [← hS'] at k1 k3
  have CW := Lib.hid CW
  have HK := Lib.hid (And.intro k1 (And.intro k2 (And.intro k3 hbs)))
  clear h hi hs hbs ht hlt wc wi hm hil dom k1 k2 k3 hj hS' htl
  go_enter Tryz.func141, Tryz.ntmps141
  go_wp2_with (first
    | (go_at_call 133; refine CS.out.mono ?_; rintro e w' ⟨rfl, rfl⟩)
    | (go_at_call 145; refine CW.out.mono ?_; rintro e w2 ⟨rfl, hb2⟩; obtain ⟨k2, l2⟩ := HL.out w2 hb2; have CN := Lib.hid (HN.out w2 hb2); have HB2 := Lib.hid hb2; clear hb2)
    | (go_at_call 78; refine CN.out.mono ?_; rintro e w3 ⟨rfl, hF3, own', sv', ho', hd', hG3⟩; have CJ := Lib.hid (join_any hG3 i j s t c HK.out.1 HK.out.2.1 HK.out.2.2.2 (by have := HK.out.2.2.1; omega) hb); have HF3 := Lib.hid hF3; have HO3 := Lib.hid (And.intro ho' hd'); clear hF3 ho' hd' hG3)
    | (go_at_call 172; refine CJ.out.mono ?_; rintro e w4 ⟨rfl, hF4, hG4⟩; have HF4 := Lib.hid hF4; have HG4 := Lib.hid hG4; clear hF4 hG4))
  go_ret
  exact ⟨rfl, _, GGo.pre HB2.out (GGo.more HF3.out HO3.out.1 HO3.out.2 HF4.out HG4.out)⟩
theorem step_Without (dom : ∀ x, own x → x < w.heap.size) (h : GAt w own p sv m1 m2 S ed b) (n c : Int) (hS : S.length ≤ 900000) (hb : b ≤ 1000000) :
    Calls Tryz.prog 141 #[.pointer (some ⟨p, 0, none⟩), .int .i64 n, .int .i64 c, .func (.func 145) #[] #[]] w fun e w' => e = .returned (.int .i64 (gMove S false n c).2) ∧ GG w own p m1 m2 (gMove S false n c).1 (b + 2) w' := by
  by_cases hn : 0 ≤ n ∧ n < S.length
  · obtain ⟨i, rfl⟩ : ∃ i : Nat, n = (i : Int) := ⟨n.toNat, by omega⟩
    have hil : i < S.length := by omega
    obtain ⟨s, hs⟩ : ∃ s, s = S[i] := ⟨_, rfl⟩
    have hi : S[i]? = some s := by rw [List.getElem?_eq_getElem hil, hs]
    have hd : S.getD i 0 = s := by rw [List.getD_eq_getElem?_getD, hi]; rfl
    have hlt := h.ok.lt s (List.mem_of_getElem? hi)
    unfold gMove
    rw [if_pos hn, Int.toNat_natCast, hd]
    by_cases hc : chg false s c = s
    · have hx := gNode_some (ixS_of_at h.ok.nd hi)
      rw [hc, hx]
      refine (step_Without_self h i s c hi hc).mono ?_
      rintro e w' ⟨rfl, hb'⟩
      exact ⟨rfl, ed, GGo.of dom (Fr.ofBelow _ hb') ((h.below hb').mono (by omega))⟩
    · cases hm : ed ((i : Int), c) with
      | some m =>
        obtain ⟨i', s', t, e1, e2, e3, e4⟩ := h.edok _ _ _ hm
        have e5 : i' = i := by omega
        rw [e5, hi] at e2
        injection e2 with e2
        have e6 := Beside.same hlt (h.ok.lt t (List.mem_of_getElem? e3)) (chg_lt false c hlt) (e2 ▸ e4) (chg_beside false hlt hc)
        rw [e6] at e3
        rw [gNode_some (ixS_of_at h.ok.nd e3)]
        refine (step_Without_old h i s m c hi hc hm (by omega)).mono ?_
        rintro e w' ⟨rfl, hb'⟩
        exact ⟨rfl, ed, GGo.of dom (Fr.ofBelow _ hb') ((h.below hb').mono (by omega))⟩
      | none => exact step_Without_new dom h i s c hi hc hm hS hb
  · unfold gMove
    rw [if_neg hn]
    refine (step_no h _ n c hn).mono ?_
    rintro e w' ⟨rfl, rfl⟩
    exact ⟨rfl, ed, GGo.of dom (Fr.refl _ _) (h.mono (by omega))⟩
theorem GWithout_nil (n c : Int) (w : World) : Calls Tryz.prog 95 #[.pointer none, .int .i64 n, .int .i64 c] w fun e w' => e = .returned (.int .i64 (-1)) ∧ w = w' := by
  go_enter Tryz.func95, Tryz.ntmps95
  go_wp2_with (go_at_call 141; refine (step_nil _ _ _ _).mono ?_; rintro e w' ⟨rfl, rfl⟩)
  go_ret
  exact ⟨rfl, rfl⟩
theorem GWithout_any (dom : ∀ x, own x → x < w.heap.size) (h : GAt w own p sv m1 m2 S ed b) (n c : Int) (hS : S.length ≤ 900000) (hb : b ≤ 1000000) :
    Calls Tryz.prog 95 #[.pointer (some ⟨p, 0, none⟩), .int .i64 n, .int .i64 c] w fun e w' => e = .returned (.int .i64 (gMove S false n c).2) ∧ GG w own p m1 m2 (gMove S false n c).1 (b + 2) w' := by
  have C := step_Without dom h n c hS hb
  obtain ⟨r, hr⟩ : ∃ r, r = (gMove S false n c).2 := ⟨_, rfl⟩
  rw [← hr] at C ⊢
  have C := Lib.hid C
  clear h dom hr
  go_enter Tryz.func95, Tryz.ntmps95
  go_wp2_with (go_at_call 141; refine C.out.mono ?_; rintro e w' ⟨rfl, hG⟩; have HG := Lib.hid hG; clear hG)
  go_ret
  exact ⟨rfl, HG.out⟩
end
end Go.Proofs.YtddiadpbkjdomaaGreatDoor
namespace Go.Proofs.YtddiadpbkjdomaaGreatDoor
open Go.RowKit

theorem Within_any (a b : Nat) (w : World) (ha : a < 18446744073709551616) (hb : b < 18446744073709551616) :
    Calls Tryz.prog 109 #[.int .u64 a, .int .u64 b] w fun e w' => e = .returned (.bool (butN a b == 0)) ∧ w = w' := by
  have e2 := u64_andNot_nat a b ha hb
  unfold butN
  go_enter Tryz.func109, Tryz.ntmps109
  go_wp2
  go_ret
  exact ⟨ret_bool (by rw [← Int.natCast_zero, Bool.eq_iff_iff]; simp), rfl⟩
end Go.Proofs.YtddiadpbkjdomaaGreatDoor
namespace Go.Proofs.YtddiadpbkjdomaaGreatDoor
open Go.RowKit

theorem Apart_any (a b : Nat) (w : World) (ha : a < 18446744073709551616) (hb : b < 18446744073709551616) :
    Calls Tryz.prog 110 #[.int .u64 a, .int .u64 b] w fun e w' => e = .returned (.bool (a &&& b == 0)) ∧ w = w' := by
  have e2 := u64_and_nat a b ha hb
  go_enter Tryz.func110, Tryz.ntmps110
  go_wp2
  go_ret
  exact ⟨ret_bool (by rw [← Int.natCast_zero, Bool.eq_iff_iff]; simp), rfl⟩
end Go.Proofs.YtddiadpbkjdomaaGreatDoor
