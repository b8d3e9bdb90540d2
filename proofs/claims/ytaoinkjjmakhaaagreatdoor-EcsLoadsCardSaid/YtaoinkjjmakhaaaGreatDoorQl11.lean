/- GrP1, GrP2, GrP3, GrP4, BitsWi, BitsAp, GrP5, MapE -/
import Derived.Test.YtaoinkjjmakhaaaGreatDoorQl1
import Derived.Test.YtaoinkjjmakhaaaGreatDoorQl2
import Derived.Test.YtaoinkjjmakhaaaGreatDoorQl5
import Derived.Test.YtaoinkjjmakhaaaGreatDoorQl10
import Derived.BigQuiet
import Derived.Deep.QuietTactic
import Derived.WalkSmall
import Derived.Laws.BitsAllLaws
import Derived.Laws.Bits128
import Derived.Deep.WholeRow
namespace Go.Proofs.YtaoinkjjmakhaaaGreatDoor
set_option maxRecDepth 20000
open Go.RowKit
theorem setsT : El Tryz.prog 104 68 (.int .u64 0) 1 8 := ⟨Tryz.underlying104, by kernel_rfl, rfl, by decide⟩
def setsV (S : List Nat) : List Value := S.map fun s : Nat => .int .u64 (s : Int)
theorem setsV_get {S : List Nat} {i s : Nat} (h : S[i]? = some s) : (setsV S)[i]? = some (.int .u64 (s : Int)) := by simp [setsV, h]
theorem setsV_snoc (S : List Nat) (s : Nat) : setsV (S ++ [s]) = setsV S ++ [.int .u64 (s : Int)] := by simp [setsV]
def atV (o : Option Nat) : Option Value := o.map fun i => .int .i64 (i : Int)
theorem kfS : Kf Tryz.prog 68 (fun s : Nat => .int .u64 (s : Int)) litU okU := kfU Tryz.underlying68
theorem laidOutG : laidOutB Tryz.prog = true := by kernel_rfl
theorem lawE : WideMaps.KeyLaw Tryz.prog 236 := deep_law_laid laidOutG (m := 2) (by omega) (of_decide_eq_true (by kernel_rfl)) (by kernel_rfl) (by kernel_rfl)
def valE (x : Int × Int) : Value := .agg #[.int .i64 x.1, .int .i64 x.2]
def litE (x : Int × Int) : Lit := .string (keyBytes [.int .i64 x.1, .int .i64 x.2])
def okE (x : Int × Int) : Prop := (Lit.int .i64 x.1).wf = true /\ (Lit.int .i64 x.2).wf = true
theorem keyE {x : Int × Int} (h : okE x) : keyOf Tryz.prog 236 (valE x) = some (litE x) := by
 obtain ⟨a, b⟩ := x
 obtain ⟨h1, h2⟩ := h
 simp only at h1 h2
 have hk : Tryz.prog.keyType 236 = true := by kernel_rfl
 have hc : Tryz.prog.cellsOf 236 = 2 := by kernel_rfl
 have hc1 : Tryz.prog.cellsOf 3 = 1 := by kernel_rfl
 obtain ⟨D, hD⟩ : ∃ D, Tryz.prog.types.size = D + 1 := ⟨Tryz.prog.types.size - 1, by have : 0 < Tryz.prog.types.size := of_decide_eq_true (by kernel_rfl); omega⟩
 have hf : (valE (a, b)).formed Tryz.prog 236 = true := by simp [valE, Value.formed, Tryz.underlying236, hc]
 have hl : Tryz.prog.keyLits (Tryz.prog.types.size + 1) 236 (valE (a, b)).cells.toList = some [.int .i64 a, .int .i64 b] := by
  rw [hD]
  simp [Program.keyLits, Tryz.underlying236, Tryz.underlying3, valE, Value.cells, hc, hc1, h1, h2]
 simp only [keyOf, Tryz.underlying236, hk, hf, hl, Bool.and_self, if_true, Option.map_some]
 rfl
theorem kfE : Kf Tryz.prog 236 valE litE okE where
 law := Maps.Keyed.of_law lawE
 key h := keyE h
 inj {i j} hi hj e := by
  have := (Maps.Keyed.of_law lawE).inj (keyE hi) (by rw [e]; exact keyE hj)
  obtain ⟨a, b⟩ := i
  obtain ⟨c, d⟩ := j
  simp [valE] at this
  rw [this.1, this.2]
structure GAt (w : World) (own : Nat -> Prop) (p : Nat) (sv : Value) (m1 m2 : Nat) (S : List Nat) (ed : Int × Int -> Option Nat) (b : Nat) : Prop where
 blk : Rec 201 w p #[sv, .map (some m1), .map (some m2)]
 row : w.ownsRow 0 68 1 sv S.length (setsV S)
 nodes : MapF Tryz.prog 68 litU okU (.int .i64 0) w m1 S.length (fun s => atV (ixS S s))
 edges : MapF Tryz.prog 236 litE okE (.int .i64 0) w m2 b (fun x => atV (ed x))
 two : m1 ≠ m2
 ownp : own p
 own1 : own m1
 own2 : own m2
 ownv : ∀ x, sv.ownBlock = some x -> own x
 ok : SOk S
 edok : ∀ n c m, ed (n, c) = some m -> ∃ (i s t : Nat), n = (i : Int) /\ S[i]? = some s /\ S[m]? = some t /\ Beside s t c
section
variable {w w' : World} {own own' : Nat -> Prop} {p m1 m2 b : Nat} {sv : Value} {S : List Nat} {ed : Int × Int -> Option Nat}
theorem own_openG {w : World} {B e n : Nat} {v : Value} {xs : List Value} (h : w.ownsRow B e 1 v n xs) :
  ∃ A c, v = .slice A n c /\ n <= c /\ c <= maxLen /\ (0 < n -> ∃ g, A = some ⟨g, 0, none⟩ /\ g < w.heap.size /\ (∀ j, j < n -> w.cell? ⟨g, j, none⟩ = xs[j]?)) := by
 have h' := h
 rcases h.2 with ⟨hv, h0⟩ | ⟨g, cap, cur, rfl, _, hh, hn, hc, _, _⟩
 ·exact ⟨none, 0, by rw [hv, h0], by omega, by unfold maxLen; omega, fun hp => by omega⟩
 ·exact ⟨_, cap, rfl, hn, hc, fun _ => ⟨g, rfl, (Array.getElem?_eq_some_iff.1 hh).1, fun j hj => h'.cellAt j (by omega)⟩⟩
theorem GAt.c0 (h : GAt w own p sv m1 m2 S ed b) : w.cell? ⟨p, 0, none⟩ = some sv := h.blk.at_ 0
theorem GAt.c1 (h : GAt w own p sv m1 m2 S ed b) : w.cell? ⟨p, 1, none⟩ = some (.map (some m1)) := h.blk.at_ 1
theorem GAt.c2 (h : GAt w own p sv m1 m2 S ed b) : w.cell? ⟨p, 2, none⟩ = some (.map (some m2)) := h.blk.at_ 2
theorem GAt.kept (h : GAt w own p sv m1 m2 S ed b) (hf : Fr own' w w') (hd : ∀ x, own x -> ¬ own' x) : GAt w' own p sv m1 m2 S ed b :=
 { h with
  blk := h.blk.fr hf (hd p h.ownp)
  row := own_fr h.row hf (fun x hx => hd x (h.ownv x hx))
  nodes := h.nodes.fr hf (hd m1 h.own1)
  edges := h.edges.fr hf (hd m2 h.own2) }
theorem GAt.below (h : GAt w own p sv m1 m2 S ed b) (hb : Below w.heap.size w w') : GAt w' own p sv m1 m2 S ed b := h.kept (own' := fun _ => False) (Fr.ofBelow _ hb) (fun _ _ hx => hx)
theorem zeroI (w : World) : (zeroValue 3).run Tryz.prog w = .ok (.int .i64 0) w := by kernel_rfl
theorem GAt.look1 (h : GAt w own p sv m1 m2 S ed b) {s : Nat} (hs : s < 18446744073709551616) :
  (Instr.lookup 198 (.map (some m1)) (.int .u64 (s : Int)) true).run Tryz.prog w = .ok (.tuple #[(atV (ixS S s)).getD (.int .i64 0), .bool (atV (ixS S s)).isSome]) w :=
 h.nodes.look_ok kfS Tryz.underlying198 (zeroI w) (i := s) hs
theorem GAt.look2 (h : GAt w own p sv m1 m2 S ed b) {n c : Int} (hn : (Lit.int .i64 n).wf = true) (hc : (Lit.int .i64 c).wf = true) :
  (Instr.lookup 199 (.map (some m2)) (.agg #[.int .i64 n, .int .i64 c]) true).run Tryz.prog w = .ok (.tuple #[(atV (ed (n, c))).getD (.int .i64 0), .bool (atV (ed (n, c))).isSome]) w :=
 h.edges.look_ok kfE Tryz.underlying199 (zeroI w) (i := (n, c)) ⟨hn, hc⟩
theorem Len_any (h : GAt w own p sv m1 m2 S ed b) : Calls Tryz.prog 119 #[.pointer (some ⟨p, 0, none⟩)] w fun e w' => e = .returned (.int .i64 S.length) /\ w = w' := by
 obtain ⟨A, c, rfl, _, _, _⟩ := own_openG h.row
 have c0 := h.c0
 clear h
 go_enter Tryz.func119, Tryz.ntmps119
 go_wp2
 go_ret
 exact ⟨rfl, rfl⟩
theorem Sig_no (h : GAt w own p sv m1 m2 S ed b) (n : Int) (hn : ¬ (0 <= n /\ n < S.length)) :
  Calls Tryz.prog 112 #[.pointer (some ⟨p, 0, none⟩), .int .i64 n] w fun e w' => e = .returned (.tuple #[.int .u64 0, .bool false]) /\ w = w' := by
 have CL := hi_ (Len_any h)
 clear h
 by_cases h0 : n < 0
 ·have h1 : decide (n < 0) = true := decide_eq_true h0
  go_enter Tryz.func112, Tryz.ntmps112
  go_wp2_with (go_at_call 119; refine CL.out.mono ?_; rintro e w' ⟨rfl, rfl⟩)
  go_ret2
  exact ⟨rfl, rfl⟩
 ·have h1 : decide (n < 0) = false := decide_eq_false h0
  have h2 : decide ((S.length : Int) <= n) = true := decide_eq_true (by omega)
  go_enter Tryz.func112, Tryz.ntmps112
  go_wp2_with (go_at_call 119; refine CL.out.mono ?_; rintro e w' ⟨rfl, rfl⟩)
  go_ret2
  exact ⟨rfl, rfl⟩
theorem Sig_yes (h : GAt w own p sv m1 m2 S ed b) (i s : Nat) (hi : S[i]? = some s) :
  Calls Tryz.prog 112 #[.pointer (some ⟨p, 0, none⟩), .int .i64 i] w fun e w' => e = .returned (.tuple #[.int .u64 s, .bool true]) /\ w = w' := by
 have CL := hi_ (Len_any h)
 obtain ⟨A, c, rfl, _, _, hr⟩ := own_openG h.row
 have hlt := (List.getElem?_eq_some_iff.1 hi).1
 obtain ⟨g, rfl, hg, hc⟩ := hr (by omega)
 have c0 := h.c0
 have k := hc i hlt
 rw [setsV_get hi] at k
 have h1 : decide ((i : Int) < 0) = false := decide_eq_false (by omega)
 have h2 : decide ((S.length : Int) <= (i : Int)) = false := decide_eq_false (by omega)
 have h3 : decide (S.length <= i) = false := decide_eq_false (by omega)
 clear h hc hi hr
 go_enter Tryz.func112, Tryz.ntmps112
 go_wp2_with (go_at_call 119; refine CL.out.mono ?_; rintro e w' ⟨rfl, rfl⟩)
 go_ret2
 exact ⟨rfl, rfl⟩
end
end Go.Proofs.YtaoinkjjmakhaaaGreatDoor
namespace Go.Proofs.YtaoinkjjmakhaaaGreatDoor
set_option maxRecDepth 20000
open Go.RowKit
theorem own_tagG {w : World} {B e n : Nat} {v : Value} {xs : List Value} (h : w.ownsRow B e 1 v n xs) {x : Nat} (hx : v.ownBlock = some x) : ∃ C, w.heap[x]? = some (.cells C e (0, 0)) := by
 rcases h.2 with ⟨rfl, _⟩ | ⟨g, cap, cur, rfl, _, hh, _⟩
 ·cases hx
 ·simp [Value.ownBlock] at hx
  subst hx
  exact ⟨_, hh⟩
theorem own_notG {w : World} {B e n q : Nat} {T : TypeId} {C : Array Value} {v : Value} {xs : List Value} (h : w.ownsRow B e 1 v n xs) (hq : w.heap[q]? = some (.cells C T (0, 0))) (hne : T ≠ e) : v.ownBlock ≠ some q := fun hx => by
 obtain ⟨D, hD⟩ := own_tagG h hx
 rw [hq] at hD
 injection hD with hD
 injection hD with _ h2
 exact hne h2
theorem own_notM {w : World} {B e n q : Nat} {es : Array MapEntry} {cl : Nat} {v : Value} {xs : List Value} (h : w.ownsRow B e 1 v n xs) (hq : w.heap[q]? = some (.map es cl)) : v.ownBlock ≠ some q := fun hx => by
 obtain ⟨D, hD⟩ := own_tagG h hx
 rw [hq] at hD
 cases hD
theorem rec_notM {w : World} {q p : Nat} {es : Array MapEntry} {cl : Nat} {T : TypeId} {C : Array Value} (h : Rec T w p C) (hq : w.heap[q]? = some (.map es cl)) : q ≠ p := fun e => by
 have h' : w.heap[p]? = some (.cells C T (0, 0)) := h
 rw [<- e, hq] at h'
 cases h'
def GGo (w : World) (own : Nat -> Prop) (p m1 m2 : Nat) (S : List Nat) (ed : Int × Int -> Option Nat) (b : Nat) (w' : World) : Prop :=
 Fr own w w' /\ ∃ own' sv', (∀ x, own' x -> own x \/ w.heap.size <= x) /\ (∀ x, own' x -> x < w'.heap.size) /\ GAt w' own' p sv' m1 m2 S ed b
theorem GGo.of {w w' : World} {own : Nat -> Prop} {p m1 m2 b : Nat} {sv : Value} {S : List Nat} {ed : Int × Int -> Option Nat} (dom : ∀ x, own x -> x < w.heap.size) (hf : Fr own w w') (h : GAt w' own p sv m1 m2 S ed b) : GGo w own p m1 m2 S ed b w' :=
 ⟨hf, own, sv, fun _ hx => .inl hx, fun x hx => Nat.lt_of_lt_of_le (dom x hx) hf.size, h⟩
theorem GGo.pre {w w1 w2 : World} {own : Nat -> Prop} {p m1 m2 b : Nat} {S : List Nat} {ed : Int × Int -> Option Nat} (hb : Below w.heap.size w w1) (h : GGo w1 own p m1 m2 S ed b w2) : GGo w own p m1 m2 S ed b w2 := by
 obtain ⟨hf, own', sv', ho, hd⟩ := h
 exact ⟨(Fr.ofBelow own hb).trans hf, own', sv', fun x hx => (ho x hx).imp id (fun h => Nat.le_trans hb.size h), hd⟩
section
variable {w w' : World} {own own' : Nat -> Prop} {p m1 m2 b : Nat} {sv : Value} {S : List Nat} {ed : Int × Int -> Option Nat}
theorem Node_old (h : GAt w own p sv m1 m2 S ed b) (s i : Nat) (hs : s < 18446744073709551616) (hi : ixS S s = some i) :
  Calls Tryz.prog 59 #[.pointer (some ⟨p, 0, none⟩), .int .u64 s] w fun e w' => e = .returned (.int .i64 i) /\ w = w' := by
 have L : (Instr.lookup 198 (.map (some m1)) (.int .u64 (s : Int)) true).run Tryz.prog w = .ok (.tuple #[.int .i64 i, .bool true]) w := by
  have := h.look1 hs
  rw [hi] at this
  exact this
 have c1 := h.c1
 clear h
 go_enter Tryz.func59, Tryz.ntmps59
 go_wp2
 go_ret
 exact ⟨rfl, rfl⟩
theorem atV_snoc {S : List Nat} {s : Nat} (hi : ixS S s = none) (j : Nat) : (if j = s then some (Value.int .i64 (S.length : Int)) else atV (ixS S j)) = atV (ixS (S ++ [s]) j) := by
 rw [ixS_snoc hi]
 by_cases e : j = s
 ·rw [if_pos e, if_pos e]; rfl
 ·rw [if_neg e, if_neg e]
theorem GAt.grew {wa w4 w5 : World} {v' : Value} {s : Nat} (dom : ∀ x, own x -> x < wa.heap.size) (ha : GAt wa own p sv m1 m2 S ed b) (hs : s < 18446744073709551616) (hi : ixS S s = none)
  (ho4 : w4.ownsRow 0 68 1 v' (S.length + 1) (setsV S ++ [.int .u64 (s : Int)])) (hg4 : wa.grownBy w4 sv.ownBlock) (hloc : v'.ownBlock = sv.ownBlock \/ v'.ownBlock = some wa.heap.size) (hw5 : w5 = w4.setCell ⟨p, 0, none⟩ v') :
  MapF Tryz.prog 68 litU okU (.int .i64 0) w5 m1 S.length (fun s => atV (ixS S s)) /\
  ∀ w6, MapF Tryz.prog 68 litU okU (.int .i64 0) w6 m1 (S.length + 1) (fun j => if j = s then some (.int .i64 (S.length : Int)) else atV (ixS S j)) -> w5.grownBy w6 (some m1) -> GGo wa own p m1 m2 (S ++ [s]) ed b w6 := by
 obtain ⟨es1, cl1, hm1⟩ := ha.nodes.map_at
 obtain ⟨es2, cl2, hm2⟩ := ha.edges.map_at
 have np : sv.ownBlock ≠ some p := own_notG ha.row ha.blk (by decide)
 have n1 : sv.ownBlock ≠ some m1 := own_notM ha.row hm1
 have n2 : sv.ownBlock ≠ some m2 := own_notM ha.row hm2
 have q1 : m1 ≠ p := rec_notM ha.blk hm1
 have q2 : m2 ≠ p := rec_notM ha.blk hm2
 have hR4 : Rec 201 w4 p #[sv, .map (some m1), .map (some m2)] := ha.blk.block (hg4.block p ha.blk.lt (fun e => np e.symm))
 have hN4 := ha.nodes.block (hg4.block m1 ha.nodes.lt (fun e => n1 e.symm))
 have hE4 := ha.edges.block (hg4.block m2 ha.edges.lt (fun e => n2 e.symm))
 have f5 : Fr (· = p) w4 w5 := by rw [hw5]; exact Fr.setCell (own := (· = p)) w4 (p := ⟨p, 0, none⟩) rfl _
 have hR5 : Rec 201 w5 p #[v', .map (some m1), .map (some m2)] := by rw [hw5]; exact hR4.set 0 v'
 have hv4 : v'.ownBlock ≠ some p := own_notG ho4 hR4 (by decide)
 have hO5 := own_fr ho4 f5 (fun x hx e => hv4 (by rw [hx, show x = p from e]))
 have hN5 := hN4.fr f5 (fun e => q1 e)
 have hE5 := hE4.fr f5 (fun e => q2 e)
 have F4 : Fr own wa w4 := Fr.grown hg4 (fun x hx => ha.ownv x hx)
 have F5 : Fr own wa w5 := F4.trans' f5 (fun x hx => .inl (by rw [show x = p from hx]; exact ha.ownp))
 refine ⟨hN5, fun w6 hN6 hg6 => ?_⟩
 obtain ⟨es5, cl5, hm5⟩ := hN5.map_at
 have nv5 : v'.ownBlock ≠ some m1 := own_notM hO5 hm5
 have F6 : Fr own wa w6 := F5.trans' (Fr.grown (own := (· = m1)) hg6 (fun x hx => by injection hx with hx; exact hx.symm)) (fun x hx => .inl (by rw [show x = m1 from hx]; exact ha.own1))
 have f6 : Fr (· = m1) w5 w6 := Fr.grown hg6 (fun x hx => by injection hx with hx; exact hx.symm)
 refine ⟨F6, fun x => own x \/ v'.ownBlock = some x, v', fun x hx => ?_, fun x hx => ?_, ?_⟩
 ·rcases hx with hx | hx
  ·exact .inl hx
  ·rcases hloc with h | h
   ·exact .inl (ha.ownv x (by rw [<- h]; exact hx))
   ·rw [h] at hx
    injection hx with hx
    exact .inr (by omega)
 ·rcases hx with hx | hx
  ·exact Nat.lt_of_lt_of_le (dom x hx) F6.size
  ·obtain ⟨C, hC⟩ := own_tagG hO5 hx
   exact Nat.lt_of_lt_of_le (Array.getElem?_eq_some_iff.1 hC).1 f6.size
 ·exact {
   blk := hR5.fr f6 (fun e => q1 e.symm)
   row := by
    have := own_fr hO5 f6 (fun x hx e => nv5 (by rw [hx, show x = m1 from e]))
    rw [setsV_snoc, List.length_append]
    exact this
   nodes := by
    rw [List.length_append]
    exact hN6.congr (fun j _ => atV_snoc hi j)
   edges := hE5.fr f6 (fun e => ha.two e.symm)
   two := ha.two
   ownp := .inl ha.ownp
   own1 := .inl ha.own1
   own2 := .inl ha.own2
   ownv := fun x hx => .inr hx
   ok := ha.ok.snoc hs hi
   edok := fun n c m h => by
    obtain ⟨i, s', t, e1, e2, e3, e4⟩ := ha.edok n c m h
    exact ⟨i, s', t, e1, by rw [List.getElem?_append_left (List.getElem?_eq_some_iff.1 e2).1]; exact e2, by rw [List.getElem?_append_left (List.getElem?_eq_some_iff.1 e3).1]; exact e3, e4⟩ }
theorem Node_new (dom : ∀ x, own x -> x < w.heap.size) (h : GAt w own p sv m1 m2 S ed b) (s : Nat) (hs : s < 18446744073709551616) (hi : ixS S s = none) (hpos : 0 < S.length) (hS : S.length <= 1000000) :
  Calls Tryz.prog 59 #[.pointer (some ⟨p, 0, none⟩), .int .u64 s] w fun e w' => e = .returned (.int .i64 S.length) /\ GGo w own p m1 m2 (S ++ [s]) ed b w' := by
 obtain ⟨i0, hi0, hz0, hz1, hz2⟩ := info_parts setsT.info
 have L : (Instr.lookup 198 (.map (some m1)) (.int .u64 (s : Int)) true).run Tryz.prog w = .ok (.tuple #[.int .i64 0, .bool false]) w := by
  have := h.look1 hs
  rw [hi] at this
  exact this
 have c1 := h.c1
 have c0 := h.c0
 have hn0 : decide ((S.length : Int) = 0) = false := decide_eq_false (by omega)
 have hn1 : decide (S.length = 0) = false := decide_eq_false (by omega)
 have hn2 : ¬ S = [] := fun e => by rw [e] at hpos; exact absurd hpos (by decide)
 have hn3 : decide (S = []) = false := decide_eq_false hn2
 obtain ⟨wa, hwa⟩ : ∃ wa, wa = w.alloc (.cells #[.int .u64 (s : Int)] 68) := ⟨_, rfl⟩
 have ba : Below w.heap.size w wa := by rw [hwa]; exact (Below.refl _ _).alloc (Nat.le_refl _) _
 have ha := h.below ba
 have a0 := ha.c0
 have a1 := ha.c1
 have ho := ha.row
 have hcell : ∀ j u, [Value.int .u64 (s : Int)][j]? = some u -> wa.cell? ((⟨w.heap.size, 0, none⟩ : Addr).add j) = some u := by rw [hwa]; exact cell_one_new _ _ _
 have hsz : w.heap.size < wa.heap.size := by rw [hwa]; simp
 obtain ⟨A, c, rfl, _, _, _⟩ := own_openG h.row
 have HA := hi_ ha
 have HO := hi_ ho
 have HC := hi_ hcell
 have HB := hi_ ba
 have HD := hi_ dom
 have HNEW := hi_ hi
 have HOK := hi_ h.ok
 have HS := hi_ (setsV_snoc S s)
 clear h ha ho hcell ba dom hi
 go_enter Tryz.func59, Tryz.ntmps59
 go_wp2_with (first
  | (rw [<- hwa]; clear hwa)
  | (at_builtin; refine wpList_append_own_at _ rfl _ _ 104 rfl 0 68 i0 (.int .u64 0) 1 8 Tryz.underlying104 hi0 hz0 hz1 hz2 rfl (by decide) _ _ _ rfl HO.out ⟨w.heap.size, 0, none⟩ 1 1 [.int .u64 (s : Int)] rfl rfl HC.out (fun u hu => by rw [List.mem_singleton.1 hu]; rfl) (by unfold maxLen; omega) (by omega) (Nat.zero_le _) ?_; intro v' w4 ho4 hg4 _ hloc; obtain ⟨A4, c4, rfl, _, _, _⟩ := own_openG ho4; have hR4 := HA.out.blk.block (hg4.block p HA.out.blk.lt (fun e => own_notG HO.out HA.out.blk (by decide) e.symm)); have k0 : w4.cell? ⟨p, 0, none⟩ = _ := hR4.at_ 0; have k1 : w4.cell? ⟨p, 1, none⟩ = _ := hR4.at_ 1; have z0 : w4.frozen? ⟨p, 0, none⟩ = false := hR4.fz 0; have HO4 := hi_ ho4; have HG4 := hi_ hg4; have HL4 := hi_ hloc; have HR4 := hi_ hR4; clear ho4 hg4 hloc hR4)
  | (at_mapUpdate; refine wpList_putF kfS Tryz.underlying198 (by rfl) (.tmp 49) (.tmp 50) (.tmp 51) rfl (HA.out.grew (fun x hx => Nat.lt_of_lt_of_le (HD.out x hx) HB.out.size) hs HNEW.out HO4.out HG4.out HL4.out rfl).1 (by omega) s hs (.int .i64 S.length) rfl rfl rfl ?_; intro w6 hN6 hg6; have HG6 := hi_ (GGo.pre HB.out ((HA.out.grew (fun x hx => Nat.lt_of_lt_of_le (HD.out x hx) HB.out.size) hs HNEW.out HO4.out HG4.out HL4.out rfl).2 w6 hN6 hg6)); clear hN6 hg6))
 go_ret
 exact ⟨rfl, HG6.out⟩
theorem Node_any (dom : ∀ x, own x -> x < w.heap.size) (h : GAt w own p sv m1 m2 S ed b) (s : Nat) (hs : s < 18446744073709551616) (hpos : 0 < S.length) (hS : S.length <= 1000000) :
  Calls Tryz.prog 59 #[.pointer (some ⟨p, 0, none⟩), .int .u64 s] w fun e w' => e = .returned (.int .i64 ((gNode S s).2 : Nat)) /\ GGo w own p m1 m2 (gNode S s).1 ed b w' := by
 cases hi : ixS S s with
 | some i =>
  rw [gNode_some hi]
  refine (Node_old h s i hs hi).mono ?_
  rintro e w' ⟨rfl, rfl⟩
  exact ⟨rfl, GGo.of dom (Fr.refl _ _) h⟩
 | none =>
  rw [gNode_none hi]
  exact Node_new dom h s hs hi hpos hS
theorem GGo.preF {w1 w2 : World} (hb : Fr own w w1) (h : GGo w1 own p m1 m2 S ed b w2) : GGo w own p m1 m2 S ed b w2 := by
 obtain ⟨hf, own', sv', ho, hd⟩ := h
 exact ⟨hb.trans hf, own', sv', fun x hx => (ho x hx).imp id (fun h => Nat.le_trans hb.size h), hd⟩
def ownZ (p g : Nat) (x : Nat) : Prop := x = p \/ x = g \/ x = g + 1
theorem GAt.start {w w2 w3 : World} {p : Nat} (hR : Rec 201 w p #[.slice none 0 0, .map none, .map none])
  (hw2 : w2 = (w.setCell ⟨p, 1, none⟩ (.map (some w.heap.size))).setCell ⟨p, 2, none⟩ (.map (some (w.heap.size + 1)))) (hw3 : w3 = (w2.alloc (.map #[] 0)).alloc (.map #[] 0)) :
  w3.heap.size = w.heap.size + 2 /\ Fr (ownZ p w.heap.size) w w3 /\ GAt w3 (ownZ p w.heap.size) p (.slice none 0 0) w.heap.size (w.heap.size + 1) [] (fun _ => none) 0 := by
 have s2 : w2.heap.size = w.heap.size := by rw [hw2]; simp [World.setCell]
 have s3 : w3.heap.size = w.heap.size + 2 := by rw [hw3]; simp [s2]
 have f2 : Fr (· = p) w w2 := by rw [hw2]; exact (Fr.setCell (own := (· = p)) w (p := ⟨p, 1, none⟩) rfl _).trans (Fr.setCell (own := (· = p)) _ (p := ⟨p, 2, none⟩) rfl _)
 have r2 : Rec 201 w2 p #[.slice none 0 0, .map (some w.heap.size), .map (some (w.heap.size + 1))] := by rw [hw2]; exact (hR.set 1 _).set 2 _
 have b3 : Below w2.heap.size w2 w3 := by rw [hw3]; exact ((Below.refl _ _).alloc (Nat.le_refl _) _).alloc (by simp) _
 have g1 : MapF Tryz.prog 68 litU okU (.int .i64 0) w3 w.heap.size 0 (fun s => atV (ixS [] s)) := by
  have h := MapF.made Tryz.prog 68 litU okU (.int .i64 0) w2
  rw [s2] at h
  rw [hw3]
  exact (h.below ((Below.refl _ _).alloc (Nat.le_refl _) _)).congr (fun _ _ => rfl)
 have g2 : MapF Tryz.prog 236 litE okE (.int .i64 0) w3 (w.heap.size + 1) 0 (fun x => atV none) := by
  have h := MapF.made Tryz.prog 236 litE okE (.int .i64 0) (w2.alloc (.map #[] 0))
  rw [World.size_alloc, s2] at h
  rw [hw3]
  exact h.congr (fun _ _ => rfl)
 refine ⟨s3, (f2.mono (fun x hx => .inl hx)).trans (Fr.ofBelow _ b3), ?_⟩
 exact {
  blk := r2.under b3
  row := World.ownsRow_nil _ _ _ _
  nodes := g1
  edges := g2
  two := by omega
  ownp := .inl rfl
  own1 := .inr (.inl rfl)
  own2 := .inr (.inr rfl)
  ownv := fun x hx => by cases hx
  ok := SOk.nil
  edok := fun _ _ _ h => by cases h }
theorem Node_zero (p : Nat) (w : World) (hR : Rec 201 w p #[.slice none 0 0, .map none, .map none]) :
  Calls Tryz.prog 59 #[.pointer (some ⟨p, 0, none⟩), .int .u64 0] w fun e w' => e = .returned (.int .i64 0) /\ GGo w (ownZ p w.heap.size) p w.heap.size (w.heap.size + 1) [0] (fun _ => none) 0 w' := by
 obtain ⟨i0, hi0, hz0, hz1, hz2⟩ := info_parts setsT.info
 have L : (Instr.lookup 198 (.map none) (.int .u64 0) true).run Tryz.prog w = .ok (.tuple #[.int .i64 0, .bool false]) w := look_none kfS Tryz.underlying198 (zeroI w) (i := 0) (by unfold okU; decide)
 have c0 : w.cell? ⟨p, 0, none⟩ = some (.slice none 0 0) := hR.at_ 0
 have c1 : w.cell? ⟨p, 1, none⟩ = some (.map none) := hR.at_ 1
 have c2 : w.cell? ⟨p, 2, none⟩ = some (.map none) := hR.at_ 2
 have z1 : w.frozen? ⟨p, 1, none⟩ = false := hR.fz 1
 have z2 : w.frozen? ⟨p, 2, none⟩ = false := hR.fz 2
 have hp := hR.lt
 have hmm := @run_makeMap Tryz.prog
 obtain ⟨w2, hw2⟩ : ∃ w2, w2 = (w.setCell ⟨p, 1, none⟩ (.map (some w.heap.size))).setCell ⟨p, 2, none⟩ (.map (some (w.heap.size + 1))) := ⟨_, rfl⟩
 obtain ⟨w3, hw3⟩ : ∃ w3, w3 = (w2.alloc (.map #[] 0)).alloc (.map #[] 0) := ⟨_, rfl⟩
 obtain ⟨wa, hwa⟩ : ∃ wa, wa = w3.alloc (.cells #[.int .u64 0] 68) := ⟨_, rfl⟩
 obtain ⟨s3, F3, G3⟩ := GAt.start hR hw2 hw3
 have hcell : ∀ j u, [Value.int .u64 0][j]? = some u -> wa.cell? ((⟨w.heap.size + 1 + 1, 0, none⟩ : Addr).add j) = some u := by
  have := cell_one_new w3 (.int .u64 0) 68
  rw [s3] at this
  rw [hwa]
  exact this
 have ba : Below w3.heap.size w3 wa := by rw [hwa]; exact (Below.refl _ _).alloc (Nat.le_refl _) _
 have ga := G3.below ba
 have sa : w.heap.size + 2 <= wa.heap.size := by have := ba.size; omega
 have Fa := F3.trans (Fr.ofBelow (ownZ p w.heap.size) ba)
 have dom : ∀ x, ownZ p w.heap.size x -> x < wa.heap.size := fun x hx => by rcases hx with h | h | h <;> omega
 have e2 : ((w.setCell ⟨p, 1, none⟩ (.map (some w.heap.size))).setCell ⟨p, 2, none⟩ (.map (some (w.heap.size + 1)))) = w2 := hw2.symm
 have e3 : ((w2.alloc (.map #[] 0)).alloc (.map #[] 0)) = w3 := hw3.symm
 have hx0 : ixS [] 0 = none := rfl
 have HA := hi_ ga
 have HO := hi_ ga.row
 have HC := hi_ hcell
 have HF := hi_ Fa
 have HD := hi_ dom
 have HE := hi_ (And.intro e2 (And.intro e3 hwa.symm))
 clear ga hcell Fa dom e2 e3 hwa hw2 hw3 ba G3 F3 s3 hR
 go_enter Tryz.func59, Tryz.ntmps59
 go_wp2_with (first
  | (rw [HE.out.1, HE.out.2.1, HE.out.2.2])
  | (at_builtin; refine wpList_append_own_at _ rfl _ _ 104 rfl 0 68 i0 (.int .u64 0) 1 8 Tryz.underlying104 hi0 hz0 hz1 hz2 rfl (by decide) _ _ _ rfl HO.out ⟨w.heap.size + 1 + 1, 0, none⟩ 1 1 [.int .u64 0] rfl rfl HC.out (fun u hu => by rw [List.mem_singleton.1 hu]; rfl) (by unfold maxLen; decide) (by decide) (Nat.zero_le _) ?_; intro v' w4 ho4 hg4 _ hloc; obtain ⟨A4, c4, rfl, _, _, _⟩ := own_openG ho4; have hR4 := HA.out.blk.block (hg4.block p HA.out.blk.lt (fun e => own_notG HO.out HA.out.blk (by decide) e.symm)); have k0 : w4.cell? ⟨p, 0, none⟩ = _ := hR4.at_ 0; have k1 : w4.cell? ⟨p, 1, none⟩ = _ := hR4.at_ 1; have z0 : w4.frozen? ⟨p, 0, none⟩ = false := hR4.fz 0; have HO4 := hi_ ho4; have HG4 := hi_ hg4; have HL4 := hi_ hloc; have HR4 := hi_ hR4; clear ho4 hg4 hloc hR4)
  | (at_mapUpdate; refine wpList_putF kfS Tryz.underlying198 (by rfl) (.tmp 49) (.tmp 50) (.tmp 51) rfl (HA.out.grew HD.out (by decide) hx0 HO4.out HG4.out HL4.out rfl).1 (by decide) 0 (by unfold okU; decide) (.int .i64 0) rfl rfl rfl ?_; intro w6 hN6 hg6; have HG6 := hi_ (GGo.preF HF.out ((HA.out.grew HD.out (by decide) hx0 HO4.out HG4.out HL4.out rfl).2 w6 hN6 hg6)); clear hN6 hg6))
 go_ret
 exact ⟨rfl, HG6.out⟩
theorem GNew_any (w : World) :
  Calls Tryz.prog 76 #[] w fun e w' => e = .returned (.pointer (some ⟨w.heap.size, 0, none⟩)) /\ ∃ own m1 m2, (∀ x, own x -> w.heap.size <= x) /\ Below w.heap.size w w' /\ GGo w own w.heap.size m1 m2 [0] (fun _ => none) 0 w' := by
 obtain ⟨w1, hw1⟩ : ∃ w1, w1 = w.alloc (.cells #[.slice none 0 0, .map none, .map none] 201) := ⟨_, rfl⟩
 have hb : Below w.heap.size w w1 := by rw [hw1]; exact (Below.refl _ _).alloc (Nat.le_refl _) _
 have hR : Rec 201 w1 w.heap.size #[.slice none 0 0, .map none, .map none] := by rw [hw1]; exact Rec.new _ _ _
 have C := hi_ (Node_zero w.heap.size w1 hR)
 have HB := hi_ hb
 clear hR hb
 go_enter Tryz.func76, Tryz.ntmps76
 go_wp2_with (first
  | (rw [<- hw1]; clear hw1)
  | (go_at_call 59; refine C.out.mono ?_; rintro e w2 ⟨rfl, hG2⟩; have HG := hi_ hG2; clear hG2))
 go_ret
 have hh : ∀ x, ownZ w.heap.size w1.heap.size x -> w.heap.size <= x := fun x hx => by
  have := HB.out.size
  rcases hx with h | h | h <;> omega
 exact ⟨rfl, _, _, _, hh, HB.out.trans (HG.out.1.toBelow hh HB.out.size), GGo.pre HB.out HG.out⟩
end
end Go.Proofs.YtaoinkjjmakhaaaGreatDoor
namespace Go.Proofs.YtaoinkjjmakhaaaGreatDoor
set_option maxRecDepth 20000
open Go.RowKit
def edJoin (ed : Int × Int -> Option Nat) (i j : Nat) (c : Int) (x : Int × Int) : Option Nat := if x = ((j : Int), c) then some i else if x = ((i : Int), c) then some j else ed x
theorem atV_join (ed : Int × Int -> Option Nat) (i j : Nat) (c : Int) (x : Int × Int) :
  (if x = ((j : Int), c) then some (Value.int .i64 (i : Int)) else if x = ((i : Int), c) then some (.int .i64 (j : Int)) else atV (ed x)) = atV (edJoin ed i j c x) := by
 unfold edJoin
 by_cases h1 : x = ((j : Int), c)
 ·rw [if_pos h1, if_pos h1]; rfl
 ·rw [if_neg h1, if_neg h1]
  by_cases h2 : x = ((i : Int), c)
  ·rw [if_pos h2, if_pos h2]; rfl
  ·rw [if_neg h2, if_neg h2]
section
variable {w w' : World} {own own' : Nat -> Prop} {p m1 m2 b : Nat} {sv : Value} {S : List Nat} {ed : Int × Int -> Option Nat}
theorem GAt.wfI {i : Nat} (h : i <= 1000000) : (Lit.int .i64 (i : Int)).wf = true := WalkArith.wf_i64 (by omega)
theorem join_any (h : GAt w own p sv m1 m2 S ed b) (i j s t : Nat) (c : Int) (hi : S[i]? = some s) (hj : S[j]? = some t) (hbs : Beside s t c) (hS : S.length <= 1000000) (hb : b <= 1000000) :
  Calls Tryz.prog 154 #[.pointer (some ⟨p, 0, none⟩), .int .i64 i, .int .i64 j, .int .i64 c] w fun e w' => e = .returned (.tuple #[]) /\ Fr own w w' /\ GAt w' own p sv m1 m2 S (edJoin ed i j c) (b + 2) := by
 have hil := (List.getElem?_eq_some_iff.1 hi).1
 have hjl := (List.getElem?_eq_some_iff.1 hj).1
 have wi := GAt.wfI (i := i) (by omega)
 have wj := GAt.wfI (i := j) (by omega)
 have wc : (Lit.int .i64 c).wf = true := WalkArith.wf_i64 (by have := hbs.2.1; have := hbs.2.2.1; omega)
 have c2 := h.c2
 obtain ⟨es2, cl2, hm2⟩ := h.edges.map_at
 have q2 : m2 ≠ p := rec_notM h.blk hm2
 have HA := hi_ h
 have ME := hi_ h.edges
 clear h
 go_enter Tryz.func154, Tryz.ntmps154
 go_wp2_with (first
  | (at_mapUpdate; refine wpList_putF kfE Tryz.underlying199 (by rfl) (.tmp 11) (.tmp 14) (.tmp 15) rfl ME.out (by omega) ((i : Int), c) ⟨wi, wc⟩ (.int .i64 j) rfl rfl rfl ?_; intro w2 hM2 hg2; have f2 : Fr (· = m2) w w2 := (Fr.grown hg2 (fun x hx => by injection hx with hx; exact hx.symm)); have k2 : w2.cell? ⟨p, 2, none⟩ = some (.map (some m2)) := (HA.out.blk.fr f2 (fun e => q2 e.symm)).at_ 2; have M2 := hi_ hM2; have F2 := hi_ f2; clear hM2 hg2 f2)
  | (at_mapUpdate; refine wpList_putF kfE Tryz.underlying199 (by rfl) (.tmp 19) (.tmp 22) (.tmp 23) rfl M2.out (by omega) ((j : Int), c) ⟨wj, wc⟩ (.int .i64 i) rfl rfl rfl ?_; intro w3 hM3 hg3; have f3 : Fr (· = m2) w2 w3 := (Fr.grown hg3 (fun x hx => by injection hx with hx; exact hx.symm)); have M3 := hi_ hM3; have F3 := hi_ (F2.out.trans f3); clear hM3 hg3 f3))
 go_end0
 have h := HA.out
 have n2 : sv.ownBlock ≠ some m2 := own_notM h.row hm2
 refine ⟨rfl, F3.out.mono (fun x hx => by rw [show x = m2 from hx]; exact h.own2), ?_⟩
 exact {
  blk := h.blk.fr F3.out (fun e => q2 e.symm)
  row := own_fr h.row F3.out (fun x hx e => n2 (by rw [hx, show x = m2 from e]))
  nodes := h.nodes.fr F3.out (fun e => h.two e)
  edges := M3.out.congr (fun x _ => atV_join ed i j c x)
  two := h.two
  ownp := h.ownp
  own1 := h.own1
  own2 := h.own2
  ownv := h.ownv
  ok := h.ok
  edok := fun n c' m hm => by
   unfold edJoin at hm
   by_cases h1 : (n, c') = ((j : Int), c)
   ·rw [if_pos h1] at hm
    injection h1 with h1 h2
    injection hm with hm
    subst hm
    rw [h2]
    exact ⟨j, t, s, h1, hj, hi, hbs.symm⟩
   ·rw [if_neg h1] at hm
    by_cases h2 : (n, c') = ((i : Int), c)
    ·rw [if_pos h2] at hm
     injection h2 with h2 h3
     injection hm with hm
     subst hm
     rw [h3]
     exact ⟨i, s, t, h2, hi, hj, hbs⟩
    ·rw [if_neg h2] at hm
     exact h.edok n c' m hm }
def GG (w : World) (own : Nat -> Prop) (p m1 m2 : Nat) (S : List Nat) (b : Nat) (w' : World) : Prop := ∃ ed, GGo w own p m1 m2 S ed b w'
theorem step_no (h : GAt w own p sv m1 m2 S ed b) (F : Value) (n c : Int) (hn : ¬ (0 <= n /\ n < S.length)) :
  Calls Tryz.prog 121 #[.pointer (some ⟨p, 0, none⟩), .int .i64 n, .int .i64 c, F] w fun e w' => e = .returned (.int .i64 (-1)) /\ w = w' := by
 have CS := hi_ (Sig_no h n hn)
 clear h hn
 go_enter Tryz.func121, Tryz.ntmps121
 go_wp2_with (go_at_call 112; refine CS.out.mono ?_; rintro e w' ⟨rfl, rfl⟩)
 go_ret
 exact ⟨rfl, rfl⟩
end
end Go.Proofs.YtaoinkjjmakhaaaGreatDoor
namespace Go.Proofs.YtaoinkjjmakhaaaGreatDoor
set_option maxRecDepth 20000
open Go.RowKit
theorem GAt.mono {w : World} {own : Nat -> Prop} {p m1 m2 b b' : Nat} {sv : Value} {S : List Nat} {ed : Int × Int -> Option Nat} (h : GAt w own p sv m1 m2 S ed b) (hb : b <= b') : GAt w own p sv m1 m2 S ed b' :=
 { h with edges := h.edges.mono hb }
theorem GGo.more {w w3 w4 : World} {own own' : Nat -> Prop} {p m1 m2 b : Nat} {sv : Value} {S : List Nat} {ed : Int × Int -> Option Nat} (F : Fr own w w3) (ho : ∀ x, own' x -> own x \/ w.heap.size <= x) (hd : ∀ x, own' x -> x < w3.heap.size)
  (F4 : Fr own' w3 w4) (h : GAt w4 own' p sv m1 m2 S ed b) : GGo w own p m1 m2 S ed b w4 :=
 ⟨F.trans' F4 ho, own', sv, ho, fun x hx => Nat.lt_of_lt_of_le (hd x hx) F4.size, h⟩
section
variable {w w' : World} {own own' : Nat -> Prop} {p m1 m2 b : Nat} {sv : Value} {S : List Nat} {ed : Int × Int -> Option Nat}
theorem With_chg (s : Nat) (c : Int) (w : World) (hs : s < 18446744073709551616) :
  Calls Tryz.prog 122 #[.int .u64 s, .int .i64 c] w fun e w' => e = .returned (.int .u64 (chg true s c : Nat)) /\ Below w.heap.size w w' := With_any s c w hs
theorem step_With_self (h : GAt w own p sv m1 m2 S ed b) (i s : Nat) (c : Int) (hi : S[i]? = some s) (hs : chg true s c = s) :
  Calls Tryz.prog 121 #[.pointer (some ⟨p, 0, none⟩), .int .i64 i, .int .i64 c, .func (.func 122) #[] #[]] w fun e w' => e = .returned (.int .i64 i) /\ Below w.heap.size w w' := by
 have CS := hi_ (Sig_yes h i s hi)
 have CW := With_chg s c w (h.ok.lt s (List.mem_of_getElem? hi))
 rw [hs] at CW
 have CW := hi_ CW
 clear h hi hs
 go_enter Tryz.func121, Tryz.ntmps121
 go_wp2_with (first
  | (go_at_call 112; refine CS.out.mono ?_; rintro e w' ⟨rfl, rfl⟩)
  | (go_at_call 122; refine CW.out.mono ?_; rintro e w2 ⟨rfl, hb2⟩; have HB2 := hi_ hb2; clear hb2))
 go_ret
 exact ⟨rfl, HB2.out⟩
theorem step_With_old (h : GAt w own p sv m1 m2 S ed b) (i s m : Nat) (c : Int) (hi : S[i]? = some s) (hs : chg true s c ≠ s) (hm : ed ((i : Int), c) = some m) (hS : S.length <= 1000000) :
  Calls Tryz.prog 121 #[.pointer (some ⟨p, 0, none⟩), .int .i64 i, .int .i64 c, .func (.func 122) #[] #[]] w fun e w' => e = .returned (.int .i64 m) /\ Below w.heap.size w w' := by
 have CS := hi_ (Sig_yes h i s hi)
 have hlt := h.ok.lt s (List.mem_of_getElem? hi)
 have CW := With_chg s c w hlt
 have hbs := chg_beside true hlt hs
 have wc : (Lit.int .i64 c).wf = true := WalkArith.wf_i64 (by have := hbs.2.1; have := hbs.2.2.1; omega)
 have hil := (List.getElem?_eq_some_iff.1 hi).1
 have wi := GAt.wfI (i := i) (by omega)
 obtain ⟨t, ht⟩ : ∃ t, t = chg true s c := ⟨_, rfl⟩
 rw [<- ht] at CW hs
 have q1 : decide ((t : Int) = (s : Int)) = false := decide_eq_false (by omega)
 have q2 : ((t : Int) == (s : Int)) = false := beq_false_of_ne (by omega)
 have q3 : decide (t = s) = false := decide_eq_false hs
 have HL : Hid (∀ w2, Below w.heap.size w w2 -> w2.cell? ⟨p, 2, none⟩ = some (.map (some m2)) /\ (Instr.lookup 199 (.map (some m2)) (.agg #[.int .i64 i, .int .i64 c]) true).run Tryz.prog w2 = .ok (.tuple #[.int .i64 m, .bool true]) w2) := hi_ (fun w2 hb => by
  have h2 := h.below hb
  refine ⟨h2.c2, ?_⟩
  have := h2.look2 wi wc
  rw [hm] at this
  exact this)
 have CW := hi_ CW
 clear h hi hs hbs ht hlt wc wi hm hil
 go_enter Tryz.func121, Tryz.ntmps121
 go_wp2_with (first
  | (go_at_call 112; refine CS.out.mono ?_; rintro e w' ⟨rfl, rfl⟩)
  | (go_at_call 122; refine CW.out.mono ?_; rintro e w2 ⟨rfl, hb2⟩; obtain ⟨k2, l2⟩ := HL.out w2 hb2; have HB2 := hi_ hb2; clear hb2))
 go_ret
 exact ⟨rfl, HB2.out⟩
theorem step_With_new (dom : ∀ x, own x -> x < w.heap.size) (h : GAt w own p sv m1 m2 S ed b) (i s : Nat) (c : Int) (hi : S[i]? = some s) (hs : chg true s c ≠ s) (hm : ed ((i : Int), c) = none) (hS : S.length <= 900000) (hb : b <= 1000000) :
  Calls Tryz.prog 121 #[.pointer (some ⟨p, 0, none⟩), .int .i64 i, .int .i64 c, .func (.func 122) #[] #[]] w fun e w' => e = .returned (.int .i64 ((gNode S (chg true s c)).2 : Nat)) /\ GG w own p m1 m2 (gNode S (chg true s c)).1 (b + 2) w' := by
 have CS := hi_ (Sig_yes h i s hi)
 have hlt := h.ok.lt s (List.mem_of_getElem? hi)
 have CW := With_chg s c w hlt
 have hbs := chg_beside true hlt hs
 have htl := chg_lt true c hlt
 have wc : (Lit.int .i64 c).wf = true := WalkArith.wf_i64 (by have := hbs.2.1; have := hbs.2.2.1; omega)
 have hil := (List.getElem?_eq_some_iff.1 hi).1
 have wi := GAt.wfI (i := i) (by omega)
 obtain ⟨t, ht⟩ : ∃ t, t = chg true s c := ⟨_, rfl⟩
 rw [<- ht] at CW hs hbs htl ⊢
 have q1 : decide ((t : Int) = (s : Int)) = false := decide_eq_false (by omega)
 have q2 : ((t : Int) == (s : Int)) = false := beq_false_of_ne (by omega)
 have q3 : decide (t = s) = false := decide_eq_false hs
 have HL : Hid (∀ w2, Below w.heap.size w w2 -> w2.cell? ⟨p, 2, none⟩ = some (.map (some m2)) /\ (Instr.lookup 199 (.map (some m2)) (.agg #[.int .i64 i, .int .i64 c]) true).run Tryz.prog w2 = .ok (.tuple #[.int .i64 0, .bool false]) w2) := hi_ (fun w2 hb => by
  have h2 := h.below hb
  refine ⟨h2.c2, ?_⟩
  have := h2.look2 wi wc
  rw [hm] at this
  exact this)
 have k1 := gNode_keeps (S := S) t hi
 have k2 := gNode_at S t
 have k3 := (gNode_len S t).1
 have HN : Hid (∀ w2, Below w.heap.size w w2 -> Calls Tryz.prog 59 #[.pointer (some ⟨p, 0, none⟩), .int .u64 t] w2 fun e w' => e = .returned (.int .i64 ((gNode S t).2 : Nat)) /\ GGo w2 own p m1 m2 (gNode S t).1 ed b w') :=
  hi_ (fun w2 hb2 => Node_any (fun x hx => Nat.lt_of_lt_of_le (dom x hx) hb2.size) (h.below hb2) t htl (by omega) (by omega))
 obtain ⟨j, hj⟩ : ∃ j, j = (gNode S t).2 := ⟨_, rfl⟩
 obtain ⟨S', hS'⟩ : ∃ S', S' = (gNode S t).1 := ⟨_, rfl⟩
 rw [<- hj, <- hS'] at HN k2 ⊢
 rw [<- hS'] at k1 k3
 have CW := hi_ CW
 have HK := hi_ (And.intro k1 (And.intro k2 (And.intro k3 hbs)))
 clear h hi hs hbs ht hlt wc wi hm hil dom k1 k2 k3 hj hS' htl
 go_enter Tryz.func121, Tryz.ntmps121
 go_wp2_with (first
  | (go_at_call 112; refine CS.out.mono ?_; rintro e w' ⟨rfl, rfl⟩)
  | (go_at_call 122; refine CW.out.mono ?_; rintro e w2 ⟨rfl, hb2⟩; obtain ⟨k2, l2⟩ := HL.out w2 hb2; have CN := hi_ (HN.out w2 hb2); have HB2 := hi_ hb2; clear hb2)
  | (go_at_call 59; refine CN.out.mono ?_; rintro e w3 ⟨rfl, hF3, own', sv', ho', hd', hG3⟩; have CJ := hi_ (join_any hG3 i j s t c HK.out.1 HK.out.2.1 HK.out.2.2.2 (by have := HK.out.2.2.1; omega) hb); have HF3 := hi_ hF3; have HO3 := hi_ (And.intro ho' hd'); clear hF3 ho' hd' hG3)
  | (go_at_call 154; refine CJ.out.mono ?_; rintro e w4 ⟨rfl, hF4, hG4⟩; have HF4 := hi_ hF4; have HG4 := hi_ hG4; clear hF4 hG4))
 go_ret
 exact ⟨rfl, _, GGo.pre HB2.out (GGo.more HF3.out HO3.out.1 HO3.out.2 HF4.out HG4.out)⟩
theorem step_With (dom : ∀ x, own x -> x < w.heap.size) (h : GAt w own p sv m1 m2 S ed b) (n c : Int) (hS : S.length <= 900000) (hb : b <= 1000000) :
  Calls Tryz.prog 121 #[.pointer (some ⟨p, 0, none⟩), .int .i64 n, .int .i64 c, .func (.func 122) #[] #[]] w fun e w' => e = .returned (.int .i64 (gMove S true n c).2) /\ GG w own p m1 m2 (gMove S true n c).1 (b + 2) w' := by
 by_cases hn : 0 <= n /\ n < S.length
 ·obtain ⟨i, rfl⟩ : ∃ i : Nat, n = (i : Int) := ⟨n.toNat, by omega⟩
  have hil : i < S.length := by omega
  obtain ⟨s, hs⟩ : ∃ s, s = S[i] := ⟨_, rfl⟩
  have hi : S[i]? = some s := by rw [List.getElem?_eq_getElem hil, hs]
  have hd : S.getD i 0 = s := by rw [List.getD_eq_getElem?_getD, hi]; rfl
  have hlt := h.ok.lt s (List.mem_of_getElem? hi)
  unfold gMove
  rw [if_pos hn, Int.toNat_natCast, hd]
  by_cases hc : chg true s c = s
  ·have hx := gNode_some (ixS_of_at h.ok.nd hi)
   rw [hc, hx]
   refine (step_With_self h i s c hi hc).mono ?_
   rintro e w' ⟨rfl, hb'⟩
   exact ⟨rfl, ed, GGo.of dom (Fr.ofBelow _ hb') ((h.below hb').mono (by omega))⟩
  ·cases hm : ed ((i : Int), c) with
   | some m =>
    obtain ⟨i', s', t, e1, e2, e3, e4⟩ := h.edok _ _ _ hm
    have e5 : i' = i := by omega
    rw [e5, hi] at e2
    injection e2 with e2
    have e6 := Beside.same hlt (h.ok.lt t (List.mem_of_getElem? e3)) (chg_lt true c hlt) (e2 ▸ e4) (chg_beside true hlt hc)
    rw [e6] at e3
    rw [gNode_some (ixS_of_at h.ok.nd e3)]
    refine (step_With_old h i s m c hi hc hm (by omega)).mono ?_
    rintro e w' ⟨rfl, hb'⟩
    exact ⟨rfl, ed, GGo.of dom (Fr.ofBelow _ hb') ((h.below hb').mono (by omega))⟩
   | none => exact step_With_new dom h i s c hi hc hm hS hb
 ·unfold gMove
  rw [if_neg hn]
  refine (step_no h _ n c hn).mono ?_
  rintro e w' ⟨rfl, rfl⟩
  exact ⟨rfl, ed, GGo.of dom (Fr.refl _ _) (h.mono (by omega))⟩
theorem GWith_any (dom : ∀ x, own x -> x < w.heap.size) (h : GAt w own p sv m1 m2 S ed b) (n c : Int) (hS : S.length <= 900000) (hb : b <= 1000000) :
  Calls Tryz.prog 66 #[.pointer (some ⟨p, 0, none⟩), .int .i64 n, .int .i64 c] w fun e w' => e = .returned (.int .i64 (gMove S true n c).2) /\ GG w own p m1 m2 (gMove S true n c).1 (b + 2) w' := by
 have C := step_With dom h n c hS hb
 obtain ⟨r, hr⟩ : ∃ r, r = (gMove S true n c).2 := ⟨_, rfl⟩
 rw [<- hr] at C ⊢
 have C := hi_ C
 clear h dom hr
 go_enter Tryz.func66, Tryz.ntmps66
 go_wp2_with (go_at_call 121; refine C.out.mono ?_; rintro e w' ⟨rfl, hG⟩; have HG := hi_ hG; clear hG)
 go_ret
 exact ⟨rfl, HG.out⟩
end
end Go.Proofs.YtaoinkjjmakhaaaGreatDoor
namespace Go.Proofs.YtaoinkjjmakhaaaGreatDoor
open Go.RowKit
theorem Within_any (a b : Nat) (w : World) (ha : a < 18446744073709551616) (hb : b < 18446744073709551616) :
  Calls Tryz.prog 123 #[.int .u64 a, .int .u64 b] w fun e w' => e = .returned (.bool (butN a b == 0)) /\ w = w' := by
 have e2 := u64_andNot_nat a b ha hb
 unfold butN
 go_enter Tryz.func123, Tryz.ntmps123
 go_wp2
 go_ret
 exact ⟨ret_bool (by rw [<- Int.natCast_zero, Bool.eq_iff_iff]; simp), rfl⟩
end Go.Proofs.YtaoinkjjmakhaaaGreatDoor
namespace Go.Proofs.YtaoinkjjmakhaaaGreatDoor
open Go.RowKit
theorem Apart_any (a b : Nat) (w : World) (ha : a < 18446744073709551616) (hb : b < 18446744073709551616) :
  Calls Tryz.prog 115 #[.int .u64 a, .int .u64 b] w fun e w' => e = .returned (.bool (a &&& b == 0)) /\ w = w' := by
 have e2 := u64_and_nat a b ha hb
 go_enter Tryz.func115, Tryz.ntmps115
 go_wp2
 go_ret
 exact ⟨ret_bool (by rw [<- Int.natCast_zero, Bool.eq_iff_iff]; simp), rfl⟩
end Go.Proofs.YtaoinkjjmakhaaaGreatDoor
namespace Go.Proofs.YtaoinkjjmakhaaaGreatDoor
set_option maxRecDepth 20000
open Go.RowKit
def fitG (wi wo s : Nat) : Bool := (butN wi s == 0) && (wo &&& s == 0)
def sigsL (S : List Nat) (wi wo : Nat) : Nat -> List Nat
 | 0 => []
 | n + 1 => sigsL S wi wo n ++ if fitG wi wo (S.getD n 0) = true then [n] else []
theorem sigsL_len (S : List Nat) (wi wo : Nat) : ∀ n, (sigsL S wi wo n).length <= n
 | 0 => Nat.le_refl _
 | n + 1 => by
  have := sigsL_len S wi wo n
  unfold sigsL
  split <;> simp <;> omega
section
variable {w w' : World} {own own' : Nat -> Prop} {p m1 m2 b : Nat} {sv : Value} {S : List Nat} {ed : Int × Int -> Option Nat}
theorem Sigs_any (h : GAt w own p sv m1 m2 S ed b) (wi wo : Nat) (hwi : wi < 18446744073709551616) (hwo : wo < 18446744073709551616) (hS : S.length <= 1000000) :
  Calls Tryz.prog 67 #[.pointer (some ⟨p, 0, none⟩), .int .u64 wi, .int .u64 wo] w fun e w' => ∃ v, e = .returned v /\ w'.ownsRow w.heap.size 3 1 v (sigsL S wi wo S.length).length (((sigsL S wi wo S.length).map Int.ofNat).map (Value.int .i64)) /\ Below w.heap.size w w' := by
 obtain ⟨i0, hi0, hz0, hz1, hz2⟩ := info_parts intT.info
 obtain ⟨A, c, rfl, _, _, hr⟩ := own_openG h.row
 have c0 := h.c0
 have hcell : ∀ j, j < S.length -> ∃ g, A = some ⟨g, 0, none⟩ /\ g < w.heap.size /\ w.cell? ⟨g, j, none⟩ = some (.int .u64 (S.getD j 0 : Nat)) /\ S.getD j 0 < 18446744073709551616 := fun j hj => by
  obtain ⟨g, e, hg, hc⟩ := hr (by omega)
  have hi : S[j]? = some (S.getD j 0) := by rw [List.getD_eq_getElem?_getD, List.getElem?_eq_getElem hj]; rfl
  exact ⟨g, e, hg, by rw [hc j hj, setsV_get hi], h.ok.lt _ (List.mem_of_getElem? hi)⟩
 have HC := hi_ hcell
 obtain ⟨n, hn⟩ : ∃ n, n = S.length := ⟨_, rfl⟩
 rw [<- hn] at HC c0 hS ⊢
 clear h hcell hr hn
 go_enter Tryz.func67, Tryz.ntmps67
 go_wp2
 go_loopw [7, 17] (fun v iv wr => ∃ (j : Nat) (pre : List Nat), j <= n /\ iv = .int .i64 j /\ pre = sigsL S wi wo j /\ wr.ownsRow w.heap.size 3 1 v pre.length ((pre.map Int.ofNat).map (Value.int .i64)) /\ Below w.heap.size w wr) (fun _ iv _ => n - (intOf iv).toNat)
 case atStart => exact ⟨0, [], Nat.zero_le _, rfl, rfl, World.ownsRow_nil _ _ _ _, Below.refl _ _⟩
 case round =>
  obtain ⟨j, pre, hj, rfl, hp, ho, hB⟩ := hrel
  have hbs := hB.size
  have HB := hi_ hB
  by_cases hjn : j < n
  ·obtain ⟨g, rfl, hg, hk, hsl⟩ := HC.out j hjn
   have k0 := (hB.cell (p := ⟨g, j, none⟩) hg).trans hk
   have hsn : sigsL S wi wo (j + 1) = pre ++ if fitG wi wo (S.getD j 0) = true then [j] else [] := by rw [hp]; rfl
   have hpl : pre.length <= j := by rw [hp]; exact sigsL_len _ _ _ _
   obtain ⟨s, hs⟩ : ∃ s, s = S.getD j 0 := ⟨_, rfl⟩
   rw [<- hs] at k0 hsl hsn
   have CW := hi_ (Within_any wi s wr hwi hsl)
   have CA := hi_ (Apart_any wo s wr hwo hsl)
   have hf : fitG wi wo s = ((butN wi s == 0) && (wo &&& s == 0)) := rfl
   obtain ⟨b1, hb1⟩ : ∃ x, x = (butN wi s == 0) := ⟨_, rfl⟩
   obtain ⟨b2, hb2⟩ : ∃ x, x = (wo &&& s == 0) := ⟨_, rfl⟩
   rw [<- hb1] at CW
   rw [<- hb2] at CA
   rw [<- hb1, <- hb2] at hf
   rw [hf] at hsn
   clear hB hp hk hs hf hb1 hb2 hsl
   by_cases hb : (b1 && b2) = true
   ·rw [if_pos hb] at hsn
    obtain ⟨rfl, rfl⟩ : b1 = true /\ b2 = true := by simpa using hb
    have HSN := hi_ hsn
    clear hsn hb
    go_wp2_with (first
     | (go_at_call 123; refine CW.out.mono ?_; rintro e w' ⟨rfl, rfl⟩)
     | (go_at_call 115; refine CA.out.mono ?_; rintro e w' ⟨rfl, rfl⟩)
     | (at_builtin; refine wpList_append_own_at _ rfl _ _ 38 rfl w.heap.size 3 i0 (.int .i64 0) 1 8 Tryz.underlying38 hi0 hz0 hz1 hz2 rfl (by decide) _ _ _ rfl (ho.alloc _) ⟨wr.heap.size, 0, none⟩ 1 1 [.int .i64 j] rfl rfl (cell_one_new _ _ _) (fun u hu => by rw [List.mem_singleton.1 hu]; rfl) (by unfold maxLen; omega) (by omega) (by simp; omega) ?_; intro v' w4 ho4 hg4 _ _; try go_frame))
    go_roundw
    case rel =>
     refine ⟨j + 1, pre ++ [j], hjn, by go_num, HSN.out.symm, ?_, (HB.out.alloc hbs _).grown hg4 (by simp; omega) (fun q hq => (ho.lt q hq).1)⟩
     simpa using ho4
    case measure => simp [intOf]; omega
   ·rw [if_neg hb, List.append_nil] at hsn
    have HSN := hi_ hsn
    clear hsn
    cases b1
    ·clear CA
     go_wp2_with (first
      | (go_at_call 123; refine CW.out.mono ?_; rintro e w' ⟨rfl, rfl⟩))
     go_roundw
     case rel => exact ⟨j + 1, pre, hjn, by go_num, HSN.out.symm, ho, HB.out⟩
     case measure => simp [intOf]; omega
    ·obtain rfl : b2 = false := by simpa using hb
     clear hb
     go_wp2_with (first
      | (go_at_call 123; refine CW.out.mono ?_; rintro e w' ⟨rfl, rfl⟩)
      | (go_at_call 115; refine CA.out.mono ?_; rintro e w' ⟨rfl, rfl⟩))
     go_roundw
     case rel => exact ⟨j + 1, pre, hjn, by go_num, HSN.out.symm, ho, HB.out⟩
     case measure => simp [intOf]; omega
  ·obtain rfl : j = n := by omega
   have HP := hi_ hp
   clear hp hB
   go_wp2
   go_ret
   have e := HP.out
   subst e
   exact ⟨_, rfl, ho, HB.out⟩
end
end Go.Proofs.YtaoinkjjmakhaaaGreatDoor
namespace Go.Proofs.YtaoinkjjmakhaaaGreatDoor
open Go.RowKit Go.Maps
def MapE (P : Program) (k : TypeId) {ι : Type} (lit : ι -> Lit) (ok : ι -> Prop) (z : Value) (w : World) (m n : Nat) (f : ι -> Option Value) : Prop :=
 ∃ D : DataW Value, w.ownsMap P k itself m n D /\ Maps.size D = n /\ (∀ i, ok i -> D.atKey (lit i) (.held z) = .held ((f i).getD z)) /\ (∀ i, ok i -> Maps.has D (lit i) = (f i).isSome) /\ ∀ kl, Maps.has D kl = true -> ∃ i, ok i /\ kl = lit i
section
variable {P : Program} {k e T : TypeId} {ι : Type} {val : ι -> Value} {lit : ι -> Lit} {ok : ι -> Prop} {z : Value} {w w' : World} {m n : Nat} {f : ι -> Option Value}
theorem MapE.made (P : Program) (k : TypeId) (lit : ι -> Lit) (ok : ι -> Prop) (z : Value) (w : World) : MapE P k lit ok z (w.alloc (.map #[] 0)) w.heap.size 0 (fun _ => none) :=
 ⟨.map [], World.ownsMap_made w P k itself, rfl, fun _ _ => rfl, fun _ _ => rfl, fun kl h => by cases h⟩
theorem MapE.lt (h : MapE P k lit ok z w m n f) : m < w.heap.size := by obtain ⟨D, ho, _⟩ := h; exact ho.lt
theorem MapE.block (h : MapE P k lit ok z w m n f) (hb : w'.heap[m]? = w.heap[m]?) : MapE P k lit ok z w' m n f := by
 obtain ⟨D, ⟨es, clock, hm, r⟩, h2⟩ := h
 exact ⟨D, ⟨es, clock, hb.trans hm, r⟩, h2⟩
theorem MapE.fr {own : Nat -> Prop} (h : MapE P k lit ok z w m n f) (hf : Fr own w w') (hn : ¬ own m) : MapE P k lit ok z w' m n f := h.block (hf.block m h.lt hn)
theorem MapE.below (h : MapE P k lit ok z w m n f) (hb : Below w.heap.size w w') : MapE P k lit ok z w' m n f := h.block (hb.block m h.lt)
theorem MapE.congr {f' : ι -> Option Value} (h : MapE P k lit ok z w m n f) (hf : ∀ i, ok i -> f i = f' i) : MapE P k lit ok z w m n f' := by
 obtain ⟨D, ho, h0, h1, h2, h3⟩ := h
 exact ⟨D, ho, h0, fun i hi => by rw [h1 i hi, hf i hi], fun i hi => by rw [h2 i hi, hf i hi], h3⟩
theorem MapE.look_ok (K : Kf P k val lit ok) (h : MapE P k lit ok z w m n f) (hT : P.underlying T = some (.map k e)) (hz : (zeroValue e).run P w = .ok z w) {i : ι} (hi : ok i) :
  (Instr.lookup T (.map (some m)) (val i) true).run P w = .ok (.tuple #[(f i).getD z, .bool (f i).isSome]) w := by
 obtain ⟨D, ho, _, hat, hh, _⟩ := h
 obtain ⟨v, ps, hrun, hv⟩ := ho.look_ok K.law hT hz (zd := .held z) (zp := []) rfl (K.key hi)
 rw [hat i hi] at hv
 simp only [itself, Option.some.injEq, Prod.mk.injEq, DataW.held.injEq] at hv
 rw [hrun, hv.1, hh i hi]
theorem MapE.look (K : Kf P k val lit ok) (h : MapE P k lit ok z w m n f) (hT : P.underlying T = some (.map k e)) (hz : (zeroValue e).run P w = .ok z w) {i : ι} (hi : ok i) :
  (Instr.lookup T (.map (some m)) (val i) false).run P w = .ok ((f i).getD z) w := by
 obtain ⟨D, ho, _, hat, _⟩ := h
 obtain ⟨v, ps, hrun, hv⟩ := ho.lookup K.law hT hz (zd := .held z) (zp := []) rfl (K.key hi)
 rw [hat i hi] at hv
 simp only [itself, Option.some.injEq, Prod.mk.injEq, DataW.held.injEq] at hv
 rw [hrun, hv.1]
theorem MapE.len (h : MapE P k lit ok z w m n f) (hT : P.underlying T = some (.map k e)) (ty : TypeId) : (Builtin.len_ #[T] ty #[.map (some m)]).run P w = .ok (.int .i64 n) w := by
 obtain ⟨D, ho, hs, _⟩ := h
 rw [ho.len hT ty, hs]
theorem MapE.put [DecidableEq ι] (K : Kf P k val lit ok) (h : MapE P k lit ok z w m n f) (hT : P.underlying T = some (.map k e)) (hn : n < maxLen) {i : ι} (hi : ok i) (v : Value) :
  ∃ w', (Instr.mapUpdate T (.map (some m)) (val i) v).run P w = .ok () w' /\ MapE P k lit ok z w' m (if (f i).isSome = true then n else n + 1) (fun j => if j = i then some v else f j) /\ w.grownBy w' (some m) := by
 obtain ⟨D, ho, hs, hat, hh, hk⟩ := h
 obtain ⟨w', hrun, ho', hg⟩ := ho.update K.law hT hn (val := v) (d := .held v) (ps := []) (K.key hi) rfl
 have hkl := K.law.key (K.key hi)
 have hsz := Maps.size_put (k := lit i) (ho.tidy K.law) (.held v)
 rw [hh i hi, hs] at hsz
 refine ⟨w', hrun, ⟨_, by rw [<- hsz]; exact ownsMap_tight ho', hsz, fun j hj => ?_, fun j hj => ?_, fun kl hkl' => ?_⟩, hg⟩
 ·by_cases e : j = i
  ·subst e
   simp only [if_true]
   exact Maps.atKey_put_same ho.isMap hkl _ _
  ·simp only [if_neg e]
   rw [Maps.atKey_put_other (fun h => e (K.inj hj hi h)), hat j hj]
 ·by_cases e : j = i
  ·subst e
   simp only [if_true]
   exact Maps.has_put_same ho.isMap hkl _
  ·simp only [if_neg e]
   rw [Maps.has_put_other (fun h => e (K.inj hj hi h)), hh j hj]
 ·by_cases e : kl = lit i
  ·exact ⟨i, hi, e⟩
  ·rw [Maps.has_put_other e] at hkl'
   exact hk kl hkl'
theorem MapE.drop [DecidableEq ι] (K : Kf P k val lit ok) (h : MapE P k lit ok z w m n f) (hT : P.underlying T = some (.map k e)) {i : ι} (hi : ok i) (ty : TypeId) :
  ∃ w', (Builtin.delete_ #[T, k] ty #[.map (some m), val i]).run P w = .ok (.tuple #[]) w' /\ MapE P k lit ok z w' m (if (f i).isSome = true then n - 1 else n) (fun j => if j = i then none else f j) /\ w.grownBy w' (some m) := by
 obtain ⟨D, ho, hs, hat, hh, hk⟩ := h
 obtain ⟨w', hrun, ho', hg⟩ := ho.drop K.law hT (K.key hi) ty
 have hsz := Maps.size_del (k := lit i) (ho.tidy K.law)
 rw [hh i hi, hs] at hsz
 have hsz' : Maps.size (D.del (lit i)) = if (f i).isSome = true then n - 1 else n := by split at hsz <;> rename_i hx <;> simp [hx] <;> omega
 refine ⟨w', hrun, ⟨_, by rw [<- hsz']; exact ownsMap_tight ho', hsz', fun j hj => ?_, fun j hj => ?_, fun kl hkl' => ?_⟩, World.mapTurned.grown hg⟩
 ·by_cases e : j = i
  ·subst e
   simp only [if_true]
   exact Maps.atKey_del_same _
  ·simp only [if_neg e]
   rw [Maps.atKey_del_other (fun h => e (K.inj hj hi h)), hat j hj]
 ·by_cases e : j = i
  ·subst e
   simp only [if_true]
   exact Maps.has_del_same
  ·simp only [if_neg e]
   rw [Maps.has_del_other (fun h => e (K.inj hj hi h)), hh j hj]
 ·by_cases e : kl = lit i
  ·rw [e, Maps.has_del_same] at hkl'; cases hkl'
  ·rw [Maps.has_del_other e] at hkl'
   exact hk kl hkl'
end
section
variable {P : Program} {ops : Array Oper} {o : Oper} {a : Act} {w : World} {K : Act -> World -> Prop} {Q : Exit -> Act -> World -> Prop} {E : Prop} {z : Value} {m n : Nat}
variable {ι : Type} {val : ι -> Value} {lit : ι -> Lit} {ok : ι -> Prop} {f : ι -> Option Value}
theorem step_dropE [DecidableEq ι] {k e T : TypeId} (KF : Kf P k val lit ok) (hT : P.underlying T = some (.map k e)) (hgd : Region.wanted o (yielded ops a.tmps) = true) (mo x : Operand) (ho : o.op = Op.call { callee := Callee.builtin Builtin.delete, args := #[mo, x], argTypes := #[T, k] })
  (h : MapE P k lit ok z w m n f) (i : ι) (hi : ok i) (hm : a.eval mo = .map (some m)) (hx : a.eval x = val i)
  (hK : ∀ w', MapE P k lit ok z w' m (if (f i).isSome = true then n - 1 else n) (fun j => if j = i then none else f j) -> w.grownBy w' (some m) -> K (a.put o.dst (.tuple #[])) w') :
  if Region.wanted o (yielded ops a.tmps) = true then Oper.wp P o a w K Q else E := by
 rw [if_pos hgd]
 obtain ⟨w', hrun, r1, r2⟩ := h.drop KF hT hi o.type
 unfold Oper.wp
 simp [execOp, ho, resolve, invoke, builtin, hm, hx, hrun, Result.andThen]
 exact hK w' r1 r2
end
end Go.Proofs.YtaoinkjjmakhaaaGreatDoor
