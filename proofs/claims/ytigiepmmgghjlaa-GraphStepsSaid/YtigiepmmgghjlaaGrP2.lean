/- The contracts of Node and New. -/
import Derived.Test.YtigiepmmgghjlaaGrP1
import Derived.WalkSmall
namespace Go.Proofs.Ytigiepmmgghjlaa
open Go.RowKit

theorem own_tagG {w : World} {B e n : Nat} {v : Value} {xs : List Value} (h : w.ownsRow B e 1 v n xs) {x : Nat} (hx : v.ownBlock = some x) : ∃ C, w.heap[x]? = some (.cells C e (0, 0)) := by
  rcases h.2 with ⟨rfl, _⟩ | ⟨g, cap, cur, rfl, _, hh, _⟩
  · cases hx
  · simp [Value.ownBlock] at hx
    subst hx
    exact ⟨_, hh⟩
theorem own_notG {w : World} {B e n q : Nat} {T : TypeId} {C : Array Value} {v : Value} {xs : List Value} (h : w.ownsRow B e 1 v n xs) (hq : w.heap[q]? = some (.cells C T (0, 0))) (hne : T ≠ e) : v.ownBlock ≠ some q := fun hx => by
  obtain ⟨D, hD⟩ := own_tagG h hx
  rw [hq] at hD
  injection hD with hD
  injection hD with _ h2
  exact hne h2
theorem own_notM {w : World} {B e n q : Nat} {es : Array MapEntry} {cl : Nat} {v : Value} {xs : List Value} (h : w.ownsRow B e 1 v n xs) (hq : w.heap[q]? = some (.map es cl)) : v.ownBlock ≠ some q := fun hx => by
  obtain ⟨D, hD⟩ := own_tagG h hx
  rw [hq] at hD
  cases hD
theorem rec_notM {w : World} {q p : Nat} {es : Array MapEntry} {cl : Nat} {T : TypeId} {C : Array Value} (h : Rec T w p C) (hq : w.heap[q]? = some (.map es cl)) : q ≠ p := fun e => by
  have h' : w.heap[p]? = some (.cells C T (0, 0)) := h
  rw [← e, hq] at h'
  cases h'

/-- A graph went on: only its own blocks turned. -/
def GGo (w : World) (own : Nat → Prop) (p m1 m2 : Nat) (S : List Nat) (ed : Int × Int → Option Nat) (b : Nat) (w' : World) : Prop :=
  Fr own w w' ∧ ∃ own' sv', (∀ x, own' x → own x ∨ w.heap.size ≤ x) ∧ (∀ x, own' x → x < w'.heap.size) ∧ GAt w' own' p sv' m1 m2 S ed b
theorem GGo.of {w w' : World} {own : Nat → Prop} {p m1 m2 b : Nat} {sv : Value} {S : List Nat} {ed : Int × Int → Option Nat} (dom : ∀ x, own x → x < w.heap.size) (hf : Fr own w w') (h : GAt w' own p sv m1 m2 S ed b) : GGo w own p m1 m2 S ed b w' :=
  ⟨hf, own, sv, fun _ hx => .inl hx, fun x hx => Nat.lt_of_lt_of_le (dom x hx) hf.size, h⟩
theorem GGo.pre {w w1 w2 : World} {own : Nat → Prop} {p m1 m2 b : Nat} {S : List Nat} {ed : Int × Int → Option Nat} (hb : Below w.heap.size w w1) (h : GGo w1 own p m1 m2 S ed b w2) : GGo w own p m1 m2 S ed b w2 := by
  obtain ⟨hf, own', sv', ho, hd⟩ := h
  exact ⟨(Fr.ofBelow own hb).trans hf, own', sv', fun x hx => (ho x hx).imp id (fun h => Nat.le_trans hb.size h), hd⟩

section
variable {w w' : World} {own own' : Nat → Prop} {p m1 m2 b : Nat} {sv : Value} {S : List Nat} {ed : Int × Int → Option Nat}

theorem Node_nil (s : Nat) (w : World) : Calls Try.prog 14 #[.pointer none, .int .u64 s] w fun e w' => e = .returned (.int .i64 (-1)) ∧ w = w' := by
  go_enter Try.func14, Try.ntmps14
  go_wp2
  go_ret
  exact ⟨rfl, rfl⟩
theorem Node_old (h : GAt w own p sv m1 m2 S ed b) (s i : Nat) (hs : s < 18446744073709551616) (hi : ixS S s = some i) :
    Calls Try.prog 14 #[.pointer (some ⟨p, 0, none⟩), .int .u64 s] w fun e w' => e = .returned (.int .i64 i) ∧ w = w' := by
  have L : (Instr.lookup 48 (.map (some m1)) (.int .u64 (s : Int)) true).run Try.prog w = .ok (.tuple #[.int .i64 i, .bool true]) w := by
    have := h.look1 hs
    rw [hi] at this
    exact this
  have c1 := h.c1
  clear h
  go_enter Try.func14, Try.ntmps14
  go_wp2
  go_ret
  exact ⟨rfl, rfl⟩

theorem atV_snoc {S : List Nat} {s : Nat} (hi : ixS S s = none) (j : Nat) : (if j = s then some (Value.int .i64 (S.length : Int)) else atV (ixS S j)) = atV (ixS (S ++ [s]) j) := by
  rw [ixS_snoc hi]
  by_cases e : j = s
  · rw [if_pos e, if_pos e]; rfl
  · rw [if_neg e, if_neg e]

/-- The world behind the append of one set, its store, and the update of the places. -/
theorem GAt.grew {wa w4 w5 : World} {v' : Value} {s : Nat} (dom : ∀ x, own x → x < wa.heap.size) (ha : GAt wa own p sv m1 m2 S ed b) (hs : s < 18446744073709551616) (hi : ixS S s = none)
    (ho4 : w4.ownsRow 0 23 1 v' (S.length + 1) (setsV S ++ [.int .u64 (s : Int)])) (hg4 : wa.grownBy w4 sv.ownBlock) (hloc : v'.ownBlock = sv.ownBlock ∨ v'.ownBlock = some wa.heap.size) (hw5 : w5 = w4.setCell ⟨p, 0, none⟩ v') :
    MapF Try.prog 23 litU okU (.int .i64 0) w5 m1 S.length (fun s => atV (ixS S s)) ∧
    ∀ w6, MapF Try.prog 23 litU okU (.int .i64 0) w6 m1 (S.length + 1) (fun j => if j = s then some (.int .i64 (S.length : Int)) else atV (ixS S j)) → w5.grownBy w6 (some m1) → GGo wa own p m1 m2 (S ++ [s]) ed b w6 := by
  obtain ⟨es1, cl1, hm1⟩ := ha.nodes.map_at
  obtain ⟨es2, cl2, hm2⟩ := ha.edges.map_at
  have np : sv.ownBlock ≠ some p := own_notG ha.row ha.blk (by decide)
  have n1 : sv.ownBlock ≠ some m1 := own_notM ha.row hm1
  have n2 : sv.ownBlock ≠ some m2 := own_notM ha.row hm2
  have q1 : m1 ≠ p := rec_notM ha.blk hm1
  have q2 : m2 ≠ p := rec_notM ha.blk hm2
  have hR4 : Rec 51 w4 p #[sv, .map (some m1), .map (some m2)] := ha.blk.block (hg4.block p ha.blk.lt (fun e => np e.symm))
  have hN4 := ha.nodes.block (hg4.block m1 ha.nodes.lt (fun e => n1 e.symm))
  have hE4 := ha.edges.block (hg4.block m2 ha.edges.lt (fun e => n2 e.symm))
  have f5 : Fr (· = p) w4 w5 := by rw [hw5]; exact Fr.setCell (own := (· = p)) w4 (p := ⟨p, 0, none⟩) rfl _
  have hR5 : Rec 51 w5 p #[v', .map (some m1), .map (some m2)] := by rw [hw5]; exact hR4.set 0 v'
  have hv4 : v'.ownBlock ≠ some p := own_notG ho4 hR4 (by decide)
  have hO5 := own_fr ho4 f5 (fun x hx e => hv4 (by rw [hx, show x = p from e]))
  have hN5 := hN4.fr f5 (fun e => q1 e)
  have hE5 := hE4.fr f5 (fun e => q2 e)
  have F4 : Fr own wa w4 := Fr.grown hg4 (fun x hx => ha.ownv x hx)
  have F5 : Fr own wa w5 := F4.trans' f5 (fun x hx => .inl (by rw [show x = p from hx]; exact ha.ownp))
  refine ⟨hN5, fun w6 hN6 hg6 => ?_⟩
  obtain ⟨es5, cl5, hm5⟩ := hN5.map_at
  have nv5 : v'.ownBlock ≠ some m1 := own_notM hO5 hm5
  have F6 : Fr own wa w6 := F5.trans' (Fr.grown (own := (· = m1)) hg6 (fun x hx => by injection hx with hx; exact hx.symm)) (fun x hx => .inl (by rw [show x = m1 from hx]; exact ha.own1))
  have f6 : Fr (· = m1) w5 w6 := Fr.grown hg6 (fun x hx => by injection hx with hx; exact hx.symm)
  refine ⟨F6, fun x => own x ∨ v'.ownBlock = some x, v', fun x hx => ?_, fun x hx => ?_, ?_⟩
  · rcases hx with hx | hx
    · exact .inl hx
    · rcases hloc with h | h
      · exact .inl (ha.ownv x (by rw [← h]; exact hx))
      · rw [h] at hx
        injection hx with hx
        exact .inr (by omega)
  · rcases hx with hx | hx
    · exact Nat.lt_of_lt_of_le (dom x hx) F6.size
    · obtain ⟨C, hC⟩ := own_tagG hO5 hx
      exact Nat.lt_of_lt_of_le (Array.getElem?_eq_some_iff.1 hC).1 f6.size
  · exact {
      blk := hR5.fr f6 (fun e => q1 e.symm)
      row := by
        have := own_fr hO5 f6 (fun x hx e => nv5 (by rw [hx, show x = m1 from e]))
        rw [setsV_snoc, List.length_append]
        exact this
      nodes := by
        rw [List.length_append]
        exact hN6.congr (fun j _ => atV_snoc hi j)
      edges := hE5.fr f6 (fun e => ha.two e.symm)
      two := ha.two
      ownp := .inl ha.ownp
      own1 := .inl ha.own1
      own2 := .inl ha.own2
      ownv := fun x hx => .inr hx
      ok := ha.ok.snoc hs hi
      edok := fun n c m h => by
        obtain ⟨i, s', t, e1, e2, e3, e4⟩ := ha.edok n c m h
        exact ⟨i, s', t, e1, by rw [List.getElem?_append_left (List.getElem?_eq_some_iff.1 e2).1]; exact e2, by rw [List.getElem?_append_left (List.getElem?_eq_some_iff.1 e3).1]; exact e3, e4⟩ }

theorem Node_new (dom : ∀ x, own x → x < w.heap.size) (h : GAt w own p sv m1 m2 S ed b) (s : Nat) (hs : s < 18446744073709551616) (hi : ixS S s = none) (hpos : 0 < S.length) (hS : S.length ≤ 1000000) :
    Calls Try.prog 14 #[.pointer (some ⟨p, 0, none⟩), .int .u64 s] w fun e w' => e = .returned (.int .i64 S.length) ∧ GGo w own p m1 m2 (S ++ [s]) ed b w' := by
  obtain ⟨i0, hi0, hz0, hz1, hz2⟩ := info_parts setsT.info
  have L : (Instr.lookup 48 (.map (some m1)) (.int .u64 (s : Int)) true).run Try.prog w = .ok (.tuple #[.int .i64 0, .bool false]) w := by
    have := h.look1 hs
    rw [hi] at this
    exact this
  have c1 := h.c1
  have c0 := h.c0
  have hn0 : decide ((S.length : Int) = 0) = false := decide_eq_false (by omega)
  have hn1 : decide (S.length = 0) = false := decide_eq_false (by omega)
  have hn2 : ¬ S = [] := fun e => by rw [e] at hpos; exact absurd hpos (by decide)
  have hn3 : decide (S = []) = false := decide_eq_false hn2
  obtain ⟨wa, hwa⟩ : ∃ wa, wa = w.alloc (.cells #[.int .u64 (s : Int)] 23) := ⟨_, rfl⟩
  have ba : Below w.heap.size w wa := by rw [hwa]; exact (Below.refl _ _).alloc (Nat.le_refl _) _
  have ha := h.below ba
  have a0 := ha.c0
  have a1 := ha.c1
  have ho := ha.row
  have hcell : ∀ j u, [Value.int .u64 (s : Int)][j]? = some u → wa.cell? ((⟨w.heap.size, 0, none⟩ : Addr).add j) = some u := by rw [hwa]; exact cell_one_new _ _ _
  have hsz : w.heap.size < wa.heap.size := by rw [hwa]; simp
  obtain ⟨A, c, rfl, _, _, _⟩ := own_openG h.row
  have HA := Lib.hid ha
  have HO := Lib.hid ho
  have HC := Lib.hid hcell
  have HB := Lib.hid ba
  have HD := Lib.hid dom
  have HNEW := Lib.hid hi
  have HOK := Lib.hid h.ok
  have HS := Lib.hid (setsV_snoc S s)
  clear h ha ho hcell ba dom hi
  go_enter Try.func14, Try.ntmps14
  go_wp2_with (first
    | (rw [← hwa]; clear hwa)
    | (at_builtin; refine wpList_append_own_at _ rfl _ _ 27 rfl 0 23 i0 (.int .u64 0) 1 8 Try.underlying27 hi0 hz0 hz1 hz2 rfl (by decide) _ _ _ rfl HO.out ⟨w.heap.size, 0, none⟩ 1 1 [.int .u64 (s : Int)] rfl rfl HC.out (fun u hu => by rw [List.mem_singleton.1 hu]; rfl) (by unfold maxLen; omega) (by omega) (Nat.zero_le _) ?_; intro v' w4 ho4 hg4 _ hloc; obtain ⟨A4, c4, rfl, _, _, _⟩ := own_openG ho4; have hR4 := HA.out.blk.block (hg4.block p HA.out.blk.lt (fun e => own_notG HO.out HA.out.blk (by decide) e.symm)); have k0 : w4.cell? ⟨p, 0, none⟩ = _ := hR4.at_ 0; have k1 : w4.cell? ⟨p, 1, none⟩ = _ := hR4.at_ 1; have z0 : w4.frozen? ⟨p, 0, none⟩ = false := hR4.fz 0; have HO4 := Lib.hid ho4; have HG4 := Lib.hid hg4; have HL4 := Lib.hid hloc; have HR4 := Lib.hid hR4; clear ho4 hg4 hloc hR4)
    | (at_mapUpdate; refine wpList_putF kfS Try.underlying48 (by rfl) (.tmp 49) (.tmp 50) (.tmp 51) rfl (HA.out.grew (fun x hx => Nat.lt_of_lt_of_le (HD.out x hx) HB.out.size) hs HNEW.out HO4.out HG4.out HL4.out rfl).1 (by omega) s hs (.int .i64 S.length) rfl rfl rfl ?_; intro w6 hN6 hg6; have HG6 := Lib.hid (GGo.pre HB.out ((HA.out.grew (fun x hx => Nat.lt_of_lt_of_le (HD.out x hx) HB.out.size) hs HNEW.out HO4.out HG4.out HL4.out rfl).2 w6 hN6 hg6)); clear hN6 hg6))
  go_ret
  exact ⟨rfl, HG6.out⟩

theorem Node_any (dom : ∀ x, own x → x < w.heap.size) (h : GAt w own p sv m1 m2 S ed b) (s : Nat) (hs : s < 18446744073709551616) (hpos : 0 < S.length) (hS : S.length ≤ 1000000) :
    Calls Try.prog 14 #[.pointer (some ⟨p, 0, none⟩), .int .u64 s] w fun e w' => e = .returned (.int .i64 ((gNode S s).2 : Nat)) ∧ GGo w own p m1 m2 (gNode S s).1 ed b w' := by
  cases hi : ixS S s with
  | some i =>
    rw [gNode_some hi]
    refine (Node_old h s i hs hi).mono ?_
    rintro e w' ⟨rfl, rfl⟩
    exact ⟨rfl, GGo.of dom (Fr.refl _ _) h⟩
  | none =>
    rw [gNode_none hi]
    exact Node_new dom h s hs hi hpos hS

theorem GGo.preF {w1 w2 : World} (hb : Fr own w w1) (h : GGo w1 own p m1 m2 S ed b w2) : GGo w own p m1 m2 S ed b w2 := by
  obtain ⟨hf, own', sv', ho, hd⟩ := h
  exact ⟨hb.trans hf, own', sv', fun x hx => (ho x hx).imp id (fun h => Nat.le_trans hb.size h), hd⟩
/-- Whose blocks a new graph's are. -/
def ownZ (p g : Nat) (x : Nat) : Prop := x = p ∨ x = g ∨ x = g + 1
theorem GAt.start {w w2 w3 : World} {p : Nat} (hR : Rec 51 w p #[.slice none 0 0, .map none, .map none])
    (hw2 : w2 = (w.setCell ⟨p, 1, none⟩ (.map (some w.heap.size))).setCell ⟨p, 2, none⟩ (.map (some (w.heap.size + 1)))) (hw3 : w3 = (w2.alloc (.map #[] 0)).alloc (.map #[] 0)) :
    w3.heap.size = w.heap.size + 2 ∧ Fr (ownZ p w.heap.size) w w3 ∧ GAt w3 (ownZ p w.heap.size) p (.slice none 0 0) w.heap.size (w.heap.size + 1) [] (fun _ => none) 0 := by
  have s2 : w2.heap.size = w.heap.size := by rw [hw2]; simp [World.setCell]
  have s3 : w3.heap.size = w.heap.size + 2 := by rw [hw3]; simp [s2]
  have f2 : Fr (· = p) w w2 := by rw [hw2]; exact (Fr.setCell (own := (· = p)) w (p := ⟨p, 1, none⟩) rfl _).trans (Fr.setCell (own := (· = p)) _ (p := ⟨p, 2, none⟩) rfl _)
  have r2 : Rec 51 w2 p #[.slice none 0 0, .map (some w.heap.size), .map (some (w.heap.size + 1))] := by rw [hw2]; exact (hR.set 1 _).set 2 _
  have b3 : Below w2.heap.size w2 w3 := by rw [hw3]; exact ((Below.refl _ _).alloc (Nat.le_refl _) _).alloc (by simp) _
  have g1 : MapF Try.prog 23 litU okU (.int .i64 0) w3 w.heap.size 0 (fun s => atV (ixS [] s)) := by
    have h := MapF.made Try.prog 23 litU okU (.int .i64 0) w2
    rw [s2] at h
    rw [hw3]
    exact (h.below ((Below.refl _ _).alloc (Nat.le_refl _) _)).congr (fun _ _ => rfl)
  have g2 : MapF Try.prog 60 litE okE (.int .i64 0) w3 (w.heap.size + 1) 0 (fun x => atV none) := by
    have h := MapF.made Try.prog 60 litE okE (.int .i64 0) (w2.alloc (.map #[] 0))
    rw [World.size_alloc, s2] at h
    rw [hw3]
    exact h.congr (fun _ _ => rfl)
  refine ⟨s3, (f2.mono (fun x hx => .inl hx)).trans (Fr.ofBelow _ b3), ?_⟩
  exact {
    blk := r2.under b3
    row := World.ownsRow_nil _ _ _ _
    nodes := g1
    edges := g2
    two := by omega
    ownp := .inl rfl
    own1 := .inr (.inl rfl)
    own2 := .inr (.inr rfl)
    ownv := fun x hx => by cases hx
    ok := SOk.nil
    edok := fun _ _ _ h => by cases h }

/-- The first node, in a graph that is all zeros. -/
theorem Node_zero (p : Nat) (w : World) (hR : Rec 51 w p #[.slice none 0 0, .map none, .map none]) :
    Calls Try.prog 14 #[.pointer (some ⟨p, 0, none⟩), .int .u64 0] w fun e w' => e = .returned (.int .i64 0) ∧ GGo w (ownZ p w.heap.size) p w.heap.size (w.heap.size + 1) [0] (fun _ => none) 0 w' := by
  obtain ⟨i0, hi0, hz0, hz1, hz2⟩ := info_parts setsT.info
  have L : (Instr.lookup 48 (.map none) (.int .u64 0) true).run Try.prog w = .ok (.tuple #[.int .i64 0, .bool false]) w := look_none kfS Try.underlying48 (zeroI w) (i := 0) (by unfold okU; decide)
  have c0 : w.cell? ⟨p, 0, none⟩ = some (.slice none 0 0) := hR.at_ 0
  have c1 : w.cell? ⟨p, 1, none⟩ = some (.map none) := hR.at_ 1
  have c2 : w.cell? ⟨p, 2, none⟩ = some (.map none) := hR.at_ 2
  have z1 : w.frozen? ⟨p, 1, none⟩ = false := hR.fz 1
  have z2 : w.frozen? ⟨p, 2, none⟩ = false := hR.fz 2
  have hp := hR.lt
  have hmm := @run_makeMap Try.prog
  obtain ⟨w2, hw2⟩ : ∃ w2, w2 = (w.setCell ⟨p, 1, none⟩ (.map (some w.heap.size))).setCell ⟨p, 2, none⟩ (.map (some (w.heap.size + 1))) := ⟨_, rfl⟩
  obtain ⟨w3, hw3⟩ : ∃ w3, w3 = (w2.alloc (.map #[] 0)).alloc (.map #[] 0) := ⟨_, rfl⟩
  obtain ⟨wa, hwa⟩ : ∃ wa, wa = w3.alloc (.cells #[.int .u64 0] 23) := ⟨_, rfl⟩
  obtain ⟨s3, F3, G3⟩ := GAt.start hR hw2 hw3
  have hcell : ∀ j u, [Value.int .u64 0][j]? = some u → wa.cell? ((⟨w.heap.size + 1 + 1, 0, none⟩ : Addr).add j) = some u := by
    have := cell_one_new w3 (.int .u64 0) 23
    rw [s3] at this
    rw [hwa]
    exact this
  have ba : Below w3.heap.size w3 wa := by rw [hwa]; exact (Below.refl _ _).alloc (Nat.le_refl _) _
  have ga := G3.below ba
  have sa : w.heap.size + 2 ≤ wa.heap.size := by have := ba.size; omega
  have Fa := F3.trans (Fr.ofBelow (ownZ p w.heap.size) ba)
  have dom : ∀ x, ownZ p w.heap.size x → x < wa.heap.size := fun x hx => by rcases hx with h | h | h <;> omega
  have e2 : ((w.setCell ⟨p, 1, none⟩ (.map (some w.heap.size))).setCell ⟨p, 2, none⟩ (.map (some (w.heap.size + 1)))) = w2 := hw2.symm
  have e3 : ((w2.alloc (.map #[] 0)).alloc (.map #[] 0)) = w3 := hw3.symm
  have hx0 : ixS [] 0 = none := rfl
  have HA := Lib.hid ga
  have HO := Lib.hid ga.row
  have HC := Lib.hid hcell
  have HF := Lib.hid Fa
  have HD := Lib.hid dom
  have HE := Lib.hid (And.intro e2 (And.intro e3 hwa.symm))
  clear ga hcell Fa dom e2 e3 hwa hw2 hw3 ba G3 F3 s3 hR
  go_enter Try.func14, Try.ntmps14
  go_wp2_with (first
    | (rw [HE.out.1, HE.out.2.1, HE.out.2.2])
    | (at_builtin; refine wpList_append_own_at _ rfl _ _ 27 rfl 0 23 i0 (.int .u64 0) 1 8 Try.underlying27 hi0 hz0 hz1 hz2 rfl (by decide) _ _ _ rfl HO.out ⟨w.heap.size + 1 + 1, 0, none⟩ 1 1 [.int .u64 0] rfl rfl HC.out (fun u hu => by rw [List.mem_singleton.1 hu]; rfl) (by unfold maxLen; decide) (by decide) (Nat.zero_le _) ?_; intro v' w4 ho4 hg4 _ hloc; obtain ⟨A4, c4, rfl, _, _, _⟩ := own_openG ho4; have hR4 := HA.out.blk.block (hg4.block p HA.out.blk.lt (fun e => own_notG HO.out HA.out.blk (by decide) e.symm)); have k0 : w4.cell? ⟨p, 0, none⟩ = _ := hR4.at_ 0; have k1 : w4.cell? ⟨p, 1, none⟩ = _ := hR4.at_ 1; have z0 : w4.frozen? ⟨p, 0, none⟩ = false := hR4.fz 0; have HO4 := Lib.hid ho4; have HG4 := Lib.hid hg4; have HL4 := Lib.hid hloc; have HR4 := Lib.hid hR4; clear ho4 hg4 hloc hR4)
    | (at_mapUpdate; refine wpList_putF kfS Try.underlying48 (by rfl) (.tmp 49) (.tmp 50) (.tmp 51) rfl (HA.out.grew HD.out (by decide) hx0 HO4.out HG4.out HL4.out rfl).1 (by decide) 0 (by unfold okU; decide) (.int .i64 0) rfl rfl rfl ?_; intro w6 hN6 hg6; have HG6 := Lib.hid (GGo.preF HF.out ((HA.out.grew HD.out (by decide) hx0 HO4.out HG4.out HL4.out rfl).2 w6 hN6 hg6)); clear hN6 hg6))
  go_ret
  exact ⟨rfl, HG6.out⟩

theorem GNew_any (w : World) :
    Calls Try.prog 7 #[] w fun e w' => e = .returned (.pointer (some ⟨w.heap.size, 0, none⟩)) ∧ ∃ own m1 m2, (∀ x, own x → w.heap.size ≤ x) ∧ Below w.heap.size w w' ∧ GGo w own w.heap.size m1 m2 [0] (fun _ => none) 0 w' := by
  obtain ⟨w1, hw1⟩ : ∃ w1, w1 = w.alloc (.cells #[.slice none 0 0, .map none, .map none] 51) := ⟨_, rfl⟩
  have hb : Below w.heap.size w w1 := by rw [hw1]; exact (Below.refl _ _).alloc (Nat.le_refl _) _
  have hR : Rec 51 w1 w.heap.size #[.slice none 0 0, .map none, .map none] := by rw [hw1]; exact Rec.new _ _ _
  have C := Lib.hid (Node_zero w.heap.size w1 hR)
  have HB := Lib.hid hb
  clear hR hb
  go_enter Try.func7, Try.ntmps7
  go_wp2_with (first
    | (rw [← hw1]; clear hw1)
    | (go_at_call 14; refine C.out.mono ?_; rintro e w2 ⟨rfl, hG2⟩; have HG := Lib.hid hG2; clear hG2))
  go_ret
  have hh : ∀ x, ownZ w.heap.size w1.heap.size x → w.heap.size ≤ x := fun x hx => by
    have := HB.out.size
    rcases hx with h | h | h <;> omega
  exact ⟨rfl, _, _, _, hh, HB.out.trans (HG.out.1.toBelow hh HB.out.size), GGo.pre HB.out HG.out⟩
end
end Go.Proofs.Ytigiepmmgghjlaa
