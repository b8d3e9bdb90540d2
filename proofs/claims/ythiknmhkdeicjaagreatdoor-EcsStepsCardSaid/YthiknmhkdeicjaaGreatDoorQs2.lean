/- IdC, IdD, IdR1, SameL, RowV -/
import Derived.Test.YthiknmhkdeicjaaGreatDoorQs1
import Derived.Deep.RegionLawGrows
import Derived.WalkSmall
import Derived.BigQuiet
import Derived.Deep.QuietTactic
namespace Go.Proofs.YthiknmhkdeicjaaGreatDoor
set_option maxRecDepth 20000
open Go.RowKit
def IDv (w : World) (own : Nat -> Prop) (p : Nat) (s : NS) : Prop := (∀ x, own x -> x < w.heap.size) /\ ∃ gv av fv, IAt w own p gv av fv s
def IGoes (w : World) (own : Nat -> Prop) (p : Nat) (s : NS) (w' : World) : Prop := Fr own w w' /\ ∃ own', (∀ x, own' x -> own x \/ w.heap.size <= x) /\ IDv w' own' p s
theorem own_not {w : World} {B e n q : Nat} {T : TypeId} {C : Array Value} {v : Value} {xs : List Value} (h : w.ownsRow B e 1 v n xs) (hq : w.heap[q]? = some (.cells C T (0, 0))) (hne : T ≠ e) : v.ownBlock ≠ some q := fun hx => by
 obtain ⟨D, hD⟩ := own_tagI h hx
 rw [hq] at hD
 injection hD with hD
 injection hD with _ h2
 exact hne h2
theorem own_set {w : World} {B e n q i : Nat} {v u : Value} {xs : List Value} (h : w.ownsRow B e 1 v n xs) (hne : v.ownBlock ≠ some q) : (w.setCell ⟨q, i, none⟩ u).ownsRow B e 1 v n xs :=
 own_fr h (Fr.setCell (own := (· = q)) w (p := ⟨q, i, none⟩) rfl u) (fun x hx e => hne (by rw [hx, show x = q from e]))
theorem own_kept {w w' : World} {B e n : Nat} {v : Value} {xs : List Value} {row : Option Nat} (h : w.ownsRow B e 1 v n xs) (hg : w.grownBy w' row) (hne : ∀ x, row = some x -> v.ownBlock ≠ some x) : w'.ownsRow B e 1 v n xs := by
 refine h.kept hg ?_
 cases hv : v.ownBlock with
 | none => exact .inl rfl
 | some y => exact .inr (fun e => hne y e.symm hv)
theorem rec_kept {w w' : World} {T p : Nat} {cs : Array Value} {row : Option Nat} (h : Rec T w p cs) (hg : w.grownBy w' row) (hne : row ≠ some p) : Rec T w' p cs := (hg.block p h.lt (fun e => hne e.symm)).trans h
section
variable {w : World} {own : Nat -> Prop} {p : Nat} {gv av fv : Value} {s : NS}
theorem IAt.mem (h : IAt w own p gv av fv s) : Rec 167 w p #[.int .i64 s.E, .int .i64 s.L, gv, av, fv] := h.blk
theorem own_sl {w : World} {B e n : Nat} {v : Value} {xs : List Value} (h : w.ownsRow B e 1 v n xs) : ∃ A c, v = .slice A n c := by
 obtain ⟨A, c, e, _⟩ := own_open h
 exact ⟨A, c, e⟩
set_option maxHeartbeats 1000000 in
theorem use_any (dom : ∀ x, own x -> x < w.heap.size) (h : IAt w own p gv av fv s) (gen : Int) (hlen : s.g.length < s.E) (hg : 0 <= gen /\ gen <= s.L) :
  Calls Tryz.prog 120 #[.pointer (some ⟨p, 0, none⟩), .int .i64 gen] w fun e w' => e = .returned (.tuple #[]) /\ IGoes w own p (s.push gen) w' := by
 obtain ⟨i0, hi0, hz0, hz1, hz2⟩ := info_parts intT.info
 obtain ⟨A, c, rfl⟩ := own_sl h.gens
 obtain ⟨A3, c3', rfl⟩ := own_sl h.ali
 obtain ⟨A4, c4', rfl⟩ := own_sl h.free
 have c2 := h.c2
 have hE := h.ok.E2
 have H := hi_ h
 have hplt := h.lt
 have hone : ∀ u ∈ [Value.int .i64 gen], u.oneCell' = true := fun u hu => by rw [List.mem_singleton.1 hu]; rfl
 have hone2 : ∀ u ∈ [Value.bool (decide (gen < s.L))], u.oneCell' = true := fun u hu => by rw [List.mem_singleton.1 hu]; rfl
 -- the rows and the struct, the new element's block laid
 obtain ⟨wa, hwa⟩ : ∃ wa, wa = w.alloc (.cells #[.int .i64 gen] 3) := ⟨_, rfl⟩
 have ba : Below w.heap.size w wa := by rw [hwa]; exact (Below.refl _ _).alloc (Nat.le_refl _) _
 have hsza : wa.heap.size = w.heap.size + 1 := by rw [hwa]; simp
 have hra := h.mem.under ba
 have hga := own_keep h.gens ba
 have hla := own_keep h.ali ba
 have hfa := own_keep h.free ba
 have hone1 : ∀ j u, [Value.int .i64 gen][j]? = some u -> wa.cell? ((⟨w.heap.size, 0, none⟩ : Addr).add j) = some u := by rw [hwa]; exact cell_one_new _ _ _
 clear h
 have HW := hi_ hwa
 clear hwa
 go_enter Tryz.func120, Tryz.ntmps120
 go_wp2_with (first
  | (rw [<- HW.out])
  | (at_builtin; refine wpList_append_own_at _ rfl (.tmp 8) (.tmp 10) 34 rfl 0 3 i0 (.int .i64 0) 1 8 Tryz.underlying34 hi0 hz0 hz1 hz2 rfl (by decide) (.slice A s.g.length c) s.g.length (s.g.map (Value.int .i64)) rfl hga ⟨w.heap.size, 0, none⟩ 1 1 [.int .i64 gen] rfl rfl hone1 hone (by unfold maxLen; omega) (by omega) (Nat.zero_le _) ?_))
 intro v1 w1 ho1 hg1 _ he1
 obtain ⟨A1, c1, rfl⟩ := own_sl ho1
 have hr1 := rec_kept hra hg1 (own_not hga hra (by decide))
 have hl1 := own_kept hla hg1 (fun x hx e => by
  obtain ⟨C, hC⟩ := own_tagI hga hx
  exact own_not hla hC (by decide) e)
 have hf1 := own_kept hfa hg1 (fun x hx e => H.out.apart x hx e)
 have k2 : w1.cell? ⟨p, 2, none⟩ = some (.slice A s.g.length c) := hr1.at_ 2
 have f2 := hr1.fz 2
 have hF1 : Fr own w w1 := (Fr.ofBelow own ba).trans' (Fr.grown hg1 (own := own) (fun x hx => H.out.owng x hx)) (fun x hx => .inl hx)
 obtain ⟨w2, hw2⟩ : ∃ w2, w2 = w1.setCell ⟨p, 2, none⟩ (.slice A1 (s.g.length + 1) c1) := ⟨_, rfl⟩
 have hF2 : Fr own w w2 := hF1.trans (by rw [hw2]; exact Fr.setCell w1 (p := ⟨p, 2, none⟩) H.out.ownp _)
 have hr2 : Rec 167 w2 p #[.int .i64 s.E, .int .i64 s.L, .slice A1 (s.g.length + 1) c1, .slice A3 s.g.length c3', .slice A4 s.fr.length c4'] := by rw [hw2]; exact hr1.set 2 _
 have ho2 : w2.ownsRow 0 3 1 (.slice A1 (s.g.length + 1) c1) (s.g.length + 1) (s.g.map (Value.int .i64) ++ [.int .i64 gen]) := by rw [hw2]; exact own_set ho1 (own_not ho1 hr1 (by decide))
 have hl2 := own_set (i := 2) (u := .slice A1 (s.g.length + 1) c1) hl1 (own_not hl1 hr1 (by decide))
 have hf2 := own_set (i := 2) (u := .slice A1 (s.g.length + 1) c1) hf1 (own_not hf1 hr1 (by decide))
 rw [<- hw2] at hl2 hf2
 have hs2 : w.heap.size + 1 <= w2.heap.size := by have := hg1.size; rw [hw2]; simp [World.setCell]; omega
 -- and with the second new element's block
 obtain ⟨wb, hwb⟩ : ∃ wb, wb = w2.alloc (.cells #[.bool (decide (gen < s.L))] 4) := ⟨_, rfl⟩
 have bb : Below w2.heap.size w2 wb := by rw [hwb]; exact (Below.refl _ _).alloc (Nat.le_refl _) _
 have hrb := hr2.under bb
 have hob := own_keep ho2 bb
 have hlb := own_keep hl2 bb
 have hfb := own_keep hf2 bb
 have hnew : ∀ j u, [Value.bool (decide (gen < s.L))][j]? = some u -> wb.cell? ((⟨w2.heap.size, 0, none⟩ : Addr).add j) = some u := by rw [hwb]; exact cell_one_new _ _ _
 have q1 : w2.cell? ⟨p, 1, none⟩ = some (.int .i64 s.L) := hr2.at_ 1
 have q3 : w2.cell? ⟨p, 3, none⟩ = some (.slice A3 s.g.length c3') := hr2.at_ 3
 have q3b : (w2.alloc (.cells #[.bool (decide (gen < s.L))] 4)).cell? ⟨p, 3, none⟩ = some (.slice A3 s.g.length c3') := by rw [<- hwb]; exact hrb.at_ 3
 have q1d : w2.drew.cell? ⟨p, 1, none⟩ = some (.int .i64 s.L) := q1
 have q3d : w2.drew.cell? ⟨p, 3, none⟩ = some (.slice A3 s.g.length c3') := q3
 have q3bd : (w2.alloc (.cells #[.bool (decide (gen < s.L))] 4)).drew.cell? ⟨p, 3, none⟩ = some (.slice A3 s.g.length c3') := q3b
 have hlbd : (w2.alloc (.cells #[.bool (decide (gen < s.L))] 4)).drew.ownsRow 0 4 1 (.slice A3 s.g.length c3') s.g.length (s.liveL.map Value.bool) := by rw [<- hwb]; exact hlb
 have hnewd : ∀ j u, [Value.bool (decide (gen < s.L))][j]? = some u -> (w2.alloc (.cells #[.bool (decide (gen < s.L))] 4)).drew.cell? ((⟨w2.heap.size, 0, none⟩ : Addr).add j) = some u := by rw [<- hwb]; exact hnew
 have hrbd : Rec 167 (w2.alloc (.cells #[.bool (decide (gen < s.L))] 4)).drew p #[.int .i64 s.E, .int .i64 s.L, .slice A1 (s.g.length + 1) c1, .slice A3 s.g.length c3', .slice A4 s.fr.length c4'] := by rw [<- hwb]; exact hrb
 have hobd : (w2.alloc (.cells #[.bool (decide (gen < s.L))] 4)).drew.ownsRow 0 3 1 (.slice A1 (s.g.length + 1) c1) (s.g.length + 1) (s.g.map (Value.int .i64) ++ [.int .i64 gen]) := by rw [<- hwb]; exact hob
 have hfbd : (w2.alloc (.cells #[.bool (decide (gen < s.L))] 4)).drew.ownsRow 0 3 1 (.slice A4 s.fr.length c4') s.fr.length (s.fr.map (Value.int .i64)) := by rw [<- hwb]; exact hfb
 have bbd : Below w2.heap.size w2 (w2.alloc (.cells #[.bool (decide (gen < s.L))] 4)).drew := by rw [<- hwb]; exact bb.trans (Below.refl _ _).drew
 have hszb : (w2.alloc (.cells #[.bool (decide (gen < s.L))] 4)).drew.heap.size = w2.heap.size + 1 := by show (w2.heap.push _).size = _; simp
 have HB := hi_ hszb
 have HLBD := hi_ hlbd
 have HND := hi_ hnewd
 have HRB := hi_ hrbd
 have HOB := hi_ hobd
 have HFB := hi_ hfbd
 have BB := hi_ bbd
 have HF2 := hi_ hF2
 have HW2 := hi_ hw2
 have HE1 := hi_ he1
 have HS2 := hi_ hs2
 have HONE2 := hi_ hone2
 have HSZA := hi_ hsza
 clear hwb hlbd hnewd hrb hob hlb hfb bb hrbd hobd hfbd bbd hszb hF2 hw2 he1 hs2 hr1 hl1 hf1 hF1 hr2 ho2 hl2 hf2 ho1 hg1 hone hone2 hone1 hra hga hla hfa ba hsza HW c2 hnew
 go_wp2_with (first | (rw [<- HW2.out]))
 go_region_law (first
  | (refine step_appV boolT rfl (.tmp 18) (.tmp 25) rfl 0 _ s.g.length (s.liveL.map Value.bool) rfl HLBD.out ⟨w2.heap.size, 0, none⟩ 1 1 [.bool (decide (gen < s.L))] rfl rfl HND.out HONE2.out (by omega) (by decide) (Nat.zero_le _) ?_; intro v3 w3 ho3 hg3 he3; obtain ⟨A5, c5, rfl⟩ := own_sl ho3; have hr3 := rec_kept HRB.out hg3 (own_not HLBD.out HRB.out (by decide)); have k3 : w3.cell? ⟨p, 3, none⟩ = some (.slice A3 s.g.length c3') := hr3.at_ 3; have f3 := hr3.fz 3))
 all_goals
  go_wp2
  go_end0
  have o3 := own_kept HOB.out hg3 (fun x hx e => by
   obtain ⟨C, hC⟩ := own_tagI HLBD.out hx
   exact own_not HOB.out hC (by decide) e)
  have g3 := own_kept HFB.out hg3 (fun x hx e => by
   obtain ⟨C, hC⟩ := own_tagI HLBD.out hx
   exact own_not HFB.out hC (by decide) e)
  have hF3 : Fr own w w3 := (HF2.out.trans (Fr.ofBelow own BB.out)).trans (Fr.grown hg3 (own := own) (fun x hx => H.out.owna x hx))
  have hF4 := hF3.trans (Fr.setCell (own := own) w3 (p := ⟨p, 3, none⟩) H.out.ownp (.slice A5 (s.g.length + 1) c5))
  have hs3 := hg3.size
  have hs4 : (w3.setCell ⟨p, 3, none⟩ (.slice A5 (s.g.length + 1) c5)).heap.size = w3.heap.size := by simp [World.setCell]
  have hs2 := HS2.out
  have hszb := HB.out
  have hsza := HSZA.out
  have a1 : ∀ x, (Value.slice A1 (s.g.length + 1) c1).ownBlock = some x -> (Value.slice A s.g.length c).ownBlock = some x \/ x = w.heap.size + 1 := fun x hx => by
   rcases HE1.out with e | e
   ·exact .inl (e ▸ hx)
   ·rw [hx] at e; injection e with e; exact .inr (by omega)
  have a5 : ∀ x, (Value.slice A5 (s.g.length + 1) c5).ownBlock = some x -> own x \/ x = w2.heap.size + 1 := fun x hx => by
   rcases he3 with e | e
   ·exact .inl (H.out.owna x (e ▸ hx))
   ·rw [hx] at e; injection e with e; exact .inr (by omega)
  refine ⟨rfl, hF4, fun x => own x \/ (w.heap.size <= x /\ x < w3.heap.size), fun x hx => hx.imp id And.left, fun x hx => ?_, .slice A1 (s.g.length + 1) c1, .slice A5 (s.g.length + 1) c5, .slice A4 s.fr.length c4', ?_⟩
  ·rw [hs4]
   rcases hx with hx | hx
   ·have := dom x hx; omega
   ·exact hx.2
  ·have hgl : (s.push gen).g.length = s.g.length + 1 := by simp [NS.push]
   exact {
    blk := hr3.set 3 _
    gens := by
     rw [hgl, show (s.push gen).g.map (Value.int .i64) = s.g.map (Value.int .i64) ++ [.int .i64 gen] by simp [NS.push]]
     exact own_set o3 (own_not o3 hr3 (by decide))
    ali := by
     rw [hgl, NS.liveL_push H.out.ok gen, List.map_append]
     exact own_set ho3 (own_not ho3 hr3 (by decide))
    free := own_set g3 (own_not g3 hr3 (by decide))
    apart := fun x hx e => by
     rcases a1 x hx with h1 | h1
     ·exact H.out.apart x h1 e
     ·have := dom x (H.out.ownf x e); omega
    ownp := .inl H.out.ownp
    owng := fun x hx => by
     rcases a1 x hx with h1 | h1
     ·exact .inl (H.out.owng x h1)
     ·have := (o3.lt x hx).2
      exact .inr ⟨by omega, by omega⟩
    owna := fun x hx => by
     rcases a5 x hx with h1 | h1
     ·exact .inl h1
     ·have := (ho3.lt x hx).2
      exact .inr ⟨by omega, by omega⟩
    ownf := fun x hx => .inl (H.out.ownf x hx)
    ok := NS.push_ok H.out.ok hlen hg }
set_option maxHeartbeats 1000000 in
theorem release_any (dom : ∀ x, own x -> x < w.heap.size) (j : Nat) (s' : NS) (hj : j < s.g.length) (hE : s'.E = s.E) (hL : s'.L = s.L) (hgl : s'.g.length = s.g.length) (hll : s'.liveL = s.liveL.set j false) (hfr : s'.fr = s.fr ++ [(j : Int)]) (ok : s'.Ok)
  (hb : w.heap[p]? = some (.cells #[.int .i64 s.E, .int .i64 s.L, gv, av, fv] 167 (0, 0))) (hgens : w.ownsRow 0 3 1 gv s'.g.length (s'.g.map (Value.int .i64))) (hali : w.ownsRow 0 4 1 av s.g.length (s.liveL.map Value.bool))
  (hfree : w.ownsRow 0 3 1 fv s.fr.length (s.fr.map (Value.int .i64))) (apart : ∀ x, gv.ownBlock = some x -> fv.ownBlock ≠ some x) (ownp : own p) (owng : ∀ x, gv.ownBlock = some x -> own x) (owna : ∀ x, av.ownBlock = some x -> own x) (ownf : ∀ x, fv.ownBlock = some x -> own x) (hfew : s.fr.length <= 1024) :
  Calls Tryz.prog 121 #[.pointer (some ⟨p, 0, none⟩), .int .i64 j] w fun e w' => e = .returned (.tuple #[]) /\ IGoes w own p s' w' := by
 obtain ⟨i0, hi0, hz0, hz1, hz2⟩ := info_parts intT.info
 obtain ⟨A, c, rfl⟩ := own_sl hgens
 obtain ⟨A3, c3', rfl, hc3, hm3, hr3⟩ := own_open hali
 obtain ⟨A4, c4', rfl⟩ := own_sl hfree
 obtain ⟨g3, rfl, hg3, hcell3, hfz3⟩ := hr3 (by omega)
 have hr : Rec 167 w p #[.int .i64 s.E, .int .i64 s.L, .slice A s'.g.length c, .slice (some ⟨g3, 0, none⟩) s.g.length c3', .slice A4 s.fr.length c4'] := hb
 have c3 : w.cell? ⟨p, 3, none⟩ = some (.slice (some ⟨g3, 0, none⟩) s.g.length c3') := hr.at_ 3
 have d3 := hcell3 j hj
 rw [List.getElem?_map, List.getElem?_eq_getElem (by rw [s.liveL_len]; exact hj)] at d3
 simp only [Option.map_some] at d3
 have e3 := hfz3 j
 have hone : ∀ u ∈ [Value.int .i64 j], u.oneCell' = true := fun u hu => by rw [List.mem_singleton.1 hu]; rfl
 obtain ⟨w1, hw1⟩ : ∃ w1, w1 = w.setCell ⟨g3, j, none⟩ (.bool false) := ⟨_, rfl⟩
 have hst := hali.stored j (.bool false)
 rw [<- hw1] at hst
 obtain ⟨hali1, hgr1⟩ := hst
 have hp3 : g3 ≠ p := fun e => own_not hali hr (by decide) (by rw [<- e]; rfl)
 have hr1 := rec_kept hr hgr1 (fun e => hp3 (by injection e))
 have hgens1 := own_kept hgens hgr1 (fun x hx e => by
  obtain ⟨C, hC⟩ := own_tagI hali (x := x) (by rw [<- hx]; rfl)
  exact own_not hgens hC (by decide) e)
 have hfree1 := own_kept hfree hgr1 (fun x hx e => by
  obtain ⟨C, hC⟩ := own_tagI hali (x := x) (by rw [<- hx]; rfl)
  exact own_not hfree hC (by decide) e)
 have hF1 : Fr own w w1 := Fr.grown hgr1 (fun x hx => owna x (by rw [<- hx]; rfl))
 have hs1 : w1.heap.size = w.heap.size := by rw [hw1]; simp [World.setCell]
 have hset : (s.liveL.map Value.bool).set j (.bool false) = s'.liveL.map Value.bool := by rw [hll, List.map_set]
 rw [hset] at hali1
 obtain ⟨wa, hwa⟩ : ∃ wa, wa = w1.alloc (.cells #[.int .i64 j] 3) := ⟨_, rfl⟩
 have ba : Below w1.heap.size w1 wa := by rw [hwa]; exact (Below.refl _ _).alloc (Nat.le_refl _) _
 have hsza : wa.heap.size = w1.heap.size + 1 := by rw [hwa]; simp
 have hra := hr1.under ba
 have hga := own_keep hgens1 ba
 have hla := own_keep hali1 ba
 have hfa := own_keep hfree1 ba
 have hone1 : ∀ k u, [Value.int .i64 j][k]? = some u -> wa.cell? ((⟨w1.heap.size, 0, none⟩ : Addr).add k) = some u := by rw [hwa]; exact cell_one_new _ _ _
 have k4 : w1.cell? ⟨p, 4, none⟩ = some (.slice A4 s.fr.length c4') := hr1.at_ 4
 have HW := hi_ hwa
 have HW1 := hi_ hw1
 have HF1 := hi_ hF1
 have BA := hi_ ba
 have HLL := hi_ hll
 have HGA := hi_ hga
 have HLA := hi_ hla
 have HRA := hi_ hra
 have HS1 := hi_ hs1
 have HSZA := hi_ hsza
 have OK := hi_ ok
 have HFR := hi_ hfr
 have HE := hi_ hE
 have HL := hi_ hL
 clear hwa hw1 hF1 ba hll hga hla hra hs1 hsza ok hfr hE hL hset hali hgens hfree hb hr hr1 hgr1 hali1 hgens1 hfree1 hcell3 hfz3 hr3
 go_enter Tryz.func121, Tryz.ntmps121
 go_wp2_with (first
  | (rw [<- HW1.out])
  | (rw [<- HW.out])
  | (at_builtin; refine wpList_append_own_at _ rfl (.tmp 14) (.tmp 16) 34 rfl 0 3 i0 (.int .i64 0) 1 8 Tryz.underlying34 hi0 hz0 hz1 hz2 rfl (by decide) (.slice A4 s.fr.length c4') s.fr.length (s.fr.map (Value.int .i64)) rfl hfa ⟨w1.heap.size, 0, none⟩ 1 1 [.int .i64 j] rfl rfl hone1 hone (by unfold maxLen; omega) (by omega) (Nat.zero_le _) ?_))
 intro v2 w2 ho2 hg2 _ he2
 obtain ⟨A2, c2, rfl⟩ := own_sl ho2
 have hr2 := rec_kept HRA.out hg2 (own_not hfa HRA.out (by decide))
 have q4 : w2.cell? ⟨p, 4, none⟩ = some (.slice A4 s.fr.length c4') := hr2.at_ 4
 have f4 := hr2.fz 4
 go_wp2
 go_end0
 have o2 := own_kept HGA.out hg2 (fun x hx e => apart x e hx)
 have l2 := own_kept HLA.out hg2 (fun x hx e => by
  obtain ⟨C, hC⟩ := own_tagI hfa hx
  exact own_not HLA.out hC (by decide) e)
 have hF2 : Fr own w w2 := (HF1.out.trans (Fr.ofBelow own BA.out)).trans (Fr.grown hg2 (own := own) (fun x hx => ownf x hx))
 have hF3 := hF2.trans (Fr.setCell (own := own) w2 (p := ⟨p, 4, none⟩) ownp (.slice A2 (s.fr.length + 1) c2))
 have hs3 : (w2.setCell ⟨p, 4, none⟩ (.slice A2 (s.fr.length + 1) c2)).heap.size = w2.heap.size := by simp [World.setCell]
 have hs2 := hg2.size
 have hs1 := HS1.out
 have hsza := HSZA.out
 have a2 : ∀ x, (Value.slice A2 (s.fr.length + 1) c2).ownBlock = some x -> (Value.slice A4 s.fr.length c4').ownBlock = some x \/ x = w.heap.size + 1 := fun x hx => by
  rcases he2 with e | e
  ·exact .inl (e ▸ hx)
  ·rw [hx] at e; injection e with e; exact .inr (by omega)
 refine ⟨rfl, hF3, fun x => own x \/ (w.heap.size <= x /\ x < w2.heap.size), fun x hx => hx.imp id And.left, fun x hx => ?_, .slice A s'.g.length c, .slice (some ⟨g3, 0, none⟩) s.g.length c3', .slice A2 (s.fr.length + 1) c2, ?_⟩
 ·rw [hs3]
  rcases hx with hx | hx
  ·have := dom x hx; omega
  ·exact hx.2
 ·have hfl : s'.fr.length = s.fr.length + 1 := by rw [HFR.out]; simp
  exact {
   blk := by rw [HE.out, HL.out]; exact hr2.set 4 _
   gens := own_set o2 (own_not o2 hr2 (by decide))
   ali := by
    rw [hgl]
    exact own_set l2 (own_not l2 hr2 (by decide))
   free := by
    rw [hfl, HFR.out, List.map_append]
    exact own_set ho2 (own_not ho2 hr2 (by decide))
   apart := fun x hx e => by
    rcases a2 x e with h1 | h1
    ·exact apart x hx h1
    ·have := dom x (owng x hx); omega
   ownp := .inl ownp
   owng := fun x hx => .inl (owng x hx)
   owna := fun x hx => .inl (owna x (by rw [<- hx]))
   ownf := fun x hx => by
    rcases a2 x hx with h1 | h1
    ·exact .inl (ownf x h1)
    ·have := (ho2.lt x hx).2
     exact .inr ⟨by omega, by omega⟩
   ok := OK.out }
end
end Go.Proofs.YthiknmhkdeicjaaGreatDoor
namespace Go.Proofs.YthiknmhkdeicjaaGreatDoor
set_option maxRecDepth 20000
open Go.RowKit
section
variable {w w1 w2 w3 : World} {own : Nat -> Prop} {p : Nat} {gv av fv : Value} {s : NS}
theorem IGoes.of (dom : ∀ x, own x -> x < w.heap.size) (hf : Fr own w w1) (h : IAt w1 own p gv av fv s) : IGoes w own p s w1 :=
 ⟨hf, own, fun _ hx => .inl hx, fun x hx => Nat.lt_of_lt_of_le (dom x hx) hf.size, gv, av, fv, h⟩
theorem IGoes.still (dom : ∀ x, own x -> x < w.heap.size) (h : IAt w own p gv av fv s) (hb : Below w.heap.size w w1) : IGoes w own p s w1 := IGoes.of dom (Fr.ofBelow own hb) (h.below hb)
theorem IGoes.pre (hb : Below w.heap.size w w1) (h : IGoes w1 own p s w2) : IGoes w own p s w2 := by
 obtain ⟨hf, own', ho, hd⟩ := h
 exact ⟨(Fr.ofBelow own hb).trans hf, own', fun x hx => (ho x hx).imp id (fun h => Nat.le_trans hb.size h), hd⟩
theorem IGoes.below (h : IGoes w own p s w1) (hb : Below w1.heap.size w1 w2) : IGoes w own p s w2 := by
 obtain ⟨hf, own', ho, hd, gv, av, fv, I⟩ := h
 exact ⟨hf.trans (Fr.ofBelow own hb), own', ho, fun x hx => Nat.lt_of_lt_of_le (hd x hx) hb.size, gv, av, fv, I.below hb⟩
theorem IGoes.res (dom : ∀ x, own x -> x < w.heap.size) (hb : Below w.heap.size w w1) {g : Nat} (hg0 : w.heap.size <= g) (hg : g < w1.heap.size) (h : IGoes w1 own p s w2) (hF : Fr (· = g) w2 w3) : IGoes w own p s w3 := by
 obtain ⟨hf, own', ho, hd, gv, av, fv, I⟩ := h
 refine ⟨((Fr.ofBelow own hb).trans hf).trans' hF (fun x hx => .inr (by rw [show x = g from hx]; exact hg0)), own', fun x hx => (ho x hx).imp id (fun h => Nat.le_trans hb.size h), fun x hx => Nat.lt_of_lt_of_le (hd x hx) hF.size, gv, av, fv, I.kept hF (fun x hx e => ?_)⟩
 have e' : x = g := e
 rcases ho x hx with h | h
 ·have := dom x h; omega
 ·omega
theorem IGoes.rec_ {T g : Nat} {cs : Array Value} (dom : ∀ x, own x -> x < w.heap.size) (hR : Rec T w1 g cs) (hg0 : w.heap.size <= g) (h : IGoes w1 own p s w2) : Rec T w2 g cs := hR.fr h.1 (fun hx => by have := dom g hx; omega)
theorem below_drewNi (w : World) (n : Nat) : Below w.heap.size w (w.drewN n) := ⟨rfl, rfl, rfl, Nat.le_refl _, fun _ _ => rfl⟩
theorem Take_full (dom : ∀ x, own x -> x < w.heap.size) (h : IAt w own p gv av fv s) (hf : s.fr = []) (he : s.g.length = s.E) :
  Calls Tryz.prog 73 #[.pointer (some ⟨p, 0, none⟩)] w fun e w' => e = .returned (.tuple #[idv (0, 0), .int .i64 9]) /\ IGoes w own p s w' := by
 obtain ⟨A, c, rfl⟩ := own_sl h.gens
 obtain ⟨A4, c4', rfl⟩ := own_sl h.free
 obtain ⟨w1, hw1⟩ : ∃ w1, w1 = w.alloc (.cells #[.int .i64 0, .int .i64 0] 39) := ⟨_, rfl⟩
 have hb : Below w.heap.size w w1 := by rw [hw1]; exact (Below.refl _ _).alloc (Nat.le_refl _) _
 have hR1 : Rec 39 w1 w.heap.size #[.int .i64 0, .int .i64 0] := by rw [hw1]; exact Rec.new _ _ _
 have hfl : s.fr.length = 0 := by rw [hf]; rfl
 have h1 := h.below hb
 have c0 := h1.c0
 have c2 := h1.c2
 have c4 := h1.c4
 have hE := h.ok.E2
 rw [hfl] at c4
 rw [he] at c2
 have HRN : ∀ n, Rec 39 (w1.drewN n) w.heap.size #[.int .i64 0, .int .i64 0] := fun n => hR1.under (below_drewNi _ _)
 have HG : ∀ n, IGoes w own p s (w1.drewN n) := fun n => (IGoes.still dom h hb).below (below_drewNi _ _)
 have HRN := hi_ HRN
 have HG := hi_ HG
 have HB := hi_ hb
 have HR := hi_ hR1
 have HI := hi_ h1
 clear h h1 hb hf hfl he hR1
 go_enter Tryz.func73, Tryz.ntmps73
 go_wp2_with (first | (rw [<- hw1]; clear hw1))
 go_quiet (fail)
 go_wp2_with (with_reducible refine wpList_stP (x1 := 0) (y1 := 0) rfl (.tmp 2) (.tmp 52) rfl rfl rfl (HRN.out _) ?_; intro w5 hR5 hF5)
 refine bodyPost_ret (res_ct rfl rfl (hR5.load idT rfl)) rfl ?_
 refine ⟨rfl, IGoes.res dom HB.out (Nat.le_refl _) HR.out.lt (IGoes.still (fun x hx => Nat.lt_of_lt_of_le (dom x hx) HB.out.size) HI.out (below_drewNi _ _)) hF5⟩
theorem Take_next (dom : ∀ x, own x -> x < w.heap.size) (h : IAt w own p gv av fv s) (hf : s.fr = []) (he : s.g.length ≠ s.E) :
  Calls Tryz.prog 73 #[.pointer (some ⟨p, 0, none⟩)] w fun e w' => e = .returned (.tuple #[idv ((s.g.length : Int), 0), .int .i64 0]) /\ IGoes w own p (s.push 0) w' := by
 obtain ⟨A, c, rfl⟩ := own_sl h.gens
 obtain ⟨A4, c4', rfl⟩ := own_sl h.free
 obtain ⟨w1, hw1⟩ : ∃ w1, w1 = w.alloc (.cells #[.int .i64 0, .int .i64 0] 39) := ⟨_, rfl⟩
 have hb : Below w.heap.size w w1 := by rw [hw1]; exact (Below.refl _ _).alloc (Nat.le_refl _) _
 have hR1 : Rec 39 w1 w.heap.size #[.int .i64 0, .int .i64 0] := by rw [hw1]; exact Rec.new _ _ _
 have hfl : s.fr.length = 0 := by rw [hf]; rfl
 have h1 := h.below hb
 have c0 := h1.c0
 have c2 := h1.c2
 have c4 := h1.c4
 have hE := h.ok.E2
 have hl := h.ok.len
 have hne : ¬ ((s.g.length : Int) = s.E) := by omega
 rw [hfl] at c4
 have CU : ∀ n, Calls Tryz.prog 120 #[.pointer (some ⟨p, 0, none⟩), .int .i64 0] (w1.drewN n) fun e w' => e = .returned (.tuple #[]) /\ IGoes (w1.drewN n) own p (s.push 0) w' := fun n =>
  use_any (w := w1.drewN n) (fun x hx => Nat.lt_of_lt_of_le (dom x hx) hb.size) (h1.below (below_drewNi _ _)) 0 (by omega) ⟨Int.le_refl _, by have := h.ok.L1; omega⟩
 have CU := hi_ CU
 have hgl : (s.push 0).g.length = s.g.length + 1 := by simp [NS.push]
 have hg0 : (s.push 0).g.getD s.g.length 0 = 0 := by simp [NS.push, List.getD_eq_getElem?_getD]
 obtain ⟨n, hn⟩ : ∃ n, n = s.g.length := ⟨_, rfl⟩
 rw [<- hn] at hne hgl hg0 c2 hl ⊢
 have HB := hi_ hb
 have HR := hi_ hR1
 have HN := hi_ hn
 have HG0 := hi_ hg0
 have HGL := hi_ hgl
 clear h h1 hb hf hfl he hn hR1 hg0 hgl
 go_enter Tryz.func73, Tryz.ntmps73
 go_wp2_with (first | (rw [<- hw1]; clear hw1))
 go_quiet (fail)
 go_wp2_with fail
 refine (CU.out _).mono ?_
 rintro e w2 ⟨rfl, hG⟩
 replace hG := IGoes.pre (below_drewNi _ _) hG
 have hR2 := IGoes.rec_ (w := w) dom HR.out (Nat.le_refl _) hG
 have hG' := hG
 obtain ⟨_, own', _, _, gv', av', fv', I2⟩ := hG'
 obtain ⟨A2, c2', rfl⟩ := own_sl I2.gens
 have k2 := I2.c2
 rw [HGL.out] at k2
 have CI := id_any I2 n (by rw [HGL.out]; omega)
 rw [HG0.out] at CI
 have CI := hi_ CI
 have HG := hi_ hG
 have HR2 := hi_ hR2
 clear hG hR2 I2 c0 c2 c4
 go_wp2_with (first
  | (go_at_call 129; refine CI.out.mono ?_; rintro e w3 ⟨rfl, hB3⟩; have HR3 := hi_ (HR2.out.under hB3); have HG3 := hi_ (HG.out.below hB3); clear hB3)
  | (with_reducible refine wpList_stP (x1 := n) (y1 := 0) rfl (.tmp 2) (.tmp 62) rfl rfl rfl HR3.out ?_; intro w5 hR5 hF5))
 refine bodyPost_ret (res_ct rfl rfl (hR5.load idT rfl)) rfl ?_
 exact ⟨rfl, IGoes.res dom HB.out (Nat.le_refl _) HR.out.lt HG3.out hF5⟩
theorem Take_free (dom : ∀ x, own x -> x < w.heap.size) (h : IAt w own p gv av fv s) (hf : s.fr ≠ []) :
  Calls Tryz.prog 73 #[.pointer (some ⟨p, 0, none⟩)] w fun e w' => e = .returned (.tuple #[idv (s.fr.getLastD 0, s.g.getD (s.fr.getLastD 0).toNat 0), .int .i64 0]) /\ IGoes w own p s.take.1 w' := by
 have htk := NS.take_free hf
 have hll := NS.liveL_free h.ok hf
 have hok := NS.take_ok h.ok
 obtain ⟨q0, q1, q2, q3⟩ := h.ok.fz _ (NS.last_mem hf)
 have hsp := NS.fr_last hf
 obtain ⟨m, hm⟩ : ∃ m, m = s.fr.dropLast.length := ⟨_, rfl⟩
 have hlen : s.fr.length = m + 1 := by rw [hsp, hm]; simp
 obtain ⟨j, hj⟩ : ∃ j : Nat, s.fr.getLastD 0 = (j : Int) := ⟨(s.fr.getLastD 0).toNat, by omega⟩
 rw [hj] at htk hll q1 hsp ⊢
 rw [Int.toNat_natCast] at hll htk ⊢
 have hjl : j < s.g.length := by omega
 have hm1 : m <= 1024 := by have := h.ok.few; omega
 obtain ⟨A, c, rfl⟩ := own_sl h.gens
 obtain ⟨A3, c3', rfl, _, _, hr3⟩ := own_open h.ali
 obtain ⟨g3, rfl, hg3, hcell3, hfz3⟩ := hr3 (by omega)
 obtain ⟨A4, c4', rfl, hc4, _, hr4⟩ := own_open h.free
 obtain ⟨g4, rfl, hg4, hcell4, hfz4⟩ := hr4 (by omega)
 obtain ⟨w1, hw1⟩ : ∃ w1, w1 = w.alloc (.cells #[.int .i64 0, .int .i64 0] 39) := ⟨_, rfl⟩
 have hb : Below w.heap.size w w1 := by rw [hw1]; exact (Below.refl _ _).alloc (Nat.le_refl _) _
 have hR1 : Rec 39 w1 w.heap.size #[.int .i64 0, .int .i64 0] := by rw [hw1]; exact Rec.new _ _ _
 have h1 := h.below hb
 have c4 := h1.c4
 have z4 := h1.fz 4
 rw [hlen] at c4 hc4 hcell4
 have d4 := (hb.cell (p := ⟨g4, m, none⟩) hg4).trans (hcell4 m (by omega))
 have e4 : (s.fr.map (Value.int .i64))[m]? = some (.int .i64 j) := by
  rw [hsp, List.map_append, List.getElem?_append_right (by simp [hm])]
  simp [hm]
 rw [e4] at d4
 -- the free row shorter by one
 obtain ⟨w2, hw2⟩ : ∃ w2, w2 = w1.setCell ⟨p, 4, none⟩ (.slice (some ⟨g4, 0, none⟩) m c4') := ⟨_, rfl⟩
 have hp2 : Fr own w w2 := (Fr.ofBelow own hb).trans (by rw [hw2]; exact Fr.setCell w1 (p := ⟨p, 4, none⟩) h.ownp _)
 have hr2 : Rec 167 w2 p #[.int .i64 s.E, .int .i64 s.L, .slice A s.g.length c, .slice (some ⟨g3, 0, none⟩) s.g.length c3', .slice (some ⟨g4, 0, none⟩) m c4'] := by rw [hw2]; exact h1.mem.set 4 _
 have o2 := own_set (i := 4) (u := .slice (some ⟨g4, 0, none⟩) m c4') h1.gens (own_not h1.gens h1.mem (by decide))
 have l2 := own_set (i := 4) (u := .slice (some ⟨g4, 0, none⟩) m c4') h1.ali (own_not h1.ali h1.mem (by decide))
 have f2 := own_set (i := 4) (u := .slice (some ⟨g4, 0, none⟩) m c4') h1.free (own_not h1.free h1.mem (by decide))
 rw [<- hw2] at o2 l2 f2
 have f2' : w2.ownsRow 0 3 1 (.slice (some ⟨g4, 0, none⟩) m c4') m (s.fr.dropLast.map (Value.int .i64)) := by
  rw [hlen] at f2
  rw [hsp, List.map_append] at f2
  exact ownsRow_pop (by simp [hm]) f2
 have k3 : w2.cell? ⟨p, 3, none⟩ = some (.slice (some ⟨g3, 0, none⟩) s.g.length c3') := hr2.at_ 3
 have d3 := l2.cellAt j (by omega)
 rw [List.getElem?_map, List.getElem?_eq_getElem (by rw [s.liveL_len]; exact hjl)] at d3
 simp only [Option.map_some] at d3
 have z3 := l2.frozenAt j
 -- and the index alive
 obtain ⟨w3, hw3⟩ : ∃ w3, w3 = w2.setCell ⟨g3, j, none⟩ (.bool true) := ⟨_, rfl⟩
 have hst := l2.stored j (.bool true)
 rw [<- hw3] at hst
 obtain ⟨l3, hgr3⟩ := hst
 have hset : (s.liveL.map Value.bool).set j (.bool true) = s.take.1.liveL.map Value.bool := by rw [hll, List.map_set]
 rw [hset] at l3
 have hp3 : g3 ≠ p := fun e => own_not l2 hr2 (by decide) (by rw [<- e]; rfl)
 have hr3' := rec_kept hr2 hgr3 (fun e => hp3 (by injection e))
 have o3 := own_kept o2 hgr3 (fun x hx e => by
  obtain ⟨C, hC⟩ := own_tagI l2 (x := x) (by rw [<- hx]; rfl)
  exact own_not o2 hC (by decide) e)
 have f3 := own_kept f2' hgr3 (fun x hx e => by
  obtain ⟨C, hC⟩ := own_tagI l2 (x := x) (by rw [<- hx]; rfl)
  exact own_not f2' hC (by decide) e)
 have hF3 : Fr own w1 w3 := (show Fr own w1 w2 by rw [hw2]; exact Fr.setCell w1 (p := ⟨p, 4, none⟩) h.ownp _).trans (Fr.grown hgr3 (fun x hx => h.owna x (by rw [<- hx]; rfl)))
 have I3 : IAt w3 own p (.slice A s.g.length c) (.slice (some ⟨g3, 0, none⟩) s.g.length c3') (.slice (some ⟨g4, 0, none⟩) m c4') s.take.1 := {
  blk := by rw [htk]; exact hr3'
  gens := by rw [htk]; exact o3
  ali := by rw [show s.take.1.g.length = s.g.length by rw [htk]]; exact l3
  free := by rw [show s.take.1.fr = s.fr.dropLast by rw [htk], <- hm]; exact f3
  apart := fun x hx e => h.apart x hx (by rw [<- e]; rfl)
  ownp := h.ownp
  owng := h.owng
  owna := h.owna
  ownf := fun x hx => h.ownf x (by rw [<- hx]; rfl)
  ok := hok }
 have dom1 : ∀ x, own x -> x < w1.heap.size := fun x hx => Nat.lt_of_lt_of_le (dom x hx) hb.size
 have hG3 : IGoes w1 own p s.take.1 w3 := IGoes.of dom1 hF3 I3
 have CI := id_any I3 j (by rw [show s.take.1.g.length = s.g.length by rw [htk]]; exact hjl)
 rw [show s.take.1.g = s.g by rw [htk]] at CI
 obtain ⟨z, hz⟩ : ∃ z, z = s.g.getD j 0 := ⟨_, rfl⟩
 rw [<- hz] at CI ⊢
 clear hz
 have hR3 := IGoes.rec_ (w := w) dom hR1 (Nat.le_refl _) hG3
 have CJ := hi_ CI
 clear CI
 have HG3 := hi_ hG3
 have HR3 := hi_ hR3
 have HB := hi_ hb
 have HR := hi_ hR1
 have HW1 := hi_ hw1
 have HW2 := hi_ hw2
 have HW3 := hi_ hw3
 have hc4' : m + 1 <= c4' := hc4
 clear h h1 hb hR1 hw1 hw2 hw3 hp2 hr2 o2 l2 f2 f2' hset hgr3 hr3' o3 f3 hF3 I3 hG3 hR3 l3 hll hok htk hsp hm hlen hj e4 hcell3 hcell4 hfz3 hfz4 hr3 hr4 q0 q1 q2 q3 hp3 dom1 hf
 go_enter Tryz.func73, Tryz.ntmps73
 go_wp2_with (first
  | (rw [<- HW1.out])
  | (rw [<- HW2.out])
  | (rw [<- HW3.out])
  | (go_at_call 129; refine CJ.out.mono ?_; rintro e w4 ⟨rfl, hB4⟩; have HR4 := hi_ (HR3.out.under hB4); have HG4 := hi_ (HG3.out.below hB4); clear hB4)
  | (with_reducible refine wpList_stP (x1 := j) (y1 := z) rfl (.tmp 2) (.tmp 41) rfl rfl rfl HR4.out ?_; intro w5 hR5 hF5))
 refine bodyPost_ret (res_ct rfl rfl (hR5.load idT rfl)) rfl ?_
 exact ⟨rfl, IGoes.res dom HB.out (Nat.le_refl _) HR.out.lt HG4.out hF5⟩
theorem Take_any (dom : ∀ x, own x -> x < w.heap.size) (h : IAt w own p gv av fv s) :
  Calls Tryz.prog 73 #[.pointer (some ⟨p, 0, none⟩)] w fun e w' => e = .returned (.tuple #[idv s.take.2.1, .int .i64 s.take.2.2]) /\ IGoes w own p s.take.1 w' := by
 by_cases hf : s.fr = []
 ·by_cases he : s.g.length = s.E
  ·rw [NS.take_full hf he]; exact Take_full dom h hf he
  ·rw [NS.take_push hf he]; exact Take_next dom h hf he
 ·have := Take_free dom h hf
  rw [NS.take_free hf] at this ⊢
  exact this
end
end Go.Proofs.YthiknmhkdeicjaaGreatDoor
namespace Go.Proofs.YthiknmhkdeicjaaGreatDoor
set_option maxRecDepth 20000
open Go.RowKit
def IRk (K : Nat -> Prop) (w : World) (A : Option Addr) (n : Nat) (zs : List Int) : Prop := IRd w A n zs /\ (0 < n -> ∀ b o, A = some ⟨b, o, none⟩ -> K b)
section
variable {K K' : Nat -> Prop} {w w' : World} {A : Option Addr} {n : Nat} {zs : List Int}
theorem IRk.mono (h : IRk K w A n zs) (hk : ∀ x, K x -> K' x) : IRk K' w A n zs := ⟨h.1, fun hn b o e => hk b (h.2 hn b o e)⟩
theorem IRk.below (h : IRk K w A n zs) (hb : Below w.heap.size w w') : IRk K w' A n zs := ⟨h.1.below hb, h.2⟩
def KStays (K : Nat -> Prop) (w w' : World) : Prop := w.heap.size <= w'.heap.size /\ ∀ x, K x -> w'.heap[x]? = w.heap[x]?
theorem IRk.stays (h : IRk K w A n zs) (hs : KStays K w w') : IRk K w' A n zs :=
 ⟨⟨h.1.1, fun hp => by
  obtain ⟨b, o, e, hlt, hc⟩ := h.1.2 hp
  exact ⟨b, o, e, Nat.lt_of_lt_of_le hlt hs.1, fun j hj => (World.cell?_of_block (w := w) (a := ⟨b, o + j, none⟩) (hs.2 b (h.2 hp b o e))).trans (hc j hj)⟩⟩, h.2⟩
theorem IRk.lt (h : IRk K w A n zs) : IRk (fun x => K x /\ x < w.heap.size) w A n zs := ⟨h.1, fun hp b o e => ⟨h.2 hp b o e, by
 obtain ⟨b', o', e', hlt, _⟩ := h.1.2 hp
 rw [e] at e'
 injection e' with e'
 injection e' with e1 _
 omega⟩⟩
theorem IRk.of_own {B : Nat} {v : Value} (h : w.ownsRow B 3 1 v n (zs.map (Value.int .i64))) : ∃ A c, v = .slice A n c /\ n <= c /\ c <= maxLen /\ IRk (fun x => B <= x /\ x < w.heap.size) w A n zs := by
 obtain ⟨A, c, e, hc, hm, _⟩ := own_open h
 obtain ⟨A', c', e', hr⟩ := IRd.of_own h
 rw [e] at e'
 cases e'
 refine ⟨A, c, e, hc, hm, hr, fun hp b o ea => ?_⟩
 exact h.lt b (by rw [e, ea]; rfl)
end
structure Rv where
 E : Int
 L : Int
 GA : Option Addr
 gn : Nat
 gc : Nat
 FA : Option Addr
 fn : Nat
 fc : Nat
def Rv.v (d : Rv) : Value := .agg #[.int .i64 d.E, .int .i64 d.L, .slice d.GA d.gn d.gc, .slice d.FA d.fn d.fc]
structure RS (K : Nat -> Prop) (w : World) (d : Rv) (s : NS) : Prop where
 E : d.E = s.E
 L : d.L = s.L
 gn : d.gn = s.g.length
 fn : d.fn = s.fr.length
 g : IRk K w d.GA d.gn s.g
 f : IRk K w d.FA d.fn s.fr
 gc : d.gn <= d.gc
 fc : d.fn <= d.fc
section
variable {K K' : Nat -> Prop} {w w' : World} {d : Rv} {s : NS}
theorem RS.mono (h : RS K w d s) (hk : ∀ x, K x -> K' x) : RS K' w d s := { h with g := h.g.mono hk, f := h.f.mono hk }
theorem RS.below (h : RS K w d s) (hb : Below w.heap.size w w') : RS K w' d s := { h with g := h.g.below hb, f := h.f.below hb }
theorem RS.stays (h : RS K w d s) (hs : KStays K w w') : RS K w' d s := { h with g := h.g.stays hs, f := h.f.stays hs }
theorem RS.lt (h : RS K w d s) : RS (fun x => K x /\ x < w.heap.size) w d s := { h with g := h.g.lt, f := h.f.lt }
end
theorem rsT : RT Tryz.prog 140 4 := ⟨⟨_, Tryz.underlying140, rfl⟩, by kernel_rfl⟩
section
variable {ops : Array Oper} {rest : List Oper} {o : Oper} {a : Act} {w : World} {Q : Exit -> Act -> World -> Prop} {g : Nat} {E L E' L' : Int} {GA FA GA' FA' : Option Addr} {gn gc fn fc gn' gc' fn' fc' : Nat}
theorem wpList_ldQ (hgd : Region.wanted o (yielded ops a.tmps) = true) (x : Operand) (ho : o.op = .load 140 x)
  (hx : a.eval x = .pointer (some ⟨g, 0, none⟩)) (h : Rec 140 w g #[.int .i64 E, .int .i64 L, .slice GA gn gc, .slice FA fn fc]) (kk : wpList Tryz.prog ops Q rest (a.put o.dst (.agg #[.int .i64 E, .int .i64 L, .slice GA gn gc, .slice FA fn fc])) w) : wpList Tryz.prog ops Q (o :: rest) a w :=
 wpList_ldS rsT rfl hgd x ho hx h kk
theorem wpList_stQ (hgd : Region.wanted o (yielded ops a.tmps) = true) (x y : Operand) (ho : o.op = .store 140 x y)
  (hx : a.eval x = .pointer (some ⟨g, 0, none⟩)) (hy : a.eval y = .agg #[.int .i64 E', .int .i64 L', .slice GA' gn' gc', .slice FA' fn' fc']) (h : Rec 140 w g #[.int .i64 E, .int .i64 L, .slice GA gn gc, .slice FA fn fc])
  (kk : ∀ w', Rec 140 w' g #[.int .i64 E', .int .i64 L', .slice GA' gn' gc', .slice FA' fn' fc'] -> Fr (· = g) w w' -> wpList Tryz.prog ops Q rest (a.put o.dst undef) w') : wpList Tryz.prog ops Q (o :: rest) a w :=
 wpList_stS rsT rfl rfl (by simp [Value.oneCell']) hgd x y ho hx hy h kk
end
theorem IHas_any (A : Option Addr) (n c : Nat) (zs : List Int) (k : Int) (w : World) (h : IRd w A n zs) (hn : n <= 1000000) :
  Calls Tryz.prog 127 #[.slice A n c, .int .i64 k] w fun e w' => e = .returned (.bool (decide (k ∈ zs))) /\ w' = w := by
 have H := hi_ h
 clear h
 go_enter Tryz.func127, Tryz.ntmps127
 go_wp2
 go_loop [5] (fun iv => ∃ j : Nat, j <= n /\ iv = .int .i64 j /\ k ∉ zs.take j) (fun iv => n - (intOf iv).toNat)
 case atStart => exact ⟨0, Nat.zero_le _, rfl, by simp⟩
 case round =>
  obtain ⟨j, hj, rfl, hno⟩ := hrel
  by_cases hjn : j < n
  ·obtain ⟨b, o, hA, _, hc⟩ := H.out.2 (by omega)
   have hjl : j < zs.length := by rw [H.out.1]; exact hjn
   have k0 := hc j hjl
   obtain ⟨z, hz⟩ : ∃ z, z = zs.getD j 0 := ⟨_, rfl⟩
   rw [<- hz] at k0
   have hzj : z = zs[j] := by rw [hz]; simp [List.getD, List.getElem?_eq_getElem hjl]
   have HZ := hi_ hzj
   have HN := hi_ hno
   have HJ := hi_ hjl
   subst hA
   clear hc hz hzj hno
   by_cases hk : z = k
   ·have hmem : Hid (decide (k ∈ zs) = true) := hi_ (decide_eq_true (by rw [<- hk, HZ.out]; exact List.getElem_mem HJ.out))
    go_wp2
    go_ret
    exact ⟨by rw [hmem.out]; first | rfl | skip, rfl⟩
   ·go_wp2
    go_round
    case rel =>
     refine ⟨j + 1, hjn, by go_num, ?_⟩
     rw [List.take_succ_eq_append_getElem HJ.out]
     intro hm
     rcases List.mem_append.1 hm with hm | hm
     ·exact HN.out hm
     ·exact hk (by rw [HZ.out]; exact (List.mem_singleton.1 hm).symm)
    case measure => simp [intOf]; omega
  ·have hmem : Hid (decide (k ∈ zs) = false) := hi_ (decide_eq_false (by rw [List.take_of_length_le (by rw [H.out.1]; omega)] at hno; exact hno))
   clear hno
   go_wp2
   go_ret
   exact ⟨by rw [hmem.out]; first | rfl | skip, rfl⟩
end Go.Proofs.YthiknmhkdeicjaaGreatDoor
namespace Go.Proofs.YthiknmhkdeicjaaGreatDoor
open Go.RowKit
theorem SameList_yes (w : World) (A A' : Option Addr) (n c c' : Nat) (zs : List Int) (h : IRd w A n zs) (h' : IRd w A' n zs) (hn : n <= 1000000) :
  Calls Tryz.prog 46 #[.slice A n c, .slice A' n c'] w fun e w' => e = .returned (.bool true) /\ Below w.heap.size w w' := by
 have H := hi_ h
 have H' := hi_ h'
 clear h h'
 go_enter Tryz.func46, Tryz.ntmps46
 go_wp2
 go_loopw [5] (fun iv wq => ∃ j : Nat, j <= n /\ iv = .int .i64 j /\ Below w.heap.size w wq) (fun iv _ => n - (intOf iv).toNat)
 case atStart => exact ⟨0, Nat.zero_le _, rfl, Below.refl _ _⟩
 case round =>
  obtain ⟨j, hj, rfl, hB⟩ := hrel
  by_cases hjn : j < n
  ·obtain ⟨b, o, hA, _, hc⟩ := (H.out.below hB).2 (by omega)
   obtain ⟨b', o', hA', _, hc'⟩ := (H'.out.below hB).2 (by omega)
   have k0 := hc j (by rw [H.out.1]; exact hjn)
   have k1 := hc' j (by rw [H'.out.1]; exact hjn)
   obtain ⟨z, hz⟩ : ∃ z, z = zs.getD j 0 := ⟨_, rfl⟩
   rw [<- hz] at k0 k1
   have HB := hi_ hB
   clear hc hc' hz hB
   subst hA
   subst hA'
   go_wp2_with fail
   go_quiet (fail)
   go_wp2
   go_roundw
   case rel => exact ⟨j + 1, hjn, by go_num, ⟨HB.out.os, HB.out.tape, HB.out.output, HB.out.size, HB.out.block⟩⟩
   case measure => simp [intOf]; omega
  ·have HB := hi_ hB
   clear hB
   go_wp2
   go_ret
   exact ⟨rfl, HB.out⟩
end Go.Proofs.YthiknmhkdeicjaaGreatDoor
namespace Go.Proofs.YthiknmhkdeicjaaGreatDoor
open Go.RowKit
def WStays (keep : Nat -> Prop) (w w' : World) : Prop := w.heap.size <= w'.heap.size /\ ∀ x, keep x -> w'.heap[x]? = w.heap[x]?
def VRow (K : Nat -> Prop) (w : World) (A : Option Addr) (n sz : Nat) (vs : List Value) : Prop :=
 vs.length = n * sz /\ (A = none -> n = 0) /\ (0 < n -> ∃ b o, A = some ⟨b, o, none⟩ /\ K b /\ b < w.heap.size /\ ∀ j u, vs[j]? = some u -> w.cell? ⟨b, o + j, none⟩ = some u)
def VB (K : Nat -> Prop) (w : World) (u : Value) (l : List UInt8) : Prop :=
 ∃ A m c, u = .slice A m c /\ Rd w A m l /\ ∀ b o, A = some ⟨b, o, none⟩ -> 0 < m -> K b /\ b < w.heap.size
def HdV (K : Nat -> Prop) (w : World) (vs : List Value) (ls : List (List UInt8)) : Prop :=
 vs.length = ls.length /\ ∀ j u, vs[j]? = some u -> VB K w u (ls.getD j [])
def RowsV (K : Nat -> Prop) (w : World) (A : Option Addr) (n : Nat) (ls : List (List UInt8)) : Prop := ∃ vs, ls.length = n /\ VRow K w A n 1 vs /\ HdV K w vs ls
section
variable {K K' : Nat -> Prop} {w w' w'' : World} {A : Option Addr} {n sz : Nat} {vs : List Value} {u : Value} {l : List UInt8} {ls : List (List UInt8)}
theorem Rd.wstays (h : Rd w A n l) (hs : WStays K w w') (hk : ∀ b o, A = some ⟨b, o, none⟩ -> 0 < n -> K b) : Rd w' A n l :=
 ⟨h.1, fun hn => by
  obtain ⟨b, o, e, hlt, hc⟩ := h.2 hn
  exact ⟨b, o, e, Nat.lt_of_lt_of_le hlt hs.1, fun j hj => (World.cell?_of_block (w := w) (a := ⟨b, o + j, none⟩) (hs.2 b (hk b o e hn))).trans (hc j hj)⟩⟩
theorem VRow.stays (h : VRow K w A n sz vs) (hs : WStays K w w') : VRow K w' A n sz vs :=
 ⟨h.1, h.2.1, fun hp => by obtain ⟨b, o, e, hk, hlt, hc⟩ := h.2.2 hp; exact ⟨b, o, e, hk, Nat.lt_of_lt_of_le hlt hs.1, fun j u hj => (World.cell?_of_block (a := ⟨b, o + j, none⟩) (hs.2 b hk)).trans (hc j u hj)⟩⟩
theorem VRow.mono (h : VRow K w A n sz vs) (hk : ∀ x, K x -> K' x) : VRow K' w A n sz vs :=
 ⟨h.1, h.2.1, fun hp => by obtain ⟨b, o, e, h1, r⟩ := h.2.2 hp; exact ⟨b, o, e, hk b h1, r⟩⟩
theorem VRow.lt (h : VRow K w A n sz vs) : VRow (fun x => K x /\ x < w.heap.size) w A n sz vs :=
 ⟨h.1, h.2.1, fun hp => by obtain ⟨b, o, e, h1, h2, r⟩ := h.2.2 hp; exact ⟨b, o, e, ⟨h1, h2⟩, h2, r⟩⟩
theorem VRow.below (h : VRow K w A n sz vs) (hb : Below w.heap.size w w') : VRow K w' A n sz vs := (h.lt.stays ⟨hb.size, fun x hx => hb.block x hx.2⟩).mono fun _ hx => hx.1
theorem VB.stays (h : VB K w u l) (hs : WStays K w w') : VB K w' u l := by
 obtain ⟨A, m, c, h1, h2, h3⟩ := h
 exact ⟨A, m, c, h1, h2.wstays hs (fun b o e hm => (h3 b o e hm).1), fun b o e hm => ⟨(h3 b o e hm).1, Nat.lt_of_lt_of_le (h3 b o e hm).2 hs.1⟩⟩
theorem VB.mono (h : VB K w u l) (hk : ∀ x, K x -> K' x) : VB K' w u l := by
 obtain ⟨A, m, c, h1, h2, h3⟩ := h
 exact ⟨A, m, c, h1, h2, fun b o e hm => ⟨hk b (h3 b o e hm).1, (h3 b o e hm).2⟩⟩
theorem VB.lt (h : VB K w u l) : VB (fun x => K x /\ x < w.heap.size) w u l := by
 obtain ⟨A, m, c, h1, h2, h3⟩ := h
 exact ⟨A, m, c, h1, h2, fun b o e hm => ⟨h3 b o e hm, (h3 b o e hm).2⟩⟩
theorem VB.below (h : VB K w u l) (hb : Below w.heap.size w w') : VB K w' u l := (h.lt.stays ⟨hb.size, fun x hx => hb.block x hx.2⟩).mono fun _ hx => hx.1
theorem VB.one (h : VB K w u l) : u.oneCell' = true := by obtain ⟨A, m, c, rfl, _⟩ := h; rfl
theorem HdV.stays (h : HdV K w vs ls) (hs : WStays K w w') : HdV K w' vs ls := ⟨h.1, fun j u hj => (h.2 j u hj).stays hs⟩
theorem HdV.mono (h : HdV K w vs ls) (hk : ∀ x, K x -> K' x) : HdV K' w vs ls := ⟨h.1, fun j u hj => (h.2 j u hj).mono hk⟩
theorem HdV.below (h : HdV K w vs ls) (hb : Below w.heap.size w w') : HdV K w' vs ls := ⟨h.1, fun j u hj => (h.2 j u hj).below hb⟩
theorem RowsV.stays (h : RowsV K w A n ls) (hs : WStays K w w') : RowsV K w' A n ls := by
 obtain ⟨vs, h1, h2, h3⟩ := h; exact ⟨vs, h1, h2.stays hs, h3.stays hs⟩
theorem RowsV.mono (h : RowsV K w A n ls) (hk : ∀ x, K x -> K' x) : RowsV K' w A n ls := by
 obtain ⟨vs, h1, h2, h3⟩ := h; exact ⟨vs, h1, h2.mono hk, h3.mono hk⟩
theorem RowsV.below (h : RowsV K w A n ls) (hb : Below w.heap.size w w') : RowsV K w' A n ls := by
 obtain ⟨vs, h1, h2, h3⟩ := h; exact ⟨vs, h1, h2.below hb, h3.below hb⟩
theorem RowsV.lt (h : RowsV K w A n ls) : RowsV (fun x => K x /\ x < w.heap.size) w A n ls := by
 obtain ⟨vs, h1, h2, h3⟩ := h
 exact ⟨vs, h1, h2.lt, h3.1, fun j u hj => (h3.2 j u hj).lt⟩
theorem own_vrow {B e : Nat} {v : Value} (ho : w.ownsRow B e sz v n vs) : ∃ A c, v = .slice A n c /\ n <= c /\ c <= maxLen /\ VRow (fun x => B <= x /\ x < w.heap.size) w A n sz vs := by
 rcases ho.2 with ⟨rfl, rfl⟩ | ⟨g, cap, cur, rfl, hB, hh, hnc, hc, hs, ht⟩
 ·exact ⟨none, 0, rfl, Nat.le_refl _, Nat.zero_le _, ho.1, fun _ => rfl, fun h => absurd h (Nat.lt_irrefl 0)⟩
 ·have hlt := (Array.getElem?_eq_some_iff.1 hh).1
  refine ⟨_, cap, rfl, hnc, hc, ho.1, (fun e => by cases e), fun _ => ⟨g, 0, rfl, ⟨hB, hlt⟩, hlt, fun j u hj => ?_⟩⟩
  have := ho.cells (g := g) rfl j u hj
  rwa [Addr.add_lit] at this
end
section
variable {P : Program} {ops : Array Oper} {o : Oper} {a : Act} {w : World} {J : Act -> World -> Prop} {Q : Exit -> Act -> World -> Prop} {E : Prop} {K : Nat -> Prop}
theorem run_appW {T e : TypeId} {z : Value} {size bytes : Nat} (el : El P T e z size bytes) (ty : TypeId) (B : Nat) (v : Value) (n : Nat) (xs : List Value) (hown : w.ownsRow B e size v n xs)
  (A : Option Addr) (m c : Nat) (vs : List Value) (hA : VRow K w A m size vs) (h1 : ∀ u ∈ vs, u.oneCell' = true) (hb : n + m <= 1000000000) (hby : bytes <= 100) (hB : B <= w.heap.size) :
  ∃ v' w', (Builtin.append_ #[T, T] ty #[v, .slice A m c]).run P w = .ok v' w' /\ w'.ownsRow B e size v' (n + m) (xs ++ vs) /\ w.grownBy w' v.ownBlock /\ (v'.ownBlock = v.ownBlock \/ v'.ownBlock = some w.heap.size) := by
 obtain ⟨i, hi, hz, h2, h3⟩ := info_parts el.info
 have hbb : (n + m) * bytes <= 1000000000 * 100 := Nat.mul_le_mul hb hby
 rcases A with _ | ad
 ·have hm := hA.2.1 rfl
  subst hm
  have hn : vs = [] := List.eq_nil_of_length_eq_zero (by rw [hA.1, Nat.zero_mul])
  subst hn
  exact ⟨v, w, run_app_nil w B T ty e i size el.und hi v n xs hown c, by simpa using hown, World.grownBy.refl _ _, .inl rfl⟩
 ·have hcells : ∀ j u, vs[j]? = some u -> w.cell? (ad.add j) = some u := fun j u hj => by
   rcases Nat.eq_zero_or_pos m with h0 | h0
   ·subst h0
    have hn : vs = [] := List.eq_nil_of_length_eq_zero (by rw [hA.1, Nat.zero_mul])
    subst hn
    cases hj
   ·obtain ⟨b, o', e', _, _, hc⟩ := hA.2.2 h0
    injection e' with e'
    subst e'
    rw [Addr.add_lit]
    exact hc j u hj
  obtain ⟨v', w', hrun, r1, r2, _, r3⟩ := run_append_own_at (P := P) w B T ty e i z size bytes el.und hi hz h2 h3 el.zs el.pos v n xs hown ad m c vs hA.1 hcells h1 (by unfold maxLen; omega) (by omega) hB
  exact ⟨v', w', hrun, r1, r2, r3⟩
theorem wpList_appW {T e : TypeId} {z : Value} {size bytes : Nat} (el : El P T e z size bytes) {rest : List Oper} (hgd : Region.wanted o (yielded ops a.tmps) = true) (s x : Operand)
  (ho : o.op = .call { callee := .builtin .append, args := #[s, x], argTypes := #[T, T] })
  (B : Nat) (v : Value) (n : Nat) (xs : List Value) (hs : a.eval s = v) (hown : w.ownsRow B e size v n xs)
  (A : Option Addr) (m c : Nat) (vs : List Value) (hx : a.eval x = .slice A m c) (hA : VRow K w A m size vs) (h1 : ∀ u ∈ vs, u.oneCell' = true)
  (hb : n + m <= 1000000000) (hby : bytes <= 100) (hB : B <= w.heap.size)
  (h : ∀ v' w', w'.ownsRow B e size v' (n + m) (xs ++ vs) -> w.grownBy w' v.ownBlock -> wpList P ops Q rest (a.put o.dst v') w') : wpList P ops Q (o :: rest) a w :=
 wpList_w hgd fun _ hK => by
  obtain ⟨v', w', hrun, r1, r2, _⟩ := run_appW (P := P) (K := K) el o.type B v n xs hown A m c vs hA h1 hb hby hB
  unfold Oper.wp execOp
  simp only [ho, resolve, invoke, builtin, Sem.run_bind, Sem.run_pure, Result.andThen_ok, List.map_toArray, List.map_cons, List.map_nil, hs, hx, hrun]
  exact hK _ _ (h v' w' r1 r2)
theorem step_appX {T e : TypeId} {z : Value} {size bytes : Nat} (el : El P T e z size bytes) (hgd : o.guard = none) (s x : Operand)
  (ho : o.op = .call { callee := .builtin .append, args := #[s, x], argTypes := #[T, T] })
  (B : Nat) (v : Value) (n : Nat) (xs : List Value) (hs : a.eval s = v) (hown : w.ownsRow B e size v n xs)
  (A : Option Addr) (m c : Nat) (vs : List Value) (hx : a.eval x = .slice A m c) (hA : VRow K w A m size vs) (h1 : ∀ u ∈ vs, u.oneCell' = true)
  (hb : n + m <= 1000000000) (hby : bytes <= 100) (hB : B <= w.heap.size)
  (h : ∀ v' w', w'.ownsRow B e size v' (n + m) (xs ++ vs) -> w.grownBy w' v.ownBlock -> (v'.ownBlock = v.ownBlock \/ v'.ownBlock = some w.heap.size) -> J (a.put o.dst v') w') :
  if Region.wanted o (yielded ops a.tmps) = true then Oper.wp P o a w J Q else E := by
 have hw : Region.wanted o (yielded ops a.tmps) = true := by simp [Region.wanted, hgd]
 rw [if_pos hw]
 obtain ⟨v', w', hrun, r1, r2, r3⟩ := run_appW (P := P) (K := K) el o.type B v n xs hown A m c vs hA h1 hb hby hB
 unfold Oper.wp execOp
 simp only [ho, resolve, invoke, builtin, Sem.run_bind, Sem.run_pure, Result.andThen_ok, List.map_toArray, List.map_cons, List.map_nil, hs, hx, hrun]
 exact h v' w' r1 r2 r3
theorem wpList_appX {T e : TypeId} {z : Value} {size bytes : Nat} (el : El P T e z size bytes) {rest : List Oper} (hgd : Region.wanted o (yielded ops a.tmps) = true) (s x : Operand)
  (ho : o.op = .call { callee := .builtin .append, args := #[s, x], argTypes := #[T, T] })
  (B : Nat) (v : Value) (n : Nat) (xs : List Value) (hs : a.eval s = v) (hown : w.ownsRow B e size v n xs)
  (A : Option Addr) (m c : Nat) (vs : List Value) (hx : a.eval x = .slice A m c) (hA : VRow K w A m size vs) (h1 : ∀ u ∈ vs, u.oneCell' = true)
  (hb : n + m <= 1000000000) (hby : bytes <= 100) (hB : B <= w.heap.size)
  (h : ∀ v' w', w'.ownsRow B e size v' (n + m) (xs ++ vs) -> w.grownBy w' v.ownBlock -> (v'.ownBlock = v.ownBlock \/ v'.ownBlock = some w.heap.size) -> wpList P ops Q rest (a.put o.dst v') w') : wpList P ops Q (o :: rest) a w :=
 wpList_w hgd fun _ hK => by
  obtain ⟨v', w', hrun, r1, r2, r3⟩ := run_appW (P := P) (K := K) el o.type B v n xs hown A m c vs hA h1 hb hby hB
  unfold Oper.wp execOp
  simp only [ho, resolve, invoke, builtin, Sem.run_bind, Sem.run_pure, Result.andThen_ok, List.map_toArray, List.map_cons, List.map_nil, hs, hx, hrun]
  exact hK _ _ (h v' w' r1 r2 r3)
end
end Go.Proofs.YthiknmhkdeicjaaGreatDoor
