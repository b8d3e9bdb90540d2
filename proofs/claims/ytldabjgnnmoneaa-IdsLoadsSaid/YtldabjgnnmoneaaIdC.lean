/- The contracts of use and release. -/
import Derived.Test.YtldabjgnnmoneaaIdB
import Derived.Deep.RegionLawGrows
namespace Go.Proofs.Ytldabjgnnmoneaa
open Go.RowKit

/-- Names at p all of whose blocks are of own. -/
def IDv (w : World) (own : Nat → Prop) (p : Nat) (s : NS) : Prop := (∀ x, own x → x < w.heap.size) ∧ ∃ gv av fv, IAt w own p gv av fv s
/-- What became of names. -/
def IGoes (w : World) (own : Nat → Prop) (p : Nat) (s : NS) (w' : World) : Prop := Fr own w w' ∧ ∃ own', (∀ x, own' x → own x ∨ w.heap.size ≤ x) ∧ IDv w' own' p s

theorem own_not {w : World} {B e n q : Nat} {T : TypeId} {C : Array Value} {v : Value} {xs : List Value} (h : w.ownsRow B e 1 v n xs) (hq : w.heap[q]? = some (.cells C T (0, 0))) (hne : T ≠ e) : v.ownBlock ≠ some q := fun hx => by
  obtain ⟨D, hD⟩ := own_tagI h hx
  rw [hq] at hD
  injection hD with hD
  injection hD with _ h2
  exact hne h2
theorem own_set {w : World} {B e n q i : Nat} {v u : Value} {xs : List Value} (h : w.ownsRow B e 1 v n xs) (hne : v.ownBlock ≠ some q) : (w.setCell ⟨q, i, none⟩ u).ownsRow B e 1 v n xs :=
  own_fr h (Fr.setCell (own := (· = q)) w (p := ⟨q, i, none⟩) rfl u) (fun x hx e => hne (by rw [hx, show x = q from e]))
theorem own_kept {w w' : World} {B e n : Nat} {v : Value} {xs : List Value} {row : Option Nat} (h : w.ownsRow B e 1 v n xs) (hg : w.grownBy w' row) (hne : ∀ x, row = some x → v.ownBlock ≠ some x) : w'.ownsRow B e 1 v n xs := by
  refine h.kept hg ?_
  cases hv : v.ownBlock with
  | none => exact .inl rfl
  | some y => exact .inr (fun e => hne y e.symm hv)
theorem rec_kept {w w' : World} {T p : Nat} {cs : Array Value} {row : Option Nat} (h : Rec T w p cs) (hg : w.grownBy w' row) (hne : row ≠ some p) : Rec T w' p cs := (hg.block p h.lt (fun e => hne e.symm)).trans h

section
variable {w : World} {own : Nat → Prop} {p : Nat} {gv av fv : Value} {s : NS}
theorem IAt.mem (h : IAt w own p gv av fv s) : Rec 58 w p #[.int .i64 s.E, .int .i64 s.L, gv, av, fv] := h.blk

/-- A row behind an append of one element: as a slice. -/
theorem own_sl {w : World} {B e n : Nat} {v : Value} {xs : List Value} (h : w.ownsRow B e 1 v n xs) : ∃ A c, v = .slice A n c := by
  obtain ⟨A, c, e, _⟩ := own_open h
  exact ⟨A, c, e⟩

set_option maxHeartbeats 1000000 in
theorem use_any (dom : ∀ x, own x → x < w.heap.size) (h : IAt w own p gv av fv s) (gen : Int) (hlen : s.g.length < s.E) (hg : 0 ≤ gen ∧ gen ≤ s.L) :
    Calls Try.prog 30 #[.pointer (some ⟨p, 0, none⟩), .int .i64 gen] w fun e w' => e = .returned (.tuple #[]) ∧ IGoes w own p (s.push gen) w' := by
  obtain ⟨i0, hi0, hz0, hz1, hz2⟩ := info_parts intT.info
  obtain ⟨A, c, rfl⟩ := own_sl h.gens
  obtain ⟨A3, c3', rfl⟩ := own_sl h.ali
  obtain ⟨A4, c4', rfl⟩ := own_sl h.free
  have c2 := h.c2
  have hE := h.ok.E2
  have H := Lib.hid h
  have hplt := h.lt
  have hone : ∀ u ∈ [Value.int .i64 gen], u.oneCell' = true := fun u hu => by rw [List.mem_singleton.1 hu]; rfl
  have hone2 : ∀ u ∈ [Value.bool (decide (gen < s.L))], u.oneCell' = true := fun u hu => by rw [List.mem_singleton.1 hu]; rfl
  -- the rows and the struct, the new element's block laid
  obtain ⟨wa, hwa⟩ : ∃ wa, wa = w.alloc (.cells #[.int .i64 gen] 3) := ⟨_, rfl⟩
  have ba : Below w.heap.size w wa := by rw [hwa]; exact (Below.refl _ _).alloc (Nat.le_refl _) _
  have hsza : wa.heap.size = w.heap.size + 1 := by rw [hwa]; simp
  have hra := h.mem.under ba
  have hga := own_keep h.gens ba
  have hla := own_keep h.ali ba
  have hfa := own_keep h.free ba
  have hone1 : ∀ j u, [Value.int .i64 gen][j]? = some u → wa.cell? ((⟨w.heap.size, 0, none⟩ : Addr).add j) = some u := by rw [hwa]; exact cell_one_new _ _ _
  clear h
  have HW := Lib.hid hwa
  clear hwa
  go_enter Try.func30, Try.ntmps30
  go_wp2_with (first
    | (rw [← HW.out])
    | (at_builtin; refine wpList_append_own_at _ rfl (.tmp 8) (.tmp 10) 28 rfl 0 3 i0 (.int .i64 0) 1 8 Try.underlying28 hi0 hz0 hz1 hz2 rfl (by decide) (.slice A s.g.length c) s.g.length (s.g.map (Value.int .i64)) rfl hga ⟨w.heap.size, 0, none⟩ 1 1 [.int .i64 gen] rfl rfl hone1 hone (by unfold maxLen; omega) (by omega) (Nat.zero_le _) ?_))
  intro v1 w1 ho1 hg1 _ he1
  obtain ⟨A1, c1, rfl⟩ := own_sl ho1
  have hr1 := rec_kept hra hg1 (own_not hga hra (by decide))
  have hl1 := own_kept hla hg1 (fun x hx e => by
    obtain ⟨C, hC⟩ := own_tagI hga hx
    exact own_not hla hC (by decide) e)
  have hf1 := own_kept hfa hg1 (fun x hx e => H.out.apart x hx e)
  have k2 : w1.cell? ⟨p, 2, none⟩ = some (.slice A s.g.length c) := hr1.at_ 2
  have f2 := hr1.fz 2
  have hF1 : Fr own w w1 := (Fr.ofBelow own ba).trans' (Fr.grown hg1 (own := own) (fun x hx => H.out.owng x hx)) (fun x hx => .inl hx)
  obtain ⟨w2, hw2⟩ : ∃ w2, w2 = w1.setCell ⟨p, 2, none⟩ (.slice A1 (s.g.length + 1) c1) := ⟨_, rfl⟩
  have hF2 : Fr own w w2 := hF1.trans (by rw [hw2]; exact Fr.setCell w1 (p := ⟨p, 2, none⟩) H.out.ownp _)
  have hr2 : Rec 58 w2 p #[.int .i64 s.E, .int .i64 s.L, .slice A1 (s.g.length + 1) c1, .slice A3 s.g.length c3', .slice A4 s.fr.length c4'] := by rw [hw2]; exact hr1.set 2 _
  have ho2 : w2.ownsRow 0 3 1 (.slice A1 (s.g.length + 1) c1) (s.g.length + 1) (s.g.map (Value.int .i64) ++ [.int .i64 gen]) := by rw [hw2]; exact own_set ho1 (own_not ho1 hr1 (by decide))
  have hl2 := own_set (i := 2) (u := .slice A1 (s.g.length + 1) c1) hl1 (own_not hl1 hr1 (by decide))
  have hf2 := own_set (i := 2) (u := .slice A1 (s.g.length + 1) c1) hf1 (own_not hf1 hr1 (by decide))
  rw [← hw2] at hl2 hf2
  have hs2 : w.heap.size + 1 ≤ w2.heap.size := by have := hg1.size; rw [hw2]; simp [World.setCell]; omega
  -- and with the second new element's block
  obtain ⟨wb, hwb⟩ : ∃ wb, wb = w2.alloc (.cells #[.bool (decide (gen < s.L))] 4) := ⟨_, rfl⟩
  have bb : Below w2.heap.size w2 wb := by rw [hwb]; exact (Below.refl _ _).alloc (Nat.le_refl _) _
  have hrb := hr2.under bb
  have hob := own_keep ho2 bb
  have hlb := own_keep hl2 bb
  have hfb := own_keep hf2 bb
  have hnew : ∀ j u, [Value.bool (decide (gen < s.L))][j]? = some u → wb.cell? ((⟨w2.heap.size, 0, none⟩ : Addr).add j) = some u := by rw [hwb]; exact cell_one_new _ _ _
  have q1 : w2.cell? ⟨p, 1, none⟩ = some (.int .i64 s.L) := hr2.at_ 1
  have q3 : w2.cell? ⟨p, 3, none⟩ = some (.slice A3 s.g.length c3') := hr2.at_ 3
  have q3b : (w2.alloc (.cells #[.bool (decide (gen < s.L))] 4)).cell? ⟨p, 3, none⟩ = some (.slice A3 s.g.length c3') := by rw [← hwb]; exact hrb.at_ 3
  have q1d : w2.drew.cell? ⟨p, 1, none⟩ = some (.int .i64 s.L) := q1
  have q3d : w2.drew.cell? ⟨p, 3, none⟩ = some (.slice A3 s.g.length c3') := q3
  have q3bd : (w2.alloc (.cells #[.bool (decide (gen < s.L))] 4)).drew.cell? ⟨p, 3, none⟩ = some (.slice A3 s.g.length c3') := q3b
  have hlbd : (w2.alloc (.cells #[.bool (decide (gen < s.L))] 4)).drew.ownsRow 0 4 1 (.slice A3 s.g.length c3') s.g.length (s.liveL.map Value.bool) := by rw [← hwb]; exact hlb
  have hnewd : ∀ j u, [Value.bool (decide (gen < s.L))][j]? = some u → (w2.alloc (.cells #[.bool (decide (gen < s.L))] 4)).drew.cell? ((⟨w2.heap.size, 0, none⟩ : Addr).add j) = some u := by rw [← hwb]; exact hnew
  have hrbd : Rec 58 (w2.alloc (.cells #[.bool (decide (gen < s.L))] 4)).drew p #[.int .i64 s.E, .int .i64 s.L, .slice A1 (s.g.length + 1) c1, .slice A3 s.g.length c3', .slice A4 s.fr.length c4'] := by rw [← hwb]; exact hrb
  have hobd : (w2.alloc (.cells #[.bool (decide (gen < s.L))] 4)).drew.ownsRow 0 3 1 (.slice A1 (s.g.length + 1) c1) (s.g.length + 1) (s.g.map (Value.int .i64) ++ [.int .i64 gen]) := by rw [← hwb]; exact hob
  have hfbd : (w2.alloc (.cells #[.bool (decide (gen < s.L))] 4)).drew.ownsRow 0 3 1 (.slice A4 s.fr.length c4') s.fr.length (s.fr.map (Value.int .i64)) := by rw [← hwb]; exact hfb
  have bbd : Below w2.heap.size w2 (w2.alloc (.cells #[.bool (decide (gen < s.L))] 4)).drew := by rw [← hwb]; exact bb.trans (Below.refl _ _).drew
  have hszb : (w2.alloc (.cells #[.bool (decide (gen < s.L))] 4)).drew.heap.size = w2.heap.size + 1 := by show (w2.heap.push _).size = _; simp
  have HB := Lib.hid hszb
  have HLBD := Lib.hid hlbd
  have HND := Lib.hid hnewd
  have HRB := Lib.hid hrbd
  have HOB := Lib.hid hobd
  have HFB := Lib.hid hfbd
  have BB := Lib.hid bbd
  have HF2 := Lib.hid hF2
  have HW2 := Lib.hid hw2
  have HE1 := Lib.hid he1
  have HS2 := Lib.hid hs2
  have HONE2 := Lib.hid hone2
  have HSZA := Lib.hid hsza
  clear hwb hlbd hnewd hrb hob hlb hfb bb hrbd hobd hfbd bbd hszb hF2 hw2 he1 hs2 hr1 hl1 hf1 hF1 hr2 ho2 hl2 hf2 ho1 hg1 hone hone2 hone1 hra hga hla hfa ba hsza HW c2 hnew
  go_wp2_with (first | (rw [← HW2.out]))
  go_region_law (first
    | (refine step_appV boolT rfl (.tmp 18) (.tmp 25) rfl 0 _ s.g.length (s.liveL.map Value.bool) rfl HLBD.out ⟨w2.heap.size, 0, none⟩ 1 1 [.bool (decide (gen < s.L))] rfl rfl HND.out HONE2.out (by omega) (by decide) (Nat.zero_le _) ?_; intro v3 w3 ho3 hg3 he3; obtain ⟨A5, c5, rfl⟩ := own_sl ho3; have hr3 := rec_kept HRB.out hg3 (own_not HLBD.out HRB.out (by decide)); have k3 : w3.cell? ⟨p, 3, none⟩ = some (.slice A3 s.g.length c3') := hr3.at_ 3; have f3 := hr3.fz 3))
  all_goals
    go_wp2
    go_end0
    have o3 := own_kept HOB.out hg3 (fun x hx e => by
      obtain ⟨C, hC⟩ := own_tagI HLBD.out hx
      exact own_not HOB.out hC (by decide) e)
    have g3 := own_kept HFB.out hg3 (fun x hx e => by
      obtain ⟨C, hC⟩ := own_tagI HLBD.out hx
      exact own_not HFB.out hC (by decide) e)
    have hF3 : Fr own w w3 := (HF2.out.trans (Fr.ofBelow own BB.out)).trans (Fr.grown hg3 (own := own) (fun x hx => H.out.owna x hx))
    have hF4 := hF3.trans (Fr.setCell (own := own) w3 (p := ⟨p, 3, none⟩) H.out.ownp (.slice A5 (s.g.length + 1) c5))
    have hs3 := hg3.size
    have hs4 : (w3.setCell ⟨p, 3, none⟩ (.slice A5 (s.g.length + 1) c5)).heap.size = w3.heap.size := by simp [World.setCell]
    have hs2 := HS2.out
    have hszb := HB.out
    have hsza := HSZA.out
    have a1 : ∀ x, (Value.slice A1 (s.g.length + 1) c1).ownBlock = some x → (Value.slice A s.g.length c).ownBlock = some x ∨ x = w.heap.size + 1 := fun x hx => by
      rcases HE1.out with e | e
      · exact .inl (e ▸ hx)
      · rw [hx] at e; injection e with e; exact .inr (by omega)
    have a5 : ∀ x, (Value.slice A5 (s.g.length + 1) c5).ownBlock = some x → own x ∨ x = w2.heap.size + 1 := fun x hx => by
      rcases he3 with e | e
      · exact .inl (H.out.owna x (e ▸ hx))
      · rw [hx] at e; injection e with e; exact .inr (by omega)
    refine ⟨rfl, hF4, fun x => own x ∨ (w.heap.size ≤ x ∧ x < w3.heap.size), fun x hx => hx.imp id And.left, fun x hx => ?_, .slice A1 (s.g.length + 1) c1, .slice A5 (s.g.length + 1) c5, .slice A4 s.fr.length c4', ?_⟩
    · rw [hs4]
      rcases hx with hx | hx
      · have := dom x hx; omega
      · exact hx.2
    · have hgl : (s.push gen).g.length = s.g.length + 1 := by simp [NS.push]
      exact {
        blk := hr3.set 3 _
        gens := by
          rw [hgl, show (s.push gen).g.map (Value.int .i64) = s.g.map (Value.int .i64) ++ [.int .i64 gen] by simp [NS.push]]
          exact own_set o3 (own_not o3 hr3 (by decide))
        ali := by
          rw [hgl, NS.liveL_push H.out.ok gen, List.map_append]
          exact own_set ho3 (own_not ho3 hr3 (by decide))
        free := own_set g3 (own_not g3 hr3 (by decide))
        apart := fun x hx e => by
          rcases a1 x hx with h1 | h1
          · exact H.out.apart x h1 e
          · have := dom x (H.out.ownf x e); omega
        ownp := .inl H.out.ownp
        owng := fun x hx => by
          rcases a1 x hx with h1 | h1
          · exact .inl (H.out.owng x h1)
          · have := (o3.lt x hx).2
            exact .inr ⟨by omega, by omega⟩
        owna := fun x hx => by
          rcases a5 x hx with h1 | h1
          · exact .inl h1
          · have := (ho3.lt x hx).2
            exact .inr ⟨by omega, by omega⟩
        ownf := fun x hx => .inl (H.out.ownf x hx)
        ok := NS.push_ok H.out.ok hlen hg }

set_option maxHeartbeats 1000000 in
theorem release_any (dom : ∀ x, own x → x < w.heap.size) (j : Nat) (s' : NS) (hj : j < s.g.length) (hE : s'.E = s.E) (hL : s'.L = s.L) (hgl : s'.g.length = s.g.length) (hll : s'.liveL = s.liveL.set j false) (hfr : s'.fr = s.fr ++ [(j : Int)]) (ok : s'.Ok)
    (hb : w.heap[p]? = some (.cells #[.int .i64 s.E, .int .i64 s.L, gv, av, fv] 58 (0, 0))) (hgens : w.ownsRow 0 3 1 gv s'.g.length (s'.g.map (Value.int .i64))) (hali : w.ownsRow 0 4 1 av s.g.length (s.liveL.map Value.bool))
    (hfree : w.ownsRow 0 3 1 fv s.fr.length (s.fr.map (Value.int .i64))) (apart : ∀ x, gv.ownBlock = some x → fv.ownBlock ≠ some x) (ownp : own p) (owng : ∀ x, gv.ownBlock = some x → own x) (owna : ∀ x, av.ownBlock = some x → own x) (ownf : ∀ x, fv.ownBlock = some x → own x) (hfew : s.fr.length ≤ 1024) :
    Calls Try.prog 32 #[.pointer (some ⟨p, 0, none⟩), .int .i64 j] w fun e w' => e = .returned (.tuple #[]) ∧ IGoes w own p s' w' := by
  obtain ⟨i0, hi0, hz0, hz1, hz2⟩ := info_parts intT.info
  obtain ⟨A, c, rfl⟩ := own_sl hgens
  obtain ⟨A3, c3', rfl, hc3, hm3, hr3⟩ := own_open hali
  obtain ⟨A4, c4', rfl⟩ := own_sl hfree
  obtain ⟨g3, rfl, hg3, hcell3, hfz3⟩ := hr3 (by omega)
  have hr : Rec 58 w p #[.int .i64 s.E, .int .i64 s.L, .slice A s'.g.length c, .slice (some ⟨g3, 0, none⟩) s.g.length c3', .slice A4 s.fr.length c4'] := hb
  have c3 : w.cell? ⟨p, 3, none⟩ = some (.slice (some ⟨g3, 0, none⟩) s.g.length c3') := hr.at_ 3
  have d3 := hcell3 j hj
  rw [List.getElem?_map, List.getElem?_eq_getElem (by rw [s.liveL_len]; exact hj)] at d3
  simp only [Option.map_some] at d3
  have e3 := hfz3 j
  have hone : ∀ u ∈ [Value.int .i64 j], u.oneCell' = true := fun u hu => by rw [List.mem_singleton.1 hu]; rfl
  obtain ⟨w1, hw1⟩ : ∃ w1, w1 = w.setCell ⟨g3, j, none⟩ (.bool false) := ⟨_, rfl⟩
  have hst := hali.stored j (.bool false)
  rw [← hw1] at hst
  obtain ⟨hali1, hgr1⟩ := hst
  have hp3 : g3 ≠ p := fun e => own_not hali hr (by decide) (by rw [← e]; rfl)
  have hr1 := rec_kept hr hgr1 (fun e => hp3 (by injection e))
  have hgens1 := own_kept hgens hgr1 (fun x hx e => by
    obtain ⟨C, hC⟩ := own_tagI hali (x := x) (by rw [← hx]; rfl)
    exact own_not hgens hC (by decide) e)
  have hfree1 := own_kept hfree hgr1 (fun x hx e => by
    obtain ⟨C, hC⟩ := own_tagI hali (x := x) (by rw [← hx]; rfl)
    exact own_not hfree hC (by decide) e)
  have hF1 : Fr own w w1 := Fr.grown hgr1 (fun x hx => owna x (by rw [← hx]; rfl))
  have hs1 : w1.heap.size = w.heap.size := by rw [hw1]; simp [World.setCell]
  have hset : (s.liveL.map Value.bool).set j (.bool false) = s'.liveL.map Value.bool := by rw [hll, List.map_set]
  rw [hset] at hali1
  obtain ⟨wa, hwa⟩ : ∃ wa, wa = w1.alloc (.cells #[.int .i64 j] 3) := ⟨_, rfl⟩
  have ba : Below w1.heap.size w1 wa := by rw [hwa]; exact (Below.refl _ _).alloc (Nat.le_refl _) _
  have hsza : wa.heap.size = w1.heap.size + 1 := by rw [hwa]; simp
  have hra := hr1.under ba
  have hga := own_keep hgens1 ba
  have hla := own_keep hali1 ba
  have hfa := own_keep hfree1 ba
  have hone1 : ∀ k u, [Value.int .i64 j][k]? = some u → wa.cell? ((⟨w1.heap.size, 0, none⟩ : Addr).add k) = some u := by rw [hwa]; exact cell_one_new _ _ _
  have k4 : w1.cell? ⟨p, 4, none⟩ = some (.slice A4 s.fr.length c4') := hr1.at_ 4
  have HW := Lib.hid hwa
  have HW1 := Lib.hid hw1
  have HF1 := Lib.hid hF1
  have BA := Lib.hid ba
  have HLL := Lib.hid hll
  have HGA := Lib.hid hga
  have HLA := Lib.hid hla
  have HRA := Lib.hid hra
  have HS1 := Lib.hid hs1
  have HSZA := Lib.hid hsza
  have OK := Lib.hid ok
  have HFR := Lib.hid hfr
  have HE := Lib.hid hE
  have HL := Lib.hid hL
  clear hwa hw1 hF1 ba hll hga hla hra hs1 hsza ok hfr hE hL hset hali hgens hfree hb hr hr1 hgr1 hali1 hgens1 hfree1 hcell3 hfz3 hr3
  go_enter Try.func32, Try.ntmps32
  go_wp2_with (first
    | (rw [← HW1.out])
    | (rw [← HW.out])
    | (at_builtin; refine wpList_append_own_at _ rfl (.tmp 14) (.tmp 16) 28 rfl 0 3 i0 (.int .i64 0) 1 8 Try.underlying28 hi0 hz0 hz1 hz2 rfl (by decide) (.slice A4 s.fr.length c4') s.fr.length (s.fr.map (Value.int .i64)) rfl hfa ⟨w1.heap.size, 0, none⟩ 1 1 [.int .i64 j] rfl rfl hone1 hone (by unfold maxLen; omega) (by omega) (Nat.zero_le _) ?_))
  intro v2 w2 ho2 hg2 _ he2
  obtain ⟨A2, c2, rfl⟩ := own_sl ho2
  have hr2 := rec_kept HRA.out hg2 (own_not hfa HRA.out (by decide))
  have q4 : w2.cell? ⟨p, 4, none⟩ = some (.slice A4 s.fr.length c4') := hr2.at_ 4
  have f4 := hr2.fz 4
  go_wp2
  go_end0
  have o2 := own_kept HGA.out hg2 (fun x hx e => apart x e hx)
  have l2 := own_kept HLA.out hg2 (fun x hx e => by
    obtain ⟨C, hC⟩ := own_tagI hfa hx
    exact own_not HLA.out hC (by decide) e)
  have hF2 : Fr own w w2 := (HF1.out.trans (Fr.ofBelow own BA.out)).trans (Fr.grown hg2 (own := own) (fun x hx => ownf x hx))
  have hF3 := hF2.trans (Fr.setCell (own := own) w2 (p := ⟨p, 4, none⟩) ownp (.slice A2 (s.fr.length + 1) c2))
  have hs3 : (w2.setCell ⟨p, 4, none⟩ (.slice A2 (s.fr.length + 1) c2)).heap.size = w2.heap.size := by simp [World.setCell]
  have hs2 := hg2.size
  have hs1 := HS1.out
  have hsza := HSZA.out
  have a2 : ∀ x, (Value.slice A2 (s.fr.length + 1) c2).ownBlock = some x → (Value.slice A4 s.fr.length c4').ownBlock = some x ∨ x = w.heap.size + 1 := fun x hx => by
    rcases he2 with e | e
    · exact .inl (e ▸ hx)
    · rw [hx] at e; injection e with e; exact .inr (by omega)
  refine ⟨rfl, hF3, fun x => own x ∨ (w.heap.size ≤ x ∧ x < w2.heap.size), fun x hx => hx.imp id And.left, fun x hx => ?_, .slice A s'.g.length c, .slice (some ⟨g3, 0, none⟩) s.g.length c3', .slice A2 (s.fr.length + 1) c2, ?_⟩
  · rw [hs3]
    rcases hx with hx | hx
    · have := dom x hx; omega
    · exact hx.2
  · have hfl : s'.fr.length = s.fr.length + 1 := by rw [HFR.out]; simp
    exact {
      blk := by rw [HE.out, HL.out]; exact hr2.set 4 _
      gens := own_set o2 (own_not o2 hr2 (by decide))
      ali := by
        rw [hgl]
        exact own_set l2 (own_not l2 hr2 (by decide))
      free := by
        rw [hfl, HFR.out, List.map_append]
        exact own_set ho2 (own_not ho2 hr2 (by decide))
      apart := fun x hx e => by
        rcases a2 x e with h1 | h1
        · exact apart x hx h1
        · have := dom x (owng x hx); omega
      ownp := .inl ownp
      owng := fun x hx => .inl (owng x hx)
      owna := fun x hx => .inl (owna x (by rw [← hx]))
      ownf := fun x hx => by
        rcases a2 x hx with h1 | h1
        · exact .inl (ownf x h1)
        · have := (ho2.lt x hx).2
          exact .inr ⟨by omega, by omega⟩
      ok := OK.out }
end
end Go.Proofs.Ytldabjgnnmoneaa
