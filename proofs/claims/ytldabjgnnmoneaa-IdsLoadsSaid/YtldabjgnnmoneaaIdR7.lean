/- The reference's Give. -/
import Derived.Test.YtldabjgnnmoneaaIdR6
namespace Go.Proofs.Ytldabjgnnmoneaa
open Go.RowKit

/-- What the reference's Give leaves. -/
def GLeft (K : Nat → Prop) (w : World) (s : NS) (cd : Int) (e : Ending) (w' : World) : Prop :=
  ∃ d' : Rv, e = .returned (.tuple #[d'.v, .int .i64 cd]) ∧ RS (fun y => K y ∨ (w.heap.size ≤ y ∧ y < w'.heap.size)) w' d' s ∧ Below w.heap.size w w'

section
variable {K : Nat → Prop} {w : World} {d : Rv} {s : NS}

theorem RGive_no (h : RS K w d s) (hf : s.fr.length ≤ 1000000) (i gen : Int) (ha : s.alive i gen = false) :
    Calls Try.prog 23 #[d.v, idv (i, gen)] w (GLeft K w s 5) := by
  obtain ⟨E, L, GA, gn, gc, FA, fn, fc⟩ := d
  have H := Lib.hid h
  show Calls _ _ #[.agg #[.int .i64 E, .int .i64 L, .slice GA gn gc, .slice FA fn fc], .agg #[.int .i64 i, .int .i64 gen]] w _
  obtain ⟨hb, hA1, hB1, hC1⟩ := three_new w 30 24 30 #[.int .i64 E, .int .i64 L, .slice GA gn gc, .slice FA fn fc] #[.int .i64 i, .int .i64 gen] #[.int .i64 0, .int .i64 0, .slice none 0 0, .slice none 0 0]
  obtain ⟨w1, hw1⟩ : ∃ w1, w1 = ((w.alloc (.cells #[.int .i64 E, .int .i64 L, .slice GA gn gc, .slice FA fn fc] 30)).alloc (.cells #[.int .i64 i, .int .i64 gen] 24)).alloc (.cells #[.int .i64 0, .int .i64 0, .slice none 0 0, .slice none 0 0] 30) := ⟨_, rfl⟩
  rw [← hw1] at hb hA1 hB1 hC1
  have CA := RAlive_any (h.below hb) hf i gen
  rw [ha] at CA
  simp only [Rv.v, idv] at CA
  have CB := Lib.hid CA
  have HB := Lib.hid hb
  have HA1 := Lib.hid hA1
  have HB1 := Lib.hid hB1
  have HC1 := Lib.hid hC1
  clear CA hb hA1 hB1 hC1 h ha
  go_enter Try.func23, Try.ntmps23
  go_wp2_with (first
    | (rw [← hw1]; clear hw1)
    | (with_reducible refine wpList_ldQ rfl (.tmp 2) rfl rfl HA1.out ?_)
    | (with_reducible refine wpList_ldP rfl (.tmp 3) rfl rfl HB1.out ?_)
    | (go_at_call 29; refine CB.out.mono ?_; rintro e w2 ⟨rfl, hB2⟩; have HA2 := Lib.hid (HA1.out.under hB2); have HC2 := Lib.hid (HC1.out.under hB2); have HB2 := Lib.hid (HB.out.trans (hB2.mono HB.out.size)); clear hB2)
    | (with_reducible refine wpList_ldQ rfl (.tmp 2) rfl rfl HA2.out ?_)
    | (with_reducible refine wpList_stQ (E' := E) (L' := L) (GA' := GA) (gn' := gn) (gc' := gc) (FA' := FA) (fn' := fn) (fc' := fc) rfl (.tmp 4) (.tmp 10) rfl rfl rfl HC2.out ?_; intro w3 hR3 hF3))
  refine bodyPost_ret (res_ct rfl rfl (hR3.load rsT rfl)) rfl ?_
  have hB : Below w.heap.size w w3 := HB2.out.trans (hF3.toBelow (fun x hx => by rw [show x = w.heap.size + 2 from hx]; omega) HB2.out.size)
  exact ⟨⟨E, L, GA, gn, gc, FA, fn, fc⟩, rfl, (H.out.below hB).mono (fun x hx => .inl hx), hB⟩

set_option maxHeartbeats 4000000 in
theorem RGive_old (h : RS K w d s) (ok : s.Ok) (i gen : Int) (ha : s.alive i gen = true) (hlt : ¬ gen + 1 < s.L) :
    Calls Try.prog 23 #[d.v, idv (i, gen)] w (GLeft K w (s.give i gen).1 0) := by
  obtain ⟨i0, hi0, hz0, hz1, hz2⟩ := info_parts intT.info
  have hgv := NS.give_yes ha
  obtain ⟨⟨q0, q1, q2, q3⟩, q4⟩ := NS.alive_iff.1 ha
  obtain ⟨j, rfl⟩ : ∃ j : Nat, i = (j : Int) := ⟨i.toNat, by omega⟩
  rw [Int.toNat_natCast] at hgv q3 q4
  have hjg : j < s.g.length := by omega
  have hgz := ok.gD j
  rw [q4] at hgz q3
  have hL2 := ok.L2
  have hg0 : (0 : Int) ≤ gen := hgz.1
  have hg1 : gen < 1073741824 := by omega
  have hfew := ok.few
  obtain ⟨E, L, GA, gn, gc, FA, fn, fc⟩ := d
  have hgn := h.gn
  have hfn := h.fn
  have hL := h.L
  simp only at hgn hfn hL
  have hj : j < gn := by omega
  have hfn1 : fn ≤ 1024 := by omega
  have hgn1 : gn ≤ 1024 := by have := ok.len; have := ok.E2; omega
  have hdec : decide (gen + 1 < L) = false := by rw [hL]; exact decide_eq_false hlt
  have hgr := h.g.1
  have hfr := h.f.1
  simp only at hgr hfr
  have H := Lib.hid h
  have HGV := Lib.hid hgv
  have HGN := Lib.hid hgn
  have HFN := Lib.hid hfn
  have HQ4 := Lib.hid q4
  have HJ := Lib.hid hjg
  have HLT := Lib.hid hlt
  show Calls _ _ #[.agg #[.int .i64 E, .int .i64 L, .slice GA gn gc, .slice FA fn fc], .agg #[.int .i64 j, .int .i64 gen]] w _
  obtain ⟨hb, hA1, hB1, hC1⟩ := three_new w 30 24 30 #[.int .i64 E, .int .i64 L, .slice GA gn gc, .slice FA fn fc] #[.int .i64 j, .int .i64 gen] #[.int .i64 0, .int .i64 0, .slice none 0 0, .slice none 0 0]
  obtain ⟨w1, hw1⟩ : ∃ w1, w1 = ((w.alloc (.cells #[.int .i64 E, .int .i64 L, .slice GA gn gc, .slice FA fn fc] 30)).alloc (.cells #[.int .i64 j, .int .i64 gen] 24)).alloc (.cells #[.int .i64 0, .int .i64 0, .slice none 0 0, .slice none 0 0] 30) := ⟨_, rfl⟩
  rw [← hw1] at hb hA1 hB1 hC1
  have hs1 : w.heap.size + 3 = w1.heap.size := by rw [hw1]; simp
  have CA := RAlive_any (h.below hb) (by omega) (j : Int) gen
  rw [ha] at CA
  simp only [Rv.v, idv] at CA
  have CB := Lib.hid CA
  have HB := Lib.hid hb
  have HA1 := Lib.hid hA1
  have HB1 := Lib.hid hB1
  have HC1 := Lib.hid hC1
  have HGR := Lib.hid hgr
  have HFR := Lib.hid hfr
  clear CA hb hA1 hB1 hC1 h ha hgv hgn hfn q4 hjg hgr hfr q0 q1 q2 q3 hgz hL2 hL hlt
  go_enter Try.func23, Try.ntmps23
  go_wp2_with (first
    | (rw [← hw1]; clear hw1)
    | (with_reducible refine wpList_ldQ rfl (.tmp 2) rfl rfl HA1.out ?_)
    | (with_reducible refine wpList_ldP rfl (.tmp 3) rfl rfl HB1.out ?_)
    | (go_at_call 29; refine CB.out.mono ?_; rintro e w2 ⟨rfl, hB2⟩; have HA2 := Lib.hid (HA1.out.under hB2); have HD2 := Lib.hid (HB1.out.under hB2); have HC2 := Lib.hid (HC1.out.under hB2); have hs2 := hB2.size; have HB2 := Lib.hid (HB.out.trans (hB2.mono HB.out.size)); have a2 : w2.cell? ⟨w.heap.size, 2, none⟩ = some (.slice GA gn gc) := HA2.out.at_ 2; have a2a : (w2.alloc (.cells #[] 3)).cell? ⟨w.heap.size, 2, none⟩ = some (.slice GA gn gc) := (HA2.out.under ((Below.refl _ _).alloc (Nat.le_refl _) _)).at_ 2; have hoa := own_empty w2 w2.heap.size 3 (Nat.le_refl _); have hra := (HGR.out.below HB2.out).below ((Below.refl _ _).alloc (Nat.le_refl _) (.cells #[] 3)); clear hB2)
    | (at_builtin; refine wpList_appI _ intT rfl (.tmp 11) (.tmp 13) rfl w2.heap.size _ 0 [] rfl hoa GA gn gc s.g rfl hra (by omega) (by simp) ?_))
  intro v3 w3 ho3 hg3
  try rw [List.nil_append, Nat.zero_add] at ho3
  obtain ⟨A3, c3', rfl, hc3, hm3, hr3⟩ := own_open ho3
  obtain ⟨g3, rfl, hg3l, hcell3, hfz3⟩ := hr3 (by omega)
  have b3 : Below w2.heap.size w2 w3 := ((Below.refl _ _).alloc (Nat.le_refl _) _).trans (below_own hoa (by simp) hg3)
  have hA3 := HA2.out.under b3
  have hD3 := HD2.out.under b3
  have hC3 := HC2.out.under b3
  have hgb := (ho3.lt g3 rfl).1
  have k2 : w3.cell? ⟨w.heap.size, 2, none⟩ = some (.slice GA gn gc) := hA3.at_ 2
  have f2 := hA3.fz 2
  -- the new row stored; then one of its cells
  obtain ⟨w4, hw4⟩ : ∃ w4, w4 = w3.setCell ⟨w.heap.size, 2, none⟩ (.slice (some ⟨g3, 0, none⟩) gn c3') := ⟨_, rfl⟩
  have hF4 : Fr (· = w.heap.size) w3 w4 := by rw [hw4]; exact Fr.setCell (own := (· = w.heap.size)) w3 (p := ⟨w.heap.size, 2, none⟩) rfl _
  have hA4 : Rec 30 w4 w.heap.size #[.int .i64 E, .int .i64 L, .slice (some ⟨g3, 0, none⟩) gn c3', .slice FA fn fc] := by rw [hw4]; exact hA3.set 2 _
  have hD4 := hD3.fr hF4 (fun e => by have e' : w.heap.size + 1 = w.heap.size := e; omega)
  have hC4 := hC3.fr hF4 (fun e => by have e' : w.heap.size + 2 = w.heap.size := e; omega)
  have ho4 := own_fr ho3 hF4 (fun x hx e => by have := (ho3.lt x hx).1; have e' : x = w.heap.size := e; omega)
  have d4 : w4.cell? ⟨g3, j, none⟩ = some (.int .i64 gen) := by
    rw [ho4.cellAt j (by omega), List.getElem?_map, List.getElem?_eq_getElem HJ.out]
    rw [← HQ4.out]
    simp [List.getD, List.getElem?_eq_getElem HJ.out]
  have z4 := ho4.frozenAt j
  have a4 : w4.cell? ⟨w.heap.size, 2, none⟩ = some (.slice (some ⟨g3, 0, none⟩) gn c3') := hA4.at_ 2
  have t4 : w4.cell? ⟨w.heap.size + 1, 0, none⟩ = some (.int .i64 j) := hD4.at_ 0
  obtain ⟨w5, hw5⟩ : ∃ w5, w5 = w4.setCell ⟨g3, j, none⟩ (.int .i64 (gen + 1)) := ⟨_, rfl⟩
  have hst := ho4.stored j (.int .i64 (gen + 1))
  rw [← hw5] at hst
  obtain ⟨ho5, hgr5⟩ := hst
  rw [← List.map_set] at ho5
  have hF5 : Fr (· = g3) w4 w5 := Fr.grown hgr5 (fun x hx => by injection hx with hx; exact hx.symm)
  have hA5 := hA4.fr hF5 (fun e => by have e' : w.heap.size = g3 := e; omega)
  have hD5 := hD4.fr hF5 (fun e => by have e' : w.heap.size + 1 = g3 := e; omega)
  have hC5 := hC4.fr hF5 (fun e => by have e' : w.heap.size + 2 = g3 := e; omega)
  have b4 : Below w.heap.size w w4 := (HB2.out.trans (b3.mono HB2.out.size)).trans (hF4.toBelow (fun x hx => by rw [show x = w.heap.size from hx]; exact Nat.le_refl _) (by have := HB2.out.size; have := b3.size; omega))
  have b5 : Below w.heap.size w w5 := b4.trans (hF5.toBelow (fun x hx => by rw [show x = g3 from hx]; omega) b4.size)
  have a52 : w5.cell? ⟨w.heap.size, 2, none⟩ = some (.slice (some ⟨g3, 0, none⟩) gn c3') := hA5.at_ 2
  have a51 : w5.cell? ⟨w.heap.size, 1, none⟩ = some (.int .i64 L) := hA5.at_ 1
  have t5 : w5.cell? ⟨w.heap.size + 1, 0, none⟩ = some (.int .i64 j) := hD5.at_ 0
  have d5 : w5.cell? ⟨g3, j, none⟩ = some (.int .i64 (gen + 1)) := by
    rw [ho5.cellAt j (by omega), List.getElem?_map, List.getElem?_set_self HJ.out]
    rfl
  have HW4 := Lib.hid hw4
  have HW5 := Lib.hid hw5
  have HA5 := Lib.hid hA5
  have HD5 := Lib.hid hD5
  have HC5 := Lib.hid hC5
  have HO5 := Lib.hid ho5
  have B5 := Lib.hid b5
  have HGB := Lib.hid hgb
  clear hw4 hw5 hA3 hD3 hC3 hA4 hD4 hC4 hF4 hF5 ho3 ho4 ho5 hgr5 hg3 b3 b4 b5 hr3 hcell3 hfz3 hA5 hD5 hC5 hoa hra a2 a2a
  go_wp2_with (first
    | (rw [← HW4.out])
    | (rw [← HW5.out]))
  go_quiet (fail)
  obtain ⟨w6, hw6⟩ : ∃ w6, w6 = w5.drewN nq := ⟨_, rfl⟩
  have b6 : Below w5.heap.size w5 w6 := by rw [hw6]; exact below_drewN _ _
  rw [← hw6]
  clear hw6
  have HA6 := Lib.hid (HA5.out.under b6)
  have HD6 := Lib.hid (HD5.out.under b6)
  have HC6 := Lib.hid (HC5.out.under b6)
  have HO6 := Lib.hid (own_keep HO5.out b6)
  have B6 := Lib.hid (B5.out.trans (b6.mono B5.out.size))
  clear b6 HA5 HD5 HC5 HO5 B5 HA1 HB1 HC1 HA2 HC2 HD2 a4 t4 d4 z4 k2 f2
  go_wp2_with (first
    | (with_reducible refine wpList_ldQ rfl (.tmp 2) rfl rfl HA6.out ?_)
    | (with_reducible refine wpList_stQ (E' := E) (L' := L) (GA' := some ⟨g3, 0, none⟩) (gn' := gn) (gc' := c3') (FA' := FA) (fn' := fn) (fc' := fc) rfl (.tmp 4) (.tmp 42) rfl rfl rfl HC6.out ?_; intro w7 hR7 hF7))
  refine bodyPost_ret (res_ct rfl rfl (hR7.load rsT rfl)) rfl ?_
  have hB : Below w.heap.size w w7 := B6.out.trans (hF7.toBelow (fun x hx => by rw [show x = w.heap.size + 2 from hx]; omega) B6.out.size)
  have hR := H.out.below hB
  have ho7 := own_fr HO6.out hF7 (fun x hx e => by have := (HO6.out.lt x hx).1; have e' : x = w.heap.size + 2 := e; have := HB.out.size; omega)
  obtain ⟨A', c', e', hc', hm', hk'⟩ := IRk.of_own ho7
  cases e'
  have hg' : (s.give j gen).1.g = s.g.set j (gen + 1) := by rw [HGV.out]
  have hf' : (s.give j gen).1.fr = s.fr := by rw [HGV.out]; simp [HLT.out]
  exact ⟨⟨E, L, some ⟨g3, 0, none⟩, gn, c3', FA, fn, fc⟩, rfl, { E := by rw [HGV.out]; exact hR.E, L := by rw [HGV.out]; exact hR.L, gn := by rw [hg']; simpa using HGN.out, fn := by rw [hf']; exact HFN.out, g := by rw [hg']; exact hk'.mono (fun x hx => .inr ⟨by have := HB.out.size; omega, hx.2⟩), f := by rw [hf']; exact hR.f.mono (fun x hx => .inl hx), gc := hc', fc := hR.fc }, hB⟩

end
end Go.Proofs.Ytldabjgnnmoneaa
