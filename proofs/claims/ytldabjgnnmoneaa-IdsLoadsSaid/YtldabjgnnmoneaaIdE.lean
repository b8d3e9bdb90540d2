/- The contracts of Give and of the law's do. -/
import Derived.Test.YtldabjgnnmoneaaIdD
namespace Go.Proofs.Ytldabjgnnmoneaa
open Go.RowKit

section
variable {w : World} {own : Nat → Prop} {p : Nat} {gv av fv : Value} {s : NS}

theorem IGoes.preF {w1 w2 : World} (hf : Fr own w w1) (h : IGoes w1 own p s w2) : IGoes w own p s w2 := by
  obtain ⟨hf', own', ho, hd⟩ := h
  exact ⟨hf.trans hf', own', fun x hx => (ho x hx).imp id (fun h => Nat.le_trans hf.size h), hd⟩

theorem Give_nil (i gen : Int) (w : World) : Calls Try.prog 17 #[.pointer none, idv (i, gen)] w fun e w' => e = .returned (.int .i64 4) ∧ Below w.heap.size w w' := by
  show Calls _ _ #[.pointer none, .agg #[.int .i64 i, .int .i64 gen]] w _
  go_enter Try.func17, Try.ntmps17
  go_wp2
  go_ret
  exact ⟨rfl, (Below.refl _ _).alloc (Nat.le_refl _) _⟩

theorem Give_no (dom : ∀ x, own x → x < w.heap.size) (h : IAt w own p gv av fv s) (i gen : Int) (ha : s.alive i gen = false) :
    Calls Try.prog 17 #[.pointer (some ⟨p, 0, none⟩), idv (i, gen)] w fun e w' => e = .returned (.int .i64 5) ∧ IGoes w own p s w' := by
  show Calls _ _ #[.pointer (some ⟨p, 0, none⟩), .agg #[.int .i64 i, .int .i64 gen]] w _
  obtain ⟨w1, hw1⟩ : ∃ w1, w1 = w.alloc (.cells #[.int .i64 i, .int .i64 gen] 24) := ⟨_, rfl⟩
  have hb : Below w.heap.size w w1 := by rw [hw1]; exact (Below.refl _ _).alloc (Nat.le_refl _) _
  have hR1 : Rec 24 w1 w.heap.size #[.int .i64 i, .int .i64 gen] := by rw [hw1]; exact Rec.new _ _ _
  have CA := Alive_any (h.below hb) i gen
  rw [ha] at CA
  have CB := Lib.hid CA
  have HR := Lib.hid hR1
  have HG := Lib.hid (IGoes.still dom h hb)
  clear h ha hb hR1 CA
  go_enter Try.func17, Try.ntmps17
  go_wp2_with (first
    | (rw [← hw1]; clear hw1)
    | (with_reducible refine wpList_ldP (x0 := i) (y0 := gen) rfl (.tmp 3) rfl rfl HR.out ?_)
    | (go_at_call 12; refine CB.out.mono ?_; rintro e w2 ⟨rfl, hB2⟩))
  go_ret
  exact ⟨rfl, HG.out.below hB2⟩

set_option maxHeartbeats 1000000 in
theorem Give_yes (dom : ∀ x, own x → x < w.heap.size) (h : IAt w own p gv av fv s) (i gen : Int) (ha : s.alive i gen = true) :
    Calls Try.prog 17 #[.pointer (some ⟨p, 0, none⟩), idv (i, gen)] w fun e w' => e = .returned (.int .i64 0) ∧ IGoes w own p (s.give i gen).1 w' := by
  show Calls _ _ #[.pointer (some ⟨p, 0, none⟩), .agg #[.int .i64 i, .int .i64 gen]] w _
  have hgv := NS.give_yes ha
  have hok := NS.give_ok h.ok i gen
  have hll := NS.liveL_give ha
  obtain ⟨⟨q0, q1, q2, q3⟩, q4⟩ := NS.alive_iff.1 ha
  obtain ⟨j, rfl⟩ : ∃ j : Nat, i = (j : Int) := ⟨i.toNat, by omega⟩
  rw [Int.toNat_natCast] at hgv hll q3 q4
  have hj : j < s.g.length := by omega
  have hgz := h.ok.gD j
  rw [q4] at hgz q3
  have hL2 := h.ok.L2
  have hz0 : (0 : Int) ≤ gen := hgz.1
  have hz1 : gen < 1073741824 := by omega
  obtain ⟨w1, hw1⟩ : ∃ w1, w1 = w.alloc (.cells #[.int .i64 j, .int .i64 gen] 24) := ⟨_, rfl⟩
  have hb : Below w.heap.size w w1 := by rw [hw1]; exact (Below.refl _ _).alloc (Nat.le_refl _) _
  have hR1 : Rec 24 w1 w.heap.size #[.int .i64 j, .int .i64 gen] := by rw [hw1]; exact Rec.new _ _ _
  have CA := Alive_any (h.below hb) j gen
  rw [ha] at CA
  have CB := Lib.hid CA
  have HR := Lib.hid hR1
  have HB := Lib.hid hb
  have H := Lib.hid h
  have HL := Lib.hid hll
  have HOK := Lib.hid hok
  have HGV := Lib.hid hgv
  have Q4 := Lib.hid q4
  clear h ha hb hR1 CA hll hok hgv q4
  go_enter Try.func17, Try.ntmps17
  go_wp2_with (first
    | (rw [← hw1]; clear hw1)
    | (with_reducible refine wpList_ldP (x0 := j) (y0 := gen) rfl (.tmp 3) rfl rfl HR.out ?_)
    | (go_at_call 12; refine CB.out.mono ?_; rintro e w2 ⟨rfl, hB2⟩; have hR2 := HR.out.under hB2; have HB2 := Lib.hid (HB.out.trans (hB2.mono HB.out.size)); clear hB2))
  have I2 := H.out.below HB2.out
  have t0 : w2.cell? ⟨w.heap.size, 0, none⟩ = some (.int .i64 j) := hR2.at_ 0
  obtain ⟨A, c, rfl, hc, _, hrg⟩ := own_open I2.gens
  obtain ⟨g2, rfl, hg2, hcell2, hfz2⟩ := hrg (by omega)
  have k2 := I2.c2
  have d2 := hcell2 j hj
  rw [List.getElem?_map, List.getElem?_eq_getElem hj] at d2
  simp only [Option.map_some] at d2
  have e2 : s.g[j] = gen := by rw [← Q4.out]; simp [List.getD, List.getElem?_eq_getElem hj]
  rw [e2] at d2
  have f2 := hfz2 j
  have t0d : w2.drew.cell? ⟨w.heap.size, 0, none⟩ = some (.int .i64 j) := t0
  have k2d : w2.drew.cell? ⟨p, 2, none⟩ = some (.slice (some ⟨g2, 0, none⟩) s.g.length c) := k2
  have d2d : w2.drew.cell? ⟨g2, j, none⟩ = some (.int .i64 gen) := d2
  have f2d : w2.drew.frozen? ⟨g2, j, none⟩ = false := f2
  obtain ⟨w3, hw3⟩ : ∃ w3, w3 = (w2.setCell ⟨g2, j, none⟩ (.int .i64 (gen + 1))).drew := ⟨_, rfl⟩
  have x3 : w2.drew.setCell ⟨g2, j, none⟩ (.int .i64 (gen + 1)) = w3 := by rw [hw3]; rfl
  have I2d := I2.below (Below.refl _ _).drew
  have hst := I2d.gens.stored j (.int .i64 (gen + 1))
  rw [x3] at hst
  clear x3
  obtain ⟨o3, hgr3⟩ := hst
  rw [← List.map_set] at o3
  have hne : g2 ≠ p := fun e => own_not I2d.gens I2d.mem (by decide) (by rw [← e]; rfl)
  have hr3 := rec_kept I2d.mem hgr3 (fun e => hne (by injection e))
  have l3 := own_kept I2d.ali hgr3 (fun x hx e => by
    obtain ⟨C, hC⟩ := own_tagI I2d.gens (x := x) (by rw [← hx]; rfl)
    exact own_not I2d.ali hC (by decide) e)
  have f3 := own_kept I2d.free hgr3 (fun x hx e => H.out.apart x (by rw [← hx]; rfl) e)
  have hF3 : Fr own w w3 := (Fr.ofBelow own HB2.out).trans ((Fr.drew own w2).trans (Fr.grown hgr3 (fun x hx => H.out.owng x (by rw [← hx]; rfl))))
  have hR3 : Rec 24 w3 w.heap.size #[.int .i64 j, .int .i64 gen] := (hR2.under (Below.refl _ _).drew).fr (Fr.grown hgr3 (own := own) (fun x hx => H.out.owng x (by rw [← hx]; rfl))) (fun hx => by have := dom _ hx; omega)
  have dom3 : ∀ x, own x → x < w3.heap.size := fun x hx => Nat.lt_of_lt_of_le (dom x hx) hF3.size
  have k23 : w3.cell? ⟨p, 2, none⟩ = some (.slice (some ⟨g2, 0, none⟩) s.g.length c) := hr3.at_ 2
  have k13 : w3.cell? ⟨p, 1, none⟩ = some (.int .i64 s.L) := hr3.at_ 1
  have t03 : w3.cell? ⟨w.heap.size, 0, none⟩ = some (.int .i64 j) := hR3.at_ 0
  have d23 : w3.cell? ⟨g2, j, none⟩ = some (.int .i64 (gen + 1)) := by
    rw [o3.cellAt j (by omega), List.getElem?_map, List.getElem?_set_self hj]
    rfl
  have HW3 := Lib.hid hw3
  have HO3 := Lib.hid o3
  have HR3 := Lib.hid hr3
  have HP3 := Lib.hid hR3
  have HL3 := Lib.hid l3
  have HFR3 := Lib.hid f3
  have HF3 := Lib.hid hF3
  have HA := Lib.hid H.out.apart
  clear hw3 o3 hr3 hR3 l3 f3 hF3 hgr3 I2 I2d hrg hcell2 hfz2 HB2 hR2 HR e2
  go_region
  all_goals
    rw [← HW3.out]
    go_wp2_with fail
    go_quiet (fail)
    obtain ⟨w4, hw4⟩ : ∃ w4, w4 = w3.drewN nq := ⟨_, rfl⟩
    have b4 : Below w3.heap.size w3 w4 := by rw [hw4]; exact below_drewN _ _
    rw [← hw4]
    clear hw4
    have hr4 := HR3.out.under b4
    have o4 := own_keep HO3.out b4
    have l4 := own_keep HL3.out b4
    have f4 := own_keep HFR3.out b4
    have hF4 : Fr own w w4 := HF3.out.trans (Fr.ofBelow own b4)
    have dom4 : ∀ x, own x → x < w4.heap.size := fun x hx => Nat.lt_of_lt_of_le (dom x hx) hF4.size
    have t04 : w4.cell? ⟨w.heap.size, 0, none⟩ = some (.int .i64 j) := (HP3.out.under b4).at_ 0
    have hE' : (s.give j gen).1.E = s.E := by rw [HGV.out]
    have hL' : (s.give j gen).1.L = s.L := by rw [HGV.out]
    have hgl' : (s.give j gen).1.g.length = s.g.length := by rw [HGV.out]; simp
    have hg' : (s.give j gen).1.g = s.g.set j (gen + 1) := by rw [HGV.out]
    by_cases hlt : gen + 1 < s.L
    · have hfr' : (s.give j gen).1.fr = s.fr ++ [(j : Int)] := by rw [HGV.out]; simp [hlt]
      have CR := Lib.hid (release_any dom4 j (s.give j gen).1 hj hE' hL' hgl' HL.out hfr' HOK.out hr4 (by rw [hgl', hg']; exact o4) l4 f4 HA.out H.out.ownp H.out.owng H.out.owna H.out.ownf H.out.ok.few)
      clear hr4 o4 l4 f4 hE' hL' hgl' hg' hfr'
      go_wp2_with (go_at_call 32; refine CR.out.mono ?_; rintro e w5 ⟨rfl, hG5⟩)
      go_ret
      exact ⟨rfl, IGoes.preF hF4 hG5⟩
    · have hfr' : (s.give j gen).1.fr = s.fr := by rw [HGV.out]; simp [hlt]
      obtain ⟨A3, c3', rfl, _, _, hr3⟩ := own_open l4
      obtain ⟨g3, rfl, hg3, hcell3, hfz3⟩ := hr3 (by omega)
      have k34 : w4.cell? ⟨p, 3, none⟩ = some (.slice (some ⟨g3, 0, none⟩) s.g.length c3') := hr4.at_ 3
      have d34 := hcell3 j hj
      rw [List.getElem?_map, List.getElem?_eq_getElem (by rw [s.liveL_len]; exact hj)] at d34
      simp only [Option.map_some] at d34
      have z34 := hfz3 j
      obtain ⟨w5, hw5⟩ : ∃ w5, w5 = (w4.setCell ⟨g3, j, none⟩ (.bool false)).drew := ⟨_, rfl⟩
      have x5 : w4.drew.setCell ⟨g3, j, none⟩ (.bool false) = w5 := by rw [hw5]; rfl
      have hst := l4.drew.stored j (.bool false)
      rw [x5] at hst
      clear x5
      obtain ⟨l5, hgr5⟩ := hst
      have hne5 : g3 ≠ p := fun e => own_not l4 hr4 (by decide) (by rw [← e]; rfl)
      have hr5 := rec_kept (hr4.under (Below.refl _ _).drew) hgr5 (fun e => hne5 (by injection e))
      have o5 := own_kept o4.drew hgr5 (fun x hx e => by
        obtain ⟨C, hC⟩ := own_tagI l4 (x := x) (by rw [← hx]; rfl)
        exact own_not o4 hC (by decide) e)
      have f5 := own_kept f4.drew hgr5 (fun x hx e => by
        obtain ⟨C, hC⟩ := own_tagI l4 (x := x) (by rw [← hx]; rfl)
        exact own_not f4 hC (by decide) e)
      have hF5 : Fr own w w5 := hF4.trans ((Fr.drew own w4).trans (Fr.grown hgr5 (fun x hx => H.out.owna x (by rw [← hx]; rfl))))
      have I5 : IAt w5 own p (.slice (some ⟨g2, 0, none⟩) s.g.length c) (.slice (some ⟨g3, 0, none⟩) s.g.length c3') fv (s.give j gen).1 := {
        blk := by rw [hE', hL']; exact hr5
        gens := by rw [hgl', hg']; exact o5
        ali := by rw [hgl', HL.out, List.map_set]; exact l5
        free := by rw [hfr']; exact f5
        apart := HA.out
        ownp := H.out.ownp
        owng := H.out.owng
        owna := H.out.owna
        ownf := H.out.ownf
        ok := HOK.out }
      have HW5 := Lib.hid hw5
      have HG5 := Lib.hid (IGoes.of dom hF5 I5)
      clear hw5 hr5 o5 f5 l5 hgr5 hF5 I5 hr4 o4 l4 f4 hE' hL' hgl' hg' hfr' hr3 hcell3 hfz3 hne5
      go_wp2_with fail
      go_region
      all_goals
        rw [← HW5.out]
        go_wp2
        go_ret
        exact ⟨rfl, HG5.out⟩
end
end Go.Proofs.Ytldabjgnnmoneaa
