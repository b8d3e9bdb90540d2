/- IdD, IdE, IdF, MapZ, MapF, BitsM, GrM -/
import Derived.Test.YtddiadpbkjdomaaGreatDoorQn2
import Derived.WalkSmall
import Derived.DeepKeys4
import Derived.Maps.OwnSet
import Derived.Lib.TrailingZeros
namespace Go.Proofs.YtddiadpbkjdomaaGreatDoor
set_option maxRecDepth 20000
open Go.RowKit

section
variable {w w1 w2 w3 : World} {own : Nat → Prop} {p : Nat} {gv av fv : Value} {s : NS}
theorem IGoes.of (dom : ∀ x, own x → x < w.heap.size) (hf : Fr own w w1) (h : IAt w1 own p gv av fv s) : IGoes w own p s w1 :=
  ⟨hf, own, fun _ hx => .inl hx, fun x hx => Nat.lt_of_lt_of_le (dom x hx) hf.size, gv, av, fv, h⟩
theorem IGoes.still (dom : ∀ x, own x → x < w.heap.size) (h : IAt w own p gv av fv s) (hb : Below w.heap.size w w1) : IGoes w own p s w1 := IGoes.of dom (Fr.ofBelow own hb) (h.below hb)
theorem IGoes.pre (hb : Below w.heap.size w w1) (h : IGoes w1 own p s w2) : IGoes w own p s w2 := by
  obtain ⟨hf, own', ho, hd⟩ := h
  exact ⟨(Fr.ofBelow own hb).trans hf, own', fun x hx => (ho x hx).imp id (fun h => Nat.le_trans hb.size h), hd⟩
theorem IGoes.below (h : IGoes w own p s w1) (hb : Below w1.heap.size w1 w2) : IGoes w own p s w2 := by
  obtain ⟨hf, own', ho, hd, gv, av, fv, I⟩ := h
  exact ⟨hf.trans (Fr.ofBelow own hb), own', ho, fun x hx => Nat.lt_of_lt_of_le (hd x hx) hb.size, gv, av, fv, I.below hb⟩
/-- The cell of a result, laid ahead, is stored into. -/
theorem IGoes.res (dom : ∀ x, own x → x < w.heap.size) (hb : Below w.heap.size w w1) {g : Nat} (hg0 : w.heap.size ≤ g) (hg : g < w1.heap.size) (h : IGoes w1 own p s w2) (hF : Fr (· = g) w2 w3) : IGoes w own p s w3 := by
  obtain ⟨hf, own', ho, hd, gv, av, fv, I⟩ := h
  refine ⟨((Fr.ofBelow own hb).trans hf).trans' hF (fun x hx => .inr (by rw [show x = g from hx]; exact hg0)), own', fun x hx => (ho x hx).imp id (fun h => Nat.le_trans hb.size h), fun x hx => Nat.lt_of_lt_of_le (hd x hx) hF.size, gv, av, fv, I.kept hF (fun x hx e => ?_)⟩
  have e' : x = g := e
  rcases ho x hx with h | h
  · have := dom x h; omega
  · omega
theorem IGoes.rec_ {T g : Nat} {cs : Array Value} (dom : ∀ x, own x → x < w.heap.size) (hR : Rec T w1 g cs) (hg0 : w.heap.size ≤ g) (h : IGoes w1 own p s w2) : Rec T w2 g cs := hR.fr h.1 (fun hx => by have := dom g hx; omega)

theorem below_drewNi (w : World) (n : Nat) : Below w.heap.size w (w.drewN n) := ⟨rfl, rfl, rfl, Nat.le_refl _, fun _ _ => rfl⟩

theorem Take_nil (w : World) : Calls Tryz.prog 76 #[.pointer none] w fun e w' => e = .returned (.tuple #[idv (0, 0), .int .i64 4]) ∧ Below w.heap.size w w' := by
  go_enter Tryz.func76, Tryz.ntmps76
  go_wp2
  refine bodyPost_ret (res_ct rfl rfl ((Rec.new w 39 #[.int .i64 0, .int .i64 0]).load idT rfl)) rfl ?_
  exact ⟨rfl, (Below.refl _ _).alloc (Nat.le_refl _) _⟩

theorem Take_full (dom : ∀ x, own x → x < w.heap.size) (h : IAt w own p gv av fv s) (hf : s.fr = []) (he : s.g.length = s.E) :
    Calls Tryz.prog 76 #[.pointer (some ⟨p, 0, none⟩)] w fun e w' => e = .returned (.tuple #[idv (0, 0), .int .i64 9]) ∧ IGoes w own p s w' := by
  obtain ⟨A, c, rfl⟩ := own_sl h.gens
  obtain ⟨A4, c4', rfl⟩ := own_sl h.free
  obtain ⟨w1, hw1⟩ : ∃ w1, w1 = w.alloc (.cells #[.int .i64 0, .int .i64 0] 39) := ⟨_, rfl⟩
  have hb : Below w.heap.size w w1 := by rw [hw1]; exact (Below.refl _ _).alloc (Nat.le_refl _) _
  have hR1 : Rec 39 w1 w.heap.size #[.int .i64 0, .int .i64 0] := by rw [hw1]; exact Rec.new _ _ _
  have hfl : s.fr.length = 0 := by rw [hf]; rfl
  have h1 := h.below hb
  have c0 := h1.c0
  have c2 := h1.c2
  have c4 := h1.c4
  have hE := h.ok.E2
  rw [hfl] at c4
  rw [he] at c2
  have HRN : ∀ n, Rec 39 (w1.drewN n) w.heap.size #[.int .i64 0, .int .i64 0] := fun n => hR1.under (below_drewNi _ _)
  have HG : ∀ n, IGoes w own p s (w1.drewN n) := fun n => (IGoes.still dom h hb).below (below_drewNi _ _)
  have HRN := Lib.hid HRN
  have HG := Lib.hid HG
  have HB := Lib.hid hb
  have HR := Lib.hid hR1
  have HI := Lib.hid h1
  clear h h1 hb hf hfl he hR1
  go_enter Tryz.func76, Tryz.ntmps76
  go_wp2_with (first | (rw [← hw1]; clear hw1))
  go_quiet (fail)
  go_wp2_with (with_reducible refine wpList_stP (x1 := 0) (y1 := 0) rfl (.tmp 2) (.tmp 52) rfl rfl rfl (HRN.out _) ?_; intro w5 hR5 hF5)
  refine bodyPost_ret (res_ct rfl rfl (hR5.load idT rfl)) rfl ?_
  refine ⟨rfl, IGoes.res dom HB.out (Nat.le_refl _) HR.out.lt (IGoes.still (fun x hx => Nat.lt_of_lt_of_le (dom x hx) HB.out.size) HI.out (below_drewNi _ _)) hF5⟩

theorem Take_next (dom : ∀ x, own x → x < w.heap.size) (h : IAt w own p gv av fv s) (hf : s.fr = []) (he : s.g.length ≠ s.E) :
    Calls Tryz.prog 76 #[.pointer (some ⟨p, 0, none⟩)] w fun e w' => e = .returned (.tuple #[idv ((s.g.length : Int), 0), .int .i64 0]) ∧ IGoes w own p (s.push 0) w' := by
  obtain ⟨A, c, rfl⟩ := own_sl h.gens
  obtain ⟨A4, c4', rfl⟩ := own_sl h.free
  obtain ⟨w1, hw1⟩ : ∃ w1, w1 = w.alloc (.cells #[.int .i64 0, .int .i64 0] 39) := ⟨_, rfl⟩
  have hb : Below w.heap.size w w1 := by rw [hw1]; exact (Below.refl _ _).alloc (Nat.le_refl _) _
  have hR1 : Rec 39 w1 w.heap.size #[.int .i64 0, .int .i64 0] := by rw [hw1]; exact Rec.new _ _ _
  have hfl : s.fr.length = 0 := by rw [hf]; rfl
  have h1 := h.below hb
  have c0 := h1.c0
  have c2 := h1.c2
  have c4 := h1.c4
  have hE := h.ok.E2
  have hl := h.ok.len
  have hne : ¬ ((s.g.length : Int) = s.E) := by omega
  rw [hfl] at c4
  have CU : ∀ n, Calls Tryz.prog 123 #[.pointer (some ⟨p, 0, none⟩), .int .i64 0] (w1.drewN n) fun e w' => e = .returned (.tuple #[]) ∧ IGoes (w1.drewN n) own p (s.push 0) w' := fun n =>
    use_any (w := w1.drewN n) (fun x hx => Nat.lt_of_lt_of_le (dom x hx) hb.size) (h1.below (below_drewNi _ _)) 0 (by omega) ⟨Int.le_refl _, by have := h.ok.L1; omega⟩
  have CU := Lib.hid CU
  have hgl : (s.push 0).g.length = s.g.length + 1 := by simp [NS.push]
  have hg0 : (s.push 0).g.getD s.g.length 0 = 0 := by simp [NS.push, List.getD_eq_getElem?_getD]
  obtain ⟨n, hn⟩ : ∃ n, n = s.g.length := ⟨_, rfl⟩
  rw [← hn] at hne hgl hg0 c2 hl ⊢
  have HB := Lib.hid hb
  have HR := Lib.hid hR1
  have HN := Lib.hid hn
  have HG0 := Lib.hid hg0
  have HGL := Lib.hid hgl
  clear h h1 hb hf hfl he hn hR1 hg0 hgl
  go_enter Tryz.func76, Tryz.ntmps76
  go_wp2_with (first | (rw [← hw1]; clear hw1))
  go_quiet (fail)
  go_wp2_with fail
  refine (CU.out _).mono ?_
  rintro e w2 ⟨rfl, hG⟩
  replace hG := IGoes.pre (below_drewNi _ _) hG
  have hR2 := IGoes.rec_ (w := w) dom HR.out (Nat.le_refl _) hG
  have hG' := hG
  obtain ⟨_, own', _, _, gv', av', fv', I2⟩ := hG'
  obtain ⟨A2, c2', rfl⟩ := own_sl I2.gens
  have k2 := I2.c2
  rw [HGL.out] at k2
  have CI := id_any I2 n (by rw [HGL.out]; omega)
  rw [HG0.out] at CI
  have CI := Lib.hid CI
  have HG := Lib.hid hG
  have HR2 := Lib.hid hR2
  clear hG hR2 I2 c0 c2 c4
  go_wp2_with (first
    | (go_at_call 132; refine CI.out.mono ?_; rintro e w3 ⟨rfl, hB3⟩; have HR3 := Lib.hid (HR2.out.under hB3); have HG3 := Lib.hid (HG.out.below hB3); clear hB3)
    | (with_reducible refine wpList_stP (x1 := n) (y1 := 0) rfl (.tmp 2) (.tmp 62) rfl rfl rfl HR3.out ?_; intro w5 hR5 hF5))
  refine bodyPost_ret (res_ct rfl rfl (hR5.load idT rfl)) rfl ?_
  exact ⟨rfl, IGoes.res dom HB.out (Nat.le_refl _) HR.out.lt HG3.out hF5⟩

theorem Take_free (dom : ∀ x, own x → x < w.heap.size) (h : IAt w own p gv av fv s) (hf : s.fr ≠ []) :
    Calls Tryz.prog 76 #[.pointer (some ⟨p, 0, none⟩)] w fun e w' => e = .returned (.tuple #[idv (s.fr.getLastD 0, s.g.getD (s.fr.getLastD 0).toNat 0), .int .i64 0]) ∧ IGoes w own p s.take.1 w' := by
  have htk := NS.take_free hf
  have hll := NS.liveL_free h.ok hf
  have hok := NS.take_ok h.ok
  obtain ⟨q0, q1, q2, q3⟩ := h.ok.fz _ (NS.last_mem hf)
  have hsp := NS.fr_last hf
  obtain ⟨m, hm⟩ : ∃ m, m = s.fr.dropLast.length := ⟨_, rfl⟩
  have hlen : s.fr.length = m + 1 := by rw [hsp, hm]; simp
  obtain ⟨j, hj⟩ : ∃ j : Nat, s.fr.getLastD 0 = (j : Int) := ⟨(s.fr.getLastD 0).toNat, by omega⟩
  rw [hj] at htk hll q1 hsp ⊢
  rw [Int.toNat_natCast] at hll htk ⊢
  have hjl : j < s.g.length := by omega
  have hm1 : m ≤ 1024 := by have := h.ok.few; omega
  obtain ⟨A, c, rfl⟩ := own_sl h.gens
  obtain ⟨A3, c3', rfl, _, _, hr3⟩ := own_open h.ali
  obtain ⟨g3, rfl, hg3, hcell3, hfz3⟩ := hr3 (by omega)
  obtain ⟨A4, c4', rfl, hc4, _, hr4⟩ := own_open h.free
  obtain ⟨g4, rfl, hg4, hcell4, hfz4⟩ := hr4 (by omega)
  obtain ⟨w1, hw1⟩ : ∃ w1, w1 = w.alloc (.cells #[.int .i64 0, .int .i64 0] 39) := ⟨_, rfl⟩
  have hb : Below w.heap.size w w1 := by rw [hw1]; exact (Below.refl _ _).alloc (Nat.le_refl _) _
  have hR1 : Rec 39 w1 w.heap.size #[.int .i64 0, .int .i64 0] := by rw [hw1]; exact Rec.new _ _ _
  have h1 := h.below hb
  have c4 := h1.c4
  have z4 := h1.fz 4
  rw [hlen] at c4 hc4 hcell4
  have d4 := (hb.cell (p := ⟨g4, m, none⟩) hg4).trans (hcell4 m (by omega))
  have e4 : (s.fr.map (Value.int .i64))[m]? = some (.int .i64 j) := by
    rw [hsp, List.map_append, List.getElem?_append_right (by simp [hm])]
    simp [hm]
  rw [e4] at d4
  -- the free row shorter by one
  obtain ⟨w2, hw2⟩ : ∃ w2, w2 = w1.setCell ⟨p, 4, none⟩ (.slice (some ⟨g4, 0, none⟩) m c4') := ⟨_, rfl⟩
  have hp2 : Fr own w w2 := (Fr.ofBelow own hb).trans (by rw [hw2]; exact Fr.setCell w1 (p := ⟨p, 4, none⟩) h.ownp _)
  have hr2 : Rec 169 w2 p #[.int .i64 s.E, .int .i64 s.L, .slice A s.g.length c, .slice (some ⟨g3, 0, none⟩) s.g.length c3', .slice (some ⟨g4, 0, none⟩) m c4'] := by rw [hw2]; exact h1.mem.set 4 _
  have o2 := own_set (i := 4) (u := .slice (some ⟨g4, 0, none⟩) m c4') h1.gens (own_not h1.gens h1.mem (by decide))
  have l2 := own_set (i := 4) (u := .slice (some ⟨g4, 0, none⟩) m c4') h1.ali (own_not h1.ali h1.mem (by decide))
  have f2 := own_set (i := 4) (u := .slice (some ⟨g4, 0, none⟩) m c4') h1.free (own_not h1.free h1.mem (by decide))
  rw [← hw2] at o2 l2 f2
  have f2' : w2.ownsRow 0 3 1 (.slice (some ⟨g4, 0, none⟩) m c4') m (s.fr.dropLast.map (Value.int .i64)) := by
    rw [hlen] at f2
    rw [hsp, List.map_append] at f2
    exact ownsRow_pop (by simp [hm]) f2
  have k3 : w2.cell? ⟨p, 3, none⟩ = some (.slice (some ⟨g3, 0, none⟩) s.g.length c3') := hr2.at_ 3
  have d3 := l2.cellAt j (by omega)
  rw [List.getElem?_map, List.getElem?_eq_getElem (by rw [s.liveL_len]; exact hjl)] at d3
  simp only [Option.map_some] at d3
  have z3 := l2.frozenAt j
  -- and the index alive
  obtain ⟨w3, hw3⟩ : ∃ w3, w3 = w2.setCell ⟨g3, j, none⟩ (.bool true) := ⟨_, rfl⟩
  have hst := l2.stored j (.bool true)
  rw [← hw3] at hst
  obtain ⟨l3, hgr3⟩ := hst
  have hset : (s.liveL.map Value.bool).set j (.bool true) = s.take.1.liveL.map Value.bool := by rw [hll, List.map_set]
  rw [hset] at l3
  have hp3 : g3 ≠ p := fun e => own_not l2 hr2 (by decide) (by rw [← e]; rfl)
  have hr3' := rec_kept hr2 hgr3 (fun e => hp3 (by injection e))
  have o3 := own_kept o2 hgr3 (fun x hx e => by
    obtain ⟨C, hC⟩ := own_tagI l2 (x := x) (by rw [← hx]; rfl)
    exact own_not o2 hC (by decide) e)
  have f3 := own_kept f2' hgr3 (fun x hx e => by
    obtain ⟨C, hC⟩ := own_tagI l2 (x := x) (by rw [← hx]; rfl)
    exact own_not f2' hC (by decide) e)
  have hF3 : Fr own w1 w3 := (show Fr own w1 w2 by rw [hw2]; exact Fr.setCell w1 (p := ⟨p, 4, none⟩) h.ownp _).trans (Fr.grown hgr3 (fun x hx => h.owna x (by rw [← hx]; rfl)))
  have I3 : IAt w3 own p (.slice A s.g.length c) (.slice (some ⟨g3, 0, none⟩) s.g.length c3') (.slice (some ⟨g4, 0, none⟩) m c4') s.take.1 := {
    blk := by rw [htk]; exact hr3'
    gens := by rw [htk]; exact o3
    ali := by rw [show s.take.1.g.length = s.g.length by rw [htk]]; exact l3
    free := by rw [show s.take.1.fr = s.fr.dropLast by rw [htk], ← hm]; exact f3
    apart := fun x hx e => h.apart x hx (by rw [← e]; rfl)
    ownp := h.ownp
    owng := h.owng
    owna := h.owna
    ownf := fun x hx => h.ownf x (by rw [← hx]; rfl)
    ok := hok }
  have dom1 : ∀ x, own x → x < w1.heap.size := fun x hx => Nat.lt_of_lt_of_le (dom x hx) hb.size
  have hG3 : IGoes w1 own p s.take.1 w3 := IGoes.of dom1 hF3 I3
  have CI := id_any I3 j (by rw [show s.take.1.g.length = s.g.length by rw [htk]]; exact hjl)
  rw [show s.take.1.g = s.g by rw [htk]] at CI
  obtain ⟨z, hz⟩ : ∃ z, z = s.g.getD j 0 := ⟨_, rfl⟩
  rw [← hz] at CI ⊢
  clear hz
  have hR3 := IGoes.rec_ (w := w) dom hR1 (Nat.le_refl _) hG3
  have CJ := Lib.hid CI
  clear CI
  have HG3 := Lib.hid hG3
  have HR3 := Lib.hid hR3
  have HB := Lib.hid hb
  have HR := Lib.hid hR1
  have HW1 := Lib.hid hw1
  have HW2 := Lib.hid hw2
  have HW3 := Lib.hid hw3
  have hc4' : m + 1 ≤ c4' := hc4
  clear h h1 hb hR1 hw1 hw2 hw3 hp2 hr2 o2 l2 f2 f2' hset hgr3 hr3' o3 f3 hF3 I3 hG3 hR3 l3 hll hok htk hsp hm hlen hj e4 hcell3 hcell4 hfz3 hfz4 hr3 hr4 q0 q1 q2 q3 hp3 dom1 hf
  go_enter Tryz.func76, Tryz.ntmps76
  go_wp2_with (first
    | (rw [← HW1.out])
    | (rw [← HW2.out])
    | (rw [← HW3.out])
    | (go_at_call 132; refine CJ.out.mono ?_; rintro e w4 ⟨rfl, hB4⟩; have HR4 := Lib.hid (HR3.out.under hB4); have HG4 := Lib.hid (HG3.out.below hB4); clear hB4)
    | (with_reducible refine wpList_stP (x1 := j) (y1 := z) rfl (.tmp 2) (.tmp 41) rfl rfl rfl HR4.out ?_; intro w5 hR5 hF5))
  refine bodyPost_ret (res_ct rfl rfl (hR5.load idT rfl)) rfl ?_
  exact ⟨rfl, IGoes.res dom HB.out (Nat.le_refl _) HR.out.lt HG4.out hF5⟩

theorem Take_any (dom : ∀ x, own x → x < w.heap.size) (h : IAt w own p gv av fv s) :
    Calls Tryz.prog 76 #[.pointer (some ⟨p, 0, none⟩)] w fun e w' => e = .returned (.tuple #[idv s.take.2.1, .int .i64 s.take.2.2]) ∧ IGoes w own p s.take.1 w' := by
  by_cases hf : s.fr = []
  · by_cases he : s.g.length = s.E
    · rw [NS.take_full hf he]; exact Take_full dom h hf he
    · rw [NS.take_push hf he]; exact Take_next dom h hf he
  · have := Take_free dom h hf
    rw [NS.take_free hf] at this ⊢
    exact this
end
end Go.Proofs.YtddiadpbkjdomaaGreatDoor
namespace Go.Proofs.YtddiadpbkjdomaaGreatDoor
set_option maxRecDepth 20000
open Go.RowKit

section
variable {w : World} {own : Nat → Prop} {p : Nat} {gv av fv : Value} {s : NS}

theorem IGoes.preF {w1 w2 : World} (hf : Fr own w w1) (h : IGoes w1 own p s w2) : IGoes w own p s w2 := by
  obtain ⟨hf', own', ho, hd⟩ := h
  exact ⟨hf.trans hf', own', fun x hx => (ho x hx).imp id (fun h => Nat.le_trans hf.size h), hd⟩

theorem Give_nil (i gen : Int) (w : World) : Calls Tryz.prog 94 #[.pointer none, idv (i, gen)] w fun e w' => e = .returned (.int .i64 4) ∧ Below w.heap.size w w' := by
  show Calls _ _ #[.pointer none, .agg #[.int .i64 i, .int .i64 gen]] w _
  go_enter Tryz.func94, Tryz.ntmps94
  go_wp2
  go_ret
  exact ⟨rfl, (Below.refl _ _).alloc (Nat.le_refl _) _⟩

theorem Give_no (dom : ∀ x, own x → x < w.heap.size) (h : IAt w own p gv av fv s) (i gen : Int) (ha : s.alive i gen = false) :
    Calls Tryz.prog 94 #[.pointer (some ⟨p, 0, none⟩), idv (i, gen)] w fun e w' => e = .returned (.int .i64 5) ∧ IGoes w own p s w' := by
  show Calls _ _ #[.pointer (some ⟨p, 0, none⟩), .agg #[.int .i64 i, .int .i64 gen]] w _
  obtain ⟨w1, hw1⟩ : ∃ w1, w1 = w.alloc (.cells #[.int .i64 i, .int .i64 gen] 39) := ⟨_, rfl⟩
  have hb : Below w.heap.size w w1 := by rw [hw1]; exact (Below.refl _ _).alloc (Nat.le_refl _) _
  have hR1 : Rec 39 w1 w.heap.size #[.int .i64 i, .int .i64 gen] := by rw [hw1]; exact Rec.new _ _ _
  have CA := Alive_any (h.below hb) i gen
  rw [ha] at CA
  have CB := Lib.hid CA
  have HR := Lib.hid hR1
  have HG := Lib.hid (IGoes.still dom h hb)
  clear h ha hb hR1 CA
  go_enter Tryz.func94, Tryz.ntmps94
  go_wp2_with (first
    | (rw [← hw1]; clear hw1)
    | (with_reducible refine wpList_ldP (x0 := i) (y0 := gen) rfl (.tmp 3) rfl rfl HR.out ?_)
    | (go_at_call 75; refine CB.out.mono ?_; rintro e w2 ⟨rfl, hB2⟩))
  go_ret
  exact ⟨rfl, HG.out.below hB2⟩

set_option maxHeartbeats 1000000 in
theorem Give_yes (dom : ∀ x, own x → x < w.heap.size) (h : IAt w own p gv av fv s) (i gen : Int) (ha : s.alive i gen = true) :
    Calls Tryz.prog 94 #[.pointer (some ⟨p, 0, none⟩), idv (i, gen)] w fun e w' => e = .returned (.int .i64 0) ∧ IGoes w own p (s.give i gen).1 w' := by
  show Calls _ _ #[.pointer (some ⟨p, 0, none⟩), .agg #[.int .i64 i, .int .i64 gen]] w _
  have hgv := NS.give_yes ha
  have hok := NS.give_ok h.ok i gen
  have hll := NS.liveL_give ha
  obtain ⟨⟨q0, q1, q2, q3⟩, q4⟩ := NS.alive_iff.1 ha
  obtain ⟨j, rfl⟩ : ∃ j : Nat, i = (j : Int) := ⟨i.toNat, by omega⟩
  rw [Int.toNat_natCast] at hgv hll q3 q4
  have hj : j < s.g.length := by omega
  have hgz := h.ok.gD j
  rw [q4] at hgz q3
  have hL2 := h.ok.L2
  have hz0 : (0 : Int) ≤ gen := hgz.1
  have hz1 : gen < 1073741824 := by omega
  obtain ⟨w1, hw1⟩ : ∃ w1, w1 = w.alloc (.cells #[.int .i64 j, .int .i64 gen] 39) := ⟨_, rfl⟩
  have hb : Below w.heap.size w w1 := by rw [hw1]; exact (Below.refl _ _).alloc (Nat.le_refl _) _
  have hR1 : Rec 39 w1 w.heap.size #[.int .i64 j, .int .i64 gen] := by rw [hw1]; exact Rec.new _ _ _
  have CA := Alive_any (h.below hb) j gen
  rw [ha] at CA
  have CB := Lib.hid CA
  have HR := Lib.hid hR1
  have HB := Lib.hid hb
  have H := Lib.hid h
  have HL := Lib.hid hll
  have HOK := Lib.hid hok
  have HGV := Lib.hid hgv
  have Q4 := Lib.hid q4
  clear h ha hb hR1 CA hll hok hgv q4
  go_enter Tryz.func94, Tryz.ntmps94
  go_wp2_with (first
    | (rw [← hw1]; clear hw1)
    | (with_reducible refine wpList_ldP (x0 := j) (y0 := gen) rfl (.tmp 3) rfl rfl HR.out ?_)
    | (go_at_call 75; refine CB.out.mono ?_; rintro e w2 ⟨rfl, hB2⟩; have hR2 := HR.out.under hB2; have HB2 := Lib.hid (HB.out.trans (hB2.mono HB.out.size)); clear hB2))
  have I2 := H.out.below HB2.out
  have t0 : w2.cell? ⟨w.heap.size, 0, none⟩ = some (.int .i64 j) := hR2.at_ 0
  obtain ⟨A, c, rfl, hc, _, hrg⟩ := own_open I2.gens
  obtain ⟨g2, rfl, hg2, hcell2, hfz2⟩ := hrg (by omega)
  have k2 := I2.c2
  have d2 := hcell2 j hj
  rw [List.getElem?_map, List.getElem?_eq_getElem hj] at d2
  simp only [Option.map_some] at d2
  have e2 : s.g[j] = gen := by rw [← Q4.out]; simp [List.getD, List.getElem?_eq_getElem hj]
  rw [e2] at d2
  have f2 := hfz2 j
  have t0d : w2.drew.cell? ⟨w.heap.size, 0, none⟩ = some (.int .i64 j) := t0
  have k2d : w2.drew.cell? ⟨p, 2, none⟩ = some (.slice (some ⟨g2, 0, none⟩) s.g.length c) := k2
  have d2d : w2.drew.cell? ⟨g2, j, none⟩ = some (.int .i64 gen) := d2
  have f2d : w2.drew.frozen? ⟨g2, j, none⟩ = false := f2
  obtain ⟨w3, hw3⟩ : ∃ w3, w3 = (w2.setCell ⟨g2, j, none⟩ (.int .i64 (gen + 1))).drew := ⟨_, rfl⟩
  have x3 : w2.drew.setCell ⟨g2, j, none⟩ (.int .i64 (gen + 1)) = w3 := by rw [hw3]; rfl
  have I2d := I2.below (Below.refl _ _).drew
  have hst := I2d.gens.stored j (.int .i64 (gen + 1))
  rw [x3] at hst
  clear x3
  obtain ⟨o3, hgr3⟩ := hst
  rw [← List.map_set] at o3
  have hne : g2 ≠ p := fun e => own_not I2d.gens I2d.mem (by decide) (by rw [← e]; rfl)
  have hr3 := rec_kept I2d.mem hgr3 (fun e => hne (by injection e))
  have l3 := own_kept I2d.ali hgr3 (fun x hx e => by
    obtain ⟨C, hC⟩ := own_tagI I2d.gens (x := x) (by rw [← hx]; rfl)
    exact own_not I2d.ali hC (by decide) e)
  have f3 := own_kept I2d.free hgr3 (fun x hx e => H.out.apart x (by rw [← hx]; rfl) e)
  have hF3 : Fr own w w3 := (Fr.ofBelow own HB2.out).trans ((Fr.drew own w2).trans (Fr.grown hgr3 (fun x hx => H.out.owng x (by rw [← hx]; rfl))))
  have hR3 : Rec 39 w3 w.heap.size #[.int .i64 j, .int .i64 gen] := (hR2.under (Below.refl _ _).drew).fr (Fr.grown hgr3 (own := own) (fun x hx => H.out.owng x (by rw [← hx]; rfl))) (fun hx => by have := dom _ hx; omega)
  have dom3 : ∀ x, own x → x < w3.heap.size := fun x hx => Nat.lt_of_lt_of_le (dom x hx) hF3.size
  have k23 : w3.cell? ⟨p, 2, none⟩ = some (.slice (some ⟨g2, 0, none⟩) s.g.length c) := hr3.at_ 2
  have k13 : w3.cell? ⟨p, 1, none⟩ = some (.int .i64 s.L) := hr3.at_ 1
  have t03 : w3.cell? ⟨w.heap.size, 0, none⟩ = some (.int .i64 j) := hR3.at_ 0
  have d23 : w3.cell? ⟨g2, j, none⟩ = some (.int .i64 (gen + 1)) := by
    rw [o3.cellAt j (by omega), List.getElem?_map, List.getElem?_set_self hj]
    rfl
  have HW3 := Lib.hid hw3
  have HO3 := Lib.hid o3
  have HR3 := Lib.hid hr3
  have HP3 := Lib.hid hR3
  have HL3 := Lib.hid l3
  have HFR3 := Lib.hid f3
  have HF3 := Lib.hid hF3
  have HA := Lib.hid H.out.apart
  clear hw3 o3 hr3 hR3 l3 f3 hF3 hgr3 I2 I2d hrg hcell2 hfz2 HB2 hR2 HR e2
  go_region
  all_goals
    rw [← HW3.out]
    go_wp2_with fail
    go_quiet (fail)
    obtain ⟨w4, hw4⟩ : ∃ w4, w4 = w3.drewN nq := ⟨_, rfl⟩
    have b4 : Below w3.heap.size w3 w4 := by rw [hw4]; exact below_drewNi _ _
    rw [← hw4]
    clear hw4
    have hr4 := HR3.out.under b4
    have o4 := own_keep HO3.out b4
    have l4 := own_keep HL3.out b4
    have f4 := own_keep HFR3.out b4
    have hF4 : Fr own w w4 := HF3.out.trans (Fr.ofBelow own b4)
    have dom4 : ∀ x, own x → x < w4.heap.size := fun x hx => Nat.lt_of_lt_of_le (dom x hx) hF4.size
    have t04 : w4.cell? ⟨w.heap.size, 0, none⟩ = some (.int .i64 j) := (HP3.out.under b4).at_ 0
    have hE' : (s.give j gen).1.E = s.E := by rw [HGV.out]
    have hL' : (s.give j gen).1.L = s.L := by rw [HGV.out]
    have hgl' : (s.give j gen).1.g.length = s.g.length := by rw [HGV.out]; simp
    have hg' : (s.give j gen).1.g = s.g.set j (gen + 1) := by rw [HGV.out]
    by_cases hlt : gen + 1 < s.L
    · have hfr' : (s.give j gen).1.fr = s.fr ++ [(j : Int)] := by rw [HGV.out]; simp [hlt]
      have CR := Lib.hid (release_any dom4 j (s.give j gen).1 hj hE' hL' hgl' HL.out hfr' HOK.out hr4 (by rw [hgl', hg']; exact o4) l4 f4 HA.out H.out.ownp H.out.owng H.out.owna H.out.ownf H.out.ok.few)
      clear hr4 o4 l4 f4 hE' hL' hgl' hg' hfr'
      go_wp2_with (go_at_call 124; refine CR.out.mono ?_; rintro e w5 ⟨rfl, hG5⟩)
      go_ret
      exact ⟨rfl, IGoes.preF hF4 hG5⟩
    · have hfr' : (s.give j gen).1.fr = s.fr := by rw [HGV.out]; simp [hlt]
      obtain ⟨A3, c3', rfl, _, _, hr3⟩ := own_open l4
      obtain ⟨g3, rfl, hg3, hcell3, hfz3⟩ := hr3 (by omega)
      have k34 : w4.cell? ⟨p, 3, none⟩ = some (.slice (some ⟨g3, 0, none⟩) s.g.length c3') := hr4.at_ 3
      have d34 := hcell3 j hj
      rw [List.getElem?_map, List.getElem?_eq_getElem (by rw [s.liveL_len]; exact hj)] at d34
      simp only [Option.map_some] at d34
      have z34 := hfz3 j
      obtain ⟨w5, hw5⟩ : ∃ w5, w5 = (w4.setCell ⟨g3, j, none⟩ (.bool false)).drew := ⟨_, rfl⟩
      have x5 : w4.drew.setCell ⟨g3, j, none⟩ (.bool false) = w5 := by rw [hw5]; rfl
      have hst := l4.drew.stored j (.bool false)
      rw [x5] at hst
      clear x5
      obtain ⟨l5, hgr5⟩ := hst
      have hne5 : g3 ≠ p := fun e => own_not l4 hr4 (by decide) (by rw [← e]; rfl)
      have hr5 := rec_kept (hr4.under (Below.refl _ _).drew) hgr5 (fun e => hne5 (by injection e))
      have o5 := own_kept o4.drew hgr5 (fun x hx e => by
        obtain ⟨C, hC⟩ := own_tagI l4 (x := x) (by rw [← hx]; rfl)
        exact own_not o4 hC (by decide) e)
      have f5 := own_kept f4.drew hgr5 (fun x hx e => by
        obtain ⟨C, hC⟩ := own_tagI l4 (x := x) (by rw [← hx]; rfl)
        exact own_not f4 hC (by decide) e)
      have hF5 : Fr own w w5 := hF4.trans ((Fr.drew own w4).trans (Fr.grown hgr5 (fun x hx => H.out.owna x (by rw [← hx]; rfl))))
      have I5 : IAt w5 own p (.slice (some ⟨g2, 0, none⟩) s.g.length c) (.slice (some ⟨g3, 0, none⟩) s.g.length c3') fv (s.give j gen).1 := {
        blk := by rw [hE', hL']; exact hr5
        gens := by rw [hgl', hg']; exact o5
        ali := by rw [hgl', HL.out, List.map_set]; exact l5
        free := by rw [hfr']; exact f5
        apart := HA.out
        ownp := H.out.ownp
        owng := H.out.owng
        owna := H.out.owna
        ownf := H.out.ownf
        ok := HOK.out }
      have HW5 := Lib.hid hw5
      have HG5 := Lib.hid (IGoes.of dom hF5 I5)
      clear hw5 hr5 o5 f5 l5 hgr5 hF5 I5 hr4 o4 l4 f4 hE' hL' hgl' hg' hfr' hr3 hcell3 hfz3 hne5
      go_wp2_with fail
      go_region
      all_goals
        rw [← HW5.out]
        go_wp2
        go_ret
        exact ⟨rfl, HG5.out⟩
end
end Go.Proofs.YtddiadpbkjdomaaGreatDoor
namespace Go.Proofs.YtddiadpbkjdomaaGreatDoor
set_option maxRecDepth 20000
open Go.RowKit

/-- A step of a script. -/
structure Stg where
  give : Bool
  i : Int
  gen : Int
def Stg.val (x : Stg) : Value := .agg #[.bool x.give, .int .i64 x.i, .int .i64 x.gen]
def NS.go (s : NS) (x : Stg) : NS × (Int × Int) × Int := if x.give = true then ((s.give x.i x.gen).1, (0, 0), (s.give x.i x.gen).2) else s.take


section
variable {w : World} {own : Nat → Prop} {p : Nat} {gv av fv : Value} {s : NS}
theorem Give_any (dom : ∀ x, own x → x < w.heap.size) (h : IAt w own p gv av fv s) (i gen : Int) :
    Calls Tryz.prog 94 #[.pointer (some ⟨p, 0, none⟩), idv (i, gen)] w fun e w' => e = .returned (.int .i64 (s.give i gen).2) ∧ IGoes w own p (s.give i gen).1 w' := by
  cases ha : s.alive i gen
  · have := Give_no dom h i gen ha
    rw [NS.give_no ha]
    exact this
  · have := Give_yes dom h i gen ha
    rw [show (s.give i gen).2 = 0 by rw [NS.give_yes ha]]
    exact this


theorem step_stP {ops : Array Oper} {o : Oper} {a : Act} {J : Act → World → Prop} {Q : Exit → Act → World → Prop} {E : Prop} {g : Nat} {x0 y0 x1 y1 : Int} {w : World} (hgd : o.guard = none) (x y : Operand) (ho : o.op = .store 39 x y)
    (hx : a.eval x = .pointer (some ⟨g, 0, none⟩)) (hy : a.eval y = .agg #[.int .i64 x1, .int .i64 y1]) (h : Rec 39 w g #[.int .i64 x0, .int .i64 y0])
    (kk : ∀ w', Rec 39 w' g #[.int .i64 x1, .int .i64 y1] → Fr (· = g) w w' → J (a.put o.dst undef) w') : if Region.wanted o (yielded ops a.tmps) = true then Oper.wp Tryz.prog o a w J Q else E :=
  step_stS idT rfl rfl (by simp [Value.oneCell']) hgd x y ho hx hy h kk


end
end Go.Proofs.YtddiadpbkjdomaaGreatDoor
namespace Go.Proofs.YtddiadpbkjdomaaGreatDoor
open Go.RowKit Go.Maps

/-- Block m is a map of integers: at i it has f i; n entries. -/
def MapZ (P : Program) (k : TypeId) (z : Value) (w : World) (m n : Nat) (f : Int → Option Value) : Prop :=
  ∃ D : DataW Value, w.ownsMap P k itself m n D ∧ Maps.size D = n ∧ (∀ i : Int, D.atKey (.int .i64 i) (.held z) = .held ((f i).getD z)) ∧ (∀ i : Int, Maps.has D (.int .i64 i) = (f i).isSome)

section
variable {P : Program} {k e T : TypeId} {z : Value} {w w' : World} {m n : Nat} {f : Int → Option Value}
theorem ownsMap_tight {R : Value → Option (DataW Value × List MemPlace)} {D : DataW Value} (h : w.ownsMap P k R m n D) : w.ownsMap P k R m (Maps.size D) D := by
  obtain ⟨es, clock, hb, F, hs, rfl⟩ := h
  have e1 : Maps.size (DataW.map ((es.toList.map (WideElems.rg P k R)).foldr DataW.insert [])) = es.size := by simp [Maps.size, length_sorted]
  exact ⟨es, clock, hb, F, by rw [e1]; exact Nat.le_refl _, rfl⟩
theorem MapZ.made (P : Program) (k : TypeId) (z : Value) (w : World) : MapZ P k z (w.alloc (.map #[] 0)) w.heap.size 0 (fun _ => none) :=
  ⟨.map [], World.ownsMap_made w P k itself, rfl, fun _ => rfl, fun _ => rfl⟩
theorem MapZ.lt (h : MapZ P k z w m n f) : m < w.heap.size := by obtain ⟨D, ho, _⟩ := h; exact ho.lt
theorem MapZ.block (h : MapZ P k z w m n f) (hb : w'.heap[m]? = w.heap[m]?) : MapZ P k z w' m n f := by
  obtain ⟨D, ⟨es, clock, hm, r⟩, h2⟩ := h
  exact ⟨D, ⟨es, clock, hb.trans hm, r⟩, h2⟩
theorem MapZ.fr {own : Nat → Prop} (h : MapZ P k z w m n f) (hf : Fr own w w') (hn : ¬ own m) : MapZ P k z w' m n f := h.block (hf.block m h.lt hn)
theorem MapZ.below (h : MapZ P k z w m n f) (hb : Below w.heap.size w w') : MapZ P k z w' m n f := h.block (hb.block m h.lt)
theorem MapZ.congr {f' : Int → Option Value} (h : MapZ P k z w m n f) (hf : ∀ i, f i = f' i) : MapZ P k z w m n f' := by
  obtain rfl : f = f' := funext hf
  exact h
theorem key_int (hk : P.underlying k = some (.int .i64)) {i : Int} (hi : -9223372036854775808 ≤ i ∧ i < 9223372036854775808) : keyOf P k (.int .i64 i) = some (.int .i64 i) :=
  keyOf_int_mk hk (WalkArith.wf_i64 (by omega))
theorem int_lit_ne {i j : Int} (h : i ≠ j) : (Lit.int .i64 i) ≠ .int .i64 j := fun e => h (by injection e with _ e)
theorem MapZ.look (h : MapZ P k z w m n f) (hk : P.underlying k = some (.int .i64)) (hT : P.underlying T = some (.map k e)) (hz : (zeroValue e).run P w = .ok z w) {i : Int} (hi : -9223372036854775808 ≤ i ∧ i < 9223372036854775808) :
    (Instr.lookup T (.map (some m)) (.int .i64 i) false).run P w = .ok ((f i).getD z) w := by
  obtain ⟨D, ho, _, hat, _⟩ := h
  obtain ⟨v, ps, hrun, hv⟩ := ho.lookup (int_keyed hk) hT hz (zd := .held z) (zp := []) rfl (key_int hk hi)
  rw [hat i] at hv
  simp only [itself, Option.some.injEq, Prod.mk.injEq, DataW.held.injEq] at hv
  rw [hrun, hv.1]
theorem MapZ.look_ok (h : MapZ P k z w m n f) (hk : P.underlying k = some (.int .i64)) (hT : P.underlying T = some (.map k e)) (hz : (zeroValue e).run P w = .ok z w) {i : Int} (hi : -9223372036854775808 ≤ i ∧ i < 9223372036854775808) :
    (Instr.lookup T (.map (some m)) (.int .i64 i) true).run P w = .ok (.tuple #[(f i).getD z, .bool (f i).isSome]) w := by
  obtain ⟨D, ho, _, hat, hh⟩ := h
  obtain ⟨v, ps, hrun, hv⟩ := ho.look_ok (int_keyed hk) hT hz (zd := .held z) (zp := []) rfl (key_int hk hi)
  rw [hat i] at hv
  simp only [itself, Option.some.injEq, Prod.mk.injEq, DataW.held.injEq] at hv
  rw [hrun, hv.1, hh i]
theorem MapZ.len (h : MapZ P k z w m n f) (hT : P.underlying T = some (.map k e)) (ty : TypeId) : (Builtin.len_ #[T] ty #[.map (some m)]).run P w = .ok (.int .i64 n) w := by
  obtain ⟨D, ho, hs, _⟩ := h
  rw [ho.len hT ty, hs]
theorem MapZ.put (h : MapZ P k z w m n f) (hk : P.underlying k = some (.int .i64)) (hT : P.underlying T = some (.map k e)) (hn : n < maxLen) {i : Int} (hi : -9223372036854775808 ≤ i ∧ i < 9223372036854775808) (v : Value) :
    ∃ w', (Instr.mapUpdate T (.map (some m)) (.int .i64 i) v).run P w = .ok () w' ∧ MapZ P k z w' m (if (f i).isSome = true then n else n + 1) (fun j => if j = i then some v else f j) ∧ w.grownBy w' (some m) := by
  obtain ⟨D, ho, hs, hat, hh⟩ := h
  obtain ⟨w', hrun, ho', hg⟩ := ho.update (int_keyed hk) hT hn (val := v) (d := .held v) (ps := []) (key_int hk hi) rfl
  have hkl := (int_keyed hk).key (key_int hk hi)
  have hsz := Maps.size_put (k := .int .i64 i) (ho.tidy (int_keyed hk)) (.held v)
  rw [hh i, hs] at hsz
  refine ⟨w', hrun, ⟨_, by rw [← hsz]; exact ownsMap_tight ho', hsz, fun j => ?_, fun j => ?_⟩, hg⟩
  · by_cases hj : j = i
    · subst hj
      simp only [if_true]
      exact Maps.atKey_put_same ho.isMap hkl _ _
    · simp only [if_neg hj]
      rw [Maps.atKey_put_other (int_lit_ne hj), hat j]
  · by_cases hj : j = i
    · subst hj
      simp only [if_true]
      exact Maps.has_put_same ho.isMap hkl _
    · simp only [if_neg hj]
      rw [Maps.has_put_other (int_lit_ne hj), hh j]
end

section
variable {P : Program} {ops : Array Oper} {o : Oper} {a : Act} {w : World} {K : Act → World → Prop} {Q : Exit → Act → World → Prop} {E : Prop} {z : Value} {m n : Nat} {f : Int → Option Value}
/-- 'm[i] = v', in a walk. -/
theorem wpList_putZ {k e T : TypeId} {rest : List Oper} (hk : P.underlying k = some (.int .i64)) (hT : P.underlying T = some (.map k e)) (hgd : Region.wanted o (yielded ops a.tmps) = true) (mo x y : Operand) (ho : o.op = Op.mapUpdate T mo x y)
    (h : MapZ P k z w m n f) (hn : n < 1000000000) {i : Int} (hi : -9223372036854775808 ≤ i ∧ i < 9223372036854775808) (v : Value) (hm : a.eval mo = .map (some m)) (hx : a.eval x = .int .i64 i) (hv : a.eval y = v)
    (hK : ∀ w', MapZ P k z w' m (if (f i).isSome = true then n else n + 1) (fun j => if j = i then some v else f j) → w.grownBy w' (some m) → wpList P ops Q rest (a.put o.dst undef) w') : wpList P ops Q (o :: rest) a w :=
  wpList_w hgd fun _ hK' => by
    obtain ⟨w', hrun, r1, r2⟩ := h.put hk hT (by unfold maxLen; omega) hi v
    unfold Oper.wp
    simp [execOp, ho, hm, hx, hv, hrun, Result.andThen]
    exact hK' _ _ (hK w' r1 r2)
/-- The same as a step of a region that draws its order. -/
theorem step_putZ {k e T : TypeId} (hk : P.underlying k = some (.int .i64)) (hT : P.underlying T = some (.map k e)) (hgd : Region.wanted o (yielded ops a.tmps) = true) (mo x y : Operand) (ho : o.op = Op.mapUpdate T mo x y)
    (h : MapZ P k z w m n f) (hn : n < 1000000000) {i : Int} (hi : -9223372036854775808 ≤ i ∧ i < 9223372036854775808) (v : Value) (hm : a.eval mo = .map (some m)) (hx : a.eval x = .int .i64 i) (hv : a.eval y = v)
    (hK : ∀ w', MapZ P k z w' m (if (f i).isSome = true then n else n + 1) (fun j => if j = i then some v else f j) → w.grownBy w' (some m) → K (a.put o.dst undef) w') :
    if Region.wanted o (yielded ops a.tmps) = true then Oper.wp P o a w K Q else E := by
  rw [if_pos hgd]
  obtain ⟨w', hrun, r1, r2⟩ := h.put hk hT (by unfold maxLen; omega) hi v
  unfold Oper.wp
  simp [execOp, ho, hm, hx, hv, hrun, Result.andThen]
  exact hK w' r1 r2
end
end Go.Proofs.YtddiadpbkjdomaaGreatDoor
namespace Go.Proofs.YtddiadpbkjdomaaGreatDoor
open Go.RowKit Go.Maps

/-- The keys of a map of key type k: each i that is allowed has a value and reads as one literal, apart from all others. -/
structure Kf (P : Program) (k : TypeId) {ι : Type} (val : ι → Value) (lit : ι → Lit) (ok : ι → Prop) : Prop where
  law : Keyed P k
  key : ∀ {i}, ok i → keyOf P k (val i) = some (lit i)
  inj : ∀ {i j}, ok i → ok j → lit i = lit j → i = j

/-- Block m is such a map: at i it has f i; of at most n entries. -/
def MapF (P : Program) (k : TypeId) {ι : Type} (lit : ι → Lit) (ok : ι → Prop) (z : Value) (w : World) (m n : Nat) (f : ι → Option Value) : Prop :=
  ∃ D : DataW Value, w.ownsMap P k itself m n D ∧ (∀ i, ok i → D.atKey (lit i) (.held z) = .held ((f i).getD z)) ∧ (∀ i, ok i → Maps.has D (lit i) = (f i).isSome)

section
variable {P : Program} {k e T : TypeId} {ι : Type} {val : ι → Value} {lit : ι → Lit} {ok : ι → Prop} {z : Value} {w w' : World} {m n : Nat} {f : ι → Option Value}
theorem MapF.made (P : Program) (k : TypeId) (lit : ι → Lit) (ok : ι → Prop) (z : Value) (w : World) : MapF P k lit ok z (w.alloc (.map #[] 0)) w.heap.size 0 (fun _ => none) :=
  ⟨.map [], World.ownsMap_made w P k itself, fun _ _ => rfl, fun _ _ => rfl⟩
theorem MapF.lt (h : MapF P k lit ok z w m n f) : m < w.heap.size := by obtain ⟨D, ho, _⟩ := h; exact ho.lt
theorem MapF.block (h : MapF P k lit ok z w m n f) (hb : w'.heap[m]? = w.heap[m]?) : MapF P k lit ok z w' m n f := by
  obtain ⟨D, ⟨es, clock, hm, r⟩, h2⟩ := h
  exact ⟨D, ⟨es, clock, hb.trans hm, r⟩, h2⟩
theorem MapF.map_at (h : MapF P k lit ok z w m n f) : ∃ es clock, w.heap[m]? = some (.map es clock) := by
  obtain ⟨D, ⟨es, clock, hm, r⟩, h2⟩ := h
  exact ⟨es, clock, hm⟩
theorem MapF.fr {own : Nat → Prop} (h : MapF P k lit ok z w m n f) (hf : Fr own w w') (hn : ¬ own m) : MapF P k lit ok z w' m n f := h.block (hf.block m h.lt hn)
theorem MapF.below (h : MapF P k lit ok z w m n f) (hb : Below w.heap.size w w') : MapF P k lit ok z w' m n f := h.block (hb.block m h.lt)
theorem MapF.congr {f' : ι → Option Value} (h : MapF P k lit ok z w m n f) (hf : ∀ i, ok i → f i = f' i) : MapF P k lit ok z w m n f' := by
  obtain ⟨D, ho, h1, h2⟩ := h
  exact ⟨D, ho, fun i hi => by rw [h1 i hi, hf i hi], fun i hi => by rw [h2 i hi, hf i hi]⟩
theorem MapF.mono {n' : Nat} (h : MapF P k lit ok z w m n f) (hn : n ≤ n') : MapF P k lit ok z w m n' f := by
  obtain ⟨D, ho, h2⟩ := h
  exact ⟨D, ho.mono hn, h2⟩
theorem MapF.look_ok (K : Kf P k val lit ok) (h : MapF P k lit ok z w m n f) (hT : P.underlying T = some (.map k e)) (hz : (zeroValue e).run P w = .ok z w) {i : ι} (hi : ok i) :
    (Instr.lookup T (.map (some m)) (val i) true).run P w = .ok (.tuple #[(f i).getD z, .bool (f i).isSome]) w := by
  obtain ⟨D, ho, hat, hh⟩ := h
  obtain ⟨v, ps, hrun, hv⟩ := ho.look_ok K.law hT hz (zd := .held z) (zp := []) rfl (K.key hi)
  rw [hat i hi] at hv
  simp only [itself, Option.some.injEq, Prod.mk.injEq, DataW.held.injEq] at hv
  rw [hrun, hv.1, hh i hi]
theorem look_none (K : Kf P k val lit ok) (hT : P.underlying T = some (.map k e)) (hz : (zeroValue e).run P w = .ok z w) {i : ι} (hi : ok i) :
    (Instr.lookup T (.map none) (val i) true).run P w = .ok (.tuple #[z, .bool false]) w := Maps.look_nil true K.law hT hz (K.key hi)
theorem MapF.put [DecidableEq ι] (K : Kf P k val lit ok) (h : MapF P k lit ok z w m n f) (hT : P.underlying T = some (.map k e)) (hn : n < maxLen) {i : ι} (hi : ok i) (v : Value) :
    ∃ w', (Instr.mapUpdate T (.map (some m)) (val i) v).run P w = .ok () w' ∧ MapF P k lit ok z w' m (n + 1) (fun j => if j = i then some v else f j) ∧ w.grownBy w' (some m) := by
  obtain ⟨D, ho, hat, hh⟩ := h
  obtain ⟨w', hrun, ho', hg⟩ := ho.update K.law hT hn (val := v) (d := .held v) (ps := []) (K.key hi) rfl
  have hkl := K.law.key (K.key hi)
  refine ⟨w', hrun, ⟨_, ho', fun j hj => ?_, fun j hj => ?_⟩, hg⟩
  · by_cases e : j = i
    · subst e
      simp only [if_true]
      exact Maps.atKey_put_same ho.isMap hkl _ _
    · simp only [if_neg e]
      rw [Maps.atKey_put_other (fun h => e (K.inj hj hi h)), hat j hj]
  · by_cases e : j = i
    · subst e
      simp only [if_true]
      exact Maps.has_put_same ho.isMap hkl _
    · simp only [if_neg e]
      rw [Maps.has_put_other (fun h => e (K.inj hj hi h)), hh j hj]
end

section
variable {P : Program} {ops : Array Oper} {o : Oper} {a : Act} {w : World} {K : Act → World → Prop} {Q : Exit → Act → World → Prop} {E : Prop} {z : Value} {m n : Nat}
variable {ι : Type} {val : ι → Value} {lit : ι → Lit} {ok : ι → Prop} {f : ι → Option Value}
/-- 'm[i] = v', in a walk. -/
theorem wpList_putF [DecidableEq ι] {k e T : TypeId} {rest : List Oper} (KF : Kf P k val lit ok) (hT : P.underlying T = some (.map k e)) (hgd : Region.wanted o (yielded ops a.tmps) = true) (mo x y : Operand) (ho : o.op = Op.mapUpdate T mo x y)
    (h : MapF P k lit ok z w m n f) (hn : n < 1000000000) (i : ι) (hi : ok i) (v : Value) (hm : a.eval mo = .map (some m)) (hx : a.eval x = val i) (hv : a.eval y = v)
    (hK : ∀ w', MapF P k lit ok z w' m (n + 1) (fun j => if j = i then some v else f j) → w.grownBy w' (some m) → wpList P ops Q rest (a.put o.dst undef) w') : wpList P ops Q (o :: rest) a w :=
  wpList_w hgd fun _ hK' => by
    obtain ⟨w', hrun, r1, r2⟩ := h.put KF hT (by unfold maxLen; omega) hi v
    unfold Oper.wp
    simp [execOp, ho, hm, hx, hv, hrun, Result.andThen]
    exact hK' _ _ (hK w' r1 r2)
end

/-- Numbers of 64 bits, no sign, as keys. -/
def litU (s : Nat) : Lit := .int .u64 s
def okU (s : Nat) : Prop := s < 18446744073709551616
theorem kfU {P : Program} {k : TypeId} (hk : P.underlying k = some (.int .u64)) : Kf P k (fun s : Nat => .int .u64 (s : Int)) litU okU where
  law := int_keyed hk
  key h := keyOf_int_mk hk (WalkArith.wf_u64 (by unfold okU at h; omega))
  inj _ _ e := by unfold litU at e; injection e with _ e; omega
end Go.Proofs.YtddiadpbkjdomaaGreatDoor
namespace Go.Proofs.YtddiadpbkjdomaaGreatDoor

/-- All that are in s, rising. -/
def listN (s : Nat) : List Nat := (List.range 64).filter fun i => s.testBit i
theorem testBit_big {a i : Nat} (ha : a < 18446744073709551616) (hi : ¬ i < 64) : a.testBit i = false :=
  Nat.testBit_lt_two_pow (Nat.lt_of_lt_of_le ha (show 2 ^ 64 ≤ 2 ^ i from Nat.pow_le_pow_right (by decide) (by omega)))
theorem eq_of_bits {a b : Nat} (ha : a < 18446744073709551616) (hb : b < 18446744073709551616) (h : ∀ i, i < 64 → a.testBit i = b.testBit i) : a = b :=
  Nat.eq_of_testBit_eq fun i => by
    by_cases hi : i < 64
    · exact h i hi
    · rw [testBit_big ha hi, testBit_big hb hi]
theorem mem_listN {s i : Nat} : i ∈ listN s ↔ i < 64 ∧ s.testBit i = true := by simp [listN]

/-- The document's: bit after bit. -/
def ofL (l : List Int) : Nat → Nat
  | 0 => 0
  | c + 1 => ofL l c + if (c : Int) ∈ l then 2 ^ c else 0
theorem ofL_lt (l : List Int) : ∀ c, ofL l c < 2 ^ c
  | 0 => Nat.one_pos
  | c + 1 => by
    have := ofL_lt l c
    rw [Nat.pow_succ]
    unfold ofL
    split <;> omega
theorem ofL_bit (l : List Int) : ∀ c i, (ofL l c).testBit i = decide (i < c ∧ (i : Int) ∈ l)
  | 0, i => by simp [ofL]
  | c + 1, i => by
    have ih := ofL_bit l c i
    have hlt := ofL_lt l c
    unfold ofL
    by_cases hc : (c : Int) ∈ l
    · rw [if_pos hc, ← Nat.or_two_pow_eq_add_of_lt hlt, Nat.testBit_or, ih, Nat.testBit_two_pow]
      by_cases e : i = c
      · subst e
        simp [hc]
      · have h1 : i < c ↔ i < c + 1 := by omega
        have h2 : ¬ c = i := fun e' => e e'.symm
        simp [h1, h2]
    · rw [if_neg hc, Nat.add_zero, ih]
      by_cases e : i = c
      · subst e
        simp [hc]
      · have : i < c ↔ i < c + 1 := by omega
        simp [this]
/-- The program's: a bit for each that may be. -/
def orL (l : List Int) : Nat := l.foldl (fun s c => if 0 ≤ c ∧ c < 64 then s ||| 2 ^ c.toNat else s) 0
theorem orL_snoc (l : List Int) (c : Int) : orL (l ++ [c]) = if 0 ≤ c ∧ c < 64 then orL l ||| 2 ^ c.toNat else orL l := by simp [orL]
theorem orL_one (c : Int) : orL [c] = if 0 ≤ c ∧ c < 64 then 2 ^ c.toNat else 0 := by simp [orL]
theorem orF_bit (l : List Int) (i : Nat) : ∀ s : Nat, (l.foldl (fun (s : Nat) (c : Int) => if 0 ≤ c ∧ c < 64 then s ||| 2 ^ c.toNat else s) s).testBit i = (s.testBit i || decide (i < 64 ∧ (i : Int) ∈ l)) := by
  induction l with
  | nil => intro s; simp
  | cons c l ih =>
    intro s
    rw [List.foldl_cons, ih]
    by_cases hc : 0 ≤ c ∧ c < 64
    · rw [if_pos hc, Nat.testBit_or, Nat.testBit_two_pow]
      by_cases e : (i : Int) = c
      · have h1 : c.toNat = i := by omega
        have h2 : i < 64 := by omega
        simp [h1, e, h2]
      · have h1 : ¬ c.toNat = i := by omega
        simp [h1, e]
    · rw [if_neg hc]
      by_cases e : (i : Int) = c
      · have h2 : ¬ i < 64 := by omega
        simp [h2]
      · simp [e]
theorem orL_bit (l : List Int) (i : Nat) : (orL l).testBit i = decide (i < 64 ∧ (i : Int) ∈ l) := by
  unfold orL
  rw [orF_bit]
  simp
theorem orL_lt (l : List Int) : orL l < 18446744073709551616 :=
  Nat.lt_pow_two_of_testBit (n := 64) _ fun i hi => by
    rw [orL_bit]
    have : ¬ i < 64 := by omega
    simp [this]
theorem orL_eq (l : List Int) : orL l = ofL l 64 := eq_of_bits (orL_lt l) (ofL_lt l 64) fun i _ => by rw [orL_bit, ofL_bit]
theorem two_lt {c : Nat} (h : c < 64) : 2 ^ c < 18446744073709551616 := Nat.pow_lt_pow_right (a := 2) (by decide) (show c < 64 from h)

/-- s without o. -/
def butN (s o : Nat) : Nat := s &&& (18446744073709551615 - o)
theorem butN_bit' (s o i : Nat) (ho : o < 18446744073709551616) (h : i < 64) : (butN s o).testBit i = (s.testBit i && !o.testBit i) := by
  unfold butN
  rw [Nat.testBit_and, show 18446744073709551615 - o = 2 ^ 64 - (o + 1) from by omega, Nat.testBit_two_pow_sub_succ ho]
  simp [h]
theorem butN_lt {s o : Nat} (h : s < 18446744073709551616) : butN s o < 18446744073709551616 := Nat.lt_of_le_of_lt Nat.and_le_left h
def listZ (s : Nat) : List Int := (listN s).map Int.ofNat
theorem mem_listZ {s : Nat} {i : Nat} : (i : Int) ∈ listZ s ↔ i < 64 ∧ s.testBit i = true := by
  unfold listZ
  rw [List.mem_map]
  constructor
  · rintro ⟨a, ha, e⟩
    have : a = i := by have e' : (a : Int) = i := e; omega
    subst this
    exact mem_listN.1 ha
  · exact fun h => ⟨i, mem_listN.2 h, rfl⟩
theorem hasN (s : Nat) (c : Int) : (s &&& orL [c] == 0) = !decide (0 ≤ c ∧ c < 64 ∧ s.testBit c.toNat = true) := by
  rw [orL_one]
  by_cases hc : 0 ≤ c ∧ c < 64
  · rw [if_pos hc]
    by_cases hb : s.testBit c.toNat = true
    · have h0 : ¬ s &&& 2 ^ c.toNat = 0 := fun e => by
        have := congrArg (fun x => Nat.testBit x c.toNat) e
        simp [hb] at this
      simp [hc.1, hc.2, hb, h0]
    · have h0 : s &&& 2 ^ c.toNat = 0 := Nat.eq_of_testBit_eq fun i => by
        rw [Nat.testBit_and, Nat.testBit_two_pow]
        by_cases e : c.toNat = i
        · subst e; simp [hb]
        · simp [e]
      simp [hb, h0]
  · rw [if_neg hc]
    have : ¬ (0 ≤ c ∧ c < 64 ∧ s.testBit c.toNat = true) := fun h => hc ⟨h.1, h.2.1⟩
    simp only [this, Nat.and_zero, decide_false]
    rfl
theorem withN (s : Nat) (c : Int) (hs : s < 18446744073709551616) : s ||| orL [c] = ofL (listZ s ++ [c]) 64 :=
  eq_of_bits (Nat.or_lt_two_pow (n := 64) hs (orL_lt _)) (ofL_lt _ 64) fun i hi => by
    rw [Nat.testBit_or, orL_bit, ofL_bit]
    by_cases hb : s.testBit i = true
    · have := mem_listZ.2 ⟨hi, hb⟩
      simp [hi, hb, this]
    · have : ¬ (i : Int) ∈ listZ s := fun h => hb (mem_listZ.1 h).2
      simp [hi, hb, this]
theorem withoutN (s : Nat) (c : Int) (hs : s < 18446744073709551616) : butN s (orL [c]) = ofL ((listZ s).filter fun x => decide (x ≠ c)) 64 :=
  eq_of_bits (butN_lt hs) (ofL_lt _ 64) fun i hi => by
    rw [butN_bit' _ _ _ (orL_lt _) hi, orL_bit, ofL_bit]
    by_cases hb : s.testBit i = true
    · have := mem_listZ.2 ⟨hi, hb⟩
      simp [hi, hb, this, List.mem_filter]
    · have : ¬ (i : Int) ∈ listZ s := fun h => hb (mem_listZ.1 h).2
      simp [hb, this, List.mem_filter]
theorem backN (s : Nat) (hs : s < 18446744073709551616) : orL (listZ s) = s :=
  eq_of_bits (orL_lt _) hs fun i hi => by
    rw [orL_bit]
    by_cases hb : s.testBit i = true
    · have := mem_listZ.2 ⟨hi, hb⟩
      simp [hi, hb, this]
    · have : ¬ (i : Int) ∈ listZ s := fun h => hb (mem_listZ.1 h).2
      simp [hb, this]
theorem undoN (s : Nat) (c : Int) (hs : s < 18446744073709551616) (h : 0 ≤ c ∧ c < 64 ∧ s.testBit c.toNat = true) : butN s (orL [c]) ||| orL [c] = s :=
  eq_of_bits (Nat.or_lt_two_pow (n := 64) (butN_lt hs) (orL_lt _)) hs fun i hi => by
    rw [Nat.testBit_or, butN_bit' _ _ _ (orL_lt _) hi, orL_bit]
    by_cases e : (i : Int) = c
    · have : c.toNat = i := by omega
      rw [this] at h
      simp [h.2.2, e, hi]
    · simp [e]
theorem withinN (a b : Nat) (ha : a < 18446744073709551616) (hb0 : b < 18446744073709551616) : (butN a b == 0) = (listN a).all fun i => b.testBit i := by
  by_cases h : ∀ i ∈ listN a, b.testBit i = true
  · have h0 : butN a b = 0 := eq_of_bits (butN_lt ha) (by decide) fun i hi => by
      rw [butN_bit' _ _ _ hb0 hi]
      by_cases hb : a.testBit i = true
      · simp [h i (mem_listN.2 ⟨hi, hb⟩)]
      · simp [hb]
    rw [h0, List.all_eq_true.2 h]; rfl
  · have h1 : (listN a).all (fun i => b.testBit i) = false := by
      rw [Bool.eq_false_iff]
      exact fun e => h (List.all_eq_true.1 e)
    rw [h1, beq_eq_false_iff_ne]
    intro h0
    refine h fun i hi => ?_
    obtain ⟨h64, hb⟩ := mem_listN.1 hi
    have := butN_bit' a b i hb0 h64
    rw [h0, hb] at this
    simpa using this
theorem apartN (a b : Nat) (ha : a < 18446744073709551616) : (a &&& b == 0) = (listN a).all fun i => !b.testBit i := by
  by_cases h : ∀ i ∈ listN a, (!b.testBit i) = true
  · have h0 : a &&& b = 0 := eq_of_bits (Nat.lt_of_le_of_lt Nat.and_le_left ha) (by decide) fun i hi => by
      rw [Nat.testBit_and]
      by_cases hb : a.testBit i = true
      · have := h i (mem_listN.2 ⟨hi, hb⟩)
        simp_all
      · simp [hb]
    rw [h0, List.all_eq_true.2 h]; rfl
  · have h1 : (listN a).all (fun i => !b.testBit i) = false := by
      rw [Bool.eq_false_iff]
      exact fun e => h (List.all_eq_true.1 e)
    rw [h1, beq_eq_false_iff_ne]
    intro h0
    refine h fun i hi => ?_
    obtain ⟨h64, hb⟩ := mem_listN.1 hi
    have := Nat.testBit_and a b i
    rw [h0, hb] at this
    simpa using this

/-- The lowest of s, and the others. -/
theorem lowN (s : Nat) (h0 : s ≠ 0) (hs : s < 18446744073709551616) : Lib.ctz 64 s < 64 ∧ listN s = Lib.ctz 64 s :: listN (butN s (orL [(Lib.ctz 64 s : Nat)])) := by
  obtain ⟨m, hm, hk⟩ := Lib.ctzFrom_spec 64 s (Nat.pos_of_ne_zero h0) hs
  have hc : Lib.ctz 64 s = Lib.ctzFrom 64 s := by unfold Lib.ctz; rw [if_neg h0]
  rw [← hc] at hm hk
  obtain ⟨k, hk'⟩ : ∃ k, k = Lib.ctz 64 s := ⟨_, rfl⟩
  rw [← hk'] at hm hk ⊢
  clear hc hk'
  refine ⟨hk, ?_⟩
  have hb : ∀ i, s.testBit i = (decide (k ≤ i) && (2 * m + 1).testBit (i - k)) := fun i => by rw [hm, Nat.testBit_two_pow_mul]
  have hkk : s.testBit k = true := by rw [hb]; simp [Nat.testBit_zero]
  have hlow : ∀ i, i < k → s.testBit i = false := fun i hi => by
    rw [hb]
    have : ¬ k ≤ i := by omega
    simp [this]
  have hoth : ∀ i, i < 64 → i ≠ k → (butN s (orL [(k : Int)])).testBit i = s.testBit i := fun i hi hne => by
    rw [butN_bit' _ _ _ (orL_lt _) hi, orL_bit]
    have : ¬ (i : Int) = k := by omega
    simp [this]
  have hsame : (butN s (orL [(k : Int)])).testBit k = false := by
    rw [butN_bit' _ _ _ (orL_lt _) hk, orL_bit]
    simp [hk]
  unfold listN
  obtain ⟨d, hd⟩ : ∃ d, 64 = k + 1 + d := ⟨63 - k, by omega⟩
  have hr : List.range 64 = List.range k ++ ([k] ++ (List.range d).map (k + 1 + ·)) := by
    rw [hd, List.range_add, List.range_succ, List.append_assoc]
  have e1 : (List.range k).filter (fun i => s.testBit i) = [] := List.filter_eq_nil_iff.2 fun i hi => by
    rw [hlow i (List.mem_range.1 hi)]; simp
  have e2 : (List.range k).filter (fun i => (butN s (orL [(k : Int)])).testBit i) = [] := List.filter_eq_nil_iff.2 fun i hi => by
    have := List.mem_range.1 hi
    rw [hoth i (by omega) (by omega), hlow i this]; simp
  have e3 : ((List.range d).map (k + 1 + ·)).filter (fun i => (butN s (orL [(k : Int)])).testBit i) = ((List.range d).map (k + 1 + ·)).filter (fun i => s.testBit i) := List.filter_congr fun i hi => by
    obtain ⟨j, hj, rfl⟩ := List.mem_map.1 hi
    have := List.mem_range.1 hj
    exact hoth _ (by omega) (by omega)
  rw [hr, List.filter_append, List.filter_append, List.filter_append, List.filter_append, e1, e2, e3]
  simp [hkk, hsame]
theorem listN_zero : listN 0 = [] := by decide

end Go.Proofs.YtddiadpbkjdomaaGreatDoor
namespace Go.Proofs.YtddiadpbkjdomaaGreatDoor

/-- The place of s in S. -/
def ixS : List Nat → Nat → Option Nat
  | [], _ => none
  | t :: S, s => if t = s then some 0 else (ixS S s).map (· + 1)
theorem ixS_lt : ∀ {S : List Nat} {s i : Nat}, ixS S s = some i → i < S.length ∧ S[i]? = some s
  | [], _, _, h => by cases h
  | t :: S, s, i, h => by
    unfold ixS at h
    by_cases e : t = s
    · rw [if_pos e] at h
      injection h with h
      subst h
      simp [e]
    · rw [if_neg e] at h
      cases hx : ixS S s with
      | none => rw [hx] at h; cases h
      | some j =>
        rw [hx] at h
        injection h with h
        subst h
        have := ixS_lt hx
        simpa using this
theorem ixS_none : ∀ {S : List Nat} {s : Nat}, ixS S s = none → s ∉ S
  | [], _, _ => List.not_mem_nil
  | t :: S, s, h => by
    unfold ixS at h
    by_cases e : t = s
    · rw [if_pos e] at h; cases h
    · rw [if_neg e] at h
      have := ixS_none (S := S) (s := s) (by cases hx : ixS S s with | none => rfl | some j => rw [hx] at h; cases h)
      simp [this, Ne.symm e]
theorem ixS_first : ∀ {S : List Nat} {s i : Nat}, ixS S s = some i → ∀ j, j < i → S[j]? ≠ some s
  | [], _, _, h => by cases h
  | t :: S, s, i, h => by
    unfold ixS at h
    by_cases e : t = s
    · rw [if_pos e] at h
      injection h with h
      subst h
      intro j hj
      omega
    · rw [if_neg e] at h
      cases hx : ixS S s with
      | none => rw [hx] at h; cases h
      | some k =>
        rw [hx] at h
        have h : k + 1 = i := by simpa using h
        subst h
        intro j hj
        cases j with
        | zero => simpa using e
        | succ j => simpa using ixS_first hx j (by omega)
theorem ixS_of_first {S : List Nat} {s i : Nat} (hi : S[i]? = some s) (hf : ∀ j, j < i → S[j]? ≠ some s) : ixS S s = some i := by
  cases h : ixS S s with
  | none => exact absurd (List.mem_of_getElem? hi) (ixS_none h)
  | some j =>
    have h1 := ixS_lt h
    have h2 := ixS_first h
    by_cases e : j = i
    · rw [e]
    · rcases Nat.lt_or_gt_of_ne e with h3 | h3
      · exact absurd h1.2 (hf j h3)
      · exact absurd hi (h2 i h3)
theorem ixS_of_at {S : List Nat} (nd : S.Nodup) {s i : Nat} (hi : S[i]? = some s) : ixS S s = some i := by
  refine ixS_of_first hi (fun j hj e => ?_)
  obtain ⟨h1, h2⟩ := List.getElem?_eq_some_iff.1 hi
  obtain ⟨h3, h4⟩ := List.getElem?_eq_some_iff.1 e
  exact List.pairwise_iff_getElem.1 nd j i h3 h1 hj (h4.trans h2.symm)
theorem ixS_of_not {S : List Nat} {s : Nat} (h : s ∉ S) : ixS S s = none := by
  cases hx : ixS S s with
  | none => rfl
  | some j => exact absurd (List.mem_of_getElem? (ixS_lt hx).2) h
theorem ixS_snoc {S : List Nat} {t : Nat} (h : ixS S t = none) (s : Nat) : ixS (S ++ [t]) s = if s = t then some S.length else ixS S s := by
  by_cases e : s = t
  · subst e
    rw [if_pos rfl]
    refine ixS_of_first (by simp) (fun j hj e => ?_)
    rw [List.getElem?_append_left hj] at e
    exact ixS_none h (List.mem_of_getElem? e)
  · rw [if_neg e]
    cases hx : ixS S s with
    | none =>
      refine ixS_of_not fun hm => ?_
      rcases List.mem_append.1 hm with hm | hm
      · exact ixS_none hx hm
      · exact e (List.mem_singleton.1 hm)
    | some j =>
      have h1 := ixS_lt hx
      refine ixS_of_first (by rw [List.getElem?_append_left h1.1]; exact h1.2) (fun i hi => ?_)
      rw [List.getElem?_append_left (by omega)]
      exact ixS_first hx i hi

/-- The node of s: the sets, and its place. -/
def gNode (S : List Nat) (s : Nat) : List Nat × Nat := match ixS S s with | some i => (S, i) | none => (S ++ [s], S.length)
theorem gNode_some {S : List Nat} {s i : Nat} (h : ixS S s = some i) : gNode S s = (S, i) := by unfold gNode; rw [h]
theorem gNode_none {S : List Nat} {s : Nat} (h : ixS S s = none) : gNode S s = (S ++ [s], S.length) := by unfold gNode; rw [h]
theorem gNode_at (S : List Nat) (s : Nat) : (gNode S s).1[(gNode S s).2]? = some s := by
  cases h : ixS S s with
  | some i => rw [gNode_some h]; exact (ixS_lt h).2
  | none => rw [gNode_none h]; simp
theorem gNode_len (S : List Nat) (s : Nat) : (gNode S s).1.length ≤ S.length + 1 ∧ S.length ≤ (gNode S s).1.length := by
  cases h : ixS S s with
  | some i => rw [gNode_some h]; exact ⟨Nat.le_succ _, Nat.le_refl _⟩
  | none => rw [gNode_none h]; simp
theorem gNode_keeps {S : List Nat} (s : Nat) {i t : Nat} (h : S[i]? = some t) : (gNode S s).1[i]? = some t := by
  cases hx : ixS S s with
  | some j => rw [gNode_some hx]; exact h
  | none =>
    rw [gNode_none hx]
    show (S ++ [s])[i]? = _
    rw [List.getElem?_append_left (List.getElem?_eq_some_iff.1 h).1]
    exact h

/-- Sets of 64 numbers, each once. -/
structure SOk (S : List Nat) : Prop where
  nd : S.Nodup
  lt : ∀ s ∈ S, s < 18446744073709551616
theorem SOk.at_lt {S : List Nat} (h : SOk S) {i s : Nat} (hi : S[i]? = some s) : s < 18446744073709551616 := h.lt s (List.mem_of_getElem? hi)
theorem SOk.one : SOk [0] := ⟨by simp, fun _ hs => by rw [List.mem_singleton.1 hs]; decide⟩
theorem SOk.nil : SOk [] := ⟨List.nodup_nil, fun _ hs => absurd hs List.not_mem_nil⟩
theorem SOk.snoc {S : List Nat} (h : SOk S) {s : Nat} (hs : s < 18446744073709551616) (hx : ixS S s = none) : SOk (S ++ [s]) where
  nd := List.nodup_append.2 ⟨h.nd, by simp, fun a ha b hb e => ixS_none hx (by rw [← List.mem_singleton.1 hb, ← e]; exact ha)⟩
  lt t ht := by
    rcases List.mem_append.1 ht with ht | ht
    · exact h.lt t ht
    · rw [List.mem_singleton.1 ht]; exact hs
theorem SOk.node {S : List Nat} (h : SOk S) {s : Nat} (hs : s < 18446744073709551616) : SOk (gNode S s).1 := by
  cases hx : ixS S s with
  | some i => rw [gNode_some hx]; exact h
  | none => rw [gNode_none hx]; exact h.snoc hs hx

/-- A step of a script. -/
structure Gst where
  d : Int
  sig : Nat
  n : Int
  c : Int
  hs : sig < 18446744073709551616
/-- What With (true), Without (false) make of a set. -/
def chg (b : Bool) (s : Nat) (c : Int) : Nat := if b = true then s ||| orL [c] else butN s (orL [c])
theorem chg_lt (b : Bool) {s : Nat} (c : Int) (h : s < 18446744073709551616) : chg b s c < 18446744073709551616 := by
  unfold chg
  split
  · exact Nat.or_lt_two_pow (n := 64) h (orL_lt _)
  · exact butN_lt h
def gMove (S : List Nat) (b : Bool) (n c : Int) : List Nat × Int :=
  if 0 ≤ n ∧ n < S.length then ((gNode S (chg b (S.getD n.toNat 0) c)).1, ((gNode S (chg b (S.getD n.toNat 0) c)).2 : Int)) else (S, -1)
def gGo (S : List Nat) (x : Gst) : List Nat × Int :=
  if x.d = 1 then gMove S true x.n x.c else if x.d = 2 then gMove S false x.n x.c else ((gNode S x.sig).1, ((gNode S x.sig).2 : Int))
theorem gMove_ok {S : List Nat} (h : SOk S) (b : Bool) (n c : Int) : SOk (gMove S b n c).1 := by
  unfold gMove
  by_cases hn : 0 ≤ n ∧ n < S.length
  · rw [if_pos hn]
    refine h.node (chg_lt b c ?_)
    have : n.toNat < S.length := by omega
    rw [List.getD_eq_getElem?_getD, List.getElem?_eq_getElem this]
    exact h.lt _ (List.getElem_mem this)
  · rw [if_neg hn]; exact h
theorem gMove_len (S : List Nat) (b : Bool) (n c : Int) : (gMove S b n c).1.length ≤ S.length + 1 := by
  unfold gMove
  split
  · exact (gNode_len _ _).1
  · exact Nat.le_succ _
theorem gMove_keeps {S : List Nat} (b : Bool) (n c : Int) {i t : Nat} (h : S[i]? = some t) : (gMove S b n c).1[i]? = some t := by
  unfold gMove
  split
  · exact gNode_keeps _ h
  · exact h
theorem gGo_ok {S : List Nat} (h : SOk S) (x : Gst) : SOk (gGo S x).1 := by
  unfold gGo
  split
  · exact gMove_ok h _ _ _
  · split
    · exact gMove_ok h _ _ _
    · exact h.node x.hs
theorem gGo_len (S : List Nat) (x : Gst) : (gGo S x).1.length ≤ S.length + 1 := by
  unfold gGo
  split
  · exact gMove_len _ _ _ _
  · split
    · exact gMove_len _ _ _ _
    · exact (gNode_len _ _).1
theorem gMove_pos {S : List Nat} (h : 0 < S.length) (b : Bool) (n c : Int) : 0 < (gMove S b n c).1.length := by
  unfold gMove
  split
  · exact Nat.lt_of_lt_of_le h (gNode_len _ _).2
  · exact h
theorem gGo_pos {S : List Nat} (h : 0 < S.length) (x : Gst) : 0 < (gGo S x).1.length := by
  unfold gGo
  split
  · exact gMove_pos h _ _ _
  · split
    · exact gMove_pos h _ _ _
    · exact Nat.lt_of_lt_of_le h (gNode_len _ _).2
theorem gGo_keeps {S : List Nat} (x : Gst) {i t : Nat} (h : S[i]? = some t) : (gGo S x).1[i]? = some t := by
  unfold gGo
  split
  · exact gMove_keeps _ _ _ h
  · split
    · exact gMove_keeps _ _ _ h
    · exact gNode_keeps _ h

/-- The two sets differ in c alone. -/
def Beside (s t : Nat) (c : Int) : Prop := s ≠ t ∧ 0 ≤ c ∧ c < 64 ∧ ∀ i : Nat, i < 64 → (i : Int) ≠ c → s.testBit i = t.testBit i
theorem Beside.symm {s t : Nat} {c : Int} (h : Beside s t c) : Beside t s c := ⟨h.1.symm, h.2.1, h.2.2.1, fun i hi hc => (h.2.2.2 i hi hc).symm⟩
theorem Beside.same {s t t' : Nat} {c : Int} (hs : s < 18446744073709551616) (ht : t < 18446744073709551616) (ht' : t' < 18446744073709551616) (h : Beside s t c) (h' : Beside s t' c) : t = t' := by
  obtain ⟨e1, c0, c1, h2⟩ := h
  obtain ⟨e1', _, _, h2'⟩ := h'
  refine eq_of_bits ht ht' fun i hi => ?_
  by_cases hc : (i : Int) = c
  · have d1 : s.testBit i ≠ t.testBit i := fun e => e1 (eq_of_bits hs ht fun j hj => by
      by_cases hj2 : (j : Int) = c
      · have : j = i := by omega
        rw [this]; exact e
      · exact h2 j hj hj2)
    have d2 : s.testBit i ≠ t'.testBit i := fun e => e1' (eq_of_bits hs ht' fun j hj => by
      by_cases hj2 : (j : Int) = c
      · have : j = i := by omega
        rw [this]; exact e
      · exact h2' j hj hj2)
    generalize s.testBit i = a at *
    generalize t.testBit i = b at *
    generalize t'.testBit i = d at *
    cases a <;> cases b <;> cases d <;> simp_all
  · rw [← h2 i hi hc, ← h2' i hi hc]
theorem chg_beside (b : Bool) {s : Nat} {c : Int} (hs : s < 18446744073709551616) (h : chg b s c ≠ s) : Beside s (chg b s c) c := by
  have hc : 0 ≤ c ∧ c < 64 := by
    by_cases hc : 0 ≤ c ∧ c < 64
    · exact hc
    · refine absurd ?_ h
      have h0 : orL [c] = 0 := by rw [orL_one, if_neg hc]
      unfold chg
      rw [h0]
      cases b
      · simp only [Bool.false_eq_true, if_false]
        exact eq_of_bits (butN_lt hs) hs fun i hi => by rw [butN_bit' _ _ _ (by decide) hi]; simp
      · simp
  refine ⟨fun e => h e.symm, hc.1, hc.2, fun i hi hne => ?_⟩
  have hb : (orL [c]).testBit i = false := by rw [orL_bit]; simp [hne]
  unfold chg
  cases b
  · simp only [Bool.false_eq_true, if_false]
    rw [butN_bit' _ _ _ (orL_lt _) hi, hb]
    simp
  · simp only [if_true]
    rw [Nat.testBit_or, hb]
    simp
end Go.Proofs.YtddiadpbkjdomaaGreatDoor
