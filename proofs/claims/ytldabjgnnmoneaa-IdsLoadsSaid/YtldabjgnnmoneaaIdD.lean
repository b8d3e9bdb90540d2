/- The contracts of Take and Give. -/
import Derived.Test.YtldabjgnnmoneaaIdC
import Derived.WalkSmall
namespace Go.Proofs.Ytldabjgnnmoneaa
open Go.RowKit

section
variable {w w1 w2 w3 : World} {own : Nat → Prop} {p : Nat} {gv av fv : Value} {s : NS}
theorem IGoes.of (dom : ∀ x, own x → x < w.heap.size) (hf : Fr own w w1) (h : IAt w1 own p gv av fv s) : IGoes w own p s w1 :=
  ⟨hf, own, fun _ hx => .inl hx, fun x hx => Nat.lt_of_lt_of_le (dom x hx) hf.size, gv, av, fv, h⟩
theorem IGoes.still (dom : ∀ x, own x → x < w.heap.size) (h : IAt w own p gv av fv s) (hb : Below w.heap.size w w1) : IGoes w own p s w1 := IGoes.of dom (Fr.ofBelow own hb) (h.below hb)
theorem IGoes.pre (hb : Below w.heap.size w w1) (h : IGoes w1 own p s w2) : IGoes w own p s w2 := by
  obtain ⟨hf, own', ho, hd⟩ := h
  exact ⟨(Fr.ofBelow own hb).trans hf, own', fun x hx => (ho x hx).imp id (fun h => Nat.le_trans hb.size h), hd⟩
theorem IGoes.below (h : IGoes w own p s w1) (hb : Below w1.heap.size w1 w2) : IGoes w own p s w2 := by
  obtain ⟨hf, own', ho, hd, gv, av, fv, I⟩ := h
  exact ⟨hf.trans (Fr.ofBelow own hb), own', ho, fun x hx => Nat.lt_of_lt_of_le (hd x hx) hb.size, gv, av, fv, I.below hb⟩
/-- The cell of a result, laid ahead, is stored into. -/
theorem IGoes.res (dom : ∀ x, own x → x < w.heap.size) (hb : Below w.heap.size w w1) {g : Nat} (hg0 : w.heap.size ≤ g) (hg : g < w1.heap.size) (h : IGoes w1 own p s w2) (hF : Fr (· = g) w2 w3) : IGoes w own p s w3 := by
  obtain ⟨hf, own', ho, hd, gv, av, fv, I⟩ := h
  refine ⟨((Fr.ofBelow own hb).trans hf).trans' hF (fun x hx => .inr (by rw [show x = g from hx]; exact hg0)), own', fun x hx => (ho x hx).imp id (fun h => Nat.le_trans hb.size h), fun x hx => Nat.lt_of_lt_of_le (hd x hx) hF.size, gv, av, fv, I.kept hF (fun x hx e => ?_)⟩
  have e' : x = g := e
  rcases ho x hx with h | h
  · have := dom x h; omega
  · omega
theorem IGoes.rec_ {T g : Nat} {cs : Array Value} (dom : ∀ x, own x → x < w.heap.size) (hR : Rec T w1 g cs) (hg0 : w.heap.size ≤ g) (h : IGoes w1 own p s w2) : Rec T w2 g cs := hR.fr h.1 (fun hx => by have := dom g hx; omega)

theorem below_drewN (w : World) (n : Nat) : Below w.heap.size w (w.drewN n) := ⟨rfl, rfl, rfl, Nat.le_refl _, fun _ _ => rfl⟩

theorem Take_nil (w : World) : Calls Try.prog 16 #[.pointer none] w fun e w' => e = .returned (.tuple #[idv (0, 0), .int .i64 4]) ∧ Below w.heap.size w w' := by
  go_enter Try.func16, Try.ntmps16
  go_wp2
  refine bodyPost_ret (res_ct rfl rfl ((Rec.new w 24 #[.int .i64 0, .int .i64 0]).load idT rfl)) rfl ?_
  exact ⟨rfl, (Below.refl _ _).alloc (Nat.le_refl _) _⟩

theorem Take_full (dom : ∀ x, own x → x < w.heap.size) (h : IAt w own p gv av fv s) (hf : s.fr = []) (he : s.g.length = s.E) :
    Calls Try.prog 16 #[.pointer (some ⟨p, 0, none⟩)] w fun e w' => e = .returned (.tuple #[idv (0, 0), .int .i64 9]) ∧ IGoes w own p s w' := by
  obtain ⟨A, c, rfl⟩ := own_sl h.gens
  obtain ⟨A4, c4', rfl⟩ := own_sl h.free
  obtain ⟨w1, hw1⟩ : ∃ w1, w1 = w.alloc (.cells #[.int .i64 0, .int .i64 0] 24) := ⟨_, rfl⟩
  have hb : Below w.heap.size w w1 := by rw [hw1]; exact (Below.refl _ _).alloc (Nat.le_refl _) _
  have hR1 : Rec 24 w1 w.heap.size #[.int .i64 0, .int .i64 0] := by rw [hw1]; exact Rec.new _ _ _
  have hfl : s.fr.length = 0 := by rw [hf]; rfl
  have h1 := h.below hb
  have c0 := h1.c0
  have c2 := h1.c2
  have c4 := h1.c4
  have hE := h.ok.E2
  rw [hfl] at c4
  rw [he] at c2
  have HRN : ∀ n, Rec 24 (w1.drewN n) w.heap.size #[.int .i64 0, .int .i64 0] := fun n => hR1.under (below_drewN _ _)
  have HG : ∀ n, IGoes w own p s (w1.drewN n) := fun n => (IGoes.still dom h hb).below (below_drewN _ _)
  have HRN := Lib.hid HRN
  have HG := Lib.hid HG
  have HB := Lib.hid hb
  have HR := Lib.hid hR1
  have HI := Lib.hid h1
  clear h h1 hb hf hfl he hR1
  go_enter Try.func16, Try.ntmps16
  go_wp2_with (first | (rw [← hw1]; clear hw1))
  go_quiet (fail)
  go_wp2_with (with_reducible refine wpList_stP (x1 := 0) (y1 := 0) rfl (.tmp 2) (.tmp 52) rfl rfl rfl (HRN.out _) ?_; intro w5 hR5 hF5)
  refine bodyPost_ret (res_ct rfl rfl (hR5.load idT rfl)) rfl ?_
  refine ⟨rfl, IGoes.res dom HB.out (Nat.le_refl _) HR.out.lt (IGoes.still (fun x hx => Nat.lt_of_lt_of_le (dom x hx) HB.out.size) HI.out (below_drewN _ _)) hF5⟩

theorem Take_next (dom : ∀ x, own x → x < w.heap.size) (h : IAt w own p gv av fv s) (hf : s.fr = []) (he : s.g.length ≠ s.E) :
    Calls Try.prog 16 #[.pointer (some ⟨p, 0, none⟩)] w fun e w' => e = .returned (.tuple #[idv ((s.g.length : Int), 0), .int .i64 0]) ∧ IGoes w own p (s.push 0) w' := by
  obtain ⟨A, c, rfl⟩ := own_sl h.gens
  obtain ⟨A4, c4', rfl⟩ := own_sl h.free
  obtain ⟨w1, hw1⟩ : ∃ w1, w1 = w.alloc (.cells #[.int .i64 0, .int .i64 0] 24) := ⟨_, rfl⟩
  have hb : Below w.heap.size w w1 := by rw [hw1]; exact (Below.refl _ _).alloc (Nat.le_refl _) _
  have hR1 : Rec 24 w1 w.heap.size #[.int .i64 0, .int .i64 0] := by rw [hw1]; exact Rec.new _ _ _
  have hfl : s.fr.length = 0 := by rw [hf]; rfl
  have h1 := h.below hb
  have c0 := h1.c0
  have c2 := h1.c2
  have c4 := h1.c4
  have hE := h.ok.E2
  have hl := h.ok.len
  have hne : ¬ ((s.g.length : Int) = s.E) := by omega
  rw [hfl] at c4
  have CU : ∀ n, Calls Try.prog 30 #[.pointer (some ⟨p, 0, none⟩), .int .i64 0] (w1.drewN n) fun e w' => e = .returned (.tuple #[]) ∧ IGoes (w1.drewN n) own p (s.push 0) w' := fun n =>
    use_any (w := w1.drewN n) (fun x hx => Nat.lt_of_lt_of_le (dom x hx) hb.size) (h1.below (below_drewN _ _)) 0 (by omega) ⟨Int.le_refl _, by have := h.ok.L1; omega⟩
  have CU := Lib.hid CU
  have hgl : (s.push 0).g.length = s.g.length + 1 := by simp [NS.push]
  have hg0 : (s.push 0).g.getD s.g.length 0 = 0 := by simp [NS.push, List.getD_eq_getElem?_getD]
  obtain ⟨n, hn⟩ : ∃ n, n = s.g.length := ⟨_, rfl⟩
  rw [← hn] at hne hgl hg0 c2 hl ⊢
  have HB := Lib.hid hb
  have HR := Lib.hid hR1
  have HN := Lib.hid hn
  have HG0 := Lib.hid hg0
  have HGL := Lib.hid hgl
  clear h h1 hb hf hfl he hn hR1 hg0 hgl
  go_enter Try.func16, Try.ntmps16
  go_wp2_with (first | (rw [← hw1]; clear hw1))
  go_quiet (fail)
  go_wp2_with fail
  refine (CU.out _).mono ?_
  rintro e w2 ⟨rfl, hG⟩
  replace hG := IGoes.pre (below_drewN _ _) hG
  have hR2 := IGoes.rec_ (w := w) dom HR.out (Nat.le_refl _) hG
  have hG' := hG
  obtain ⟨_, own', _, _, gv', av', fv', I2⟩ := hG'
  obtain ⟨A2, c2', rfl⟩ := own_sl I2.gens
  have k2 := I2.c2
  rw [HGL.out] at k2
  have CI := id_any I2 n (by rw [HGL.out]; omega)
  rw [HG0.out] at CI
  have CI := Lib.hid CI
  have HG := Lib.hid hG
  have HR2 := Lib.hid hR2
  clear hG hR2 I2 c0 c2 c4
  go_wp2_with (first
    | (go_at_call 34; refine CI.out.mono ?_; rintro e w3 ⟨rfl, hB3⟩; have HR3 := Lib.hid (HR2.out.under hB3); have HG3 := Lib.hid (HG.out.below hB3); clear hB3)
    | (with_reducible refine wpList_stP (x1 := n) (y1 := 0) rfl (.tmp 2) (.tmp 62) rfl rfl rfl HR3.out ?_; intro w5 hR5 hF5))
  refine bodyPost_ret (res_ct rfl rfl (hR5.load idT rfl)) rfl ?_
  exact ⟨rfl, IGoes.res dom HB.out (Nat.le_refl _) HR.out.lt HG3.out hF5⟩

theorem Take_free (dom : ∀ x, own x → x < w.heap.size) (h : IAt w own p gv av fv s) (hf : s.fr ≠ []) :
    Calls Try.prog 16 #[.pointer (some ⟨p, 0, none⟩)] w fun e w' => e = .returned (.tuple #[idv (s.fr.getLastD 0, s.g.getD (s.fr.getLastD 0).toNat 0), .int .i64 0]) ∧ IGoes w own p s.take.1 w' := by
  have htk := NS.take_free hf
  have hll := NS.liveL_free h.ok hf
  have hok := NS.take_ok h.ok
  obtain ⟨q0, q1, q2, q3⟩ := h.ok.fz _ (NS.last_mem hf)
  have hsp := NS.fr_last hf
  obtain ⟨m, hm⟩ : ∃ m, m = s.fr.dropLast.length := ⟨_, rfl⟩
  have hlen : s.fr.length = m + 1 := by rw [hsp, hm]; simp
  obtain ⟨j, hj⟩ : ∃ j : Nat, s.fr.getLastD 0 = (j : Int) := ⟨(s.fr.getLastD 0).toNat, by omega⟩
  rw [hj] at htk hll q1 hsp ⊢
  rw [Int.toNat_natCast] at hll htk ⊢
  have hjl : j < s.g.length := by omega
  have hm1 : m ≤ 1024 := by have := h.ok.few; omega
  obtain ⟨A, c, rfl⟩ := own_sl h.gens
  obtain ⟨A3, c3', rfl, _, _, hr3⟩ := own_open h.ali
  obtain ⟨g3, rfl, hg3, hcell3, hfz3⟩ := hr3 (by omega)
  obtain ⟨A4, c4', rfl, hc4, _, hr4⟩ := own_open h.free
  obtain ⟨g4, rfl, hg4, hcell4, hfz4⟩ := hr4 (by omega)
  obtain ⟨w1, hw1⟩ : ∃ w1, w1 = w.alloc (.cells #[.int .i64 0, .int .i64 0] 24) := ⟨_, rfl⟩
  have hb : Below w.heap.size w w1 := by rw [hw1]; exact (Below.refl _ _).alloc (Nat.le_refl _) _
  have hR1 : Rec 24 w1 w.heap.size #[.int .i64 0, .int .i64 0] := by rw [hw1]; exact Rec.new _ _ _
  have h1 := h.below hb
  have c4 := h1.c4
  have z4 := h1.fz 4
  rw [hlen] at c4 hc4 hcell4
  have d4 := (hb.cell (p := ⟨g4, m, none⟩) hg4).trans (hcell4 m (by omega))
  have e4 : (s.fr.map (Value.int .i64))[m]? = some (.int .i64 j) := by
    rw [hsp, List.map_append, List.getElem?_append_right (by simp [hm])]
    simp [hm]
  rw [e4] at d4
  -- the free row shorter by one
  obtain ⟨w2, hw2⟩ : ∃ w2, w2 = w1.setCell ⟨p, 4, none⟩ (.slice (some ⟨g4, 0, none⟩) m c4') := ⟨_, rfl⟩
  have hp2 : Fr own w w2 := (Fr.ofBelow own hb).trans (by rw [hw2]; exact Fr.setCell w1 (p := ⟨p, 4, none⟩) h.ownp _)
  have hr2 : Rec 58 w2 p #[.int .i64 s.E, .int .i64 s.L, .slice A s.g.length c, .slice (some ⟨g3, 0, none⟩) s.g.length c3', .slice (some ⟨g4, 0, none⟩) m c4'] := by rw [hw2]; exact h1.mem.set 4 _
  have o2 := own_set (i := 4) (u := .slice (some ⟨g4, 0, none⟩) m c4') h1.gens (own_not h1.gens h1.mem (by decide))
  have l2 := own_set (i := 4) (u := .slice (some ⟨g4, 0, none⟩) m c4') h1.ali (own_not h1.ali h1.mem (by decide))
  have f2 := own_set (i := 4) (u := .slice (some ⟨g4, 0, none⟩) m c4') h1.free (own_not h1.free h1.mem (by decide))
  rw [← hw2] at o2 l2 f2
  have f2' : w2.ownsRow 0 3 1 (.slice (some ⟨g4, 0, none⟩) m c4') m (s.fr.dropLast.map (Value.int .i64)) := by
    rw [hlen] at f2
    rw [hsp, List.map_append] at f2
    exact ownsRow_pop (by simp [hm]) f2
  have k3 : w2.cell? ⟨p, 3, none⟩ = some (.slice (some ⟨g3, 0, none⟩) s.g.length c3') := hr2.at_ 3
  have d3 := l2.cellAt j (by omega)
  rw [List.getElem?_map, List.getElem?_eq_getElem (by rw [s.liveL_len]; exact hjl)] at d3
  simp only [Option.map_some] at d3
  have z3 := l2.frozenAt j
  -- and the index alive
  obtain ⟨w3, hw3⟩ : ∃ w3, w3 = w2.setCell ⟨g3, j, none⟩ (.bool true) := ⟨_, rfl⟩
  have hst := l2.stored j (.bool true)
  rw [← hw3] at hst
  obtain ⟨l3, hgr3⟩ := hst
  have hset : (s.liveL.map Value.bool).set j (.bool true) = s.take.1.liveL.map Value.bool := by rw [hll, List.map_set]
  rw [hset] at l3
  have hp3 : g3 ≠ p := fun e => own_not l2 hr2 (by decide) (by rw [← e]; rfl)
  have hr3' := rec_kept hr2 hgr3 (fun e => hp3 (by injection e))
  have o3 := own_kept o2 hgr3 (fun x hx e => by
    obtain ⟨C, hC⟩ := own_tagI l2 (x := x) (by rw [← hx]; rfl)
    exact own_not o2 hC (by decide) e)
  have f3 := own_kept f2' hgr3 (fun x hx e => by
    obtain ⟨C, hC⟩ := own_tagI l2 (x := x) (by rw [← hx]; rfl)
    exact own_not f2' hC (by decide) e)
  have hF3 : Fr own w1 w3 := (show Fr own w1 w2 by rw [hw2]; exact Fr.setCell w1 (p := ⟨p, 4, none⟩) h.ownp _).trans (Fr.grown hgr3 (fun x hx => h.owna x (by rw [← hx]; rfl)))
  have I3 : IAt w3 own p (.slice A s.g.length c) (.slice (some ⟨g3, 0, none⟩) s.g.length c3') (.slice (some ⟨g4, 0, none⟩) m c4') s.take.1 := {
    blk := by rw [htk]; exact hr3'
    gens := by rw [htk]; exact o3
    ali := by rw [show s.take.1.g.length = s.g.length by rw [htk]]; exact l3
    free := by rw [show s.take.1.fr = s.fr.dropLast by rw [htk], ← hm]; exact f3
    apart := fun x hx e => h.apart x hx (by rw [← e]; rfl)
    ownp := h.ownp
    owng := h.owng
    owna := h.owna
    ownf := fun x hx => h.ownf x (by rw [← hx]; rfl)
    ok := hok }
  have dom1 : ∀ x, own x → x < w1.heap.size := fun x hx => Nat.lt_of_lt_of_le (dom x hx) hb.size
  have hG3 : IGoes w1 own p s.take.1 w3 := IGoes.of dom1 hF3 I3
  have CI := id_any I3 j (by rw [show s.take.1.g.length = s.g.length by rw [htk]]; exact hjl)
  rw [show s.take.1.g = s.g by rw [htk]] at CI
  obtain ⟨z, hz⟩ : ∃ z, z = s.g.getD j 0 := ⟨_, rfl⟩
  rw [← hz] at CI ⊢
  clear hz
  have hR3 := IGoes.rec_ (w := w) dom hR1 (Nat.le_refl _) hG3
  have CJ := Lib.hid CI
  clear CI
  have HG3 := Lib.hid hG3
  have HR3 := Lib.hid hR3
  have HB := Lib.hid hb
  have HR := Lib.hid hR1
  have HW1 := Lib.hid hw1
  have HW2 := Lib.hid hw2
  have HW3 := Lib.hid hw3
  have hc4' : m + 1 ≤ c4' := hc4
  clear h h1 hb hR1 hw1 hw2 hw3 hp2 hr2 o2 l2 f2 f2' hset hgr3 hr3' o3 f3 hF3 I3 hG3 hR3 l3 hll hok htk hsp hm hlen hj e4 hcell3 hcell4 hfz3 hfz4 hr3 hr4 q0 q1 q2 q3 hp3 dom1 hf
  go_enter Try.func16, Try.ntmps16
  go_wp2_with (first
    | (rw [← HW1.out])
    | (rw [← HW2.out])
    | (rw [← HW3.out])
    | (go_at_call 34; refine CJ.out.mono ?_; rintro e w4 ⟨rfl, hB4⟩; have HR4 := Lib.hid (HR3.out.under hB4); have HG4 := Lib.hid (HG3.out.below hB4); clear hB4)
    | (with_reducible refine wpList_stP (x1 := j) (y1 := z) rfl (.tmp 2) (.tmp 41) rfl rfl rfl HR4.out ?_; intro w5 hR5 hF5))
  refine bodyPost_ret (res_ct rfl rfl (hR5.load idT rfl)) rfl ?_
  exact ⟨rfl, IGoes.res dom HB.out (Nat.le_refl _) HR.out.lt HG4.out hF5⟩

theorem Take_any (dom : ∀ x, own x → x < w.heap.size) (h : IAt w own p gv av fv s) :
    Calls Try.prog 16 #[.pointer (some ⟨p, 0, none⟩)] w fun e w' => e = .returned (.tuple #[idv s.take.2.1, .int .i64 s.take.2.2]) ∧ IGoes w own p s.take.1 w' := by
  by_cases hf : s.fr = []
  · by_cases he : s.g.length = s.E
    · rw [NS.take_full hf he]; exact Take_full dom h hf he
    · rw [NS.take_push hf he]; exact Take_next dom h hf he
  · have := Take_free dom h hf
    rw [NS.take_free hf] at this ⊢
    exact this
end
end Go.Proofs.Ytldabjgnnmoneaa
