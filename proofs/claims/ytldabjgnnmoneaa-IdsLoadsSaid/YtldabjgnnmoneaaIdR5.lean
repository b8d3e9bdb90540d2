/- The reference's Take: of a free index, and of the next one. -/
import Derived.Test.YtldabjgnnmoneaaIdR4
namespace Go.Proofs.Ytldabjgnnmoneaa
open Go.RowKit

theorem getD_dropLast (l : List Int) (i : Nat) (h : i < l.dropLast.length) : l.dropLast.getD i 0 = l.getD i 0 := by
  rw [List.getD_eq_getElem?_getD, List.getD_eq_getElem?_getD, List.getElem?_dropLast, if_pos (by simpa using h)]

section
variable {K : Nat → Prop} {w : World} {d : Rv} {s : NS}

set_option maxHeartbeats 1000000 in
theorem RTake_free (h : RS K w d s) (ok : s.Ok) (hf : s.fr ≠ []) :
    Calls Try.prog 24 #[d.v] w (RLeft K w s.take.1 s.take.2.1 s.take.2.2) := by
  have htk := NS.take_free hf
  obtain ⟨q0, q1, q2, q3⟩ := ok.fz _ (NS.last_mem hf)
  have hsp := NS.fr_last hf
  obtain ⟨m, hm⟩ : ∃ m, m = s.fr.dropLast.length := ⟨_, rfl⟩
  have hlen : s.fr.length = m + 1 := by rw [hsp, hm]; simp
  have hm1 : m ≤ 1024 := by have := ok.few; omega
  obtain ⟨j, hj⟩ : ∃ j : Nat, s.fr.getLastD 0 = (j : Int) := ⟨(s.fr.getLastD 0).toNat, by omega⟩
  rw [hj] at htk q1 hsp
  rw [Int.toNat_natCast] at htk
  have hjl : j < s.g.length := by omega
  obtain ⟨E, L, GA, gn, gc, FA, fn, fc⟩ := d
  have hgn := h.gn
  have hfn := h.fn
  simp only at hgn hfn
  rw [hlen] at hfn
  subst hfn
  obtain ⟨b, o, hFA, hbw, hc⟩ := h.f.1.2 (Nat.succ_pos m)
  obtain ⟨b2, o2, hGA, hbw2, hc2⟩ := h.g.1.2 (by simp only; omega)
  simp only at hFA hGA
  subst hFA hGA
  have d0 := hc m (by omega)
  have e0 : s.fr.getD m 0 = (j : Int) := by
    rw [hsp, List.getD_eq_getElem?_getD, List.getElem?_append_right (by omega)]
    simp [hm]
  rw [e0] at d0
  have d2 := hc2 j hjl
  obtain ⟨z, hz⟩ : ∃ z, z = s.g.getD j 0 := ⟨_, rfl⟩
  rw [← hz] at d2 htk
  have hfc := h.fc
  simp only at hfc
  have hjg : j < gn := by omega
  rw [htk]
  have H := Lib.hid h
  have HS := Lib.hid hlen
  have HM := Lib.hid hm
  have HGN := Lib.hid hgn
  clear h hgn hc hc2 hsp hm e0 hz htk hlen hj q0 q1 q2 q3 hf hjl
  show Calls _ _ #[.agg #[.int .i64 E, .int .i64 L, .slice (some ⟨b2, o2, none⟩) gn gc, .slice (some ⟨b, o, none⟩) (m + 1) fc]] w _
  obtain ⟨hb, hA1, hB1, hC1⟩ := three_new w 30 30 24 #[.int .i64 E, .int .i64 L, .slice (some ⟨b2, o2, none⟩) gn gc, .slice (some ⟨b, o, none⟩) (m + 1) fc] #[.int .i64 0, .int .i64 0, .slice none 0 0, .slice none 0 0] #[.int .i64 0, .int .i64 0]
  obtain ⟨w1, hw1⟩ : ∃ w1, w1 = ((w.alloc (.cells #[.int .i64 E, .int .i64 L, .slice (some ⟨b2, o2, none⟩) gn gc, .slice (some ⟨b, o, none⟩) (m + 1) fc] 30)).alloc (.cells #[.int .i64 0, .int .i64 0, .slice none 0 0, .slice none 0 0] 30)).alloc (.cells #[.int .i64 0, .int .i64 0] 24) := ⟨_, rfl⟩
  rw [← hw1] at hb hA1 hB1 hC1
  have c3 : w1.cell? ⟨w.heap.size, 3, none⟩ = some (.slice (some ⟨b, o, none⟩) (m + 1) fc) := hA1.at_ 3
  have z3 := hA1.fz 3
  have d1 := (hb.cell (p := ⟨b, o + m, none⟩) hbw).trans d0
  obtain ⟨w2, hw2⟩ : ∃ w2, w2 = w1.setCell ⟨w.heap.size, 3, none⟩ (.slice (some ⟨b, o, none⟩) m fc) := ⟨_, rfl⟩
  have hF2 : Fr (· = w.heap.size) w1 w2 := by rw [hw2]; exact Fr.setCell (own := (· = w.heap.size)) w1 (p := ⟨w.heap.size, 3, none⟩) rfl _
  have hA2 : Rec 30 w2 w.heap.size #[.int .i64 E, .int .i64 L, .slice (some ⟨b2, o2, none⟩) gn gc, .slice (some ⟨b, o, none⟩) m fc] := by rw [hw2]; exact hA1.set 3 _
  have hB2 := hB1.fr hF2 (fun e => by have e' : w.heap.size + 1 = w.heap.size := e; omega)
  have hC2 := hC1.fr hF2 (fun e => by have e' : w.heap.size + 2 = w.heap.size := e; omega)
  have bw2 : Below w.heap.size w w2 := hb.trans (hF2.toBelow (fun x hx => by rw [show x = w.heap.size from hx]; exact Nat.le_refl _) hb.size)
  have k2 := (bw2.cell (p := ⟨b2, o2 + j, none⟩) hbw2).trans d2
  have a0 : w2.cell? ⟨w.heap.size, 0, none⟩ = some (.int .i64 E) := hA2.at_ 0
  have a1 : w2.cell? ⟨w.heap.size, 1, none⟩ = some (.int .i64 L) := hA2.at_ 1
  have a2 : w2.cell? ⟨w.heap.size, 2, none⟩ = some (.slice (some ⟨b2, o2, none⟩) gn gc) := hA2.at_ 2
  have a3 : w2.cell? ⟨w.heap.size, 3, none⟩ = some (.slice (some ⟨b, o, none⟩) m fc) := hA2.at_ 3
  have p0 : w2.cell? ⟨w.heap.size + 1, 0, none⟩ = some (.int .i64 0) := hB2.at_ 0
  have p1 : w2.cell? ⟨w.heap.size + 1, 1, none⟩ = some (.int .i64 0) := hB2.at_ 1
  have p2 : w2.cell? ⟨w.heap.size + 1, 2, none⟩ = some (.slice none 0 0) := hB2.at_ 2
  have p3 : w2.cell? ⟨w.heap.size + 1, 3, none⟩ = some (.slice none 0 0) := hB2.at_ 3
  have f0 := hB2.fz 0
  have f1 := hB2.fz 1
  have f2 := hB2.fz 2
  have f3 := hB2.fz 3
  have t0 : w2.cell? ⟨w.heap.size + 2, 0, none⟩ = some (.int .i64 0) := hC2.at_ 0
  have t1 : w2.cell? ⟨w.heap.size + 2, 1, none⟩ = some (.int .i64 0) := hC2.at_ 1
  have u0 := hC2.fz 0
  have u1 := hC2.fz 1
  obtain ⟨s1, s2, s3⟩ := stores_two (a0 := .int .i64 E) (a1 := .int .i64 L) (a2 := .slice (some ⟨b2, o2, none⟩) gn gc) (a3 := .slice (some ⟨b, o, none⟩) m fc) (b0 := .int .i64 j) (b1 := .int .i64 z) hB2 hC2 (by omega)
  have S1 := Lib.hid s1
  have S2 := Lib.hid s2
  have S3 := Lib.hid s3
  have BW2 := Lib.hid bw2
  have HW1 := Lib.hid hw1
  have HW2 := Lib.hid hw2
  clear hb hA1 hB1 hC1 hw1 hw2 hF2 hA2 hB2 hC2 bw2 s1 s2 s3 d0 d2
  go_enter Try.func24, Try.ntmps24
  go_wp2_with (first
    | (rw [← HW1.out])
    | (rw [← HW2.out]))
  go_region
  all_goals go_wp2
  all_goals refine bodyPost_ret (res_cct rfl rfl (S1.out.load rsT rfl) rfl (S2.out.load idT rfl)) rfl ?_
  all_goals
    have hB := BW2.out.trans (S3.out.toBelow (fun x hx => by rcases hx with h | h <;> (rw [h]; omega)) BW2.out.size)
    have hR := H.out.below hB
    refine ⟨⟨E, L, some ⟨b2, o2, none⟩, gn, gc, some ⟨b, o, none⟩, m, fc⟩, rfl, ?_, hB⟩
    refine { E := hR.E, L := hR.L, gn := hR.gn, fn := HM.out, g := hR.g.mono (fun x hx => .inl hx), gc := hR.gc, fc := by have := hR.fc; simp only at this ⊢; omega, f := ⟨⟨HM.out.symm, fun hp => ?_⟩, fun _ b' o' e => ?_⟩ }
    · obtain ⟨b', o', e, hlt, hc⟩ := hR.f.1.2 (Nat.succ_pos m)
      refine ⟨b', o', e, hlt, fun i hi => ?_⟩
      have hi' : i < s.fr.dropLast.length := hi
      have h1 := hc i (by have := HM.out; have := HS.out; omega)
      rw [h1, getD_dropLast _ _ hi']
    · exact .inl (hR.f.2 (Nat.succ_pos m) b' o' e)
end
end Go.Proofs.Ytldabjgnnmoneaa
