/- The reference's Take of the next index; every Take. -/
import Derived.Test.YtldabjgnnmoneaaIdR5
namespace Go.Proofs.Ytldabjgnnmoneaa
open Go.RowKit

section
variable {K : Nat → Prop} {w : World} {d : Rv} {s : NS}

set_option maxHeartbeats 1000000 in
theorem RTake_next (h : RS K w d s) (ok : s.Ok) (hf : s.fr = []) (he : s.g.length ≠ s.E) :
    Calls Try.prog 24 #[d.v] w (RLeft K w (s.push 0) ((s.g.length : Int), 0) 0) := by
  obtain ⟨i0, hi0, hz0, hz1, hz2⟩ := info_parts intT.info
  obtain ⟨E, L, GA, gn, gc, FA, fn, fc⟩ := d
  have hgn := h.gn
  have hfn := h.fn
  have hE := h.E
  simp only at hgn hfn hE
  rw [hf] at hfn
  have hfn0 : fn = 0 := by simpa using hfn
  subst hfn0
  have hE2 := ok.E2
  have hl := ok.len
  have hne : ¬ ((gn : Int) = E) := by omega
  have hg2 : gn ≤ 1024 := by omega
  have hgr := h.g.1
  simp only at hgr
  rw [← hgn]
  have H := Lib.hid h
  have HGN := Lib.hid hgn
  have HF := Lib.hid hf
  clear h hfn hE he hE2 hl hf
  show Calls _ _ #[.agg #[.int .i64 E, .int .i64 L, .slice GA gn gc, .slice FA 0 fc]] w _
  obtain ⟨hb, hA1, hB1, hC1⟩ := three_new w 30 30 24 #[.int .i64 E, .int .i64 L, .slice GA gn gc, .slice FA 0 fc] #[.int .i64 0, .int .i64 0, .slice none 0 0, .slice none 0 0] #[.int .i64 0, .int .i64 0]
  obtain ⟨w1, hw1⟩ : ∃ w1, w1 = ((w.alloc (.cells #[.int .i64 E, .int .i64 L, .slice GA gn gc, .slice FA 0 fc] 30)).alloc (.cells #[.int .i64 0, .int .i64 0, .slice none 0 0, .slice none 0 0] 30)).alloc (.cells #[.int .i64 0, .int .i64 0] 24) := ⟨_, rfl⟩
  rw [← hw1] at hb hA1 hB1 hC1
  have hs1 : w.heap.size + 3 = w1.heap.size := by rw [hw1]; simp
  have c0 : w1.cell? ⟨w.heap.size, 0, none⟩ = some (.int .i64 E) := hA1.at_ 0
  have c2 : w1.cell? ⟨w.heap.size, 2, none⟩ = some (.slice GA gn gc) := hA1.at_ 2
  have c3 : w1.cell? ⟨w.heap.size, 3, none⟩ = some (.slice FA 0 fc) := hA1.at_ 3
  -- the empty row laid
  obtain ⟨wa, hwa⟩ : ∃ wa, wa = w1.alloc (.cells #[] 3) := ⟨_, rfl⟩
  have ba : Below w1.heap.size w1 wa := by rw [hwa]; exact (Below.refl _ _).alloc (Nat.le_refl _) _
  have hoa : wa.ownsRow w1.heap.size 3 1 (.slice (some ⟨w1.heap.size, 0, none⟩) 0 0) 0 [] := by rw [hwa]; exact own_empty w1 w1.heap.size 3 (Nat.le_refl _)
  have hra := (hgr.below hb).below ba
  have a2 : wa.cell? ⟨w.heap.size, 2, none⟩ = some (.slice GA gn gc) := (hA1.under ba).at_ 2
  have hA1a := hA1.under ba
  have hB1a := hB1.under ba
  have hC1a := hC1.under ba
  have HW1 := Lib.hid hw1
  have HWA := Lib.hid hwa
  have HB := Lib.hid hb
  have HS1 := Lib.hid hs1
  have HA1 := Lib.hid hA1a
  have HB1 := Lib.hid hB1a
  have HC1 := Lib.hid hC1a
  have BA := Lib.hid ba
  clear hw1 hwa hb hs1 hA1 hB1 hC1 hA1a hB1a hC1a ba hgr hgn
  go_enter Try.func24, Try.ntmps24
  go_wp2_with (first
    | (rw [← HW1.out])
    | (rw [← HWA.out])
    | (at_builtin; refine wpList_appI _ intT rfl (.tmp 40) (.tmp 42) rfl w1.heap.size _ 0 [] rfl hoa GA gn gc s.g rfl hra (by omega) BA.out.size ?_))
  intro v2 w2 ho2 hg2'
  try rw [List.nil_append, Nat.zero_add] at ho2
  obtain ⟨A2, c2', rfl⟩ := own_sl ho2
  have b2 : Below w1.heap.size w1 w2 := BA.out.trans (below_own hoa BA.out.size hg2')
  have hA2 := (HA1.out.below (below_own hoa BA.out.size hg2') (by have := HS1.out; omega))
  have hB2 := (HB1.out.below (below_own hoa BA.out.size hg2') (by have := HS1.out; omega))
  have hC2 := (HC1.out.below (below_own hoa BA.out.size hg2') (by have := HS1.out; omega))
  -- and the new one's block
  obtain ⟨wb, hwb⟩ : ∃ wb, wb = w2.alloc (.cells #[.int .i64 0] 3) := ⟨_, rfl⟩
  have bb : Below w2.heap.size w2 wb := by rw [hwb]; exact (Below.refl _ _).alloc (Nat.le_refl _) _
  have hob := own_keep ho2 bb
  have hnew : ∀ k u, [Value.int .i64 0][k]? = some u → wb.cell? ((⟨w2.heap.size, 0, none⟩ : Addr).add k) = some u := by rw [hwb]; exact cell_one_new _ _ _
  have hone : ∀ u ∈ [Value.int .i64 0], u.oneCell' = true := fun u hu => by rw [List.mem_singleton.1 hu]; rfl
  have hsb : w1.heap.size ≤ wb.heap.size := Nat.le_trans b2.size bb.size
  have HWB := Lib.hid hwb
  have HAB := Lib.hid (hA2.under bb)
  have HBB := Lib.hid (hB2.under bb)
  have HCB := Lib.hid (hC2.under bb)
  have B2 := Lib.hid b2
  have BB := Lib.hid bb
  clear hwb b2 bb hA2 hB2 hC2 ho2 hg2' hoa hra
  go_wp2_with (first
    | (rw [← HWB.out])
    | (at_builtin; refine wpList_append_own_at _ rfl (.tmp 43) (.tmp 44) 28 rfl w1.heap.size 3 i0 (.int .i64 0) 1 8 Try.underlying28 hi0 hz0 hz1 hz2 rfl (by decide) (.slice A2 gn c2') gn (s.g.map (Value.int .i64)) rfl hob ⟨w2.heap.size, 0, none⟩ 1 1 [.int .i64 0] rfl rfl hnew hone (by unfold maxLen; omega) (by omega) hsb ?_))
  intro v3 w3 ho3 hg3 _ _
  obtain ⟨A3, c3', rfl⟩ := own_sl ho3
  have bg3 := below_own hob hsb hg3
  have hA3 := HAB.out.below bg3 (by have := HS1.out; omega)
  have hB3 := HBB.out.below bg3 (by have := HS1.out; omega)
  have hC3 := HCB.out.below bg3 (by have := HS1.out; omega)
  have k2 : w3.cell? ⟨w.heap.size, 2, none⟩ = some (.slice GA gn gc) := hA3.at_ 2
  have z2 := hA3.fz 2
  obtain ⟨w4, hw4⟩ : ∃ w4, w4 = w3.setCell ⟨w.heap.size, 2, none⟩ (.slice A3 (gn + 1) c3') := ⟨_, rfl⟩
  have hF4 : Fr (· = w.heap.size) w3 w4 := by rw [hw4]; exact Fr.setCell (own := (· = w.heap.size)) w3 (p := ⟨w.heap.size, 2, none⟩) rfl _
  have hA4 : Rec 30 w4 w.heap.size #[.int .i64 E, .int .i64 L, .slice A3 (gn + 1) c3', .slice FA 0 fc] := by rw [hw4]; exact hA3.set 2 _
  have hB4 := hB3.fr hF4 (fun e => by have e' : w.heap.size + 1 = w.heap.size := e; omega)
  have hC4 := hC3.fr hF4 (fun e => by have e' : w.heap.size + 2 = w.heap.size := e; omega)
  have b3 : Below w.heap.size w w3 := HB.out.trans (((B2.out.trans (BB.out.mono B2.out.size)).trans bg3).mono HB.out.size)
  have b4 : Below w.heap.size w w4 := b3.trans (hF4.toBelow (fun x hx => by rw [show x = w.heap.size from hx]; exact Nat.le_refl _) b3.size)
  have ho4 := own_fr ho3 hF4 (fun x hx e => by have := (ho3.lt x hx).1; have e' : x = w.heap.size := e; have := HS1.out; omega)
  have a0 : w4.cell? ⟨w.heap.size, 0, none⟩ = some (.int .i64 E) := hA4.at_ 0
  have a1 : w4.cell? ⟨w.heap.size, 1, none⟩ = some (.int .i64 L) := hA4.at_ 1
  have a2' : w4.cell? ⟨w.heap.size, 2, none⟩ = some (.slice A3 (gn + 1) c3') := hA4.at_ 2
  have a3 : w4.cell? ⟨w.heap.size, 3, none⟩ = some (.slice FA 0 fc) := hA4.at_ 3
  have p0 : w4.cell? ⟨w.heap.size + 1, 0, none⟩ = some (.int .i64 0) := hB4.at_ 0
  have p1 : w4.cell? ⟨w.heap.size + 1, 1, none⟩ = some (.int .i64 0) := hB4.at_ 1
  have p2 : w4.cell? ⟨w.heap.size + 1, 2, none⟩ = some (.slice none 0 0) := hB4.at_ 2
  have p3 : w4.cell? ⟨w.heap.size + 1, 3, none⟩ = some (.slice none 0 0) := hB4.at_ 3
  have f0 := hB4.fz 0
  have f1 := hB4.fz 1
  have f2 := hB4.fz 2
  have f3 := hB4.fz 3
  have t0 : w4.cell? ⟨w.heap.size + 2, 0, none⟩ = some (.int .i64 0) := hC4.at_ 0
  have t1 : w4.cell? ⟨w.heap.size + 2, 1, none⟩ = some (.int .i64 0) := hC4.at_ 1
  have u0 := hC4.fz 0
  have u1 := hC4.fz 1
  obtain ⟨s1, s2, s3⟩ := stores_two (a0 := .int .i64 E) (a1 := .int .i64 L) (a2 := .slice A3 (gn + 1) c3') (a3 := .slice FA 0 fc) (b0 := .int .i64 gn) (b1 := .int .i64 0) hB4 hC4 (by omega)
  have S1 := Lib.hid s1
  have S2 := Lib.hid s2
  have S3 := Lib.hid s3
  have B4 := Lib.hid b4
  have HO4 := Lib.hid ho4
  have HW4 := Lib.hid hw4
  clear hA3 hB3 hC3 hw4 hF4 hA4 hB4 hC4 b3 b4 ho3 ho4 s1 s2 s3 hg3 bg3 hob hnew hone
  go_wp2_with (first | (rw [← HW4.out]))
  go_region
  all_goals go_wp2
  all_goals refine bodyPost_ret (res_cct rfl rfl (S1.out.load rsT rfl) rfl (S2.out.load idT rfl)) rfl ?_
  all_goals
    have bS3 := S3.out.toBelow (B := w.heap.size) (fun x hx => by rcases hx with h | h <;> (rw [h]; omega)) B4.out.size
    have hB := B4.out.trans bS3
    have hR := H.out.below hB
    have ho5 : _ := own_fr HO4.out S3.out (fun x hx e => by have := (HO4.out.lt x hx).1; have := HS1.out; rcases e with e | e <;> omega)
    have hmap : s.g.map (Value.int .i64) ++ [.int .i64 0] = (s.push 0).g.map (Value.int .i64) := by simp [NS.push]
    rw [hmap] at ho5
    obtain ⟨A', c', e', hc', hm', hk'⟩ := IRk.of_own ho5
    cases e'
    have hs1 := HS1.out
    exact ⟨⟨E, L, A3, gn + 1, c3', FA, 0, fc⟩, rfl, { E := hR.E, L := hR.L, gn := (by show gn + 1 = (s.push 0).g.length; rw [HGN.out]; simp [NS.push]), fn := hR.fn, g := hk'.mono (fun x hx => .inr ⟨by omega, hx.2⟩), f := hR.f.mono (fun x hx => .inl hx), gc := hc', fc := hR.fc }, hB⟩

theorem RTake_any (h : RS K w d s) (ok : s.Ok) : Calls Try.prog 24 #[d.v] w (RLeft K w s.take.1 s.take.2.1 s.take.2.2) := by
  by_cases hf : s.fr = []
  · by_cases he : s.g.length = s.E
    · rw [NS.take_full hf he]; exact RTake_full h ok hf he
    · rw [NS.take_push hf he]; exact RTake_next h ok hf he
  · exact RTake_free h ok hf
end
end Go.Proofs.Ytldabjgnnmoneaa
