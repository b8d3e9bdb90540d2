/- IdR8 -/
import Derived.Test.YthiknmhkdeicjaaGreatDoorQs1
import Derived.Test.YthiknmhkdeicjaaGreatDoorQs22
import Derived.Deep.RegionHeld3
namespace Go.Proofs.YthiknmhkdeicjaaGreatDoor
open Go.RowKit
set_option maxRecDepth 20000
section
variable {K : Nat -> Prop} {w : World} {d : Rv} {s : NS}
set_option maxHeartbeats 4000000 in
theorem RGive_more (h : RS K w d s) (ok : s.Ok) (i gen : Int) (ha : s.alive i gen = true) (hlt : gen + 1 < s.L) :
  Calls Tryz.prog 94 #[d.v, idv (i, gen)] w (GLeft K w (s.give i gen).1 0) := by
 obtain ⟨i0, hi0, hz0, hz1, hz2⟩ := info_parts intT.info
 have hgv := NS.give_yes ha
 obtain ⟨⟨q0, q1, q2, q3⟩, q4⟩ := NS.alive_iff.1 ha
 obtain ⟨j, rfl⟩ : ∃ j : Nat, i = (j : Int) := ⟨i.toNat, by omega⟩
 rw [Int.toNat_natCast] at hgv q3 q4
 have hjg : j < s.g.length := by omega
 have hgz := ok.gD j
 rw [q4] at hgz q3
 have hL2 := ok.L2
 have hg0 : (0 : Int) <= gen := hgz.1
 have hg1 : gen < 1073741824 := by omega
 have hfew := ok.few
 obtain ⟨E, L, GA, gn, gc, FA, fn, fc⟩ := d
 have hgn := h.gn
 have hfn := h.fn
 have hL := h.L
 simp only at hgn hfn hL
 have hj : j < gn := by omega
 have hfn1 : fn <= 1024 := by omega
 have hgn1 : gn <= 1024 := by have := ok.len; have := ok.E2; omega
 have hdec : decide (gen + 1 < L) = true := by rw [hL]; exact decide_eq_true hlt
 have hgr := h.g.1
 have hfr := h.f.1
 simp only at hgr hfr
 have H := hi_ h
 have HGV := hi_ hgv
 have HGN := hi_ hgn
 have HFN := hi_ hfn
 have HQ4 := hi_ q4
 have HJ := hi_ hjg
 have HLT := hi_ hlt
 show Calls _ _ #[.agg #[.int .i64 E, .int .i64 L, .slice GA gn gc, .slice FA fn fc], .agg #[.int .i64 j, .int .i64 gen]] w _
 obtain ⟨hb, hA1, hB1, hC1⟩ := three_new w 140 39 140 #[.int .i64 E, .int .i64 L, .slice GA gn gc, .slice FA fn fc] #[.int .i64 j, .int .i64 gen] #[.int .i64 0, .int .i64 0, .slice none 0 0, .slice none 0 0]
 obtain ⟨w1, hw1⟩ : ∃ w1, w1 = ((w.alloc (.cells #[.int .i64 E, .int .i64 L, .slice GA gn gc, .slice FA fn fc] 140)).alloc (.cells #[.int .i64 j, .int .i64 gen] 39)).alloc (.cells #[.int .i64 0, .int .i64 0, .slice none 0 0, .slice none 0 0] 140) := ⟨_, rfl⟩
 rw [<- hw1] at hb hA1 hB1 hC1
 have hs1 : w.heap.size + 3 = w1.heap.size := by rw [hw1]; simp
 have CA := RAlive_any (h.below hb) (by omega) (j : Int) gen
 rw [ha] at CA
 simp only [Rv.v, idv] at CA
 have CB := hi_ CA
 have HB := hi_ hb
 have HA1 := hi_ hA1
 have HB1 := hi_ hB1
 have HC1 := hi_ hC1
 have HGR := hi_ hgr
 have HFR := hi_ hfr
 clear CA hb hA1 hB1 hC1 h ha hgv hgn hfn q4 hjg hgr hfr q0 q1 q2 q3 hgz hL2 hL hlt
 go_enter Tryz.func94, Tryz.ntmps94
 go_wp2_with (first
  | (rw [<- hw1]; clear hw1)
  | (with_reducible refine wpList_ldQ rfl (.tmp 2) rfl rfl HA1.out ?_)
  | (with_reducible refine wpList_ldP rfl (.tmp 3) rfl rfl HB1.out ?_)
  | (go_at_call 143; refine CB.out.mono ?_; rintro e w2 ⟨rfl, hB2⟩; have HA2 := hi_ (HA1.out.under hB2); have HD2 := hi_ (HB1.out.under hB2); have HC2 := hi_ (HC1.out.under hB2); have hs2 := hB2.size; have HB2 := hi_ (HB.out.trans (hB2.mono HB.out.size)); have a2 : w2.cell? ⟨w.heap.size, 2, none⟩ = some (.slice GA gn gc) := HA2.out.at_ 2; have a2a : (w2.alloc (.cells #[] 3)).cell? ⟨w.heap.size, 2, none⟩ = some (.slice GA gn gc) := (HA2.out.under ((Below.refl _ _).alloc (Nat.le_refl _) _)).at_ 2; have hoa := own_empty w2 w2.heap.size 3 (Nat.le_refl _); have hra := (HGR.out.below HB2.out).below ((Below.refl _ _).alloc (Nat.le_refl _) (.cells #[] 3)); clear hB2)
  | (at_builtin; refine wpList_appI _ intT rfl (.tmp 11) (.tmp 13) rfl w2.heap.size _ 0 [] rfl hoa GA gn gc s.g rfl hra (by omega) (by simp) ?_))
 intro v3 w3 ho3 hg3
 try rw [List.nil_append, Nat.zero_add] at ho3
 obtain ⟨A3, c3', rfl, hc3, hm3, hr3⟩ := own_open ho3
 obtain ⟨g3, rfl, hg3l, hcell3, hfz3⟩ := hr3 (by omega)
 have b3 : Below w2.heap.size w2 w3 := ((Below.refl _ _).alloc (Nat.le_refl _) _).trans (below_own hoa (by simp) hg3)
 have hA3 := HA2.out.under b3
 have hD3 := HD2.out.under b3
 have hC3 := HC2.out.under b3
 have hgb := (ho3.lt g3 rfl).1
 have k2 : w3.cell? ⟨w.heap.size, 2, none⟩ = some (.slice GA gn gc) := hA3.at_ 2
 have f2 := hA3.fz 2
 -- the new row stored; then one of its cells
 obtain ⟨w4, hw4⟩ : ∃ w4, w4 = w3.setCell ⟨w.heap.size, 2, none⟩ (.slice (some ⟨g3, 0, none⟩) gn c3') := ⟨_, rfl⟩
 have hF4 : Fr (· = w.heap.size) w3 w4 := by rw [hw4]; exact Fr.setCell (own := (· = w.heap.size)) w3 (p := ⟨w.heap.size, 2, none⟩) rfl _
 have hA4 : Rec 140 w4 w.heap.size #[.int .i64 E, .int .i64 L, .slice (some ⟨g3, 0, none⟩) gn c3', .slice FA fn fc] := by rw [hw4]; exact hA3.set 2 _
 have hD4 := hD3.fr hF4 (fun e => by have e' : w.heap.size + 1 = w.heap.size := e; omega)
 have hC4 := hC3.fr hF4 (fun e => by have e' : w.heap.size + 2 = w.heap.size := e; omega)
 have ho4 := own_fr ho3 hF4 (fun x hx e => by have := (ho3.lt x hx).1; have e' : x = w.heap.size := e; omega)
 have d4 : w4.cell? ⟨g3, j, none⟩ = some (.int .i64 gen) := by
  rw [ho4.cellAt j (by omega), List.getElem?_map, List.getElem?_eq_getElem HJ.out]
  rw [<- HQ4.out]
  simp [List.getD, List.getElem?_eq_getElem HJ.out]
 have z4 := ho4.frozenAt j
 have a4 : w4.cell? ⟨w.heap.size, 2, none⟩ = some (.slice (some ⟨g3, 0, none⟩) gn c3') := hA4.at_ 2
 have t4 : w4.cell? ⟨w.heap.size + 1, 0, none⟩ = some (.int .i64 j) := hD4.at_ 0
 obtain ⟨w5, hw5⟩ : ∃ w5, w5 = w4.setCell ⟨g3, j, none⟩ (.int .i64 (gen + 1)) := ⟨_, rfl⟩
 have hst := ho4.stored j (.int .i64 (gen + 1))
 rw [<- hw5] at hst
 obtain ⟨ho5, hgr5⟩ := hst
 rw [<- List.map_set] at ho5
 have hF5 : Fr (· = g3) w4 w5 := Fr.grown hgr5 (fun x hx => by injection hx with hx; exact hx.symm)
 have hA5 := hA4.fr hF5 (fun e => by have e' : w.heap.size = g3 := e; omega)
 have hD5 := hD4.fr hF5 (fun e => by have e' : w.heap.size + 1 = g3 := e; omega)
 have hC5 := hC4.fr hF5 (fun e => by have e' : w.heap.size + 2 = g3 := e; omega)
 have b4 : Below w.heap.size w w4 := (HB2.out.trans (b3.mono HB2.out.size)).trans (hF4.toBelow (fun x hx => by rw [show x = w.heap.size from hx]; exact Nat.le_refl _) (by have := HB2.out.size; have := b3.size; omega))
 have b5 : Below w.heap.size w w5 := b4.trans (hF5.toBelow (fun x hx => by rw [show x = g3 from hx]; omega) b4.size)
 have a52 : w5.cell? ⟨w.heap.size, 2, none⟩ = some (.slice (some ⟨g3, 0, none⟩) gn c3') := hA5.at_ 2
 have a51 : w5.cell? ⟨w.heap.size, 1, none⟩ = some (.int .i64 L) := hA5.at_ 1
 have t5 : w5.cell? ⟨w.heap.size + 1, 0, none⟩ = some (.int .i64 j) := hD5.at_ 0
 have d5 : w5.cell? ⟨g3, j, none⟩ = some (.int .i64 (gen + 1)) := by
  rw [ho5.cellAt j (by omega), List.getElem?_map, List.getElem?_set_self HJ.out]
  rfl
 have HW4 := hi_ hw4
 have HW5 := hi_ hw5
 have HA5 := hi_ hA5
 have HD5 := hi_ hD5
 have HC5 := hi_ hC5
 have HO5 := hi_ ho5
 have B5 := hi_ b5
 have HGB := hi_ hgb
 clear hw4 hw5 hA3 hD3 hC3 hA4 hD4 hC4 hF4 hF5 ho3 ho4 ho5 hgr5 hg3 b3 b4 b5 hr3 hcell3 hfz3 hA5 hD5 hC5 hoa hra a2 a2a
 go_wp2_with (first
  | (rw [<- HW4.out])
  | (rw [<- HW5.out]))
 go_quiet (fail)
 obtain ⟨w6, hw6⟩ : ∃ w6, w6 = w5.drewN nq := ⟨_, rfl⟩
 have b6 : Below w5.heap.size w5 w6 := by rw [hw6]; exact below_drewNi _ _
 rw [<- hw6]
 clear hw6
 have HA6 := hi_ (HA5.out.under b6)
 have HD6 := hi_ (HD5.out.under b6)
 have HC6 := hi_ (HC5.out.under b6)
 have HO6 := hi_ (own_keep HO5.out b6)
 have B6 := hi_ (B5.out.trans (b6.mono B5.out.size))
 clear b6 HA5 HD5 HC5 HO5 B5 HA1 HB1 HC1 HA2 HC2 HD2 a4 t4 d4 z4 k2 f2
 have b6E : Below w6.heap.size w6 (w6.alloc (.cells #[] 3)) := (Below.refl _ _).alloc (Nat.le_refl _) _
 have b6J : Below w6.heap.size w6 (w6.alloc (.cells #[.int .i64 (j : Int)] 3)) := (Below.refl _ _).alloc (Nat.le_refl _) _
 have b6EJ : Below w6.heap.size w6 ((w6.alloc (.cells #[] 3)).alloc (.cells #[.int .i64 (j : Int)] 3)) := ((Below.refl _ _).alloc (Nat.le_refl _) _).alloc (by simp) _
 have b6JE : Below w6.heap.size w6 ((w6.alloc (.cells #[.int .i64 (j : Int)] 3)).alloc (.cells #[] 3)) := ((Below.refl _ _).alloc (Nat.le_refl _) _).alloc (by simp) _
 have qB6 : w6.drew.cell? ⟨w.heap.size, 3, none⟩ = some (.slice FA fn fc) := HA6.out.at_ 3
 have s6 : w6.drew.cell? ⟨w.heap.size + 1, 0, none⟩ = some (.int .i64 j) := HD6.out.at_ 0
 have qBE : (w6.alloc (.cells #[] 3)).drew.cell? ⟨w.heap.size, 3, none⟩ = some (.slice FA fn fc) := (HA6.out.under b6E).at_ 3
 have sE : (w6.alloc (.cells #[] 3)).drew.cell? ⟨w.heap.size + 1, 0, none⟩ = some (.int .i64 j) := (HD6.out.under b6E).at_ 0
 have qBJ : (w6.alloc (.cells #[.int .i64 (j : Int)] 3)).drew.cell? ⟨w.heap.size, 3, none⟩ = some (.slice FA fn fc) := (HA6.out.under b6J).at_ 3
 have sJ : (w6.alloc (.cells #[.int .i64 (j : Int)] 3)).drew.cell? ⟨w.heap.size + 1, 0, none⟩ = some (.int .i64 j) := (HD6.out.under b6J).at_ 0
 have qBEJ : ((w6.alloc (.cells #[] 3)).alloc (.cells #[.int .i64 (j : Int)] 3)).drew.cell? ⟨w.heap.size, 3, none⟩ = some (.slice FA fn fc) := (HA6.out.under b6EJ).at_ 3
 have sEJ : ((w6.alloc (.cells #[] 3)).alloc (.cells #[.int .i64 (j : Int)] 3)).drew.cell? ⟨w.heap.size + 1, 0, none⟩ = some (.int .i64 j) := (HD6.out.under b6EJ).at_ 0
 have qBJE : ((w6.alloc (.cells #[.int .i64 (j : Int)] 3)).alloc (.cells #[] 3)).drew.cell? ⟨w.heap.size, 3, none⟩ = some (.slice FA fn fc) := (HA6.out.under b6JE).at_ 3
 have sJE : ((w6.alloc (.cells #[.int .i64 (j : Int)] 3)).alloc (.cells #[] 3)).drew.cell? ⟨w.heap.size + 1, 0, none⟩ = some (.int .i64 j) := (HD6.out.under b6JE).at_ 0
 have oE : (w6.alloc (.cells #[] 3)).drew.ownsRow w6.heap.size 3 1 (.slice (some ⟨w6.heap.size, 0, none⟩) 0 0) 0 [] := own_empty w6 w6.heap.size 3 (Nat.le_refl _)
 have oEJ : ((w6.alloc (.cells #[] 3)).alloc (.cells #[.int .i64 (j : Int)] 3)).drew.ownsRow w6.heap.size 3 1 (.slice (some ⟨w6.heap.size, 0, none⟩) 0 0) 0 [] := (own_empty w6 w6.heap.size 3 (Nat.le_refl _)).alloc _
 have oJE : ((w6.alloc (.cells #[.int .i64 (j : Int)] 3)).alloc (.cells #[] 3)).drew.ownsRow w6.heap.size 3 1 (.slice (some ⟨w6.heap.size + 1, 0, none⟩) 0 0) 0 [] := by
  have := own_empty (w6.alloc (.cells #[.int .i64 (j : Int)] 3)) w6.heap.size 3 (by simp)
  rw [World.size_alloc] at this
  exact this
 have RFE : Hid (IRd (w6.alloc (.cells #[] 3)).drew FA fn s.fr) := hi_ ((HFR.out.below B6.out).below b6E.drew)
 have BDE : Hid (Below w6.heap.size w6 (w6.alloc (.cells #[] 3)).drew) := hi_ b6E.drew
 have OWE := hi_ oE
 have RFEJ : Hid (IRd ((w6.alloc (.cells #[] 3)).alloc (.cells #[.int .i64 (j : Int)] 3)).drew FA fn s.fr) := hi_ ((HFR.out.below B6.out).below b6EJ.drew)
 have BDEJ : Hid (Below w6.heap.size w6 ((w6.alloc (.cells #[] 3)).alloc (.cells #[.int .i64 (j : Int)] 3)).drew) := hi_ b6EJ.drew
 have OWEJ := hi_ oEJ
 have RFJE : Hid (IRd ((w6.alloc (.cells #[.int .i64 (j : Int)] 3)).alloc (.cells #[] 3)).drew FA fn s.fr) := hi_ ((HFR.out.below B6.out).below b6JE.drew)
 have BDJE : Hid (Below w6.heap.size w6 ((w6.alloc (.cells #[.int .i64 (j : Int)] 3)).alloc (.cells #[] 3)).drew) := hi_ b6JE.drew
 have OWJE := hi_ oJE
 have nEJ : ((w6.alloc (.cells #[] 3)).alloc (.cells #[.int .i64 (j : Int)] 3)).drew.cell? ⟨w6.heap.size + 1, 0, none⟩ = some (.int .i64 j) := by
  have := (Rec.new (w6.alloc (.cells #[] 3)) 3 #[.int .i64 (j : Int)]).at_ 0
  rw [World.size_alloc] at this
  exact this
 have nJE : ((w6.alloc (.cells #[.int .i64 (j : Int)] 3)).alloc (.cells #[] 3)).drew.cell? ⟨w6.heap.size, 0, none⟩ = some (.int .i64 j) := ((Rec.new w6 3 #[.int .i64 (j : Int)]).under ((Below.refl _ _).alloc (Nat.le_refl _) _)).at_ 0
 have HONE : Hid (∀ u ∈ [Value.int .i64 (j : Int)], u.oneCell' = true) := hi_ (fun u hu => by rw [List.mem_singleton.1 hu]; rfl)
 have HON2 : Hid (∀ (W : World) (q : Nat), W.cell? ⟨q, 0, none⟩ = some (.int .i64 (j : Int)) -> ∀ k u, [Value.int .i64 (j : Int)][k]? = some u -> W.cell? ((⟨q, 0, none⟩ : Addr).add k) = some u) := hi_ (fun W q hq k u hu => by
  match k, hu with
  | 0, hu => simp at hu; subst hu; rw [Addr.add_lit]; exact hq)
 have NEJ := hi_ nEJ
 have NJE := hi_ nJE
 clear oE oEJ oJE nEJ nJE b6E b6J b6EJ b6JE a52 a51 t5 d5 hi0 hz0 hz1 hz2
 go_wp2_with fail
 have TL : ∀ (w9 wz : World) (A8 : Option Addr) (c8 : Nat), w9.ownsRow w2.heap.size 3 1 (.slice (some ⟨g3, 0, none⟩) gn c3') gn ((s.g.set j (gen + 1)).map (Value.int .i64)) -> w9.ownsRow w6.heap.size 3 1 (.slice A8 (fn + 1) c8) (fn + 1) (s.fr.map (Value.int .i64) ++ [.int .i64 (j : Int)]) ->
   Below w.heap.size w w9 -> w.heap.size + 3 <= w6.heap.size -> Fr (· = w.heap.size + 2) w9 wz ->
   GLeft K w (s.give j gen).1 0 (.returned (.tuple #[.agg #[.int .i64 E, .int .i64 L, .slice (some ⟨g3, 0, none⟩) gn c3', .slice A8 (fn + 1) c8], .int .i64 0])) wz := fun w9 wz A8 c8 hG9 hO9 hB9 hs6 hFz => by
  have hB : Below w.heap.size w wz := hB9.trans (hFz.toBelow (fun x hx => by rw [show x = w.heap.size + 2 from hx]; omega) hB9.size)
  have hR := H.out.below hB
  have hgz := own_fr hG9 hFz (fun x hx e => by have := (hG9.lt x hx).1; have e' : x = w.heap.size + 2 := e; have := HB.out.size; omega)
  have hoz := own_fr hO9 hFz (fun x hx e => by have := (hO9.lt x hx).1; have e' : x = w.heap.size + 2 := e; omega)
  have hg' : (s.give j gen).1.g = s.g.set j (gen + 1) := by rw [HGV.out]
  have hf' : (s.give j gen).1.fr = s.fr ++ [(j : Int)] := by rw [HGV.out]; simp [HLT.out]
  have hmap : s.fr.map (Value.int .i64) ++ [.int .i64 (j : Int)] = (s.fr ++ [(j : Int)]).map (Value.int .i64) := by simp
  rw [hmap] at hoz
  obtain ⟨A', c', e', hc', hm', hk'⟩ := IRk.of_own hgz
  cases e'
  obtain ⟨B', b', e', hb', hbm', hbk'⟩ := IRk.of_own hoz
  cases e'
  exact ⟨⟨E, L, some ⟨g3, 0, none⟩, gn, c3', A8, fn + 1, c8⟩, rfl, { E := by rw [HGV.out]; exact hR.E, L := by rw [HGV.out]; exact hR.L, gn := by rw [hg']; simpa using HGN.out, fn := by rw [hf']; have := HFN.out; simp; omega, g := by rw [hg']; exact hk'.mono (fun x hx => .inr ⟨by have := HB.out.size; omega, hx.2⟩), f := by rw [hf']; exact hbk'.mono (fun x hx => .inr ⟨by omega, hx.2⟩), gc := hc', fc := hb' }, hB⟩
 have TL := hi_ TL
 refine wp_region_held_drew (S := (fun w' => w'.cell? ⟨w.heap.size + 1, 0, none⟩ = some (.int .i64 j))) (by kernel_rfl) s6 (fun hHeld => ?_)
 refine wpAnyH_take (i := 1) (oi := ⟨some 34, .fieldAddr 140 (.tmp 2) 3, 0, "ref.go:77", #[], none⟩) (v := ?_) rfl (by kernel_rfl) (by kernel_rfl) (by kernel_rfl) (fun _ _ _ h => h) (Or.inl ⟨by rfl, ?_⟩) (by assumption) ?_
 rotate_left 1
 ·intro w' hSw; (try dsimp only at hSw); go_simp; (try with_reducible rfl)
 simp only [Act.put, sA_, sB_, sC_]
 refine wpAnyH_take (i := 4) (oi := ⟨some 37, .fieldAddr 39 (.tmp 3) 0, 0, "ref.go:77", #[], none⟩) (v := ?_) rfl (by kernel_rfl) (by kernel_rfl) (by kernel_rfl) (fun _ _ _ h => h) (Or.inl ⟨by rfl, ?_⟩) (by assumption) ?_
 rotate_left 1
 ·intro w' hSw; (try dsimp only at hSw); go_simp; (try with_reducible rfl)
 simp only [Act.put, sA_, sB_, sC_]
 refine wpAnyH_take (i := 5) (oi := ⟨some 38, .load 3 (.tmp 37), 3, "ref.go:77", #[⟨4, .data⟩], none⟩) (v := ?_) rfl (by kernel_rfl) (by kernel_rfl) (by kernel_rfl) (fun _ _ _ h => h) (Or.inl ⟨by rfl, ?_⟩) (by assumption) ?_
 rotate_left 1
 ·intro w' hSw; (try dsimp only at hSw); go_simp; (try with_reducible rfl)
 simp only [Act.put, sA_, sB_, sC_]
 refine wpAnyH_ready (rs := [0, 2, 6]) (by kernel_rfl) (by simp) ?_
 refine AllReadyH.cons (o := ⟨some 33, .buildSlice 34 0 #[], 34, "ref.go:77", #[], none⟩) rfl (fun K' hK => ?c1) (AllReadyH.cons (o := ⟨some 35, .load 34 (.tmp 34), 34, "ref.go:77", #[⟨1, .data⟩], none⟩) rfl (fun K' hK => ?c2) (AllReadyH.cons (o := ⟨some 39, .buildSlice 34 1 #[(0, .tmp 38)], 34, "ref.go:77", #[⟨5, .data⟩], none⟩) rfl (fun K' hK => ?c3) AllReadyH.nil))
 case' c1 =>
  go_simp
  refine hK.out _ _ sE (fun hHeld => ?_)
  clear hK K'
  try simp only [Act.put, sA_, sB_, sC_]
  refine wpAnyH_ready (rs := [2, 6]) (by kernel_rfl) (by simp) ?_
  refine AllReadyH.cons (o := ⟨some 35, .load 34 (.tmp 34), 34, "ref.go:77", #[⟨1, .data⟩], none⟩) rfl (fun K' hK => ?c4) (AllReadyH.cons (o := ⟨some 39, .buildSlice 34 1 #[(0, .tmp 38)], 34, "ref.go:77", #[⟨5, .data⟩], none⟩) rfl (fun K' hK => ?c5) AllReadyH.nil)
  case' c4 =>
   go_simp
   refine hK.out _ _ sE (fun hHeld => ?_)
   clear hK K'
   try simp only [Act.put, sA_, sB_, sC_]
   refine wpAnyH_ready (rs := [3, 6]) (by kernel_rfl) (by simp) ?_
   refine AllReadyH.cons (o := ⟨some 36, .call { callee := .builtin .append, args := #[.tmp 33, .tmp 35], argTypes := #[34, 34] }, 34, "ref.go:77", #[⟨0, .data⟩, ⟨2, .data⟩], none⟩) rfl (fun K' hK => ?c6) (AllReadyH.cons (o := ⟨some 39, .buildSlice 34 1 #[(0, .tmp 38)], 34, "ref.go:77", #[⟨5, .data⟩], none⟩) rfl (fun K' hK => ?c7) AllReadyH.nil)
   case' c6 =>
    refine step_appI _ intT rfl (.tmp 33) (.tmp 35) rfl w6.heap.size _ 0 [] rfl OWE.out FA fn fc s.fr rfl RFE.out (by omega) BDE.out.size ?_
    intro v7 w7 ho7 hg7
    rw [List.nil_append, Nat.zero_add] at ho7
    obtain ⟨A7, c7, rfl⟩ := own_sl ho7
    have hb7 := BDE.out.trans (below_own OWE.out BDE.out.size hg7)
    have s7 : w7.cell? ⟨w.heap.size + 1, 0, none⟩ = some (.int .i64 j) := (HD6.out.under hb7).at_ 0
    have b7J : Below w7.heap.size w7 (w7.alloc (.cells #[.int .i64 (j : Int)] 3)) := (Below.refl _ _).alloc (Nat.le_refl _) _
    have HB7 := hi_ (hb7.trans (b7J.mono hb7.size))
    have s7J : (w7.alloc (.cells #[.int .i64 (j : Int)] 3)).cell? ⟨w.heap.size + 1, 0, none⟩ = some (.int .i64 j) := (HD6.out.under HB7.out).at_ 0
    have HO7 := hi_ (own_keep ho7 b7J)
    have HN7 := hi_ (HON2.out _ _ ((Rec.new w7 3 #[.int .i64 (j : Int)]).at_ 0))
    clear b7J
    clear ho7 hg7 hb7
    refine hK.out _ _ s7 (fun hHeld => ?_)
    clear hK K'
    try simp only [Act.put, sA_, sB_, sC_]
    refine wpAnyH_ready (rs := [6]) (by kernel_rfl) (by simp) ?_
    refine AllReadyH.cons (o := ⟨some 39, .buildSlice 34 1 #[(0, .tmp 38)], 34, "ref.go:77", #[⟨5, .data⟩], none⟩) rfl (fun K' hK => ?_) AllReadyH.nil
    go_simp
    refine hK.out _ _ s7J (fun hHeld => ?_)
    clear hK K'
    try simp only [Act.put, sA_, sB_, sC_]
    refine wpAnyH_ready (rs := [7]) (by kernel_rfl) (by simp) ?_
    refine AllReadyH.cons (o := ⟨some 40, .call { callee := .builtin .append, args := #[.tmp 36, .tmp 39], argTypes := #[34, 34] }, 34, "ref.go:77", #[⟨3, .data⟩, ⟨6, .data⟩, ⟨3, .chain⟩], none⟩) rfl (fun K' hK => ?_) AllReadyH.nil
    refine step_appV intT rfl (.tmp 36) (.tmp 39) rfl w6.heap.size _ fn (s.fr.map (Value.int .i64)) rfl HO7.out ⟨w7.heap.size, 0, none⟩ 1 1 [.int .i64 (j : Int)] rfl rfl HN7.out HONE.out (by omega) (by decide) HB7.out.size ?_
    intro v8 w8 ho8 hg8 _
    obtain ⟨A8, c8, rfl⟩ := own_sl ho8
    have hb8 := HB7.out.trans (below_own HO7.out HB7.out.size hg8)
    have hA8 := HA6.out.under hb8
    have k8 : w8.cell? ⟨w.heap.size, 3, none⟩ = some (.slice FA fn fc) := hA8.at_ 3
    have f8 := hA8.fz 3
    have s8 : w8.cell? ⟨w.heap.size + 1, 0, none⟩ = some (.int .i64 j) := (HD6.out.under hb8).at_ 0
    have s9 : (w8.setCell ⟨w.heap.size, 3, none⟩ (.slice A8 (fn + 1) c8)).cell? ⟨w.heap.size + 1, 0, none⟩ = some (.int .i64 j) := ((HD6.out.under hb8).fr (Fr.setCell (own := (· = w.heap.size)) w8 (p := ⟨w.heap.size, 3, none⟩) rfl _) (fun e => by have e' : w.heap.size + 1 = w.heap.size := e; omega)).at_ 0
    have HO8 := hi_ ho8
    have HB8 := hi_ hb8
    clear ho8 hb8 hA8 hg8
    refine hK.out _ _ s8 (fun hHeld => ?_)
    clear hK K'
    try simp only [Act.put, sA_, sB_, sC_]
   case' c7 =>
    go_simp
    refine hK.out _ _ sEJ (fun hHeld => ?_)
    clear hK K'
    try simp only [Act.put, sA_, sB_, sC_]
    refine wpAnyH_ready (rs := [3]) (by kernel_rfl) (by simp) ?_
    refine AllReadyH.cons (o := ⟨some 36, .call { callee := .builtin .append, args := #[.tmp 33, .tmp 35], argTypes := #[34, 34] }, 34, "ref.go:77", #[⟨0, .data⟩, ⟨2, .data⟩], none⟩) rfl (fun K' hK => ?_) AllReadyH.nil
    refine step_appI _ intT rfl (.tmp 33) (.tmp 35) rfl w6.heap.size _ 0 [] rfl OWEJ.out FA fn fc s.fr rfl RFEJ.out (by omega) BDEJ.out.size ?_
    intro v7 w7 ho7 hg7
    rw [List.nil_append, Nat.zero_add] at ho7
    obtain ⟨A7, c7, rfl⟩ := own_sl ho7
    have hb7 := BDEJ.out.trans (below_own OWEJ.out BDEJ.out.size hg7)
    have s7 : w7.cell? ⟨w.heap.size + 1, 0, none⟩ = some (.int .i64 j) := (HD6.out.under hb7).at_ 0
    have HB7 := hi_ hb7
    have HO7 := hi_ ho7
    have HN7 := hi_ (HON2.out _ _ (hg7.cell NEJ.out (fun e => by have e' := Option.some.inj e; simp at e')))
    clear ho7 hg7 hb7
    refine hK.out _ _ s7 (fun hHeld => ?_)
    clear hK K'
    try simp only [Act.put, sA_, sB_, sC_]
    refine wpAnyH_ready (rs := [7]) (by kernel_rfl) (by simp) ?_
    refine AllReadyH.cons (o := ⟨some 40, .call { callee := .builtin .append, args := #[.tmp 36, .tmp 39], argTypes := #[34, 34] }, 34, "ref.go:77", #[⟨3, .data⟩, ⟨6, .data⟩, ⟨3, .chain⟩], none⟩) rfl (fun K' hK => ?_) AllReadyH.nil
    refine step_appV intT rfl (.tmp 36) (.tmp 39) rfl w6.heap.size _ fn (s.fr.map (Value.int .i64)) rfl HO7.out ⟨w6.heap.size + 1, 0, none⟩ 1 1 [.int .i64 (j : Int)] rfl rfl HN7.out HONE.out (by omega) (by decide) HB7.out.size ?_
    intro v8 w8 ho8 hg8 _
    obtain ⟨A8, c8, rfl⟩ := own_sl ho8
    have hb8 := HB7.out.trans (below_own HO7.out HB7.out.size hg8)
    have hA8 := HA6.out.under hb8
    have k8 : w8.cell? ⟨w.heap.size, 3, none⟩ = some (.slice FA fn fc) := hA8.at_ 3
    have f8 := hA8.fz 3
    have s8 : w8.cell? ⟨w.heap.size + 1, 0, none⟩ = some (.int .i64 j) := (HD6.out.under hb8).at_ 0
    have s9 : (w8.setCell ⟨w.heap.size, 3, none⟩ (.slice A8 (fn + 1) c8)).cell? ⟨w.heap.size + 1, 0, none⟩ = some (.int .i64 j) := ((HD6.out.under hb8).fr (Fr.setCell (own := (· = w.heap.size)) w8 (p := ⟨w.heap.size, 3, none⟩) rfl _) (fun e => by have e' : w.heap.size + 1 = w.heap.size := e; omega)).at_ 0
    have HO8 := hi_ ho8
    have HB8 := hi_ hb8
    clear ho8 hb8 hA8 hg8
    refine hK.out _ _ s8 (fun hHeld => ?_)
    clear hK K'
    try simp only [Act.put, sA_, sB_, sC_]
  case' c5 =>
   go_simp
   refine hK.out _ _ sEJ (fun hHeld => ?_)
   clear hK K'
   try simp only [Act.put, sA_, sB_, sC_]
   refine wpAnyH_ready (rs := [2]) (by kernel_rfl) (by simp) ?_
   refine AllReadyH.cons (o := ⟨some 35, .load 34 (.tmp 34), 34, "ref.go:77", #[⟨1, .data⟩], none⟩) rfl (fun K' hK => ?_) AllReadyH.nil
   go_simp
   refine hK.out _ _ sEJ (fun hHeld => ?_)
   clear hK K'
   try simp only [Act.put, sA_, sB_, sC_]
   refine wpAnyH_ready (rs := [3]) (by kernel_rfl) (by simp) ?_
   refine AllReadyH.cons (o := ⟨some 36, .call { callee := .builtin .append, args := #[.tmp 33, .tmp 35], argTypes := #[34, 34] }, 34, "ref.go:77", #[⟨0, .data⟩, ⟨2, .data⟩], none⟩) rfl (fun K' hK => ?_) AllReadyH.nil
   refine step_appI _ intT rfl (.tmp 33) (.tmp 35) rfl w6.heap.size _ 0 [] rfl OWEJ.out FA fn fc s.fr rfl RFEJ.out (by omega) BDEJ.out.size ?_
   intro v7 w7 ho7 hg7
   rw [List.nil_append, Nat.zero_add] at ho7
   obtain ⟨A7, c7, rfl⟩ := own_sl ho7
   have hb7 := BDEJ.out.trans (below_own OWEJ.out BDEJ.out.size hg7)
   have s7 : w7.cell? ⟨w.heap.size + 1, 0, none⟩ = some (.int .i64 j) := (HD6.out.under hb7).at_ 0
   have HB7 := hi_ hb7
   have HO7 := hi_ ho7
   have HN7 := hi_ (HON2.out _ _ (hg7.cell NEJ.out (fun e => by have e' := Option.some.inj e; simp at e')))
   clear ho7 hg7 hb7
   refine hK.out _ _ s7 (fun hHeld => ?_)
   clear hK K'
   try simp only [Act.put, sA_, sB_, sC_]
   refine wpAnyH_ready (rs := [7]) (by kernel_rfl) (by simp) ?_
   refine AllReadyH.cons (o := ⟨some 40, .call { callee := .builtin .append, args := #[.tmp 36, .tmp 39], argTypes := #[34, 34] }, 34, "ref.go:77", #[⟨3, .data⟩, ⟨6, .data⟩, ⟨3, .chain⟩], none⟩) rfl (fun K' hK => ?_) AllReadyH.nil
   refine step_appV intT rfl (.tmp 36) (.tmp 39) rfl w6.heap.size _ fn (s.fr.map (Value.int .i64)) rfl HO7.out ⟨w6.heap.size + 1, 0, none⟩ 1 1 [.int .i64 (j : Int)] rfl rfl HN7.out HONE.out (by omega) (by decide) HB7.out.size ?_
   intro v8 w8 ho8 hg8 _
   obtain ⟨A8, c8, rfl⟩ := own_sl ho8
   have hb8 := HB7.out.trans (below_own HO7.out HB7.out.size hg8)
   have hA8 := HA6.out.under hb8
   have k8 : w8.cell? ⟨w.heap.size, 3, none⟩ = some (.slice FA fn fc) := hA8.at_ 3
   have f8 := hA8.fz 3
   have s8 : w8.cell? ⟨w.heap.size + 1, 0, none⟩ = some (.int .i64 j) := (HD6.out.under hb8).at_ 0
   have s9 : (w8.setCell ⟨w.heap.size, 3, none⟩ (.slice A8 (fn + 1) c8)).cell? ⟨w.heap.size + 1, 0, none⟩ = some (.int .i64 j) := ((HD6.out.under hb8).fr (Fr.setCell (own := (· = w.heap.size)) w8 (p := ⟨w.heap.size, 3, none⟩) rfl _) (fun e => by have e' : w.heap.size + 1 = w.heap.size := e; omega)).at_ 0
   have HO8 := hi_ ho8
   have HB8 := hi_ hb8
   clear ho8 hb8 hA8 hg8
   refine hK.out _ _ s8 (fun hHeld => ?_)
   clear hK K'
   try simp only [Act.put, sA_, sB_, sC_]
 case' c2 =>
  go_simp
  refine hK.out _ _ s6 (fun hHeld => ?_)
  clear hK K'
  try simp only [Act.put, sA_, sB_, sC_]
  refine wpAnyH_ready (rs := [0, 6]) (by kernel_rfl) (by simp) ?_
  refine AllReadyH.cons (o := ⟨some 33, .buildSlice 34 0 #[], 34, "ref.go:77", #[], none⟩) rfl (fun K' hK => ?c15) (AllReadyH.cons (o := ⟨some 39, .buildSlice 34 1 #[(0, .tmp 38)], 34, "ref.go:77", #[⟨5, .data⟩], none⟩) rfl (fun K' hK => ?c16) AllReadyH.nil)
  case' c15 =>
   go_simp
   refine hK.out _ _ sE (fun hHeld => ?_)
   clear hK K'
   try simp only [Act.put, sA_, sB_, sC_]
   refine wpAnyH_ready (rs := [3, 6]) (by kernel_rfl) (by simp) ?_
   refine AllReadyH.cons (o := ⟨some 36, .call { callee := .builtin .append, args := #[.tmp 33, .tmp 35], argTypes := #[34, 34] }, 34, "ref.go:77", #[⟨0, .data⟩, ⟨2, .data⟩], none⟩) rfl (fun K' hK => ?c17) (AllReadyH.cons (o := ⟨some 39, .buildSlice 34 1 #[(0, .tmp 38)], 34, "ref.go:77", #[⟨5, .data⟩], none⟩) rfl (fun K' hK => ?c18) AllReadyH.nil)
   case' c17 =>
    refine step_appI _ intT rfl (.tmp 33) (.tmp 35) rfl w6.heap.size _ 0 [] rfl OWE.out FA fn fc s.fr rfl RFE.out (by omega) BDE.out.size ?_
    intro v7 w7 ho7 hg7
    rw [List.nil_append, Nat.zero_add] at ho7
    obtain ⟨A7, c7, rfl⟩ := own_sl ho7
    have hb7 := BDE.out.trans (below_own OWE.out BDE.out.size hg7)
    have s7 : w7.cell? ⟨w.heap.size + 1, 0, none⟩ = some (.int .i64 j) := (HD6.out.under hb7).at_ 0
    have b7J : Below w7.heap.size w7 (w7.alloc (.cells #[.int .i64 (j : Int)] 3)) := (Below.refl _ _).alloc (Nat.le_refl _) _
    have HB7 := hi_ (hb7.trans (b7J.mono hb7.size))
    have s7J : (w7.alloc (.cells #[.int .i64 (j : Int)] 3)).cell? ⟨w.heap.size + 1, 0, none⟩ = some (.int .i64 j) := (HD6.out.under HB7.out).at_ 0
    have HO7 := hi_ (own_keep ho7 b7J)
    have HN7 := hi_ (HON2.out _ _ ((Rec.new w7 3 #[.int .i64 (j : Int)]).at_ 0))
    clear b7J
    clear ho7 hg7 hb7
    refine hK.out _ _ s7 (fun hHeld => ?_)
    clear hK K'
    try simp only [Act.put, sA_, sB_, sC_]
    refine wpAnyH_ready (rs := [6]) (by kernel_rfl) (by simp) ?_
    refine AllReadyH.cons (o := ⟨some 39, .buildSlice 34 1 #[(0, .tmp 38)], 34, "ref.go:77", #[⟨5, .data⟩], none⟩) rfl (fun K' hK => ?_) AllReadyH.nil
    go_simp
    refine hK.out _ _ s7J (fun hHeld => ?_)
    clear hK K'
    try simp only [Act.put, sA_, sB_, sC_]
    refine wpAnyH_ready (rs := [7]) (by kernel_rfl) (by simp) ?_
    refine AllReadyH.cons (o := ⟨some 40, .call { callee := .builtin .append, args := #[.tmp 36, .tmp 39], argTypes := #[34, 34] }, 34, "ref.go:77", #[⟨3, .data⟩, ⟨6, .data⟩, ⟨3, .chain⟩], none⟩) rfl (fun K' hK => ?_) AllReadyH.nil
    refine step_appV intT rfl (.tmp 36) (.tmp 39) rfl w6.heap.size _ fn (s.fr.map (Value.int .i64)) rfl HO7.out ⟨w7.heap.size, 0, none⟩ 1 1 [.int .i64 (j : Int)] rfl rfl HN7.out HONE.out (by omega) (by decide) HB7.out.size ?_
    intro v8 w8 ho8 hg8 _
    obtain ⟨A8, c8, rfl⟩ := own_sl ho8
    have hb8 := HB7.out.trans (below_own HO7.out HB7.out.size hg8)
    have hA8 := HA6.out.under hb8
    have k8 : w8.cell? ⟨w.heap.size, 3, none⟩ = some (.slice FA fn fc) := hA8.at_ 3
    have f8 := hA8.fz 3
    have s8 : w8.cell? ⟨w.heap.size + 1, 0, none⟩ = some (.int .i64 j) := (HD6.out.under hb8).at_ 0
    have s9 : (w8.setCell ⟨w.heap.size, 3, none⟩ (.slice A8 (fn + 1) c8)).cell? ⟨w.heap.size + 1, 0, none⟩ = some (.int .i64 j) := ((HD6.out.under hb8).fr (Fr.setCell (own := (· = w.heap.size)) w8 (p := ⟨w.heap.size, 3, none⟩) rfl _) (fun e => by have e' : w.heap.size + 1 = w.heap.size := e; omega)).at_ 0
    have HO8 := hi_ ho8
    have HB8 := hi_ hb8
    clear ho8 hb8 hA8 hg8
    refine hK.out _ _ s8 (fun hHeld => ?_)
    clear hK K'
    try simp only [Act.put, sA_, sB_, sC_]
   case' c18 =>
    go_simp
    refine hK.out _ _ sEJ (fun hHeld => ?_)
    clear hK K'
    try simp only [Act.put, sA_, sB_, sC_]
    refine wpAnyH_ready (rs := [3]) (by kernel_rfl) (by simp) ?_
    refine AllReadyH.cons (o := ⟨some 36, .call { callee := .builtin .append, args := #[.tmp 33, .tmp 35], argTypes := #[34, 34] }, 34, "ref.go:77", #[⟨0, .data⟩, ⟨2, .data⟩], none⟩) rfl (fun K' hK => ?_) AllReadyH.nil
    refine step_appI _ intT rfl (.tmp 33) (.tmp 35) rfl w6.heap.size _ 0 [] rfl OWEJ.out FA fn fc s.fr rfl RFEJ.out (by omega) BDEJ.out.size ?_
    intro v7 w7 ho7 hg7
    rw [List.nil_append, Nat.zero_add] at ho7
    obtain ⟨A7, c7, rfl⟩ := own_sl ho7
    have hb7 := BDEJ.out.trans (below_own OWEJ.out BDEJ.out.size hg7)
    have s7 : w7.cell? ⟨w.heap.size + 1, 0, none⟩ = some (.int .i64 j) := (HD6.out.under hb7).at_ 0
    have HB7 := hi_ hb7
    have HO7 := hi_ ho7
    have HN7 := hi_ (HON2.out _ _ (hg7.cell NEJ.out (fun e => by have e' := Option.some.inj e; simp at e')))
    clear ho7 hg7 hb7
    refine hK.out _ _ s7 (fun hHeld => ?_)
    clear hK K'
    try simp only [Act.put, sA_, sB_, sC_]
    refine wpAnyH_ready (rs := [7]) (by kernel_rfl) (by simp) ?_
    refine AllReadyH.cons (o := ⟨some 40, .call { callee := .builtin .append, args := #[.tmp 36, .tmp 39], argTypes := #[34, 34] }, 34, "ref.go:77", #[⟨3, .data⟩, ⟨6, .data⟩, ⟨3, .chain⟩], none⟩) rfl (fun K' hK => ?_) AllReadyH.nil
    refine step_appV intT rfl (.tmp 36) (.tmp 39) rfl w6.heap.size _ fn (s.fr.map (Value.int .i64)) rfl HO7.out ⟨w6.heap.size + 1, 0, none⟩ 1 1 [.int .i64 (j : Int)] rfl rfl HN7.out HONE.out (by omega) (by decide) HB7.out.size ?_
    intro v8 w8 ho8 hg8 _
    obtain ⟨A8, c8, rfl⟩ := own_sl ho8
    have hb8 := HB7.out.trans (below_own HO7.out HB7.out.size hg8)
    have hA8 := HA6.out.under hb8
    have k8 : w8.cell? ⟨w.heap.size, 3, none⟩ = some (.slice FA fn fc) := hA8.at_ 3
    have f8 := hA8.fz 3
    have s8 : w8.cell? ⟨w.heap.size + 1, 0, none⟩ = some (.int .i64 j) := (HD6.out.under hb8).at_ 0
    have s9 : (w8.setCell ⟨w.heap.size, 3, none⟩ (.slice A8 (fn + 1) c8)).cell? ⟨w.heap.size + 1, 0, none⟩ = some (.int .i64 j) := ((HD6.out.under hb8).fr (Fr.setCell (own := (· = w.heap.size)) w8 (p := ⟨w.heap.size, 3, none⟩) rfl _) (fun e => by have e' : w.heap.size + 1 = w.heap.size := e; omega)).at_ 0
    have HO8 := hi_ ho8
    have HB8 := hi_ hb8
    clear ho8 hb8 hA8 hg8
    refine hK.out _ _ s8 (fun hHeld => ?_)
    clear hK K'
    try simp only [Act.put, sA_, sB_, sC_]
  case' c16 =>
   go_simp
   refine hK.out _ _ sJ (fun hHeld => ?_)
   clear hK K'
   try simp only [Act.put, sA_, sB_, sC_]
   refine wpAnyH_ready (rs := [0]) (by kernel_rfl) (by simp) ?_
   refine AllReadyH.cons (o := ⟨some 33, .buildSlice 34 0 #[], 34, "ref.go:77", #[], none⟩) rfl (fun K' hK => ?_) AllReadyH.nil
   go_simp
   refine hK.out _ _ sJE (fun hHeld => ?_)
   clear hK K'
   try simp only [Act.put, sA_, sB_, sC_]
   refine wpAnyH_ready (rs := [3]) (by kernel_rfl) (by simp) ?_
   refine AllReadyH.cons (o := ⟨some 36, .call { callee := .builtin .append, args := #[.tmp 33, .tmp 35], argTypes := #[34, 34] }, 34, "ref.go:77", #[⟨0, .data⟩, ⟨2, .data⟩], none⟩) rfl (fun K' hK => ?_) AllReadyH.nil
   refine step_appI _ intT rfl (.tmp 33) (.tmp 35) rfl w6.heap.size _ 0 [] rfl OWJE.out FA fn fc s.fr rfl RFJE.out (by omega) BDJE.out.size ?_
   intro v7 w7 ho7 hg7
   rw [List.nil_append, Nat.zero_add] at ho7
   obtain ⟨A7, c7, rfl⟩ := own_sl ho7
   have hb7 := BDJE.out.trans (below_own OWJE.out BDJE.out.size hg7)
   have s7 : w7.cell? ⟨w.heap.size + 1, 0, none⟩ = some (.int .i64 j) := (HD6.out.under hb7).at_ 0
   have HB7 := hi_ hb7
   have HO7 := hi_ ho7
   have HN7 := hi_ (HON2.out _ _ (hg7.cell NJE.out (fun e => by have e' := Option.some.inj e; simp at e')))
   clear ho7 hg7 hb7
   refine hK.out _ _ s7 (fun hHeld => ?_)
   clear hK K'
   try simp only [Act.put, sA_, sB_, sC_]
   refine wpAnyH_ready (rs := [7]) (by kernel_rfl) (by simp) ?_
   refine AllReadyH.cons (o := ⟨some 40, .call { callee := .builtin .append, args := #[.tmp 36, .tmp 39], argTypes := #[34, 34] }, 34, "ref.go:77", #[⟨3, .data⟩, ⟨6, .data⟩, ⟨3, .chain⟩], none⟩) rfl (fun K' hK => ?_) AllReadyH.nil
   refine step_appV intT rfl (.tmp 36) (.tmp 39) rfl w6.heap.size _ fn (s.fr.map (Value.int .i64)) rfl HO7.out ⟨w6.heap.size, 0, none⟩ 1 1 [.int .i64 (j : Int)] rfl rfl HN7.out HONE.out (by omega) (by decide) HB7.out.size ?_
   intro v8 w8 ho8 hg8 _
   obtain ⟨A8, c8, rfl⟩ := own_sl ho8
   have hb8 := HB7.out.trans (below_own HO7.out HB7.out.size hg8)
   have hA8 := HA6.out.under hb8
   have k8 : w8.cell? ⟨w.heap.size, 3, none⟩ = some (.slice FA fn fc) := hA8.at_ 3
   have f8 := hA8.fz 3
   have s8 : w8.cell? ⟨w.heap.size + 1, 0, none⟩ = some (.int .i64 j) := (HD6.out.under hb8).at_ 0
   have s9 : (w8.setCell ⟨w.heap.size, 3, none⟩ (.slice A8 (fn + 1) c8)).cell? ⟨w.heap.size + 1, 0, none⟩ = some (.int .i64 j) := ((HD6.out.under hb8).fr (Fr.setCell (own := (· = w.heap.size)) w8 (p := ⟨w.heap.size, 3, none⟩) rfl _) (fun e => by have e' : w.heap.size + 1 = w.heap.size := e; omega)).at_ 0
   have HO8 := hi_ ho8
   have HB8 := hi_ hb8
   clear ho8 hb8 hA8 hg8
   refine hK.out _ _ s8 (fun hHeld => ?_)
   clear hK K'
   try simp only [Act.put, sA_, sB_, sC_]
 case' c3 =>
  go_simp
  refine hK.out _ _ sJ (fun hHeld => ?_)
  clear hK K'
  try simp only [Act.put, sA_, sB_, sC_]
  refine wpAnyH_ready (rs := [0, 2]) (by kernel_rfl) (by simp) ?_
  refine AllReadyH.cons (o := ⟨some 33, .buildSlice 34 0 #[], 34, "ref.go:77", #[], none⟩) rfl (fun K' hK => ?c26) (AllReadyH.cons (o := ⟨some 35, .load 34 (.tmp 34), 34, "ref.go:77", #[⟨1, .data⟩], none⟩) rfl (fun K' hK => ?c27) AllReadyH.nil)
  case' c26 =>
   go_simp
   refine hK.out _ _ sJE (fun hHeld => ?_)
   clear hK K'
   try simp only [Act.put, sA_, sB_, sC_]
   refine wpAnyH_ready (rs := [2]) (by kernel_rfl) (by simp) ?_
   refine AllReadyH.cons (o := ⟨some 35, .load 34 (.tmp 34), 34, "ref.go:77", #[⟨1, .data⟩], none⟩) rfl (fun K' hK => ?_) AllReadyH.nil
   go_simp
   refine hK.out _ _ sJE (fun hHeld => ?_)
   clear hK K'
   try simp only [Act.put, sA_, sB_, sC_]
   refine wpAnyH_ready (rs := [3]) (by kernel_rfl) (by simp) ?_
   refine AllReadyH.cons (o := ⟨some 36, .call { callee := .builtin .append, args := #[.tmp 33, .tmp 35], argTypes := #[34, 34] }, 34, "ref.go:77", #[⟨0, .data⟩, ⟨2, .data⟩], none⟩) rfl (fun K' hK => ?_) AllReadyH.nil
   refine step_appI _ intT rfl (.tmp 33) (.tmp 35) rfl w6.heap.size _ 0 [] rfl OWJE.out FA fn fc s.fr rfl RFJE.out (by omega) BDJE.out.size ?_
   intro v7 w7 ho7 hg7
   rw [List.nil_append, Nat.zero_add] at ho7
   obtain ⟨A7, c7, rfl⟩ := own_sl ho7
   have hb7 := BDJE.out.trans (below_own OWJE.out BDJE.out.size hg7)
   have s7 : w7.cell? ⟨w.heap.size + 1, 0, none⟩ = some (.int .i64 j) := (HD6.out.under hb7).at_ 0
   have HB7 := hi_ hb7
   have HO7 := hi_ ho7
   have HN7 := hi_ (HON2.out _ _ (hg7.cell NJE.out (fun e => by have e' := Option.some.inj e; simp at e')))
   clear ho7 hg7 hb7
   refine hK.out _ _ s7 (fun hHeld => ?_)
   clear hK K'
   try simp only [Act.put, sA_, sB_, sC_]
   refine wpAnyH_ready (rs := [7]) (by kernel_rfl) (by simp) ?_
   refine AllReadyH.cons (o := ⟨some 40, .call { callee := .builtin .append, args := #[.tmp 36, .tmp 39], argTypes := #[34, 34] }, 34, "ref.go:77", #[⟨3, .data⟩, ⟨6, .data⟩, ⟨3, .chain⟩], none⟩) rfl (fun K' hK => ?_) AllReadyH.nil
   refine step_appV intT rfl (.tmp 36) (.tmp 39) rfl w6.heap.size _ fn (s.fr.map (Value.int .i64)) rfl HO7.out ⟨w6.heap.size, 0, none⟩ 1 1 [.int .i64 (j : Int)] rfl rfl HN7.out HONE.out (by omega) (by decide) HB7.out.size ?_
   intro v8 w8 ho8 hg8 _
   obtain ⟨A8, c8, rfl⟩ := own_sl ho8
   have hb8 := HB7.out.trans (below_own HO7.out HB7.out.size hg8)
   have hA8 := HA6.out.under hb8
   have k8 : w8.cell? ⟨w.heap.size, 3, none⟩ = some (.slice FA fn fc) := hA8.at_ 3
   have f8 := hA8.fz 3
   have s8 : w8.cell? ⟨w.heap.size + 1, 0, none⟩ = some (.int .i64 j) := (HD6.out.under hb8).at_ 0
   have s9 : (w8.setCell ⟨w.heap.size, 3, none⟩ (.slice A8 (fn + 1) c8)).cell? ⟨w.heap.size + 1, 0, none⟩ = some (.int .i64 j) := ((HD6.out.under hb8).fr (Fr.setCell (own := (· = w.heap.size)) w8 (p := ⟨w.heap.size, 3, none⟩) rfl _) (fun e => by have e' : w.heap.size + 1 = w.heap.size := e; omega)).at_ 0
   have HO8 := hi_ ho8
   have HB8 := hi_ hb8
   clear ho8 hb8 hA8 hg8
   refine hK.out _ _ s8 (fun hHeld => ?_)
   clear hK K'
   try simp only [Act.put, sA_, sB_, sC_]
  case' c27 =>
   go_simp
   refine hK.out _ _ sJ (fun hHeld => ?_)
   clear hK K'
   try simp only [Act.put, sA_, sB_, sC_]
   refine wpAnyH_ready (rs := [0]) (by kernel_rfl) (by simp) ?_
   refine AllReadyH.cons (o := ⟨some 33, .buildSlice 34 0 #[], 34, "ref.go:77", #[], none⟩) rfl (fun K' hK => ?_) AllReadyH.nil
   go_simp
   refine hK.out _ _ sJE (fun hHeld => ?_)
   clear hK K'
   try simp only [Act.put, sA_, sB_, sC_]
   refine wpAnyH_ready (rs := [3]) (by kernel_rfl) (by simp) ?_
   refine AllReadyH.cons (o := ⟨some 36, .call { callee := .builtin .append, args := #[.tmp 33, .tmp 35], argTypes := #[34, 34] }, 34, "ref.go:77", #[⟨0, .data⟩, ⟨2, .data⟩], none⟩) rfl (fun K' hK => ?_) AllReadyH.nil
   refine step_appI _ intT rfl (.tmp 33) (.tmp 35) rfl w6.heap.size _ 0 [] rfl OWJE.out FA fn fc s.fr rfl RFJE.out (by omega) BDJE.out.size ?_
   intro v7 w7 ho7 hg7
   rw [List.nil_append, Nat.zero_add] at ho7
   obtain ⟨A7, c7, rfl⟩ := own_sl ho7
   have hb7 := BDJE.out.trans (below_own OWJE.out BDJE.out.size hg7)
   have s7 : w7.cell? ⟨w.heap.size + 1, 0, none⟩ = some (.int .i64 j) := (HD6.out.under hb7).at_ 0
   have HB7 := hi_ hb7
   have HO7 := hi_ ho7
   have HN7 := hi_ (HON2.out _ _ (hg7.cell NJE.out (fun e => by have e' := Option.some.inj e; simp at e')))
   clear ho7 hg7 hb7
   refine hK.out _ _ s7 (fun hHeld => ?_)
   clear hK K'
   try simp only [Act.put, sA_, sB_, sC_]
   refine wpAnyH_ready (rs := [7]) (by kernel_rfl) (by simp) ?_
   refine AllReadyH.cons (o := ⟨some 40, .call { callee := .builtin .append, args := #[.tmp 36, .tmp 39], argTypes := #[34, 34] }, 34, "ref.go:77", #[⟨3, .data⟩, ⟨6, .data⟩, ⟨3, .chain⟩], none⟩) rfl (fun K' hK => ?_) AllReadyH.nil
   refine step_appV intT rfl (.tmp 36) (.tmp 39) rfl w6.heap.size _ fn (s.fr.map (Value.int .i64)) rfl HO7.out ⟨w6.heap.size, 0, none⟩ 1 1 [.int .i64 (j : Int)] rfl rfl HN7.out HONE.out (by omega) (by decide) HB7.out.size ?_
   intro v8 w8 ho8 hg8 _
   obtain ⟨A8, c8, rfl⟩ := own_sl ho8
   have hb8 := HB7.out.trans (below_own HO7.out HB7.out.size hg8)
   have hA8 := HA6.out.under hb8
   have k8 : w8.cell? ⟨w.heap.size, 3, none⟩ = some (.slice FA fn fc) := hA8.at_ 3
   have f8 := hA8.fz 3
   have s8 : w8.cell? ⟨w.heap.size + 1, 0, none⟩ = some (.int .i64 j) := (HD6.out.under hb8).at_ 0
   have s9 : (w8.setCell ⟨w.heap.size, 3, none⟩ (.slice A8 (fn + 1) c8)).cell? ⟨w.heap.size + 1, 0, none⟩ = some (.int .i64 j) := ((HD6.out.under hb8).fr (Fr.setCell (own := (· = w.heap.size)) w8 (p := ⟨w.heap.size, 3, none⟩) rfl _) (fun e => by have e' : w.heap.size + 1 = w.heap.size := e; omega)).at_ 0
   have HO8 := hi_ ho8
   have HB8 := hi_ hb8
   clear ho8 hb8 hA8 hg8
   refine hK.out _ _ s8 (fun hHeld => ?_)
   clear hK K'
   try simp only [Act.put, sA_, sB_, sC_]
 all_goals
  refine wpAnyH_take (i := 8) (oi := ⟨some 41, .fieldAddr 140 (.tmp 2) 3, 0, "ref.go:77", #[⟨0, .phase⟩, ⟨1, .phase⟩, ⟨2, .phase⟩, ⟨3, .phase⟩, ⟨4, .phase⟩, ⟨5, .phase⟩, ⟨6, .phase⟩, ⟨7, .phase⟩], none⟩) (v := ?_) rfl (by kernel_rfl) (by kernel_rfl) (by kernel_rfl) (fun _ _ _ h => h) (Or.inl ⟨by rfl, ?_⟩) (by assumption) ?_
  rotate_left 1
  ·intro w' hSw; (try dsimp only at hSw); go_simp; (try with_reducible rfl)
  simp only [Act.put, sA_, sB_, sC_]
  refine wpAnyH_ready (rs := [9]) (by kernel_rfl) (by simp) ?_
  refine AllReadyH.cons (o := ⟨none, .store 34 (.tmp 41) (.tmp 40), 0, "ref.go:77", #[⟨8, .data⟩, ⟨7, .data⟩, ⟨7, .chain⟩, ⟨0, .phase⟩, ⟨1, .phase⟩, ⟨2, .phase⟩, ⟨3, .phase⟩, ⟨4, .phase⟩, ⟨5, .phase⟩, ⟨6, .phase⟩, ⟨7, .phase⟩], none⟩) rfl (fun K' hK => ?_) AllReadyH.nil
  go_simp
  refine hK.out _ _ s9 (fun hHeld => ?_)
  clear hK K'
  try simp only [Act.put, sA_, sB_, sC_]
  refine wpAnyH_done (by kernel_rfl) ?_ _
  obtain ⟨w9, hw9⟩ : ∃ w9, w9 = w8.setCell ⟨w.heap.size, 3, none⟩ (.slice A8 (fn + 1) c8) := ⟨_, rfl⟩
  have hF9 : Fr (· = w.heap.size) w8 w9 := by rw [hw9]; exact Fr.setCell (own := (· = w.heap.size)) w8 (p := ⟨w.heap.size, 3, none⟩) rfl _
  have HA9 : Hid (Rec 140 w9 w.heap.size #[.int .i64 E, .int .i64 L, .slice (some ⟨g3, 0, none⟩) gn c3', .slice A8 (fn + 1) c8]) := hi_ (by rw [hw9]; exact (HA6.out.under HB8.out).set 3 _)
  have HC9 := hi_ ((HC6.out.under HB8.out).fr hF9 (fun e => by have e' : w.heap.size + 2 = w.heap.size := e; omega))
  have hs6 : w.heap.size + 3 <= w6.heap.size := by have := HC6.out.lt; omega
  have HG9 := hi_ (own_fr (own_keep HO6.out HB8.out) hF9 (fun x hx e => by have := (HO6.out.lt x hx).1; have e' : x = w.heap.size := e; have := HB.out.size; omega))
  have HO9 := hi_ (own_fr HO8.out hF9 (fun x hx e => by have := (HO8.out.lt x hx).1; have e' : x = w.heap.size := e; omega))
  have HB9 := hi_ ((B6.out.trans (HB8.out.mono B6.out.size)).trans (hF9.toBelow (fun x hx => by rw [show x = w.heap.size from hx]; exact Nat.le_refl _) (by have := HB8.out.size; omega)))
  rw [<- hw9]
  clear hw9 hF9 k8 f8 HO8 HB8
  go_wp2_with (first
   | (with_reducible refine wpList_ldQ rfl (.tmp 2) rfl rfl HA9.out ?_)
   | (with_reducible refine wpList_stQ (E' := E) (L' := L) (GA' := some ⟨g3, 0, none⟩) (gn' := gn) (gc' := c3') (FA' := A8) (fn' := fn + 1) (fc' := c8) rfl (.tmp 4) (.tmp 42) rfl rfl rfl HC9.out ?_; intro wz hRz hFz))
  refine bodyPost_ret (res_ct rfl rfl (hRz.load rsT rfl)) rfl ?_
  exact TL.out _ _ _ _ HG9.out HO9.out HB9.out hs6 hFz
theorem RGive_any (h : RS K w d s) (ok : s.Ok) (i gen : Int) : Calls Tryz.prog 94 #[d.v, idv (i, gen)] w (GLeft K w (s.give i gen).1 (s.give i gen).2) := by
 cases ha : s.alive i gen
 ·rw [NS.give_no ha]
  exact RGive_no h (by have := ok.few; omega) i gen ha
 ·rw [show (s.give i gen).2 = 0 by rw [NS.give_yes ha]]
  by_cases hlt : gen + 1 < s.L
  ·exact RGive_more h ok i gen ha hlt
  ·exact RGive_old h ok i gen ha hlt
end
end Go.Proofs.YthiknmhkdeicjaaGreatDoor
