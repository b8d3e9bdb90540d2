/- EcRg -/
import Derived.Test.YthiknmhkdeicjaaGreatDoorQs1
import Derived.Test.YthiknmhkdeicjaaGreatDoorQs21
import Derived.Test.YthiknmhkdeicjaaGreatDoorQs23
namespace Go.Proofs.YthiknmhkdeicjaaGreatDoor
open Go.RowKit
set_option maxRecDepth 20000
abbrev rvZ : Array Value := #[.int .i64 0, .int .i64 0, .slice none 0 0, .slice none 0 0]
abbrev Rv.cs (d : Rv) : Array Value := #[.int .i64 d.E, .int .i64 d.L, .slice d.GA d.gn d.gc, .slice d.FA d.fn d.fc]
structure Dq (K0 : Nat -> Prop) (W0 W : World) (gG gA : Bool) (d : Rv) (s : NS) (ga : Nat) : Prop where
 b : Below W0.heap.size W0 W
 g : gG = true -> RS (fun y => K0 y \/ (W0.heap.size <= y /\ y < W.heap.size /\ (gA = true -> y ≠ ga))) W d s
 a : gA = true -> Rec 140 W ga rvZ /\ W0.heap.size <= ga
section
variable {K0 : Nat -> Prop} {W0 W W' : World} {gG gA : Bool} {d : Rv} {s : NS} {ga : Nat}
theorem Dq.start (W : World) (K0 : Nat -> Prop) (d : Rv) (s : NS) : Dq K0 W W.drew false false d s 0 := ⟨(Below.refl _ _).drew, (fun h => by cases h), (fun h => by cases h)⟩
theorem Dq.below (h : Dq K0 W0 W gG gA d s ga) (hb : Below W.heap.size W W') : Dq K0 W0 W' gG gA d s ga :=
 ⟨h.b.trans (hb.mono h.b.size), fun e => ((h.g e).below hb).mono (fun y hy => by
  rcases hy with hy | hy
  ·exact .inl hy
  ·exact .inr ⟨hy.1, Nat.lt_of_lt_of_le hy.2.1 hb.size, hy.2.2⟩), fun e => ⟨(h.a e).1.under hb, (h.a e).2⟩⟩
theorem Dq.G {d' : Rv} (h : Dq K0 W0 W false gA d s ga) (hb : Below W.heap.size W W') (hg : RS (fun y => K0 y \/ (W.heap.size <= y /\ y < W'.heap.size)) W' d' s) : Dq K0 W0 W' true gA d' s ga :=
 ⟨h.b.trans (hb.mono h.b.size), fun _ => hg.mono (fun y hy => by
  rcases hy with hy | hy
  ·exact .inl hy
  ·exact .inr ⟨Nat.le_trans h.b.size hy.1, hy.2, fun e he => by have := (h.a e).1.lt; omega⟩), fun e => ⟨(h.a e).1.under hb, (h.a e).2⟩⟩
theorem Dq.A (h : Dq K0 W0 W gG false d s ga) : Dq K0 W0 (W.alloc (.cells rvZ 140)) gG true d s W.heap.size :=
 have hb : Below W.heap.size W (W.alloc (.cells rvZ 140)) := (Below.refl _ _).alloc (Nat.le_refl _) _
 ⟨h.b.trans (hb.mono h.b.size), fun e => ((h.g e).below hb).mono (fun y hy => by
  rcases hy with hy | hy
  ·exact .inl hy
  ·exact .inr ⟨hy.1, Nat.lt_of_lt_of_le hy.2.1 hb.size, fun _ he => by omega⟩), fun _ => ⟨Rec.new W _ _, h.b.size⟩⟩
theorem Dq.X (h : Dq K0 W0 W true true d s ga) (h0 : ∀ y, K0 y -> y < W0.heap.size) {cs : Array Value} (_hR : Rec 140 W' ga cs) (hF : Fr (· = ga) W W') :
  RS (fun y => K0 y \/ (W0.heap.size <= y /\ y ≠ ga)) W' d s /\ W0.heap.size <= ga /\ Below W0.heap.size W0 W' := by
 obtain ⟨a1, a2⟩ := h.a rfl
 refine ⟨((h.g rfl).stays ⟨hF.size, fun y hy => hF.block y ?_ ?_⟩).mono (fun y hy => ?_), a2, h.b.trans (hF.toBelow (fun y hy => by rw [show y = ga from hy]; exact a2) h.b.size)⟩
 ·rcases hy with hy | hy
  ·exact Nat.lt_of_lt_of_le (h0 y hy) h.b.size
  ·exact hy.2.1
 ·intro e
  have e' : y = ga := e
  rcases hy with hy | hy
  ·have := h0 y hy; omega
  ·exact hy.2.2 rfl e'
 ·rcases hy with hy | hy
  ·exact .inl hy
  ·exact .inr ⟨hy.1, hy.2.2 rfl⟩
end
theorem RSt.names {K : Nat -> Prop} {w : World} {d : Rst} {s : Es} (h : RSt K w d s) : RS K w ⟨s.ns.E, s.ns.L, d.GA, d.gn, d.gc, d.FA, d.fn, d.fc⟩ s.ns := ⟨rfl, rfl, h.gn, h.fn, h.g, h.f, h.gc, h.fc⟩
section
variable {K : Nat -> Prop} {w : World} {d : Rst} {s : Es} {A : Option Addr} {n cap : Nat}
set_option maxHeartbeats 1000000 in
theorem RDespawn_no (h : RSt K w d s) (hn : d.en <= 1000000) (lg pg en gn i g : Int) (hp : ePlace s.ents (i, g) = none) :
  Calls Tryz.prog 40 #[cv lg pg en gn A n cap, .agg d.cs, .agg #[.int .i64 i, .int .i64 g]] w (RTold K w s 5) := by
 obtain ⟨w1, hw1, hb1, r0, r1, r2, r3⟩ := four_start w lg pg en gn A n cap d i g
 have CPL : Hid (Calls Tryz.prog 61 #[.agg d.cs, .agg #[.int .i64 i, .int .i64 g]] w1 fun e w' => e = .returned (.int .i64 (placeN (ePlace s.ents (i, g)))) /\ Below w1.heap.size w1 w') := hi_ (RPlace_any w1 d s (h.below hb1) hn i g)
 have m0 := r2.at_ 0
 have m1 := r2.at_ 1
 have H0 := hi_ h
 obtain ⟨GA, gn', gc, FA, fn, fc, EA, en', ec⟩ := d
 have HR := hi_ (And.intro r0 (And.intro r1 (And.intro hb1 (And.intro r2 r3))))
 have FIN : Hid (∀ W W', Below w.heap.size w W -> Fr (· = w.heap.size + 3) W W' -> RTold K w s 5 (.returned (.tuple #[.agg (stC GA gn' gc FA fn fc EA en' ec), .int .i64 5])) W') := hi_ fun W W' hW hF => by
  have hb : Below w.heap.size w W' := hW.trans (hF.toBelow (fun y hy => by rw [show y = w.heap.size + 3 from hy]; omega) hW.size)
  exact ⟨⟨GA, gn', gc, FA, fn, fc, EA, en', ec⟩, rfl, (H0.out.below hb).mono (fun _ hy => .inl hy), hb⟩
 clear h r0 r1 r2 r3 hb1 hn
 rw [hp] at CPL
 clear hp
 simp only [placeN] at CPL
 go_enter Tryz.func40, Tryz.ntmps40
 go_wp2_with (first
  | (rw [<- hw1]; clear hw1)
  | ((with_reducible refine wpList_ldS stT rfl rfl (.tmp 4) rfl rfl HR.out.2.1 ?_))
  | (go_at_call 61; refine CPL.out.mono ?_; rintro e w2 ⟨rfl, hb2⟩; have HB2 := hi_ (HR.out.2.2.1.trans (hb2.mono HR.out.2.2.1.size)); have R2 := hi_ (And.intro (HR.out.2.1.under hb2) (HR.out.2.2.2.2.under hb2)); clear hb2 m0 m1)
  | ((with_reducible refine wpList_ldS stT rfl rfl (.tmp 4) rfl rfl R2.out.1 ?_))
  | ((with_reducible refine wpList_stSt GA gn' gc FA fn fc EA en' ec rfl rfl (.tmp 6) (.tmp 17) rfl rfl rfl R2.out.2 ?_); intro w6 hR6 hF6))
 exact bodyPost_ret (res_ct rfl rfl (hR6.load stT rfl)) rfl (FIN.out w2 w6 HB2.out hF6)
set_option maxHeartbeats 4000000 in
theorem RDespawn_yes (h : RSt K w d s) (ok : s.ns.Ok) (hn : d.en <= 1000000) (lg pg en gn i g : Int) (hE : en = s.ns.E) (hL : gn = s.ns.L) {j : Nat} (hp : ePlace s.ents (i, g) = some j) :
  Calls Tryz.prog 40 #[cv lg pg en gn A n cap, .agg d.cs, .agg #[.int .i64 i, .int .i64 g]] w (RTold K w ⟨(s.ns.give i g).1, s.ents.eraseIdx j⟩ 0) := by
 obtain ⟨w1, hw1, hb1, r0, r1, r2, r3⟩ := four_start w lg pg en gn A n cap d i g
 obtain ⟨hj, _⟩ := ePlace_some hp
 have CPL : Hid (Calls Tryz.prog 61 #[.agg d.cs, .agg #[.int .i64 i, .int .i64 g]] w1 fun e w' => e = .returned (.int .i64 (j : Int)) /\ Below w1.heap.size w1 w') := hi_ (by
  have := RPlace_any w1 d s (h.below hb1) hn i g
  rw [hp] at this
  exact this)
 have m0 := r2.at_ 0
 have m1 := r2.at_ 1
 have H0 := hi_ (And.intro h (And.intro hn hj))
 have hel := h.en
 have hecm := h.ecm
 have hec := h.ec
 have HNM := hi_ (And.intro h.names ok)
 obtain ⟨evs, hevl, hevr, hehd⟩ := h.e
 have CNM : Hid (∀ W, Below w.heap.size w W -> Calls Tryz.prog 95 #[cv lg pg en gn A n cap, .agg d.cs] W fun e w' => e = .returned (.agg #[.int .i64 s.ns.E, .int .i64 s.ns.L, .slice d.GA d.gn d.gc, .slice d.FA d.fn d.fc]) /\ Below W.heap.size W w') := hi_ fun W _ => by
  have := RNames_any W lg pg en gn A n cap d
  rw [hE, hL] at this ⊢
  exact this
 obtain ⟨GA, gn', gc, FA, fn, fc, EA, en', ec⟩ := d
 simp only at hel hn hecm hec hevr CNM HNM
 obtain ⟨eb, eo, hEA, hkb, hblt, _⟩ := hevr.2.2 (by omega)
 subst hEA
 obtain ⟨sE, hsE⟩ : ∃ z : Int, z = s.ns.E := ⟨_, rfl⟩
 obtain ⟨sL, hsL⟩ : ∃ z : Int, z = s.ns.L := ⟨_, rfl⟩
 rw [<- hsE, <- hsL] at CNM HNM
 obtain ⟨ns', hns'⟩ : ∃ z, z = (s.ns.give i g).1 := ⟨_, rfl⟩
 obtain ⟨zc, hzc⟩ : ∃ z, z = (s.ns.give i g).2 := ⟨_, rfl⟩
 have CGV : Hid (∀ W, Below w.heap.size w W -> Calls Tryz.prog 94 #[.agg #[.int .i64 sE, .int .i64 sL, .slice GA gn' gc, .slice FA fn fc], .agg #[.int .i64 i, .int .i64 g]] W (GLeft (fun y => K y /\ y < w.heap.size) W ns' zc)) := hi_ fun W hW => by
  rw [hns', hzc]
  exact RGive_any (HNM.out.1.lt.below hW) HNM.out.2 i g
 rw [<- hns']
 have hjn : j < en' := by rw [hel]; exact hj
 have dj : decide ((j : Int) < 0) = false := decide_eq_false (by omega)
 have HR := hi_ (And.intro r0 (And.intro r1 (And.intro hb1 (And.intro r2 r3))))
 have HONE := hi_ (hehd.one (fun _ _ hx => EE.one hx.1))
 have HEV := hi_ (And.intro hevr (And.intro hehd (And.intro hel (And.intro hecm hec))))
 clear h ok r0 r1 r2 r3 hb1 hp hel hevl hevr hehd hkb hblt hns' hzc hsE hsL hE hL hecm
 go_enter Tryz.func40, Tryz.ntmps40
 go_upto_region 4 with (first
  | (rw [<- hw1]; clear hw1)
  | ((with_reducible refine wpList_ldS stT rfl rfl (.tmp 4) rfl rfl HR.out.2.1 ?_))
  | (go_at_call 61; refine CPL.out.mono ?_; rintro e w2 ⟨rfl, hb2⟩; have HB2 := hi_ (HR.out.2.2.1.trans (hb2.mono HR.out.2.2.1.size)); have R2 := hi_ (And.intro (HR.out.1.under hb2) (And.intro (HR.out.2.1.under hb2) (And.intro (HR.out.2.2.2.1.under hb2) (HR.out.2.2.2.2.under hb2)))); clear hb2 m0 m1))
 clear CPL dj
 have SS : Hid (∀ W, Below w2.heap.size w2 W -> (W.cell? ⟨w.heap.size, 0, none⟩ = some (.int .i64 lg) /\ W.cell? ⟨w.heap.size, 1, none⟩ = some (.int .i64 pg) /\ W.cell? ⟨w.heap.size, 2, none⟩ = some (.int .i64 en) /\ W.cell? ⟨w.heap.size, 3, none⟩ = some (.int .i64 gn) /\ W.cell? ⟨w.heap.size, 4, none⟩ = some (.slice A n cap)) /\ (W.cell? ⟨w.heap.size + 1, 0, none⟩ = some (.slice GA gn' gc) /\ W.cell? ⟨w.heap.size + 1, 1, none⟩ = some (.slice FA fn fc) /\ W.cell? ⟨w.heap.size + 1, 2, none⟩ = some (.slice (some ⟨eb, eo, none⟩) en' ec)) /\ W.cell? ⟨w.heap.size + 2, 0, none⟩ = some (.int .i64 i) /\ W.cell? ⟨w.heap.size + 2, 1, none⟩ = some (.int .i64 g)) := hi_ fun W hW => by
  obtain ⟨a0, a1, a2, _⟩ := R2.out
  have b0 := a0.under hW
  have b1 := a1.under hW
  have b2 := a2.under hW
  exact ⟨⟨b0.at_ 0, b0.at_ 1, b0.at_ 2, b0.at_ 3, b0.at_ 4⟩, ⟨b1.at_ 0, b1.at_ 1, b1.at_ 2⟩, b2.at_ 0, b2.at_ 1⟩
 have E0 := hi_ (Dq.start w2 (fun y => K y /\ y < w.heap.size) ⟨0, 0, none, 0, 0, none, 0, 0⟩ ns')
 have s0 := SS.out w2.drew E0.out.b
 go_cut [9] (fun av wl => ∃ (ga : Nat) (d' : Rv), av = .pointer (some ⟨ga, 0, none⟩) /\ Rec 140 wl ga d'.cs /\ RS (fun y => (K y /\ y < w.heap.size) \/ (w2.heap.size <= y /\ y ≠ ga)) wl d' ns' /\ w2.heap.size <= ga /\ Below w2.heap.size w2 wl)
 case first =>
  refine wp_region_noPanic ?_
  refine wp_region_held_drew (S := fun W => (W.cell? ⟨w.heap.size, 0, none⟩ = some (.int .i64 lg) /\ W.cell? ⟨w.heap.size, 1, none⟩ = some (.int .i64 pg) /\ W.cell? ⟨w.heap.size, 2, none⟩ = some (.int .i64 en) /\ W.cell? ⟨w.heap.size, 3, none⟩ = some (.int .i64 gn) /\ W.cell? ⟨w.heap.size, 4, none⟩ = some (.slice A n cap)) /\ (W.cell? ⟨w.heap.size + 1, 0, none⟩ = some (.slice GA gn' gc) /\ W.cell? ⟨w.heap.size + 1, 1, none⟩ = some (.slice FA fn fc) /\ W.cell? ⟨w.heap.size + 1, 2, none⟩ = some (.slice (some ⟨eb, eo, none⟩) en' ec)) /\ W.cell? ⟨w.heap.size + 2, 0, none⟩ = some (.int .i64 i) /\ W.cell? ⟨w.heap.size + 2, 1, none⟩ = some (.int .i64 g)) (by kernel_rfl) s0 (fun hHeld => ?_)
  refine wpAnyH_take (i := 0) (oi := ⟨some 19, .load 24 (.tmp 3), 24, "ref.go:65", #[], none⟩) (v := ?_) rfl (by kernel_rfl) (by kernel_rfl) (by kernel_rfl) (fun _ _ _ h => h) (Or.inl ⟨by rfl, ?_⟩) (by assumption) ?_
  rotate_left 1
  ·intro w' hSw; (try dsimp only at hSw); go_simp; (try with_reducible rfl)
  simp only [Act.put, sA_, sB_, sC_]
  refine wpAnyH_take (i := 1) (oi := ⟨some 20, .load 37 (.tmp 4), 37, "ref.go:65", #[], none⟩) (v := ?_) rfl (by kernel_rfl) (by kernel_rfl) (by kernel_rfl) (fun _ _ _ h => h) (Or.inl ⟨by rfl, ?_⟩) (by assumption) ?_
  rotate_left 1
  ·intro w' hSw; (try dsimp only at hSw); go_simp; (try with_reducible rfl)
  simp only [Act.put, sA_, sB_, sC_]
  refine wpAnyH_take (i := 3) (oi := ⟨some 22, .load 39 (.tmp 5), 39, "ref.go:65", #[], none⟩) (v := ?_) rfl (by kernel_rfl) (by kernel_rfl) (by kernel_rfl) (fun _ _ _ h => h) (Or.inl ⟨by rfl, ?_⟩) (by assumption) ?_
  rotate_left 1
  ·intro w' hSw; (try dsimp only at hSw); go_simp; (try with_reducible rfl)
  simp only [Act.put, sA_, sB_, sC_]
  refine wpAnyH_ready (rs := [2, 8]) (by kernel_rfl) (by simp) ?_
  refine AllReadyH.cons (o := ⟨some 21, .call { callee := .value (.func 95), args := #[.tmp 19, .tmp 20], argTypes := #[24, 37] }, 140, "ref.go:65", #[⟨0, .data⟩, ⟨1, .data⟩], none⟩) rfl (fun K' hK => ?_) (AllReadyH.cons (o := ⟨some 9, .alloc 140, 0, "ref.go:65", #[], none⟩) rfl (fun K' hK => ?_) AllReadyH.nil)
  ·go_simp
   go_at_call 95; refine (CNM.out w2.drew (HB2.out.trans (E0.out.b.mono HB2.out.size))).mono ?_; rintro e wN ⟨rfl, hb⟩
   have E0N := hi_ (E0.out.below hb)
   have s0N := SS.out wN E0N.out.b
   clear hb
   refine hK.out _ _ s0N (fun hHeld => ?_)
   clear hK K'
   try simp only [Act.put, sA_, sB_, sC_]
   refine wpAnyH_ready (rs := [4, 8]) (by kernel_rfl) (by simp) ?_
   refine AllReadyH.cons (o := ⟨some 23, .call { callee := .value (.func 94), args := #[.tmp 21, .tmp 22], argTypes := #[140, 39] }, 141, "ref.go:65", #[⟨2, .data⟩, ⟨3, .data⟩, ⟨2, .chain⟩], none⟩) rfl (fun K' hK => ?_) (AllReadyH.cons (o := ⟨some 9, .alloc 140, 0, "ref.go:65", #[], none⟩) rfl (fun K' hK => ?_) AllReadyH.nil)
   ·go_simp
    go_at_call 94; refine (CGV.out wN (HB2.out.trans (E0N.out.b.mono HB2.out.size))).mono ?_; rintro e wNG ⟨⟨dE, dL, dGA, dgn, dgc, dFA, dfn, dfc⟩, rfl, hRS, hb⟩
    have E0NG := hi_ (E0N.out.G hb hRS)
    have s0NG := SS.out wNG E0NG.out.b
    simp only [Rv.v]
    clear hb hRS
    refine hK.out _ _ s0NG (fun hHeld => ?_)
    clear hK K'
    try simp only [Act.put, sA_, sB_, sC_]
    refine wpAnyH_take (i := 5) (oi := ⟨some 18, .move (.tmp 23), 141, "ref.go:65", #[⟨4, .data⟩], none⟩) (v := ?_) rfl (by kernel_rfl) (by kernel_rfl) (by kernel_rfl) (fun _ _ _ h => h) (Or.inl ⟨by rfl, ?_⟩) (by assumption) ?_
    rotate_left 1
    ·intro w' hSw; (try dsimp only at hSw); go_simp; (try with_reducible rfl)
    simp only [Act.put, sA_, sB_, sC_]
    refine wpAnyH_take (i := 6) (oi := ⟨some 24, .extract (.tmp 18) 0, 140, "ref.go:65", #[⟨5, .data⟩], none⟩) (v := ?_) rfl (by kernel_rfl) (by kernel_rfl) (by kernel_rfl) (fun _ _ _ h => h) (Or.inl ⟨by rfl, ?_⟩) (by assumption) ?_
    rotate_left 1
    ·intro w' hSw; (try dsimp only at hSw); go_simp; (try with_reducible rfl)
    simp only [Act.put, sA_, sB_, sC_]
    refine wpAnyH_take (i := 7) (oi := ⟨some 25, .extract (.tmp 18) 1, 3, "ref.go:65", #[⟨5, .data⟩, ⟨9, .gcOnly .lateStores⟩], none⟩) (v := ?_) rfl (by kernel_rfl) (by kernel_rfl) (by kernel_rfl) (fun _ _ _ h => h) (Or.inl ⟨by rfl, ?_⟩) (by assumption) ?_
    rotate_left 1
    ·intro w' hSw; (try dsimp only at hSw); go_simp; (try with_reducible rfl)
    simp only [Act.put, sA_, sB_, sC_]
    refine wpAnyH_ready (rs := [8]) (by kernel_rfl) (by simp) ?_
    refine AllReadyH.cons (o := ⟨some 9, .alloc 140, 0, "ref.go:65", #[], none⟩) rfl (fun K' hK => ?_) AllReadyH.nil
    go_simp
    obtain ⟨wNGA, hwNGA⟩ : ∃ W, W = wNG.alloc (.cells rvZ 140) := ⟨_, rfl⟩
    rw [<- hwNGA]
    have E0NGA := hi_ (show Dq _ w2 wNGA _ _ _ _ _ by rw [hwNGA]; exact E0NG.out.A)
    have s0NGA := SS.out wNGA E0NGA.out.b
    clear hwNGA
    refine hK.out _ _ s0NGA (fun hHeld => ?_)
    clear hK K'
    try simp only [Act.put, sA_, sB_, sC_]
    refine wpAnyH_ready (rs := [9]) (by kernel_rfl) (by simp) ?_
    refine AllReadyH.cons (o := ⟨none, .store 140 (.tmp 9) (.tmp 24), 0, "ref.go:65", #[⟨8, .data⟩, ⟨6, .data⟩, ⟨4, .chain⟩, ⟨0, .phase⟩, ⟨1, .phase⟩, ⟨2, .phase⟩, ⟨3, .phase⟩, ⟨4, .phase⟩, ⟨5, .phase⟩, ⟨6, .phase⟩, ⟨7, .textOnly .lateStores⟩, ⟨8, .phase⟩], none⟩) rfl (fun K' hK => ?_) AllReadyH.nil
    have ea := E0NGA.out.a rfl
    refine step_stS (cs' := #[.int .i64 dE, .int .i64 dL, .slice dGA dgn dgc, .slice dFA dfn dfc]) idsT6 rfl rfl (by simp [Value.oneCell']) rfl (.tmp 9) (.tmp 24) rfl rfl rfl ea.1 ?_
    intro wX hRX hFX
    have SX := hi_ (And.intro hRX (E0NGA.out.X (fun y hy => Nat.lt_of_lt_of_le hy.2 HB2.out.size) hRX hFX))
    have s0NGAX := SS.out wX SX.out.2.2.2
    clear ea hRX hFX
    refine hK.out _ _ s0NGAX (fun hHeld => ?_)
    clear hK K'
    try simp only [Act.put]
    refine wpAnyH_take (i := 10) (oi := ⟨some 10, .assign (.tmp 25), 3, "ref.go:65", #[⟨7, .data⟩, ⟨9, .chain⟩, ⟨0, .phase⟩, ⟨1, .phase⟩, ⟨2, .phase⟩, ⟨3, .phase⟩, ⟨4, .phase⟩, ⟨5, .phase⟩, ⟨6, .phase⟩, ⟨7, .phase⟩, ⟨8, .phase⟩, ⟨9, .phase⟩], none⟩) (v := ?_) rfl (by kernel_rfl) (by kernel_rfl) (by kernel_rfl) (fun _ _ _ h => h) (Or.inl ⟨by rfl, ?_⟩) (by assumption) ?_
    rotate_left 1
    ·intro w' hSw; (try dsimp only at hSw); go_simp; (try with_reducible rfl)
    simp only [Act.put, sA_, sB_, sC_]
    refine wpAnyH_done (by kernel_rfl) ?_ _
    refine NoPanic.normal ?_
    go_wp2_with fail
    go_meet
    case' rel => exact ⟨_, ⟨dE, dL, dGA, dgn, dgc, dFA, dfn, dfc⟩, rfl, SX.out⟩
   ·go_simp
    obtain ⟨wNA, hwNA⟩ : ∃ W, W = wN.alloc (.cells rvZ 140) := ⟨_, rfl⟩
    rw [<- hwNA]
    have E0NA := hi_ (show Dq _ w2 wNA _ _ _ _ _ by rw [hwNA]; exact E0N.out.A)
    have s0NA := SS.out wNA E0NA.out.b
    clear hwNA
    refine hK.out _ _ s0NA (fun hHeld => ?_)
    clear hK K'
    try simp only [Act.put, sA_, sB_, sC_]
    refine wpAnyH_ready (rs := [4]) (by kernel_rfl) (by simp) ?_
    refine AllReadyH.cons (o := ⟨some 23, .call { callee := .value (.func 94), args := #[.tmp 21, .tmp 22], argTypes := #[140, 39] }, 141, "ref.go:65", #[⟨2, .data⟩, ⟨3, .data⟩, ⟨2, .chain⟩], none⟩) rfl (fun K' hK => ?_) AllReadyH.nil
    go_simp
    go_at_call 94; refine (CGV.out wNA (HB2.out.trans (E0NA.out.b.mono HB2.out.size))).mono ?_; rintro e wNAG ⟨⟨dE, dL, dGA, dgn, dgc, dFA, dfn, dfc⟩, rfl, hRS, hb⟩
    have E0NAG := hi_ (E0NA.out.G hb hRS)
    have s0NAG := SS.out wNAG E0NAG.out.b
    simp only [Rv.v]
    clear hb hRS
    refine hK.out _ _ s0NAG (fun hHeld => ?_)
    clear hK K'
    try simp only [Act.put, sA_, sB_, sC_]
    refine wpAnyH_take (i := 5) (oi := ⟨some 18, .move (.tmp 23), 141, "ref.go:65", #[⟨4, .data⟩], none⟩) (v := ?_) rfl (by kernel_rfl) (by kernel_rfl) (by kernel_rfl) (fun _ _ _ h => h) (Or.inl ⟨by rfl, ?_⟩) (by assumption) ?_
    rotate_left 1
    ·intro w' hSw; (try dsimp only at hSw); go_simp; (try with_reducible rfl)
    simp only [Act.put, sA_, sB_, sC_]
    refine wpAnyH_take (i := 6) (oi := ⟨some 24, .extract (.tmp 18) 0, 140, "ref.go:65", #[⟨5, .data⟩], none⟩) (v := ?_) rfl (by kernel_rfl) (by kernel_rfl) (by kernel_rfl) (fun _ _ _ h => h) (Or.inl ⟨by rfl, ?_⟩) (by assumption) ?_
    rotate_left 1
    ·intro w' hSw; (try dsimp only at hSw); go_simp; (try with_reducible rfl)
    simp only [Act.put, sA_, sB_, sC_]
    refine wpAnyH_take (i := 7) (oi := ⟨some 25, .extract (.tmp 18) 1, 3, "ref.go:65", #[⟨5, .data⟩, ⟨9, .gcOnly .lateStores⟩], none⟩) (v := ?_) rfl (by kernel_rfl) (by kernel_rfl) (by kernel_rfl) (fun _ _ _ h => h) (Or.inl ⟨by rfl, ?_⟩) (by assumption) ?_
    rotate_left 1
    ·intro w' hSw; (try dsimp only at hSw); go_simp; (try with_reducible rfl)
    simp only [Act.put, sA_, sB_, sC_]
    refine wpAnyH_ready (rs := [9]) (by kernel_rfl) (by simp) ?_
    refine AllReadyH.cons (o := ⟨none, .store 140 (.tmp 9) (.tmp 24), 0, "ref.go:65", #[⟨8, .data⟩, ⟨6, .data⟩, ⟨4, .chain⟩, ⟨0, .phase⟩, ⟨1, .phase⟩, ⟨2, .phase⟩, ⟨3, .phase⟩, ⟨4, .phase⟩, ⟨5, .phase⟩, ⟨6, .phase⟩, ⟨7, .textOnly .lateStores⟩, ⟨8, .phase⟩], none⟩) rfl (fun K' hK => ?_) AllReadyH.nil
    have ea := E0NAG.out.a rfl
    refine step_stS (cs' := #[.int .i64 dE, .int .i64 dL, .slice dGA dgn dgc, .slice dFA dfn dfc]) idsT6 rfl rfl (by simp [Value.oneCell']) rfl (.tmp 9) (.tmp 24) rfl rfl rfl ea.1 ?_
    intro wX hRX hFX
    have SX := hi_ (And.intro hRX (E0NAG.out.X (fun y hy => Nat.lt_of_lt_of_le hy.2 HB2.out.size) hRX hFX))
    have s0NAGX := SS.out wX SX.out.2.2.2
    clear ea hRX hFX
    refine hK.out _ _ s0NAGX (fun hHeld => ?_)
    clear hK K'
    try simp only [Act.put]
    refine wpAnyH_take (i := 10) (oi := ⟨some 10, .assign (.tmp 25), 3, "ref.go:65", #[⟨7, .data⟩, ⟨9, .chain⟩, ⟨0, .phase⟩, ⟨1, .phase⟩, ⟨2, .phase⟩, ⟨3, .phase⟩, ⟨4, .phase⟩, ⟨5, .phase⟩, ⟨6, .phase⟩, ⟨7, .phase⟩, ⟨8, .phase⟩, ⟨9, .phase⟩], none⟩) (v := ?_) rfl (by kernel_rfl) (by kernel_rfl) (by kernel_rfl) (fun _ _ _ h => h) (Or.inl ⟨by rfl, ?_⟩) (by assumption) ?_
    rotate_left 1
    ·intro w' hSw; (try dsimp only at hSw); go_simp; (try with_reducible rfl)
    simp only [Act.put, sA_, sB_, sC_]
    refine wpAnyH_done (by kernel_rfl) ?_ _
    refine NoPanic.normal ?_
    go_wp2_with fail
    go_meet
    case' rel => exact ⟨_, ⟨dE, dL, dGA, dgn, dgc, dFA, dfn, dfc⟩, rfl, SX.out⟩
  ·go_simp
   obtain ⟨wA, hwA⟩ : ∃ W, W = (w2.alloc (.cells rvZ 140)).drew := ⟨_, rfl⟩
   rw [<- hwA]
   have E0A := hi_ (show Dq _ w2 wA _ _ _ _ _ by rw [hwA]; exact E0.out.A)
   have s0A := SS.out wA E0A.out.b
   clear hwA
   refine hK.out _ _ s0A (fun hHeld => ?_)
   clear hK K'
   try simp only [Act.put, sA_, sB_, sC_]
   refine wpAnyH_ready (rs := [2]) (by kernel_rfl) (by simp) ?_
   refine AllReadyH.cons (o := ⟨some 21, .call { callee := .value (.func 95), args := #[.tmp 19, .tmp 20], argTypes := #[24, 37] }, 140, "ref.go:65", #[⟨0, .data⟩, ⟨1, .data⟩], none⟩) rfl (fun K' hK => ?_) AllReadyH.nil
   go_simp
   go_at_call 95; refine (CNM.out wA (HB2.out.trans (E0A.out.b.mono HB2.out.size))).mono ?_; rintro e wAN ⟨rfl, hb⟩
   have E0AN := hi_ (E0A.out.below hb)
   have s0AN := SS.out wAN E0AN.out.b
   clear hb
   refine hK.out _ _ s0AN (fun hHeld => ?_)
   clear hK K'
   try simp only [Act.put, sA_, sB_, sC_]
   refine wpAnyH_ready (rs := [4]) (by kernel_rfl) (by simp) ?_
   refine AllReadyH.cons (o := ⟨some 23, .call { callee := .value (.func 94), args := #[.tmp 21, .tmp 22], argTypes := #[140, 39] }, 141, "ref.go:65", #[⟨2, .data⟩, ⟨3, .data⟩, ⟨2, .chain⟩], none⟩) rfl (fun K' hK => ?_) AllReadyH.nil
   go_simp
   go_at_call 94; refine (CGV.out wAN (HB2.out.trans (E0AN.out.b.mono HB2.out.size))).mono ?_; rintro e wANG ⟨⟨dE, dL, dGA, dgn, dgc, dFA, dfn, dfc⟩, rfl, hRS, hb⟩
   have E0ANG := hi_ (E0AN.out.G hb hRS)
   have s0ANG := SS.out wANG E0ANG.out.b
   simp only [Rv.v]
   clear hb hRS
   refine hK.out _ _ s0ANG (fun hHeld => ?_)
   clear hK K'
   try simp only [Act.put, sA_, sB_, sC_]
   refine wpAnyH_take (i := 5) (oi := ⟨some 18, .move (.tmp 23), 141, "ref.go:65", #[⟨4, .data⟩], none⟩) (v := ?_) rfl (by kernel_rfl) (by kernel_rfl) (by kernel_rfl) (fun _ _ _ h => h) (Or.inl ⟨by rfl, ?_⟩) (by assumption) ?_
   rotate_left 1
   ·intro w' hSw; (try dsimp only at hSw); go_simp; (try with_reducible rfl)
   simp only [Act.put, sA_, sB_, sC_]
   refine wpAnyH_take (i := 6) (oi := ⟨some 24, .extract (.tmp 18) 0, 140, "ref.go:65", #[⟨5, .data⟩], none⟩) (v := ?_) rfl (by kernel_rfl) (by kernel_rfl) (by kernel_rfl) (fun _ _ _ h => h) (Or.inl ⟨by rfl, ?_⟩) (by assumption) ?_
   rotate_left 1
   ·intro w' hSw; (try dsimp only at hSw); go_simp; (try with_reducible rfl)
   simp only [Act.put, sA_, sB_, sC_]
   refine wpAnyH_take (i := 7) (oi := ⟨some 25, .extract (.tmp 18) 1, 3, "ref.go:65", #[⟨5, .data⟩, ⟨9, .gcOnly .lateStores⟩], none⟩) (v := ?_) rfl (by kernel_rfl) (by kernel_rfl) (by kernel_rfl) (fun _ _ _ h => h) (Or.inl ⟨by rfl, ?_⟩) (by assumption) ?_
   rotate_left 1
   ·intro w' hSw; (try dsimp only at hSw); go_simp; (try with_reducible rfl)
   simp only [Act.put, sA_, sB_, sC_]
   refine wpAnyH_ready (rs := [9]) (by kernel_rfl) (by simp) ?_
   refine AllReadyH.cons (o := ⟨none, .store 140 (.tmp 9) (.tmp 24), 0, "ref.go:65", #[⟨8, .data⟩, ⟨6, .data⟩, ⟨4, .chain⟩, ⟨0, .phase⟩, ⟨1, .phase⟩, ⟨2, .phase⟩, ⟨3, .phase⟩, ⟨4, .phase⟩, ⟨5, .phase⟩, ⟨6, .phase⟩, ⟨7, .textOnly .lateStores⟩, ⟨8, .phase⟩], none⟩) rfl (fun K' hK => ?_) AllReadyH.nil
   have ea := E0ANG.out.a rfl
   refine step_stS (cs' := #[.int .i64 dE, .int .i64 dL, .slice dGA dgn dgc, .slice dFA dfn dfc]) idsT6 rfl rfl (by simp [Value.oneCell']) rfl (.tmp 9) (.tmp 24) rfl rfl rfl ea.1 ?_
   intro wX hRX hFX
   have SX := hi_ (And.intro hRX (E0ANG.out.X (fun y hy => Nat.lt_of_lt_of_le hy.2 HB2.out.size) hRX hFX))
   have s0ANGX := SS.out wX SX.out.2.2.2
   clear ea hRX hFX
   refine hK.out _ _ s0ANGX (fun hHeld => ?_)
   clear hK K'
   try simp only [Act.put]
   refine wpAnyH_take (i := 10) (oi := ⟨some 10, .assign (.tmp 25), 3, "ref.go:65", #[⟨7, .data⟩, ⟨9, .chain⟩, ⟨0, .phase⟩, ⟨1, .phase⟩, ⟨2, .phase⟩, ⟨3, .phase⟩, ⟨4, .phase⟩, ⟨5, .phase⟩, ⟨6, .phase⟩, ⟨7, .phase⟩, ⟨8, .phase⟩, ⟨9, .phase⟩], none⟩) (v := ?_) rfl (by kernel_rfl) (by kernel_rfl) (by kernel_rfl) (fun _ _ _ h => h) (Or.inl ⟨by rfl, ?_⟩) (by assumption) ?_
   rotate_left 1
   ·intro w' hSw; (try dsimp only at hSw); go_simp; (try with_reducible rfl)
   simp only [Act.put, sA_, sB_, sC_]
   refine wpAnyH_done (by kernel_rfl) ?_ _
   refine NoPanic.normal ?_
   go_wp2_with fail
   go_meet
   case' rel => exact ⟨_, ⟨dE, dL, dGA, dgn, dgc, dFA, dfn, dfc⟩, rfl, SX.out⟩
 case rest =>
  obtain ⟨ga, ⟨dE, dL, dGA, dgn, dgc, dFA, dfn, dfc⟩, rfl, hRg, hRS, hga, hbl⟩ := hcut
  obtain ⟨q0, q1, q2, q3⟩ := R2.out
  obtain ⟨wE, hwE⟩ : ∃ wE, wE = wc.alloc (.cells #[] 101) := ⟨_, rfl⟩
  have hbE : Below wc.heap.size wc wE := by rw [hwE]; exact (Below.refl _ _).alloc (Nat.le_refl _) _
  have HOE : Hid (wE.ownsRow wc.heap.size 101 3 (.slice (some ⟨wc.heap.size, 0, none⟩) 0 0) 0 []) := hi_ (by rw [hwE]; exact World.ownsRow_lit wc #[] 0 (Nat.le_refl _) (Nat.zero_le _) rfl)
  have hb2E : Below w2.heap.size w2 wE := hbl.trans (hbE.mono hbl.size)
  have hbwE : Below w.heap.size w wE := HB2.out.trans (hb2E.mono HB2.out.size)
  have k2 := (q1.under hb2E).at_ 2
  have kc : wc.cell? ⟨w.heap.size + 1, 2, none⟩ = some (.slice (some ⟨eb, eo, none⟩) en' ec) := (q1.under hbl).at_ 2
  have HV1 : Hid (VRow K wE (some ⟨eb, eo, none⟩) j 3 (evs.take (j * 3))) := hi_ ((HEV.out.1.below hbwE).pre (by omega))
  have HO1 : Hid (∀ u ∈ evs.take (j * 3), u.oneCell' = true) := hi_ fun u hu => HONE.out u (List.mem_of_mem_take hu)
  have c0 : (0 : Int) <= (j : Int) := by omega
  have c1 : (j : Int) <= (ec : Int) := by omega
  have HCE := hi_ (And.intro hRg (And.intro hRS (And.intro hga (And.intro hbl (And.intro hbE (And.intro hb2E hbwE))))))
  have HQ := hi_ (And.intro q1 q3)
  have hn2 : en' <= 1000000 := hn
  clear hRg hRS hga hbl hbE hb2E hbwE q0 q1 q2 q3 E0 s0 SS CNM CGV
  go_upto_region 6 with (first
   | (rw [<- hwE]; clear hwE)
   | (at_builtin; refine wpList_appW entsT rfl (.tmp 26) (.tmp 30) rfl wc.heap.size (.slice (some ⟨wc.heap.size, 0, none⟩) 0 0) 0 [] rfl HOE.out (some ⟨eb, eo, none⟩) j ec (evs.take (j * 3)) rfl HV1.out HO1.out (by omega) (by decide) HCE.out.2.2.2.2.1.size ?_; intro v5 w5 ho5 hg5; rw [List.nil_append, Nat.zero_add] at ho5; have hF5 := Fr.grown hg5 (own := fun y => wc.heap.size <= y) (fun x hx => (own_geB HOE.out hx).1); obtain ⟨A5, c5, rfl, _, _, _⟩ := own_vrow ho5; have H5 := hi_ (And.intro ho5 hF5); clear ho5 hg5 hF5))
  obtain ⟨ho5, hF5⟩ := H5.out
  obtain ⟨hRg, hRS, hga, hbl, hbE, hb2E, hbwE⟩ := HCE.out
  have hb5 : Below wc.heap.size wc w5.drew := (hbE.trans (hF5.toBelow (fun y hy => hy) hbE.size)).drew
  have hb25 : Below w2.heap.size w2 w5.drew := hbl.trans (hb5.mono hbl.size)
  have hbw5 : Below w.heap.size w w5.drew := HB2.out.trans (hb25.mono HB2.out.size)
  have rg := hRg.under hb5
  have rs := HQ.out.1.under hb25
  have rz := HQ.out.2.under hb25
  have s1 : (w5.drew.cell? ⟨ga, 2, none⟩ = some (.slice dGA dgn dgc) /\ w5.drew.cell? ⟨ga, 3, none⟩ = some (.slice dFA dfn dfc)) /\ w5.drew.cell? ⟨w.heap.size + 1, 2, none⟩ = some (.slice (some ⟨eb, eo, none⟩) en' ec) := ⟨⟨rg.at_ 2, rg.at_ 3⟩, rs.at_ 2⟩
  have HSP : Hid (∀ W, Fr (fun y => wc.heap.size <= y \/ y = w.heap.size + 3) w5.drew W -> ((W.cell? ⟨ga, 2, none⟩ = some (.slice dGA dgn dgc) /\ W.cell? ⟨ga, 3, none⟩ = some (.slice dFA dfn dfc)) /\ W.cell? ⟨w.heap.size + 1, 2, none⟩ = some (.slice (some ⟨eb, eo, none⟩) en' ec)) /\ Rec 140 W ga #[.int .i64 dE, .int .i64 dL, .slice dGA dgn dgc, .slice dFA dfn dfc]) := hi_ fun W hF => by
   have hlt := hRg.lt
   have h2 := HQ.out.2.lt
   have t0 := rg.fr hF (fun e => by rcases e with e | e <;> omega)
   have h1 := HQ.out.1.lt
   have hsz := hbl.size
   have t1 := rs.fr hF (fun e => by rcases e with e | e <;> omega)
   exact ⟨⟨⟨t0.at_ 2, t0.at_ 3⟩, t1.at_ 2⟩, t0⟩
  have c2 : (j : Int) + 1 <= (en' : Int) := by omega
  have c3 : (en' : Int) <= (ec : Int) := by have := HEV.out.2.2.2.2; omega
  have hwq : IntKind.i64.wrap ((j : Int) + 1) = ((j + 1 : Nat) : Int) := by rw [IntKind.wrap_i64]; omega
  have c4 : (0 : Int) <= ((j + 1 : Nat) : Int) /\ ((j + 1 : Nat) : Int) <= (en' : Int) := ⟨by omega, by omega⟩
  obtain ⟨SA, hSA⟩ : ∃ SA : Option Addr, SA = if ec = j + 1 then some ⟨eb, eo, none⟩ else some ⟨eb, eo + (j + 1) * 3, none⟩ := ⟨_, rfl⟩
  have HSA := hi_ hSA
  obtain ⟨hevr, hehd, hel, hecm, hec'⟩ := HEV.out
  have HVS : Hid (VRow K w5.drew SA (en' - (j + 1)) 3 (evs.drop ((j + 1) * 3))) := hi_ (by
   have h1 := (hevr.below hbw5).suf (m := j + 1) (by omega)
   rw [hSA]
   split
   ·have e : en' - (j + 1) = 0 := by omega
    rw [e] at h1 ⊢
    exact ⟨h1.1, fun _ => rfl, fun h => absurd h (Nat.lt_irrefl 0)⟩
   ·exact h1)
  have HO2 : Hid (∀ u ∈ evs.drop ((j + 1) * 3), u.oneCell' = true) := hi_ fun u hu => HONE.out u (List.mem_of_mem_drop hu)
  have HO5 := hi_ (own_keep ho5 (show Below w5.heap.size w5 w5.drew from (Below.refl _ _).drew))
  have HHD : Hid (HdL 3 (EEc K w) (evs.take (j * 3) ++ evs.drop ((j + 1) * 3)) (s.ents.eraseIdx j)) := hi_ (by
   rw [List.eraseIdx_eq_take_drop_succ]
   exact HdL.append (hehd.take j) (hehd.drop (j + 1)))
  have HEL : Hid ((s.ents.eraseIdx j).length = j + (en' - (j + 1))) := hi_ (by rw [List.length_eraseIdx, if_pos H0.out.2.2]; omega)
  have HWC := hi_ (And.intro hbl.size (And.intro hb5.size (And.intro HB2.out.size (And.intro hRg.lt (And.intro HQ.out.2.lt hga)))))
  have HB5 := hi_ (And.intro hbw5 (And.intro hb5 rz))
  clear ho5 hF5 hRg hRS hga hbl hbE hb2E hbwE hb5 hb25 hbw5 rg rs rz hSA hevr hehd hel hecm hec' c0 c1 kc k2
  refine wp_region_noPanic ?_
  refine wp_region_held_drew (S := fun W => (W.cell? ⟨ga, 2, none⟩ = some (.slice dGA dgn dgc) /\ W.cell? ⟨ga, 3, none⟩ = some (.slice dFA dfn dfc)) /\ W.cell? ⟨w.heap.size + 1, 2, none⟩ = some (.slice (some ⟨eb, eo, none⟩) en' ec)) (by kernel_rfl) s1 (fun hHeld => ?_)
  refine wpAnyH_take (i := 0) (oi := ⟨some 32, .fieldAddr 140 (.tmp 9) 2, 0, "ref.go:67", #[], none⟩) (v := ?_) rfl (by kernel_rfl) (by kernel_rfl) (by kernel_rfl) (fun _ _ _ h => h) (Or.inl ⟨by rfl, ?_⟩) (by assumption) ?_
  rotate_left 1
  ·intro w' hSw; (try dsimp only at hSw); go_simp; (try with_reducible rfl)
  simp only [Act.put, sA_, sB_, sC_]
  refine wpAnyH_take (i := 1) (oi := ⟨some 33, .load 34 (.tmp 32), 34, "ref.go:67", #[⟨0, .data⟩], none⟩) (v := ?_) rfl (by kernel_rfl) (by kernel_rfl) (by kernel_rfl) (fun _ _ _ h => h) (Or.inl ⟨by rfl, ?_⟩) (by assumption) ?_
  rotate_left 1
  ·intro w' hSw; (try dsimp only at hSw); go_simp; (try with_reducible rfl)
  simp only [Act.put, sA_, sB_, sC_]
  refine wpAnyH_take (i := 2) (oi := ⟨some 34, .fieldAddr 140 (.tmp 9) 3, 0, "ref.go:67", #[], none⟩) (v := ?_) rfl (by kernel_rfl) (by kernel_rfl) (by kernel_rfl) (fun _ _ _ h => h) (Or.inl ⟨by rfl, ?_⟩) (by assumption) ?_
  rotate_left 1
  ·intro w' hSw; (try dsimp only at hSw); go_simp; (try with_reducible rfl)
  simp only [Act.put, sA_, sB_, sC_]
  refine wpAnyH_take (i := 3) (oi := ⟨some 35, .load 34 (.tmp 34), 34, "ref.go:67", #[⟨2, .data⟩], none⟩) (v := ?_) rfl (by kernel_rfl) (by kernel_rfl) (by kernel_rfl) (fun _ _ _ h => h) (Or.inl ⟨by rfl, ?_⟩) (by assumption) ?_
  rotate_left 1
  ·intro w' hSw; (try dsimp only at hSw); go_simp; (try with_reducible rfl)
  simp only [Act.put, sA_, sB_, sC_]
  refine wpAnyH_take (i := 4) (oi := ⟨some 36, .move (.tmp 11), 35, "ref.go:67", #[], none⟩) (v := ?_) rfl (by kernel_rfl) (by kernel_rfl) (by kernel_rfl) (fun _ _ _ h => h) (Or.inl ⟨by rfl, ?_⟩) (by assumption) ?_
  rotate_left 1
  ·intro w' hSw; (try dsimp only at hSw); go_simp; (try with_reducible rfl)
  simp only [Act.put, sA_, sB_, sC_]
  refine wpAnyH_take (i := 5) (oi := ⟨some 37, .fieldAddr 37 (.tmp 4) 2, 0, "ref.go:67", #[], none⟩) (v := ?_) rfl (by kernel_rfl) (by kernel_rfl) (by kernel_rfl) (fun _ _ _ h => h) (Or.inl ⟨by rfl, ?_⟩) (by assumption) ?_
  rotate_left 1
  ·intro w' hSw; (try dsimp only at hSw); go_simp; (try with_reducible rfl)
  simp only [Act.put, sA_, sB_, sC_]
  refine wpAnyH_take (i := 6) (oi := ⟨some 38, .load 35 (.tmp 37), 35, "ref.go:67", #[⟨5, .data⟩], none⟩) (v := ?_) rfl (by kernel_rfl) (by kernel_rfl) (by kernel_rfl) (fun _ _ _ h => h) (Or.inl ⟨by rfl, ?_⟩) (by assumption) ?_
  rotate_left 1
  ·intro w' hSw; (try dsimp only at hSw); go_simp; (try with_reducible rfl)
  simp only [Act.put, sA_, sB_, sC_]
  refine wpAnyH_take (i := 7) (oi := ⟨some 39, .move (.tmp 8), 3, "ref.go:67", #[], none⟩) (v := ?_) rfl (by kernel_rfl) (by kernel_rfl) (by kernel_rfl) (fun _ _ _ h => h) (Or.inl ⟨by rfl, ?_⟩) (by assumption) ?_
  rotate_left 1
  ·intro w' hSw; (try dsimp only at hSw); go_simp; (try with_reducible rfl)
  simp only [Act.put, sA_, sB_, sC_]
  refine wpAnyH_take (i := 8) (oi := ⟨some 40, .binOp .add 3 (.tmp 39) (.const (.int .i64 1)) 3, 3, "ref.go:67", #[⟨7, .data⟩], none⟩) (v := ?_) rfl (by kernel_rfl) (by kernel_rfl) (by kernel_rfl) (fun _ _ _ h => h) (Or.inl ⟨by rfl, ?_⟩) (by assumption) ?_
  rotate_left 1
  ·intro w' hSw; (try dsimp only at hSw); go_simp; (try rw [hwq]); (try with_reducible rfl)
  simp only [Act.put, sA_, sB_, sC_]
  refine wpAnyH_take (i := 9) (oi := ⟨some 41, .slice 35 (.tmp 38) (some (.tmp 40)) none none, 35, "ref.go:67", #[⟨6, .data⟩, ⟨8, .data⟩], none⟩) (v := ?_) rfl (by kernel_rfl) (by kernel_rfl) (by kernel_rfl) (fun _ _ _ h => h) (Or.inl ⟨by rfl, ?_⟩) (by assumption) ?_
  rotate_left 1
  ·intro w' hSw; (try dsimp only at hSw); go_simp; (try simp only [Int.toNat_natCast]); (try rw [if_pos (show (0 : Int) <= (j : Int) + 1 by omega)]); (try rw [<- HSA.out]); (try with_reducible rfl)
  simp only [Act.put, sA_, sB_, sC_]
  refine wpAnyH_ready (rs := [10]) (by kernel_rfl) (by simp) ?_
  refine AllReadyH.cons (o := ⟨some 42, .call { callee := .builtin .append, args := #[.tmp 36, .tmp 41], argTypes := #[35, 35] }, 35, "ref.go:67", #[⟨4, .data⟩, ⟨9, .data⟩], none⟩) rfl (fun K' hK => ?_) AllReadyH.nil
  try rw [<- HSA.out]
  refine step_appX (K := K) entsT rfl (.tmp 36) (.tmp 41) rfl wc.heap.size (.slice A5 j c5) j (evs.take (j * 3)) rfl HO5.out SA (en' - (j + 1)) (ec - (j + 1)) (evs.drop ((j + 1) * 3)) rfl HVS.out HO2.out (by omega) (by decide) HWC.out.2.1 ?_
  intro v6 w6 ho6 hg6 hv6
  have hF6 := Fr.grown hg6 (own := fun y => wc.heap.size <= y) (fun x hx => (own_geB HO5.out hx).1)
  obtain ⟨A6, c6, rfl, hn6, hm6, hvr6⟩ := own_vrow ho6
  have hb6 : Below w.heap.size w w6 := HB5.out.1.trans (hF6.toBelow (fun y hy => Nat.le_trans HWC.out.2.2.1 (Nat.le_trans HWC.out.1 hy)) HB5.out.1.size)
  have hc6 : Below wc.heap.size wc w6 := HB5.out.2.1.trans (hF6.toBelow (fun y hy => hy) HB5.out.2.1.size)
  obtain ⟨s2, t0⟩ := HSP.out w6 (hF6.mono (fun y hy => .inl hy))
  have t2 := HB5.out.2.2.fr hF6 (fun e => by have e' : wc.heap.size <= w.heap.size + 3 := e; obtain ⟨z1, z2, z3, z4, z5, z6⟩ := HWC.out; omega)
  have H6 := hi_ (And.intro hb6 (And.intro hc6 (And.intro t2 (And.intro hn6 (And.intro hm6 (And.intro hvr6 hF6))))))
  clear ho6 hg6 hv6 hF6 hvr6 hb6 hc6 t0 t2 hn6 hm6
  refine hK.out _ _ s2 (fun hHeld => ?_)
  clear hK K'
  try simp only [Act.put, sA_, sB_, sC_]
  refine wpAnyH_take (i := 11) (oi := ⟨some 43, .build 37 #[(0, .tmp 33), (1, .tmp 35), (2, .tmp 42)], 37, "ref.go:67", #[⟨1, .data⟩, ⟨3, .data⟩, ⟨10, .data⟩], none⟩) (v := ?_) rfl (by kernel_rfl) (by kernel_rfl) (by kernel_rfl) (fun _ _ _ h => h) (Or.inl ⟨by rfl, ?_⟩) (by assumption) ?_
  rotate_left 1
  ·intro w' hSw; (try dsimp only at hSw); go_simp; (try with_reducible rfl)
  simp only [Act.put, sA_, sB_, sC_]
  refine wpAnyH_ready (rs := [12]) (by kernel_rfl) (by simp) ?_
  refine AllReadyH.cons (o := ⟨none, .store 37 (.tmp 6) (.tmp 43), 0, "ref.go:67", #[⟨11, .data⟩, ⟨10, .chain⟩, ⟨0, .phase⟩, ⟨1, .phase⟩, ⟨2, .phase⟩, ⟨3, .phase⟩, ⟨4, .phase⟩, ⟨5, .phase⟩, ⟨6, .phase⟩, ⟨7, .phase⟩, ⟨8, .phase⟩, ⟨9, .phase⟩, ⟨10, .phase⟩, ⟨11, .phase⟩], none⟩) rfl (fun K' hK => ?_) AllReadyH.nil
  refine step_stS (cs' := stC dGA dgn dgc dFA dfn dfc A6 (j + (en' - (j + 1))) c6) stT rfl rfl (by simp [Value.oneCell']) rfl (.tmp 6) (.tmp 43) rfl rfl rfl H6.out.2.2.1 ?_
  intro w8 hR8 hF8
  obtain ⟨s4, _⟩ := HSP.out w8 ((H6.out.2.2.2.2.2.2.mono (fun y hy => .inl hy)).trans (hF8.mono (fun y hy => .inr hy)))
  have H8 := hi_ (And.intro hR8 hF8)
  clear hR8 hF8
  refine hK.out _ _ s4 (fun hHeld => ?_)
  clear hK K'
  try simp only [Act.put]
  refine wpAnyH_take (i := 13) (oi := ⟨some 7, .assign (.const (.int .i64 0)), 3, "ref.go:67", #[⟨12, .chain⟩, ⟨0, .phase⟩, ⟨1, .phase⟩, ⟨2, .phase⟩, ⟨3, .phase⟩, ⟨4, .phase⟩, ⟨5, .phase⟩, ⟨6, .phase⟩, ⟨7, .phase⟩, ⟨8, .phase⟩, ⟨9, .phase⟩, ⟨10, .phase⟩, ⟨11, .phase⟩, ⟨12, .phase⟩], none⟩) (v := ?_) rfl (by kernel_rfl) (by kernel_rfl) (by kernel_rfl) (fun _ _ _ h => h) (Or.inl ⟨by rfl, ?_⟩) (by assumption) ?_
  rotate_left 1
  ·intro w' hSw; (try dsimp only at hSw); go_simp; (try with_reducible rfl)
  simp only [Act.put, sA_, sB_, sC_]
  refine wpAnyH_done (by kernel_rfl) ?_ _
  refine NoPanic.normal ?_
  clear hHeld s1 s2 s4
  go_wp2
  refine bodyPost_ret (res_ct rfl rfl (H8.out.1.load stT rfl)) rfl ?_
  obtain ⟨hb6, hc6, t2, hn6, hm6, hvr6, hF6⟩ := H6.out
  obtain ⟨hRg, hRS, hga, hbl, hbE, hb2E, hbwE⟩ := HCE.out
  obtain ⟨z1, z2, z3, z4, z5, z6⟩ := HWC.out
  have hb8 : Below w.heap.size w w8 := hb6.trans (H8.out.2.toBelow (fun y hy => by rw [show y = w.heap.size + 3 from hy]; omega) hb6.size)
  have hn8 : Fr (· = w.heap.size + 3) w6 w8 := H8.out.2
  have rs8 : RS (fun y => (K y /\ y < w.heap.size) \/ (w2.heap.size <= y /\ y ≠ ga /\ y < w6.heap.size)) w8 ⟨dE, dL, dGA, dgn, dgc, dFA, dfn, dfc⟩ ns' := ((hRS.below hc6).lt.stays ⟨hn8.size, fun y hy => hn8.block y hy.2 (fun e => by have e' : y = w.heap.size + 3 := e; rcases hy.1 with h | h <;> omega)⟩).mono (fun y hy => by rcases hy.1 with h | h; exact .inl h; exact .inr ⟨h.1, h.2, hy.2⟩)
  refine ⟨⟨dGA, dgn, dgc, dFA, dfn, dfc, A6, j + (en' - (j + 1)), c6⟩, rfl, ⟨rs8.gn, rs8.fn, HEL.out.symm, rs8.g.mono (fun y hy => ?_), rs8.f.mono (fun y hy => ?_), ?_, rs8.gc, rs8.fc, hn6, hm6⟩, hb8⟩
  ·rcases hy with h | h; exact .inl h.1; exact .inr (by omega)
  ·rcases hy with h | h; exact .inl h.1; exact .inr (by omega)
  ·have hv8 := hvr6.stays (w' := w8) ⟨hn8.size, fun y hy => hn8.block y hy.2 (fun e => by have e' : y = w.heap.size + 3 := e; have := hy.1; omega)⟩
   exact ⟨_, HEL.out, hv8.mono (fun y hy => .inr (by have := hy.1; omega)), HHD.out.imp (fun x r hx => EEc.ok.mono (EEc.ok.below hx hb8) (fun _ hy => .inl hy))⟩
end
end Go.Proofs.YthiknmhkdeicjaaGreatDoor
