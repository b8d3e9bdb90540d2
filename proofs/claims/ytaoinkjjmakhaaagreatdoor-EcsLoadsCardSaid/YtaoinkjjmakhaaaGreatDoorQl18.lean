/- EcU, EcRw, EcVf, EcVg, EcVi -/
import Derived.Test.YtaoinkjjmakhaaaGreatDoorQl1
import Derived.Test.YtaoinkjjmakhaaaGreatDoorQl5
import Derived.Test.YtaoinkjjmakhaaaGreatDoorQl8
import Derived.Test.YtaoinkjjmakhaaaGreatDoorQl16
import Derived.Test.YtaoinkjjmakhaaaGreatDoorQl17
namespace Go.Proofs.YtaoinkjjmakhaaaGreatDoor
open Go.RowKit
set_option maxRecDepth 20000
theorem EE.okE : EOk EE where
 stays := fun ⟨A, n, c, e, hp⟩ hs => ⟨A, n, c, e, hp.stays hs⟩
 mono := fun ⟨A, n, c, e, hp⟩ hk => ⟨A, n, c, e, hp.mono hk⟩
 lt := fun ⟨A, n, c, e, hp⟩ => ⟨A, n, c, e, hp.lt⟩
structure Ks.Has (k : Ks) (es : List En) : Prop where
 per : (k.idsOf (sigsL k.S 0 0 k.S.length)).Perm (es.map (·.1))
 up : es.Pairwise fun a b => a.1.1 < b.1.1
 on : ∀ e ∈ es, okE e.1 /\ ∃ n r t, k.pl e.1 = some (n, r) /\ k.tb n = some t /\ okN n /\ r < t.rows.length /\ (t.rows.getD r noEn).2 = e.2
theorem Ks.Has.ys {k : Ks} {es : List En} (h : k.Has es) {ys : List (Int × Int)} (hp : ys.Perm (k.idsOf (sigsL k.S 0 0 k.S.length))) (hu : ys.Pairwise (fun a b => a.1 <= b.1)) : ys = es.map (·.1) := by
 have hpp := hp.trans h.per
 have hlt : (es.map (·.1)).Pairwise (fun a b : Int × Int => a.1 < b.1) := List.pairwise_map.2 h.up
 refine List.Perm.eq_of_pairwise (le := fun a b : Int × Int => a.1 <= b.1) (fun a b ha hb h1 h2 => ?_) hu (hlt.imp fun h => Int.le_of_lt h) hpp
 have ha' := hpp.subset ha
 obtain ⟨i, hi, rfl⟩ := List.getElem_of_mem ha'
 obtain ⟨j, hj, rfl⟩ := List.getElem_of_mem hb
 rcases Nat.lt_trichotomy i j with h | h | h
 ·have := List.pairwise_iff_getElem.1 hlt i j hi hj h; omega
 ·subst h; rfl
 ·have := List.pairwise_iff_getElem.1 hlt j i hj hi h; omega
structure Su (W0 W : World) (gG gF gA : Bool) (GA : Option Addr) (gs : List Int) (FA : Option Addr) (fs : List Int) (ga : Nat) : Prop where
 b : Below W0.heap.size W0 W
 g : gG = true -> IRd W GA gs.length gs
 f : gF = true -> IRd W FA fs.length fs
 a : gA = true -> Rec 41 W ga stZ /\ W0.heap.size <= ga
section
variable {W0 W W' : World} {gG gF gA : Bool} {GA FA : Option Addr} {gs fs : List Int} {ga : Nat}
theorem Su.start (W : World) (gs fs : List Int) : Su W W.drew false false false none gs none fs 0 := ⟨(Below.refl _ _).drew, (fun h => by cases h), (fun h => by cases h), (fun h => by cases h)⟩
theorem Su.G {GA' : Option Addr} (h : Su W0 W false gF gA GA gs FA fs ga) (hb : Below W.heap.size W W') (hg : IRd W' GA' gs.length gs) : Su W0 W' true gF gA GA' gs FA fs ga :=
 ⟨h.b.trans (hb.mono h.b.size), fun _ => hg, fun e => (h.f e).below hb, fun e => ⟨(h.a e).1.under hb, (h.a e).2⟩⟩
theorem Su.F {FA' : Option Addr} (h : Su W0 W gG false gA GA gs FA fs ga) (hb : Below W.heap.size W W') (hf : IRd W' FA' fs.length fs) : Su W0 W' gG true gA GA gs FA' fs ga :=
 ⟨h.b.trans (hb.mono h.b.size), fun e => (h.g e).below hb, fun _ => hf, fun e => ⟨(h.a e).1.under hb, (h.a e).2⟩⟩
theorem Su.A (h : Su W0 W gG gF false GA gs FA fs ga) : Su W0 (W.alloc (.cells stZ 41)) gG gF true GA gs FA fs W.heap.size :=
 have hb : Below W.heap.size W (W.alloc (.cells stZ 41)) := (Below.refl _ _).alloc (Nat.le_refl _) _
 ⟨h.b.trans (hb.mono h.b.size), fun e => (h.g e).below hb, fun e => (h.f e).below hb, fun _ => ⟨Rec.new W _ _, h.b.size⟩⟩
end
theorem IRd.ne_rec {W : World} {A : Option Addr} {n g : Nat} {zs : List Int} (h : IRd W A n zs) (hr : Rec 41 W g stZ) : ∀ b o, A = some ⟨b, o, none⟩ -> 0 < n -> b ≠ g := fun b o e hp hbg => by
 obtain ⟨b', o', e', _, hc⟩ := h.2 hp
 rw [e] at e'
 injection e' with e'
 injection e' with e1 e2
 subst e1 e2 hbg
 have h0 := hc 0 (by rw [h.1]; exact hp)
 rw [hr.at_] at h0
 match o, h0 with
 | 0, h0 => cases h0
 | 1, h0 => cases h0
 | 2, h0 => cases h0
 | n + 3, h0 => cases h0
theorem IRd.frN {own : Nat -> Prop} {W W' : World} {A : Option Addr} {n : Nat} {zs : List Int} (h : IRd W A n zs) (hf : Fr own W W') (hn : ∀ b o, A = some ⟨b, o, none⟩ -> 0 < n -> b < W.heap.size -> ¬ own b) : IRd W' A n zs :=
 ⟨h.1, fun hp => by
  obtain ⟨b, o, e, hlt, hc⟩ := h.2 hp
  exact ⟨b, o, e, Nat.lt_of_lt_of_le hlt hf.size, fun j hj => (World.cell?_of_block (hf.block b hlt (hn b o e hp hlt))).trans (hc j hj)⟩⟩
section
variable {w : World} {N : Nat} {gr : Nat -> Nat} {x : Fx} {k : Ks} {c : Nat} {pt : Nat -> Nat}
theorem CoJ.parts (h : CoJ 0 w N gr x k c pt) (hT : TabAt w) {n r : Nat} {t : Tb} (ht : k.tb n = some t) (hr : r < t.rows.length) :
  Calls Tryz.prog 36 #[.pointer (some ⟨pt n, 0, none⟩), .int .i64 (r : Int)] w fun e w' => ∃ PA pn pc, e = .returned (.tuple #[.slice PA pn pc, .int .i64 0]) /\ PartsV (fun y => w.heap.size <= y) w' PA pn (t.rows.getD r noEn).2 /\ Below w.heap.size w w' := by
 obtain ⟨s, tag, m, v, qq, hs, hA, hg⟩ := h.tab n t (by omega) ht
 refine (TParts_ok hA.i hA.sig hA.sgl hT hA.ok.cn hA.hrw r (by rw [t.ids_len]; exact hr)).mono ?_
 rintro e w' ⟨PA, pc, rfl, hP, hb⟩
 rw [Tb.rowL_eq hA.ok hr] at hP
 exact ⟨PA, _, pc, rfl, hP, hb⟩
set_option maxHeartbeats 2000000 in
theorem estate_yes (h : CoJ 0 w N gr x k c pt) (hT : TabN N w) {es : List En} (he : k.Has es) (hS : k.S.length <= 5000) (hl : es.length <= 1000000) :
  Calls Tryz.prog 11 #[.pointer (some ⟨x.p, 0, none⟩)] w fun e w' => ∃ GA gc FA fc EA ec, e = .returned (.agg (stC GA k.ns.g.length gc FA k.ns.fr.length fc EA es.length ec)) /\ StV (fun y => w.heap.size <= y) w' GA k.ns.g.length FA k.ns.fr.length EA es.length k.ns.g k.ns.fr es /\ Below w.heap.size w w' := by
 obtain ⟨w1, hw1, hb1, r1⟩ := state_start w
 have CQ : Hid (∀ W, Below w.heap.size w W -> Calls Tryz.prog 25 #[.pointer (some ⟨x.p, 0, none⟩), .int .u64 0, .int .u64 0] W fun e w' => ∃ A cc, e = .returned (.slice A es.length cc) /\ IdsV (fun y => W.heap.size <= y) w' A es.length (es.map (·.1)) /\ Below W.heap.size W w') := hi_ (fun W hW => (equery_yes (h.below hW) 0 0 (by decide) (by decide) hS).mono (by
  rintro e w' ⟨A, m, cc, ys, rfl, hm, hI, hp, hu, hb⟩
  have hy := he.ys hp hu
  subst hy
  have hm' : m = es.length := by rw [hm, List.length_map]
  subst hm'
  exact ⟨A, cc, rfl, hI, hb⟩))
 obtain ⟨gv, av, fv, I⟩ := h.ids (by decide)
 have CG : Hid (∀ W, Below w1.heap.size w1 W -> Calls Tryz.prog 33 #[.pointer (some ⟨x.pi, 0, none⟩)] W fun e w' => ∃ A c, e = .returned (.slice A k.ns.g.length c) /\ IRd w' A k.ns.g.length k.ns.g /\ Below W.heap.size W w') := hi_ (fun W hW => Gens_any (I.below (hb1.trans (hW.mono hb1.size))))
 have CF : Hid (∀ W, Below w1.heap.size w1 W -> Calls Tryz.prog 34 #[.pointer (some ⟨x.pi, 0, none⟩)] W fun e w' => ∃ A c, e = .returned (.slice A k.ns.fr.length c) /\ IRd w' A k.ns.fr.length k.ns.fr /\ Below W.heap.size W w') := hi_ (fun W hW => Free_any (I.below (hb1.trans (hW.mono hb1.size))))
 have h1 := h.below hb1
 have KS : Hid (∀ W, Below w1.heap.size w1 W -> W.cell? ⟨x.p, 5, none⟩ = some (.pointer (some ⟨x.pi, 0, none⟩))) := hi_ (fun W hW => (h1.below hW).c5)
 obtain ⟨gs, hgs⟩ : ∃ gs, gs = k.ns.g := ⟨_, rfl⟩
 obtain ⟨fs, hfs⟩ : ∃ fs, fs = k.ns.fr := ⟨_, rfl⟩
 rw [<- hgs] at CG ⊢
 rw [<- hfs] at CF ⊢
 have E0 := hi_ (Su.start w1 gs fs)
 have s0 := KS.out w1.drew E0.out.b
 have H1 := hi_ (And.intro h1 (And.intro hb1 (And.intro r1 (And.intro hT (And.intro he hl)))))
 obtain ⟨gn, hgn⟩ : ∃ gn, gn = gs.length := ⟨_, rfl⟩
 obtain ⟨fn, hfn⟩ : ∃ fn, fn = fs.length := ⟨_, rfl⟩
 obtain ⟨en, hen⟩ : ∃ en, en = es.length := ⟨_, rfl⟩
 rw [<- hgn] at CG
 rw [<- hfn] at CF
 rw [<- hen] at CQ
 rw [<- hgn, <- hfn, <- hen]
 have HG := hi_ hgn
 have HF := hi_ hfn
 have HE := hi_ hen
 have HH := hi_ h
 clear h h1 hb1 r1 hT he hS hl I hgs hfs hgn hfn hen
 go_enter Tryz.func11, Tryz.ntmps11
 go_upto_region 3 with (rw [<- hw1]; clear hw1)
 go_cut [3] (fun av wl => ∃ (g : Nat) (GA : Option Addr) (gc : Nat) (FA : Option Addr) (fc : Nat), av = .pointer (some ⟨g, 0, none⟩) /\ Rec 41 wl g (stC GA gn gc FA fn fc none 0 0) /\ IRd wl GA gn gs /\ IRd wl FA fn fs /\ (∀ b o, GA = some ⟨b, o, none⟩ -> 0 < gn -> b ≠ g) /\ (∀ b o, FA = some ⟨b, o, none⟩ -> 0 < fn -> b ≠ g) /\ w1.heap.size <= g /\ Below w1.heap.size w1 wl)
 case first =>
  refine wp_region_noPanic ?_
  refine wp_region_held_drew (S := fun W => W.cell? ⟨x.p, 5, none⟩ = some (.pointer (some ⟨x.pi, 0, none⟩))) (by kernel_rfl) s0 (fun hHeld => ?_)
  refine tk_ 0 ⟨some 13, .move (.tmp 0), 29, "ecs.go:178", #[], none⟩ hHeld ?_
  simp only [Act.put, sA_, sB_, sC_]
  refine tk_ 1 ⟨some 14, .nilCheck (.tmp 13), 0, "ecs.go:178", #[⟨0, .data⟩], none⟩ hHeld ?_
  simp only [Act.put, sA_, sB_, sC_]
  refine tk_ 2 ⟨some 15, .fieldAddr 82 (.tmp 14) 1, 0, "ecs.go:178", #[⟨1, .data⟩], none⟩ hHeld ?_
  simp only [Act.put, sA_, sB_, sC_]
  refine tk_ 3 ⟨some 16, .load 72 (.tmp 15), 72, "ecs.go:178", #[⟨2, .data⟩], none⟩ hHeld ?_
  simp only [Act.put, sA_, sB_, sC_]
  refine tk_ 5 ⟨some 18, .move (.tmp 0), 29, "ecs.go:178", #[], none⟩ hHeld ?_
  simp only [Act.put, sA_, sB_, sC_]
  refine tk_ 6 ⟨some 19, .nilCheck (.tmp 18), 0, "ecs.go:178", #[⟨5, .data⟩], none⟩ hHeld ?_
  simp only [Act.put, sA_, sB_, sC_]
  refine tk_ 7 ⟨some 20, .fieldAddr 82 (.tmp 19) 1, 0, "ecs.go:178", #[⟨6, .data⟩], none⟩ hHeld ?_
  simp only [Act.put, sA_, sB_, sC_]
  refine tk_ 8 ⟨some 21, .load 72 (.tmp 20), 72, "ecs.go:178", #[⟨7, .data⟩], none⟩ hHeld ?_
  simp only [Act.put, sA_, sB_, sC_]
  refine wpAnyH_ready (rs := [4, 11]) (by kernel_rfl) (by simp) ?_
  refine AllReadyH.cons (o := ⟨some 17, .call { callee := .value (.func 33), args := #[.tmp 16], argTypes := #[72] }, 38, "ecs.go:178", #[⟨3, .data⟩], none⟩) rfl (fun K' hK => ?_) (AllReadyH.cons (o := ⟨some 3, .alloc 41, 0, "ecs.go:178", #[], none⟩) rfl (fun K' hK => ?_) AllReadyH.nil)
  ·go_simp
   go_at_call 33; refine (CG.out w1.drew E0.out.b).mono ?_; rintro e wG ⟨GA, gc, rfl, hI, hb⟩
   have E0G := hi_ (E0.out.G hb (HG.out ▸ hI))
   have s0G := KS.out wG E0G.out.b
   clear hb hI
   refine hK.out _ _ s0G (fun hHeld => ?_)
   clear hK K'
   try simp only [Act.put, sA_, sB_, sC_]
   refine wpAnyH_ready (rs := [9, 11]) (by kernel_rfl) (by simp) ?_
   refine AllReadyH.cons (o := ⟨some 22, .call { callee := .value (.func 34), args := #[.tmp 21], argTypes := #[72] }, 38, "ecs.go:178", #[⟨8, .data⟩, ⟨4, .chain⟩], none⟩) rfl (fun K' hK => ?_) (AllReadyH.cons (o := ⟨some 3, .alloc 41, 0, "ecs.go:178", #[], none⟩) rfl (fun K' hK => ?_) AllReadyH.nil)
   ·go_simp
    go_at_call 34; refine (CF.out wG E0G.out.b).mono ?_; rintro e wGF ⟨FA, fc, rfl, hI, hb⟩
    have E0GF := hi_ (E0G.out.F hb (HF.out ▸ hI))
    have s0GF := KS.out wGF E0GF.out.b
    clear hb hI
    refine hK.out _ _ s0GF (fun hHeld => ?_)
    clear hK K'
    try simp only [Act.put, sA_, sB_, sC_]
    refine tk_ 10 ⟨some 23, .build 41 #[(0, .tmp 17), (1, .tmp 22)], 41, "ecs.go:178", #[⟨4, .data⟩, ⟨9, .data⟩], none⟩ hHeld ?_
    simp only [Act.put, sA_, sB_, sC_]
    refine wpAnyH_ready (rs := [11]) (by kernel_rfl) (by simp) ?_
    refine AllReadyH.cons (o := ⟨some 3, .alloc 41, 0, "ecs.go:178", #[], none⟩) rfl (fun K' hK => ?_) AllReadyH.nil
    go_simp
    obtain ⟨wGFA, hwGFA⟩ : ∃ W, W = wGF.alloc (.cells stZ 41) := ⟨_, rfl⟩
    rw [<- hwGFA]
    have E0GFA := hi_ (show Su w1 wGFA _ _ _ _ _ _ _ _ by rw [hwGFA]; exact E0GF.out.A)
    have s0GFA := KS.out wGFA E0GFA.out.b
    clear hwGFA
    refine hK.out _ _ s0GFA (fun hHeld => ?_)
    clear hK K'
    try simp only [Act.put, sA_, sB_, sC_]
    refine wpAnyH_ready (rs := [12]) (by kernel_rfl) (by simp) ?_
    refine AllReadyH.cons (o := ⟨none, .store 41 (.tmp 3) (.tmp 23), 0, "ecs.go:178", #[⟨11, .data⟩, ⟨10, .data⟩, ⟨9, .chain⟩, ⟨0, .phase⟩, ⟨1, .phase⟩, ⟨2, .phase⟩, ⟨3, .phase⟩, ⟨4, .phase⟩, ⟨5, .phase⟩, ⟨6, .phase⟩, ⟨7, .phase⟩, ⟨8, .phase⟩, ⟨9, .phase⟩, ⟨10, .phase⟩, ⟨11, .phase⟩], none⟩) rfl (fun K' hK => ?_) AllReadyH.nil
    have ea := (E0GFA.out.a rfl)
    have eg := HG.out ▸ E0GFA.out.g rfl
    have ef := HF.out ▸ E0GFA.out.f rfl
    have eb := E0GFA.out.b
    refine step_stS (cs' := stC GA gn gc FA fn fc none 0 0) stT rfl rfl (by simp [Value.oneCell']) rfl (.tmp 3) (.tmp 23) rfl rfl rfl ea.1 ?_
    intro wX hRX hFX
    have SX := hi_ (And.intro hRX (And.intro (eg.frN hFX (fun b o e h1 _ hh => eg.ne_rec ea.1 b o e h1 hh)) (And.intro (ef.frN hFX (fun b o e h1 _ hh => ef.ne_rec ea.1 b o e h1 hh)) (And.intro (eg.ne_rec ea.1) (And.intro (ef.ne_rec ea.1) (And.intro ea.2 (eb.trans (hFX.toBelow (fun y hy => by rw [show y = _ from hy]; exact ea.2) eb.size))))))))
    have s0GFAX := KS.out wX SX.out.2.2.2.2.2.2
    clear ea eg ef eb hRX hFX
    refine hK.out _ _ s0GFAX (fun hHeld => ?_)
    clear hK K'
    try simp only [Act.put]
    refine wpAnyH_done (by kernel_rfl) ?_ _
    refine NoPanic.normal ?_
    go_wp2_with fail
    go_meet
    case' rel => exact ⟨_, GA, gc, FA, fc, rfl, SX.out⟩
   ·go_simp
    obtain ⟨wGA, hwGA⟩ : ∃ W, W = wG.alloc (.cells stZ 41) := ⟨_, rfl⟩
    rw [<- hwGA]
    have E0GA := hi_ (show Su w1 wGA _ _ _ _ _ _ _ _ by rw [hwGA]; exact E0G.out.A)
    have s0GA := KS.out wGA E0GA.out.b
    clear hwGA
    refine hK.out _ _ s0GA (fun hHeld => ?_)
    clear hK K'
    try simp only [Act.put, sA_, sB_, sC_]
    refine wpAnyH_ready (rs := [9]) (by kernel_rfl) (by simp) ?_
    refine AllReadyH.cons (o := ⟨some 22, .call { callee := .value (.func 34), args := #[.tmp 21], argTypes := #[72] }, 38, "ecs.go:178", #[⟨8, .data⟩, ⟨4, .chain⟩], none⟩) rfl (fun K' hK => ?_) AllReadyH.nil
    go_simp
    go_at_call 34; refine (CF.out wGA E0GA.out.b).mono ?_; rintro e wGAF ⟨FA, fc, rfl, hI, hb⟩
    have E0GAF := hi_ (E0GA.out.F hb (HF.out ▸ hI))
    have s0GAF := KS.out wGAF E0GAF.out.b
    clear hb hI
    refine hK.out _ _ s0GAF (fun hHeld => ?_)
    clear hK K'
    try simp only [Act.put, sA_, sB_, sC_]
    refine tk_ 10 ⟨some 23, .build 41 #[(0, .tmp 17), (1, .tmp 22)], 41, "ecs.go:178", #[⟨4, .data⟩, ⟨9, .data⟩], none⟩ hHeld ?_
    simp only [Act.put, sA_, sB_, sC_]
    refine wpAnyH_ready (rs := [12]) (by kernel_rfl) (by simp) ?_
    refine AllReadyH.cons (o := ⟨none, .store 41 (.tmp 3) (.tmp 23), 0, "ecs.go:178", #[⟨11, .data⟩, ⟨10, .data⟩, ⟨9, .chain⟩, ⟨0, .phase⟩, ⟨1, .phase⟩, ⟨2, .phase⟩, ⟨3, .phase⟩, ⟨4, .phase⟩, ⟨5, .phase⟩, ⟨6, .phase⟩, ⟨7, .phase⟩, ⟨8, .phase⟩, ⟨9, .phase⟩, ⟨10, .phase⟩, ⟨11, .phase⟩], none⟩) rfl (fun K' hK => ?_) AllReadyH.nil
    have ea := (E0GAF.out.a rfl)
    have eg := HG.out ▸ E0GAF.out.g rfl
    have ef := HF.out ▸ E0GAF.out.f rfl
    have eb := E0GAF.out.b
    refine step_stS (cs' := stC GA gn gc FA fn fc none 0 0) stT rfl rfl (by simp [Value.oneCell']) rfl (.tmp 3) (.tmp 23) rfl rfl rfl ea.1 ?_
    intro wX hRX hFX
    have SX := hi_ (And.intro hRX (And.intro (eg.frN hFX (fun b o e h1 _ hh => eg.ne_rec ea.1 b o e h1 hh)) (And.intro (ef.frN hFX (fun b o e h1 _ hh => ef.ne_rec ea.1 b o e h1 hh)) (And.intro (eg.ne_rec ea.1) (And.intro (ef.ne_rec ea.1) (And.intro ea.2 (eb.trans (hFX.toBelow (fun y hy => by rw [show y = _ from hy]; exact ea.2) eb.size))))))))
    have s0GAFX := KS.out wX SX.out.2.2.2.2.2.2
    clear ea eg ef eb hRX hFX
    refine hK.out _ _ s0GAFX (fun hHeld => ?_)
    clear hK K'
    try simp only [Act.put]
    refine wpAnyH_done (by kernel_rfl) ?_ _
    refine NoPanic.normal ?_
    go_wp2_with fail
    go_meet
    case' rel => exact ⟨_, GA, gc, FA, fc, rfl, SX.out⟩
  ·go_simp
   obtain ⟨wA, hwA⟩ : ∃ W, W = (w1.alloc (.cells stZ 41)).drew := ⟨_, rfl⟩
   rw [<- hwA]
   have E0A := hi_ (show Su w1 wA _ _ _ _ _ _ _ _ by rw [hwA]; exact E0.out.A)
   have s0A := KS.out wA E0A.out.b
   clear hwA
   refine hK.out _ _ s0A (fun hHeld => ?_)
   clear hK K'
   try simp only [Act.put, sA_, sB_, sC_]
   refine wpAnyH_ready (rs := [4]) (by kernel_rfl) (by simp) ?_
   refine AllReadyH.cons (o := ⟨some 17, .call { callee := .value (.func 33), args := #[.tmp 16], argTypes := #[72] }, 38, "ecs.go:178", #[⟨3, .data⟩], none⟩) rfl (fun K' hK => ?_) AllReadyH.nil
   go_simp
   go_at_call 33; refine (CG.out wA E0A.out.b).mono ?_; rintro e wAG ⟨GA, gc, rfl, hI, hb⟩
   have E0AG := hi_ (E0A.out.G hb (HG.out ▸ hI))
   have s0AG := KS.out wAG E0AG.out.b
   clear hb hI
   refine hK.out _ _ s0AG (fun hHeld => ?_)
   clear hK K'
   try simp only [Act.put, sA_, sB_, sC_]
   refine wpAnyH_ready (rs := [9]) (by kernel_rfl) (by simp) ?_
   refine AllReadyH.cons (o := ⟨some 22, .call { callee := .value (.func 34), args := #[.tmp 21], argTypes := #[72] }, 38, "ecs.go:178", #[⟨8, .data⟩, ⟨4, .chain⟩], none⟩) rfl (fun K' hK => ?_) AllReadyH.nil
   go_simp
   go_at_call 34; refine (CF.out wAG E0AG.out.b).mono ?_; rintro e wAGF ⟨FA, fc, rfl, hI, hb⟩
   have E0AGF := hi_ (E0AG.out.F hb (HF.out ▸ hI))
   have s0AGF := KS.out wAGF E0AGF.out.b
   clear hb hI
   refine hK.out _ _ s0AGF (fun hHeld => ?_)
   clear hK K'
   try simp only [Act.put, sA_, sB_, sC_]
   refine tk_ 10 ⟨some 23, .build 41 #[(0, .tmp 17), (1, .tmp 22)], 41, "ecs.go:178", #[⟨4, .data⟩, ⟨9, .data⟩], none⟩ hHeld ?_
   simp only [Act.put, sA_, sB_, sC_]
   refine wpAnyH_ready (rs := [12]) (by kernel_rfl) (by simp) ?_
   refine AllReadyH.cons (o := ⟨none, .store 41 (.tmp 3) (.tmp 23), 0, "ecs.go:178", #[⟨11, .data⟩, ⟨10, .data⟩, ⟨9, .chain⟩, ⟨0, .phase⟩, ⟨1, .phase⟩, ⟨2, .phase⟩, ⟨3, .phase⟩, ⟨4, .phase⟩, ⟨5, .phase⟩, ⟨6, .phase⟩, ⟨7, .phase⟩, ⟨8, .phase⟩, ⟨9, .phase⟩, ⟨10, .phase⟩, ⟨11, .phase⟩], none⟩) rfl (fun K' hK => ?_) AllReadyH.nil
   have ea := (E0AGF.out.a rfl)
   have eg := HG.out ▸ E0AGF.out.g rfl
   have ef := HF.out ▸ E0AGF.out.f rfl
   have eb := E0AGF.out.b
   refine step_stS (cs' := stC GA gn gc FA fn fc none 0 0) stT rfl rfl (by simp [Value.oneCell']) rfl (.tmp 3) (.tmp 23) rfl rfl rfl ea.1 ?_
   intro wX hRX hFX
   have SX := hi_ (And.intro hRX (And.intro (eg.frN hFX (fun b o e h1 _ hh => eg.ne_rec ea.1 b o e h1 hh)) (And.intro (ef.frN hFX (fun b o e h1 _ hh => ef.ne_rec ea.1 b o e h1 hh)) (And.intro (eg.ne_rec ea.1) (And.intro (ef.ne_rec ea.1) (And.intro ea.2 (eb.trans (hFX.toBelow (fun y hy => by rw [show y = _ from hy]; exact ea.2) eb.size))))))))
   have s0AGFX := KS.out wX SX.out.2.2.2.2.2.2
   clear ea eg ef eb hRX hFX
   refine hK.out _ _ s0AGFX (fun hHeld => ?_)
   clear hK K'
   try simp only [Act.put]
   refine wpAnyH_done (by kernel_rfl) ?_ _
   refine NoPanic.normal ?_
   go_wp2_with fail
   go_meet
   case' rel => exact ⟨_, GA, gc, FA, fc, rfl, SX.out⟩
 case rest =>
  obtain ⟨g, GA, gc, FA, fc, rfl, hRg, hGA, hFA, hGn, hFn, hg1, hbl⟩ := hcut
  have hbwl := H1.out.2.1.trans (hbl.mono H1.out.2.1.size)
  have CQ2 := hi_ (CQ.out wc hbwl)
  have HBL := hi_ hbwl
  have HCC := hi_ hbl
  have HRG := hi_ hRg
  have HGF := hi_ (And.intro hGA (And.intro hFA (And.intro hGn hFn)))
  have HG1 := hi_ hg1
  clear CQ CG CF KS E0 s0 hbwl hRg hGA hFA hGn hFn hg1 hbl
  go_wp2_with (go_at_call 25; refine CQ2.out.mono ?_; rintro e wq ⟨QA, qc, rfl, hIq, hbq⟩; have HQ := hi_ (And.intro hIq hbq); clear hIq hbq CQ2)
  obtain ⟨B, hB⟩ : ∃ B, B = wq.heap.size := ⟨_, rfl⟩
  have HBB := hi_ hB
  clear hB
  go_loopw [27] (fun iv wr => ∃ (j : Nat) (EA : Option Addr) (ec : Nat) (vs : List Value) (D : Nat -> Prop), j <= en /\ iv = .int .i64 j /\ Gr EE 95 3 wr B (.slice EA j ec) vs D (es.take j) /\ Rec 41 wr g (stC GA gn gc FA fn fc EA j ec) /\ (∀ y, D y -> B <= y) /\ Fr (fun y => y = g \/ B <= y) wq wr) (fun iv _ => en - (intOf iv).toNat)
  case atStart => exact ⟨0, none, 0, [], fun _ => False, Nat.zero_le _, rfl, Gr.start (World.ownsRow_nil _ _ _ _) (Nat.le_of_eq HBB.out), HRG.out.under HQ.out.2, fun _ h => h.elim, Fr.refl _ _⟩
  case round =>
   obtain ⟨j, EA, ec, vs, D, hj, rfl, hG, hR, hD, hF⟩ := hrel
   obtain ⟨h1, hb1, r1, hT, he, hl⟩ := H1.out
   have hgB : g < B := by rw [HBB.out]; exact Nat.lt_of_lt_of_le HRG.out.lt HQ.out.2.size
   have hbq := HBL.out.trans (HQ.out.2.mono HBL.out.size)
   have hbr : Below w.heap.size w wr := hbq.trans (hF.toBelow (fun y hy => by have := hb1.size; have := HG1.out; have := HBB.out; have := hbq.size; rcases hy with hy | hy <;> omega) hbq.size)
   by_cases hjn : j < en
   ·obtain ⟨e, hej⟩ : ∃ e, es[j]? = some e := ⟨_, List.getElem?_eq_getElem (by rw [<- HE.out]; exact hjn)⟩
    have hem := List.mem_of_getElem? hej
    obtain ⟨hok, n, r, t, hpl, htb, hn, hr, hpe⟩ := he.on e hem
    obtain ⟨qb, qo, hQA, hqlt, q0, q1⟩ := HQ.out.1.cell (j := j) (x := e.1) (by rw [List.getElem?_map, hej]; rfl)
    have hqg : qb ≠ g := fun hh => by
     obtain ⟨_, _, hV, _⟩ := HQ.out.1
     obtain ⟨b', o', e', hk, _⟩ := hV.2.2 (by omega)
     rw [hQA] at e'
     injection e' with e'
     injection e' with e1 e2
     have := HRG.out.lt
     have hk' : wc.heap.size <= b' := hk
     omega
    subst hQA
    obtain ⟨⟨ei, eg⟩, ep⟩ := e
    simp only at hok hpl hpe q0 q1
    have hqB : ¬ (qb = g \/ B <= qb) := fun hh => by have := HBB.out; rcases hh with hh | hh <;> omega
    have k0 : wr.cell? ⟨qb, qo + j * 2, none⟩ = some (.int .i64 ei) := (World.cell?_of_block (hF.block qb hqlt hqB)).trans q0
    have k1 : wr.cell? ⟨qb, qo + j * 2 + 1, none⟩ = some (.int .i64 eg) := (World.cell?_of_block (hF.block qb hqlt hqB)).trans q1
    obtain ⟨q, hq⟩ : ∃ q : Nat, q = pt n := ⟨_, rfl⟩
    have hrr := HH.out.below hbr
    obtain ⟨w5, hw5⟩ : ∃ w5, w5 = wr.alloc (.cells #[.int .i64 0, .int .i64 0] 32) := ⟨_, rfl⟩
    have R5 := hi_ (show Rec 32 w5 wr.heap.size #[.int .i64 0, .int .i64 0] by rw [hw5]; exact Rec.new wr _ _)
    have HB5 := hi_ (show Below wr.heap.size wr w5 by rw [hw5]; exact (Below.refl _ _).alloc (Nat.le_refl _) _)
    have CF : Hid (∀ W, Below wr.heap.size wr W -> Calls Tryz.prog 35 #[.pointer (some ⟨x.p, 0, none⟩), .agg #[.int .i64 ei, .int .i64 eg]] W fun e w' => e = .returned (.tuple #[.agg (enC n r ei eg (some ⟨q, 0, none⟩)), .int .i64 0]) /\ Below W.heap.size W w') := hi_ (fun W hW => by
     rw [hq]
     exact efind_yes (hrr.below hW) hok hpl htb hn)
    have CP : Hid (∀ W, Below wr.heap.size wr W -> Calls Tryz.prog 36 #[.pointer (some ⟨q, 0, none⟩), .int .i64 (r : Int)] W fun e w' => ∃ PA pn pc, e = .returned (.tuple #[.slice PA pn pc, .int .i64 0]) /\ PartsV (fun y => W.heap.size <= y) w' PA pn ep /\ Below W.heap.size W w') := hi_ (fun W hW => by
     have hTW : TabAt W := (hT.below HH.out (hbr.trans (hW.mono hbr.size))).2
     have := CoJ.parts (hrr.below hW) hTW htb hr
     rw [hpe, <- hq] at this
     exact this)
    have hen : j + 1 <= 1000000 := by have := HE.out; omega
    have HLJ := hi_ (show (es.take j).length = j by rw [List.length_take, <- HE.out]; omega)
    have HX := hi_ hej
    have HGr := hi_ hG
    have HRr := hi_ hR
    have HFr := hi_ hF
    have HDr := hi_ hD
    have HGB := hi_ hgB
    have hBr := hG.Bw
    clear h1 hb1 r1 hT he hl hbq hbr hok hn hr hpe hq hrr hqg hqB hqlt q0 q1 hej hG hR hF hD hgB hem hpl htb
    go_wp2_with (first
     | (rw [<- hw5]; clear hw5)
     | ((with_reducible refine wpList_stP rfl (.tmp 5) (.tmp 30) rfl rfl rfl R5.out ?_); intro w6 hR6 hF6; have m0 := hR6.at_ 0; have m1 := hR6.at_ 1; have HB6 := hi_ (HB5.out.trans (hF6.toBelow (fun y hy => by rw [show y = wr.heap.size from hy]; exact Nat.le_refl _) HB5.out.size)); have HR6 := hi_ hR6; clear hR6 hF6 R5 HB5 k0 k1)
     | (go_at_call 35; refine (CF.out w6 HB6.out).mono ?_; rintro e w7 ⟨rfl, hb7⟩; obtain ⟨w8, hw8⟩ : ∃ w8, w8 = w7.alloc (.cells enZ 88) := ⟨_, rfl⟩; have R8 := hi_ (show Rec 88 w8 w7.heap.size enZ by rw [hw8]; exact Rec.new w7 _ _); have HB8 := hi_ (And.intro hb7 (show Below w7.heap.size w7 w8 by rw [hw8]; exact (Below.refl _ _).alloc (Nat.le_refl _) _)); clear hb7 m0 m1)
     | (rw [<- hw8]; clear hw8)
     | ((with_reducible refine wpList_stN n r ei eg (some ⟨q, 0, none⟩) enZ_size rfl (.tmp 6) (.tmp 35) rfl rfl rfl R8.out ?_); intro w9 hR9 hF9; have n1 := hR9.at_ 1; have n4 := hR9.at_ 4; have hb69 : Below w6.heap.size w6 w9 := (HB8.out.1.trans (HB8.out.2.mono HB8.out.1.size)).trans (hF9.toBelow (fun y hy => by rw [show y = w7.heap.size from hy]; exact HB8.out.1.size) (Nat.le_trans HB8.out.1.size HB8.out.2.size)); have HR9 := hi_ (HR6.out.under hb69); have HB9 := hi_ (HB6.out.trans (hb69.mono HB6.out.size)); clear hR9 hF9 hb69 R8 HB8)
     | (go_at_call 36; refine (CP.out w9 HB9.out).mono ?_; rintro e w10 ⟨PA, pn, pc, rfl, hP, hb10⟩; have h10 := HB9.out.trans (hb10.mono HB9.out.size); have m0 := (HR9.out.under hb10).at_ 0; have m1 := (HR9.out.under hb10).at_ 1; have c2 : w10.cell? ⟨g, 2, none⟩ = some (.slice EA j ec) := (HRr.out.under h10).at_ 2; obtain ⟨w11, hw11⟩ : ∃ w11, w11 = w10.alloc (.cells #[.int .i64 ei, .int .i64 eg, .slice PA pn pc] 95) := ⟨_, rfl⟩; have hb11 : Below w10.heap.size w10 w11 := (by rw [hw11]; exact (Below.refl _ _).alloc (Nat.le_refl _) _); have HV11 : Hid (VRow (fun x => w10.heap.size <= x) w11 (some ⟨w10.heap.size, 0, none⟩) 1 3 [.int .i64 ei, .int .i64 eg, .slice PA pn pc]) := hi_ (by rw [hw11]; exact VRow.new w10 #[.int .i64 ei, .int .i64 eg, .slice PA pn pc] _ 1 3 rfl); have G11 := hi_ (HGr.out.below EE.okE (h10.trans (hb11.mono h10.size))); have HE11 : Hid (EE (fun y => w9.heap.size <= y) w11 ((ei, eg), ep) [.int .i64 ei, .int .i64 eg, .slice PA pn pc]) := hi_ ⟨PA, pn, pc, rfl, hP.below hb11⟩; have H11 := hi_ (And.intro (h10.trans (hb11.mono h10.size)) (And.intro HB9.out.size hb10.size)); clear hP hb10 h10 hb11 n1 n4)
     | (rw [<- hw11]; clear hw11)
     | (at_builtin; refine wpList_appX entsT rfl (.tmp 47) (.tmp 51) rfl B (.slice EA j ec) j vs rfl (by have := G11.out.ow; rw [HLJ.out] at this; exact this) (some ⟨w10.heap.size, 0, none⟩) 1 1 [.int .i64 ei, .int .i64 eg, .slice PA pn pc] rfl HV11.out (fun u hu => by simp at hu; rcases hu with rfl | rfl | rfl <;> rfl) (by omega) (by decide) G11.out.Bw ?_; intro v12 w12 ho12 hg12 hv12; have hG12 := G11.out.put EE.okE rfl HE11.out (fun y hy e => by have := own_geB HGr.out.ow e; have := H11.out.2.1; omega) (by rw [HLJ.out]; exact ho12) hg12 hv12; have hF12 := Fr.grown hg12 (own := fun y => B <= y) (fun x hx => (own_geB G11.out.ow hx).1); obtain ⟨A12, c12, rfl, _, _, _⟩ := own_vrow ho12; have hR12 := (HRr.out.under H11.out.1).fr hF12 (fun e => by have := HGB.out; have e' : B <= g := e; omega); have k12 : w12.cell? ⟨g, 2, none⟩ = some (.slice EA j ec) := hR12.at_ 2; have f12 := hR12.fz 2; have G12 := hi_ hG12; have F12 := hi_ hF12; have R12 := hi_ hR12; clear hG12 hF12 hR12 ho12 hg12 hv12 c2 m0 m1))
    obtain ⟨w13, hw13⟩ : ∃ w13, w13 = w12.setCell ⟨g, 2, none⟩ (.slice A12 (j + 1) c12) := ⟨_, rfl⟩
    have hF13 : Fr (· = g) w12 w13 := by rw [hw13]; exact Fr.setCell (own := (· = g)) w12 (p := ⟨g, 2, none⟩) rfl _
    have hR13 : Rec 41 w13 g (stC GA gn gc FA fn fc A12 (j + 1) c12) := by rw [hw13]; exact R12.out.set 2 _
    rw [<- hw13]
    have hgB := HGB.out
    have h911 := H11.out.2.1
    have hD2 : ∀ y, (D y \/ (w9.heap.size <= y /\ y < w11.heap.size)) -> B <= y := fun y hy => by
     rcases hy with h | h
     ·exact HDr.out y h
     ·omega
    have hG13 := G12.out.fr EE.okE hF13 (fun y hy e => by have h := (own_geB G12.out.ow hy).1; have e' : y = g := e; omega) (fun y hy e => by have h := hD2 y hy; have e' : y = g := e; omega)
    rw [show es.take j ++ [((ei, eg), ep)] = es.take (j + 1) by rw [List.take_add_one, HX.out]; rfl] at hG13
    have hF : Fr (fun y => y = g \/ B <= y) wq w13 := ((HFr.out.trans (Fr.ofBelow _ H11.out.1)).trans (F12.out.mono (fun y hy => .inr hy))).trans (hF13.mono (fun y hy => .inl hy))
    exact ⟨⟨j + 1, A12, c12, _, _, hjn, by go_num, hG13, hR13, hD2, hF⟩, by simp [intOf]; omega⟩
   ·have hje : j = en := by omega
    subst hje
    have hes : es.take j = es := List.take_of_length_le (Nat.le_of_eq HE.out.symm)
    rw [hes] at hG
    obtain ⟨A2, c2, e2, _, _, hrw⟩ := hG.rows EE.okE
    injection e2 with e21 e22 e23
    subst e21 e23
    rw [<- e22] at hrw
    have hg1 := HG1.out
    have hrl := r1.lt
    have hcl := HRG.out.lt
    have hbc : Below w1.heap.size w1 wq := by
     have h := HQ.out.2
     exact (HCC.out.trans (h.mono HCC.out.size))
    have hrz : Rec 41 wr w.heap.size stZ := (r1.under hbc).fr hF (fun e => by rcases e with e | e <;> omega)
    have hrc : Rec 41 wc w.heap.size stZ := r1.under HCC.out
    obtain ⟨hGA, hFA, hGn, hFn⟩ := HGF.out
    have hqs := HQ.out.2.size
    have hB := HBB.out
    have hGr := (hGA.below HQ.out.2).frN hF (fun b o e hp hlt hh => by
     obtain ⟨b', o', e', hlt', _⟩ := hGA.2 hp
     rw [e] at e'
     injection e' with e'
     injection e' with e1 e2
     have := hGn b o e hp
     rcases hh with hh | hh <;> omega)
    have hFr := (hFA.below HQ.out.2).frN hF (fun b o e hp hlt hh => by
     obtain ⟨b', o', e', hlt', _⟩ := hFA.2 hp
     rw [e] at e'
     injection e' with e'
     injection e' with e1 e2
     have := hFn b o e hp
     rcases hh with hh | hh <;> omega)
    have HZ := hi_ (And.intro hGr (And.intro hFr (And.intro hrw (And.intro (hGA.ne_rec hrc) (hFA.ne_rec hrc)))))
    have HBr := hi_ hbr
    have HDr := hi_ hD
    have HSz := hi_ (And.intro hb1.size (And.intro hrl (And.intro hcl (And.intro hqs (And.intro hB hgB)))))
    clear hGr hFr hrw hGA hFA hGn hFn hrc hbc h1 hb1 r1 hT he hl hbq hbr hD hF hG hes hg1 hrl hcl hqs hB hgB
    go_wp2_with (first
     | ((with_reducible refine wpList_ldS stT rfl rfl (.tmp 3) rfl rfl hR ?_))
     | ((with_reducible refine wpList_stSt GA gn gc FA fn fc EA j ec rfl rfl (.tmp 2) (.tmp 55) rfl rfl rfl hrz ?_); intro w5 hR5 hF5))
    refine bodyPost_ret (res_c rfl rfl (hR5.load stT rfl)) rfl ?_
    obtain ⟨hGr, hFr, hrw, hGn, hFn⟩ := HZ.out
    obtain ⟨z1, z2, z3, z4, z5, z6⟩ := HSz.out
    have z7 := HG1.out
    refine ⟨GA, gc, FA, fc, EA, ec, rfl, ⟨hGr.frN hF5 (fun b o e hp _ hh => hGn b o e hp hh), hFr.frN hF5 (fun b o e hp _ hh => hFn b o e hp hh), ?_⟩, HBr.out.trans (hF5.toBelow (fun y hy => by rw [show y = w.heap.size from hy]; exact Nat.le_refl _) HBr.out.size)⟩
    have hE : EntsV (fun y => D y \/ (B <= y /\ y < wr.heap.size)) wr EA j es := hrw
    refine (hE.lt.stays ⟨hF5.size, fun y hy => hF5.block y hy.2 (fun e => ?_)⟩).mono (fun y hy => ?_)
    ·have e' : y = w.heap.size := e
     rcases hy.1 with h | h
     ·have := HDr.out y h; omega
     ·omega
    ·rcases hy.1 with h | h
     ·have := HDr.out y h; omega
     ·omega
end
end Go.Proofs.YtaoinkjjmakhaaaGreatDoor
namespace Go.Proofs.YtaoinkjjmakhaaaGreatDoor
open Go.RowKit
set_option maxRecDepth 20000
abbrev ColsL (K : Nat -> Prop) (w : World) (A : Option Addr) (n : Nat) (ls : List (List UInt8)) : Prop := RowsL 1 (EB K w) K w A n ls
theorem flat_one {α : Type} : ∀ vs : List α, (vs.map fun v => [v]).flatten = vs
 | [] => rfl
 | a :: l => by
  rw [List.map_cons, List.flatten_cons, flat_one l]
  rfl
theorem RowsV.l {K : Nat -> Prop} {w : World} {A : Option Addr} {n : Nat} {ls : List (List UInt8)} (h : RowsV K w A n ls) : ColsL K w A n ls := by
 obtain ⟨vs, h1, h2, h3, h4⟩ := h
 refine ⟨vs, h1, h2, vs.map fun v => [v], (flat_one vs).symm, by simpa using h3, fun r hr => ?_, fun j x hx => ?_⟩
 ·obtain ⟨v, _, rfl⟩ := List.mem_map.1 hr
  rfl
 ·obtain ⟨hj, e⟩ := List.getElem?_eq_some_iff.1 hx
  have hv := List.getElem?_eq_getElem (show j < vs.length by omega)
  have hvb := h4 j _ hv
  rw [List.getD_eq_getElem?_getD, hx] at hvb
  exact ⟨[vs[j]], by rw [List.getElem?_map, hv]; rfl, vs[j], rfl, hvb⟩
abbrev Rw : Type := Nat × List (Int × Int) × List (List UInt8)
def ERw (K : Nat -> Prop) (w : World) (x : Rw) (r : List Value) : Prop := ∃ (IA : Option Addr) (ic : Nat) (CA : Option Addr) (cc : Nat), r = [.int .u64 x.1, .slice IA x.2.1.length ic, .slice CA x.2.2.length cc] /\ IdsV K w IA x.2.1.length x.2.1 /\ ColsL K w CA x.2.2.length x.2.2
theorem IdsV.lt {K : Nat -> Prop} {w : World} {A : Option Addr} {n : Nat} {xs : List (Int × Int)} (h : IdsV K w A n xs) : IdsV (fun y => K y /\ y < w.heap.size) w A n xs := by
 obtain ⟨vs, h1, h2, h3⟩ := h
 exact ⟨vs, h1, h2.lt, h3⟩
section
variable {K K' : Nat -> Prop} {w w' : World} {A : Option Addr} {n : Nat} {ls : List (List UInt8)}
theorem ColsL.stays (h : ColsL K w A n ls) (hs : WStays K w w') : ColsL K w' A n ls := by
 obtain ⟨vs, h1, h2, h3⟩ := h
 exact ⟨vs, h1, h2.stays hs, h3.imp (fun _ _ hx => EB.ok.stays hx hs)⟩
theorem ColsL.mono (h : ColsL K w A n ls) (hk : ∀ y, K y -> K' y) : ColsL K' w A n ls := by
 obtain ⟨vs, h1, h2, h3⟩ := h
 exact ⟨vs, h1, h2.mono hk, h3.imp (fun _ _ hx => EB.ok.mono hx hk)⟩
theorem ColsL.lt (h : ColsL K w A n ls) : ColsL (fun y => K y /\ y < w.heap.size) w A n ls := by
 obtain ⟨vs, h1, h2, h3⟩ := h
 exact ⟨vs, h1, h2.lt, h3.imp (fun _ _ hx => EB.ok.lt hx)⟩
theorem ColsL.below (h : ColsL K w A n ls) (hb : Below w.heap.size w w') : ColsL K w' A n ls := (h.lt.stays ⟨hb.size, fun y hy => hb.block y hy.2⟩).mono (fun _ hy => hy.1)
end
theorem ERw.ok : EOk ERw where
 stays := fun ⟨IA, ic, CA, cc, e, h1, h2⟩ hs => ⟨IA, ic, CA, cc, e, h1.stays hs, ColsL.stays h2 hs⟩
 mono := fun ⟨IA, ic, CA, cc, e, h1, h2⟩ hk => ⟨IA, ic, CA, cc, e, h1.mono hk, ColsL.mono h2 hk⟩
 lt := fun ⟨IA, ic, CA, cc, e, h1, h2⟩ => ⟨IA, ic, CA, cc, e, h1.lt, ColsL.lt h2⟩
theorem rwsTP : El Tryz.prog 43 100 (.agg #[.int .u64 0, .slice none 0 0, .slice none 0 0]) 3 56 := ⟨Tryz.underlying43, by kernel_rfl, rfl, by decide⟩
abbrev RwsV (K : Nat -> Prop) (w : World) (A : Option Addr) (n : Nat) (xs : List Rw) : Prop := RowsL 3 (ERw K w) K w A n xs
end Go.Proofs.YtaoinkjjmakhaaaGreatDoor
namespace Go.Proofs.YtaoinkjjmakhaaaGreatDoor
open Go.RowKit
set_option maxRecDepth 20000
def rwC (sg : Nat) (IA : Option Addr) (n ic : Nat) (CA : Option Addr) (m cc : Nat) : Array Value := #[.int .u64 sg, .slice IA n ic, .slice CA m cc]
def rwZ : Array Value := rwC 0 none 0 0 none 0 0
theorem rwT : RT Tryz.prog 100 3 := ⟨⟨_, Tryz.underlying100, rfl⟩, by kernel_rfl⟩
def Tb.colsB (t : Tb) : List (List UInt8) := (List.range t.cs.length).map fun j => (t.co j).bytes
theorem Tb.colsB_len (t : Tb) : t.colsB.length = t.cs.length := by unfold Tb.colsB; simp
theorem Tb.colsB_at (t : Tb) {j : Nat} (hj : j < t.cs.length) : t.colsB[j]? = some (t.co j).bytes := by unfold Tb.colsB; simp [hj]
structure Sq (W0 W : World) (gI gA : Bool) (IA : Option Addr) (ids : List (Int × Int)) (ga : Nat) : Prop where
 b : Below W0.heap.size W0 W
 i : gI = true -> IdsV (fun y => W0.heap.size <= y) W IA ids.length ids
 a : gA = true -> Rec 100 W ga rwZ /\ W0.heap.size <= ga
section
variable {W0 W W' : World} {gI gA : Bool} {IA : Option Addr} {ids : List (Int × Int)} {ga : Nat}
theorem Sq.I {IA' : Option Addr} (h : Sq W0 W false gA IA ids ga) (hb : Below W.heap.size W W') (hi : IdsV (fun y => W.heap.size <= y) W' IA' ids.length ids) : Sq W0 W' true gA IA' ids ga :=
 ⟨h.b.trans (hb.mono h.b.size), fun _ => hi.mono (fun _ hy => Nat.le_trans h.b.size hy), fun e => ⟨(h.a e).1.under hb, (h.a e).2⟩⟩
theorem Sq.A (h : Sq W0 W gI false IA ids ga) : Sq W0 (W.alloc (.cells rwZ 100)) gI true IA ids W.heap.size :=
 have hb : Below W.heap.size W (W.alloc (.cells rwZ 100)) := (Below.refl _ _).alloc (Nat.le_refl _) _
 ⟨h.b.trans (hb.mono h.b.size), fun e => (h.i e).below hb, fun _ => ⟨Rec.new W _ _, h.b.size⟩⟩
end
theorem IdsV.ne_rec {K : Nat -> Prop} {W : World} {A : Option Addr} {n g : Nat} {xs : List (Int × Int)} (h : IdsV K W A n xs) (hr : Rec 100 W g rwZ) : ∀ b o, A = some ⟨b, o, none⟩ -> 0 < n -> b ≠ g := fun b o e hp hbg => by
 obtain ⟨x, hx⟩ : ∃ x, xs[0]? = some x := ⟨_, List.getElem?_eq_getElem (by rw [h.len]; exact hp)⟩
 obtain ⟨b', o', e', _, h0, _⟩ := h.cell hx
 rw [e] at e'
 injection e' with e'
 injection e' with e1 e2
 subst e1 e2 hbg
 rw [hr.at_] at h0
 simp only [Nat.zero_mul, Nat.add_zero] at h0
 match o, h0 with
 | 0, h0 => cases h0
 | 1, h0 => cases h0
 | 2, h0 => cases h0
 | n + 3, h0 => cases h0
theorem IdsV.frN {K : Nat -> Prop} {own : Nat -> Prop} {W W' : World} {A : Option Addr} {n : Nat} {xs : List (Int × Int)} (h : IdsV K W A n xs) (hf : Fr own W W') (hn : ∀ b o, A = some ⟨b, o, none⟩ -> 0 < n -> b < W.heap.size -> ¬ own b) : IdsV K W' A n xs := by
 obtain ⟨vs, h1, h2, h3⟩ := h
 exact ⟨vs, h1, ⟨h2.1, h2.2.1, fun hp => by
  obtain ⟨b, o, e, hk, hlt, hc⟩ := h2.2.2 hp
  exact ⟨b, o, e, hk, Nat.lt_of_lt_of_le hlt hf.size, fun j u hj => (World.cell?_of_block (hf.block b hlt (hn b o e hp hlt))).trans (hc j u hj)⟩⟩, h3⟩
theorem wpList_stRw {ops : Array Oper} {rest : List Oper} {o : Oper} {a : Act} {w : World} {Q : Exit -> Act -> World -> Prop} {g : Nat} {cs : Array Value} (sg : Nat) (IA : Option Addr) (n ic : Nat) (CA : Option Addr) (m cc : Nat) (hn : cs.size = 3) (hgd : Region.wanted o (yielded ops a.tmps) = true) (x y : Operand) (ho : o.op = .store 100 x y)
  (hx : a.eval x = .pointer (some ⟨g, 0, none⟩)) (hy : a.eval y = .agg (rwC sg IA n ic CA m cc)) (h : Rec 100 w g cs)
  (kk : ∀ w', Rec 100 w' g (rwC sg IA n ic CA m cc) -> Fr (· = g) w w' -> wpList Tryz.prog ops Q rest (a.put o.dst undef) w') : wpList Tryz.prog ops Q (o :: rest) a w :=
 wpList_stS rwT hn rfl (by simp [rwC, Value.oneCell']) hgd x y ho hx hy h kk
section
variable {w : World} {N : Nat} {tag : Nat -> Nat} {p m : Nat} {v : Value} {q : Nat -> Nat} {sg : Nat} {t : Tb}
set_option maxHeartbeats 2000000 in
theorem trows_any (h : TbA w N tag p m v q sg t) (hT : ∀ W, Below w.heap.size w W -> TabAt W) :
  Calls Tryz.prog 38 #[.pointer (some ⟨p, 0, none⟩)] w fun e w' => ∃ IA ic CA cc, e = .returned (.agg (rwC sg IA t.ids.length ic CA t.cs.length cc)) /\ IdsV (fun y => w.heap.size <= y) w' IA t.ids.length t.ids /\ ColsL (fun y => w.heap.size <= y) w' CA t.cs.length t.colsB /\ Below w.heap.size w w' := by
 obtain ⟨w1, hw1⟩ : ∃ w1, w1 = w.alloc (.cells #[.int .u64 0, .slice none 0 0, .slice none 0 0] 100) := ⟨_, rfl⟩
 have hb1 : Below w.heap.size w w1 := by rw [hw1]; exact (Below.refl _ _).alloc (Nat.le_refl _) _
 have r1 : Rec 100 w1 w.heap.size rwZ := by rw [hw1]; exact Rec.new w _ _
 have hl := h.ok.n
 have CS : Hid (∀ W, Below w1.heap.size w1 W -> Calls Tryz.prog 63 #[.pointer (some ⟨p, 0, none⟩)] W fun e w' => e = .returned (.int .u64 sg) /\ W = w') := hi_ (fun W hW => tsig_any (h.below (hb1.trans (hW.mono hb1.size))).i)
 have CI : Hid (∀ W, Below w1.heap.size w1 W -> Calls Tryz.prog 68 #[.pointer (some ⟨p, 0, none⟩)] W fun e w' => ∃ A c, e = .returned (.slice A t.ids.length c) /\ IdsV (fun y => W.heap.size <= y) w' A t.ids.length t.ids /\ Below W.heap.size W w') := hi_ (fun W hW => (TIDs_any (h.below (hb1.trans (hW.mono hb1.size))).i (by rw [t.ids_len]; exact hl)).mono (by
  rintro e w' ⟨A, c, rfl, hI, hb⟩
  exact ⟨A, c, rfl, hI.mono (fun y hy => hy.1), hb⟩))
 obtain ⟨n, hn⟩ : ∃ n, n = t.ids.length := ⟨_, rfl⟩
 obtain ⟨nc, hnc⟩ : ∃ nc, nc = t.cs.length := ⟨_, rfl⟩
 have CL : Hid (∀ W, Below w1.heap.size w1 W -> Calls Tryz.prog 85 #[.int .u64 sg] W fun e w' => ∃ LA lc, e = .returned (.slice LA nc lc) /\ IntsV (fun x => W.heap.size <= x /\ x < w'.heap.size) w' LA nc (t.cs.map (·.1)) /\ Below W.heap.size W w') := hi_ (fun W hW => by
  rw [hnc]
  exact tlist_any h.sig h.sgl (hT W (hb1.trans (hW.mono hb1.size))))
 have hcn : nc <= 64 := by rw [hnc]; exact h.ok.cn
 obtain ⟨ids, hids⟩ : ∃ ids, ids = t.ids := ⟨_, rfl⟩
 rw [<- hids] at CI hn ⊢
 rw [<- hn] at CI ⊢
 rw [<- hnc]
 have H1 := hi_ (And.intro h (And.intro hb1 (And.intro r1 hT)))
 have HN := hi_ hn
 have HNC := hi_ hnc
 clear h hb1 r1 hT hl hn hnc hids
 go_enter Tryz.func38, Tryz.ntmps38
 go_wp2_with (first
  | (rw [<- hw1]; clear hw1)
  | (go_at_call 63; refine (CS.out _ (Below.refl _ _)).mono ?_; rintro e w' ⟨rfl, rfl⟩)
  | (go_at_call 68; refine (CI.out _ (Below.refl _ _)).mono ?_; rintro e w2 ⟨IA, ic, rfl, hI, hb⟩; obtain ⟨w3, hw3⟩ : ∃ W, W = w2.alloc (.cells #[.int .u64 0, .slice none 0 0, .slice none 0 0] 100) := ⟨_, rfl⟩; have E3 := hi_ (show Sq w1 w3 true true IA ids w2.heap.size by rw [hw3]; exact (Sq.I (ga := 0) (IA := none) ⟨Below.refl _ _, (fun h => by cases h), (fun h => by cases h)⟩ hb (by rw [<- HN.out]; exact hI)).A); have R3 := hi_ (E3.out.a rfl).1; clear hI hb)
  | (rw [<- hw3]; clear hw3)
  | ((with_reducible refine wpList_stRw sg IA n ic none 0 0 rfl rfl (.tmp 3) (.tmp 12) rfl rfl rfl R3.out ?_); intro wc hRg hFX; have c0 : wc.cell? ⟨w2.heap.size, 0, none⟩ = some (.int .u64 sg) := hRg.at_ 0; have ei : IdsV (fun y => w1.heap.size <= y) w3 IA n ids := HN.out ▸ E3.out.i rfl; have HII := hi_ (And.intro (ei.frN hFX (fun b o e h1 _ hh => ei.ne_rec (E3.out.a rfl).1 b o e h1 hh)) (ei.ne_rec (E3.out.a rfl).1)); have HG1 := hi_ (E3.out.a rfl).2; have HCC := hi_ (E3.out.b.trans (hFX.toBelow (fun y hy => by rw [show y = _ from hy]; exact (E3.out.a rfl).2) E3.out.b.size)); have CL2 := hi_ (CL.out wc HCC.out); have HRG := hi_ hRg; clear CL CS CI E3 R3 hRg hFX ei)
  | (go_at_call 85; refine CL2.out.mono ?_; rintro e wq ⟨LA, lc, rfl, hLq, hbq⟩; have HQ := hi_ (And.intro hLq hbq); clear hLq hbq CL2 c0))
 obtain ⟨g, hg⟩ : ∃ g, g = w2.heap.size := ⟨_, rfl⟩
 rw [<- hg] at HII HG1 HRG ⊢
 clear hg
 obtain ⟨B, hB⟩ : ∃ B, B = wq.heap.size := ⟨_, rfl⟩
 have HBB := hi_ hB
 clear hB
 go_loopw [17] (fun iv wr => ∃ (j : Nat) (CA : Option Addr) (cc : Nat) (vs : List Value) (D : Nat -> Prop), j <= nc /\ iv = .int .i64 j /\ Gr EB 33 1 wr B (.slice CA j cc) vs D (t.colsB.take j) /\ Rec 100 wr g (rwC sg IA n ic CA j cc) /\ (∀ y, D y -> B <= y) /\ Fr (fun y => y = g \/ B <= y) wq wr) (fun iv _ => nc - (intOf iv).toNat)
 case atStart => exact ⟨0, none, 0, [], fun _ => False, Nat.zero_le _, rfl, Gr.start (World.ownsRow_nil _ _ _ _) (Nat.le_of_eq HBB.out), HRG.out.under HQ.out.2, fun _ h => h.elim, Fr.refl _ _⟩
 case round =>
  obtain ⟨j, CA, cc, vs, D, hj, rfl, hG, hR, hD, hF⟩ := hrel
  obtain ⟨hA, hb1, r1, hT⟩ := H1.out
  have hgB : g < B := by rw [HBB.out]; exact Nat.lt_of_lt_of_le HRG.out.lt HQ.out.2.size
  have hbq : Below w1.heap.size w1 wq := HCC.out.trans (HQ.out.2.mono HCC.out.size)
  have hbr : Below w.heap.size w wr := (hb1.trans (hbq.mono hb1.size)).trans (hF.toBelow (fun y hy => by have := hb1.size; have := HG1.out; have := HBB.out; have := hbq.size; rcases hy with hy | hy <;> omega) (Nat.le_trans hb1.size hbq.size))
  by_cases hjn : j < nc
  ·have hjc : j < t.cs.length := by rw [<- HNC.out]; exact hjn
   have hLr := HQ.out.1.stays (w' := wr) ⟨hF.size, fun x hx => hF.block x hx.2 (fun h2 => by have := HRG.out.lt; have := HBB.out; rcases h2 with h2 | h2 <;> omega)⟩
   obtain ⟨b, o, hLA, hblt, kk⟩ := hLr.cell (get_fst hjc)
   have hcol := Tb.col_at hA.ok hjc
   have hci := Tb.comp_in hA.ok hjc
   have hcb := t.colsB_at hjc
   have hcl := t.colsB_len
   obtain ⟨kx, hkx⟩ : ∃ kx, kx = (t.cs.getD j (0, 0)).1 := ⟨_, rfl⟩
   obtain ⟨bs, hbs⟩ : ∃ bs, bs = (t.co j).bytes := ⟨_, rfl⟩
   rw [<- hkx] at kk hcol hci
   rw [<- hbs] at hcol hcb
   have HLA := hi_ hLA
   subst hLA
   have CC : Hid (Calls Tryz.prog 91 #[.pointer (some ⟨p, 0, none⟩), .int .i64 kx] wr fun e w' => ∃ A m c, e = .returned (.tuple #[.slice A m c, .bool true]) /\ VB (fun x => wr.heap.size <= x) w' (.slice A m c) bs /\ Below wr.heap.size wr w') := hi_ (by
    have := TCol_go (hA.below hbr) hci
    rw [hcol] at this
    exact this)
   have HLJ := hi_ (show (t.colsB.take j).length = j by rw [List.length_take, hcl]; omega)
   have HX := hi_ hcb
   have HGr := hi_ hG
   have HRr := hi_ hR
   have HFr := hi_ hF
   have HDr := hi_ hD
   have HGB := hi_ hgB
   have HBs := hi_ hG.Bw
   clear hA hb1 r1 hT hbq hbr hcol hci hcb hcl hkx hbs hG hR hF hD hgB hLr hblt
   go_wp2_with (first
    | (go_at_call 91; refine CC.out.mono ?_; rintro e w10 ⟨QA, qn, qc, rfl, hV, hb10⟩; have c2 : w10.cell? ⟨g, 2, none⟩ = some (.slice CA j cc) := (HRr.out.under hb10).at_ 2; obtain ⟨w11, hw11⟩ : ∃ w11, w11 = w10.alloc (.cells #[.slice QA qn qc] 33) := ⟨_, rfl⟩; have hb11 : Below w10.heap.size w10 w11 := (by rw [hw11]; exact (Below.refl _ _).alloc (Nat.le_refl _) _); have HV11 : Hid (VRow (fun x => w10.heap.size <= x) w11 (some ⟨w10.heap.size, 0, none⟩) 1 1 [.slice QA qn qc]) := hi_ (by rw [hw11]; exact VRow.new w10 #[.slice QA qn qc] _ 1 1 rfl); have G11 := hi_ (HGr.out.below EB.ok (hb10.trans (hb11.mono hb10.size))); have HE11 : Hid (EB (fun y => wr.heap.size <= y) w11 bs [.slice QA qn qc]) := hi_ ⟨_, rfl, hV.below hb11⟩; have H11 := hi_ (hb10.trans (hb11.mono hb10.size)); clear hV hb10 hb11 CC kk)
    | (rw [<- hw11]; clear hw11)
    | (at_builtin; refine wpList_appX bbT rfl (.tmp 28) (.tmp 30) rfl B (.slice CA j cc) j vs rfl (by have := G11.out.ow; rw [HLJ.out] at this; exact this) (some ⟨w10.heap.size, 0, none⟩) 1 1 [.slice QA qn qc] rfl HV11.out (fun u hu => by simp at hu; subst hu; rfl) (by omega) (by decide) G11.out.Bw ?_; intro v12 w12 ho12 hg12 hv12; have hG12 := G11.out.put EB.ok rfl HE11.out (fun y hy e => by have := own_geB HGr.out.ow e; omega) (by rw [HLJ.out]; exact ho12) hg12 hv12; have hF12 := Fr.grown hg12 (own := fun y => B <= y) (fun x hx => (own_geB G11.out.ow hx).1); obtain ⟨A12, c12, rfl, _, _, _⟩ := own_vrow ho12; have hR12 := (HRr.out.under H11.out).fr hF12 (fun e => by have := HGB.out; have e' : B <= g := e; omega); have k12 : w12.cell? ⟨g, 2, none⟩ = some (.slice CA j cc) := hR12.at_ 2; have f12 := hR12.fz 2; have G12 := hi_ hG12; have F12 := hi_ hF12; have R12 := hi_ hR12; clear hG12 hF12 hR12 ho12 hg12 hv12 c2))
   obtain ⟨w13, hw13⟩ : ∃ w13, w13 = w12.setCell ⟨g, 2, none⟩ (.slice A12 (j + 1) c12) := ⟨_, rfl⟩
   have hF13 : Fr (· = g) w12 w13 := by rw [hw13]; exact Fr.setCell (own := (· = g)) w12 (p := ⟨g, 2, none⟩) rfl _
   have hR13 : Rec 100 w13 g (rwC sg IA n ic A12 (j + 1) c12) := by rw [hw13]; exact R12.out.set 2 _
   rw [<- hw13]
   have hgB := HGB.out
   have hBs := HBs.out
   have hD2 : ∀ y, (D y \/ (wr.heap.size <= y /\ y < w11.heap.size)) -> B <= y := fun y hy => by
    rcases hy with h | h
    ·exact HDr.out y h
    ·omega
   have hG13 := G12.out.fr EB.ok hF13 (fun y hy e => by have h := (own_geB G12.out.ow hy).1; have e' : y = g := e; omega) (fun y hy e => by have h := hD2 y hy; have e' : y = g := e; omega)
   rw [show t.colsB.take j ++ [bs] = t.colsB.take (j + 1) by rw [List.take_add_one, HX.out]; rfl] at hG13
   have hF : Fr (fun y => y = g \/ B <= y) wq w13 := ((HFr.out.trans (Fr.ofBelow _ H11.out)).trans (F12.out.mono (fun y hy => .inr hy))).trans (hF13.mono (fun y hy => .inl hy))
   exact ⟨⟨j + 1, A12, c12, _, _, hjn, by go_num, hG13, hR13, hD2, hF⟩, by simp [intOf]; omega⟩
  ·have hje : j = nc := by omega
   subst hje
   have hes : t.colsB.take j = t.colsB := List.take_of_length_le (by rw [t.colsB_len]; exact Nat.le_of_eq HNC.out.symm)
   rw [hes] at hG
   obtain ⟨A2, c2, e2, _, _, hrw⟩ := hG.rows EB.ok
   injection e2 with e21 e22 e23
   subst e21 e23
   rw [<- e22] at hrw
   have hg1 := HG1.out
   have hrl := r1.lt
   have hcl := HRG.out.lt
   have hbc : Below w1.heap.size w1 wq := hbq
   have hrz : Rec 100 wr w.heap.size rwZ := (r1.under hbc).fr hF (fun e => by rcases e with e | e <;> omega)
   obtain ⟨hI, hIn⟩ := HII.out
   have hqs := HQ.out.2.size
   have hB := HBB.out
   have hIr := (hI.below HQ.out.2).frN hF (fun b o e hp hlt hh => by
    have := hIn b o e hp
    obtain ⟨_, _, hV, _⟩ := hI
    obtain ⟨b', o', e', _, hlt', _⟩ := hV.2.2 (by omega)
    rw [e] at e'
    injection e' with e'
    injection e' with e1 e2
    rcases hh with hh | hh <;> omega)
   have HZ := hi_ (And.intro hIr (And.intro hrw hI))
   have HBr := hi_ hbr
   have HDr := hi_ hD
   have HSz := hi_ (And.intro hb1.size (And.intro hrl (And.intro hcl (And.intro hqs (And.intro hB hgB)))))
   clear hIr hrw hI hIn hbc hA hb1 r1 hT hbq hbr hD hF hG hes hg1 hrl hcl hqs hB hgB
   go_wp2_with (first
    | ((with_reducible refine wpList_ldS rwT rfl rfl (.tmp 3) rfl rfl hR ?_))
    | ((with_reducible refine wpList_stRw sg IA n ic CA j cc rfl rfl (.tmp 2) (.tmp 34) rfl rfl rfl hrz ?_); intro w5 hR5 hF5))
   refine bodyPost_ret (res_c rfl rfl (hR5.load rwT rfl)) rfl ?_
   obtain ⟨hIr, hrw, hI⟩ := HZ.out
   obtain ⟨z1, z2, z3, z4, z5, z6⟩ := HSz.out
   have z7 := HG1.out
   refine ⟨IA, ic, CA, cc, rfl, (hIr.frN hF5 (fun b o e hp _ hh => by
    obtain ⟨_, _, hV, _⟩ := hI
    obtain ⟨b', o', e', hk, _⟩ := hV.2.2 (by omega)
    rw [e] at e'
    injection e' with e'
    injection e' with e1 e2
    have hk' : w1.heap.size <= b' := hk
    have hh' : b = w.heap.size := hh
    omega)).mono (fun y hy => Nat.le_trans z1 hy), ?_, HBr.out.trans (hF5.toBelow (fun y hy => by rw [show y = w.heap.size from hy]; exact Nat.le_refl _) HBr.out.size)⟩
   obtain ⟨ws, q1, q2, q3⟩ := hrw
   have hst : WStays (fun y => (D y \/ (B <= y /\ y < wr.heap.size)) /\ y < wr.heap.size) wr w5 := ⟨hF5.size, fun y hy => hF5.block y hy.2 (fun e => by
    have e' : y = w.heap.size := e
    rcases hy.1 with h | h
    ·have := HDr.out y h; omega
    ·omega)⟩
   have hge : ∀ y, (D y \/ (B <= y /\ y < wr.heap.size)) /\ y < wr.heap.size -> w.heap.size <= y := fun y hy => by
    rcases hy.1 with h | h
    ·have := HDr.out y h; omega
    ·omega
   exact ⟨ws, q1, (q2.lt.stays hst).mono hge, q3.imp (fun x r hx => EB.ok.mono (EB.ok.stays (EB.ok.lt hx) hst) hge)⟩
end
end Go.Proofs.YtaoinkjjmakhaaaGreatDoor
namespace Go.Proofs.YtaoinkjjmakhaaaGreatDoor
open Go.RowKit
set_option maxRecDepth 20000
def Ks.rw (k : Ks) (n : Nat) : Rw := match k.tb n with | some t => (k.sg n, t.ids, t.colsB) | none => (0, [], [])
section
variable {w : World} {N : Nat} {gr : Nat -> Nat} {x : Fx} {k : Ks} {c : Nat} {pt : Nat -> Nat}
set_option maxHeartbeats 2000000 in
theorem erows_yes (h : CoJ 0 w N gr x k c pt) (hT : ∀ W, Below w.heap.size w W -> TabAt W) (hc : c <= 1000000) (hS : k.S.length <= 1000000000) :
  Calls Tryz.prog 12 #[.pointer (some ⟨x.p, 0, none⟩)] w fun e w' => ∃ (A : Option Addr) (m cc : Nat) (ns : List Nat), e = .returned (.slice A m cc) /\ m = ns.length /\ ns.Nodup /\ (∀ n, n ∈ ns ↔ (k.tb n).isSome = true) /\ ns.length <= c /\ ns.Pairwise (fun a b => k.sg a <= k.sg b) /\ RwsV (fun y => w.heap.size <= y) w' A m (ns.map k.rw) /\ Below w.heap.size w w' := by
 have CS := hi_ (sorted_any h (by omega) hS)
 have H0 := hi_ (And.intro h (And.intro hT hc))
 clear h hT hc hS
 go_enter Tryz.func12, Tryz.ntmps12
 go_wp2_with (go_at_call 37; refine CS.out.mono ?_; rintro e ws ⟨LA, ln, lc, ns, rfl, h1, h2, h3, h4, h5, h6, h7⟩; have HL := hi_ h1; have HM := hi_ h3; have HN := hi_ (And.intro h2 (And.intro h4 h5)); have HR := hi_ h6; have HB := hi_ h7; clear h1 h2 h3 h4 h5 h6 h7 CS)
 obtain ⟨B, hB⟩ : ∃ B, B = ws.heap.size := ⟨_, rfl⟩
 have HBB := hi_ hB
 clear hB
 go_loopw [3, 11] (fun ov iv wr => ∃ (j : Nat) (vs : List Value) (D : Nat -> Prop), j <= ln /\ iv = .int .i64 j /\ Gr ERw 100 3 wr B ov vs D ((ns.take j).map k.rw) /\ (∀ y, D y -> B <= y) /\ Fr (fun y => B <= y) ws wr) (fun _ iv _ => ln - (intOf iv).toNat)
 case atStart => exact ⟨0, [], fun _ => False, Nat.zero_le _, rfl, Gr.start (World.ownsRow_nil _ _ _ _) (Nat.le_of_eq HBB.out), fun _ h => h.elim, Fr.refl _ _⟩
 case round =>
  obtain ⟨j, vs, D, hj, rfl, hG, hD, hF⟩ := hrel
  obtain ⟨h, hT, hc⟩ := H0.out
  have hbs : Below w.heap.size w wr := HB.out.trans (hF.toBelow (fun y hy => by have := HBB.out; have := HB.out.size; omega) HB.out.size)
  by_cases hjn : j < ln
  ·have hjl : j < ns.length := by rw [<- HL.out]; exact hjn
   obtain ⟨n, hn⟩ : ∃ n, ns[j]? = some n := ⟨_, List.getElem?_eq_getElem hjl⟩
   have hnt := (HM.out n).1 (List.mem_of_getElem? hn)
   obtain ⟨t, ht⟩ := Option.isSome_iff_exists.1 hnt
   obtain ⟨gb, hLA, hg1, hg2, hgc⟩ := HR.out (by omega)
   subst hLA
   have kk : wr.cell? ⟨gb, j, none⟩ = some (.pointer (some ⟨pt n, 0, none⟩)) := (World.cell?_of_block (hF.block gb hg2 (fun e => by have := HBB.out; omega))).trans (hgc j n hn)
   obtain ⟨s, tag, m, v, q, hs, hA, hg⟩ := (h.below hbs).tab n t (by omega) ht
   have hrw : k.rw n = (s, t.ids, t.colsB) := by unfold Ks.rw Ks.sg; rw [ht]; simp [hs]
   obtain ⟨p, hp⟩ : ∃ p, p = pt n := ⟨_, rfl⟩
   rw [<- hp] at kk hA
   have hcl := t.colsB_len
   have CR : Hid (Calls Tryz.prog 38 #[.pointer (some ⟨p, 0, none⟩)] wr fun e w' => ∃ IA in_ ic CA cn cc, e = .returned (.agg #[.int .u64 s, .slice IA in_ ic, .slice CA cn cc]) /\ ERw (fun y => wr.heap.size <= y) w' (k.rw n) [.int .u64 s, .slice IA in_ ic, .slice CA cn cc] /\ Below wr.heap.size wr w') := hi_ ((trows_any hA (fun W hW => hT W (hbs.trans (hW.mono hbs.size)))).mono (by
    rintro e w' ⟨IA, ic, CA, cc, rfl, hI, hC, hb⟩
    refine ⟨IA, _, ic, CA, _, cc, rfl, ?_, hb⟩
    rw [hrw]
    exact ⟨IA, ic, CA, cc, by simp only [hcl], hI, by simp only [hcl]; exact hC⟩))
   have HLJ := hi_ (show ((ns.take j).map k.rw).length = j by rw [List.length_map, List.length_take]; omega)
   have HX := hi_ (And.intro hn (show j + 1 <= 1000000 by have := HN.out.2.1; omega))
   have hjb : j + 1 <= 1000000 := HX.out.2
   have HGr := hi_ hG
   have HFr := hi_ hF
   have HDr := hi_ hD
   clear h hT hc hbs hjl hn hnt ht hg1 hg2 hgc hs hA hg hrw hp hcl hG hD hF
   go_wp2_with (first
    | (go_at_call 38; refine CR.out.mono ?_; rintro e w10 ⟨IA, in_, ic, CA, cn, cc, rfl, hE, hb10⟩; obtain ⟨w11, hw11⟩ : ∃ w11, w11 = w10.alloc (.cells #[.int .u64 s, .slice IA in_ ic, .slice CA cn cc] 100) := ⟨_, rfl⟩; have hb11 : Below w10.heap.size w10 w11 := (by rw [hw11]; exact (Below.refl _ _).alloc (Nat.le_refl _) _); have HV11 : Hid (VRow (fun x => w10.heap.size <= x) w11 (some ⟨w10.heap.size, 0, none⟩) 1 3 [.int .u64 s, .slice IA in_ ic, .slice CA cn cc]) := hi_ (by rw [hw11]; exact VRow.new w10 #[.int .u64 s, .slice IA in_ ic, .slice CA cn cc] _ 1 3 rfl); have G11 := hi_ (HGr.out.below ERw.ok (hb10.trans (hb11.mono hb10.size))); have HE11 := hi_ (ERw.ok.below hE hb11); have H11 := hi_ (hb10.trans (hb11.mono hb10.size)); clear hE hb10 hb11 CR kk)
    | (rw [<- hw11]; clear hw11)
    | (at_builtin; refine wpList_appX rwsTP rfl (.tmp 15) (.tmp 18) rfl B _ j vs rfl (by have := G11.out.ow; rw [HLJ.out] at this; exact this) (some ⟨w10.heap.size, 0, none⟩) 1 1 [.int .u64 s, .slice IA in_ ic, .slice CA cn cc] rfl HV11.out (fun u hu => by simp at hu; rcases hu with rfl | rfl | rfl <;> rfl) (by have := HX.out.2; omega) (by decide) G11.out.Bw ?_; intro v12 w12 ho12 hg12 hv12; have G12 := hi_ (G11.out.put ERw.ok rfl HE11.out (fun y hy e => by have := own_geB HGr.out.ow e; omega) (by rw [HLJ.out]; exact ho12) hg12 hv12); have F12 := hi_ (Fr.grown hg12 (own := fun y => B <= y) (fun x hx => (own_geB G11.out.ow hx).1)); clear ho12 hg12 hv12))
   go_roundw
   case rel =>
    refine ⟨j + 1, _, _, hjn, by go_num, (by have := G12.out; rw [show (ns.take j).map k.rw ++ [k.rw n] = (ns.take (j + 1)).map k.rw by rw [List.take_add_one, HX.out.1]; simp] at this; exact this), ?_, (HFr.out.trans (Fr.ofBelow _ H11.out)).trans F12.out⟩
    intro y hy
    rcases hy with hy | hy
    ·exact HDr.out y hy
    ·have := HGr.out.Bw
     omega
   case measure => simp [intOf]; omega
  ·obtain rfl : j = ln := by omega
   have hes : ns.take j = ns := List.take_of_length_le (Nat.le_of_eq HL.out.symm)
   rw [hes] at hG
   obtain ⟨A2, c2, hov, _, _, hrw⟩ := hG.rows ERw.ok
   subst hov
   have hge : ∀ y, (D y \/ (B <= y /\ y < wr.heap.size)) -> w.heap.size <= y := fun y hy => by
    have := HBB.out
    have := HB.out.size
    rcases hy with h | h
    ·have := hD y h; omega
    ·omega
   have HZ := hi_ (And.intro hrw (And.intro hbs hge))
   clear hrw hbs hge h hT hc hG hD hF hes
   go_wp2
   go_ret
   obtain ⟨⟨vs2, q1, q2, q3⟩, hbs, hge⟩ := HZ.out
   exact ⟨A2, _, c2, ns, rfl, by simp, HN.out.1, HM.out, HN.out.2.1, HN.out.2.2, ⟨vs2, q1, q2.mono hge, q3.imp (fun _ _ hx => ERw.ok.mono hx hge)⟩, hbs⟩
end
end Go.Proofs.YtaoinkjjmakhaaaGreatDoor
namespace Go.Proofs.YtaoinkjjmakhaaaGreatDoor
open Go.RowKit
set_option maxRecDepth 20000
section
variable {w w' : World} {N : Nat} {gr : Nat -> Nat} {x : Fx} {k : Ks} {c : Nat} {pt : Nat -> Nat}
theorem CoJ.tab_in {i s p' m nt N1 : Nat} {q : Nat -> Nat} {tag : Nat -> Nat} {v : Value} {t : Tb} (h : CoJ 0 w N gr x k c pt) (hA : TbA w N1 tag p' m v q s t) (hN1 : N <= N1) (hd : ∀ y, tag y ≠ 0 -> gr y = 0) (hs : k.S[i]? = some s)
  (hm : MapT w' x.mt nt (fun a => if a = i then some (.pointer (some ⟨p', 0, none⟩)) else tbV k.tb pt a)) (hg : w.grownBy w' (some x.mt)) (hn : nt <= c + 1) :
  ∃ gr', CoJ 0 w' N gr' x { k with tb := upd k.tb i (some t) } (c + 1) (upd pt i p') /\ Fr (fun y => gr y ≠ 0) w w' /\ ∀ y, gr' y ≠ 0 -> gr y ≠ 0 \/ tag y ≠ 0 \/ w.heap.size <= y := by
 have hg2 : gr x.mt = 2 := h.gt
 have hf : Fr (fun y => gr y = 2) w w' := Fr.grown hg (fun y e => by injection e with e; subst e; exact h.gt)
 have hsz := hf.size
 have T := (h.turn (j := 2) (by decide) (by decide) (by decide) hf).more (Nat.le_succ c)
 have hA2 : TbA w' N1 tag p' m v q s t := hA.kept (own' := fun y => y = x.mt) (Fr.grown hg (fun y e => by injection e with e; exact e.symm)) (fun y hy e => by have := hd y hy; rw [e] at this; omega)
 have tg : ∀ y, grw gr w w' 2 y ≠ 0 -> tag y = 0 := fun y hy => by
  refine Classical.byContradiction fun ht => ?_
  have h2 := hA.i.dom y ht
  unfold grw at hy
  rw [if_pos h2] at hy
  exact hy (hd y ht)
 have U := T.wider (gr2 := fun y => if tag y ≠ 0 then i + 8 else grw gr w w' 2 y) (fun y hy => if_neg (fun hn => hn (tg y hy)))
  (fun y hy => by
   by_cases ht : tag y ≠ 0
   ·have := hA.i.dom y ht; omega
   ·exact T.dom y (by simpa [ht] using hy))
  (fun y hy => by
   by_cases ht : tag y ≠ 0
   ·have := hA.i.lo y ht; omega
   ·exact T.lo y (by simpa [ht] using hy))
 refine ⟨_, {
   blk := U.blk, kd := U.kd, kA := U.kA, ids := fun _ => U.ids (by decide), gph := fun _ => U.gph (by decide), mpt := fun _ => ⟨nt, hn, hm.congr fun a _ => ?_⟩, mpp := fun _ => U.mpp (by decide),
   tab := fun a t0 _ ht => ?_, gp := U.gp, gt := U.gt, gm := U.gm, dom := U.dom, lo := U.lo }, hf.mono (fun y hy => by have hy : gr y = 2 := hy; show gr y ≠ 0; omega), fun y hy => ?_⟩
 ·show _ = tbV (upd k.tb i (some t)) (upd pt i p') a
  unfold tbV upd
  by_cases e : a = i
  ·rw [if_pos e, if_pos e, if_pos e]; rfl
  ·rw [if_neg e, if_neg e, if_neg e]
 ·have ht : upd k.tb i (some t) a = some t0 := ht
  unfold upd at ht
  by_cases e : a = i
  ·subst e
   rw [if_pos rfl] at ht
   injection ht with ht
   subst ht
   refine ⟨s, tag, m, v, q, hs, ?_, fun y hy => if_pos hy⟩
   rw [show upd pt a p' a = p' from if_pos rfl]
   exact hA2.lower hN1
  ·rw [if_neg e] at ht
   rw [show upd pt i p' a = pt a from if_neg e]
   exact U.tab a t0 (by omega) ht
 ·by_cases ht : tag y ≠ 0
  ·exact .inr (.inl ht)
  ·have hy' : grw gr w w' 2 y ≠ 0 := by simpa [ht] using hy
   unfold grw at hy'
   split at hy'
   ·exact .inl hy'
   ·rename_i hn; exact .inr (.inr (by omega))
theorem CoJ.put_in {n s p' m N1 : Nat} {q : Nat -> Nat} {tag : Nat -> Nat} {v : Value} {t : Tb} (h : CoJ 0 w N gr x k c pt) (hc : c <= 1000000) (hn : okN n) (hA : TbA w N1 tag p' m v q s t) (hN1 : N <= N1) (hd : ∀ y, tag y ≠ 0 -> gr y = 0) (hs : k.S[n]? = some s) :
  ∃ w', (Instr.mapUpdate 79 (.map (some x.mt)) (.int .i64 (n : Int)) (.pointer (some ⟨p', 0, none⟩))).run Tryz.prog w = .ok () w' /\ ∃ gr', CoJ 0 w' N gr' x { k with tb := upd k.tb n (some t) } (c + 1) (upd pt n p') /\ Fr (fun y => gr y ≠ 0) w w' /\ ∀ y, gr' y ≠ 0 -> gr y ≠ 0 \/ tag y ≠ 0 \/ w.heap.size <= y := by
 obtain ⟨nt, hnt, hm⟩ := h.mpt (by decide)
 obtain ⟨w', hrun, hm', hg⟩ := hm.put kfN Tryz.underlying79 (by unfold maxLen; omega) hn (.pointer (some ⟨p', 0, none⟩))
 obtain ⟨gr', h', hG⟩ := h.tab_in hA hN1 hd hs hm' hg (show (if (tbV k.tb pt n).isSome = true then nt else nt + 1) <= c + 1 by split <;> omega)
 exact ⟨w', hrun, gr', h', hG⟩
end
def layP (al : Int × Int -> Bool) (n : Nat) : Nat -> List (Int × Int) -> (Int × Int -> Option (Nat × Nat)) -> Option (Int × Int -> Option (Nat × Nat))
 | _, [], pl => some pl
 | r, id :: l, pl => if (pl id).isSome || !al id then none else layP al n (r + 1) l (fun j => if j = id then some (n, r) else pl j)
theorem layP_snoc (al : Int × Int -> Bool) (n : Nat) : ∀ (r : Nat) (l : List (Int × Int)) (id : Int × Int) (pl : Int × Int -> Option (Nat × Nat)), layP al n r (l ++ [id]) pl = (layP al n r l pl).bind fun q => if (q id).isSome || !al id then none else some (fun j => if j = id then some (n, r + l.length) else q j)
 | r, [], id, pl => by simp only [List.nil_append, layP, Option.bind_some, List.length_nil, Nat.add_zero]
 | r, a :: l, id, pl => by
  show (if (pl a).isSome || !al a then none else layP al n (r + 1) (l ++ [id]) _) = _
  rw [layP]
  by_cases h : ((pl a).isSome || !al a) = true
  ·rw [if_pos h, if_pos h]; rfl
  ·rw [if_neg h, if_neg h, layP_snoc al n (r + 1) l id]
   congr 1
   funext q
   rw [List.length_cons, show r + 1 + l.length = r + (l.length + 1) by omega]
theorem layP_none_append (al : Int × Int -> Bool) (n : Nat) : ∀ (r : Nat) (l m : List (Int × Int)) (pl : Int × Int -> Option (Nat × Nat)), layP al n r l pl = none -> layP al n r (l ++ m) pl = none
 | r, [], m, pl, h => by cases h
 | r, a :: l, m, pl, h => by
  show (if (pl a).isSome || !al a then none else layP al n (r + 1) (l ++ m) _) = none
  rw [layP] at h
  by_cases h2 : ((pl a).isSome || !al a) = true
  ·rw [if_pos h2]
  ·rw [if_neg h2] at h ⊢
   exact layP_none_append al n (r + 1) l m _ h
end Go.Proofs.YtaoinkjjmakhaaaGreatDoor
