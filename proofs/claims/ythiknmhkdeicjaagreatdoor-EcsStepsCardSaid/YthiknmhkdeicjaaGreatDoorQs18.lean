/- EcU, EcN, EcP -/
import Derived.Test.YthiknmhkdeicjaaGreatDoorQs1
import Derived.Test.YthiknmhkdeicjaaGreatDoorQs3
import Derived.Test.YthiknmhkdeicjaaGreatDoorQs17
namespace Go.Proofs.YthiknmhkdeicjaaGreatDoor
open Go.RowKit
set_option maxRecDepth 20000
theorem EE.okE : EOk EE where
 stays := fun ⟨A, n, c, e, hp⟩ hs => ⟨A, n, c, e, hp.stays hs⟩
 mono := fun ⟨A, n, c, e, hp⟩ hk => ⟨A, n, c, e, hp.mono hk⟩
 lt := fun ⟨A, n, c, e, hp⟩ => ⟨A, n, c, e, hp.lt⟩
structure Ks.Has (k : Ks) (es : List En) : Prop where
 per : (k.idsOf (sigsL k.S 0 0 k.S.length)).Perm (es.map (·.1))
 up : es.Pairwise fun a b => a.1.1 < b.1.1
 on : ∀ e ∈ es, okE e.1 /\ ∃ n r t, k.pl e.1 = some (n, r) /\ k.tb n = some t /\ okN n /\ r < t.rows.length /\ (t.rows.getD r noEn).2 = e.2
theorem Ks.Has.ys {k : Ks} {es : List En} (h : k.Has es) {ys : List (Int × Int)} (hp : ys.Perm (k.idsOf (sigsL k.S 0 0 k.S.length))) (hu : ys.Pairwise (fun a b => a.1 <= b.1)) : ys = es.map (·.1) := by
 have hpp := hp.trans h.per
 have hlt : (es.map (·.1)).Pairwise (fun a b : Int × Int => a.1 < b.1) := List.pairwise_map.2 h.up
 refine List.Perm.eq_of_pairwise (le := fun a b : Int × Int => a.1 <= b.1) (fun a b ha hb h1 h2 => ?_) hu (hlt.imp fun h => Int.le_of_lt h) hpp
 have ha' := hpp.subset ha
 obtain ⟨i, hi, rfl⟩ := List.getElem_of_mem ha'
 obtain ⟨j, hj, rfl⟩ := List.getElem_of_mem hb
 rcases Nat.lt_trichotomy i j with h | h | h
 ·have := List.pairwise_iff_getElem.1 hlt i j hi hj h; omega
 ·subst h; rfl
 ·have := List.pairwise_iff_getElem.1 hlt j i hj hi h; omega
structure Su (W0 W : World) (gG gF gA : Bool) (GA : Option Addr) (gs : List Int) (FA : Option Addr) (fs : List Int) (ga : Nat) : Prop where
 b : Below W0.heap.size W0 W
 g : gG = true -> IRd W GA gs.length gs
 f : gF = true -> IRd W FA fs.length fs
 a : gA = true -> Rec 37 W ga stZ /\ W0.heap.size <= ga
section
variable {W0 W W' : World} {gG gF gA : Bool} {GA FA : Option Addr} {gs fs : List Int} {ga : Nat}
theorem Su.start (W : World) (gs fs : List Int) : Su W W.drew false false false none gs none fs 0 := ⟨(Below.refl _ _).drew, (fun h => by cases h), (fun h => by cases h), (fun h => by cases h)⟩
theorem Su.G {GA' : Option Addr} (h : Su W0 W false gF gA GA gs FA fs ga) (hb : Below W.heap.size W W') (hg : IRd W' GA' gs.length gs) : Su W0 W' true gF gA GA' gs FA fs ga :=
 ⟨h.b.trans (hb.mono h.b.size), fun _ => hg, fun e => (h.f e).below hb, fun e => ⟨(h.a e).1.under hb, (h.a e).2⟩⟩
theorem Su.F {FA' : Option Addr} (h : Su W0 W gG false gA GA gs FA fs ga) (hb : Below W.heap.size W W') (hf : IRd W' FA' fs.length fs) : Su W0 W' gG true gA GA gs FA' fs ga :=
 ⟨h.b.trans (hb.mono h.b.size), fun e => (h.g e).below hb, fun _ => hf, fun e => ⟨(h.a e).1.under hb, (h.a e).2⟩⟩
theorem Su.A (h : Su W0 W gG gF false GA gs FA fs ga) : Su W0 (W.alloc (.cells stZ 37)) gG gF true GA gs FA fs W.heap.size :=
 have hb : Below W.heap.size W (W.alloc (.cells stZ 37)) := (Below.refl _ _).alloc (Nat.le_refl _) _
 ⟨h.b.trans (hb.mono h.b.size), fun e => (h.g e).below hb, fun e => (h.f e).below hb, fun _ => ⟨Rec.new W _ _, h.b.size⟩⟩
end
theorem IRd.ne_rec {W : World} {A : Option Addr} {n g : Nat} {zs : List Int} (h : IRd W A n zs) (hr : Rec 37 W g stZ) : ∀ b o, A = some ⟨b, o, none⟩ -> 0 < n -> b ≠ g := fun b o e hp hbg => by
 obtain ⟨b', o', e', _, hc⟩ := h.2 hp
 rw [e] at e'
 injection e' with e'
 injection e' with e1 e2
 subst e1 e2 hbg
 have h0 := hc 0 (by rw [h.1]; exact hp)
 rw [hr.at_] at h0
 match o, h0 with
 | 0, h0 => cases h0
 | 1, h0 => cases h0
 | 2, h0 => cases h0
 | n + 3, h0 => cases h0
theorem IRd.frN {own : Nat -> Prop} {W W' : World} {A : Option Addr} {n : Nat} {zs : List Int} (h : IRd W A n zs) (hf : Fr own W W') (hn : ∀ b o, A = some ⟨b, o, none⟩ -> 0 < n -> b < W.heap.size -> ¬ own b) : IRd W' A n zs :=
 ⟨h.1, fun hp => by
  obtain ⟨b, o, e, hlt, hc⟩ := h.2 hp
  exact ⟨b, o, e, Nat.lt_of_lt_of_le hlt hf.size, fun j hj => (World.cell?_of_block (hf.block b hlt (hn b o e hp hlt))).trans (hc j hj)⟩⟩
section
variable {w : World} {N : Nat} {gr : Nat -> Nat} {x : Fx} {k : Ks} {c : Nat} {pt : Nat -> Nat}
theorem CoJ.parts (h : CoJ 0 w N gr x k c pt) (hT : TabAt w) {n r : Nat} {t : Tb} (ht : k.tb n = some t) (hr : r < t.rows.length) :
  Calls Tryz.prog 51 #[.pointer (some ⟨pt n, 0, none⟩), .int .i64 (r : Int)] w fun e w' => ∃ PA pn pc, e = .returned (.tuple #[.slice PA pn pc, .int .i64 0]) /\ PartsV (fun y => w.heap.size <= y) w' PA pn (t.rows.getD r noEn).2 /\ Below w.heap.size w w' := by
 obtain ⟨s, tag, m, v, qq, hs, hA, hg⟩ := h.tab n t (by omega) ht
 refine (TParts_ok hA.i hA.sig hA.sgl hT hA.ok.cn hA.hrw r (by rw [t.ids_len]; exact hr)).mono ?_
 rintro e w' ⟨PA, pc, rfl, hP, hb⟩
 rw [Tb.rowL_eq hA.ok hr] at hP
 exact ⟨PA, _, pc, rfl, hP, hb⟩
set_option maxHeartbeats 2000000 in
theorem estate_yes (h : CoJ 0 w N gr x k c pt) (hT : TabN N w) {es : List En} (he : k.Has es) (hS : k.S.length <= 5000) (hl : es.length <= 1000000) :
  Calls Tryz.prog 18 #[.pointer (some ⟨x.p, 0, none⟩)] w fun e w' => ∃ GA gc FA fc EA ec, e = .returned (.agg (stC GA k.ns.g.length gc FA k.ns.fr.length fc EA es.length ec)) /\ StV (fun y => w.heap.size <= y) w' GA k.ns.g.length FA k.ns.fr.length EA es.length k.ns.g k.ns.fr es /\ Below w.heap.size w w' := by
 obtain ⟨w1, hw1, hb1, r1⟩ := state_start w
 have CQ : Hid (∀ W, Below w.heap.size w W -> Calls Tryz.prog 20 #[.pointer (some ⟨x.p, 0, none⟩), .int .u64 0, .int .u64 0] W fun e w' => ∃ A cc, e = .returned (.slice A es.length cc) /\ IdsV (fun y => W.heap.size <= y) w' A es.length (es.map (·.1)) /\ Below W.heap.size W w') := hi_ (fun W hW => (equery_yes (h.below hW) 0 0 (by decide) (by decide) hS).mono (by
  rintro e w' ⟨A, m, cc, ys, rfl, hm, hI, hp, hu, hb⟩
  have hy := he.ys hp hu
  subst hy
  have hm' : m = es.length := by rw [hm, List.length_map]
  subst hm'
  exact ⟨A, cc, rfl, hI, hb⟩))
 obtain ⟨gv, av, fv, I⟩ := h.ids (by decide)
 have CG : Hid (∀ W, Below w1.heap.size w1 W -> Calls Tryz.prog 48 #[.pointer (some ⟨x.pi, 0, none⟩)] W fun e w' => ∃ A c, e = .returned (.slice A k.ns.g.length c) /\ IRd w' A k.ns.g.length k.ns.g /\ Below W.heap.size W w') := hi_ (fun W hW => Gens_any (I.below (hb1.trans (hW.mono hb1.size))))
 have CF : Hid (∀ W, Below w1.heap.size w1 W -> Calls Tryz.prog 49 #[.pointer (some ⟨x.pi, 0, none⟩)] W fun e w' => ∃ A c, e = .returned (.slice A k.ns.fr.length c) /\ IRd w' A k.ns.fr.length k.ns.fr /\ Below W.heap.size W w') := hi_ (fun W hW => Free_any (I.below (hb1.trans (hW.mono hb1.size))))
 have h1 := h.below hb1
 have KS : Hid (∀ W, Below w1.heap.size w1 W -> W.cell? ⟨x.p, 5, none⟩ = some (.pointer (some ⟨x.pi, 0, none⟩))) := hi_ (fun W hW => (h1.below hW).c5)
 obtain ⟨gs, hgs⟩ : ∃ gs, gs = k.ns.g := ⟨_, rfl⟩
 obtain ⟨fs, hfs⟩ : ∃ fs, fs = k.ns.fr := ⟨_, rfl⟩
 rw [<- hgs] at CG ⊢
 rw [<- hfs] at CF ⊢
 have E0 := hi_ (Su.start w1 gs fs)
 have s0 := KS.out w1.drew E0.out.b
 have H1 := hi_ (And.intro h1 (And.intro hb1 (And.intro r1 (And.intro hT (And.intro he hl)))))
 obtain ⟨gn, hgn⟩ : ∃ gn, gn = gs.length := ⟨_, rfl⟩
 obtain ⟨fn, hfn⟩ : ∃ fn, fn = fs.length := ⟨_, rfl⟩
 obtain ⟨en, hen⟩ : ∃ en, en = es.length := ⟨_, rfl⟩
 rw [<- hgn] at CG
 rw [<- hfn] at CF
 rw [<- hen] at CQ
 rw [<- hgn, <- hfn, <- hen]
 have HG := hi_ hgn
 have HF := hi_ hfn
 have HE := hi_ hen
 have HH := hi_ h
 clear h h1 hb1 r1 hT he hS hl I hgs hfs hgn hfn hen
 go_enter Tryz.func18, Tryz.ntmps18
 go_upto_region 3 with (rw [<- hw1]; clear hw1)
 go_cut [3] (fun av wl => ∃ (g : Nat) (GA : Option Addr) (gc : Nat) (FA : Option Addr) (fc : Nat), av = .pointer (some ⟨g, 0, none⟩) /\ Rec 37 wl g (stC GA gn gc FA fn fc none 0 0) /\ IRd wl GA gn gs /\ IRd wl FA fn fs /\ (∀ b o, GA = some ⟨b, o, none⟩ -> 0 < gn -> b ≠ g) /\ (∀ b o, FA = some ⟨b, o, none⟩ -> 0 < fn -> b ≠ g) /\ w1.heap.size <= g /\ Below w1.heap.size w1 wl)
 case first =>
  refine wp_region_noPanic ?_
  refine wp_region_held_drew (S := fun W => W.cell? ⟨x.p, 5, none⟩ = some (.pointer (some ⟨x.pi, 0, none⟩))) (by kernel_rfl) s0 (fun hHeld => ?_)
  refine wpAnyH_take (i := 0) (oi := ⟨some 13, .move (.tmp 0), 30, "ecs.go:178", #[], none⟩) (v := ?_) rfl (by kernel_rfl) (by kernel_rfl) (by kernel_rfl) (fun _ _ _ h => h) (Or.inl ⟨by rfl, ?_⟩) (by assumption) ?_
  rotate_left 1
  ·intro w' hSw; (try dsimp only at hSw); go_simp; (try with_reducible rfl)
  simp only [Act.put, sA_, sB_, sC_]
  refine wpAnyH_take (i := 1) (oi := ⟨some 14, .nilCheck (.tmp 13), 0, "ecs.go:178", #[⟨0, .data⟩], none⟩) (v := ?_) rfl (by kernel_rfl) (by kernel_rfl) (by kernel_rfl) (fun _ _ _ h => h) (Or.inl ⟨by rfl, ?_⟩) (by assumption) ?_
  rotate_left 1
  ·intro w' hSw; (try dsimp only at hSw); go_simp; (try with_reducible rfl)
  simp only [Act.put, sA_, sB_, sC_]
  refine wpAnyH_take (i := 2) (oi := ⟨some 15, .fieldAddr 86 (.tmp 14) 1, 0, "ecs.go:178", #[⟨1, .data⟩], none⟩) (v := ?_) rfl (by kernel_rfl) (by kernel_rfl) (by kernel_rfl) (fun _ _ _ h => h) (Or.inl ⟨by rfl, ?_⟩) (by assumption) ?_
  rotate_left 1
  ·intro w' hSw; (try dsimp only at hSw); go_simp; (try with_reducible rfl)
  simp only [Act.put, sA_, sB_, sC_]
  refine wpAnyH_take (i := 3) (oi := ⟨some 16, .load 77 (.tmp 15), 77, "ecs.go:178", #[⟨2, .data⟩], none⟩) (v := ?_) rfl (by kernel_rfl) (by kernel_rfl) (by kernel_rfl) (fun _ _ _ h => h) (Or.inl ⟨by rfl, ?_⟩) (by assumption) ?_
  rotate_left 1
  ·intro w' hSw; (try dsimp only at hSw); go_simp; (try with_reducible rfl)
  simp only [Act.put, sA_, sB_, sC_]
  refine wpAnyH_take (i := 5) (oi := ⟨some 18, .move (.tmp 0), 30, "ecs.go:178", #[], none⟩) (v := ?_) rfl (by kernel_rfl) (by kernel_rfl) (by kernel_rfl) (fun _ _ _ h => h) (Or.inl ⟨by rfl, ?_⟩) (by assumption) ?_
  rotate_left 1
  ·intro w' hSw; (try dsimp only at hSw); go_simp; (try with_reducible rfl)
  simp only [Act.put, sA_, sB_, sC_]
  refine wpAnyH_take (i := 6) (oi := ⟨some 19, .nilCheck (.tmp 18), 0, "ecs.go:178", #[⟨5, .data⟩], none⟩) (v := ?_) rfl (by kernel_rfl) (by kernel_rfl) (by kernel_rfl) (fun _ _ _ h => h) (Or.inl ⟨by rfl, ?_⟩) (by assumption) ?_
  rotate_left 1
  ·intro w' hSw; (try dsimp only at hSw); go_simp; (try with_reducible rfl)
  simp only [Act.put, sA_, sB_, sC_]
  refine wpAnyH_take (i := 7) (oi := ⟨some 20, .fieldAddr 86 (.tmp 19) 1, 0, "ecs.go:178", #[⟨6, .data⟩], none⟩) (v := ?_) rfl (by kernel_rfl) (by kernel_rfl) (by kernel_rfl) (fun _ _ _ h => h) (Or.inl ⟨by rfl, ?_⟩) (by assumption) ?_
  rotate_left 1
  ·intro w' hSw; (try dsimp only at hSw); go_simp; (try with_reducible rfl)
  simp only [Act.put, sA_, sB_, sC_]
  refine wpAnyH_take (i := 8) (oi := ⟨some 21, .load 77 (.tmp 20), 77, "ecs.go:178", #[⟨7, .data⟩], none⟩) (v := ?_) rfl (by kernel_rfl) (by kernel_rfl) (by kernel_rfl) (fun _ _ _ h => h) (Or.inl ⟨by rfl, ?_⟩) (by assumption) ?_
  rotate_left 1
  ·intro w' hSw; (try dsimp only at hSw); go_simp; (try with_reducible rfl)
  simp only [Act.put, sA_, sB_, sC_]
  refine wpAnyH_ready (rs := [4, 11]) (by kernel_rfl) (by simp) ?_
  refine AllReadyH.cons (o := ⟨some 17, .call { callee := .value (.func 48), args := #[.tmp 16], argTypes := #[77] }, 34, "ecs.go:178", #[⟨3, .data⟩], none⟩) rfl (fun K' hK => ?_) (AllReadyH.cons (o := ⟨some 3, .alloc 37, 0, "ecs.go:178", #[], none⟩) rfl (fun K' hK => ?_) AllReadyH.nil)
  ·go_simp
   go_at_call 48; refine (CG.out w1.drew E0.out.b).mono ?_; rintro e wG ⟨GA, gc, rfl, hI, hb⟩
   have E0G := hi_ (E0.out.G hb (HG.out ▸ hI))
   have s0G := KS.out wG E0G.out.b
   clear hb hI
   refine hK.out _ _ s0G (fun hHeld => ?_)
   clear hK K'
   try simp only [Act.put, sA_, sB_, sC_]
   refine wpAnyH_ready (rs := [9, 11]) (by kernel_rfl) (by simp) ?_
   refine AllReadyH.cons (o := ⟨some 22, .call { callee := .value (.func 49), args := #[.tmp 21], argTypes := #[77] }, 34, "ecs.go:178", #[⟨8, .data⟩, ⟨4, .chain⟩], none⟩) rfl (fun K' hK => ?_) (AllReadyH.cons (o := ⟨some 3, .alloc 37, 0, "ecs.go:178", #[], none⟩) rfl (fun K' hK => ?_) AllReadyH.nil)
   ·go_simp
    go_at_call 49; refine (CF.out wG E0G.out.b).mono ?_; rintro e wGF ⟨FA, fc, rfl, hI, hb⟩
    have E0GF := hi_ (E0G.out.F hb (HF.out ▸ hI))
    have s0GF := KS.out wGF E0GF.out.b
    clear hb hI
    refine hK.out _ _ s0GF (fun hHeld => ?_)
    clear hK K'
    try simp only [Act.put, sA_, sB_, sC_]
    refine wpAnyH_take (i := 10) (oi := ⟨some 23, .build 37 #[(0, .tmp 17), (1, .tmp 22)], 37, "ecs.go:178", #[⟨4, .data⟩, ⟨9, .data⟩], none⟩) (v := ?_) rfl (by kernel_rfl) (by kernel_rfl) (by kernel_rfl) (fun _ _ _ h => h) (Or.inl ⟨by rfl, ?_⟩) (by assumption) ?_
    rotate_left 1
    ·intro w' hSw; (try dsimp only at hSw); go_simp; (try with_reducible rfl)
    simp only [Act.put, sA_, sB_, sC_]
    refine wpAnyH_ready (rs := [11]) (by kernel_rfl) (by simp) ?_
    refine AllReadyH.cons (o := ⟨some 3, .alloc 37, 0, "ecs.go:178", #[], none⟩) rfl (fun K' hK => ?_) AllReadyH.nil
    go_simp
    obtain ⟨wGFA, hwGFA⟩ : ∃ W, W = wGF.alloc (.cells stZ 37) := ⟨_, rfl⟩
    rw [<- hwGFA]
    have E0GFA := hi_ (show Su w1 wGFA _ _ _ _ _ _ _ _ by rw [hwGFA]; exact E0GF.out.A)
    have s0GFA := KS.out wGFA E0GFA.out.b
    clear hwGFA
    refine hK.out _ _ s0GFA (fun hHeld => ?_)
    clear hK K'
    try simp only [Act.put, sA_, sB_, sC_]
    refine wpAnyH_ready (rs := [12]) (by kernel_rfl) (by simp) ?_
    refine AllReadyH.cons (o := ⟨none, .store 37 (.tmp 3) (.tmp 23), 0, "ecs.go:178", #[⟨11, .data⟩, ⟨10, .data⟩, ⟨9, .chain⟩, ⟨0, .phase⟩, ⟨1, .phase⟩, ⟨2, .phase⟩, ⟨3, .phase⟩, ⟨4, .phase⟩, ⟨5, .phase⟩, ⟨6, .phase⟩, ⟨7, .phase⟩, ⟨8, .phase⟩, ⟨9, .phase⟩, ⟨10, .phase⟩, ⟨11, .phase⟩], none⟩) rfl (fun K' hK => ?_) AllReadyH.nil
    have ea := (E0GFA.out.a rfl)
    have eg := HG.out ▸ E0GFA.out.g rfl
    have ef := HF.out ▸ E0GFA.out.f rfl
    have eb := E0GFA.out.b
    refine step_stS (cs' := stC GA gn gc FA fn fc none 0 0) stT rfl rfl (by simp [Value.oneCell']) rfl (.tmp 3) (.tmp 23) rfl rfl rfl ea.1 ?_
    intro wX hRX hFX
    have SX := hi_ (And.intro hRX (And.intro (eg.frN hFX (fun b o e h1 _ hh => eg.ne_rec ea.1 b o e h1 hh)) (And.intro (ef.frN hFX (fun b o e h1 _ hh => ef.ne_rec ea.1 b o e h1 hh)) (And.intro (eg.ne_rec ea.1) (And.intro (ef.ne_rec ea.1) (And.intro ea.2 (eb.trans (hFX.toBelow (fun y hy => by rw [show y = _ from hy]; exact ea.2) eb.size))))))))
    have s0GFAX := KS.out wX SX.out.2.2.2.2.2.2
    clear ea eg ef eb hRX hFX
    refine hK.out _ _ s0GFAX (fun hHeld => ?_)
    clear hK K'
    try simp only [Act.put]
    refine wpAnyH_done (by kernel_rfl) ?_ _
    refine NoPanic.normal ?_
    go_wp2_with fail
    go_meet
    case' rel => exact ⟨_, GA, gc, FA, fc, rfl, SX.out⟩
   ·go_simp
    obtain ⟨wGA, hwGA⟩ : ∃ W, W = wG.alloc (.cells stZ 37) := ⟨_, rfl⟩
    rw [<- hwGA]
    have E0GA := hi_ (show Su w1 wGA _ _ _ _ _ _ _ _ by rw [hwGA]; exact E0G.out.A)
    have s0GA := KS.out wGA E0GA.out.b
    clear hwGA
    refine hK.out _ _ s0GA (fun hHeld => ?_)
    clear hK K'
    try simp only [Act.put, sA_, sB_, sC_]
    refine wpAnyH_ready (rs := [9]) (by kernel_rfl) (by simp) ?_
    refine AllReadyH.cons (o := ⟨some 22, .call { callee := .value (.func 49), args := #[.tmp 21], argTypes := #[77] }, 34, "ecs.go:178", #[⟨8, .data⟩, ⟨4, .chain⟩], none⟩) rfl (fun K' hK => ?_) AllReadyH.nil
    go_simp
    go_at_call 49; refine (CF.out wGA E0GA.out.b).mono ?_; rintro e wGAF ⟨FA, fc, rfl, hI, hb⟩
    have E0GAF := hi_ (E0GA.out.F hb (HF.out ▸ hI))
    have s0GAF := KS.out wGAF E0GAF.out.b
    clear hb hI
    refine hK.out _ _ s0GAF (fun hHeld => ?_)
    clear hK K'
    try simp only [Act.put, sA_, sB_, sC_]
    refine wpAnyH_take (i := 10) (oi := ⟨some 23, .build 37 #[(0, .tmp 17), (1, .tmp 22)], 37, "ecs.go:178", #[⟨4, .data⟩, ⟨9, .data⟩], none⟩) (v := ?_) rfl (by kernel_rfl) (by kernel_rfl) (by kernel_rfl) (fun _ _ _ h => h) (Or.inl ⟨by rfl, ?_⟩) (by assumption) ?_
    rotate_left 1
    ·intro w' hSw; (try dsimp only at hSw); go_simp; (try with_reducible rfl)
    simp only [Act.put, sA_, sB_, sC_]
    refine wpAnyH_ready (rs := [12]) (by kernel_rfl) (by simp) ?_
    refine AllReadyH.cons (o := ⟨none, .store 37 (.tmp 3) (.tmp 23), 0, "ecs.go:178", #[⟨11, .data⟩, ⟨10, .data⟩, ⟨9, .chain⟩, ⟨0, .phase⟩, ⟨1, .phase⟩, ⟨2, .phase⟩, ⟨3, .phase⟩, ⟨4, .phase⟩, ⟨5, .phase⟩, ⟨6, .phase⟩, ⟨7, .phase⟩, ⟨8, .phase⟩, ⟨9, .phase⟩, ⟨10, .phase⟩, ⟨11, .phase⟩], none⟩) rfl (fun K' hK => ?_) AllReadyH.nil
    have ea := (E0GAF.out.a rfl)
    have eg := HG.out ▸ E0GAF.out.g rfl
    have ef := HF.out ▸ E0GAF.out.f rfl
    have eb := E0GAF.out.b
    refine step_stS (cs' := stC GA gn gc FA fn fc none 0 0) stT rfl rfl (by simp [Value.oneCell']) rfl (.tmp 3) (.tmp 23) rfl rfl rfl ea.1 ?_
    intro wX hRX hFX
    have SX := hi_ (And.intro hRX (And.intro (eg.frN hFX (fun b o e h1 _ hh => eg.ne_rec ea.1 b o e h1 hh)) (And.intro (ef.frN hFX (fun b o e h1 _ hh => ef.ne_rec ea.1 b o e h1 hh)) (And.intro (eg.ne_rec ea.1) (And.intro (ef.ne_rec ea.1) (And.intro ea.2 (eb.trans (hFX.toBelow (fun y hy => by rw [show y = _ from hy]; exact ea.2) eb.size))))))))
    have s0GAFX := KS.out wX SX.out.2.2.2.2.2.2
    clear ea eg ef eb hRX hFX
    refine hK.out _ _ s0GAFX (fun hHeld => ?_)
    clear hK K'
    try simp only [Act.put]
    refine wpAnyH_done (by kernel_rfl) ?_ _
    refine NoPanic.normal ?_
    go_wp2_with fail
    go_meet
    case' rel => exact ⟨_, GA, gc, FA, fc, rfl, SX.out⟩
  ·go_simp
   obtain ⟨wA, hwA⟩ : ∃ W, W = (w1.alloc (.cells stZ 37)).drew := ⟨_, rfl⟩
   rw [<- hwA]
   have E0A := hi_ (show Su w1 wA _ _ _ _ _ _ _ _ by rw [hwA]; exact E0.out.A)
   have s0A := KS.out wA E0A.out.b
   clear hwA
   refine hK.out _ _ s0A (fun hHeld => ?_)
   clear hK K'
   try simp only [Act.put, sA_, sB_, sC_]
   refine wpAnyH_ready (rs := [4]) (by kernel_rfl) (by simp) ?_
   refine AllReadyH.cons (o := ⟨some 17, .call { callee := .value (.func 48), args := #[.tmp 16], argTypes := #[77] }, 34, "ecs.go:178", #[⟨3, .data⟩], none⟩) rfl (fun K' hK => ?_) AllReadyH.nil
   go_simp
   go_at_call 48; refine (CG.out wA E0A.out.b).mono ?_; rintro e wAG ⟨GA, gc, rfl, hI, hb⟩
   have E0AG := hi_ (E0A.out.G hb (HG.out ▸ hI))
   have s0AG := KS.out wAG E0AG.out.b
   clear hb hI
   refine hK.out _ _ s0AG (fun hHeld => ?_)
   clear hK K'
   try simp only [Act.put, sA_, sB_, sC_]
   refine wpAnyH_ready (rs := [9]) (by kernel_rfl) (by simp) ?_
   refine AllReadyH.cons (o := ⟨some 22, .call { callee := .value (.func 49), args := #[.tmp 21], argTypes := #[77] }, 34, "ecs.go:178", #[⟨8, .data⟩, ⟨4, .chain⟩], none⟩) rfl (fun K' hK => ?_) AllReadyH.nil
   go_simp
   go_at_call 49; refine (CF.out wAG E0AG.out.b).mono ?_; rintro e wAGF ⟨FA, fc, rfl, hI, hb⟩
   have E0AGF := hi_ (E0AG.out.F hb (HF.out ▸ hI))
   have s0AGF := KS.out wAGF E0AGF.out.b
   clear hb hI
   refine hK.out _ _ s0AGF (fun hHeld => ?_)
   clear hK K'
   try simp only [Act.put, sA_, sB_, sC_]
   refine wpAnyH_take (i := 10) (oi := ⟨some 23, .build 37 #[(0, .tmp 17), (1, .tmp 22)], 37, "ecs.go:178", #[⟨4, .data⟩, ⟨9, .data⟩], none⟩) (v := ?_) rfl (by kernel_rfl) (by kernel_rfl) (by kernel_rfl) (fun _ _ _ h => h) (Or.inl ⟨by rfl, ?_⟩) (by assumption) ?_
   rotate_left 1
   ·intro w' hSw; (try dsimp only at hSw); go_simp; (try with_reducible rfl)
   simp only [Act.put, sA_, sB_, sC_]
   refine wpAnyH_ready (rs := [12]) (by kernel_rfl) (by simp) ?_
   refine AllReadyH.cons (o := ⟨none, .store 37 (.tmp 3) (.tmp 23), 0, "ecs.go:178", #[⟨11, .data⟩, ⟨10, .data⟩, ⟨9, .chain⟩, ⟨0, .phase⟩, ⟨1, .phase⟩, ⟨2, .phase⟩, ⟨3, .phase⟩, ⟨4, .phase⟩, ⟨5, .phase⟩, ⟨6, .phase⟩, ⟨7, .phase⟩, ⟨8, .phase⟩, ⟨9, .phase⟩, ⟨10, .phase⟩, ⟨11, .phase⟩], none⟩) rfl (fun K' hK => ?_) AllReadyH.nil
   have ea := (E0AGF.out.a rfl)
   have eg := HG.out ▸ E0AGF.out.g rfl
   have ef := HF.out ▸ E0AGF.out.f rfl
   have eb := E0AGF.out.b
   refine step_stS (cs' := stC GA gn gc FA fn fc none 0 0) stT rfl rfl (by simp [Value.oneCell']) rfl (.tmp 3) (.tmp 23) rfl rfl rfl ea.1 ?_
   intro wX hRX hFX
   have SX := hi_ (And.intro hRX (And.intro (eg.frN hFX (fun b o e h1 _ hh => eg.ne_rec ea.1 b o e h1 hh)) (And.intro (ef.frN hFX (fun b o e h1 _ hh => ef.ne_rec ea.1 b o e h1 hh)) (And.intro (eg.ne_rec ea.1) (And.intro (ef.ne_rec ea.1) (And.intro ea.2 (eb.trans (hFX.toBelow (fun y hy => by rw [show y = _ from hy]; exact ea.2) eb.size))))))))
   have s0AGFX := KS.out wX SX.out.2.2.2.2.2.2
   clear ea eg ef eb hRX hFX
   refine hK.out _ _ s0AGFX (fun hHeld => ?_)
   clear hK K'
   try simp only [Act.put]
   refine wpAnyH_done (by kernel_rfl) ?_ _
   refine NoPanic.normal ?_
   go_wp2_with fail
   go_meet
   case' rel => exact ⟨_, GA, gc, FA, fc, rfl, SX.out⟩
 case rest =>
  obtain ⟨g, GA, gc, FA, fc, rfl, hRg, hGA, hFA, hGn, hFn, hg1, hbl⟩ := hcut
  have hbwl := H1.out.2.1.trans (hbl.mono H1.out.2.1.size)
  have CQ2 := hi_ (CQ.out wc hbwl)
  have HBL := hi_ hbwl
  have HCC := hi_ hbl
  have HRG := hi_ hRg
  have HGF := hi_ (And.intro hGA (And.intro hFA (And.intro hGn hFn)))
  have HG1 := hi_ hg1
  clear CQ CG CF KS E0 s0 hbwl hRg hGA hFA hGn hFn hg1 hbl
  go_wp2_with (go_at_call 20; refine CQ2.out.mono ?_; rintro e wq ⟨QA, qc, rfl, hIq, hbq⟩; have HQ := hi_ (And.intro hIq hbq); clear hIq hbq CQ2)
  obtain ⟨B, hB⟩ : ∃ B, B = wq.heap.size := ⟨_, rfl⟩
  have HBB := hi_ hB
  clear hB
  go_loopw [27] (fun iv wr => ∃ (j : Nat) (EA : Option Addr) (ec : Nat) (vs : List Value) (D : Nat -> Prop), j <= en /\ iv = .int .i64 j /\ Gr EE 101 3 wr B (.slice EA j ec) vs D (es.take j) /\ Rec 37 wr g (stC GA gn gc FA fn fc EA j ec) /\ (∀ y, D y -> B <= y) /\ Fr (fun y => y = g \/ B <= y) wq wr) (fun iv _ => en - (intOf iv).toNat)
  case atStart => exact ⟨0, none, 0, [], fun _ => False, Nat.zero_le _, rfl, Gr.start (World.ownsRow_nil _ _ _ _) (Nat.le_of_eq HBB.out), HRG.out.under HQ.out.2, fun _ h => h.elim, Fr.refl _ _⟩
  case round =>
   obtain ⟨j, EA, ec, vs, D, hj, rfl, hG, hR, hD, hF⟩ := hrel
   obtain ⟨h1, hb1, r1, hT, he, hl⟩ := H1.out
   have hgB : g < B := by rw [HBB.out]; exact Nat.lt_of_lt_of_le HRG.out.lt HQ.out.2.size
   have hbq := HBL.out.trans (HQ.out.2.mono HBL.out.size)
   have hbr : Below w.heap.size w wr := hbq.trans (hF.toBelow (fun y hy => by have := hb1.size; have := HG1.out; have := HBB.out; have := hbq.size; rcases hy with hy | hy <;> omega) hbq.size)
   by_cases hjn : j < en
   ·obtain ⟨e, hej⟩ : ∃ e, es[j]? = some e := ⟨_, List.getElem?_eq_getElem (by rw [<- HE.out]; exact hjn)⟩
    have hem := List.mem_of_getElem? hej
    obtain ⟨hok, n, r, t, hpl, htb, hn, hr, hpe⟩ := he.on e hem
    obtain ⟨qb, qo, hQA, hqlt, q0, q1⟩ := HQ.out.1.cell (j := j) (x := e.1) (by rw [List.getElem?_map, hej]; rfl)
    have hqg : qb ≠ g := fun hh => by
     obtain ⟨_, _, hV, _⟩ := HQ.out.1
     obtain ⟨b', o', e', hk, _⟩ := hV.2.2 (by omega)
     rw [hQA] at e'
     injection e' with e'
     injection e' with e1 e2
     have := HRG.out.lt
     have hk' : wc.heap.size <= b' := hk
     omega
    subst hQA
    obtain ⟨⟨ei, eg⟩, ep⟩ := e
    simp only at hok hpl hpe q0 q1
    have hqB : ¬ (qb = g \/ B <= qb) := fun hh => by have := HBB.out; rcases hh with hh | hh <;> omega
    have k0 : wr.cell? ⟨qb, qo + j * 2, none⟩ = some (.int .i64 ei) := (World.cell?_of_block (hF.block qb hqlt hqB)).trans q0
    have k1 : wr.cell? ⟨qb, qo + j * 2 + 1, none⟩ = some (.int .i64 eg) := (World.cell?_of_block (hF.block qb hqlt hqB)).trans q1
    obtain ⟨q, hq⟩ : ∃ q : Nat, q = pt n := ⟨_, rfl⟩
    have hrr := HH.out.below hbr
    obtain ⟨w5, hw5⟩ : ∃ w5, w5 = wr.alloc (.cells #[.int .i64 0, .int .i64 0] 39) := ⟨_, rfl⟩
    have R5 := hi_ (show Rec 39 w5 wr.heap.size #[.int .i64 0, .int .i64 0] by rw [hw5]; exact Rec.new wr _ _)
    have HB5 := hi_ (show Below wr.heap.size wr w5 by rw [hw5]; exact (Below.refl _ _).alloc (Nat.le_refl _) _)
    have CF : Hid (∀ W, Below wr.heap.size wr W -> Calls Tryz.prog 50 #[.pointer (some ⟨x.p, 0, none⟩), .agg #[.int .i64 ei, .int .i64 eg]] W fun e w' => e = .returned (.tuple #[.agg (enC n r ei eg (some ⟨q, 0, none⟩)), .int .i64 0]) /\ Below W.heap.size W w') := hi_ (fun W hW => by
     rw [hq]
     exact efind_yes (hrr.below hW) hok hpl htb hn)
    have CP : Hid (∀ W, Below wr.heap.size wr W -> Calls Tryz.prog 51 #[.pointer (some ⟨q, 0, none⟩), .int .i64 (r : Int)] W fun e w' => ∃ PA pn pc, e = .returned (.tuple #[.slice PA pn pc, .int .i64 0]) /\ PartsV (fun y => W.heap.size <= y) w' PA pn ep /\ Below W.heap.size W w') := hi_ (fun W hW => by
     have hTW : TabAt W := (hT.below HH.out (hbr.trans (hW.mono hbr.size))).2
     have := CoJ.parts (hrr.below hW) hTW htb hr
     rw [hpe, <- hq] at this
     exact this)
    have hen : j + 1 <= 1000000 := by have := HE.out; omega
    have HLJ := hi_ (show (es.take j).length = j by rw [List.length_take, <- HE.out]; omega)
    have HX := hi_ hej
    have HGr := hi_ hG
    have HRr := hi_ hR
    have HFr := hi_ hF
    have HDr := hi_ hD
    have HGB := hi_ hgB
    have hBr := hG.Bw
    clear h1 hb1 r1 hT he hl hbq hbr hok hn hr hpe hq hrr hqg hqB hqlt q0 q1 hej hG hR hF hD hgB hem hpl htb
    go_wp2_with (first
     | (rw [<- hw5]; clear hw5)
     | ((with_reducible refine wpList_stP rfl (.tmp 5) (.tmp 30) rfl rfl rfl R5.out ?_); intro w6 hR6 hF6; have m0 := hR6.at_ 0; have m1 := hR6.at_ 1; have HB6 := hi_ (HB5.out.trans (hF6.toBelow (fun y hy => by rw [show y = wr.heap.size from hy]; exact Nat.le_refl _) HB5.out.size)); have HR6 := hi_ hR6; clear hR6 hF6 R5 HB5 k0 k1)
     | (go_at_call 50; refine (CF.out w6 HB6.out).mono ?_; rintro e w7 ⟨rfl, hb7⟩; obtain ⟨w8, hw8⟩ : ∃ w8, w8 = w7.alloc (.cells enZ 108) := ⟨_, rfl⟩; have R8 := hi_ (show Rec 108 w8 w7.heap.size enZ by rw [hw8]; exact Rec.new w7 _ _); have HB8 := hi_ (And.intro hb7 (show Below w7.heap.size w7 w8 by rw [hw8]; exact (Below.refl _ _).alloc (Nat.le_refl _) _)); clear hb7 m0 m1)
     | (rw [<- hw8]; clear hw8)
     | ((with_reducible refine wpList_stN n r ei eg (some ⟨q, 0, none⟩) enZ_size rfl (.tmp 6) (.tmp 35) rfl rfl rfl R8.out ?_); intro w9 hR9 hF9; have n1 := hR9.at_ 1; have n4 := hR9.at_ 4; have hb69 : Below w6.heap.size w6 w9 := (HB8.out.1.trans (HB8.out.2.mono HB8.out.1.size)).trans (hF9.toBelow (fun y hy => by rw [show y = w7.heap.size from hy]; exact HB8.out.1.size) (Nat.le_trans HB8.out.1.size HB8.out.2.size)); have HR9 := hi_ (HR6.out.under hb69); have HB9 := hi_ (HB6.out.trans (hb69.mono HB6.out.size)); clear hR9 hF9 hb69 R8 HB8)
     | (go_at_call 51; refine (CP.out w9 HB9.out).mono ?_; rintro e w10 ⟨PA, pn, pc, rfl, hP, hb10⟩; have h10 := HB9.out.trans (hb10.mono HB9.out.size); have m0 := (HR9.out.under hb10).at_ 0; have m1 := (HR9.out.under hb10).at_ 1; have c2 : w10.cell? ⟨g, 2, none⟩ = some (.slice EA j ec) := (HRr.out.under h10).at_ 2; obtain ⟨w11, hw11⟩ : ∃ w11, w11 = w10.alloc (.cells #[.int .i64 ei, .int .i64 eg, .slice PA pn pc] 101) := ⟨_, rfl⟩; have hb11 : Below w10.heap.size w10 w11 := (by rw [hw11]; exact (Below.refl _ _).alloc (Nat.le_refl _) _); have HV11 : Hid (VRow (fun x => w10.heap.size <= x) w11 (some ⟨w10.heap.size, 0, none⟩) 1 3 [.int .i64 ei, .int .i64 eg, .slice PA pn pc]) := hi_ (by rw [hw11]; exact VRow.new w10 #[.int .i64 ei, .int .i64 eg, .slice PA pn pc] _ 1 3 rfl); have G11 := hi_ (HGr.out.below EE.okE (h10.trans (hb11.mono h10.size))); have HE11 : Hid (EE (fun y => w9.heap.size <= y) w11 ((ei, eg), ep) [.int .i64 ei, .int .i64 eg, .slice PA pn pc]) := hi_ ⟨PA, pn, pc, rfl, hP.below hb11⟩; have H11 := hi_ (And.intro (h10.trans (hb11.mono h10.size)) (And.intro HB9.out.size hb10.size)); clear hP hb10 h10 hb11 n1 n4)
     | (rw [<- hw11]; clear hw11)
     | (at_builtin; refine wpList_appX entsT rfl (.tmp 47) (.tmp 51) rfl B (.slice EA j ec) j vs rfl (by have := G11.out.ow; rw [HLJ.out] at this; exact this) (some ⟨w10.heap.size, 0, none⟩) 1 1 [.int .i64 ei, .int .i64 eg, .slice PA pn pc] rfl HV11.out (fun u hu => by simp at hu; rcases hu with rfl | rfl | rfl <;> rfl) (by omega) (by decide) G11.out.Bw ?_; intro v12 w12 ho12 hg12 hv12; have hG12 := G11.out.put EE.okE rfl HE11.out (fun y hy e => by have := own_geB HGr.out.ow e; have := H11.out.2.1; omega) (by rw [HLJ.out]; exact ho12) hg12 hv12; have hF12 := Fr.grown hg12 (own := fun y => B <= y) (fun x hx => (own_geB G11.out.ow hx).1); obtain ⟨A12, c12, rfl, _, _, _⟩ := own_vrow ho12; have hR12 := (HRr.out.under H11.out.1).fr hF12 (fun e => by have := HGB.out; have e' : B <= g := e; omega); have k12 : w12.cell? ⟨g, 2, none⟩ = some (.slice EA j ec) := hR12.at_ 2; have f12 := hR12.fz 2; have G12 := hi_ hG12; have F12 := hi_ hF12; have R12 := hi_ hR12; clear hG12 hF12 hR12 ho12 hg12 hv12 c2 m0 m1))
    obtain ⟨w13, hw13⟩ : ∃ w13, w13 = w12.setCell ⟨g, 2, none⟩ (.slice A12 (j + 1) c12) := ⟨_, rfl⟩
    have hF13 : Fr (· = g) w12 w13 := by rw [hw13]; exact Fr.setCell (own := (· = g)) w12 (p := ⟨g, 2, none⟩) rfl _
    have hR13 : Rec 37 w13 g (stC GA gn gc FA fn fc A12 (j + 1) c12) := by rw [hw13]; exact R12.out.set 2 _
    rw [<- hw13]
    have hgB := HGB.out
    have h911 := H11.out.2.1
    have hD2 : ∀ y, (D y \/ (w9.heap.size <= y /\ y < w11.heap.size)) -> B <= y := fun y hy => by
     rcases hy with h | h
     ·exact HDr.out y h
     ·omega
    have hG13 := G12.out.fr EE.okE hF13 (fun y hy e => by have h := (own_geB G12.out.ow hy).1; have e' : y = g := e; omega) (fun y hy e => by have h := hD2 y hy; have e' : y = g := e; omega)
    rw [show es.take j ++ [((ei, eg), ep)] = es.take (j + 1) by rw [List.take_add_one, HX.out]; rfl] at hG13
    have hF : Fr (fun y => y = g \/ B <= y) wq w13 := ((HFr.out.trans (Fr.ofBelow _ H11.out.1)).trans (F12.out.mono (fun y hy => .inr hy))).trans (hF13.mono (fun y hy => .inl hy))
    exact ⟨⟨j + 1, A12, c12, _, _, hjn, by go_num, hG13, hR13, hD2, hF⟩, by simp [intOf]; omega⟩
   ·have hje : j = en := by omega
    subst hje
    have hes : es.take j = es := List.take_of_length_le (Nat.le_of_eq HE.out.symm)
    rw [hes] at hG
    obtain ⟨A2, c2, e2, _, _, hrw⟩ := hG.rows EE.okE
    injection e2 with e21 e22 e23
    subst e21 e23
    rw [<- e22] at hrw
    have hg1 := HG1.out
    have hrl := r1.lt
    have hcl := HRG.out.lt
    have hbc : Below w1.heap.size w1 wq := by
     have h := HQ.out.2
     exact (HCC.out.trans (h.mono HCC.out.size))
    have hrz : Rec 37 wr w.heap.size stZ := (r1.under hbc).fr hF (fun e => by rcases e with e | e <;> omega)
    have hrc : Rec 37 wc w.heap.size stZ := r1.under HCC.out
    obtain ⟨hGA, hFA, hGn, hFn⟩ := HGF.out
    have hqs := HQ.out.2.size
    have hB := HBB.out
    have hGr := (hGA.below HQ.out.2).frN hF (fun b o e hp hlt hh => by
     obtain ⟨b', o', e', hlt', _⟩ := hGA.2 hp
     rw [e] at e'
     injection e' with e'
     injection e' with e1 e2
     have := hGn b o e hp
     rcases hh with hh | hh <;> omega)
    have hFr := (hFA.below HQ.out.2).frN hF (fun b o e hp hlt hh => by
     obtain ⟨b', o', e', hlt', _⟩ := hFA.2 hp
     rw [e] at e'
     injection e' with e'
     injection e' with e1 e2
     have := hFn b o e hp
     rcases hh with hh | hh <;> omega)
    have HZ := hi_ (And.intro hGr (And.intro hFr (And.intro hrw (And.intro (hGA.ne_rec hrc) (hFA.ne_rec hrc)))))
    have HBr := hi_ hbr
    have HDr := hi_ hD
    have HSz := hi_ (And.intro hb1.size (And.intro hrl (And.intro hcl (And.intro hqs (And.intro hB hgB)))))
    clear hGr hFr hrw hGA hFA hGn hFn hrc hbc h1 hb1 r1 hT he hl hbq hbr hD hF hG hes hg1 hrl hcl hqs hB hgB
    go_wp2_with (first
     | ((with_reducible refine wpList_ldS stT rfl rfl (.tmp 3) rfl rfl hR ?_))
     | ((with_reducible refine wpList_stSt GA gn gc FA fn fc EA j ec rfl rfl (.tmp 2) (.tmp 55) rfl rfl rfl hrz ?_); intro w5 hR5 hF5))
    refine bodyPost_ret (res_c rfl rfl (hR5.load stT rfl)) rfl ?_
    obtain ⟨hGr, hFr, hrw, hGn, hFn⟩ := HZ.out
    obtain ⟨z1, z2, z3, z4, z5, z6⟩ := HSz.out
    have z7 := HG1.out
    refine ⟨GA, gc, FA, fc, EA, ec, rfl, ⟨hGr.frN hF5 (fun b o e hp _ hh => hGn b o e hp hh), hFr.frN hF5 (fun b o e hp _ hh => hFn b o e hp hh), ?_⟩, HBr.out.trans (hF5.toBelow (fun y hy => by rw [show y = w.heap.size from hy]; exact Nat.le_refl _) HBr.out.size)⟩
    have hE : EntsV (fun y => D y \/ (B <= y /\ y < wr.heap.size)) wr EA j es := hrw
    refine (hE.lt.stays ⟨hF5.size, fun y hy => hF5.block y hy.2 (fun e => ?_)⟩).mono (fun y hy => ?_)
    ·have e' : y = w.heap.size := e
     rcases hy.1 with h | h
     ·have := HDr.out y h; omega
     ·omega
    ·rcases hy.1 with h | h
     ·have := HDr.out y h; omega
     ·omega
end
end Go.Proofs.YthiknmhkdeicjaaGreatDoor
namespace Go.Proofs.YthiknmhkdeicjaaGreatDoor
section
variable {s : NS}
theorem NS.take_live (ok : s.Ok) (h : s.take.2.2 = 0) : s.take.1.alive s.take.2.1.1 s.take.2.1.2 = true /\ s.live s.take.2.1.1 = false /\
  ∀ k, k ≠ s.take.2.1.1 -> s.take.1.live k = s.live k /\ (s.live k = true -> s.take.1.g.getD k.toNat 0 = s.g.getD k.toNat 0) := by
 by_cases hf : s.fr = []
 ·by_cases he : s.g.length = s.E
  ·rw [NS.take_full hf he] at h
   exact absurd (show (9 : Int) = 0 from h) (by decide)
  ·rw [NS.take_next hf he]
   have hL := ok.L1
   have hnew : (s.g ++ [0]).getD s.g.length 0 = (0 : Int) := by simp [List.getD_eq_getElem?_getD]
   have hold : ∀ k : Int, 0 <= k -> k < s.g.length -> (s.g ++ [0]).getD k.toNat 0 = s.g.getD k.toNat 0 := fun k h0 h1 => by
    rw [List.getD_eq_getElem?_getD, List.getElem?_append_left (by omega), <- List.getD_eq_getElem?_getD]
   refine ⟨?_, Bool.eq_false_iff.2 fun hl => ?_, fun k hk => ⟨?_, fun hl => ?_⟩⟩
   ·unfold NS.alive
    rw [Bool.and_eq_true]
    refine ⟨NS.live_iff.2 ⟨Int.natCast_nonneg _, by show (s.g.length : Int) < ((s.g ++ [0]).length : Int); rw [List.length_append]; simp; omega, by show (s.g.length : Int) ∉ s.fr; rw [hf]; exact List.not_mem_nil, ?_⟩, by simp only [Int.toNat_natCast]; exact decide_eq_true hnew⟩
    show (s.g ++ [0]).getD (s.g.length : Int).toNat 0 < s.L
    rw [Int.toNat_natCast, hnew]
    omega
   ·have := (NS.live_iff.1 hl).2.1
    simp only at this
    omega
   ·rw [Bool.eq_iff_iff, NS.live_iff, NS.live_iff]
    simp only at hk
    constructor
    ·rintro ⟨h0, h1, h2, h3⟩
     have h1 : k < ((s.g ++ [0]).length : Int) := h1
     rw [List.length_append] at h1
     have h1 : k < s.g.length := by simp at h1; omega
     exact ⟨h0, h1, h2, by rw [<- hold k h0 h1]; exact h3⟩
    ·rintro ⟨h0, h1, h2, h3⟩
     exact ⟨h0, by show k < ((s.g ++ [0]).length : Int); rw [List.length_append]; simp; omega, h2, by show (s.g ++ [0]).getD k.toNat 0 < s.L; rw [hold k h0 h1]; exact h3⟩
   ·obtain ⟨h0, h1, _⟩ := NS.live_iff.1 hl
    exact hold k h0 h1
 ·rw [NS.take_free hf]
  obtain ⟨q0, q1, q2, q3⟩ := ok.fz _ (NS.last_mem hf)
  have hm := NS.last_mem hf
  have hsp := NS.fr_last hf
  have nd := ok.nd
  obtain ⟨a, ha⟩ : ∃ a, a = s.fr.getLastD 0 := ⟨_, rfl⟩
  rw [<- ha] at q0 q1 q2 q3 hm hsp ⊢
  rw [hsp] at nd
  have haf : a ∉ s.fr.dropLast := fun hx => (List.nodup_append.1 nd).2.2 a hx a (List.mem_singleton.2 rfl) rfl
  have hmem : ∀ k, k ≠ a -> (k ∈ s.fr.dropLast ↔ k ∈ s.fr) := fun k hk => by
   constructor
   ·exact fun h => List.dropLast_subset _ h
   ·intro h
    rw [hsp] at h
    rcases List.mem_append.1 h with h | h
    ·exact h
    ·exact absurd (List.mem_singleton.1 h) hk
  refine ⟨?_, Bool.eq_false_iff.2 fun hl => ?_, fun k hk => ⟨?_, fun _ => rfl⟩⟩
  ·unfold NS.alive
   rw [Bool.and_eq_true]
   exact ⟨NS.live_iff.2 ⟨q0, q1, haf, q3⟩, by simp⟩
  ·exact (NS.live_iff.1 hl).2.2.1 hm
  ·rw [Bool.eq_iff_iff, NS.live_iff, NS.live_iff]
   show (0 <= k /\ k < s.g.length /\ k ∉ s.fr.dropLast /\ _) ↔ _
   rw [hmem k hk]
theorem NS.give_live {i gen : Int} (ha : s.alive i gen = true) : (s.give i gen).1.live i = false /\
  ∀ k, k ≠ i -> (s.give i gen).1.live k = s.live k /\ (s.live k = true -> (s.give i gen).1.g.getD k.toNat 0 = s.g.getD k.toNat 0) := by
 have hl : s.live i = true := by unfold NS.alive at ha; rw [Bool.and_eq_true] at ha; exact ha.1
 obtain ⟨q0, q1, q2, q3⟩ := NS.live_iff.1 hl
 have e : (s.give i gen).1 = { s with g := s.g.set i.toNat (gen + 1), fr := if gen + 1 < s.L then s.fr ++ [i] else s.fr } := by unfold NS.give; rw [if_pos ha]
 rw [e]
 have hold : ∀ k : Int, 0 <= k -> k ≠ i -> (s.g.set i.toNat (gen + 1)).getD k.toNat 0 = s.g.getD k.toNat 0 := fun k h0 hk => by
  rw [List.getD_eq_getElem?_getD, List.getElem?_set_ne (by omega), <- List.getD_eq_getElem?_getD]
 have hmem : ∀ k, k ≠ i -> (k ∈ (if gen + 1 < s.L then s.fr ++ [i] else s.fr) ↔ k ∈ s.fr) := fun k hk => by
  split
  ·constructor
   ·intro h
    rcases List.mem_append.1 h with h | h
    ·exact h
    ·exact absurd (List.mem_singleton.1 h) hk
   ·exact fun h => List.mem_append_left _ h
  ·exact Iff.rfl
 refine ⟨Bool.eq_false_iff.2 fun hh => ?_, fun k hk => ⟨?_, fun hh => ?_⟩⟩
 ·obtain ⟨_, h1, h2, h3⟩ := NS.live_iff.1 hh
  by_cases hg : gen + 1 < s.L
  ·exact h2 (by show i ∈ (if gen + 1 < s.L then s.fr ++ [i] else s.fr); rw [if_pos hg]; simp)
  ·have h3 : (s.g.set i.toNat (gen + 1)).getD i.toNat 0 < s.L := h3
   rw [List.getD_eq_getElem?_getD, List.getElem?_set_self (by omega)] at h3
   simp at h3
   omega
 ·rw [Bool.eq_iff_iff, NS.live_iff, NS.live_iff]
  show (0 <= k /\ k < ((s.g.set i.toNat (gen + 1)).length : Int) /\ k ∉ (if gen + 1 < s.L then s.fr ++ [i] else s.fr) /\ (s.g.set i.toNat (gen + 1)).getD k.toNat 0 < s.L) ↔ _
  rw [List.length_set, hmem k hk]
  constructor
  ·rintro ⟨h0, h1, h2, h3⟩
   exact ⟨h0, h1, h2, by rw [<- hold k h0 hk]; exact h3⟩
  ·rintro ⟨h0, h1, h2, h3⟩
   exact ⟨h0, h1, h2, by rw [hold k h0 hk]; exact h3⟩
 ·exact hold k (NS.live_iff.1 hh).1 hk
theorem NS.alive_live {i gen : Int} (h : s.alive i gen = true) : s.live i = true /\ s.g.getD i.toNat 0 = gen := by
 unfold NS.alive at h
 rw [Bool.and_eq_true] at h
 exact ⟨h.1, of_decide_eq_true h.2⟩
theorem NS.alive_of {i gen : Int} (h : s.live i = true) (hg : s.g.getD i.toNat 0 = gen) : s.alive i gen = true := by
 unfold NS.alive
 rw [h, hg]
 simp
end
section
variable {z : Szs} {s : Es}
theorem Es.Ok.fresh (h : s.Ok z) (h0 : s.ns.take.2.2 = 0) : ∀ e ∈ s.ents, e.1.1 ≠ s.ns.take.2.1.1 := fun e he hx => by
 have h1 := (NS.alive_live (h.on e he)).1
 rw [hx, (NS.take_live h.ns h0).2.1] at h1
 cases h1
theorem Es.Ok.spawn (h : s.Ok z) : s.spawn.1.Ok z := by
 unfold Es.spawn
 by_cases h0 : s.ns.take.2.2 = 0
 ·rw [if_pos h0]
  obtain ⟨t1, t2, t3⟩ := NS.take_live h.ns h0
  have hne := h.fresh h0
  refine ⟨NS.take_ok h.ns, eIns_up h.up hne, fun e he => ?_, fun k hk => ?_, fun e he => ?_⟩
  ·rcases eIns_mem.1 he with rfl | he
   ·exact t1
   ·obtain ⟨a1, a2⟩ := NS.alive_live (h.on e he)
    obtain ⟨b1, b2⟩ := t3 _ (hne e he)
    exact NS.alive_of (b1.trans a1) ((b2 a1).trans a2)
  ·by_cases e : k = s.ns.take.2.1.1
   ·exact ⟨_, eIns_mem.2 (.inl rfl), e.symm⟩
   ·obtain ⟨x, hx, hx2⟩ := h.all k (by rw [<- (t3 k e).1]; exact hk)
    exact ⟨x, eIns_mem.2 (.inr hx), hx2⟩
  ·rcases eIns_mem.1 he with rfl | he
   ·exact ⟨List.Pairwise.nil, fun p hp => absurd hp List.not_mem_nil⟩
   ·exact h.parts e he
 ·rw [if_neg h0]
  exact h
theorem Es.Ok.at_ne (h : s.Ok z) {i j : Nat} {a b : En} (ha : s.ents[i]? = some a) (hb : s.ents[j]? = some b) (hij : i ≠ j) : a.1.1 ≠ b.1.1 := by
 obtain ⟨h1, e1⟩ := List.getElem?_eq_some_iff.1 ha
 obtain ⟨h2, e2⟩ := List.getElem?_eq_some_iff.1 hb
 have hp := List.pairwise_iff_getElem.1 h.up
 rcases Nat.lt_or_gt_of_ne hij with hl | hl
 ·have := hp i j h1 h2 hl
  rw [e1, e2] at this
  omega
 ·have := hp j i h2 h1 hl
  rw [e1, e2] at this
  omega
theorem mem_erase_at {l : List En} {i : Nat} {x : En} (hx : x ∈ l.eraseIdx i) : ∃ j, j ≠ i /\ l[j]? = some x := by
 obtain ⟨j, hj⟩ := List.mem_iff_getElem?.1 hx
 rw [List.getElem?_eraseIdx] at hj
 split at hj
 ·exact ⟨j, by omega, hj⟩
 ·exact ⟨j + 1, by omega, hj⟩
theorem at_mem_erase {l : List En} {i j : Nat} {x : En} (hj : l[j]? = some x) (hij : j ≠ i) : x ∈ l.eraseIdx i := by
 refine List.mem_iff_getElem?.2 ?_
 by_cases hl : j < i
 ·exact ⟨j, by rw [List.getElem?_eraseIdx, if_pos hl]; exact hj⟩
 ·exact ⟨j - 1, by rw [List.getElem?_eraseIdx, if_neg (by omega), show j - 1 + 1 = j by omega]; exact hj⟩
theorem Es.Ok.despawn (h : s.Ok z) (id : Int × Int) : (s.despawn id).1.Ok z := by
 unfold Es.despawn
 cases hp : ePlace s.ents id with
 | none => exact h
 | some i =>
  obtain ⟨hi, e⟩ := ePlace_some hp
  have hat : s.ents[i]? = some s.ents[i] := List.getElem?_eq_getElem hi
  have ha : s.ns.alive id.1 id.2 = true := by rw [<- e]; exact h.on _ (List.getElem_mem hi)
  obtain ⟨g1, g2⟩ := NS.give_live ha
  have hid : ∀ x ∈ s.ents.eraseIdx i, x ∈ s.ents /\ x.1.1 ≠ id.1 := fun x hx => by
   obtain ⟨j, hji, hj⟩ := mem_erase_at hx
   refine ⟨List.mem_of_getElem? hj, ?_⟩
   rw [<- e]
   exact h.at_ne hj hat hji
  refine ⟨NS.give_ok h.ns id.1 id.2, h.up.sublist (List.eraseIdx_sublist _ _), fun x hx => ?_, fun k hk => ?_, fun x hx => h.parts x (hid x hx).1⟩
  ·obtain ⟨x1, x2⟩ := hid x hx
   obtain ⟨a1, a2⟩ := NS.alive_live (h.on x x1)
   obtain ⟨b1, b2⟩ := g2 _ x2
   exact NS.alive_of (b1.trans a1) ((b2 a1).trans a2)
  ·have hki : k ≠ id.1 := fun hh => by rw [hh, g1] at hk; cases hk
   obtain ⟨x, hx, hx2⟩ := h.all k (by rw [<- (g2 k hki).1]; exact hk)
   obtain ⟨j, hj⟩ := List.mem_iff_getElem?.1 hx
   refine ⟨x, at_mem_erase hj (fun hji => ?_), hx2⟩
   rw [hji, hat] at hj
   injection hj with hj
   rw [<- hj, e] at hx2
   exact hki hx2.symm
theorem Es.Ok.turn (h : s.Ok z) {id : Int × Int} {i : Nat} (hp : ePlace s.ents id = some i) {l : List Pt} (hl : POk z l) : (⟨s.ns, s.ents.set i (id, l)⟩ : Es).Ok z := by
 obtain ⟨hi, e⟩ := ePlace_some hp
 have hmem : ∀ x ∈ s.ents.set i (id, l), x = (id, l) \/ x ∈ s.ents := fun x hx => (List.mem_or_eq_of_mem_set hx).symm
 have hids : (s.ents.set i (id, l)).map (·.1) = s.ents.map (·.1) := by
  rw [List.map_set]
  apply List.ext_getElem (by simp)
  intro j h1 h2
  rw [List.getElem_set]
  split
  ·rename_i hh
   subst hh
   simp [e]
  ·rfl
 refine ⟨h.ns, ?_, fun x hx => ?_, fun k hk => ?_, fun x hx => ?_⟩
 ·have hu : (s.ents.map (·.1)).Pairwise fun a b => a.1 < b.1 := List.pairwise_map.2 h.up
  rw [<- hids] at hu
  exact List.Pairwise.of_map (S := fun a b : Int × Int => a.1 < b.1) (fun x : En => x.1) (fun _ _ h => h) hu
 ·rcases hmem x hx with rfl | hx
  ·show s.ns.alive id.1 id.2 = true
   rw [<- e]
   exact h.on _ (List.getElem_mem hi)
  ·exact h.on x hx
 ·obtain ⟨x, hx, hx2⟩ := h.all k hk
  have : x.1 ∈ s.ents.map (·.1) := List.mem_map.2 ⟨x, hx, rfl⟩
  rw [<- hids] at this
  obtain ⟨y, hy, hy2⟩ := List.mem_map.1 this
  exact ⟨y, hy, by rw [hy2]; exact hx2⟩
 ·rcases hmem x hx with rfl | hx
  ·exact hl
  ·exact h.parts x hx
theorem Es.Ok.at_parts (h : s.Ok z) {i : Nat} (hi : i < s.ents.length) : POk z (s.ents.getD i noEn).2 := by
 rw [List.getD_eq_getElem?_getD, List.getElem?_eq_getElem hi]
 exact h.parts _ (List.getElem_mem hi)
theorem Es.Ok.set (h : s.Ok z) (id : Int × Int) (k : Int) (b : List UInt8) : (s.set z id k b).1.Ok z := by
 unfold Es.set
 cases hp : ePlace s.ents id with
 | none => exact h
 | some i =>
  simp only
  cases hz : szAt z k with
  | none => exact h
  | some n =>
   simp only
   split
   ·rename_i hb
    exact h.turn hp (pSet_ok (h.at_parts (ePlace_some hp).1) (by rw [hz, hb]))
   ·exact h
theorem Es.Ok.remove (h : s.Ok z) (id : Int × Int) (k : Int) : (s.remove z id k).1.Ok z := by
 unfold Es.remove
 cases hp : ePlace s.ents id with
 | none => exact h
 | some i =>
  simp only
  cases hz : szAt z k with
  | none => exact h
  | some n =>
   simp only
   cases hj : pAt (s.ents.getD i noEn).2 k with
   | none => exact h
   | some j => exact h.turn hp ((h.at_parts (ePlace_some hp).1).erase j)
theorem Es.Ok.go (h : s.Ok z) (x : Esp) : (s.go z x).1.Ok z := by
 unfold Es.go
 split
 ·exact h.despawn x.id
 ·split
  ·exact h.set x.id x.k x.b
  ·split
   ·exact h.remove x.id x.k
   ·split
    ·exact h
    ·exact h.spawn
theorem Es.new_ok (entities gens : Int) : (⟨NS.new entities gens, []⟩ : Es).Ok z :=
 ⟨NS.new_ok entities gens, List.Pairwise.nil, fun _ he => absurd he List.not_mem_nil, fun k hk => by
  have h1 := NS.live_iff.1 hk
  have h2 : k < (([] : List Int).length : Int) := h1.2.1
  have h3 := h1.1
  simp at h2
  omega, fun _ he => absurd he List.not_mem_nil⟩
end
end Go.Proofs.YthiknmhkdeicjaaGreatDoor
namespace Go.Proofs.YthiknmhkdeicjaaGreatDoor
set_option maxRecDepth 20000
def fullX (x : Fx) : Nat := ofL (idxs x.n) 64
structure TS (x : Fx) (k : Ks) (pm : Int × Int -> Option (List Pt)) : Prop where
 S : SOk k.S
 pos : 0 < k.S.length
 tb : ∀ n t, k.tb n = some t -> t.rows ≠ [] /\ ∃ s, k.S[n]? = some s /\ s &&& fullX x = s /\ t.cs = (Tb.new x.n (zsK x.ks) s).cs
 pl : ∀ id n r, k.pl id = some (n, r) ↔ ∃ t e, k.tb n = some t /\ t.rows[r]? = some e /\ e.1 = id
 row : ∀ n t e, k.tb n = some t -> e ∈ t.rows -> pm e.1 = some e.2
 all : ∀ id ps, pm id = some ps -> ∃ n r, k.pl id = some (n, r)
section
variable {x : Fx} {k : Ks} {pm : Int × Int -> Option (List Pt)}
theorem TS.at_ (h : TS x k pm) {id : Int × Int} {n r : Nat} (hp : k.pl id = some (n, r)) : ∃ t ps, k.tb n = some t /\ r < t.rows.length /\ t.rows[r]? = some (id, ps) /\ (t.rows.getD r noEn).2 = ps /\ pm id = some ps := by
 obtain ⟨t, e, ht, hr, rfl⟩ := (h.pl id n r).1 hp
 have hl := (List.getElem?_eq_some_iff.1 hr).1
 exact ⟨t, e.2, ht, hl, hr, by rw [List.getD_eq_getElem?_getD, hr]; rfl, h.row n t e ht (List.mem_of_getElem? hr)⟩
theorem TS.none_ (h : TS x k pm) {id : Int × Int} (hp : pm id = none) : k.pl id = none := by
 cases hq : k.pl id with
 | none => rfl
 | some p =>
  obtain ⟨n, r⟩ := p
  obtain ⟨t, ps, _, _, _, _, h6⟩ := h.at_ hq
  rw [hp] at h6
  cases h6
theorem TS.start (s : NS) : TS x (ks0 s) (fun _ => none) where
 S := SOk.one
 pos := Nat.one_pos
 tb n t h := by cases h
 pl id n r := ⟨(fun h => by cases h), (fun ⟨t, e, h, _⟩ => by cases h)⟩
 row n t e h := by cases h
 all id ps h := by cases h
theorem TS.more (h : TS x k pm) (s : NS) {S' : List Nat} (hS : SOk S') (hu : ∀ i t : Nat, k.S[i]? = some t -> S'[i]? = some t) (hp : 0 < S'.length) : TS x { k with ns := s, S := S' } pm where
 S := hS
 pos := hp
 tb n t ht := by
  obtain ⟨h1, u, h2, h3, h4⟩ := h.tb n t ht
  exact ⟨h1, u, hu n u h2, h3, h4⟩
 pl := h.pl
 row := h.row
 all := h.all
theorem Tb.dropR_at (t : Tb) (r j : Nat) (hr : r < t.rows.length) : (t.dropR r).rows[j]? = if j < t.rows.length - 1 then (if j = r then some t.lastR else t.rows[j]?) else none := by
 unfold Tb.dropR
 simp only
 rw [List.getElem?_take]
 split
 ·rename_i h
  rw [List.getElem?_set]
  split
  ·rename_i e
   subst e
   simp
  ·rename_i e
   rw [if_neg (fun e' => e e'.symm)]
 ·rfl
theorem Tb.lastR_at (t : Tb) (h : 0 < t.rows.length) : t.rows[t.rows.length - 1]? = some t.lastR := by
 unfold Tb.lastR
 rw [List.getD_eq_getElem?_getD, List.getElem?_eq_getElem (by omega)]
 rfl
def pmDel (pm : Int × Int -> Option (List Pt)) (id : Int × Int) (j : Int × Int) : Option (List Pt) := if j = id then none else pm j
def pmPut (pm : Int × Int -> Option (List Pt)) (id : Int × Int) (ps : List Pt) (j : Int × Int) : Option (List Pt) := if j = id then some ps else pm j
theorem TS.drop (h : TS x k pm) {id : Int × Int} {n r : Nat} {t : Tb} (hp : k.pl id = some (n, r)) (ht : k.tb n = some t) : TS x (k.drop id n r t) (pmDel pm id) := by
 obtain ⟨t', ps, ht', hr, hrow, _, _⟩ := h.at_ hp
 rw [ht] at ht'
 injection ht' with ht'
 subst ht'
 have hlast := t.lastR_at (by omega)
 have key : ∀ j n' r', (k.drop id n r t).pl j = some (n', r') ↔ ∃ t0 e, (k.drop id n r t).tb n' = some t0 /\ t0.rows[r']? = some e /\ e.1 = j := by
  intro j n' r'
  show (if j = id then none else if r ≠ t.rows.length - 1 /\ j = t.lastR.1 then some (n, r) else k.pl j) = some (n', r') ↔ ∃ t0 e, upd k.tb n (if t.rows.length = 1 then none else some (t.dropR r)) n' = some t0 /\ t0.rows[r']? = some e /\ e.1 = j
  constructor
  ·intro hj
   split at hj
   ·cases hj
   ·rename_i hji
    split at hj
    ·rename_i hc
     injection hj with hj
     injection hj with e1 e2
     subst e1 e2
     refine ⟨t.dropR r, t.lastR, ?_, ?_, hc.2.symm⟩
     ·unfold upd; rw [if_pos rfl, if_neg (by omega)]
     ·rw [t.dropR_at r r hr, if_pos (by omega), if_pos rfl]
    ·rename_i hc
     obtain ⟨t1, e, ht1, hr1, he1⟩ := (h.pl j n' r').1 hj
     by_cases hn : n' = n
     ·subst hn
      rw [ht] at ht1
      injection ht1 with ht1
      subst ht1
      have hrr : r' ≠ r := fun e' => by
       subst e'
       rw [hrow] at hr1
       injection hr1 with hr1
       exact hji (by rw [<- he1, <- hr1])
      have hl1 := (List.getElem?_eq_some_iff.1 hr1).1
      have hrl : r' ≠ t.rows.length - 1 := fun e' => by
       rw [e', hlast] at hr1
       injection hr1 with hr1
       exact hc ⟨fun e'' => hrr (by omega), by rw [<- he1, hr1]⟩
      refine ⟨t.dropR r, e, ?_, ?_, he1⟩
      ·unfold upd; rw [if_pos rfl, if_neg (by omega)]
      ·rw [t.dropR_at r r' hr, if_pos (by omega), if_neg hrr]; exact hr1
     ·exact ⟨t1, e, by unfold upd; rw [if_neg hn]; exact ht1, hr1, he1⟩
  ·rintro ⟨t1, e, ht1, hr1, rfl⟩
   unfold upd at ht1
   by_cases hn : n' = n
   ·subst hn
    rw [if_pos rfl] at ht1
    split at ht1
    ·cases ht1
    ·rename_i hl
     injection ht1 with ht1
     subst ht1
     rw [t.dropR_at r r' hr] at hr1
     split at hr1
     ·rename_i hl2
      split at hr1
      ·rename_i e'
       subst e'
       injection hr1 with hr1
       subst hr1
       have hne : t.lastR.1 ≠ id := fun e' => by
        have h1 := (h.pl id n' (t.rows.length - 1)).2 ⟨t, _, ht, hlast, e'⟩
        rw [hp] at h1
        injection h1 with h1
        injection h1 with _ h1
        omega
       rw [if_neg hne, if_pos ⟨by omega, rfl⟩]
      ·rename_i hrr
       have h1 := (h.pl e.1 n' r').2 ⟨t, e, ht, hr1, rfl⟩
       have hne : e.1 ≠ id := fun e' => by
        rw [e', hp] at h1
        injection h1 with h1
        injection h1 with _ h1
        exact hrr h1.symm
       have hnl : e.1 ≠ t.lastR.1 := fun e' => by
        have h2 := (h.pl e.1 n' (t.rows.length - 1)).2 ⟨t, _, ht, hlast, e'.symm⟩
        rw [h1] at h2
        injection h2 with h2
        injection h2 with _ h2
        omega
       rw [if_neg hne, if_neg (fun hh => hnl hh.2)]
       exact h1
     ·cases hr1
   ·rw [if_neg hn] at ht1
    have h1 := (h.pl e.1 n' r').2 ⟨t1, e, ht1, hr1, rfl⟩
    have hne : e.1 ≠ id := fun e' => by
     rw [e', hp] at h1
     injection h1 with h1
     injection h1 with h1 _
     exact hn h1.symm
    have hnl : e.1 ≠ t.lastR.1 := fun e' => by
     have h2 := (h.pl e.1 n (t.rows.length - 1)).2 ⟨t, _, ht, hlast, e'.symm⟩
     rw [h1] at h2
     injection h2 with h2
     injection h2 with h2 _
     exact hn h2
    rw [if_neg hne, if_neg (fun hh => hnl hh.2)]
    exact h1
 have hin : ∀ e ∈ (t.dropR r).rows, e ∈ t.rows := fun e he => by
  rcases List.mem_or_eq_of_mem_set (List.mem_of_mem_take he) with h1 | h1
  ·exact h1
  ·rw [h1]; exact List.mem_of_getElem? hlast
 refine ⟨h.S, h.pos, fun n' t1 ht1 => ?_, key, fun n' t1 e ht1 he => ?_, fun j qs hj => ?_⟩
 ·have ht1' : upd k.tb n (if t.rows.length = 1 then none else some (t.dropR r)) n' = some t1 := ht1
  unfold upd at ht1'
  by_cases hn : n' = n
  ·subst hn
   rw [if_pos rfl] at ht1'
   split at ht1'
   ·cases ht1'
   ·rename_i hl
    injection ht1' with ht1'
    subst ht1'
    refine ⟨fun e => ?_, (h.tb n' t ht).2⟩
    have := t.dropR_len r
    rw [e] at this
    simp at this
    omega
  ·rw [if_neg hn] at ht1'
   exact h.tb n' t1 ht1'
 ·obtain ⟨r', hr', he'⟩ := List.getElem_of_mem he
  have h1 := (key e.1 n' r').2 ⟨t1, e, ht1, by rw [List.getElem?_eq_getElem hr', he'], rfl⟩
  have hne : e.1 ≠ id := fun e' => by
   have h1' : (if e.1 = id then none else if r ≠ t.rows.length - 1 /\ e.1 = t.lastR.1 then some (n, r) else k.pl e.1) = some (n', r') := h1
   rw [if_pos e'] at h1'
   cases h1'
  unfold pmDel
  rw [if_neg hne]
  have ht1' : upd k.tb n (if t.rows.length = 1 then none else some (t.dropR r)) n' = some t1 := ht1
  unfold upd at ht1'
  by_cases hn : n' = n
  ·subst hn
   rw [if_pos rfl] at ht1'
   split at ht1'
   ·cases ht1'
   ·injection ht1' with ht1'
    subst ht1'
    exact h.row n' t e ht (hin e he)
  ·rw [if_neg hn] at ht1'
   exact h.row n' t1 e ht1' he
 ·unfold pmDel at hj
  split at hj
  ·cases hj
  ·rename_i hne
   obtain ⟨n', r', hq⟩ := h.all j qs hj
   show ∃ n' r', (if j = id then none else if r ≠ t.rows.length - 1 /\ j = t.lastR.1 then some (n, r) else k.pl j) = some (n', r')
   rw [if_neg hne]
   split
   ·exact ⟨n, r, rfl⟩
   ·exact ⟨n', r', hq⟩
theorem TS.put (h : TS x k pm) {id : Int × Int} (hid : pm id = none) {n s : Nat} (hs : k.S[n]? = some s) (hf : s &&& fullX x = s) {ps : List Pt} (hlen : (k.tab x n s).rows.length < 1024) (hfit : fits ps (Tb.new x.n (zsK x.ks) s).cs = true) :
  TS x (k.put id n (k.tab x n s) ps) (pmPut pm id (picks ps (Tb.new x.n (zsK x.ks) s).cs)) := by
 have hpl := h.none_ hid
 obtain ⟨t, ht⟩ : ∃ t, t = k.tab x n s := ⟨_, rfl⟩
 rw [<- ht] at hlen ⊢
 have hcs : t.cs = (Tb.new x.n (zsK x.ks) s).cs := by
  rw [ht]
  unfold Ks.tab
  cases hq : k.tb n with
  | none => rfl
  | some t1 =>
   obtain ⟨_, s', hs', _, hc⟩ := h.tb n t1 hq
   rw [hs] at hs'
   injection hs' with hs'
   subst hs'
   exact hc
 have hold : ∀ e ∈ t.rows, k.tb n = some t := fun e he => by
  rw [ht] at he ⊢
  unfold Ks.tab at he ⊢
  cases hq : k.tb n with
  | none => rw [hq] at he; exact absurd he List.not_mem_nil
  | some t1 => rfl
 have hadd : (t.add id ps).1 = ⟨t.cs, t.rows ++ [(id, picks ps t.cs)]⟩ := by
  unfold Tb.add
  rw [if_neg (by omega), if_pos (by rw [hcs]; exact hfit)]
 rw [<- hcs]
 have hnone : ∀ n' t1 e, k.tb n' = some t1 -> e ∈ t1.rows -> e.1 ≠ id := fun n' t1 e h1 h2 h3 => by
  have := h.row n' t1 e h1 h2
  rw [h3, hid] at this
  cases this
 refine ⟨h.S, h.pos, fun n' t1 ht1 => ?_, fun j n' r' => ?_, fun n' t1 e ht1 he => ?_, fun j qs hj => ?_⟩
 ·have ht1' : upd k.tb n (some (t.add id ps).1) n' = some t1 := ht1
  unfold upd at ht1'
  by_cases hn : n' = n
  ·subst hn
   rw [if_pos rfl, hadd] at ht1'
   injection ht1' with ht1'
   subst ht1'
   exact ⟨by simp, s, hs, hf, hcs⟩
  ·rw [if_neg hn] at ht1'
   exact h.tb n' t1 ht1'
 ·show (if j = id then some (n, t.rows.length) else k.pl j) = some (n', r') ↔ ∃ t1 e, upd k.tb n (some (t.add id ps).1) n' = some t1 /\ t1.rows[r']? = some e /\ e.1 = j
  rw [hadd]
  constructor
  ·intro hj
   split at hj
   ·rename_i e
    injection hj with hj
    injection hj with e1 e2
    subst e e1 e2
    exact ⟨⟨t.cs, t.rows ++ [(j, picks ps t.cs)]⟩, (j, picks ps t.cs), by unfold upd; rw [if_pos rfl], by simp, rfl⟩
   ·obtain ⟨t1, e, ht1, hr1, he1⟩ := (h.pl j n' r').1 hj
    by_cases hn : n' = n
    ·subst hn
     have hq := hold
     have ht2 : t = t1 := by
      rw [ht]; unfold Ks.tab; rw [ht1]; rfl
     subst ht2
     exact ⟨_, e, by unfold upd; rw [if_pos rfl], by rw [List.getElem?_append_left (List.getElem?_eq_some_iff.1 hr1).1]; exact hr1, he1⟩
    ·exact ⟨t1, e, by unfold upd; rw [if_neg hn]; exact ht1, hr1, he1⟩
  ·rintro ⟨t1, e, ht1, hr1, rfl⟩
   unfold upd at ht1
   by_cases hn : n' = n
   ·subst hn
    rw [if_pos rfl] at ht1
    injection ht1 with ht1
    subst ht1
    simp only at hr1
    by_cases hl : r' < t.rows.length
    ·rw [List.getElem?_append_left hl] at hr1
     have hm := List.mem_of_getElem? hr1
     have ht2 := hold e hm
     rw [if_neg (hnone n' t e ht2 hm)]
     exact (h.pl e.1 n' r').2 ⟨t, e, ht2, hr1, rfl⟩
    ·rw [List.getElem?_append_right (by omega)] at hr1
     have h0 : r' - t.rows.length = 0 := by
      have := (List.getElem?_eq_some_iff.1 hr1).1
      simp at this
      omega
     rw [h0] at hr1
     injection hr1 with hr1
     subst hr1
     rw [if_pos rfl, show r' = t.rows.length by omega]
   ·rw [if_neg hn] at ht1
    rw [if_neg (hnone n' t1 e ht1 (List.mem_of_getElem? hr1))]
    exact (h.pl e.1 n' r').2 ⟨t1, e, ht1, hr1, rfl⟩
 ·have ht1' : upd k.tb n (some (t.add id ps).1) n' = some t1 := ht1
  unfold upd at ht1'
  unfold pmPut
  by_cases hn : n' = n
  ·subst hn
   rw [if_pos rfl, hadd] at ht1'
   injection ht1' with ht1'
   subst ht1'
   rcases List.mem_append.1 he with he | he
   ·have ht2 := hold e he
    rw [if_neg (hnone n' t e ht2 he)]
    exact h.row n' t e ht2 he
   ·rw [List.mem_singleton.1 he, if_pos rfl]
  ·rw [if_neg hn] at ht1'
   rw [if_neg (hnone n' t1 e ht1' he)]
   exact h.row n' t1 e ht1' he
 ·show ∃ n' r', (if j = id then some (n, t.rows.length) else k.pl j) = some (n', r')
  unfold pmPut at hj
  split at hj
  ·rename_i e
   rw [if_pos e]
   exact ⟨n, _, rfl⟩
  ·rename_i e
   rw [if_neg e]
   exact h.all j qs hj
theorem TS.turn (h : TS x k pm) {id : Int × Int} {n r : Nat} {t : Tb} (hp : k.pl id = some (n, r)) (ht : k.tb n = some t) (ps : List Pt) : TS x { k with tb := upd k.tb n (some ⟨t.cs, t.rows.set r (id, ps)⟩) } (pmPut pm id ps) := by
 obtain ⟨t', qs, ht', hr, hrow, _, _⟩ := h.at_ hp
 rw [ht] at ht'
 injection ht' with ht'
 subst ht'
 have hat : ∀ j (e : En), (t.rows.set r (id, ps))[j]? = some e -> ∃ e0 : En, t.rows[j]? = some e0 /\ e.1 = e0.1 := fun j e he => by
  rw [List.getElem?_set] at he
  split at he
  ·rename_i e1
   subst e1
   try rw [if_pos hr] at he
   injection he with he
   subst he
   exact ⟨_, hrow, rfl⟩
  ·exact ⟨e, he, rfl⟩
 have htb : ∀ j (e0 : En), t.rows[j]? = some e0 -> ∃ e : En, (t.rows.set r (id, ps))[j]? = some e /\ e.1 = e0.1 := fun j e0 he => by
  by_cases e1 : r = j
  ·subst e1
   rw [hrow] at he
   injection he with he
   subst he
   exact ⟨(id, ps), by rw [List.getElem?_set_self hr], rfl⟩
  ·exact ⟨e0, by rw [List.getElem?_set_ne e1]; exact he, rfl⟩
 refine ⟨h.S, h.pos, fun n' t1 ht1 => ?_, fun j n' r' => ?_, fun n' t1 e ht1 he => ?_, fun j qs' hj => ?_⟩
 ·have ht1' : upd k.tb n _ n' = some t1 := ht1
  unfold upd at ht1'
  by_cases hn : n' = n
  ·subst hn
   rw [if_pos rfl] at ht1'
   injection ht1' with ht1'
   subst ht1'
   refine ⟨fun e => ?_, (h.tb n' t ht).2⟩
   have := congrArg List.length e
   simp at this
   rw [this] at hr
   simp at hr
  ·rw [if_neg hn] at ht1'
   exact h.tb n' t1 ht1'
 ·show k.pl j = some (n', r') ↔ ∃ t1 e, upd k.tb n (some ⟨t.cs, t.rows.set r (id, ps)⟩) n' = some t1 /\ t1.rows[r']? = some e /\ e.1 = j
  rw [h.pl]
  by_cases hn : n' = n
  ·subst hn
   unfold upd
   rw [if_pos rfl]
   constructor
   ·rintro ⟨t1, e, ht1, hr1, rfl⟩
    rw [ht] at ht1
    injection ht1 with ht1
    subst ht1
    obtain ⟨e', h1, h2⟩ := htb r' e hr1
    exact ⟨_, e', rfl, h1, h2⟩
   ·rintro ⟨t1, e, ht1, hr1, rfl⟩
    injection ht1 with ht1
    subst ht1
    obtain ⟨e', h1, h2⟩ := hat r' e hr1
    exact ⟨t, e', ht, h1, h2.symm⟩
  ·unfold upd
   rw [if_neg hn]
 ·have ht1' : upd k.tb n (some ⟨t.cs, t.rows.set r (id, ps)⟩) n' = some t1 := ht1
  unfold upd at ht1'
  obtain ⟨r', hr', he'⟩ := List.getElem_of_mem he
  have he2 : t1.rows[r']? = some e := by rw [List.getElem?_eq_getElem hr', he']
  unfold pmPut
  by_cases hn : n' = n
  ·subst hn
   rw [if_pos rfl] at ht1'
   injection ht1' with ht1'
   subst ht1'
   simp only at he2
   by_cases hrr : r = r'
   ·subst hrr
    rw [List.getElem?_set, if_pos rfl, if_pos hr] at he2
    injection he2 with he2
    subst he2
    rw [if_pos rfl]
   ·rw [List.getElem?_set, if_neg hrr] at he2
    have h1 := (h.pl e.1 n' r').2 ⟨t, e, ht, he2, rfl⟩
    rw [if_neg (fun e' => by
     rw [e', hp] at h1
     injection h1 with h1
     injection h1 with _ h1
     exact hrr h1)]
    exact h.row n' t e ht (List.mem_of_getElem? he2)
  ·rw [if_neg hn] at ht1'
   have h1 := (h.pl e.1 n' r').2 ⟨t1, e, ht1', he2, rfl⟩
   rw [if_neg (fun e' => by
    rw [e', hp] at h1
    injection h1 with h1
    injection h1 with h1 _
    exact hn h1.symm)]
   exact h.row n' t1 e ht1' he
 ·unfold pmPut at hj
  split at hj
  ·rename_i e
   exact ⟨n, r, by rw [e]; exact hp⟩
  ·exact h.all j qs' hj
end
end Go.Proofs.YthiknmhkdeicjaaGreatDoor
