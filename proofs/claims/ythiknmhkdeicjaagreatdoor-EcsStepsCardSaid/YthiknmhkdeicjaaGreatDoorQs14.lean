/- EcG, EcH, BitsHa -/
import Derived.Test.YthiknmhkdeicjaaGreatDoorQs1
import Derived.Test.YthiknmhkdeicjaaGreatDoorQs3
import Derived.Test.YthiknmhkdeicjaaGreatDoorQs5
import Derived.Test.YthiknmhkdeicjaaGreatDoorQs6
import Derived.Test.YthiknmhkdeicjaaGreatDoorQs12
import Derived.Test.YthiknmhkdeicjaaGreatDoorQs13
import Derived.Laws.BitsAllLaws
import Derived.Laws.Bits128
import Derived.Deep.WholeRow
namespace Go.Proofs.YthiknmhkdeicjaaGreatDoor
open Go.RowKit
set_option maxRecDepth 20000
structure Em (B : Nat) (W : World) (gG gT gP : Bool) (own : Nat -> Prop) (pg m1 m2 mt mp : Nat) : Prop where
 g : gG = true -> (∃ sv, GAt W own pg sv m1 m2 [0] (fun _ => none) 0) /\ ∀ y, own y -> B <= y /\ y < W.heap.size
 t : gT = true -> MapT W mt 0 (fun _ => none) /\ B <= mt
 p : gP = true -> MapP W mp 0 (fun _ => none) /\ B <= mp
 gt : gG = true -> gT = true -> ¬ own mt
 gp : gG = true -> gP = true -> ¬ own mp
 tp : gT = true -> gP = true -> mt ≠ mp
section
variable {B : Nat} {W W' : World} {gG gT gP : Bool} {own : Nat -> Prop} {pg m1 m2 mt mp : Nat}
theorem Em.start (B : Nat) (W : World) : Em B W false false false (fun _ => False) 0 0 0 0 0 := ⟨(fun h => by cases h), (fun h => by cases h), (fun h => by cases h), (fun h => by cases h), (fun h => by cases h), (fun h => by cases h)⟩
theorem Em.below (h : Em B W gG gT gP own pg m1 m2 mt mp) (hb : Below W.heap.size W W') : Em B W' gG gT gP own pg m1 m2 mt mp :=
 { h with
  g := fun e => by obtain ⟨⟨sv, g⟩, hd⟩ := h.g e; exact ⟨⟨sv, g.below hb⟩, fun y hy => ⟨(hd y hy).1, Nat.lt_of_lt_of_le (hd y hy).2 hb.size⟩⟩
  t := fun e => ⟨(h.t e).1.below hb, (h.t e).2⟩
  p := fun e => ⟨(h.p e).1.below hb, (h.p e).2⟩ }
theorem Em.G {own' : Nat -> Prop} {n1 n2 : Nat} (h : Em B W false gT gP own pg m1 m2 mt mp) (hB : B <= W.heap.size) (hb : Below W.heap.size W W') (ho : ∀ y, own' y -> W.heap.size <= y) (hG : GGo W own' W.heap.size n1 n2 [0] (fun _ => none) 0 W') : ∃ own2, Em B W' true gT gP own2 W.heap.size n1 n2 mt mp := by
 obtain ⟨hf, own2, sv, h1, hd, I⟩ := hG
 have H := h.below hb
 have lo : ∀ y, own2 y -> W.heap.size <= y := fun y hy => by rcases h1 y hy with h | h; exact ho y h; exact h
 exact ⟨own2, { H with
  g := fun _ => ⟨⟨sv, I⟩, fun y hy => ⟨Nat.le_trans hB (lo y hy), hd y hy⟩⟩
  gt := fun _ e hy => by have := (h.t e).1.lt; have := lo _ hy; omega
  gp := fun _ e hy => by have := (h.p e).1.lt; have := lo _ hy; omega }⟩
theorem Em.T (h : Em B W gG false gP own pg m1 m2 mt mp) (hB : B <= W.heap.size) : Em B (W.alloc (.map #[] 0)) gG true gP own pg m1 m2 W.heap.size mp :=
 have H := h.below ((Below.refl _ _).alloc (Nat.le_refl _) (.map #[] 0))
 { H with
  t := fun _ => ⟨MapE.made _ _ _ _ _ W, hB⟩
  gt := fun e _ hy => by have := ((h.g e).2 _ hy).2; exact Nat.lt_irrefl _ this
  tp := fun _ e hy => by have := (h.p e).1.lt; omega }
theorem Em.P (h : Em B W gG gT false own pg m1 m2 mt mp) (hB : B <= W.heap.size) : Em B (W.alloc (.map #[] 0)) gG gT true own pg m1 m2 mt W.heap.size :=
 have H := h.below ((Below.refl _ _).alloc (Nat.le_refl _) (.map #[] 0))
 { H with
  p := fun _ => ⟨MapE.made _ _ _ _ _ W, hB⟩
  gp := fun e _ hy => by have := ((h.g e).2 _ hy).2; exact Nat.lt_irrefl _ this
  tp := fun e _ hy => by have := (h.t e).1.lt; omega }
end
def ks0 (s : NS) : Ks := ⟨s, [0], fun _ => none, fun _ => none⟩
structure Fx.Of (x : Fx) (lg pg en gn : Int) (n : Nat) (ks : List Kd) : Prop where
 lg : x.lg = lg
 ps : x.ps = pg
 en : x.en = en
 gn : x.gn = gn
 n : x.n = n
 ks : x.ks = ks
section
variable (lg pg en gn : Int) (A : Option Addr) (n cap : Nat) (ks : List Kd) (w : World)
open Classical in
theorem Em.core {N : Nat} {W0 W : World} {own ownI : Nat -> Prop} {pgr m1 m2 mt mp pi : Nat} {gv av fv : Value} {s : NS} {lg pg en gn : Int} {A : Option Addr} {n cap : Nat} {ks : List Kd} (h : Em W0.heap.size W true true true own pgr m1 m2 mt mp) (hb : Below W0.heap.size W0 W) (hN : N <= W0.heap.size)
  (hk : KRd W0 A n ks) (hA : ∀ b o, A = some ⟨b, o, none⟩ -> N <= b /\ b < W0.heap.size /\ ¬ ownI b) (hI : IAt W0 ownI pi gv av fv s) (hId : ∀ y, ownI y -> N <= y /\ y < W0.heap.size) :
  ∃ x gr, x.p = W.heap.size /\ x.Of lg pg en gn n ks /\ CoJ 0 (W.alloc (.cells #[.int .i64 lg, .int .i64 pg, .int .i64 en, .int .i64 gn, .slice A n cap, .pointer (some ⟨pi, 0, none⟩), .pointer (some ⟨pgr, 0, none⟩), .map (some mt), .map (some mp)] 86)) N gr x (ks0 s) 0 (fun _ => 0) := by
 obtain ⟨⟨sv, hg⟩, hgd⟩ := h.g rfl
 obtain ⟨ht, htB⟩ := h.t rfl
 obtain ⟨hp, hpB⟩ := h.p rfl
 have gt := h.gt rfl rfl
 have gp := h.gp rfl rfl
 have tp := h.tp rfl rfl
 have htl := ht.lt
 have hpl := hp.lt
 have hs := hb.size
 have hal := (Below.refl W.heap.size W).alloc (Nat.le_refl _) (.cells #[.int .i64 lg, .int .i64 pg, .int .i64 en, .int .i64 gn, .slice A n cap, .pointer (some ⟨pi, 0, none⟩), .pointer (some ⟨pgr, 0, none⟩), .map (some mt), .map (some mp)] 86)
 refine ⟨⟨W.heap.size, pi, pgr, m1, m2, mt, mp, lg, pg, en, gn, A, n, cap, ks⟩, fun y => if y = W.heap.size then 1 else if y = mt then 2 else if y = mp then 3 else if ownI y then 4 else if own y then 5 else if ∃ o, A = some ⟨y, o, none⟩ then 7 else 0, rfl, ⟨rfl, rfl, rfl, rfl, rfl, rfl⟩, ?_⟩
 have e4 : ∀ y, ownI y -> (if y = W.heap.size then 1 else if y = mt then 2 else if y = mp then 3 else if ownI y then 4 else if own y then 5 else if ∃ o, A = some ⟨y, o, none⟩ then 7 else 0) = 4 := fun y hy => by
  have := (hId y hy).2
  rw [if_neg (by omega), if_neg (by omega), if_neg (by omega), if_pos hy]
 have e5 : ∀ y, own y -> (if y = W.heap.size then 1 else if y = mt then 2 else if y = mp then 3 else if ownI y then 4 else if own y then 5 else if ∃ o, A = some ⟨y, o, none⟩ then 7 else 0) = 5 := fun y hy => by
  have h1 := hgd y hy
  rw [if_neg (by omega), if_neg (fun e => by rw [e] at hy; exact gt hy), if_neg (fun e => by rw [e] at hy; exact gp hy), if_neg (fun hi => by have := (hId y hi).2; omega), if_pos hy]
 exact {
  blk := Rec.new W _ _
  kd := (hk.own_below (Nat.le_refl _) hb).below hal
  kA := fun b o e => by
   have e : A = some ⟨b, o, none⟩ := e
   obtain ⟨h1, h2, h3⟩ := hA b o e
   show (if b = W.heap.size then 1 else if b = mt then 2 else if b = mp then 3 else if ownI b then 4 else if own b then 5 else if ∃ o, A = some ⟨b, o, none⟩ then 7 else 0) = 7
   rw [if_neg (by omega), if_neg (by omega), if_neg (by omega), if_neg h3, if_neg (fun ho => by have := (hgd b ho).1; omega), if_pos ⟨o, e⟩]
  ids := fun _ => ⟨gv, av, fv, ((hI.below hb).below hal).mono (fun y hy => e4 y hy)⟩
  gph := fun _ => by
   have g2 := hg.below hal
   exact ⟨sv, _, 0, Nat.le_refl _, { g2 with ownp := e5 _ g2.ownp, own1 := e5 _ g2.own1, own2 := e5 _ g2.own2, ownv := fun y hy => e5 y (g2.ownv y hy) }⟩
  mpt := fun _ => ⟨0, Nat.le_refl _, ht.below hal⟩
  mpp := fun _ => ⟨0, Nat.le_refl _, hp.below hal⟩
  tab := fun i t _ ht => by cases ht
  gp := if_pos rfl
  gt := by show (if mt = W.heap.size then 1 else if mt = mt then 2 else _) = 2; rw [if_neg (by omega), if_pos rfl]
  gm := by show (if mp = W.heap.size then 1 else if mp = mt then 2 else if mp = mp then 3 else _) = 3; rw [if_neg (by omega), if_neg (fun e => tp e.symm), if_pos rfl]
  dom := fun y hy => by
   rw [World.size_alloc]
   refine Classical.byContradiction fun hn => hy ?_
   show (if y = W.heap.size then 1 else if y = mt then 2 else if y = mp then 3 else if ownI y then 4 else if own y then 5 else if ∃ o, A = some ⟨y, o, none⟩ then 7 else 0) = 0
   rw [if_neg (by omega), if_neg (by omega), if_neg (by omega), if_neg (fun hi => by have := (hId y hi).2; omega), if_neg (fun hi => by have := (hgd y hi).2; omega), if_neg (fun ⟨o, e⟩ => by have := (hA y o e).2.1; omega)]
  lo := fun y hy => by
   refine Classical.byContradiction fun hn => hy ?_
   show (if y = W.heap.size then 1 else if y = mt then 2 else if y = mp then 3 else if ownI y then 4 else if own y then 5 else if ∃ o, A = some ⟨y, o, none⟩ then 7 else 0) = 0
   rw [if_neg (by omega), if_neg (by omega), if_neg (by omega), if_neg (fun hi => by have := (hId y hi).1; omega), if_neg (fun hi => by have := (hgd y hi).1; omega), if_neg (fun ⟨o, e⟩ => by have := (hA y o e).1; omega)] }
def EmSaid (N : Nat) (lg pg en gn : Int) (n : Nat) (ks : List Kd) (s : NS) (w : World) (e : Ending) (w' : World) : Prop := ∃ x gr, e = .returned (.pointer (some ⟨x.p, 0, none⟩)) /\ x.Of lg pg en gn n ks /\ CoJ 0 w' N gr x (ks0 s) 0 (fun _ => 0) /\ Below w.heap.size w w'
theorem empty_any {N : Nat} {ownI : Nat -> Prop} {pi : Nat} {gv av fv : Value} {s : NS} (hN : N <= w.heap.size) (hk : KRd w A n ks) (hA : ∀ b o, A = some ⟨b, o, none⟩ -> N <= b /\ b < w.heap.size /\ ¬ ownI b) (hI : IAt w ownI pi gv av fv s) (hId : ∀ y, ownI y -> N <= y /\ y < w.heap.size) :
  Calls Tryz.prog 32 #[cv lg pg en gn A n cap, .pointer (some ⟨pi, 0, none⟩)] w (EmSaid N lg pg en gn n ks s w) := by
 obtain ⟨w1, hw1⟩ : ∃ w1, w1 = w.alloc (.cells (cc lg pg en gn A n cap) 24) := ⟨_, rfl⟩
 have hb1 : Below w.heap.size w w1 := by rw [hw1]; exact (Below.refl _ _).alloc (Nat.le_refl _) _
 have r1 : Rec 24 w1 w.heap.size (cc lg pg en gn A n cap) := by rw [hw1]; exact Rec.new w _ _
 have KS : Hid (∀ W, Below w1.heap.size w1 W -> W.cell? ⟨w.heap.size, 0, none⟩ = some (.int .i64 lg) /\ W.cell? ⟨w.heap.size, 1, none⟩ = some (.int .i64 pg) /\ W.cell? ⟨w.heap.size, 2, none⟩ = some (.int .i64 en) /\ W.cell? ⟨w.heap.size, 3, none⟩ = some (.int .i64 gn) /\ W.cell? ⟨w.heap.size, 4, none⟩ = some (.slice A n cap)) := hi_ (fun W hb => by
  have r2 := r1.under hb
  exact ⟨r2.at_ 0, r2.at_ 1, r2.at_ 2, r2.at_ 3, r2.at_ 4⟩)
 have HE : Hid (∀ W own pgr m1 m2 mt mp, Em w1.heap.size W true true true own pgr m1 m2 mt mp -> Below w1.heap.size w1 W -> EmSaid N lg pg en gn n ks s w (.returned (.pointer (some ⟨W.heap.size, 0, none⟩))) (W.alloc (.cells #[.int .i64 lg, .int .i64 pg, .int .i64 en, .int .i64 gn, .slice A n cap, .pointer (some ⟨pi, 0, none⟩), .pointer (some ⟨pgr, 0, none⟩), .map (some mt), .map (some mp)] 86))) := hi_ (fun W own pgr m1 m2 mt mp hE hb => by
  obtain ⟨x, gr, hp, hx, hC⟩ := hE.core (lg := lg) (pg := pg) (en := en) (gn := gn) (cap := cap) hb (Nat.le_trans hN hb1.size) (hk.below hb1) (fun b o e => ⟨(hA b o e).1, Nat.lt_of_lt_of_le (hA b o e).2.1 hb1.size, (hA b o e).2.2⟩) (hI.below hb1) (fun y hy => ⟨(hId y hy).1, Nat.lt_of_lt_of_le (hId y hy).2 hb1.size⟩)
  exact ⟨x, gr, by rw [hp], hx, hC, (hb1.trans (hb.mono hb1.size)).alloc (Nat.le_trans hb1.size hb.size) _⟩)
 have s0 := KS.out w1.drew (Below.refl _ _).drew
 have E0 := hi_ (Em.start w1.heap.size w1.drew)
 have B0 := hi_ (show Below w1.heap.size w1 w1.drew from (Below.refl _ _).drew)
 have hmm := @run_makeMap Tryz.prog
 clear hk hA hI hId hb1 r1 hN
 go_enter Tryz.func32, Tryz.ntmps32
 go_upto_region 1 with (rw [<- hw1]; clear hw1)
 refine wp_region_noPanic ?_
 refine wp_region_held_drew (S := fun W => W.cell? ⟨w.heap.size, 0, none⟩ = some (.int .i64 lg) /\ W.cell? ⟨w.heap.size, 1, none⟩ = some (.int .i64 pg) /\ W.cell? ⟨w.heap.size, 2, none⟩ = some (.int .i64 en) /\ W.cell? ⟨w.heap.size, 3, none⟩ = some (.int .i64 gn) /\ W.cell? ⟨w.heap.size, 4, none⟩ = some (.slice A n cap)) (by kernel_rfl) s0 (fun hHeld => ?_)
 refine wpAnyH_take (i := 0) (oi := ⟨some 5, .load 24 (.tmp 2), 24, "ecs.go:201", #[], none⟩) (v := ?_) rfl (by kernel_rfl) (by kernel_rfl) (by kernel_rfl) (fun _ _ _ h => h) (Or.inl ⟨by rfl, ?_⟩) (by assumption) ?_
 rotate_left 1
 ·intro w' hSw; (try dsimp only at hSw); go_simp; (try with_reducible rfl)
 simp only [Act.put, sA_, sB_, sC_]
 refine wpAnyH_take (i := 1) (oi := ⟨some 6, .move (.tmp 1), 77, "ecs.go:201", #[], none⟩) (v := ?_) rfl (by kernel_rfl) (by kernel_rfl) (by kernel_rfl) (fun _ _ _ h => h) (Or.inl ⟨by rfl, ?_⟩) (by assumption) ?_
 rotate_left 1
 ·intro w' hSw; (try dsimp only at hSw); go_simp; (try with_reducible rfl)
 simp only [Act.put, sA_, sB_, sC_]
 refine wpAnyH_ready (rs := [2, 3, 4]) (by kernel_rfl) (by simp) ?_
 refine AllReadyH.cons (o := ⟨some 7, .call { callee := .value (.func 87), args := #[], argTypes := #[] }, 82, "ecs.go:201", #[], none⟩) rfl (fun K' hK => ?_) (AllReadyH.cons (o := ⟨some 8, .makeMap 83 none, 83, "ecs.go:201", #[], none⟩) rfl (fun K' hK => ?_) (AllReadyH.cons (o := ⟨some 9, .makeMap 84 none, 84, "ecs.go:201", #[], none⟩) rfl (fun K' hK => ?_) AllReadyH.nil))
 ·go_simp
  go_at_call 87; refine (GNew_any w1.drew).mono ?_; rintro e wG ⟨rfl, owG, n1G, n2G, ho, hb, hG⟩
  obtain ⟨ozG, em⟩ := E0.out.G B0.out.size hb ho hG
  have E0G := hi_ em
  have B0G := hi_ (B0.out.trans (hb.mono B0.out.size))
  have s0G := KS.out wG B0G.out
  clear ho hb hG em
  refine hK.out _ _ s0G (fun hHeld => ?_)
  clear hK K'
  try simp only [Act.put, sA_, sB_, sC_]
  refine wpAnyH_ready (rs := [3, 4]) (by kernel_rfl) (by simp) ?_
  refine AllReadyH.cons (o := ⟨some 8, .makeMap 83 none, 83, "ecs.go:201", #[], none⟩) rfl (fun K' hK => ?_) (AllReadyH.cons (o := ⟨some 9, .makeMap 84 none, 84, "ecs.go:201", #[], none⟩) rfl (fun K' hK => ?_) AllReadyH.nil)
  ·go_simp
   obtain ⟨wGT, hwGT⟩ : ∃ W, W = wG.alloc (.map #[] 0) := ⟨_, rfl⟩
   rw [<- hwGT]
   have E0GT := hi_ (show Em w1.heap.size wGT _ _ _ _ _ _ _ _ _ by rw [hwGT]; exact E0G.out.T B0G.out.size)
   have B0GT := hi_ (show Below w1.heap.size w1 wGT by rw [hwGT]; exact B0G.out.alloc B0G.out.size _)
   have s0GT := KS.out wGT B0GT.out
   clear hwGT
   refine hK.out _ _ s0GT (fun hHeld => ?_)
   clear hK K'
   try simp only [Act.put, sA_, sB_, sC_]
   refine wpAnyH_ready (rs := [4]) (by kernel_rfl) (by simp) ?_
   refine AllReadyH.cons (o := ⟨some 9, .makeMap 84 none, 84, "ecs.go:201", #[], none⟩) rfl (fun K' hK => ?_) AllReadyH.nil
   go_simp
   obtain ⟨wGTP, hwGTP⟩ : ∃ W, W = wGT.alloc (.map #[] 0) := ⟨_, rfl⟩
   rw [<- hwGTP]
   have E0GTP := hi_ (show Em w1.heap.size wGTP _ _ _ _ _ _ _ _ _ by rw [hwGTP]; exact E0GT.out.P B0GT.out.size)
   have B0GTP := hi_ (show Below w1.heap.size w1 wGTP by rw [hwGTP]; exact B0GT.out.alloc B0GT.out.size _)
   have s0GTP := KS.out wGTP B0GTP.out
   clear hwGTP
   refine hK.out _ _ s0GTP (fun hHeld => ?_)
   clear hK K'
   try simp only [Act.put, sA_, sB_, sC_]
   refine wpAnyH_take (i := 5) (oi := ⟨some 10, .build 86 #[(0, .tmp 5), (1, .tmp 6), (2, .tmp 7), (3, .tmp 8), (4, .tmp 9)], 86, "ecs.go:201", #[⟨0, .data⟩, ⟨1, .data⟩, ⟨2, .data⟩, ⟨3, .data⟩, ⟨4, .data⟩], none⟩) (v := ?_) rfl (by kernel_rfl) (by kernel_rfl) (by kernel_rfl) (fun _ _ _ h => h) (Or.inl ⟨by rfl, ?_⟩) (by assumption) ?_
   rotate_left 1
   ·intro w' hSw; (try dsimp only at hSw); go_simp; (try with_reducible rfl)
   simp only [Act.put, sA_, sB_, sC_]
   refine wpAnyH_ready (rs := [6]) (by kernel_rfl) (by simp) ?_
   refine AllReadyH.cons (o := ⟨some 11, .box 86 (.tmp 10), 30, "ecs.go:201", #[⟨5, .data⟩], none⟩) rfl (fun K' hK => ?_) AllReadyH.nil
   go_simp
   have SX := hi_ (HE.out wGTP _ _ _ _ _ _ E0GTP.out B0GTP.out)
   have s0GTPX := KS.out (wGTP.alloc (.cells #[.int .i64 lg, .int .i64 pg, .int .i64 en, .int .i64 gn, .slice A n cap, .pointer (some ⟨pi, 0, none⟩), .pointer (some ⟨w1.heap.size, 0, none⟩), .map (some wG.heap.size), .map (some wGT.heap.size)] 86)) (B0GTP.out.alloc B0GTP.out.size _)
   refine hK.out _ _ s0GTPX (fun hHeld => ?_)
   clear hK K'
   try simp only [Act.put, sA_, sB_, sC_]
   refine wpAnyH_take (i := 7) (oi := ⟨some 4, .assign (.tmp 11), 30, "ecs.go:201", #[⟨6, .data⟩, ⟨2, .chain⟩, ⟨0, .phase⟩, ⟨1, .phase⟩, ⟨2, .phase⟩, ⟨3, .phase⟩, ⟨4, .phase⟩, ⟨5, .phase⟩, ⟨6, .phase⟩], none⟩) (v := ?_) rfl (by kernel_rfl) (by kernel_rfl) (by kernel_rfl) (fun _ _ _ h => h) (Or.inl ⟨by rfl, ?_⟩) (by assumption) ?_
   rotate_left 1
   ·intro w' hSw; (try dsimp only at hSw); go_simp; (try with_reducible rfl)
   simp only [Act.put, sA_, sB_, sC_]
   refine wpAnyH_done (by kernel_rfl) ?_ _
   refine NoPanic.normal ?_
   clear hHeld s0 s0G s0GT s0GTP s0GTPX
   go_wp2
   go_ret
   exact SX.out
  ·go_simp
   obtain ⟨wGP, hwGP⟩ : ∃ W, W = wG.alloc (.map #[] 0) := ⟨_, rfl⟩
   rw [<- hwGP]
   have E0GP := hi_ (show Em w1.heap.size wGP _ _ _ _ _ _ _ _ _ by rw [hwGP]; exact E0G.out.P B0G.out.size)
   have B0GP := hi_ (show Below w1.heap.size w1 wGP by rw [hwGP]; exact B0G.out.alloc B0G.out.size _)
   have s0GP := KS.out wGP B0GP.out
   clear hwGP
   refine hK.out _ _ s0GP (fun hHeld => ?_)
   clear hK K'
   try simp only [Act.put, sA_, sB_, sC_]
   refine wpAnyH_ready (rs := [3]) (by kernel_rfl) (by simp) ?_
   refine AllReadyH.cons (o := ⟨some 8, .makeMap 83 none, 83, "ecs.go:201", #[], none⟩) rfl (fun K' hK => ?_) AllReadyH.nil
   go_simp
   obtain ⟨wGPT, hwGPT⟩ : ∃ W, W = wGP.alloc (.map #[] 0) := ⟨_, rfl⟩
   rw [<- hwGPT]
   have E0GPT := hi_ (show Em w1.heap.size wGPT _ _ _ _ _ _ _ _ _ by rw [hwGPT]; exact E0GP.out.T B0GP.out.size)
   have B0GPT := hi_ (show Below w1.heap.size w1 wGPT by rw [hwGPT]; exact B0GP.out.alloc B0GP.out.size _)
   have s0GPT := KS.out wGPT B0GPT.out
   clear hwGPT
   refine hK.out _ _ s0GPT (fun hHeld => ?_)
   clear hK K'
   try simp only [Act.put, sA_, sB_, sC_]
   refine wpAnyH_take (i := 5) (oi := ⟨some 10, .build 86 #[(0, .tmp 5), (1, .tmp 6), (2, .tmp 7), (3, .tmp 8), (4, .tmp 9)], 86, "ecs.go:201", #[⟨0, .data⟩, ⟨1, .data⟩, ⟨2, .data⟩, ⟨3, .data⟩, ⟨4, .data⟩], none⟩) (v := ?_) rfl (by kernel_rfl) (by kernel_rfl) (by kernel_rfl) (fun _ _ _ h => h) (Or.inl ⟨by rfl, ?_⟩) (by assumption) ?_
   rotate_left 1
   ·intro w' hSw; (try dsimp only at hSw); go_simp; (try with_reducible rfl)
   simp only [Act.put, sA_, sB_, sC_]
   refine wpAnyH_ready (rs := [6]) (by kernel_rfl) (by simp) ?_
   refine AllReadyH.cons (o := ⟨some 11, .box 86 (.tmp 10), 30, "ecs.go:201", #[⟨5, .data⟩], none⟩) rfl (fun K' hK => ?_) AllReadyH.nil
   go_simp
   have SX := hi_ (HE.out wGPT _ _ _ _ _ _ E0GPT.out B0GPT.out)
   have s0GPTX := KS.out (wGPT.alloc (.cells #[.int .i64 lg, .int .i64 pg, .int .i64 en, .int .i64 gn, .slice A n cap, .pointer (some ⟨pi, 0, none⟩), .pointer (some ⟨w1.heap.size, 0, none⟩), .map (some wGP.heap.size), .map (some wG.heap.size)] 86)) (B0GPT.out.alloc B0GPT.out.size _)
   refine hK.out _ _ s0GPTX (fun hHeld => ?_)
   clear hK K'
   try simp only [Act.put, sA_, sB_, sC_]
   refine wpAnyH_take (i := 7) (oi := ⟨some 4, .assign (.tmp 11), 30, "ecs.go:201", #[⟨6, .data⟩, ⟨2, .chain⟩, ⟨0, .phase⟩, ⟨1, .phase⟩, ⟨2, .phase⟩, ⟨3, .phase⟩, ⟨4, .phase⟩, ⟨5, .phase⟩, ⟨6, .phase⟩], none⟩) (v := ?_) rfl (by kernel_rfl) (by kernel_rfl) (by kernel_rfl) (fun _ _ _ h => h) (Or.inl ⟨by rfl, ?_⟩) (by assumption) ?_
   rotate_left 1
   ·intro w' hSw; (try dsimp only at hSw); go_simp; (try with_reducible rfl)
   simp only [Act.put, sA_, sB_, sC_]
   refine wpAnyH_done (by kernel_rfl) ?_ _
   refine NoPanic.normal ?_
   clear hHeld s0 s0G s0GP s0GPT s0GPTX
   go_wp2
   go_ret
   exact SX.out
 ·go_simp
  obtain ⟨wT, hwT⟩ : ∃ W, W = (w1.alloc (.map #[] 0)).drew := ⟨_, rfl⟩
  rw [<- hwT]
  have E0T := hi_ (show Em w1.heap.size wT _ _ _ _ _ _ _ _ _ by rw [hwT]; exact E0.out.T B0.out.size)
  have B0T := hi_ (show Below w1.heap.size w1 wT by rw [hwT]; exact B0.out.alloc B0.out.size _)
  have s0T := KS.out wT B0T.out
  clear hwT
  refine hK.out _ _ s0T (fun hHeld => ?_)
  clear hK K'
  try simp only [Act.put, sA_, sB_, sC_]
  refine wpAnyH_ready (rs := [2, 4]) (by kernel_rfl) (by simp) ?_
  refine AllReadyH.cons (o := ⟨some 7, .call { callee := .value (.func 87), args := #[], argTypes := #[] }, 82, "ecs.go:201", #[], none⟩) rfl (fun K' hK => ?_) (AllReadyH.cons (o := ⟨some 9, .makeMap 84 none, 84, "ecs.go:201", #[], none⟩) rfl (fun K' hK => ?_) AllReadyH.nil)
  ·go_simp
   go_at_call 87; refine (GNew_any wT).mono ?_; rintro e wTG ⟨rfl, owTG, n1TG, n2TG, ho, hb, hG⟩
   obtain ⟨ozTG, em⟩ := E0T.out.G B0T.out.size hb ho hG
   have E0TG := hi_ em
   have B0TG := hi_ (B0T.out.trans (hb.mono B0T.out.size))
   have s0TG := KS.out wTG B0TG.out
   clear ho hb hG em
   refine hK.out _ _ s0TG (fun hHeld => ?_)
   clear hK K'
   try simp only [Act.put, sA_, sB_, sC_]
   refine wpAnyH_ready (rs := [4]) (by kernel_rfl) (by simp) ?_
   refine AllReadyH.cons (o := ⟨some 9, .makeMap 84 none, 84, "ecs.go:201", #[], none⟩) rfl (fun K' hK => ?_) AllReadyH.nil
   go_simp
   obtain ⟨wTGP, hwTGP⟩ : ∃ W, W = wTG.alloc (.map #[] 0) := ⟨_, rfl⟩
   rw [<- hwTGP]
   have E0TGP := hi_ (show Em w1.heap.size wTGP _ _ _ _ _ _ _ _ _ by rw [hwTGP]; exact E0TG.out.P B0TG.out.size)
   have B0TGP := hi_ (show Below w1.heap.size w1 wTGP by rw [hwTGP]; exact B0TG.out.alloc B0TG.out.size _)
   have s0TGP := KS.out wTGP B0TGP.out
   clear hwTGP
   refine hK.out _ _ s0TGP (fun hHeld => ?_)
   clear hK K'
   try simp only [Act.put, sA_, sB_, sC_]
   refine wpAnyH_take (i := 5) (oi := ⟨some 10, .build 86 #[(0, .tmp 5), (1, .tmp 6), (2, .tmp 7), (3, .tmp 8), (4, .tmp 9)], 86, "ecs.go:201", #[⟨0, .data⟩, ⟨1, .data⟩, ⟨2, .data⟩, ⟨3, .data⟩, ⟨4, .data⟩], none⟩) (v := ?_) rfl (by kernel_rfl) (by kernel_rfl) (by kernel_rfl) (fun _ _ _ h => h) (Or.inl ⟨by rfl, ?_⟩) (by assumption) ?_
   rotate_left 1
   ·intro w' hSw; (try dsimp only at hSw); go_simp; (try with_reducible rfl)
   simp only [Act.put, sA_, sB_, sC_]
   refine wpAnyH_ready (rs := [6]) (by kernel_rfl) (by simp) ?_
   refine AllReadyH.cons (o := ⟨some 11, .box 86 (.tmp 10), 30, "ecs.go:201", #[⟨5, .data⟩], none⟩) rfl (fun K' hK => ?_) AllReadyH.nil
   go_simp
   have SX := hi_ (HE.out wTGP _ _ _ _ _ _ E0TGP.out B0TGP.out)
   have s0TGPX := KS.out (wTGP.alloc (.cells #[.int .i64 lg, .int .i64 pg, .int .i64 en, .int .i64 gn, .slice A n cap, .pointer (some ⟨pi, 0, none⟩), .pointer (some ⟨wT.heap.size, 0, none⟩), .map (some w1.heap.size), .map (some wTG.heap.size)] 86)) (B0TGP.out.alloc B0TGP.out.size _)
   refine hK.out _ _ s0TGPX (fun hHeld => ?_)
   clear hK K'
   try simp only [Act.put, sA_, sB_, sC_]
   refine wpAnyH_take (i := 7) (oi := ⟨some 4, .assign (.tmp 11), 30, "ecs.go:201", #[⟨6, .data⟩, ⟨2, .chain⟩, ⟨0, .phase⟩, ⟨1, .phase⟩, ⟨2, .phase⟩, ⟨3, .phase⟩, ⟨4, .phase⟩, ⟨5, .phase⟩, ⟨6, .phase⟩], none⟩) (v := ?_) rfl (by kernel_rfl) (by kernel_rfl) (by kernel_rfl) (fun _ _ _ h => h) (Or.inl ⟨by rfl, ?_⟩) (by assumption) ?_
   rotate_left 1
   ·intro w' hSw; (try dsimp only at hSw); go_simp; (try with_reducible rfl)
   simp only [Act.put, sA_, sB_, sC_]
   refine wpAnyH_done (by kernel_rfl) ?_ _
   refine NoPanic.normal ?_
   clear hHeld s0 s0T s0TG s0TGP s0TGPX
   go_wp2
   go_ret
   exact SX.out
  ·go_simp
   obtain ⟨wTP, hwTP⟩ : ∃ W, W = wT.alloc (.map #[] 0) := ⟨_, rfl⟩
   rw [<- hwTP]
   have E0TP := hi_ (show Em w1.heap.size wTP _ _ _ _ _ _ _ _ _ by rw [hwTP]; exact E0T.out.P B0T.out.size)
   have B0TP := hi_ (show Below w1.heap.size w1 wTP by rw [hwTP]; exact B0T.out.alloc B0T.out.size _)
   have s0TP := KS.out wTP B0TP.out
   clear hwTP
   refine hK.out _ _ s0TP (fun hHeld => ?_)
   clear hK K'
   try simp only [Act.put, sA_, sB_, sC_]
   refine wpAnyH_ready (rs := [2]) (by kernel_rfl) (by simp) ?_
   refine AllReadyH.cons (o := ⟨some 7, .call { callee := .value (.func 87), args := #[], argTypes := #[] }, 82, "ecs.go:201", #[], none⟩) rfl (fun K' hK => ?_) AllReadyH.nil
   go_simp
   go_at_call 87; refine (GNew_any wTP).mono ?_; rintro e wTPG ⟨rfl, owTPG, n1TPG, n2TPG, ho, hb, hG⟩
   obtain ⟨ozTPG, em⟩ := E0TP.out.G B0TP.out.size hb ho hG
   have E0TPG := hi_ em
   have B0TPG := hi_ (B0TP.out.trans (hb.mono B0TP.out.size))
   have s0TPG := KS.out wTPG B0TPG.out
   clear ho hb hG em
   refine hK.out _ _ s0TPG (fun hHeld => ?_)
   clear hK K'
   try simp only [Act.put, sA_, sB_, sC_]
   refine wpAnyH_take (i := 5) (oi := ⟨some 10, .build 86 #[(0, .tmp 5), (1, .tmp 6), (2, .tmp 7), (3, .tmp 8), (4, .tmp 9)], 86, "ecs.go:201", #[⟨0, .data⟩, ⟨1, .data⟩, ⟨2, .data⟩, ⟨3, .data⟩, ⟨4, .data⟩], none⟩) (v := ?_) rfl (by kernel_rfl) (by kernel_rfl) (by kernel_rfl) (fun _ _ _ h => h) (Or.inl ⟨by rfl, ?_⟩) (by assumption) ?_
   rotate_left 1
   ·intro w' hSw; (try dsimp only at hSw); go_simp; (try with_reducible rfl)
   simp only [Act.put, sA_, sB_, sC_]
   refine wpAnyH_ready (rs := [6]) (by kernel_rfl) (by simp) ?_
   refine AllReadyH.cons (o := ⟨some 11, .box 86 (.tmp 10), 30, "ecs.go:201", #[⟨5, .data⟩], none⟩) rfl (fun K' hK => ?_) AllReadyH.nil
   go_simp
   have SX := hi_ (HE.out wTPG _ _ _ _ _ _ E0TPG.out B0TPG.out)
   have s0TPGX := KS.out (wTPG.alloc (.cells #[.int .i64 lg, .int .i64 pg, .int .i64 en, .int .i64 gn, .slice A n cap, .pointer (some ⟨pi, 0, none⟩), .pointer (some ⟨wTP.heap.size, 0, none⟩), .map (some w1.heap.size), .map (some wT.heap.size)] 86)) (B0TPG.out.alloc B0TPG.out.size _)
   refine hK.out _ _ s0TPGX (fun hHeld => ?_)
   clear hK K'
   try simp only [Act.put, sA_, sB_, sC_]
   refine wpAnyH_take (i := 7) (oi := ⟨some 4, .assign (.tmp 11), 30, "ecs.go:201", #[⟨6, .data⟩, ⟨2, .chain⟩, ⟨0, .phase⟩, ⟨1, .phase⟩, ⟨2, .phase⟩, ⟨3, .phase⟩, ⟨4, .phase⟩, ⟨5, .phase⟩, ⟨6, .phase⟩], none⟩) (v := ?_) rfl (by kernel_rfl) (by kernel_rfl) (by kernel_rfl) (fun _ _ _ h => h) (Or.inl ⟨by rfl, ?_⟩) (by assumption) ?_
   rotate_left 1
   ·intro w' hSw; (try dsimp only at hSw); go_simp; (try with_reducible rfl)
   simp only [Act.put, sA_, sB_, sC_]
   refine wpAnyH_done (by kernel_rfl) ?_ _
   refine NoPanic.normal ?_
   clear hHeld s0 s0T s0TP s0TPG s0TPGX
   go_wp2
   go_ret
   exact SX.out
 ·go_simp
  obtain ⟨wP, hwP⟩ : ∃ W, W = (w1.alloc (.map #[] 0)).drew := ⟨_, rfl⟩
  rw [<- hwP]
  have E0P := hi_ (show Em w1.heap.size wP _ _ _ _ _ _ _ _ _ by rw [hwP]; exact E0.out.P B0.out.size)
  have B0P := hi_ (show Below w1.heap.size w1 wP by rw [hwP]; exact B0.out.alloc B0.out.size _)
  have s0P := KS.out wP B0P.out
  clear hwP
  refine hK.out _ _ s0P (fun hHeld => ?_)
  clear hK K'
  try simp only [Act.put, sA_, sB_, sC_]
  refine wpAnyH_ready (rs := [2, 3]) (by kernel_rfl) (by simp) ?_
  refine AllReadyH.cons (o := ⟨some 7, .call { callee := .value (.func 87), args := #[], argTypes := #[] }, 82, "ecs.go:201", #[], none⟩) rfl (fun K' hK => ?_) (AllReadyH.cons (o := ⟨some 8, .makeMap 83 none, 83, "ecs.go:201", #[], none⟩) rfl (fun K' hK => ?_) AllReadyH.nil)
  ·go_simp
   go_at_call 87; refine (GNew_any wP).mono ?_; rintro e wPG ⟨rfl, owPG, n1PG, n2PG, ho, hb, hG⟩
   obtain ⟨ozPG, em⟩ := E0P.out.G B0P.out.size hb ho hG
   have E0PG := hi_ em
   have B0PG := hi_ (B0P.out.trans (hb.mono B0P.out.size))
   have s0PG := KS.out wPG B0PG.out
   clear ho hb hG em
   refine hK.out _ _ s0PG (fun hHeld => ?_)
   clear hK K'
   try simp only [Act.put, sA_, sB_, sC_]
   refine wpAnyH_ready (rs := [3]) (by kernel_rfl) (by simp) ?_
   refine AllReadyH.cons (o := ⟨some 8, .makeMap 83 none, 83, "ecs.go:201", #[], none⟩) rfl (fun K' hK => ?_) AllReadyH.nil
   go_simp
   obtain ⟨wPGT, hwPGT⟩ : ∃ W, W = wPG.alloc (.map #[] 0) := ⟨_, rfl⟩
   rw [<- hwPGT]
   have E0PGT := hi_ (show Em w1.heap.size wPGT _ _ _ _ _ _ _ _ _ by rw [hwPGT]; exact E0PG.out.T B0PG.out.size)
   have B0PGT := hi_ (show Below w1.heap.size w1 wPGT by rw [hwPGT]; exact B0PG.out.alloc B0PG.out.size _)
   have s0PGT := KS.out wPGT B0PGT.out
   clear hwPGT
   refine hK.out _ _ s0PGT (fun hHeld => ?_)
   clear hK K'
   try simp only [Act.put, sA_, sB_, sC_]
   refine wpAnyH_take (i := 5) (oi := ⟨some 10, .build 86 #[(0, .tmp 5), (1, .tmp 6), (2, .tmp 7), (3, .tmp 8), (4, .tmp 9)], 86, "ecs.go:201", #[⟨0, .data⟩, ⟨1, .data⟩, ⟨2, .data⟩, ⟨3, .data⟩, ⟨4, .data⟩], none⟩) (v := ?_) rfl (by kernel_rfl) (by kernel_rfl) (by kernel_rfl) (fun _ _ _ h => h) (Or.inl ⟨by rfl, ?_⟩) (by assumption) ?_
   rotate_left 1
   ·intro w' hSw; (try dsimp only at hSw); go_simp; (try with_reducible rfl)
   simp only [Act.put, sA_, sB_, sC_]
   refine wpAnyH_ready (rs := [6]) (by kernel_rfl) (by simp) ?_
   refine AllReadyH.cons (o := ⟨some 11, .box 86 (.tmp 10), 30, "ecs.go:201", #[⟨5, .data⟩], none⟩) rfl (fun K' hK => ?_) AllReadyH.nil
   go_simp
   have SX := hi_ (HE.out wPGT _ _ _ _ _ _ E0PGT.out B0PGT.out)
   have s0PGTX := KS.out (wPGT.alloc (.cells #[.int .i64 lg, .int .i64 pg, .int .i64 en, .int .i64 gn, .slice A n cap, .pointer (some ⟨pi, 0, none⟩), .pointer (some ⟨wP.heap.size, 0, none⟩), .map (some wPG.heap.size), .map (some w1.heap.size)] 86)) (B0PGT.out.alloc B0PGT.out.size _)
   refine hK.out _ _ s0PGTX (fun hHeld => ?_)
   clear hK K'
   try simp only [Act.put, sA_, sB_, sC_]
   refine wpAnyH_take (i := 7) (oi := ⟨some 4, .assign (.tmp 11), 30, "ecs.go:201", #[⟨6, .data⟩, ⟨2, .chain⟩, ⟨0, .phase⟩, ⟨1, .phase⟩, ⟨2, .phase⟩, ⟨3, .phase⟩, ⟨4, .phase⟩, ⟨5, .phase⟩, ⟨6, .phase⟩], none⟩) (v := ?_) rfl (by kernel_rfl) (by kernel_rfl) (by kernel_rfl) (fun _ _ _ h => h) (Or.inl ⟨by rfl, ?_⟩) (by assumption) ?_
   rotate_left 1
   ·intro w' hSw; (try dsimp only at hSw); go_simp; (try with_reducible rfl)
   simp only [Act.put, sA_, sB_, sC_]
   refine wpAnyH_done (by kernel_rfl) ?_ _
   refine NoPanic.normal ?_
   clear hHeld s0 s0P s0PG s0PGT s0PGTX
   go_wp2
   go_ret
   exact SX.out
  ·go_simp
   obtain ⟨wPT, hwPT⟩ : ∃ W, W = wP.alloc (.map #[] 0) := ⟨_, rfl⟩
   rw [<- hwPT]
   have E0PT := hi_ (show Em w1.heap.size wPT _ _ _ _ _ _ _ _ _ by rw [hwPT]; exact E0P.out.T B0P.out.size)
   have B0PT := hi_ (show Below w1.heap.size w1 wPT by rw [hwPT]; exact B0P.out.alloc B0P.out.size _)
   have s0PT := KS.out wPT B0PT.out
   clear hwPT
   refine hK.out _ _ s0PT (fun hHeld => ?_)
   clear hK K'
   try simp only [Act.put, sA_, sB_, sC_]
   refine wpAnyH_ready (rs := [2]) (by kernel_rfl) (by simp) ?_
   refine AllReadyH.cons (o := ⟨some 7, .call { callee := .value (.func 87), args := #[], argTypes := #[] }, 82, "ecs.go:201", #[], none⟩) rfl (fun K' hK => ?_) AllReadyH.nil
   go_simp
   go_at_call 87; refine (GNew_any wPT).mono ?_; rintro e wPTG ⟨rfl, owPTG, n1PTG, n2PTG, ho, hb, hG⟩
   obtain ⟨ozPTG, em⟩ := E0PT.out.G B0PT.out.size hb ho hG
   have E0PTG := hi_ em
   have B0PTG := hi_ (B0PT.out.trans (hb.mono B0PT.out.size))
   have s0PTG := KS.out wPTG B0PTG.out
   clear ho hb hG em
   refine hK.out _ _ s0PTG (fun hHeld => ?_)
   clear hK K'
   try simp only [Act.put, sA_, sB_, sC_]
   refine wpAnyH_take (i := 5) (oi := ⟨some 10, .build 86 #[(0, .tmp 5), (1, .tmp 6), (2, .tmp 7), (3, .tmp 8), (4, .tmp 9)], 86, "ecs.go:201", #[⟨0, .data⟩, ⟨1, .data⟩, ⟨2, .data⟩, ⟨3, .data⟩, ⟨4, .data⟩], none⟩) (v := ?_) rfl (by kernel_rfl) (by kernel_rfl) (by kernel_rfl) (fun _ _ _ h => h) (Or.inl ⟨by rfl, ?_⟩) (by assumption) ?_
   rotate_left 1
   ·intro w' hSw; (try dsimp only at hSw); go_simp; (try with_reducible rfl)
   simp only [Act.put, sA_, sB_, sC_]
   refine wpAnyH_ready (rs := [6]) (by kernel_rfl) (by simp) ?_
   refine AllReadyH.cons (o := ⟨some 11, .box 86 (.tmp 10), 30, "ecs.go:201", #[⟨5, .data⟩], none⟩) rfl (fun K' hK => ?_) AllReadyH.nil
   go_simp
   have SX := hi_ (HE.out wPTG _ _ _ _ _ _ E0PTG.out B0PTG.out)
   have s0PTGX := KS.out (wPTG.alloc (.cells #[.int .i64 lg, .int .i64 pg, .int .i64 en, .int .i64 gn, .slice A n cap, .pointer (some ⟨pi, 0, none⟩), .pointer (some ⟨wPT.heap.size, 0, none⟩), .map (some wP.heap.size), .map (some w1.heap.size)] 86)) (B0PTG.out.alloc B0PTG.out.size _)
   refine hK.out _ _ s0PTGX (fun hHeld => ?_)
   clear hK K'
   try simp only [Act.put, sA_, sB_, sC_]
   refine wpAnyH_take (i := 7) (oi := ⟨some 4, .assign (.tmp 11), 30, "ecs.go:201", #[⟨6, .data⟩, ⟨2, .chain⟩, ⟨0, .phase⟩, ⟨1, .phase⟩, ⟨2, .phase⟩, ⟨3, .phase⟩, ⟨4, .phase⟩, ⟨5, .phase⟩, ⟨6, .phase⟩], none⟩) (v := ?_) rfl (by kernel_rfl) (by kernel_rfl) (by kernel_rfl) (fun _ _ _ h => h) (Or.inl ⟨by rfl, ?_⟩) (by assumption) ?_
   rotate_left 1
   ·intro w' hSw; (try dsimp only at hSw); go_simp; (try with_reducible rfl)
   simp only [Act.put, sA_, sB_, sC_]
   refine wpAnyH_done (by kernel_rfl) ?_ _
   refine NoPanic.normal ?_
   clear hHeld s0 s0P s0PT s0PTG s0PTGX
   go_wp2
   go_ret
   exact SX.out
theorem enew_no (h : KRd w A n ks) (hn : n <= 1000000) (hL : Lens ks) (hR : ¬ (Cf.mk lg pg en gn ks).Right) :
  Calls Tryz.prog 9 #[cv lg pg en gn A n cap] w fun e w' => e = .returned (.pointer none) /\ Below w.heap.size w w' := by
 obtain ⟨w1, hw1⟩ : ∃ w1, w1 = w.alloc (.cells (cc lg pg en gn A n cap) 24) := ⟨_, rfl⟩
 have hb1 : Below w.heap.size w w1 := by rw [hw1]; exact (Below.refl _ _).alloc (Nat.le_refl _) _
 have r1 : Rec 24 w1 w.heap.size (cc lg pg en gn A n cap) := by rw [hw1]; exact Rec.new w _ _
 have CC := Check_any lg pg en gn A n cap ks w1 (h.below hb1) hn hL
 rw [if_neg hR] at CC
 have CC := hi_ CC
 have k0 := r1.at_ 0
 have k1 := r1.at_ 1
 have k2 := r1.at_ 2
 have k3 := r1.at_ 3
 have k4 := r1.at_ 4
 have HB := hi_ hb1
 clear h hb1 r1 hR
 go_enter Tryz.func9, Tryz.ntmps9
 go_wp2_with (first
  | (rw [<- hw1]; clear hw1)
  | (go_at_call 31; refine CC.out.mono ?_; rintro e w2 ⟨rfl, hb2⟩; have HB2 := hi_ hb2; clear hb2))
 go_ret
 exact ⟨rfl, HB.out.trans (HB2.out.mono HB.out.size)⟩
theorem enew_yes (h : KRd w A n ks) (hn : n <= 1000000) (hL : Lens ks) (hR : (Cf.mk lg pg en gn ks).Right) :
  Calls Tryz.prog 9 #[cv lg pg en gn A n cap] w (EmSaid w.heap.size lg pg en gn n ks (NS.new en gn) w) := by
 obtain ⟨w1, hw1⟩ : ∃ w1, w1 = w.alloc (.cells (cc lg pg en gn A n cap) 24) := ⟨_, rfl⟩
 have hb1 : Below w.heap.size w w1 := by rw [hw1]; exact (Below.refl _ _).alloc (Nat.le_refl _) _
 have r1 : Rec 24 w1 w.heap.size (cc lg pg en gn A n cap) := by rw [hw1]; exact Rec.new w _ _
 have CC := Check_any lg pg en gn A n cap ks w1 (h.below hb1) hn hL
 rw [if_pos hR] at CC
 have CC := hi_ CC
 have KS : Hid (∀ W, Below w1.heap.size w1 W -> W.cell? ⟨w.heap.size, 0, none⟩ = some (.int .i64 lg) /\ W.cell? ⟨w.heap.size, 1, none⟩ = some (.int .i64 pg) /\ W.cell? ⟨w.heap.size, 2, none⟩ = some (.int .i64 en) /\ W.cell? ⟨w.heap.size, 3, none⟩ = some (.int .i64 gn) /\ W.cell? ⟨w.heap.size, 4, none⟩ = some (.slice A n cap)) := hi_ (fun W hb => by
  have r2 := r1.under hb
  exact ⟨r2.at_ 0, r2.at_ 1, r2.at_ 2, r2.at_ 3, r2.at_ 4⟩)
 have CO : Hid (∀ W, Below w1.heap.size w1 W -> Calls Tryz.prog 33 #[cv lg pg en gn A n cap] W fun e w' => ∃ A' c', e = .returned (cv lg pg en gn A' n c') /\ KRd w' A' n ks /\ (∀ b o, A' = some ⟨b, o, none⟩ -> W.heap.size <= b /\ b < w'.heap.size) /\ Below W.heap.size W w') := hi_ (fun W hb => own_any lg pg en gn A n cap ks W ((h.below hb1).below hb) hn)
 have k0 := r1.at_ 0
 have k1 := r1.at_ 1
 have k2 := r1.at_ 2
 have k3 := r1.at_ 3
 have k4 := r1.at_ 4
 have HB := hi_ hb1
 clear h hb1 r1 hR
 go_enter Tryz.func9, Tryz.ntmps9
 go_upto_region 3 with (first
  | (rw [<- hw1]; clear hw1)
  | (go_at_call 31; refine CC.out.mono ?_; rintro e w2 ⟨rfl, hb2⟩; have HB2 := hi_ hb2; clear hb2 k0 k1 k2 k3 k4))
 have s2 := KS.out w2.drew (HB2.out.drew)
 refine wp_region_noPanic ?_
 refine wp_region_held_drew (S := fun W => W.cell? ⟨w.heap.size, 0, none⟩ = some (.int .i64 lg) /\ W.cell? ⟨w.heap.size, 1, none⟩ = some (.int .i64 pg) /\ W.cell? ⟨w.heap.size, 2, none⟩ = some (.int .i64 en) /\ W.cell? ⟨w.heap.size, 3, none⟩ = some (.int .i64 gn) /\ W.cell? ⟨w.heap.size, 4, none⟩ = some (.slice A n cap)) (by kernel_rfl) s2 (fun hHeld => ?_)
 refine wpAnyH_take (i := 0) (oi := ⟨some 6, .load 24 (.tmp 1), 24, "ecs.go:47", #[], none⟩) (v := ?_) rfl (by kernel_rfl) (by kernel_rfl) (by kernel_rfl) (fun _ _ _ h => h) (Or.inl ⟨by rfl, ?_⟩) (by assumption) ?_
 rotate_left 1
 ·intro w' hSw; (try dsimp only at hSw); go_simp; (try with_reducible rfl)
 simp only [Act.put, sA_, sB_, sC_]
 refine wpAnyH_take (i := 2) (oi := ⟨some 8, .fieldAddr 24 (.tmp 1) 2, 0, "ecs.go:47", #[], none⟩) (v := ?_) rfl (by kernel_rfl) (by kernel_rfl) (by kernel_rfl) (fun _ _ _ h => h) (Or.inl ⟨by rfl, ?_⟩) (by assumption) ?_
 rotate_left 1
 ·intro w' hSw; (try dsimp only at hSw); go_simp; (try with_reducible rfl)
 simp only [Act.put, sA_, sB_, sC_]
 refine wpAnyH_take (i := 3) (oi := ⟨some 9, .load 3 (.tmp 8), 3, "ecs.go:47", #[⟨2, .data⟩], none⟩) (v := ?_) rfl (by kernel_rfl) (by kernel_rfl) (by kernel_rfl) (fun _ _ _ h => h) (Or.inl ⟨by rfl, ?_⟩) (by assumption) ?_
 rotate_left 1
 ·intro w' hSw; (try dsimp only at hSw); go_simp; (try with_reducible rfl)
 simp only [Act.put, sA_, sB_, sC_]
 refine wpAnyH_take (i := 4) (oi := ⟨some 10, .fieldAddr 24 (.tmp 1) 3, 0, "ecs.go:47", #[], none⟩) (v := ?_) rfl (by kernel_rfl) (by kernel_rfl) (by kernel_rfl) (fun _ _ _ h => h) (Or.inl ⟨by rfl, ?_⟩) (by assumption) ?_
 rotate_left 1
 ·intro w' hSw; (try dsimp only at hSw); go_simp; (try with_reducible rfl)
 simp only [Act.put, sA_, sB_, sC_]
 refine wpAnyH_take (i := 5) (oi := ⟨some 11, .load 3 (.tmp 10), 3, "ecs.go:47", #[⟨4, .data⟩], none⟩) (v := ?_) rfl (by kernel_rfl) (by kernel_rfl) (by kernel_rfl) (fun _ _ _ h => h) (Or.inl ⟨by rfl, ?_⟩) (by assumption) ?_
 rotate_left 1
 ·intro w' hSw; (try dsimp only at hSw); go_simp; (try with_reducible rfl)
 simp only [Act.put, sA_, sB_, sC_]
 refine wpAnyH_ready (rs := [1]) (by kernel_rfl) (by simp) ?_
 refine AllReadyH.cons (o := ⟨some 7, .call { callee := .value (.func 33), args := #[.tmp 6], argTypes := #[24] }, 24, "ecs.go:47", #[⟨0, .data⟩], none⟩) rfl (fun K' hK => ?_) AllReadyH.nil
 go_simp
 go_at_call 33; refine (CO.out w2.drew HB2.out.drew).mono ?_; rintro e w3 ⟨A', c', rfl, hk3, ha3, hb3⟩
 have HB3 := hi_ (HB2.out.trans ((show Below w2.heap.size w2 w3 from (Below.refl _ _).drew.trans hb3).mono HB2.out.size))
 have HS3 := hi_ (show w2.heap.size <= w3.heap.size from hb3.size)
 have s3 := KS.out w3 HB3.out
 have HK3 := hi_ (And.intro hk3 ha3)
 clear hk3 ha3 hb3
 refine hK.out _ _ s3 (fun hHeld => ?_)
 clear hK K'
 try simp only [Act.put, sA_, sB_, sC_]
 refine wpAnyH_ready (rs := [6]) (by kernel_rfl) (by simp) ?_
 refine AllReadyH.cons (o := ⟨some 12, .call { callee := .value (.func 34), args := #[.tmp 9, .tmp 11], argTypes := #[3, 3] }, 77, "ecs.go:47", #[⟨3, .data⟩, ⟨5, .data⟩, ⟨1, .chain⟩], none⟩) rfl (fun K' hK => ?_) AllReadyH.nil
 go_simp
 go_at_call 34; refine (INew_any en gn w3).mono ?_; rintro e w4 ⟨rfl, hb4, hlt4, I4⟩
 have HB4 := hi_ (HB3.out.trans (hb4.mono HB3.out.size))
 have s4 := KS.out w4 HB4.out
 have HI4 := hi_ (And.intro I4 (And.intro hb4 hlt4))
 clear hb4 hlt4 I4
 refine hK.out _ _ s4 (fun hHeld => ?_)
 clear hK K'
 try simp only [Act.put, sA_, sB_, sC_]
 refine wpAnyH_ready (rs := [7]) (by kernel_rfl) (by simp) ?_
 refine AllReadyH.cons (o := ⟨some 13, .call { callee := .value (.func 32), args := #[.tmp 7, .tmp 12], argTypes := #[24, 77] }, 30, "ecs.go:47", #[⟨1, .data⟩, ⟨6, .data⟩, ⟨6, .chain⟩], none⟩) rfl (fun K' hK => ?_) AllReadyH.nil
 go_simp
 have CE : Hid (Calls Tryz.prog 32 #[cv lg pg en gn A' n c', .pointer (some ⟨w3.heap.size, 0, none⟩)] w4 (EmSaid w.heap.size lg pg en gn n ks (NS.new en gn) w4)) := hi_ (by
  have hs1 := HB.out.size
  have hs2 := HB2.out.size
  have hs3 := HS3.out
  have hs4 := HI4.out.2.1.size
  have hlt := HI4.out.2.2
  exact empty_any lg pg en gn A' n c' ks w4 (by omega) (HK3.out.1.below HI4.out.2.1) (fun b o e => by have := HK3.out.2 b o e; have h1 : w2.heap.size <= b := this.1; exact ⟨by omega, by omega, fun e' => by have e' : b = w3.heap.size := e'; omega⟩) HI4.out.1 (fun y hy => by have e' : y = w3.heap.size := hy; exact ⟨by omega, by omega⟩))
 go_at_call 32; refine CE.out.mono ?_; rintro e w5 ⟨x, gr, rfl, hx, hC, hb5⟩
 have HB5 := hi_ (HB4.out.trans (hb5.mono HB4.out.size))
 have s5 := KS.out w5 HB5.out
 have HC := hi_ (And.intro hx hC)
 clear hx hC hb5
 refine hK.out _ _ s5 (fun hHeld => ?_)
 clear hK K'
 try simp only [Act.put]
 refine wpAnyH_take (i := 8) (oi := ⟨some 2, .assign (.tmp 13), 30, "ecs.go:47", #[⟨7, .data⟩, ⟨7, .chain⟩, ⟨0, .phase⟩, ⟨1, .phase⟩, ⟨2, .phase⟩, ⟨3, .phase⟩, ⟨4, .phase⟩, ⟨5, .phase⟩, ⟨6, .phase⟩, ⟨7, .phase⟩], none⟩) (v := ?_) rfl (by kernel_rfl) (by kernel_rfl) (by kernel_rfl) (fun _ _ _ h => h) (Or.inl ⟨by rfl, ?_⟩) (by assumption) ?_
 rotate_left 1
 ·intro w' hSw; (try dsimp only at hSw); go_simp; (try with_reducible rfl)
 simp only [Act.put, sA_, sB_, sC_]
 refine wpAnyH_done (by kernel_rfl) ?_ _
 refine NoPanic.normal ?_
 clear hHeld s2 s3 s4 s5
 go_wp2
 go_ret
 exact ⟨x, gr, rfl, HC.out.1, HC.out.2, HB.out.trans (HB5.out.mono HB.out.size)⟩
end
end Go.Proofs.YthiknmhkdeicjaaGreatDoor
namespace Go.Proofs.YthiknmhkdeicjaaGreatDoor
open Go.RowKit
set_option maxRecDepth 20000
section
variable {w : World} {N : Nat} {gr : Nat -> Nat} {x : Fx} {k : Ks} {c : Nat} {pt : Nat -> Nat}
theorem CoJ.take (h : CoJ 0 w N gr x k c pt) : Calls Tryz.prog 73 #[.pointer (some ⟨x.pi, 0, none⟩)] w fun e w' => e = .returned (.tuple #[.agg #[.int .i64 k.ns.take.2.1.1, .int .i64 k.ns.take.2.1.2], .int .i64 k.ns.take.2.2]) /\ ∃ gr', CoJ 0 w' N gr' x { k with ns := k.ns.take.1 } c pt /\ TGo w gr w' gr' := by
 obtain ⟨gv, av, fv, I⟩ := h.ids (by decide)
 refine (Take_any (fun y hy => h.dom y (by rw [show gr y = 4 from hy]; decide)) I).mono ?_
 rintro e w' ⟨rfl, hG⟩
 exact ⟨rfl, h.ids_go hG⟩
theorem CoJ.node (h : CoJ 0 w N gr x k c pt) (s : Nat) (hs : s < 18446744073709551616) (hpos : 0 < k.S.length) (hS : k.S.length <= 1000000) :
  Calls Tryz.prog 75 #[.pointer (some ⟨x.pg, 0, none⟩), .int .u64 s] w fun e w' => e = .returned (.int .i64 ((gNode k.S s).2 : Nat)) /\ ∃ gr', CoJ 0 w' N gr' x { k with S := (gNode k.S s).1 } c pt /\ TGo w gr w' gr' := by
 obtain ⟨sv, ed, b, hb, hG⟩ := h.gph (by decide)
 refine (Node_any (fun y hy => h.dom y (by rw [show gr y = 5 from hy]; decide)) hG s hs hpos hS).mono ?_
 rintro e w' ⟨rfl, hGo⟩
 exact ⟨rfl, h.gph_go ⟨ed, hGo⟩ (fun i t => gNode_keeps s) (Nat.le_refl _) hb⟩
def Ks.spawn (k : Ks) (x : Fx) : Ks :=
 let k2 : Ks := { k with ns := k.ns.take.1, S := (gNode k.S 0).1 }
 k2.put k.ns.take.2.1 (gNode k.S 0).2 (k2.tab x (gNode k.S 0).2 0) []
theorem espawn_no (h : CoJ 0 w N gr x k c pt) (he : k.ns.take.2.2 ≠ 0) :
  Calls Tryz.prog 29 #[.pointer (some ⟨x.p, 0, none⟩)] w fun e w' => e = .returned (.tuple #[.agg #[.int .i64 0, .int .i64 0], .int .i64 k.ns.take.2.2]) /\ ∃ gr' pt', CoJ 0 w' N gr' x { k with ns := k.ns.take.1 } (c + 2) pt' /\ TGo w gr w' gr' := by
 obtain ⟨w1, hw1⟩ : ∃ w1, w1 = w.alloc (.cells #[.int .i64 0, .int .i64 0] 39) := ⟨_, rfl⟩
 have hb1 : Below w.heap.size w w1 := by rw [hw1]; exact (Below.refl _ _).alloc (Nat.le_refl _) _
 have r1 : Rec 39 w1 w.heap.size #[.int .i64 0, .int .i64 0] := by rw [hw1]; exact Rec.new w _ _
 have h1 := h.below hb1
 have c5 := h1.c5
 have hz : ∀ y, w.heap.size <= y -> gr y = 0 := fun y hy => Classical.byContradiction fun hh => by have := h.dom y hh; omega
 have CT := h1.take
 obtain ⟨z, hz0⟩ : ∃ z, z = k.ns.take.2.2 := ⟨_, rfl⟩
 rw [<- hz0] at CT he ⊢
 have d1 : decide (z = 0) = false := decide_eq_false he
 have d2 : (z != 0) = true := bne_iff_ne.2 he
 have CT := hi_ CT
 have H1 := hi_ (And.intro h1 (And.intro r1 (And.intro hb1 (And.intro hz h))))
 clear h h1 r1 hb1 hz he hz0
 go_enter Tryz.func29, Tryz.ntmps29
 go_upto_region 5 with (first
  | (rw [<- hw1]; clear hw1)
  | (go_at_call 73; refine CT.out.mono ?_; rintro e w2 ⟨rfl, gr2, h2, hG2⟩; obtain ⟨w3, hw3⟩ : ∃ w3, w3 = w2.alloc (.cells #[.int .i64 0, .int .i64 0] 39) := ⟨_, rfl⟩; have R3 := hi_ (show Rec 39 w3 w2.heap.size #[.int .i64 0, .int .i64 0] by rw [hw3]; exact Rec.new w2 _ _); have HB3 := hi_ (show Below w2.heap.size w2 w3 by rw [hw3]; exact (Below.refl _ _).alloc (Nat.le_refl _) _); have H2 := hi_ (And.intro h2 hG2); clear h2 hG2 c5)
  | (rw [<- hw3]; clear hw3)
  | ((with_reducible refine wpList_stP rfl (.tmp 4) (.tmp 15) rfl rfl rfl R3.out ?_); intro w4 hR4 hF4; have HR4 := hi_ (And.intro hR4 hF4); clear hR4 hF4))
 obtain ⟨h1, r1, hb1, hz, h⟩ := H1.out
 obtain ⟨h2, hG2⟩ := H2.out
 obtain ⟨hR4, hF4⟩ := HR4.out
 have hb4 : Below w2.heap.size w2 w4 := HB3.out.trans (hF4.toBelow (fun y hy => by rw [show y = w2.heap.size from hy]; exact Nat.le_refl _) HB3.out.size)
 have h4 := h2.below hb4
 have hG4 : TGo w gr w4 gr2 := (TGo.ofBelow hb1).trans (hG2.trans (TGo.ofBelow hb4))
 have r4 : Rec 39 w4 w.heap.size #[.int .i64 0, .int .i64 0] := (r1.tgo hG2 (hz _ (Nat.le_refl _))).under hb4
 have R4 := hi_ r4
 have H4 := hi_ (And.intro h4 hG4)
 clear h1 r1 hb1 hz h h2 hG2 hR4 hF4 hb4 h4 hG4 r4
 go_wp2_with ((with_reducible refine wpList_stP rfl (.tmp 2) (.tmp 19) rfl rfl rfl R4.out ?_); intro w5 hR5 hF5)
 refine bodyPost_ret (res_ct rfl rfl (hR5.load idT rfl)) rfl ?_
 obtain ⟨h1, r1, hb1, hz, h⟩ := H1.out
 obtain ⟨h4, hG4⟩ := H4.out
 have z : gr2 w.heap.size = 0 := H2.out.2.gr0 (hz _ (Nat.le_refl _)) r1.lt
 exact ⟨rfl, gr2, pt, (h4.kept hF5 (fun y hy e => hy (by rw [show y = w.heap.size from e]; exact z))).more (by omega), hG4.more hF5 (fun y hy => .inr (by rw [show y = w.heap.size from hy]; exact Nat.le_refl _))⟩
theorem espawn_yes (h : CoJ 0 w N gr x k c pt) (hT : TabN N w) (hc : c <= 90000) (hks : x.n <= 1000000) (hpos : 0 < k.S.length) (hS : k.S.length <= 1000000) (he : k.ns.take.2.2 = 0) (hw : okE k.ns.take.2.1) :
  Calls Tryz.prog 29 #[.pointer (some ⟨x.p, 0, none⟩)] w fun e w' => e = .returned (.tuple #[.agg #[.int .i64 k.ns.take.2.1.1, .int .i64 k.ns.take.2.1.2], .int .i64 0]) /\ ∃ gr' pt', CoJ 0 w' N gr' x (k.spawn x) (c + 2) pt' /\ TGo w gr w' gr' := by
 obtain ⟨w1, hw1⟩ : ∃ w1, w1 = w.alloc (.cells #[.int .i64 0, .int .i64 0] 39) := ⟨_, rfl⟩
 have hb1 : Below w.heap.size w w1 := by rw [hw1]; exact (Below.refl _ _).alloc (Nat.le_refl _) _
 have r1 : Rec 39 w1 w.heap.size #[.int .i64 0, .int .i64 0] := by rw [hw1]; exact Rec.new w _ _
 have h1 := h.below hb1
 have c5 := h1.c5
 have hz : ∀ y, w.heap.size <= y -> gr y = 0 := fun y hy => Classical.byContradiction fun hh => by have := h.dom y hh; omega
 have CT := h1.take
 obtain ⟨i, g, hid⟩ : ∃ i g, k.ns.take.2.1 = (i, g) := ⟨_, _, rfl⟩
 rw [he] at CT
 simp only [hid] at CT
 rw [hid] at hw
 have CT := hi_ CT
 have H1 := hi_ (And.intro h1 (And.intro r1 (And.intro hb1 (And.intro hz h))))
 have HN := hi_ (And.intro hT (And.intro hc (And.intro hks (And.intro hpos (And.intro hS hw)))))
 have HID := hi_ hid
 simp only [hid]
 clear h h1 r1 hb1 hz hT hc hks hpos hS he hw hid
 go_enter Tryz.func29, Tryz.ntmps29
 go_upto_region 6 with (first
  | (rw [<- hw1]; clear hw1)
  | (go_at_call 73; refine CT.out.mono ?_; rintro e w2 ⟨rfl, gr2, h2, hG2⟩; obtain ⟨w3, hw3⟩ : ∃ w3, w3 = w2.alloc (.cells #[.int .i64 0, .int .i64 0] 39) := ⟨_, rfl⟩; have R3 := hi_ (show Rec 39 w3 w2.heap.size #[.int .i64 0, .int .i64 0] by rw [hw3]; exact Rec.new w2 _ _); have HB3 := hi_ (show Below w2.heap.size w2 w3 by rw [hw3]; exact (Below.refl _ _).alloc (Nat.le_refl _) _); have H2 := hi_ (And.intro h2 hG2); clear h2 hG2 c5)
  | (rw [<- hw3]; clear hw3)
  | ((with_reducible refine wpList_stP rfl (.tmp 4) (.tmp 15) rfl rfl rfl R3.out ?_); intro w4 hR4 hF4; have HR4 := hi_ (And.intro hR4 hF4); clear hR4 hF4))
 obtain ⟨h1, r1, hb1, hz, h⟩ := H1.out
 obtain ⟨h2, hG2⟩ := H2.out
 obtain ⟨hR4, hF4⟩ := HR4.out
 have hb4 : Below w2.heap.size w2 w4 := HB3.out.trans (hF4.toBelow (fun y hy => by rw [show y = w2.heap.size from hy]; exact Nat.le_refl _) HB3.out.size)
 have h4 := h2.below hb4
 have hG4 : TGo w gr w4 gr2 := (TGo.ofBelow hb1).trans (hG2.trans (TGo.ofBelow hb4))
 have r4 : Rec 39 w4 w.heap.size #[.int .i64 0, .int .i64 0] := (r1.tgo hG2 (hz _ (Nat.le_refl _))).under hb4
 obtain ⟨hT, hc, hks, hpos, hS, hw⟩ := HN.out
 have h4d := h4.below (Below.refl _ _).drew
 have hG4d : TGo w gr w4.drew gr2 := hG4.trans (TGo.ofBelow (Below.refl _ _).drew)
 have hlt0 : w.heap.size < w1.heap.size := r1.lt
 have hs12 := hG2.fr.size
 have CN := h4d.node 0 (by decide) hpos hS
 have CA : Hid (∀ W gr5, CoJ 0 W N gr5 x { k with ns := k.ns.take.1, S := (gNode k.S 0).1 } c pt -> TGo w4.drew gr2 W gr5 -> (W.cell? ⟨x.p, 6, none⟩ = some (.pointer (some ⟨x.pg, 0, none⟩)) /\ W.cell? ⟨w2.heap.size, 0, none⟩ = some (.int .i64 i) /\ W.cell? ⟨w2.heap.size, 1, none⟩ = some (.int .i64 g)) /\ Calls Tryz.prog 74 #[.pointer (some ⟨x.p, 0, none⟩), .agg #[.int .i64 i, .int .i64 g], .int .i64 ((gNode k.S 0).2 : Nat), .slice none 0 0] W fun e w' => e = .returned (.tuple #[]) /\ (∃ gr' pt', CoJ 0 w' N gr' x (k.spawn x) (c + 2) pt' /\ TGo w gr w' gr' /\ gr' w.heap.size = 0 /\ gr' w2.heap.size = 0) /\ (w'.cell? ⟨x.p, 6, none⟩ = some (.pointer (some ⟨x.pg, 0, none⟩)) /\ w'.cell? ⟨w2.heap.size, 0, none⟩ = some (.int .i64 i) /\ w'.cell? ⟨w2.heap.size, 1, none⟩ = some (.int .i64 g)) /\ Rec 39 w' w2.heap.size #[.int .i64 i, .int .i64 g] /\ Rec 39 w' w.heap.size #[.int .i64 0, .int .i64 0]) := hi_ (fun W gr5 h5 hG5 => by
  have z2 : gr2 w2.heap.size = 0 := Classical.byContradiction fun hh => by have := h2.dom _ hh; omega
  have z0 : gr2 w.heap.size = 0 := hG2.gr0 (hz _ (Nat.le_refl _)) hlt0
  have l2 : w2.heap.size < w4.drew.heap.size := hR4.lt
  have l0 : w.heap.size < w4.drew.heap.size := r4.lt
  have rW : Rec 39 W w2.heap.size #[.int .i64 i, .int .i64 g] := Rec.tgo (w := w4.drew) hR4 hG5 z2
  have rW0 : Rec 39 W w.heap.size #[.int .i64 0, .int .i64 0] := Rec.tgo (w := w4.drew) r4 hG5 z0
  refine ⟨⟨h5.c6, rW.at_ 0, rW.at_ 1⟩, ?_⟩
  have hG05 := hG4d.trans hG5
  have hat := gNode_at k.S 0
  have hln : (gNode k.S 0).2 < (gNode k.S 0).1.length := (List.getElem?_eq_some_iff.1 hat).1
  have hll := (gNode_len k.S 0).1
  refine (eadd_any h5 (hT.go h hG05) (by omega) hw (n := (gNode k.S 0).2) (by unfold okN; omega) hat (by decide) (Nat.zero_and _) hks (PartsV.nil (fun _ => False) W none) (fun y hy => hy.elim) (by decide) 0).mono ?_
  rintro e w' ⟨rfl, gr', pt', h', hG'⟩
  have z5 := hG5.gr0 z2 l2
  have z50 := hG5.gr0 z0 l0
  refine ⟨rfl, ⟨gr', pt', ?_, hG05.trans hG', hG'.gr0 z50 rW0.lt, hG'.gr0 z5 rW.lt⟩, ⟨h'.c6, (rW.tgo hG' z5).at_ 0, (rW.tgo hG' z5).at_ 1⟩, rW.tgo hG' z5, rW0.tgo hG' z50⟩
  unfold Ks.spawn
  rw [HID.out]
  exact h')
 have s4 : w4.drew.cell? ⟨x.p, 6, none⟩ = some (.pointer (some ⟨x.pg, 0, none⟩)) /\ w4.drew.cell? ⟨w2.heap.size, 0, none⟩ = some (.int .i64 i) /\ w4.drew.cell? ⟨w2.heap.size, 1, none⟩ = some (.int .i64 g) := ⟨h4d.c6, hR4.at_ 0, hR4.at_ 1⟩
 obtain ⟨n2, hn2⟩ : ∃ n2 : Nat, n2 = (gNode k.S 0).2 := ⟨_, rfl⟩
 rw [<- hn2] at CN CA
 have CN := hi_ CN
 clear h1 r1 hb1 hz h h2 hG2 hR4 hF4 hb4 h4 hG4 r4 hT hc hks hpos hS hw h4d hG4d hlt0 hs12 hn2
 refine wp_region_noPanic ?_
 refine wp_region_held_drew (S := fun W => W.cell? ⟨x.p, 6, none⟩ = some (.pointer (some ⟨x.pg, 0, none⟩)) /\ W.cell? ⟨w2.heap.size, 0, none⟩ = some (.int .i64 i) /\ W.cell? ⟨w2.heap.size, 1, none⟩ = some (.int .i64 g)) (by kernel_rfl) s4 (fun hHeld => ?_)
 refine wpAnyH_take (i := 0) (oi := ⟨some 21, .move (.tmp 0), 30, "ecs.go:95", #[], none⟩) (v := ?_) rfl (by kernel_rfl) (by kernel_rfl) (by kernel_rfl) (fun _ _ _ h => h) (Or.inl ⟨by rfl, ?_⟩) (by assumption) ?_
 rotate_left 1
 ·intro w' hSw; (try dsimp only at hSw); go_simp; (try with_reducible rfl)
 simp only [Act.put, sA_, sB_, sC_]
 refine wpAnyH_take (i := 1) (oi := ⟨some 22, .load 39 (.tmp 4), 39, "ecs.go:95", #[], none⟩) (v := ?_) rfl (by kernel_rfl) (by kernel_rfl) (by kernel_rfl) (fun _ _ _ h => h) (Or.inl ⟨by rfl, ?_⟩) (by assumption) ?_
 rotate_left 1
 ·intro w' hSw; (try dsimp only at hSw); go_simp; (try with_reducible rfl)
 simp only [Act.put, sA_, sB_, sC_]
 refine wpAnyH_take (i := 2) (oi := ⟨some 23, .move (.tmp 0), 30, "ecs.go:95", #[], none⟩) (v := ?_) rfl (by kernel_rfl) (by kernel_rfl) (by kernel_rfl) (fun _ _ _ h => h) (Or.inl ⟨by rfl, ?_⟩) (by assumption) ?_
 rotate_left 1
 ·intro w' hSw; (try dsimp only at hSw); go_simp; (try with_reducible rfl)
 simp only [Act.put, sA_, sB_, sC_]
 refine wpAnyH_take (i := 3) (oi := ⟨some 24, .nilCheck (.tmp 23), 0, "ecs.go:95", #[⟨2, .data⟩], none⟩) (v := ?_) rfl (by kernel_rfl) (by kernel_rfl) (by kernel_rfl) (fun _ _ _ h => h) (Or.inl ⟨by rfl, ?_⟩) (by assumption) ?_
 rotate_left 1
 ·intro w' hSw; (try dsimp only at hSw); go_simp; (try with_reducible rfl)
 simp only [Act.put, sA_, sB_, sC_]
 refine wpAnyH_take (i := 4) (oi := ⟨some 25, .fieldAddr 86 (.tmp 24) 2, 0, "ecs.go:95", #[⟨3, .data⟩], none⟩) (v := ?_) rfl (by kernel_rfl) (by kernel_rfl) (by kernel_rfl) (fun _ _ _ h => h) (Or.inl ⟨by rfl, ?_⟩) (by assumption) ?_
 rotate_left 1
 ·intro w' hSw; (try dsimp only at hSw); go_simp; (try with_reducible rfl)
 simp only [Act.put, sA_, sB_, sC_]
 refine wpAnyH_take (i := 5) (oi := ⟨some 26, .load 82 (.tmp 25), 82, "ecs.go:95", #[⟨4, .data⟩], none⟩) (v := ?_) rfl (by kernel_rfl) (by kernel_rfl) (by kernel_rfl) (fun _ _ _ h => h) (Or.inl ⟨by rfl, ?_⟩) (by assumption) ?_
 rotate_left 1
 ·intro w' hSw; (try dsimp only at hSw); go_simp; (try with_reducible rfl)
 simp only [Act.put, sA_, sB_, sC_]
 refine wpAnyH_ready (rs := [6]) (by kernel_rfl) (by simp) ?_
 refine AllReadyH.cons (o := ⟨some 27, .call { callee := .value (.func 75), args := #[.tmp 26, .const (.int .u64 0)], argTypes := #[82, 26] }, 3, "ecs.go:95", #[⟨5, .data⟩], none⟩) rfl (fun K' hK => ?_) AllReadyH.nil
 go_simp
 go_at_call 75; refine CN.out.mono ?_; rintro e w5 ⟨rfl, gr5, h5, hG5⟩
 obtain ⟨s5, CB⟩ := CA.out w5 gr5 h5 hG5
 have CB := hi_ CB
 clear h5 hG5
 refine hK.out _ _ s5 (fun hHeld => ?_)
 clear hK K'
 try simp only [Act.put, sA_, sB_, sC_]
 refine wpAnyH_ready (rs := [7]) (by kernel_rfl) (by simp) ?_
 refine AllReadyH.cons (o := ⟨some 28, .call { callee := .value (.func 74), args := #[.tmp 21, .tmp 22, .tmp 27, .const (.slice none 0 0)], argTypes := #[30, 39, 3, 99] }, 0, "ecs.go:95", #[⟨0, .data⟩, ⟨1, .data⟩, ⟨6, .data⟩, ⟨6, .chain⟩], none⟩) rfl (fun K' hK => ?_) AllReadyH.nil
 go_simp
 go_at_call 74; refine CB.out.mono ?_; rintro e w6 ⟨rfl, hX, s6, r6, r60⟩
 have HX := hi_ (And.intro hX (And.intro r6 r60))
 clear hX r6 r60
 refine hK.out _ _ s6 (fun hHeld => ?_)
 clear hK K'
 try simp only [Act.put]
 refine wpAnyH_done (by kernel_rfl) ?_ _
 refine NoPanic.normal ?_
 clear s4 s5 s6 hHeld
 go_wp2_with (first
  | (with_reducible refine wpList_ldP rfl (.tmp 4) rfl rfl HX.out.2.1 ?_)
  | ((with_reducible refine wpList_stP rfl (.tmp 2) (.tmp 29) rfl rfl rfl HX.out.2.2 ?_); intro w7 hR7 hF7))
 refine bodyPost_ret (res_ct rfl rfl (hR7.load idT rfl)) rfl ?_
 obtain ⟨⟨gr', pt', h', hG', z, _⟩, r6, r60⟩ := HX.out
 refine ⟨rfl, gr', ⟨pt', h'.kept hF7 (fun y hy e => hy (by rw [show y = w.heap.size from e]; exact z))⟩, hG'.more hF7 (fun y hy => .inr (by rw [show y = w.heap.size from hy]; exact Nat.le_refl _))⟩
end
end Go.Proofs.YthiknmhkdeicjaaGreatDoor
namespace Go.Proofs.YthiknmhkdeicjaaGreatDoor
open Go.RowKit
theorem Has_any (s : Nat) (c : Int) (w : World) (hs : s < 18446744073709551616) :
  Calls Tryz.prog 78 #[.int .u64 s, .int .i64 c] w fun e w' => e = .returned (.bool (decide (0 <= c /\ c < 64 /\ s.testBit c.toNat = true))) /\ Below w.heap.size w w' := by
 obtain ⟨w1, hw1⟩ : ∃ w1, w1 = w.alloc (.cells #[.int .i64 c] 3) := ⟨_, rfl⟩
 have hB : Below w.heap.size w w1 := by rw [hw1]; exact (Below.refl _ _).alloc (Nat.le_refl _) _
 have C := hi_ (Of_any (some ⟨w.heap.size, 0, none⟩) 1 1 [c] w1 (by rw [hw1]; exact one_ird w c) (by decide))
 have hA := hi_ (Apart_any s (orL [c]) w1 hs (orL_lt _))
 rw [hasN] at hA
 have HB := hi_ hB
 obtain ⟨o, ho⟩ : ∃ o, o = orL [c] := ⟨_, rfl⟩
 rw [<- ho] at C hA
 obtain ⟨q, hq⟩ : ∃ q, q = decide (0 <= c /\ c < 64 /\ s.testBit c.toNat = true) := ⟨_, rfl⟩
 rw [<- hq] at hA ⊢
 clear hB ho hq
 go_enter Tryz.func78, Tryz.ntmps78
 go_wp2_with (rw [<- hw1]; clear hw1)
 refine C.out.mono ?_
 rintro e w' ⟨rfl, rfl⟩
 go_wp2_with fail
 refine hA.out.mono ?_
 rintro e w' ⟨rfl, rfl⟩
 go_wp2
 go_ret
 exact ⟨by simp, HB.out⟩
end Go.Proofs.YthiknmhkdeicjaaGreatDoor
