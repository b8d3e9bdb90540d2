/- EcG -/
import Derived.Test.YtddiadpbkjdomaaGreatDoorQn15
namespace Go.Proofs.YtddiadpbkjdomaaGreatDoor
open Go.RowKit
set_option maxRecDepth 20000

/-- What empty has laid so far: a graph, the tables' map, the places' map. -/
structure Em (B : Nat) (W : World) (gG gT gP : Bool) (own : Nat → Prop) (pg m1 m2 mt mp : Nat) : Prop where
  g : gG = true → (∃ sv, GAt W own pg sv m1 m2 [0] (fun _ => none) 0) ∧ ∀ y, own y → B ≤ y ∧ y < W.heap.size
  t : gT = true → MapT W mt 0 (fun _ => none) ∧ B ≤ mt
  p : gP = true → MapP W mp 0 (fun _ => none) ∧ B ≤ mp
  gt : gG = true → gT = true → ¬ own mt
  gp : gG = true → gP = true → ¬ own mp
  tp : gT = true → gP = true → mt ≠ mp
section
variable {B : Nat} {W W' : World} {gG gT gP : Bool} {own : Nat → Prop} {pg m1 m2 mt mp : Nat}
theorem Em.start (B : Nat) (W : World) : Em B W false false false (fun _ => False) 0 0 0 0 0 := ⟨(fun h => by cases h), (fun h => by cases h), (fun h => by cases h), (fun h => by cases h), (fun h => by cases h), (fun h => by cases h)⟩
theorem Em.below (h : Em B W gG gT gP own pg m1 m2 mt mp) (hb : Below W.heap.size W W') : Em B W' gG gT gP own pg m1 m2 mt mp :=
  { h with
    g := fun e => by obtain ⟨⟨sv, g⟩, hd⟩ := h.g e; exact ⟨⟨sv, g.below hb⟩, fun y hy => ⟨(hd y hy).1, Nat.lt_of_lt_of_le (hd y hy).2 hb.size⟩⟩
    t := fun e => ⟨(h.t e).1.below hb, (h.t e).2⟩
    p := fun e => ⟨(h.p e).1.below hb, (h.p e).2⟩ }
theorem Em.G {own' : Nat → Prop} {n1 n2 : Nat} (h : Em B W false gT gP own pg m1 m2 mt mp) (hB : B ≤ W.heap.size) (hb : Below W.heap.size W W') (ho : ∀ y, own' y → W.heap.size ≤ y) (hG : GGo W own' W.heap.size n1 n2 [0] (fun _ => none) 0 W') : ∃ own2, Em B W' true gT gP own2 W.heap.size n1 n2 mt mp := by
  obtain ⟨hf, own2, sv, h1, hd, I⟩ := hG
  have H := h.below hb
  have lo : ∀ y, own2 y → W.heap.size ≤ y := fun y hy => by rcases h1 y hy with h | h; exact ho y h; exact h
  exact ⟨own2, { H with
    g := fun _ => ⟨⟨sv, I⟩, fun y hy => ⟨Nat.le_trans hB (lo y hy), hd y hy⟩⟩
    gt := fun _ e hy => by have := (h.t e).1.lt; have := lo _ hy; omega
    gp := fun _ e hy => by have := (h.p e).1.lt; have := lo _ hy; omega }⟩
theorem Em.T (h : Em B W gG false gP own pg m1 m2 mt mp) (hB : B ≤ W.heap.size) : Em B (W.alloc (.map #[] 0)) gG true gP own pg m1 m2 W.heap.size mp :=
  have H := h.below ((Below.refl _ _).alloc (Nat.le_refl _) (.map #[] 0))
  { H with
    t := fun _ => ⟨MapE.made _ _ _ _ _ W, hB⟩
    gt := fun e _ hy => by have := ((h.g e).2 _ hy).2; exact Nat.lt_irrefl _ this
    tp := fun _ e hy => by have := (h.p e).1.lt; omega }
theorem Em.P (h : Em B W gG gT false own pg m1 m2 mt mp) (hB : B ≤ W.heap.size) : Em B (W.alloc (.map #[] 0)) gG gT true own pg m1 m2 mt W.heap.size :=
  have H := h.below ((Below.refl _ _).alloc (Nat.le_refl _) (.map #[] 0))
  { H with
    p := fun _ => ⟨MapE.made _ _ _ _ _ W, hB⟩
    gp := fun e _ hy => by have := ((h.g e).2 _ hy).2; exact Nat.lt_irrefl _ this
    tp := fun e _ hy => by have := (h.t e).1.lt; omega }
end

/-- What a core of these names and no entities is. -/
def ks0 (s : NS) : Ks := ⟨s, [0], fun _ => none, fun _ => none⟩
/-- A layout's fields. -/
structure Fx.Of (x : Fx) (lg pg en gn : Int) (n : Nat) (ks : List Kd) : Prop where
  lg : x.lg = lg
  ps : x.ps = pg
  en : x.en = en
  gn : x.gn = gn
  n : x.n = n
  ks : x.ks = ks
section
variable (lg pg en gn : Int) (A : Option Addr) (n cap : Nat) (ks : List Kd) (w : World)
open Classical in
/-- All is laid: the core's block. -/
theorem Em.core {N : Nat} {W0 W : World} {own ownI : Nat → Prop} {pgr m1 m2 mt mp pi : Nat} {gv av fv : Value} {s : NS} {lg pg en gn : Int} {A : Option Addr} {n cap : Nat} {ks : List Kd} (h : Em W0.heap.size W true true true own pgr m1 m2 mt mp) (hb : Below W0.heap.size W0 W) (hN : N ≤ W0.heap.size)
    (hk : KRd W0 A n ks) (hA : ∀ b o, A = some ⟨b, o, none⟩ → N ≤ b ∧ b < W0.heap.size ∧ ¬ ownI b) (hI : IAt W0 ownI pi gv av fv s) (hId : ∀ y, ownI y → N ≤ y ∧ y < W0.heap.size) :
    ∃ x gr, x.p = W.heap.size ∧ x.Of lg pg en gn n ks ∧ CoJ 0 (W.alloc (.cells #[.int .i64 lg, .int .i64 pg, .int .i64 en, .int .i64 gn, .slice A n cap, .pointer (some ⟨pi, 0, none⟩), .pointer (some ⟨pgr, 0, none⟩), .map (some mt), .map (some mp)] 88)) N gr x (ks0 s) 0 (fun _ => 0) := by
  obtain ⟨⟨sv, hg⟩, hgd⟩ := h.g rfl
  obtain ⟨ht, htB⟩ := h.t rfl
  obtain ⟨hp, hpB⟩ := h.p rfl
  have gt := h.gt rfl rfl
  have gp := h.gp rfl rfl
  have tp := h.tp rfl rfl
  have htl := ht.lt
  have hpl := hp.lt
  have hs := hb.size
  have hal := (Below.refl W.heap.size W).alloc (Nat.le_refl _) (.cells #[.int .i64 lg, .int .i64 pg, .int .i64 en, .int .i64 gn, .slice A n cap, .pointer (some ⟨pi, 0, none⟩), .pointer (some ⟨pgr, 0, none⟩), .map (some mt), .map (some mp)] 88)
  refine ⟨⟨W.heap.size, pi, pgr, m1, m2, mt, mp, lg, pg, en, gn, A, n, cap, ks⟩, fun y => if y = W.heap.size then 1 else if y = mt then 2 else if y = mp then 3 else if ownI y then 4 else if own y then 5 else if ∃ o, A = some ⟨y, o, none⟩ then 7 else 0, rfl, ⟨rfl, rfl, rfl, rfl, rfl, rfl⟩, ?_⟩
  have e4 : ∀ y, ownI y → (if y = W.heap.size then 1 else if y = mt then 2 else if y = mp then 3 else if ownI y then 4 else if own y then 5 else if ∃ o, A = some ⟨y, o, none⟩ then 7 else 0) = 4 := fun y hy => by
    have := (hId y hy).2
    rw [if_neg (by omega), if_neg (by omega), if_neg (by omega), if_pos hy]
  have e5 : ∀ y, own y → (if y = W.heap.size then 1 else if y = mt then 2 else if y = mp then 3 else if ownI y then 4 else if own y then 5 else if ∃ o, A = some ⟨y, o, none⟩ then 7 else 0) = 5 := fun y hy => by
    have h1 := hgd y hy
    rw [if_neg (by omega), if_neg (fun e => by rw [e] at hy; exact gt hy), if_neg (fun e => by rw [e] at hy; exact gp hy), if_neg (fun hi => by have := (hId y hi).2; omega), if_pos hy]
  exact {
    blk := Rec.new W _ _
    kd := (hk.own_below (Nat.le_refl _) hb).below hal
    kA := fun b o e => by
      have e : A = some ⟨b, o, none⟩ := e
      obtain ⟨h1, h2, h3⟩ := hA b o e
      show (if b = W.heap.size then 1 else if b = mt then 2 else if b = mp then 3 else if ownI b then 4 else if own b then 5 else if ∃ o, A = some ⟨b, o, none⟩ then 7 else 0) = 7
      rw [if_neg (by omega), if_neg (by omega), if_neg (by omega), if_neg h3, if_neg (fun ho => by have := (hgd b ho).1; omega), if_pos ⟨o, e⟩]
    ids := fun _ => ⟨gv, av, fv, ((hI.below hb).below hal).mono (fun y hy => e4 y hy)⟩
    gph := fun _ => by
      have g2 := hg.below hal
      exact ⟨sv, _, 0, Nat.le_refl _, { g2 with ownp := e5 _ g2.ownp, own1 := e5 _ g2.own1, own2 := e5 _ g2.own2, ownv := fun y hy => e5 y (g2.ownv y hy) }⟩
    mpt := fun _ => ⟨0, Nat.le_refl _, ht.below hal⟩
    mpp := fun _ => ⟨0, Nat.le_refl _, hp.below hal⟩
    tab := fun i t _ ht => by cases ht
    gp := if_pos rfl
    gt := by show (if mt = W.heap.size then 1 else if mt = mt then 2 else _) = 2; rw [if_neg (by omega), if_pos rfl]
    gm := by show (if mp = W.heap.size then 1 else if mp = mt then 2 else if mp = mp then 3 else _) = 3; rw [if_neg (by omega), if_neg (fun e => tp e.symm), if_pos rfl]
    dom := fun y hy => by
      rw [World.size_alloc]
      refine Classical.byContradiction fun hn => hy ?_
      show (if y = W.heap.size then 1 else if y = mt then 2 else if y = mp then 3 else if ownI y then 4 else if own y then 5 else if ∃ o, A = some ⟨y, o, none⟩ then 7 else 0) = 0
      rw [if_neg (by omega), if_neg (by omega), if_neg (by omega), if_neg (fun hi => by have := (hId y hi).2; omega), if_neg (fun hi => by have := (hgd y hi).2; omega), if_neg (fun ⟨o, e⟩ => by have := (hA y o e).2.1; omega)]
    lo := fun y hy => by
      refine Classical.byContradiction fun hn => hy ?_
      show (if y = W.heap.size then 1 else if y = mt then 2 else if y = mp then 3 else if ownI y then 4 else if own y then 5 else if ∃ o, A = some ⟨y, o, none⟩ then 7 else 0) = 0
      rw [if_neg (by omega), if_neg (by omega), if_neg (by omega), if_neg (fun hi => by have := (hId y hi).1; omega), if_neg (fun hi => by have := (hgd y hi).1; omega), if_neg (fun ⟨o, e⟩ => by have := (hA y o e).1; omega)] }

/-- What empty answers. -/
def EmSaid (N : Nat) (lg pg en gn : Int) (n : Nat) (ks : List Kd) (s : NS) (w : World) (e : Ending) (w' : World) : Prop := ∃ x gr, e = .returned (.pointer (some ⟨x.p, 0, none⟩)) ∧ x.Of lg pg en gn n ks ∧ CoJ 0 w' N gr x (ks0 s) 0 (fun _ => 0) ∧ Below w.heap.size w w'
theorem empty_any {N : Nat} {ownI : Nat → Prop} {pi : Nat} {gv av fv : Value} {s : NS} (hN : N ≤ w.heap.size) (hk : KRd w A n ks) (hA : ∀ b o, A = some ⟨b, o, none⟩ → N ≤ b ∧ b < w.heap.size ∧ ¬ ownI b) (hI : IAt w ownI pi gv av fv s) (hId : ∀ y, ownI y → N ≤ y ∧ y < w.heap.size) :
    Calls Tryz.prog 34 #[cv lg pg en gn A n cap, .pointer (some ⟨pi, 0, none⟩)] w (EmSaid N lg pg en gn n ks s w) := by
  obtain ⟨w1, hw1⟩ : ∃ w1, w1 = w.alloc (.cells (cc lg pg en gn A n cap) 24) := ⟨_, rfl⟩
  have hb1 : Below w.heap.size w w1 := by rw [hw1]; exact (Below.refl _ _).alloc (Nat.le_refl _) _
  have r1 : Rec 24 w1 w.heap.size (cc lg pg en gn A n cap) := by rw [hw1]; exact Rec.new w _ _
  have KS : Hid (∀ W, Below w1.heap.size w1 W → W.cell? ⟨w.heap.size, 0, none⟩ = some (.int .i64 lg) ∧ W.cell? ⟨w.heap.size, 1, none⟩ = some (.int .i64 pg) ∧ W.cell? ⟨w.heap.size, 2, none⟩ = some (.int .i64 en) ∧ W.cell? ⟨w.heap.size, 3, none⟩ = some (.int .i64 gn) ∧ W.cell? ⟨w.heap.size, 4, none⟩ = some (.slice A n cap)) := Lib.hid (fun W hb => by
    have r2 := r1.under hb
    exact ⟨r2.at_ 0, r2.at_ 1, r2.at_ 2, r2.at_ 3, r2.at_ 4⟩)
  have HE : Hid (∀ W own pgr m1 m2 mt mp, Em w1.heap.size W true true true own pgr m1 m2 mt mp → Below w1.heap.size w1 W → EmSaid N lg pg en gn n ks s w (.returned (.pointer (some ⟨W.heap.size, 0, none⟩))) (W.alloc (.cells #[.int .i64 lg, .int .i64 pg, .int .i64 en, .int .i64 gn, .slice A n cap, .pointer (some ⟨pi, 0, none⟩), .pointer (some ⟨pgr, 0, none⟩), .map (some mt), .map (some mp)] 88))) := Lib.hid (fun W own pgr m1 m2 mt mp hE hb => by
    obtain ⟨x, gr, hp, hx, hC⟩ := hE.core (lg := lg) (pg := pg) (en := en) (gn := gn) (cap := cap) hb (Nat.le_trans hN hb1.size) (hk.below hb1) (fun b o e => ⟨(hA b o e).1, Nat.lt_of_lt_of_le (hA b o e).2.1 hb1.size, (hA b o e).2.2⟩) (hI.below hb1) (fun y hy => ⟨(hId y hy).1, Nat.lt_of_lt_of_le (hId y hy).2 hb1.size⟩)
    exact ⟨x, gr, by rw [hp], hx, hC, (hb1.trans (hb.mono hb1.size)).alloc (Nat.le_trans hb1.size hb.size) _⟩)
  have s0 := KS.out w1.drew (Below.refl _ _).drew
  have E0 := Lib.hid (Em.start w1.heap.size w1.drew)
  have B0 := Lib.hid (show Below w1.heap.size w1 w1.drew from (Below.refl _ _).drew)
  have hmm := @run_makeMap Tryz.prog
  clear hk hA hI hId hb1 r1 hN
  go_enter Tryz.func34, Tryz.ntmps34
  go_upto_region 1 with (rw [← hw1]; clear hw1)
  refine wp_region_noPanic ?_
  refine wp_region_held_drew (S := fun W => W.cell? ⟨w.heap.size, 0, none⟩ = some (.int .i64 lg) ∧ W.cell? ⟨w.heap.size, 1, none⟩ = some (.int .i64 pg) ∧ W.cell? ⟨w.heap.size, 2, none⟩ = some (.int .i64 en) ∧ W.cell? ⟨w.heap.size, 3, none⟩ = some (.int .i64 gn) ∧ W.cell? ⟨w.heap.size, 4, none⟩ = some (.slice A n cap)) (by kernel_rfl) s0 (fun hHeld => ?_)
  refine wpAnyH_take (i := 0) (oi := { dst := some 5, op := Op.load 24 (Operand.tmp 2), type := 24, pos := "ecs.go:201", after := #[], guard := none }) (v := ?_) rfl (by kernel_rfl) (by kernel_rfl) (by kernel_rfl) (fun _ _ _ h => h) (Or.inl ⟨by rfl, ?_⟩) (by assumption) ?_
  rotate_left 1
  · intro w' hSw; (try dsimp only at hSw); go_simp; (try with_reducible rfl)
  simp only [Act.put, List.setIfInBounds_toArray, List.set_cons_zero, List.set_cons_succ]
  refine wpAnyH_take (i := 1) (oi := { dst := some 6, op := Op.move (Operand.tmp 1), type := 79, pos := "ecs.go:201", after := #[], guard := none }) (v := ?_) rfl (by kernel_rfl) (by kernel_rfl) (by kernel_rfl) (fun _ _ _ h => h) (Or.inl ⟨by rfl, ?_⟩) (by assumption) ?_
  rotate_left 1
  · intro w' hSw; (try dsimp only at hSw); go_simp; (try with_reducible rfl)
  simp only [Act.put, List.setIfInBounds_toArray, List.set_cons_zero, List.set_cons_succ]
  refine wpAnyH_ready (rs := [2, 3, 4]) (by kernel_rfl) (by simp) ?_
  refine AllReadyH.cons (o := { dst := some 7, op := Op.call { callee := Callee.value (Operand.func 90), args := #[], argTypes := #[] }, type := 84, pos := "ecs.go:201", after := #[], guard := none }) rfl (fun K' hK => ?_) (AllReadyH.cons (o := { dst := some 8, op := Op.makeMap 85 none, type := 85, pos := "ecs.go:201", after := #[], guard := none }) rfl (fun K' hK => ?_) (AllReadyH.cons (o := { dst := some 9, op := Op.makeMap 86 none, type := 86, pos := "ecs.go:201", after := #[], guard := none }) rfl (fun K' hK => ?_) AllReadyH.nil))
  · go_simp
    go_at_call 90; refine (GNew_any w1.drew).mono ?_; rintro e wG ⟨rfl, owG, n1G, n2G, ho, hb, hG⟩
    obtain ⟨ozG, em⟩ := E0.out.G B0.out.size hb ho hG
    have E0G := Lib.hid em
    have B0G := Lib.hid (B0.out.trans (hb.mono B0.out.size))
    have s0G := KS.out wG B0G.out
    clear ho hb hG em
    refine hK.out _ _ s0G (fun hHeld => ?_)
    clear hK K'
    try simp only [Act.put, List.setIfInBounds_toArray, List.set_cons_zero, List.set_cons_succ]
    refine wpAnyH_ready (rs := [3, 4]) (by kernel_rfl) (by simp) ?_
    refine AllReadyH.cons (o := { dst := some 8, op := Op.makeMap 85 none, type := 85, pos := "ecs.go:201", after := #[], guard := none }) rfl (fun K' hK => ?_) (AllReadyH.cons (o := { dst := some 9, op := Op.makeMap 86 none, type := 86, pos := "ecs.go:201", after := #[], guard := none }) rfl (fun K' hK => ?_) AllReadyH.nil)
    · go_simp
      obtain ⟨wGT, hwGT⟩ : ∃ W, W = wG.alloc (.map #[] 0) := ⟨_, rfl⟩
      rw [← hwGT]
      have E0GT := Lib.hid (show Em w1.heap.size wGT _ _ _ _ _ _ _ _ _ by rw [hwGT]; exact E0G.out.T B0G.out.size)
      have B0GT := Lib.hid (show Below w1.heap.size w1 wGT by rw [hwGT]; exact B0G.out.alloc B0G.out.size _)
      have s0GT := KS.out wGT B0GT.out
      clear hwGT
      refine hK.out _ _ s0GT (fun hHeld => ?_)
      clear hK K'
      try simp only [Act.put, List.setIfInBounds_toArray, List.set_cons_zero, List.set_cons_succ]
      refine wpAnyH_ready (rs := [4]) (by kernel_rfl) (by simp) ?_
      refine AllReadyH.cons (o := { dst := some 9, op := Op.makeMap 86 none, type := 86, pos := "ecs.go:201", after := #[], guard := none }) rfl (fun K' hK => ?_) AllReadyH.nil
      go_simp
      obtain ⟨wGTP, hwGTP⟩ : ∃ W, W = wGT.alloc (.map #[] 0) := ⟨_, rfl⟩
      rw [← hwGTP]
      have E0GTP := Lib.hid (show Em w1.heap.size wGTP _ _ _ _ _ _ _ _ _ by rw [hwGTP]; exact E0GT.out.P B0GT.out.size)
      have B0GTP := Lib.hid (show Below w1.heap.size w1 wGTP by rw [hwGTP]; exact B0GT.out.alloc B0GT.out.size _)
      have s0GTP := KS.out wGTP B0GTP.out
      clear hwGTP
      refine hK.out _ _ s0GTP (fun hHeld => ?_)
      clear hK K'
      try simp only [Act.put, List.setIfInBounds_toArray, List.set_cons_zero, List.set_cons_succ]
      refine wpAnyH_take (i := 5) (oi := { dst := some 10, op := Op.build 88 #[(0, Operand.tmp 5), (1, Operand.tmp 6), (2, Operand.tmp 7), (3, Operand.tmp 8), (4, Operand.tmp 9)], type := 88, pos := "ecs.go:201", after := #[{ on := 0, ground := Ground.data }, { on := 1, ground := Ground.data }, { on := 2, ground := Ground.data }, { on := 3, ground := Ground.data }, { on := 4, ground := Ground.data }], guard := none }) (v := ?_) rfl (by kernel_rfl) (by kernel_rfl) (by kernel_rfl) (fun _ _ _ h => h) (Or.inl ⟨by rfl, ?_⟩) (by assumption) ?_
      rotate_left 1
      · intro w' hSw; (try dsimp only at hSw); go_simp; (try with_reducible rfl)
      simp only [Act.put, List.setIfInBounds_toArray, List.set_cons_zero, List.set_cons_succ]
      refine wpAnyH_ready (rs := [6]) (by kernel_rfl) (by simp) ?_
      refine AllReadyH.cons (o := { dst := some 11, op := Op.box 88 (Operand.tmp 10), type := 30, pos := "ecs.go:201", after := #[{ on := 5, ground := Ground.data }], guard := none }) rfl (fun K' hK => ?_) AllReadyH.nil
      go_simp
      have SX := Lib.hid (HE.out wGTP _ _ _ _ _ _ E0GTP.out B0GTP.out)
      have s0GTPX := KS.out (wGTP.alloc (.cells #[.int .i64 lg, .int .i64 pg, .int .i64 en, .int .i64 gn, .slice A n cap, .pointer (some ⟨pi, 0, none⟩), .pointer (some ⟨w1.heap.size, 0, none⟩), .map (some wG.heap.size), .map (some wGT.heap.size)] 88)) (B0GTP.out.alloc B0GTP.out.size _)
      refine hK.out _ _ s0GTPX (fun hHeld => ?_)
      clear hK K'
      try simp only [Act.put, List.setIfInBounds_toArray, List.set_cons_zero, List.set_cons_succ]
      refine wpAnyH_take (i := 7) (oi := { dst := some 4, op := Op.assign (Operand.tmp 11), type := 30, pos := "ecs.go:201", after := #[{ on := 6, ground := Ground.data }, { on := 2, ground := Ground.chain }, { on := 0, ground := Ground.phase }, { on := 1, ground := Ground.phase }, { on := 2, ground := Ground.phase }, { on := 3, ground := Ground.phase }, { on := 4, ground := Ground.phase }, { on := 5, ground := Ground.phase }, { on := 6, ground := Ground.phase }], guard := none }) (v := ?_) rfl (by kernel_rfl) (by kernel_rfl) (by kernel_rfl) (fun _ _ _ h => h) (Or.inl ⟨by rfl, ?_⟩) (by assumption) ?_
      rotate_left 1
      · intro w' hSw; (try dsimp only at hSw); go_simp; (try with_reducible rfl)
      simp only [Act.put, List.setIfInBounds_toArray, List.set_cons_zero, List.set_cons_succ]
      refine wpAnyH_done (by kernel_rfl) ?_ _
      refine NoPanic.normal ?_
      clear hHeld s0 s0G s0GT s0GTP s0GTPX
      go_wp2
      go_ret
      exact SX.out
    · go_simp
      obtain ⟨wGP, hwGP⟩ : ∃ W, W = wG.alloc (.map #[] 0) := ⟨_, rfl⟩
      rw [← hwGP]
      have E0GP := Lib.hid (show Em w1.heap.size wGP _ _ _ _ _ _ _ _ _ by rw [hwGP]; exact E0G.out.P B0G.out.size)
      have B0GP := Lib.hid (show Below w1.heap.size w1 wGP by rw [hwGP]; exact B0G.out.alloc B0G.out.size _)
      have s0GP := KS.out wGP B0GP.out
      clear hwGP
      refine hK.out _ _ s0GP (fun hHeld => ?_)
      clear hK K'
      try simp only [Act.put, List.setIfInBounds_toArray, List.set_cons_zero, List.set_cons_succ]
      refine wpAnyH_ready (rs := [3]) (by kernel_rfl) (by simp) ?_
      refine AllReadyH.cons (o := { dst := some 8, op := Op.makeMap 85 none, type := 85, pos := "ecs.go:201", after := #[], guard := none }) rfl (fun K' hK => ?_) AllReadyH.nil
      go_simp
      obtain ⟨wGPT, hwGPT⟩ : ∃ W, W = wGP.alloc (.map #[] 0) := ⟨_, rfl⟩
      rw [← hwGPT]
      have E0GPT := Lib.hid (show Em w1.heap.size wGPT _ _ _ _ _ _ _ _ _ by rw [hwGPT]; exact E0GP.out.T B0GP.out.size)
      have B0GPT := Lib.hid (show Below w1.heap.size w1 wGPT by rw [hwGPT]; exact B0GP.out.alloc B0GP.out.size _)
      have s0GPT := KS.out wGPT B0GPT.out
      clear hwGPT
      refine hK.out _ _ s0GPT (fun hHeld => ?_)
      clear hK K'
      try simp only [Act.put, List.setIfInBounds_toArray, List.set_cons_zero, List.set_cons_succ]
      refine wpAnyH_take (i := 5) (oi := { dst := some 10, op := Op.build 88 #[(0, Operand.tmp 5), (1, Operand.tmp 6), (2, Operand.tmp 7), (3, Operand.tmp 8), (4, Operand.tmp 9)], type := 88, pos := "ecs.go:201", after := #[{ on := 0, ground := Ground.data }, { on := 1, ground := Ground.data }, { on := 2, ground := Ground.data }, { on := 3, ground := Ground.data }, { on := 4, ground := Ground.data }], guard := none }) (v := ?_) rfl (by kernel_rfl) (by kernel_rfl) (by kernel_rfl) (fun _ _ _ h => h) (Or.inl ⟨by rfl, ?_⟩) (by assumption) ?_
      rotate_left 1
      · intro w' hSw; (try dsimp only at hSw); go_simp; (try with_reducible rfl)
      simp only [Act.put, List.setIfInBounds_toArray, List.set_cons_zero, List.set_cons_succ]
      refine wpAnyH_ready (rs := [6]) (by kernel_rfl) (by simp) ?_
      refine AllReadyH.cons (o := { dst := some 11, op := Op.box 88 (Operand.tmp 10), type := 30, pos := "ecs.go:201", after := #[{ on := 5, ground := Ground.data }], guard := none }) rfl (fun K' hK => ?_) AllReadyH.nil
      go_simp
      have SX := Lib.hid (HE.out wGPT _ _ _ _ _ _ E0GPT.out B0GPT.out)
      have s0GPTX := KS.out (wGPT.alloc (.cells #[.int .i64 lg, .int .i64 pg, .int .i64 en, .int .i64 gn, .slice A n cap, .pointer (some ⟨pi, 0, none⟩), .pointer (some ⟨w1.heap.size, 0, none⟩), .map (some wGP.heap.size), .map (some wG.heap.size)] 88)) (B0GPT.out.alloc B0GPT.out.size _)
      refine hK.out _ _ s0GPTX (fun hHeld => ?_)
      clear hK K'
      try simp only [Act.put, List.setIfInBounds_toArray, List.set_cons_zero, List.set_cons_succ]
      refine wpAnyH_take (i := 7) (oi := { dst := some 4, op := Op.assign (Operand.tmp 11), type := 30, pos := "ecs.go:201", after := #[{ on := 6, ground := Ground.data }, { on := 2, ground := Ground.chain }, { on := 0, ground := Ground.phase }, { on := 1, ground := Ground.phase }, { on := 2, ground := Ground.phase }, { on := 3, ground := Ground.phase }, { on := 4, ground := Ground.phase }, { on := 5, ground := Ground.phase }, { on := 6, ground := Ground.phase }], guard := none }) (v := ?_) rfl (by kernel_rfl) (by kernel_rfl) (by kernel_rfl) (fun _ _ _ h => h) (Or.inl ⟨by rfl, ?_⟩) (by assumption) ?_
      rotate_left 1
      · intro w' hSw; (try dsimp only at hSw); go_simp; (try with_reducible rfl)
      simp only [Act.put, List.setIfInBounds_toArray, List.set_cons_zero, List.set_cons_succ]
      refine wpAnyH_done (by kernel_rfl) ?_ _
      refine NoPanic.normal ?_
      clear hHeld s0 s0G s0GP s0GPT s0GPTX
      go_wp2
      go_ret
      exact SX.out
  · go_simp
    obtain ⟨wT, hwT⟩ : ∃ W, W = (w1.alloc (.map #[] 0)).drew := ⟨_, rfl⟩
    rw [← hwT]
    have E0T := Lib.hid (show Em w1.heap.size wT _ _ _ _ _ _ _ _ _ by rw [hwT]; exact E0.out.T B0.out.size)
    have B0T := Lib.hid (show Below w1.heap.size w1 wT by rw [hwT]; exact B0.out.alloc B0.out.size _)
    have s0T := KS.out wT B0T.out
    clear hwT
    refine hK.out _ _ s0T (fun hHeld => ?_)
    clear hK K'
    try simp only [Act.put, List.setIfInBounds_toArray, List.set_cons_zero, List.set_cons_succ]
    refine wpAnyH_ready (rs := [2, 4]) (by kernel_rfl) (by simp) ?_
    refine AllReadyH.cons (o := { dst := some 7, op := Op.call { callee := Callee.value (Operand.func 90), args := #[], argTypes := #[] }, type := 84, pos := "ecs.go:201", after := #[], guard := none }) rfl (fun K' hK => ?_) (AllReadyH.cons (o := { dst := some 9, op := Op.makeMap 86 none, type := 86, pos := "ecs.go:201", after := #[], guard := none }) rfl (fun K' hK => ?_) AllReadyH.nil)
    · go_simp
      go_at_call 90; refine (GNew_any wT).mono ?_; rintro e wTG ⟨rfl, owTG, n1TG, n2TG, ho, hb, hG⟩
      obtain ⟨ozTG, em⟩ := E0T.out.G B0T.out.size hb ho hG
      have E0TG := Lib.hid em
      have B0TG := Lib.hid (B0T.out.trans (hb.mono B0T.out.size))
      have s0TG := KS.out wTG B0TG.out
      clear ho hb hG em
      refine hK.out _ _ s0TG (fun hHeld => ?_)
      clear hK K'
      try simp only [Act.put, List.setIfInBounds_toArray, List.set_cons_zero, List.set_cons_succ]
      refine wpAnyH_ready (rs := [4]) (by kernel_rfl) (by simp) ?_
      refine AllReadyH.cons (o := { dst := some 9, op := Op.makeMap 86 none, type := 86, pos := "ecs.go:201", after := #[], guard := none }) rfl (fun K' hK => ?_) AllReadyH.nil
      go_simp
      obtain ⟨wTGP, hwTGP⟩ : ∃ W, W = wTG.alloc (.map #[] 0) := ⟨_, rfl⟩
      rw [← hwTGP]
      have E0TGP := Lib.hid (show Em w1.heap.size wTGP _ _ _ _ _ _ _ _ _ by rw [hwTGP]; exact E0TG.out.P B0TG.out.size)
      have B0TGP := Lib.hid (show Below w1.heap.size w1 wTGP by rw [hwTGP]; exact B0TG.out.alloc B0TG.out.size _)
      have s0TGP := KS.out wTGP B0TGP.out
      clear hwTGP
      refine hK.out _ _ s0TGP (fun hHeld => ?_)
      clear hK K'
      try simp only [Act.put, List.setIfInBounds_toArray, List.set_cons_zero, List.set_cons_succ]
      refine wpAnyH_take (i := 5) (oi := { dst := some 10, op := Op.build 88 #[(0, Operand.tmp 5), (1, Operand.tmp 6), (2, Operand.tmp 7), (3, Operand.tmp 8), (4, Operand.tmp 9)], type := 88, pos := "ecs.go:201", after := #[{ on := 0, ground := Ground.data }, { on := 1, ground := Ground.data }, { on := 2, ground := Ground.data }, { on := 3, ground := Ground.data }, { on := 4, ground := Ground.data }], guard := none }) (v := ?_) rfl (by kernel_rfl) (by kernel_rfl) (by kernel_rfl) (fun _ _ _ h => h) (Or.inl ⟨by rfl, ?_⟩) (by assumption) ?_
      rotate_left 1
      · intro w' hSw; (try dsimp only at hSw); go_simp; (try with_reducible rfl)
      simp only [Act.put, List.setIfInBounds_toArray, List.set_cons_zero, List.set_cons_succ]
      refine wpAnyH_ready (rs := [6]) (by kernel_rfl) (by simp) ?_
      refine AllReadyH.cons (o := { dst := some 11, op := Op.box 88 (Operand.tmp 10), type := 30, pos := "ecs.go:201", after := #[{ on := 5, ground := Ground.data }], guard := none }) rfl (fun K' hK => ?_) AllReadyH.nil
      go_simp
      have SX := Lib.hid (HE.out wTGP _ _ _ _ _ _ E0TGP.out B0TGP.out)
      have s0TGPX := KS.out (wTGP.alloc (.cells #[.int .i64 lg, .int .i64 pg, .int .i64 en, .int .i64 gn, .slice A n cap, .pointer (some ⟨pi, 0, none⟩), .pointer (some ⟨wT.heap.size, 0, none⟩), .map (some w1.heap.size), .map (some wTG.heap.size)] 88)) (B0TGP.out.alloc B0TGP.out.size _)
      refine hK.out _ _ s0TGPX (fun hHeld => ?_)
      clear hK K'
      try simp only [Act.put, List.setIfInBounds_toArray, List.set_cons_zero, List.set_cons_succ]
      refine wpAnyH_take (i := 7) (oi := { dst := some 4, op := Op.assign (Operand.tmp 11), type := 30, pos := "ecs.go:201", after := #[{ on := 6, ground := Ground.data }, { on := 2, ground := Ground.chain }, { on := 0, ground := Ground.phase }, { on := 1, ground := Ground.phase }, { on := 2, ground := Ground.phase }, { on := 3, ground := Ground.phase }, { on := 4, ground := Ground.phase }, { on := 5, ground := Ground.phase }, { on := 6, ground := Ground.phase }], guard := none }) (v := ?_) rfl (by kernel_rfl) (by kernel_rfl) (by kernel_rfl) (fun _ _ _ h => h) (Or.inl ⟨by rfl, ?_⟩) (by assumption) ?_
      rotate_left 1
      · intro w' hSw; (try dsimp only at hSw); go_simp; (try with_reducible rfl)
      simp only [Act.put, List.setIfInBounds_toArray, List.set_cons_zero, List.set_cons_succ]
      refine wpAnyH_done (by kernel_rfl) ?_ _
      refine NoPanic.normal ?_
      clear hHeld s0 s0T s0TG s0TGP s0TGPX
      go_wp2
      go_ret
      exact SX.out
    · go_simp
      obtain ⟨wTP, hwTP⟩ : ∃ W, W = wT.alloc (.map #[] 0) := ⟨_, rfl⟩
      rw [← hwTP]
      have E0TP := Lib.hid (show Em w1.heap.size wTP _ _ _ _ _ _ _ _ _ by rw [hwTP]; exact E0T.out.P B0T.out.size)
      have B0TP := Lib.hid (show Below w1.heap.size w1 wTP by rw [hwTP]; exact B0T.out.alloc B0T.out.size _)
      have s0TP := KS.out wTP B0TP.out
      clear hwTP
      refine hK.out _ _ s0TP (fun hHeld => ?_)
      clear hK K'
      try simp only [Act.put, List.setIfInBounds_toArray, List.set_cons_zero, List.set_cons_succ]
      refine wpAnyH_ready (rs := [2]) (by kernel_rfl) (by simp) ?_
      refine AllReadyH.cons (o := { dst := some 7, op := Op.call { callee := Callee.value (Operand.func 90), args := #[], argTypes := #[] }, type := 84, pos := "ecs.go:201", after := #[], guard := none }) rfl (fun K' hK => ?_) AllReadyH.nil
      go_simp
      go_at_call 90; refine (GNew_any wTP).mono ?_; rintro e wTPG ⟨rfl, owTPG, n1TPG, n2TPG, ho, hb, hG⟩
      obtain ⟨ozTPG, em⟩ := E0TP.out.G B0TP.out.size hb ho hG
      have E0TPG := Lib.hid em
      have B0TPG := Lib.hid (B0TP.out.trans (hb.mono B0TP.out.size))
      have s0TPG := KS.out wTPG B0TPG.out
      clear ho hb hG em
      refine hK.out _ _ s0TPG (fun hHeld => ?_)
      clear hK K'
      try simp only [Act.put, List.setIfInBounds_toArray, List.set_cons_zero, List.set_cons_succ]
      refine wpAnyH_take (i := 5) (oi := { dst := some 10, op := Op.build 88 #[(0, Operand.tmp 5), (1, Operand.tmp 6), (2, Operand.tmp 7), (3, Operand.tmp 8), (4, Operand.tmp 9)], type := 88, pos := "ecs.go:201", after := #[{ on := 0, ground := Ground.data }, { on := 1, ground := Ground.data }, { on := 2, ground := Ground.data }, { on := 3, ground := Ground.data }, { on := 4, ground := Ground.data }], guard := none }) (v := ?_) rfl (by kernel_rfl) (by kernel_rfl) (by kernel_rfl) (fun _ _ _ h => h) (Or.inl ⟨by rfl, ?_⟩) (by assumption) ?_
      rotate_left 1
      · intro w' hSw; (try dsimp only at hSw); go_simp; (try with_reducible rfl)
      simp only [Act.put, List.setIfInBounds_toArray, List.set_cons_zero, List.set_cons_succ]
      refine wpAnyH_ready (rs := [6]) (by kernel_rfl) (by simp) ?_
      refine AllReadyH.cons (o := { dst := some 11, op := Op.box 88 (Operand.tmp 10), type := 30, pos := "ecs.go:201", after := #[{ on := 5, ground := Ground.data }], guard := none }) rfl (fun K' hK => ?_) AllReadyH.nil
      go_simp
      have SX := Lib.hid (HE.out wTPG _ _ _ _ _ _ E0TPG.out B0TPG.out)
      have s0TPGX := KS.out (wTPG.alloc (.cells #[.int .i64 lg, .int .i64 pg, .int .i64 en, .int .i64 gn, .slice A n cap, .pointer (some ⟨pi, 0, none⟩), .pointer (some ⟨wTP.heap.size, 0, none⟩), .map (some w1.heap.size), .map (some wT.heap.size)] 88)) (B0TPG.out.alloc B0TPG.out.size _)
      refine hK.out _ _ s0TPGX (fun hHeld => ?_)
      clear hK K'
      try simp only [Act.put, List.setIfInBounds_toArray, List.set_cons_zero, List.set_cons_succ]
      refine wpAnyH_take (i := 7) (oi := { dst := some 4, op := Op.assign (Operand.tmp 11), type := 30, pos := "ecs.go:201", after := #[{ on := 6, ground := Ground.data }, { on := 2, ground := Ground.chain }, { on := 0, ground := Ground.phase }, { on := 1, ground := Ground.phase }, { on := 2, ground := Ground.phase }, { on := 3, ground := Ground.phase }, { on := 4, ground := Ground.phase }, { on := 5, ground := Ground.phase }, { on := 6, ground := Ground.phase }], guard := none }) (v := ?_) rfl (by kernel_rfl) (by kernel_rfl) (by kernel_rfl) (fun _ _ _ h => h) (Or.inl ⟨by rfl, ?_⟩) (by assumption) ?_
      rotate_left 1
      · intro w' hSw; (try dsimp only at hSw); go_simp; (try with_reducible rfl)
      simp only [Act.put, List.setIfInBounds_toArray, List.set_cons_zero, List.set_cons_succ]
      refine wpAnyH_done (by kernel_rfl) ?_ _
      refine NoPanic.normal ?_
      clear hHeld s0 s0T s0TP s0TPG s0TPGX
      go_wp2
      go_ret
      exact SX.out
  · go_simp
    obtain ⟨wP, hwP⟩ : ∃ W, W = (w1.alloc (.map #[] 0)).drew := ⟨_, rfl⟩
    rw [← hwP]
    have E0P := Lib.hid (show Em w1.heap.size wP _ _ _ _ _ _ _ _ _ by rw [hwP]; exact E0.out.P B0.out.size)
    have B0P := Lib.hid (show Below w1.heap.size w1 wP by rw [hwP]; exact B0.out.alloc B0.out.size _)
    have s0P := KS.out wP B0P.out
    clear hwP
    refine hK.out _ _ s0P (fun hHeld => ?_)
    clear hK K'
    try simp only [Act.put, List.setIfInBounds_toArray, List.set_cons_zero, List.set_cons_succ]
    refine wpAnyH_ready (rs := [2, 3]) (by kernel_rfl) (by simp) ?_
    refine AllReadyH.cons (o := { dst := some 7, op := Op.call { callee := Callee.value (Operand.func 90), args := #[], argTypes := #[] }, type := 84, pos := "ecs.go:201", after := #[], guard := none }) rfl (fun K' hK => ?_) (AllReadyH.cons (o := { dst := some 8, op := Op.makeMap 85 none, type := 85, pos := "ecs.go:201", after := #[], guard := none }) rfl (fun K' hK => ?_) AllReadyH.nil)
    · go_simp
      go_at_call 90; refine (GNew_any wP).mono ?_; rintro e wPG ⟨rfl, owPG, n1PG, n2PG, ho, hb, hG⟩
      obtain ⟨ozPG, em⟩ := E0P.out.G B0P.out.size hb ho hG
      have E0PG := Lib.hid em
      have B0PG := Lib.hid (B0P.out.trans (hb.mono B0P.out.size))
      have s0PG := KS.out wPG B0PG.out
      clear ho hb hG em
      refine hK.out _ _ s0PG (fun hHeld => ?_)
      clear hK K'
      try simp only [Act.put, List.setIfInBounds_toArray, List.set_cons_zero, List.set_cons_succ]
      refine wpAnyH_ready (rs := [3]) (by kernel_rfl) (by simp) ?_
      refine AllReadyH.cons (o := { dst := some 8, op := Op.makeMap 85 none, type := 85, pos := "ecs.go:201", after := #[], guard := none }) rfl (fun K' hK => ?_) AllReadyH.nil
      go_simp
      obtain ⟨wPGT, hwPGT⟩ : ∃ W, W = wPG.alloc (.map #[] 0) := ⟨_, rfl⟩
      rw [← hwPGT]
      have E0PGT := Lib.hid (show Em w1.heap.size wPGT _ _ _ _ _ _ _ _ _ by rw [hwPGT]; exact E0PG.out.T B0PG.out.size)
      have B0PGT := Lib.hid (show Below w1.heap.size w1 wPGT by rw [hwPGT]; exact B0PG.out.alloc B0PG.out.size _)
      have s0PGT := KS.out wPGT B0PGT.out
      clear hwPGT
      refine hK.out _ _ s0PGT (fun hHeld => ?_)
      clear hK K'
      try simp only [Act.put, List.setIfInBounds_toArray, List.set_cons_zero, List.set_cons_succ]
      refine wpAnyH_take (i := 5) (oi := { dst := some 10, op := Op.build 88 #[(0, Operand.tmp 5), (1, Operand.tmp 6), (2, Operand.tmp 7), (3, Operand.tmp 8), (4, Operand.tmp 9)], type := 88, pos := "ecs.go:201", after := #[{ on := 0, ground := Ground.data }, { on := 1, ground := Ground.data }, { on := 2, ground := Ground.data }, { on := 3, ground := Ground.data }, { on := 4, ground := Ground.data }], guard := none }) (v := ?_) rfl (by kernel_rfl) (by kernel_rfl) (by kernel_rfl) (fun _ _ _ h => h) (Or.inl ⟨by rfl, ?_⟩) (by assumption) ?_
      rotate_left 1
      · intro w' hSw; (try dsimp only at hSw); go_simp; (try with_reducible rfl)
      simp only [Act.put, List.setIfInBounds_toArray, List.set_cons_zero, List.set_cons_succ]
      refine wpAnyH_ready (rs := [6]) (by kernel_rfl) (by simp) ?_
      refine AllReadyH.cons (o := { dst := some 11, op := Op.box 88 (Operand.tmp 10), type := 30, pos := "ecs.go:201", after := #[{ on := 5, ground := Ground.data }], guard := none }) rfl (fun K' hK => ?_) AllReadyH.nil
      go_simp
      have SX := Lib.hid (HE.out wPGT _ _ _ _ _ _ E0PGT.out B0PGT.out)
      have s0PGTX := KS.out (wPGT.alloc (.cells #[.int .i64 lg, .int .i64 pg, .int .i64 en, .int .i64 gn, .slice A n cap, .pointer (some ⟨pi, 0, none⟩), .pointer (some ⟨wP.heap.size, 0, none⟩), .map (some wPG.heap.size), .map (some w1.heap.size)] 88)) (B0PGT.out.alloc B0PGT.out.size _)
      refine hK.out _ _ s0PGTX (fun hHeld => ?_)
      clear hK K'
      try simp only [Act.put, List.setIfInBounds_toArray, List.set_cons_zero, List.set_cons_succ]
      refine wpAnyH_take (i := 7) (oi := { dst := some 4, op := Op.assign (Operand.tmp 11), type := 30, pos := "ecs.go:201", after := #[{ on := 6, ground := Ground.data }, { on := 2, ground := Ground.chain }, { on := 0, ground := Ground.phase }, { on := 1, ground := Ground.phase }, { on := 2, ground := Ground.phase }, { on := 3, ground := Ground.phase }, { on := 4, ground := Ground.phase }, { on := 5, ground := Ground.phase }, { on := 6, ground := Ground.phase }], guard := none }) (v := ?_) rfl (by kernel_rfl) (by kernel_rfl) (by kernel_rfl) (fun _ _ _ h => h) (Or.inl ⟨by rfl, ?_⟩) (by assumption) ?_
      rotate_left 1
      · intro w' hSw; (try dsimp only at hSw); go_simp; (try with_reducible rfl)
      simp only [Act.put, List.setIfInBounds_toArray, List.set_cons_zero, List.set_cons_succ]
      refine wpAnyH_done (by kernel_rfl) ?_ _
      refine NoPanic.normal ?_
      clear hHeld s0 s0P s0PG s0PGT s0PGTX
      go_wp2
      go_ret
      exact SX.out
    · go_simp
      obtain ⟨wPT, hwPT⟩ : ∃ W, W = wP.alloc (.map #[] 0) := ⟨_, rfl⟩
      rw [← hwPT]
      have E0PT := Lib.hid (show Em w1.heap.size wPT _ _ _ _ _ _ _ _ _ by rw [hwPT]; exact E0P.out.T B0P.out.size)
      have B0PT := Lib.hid (show Below w1.heap.size w1 wPT by rw [hwPT]; exact B0P.out.alloc B0P.out.size _)
      have s0PT := KS.out wPT B0PT.out
      clear hwPT
      refine hK.out _ _ s0PT (fun hHeld => ?_)
      clear hK K'
      try simp only [Act.put, List.setIfInBounds_toArray, List.set_cons_zero, List.set_cons_succ]
      refine wpAnyH_ready (rs := [2]) (by kernel_rfl) (by simp) ?_
      refine AllReadyH.cons (o := { dst := some 7, op := Op.call { callee := Callee.value (Operand.func 90), args := #[], argTypes := #[] }, type := 84, pos := "ecs.go:201", after := #[], guard := none }) rfl (fun K' hK => ?_) AllReadyH.nil
      go_simp
      go_at_call 90; refine (GNew_any wPT).mono ?_; rintro e wPTG ⟨rfl, owPTG, n1PTG, n2PTG, ho, hb, hG⟩
      obtain ⟨ozPTG, em⟩ := E0PT.out.G B0PT.out.size hb ho hG
      have E0PTG := Lib.hid em
      have B0PTG := Lib.hid (B0PT.out.trans (hb.mono B0PT.out.size))
      have s0PTG := KS.out wPTG B0PTG.out
      clear ho hb hG em
      refine hK.out _ _ s0PTG (fun hHeld => ?_)
      clear hK K'
      try simp only [Act.put, List.setIfInBounds_toArray, List.set_cons_zero, List.set_cons_succ]
      refine wpAnyH_take (i := 5) (oi := { dst := some 10, op := Op.build 88 #[(0, Operand.tmp 5), (1, Operand.tmp 6), (2, Operand.tmp 7), (3, Operand.tmp 8), (4, Operand.tmp 9)], type := 88, pos := "ecs.go:201", after := #[{ on := 0, ground := Ground.data }, { on := 1, ground := Ground.data }, { on := 2, ground := Ground.data }, { on := 3, ground := Ground.data }, { on := 4, ground := Ground.data }], guard := none }) (v := ?_) rfl (by kernel_rfl) (by kernel_rfl) (by kernel_rfl) (fun _ _ _ h => h) (Or.inl ⟨by rfl, ?_⟩) (by assumption) ?_
      rotate_left 1
      · intro w' hSw; (try dsimp only at hSw); go_simp; (try with_reducible rfl)
      simp only [Act.put, List.setIfInBounds_toArray, List.set_cons_zero, List.set_cons_succ]
      refine wpAnyH_ready (rs := [6]) (by kernel_rfl) (by simp) ?_
      refine AllReadyH.cons (o := { dst := some 11, op := Op.box 88 (Operand.tmp 10), type := 30, pos := "ecs.go:201", after := #[{ on := 5, ground := Ground.data }], guard := none }) rfl (fun K' hK => ?_) AllReadyH.nil
      go_simp
      have SX := Lib.hid (HE.out wPTG _ _ _ _ _ _ E0PTG.out B0PTG.out)
      have s0PTGX := KS.out (wPTG.alloc (.cells #[.int .i64 lg, .int .i64 pg, .int .i64 en, .int .i64 gn, .slice A n cap, .pointer (some ⟨pi, 0, none⟩), .pointer (some ⟨wPT.heap.size, 0, none⟩), .map (some wP.heap.size), .map (some w1.heap.size)] 88)) (B0PTG.out.alloc B0PTG.out.size _)
      refine hK.out _ _ s0PTGX (fun hHeld => ?_)
      clear hK K'
      try simp only [Act.put, List.setIfInBounds_toArray, List.set_cons_zero, List.set_cons_succ]
      refine wpAnyH_take (i := 7) (oi := { dst := some 4, op := Op.assign (Operand.tmp 11), type := 30, pos := "ecs.go:201", after := #[{ on := 6, ground := Ground.data }, { on := 2, ground := Ground.chain }, { on := 0, ground := Ground.phase }, { on := 1, ground := Ground.phase }, { on := 2, ground := Ground.phase }, { on := 3, ground := Ground.phase }, { on := 4, ground := Ground.phase }, { on := 5, ground := Ground.phase }, { on := 6, ground := Ground.phase }], guard := none }) (v := ?_) rfl (by kernel_rfl) (by kernel_rfl) (by kernel_rfl) (fun _ _ _ h => h) (Or.inl ⟨by rfl, ?_⟩) (by assumption) ?_
      rotate_left 1
      · intro w' hSw; (try dsimp only at hSw); go_simp; (try with_reducible rfl)
      simp only [Act.put, List.setIfInBounds_toArray, List.set_cons_zero, List.set_cons_succ]
      refine wpAnyH_done (by kernel_rfl) ?_ _
      refine NoPanic.normal ?_
      clear hHeld s0 s0P s0PT s0PTG s0PTGX
      go_wp2
      go_ret
      exact SX.out

theorem enew_no (h : KRd w A n ks) (hn : n ≤ 1000000) (hL : Lens ks) (hR : ¬ (Cf.mk lg pg en gn ks).Right) :
    Calls Tryz.prog 10 #[cv lg pg en gn A n cap] w fun e w' => e = .returned (.pointer none) ∧ Below w.heap.size w w' := by
  obtain ⟨w1, hw1⟩ : ∃ w1, w1 = w.alloc (.cells (cc lg pg en gn A n cap) 24) := ⟨_, rfl⟩
  have hb1 : Below w.heap.size w w1 := by rw [hw1]; exact (Below.refl _ _).alloc (Nat.le_refl _) _
  have r1 : Rec 24 w1 w.heap.size (cc lg pg en gn A n cap) := by rw [hw1]; exact Rec.new w _ _
  have CC := Check_any lg pg en gn A n cap ks w1 (h.below hb1) hn hL
  rw [if_neg hR] at CC
  have CC := Lib.hid CC
  have k0 := r1.at_ 0
  have k1 := r1.at_ 1
  have k2 := r1.at_ 2
  have k3 := r1.at_ 3
  have k4 := r1.at_ 4
  have HB := Lib.hid hb1
  clear h hb1 r1 hR
  go_enter Tryz.func10, Tryz.ntmps10
  go_wp2_with (first
    | (rw [← hw1]; clear hw1)
    | (go_at_call 33; refine CC.out.mono ?_; rintro e w2 ⟨rfl, hb2⟩; have HB2 := Lib.hid hb2; clear hb2))
  go_ret
  exact ⟨rfl, HB.out.trans (HB2.out.mono HB.out.size)⟩
theorem enew_yes (h : KRd w A n ks) (hn : n ≤ 1000000) (hL : Lens ks) (hR : (Cf.mk lg pg en gn ks).Right) :
    Calls Tryz.prog 10 #[cv lg pg en gn A n cap] w (EmSaid w.heap.size lg pg en gn n ks (NS.new en gn) w) := by
  obtain ⟨w1, hw1⟩ : ∃ w1, w1 = w.alloc (.cells (cc lg pg en gn A n cap) 24) := ⟨_, rfl⟩
  have hb1 : Below w.heap.size w w1 := by rw [hw1]; exact (Below.refl _ _).alloc (Nat.le_refl _) _
  have r1 : Rec 24 w1 w.heap.size (cc lg pg en gn A n cap) := by rw [hw1]; exact Rec.new w _ _
  have CC := Check_any lg pg en gn A n cap ks w1 (h.below hb1) hn hL
  rw [if_pos hR] at CC
  have CC := Lib.hid CC
  have KS : Hid (∀ W, Below w1.heap.size w1 W → W.cell? ⟨w.heap.size, 0, none⟩ = some (.int .i64 lg) ∧ W.cell? ⟨w.heap.size, 1, none⟩ = some (.int .i64 pg) ∧ W.cell? ⟨w.heap.size, 2, none⟩ = some (.int .i64 en) ∧ W.cell? ⟨w.heap.size, 3, none⟩ = some (.int .i64 gn) ∧ W.cell? ⟨w.heap.size, 4, none⟩ = some (.slice A n cap)) := Lib.hid (fun W hb => by
    have r2 := r1.under hb
    exact ⟨r2.at_ 0, r2.at_ 1, r2.at_ 2, r2.at_ 3, r2.at_ 4⟩)
  have CO : Hid (∀ W, Below w1.heap.size w1 W → Calls Tryz.prog 35 #[cv lg pg en gn A n cap] W fun e w' => ∃ A' c', e = .returned (cv lg pg en gn A' n c') ∧ KRd w' A' n ks ∧ (∀ b o, A' = some ⟨b, o, none⟩ → W.heap.size ≤ b ∧ b < w'.heap.size) ∧ Below W.heap.size W w') := Lib.hid (fun W hb => own_any lg pg en gn A n cap ks W ((h.below hb1).below hb) hn)
  have k0 := r1.at_ 0
  have k1 := r1.at_ 1
  have k2 := r1.at_ 2
  have k3 := r1.at_ 3
  have k4 := r1.at_ 4
  have HB := Lib.hid hb1
  clear h hb1 r1 hR
  go_enter Tryz.func10, Tryz.ntmps10
  go_upto_region 3 with (first
    | (rw [← hw1]; clear hw1)
    | (go_at_call 33; refine CC.out.mono ?_; rintro e w2 ⟨rfl, hb2⟩; have HB2 := Lib.hid hb2; clear hb2 k0 k1 k2 k3 k4))
  have s2 := KS.out w2.drew (HB2.out.drew)
  refine wp_region_noPanic ?_
  refine wp_region_held_drew (S := fun W => W.cell? ⟨w.heap.size, 0, none⟩ = some (.int .i64 lg) ∧ W.cell? ⟨w.heap.size, 1, none⟩ = some (.int .i64 pg) ∧ W.cell? ⟨w.heap.size, 2, none⟩ = some (.int .i64 en) ∧ W.cell? ⟨w.heap.size, 3, none⟩ = some (.int .i64 gn) ∧ W.cell? ⟨w.heap.size, 4, none⟩ = some (.slice A n cap)) (by kernel_rfl) s2 (fun hHeld => ?_)
  refine wpAnyH_take (i := 0) (oi := { dst := some 6, op := Op.load 24 (Operand.tmp 1), type := 24, pos := "ecs.go:47", after := #[], guard := none }) (v := ?_) rfl (by kernel_rfl) (by kernel_rfl) (by kernel_rfl) (fun _ _ _ h => h) (Or.inl ⟨by rfl, ?_⟩) (by assumption) ?_
  rotate_left 1
  · intro w' hSw; (try dsimp only at hSw); go_simp; (try with_reducible rfl)
  simp only [Act.put, List.setIfInBounds_toArray, List.set_cons_zero, List.set_cons_succ]
  refine wpAnyH_take (i := 2) (oi := { dst := some 8, op := Op.fieldAddr 24 (Operand.tmp 1) 2, type := 0, pos := "ecs.go:47", after := #[], guard := none }) (v := ?_) rfl (by kernel_rfl) (by kernel_rfl) (by kernel_rfl) (fun _ _ _ h => h) (Or.inl ⟨by rfl, ?_⟩) (by assumption) ?_
  rotate_left 1
  · intro w' hSw; (try dsimp only at hSw); go_simp; (try with_reducible rfl)
  simp only [Act.put, List.setIfInBounds_toArray, List.set_cons_zero, List.set_cons_succ]
  refine wpAnyH_take (i := 3) (oi := { dst := some 9, op := Op.load 3 (Operand.tmp 8), type := 3, pos := "ecs.go:47", after := #[{ on := 2, ground := Ground.data }], guard := none }) (v := ?_) rfl (by kernel_rfl) (by kernel_rfl) (by kernel_rfl) (fun _ _ _ h => h) (Or.inl ⟨by rfl, ?_⟩) (by assumption) ?_
  rotate_left 1
  · intro w' hSw; (try dsimp only at hSw); go_simp; (try with_reducible rfl)
  simp only [Act.put, List.setIfInBounds_toArray, List.set_cons_zero, List.set_cons_succ]
  refine wpAnyH_take (i := 4) (oi := { dst := some 10, op := Op.fieldAddr 24 (Operand.tmp 1) 3, type := 0, pos := "ecs.go:47", after := #[], guard := none }) (v := ?_) rfl (by kernel_rfl) (by kernel_rfl) (by kernel_rfl) (fun _ _ _ h => h) (Or.inl ⟨by rfl, ?_⟩) (by assumption) ?_
  rotate_left 1
  · intro w' hSw; (try dsimp only at hSw); go_simp; (try with_reducible rfl)
  simp only [Act.put, List.setIfInBounds_toArray, List.set_cons_zero, List.set_cons_succ]
  refine wpAnyH_take (i := 5) (oi := { dst := some 11, op := Op.load 3 (Operand.tmp 10), type := 3, pos := "ecs.go:47", after := #[{ on := 4, ground := Ground.data }], guard := none }) (v := ?_) rfl (by kernel_rfl) (by kernel_rfl) (by kernel_rfl) (fun _ _ _ h => h) (Or.inl ⟨by rfl, ?_⟩) (by assumption) ?_
  rotate_left 1
  · intro w' hSw; (try dsimp only at hSw); go_simp; (try with_reducible rfl)
  simp only [Act.put, List.setIfInBounds_toArray, List.set_cons_zero, List.set_cons_succ]
  refine wpAnyH_ready (rs := [1]) (by kernel_rfl) (by simp) ?_
  refine AllReadyH.cons (o := { dst := some 7, op := Op.call { callee := Callee.value (Operand.func 35), args := #[Operand.tmp 6], argTypes := #[24] }, type := 24, pos := "ecs.go:47", after := #[{ on := 0, ground := Ground.data }], guard := none }) rfl (fun K' hK => ?_) AllReadyH.nil
  go_simp
  go_at_call 35; refine (CO.out w2.drew HB2.out.drew).mono ?_; rintro e w3 ⟨A', c', rfl, hk3, ha3, hb3⟩
  have HB3 := Lib.hid (HB2.out.trans ((show Below w2.heap.size w2 w3 from (Below.refl _ _).drew.trans hb3).mono HB2.out.size))
  have HS3 := Lib.hid (show w2.heap.size ≤ w3.heap.size from hb3.size)
  have s3 := KS.out w3 HB3.out
  have HK3 := Lib.hid (And.intro hk3 ha3)
  clear hk3 ha3 hb3
  refine hK.out _ _ s3 (fun hHeld => ?_)
  clear hK K'
  try simp only [Act.put, List.setIfInBounds_toArray, List.set_cons_zero, List.set_cons_succ]
  refine wpAnyH_ready (rs := [6]) (by kernel_rfl) (by simp) ?_
  refine AllReadyH.cons (o := { dst := some 12, op := Op.call { callee := Callee.value (Operand.func 36), args := #[Operand.tmp 9, Operand.tmp 11], argTypes := #[3, 3] }, type := 79, pos := "ecs.go:47", after := #[{ on := 3, ground := Ground.data }, { on := 5, ground := Ground.data }, { on := 1, ground := Ground.chain }], guard := none }) rfl (fun K' hK => ?_) AllReadyH.nil
  go_simp
  go_at_call 36; refine (INew_any en gn w3).mono ?_; rintro e w4 ⟨rfl, hb4, hlt4, I4⟩
  have HB4 := Lib.hid (HB3.out.trans (hb4.mono HB3.out.size))
  have s4 := KS.out w4 HB4.out
  have HI4 := Lib.hid (And.intro I4 (And.intro hb4 hlt4))
  clear hb4 hlt4 I4
  refine hK.out _ _ s4 (fun hHeld => ?_)
  clear hK K'
  try simp only [Act.put, List.setIfInBounds_toArray, List.set_cons_zero, List.set_cons_succ]
  refine wpAnyH_ready (rs := [7]) (by kernel_rfl) (by simp) ?_
  refine AllReadyH.cons (o := { dst := some 13, op := Op.call { callee := Callee.value (Operand.func 34), args := #[Operand.tmp 7, Operand.tmp 12], argTypes := #[24, 79] }, type := 30, pos := "ecs.go:47", after := #[{ on := 1, ground := Ground.data }, { on := 6, ground := Ground.data }, { on := 6, ground := Ground.chain }], guard := none }) rfl (fun K' hK => ?_) AllReadyH.nil
  go_simp
  have CE : Hid (Calls Tryz.prog 34 #[cv lg pg en gn A' n c', .pointer (some ⟨w3.heap.size, 0, none⟩)] w4 (EmSaid w.heap.size lg pg en gn n ks (NS.new en gn) w4)) := Lib.hid (by
    have hs1 := HB.out.size
    have hs2 := HB2.out.size
    have hs3 := HS3.out
    have hs4 := HI4.out.2.1.size
    have hlt := HI4.out.2.2
    exact empty_any lg pg en gn A' n c' ks w4 (by omega) (HK3.out.1.below HI4.out.2.1) (fun b o e => by have := HK3.out.2 b o e; have h1 : w2.heap.size ≤ b := this.1; exact ⟨by omega, by omega, fun e' => by have e' : b = w3.heap.size := e'; omega⟩) HI4.out.1 (fun y hy => by have e' : y = w3.heap.size := hy; exact ⟨by omega, by omega⟩))
  go_at_call 34; refine CE.out.mono ?_; rintro e w5 ⟨x, gr, rfl, hx, hC, hb5⟩
  have HB5 := Lib.hid (HB4.out.trans (hb5.mono HB4.out.size))
  have s5 := KS.out w5 HB5.out
  have HC := Lib.hid (And.intro hx hC)
  clear hx hC hb5
  refine hK.out _ _ s5 (fun hHeld => ?_)
  clear hK K'
  try simp only [Act.put]
  refine wpAnyH_take (i := 8) (oi := { dst := some 2, op := Op.assign (Operand.tmp 13), type := 30, pos := "ecs.go:47", after := #[{ on := 7, ground := Ground.data }, { on := 7, ground := Ground.chain }, { on := 0, ground := Ground.phase }, { on := 1, ground := Ground.phase }, { on := 2, ground := Ground.phase }, { on := 3, ground := Ground.phase }, { on := 4, ground := Ground.phase }, { on := 5, ground := Ground.phase }, { on := 6, ground := Ground.phase }, { on := 7, ground := Ground.phase }], guard := none }) (v := ?_) rfl (by kernel_rfl) (by kernel_rfl) (by kernel_rfl) (fun _ _ _ h => h) (Or.inl ⟨by rfl, ?_⟩) (by assumption) ?_
  rotate_left 1
  · intro w' hSw; (try dsimp only at hSw); go_simp; (try with_reducible rfl)
  simp only [Act.put, List.setIfInBounds_toArray, List.set_cons_zero, List.set_cons_succ]
  refine wpAnyH_done (by kernel_rfl) ?_ _
  refine NoPanic.normal ?_
  clear hHeld s2 s3 s4 s5
  go_wp2
  go_ret
  exact ⟨x, gr, rfl, HC.out.1, HC.out.2, HB.out.trans (HB5.out.mono HB.out.size)⟩
end
end Go.Proofs.YtddiadpbkjdomaaGreatDoor
