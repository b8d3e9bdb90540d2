/- EcT, EcL, EcV -/
import Derived.Test.YtddiadpbkjdomaaGreatDoorQn19
import Derived.Deep.DeepCutAuto
import Derived.Deep.RegionHeld3
namespace Go.Proofs.YtddiadpbkjdomaaGreatDoor
open Go.RowKit
set_option maxRecDepth 20000

/-- A state by value. -/
abbrev stC (GA : Option Addr) (gn gc : Nat) (FA : Option Addr) (fn fc : Nat) (EA : Option Addr) (en ec : Nat) : Array Value := #[.slice GA gn gc, .slice FA fn fc, .slice EA en ec]
/-- It stands for these. -/
structure StV (K : Nat → Prop) (w : World) (GA : Option Addr) (gn : Nat) (FA : Option Addr) (fn : Nat) (EA : Option Addr) (en : Nat) (gs fs : List Int) (es : List En) : Prop where
  g : IRd w GA gn gs
  f : IRd w FA fn fs
  e : EntsV K w EA en es
theorem StV.below {K : Nat → Prop} {w w' : World} {GA FA EA : Option Addr} {gn fn en : Nat} {gs fs : List Int} {es : List En} (h : StV K w GA gn FA fn EA en gs fs es) (hb : Below w.heap.size w w') : StV K w' GA gn FA fn EA en gs fs es := ⟨h.g.below hb, h.f.below hb, h.e.below hb⟩
theorem stT : RT Tryz.prog 37 3 := ⟨⟨_, Tryz.underlying37, rfl⟩, by kernel_rfl⟩
set_option maxHeartbeats 1000000 in
theorem RSameS_yes {K K' : Nat → Prop} (GA : Option Addr) (gn gc : Nat) (FA : Option Addr) (fn fc : Nat) (EA : Option Addr) (n ec : Nat) (GA' : Option Addr) (gc' : Nat) (FA' : Option Addr) (fc' : Nat) (EA' : Option Addr) (ec' : Nat) (gs fs : List Int) (es : List En) (w : World)
    (h : StV K w GA gn FA fn EA n gs fs es) (h' : StV K' w GA' gn FA' fn EA' n gs fs es) (hgn : gn ≤ 1000000) (hfn : fn ≤ 1000000) (hn : n ≤ 1000000) (hps : ∀ e ∈ es, e.2.length ≤ 1000000) :
    Calls Tryz.prog 18 #[.agg (stC GA gn gc FA fn fc EA n ec), .agg (stC GA' gn gc' FA' fn fc' EA' n ec')] w fun e w' => e = .returned (.bool true) ∧ Below w.heap.size w w' := by
  obtain ⟨w1, hw1⟩ : ∃ w1, w1 = (w.alloc (.cells (stC GA gn gc FA fn fc EA n ec) 37)).alloc (.cells (stC GA' gn gc' FA' fn fc' EA' n ec') 37) := ⟨_, rfl⟩
  have hb1 : Below w.heap.size w w1 := by rw [hw1]; exact ((Below.refl _ _).alloc (Nat.le_refl _) _).alloc (by simp) _
  have r1 : Rec 37 w1 w.heap.size (stC GA gn gc FA fn fc EA n ec) := by rw [hw1]; exact (Rec.new w _ _).under ((Below.refl _ _).alloc (Nat.le_refl _) _)
  have r2 : Rec 37 w1 (w.heap.size + 1) (stC GA' gn gc' FA' fn fc' EA' n ec') := by
    have := Rec.new (w.alloc (.cells (stC GA gn gc FA fn fc EA n ec) 37)) 37 (stC GA' gn gc' FA' fn fc' EA' n ec')
    rw [World.size_alloc] at this
    rw [hw1]; exact this
  have C1 := Lib.hid (SameList_yes w1 GA GA' gn gc gc' gs (h.g.below hb1) (h'.g.below hb1) hgn)
  have C2 : Hid (∀ W, Below w1.heap.size w1 W → Calls Tryz.prog 48 #[.slice FA fn fc, .slice FA' fn fc'] W fun e w' => e = .returned (.bool true) ∧ Below W.heap.size W w') := Lib.hid (fun W hW => SameList_yes W FA FA' fn fc fc' fs ((h.f.below hb1).below hW) ((h'.f.below hb1).below hW) hfn)
  have k0 := r1.at_ 0
  have k0' := r2.at_ 0
  have H := Lib.hid (And.intro h.e (And.intro h'.e hps))
  have hl := h.e.len
  have HR := Lib.hid (And.intro r1 (And.intro r2 hb1))
  clear h h' hb1 r1 r2 hps
  go_enter Tryz.func18, Tryz.ntmps18
  go_wp2_with (first
    | (rw [← hw1]; clear hw1)
    | (have _t := C1; go_at_call 48; refine C1.out.mono ?_; rintro e w2 ⟨rfl, hb2⟩; have k1 := (HR.out.1.under hb2).at_ 1; have k1' := (HR.out.2.1.under hb2).at_ 1; have D2 := Lib.hid (C2.out w2 hb2); have HB2 := Lib.hid hb2; clear hb2 C1 k0 k0')
    | (have _t := D2; go_at_call 48; refine D2.out.mono ?_; rintro e w3 ⟨rfl, hb3⟩; have hb13 := HB2.out.trans (hb3.mono HB2.out.size); have k2 := (HR.out.1.under hb13).at_ 2; have k2' := (HR.out.2.1.under hb13).at_ 2; have HB3 := Lib.hid hb13; clear hb3 hb13 D2 k1 k1'))
  clear k2 k2'
  go_loopw [5] (fun iv wr => ∃ j : Nat, j ≤ n ∧ iv = .int .i64 j ∧ Below w1.heap.size w1 wr) (fun iv _ => n - (intOf iv).toNat)
  case atStart => exact ⟨0, Nat.zero_le _, rfl, HB3.out⟩
  case round =>
    obtain ⟨j, hj, rfl, hB⟩ := hrel
    have HBw := Lib.hid (HR.out.2.2.trans (hB.mono HR.out.2.2.size))
    have k2 := (HR.out.1.under hB).at_ 2
    by_cases hjn : j < n
    · have k2' := (HR.out.2.1.under hB).at_ 2
      obtain ⟨y, hy⟩ : ∃ y, es[j]? = some y := ⟨_, List.getElem?_eq_getElem (by omega)⟩
      obtain ⟨b, o, PA, pn, pc, hA, _, hblt, h0, h1, h2, hp⟩ := H.out.1.cell hy
      obtain ⟨b', o', PA', pn', pc', hA', _, hblt', h0', h1', h2', hp'⟩ := H.out.2.1.cell hy
      subst hA hA'
      have hyl := H.out.2.2 y (List.mem_of_getElem? hy)
      obtain ⟨⟨yi, yg⟩, yp⟩ := y
      simp only at h0 h1 h2 h0' h1' h2' hp hp' hyl
      have hpn := hp.len
      have hpn' := hp'.len
      have e1 : pn' = pn := hpn'.symm.trans hpn
      subst e1
      have HX : Hid (∀ W, Below wr.heap.size wr W → ((W.cell? ⟨w.heap.size, 2, none⟩ = some (.slice (some ⟨b, o, none⟩) n ec) ∧ W.cell? ⟨w.heap.size + 1, 2, none⟩ = some (.slice (some ⟨b', o', none⟩) n ec')) ∧ (W.cell? ⟨b, o + j * 3, none⟩ = some (.int .i64 yi) ∧ W.cell? ⟨b, o + j * 3 + 1, none⟩ = some (.int .i64 yg) ∧ W.cell? ⟨b, o + j * 3 + 2, none⟩ = some (.slice PA pn' pc)) ∧ W.cell? ⟨b', o' + j * 3, none⟩ = some (.int .i64 yi) ∧ W.cell? ⟨b', o' + j * 3 + 1, none⟩ = some (.int .i64 yg) ∧ W.cell? ⟨b', o' + j * 3 + 2, none⟩ = some (.slice PA' pn' pc'))) := Lib.hid (fun W hW => by
        have hwW := HBw.out.trans (hW.mono HBw.out.size)
        exact ⟨⟨(World.cell?_of_block (hW.block _ (World.block_lt_of_cell? wr _ k2))).trans k2, (World.cell?_of_block (hW.block _ (World.block_lt_of_cell? wr _ k2'))).trans k2'⟩,
          ⟨(hwW.cell (p := ⟨b, o + j * 3, none⟩) hblt).trans h0, (hwW.cell (p := ⟨b, o + j * 3 + 1, none⟩) hblt).trans h1, (hwW.cell (p := ⟨b, o + j * 3 + 2, none⟩) hblt).trans h2⟩,
          (hwW.cell (p := ⟨b', o' + j * 3, none⟩) hblt').trans h0', (hwW.cell (p := ⟨b', o' + j * 3 + 1, none⟩) hblt').trans h1', (hwW.cell (p := ⟨b', o' + j * 3 + 2, none⟩) hblt').trans h2'⟩)
      have CP : Hid (Calls Tryz.prog 49 #[.slice PA pn' pc, .slice PA' pn' pc'] wr.drew fun e w' => e = .returned (.bool true) ∧ Below wr.drew.heap.size wr.drew w') := Lib.hid (by
        have hwd : Below w.heap.size w wr.drew := HBw.out.drew
        exact SameParts_yes PA PA' pn' pc pc' yp wr.drew (hp.below hwd) (hp'.below hwd) (by omega))
      have s1 := HX.out wr.drew (Below.refl _ _).drew
      have HB := Lib.hid hB
      clear h0 h1 h2 h0' h1' h2' hp hp' hy hyl hpn hpn' k2' hblt hblt' hB
      go_upto_region 6 with fail
      clear k2
      refine wp_region_noPanic ?_
      refine wp_region_held_drew (S := fun W => ((W.cell? ⟨w.heap.size, 2, none⟩ = some (.slice (some ⟨b, o, none⟩) n ec) ∧ W.cell? ⟨w.heap.size + 1, 2, none⟩ = some (.slice (some ⟨b', o', none⟩) n ec')) ∧ (W.cell? ⟨b, o + j * 3, none⟩ = some (.int .i64 yi) ∧ W.cell? ⟨b, o + j * 3 + 1, none⟩ = some (.int .i64 yg) ∧ W.cell? ⟨b, o + j * 3 + 2, none⟩ = some (.slice PA pn' pc)) ∧ W.cell? ⟨b', o' + j * 3, none⟩ = some (.int .i64 yi) ∧ W.cell? ⟨b', o' + j * 3 + 1, none⟩ = some (.int .i64 yg) ∧ W.cell? ⟨b', o' + j * 3 + 2, none⟩ = some (.slice PA' pn' pc'))) (by kernel_rfl) s1 (fun hHeld => ?_)
      refine wpAnyH_take (i := 0) (oi := { dst := some 36, op := Op.fieldAddr 37 (Operand.tmp 2) 2, type := 0, pos := "ref.go:173", after := #[], guard := none }) (v := ?_) rfl (by kernel_rfl) (by kernel_rfl) (by kernel_rfl) (fun _ _ _ h => h) (Or.inl ⟨by rfl, ?_⟩) (by assumption) ?_
      rotate_left 1
      · intro w' hSw; (try dsimp only at hSw); go_simp; (try with_reducible rfl)
      simp only [Act.put, List.setIfInBounds_toArray, List.set_cons_zero, List.set_cons_succ]
      refine wpAnyH_take (i := 1) (oi := { dst := some 37, op := Op.load 35 (Operand.tmp 36), type := 35, pos := "ref.go:173", after := #[{ on := 0, ground := Ground.data }], guard := none }) (v := ?_) rfl (by kernel_rfl) (by kernel_rfl) (by kernel_rfl) (fun _ _ _ h => h) (Or.inl ⟨by rfl, ?_⟩) (by assumption) ?_
      rotate_left 1
      · intro w' hSw; (try dsimp only at hSw); go_simp; (try with_reducible rfl)
      simp only [Act.put, List.setIfInBounds_toArray, List.set_cons_zero, List.set_cons_succ]
      refine wpAnyH_take (i := 2) (oi := { dst := some 38, op := Op.move (Operand.tmp 5), type := 3, pos := "ref.go:173", after := #[], guard := none }) (v := ?_) rfl (by kernel_rfl) (by kernel_rfl) (by kernel_rfl) (fun _ _ _ h => h) (Or.inl ⟨by rfl, ?_⟩) (by assumption) ?_
      rotate_left 1
      · intro w' hSw; (try dsimp only at hSw); go_simp; (try with_reducible rfl)
      simp only [Act.put, List.setIfInBounds_toArray, List.set_cons_zero, List.set_cons_succ]
      refine wpAnyH_take (i := 3) (oi := { dst := some 39, op := Op.indexAddr 35 (Operand.tmp 37) (Operand.tmp 38), type := 0, pos := "ref.go:173", after := #[{ on := 1, ground := Ground.data }, { on := 2, ground := Ground.data }], guard := none }) (v := ?_) rfl (by kernel_rfl) (by kernel_rfl) (by kernel_rfl) (fun _ _ _ h => h) (Or.inl ⟨by rfl, ?_⟩) (by assumption) ?_
      rotate_left 1
      · intro w' hSw; (try dsimp only at hSw); go_simp; (try with_reducible rfl)
      simp only [Act.put, List.setIfInBounds_toArray, List.set_cons_zero, List.set_cons_succ]
      refine wpAnyH_take (i := 4) (oi := { dst := some 40, op := Op.fieldAddr 103 (Operand.tmp 39) 0, type := 0, pos := "ref.go:173", after := #[{ on := 3, ground := Ground.data }], guard := none }) (v := ?_) rfl (by kernel_rfl) (by kernel_rfl) (by kernel_rfl) (fun _ _ _ h => h) (Or.inl ⟨by rfl, ?_⟩) (by assumption) ?_
      rotate_left 1
      · intro w' hSw; (try dsimp only at hSw); go_simp; (try with_reducible rfl)
      simp only [Act.put, List.setIfInBounds_toArray, List.set_cons_zero, List.set_cons_succ]
      refine wpAnyH_take (i := 5) (oi := { dst := some 41, op := Op.load 39 (Operand.tmp 40), type := 39, pos := "ref.go:173", after := #[{ on := 4, ground := Ground.data }], guard := none }) (v := ?_) rfl (by kernel_rfl) (by kernel_rfl) (by kernel_rfl) (fun _ _ _ h => h) (Or.inl ⟨by rfl, ?_⟩) (by assumption) ?_
      rotate_left 1
      · intro w' hSw; (try dsimp only at hSw); go_simp; (try with_reducible rfl)
      simp only [Act.put, List.setIfInBounds_toArray, List.set_cons_zero, List.set_cons_succ]
      refine wpAnyH_take (i := 6) (oi := { dst := some 42, op := Op.fieldAddr 37 (Operand.tmp 3) 2, type := 0, pos := "ref.go:173", after := #[], guard := none }) (v := ?_) rfl (by kernel_rfl) (by kernel_rfl) (by kernel_rfl) (fun _ _ _ h => h) (Or.inl ⟨by rfl, ?_⟩) (by assumption) ?_
      rotate_left 1
      · intro w' hSw; (try dsimp only at hSw); go_simp; (try with_reducible rfl)
      simp only [Act.put, List.setIfInBounds_toArray, List.set_cons_zero, List.set_cons_succ]
      refine wpAnyH_take (i := 7) (oi := { dst := some 43, op := Op.load 35 (Operand.tmp 42), type := 35, pos := "ref.go:173", after := #[{ on := 6, ground := Ground.data }], guard := none }) (v := ?_) rfl (by kernel_rfl) (by kernel_rfl) (by kernel_rfl) (fun _ _ _ h => h) (Or.inl ⟨by rfl, ?_⟩) (by assumption) ?_
      rotate_left 1
      · intro w' hSw; (try dsimp only at hSw); go_simp; (try with_reducible rfl)
      simp only [Act.put, List.setIfInBounds_toArray, List.set_cons_zero, List.set_cons_succ]
      refine wpAnyH_take (i := 8) (oi := { dst := some 44, op := Op.move (Operand.tmp 5), type := 3, pos := "ref.go:173", after := #[], guard := none }) (v := ?_) rfl (by kernel_rfl) (by kernel_rfl) (by kernel_rfl) (fun _ _ _ h => h) (Or.inl ⟨by rfl, ?_⟩) (by assumption) ?_
      rotate_left 1
      · intro w' hSw; (try dsimp only at hSw); go_simp; (try with_reducible rfl)
      simp only [Act.put, List.setIfInBounds_toArray, List.set_cons_zero, List.set_cons_succ]
      refine wpAnyH_take (i := 9) (oi := { dst := some 45, op := Op.indexAddr 35 (Operand.tmp 43) (Operand.tmp 44), type := 0, pos := "ref.go:173", after := #[{ on := 7, ground := Ground.data }, { on := 8, ground := Ground.data }], guard := none }) (v := ?_) rfl (by kernel_rfl) (by kernel_rfl) (by kernel_rfl) (fun _ _ _ h => h) (Or.inl ⟨by rfl, ?_⟩) (by assumption) ?_
      rotate_left 1
      · intro w' hSw; (try dsimp only at hSw); go_simp; (try with_reducible rfl)
      simp only [Act.put, List.setIfInBounds_toArray, List.set_cons_zero, List.set_cons_succ]
      refine wpAnyH_take (i := 10) (oi := { dst := some 46, op := Op.fieldAddr 103 (Operand.tmp 45) 0, type := 0, pos := "ref.go:173", after := #[{ on := 9, ground := Ground.data }], guard := none }) (v := ?_) rfl (by kernel_rfl) (by kernel_rfl) (by kernel_rfl) (fun _ _ _ h => h) (Or.inl ⟨by rfl, ?_⟩) (by assumption) ?_
      rotate_left 1
      · intro w' hSw; (try dsimp only at hSw); go_simp; (try with_reducible rfl)
      simp only [Act.put, List.setIfInBounds_toArray, List.set_cons_zero, List.set_cons_succ]
      refine wpAnyH_take (i := 11) (oi := { dst := some 47, op := Op.load 39 (Operand.tmp 46), type := 39, pos := "ref.go:173", after := #[{ on := 10, ground := Ground.data }], guard := none }) (v := ?_) rfl (by kernel_rfl) (by kernel_rfl) (by kernel_rfl) (fun _ _ _ h => h) (Or.inl ⟨by rfl, ?_⟩) (by assumption) ?_
      rotate_left 1
      · intro w' hSw; (try dsimp only at hSw); go_simp; (try with_reducible rfl)
      simp only [Act.put, List.setIfInBounds_toArray, List.set_cons_zero, List.set_cons_succ]
      refine wpAnyH_take (i := 12) (oi := { dst := some 48, op := Op.binOp BinOp.neq 39 (Operand.tmp 41) (Operand.tmp 47) 39, type := 4, pos := "ref.go:173", after := #[{ on := 5, ground := Ground.data }, { on := 11, ground := Ground.data }], guard := none }) (v := ?_) rfl (by kernel_rfl) (by kernel_rfl) (by kernel_rfl) (fun _ _ _ h => h) (Or.inl ⟨by rfl, ?_⟩) (by assumption) ?_
      rotate_left 1
      · intro w' hSw; (try dsimp only at hSw); go_simp; (try with_reducible rfl)
      simp only [Act.put, List.setIfInBounds_toArray, List.set_cons_zero, List.set_cons_succ]
      refine wpAnyH_take (i := 13) (oi := { dst := some 49, op := Op.move (Operand.tmp 48), type := 4, pos := "ref.go:173", after := #[{ on := 12, ground := Ground.data }], guard := none }) (v := ?_) rfl (by kernel_rfl) (by kernel_rfl) (by kernel_rfl) (fun _ _ _ h => h) (Or.inl ⟨by rfl, ?_⟩) (by assumption) ?_
      rotate_left 1
      · intro w' hSw; (try dsimp only at hSw); go_simp; (try with_reducible rfl)
      simp only [Act.put, List.setIfInBounds_toArray, List.set_cons_zero, List.set_cons_succ]
      refine wpAnyH_take (i := 14) (oi := { dst := some 50, op := Op.fieldAddr 37 (Operand.tmp 2) 2, type := 0, pos := "ref.go:173", after := #[{ on := 13, ground := Ground.guard }], guard := some (13, false) }) (v := ?_) rfl (by kernel_rfl) (by kernel_rfl) (by kernel_rfl) (fun _ _ _ h => h) (Or.inl ⟨by rfl, ?_⟩) (by assumption) ?_
      rotate_left 1
      · intro w' hSw; (try dsimp only at hSw); go_simp; (try with_reducible rfl)
      simp only [Act.put, List.setIfInBounds_toArray, List.set_cons_zero, List.set_cons_succ]
      refine wpAnyH_take (i := 15) (oi := { dst := some 51, op := Op.load 35 (Operand.tmp 50), type := 35, pos := "ref.go:173", after := #[{ on := 14, ground := Ground.data }, { on := 13, ground := Ground.guard }], guard := some (13, false) }) (v := ?_) rfl (by kernel_rfl) (by kernel_rfl) (by kernel_rfl) (fun _ _ _ h => h) (Or.inl ⟨by rfl, ?_⟩) (by assumption) ?_
      rotate_left 1
      · intro w' hSw; (try dsimp only at hSw); go_simp; (try with_reducible rfl)
      simp only [Act.put, List.setIfInBounds_toArray, List.set_cons_zero, List.set_cons_succ]
      refine wpAnyH_take (i := 16) (oi := { dst := some 52, op := Op.move (Operand.tmp 5), type := 3, pos := "ref.go:173", after := #[{ on := 13, ground := Ground.guard }], guard := some (13, false) }) (v := ?_) rfl (by kernel_rfl) (by kernel_rfl) (by kernel_rfl) (fun _ _ _ h => h) (Or.inl ⟨by rfl, ?_⟩) (by assumption) ?_
      rotate_left 1
      · intro w' hSw; (try dsimp only at hSw); go_simp; (try with_reducible rfl)
      simp only [Act.put, List.setIfInBounds_toArray, List.set_cons_zero, List.set_cons_succ]
      refine wpAnyH_take (i := 17) (oi := { dst := some 53, op := Op.indexAddr 35 (Operand.tmp 51) (Operand.tmp 52), type := 0, pos := "ref.go:173", after := #[{ on := 15, ground := Ground.data }, { on := 16, ground := Ground.data }, { on := 13, ground := Ground.guard }], guard := some (13, false) }) (v := ?_) rfl (by kernel_rfl) (by kernel_rfl) (by kernel_rfl) (fun _ _ _ h => h) (Or.inl ⟨by rfl, ?_⟩) (by assumption) ?_
      rotate_left 1
      · intro w' hSw; (try dsimp only at hSw); go_simp; (try with_reducible rfl)
      simp only [Act.put, List.setIfInBounds_toArray, List.set_cons_zero, List.set_cons_succ]
      refine wpAnyH_take (i := 18) (oi := { dst := some 54, op := Op.fieldAddr 103 (Operand.tmp 53) 1, type := 0, pos := "ref.go:173", after := #[{ on := 17, ground := Ground.data }, { on := 13, ground := Ground.guard }], guard := some (13, false) }) (v := ?_) rfl (by kernel_rfl) (by kernel_rfl) (by kernel_rfl) (fun _ _ _ h => h) (Or.inl ⟨by rfl, ?_⟩) (by assumption) ?_
      rotate_left 1
      · intro w' hSw; (try dsimp only at hSw); go_simp; (try with_reducible rfl)
      simp only [Act.put, List.setIfInBounds_toArray, List.set_cons_zero, List.set_cons_succ]
      refine wpAnyH_take (i := 19) (oi := { dst := some 55, op := Op.load 101 (Operand.tmp 54), type := 101, pos := "ref.go:173", after := #[{ on := 18, ground := Ground.data }, { on := 13, ground := Ground.guard }], guard := some (13, false) }) (v := ?_) rfl (by kernel_rfl) (by kernel_rfl) (by kernel_rfl) (fun _ _ _ h => h) (Or.inl ⟨by rfl, ?_⟩) (by assumption) ?_
      rotate_left 1
      · intro w' hSw; (try dsimp only at hSw); go_simp; (try with_reducible rfl)
      simp only [Act.put, List.setIfInBounds_toArray, List.set_cons_zero, List.set_cons_succ]
      refine wpAnyH_take (i := 20) (oi := { dst := some 56, op := Op.fieldAddr 37 (Operand.tmp 3) 2, type := 0, pos := "ref.go:173", after := #[{ on := 13, ground := Ground.guard }], guard := some (13, false) }) (v := ?_) rfl (by kernel_rfl) (by kernel_rfl) (by kernel_rfl) (fun _ _ _ h => h) (Or.inl ⟨by rfl, ?_⟩) (by assumption) ?_
      rotate_left 1
      · intro w' hSw; (try dsimp only at hSw); go_simp; (try with_reducible rfl)
      simp only [Act.put, List.setIfInBounds_toArray, List.set_cons_zero, List.set_cons_succ]
      refine wpAnyH_take (i := 21) (oi := { dst := some 57, op := Op.load 35 (Operand.tmp 56), type := 35, pos := "ref.go:173", after := #[{ on := 20, ground := Ground.data }, { on := 13, ground := Ground.guard }], guard := some (13, false) }) (v := ?_) rfl (by kernel_rfl) (by kernel_rfl) (by kernel_rfl) (fun _ _ _ h => h) (Or.inl ⟨by rfl, ?_⟩) (by assumption) ?_
      rotate_left 1
      · intro w' hSw; (try dsimp only at hSw); go_simp; (try with_reducible rfl)
      simp only [Act.put, List.setIfInBounds_toArray, List.set_cons_zero, List.set_cons_succ]
      refine wpAnyH_take (i := 22) (oi := { dst := some 58, op := Op.move (Operand.tmp 5), type := 3, pos := "ref.go:173", after := #[{ on := 13, ground := Ground.guard }], guard := some (13, false) }) (v := ?_) rfl (by kernel_rfl) (by kernel_rfl) (by kernel_rfl) (fun _ _ _ h => h) (Or.inl ⟨by rfl, ?_⟩) (by assumption) ?_
      rotate_left 1
      · intro w' hSw; (try dsimp only at hSw); go_simp; (try with_reducible rfl)
      simp only [Act.put, List.setIfInBounds_toArray, List.set_cons_zero, List.set_cons_succ]
      refine wpAnyH_take (i := 23) (oi := { dst := some 59, op := Op.indexAddr 35 (Operand.tmp 57) (Operand.tmp 58), type := 0, pos := "ref.go:173", after := #[{ on := 21, ground := Ground.data }, { on := 22, ground := Ground.data }, { on := 13, ground := Ground.guard }], guard := some (13, false) }) (v := ?_) rfl (by kernel_rfl) (by kernel_rfl) (by kernel_rfl) (fun _ _ _ h => h) (Or.inl ⟨by rfl, ?_⟩) (by assumption) ?_
      rotate_left 1
      · intro w' hSw; (try dsimp only at hSw); go_simp; (try with_reducible rfl)
      simp only [Act.put, List.setIfInBounds_toArray, List.set_cons_zero, List.set_cons_succ]
      refine wpAnyH_take (i := 24) (oi := { dst := some 60, op := Op.fieldAddr 103 (Operand.tmp 59) 1, type := 0, pos := "ref.go:173", after := #[{ on := 23, ground := Ground.data }, { on := 13, ground := Ground.guard }], guard := some (13, false) }) (v := ?_) rfl (by kernel_rfl) (by kernel_rfl) (by kernel_rfl) (fun _ _ _ h => h) (Or.inl ⟨by rfl, ?_⟩) (by assumption) ?_
      rotate_left 1
      · intro w' hSw; (try dsimp only at hSw); go_simp; (try with_reducible rfl)
      simp only [Act.put, List.setIfInBounds_toArray, List.set_cons_zero, List.set_cons_succ]
      refine wpAnyH_take (i := 25) (oi := { dst := some 61, op := Op.load 101 (Operand.tmp 60), type := 101, pos := "ref.go:173", after := #[{ on := 24, ground := Ground.data }, { on := 13, ground := Ground.guard }], guard := some (13, false) }) (v := ?_) rfl (by kernel_rfl) (by kernel_rfl) (by kernel_rfl) (fun _ _ _ h => h) (Or.inl ⟨by rfl, ?_⟩) (by assumption) ?_
      rotate_left 1
      · intro w' hSw; (try dsimp only at hSw); go_simp; (try with_reducible rfl)
      simp only [Act.put, List.setIfInBounds_toArray, List.set_cons_zero, List.set_cons_succ]
      refine wpAnyH_ready (rs := [26]) (by kernel_rfl) (by simp) ?_
      refine AllReadyH.cons (o := { dst := some 62, op := Op.call { callee := Callee.value (Operand.func 49), args := #[Operand.tmp 55, Operand.tmp 61], argTypes := #[101, 101] }, type := 4, pos := "ref.go:173", after := #[{ on := 19, ground := Ground.data }, { on := 25, ground := Ground.data }, { on := 13, ground := Ground.chain }, { on := 13, ground := Ground.guard }], guard := some (13, false) }) rfl (fun K' hK => ?_) AllReadyH.nil
      go_simp
      go_at_call 49; refine CP.out.mono ?_; rintro e w5 ⟨rfl, hb5⟩
      have hb5' : Below wr.heap.size wr w5 := (show Below wr.heap.size wr wr.drew from (Below.refl _ _).drew).trans hb5
      have s2 := HX.out w5 hb5'
      have HB5 := Lib.hid hb5'
      clear hb5 hb5'
      refine hK.out _ _ s2 (fun hHeld => ?_)
      clear hK K'
      try simp only [Act.put, List.setIfInBounds_toArray, List.set_cons_zero, List.set_cons_succ]
      refine wpAnyH_take (i := 27) (oi := { dst := some 63, op := Op.unOp UnOp.not 4 (Operand.tmp 62), type := 4, pos := "ref.go:173", after := #[{ on := 26, ground := Ground.data }, { on := 13, ground := Ground.guard }], guard := some (13, false) }) (v := ?_) rfl (by kernel_rfl) (by kernel_rfl) (by kernel_rfl) (fun _ _ _ h => h) (Or.inl ⟨by rfl, ?_⟩) (by assumption) ?_
      rotate_left 1
      · intro w' hSw; (try dsimp only at hSw); go_simp; (try with_reducible rfl)
      simp only [Act.put, List.setIfInBounds_toArray, List.set_cons_zero, List.set_cons_succ]
      refine wpAnyH_take (i := 28) (oi := { dst := some 64, op := Op.pick (Operand.tmp 49) (Operand.const (Value.bool true)) (Operand.tmp 63), type := 4, pos := "ref.go:173", after := #[{ on := 13, ground := Ground.data }, { on := 27, ground := Ground.data }], guard := none }) (v := ?_) rfl (by kernel_rfl) (by kernel_rfl) (by kernel_rfl) (fun _ _ _ h => h) (Or.inl ⟨by rfl, ?_⟩) (by assumption) ?_
      rotate_left 1
      · intro w' hSw; (try dsimp only at hSw); go_simp; (try with_reducible rfl)
      simp only [Act.put, List.setIfInBounds_toArray, List.set_cons_zero, List.set_cons_succ]
      refine wpAnyH_done (by kernel_rfl) ?_ _
      refine NoPanic.normal ?_
      clear hHeld s1 s2
      go_wp2
      go_roundw
      case rel => exact ⟨j + 1, hjn, by go_num, HB.out.trans (HB5.out.mono HB.out.size)⟩
      case measure => simp [intOf]; omega
    · go_wp2
      go_ret
      exact ⟨rfl, HBw.out⟩
end Go.Proofs.YtddiadpbkjdomaaGreatDoor
namespace Go.Proofs.YtddiadpbkjdomaaGreatDoor
open Go.RowKit
set_option maxRecDepth 20000

theorem res_cttE {P : Program} {T : TypeId} {w : World} {fn : Func} {p u v : Tmp} {tmps : Array Value} {ad : Addr} {x : Value} (h : fn.results = #[.cell p T, .tmp u, .tmp v]) (hp : tmps.getD p undef = .pointer (some ad)) (hl : (loadVar T ad).run P w = .ok x w) : (results fn tmps).run P w = .ok (.tuple #[x, tmps.getD u undef, tmps.getD v undef]) w := by
  rw [Array.getD_eq_getD_getElem?] at hp
  simp only [results, h]
  simp [Result.andThen, hp, asAddr, hl]
theorem ecode_any (n : Int) (w : World) : Calls Tryz.prog 27 #[.int .i64 n] w fun e w' => e = .returned (.int .i64 n) ∧ w = w' := by
  go_enter Tryz.func27, Tryz.ntmps27
  go_wp2
  go_ret
  exact ⟨rfl, rfl⟩
/-- A step by value. -/
abbrev seC (d i g kk : Int) (DA : Option Addr) (dn dc : Nat) : Array Value := #[.int .i64 d, .int .i64 i, .int .i64 g, .int .i64 kk, .slice DA dn dc]
theorem stepT : RT Tryz.prog 44 5 := ⟨⟨_, Tryz.underlying44, rfl⟩, by kernel_rfl⟩
/-- Blocks from n on that were there are as they were. -/
structure Kp (n : Nat) (W w' : World) : Prop where
  size : W.heap.size ≤ w'.heap.size
  blk : ∀ b, n ≤ b → b < W.heap.size → w'.heap[b]? = W.heap[b]?
theorem Kp.ofBelow {n : Nat} {W w' : World} (h : Below W.heap.size W w') : Kp n W w' := ⟨h.size, fun b _ hb => h.block b hb⟩
theorem Kp.ofTGo {n : Nat} {W w' : World} {gr gr' : Nat → Nat} (h : TGo W gr w' gr') (hz : ∀ b, n ≤ b → b < W.heap.size → gr b = 0) : Kp n W w' := ⟨h.fr.size, fun b h1 h2 => h.fr.block b h2 (fun e => e (hz b h1 h2))⟩
theorem Rec.kp {T : TypeId} {n g : Nat} {cs : Array Value} {W w' : World} (h : Rec T W g cs) (hk : Kp n W w') (hg : n ≤ g) : Rec T w' g cs := h.block (hk.blk g hg h.lt)
/-- What is kept by more memory, and by a store into block g. -/
structure Stb (g : Nat) (Φ : World → Prop) : Prop where
  more : ∀ w1 w2, Φ w1 → Below w1.heap.size w1 w2 → Φ w2
  put : ∀ w1 w2, Φ w1 → Fr (· = g) w1 w2 → Φ w2
theorem do_start (w : World) (d i g kk : Int) (DA : Option Addr) (dn dc : Nat) : ∃ w1, w1 = (w.alloc (.cells (seC d i g kk DA dn dc) 44)).alloc (.cells #[.int .i64 0, .int .i64 0] 39) ∧ Below w.heap.size w w1 ∧ Rec 44 w1 w.heap.size (seC d i g kk DA dn dc) ∧ Rec 39 w1 (w.heap.size + 1) #[.int .i64 0, .int .i64 0] := by
  refine ⟨_, rfl, ((Below.refl _ _).alloc (Nat.le_refl _) _).alloc (by simp) _, (Rec.new w _ _).under ((Below.refl _ _).alloc (Nat.le_refl _) _), ?_⟩
  have := Rec.new (w.alloc (.cells (seC d i g kk DA dn dc) 44)) 39 #[.int .i64 0, .int .i64 0]
  rw [World.size_alloc] at this
  exact this
section
variable (R : Value) (i g kk : Int) (DA : Option Addr) (dn dc : Nat) (z : Int) (w : World)

theorem do_1 {Φ : World → Prop} (hΦ : Stb (w.heap.size + 1) Φ) (C : Hid (∀ W, Below w.heap.size w W → Calls Tryz.prog 39 #[R, .agg #[.int .i64 i, .int .i64 g]] W fun e w' => e = .returned (.int .i64 z) ∧ Φ w' ∧ Kp w.heap.size W w')) :
    Calls Tryz.prog 14 #[R, .agg (seC 1 i g kk DA dn dc)] w fun e w' => e = .returned (.tuple #[.agg #[.int .i64 0, .int .i64 0], .slice none 0 0, .int .i64 z]) ∧ Φ w' := by
  obtain ⟨w1, hw1, hb1, r1, r2⟩ := do_start w 1 i g kk DA dn dc
  have C1 := Lib.hid (C.out w1 hb1)
  have k0 := r1.at_ 0
  have k1 := r1.at_ 1
  have k2 := r1.at_ 2
  have k3 := r1.at_ 3
  have k4 := r1.at_ 4
  have R2 := Lib.hid r2
  clear hb1 r1 r2 C
  go_enter Tryz.func14, Tryz.ntmps14
  go_wp2_with (first
    | (rw [← hw1]; clear hw1)
    | (go_at_call 39; refine C1.out.mono ?_; rintro e w2 ⟨rfl, hp, hk⟩; have HP := Lib.hid (And.intro hp hk); clear hp hk k0 k1 k2 k3 k4)
    | (go_at_call 27; refine (ecode_any _ _).mono ?_; rintro e w' ⟨rfl, rfl⟩)
    | ((with_reducible refine wpList_stP rfl (.tmp 4) (.tmp 14) rfl rfl rfl (R2.out.kp HP.out.2 (by omega)) ?_); intro w5 hR5 hF5))
  refine bodyPost_ret (res_cttE rfl rfl (hR5.load idT rfl)) rfl ?_
  exact ⟨rfl, hΦ.put _ _ HP.out.1 hF5⟩

theorem do_2 {Φ : World → Prop} (hΦ : Stb (w.heap.size + 1) Φ) (C : Hid (∀ W, Below w.heap.size w W → Calls Tryz.prog 32 #[R, .agg #[.int .i64 i, .int .i64 g], .int .i64 kk, .slice DA dn dc] W fun e w' => e = .returned (.int .i64 z) ∧ Φ w' ∧ Kp w.heap.size W w')) :
    Calls Tryz.prog 14 #[R, .agg (seC 2 i g kk DA dn dc)] w fun e w' => e = .returned (.tuple #[.agg #[.int .i64 0, .int .i64 0], .slice none 0 0, .int .i64 z]) ∧ Φ w' := by
  obtain ⟨w1, hw1, hb1, r1, r2⟩ := do_start w 2 i g kk DA dn dc
  have C1 := Lib.hid (C.out w1 hb1)
  have k0 := r1.at_ 0
  have k1 := r1.at_ 1
  have k2 := r1.at_ 2
  have k3 := r1.at_ 3
  have k4 := r1.at_ 4
  have R2 := Lib.hid r2
  clear hb1 r1 r2 C
  go_enter Tryz.func14, Tryz.ntmps14
  go_wp2_with (first
    | (rw [← hw1]; clear hw1)
    | (go_at_call 32; refine C1.out.mono ?_; rintro e w2 ⟨rfl, hp, hk⟩; have HP := Lib.hid (And.intro hp hk); clear hp hk k0 k1 k2 k3 k4)
    | (go_at_call 27; refine (ecode_any _ _).mono ?_; rintro e w' ⟨rfl, rfl⟩)
    | ((with_reducible refine wpList_stP rfl (.tmp 4) (.tmp 23) rfl rfl rfl (R2.out.kp HP.out.2 (by omega)) ?_); intro w5 hR5 hF5))
  refine bodyPost_ret (res_cttE rfl rfl (hR5.load idT rfl)) rfl ?_
  exact ⟨rfl, hΦ.put _ _ HP.out.1 hF5⟩

theorem do_3 {Φ : World → Prop} (hΦ : Stb (w.heap.size + 1) Φ) (C : Hid (∀ W, Below w.heap.size w W → Calls Tryz.prog 40 #[R, .agg #[.int .i64 i, .int .i64 g], .int .i64 kk] W fun e w' => e = .returned (.int .i64 z) ∧ Φ w' ∧ Kp w.heap.size W w')) :
    Calls Tryz.prog 14 #[R, .agg (seC 3 i g kk DA dn dc)] w fun e w' => e = .returned (.tuple #[.agg #[.int .i64 0, .int .i64 0], .slice none 0 0, .int .i64 z]) ∧ Φ w' := by
  obtain ⟨w1, hw1, hb1, r1, r2⟩ := do_start w 3 i g kk DA dn dc
  have C1 := Lib.hid (C.out w1 hb1)
  have k0 := r1.at_ 0
  have k1 := r1.at_ 1
  have k2 := r1.at_ 2
  have k3 := r1.at_ 3
  have k4 := r1.at_ 4
  have R2 := Lib.hid r2
  clear hb1 r1 r2 C
  go_enter Tryz.func14, Tryz.ntmps14
  go_wp2_with (first
    | (rw [← hw1]; clear hw1)
    | (go_at_call 40; refine C1.out.mono ?_; rintro e w2 ⟨rfl, hp, hk⟩; have HP := Lib.hid (And.intro hp hk); clear hp hk k0 k1 k2 k3 k4)
    | (go_at_call 27; refine (ecode_any _ _).mono ?_; rintro e w' ⟨rfl, rfl⟩)
    | ((with_reducible refine wpList_stP rfl (.tmp 4) (.tmp 36) rfl rfl rfl (R2.out.kp HP.out.2 (by omega)) ?_); intro w5 hR5 hF5))
  refine bodyPost_ret (res_cttE rfl rfl (hR5.load idT rfl)) rfl ?_
  exact ⟨rfl, hΦ.put _ _ HP.out.1 hF5⟩

theorem do_4 {Φ : Option Addr → Nat → Nat → World → Prop} (hΦ : ∀ A m cc, Stb (w.heap.size + 1) (Φ A m cc)) (C : Hid (∀ W, Below w.heap.size w W → Calls Tryz.prog 41 #[R, .agg #[.int .i64 i, .int .i64 g], .int .i64 kk] W fun e w' => ∃ A m cc, e = .returned (.tuple #[.slice A m cc, .int .i64 z]) ∧ Φ A m cc w' ∧ Kp w.heap.size W w')) :
    Calls Tryz.prog 14 #[R, .agg (seC 4 i g kk DA dn dc)] w fun e w' => ∃ A m cc, e = .returned (.tuple #[.agg #[.int .i64 0, .int .i64 0], .slice A m cc, .int .i64 z]) ∧ Φ A m cc w' := by
  obtain ⟨w1, hw1, hb1, r1, r2⟩ := do_start w 4 i g kk DA dn dc
  have C1 := Lib.hid (C.out w1 hb1)
  have k0 := r1.at_ 0
  have k1 := r1.at_ 1
  have k2 := r1.at_ 2
  have k3 := r1.at_ 3
  have k4 := r1.at_ 4
  have R2 := Lib.hid r2
  clear hb1 r1 r2 C
  go_enter Tryz.func14, Tryz.ntmps14
  go_wp2_with (first
    | (rw [← hw1]; clear hw1)
    | (go_at_call 41; refine C1.out.mono ?_; rintro e w2 ⟨RA, rm, rc, rfl, hp, hk⟩; have HP := Lib.hid (And.intro hp hk); clear hp hk k0 k1 k2 k3 k4)
    | (go_at_call 27; refine (ecode_any _ _).mono ?_; rintro e w' ⟨rfl, rfl⟩)
    | ((with_reducible refine wpList_stP rfl (.tmp 4) (.tmp 56) rfl rfl rfl (R2.out.kp HP.out.2 (by omega)) ?_); intro w5 hR5 hF5))
  refine bodyPost_ret (res_cttE rfl rfl (hR5.load idT rfl)) rfl ?_
  exact ⟨RA, rm, rc, rfl, (hΦ _ _ _).put _ _ HP.out.1 hF5⟩

theorem do_0 (d : Int) (h1 : d ≠ 1) (h2 : d ≠ 2) (h3 : d ≠ 3) (h4 : d ≠ 4) (i2 g2 : Int) {Φ : World → Prop} (hΦ : Stb (w.heap.size + 1) Φ) (C : Hid (∀ W, Below w.heap.size w W → Calls Tryz.prog 31 #[R] W fun e w' => e = .returned (.tuple #[.agg #[.int .i64 i2, .int .i64 g2], .int .i64 z]) ∧ Φ w' ∧ Kp w.heap.size W w')) :
    Calls Tryz.prog 14 #[R, .agg (seC d i g kk DA dn dc)] w fun e w' => e = .returned (.tuple #[.agg #[.int .i64 i2, .int .i64 g2], .slice none 0 0, .int .i64 z]) ∧ Φ w' := by
  obtain ⟨w1, hw1, hb1, r1, r2⟩ := do_start w d i g kk DA dn dc
  have C1 := Lib.hid (C.out w1 hb1)
  have k0 := r1.at_ 0
  have k1 := r1.at_ 1
  have k2 := r1.at_ 2
  have k3 := r1.at_ 3
  have k4 := r1.at_ 4
  have R2 := Lib.hid r2
  clear hb1 r1 r2 C
  have d1 : decide (d = 1) = false := decide_eq_false h1
  have d2 : decide (d = 2) = false := decide_eq_false h2
  have d3 : decide (d = 3) = false := decide_eq_false h3
  have d4 : decide (d = 4) = false := decide_eq_false h4
  go_enter Tryz.func14, Tryz.ntmps14
  go_upto_region 11 with (first
    | (rw [← hw1]; clear hw1)
    | (go_at_call 31; refine C1.out.mono ?_; rintro e w2 ⟨rfl, hp, hk⟩; have HP := Lib.hid (And.intro hp hk); obtain ⟨w3, hw3⟩ : ∃ w3, w3 = w2.alloc (.cells #[.int .i64 0, .int .i64 0] 39) := ⟨_, rfl⟩; have R3 := Lib.hid (show Rec 39 w3 w2.heap.size #[.int .i64 0, .int .i64 0] by rw [hw3]; exact Rec.new w2 _ _); have HB3 := Lib.hid (show Below w2.heap.size w2 w3 by rw [hw3]; exact (Below.refl _ _).alloc (Nat.le_refl _) _); clear hp hk k0 k1 k2 k3 k4)
    | (rw [← hw3]; clear hw3)
    | ((with_reducible refine wpList_stP rfl (.tmp 9) (.tmp 63) rfl rfl rfl R3.out ?_); intro w4 hR4 hF4; have HR4 := Lib.hid (And.intro hR4 hF4); clear hR4 hF4))
  obtain ⟨m4', hF4⟩ := HR4.out
  have m4 : Rec 39 w4.drew w2.heap.size #[.int .i64 i2, .int .i64 g2] := m4'
  have hb4 : Below w2.heap.size w2 w4 := HB3.out.trans (hF4.toBelow (fun y hy => by rw [show y = w2.heap.size from hy]; exact Nat.le_refl _) HB3.out.size)
  have R4 := Lib.hid (show Rec 39 w4.drew (w.heap.size + 1) #[.int .i64 0, .int .i64 0] from (R2.out.kp HP.out.2 (by omega)).under (show Below w2.heap.size w2 w4.drew from hb4.drew))
  have HP4 := Lib.hid (hΦ.more _ _ HP.out.1 (show Below w2.heap.size w2 w4.drew from hb4.drew))
  have s4 : w4.drew.cell? ⟨w2.heap.size, 0, none⟩ = some (.int .i64 i2) ∧ w4.drew.cell? ⟨w2.heap.size, 1, none⟩ = some (.int .i64 g2) := ⟨m4.at_ 0, m4.at_ 1⟩
  clear hF4 hb4 m4'
  refine wp_region_noPanic ?_
  refine wp_region_held_drew (S := fun W => W.cell? ⟨w2.heap.size, 0, none⟩ = some (.int .i64 i2) ∧ W.cell? ⟨w2.heap.size, 1, none⟩ = some (.int .i64 g2)) (by kernel_rfl) s4 (fun hHeld => ?_)
  refine wpAnyH_take (i := 0) (oi := { dst := some 65, op := Op.load 39 (Operand.tmp 9), type := 39, pos := "law.go:43", after := #[], guard := none }) (v := ?_) rfl (by kernel_rfl) (by kernel_rfl) (by kernel_rfl) (fun _ _ _ h => h) (Or.inl ⟨by rfl, ?_⟩) (by assumption) ?_
  rotate_left 1
  · intro w' hSw; (try dsimp only at hSw); go_simp; (try with_reducible rfl)
  simp only [Act.put, List.setIfInBounds_toArray, List.set_cons_zero, List.set_cons_succ]
  refine wpAnyH_take (i := 1) (oi := { dst := some 66, op := Op.move (Operand.tmp 10), type := 60, pos := "law.go:43", after := #[], guard := none }) (v := ?_) rfl (by kernel_rfl) (by kernel_rfl) (by kernel_rfl) (fun _ _ _ h => h) (Or.inl ⟨by rfl, ?_⟩) (by assumption) ?_
  rotate_left 1
  · intro w' hSw; (try dsimp only at hSw); go_simp; (try with_reducible rfl)
  simp only [Act.put, List.setIfInBounds_toArray, List.set_cons_zero, List.set_cons_succ]
  refine wpAnyH_ready (rs := [2]) (by kernel_rfl) (by simp) ?_
  refine AllReadyH.cons (o := { dst := some 67, op := Op.call { callee := Callee.value (Operand.func 27), args := #[Operand.tmp 66], argTypes := #[60] }, type := 3, pos := "law.go:43", after := #[{ on := 1, ground := Ground.data }], guard := none }) rfl (fun K' hK => ?_) AllReadyH.nil
  go_simp
  go_at_call 27; refine (ecode_any _ _).mono ?_; rintro e w' ⟨rfl, rfl⟩
  refine hK.out _ _ s4 (fun hHeld => ?_)
  clear hK K'
  try simp only [Act.put, List.setIfInBounds_toArray, List.set_cons_zero, List.set_cons_succ]
  refine wpAnyH_ready (rs := [3]) (by kernel_rfl) (by simp) ?_
  refine AllReadyH.cons (o := { dst := none, op := Op.store 39 (Operand.tmp 4) (Operand.tmp 65), type := 0, pos := "law.go:43", after := #[{ on := 0, ground := Ground.data }, { on := 2, ground := Ground.chain }, { on := 0, ground := Ground.phase }, { on := 1, ground := Ground.textOnly Departure.lateStores }, { on := 2, ground := Ground.textOnly Departure.lateStoresUnsure }], guard := none }) rfl (fun K' hK => ?_) AllReadyH.nil
  refine step_stS (cs' := #[.int .i64 i2, .int .i64 g2]) idT rfl rfl (by simp [Value.oneCell']) rfl (.tmp 4) (.tmp 65) rfl rfl rfl R4.out ?_
  intro w5 hR5 hF5
  have m5 := Rec.fr (w := w4.drew) m4 hF5 (fun e => by have e' : w2.heap.size = w.heap.size + 1 := e; have := R2.out.lt; have := HP.out.2.size; omega)
  have s5 : w5.cell? ⟨w2.heap.size, 0, none⟩ = some (.int .i64 i2) ∧ w5.cell? ⟨w2.heap.size, 1, none⟩ = some (.int .i64 g2) := ⟨m5.at_ 0, m5.at_ 1⟩
  refine hK.out _ _ s5 (fun hHeld => ?_)
  clear hK K'
  try simp only [Act.put]
  refine wpAnyH_take (i := 4) (oi := { dst := some 5, op := Op.assign (Operand.const (Value.slice none 0 0)), type := 40, pos := "law.go:43", after := #[{ on := 3, ground := Ground.chain }, { on := 0, ground := Ground.phase }, { on := 1, ground := Ground.textOnly Departure.lateStores }, { on := 2, ground := Ground.textOnly Departure.lateStoresUnsure }, { on := 3, ground := Ground.phase }], guard := none }) (v := ?_) rfl (by kernel_rfl) (by kernel_rfl) (by kernel_rfl) (fun _ _ _ h => h) (Or.inl ⟨by rfl, ?_⟩) (by assumption) ?_
  rotate_left 1
  · intro w' hSw; (try dsimp only at hSw); go_simp; (try with_reducible rfl)
  simp only [Act.put, List.setIfInBounds_toArray, List.set_cons_zero, List.set_cons_succ]
  refine wpAnyH_take (i := 5) (oi := { dst := some 6, op := Op.assign (Operand.tmp 67), type := 3, pos := "law.go:43", after := #[{ on := 2, ground := Ground.data }, { on := 4, ground := Ground.chain }, { on := 0, ground := Ground.phase }, { on := 1, ground := Ground.phase }, { on := 2, ground := Ground.phase }, { on := 3, ground := Ground.phase }, { on := 4, ground := Ground.phase }], guard := none }) (v := ?_) rfl (by kernel_rfl) (by kernel_rfl) (by kernel_rfl) (fun _ _ _ h => h) (Or.inl ⟨by rfl, ?_⟩) (by assumption) ?_
  rotate_left 1
  · intro w' hSw; (try dsimp only at hSw); go_simp; (try with_reducible rfl)
  simp only [Act.put, List.setIfInBounds_toArray, List.set_cons_zero, List.set_cons_succ]
  refine wpAnyH_done (by kernel_rfl) ?_ _
  refine NoPanic.normal ?_
  clear hHeld s4 s5 m4
  go_wp2
  refine bodyPost_ret (res_cttE rfl rfl (hR5.load idT rfl)) rfl ?_
  exact ⟨rfl, hΦ.put _ _ HP4.out hF5⟩
end
end Go.Proofs.YtddiadpbkjdomaaGreatDoor
namespace Go.Proofs.YtddiadpbkjdomaaGreatDoor
open Go.RowKit
set_option maxRecDepth 20000

theorem KRd.oneE (w : World) (s : ByteArray) (z : Int) : KRd (w.alloc (.cells #[.string s, .int .i64 z] 72)) (some ⟨w.heap.size, 0, none⟩) 1 [(s, z)] :=
  ⟨rfl, fun _ => ⟨w.heap.size, 0, rfl, by simp, fun j hj => by
    obtain rfl : j = 0 := by simp at hj; omega
    exact ⟨cell_of_row _ _ 0 _ _ _ (heap_alloc_last w _), cell_of_row _ _ 1 _ _ _ (heap_alloc_last w _)⟩⟩⟩
def liveE : List Kd := [(⟨#[97]⟩, 1)]
theorem liveE_right : (Cf.mk 2 4 3 3 liveE).Right := by decide +kernel
theorem liveE_lens : Lens liveE := fun k hk => by
  rw [List.mem_singleton.1 hk]
  decide
theorem liveE_t0 : Tb.new 1 (zsK liveE) 0 = ⟨[], []⟩ := by kernel_rfl
theorem liveE_t1 : Tb.new 1 (zsK liveE) 1 = ⟨[(0, 1)], []⟩ := by kernel_rfl
theorem liveE_take : (NS.new 3 3).take = (⟨3, 3, [0], []⟩, (0, 0), 0) := rfl
def kLive1 : Ks := ⟨⟨3, 3, [0], []⟩, [0], fun a => if a = 0 then some ⟨[], [((0, 0), [])]⟩ else none, fun j => if j = (0, 0) then some (0, 0) else none⟩
theorem live_k1 {x : Fx} (hn : x.n = 1) (hk : x.ks = liveE) : (ks0 (NS.new 3 3)).spawn x = kLive1 := by
  have e : Tb.new x.n (zsK x.ks) 0 = ⟨[], []⟩ := by rw [hn, hk]; exact liveE_t0
  unfold Ks.spawn Ks.tab
  simp only [e]
  rfl
def kLive2 : Ks := ⟨⟨3, 3, [0], []⟩, [0, 1], fun a => if a = 1 then some ⟨[(0, 1)], [((0, 0), [(0, [9])])]⟩ else none, fun j => if j = (0, 0) then some (1, 0) else none⟩
theorem live_gn : gNode kLive1.S (chg true 0 0) = ([0, 1], 1) := by kernel_rfl
theorem live_chg : chg true 0 0 = 1 := by kernel_rfl
theorem live_drop : ({ kLive1 with S := [0, 1] } : Ks).drop (0, 0) 0 0 ⟨[], [((0, 0), [])]⟩ = ⟨⟨3, 3, [0], []⟩, [0, 1], fun _ => none, fun _ => none⟩ := by
  unfold Ks.drop kLive1
  congr 1
  · funext a
    unfold upd
    by_cases e : a = 0
    · simp [e]
    · simp [e]
  · funext j
    by_cases e : j = (0, 0)
    · simp [e]
    · simp [e]
theorem live_k2 {x : Fx} (hn : x.n = 1) (hk : x.ks = liveE) : ({ kLive1 with S := (gNode kLive1.S (chg true 0 0)).1 } : Ks).move x (0, 0) 0 0 ⟨[], [((0, 0), [])]⟩ (gNode kLive1.S (chg true 0 0)).2 (chg true 0 0) (((⟨[], [((0, 0), [])]⟩ : Tb).rows.getD 0 noEn).2 ++ [(0, [9])]) = kLive2 := by
  have e : Tb.new x.n (zsK x.ks) 1 = ⟨[(0, 1)], []⟩ := by rw [hn, hk]; exact liveE_t1
  rw [live_gn, live_chg]
  unfold Ks.move
  rw [live_drop]
  unfold Ks.put Ks.tab kLive2
  simp only [Option.getD_none, e]
  congr 1
theorem live_ids : kLive2.idsOf (sigsL kLive2.S 1 0 kLive2.S.length) = [(0, 0)] := by kernel_rfl
theorem TabAt.N {w : World} (h : TabAt w) {N : Nat} (hN : w.heap.size ≤ N) : TabN N w := ⟨Nat.lt_of_lt_of_le (World.block_lt_of_cell? w _ (h 0 (by decide))) hN, h⟩
set_option maxHeartbeats 1000000 in
theorem elive_any (w : World) (hT : TabAt w) : Calls Tryz.prog 9 #[] w fun e w' => e = .returned (.bool true) ∧ Below w.heap.size w w' := by
  obtain ⟨w1, hw1⟩ : ∃ w1, w1 = w.alloc (.cells #[.string ⟨#[97]⟩, .int .i64 1] 72) := ⟨_, rfl⟩
  have hb1 : Below w.heap.size w w1 := by rw [hw1]; exact (Below.refl _ _).alloc (Nat.le_refl _) _
  have hK : KRd w1 (some ⟨w.heap.size, 0, none⟩) 1 liveE := by rw [hw1]; exact KRd.oneE w _ _
  have CN := Lib.hid (enew_yes 2 4 3 3 (some ⟨w.heap.size, 0, none⟩) 1 1 liveE w1 hK (by decide) liveE_lens liveE_right)
  have HB1 := Lib.hid (And.intro hb1 (hT.below hb1))
  clear hK hb1 hT
  go_enter Tryz.func9, Tryz.ntmps9
  go_upto_region 4 with (first
    | (rw [← hw1]; clear hw1)
    | (go_at_call 10; refine CN.out.mono ?_; rintro e w2 ⟨x, gr, rfl, hx, hC, hb2⟩; have H2 := Lib.hid (And.intro hx (And.intro hC hb2)); clear hx hC hb2))
  obtain ⟨hx, hC, hb2⟩ := H2.out
  have hT2 : TabN w1.heap.size w2 := (HB1.out.2.N (Nat.le_refl _)).low hb2
  have CS := espawn_yes hC hT2 (by decide) (by rw [hx.n]; decide) (by decide) (by decide) (by rw [show (ks0 (NS.new 3 3)).ns = NS.new 3 3 from rfl, liveE_take]) (by rw [show (ks0 (NS.new 3 3)).ns = NS.new 3 3 from rfl, liveE_take]; exact ⟨by decide, by decide⟩)
  rw [live_k1 hx.n hx.ks, show (ks0 (NS.new 3 3)).ns = NS.new 3 3 from rfl, liveE_take] at CS
  simp only at CS
  have CS := Lib.hid CS
  have HT2 := Lib.hid hT2
  clear hx hC hb2 hT2 CN
  go_upto_region 5 with (first
    | (go_at_call 31; refine CS.out.mono ?_; rintro e w3 ⟨rfl, gr3, pt3, h3, hG3⟩; obtain ⟨w4, hw4⟩ : ∃ w4, w4 = w3.alloc (.cells #[.int .i64 0, .int .i64 0] 39) := ⟨_, rfl⟩; have R4 := Lib.hid (show Rec 39 w4 w3.heap.size #[.int .i64 0, .int .i64 0] by rw [hw4]; exact Rec.new w3 _ _); have HB4 := Lib.hid (show Below w3.heap.size w3 w4 by rw [hw4]; exact (Below.refl _ _).alloc (Nat.le_refl _) _); have H3 := Lib.hid (And.intro h3 hG3); clear h3 hG3)
    | (rw [← hw4]; clear hw4)
    | ((with_reducible refine wpList_stP rfl (.tmp 2) (.tmp 15) rfl rfl rfl R4.out ?_); intro w5 hR5 hF5; have HR5 := Lib.hid (And.intro hR5 hF5); clear hR5 hF5))
  obtain ⟨hx, hC, hb2⟩ := H2.out
  obtain ⟨h3, hG3⟩ := H3.out
  obtain ⟨hR5, hF5⟩ := HR5.out
  have hb5 : Below w3.heap.size w3 w5 := HB4.out.trans (hF5.toBelow (fun y hy => by rw [show y = w3.heap.size from hy]; exact Nat.le_refl _) HB4.out.size)
  obtain ⟨w6, hw6⟩ : ∃ w6, w6 = w5.alloc (.cells #[.int .u8 9] 5) := ⟨_, rfl⟩
  have hb6 : Below w5.heap.size w5 w6 := by rw [hw6]; exact (Below.refl _ _).alloc (Nat.le_refl _) _
  have h5 := h3.below hb5
  have h6 := h5.below hb6
  have hG6 : TGo w2 gr w6 gr3 := (hG3.trans (TGo.ofBelow hb5)).trans (TGo.ofBelow hb6)
  have hD : VB (fun y => gr3 y = 0) w6 (.slice (some ⟨w5.heap.size, 0, none⟩) 1 1) [9] := ⟨_, _, _, rfl, by rw [hw6]; exact Rd.new w5 5 [9] (0, 0), fun b o e _ => by
    injection e with e
    injection e with e1 e2
    subst e1
    exact ⟨Classical.byContradiction fun hh => by have := h5.dom _ hh; omega, by rw [hw6]; simp⟩⟩
  have hT6 : TabN w1.heap.size w6 := HT2.out.go hC hG6
  have CST := eset_lacks h6 (i := 0) (g := 0) ⟨by decide, by decide⟩ (n := 0) (r := 0) (t := ⟨[], [((0, 0), [])]⟩) rfl rfl (by unfold okN; decide) (kk := 0) (by rw [hx.n]; decide) hT6 (by decide) (by decide) ⟨by decide, by decide⟩ (by decide) (some ⟨w5.heap.size, 0, none⟩) 1 1 (by rw [hx.ks]; rfl) hD (s0 := 0) rfl (by decide) (by rw [live_chg]; decide) (by rw [live_chg, hx.n]; kernel_rfl)
  rw [live_k2 hx.n hx.ks] at CST
  have CST := Lib.hid CST
  have HD6 := Lib.hid (And.intro h6 (And.intro hG6 (And.intro (hR5.under hb6) h5)))
  have k0 := hR5.at_ 0
  have k1 := hR5.at_ 1
  clear hx hC hb2 h3 hG3 hR5 hF5 hb5 hb6 h5 h6 hG6 hD hT6 CS R4 HB4
  go_upto_region 6 with (first
    | (rw [← hw6]; clear hw6)
    | (go_at_call 32; refine CST.out.mono ?_; rintro e w7 ⟨rfl, gr7, pt7, h7, hG7⟩; have H7 := Lib.hid (And.intro h7 hG7); clear h7 hG7))
  have CQ := equery_yes H7.out.1 1 0 (by decide) (by decide) (by decide)
  rw [live_ids] at CQ
  have CQ := Lib.hid CQ
  clear k0 k1 CST
  go_upto_region 7 with (go_at_call 21; refine CQ.out.mono ?_; rintro e w8 ⟨QA, qm, qc, ys, rfl, hqm, hI8, hper, _, hb8⟩; have HQ8 := Lib.hid (And.intro hqm (And.intro hI8 (And.intro hper hb8))); clear hqm hI8 hper hb8)
  obtain ⟨hqm, hI8, hper, hb8⟩ := HQ8.out
  have hy : ys = [(0, 0)] := List.perm_singleton.1 hper
  subst hy
  have hqm : qm = 1 := hqm
  subst hqm
  obtain ⟨qb, qo, hQA, _, q0, q1⟩ := hI8.cell (j := 0) (x := (0, 0)) rfl
  subst hQA
  obtain ⟨h6, hG6, r6, h5⟩ := HD6.out
  obtain ⟨h7, hG7⟩ := H7.out
  have hz : gr3 w3.heap.size = 0 := Classical.byContradiction fun hh => by have := H3.out.1.dom _ hh; omega
  have r8 := (r6.tgo hG7 hz).under hb8
  have m0 := r8.at_ 0
  have m1 := r8.at_ 1
  have hBw : Below w.heap.size w w8 := by
    have hN := H2.out.2.1.Nle
    have h1 := HB1.out.1
    have h2 := H2.out.2.2
    have h12 := h1.trans (h2.mono h1.size)
    have h27 : Below w1.heap.size w2 w7 := (hG6.trans hG7).toBelow H2.out.2.1.lo hN
    have h17 := h12.trans (h27.mono h1.size)
    exact h17.trans (hb8.mono h17.size)
  have HBw := Lib.hid hBw
  clear hI8 hper hb8 h6 hG6 r6 h5 h7 hG7 hz r8 hBw HQ8 CQ
  simp only [Nat.zero_mul, Nat.add_zero] at q0 q1
  clear hqm
  have s8 : (w8.drew.cell? ⟨qb, qo, none⟩ = some (.int .i64 0) ∧ w8.drew.cell? ⟨qb, qo + 1, none⟩ = some (.int .i64 0)) ∧ w8.drew.cell? ⟨w3.heap.size, 0, none⟩ = some (.int .i64 0) ∧ w8.drew.cell? ⟨w3.heap.size, 1, none⟩ = some (.int .i64 0) := ⟨⟨q0, q1⟩, m0, m1⟩
  refine wp_region_noPanic ?_
  refine wp_region_held_drew (S := fun W => (W.cell? ⟨qb, qo, none⟩ = some (.int .i64 0) ∧ W.cell? ⟨qb, qo + 1, none⟩ = some (.int .i64 0)) ∧ W.cell? ⟨w3.heap.size, 0, none⟩ = some (.int .i64 0) ∧ W.cell? ⟨w3.heap.size, 1, none⟩ = some (.int .i64 0)) (by kernel_rfl) s8 (fun hHeld => ?_)
  refine wpAnyH_take (i := 0) (oi := { dst := some 23, op := Op.move (Operand.tmp 3), type := 60, pos := "law.go:24", after := #[], guard := none }) (v := ?_) rfl (by kernel_rfl) (by kernel_rfl) (by kernel_rfl) (fun _ _ _ h => h) (Or.inl ⟨by rfl, ?_⟩) (by assumption) ?_
  rotate_left 1
  · intro w' hSw; (try dsimp only at hSw); go_simp; (try with_reducible rfl)
  simp only [Act.put, List.setIfInBounds_toArray, List.set_cons_zero, List.set_cons_succ]
  refine wpAnyH_ready (rs := [1]) (by kernel_rfl) (by simp) ?_
  refine AllReadyH.cons (o := { dst := some 24, op := Op.call { callee := Callee.value (Operand.func 27), args := #[Operand.tmp 23], argTypes := #[60] }, type := 3, pos := "law.go:24", after := #[{ on := 0, ground := Ground.data }], guard := none }) rfl (fun K' hK => ?_) AllReadyH.nil
  go_simp
  go_at_call 27; refine (ecode_any _ _).mono ?_; rintro e w' ⟨rfl, rfl⟩
  refine hK.out _ _ s8 (fun hHeld => ?_)
  clear hK K'
  try simp only [Act.put, List.setIfInBounds_toArray, List.set_cons_zero, List.set_cons_succ]
  refine wpAnyH_take (i := 2) (oi := { dst := some 25, op := Op.binOp BinOp.eql 3 (Operand.tmp 24) (Operand.const (Value.int IntKind.i64 0)) 3, type := 4, pos := "law.go:24", after := #[{ on := 1, ground := Ground.data }], guard := none }) (v := ?_) rfl (by kernel_rfl) (by kernel_rfl) (by kernel_rfl) (fun _ _ _ h => h) (Or.inl ⟨by rfl, ?_⟩) (by assumption) ?_
  rotate_left 1
  · intro w' hSw; (try dsimp only at hSw); go_simp; (try with_reducible rfl)
  simp only [Act.put, List.setIfInBounds_toArray, List.set_cons_zero, List.set_cons_succ]
  refine wpAnyH_take (i := 3) (oi := { dst := some 26, op := Op.move (Operand.tmp 25), type := 4, pos := "law.go:24", after := #[{ on := 2, ground := Ground.data }, { on := 1, ground := Ground.chain }], guard := none }) (v := ?_) rfl (by kernel_rfl) (by kernel_rfl) (by kernel_rfl) (fun _ _ _ h => h) (Or.inl ⟨by rfl, ?_⟩) (by assumption) ?_
  rotate_left 1
  · intro w' hSw; (try dsimp only at hSw); go_simp; (try with_reducible rfl)
  simp only [Act.put, List.setIfInBounds_toArray, List.set_cons_zero, List.set_cons_succ]
  refine wpAnyH_take (i := 4) (oi := { dst := some 27, op := Op.move (Operand.tmp 4), type := 60, pos := "law.go:24", after := #[{ on := 3, ground := Ground.guard }], guard := some (3, true) }) (v := ?_) rfl (by kernel_rfl) (by kernel_rfl) (by kernel_rfl) (fun _ _ _ h => h) (Or.inl ⟨by rfl, ?_⟩) (by assumption) ?_
  rotate_left 1
  · intro w' hSw; (try dsimp only at hSw); go_simp; (try with_reducible rfl)
  simp only [Act.put, List.setIfInBounds_toArray, List.set_cons_zero, List.set_cons_succ]
  refine wpAnyH_ready (rs := [5]) (by kernel_rfl) (by simp) ?_
  refine AllReadyH.cons (o := { dst := some 28, op := Op.call { callee := Callee.value (Operand.func 27), args := #[Operand.tmp 27], argTypes := #[60] }, type := 3, pos := "law.go:24", after := #[{ on := 4, ground := Ground.data }, { on := 3, ground := Ground.chain }, { on := 3, ground := Ground.guard }], guard := some (3, true) }) rfl (fun K' hK => ?_) AllReadyH.nil
  go_simp
  go_at_call 27; refine (ecode_any _ _).mono ?_; rintro e w' ⟨rfl, rfl⟩
  refine hK.out _ _ s8 (fun hHeld => ?_)
  clear hK K'
  try simp only [Act.put, List.setIfInBounds_toArray, List.set_cons_zero, List.set_cons_succ]
  refine wpAnyH_take (i := 6) (oi := { dst := some 29, op := Op.binOp BinOp.eql 3 (Operand.tmp 28) (Operand.const (Value.int IntKind.i64 0)) 3, type := 4, pos := "law.go:24", after := #[{ on := 5, ground := Ground.data }, { on := 3, ground := Ground.guard }], guard := some (3, true) }) (v := ?_) rfl (by kernel_rfl) (by kernel_rfl) (by kernel_rfl) (fun _ _ _ h => h) (Or.inl ⟨by rfl, ?_⟩) (by assumption) ?_
  rotate_left 1
  · intro w' hSw; (try dsimp only at hSw); go_simp; (try with_reducible rfl)
  simp only [Act.put, List.setIfInBounds_toArray, List.set_cons_zero, List.set_cons_succ]
  refine wpAnyH_take (i := 7) (oi := { dst := some 30, op := Op.pick (Operand.tmp 26) (Operand.tmp 29) (Operand.const (Value.bool false)), type := 4, pos := "law.go:24", after := #[{ on := 3, ground := Ground.data }, { on := 6, ground := Ground.data }], guard := none }) (v := ?_) rfl (by kernel_rfl) (by kernel_rfl) (by kernel_rfl) (fun _ _ _ h => h) (Or.inl ⟨by rfl, ?_⟩) (by assumption) ?_
  rotate_left 1
  · intro w' hSw; (try dsimp only at hSw); go_simp; (try with_reducible rfl)
  simp only [Act.put, List.setIfInBounds_toArray, List.set_cons_zero, List.set_cons_succ]
  refine wpAnyH_take (i := 8) (oi := { dst := some 31, op := Op.move (Operand.tmp 30), type := 4, pos := "law.go:24", after := #[{ on := 7, ground := Ground.data }, { on := 5, ground := Ground.chain }], guard := none }) (v := ?_) rfl (by kernel_rfl) (by kernel_rfl) (by kernel_rfl) (fun _ _ _ h => h) (Or.inl ⟨by rfl, ?_⟩) (by assumption) ?_
  rotate_left 1
  · intro w' hSw; (try dsimp only at hSw); go_simp; (try with_reducible rfl)
  simp only [Act.put, List.setIfInBounds_toArray, List.set_cons_zero, List.set_cons_succ]
  refine wpAnyH_take (i := 9) (oi := { dst := some 32, op := Op.move (Operand.tmp 5), type := 52, pos := "law.go:24", after := #[{ on := 8, ground := Ground.guard }], guard := some (8, true) }) (v := ?_) rfl (by kernel_rfl) (by kernel_rfl) (by kernel_rfl) (fun _ _ _ h => h) (Or.inl ⟨by rfl, ?_⟩) (by assumption) ?_
  rotate_left 1
  · intro w' hSw; (try dsimp only at hSw); go_simp; (try with_reducible rfl)
  simp only [Act.put, List.setIfInBounds_toArray, List.set_cons_zero, List.set_cons_succ]
  refine wpAnyH_take (i := 10) (oi := { dst := some 33, op := Op.call { callee := Callee.builtin Builtin.len, args := #[Operand.tmp 32], argTypes := #[52] }, type := 3, pos := "law.go:24", after := #[{ on := 9, ground := Ground.data }, { on := 8, ground := Ground.guard }], guard := some (8, true) }) (v := ?_) rfl (by kernel_rfl) (by kernel_rfl) (by kernel_rfl) (fun _ _ _ h => h) (Or.inl ⟨by rfl, ?_⟩) (by assumption) ?_
  rotate_left 1
  · intro w' hSw; (try dsimp only at hSw); go_simp; (try with_reducible rfl)
  simp only [Act.put, List.setIfInBounds_toArray, List.set_cons_zero, List.set_cons_succ]
  refine wpAnyH_take (i := 11) (oi := { dst := some 34, op := Op.binOp BinOp.eql 3 (Operand.tmp 33) (Operand.const (Value.int IntKind.i64 1)) 3, type := 4, pos := "law.go:24", after := #[{ on := 10, ground := Ground.data }, { on := 8, ground := Ground.guard }], guard := some (8, true) }) (v := ?_) rfl (by kernel_rfl) (by kernel_rfl) (by kernel_rfl) (fun _ _ _ h => h) (Or.inl ⟨by rfl, ?_⟩) (by assumption) ?_
  rotate_left 1
  · intro w' hSw; (try dsimp only at hSw); go_simp; (try with_reducible rfl)
  simp only [Act.put, List.setIfInBounds_toArray, List.set_cons_zero, List.set_cons_succ]
  refine wpAnyH_take (i := 12) (oi := { dst := some 35, op := Op.pick (Operand.tmp 31) (Operand.tmp 34) (Operand.const (Value.bool false)), type := 4, pos := "law.go:24", after := #[{ on := 8, ground := Ground.data }, { on := 11, ground := Ground.data }], guard := none }) (v := ?_) rfl (by kernel_rfl) (by kernel_rfl) (by kernel_rfl) (fun _ _ _ h => h) (Or.inl ⟨by rfl, ?_⟩) (by assumption) ?_
  rotate_left 1
  · intro w' hSw; (try dsimp only at hSw); go_simp; (try with_reducible rfl)
  simp only [Act.put, List.setIfInBounds_toArray, List.set_cons_zero, List.set_cons_succ]
  refine wpAnyH_take (i := 13) (oi := { dst := some 36, op := Op.move (Operand.tmp 35), type := 4, pos := "law.go:24", after := #[{ on := 12, ground := Ground.data }, { on := 8, ground := Ground.chain }], guard := none }) (v := ?_) rfl (by kernel_rfl) (by kernel_rfl) (by kernel_rfl) (fun _ _ _ h => h) (Or.inl ⟨by rfl, ?_⟩) (by assumption) ?_
  rotate_left 1
  · intro w' hSw; (try dsimp only at hSw); go_simp; (try with_reducible rfl)
  simp only [Act.put, List.setIfInBounds_toArray, List.set_cons_zero, List.set_cons_succ]
  refine wpAnyH_take (i := 14) (oi := { dst := some 37, op := Op.move (Operand.tmp 5), type := 52, pos := "law.go:24", after := #[{ on := 13, ground := Ground.guard }], guard := some (13, true) }) (v := ?_) rfl (by kernel_rfl) (by kernel_rfl) (by kernel_rfl) (fun _ _ _ h => h) (Or.inl ⟨by rfl, ?_⟩) (by assumption) ?_
  rotate_left 1
  · intro w' hSw; (try dsimp only at hSw); go_simp; (try with_reducible rfl)
  simp only [Act.put, List.setIfInBounds_toArray, List.set_cons_zero, List.set_cons_succ]
  refine wpAnyH_take (i := 15) (oi := { dst := some 38, op := Op.indexAddr 52 (Operand.tmp 37) (Operand.const (Value.int IntKind.i64 0)), type := 0, pos := "law.go:24", after := #[{ on := 14, ground := Ground.data }, { on := 13, ground := Ground.guard }], guard := some (13, true) }) (v := ?_) rfl (by kernel_rfl) (by kernel_rfl) (by kernel_rfl) (fun _ _ _ h => h) (Or.inl ⟨by rfl, ?_⟩) (by assumption) ?_
  rotate_left 1
  · intro w' hSw; (try dsimp only at hSw); go_simp; (try with_reducible rfl)
  simp only [Act.put, List.setIfInBounds_toArray, List.set_cons_zero, List.set_cons_succ]
  refine wpAnyH_take (i := 16) (oi := { dst := some 39, op := Op.load 39 (Operand.tmp 38), type := 39, pos := "law.go:24", after := #[{ on := 15, ground := Ground.data }, { on := 13, ground := Ground.guard }], guard := some (13, true) }) (v := ?_) rfl (by kernel_rfl) (by kernel_rfl) (by kernel_rfl) (fun _ _ _ h => h) (Or.inl ⟨by rfl, ?_⟩) (by assumption) ?_
  rotate_left 1
  · intro w' hSw; (try dsimp only at hSw); go_simp; (try with_reducible rfl)
  simp only [Act.put, List.setIfInBounds_toArray, List.set_cons_zero, List.set_cons_succ]
  refine wpAnyH_take (i := 17) (oi := { dst := some 40, op := Op.load 39 (Operand.tmp 2), type := 39, pos := "law.go:24", after := #[{ on := 13, ground := Ground.guard }], guard := some (13, true) }) (v := ?_) rfl (by kernel_rfl) (by kernel_rfl) (by kernel_rfl) (fun _ _ _ h => h) (Or.inl ⟨by rfl, ?_⟩) (by assumption) ?_
  rotate_left 1
  · intro w' hSw; (try dsimp only at hSw); go_simp; (try with_reducible rfl)
  simp only [Act.put, List.setIfInBounds_toArray, List.set_cons_zero, List.set_cons_succ]
  refine wpAnyH_take (i := 18) (oi := { dst := some 41, op := Op.binOp BinOp.eql 39 (Operand.tmp 39) (Operand.tmp 40) 39, type := 4, pos := "law.go:24", after := #[{ on := 16, ground := Ground.data }, { on := 17, ground := Ground.data }, { on := 13, ground := Ground.guard }], guard := some (13, true) }) (v := ?_) rfl (by kernel_rfl) (by kernel_rfl) (by kernel_rfl) (fun _ _ _ h => h) (Or.inl ⟨by rfl, ?_⟩) (by assumption) ?_
  rotate_left 1
  · intro w' hSw; (try dsimp only at hSw); go_simp; (try with_reducible rfl)
  simp only [Act.put, List.setIfInBounds_toArray, List.set_cons_zero, List.set_cons_succ]
  refine wpAnyH_take (i := 19) (oi := { dst := some 42, op := Op.pick (Operand.tmp 36) (Operand.tmp 41) (Operand.const (Value.bool false)), type := 4, pos := "law.go:24", after := #[{ on := 13, ground := Ground.data }, { on := 18, ground := Ground.data }], guard := none }) (v := ?_) rfl (by kernel_rfl) (by kernel_rfl) (by kernel_rfl) (fun _ _ _ h => h) (Or.inl ⟨by rfl, ?_⟩) (by assumption) ?_
  rotate_left 1
  · intro w' hSw; (try dsimp only at hSw); go_simp; (try with_reducible rfl)
  simp only [Act.put, List.setIfInBounds_toArray, List.set_cons_zero, List.set_cons_succ]
  refine wpAnyH_take (i := 20) (oi := { dst := some 0, op := Op.assign (Operand.tmp 42), type := 4, pos := "law.go:24", after := #[{ on := 19, ground := Ground.data }, { on := 13, ground := Ground.chain }, { on := 0, ground := Ground.phase }, { on := 1, ground := Ground.phase }, { on := 2, ground := Ground.phase }, { on := 3, ground := Ground.phase }, { on := 4, ground := Ground.phase }, { on := 5, ground := Ground.phase }, { on := 6, ground := Ground.phase }, { on := 7, ground := Ground.phase }, { on := 8, ground := Ground.phase }, { on := 9, ground := Ground.phase }, { on := 10, ground := Ground.phase }, { on := 11, ground := Ground.phase }, { on := 12, ground := Ground.phase }, { on := 13, ground := Ground.phase }, { on := 14, ground := Ground.phase }, { on := 15, ground := Ground.phase }, { on := 16, ground := Ground.phase }, { on := 17, ground := Ground.phase }, { on := 18, ground := Ground.phase }, { on := 19, ground := Ground.phase }], guard := none }) (v := ?_) rfl (by kernel_rfl) (by kernel_rfl) (by kernel_rfl) (fun _ _ _ h => h) (Or.inl ⟨by rfl, ?_⟩) (by assumption) ?_
  rotate_left 1
  · intro w' hSw; (try dsimp only at hSw); go_simp; (try with_reducible rfl)
  simp only [Act.put, List.setIfInBounds_toArray, List.set_cons_zero]
  refine wpAnyH_done (by kernel_rfl) ?_ _
  refine NoPanic.normal ?_
  clear hHeld s8
  go_wp2
  go_ret
  exact ⟨rfl, HBw.out.drew⟩
end Go.Proofs.YtddiadpbkjdomaaGreatDoor
