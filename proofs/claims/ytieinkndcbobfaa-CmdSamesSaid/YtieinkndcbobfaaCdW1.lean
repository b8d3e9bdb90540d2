/- The law CmdSames, walked. -/
import Derived.Test.YtieinkndcbobfaaCdD
import Derived.Test.YtieinkndcbobfaaCdE
import Derived.Test.YtieinkndcbobfaaCdG
import Derived.Test.YtieinkndcbobfaaCdO
namespace Go.Proofs.Ytieinkndcbobfaa
open Go.RowKit
set_option linter.unusedVariables false
set_option maxRecDepth 20000

section
variable (x y : Cd) (A A' : Option Addr) (n c n' c' : Nat) (w : World)
theorem CmdSames_long (h : Rd w A n x.dt) (h' : Rd w A' n' y.dt) (hn : n ≤ 9223372036854775807) (hn' : n' ≤ 9223372036854775807) (hl : 300 < n ∨ 300 < n') :
    Calls Try.prog 5 #[.agg (x.cs A n c), .agg (y.cs A' n' c')] w fun e w' => e = .returned (.bool true) ∧ Below w.heap.size w w' := by
  obtain ⟨w1, hw1⟩ : ∃ w1, w1 = (w.alloc (.cells (x.cs A n c) 26)).alloc (.cells (y.cs A' n' c') 26) := ⟨_, rfl⟩
  have hb1 : Below w.heap.size w w1 := by rw [hw1]; exact ((Below.refl _ _).alloc (Nat.le_refl _) _).alloc (by simp) _
  have r1 : Rec 26 w1 w.heap.size (x.cs A n c) := by rw [hw1]; exact (Rec.new w _ _).under ((Below.refl _ _).alloc (Nat.le_refl _) _)
  have r2 : Rec 26 w1 (w.heap.size + 1) (y.cs A' n' c') := by
    have := Rec.new (w.alloc (.cells (x.cs A n c) 26)) 26 (y.cs A' n' c')
    rw [World.size_alloc] at this
    rw [hw1]; exact this
  have a5 := r1.at_ 5
  have b5 := r2.at_ 5
  have HB := Lib.hid hb1
  clear h h' hb1 r1 r2
  by_cases h3 : 300 < n
  · clear hl
    go_enter Try.func5, Try.ntmps5
    go_wp2_with (first
      | (rw [← hw1]; clear hw1)
      | (go_at_call 6; refine (live_any w1).mono ?_; rintro e w2 ⟨rfl, hb2⟩))
    go_ret
    exact ⟨rfl, HB.out.trans (hb2.mono HB.out.size)⟩
  · have h3' : 300 < n' := by omega
    clear hl
    go_enter Try.func5, Try.ntmps5
    go_wp2_with (first
      | (rw [← hw1]; clear hw1)
      | (go_at_call 6; refine (live_any w1).mono ?_; rintro e w2 ⟨rfl, hb2⟩))
    go_ret
    exact ⟨rfl, HB.out.trans (hb2.mono HB.out.size)⟩

/-- Both not too long. -/
structure Two (w0 w : World) (g : Nat) (x y : Cd) (A : Option Addr) (n c : Nat) (A' : Option Addr) (n' c' : Nat) : Prop where
  r : Rec 26 w g (x.cs A n c) ∧ Rec 26 w (g + 1) (y.cs A' n' c') ∧ True
  b : Below w0.heap.size w0 w
  h : Rd w A n x.dt
  h' : Rd w A' n' y.dt
theorem Two.next {w0 w w' : World} {g : Nat} {x y : Cd} {A A' : Option Addr} {n c n' c' : Nat} (h : Two w0 w g x y A n c A' n' c') (hb : Below w.heap.size w w') : Two w0 w' g x y A n c A' n' c' :=
  ⟨⟨h.r.1.under hb, h.r.2.1.under hb, trivial⟩, h.b.trans (hb.mono h.b.size), h.h.below (Nat.le_refl _) hb, h.h'.below (Nat.le_refl _) hb⟩
set_option maxHeartbeats 4000000 in
theorem CmdSames_short (h : Rd w A n x.dt) (h' : Rd w A' n' y.dt) (hn : n ≤ 300) (hn' : n' ≤ 300) (hc : n ≤ c) (hc' : n' ≤ c') :
    Calls Try.prog 5 #[.agg (x.cs A n c), .agg (y.cs A' n' c')] w fun e w' => e = .returned (.bool true) ∧ Below w.heap.size w w' := by
  obtain ⟨w1, hw1⟩ : ∃ w1, w1 = (w.alloc (.cells (x.cs A n c) 26)).alloc (.cells (y.cs A' n' c') 26) := ⟨_, rfl⟩
  have hb1 : Below w.heap.size w w1 := by rw [hw1]; exact ((Below.refl _ _).alloc (Nat.le_refl _) _).alloc (by simp) _
  have r1 : Rec 26 w1 w.heap.size (x.cs A n c) := by rw [hw1]; exact (Rec.new w _ _).under ((Below.refl _ _).alloc (Nat.le_refl _) _)
  have r2 : Rec 26 w1 (w.heap.size + 1) (y.cs A' n' c') := by
    have := Rec.new (w.alloc (.cells (x.cs A n c) 26)) 26 (y.cs A' n' c')
    rw [World.size_alloc] at this
    rw [hw1]; exact this
  have H1 : Two w w1 w.heap.size x y A n c A' n' c' := ⟨⟨r1, r2, trivial⟩, hb1, h.below (Nat.le_refl _) hb1, h'.below (Nat.le_refl _) hb1⟩
  have H1d := Lib.hid (H1.next (Below.refl _ _).drew)
  have a5 := r1.at_ 5
  have b5 := r2.at_ 5
  obtain ⟨b, hb⟩ : ∃ b, b = x.plain.eqB y.plain := ⟨_, rfl⟩
  have HBB := Lib.hid hb
  have HL := Lib.hid (show x.plain.dt.length ≤ 300 by have := x.plain_dt; have := h.1; omega)
  have CS := CSame_any x y A A' n c n' c' w1.drew H1d.out.h H1d.out.h' (by omega) (by omega)
  rw [← hb] at CS
  have C1 := Lib.hid CS
  have s1 : w1.drew.cell? ⟨w.heap.size, 0, none⟩ = some (.int .i64 x.d) ∧ w1.drew.cell? ⟨w.heap.size, 1, none⟩ = some (.bool x.lc) ∧ w1.drew.cell? ⟨w.heap.size, 2, none⟩ = some (.int .i64 x.ix) ∧ w1.drew.cell? ⟨w.heap.size, 3, none⟩ = some (.int .i64 x.gn) ∧ w1.drew.cell? ⟨w.heap.size, 4, none⟩ = some (.int .i64 x.cp) ∧ w1.drew.cell? ⟨w.heap.size, 5, none⟩ = some (.slice A n c) ∧ w1.drew.cell? ⟨w.heap.size + 1, 0, none⟩ = some (.int .i64 y.d) ∧ w1.drew.cell? ⟨w.heap.size + 1, 1, none⟩ = some (.bool y.lc) ∧ w1.drew.cell? ⟨w.heap.size + 1, 2, none⟩ = some (.int .i64 y.ix) ∧ w1.drew.cell? ⟨w.heap.size + 1, 3, none⟩ = some (.int .i64 y.gn) ∧ w1.drew.cell? ⟨w.heap.size + 1, 4, none⟩ = some (.int .i64 y.cp) ∧ w1.drew.cell? ⟨w.heap.size + 1, 5, none⟩ = some (.slice A' n' c') := ⟨H1d.out.r.1.at_ 0, H1d.out.r.1.at_ 1, H1d.out.r.1.at_ 2, H1d.out.r.1.at_ 3, H1d.out.r.1.at_ 4, H1d.out.r.1.at_ 5, H1d.out.r.2.1.at_ 0, H1d.out.r.2.1.at_ 1, H1d.out.r.2.1.at_ 2, H1d.out.r.2.1.at_ 3, H1d.out.r.2.1.at_ 4, H1d.out.r.2.1.at_ 5⟩
  clear h h' hb1 r1 r2 H1 CS hb
  go_enter Try.func5, Try.ntmps5
  go_upto_region 3 with (rw [← hw1]; clear hw1)
  clear a5 b5
  refine wp_region_noPanic ?_
  refine wp_region_held_drew (S := fun W => W.cell? ⟨w.heap.size, 0, none⟩ = some (.int .i64 x.d) ∧ W.cell? ⟨w.heap.size, 1, none⟩ = some (.bool x.lc) ∧ W.cell? ⟨w.heap.size, 2, none⟩ = some (.int .i64 x.ix) ∧ W.cell? ⟨w.heap.size, 3, none⟩ = some (.int .i64 x.gn) ∧ W.cell? ⟨w.heap.size, 4, none⟩ = some (.int .i64 x.cp) ∧ W.cell? ⟨w.heap.size, 5, none⟩ = some (.slice A n c) ∧ W.cell? ⟨w.heap.size + 1, 0, none⟩ = some (.int .i64 y.d) ∧ W.cell? ⟨w.heap.size + 1, 1, none⟩ = some (.bool y.lc) ∧ W.cell? ⟨w.heap.size + 1, 2, none⟩ = some (.int .i64 y.ix) ∧ W.cell? ⟨w.heap.size + 1, 3, none⟩ = some (.int .i64 y.gn) ∧ W.cell? ⟨w.heap.size + 1, 4, none⟩ = some (.int .i64 y.cp) ∧ W.cell? ⟨w.heap.size + 1, 5, none⟩ = some (.slice A' n' c')) (by kernel_rfl) s1 (fun hHeld => ?_)
  refine wpAnyH_take (i := 0) (oi := { dst := some 16, op := Op.load 26 (Operand.tmp 2), type := 26, pos := "law.go:52", after := #[], guard := none }) (v := ?_) rfl (by kernel_rfl) (by kernel_rfl) (by kernel_rfl) (fun _ _ _ h => h) (Or.inl ⟨by rfl, ?_⟩) (by assumption) ?_
  rotate_left 1
  · intro w' hSw; (try dsimp only at hSw); go_simp; (try with_reducible rfl)
  simp only [Act.put, List.setIfInBounds_toArray, List.set_cons_zero, List.set_cons_succ]
  refine wpAnyH_take (i := 1) (oi := { dst := some 17, op := Op.load 26 (Operand.tmp 3), type := 26, pos := "law.go:52", after := #[], guard := none }) (v := ?_) rfl (by kernel_rfl) (by kernel_rfl) (by kernel_rfl) (fun _ _ _ h => h) (Or.inl ⟨by rfl, ?_⟩) (by assumption) ?_
  rotate_left 1
  · intro w' hSw; (try dsimp only at hSw); go_simp; (try with_reducible rfl)
  simp only [Act.put, List.setIfInBounds_toArray, List.set_cons_zero, List.set_cons_succ]
  refine wpAnyH_take (i := 3) (oi := { dst := some 19, op := Op.load 26 (Operand.tmp 2), type := 26, pos := "law.go:52", after := #[], guard := none }) (v := ?_) rfl (by kernel_rfl) (by kernel_rfl) (by kernel_rfl) (fun _ _ _ h => h) (Or.inl ⟨by rfl, ?_⟩) (by assumption) ?_
  rotate_left 1
  · intro w' hSw; (try dsimp only at hSw); go_simp; (try with_reducible rfl)
  simp only [Act.put, List.setIfInBounds_toArray, List.set_cons_zero, List.set_cons_succ]
  refine wpAnyH_take (i := 5) (oi := { dst := some 21, op := Op.load 26 (Operand.tmp 3), type := 26, pos := "law.go:52", after := #[], guard := none }) (v := ?_) rfl (by kernel_rfl) (by kernel_rfl) (by kernel_rfl) (fun _ _ _ h => h) (Or.inl ⟨by rfl, ?_⟩) (by assumption) ?_
  rotate_left 1
  · intro w' hSw; (try dsimp only at hSw); go_simp; (try with_reducible rfl)
  simp only [Act.put, List.setIfInBounds_toArray, List.set_cons_zero, List.set_cons_succ]
  refine wpAnyH_ready (rs := [2]) (by kernel_rfl) (by simp) ?_
  refine AllReadyH.cons (o := { dst := some 18, op := Op.call { callee := Callee.value (Operand.func 18), args := #[Operand.tmp 16, Operand.tmp 17], argTypes := #[26, 26] }, type := 4, pos := "law.go:52", after := #[{ on := 0, ground := Ground.data }, { on := 1, ground := Ground.data }], guard := none }) rfl (fun K' hK => ?_) AllReadyH.nil
  go_simp
  go_at_call 18; refine C1.out.mono ?_; rintro e w2 ⟨rfl, hb2⟩
  have H2 := Lib.hid (H1d.out.next hb2)
  have s2 : w2.cell? ⟨w.heap.size, 0, none⟩ = some (.int .i64 x.d) ∧ w2.cell? ⟨w.heap.size, 1, none⟩ = some (.bool x.lc) ∧ w2.cell? ⟨w.heap.size, 2, none⟩ = some (.int .i64 x.ix) ∧ w2.cell? ⟨w.heap.size, 3, none⟩ = some (.int .i64 x.gn) ∧ w2.cell? ⟨w.heap.size, 4, none⟩ = some (.int .i64 x.cp) ∧ w2.cell? ⟨w.heap.size, 5, none⟩ = some (.slice A n c) ∧ w2.cell? ⟨w.heap.size + 1, 0, none⟩ = some (.int .i64 y.d) ∧ w2.cell? ⟨w.heap.size + 1, 1, none⟩ = some (.bool y.lc) ∧ w2.cell? ⟨w.heap.size + 1, 2, none⟩ = some (.int .i64 y.ix) ∧ w2.cell? ⟨w.heap.size + 1, 3, none⟩ = some (.int .i64 y.gn) ∧ w2.cell? ⟨w.heap.size + 1, 4, none⟩ = some (.int .i64 y.cp) ∧ w2.cell? ⟨w.heap.size + 1, 5, none⟩ = some (.slice A' n' c') := ⟨H2.out.r.1.at_ 0, H2.out.r.1.at_ 1, H2.out.r.1.at_ 2, H2.out.r.1.at_ 3, H2.out.r.1.at_ 4, H2.out.r.1.at_ 5, H2.out.r.2.1.at_ 0, H2.out.r.2.1.at_ 1, H2.out.r.2.1.at_ 2, H2.out.r.2.1.at_ 3, H2.out.r.2.1.at_ 4, H2.out.r.2.1.at_ 5⟩
  clear hb2
  refine hK.out _ _ s2 (fun hHeld => ?_)
  clear hK K'
  try simp only [Act.put, List.setIfInBounds_toArray, List.set_cons_zero, List.set_cons_succ]
  refine wpAnyH_ready (rs := [4]) (by kernel_rfl) (by simp) ?_
  refine AllReadyH.cons (o := { dst := some 20, op := Op.call { callee := Callee.value (Operand.func 12), args := #[Operand.tmp 19], argTypes := #[26] }, type := 26, pos := "law.go:52", after := #[{ on := 3, ground := Ground.data }, { on := 2, ground := Ground.chain }], guard := none }) rfl (fun K' hK => ?_) AllReadyH.nil
  go_simp
  go_at_call 12; refine (RPlain_any x A n c w2 H2.out.h hc).mono ?_; rintro e w3 ⟨A3, n3, c3, rfl, r3, _, hb3⟩
  have H3 := Lib.hid (H2.out.next hb3)
  have R3 := Lib.hid r3
  have s3 : w3.cell? ⟨w.heap.size, 0, none⟩ = some (.int .i64 x.d) ∧ w3.cell? ⟨w.heap.size, 1, none⟩ = some (.bool x.lc) ∧ w3.cell? ⟨w.heap.size, 2, none⟩ = some (.int .i64 x.ix) ∧ w3.cell? ⟨w.heap.size, 3, none⟩ = some (.int .i64 x.gn) ∧ w3.cell? ⟨w.heap.size, 4, none⟩ = some (.int .i64 x.cp) ∧ w3.cell? ⟨w.heap.size, 5, none⟩ = some (.slice A n c) ∧ w3.cell? ⟨w.heap.size + 1, 0, none⟩ = some (.int .i64 y.d) ∧ w3.cell? ⟨w.heap.size + 1, 1, none⟩ = some (.bool y.lc) ∧ w3.cell? ⟨w.heap.size + 1, 2, none⟩ = some (.int .i64 y.ix) ∧ w3.cell? ⟨w.heap.size + 1, 3, none⟩ = some (.int .i64 y.gn) ∧ w3.cell? ⟨w.heap.size + 1, 4, none⟩ = some (.int .i64 y.cp) ∧ w3.cell? ⟨w.heap.size + 1, 5, none⟩ = some (.slice A' n' c') := ⟨H3.out.r.1.at_ 0, H3.out.r.1.at_ 1, H3.out.r.1.at_ 2, H3.out.r.1.at_ 3, H3.out.r.1.at_ 4, H3.out.r.1.at_ 5, H3.out.r.2.1.at_ 0, H3.out.r.2.1.at_ 1, H3.out.r.2.1.at_ 2, H3.out.r.2.1.at_ 3, H3.out.r.2.1.at_ 4, H3.out.r.2.1.at_ 5⟩
  clear hb3 r3
  refine hK.out _ _ s3 (fun hHeld => ?_)
  clear hK K'
  try simp only [Act.put, List.setIfInBounds_toArray, List.set_cons_zero, List.set_cons_succ]
  refine wpAnyH_ready (rs := [6]) (by kernel_rfl) (by simp) ?_
  refine AllReadyH.cons (o := { dst := some 22, op := Op.call { callee := Callee.value (Operand.func 12), args := #[Operand.tmp 21], argTypes := #[26] }, type := 26, pos := "law.go:52", after := #[{ on := 5, ground := Ground.data }, { on := 4, ground := Ground.chain }], guard := none }) rfl (fun K' hK => ?_) AllReadyH.nil
  go_simp
  go_at_call 12; refine (RPlain_any y A' n' c' w3 H3.out.h' hc').mono ?_; rintro e w4 ⟨A4, n4, c4, rfl, r4, _, hb4⟩
  have H4 := Lib.hid (H3.out.next hb4)
  have R4 := Lib.hid (And.intro (R3.out.below (Nat.le_refl _) hb4) r4)
  have C4 := Exact_any x.plain y.plain A3 A4 n3 c3 n4 c4 w4 R4.out.1 R4.out.2
  rw [← HBB.out] at C4
  have C4' := Lib.hid C4
  have s4 : w4.cell? ⟨w.heap.size, 0, none⟩ = some (.int .i64 x.d) ∧ w4.cell? ⟨w.heap.size, 1, none⟩ = some (.bool x.lc) ∧ w4.cell? ⟨w.heap.size, 2, none⟩ = some (.int .i64 x.ix) ∧ w4.cell? ⟨w.heap.size, 3, none⟩ = some (.int .i64 x.gn) ∧ w4.cell? ⟨w.heap.size, 4, none⟩ = some (.int .i64 x.cp) ∧ w4.cell? ⟨w.heap.size, 5, none⟩ = some (.slice A n c) ∧ w4.cell? ⟨w.heap.size + 1, 0, none⟩ = some (.int .i64 y.d) ∧ w4.cell? ⟨w.heap.size + 1, 1, none⟩ = some (.bool y.lc) ∧ w4.cell? ⟨w.heap.size + 1, 2, none⟩ = some (.int .i64 y.ix) ∧ w4.cell? ⟨w.heap.size + 1, 3, none⟩ = some (.int .i64 y.gn) ∧ w4.cell? ⟨w.heap.size + 1, 4, none⟩ = some (.int .i64 y.cp) ∧ w4.cell? ⟨w.heap.size + 1, 5, none⟩ = some (.slice A' n' c') := ⟨H4.out.r.1.at_ 0, H4.out.r.1.at_ 1, H4.out.r.1.at_ 2, H4.out.r.1.at_ 3, H4.out.r.1.at_ 4, H4.out.r.1.at_ 5, H4.out.r.2.1.at_ 0, H4.out.r.2.1.at_ 1, H4.out.r.2.1.at_ 2, H4.out.r.2.1.at_ 3, H4.out.r.2.1.at_ 4, H4.out.r.2.1.at_ 5⟩
  clear hb4 r4 R3 C4
  refine hK.out _ _ s4 (fun hHeld => ?_)
  clear hK K'
  try simp only [Act.put, List.setIfInBounds_toArray, List.set_cons_zero, List.set_cons_succ]
  refine wpAnyH_ready (rs := [7]) (by kernel_rfl) (by simp) ?_
  refine AllReadyH.cons (o := { dst := some 23, op := Op.call { callee := Callee.value (Operand.func 10), args := #[Operand.tmp 20, Operand.tmp 22], argTypes := #[26, 26] }, type := 4, pos := "law.go:52", after := #[{ on := 4, ground := Ground.data }, { on := 6, ground := Ground.data }, { on := 6, ground := Ground.chain }], guard := none }) rfl (fun K' hK => ?_) AllReadyH.nil
  go_simp
  go_at_call 10; refine C4'.out.mono ?_; rintro e w5 ⟨rfl, hb5⟩
  have H5 := Lib.hid (H4.out.next hb5)
  have s5 : w5.cell? ⟨w.heap.size, 0, none⟩ = some (.int .i64 x.d) ∧ w5.cell? ⟨w.heap.size, 1, none⟩ = some (.bool x.lc) ∧ w5.cell? ⟨w.heap.size, 2, none⟩ = some (.int .i64 x.ix) ∧ w5.cell? ⟨w.heap.size, 3, none⟩ = some (.int .i64 x.gn) ∧ w5.cell? ⟨w.heap.size, 4, none⟩ = some (.int .i64 x.cp) ∧ w5.cell? ⟨w.heap.size, 5, none⟩ = some (.slice A n c) ∧ w5.cell? ⟨w.heap.size + 1, 0, none⟩ = some (.int .i64 y.d) ∧ w5.cell? ⟨w.heap.size + 1, 1, none⟩ = some (.bool y.lc) ∧ w5.cell? ⟨w.heap.size + 1, 2, none⟩ = some (.int .i64 y.ix) ∧ w5.cell? ⟨w.heap.size + 1, 3, none⟩ = some (.int .i64 y.gn) ∧ w5.cell? ⟨w.heap.size + 1, 4, none⟩ = some (.int .i64 y.cp) ∧ w5.cell? ⟨w.heap.size + 1, 5, none⟩ = some (.slice A' n' c') := ⟨H5.out.r.1.at_ 0, H5.out.r.1.at_ 1, H5.out.r.1.at_ 2, H5.out.r.1.at_ 3, H5.out.r.1.at_ 4, H5.out.r.1.at_ 5, H5.out.r.2.1.at_ 0, H5.out.r.2.1.at_ 1, H5.out.r.2.1.at_ 2, H5.out.r.2.1.at_ 3, H5.out.r.2.1.at_ 4, H5.out.r.2.1.at_ 5⟩
  clear hb5
  refine hK.out _ _ s5 (fun hHeld => ?_)
  clear hK K'
  try simp only [Act.put, List.setIfInBounds_toArray, List.set_cons_zero, List.set_cons_succ]
  refine wpAnyH_take (i := 8) (oi := { dst := some 24, op := Op.binOp BinOp.eql 4 (Operand.tmp 18) (Operand.tmp 23) 4, type := 4, pos := "law.go:52", after := #[{ on := 2, ground := Ground.data }, { on := 7, ground := Ground.data }], guard := none }) (v := ?_) rfl (by kernel_rfl) (by kernel_rfl) (by kernel_rfl) (fun _ _ _ h => h) (Or.inl ⟨by rfl, ?_⟩) (by assumption) ?_
  rotate_left 1
  · intro w' hSw; (try dsimp only at hSw); go_simp; (try with_reducible rfl)
  simp only [Act.put, List.setIfInBounds_toArray, List.set_cons_zero, List.set_cons_succ]
  refine wpAnyH_take (i := 9) (oi := { dst := some 25, op := Op.move (Operand.tmp 24), type := 4, pos := "law.go:52", after := #[{ on := 8, ground := Ground.data }, { on := 7, ground := Ground.chain }], guard := none }) (v := ?_) rfl (by kernel_rfl) (by kernel_rfl) (by kernel_rfl) (fun _ _ _ h => h) (Or.inl ⟨by rfl, ?_⟩) (by assumption) ?_
  rotate_left 1
  · intro w' hSw; (try dsimp only at hSw); go_simp; (try with_reducible rfl)
  simp only [Act.put, List.setIfInBounds_toArray, List.set_cons_zero, List.set_cons_succ]
  refine wpAnyH_take (i := 10) (oi := { dst := some 26, op := Op.load 26 (Operand.tmp 2), type := 26, pos := "law.go:52", after := #[{ on := 9, ground := Ground.guard }], guard := some (9, true) }) (v := ?_) rfl (by kernel_rfl) (by kernel_rfl) (by kernel_rfl) (fun _ _ _ h => h) (Or.inl ⟨by rfl, ?_⟩) (by assumption) ?_
  rotate_left 1
  · intro w' hSw; (try dsimp only at hSw); go_simp; (try with_reducible rfl)
  simp only [Act.put, List.setIfInBounds_toArray, List.set_cons_zero, List.set_cons_succ]
  refine wpAnyH_take (i := 11) (oi := { dst := some 27, op := Op.load 26 (Operand.tmp 2), type := 26, pos := "law.go:52", after := #[{ on := 9, ground := Ground.guard }], guard := some (9, true) }) (v := ?_) rfl (by kernel_rfl) (by kernel_rfl) (by kernel_rfl) (fun _ _ _ h => h) (Or.inl ⟨by rfl, ?_⟩) (by assumption) ?_
  rotate_left 1
  · intro w' hSw; (try dsimp only at hSw); go_simp; (try with_reducible rfl)
  simp only [Act.put, List.setIfInBounds_toArray, List.set_cons_zero, List.set_cons_succ]
  refine wpAnyH_ready (rs := [12]) (by kernel_rfl) (by simp) ?_
  refine AllReadyH.cons (o := { dst := some 28, op := Op.call { callee := Callee.value (Operand.func 11), args := #[Operand.tmp 27], argTypes := #[26] }, type := 26, pos := "law.go:52", after := #[{ on := 11, ground := Ground.data }, { on := 9, ground := Ground.chain }, { on := 9, ground := Ground.guard }], guard := some (9, true) }) rfl (fun K' hK => ?_) AllReadyH.nil
  go_simp
  go_at_call 11; refine (Plain_any x A n c w5 H5.out.h (by omega)).mono ?_; rintro e w6 ⟨A6, n6, c6, rfl, r6, _, hb6⟩
  have H6 := Lib.hid (H5.out.next hb6)
  have C6 := CSame_any x x.plain A A6 n c n6 c6 w6 H6.out.h r6 (by omega) (by have := r6.1; have := HL.out; omega)
  rw [Cd.plain_plain, Cd.eqB_self] at C6
  have C6' := Lib.hid C6
  have s6 : w6.cell? ⟨w.heap.size, 0, none⟩ = some (.int .i64 x.d) ∧ w6.cell? ⟨w.heap.size, 1, none⟩ = some (.bool x.lc) ∧ w6.cell? ⟨w.heap.size, 2, none⟩ = some (.int .i64 x.ix) ∧ w6.cell? ⟨w.heap.size, 3, none⟩ = some (.int .i64 x.gn) ∧ w6.cell? ⟨w.heap.size, 4, none⟩ = some (.int .i64 x.cp) ∧ w6.cell? ⟨w.heap.size, 5, none⟩ = some (.slice A n c) ∧ w6.cell? ⟨w.heap.size + 1, 0, none⟩ = some (.int .i64 y.d) ∧ w6.cell? ⟨w.heap.size + 1, 1, none⟩ = some (.bool y.lc) ∧ w6.cell? ⟨w.heap.size + 1, 2, none⟩ = some (.int .i64 y.ix) ∧ w6.cell? ⟨w.heap.size + 1, 3, none⟩ = some (.int .i64 y.gn) ∧ w6.cell? ⟨w.heap.size + 1, 4, none⟩ = some (.int .i64 y.cp) ∧ w6.cell? ⟨w.heap.size + 1, 5, none⟩ = some (.slice A' n' c') := ⟨H6.out.r.1.at_ 0, H6.out.r.1.at_ 1, H6.out.r.1.at_ 2, H6.out.r.1.at_ 3, H6.out.r.1.at_ 4, H6.out.r.1.at_ 5, H6.out.r.2.1.at_ 0, H6.out.r.2.1.at_ 1, H6.out.r.2.1.at_ 2, H6.out.r.2.1.at_ 3, H6.out.r.2.1.at_ 4, H6.out.r.2.1.at_ 5⟩
  clear hb6 r6 C6
  refine hK.out _ _ s6 (fun hHeld => ?_)
  clear hK K'
  try simp only [Act.put, List.setIfInBounds_toArray, List.set_cons_zero, List.set_cons_succ]
  refine wpAnyH_ready (rs := [13]) (by kernel_rfl) (by simp) ?_
  refine AllReadyH.cons (o := { dst := some 29, op := Op.call { callee := Callee.value (Operand.func 18), args := #[Operand.tmp 26, Operand.tmp 28], argTypes := #[26, 26] }, type := 4, pos := "law.go:52", after := #[{ on := 10, ground := Ground.data }, { on := 12, ground := Ground.data }, { on := 12, ground := Ground.chain }, { on := 9, ground := Ground.guard }], guard := some (9, true) }) rfl (fun K' hK => ?_) AllReadyH.nil
  go_simp
  go_at_call 18; refine C6'.out.mono ?_; rintro e w7 ⟨rfl, hb7⟩
  have H7 := Lib.hid (H6.out.next hb7)
  have s7 : w7.cell? ⟨w.heap.size, 0, none⟩ = some (.int .i64 x.d) ∧ w7.cell? ⟨w.heap.size, 1, none⟩ = some (.bool x.lc) ∧ w7.cell? ⟨w.heap.size, 2, none⟩ = some (.int .i64 x.ix) ∧ w7.cell? ⟨w.heap.size, 3, none⟩ = some (.int .i64 x.gn) ∧ w7.cell? ⟨w.heap.size, 4, none⟩ = some (.int .i64 x.cp) ∧ w7.cell? ⟨w.heap.size, 5, none⟩ = some (.slice A n c) ∧ w7.cell? ⟨w.heap.size + 1, 0, none⟩ = some (.int .i64 y.d) ∧ w7.cell? ⟨w.heap.size + 1, 1, none⟩ = some (.bool y.lc) ∧ w7.cell? ⟨w.heap.size + 1, 2, none⟩ = some (.int .i64 y.ix) ∧ w7.cell? ⟨w.heap.size + 1, 3, none⟩ = some (.int .i64 y.gn) ∧ w7.cell? ⟨w.heap.size + 1, 4, none⟩ = some (.int .i64 y.cp) ∧ w7.cell? ⟨w.heap.size + 1, 5, none⟩ = some (.slice A' n' c') := ⟨H7.out.r.1.at_ 0, H7.out.r.1.at_ 1, H7.out.r.1.at_ 2, H7.out.r.1.at_ 3, H7.out.r.1.at_ 4, H7.out.r.1.at_ 5, H7.out.r.2.1.at_ 0, H7.out.r.2.1.at_ 1, H7.out.r.2.1.at_ 2, H7.out.r.2.1.at_ 3, H7.out.r.2.1.at_ 4, H7.out.r.2.1.at_ 5⟩
  clear hb7
  refine hK.out _ _ s7 (fun hHeld => ?_)
  clear hK K'
  try simp only [Act.put, List.setIfInBounds_toArray, List.set_cons_zero, List.set_cons_succ]
  refine wpAnyH_take (i := 14) (oi := { dst := some 30, op := Op.pick (Operand.tmp 25) (Operand.tmp 29) (Operand.const (Value.bool false)), type := 4, pos := "law.go:52", after := #[{ on := 9, ground := Ground.data }, { on := 13, ground := Ground.data }], guard := none }) (v := ?_) rfl (by kernel_rfl) (by kernel_rfl) (by kernel_rfl) (fun _ _ _ h => h) (Or.inl ⟨by rfl, ?_⟩) (by assumption) ?_
  rotate_left 1
  · intro w' hSw; (try dsimp only at hSw); go_simp; (try with_reducible rfl)
  simp only [Act.put, List.setIfInBounds_toArray, List.set_cons_zero, List.set_cons_succ]
  refine wpAnyH_take (i := 15) (oi := { dst := some 31, op := Op.move (Operand.tmp 30), type := 4, pos := "law.go:52", after := #[{ on := 14, ground := Ground.data }, { on := 13, ground := Ground.chain }], guard := none }) (v := ?_) rfl (by kernel_rfl) (by kernel_rfl) (by kernel_rfl) (fun _ _ _ h => h) (Or.inl ⟨by rfl, ?_⟩) (by assumption) ?_
  rotate_left 1
  · intro w' hSw; (try dsimp only at hSw); go_simp; (try with_reducible rfl)
  simp only [Act.put, List.setIfInBounds_toArray, List.set_cons_zero, List.set_cons_succ]
  refine wpAnyH_ready (rs := [16]) (by kernel_rfl) (by simp) ?_
  refine AllReadyH.cons (o := { dst := some 32, op := Op.call { callee := Callee.value (Operand.func 6), args := #[], argTypes := #[] }, type := 4, pos := "law.go:52", after := #[{ on := 15, ground := Ground.chain }, { on := 15, ground := Ground.guard }], guard := some (15, true) }) rfl (fun K' hK => ?_) AllReadyH.nil
  go_simp
  go_at_call 6; refine (live_any w7).mono ?_; rintro e w8 ⟨rfl, hb8⟩
  have H8 := Lib.hid (H7.out.next hb8)
  have s8 : w8.cell? ⟨w.heap.size, 0, none⟩ = some (.int .i64 x.d) ∧ w8.cell? ⟨w.heap.size, 1, none⟩ = some (.bool x.lc) ∧ w8.cell? ⟨w.heap.size, 2, none⟩ = some (.int .i64 x.ix) ∧ w8.cell? ⟨w.heap.size, 3, none⟩ = some (.int .i64 x.gn) ∧ w8.cell? ⟨w.heap.size, 4, none⟩ = some (.int .i64 x.cp) ∧ w8.cell? ⟨w.heap.size, 5, none⟩ = some (.slice A n c) ∧ w8.cell? ⟨w.heap.size + 1, 0, none⟩ = some (.int .i64 y.d) ∧ w8.cell? ⟨w.heap.size + 1, 1, none⟩ = some (.bool y.lc) ∧ w8.cell? ⟨w.heap.size + 1, 2, none⟩ = some (.int .i64 y.ix) ∧ w8.cell? ⟨w.heap.size + 1, 3, none⟩ = some (.int .i64 y.gn) ∧ w8.cell? ⟨w.heap.size + 1, 4, none⟩ = some (.int .i64 y.cp) ∧ w8.cell? ⟨w.heap.size + 1, 5, none⟩ = some (.slice A' n' c') := ⟨H8.out.r.1.at_ 0, H8.out.r.1.at_ 1, H8.out.r.1.at_ 2, H8.out.r.1.at_ 3, H8.out.r.1.at_ 4, H8.out.r.1.at_ 5, H8.out.r.2.1.at_ 0, H8.out.r.2.1.at_ 1, H8.out.r.2.1.at_ 2, H8.out.r.2.1.at_ 3, H8.out.r.2.1.at_ 4, H8.out.r.2.1.at_ 5⟩
  clear hb8
  refine hK.out _ _ s8 (fun hHeld => ?_)
  clear hK K'
  try simp only [Act.put, List.setIfInBounds_toArray, List.set_cons_zero, List.set_cons_succ]
  refine wpAnyH_take (i := 17) (oi := { dst := some 33, op := Op.pick (Operand.tmp 31) (Operand.tmp 32) (Operand.const (Value.bool false)), type := 4, pos := "law.go:52", after := #[{ on := 15, ground := Ground.data }, { on := 16, ground := Ground.data }], guard := none }) (v := ?_) rfl (by kernel_rfl) (by kernel_rfl) (by kernel_rfl) (fun _ _ _ h => h) (Or.inl ⟨by rfl, ?_⟩) (by assumption) ?_
  rotate_left 1
  · intro w' hSw; (try dsimp only at hSw); go_simp; (try with_reducible rfl)
  simp only [Act.put, List.setIfInBounds_toArray, List.set_cons_zero, List.set_cons_succ]
  refine wpAnyH_take (i := 18) (oi := { dst := some 4, op := Op.assign (Operand.tmp 33), type := 4, pos := "law.go:52", after := #[{ on := 17, ground := Ground.data }, { on := 16, ground := Ground.chain }, { on := 0, ground := Ground.phase }, { on := 1, ground := Ground.phase }, { on := 2, ground := Ground.phase }, { on := 3, ground := Ground.phase }, { on := 4, ground := Ground.phase }, { on := 5, ground := Ground.phase }, { on := 6, ground := Ground.phase }, { on := 7, ground := Ground.phase }, { on := 8, ground := Ground.phase }, { on := 9, ground := Ground.phase }, { on := 10, ground := Ground.phase }, { on := 11, ground := Ground.phase }, { on := 12, ground := Ground.phase }, { on := 13, ground := Ground.phase }, { on := 14, ground := Ground.phase }, { on := 15, ground := Ground.phase }, { on := 16, ground := Ground.phase }, { on := 17, ground := Ground.phase }], guard := none }) (v := ?_) rfl (by kernel_rfl) (by kernel_rfl) (by kernel_rfl) (fun _ _ _ h => h) (Or.inl ⟨by rfl, ?_⟩) (by assumption) ?_
  rotate_left 1
  · intro w' hSw; (try dsimp only at hSw); go_simp; (try with_reducible rfl)
  simp only [Act.put, List.setIfInBounds_toArray, List.set_cons_zero, List.set_cons_succ]
  refine wpAnyH_done (by kernel_rfl) ?_ _
  refine NoPanic.normal ?_
  clear hHeld s1 s2 s3 s4 s5 s6 s7 s8
  go_wp2
  go_ret
  exact ⟨rfl, H8.out.b⟩
end
end Go.Proofs.Ytieinkndcbobfaa
