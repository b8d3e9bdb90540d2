/- The law CmdPuts, walked (written by gen_cdw3.py). -/
import Derived.Test.YtieinkndcbobfaaCdS
import Derived.Test.YtieinkndcbobfaaCdFM
import Derived.Test.YtieinkndcbobfaaCdD
import Derived.Test.YtieinkndcbobfaaCdG
import Derived.Test.YtieinkndcbobfaaCdQ
namespace Go.Proofs.Ytieinkndcbobfaa
open Go.RowKit
set_option linter.unusedVariables false
set_option maxRecDepth 20000

section
variable (D : Option Addr) (m e0 : Nat) (l : List UInt8) (x : Cd) (A : Option Addr) (n c : Nat) (w : World)
theorem CmdPuts_long (h : Rd w A n x.dt) (hm : m ≤ 9223372036854775807) (hn : n ≤ 9223372036854775807) (hl : 300 < m ∨ 300 < n) :
    Calls Try.prog 3 #[.slice D m e0, .agg (x.cs A n c)] w fun e w' => e = .returned (.bool true) ∧ Below w.heap.size w w' := by
  obtain ⟨w1, hw1⟩ : ∃ w1, w1 = w.alloc (.cells (x.cs A n c) 26) := ⟨_, rfl⟩
  have K1 : CdAt w w1 w.heap.size x A n c := by rw [hw1]; exact CdAt.new w x A n c h
  have c5 := K1.c5
  have HK := Lib.hid K1
  clear h K1
  by_cases h3 : 300 < m
  · clear hl
    go_enter Try.func3, Try.ntmps3
    go_wp2_with (first
      | (rw [← hw1]; clear hw1)
      | (go_at_call 6; refine (live_any w1).mono ?_; rintro e w2 ⟨rfl, hb2⟩))
    go_ret
    exact ⟨rfl, HK.out.bel.trans (hb2.mono HK.out.bel.size)⟩
  · have h3' : 300 < n := by omega
    clear hl
    go_enter Try.func3, Try.ntmps3
    go_wp2_with (first
      | (rw [← hw1]; clear hw1)
      | (go_at_call 6; refine (live_any w1).mono ?_; rintro e w2 ⟨rfl, hb2⟩))
    go_ret
    exact ⟨rfl, HK.out.bel.trans (hb2.mono HK.out.bel.size)⟩
theorem own_new (w : World) (B : Nat) (hB : B ≤ w.heap.size) : (w.alloc (.cells #[] 5)).ownsRow B 5 1 (.slice (some ⟨w.heap.size, 0, none⟩) 0 0) 0 [] := own_empty w B 5 hB
/-- What is kept through region 4: the command's box, the bytes that came in, those that were put. -/
structure PW (w0 W : World) (x : Cd) (A : Option Addr) (n c : Nat) (D : Option Addr) (m : Nat) (l : List UInt8) (P : Option Addr) (pn : Nat) : Prop where
  k : CdAt w0 W w0.heap.size x A n c
  d : Rd W D m l
  p : Rd W P pn (l ++ x.bytes)
theorem PW.next {w0 W W' : World} {x : Cd} {A D P : Option Addr} {n c m pn : Nat} {l : List UInt8} (h : PW w0 W x A n c D m l P pn) (hb : Below W.heap.size W W') : PW w0 W' x A n c D m l P pn :=
  ⟨h.k.next hb, h.d.below (Nat.le_refl _) hb, h.p.below (Nat.le_refl _) hb⟩
/-- Bytes owned from a base on, in a world above it. -/
structure OW (B : Nat) (W0 W : World) (v : Value) (k : Nat) (xs : List UInt8) : Prop where
  o : W.ownsRow B 5 1 v k (cells xs)
  b : Below B W0 W
theorem PW.low {w0 W0 W : World} {x : Cd} {A D P : Option Addr} {n c m pn : Nat} {l : List UInt8} (h : PW w0 W0 x A n c D m l P pn) (hb : Below W0.heap.size W0 W) : PW w0 W x A n c D m l P pn := h.next hb

set_option maxHeartbeats 8000000 in
theorem CmdPuts_short (h : Rd w A n x.dt) (hD : Rd w D m l) (hn : n ≤ 300) (hm : m ≤ 300) (hnc : n ≤ c) (hw : x.wf) :
    Calls Try.prog 3 #[.slice D m e0, .agg (x.cs A n c)] w fun e w' => e = .returned (.bool true) ∧ Below w.heap.size w w' := by
  obtain ⟨w1, hw1⟩ : ∃ w1, w1 = w.alloc (.cells (x.cs A n c) 26) := ⟨_, rfl⟩
  have K1 : CdAt w w1 w.heap.size x A n c := by rw [hw1]; exact CdAt.new w x A n c h
  have c5 := K1.c5
  have LB := Lib.hid (show x.bytes.length ≤ 400 by have := x.bytes_len; have := h.1; omega)
  have hml := hD.1
  have hgp0 : Hid (x.check = 0 → getAt (l ++ x.bytes) (m : Int) = (x.plain, ((l ++ x.bytes).length : Int), 0)) := Lib.hid (fun hck => by
    have hd : 0 ≤ x.d ∧ x.d ≤ 3 := Classical.byContradiction fun h => by unfold Cd.check at hck; rw [if_neg h] at hck; exact absurd hck (by decide)
    have hl : x.dt.length ≤ 64 := Classical.byContradiction fun h => by unfold Cd.check at hck; rw [if_pos hd, if_neg h] at hck; exact absurd hck (by decide)
    have hg := getCd_put x hd hl hw
    unfold getAt
    rw [if_neg (by simp; omega), Int.toNat_natCast, ← hml, List.drop_left' rfl, hg]
    simp)
  have C1 := Lib.hid (CPutM_any D m e0 l x A n c w1 (hD.below (Nat.le_refl _) K1.bel) (by omega) K1.rd (by omega))
  have X1 := Lib.hid (And.intro K1 (hD.below (Nat.le_refl _) K1.bel))
  have HML := Lib.hid hml
  clear h hD K1 hml hw
  go_enter Try.func3, Try.ntmps3
  go_upto_region 4 with (first
    | (rw [← hw1]; clear hw1)
    | ((with_reducible refine wpList_ldS cdT rfl rfl (.tmp 3) rfl rfl X1.out.1.r ?_))
    | (go_at_call 7; refine C1.out.mono ?_; rintro e w2 ⟨P, pn, pc, rfl, hp2, hpc, hb2⟩
       have H2 := Lib.hid (show PW w w2 x A n c D m l P pn from ⟨X1.out.1.next hb2, X1.out.2.below (Nat.le_refl _) hb2, hp2⟩)
       have HPC0 := Lib.hid hpc
       clear hp2 hpc hb2 c5))
  have HPC := HPC0
  have H0 := Lib.hid (show PW w w2.drew x A n c D m l P pn from H2.out.next (Below.refl _ _).drew)
  have s10 : w2.drew.cell? ⟨w.heap.size, 0, none⟩ = some (.int .i64 x.d) ∧ w2.drew.cell? ⟨w.heap.size, 1, none⟩ = some (.bool x.lc) ∧ w2.drew.cell? ⟨w.heap.size, 2, none⟩ = some (.int .i64 x.ix) ∧ w2.drew.cell? ⟨w.heap.size, 3, none⟩ = some (.int .i64 x.gn) ∧ w2.drew.cell? ⟨w.heap.size, 4, none⟩ = some (.int .i64 x.cp) ∧ w2.drew.cell? ⟨w.heap.size, 5, none⟩ = some (.slice A n c) := ⟨H0.out.k.c0, H0.out.k.c1, H0.out.k.c2, H0.out.k.c3, H0.out.k.c4, H0.out.k.c5⟩
  refine wp_region_noPanic ?_
  refine wp_region_held_drew (S := fun W => W.cell? ⟨w.heap.size, 0, none⟩ = some (.int .i64 x.d) ∧ W.cell? ⟨w.heap.size, 1, none⟩ = some (.bool x.lc) ∧ W.cell? ⟨w.heap.size, 2, none⟩ = some (.int .i64 x.ix) ∧ W.cell? ⟨w.heap.size, 3, none⟩ = some (.int .i64 x.gn) ∧ W.cell? ⟨w.heap.size, 4, none⟩ = some (.int .i64 x.cp) ∧ W.cell? ⟨w.heap.size, 5, none⟩ = some (.slice A n c)) (by kernel_rfl) s10 (fun hHeld => ?_)
  refine wpAnyH_take (i := 0) (oi := { dst := some 22, op := Op.move (Operand.tmp 5), type := 22, pos := "law.go:24", after := #[], guard := none }) (v := ?_) rfl (by kernel_rfl) (by kernel_rfl) (by kernel_rfl) (fun _ _ _ h => h) (Or.inl ⟨by rfl, ?_⟩) (by assumption) ?_
  rotate_left 1
  · intro w' hSw; (try dsimp only at hSw); go_simp; (try with_reducible rfl)
  simp only [Act.put, List.setIfInBounds_toArray, List.set_cons_zero, List.set_cons_succ]
  refine wpAnyH_take (i := 2) (oi := { dst := some 24, op := Op.move (Operand.tmp 0), type := 22, pos := "law.go:24", after := #[], guard := none }) (v := ?_) rfl (by kernel_rfl) (by kernel_rfl) (by kernel_rfl) (fun _ _ _ h => h) (Or.inl ⟨by rfl, ?_⟩) (by assumption) ?_
  rotate_left 1
  · intro w' hSw; (try dsimp only at hSw); go_simp; (try with_reducible rfl)
  simp only [Act.put, List.setIfInBounds_toArray, List.set_cons_zero, List.set_cons_succ]
  refine wpAnyH_take (i := 4) (oi := { dst := some 26, op := Op.load 26 (Operand.tmp 3), type := 26, pos := "law.go:24", after := #[], guard := none }) (v := ?_) rfl (by kernel_rfl) (by kernel_rfl) (by kernel_rfl) (fun _ _ _ h => h) (Or.inl ⟨by rfl, ?_⟩) (by assumption) ?_
  rotate_left 1
  · intro w' hSw; (try dsimp only at hSw); go_simp; (try with_reducible rfl)
  simp only [Act.put, List.setIfInBounds_toArray, List.set_cons_zero, List.set_cons_succ]
  refine wpAnyH_ready (rs := [1]) (by kernel_rfl) (by simp) ?_
  refine AllReadyH.cons (o := { dst := some 23, op := Op.buildSlice 22 0 #[], type := 22, pos := "law.go:24", after := #[], guard := none }) rfl (fun K' hK => ?_) AllReadyH.nil
  go_simp
  obtain ⟨v1, hv1⟩ : ∃ v, v = (w2.alloc (.cells #[] 5)).drew := ⟨_, rfl⟩
  rw [← hv1]
  have hb1 : Below w2.drew.heap.size w2.drew v1 := by rw [hv1]; exact (show Below w2.drew.heap.size w2.drew (w2.drew.alloc (.cells #[] 5)) from (Below.refl _ _).alloc (Nat.le_refl _) _)
  have hbb1 : Below w2.drew.heap.size w2.drew v1 := (Below.refl w2.drew.heap.size w2.drew).trans (hb1.mono (Below.refl w2.drew.heap.size w2.drew).size)
  have O1 := Lib.hid (show v1.ownsRow w2.drew.heap.size 5 1 (.slice (some ⟨w2.heap.size, 0, none⟩) 0 0) 0 [] by rw [hv1]; exact own_new w2.drew _ (Below.refl w2.drew.heap.size w2.drew).size)
  have J1 := Lib.hid (And.intro (H0.out.next hbb1) hbb1)
  have s11 : v1.cell? ⟨w.heap.size, 0, none⟩ = some (.int .i64 x.d) ∧ v1.cell? ⟨w.heap.size, 1, none⟩ = some (.bool x.lc) ∧ v1.cell? ⟨w.heap.size, 2, none⟩ = some (.int .i64 x.ix) ∧ v1.cell? ⟨w.heap.size, 3, none⟩ = some (.int .i64 x.gn) ∧ v1.cell? ⟨w.heap.size, 4, none⟩ = some (.int .i64 x.cp) ∧ v1.cell? ⟨w.heap.size, 5, none⟩ = some (.slice A n c) := ⟨J1.out.1.k.c0, J1.out.1.k.c1, J1.out.1.k.c2, J1.out.1.k.c3, J1.out.1.k.c4, J1.out.1.k.c5⟩
  clear hb1 hbb1 hv1
  refine hK.out _ _ s11 (fun hHeld => ?_)
  clear hK K'
  try simp only [Act.put, List.setIfInBounds_toArray, List.set_cons_zero, List.set_cons_succ]
  refine wpAnyH_ready (rs := [3]) (by kernel_rfl) (by simp) ?_
  refine AllReadyH.cons (o := { dst := some 25, op := Op.call { callee := Callee.builtin Builtin.append, args := #[Operand.tmp 23, Operand.tmp 24], argTypes := #[22, 22] }, type := 22, pos := "law.go:24", after := #[{ on := 1, ground := Ground.data }, { on := 2, ground := Ground.data }], guard := none }) rfl (fun K' hK => ?_) AllReadyH.nil
  refine step_app v1 bytesT rfl (.tmp 23) (.tmp 24) rfl w2.drew.heap.size _ 0 [] rfl O1.out D m e0 l rfl J1.out.1.d (by omega) J1.out.2.size ?_
  intro u2 v2 ho2 hb2 hg2
  rw [Nat.zero_add, List.nil_append] at ho2
  have hbb2 : Below w2.drew.heap.size w2.drew v2 := J1.out.2.trans hb2
  have O2 := Lib.hid ho2
  have J2 := Lib.hid (And.intro (H0.out.next hbb2) hbb2)
  have s12 : v2.cell? ⟨w.heap.size, 0, none⟩ = some (.int .i64 x.d) ∧ v2.cell? ⟨w.heap.size, 1, none⟩ = some (.bool x.lc) ∧ v2.cell? ⟨w.heap.size, 2, none⟩ = some (.int .i64 x.ix) ∧ v2.cell? ⟨w.heap.size, 3, none⟩ = some (.int .i64 x.gn) ∧ v2.cell? ⟨w.heap.size, 4, none⟩ = some (.int .i64 x.cp) ∧ v2.cell? ⟨w.heap.size, 5, none⟩ = some (.slice A n c) := ⟨J2.out.1.k.c0, J2.out.1.k.c1, J2.out.1.k.c2, J2.out.1.k.c3, J2.out.1.k.c4, J2.out.1.k.c5⟩
  clear ho2 hb2 hbb2 hg2
  refine hK.out _ _ s12 (fun hHeld => ?_)
  clear hK K'
  try simp only [Act.put, List.setIfInBounds_toArray, List.set_cons_zero, List.set_cons_succ]
  refine wpAnyH_ready (rs := [5]) (by kernel_rfl) (by simp) ?_
  refine AllReadyH.cons (o := { dst := some 27, op := Op.call { callee := Callee.value (Operand.func 9), args := #[Operand.tmp 26], argTypes := #[26] }, type := 22, pos := "law.go:24", after := #[{ on := 4, ground := Ground.data }, { on := 3, ground := Ground.chain }], guard := none }) rfl (fun K' hK => ?_) AllReadyH.nil
  go_simp
  go_at_call 9; refine (RBytesC_any x A n c v2 J2.out.1.k.rd (by omega)).mono ?_; rintro e v3 ⟨A7, n7, c7, rfl, hr3, hc3, hb3⟩
  have hbb3 : Below w2.drew.heap.size w2.drew v3 := (J2.out.2).trans (hb3.mono (J2.out.2).size)
  have R3 := Lib.hid hr3
  have O3 := Lib.hid (own_keep O2.out hb3)
  have J3 := Lib.hid (And.intro (H0.out.next hbb3) hbb3)
  have s13 : v3.cell? ⟨w.heap.size, 0, none⟩ = some (.int .i64 x.d) ∧ v3.cell? ⟨w.heap.size, 1, none⟩ = some (.bool x.lc) ∧ v3.cell? ⟨w.heap.size, 2, none⟩ = some (.int .i64 x.ix) ∧ v3.cell? ⟨w.heap.size, 3, none⟩ = some (.int .i64 x.gn) ∧ v3.cell? ⟨w.heap.size, 4, none⟩ = some (.int .i64 x.cp) ∧ v3.cell? ⟨w.heap.size, 5, none⟩ = some (.slice A n c) := ⟨J3.out.1.k.c0, J3.out.1.k.c1, J3.out.1.k.c2, J3.out.1.k.c3, J3.out.1.k.c4, J3.out.1.k.c5⟩
  clear hr3 hc3 hb3 hbb3
  refine hK.out _ _ s13 (fun hHeld => ?_)
  clear hK K'
  try simp only [Act.put, List.setIfInBounds_toArray, List.set_cons_zero, List.set_cons_succ]
  refine wpAnyH_ready (rs := [6]) (by kernel_rfl) (by simp) ?_
  refine AllReadyH.cons (o := { dst := some 28, op := Op.call { callee := Callee.builtin Builtin.append, args := #[Operand.tmp 25, Operand.tmp 27], argTypes := #[22, 22] }, type := 22, pos := "law.go:24", after := #[{ on := 3, ground := Ground.data }, { on := 5, ground := Ground.data }, { on := 5, ground := Ground.chain }], guard := none }) rfl (fun K' hK => ?_) AllReadyH.nil
  refine step_app v3 bytesT rfl (.tmp 25) (.tmp 27) rfl w2.drew.heap.size _ m (cells l) rfl O3.out A7 n7 c7 x.bytes rfl R3.out (by have := R3.out.1; have := LB.out; omega) J3.out.2.size ?_
  intro u4 v4 ho4 hb4 hg4
  rw [← cells_append] at ho4
  obtain ⟨A8, c8, hu8, _, _, hr8⟩ := Rd.of_own ho4 rfl
  subst hu8
  have hbb4 : Below w2.drew.heap.size w2.drew v4 := J3.out.2.trans hb4
  have R4 := Lib.hid hr8
  have J4 := Lib.hid (And.intro (H0.out.next hbb4) hbb4)
  have s14 : v4.cell? ⟨w.heap.size, 0, none⟩ = some (.int .i64 x.d) ∧ v4.cell? ⟨w.heap.size, 1, none⟩ = some (.bool x.lc) ∧ v4.cell? ⟨w.heap.size, 2, none⟩ = some (.int .i64 x.ix) ∧ v4.cell? ⟨w.heap.size, 3, none⟩ = some (.int .i64 x.gn) ∧ v4.cell? ⟨w.heap.size, 4, none⟩ = some (.int .i64 x.cp) ∧ v4.cell? ⟨w.heap.size, 5, none⟩ = some (.slice A n c) := ⟨J4.out.1.k.c0, J4.out.1.k.c1, J4.out.1.k.c2, J4.out.1.k.c3, J4.out.1.k.c4, J4.out.1.k.c5⟩
  clear ho4 hb4 hbb4 hg4 hr8
  refine hK.out _ _ s14 (fun hHeld => ?_)
  clear hK K'
  try simp only [Act.put, List.setIfInBounds_toArray, List.set_cons_zero, List.set_cons_succ]
  refine wpAnyH_ready (rs := [7]) (by kernel_rfl) (by simp) ?_
  refine AllReadyH.cons (o := { dst := some 29, op := Op.call { callee := Callee.value (Operand.func 8), args := #[Operand.tmp 22, Operand.tmp 28], argTypes := #[22, 22] }, type := 4, pos := "law.go:24", after := #[{ on := 0, ground := Ground.data }, { on := 6, ground := Ground.data }, { on := 6, ground := Ground.chain }], guard := none }) rfl (fun K' hK => ?_) AllReadyH.nil
  go_simp
  go_at_call 8; refine (Same_yes P A8 pn pc (m + n7) c8 _ v4 J4.out.1.p R4.out).mono ?_; rintro e w' ⟨rfl, hw'⟩; subst hw'
  refine hK.out _ _ s14 (fun hHeld => ?_)
  clear hK K'
  try simp only [Act.put, List.setIfInBounds_toArray, List.set_cons_zero, List.set_cons_succ]
  refine wpAnyH_take (i := 8) (oi := { dst := some 30, op := Op.unOp UnOp.not 4 (Operand.tmp 29), type := 4, pos := "law.go:24", after := #[{ on := 7, ground := Ground.data }], guard := none }) (v := ?_) rfl (by kernel_rfl) (by kernel_rfl) (by kernel_rfl) (fun _ _ _ h => h) (Or.inl ⟨by rfl, ?_⟩) (by assumption) ?_
  rotate_left 1
  · intro w' hSw; (try dsimp only at hSw); go_simp; (try with_reducible rfl)
  simp only [Act.put, List.setIfInBounds_toArray, List.set_cons_zero, List.set_cons_succ]
  refine wpAnyH_take (i := 9) (oi := { dst := some 31, op := Op.move (Operand.tmp 30), type := 4, pos := "law.go:24", after := #[{ on := 8, ground := Ground.data }, { on := 7, ground := Ground.chain }], guard := none }) (v := ?_) rfl (by kernel_rfl) (by kernel_rfl) (by kernel_rfl) (fun _ _ _ h => h) (Or.inl ⟨by rfl, ?_⟩) (by assumption) ?_
  rotate_left 1
  · intro w' hSw; (try dsimp only at hSw); go_simp; (try with_reducible rfl)
  simp only [Act.put, List.setIfInBounds_toArray, List.set_cons_zero, List.set_cons_succ]
  refine wpAnyH_take (i := 10) (oi := { dst := some 32, op := Op.load 26 (Operand.tmp 3), type := 26, pos := "law.go:24", after := #[{ on := 9, ground := Ground.guard }], guard := some (9, false) }) (v := ?_) rfl (by kernel_rfl) (by kernel_rfl) (by kernel_rfl) (fun _ _ _ h => h) (Or.inl ⟨by rfl, ?_⟩) (by assumption) ?_
  rotate_left 1
  · intro w' hSw; (try dsimp only at hSw); go_simp; (try with_reducible rfl)
  simp only [Act.put, List.setIfInBounds_toArray, List.set_cons_zero, List.set_cons_succ]
  refine wpAnyH_take (i := 12) (oi := { dst := some 34, op := Op.load 26 (Operand.tmp 3), type := 26, pos := "law.go:24", after := #[{ on := 9, ground := Ground.guard }], guard := some (9, false) }) (v := ?_) rfl (by kernel_rfl) (by kernel_rfl) (by kernel_rfl) (fun _ _ _ h => h) (Or.inl ⟨by rfl, ?_⟩) (by assumption) ?_
  rotate_left 1
  · intro w' hSw; (try dsimp only at hSw); go_simp; (try with_reducible rfl)
  simp only [Act.put, List.setIfInBounds_toArray, List.set_cons_zero, List.set_cons_succ]
  refine wpAnyH_ready (rs := [11]) (by kernel_rfl) (by simp) ?_
  refine AllReadyH.cons (o := { dst := some 33, op := Op.call { callee := Callee.value (Operand.func 11), args := #[Operand.tmp 32], argTypes := #[26] }, type := 26, pos := "law.go:24", after := #[{ on := 10, ground := Ground.data }, { on := 9, ground := Ground.chain }, { on := 9, ground := Ground.guard }], guard := some (9, false) }) rfl (fun K' hK => ?_) AllReadyH.nil
  go_simp
  go_at_call 11; refine (Plain_any x A n c v4 J4.out.1.k.rd (by omega)).mono ?_; rintro e v5 ⟨B1, m1, d1, rfl, hr5, hc5, hb5⟩
  have Q5 := Lib.hid hr5
  clear hr5 hc5
  have hbb5 : Below w2.drew.heap.size w2.drew v5 := J4.out.2.trans (hb5.mono J4.out.2.size)
  have J5 := Lib.hid (And.intro (H0.out.next hbb5) hbb5)
  have s15 : v5.cell? ⟨w.heap.size, 0, none⟩ = some (.int .i64 x.d) ∧ v5.cell? ⟨w.heap.size, 1, none⟩ = some (.bool x.lc) ∧ v5.cell? ⟨w.heap.size, 2, none⟩ = some (.int .i64 x.ix) ∧ v5.cell? ⟨w.heap.size, 3, none⟩ = some (.int .i64 x.gn) ∧ v5.cell? ⟨w.heap.size, 4, none⟩ = some (.int .i64 x.cp) ∧ v5.cell? ⟨w.heap.size, 5, none⟩ = some (.slice A n c) := ⟨J5.out.1.k.c0, J5.out.1.k.c1, J5.out.1.k.c2, J5.out.1.k.c3, J5.out.1.k.c4, J5.out.1.k.c5⟩
  clear hb5 hbb5
  refine hK.out _ _ s15 (fun hHeld => ?_)
  clear hK K'
  try simp only [Act.put, List.setIfInBounds_toArray, List.set_cons_zero, List.set_cons_succ]
  refine wpAnyH_ready (rs := [13]) (by kernel_rfl) (by simp) ?_
  refine AllReadyH.cons (o := { dst := some 35, op := Op.call { callee := Callee.value (Operand.func 12), args := #[Operand.tmp 34], argTypes := #[26] }, type := 26, pos := "law.go:24", after := #[{ on := 12, ground := Ground.data }, { on := 11, ground := Ground.chain }, { on := 9, ground := Ground.guard }], guard := some (9, false) }) rfl (fun K' hK => ?_) AllReadyH.nil
  go_simp
  go_at_call 12; refine (RPlain_any x A n c v5 J5.out.1.k.rd hnc).mono ?_; rintro e v6 ⟨B2, m2, d2, rfl, hr6, hc6, hb6⟩
  have CE := Exact_any x.plain x.plain B1 B2 m1 d1 m2 d2 v6 (Q5.out.below (Nat.le_refl _) hb6) hr6
  rw [Cd.eqB_self] at CE
  have CE2 := Lib.hid CE
  clear hr6 hc6 CE
  have hbb6 : Below w2.drew.heap.size w2.drew v6 := J5.out.2.trans (hb6.mono J5.out.2.size)
  have J6 := Lib.hid (And.intro (H0.out.next hbb6) hbb6)
  have s16 : v6.cell? ⟨w.heap.size, 0, none⟩ = some (.int .i64 x.d) ∧ v6.cell? ⟨w.heap.size, 1, none⟩ = some (.bool x.lc) ∧ v6.cell? ⟨w.heap.size, 2, none⟩ = some (.int .i64 x.ix) ∧ v6.cell? ⟨w.heap.size, 3, none⟩ = some (.int .i64 x.gn) ∧ v6.cell? ⟨w.heap.size, 4, none⟩ = some (.int .i64 x.cp) ∧ v6.cell? ⟨w.heap.size, 5, none⟩ = some (.slice A n c) := ⟨J6.out.1.k.c0, J6.out.1.k.c1, J6.out.1.k.c2, J6.out.1.k.c3, J6.out.1.k.c4, J6.out.1.k.c5⟩
  clear hb6 hbb6
  refine hK.out _ _ s16 (fun hHeld => ?_)
  clear hK K'
  try simp only [Act.put, List.setIfInBounds_toArray, List.set_cons_zero, List.set_cons_succ]
  refine wpAnyH_ready (rs := [14]) (by kernel_rfl) (by simp) ?_
  refine AllReadyH.cons (o := { dst := some 36, op := Op.call { callee := Callee.value (Operand.func 10), args := #[Operand.tmp 33, Operand.tmp 35], argTypes := #[26, 26] }, type := 4, pos := "law.go:24", after := #[{ on := 11, ground := Ground.data }, { on := 13, ground := Ground.data }, { on := 13, ground := Ground.chain }, { on := 9, ground := Ground.guard }], guard := some (9, false) }) rfl (fun K' hK => ?_) AllReadyH.nil
  go_simp
  go_at_call 10; refine CE2.out.mono ?_; rintro e v7 ⟨rfl, hb7⟩
  have hbb7 : Below w2.drew.heap.size w2.drew v7 := J6.out.2.trans (hb7.mono J6.out.2.size)
  have J7 := Lib.hid (And.intro (H0.out.next hbb7) hbb7)
  have s17 : v7.cell? ⟨w.heap.size, 0, none⟩ = some (.int .i64 x.d) ∧ v7.cell? ⟨w.heap.size, 1, none⟩ = some (.bool x.lc) ∧ v7.cell? ⟨w.heap.size, 2, none⟩ = some (.int .i64 x.ix) ∧ v7.cell? ⟨w.heap.size, 3, none⟩ = some (.int .i64 x.gn) ∧ v7.cell? ⟨w.heap.size, 4, none⟩ = some (.int .i64 x.cp) ∧ v7.cell? ⟨w.heap.size, 5, none⟩ = some (.slice A n c) := ⟨J7.out.1.k.c0, J7.out.1.k.c1, J7.out.1.k.c2, J7.out.1.k.c3, J7.out.1.k.c4, J7.out.1.k.c5⟩
  clear hb7 hbb7
  refine hK.out _ _ s17 (fun hHeld => ?_)
  clear hK K'
  try simp only [Act.put, List.setIfInBounds_toArray, List.set_cons_zero, List.set_cons_succ]
  refine wpAnyH_take (i := 15) (oi := { dst := some 37, op := Op.unOp UnOp.not 4 (Operand.tmp 36), type := 4, pos := "law.go:24", after := #[{ on := 14, ground := Ground.data }, { on := 9, ground := Ground.guard }], guard := some (9, false) }) (v := ?_) rfl (by kernel_rfl) (by kernel_rfl) (by kernel_rfl) (fun _ _ _ h => h) (Or.inl ⟨by rfl, ?_⟩) (by assumption) ?_
  rotate_left 1
  · intro w' hSw; (try dsimp only at hSw); go_simp; (try with_reducible rfl)
  simp only [Act.put, List.setIfInBounds_toArray, List.set_cons_zero, List.set_cons_succ]
  refine wpAnyH_take (i := 16) (oi := { dst := some 38, op := Op.pick (Operand.tmp 31) (Operand.const (Value.bool true)) (Operand.tmp 37), type := 4, pos := "law.go:24", after := #[{ on := 9, ground := Ground.data }, { on := 15, ground := Ground.data }], guard := none }) (v := ?_) rfl (by kernel_rfl) (by kernel_rfl) (by kernel_rfl) (fun _ _ _ h => h) (Or.inl ⟨by rfl, ?_⟩) (by assumption) ?_
  rotate_left 1
  · intro w' hSw; (try dsimp only at hSw); go_simp; (try with_reducible rfl)
  simp only [Act.put, List.setIfInBounds_toArray, List.set_cons_zero, List.set_cons_succ]
  refine wpAnyH_take (i := 17) (oi := { dst := some 39, op := Op.move (Operand.tmp 38), type := 4, pos := "law.go:24", after := #[{ on := 16, ground := Ground.data }, { on := 14, ground := Ground.chain }], guard := none }) (v := ?_) rfl (by kernel_rfl) (by kernel_rfl) (by kernel_rfl) (fun _ _ _ h => h) (Or.inl ⟨by rfl, ?_⟩) (by assumption) ?_
  rotate_left 1
  · intro w' hSw; (try dsimp only at hSw); go_simp; (try with_reducible rfl)
  simp only [Act.put, List.setIfInBounds_toArray, List.set_cons_zero, List.set_cons_succ]
  refine wpAnyH_take (i := 18) (oi := { dst := some 40, op := Op.load 26 (Operand.tmp 3), type := 26, pos := "law.go:24", after := #[{ on := 17, ground := Ground.guard }], guard := some (17, false) }) (v := ?_) rfl (by kernel_rfl) (by kernel_rfl) (by kernel_rfl) (fun _ _ _ h => h) (Or.inl ⟨by rfl, ?_⟩) (by assumption) ?_
  rotate_left 1
  · intro w' hSw; (try dsimp only at hSw); go_simp; (try with_reducible rfl)
  simp only [Act.put, List.setIfInBounds_toArray, List.set_cons_zero, List.set_cons_succ]
  refine wpAnyH_take (i := 21) (oi := { dst := some 43, op := Op.load 26 (Operand.tmp 3), type := 26, pos := "law.go:24", after := #[{ on := 17, ground := Ground.guard }], guard := some (17, false) }) (v := ?_) rfl (by kernel_rfl) (by kernel_rfl) (by kernel_rfl) (fun _ _ _ h => h) (Or.inl ⟨by rfl, ?_⟩) (by assumption) ?_
  rotate_left 1
  · intro w' hSw; (try dsimp only at hSw); go_simp; (try with_reducible rfl)
  simp only [Act.put, List.setIfInBounds_toArray, List.set_cons_zero, List.set_cons_succ]
  refine wpAnyH_ready (rs := [19]) (by kernel_rfl) (by simp) ?_
  refine AllReadyH.cons (o := { dst := some 41, op := Op.call { callee := Callee.value (Operand.func 14), args := #[Operand.tmp 40], argTypes := #[26] }, type := 34, pos := "law.go:24", after := #[{ on := 18, ground := Ground.data }, { on := 17, ground := Ground.chain }, { on := 17, ground := Ground.guard }], guard := some (17, false) }) rfl (fun K' hK => ?_) AllReadyH.nil
  go_simp
  go_at_call 14; refine (Check_any x A n c v7 J7.out.1.k.rd (by omega)).mono ?_; rintro e v8 ⟨rfl, hb8⟩
  have hbb8 : Below w2.drew.heap.size w2.drew v8 := J7.out.2.trans (hb8.mono J7.out.2.size)
  have J8 := Lib.hid (And.intro (H0.out.next hbb8) hbb8)
  have s18 : v8.cell? ⟨w.heap.size, 0, none⟩ = some (.int .i64 x.d) ∧ v8.cell? ⟨w.heap.size, 1, none⟩ = some (.bool x.lc) ∧ v8.cell? ⟨w.heap.size, 2, none⟩ = some (.int .i64 x.ix) ∧ v8.cell? ⟨w.heap.size, 3, none⟩ = some (.int .i64 x.gn) ∧ v8.cell? ⟨w.heap.size, 4, none⟩ = some (.int .i64 x.cp) ∧ v8.cell? ⟨w.heap.size, 5, none⟩ = some (.slice A n c) := ⟨J8.out.1.k.c0, J8.out.1.k.c1, J8.out.1.k.c2, J8.out.1.k.c3, J8.out.1.k.c4, J8.out.1.k.c5⟩
  clear hb8 hbb8
  refine hK.out _ _ s18 (fun hHeld => ?_)
  clear hK K'
  try simp only [Act.put, List.setIfInBounds_toArray, List.set_cons_zero, List.set_cons_succ]
  refine wpAnyH_ready (rs := [20]) (by kernel_rfl) (by simp) ?_
  refine AllReadyH.cons (o := { dst := some 42, op := Op.call { callee := Callee.value (Operand.func 13), args := #[Operand.tmp 41], argTypes := #[34] }, type := 3, pos := "law.go:24", after := #[{ on := 19, ground := Ground.data }, { on := 19, ground := Ground.chain }, { on := 17, ground := Ground.guard }], guard := some (17, false) }) rfl (fun K' hK => ?_) AllReadyH.nil
  go_simp
  go_at_call 13; refine (code_any _ _).mono ?_; rintro e w' ⟨rfl, hw'⟩; subst hw'
  refine hK.out _ _ s18 (fun hHeld => ?_)
  clear hK K'
  try simp only [Act.put, List.setIfInBounds_toArray, List.set_cons_zero, List.set_cons_succ]
  refine wpAnyH_ready (rs := [22]) (by kernel_rfl) (by simp) ?_
  refine AllReadyH.cons (o := { dst := some 44, op := Op.call { callee := Callee.value (Operand.func 15), args := #[Operand.tmp 43], argTypes := #[26] }, type := 3, pos := "law.go:24", after := #[{ on := 21, ground := Ground.data }, { on := 20, ground := Ground.chain }, { on := 17, ground := Ground.guard }], guard := some (17, false) }) rfl (fun K' hK => ?_) AllReadyH.nil
  go_simp
  go_at_call 15; refine (RCheck_any x A n c v8 J8.out.1.k.rd (by omega)).mono ?_; rintro e v9 ⟨rfl, hb9⟩
  have hbb9 : Below w2.drew.heap.size w2.drew v9 := J8.out.2.trans (hb9.mono J8.out.2.size)
  have J9 := Lib.hid (And.intro (H0.out.next hbb9) hbb9)
  have s19 : v9.cell? ⟨w.heap.size, 0, none⟩ = some (.int .i64 x.d) ∧ v9.cell? ⟨w.heap.size, 1, none⟩ = some (.bool x.lc) ∧ v9.cell? ⟨w.heap.size, 2, none⟩ = some (.int .i64 x.ix) ∧ v9.cell? ⟨w.heap.size, 3, none⟩ = some (.int .i64 x.gn) ∧ v9.cell? ⟨w.heap.size, 4, none⟩ = some (.int .i64 x.cp) ∧ v9.cell? ⟨w.heap.size, 5, none⟩ = some (.slice A n c) := ⟨J9.out.1.k.c0, J9.out.1.k.c1, J9.out.1.k.c2, J9.out.1.k.c3, J9.out.1.k.c4, J9.out.1.k.c5⟩
  clear hb9 hbb9
  refine hK.out _ _ s19 (fun hHeld => ?_)
  clear hK K'
  try simp only [Act.put, List.setIfInBounds_toArray, List.set_cons_zero, List.set_cons_succ]
  refine wpAnyH_take (i := 23) (oi := { dst := some 45, op := Op.binOp BinOp.neq 3 (Operand.tmp 42) (Operand.tmp 44) 3, type := 4, pos := "law.go:24", after := #[{ on := 20, ground := Ground.data }, { on := 22, ground := Ground.data }, { on := 17, ground := Ground.guard }], guard := some (17, false) }) (v := ?_) rfl (by kernel_rfl) (by kernel_rfl) (by kernel_rfl) (fun _ _ _ h => h) (Or.inl ⟨by rfl, ?_⟩) (by assumption) ?_
  rotate_left 1
  · intro w' hSw; (try dsimp only at hSw); go_simp; (try with_reducible rfl)
  simp only [Act.put, List.setIfInBounds_toArray, List.set_cons_zero, List.set_cons_succ]
  refine wpAnyH_take (i := 24) (oi := { dst := some 46, op := Op.pick (Operand.tmp 39) (Operand.const (Value.bool true)) (Operand.tmp 45), type := 4, pos := "law.go:24", after := #[{ on := 17, ground := Ground.data }, { on := 23, ground := Ground.data }], guard := none }) (v := ?_) rfl (by kernel_rfl) (by kernel_rfl) (by kernel_rfl) (fun _ _ _ h => h) (Or.inl ⟨by rfl, ?_⟩) (by assumption) ?_
  rotate_left 1
  · intro w' hSw; (try dsimp only at hSw); go_simp; (try with_reducible rfl)
  simp only [Act.put, List.setIfInBounds_toArray, List.set_cons_zero, List.set_cons_succ]
  refine wpAnyH_done (by kernel_rfl) ?_ _
  refine NoPanic.normal ?_
  clear hHeld s10 s11 s12 s13 s14 s15 s16 s17 s18 s19
  by_cases hck : x.check = 0
  rotate_left 1
  · have hne : (x.check != 0) = true := bne_iff_ne.2 hck
    obtain ⟨ck, hck'⟩ : ∃ q, q = x.check := ⟨_, rfl⟩
    have RK := Lib.hid (RCheck_any x A n c v9 J9.out.1.k.rd (by omega))
    rw [← hck'] at hne RK
    have HC := Lib.hid hck'
    clear hck hck'
    go_wp2_with (first
      | ((with_reducible refine wpList_ldS cdT rfl rfl (.tmp 3) rfl rfl J9.out.1.k.r ?_))
      | (go_at_call 15; refine RK.out.mono ?_; rintro e wa ⟨rfl, hba⟩; have HBA := Lib.hid ((J9.out.1.k.bel).trans (hba.mono J9.out.1.k.bel.size)); clear hba)
      | (go_at_call 6; refine (live_any wa).mono ?_; rintro e wb ⟨rfl, hbb⟩))
    go_ret
    exact ⟨rfl, HBA.out.trans (hbb.mono HBA.out.size)⟩
  have RK := RCheck_any x A n c v9 J9.out.1.k.rd (by omega)
  rw [hck] at RK
  have RK2 := Lib.hid RK
  have hgp := hgp0.out hck
  rw [H2.out.p.1] at hgp
  have HGP := Lib.hid hgp
  clear RK hck hgp
  go_upto_region 9 with (first
    | ((with_reducible refine wpList_ldS cdT rfl rfl (.tmp 3) rfl rfl J9.out.1.k.r ?_))
    | (go_at_call 15; refine RK2.out.mono ?_; rintro e wa ⟨rfl, hba⟩; have JA := Lib.hid (J9.out.1.next hba); clear hba)
    | (go_at_call 16; have _t := JA; refine (CGet_any P pn pc (l ++ x.bytes) wa (m : Int) JA.out.p (by have := JA.out.p.1; simp only [List.length_append] at this; have := LB.out; have := HML.out; omega) HPC.out.1 (by have := HPC.out.2; unfold maxLen at this; omega)).mono ?_; intro e wg hge
       rw [HGP.out] at hge
       obtain ⟨A6, n6, c6, rfl, hr6, hc6, hb6⟩ := hge
       obtain ⟨wh, hwh⟩ : ∃ v, v = wg.alloc (.cells (x.plain.cs A6 n6 c6) 26) := ⟨_, rfl⟩
       have hbh : Below wg.heap.size wg wh := by rw [hwh]; exact (Below.refl _ _).alloc (Nat.le_refl _) _
       have JH := Lib.hid (And.intro (JA.out.next (hb6.trans (hbh.mono hb6.size))) (And.intro (show Rec 26 wh wg.heap.size (x.plain.cs A6 n6 c6) by rw [hwh]; exact Rec.new wg _ _) (hr6.below (Nat.le_refl _) hbh)))
       obtain ⟨g6, hg6⟩ : ∃ g, g = wg.heap.size := ⟨_, rfl⟩
       rw [← hg6] at JH
       have G6 := Lib.hid hg6
       clear hr6 hc6 hb6 hbh hg6)
    | (rw [← hwh, ← G6.out]; clear hwh))
  have D9 := Lib.hid (show PW w wh.drew x A n c D m l P pn ∧ Rec 26 wh.drew g6 (x.plain.cs A6 n6 c6) ∧ Rd wh.drew A6 n6 x.plain.dt from ⟨JH.out.1.next (Below.refl _ _).drew, JH.out.2.1, JH.out.2.2⟩)
  have s50 : wh.drew.cell? ⟨w.heap.size, 0, none⟩ = some (.int .i64 x.d) ∧ wh.drew.cell? ⟨w.heap.size, 1, none⟩ = some (.bool x.lc) ∧ wh.drew.cell? ⟨w.heap.size, 2, none⟩ = some (.int .i64 x.ix) ∧ wh.drew.cell? ⟨w.heap.size, 3, none⟩ = some (.int .i64 x.gn) ∧ wh.drew.cell? ⟨w.heap.size, 4, none⟩ = some (.int .i64 x.cp) ∧ wh.drew.cell? ⟨w.heap.size, 5, none⟩ = some (.slice A n c) ∧ wh.drew.cell? ⟨g6, 0, none⟩ = some (.int .i64 x.plain.d) ∧ wh.drew.cell? ⟨g6, 1, none⟩ = some (.bool x.plain.lc) ∧ wh.drew.cell? ⟨g6, 2, none⟩ = some (.int .i64 x.plain.ix) ∧ wh.drew.cell? ⟨g6, 3, none⟩ = some (.int .i64 x.plain.gn) ∧ wh.drew.cell? ⟨g6, 4, none⟩ = some (.int .i64 x.plain.cp) ∧ wh.drew.cell? ⟨g6, 5, none⟩ = some (.slice A6 n6 c6) := ⟨D9.out.1.k.c0, D9.out.1.k.c1, D9.out.1.k.c2, D9.out.1.k.c3, D9.out.1.k.c4, D9.out.1.k.c5, D9.out.2.1.at_ 0, D9.out.2.1.at_ 1, D9.out.2.1.at_ 2, D9.out.2.1.at_ 3, D9.out.2.1.at_ 4, D9.out.2.1.at_ 5⟩
  refine wp_region_noPanic ?_
  refine wp_region_held_drew (S := fun W => W.cell? ⟨w.heap.size, 0, none⟩ = some (.int .i64 x.d) ∧ W.cell? ⟨w.heap.size, 1, none⟩ = some (.bool x.lc) ∧ W.cell? ⟨w.heap.size, 2, none⟩ = some (.int .i64 x.ix) ∧ W.cell? ⟨w.heap.size, 3, none⟩ = some (.int .i64 x.gn) ∧ W.cell? ⟨w.heap.size, 4, none⟩ = some (.int .i64 x.cp) ∧ W.cell? ⟨w.heap.size, 5, none⟩ = some (.slice A n c) ∧ W.cell? ⟨g6, 0, none⟩ = some (.int .i64 x.plain.d) ∧ W.cell? ⟨g6, 1, none⟩ = some (.bool x.plain.lc) ∧ W.cell? ⟨g6, 2, none⟩ = some (.int .i64 x.plain.ix) ∧ W.cell? ⟨g6, 3, none⟩ = some (.int .i64 x.plain.gn) ∧ W.cell? ⟨g6, 4, none⟩ = some (.int .i64 x.plain.cp) ∧ W.cell? ⟨g6, 5, none⟩ = some (.slice A6 n6 c6)) (by kernel_rfl) s50 (fun hHeld => ?_)
  refine wpAnyH_take (i := 0) (oi := { dst := some 59, op := Op.load 26 (Operand.tmp 6), type := 26, pos := "law.go:31", after := #[], guard := none }) (v := ?_) rfl (by kernel_rfl) (by kernel_rfl) (by kernel_rfl) (fun _ _ _ h => h) (Or.inl ⟨by rfl, ?_⟩) (by assumption) ?_
  rotate_left 1
  · intro w' hSw; (try dsimp only at hSw); go_simp; (try with_reducible rfl)
  simp only [Act.put, List.setIfInBounds_toArray, List.set_cons_zero, List.set_cons_succ]
  refine wpAnyH_take (i := 1) (oi := { dst := some 60, op := Op.load 26 (Operand.tmp 3), type := 26, pos := "law.go:31", after := #[], guard := none }) (v := ?_) rfl (by kernel_rfl) (by kernel_rfl) (by kernel_rfl) (fun _ _ _ h => h) (Or.inl ⟨by rfl, ?_⟩) (by assumption) ?_
  rotate_left 1
  · intro w' hSw; (try dsimp only at hSw); go_simp; (try with_reducible rfl)
  simp only [Act.put, List.setIfInBounds_toArray, List.set_cons_zero, List.set_cons_succ]
  refine wpAnyH_ready (rs := [2]) (by kernel_rfl) (by simp) ?_
  refine AllReadyH.cons (o := { dst := some 61, op := Op.call { callee := Callee.value (Operand.func 12), args := #[Operand.tmp 60], argTypes := #[26] }, type := 26, pos := "law.go:31", after := #[{ on := 1, ground := Ground.data }], guard := none }) rfl (fun K' hK => ?_) AllReadyH.nil
  go_simp
  go_at_call 12; refine (RPlain_any x A n c wh.drew D9.out.1.k.rd hnc).mono ?_; rintro e wi ⟨A10, n10, c10, rfl, hr10, _, hb10⟩
  have DI := Lib.hid (And.intro (D9.out.1.next hb10) (And.intro (D9.out.2.1.under hb10) (And.intro (D9.out.2.2.below (Nat.le_refl _) hb10) hr10)))
  have s51 : wi.cell? ⟨w.heap.size, 0, none⟩ = some (.int .i64 x.d) ∧ wi.cell? ⟨w.heap.size, 1, none⟩ = some (.bool x.lc) ∧ wi.cell? ⟨w.heap.size, 2, none⟩ = some (.int .i64 x.ix) ∧ wi.cell? ⟨w.heap.size, 3, none⟩ = some (.int .i64 x.gn) ∧ wi.cell? ⟨w.heap.size, 4, none⟩ = some (.int .i64 x.cp) ∧ wi.cell? ⟨w.heap.size, 5, none⟩ = some (.slice A n c) ∧ wi.cell? ⟨g6, 0, none⟩ = some (.int .i64 x.plain.d) ∧ wi.cell? ⟨g6, 1, none⟩ = some (.bool x.plain.lc) ∧ wi.cell? ⟨g6, 2, none⟩ = some (.int .i64 x.plain.ix) ∧ wi.cell? ⟨g6, 3, none⟩ = some (.int .i64 x.plain.gn) ∧ wi.cell? ⟨g6, 4, none⟩ = some (.int .i64 x.plain.cp) ∧ wi.cell? ⟨g6, 5, none⟩ = some (.slice A6 n6 c6) := ⟨DI.out.1.k.c0, DI.out.1.k.c1, DI.out.1.k.c2, DI.out.1.k.c3, DI.out.1.k.c4, DI.out.1.k.c5, DI.out.2.1.at_ 0, DI.out.2.1.at_ 1, DI.out.2.1.at_ 2, DI.out.2.1.at_ 3, DI.out.2.1.at_ 4, DI.out.2.1.at_ 5⟩
  have CX := Exact_any x.plain x.plain A6 A10 n6 c6 n10 c10 wi DI.out.2.2.1 hr10
  rw [Cd.eqB_self] at CX
  have CX2 := Lib.hid CX
  clear hr10 hb10 CX
  refine hK.out _ _ s51 (fun hHeld => ?_)
  clear hK K'
  try simp only [Act.put, List.setIfInBounds_toArray, List.set_cons_zero, List.set_cons_succ]
  refine wpAnyH_ready (rs := [3]) (by kernel_rfl) (by simp) ?_
  refine AllReadyH.cons (o := { dst := some 62, op := Op.call { callee := Callee.value (Operand.func 10), args := #[Operand.tmp 59, Operand.tmp 61], argTypes := #[26, 26] }, type := 4, pos := "law.go:31", after := #[{ on := 0, ground := Ground.data }, { on := 2, ground := Ground.data }, { on := 2, ground := Ground.chain }], guard := none }) rfl (fun K' hK => ?_) AllReadyH.nil
  go_simp
  go_at_call 10; refine CX2.out.mono ?_; rintro e wj ⟨rfl, hbj⟩
  have DJ := Lib.hid (And.intro (DI.out.1.next hbj) (DI.out.2.1.under hbj))
  have s52 : wj.cell? ⟨w.heap.size, 0, none⟩ = some (.int .i64 x.d) ∧ wj.cell? ⟨w.heap.size, 1, none⟩ = some (.bool x.lc) ∧ wj.cell? ⟨w.heap.size, 2, none⟩ = some (.int .i64 x.ix) ∧ wj.cell? ⟨w.heap.size, 3, none⟩ = some (.int .i64 x.gn) ∧ wj.cell? ⟨w.heap.size, 4, none⟩ = some (.int .i64 x.cp) ∧ wj.cell? ⟨w.heap.size, 5, none⟩ = some (.slice A n c) ∧ wj.cell? ⟨g6, 0, none⟩ = some (.int .i64 x.plain.d) ∧ wj.cell? ⟨g6, 1, none⟩ = some (.bool x.plain.lc) ∧ wj.cell? ⟨g6, 2, none⟩ = some (.int .i64 x.plain.ix) ∧ wj.cell? ⟨g6, 3, none⟩ = some (.int .i64 x.plain.gn) ∧ wj.cell? ⟨g6, 4, none⟩ = some (.int .i64 x.plain.cp) ∧ wj.cell? ⟨g6, 5, none⟩ = some (.slice A6 n6 c6) := ⟨DJ.out.1.k.c0, DJ.out.1.k.c1, DJ.out.1.k.c2, DJ.out.1.k.c3, DJ.out.1.k.c4, DJ.out.1.k.c5, DJ.out.2.at_ 0, DJ.out.2.at_ 1, DJ.out.2.at_ 2, DJ.out.2.at_ 3, DJ.out.2.at_ 4, DJ.out.2.at_ 5⟩
  clear hbj CX2
  refine hK.out _ _ s52 (fun hHeld => ?_)
  clear hK K'
  try simp only [Act.put, List.setIfInBounds_toArray, List.set_cons_zero, List.set_cons_succ]
  refine wpAnyH_take (i := 4) (oi := { dst := some 63, op := Op.move (Operand.tmp 62), type := 4, pos := "law.go:31", after := #[{ on := 3, ground := Ground.data }, { on := 3, ground := Ground.chain }], guard := none }) (v := ?_) rfl (by kernel_rfl) (by kernel_rfl) (by kernel_rfl) (fun _ _ _ h => h) (Or.inl ⟨by rfl, ?_⟩) (by assumption) ?_
  rotate_left 1
  · intro w' hSw; (try dsimp only at hSw); go_simp; (try with_reducible rfl)
  simp only [Act.put, List.setIfInBounds_toArray, List.set_cons_zero, List.set_cons_succ]
  refine wpAnyH_take (i := 5) (oi := { dst := some 64, op := Op.move (Operand.tmp 7), type := 3, pos := "law.go:31", after := #[{ on := 4, ground := Ground.guard }], guard := some (4, true) }) (v := ?_) rfl (by kernel_rfl) (by kernel_rfl) (by kernel_rfl) (fun _ _ _ h => h) (Or.inl ⟨by rfl, ?_⟩) (by assumption) ?_
  rotate_left 1
  · intro w' hSw; (try dsimp only at hSw); go_simp; (try with_reducible rfl)
  simp only [Act.put, List.setIfInBounds_toArray, List.set_cons_zero, List.set_cons_succ]
  refine wpAnyH_take (i := 6) (oi := { dst := some 65, op := Op.move (Operand.tmp 5), type := 22, pos := "law.go:31", after := #[{ on := 4, ground := Ground.guard }], guard := some (4, true) }) (v := ?_) rfl (by kernel_rfl) (by kernel_rfl) (by kernel_rfl) (fun _ _ _ h => h) (Or.inl ⟨by rfl, ?_⟩) (by assumption) ?_
  rotate_left 1
  · intro w' hSw; (try dsimp only at hSw); go_simp; (try with_reducible rfl)
  simp only [Act.put, List.setIfInBounds_toArray, List.set_cons_zero, List.set_cons_succ]
  refine wpAnyH_take (i := 7) (oi := { dst := some 66, op := Op.call { callee := Callee.builtin Builtin.len, args := #[Operand.tmp 65], argTypes := #[22] }, type := 3, pos := "law.go:31", after := #[{ on := 6, ground := Ground.data }, { on := 4, ground := Ground.guard }], guard := some (4, true) }) (v := ?_) rfl (by kernel_rfl) (by kernel_rfl) (by kernel_rfl) (fun _ _ _ h => h) (Or.inl ⟨by rfl, ?_⟩) (by assumption) ?_
  rotate_left 1
  · intro w' hSw; (try dsimp only at hSw); go_simp; (try with_reducible rfl)
  simp only [Act.put, List.setIfInBounds_toArray, List.set_cons_zero, List.set_cons_succ]
  refine wpAnyH_take (i := 8) (oi := { dst := some 67, op := Op.binOp BinOp.eql 3 (Operand.tmp 64) (Operand.tmp 66) 3, type := 4, pos := "law.go:31", after := #[{ on := 5, ground := Ground.data }, { on := 7, ground := Ground.data }, { on := 4, ground := Ground.guard }], guard := some (4, true) }) (v := ?_) rfl (by kernel_rfl) (by kernel_rfl) (by kernel_rfl) (fun _ _ _ h => h) (Or.inl ⟨by rfl, ?_⟩) (by assumption) ?_
  rotate_left 1
  · intro w' hSw; (try dsimp only at hSw); go_simp; (try with_reducible rfl)
  simp only [Act.put, List.setIfInBounds_toArray, List.set_cons_zero, List.set_cons_succ]
  refine wpAnyH_take (i := 9) (oi := { dst := some 68, op := Op.pick (Operand.tmp 63) (Operand.tmp 67) (Operand.const (Value.bool false)), type := 4, pos := "law.go:31", after := #[{ on := 4, ground := Ground.data }, { on := 8, ground := Ground.data }], guard := none }) (v := ?_) rfl (by kernel_rfl) (by kernel_rfl) (by kernel_rfl) (fun _ _ _ h => h) (Or.inl ⟨by rfl, ?_⟩) (by assumption) ?_
  rotate_left 1
  · intro w' hSw; (try dsimp only at hSw); go_simp; (try with_reducible rfl)
  simp only [Act.put, List.setIfInBounds_toArray, List.set_cons_zero, List.set_cons_succ]
  refine wpAnyH_take (i := 10) (oi := { dst := some 69, op := Op.move (Operand.tmp 68), type := 4, pos := "law.go:31", after := #[{ on := 9, ground := Ground.data }, { on := 4, ground := Ground.chain }], guard := none }) (v := ?_) rfl (by kernel_rfl) (by kernel_rfl) (by kernel_rfl) (fun _ _ _ h => h) (Or.inl ⟨by rfl, ?_⟩) (by assumption) ?_
  rotate_left 1
  · intro w' hSw; (try dsimp only at hSw); go_simp; (try with_reducible rfl)
  simp only [Act.put, List.setIfInBounds_toArray, List.set_cons_zero, List.set_cons_succ]
  refine wpAnyH_take (i := 11) (oi := { dst := some 70, op := Op.move (Operand.tmp 8), type := 34, pos := "law.go:31", after := #[{ on := 10, ground := Ground.guard }], guard := some (10, true) }) (v := ?_) rfl (by kernel_rfl) (by kernel_rfl) (by kernel_rfl) (fun _ _ _ h => h) (Or.inl ⟨by rfl, ?_⟩) (by assumption) ?_
  rotate_left 1
  · intro w' hSw; (try dsimp only at hSw); go_simp; (try with_reducible rfl)
  simp only [Act.put, List.setIfInBounds_toArray, List.set_cons_zero, List.set_cons_succ]
  refine wpAnyH_ready (rs := [12]) (by kernel_rfl) (by simp) ?_
  refine AllReadyH.cons (o := { dst := some 71, op := Op.call { callee := Callee.value (Operand.func 13), args := #[Operand.tmp 70], argTypes := #[34] }, type := 3, pos := "law.go:31", after := #[{ on := 11, ground := Ground.data }, { on := 10, ground := Ground.chain }, { on := 10, ground := Ground.guard }], guard := some (10, true) }) rfl (fun K' hK => ?_) AllReadyH.nil
  go_simp
  go_at_call 13; refine (code_any _ _).mono ?_; rintro e w' ⟨rfl, hw'⟩; subst hw'
  refine hK.out _ _ s52 (fun hHeld => ?_)
  clear hK K'
  try simp only [Act.put, List.setIfInBounds_toArray, List.set_cons_zero, List.set_cons_succ]
  refine wpAnyH_take (i := 13) (oi := { dst := some 72, op := Op.binOp BinOp.eql 3 (Operand.tmp 71) (Operand.const (Value.int IntKind.i64 0)) 3, type := 4, pos := "law.go:31", after := #[{ on := 12, ground := Ground.data }, { on := 10, ground := Ground.guard }], guard := some (10, true) }) (v := ?_) rfl (by kernel_rfl) (by kernel_rfl) (by kernel_rfl) (fun _ _ _ h => h) (Or.inl ⟨by rfl, ?_⟩) (by assumption) ?_
  rotate_left 1
  · intro w' hSw; (try dsimp only at hSw); go_simp; (try with_reducible rfl)
  simp only [Act.put, List.setIfInBounds_toArray, List.set_cons_zero, List.set_cons_succ]
  refine wpAnyH_take (i := 14) (oi := { dst := some 73, op := Op.pick (Operand.tmp 69) (Operand.tmp 72) (Operand.const (Value.bool false)), type := 4, pos := "law.go:31", after := #[{ on := 10, ground := Ground.data }, { on := 13, ground := Ground.data }], guard := none }) (v := ?_) rfl (by kernel_rfl) (by kernel_rfl) (by kernel_rfl) (fun _ _ _ h => h) (Or.inl ⟨by rfl, ?_⟩) (by assumption) ?_
  rotate_left 1
  · intro w' hSw; (try dsimp only at hSw); go_simp; (try with_reducible rfl)
  simp only [Act.put, List.setIfInBounds_toArray, List.set_cons_zero, List.set_cons_succ]
  refine wpAnyH_take (i := 15) (oi := { dst := some 74, op := Op.move (Operand.tmp 73), type := 4, pos := "law.go:31", after := #[{ on := 14, ground := Ground.data }, { on := 12, ground := Ground.chain }], guard := none }) (v := ?_) rfl (by kernel_rfl) (by kernel_rfl) (by kernel_rfl) (fun _ _ _ h => h) (Or.inl ⟨by rfl, ?_⟩) (by assumption) ?_
  rotate_left 1
  · intro w' hSw; (try dsimp only at hSw); go_simp; (try with_reducible rfl)
  simp only [Act.put, List.setIfInBounds_toArray, List.set_cons_zero, List.set_cons_succ]
  refine wpAnyH_ready (rs := [16]) (by kernel_rfl) (by simp) ?_
  refine AllReadyH.cons (o := { dst := some 75, op := Op.call { callee := Callee.value (Operand.func 6), args := #[], argTypes := #[] }, type := 4, pos := "law.go:31", after := #[{ on := 15, ground := Ground.chain }, { on := 15, ground := Ground.guard }], guard := some (15, true) }) rfl (fun K' hK => ?_) AllReadyH.nil
  go_simp
  go_at_call 6; refine (live_any wj).mono ?_; rintro e wk ⟨rfl, hbk⟩
  have DK := Lib.hid (And.intro (DJ.out.1.next hbk) (DJ.out.2.under hbk))
  have s53 : wk.cell? ⟨w.heap.size, 0, none⟩ = some (.int .i64 x.d) ∧ wk.cell? ⟨w.heap.size, 1, none⟩ = some (.bool x.lc) ∧ wk.cell? ⟨w.heap.size, 2, none⟩ = some (.int .i64 x.ix) ∧ wk.cell? ⟨w.heap.size, 3, none⟩ = some (.int .i64 x.gn) ∧ wk.cell? ⟨w.heap.size, 4, none⟩ = some (.int .i64 x.cp) ∧ wk.cell? ⟨w.heap.size, 5, none⟩ = some (.slice A n c) ∧ wk.cell? ⟨g6, 0, none⟩ = some (.int .i64 x.plain.d) ∧ wk.cell? ⟨g6, 1, none⟩ = some (.bool x.plain.lc) ∧ wk.cell? ⟨g6, 2, none⟩ = some (.int .i64 x.plain.ix) ∧ wk.cell? ⟨g6, 3, none⟩ = some (.int .i64 x.plain.gn) ∧ wk.cell? ⟨g6, 4, none⟩ = some (.int .i64 x.plain.cp) ∧ wk.cell? ⟨g6, 5, none⟩ = some (.slice A6 n6 c6) := ⟨DK.out.1.k.c0, DK.out.1.k.c1, DK.out.1.k.c2, DK.out.1.k.c3, DK.out.1.k.c4, DK.out.1.k.c5, DK.out.2.at_ 0, DK.out.2.at_ 1, DK.out.2.at_ 2, DK.out.2.at_ 3, DK.out.2.at_ 4, DK.out.2.at_ 5⟩
  clear hbk
  refine hK.out _ _ s53 (fun hHeld => ?_)
  clear hK K'
  try simp only [Act.put, List.setIfInBounds_toArray, List.set_cons_zero, List.set_cons_succ]
  refine wpAnyH_take (i := 17) (oi := { dst := some 76, op := Op.pick (Operand.tmp 74) (Operand.tmp 75) (Operand.const (Value.bool false)), type := 4, pos := "law.go:31", after := #[{ on := 15, ground := Ground.data }, { on := 16, ground := Ground.data }], guard := none }) (v := ?_) rfl (by kernel_rfl) (by kernel_rfl) (by kernel_rfl) (fun _ _ _ h => h) (Or.inl ⟨by rfl, ?_⟩) (by assumption) ?_
  rotate_left 1
  · intro w' hSw; (try dsimp only at hSw); go_simp; (try with_reducible rfl)
  simp only [Act.put, List.setIfInBounds_toArray, List.set_cons_zero, List.set_cons_succ]
  refine wpAnyH_take (i := 18) (oi := { dst := some 4, op := Op.assign (Operand.tmp 76), type := 4, pos := "law.go:31", after := #[{ on := 17, ground := Ground.data }, { on := 16, ground := Ground.chain }, { on := 0, ground := Ground.phase }, { on := 1, ground := Ground.phase }, { on := 2, ground := Ground.phase }, { on := 3, ground := Ground.phase }, { on := 4, ground := Ground.phase }, { on := 5, ground := Ground.phase }, { on := 6, ground := Ground.phase }, { on := 7, ground := Ground.phase }, { on := 8, ground := Ground.phase }, { on := 9, ground := Ground.phase }, { on := 10, ground := Ground.phase }, { on := 11, ground := Ground.phase }, { on := 12, ground := Ground.phase }, { on := 13, ground := Ground.phase }, { on := 14, ground := Ground.phase }, { on := 15, ground := Ground.phase }, { on := 16, ground := Ground.phase }, { on := 17, ground := Ground.phase }], guard := none }) (v := ?_) rfl (by kernel_rfl) (by kernel_rfl) (by kernel_rfl) (fun _ _ _ h => h) (Or.inl ⟨by rfl, ?_⟩) (by assumption) ?_
  rotate_left 1
  · intro w' hSw; (try dsimp only at hSw); go_simp; (try with_reducible rfl)
  simp only [Act.put, List.setIfInBounds_toArray, List.set_cons_zero, List.set_cons_succ]
  refine wpAnyH_done (by kernel_rfl) ?_ _
  refine NoPanic.normal ?_
  clear hHeld s50 s51 s52 s53
  go_wp2
  go_ret
  exact ⟨rfl, DK.out.1.k.bel⟩
end
end Go.Proofs.Ytieinkndcbobfaa
