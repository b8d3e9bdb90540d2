/- The reference's Go: a row added; each step in one contract. -/
import Derived.Test.YtlblbhndfclhnaaClR4
namespace Go.Proofs.Ytlblbhndfclhnaa
open Go.RowKit

section
variable {K : Nat → Prop} {s : Co} {A : Option Addr} {n c : Nat} {w : World}
set_option maxRecDepth 20000 in
set_option maxHeartbeats 1000000 in
theorem Go_full (h : RowsV K w A n s.rows) (x : Cst) (hd : x.d ≠ 1 ∧ x.d ≠ 2 ∧ x.d ≠ 3) (hbl : x.bn = s.sz) (hn4 : n = 1024) :
    Calls Try.prog 10 #[cv s.sz A n c, x.val] w (CRes K w s [] 9) := by
  have hL := CLaid.new w s.sz A n c x
  obtain ⟨d, a, bA, bn, bc, b⟩ := x
  obtain ⟨z, hz⟩ : ∃ z, z = s.sz := ⟨_, rfl⟩
  simp only at hd hbl hL
  have hbz : z = bn := by omega
  subst hbz
  clear hbl
  unfold cv
  rw [← hz] at hL ⊢
  show Calls _ _ #[.agg #[.int .i64 (z : Nat), .slice A n c], .agg #[.int .i64 d, .int .i64 a, .slice bA z bc]] w _
  obtain ⟨w1, hw1⟩ : ∃ w1, w1 = ((w.alloc (.cells #[.int .i64 (z : Nat), .slice A n c] 29)).alloc (.cells #[.int .i64 d, .int .i64 a, .slice bA z bc] 35)).alloc (.cells #[.int .i64 0, .slice none 0 0] 29) := ⟨_, rfl⟩
  rw [← hw1] at hL
  have k0 : w1.cell? ⟨w.heap.size + 1, 0, none⟩ = some (.int .i64 d) := hL.st.at_ 0
  have k1 : w1.cell? ⟨w.heap.size + 1, 1, none⟩ = some (.int .i64 a) := hL.st.at_ 1
  have k2 : w1.cell? ⟨w.heap.size + 1, 2, none⟩ = some (.slice bA z bc) := hL.st.at_ 2
  have q0 : w1.cell? ⟨w.heap.size, 0, none⟩ = some (.int .i64 (z : Nat)) := hL.r0.at_ 0
  have q1 : w1.cell? ⟨w.heap.size, 1, none⟩ = some (.slice A n c) := hL.r0.at_ 1
  have hsz1 : w.heap.size + 3 ≤ w1.heap.size := by have := hL.r2.lt; omega
  obtain ⟨vs, hln, hA0, hH0⟩ := h
  have hvl : vs.length = n := by have := hH0.1; omega
  obtain ⟨w2, hw2⟩ : ∃ w2, w2 = w1.alloc (.cells #[] 31) := ⟨_, rfl⟩
  have hB2 : Below w1.heap.size w1 w2 := by rw [hw2]; exact (Below.refl _ _).alloc (Nat.le_refl _) _
  have hL2 := hL.next hB2
  have q12 : w2.cell? ⟨w.heap.size, 1, none⟩ = some (.slice A n c) := hL2.r0.at_ 1
  have hO2 : w2.ownsRow w1.heap.size 31 1 (.slice (some ⟨w1.heap.size, 0, none⟩) 0 0) 0 [] := by rw [hw2]; exact World.ownsRow_lit w1 #[] 0 (Nat.le_refl _) (Nat.zero_le _) rfl
  have HA2 := Lib.hid (hA0.below hL2.hb)
  have HH0 := Lib.hid hH0
  have HONE := Lib.hid hH0.one
  have HLN := Lib.hid hln
  have HVL := Lib.hid hvl
  have HO2 := Lib.hid hO2
  have HL := Lib.hid hL
  have HB2 := Lib.hid hB2
  have HW2 := Lib.hid hw2
  have HZ := Lib.hid hz
  have HSZ := Lib.hid hsz1
  have d1 : (d == 1) = false := by simpa using hd.1
  have d2 : (d == 2) = false := by simpa using hd.2.1
  have d3 : (d == 3) = false := by simpa using hd.2.2
  have f2 : (d != 2) = true := by simpa using hd.2.1
  have f3 : (d != 3) = true := by simpa using hd.2.2
  clear hd
  have HR0 := Lib.hid (show RowsV K w A n s.rows from ⟨vs, hln, hA0, hH0⟩)
  have hn5 : (n : Int) = 1024 := by omega
  clear hn4
  clear hL hA0 hH0 hln hvl hB2 hL2 hO2 hw2 hz hsz1
  go_enter Try.func10, Try.ntmps10
  go_wp2_with (first
    | (rw [← hw1]; clear hw1)
    | (rw [← HW2.out])
    | (at_builtin; refine wpList_appW (K := K) rowsT rfl (.tmp 64) (.tmp 66) rfl w1.heap.size _ 0 [] rfl HO2.out A n c vs rfl HA2.out HONE.out (by omega) (by decide) HB2.out.size ?_; intro v3 w3 ho3 hg3; rw [List.nil_append, Nat.zero_add] at ho3; have hb3 := HB2.out.trans (below_own HO2.out HB2.out.size hg3); have hL3 := HL.out.next hb3; have k03 : w3.cell? ⟨w.heap.size + 1, 0, none⟩ = some (.int .i64 d) := hL3.st.at_ 0; have k13 : w3.cell? ⟨w.heap.size + 1, 1, none⟩ = some (.int .i64 a) := hL3.st.at_ 1; have k23 : w3.cell? ⟨w.heap.size + 1, 2, none⟩ = some (.slice bA z bc) := hL3.st.at_ 2; have q03 : w3.cell? ⟨w.heap.size, 0, none⟩ = some (.int .i64 (z : Nat)) := hL3.r0.at_ 0; obtain ⟨A3, c3, rfl, hc3, hcm, _, _⟩ := own_opens ho3; have HO3 := Lib.hid ho3; have HL3 := Lib.hid hL3; have HB3 := Lib.hid hb3; clear ho3 hg3 hb3 hL3)
    | (with_reducible refine wpList_ldC rfl (.tmp 2) rfl rfl HL3.out.r0 ?_)
    | (with_reducible refine wpList_stC (z' := z) (A' := A) (n' := n) (c' := c) rfl (.tmp 4) (.tmp 105) rfl rfl rfl HL3.out.r2 ?_; intro w5 hR5 hF5))
  refine bodyPost_ret (res_ctt rfl rfl (hR5.load rcolT rfl)) rfl ?_
  have hB5 := HL3.out.hb.trans (hF5.toBelow (fun x hx => by rw [show x = w.heap.size + 2 from hx]; omega) HL3.out.hb.size)
  exact ⟨A, n, c, none, 0, 0, by unfold cv; rw [← HZ.out]; rfl, (HR0.out.below hB5).mono (fun x hx => .inl hx), VB.nil _ _, hB5⟩

set_option maxRecDepth 20000 in
set_option maxHeartbeats 1000000 in
theorem Go_add (h : RowsV K w A n s.rows) (hn : n ≤ 1024) (x : Cst) (hd : x.d ≠ 1 ∧ x.d ≠ 2 ∧ x.d ≠ 3) (hbl : x.bn = s.sz) (hn4 : n ≠ 1024) (hb : Rd w x.bA x.bn x.b) (hbK : ∀ q o, x.bA = some ⟨q, o, none⟩ → 0 < x.bn → K q) :
    Calls Try.prog 10 #[cv s.sz A n c, x.val] w (CRes K w (s.add x.b) [] 0) := by
  have hL := CLaid.new w s.sz A n c x
  obtain ⟨d, a, bA, bn, bc, b⟩ := x
  obtain ⟨z, hz⟩ : ∃ z, z = s.sz := ⟨_, rfl⟩
  simp only at hd hbl hb hbK hL
  have hbz : z = bn := by omega
  subst hbz
  clear hbl
  unfold cv
  rw [← hz] at hL ⊢
  show Calls _ _ #[.agg #[.int .i64 (z : Nat), .slice A n c], .agg #[.int .i64 d, .int .i64 a, .slice bA z bc]] w _
  obtain ⟨w1, hw1⟩ : ∃ w1, w1 = ((w.alloc (.cells #[.int .i64 (z : Nat), .slice A n c] 29)).alloc (.cells #[.int .i64 d, .int .i64 a, .slice bA z bc] 35)).alloc (.cells #[.int .i64 0, .slice none 0 0] 29) := ⟨_, rfl⟩
  rw [← hw1] at hL
  have k0 : w1.cell? ⟨w.heap.size + 1, 0, none⟩ = some (.int .i64 d) := hL.st.at_ 0
  have k1 : w1.cell? ⟨w.heap.size + 1, 1, none⟩ = some (.int .i64 a) := hL.st.at_ 1
  have k2 : w1.cell? ⟨w.heap.size + 1, 2, none⟩ = some (.slice bA z bc) := hL.st.at_ 2
  have q0 : w1.cell? ⟨w.heap.size, 0, none⟩ = some (.int .i64 (z : Nat)) := hL.r0.at_ 0
  have q1 : w1.cell? ⟨w.heap.size, 1, none⟩ = some (.slice A n c) := hL.r0.at_ 1
  have hsz1 : w.heap.size + 3 ≤ w1.heap.size := by have := hL.r2.lt; omega
  obtain ⟨vs, hln, hA0, hH0⟩ := h
  have hvl : vs.length = n := by have := hH0.1; omega
  obtain ⟨w2, hw2⟩ : ∃ w2, w2 = w1.alloc (.cells #[] 31) := ⟨_, rfl⟩
  have hB2 : Below w1.heap.size w1 w2 := by rw [hw2]; exact (Below.refl _ _).alloc (Nat.le_refl _) _
  have hL2 := hL.next hB2
  have q12 : w2.cell? ⟨w.heap.size, 1, none⟩ = some (.slice A n c) := hL2.r0.at_ 1
  have hO2 : w2.ownsRow w1.heap.size 31 1 (.slice (some ⟨w1.heap.size, 0, none⟩) 0 0) 0 [] := by rw [hw2]; exact World.ownsRow_lit w1 #[] 0 (Nat.le_refl _) (Nat.zero_le _) rfl
  have HA2 := Lib.hid (hA0.below hL2.hb)
  have HH0 := Lib.hid hH0
  have HONE := Lib.hid hH0.one
  have HLN := Lib.hid hln
  have HVL := Lib.hid hvl
  have HO2 := Lib.hid hO2
  have HL := Lib.hid hL
  have HB2 := Lib.hid hB2
  have HW2 := Lib.hid hw2
  have HZ := Lib.hid hz
  have HSZ := Lib.hid hsz1
  have d1 : (d == 1) = false := by simpa using hd.1
  have d2 : (d == 2) = false := by simpa using hd.2.1
  have d3 : (d == 3) = false := by simpa using hd.2.2
  have f2 : (d != 2) = true := by simpa using hd.2.1
  have f3 : (d != 3) = true := by simpa using hd.2.2
  clear hd
  have HVB := Lib.hid (show VB K w (.slice bA z bc) b from ⟨bA, z, bc, rfl, hb, fun q o e hp => ⟨hbK q o e hp, by obtain ⟨q', o', e', hlt, _⟩ := hb.2 hp; rw [e] at e'; injection e' with e'; injection e' with e1 _; omega⟩⟩)
  clear hb hbK
  have hn5 : ¬ ((n : Int) = 1024) := by omega
  clear hn4
  clear hL hA0 hH0 hln hvl hB2 hL2 hO2 hw2 hz hsz1
  go_enter Try.func10, Try.ntmps10
  go_wp2_with (first
    | (rw [← hw1]; clear hw1)
    | (rw [← HW2.out])
    | (at_builtin; refine wpList_appW (K := K) rowsT rfl (.tmp 64) (.tmp 66) rfl w1.heap.size _ 0 [] rfl HO2.out A n c vs rfl HA2.out HONE.out (by omega) (by decide) HB2.out.size ?_; intro v3 w3 ho3 hg3; rw [List.nil_append, Nat.zero_add] at ho3; have hb3 := HB2.out.trans (below_own HO2.out HB2.out.size hg3); have hL3 := HL.out.next hb3; have k03 : w3.cell? ⟨w.heap.size + 1, 0, none⟩ = some (.int .i64 d) := hL3.st.at_ 0; have k13 : w3.cell? ⟨w.heap.size + 1, 1, none⟩ = some (.int .i64 a) := hL3.st.at_ 1; have k23 : w3.cell? ⟨w.heap.size + 1, 2, none⟩ = some (.slice bA z bc) := hL3.st.at_ 2; have q03 : w3.cell? ⟨w.heap.size, 0, none⟩ = some (.int .i64 (z : Nat)) := hL3.r0.at_ 0; obtain ⟨A3, c3, rfl, hc3, hcm, _, _⟩ := own_opens ho3; have HO3 := Lib.hid ho3; have HL3 := Lib.hid hL3; have HB3 := Lib.hid hb3; clear ho3 hg3 hb3 hL3))
  have s3d : w3.drew.cell? ⟨w.heap.size, 0, none⟩ = some (.int .i64 (z : Nat)) ∧ w3.drew.cell? ⟨w.heap.size + 1, 2, none⟩ = some (.slice bA z bc) := ⟨q03, k23⟩
  obtain ⟨wB, hwB⟩ : ∃ wB, wB = w3.drew.alloc (.cells #[.slice bA z bc] 31) := ⟨_, rfl⟩
  have bB : Below w3.heap.size w3 wB := by rw [hwB]; exact (Below.refl _ _).drew.alloc (Nat.le_refl _) _
  have hBB : Below w1.heap.size w1 wB := HB3.out.trans (bB.mono HB3.out.size)
  have hLB := HL.out.next hBB
  have hOB := own_keep HO3.out bB
  have hNEW : ∀ j u, [Value.slice bA z bc][j]? = some u → wB.cell? ((⟨w3.heap.size, 0, none⟩ : Addr).add j) = some u := by
    rw [hwB]
    exact cell_one_new w3.drew _ _
  have sB : wB.cell? ⟨w.heap.size, 0, none⟩ = some (.int .i64 (z : Nat)) ∧ wB.cell? ⟨w.heap.size + 1, 2, none⟩ = some (.slice bA z bc) := ⟨hLB.r0.at_ 0, hLB.st.at_ 2⟩
  have HWB := Lib.hid hwB
  have HWBb : Hid (wB = (w3.alloc (.cells #[.slice bA z bc] 31)).drew) := HWB
  have HBB := Lib.hid hBB
  have HOB := Lib.hid hOB
  have HNEW := Lib.hid hNEW
  have HSB := Lib.hid hBB.size
  have END : ∀ wA w5 AA cA, CLaid w wA z A n c ⟨d, a, bA, z, bc, b⟩ → wA.ownsRow w1.heap.size 31 1 (.slice AA (n + 1) cA) (n + 1) (vs ++ [.slice bA z bc]) → Fr (· = w.heap.size + 2) wA w5 → CRes K w (s.add b) [] 0 (.returned (.tuple #[.agg #[.int .i64 (z : Nat), .slice AA (n + 1) cA], .slice none 0 0, .int .i64 0])) w5 := fun wA w5 AA cA hLA hOA hF => by
    obtain ⟨hB, A', c', e, hR⟩ := made_rows hLA HSZ.out hOA (HH0.out.snoc HVB.out) hF
    injection e with e1 e2 e3
    subst e1 e3
    exact ⟨AA, n + 1, cA, none, 0, 0, by unfold cv Co.add; rw [← HZ.out], hR, VB.nil _ _, hB⟩
  have END := Lib.hid END
  clear hwB bB hBB hLB hOB hNEW HO3 HH0 HVB
-- REGION17
  refine wp_region_noPanic ?_
  refine wp_region_held_drew (S := fun W => W.cell? ⟨w.heap.size, 0, none⟩ = some (.int .i64 (z : Nat)) ∧ W.cell? ⟨w.heap.size + 1, 2, none⟩ = some (.slice bA z bc)) (by kernel_rfl) s3d (fun hHeld => ?_)
  refine wpAnyH_take (i := 0) (oi := { dst := some 106, op := Op.fieldAddr 29 (Operand.tmp 2) 0, type := 0, pos := "ref.go:64", after := #[], guard := none }) (v := ?_) rfl (by kernel_rfl) (by kernel_rfl) (by kernel_rfl) (fun _ _ _ h => h) (Or.inl ⟨by rfl, ?_⟩) (by assumption) ?_
  rotate_left 1
  · intro w' hSw; (try dsimp only at hSw); go_simp; (try with_reducible rfl)
  simp only [Act.put, List.setIfInBounds_toArray, List.set_cons_zero, List.set_cons_succ]
  refine wpAnyH_take (i := 1) (oi := { dst := some 107, op := Op.load 3 (Operand.tmp 106), type := 3, pos := "ref.go:64", after := #[{ on := 0, ground := Ground.data }], guard := none }) (v := ?_) rfl (by kernel_rfl) (by kernel_rfl) (by kernel_rfl) (fun _ _ _ h => h) (Or.inl ⟨by rfl, ?_⟩) (by assumption) ?_
  rotate_left 1
  · intro w' hSw; (try dsimp only at hSw); go_simp; (try with_reducible rfl)
  simp only [Act.put, List.setIfInBounds_toArray, List.set_cons_zero, List.set_cons_succ]
  refine wpAnyH_take (i := 2) (oi := { dst := some 108, op := Op.move (Operand.tmp 8), type := 27, pos := "ref.go:64", after := #[], guard := none }) (v := ?_) rfl (by kernel_rfl) (by kernel_rfl) (by kernel_rfl) (fun _ _ _ h => h) (Or.inl ⟨by rfl, ?_⟩) (by assumption) ?_
  rotate_left 1
  · intro w' hSw; (try dsimp only at hSw); go_simp; (try with_reducible rfl)
  simp only [Act.put, List.setIfInBounds_toArray, List.set_cons_zero, List.set_cons_succ]
  refine wpAnyH_take (i := 3) (oi := { dst := some 109, op := Op.fieldAddr 35 (Operand.tmp 3) 2, type := 0, pos := "ref.go:64", after := #[], guard := none }) (v := ?_) rfl (by kernel_rfl) (by kernel_rfl) (by kernel_rfl) (fun _ _ _ h => h) (Or.inl ⟨by rfl, ?_⟩) (by assumption) ?_
  rotate_left 1
  · intro w' hSw; (try dsimp only at hSw); go_simp; (try with_reducible rfl)
  simp only [Act.put, List.setIfInBounds_toArray, List.set_cons_zero, List.set_cons_succ]
  refine wpAnyH_take (i := 4) (oi := { dst := some 110, op := Op.load 31 (Operand.tmp 109), type := 31, pos := "ref.go:64", after := #[{ on := 3, ground := Ground.data }], guard := none }) (v := ?_) rfl (by kernel_rfl) (by kernel_rfl) (by kernel_rfl) (fun _ _ _ h => h) (Or.inl ⟨by rfl, ?_⟩) (by assumption) ?_
  rotate_left 1
  · intro w' hSw; (try dsimp only at hSw); go_simp; (try with_reducible rfl)
  simp only [Act.put, List.setIfInBounds_toArray, List.set_cons_zero, List.set_cons_succ]
  refine wpAnyH_ready (rs := [5]) (by kernel_rfl) (by simp) ?_
  refine AllReadyH.cons (o := { dst := some 111, op := Op.buildSlice 27 1 #[(0, Operand.tmp 110)], type := 27, pos := "ref.go:64", after := #[{ on := 4, ground := Ground.data }], guard := none }) rfl (fun K' hK => ?_) AllReadyH.nil
  go_simp
  first | rw [← HWB.out] | rw [← HWBb.out]
  refine hK.out _ _ sB (fun hHeld => ?_)
  clear hK K'
  try simp only [Act.put, List.setIfInBounds_toArray, List.set_cons_zero, List.set_cons_succ]
  refine wpAnyH_ready (rs := [6]) (by kernel_rfl) (by simp) ?_
  refine AllReadyH.cons (o := { dst := some 112, op := Op.call { callee := Callee.builtin Builtin.append, args := #[Operand.tmp 108, Operand.tmp 111], argTypes := #[27, 27] }, type := 27, pos := "ref.go:64", after := #[{ on := 2, ground := Ground.data }, { on := 5, ground := Ground.data }], guard := none }) rfl (fun K' hK => ?_) AllReadyH.nil
  refine step_appV rowsT rfl (.tmp 108) (.tmp 111) rfl w1.heap.size _ n vs rfl HOB.out ⟨w3.heap.size, 0, none⟩ 1 1 [.slice bA z bc] rfl rfl HNEW.out (fun u hu => by rw [List.mem_singleton.1 hu]; rfl) (by omega) (by decide) HSB.out ?_
  intro vA wA hoA hgA _
  obtain ⟨AA, cA, rfl, hcA, hmA, _, _⟩ := own_opens hoA
  have hLA := HL.out.next (HBB.out.trans (below_own HOB.out HSB.out hgA))
  have sA : wA.cell? ⟨w.heap.size, 0, none⟩ = some (.int .i64 (z : Nat)) ∧ wA.cell? ⟨w.heap.size + 1, 2, none⟩ = some (.slice bA z bc) := ⟨hLA.r0.at_ 0, hLA.st.at_ 2⟩
  have HLA := Lib.hid hLA
  have HOA := Lib.hid hoA
  clear hLA hoA hgA
  refine hK.out _ _ sA (fun hHeld => ?_)
  clear hK K'
  try simp only [Act.put, List.setIfInBounds_toArray, List.set_cons_zero, List.set_cons_succ]
  refine wpAnyH_take (i := 7) (oi := { dst := some 113, op := Op.build 29 #[(0, Operand.tmp 107), (1, Operand.tmp 112)], type := 29, pos := "ref.go:64", after := #[{ on := 1, ground := Ground.data }, { on := 6, ground := Ground.data }], guard := none }) (v := ?_) rfl (by kernel_rfl) (by kernel_rfl) (by kernel_rfl) (fun _ _ _ h => h) (Or.inl ⟨by rfl, ?_⟩) (by assumption) ?_
  rotate_left 1
  · intro w' hSw; (try dsimp only at hSw); go_simp; (try with_reducible rfl)
  simp only [Act.put, List.setIfInBounds_toArray, List.set_cons_zero, List.set_cons_succ]
  refine wpAnyH_ready (rs := [8]) (by kernel_rfl) (by simp) ?_
  refine AllReadyH.cons (o := { dst := none, op := Op.store 29 (Operand.tmp 4) (Operand.tmp 113), type := 0, pos := "ref.go:64", after := #[{ on := 7, ground := Ground.data }, { on := 6, ground := Ground.chain }, { on := 0, ground := Ground.phase }, { on := 1, ground := Ground.phase }, { on := 2, ground := Ground.phase }, { on := 3, ground := Ground.phase }, { on := 4, ground := Ground.phase }, { on := 5, ground := Ground.phase }, { on := 6, ground := Ground.phase }, { on := 7, ground := Ground.phase }], guard := none }) rfl (fun K' hK => ?_) AllReadyH.nil
  refine step_stC (z' := z) (A' := AA) (n' := n + 1) (c' := cA) rfl (.tmp 4) (.tmp 113) rfl rfl rfl HLA.out.r2 ?_
  intro w5 hR5 hF5
  have s5 : w5.cell? ⟨w.heap.size, 0, none⟩ = some (.int .i64 (z : Nat)) ∧ w5.cell? ⟨w.heap.size + 1, 2, none⟩ = some (.slice bA z bc) := ⟨(HLA.out.r0.fr hF5 (fun e => by have e' : w.heap.size = w.heap.size + 2 := e; omega)).at_ 0, (HLA.out.st.fr hF5 (fun e => by have e' : w.heap.size + 1 = w.heap.size + 2 := e; omega)).at_ 2⟩
  refine hK.out _ _ s5 (fun hHeld => ?_)
  clear hK K'
  try simp only [Act.put]
  refine wpAnyH_take (i := 9) (oi := { dst := some 5, op := Op.assign (Operand.const (Value.slice none 0 0)), type := 31, pos := "ref.go:64", after := #[{ on := 8, ground := Ground.chain }, { on := 0, ground := Ground.phase }, { on := 1, ground := Ground.phase }, { on := 2, ground := Ground.phase }, { on := 3, ground := Ground.phase }, { on := 4, ground := Ground.phase }, { on := 5, ground := Ground.phase }, { on := 6, ground := Ground.phase }, { on := 7, ground := Ground.phase }, { on := 8, ground := Ground.phase }], guard := none }) (v := ?_) rfl (by kernel_rfl) (by kernel_rfl) (by kernel_rfl) (fun _ _ _ h => h) (Or.inl ⟨by rfl, ?_⟩) (by assumption) ?_
  rotate_left 1
  · intro w' hSw; (try dsimp only at hSw); go_simp; (try with_reducible rfl)
  simp only [Act.put, List.setIfInBounds_toArray, List.set_cons_zero, List.set_cons_succ]
  refine wpAnyH_take (i := 10) (oi := { dst := some 6, op := Op.assign (Operand.const (Value.int IntKind.i64 0)), type := 3, pos := "ref.go:64", after := #[{ on := 9, ground := Ground.chain }, { on := 0, ground := Ground.phase }, { on := 1, ground := Ground.phase }, { on := 2, ground := Ground.phase }, { on := 3, ground := Ground.phase }, { on := 4, ground := Ground.phase }, { on := 5, ground := Ground.phase }, { on := 6, ground := Ground.phase }, { on := 7, ground := Ground.phase }, { on := 8, ground := Ground.phase }, { on := 9, ground := Ground.phase }], guard := none }) (v := ?_) rfl (by kernel_rfl) (by kernel_rfl) (by kernel_rfl) (fun _ _ _ h => h) (Or.inl ⟨by rfl, ?_⟩) (by assumption) ?_
  rotate_left 1
  · intro w' hSw; (try dsimp only at hSw); go_simp; (try with_reducible rfl)
  simp only [Act.put, List.setIfInBounds_toArray, List.set_cons_zero, List.set_cons_succ]
  refine wpAnyH_done (by kernel_rfl) ?_ _
  refine NoPanic.normal ?_
  go_wp2
  refine bodyPost_ret (res_ctt rfl rfl (hR5.load rcolT rfl)) rfl ?_
  exact END.out wA w5 AA cA HLA.out HOA.out hF5
-- END17

/-- Every step. -/
theorem RGo_any (h : RowsV K w A n s.rows) (ok : s.Ok) (x : Cst) (hb : Rd w x.bA x.bn x.b) (hbK : ∀ q o, x.bA = some ⟨q, o, none⟩ → 0 < x.bn → K q) :
    Calls Try.prog 10 #[cv s.sz A n c, x.val] w (CRes K w (s.go x.d x.a x.b).1 (s.go x.d x.a x.b).2.1 (s.go x.d x.a x.b).2.2) := by
  have hln : s.rows.length = n := by obtain ⟨_, h1, _⟩ := h; exact h1
  have hn : n ≤ 1024 := by have := ok.n; omega
  have hbl := hb.1
  by_cases h1 : x.d = 1
  · by_cases hi : 0 ≤ x.a ∧ x.a < s.rows.length
    · by_cases hl : x.b.length = s.sz
      · have e : s.go x.d x.a x.b = (s.set x.a.toNat x.b, [], 0) := by unfold Co.go; rw [if_pos h1, if_pos hi, if_pos hl]
        rw [e]
        exact Go_set h hn x h1 x.a.toNat (by omega) (by omega) (by omega) hb hbK
      · have e : s.go x.d x.a x.b = (s, [], 7) := by unfold Co.go; rw [if_pos h1, if_pos hi, if_neg hl]
        rw [e]
        exact Go_size h x (by omega) (by omega) (fun _ => by omega) (by omega)
    · have e : s.go x.d x.a x.b = (s, [], 2) := by unfold Co.go; rw [if_pos h1, if_neg hi]
      rw [e]
      exact Go_range h x (by omega) (by omega)
  by_cases h2 : x.d = 2
  · by_cases hi : 0 ≤ x.a ∧ x.a < s.rows.length
    · have e : s.go x.d x.a x.b = (s, s.rows.getD x.a.toNat [], 0) := by unfold Co.go; rw [if_neg h1, if_pos h2, if_pos hi]
      rw [e]
      exact Go_get h x h2 x.a.toNat (by omega) (by omega)
    · have e : s.go x.d x.a x.b = (s, [], 2) := by unfold Co.go; rw [if_neg h1, if_pos h2, if_neg hi]
      rw [e]
      exact Go_range h x (by omega) (by omega)
  by_cases h3 : x.d = 3
  · by_cases hi : 0 ≤ x.a ∧ x.a < s.rows.length
    · have e : s.go x.d x.a x.b = (s.drop x.a.toNat, [], 0) := by unfold Co.go; rw [if_neg h1, if_neg h2, if_pos h3, if_pos hi]
      rw [e]
      exact Go_drop h hn x h3 x.a.toNat (by omega) (by omega)
    · have e : s.go x.d x.a x.b = (s, [], 2) := by unfold Co.go; rw [if_neg h1, if_neg h2, if_pos h3, if_neg hi]
      rw [e]
      exact Go_range h x (by omega) (by omega)
  by_cases hl : x.b.length = s.sz
  · by_cases hf : s.rows.length = 1024
    · have e : s.go x.d x.a x.b = (s, [], 9) := by unfold Co.go; rw [if_neg h1, if_neg h2, if_neg h3, if_pos hl, if_pos hf]
      rw [e]
      exact Go_full h x ⟨h1, h2, h3⟩ (by omega) (by omega)
    · have e : s.go x.d x.a x.b = (s.add x.b, [], 0) := by unfold Co.go; rw [if_neg h1, if_neg h2, if_neg h3, if_pos hl, if_neg hf]
      rw [e]
      exact Go_add h hn x ⟨h1, h2, h3⟩ (by omega) (by omega) hb hbK
  · have e : s.go x.d x.a x.b = (s, [], 7) := by unfold Co.go; rw [if_neg h1, if_neg h2, if_neg h3, if_neg hl]
    rw [e]
    exact Go_size h x h2 h3 (fun e => absurd e h1) (by omega)
end
end Go.Proofs.Ytlblbhndfclhnaa
