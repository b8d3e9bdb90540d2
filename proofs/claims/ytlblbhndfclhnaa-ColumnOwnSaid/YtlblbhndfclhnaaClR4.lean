/- The reference's Go: a row dropped. -/
import Derived.Test.YtlblbhndfclhnaaClR3
namespace Go.Proofs.Ytlblbhndfclhnaa
open Go.RowKit

section
variable {K : Nat → Prop} {s : Co} {A : Option Addr} {n c : Nat} {w : World}
set_option maxRecDepth 20000 in
set_option maxHeartbeats 1000000 in
theorem Go_drop (h : RowsV K w A n s.rows) (hn : n ≤ 1024) (x : Cst) (hd : x.d = 3) (k : Nat) (ha : x.a = (k : Int)) (hk : k < n) :
    Calls Try.prog 10 #[cv s.sz A n c, x.val] w (CRes K w (s.drop k) [] 0) := by
  have hL := CLaid.new w s.sz A n c x
  obtain ⟨d, a, bA, bn, bc, b⟩ := x
  obtain ⟨z, hz⟩ : ∃ z, z = s.sz := ⟨_, rfl⟩
  simp only at hd ha hL
  subst hd ha
  unfold cv
  rw [← hz] at hL ⊢
  show Calls _ _ #[.agg #[.int .i64 (z : Nat), .slice A n c], .agg #[.int .i64 3, .int .i64 k, .slice bA bn bc]] w _
  obtain ⟨w1, hw1⟩ : ∃ w1, w1 = ((w.alloc (.cells #[.int .i64 (z : Nat), .slice A n c] 29)).alloc (.cells #[.int .i64 3, .int .i64 k, .slice bA bn bc] 35)).alloc (.cells #[.int .i64 0, .slice none 0 0] 29) := ⟨_, rfl⟩
  rw [← hw1] at hL
  have k0 : w1.cell? ⟨w.heap.size + 1, 0, none⟩ = some (.int .i64 3) := hL.st.at_ 0
  have k1 : w1.cell? ⟨w.heap.size + 1, 1, none⟩ = some (.int .i64 k) := hL.st.at_ 1
  have k2 : w1.cell? ⟨w.heap.size + 1, 2, none⟩ = some (.slice bA bn bc) := hL.st.at_ 2
  have q0 : w1.cell? ⟨w.heap.size, 0, none⟩ = some (.int .i64 (z : Nat)) := hL.r0.at_ 0
  have q1 : w1.cell? ⟨w.heap.size, 1, none⟩ = some (.slice A n c) := hL.r0.at_ 1
  have hsz1 : w.heap.size + 3 ≤ w1.heap.size := by have := hL.r2.lt; omega
  obtain ⟨vs, hln, hA0, hH0⟩ := h
  have hvl : vs.length = n := by have := hH0.1; omega
  obtain ⟨w2, hw2⟩ : ∃ w2, w2 = w1.alloc (.cells #[] 31) := ⟨_, rfl⟩
  have hB2 : Below w1.heap.size w1 w2 := by rw [hw2]; exact (Below.refl _ _).alloc (Nat.le_refl _) _
  have hL2 := hL.next hB2
  have q12 : w2.cell? ⟨w.heap.size, 1, none⟩ = some (.slice A n c) := hL2.r0.at_ 1
  have hO2 : w2.ownsRow w1.heap.size 31 1 (.slice (some ⟨w1.heap.size, 0, none⟩) 0 0) 0 [] := by rw [hw2]; exact World.ownsRow_lit w1 #[] 0 (Nat.le_refl _) (Nat.zero_le _) rfl
  have HA2 := Lib.hid (hA0.below hL2.hb)
  have HH0 := Lib.hid hH0
  have HONE := Lib.hid hH0.one
  have HLN := Lib.hid hln
  have HVL := Lib.hid hvl
  have HO2 := Lib.hid hO2
  have HL := Lib.hid hL
  have HB2 := Lib.hid hB2
  have HW2 := Lib.hid hw2
  have HZ := Lib.hid hz
  have HSZ := Lib.hid hsz1
  have hk0 : (0 : Int) ≤ (k : Int) := by omega
  have hk1 : (k : Int) < (n : Int) := by omega
  obtain ⟨m, hm⟩ : ∃ m, n = m + 1 := ⟨n - 1, by omega⟩
  have e1 : (n : Int) - 1 = (m : Int) := by omega
  have HM := Lib.hid hm
  clear hm
  clear hL hA0 hH0 hln hvl hB2 hL2 hO2 hw2 hz hsz1
  go_enter Try.func10, Try.ntmps10
  go_wp2_with (first
    | (rw [← hw1]; clear hw1)
    | (rw [← HW2.out])
    | (at_builtin; refine wpList_appW (K := K) rowsT rfl (.tmp 64) (.tmp 66) rfl w1.heap.size _ 0 [] rfl HO2.out A n c vs rfl HA2.out HONE.out (by omega) (by decide) HB2.out.size ?_; intro v3 w3 ho3 hg3; rw [List.nil_append, Nat.zero_add] at ho3; have hb3 := HB2.out.trans (below_own HO2.out HB2.out.size hg3); have hL3 := HL.out.next hb3; have k03 : w3.cell? ⟨w.heap.size + 1, 0, none⟩ = some (.int .i64 3) := hL3.st.at_ 0; have k13 : w3.cell? ⟨w.heap.size + 1, 1, none⟩ = some (.int .i64 k) := hL3.st.at_ 1; have k23 : w3.cell? ⟨w.heap.size + 1, 2, none⟩ = some (.slice bA bn bc) := hL3.st.at_ 2; have q03 : w3.cell? ⟨w.heap.size, 0, none⟩ = some (.int .i64 (z : Nat)) := hL3.r0.at_ 0; obtain ⟨g, c3, rfl, hc3, hcm, hg1, hg2, hcell, hfz⟩ := own_at ho3 (by omega); have qk := hcell k (by omega); have hkl : k < vs.length := (by have := HVL.out; omega); rw [List.getElem?_eq_getElem hkl] at qk; have fk := hfz k; obtain ⟨kA, km, kc, hku⟩ := vb_sl (HH0.out.2 k _ (List.getElem?_eq_getElem hkl)); rw [hku] at qk; clear hku; have hml : m < vs.length := (by have := HVL.out; have := HM.out; omega); have qm := hcell m (by have := HM.out; omega); rw [List.getElem?_eq_getElem hml] at qm; have hmv := HH0.out.2 m _ (List.getElem?_eq_getElem hml); obtain ⟨mA, mm, mc, hmu⟩ := vb_sl hmv; rw [hmu] at qm hmv; have HMV := Lib.hid hmv; clear hmu hml hmv; obtain ⟨w4, hw4⟩ : ∃ w4, w4 = w3.drew.setCell ⟨g, k, none⟩ (.slice mA mm mc) := ⟨_, rfl⟩; have hF4 : Fr (· = g) w3.drew w4 := (by rw [hw4]; exact Fr.setCell (own := (· = g)) _ (p := ⟨g, k, none⟩) rfl _); have ho4 : w4.ownsRow w1.heap.size 31 1 (.slice (some ⟨g, 0, none⟩) n c3) n (vs.set k (.slice mA mm mc)) := (by rw [hw4]; exact ((own_fr ho3 (Fr.drew (fun _ => False) _) (fun _ _ h => h)).stored k _).1); have hL4 := (hL3.fr (Fr.drew (fun _ => False) _) (fun _ h => h.elim)).fr hF4 (fun q hq => by rw [show q = g from hq]; have := HSZ.out; omega); have q04 : w4.cell? ⟨w.heap.size, 0, none⟩ = some (.int .i64 (z : Nat)) := hL4.r0.at_ 0; have HO4 := Lib.hid ho4; have HL4 := Lib.hid hL4; have HW4 := Lib.hid hw4; clear hw4 hF4 ho4 hL4; have HFO := Lib.hid (And.intro hg1 hg2); clear hcell hfz hg1 hg2; have HO3 := Lib.hid ho3; have HL3 := Lib.hid hL3; have HB3 := Lib.hid hb3; clear ho3 hg3 hb3 hL3))
  have s3d : w3.drew.cell? ⟨w.heap.size + 1, 1, none⟩ = some (.int .i64 (k : Int)) := k13
  have qkd : w3.drew.cell? ⟨g, k, none⟩ = some (.slice kA km kc) := qk
  have fkd : w3.drew.frozen? ⟨g, k, none⟩ = false := fk
  have qmd : w3.drew.cell? ⟨g, m, none⟩ = some (.slice mA mm mc) := qm
  have s4 : (w3.drew.setCell ⟨g, k, none⟩ (.slice mA mm mc)).cell? ⟨w.heap.size + 1, 1, none⟩ = some (.int .i64 (k : Int)) := by rw [← HW4.out]; exact HL4.out.st.at_ 1
  have HW4b : Hid (w4 = (w3.setCell ⟨g, k, none⟩ (.slice mA mm mc)).drew) := HW4
  have s4d : w4.drew.cell? ⟨w.heap.size, 0, none⟩ = some (.int .i64 (z : Nat)) := q04
  have hRD4 := HL4.out.r2.under (w' := w4.drew) ((Below.refl _ _).drew)
  have HRD4 := Lib.hid hRD4
  have hmc : (m : Int) ≤ (c3 : Int) := by have := HM.out; omega
  have hm0 : (0 : Int) ≤ (m : Int) := by omega
  have hwm : IntKind.i64.wrap (m : Int) = (m : Int) := by
    have := HM.out
    rw [IntKind.wrap_i64]
    omega
  have hmn : (m : Int) < (n : Int) := by omega
  have END : ∀ w5, Fr (· = w.heap.size + 2) w4 w5 → CRes K w (s.drop k) [] 0 (.returned (.tuple #[.agg #[.int .i64 (z : Nat), .slice (some ⟨g, 0, none⟩) m c3], .slice none 0 0, .int .i64 0])) w5 := fun w5 hF => by
    have hln := HLN.out
    have hm := HM.out
    have hmn' : m ≤ n := by omega
    have hle : s.rows.length - 1 = m := by omega
    obtain ⟨hB, A', c', e, hR⟩ := made_rows HL4.out HSZ.out (own_less HO4.out hmn') ((HH0.out.set k HMV.out).take m) hF
    injection e with e1 e2 e3
    subst e1 e3
    refine ⟨_, m, c3, none, 0, 0, by unfold cv Co.drop Co.cut Co.set; rw [← HZ.out], ?_, VB.nil _ _, hB⟩
    have hx : (s.drop k).rows = (s.rows.set k (s.rows.getD m [])).take m := by
      unfold Co.drop Co.cut Co.set
      simp only [List.length_set, hle]
    rw [hx]
    exact hR
  have END := Lib.hid END
  clear hRD4 qk fk qm HMV HO4 HO3 HH0
-- REGION13
  refine wp_region_noPanic ?_
  refine wp_region_held_drew (S := fun W => W.cell? ⟨w.heap.size + 1, 1, none⟩ = some (.int .i64 (k : Int))) (by kernel_rfl) s3d (fun hHeld => ?_)
  refine wpAnyH_take (i := 0) (oi := { dst := some 84, op := Op.move (Operand.tmp 8), type := 27, pos := "ref.go:58", after := #[], guard := none }) (v := ?_) rfl (by kernel_rfl) (by kernel_rfl) (by kernel_rfl) (fun _ _ _ h => h) (Or.inl ⟨by rfl, ?_⟩) (by assumption) ?_
  rotate_left 1
  · intro w' hSw; (try dsimp only at hSw); go_simp; (try with_reducible rfl)
  simp only [Act.put, List.setIfInBounds_toArray, List.set_cons_zero, List.set_cons_succ]
  refine wpAnyH_take (i := 1) (oi := { dst := some 85, op := Op.fieldAddr 35 (Operand.tmp 3) 1, type := 0, pos := "ref.go:58", after := #[], guard := none }) (v := ?_) rfl (by kernel_rfl) (by kernel_rfl) (by kernel_rfl) (fun _ _ _ h => h) (Or.inl ⟨by rfl, ?_⟩) (by assumption) ?_
  rotate_left 1
  · intro w' hSw; (try dsimp only at hSw); go_simp; (try with_reducible rfl)
  simp only [Act.put, List.setIfInBounds_toArray, List.set_cons_zero, List.set_cons_succ]
  refine wpAnyH_take (i := 2) (oi := { dst := some 86, op := Op.load 3 (Operand.tmp 85), type := 3, pos := "ref.go:58", after := #[{ on := 1, ground := Ground.data }], guard := none }) (v := ?_) rfl (by kernel_rfl) (by kernel_rfl) (by kernel_rfl) (fun _ _ _ h => h) (Or.inl ⟨by rfl, ?_⟩) (by assumption) ?_
  rotate_left 1
  · intro w' hSw; (try dsimp only at hSw); go_simp; (try with_reducible rfl)
  simp only [Act.put, List.setIfInBounds_toArray, List.set_cons_zero, List.set_cons_succ]
  refine wpAnyH_take (i := 3) (oi := { dst := some 87, op := Op.move (Operand.tmp 8), type := 27, pos := "ref.go:58", after := #[], guard := none }) (v := ?_) rfl (by kernel_rfl) (by kernel_rfl) (by kernel_rfl) (fun _ _ _ h => h) (Or.inl ⟨by rfl, ?_⟩) (by assumption) ?_
  rotate_left 1
  · intro w' hSw; (try dsimp only at hSw); go_simp; (try with_reducible rfl)
  simp only [Act.put, List.setIfInBounds_toArray, List.set_cons_zero, List.set_cons_succ]
  refine wpAnyH_take (i := 4) (oi := { dst := some 88, op := Op.move (Operand.tmp 8), type := 27, pos := "ref.go:58", after := #[], guard := none }) (v := ?_) rfl (by kernel_rfl) (by kernel_rfl) (by kernel_rfl) (fun _ _ _ h => h) (Or.inl ⟨by rfl, ?_⟩) (by assumption) ?_
  rotate_left 1
  · intro w' hSw; (try dsimp only at hSw); go_simp; (try with_reducible rfl)
  simp only [Act.put, List.setIfInBounds_toArray, List.set_cons_zero, List.set_cons_succ]
  refine wpAnyH_take (i := 5) (oi := { dst := some 89, op := Op.call { callee := Callee.builtin Builtin.len, args := #[Operand.tmp 88], argTypes := #[27] }, type := 3, pos := "ref.go:58", after := #[{ on := 4, ground := Ground.data }], guard := none }) (v := ?_) rfl (by kernel_rfl) (by kernel_rfl) (by kernel_rfl) (fun _ _ _ h => h) (Or.inl ⟨by rfl, ?_⟩) (by assumption) ?_
  rotate_left 1
  · intro w' hSw; (try dsimp only at hSw); go_simp; (try with_reducible rfl)
  simp only [Act.put, List.setIfInBounds_toArray, List.set_cons_zero, List.set_cons_succ]
  refine wpAnyH_take (i := 6) (oi := { dst := some 90, op := Op.binOp BinOp.sub 3 (Operand.tmp 89) (Operand.const (Value.int IntKind.i64 1)) 3, type := 3, pos := "ref.go:58", after := #[{ on := 5, ground := Ground.data }], guard := none }) (v := ?_) rfl (by kernel_rfl) (by kernel_rfl) (by kernel_rfl) (fun _ _ _ h => h) (Or.inl ⟨by rfl, ?_⟩) (by assumption) ?_
  rotate_left 1
  · intro w' hSw; (try dsimp only at hSw); go_simp; (try with_reducible rfl)
  simp only [Act.put, List.setIfInBounds_toArray, List.set_cons_zero, List.set_cons_succ]
  refine wpAnyH_take (i := 7) (oi := { dst := some 91, op := Op.indexAddr 27 (Operand.tmp 87) (Operand.tmp 90), type := 0, pos := "ref.go:58", after := #[{ on := 3, ground := Ground.data }, { on := 6, ground := Ground.data }], guard := none }) (v := ?_) rfl (by kernel_rfl) (by kernel_rfl) (by kernel_rfl) (fun _ _ _ h => h) (Or.inl ⟨by rfl, ?_⟩) (by assumption) ?_
  rotate_left 1
  · intro w' hSw; (try dsimp only at hSw); go_simp; (try with_reducible rfl)
  simp only [Act.put, List.setIfInBounds_toArray, List.set_cons_zero, List.set_cons_succ]
  refine wpAnyH_ready (rs := [8]) (by kernel_rfl) (by simp) ?_
  refine AllReadyH.cons (o := { dst := some 92, op := Op.load 31 (Operand.tmp 91), type := 31, pos := "ref.go:58", after := #[{ on := 7, ground := Ground.data }], guard := none }) rfl (fun K' hK => ?_) AllReadyH.nil
  go_simp
  refine hK.out _ _ s3d (fun hHeld => ?_)
  clear hK K'
  try simp only [Act.put, List.setIfInBounds_toArray, List.set_cons_zero, List.set_cons_succ]
  refine wpAnyH_take (i := 9) (oi := { dst := some 93, op := Op.indexAddr 27 (Operand.tmp 84) (Operand.tmp 86), type := 0, pos := "ref.go:58", after := #[{ on := 0, ground := Ground.data }, { on := 2, ground := Ground.data }, { on := 0, ground := Ground.phase }, { on := 1, ground := Ground.phase }, { on := 2, ground := Ground.phase }, { on := 3, ground := Ground.phase }, { on := 4, ground := Ground.phase }, { on := 5, ground := Ground.phase }, { on := 6, ground := Ground.phase }, { on := 7, ground := Ground.phase }, { on := 8, ground := Ground.phase }], guard := none }) (v := ?_) rfl (by kernel_rfl) (by kernel_rfl) (by kernel_rfl) (fun _ _ _ h => h) (Or.inl ⟨by rfl, ?_⟩) (by assumption) ?_
  rotate_left 1
  · intro w' hSw; (try dsimp only at hSw); go_simp; (try with_reducible rfl)
  simp only [Act.put, List.setIfInBounds_toArray, List.set_cons_zero, List.set_cons_succ]
  refine wpAnyH_ready (rs := [10]) (by kernel_rfl) (by simp) ?_
  refine AllReadyH.cons (o := { dst := none, op := Op.store 31 (Operand.tmp 93) (Operand.tmp 92), type := 0, pos := "ref.go:58", after := #[{ on := 9, ground := Ground.data }, { on := 8, ground := Ground.data }, { on := 0, ground := Ground.phase }, { on := 1, ground := Ground.phase }, { on := 2, ground := Ground.phase }, { on := 3, ground := Ground.phase }, { on := 4, ground := Ground.phase }, { on := 5, ground := Ground.phase }, { on := 6, ground := Ground.phase }, { on := 7, ground := Ground.phase }, { on := 8, ground := Ground.phase }], guard := none }) rfl (fun K' hK => ?_) AllReadyH.nil
  go_simp
  refine hK.out _ _ s4 (fun hHeld => ?_)
  clear hK K'
  try simp only [Act.put]
  refine wpAnyH_done (by kernel_rfl) ?_ _
  refine NoPanic.normal ?_
  first | rw [← HW4.out] | rw [← HW4b.out]
  clear HW4 HW4b
  go_wp2_with fail
-- END13
-- REGION14
  refine wp_region_noPanic ?_
  refine wp_region_held_drew (S := fun W => W.cell? ⟨w.heap.size, 0, none⟩ = some (.int .i64 (z : Nat))) (by kernel_rfl) s4d (fun hHeld => ?_)
  refine wpAnyH_take (i := 0) (oi := { dst := some 94, op := Op.fieldAddr 29 (Operand.tmp 2) 0, type := 0, pos := "ref.go:59", after := #[], guard := none }) (v := ?_) rfl (by kernel_rfl) (by kernel_rfl) (by kernel_rfl) (fun _ _ _ h => h) (Or.inl ⟨by rfl, ?_⟩) (by assumption) ?_
  rotate_left 1
  · intro w' hSw; (try dsimp only at hSw); go_simp; (try with_reducible rfl)
  simp only [Act.put, List.setIfInBounds_toArray, List.set_cons_zero, List.set_cons_succ]
  refine wpAnyH_take (i := 1) (oi := { dst := some 95, op := Op.load 3 (Operand.tmp 94), type := 3, pos := "ref.go:59", after := #[{ on := 0, ground := Ground.data }], guard := none }) (v := ?_) rfl (by kernel_rfl) (by kernel_rfl) (by kernel_rfl) (fun _ _ _ h => h) (Or.inl ⟨by rfl, ?_⟩) (by assumption) ?_
  rotate_left 1
  · intro w' hSw; (try dsimp only at hSw); go_simp; (try with_reducible rfl)
  simp only [Act.put, List.setIfInBounds_toArray, List.set_cons_zero, List.set_cons_succ]
  refine wpAnyH_take (i := 2) (oi := { dst := some 96, op := Op.move (Operand.tmp 8), type := 27, pos := "ref.go:59", after := #[], guard := none }) (v := ?_) rfl (by kernel_rfl) (by kernel_rfl) (by kernel_rfl) (fun _ _ _ h => h) (Or.inl ⟨by rfl, ?_⟩) (by assumption) ?_
  rotate_left 1
  · intro w' hSw; (try dsimp only at hSw); go_simp; (try with_reducible rfl)
  simp only [Act.put, List.setIfInBounds_toArray, List.set_cons_zero, List.set_cons_succ]
  refine wpAnyH_take (i := 3) (oi := { dst := some 97, op := Op.move (Operand.tmp 8), type := 27, pos := "ref.go:59", after := #[], guard := none }) (v := ?_) rfl (by kernel_rfl) (by kernel_rfl) (by kernel_rfl) (fun _ _ _ h => h) (Or.inl ⟨by rfl, ?_⟩) (by assumption) ?_
  rotate_left 1
  · intro w' hSw; (try dsimp only at hSw); go_simp; (try with_reducible rfl)
  simp only [Act.put, List.setIfInBounds_toArray, List.set_cons_zero, List.set_cons_succ]
  refine wpAnyH_take (i := 4) (oi := { dst := some 98, op := Op.call { callee := Callee.builtin Builtin.len, args := #[Operand.tmp 97], argTypes := #[27] }, type := 3, pos := "ref.go:59", after := #[{ on := 3, ground := Ground.data }], guard := none }) (v := ?_) rfl (by kernel_rfl) (by kernel_rfl) (by kernel_rfl) (fun _ _ _ h => h) (Or.inl ⟨by rfl, ?_⟩) (by assumption) ?_
  rotate_left 1
  · intro w' hSw; (try dsimp only at hSw); go_simp; (try with_reducible rfl)
  simp only [Act.put, List.setIfInBounds_toArray, List.set_cons_zero, List.set_cons_succ]
  refine wpAnyH_take (i := 5) (oi := { dst := some 99, op := Op.binOp BinOp.sub 3 (Operand.tmp 98) (Operand.const (Value.int IntKind.i64 1)) 3, type := 3, pos := "ref.go:59", after := #[{ on := 4, ground := Ground.data }], guard := none }) (v := ?_) rfl (by kernel_rfl) (by kernel_rfl) (by kernel_rfl) (fun _ _ _ h => h) (Or.inl ⟨by rfl, ?_⟩) (by assumption) ?_
  rotate_left 1
  · intro w' hSw; (try dsimp only at hSw); go_simp; (try with_reducible rfl)
  simp only [Act.put, List.setIfInBounds_toArray, List.set_cons_zero, List.set_cons_succ]
  refine wpAnyH_take (i := 6) (oi := { dst := some 100, op := Op.slice 27 (Operand.tmp 96) none (some (Operand.tmp 99)) none, type := 27, pos := "ref.go:59", after := #[{ on := 2, ground := Ground.data }, { on := 5, ground := Ground.data }], guard := none }) (v := ?_) rfl (by kernel_rfl) (by kernel_rfl) (by kernel_rfl) (fun _ _ _ h => h) (Or.inl ⟨by rfl, ?_⟩) (by assumption) ?_
  rotate_left 1
  · intro w' hSw; (try dsimp only at hSw); go_simp; (try with_reducible rfl)
  simp only [Act.put, List.setIfInBounds_toArray, List.set_cons_zero, List.set_cons_succ]
  refine wpAnyH_take (i := 7) (oi := { dst := some 101, op := Op.build 29 #[(0, Operand.tmp 95), (1, Operand.tmp 100)], type := 29, pos := "ref.go:59", after := #[{ on := 1, ground := Ground.data }, { on := 6, ground := Ground.data }], guard := none }) (v := ?_) rfl (by kernel_rfl) (by kernel_rfl) (by kernel_rfl) (fun _ _ _ h => h) (Or.inl ⟨by rfl, ?_⟩) (by assumption) ?_
  rotate_left 1
  · intro w' hSw; (try dsimp only at hSw); go_simp; (try with_reducible rfl)
  simp only [Act.put, List.setIfInBounds_toArray, List.set_cons_zero, List.set_cons_succ]
  refine wpAnyH_ready (rs := [8]) (by kernel_rfl) (by simp) ?_
  refine AllReadyH.cons (o := { dst := none, op := Op.store 29 (Operand.tmp 4) (Operand.tmp 101), type := 0, pos := "ref.go:59", after := #[{ on := 7, ground := Ground.data }, { on := 0, ground := Ground.phase }, { on := 1, ground := Ground.phase }, { on := 2, ground := Ground.phase }, { on := 3, ground := Ground.phase }, { on := 4, ground := Ground.phase }, { on := 5, ground := Ground.phase }, { on := 6, ground := Ground.phase }, { on := 7, ground := Ground.phase }], guard := none }) rfl (fun K' hK => ?_) AllReadyH.nil
  refine step_stC (z' := z) (A' := some ⟨g, 0, none⟩) (n' := m) (c' := c3) rfl (.tmp 4) (.tmp 101) rfl rfl rfl HRD4.out ?_
  intro w5 hR5 hF5
  have s5 : w5.cell? ⟨w.heap.size, 0, none⟩ = some (.int .i64 (z : Nat)) := ((HL4.out.r0.under (w' := w4.drew) ((Below.refl _ _).drew)).fr hF5 (fun e => by have e' : w.heap.size = w.heap.size + 2 := e; omega)).at_ 0
  refine hK.out _ _ s5 (fun hHeld => ?_)
  clear hK K'
  try simp only [Act.put]
  refine wpAnyH_take (i := 9) (oi := { dst := some 5, op := Op.assign (Operand.const (Value.slice none 0 0)), type := 31, pos := "ref.go:59", after := #[{ on := 8, ground := Ground.chain }, { on := 0, ground := Ground.phase }, { on := 1, ground := Ground.phase }, { on := 2, ground := Ground.phase }, { on := 3, ground := Ground.phase }, { on := 4, ground := Ground.phase }, { on := 5, ground := Ground.phase }, { on := 6, ground := Ground.phase }, { on := 7, ground := Ground.phase }, { on := 8, ground := Ground.phase }], guard := none }) (v := ?_) rfl (by kernel_rfl) (by kernel_rfl) (by kernel_rfl) (fun _ _ _ h => h) (Or.inl ⟨by rfl, ?_⟩) (by assumption) ?_
  rotate_left 1
  · intro w' hSw; (try dsimp only at hSw); go_simp; (try with_reducible rfl)
  simp only [Act.put, List.setIfInBounds_toArray, List.set_cons_zero, List.set_cons_succ]
  refine wpAnyH_take (i := 10) (oi := { dst := some 6, op := Op.assign (Operand.const (Value.int IntKind.i64 0)), type := 3, pos := "ref.go:59", after := #[{ on := 9, ground := Ground.chain }, { on := 0, ground := Ground.phase }, { on := 1, ground := Ground.phase }, { on := 2, ground := Ground.phase }, { on := 3, ground := Ground.phase }, { on := 4, ground := Ground.phase }, { on := 5, ground := Ground.phase }, { on := 6, ground := Ground.phase }, { on := 7, ground := Ground.phase }, { on := 8, ground := Ground.phase }, { on := 9, ground := Ground.phase }], guard := none }) (v := ?_) rfl (by kernel_rfl) (by kernel_rfl) (by kernel_rfl) (fun _ _ _ h => h) (Or.inl ⟨by rfl, ?_⟩) (by assumption) ?_
  rotate_left 1
  · intro w' hSw; (try dsimp only at hSw); go_simp; (try with_reducible rfl)
  simp only [Act.put, List.setIfInBounds_toArray, List.set_cons_zero, List.set_cons_succ]
  refine wpAnyH_done (by kernel_rfl) ?_ _
  refine NoPanic.normal ?_
  go_wp2
  refine bodyPost_ret (res_ctt rfl rfl (hR5.load rcolT rfl)) rfl ?_
  exact END.out w5 ((Fr.drew (· = w.heap.size + 2) w4).trans hF5)
-- END14
end
end Go.Proofs.Ytlblbhndfclhnaa
