/- TbR7, TbR8 -/
import Derived.Test.YtnjfogeefdmlkaaDoorQl13
import Derived.Deep.MidRow
import Derived.Deep.RegionHeld3
namespace Go.Proofs.YtnjfogeefdmlkaaDoor
open Go.RowKit
set_option maxRecDepth 20000
set_option linter.unusedSimpArgs false
set_option linter.unusedVariables false

theorem entT2 : RT Tryd.prog 87 3 := ⟨⟨_, Tryd.underlying87, rfl⟩, by kernel_rfl⟩
/-- What is known, and what was made behind the four blocks that a call begins with. -/
abbrev KK (K : Nat → Prop) (w w5 : World) (y : Nat) : Prop := (K y ∧ y < w.heap.size) ∨ (w.heap.size + 4 ≤ y ∧ y < w5.heap.size)
section
variable {K : Nat → Prop} {w w5 w7 w8 : World} {d : Rt} {t : Tb}
theorem IntsV.kk {A : Option Addr} {n : Nat} {xs : List Int} (h : IntsV K w A n xs) (hb : Below w.heap.size w w5) : IntsV (KK K w w5) w5 A n xs := by
  obtain ⟨vs, h1, h2, h3⟩ := h
  exact ⟨vs, h1, (h2.lt.stays ⟨hb.size, fun y hy => hb.block y hy.2⟩).mono (fun _ hy => .inl hy), h3⟩
theorem EntsV.kk {A : Option Addr} {n : Nat} {xs : List En} (h : EntsV K w A n xs) (hb : Below w.heap.size w w5) : EntsV (KK K w w5) w5 A n xs :=
  (h.lt.stays ⟨hb.size, fun y hy => hb.block y hy.2⟩).mono (fun _ hy => .inl hy)
theorem PartsV.kk {A : Option Addr} {n : Nat} {xs : List Pt} (h : PartsV K w A n xs) (hb : Below w.heap.size w w5) : PartsV (KK K w w5) w5 A n xs :=
  (h.lt.stays ⟨hb.size, fun y hy => hb.block y hy.2⟩).mono (fun _ hy => .inl hy)
theorem VB.kk {u : Value} {l : List UInt8} (h : VB K w u l) (hb : Below w.heap.size w w5) : VB (KK K w w5) w5 u l :=
  (h.lt.stays ⟨hb.size, fun y hy => hb.block y hy.2⟩).mono (fun _ hy => .inl hy)
theorem RtS.kk (h : RtS K w d t) (hb : Below w.heap.size w w5) : RtS (KK K w w5) w5 d t := ⟨h.c.kk hb, h.s.kk hb, h.r.kk hb⟩
theorem EE.dr {x : En} {r : List Value} (h : EE (KK K w w5) w5 x r) : EE (KK K w w5.drew) w5.drew x r := by
  obtain ⟨A, n, c, e, hu⟩ := h
  exact ⟨A, n, c, e, hu.below (Below.refl _ _).drew⟩
theorem RtS.dr {d' : Rt} {t' : Tb} (h : RtS (KK K w w5) w5 d' t') : RtS (KK K w w5.drew) w5.drew d' t' := h.below (Below.refl _ _).drew
/-- Behind the stores of both results. -/
theorem TRes.fin {d' : Rt} {t' : Tb} {x : Tl} {DA : Option Addr} {dn dc : Nat} {PA : Option Addr} {pn pc : Nat} (hb : Below w.heap.size w w5) (hR : RtS (KK K w w5) w5 d' t') (hT : TlS (KK K w w5) w5 DA dn dc PA pn x)
    (h7 : Fr (· = w.heap.size + 2) w5 w7) (h8 : Fr (· = w.heap.size + 3) w7 w8) : TRes K w t' x (.returned (.tuple #[.agg d'.cs, .agg (tlc DA dn dc PA pn pc x)])) w8 := by
  have hF : Fr (fun y => y = w.heap.size + 2 ∨ y = w.heap.size + 3) w5 w8 := (h7.mono fun y hy => .inl hy).trans (h8.mono fun y hy => .inr hy)
  have hs := hF.size
  have hbs := hb.size
  have st : WStays (fun y => KK K w w5 y ∧ y < w5.heap.size) w5 w8 := ⟨hs, fun y hy => hF.block y hy.2 (fun e => by rcases hy.1 with h1 | h1 <;> rcases e with e | e <;> omega)⟩
  have lt : ∀ y, KK K w w5 y → KK K w w5 y ∧ y < w5.heap.size := fun y hy => ⟨hy, by rcases hy with h1 | h1 <;> omega⟩
  have out : ∀ y, KK K w w5 y ∧ y < w5.heap.size → K y ∨ (w.heap.size ≤ y ∧ y < w8.heap.size) := fun y hy => by
    rcases hy.1 with h1 | h1
    · exact .inl h1.1
    · exact .inr (by omega)
  exact ⟨d', DA, dn, dc, PA, pn, pc, rfl, ((hR.mono lt).stays st).mono out, ((hT.mono lt).stays st).mono out, hb.trans (hF.toBelow (fun y hy => by rcases hy with e | e <;> omega) hbs)⟩
end
theorem VB.non2 (K : Nat → Prop) (w : World) : VB K w (.slice none 0 0) [] := ⟨none, 0, 0, rfl, Rd.nil _ _, fun b o e => by cases e⟩
theorem TlS.err (K : Nat → Prop) (w : World) (n : Int) : TlS K w none 0 0 none 0 (.e n) := ⟨⟨none, 0, 0, rfl, Rd.nil _ _, fun b o e => by cases e⟩, PartsV.nil _ _ _⟩

section
variable {K : Nat → Prop} {w : World} {d : Rt} {t : Tb}
set_option maxHeartbeats 4000000 in
theorem Go_range (h : RtS K w d t) (ok : t.Ok) (x : Tst) (hx : TOk K w x) (h1 : 1 ≤ x.d ∧ x.d ≤ 4) (hr : ¬ (0 ≤ x.row ∧ x.row < t.rows.length)) :
    Calls Tryd.prog 21 #[.agg d.cs, .agg x.cs] w (TRes K w t (.e 2)) := by
  have hL := TLaid.new w d x
  have hrn := h.rn
  have hcn := h.cn
  have hsn := h.sn
  obtain ⟨CA, cn, cc, SA, sn, sc, RA, rn, rc⟩ := d
  obtain ⟨xd, xi, xg, pA, pn, pc, ps, row, comp, bA, bn, bc, b⟩ := x
  simp only at hrn hcn hsn h1 hr
  simp only [Rt.cs, Tst.cs, Tst.ts] at hL ⊢
  obtain ⟨w1, hw1⟩ : ∃ w1, w1 = (((w.alloc (.cells #[.slice CA cn cc, .slice SA sn sc, .slice RA rn rc] 40)).alloc (.cells #[.int .i64 xd, .int .i64 xi, .int .i64 xg, .slice pA pn pc, .int .i64 row, .int .i64 comp, .slice bA bn bc] 65)).alloc (.cells #[.slice none 0 0, .slice none 0 0, .slice none 0 0] 40)).alloc (.cells #[.slice none 0 0, .slice none 0 0, .int .i64 0, .int .i64 0, .bool false, .int .i64 0] 62) := ⟨_, rfl⟩
  rw [← hw1] at hL
  have p0 : w1.cell? ⟨w.heap.size + 1, 0, none⟩ = some (.int .i64 xd) := hL.st.at_ 0
  have p4 : w1.cell? ⟨w.heap.size + 1, 4, none⟩ = some (.int .i64 row) := hL.st.at_ 4
  have q2 : w1.cell? ⟨w.heap.size, 2, none⟩ = some (.slice RA rn rc) := hL.r0.at_ 2
  have HL := Lib.hid hL
  have H := Lib.hid h
  have HX := Lib.hid hx
  have HOK := Lib.hid ok
  have HRN := Lib.hid hrn
  have HCN := Lib.hid hcn
  have HSN := Lib.hid hsn
  have d1 : decide (xd < 1) = false := decide_eq_false (by omega)
  have d4 : decide (4 < xd) = false := decide_eq_false (by omega)
  rw [← hrn] at hr
  clear hL h hx ok hrn hcn hsn
  by_cases hr0 : row < 0
  · have e0 : decide (row < 0) = true := decide_eq_true hr0
    go_enter Tryd.func21, Tryd.ntmps21
    go_wp2_with (first
      | (rw [← hw1]; clear hw1)
      | (with_reducible refine wpList_ldS rtabT rfl rfl (.tmp 2) rfl rfl HL.out.r0 ?_)
      | (with_reducible refine wpList_stS (cs' := #[.slice CA cn cc, .slice SA sn sc, .slice RA rn rc]) rtabT rfl rfl (by simp [Value.oneCell']) rfl (.tmp 4) (.tmp 34) rfl rfl rfl HL.out.r2 ?_; intro w7 hR7 hF7)
      | (with_reducible refine wpList_stS (cs' := #[.slice none 0 0, .slice none 0 0, .int .i64 0, .int .i64 0, .bool false, .int .i64 2]) toldT rfl rfl (by simp [tlc, Value.oneCell']) rfl (.tmp 5) (.tmp 35) rfl rfl rfl (HL.out.r3.fr hF7 (fun e => by have e' : w.heap.size + 3 = w.heap.size + 2 := e; omega)) ?_; intro w8 hR8 hF8))
    refine bodyPost_ret (res_cc rfl rfl ((hR7.fr hF8 (fun e => by have e' : w.heap.size + 2 = w.heap.size + 3 := e; omega)).load rtabT rfl) rfl (hR8.load toldT rfl)) rfl ?_
    exact TRes.fin HL.out.hb (H.out.kk HL.out.hb) (TlS.err _ _ 2) hF7 hF8
  · have e0 : decide (row < 0) = false := decide_eq_false hr0
    have e1 : decide ((rn : Int) ≤ row) = true := decide_eq_true (by omega)
    have e2 : (rn : Int) ≤ row := by omega
    go_enter Tryd.func21, Tryd.ntmps21
    go_wp2_with (first
      | (rw [← hw1]; clear hw1)
      | (with_reducible refine wpList_ldS rtabT rfl rfl (.tmp 2) rfl rfl HL.out.r0 ?_)
      | (with_reducible refine wpList_stS (cs' := #[.slice CA cn cc, .slice SA sn sc, .slice RA rn rc]) rtabT rfl rfl (by simp [Value.oneCell']) rfl (.tmp 4) (.tmp 34) rfl rfl rfl HL.out.r2 ?_; intro w7 hR7 hF7)
      | (with_reducible refine wpList_stS (cs' := #[.slice none 0 0, .slice none 0 0, .int .i64 0, .int .i64 0, .bool false, .int .i64 2]) toldT rfl rfl (by simp [tlc, Value.oneCell']) rfl (.tmp 5) (.tmp 35) rfl rfl rfl (HL.out.r3.fr hF7 (fun e => by have e' : w.heap.size + 3 = w.heap.size + 2 := e; omega)) ?_; intro w8 hR8 hF8))
    refine bodyPost_ret (res_cc rfl rfl ((hR7.fr hF8 (fun e => by have e' : w.heap.size + 2 = w.heap.size + 3 := e; omega)).load rtabT rfl) rfl (hR8.load toldT rfl)) rfl ?_
    exact TRes.fin HL.out.hb (H.out.kk HL.out.hb) (TlS.err _ _ 2) hF7 hF8
set_option maxHeartbeats 4000000 in
theorem Go_parts (h : RtS K w d t) (ok : t.Ok) (x : Tst) (hx : TOk K w x) (h1 : x.d = 3) (hr : 0 ≤ x.row ∧ x.row < t.rows.length) :
    Calls Tryd.prog 21 #[.agg d.cs, .agg x.cs] w (TRes K w t { Tl.e 0 with parts := (t.rows.getD x.row.toNat noEn).2 }) := by
  have hL := TLaid.new w d x
  have hrn := h.rn
  have hcn := h.cn
  have hsn := h.sn
  obtain ⟨CA, cn, cc, SA, sn, sc, RA, rn, rc⟩ := d
  obtain ⟨xd, xi, xg, pA, pn, pc, ps, row, comp, bA, bn, bc, b⟩ := x
  simp only at hrn hcn hsn h1 hr
  simp only [Rt.cs, Tst.cs, Tst.ts] at hL ⊢
  obtain ⟨w1, hw1⟩ : ∃ w1, w1 = (((w.alloc (.cells #[.slice CA cn cc, .slice SA sn sc, .slice RA rn rc] 40)).alloc (.cells #[.int .i64 xd, .int .i64 xi, .int .i64 xg, .slice pA pn pc, .int .i64 row, .int .i64 comp, .slice bA bn bc] 65)).alloc (.cells #[.slice none 0 0, .slice none 0 0, .slice none 0 0] 40)).alloc (.cells #[.slice none 0 0, .slice none 0 0, .int .i64 0, .int .i64 0, .bool false, .int .i64 0] 62) := ⟨_, rfl⟩
  rw [← hw1] at hL
  have p0 : w1.cell? ⟨w.heap.size + 1, 0, none⟩ = some (.int .i64 xd) := hL.st.at_ 0
  have p4 : w1.cell? ⟨w.heap.size + 1, 4, none⟩ = some (.int .i64 row) := hL.st.at_ 4
  have q2 : w1.cell? ⟨w.heap.size, 2, none⟩ = some (.slice RA rn rc) := hL.r0.at_ 2
  have HL := Lib.hid hL
  have H := Lib.hid h
  have HX := Lib.hid hx
  have HOK := Lib.hid ok
  have HRN := Lib.hid hrn
  have HCN := Lib.hid hcn
  have HSN := Lib.hid hsn
  subst h1
  obtain ⟨i, rfl⟩ : ∃ i : Nat, row = (i : Int) := ⟨row.toNat, by omega⟩
  have hil : i < t.rows.length := by omega
  have eid : ((i : Int)).toNat = i := rfl
  rw [eid]
  obtain ⟨y, hy⟩ : ∃ y, y = t.rows.getD i noEn := ⟨_, rfl⟩
  rw [← hy]
  have hyr : t.rows[i]? = some y := by rw [hy, List.getD_eq_getElem?_getD, List.getElem?_eq_getElem hil]; rfl
  obtain ⟨rb, ro, PA, pn', pc', hRA, _, hrb0, _, _, m2', hP⟩ := EntsV.cell h.r hyr
  have hrb : rb < w1.heap.size := Nat.lt_of_lt_of_le hrb0 hL.hb.size
  have m2 := (hL.hb.cell (p := ⟨rb, ro + i * 3 + 2, none⟩) hrb0).trans m2'
  simp only at hRA
  subst hRA
  rw [← hrn] at hr hil
  have i0 : (0 : Int) ≤ (i : Int) := by omega
  have i1 : (i : Int) < (rn : Int) := by omega
  have dr0 : decide ((i : Int) < 0) = false := decide_eq_false (by omega)
  have dr1 : decide ((rn : Int) ≤ (i : Int)) = false := decide_eq_false (by omega)
  have hrbw : rb < w.heap.size := hrb0
  have HP := Lib.hid hP
  have SS : ∀ W, Fr (fun y => y = w.heap.size + 2 ∨ y = w.heap.size + 3) w1 W → (W.cell? ⟨w.heap.size, 0, none⟩ = some (.slice CA cn cc) ∧ W.cell? ⟨w.heap.size, 1, none⟩ = some (.slice SA sn sc) ∧ W.cell? ⟨w.heap.size, 2, none⟩ = some (.slice (some ⟨rb, ro, none⟩) rn rc) ∧ W.cell? ⟨w.heap.size + 1, 4, none⟩ = some (.int .i64 (i : Int)) ∧ W.cell? ⟨rb, ro + i * 3 + 2, none⟩ = some (.slice PA pn' pc')) := fun W hF => by
    have r0 := hL.r0.fr hF (fun e => by rcases e with e | e <;> omega)
    have st := hL.st.fr hF (fun e => by rcases e with e | e <;> omega)
    exact ⟨r0.at_ 0, r0.at_ 1, r0.at_ 2, st.at_ 4, (World.cell?_of_block (a := ⟨rb, ro + i * 3 + 2, none⟩) (hF.block rb hrb (fun e => by rcases e with e | e <;> omega))).trans m2⟩
  have SS := Lib.hid SS
  clear hL h hx ok hrn hcn hsn m2 m2' hyr hy
  go_enter Tryd.func21, Tryd.ntmps21
  go_wp2_with (first
    | (rw [← hw1]; clear hw1))
  refine wp_region_noPanic ?_
  refine wp_region_held_drew (S := fun W => W.cell? ⟨w.heap.size, 0, none⟩ = some (.slice CA cn cc) ∧ W.cell? ⟨w.heap.size, 1, none⟩ = some (.slice SA sn sc) ∧ W.cell? ⟨w.heap.size, 2, none⟩ = some (.slice (some ⟨rb, ro, none⟩) rn rc) ∧ W.cell? ⟨w.heap.size + 1, 4, none⟩ = some (.int .i64 (i : Int)) ∧ W.cell? ⟨rb, ro + i * 3 + 2, none⟩ = some (.slice PA pn' pc')) (by kernel_rfl) (SS.out _ (Fr.drew _ w1)) (fun hHeld => ?_)
  refine wpAnyH_take (i := 0) (oi := { dst := some 39, op := Op.load 40 (Operand.tmp 2), type := 40, pos := "ref.go:111", after := #[], guard := none }) (v := ?_) rfl (by kernel_rfl) (by kernel_rfl) (by kernel_rfl) (fun _ _ _ h => h) (Or.inl ⟨by rfl, ?_⟩) (by assumption) ?_
  rotate_left 1
  · intro w' hSw; (try dsimp only at hSw); go_simp; (try with_reducible rfl)
  simp only [Act.put, List.setIfInBounds_toArray, List.set_cons_zero, List.set_cons_succ]
  refine wpAnyH_take (i := 1) (oi := { dst := some 40, op := Op.fieldAddr 40 (Operand.tmp 2) 2, type := 0, pos := "ref.go:111", after := #[{ on := 9, ground := Ground.gcOnly Departure.lateStores }], guard := none }) (v := ?_) rfl (by kernel_rfl) (by kernel_rfl) (by kernel_rfl) (fun _ _ _ h => h) (Or.inl ⟨by rfl, ?_⟩) (by assumption) ?_
  rotate_left 1
  · intro w' hSw; (try dsimp only at hSw); go_simp; (try with_reducible rfl)
  simp only [Act.put, List.setIfInBounds_toArray, List.set_cons_zero, List.set_cons_succ]
  refine wpAnyH_take (i := 2) (oi := { dst := some 41, op := Op.load 38 (Operand.tmp 40), type := 38, pos := "ref.go:111", after := #[{ on := 1, ground := Ground.data }, { on := 9, ground := Ground.gcOnly Departure.lateStores }], guard := none }) (v := ?_) rfl (by kernel_rfl) (by kernel_rfl) (by kernel_rfl) (fun _ _ _ h => h) (Or.inl ⟨by rfl, ?_⟩) (by assumption) ?_
  rotate_left 1
  · intro w' hSw; (try dsimp only at hSw); go_simp; (try with_reducible rfl)
  simp only [Act.put, List.setIfInBounds_toArray, List.set_cons_zero, List.set_cons_succ]
  refine wpAnyH_take (i := 3) (oi := { dst := some 42, op := Op.fieldAddr 65 (Operand.tmp 3) 3, type := 0, pos := "ref.go:111", after := #[{ on := 9, ground := Ground.gcOnly Departure.lateStores }], guard := none }) (v := ?_) rfl (by kernel_rfl) (by kernel_rfl) (by kernel_rfl) (fun _ _ _ h => h) (Or.inl ⟨by rfl, ?_⟩) (by assumption) ?_
  rotate_left 1
  · intro w' hSw; (try dsimp only at hSw); go_simp; (try with_reducible rfl)
  simp only [Act.put, List.setIfInBounds_toArray, List.set_cons_zero, List.set_cons_succ]
  refine wpAnyH_take (i := 4) (oi := { dst := some 43, op := Op.load 3 (Operand.tmp 42), type := 3, pos := "ref.go:111", after := #[{ on := 3, ground := Ground.data }, { on := 9, ground := Ground.gcOnly Departure.lateStores }], guard := none }) (v := ?_) rfl (by kernel_rfl) (by kernel_rfl) (by kernel_rfl) (fun _ _ _ h => h) (Or.inl ⟨by rfl, ?_⟩) (by assumption) ?_
  rotate_left 1
  · intro w' hSw; (try dsimp only at hSw); go_simp; (try with_reducible rfl)
  simp only [Act.put, List.setIfInBounds_toArray, List.set_cons_zero, List.set_cons_succ]
  refine wpAnyH_take (i := 5) (oi := { dst := some 44, op := Op.indexAddr 38 (Operand.tmp 41) (Operand.tmp 43), type := 0, pos := "ref.go:111", after := #[{ on := 2, ground := Ground.data }, { on := 4, ground := Ground.data }, { on := 9, ground := Ground.gcOnly Departure.lateStores }], guard := none }) (v := ?_) rfl (by kernel_rfl) (by kernel_rfl) (by kernel_rfl) (fun _ _ _ h => h) (Or.inl ⟨by rfl, ?_⟩) (by assumption) ?_
  rotate_left 1
  · intro w' hSw; (try dsimp only at hSw); go_simp; (try with_reducible rfl)
  simp only [Act.put, List.setIfInBounds_toArray, List.set_cons_zero, List.set_cons_succ]
  refine wpAnyH_take (i := 6) (oi := { dst := some 45, op := Op.fieldAddr 87 (Operand.tmp 44) 1, type := 0, pos := "ref.go:111", after := #[{ on := 5, ground := Ground.data }, { on := 9, ground := Ground.gcOnly Departure.lateStores }], guard := none }) (v := ?_) rfl (by kernel_rfl) (by kernel_rfl) (by kernel_rfl) (fun _ _ _ h => h) (Or.inl ⟨by rfl, ?_⟩) (by assumption) ?_
  rotate_left 1
  · intro w' hSw; (try dsimp only at hSw); go_simp; (try with_reducible rfl)
  simp only [Act.put, List.setIfInBounds_toArray, List.set_cons_zero, List.set_cons_succ]
  refine wpAnyH_take (i := 7) (oi := { dst := some 46, op := Op.load 49 (Operand.tmp 45), type := 49, pos := "ref.go:111", after := #[{ on := 6, ground := Ground.data }, { on := 9, ground := Ground.gcOnly Departure.lateStores }], guard := none }) (v := ?_) rfl (by kernel_rfl) (by kernel_rfl) (by kernel_rfl) (fun _ _ _ h => h) (Or.inl ⟨by rfl, ?_⟩) (by assumption) ?_
  rotate_left 1
  · intro w' hSw; (try dsimp only at hSw); go_simp; (try with_reducible rfl)
  simp only [Act.put, List.setIfInBounds_toArray, List.set_cons_zero, List.set_cons_succ]
  refine wpAnyH_take (i := 8) (oi := { dst := some 47, op := Op.build 62 #[(1, Operand.tmp 46)], type := 62, pos := "ref.go:111", after := #[{ on := 7, ground := Ground.data }, { on := 9, ground := Ground.gcOnly Departure.lateStores }], guard := none }) (v := ?_) rfl (by kernel_rfl) (by kernel_rfl) (by kernel_rfl) (fun _ _ _ h => h) (Or.inl ⟨by rfl, ?_⟩) (by assumption) ?_
  rotate_left 1
  · intro w' hSw; (try dsimp only at hSw); go_simp; (try with_reducible rfl)
  simp only [Act.put, List.setIfInBounds_toArray, List.set_cons_zero, List.set_cons_succ]
  refine wpAnyH_ready (rs := [9]) (by kernel_rfl) (by simp) ?_
  refine AllReadyH.cons (o := { dst := none, op := Op.store 40 (Operand.tmp 4) (Operand.tmp 39), type := 0, pos := "ref.go:111", after := #[{ on := 0, ground := Ground.data }, { on := 0, ground := Ground.phase }, { on := 1, ground := Ground.textOnly Departure.lateStores }, { on := 2, ground := Ground.textOnly Departure.lateStores }, { on := 3, ground := Ground.textOnly Departure.lateStores }, { on := 4, ground := Ground.textOnly Departure.lateStores }, { on := 5, ground := Ground.textOnly Departure.lateStores }, { on := 6, ground := Ground.textOnly Departure.lateStores }, { on := 7, ground := Ground.textOnly Departure.lateStores }, { on := 8, ground := Ground.textOnly Departure.lateStores }], guard := none }) rfl (fun K' hK => ?_) AllReadyH.nil
  refine step_stS (cs' := #[.slice CA cn cc, .slice SA sn sc, .slice (some ⟨rb, ro, none⟩) rn rc]) rtabT rfl rfl (by simp [Value.oneCell']) rfl (.tmp 4) (.tmp 39) rfl rfl rfl (HL.out.next (Below.refl _ _).drew).r2 ?_
  intro w7 hR7 hF7
  have f7 : Fr (fun y => y = w.heap.size + 2 ∨ y = w.heap.size + 3) w1 w7 := (Fr.drew _ w1).trans (hF7.mono (fun y hy => Or.inl hy))
  have s7 := SS.out w7 f7
  refine hK.out _ _ s7 (fun hHeld => ?_)
  clear hK K'
  try simp only [Act.put]
  refine wpAnyH_ready (rs := [10]) (by kernel_rfl) (by simp) ?_
  refine AllReadyH.cons (o := { dst := none, op := Op.store 62 (Operand.tmp 5) (Operand.tmp 47), type := 0, pos := "ref.go:111", after := #[{ on := 8, ground := Ground.data }, { on := 9, ground := Ground.chain }, { on := 0, ground := Ground.phase }, { on := 1, ground := Ground.phase }, { on := 2, ground := Ground.phase }, { on := 3, ground := Ground.phase }, { on := 4, ground := Ground.phase }, { on := 5, ground := Ground.phase }, { on := 6, ground := Ground.phase }, { on := 7, ground := Ground.phase }, { on := 8, ground := Ground.phase }, { on := 9, ground := Ground.phase }], guard := none }) rfl (fun K' hK => ?_) AllReadyH.nil
  refine step_stS (cs' := tlc none 0 0 PA pn' pc' { Tl.e 0 with parts := y.2 }) toldT rfl rfl (by simp [tlc, Value.oneCell']) rfl (.tmp 5) (.tmp 47) rfl rfl rfl ((HL.out.next (Below.refl _ _).drew).r3.fr hF7 (fun e => by have e' : w.heap.size + 3 = w.heap.size + 2 := e; omega)) ?_
  intro w8 hR8 hF8
  have s8 := SS.out w8 (f7.trans (hF8.mono (fun y hy => Or.inr hy)))
  refine hK.out _ _ s8 (fun hHeld => ?_)
  clear hK K'
  try simp only [Act.put]
  refine wpAnyH_done (by kernel_rfl) ?_ _
  refine NoPanic.normal ?_
  clear s7 s8 hHeld
  go_wp2
  refine bodyPost_ret (res_cc rfl rfl ((hR7.fr hF8 (fun e => by have e' : w.heap.size + 2 = w.heap.size + 3 := e; omega)).load rtabT rfl) rfl (hR8.load toldT rfl)) rfl ?_
  exact TRes.fin (HL.out.hb.trans ((Below.refl _ _).drew.mono HL.out.hb.size)) (H.out.kk (HL.out.hb.trans ((Below.refl _ _).drew.mono HL.out.hb.size))) ⟨VB.non2 _ _, HP.out.kk (HL.out.hb.trans ((Below.refl _ _).drew.mono HL.out.hb.size))⟩ hF7 hF8
set_option maxHeartbeats 4000000 in
theorem Go_drop (h : RtS K w d t) (ok : t.Ok) (x : Tst) (hx : TOk K w x) (h1 : x.d = 4) (hr : 0 ≤ x.row ∧ x.row < t.rows.length) :
    Calls Tryd.prog 21 #[.agg d.cs, .agg x.cs] w (TRes K w ⟨t.cs, (t.rows.set x.row.toNat (t.rows.getD (t.rows.length - 1) noEn)).take (t.rows.length - 1)⟩ (if x.row.toNat = t.rows.length - 1 then .e 0 else { Tl.e 0 with id := (t.rows.getD (t.rows.length - 1) noEn).1, ok := true })) := by
  have hL := TLaid.new w d x
  have hrn := h.rn
  have hcn := h.cn
  have hsn := h.sn
  obtain ⟨CA, cn, cc, SA, sn, sc, RA, rn, rc⟩ := d
  obtain ⟨xd, xi, xg, pA, pn, pc, ps, row, comp, bA, bn, bc, b⟩ := x
  simp only at hrn hcn hsn h1 hr
  simp only [Rt.cs, Tst.cs, Tst.ts] at hL ⊢
  obtain ⟨w1, hw1⟩ : ∃ w1, w1 = (((w.alloc (.cells #[.slice CA cn cc, .slice SA sn sc, .slice RA rn rc] 40)).alloc (.cells #[.int .i64 xd, .int .i64 xi, .int .i64 xg, .slice pA pn pc, .int .i64 row, .int .i64 comp, .slice bA bn bc] 65)).alloc (.cells #[.slice none 0 0, .slice none 0 0, .slice none 0 0] 40)).alloc (.cells #[.slice none 0 0, .slice none 0 0, .int .i64 0, .int .i64 0, .bool false, .int .i64 0] 62) := ⟨_, rfl⟩
  rw [← hw1] at hL
  have p0 : w1.cell? ⟨w.heap.size + 1, 0, none⟩ = some (.int .i64 xd) := hL.st.at_ 0
  have p4 : w1.cell? ⟨w.heap.size + 1, 4, none⟩ = some (.int .i64 row) := hL.st.at_ 4
  have q2 : w1.cell? ⟨w.heap.size, 2, none⟩ = some (.slice RA rn rc) := hL.r0.at_ 2
  have HL := Lib.hid hL
  have H := Lib.hid h
  have HX := Lib.hid hx
  have HOK := Lib.hid ok
  have HRN := Lib.hid hrn
  have HCN := Lib.hid hcn
  have HSN := Lib.hid hsn
  subst h1
  obtain ⟨i, rfl⟩ : ∃ i : Nat, row = (i : Int) := ⟨row.toNat, by omega⟩
  have hil : i < t.rows.length := by omega
  have eid : ((i : Int)).toNat = i := rfl
  have hrnl : rn ≤ 1024 := by rw [hrn]; exact ok.n
  rw [eid]
  obtain ⟨last, hlast⟩ : ∃ last, last = t.rows.length - 1 := ⟨_, rfl⟩
  rw [← hlast]
  obtain ⟨y, hy⟩ : ∃ y, y = t.rows.getD last noEn := ⟨_, rfl⟩
  rw [← hy]
  have hyr : t.rows[last]? = some y := by rw [hy, List.getD_eq_getElem?_getD, List.getElem?_eq_getElem (by omega)]; rfl
  obtain ⟨tl, htl⟩ : ∃ tl : Tl, tl = (if i = last then .e 0 else { Tl.e 0 with id := y.1, ok := true }) := ⟨_, rfl⟩
  rw [← htl]
  have HTL := Lib.hid htl
  obtain ⟨T', hT'⟩ : ∃ T' : Tb, T' = ⟨t.cs, (t.rows.set i y).take last⟩ := ⟨_, rfl⟩
  rw [← hT']
  have HT' := Lib.hid hT'
  clear hy htl hT'
  obtain ⟨rvs, hrl, hrv, hrh⟩ := h.r
  simp only at hrl hrv
  obtain ⟨yr, hyl, ⟨YA, yn, yc, hye, hyp⟩, hyc⟩ := hrh.at_ hyr
  subst hye
  have hrv1 := hrv.lt.stays (w' := w1) ⟨hL.hb.size, fun q hq => hL.hb.block q hq.2⟩
  have hone := hrh.one (fun _ _ h => EE.one h)
  obtain ⟨w2, hw2⟩ : ∃ w2, w2 = w1.alloc (.cells #[] 87) := ⟨_, rfl⟩
  have hb2 : Below w1.heap.size w1 w2 := by rw [hw2]; exact (Below.refl _ _).alloc (Nat.le_refl _) _
  have ho2 : w2.ownsRow w1.heap.size 87 3 (.slice (some ⟨w1.heap.size, 0, none⟩) 0 0) 0 [] := by rw [hw2]; exact World.ownsRow_lit w1 #[] 0 (Nat.le_refl _) (Nat.zero_le _) rfl
  have hL2 := hL.next hb2
  have q22 : w2.cell? ⟨w.heap.size, 2, none⟩ = some (.slice RA rn rc) := hL2.r0.at_ 2
  have hrv2 := hrv1.below hb2
  have HW2 := Lib.hid hw2
  have HO2 := Lib.hid ho2
  have HL2 := Lib.hid hL2
  have HRV2 := Lib.hid hrv2
  have HRH := Lib.hid hrh
  have HONE := Lib.hid hone
  have HYC := Lib.hid hyc
  have HYP := Lib.hid hyp
  have HYR := Lib.hid hyr
  have HLAST := Lib.hid hlast
  have HILT := Lib.hid hil
  have HB12 := Lib.hid hb2
  have hsz14 : w.heap.size + 4 ≤ w1.heap.size := hL.r3.lt
  rw [← hrn] at hr hil hlast
  have i0 : (0 : Int) ≤ (i : Int) := by omega
  have i1 : (i : Int) < (rn : Int) := by omega
  have dr0 : decide ((i : Int) < 0) = false := decide_eq_false (by omega)
  have dr1 : decide ((rn : Int) ≤ (i : Int)) = false := decide_eq_false (by omega)
  have dr2 : decide (rn ≤ i) = false := decide_eq_false (by omega)
  have dr3 : ¬ rn ≤ i := by omega
  have el : (rn : Int) - 1 = (last : Int) := by omega
  have l0 : (0 : Int) ≤ (last : Int) := by omega
  have l1 : (last : Int) < (rn : Int) := by omega
  have hrpos : 0 < rn := by omega
  clear hw2 ho2 hb2 hL2 hrv2 hrv1 hrv hrh hone hyc hyp hyr hlast hrl
  clear hL h hx ok hrn hcn hsn
  go_enter Tryd.func21, Tryd.ntmps21
  go_wp2_with (first
    | (rw [← hw1]; clear hw1)
    | (rw [← HW2.out])
    | (at_builtin; refine wpList_appW entsT rfl (.tmp 48) (.tmp 50) rfl w1.heap.size (.slice (some ⟨w1.heap.size, 0, none⟩) 0 0) 0 [] rfl HO2.out RA rn rc rvs rfl HRV2.out HONE.out (by omega) (by decide) HB12.out.size ?_; intro vR w3 ho3 hg3; rw [List.nil_append, Nat.zero_add] at ho3; have hb3 := HB12.out.trans (below_own HO2.out HB12.out.size hg3); have HL3 := Lib.hid (HL.out.next hb3); obtain ⟨AR, gc, rfl, _, _⟩ := own_slv ho3; have HO3 := Lib.hid ho3; have HB3 := Lib.hid hb3; clear hg3 hb3 ho3 q2 q22 p0; have p0 := HL3.out.st.at_ 0; have p0' : w3.cell? ⟨w.heap.size + 1, 0, none⟩ = some (.int .i64 4) := p0; clear p0))
  have ho3 := HO3.out
  rcases ho3.2 with ⟨_, h0⟩ | ⟨g, cap, cur, hv, hgB, hh, hnc, hcm, hs, _⟩
  · omega
  injection hv with e1 e2 e3
  subst e1 e3
  have hl3 := HL3.out.r3.lt
  have hv3 := ho3.1
  obtain ⟨w4, hw4⟩ : ∃ w4, w4 = w3.drew.setCells g (i * 3) [.int .i64 y.1.1, .int .i64 y.1.2, .slice YA yn yc] := ⟨_, rfl⟩
  have hd3 : Below w3.heap.size w3 w3.drew := (Below.refl _ _).drew
  have ho3d := own_keep ho3 hd3
  have hin3 : i * 3 + 3 ≤ rn * 3 := by omega
  have hla3 : last * 3 + 3 ≤ rn * 3 := by omega
  have ho4 : w4.ownsRow w1.heap.size 87 3 (.slice (some ⟨g, 0, none⟩) rn gc) rn (splice rvs (i * 3) [.int .i64 y.1.1, .int .i64 y.1.2, .slice YA yn yc]) := by
    rw [hw4, ← set3_splice _ _ _ (by omega)]
    exact own_setC (own_setC (own_setC ho3d (i * 3) _) (i * 3 + 1) _) (i * 3 + 2) _
  have hf4 : Fr (· = g) w3.drew w4 := by rw [hw4]; exact Fr.setCells (· = g) g rfl _ _ _
  have hrh4 : HdL 3 (EE K w) (splice rvs (i * 3) [.int .i64 y.1.1, .int .i64 y.1.2, .slice YA yn yc]) (t.rows.set i y) := HRH.out.setx HILT.out rfl ⟨YA, yn, yc, rfl, HYP.out⟩
  have hL4 : TLaid w w4 ⟨CA, cn, cc, SA, sn, sc, RA, rn, rc⟩ ⟨4, xi, xg, pA, pn, pc, ps, i, comp, bA, bn, bc, b⟩ := (HL3.out.next hd3).fr hf4 (fun q hq => by rw [show q = g from hq]; omega)
  -- the last element's cells, ahead and behind
  have hk3 : ∀ r u, r < 3 → ([Value.int .i64 y.1.1, .int .i64 y.1.2, .slice YA yn yc] : List Value)[r]? = some u → w3.drew.cell? ⟨g, last * 3 + r, none⟩ = some u := fun r u hr hu => by
    obtain ⟨_, _, e, _, _, hvr⟩ := own_vrow ho3d
    injection e with e1 _ _
    subst e1
    obtain ⟨b', o', e', _, _, hc⟩ := hvr.2.2 hrpos
    injection e' with e'
    injection e' with e1 e2
    subst e1 e2
    have := hc (last * 3 + r) u (by rw [HYC.out r hr]; exact hu)
    rw [Nat.zero_add] at this
    exact this
  have hk4 : ∀ r u, r < 3 → ([Value.int .i64 y.1.1, .int .i64 y.1.2, .slice YA yn yc] : List Value)[r]? = some u → w4.cell? ⟨g, last * 3 + r, none⟩ = some u := fun r u hr hu => by
    obtain ⟨_, _, e, _, _, hvr⟩ := own_vrow ho4
    injection e with e1 _ _
    subst e1
    obtain ⟨b', o', e', _, _, hc⟩ := hvr.2.2 hrpos
    injection e' with e'
    injection e' with e1 e2
    subst e1 e2
    have hst : (t.rows.set i y)[last]? = some y := by
      rw [List.getElem?_set]
      split
      · rename_i e; rw [if_pos (by rw [e]; have := (List.getElem?_eq_some_iff.1 HYR.out).1; omega)]
      · exact HYR.out
    have := hc (last * 3 + r) u (by rw [splice3_at rfl (by by_cases e : i = last; exact .inl (by rw [e]); exact .inr (by omega)) HYC.out hr (by omega) (by omega)]; exact hu)
    rw [Nat.zero_add] at this
    exact this
  have S3 : w3.drew.cell? ⟨w.heap.size + 1, 4, none⟩ = some (.int .i64 (i : Int)) ∧ w3.drew.cell? ⟨g, last * 3, none⟩ = some (.int .i64 y.1.1) ∧ w3.drew.cell? ⟨g, last * 3 + 1, none⟩ = some (.int .i64 y.1.2) ∧ w3.drew.cell? ⟨g, last * 3 + 2, none⟩ = some (.slice YA yn yc) := ⟨(HL3.out.next hd3).st.at_ 4, hk3 0 _ (by decide) rfl, hk3 1 _ (by decide) rfl, hk3 2 _ (by decide) rfl⟩
  have S4 : w4.cell? ⟨w.heap.size + 1, 4, none⟩ = some (.int .i64 (i : Int)) ∧ w4.cell? ⟨g, last * 3, none⟩ = some (.int .i64 y.1.1) ∧ w4.cell? ⟨g, last * 3 + 1, none⟩ = some (.int .i64 y.1.2) ∧ w4.cell? ⟨g, last * 3 + 2, none⟩ = some (.slice YA yn yc) := ⟨hL4.st.at_ 4, hk4 0 _ (by decide) rfl, hk4 1 _ (by decide) rfl, hk4 2 _ (by decide) rfl⟩
  have hki : ∀ r u, r < 3 → ([Value.int .i64 y.1.1, .int .i64 y.1.2, .slice YA yn yc] : List Value)[r]? = some u → w4.cell? ⟨g, i * 3 + r, none⟩ = some u := fun r u hr hu => by
    obtain ⟨_, _, e, _, _, hvr⟩ := own_vrow ho4
    injection e with e1 _ _
    subst e1
    obtain ⟨b', o', e', _, _, hc⟩ := hvr.2.2 hrpos
    injection e' with e'
    injection e' with e1 e2
    subst e1 e2
    have := hc (i * 3 + r) u (by rw [splice_at (by simp; omega) (by omega)]; exact hu)
    rw [Nat.zero_add] at this
    exact this
  obtain ⟨w5, hw5⟩ : ∃ w5, w5 = w4.setCell ⟨w.heap.size, 2, none⟩ (.slice (some ⟨g, 0, none⟩) last gc) := ⟨_, rfl⟩
  have hf5 : Fr (· = w.heap.size) w4 w5 := by rw [hw5]; exact Fr.setCell (own := (· = w.heap.size)) w4 (p := ⟨w.heap.size, 2, none⟩) rfl _
  have hR50 : Rec 40 w5 w.heap.size #[.slice CA cn cc, .slice SA sn sc, .slice (some ⟨g, 0, none⟩) last gc] := by rw [hw5]; exact hL4.r0.set 2 _
  have hR51 := hL4.st.fr hf5 (fun e => by have e' : w.heap.size + 1 = w.heap.size := e; omega)
  have hR52 := hL4.r2.fr hf5 (fun e => by have e' : w.heap.size + 2 = w.heap.size := e; omega)
  have hR53 := hL4.r3.fr hf5 (fun e => by have e' : w.heap.size + 3 = w.heap.size := e; omega)
  have hb5 : Below w.heap.size w w5 := hL4.hb.trans (hf5.toBelow (fun q hq => Nat.le_of_eq (show q = w.heap.size from hq).symm) hL4.hb.size)
  have ho5 := own_fr ho4 hf5 (fun q hq e => by injection hq with hq; have e1 : g = q := hq; have e2 : q = w.heap.size := e; omega)
  have hs45 := hf5.size
  have hgl5 : g < w5.heap.size := (own_geB ho5 rfl).2
  have hrt5 : RtS (KK K w w5) w5 ⟨CA, cn, cc, SA, sn, sc, some ⟨g, 0, none⟩, last, gc⟩ T' := by
    have hd5 := (hrh4.imp (E' := EE (KK K w w5) w5) (fun _ _ ⟨A, n, c, e, hu⟩ => ⟨A, n, c, e, hu.kk hb5⟩)).take last
    obtain ⟨_, _, e, _, _, vs', g1, g2, g3⟩ := own_rowsL (own_lessS ho5 (m := last) (by omega)) hd5 (by rw [List.length_take, List.length_set, ← HRN.out]; omega)
    injection e with e1 _ _
    subst e1
    rw [HT'.out]
    exact ⟨(H.out.kk hb5).c, (H.out.kk hb5).s, vs', g1, g2.mono (fun q hq => .inr (by omega)), g3⟩
  have hc2 : w4.cell? ⟨w.heap.size, 2, none⟩ = some (.slice RA rn rc) := hL4.r0.at_ 2
  have hz2 := hL4.r0.fz 2
  have hlc : (last : Int) ≤ (gc : Int) := by omega
  have hnc' : (rn : Int) ≤ (gc : Int) := by omega
  have SS5 : ∀ W, Fr (fun y => y = w.heap.size + 2 ∨ y = w.heap.size + 3) w5 W → (W.cell? ⟨w.heap.size, 0, none⟩ = some (.slice CA cn cc) ∧ W.cell? ⟨w.heap.size, 1, none⟩ = some (.slice SA sn sc) ∧ W.cell? ⟨w.heap.size, 2, none⟩ = some (.slice (some ⟨g, 0, none⟩) last gc) ∧ W.cell? ⟨w.heap.size + 1, 4, none⟩ = some (.int .i64 (i : Int)) ∧ W.cell? ⟨g, i * 3, none⟩ = some (.int .i64 y.1.1) ∧ W.cell? ⟨g, i * 3 + 1, none⟩ = some (.int .i64 y.1.2)) := fun W hF => by
    have r0 := hR50.fr hF (fun e => by rcases e with e | e <;> omega)
    have st := hR51.fr hF (fun e => by rcases e with e | e <;> omega)
    have kg : ∀ r u, r < 3 → ([Value.int .i64 y.1.1, .int .i64 y.1.2, .slice YA yn yc] : List Value)[r]? = some u → W.cell? ⟨g, i * 3 + r, none⟩ = some u := fun r u hr hu =>
      (World.cell?_of_block (w := w5) (a := ⟨g, i * 3 + r, none⟩) (hF.block g hgl5 (fun e => by rcases e with e | e <;> omega))).trans ((World.cell?_of_block (w := w4) (a := ⟨g, i * 3 + r, none⟩) (hf5.block g (own_geB ho4 rfl).2 (fun e => by have e' : g = w.heap.size := e; omega))).trans (hki r u hr hu))
    exact ⟨r0.at_ 0, r0.at_ 1, r0.at_ 2, st.at_ 4, kg 0 _ (by decide) rfl, kg 1 _ (by decide) rfl⟩
  have k54 : w5.cell? ⟨w.heap.size + 1, 4, none⟩ = some (.int .i64 (i : Int)) := hR51.at_ 4
  have SS5 := Lib.hid SS5
  have HO4 := Lib.hid ho3d
  have HW4 := Lib.hid hw4
  have HW5 := Lib.hid hw5
  have HR50 := Lib.hid hR50
  have HR52 := Lib.hid hR52
  have HR53 := Lib.hid hR53
  have HB5 := Lib.hid hb5
  have HRT5 := Lib.hid hrt5
  have i2 : i * 3 + 3 ≤ rn * 3 := by omega
  have HT6 := Lib.hid (show w3.drew.there g (i * 3) 3 from own_there ho3d i2)
  clear ho3 hh hs hv3 hd3 ho3d ho4 hf4 hrh4 hL4 hk3 hk4 hki hf5 hR50 hR51 hR52 hR53 hb5 ho5 hrt5 hgl5 hs45 hw4 hw5 hl3 hgB hcm hnc i2 hin3 hla3
  refine wp_region_noPanic ?_
  refine wp_region_held_drew (S := fun W => W.cell? ⟨w.heap.size + 1, 4, none⟩ = some (.int .i64 (i : Int)) ∧ W.cell? ⟨g, last * 3, none⟩ = some (.int .i64 y.1.1) ∧ W.cell? ⟨g, last * 3 + 1, none⟩ = some (.int .i64 y.1.2) ∧ W.cell? ⟨g, last * 3 + 2, none⟩ = some (.slice YA yn yc)) (by kernel_rfl) S3 (fun hHeld => ?_)
  refine wpAnyH_take (i := 0) (oi := { dst := some 58, op := Op.move (Operand.tmp 6), type := 38, pos := "ref.go:116", after := #[], guard := none }) (v := ?_) rfl (by kernel_rfl) (by kernel_rfl) (by kernel_rfl) (fun _ _ _ h => h) (Or.inl ⟨by rfl, ?_⟩) (by assumption) ?_
  rotate_left 1
  · intro w' hSw; (try dsimp only at hSw); go_simp; (try with_reducible rfl)
  simp only [Act.put, List.setIfInBounds_toArray, List.set_cons_zero, List.set_cons_succ]
  refine wpAnyH_take (i := 1) (oi := { dst := some 59, op := Op.fieldAddr 65 (Operand.tmp 3) 3, type := 0, pos := "ref.go:116", after := #[], guard := none }) (v := ?_) rfl (by kernel_rfl) (by kernel_rfl) (by kernel_rfl) (fun _ _ _ h => h) (Or.inl ⟨by rfl, ?_⟩) (by assumption) ?_
  rotate_left 1
  · intro w' hSw; (try dsimp only at hSw); go_simp; (try with_reducible rfl)
  simp only [Act.put, List.setIfInBounds_toArray, List.set_cons_zero, List.set_cons_succ]
  refine wpAnyH_take (i := 2) (oi := { dst := some 60, op := Op.load 3 (Operand.tmp 59), type := 3, pos := "ref.go:116", after := #[{ on := 1, ground := Ground.data }], guard := none }) (v := ?_) rfl (by kernel_rfl) (by kernel_rfl) (by kernel_rfl) (fun _ _ _ h => h) (Or.inl ⟨by rfl, ?_⟩) (by assumption) ?_
  rotate_left 1
  · intro w' hSw; (try dsimp only at hSw); go_simp; (try with_reducible rfl)
  simp only [Act.put, List.setIfInBounds_toArray, List.set_cons_zero, List.set_cons_succ]
  refine wpAnyH_take (i := 3) (oi := { dst := some 61, op := Op.move (Operand.tmp 6), type := 38, pos := "ref.go:116", after := #[], guard := none }) (v := ?_) rfl (by kernel_rfl) (by kernel_rfl) (by kernel_rfl) (fun _ _ _ h => h) (Or.inl ⟨by rfl, ?_⟩) (by assumption) ?_
  rotate_left 1
  · intro w' hSw; (try dsimp only at hSw); go_simp; (try with_reducible rfl)
  simp only [Act.put, List.setIfInBounds_toArray, List.set_cons_zero, List.set_cons_succ]
  refine wpAnyH_take (i := 4) (oi := { dst := some 62, op := Op.move (Operand.tmp 7), type := 3, pos := "ref.go:116", after := #[], guard := none }) (v := ?_) rfl (by kernel_rfl) (by kernel_rfl) (by kernel_rfl) (fun _ _ _ h => h) (Or.inl ⟨by rfl, ?_⟩) (by assumption) ?_
  rotate_left 1
  · intro w' hSw; (try dsimp only at hSw); go_simp; (try with_reducible rfl)
  simp only [Act.put, List.setIfInBounds_toArray, List.set_cons_zero, List.set_cons_succ]
  refine wpAnyH_take (i := 5) (oi := { dst := some 63, op := Op.indexAddr 38 (Operand.tmp 61) (Operand.tmp 62), type := 0, pos := "ref.go:116", after := #[{ on := 3, ground := Ground.data }, { on := 4, ground := Ground.data }], guard := none }) (v := ?_) rfl (by kernel_rfl) (by kernel_rfl) (by kernel_rfl) (fun _ _ _ h => h) (Or.inl ⟨by rfl, ?_⟩) (by assumption) ?_
  rotate_left 1
  · intro w' hSw; (try dsimp only at hSw); go_simp; (try with_reducible rfl)
  simp only [Act.put, List.setIfInBounds_toArray, List.set_cons_zero, List.set_cons_succ]
  refine wpAnyH_take (i := 6) (oi := { dst := some 64, op := Op.load 87 (Operand.tmp 63), type := 87, pos := "ref.go:116", after := #[{ on := 5, ground := Ground.data }], guard := none }) (v := ?_) rfl (by kernel_rfl) (by kernel_rfl) (by kernel_rfl) (fun _ _ _ h => h) (Or.inl ⟨by rfl, ?_⟩) (by assumption) ?_
  rotate_left 1
  · intro w' hSw; (try dsimp only at hSw); go_simp; (try with_reducible rfl)
  simp only [Act.put, List.setIfInBounds_toArray, List.set_cons_zero, List.set_cons_succ]
  refine wpAnyH_take (i := 7) (oi := { dst := some 65, op := Op.indexAddr 38 (Operand.tmp 58) (Operand.tmp 60), type := 0, pos := "ref.go:116", after := #[{ on := 0, ground := Ground.data }, { on := 2, ground := Ground.data }, { on := 0, ground := Ground.phase }, { on := 1, ground := Ground.phase }, { on := 2, ground := Ground.phase }, { on := 3, ground := Ground.phase }, { on := 4, ground := Ground.phase }, { on := 5, ground := Ground.phase }, { on := 6, ground := Ground.phase }], guard := none }) (v := ?_) rfl (by kernel_rfl) (by kernel_rfl) (by kernel_rfl) (fun _ _ _ h => h) (Or.inl ⟨by rfl, ?_⟩) (by assumption) ?_
  rotate_left 1
  · intro w' hSw; (try dsimp only at hSw); go_simp; (try with_reducible rfl)
  simp only [Act.put, List.setIfInBounds_toArray, List.set_cons_zero, List.set_cons_succ]
  refine wpAnyH_ready (rs := [8]) (by kernel_rfl) (by simp) ?_
  refine AllReadyH.cons (o := { dst := none, op := Op.store 87 (Operand.tmp 65) (Operand.tmp 64), type := 0, pos := "ref.go:116", after := #[{ on := 7, ground := Ground.data }, { on := 6, ground := Ground.data }, { on := 0, ground := Ground.phase }, { on := 1, ground := Ground.phase }, { on := 2, ground := Ground.phase }, { on := 3, ground := Ground.phase }, { on := 4, ground := Ground.phase }, { on := 5, ground := Ground.phase }, { on := 6, ground := Ground.phase }], guard := none }) rfl (fun K' hK => ?_) AllReadyH.nil
  refine step_stMid 87 rfl (.tmp 65) (.tmp 64) rfl g (i * 3) #[.int .i64 y.1.1, .int .i64 y.1.2, .slice YA yn yc] rfl rfl HT6.out (by kernel_rfl) (by simp [Value.oneCell']) ?_
  rw [show w3.drew.setCells g (i * 3) (#[Value.int .i64 y.1.1, .int .i64 y.1.2, .slice YA yn yc] : Array Value).toList = w4 from HW4.out.symm]
  refine hK.out _ _ S4 (fun hHeld => ?_)
  clear hK K'
  try simp only [Act.put]
  refine wpAnyH_done (by kernel_rfl) ?_ _
  refine NoPanic.normal ?_
  clear S3 hHeld
  by_cases hil : i = last
  · subst hil
    go_wp2_with (first
      | (rw [← HW5.out]; clear HW5 hc2 hz2 S4)
      | (with_reducible refine wpList_ldS rtabT rfl rfl (.tmp 2) rfl rfl HR50.out ?_)
      | (with_reducible refine wpList_stS (cs' := #[.slice CA cn cc, .slice SA sn sc, .slice (some ⟨g, 0, none⟩) i gc]) rtabT rfl rfl (by simp [Value.oneCell']) rfl (.tmp 4) (.tmp 74) rfl rfl rfl HR52.out ?_; intro w7 hR7 hF7)
      | (with_reducible refine wpList_stS (cs' := #[.slice none 0 0, .slice none 0 0, .int .i64 0, .int .i64 0, .bool false, .int .i64 0]) toldT rfl rfl (by simp [tlc, Value.oneCell']) rfl (.tmp 5) (.tmp 75) rfl rfl rfl (HR53.out.fr hF7 (fun e => by have e' : w.heap.size + 3 = w.heap.size + 2 := e; omega)) ?_; intro w8 hR8 hF8))
    refine bodyPost_ret (res_cc rfl rfl ((hR7.fr hF8 (fun e => by have e' : w.heap.size + 2 = w.heap.size + 3 := e; omega)).load rtabT rfl) rfl (hR8.load toldT rfl)) rfl ?_
    have e0 : tl = .e 0 := by rw [HTL.out, if_pos trivial]
    rw [e0]
    exact TRes.fin HB5.out HRT5.out (TlS.err _ _ 0) hF7 hF8
  · have d1 : decide ((i : Int) = (last : Int)) = false := decide_eq_false (by omega)
    have d2 : decide (i = last) = false := decide_eq_false hil
    go_wp2_with (first
      | (rw [← HW5.out]; clear HW5 hc2 hz2 S4))
    refine wp_region_noPanic ?_
    refine wp_region_held_drew (S := fun W => W.cell? ⟨w.heap.size, 0, none⟩ = some (.slice CA cn cc) ∧ W.cell? ⟨w.heap.size, 1, none⟩ = some (.slice SA sn sc) ∧ W.cell? ⟨w.heap.size, 2, none⟩ = some (.slice (some ⟨g, 0, none⟩) last gc) ∧ W.cell? ⟨w.heap.size + 1, 4, none⟩ = some (.int .i64 (i : Int)) ∧ W.cell? ⟨g, i * 3, none⟩ = some (.int .i64 y.1.1) ∧ W.cell? ⟨g, i * 3 + 1, none⟩ = some (.int .i64 y.1.2)) (by kernel_rfl) (SS5.out _ (Fr.drew _ w5)) (fun hHeld => ?_)
    refine wpAnyH_take (i := 0) (oi := { dst := some 76, op := Op.load 40 (Operand.tmp 2), type := 40, pos := "ref.go:121", after := #[], guard := none }) (v := ?_) rfl (by kernel_rfl) (by kernel_rfl) (by kernel_rfl) (fun _ _ _ h => h) (Or.inl ⟨by rfl, ?_⟩) (by assumption) ?_
    rotate_left 1
    · intro w' hSw; (try dsimp only at hSw); go_simp; (try with_reducible rfl)
    simp only [Act.put, List.setIfInBounds_toArray, List.set_cons_zero, List.set_cons_succ]
    refine wpAnyH_take (i := 1) (oi := { dst := some 77, op := Op.move (Operand.tmp 6), type := 38, pos := "ref.go:121", after := #[{ on := 8, ground := Ground.gcOnly Departure.lateStores }], guard := none }) (v := ?_) rfl (by kernel_rfl) (by kernel_rfl) (by kernel_rfl) (fun _ _ _ h => h) (Or.inl ⟨by rfl, ?_⟩) (by assumption) ?_
    rotate_left 1
    · intro w' hSw; (try dsimp only at hSw); go_simp; (try with_reducible rfl)
    simp only [Act.put, List.setIfInBounds_toArray, List.set_cons_zero, List.set_cons_succ]
    refine wpAnyH_take (i := 2) (oi := { dst := some 78, op := Op.fieldAddr 65 (Operand.tmp 3) 3, type := 0, pos := "ref.go:121", after := #[{ on := 8, ground := Ground.gcOnly Departure.lateStores }], guard := none }) (v := ?_) rfl (by kernel_rfl) (by kernel_rfl) (by kernel_rfl) (fun _ _ _ h => h) (Or.inl ⟨by rfl, ?_⟩) (by assumption) ?_
    rotate_left 1
    · intro w' hSw; (try dsimp only at hSw); go_simp; (try with_reducible rfl)
    simp only [Act.put, List.setIfInBounds_toArray, List.set_cons_zero, List.set_cons_succ]
    refine wpAnyH_take (i := 3) (oi := { dst := some 79, op := Op.load 3 (Operand.tmp 78), type := 3, pos := "ref.go:121", after := #[{ on := 2, ground := Ground.data }, { on := 8, ground := Ground.gcOnly Departure.lateStores }], guard := none }) (v := ?_) rfl (by kernel_rfl) (by kernel_rfl) (by kernel_rfl) (fun _ _ _ h => h) (Or.inl ⟨by rfl, ?_⟩) (by assumption) ?_
    rotate_left 1
    · intro w' hSw; (try dsimp only at hSw); go_simp; (try with_reducible rfl)
    simp only [Act.put, List.setIfInBounds_toArray, List.set_cons_zero, List.set_cons_succ]
    refine wpAnyH_take (i := 4) (oi := { dst := some 80, op := Op.indexAddr 38 (Operand.tmp 77) (Operand.tmp 79), type := 0, pos := "ref.go:121", after := #[{ on := 1, ground := Ground.data }, { on := 3, ground := Ground.data }, { on := 8, ground := Ground.gcOnly Departure.lateStores }], guard := none }) (v := ?_) rfl (by kernel_rfl) (by kernel_rfl) (by kernel_rfl) (fun _ _ _ h => h) (Or.inl ⟨by rfl, ?_⟩) (by assumption) ?_
    rotate_left 1
    · intro w' hSw; (try dsimp only at hSw); go_simp; (try with_reducible rfl)
    simp only [Act.put, List.setIfInBounds_toArray, List.set_cons_zero, List.set_cons_succ]
    refine wpAnyH_take (i := 5) (oi := { dst := some 81, op := Op.fieldAddr 87 (Operand.tmp 80) 0, type := 0, pos := "ref.go:121", after := #[{ on := 4, ground := Ground.data }, { on := 8, ground := Ground.gcOnly Departure.lateStores }], guard := none }) (v := ?_) rfl (by kernel_rfl) (by kernel_rfl) (by kernel_rfl) (fun _ _ _ h => h) (Or.inl ⟨by rfl, ?_⟩) (by assumption) ?_
    rotate_left 1
    · intro w' hSw; (try dsimp only at hSw); go_simp; (try with_reducible rfl)
    simp only [Act.put, List.setIfInBounds_toArray, List.set_cons_zero, List.set_cons_succ]
    refine wpAnyH_take (i := 6) (oi := { dst := some 82, op := Op.load 44 (Operand.tmp 81), type := 44, pos := "ref.go:121", after := #[{ on := 5, ground := Ground.data }, { on := 8, ground := Ground.gcOnly Departure.lateStores }], guard := none }) (v := ?_) rfl (by kernel_rfl) (by kernel_rfl) (by kernel_rfl) (fun _ _ _ h => h) (Or.inl ⟨by rfl, ?_⟩) (by assumption) ?_
    rotate_left 1
    · intro w' hSw; (try dsimp only at hSw); go_simp; (try with_reducible rfl)
    simp only [Act.put, List.setIfInBounds_toArray, List.set_cons_zero, List.set_cons_succ]
    refine wpAnyH_take (i := 7) (oi := { dst := some 83, op := Op.build 62 #[(2, Operand.tmp 82), (3, Operand.const (Value.bool true))], type := 62, pos := "ref.go:121", after := #[{ on := 6, ground := Ground.data }, { on := 8, ground := Ground.gcOnly Departure.lateStores }], guard := none }) (v := ?_) rfl (by kernel_rfl) (by kernel_rfl) (by kernel_rfl) (fun _ _ _ h => h) (Or.inl ⟨by rfl, ?_⟩) (by assumption) ?_
    rotate_left 1
    · intro w' hSw; (try dsimp only at hSw); go_simp; (try with_reducible rfl)
    simp only [Act.put, List.setIfInBounds_toArray, List.set_cons_zero, List.set_cons_succ]
    refine wpAnyH_ready (rs := [8]) (by kernel_rfl) (by simp) ?_
    refine AllReadyH.cons (o := { dst := none, op := Op.store 40 (Operand.tmp 4) (Operand.tmp 76), type := 0, pos := "ref.go:121", after := #[{ on := 0, ground := Ground.data }, { on := 0, ground := Ground.phase }, { on := 1, ground := Ground.textOnly Departure.lateStores }, { on := 2, ground := Ground.textOnly Departure.lateStores }, { on := 3, ground := Ground.textOnly Departure.lateStores }, { on := 4, ground := Ground.textOnly Departure.lateStores }, { on := 5, ground := Ground.textOnly Departure.lateStores }, { on := 6, ground := Ground.textOnly Departure.lateStores }, { on := 7, ground := Ground.textOnly Departure.lateStores }], guard := none }) rfl (fun K' hK => ?_) AllReadyH.nil
    refine step_stS (cs' := #[.slice CA cn cc, .slice SA sn sc, .slice (some ⟨g, 0, none⟩) last gc]) rtabT rfl rfl (by simp [Value.oneCell']) rfl (.tmp 4) (.tmp 76) rfl rfl rfl (HR52.out.under (Below.refl _ _).drew) ?_
    intro w7 hR7 hF7
    have f7 : Fr (fun y => y = w.heap.size + 2 ∨ y = w.heap.size + 3) w5 w7 := (Fr.drew _ w5).trans (hF7.mono (fun y hy => Or.inl hy))
    have s7 := SS5.out w7 f7
    refine hK.out _ _ s7 (fun hHeld => ?_)
    clear hK K'
    try simp only [Act.put]
    refine wpAnyH_ready (rs := [9]) (by kernel_rfl) (by simp) ?_
    refine AllReadyH.cons (o := { dst := none, op := Op.store 62 (Operand.tmp 5) (Operand.tmp 83), type := 0, pos := "ref.go:121", after := #[{ on := 7, ground := Ground.data }, { on := 8, ground := Ground.chain }, { on := 0, ground := Ground.phase }, { on := 1, ground := Ground.phase }, { on := 2, ground := Ground.phase }, { on := 3, ground := Ground.phase }, { on := 4, ground := Ground.phase }, { on := 5, ground := Ground.phase }, { on := 6, ground := Ground.phase }, { on := 7, ground := Ground.phase }, { on := 8, ground := Ground.phase }], guard := none }) rfl (fun K' hK => ?_) AllReadyH.nil
    refine step_stS (cs' := tlc none 0 0 none 0 0 { Tl.e 0 with id := y.1, ok := true }) toldT rfl rfl (by simp [tlc, Value.oneCell']) rfl (.tmp 5) (.tmp 83) rfl rfl rfl ((HR53.out.under (Below.refl _ _).drew).fr hF7 (fun e => by have e' : w.heap.size + 3 = w.heap.size + 2 := e; omega)) ?_
    intro w8 hR8 hF8
    have s8 := SS5.out w8 (f7.trans (hF8.mono (fun y hy => Or.inr hy)))
    refine hK.out _ _ s8 (fun hHeld => ?_)
    clear hK K'
    try simp only [Act.put]
    refine wpAnyH_done (by kernel_rfl) ?_ _
    refine NoPanic.normal ?_
    clear s7 s8 hHeld
    go_wp2
    refine bodyPost_ret (res_cc rfl rfl ((hR7.fr hF8 (fun e => by have e' : w.heap.size + 2 = w.heap.size + 3 := e; omega)).load rtabT rfl) rfl (hR8.load toldT rfl)) rfl ?_
    have e0 : tl = { Tl.e 0 with id := y.1, ok := true } := by rw [HTL.out, if_neg hil]
    rw [e0]
    exact TRes.fin (HB5.out.trans ((Below.refl _ _).drew.mono HB5.out.size)) (HRT5.out.dr) ⟨VB.non2 _ _, PartsV.nil _ _ _⟩ hF7 hF8
-- MORE
end
end Go.Proofs.YtnjfogeefdmlkaaDoor
namespace Go.Proofs.YtnjfogeefdmlkaaDoor
open Go.RowKit
set_option maxRecDepth 20000
set_option linter.unusedSimpArgs false
set_option linter.unusedVariables false
section
variable {K : Nat → Prop} {w : World} {d : Rt} {t : Tb}
theorem radd_any (h : RtS K w d t) (ok : t.Ok) (x : Tst) (hx : TOk K w x) (hpn : x.pn ≤ 9223372036854775807) :
    Calls Tryd.prog 42 #[.agg d.cs, .agg x.cs] w (TRes K w (t.add x.ts.id x.ts.ps).1 (t.add x.ts.id x.ts.ps).2) := by
  by_cases hf : t.rows.length = 1024
  · have e : t.add x.ts.id x.ts.ps = (t, .e 9) := by unfold Tb.add; rw [if_pos hf]
    rw [e]
    exact add_full h x hf
  · exact add_some h ok x hx hpn hf
theorem RtS.kl {w1 : World} (h : RtS K w d t) (hb : Below w.heap.size w w1) : RtS (fun y => K y ∧ y < w.heap.size) w1 d t := by
  obtain ⟨⟨vs, h1, h2, h3⟩, ⟨us, g1, g2, g3⟩, hr⟩ := h
  exact ⟨⟨vs, h1, h2.lt.stays ⟨hb.size, fun y hy => hb.block y hy.2⟩, h3⟩, ⟨us, g1, g2.lt.stays ⟨hb.size, fun y hy => hb.block y hy.2⟩, g3⟩, hr.lt.stays ⟨hb.size, fun y hy => hb.block y hy.2⟩⟩
theorem TOk.kl {w1 : World} {x : Tst} (h : TOk K w x) (hb : Below w.heap.size w w1) : TOk (fun y => K y ∧ y < w.heap.size) w1 x :=
  ⟨h.p.lt.stays ⟨hb.size, fun y hy => hb.block y hy.2⟩, h.b.lt.stays ⟨hb.size, fun y hy => hb.block y hy.2⟩⟩
set_option maxHeartbeats 4000000 in
theorem Go_add (h : RtS K w d t) (ok : t.Ok) (x : Tst) (hx : TOk K w x) (hpn : x.pn ≤ 9223372036854775807) (h1 : x.d < 1 ∨ 4 < x.d) :
    Calls Tryd.prog 21 #[.agg d.cs, .agg x.cs] w (TRes K w (t.add x.ts.id x.ts.ps).1 (t.add x.ts.id x.ts.ps).2) := by
  have hL := TLaid.new w d x
  have hrn := h.rn
  have hcn := h.cn
  have hsn := h.sn
  obtain ⟨CA, cn, cc, SA, sn, sc, RA, rn, rc⟩ := d
  obtain ⟨xd, xi, xg, pA, pn, pc, ps, row, comp, bA, bn, bc, b⟩ := x
  simp only at hrn hcn hsn hpn h1
  simp only [Rt.cs, Tst.cs, Tst.ts] at hL ⊢
  obtain ⟨w1, hw1⟩ : ∃ w1, w1 = (((w.alloc (.cells #[.slice CA cn cc, .slice SA sn sc, .slice RA rn rc] 40)).alloc (.cells #[.int .i64 xd, .int .i64 xi, .int .i64 xg, .slice pA pn pc, .int .i64 row, .int .i64 comp, .slice bA bn bc] 65)).alloc (.cells #[.slice none 0 0, .slice none 0 0, .slice none 0 0] 40)).alloc (.cells #[.slice none 0 0, .slice none 0 0, .int .i64 0, .int .i64 0, .bool false, .int .i64 0] 62) := ⟨_, rfl⟩
  rw [← hw1] at hL
  have p0 : w1.cell? ⟨w.heap.size + 1, 0, none⟩ = some (.int .i64 xd) := hL.st.at_ 0
  have p4 : w1.cell? ⟨w.heap.size + 1, 4, none⟩ = some (.int .i64 row) := hL.st.at_ 4
  have q2 : w1.cell? ⟨w.heap.size, 2, none⟩ = some (.slice RA rn rc) := hL.r0.at_ 2
  have HL := Lib.hid hL
  have H := Lib.hid h
  have HX := Lib.hid hx
  have HOK := Lib.hid ok
  have HRN := Lib.hid hrn
  have HCN := Lib.hid hcn
  have HSN := Lib.hid hsn
  have CA0 := radd_any (h.kl hL.hb) ok ⟨xd, xi, xg, pA, pn, pc, ps, row, comp, bA, bn, bc, b⟩ (hx.kl hL.hb) hpn
  obtain ⟨r, hr⟩ : ∃ r, r = t.add (xi, xg) ps := ⟨_, rfl⟩
  simp only [Tst.ts, Rt.cs, Tst.cs] at CA0
  rw [← hr] at CA0 ⊢
  have CADD := Lib.hid CA0
  clear CA0 hr
  clear hL h hx ok hrn hcn hsn
  by_cases hr0 : xd < 1
  · have e0 : decide (xd < 1) = true := decide_eq_true hr0
    go_enter Tryd.func21, Tryd.ntmps21
    go_wp2_with (first
      | (rw [← hw1]; clear hw1)
      | (with_reducible refine wpList_ldS tstT rfl rfl (.tmp 3) rfl rfl HL.out.st ?_)
      | (go_at_call 42; refine CADD.out.mono ?_; rintro e w2 ⟨⟨CA', cn', cc', SA', sn', sc', RA', rn', rc'⟩, DA, dn, dc, PA, pn', pc', rfl, hR, hT, hB⟩; have HR := Lib.hid hR; have HTT := Lib.hid hT; have HL2 := Lib.hid (HL.out.next hB); have HBB := Lib.hid hB; simp only [Rt.cs]; clear hR hT hB)
      | (with_reducible refine wpList_ldS rtabT rfl rfl (.tmp 2) rfl rfl HL.out.r0 ?_)
      | (with_reducible refine wpList_stS (cs' := #[.slice CA' cn' cc', .slice SA' sn' sc', .slice RA' rn' rc']) rtabT rfl rfl (by simp [Value.oneCell']) rfl (.tmp 4) (.tmp 21) rfl rfl rfl HL2.out.r2 ?_; intro w7 hR7 hF7)
      | (with_reducible refine wpList_stS (cs' := tlc DA dn dc PA pn' pc' r.2) toldT rfl rfl (by simp [tlc, Value.oneCell']) rfl (.tmp 5) (.tmp 22) rfl rfl rfl (HL2.out.r3.fr hF7 (fun e => by have e' : w.heap.size + 3 = w.heap.size + 2 := e; omega)) ?_; intro w8 hR8 hF8))
    refine bodyPost_ret (res_cc rfl rfl ((hR7.fr hF8 (fun e => by have e' : w.heap.size + 2 = w.heap.size + 3 := e; omega)).load rtabT rfl) rfl (hR8.load toldT rfl)) rfl ?_
    have h4 : w.heap.size + 4 ≤ w1.heap.size := HL.out.r3.lt
    have cv : ∀ y, ((K y ∧ y < w.heap.size) ∨ (w1.heap.size ≤ y ∧ y < w2.heap.size)) → KK K w w2 y := fun y hy => by
      rcases hy with h1 | h1
      · exact .inl h1
      · exact .inr (by omega)
    exact TRes.fin HL2.out.hb (HR.out.mono cv) (HTT.out.mono cv) hF7 hF8
  · have e0 : decide (xd < 1) = false := decide_eq_false hr0
    have e1 : decide (4 < xd) = true := decide_eq_true (by omega)
    go_enter Tryd.func21, Tryd.ntmps21
    go_wp2_with (first
      | (rw [← hw1]; clear hw1)
      | (with_reducible refine wpList_ldS tstT rfl rfl (.tmp 3) rfl rfl HL.out.st ?_)
      | (go_at_call 42; refine CADD.out.mono ?_; rintro e w2 ⟨⟨CA', cn', cc', SA', sn', sc', RA', rn', rc'⟩, DA, dn, dc, PA, pn', pc', rfl, hR, hT, hB⟩; have HR := Lib.hid hR; have HTT := Lib.hid hT; have HL2 := Lib.hid (HL.out.next hB); have HBB := Lib.hid hB; simp only [Rt.cs]; clear hR hT hB)
      | (with_reducible refine wpList_ldS rtabT rfl rfl (.tmp 2) rfl rfl HL.out.r0 ?_)
      | (with_reducible refine wpList_stS (cs' := #[.slice CA' cn' cc', .slice SA' sn' sc', .slice RA' rn' rc']) rtabT rfl rfl (by simp [Value.oneCell']) rfl (.tmp 4) (.tmp 21) rfl rfl rfl HL2.out.r2 ?_; intro w7 hR7 hF7)
      | (with_reducible refine wpList_stS (cs' := tlc DA dn dc PA pn' pc' r.2) toldT rfl rfl (by simp [tlc, Value.oneCell']) rfl (.tmp 5) (.tmp 22) rfl rfl rfl (HL2.out.r3.fr hF7 (fun e => by have e' : w.heap.size + 3 = w.heap.size + 2 := e; omega)) ?_; intro w8 hR8 hF8))
    refine bodyPost_ret (res_cc rfl rfl ((hR7.fr hF8 (fun e => by have e' : w.heap.size + 2 = w.heap.size + 3 := e; omega)).load rtabT rfl) rfl (hR8.load toldT rfl)) rfl ?_
    have h4 : w.heap.size + 4 ≤ w1.heap.size := HL.out.r3.lt
    have cv : ∀ y, ((K y ∧ y < w.heap.size) ∨ (w1.heap.size ≤ y ∧ y < w2.heap.size)) → KK K w w2 y := fun y hy => by
      rcases hy with h1 | h1
      · exact .inl h1
      · exact .inr (by omega)
    exact TRes.fin HL2.out.hb (HR.out.mono cv) (HTT.out.mono cv) hF7 hF8
-- MORE8
end
end Go.Proofs.YtnjfogeefdmlkaaDoor
