/- TbR9, TbR10, TbR11, TbW -/
import Derived.Test.YtnjfogeefdmlkaaDoorQl14
import Derived.BigQuiet
import Derived.Deep.QuietTactic
namespace Go.Proofs.YtnjfogeefdmlkaaDoor
open Go.RowKit
set_option maxRecDepth 20000
set_option linter.unusedSimpArgs false
set_option linter.unusedVariables false
theorem get_fstR {cs : List (Int × Nat)} {j : Nat} (hj : j < cs.length) : (cs.map (·.1))[j]? = some (cs.getD j (0, 0)).1 := by
  rw [List.getD_eq_getElem?_getD, List.getElem?_map, List.getElem?_eq_getElem hj]
  rfl
section
variable {K : Nat → Prop} {w : World} {d : Rt} {t : Tb}
set_option maxHeartbeats 4000000 in
theorem Go_get (h : RtS K w d t) (ok : t.Ok) (x : Tst) (hx : TOk K w x) (h1 : x.d = 2) (hr : 0 ≤ x.row ∧ x.row < t.rows.length) :
    Calls Tryd.prog 21 #[.agg d.cs, .agg x.cs] w (TRes K w (t.go x.ts).1 (t.go x.ts).2) := by
  have hL := TLaid.new w d x
  have hrn := h.rn
  have hcn := h.cn
  have hsn := h.sn
  obtain ⟨CA, cn, cc, SA, sn, sc, RA, rn, rc⟩ := d
  obtain ⟨xd, xi, xg, pA, pn, pc, ps, row, comp, bA, bn, bc, b⟩ := x
  simp only at hrn hcn hsn h1 hr
  simp only [Rt.cs, Tst.cs, Tst.ts] at hL ⊢
  obtain ⟨w1, hw1⟩ : ∃ w1, w1 = (((w.alloc (.cells #[.slice CA cn cc, .slice SA sn sc, .slice RA rn rc] 40)).alloc (.cells #[.int .i64 xd, .int .i64 xi, .int .i64 xg, .slice pA pn pc, .int .i64 row, .int .i64 comp, .slice bA bn bc] 65)).alloc (.cells #[.slice none 0 0, .slice none 0 0, .slice none 0 0] 40)).alloc (.cells #[.slice none 0 0, .slice none 0 0, .int .i64 0, .int .i64 0, .bool false, .int .i64 0] 62) := ⟨_, rfl⟩
  rw [← hw1] at hL
  have p0 : w1.cell? ⟨w.heap.size + 1, 0, none⟩ = some (.int .i64 xd) := hL.st.at_ 0
  have p4 : w1.cell? ⟨w.heap.size + 1, 4, none⟩ = some (.int .i64 row) := hL.st.at_ 4
  have q2 : w1.cell? ⟨w.heap.size, 2, none⟩ = some (.slice RA rn rc) := hL.r0.at_ 2
  have HL := Lib.hid hL
  have H := Lib.hid h
  have HX := Lib.hid hx
  have HOK := Lib.hid ok
  have HRN := Lib.hid hrn
  have HCN := Lib.hid hcn
  have HSN := Lib.hid hsn
  subst h1
  obtain ⟨i, rfl⟩ : ∃ i : Nat, row = (i : Int) := ⟨row.toNat, by omega⟩
  have hil : i < t.rows.length := by omega
  have eid : ((i : Int)).toNat = i := rfl
  have hrnl : rn ≤ 1024 := by rw [hrn]; exact ok.n
  obtain ⟨y, hy⟩ : ∃ y, y = t.rows.getD i noEn := ⟨_, rfl⟩
  have hyr : t.rows[i]? = some y := by rw [hy, List.getD_eq_getElem?_getD, List.getElem?_eq_getElem hil]; rfl
  have hyok : RowOk t.cs y.2 := by rw [hy]; exact ok.getD hil
  obtain ⟨T', tl, hTl⟩ : ∃ T' tl, t.go ⟨2, (xi, xg), ps, (i : Int), comp, b⟩ = (T', tl) := ⟨_, _, rfl⟩
  rw [hTl]
  have hnone : (∀ j, j < t.cs.length → (t.cs.getD j (0, 0)).1 ≠ comp) → T' = t ∧ tl = .e 8 := fun hno => by
    have hat := at_none (t := t) hno
    have e : t.go ⟨2, (xi, xg), ps, (i : Int), comp, b⟩ = (t, .e 8) := by
      unfold Tb.go
      simp only
      rw [if_neg (by decide), if_pos ⟨by omega, by omega⟩, if_neg (by decide), if_neg (by decide), hat]
    rw [hTl] at e
    injection e with e1 e2
    exact ⟨e1, e2⟩
  have hsome : ∀ k, k < t.cs.length → (∀ j, j < k → (t.cs.getD j (0, 0)).1 ≠ comp) → (t.cs.getD k (0, 0)).1 = comp → T' = t ∧ tl = { Tl.e 0 with data := (y.2.getD k (0, [])).2 } := fun k hk hno he => by
    have hat := at_some (t := t) hk hno he
    have e : t.go ⟨2, (xi, xg), ps, (i : Int), comp, b⟩ = (t, { Tl.e 0 with data := (y.2.getD k (0, [])).2 }) := by
      unfold Tb.go
      simp only
      rw [if_neg (by decide), if_pos ⟨by omega, by omega⟩, if_neg (by decide), if_neg (by decide), hat]
      simp only
      rw [if_pos trivial, hy]
      rfl
    rw [hTl] at e
    injection e with e1 e2
    exact ⟨e1, e2⟩
  obtain ⟨rvs, hrl, hrv, hrh⟩ := h.r
  simp only at hrl hrv
  obtain ⟨yr, hyl, ⟨YA, yn, yc, hye, hyp⟩, hyc⟩ := hrh.at_ hyr
  subst hye
  have hrv1 := hrv.lt.stays (w' := w1) ⟨hL.hb.size, fun q hq => hL.hb.block q hq.2⟩
  have hone := hrh.one (fun _ _ h => EE.one h)
  obtain ⟨w2, hw2⟩ : ∃ w2, w2 = w1.alloc (.cells #[] 87) := ⟨_, rfl⟩
  have hb2 : Below w1.heap.size w1 w2 := by rw [hw2]; exact (Below.refl _ _).alloc (Nat.le_refl _) _
  have ho2 : w2.ownsRow w1.heap.size 87 3 (.slice (some ⟨w1.heap.size, 0, none⟩) 0 0) 0 [] := by rw [hw2]; exact World.ownsRow_lit w1 #[] 0 (Nat.le_refl _) (Nat.zero_le _) rfl
  have hL2 := hL.next hb2
  have q22 : w2.cell? ⟨w.heap.size, 2, none⟩ = some (.slice RA rn rc) := hL2.r0.at_ 2
  have HRV2 := Lib.hid (hrv1.below hb2)
  have HW2 := Lib.hid hw2
  have HO2 := Lib.hid ho2
  have HONE := Lib.hid hone
  have HRH := Lib.hid hrh
  have HYC := Lib.hid hyc
  have HYP := Lib.hid hyp
  have HYR := Lib.hid hyr
  have HYOK := Lib.hid hyok
  have HILT := Lib.hid hil
  have HB12 := Lib.hid hb2
  have HNONE := Lib.hid hnone
  have HSOME := Lib.hid hsome
  have hsz14 : w.heap.size + 4 ≤ w1.heap.size := hL.r3.lt
  rw [← hrn] at hr hil
  have i0 : (0 : Int) ≤ (i : Int) := by omega
  have i1 : (i : Int) < (rn : Int) := by omega
  have dr0 : decide ((i : Int) < 0) = false := decide_eq_false (by omega)
  have dr1 : decide ((rn : Int) ≤ (i : Int)) = false := decide_eq_false (by omega)
  have dr2 : decide (rn ≤ i) = false := decide_eq_false (by omega)
  have dr3 : ¬ rn ≤ i := by omega
  have hrpos : 0 < rn := by omega
  have hcm := ok.cn
  rw [← hcn] at hcm
  clear hw2 ho2 hb2 hL2 hrv1 hrv hrh hone hyc hyp hyr hrl hy hyok hTl hnone hsome
  clear hL h hx ok hrn hcn hsn
  go_enter Tryd.func21, Tryd.ntmps21
  go_wp2_with (first
    | (rw [← hw1]; clear hw1)
    | (rw [← HW2.out])
    | (at_builtin; refine wpList_appW entsT rfl (.tmp 48) (.tmp 50) rfl w1.heap.size (.slice (some ⟨w1.heap.size, 0, none⟩) 0 0) 0 [] rfl HO2.out RA rn rc rvs rfl HRV2.out HONE.out (by omega) (by decide) HB12.out.size ?_; intro vR w3 ho3 hg3; rw [List.nil_append, Nat.zero_add] at ho3; have hb3 := HB12.out.trans (below_own HO2.out HB12.out.size hg3); have HL3 := Lib.hid (HL.out.next hb3); obtain ⟨AR, gc, rfl, _, _⟩ := own_slv ho3; have HO3 := Lib.hid ho3; clear hg3 hb3 ho3 q2 q22 p0 p4; have p0' : w3.cell? ⟨w.heap.size + 1, 0, none⟩ = some (.int .i64 2) := HL3.out.st.at_ 0))
  have ho3 := HO3.out
  rcases ho3.2 with ⟨_, h0⟩ | ⟨g, cap, cur, hv, hgB, hh, hnc, hcmx, hs, _⟩
  · omega
  injection hv with e1 e2 e3
  subst e1 e3
  clear ho3 hh hs hcmx p0'
  go_loopw [8] (fun iv wr => ∃ k : Nat, k ≤ cn ∧ iv = .int .i64 k ∧ Below w3.heap.size w3 wr ∧ ∀ j, j < k → (t.cs.getD j (0, 0)).1 ≠ comp) (fun iv _ => cn - (intOf iv).toNat)
  case atStart => exact ⟨0, Nat.zero_le _, rfl, Below.refl _ _, fun j hj => absurd hj (Nat.not_lt_zero j)⟩
  case round =>
    obtain ⟨k, hk, rfl, hB, hno⟩ := hrel
    have hLr := HL3.out.next hB
    have hss := hB.size
    have g0 : wr.cell? ⟨w.heap.size, 0, none⟩ = some (.slice CA cn cc) := hLr.r0.at_ 0
    by_cases hkn : k < cn
    · have hkc : k < t.cs.length := by rw [← HCN.out]; exact hkn
      obtain ⟨cb, co', hCA, hcb, kk⟩ := IntsV.cell (H.out.c.below hLr.hb) (get_fstR hkc)
      simp only at hCA
      subst hCA
      have s5 : wr.cell? ⟨w.heap.size + 1, 5, none⟩ = some (.int .i64 comp) := hLr.st.at_ 5
      obtain ⟨ck, hck⟩ : ∃ ck, ck = (t.cs.getD k (0, 0)).1 := ⟨_, rfl⟩
      rw [← hck] at kk
      have HCK := Lib.hid hck
      have HNO := Lib.hid hno
      have HB := Lib.hid hB
      clear hno hB hck hLr
      by_cases hcc : ck = comp
      · subst hcc
        go_wp2_with fail
        go_quiet (fail)
        -- found
        obtain ⟨wx, hwx⟩ : ∃ wx, wx = wr.drewN nq := ⟨_, rfl⟩
        have hBx : Below w3.heap.size w3 wx := by rw [hwx]; exact below_drewN HB.out nq
        rw [← hwx]
        clear hwx
        have hLx := HL3.out.next hBx
        have hE := HSOME.out k hkc HNO.out HCK.out.symm
        have hox := own_keep HO3.out hBx
        have hkx : ∀ r u, r < 3 → ([Value.int .i64 y.1.1, .int .i64 y.1.2, .slice YA yn yc] : List Value)[r]? = some u → wx.cell? ⟨g, i * 3 + r, none⟩ = some u := fun r u hr hu => by
          obtain ⟨_, _, e, _, _, hvr⟩ := own_vrow hox
          injection e with e1 _ _
          subst e1
          obtain ⟨b', o', e', _, _, hc⟩ := hvr.2.2 hrpos
          injection e' with e'
          injection e' with e1 e2
          subst e1 e2
          have := hc (i * 3 + r) u (by rw [HYC.out r hr]; exact hu)
          rw [Nat.zero_add] at this
          exact this
        have hyl2 := HYOK.out.len
        have hypl := HYP.out.len
        have hyk : k < y.2.length := by omega
        obtain ⟨pb, po, u, hYA, _, hpb, _, m1, hu⟩ := HYP.out.cell (List.getElem?_eq_getElem hyk)
        have HYA := Lib.hid hYA
        subst hYA
        have e3 : y.2[k] = y.2.getD k (0, []) := by simp [List.getD, List.getElem?_eq_getElem hyk]
        rw [e3] at hu
        have hkyn : k < yn := by omega
        have k0' : (0 : Int) ≤ (k : Int) := by omega
        have k1' : (k : Int) < (yn : Int) := by omega
        obtain ⟨DA, dm, dc, rfl, hur⟩ := id hu.sl
        have HU := Lib.hid hu
        have hgx : g < wx.heap.size := (own_geB hox rfl).2
        have hpx : pb < wx.heap.size := Nat.lt_of_lt_of_le hpb hLx.hb.size
        have m1x := (hLx.hb.cell (p := ⟨pb, po + k * 2 + 1, none⟩) hpb).trans m1
        have SS20 : ∀ W, Fr (fun y => y = w.heap.size + 2 ∨ y = w.heap.size + 3) wx W → (W.cell? ⟨w.heap.size, 0, none⟩ = some (.slice (some ⟨cb, co', none⟩) cn cc) ∧ W.cell? ⟨w.heap.size, 1, none⟩ = some (.slice SA sn sc) ∧ W.cell? ⟨w.heap.size, 2, none⟩ = some (.slice RA rn rc) ∧ W.cell? ⟨w.heap.size + 1, 4, none⟩ = some (.int .i64 (i : Int)) ∧ W.cell? ⟨g, i * 3 + 2, none⟩ = some (.slice (some ⟨pb, po, none⟩) yn yc) ∧ W.cell? ⟨pb, po + k * 2 + 1, none⟩ = some (.slice DA dm dc)) := fun W hF => by
          have r0 := hLx.r0.fr hF (fun e => by rcases e with e | e <;> omega)
          have st := hLx.st.fr hF (fun e => by rcases e with e | e <;> omega)
          exact ⟨r0.at_ 0, r0.at_ 1, r0.at_ 2, st.at_ 4, (World.cell?_of_block (w := wx) (a := ⟨g, i * 3 + 2, none⟩) (hF.block g hgx (fun e => by rcases e with e | e <;> omega))).trans (hkx 2 _ (by decide) rfl), (World.cell?_of_block (w := wx) (a := ⟨pb, po + k * 2 + 1, none⟩) (hF.block pb hpx (fun e => by rcases e with e | e <;> omega))).trans m1x⟩
        have p0x : wx.cell? ⟨w.heap.size + 1, 0, none⟩ = some (.int .i64 2) := hLx.st.at_ 0
        have SS20 := Lib.hid SS20
        have HE := Lib.hid hE
        have HLx := Lib.hid hLx
        clear hE hkx hu hur m1 m1x hox hBx hLx hpx hgx kk s5 g0 e3
        go_wp2
        refine wp_region_noPanic ?_
        refine wp_region_held_drew (S := fun W => W.cell? ⟨w.heap.size, 0, none⟩ = some (.slice (some ⟨cb, co', none⟩) cn cc) ∧ W.cell? ⟨w.heap.size, 1, none⟩ = some (.slice SA sn sc) ∧ W.cell? ⟨w.heap.size, 2, none⟩ = some (.slice RA rn rc) ∧ W.cell? ⟨w.heap.size + 1, 4, none⟩ = some (.int .i64 (i : Int)) ∧ W.cell? ⟨g, i * 3 + 2, none⟩ = some (.slice (some ⟨pb, po, none⟩) yn yc) ∧ W.cell? ⟨pb, po + k * 2 + 1, none⟩ = some (.slice DA dm dc)) (by kernel_rfl) (SS20.out _ (Fr.drew _ wx)) (fun hHeld => ?_)
        refine wpAnyH_take (i := 0) (oi := { dst := some 102, op := Op.load 40 (Operand.tmp 2), type := 40, pos := "ref.go:128", after := #[], guard := none }) (v := ?_) rfl (by kernel_rfl) (by kernel_rfl) (by kernel_rfl) (fun _ _ _ h => h) (Or.inl ⟨by rfl, ?_⟩) (by assumption) ?_
        rotate_left 1
        · intro w' hSw; (try dsimp only at hSw); go_simp; (try with_reducible rfl)
        simp only [Act.put, List.setIfInBounds_toArray, List.set_cons_zero, List.set_cons_succ]
        refine wpAnyH_take (i := 1) (oi := { dst := some 103, op := Op.move (Operand.tmp 6), type := 38, pos := "ref.go:128", after := #[{ on := 12, ground := Ground.gcOnly Departure.lateStores }], guard := none }) (v := ?_) rfl (by kernel_rfl) (by kernel_rfl) (by kernel_rfl) (fun _ _ _ h => h) (Or.inl ⟨by rfl, ?_⟩) (by assumption) ?_
        rotate_left 1
        · intro w' hSw; (try dsimp only at hSw); go_simp; (try with_reducible rfl)
        simp only [Act.put, List.setIfInBounds_toArray, List.set_cons_zero, List.set_cons_succ]
        refine wpAnyH_take (i := 2) (oi := { dst := some 104, op := Op.fieldAddr 65 (Operand.tmp 3) 3, type := 0, pos := "ref.go:128", after := #[{ on := 12, ground := Ground.gcOnly Departure.lateStores }], guard := none }) (v := ?_) rfl (by kernel_rfl) (by kernel_rfl) (by kernel_rfl) (fun _ _ _ h => h) (Or.inl ⟨by rfl, ?_⟩) (by assumption) ?_
        rotate_left 1
        · intro w' hSw; (try dsimp only at hSw); go_simp; (try with_reducible rfl)
        simp only [Act.put, List.setIfInBounds_toArray, List.set_cons_zero, List.set_cons_succ]
        refine wpAnyH_take (i := 3) (oi := { dst := some 105, op := Op.load 3 (Operand.tmp 104), type := 3, pos := "ref.go:128", after := #[{ on := 2, ground := Ground.data }, { on := 12, ground := Ground.gcOnly Departure.lateStores }], guard := none }) (v := ?_) rfl (by kernel_rfl) (by kernel_rfl) (by kernel_rfl) (fun _ _ _ h => h) (Or.inl ⟨by rfl, ?_⟩) (by assumption) ?_
        rotate_left 1
        · intro w' hSw; (try dsimp only at hSw); go_simp; (try with_reducible rfl)
        simp only [Act.put, List.setIfInBounds_toArray, List.set_cons_zero, List.set_cons_succ]
        refine wpAnyH_take (i := 4) (oi := { dst := some 106, op := Op.indexAddr 38 (Operand.tmp 103) (Operand.tmp 105), type := 0, pos := "ref.go:128", after := #[{ on := 1, ground := Ground.data }, { on := 3, ground := Ground.data }, { on := 12, ground := Ground.gcOnly Departure.lateStores }], guard := none }) (v := ?_) rfl (by kernel_rfl) (by kernel_rfl) (by kernel_rfl) (fun _ _ _ h => h) (Or.inl ⟨by rfl, ?_⟩) (by assumption) ?_
        rotate_left 1
        · intro w' hSw; (try dsimp only at hSw); go_simp; (try with_reducible rfl)
        simp only [Act.put, List.setIfInBounds_toArray, List.set_cons_zero, List.set_cons_succ]
        refine wpAnyH_take (i := 5) (oi := { dst := some 107, op := Op.fieldAddr 87 (Operand.tmp 106) 1, type := 0, pos := "ref.go:128", after := #[{ on := 4, ground := Ground.data }, { on := 12, ground := Ground.gcOnly Departure.lateStores }], guard := none }) (v := ?_) rfl (by kernel_rfl) (by kernel_rfl) (by kernel_rfl) (fun _ _ _ h => h) (Or.inl ⟨by rfl, ?_⟩) (by assumption) ?_
        rotate_left 1
        · intro w' hSw; (try dsimp only at hSw); go_simp; (try with_reducible rfl)
        simp only [Act.put, List.setIfInBounds_toArray, List.set_cons_zero, List.set_cons_succ]
        refine wpAnyH_take (i := 6) (oi := { dst := some 108, op := Op.load 49 (Operand.tmp 107), type := 49, pos := "ref.go:128", after := #[{ on := 5, ground := Ground.data }, { on := 12, ground := Ground.gcOnly Departure.lateStores }], guard := none }) (v := ?_) rfl (by kernel_rfl) (by kernel_rfl) (by kernel_rfl) (fun _ _ _ h => h) (Or.inl ⟨by rfl, ?_⟩) (by assumption) ?_
        rotate_left 1
        · intro w' hSw; (try dsimp only at hSw); go_simp; (try with_reducible rfl)
        simp only [Act.put, List.setIfInBounds_toArray, List.set_cons_zero, List.set_cons_succ]
        refine wpAnyH_take (i := 7) (oi := { dst := some 109, op := Op.move (Operand.tmp 8), type := 3, pos := "ref.go:128", after := #[{ on := 12, ground := Ground.gcOnly Departure.lateStores }], guard := none }) (v := ?_) rfl (by kernel_rfl) (by kernel_rfl) (by kernel_rfl) (fun _ _ _ h => h) (Or.inl ⟨by rfl, ?_⟩) (by assumption) ?_
        rotate_left 1
        · intro w' hSw; (try dsimp only at hSw); go_simp; (try with_reducible rfl)
        simp only [Act.put, List.setIfInBounds_toArray, List.set_cons_zero, List.set_cons_succ]
        refine wpAnyH_take (i := 8) (oi := { dst := some 110, op := Op.indexAddr 49 (Operand.tmp 108) (Operand.tmp 109), type := 0, pos := "ref.go:128", after := #[{ on := 6, ground := Ground.data }, { on := 7, ground := Ground.data }, { on := 12, ground := Ground.gcOnly Departure.lateStores }], guard := none }) (v := ?_) rfl (by kernel_rfl) (by kernel_rfl) (by kernel_rfl) (fun _ _ _ h => h) (Or.inl ⟨by rfl, ?_⟩) (by assumption) ?_
        rotate_left 1
        · intro w' hSw; (try dsimp only at hSw); go_simp; (try with_reducible rfl)
        simp only [Act.put, List.setIfInBounds_toArray, List.set_cons_zero, List.set_cons_succ]
        refine wpAnyH_take (i := 9) (oi := { dst := some 111, op := Op.fieldAddr 73 (Operand.tmp 110) 1, type := 0, pos := "ref.go:128", after := #[{ on := 8, ground := Ground.data }, { on := 12, ground := Ground.gcOnly Departure.lateStores }], guard := none }) (v := ?_) rfl (by kernel_rfl) (by kernel_rfl) (by kernel_rfl) (fun _ _ _ h => h) (Or.inl ⟨by rfl, ?_⟩) (by assumption) ?_
        rotate_left 1
        · intro w' hSw; (try dsimp only at hSw); go_simp; (try with_reducible rfl)
        simp only [Act.put, List.setIfInBounds_toArray, List.set_cons_zero, List.set_cons_succ]
        refine wpAnyH_take (i := 10) (oi := { dst := some 112, op := Op.load 32 (Operand.tmp 111), type := 32, pos := "ref.go:128", after := #[{ on := 9, ground := Ground.data }, { on := 12, ground := Ground.gcOnly Departure.lateStores }], guard := none }) (v := ?_) rfl (by kernel_rfl) (by kernel_rfl) (by kernel_rfl) (fun _ _ _ h => h) (Or.inl ⟨by rfl, ?_⟩) (by assumption) ?_
        rotate_left 1
        · intro w' hSw; (try dsimp only at hSw); go_simp; (try with_reducible rfl)
        simp only [Act.put, List.setIfInBounds_toArray, List.set_cons_zero, List.set_cons_succ]
        refine wpAnyH_take (i := 11) (oi := { dst := some 113, op := Op.build 62 #[(0, Operand.tmp 112)], type := 62, pos := "ref.go:128", after := #[{ on := 10, ground := Ground.data }, { on := 12, ground := Ground.gcOnly Departure.lateStores }], guard := none }) (v := ?_) rfl (by kernel_rfl) (by kernel_rfl) (by kernel_rfl) (fun _ _ _ h => h) (Or.inl ⟨by rfl, ?_⟩) (by assumption) ?_
        rotate_left 1
        · intro w' hSw; (try dsimp only at hSw); go_simp; (try with_reducible rfl)
        simp only [Act.put, List.setIfInBounds_toArray, List.set_cons_zero, List.set_cons_succ]
        refine wpAnyH_ready (rs := [12]) (by kernel_rfl) (by simp) ?_
        refine AllReadyH.cons (o := { dst := none, op := Op.store 40 (Operand.tmp 4) (Operand.tmp 102), type := 0, pos := "ref.go:128", after := #[{ on := 0, ground := Ground.data }, { on := 0, ground := Ground.phase }, { on := 1, ground := Ground.textOnly Departure.lateStores }, { on := 2, ground := Ground.textOnly Departure.lateStores }, { on := 3, ground := Ground.textOnly Departure.lateStores }, { on := 4, ground := Ground.textOnly Departure.lateStores }, { on := 5, ground := Ground.textOnly Departure.lateStores }, { on := 6, ground := Ground.textOnly Departure.lateStores }, { on := 7, ground := Ground.textOnly Departure.lateStores }, { on := 8, ground := Ground.textOnly Departure.lateStores }, { on := 9, ground := Ground.textOnly Departure.lateStores }, { on := 10, ground := Ground.textOnly Departure.lateStores }, { on := 11, ground := Ground.textOnly Departure.lateStores }], guard := none }) rfl (fun K' hK => ?_) AllReadyH.nil
        refine step_stS (cs' := #[.slice (some ⟨cb, co', none⟩) cn cc, .slice SA sn sc, .slice RA rn rc]) rtabT rfl rfl (by simp [Value.oneCell']) rfl (.tmp 4) (.tmp 102) rfl rfl rfl (HLx.out.next (Below.refl _ _).drew).r2 ?_
        intro w7 hR7 hF7
        have f7 : Fr (fun y => y = w.heap.size + 2 ∨ y = w.heap.size + 3) wx w7 := (Fr.drew _ wx).trans (hF7.mono (fun y hy => Or.inl hy))
        have s7 := SS20.out w7 f7
        refine hK.out _ _ s7 (fun hHeld => ?_)
        clear hK K'
        try simp only [Act.put]
        refine wpAnyH_ready (rs := [13]) (by kernel_rfl) (by simp) ?_
        refine AllReadyH.cons (o := { dst := none, op := Op.store 62 (Operand.tmp 5) (Operand.tmp 113), type := 0, pos := "ref.go:128", after := #[{ on := 11, ground := Ground.data }, { on := 12, ground := Ground.chain }, { on := 0, ground := Ground.phase }, { on := 1, ground := Ground.phase }, { on := 2, ground := Ground.phase }, { on := 3, ground := Ground.phase }, { on := 4, ground := Ground.phase }, { on := 5, ground := Ground.phase }, { on := 6, ground := Ground.phase }, { on := 7, ground := Ground.phase }, { on := 8, ground := Ground.phase }, { on := 9, ground := Ground.phase }, { on := 10, ground := Ground.phase }, { on := 11, ground := Ground.phase }, { on := 12, ground := Ground.phase }], guard := none }) rfl (fun K' hK => ?_) AllReadyH.nil
        refine step_stS (cs' := tlc DA dm dc none 0 0 { Tl.e 0 with data := (y.2.getD k (0, [])).2 }) toldT rfl rfl (by simp [tlc, Value.oneCell']) rfl (.tmp 5) (.tmp 113) rfl rfl rfl ((HLx.out.next (Below.refl _ _).drew).r3.fr hF7 (fun e => by have e' : w.heap.size + 3 = w.heap.size + 2 := e; omega)) ?_
        intro w8 hR8 hF8
        have s8 := SS20.out w8 (f7.trans (hF8.mono (fun y hy => Or.inr hy)))
        refine hK.out _ _ s8 (fun hHeld => ?_)
        clear hK K'
        try simp only [Act.put]
        refine wpAnyH_done (by kernel_rfl) ?_ _
        refine NoPanic.normal ?_
        clear s7 s8 hHeld
        go_wp2
        refine bodyPost_ret (res_cc rfl rfl ((hR7.fr hF8 (fun e => by have e' : w.heap.size + 2 = w.heap.size + 3 := e; omega)).load rtabT rfl) rfl (hR8.load toldT rfl)) rfl ?_
        have hbd := HLx.out.hb.trans ((Below.refl wx.heap.size wx).drew.mono HLx.out.hb.size)
        rw [HE.out.1, HE.out.2]
        exact TRes.fin hbd (H.out.kk hbd) ⟨HU.out.kk hbd, PartsV.nil _ _ _⟩ hF7 hF8
      · have dne : (ck != comp) = true := bne_iff_ne.2 hcc
        have dnf : decide (ck = comp) = false := decide_eq_false hcc
        go_wp2_with fail
        go_quiet (fail)
        go_wp2
        go_roundw
        case rel =>
          refine ⟨k + 1, hkn, by go_num, below_drewN HB.out _, fun j hj => ?_⟩
          by_cases e : j = k
          · subst e; rw [← HCK.out]; exact hcc
          · exact HNO.out j (by omega)
        case measure => simp [intOf]; omega
    · obtain rfl : k = cn := by omega
      have hno' := HNONE.out (fun j hj => hno j (by rw [HCN.out]; exact hj))
      have HLr := Lib.hid hLr
      have HE := Lib.hid hno'
      clear hno hno' hB hLr
      go_wp2_with (first
        | (with_reducible refine wpList_ldS rtabT rfl rfl (.tmp 2) rfl rfl HLr.out.r0 ?_)
        | (with_reducible refine wpList_stS (cs' := #[.slice CA k cc, .slice SA sn sc, .slice RA rn rc]) rtabT rfl rfl (by simp [Value.oneCell']) rfl (.tmp 4) (.tmp 149) rfl rfl rfl HLr.out.r2 ?_; intro w7 hR7 hF7)
        | (with_reducible refine wpList_stS (cs' := #[.slice none 0 0, .slice none 0 0, .int .i64 0, .int .i64 0, .bool false, .int .i64 8]) toldT rfl rfl (by simp [tlc, Value.oneCell']) rfl (.tmp 5) (.tmp 150) rfl rfl rfl (HLr.out.r3.fr hF7 (fun e => by have e' : w.heap.size + 3 = w.heap.size + 2 := e; omega)) ?_; intro w8 hR8 hF8))
      refine bodyPost_ret (res_cc rfl rfl ((hR7.fr hF8 (fun e => by have e' : w.heap.size + 2 = w.heap.size + 3 := e; omega)).load rtabT rfl) rfl (hR8.load toldT rfl)) rfl ?_
      rw [HE.out.1, HE.out.2]
      exact TRes.fin HLr.out.hb (H.out.kk HLr.out.hb) (TlS.err _ _ 8) hF7 hF8
-- MORE9
end
end Go.Proofs.YtnjfogeefdmlkaaDoor
namespace Go.Proofs.YtnjfogeefdmlkaaDoor
open Go.RowKit
set_option maxRecDepth 20000
set_option linter.unusedSimpArgs false
set_option linter.unusedVariables false
theorem getD_atR {l : List Pt} {j : Nat} (h : j < l.length) : l.getD j (0, []) = l[j] := by simp [List.getD, List.getElem?_eq_getElem h]
theorem get_sndR {cs : List (Int × Nat)} {j : Nat} (hj : j < cs.length) : (cs.map fun c => (c.2 : Int))[j]? = some (((cs.getD j (0, 0)).2 : Nat) : Int) := by
  rw [List.getD_eq_getElem?_getD, List.getElem?_map, List.getElem?_eq_getElem hj]
  rfl
theorem own_some {w : World} {B e sz n : Nat} {v : Value} {xs : List Value} (h : w.ownsRow B e sz v n xs) (hn : 0 < n) : ∃ g c, v = .slice (some ⟨g, 0, none⟩) n c ∧ B ≤ g ∧ g < w.heap.size ∧ n ≤ c := by
  rcases h.2 with ⟨_, h0⟩ | ⟨g, cap, cur, hv, hgB, hh, hnc, _⟩
  · omega
  · exact ⟨g, cap, hv, hgB, (Array.getElem?_eq_some_iff.1 hh).1, hnc⟩
/-- The three stores of a set: what there is ahead of each, and behind them all. -/
theorem set_chain {w z2 : World} {CA SA RA : Option Addr} {cn cc sn sc rn rc : Nat} {x : Tst} {B1 B2 g gc pg pgc yn i k : Nat} {rvs pvs : List Value} (dv : Value) (hL : TLaid w z2 ⟨CA, cn, cc, SA, sn, sc, RA, rn, rc⟩ x)
    (og : z2.ownsRow B1 87 3 (.slice (some ⟨g, 0, none⟩) rn gc) rn rvs) (op : z2.ownsRow B2 73 2 (.slice (some ⟨pg, 0, none⟩) yn pgc) yn pvs) (hg : w.heap.size + 4 ≤ g) (hgp : g < pg) (hi : i < rn) (hk : k < yn) (z3 z4 z5 : World)
    (h3 : z3 = z2.setCell ⟨pg, k * 2 + 1, none⟩ dv) (h4 : z4 = z3.setCell ⟨g, i * 3 + 2, none⟩ (.slice (some ⟨pg, 0, none⟩) yn pgc)) (h5 : z5 = z4.setCell ⟨w.heap.size, 2, none⟩ (.slice (some ⟨g, 0, none⟩) rn gc)) :
    (∃ u, z2.cell? ⟨pg, k * 2 + 1, none⟩ = some u) ∧ z2.frozen? ⟨pg, k * 2 + 1, none⟩ = false ∧ (∃ u, z3.cell? ⟨g, i * 3 + 2, none⟩ = some u) ∧ z3.frozen? ⟨g, i * 3 + 2, none⟩ = false ∧ TLaid w z3 ⟨CA, cn, cc, SA, sn, sc, RA, rn, rc⟩ x ∧ TLaid w z4 ⟨CA, cn, cc, SA, sn, sc, RA, rn, rc⟩ x ∧
    Rec 40 z5 w.heap.size #[.slice CA cn cc, .slice SA sn sc, .slice (some ⟨g, 0, none⟩) rn gc] ∧ Rec 40 z5 (w.heap.size + 2) #[nilv, nilv, nilv] ∧ Rec 62 z5 (w.heap.size + 3) #[nilv, nilv, .int .i64 0, .int .i64 0, .bool false, .int .i64 0] ∧
    z5.ownsRow B1 87 3 (.slice (some ⟨g, 0, none⟩) rn gc) rn (rvs.set (i * 3 + 2) (.slice (some ⟨pg, 0, none⟩) yn pgc)) ∧ z5.ownsRow B2 73 2 (.slice (some ⟨pg, 0, none⟩) yn pgc) yn (pvs.set (k * 2 + 1) dv) ∧ Below w.heap.size w z5 := by
  have f3 : Fr (· = pg) z2 z3 := by rw [h3]; exact Fr.setCell (own := (· = pg)) z2 (p := ⟨pg, k * 2 + 1, none⟩) rfl _
  have f4 : Fr (· = g) z3 z4 := by rw [h4]; exact Fr.setCell (own := (· = g)) z3 (p := ⟨g, i * 3 + 2, none⟩) rfl _
  have f5 : Fr (· = w.heap.size) z4 z5 := by rw [h5]; exact Fr.setCell (own := (· = w.heap.size)) z4 (p := ⟨w.heap.size, 2, none⟩) rfl _
  have op3 : z3.ownsRow B2 73 2 (.slice (some ⟨pg, 0, none⟩) yn pgc) yn (pvs.set (k * 2 + 1) dv) := by rw [h3]; exact own_setC op _ _
  have og3 := own_fr og f3 (fun q hq e => by injection hq with hq; have e1 : g = q := hq; have e2 : q = pg := e; omega)
  have og4 : z4.ownsRow B1 87 3 (.slice (some ⟨g, 0, none⟩) rn gc) rn (rvs.set (i * 3 + 2) (.slice (some ⟨pg, 0, none⟩) yn pgc)) := by rw [h4]; exact own_setC og3 _ _
  have op4 := own_fr op3 f4 (fun q hq e => by injection hq with hq; have e1 : pg = q := hq; have e2 : q = g := e; omega)
  have L3 := hL.fr f3 (fun q hq => by have e : q = pg := hq; omega)
  have L4 := L3.fr f4 (fun q hq => by have e : q = g := hq; omega)
  have t3 := own_there op (o := k * 2 + 1) (m := 1) (by omega) 0 (by decide)
  have t4 := own_there og3 (o := i * 3 + 2) (m := 1) (by omega) 0 (by decide)
  rw [Nat.add_zero] at t3 t4
  refine ⟨Option.isSome_iff_exists.1 t3.1, t3.2, Option.isSome_iff_exists.1 t4.1, t4.2, L3, L4, ?_, L4.r2.fr f5 (fun e => by have e' : w.heap.size + 2 = w.heap.size := e; omega), L4.r3.fr f5 (fun e => by have e' : w.heap.size + 3 = w.heap.size := e; omega), own_fr og4 f5 (fun q hq e => by injection hq with hq; have e1 : g = q := hq; have e2 : q = w.heap.size := e; omega), own_fr op4 f5 (fun q hq e => by injection hq with hq; have e1 : pg = q := hq; have e2 : q = w.heap.size := e; omega), L4.hb.trans (f5.toBelow (fun q hq => Nat.le_of_eq (show q = w.heap.size from hq).symm) L4.hb.size)⟩
  rw [h5]
  exact L4.r0.set 2 _
section
variable {K : Nat → Prop} {w : World} {d : Rt} {t : Tb}
set_option maxHeartbeats 4000000 in
theorem Go_set (h : RtS K w d t) (ok : t.Ok) (x : Tst) (hx : TOk K w x) (h1 : x.d = 1) (hr : 0 ≤ x.row ∧ x.row < t.rows.length) :
    Calls Tryd.prog 21 #[.agg d.cs, .agg x.cs] w (TRes K w (t.go x.ts).1 (t.go x.ts).2) := by
  have hL := TLaid.new w d x
  have hrn := h.rn
  have hcn := h.cn
  have hsn := h.sn
  obtain ⟨CA, cn, cc, SA, sn, sc, RA, rn, rc⟩ := d
  obtain ⟨xd, xi, xg, pA, pn, pc, ps, row, comp, bA, bn, bc, b⟩ := x
  simp only at hrn hcn hsn h1 hr
  simp only [Rt.cs, Tst.cs, Tst.ts] at hL ⊢
  obtain ⟨w1, hw1⟩ : ∃ w1, w1 = (((w.alloc (.cells #[.slice CA cn cc, .slice SA sn sc, .slice RA rn rc] 40)).alloc (.cells #[.int .i64 xd, .int .i64 xi, .int .i64 xg, .slice pA pn pc, .int .i64 row, .int .i64 comp, .slice bA bn bc] 65)).alloc (.cells #[.slice none 0 0, .slice none 0 0, .slice none 0 0] 40)).alloc (.cells #[.slice none 0 0, .slice none 0 0, .int .i64 0, .int .i64 0, .bool false, .int .i64 0] 62) := ⟨_, rfl⟩
  rw [← hw1] at hL
  have p0 : w1.cell? ⟨w.heap.size + 1, 0, none⟩ = some (.int .i64 xd) := hL.st.at_ 0
  have p4 : w1.cell? ⟨w.heap.size + 1, 4, none⟩ = some (.int .i64 row) := hL.st.at_ 4
  have q2 : w1.cell? ⟨w.heap.size, 2, none⟩ = some (.slice RA rn rc) := hL.r0.at_ 2
  have HL := Lib.hid hL
  have H := Lib.hid h
  have HX := Lib.hid hx
  have HOK := Lib.hid ok
  have HRN := Lib.hid hrn
  have HCN := Lib.hid hcn
  have HSN := Lib.hid hsn
  subst h1
  obtain ⟨i, rfl⟩ : ∃ i : Nat, row = (i : Int) := ⟨row.toNat, by omega⟩
  have hil : i < t.rows.length := by omega
  have eid : ((i : Int)).toNat = i := rfl
  have hrnl : rn ≤ 1024 := by rw [hrn]; exact ok.n
  obtain ⟨y, hy⟩ : ∃ y, y = t.rows.getD i noEn := ⟨_, rfl⟩
  have hyr : t.rows[i]? = some y := by rw [hy, List.getD_eq_getElem?_getD, List.getElem?_eq_getElem hil]; rfl
  have hyok : RowOk t.cs y.2 := by rw [hy]; exact ok.getD hil
  obtain ⟨T', tl, hTl⟩ : ∃ T' tl, t.go ⟨1, (xi, xg), ps, (i : Int), comp, b⟩ = (T', tl) := ⟨_, _, rfl⟩
  rw [hTl]
  have hnone : (∀ j, j < t.cs.length → (t.cs.getD j (0, 0)).1 ≠ comp) → T' = t ∧ tl = .e 8 := fun hno => by
    have hat := at_none (t := t) hno
    have e : t.go ⟨1, (xi, xg), ps, (i : Int), comp, b⟩ = (t, .e 8) := by
      unfold Tb.go
      simp only
      rw [if_neg (by decide), if_pos ⟨by omega, by omega⟩, if_neg (by decide), if_neg (by decide), hat]
    rw [hTl] at e
    injection e with e1 e2
    exact ⟨e1, e2⟩
  have hsome : ∀ k, k < t.cs.length → (∀ j, j < k → (t.cs.getD j (0, 0)).1 ≠ comp) → (t.cs.getD k (0, 0)).1 = comp → (b.length = (t.cs.getD k (0, 0)).2 → T' = ⟨t.cs, t.rows.set i (y.1, y.2.set k ((y.2.getD k (0, [])).1, b))⟩ ∧ tl = .e 0) ∧ (b.length ≠ (t.cs.getD k (0, 0)).2 → T' = t ∧ tl = .e 7) := fun k hk hno he => by
    have hat := at_some (t := t) hk hno he
    constructor
    · intro hb
      have e : t.go ⟨1, (xi, xg), ps, (i : Int), comp, b⟩ = (⟨t.cs, t.rows.set i (y.1, y.2.set k ((y.2.getD k (0, [])).1, b))⟩, .e 0) := by
        unfold Tb.go
        simp only
        rw [if_neg (by decide), if_pos ⟨by omega, by omega⟩, if_neg (by decide), if_neg (by decide), hat]
        simp only
        rw [if_neg (by decide), if_pos hb, hy]
        rfl
      rw [hTl] at e
      injection e with e1 e2
      exact ⟨e1, e2⟩
    · intro hb
      have e : t.go ⟨1, (xi, xg), ps, (i : Int), comp, b⟩ = (t, .e 7) := by
        unfold Tb.go
        simp only
        rw [if_neg (by decide), if_pos ⟨by omega, by omega⟩, if_neg (by decide), if_neg (by decide), hat]
        simp only
        rw [if_neg (by decide), if_neg hb]
      rw [hTl] at e
      injection e with e1 e2
      exact ⟨e1, e2⟩
  obtain ⟨rvs, hrl, hrv, hrh⟩ := h.r
  simp only at hrl hrv
  obtain ⟨yr, hyl, ⟨YA, yn, yc, hye, hyp⟩, hyc⟩ := hrh.at_ hyr
  subst hye
  have hrv1 := hrv.lt.stays (w' := w1) ⟨hL.hb.size, fun q hq => hL.hb.block q hq.2⟩
  have hone := hrh.one (fun _ _ h => EE.one h)
  obtain ⟨w2, hw2⟩ : ∃ w2, w2 = w1.alloc (.cells #[] 87) := ⟨_, rfl⟩
  have hb2 : Below w1.heap.size w1 w2 := by rw [hw2]; exact (Below.refl _ _).alloc (Nat.le_refl _) _
  have ho2 : w2.ownsRow w1.heap.size 87 3 (.slice (some ⟨w1.heap.size, 0, none⟩) 0 0) 0 [] := by rw [hw2]; exact World.ownsRow_lit w1 #[] 0 (Nat.le_refl _) (Nat.zero_le _) rfl
  have hL2 := hL.next hb2
  have q22 : w2.cell? ⟨w.heap.size, 2, none⟩ = some (.slice RA rn rc) := hL2.r0.at_ 2
  have HRV2 := Lib.hid (hrv1.below hb2)
  have HW2 := Lib.hid hw2
  have HO2 := Lib.hid ho2
  have HONE := Lib.hid hone
  have HRH := Lib.hid hrh
  have HYC := Lib.hid hyc
  have HYP := Lib.hid hyp
  have HYR := Lib.hid hyr
  have HYOK := Lib.hid hyok
  have HILT := Lib.hid hil
  have HB12 := Lib.hid hb2
  have HNONE := Lib.hid hnone
  have HSOME := Lib.hid hsome
  have hsz14 : w.heap.size + 4 ≤ w1.heap.size := hL.r3.lt
  rw [← hrn] at hr hil
  have i0 : (0 : Int) ≤ (i : Int) := by omega
  have i1 : (i : Int) < (rn : Int) := by omega
  have dr0 : decide ((i : Int) < 0) = false := decide_eq_false (by omega)
  have dr1 : decide ((rn : Int) ≤ (i : Int)) = false := decide_eq_false (by omega)
  have dr2 : decide (rn ≤ i) = false := decide_eq_false (by omega)
  have dr3 : ¬ rn ≤ i := by omega
  have hrpos : 0 < rn := by omega
  have hcm := ok.cn
  rw [← hcn] at hcm
  clear hw2 ho2 hb2 hL2 hrv1 hrv hrh hone hyc hyp hyr hrl hy hyok hTl hnone hsome
  clear hL h hx ok hrn hcn hsn
  go_enter Tryd.func21, Tryd.ntmps21
  go_wp2_with (first
    | (rw [← hw1]; clear hw1)
    | (rw [← HW2.out])
    | (at_builtin; refine wpList_appW entsT rfl (.tmp 48) (.tmp 50) rfl w1.heap.size (.slice (some ⟨w1.heap.size, 0, none⟩) 0 0) 0 [] rfl HO2.out RA rn rc rvs rfl HRV2.out HONE.out (by omega) (by decide) HB12.out.size ?_; intro vR w3 ho3 hg3; rw [List.nil_append, Nat.zero_add] at ho3; have hb3 := HB12.out.trans (below_own HO2.out HB12.out.size hg3); have HL3 := Lib.hid (HL.out.next hb3); obtain ⟨AR, gc, rfl, _, _⟩ := own_slv ho3; have HO3 := Lib.hid ho3; clear hg3 hb3 ho3 q2 q22 p0 p4; have p0' : w3.cell? ⟨w.heap.size + 1, 0, none⟩ = some (.int .i64 1) := HL3.out.st.at_ 0))
  have ho3 := HO3.out
  rcases ho3.2 with ⟨_, h0⟩ | ⟨g, cap, cur, hv, hgB, hh, hnc, hcmx, hs, _⟩
  · omega
  injection hv with e1 e2 e3
  subst e1 e3
  clear ho3 hh hs hcmx p0'
  go_loopw [8] (fun iv wr => ∃ k : Nat, k ≤ cn ∧ iv = .int .i64 k ∧ Below w3.heap.size w3 wr ∧ ∀ j, j < k → (t.cs.getD j (0, 0)).1 ≠ comp) (fun iv _ => cn - (intOf iv).toNat)
  case atStart => exact ⟨0, Nat.zero_le _, rfl, Below.refl _ _, fun j hj => absurd hj (Nat.not_lt_zero j)⟩
  case round =>
    obtain ⟨k, hk, rfl, hB, hno⟩ := hrel
    have hLr := HL3.out.next hB
    have hss := hB.size
    have g0 : wr.cell? ⟨w.heap.size, 0, none⟩ = some (.slice CA cn cc) := hLr.r0.at_ 0
    by_cases hkn : k < cn
    · have hkc : k < t.cs.length := by rw [← HCN.out]; exact hkn
      obtain ⟨cb, co', hCA, hcb, kk⟩ := IntsV.cell (H.out.c.below hLr.hb) (get_fstR hkc)
      simp only at hCA
      subst hCA
      have s5 : wr.cell? ⟨w.heap.size + 1, 5, none⟩ = some (.int .i64 comp) := hLr.st.at_ 5
      obtain ⟨ck, hck⟩ : ∃ ck, ck = (t.cs.getD k (0, 0)).1 := ⟨_, rfl⟩
      rw [← hck] at kk
      have HCK := Lib.hid hck
      have HNO := Lib.hid hno
      have HB := Lib.hid hB
      clear hno hB hck hLr
      by_cases hcc : ck = comp
      · subst hcc
        go_wp2_with fail
        go_quiet (fail)
        -- found
        obtain ⟨wx, hwx⟩ : ∃ wx, wx = wr.drewN nq := ⟨_, rfl⟩
        have hBx : Below w3.heap.size w3 wx := by rw [hwx]; exact below_drewN HB.out nq
        rw [← hwx]
        clear hwx
        have hLx := HL3.out.next hBx
        have hE := HSOME.out k hkc HNO.out HCK.out.symm
        have hox := own_keep HO3.out hBx
        have hkx : ∀ r u, r < 3 → ([Value.int .i64 y.1.1, .int .i64 y.1.2, .slice YA yn yc] : List Value)[r]? = some u → wx.cell? ⟨g, i * 3 + r, none⟩ = some u := fun r u hr hu => by
          obtain ⟨_, _, e, _, _, hvr⟩ := own_vrow hox
          injection e with e1 _ _
          subst e1
          obtain ⟨b', o', e', _, _, hc⟩ := hvr.2.2 hrpos
          injection e' with e'
          injection e' with e1 e2
          subst e1 e2
          have := hc (i * 3 + r) u (by rw [HYC.out r hr]; exact hu)
          rw [Nat.zero_add] at this
          exact this
        have hyl2 := HYOK.out.len
        have hypl := HYP.out.len
        have hyk : k < y.2.length := by omega
        obtain ⟨pb, po, u, hYA, _, hpb, _, m1, hu⟩ := HYP.out.cell (List.getElem?_eq_getElem hyk)
        have HYA := Lib.hid hYA
        subst hYA
        have e3 : y.2[k] = y.2.getD k (0, []) := by simp [List.getD, List.getElem?_eq_getElem hyk]
        rw [e3] at hu
        have hkyn : k < yn := by omega
        have k0' : (0 : Int) ≤ (k : Int) := by omega
        have k1' : (k : Int) < (yn : Int) := by omega
        obtain ⟨sb, so, hSA, hsb, ks⟩ := IntsV.cell (H.out.s.below hLx.hb) (get_sndR hkc)
        simp only at hSA
        subst hSA
        obtain ⟨z, hz⟩ : ∃ z, z = (t.cs.getD k (0, 0)).2 := ⟨_, rfl⟩
        rw [← hz] at ks hE
        obtain ⟨_, _, _, ebb, hbr, _⟩ := id HX.out.b
        injection ebb with eb1 eb2 eb3
        subst eb1 eb2 eb3
        have hbl : b.length = bn := hbr.1
        have c1x : wx.cell? ⟨w.heap.size, 1, none⟩ = some (.slice (some ⟨sb, so, none⟩) sn sc) := hLx.r0.at_ 1
        have s6 : wx.cell? ⟨w.heap.size + 1, 6, none⟩ = some (.slice bA bn bc) := hLx.st.at_ 6
        have p0x : wx.cell? ⟨w.heap.size + 1, 0, none⟩ = some (.int .i64 1) := hLx.st.at_ 0
        have ksn : k < sn := by have := HSN.out; omega
        have HLx := Lib.hid hLx
        have HE := Lib.hid hE
        have HKX := Lib.hid hkx
        have HOX := Lib.hid hox
        have HBX := Lib.hid hBx
        have HU := Lib.hid hu
        clear hE hkx hox hBx hLx kk s5 g0 hu e3 m1 hz hbr
        by_cases hbz : bn = z
        · subst hbz
          go_wp2
          go_quiet (fail)
          -- region 23
          obtain ⟨wy, hwy⟩ : ∃ wy, wy = wx.drewN nq := ⟨_, rfl⟩
          have hBy : Below wx.heap.size wx wy := by rw [hwy]; exact below_drewN (Below.refl _ _) nq
          rw [← hwy]
          clear hwy
          obtain ⟨pvs, hpl1, hpv, hph⟩ := HYP.out
          have hpone := hph.one (fun _ _ h => EP.one h)
          have hyb : Below w.heap.size w wy := HLx.out.hb.trans (hBy.mono HLx.out.hb.size)
          obtain ⟨z1, hz1⟩ : ∃ z1, z1 = wy.alloc (.cells #[] 73) := ⟨_, rfl⟩
          have bz1 : Below wy.heap.size wy z1 := by rw [hz1]; exact (Below.refl _ _).alloc (Nat.le_refl _) _
          have oz1 : z1.ownsRow wy.heap.size 73 2 (.slice (some ⟨wy.heap.size, 0, none⟩) 0 0) 0 [] := by rw [hz1]; exact World.ownsRow_lit wy #[] 0 (Nat.le_refl _) (Nat.zero_le _) rfl
          have hxz : Below wx.heap.size wx z1 := hBy.trans (bz1.mono hBy.size)
          have hpz : VRow K z1 (some ⟨pb, po, none⟩) yn 2 pvs := hpv.below (hyb.trans (bz1.mono hyb.size))
          have r4z : z1.cell? ⟨w.heap.size + 1, 4, none⟩ = some (.int .i64 (i : Int)) := (HLx.out.next hxz).st.at_ 4
          have k2z : z1.cell? ⟨g, i * 3 + 2, none⟩ = some (.slice (some ⟨pb, po, none⟩) yn yc) := (hxz.cell (p := ⟨g, i * 3 + 2, none⟩) (own_geB HOX.out rfl).2).trans (HKX.out 2 _ (by decide) rfl)
          have HZ1 := Lib.hid hz1
          have OZ1 := Lib.hid oz1
          have BZ1 := Lib.hid bz1
          have HPZ := Lib.hid hpz
          have HPO := Lib.hid hpone
          have HPH := Lib.hid hph
          have HXZ := Lib.hid hxz
          have HXZ' := Lib.hid hBy.size
          have HYB := Lib.hid hyb
          have hyn64 : yn ≤ 64 := by have := HCN.out; omega
          clear hz1 oz1 bz1 hpz hpone hph hxz hyb hBy hpv s6 c1x p0x
          go_wp2_with (first
            | (rw [← HZ1.out])
            | (at_builtin; refine wpList_appW partsT rfl (.tmp 125) (.tmp 131) rfl wy.heap.size (.slice (some ⟨wy.heap.size, 0, none⟩) 0 0) 0 [] rfl OZ1.out (some ⟨pb, po, none⟩) yn yc pvs rfl HPZ.out HPO.out (by omega) (by decide) BZ1.out.size ?_; intro vP z2 oz2 gz2; rw [List.nil_append, Nat.zero_add] at oz2; have bz2 := HXZ.out.trans ((below_own OZ1.out BZ1.out.size gz2).mono (Nat.le_trans HXZ'.out (Nat.le_refl _))); obtain ⟨pg, pgc, rfl, hpgB, hpgl, hpgc⟩ := own_some oz2 (by omega); have ogz := own_keep HOX.out bz2; obtain ⟨z3, hz3⟩ : ∃ z, z = z2.setCell ⟨pg, k * 2 + 1, none⟩ (.slice bA bn bc) := ⟨_, rfl⟩; obtain ⟨z4, hz4⟩ : ∃ z, z = z3.setCell ⟨g, i * 3 + 2, none⟩ (.slice (some ⟨pg, 0, none⟩) yn pgc) := ⟨_, rfl⟩; obtain ⟨z5, hz5⟩ : ∃ z, z = z4.setCell ⟨w.heap.size, 2, none⟩ (.slice (some ⟨g, 0, none⟩) rn gc) := ⟨_, rfl⟩; have gpg : g < pg := Nat.lt_of_lt_of_le (own_geB HOX.out rfl).2 (Nat.le_trans HXZ'.out hpgB); obtain ⟨⟨u0, m0⟩, m1, ⟨u1, m2⟩, m3, mL3, mL4, mR0, mR2, mR3, mO, mP, mB⟩ := set_chain (.slice bA bn bc) (HLx.out.next bz2) ogz oz2 (by omega) gpg (by omega) hkyn z3 z4 z5 hz3 hz4 hz5; have s6z : z2.cell? ⟨w.heap.size + 1, 6, none⟩ = some (.slice bA bn bc) := (HLx.out.next bz2).st.at_ 6; have r43 : z3.cell? ⟨w.heap.size + 1, 4, none⟩ = some (.int .i64 (i : Int)) := mL3.st.at_ 4; have r24 : z4.cell? ⟨w.heap.size, 2, none⟩ = some (.slice RA rn rc) := mL4.r0.at_ 2; have f24 := mL4.r0.fz 2; have c0 : (k : Int) < (yn : Int) := (by omega); have HZ3 := Lib.hid hz3; have HZ4 := Lib.hid hz4; have HZ5 := Lib.hid hz5; have MR0 := Lib.hid mR0; have MR2 := Lib.hid mR2; have MR3 := Lib.hid mR3; have MO := Lib.hid mO; have MP := Lib.hid mP; have MB := Lib.hid mB; have GPG := Lib.hid gpg; have PGL := Lib.hid (And.intro hpgB hpgl); have GB := Lib.hid hgB; clear oz2 bz2 gz2 r4z k2z hz3 hz4 hz5 mL3 mL4 mR0 mR2 mR3 mO mP mB ogz gpg hpgB hpgl)
            | (rw [← HZ3.out]; clear m0 m1 s6z)
            | (rw [← HZ4.out]; clear m2 m3 r43)
            | (rw [← HZ5.out]; clear r24 f24)
            | (with_reducible refine wpList_ldS rtabT rfl rfl (.tmp 2) rfl rfl MR0.out ?_)
            | (with_reducible refine wpList_stS (cs' := #[.slice (some ⟨cb, co', none⟩) cn cc, .slice (some ⟨sb, so, none⟩) sn sc, .slice (some ⟨g, 0, none⟩) rn gc]) rtabT rfl rfl (by simp [Value.oneCell']) rfl (.tmp 4) (.tmp 147) rfl rfl rfl MR2.out ?_; intro w7 hR7 hF7)
            | (with_reducible refine wpList_stS (cs' := #[.slice none 0 0, .slice none 0 0, .int .i64 0, .int .i64 0, .bool false, .int .i64 0]) toldT rfl rfl (by simp [tlc, Value.oneCell']) rfl (.tmp 5) (.tmp 148) rfl rfl rfl (MR3.out.fr hF7 (fun e => by have e' : w.heap.size + 3 = w.heap.size + 2 := e; omega)) ?_; intro w8 hR8 hF8))
          refine bodyPost_ret (res_cc rfl rfl ((hR7.fr hF8 (fun e => by have e' : w.heap.size + 2 = w.heap.size + 3 := e; omega)).load rtabT rfl) rfl (hR8.load toldT rfl)) rfl ?_
          have hE := HE.out.1 (by omega)
          rw [hE.1, hE.2]
          have hpd : PartsV (KK K w z5) z5 (some ⟨pg, 0, none⟩) yn (y.2.set k ((y.2.getD k (0, [])).1, b)) := by
            have h0 := (HPH.out.imp (E' := EP (KK K w z5) z5) (fun _ _ ⟨u, e, hu⟩ => ⟨u, e, hu.kk MB.out⟩)).set1 (List.getElem?_eq_getElem hyk) (i := 1) (by decide) (.slice bA bn bc) (y := ((y.2.getD k (0, [])).1, b)) (fun r hr ⟨u, e, hu⟩ => ⟨_, by rw [e, getD_atR hyk]; rfl, HX.out.b.kk MB.out⟩)
            obtain ⟨_, _, e, _, _, vs', g1, g2, g3⟩ := own_rowsL MP.out h0 (by simp; omega)
            injection e with e1 _ _
            subst e1
            exact ⟨vs', g1, g2.mono (fun q hq => .inr (by have h1 : w.heap.size + 4 ≤ w1.heap.size := hsz14; have h2 : g < wx.heap.size := (own_geB HOX.out rfl).2; have h3 : wx.heap.size ≤ wy.heap.size := HXZ'.out; have h4 : w1.heap.size ≤ g := GB.out; have h5 : wy.heap.size ≤ q := hq.1; have h6 : q < z5.heap.size := hq.2; exact ⟨by omega, h6⟩)), g3⟩
          have hrd := (HRH.out.imp (E' := EE (KK K w z5) z5) (fun _ _ ⟨A, n, c, e, hu⟩ => ⟨A, n, c, e, hu.kk MB.out⟩)).set1 HYR.out (i := 2) (by decide) (.slice (some ⟨pg, 0, none⟩) yn pgc) (y := (y.1, y.2.set k ((y.2.getD k (0, [])).1, b))) (fun r hr ⟨A, n, c, e, hu⟩ => ⟨some ⟨pg, 0, none⟩, yn, pgc, by rw [e]; rfl, hpd⟩)
          obtain ⟨_, _, e, _, _, vs', g1, g2, g3⟩ := own_rowsL MO.out hrd (by simp [← HRN.out])
          injection e with e1 _ _
          subst e1
          exact TRes.fin MB.out (d' := ⟨some ⟨cb, co', none⟩, cn, cc, some ⟨sb, so, none⟩, sn, sc, some ⟨g, 0, none⟩, rn, gc⟩) ⟨(H.out.kk MB.out).c, (H.out.kk MB.out).s, vs', g1, g2.mono (fun q hq => .inr (by omega)), g3⟩ (TlS.err _ _ 0) hF7 hF8
        · have dne : ((bn : Int) != (z : Int)) = true := bne_iff_ne.2 (by omega)
          have dnz : decide ((bn : Int) = (z : Int)) = false := decide_eq_false (by omega)
          go_wp2
          go_quiet (fail)
          have HLz := Lib.hid (HLx.out.next (below_drewN (Below.refl wx.heap.size wx) nq))
          go_wp2_with (first
            | (with_reducible refine wpList_ldS rtabT rfl rfl (.tmp 2) rfl rfl HLz.out.r0 ?_)
            | (with_reducible refine wpList_stS (cs' := #[.slice (some ⟨cb, co', none⟩) cn cc, .slice (some ⟨sb, so, none⟩) sn sc, .slice RA rn rc]) rtabT rfl rfl (by simp [Value.oneCell']) rfl (.tmp 4) (.tmp 123) rfl rfl rfl HLz.out.r2 ?_; intro w7 hR7 hF7)
            | (with_reducible refine wpList_stS (cs' := #[.slice none 0 0, .slice none 0 0, .int .i64 0, .int .i64 0, .bool false, .int .i64 7]) toldT rfl rfl (by simp [tlc, Value.oneCell']) rfl (.tmp 5) (.tmp 124) rfl rfl rfl (HLz.out.r3.fr hF7 (fun e => by have e' : w.heap.size + 3 = w.heap.size + 2 := e; omega)) ?_; intro w8 hR8 hF8))
          refine bodyPost_ret (res_cc rfl rfl ((hR7.fr hF8 (fun e => by have e' : w.heap.size + 2 = w.heap.size + 3 := e; omega)).load rtabT rfl) rfl (hR8.load toldT rfl)) rfl ?_
          have hE := HE.out.2 (by omega)
          rw [hE.1, hE.2]
          exact TRes.fin HLz.out.hb (H.out.kk HLz.out.hb) (TlS.err _ _ 7) hF7 hF8
      · have dne : (ck != comp) = true := bne_iff_ne.2 hcc
        have dnf : decide (ck = comp) = false := decide_eq_false hcc
        go_wp2_with fail
        go_quiet (fail)
        go_wp2
        go_roundw
        case rel =>
          refine ⟨k + 1, hkn, by go_num, below_drewN HB.out _, fun j hj => ?_⟩
          by_cases e : j = k
          · subst e; rw [← HCK.out]; exact hcc
          · exact HNO.out j (by omega)
        case measure => simp [intOf]; omega
    · obtain rfl : k = cn := by omega
      have hno' := HNONE.out (fun j hj => hno j (by rw [HCN.out]; exact hj))
      have HLr := Lib.hid hLr
      have HE := Lib.hid hno'
      clear hno hno' hB hLr
      go_wp2_with (first
        | (with_reducible refine wpList_ldS rtabT rfl rfl (.tmp 2) rfl rfl HLr.out.r0 ?_)
        | (with_reducible refine wpList_stS (cs' := #[.slice CA k cc, .slice SA sn sc, .slice RA rn rc]) rtabT rfl rfl (by simp [Value.oneCell']) rfl (.tmp 4) (.tmp 149) rfl rfl rfl HLr.out.r2 ?_; intro w7 hR7 hF7)
        | (with_reducible refine wpList_stS (cs' := #[.slice none 0 0, .slice none 0 0, .int .i64 0, .int .i64 0, .bool false, .int .i64 8]) toldT rfl rfl (by simp [tlc, Value.oneCell']) rfl (.tmp 5) (.tmp 150) rfl rfl rfl (HLr.out.r3.fr hF7 (fun e => by have e' : w.heap.size + 3 = w.heap.size + 2 := e; omega)) ?_; intro w8 hR8 hF8))
      refine bodyPost_ret (res_cc rfl rfl ((hR7.fr hF8 (fun e => by have e' : w.heap.size + 2 = w.heap.size + 3 := e; omega)).load rtabT rfl) rfl (hR8.load toldT rfl)) rfl ?_
      rw [HE.out.1, HE.out.2]
      exact TRes.fin HLr.out.hb (H.out.kk HLr.out.hb) (TlS.err _ _ 8) hF7 hF8
-- MORE10
end
end Go.Proofs.YtnjfogeefdmlkaaDoor
namespace Go.Proofs.YtnjfogeefdmlkaaDoor
open Go.RowKit
section
variable {K : Nat → Prop} {w : World} {d : Rt} {t : Tb}
theorem RGo_any (h : RtS K w d t) (ok : t.Ok) (x : Tst) (hx : TOk K w x) (hpn : x.pn ≤ 9223372036854775807) :
    Calls Tryd.prog 21 #[.agg d.cs, .agg x.cs] w (TRes K w (t.go x.ts).1 (t.go x.ts).2) := by
  by_cases h1 : x.d < 1 ∨ 4 < x.d
  · have e : t.go x.ts = t.add x.ts.id x.ts.ps := by unfold Tb.go; rw [if_pos (show x.ts.d < 1 ∨ 4 < x.ts.d from h1)]
    rw [e]
    exact Go_add h ok x hx hpn h1
  by_cases hr : 0 ≤ x.row ∧ x.row < t.rows.length
  · by_cases h3 : x.d = 3
    · have e : t.go x.ts = (t, { Tl.e 0 with parts := (t.rows.getD x.row.toNat noEn).2 }) := by
        unfold Tb.go
        rw [if_neg (show ¬ (x.ts.d < 1 ∨ 4 < x.ts.d) from h1), if_pos (show 0 ≤ x.ts.row ∧ x.ts.row < t.rows.length from hr), if_pos (show x.ts.d = 3 from h3)]
        rfl
      rw [e]
      exact Go_parts h ok x hx h3 hr
    by_cases h4 : x.d = 4
    · have e : t.go x.ts = (⟨t.cs, (t.rows.set x.row.toNat (t.rows.getD (t.rows.length - 1) noEn)).take (t.rows.length - 1)⟩, if x.row.toNat = t.rows.length - 1 then .e 0 else { Tl.e 0 with id := (t.rows.getD (t.rows.length - 1) noEn).1, ok := true }) := by
        unfold Tb.go
        rw [if_neg (show ¬ (x.ts.d < 1 ∨ 4 < x.ts.d) from h1), if_pos (show 0 ≤ x.ts.row ∧ x.ts.row < t.rows.length from hr), if_neg (show ¬ x.ts.d = 3 from h3), if_pos (show x.ts.d = 4 from h4)]
        rfl
      rw [e]
      exact Go_drop h ok x hx h4 hr
    by_cases h2 : x.d = 2
    · exact Go_get h ok x hx h2 hr
    · exact Go_set h ok x hx (by omega) hr
  · have e : t.go x.ts = (t, .e 2) := by
      unfold Tb.go
      rw [if_neg (show ¬ (x.ts.d < 1 ∨ 4 < x.ts.d) from h1), if_neg (show ¬ (0 ≤ x.ts.row ∧ x.ts.row < t.rows.length) from hr)]
    rw [e]
    exact Go_range h ok x hx (by omega) hr
end
end Go.Proofs.YtnjfogeefdmlkaaDoor
namespace Go.Proofs.YtnjfogeefdmlkaaDoor
open Go.RowKit
set_option maxRecDepth 20000

theorem TbA.low {w : World} {N N' : Nat} {tag : Nat → Nat} {p m : Nat} {v : Value} {q : Nat → Nat} {sg : Nat} {t : Tb} (h : TbA w N tag p m v q sg t) (hN : N' ≤ N) : TbA w N' tag p m v q sg t :=
  ⟨{ h.i with lo := fun x hx => Nat.le_trans hN (h.i.lo x hx) }, h.ok, h.sig, h.sgl⟩
theorem TlS.lt {K : Nat → Prop} {w : World} {DA : Option Addr} {dn dc : Nat} {PA : Option Addr} {pn : Nat} {x : Tl} (h : TlS K w DA dn dc PA pn x) : TlS (fun y => K y ∧ y < w.heap.size) w DA dn dc PA pn x := ⟨h.1.lt, h.2.lt⟩
theorem TOk.mono {K K' : Nat → Prop} {w : World} {x : Tst} (h : TOk K w x) (hk : ∀ y, K y → K' y) : TOk K' w x := ⟨h.p.mono hk, h.b.mono hk⟩
theorem Tb.go_parts {t : Tb} (ok : t.Ok) (x : Ts) : (t.go x).2.parts.length ≤ 64 := by
  unfold Tb.go
  split
  · unfold Tb.add
    split
    · exact Nat.zero_le _
    · split <;> exact Nat.zero_le _
  · split
    · rename_i _ hr
      split
      · have := (ok.getD (k := x.row.toNat) (by omega)).len
        have := ok.cn
        show (t.rows.getD x.row.toNat noEn).2.length ≤ 64
        omega
      · split
        · show (if _ then _ else _ : Tl).parts.length ≤ 64
          split <;> exact Nat.zero_le _
        · split
          · exact Nat.zero_le _
          · show (if _ then _ else _ : Tb × Tl).2.parts.length ≤ 64
            split
            · exact Nat.zero_le _
            · split <;> exact Nat.zero_le _
    · exact Nat.zero_le _

/-- The program's table and the reference's (by value d, its parts in blocks of K) stand for t. -/
structure TI (N p m : Nat) (q : Nat → Nat) (sg : Nat) (t : Tb) (tag : Nat → Nat) (v : Value) (K : Nat → Prop) (d : Rt) (w : World) : Prop where
  a : TbA w N tag p m v q sg t
  r : RtS K w d t
  k : ∀ x, K x → x < w.heap.size ∧ tag x = 0
/-- .. and what both have told. -/
structure TTl (K : Nat → Prop) (w : World) (d : Rt) (t : Tb) (DA : Option Addr) (dn dc : Nat) (PA : Option Addr) (pn : Nat) (x : Tl) : Prop where
  r : RtS K w d t
  t : TlS K w DA dn dc PA pn x
section
variable {N p m : Nat} {q : Nat → Nat} {sg : Nat} {t : Tb} {tag : Nat → Nat} {v : Value} {K K' : Nat → Prop} {d : Rt} {w w' : World} {DA PA : Option Addr} {dn dc pn : Nat} {x : Tl}
theorem TI.below (h : TI N p m q sg t tag v K d w) (hb : Below w.heap.size w w') : TI N p m q sg t tag v K d w' :=
  ⟨h.a.below hb, h.r.below hb, fun x hx => ⟨Nat.lt_of_lt_of_le (h.k x hx).1 hb.size, (h.k x hx).2⟩⟩
theorem TTl.mono (h : TTl K w d t DA dn dc PA pn x) (hk : ∀ x, K x → K' x) : TTl K' w d t DA dn dc PA pn x := ⟨h.r.mono hk, h.t.mono hk⟩
theorem TTl.below (h : TTl K w d t DA dn dc PA pn x) (hb : Below w.heap.size w w') : TTl K w' d t DA dn dc PA pn x := ⟨h.r.below hb, h.t.below hb⟩
theorem TTl.stays (h : TTl K w d t DA dn dc PA pn x) (hs : WStays K w w') : TTl K w' d t DA dn dc PA pn x := ⟨h.r.stays hs, h.t.stays hs⟩
theorem TbA.zero {w : World} {p m : Nat} {v : Value} {q : Nat → Nat} {g : Nat} (h : TbA w N tag p m v q sg t) (hg : g < N) : tag g = 0 := by
  rcases Nat.eq_zero_or_pos (tag g) with h0 | h0
  · exact h0
  · have := h.i.lo g (by omega)
    omega
theorem TbA.over {w : World} {p m : Nat} {v : Value} {q : Nat → Nat} {g : Nat} (h : TbA w N tag p m v q sg t) (hg : w.heap.size ≤ g) : tag g = 0 := by
  rcases Nat.eq_zero_or_pos (tag g) with h0 | h0
  · exact h0
  · have := h.i.dom g (by omega)
    omega
theorem TI.turn {g : Nat} (h : TI N p m q sg t tag v K d w) (hf : Fr (· = g) w w') (hg : tag g = 0) (hK : ¬ K g) : TI N p m q sg t tag v K d w' where
  a := h.a.kept hf (fun x hx e => hx (by rw [show x = g from e]; exact hg))
  r := h.r.stays ⟨hf.size, fun x hx => hf.block x (h.k x hx).1 (fun e => hK ((show x = g from e) ▸ hx))⟩
  k := fun x hx => ⟨Nat.lt_of_lt_of_le (h.k x hx).1 hf.size, (h.k x hx).2⟩
theorem TI.step {tag' : Nat → Nat} (h : TI N p m q sg t tag v K d w) (hG : TGo w tag w' tag') : RtS K w' d t ∧ ∀ x, K x → x < w'.heap.size ∧ tag' x = 0 := by
  refine ⟨h.r.stays ⟨hG.fr.size, fun x hx => hG.fr.block x (h.k x hx).1 (fun e => e (h.k x hx).2)⟩, fun x hx => ⟨Nat.lt_of_lt_of_le (h.k x hx).1 hG.fr.size, ?_⟩⟩
  rcases Nat.eq_zero_or_pos (tag' x) with h0 | h0
  · exact h0
  · have h1 := h.k x hx
    rcases hG.own x (by omega) with h2 | h2
    · exact absurd h1.2 h2
    · omega
theorem TGo.zero {g : Nat} {tag' : Nat → Nat} (hG : TGo w tag w' tag') (hg : tag g = 0) (hl : g < w.heap.size) : tag' g = 0 := by
  rcases Nat.eq_zero_or_pos (tag' g) with h0 | h0
  · exact h0
  · rcases hG.own g (by omega) with h2 | h2
    · exact absurd hg h2
    · omega
variable {ops : Array Oper} {rest : List Oper} {o : Oper} {a : Act} {Q : Exit → Act → World → Prop} {g : Nat} {pc : Nat} {y : Tl}
abbrev zT : Array Value := #[.slice none 0 0, .slice none 0 0, .slice none 0 0]
abbrev zL : Array Value := #[.slice none 0 0, .slice none 0 0, .int .i64 0, .int .i64 0, .bool false, .int .i64 0]
theorem wpList_ldT (hgd : Region.wanted o (yielded ops a.tmps) = true) (x : Operand) (ho : o.op = .load 40 x) (hx : a.eval x = .pointer (some ⟨g, 0, none⟩)) (h : Rec 40 w g d.cs)
    (kk : wpList Tryd.prog ops Q rest (a.put o.dst (.agg d.cs)) w) : wpList Tryd.prog ops Q (o :: rest) a w := wpList_ldS rtabT rfl hgd x ho hx h kk
theorem wpList_stT (d' : Rt) (hgd : Region.wanted o (yielded ops a.tmps) = true) (x y : Operand) (ho : o.op = .store 40 x y) (hx : a.eval x = .pointer (some ⟨g, 0, none⟩)) (hy : a.eval y = .agg d'.cs) (h : Rec 40 w g d.cs)
    (kk : ∀ w', Rec 40 w' g d'.cs → Fr (· = g) w w' → wpList Tryd.prog ops Q rest (a.put o.dst undef) w') : wpList Tryd.prog ops Q (o :: rest) a w := wpList_stS rtabT rfl rfl (by simp [Rt.cs, Value.oneCell']) hgd x y ho hx hy h kk
theorem wpList_ldL (hgd : Region.wanted o (yielded ops a.tmps) = true) (x : Operand) (ho : o.op = .load 62 x) (hx : a.eval x = .pointer (some ⟨g, 0, none⟩)) (h : Rec 62 w g (tlc DA dn dc PA pn pc y))
    (kk : wpList Tryd.prog ops Q rest (a.put o.dst (.agg (tlc DA dn dc PA pn pc y))) w) : wpList Tryd.prog ops Q (o :: rest) a w := wpList_ldS toldT rfl hgd x ho hx h kk
theorem wpList_stL (hgd : Region.wanted o (yielded ops a.tmps) = true) (x y' : Operand) (ho : o.op = .store 62 x y') (hx : a.eval x = .pointer (some ⟨g, 0, none⟩)) (hy : a.eval y' = .agg (tlc DA dn dc PA pn pc y)) (h : Rec 62 w g zL)
    (kk : ∀ w', Rec 62 w' g (tlc DA dn dc PA pn pc y) → Fr (· = g) w w' → wpList Tryd.prog ops Q rest (a.put o.dst undef) w') : wpList Tryd.prog ops Q (o :: rest) a w := wpList_stS toldT rfl rfl (by simp [tlc, Value.oneCell']) hgd x y' ho hx hy h kk
theorem step_stT {J : Act → World → Prop} {E : Prop} (d' : Rt) (hgd : o.guard = none) (x y : Operand) (ho : o.op = .store 40 x y) (hx : a.eval x = .pointer (some ⟨g, 0, none⟩)) (hy : a.eval y = .agg d'.cs) (h : Rec 40 w g zT)
    (kk : ∀ w', Rec 40 w' g d'.cs → Fr (· = g) w w' → J (a.put o.dst undef) w') : if Region.wanted o (yielded ops a.tmps) = true then Oper.wp Tryd.prog o a w J Q else E := step_stS rtabT rfl rfl (by simp [Rt.cs, Value.oneCell']) hgd x y ho hx hy h kk
theorem step_stL {J : Act → World → Prop} {E : Prop} (DA : Option Addr) (dn dc : Nat) (PA : Option Addr) (pn pc : Nat) (y : Tl) (hgd : o.guard = none) (x y' : Operand) (ho : o.op = .store 62 x y') (hx : a.eval x = .pointer (some ⟨g, 0, none⟩)) (hy : a.eval y' = .agg (tlc DA dn dc PA pn pc y)) (h : Rec 62 w g zL)
    (kk : ∀ w', Rec 62 w' g (tlc DA dn dc PA pn pc y) → Fr (· = g) w w' → J (a.put o.dst undef) w') : if Region.wanted o (yielded ops a.tmps) = true then Oper.wp Tryd.prog o a w J Q else E := step_stS toldT rfl rfl (by simp [tlc, Value.oneCell']) hgd x y' ho hx hy h kk
end
end Go.Proofs.YtnjfogeefdmlkaaDoor
