/- TbR6 -/
import Derived.Test.YtnjfogeefdmlkaaDoorQl12
namespace Go.Proofs.YtnjfogeefdmlkaaDoor
open Go.RowKit

theorem entT : RT Tryd.prog 87 3 := ⟨⟨_, Tryd.underlying87, rfl⟩, by kernel_rfl⟩
theorem TRes.same {K : Nat → Prop} {w w3 : World} {d : Rt} {t : Tb} (h : RtS K w d t) (hb : Below w.heap.size w w3) (err : Int) : TRes K w t (.e err) (.returned (.tuple #[.agg d.cs, .agg (tlc none 0 0 none 0 0 (.e err))])) w3 :=
  ⟨d, none, 0, 0, none, 0, 0, rfl, (h.below hb).mono (fun _ hx => .inl hx), ⟨⟨none, 0, 0, rfl, Rd.nil _ _, fun b o e => by cases e⟩, PartsV.nil _ _ _⟩, hb⟩
section
variable {K : Nat → Prop} {w : World} {d : Rt} {t : Tb}
set_option maxRecDepth 20000 in
set_option maxHeartbeats 4000000 in
theorem add_full (h : RtS K w d t) (x : Tst) (hf : t.rows.length = 1024) :
    Calls Tryd.prog 42 #[.agg d.cs, .agg x.cs] w (TRes K w t (.e 9)) := by
  have hL := TLaid.new w d x
  have hrn := h.rn
  obtain ⟨CA, cn, cc, SA, sn, sc, RA, rn, rc⟩ := d
  obtain ⟨xd, xi, xg, pA, pn, pc, ps, row, comp, bA, bn, bc, b⟩ := x
  simp only at hrn
  rw [hf] at hrn
  subst hrn
  simp only [Rt.cs, Tst.cs] at hL ⊢
  obtain ⟨w1, hw1⟩ : ∃ w1, w1 = (((w.alloc (.cells #[.slice CA cn cc, .slice SA sn sc, .slice RA 1024 rc] 40)).alloc (.cells #[.int .i64 xd, .int .i64 xi, .int .i64 xg, .slice pA pn pc, .int .i64 row, .int .i64 comp, .slice bA bn bc] 65)).alloc (.cells #[.slice none 0 0, .slice none 0 0, .slice none 0 0] 40)).alloc (.cells #[.slice none 0 0, .slice none 0 0, .int .i64 0, .int .i64 0, .bool false, .int .i64 0] 62) := ⟨_, rfl⟩
  rw [← hw1] at hL
  have q2 : w1.cell? ⟨w.heap.size, 2, none⟩ = some (.slice RA 1024 rc) := hL.r0.at_ 2
  have HL := Lib.hid hL
  have H := Lib.hid h
  clear hL h
  go_enter Tryd.func42, Tryd.ntmps42
  go_wp2_with (first
    | (rw [← hw1]; clear hw1)
    | (with_reducible refine wpList_ldS rtabT rfl rfl (.tmp 2) rfl rfl HL.out.r0 ?_)
    | (with_reducible refine wpList_stS (cs' := #[.slice CA cn cc, .slice SA sn sc, .slice RA 1024 rc]) rtabT rfl rfl (by simp [Value.oneCell']) rfl (.tmp 4) (.tmp 14) rfl rfl rfl HL.out.r2 ?_; intro w2 hR2 hF2)
    | (with_reducible refine wpList_stS (cs' := #[.slice none 0 0, .slice none 0 0, .int .i64 0, .int .i64 0, .bool false, .int .i64 9]) toldT rfl rfl (by simp [Value.oneCell']) rfl (.tmp 5) (.tmp 15) rfl rfl rfl (HL.out.r3.fr hF2 (fun e => by have e' : w.heap.size + 3 = w.heap.size + 2 := e; omega)) ?_; intro w3 hR3 hF3))
  refine bodyPost_ret (res_cc rfl rfl ((hR2.fr hF3 (fun e => by have e' : w.heap.size + 2 = w.heap.size + 3 := e; omega)).load rtabT rfl) rfl (hR3.load toldT rfl)) rfl ?_
  have hb2 := HL.out.hb.trans (hF2.toBelow (fun x hx => by rw [show x = w.heap.size + 2 from hx]; omega) HL.out.hb.size)
  exact TRes.same H.out (hb2.trans (hF3.toBelow (fun x hx => by rw [show x = w.heap.size + 3 from hx]; omega) hb2.size)) 9

theorem VRow_keep {K : Nat → Prop} {w w' : World} {A : Option Addr} {n sz : Nat} {vs : List Value} {B e m size : Nat} {v : Value} {xs : List Value} (h : VRow K w A n sz vs) (_ : w.ownsRow B e size v m xs) (hg : w.grownBy w' v.ownBlock) (hn : ∀ b o, A = some ⟨b, o, none⟩ → v.ownBlock ≠ some b) : VRow K w' A n sz vs :=
  ⟨h.1, h.2.1, fun hp => by
    obtain ⟨b, o, e, hk, hlt, hc⟩ := h.2.2 hp
    exact ⟨b, o, e, hk, Nat.lt_of_lt_of_le hlt hg.size, fun j u hj => (World.cell?_of_block (a := ⟨b, o + j, none⟩) (hg.block b hlt (fun e' => hn b o e e'.symm))).trans (hc j u hj)⟩⟩
theorem picks_snoc (ps : List Pt) (cs : List (Int × Nat)) {k : Nat} (hk : k < cs.length) : picks ps (cs.take (k + 1)) = picks ps (cs.take k) ++ [((cs.getD k (0, 0)).1, pick ps (cs.getD k (0, 0)))] := by
  unfold picks
  rw [List.take_succ_eq_append_getElem hk, List.map_append]
  simp [List.getD, List.getElem?_eq_getElem hk]
theorem fits_all {ps : List Pt} {cs : List (Int × Nat)} (h : ∀ j, j < cs.length → (pick ps (cs.getD j (0, 0))).length = (cs.getD j (0, 0)).2) : fits ps cs = true := by
  unfold fits
  rw [List.all_eq_true]
  intro c hc
  obtain ⟨j, hj, rfl⟩ := List.getElem_of_mem hc
  have := h j hj
  rw [List.getD_eq_getElem?_getD, List.getElem?_eq_getElem hj] at this
  exact decide_eq_true this
theorem fits_noR {ps : List Pt} {cs : List (Int × Nat)} {j : Nat} (hj : j < cs.length) (h : (pick ps (cs.getD j (0, 0))).length ≠ (cs.getD j (0, 0)).2) : fits ps cs = false := by
  unfold fits
  rw [List.all_eq_false]
  refine ⟨cs[j], List.getElem_mem hj, ?_⟩
  rw [List.getD_eq_getElem?_getD, List.getElem?_eq_getElem hj] at h
  simpa using h

set_option maxRecDepth 20000 in
set_option maxHeartbeats 4000000 in
theorem add_some (h : RtS K w d t) (ok : t.Ok) (x : Tst) (hx : TOk K w x) (hpn : x.pn ≤ 9223372036854775807) (hf : t.rows.length ≠ 1024) :
    Calls Tryd.prog 42 #[.agg d.cs, .agg x.cs] w (TRes K w (t.add x.ts.id x.ts.ps).1 (t.add x.ts.id x.ts.ps).2) := by
  have hL := TLaid.new w d x
  have hrn := h.rn
  have hcn := h.cn
  have hsn := h.sn
  have hpl := hx.p.len
  obtain ⟨CA, cn, cc, SA, sn, sc, RA, rn, rc⟩ := d
  obtain ⟨xd, xi, xg, pA, pn, pc, ps, row, comp, bA, bn, bc, b⟩ := x
  simp only at hrn hcn hsn hpl hpn
  simp only [Rt.cs, Tst.cs, Tst.ts] at hL ⊢
  obtain ⟨w1, hw1⟩ : ∃ w1, w1 = (((w.alloc (.cells #[.slice CA cn cc, .slice SA sn sc, .slice RA rn rc] 40)).alloc (.cells #[.int .i64 xd, .int .i64 xi, .int .i64 xg, .slice pA pn pc, .int .i64 row, .int .i64 comp, .slice bA bn bc] 65)).alloc (.cells #[.slice none 0 0, .slice none 0 0, .slice none 0 0] 40)).alloc (.cells #[.slice none 0 0, .slice none 0 0, .int .i64 0, .int .i64 0, .bool false, .int .i64 0] 62) := ⟨_, rfl⟩
  rw [← hw1] at hL
  have q2 : w1.cell? ⟨w.heap.size, 2, none⟩ = some (.slice RA rn rc) := hL.r0.at_ 2
  have p1 : w1.cell? ⟨w.heap.size + 1, 1, none⟩ = some (.int .i64 xi) := hL.st.at_ 1
  have p2 : w1.cell? ⟨w.heap.size + 1, 2, none⟩ = some (.int .i64 xg) := hL.st.at_ 2
  obtain ⟨wz, hwz⟩ : ∃ wz, wz = w1.alloc (.cells #[.int .i64 0, .int .i64 0, .slice none 0 0] 87) := ⟨_, rfl⟩
  have hBz : Below w1.heap.size w1 wz := by rw [hwz]; exact (Below.refl _ _).alloc (Nat.le_refl _) _
  have hRz : Rec 87 wz w1.heap.size #[.int .i64 0, .int .i64 0, nilv] := by rw [hwz]; exact Rec.new _ _ _
  have hLz := hL.next hBz
  have hrn1 : ¬ ((rn : Int) = 1024) := by omega
  have hs4 : w.heap.size + 4 ≤ w1.heap.size := by have := hL.r3.lt; omega
  have hsz1 : w1.heap.size = w.heap.size + 4 := by rw [hw1]; simp
  rw [hsz1] at hRz
  have HLz := Lib.hid hLz
  have HRz := Lib.hid hRz
  have HWz := Lib.hid hwz
  have HSZ1 := Lib.hid hsz1
  have HRN := Lib.hid hrn
  have HCN := Lib.hid hcn
  have HSN := Lib.hid hsn
  have HPL := Lib.hid hpl
  have H := Lib.hid h
  have HX := Lib.hid hx
  have HOK := Lib.hid ok
  clear hL h hBz hRz hLz hwz hs4 hsz1 hx ok hrn hcn hsn hpl
  go_enter Tryd.func42, Tryd.ntmps42
  go_wp2_with (first
    | (rw [← hw1]; clear hw1)
    | (rw [← HWz.out, HSZ1.out])
    | (with_reducible refine wpList_stS (cs' := #[.int .i64 xi, .int .i64 xg, nilv]) entT rfl rfl (by simp [Value.oneCell']) rfl (.tmp 6) (.tmp 18) rfl rfl rfl HRz.out ?_; intro w5 hR5 hF5))
  have hL5 := HLz.out.fr hF5 (fun q hq => by rw [show q = w.heap.size + 4 from hq]; exact Nat.le_refl _)
  have hB5 := hF5.size
  have hrlt := hR5.lt
  obtain ⟨B, hBB⟩ : ∃ B, B = w5.heap.size := ⟨_, rfl⟩
  have A5 : AddI w w5 B (w.heap.size + 4) xi xg nilv [] (fun _ => False) (picks ps (t.cs.take 0)) :=
    ⟨by omega, by omega, hR5, World.ownsRow_nil _ _ _ _, HdL.nil _ _, fun _ hx => hx.elim⟩
  have HA5 := Lib.hid A5
  have HL5 := Lib.hid hL5
  have HBB := Lib.hid hBB
  have hrB : w.heap.size + 5 ≤ B := by omega
  have hm := HOK.out.cn
  rw [← HCN.out] at hm
  clear hL5 hB5 hrlt hBB A5 q2 p1 p2 hR5 hF5
  go_loopw [7] (fun iv wr => ∃ (k : Nat) (pv : Value) (vs : List Value) (D : Nat → Prop), k ≤ cn ∧ iv = .int .i64 k ∧ AddI w wr B (w.heap.size + 4) xi xg pv vs D (picks ps (t.cs.take k)) ∧ Fr (fun y => y = w.heap.size + 4 ∨ B ≤ y) w5 wr ∧ (∀ y, D y → (K y ∧ y < w.heap.size) ∨ w.heap.size + 4 ≤ y) ∧ ∀ j, j < k → (pick ps (t.cs.getD j (0, 0))).length = (t.cs.getD j (0, 0)).2) (fun iv _ => cn - (intOf iv).toNat)
  case atStart => exact ⟨0, nilv, [], fun _ => False, Nat.zero_le _, rfl, HA5.out, Fr.refl _ _, fun _ h => h.elim, fun j hj => absurd hj (Nat.not_lt_zero j)⟩
  case round =>
    obtain ⟨k, pv, vs, D, hk, rfl, hA, hF, hD, hfit⟩ := hrel
    have hLr := HL5.out.fr hF (fun q hq => by rcases hq with e | e <;> omega)
    have hRr := H.out.below hLr.hb
    have g0 : wr.cell? ⟨w.heap.size, 0, none⟩ = some (.slice CA cn cc) := hLr.r0.at_ 0
    by_cases hkm : k < cn
    · have hkl : k < t.cs.length := by rw [← HCN.out]; exact hkm
      obtain ⟨c, hc⟩ : ∃ c, c = t.cs.getD k (0, 0) := ⟨_, rfl⟩
      have hcz : c.2 ≤ 64 := by
        rw [hc, List.getD_eq_getElem?_getD, List.getElem?_eq_getElem hkl]
        exact HOK.out.z _ (List.getElem_mem hkl)
      obtain ⟨cb, co, hCA, hcb0, hcc0⟩ := H.out.c.at_ hkm
      obtain ⟨sb, so, hSA, hsb0, hsc0⟩ := H.out.s.at_ (show k < sn by rw [HSN.out]; exact hkl)
      have hcc := (hLr.hb.cell (p := ⟨cb, co + k, none⟩) hcb0).trans hcc0
      have hsc := (hLr.hb.cell (p := ⟨sb, so + k, none⟩) hsb0).trans hsc0
      have hcb := Nat.lt_of_lt_of_le hcb0 hLr.hb.size
      have hsb := Nat.lt_of_lt_of_le hsb0 hLr.hb.size
      simp only at hCA hSA
      subst hCA hSA
      rw [getD_map (·.1) t.cs k (0, 0) hkl, ← hc] at hcc
      rw [show (0 : Int) = ((((0 : Int), (0 : Nat)).2 : Nat) : Int) from rfl, getD_map (fun c : Int × Nat => (c.2 : Int)) t.cs k (0, 0) hkl, ← hc] at hsc
      have g1 : wr.cell? ⟨w.heap.size, 1, none⟩ = some (.slice (some ⟨sb, so, none⟩) sn sc) := hLr.r0.at_ 1
      rw [getD_map (·.1) t.cs k (0, 0) hkl, ← hc] at hcc0
      obtain ⟨ci, cz⟩ := c
      simp only at hcc hsc hcz hcc0
      have HCC0 := Lib.hid hcc0
      have hksn : k < sn := by rw [HSN.out]; exact hkl
      have hC0 := RCut_any none 0 0 [] (cz : Int) wr (Rd.nil _ _) (by omega)
      rw [Int.toNat_natCast, cut_none] at hC0
      have CC := Lib.hid hC0
      have HA := Lib.hid hA
      have HF := Lib.hid hF
      have HLr := Lib.hid hLr
      have HD := Lib.hid hD
      have HFIT := Lib.hid hfit
      have HC := Lib.hid hc
      clear hA hF hLr hD hfit hc hC0 hRr hcc0 hsc0
      go_wp2_with (go_at_call 56; refine CC.out.mono ?_; rintro e w6 ⟨v6, rfl, hO6, hB6⟩; have hL6 := HLr.out.next hB6; have p3 : w6.cell? ⟨w.heap.size + 1, 3, none⟩ = some (.slice pA pn pc) := hL6.st.at_ 3; have HO6 := Lib.hid hO6; have HB6 := Lib.hid hB6; have HL6 := Lib.hid hL6; clear hO6 hB6 hL6)
      obtain ⟨w5r, hw5r⟩ : ∃ v, v = wr := ⟨_, rfl⟩
      subst hw5r
      have hV6 : VB (fun y => (K y ∧ y < w.heap.size) ∨ (w5r.heap.size ≤ y ∧ y < w6.heap.size)) w6 v6 (pick (ps.drop pn) (ci, cz)) := by
        rw [← HPL.out, List.drop_length, pick_nil]
        obtain ⟨A6, c6, e6, _, _, hr6⟩ := Rd.of_own HO6.out rfl
        subst e6
        refine ⟨A6, cz, c6, rfl, hr6, fun q o e hp => ?_⟩
        obtain ⟨q', o', e', hlt, _⟩ := hr6.2 hp
        rw [e] at e'
        injection e' with e'
        injection e' with e1 _
        have := own_ge HO6.out (x := q) (by rw [e]; rfl)
        exact ⟨.inr ⟨this.1, this.2⟩, this.2⟩
      have HV6 := Lib.hid hV6
      have HP6 := Lib.hid (HX.out.p.lt.below HL6.out.hb)
      have t0 : w6.cell? ⟨w.heap.size, 0, none⟩ = some (.slice (some ⟨cb, co, none⟩) cn cc) := HL6.out.r0.at_ 0
      have t1 : w6.cell? ⟨w.heap.size, 1, none⟩ = some (.slice (some ⟨sb, so, none⟩) sn sc) := HL6.out.r0.at_ 1
      have cc6 : w6.cell? ⟨cb, co + k, none⟩ = some (.int .i64 ci) := (HB6.out.cell (p := ⟨cb, co + k, none⟩) hcb).trans hcc
      have sc6 : w6.cell? ⟨sb, so + k, none⟩ = some (.int .i64 (cz : Int)) := (HB6.out.cell (p := ⟨sb, so + k, none⟩) hsb).trans hsc
      have hl0 : w.heap.size < w6.heap.size := HL6.out.r0.lt
      have hl1 : w.heap.size + 1 < w6.heap.size := HL6.out.st.lt
      have hcb6 : cb < w6.heap.size := Nat.lt_of_lt_of_le hcb HB6.out.size
      have hsb6 : sb < w6.heap.size := Nat.lt_of_lt_of_le hsb HB6.out.size
      have FK : ∀ W, Below w6.heap.size w6 W → (W.cell? ⟨w.heap.size, 0, none⟩ = some (.slice (some ⟨cb, co, none⟩) cn cc) ∧ W.cell? ⟨w.heap.size, 1, none⟩ = some (.slice (some ⟨sb, so, none⟩) sn sc)) ∧ W.cell? ⟨cb, co + k, none⟩ = some (.int .i64 ci) ∧ W.cell? ⟨sb, so + k, none⟩ = some (.int .i64 (cz : Int)) ∧ W.cell? ⟨w.heap.size + 1, 3, none⟩ = some (.slice pA pn pc) := fun W hW =>
        ⟨⟨(hW.cell (p := ⟨w.heap.size, 0, none⟩) hl0).trans t0, (hW.cell (p := ⟨w.heap.size, 1, none⟩) hl0).trans t1⟩, (hW.cell (p := ⟨cb, co + k, none⟩) hcb6).trans cc6, (hW.cell (p := ⟨sb, so + k, none⟩) hsb6).trans sc6, (hW.cell (p := ⟨w.heap.size + 1, 3, none⟩) hl1).trans p3⟩
      have FK := Lib.hid FK
      clear hV6 t0 t1 cc6 sc6 p3 hcc hsc g0 g1
      go_loopw [8, 9] (fun dv iv wq => ∃ q : Nat, q ≤ pn ∧ iv = .int .i64 ((q : Int) - 1) ∧ VB (fun y => (K y ∧ y < w.heap.size) ∨ (w5r.heap.size ≤ y ∧ y < w6.heap.size)) wq dv (pick (ps.drop q) (ci, cz)) ∧ Below w6.heap.size w6 wq) (fun _ iv _ => (intOf iv + 1).toNat)
      case atStart => exact ⟨pn, Nat.le_refl _, rfl, HV6.out, Below.refl _ _⟩
      case round =>
        obtain ⟨q, hq, rfl, hV, hB⟩ := hrel
        obtain ⟨⟨t0, t1⟩, cc6, sc6, p3⟩ := FK.out _ hB
        have HV := Lib.hid hV
        have HB := Lib.hid hB
        rcases Nat.eq_zero_or_pos q with hq0 | hq0
        · subst hq0
          rw [List.drop_zero] at HV
          obtain ⟨dA, dl, dc, rfl, hdr, hdk⟩ := hV
          have hdl := hdr.1
          rw [List.drop_zero] at hdl
          clear hB hdr hdk
          by_cases hfit : dl = cz
          · obtain rfl : cz = dl := hfit.symm
            go_wp2_with fail
            have hbo := HB6.out.trans (HB.out.mono HB6.out.size)
            have JR := Lib.hid (HA.out.below hbo)
            obtain ⟨kp, hkp⟩ : ∃ kp, kp = (picks ps (t.cs.take k)).length := ⟨_, rfl⟩
            have hkp1 : kp ≤ 64 := by rw [hkp]; unfold picks; rw [List.length_map, List.length_take]; omega
            obtain ⟨pvA, pvc, e1, _, _⟩ := own_slv HA.out.ow
            rw [← hkp] at e1
            subst e1
            have JRd := Lib.hid (JR.out.below (Below.refl _ _).drew)
            have FR := Lib.hid (HF.out.trans (Fr.ofBelow (fun y => y = w.heap.size + 4 ∨ B ≤ y) hbo))
            have HU : Hid (VB (fun y => (K y ∧ y < w.heap.size) ∨ (w5r.heap.size ≤ y ∧ y < w6.heap.size)) wr (.slice dA cz dc) (pick ps (ci, cz))) := HV
            have HEX : Hid (∀ x, ((K x ∧ x < w.heap.size) ∨ (w5r.heap.size ≤ x ∧ x < w6.heap.size)) → x ≠ w.heap.size + 4 ∧ (Value.slice pvA kp pvc).ownBlock ≠ some x) := Lib.hid (fun x hx => ⟨by have := HA.out.Bw; rcases hx with h | h <;> omega, fun e => by have := own_ge HA.out.ow e; rcases hx with h | h <;> omega⟩)
            have LS0 : ∀ W, Fr (fun y => y = w.heap.size + 4 ∨ B ≤ y) w5 W → W.cell? ⟨w.heap.size, 0, none⟩ = some (.slice (some ⟨cb, co, none⟩) cn cc) ∧ W.cell? ⟨cb, co + k, none⟩ = some (.int .i64 ci) := fun W hW => by
              have l := HL5.out.fr hW (fun q hq => by rcases hq with e | e <;> omega)
              exact ⟨l.r0.at_ 0, (l.hb.cell (p := ⟨cb, co + k, none⟩) hcb0).trans HCC0.out⟩
            have LS := Lib.hid LS0
            have s15d := LS0 wr.drew (FR.out.trans (Fr.drew _ _))
            have HKP := Lib.hid hkp
            clear hkp LS0 t0 t1 cc6 sc6 p3 hbo
-- HOLEA
            refine wp_region_noPanic ?_
            refine wp_region_held_drew (S := fun W => W.cell? ⟨w.heap.size, 0, none⟩ = some (.slice (some ⟨cb, co, none⟩) cn cc) ∧ W.cell? ⟨cb, co + k, none⟩ = some (.int .i64 ci)) (by kernel_rfl) s15d (fun hHeld => ?_)
            refine wpAnyH_take (i := 0) (oi := { dst := some 68, op := Op.fieldAddr 87 (Operand.tmp 6) 1, type := 0, pos := "ref.go:96", after := #[], guard := none }) (v := ?_) rfl (by kernel_rfl) (by kernel_rfl) (by kernel_rfl) (fun _ _ _ h => h) (Or.inl ⟨by rfl, ?_⟩) (by assumption) ?_
            rotate_left 1
            · intro w' hSw; (try dsimp only at hSw); go_simp; (try with_reducible rfl)
            simp only [Act.put, List.setIfInBounds_toArray, List.set_cons_zero, List.set_cons_succ]
            refine wpAnyH_take (i := 2) (oi := { dst := some 70, op := Op.fieldAddr 40 (Operand.tmp 2) 0, type := 0, pos := "ref.go:96", after := #[], guard := none }) (v := ?_) rfl (by kernel_rfl) (by kernel_rfl) (by kernel_rfl) (fun _ _ _ h => h) (Or.inl ⟨by rfl, ?_⟩) (by assumption) ?_
            rotate_left 1
            · intro w' hSw; (try dsimp only at hSw); go_simp; (try with_reducible rfl)
            simp only [Act.put, List.setIfInBounds_toArray, List.set_cons_zero, List.set_cons_succ]
            refine wpAnyH_take (i := 3) (oi := { dst := some 71, op := Op.load 37 (Operand.tmp 70), type := 37, pos := "ref.go:96", after := #[{ on := 2, ground := Ground.data }], guard := none }) (v := ?_) rfl (by kernel_rfl) (by kernel_rfl) (by kernel_rfl) (fun _ _ _ h => h) (Or.inl ⟨by rfl, ?_⟩) (by assumption) ?_
            rotate_left 1
            · intro w' hSw; (try dsimp only at hSw); go_simp; (try with_reducible rfl)
            simp only [Act.put, List.setIfInBounds_toArray, List.set_cons_zero, List.set_cons_succ]
            refine wpAnyH_take (i := 4) (oi := { dst := some 72, op := Op.move (Operand.tmp 7), type := 3, pos := "ref.go:96", after := #[], guard := none }) (v := ?_) rfl (by kernel_rfl) (by kernel_rfl) (by kernel_rfl) (fun _ _ _ h => h) (Or.inl ⟨by rfl, ?_⟩) (by assumption) ?_
            rotate_left 1
            · intro w' hSw; (try dsimp only at hSw); go_simp; (try with_reducible rfl)
            simp only [Act.put, List.setIfInBounds_toArray, List.set_cons_zero, List.set_cons_succ]
            refine wpAnyH_take (i := 5) (oi := { dst := some 73, op := Op.indexAddr 37 (Operand.tmp 71) (Operand.tmp 72), type := 0, pos := "ref.go:96", after := #[{ on := 3, ground := Ground.data }, { on := 4, ground := Ground.data }], guard := none }) (v := ?_) rfl (by kernel_rfl) (by kernel_rfl) (by kernel_rfl) (fun _ _ _ h => h) (Or.inl ⟨by rfl, ?_⟩) (by assumption) ?_
            rotate_left 1
            · intro w' hSw; (try dsimp only at hSw); go_simp; (try with_reducible rfl)
            simp only [Act.put, List.setIfInBounds_toArray, List.set_cons_zero, List.set_cons_succ]
            refine wpAnyH_take (i := 6) (oi := { dst := some 74, op := Op.load 3 (Operand.tmp 73), type := 3, pos := "ref.go:96", after := #[{ on := 5, ground := Ground.data }], guard := none }) (v := ?_) rfl (by kernel_rfl) (by kernel_rfl) (by kernel_rfl) (fun _ _ _ h => h) (Or.inl ⟨by rfl, ?_⟩) (by assumption) ?_
            rotate_left 1
            · intro w' hSw; (try dsimp only at hSw); go_simp; (try with_reducible rfl)
            simp only [Act.put, List.setIfInBounds_toArray, List.set_cons_zero, List.set_cons_succ]
            refine wpAnyH_take (i := 7) (oi := { dst := some 75, op := Op.move (Operand.tmp 8), type := 32, pos := "ref.go:96", after := #[], guard := none }) (v := ?_) rfl (by kernel_rfl) (by kernel_rfl) (by kernel_rfl) (fun _ _ _ h => h) (Or.inl ⟨by rfl, ?_⟩) (by assumption) ?_
            rotate_left 1
            · intro w' hSw; (try dsimp only at hSw); go_simp; (try with_reducible rfl)
            simp only [Act.put, List.setIfInBounds_toArray, List.set_cons_zero, List.set_cons_succ]
            refine wpAnyH_take (i := 8) (oi := { dst := some 76, op := Op.build 73 #[(0, Operand.tmp 74), (1, Operand.tmp 75)], type := 73, pos := "ref.go:96", after := #[{ on := 6, ground := Ground.data }, { on := 7, ground := Ground.data }], guard := none }) (v := ?_) rfl (by kernel_rfl) (by kernel_rfl) (by kernel_rfl) (fun _ _ _ h => h) (Or.inl ⟨by rfl, ?_⟩) (by assumption) ?_
            rotate_left 1
            · intro w' hSw; (try dsimp only at hSw); go_simp; (try with_reducible rfl)
            simp only [Act.put, List.setIfInBounds_toArray, List.set_cons_zero, List.set_cons_succ]
            refine wpAnyH_ready (rs := [1, 9]) (by kernel_rfl) (by simp) ?_
            refine AllReadyH.cons (o := { dst := some 69, op := Op.load 49 (Operand.tmp 68), type := 49, pos := "ref.go:96", after := #[{ on := 0, ground := Ground.data }], guard := none }) rfl (fun K' hK => ?_) (AllReadyH.cons (o := { dst := some 77, op := Op.buildSlice 49 1 #[(0, Operand.tmp 76)], type := 49, pos := "ref.go:96", after := #[{ on := 8, ground := Ground.data }], guard := none }) rfl (fun K' hK => ?_) AllReadyH.nil)
            · have q4 : wr.drew.cell? ⟨w.heap.size + 4, 2, none⟩ = some (.slice pvA kp pvc) := JRd.out.blk.at_ 2
              go_simp
              clear q4
              refine hK.out _ _ s15d (fun hHeld => ?_)
              clear hK K'
              try simp only [Act.put, List.setIfInBounds_toArray, List.set_cons_zero, List.set_cons_succ]
              refine wpAnyH_ready (rs := [9]) (by kernel_rfl) (by simp) ?_
              refine AllReadyH.cons (o := { dst := some 77, op := Op.buildSlice 49 1 #[(0, Operand.tmp 76)], type := 49, pos := "ref.go:96", after := #[{ on := 8, ground := Ground.data }], guard := none }) rfl (fun K' hK => ?_) AllReadyH.nil
              go_simp
              obtain ⟨xB, hxB⟩ : ∃ W, W = wr.drew.alloc (.cells #[.int .i64 ci, .slice dA cz dc] 73) := ⟨_, rfl⟩
              have bB : Below wr.heap.size wr xB := by rw [hxB]; exact (Below.refl _ _).drew.alloc (Nat.le_refl _) _
              have hV : VRow (fun y => wr.heap.size ≤ y) xB (some ⟨wr.heap.size, 0, none⟩) 1 2 [.int .i64 ci, .slice dA cz dc] := by rw [hxB]; exact VRow.new wr.drew #[.int .i64 ci, .slice dA cz dc] _ 1 2 rfl
              have JB := Lib.hid (JR.out.below bB)
              have FB := Lib.hid (FR.out.trans (Fr.ofBelow (fun y => y = w.heap.size + 4 ∨ B ≤ y) bB))
              have sB := LS.out xB FB.out
              have HVB := Lib.hid hV
              have HUB := Lib.hid (HU.out.below bB)
              first | rw [← hxB] | (rw [show (wr.alloc (.cells #[.int .i64 ci, .slice dA cz dc] 73)).drew = xB from hxB.symm])
              clear hxB bB hV
              refine hK.out _ _ sB (fun hHeld => ?_)
              clear hK K'
              try simp only [Act.put, List.setIfInBounds_toArray, List.set_cons_zero, List.set_cons_succ]
              refine wpAnyH_ready (rs := [10]) (by kernel_rfl) (by simp) ?_
              refine AllReadyH.cons (o := { dst := some 78, op := Op.call { callee := Callee.builtin Builtin.append, args := #[Operand.tmp 69, Operand.tmp 77], argTypes := #[49, 49] }, type := 49, pos := "ref.go:96", after := #[{ on := 1, ground := Ground.data }, { on := 9, ground := Ground.data }], guard := none }) rfl (fun K' hK => ?_) AllReadyH.nil
              refine step_appX (K := fun y => wr.heap.size ≤ y) partsT rfl (.tmp 69) (.tmp 77) rfl B (.slice pvA kp pvc) kp vs rfl (by have := JB.out.ow; rw [← HKP.out] at this; exact this) (some ⟨wr.heap.size, 0, none⟩) 1 1 [.int .i64 ci, .slice dA cz dc] rfl HVB.out (fun u hu => by simp at hu; rcases hu with rfl | rfl <;> rfl) (by omega) (by decide) JB.out.Bw ?_
              intro vA xA hoA hgA hvA
              obtain ⟨AA, cA2, rfl, _, _⟩ := own_slv hoA
              have hC := JB.out.put (c := ci) HUB.out HEX.out (by rw [← HKP.out]; exact hoA) hgA hvA
              have FA := Lib.hid (JB.out.fr FB.out hgA)
              have sA := LS.out xA FA.out
              have kA : xA.cell? ⟨w.heap.size + 4, 2, none⟩ = some (.slice pvA kp pvc) := hC.1.at_ 2
              have fA := hC.1.fz 2
              have szB := JB.out.Bw
              have JA := Lib.hid hC.2
              clear hC hoA hgA hvA
              refine hK.out _ _ sA (fun hHeld => ?_)
              clear hK K'
              try simp only [Act.put, List.setIfInBounds_toArray, List.set_cons_zero, List.set_cons_succ]
              refine wpAnyH_take (i := 11) (oi := { dst := some 79, op := Op.fieldAddr 87 (Operand.tmp 6) 1, type := 0, pos := "ref.go:96", after := #[{ on := 0, ground := Ground.phase }, { on := 1, ground := Ground.phase }, { on := 2, ground := Ground.phase }, { on := 3, ground := Ground.phase }, { on := 4, ground := Ground.phase }, { on := 5, ground := Ground.phase }, { on := 6, ground := Ground.phase }, { on := 7, ground := Ground.phase }, { on := 8, ground := Ground.phase }, { on := 9, ground := Ground.phase }, { on := 10, ground := Ground.phase }], guard := none }) (v := ?_) rfl (by kernel_rfl) (by kernel_rfl) (by kernel_rfl) (fun _ _ _ h => h) (Or.inl ⟨by rfl, ?_⟩) (by assumption) ?_
              rotate_left 1
              · intro w' hSw; (try dsimp only at hSw); go_simp; (try with_reducible rfl)
              simp only [Act.put, List.setIfInBounds_toArray, List.set_cons_zero, List.set_cons_succ]
              refine wpAnyH_ready (rs := [12]) (by kernel_rfl) (by simp) ?_
              refine AllReadyH.cons (o := { dst := none, op := Op.store 49 (Operand.tmp 79) (Operand.tmp 78), type := 0, pos := "ref.go:96", after := #[{ on := 11, ground := Ground.data }, { on := 10, ground := Ground.data }, { on := 10, ground := Ground.chain }, { on := 0, ground := Ground.phase }, { on := 1, ground := Ground.phase }, { on := 2, ground := Ground.phase }, { on := 3, ground := Ground.phase }, { on := 4, ground := Ground.phase }, { on := 5, ground := Ground.phase }, { on := 6, ground := Ground.phase }, { on := 7, ground := Ground.phase }, { on := 8, ground := Ground.phase }, { on := 9, ground := Ground.phase }, { on := 10, ground := Ground.phase }], guard := none }) rfl (fun K' hK => ?_) AllReadyH.nil
              have F9 := Lib.hid (FA.out.trans ((Fr.setCell (own := (· = w.heap.size + 4)) xA (p := ⟨w.heap.size + 4, 2, none⟩) rfl (.slice AA (kp + 1) cA2)).mono (fun y hy => .inl hy)))
              have sX := LS.out _ F9.out
              go_simp
              refine hK.out _ _ sX (fun hHeld => ?_)
              clear hK K'
              try simp only [Act.put]
              refine wpAnyH_done (by kernel_rfl) ?_ _
              refine NoPanic.normal ?_
              go_wp2_with fail
              go_roundw
              case rel =>
                refine ⟨k + 1, .slice AA (kp + 1) cA2, vs ++ [.int .i64 ci, .slice dA cz dc], fun x => D x ∨ (((K x ∧ x < w.heap.size) ∨ (w5r.heap.size ≤ x ∧ x < w6.heap.size)) ∧ x < xB.heap.size), hkm, by go_num, ?_, F9.out, ?_, fun j hj => ?_⟩
                · rw [picks_snoc ps t.cs hkl, ← HC.out]
                  exact JA.out
                · intro y hy
                  rcases hy with h | ⟨h | h, _⟩
                  · exact HD.out y h
                  · exact .inl h
                  · exact .inr (by have := HLr.out.r3.lt; omega)
                · by_cases e : j = k
                  · subst e; rw [← HC.out]; show (pick ps (ci, cz)).length = cz; omega
                  · exact HFIT.out j (by omega)
              case measure => simp [intOf] <;> omega
            · go_simp
              obtain ⟨xB, hxB⟩ : ∃ W, W = wr.drew.alloc (.cells #[.int .i64 ci, .slice dA cz dc] 73) := ⟨_, rfl⟩
              have bB : Below wr.heap.size wr xB := by rw [hxB]; exact (Below.refl _ _).drew.alloc (Nat.le_refl _) _
              have hV : VRow (fun y => wr.heap.size ≤ y) xB (some ⟨wr.heap.size, 0, none⟩) 1 2 [.int .i64 ci, .slice dA cz dc] := by rw [hxB]; exact VRow.new wr.drew #[.int .i64 ci, .slice dA cz dc] _ 1 2 rfl
              have JB := Lib.hid (JR.out.below bB)
              have FB := Lib.hid (FR.out.trans (Fr.ofBelow (fun y => y = w.heap.size + 4 ∨ B ≤ y) bB))
              have sB := LS.out xB FB.out
              have HVB := Lib.hid hV
              have HUB := Lib.hid (HU.out.below bB)
              first | rw [← hxB] | (rw [show (wr.alloc (.cells #[.int .i64 ci, .slice dA cz dc] 73)).drew = xB from hxB.symm])
              clear hxB bB hV
              refine hK.out _ _ sB (fun hHeld => ?_)
              clear hK K'
              try simp only [Act.put, List.setIfInBounds_toArray, List.set_cons_zero, List.set_cons_succ]
              refine wpAnyH_ready (rs := [1]) (by kernel_rfl) (by simp) ?_
              refine AllReadyH.cons (o := { dst := some 69, op := Op.load 49 (Operand.tmp 68), type := 49, pos := "ref.go:96", after := #[{ on := 0, ground := Ground.data }], guard := none }) rfl (fun K' hK => ?_) AllReadyH.nil
              have q4 : xB.cell? ⟨w.heap.size + 4, 2, none⟩ = some (.slice pvA kp pvc) := JB.out.blk.at_ 2
              go_simp
              clear q4
              refine hK.out _ _ sB (fun hHeld => ?_)
              clear hK K'
              try simp only [Act.put, List.setIfInBounds_toArray, List.set_cons_zero, List.set_cons_succ]
              refine wpAnyH_ready (rs := [10]) (by kernel_rfl) (by simp) ?_
              refine AllReadyH.cons (o := { dst := some 78, op := Op.call { callee := Callee.builtin Builtin.append, args := #[Operand.tmp 69, Operand.tmp 77], argTypes := #[49, 49] }, type := 49, pos := "ref.go:96", after := #[{ on := 1, ground := Ground.data }, { on := 9, ground := Ground.data }], guard := none }) rfl (fun K' hK => ?_) AllReadyH.nil
              refine step_appX (K := fun y => wr.heap.size ≤ y) partsT rfl (.tmp 69) (.tmp 77) rfl B (.slice pvA kp pvc) kp vs rfl (by have := JB.out.ow; rw [← HKP.out] at this; exact this) (some ⟨wr.heap.size, 0, none⟩) 1 1 [.int .i64 ci, .slice dA cz dc] rfl HVB.out (fun u hu => by simp at hu; rcases hu with rfl | rfl <;> rfl) (by omega) (by decide) JB.out.Bw ?_
              intro vA xA hoA hgA hvA
              obtain ⟨AA, cA2, rfl, _, _⟩ := own_slv hoA
              have hC := JB.out.put (c := ci) HUB.out HEX.out (by rw [← HKP.out]; exact hoA) hgA hvA
              have FA := Lib.hid (JB.out.fr FB.out hgA)
              have sA := LS.out xA FA.out
              have kA : xA.cell? ⟨w.heap.size + 4, 2, none⟩ = some (.slice pvA kp pvc) := hC.1.at_ 2
              have fA := hC.1.fz 2
              have szB := JB.out.Bw
              have JA := Lib.hid hC.2
              clear hC hoA hgA hvA
              refine hK.out _ _ sA (fun hHeld => ?_)
              clear hK K'
              try simp only [Act.put, List.setIfInBounds_toArray, List.set_cons_zero, List.set_cons_succ]
              refine wpAnyH_take (i := 11) (oi := { dst := some 79, op := Op.fieldAddr 87 (Operand.tmp 6) 1, type := 0, pos := "ref.go:96", after := #[{ on := 0, ground := Ground.phase }, { on := 1, ground := Ground.phase }, { on := 2, ground := Ground.phase }, { on := 3, ground := Ground.phase }, { on := 4, ground := Ground.phase }, { on := 5, ground := Ground.phase }, { on := 6, ground := Ground.phase }, { on := 7, ground := Ground.phase }, { on := 8, ground := Ground.phase }, { on := 9, ground := Ground.phase }, { on := 10, ground := Ground.phase }], guard := none }) (v := ?_) rfl (by kernel_rfl) (by kernel_rfl) (by kernel_rfl) (fun _ _ _ h => h) (Or.inl ⟨by rfl, ?_⟩) (by assumption) ?_
              rotate_left 1
              · intro w' hSw; (try dsimp only at hSw); go_simp; (try with_reducible rfl)
              simp only [Act.put, List.setIfInBounds_toArray, List.set_cons_zero, List.set_cons_succ]
              refine wpAnyH_ready (rs := [12]) (by kernel_rfl) (by simp) ?_
              refine AllReadyH.cons (o := { dst := none, op := Op.store 49 (Operand.tmp 79) (Operand.tmp 78), type := 0, pos := "ref.go:96", after := #[{ on := 11, ground := Ground.data }, { on := 10, ground := Ground.data }, { on := 10, ground := Ground.chain }, { on := 0, ground := Ground.phase }, { on := 1, ground := Ground.phase }, { on := 2, ground := Ground.phase }, { on := 3, ground := Ground.phase }, { on := 4, ground := Ground.phase }, { on := 5, ground := Ground.phase }, { on := 6, ground := Ground.phase }, { on := 7, ground := Ground.phase }, { on := 8, ground := Ground.phase }, { on := 9, ground := Ground.phase }, { on := 10, ground := Ground.phase }], guard := none }) rfl (fun K' hK => ?_) AllReadyH.nil
              have F9 := Lib.hid (FA.out.trans ((Fr.setCell (own := (· = w.heap.size + 4)) xA (p := ⟨w.heap.size + 4, 2, none⟩) rfl (.slice AA (kp + 1) cA2)).mono (fun y hy => .inl hy)))
              have sX := LS.out _ F9.out
              go_simp
              refine hK.out _ _ sX (fun hHeld => ?_)
              clear hK K'
              try simp only [Act.put]
              refine wpAnyH_done (by kernel_rfl) ?_ _
              refine NoPanic.normal ?_
              go_wp2_with fail
              go_roundw
              case rel =>
                refine ⟨k + 1, .slice AA (kp + 1) cA2, vs ++ [.int .i64 ci, .slice dA cz dc], fun x => D x ∨ (((K x ∧ x < w.heap.size) ∨ (w5r.heap.size ≤ x ∧ x < w6.heap.size)) ∧ x < xB.heap.size), hkm, by go_num, ?_, F9.out, ?_, fun j hj => ?_⟩
                · rw [picks_snoc ps t.cs hkl, ← HC.out]
                  exact JA.out
                · intro y hy
                  rcases hy with h | ⟨h | h, _⟩
                  · exact HD.out y h
                  · exact .inl h
                  · exact .inr (by have := HLr.out.r3.lt; omega)
                · by_cases e : j = k
                  · subst e; rw [← HC.out]; show (pick ps (ci, cz)).length = cz; omega
                  · exact HFIT.out j (by omega)
              case measure => simp [intOf] <;> omega
-- ENDHOLEA
          · have hfit' : ¬ ((dl : Int) = (cz : Int)) := by omega
            go_wp2_with (first
              | (with_reducible refine wpList_ldS rtabT rfl rfl (.tmp 2) rfl rfl (HL6.out.next HB.out).r0 ?_)
              | (with_reducible refine wpList_stS (cs' := #[.slice (some ⟨cb, co, none⟩) cn cc, .slice (some ⟨sb, so, none⟩) sn sc, .slice RA rn rc]) rtabT rfl rfl (by simp [Value.oneCell']) rfl (.tmp 4) (.tmp 66) rfl rfl rfl (HL6.out.next HB.out).r2 ?_; intro w7 hR7 hF7)
              | (with_reducible refine wpList_stS (cs' := #[.slice none 0 0, .slice none 0 0, .int .i64 0, .int .i64 0, .bool false, .int .i64 7]) toldT rfl rfl (by simp [Value.oneCell']) rfl (.tmp 5) (.tmp 67) rfl rfl rfl ((HL6.out.next HB.out).r3.fr hF7 (fun e => by have e' : w.heap.size + 3 = w.heap.size + 2 := e; omega)) ?_; intro w8 hR8 hF8))
            refine bodyPost_ret (res_cc rfl rfl ((hR7.fr hF8 (fun e => by have e' : w.heap.size + 2 = w.heap.size + 3 := e; omega)).load rtabT rfl) rfl (hR8.load toldT rfl)) rfl ?_
            have hno := fits_noR (ps := ps) (cs := t.cs) (j := k) hkl (by rw [← HC.out]; show (pick ps (ci, cz)).length ≠ cz; omega)
            have hadd : t.add (xi, xg) ps = (t, .e 7) := by unfold Tb.add; rw [if_neg hf, hno]; rfl
            rw [hadd]
            have hbq := (HL6.out.next HB.out).hb
            have hb7 := hbq.trans (hF7.toBelow (fun x hx => by rw [show x = w.heap.size + 2 from hx]; omega) hbq.size)
            exact TRes.same H.out (hb7.trans (hF8.toBelow (fun x hx => by rw [show x = w.heap.size + 3 from hx]; omega) hb7.size)) 7
        · obtain ⟨q', rfl⟩ : ∃ q', q = q' + 1 := ⟨q - 1, by omega⟩
          have hql : q' < ps.length := by rw [HPL.out]; omega
          obtain ⟨pb, po, pu, hpA, hpK, hpb, hp0, hp1, hpu⟩ := (HP6.out.below hB).cell (List.getElem?_eq_getElem hql)
          have hpd := pick_drop hql (ci, cz)
          obtain ⟨uA, um, uc, rfl, hur⟩ := hpu.sl
          have hqi : ((q' + 1 : Nat) : Int) - 1 = (q' : Int) := by omega
          rw [hqi]
          have hqn : q' < pn := by omega
          subst hpA
          obtain ⟨y, hy⟩ : ∃ y, y = ps[q'] := ⟨_, rfl⟩
          rw [← hy] at hp0 hpu hpd hur
          obtain ⟨yi, yd⟩ := y
          simp only at hp0 hpd hur hpu
          have HPD := Lib.hid hpd
          have HPU := Lib.hid hpu
          clear hV hB hpd hpu hy hur hqi
          by_cases hyc : yi = ci
          · subst hyc
            rw [if_pos rfl] at HPD
            go_wp2_with fail
            go_quiet (fail)
            obtain ⟨⟨t0', t1'⟩, cc6', sc6', p3'⟩ := FK.out _ (below_drewN HB.out nq)
            have hp1' : (wr.drewN nq).cell? ⟨pb, po + q' * 2 + 1, none⟩ = some (.slice uA um uc) := ((below_drewN (Below.refl wr.heap.size wr) nq).cell (p := ⟨pb, po + q' * 2 + 1, none⟩) hpb).trans hp1
            go_wp2
            go_roundw
            case rel =>
              refine ⟨q', by omega, by go_num, ?_, below_drewN HB.out _⟩
              rw [HPD.out]
              exact (HPU.out.below (below_drewN (Below.refl _ _) _)).mono (fun _ hx => .inl hx)
            case measure => simp [intOf] <;> omega
          · rw [if_neg hyc] at HPD
            go_wp2_with fail
            go_quiet (fail)
            go_wp2
            go_roundw
            case rel =>
              refine ⟨q', by omega, by go_num, ?_, below_drewN HB.out _⟩
              rw [HPD.out]
              exact HV.out.below (below_drewN (Below.refl _ _) _)
            case measure => simp [intOf] <;> omega
    · have e : t.cs.take k = t.cs := List.take_of_length_le (by have := HCN.out; omega)
      rw [e] at hA
      have hbel : Below w.heap.size w wr := (HL5.out.fr hF (fun q hq => by rcases hq with e | e <;> omega)).hb
      obtain ⟨kp, hkp⟩ : ∃ kp, kp = (picks ps t.cs).length := ⟨_, rfl⟩
      obtain ⟨pvA, pvc, e1, _, _⟩ := own_slv hA.ow
      rw [← hkp] at e1
      subst e1
      have TL0 : ∀ W, Below wr.heap.size wr W → TLaid w W ⟨CA, cn, cc, SA, sn, sc, RA, rn, rc⟩ ⟨xd, xi, xg, pA, pn, pc, ps, row, comp, bA, bn, bc, b⟩ := fun W hW => (HL5.out.fr hF (fun q hq => by rcases hq with e | e <;> omega)).next hW
      have RB0 : ∀ W, Below wr.heap.size wr W → Rec 87 W (w.heap.size + 4) #[.int .i64 xi, .int .i64 xg, .slice pvA kp pvc] := fun W hW => hA.blk.under hW
      have SS0 : ∀ W, Below wr.heap.size wr W → W.cell? ⟨w.heap.size + 4, 0, none⟩ = some (.int .i64 xi) ∧ W.cell? ⟨w.heap.size + 4, 1, none⟩ = some (.int .i64 xg) ∧ W.cell? ⟨w.heap.size + 4, 2, none⟩ = some (.slice pvA kp pvc) := fun W hW => ⟨(RB0 W hW).at_ 0, (RB0 W hW).at_ 1, (RB0 W hW).at_ 2⟩
      obtain ⟨rvs, hrl, hrv, hrh⟩ := H.out.r
      have RV0 : ∀ W, Below wr.heap.size wr W → VRow K W RA rn 3 rvs := fun W hW => hrv.below (hbel.trans (hW.mono hbel.size))
      have bd : Below wr.heap.size wr wr.drew := (Below.refl _ _).drew
      have hrn5 : rn ≤ 1024 := by have := HRN.out; have := HOK.out.n; omega
      have hfits := fits_all (ps := ps) (cs := t.cs) (fun j hj => hfit j (by have := HCN.out; omega))
      have hadd : t.add (xi, xg) ps = (⟨t.cs, t.rows ++ [((xi, xg), picks ps t.cs)]⟩, .e 0) := by unfold Tb.add; rw [if_neg hf, hfits]; rfl
      have FIN0 : ∀ yC z9 w7 w8 RC cC, Below wr.heap.size wr yC → yC.ownsRow wr.heap.size 87 3 (.slice RC (rn + 1) cC) (rn + 1) (rvs ++ [.int .i64 xi, .int .i64 xg, .slice pvA kp pvc]) → Fr (· = w.heap.size) yC z9 → Fr (· = w.heap.size + 2) z9 w7 → Fr (· = w.heap.size + 3) w7 w8 →
          TRes K w (t.add (xi, xg) ps).1 (t.add (xi, xg) ps).2 (.returned (.tuple #[.agg #[.slice CA cn cc, .slice SA sn sc, .slice RC (rn + 1) cC], .agg #[.slice none 0 0, .slice none 0 0, .int .i64 0, .int .i64 0, .bool false, .int .i64 0]])) w8 := fun yC z9 w7 w8 RC cC hY hO h1 h2 h3 => by
        rw [hadd]
        have hr4 := hA.blk.lt
        have hF : Fr (fun x => w.heap.size ≤ x ∧ x ≤ w.heap.size + 3) yC w8 := ((h1.mono (fun x hx => by have e : x = w.heap.size := hx; omega)).trans (h2.mono (fun x hx => by have e : x = w.heap.size + 2 := hx; omega))).trans (h3.mono (fun x hx => by have e : x = w.heap.size + 3 := hx; omega))
        have hw1' := hbel.trans (hY.mono hbel.size)
        have hB8 : Below w.heap.size w w8 := hw1'.trans (hF.toBelow (fun x hx => hx.1) hw1'.size)
        have hYs := hY.size
        have hFs := hF.size
        have hO8 := own_fr hO hF (fun y hy e => by have := (own_ge hO hy).1; omega)
        have hpo := own_fr (own_keep hA.ow hY) hF (fun y hy e => by have := (own_ge hA.ow hy).1; omega)
        have st : WStays D wr w8 := ⟨by omega, fun y hy => by
          have g1 := hA.dx y hy
          have g2 := hD y hy
          exact (hF.block y (by omega) (fun e => by rcases g2 with h | h <;> omega)).trans (hY.block y g1.1)⟩
        have hdp : HdL 2 (EP (fun y => K y ∨ (w.heap.size ≤ y ∧ y < w8.heap.size)) w8) vs (picks ps t.cs) := hA.hd.imp fun _ _ ⟨u, e, hu⟩ => ⟨u, e, (hu.stays st).mono fun y hy => by
          have g1 := hA.dx y hy
          rcases hD y hy with h | h
          · exact .inl h.1
          · exact .inr (by omega)⟩
        obtain ⟨A', c', e', _, _, hP⟩ := own_rowsL hpo hdp rfl
        rw [← hkp] at hP e'
        injection e' with e1 e2 e3
        subst e1 e3
        obtain ⟨vs', g1, g2, g3⟩ := hP
        have hPV : PartsV (fun y => K y ∨ (w.heap.size ≤ y ∧ y < w8.heap.size)) w8 pvA kp (picks ps t.cs) := ⟨vs', g1, g2.mono (fun y hy => .inr (by omega)), g3⟩
        have hdr : HdL 3 (EE (fun y => K y ∨ (w.heap.size ≤ y ∧ y < w8.heap.size)) w8) (rvs ++ [.int .i64 xi, .int .i64 xg, .slice pvA kp pvc]) (t.rows ++ [((xi, xg), picks ps t.cs)]) :=
          (hrh.imp (fun _ _ ⟨A, n, c, e, hu⟩ => ⟨A, n, c, e, (hu.below hB8).mono (fun _ hx => .inl hx)⟩)).snoc rfl ⟨pvA, kp, pvc, rfl, hPV⟩
        obtain ⟨A2, c2, e', _, _, hQ⟩ := own_rowsL hO8 hdr (by simp [← HRN.out])
        injection e' with e1 e2 e3
        subst e1 e3
        obtain ⟨vs2, k1, k2, k3⟩ := hQ
        exact ⟨⟨CA, cn, cc, SA, sn, sc, RC, rn + 1, cC⟩, none, 0, 0, none, 0, 0, rfl, ⟨(H.out.c.below hB8).mono (fun _ hx => .inl hx), (H.out.s.below hB8).mono (fun _ hx => .inl hx), ⟨vs2, k1, k2.mono (fun y hy => .inr (by omega)), k3⟩⟩, ⟨⟨none, 0, 0, rfl, Rd.nil _ _, fun b o e => by cases e⟩, PartsV.nil _ _ _⟩, hB8⟩
      have FIN := Lib.hid FIN0
      have TL := Lib.hid TL0
      have RB := Lib.hid RB0
      have SS := Lib.hid SS0
      have RV := Lib.hid RV0
      have s16d := SS0 wr.drew bd
      have RONE := Lib.hid (hrh.one (fun _ _ h => EE.one h))
      have HKP := Lib.hid hkp
      clear hA hF hD hfit TL0 RB0 SS0 RV0 FIN0 hrv hrh hbel hfits hadd e hkp
      go_wp2_with fail
-- HOLEB
      refine wp_region_noPanic ?_
      refine wp_region_held_drew (S := fun W => W.cell? ⟨w.heap.size + 4, 0, none⟩ = some (.int .i64 xi) ∧ W.cell? ⟨w.heap.size + 4, 1, none⟩ = some (.int .i64 xg) ∧ W.cell? ⟨w.heap.size + 4, 2, none⟩ = some (.slice pvA kp pvc)) (by kernel_rfl) s16d (fun hHeld => ?_)
      refine wpAnyH_take (i := 1) (oi := { dst := some 81, op := Op.fieldAddr 40 (Operand.tmp 2) 2, type := 0, pos := "ref.go:98", after := #[], guard := none }) (v := ?_) rfl (by kernel_rfl) (by kernel_rfl) (by kernel_rfl) (fun _ _ _ h => h) (Or.inl ⟨by rfl, ?_⟩) (by assumption) ?_
      rotate_left 1
      · intro w' hSw; (try dsimp only at hSw); go_simp; (try with_reducible rfl)
      simp only [Act.put, List.setIfInBounds_toArray, List.set_cons_zero, List.set_cons_succ]
      refine wpAnyH_take (i := 4) (oi := { dst := some 84, op := Op.load 87 (Operand.tmp 6), type := 87, pos := "ref.go:98", after := #[], guard := none }) (v := ?_) rfl (by kernel_rfl) (by kernel_rfl) (by kernel_rfl) (fun _ _ _ h => h) (Or.inl ⟨by rfl, ?_⟩) (by assumption) ?_
      rotate_left 1
      · intro w' hSw; (try dsimp only at hSw); go_simp; (try with_reducible rfl)
      simp only [Act.put, List.setIfInBounds_toArray, List.set_cons_zero, List.set_cons_succ]
      refine wpAnyH_ready (rs := [0, 2, 5]) (by kernel_rfl) (by simp) ?_
      refine AllReadyH.cons (o := { dst := some 80, op := Op.buildSlice 38 0 #[], type := 38, pos := "ref.go:98", after := #[], guard := none }) rfl (fun K' hK => ?_) (AllReadyH.cons (o := { dst := some 82, op := Op.load 38 (Operand.tmp 81), type := 38, pos := "ref.go:98", after := #[{ on := 1, ground := Ground.data }], guard := none }) rfl (fun K' hK => ?_) (AllReadyH.cons (o := { dst := some 85, op := Op.buildSlice 38 1 #[(0, Operand.tmp 84)], type := 38, pos := "ref.go:98", after := #[{ on := 4, ground := Ground.data }], guard := none }) rfl (fun K' hK => ?_) AllReadyH.nil))
      · go_simp
        obtain ⟨yE, hv⟩ : ∃ v, v = wr.drew.alloc (.cells #[] 87) := ⟨_, rfl⟩
        have bV : Below wr.drew.heap.size wr.drew yE := by rw [hv]; exact (Below.refl _ _).alloc (Nat.le_refl _) _
        have YE := Lib.hid (bd.trans (bV.mono bd.size))
        have sE := SS.out _ YE.out
        obtain ⟨bE, hbE⟩ : ∃ b, b = wr.heap.size := ⟨_, rfl⟩
        have HBEq := Lib.hid hbE
        have OEE : Hid (yE.ownsRow wr.heap.size 87 3 (.slice (some ⟨bE, 0, none⟩) 0 0) 0 []) := Lib.hid (by rw [hv, hbE]; exact World.ownsRow_lit wr.drew #[] 0 bd.size (Nat.zero_le _) rfl)
        have hltE : bE < yE.heap.size := by rw [hv, hbE, World.size_alloc]; exact Nat.lt_succ_self _
        have hBE : bE = wr.heap.size := hbE
        have HLTE := Lib.hid (And.intro hltE hBE)
        try rw [show wr.drew.heap.size = bE from hbE.symm]
        try rw [← hbE]
        clear hltE hBE
        first | rw [← hv] | (rw [show (wr.alloc (.cells #[] 87)).drew = yE from hv.symm])
        clear hv bV
        refine hK.out _ _ sE (fun hHeld => ?_)
        clear hK K'
        try simp only [Act.put, List.setIfInBounds_toArray, List.set_cons_zero, List.set_cons_succ]
        refine wpAnyH_ready (rs := [2, 5]) (by kernel_rfl) (by simp) ?_
        refine AllReadyH.cons (o := { dst := some 82, op := Op.load 38 (Operand.tmp 81), type := 38, pos := "ref.go:98", after := #[{ on := 1, ground := Ground.data }], guard := none }) rfl (fun K' hK => ?_) (AllReadyH.cons (o := { dst := some 85, op := Op.buildSlice 38 1 #[(0, Operand.tmp 84)], type := 38, pos := "ref.go:98", after := #[{ on := 4, ground := Ground.data }], guard := none }) rfl (fun K' hK => ?_) AllReadyH.nil)
        · have q4 : yE.cell? ⟨w.heap.size, 2, none⟩ = some (.slice RA rn rc) := (TL.out _ YE.out).r0.at_ 2
          go_simp
          clear q4
          refine hK.out _ _ sE (fun hHeld => ?_)
          clear hK K'
          try simp only [Act.put, List.setIfInBounds_toArray, List.set_cons_zero, List.set_cons_succ]
          refine wpAnyH_ready (rs := [3, 5]) (by kernel_rfl) (by simp) ?_
          refine AllReadyH.cons (o := { dst := some 83, op := Op.call { callee := Callee.builtin Builtin.append, args := #[Operand.tmp 80, Operand.tmp 82], argTypes := #[38, 38] }, type := 38, pos := "ref.go:98", after := #[{ on := 0, ground := Ground.data }, { on := 2, ground := Ground.data }], guard := none }) rfl (fun K' hK => ?_) (AllReadyH.cons (o := { dst := some 85, op := Op.buildSlice 38 1 #[(0, Operand.tmp 84)], type := 38, pos := "ref.go:98", after := #[{ on := 4, ground := Ground.data }], guard := none }) rfl (fun K' hK => ?_) AllReadyH.nil)
          · refine step_appW (K := K) entsT rfl (.tmp 80) (.tmp 82) rfl wr.heap.size _ 0 [] rfl (by have h := OEE.out; first | exact h | (rw [HBEq.out] at h; exact h)) RA rn rc rvs rfl (RV.out _ YE.out) RONE.out (by omega) (by decide) YE.out.size ?_
            intro vR yEA hoR hgR0
            have hgR : yE.grownBy yEA (Value.slice (some ⟨bE, 0, none⟩) 0 0).ownBlock := by first | exact hgR0 | (rw [HBEq.out]; exact hgR0)
            clear hgR0
            rw [List.nil_append, Nat.zero_add] at hoR
            have bV := below_own OEE.out YE.out.size hgR
            have YEA := Lib.hid (YE.out.trans bV)
            have sEA := SS.out _ YEA.out
            have OAEA := Lib.hid hoR
            obtain ⟨RA2, rc2, rfl, _, _⟩ := own_slv hoR
            clear hoR hgR bV
            refine hK.out _ _ sEA (fun hHeld => ?_)
            clear hK K'
            try simp only [Act.put, List.setIfInBounds_toArray, List.set_cons_zero, List.set_cons_succ]
            refine wpAnyH_ready (rs := [5]) (by kernel_rfl) (by simp) ?_
            refine AllReadyH.cons (o := { dst := some 85, op := Op.buildSlice 38 1 #[(0, Operand.tmp 84)], type := 38, pos := "ref.go:98", after := #[{ on := 4, ground := Ground.data }], guard := none }) rfl (fun K' hK => ?_) AllReadyH.nil
            go_simp
            obtain ⟨yEAB, hv⟩ : ∃ v, v = yEA.alloc (.cells #[.int .i64 xi, .int .i64 xg, .slice pvA kp pvc] 87) := ⟨_, rfl⟩
            have bV : Below yEA.heap.size yEA yEAB := by rw [hv]; exact (Below.refl _ _).alloc (Nat.le_refl _) _
            have YEAB := Lib.hid (YEA.out.trans (bV.mono YEA.out.size))
            have sEAB := SS.out _ YEAB.out
            have VEAB : Hid (VRow (fun _ => True) yEAB (some ⟨yEA.heap.size, 0, none⟩) 1 3 [.int .i64 xi, .int .i64 xg, .slice pvA kp pvc]) := Lib.hid (by rw [hv]; exact (VRow.new yEA #[.int .i64 xi, .int .i64 xg, .slice pvA kp pvc] _ 1 3 rfl).mono (fun _ _ => trivial))
            have OAEAB := Lib.hid (own_keep OAEA.out bV)
            first | rw [← hv] | (rw [show (wr.alloc (.cells #[.int .i64 xi, .int .i64 xg, .slice pvA kp pvc] 87)).drew = yEAB from hv.symm])
            clear hv bV
            refine hK.out _ _ sEAB (fun hHeld => ?_)
            clear hK K'
            try simp only [Act.put, List.setIfInBounds_toArray, List.set_cons_zero, List.set_cons_succ]
            refine wpAnyH_ready (rs := [6]) (by kernel_rfl) (by simp) ?_
            refine AllReadyH.cons (o := { dst := some 86, op := Op.call { callee := Callee.builtin Builtin.append, args := #[Operand.tmp 83, Operand.tmp 85], argTypes := #[38, 38] }, type := 38, pos := "ref.go:98", after := #[{ on := 3, ground := Ground.data }, { on := 5, ground := Ground.data }, { on := 3, ground := Ground.chain }], guard := none }) rfl (fun K' hK => ?_) AllReadyH.nil
            refine step_appW (K := fun _ => True) entsT rfl (.tmp 83) (.tmp 85) rfl wr.heap.size (.slice RA2 rn rc2) rn rvs rfl OAEAB.out _ 1 1 _ rfl VEAB.out (fun u hu => by simp at hu; rcases hu with rfl | rfl | rfl <;> rfl) (by omega) (by decide) YEAB.out.size ?_
            intro vC yC hoC hgC
            have bV := below_own OAEAB.out YEAB.out.size hgC
            have YC := Lib.hid (YEAB.out.trans bV)
            have sC := SS.out _ YC.out
            have OC := Lib.hid hoC
            obtain ⟨RC, cC, rfl, _, _⟩ := own_slv hoC
            have kC : yC.cell? ⟨w.heap.size, 2, none⟩ = some (.slice RA rn rc) := (TL.out _ YC.out).r0.at_ 2
            have fC := (TL.out _ YC.out).r0.fz 2
            clear hoC hgC bV
            refine hK.out _ _ sC (fun hHeld => ?_)
            clear hK K'
            try simp only [Act.put, List.setIfInBounds_toArray, List.set_cons_zero, List.set_cons_succ]
            refine wpAnyH_take (i := 7) (oi := { dst := some 87, op := Op.fieldAddr 40 (Operand.tmp 2) 2, type := 0, pos := "ref.go:98", after := #[{ on := 0, ground := Ground.phase }, { on := 1, ground := Ground.phase }, { on := 2, ground := Ground.phase }, { on := 3, ground := Ground.phase }, { on := 4, ground := Ground.phase }, { on := 5, ground := Ground.phase }, { on := 6, ground := Ground.phase }], guard := none }) (v := ?_) rfl (by kernel_rfl) (by kernel_rfl) (by kernel_rfl) (fun _ _ _ h => h) (Or.inl ⟨by rfl, ?_⟩) (by assumption) ?_
            rotate_left 1
            · intro w' hSw; (try dsimp only at hSw); go_simp; (try with_reducible rfl)
            simp only [Act.put, List.setIfInBounds_toArray, List.set_cons_zero, List.set_cons_succ]
            refine wpAnyH_ready (rs := [8]) (by kernel_rfl) (by simp) ?_
            refine AllReadyH.cons (o := { dst := none, op := Op.store 38 (Operand.tmp 87) (Operand.tmp 86), type := 0, pos := "ref.go:98", after := #[{ on := 7, ground := Ground.data }, { on := 6, ground := Ground.data }, { on := 6, ground := Ground.chain }, { on := 0, ground := Ground.phase }, { on := 1, ground := Ground.phase }, { on := 2, ground := Ground.phase }, { on := 3, ground := Ground.phase }, { on := 4, ground := Ground.phase }, { on := 5, ground := Ground.phase }, { on := 6, ground := Ground.phase }], guard := none }) rfl (fun K' hK => ?_) AllReadyH.nil
            have hsX : Fr (· = w.heap.size) yC (yC.setCell ⟨w.heap.size, 2, none⟩ (.slice RC (rn + 1) cC)) := Fr.setCell (own := (· = w.heap.size)) yC (p := ⟨w.heap.size, 2, none⟩) rfl _
            have sX : (yC.setCell ⟨w.heap.size, 2, none⟩ (.slice RC (rn + 1) cC)).cell? ⟨w.heap.size + 4, 0, none⟩ = some (.int .i64 xi) ∧ (yC.setCell ⟨w.heap.size, 2, none⟩ (.slice RC (rn + 1) cC)).cell? ⟨w.heap.size + 4, 1, none⟩ = some (.int .i64 xg) ∧ (yC.setCell ⟨w.heap.size, 2, none⟩ (.slice RC (rn + 1) cC)).cell? ⟨w.heap.size + 4, 2, none⟩ = some (.slice pvA kp pvc) := (fun (x : Rec 87 yC (w.heap.size + 4) #[.int .i64 xi, .int .i64 xg, .slice pvA kp pvc]) => (fun (y : Rec 87 (yC.setCell ⟨w.heap.size, 2, none⟩ (.slice RC (rn + 1) cC)) (w.heap.size + 4) #[.int .i64 xi, .int .i64 xg, .slice pvA kp pvc]) => ⟨y.at_ 0, y.at_ 1, y.at_ 2⟩) (x.fr hsX (fun e => by have e' : w.heap.size + 4 = w.heap.size := e; omega))) (RB.out _ YC.out)
            have HSX := Lib.hid hsX
            clear hsX
            go_simp
            refine hK.out _ _ sX (fun hHeld => ?_)
            clear hK K'
            try simp only [Act.put]
            refine wpAnyH_done (by kernel_rfl) ?_ _
            refine NoPanic.normal ?_
            obtain ⟨z9, hz9⟩ : ∃ z, z = yC.setCell ⟨w.heap.size, 2, none⟩ (.slice RC (rn + 1) cC) := ⟨_, rfl⟩
            rw [← hz9] at HSX ⊢
            have hR9 : Rec 40 z9 w.heap.size #[.slice CA cn cc, .slice SA sn sc, .slice RC (rn + 1) cC] := by rw [hz9]; exact (TL.out _ YC.out).r0.set 2 _
            have R9 := Lib.hid hR9
            have Q2 := Lib.hid ((TL.out _ YC.out).r2.fr HSX.out (fun e => by have e' : w.heap.size + 2 = w.heap.size := e; omega))
            have Q3 := Lib.hid ((TL.out _ YC.out).r3.fr HSX.out (fun e => by have e' : w.heap.size + 3 = w.heap.size := e; omega))
            clear hz9 hR9 sX sC kC fC
            go_wp2_with (first
              | (with_reducible refine wpList_ldS rtabT rfl rfl (.tmp 2) rfl rfl R9.out ?_)
              | (with_reducible refine wpList_stS (cs' := #[.slice CA cn cc, .slice SA sn sc, .slice RC (rn + 1) cC]) rtabT rfl rfl (by simp [Value.oneCell']) rfl (.tmp 4) (.tmp 88) rfl rfl rfl Q2.out ?_; intro w7 hR7 hF7)
              | (with_reducible refine wpList_stS (cs' := #[.slice none 0 0, .slice none 0 0, .int .i64 0, .int .i64 0, .bool false, .int .i64 0]) toldT rfl rfl (by simp [Value.oneCell']) rfl (.tmp 5) (.tmp 89) rfl rfl rfl (Q3.out.fr hF7 (fun e => by have e' : w.heap.size + 3 = w.heap.size + 2 := e; omega)) ?_; intro w8 hR8 hF8))
            refine bodyPost_ret (res_cc rfl rfl ((hR7.fr hF8 (fun e => by have e' : w.heap.size + 2 = w.heap.size + 3 := e; omega)).load rtabT rfl) rfl (hR8.load toldT rfl)) rfl ?_
            exact FIN.out yC z9 w7 w8 RC cC YC.out OC.out HSX.out hF7 hF8
          · go_simp
            obtain ⟨yEB, hv⟩ : ∃ v, v = yE.alloc (.cells #[.int .i64 xi, .int .i64 xg, .slice pvA kp pvc] 87) := ⟨_, rfl⟩
            have bV : Below yE.heap.size yE yEB := by rw [hv]; exact (Below.refl _ _).alloc (Nat.le_refl _) _
            have YEB := Lib.hid (YE.out.trans (bV.mono YE.out.size))
            have sEB := SS.out _ YEB.out
            have VEB : Hid (VRow (fun _ => True) yEB (some ⟨yE.heap.size, 0, none⟩) 1 3 [.int .i64 xi, .int .i64 xg, .slice pvA kp pvc]) := Lib.hid (by rw [hv]; exact (VRow.new yE #[.int .i64 xi, .int .i64 xg, .slice pvA kp pvc] _ 1 3 rfl).mono (fun _ _ => trivial))
            have HLTEB := Lib.hid HLTE.out
            have OEEB := Lib.hid (own_keep OEE.out bV)
            first | rw [← hv] | (rw [show (wr.alloc (.cells #[.int .i64 xi, .int .i64 xg, .slice pvA kp pvc] 87)).drew = yEB from hv.symm])
            clear hv bV
            refine hK.out _ _ sEB (fun hHeld => ?_)
            clear hK K'
            try simp only [Act.put, List.setIfInBounds_toArray, List.set_cons_zero, List.set_cons_succ]
            refine wpAnyH_ready (rs := [3]) (by kernel_rfl) (by simp) ?_
            refine AllReadyH.cons (o := { dst := some 83, op := Op.call { callee := Callee.builtin Builtin.append, args := #[Operand.tmp 80, Operand.tmp 82], argTypes := #[38, 38] }, type := 38, pos := "ref.go:98", after := #[{ on := 0, ground := Ground.data }, { on := 2, ground := Ground.data }], guard := none }) rfl (fun K' hK => ?_) AllReadyH.nil
            refine step_appW (K := K) entsT rfl (.tmp 80) (.tmp 82) rfl wr.heap.size _ 0 [] rfl (by have h := OEEB.out; first | exact h | (rw [HBEq.out] at h; exact h)) RA rn rc rvs rfl (RV.out _ YEB.out) RONE.out (by omega) (by decide) YEB.out.size ?_
            intro vR yEBA hoR hgR0
            have hgR : yEB.grownBy yEBA (Value.slice (some ⟨bE, 0, none⟩) 0 0).ownBlock := by first | exact hgR0 | (rw [HBEq.out]; exact hgR0)
            clear hgR0
            rw [List.nil_append, Nat.zero_add] at hoR
            have bV := below_own OEEB.out YEB.out.size hgR
            have YEBA := Lib.hid (YEB.out.trans bV)
            have sEBA := SS.out _ YEBA.out
            have OAEBA := Lib.hid hoR
            have BN := Lib.hid (show ∀ b o, some (⟨yE.heap.size, 0, none⟩ : Addr) = some ⟨b, o, none⟩ → (Value.slice (some ⟨bE, 0, none⟩) 0 0).ownBlock ≠ some b from fun b o e => by injection e with e; injection e with e1 _; have := HLTEB.out; intro e2; injection e2 with e2; have e3 : bE = b := e2; omega)
            have VEBA := Lib.hid (VRow_keep VEB.out OEEB.out hgR BN.out)
            obtain ⟨RA2, rc2, rfl, _, _⟩ := own_slv hoR
            clear hoR hgR bV
            refine hK.out _ _ sEBA (fun hHeld => ?_)
            clear hK K'
            try simp only [Act.put, List.setIfInBounds_toArray, List.set_cons_zero, List.set_cons_succ]
            refine wpAnyH_ready (rs := [6]) (by kernel_rfl) (by simp) ?_
            refine AllReadyH.cons (o := { dst := some 86, op := Op.call { callee := Callee.builtin Builtin.append, args := #[Operand.tmp 83, Operand.tmp 85], argTypes := #[38, 38] }, type := 38, pos := "ref.go:98", after := #[{ on := 3, ground := Ground.data }, { on := 5, ground := Ground.data }, { on := 3, ground := Ground.chain }], guard := none }) rfl (fun K' hK => ?_) AllReadyH.nil
            refine step_appW (K := fun _ => True) entsT rfl (.tmp 83) (.tmp 85) rfl wr.heap.size (.slice RA2 rn rc2) rn rvs rfl OAEBA.out _ 1 1 _ rfl VEBA.out (fun u hu => by simp at hu; rcases hu with rfl | rfl | rfl <;> rfl) (by omega) (by decide) YEBA.out.size ?_
            intro vC yC hoC hgC
            have bV := below_own OAEBA.out YEBA.out.size hgC
            have YC := Lib.hid (YEBA.out.trans bV)
            have sC := SS.out _ YC.out
            have OC := Lib.hid hoC
            obtain ⟨RC, cC, rfl, _, _⟩ := own_slv hoC
            have kC : yC.cell? ⟨w.heap.size, 2, none⟩ = some (.slice RA rn rc) := (TL.out _ YC.out).r0.at_ 2
            have fC := (TL.out _ YC.out).r0.fz 2
            clear hoC hgC bV
            refine hK.out _ _ sC (fun hHeld => ?_)
            clear hK K'
            try simp only [Act.put, List.setIfInBounds_toArray, List.set_cons_zero, List.set_cons_succ]
            refine wpAnyH_take (i := 7) (oi := { dst := some 87, op := Op.fieldAddr 40 (Operand.tmp 2) 2, type := 0, pos := "ref.go:98", after := #[{ on := 0, ground := Ground.phase }, { on := 1, ground := Ground.phase }, { on := 2, ground := Ground.phase }, { on := 3, ground := Ground.phase }, { on := 4, ground := Ground.phase }, { on := 5, ground := Ground.phase }, { on := 6, ground := Ground.phase }], guard := none }) (v := ?_) rfl (by kernel_rfl) (by kernel_rfl) (by kernel_rfl) (fun _ _ _ h => h) (Or.inl ⟨by rfl, ?_⟩) (by assumption) ?_
            rotate_left 1
            · intro w' hSw; (try dsimp only at hSw); go_simp; (try with_reducible rfl)
            simp only [Act.put, List.setIfInBounds_toArray, List.set_cons_zero, List.set_cons_succ]
            refine wpAnyH_ready (rs := [8]) (by kernel_rfl) (by simp) ?_
            refine AllReadyH.cons (o := { dst := none, op := Op.store 38 (Operand.tmp 87) (Operand.tmp 86), type := 0, pos := "ref.go:98", after := #[{ on := 7, ground := Ground.data }, { on := 6, ground := Ground.data }, { on := 6, ground := Ground.chain }, { on := 0, ground := Ground.phase }, { on := 1, ground := Ground.phase }, { on := 2, ground := Ground.phase }, { on := 3, ground := Ground.phase }, { on := 4, ground := Ground.phase }, { on := 5, ground := Ground.phase }, { on := 6, ground := Ground.phase }], guard := none }) rfl (fun K' hK => ?_) AllReadyH.nil
            have hsX : Fr (· = w.heap.size) yC (yC.setCell ⟨w.heap.size, 2, none⟩ (.slice RC (rn + 1) cC)) := Fr.setCell (own := (· = w.heap.size)) yC (p := ⟨w.heap.size, 2, none⟩) rfl _
            have sX : (yC.setCell ⟨w.heap.size, 2, none⟩ (.slice RC (rn + 1) cC)).cell? ⟨w.heap.size + 4, 0, none⟩ = some (.int .i64 xi) ∧ (yC.setCell ⟨w.heap.size, 2, none⟩ (.slice RC (rn + 1) cC)).cell? ⟨w.heap.size + 4, 1, none⟩ = some (.int .i64 xg) ∧ (yC.setCell ⟨w.heap.size, 2, none⟩ (.slice RC (rn + 1) cC)).cell? ⟨w.heap.size + 4, 2, none⟩ = some (.slice pvA kp pvc) := (fun (x : Rec 87 yC (w.heap.size + 4) #[.int .i64 xi, .int .i64 xg, .slice pvA kp pvc]) => (fun (y : Rec 87 (yC.setCell ⟨w.heap.size, 2, none⟩ (.slice RC (rn + 1) cC)) (w.heap.size + 4) #[.int .i64 xi, .int .i64 xg, .slice pvA kp pvc]) => ⟨y.at_ 0, y.at_ 1, y.at_ 2⟩) (x.fr hsX (fun e => by have e' : w.heap.size + 4 = w.heap.size := e; omega))) (RB.out _ YC.out)
            have HSX := Lib.hid hsX
            clear hsX
            go_simp
            refine hK.out _ _ sX (fun hHeld => ?_)
            clear hK K'
            try simp only [Act.put]
            refine wpAnyH_done (by kernel_rfl) ?_ _
            refine NoPanic.normal ?_
            obtain ⟨z9, hz9⟩ : ∃ z, z = yC.setCell ⟨w.heap.size, 2, none⟩ (.slice RC (rn + 1) cC) := ⟨_, rfl⟩
            rw [← hz9] at HSX ⊢
            have hR9 : Rec 40 z9 w.heap.size #[.slice CA cn cc, .slice SA sn sc, .slice RC (rn + 1) cC] := by rw [hz9]; exact (TL.out _ YC.out).r0.set 2 _
            have R9 := Lib.hid hR9
            have Q2 := Lib.hid ((TL.out _ YC.out).r2.fr HSX.out (fun e => by have e' : w.heap.size + 2 = w.heap.size := e; omega))
            have Q3 := Lib.hid ((TL.out _ YC.out).r3.fr HSX.out (fun e => by have e' : w.heap.size + 3 = w.heap.size := e; omega))
            clear hz9 hR9 sX sC kC fC
            go_wp2_with (first
              | (with_reducible refine wpList_ldS rtabT rfl rfl (.tmp 2) rfl rfl R9.out ?_)
              | (with_reducible refine wpList_stS (cs' := #[.slice CA cn cc, .slice SA sn sc, .slice RC (rn + 1) cC]) rtabT rfl rfl (by simp [Value.oneCell']) rfl (.tmp 4) (.tmp 88) rfl rfl rfl Q2.out ?_; intro w7 hR7 hF7)
              | (with_reducible refine wpList_stS (cs' := #[.slice none 0 0, .slice none 0 0, .int .i64 0, .int .i64 0, .bool false, .int .i64 0]) toldT rfl rfl (by simp [Value.oneCell']) rfl (.tmp 5) (.tmp 89) rfl rfl rfl (Q3.out.fr hF7 (fun e => by have e' : w.heap.size + 3 = w.heap.size + 2 := e; omega)) ?_; intro w8 hR8 hF8))
            refine bodyPost_ret (res_cc rfl rfl ((hR7.fr hF8 (fun e => by have e' : w.heap.size + 2 = w.heap.size + 3 := e; omega)).load rtabT rfl) rfl (hR8.load toldT rfl)) rfl ?_
            exact FIN.out yC z9 w7 w8 RC cC YC.out OC.out HSX.out hF7 hF8
        · go_simp
          obtain ⟨yEB, hv⟩ : ∃ v, v = yE.alloc (.cells #[.int .i64 xi, .int .i64 xg, .slice pvA kp pvc] 87) := ⟨_, rfl⟩
          have bV : Below yE.heap.size yE yEB := by rw [hv]; exact (Below.refl _ _).alloc (Nat.le_refl _) _
          have YEB := Lib.hid (YE.out.trans (bV.mono YE.out.size))
          have sEB := SS.out _ YEB.out
          have VEB : Hid (VRow (fun _ => True) yEB (some ⟨yE.heap.size, 0, none⟩) 1 3 [.int .i64 xi, .int .i64 xg, .slice pvA kp pvc]) := Lib.hid (by rw [hv]; exact (VRow.new yE #[.int .i64 xi, .int .i64 xg, .slice pvA kp pvc] _ 1 3 rfl).mono (fun _ _ => trivial))
          have HLTEB := Lib.hid HLTE.out
          have OEEB := Lib.hid (own_keep OEE.out bV)
          first | rw [← hv] | (rw [show (wr.alloc (.cells #[.int .i64 xi, .int .i64 xg, .slice pvA kp pvc] 87)).drew = yEB from hv.symm])
          clear hv bV
          refine hK.out _ _ sEB (fun hHeld => ?_)
          clear hK K'
          try simp only [Act.put, List.setIfInBounds_toArray, List.set_cons_zero, List.set_cons_succ]
          refine wpAnyH_ready (rs := [2]) (by kernel_rfl) (by simp) ?_
          refine AllReadyH.cons (o := { dst := some 82, op := Op.load 38 (Operand.tmp 81), type := 38, pos := "ref.go:98", after := #[{ on := 1, ground := Ground.data }], guard := none }) rfl (fun K' hK => ?_) AllReadyH.nil
          have q4 : yEB.cell? ⟨w.heap.size, 2, none⟩ = some (.slice RA rn rc) := (TL.out _ YEB.out).r0.at_ 2
          go_simp
          clear q4
          refine hK.out _ _ sEB (fun hHeld => ?_)
          clear hK K'
          try simp only [Act.put, List.setIfInBounds_toArray, List.set_cons_zero, List.set_cons_succ]
          refine wpAnyH_ready (rs := [3]) (by kernel_rfl) (by simp) ?_
          refine AllReadyH.cons (o := { dst := some 83, op := Op.call { callee := Callee.builtin Builtin.append, args := #[Operand.tmp 80, Operand.tmp 82], argTypes := #[38, 38] }, type := 38, pos := "ref.go:98", after := #[{ on := 0, ground := Ground.data }, { on := 2, ground := Ground.data }], guard := none }) rfl (fun K' hK => ?_) AllReadyH.nil
          refine step_appW (K := K) entsT rfl (.tmp 80) (.tmp 82) rfl wr.heap.size _ 0 [] rfl (by have h := OEEB.out; first | exact h | (rw [HBEq.out] at h; exact h)) RA rn rc rvs rfl (RV.out _ YEB.out) RONE.out (by omega) (by decide) YEB.out.size ?_
          intro vR yEBA hoR hgR0
          have hgR : yEB.grownBy yEBA (Value.slice (some ⟨bE, 0, none⟩) 0 0).ownBlock := by first | exact hgR0 | (rw [HBEq.out]; exact hgR0)
          clear hgR0
          rw [List.nil_append, Nat.zero_add] at hoR
          have bV := below_own OEEB.out YEB.out.size hgR
          have YEBA := Lib.hid (YEB.out.trans bV)
          have sEBA := SS.out _ YEBA.out
          have OAEBA := Lib.hid hoR
          have BN := Lib.hid (show ∀ b o, some (⟨yE.heap.size, 0, none⟩ : Addr) = some ⟨b, o, none⟩ → (Value.slice (some ⟨bE, 0, none⟩) 0 0).ownBlock ≠ some b from fun b o e => by injection e with e; injection e with e1 _; have := HLTEB.out; intro e2; injection e2 with e2; have e3 : bE = b := e2; omega)
          have VEBA := Lib.hid (VRow_keep VEB.out OEEB.out hgR BN.out)
          obtain ⟨RA2, rc2, rfl, _, _⟩ := own_slv hoR
          clear hoR hgR bV
          refine hK.out _ _ sEBA (fun hHeld => ?_)
          clear hK K'
          try simp only [Act.put, List.setIfInBounds_toArray, List.set_cons_zero, List.set_cons_succ]
          refine wpAnyH_ready (rs := [6]) (by kernel_rfl) (by simp) ?_
          refine AllReadyH.cons (o := { dst := some 86, op := Op.call { callee := Callee.builtin Builtin.append, args := #[Operand.tmp 83, Operand.tmp 85], argTypes := #[38, 38] }, type := 38, pos := "ref.go:98", after := #[{ on := 3, ground := Ground.data }, { on := 5, ground := Ground.data }, { on := 3, ground := Ground.chain }], guard := none }) rfl (fun K' hK => ?_) AllReadyH.nil
          refine step_appW (K := fun _ => True) entsT rfl (.tmp 83) (.tmp 85) rfl wr.heap.size (.slice RA2 rn rc2) rn rvs rfl OAEBA.out _ 1 1 _ rfl VEBA.out (fun u hu => by simp at hu; rcases hu with rfl | rfl | rfl <;> rfl) (by omega) (by decide) YEBA.out.size ?_
          intro vC yC hoC hgC
          have bV := below_own OAEBA.out YEBA.out.size hgC
          have YC := Lib.hid (YEBA.out.trans bV)
          have sC := SS.out _ YC.out
          have OC := Lib.hid hoC
          obtain ⟨RC, cC, rfl, _, _⟩ := own_slv hoC
          have kC : yC.cell? ⟨w.heap.size, 2, none⟩ = some (.slice RA rn rc) := (TL.out _ YC.out).r0.at_ 2
          have fC := (TL.out _ YC.out).r0.fz 2
          clear hoC hgC bV
          refine hK.out _ _ sC (fun hHeld => ?_)
          clear hK K'
          try simp only [Act.put, List.setIfInBounds_toArray, List.set_cons_zero, List.set_cons_succ]
          refine wpAnyH_take (i := 7) (oi := { dst := some 87, op := Op.fieldAddr 40 (Operand.tmp 2) 2, type := 0, pos := "ref.go:98", after := #[{ on := 0, ground := Ground.phase }, { on := 1, ground := Ground.phase }, { on := 2, ground := Ground.phase }, { on := 3, ground := Ground.phase }, { on := 4, ground := Ground.phase }, { on := 5, ground := Ground.phase }, { on := 6, ground := Ground.phase }], guard := none }) (v := ?_) rfl (by kernel_rfl) (by kernel_rfl) (by kernel_rfl) (fun _ _ _ h => h) (Or.inl ⟨by rfl, ?_⟩) (by assumption) ?_
          rotate_left 1
          · intro w' hSw; (try dsimp only at hSw); go_simp; (try with_reducible rfl)
          simp only [Act.put, List.setIfInBounds_toArray, List.set_cons_zero, List.set_cons_succ]
          refine wpAnyH_ready (rs := [8]) (by kernel_rfl) (by simp) ?_
          refine AllReadyH.cons (o := { dst := none, op := Op.store 38 (Operand.tmp 87) (Operand.tmp 86), type := 0, pos := "ref.go:98", after := #[{ on := 7, ground := Ground.data }, { on := 6, ground := Ground.data }, { on := 6, ground := Ground.chain }, { on := 0, ground := Ground.phase }, { on := 1, ground := Ground.phase }, { on := 2, ground := Ground.phase }, { on := 3, ground := Ground.phase }, { on := 4, ground := Ground.phase }, { on := 5, ground := Ground.phase }, { on := 6, ground := Ground.phase }], guard := none }) rfl (fun K' hK => ?_) AllReadyH.nil
          have hsX : Fr (· = w.heap.size) yC (yC.setCell ⟨w.heap.size, 2, none⟩ (.slice RC (rn + 1) cC)) := Fr.setCell (own := (· = w.heap.size)) yC (p := ⟨w.heap.size, 2, none⟩) rfl _
          have sX : (yC.setCell ⟨w.heap.size, 2, none⟩ (.slice RC (rn + 1) cC)).cell? ⟨w.heap.size + 4, 0, none⟩ = some (.int .i64 xi) ∧ (yC.setCell ⟨w.heap.size, 2, none⟩ (.slice RC (rn + 1) cC)).cell? ⟨w.heap.size + 4, 1, none⟩ = some (.int .i64 xg) ∧ (yC.setCell ⟨w.heap.size, 2, none⟩ (.slice RC (rn + 1) cC)).cell? ⟨w.heap.size + 4, 2, none⟩ = some (.slice pvA kp pvc) := (fun (x : Rec 87 yC (w.heap.size + 4) #[.int .i64 xi, .int .i64 xg, .slice pvA kp pvc]) => (fun (y : Rec 87 (yC.setCell ⟨w.heap.size, 2, none⟩ (.slice RC (rn + 1) cC)) (w.heap.size + 4) #[.int .i64 xi, .int .i64 xg, .slice pvA kp pvc]) => ⟨y.at_ 0, y.at_ 1, y.at_ 2⟩) (x.fr hsX (fun e => by have e' : w.heap.size + 4 = w.heap.size := e; omega))) (RB.out _ YC.out)
          have HSX := Lib.hid hsX
          clear hsX
          go_simp
          refine hK.out _ _ sX (fun hHeld => ?_)
          clear hK K'
          try simp only [Act.put]
          refine wpAnyH_done (by kernel_rfl) ?_ _
          refine NoPanic.normal ?_
          obtain ⟨z9, hz9⟩ : ∃ z, z = yC.setCell ⟨w.heap.size, 2, none⟩ (.slice RC (rn + 1) cC) := ⟨_, rfl⟩
          rw [← hz9] at HSX ⊢
          have hR9 : Rec 40 z9 w.heap.size #[.slice CA cn cc, .slice SA sn sc, .slice RC (rn + 1) cC] := by rw [hz9]; exact (TL.out _ YC.out).r0.set 2 _
          have R9 := Lib.hid hR9
          have Q2 := Lib.hid ((TL.out _ YC.out).r2.fr HSX.out (fun e => by have e' : w.heap.size + 2 = w.heap.size := e; omega))
          have Q3 := Lib.hid ((TL.out _ YC.out).r3.fr HSX.out (fun e => by have e' : w.heap.size + 3 = w.heap.size := e; omega))
          clear hz9 hR9 sX sC kC fC
          go_wp2_with (first
            | (with_reducible refine wpList_ldS rtabT rfl rfl (.tmp 2) rfl rfl R9.out ?_)
            | (with_reducible refine wpList_stS (cs' := #[.slice CA cn cc, .slice SA sn sc, .slice RC (rn + 1) cC]) rtabT rfl rfl (by simp [Value.oneCell']) rfl (.tmp 4) (.tmp 88) rfl rfl rfl Q2.out ?_; intro w7 hR7 hF7)
            | (with_reducible refine wpList_stS (cs' := #[.slice none 0 0, .slice none 0 0, .int .i64 0, .int .i64 0, .bool false, .int .i64 0]) toldT rfl rfl (by simp [Value.oneCell']) rfl (.tmp 5) (.tmp 89) rfl rfl rfl (Q3.out.fr hF7 (fun e => by have e' : w.heap.size + 3 = w.heap.size + 2 := e; omega)) ?_; intro w8 hR8 hF8))
          refine bodyPost_ret (res_cc rfl rfl ((hR7.fr hF8 (fun e => by have e' : w.heap.size + 2 = w.heap.size + 3 := e; omega)).load rtabT rfl) rfl (hR8.load toldT rfl)) rfl ?_
          exact FIN.out yC z9 w7 w8 RC cC YC.out OC.out HSX.out hF7 hF8
      · have q4 : wr.drew.cell? ⟨w.heap.size, 2, none⟩ = some (.slice RA rn rc) := (TL.out _ bd).r0.at_ 2
        go_simp
        clear q4
        refine hK.out _ _ s16d (fun hHeld => ?_)
        clear hK K'
        try simp only [Act.put, List.setIfInBounds_toArray, List.set_cons_zero, List.set_cons_succ]
        refine wpAnyH_ready (rs := [0, 5]) (by kernel_rfl) (by simp) ?_
        refine AllReadyH.cons (o := { dst := some 80, op := Op.buildSlice 38 0 #[], type := 38, pos := "ref.go:98", after := #[], guard := none }) rfl (fun K' hK => ?_) (AllReadyH.cons (o := { dst := some 85, op := Op.buildSlice 38 1 #[(0, Operand.tmp 84)], type := 38, pos := "ref.go:98", after := #[{ on := 4, ground := Ground.data }], guard := none }) rfl (fun K' hK => ?_) AllReadyH.nil)
        · go_simp
          obtain ⟨yE, hv⟩ : ∃ v, v = wr.drew.alloc (.cells #[] 87) := ⟨_, rfl⟩
          have bV : Below wr.drew.heap.size wr.drew yE := by rw [hv]; exact (Below.refl _ _).alloc (Nat.le_refl _) _
          have YE := Lib.hid (bd.trans (bV.mono bd.size))
          have sE := SS.out _ YE.out
          obtain ⟨bE, hbE⟩ : ∃ b, b = wr.heap.size := ⟨_, rfl⟩
          have HBEq := Lib.hid hbE
          have OEE : Hid (yE.ownsRow wr.heap.size 87 3 (.slice (some ⟨bE, 0, none⟩) 0 0) 0 []) := Lib.hid (by rw [hv, hbE]; exact World.ownsRow_lit wr.drew #[] 0 bd.size (Nat.zero_le _) rfl)
          have hltE : bE < yE.heap.size := by rw [hv, hbE, World.size_alloc]; exact Nat.lt_succ_self _
          have hBE : bE = wr.heap.size := hbE
          have HLTE := Lib.hid (And.intro hltE hBE)
          try rw [show wr.drew.heap.size = bE from hbE.symm]
          try rw [← hbE]
          clear hltE hBE
          first | rw [← hv] | (rw [show (wr.alloc (.cells #[] 87)).drew = yE from hv.symm])
          clear hv bV
          refine hK.out _ _ sE (fun hHeld => ?_)
          clear hK K'
          try simp only [Act.put, List.setIfInBounds_toArray, List.set_cons_zero, List.set_cons_succ]
          refine wpAnyH_ready (rs := [3, 5]) (by kernel_rfl) (by simp) ?_
          refine AllReadyH.cons (o := { dst := some 83, op := Op.call { callee := Callee.builtin Builtin.append, args := #[Operand.tmp 80, Operand.tmp 82], argTypes := #[38, 38] }, type := 38, pos := "ref.go:98", after := #[{ on := 0, ground := Ground.data }, { on := 2, ground := Ground.data }], guard := none }) rfl (fun K' hK => ?_) (AllReadyH.cons (o := { dst := some 85, op := Op.buildSlice 38 1 #[(0, Operand.tmp 84)], type := 38, pos := "ref.go:98", after := #[{ on := 4, ground := Ground.data }], guard := none }) rfl (fun K' hK => ?_) AllReadyH.nil)
          · refine step_appW (K := K) entsT rfl (.tmp 80) (.tmp 82) rfl wr.heap.size _ 0 [] rfl (by have h := OEE.out; first | exact h | (rw [HBEq.out] at h; exact h)) RA rn rc rvs rfl (RV.out _ YE.out) RONE.out (by omega) (by decide) YE.out.size ?_
            intro vR yEA hoR hgR0
            have hgR : yE.grownBy yEA (Value.slice (some ⟨bE, 0, none⟩) 0 0).ownBlock := by first | exact hgR0 | (rw [HBEq.out]; exact hgR0)
            clear hgR0
            rw [List.nil_append, Nat.zero_add] at hoR
            have bV := below_own OEE.out YE.out.size hgR
            have YEA := Lib.hid (YE.out.trans bV)
            have sEA := SS.out _ YEA.out
            have OAEA := Lib.hid hoR
            obtain ⟨RA2, rc2, rfl, _, _⟩ := own_slv hoR
            clear hoR hgR bV
            refine hK.out _ _ sEA (fun hHeld => ?_)
            clear hK K'
            try simp only [Act.put, List.setIfInBounds_toArray, List.set_cons_zero, List.set_cons_succ]
            refine wpAnyH_ready (rs := [5]) (by kernel_rfl) (by simp) ?_
            refine AllReadyH.cons (o := { dst := some 85, op := Op.buildSlice 38 1 #[(0, Operand.tmp 84)], type := 38, pos := "ref.go:98", after := #[{ on := 4, ground := Ground.data }], guard := none }) rfl (fun K' hK => ?_) AllReadyH.nil
            go_simp
            obtain ⟨yEAB, hv⟩ : ∃ v, v = yEA.alloc (.cells #[.int .i64 xi, .int .i64 xg, .slice pvA kp pvc] 87) := ⟨_, rfl⟩
            have bV : Below yEA.heap.size yEA yEAB := by rw [hv]; exact (Below.refl _ _).alloc (Nat.le_refl _) _
            have YEAB := Lib.hid (YEA.out.trans (bV.mono YEA.out.size))
            have sEAB := SS.out _ YEAB.out
            have VEAB : Hid (VRow (fun _ => True) yEAB (some ⟨yEA.heap.size, 0, none⟩) 1 3 [.int .i64 xi, .int .i64 xg, .slice pvA kp pvc]) := Lib.hid (by rw [hv]; exact (VRow.new yEA #[.int .i64 xi, .int .i64 xg, .slice pvA kp pvc] _ 1 3 rfl).mono (fun _ _ => trivial))
            have OAEAB := Lib.hid (own_keep OAEA.out bV)
            first | rw [← hv] | (rw [show (wr.alloc (.cells #[.int .i64 xi, .int .i64 xg, .slice pvA kp pvc] 87)).drew = yEAB from hv.symm])
            clear hv bV
            refine hK.out _ _ sEAB (fun hHeld => ?_)
            clear hK K'
            try simp only [Act.put, List.setIfInBounds_toArray, List.set_cons_zero, List.set_cons_succ]
            refine wpAnyH_ready (rs := [6]) (by kernel_rfl) (by simp) ?_
            refine AllReadyH.cons (o := { dst := some 86, op := Op.call { callee := Callee.builtin Builtin.append, args := #[Operand.tmp 83, Operand.tmp 85], argTypes := #[38, 38] }, type := 38, pos := "ref.go:98", after := #[{ on := 3, ground := Ground.data }, { on := 5, ground := Ground.data }, { on := 3, ground := Ground.chain }], guard := none }) rfl (fun K' hK => ?_) AllReadyH.nil
            refine step_appW (K := fun _ => True) entsT rfl (.tmp 83) (.tmp 85) rfl wr.heap.size (.slice RA2 rn rc2) rn rvs rfl OAEAB.out _ 1 1 _ rfl VEAB.out (fun u hu => by simp at hu; rcases hu with rfl | rfl | rfl <;> rfl) (by omega) (by decide) YEAB.out.size ?_
            intro vC yC hoC hgC
            have bV := below_own OAEAB.out YEAB.out.size hgC
            have YC := Lib.hid (YEAB.out.trans bV)
            have sC := SS.out _ YC.out
            have OC := Lib.hid hoC
            obtain ⟨RC, cC, rfl, _, _⟩ := own_slv hoC
            have kC : yC.cell? ⟨w.heap.size, 2, none⟩ = some (.slice RA rn rc) := (TL.out _ YC.out).r0.at_ 2
            have fC := (TL.out _ YC.out).r0.fz 2
            clear hoC hgC bV
            refine hK.out _ _ sC (fun hHeld => ?_)
            clear hK K'
            try simp only [Act.put, List.setIfInBounds_toArray, List.set_cons_zero, List.set_cons_succ]
            refine wpAnyH_take (i := 7) (oi := { dst := some 87, op := Op.fieldAddr 40 (Operand.tmp 2) 2, type := 0, pos := "ref.go:98", after := #[{ on := 0, ground := Ground.phase }, { on := 1, ground := Ground.phase }, { on := 2, ground := Ground.phase }, { on := 3, ground := Ground.phase }, { on := 4, ground := Ground.phase }, { on := 5, ground := Ground.phase }, { on := 6, ground := Ground.phase }], guard := none }) (v := ?_) rfl (by kernel_rfl) (by kernel_rfl) (by kernel_rfl) (fun _ _ _ h => h) (Or.inl ⟨by rfl, ?_⟩) (by assumption) ?_
            rotate_left 1
            · intro w' hSw; (try dsimp only at hSw); go_simp; (try with_reducible rfl)
            simp only [Act.put, List.setIfInBounds_toArray, List.set_cons_zero, List.set_cons_succ]
            refine wpAnyH_ready (rs := [8]) (by kernel_rfl) (by simp) ?_
            refine AllReadyH.cons (o := { dst := none, op := Op.store 38 (Operand.tmp 87) (Operand.tmp 86), type := 0, pos := "ref.go:98", after := #[{ on := 7, ground := Ground.data }, { on := 6, ground := Ground.data }, { on := 6, ground := Ground.chain }, { on := 0, ground := Ground.phase }, { on := 1, ground := Ground.phase }, { on := 2, ground := Ground.phase }, { on := 3, ground := Ground.phase }, { on := 4, ground := Ground.phase }, { on := 5, ground := Ground.phase }, { on := 6, ground := Ground.phase }], guard := none }) rfl (fun K' hK => ?_) AllReadyH.nil
            have hsX : Fr (· = w.heap.size) yC (yC.setCell ⟨w.heap.size, 2, none⟩ (.slice RC (rn + 1) cC)) := Fr.setCell (own := (· = w.heap.size)) yC (p := ⟨w.heap.size, 2, none⟩) rfl _
            have sX : (yC.setCell ⟨w.heap.size, 2, none⟩ (.slice RC (rn + 1) cC)).cell? ⟨w.heap.size + 4, 0, none⟩ = some (.int .i64 xi) ∧ (yC.setCell ⟨w.heap.size, 2, none⟩ (.slice RC (rn + 1) cC)).cell? ⟨w.heap.size + 4, 1, none⟩ = some (.int .i64 xg) ∧ (yC.setCell ⟨w.heap.size, 2, none⟩ (.slice RC (rn + 1) cC)).cell? ⟨w.heap.size + 4, 2, none⟩ = some (.slice pvA kp pvc) := (fun (x : Rec 87 yC (w.heap.size + 4) #[.int .i64 xi, .int .i64 xg, .slice pvA kp pvc]) => (fun (y : Rec 87 (yC.setCell ⟨w.heap.size, 2, none⟩ (.slice RC (rn + 1) cC)) (w.heap.size + 4) #[.int .i64 xi, .int .i64 xg, .slice pvA kp pvc]) => ⟨y.at_ 0, y.at_ 1, y.at_ 2⟩) (x.fr hsX (fun e => by have e' : w.heap.size + 4 = w.heap.size := e; omega))) (RB.out _ YC.out)
            have HSX := Lib.hid hsX
            clear hsX
            go_simp
            refine hK.out _ _ sX (fun hHeld => ?_)
            clear hK K'
            try simp only [Act.put]
            refine wpAnyH_done (by kernel_rfl) ?_ _
            refine NoPanic.normal ?_
            obtain ⟨z9, hz9⟩ : ∃ z, z = yC.setCell ⟨w.heap.size, 2, none⟩ (.slice RC (rn + 1) cC) := ⟨_, rfl⟩
            rw [← hz9] at HSX ⊢
            have hR9 : Rec 40 z9 w.heap.size #[.slice CA cn cc, .slice SA sn sc, .slice RC (rn + 1) cC] := by rw [hz9]; exact (TL.out _ YC.out).r0.set 2 _
            have R9 := Lib.hid hR9
            have Q2 := Lib.hid ((TL.out _ YC.out).r2.fr HSX.out (fun e => by have e' : w.heap.size + 2 = w.heap.size := e; omega))
            have Q3 := Lib.hid ((TL.out _ YC.out).r3.fr HSX.out (fun e => by have e' : w.heap.size + 3 = w.heap.size := e; omega))
            clear hz9 hR9 sX sC kC fC
            go_wp2_with (first
              | (with_reducible refine wpList_ldS rtabT rfl rfl (.tmp 2) rfl rfl R9.out ?_)
              | (with_reducible refine wpList_stS (cs' := #[.slice CA cn cc, .slice SA sn sc, .slice RC (rn + 1) cC]) rtabT rfl rfl (by simp [Value.oneCell']) rfl (.tmp 4) (.tmp 88) rfl rfl rfl Q2.out ?_; intro w7 hR7 hF7)
              | (with_reducible refine wpList_stS (cs' := #[.slice none 0 0, .slice none 0 0, .int .i64 0, .int .i64 0, .bool false, .int .i64 0]) toldT rfl rfl (by simp [Value.oneCell']) rfl (.tmp 5) (.tmp 89) rfl rfl rfl (Q3.out.fr hF7 (fun e => by have e' : w.heap.size + 3 = w.heap.size + 2 := e; omega)) ?_; intro w8 hR8 hF8))
            refine bodyPost_ret (res_cc rfl rfl ((hR7.fr hF8 (fun e => by have e' : w.heap.size + 2 = w.heap.size + 3 := e; omega)).load rtabT rfl) rfl (hR8.load toldT rfl)) rfl ?_
            exact FIN.out yC z9 w7 w8 RC cC YC.out OC.out HSX.out hF7 hF8
          · go_simp
            obtain ⟨yEB, hv⟩ : ∃ v, v = yE.alloc (.cells #[.int .i64 xi, .int .i64 xg, .slice pvA kp pvc] 87) := ⟨_, rfl⟩
            have bV : Below yE.heap.size yE yEB := by rw [hv]; exact (Below.refl _ _).alloc (Nat.le_refl _) _
            have YEB := Lib.hid (YE.out.trans (bV.mono YE.out.size))
            have sEB := SS.out _ YEB.out
            have VEB : Hid (VRow (fun _ => True) yEB (some ⟨yE.heap.size, 0, none⟩) 1 3 [.int .i64 xi, .int .i64 xg, .slice pvA kp pvc]) := Lib.hid (by rw [hv]; exact (VRow.new yE #[.int .i64 xi, .int .i64 xg, .slice pvA kp pvc] _ 1 3 rfl).mono (fun _ _ => trivial))
            have HLTEB := Lib.hid HLTE.out
            have OEEB := Lib.hid (own_keep OEE.out bV)
            first | rw [← hv] | (rw [show (wr.alloc (.cells #[.int .i64 xi, .int .i64 xg, .slice pvA kp pvc] 87)).drew = yEB from hv.symm])
            clear hv bV
            refine hK.out _ _ sEB (fun hHeld => ?_)
            clear hK K'
            try simp only [Act.put, List.setIfInBounds_toArray, List.set_cons_zero, List.set_cons_succ]
            refine wpAnyH_ready (rs := [3]) (by kernel_rfl) (by simp) ?_
            refine AllReadyH.cons (o := { dst := some 83, op := Op.call { callee := Callee.builtin Builtin.append, args := #[Operand.tmp 80, Operand.tmp 82], argTypes := #[38, 38] }, type := 38, pos := "ref.go:98", after := #[{ on := 0, ground := Ground.data }, { on := 2, ground := Ground.data }], guard := none }) rfl (fun K' hK => ?_) AllReadyH.nil
            refine step_appW (K := K) entsT rfl (.tmp 80) (.tmp 82) rfl wr.heap.size _ 0 [] rfl (by have h := OEEB.out; first | exact h | (rw [HBEq.out] at h; exact h)) RA rn rc rvs rfl (RV.out _ YEB.out) RONE.out (by omega) (by decide) YEB.out.size ?_
            intro vR yEBA hoR hgR0
            have hgR : yEB.grownBy yEBA (Value.slice (some ⟨bE, 0, none⟩) 0 0).ownBlock := by first | exact hgR0 | (rw [HBEq.out]; exact hgR0)
            clear hgR0
            rw [List.nil_append, Nat.zero_add] at hoR
            have bV := below_own OEEB.out YEB.out.size hgR
            have YEBA := Lib.hid (YEB.out.trans bV)
            have sEBA := SS.out _ YEBA.out
            have OAEBA := Lib.hid hoR
            have BN := Lib.hid (show ∀ b o, some (⟨yE.heap.size, 0, none⟩ : Addr) = some ⟨b, o, none⟩ → (Value.slice (some ⟨bE, 0, none⟩) 0 0).ownBlock ≠ some b from fun b o e => by injection e with e; injection e with e1 _; have := HLTEB.out; intro e2; injection e2 with e2; have e3 : bE = b := e2; omega)
            have VEBA := Lib.hid (VRow_keep VEB.out OEEB.out hgR BN.out)
            obtain ⟨RA2, rc2, rfl, _, _⟩ := own_slv hoR
            clear hoR hgR bV
            refine hK.out _ _ sEBA (fun hHeld => ?_)
            clear hK K'
            try simp only [Act.put, List.setIfInBounds_toArray, List.set_cons_zero, List.set_cons_succ]
            refine wpAnyH_ready (rs := [6]) (by kernel_rfl) (by simp) ?_
            refine AllReadyH.cons (o := { dst := some 86, op := Op.call { callee := Callee.builtin Builtin.append, args := #[Operand.tmp 83, Operand.tmp 85], argTypes := #[38, 38] }, type := 38, pos := "ref.go:98", after := #[{ on := 3, ground := Ground.data }, { on := 5, ground := Ground.data }, { on := 3, ground := Ground.chain }], guard := none }) rfl (fun K' hK => ?_) AllReadyH.nil
            refine step_appW (K := fun _ => True) entsT rfl (.tmp 83) (.tmp 85) rfl wr.heap.size (.slice RA2 rn rc2) rn rvs rfl OAEBA.out _ 1 1 _ rfl VEBA.out (fun u hu => by simp at hu; rcases hu with rfl | rfl | rfl <;> rfl) (by omega) (by decide) YEBA.out.size ?_
            intro vC yC hoC hgC
            have bV := below_own OAEBA.out YEBA.out.size hgC
            have YC := Lib.hid (YEBA.out.trans bV)
            have sC := SS.out _ YC.out
            have OC := Lib.hid hoC
            obtain ⟨RC, cC, rfl, _, _⟩ := own_slv hoC
            have kC : yC.cell? ⟨w.heap.size, 2, none⟩ = some (.slice RA rn rc) := (TL.out _ YC.out).r0.at_ 2
            have fC := (TL.out _ YC.out).r0.fz 2
            clear hoC hgC bV
            refine hK.out _ _ sC (fun hHeld => ?_)
            clear hK K'
            try simp only [Act.put, List.setIfInBounds_toArray, List.set_cons_zero, List.set_cons_succ]
            refine wpAnyH_take (i := 7) (oi := { dst := some 87, op := Op.fieldAddr 40 (Operand.tmp 2) 2, type := 0, pos := "ref.go:98", after := #[{ on := 0, ground := Ground.phase }, { on := 1, ground := Ground.phase }, { on := 2, ground := Ground.phase }, { on := 3, ground := Ground.phase }, { on := 4, ground := Ground.phase }, { on := 5, ground := Ground.phase }, { on := 6, ground := Ground.phase }], guard := none }) (v := ?_) rfl (by kernel_rfl) (by kernel_rfl) (by kernel_rfl) (fun _ _ _ h => h) (Or.inl ⟨by rfl, ?_⟩) (by assumption) ?_
            rotate_left 1
            · intro w' hSw; (try dsimp only at hSw); go_simp; (try with_reducible rfl)
            simp only [Act.put, List.setIfInBounds_toArray, List.set_cons_zero, List.set_cons_succ]
            refine wpAnyH_ready (rs := [8]) (by kernel_rfl) (by simp) ?_
            refine AllReadyH.cons (o := { dst := none, op := Op.store 38 (Operand.tmp 87) (Operand.tmp 86), type := 0, pos := "ref.go:98", after := #[{ on := 7, ground := Ground.data }, { on := 6, ground := Ground.data }, { on := 6, ground := Ground.chain }, { on := 0, ground := Ground.phase }, { on := 1, ground := Ground.phase }, { on := 2, ground := Ground.phase }, { on := 3, ground := Ground.phase }, { on := 4, ground := Ground.phase }, { on := 5, ground := Ground.phase }, { on := 6, ground := Ground.phase }], guard := none }) rfl (fun K' hK => ?_) AllReadyH.nil
            have hsX : Fr (· = w.heap.size) yC (yC.setCell ⟨w.heap.size, 2, none⟩ (.slice RC (rn + 1) cC)) := Fr.setCell (own := (· = w.heap.size)) yC (p := ⟨w.heap.size, 2, none⟩) rfl _
            have sX : (yC.setCell ⟨w.heap.size, 2, none⟩ (.slice RC (rn + 1) cC)).cell? ⟨w.heap.size + 4, 0, none⟩ = some (.int .i64 xi) ∧ (yC.setCell ⟨w.heap.size, 2, none⟩ (.slice RC (rn + 1) cC)).cell? ⟨w.heap.size + 4, 1, none⟩ = some (.int .i64 xg) ∧ (yC.setCell ⟨w.heap.size, 2, none⟩ (.slice RC (rn + 1) cC)).cell? ⟨w.heap.size + 4, 2, none⟩ = some (.slice pvA kp pvc) := (fun (x : Rec 87 yC (w.heap.size + 4) #[.int .i64 xi, .int .i64 xg, .slice pvA kp pvc]) => (fun (y : Rec 87 (yC.setCell ⟨w.heap.size, 2, none⟩ (.slice RC (rn + 1) cC)) (w.heap.size + 4) #[.int .i64 xi, .int .i64 xg, .slice pvA kp pvc]) => ⟨y.at_ 0, y.at_ 1, y.at_ 2⟩) (x.fr hsX (fun e => by have e' : w.heap.size + 4 = w.heap.size := e; omega))) (RB.out _ YC.out)
            have HSX := Lib.hid hsX
            clear hsX
            go_simp
            refine hK.out _ _ sX (fun hHeld => ?_)
            clear hK K'
            try simp only [Act.put]
            refine wpAnyH_done (by kernel_rfl) ?_ _
            refine NoPanic.normal ?_
            obtain ⟨z9, hz9⟩ : ∃ z, z = yC.setCell ⟨w.heap.size, 2, none⟩ (.slice RC (rn + 1) cC) := ⟨_, rfl⟩
            rw [← hz9] at HSX ⊢
            have hR9 : Rec 40 z9 w.heap.size #[.slice CA cn cc, .slice SA sn sc, .slice RC (rn + 1) cC] := by rw [hz9]; exact (TL.out _ YC.out).r0.set 2 _
            have R9 := Lib.hid hR9
            have Q2 := Lib.hid ((TL.out _ YC.out).r2.fr HSX.out (fun e => by have e' : w.heap.size + 2 = w.heap.size := e; omega))
            have Q3 := Lib.hid ((TL.out _ YC.out).r3.fr HSX.out (fun e => by have e' : w.heap.size + 3 = w.heap.size := e; omega))
            clear hz9 hR9 sX sC kC fC
            go_wp2_with (first
              | (with_reducible refine wpList_ldS rtabT rfl rfl (.tmp 2) rfl rfl R9.out ?_)
              | (with_reducible refine wpList_stS (cs' := #[.slice CA cn cc, .slice SA sn sc, .slice RC (rn + 1) cC]) rtabT rfl rfl (by simp [Value.oneCell']) rfl (.tmp 4) (.tmp 88) rfl rfl rfl Q2.out ?_; intro w7 hR7 hF7)
              | (with_reducible refine wpList_stS (cs' := #[.slice none 0 0, .slice none 0 0, .int .i64 0, .int .i64 0, .bool false, .int .i64 0]) toldT rfl rfl (by simp [Value.oneCell']) rfl (.tmp 5) (.tmp 89) rfl rfl rfl (Q3.out.fr hF7 (fun e => by have e' : w.heap.size + 3 = w.heap.size + 2 := e; omega)) ?_; intro w8 hR8 hF8))
            refine bodyPost_ret (res_cc rfl rfl ((hR7.fr hF8 (fun e => by have e' : w.heap.size + 2 = w.heap.size + 3 := e; omega)).load rtabT rfl) rfl (hR8.load toldT rfl)) rfl ?_
            exact FIN.out yC z9 w7 w8 RC cC YC.out OC.out HSX.out hF7 hF8
        · go_simp
          obtain ⟨yB, hv⟩ : ∃ v, v = wr.drew.alloc (.cells #[.int .i64 xi, .int .i64 xg, .slice pvA kp pvc] 87) := ⟨_, rfl⟩
          have bV : Below wr.drew.heap.size wr.drew yB := by rw [hv]; exact (Below.refl _ _).alloc (Nat.le_refl _) _
          have YB := Lib.hid (bd.trans (bV.mono bd.size))
          have sB := SS.out _ YB.out
          have VB : Hid (VRow (fun _ => True) yB (some ⟨wr.heap.size, 0, none⟩) 1 3 [.int .i64 xi, .int .i64 xg, .slice pvA kp pvc]) := Lib.hid (by rw [hv]; exact (VRow.new wr.drew #[.int .i64 xi, .int .i64 xg, .slice pvA kp pvc] _ 1 3 rfl).mono (fun _ _ => trivial))
          have HSB := Lib.hid (show wr.heap.size < yB.heap.size by rw [hv, World.size_alloc]; show _ < wr.heap.size + 1; omega)
          first | rw [← hv] | (rw [show (wr.alloc (.cells #[.int .i64 xi, .int .i64 xg, .slice pvA kp pvc] 87)).drew = yB from hv.symm])
          clear hv bV
          refine hK.out _ _ sB (fun hHeld => ?_)
          clear hK K'
          try simp only [Act.put, List.setIfInBounds_toArray, List.set_cons_zero, List.set_cons_succ]
          refine wpAnyH_ready (rs := [0]) (by kernel_rfl) (by simp) ?_
          refine AllReadyH.cons (o := { dst := some 80, op := Op.buildSlice 38 0 #[], type := 38, pos := "ref.go:98", after := #[], guard := none }) rfl (fun K' hK => ?_) AllReadyH.nil
          go_simp
          obtain ⟨yBE, hv⟩ : ∃ v, v = yB.alloc (.cells #[] 87) := ⟨_, rfl⟩
          have bV : Below yB.heap.size yB yBE := by rw [hv]; exact (Below.refl _ _).alloc (Nat.le_refl _) _
          have YBE := Lib.hid (YB.out.trans (bV.mono YB.out.size))
          have sBE := SS.out _ YBE.out
          obtain ⟨bE, hbE⟩ : ∃ b, b = yB.heap.size := ⟨_, rfl⟩
          have HBEq := Lib.hid hbE
          have OEBE : Hid (yBE.ownsRow wr.heap.size 87 3 (.slice (some ⟨bE, 0, none⟩) 0 0) 0 []) := Lib.hid (by rw [hv, hbE]; exact World.ownsRow_lit yB #[] 0 YB.out.size (Nat.zero_le _) rfl)
          have hltE : bE < yBE.heap.size := by rw [hv, hbE, World.size_alloc]; exact Nat.lt_succ_self _
          have hBE : wr.heap.size < bE := by rw [hbE]; exact HSB.out
          have HLTBE := Lib.hid (And.intro hltE hBE)
          rw [← hbE]
          clear hltE hBE
          have VBE := Lib.hid (VB.out.below bV)
          first | rw [← hv] | (rw [show (wr.alloc (.cells #[] 87)).drew = yBE from hv.symm])
          clear hv bV
          refine hK.out _ _ sBE (fun hHeld => ?_)
          clear hK K'
          try simp only [Act.put, List.setIfInBounds_toArray, List.set_cons_zero, List.set_cons_succ]
          refine wpAnyH_ready (rs := [3]) (by kernel_rfl) (by simp) ?_
          refine AllReadyH.cons (o := { dst := some 83, op := Op.call { callee := Callee.builtin Builtin.append, args := #[Operand.tmp 80, Operand.tmp 82], argTypes := #[38, 38] }, type := 38, pos := "ref.go:98", after := #[{ on := 0, ground := Ground.data }, { on := 2, ground := Ground.data }], guard := none }) rfl (fun K' hK => ?_) AllReadyH.nil
          refine step_appW (K := K) entsT rfl (.tmp 80) (.tmp 82) rfl wr.heap.size _ 0 [] rfl (by have h := OEBE.out; first | exact h | (rw [HBEq.out] at h; exact h)) RA rn rc rvs rfl (RV.out _ YBE.out) RONE.out (by omega) (by decide) YBE.out.size ?_
          intro vR yBEA hoR hgR0
          have hgR : yBE.grownBy yBEA (Value.slice (some ⟨bE, 0, none⟩) 0 0).ownBlock := by first | exact hgR0 | (rw [HBEq.out]; exact hgR0)
          clear hgR0
          rw [List.nil_append, Nat.zero_add] at hoR
          have bV := below_own OEBE.out YBE.out.size hgR
          have YBEA := Lib.hid (YBE.out.trans bV)
          have sBEA := SS.out _ YBEA.out
          have OABEA := Lib.hid hoR
          have BN := Lib.hid (show ∀ b o, some (⟨wr.heap.size, 0, none⟩ : Addr) = some ⟨b, o, none⟩ → (Value.slice (some ⟨bE, 0, none⟩) 0 0).ownBlock ≠ some b from fun b o e => by injection e with e; injection e with e1 _; have := HLTBE.out; intro e2; injection e2 with e2; have e3 : bE = b := e2; omega)
          have VBEA := Lib.hid (VRow_keep VBE.out OEBE.out hgR BN.out)
          obtain ⟨RA2, rc2, rfl, _, _⟩ := own_slv hoR
          clear hoR hgR bV
          refine hK.out _ _ sBEA (fun hHeld => ?_)
          clear hK K'
          try simp only [Act.put, List.setIfInBounds_toArray, List.set_cons_zero, List.set_cons_succ]
          refine wpAnyH_ready (rs := [6]) (by kernel_rfl) (by simp) ?_
          refine AllReadyH.cons (o := { dst := some 86, op := Op.call { callee := Callee.builtin Builtin.append, args := #[Operand.tmp 83, Operand.tmp 85], argTypes := #[38, 38] }, type := 38, pos := "ref.go:98", after := #[{ on := 3, ground := Ground.data }, { on := 5, ground := Ground.data }, { on := 3, ground := Ground.chain }], guard := none }) rfl (fun K' hK => ?_) AllReadyH.nil
          refine step_appW (K := fun _ => True) entsT rfl (.tmp 83) (.tmp 85) rfl wr.heap.size (.slice RA2 rn rc2) rn rvs rfl OABEA.out _ 1 1 _ rfl VBEA.out (fun u hu => by simp at hu; rcases hu with rfl | rfl | rfl <;> rfl) (by omega) (by decide) YBEA.out.size ?_
          intro vC yC hoC hgC
          have bV := below_own OABEA.out YBEA.out.size hgC
          have YC := Lib.hid (YBEA.out.trans bV)
          have sC := SS.out _ YC.out
          have OC := Lib.hid hoC
          obtain ⟨RC, cC, rfl, _, _⟩ := own_slv hoC
          have kC : yC.cell? ⟨w.heap.size, 2, none⟩ = some (.slice RA rn rc) := (TL.out _ YC.out).r0.at_ 2
          have fC := (TL.out _ YC.out).r0.fz 2
          clear hoC hgC bV
          refine hK.out _ _ sC (fun hHeld => ?_)
          clear hK K'
          try simp only [Act.put, List.setIfInBounds_toArray, List.set_cons_zero, List.set_cons_succ]
          refine wpAnyH_take (i := 7) (oi := { dst := some 87, op := Op.fieldAddr 40 (Operand.tmp 2) 2, type := 0, pos := "ref.go:98", after := #[{ on := 0, ground := Ground.phase }, { on := 1, ground := Ground.phase }, { on := 2, ground := Ground.phase }, { on := 3, ground := Ground.phase }, { on := 4, ground := Ground.phase }, { on := 5, ground := Ground.phase }, { on := 6, ground := Ground.phase }], guard := none }) (v := ?_) rfl (by kernel_rfl) (by kernel_rfl) (by kernel_rfl) (fun _ _ _ h => h) (Or.inl ⟨by rfl, ?_⟩) (by assumption) ?_
          rotate_left 1
          · intro w' hSw; (try dsimp only at hSw); go_simp; (try with_reducible rfl)
          simp only [Act.put, List.setIfInBounds_toArray, List.set_cons_zero, List.set_cons_succ]
          refine wpAnyH_ready (rs := [8]) (by kernel_rfl) (by simp) ?_
          refine AllReadyH.cons (o := { dst := none, op := Op.store 38 (Operand.tmp 87) (Operand.tmp 86), type := 0, pos := "ref.go:98", after := #[{ on := 7, ground := Ground.data }, { on := 6, ground := Ground.data }, { on := 6, ground := Ground.chain }, { on := 0, ground := Ground.phase }, { on := 1, ground := Ground.phase }, { on := 2, ground := Ground.phase }, { on := 3, ground := Ground.phase }, { on := 4, ground := Ground.phase }, { on := 5, ground := Ground.phase }, { on := 6, ground := Ground.phase }], guard := none }) rfl (fun K' hK => ?_) AllReadyH.nil
          have hsX : Fr (· = w.heap.size) yC (yC.setCell ⟨w.heap.size, 2, none⟩ (.slice RC (rn + 1) cC)) := Fr.setCell (own := (· = w.heap.size)) yC (p := ⟨w.heap.size, 2, none⟩) rfl _
          have sX : (yC.setCell ⟨w.heap.size, 2, none⟩ (.slice RC (rn + 1) cC)).cell? ⟨w.heap.size + 4, 0, none⟩ = some (.int .i64 xi) ∧ (yC.setCell ⟨w.heap.size, 2, none⟩ (.slice RC (rn + 1) cC)).cell? ⟨w.heap.size + 4, 1, none⟩ = some (.int .i64 xg) ∧ (yC.setCell ⟨w.heap.size, 2, none⟩ (.slice RC (rn + 1) cC)).cell? ⟨w.heap.size + 4, 2, none⟩ = some (.slice pvA kp pvc) := (fun (x : Rec 87 yC (w.heap.size + 4) #[.int .i64 xi, .int .i64 xg, .slice pvA kp pvc]) => (fun (y : Rec 87 (yC.setCell ⟨w.heap.size, 2, none⟩ (.slice RC (rn + 1) cC)) (w.heap.size + 4) #[.int .i64 xi, .int .i64 xg, .slice pvA kp pvc]) => ⟨y.at_ 0, y.at_ 1, y.at_ 2⟩) (x.fr hsX (fun e => by have e' : w.heap.size + 4 = w.heap.size := e; omega))) (RB.out _ YC.out)
          have HSX := Lib.hid hsX
          clear hsX
          go_simp
          refine hK.out _ _ sX (fun hHeld => ?_)
          clear hK K'
          try simp only [Act.put]
          refine wpAnyH_done (by kernel_rfl) ?_ _
          refine NoPanic.normal ?_
          obtain ⟨z9, hz9⟩ : ∃ z, z = yC.setCell ⟨w.heap.size, 2, none⟩ (.slice RC (rn + 1) cC) := ⟨_, rfl⟩
          rw [← hz9] at HSX ⊢
          have hR9 : Rec 40 z9 w.heap.size #[.slice CA cn cc, .slice SA sn sc, .slice RC (rn + 1) cC] := by rw [hz9]; exact (TL.out _ YC.out).r0.set 2 _
          have R9 := Lib.hid hR9
          have Q2 := Lib.hid ((TL.out _ YC.out).r2.fr HSX.out (fun e => by have e' : w.heap.size + 2 = w.heap.size := e; omega))
          have Q3 := Lib.hid ((TL.out _ YC.out).r3.fr HSX.out (fun e => by have e' : w.heap.size + 3 = w.heap.size := e; omega))
          clear hz9 hR9 sX sC kC fC
          go_wp2_with (first
            | (with_reducible refine wpList_ldS rtabT rfl rfl (.tmp 2) rfl rfl R9.out ?_)
            | (with_reducible refine wpList_stS (cs' := #[.slice CA cn cc, .slice SA sn sc, .slice RC (rn + 1) cC]) rtabT rfl rfl (by simp [Value.oneCell']) rfl (.tmp 4) (.tmp 88) rfl rfl rfl Q2.out ?_; intro w7 hR7 hF7)
            | (with_reducible refine wpList_stS (cs' := #[.slice none 0 0, .slice none 0 0, .int .i64 0, .int .i64 0, .bool false, .int .i64 0]) toldT rfl rfl (by simp [Value.oneCell']) rfl (.tmp 5) (.tmp 89) rfl rfl rfl (Q3.out.fr hF7 (fun e => by have e' : w.heap.size + 3 = w.heap.size + 2 := e; omega)) ?_; intro w8 hR8 hF8))
          refine bodyPost_ret (res_cc rfl rfl ((hR7.fr hF8 (fun e => by have e' : w.heap.size + 2 = w.heap.size + 3 := e; omega)).load rtabT rfl) rfl (hR8.load toldT rfl)) rfl ?_
          exact FIN.out yC z9 w7 w8 RC cC YC.out OC.out HSX.out hF7 hF8
      · go_simp
        obtain ⟨yB, hv⟩ : ∃ v, v = wr.drew.alloc (.cells #[.int .i64 xi, .int .i64 xg, .slice pvA kp pvc] 87) := ⟨_, rfl⟩
        have bV : Below wr.drew.heap.size wr.drew yB := by rw [hv]; exact (Below.refl _ _).alloc (Nat.le_refl _) _
        have YB := Lib.hid (bd.trans (bV.mono bd.size))
        have sB := SS.out _ YB.out
        have VB : Hid (VRow (fun _ => True) yB (some ⟨wr.heap.size, 0, none⟩) 1 3 [.int .i64 xi, .int .i64 xg, .slice pvA kp pvc]) := Lib.hid (by rw [hv]; exact (VRow.new wr.drew #[.int .i64 xi, .int .i64 xg, .slice pvA kp pvc] _ 1 3 rfl).mono (fun _ _ => trivial))
        have HSB := Lib.hid (show wr.heap.size < yB.heap.size by rw [hv, World.size_alloc]; show _ < wr.heap.size + 1; omega)
        first | rw [← hv] | (rw [show (wr.alloc (.cells #[.int .i64 xi, .int .i64 xg, .slice pvA kp pvc] 87)).drew = yB from hv.symm])
        clear hv bV
        refine hK.out _ _ sB (fun hHeld => ?_)
        clear hK K'
        try simp only [Act.put, List.setIfInBounds_toArray, List.set_cons_zero, List.set_cons_succ]
        refine wpAnyH_ready (rs := [0, 2]) (by kernel_rfl) (by simp) ?_
        refine AllReadyH.cons (o := { dst := some 80, op := Op.buildSlice 38 0 #[], type := 38, pos := "ref.go:98", after := #[], guard := none }) rfl (fun K' hK => ?_) (AllReadyH.cons (o := { dst := some 82, op := Op.load 38 (Operand.tmp 81), type := 38, pos := "ref.go:98", after := #[{ on := 1, ground := Ground.data }], guard := none }) rfl (fun K' hK => ?_) AllReadyH.nil)
        · go_simp
          obtain ⟨yBE, hv⟩ : ∃ v, v = yB.alloc (.cells #[] 87) := ⟨_, rfl⟩
          have bV : Below yB.heap.size yB yBE := by rw [hv]; exact (Below.refl _ _).alloc (Nat.le_refl _) _
          have YBE := Lib.hid (YB.out.trans (bV.mono YB.out.size))
          have sBE := SS.out _ YBE.out
          obtain ⟨bE, hbE⟩ : ∃ b, b = yB.heap.size := ⟨_, rfl⟩
          have HBEq := Lib.hid hbE
          have OEBE : Hid (yBE.ownsRow wr.heap.size 87 3 (.slice (some ⟨bE, 0, none⟩) 0 0) 0 []) := Lib.hid (by rw [hv, hbE]; exact World.ownsRow_lit yB #[] 0 YB.out.size (Nat.zero_le _) rfl)
          have hltE : bE < yBE.heap.size := by rw [hv, hbE, World.size_alloc]; exact Nat.lt_succ_self _
          have hBE : wr.heap.size < bE := by rw [hbE]; exact HSB.out
          have HLTBE := Lib.hid (And.intro hltE hBE)
          rw [← hbE]
          clear hltE hBE
          have VBE := Lib.hid (VB.out.below bV)
          first | rw [← hv] | (rw [show (wr.alloc (.cells #[] 87)).drew = yBE from hv.symm])
          clear hv bV
          refine hK.out _ _ sBE (fun hHeld => ?_)
          clear hK K'
          try simp only [Act.put, List.setIfInBounds_toArray, List.set_cons_zero, List.set_cons_succ]
          refine wpAnyH_ready (rs := [2]) (by kernel_rfl) (by simp) ?_
          refine AllReadyH.cons (o := { dst := some 82, op := Op.load 38 (Operand.tmp 81), type := 38, pos := "ref.go:98", after := #[{ on := 1, ground := Ground.data }], guard := none }) rfl (fun K' hK => ?_) AllReadyH.nil
          have q4 : yBE.cell? ⟨w.heap.size, 2, none⟩ = some (.slice RA rn rc) := (TL.out _ YBE.out).r0.at_ 2
          go_simp
          clear q4
          refine hK.out _ _ sBE (fun hHeld => ?_)
          clear hK K'
          try simp only [Act.put, List.setIfInBounds_toArray, List.set_cons_zero, List.set_cons_succ]
          refine wpAnyH_ready (rs := [3]) (by kernel_rfl) (by simp) ?_
          refine AllReadyH.cons (o := { dst := some 83, op := Op.call { callee := Callee.builtin Builtin.append, args := #[Operand.tmp 80, Operand.tmp 82], argTypes := #[38, 38] }, type := 38, pos := "ref.go:98", after := #[{ on := 0, ground := Ground.data }, { on := 2, ground := Ground.data }], guard := none }) rfl (fun K' hK => ?_) AllReadyH.nil
          refine step_appW (K := K) entsT rfl (.tmp 80) (.tmp 82) rfl wr.heap.size _ 0 [] rfl (by have h := OEBE.out; first | exact h | (rw [HBEq.out] at h; exact h)) RA rn rc rvs rfl (RV.out _ YBE.out) RONE.out (by omega) (by decide) YBE.out.size ?_
          intro vR yBEA hoR hgR0
          have hgR : yBE.grownBy yBEA (Value.slice (some ⟨bE, 0, none⟩) 0 0).ownBlock := by first | exact hgR0 | (rw [HBEq.out]; exact hgR0)
          clear hgR0
          rw [List.nil_append, Nat.zero_add] at hoR
          have bV := below_own OEBE.out YBE.out.size hgR
          have YBEA := Lib.hid (YBE.out.trans bV)
          have sBEA := SS.out _ YBEA.out
          have OABEA := Lib.hid hoR
          have BN := Lib.hid (show ∀ b o, some (⟨wr.heap.size, 0, none⟩ : Addr) = some ⟨b, o, none⟩ → (Value.slice (some ⟨bE, 0, none⟩) 0 0).ownBlock ≠ some b from fun b o e => by injection e with e; injection e with e1 _; have := HLTBE.out; intro e2; injection e2 with e2; have e3 : bE = b := e2; omega)
          have VBEA := Lib.hid (VRow_keep VBE.out OEBE.out hgR BN.out)
          obtain ⟨RA2, rc2, rfl, _, _⟩ := own_slv hoR
          clear hoR hgR bV
          refine hK.out _ _ sBEA (fun hHeld => ?_)
          clear hK K'
          try simp only [Act.put, List.setIfInBounds_toArray, List.set_cons_zero, List.set_cons_succ]
          refine wpAnyH_ready (rs := [6]) (by kernel_rfl) (by simp) ?_
          refine AllReadyH.cons (o := { dst := some 86, op := Op.call { callee := Callee.builtin Builtin.append, args := #[Operand.tmp 83, Operand.tmp 85], argTypes := #[38, 38] }, type := 38, pos := "ref.go:98", after := #[{ on := 3, ground := Ground.data }, { on := 5, ground := Ground.data }, { on := 3, ground := Ground.chain }], guard := none }) rfl (fun K' hK => ?_) AllReadyH.nil
          refine step_appW (K := fun _ => True) entsT rfl (.tmp 83) (.tmp 85) rfl wr.heap.size (.slice RA2 rn rc2) rn rvs rfl OABEA.out _ 1 1 _ rfl VBEA.out (fun u hu => by simp at hu; rcases hu with rfl | rfl | rfl <;> rfl) (by omega) (by decide) YBEA.out.size ?_
          intro vC yC hoC hgC
          have bV := below_own OABEA.out YBEA.out.size hgC
          have YC := Lib.hid (YBEA.out.trans bV)
          have sC := SS.out _ YC.out
          have OC := Lib.hid hoC
          obtain ⟨RC, cC, rfl, _, _⟩ := own_slv hoC
          have kC : yC.cell? ⟨w.heap.size, 2, none⟩ = some (.slice RA rn rc) := (TL.out _ YC.out).r0.at_ 2
          have fC := (TL.out _ YC.out).r0.fz 2
          clear hoC hgC bV
          refine hK.out _ _ sC (fun hHeld => ?_)
          clear hK K'
          try simp only [Act.put, List.setIfInBounds_toArray, List.set_cons_zero, List.set_cons_succ]
          refine wpAnyH_take (i := 7) (oi := { dst := some 87, op := Op.fieldAddr 40 (Operand.tmp 2) 2, type := 0, pos := "ref.go:98", after := #[{ on := 0, ground := Ground.phase }, { on := 1, ground := Ground.phase }, { on := 2, ground := Ground.phase }, { on := 3, ground := Ground.phase }, { on := 4, ground := Ground.phase }, { on := 5, ground := Ground.phase }, { on := 6, ground := Ground.phase }], guard := none }) (v := ?_) rfl (by kernel_rfl) (by kernel_rfl) (by kernel_rfl) (fun _ _ _ h => h) (Or.inl ⟨by rfl, ?_⟩) (by assumption) ?_
          rotate_left 1
          · intro w' hSw; (try dsimp only at hSw); go_simp; (try with_reducible rfl)
          simp only [Act.put, List.setIfInBounds_toArray, List.set_cons_zero, List.set_cons_succ]
          refine wpAnyH_ready (rs := [8]) (by kernel_rfl) (by simp) ?_
          refine AllReadyH.cons (o := { dst := none, op := Op.store 38 (Operand.tmp 87) (Operand.tmp 86), type := 0, pos := "ref.go:98", after := #[{ on := 7, ground := Ground.data }, { on := 6, ground := Ground.data }, { on := 6, ground := Ground.chain }, { on := 0, ground := Ground.phase }, { on := 1, ground := Ground.phase }, { on := 2, ground := Ground.phase }, { on := 3, ground := Ground.phase }, { on := 4, ground := Ground.phase }, { on := 5, ground := Ground.phase }, { on := 6, ground := Ground.phase }], guard := none }) rfl (fun K' hK => ?_) AllReadyH.nil
          have hsX : Fr (· = w.heap.size) yC (yC.setCell ⟨w.heap.size, 2, none⟩ (.slice RC (rn + 1) cC)) := Fr.setCell (own := (· = w.heap.size)) yC (p := ⟨w.heap.size, 2, none⟩) rfl _
          have sX : (yC.setCell ⟨w.heap.size, 2, none⟩ (.slice RC (rn + 1) cC)).cell? ⟨w.heap.size + 4, 0, none⟩ = some (.int .i64 xi) ∧ (yC.setCell ⟨w.heap.size, 2, none⟩ (.slice RC (rn + 1) cC)).cell? ⟨w.heap.size + 4, 1, none⟩ = some (.int .i64 xg) ∧ (yC.setCell ⟨w.heap.size, 2, none⟩ (.slice RC (rn + 1) cC)).cell? ⟨w.heap.size + 4, 2, none⟩ = some (.slice pvA kp pvc) := (fun (x : Rec 87 yC (w.heap.size + 4) #[.int .i64 xi, .int .i64 xg, .slice pvA kp pvc]) => (fun (y : Rec 87 (yC.setCell ⟨w.heap.size, 2, none⟩ (.slice RC (rn + 1) cC)) (w.heap.size + 4) #[.int .i64 xi, .int .i64 xg, .slice pvA kp pvc]) => ⟨y.at_ 0, y.at_ 1, y.at_ 2⟩) (x.fr hsX (fun e => by have e' : w.heap.size + 4 = w.heap.size := e; omega))) (RB.out _ YC.out)
          have HSX := Lib.hid hsX
          clear hsX
          go_simp
          refine hK.out _ _ sX (fun hHeld => ?_)
          clear hK K'
          try simp only [Act.put]
          refine wpAnyH_done (by kernel_rfl) ?_ _
          refine NoPanic.normal ?_
          obtain ⟨z9, hz9⟩ : ∃ z, z = yC.setCell ⟨w.heap.size, 2, none⟩ (.slice RC (rn + 1) cC) := ⟨_, rfl⟩
          rw [← hz9] at HSX ⊢
          have hR9 : Rec 40 z9 w.heap.size #[.slice CA cn cc, .slice SA sn sc, .slice RC (rn + 1) cC] := by rw [hz9]; exact (TL.out _ YC.out).r0.set 2 _
          have R9 := Lib.hid hR9
          have Q2 := Lib.hid ((TL.out _ YC.out).r2.fr HSX.out (fun e => by have e' : w.heap.size + 2 = w.heap.size := e; omega))
          have Q3 := Lib.hid ((TL.out _ YC.out).r3.fr HSX.out (fun e => by have e' : w.heap.size + 3 = w.heap.size := e; omega))
          clear hz9 hR9 sX sC kC fC
          go_wp2_with (first
            | (with_reducible refine wpList_ldS rtabT rfl rfl (.tmp 2) rfl rfl R9.out ?_)
            | (with_reducible refine wpList_stS (cs' := #[.slice CA cn cc, .slice SA sn sc, .slice RC (rn + 1) cC]) rtabT rfl rfl (by simp [Value.oneCell']) rfl (.tmp 4) (.tmp 88) rfl rfl rfl Q2.out ?_; intro w7 hR7 hF7)
            | (with_reducible refine wpList_stS (cs' := #[.slice none 0 0, .slice none 0 0, .int .i64 0, .int .i64 0, .bool false, .int .i64 0]) toldT rfl rfl (by simp [Value.oneCell']) rfl (.tmp 5) (.tmp 89) rfl rfl rfl (Q3.out.fr hF7 (fun e => by have e' : w.heap.size + 3 = w.heap.size + 2 := e; omega)) ?_; intro w8 hR8 hF8))
          refine bodyPost_ret (res_cc rfl rfl ((hR7.fr hF8 (fun e => by have e' : w.heap.size + 2 = w.heap.size + 3 := e; omega)).load rtabT rfl) rfl (hR8.load toldT rfl)) rfl ?_
          exact FIN.out yC z9 w7 w8 RC cC YC.out OC.out HSX.out hF7 hF8
        · have q4 : yB.cell? ⟨w.heap.size, 2, none⟩ = some (.slice RA rn rc) := (TL.out _ YB.out).r0.at_ 2
          go_simp
          clear q4
          refine hK.out _ _ sB (fun hHeld => ?_)
          clear hK K'
          try simp only [Act.put, List.setIfInBounds_toArray, List.set_cons_zero, List.set_cons_succ]
          refine wpAnyH_ready (rs := [0]) (by kernel_rfl) (by simp) ?_
          refine AllReadyH.cons (o := { dst := some 80, op := Op.buildSlice 38 0 #[], type := 38, pos := "ref.go:98", after := #[], guard := none }) rfl (fun K' hK => ?_) AllReadyH.nil
          go_simp
          obtain ⟨yBE, hv⟩ : ∃ v, v = yB.alloc (.cells #[] 87) := ⟨_, rfl⟩
          have bV : Below yB.heap.size yB yBE := by rw [hv]; exact (Below.refl _ _).alloc (Nat.le_refl _) _
          have YBE := Lib.hid (YB.out.trans (bV.mono YB.out.size))
          have sBE := SS.out _ YBE.out
          obtain ⟨bE, hbE⟩ : ∃ b, b = yB.heap.size := ⟨_, rfl⟩
          have HBEq := Lib.hid hbE
          have OEBE : Hid (yBE.ownsRow wr.heap.size 87 3 (.slice (some ⟨bE, 0, none⟩) 0 0) 0 []) := Lib.hid (by rw [hv, hbE]; exact World.ownsRow_lit yB #[] 0 YB.out.size (Nat.zero_le _) rfl)
          have hltE : bE < yBE.heap.size := by rw [hv, hbE, World.size_alloc]; exact Nat.lt_succ_self _
          have hBE : wr.heap.size < bE := by rw [hbE]; exact HSB.out
          have HLTBE := Lib.hid (And.intro hltE hBE)
          rw [← hbE]
          clear hltE hBE
          have VBE := Lib.hid (VB.out.below bV)
          first | rw [← hv] | (rw [show (wr.alloc (.cells #[] 87)).drew = yBE from hv.symm])
          clear hv bV
          refine hK.out _ _ sBE (fun hHeld => ?_)
          clear hK K'
          try simp only [Act.put, List.setIfInBounds_toArray, List.set_cons_zero, List.set_cons_succ]
          refine wpAnyH_ready (rs := [3]) (by kernel_rfl) (by simp) ?_
          refine AllReadyH.cons (o := { dst := some 83, op := Op.call { callee := Callee.builtin Builtin.append, args := #[Operand.tmp 80, Operand.tmp 82], argTypes := #[38, 38] }, type := 38, pos := "ref.go:98", after := #[{ on := 0, ground := Ground.data }, { on := 2, ground := Ground.data }], guard := none }) rfl (fun K' hK => ?_) AllReadyH.nil
          refine step_appW (K := K) entsT rfl (.tmp 80) (.tmp 82) rfl wr.heap.size _ 0 [] rfl (by have h := OEBE.out; first | exact h | (rw [HBEq.out] at h; exact h)) RA rn rc rvs rfl (RV.out _ YBE.out) RONE.out (by omega) (by decide) YBE.out.size ?_
          intro vR yBEA hoR hgR0
          have hgR : yBE.grownBy yBEA (Value.slice (some ⟨bE, 0, none⟩) 0 0).ownBlock := by first | exact hgR0 | (rw [HBEq.out]; exact hgR0)
          clear hgR0
          rw [List.nil_append, Nat.zero_add] at hoR
          have bV := below_own OEBE.out YBE.out.size hgR
          have YBEA := Lib.hid (YBE.out.trans bV)
          have sBEA := SS.out _ YBEA.out
          have OABEA := Lib.hid hoR
          have BN := Lib.hid (show ∀ b o, some (⟨wr.heap.size, 0, none⟩ : Addr) = some ⟨b, o, none⟩ → (Value.slice (some ⟨bE, 0, none⟩) 0 0).ownBlock ≠ some b from fun b o e => by injection e with e; injection e with e1 _; have := HLTBE.out; intro e2; injection e2 with e2; have e3 : bE = b := e2; omega)
          have VBEA := Lib.hid (VRow_keep VBE.out OEBE.out hgR BN.out)
          obtain ⟨RA2, rc2, rfl, _, _⟩ := own_slv hoR
          clear hoR hgR bV
          refine hK.out _ _ sBEA (fun hHeld => ?_)
          clear hK K'
          try simp only [Act.put, List.setIfInBounds_toArray, List.set_cons_zero, List.set_cons_succ]
          refine wpAnyH_ready (rs := [6]) (by kernel_rfl) (by simp) ?_
          refine AllReadyH.cons (o := { dst := some 86, op := Op.call { callee := Callee.builtin Builtin.append, args := #[Operand.tmp 83, Operand.tmp 85], argTypes := #[38, 38] }, type := 38, pos := "ref.go:98", after := #[{ on := 3, ground := Ground.data }, { on := 5, ground := Ground.data }, { on := 3, ground := Ground.chain }], guard := none }) rfl (fun K' hK => ?_) AllReadyH.nil
          refine step_appW (K := fun _ => True) entsT rfl (.tmp 83) (.tmp 85) rfl wr.heap.size (.slice RA2 rn rc2) rn rvs rfl OABEA.out _ 1 1 _ rfl VBEA.out (fun u hu => by simp at hu; rcases hu with rfl | rfl | rfl <;> rfl) (by omega) (by decide) YBEA.out.size ?_
          intro vC yC hoC hgC
          have bV := below_own OABEA.out YBEA.out.size hgC
          have YC := Lib.hid (YBEA.out.trans bV)
          have sC := SS.out _ YC.out
          have OC := Lib.hid hoC
          obtain ⟨RC, cC, rfl, _, _⟩ := own_slv hoC
          have kC : yC.cell? ⟨w.heap.size, 2, none⟩ = some (.slice RA rn rc) := (TL.out _ YC.out).r0.at_ 2
          have fC := (TL.out _ YC.out).r0.fz 2
          clear hoC hgC bV
          refine hK.out _ _ sC (fun hHeld => ?_)
          clear hK K'
          try simp only [Act.put, List.setIfInBounds_toArray, List.set_cons_zero, List.set_cons_succ]
          refine wpAnyH_take (i := 7) (oi := { dst := some 87, op := Op.fieldAddr 40 (Operand.tmp 2) 2, type := 0, pos := "ref.go:98", after := #[{ on := 0, ground := Ground.phase }, { on := 1, ground := Ground.phase }, { on := 2, ground := Ground.phase }, { on := 3, ground := Ground.phase }, { on := 4, ground := Ground.phase }, { on := 5, ground := Ground.phase }, { on := 6, ground := Ground.phase }], guard := none }) (v := ?_) rfl (by kernel_rfl) (by kernel_rfl) (by kernel_rfl) (fun _ _ _ h => h) (Or.inl ⟨by rfl, ?_⟩) (by assumption) ?_
          rotate_left 1
          · intro w' hSw; (try dsimp only at hSw); go_simp; (try with_reducible rfl)
          simp only [Act.put, List.setIfInBounds_toArray, List.set_cons_zero, List.set_cons_succ]
          refine wpAnyH_ready (rs := [8]) (by kernel_rfl) (by simp) ?_
          refine AllReadyH.cons (o := { dst := none, op := Op.store 38 (Operand.tmp 87) (Operand.tmp 86), type := 0, pos := "ref.go:98", after := #[{ on := 7, ground := Ground.data }, { on := 6, ground := Ground.data }, { on := 6, ground := Ground.chain }, { on := 0, ground := Ground.phase }, { on := 1, ground := Ground.phase }, { on := 2, ground := Ground.phase }, { on := 3, ground := Ground.phase }, { on := 4, ground := Ground.phase }, { on := 5, ground := Ground.phase }, { on := 6, ground := Ground.phase }], guard := none }) rfl (fun K' hK => ?_) AllReadyH.nil
          have hsX : Fr (· = w.heap.size) yC (yC.setCell ⟨w.heap.size, 2, none⟩ (.slice RC (rn + 1) cC)) := Fr.setCell (own := (· = w.heap.size)) yC (p := ⟨w.heap.size, 2, none⟩) rfl _
          have sX : (yC.setCell ⟨w.heap.size, 2, none⟩ (.slice RC (rn + 1) cC)).cell? ⟨w.heap.size + 4, 0, none⟩ = some (.int .i64 xi) ∧ (yC.setCell ⟨w.heap.size, 2, none⟩ (.slice RC (rn + 1) cC)).cell? ⟨w.heap.size + 4, 1, none⟩ = some (.int .i64 xg) ∧ (yC.setCell ⟨w.heap.size, 2, none⟩ (.slice RC (rn + 1) cC)).cell? ⟨w.heap.size + 4, 2, none⟩ = some (.slice pvA kp pvc) := (fun (x : Rec 87 yC (w.heap.size + 4) #[.int .i64 xi, .int .i64 xg, .slice pvA kp pvc]) => (fun (y : Rec 87 (yC.setCell ⟨w.heap.size, 2, none⟩ (.slice RC (rn + 1) cC)) (w.heap.size + 4) #[.int .i64 xi, .int .i64 xg, .slice pvA kp pvc]) => ⟨y.at_ 0, y.at_ 1, y.at_ 2⟩) (x.fr hsX (fun e => by have e' : w.heap.size + 4 = w.heap.size := e; omega))) (RB.out _ YC.out)
          have HSX := Lib.hid hsX
          clear hsX
          go_simp
          refine hK.out _ _ sX (fun hHeld => ?_)
          clear hK K'
          try simp only [Act.put]
          refine wpAnyH_done (by kernel_rfl) ?_ _
          refine NoPanic.normal ?_
          obtain ⟨z9, hz9⟩ : ∃ z, z = yC.setCell ⟨w.heap.size, 2, none⟩ (.slice RC (rn + 1) cC) := ⟨_, rfl⟩
          rw [← hz9] at HSX ⊢
          have hR9 : Rec 40 z9 w.heap.size #[.slice CA cn cc, .slice SA sn sc, .slice RC (rn + 1) cC] := by rw [hz9]; exact (TL.out _ YC.out).r0.set 2 _
          have R9 := Lib.hid hR9
          have Q2 := Lib.hid ((TL.out _ YC.out).r2.fr HSX.out (fun e => by have e' : w.heap.size + 2 = w.heap.size := e; omega))
          have Q3 := Lib.hid ((TL.out _ YC.out).r3.fr HSX.out (fun e => by have e' : w.heap.size + 3 = w.heap.size := e; omega))
          clear hz9 hR9 sX sC kC fC
          go_wp2_with (first
            | (with_reducible refine wpList_ldS rtabT rfl rfl (.tmp 2) rfl rfl R9.out ?_)
            | (with_reducible refine wpList_stS (cs' := #[.slice CA cn cc, .slice SA sn sc, .slice RC (rn + 1) cC]) rtabT rfl rfl (by simp [Value.oneCell']) rfl (.tmp 4) (.tmp 88) rfl rfl rfl Q2.out ?_; intro w7 hR7 hF7)
            | (with_reducible refine wpList_stS (cs' := #[.slice none 0 0, .slice none 0 0, .int .i64 0, .int .i64 0, .bool false, .int .i64 0]) toldT rfl rfl (by simp [Value.oneCell']) rfl (.tmp 5) (.tmp 89) rfl rfl rfl (Q3.out.fr hF7 (fun e => by have e' : w.heap.size + 3 = w.heap.size + 2 := e; omega)) ?_; intro w8 hR8 hF8))
          refine bodyPost_ret (res_cc rfl rfl ((hR7.fr hF8 (fun e => by have e' : w.heap.size + 2 = w.heap.size + 3 := e; omega)).load rtabT rfl) rfl (hR8.load toldT rfl)) rfl ?_
          exact FIN.out yC z9 w7 w8 RC cC YC.out OC.out HSX.out hF7 hF8
-- ENDHOLEB
end
end Go.Proofs.YtnjfogeefdmlkaaDoor
