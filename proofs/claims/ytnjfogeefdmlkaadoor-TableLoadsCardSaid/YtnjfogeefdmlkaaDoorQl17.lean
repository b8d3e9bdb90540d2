/- TbL2, TbV -/
import Derived.Test.YtnjfogeefdmlkaaDoorQl16
namespace Go.Proofs.YtnjfogeefdmlkaaDoor
open Go.RowKit
set_option maxRecDepth 20000
set_option linter.unusedSimpArgs false
set_option linter.unusedVariables false

theorem EE.ok : EOk EE where
  stays := fun ⟨A, n, c, e, hu⟩ hs => ⟨A, n, c, e, hu.stays hs⟩
  mono := fun ⟨A, n, c, e, hu⟩ hk => ⟨A, n, c, e, hu.mono hk⟩
  lt := fun ⟨A, n, c, e, hu⟩ => ⟨A, n, c, e, hu.lt⟩
/-- The first k parts of row i as columns hold them. -/
def ldRow (cs : List (Int × Nat)) (cols : List (List UInt8)) (i k : Nat) : List Pt := (List.range k).map fun j => ((cs.getD j (0, 0)).1, ((cols.getD j []).drop (i * (cs.getD j (0, 0)).2)).take (cs.getD j (0, 0)).2)
/-- The first i rows. -/
def ldRows (cs : List (Int × Nat)) (ids : List (Int × Int)) (cols : List (List UInt8)) (i : Nat) : List En := (List.range i).map fun a => (ids.getD a (0, 0), ldRow cs cols a cs.length)
theorem ldRow_succ (cs : List (Int × Nat)) (cols : List (List UInt8)) (i k : Nat) : ldRow cs cols i (k + 1) = ldRow cs cols i k ++ [((cs.getD k (0, 0)).1, ((cols.getD k []).drop (i * (cs.getD k (0, 0)).2)).take (cs.getD k (0, 0)).2)] := by
  unfold ldRow
  rw [List.range_succ, List.map_append]
  rfl
theorem ldRows_succ (cs : List (Int × Nat)) (ids : List (Int × Int)) (cols : List (List UInt8)) (i : Nat) : ldRows cs ids cols (i + 1) = ldRows cs ids cols i ++ [(ids.getD i (0, 0), ldRow cs cols i cs.length)] := by
  unfold ldRows
  rw [List.range_succ, List.map_append]
  rfl
theorem ldRow_len (cs : List (Int × Nat)) (cols : List (List UInt8)) (i k : Nat) : (ldRow cs cols i k).length = k := by unfold ldRow; simp
theorem ldRows_len (cs : List (Int × Nat)) (ids : List (Int × Int)) (cols : List (List UInt8)) (i : Nat) : (ldRows cs ids cols i).length = i := by unfold ldRows; simp

/-- What Load answers. -/
def RLRes (K : Nat → Prop) (w : World) (cs : List (Int × Nat)) (ids : List (Int × Int)) (cols : List (List UInt8)) (e : Ending) (w' : World) : Prop := Below w.heap.size w w' ∧
  ((colsFit cs ids.length cols cs.length ∧ ∃ d : Rt, e = .returned (.tuple #[.agg d.cs, .int .i64 0]) ∧ RtS (fun y => K y ∨ (w.heap.size ≤ y ∧ y < w'.heap.size)) w' d ⟨cs, ldRows cs ids cols ids.length⟩) ∨
   (¬ colsFit cs ids.length cols cs.length ∧ e = .returned (.tuple #[.agg #[.slice none 0 0, .slice none 0 0, .slice none 0 0], .int .i64 11])))
section
variable (lg pg en gn : Int) (A : Option Addr) (n cap : Nat) (ks : List Kd) (w : World)
theorem Gr.turn {α : Type} {E : (Nat → Prop) → World → α → List Value → Prop} {e : TypeId} {sz : Nat} {w w' : World} {B g : Nat} {v : Value} {vs : List Value} {D : Nat → Prop} {xs : List α} (ok : EOk E) (h : Gr E e sz w B v vs D xs) (hf : Fr (· = g) w w') (hg : g < B) (hD : ¬ D g) : Gr E e sz w' B v vs D xs :=
  ⟨Nat.le_trans h.Bw hf.size, own_fr h.ow hf (fun x hx e => by have := (own_geB h.ow hx).1; have e' : x = g := e; omega),
    h.hd.imp fun _ _ hx => ok.stays hx ⟨hf.size, fun y hy => hf.block y (h.dx y hy).1 (fun e => hD ((show y = g from e) ▸ hy))⟩,
    fun x hx => ⟨Nat.lt_of_lt_of_le (h.dx x hx).1 hf.size, (h.dx x hx).2⟩⟩
set_option maxHeartbeats 4000000 in
theorem RLoad_some {K : Nat → Prop} (h : KRd w A n ks) (hn : n ≤ 1000000) (s : Nat) (hs : s < 18446744073709551616) (IA : Option Addr) (ic : Nat) (ids : List (Int × Int)) (CA : Option Addr) (cx : Nat) (cols : List (List UInt8))
    (cs : List (Int × Nat)) (hcs : cs = (Tb.new n (zsK ks) s).cs) (hi : IdsV K w IA ids.length ids) (hc : RowsV K w CA cs.length cols) (hs1 : s &&& ofL (idxs n) 64 = s) (hm : ids.length ≤ 1024) (hcap : ∀ k uA un uc b o, CA = some ⟨b, o, none⟩ → k < cs.length → w.cell? ⟨b, o + k, none⟩ = some (.slice uA un uc) → un ≤ uc ∧ uc ≤ maxLen) (hlen : ∀ j, j < cs.length → (cols.getD j []).length ≤ 1000000000) :
    Calls Tryd.prog 8 #[cv lg pg en gn A n cap, .int .u64 (s : Nat), .slice IA ids.length ic, .slice CA cs.length cx] w (RLRes K w cs ids cols) := by
  obtain ⟨w1, hw1⟩ : ∃ w1, w1 = (w.alloc (.cells (cc lg pg en gn A n cap) 24)).alloc (.cells #[.slice none 0 0, .slice none 0 0, .slice none 0 0] 40) := ⟨_, rfl⟩
  have hb1 : Below w.heap.size w w1 := by rw [hw1]; exact ((Below.refl _ _).alloc (Nat.le_refl _) _).alloc (by simp) _
  have HR1 := Lib.hid (show Rec 24 w1 w.heap.size (cc lg pg en gn A n cap) by rw [hw1]; exact (Rec.new _ _ _).under ((Below.refl _ _).alloc (Nat.le_refl _) _))
  have HZ1 := Lib.hid (show Rec 40 w1 (w.heap.size + 1) zT by
    have := Rec.new (w.alloc (.cells (cc lg pg en gn A n cap) 24)) 40 zT
    rw [World.size_alloc] at this
    rw [hw1]
    exact this)
  have hnew := Tb.new_ok n (zsK ks) s
  have CN := RTNew_nil lg pg en gn A n cap ks w1 (h.below hb1) hn s hs
  have hof : ofL (cs.map (·.1)) 64 = s := by
    have e := new_cs n (zsK ks) s
    have := ofL_listZ (and_lt64 s (ofL (idxs n) 64) hs)
    rw [e, hs1] at this
    rw [hcs]
    exact this
  have hnil : Tb.new n (zsK ks) s = ⟨cs, []⟩ := by rw [hcs]; rfl
  rw [hnil] at CN hnew
  have hcn64 : cs.length ≤ 64 := hnew.cn
  have hz64 : ∀ j, j < cs.length → (cs.getD j (0, 0)).2 ≤ 64 := fun j hj => by
    rw [getD_at hj]
    exact hnew.z _ (List.getElem_mem hj)
  have CN := Lib.hid CN
  have HB1 := Lib.hid hb1
  have HOF := Lib.hid hof
  have HZ := Lib.hid hz64
  have HI := Lib.hid hi
  have HC := Lib.hid hc
  have HLEN := Lib.hid hlen
  have HCAP := Lib.hid hcap
  have hsz : w1.heap.size = w.heap.size + 2 := by rw [hw1]; simp
  have HSZ := Lib.hid hsz
  clear h hb1 hof hs hsz hcs hs1 hi hc hnil hnew hz64 hlen hcap
  obtain ⟨nc, hnc⟩ : ∃ nc, nc = cs.length := ⟨_, rfl⟩
  obtain ⟨m, hml⟩ : ∃ m, m = ids.length := ⟨_, rfl⟩
  rw [← hnc] at hcn64
  rw [← hml] at hm
  rw [show Calls Tryd.prog 8 #[cv lg pg en gn A n cap, .int .u64 (s : Nat), .slice IA ids.length ic, .slice CA cs.length cx] w (RLRes K w cs ids cols) = Calls Tryd.prog 8 #[cv lg pg en gn A n cap, .int .u64 (s : Nat), .slice IA m ic, .slice CA nc cx] w (RLRes K w cs ids cols) by rw [hnc, hml]]
  have HNC := Lib.hid hnc
  have HML := Lib.hid hml
  clear hnc hml
  have d1 : ¬ ((1024 : Int) < (m : Int)) := by omega
  have d2 : ¬ (1024 < m) := by omega
  go_enter Tryd.func8, Tryd.ntmps8
  go_wp2_with (first
    | (rw [← hw1]; clear hw1)
    | (with_reducible refine wpList_ldS confT rfl rfl (.tmp 4) rfl rfl HR1.out ?_)
    | (go_at_call 29; refine CN.out.mono ?_; rintro e w2 ⟨d, rfl, hR, hb2, hdA, hdc⟩; have HDA := Lib.hid (And.intro hdA hdc); clear hdA hdc; have hcn := hR.cn; rw [← HNC.out] at hcn; have HRd := Lib.hid hR; have HB2 := Lib.hid hb2; clear hR hb2; obtain ⟨w3, hw3⟩ : ∃ w3, w3 = w2.alloc (.cells #[.slice none 0 0, .slice none 0 0, .slice none 0 0] 40) := ⟨_, rfl⟩; have HW3 := Lib.hid hw3; have HR3 := Lib.hid (show Rec 40 w3 w2.heap.size zT from (by rw [hw3]; exact Rec.new _ _ _)); have HB3 := Lib.hid (show Below w2.heap.size w2 w3 from (by rw [hw3]; exact (Below.refl _ _).alloc (Nat.le_refl _) _)); have HCN := Lib.hid hcn; clear hw3 hcn)
    | (rw [← HW3.out]; clear HW3)
    | ((with_reducible refine wpList_stZ d rfl (.tmp 10) (.tmp 18) rfl rfl rfl HR3.out ?_); intro w4 hR4 hF4; have HB4 := Lib.hid (HB3.out.trans (hF4.toBelow (fun x hx => (by rw [show x = w2.heap.size from hx]; exact Nat.le_refl _)) HB3.out.size)); have c0 : w4.cell? ⟨w2.heap.size, 0, none⟩ = some (.slice d.CA nc d.cc) := (by rw [← HCN.out]; exact hR4.at_ 0); have HR4 := Lib.hid hR4; have HZ4 := Lib.hid (HZ1.out.under (HB2.out.trans (HB4.out.mono HB2.out.size))); have hrf := ROf_any d.CA nc d.cc (cs.map (·.1)) w4 (by have := IntsV.ird (HRd.out.below HB4.out).c; rw [HCN.out] at this; exact this) (by omega); rw [HOF.out] at hrf; have HRf := Lib.hid hrf; clear hrf hR4 hF4)
    | (go_at_call 30; refine HRf.out.mono ?_; rintro e w' ⟨rfl, rfl⟩))
  have hb4 : Below w.heap.size w w4 := HB1.out.trans ((HB2.out.trans (HB4.out.mono HB2.out.size)).mono HB1.out.size)
  have hR4d := HRd.out.below HB4.out
  have hsn : d.sn = nc := by have := HRd.out.sn; rw [HNC.out]; exact this
  have hrn0 : d.rn = 0 := HRd.out.rn
  obtain ⟨hdA, hdc⟩ := HDA.out
  obtain ⟨dCA, dcn, dcc, dSA, dsn, dsc, dRA, drn, drc⟩ := d
  simp only at hsn hrn0 c0 hdA hdc
  have hdcn : dcn = nc := HCN.out
  subst hsn hrn0 hdcn hdA hdc
  have HR4' := Lib.hid hR4d
  have HB4w := Lib.hid hb4
  clear hR4d hb4 c0 HRf CN HR1 HZ1 HR3
  go_loopw [11] (fun iv wr => ∃ k : Nat, k ≤ dcn ∧ iv = .int .i64 k ∧ Below w4.heap.size w4 wr ∧ ∀ i, i < k → (cols.getD i []).length = m * (cs.getD i (0, 0)).2) (fun iv _ => dcn - (intOf iv).toNat)
  case atStart => exact ⟨0, Nat.zero_le _, rfl, Below.refl _ _, fun i hi => absurd hi (Nat.not_lt_zero i)⟩
  case round =>
    obtain ⟨k, hk, rfl, hB, hfit⟩ := hrel
    by_cases hkn : k < dcn
    · have hkc : k < cs.length := by rw [← HNC.out]; exact hkn
      obtain ⟨cb, co, u, hCA, hcb, hcu, hV⟩ := HC.out.at_ hkc
      obtain ⟨uA, un, uc, rfl, hRd, _⟩ := hV
      have hul : (cols.getD k []).length = un := hRd.1
      obtain ⟨sb, so, hSA, hsb, hsc⟩ := HR4'.out.s.at_ hkn
      rw [show (0 : Int) = ((((0 : Int), (0 : Nat)).2 : Nat) : Int) from rfl, getD_map (fun c : Int × Nat => (c.2 : Int)) cs k (0, 0) hkc] at hsc
      have hz := HZ.out k hkc
      have hul9 := HLEN.out k hkc
      simp only at hSA
      subst hCA hSA
      obtain ⟨z, hzz⟩ : ∃ z, z = (cs.getD k (0, 0)).2 := ⟨_, rfl⟩
      rw [← hzz] at hsc hz
      have hBw := HB4w.out.trans (hB.mono HB4w.out.size)
      have kc := (hBw.cell (p := ⟨cb, co + k, none⟩) hcb).trans hcu
      have ks := (hB.cell (p := ⟨sb, so + k, none⟩) hsb).trans hsc
      have k1 : wr.cell? ⟨w2.heap.size, 1, none⟩ = some (.slice (some ⟨sb, so, none⟩) dcn dsc) := (HR4.out.under hB).at_ 1
      obtain ⟨P, hP⟩ : ∃ P, P = m * z := ⟨_, rfl⟩
      have hP64 : P ≤ 65536 := by
        have h1 := Nat.mul_le_mul hm hz
        rw [hP]
        omega
      have hPi : (m : Int) * (z : Int) = (P : Int) := by rw [hP]; exact (Int.natCast_mul m z).symm
      have HFIT := Lib.hid hfit
      have HB := Lib.hid hB
      have HP := Lib.hid hP
      have HZZ := Lib.hid hzz
      have HUL := Lib.hid hul
      rw [hul] at hul9
      clear hfit hB hP hcu hsc hRd hBw hul hzz
      by_cases hu : un = P
      · subst hu
        go_wp2
        go_quiet (fail)
        go_wp2_with fail
        go_roundw
        case rel =>
          refine ⟨k + 1, hkn, by go_num, HB.out.trans (below_drewN (Below.refl _ _) _), fun i hi => ?_⟩
          by_cases e : i = k
          · subst e
            rw [HUL.out, ← HZZ.out]
            exact HP.out
          · exact HFIT.out i (by omega)
        case measure => simp [intOf]; omega
      · have d5 : decide ((un : Int) = (P : Int)) = false := decide_eq_false (by omega)
        have d6 : ((un : Int) != (P : Int)) = true := bne_iff_ne.2 (by omega)
        go_wp2
        go_quiet (fail)
        obtain ⟨wy, hwy⟩ : ∃ wy, wy = wr.drewN nq := ⟨_, rfl⟩
        have hBy : Below wr.heap.size wr wy := by rw [hwy]; exact below_drewN (Below.refl _ _) nq
        rw [← hwy]
        clear hwy
        have hBz := HB.out.trans (hBy.mono HB.out.size)
        have HBZ := Lib.hid hBz
        have HZy := Lib.hid (HZ4.out.under hBz)
        clear hBy hBz
        go_wp2_with ((with_reducible refine wpList_stS (cs' := #[.slice none 0 0, .slice none 0 0, .slice none 0 0]) rtabT rfl rfl (by simp [Value.oneCell']) rfl (.tmp 8) (.tmp 58) rfl rfl rfl HZy.out ?_); intro w5 hR5 hF5)
        refine bodyPost_ret (res_ct rfl rfl (hR5.load rtabT rfl)) rfl ?_
        have hb5 := HB4w.out.trans (HBZ.out.mono HB4w.out.size)
        refine ⟨hb5.trans (hF5.toBelow (fun x hx => by rw [show x = w.heap.size + 1 from hx]; omega) hb5.size), .inr ⟨fun hf => ?_, rfl⟩⟩
        have := hf k hkc
        rw [HUL.out, ← HZZ.out, ← HML.out, ← HP.out] at this
        exact hu this
    · have hkd : dcn = k := by omega
      subst hkd
      obtain ⟨wl, hwl⟩ : ∃ v, v = wr := ⟨_, rfl⟩
      subst hwl
      have HFIT := Lib.hid hfit
      have HB := Lib.hid hB
      have hR5 := HR4.out.under hB
      have hg5 := hR5.lt
      have hRt5 := HR4'.out.below hB
      have HBW := Lib.hid (HB4w.out.trans (hB.mono HB4w.out.size))
      obtain ⟨g, hg⟩ : ∃ g, g = w2.heap.size := ⟨_, rfl⟩
      rw [← hg] at hR5 hg5 ⊢
      have hgw : w1.heap.size ≤ g := by rw [hg]; exact HB2.out.size
      have HGW := Lib.hid hgw
      have HW1S := HSZ
      have HGE := Lib.hid (show g = w2.heap.size from hg)
      obtain ⟨B, hBB⟩ : ∃ B, B = wl.heap.size := ⟨_, rfl⟩
      rw [← hBB] at hg5
      have HG0 : Gr EE 87 3 wl B (.slice none 0 0) [] (fun _ => False) (ldRows cs ids cols 0) := Gr.start (World.ownsRow_nil _ _ _ _) (Nat.le_of_eq hBB)
      have HG0 := Lib.hid HG0
      have HR5 := Lib.hid hR5
      have HRT5 := Lib.hid hRt5
      have HBB := Lib.hid hBB
      have HGB := Lib.hid hg5
      clear hfit hB hR5 hRt5 hg hBB HR4 HR4'
      go_wp2_with fail
      go_loopw [12] (fun iv wo => ∃ (i : Nat) (rv : Value) (vs : List Value) (D : Nat → Prop), i ≤ m ∧ iv = .int .i64 i ∧ Gr EE 87 3 wo B rv vs D (ldRows cs ids cols i) ∧ Rec 40 wo g #[.slice dCA dcn dcc, .slice dSA dcn dsc, rv] ∧ (∀ y, D y → (K y ∧ y < w.heap.size) ∨ B ≤ y) ∧ Fr (fun y => y = g ∨ B ≤ y) wl wo) (fun iv _ => m - (intOf iv).toNat)
      case atStart => exact ⟨0, _, [], _, Nat.zero_le _, rfl, HG0.out, HR5.out, fun _ h => h.elim, Fr.refl _ _⟩
      case round =>
        obtain ⟨i, rv, vs, D, him, rfl, hG, hRo, hD, hF⟩ := hrel
        obtain ⟨wo, hwo⟩ : ∃ v, v = wr := ⟨_, rfl⟩
        subst hwo
        by_cases hin : i < m
        · have hil : i < ids.length := by rw [← HML.out]; exact hin
          obtain ⟨x, hx⟩ : ∃ x, x = ids.getD i (0, 0) := ⟨_, rfl⟩
          have hxg : ids[i]? = some x := by rw [hx, List.getD_eq_getElem?_getD, List.getElem?_eq_getElem hil]; rfl
          obtain ⟨ib, io, hIA, hib, q0, q1⟩ := HI.out.cell hxg
          have hgl := HR5.out.lt
          have hbo : Below w.heap.size w wo := HBW.out.trans (hF.toBelow (fun y hy => by have h1 := HBB.out; have h2 := HBW.out.size; have h3 := HGW.out; have h4 := HW1S.out; rcases hy with h | h <;> omega) HBW.out.size)
          have k0 := (hbo.cell (p := ⟨ib, io + i * 2, none⟩) hib).trans q0
          have k1 := (hbo.cell (p := ⟨ib, io + i * 2 + 1, none⟩) hib).trans q1
          subst hIA
          obtain ⟨ia, ig⟩ := x
          simp only at k0 k1
          obtain ⟨w6, hw6⟩ : ∃ w6, w6 = wo.alloc (.cells #[.int .i64 0, .int .i64 0, .slice none 0 0] 87) := ⟨_, rfl⟩
          have HB6 := Lib.hid (show Below wo.heap.size wo w6 by rw [hw6]; exact (Below.refl _ _).alloc (Nat.le_refl _) _)
          have HR6 := Lib.hid (show Rec 87 w6 wo.heap.size #[.int .i64 0, .int .i64 0, nilv] by rw [hw6]; exact Rec.new _ _ _)
          have HS6 := Lib.hid (show w6.heap.size = wo.heap.size + 1 by rw [hw6]; simp)
          have HW6 := Lib.hid hw6
          have HX := Lib.hid hx
          have HG := Lib.hid hG
          have HRO := Lib.hid hRo
          have HD := Lib.hid hD
          have HF := Lib.hid hF
          have HBO := Lib.hid hbo
          clear hw6 hx hxg q0 q1 hG hRo hD hF hbo hgl
          go_wp2_with (first
            | (rw [← HW6.out]; clear HW6)
            | ((with_reducible refine wpList_stS (cs' := #[.int .i64 ia, .int .i64 ig, .slice none 0 0]) entT rfl rfl (by simp [Value.oneCell']) rfl (.tmp 13) (.tmp 69) rfl rfl rfl HR6.out ?_); intro w7 hR7 hF7))
          have hB7 : Below wo.heap.size wo w7 := HB6.out.trans (hF7.toBelow (fun y hy => by rw [show y = wo.heap.size from hy]; exact Nat.le_refl _) HB6.out.size)
          have hs7 := hF7.size
          obtain ⟨B', hB'⟩ : ∃ B', B' = w7.heap.size := ⟨_, rfl⟩
          have hrB' : wo.heap.size < B' := by have := HS6.out; omega
          have A7 : AddI w w7 B' wo.heap.size ia ig (.slice none 0 0) [] (fun _ => False) (ldRow cs cols i 0) := ⟨Nat.le_of_eq hB', hrB', hR7, World.ownsRow_nil _ _ _ _, HdL.nil _ _, fun _ hx => hx.elim⟩
          have HA7 := Lib.hid A7
          have HB7 := Lib.hid hB7
          have HB' := Lib.hid hB'
          clear A7 hB7 hB' hR7 hF7 hs7 k0 k1 HR6 HB6
          go_loopw [14] (fun kv wq => ∃ (k : Nat) (pv : Value) (ps : List Value) (D' : Nat → Prop), k ≤ dcn ∧ kv = .int .i64 k ∧ AddI w wq B' wo.heap.size ia ig pv ps D' (ldRow cs cols i k) ∧ Fr (fun y => y = wo.heap.size ∨ B' ≤ y) w7 wq ∧ (∀ y, D' y → K y ∧ y < w.heap.size)) (fun kv _ => dcn - (intOf kv).toNat)
          case atStart => exact ⟨0, _, [], _, Nat.zero_le _, rfl, HA7.out, Fr.refl _ _, fun _ h => h.elim⟩
          case round =>
            obtain ⟨k, pv, ps, D', hk, rfl, hA, hFq, hD'⟩ := hrel
            have hbq : Below wo.heap.size wo wr := HB7.out.trans (hFq.toBelow (fun y hy => by rcases hy with h | h <;> omega) HB7.out.size)
            have hRq := HRO.out.under hbq
            by_cases hkn : k < dcn
            · have hkc : k < cs.length := by rw [← HNC.out]; exact hkn
              obtain ⟨cb, co, u, hCA, hcb, hcu, hV⟩ := HC.out.at_ hkc
              have hV0 := hV.lt
              obtain ⟨uA, un, uc, rfl, hRd, _⟩ := hV
              have hul : (cols.getD k []).length = un := hRd.1
              have hfu := HFIT.out k hkn
              obtain ⟨huc, hum⟩ := HCAP.out k uA un uc cb co hCA hkc hcu
              have hst : WStays (fun x => w1.heap.size ≤ x ∧ x < g) wl wo := ⟨HF.out.size, fun x hx => HF.out.block x (by have := HBB.out; have := HGB.out; omega) (fun e => by have := HGB.out; rcases e with e | e <;> omega)⟩
              obtain ⟨sb, so, hSA, hsb, hsc⟩ := ((HRT5.out.s.mono (K' := fun x => w1.heap.size ≤ x ∧ x < g) (fun x hx => by have := HGE.out; omega)).stays hst).at_ hkn
              obtain ⟨ab, ao, hAA, hab, hac⟩ := ((HRT5.out.c.mono (K' := fun x => w1.heap.size ≤ x ∧ x < g) (fun x hx => by have := HGE.out; omega)).stays hst).at_ hkn
              rw [show (0 : Int) = ((((0 : Int), (0 : Nat)).2 : Nat) : Int) from rfl, getD_map (fun c : Int × Nat => (c.2 : Int)) cs k (0, 0) hkc] at hsc
              rw [getD_map (·.1) cs k (0, 0) hkc] at hac
              have hz := HZ.out k hkc
              simp only at hSA hAA
              subst hCA hSA hAA
              obtain ⟨c, hcc⟩ : ∃ c, c = cs.getD k (0, 0) := ⟨_, rfl⟩
              rw [← hcc] at hsc hac hz hfu
              obtain ⟨ci, z⟩ := c
              simp only at hsc hac hz hfu
              have hcw := (HBO.out.cell (p := ⟨cb, co + k, none⟩) hcb).trans hcu
              have hcbo := Nat.lt_of_lt_of_le hcb HBO.out.size
              have hgo := HRO.out.lt
              obtain ⟨Q, hQ⟩ : ∃ Q, Q = i * z := ⟨_, rfl⟩
              have hQz : Q + z ≤ un := by
                have h1 := Nat.mul_le_mul_right z (show i + 1 ≤ m from hin)
                rw [Nat.succ_mul] at h1
                rw [hQ]
                omega
              have hu64 : un ≤ 65536 := by
                have h1 := Nat.mul_le_mul hm hz
                omega
              have hQi : (i : Int) * (z : Int) = (Q : Int) := by rw [hQ]; exact (Int.natCast_mul i z).symm
              obtain ⟨pA, pc, e1, _, _⟩ := own_slv hA.ow
              rw [ldRow_len] at e1
              subst e1
              obtain ⟨dA, hdA⟩ : ∃ dA, dA = if uc = Q then uA else uA.map fun x => x.add Q := ⟨_, rfl⟩
              obtain ⟨dc, hdc⟩ : ∃ dc, dc = uc - Q := ⟨_, rfl⟩
              have LW : ∀ W, Fr (fun y => y = wo.heap.size ∨ B' ≤ y) w7 W → Below wo.heap.size wo W := fun W hW => HB7.out.trans (hW.toBelow (fun y hy => by rcases hy with h | h <;> omega) HB7.out.size)
              have LS0 : ∀ W, Fr (fun y => y = wo.heap.size ∨ B' ≤ y) w7 W → W.cell? ⟨g, 0, none⟩ = some (.slice (some ⟨ab, ao, none⟩) dcn dcc) ∧ W.cell? ⟨ab, ao + k, none⟩ = some (.int .i64 ci) ∧ W.cell? ⟨cb, co + k, none⟩ = some (.slice uA un uc) := fun W hW => by
                have l := LW W hW
                exact ⟨(HRO.out.under l).at_ 0, (l.cell (p := ⟨ab, ao + k, none⟩) hab).trans hac, (l.cell (p := ⟨cb, co + k, none⟩) hcbo).trans hcw⟩
              have g1 : wr.cell? ⟨g, 1, none⟩ = some (.slice (some ⟨sb, so, none⟩) dcn dsc) := hRq.at_ 1
              have ksz := (hbq.cell (p := ⟨sb, so + k, none⟩) hsb).trans hsc
              have hbw : Below w.heap.size w wr := HBO.out.trans (hbq.mono HBO.out.size)
              have HU : Hid (VB (fun y => K y ∧ y < w.heap.size) wr (.slice dA z dc) (((cols.getD k []).drop (i * z)).take z)) := Lib.hid (by
                obtain ⟨A9, n9, c9, e9, hr9, hk9⟩ := hV0.below hbw
                injection e9 with e91 e92 e93
                rw [← e91, ← e92] at hr9
                rw [← e91, ← e92] at hk9
                refine ⟨dA, z, dc, rfl, ?_, fun q o e hp => ?_⟩
                · rw [← hQ]
                  exact hr9.part hQz dA (fun hz0 b o e => by rw [hdA, e, if_neg (by omega)]; simp [Addr.add_lit])
                · obtain ⟨b', o', e', _⟩ := hr9.2 (by omega)
                  have e2 : dA = some ⟨b', o' + Q, none⟩ := by rw [hdA, e', if_neg (by omega)]; simp [Addr.add_lit]
                  rw [e2] at e
                  injection e with e
                  injection e with e1 _
                  subst e1
                  exact hk9 b' o' e' (by omega))
              have HEX : Hid (∀ x, (K x ∧ x < w.heap.size) → x ≠ wo.heap.size ∧ (Value.slice pA k pc).ownBlock ≠ some x) := Lib.hid (fun x hx => ⟨by have := HBO.out.size; omega, fun e => by have := own_ge hA.ow e; have := HBO.out.size; omega⟩)
              have JR := Lib.hid hA
              have JRd := Lib.hid (hA.below (Below.refl _ _).drew)
              have FR := Lib.hid hFq
              have LS := Lib.hid LS0
              have s17d := LS0 wr.drew (hFq.trans (Fr.drew _ _))
              have HCC := Lib.hid hcc
              have HDA := Lib.hid hdA
              have HDC := Lib.hid hdc
              have HD' := Lib.hid hD'
              have HQ := Lib.hid hQ
              clear hA hFq LS0 LW hV0 hRd hul hfu hst hcc hcw hQ hdA hdc hD' hsc hac hcu hbw hRq hbq
              have hw1 : IntKind.i64.wrap (Q : Int) = (Q : Int) := by rw [IntKind.wrap_i64]; omega
              have hw2 : IntKind.i64.wrap ((Q : Int) + (z : Int)) = (Q : Int) + (z : Int) := by rw [IntKind.wrap_i64]; omega
              have hq1 : (0 : Int) ≤ (Q : Int) + (z : Int) ∧ (Q : Int) + (z : Int) ≤ (uc : Int) := by omega
              have hq2 : (0 : Int) ≤ (Q : Int) ∧ (Q : Int) ≤ max ((Q : Int) + (z : Int)) 0 := by omega
              have hq4 : (Q : Int) ≤ (Q : Int) + (z : Int) := by omega
              have hq3 : ((Q : Int) + (z : Int)).toNat - Q = z := by omega
              go_wp2_with fail
              refine wp_region_noPanic ?_
              refine wp_region_held_drew (S := fun W => W.cell? ⟨g, 0, none⟩ = some (.slice (some ⟨ab, ao, none⟩) dcn dcc) ∧ W.cell? ⟨ab, ao + k, none⟩ = some (.int .i64 ci) ∧ W.cell? ⟨cb, co + k, none⟩ = some (.slice uA un uc)) (by kernel_rfl) s17d (fun hHeld => ?_)
              refine wpAnyH_take (i := 0) (oi := { dst := some 81, op := Op.fieldAddr 87 (Operand.tmp 13) 1, type := 0, pos := "ref.go:54", after := #[], guard := none }) (v := ?_) rfl (by kernel_rfl) (by kernel_rfl) (by kernel_rfl) (fun _ _ _ h => h) (Or.inl ⟨by rfl, ?_⟩) (by assumption) ?_
              rotate_left 1
              · intro w' hSw; (try dsimp only at hSw); go_simp; (try with_reducible rfl)
              simp only [Act.put, List.setIfInBounds_toArray, List.set_cons_zero, List.set_cons_succ]
              refine wpAnyH_take (i := 2) (oi := { dst := some 83, op := Op.fieldAddr 40 (Operand.tmp 10) 0, type := 0, pos := "ref.go:54", after := #[], guard := none }) (v := ?_) rfl (by kernel_rfl) (by kernel_rfl) (by kernel_rfl) (fun _ _ _ h => h) (Or.inl ⟨by rfl, ?_⟩) (by assumption) ?_
              rotate_left 1
              · intro w' hSw; (try dsimp only at hSw); go_simp; (try with_reducible rfl)
              simp only [Act.put, List.setIfInBounds_toArray, List.set_cons_zero, List.set_cons_succ]
              refine wpAnyH_take (i := 3) (oi := { dst := some 84, op := Op.load 37 (Operand.tmp 83), type := 37, pos := "ref.go:54", after := #[{ on := 2, ground := Ground.data }], guard := none }) (v := ?_) rfl (by kernel_rfl) (by kernel_rfl) (by kernel_rfl) (fun _ _ _ h => h) (Or.inl ⟨by rfl, ?_⟩) (by assumption) ?_
              rotate_left 1
              · intro w' hSw; (try dsimp only at hSw); go_simp; (try with_reducible rfl)
              simp only [Act.put, List.setIfInBounds_toArray, List.set_cons_zero, List.set_cons_succ]
              refine wpAnyH_take (i := 4) (oi := { dst := some 85, op := Op.move (Operand.tmp 14), type := 3, pos := "ref.go:54", after := #[], guard := none }) (v := ?_) rfl (by kernel_rfl) (by kernel_rfl) (by kernel_rfl) (fun _ _ _ h => h) (Or.inl ⟨by rfl, ?_⟩) (by assumption) ?_
              rotate_left 1
              · intro w' hSw; (try dsimp only at hSw); go_simp; (try with_reducible rfl)
              simp only [Act.put, List.setIfInBounds_toArray, List.set_cons_zero, List.set_cons_succ]
              refine wpAnyH_take (i := 5) (oi := { dst := some 86, op := Op.indexAddr 37 (Operand.tmp 84) (Operand.tmp 85), type := 0, pos := "ref.go:54", after := #[{ on := 3, ground := Ground.data }, { on := 4, ground := Ground.data }], guard := none }) (v := ?_) rfl (by kernel_rfl) (by kernel_rfl) (by kernel_rfl) (fun _ _ _ h => h) (Or.inl ⟨by rfl, ?_⟩) (by assumption) ?_
              rotate_left 1
              · intro w' hSw; (try dsimp only at hSw); go_simp; (try with_reducible rfl)
              simp only [Act.put, List.setIfInBounds_toArray, List.set_cons_zero, List.set_cons_succ]
              refine wpAnyH_take (i := 6) (oi := { dst := some 87, op := Op.load 3 (Operand.tmp 86), type := 3, pos := "ref.go:54", after := #[{ on := 5, ground := Ground.data }], guard := none }) (v := ?_) rfl (by kernel_rfl) (by kernel_rfl) (by kernel_rfl) (fun _ _ _ h => h) (Or.inl ⟨by rfl, ?_⟩) (by assumption) ?_
              rotate_left 1
              · intro w' hSw; (try dsimp only at hSw); go_simp; (try with_reducible rfl)
              simp only [Act.put, List.setIfInBounds_toArray, List.set_cons_zero, List.set_cons_succ]
              refine wpAnyH_take (i := 7) (oi := { dst := some 88, op := Op.move (Operand.tmp 3), type := 27, pos := "ref.go:54", after := #[], guard := none }) (v := ?_) rfl (by kernel_rfl) (by kernel_rfl) (by kernel_rfl) (fun _ _ _ h => h) (Or.inl ⟨by rfl, ?_⟩) (by assumption) ?_
              rotate_left 1
              · intro w' hSw; (try dsimp only at hSw); go_simp; (try with_reducible rfl)
              simp only [Act.put, List.setIfInBounds_toArray, List.set_cons_zero, List.set_cons_succ]
              refine wpAnyH_take (i := 8) (oi := { dst := some 89, op := Op.move (Operand.tmp 14), type := 3, pos := "ref.go:54", after := #[], guard := none }) (v := ?_) rfl (by kernel_rfl) (by kernel_rfl) (by kernel_rfl) (fun _ _ _ h => h) (Or.inl ⟨by rfl, ?_⟩) (by assumption) ?_
              rotate_left 1
              · intro w' hSw; (try dsimp only at hSw); go_simp; (try with_reducible rfl)
              simp only [Act.put, List.setIfInBounds_toArray, List.set_cons_zero, List.set_cons_succ]
              refine wpAnyH_take (i := 9) (oi := { dst := some 90, op := Op.indexAddr 27 (Operand.tmp 88) (Operand.tmp 89), type := 0, pos := "ref.go:54", after := #[{ on := 7, ground := Ground.data }, { on := 8, ground := Ground.data }], guard := none }) (v := ?_) rfl (by kernel_rfl) (by kernel_rfl) (by kernel_rfl) (fun _ _ _ h => h) (Or.inl ⟨by rfl, ?_⟩) (by assumption) ?_
              rotate_left 1
              · intro w' hSw; (try dsimp only at hSw); go_simp; (try with_reducible rfl)
              simp only [Act.put, List.setIfInBounds_toArray, List.set_cons_zero, List.set_cons_succ]
              refine wpAnyH_take (i := 10) (oi := { dst := some 91, op := Op.load 32 (Operand.tmp 90), type := 32, pos := "ref.go:54", after := #[{ on := 9, ground := Ground.data }], guard := none }) (v := ?_) rfl (by kernel_rfl) (by kernel_rfl) (by kernel_rfl) (fun _ _ _ h => h) (Or.inl ⟨by rfl, ?_⟩) (by assumption) ?_
              rotate_left 1
              · intro w' hSw; (try dsimp only at hSw); go_simp; (try with_reducible rfl)
              simp only [Act.put, List.setIfInBounds_toArray, List.set_cons_zero, List.set_cons_succ]
              refine wpAnyH_take (i := 11) (oi := { dst := some 92, op := Op.move (Operand.tmp 12), type := 3, pos := "ref.go:54", after := #[], guard := none }) (v := ?_) rfl (by kernel_rfl) (by kernel_rfl) (by kernel_rfl) (fun _ _ _ h => h) (Or.inl ⟨by rfl, ?_⟩) (by assumption) ?_
              rotate_left 1
              · intro w' hSw; (try dsimp only at hSw); go_simp; (try with_reducible rfl)
              simp only [Act.put, List.setIfInBounds_toArray, List.set_cons_zero, List.set_cons_succ]
              refine wpAnyH_take (i := 12) (oi := { dst := some 93, op := Op.move (Operand.tmp 15), type := 3, pos := "ref.go:54", after := #[], guard := none }) (v := ?_) rfl (by kernel_rfl) (by kernel_rfl) (by kernel_rfl) (fun _ _ _ h => h) (Or.inl ⟨by rfl, ?_⟩) (by assumption) ?_
              rotate_left 1
              · intro w' hSw; (try dsimp only at hSw); go_simp; (try with_reducible rfl)
              simp only [Act.put, List.setIfInBounds_toArray, List.set_cons_zero, List.set_cons_succ]
              refine wpAnyH_take (i := 13) (oi := { dst := some 94, op := Op.binOp BinOp.mul 3 (Operand.tmp 92) (Operand.tmp 93) 3, type := 3, pos := "ref.go:54", after := #[{ on := 11, ground := Ground.data }, { on := 12, ground := Ground.data }], guard := none }) (v := ?_) rfl (by kernel_rfl) (by kernel_rfl) (by kernel_rfl) (fun _ _ _ h => h) (Or.inl ⟨by rfl, ?_⟩) (by assumption) ?_
              rotate_left 1
              · intro w' hSw; (try dsimp only at hSw); go_simp; (try with_reducible rfl)
              simp only [Act.put, List.setIfInBounds_toArray, List.set_cons_zero, List.set_cons_succ]
              refine wpAnyH_take (i := 14) (oi := { dst := some 95, op := Op.move (Operand.tmp 12), type := 3, pos := "ref.go:54", after := #[], guard := none }) (v := ?_) rfl (by kernel_rfl) (by kernel_rfl) (by kernel_rfl) (fun _ _ _ h => h) (Or.inl ⟨by rfl, ?_⟩) (by assumption) ?_
              rotate_left 1
              · intro w' hSw; (try dsimp only at hSw); go_simp; (try with_reducible rfl)
              simp only [Act.put, List.setIfInBounds_toArray, List.set_cons_zero, List.set_cons_succ]
              refine wpAnyH_take (i := 15) (oi := { dst := some 96, op := Op.move (Operand.tmp 15), type := 3, pos := "ref.go:54", after := #[], guard := none }) (v := ?_) rfl (by kernel_rfl) (by kernel_rfl) (by kernel_rfl) (fun _ _ _ h => h) (Or.inl ⟨by rfl, ?_⟩) (by assumption) ?_
              rotate_left 1
              · intro w' hSw; (try dsimp only at hSw); go_simp; (try with_reducible rfl)
              simp only [Act.put, List.setIfInBounds_toArray, List.set_cons_zero, List.set_cons_succ]
              refine wpAnyH_take (i := 16) (oi := { dst := some 97, op := Op.binOp BinOp.mul 3 (Operand.tmp 95) (Operand.tmp 96) 3, type := 3, pos := "ref.go:54", after := #[{ on := 14, ground := Ground.data }, { on := 15, ground := Ground.data }], guard := none }) (v := ?_) rfl (by kernel_rfl) (by kernel_rfl) (by kernel_rfl) (fun _ _ _ h => h) (Or.inl ⟨by rfl, ?_⟩) (by assumption) ?_
              rotate_left 1
              · intro w' hSw; (try dsimp only at hSw); go_simp; (try with_reducible rfl)
              simp only [Act.put, List.setIfInBounds_toArray, List.set_cons_zero, List.set_cons_succ]
              refine wpAnyH_take (i := 17) (oi := { dst := some 98, op := Op.move (Operand.tmp 15), type := 3, pos := "ref.go:54", after := #[], guard := none }) (v := ?_) rfl (by kernel_rfl) (by kernel_rfl) (by kernel_rfl) (fun _ _ _ h => h) (Or.inl ⟨by rfl, ?_⟩) (by assumption) ?_
              rotate_left 1
              · intro w' hSw; (try dsimp only at hSw); go_simp; (try with_reducible rfl)
              simp only [Act.put, List.setIfInBounds_toArray, List.set_cons_zero, List.set_cons_succ]
              refine wpAnyH_take (i := 18) (oi := { dst := some 99, op := Op.binOp BinOp.add 3 (Operand.tmp 97) (Operand.tmp 98) 3, type := 3, pos := "ref.go:54", after := #[{ on := 16, ground := Ground.data }, { on := 17, ground := Ground.data }], guard := none }) (v := ?_) rfl (by kernel_rfl) (by kernel_rfl) (by kernel_rfl) (fun _ _ _ h => h) (Or.inl ⟨by rfl, ?_⟩) (by assumption) ?_
              rotate_left 1
              · intro w' hSw; (try dsimp only at hSw); go_simp; (try with_reducible rfl)
              simp only [Act.put, List.setIfInBounds_toArray, List.set_cons_zero, List.set_cons_succ]
              refine wpAnyH_take (i := 19) (oi := { dst := some 100, op := Op.slice 32 (Operand.tmp 91) (some (Operand.tmp 94)) (some (Operand.tmp 99)) none, type := 32, pos := "ref.go:54", after := #[{ on := 10, ground := Ground.data }, { on := 13, ground := Ground.data }, { on := 18, ground := Ground.data }], guard := none }) (v := ?_) rfl (by kernel_rfl) (by kernel_rfl) (by kernel_rfl) (fun _ _ _ h => h) (Or.inl ⟨by rfl, ?_⟩) (by assumption) ?_
              rotate_left 1
              · intro w' hSw; (try dsimp only at hSw); go_simp; (try with_reducible rfl)
              simp only [Act.put, List.setIfInBounds_toArray, List.set_cons_zero, List.set_cons_succ]
              refine wpAnyH_take (i := 20) (oi := { dst := some 101, op := Op.build 73 #[(0, Operand.tmp 87), (1, Operand.tmp 100)], type := 73, pos := "ref.go:54", after := #[{ on := 6, ground := Ground.data }, { on := 19, ground := Ground.data }], guard := none }) (v := ?_) rfl (by kernel_rfl) (by kernel_rfl) (by kernel_rfl) (fun _ _ _ h => h) (Or.inl ⟨by rfl, ?_⟩) (by assumption) ?_
              rotate_left 1
              · intro w' hSw; (try dsimp only at hSw); go_simp; (try with_reducible rfl)
              simp only [Act.put, List.setIfInBounds_toArray, List.set_cons_zero, List.set_cons_succ]
              refine wpAnyH_ready (rs := [1, 21]) (by kernel_rfl) (by simp) ?_
              refine AllReadyH.cons (o := { dst := some 82, op := Op.load 49 (Operand.tmp 81), type := 49, pos := "ref.go:54", after := #[{ on := 0, ground := Ground.data }], guard := none }) rfl (fun K' hK => ?_) (AllReadyH.cons (o := { dst := some 102, op := Op.buildSlice 49 1 #[(0, Operand.tmp 101)], type := 49, pos := "ref.go:54", after := #[{ on := 20, ground := Ground.data }], guard := none }) rfl (fun K' hK => ?_) AllReadyH.nil)
              · have q4 : wr.drew.cell? ⟨wo.heap.size, 2, none⟩ = some (.slice pA k pc) := JRd.out.blk.at_ 2
                go_simp
                clear q4
                refine hK.out _ _ s17d (fun hHeld => ?_)
                clear hK K'
                try simp only [Act.put, List.setIfInBounds_toArray, List.set_cons_zero, List.set_cons_succ]
                refine wpAnyH_ready (rs := [21]) (by kernel_rfl) (by simp) ?_
                refine AllReadyH.cons (o := { dst := some 102, op := Op.buildSlice 49 1 #[(0, Operand.tmp 101)], type := 49, pos := "ref.go:54", after := #[{ on := 20, ground := Ground.data }], guard := none }) rfl (fun K' hK => ?_) AllReadyH.nil
                go_simp
                try rw [hq3]
                rw [← HDA.out, ← HDC.out]
                obtain ⟨xB, hxB⟩ : ∃ W, W = wr.drew.alloc (.cells #[.int .i64 ci, .slice dA z dc] 73) := ⟨_, rfl⟩
                have bB : Below wr.heap.size wr xB := by rw [hxB]; exact (Below.refl _ _).drew.alloc (Nat.le_refl _) _
                have hV : VRow (fun y => wr.heap.size ≤ y) xB (some ⟨wr.heap.size, 0, none⟩) 1 2 [.int .i64 ci, .slice dA z dc] := by rw [hxB]; exact VRow.new wr.drew #[.int .i64 ci, .slice dA z dc] _ 1 2 rfl
                have JB := Lib.hid (JR.out.below bB)
                have FB := Lib.hid (FR.out.trans (Fr.ofBelow (fun y => y = wo.heap.size ∨ B' ≤ y) bB))
                have sB := LS.out xB FB.out
                have HVB := Lib.hid hV
                have HUB := Lib.hid (HU.out.below bB)
                first | rw [← hxB] | (rw [show (wr.alloc (.cells #[.int .i64 ci, .slice dA z dc] 73)).drew = xB from hxB.symm])
                clear hxB bB hV
                refine hK.out _ _ sB (fun hHeld => ?_)
                clear hK K'
                try simp only [Act.put, List.setIfInBounds_toArray, List.set_cons_zero, List.set_cons_succ]
                refine wpAnyH_ready (rs := [22]) (by kernel_rfl) (by simp) ?_
                refine AllReadyH.cons (o := { dst := some 103, op := Op.call { callee := Callee.builtin Builtin.append, args := #[Operand.tmp 82, Operand.tmp 102], argTypes := #[49, 49] }, type := 49, pos := "ref.go:54", after := #[{ on := 1, ground := Ground.data }, { on := 21, ground := Ground.data }], guard := none }) rfl (fun K' hK => ?_) AllReadyH.nil
                refine step_appX (K := fun y => wr.heap.size ≤ y) partsT rfl (.tmp 82) (.tmp 102) rfl B' (.slice pA k pc) k ps rfl (by have := JB.out.ow; rw [ldRow_len] at this; exact this) (some ⟨wr.heap.size, 0, none⟩) 1 1 [.int .i64 ci, .slice dA z dc] rfl HVB.out (fun u hu => by simp at hu; rcases hu with rfl | rfl <;> rfl) (by omega) (by decide) JB.out.Bw ?_
                intro vA xA hoA hgA hvA
                obtain ⟨AA, cA2, rfl, _, _⟩ := own_slv hoA
                have hC := JB.out.put (c := ci) HUB.out HEX.out (by rw [ldRow_len]; exact hoA) hgA hvA
                have FA := Lib.hid (JB.out.fr FB.out hgA)
                have sA := LS.out xA FA.out
                have kA : xA.cell? ⟨wo.heap.size, 2, none⟩ = some (.slice pA k pc) := hC.1.at_ 2
                have fA := hC.1.fz 2
                have szB := JB.out.Bw
                have JA := Lib.hid hC.2
                clear hC hoA hgA hvA
                refine hK.out _ _ sA (fun hHeld => ?_)
                clear hK K'
                try simp only [Act.put, List.setIfInBounds_toArray, List.set_cons_zero, List.set_cons_succ]
                refine wpAnyH_take (i := 23) (oi := { dst := some 104, op := Op.fieldAddr 87 (Operand.tmp 13) 1, type := 0, pos := "ref.go:54", after := #[{ on := 0, ground := Ground.phase }, { on := 1, ground := Ground.phase }, { on := 2, ground := Ground.phase }, { on := 3, ground := Ground.phase }, { on := 4, ground := Ground.phase }, { on := 5, ground := Ground.phase }, { on := 6, ground := Ground.phase }, { on := 7, ground := Ground.phase }, { on := 8, ground := Ground.phase }, { on := 9, ground := Ground.phase }, { on := 10, ground := Ground.phase }, { on := 11, ground := Ground.phase }, { on := 12, ground := Ground.phase }, { on := 13, ground := Ground.phase }, { on := 14, ground := Ground.phase }, { on := 15, ground := Ground.phase }, { on := 16, ground := Ground.phase }, { on := 17, ground := Ground.phase }, { on := 18, ground := Ground.phase }, { on := 19, ground := Ground.phase }, { on := 20, ground := Ground.phase }, { on := 21, ground := Ground.phase }, { on := 22, ground := Ground.phase }], guard := none }) (v := ?_) rfl (by kernel_rfl) (by kernel_rfl) (by kernel_rfl) (fun _ _ _ h => h) (Or.inl ⟨by rfl, ?_⟩) (by assumption) ?_
                rotate_left 1
                · intro w' hSw; (try dsimp only at hSw); go_simp; (try with_reducible rfl)
                simp only [Act.put, List.setIfInBounds_toArray, List.set_cons_zero, List.set_cons_succ]
                refine wpAnyH_ready (rs := [24]) (by kernel_rfl) (by simp) ?_
                refine AllReadyH.cons (o := { dst := none, op := Op.store 49 (Operand.tmp 104) (Operand.tmp 103), type := 0, pos := "ref.go:54", after := #[{ on := 23, ground := Ground.data }, { on := 22, ground := Ground.data }, { on := 22, ground := Ground.chain }, { on := 0, ground := Ground.phase }, { on := 1, ground := Ground.phase }, { on := 2, ground := Ground.phase }, { on := 3, ground := Ground.phase }, { on := 4, ground := Ground.phase }, { on := 5, ground := Ground.phase }, { on := 6, ground := Ground.phase }, { on := 7, ground := Ground.phase }, { on := 8, ground := Ground.phase }, { on := 9, ground := Ground.phase }, { on := 10, ground := Ground.phase }, { on := 11, ground := Ground.phase }, { on := 12, ground := Ground.phase }, { on := 13, ground := Ground.phase }, { on := 14, ground := Ground.phase }, { on := 15, ground := Ground.phase }, { on := 16, ground := Ground.phase }, { on := 17, ground := Ground.phase }, { on := 18, ground := Ground.phase }, { on := 19, ground := Ground.phase }, { on := 20, ground := Ground.phase }, { on := 21, ground := Ground.phase }, { on := 22, ground := Ground.phase }], guard := none }) rfl (fun K' hK => ?_) AllReadyH.nil
                have F9 := Lib.hid (FA.out.trans ((Fr.setCell (own := (· = wo.heap.size)) xA (p := ⟨wo.heap.size, 2, none⟩) rfl (.slice AA (k + 1) cA2)).mono (fun y hy => .inl hy)))
                have sX := LS.out _ F9.out
                go_simp
                refine hK.out _ _ sX (fun hHeld => ?_)
                clear hK K'
                try simp only [Act.put]
                refine wpAnyH_done (by kernel_rfl) ?_ _
                refine NoPanic.normal ?_
                go_wp2_with fail
                go_roundw
                case rel =>
                  refine ⟨k + 1, .slice AA (k + 1) cA2, ps ++ [.int .i64 ci, .slice dA z dc], fun x => D' x ∨ ((K x ∧ x < w.heap.size) ∧ x < xB.heap.size), hkn, by go_num, ?_, F9.out, ?_⟩
                  · rw [ldRow_succ, ← HCC.out]
                    exact JA.out
                  · intro y hy
                    rcases hy with h | ⟨h, _⟩
                    · exact HD'.out y h
                    · exact h
                case measure => simp [intOf]; omega
              · go_simp
                try rw [hq3]
                rw [← HDA.out, ← HDC.out]
                obtain ⟨xB, hxB⟩ : ∃ W, W = wr.drew.alloc (.cells #[.int .i64 ci, .slice dA z dc] 73) := ⟨_, rfl⟩
                have bB : Below wr.heap.size wr xB := by rw [hxB]; exact (Below.refl _ _).drew.alloc (Nat.le_refl _) _
                have hV : VRow (fun y => wr.heap.size ≤ y) xB (some ⟨wr.heap.size, 0, none⟩) 1 2 [.int .i64 ci, .slice dA z dc] := by rw [hxB]; exact VRow.new wr.drew #[.int .i64 ci, .slice dA z dc] _ 1 2 rfl
                have JB := Lib.hid (JR.out.below bB)
                have FB := Lib.hid (FR.out.trans (Fr.ofBelow (fun y => y = wo.heap.size ∨ B' ≤ y) bB))
                have sB := LS.out xB FB.out
                have HVB := Lib.hid hV
                have HUB := Lib.hid (HU.out.below bB)
                first | rw [← hxB] | (rw [show (wr.alloc (.cells #[.int .i64 ci, .slice dA z dc] 73)).drew = xB from hxB.symm])
                clear hxB bB hV
                refine hK.out _ _ sB (fun hHeld => ?_)
                clear hK K'
                try simp only [Act.put, List.setIfInBounds_toArray, List.set_cons_zero, List.set_cons_succ]
                refine wpAnyH_ready (rs := [1]) (by kernel_rfl) (by simp) ?_
                refine AllReadyH.cons (o := { dst := some 82, op := Op.load 49 (Operand.tmp 81), type := 49, pos := "ref.go:54", after := #[{ on := 0, ground := Ground.data }], guard := none }) rfl (fun K' hK => ?_) AllReadyH.nil
                have q4 : xB.cell? ⟨wo.heap.size, 2, none⟩ = some (.slice pA k pc) := JB.out.blk.at_ 2
                go_simp
                clear q4
                refine hK.out _ _ sB (fun hHeld => ?_)
                clear hK K'
                try simp only [Act.put, List.setIfInBounds_toArray, List.set_cons_zero, List.set_cons_succ]
                refine wpAnyH_ready (rs := [22]) (by kernel_rfl) (by simp) ?_
                refine AllReadyH.cons (o := { dst := some 103, op := Op.call { callee := Callee.builtin Builtin.append, args := #[Operand.tmp 82, Operand.tmp 102], argTypes := #[49, 49] }, type := 49, pos := "ref.go:54", after := #[{ on := 1, ground := Ground.data }, { on := 21, ground := Ground.data }], guard := none }) rfl (fun K' hK => ?_) AllReadyH.nil
                refine step_appX (K := fun y => wr.heap.size ≤ y) partsT rfl (.tmp 82) (.tmp 102) rfl B' (.slice pA k pc) k ps rfl (by have := JB.out.ow; rw [ldRow_len] at this; exact this) (some ⟨wr.heap.size, 0, none⟩) 1 1 [.int .i64 ci, .slice dA z dc] rfl HVB.out (fun u hu => by simp at hu; rcases hu with rfl | rfl <;> rfl) (by omega) (by decide) JB.out.Bw ?_
                intro vA xA hoA hgA hvA
                obtain ⟨AA, cA2, rfl, _, _⟩ := own_slv hoA
                have hC := JB.out.put (c := ci) HUB.out HEX.out (by rw [ldRow_len]; exact hoA) hgA hvA
                have FA := Lib.hid (JB.out.fr FB.out hgA)
                have sA := LS.out xA FA.out
                have kA : xA.cell? ⟨wo.heap.size, 2, none⟩ = some (.slice pA k pc) := hC.1.at_ 2
                have fA := hC.1.fz 2
                have szB := JB.out.Bw
                have JA := Lib.hid hC.2
                clear hC hoA hgA hvA
                refine hK.out _ _ sA (fun hHeld => ?_)
                clear hK K'
                try simp only [Act.put, List.setIfInBounds_toArray, List.set_cons_zero, List.set_cons_succ]
                refine wpAnyH_take (i := 23) (oi := { dst := some 104, op := Op.fieldAddr 87 (Operand.tmp 13) 1, type := 0, pos := "ref.go:54", after := #[{ on := 0, ground := Ground.phase }, { on := 1, ground := Ground.phase }, { on := 2, ground := Ground.phase }, { on := 3, ground := Ground.phase }, { on := 4, ground := Ground.phase }, { on := 5, ground := Ground.phase }, { on := 6, ground := Ground.phase }, { on := 7, ground := Ground.phase }, { on := 8, ground := Ground.phase }, { on := 9, ground := Ground.phase }, { on := 10, ground := Ground.phase }, { on := 11, ground := Ground.phase }, { on := 12, ground := Ground.phase }, { on := 13, ground := Ground.phase }, { on := 14, ground := Ground.phase }, { on := 15, ground := Ground.phase }, { on := 16, ground := Ground.phase }, { on := 17, ground := Ground.phase }, { on := 18, ground := Ground.phase }, { on := 19, ground := Ground.phase }, { on := 20, ground := Ground.phase }, { on := 21, ground := Ground.phase }, { on := 22, ground := Ground.phase }], guard := none }) (v := ?_) rfl (by kernel_rfl) (by kernel_rfl) (by kernel_rfl) (fun _ _ _ h => h) (Or.inl ⟨by rfl, ?_⟩) (by assumption) ?_
                rotate_left 1
                · intro w' hSw; (try dsimp only at hSw); go_simp; (try with_reducible rfl)
                simp only [Act.put, List.setIfInBounds_toArray, List.set_cons_zero, List.set_cons_succ]
                refine wpAnyH_ready (rs := [24]) (by kernel_rfl) (by simp) ?_
                refine AllReadyH.cons (o := { dst := none, op := Op.store 49 (Operand.tmp 104) (Operand.tmp 103), type := 0, pos := "ref.go:54", after := #[{ on := 23, ground := Ground.data }, { on := 22, ground := Ground.data }, { on := 22, ground := Ground.chain }, { on := 0, ground := Ground.phase }, { on := 1, ground := Ground.phase }, { on := 2, ground := Ground.phase }, { on := 3, ground := Ground.phase }, { on := 4, ground := Ground.phase }, { on := 5, ground := Ground.phase }, { on := 6, ground := Ground.phase }, { on := 7, ground := Ground.phase }, { on := 8, ground := Ground.phase }, { on := 9, ground := Ground.phase }, { on := 10, ground := Ground.phase }, { on := 11, ground := Ground.phase }, { on := 12, ground := Ground.phase }, { on := 13, ground := Ground.phase }, { on := 14, ground := Ground.phase }, { on := 15, ground := Ground.phase }, { on := 16, ground := Ground.phase }, { on := 17, ground := Ground.phase }, { on := 18, ground := Ground.phase }, { on := 19, ground := Ground.phase }, { on := 20, ground := Ground.phase }, { on := 21, ground := Ground.phase }, { on := 22, ground := Ground.phase }], guard := none }) rfl (fun K' hK => ?_) AllReadyH.nil
                have F9 := Lib.hid (FA.out.trans ((Fr.setCell (own := (· = wo.heap.size)) xA (p := ⟨wo.heap.size, 2, none⟩) rfl (.slice AA (k + 1) cA2)).mono (fun y hy => .inl hy)))
                have sX := LS.out _ F9.out
                go_simp
                refine hK.out _ _ sX (fun hHeld => ?_)
                clear hK K'
                try simp only [Act.put]
                refine wpAnyH_done (by kernel_rfl) ?_ _
                refine NoPanic.normal ?_
                go_wp2_with fail
                go_roundw
                case rel =>
                  refine ⟨k + 1, .slice AA (k + 1) cA2, ps ++ [.int .i64 ci, .slice dA z dc], fun x => D' x ∨ ((K x ∧ x < w.heap.size) ∧ x < xB.heap.size), hkn, by go_num, ?_, F9.out, ?_⟩
                  · rw [ldRow_succ, ← HCC.out]
                    exact JA.out
                  · intro y hy
                    rcases hy with h | ⟨h, _⟩
                    · exact HD'.out y h
                    · exact h
                case measure => simp [intOf]; omega
            · have hke : dcn = k := by omega
              subst hke
              obtain ⟨pA, pc, e1, _, _⟩ := own_slv hA.ow
              rw [ldRow_len] at e1
              subst e1
              obtain ⟨rA, rc, e2, _, _⟩ := own_slv HG.out.ow
              rw [ldRows_len] at e2
              subst e2
              have hGp : Gr EP 73 2 wr B' (.slice pA dcn pc) ps D' (ldRow cs cols i dcn) := ⟨hA.Bw, hA.ow, hA.hd, fun x hx => ⟨(hA.dx x hx).1, (hA.dx x hx).2.2⟩⟩
              obtain ⟨A2, c2, e3, _, _, hpv⟩ := hGp.rows EP.ok
              rw [ldRow_len] at e3 hpv
              injection e3 with e31 e32 e33
              rw [← e31] at hpv
              clear e31 e32 e33
              obtain ⟨Kx, hKx⟩ : ∃ Kx : Nat → Prop, Kx = fun x => D' x ∨ (B' ≤ x ∧ x < wr.heap.size) := ⟨_, rfl⟩
              rw [← hKx] at hpv
              have hEE : EE Kx wr ((ia, ig), ldRow cs cols i dcn) [.int .i64 ia, .int .i64 ig, .slice pA dcn pc] := ⟨pA, dcn, pc, rfl, hpv⟩
              obtain ⟨w8, hw8⟩ : ∃ w8, w8 = wr.alloc (.cells #[.int .i64 ia, .int .i64 ig, .slice pA dcn pc] 87) := ⟨_, rfl⟩
              have b8 : Below wr.heap.size wr w8 := by rw [hw8]; exact (Below.refl _ _).alloc (Nat.le_refl _) _
              have HV8 : Hid (VRow (fun x => wr.heap.size ≤ x) w8 (some ⟨wr.heap.size, 0, none⟩) 1 3 [.int .i64 ia, .int .i64 ig, .slice pA dcn pc]) := Lib.hid (by rw [hw8]; exact VRow.new wr #[.int .i64 ia, .int .i64 ig, .slice pA dcn pc] _ 1 3 rfl)
              have b8o := hbq.trans (b8.mono hbq.size)
              have G8 := Lib.hid (HG.out.below EE.ok b8o)
              have hE8 := Lib.hid (EE.ok.below hEE b8)
              have hBB' : B ≤ wo.heap.size := HG.out.Bw
              have HKX := Lib.hid (show ∀ y, Kx y → (Value.slice rA i rc).ownBlock ≠ some y from fun y hy e => by
                have h1 := own_geB HG.out.ow e
                have h2 := HBW.out.size
                have h3 := HBB.out
                rw [hKx] at hy
                rcases hy with h | h
                · have := hD' y h
                  omega
                · omega)
              have HKD := Lib.hid (show ∀ y, Kx y → (K y ∧ y < w.heap.size) ∨ B ≤ y from fun y hy => by
                rw [hKx] at hy
                rcases hy with h | h
                · exact .inl (hD' y h)
                · exact .inr (by omega))
              have c2 : wr.cell? ⟨g, 2, none⟩ = some (.slice rA i rc) := hRq.at_ 2
              have HW8 := Lib.hid hw8
              have HB8 := Lib.hid b8
              have HB8o := Lib.hid b8o
              have HA := Lib.hid hA
              have HRQ := Lib.hid hRq
              clear hw8 b8 b8o hA hRq hbq hFq hGp hpv hEE hKx hD'
              go_wp2_with (first
                | ((with_reducible refine wpList_ldS entT rfl rfl (.tmp 13) rfl rfl HA.out.blk ?_))
                | (rw [← HW8.out]; clear HW8)
                | (at_builtin; refine wpList_appX entsT rfl (.tmp 106) (.tmp 108) rfl B (.slice rA i rc) i vs rfl (by have := G8.out.ow; rw [ldRows_len] at this; exact this) (some ⟨wr.heap.size, 0, none⟩) 1 1 [.int .i64 ia, .int .i64 ig, .slice pA dcn pc] rfl HV8.out (fun u hu => by simp at hu; rcases hu with rfl | rfl | rfl <;> rfl) (by omega) (by decide) G8.out.Bw ?_; intro v9 w9 ho9 hg9 hv9; have hG9 := G8.out.put EE.ok rfl hE8.out HKX.out (by rw [ldRows_len]; exact ho9) hg9 hv9; have hF9 := Fr.grown hg9 (own := fun y => B ≤ y) (fun x hx => (own_geB G8.out.ow hx).1); obtain ⟨rA9, rc9, rfl, _, _⟩ := own_slv ho9; have hR9 := (HRQ.out.under HB8.out).fr hF9 (fun e => by have := HGB.out; have e' : B ≤ g := e; omega); have k9 : w9.cell? ⟨g, 2, none⟩ = some (.slice rA i rc) := hR9.at_ 2; have f9 := hR9.fz 2; have G9 := Lib.hid hG9; have F9 := Lib.hid hF9; have R9 := Lib.hid hR9; clear hG9 hF9 hR9 ho9 hg9 hv9))
              obtain ⟨w10, hw10⟩ : ∃ w10, w10 = w9.setCell ⟨g, 2, none⟩ (.slice rA9 (i + 1) rc9) := ⟨_, rfl⟩
              have hF10 : Fr (· = g) w9 w10 := by rw [hw10]; exact Fr.setCell (own := (· = g)) w9 (p := ⟨g, 2, none⟩) rfl _
              have hR10 : Rec 40 w10 g #[.slice dCA dcn dcc, .slice dSA dcn dsc, .slice rA9 (i + 1) rc9] := by rw [hw10]; exact R9.out.set 2 _
              rw [← hw10]
              have hgB := HGB.out
              have hDg : ∀ y, (D y ∨ (Kx y ∧ y < w8.heap.size)) → (K y ∧ y < w.heap.size) ∨ B ≤ y := fun y hy => by
                rcases hy with h | h
                · exact HD.out y h
                · exact HKD.out y h.1
              have hgw := HGW.out
              have hw1s := HW1S.out
              have hG10 := G9.out.turn EE.ok hF10 hgB (fun hx => by rcases hDg g hx with h | h <;> omega)
              rw [show ((ia, ig), ldRow cs cols i dcn) = (ids.getD i (0, 0), ldRow cs cols i cs.length) by rw [← HX.out, ← HNC.out], ← ldRows_succ] at hG10
              have hF : Fr (fun y => y = g ∨ B ≤ y) wl w10 := ((HF.out.trans (Fr.ofBelow _ HB8o.out)).trans (F9.out.mono (fun y hy => .inr hy))).trans (hF10.mono (fun y hy => .inl hy))
              have HR10 := Lib.hid hR10
              have HG10 := Lib.hid hG10
              have HF10 := Lib.hid hF
              have HDg := Lib.hid hDg
              clear hw10 hF10 hR10 hG10 hF hDg k9 f9 c2
              go_wp2_with fail
              go_roundw
              case rel => exact ⟨i + 1, _, _, _, hin, by go_num, HG10.out, HR10.out, HDg.out, HF10.out⟩
              case measure => simp [intOf]; omega
        · have hie : m = i := by omega
          subst hie
          obtain ⟨rA, rc, e1, _, _, hrw⟩ := hG.rows EE.ok
          rw [ldRows_len] at e1 hrw
          subst e1
          have hgl := HR5.out.lt
          have hs2 := HBW.out.size
          have hBBo := HBB.out
          have hwz : Rec 40 wo (w.heap.size + 1) zT := by
            have h1 := (HZ4.out.under HB.out)
            exact h1.fr hF (fun e => by have := HB1.out.size; have := HGW.out; have := HBB.out; have := HGB.out; have := HW1S.out; rcases e with e | e <;> omega)
          go_wp2_with (first
            | ((with_reducible refine wpList_ldS rtabT rfl rfl (.tmp 10) rfl rfl hRo ?_))
            | ((with_reducible refine wpList_stS (cs' := #[.slice dCA dcn dcc, .slice dSA dcn dsc, .slice rA m rc]) rtabT rfl rfl (by simp [Value.oneCell']) rfl (.tmp 8) (.tmp 111) rfl rfl rfl hwz ?_); intro w5 hR5 hF5))
          refine bodyPost_ret (res_ct rfl rfl (hR5.load rtabT rfl)) rfl ?_
          have h1 := HW1S.out
          have h2 := HGW.out
          have h3 := HGB.out
          have hbo : Below w.heap.size w wo := HBW.out.trans (hF.toBelow (fun y hy => by rcases hy with h | h <;> omega) HBW.out.size)
          have hso := hF.size
          have hs5 := hF5.size
          have hb5 : Below w.heap.size w w5 := hbo.trans (hF5.toBelow (fun x hx => by rw [show x = w.heap.size + 1 from hx]; omega) hbo.size)
          have hst : WStays (fun x => w1.heap.size ≤ x ∧ x < g) wl w5 := ⟨by omega, fun x hx => (hF5.block x (by omega) (fun e => by have e' : x = w.heap.size + 1 := e; omega)).trans (hF.block x (by omega) (fun e => by rcases e with e | e <;> omega))⟩
          refine ⟨hb5, .inl ⟨fun j hj => ?_, ⟨dCA, dcn, dcc, dSA, dcn, dsc, rA, m, rc⟩, rfl, ?_⟩⟩
          · rw [← HML.out]
            exact HFIT.out j (by rw [HNC.out]; exact hj)
          · have hc9 := (HRT5.out.c.mono (K' := fun x => w1.heap.size ≤ x ∧ x < g) (fun x hx => by have := HGE.out; omega)).stays hst
            have hs9 := (HRT5.out.s.mono (K' := fun x => w1.heap.size ≤ x ∧ x < g) (fun x hx => by have := HGE.out; omega)).stays hst
            have hdx := hG.dx
            have hr9 : EntsV (fun x => D x ∨ (B ≤ x ∧ x < wo.heap.size)) w5 rA m (ldRows cs ids cols m) := by
              have h0 : EntsV (fun x => D x ∨ (B ≤ x ∧ x < wo.heap.size)) wo rA m (ldRows cs ids cols m) := hrw
              exact h0.stays ⟨hs5, fun x hx => hF5.block x (by rcases hx with h | h; exact (hdx x h).1; exact h.2) (fun e => by
                have e' : x = w.heap.size + 1 := e
                rcases hx with h | h
                · rcases hD x h with h | h <;> omega
                · omega)⟩
            rw [← HML.out]
            exact ⟨hc9.mono (fun x hx => .inr (by omega)), hs9.mono (fun x hx => .inr (by omega)), hr9.mono (fun x hx => by
              rcases hx with h | h
              · have h9 := (hdx x h).1
                rcases hD x h with h | h
                · exact .inl h.1
                · exact .inr (by omega)
              · exact .inr (by omega))⟩
end
end Go.Proofs.YtnjfogeefdmlkaaDoor
namespace Go.Proofs.YtnjfogeefdmlkaaDoor
open Go.RowKit
set_option maxRecDepth 20000

theorem ldRow_getD (cs : List (Int × Nat)) (cols : List (List UInt8)) (i k j : Nat) (hj : j < k) : (ldRow cs cols i k).getD j (0, []) = ((cs.getD j (0, 0)).1, ((cols.getD j []).drop (i * (cs.getD j (0, 0)).2)).take (cs.getD j (0, 0)).2) := by
  unfold ldRow
  rw [List.getD_eq_getElem?_getD, List.getElem?_map, List.getElem?_range hj]
  rfl
theorem ldRows_ids (cs : List (Int × Nat)) (ids : List (Int × Int)) (cols : List (List UInt8)) : (ldRows cs ids cols ids.length).map (·.1) = ids := by
  unfold ldRows
  rw [List.map_map]
  apply List.ext_getElem (by simp)
  intro j h1 h2
  simp [List.getD, List.getElem?_eq_getElem h2]
theorem loaded_ok {n : Nat} {zs : Nat → Int} {s : Nat} {cs : List (Int × Nat)} {ids : List (Int × Int)} {cols : List (List UInt8)} (hcs : cs = (Tb.new n zs s).cs) (hm : ids.length ≤ 1024) (hfit : colsFit cs ids.length cols cs.length) : (⟨cs, ldRows cs ids cols ids.length⟩ : Tb).Ok := by
  have h0 := Tb.new_ok n zs s
  refine ⟨by show (ldRows cs ids cols ids.length).length ≤ 1024; rw [ldRows_len]; exact hm, by rw [hcs]; exact h0.cn, by rw [hcs]; exact h0.z, fun r hr => ?_, by rw [hcs]; exact h0.cz, by rw [hcs]; exact h0.nd⟩
  obtain ⟨i, hi, rfl⟩ := List.mem_map.1 hr
  have hi := List.mem_range.1 hi
  show (ldRow cs cols i cs.length).map (fun p => (p.1, p.2.length)) = cs
  unfold ldRow
  rw [List.map_map]
  apply List.ext_getElem (by simp)
  intro j h1 h2
  have hf := hfit j h2
  simp only [List.getElem_map, List.getElem_range, Function.comp_apply, List.length_take, List.length_drop, hf]
  have e : cs.getD j (0, 0) = cs[j] := by simp [List.getD, List.getElem?_eq_getElem h2]
  rw [e]
  have : (i + 1) * cs[j].2 ≤ ids.length * cs[j].2 := Nat.mul_le_mul_right _ hi
  rw [Nat.succ_mul] at this
  rw [Nat.min_eq_left (by omega)]
theorem TbA.loaded {w' : World} {N : Nat} {tag : Nat → Nat} {p m : Nat} {v : Value} {q : Nat → Nat} {n : Nat} {zs : Nat → Int} {s : Nat} {cs : List (Int × Nat)} {ids : List (Int × Int)} {cols : List (List UInt8)} (hs : s < 18446744073709551616) (hcs : cs = (Tb.new n zs s).cs)
    (hs1 : s &&& ofL (idxs n) 64 = s) (hm : ids.length ≤ 1024) (hfit : colsFit cs ids.length cols cs.length) (hI : TbI w' N tag p m v q s cs ids (coOf cs ids.length cols)) : TbA w' N tag p m v q s ⟨cs, ldRows cs ids cols ids.length⟩ where
  i := by
    have hids : Tb.ids ⟨cs, ldRows cs ids cols ids.length⟩ = ids := ldRows_ids cs ids cols
    rw [hids]
    refine hI.congr (fun j hj => ?_)
    unfold coOf Tb.co chunks ldRows
    simp only [List.map_map]
    congr 1
    refine List.map_congr_left fun i _ => ?_
    simp only [Function.comp_apply, ldRow_getD cs cols i cs.length j hj]
  ok := loaded_ok hcs hm hfit
  sig := by
    have := new_cs n zs s
    rw [hs1, ← hcs] at this
    exact this
  sgl := hs
end Go.Proofs.YtnjfogeefdmlkaaDoor
