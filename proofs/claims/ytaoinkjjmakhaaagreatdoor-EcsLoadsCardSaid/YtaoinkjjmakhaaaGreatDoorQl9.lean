/- TbL2, IdM, IdA -/
import Derived.Test.YtaoinkjjmakhaaaGreatDoorQl1
import Derived.Test.YtaoinkjjmakhaaaGreatDoorQl8
import Derived.BigQuiet
import Derived.Deep.QuietTactic
namespace Go.Proofs.YtaoinkjjmakhaaaGreatDoor
open Go.RowKit
set_option maxRecDepth 20000
set_option linter.unusedSimpArgs false
set_option linter.unusedVariables false
theorem EE.ok : EOk EE where
 stays := fun ⟨A, n, c, e, hu⟩ hs => ⟨A, n, c, e, hu.stays hs⟩
 mono := fun ⟨A, n, c, e, hu⟩ hk => ⟨A, n, c, e, hu.mono hk⟩
 lt := fun ⟨A, n, c, e, hu⟩ => ⟨A, n, c, e, hu.lt⟩
theorem entTL : RT Tryz.prog 95 3 := ⟨⟨_, Tryz.underlying95, rfl⟩, by kernel_rfl⟩
def RLRes (K : Nat -> Prop) (w : World) (cs : List (Int × Nat)) (ids : List (Int × Int)) (cols : List (List UInt8)) (e : Ending) (w' : World) : Prop := Below w.heap.size w w' /\
 ((colsFit cs ids.length cols cs.length /\ ∃ d : Rt, e = .returned (.tuple #[.agg d.cs, .int .i64 0]) /\ RtS (fun y => K y \/ (w.heap.size <= y /\ y < w'.heap.size)) w' d ⟨cs, ldRows cs ids cols ids.length⟩) \/
 (¬ colsFit cs ids.length cols cs.length /\ e = .returned (.tuple #[.agg #[.slice none 0 0, .slice none 0 0, .slice none 0 0], .int .i64 11])))
section
variable (lg pg en gn : Int) (A : Option Addr) (n cap : Nat) (ks : List Kd) (w : World)
theorem Gr.turn {α : Type} {E : (Nat -> Prop) -> World -> α -> List Value -> Prop} {e : TypeId} {sz : Nat} {w w' : World} {B g : Nat} {v : Value} {vs : List Value} {D : Nat -> Prop} {xs : List α} (ok : EOk E) (h : Gr E e sz w B v vs D xs) (hf : Fr (· = g) w w') (hg : g < B) (hD : ¬ D g) : Gr E e sz w' B v vs D xs :=
 ⟨Nat.le_trans h.Bw hf.size, own_fr h.ow hf (fun x hx e => by have := (own_geB h.ow hx).1; have e' : x = g := e; omega),
  h.hd.imp fun _ _ hx => ok.stays hx ⟨hf.size, fun y hy => hf.block y (h.dx y hy).1 (fun e => hD ((show y = g from e) ▸ hy))⟩,
  fun x hx => ⟨Nat.lt_of_lt_of_le (h.dx x hx).1 hf.size, (h.dx x hx).2⟩⟩
set_option maxHeartbeats 4000000 in
theorem RLoad_some {K : Nat -> Prop} (h : KRd w A n ks) (hn : n <= 1000000) (s : Nat) (hs : s < 18446744073709551616) (IA : Option Addr) (ic : Nat) (ids : List (Int × Int)) (CA : Option Addr) (cx : Nat) (cols : List (List UInt8))
  (cs : List (Int × Nat)) (hcs : cs = (Tb.new n (zsK ks) s).cs) (hi : IdsV K w IA ids.length ids) (hc : RowsV K w CA cs.length cols) (hs1 : s &&& ofL (idxs n) 64 = s) (hm : ids.length <= 1024) (hcap : ∀ k uA un uc b o, CA = some ⟨b, o, none⟩ -> k < cs.length -> w.cell? ⟨b, o + k, none⟩ = some (.slice uA un uc) -> un <= uc /\ uc <= maxLen) (hlen : ∀ j, j < cs.length -> (cols.getD j []).length <= 1000000000) :
  Calls Tryz.prog 54 #[cv lg pg en gn A n cap, .int .u64 (s : Nat), .slice IA ids.length ic, .slice CA cs.length cx] w (RLRes K w cs ids cols) := by
 obtain ⟨w1, hw1⟩ : ∃ w1, w1 = (w.alloc (.cells (cc lg pg en gn A n cap) 24)).alloc (.cells #[.slice none 0 0, .slice none 0 0, .slice none 0 0] 127) := ⟨_, rfl⟩
 have hb1 : Below w.heap.size w w1 := by rw [hw1]; exact ((Below.refl _ _).alloc (Nat.le_refl _) _).alloc (by simp) _
 have HR1 := hi_ (show Rec 24 w1 w.heap.size (cc lg pg en gn A n cap) by rw [hw1]; exact (Rec.new _ _ _).under ((Below.refl _ _).alloc (Nat.le_refl _) _))
 have HZ1 := hi_ (show Rec 127 w1 (w.heap.size + 1) zT by
  have := Rec.new (w.alloc (.cells (cc lg pg en gn A n cap) 24)) 127 zT
  rw [World.size_alloc] at this
  rw [hw1]
  exact this)
 have hnew := Tb.new_ok n (zsK ks) s
 have CN := RTNew_nil lg pg en gn A n cap ks w1 (h.below hb1) hn s hs
 have hof : ofL (cs.map (·.1)) 64 = s := by
  have e := new_cs n (zsK ks) s
  have := ofL_listZ (and_lt64 s (ofL (idxs n) 64) hs)
  rw [e, hs1] at this
  rw [hcs]
  exact this
 have hnil : Tb.new n (zsK ks) s = ⟨cs, []⟩ := by rw [hcs]; rfl
 rw [hnil] at CN hnew
 have hcn64 : cs.length <= 64 := hnew.cn
 have hz64 : ∀ j, j < cs.length -> (cs.getD j (0, 0)).2 <= 64 := fun j hj => by
  rw [getD_at hj]
  exact hnew.z _ (List.getElem_mem hj)
 have CN := hi_ CN
 have HB1 := hi_ hb1
 have HOF := hi_ hof
 have HZ := hi_ hz64
 have HI := hi_ hi
 have HC := hi_ hc
 have HLEN := hi_ hlen
 have HCAP := hi_ hcap
 have hsz : w1.heap.size = w.heap.size + 2 := by rw [hw1]; simp
 have HSZ := hi_ hsz
 clear h hb1 hof hs hsz hcs hs1 hi hc hnil hnew hz64 hlen hcap
 obtain ⟨nc, hnc⟩ : ∃ nc, nc = cs.length := ⟨_, rfl⟩
 obtain ⟨m, hml⟩ : ∃ m, m = ids.length := ⟨_, rfl⟩
 rw [<- hnc] at hcn64
 rw [<- hml] at hm
 rw [show Calls Tryz.prog 54 #[cv lg pg en gn A n cap, .int .u64 (s : Nat), .slice IA ids.length ic, .slice CA cs.length cx] w (RLRes K w cs ids cols) = Calls Tryz.prog 54 #[cv lg pg en gn A n cap, .int .u64 (s : Nat), .slice IA m ic, .slice CA nc cx] w (RLRes K w cs ids cols) by rw [hnc, hml]]
 have HNC := hi_ hnc
 have HML := hi_ hml
 clear hnc hml
 have d1 : ¬ ((1024 : Int) < (m : Int)) := by omega
 have d2 : ¬ (1024 < m) := by omega
 go_enter Tryz.func54, Tryz.ntmps54
 go_wp2_with (first
  | (rw [<- hw1]; clear hw1)
  | (with_reducible refine wpList_ldS confT rfl rfl (.tmp 4) rfl rfl HR1.out ?_)
  | (go_at_call 110; refine CN.out.mono ?_; rintro e w2 ⟨d, rfl, hR, hb2, hdA, hdc⟩; have HDA := hi_ (And.intro hdA hdc); clear hdA hdc; have hcn := hR.cn; rw [<- HNC.out] at hcn; have HRd := hi_ hR; have HB2 := hi_ hb2; clear hR hb2; obtain ⟨w3, hw3⟩ : ∃ w3, w3 = w2.alloc (.cells #[.slice none 0 0, .slice none 0 0, .slice none 0 0] 127) := ⟨_, rfl⟩; have HW3 := hi_ hw3; have HR3 := hi_ (show Rec 127 w3 w2.heap.size zT from (by rw [hw3]; exact Rec.new _ _ _)); have HB3 := hi_ (show Below w2.heap.size w2 w3 from (by rw [hw3]; exact (Below.refl _ _).alloc (Nat.le_refl _) _)); have HCN := hi_ hcn; clear hw3 hcn)
  | (rw [<- HW3.out]; clear HW3)
  | ((with_reducible refine wpList_stZ d rfl (.tmp 10) (.tmp 18) rfl rfl rfl HR3.out ?_); intro w4 hR4 hF4; have HB4 := hi_ (HB3.out.trans (hF4.toBelow (fun x hx => (by rw [show x = w2.heap.size from hx]; exact Nat.le_refl _)) HB3.out.size)); have c0 : w4.cell? ⟨w2.heap.size, 0, none⟩ = some (.slice d.CA nc d.cc) := (by rw [<- HCN.out]; exact hR4.at_ 0); have HR4 := hi_ hR4; have HZ4 := hi_ (HZ1.out.under (HB2.out.trans (HB4.out.mono HB2.out.size))); have hrf := ROf_any d.CA nc d.cc (cs.map (·.1)) w4 (by have := IntsV.ird (HRd.out.below HB4.out).c; rw [HCN.out] at this; exact this) (by omega); rw [HOF.out] at hrf; have HRf := hi_ hrf; clear hrf hR4 hF4)
  | (go_at_call 97; refine HRf.out.mono ?_; rintro e w' ⟨rfl, rfl⟩))
 have hb4 : Below w.heap.size w w4 := HB1.out.trans ((HB2.out.trans (HB4.out.mono HB2.out.size)).mono HB1.out.size)
 have hR4d := HRd.out.below HB4.out
 have hsn : d.sn = nc := by have := HRd.out.sn; rw [HNC.out]; exact this
 have hrn0 : d.rn = 0 := HRd.out.rn
 obtain ⟨hdA, hdc⟩ := HDA.out
 obtain ⟨dCA, dcn, dcc, dSA, dsn, dsc, dRA, drn, drc⟩ := d
 simp only at hsn hrn0 c0 hdA hdc
 have hdcn : dcn = nc := HCN.out
 subst hsn hrn0 hdcn hdA hdc
 have HR4' := hi_ hR4d
 have HB4w := hi_ hb4
 clear hR4d hb4 c0 HRf CN HR1 HZ1 HR3
 go_loopw [11] (fun iv wr => ∃ k : Nat, k <= dcn /\ iv = .int .i64 k /\ Below w4.heap.size w4 wr /\ ∀ i, i < k -> (cols.getD i []).length = m * (cs.getD i (0, 0)).2) (fun iv _ => dcn - (intOf iv).toNat)
 case atStart => exact ⟨0, Nat.zero_le _, rfl, Below.refl _ _, fun i hi => absurd hi (Nat.not_lt_zero i)⟩
 case round =>
  obtain ⟨k, hk, rfl, hB, hfit⟩ := hrel
  by_cases hkn : k < dcn
  ·have hkc : k < cs.length := by rw [<- HNC.out]; exact hkn
   obtain ⟨cb, co, u, hCA, hcb, hcu, hV⟩ := HC.out.at_ hkc
   obtain ⟨uA, un, uc, rfl, hRd, _⟩ := hV
   have hul : (cols.getD k []).length = un := hRd.1
   obtain ⟨sb, so, hSA, hsb, hsc⟩ := HR4'.out.s.at_ hkn
   rw [show (0 : Int) = ((((0 : Int), (0 : Nat)).2 : Nat) : Int) from rfl, getD_map (fun c : Int × Nat => (c.2 : Int)) cs k (0, 0) hkc] at hsc
   have hz := HZ.out k hkc
   have hul9 := HLEN.out k hkc
   simp only at hSA
   subst hCA hSA
   obtain ⟨z, hzz⟩ : ∃ z, z = (cs.getD k (0, 0)).2 := ⟨_, rfl⟩
   rw [<- hzz] at hsc hz
   have hBw := HB4w.out.trans (hB.mono HB4w.out.size)
   have kc := (hBw.cell (p := ⟨cb, co + k, none⟩) hcb).trans hcu
   have ks := (hB.cell (p := ⟨sb, so + k, none⟩) hsb).trans hsc
   have k1 : wr.cell? ⟨w2.heap.size, 1, none⟩ = some (.slice (some ⟨sb, so, none⟩) dcn dsc) := (HR4.out.under hB).at_ 1
   obtain ⟨P, hP⟩ : ∃ P, P = m * z := ⟨_, rfl⟩
   have hP64 : P <= 65536 := by
    have h1 := Nat.mul_le_mul hm hz
    rw [hP]
    omega
   have hPi : (m : Int) * (z : Int) = (P : Int) := by rw [hP]; exact (Int.natCast_mul m z).symm
   have HFIT := hi_ hfit
   have HB := hi_ hB
   have HP := hi_ hP
   have HZZ := hi_ hzz
   have HUL := hi_ hul
   rw [hul] at hul9
   clear hfit hB hP hcu hsc hRd hBw hul hzz
   by_cases hu : un = P
   ·subst hu
    go_wp2
    go_quiet (fail)
    go_wp2_with fail
    go_roundw
    case rel =>
     refine ⟨k + 1, hkn, by go_num, HB.out.trans (below_drewN (Below.refl _ _) _), fun i hi => ?_⟩
     by_cases e : i = k
     ·subst e
      rw [HUL.out, <- HZZ.out]
      exact HP.out
     ·exact HFIT.out i (by omega)
    case measure => simp [intOf]; omega
   ·have d5 : decide ((un : Int) = (P : Int)) = false := decide_eq_false (by omega)
    have d6 : ((un : Int) != (P : Int)) = true := bne_iff_ne.2 (by omega)
    go_wp2
    go_quiet (fail)
    obtain ⟨wy, hwy⟩ : ∃ wy, wy = wr.drewN nq := ⟨_, rfl⟩
    have hBy : Below wr.heap.size wr wy := by rw [hwy]; exact below_drewN (Below.refl _ _) nq
    rw [<- hwy]
    clear hwy
    have hBz := HB.out.trans (hBy.mono HB.out.size)
    have HBZ := hi_ hBz
    have HZy := hi_ (HZ4.out.under hBz)
    clear hBy hBz
    go_wp2_with ((with_reducible refine wpList_stS (cs' := #[.slice none 0 0, .slice none 0 0, .slice none 0 0]) rtabT rfl rfl (by simp [Value.oneCell']) rfl (.tmp 8) (.tmp 58) rfl rfl rfl HZy.out ?_); intro w5 hR5 hF5)
    refine bodyPost_ret (res_ct rfl rfl (hR5.load rtabT rfl)) rfl ?_
    have hb5 := HB4w.out.trans (HBZ.out.mono HB4w.out.size)
    refine ⟨hb5.trans (hF5.toBelow (fun x hx => by rw [show x = w.heap.size + 1 from hx]; omega) hb5.size), .inr ⟨fun hf => ?_, rfl⟩⟩
    have := hf k hkc
    rw [HUL.out, <- HZZ.out, <- HML.out, <- HP.out] at this
    exact hu this
  ·have hkd : dcn = k := by omega
   subst hkd
   obtain ⟨wl, hwl⟩ : ∃ v, v = wr := ⟨_, rfl⟩
   subst hwl
   have HFIT := hi_ hfit
   have HB := hi_ hB
   have hR5 := HR4.out.under hB
   have hg5 := hR5.lt
   have hRt5 := HR4'.out.below hB
   have HBW := hi_ (HB4w.out.trans (hB.mono HB4w.out.size))
   obtain ⟨g, hg⟩ : ∃ g, g = w2.heap.size := ⟨_, rfl⟩
   rw [<- hg] at hR5 hg5 ⊢
   have hgw : w1.heap.size <= g := by rw [hg]; exact HB2.out.size
   have HGW := hi_ hgw
   have HW1S := HSZ
   have HGE := hi_ (show g = w2.heap.size from hg)
   obtain ⟨B, hBB⟩ : ∃ B, B = wl.heap.size := ⟨_, rfl⟩
   rw [<- hBB] at hg5
   have HG0 : Gr EE 95 3 wl B (.slice none 0 0) [] (fun _ => False) (ldRows cs ids cols 0) := Gr.start (World.ownsRow_nil _ _ _ _) (Nat.le_of_eq hBB)
   have HG0 := hi_ HG0
   have HR5 := hi_ hR5
   have HRT5 := hi_ hRt5
   have HBB := hi_ hBB
   have HGB := hi_ hg5
   clear hfit hB hR5 hRt5 hg hBB HR4 HR4'
   go_wp2_with fail
   go_loopw [12] (fun iv wo => ∃ (i : Nat) (rv : Value) (vs : List Value) (D : Nat -> Prop), i <= m /\ iv = .int .i64 i /\ Gr EE 95 3 wo B rv vs D (ldRows cs ids cols i) /\ Rec 127 wo g #[.slice dCA dcn dcc, .slice dSA dcn dsc, rv] /\ (∀ y, D y -> (K y /\ y < w.heap.size) \/ B <= y) /\ Fr (fun y => y = g \/ B <= y) wl wo) (fun iv _ => m - (intOf iv).toNat)
   case atStart => exact ⟨0, _, [], _, Nat.zero_le _, rfl, HG0.out, HR5.out, fun _ h => h.elim, Fr.refl _ _⟩
   case round =>
    obtain ⟨i, rv, vs, D, him, rfl, hG, hRo, hD, hF⟩ := hrel
    obtain ⟨wo, hwo⟩ : ∃ v, v = wr := ⟨_, rfl⟩
    subst hwo
    by_cases hin : i < m
    ·have hil : i < ids.length := by rw [<- HML.out]; exact hin
     obtain ⟨x, hx⟩ : ∃ x, x = ids.getD i (0, 0) := ⟨_, rfl⟩
     have hxg : ids[i]? = some x := by rw [hx, List.getD_eq_getElem?_getD, List.getElem?_eq_getElem hil]; rfl
     obtain ⟨ib, io, hIA, hib, q0, q1⟩ := HI.out.cell hxg
     have hgl := HR5.out.lt
     have hbo : Below w.heap.size w wo := HBW.out.trans (hF.toBelow (fun y hy => by have h1 := HBB.out; have h2 := HBW.out.size; have h3 := HGW.out; have h4 := HW1S.out; rcases hy with h | h <;> omega) HBW.out.size)
     have k0 := (hbo.cell (p := ⟨ib, io + i * 2, none⟩) hib).trans q0
     have k1 := (hbo.cell (p := ⟨ib, io + i * 2 + 1, none⟩) hib).trans q1
     subst hIA
     obtain ⟨ia, ig⟩ := x
     simp only at k0 k1
     obtain ⟨w6, hw6⟩ : ∃ w6, w6 = wo.alloc (.cells #[.int .i64 0, .int .i64 0, .slice none 0 0] 95) := ⟨_, rfl⟩
     have HB6 := hi_ (show Below wo.heap.size wo w6 by rw [hw6]; exact (Below.refl _ _).alloc (Nat.le_refl _) _)
     have HR6 := hi_ (show Rec 95 w6 wo.heap.size #[.int .i64 0, .int .i64 0, nilv] by rw [hw6]; exact Rec.new _ _ _)
     have HS6 := hi_ (show w6.heap.size = wo.heap.size + 1 by rw [hw6]; simp)
     have HW6 := hi_ hw6
     have HX := hi_ hx
     have HG := hi_ hG
     have HRO := hi_ hRo
     have HD := hi_ hD
     have HF := hi_ hF
     have HBO := hi_ hbo
     clear hw6 hx hxg q0 q1 hG hRo hD hF hbo hgl
     go_wp2_with (first
      | (rw [<- HW6.out]; clear HW6)
      | ((with_reducible refine wpList_stS (cs' := #[.int .i64 ia, .int .i64 ig, .slice none 0 0]) entTL rfl rfl (by simp [Value.oneCell']) rfl (.tmp 13) (.tmp 69) rfl rfl rfl HR6.out ?_); intro w7 hR7 hF7))
     have hB7 : Below wo.heap.size wo w7 := HB6.out.trans (hF7.toBelow (fun y hy => by rw [show y = wo.heap.size from hy]; exact Nat.le_refl _) HB6.out.size)
     have hs7 := hF7.size
     obtain ⟨B', hB'⟩ : ∃ B', B' = w7.heap.size := ⟨_, rfl⟩
     have hrB' : wo.heap.size < B' := by have := HS6.out; omega
     have A7 : AddI w w7 B' wo.heap.size ia ig (.slice none 0 0) [] (fun _ => False) (ldRow cs cols i 0) := ⟨Nat.le_of_eq hB', hrB', hR7, World.ownsRow_nil _ _ _ _, HdL.nil _ _, fun _ hx => hx.elim⟩
     have HA7 := hi_ A7
     have HB7 := hi_ hB7
     have HB' := hi_ hB'
     clear A7 hB7 hB' hR7 hF7 hs7 k0 k1 HR6 HB6
     go_loopw [14] (fun kv wq => ∃ (k : Nat) (pv : Value) (ps : List Value) (D' : Nat -> Prop), k <= dcn /\ kv = .int .i64 k /\ AddI w wq B' wo.heap.size ia ig pv ps D' (ldRow cs cols i k) /\ Fr (fun y => y = wo.heap.size \/ B' <= y) w7 wq /\ (∀ y, D' y -> K y /\ y < w.heap.size)) (fun kv _ => dcn - (intOf kv).toNat)
     case atStart => exact ⟨0, _, [], _, Nat.zero_le _, rfl, HA7.out, Fr.refl _ _, fun _ h => h.elim⟩
     case round =>
      obtain ⟨k, pv, ps, D', hk, rfl, hA, hFq, hD'⟩ := hrel
      have hbq : Below wo.heap.size wo wr := HB7.out.trans (hFq.toBelow (fun y hy => by rcases hy with h | h <;> omega) HB7.out.size)
      have hRq := HRO.out.under hbq
      by_cases hkn : k < dcn
      ·have hkc : k < cs.length := by rw [<- HNC.out]; exact hkn
       obtain ⟨cb, co, u, hCA, hcb, hcu, hV⟩ := HC.out.at_ hkc
       have hV0 := hV.lt
       obtain ⟨uA, un, uc, rfl, hRd, _⟩ := hV
       have hul : (cols.getD k []).length = un := hRd.1
       have hfu := HFIT.out k hkn
       obtain ⟨huc, hum⟩ := HCAP.out k uA un uc cb co hCA hkc hcu
       have hst : WStays (fun x => w1.heap.size <= x /\ x < g) wl wo := ⟨HF.out.size, fun x hx => HF.out.block x (by have := HBB.out; have := HGB.out; omega) (fun e => by have := HGB.out; rcases e with e | e <;> omega)⟩
       obtain ⟨sb, so, hSA, hsb, hsc⟩ := ((HRT5.out.s.mono (K' := fun x => w1.heap.size <= x /\ x < g) (fun x hx => by have := HGE.out; omega)).stays hst).at_ hkn
       obtain ⟨ab, ao, hAA, hab, hac⟩ := ((HRT5.out.c.mono (K' := fun x => w1.heap.size <= x /\ x < g) (fun x hx => by have := HGE.out; omega)).stays hst).at_ hkn
       rw [show (0 : Int) = ((((0 : Int), (0 : Nat)).2 : Nat) : Int) from rfl, getD_map (fun c : Int × Nat => (c.2 : Int)) cs k (0, 0) hkc] at hsc
       rw [getD_map (·.1) cs k (0, 0) hkc] at hac
       have hz := HZ.out k hkc
       simp only at hSA hAA
       subst hCA hSA hAA
       obtain ⟨c, hcc⟩ : ∃ c, c = cs.getD k (0, 0) := ⟨_, rfl⟩
       rw [<- hcc] at hsc hac hz hfu
       obtain ⟨ci, z⟩ := c
       simp only at hsc hac hz hfu
       have hcw := (HBO.out.cell (p := ⟨cb, co + k, none⟩) hcb).trans hcu
       have hcbo := Nat.lt_of_lt_of_le hcb HBO.out.size
       have hgo := HRO.out.lt
       obtain ⟨Q, hQ⟩ : ∃ Q, Q = i * z := ⟨_, rfl⟩
       have hQz : Q + z <= un := by
        have h1 := Nat.mul_le_mul_right z (show i + 1 <= m from hin)
        rw [Nat.succ_mul] at h1
        rw [hQ]
        omega
       have hu64 : un <= 65536 := by
        have h1 := Nat.mul_le_mul hm hz
        omega
       have hQi : (i : Int) * (z : Int) = (Q : Int) := by rw [hQ]; exact (Int.natCast_mul i z).symm
       obtain ⟨pA, pc, e1, _, _⟩ := own_slv hA.ow
       rw [ldRow_len] at e1
       subst e1
       obtain ⟨dA, hdA⟩ : ∃ dA, dA = if uc = Q then uA else uA.map fun x => x.add Q := ⟨_, rfl⟩
       obtain ⟨dc, hdc⟩ : ∃ dc, dc = uc - Q := ⟨_, rfl⟩
       have LW : ∀ W, Fr (fun y => y = wo.heap.size \/ B' <= y) w7 W -> Below wo.heap.size wo W := fun W hW => HB7.out.trans (hW.toBelow (fun y hy => by rcases hy with h | h <;> omega) HB7.out.size)
       have LS0 : ∀ W, Fr (fun y => y = wo.heap.size \/ B' <= y) w7 W -> W.cell? ⟨g, 0, none⟩ = some (.slice (some ⟨ab, ao, none⟩) dcn dcc) /\ W.cell? ⟨ab, ao + k, none⟩ = some (.int .i64 ci) /\ W.cell? ⟨cb, co + k, none⟩ = some (.slice uA un uc) := fun W hW => by
        have l := LW W hW
        exact ⟨(HRO.out.under l).at_ 0, (l.cell (p := ⟨ab, ao + k, none⟩) hab).trans hac, (l.cell (p := ⟨cb, co + k, none⟩) hcbo).trans hcw⟩
       have g1 : wr.cell? ⟨g, 1, none⟩ = some (.slice (some ⟨sb, so, none⟩) dcn dsc) := hRq.at_ 1
       have ksz := (hbq.cell (p := ⟨sb, so + k, none⟩) hsb).trans hsc
       have hbw : Below w.heap.size w wr := HBO.out.trans (hbq.mono HBO.out.size)
       have HU : Hid (VB (fun y => K y /\ y < w.heap.size) wr (.slice dA z dc) (((cols.getD k []).drop (i * z)).take z)) := hi_ (by
        obtain ⟨A9, n9, c9, e9, hr9, hk9⟩ := hV0.below hbw
        injection e9 with e91 e92 e93
        rw [<- e91, <- e92] at hr9
        rw [<- e91, <- e92] at hk9
        refine ⟨dA, z, dc, rfl, ?_, fun q o e hp => ?_⟩
        ·rw [<- hQ]
         exact hr9.part hQz dA (fun hz0 b o e => by rw [hdA, e, if_neg (by omega)]; simp [Addr.add_lit])
        ·obtain ⟨b', o', e', _⟩ := hr9.2 (by omega)
         have e2 : dA = some ⟨b', o' + Q, none⟩ := by rw [hdA, e', if_neg (by omega)]; simp [Addr.add_lit]
         rw [e2] at e
         injection e with e
         injection e with e1 _
         subst e1
         exact hk9 b' o' e' (by omega))
       have HEX : Hid (∀ x, (K x /\ x < w.heap.size) -> x ≠ wo.heap.size /\ (Value.slice pA k pc).ownBlock ≠ some x) := hi_ (fun x hx => ⟨by have := HBO.out.size; omega, fun e => by have := own_ge hA.ow e; have := HBO.out.size; omega⟩)
       have JR := hi_ hA
       have JRd := hi_ (hA.below (Below.refl _ _).drew)
       have FR := hi_ hFq
       have LS := hi_ LS0
       have s17d := LS0 wr.drew (hFq.trans (Fr.drew _ _))
       have HCC := hi_ hcc
       have HDA := hi_ hdA
       have HDC := hi_ hdc
       have HD' := hi_ hD'
       have HQ := hi_ hQ
       clear hA hFq LS0 LW hV0 hRd hul hfu hst hcc hcw hQ hdA hdc hD' hsc hac hcu hbw hRq hbq
       have hw1 : IntKind.i64.wrap (Q : Int) = (Q : Int) := by rw [IntKind.wrap_i64]; omega
       have hw2 : IntKind.i64.wrap ((Q : Int) + (z : Int)) = (Q : Int) + (z : Int) := by rw [IntKind.wrap_i64]; omega
       have hq1 : (0 : Int) <= (Q : Int) + (z : Int) /\ (Q : Int) + (z : Int) <= (uc : Int) := by omega
       have hq2 : (0 : Int) <= (Q : Int) /\ (Q : Int) <= max ((Q : Int) + (z : Int)) 0 := by omega
       have hq4 : (Q : Int) <= (Q : Int) + (z : Int) := by omega
       have hq3 : ((Q : Int) + (z : Int)).toNat - Q = z := by omega
       go_wp2_with fail
       refine wp_region_noPanic ?_
       refine wp_region_held_drew (S := fun W => W.cell? ⟨g, 0, none⟩ = some (.slice (some ⟨ab, ao, none⟩) dcn dcc) /\ W.cell? ⟨ab, ao + k, none⟩ = some (.int .i64 ci) /\ W.cell? ⟨cb, co + k, none⟩ = some (.slice uA un uc)) (by kernel_rfl) s17d (fun hHeld => ?_)
       refine tk_ 0 ⟨some 81, .fieldAddr 95 (.tmp 13) 1, 0, "ref.go:54", #[], none⟩ hHeld ?_
       simp only [Act.put, sA_, sB_, sC_]
       refine tk_ 2 ⟨some 83, .fieldAddr 127 (.tmp 10) 0, 0, "ref.go:54", #[], none⟩ hHeld ?_
       simp only [Act.put, sA_, sB_, sC_]
       refine tk_ 3 ⟨some 84, .load 38 (.tmp 83), 38, "ref.go:54", #[⟨2, .data⟩], none⟩ hHeld ?_
       simp only [Act.put, sA_, sB_, sC_]
       refine tk_ 4 ⟨some 85, .move (.tmp 14), 3, "ref.go:54", #[], none⟩ hHeld ?_
       simp only [Act.put, sA_, sB_, sC_]
       refine tk_ 5 ⟨some 86, .indexAddr 38 (.tmp 84) (.tmp 85), 0, "ref.go:54", #[⟨3, .data⟩, ⟨4, .data⟩], none⟩ hHeld ?_
       simp only [Act.put, sA_, sB_, sC_]
       refine tk_ 6 ⟨some 87, .load 3 (.tmp 86), 3, "ref.go:54", #[⟨5, .data⟩], none⟩ hHeld ?_
       simp only [Act.put, sA_, sB_, sC_]
       refine tk_ 7 ⟨some 88, .move (.tmp 3), 98, "ref.go:54", #[], none⟩ hHeld ?_
       simp only [Act.put, sA_, sB_, sC_]
       refine tk_ 8 ⟨some 89, .move (.tmp 14), 3, "ref.go:54", #[], none⟩ hHeld ?_
       simp only [Act.put, sA_, sB_, sC_]
       refine tk_ 9 ⟨some 90, .indexAddr 98 (.tmp 88) (.tmp 89), 0, "ref.go:54", #[⟨7, .data⟩, ⟨8, .data⟩], none⟩ hHeld ?_
       simp only [Act.put, sA_, sB_, sC_]
       refine tk_ 10 ⟨some 91, .load 33 (.tmp 90), 33, "ref.go:54", #[⟨9, .data⟩], none⟩ hHeld ?_
       simp only [Act.put, sA_, sB_, sC_]
       refine tk_ 11 ⟨some 92, .move (.tmp 12), 3, "ref.go:54", #[], none⟩ hHeld ?_
       simp only [Act.put, sA_, sB_, sC_]
       refine tk_ 12 ⟨some 93, .move (.tmp 15), 3, "ref.go:54", #[], none⟩ hHeld ?_
       simp only [Act.put, sA_, sB_, sC_]
       refine tk_ 13 ⟨some 94, .binOp .mul 3 (.tmp 92) (.tmp 93) 3, 3, "ref.go:54", #[⟨11, .data⟩, ⟨12, .data⟩], none⟩ hHeld ?_
       simp only [Act.put, sA_, sB_, sC_]
       refine tk_ 14 ⟨some 95, .move (.tmp 12), 3, "ref.go:54", #[], none⟩ hHeld ?_
       simp only [Act.put, sA_, sB_, sC_]
       refine tk_ 15 ⟨some 96, .move (.tmp 15), 3, "ref.go:54", #[], none⟩ hHeld ?_
       simp only [Act.put, sA_, sB_, sC_]
       refine tk_ 16 ⟨some 97, .binOp .mul 3 (.tmp 95) (.tmp 96) 3, 3, "ref.go:54", #[⟨14, .data⟩, ⟨15, .data⟩], none⟩ hHeld ?_
       simp only [Act.put, sA_, sB_, sC_]
       refine tk_ 17 ⟨some 98, .move (.tmp 15), 3, "ref.go:54", #[], none⟩ hHeld ?_
       simp only [Act.put, sA_, sB_, sC_]
       refine tk_ 18 ⟨some 99, .binOp .add 3 (.tmp 97) (.tmp 98) 3, 3, "ref.go:54", #[⟨16, .data⟩, ⟨17, .data⟩], none⟩ hHeld ?_
       simp only [Act.put, sA_, sB_, sC_]
       refine tk_ 19 ⟨some 100, .slice 33 (.tmp 91) (some (.tmp 94)) (some (.tmp 99)) none, 33, "ref.go:54", #[⟨10, .data⟩, ⟨13, .data⟩, ⟨18, .data⟩], none⟩ hHeld ?_
       simp only [Act.put, sA_, sB_, sC_]
       refine tk_ 20 ⟨some 101, .build 143 #[(0, .tmp 87), (1, .tmp 100)], 143, "ref.go:54", #[⟨6, .data⟩, ⟨19, .data⟩], none⟩ hHeld ?_
       simp only [Act.put, sA_, sB_, sC_]
       refine wpAnyH_ready (rs := [1, 21]) (by kernel_rfl) (by simp) ?_
       refine AllReadyH.cons (o := ⟨some 82, .load 91 (.tmp 81), 91, "ref.go:54", #[⟨0, .data⟩], none⟩) rfl (fun K' hK => ?_) (AllReadyH.cons (o := ⟨some 102, .buildSlice 91 1 #[(0, .tmp 101)], 91, "ref.go:54", #[⟨20, .data⟩], none⟩) rfl (fun K' hK => ?_) AllReadyH.nil)
       ·have q4 : wr.drew.cell? ⟨wo.heap.size, 2, none⟩ = some (.slice pA k pc) := JRd.out.blk.at_ 2
        go_simp
        clear q4
        refine hK.out _ _ s17d (fun hHeld => ?_)
        clear hK K'
        try simp only [Act.put, sA_, sB_, sC_]
        refine wpAnyH_ready (rs := [21]) (by kernel_rfl) (by simp) ?_
        refine AllReadyH.cons (o := ⟨some 102, .buildSlice 91 1 #[(0, .tmp 101)], 91, "ref.go:54", #[⟨20, .data⟩], none⟩) rfl (fun K' hK => ?_) AllReadyH.nil
        go_simp
        try rw [hq3]
        rw [<- HDA.out, <- HDC.out]
        obtain ⟨xB, hxB⟩ : ∃ W, W = wr.drew.alloc (.cells #[.int .i64 ci, .slice dA z dc] 143) := ⟨_, rfl⟩
        have bB : Below wr.heap.size wr xB := by rw [hxB]; exact (Below.refl _ _).drew.alloc (Nat.le_refl _) _
        have hV : VRow (fun y => wr.heap.size <= y) xB (some ⟨wr.heap.size, 0, none⟩) 1 2 [.int .i64 ci, .slice dA z dc] := by rw [hxB]; exact VRow.new wr.drew #[.int .i64 ci, .slice dA z dc] _ 1 2 rfl
        have JB := hi_ (JR.out.below bB)
        have FB := hi_ (FR.out.trans (Fr.ofBelow (fun y => y = wo.heap.size \/ B' <= y) bB))
        have sB := LS.out xB FB.out
        have HVB := hi_ hV
        have HUB := hi_ (HU.out.below bB)
        first | rw [<- hxB] | (rw [show (wr.alloc (.cells #[.int .i64 ci, .slice dA z dc] 143)).drew = xB from hxB.symm])
        clear hxB bB hV
        refine hK.out _ _ sB (fun hHeld => ?_)
        clear hK K'
        try simp only [Act.put, sA_, sB_, sC_]
        refine wpAnyH_ready (rs := [22]) (by kernel_rfl) (by simp) ?_
        refine AllReadyH.cons (o := ⟨some 103, .call { callee := .builtin .append, args := #[.tmp 82, .tmp 102], argTypes := #[91, 91] }, 91, "ref.go:54", #[⟨1, .data⟩, ⟨21, .data⟩], none⟩) rfl (fun K' hK => ?_) AllReadyH.nil
        refine step_appX (K := fun y => wr.heap.size <= y) partsT rfl (.tmp 82) (.tmp 102) rfl B' (.slice pA k pc) k ps rfl (by have := JB.out.ow; rw [ldRow_len] at this; exact this) (some ⟨wr.heap.size, 0, none⟩) 1 1 [.int .i64 ci, .slice dA z dc] rfl HVB.out (fun u hu => by simp at hu; rcases hu with rfl | rfl <;> rfl) (by omega) (by decide) JB.out.Bw ?_
        intro vA xA hoA hgA hvA
        obtain ⟨AA, cA2, rfl, _, _⟩ := own_slv hoA
        have hC := JB.out.put (c := ci) HUB.out HEX.out (by rw [ldRow_len]; exact hoA) hgA hvA
        have FA := hi_ (JB.out.fr FB.out hgA)
        have sA := LS.out xA FA.out
        have kA : xA.cell? ⟨wo.heap.size, 2, none⟩ = some (.slice pA k pc) := hC.1.at_ 2
        have fA := hC.1.fz 2
        have szB := JB.out.Bw
        have JA := hi_ hC.2
        clear hC hoA hgA hvA
        refine hK.out _ _ sA (fun hHeld => ?_)
        clear hK K'
        try simp only [Act.put, sA_, sB_, sC_]
        refine tk_ 23 ⟨some 104, .fieldAddr 95 (.tmp 13) 1, 0, "ref.go:54", #[⟨0, .phase⟩, ⟨1, .phase⟩, ⟨2, .phase⟩, ⟨3, .phase⟩, ⟨4, .phase⟩, ⟨5, .phase⟩, ⟨6, .phase⟩, ⟨7, .phase⟩, ⟨8, .phase⟩, ⟨9, .phase⟩, ⟨10, .phase⟩, ⟨11, .phase⟩, ⟨12, .phase⟩, ⟨13, .phase⟩, ⟨14, .phase⟩, ⟨15, .phase⟩, ⟨16, .phase⟩, ⟨17, .phase⟩, ⟨18, .phase⟩, ⟨19, .phase⟩, ⟨20, .phase⟩, ⟨21, .phase⟩, ⟨22, .phase⟩], none⟩ hHeld ?_
        simp only [Act.put, sA_, sB_, sC_]
        refine wpAnyH_ready (rs := [24]) (by kernel_rfl) (by simp) ?_
        refine AllReadyH.cons (o := ⟨none, .store 91 (.tmp 104) (.tmp 103), 0, "ref.go:54", #[⟨23, .data⟩, ⟨22, .data⟩, ⟨22, .chain⟩, ⟨0, .phase⟩, ⟨1, .phase⟩, ⟨2, .phase⟩, ⟨3, .phase⟩, ⟨4, .phase⟩, ⟨5, .phase⟩, ⟨6, .phase⟩, ⟨7, .phase⟩, ⟨8, .phase⟩, ⟨9, .phase⟩, ⟨10, .phase⟩, ⟨11, .phase⟩, ⟨12, .phase⟩, ⟨13, .phase⟩, ⟨14, .phase⟩, ⟨15, .phase⟩, ⟨16, .phase⟩, ⟨17, .phase⟩, ⟨18, .phase⟩, ⟨19, .phase⟩, ⟨20, .phase⟩, ⟨21, .phase⟩, ⟨22, .phase⟩], none⟩) rfl (fun K' hK => ?_) AllReadyH.nil
        have F9 := hi_ (FA.out.trans ((Fr.setCell (own := (· = wo.heap.size)) xA (p := ⟨wo.heap.size, 2, none⟩) rfl (.slice AA (k + 1) cA2)).mono (fun y hy => .inl hy)))
        have sX := LS.out _ F9.out
        go_simp
        refine hK.out _ _ sX (fun hHeld => ?_)
        clear hK K'
        try simp only [Act.put]
        refine wpAnyH_done (by kernel_rfl) ?_ _
        refine NoPanic.normal ?_
        go_wp2_with fail
        go_roundw
        case rel =>
         refine ⟨k + 1, .slice AA (k + 1) cA2, ps ++ [.int .i64 ci, .slice dA z dc], fun x => D' x \/ ((K x /\ x < w.heap.size) /\ x < xB.heap.size), hkn, by go_num, ?_, F9.out, ?_⟩
         ·rw [ldRow_succ, <- HCC.out]
          exact JA.out
         ·intro y hy
          rcases hy with h | ⟨h, _⟩
          ·exact HD'.out y h
          ·exact h
        case measure => simp [intOf]; omega
       ·go_simp
        try rw [hq3]
        rw [<- HDA.out, <- HDC.out]
        obtain ⟨xB, hxB⟩ : ∃ W, W = wr.drew.alloc (.cells #[.int .i64 ci, .slice dA z dc] 143) := ⟨_, rfl⟩
        have bB : Below wr.heap.size wr xB := by rw [hxB]; exact (Below.refl _ _).drew.alloc (Nat.le_refl _) _
        have hV : VRow (fun y => wr.heap.size <= y) xB (some ⟨wr.heap.size, 0, none⟩) 1 2 [.int .i64 ci, .slice dA z dc] := by rw [hxB]; exact VRow.new wr.drew #[.int .i64 ci, .slice dA z dc] _ 1 2 rfl
        have JB := hi_ (JR.out.below bB)
        have FB := hi_ (FR.out.trans (Fr.ofBelow (fun y => y = wo.heap.size \/ B' <= y) bB))
        have sB := LS.out xB FB.out
        have HVB := hi_ hV
        have HUB := hi_ (HU.out.below bB)
        first | rw [<- hxB] | (rw [show (wr.alloc (.cells #[.int .i64 ci, .slice dA z dc] 143)).drew = xB from hxB.symm])
        clear hxB bB hV
        refine hK.out _ _ sB (fun hHeld => ?_)
        clear hK K'
        try simp only [Act.put, sA_, sB_, sC_]
        refine wpAnyH_ready (rs := [1]) (by kernel_rfl) (by simp) ?_
        refine AllReadyH.cons (o := ⟨some 82, .load 91 (.tmp 81), 91, "ref.go:54", #[⟨0, .data⟩], none⟩) rfl (fun K' hK => ?_) AllReadyH.nil
        have q4 : xB.cell? ⟨wo.heap.size, 2, none⟩ = some (.slice pA k pc) := JB.out.blk.at_ 2
        go_simp
        clear q4
        refine hK.out _ _ sB (fun hHeld => ?_)
        clear hK K'
        try simp only [Act.put, sA_, sB_, sC_]
        refine wpAnyH_ready (rs := [22]) (by kernel_rfl) (by simp) ?_
        refine AllReadyH.cons (o := ⟨some 103, .call { callee := .builtin .append, args := #[.tmp 82, .tmp 102], argTypes := #[91, 91] }, 91, "ref.go:54", #[⟨1, .data⟩, ⟨21, .data⟩], none⟩) rfl (fun K' hK => ?_) AllReadyH.nil
        refine step_appX (K := fun y => wr.heap.size <= y) partsT rfl (.tmp 82) (.tmp 102) rfl B' (.slice pA k pc) k ps rfl (by have := JB.out.ow; rw [ldRow_len] at this; exact this) (some ⟨wr.heap.size, 0, none⟩) 1 1 [.int .i64 ci, .slice dA z dc] rfl HVB.out (fun u hu => by simp at hu; rcases hu with rfl | rfl <;> rfl) (by omega) (by decide) JB.out.Bw ?_
        intro vA xA hoA hgA hvA
        obtain ⟨AA, cA2, rfl, _, _⟩ := own_slv hoA
        have hC := JB.out.put (c := ci) HUB.out HEX.out (by rw [ldRow_len]; exact hoA) hgA hvA
        have FA := hi_ (JB.out.fr FB.out hgA)
        have sA := LS.out xA FA.out
        have kA : xA.cell? ⟨wo.heap.size, 2, none⟩ = some (.slice pA k pc) := hC.1.at_ 2
        have fA := hC.1.fz 2
        have szB := JB.out.Bw
        have JA := hi_ hC.2
        clear hC hoA hgA hvA
        refine hK.out _ _ sA (fun hHeld => ?_)
        clear hK K'
        try simp only [Act.put, sA_, sB_, sC_]
        refine tk_ 23 ⟨some 104, .fieldAddr 95 (.tmp 13) 1, 0, "ref.go:54", #[⟨0, .phase⟩, ⟨1, .phase⟩, ⟨2, .phase⟩, ⟨3, .phase⟩, ⟨4, .phase⟩, ⟨5, .phase⟩, ⟨6, .phase⟩, ⟨7, .phase⟩, ⟨8, .phase⟩, ⟨9, .phase⟩, ⟨10, .phase⟩, ⟨11, .phase⟩, ⟨12, .phase⟩, ⟨13, .phase⟩, ⟨14, .phase⟩, ⟨15, .phase⟩, ⟨16, .phase⟩, ⟨17, .phase⟩, ⟨18, .phase⟩, ⟨19, .phase⟩, ⟨20, .phase⟩, ⟨21, .phase⟩, ⟨22, .phase⟩], none⟩ hHeld ?_
        simp only [Act.put, sA_, sB_, sC_]
        refine wpAnyH_ready (rs := [24]) (by kernel_rfl) (by simp) ?_
        refine AllReadyH.cons (o := ⟨none, .store 91 (.tmp 104) (.tmp 103), 0, "ref.go:54", #[⟨23, .data⟩, ⟨22, .data⟩, ⟨22, .chain⟩, ⟨0, .phase⟩, ⟨1, .phase⟩, ⟨2, .phase⟩, ⟨3, .phase⟩, ⟨4, .phase⟩, ⟨5, .phase⟩, ⟨6, .phase⟩, ⟨7, .phase⟩, ⟨8, .phase⟩, ⟨9, .phase⟩, ⟨10, .phase⟩, ⟨11, .phase⟩, ⟨12, .phase⟩, ⟨13, .phase⟩, ⟨14, .phase⟩, ⟨15, .phase⟩, ⟨16, .phase⟩, ⟨17, .phase⟩, ⟨18, .phase⟩, ⟨19, .phase⟩, ⟨20, .phase⟩, ⟨21, .phase⟩, ⟨22, .phase⟩], none⟩) rfl (fun K' hK => ?_) AllReadyH.nil
        have F9 := hi_ (FA.out.trans ((Fr.setCell (own := (· = wo.heap.size)) xA (p := ⟨wo.heap.size, 2, none⟩) rfl (.slice AA (k + 1) cA2)).mono (fun y hy => .inl hy)))
        have sX := LS.out _ F9.out
        go_simp
        refine hK.out _ _ sX (fun hHeld => ?_)
        clear hK K'
        try simp only [Act.put]
        refine wpAnyH_done (by kernel_rfl) ?_ _
        refine NoPanic.normal ?_
        go_wp2_with fail
        go_roundw
        case rel =>
         refine ⟨k + 1, .slice AA (k + 1) cA2, ps ++ [.int .i64 ci, .slice dA z dc], fun x => D' x \/ ((K x /\ x < w.heap.size) /\ x < xB.heap.size), hkn, by go_num, ?_, F9.out, ?_⟩
         ·rw [ldRow_succ, <- HCC.out]
          exact JA.out
         ·intro y hy
          rcases hy with h | ⟨h, _⟩
          ·exact HD'.out y h
          ·exact h
        case measure => simp [intOf]; omega
      ·have hke : dcn = k := by omega
       subst hke
       obtain ⟨pA, pc, e1, _, _⟩ := own_slv hA.ow
       rw [ldRow_len] at e1
       subst e1
       obtain ⟨rA, rc, e2, _, _⟩ := own_slv HG.out.ow
       rw [ldRows_len] at e2
       subst e2
       have hGp : Gr EP 143 2 wr B' (.slice pA dcn pc) ps D' (ldRow cs cols i dcn) := ⟨hA.Bw, hA.ow, hA.hd, fun x hx => ⟨(hA.dx x hx).1, (hA.dx x hx).2.2⟩⟩
       obtain ⟨A2, c2, e3, _, _, hpv⟩ := hGp.rows EP.ok
       rw [ldRow_len] at e3 hpv
       injection e3 with e31 e32 e33
       rw [<- e31] at hpv
       clear e31 e32 e33
       obtain ⟨Kx, hKx⟩ : ∃ Kx : Nat -> Prop, Kx = fun x => D' x \/ (B' <= x /\ x < wr.heap.size) := ⟨_, rfl⟩
       rw [<- hKx] at hpv
       have hEE : EE Kx wr ((ia, ig), ldRow cs cols i dcn) [.int .i64 ia, .int .i64 ig, .slice pA dcn pc] := ⟨pA, dcn, pc, rfl, hpv⟩
       obtain ⟨w8, hw8⟩ : ∃ w8, w8 = wr.alloc (.cells #[.int .i64 ia, .int .i64 ig, .slice pA dcn pc] 95) := ⟨_, rfl⟩
       have b8 : Below wr.heap.size wr w8 := by rw [hw8]; exact (Below.refl _ _).alloc (Nat.le_refl _) _
       have HV8 : Hid (VRow (fun x => wr.heap.size <= x) w8 (some ⟨wr.heap.size, 0, none⟩) 1 3 [.int .i64 ia, .int .i64 ig, .slice pA dcn pc]) := hi_ (by rw [hw8]; exact VRow.new wr #[.int .i64 ia, .int .i64 ig, .slice pA dcn pc] _ 1 3 rfl)
       have b8o := hbq.trans (b8.mono hbq.size)
       have G8 := hi_ (HG.out.below EE.ok b8o)
       have hE8 := hi_ (EE.ok.below hEE b8)
       have hBB' : B <= wo.heap.size := HG.out.Bw
       have HKX := hi_ (show ∀ y, Kx y -> (Value.slice rA i rc).ownBlock ≠ some y from fun y hy e => by
        have h1 := own_geB HG.out.ow e
        have h2 := HBW.out.size
        have h3 := HBB.out
        rw [hKx] at hy
        rcases hy with h | h
        ·have := hD' y h
         omega
        ·omega)
       have HKD := hi_ (show ∀ y, Kx y -> (K y /\ y < w.heap.size) \/ B <= y from fun y hy => by
        rw [hKx] at hy
        rcases hy with h | h
        ·exact .inl (hD' y h)
        ·exact .inr (by omega))
       have c2 : wr.cell? ⟨g, 2, none⟩ = some (.slice rA i rc) := hRq.at_ 2
       have HW8 := hi_ hw8
       have HB8 := hi_ b8
       have HB8o := hi_ b8o
       have HA := hi_ hA
       have HRQ := hi_ hRq
       clear hw8 b8 b8o hA hRq hbq hFq hGp hpv hEE hKx hD'
       go_wp2_with (first
        | ((with_reducible refine wpList_ldS entTL rfl rfl (.tmp 13) rfl rfl HA.out.blk ?_))
        | (rw [<- HW8.out]; clear HW8)
        | (at_builtin; refine wpList_appX entsT rfl (.tmp 106) (.tmp 108) rfl B (.slice rA i rc) i vs rfl (by have := G8.out.ow; rw [ldRows_len] at this; exact this) (some ⟨wr.heap.size, 0, none⟩) 1 1 [.int .i64 ia, .int .i64 ig, .slice pA dcn pc] rfl HV8.out (fun u hu => by simp at hu; rcases hu with rfl | rfl | rfl <;> rfl) (by omega) (by decide) G8.out.Bw ?_; intro v9 w9 ho9 hg9 hv9; have hG9 := G8.out.put EE.ok rfl hE8.out HKX.out (by rw [ldRows_len]; exact ho9) hg9 hv9; have hF9 := Fr.grown hg9 (own := fun y => B <= y) (fun x hx => (own_geB G8.out.ow hx).1); obtain ⟨rA9, rc9, rfl, _, _⟩ := own_slv ho9; have hR9 := (HRQ.out.under HB8.out).fr hF9 (fun e => by have := HGB.out; have e' : B <= g := e; omega); have k9 : w9.cell? ⟨g, 2, none⟩ = some (.slice rA i rc) := hR9.at_ 2; have f9 := hR9.fz 2; have G9 := hi_ hG9; have F9 := hi_ hF9; have R9 := hi_ hR9; clear hG9 hF9 hR9 ho9 hg9 hv9))
       obtain ⟨w10, hw10⟩ : ∃ w10, w10 = w9.setCell ⟨g, 2, none⟩ (.slice rA9 (i + 1) rc9) := ⟨_, rfl⟩
       have hF10 : Fr (· = g) w9 w10 := by rw [hw10]; exact Fr.setCell (own := (· = g)) w9 (p := ⟨g, 2, none⟩) rfl _
       have hR10 : Rec 127 w10 g #[.slice dCA dcn dcc, .slice dSA dcn dsc, .slice rA9 (i + 1) rc9] := by rw [hw10]; exact R9.out.set 2 _
       rw [<- hw10]
       have hgB := HGB.out
       have hDg : ∀ y, (D y \/ (Kx y /\ y < w8.heap.size)) -> (K y /\ y < w.heap.size) \/ B <= y := fun y hy => by
        rcases hy with h | h
        ·exact HD.out y h
        ·exact HKD.out y h.1
       have hgw := HGW.out
       have hw1s := HW1S.out
       have hG10 := G9.out.turn EE.ok hF10 hgB (fun hx => by rcases hDg g hx with h | h <;> omega)
       rw [show ((ia, ig), ldRow cs cols i dcn) = (ids.getD i (0, 0), ldRow cs cols i cs.length) by rw [<- HX.out, <- HNC.out], <- ldRows_succ] at hG10
       have hF : Fr (fun y => y = g \/ B <= y) wl w10 := ((HF.out.trans (Fr.ofBelow _ HB8o.out)).trans (F9.out.mono (fun y hy => .inr hy))).trans (hF10.mono (fun y hy => .inl hy))
       have HR10 := hi_ hR10
       have HG10 := hi_ hG10
       have HF10 := hi_ hF
       have HDg := hi_ hDg
       clear hw10 hF10 hR10 hG10 hF hDg k9 f9 c2
       go_wp2_with fail
       go_roundw
       case rel => exact ⟨i + 1, _, _, _, hin, by go_num, HG10.out, HR10.out, HDg.out, HF10.out⟩
       case measure => simp [intOf]; omega
    ·have hie : m = i := by omega
     subst hie
     obtain ⟨rA, rc, e1, _, _, hrw⟩ := hG.rows EE.ok
     rw [ldRows_len] at e1 hrw
     subst e1
     have hgl := HR5.out.lt
     have hs2 := HBW.out.size
     have hBBo := HBB.out
     have hwz : Rec 127 wo (w.heap.size + 1) zT := by
      have h1 := (HZ4.out.under HB.out)
      exact h1.fr hF (fun e => by have := HB1.out.size; have := HGW.out; have := HBB.out; have := HGB.out; have := HW1S.out; rcases e with e | e <;> omega)
     go_wp2_with (first
      | ((with_reducible refine wpList_ldS rtabT rfl rfl (.tmp 10) rfl rfl hRo ?_))
      | ((with_reducible refine wpList_stS (cs' := #[.slice dCA dcn dcc, .slice dSA dcn dsc, .slice rA m rc]) rtabT rfl rfl (by simp [Value.oneCell']) rfl (.tmp 8) (.tmp 111) rfl rfl rfl hwz ?_); intro w5 hR5 hF5))
     refine bodyPost_ret (res_ct rfl rfl (hR5.load rtabT rfl)) rfl ?_
     have h1 := HW1S.out
     have h2 := HGW.out
     have h3 := HGB.out
     have hbo : Below w.heap.size w wo := HBW.out.trans (hF.toBelow (fun y hy => by rcases hy with h | h <;> omega) HBW.out.size)
     have hso := hF.size
     have hs5 := hF5.size
     have hb5 : Below w.heap.size w w5 := hbo.trans (hF5.toBelow (fun x hx => by rw [show x = w.heap.size + 1 from hx]; omega) hbo.size)
     have hst : WStays (fun x => w1.heap.size <= x /\ x < g) wl w5 := ⟨by omega, fun x hx => (hF5.block x (by omega) (fun e => by have e' : x = w.heap.size + 1 := e; omega)).trans (hF.block x (by omega) (fun e => by rcases e with e | e <;> omega))⟩
     refine ⟨hb5, .inl ⟨fun j hj => ?_, ⟨dCA, dcn, dcc, dSA, dcn, dsc, rA, m, rc⟩, rfl, ?_⟩⟩
     ·rw [<- HML.out]
      exact HFIT.out j (by rw [HNC.out]; exact hj)
     ·have hc9 := (HRT5.out.c.mono (K' := fun x => w1.heap.size <= x /\ x < g) (fun x hx => by have := HGE.out; omega)).stays hst
      have hs9 := (HRT5.out.s.mono (K' := fun x => w1.heap.size <= x /\ x < g) (fun x hx => by have := HGE.out; omega)).stays hst
      have hdx := hG.dx
      have hr9 : EntsV (fun x => D x \/ (B <= x /\ x < wo.heap.size)) w5 rA m (ldRows cs ids cols m) := by
       have h0 : EntsV (fun x => D x \/ (B <= x /\ x < wo.heap.size)) wo rA m (ldRows cs ids cols m) := hrw
       exact h0.stays ⟨hs5, fun x hx => hF5.block x (by rcases hx with h | h; exact (hdx x h).1; exact h.2) (fun e => by
        have e' : x = w.heap.size + 1 := e
        rcases hx with h | h
        ·rcases hD x h with h | h <;> omega
        ·omega)⟩
      rw [<- HML.out]
      exact ⟨hc9.mono (fun x hx => .inr (by omega)), hs9.mono (fun x hx => .inr (by omega)), hr9.mono (fun x hx => by
       rcases hx with h | h
       ·have h9 := (hdx x h).1
        rcases hD x h with h | h
        ·exact .inl h.1
        ·exact .inr (by omega)
       ·exact .inr (by omega))⟩
end
end Go.Proofs.YtaoinkjjmakhaaaGreatDoor
namespace Go.Proofs.YtaoinkjjmakhaaaGreatDoor
structure NS where
 E : Nat
 L : Int
 g : List Int
 fr : List Int
def NS.live (s : NS) (k : Int) : Bool := decide (0 <= k /\ k < s.g.length /\ k ∉ s.fr /\ s.g.getD k.toNat 0 < s.L)
def NS.at_ (s : NS) (k : Int) : (Int × Int) × Bool := if s.live k = true then ((k, s.g.getD k.toNat 0), true) else ((0, 0), false)
def NS.alive (s : NS) (i gen : Int) : Bool := s.live i && decide (s.g.getD i.toNat 0 = gen)
def NS.liveL (s : NS) : List Bool := (List.range s.g.length).map fun (i : Nat) => s.live i
def NS.cnt (s : NS) (n : Nat) : Nat := ((List.range n).filter fun (i : Nat) => s.live i).length
structure NS.Ok (s : NS) : Prop where
 E1 : 1 <= s.E
 E2 : s.E <= 1024
 L1 : 1 <= s.L
 L2 : s.L <= 1073741824
 len : s.g.length <= s.E
 gz : ∀ x ∈ s.g, 0 <= x /\ x <= s.L
 fz : ∀ k ∈ s.fr, 0 <= k /\ k < s.g.length /\ 1 <= s.g.getD k.toNat 0 /\ s.g.getD k.toNat 0 < s.L
 nd : s.fr.Nodup
def nears (n : Int) (high : Int) : Int := min (max n 1) high
def NS.new (entities gens : Int) : NS := ⟨(nears entities 1024).toNat, nears gens 1073741824, [], []⟩
def NS.take (s : NS) : NS × (Int × Int) × Int :=
 if s.fr = [] then
  if s.g.length = s.E then (s, (0, 0), 9) else ({ s with g := s.g ++ [0] }, (s.g.length, 0), 0)
 else ({ s with fr := s.fr.dropLast }, (s.fr.getLastD 0, s.g.getD (s.fr.getLastD 0).toNat 0), 0)
theorem nears_bounds (n high : Int) (h : 1 <= high) : 1 <= nears n high /\ nears n high <= high := by unfold nears; omega
section
variable {s : NS}
theorem NS.live_iff {k : Int} : s.live k = true ↔ 0 <= k /\ k < s.g.length /\ k ∉ s.fr /\ s.g.getD k.toNat 0 < s.L := by simp [NS.live]
theorem NS.liveL_len (s : NS) : s.liveL.length = s.g.length := by simp [NS.liveL]
theorem NS.liveL_get (s : NS) {j : Nat} (h : j < s.liveL.length) : s.liveL[j] = s.live j := by simp [NS.liveL]
theorem NS.Ok.gD (h : s.Ok) (j : Nat) : 0 <= s.g.getD j 0 /\ s.g.getD j 0 <= s.L := by
 by_cases hj : j < s.g.length
 ·have := h.gz (s.g[j]) (List.getElem_mem hj)
  simpa [List.getD, List.getElem?_eq_getElem hj] using this
 ·have := h.L1
  simp [List.getD, List.getElem?_eq_none (Nat.not_lt.1 hj)]
  omega
theorem NS.new_ok (entities gens : Int) : (NS.new entities gens).Ok := by
 have h1 := nears_bounds entities 1024 (by decide)
 have h2 := nears_bounds gens 1073741824 (by decide)
 refine ⟨?_, ?_, h2.1, h2.2, ?_, fun x hx => absurd hx List.not_mem_nil, fun x hx => absurd hx List.not_mem_nil, List.nodup_nil⟩
 ·show 1 <= (nears entities 1024).toNat; omega
 ·show (nears entities 1024).toNat <= 1024; omega
 ·show (0 : Nat) <= _; exact Nat.zero_le _
theorem NS.cnt_succ (s : NS) (n : Nat) : s.cnt (n + 1) = s.cnt n + (if s.live n = true then 1 else 0) := by
 unfold NS.cnt
 rw [List.range_succ, List.filter_append, List.length_append]
 by_cases h : s.live n = true <;> simp [h]
theorem NS.cnt_le (s : NS) (n : Nat) : s.cnt n <= n := by
 unfold NS.cnt
 have := List.length_filter_le (fun (i : Nat) => s.live i) (List.range n)
 rw [List.length_range] at this
 exact this
theorem NS.fr_last (h : s.fr ≠ []) : s.fr = s.fr.dropLast ++ [s.fr.getLastD 0] := by
 have := (List.dropLast_concat_getLast h).symm
 rw [List.getLastD_eq_getLast?, List.getLast?_eq_some_getLast h]
 exact this
theorem NS.last_mem (h : s.fr ≠ []) : s.fr.getLastD 0 ∈ s.fr := by
 rw [List.getLastD_eq_getLast?, List.getLast?_eq_some_getLast h]
 exact List.getLast_mem h
theorem NS.take_free (h : s.fr ≠ []) : s.take = ({ s with fr := s.fr.dropLast }, (s.fr.getLastD 0, s.g.getD (s.fr.getLastD 0).toNat 0), 0) := by unfold NS.take; rw [if_neg h]
theorem NS.take_full (h : s.fr = []) (hf : s.g.length = s.E) : s.take = (s, (0, 0), 9) := by unfold NS.take; rw [if_pos h, if_pos hf]
theorem NS.take_next (h : s.fr = []) (hf : s.g.length ≠ s.E) : s.take = ({ s with g := s.g ++ [0] }, ((s.g.length : Int), 0), 0) := by unfold NS.take; rw [if_pos h, if_neg hf]
theorem NS.take_ok (h : s.Ok) : s.take.1.Ok := by
 by_cases hf : s.fr = []
 ·by_cases he : s.g.length = s.E
  ·rw [NS.take_full hf he]; exact h
  ·rw [NS.take_next hf he]
   have hl := h.len
   have hL1 := h.L1
   refine ⟨h.E1, h.E2, h.L1, h.L2, ?_, ?_, ?_, ?_⟩
   ·simp only [List.length_append, List.length_singleton]; omega
   ·intro x hx
    rcases List.mem_append.1 hx with hx | hx
    ·exact h.gz x hx
    ·rw [List.mem_singleton.1 hx]; exact ⟨by decide, by show (0 : Int) <= s.L; omega⟩
   ·intro k hk; rw [show ({ s with g := s.g ++ [0] } : NS).fr = s.fr from rfl, hf] at hk; exact absurd hk List.not_mem_nil
   ·exact h.nd
 ·rw [NS.take_free hf]
  refine ⟨h.E1, h.E2, h.L1, h.L2, h.len, h.gz, ?_, ?_⟩
  ·intro k hk
   exact h.fz k (List.dropLast_subset _ hk)
  ·exact h.nd.sublist (List.dropLast_sublist _)
theorem NS.liveL_free (h : s.Ok) (hf : s.fr ≠ []) : s.take.1.liveL = s.liveL.set (s.fr.getLastD 0).toNat true := by
 rw [NS.take_free hf]
 obtain ⟨k0, k1, k2, k3⟩ := h.fz _ (NS.last_mem hf)
 have e := NS.fr_last hf
 have nd := h.nd
 rw [e] at nd
 obtain ⟨k, hk⟩ : ∃ k, k = s.fr.getLastD 0 := ⟨_, rfl⟩
 obtain ⟨f, hf'⟩ : ∃ f, f = s.fr.dropLast := ⟨_, rfl⟩
 rw [<- hk] at k0 k1 k2 k3 e nd ⊢
 rw [<- hf'] at e nd ⊢
 have hkf : k ∉ f := fun hm => (List.nodup_append.1 nd).2.2 k hm k (List.mem_singleton.2 rfl) rfl
 apply List.ext_getElem
 ·simp [NS.liveL]
 ·intro j h1 h2
  have hj : j < s.g.length := by simpa [NS.liveL] using h1
  rw [NS.liveL_get, List.getElem_set]
  by_cases hjk : k.toNat = j
  ·rw [if_pos hjk]
   refine NS.live_iff.2 ⟨Int.natCast_nonneg _, Int.ofNat_lt.2 hj, ?_, ?_⟩
   ·rw [show (j : Int) = k by omega]; exact hkf
   ·show s.g.getD (j : Int).toNat 0 < s.L
    rw [show (j : Int).toNat = k.toNat by omega]; exact k3
  ·rw [if_neg hjk, NS.liveL_get]
   unfold NS.live
   apply decide_eq_decide.2
   have : (j : Int) ≠ k := by omega
   simp only
   rw [e]
   simp [this]
def NS.push (s : NS) (gen : Int) : NS := { s with g := s.g ++ [gen] }
theorem NS.push_ok (h : s.Ok) {gen : Int} (hl : s.g.length < s.E) (hg : 0 <= gen /\ gen <= s.L) : (s.push gen).Ok := by
 refine ⟨h.E1, h.E2, h.L1, h.L2, ?_, ?_, ?_, h.nd⟩
 ·show (s.g ++ [gen]).length <= s.E; simp; omega
 ·intro x hx
  rcases List.mem_append.1 hx with hx | hx
  ·exact h.gz x hx
  ·rw [List.mem_singleton.1 hx]; exact hg
 ·intro k hk
  obtain ⟨k0, k1, k2, k3⟩ := h.fz k hk
  have e : (s.g ++ [gen]).getD k.toNat 0 = s.g.getD k.toNat 0 := by
   rw [List.getD_eq_getElem?_getD, List.getElem?_append_left (by omega), <- List.getD_eq_getElem?_getD]
  show 0 <= k /\ k < ((s.g ++ [gen]).length : Nat) /\ 1 <= (s.g ++ [gen]).getD k.toNat 0 /\ (s.g ++ [gen]).getD k.toNat 0 < s.L
  rw [e]
  refine ⟨k0, ?_, k2, k3⟩
  simp
  omega
theorem NS.liveL_push (h : s.Ok) (gen : Int) : (s.push gen).liveL = s.liveL ++ [decide (gen < s.L)] := by
 apply List.ext_getElem
 ·simp [NS.liveL, NS.push]
 ·intro j h1 h2
  rw [NS.liveL_get]
  have hj : j < s.g.length + 1 := by simpa [NS.liveL, NS.push] using h1
  by_cases hjl : j < s.g.length
  ·rw [List.getElem_append_left (by simpa [NS.liveL] using hjl), NS.liveL_get]
   unfold NS.live NS.push
   apply decide_eq_decide.2
   simp only [Int.toNat_natCast]
   rw [List.getD_eq_getElem?_getD, List.getElem?_append_left hjl, <- List.getD_eq_getElem?_getD]
   simp
   omega
  ·obtain rfl : j = s.g.length := by omega
   rw [List.getElem_append_right (by simp [NS.liveL])]
   simp only [NS.liveL_len, Nat.sub_self, List.getElem_cons_zero]
   unfold NS.live NS.push
   apply decide_eq_decide.2
   have hm : (s.g.length : Int) ∉ s.fr := fun e => by have := h.fz _ e; omega
   simp only [Int.toNat_natCast]
   rw [List.getD_eq_getElem?_getD, List.getElem?_append_right (Nat.le_refl _)]
   simp [hm]
   omega
theorem NS.take_push (hf : s.fr = []) (he : s.g.length ≠ s.E) : s.take = (s.push 0, ((s.g.length : Int), 0), 0) := NS.take_next hf he
end
end Go.Proofs.YtaoinkjjmakhaaaGreatDoor
namespace Go.Proofs.YtaoinkjjmakhaaaGreatDoor
set_option maxRecDepth 20000
open Go.RowKit
theorem boolT : El Tryz.prog 153 4 (.bool false) 1 1 := ⟨Tryz.underlying153, by kernel_rfl, rfl, by decide⟩
theorem idT : RT Tryz.prog 32 2 := ⟨⟨_, Tryz.underlying32, rfl⟩, by kernel_rfl⟩
section
variable {ops : Array Oper} {rest : List Oper} {o : Oper} {a : Act} {w : World} {Q : Exit -> Act -> World -> Prop} {g : Nat} {x0 y0 x1 y1 : Int}
theorem wpList_ldP (hgd : Region.wanted o (yielded ops a.tmps) = true) (x : Operand) (ho : o.op = .load 32 x)
  (hx : a.eval x = .pointer (some ⟨g, 0, none⟩)) (h : Rec 32 w g #[.int .i64 x0, .int .i64 y0]) (kk : wpList Tryz.prog ops Q rest (a.put o.dst (.agg #[.int .i64 x0, .int .i64 y0])) w) : wpList Tryz.prog ops Q (o :: rest) a w :=
 wpList_ldS idT rfl hgd x ho hx h kk
theorem wpList_stP (hgd : Region.wanted o (yielded ops a.tmps) = true) (x y : Operand) (ho : o.op = .store 32 x y)
  (hx : a.eval x = .pointer (some ⟨g, 0, none⟩)) (hy : a.eval y = .agg #[.int .i64 x1, .int .i64 y1]) (h : Rec 32 w g #[.int .i64 x0, .int .i64 y0])
  (kk : ∀ w', Rec 32 w' g #[.int .i64 x1, .int .i64 y1] -> Fr (· = g) w w' -> wpList Tryz.prog ops Q rest (a.put o.dst undef) w') : wpList Tryz.prog ops Q (o :: rest) a w :=
 wpList_stS idT rfl rfl (by simp [Value.oneCell']) hgd x y ho hx hy h kk
end
theorem pigeon : ∀ (n : Nat) (l : List Int), l.Nodup -> (∀ k ∈ l, 0 <= k /\ k < n) -> l.length <= n
 | 0, l, _, h => by
  cases l with
  | nil => exact Nat.le_refl _
  | cons a l => have := h a List.mem_cons_self; omega
 | n + 1, l, nd, h => by
  by_cases hm : (n : Int) ∈ l
  ·have h1 := pigeon n (l.erase (n : Int)) (nd.erase _) (fun k hk => by
    obtain ⟨hne, hk'⟩ := nd.mem_erase_iff.1 hk
    have := h k hk'
    omega)
   rw [List.length_erase_of_mem hm] at h1
   omega
  ·have h1 := pigeon n l nd (fun k hk => by
    have := h k hk
    have : k ≠ (n : Int) := fun e => hm (e ▸ hk)
    omega)
   omega
theorem NS.Ok.few {s : NS} (h : s.Ok) : s.fr.length <= 1024 := by
 have := pigeon s.g.length s.fr h.nd (fun k hk => ⟨(h.fz k hk).1, (h.fz k hk).2.1⟩)
 have := h.len
 have := h.E2
 omega
structure IAt (w : World) (own : Nat -> Prop) (p : Nat) (gv av fv : Value) (s : NS) : Prop where
 blk : w.heap[p]? = some (.cells #[.int .i64 s.E, .int .i64 s.L, gv, av, fv] 155 (0, 0))
 gens : w.ownsRow 0 3 1 gv s.g.length (s.g.map (Value.int .i64))
 ali : w.ownsRow 0 4 1 av s.g.length (s.liveL.map Value.bool)
 free : w.ownsRow 0 3 1 fv s.fr.length (s.fr.map (Value.int .i64))
 apart : ∀ x, gv.ownBlock = some x -> fv.ownBlock ≠ some x
 ownp : own p
 owng : ∀ x, gv.ownBlock = some x -> own x
 owna : ∀ x, av.ownBlock = some x -> own x
 ownf : ∀ x, fv.ownBlock = some x -> own x
 ok : s.Ok
theorem own_tagI {w : World} {B e n : Nat} {v : Value} {xs : List Value} (h : w.ownsRow B e 1 v n xs) {x : Nat} (hx : v.ownBlock = some x) : ∃ C, w.heap[x]? = some (.cells C e (0, 0)) := by
 rcases h.2 with ⟨rfl, _⟩ | ⟨g, cap, cur, rfl, _, hh, _⟩
 ·cases hx
 ·simp [Value.ownBlock] at hx
  subst hx
  exact ⟨_, hh⟩
theorem own_open {w : World} {B e n : Nat} {v : Value} {xs : List Value} (h : w.ownsRow B e 1 v n xs) :
  ∃ A c, v = .slice A n c /\ n <= c /\ c <= maxLen /\ (0 < n -> ∃ g, A = some ⟨g, 0, none⟩ /\ g < w.heap.size /\ (∀ j, j < n -> w.cell? ⟨g, j, none⟩ = xs[j]?) /\ (∀ j, w.frozen? ⟨g, j, none⟩ = false)) := by
 have h' := h
 rcases h.2 with ⟨hv, h0⟩ | ⟨g, cap, cur, rfl, _, hh, hn, hc, _, _⟩
 ·exact ⟨none, 0, by rw [hv, h0], by omega, by unfold maxLen; omega, fun hp => by omega⟩
 ·exact ⟨_, cap, rfl, hn, hc, fun _ => ⟨g, rfl, (Array.getElem?_eq_some_iff.1 hh).1, fun j hj => h'.cellAt j (by omega), fun j => h'.frozenAt j⟩⟩
section
variable {w w' : World} {own own' : Nat -> Prop} {p : Nat} {gv av fv : Value} {s : NS}
theorem IAt.lt (h : IAt w own p gv av fv s) : p < w.heap.size := (Array.getElem?_eq_some_iff.1 h.blk).1
theorem IAt.cell (h : IAt w own p gv av fv s) (i : Nat) : w.cell? ⟨p, i, none⟩ = (#[.int .i64 s.E, .int .i64 s.L, gv, av, fv] : Array Value)[i]? := cell_of_row _ _ _ _ _ _ h.blk
theorem IAt.c0 (h : IAt w own p gv av fv s) : w.cell? ⟨p, 0, none⟩ = some (.int .i64 s.E) := h.cell 0
theorem IAt.c1 (h : IAt w own p gv av fv s) : w.cell? ⟨p, 1, none⟩ = some (.int .i64 s.L) := h.cell 1
theorem IAt.c2 (h : IAt w own p gv av fv s) : w.cell? ⟨p, 2, none⟩ = some gv := h.cell 2
theorem IAt.c3 (h : IAt w own p gv av fv s) : w.cell? ⟨p, 3, none⟩ = some av := h.cell 3
theorem IAt.c4 (h : IAt w own p gv av fv s) : w.cell? ⟨p, 4, none⟩ = some fv := h.cell 4
theorem IAt.fz (h : IAt w own p gv av fv s) (i : Nat) : w.frozen? ⟨p, i, none⟩ = false := frozen_of_row w p i _ _ h.blk
theorem IAt.kept (h : IAt w own p gv av fv s) (hf : Fr own' w w') (hd : ∀ x, own x -> ¬ own' x) : IAt w' own p gv av fv s where
 blk := (hf.block p h.lt (hd p h.ownp)).trans h.blk
 gens := own_fr h.gens hf (fun x hx => hd x (h.owng x hx))
 ali := own_fr h.ali hf (fun x hx => hd x (h.owna x hx))
 free := own_fr h.free hf (fun x hx => hd x (h.ownf x hx))
 apart := h.apart
 ownp := h.ownp
 owng := h.owng
 owna := h.owna
 ownf := h.ownf
 ok := h.ok
theorem IAt.below (h : IAt w own p gv av fv s) (hb : Below w.heap.size w w') : IAt w' own p gv av fv s := h.kept (own' := fun _ => False) (Fr.ofBelow _ hb) (fun _ _ hx => hx)
theorem IAt.mono (h : IAt w own p gv av fv s) (hk : ∀ x, own x -> own' x) : IAt w own' p gv av fv s := { h with ownp := hk _ h.ownp, owng := fun x hx => hk x (h.owng x hx), owna := fun x hx => hk x (h.owna x hx), ownf := fun x hx => hk x (h.ownf x hx) }
end
theorem inear_any (n lo hi : Int) (w : World) : Calls Tryz.prog 78 #[.int .i64 n, .int .i64 lo, .int .i64 hi] w fun e w' => e = .returned (.int .i64 (min (max n lo) hi)) /\ w = w' := by
 go_enter Tryz.func78, Tryz.ntmps78
 go_wp2
 all_goals go_ret
 all_goals exact ⟨ret_int (by omega), rfl⟩
theorem INew_any (entities gens : Int) (w : World) :
  Calls Tryz.prog 29 #[.int .i64 entities, .int .i64 gens] w fun e w' => e = .returned (.pointer (some ⟨w.heap.size, 0, none⟩)) /\ Below w.heap.size w w' /\ w.heap.size < w'.heap.size /\ IAt w' (· = w.heap.size) w.heap.size nilv nilv nilv (NS.new entities gens) := by
 have h1 := nears_bounds entities 1024 (by decide)
 have hE : (((NS.new entities gens).E : Nat) : Int) = min (max entities 1) 1024 := by
  show ((nears entities 1024).toNat : Int) = _
  unfold nears at h1 ⊢
  omega
 have hL : (NS.new entities gens).L = min (max gens 1) 1073741824 := rfl
 clear h1
 go_enter Tryz.func29, Tryz.ntmps29
 go_wp2_with (go_at_call 78; refine (inear_any _ _ _ _).mono ?_; rintro e w' ⟨rfl, rfl⟩)
 go_ret
 refine ⟨rfl, (Below.refl _ _).alloc (Nat.le_refl _) _, by simp, ?_⟩
 exact {
  blk := by rw [hE, hL]; exact heap_alloc_new w _
  gens := World.ownsRow_nil _ _ _ _
  ali := World.ownsRow_nil _ _ _ _
  free := World.ownsRow_nil _ _ _ _
  apart := fun x hx => by cases hx
  ownp := rfl
  owng := fun x hx => by cases hx
  owna := fun x hx => by cases hx
  ownf := fun x hx => by cases hx
  ok := NS.new_ok entities gens }
section
variable {w : World} {own : Nat -> Prop} {p : Nat} {gv av fv : Value} {s : NS}
theorem lives_any (h : IAt w own p gv av fv s) (k : Int) :
  Calls Tryz.prog 100 #[.pointer (some ⟨p, 0, none⟩), .int .i64 k] w fun e w' => e = .returned (.bool (s.live k)) /\ w = w' := by
 obtain ⟨A, c, rfl, hc, hm, hr⟩ := own_open h.ali
 have c3 := h.c3
 by_cases hk0 : 0 <= k
 ·by_cases hk1 : k < s.g.length
  ·obtain ⟨j, rfl⟩ : ∃ j : Nat, k = (j : Int) := ⟨k.toNat, by omega⟩
   have hj : j < s.g.length := by omega
   obtain ⟨g, rfl, hg, hcell, _⟩ := hr (by omega)
   have c := hcell j hj
   have hjl : j < s.liveL.length := by rw [s.liveL_len]; exact hj
   rw [List.getElem?_map, List.getElem?_eq_getElem hjl, s.liveL_get] at c
   simp only [Option.map_some] at c
   obtain ⟨b, hb⟩ : ∃ b, b = s.live j := ⟨_, rfl⟩
   rw [<- hb] at c ⊢
   clear hb hr hcell h
   go_enter Tryz.func100, Tryz.ntmps100
   go_wp2
   go_ret
   exact ⟨rfl, rfl⟩
  ·have hl : s.live k = false := Bool.eq_false_iff.2 fun e => hk1 (NS.live_iff.1 e).2.1
   rw [hl]
   clear hl hr h
   go_enter Tryz.func100, Tryz.ntmps100
   go_wp2
   go_ret
   exact ⟨rfl, rfl⟩
 ·have hl : s.live k = false := Bool.eq_false_iff.2 fun e => hk0 (NS.live_iff.1 e).1
  rw [hl]
  clear hl hr h
  go_enter Tryz.func100, Tryz.ntmps100
  go_wp2
  go_ret
  exact ⟨rfl, rfl⟩
theorem id_any (h : IAt w own p gv av fv s) (j : Nat) (hj : j < s.g.length) :
  Calls Tryz.prog 111 #[.pointer (some ⟨p, 0, none⟩), .int .i64 j] w fun e w' => e = .returned (.agg #[.int .i64 j, .int .i64 (s.g.getD j 0)]) /\ Below w.heap.size w w' := by
 obtain ⟨A, c, rfl, hc, hm, hr⟩ := own_open h.gens
 have c2 := h.c2
 obtain ⟨g, rfl, hg, hcell, _⟩ := hr (by omega)
 have c := hcell j hj
 rw [List.getElem?_map, List.getElem?_eq_getElem hj] at c
 simp only [Option.map_some] at c
 have hz : s.g.getD j 0 = s.g[j] := by simp [List.getD, List.getElem?_eq_getElem hj]
 obtain ⟨z, hz'⟩ : ∃ z, z = s.g.getD j 0 := ⟨_, rfl⟩
 rw [<- hz, <- hz'] at c
 rw [<- hz']
 have hlt := h.lt
 clear hz hz' hr hcell h
 go_enter Tryz.func111, Tryz.ntmps111
 go_wp2
 refine bodyPost_ret (res_c rfl rfl ((Rec.new w 32 #[.int .i64 j, .int .i64 z]).load idT rfl)) rfl ?_
 exact ⟨rfl, (Below.refl _ _).alloc (Nat.le_refl _) _⟩
def idv (x : Int × Int) : Value := .agg #[.int .i64 x.1, .int .i64 x.2]
theorem At_any (h : IAt w own p gv av fv s) (k : Int) :
  Calls Tryz.prog 149 #[.pointer (some ⟨p, 0, none⟩), .int .i64 k] w fun e w' => e = .returned (.tuple #[idv (s.at_ k).1, .bool (s.at_ k).2]) /\ Below w.heap.size w w' := by
 have hb : Below w.heap.size w (w.alloc (.cells #[.int .i64 0, .int .i64 0] 32)) := (Below.refl _ _).alloc (Nat.le_refl _) _
 have CL := hi_ (lives_any (h.below hb) k)
 by_cases hl : s.live k = true
 ·have ha : s.at_ k = ((k, s.g.getD k.toNat 0), true) := by unfold NS.at_; rw [if_pos hl]
  obtain ⟨h0, h1, _⟩ := NS.live_iff.1 hl
  obtain ⟨j, rfl⟩ : ∃ j : Nat, k = (j : Int) := ⟨k.toNat, by omega⟩
  have CI := hi_ (id_any (h.below hb) j (by omega))
  rw [hl] at CL
  rw [ha, Int.toNat_natCast]
  obtain ⟨w1, hw1⟩ : ∃ w1, w1 = w.alloc (.cells #[.int .i64 0, .int .i64 0] 32) := ⟨_, rfl⟩
  have hR1 : Rec 32 w1 w.heap.size #[.int .i64 0, .int .i64 0] := by rw [hw1]; exact Rec.new _ _ _
  rw [<- hw1] at hb CL CI
  have HB := hi_ hb
  have HR := hi_ hR1
  clear hl ha h0 h1 h hb hR1
  go_enter Tryz.func149, Tryz.ntmps149
  go_wp2_with (first
   | (rw [<- hw1]; clear hw1)
   | (go_at_call 100; refine CL.out.mono ?_; rintro e w' ⟨rfl, rfl⟩)
   | (go_at_call 111; refine CI.out.mono ?_; rintro e w2 ⟨rfl, hB2⟩; have HR2 := hi_ (HR.out.under hB2); have HB2 := hi_ (HB.out.trans (hB2.mono HB.out.size)); clear hB2)
   | (with_reducible refine wpList_stP (x1 := j) (y1 := s.g.getD j 0) rfl (.tmp 4) (.tmp 13) rfl rfl rfl HR2.out ?_; intro w5 hR5 hF5))
  refine bodyPost_ret (res_ct rfl rfl (hR5.load idT rfl)) rfl ?_
  exact ⟨rfl, HB2.out.trans (hF5.toBelow (fun x hx => by rw [show x = w.heap.size from hx]; exact Nat.le_refl _) HB2.out.size)⟩
 ·have hl : s.live k = false := by simpa using hl
  have ha : s.at_ k = ((0, 0), false) := by unfold NS.at_; rw [if_neg (by simp [hl])]
  rw [hl] at CL
  rw [ha]
  clear hl ha h hb
  go_enter Tryz.func149, Tryz.ntmps149
  go_wp2_with (go_at_call 100; refine CL.out.mono ?_; rintro e w' ⟨rfl, rfl⟩)
  refine bodyPost_ret (res_ct rfl rfl ((Rec.new w 32 #[.int .i64 0, .int .i64 0]).load idT rfl)) rfl ?_
  exact ⟨rfl, (Below.refl _ _).alloc (Nat.le_refl _) _⟩
end
end Go.Proofs.YtaoinkjjmakhaaaGreatDoor
