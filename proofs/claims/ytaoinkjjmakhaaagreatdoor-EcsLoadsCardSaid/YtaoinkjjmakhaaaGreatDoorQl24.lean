/- EcLd, EcVn -/
import Derived.Test.YtaoinkjjmakhaaaGreatDoorQl1
import Derived.Test.YtaoinkjjmakhaaaGreatDoorQl20
import Derived.Test.YtaoinkjjmakhaaaGreatDoorQl22
namespace Go.Proofs.YtaoinkjjmakhaaaGreatDoor
open Go.RowKit
set_option maxRecDepth 20000
set_option linter.unusedVariables false
set_option linter.unusedSimpArgs false
section
variable (lg pg en gn : Int) (A : Option Addr) (n cap : Nat) (ks : List Kd) (GA : Option Addr) (gN gc : Nat) (gs : List Int) (FA : Option Addr) (fN fc : Nat) (fs : List Int) (LA : Option Addr) (ln lc : Nat) (w : World)
abbrev stN : Array Value := stC none 0 0 none 0 0 none 0 0
theorem RLoadE_start : ∃ w1, w1 = (w.alloc (.cells (cc lg pg en gn A n cap) 24)).alloc (.cells stN 41) /\ Below w.heap.size w w1 /\ w1.heap.size = w.heap.size + 2 /\ Rec 24 w1 w.heap.size (cc lg pg en gn A n cap) /\ Rec 41 w1 (w.heap.size + 1) stN := by
 refine ⟨_, rfl, ((Below.refl _ _).alloc (Nat.le_refl _) _).alloc (by simp) _, by simp, (Rec.new w _ _).under ((Below.refl _ _).alloc (Nat.le_refl _) _), ?_⟩
 have h := Rec.new (w.alloc (.cells (cc lg pg en gn A n cap) 24)) 41 stN
 rw [World.size_alloc] at h
 exact h
set_option maxHeartbeats 1000000 in
theorem RLoadE_conf (h : KRd w A n ks) (hn : n <= 1000000) (hL : Lens ks) (hR : ¬ (Cf.mk lg pg en gn ks).Right) :
  Calls Tryz.prog 20 #[cv lg pg en gn A n cap, .slice GA gN gc, .slice FA fN fc, .slice LA ln lc] w fun e w' => e = .returned (.tuple #[.agg stN, .int .i64 1]) /\ Below w.heap.size w w' := by
 obtain ⟨w1, hw1, hb1, hs1, r1, r2⟩ := RLoadE_start lg pg en gn A n cap w
 have CR := RRight_any lg pg en gn A n cap ks w1 (h.below hb1) hn hL
 rw [decide_eq_false hR] at CR
 have CR := hi_ CR
 have R1 := hi_ r1
 have R2 := hi_ r2
 have HB := hi_ (And.intro hb1 hs1)
 clear h hb1 hs1 r1 r2 hR hn hL
 go_enter Tryz.func20, Tryz.ntmps20
 go_wp2_with (first
  | (rw [<- hw1]; clear hw1)
  | ((with_reducible refine wpList_ldS confT rfl rfl (.tmp 4) rfl rfl R1.out ?_))
  | (go_at_call 7; refine CR.out.mono ?_; rintro e w2 ⟨rfl, hb2⟩; have HB2 := hi_ hb2; have R3 := hi_ (R2.out.under hb2); clear hb2)
  | ((with_reducible refine wpList_stS (cs' := stN) stT rfl rfl (by simp [Value.oneCell']) rfl (.tmp 8) (.tmp 25) rfl rfl rfl R3.out ?_); intro w9 hR9 hF9))
 refine bodyPost_ret (res_ct rfl rfl (hR9.load stT rfl)) rfl ?_
 have hb := HB.out.1.trans (HB2.out.mono HB.out.1.size)
 exact ⟨rfl, hb.trans (hF9.toBelow (fun y hy => by rw [show y = w.heap.size + 1 from hy]; omega) hb.size)⟩
set_option maxHeartbeats 1000000 in
theorem RLoadE_names (h : KRd w A n ks) (hn : n <= 1000000) (hL : Lens ks) (hR : (Cf.mk lg pg en gn ks).Right) (hg : IRd w GA gN gs) (hf : IRd w FA fN fs) (hgn : gN <= 60) (hfn : fN <= 60) (hfc : fN <= fc) (hno : ¬ LdOk (ldNs en gn gs fs)) :
  Calls Tryz.prog 20 #[cv lg pg en gn A n cap, .slice GA gN gc, .slice FA fN fc, .slice LA ln lc] w fun e w' => e = .returned (.tuple #[.agg stN, .int .i64 11]) /\ Below w.heap.size w w' := by
 obtain ⟨w1, hw1, hb1, hs1, r1, r2⟩ := RLoadE_start lg pg en gn A n cap w
 have CR := RRight_any lg pg en gn A n cap ks w1 (h.below hb1) hn hL
 rw [decide_eq_true hR] at CR
 have CR := hi_ CR
 have CI : Hid (∀ W, Below w1.heap.size w1 W -> Calls Tryz.prog 53 #[.int .i64 en, .int .i64 gn, .slice GA gN gc, .slice FA fN fc] W fun e w' => e = .returned (.tuple #[.agg #[.int .i64 0, .int .i64 0, .slice none 0 0, .slice none 0 0], .int .i64 11]) /\ Below W.heap.size W w') := hi_ (fun W hW => by
  have hwW := hb1.trans (hW.mono hb1.size)
  refine (RLoad_any en gn GA gN gc gs FA fN fc fs W (hg.below hwW) (hf.below hwW) (by omega) (by omega) hfc).mono ?_
  rintro e w' (⟨hok, _⟩ | ⟨_, rfl, hb⟩)
  ·exact absurd hok hno
  ·exact ⟨rfl, hb⟩)
 have R1 := hi_ r1
 have R2 := hi_ r2
 have HB := hi_ (And.intro hb1 hs1)
 have k0 := r1.at_ 0
 have k1 := r1.at_ 1
 have k2 := r1.at_ 2
 have k3 := r1.at_ 3
 have k4 := r1.at_ 4
 clear h hb1 hs1 r1 r2 hR hn hL hg hf hno
 go_enter Tryz.func20, Tryz.ntmps20
 go_wp2_with (first
  | (rw [<- hw1]; clear hw1)
  | (go_at_call 7; refine CR.out.mono ?_; rintro e w2 ⟨rfl, hb2⟩; have e2 := (R1.out.under hb2).at_ 2; have e3 := (R1.out.under hb2).at_ 3; have HB2 := hi_ hb2; clear hb2 k0 k1 k2 k3 k4)
  | (go_at_call 53; refine (CI.out _ HB2.out).mono ?_; rintro e w3 ⟨rfl, hb3⟩
     obtain ⟨w4, hw4⟩ : ∃ w4, w4 = w3.alloc (.cells #[.int .i64 0, .int .i64 0, .slice none 0 0, .slice none 0 0] 123) := ⟨_, rfl⟩
     have R4 := hi_ (show Rec 123 w4 w3.heap.size #[.int .i64 0, .int .i64 0, .slice none 0 0, .slice none 0 0] by rw [hw4]; exact Rec.new w3 _ _)
     have HB4 := hi_ (show Below w1.heap.size w1 w4 from (HB2.out.trans (hb3.mono HB2.out.size)).trans ((show Below w3.heap.size w3 w4 by rw [hw4]; exact (Below.refl _ _).alloc (Nat.le_refl _) _).mono (HB2.out.trans (hb3.mono HB2.out.size)).size))
     have HS3 := hi_ (show w1.heap.size <= w3.heap.size from Nat.le_trans HB2.out.size hb3.size)
     clear hb3 e2 e3)
  | (rw [<- hw4]; clear hw4)
  | ((with_reducible refine wpList_stS (cs' := #[.int .i64 0, .int .i64 0, .slice none 0 0, .slice none 0 0]) idsT6 rfl rfl (by simp [Value.oneCell']) rfl (.tmp 10) (.tmp 34) rfl rfl rfl R4.out ?_); intro w5 hR5 hF5
     have HB5 := hi_ (show Below w1.heap.size w1 w5 from HB4.out.trans (hF5.toBelow (fun y hy => by rw [show y = w3.heap.size from hy]; exact HS3.out) HB4.out.size)); have R8 := hi_ (R2.out.under HB5.out); clear hR5 hF5)
  | ((with_reducible refine wpList_stS (cs' := stN) stT rfl rfl (by simp [Value.oneCell']) rfl (.tmp 8) (.tmp 38) rfl rfl rfl R8.out ?_); intro w9 hR9 hF9))
 refine bodyPost_ret (res_ct rfl rfl (hR9.load stT rfl)) rfl ?_
 have hb := HB.out.1.trans (HB5.out.mono HB.out.1.size)
 exact ⟨rfl, hb.trans (hF9.toBelow (fun y hy => by rw [show y = w.heap.size + 1 from hy]; omega) hb.size)⟩
end
end Go.Proofs.YtaoinkjjmakhaaaGreatDoor
namespace Go.Proofs.YtaoinkjjmakhaaaGreatDoor
open Go.RowKit
set_option maxRecDepth 20000
theorem rwT3 : RT Tryz.prog 100 3 := rwT
theorem RwsV.below {K : Nat -> Prop} {w w' : World} {A : Option Addr} {n : Nat} {xs : List Rw} (h : RwsV K w A n xs) (hb : Below w.heap.size w w') : RwsV K w' A n xs := by
 obtain ⟨vs, h1, h2, h3⟩ := h
 exact ⟨vs, h1, h2.below hb, h3.imp (fun _ _ hx => ERw.ok.below hx hb)⟩
theorem wpList_ldRw {ops : Array Oper} {rest : List Oper} {o : Oper} {a : Act} {w : World} {Q : Exit -> Act -> World -> Prop} {b off : Nat} {sg : Nat} {IA CA : Option Addr} {m ic q cx : Nat} (hgd : Region.wanted o (yielded ops a.tmps) = true) (x : Operand) (ho : o.op = .load 100 x)
  (hx : a.eval x = .pointer (some ⟨b, off, none⟩)) (h0 : w.cell? ⟨b, off, none⟩ = some (.int .u64 sg)) (h1 : w.cell? ⟨b, off + 1, none⟩ = some (.slice IA m ic)) (h2 : w.cell? ⟨b, off + 2, none⟩ = some (.slice CA q cx))
  (kk : wpList Tryz.prog ops Q rest (a.put o.dst (.agg #[.int .u64 sg, .slice IA m ic, .slice CA q cx])) w) : wpList Tryz.prog ops Q (o :: rest) a w :=
 wpList_w hgd fun _ hK => by
  obtain ⟨d, hd, hr⟩ := rwT3.und
  have := run_loadVar_mid (P := Tryz.prog) w b off 100 [.int .u64 sg, .slice IA m ic, .slice CA q cx] d (fun j v hj => by
   match j, hj with
   | 0, hj => injection hj with hj; rw [<- hj]; exact h0
   | 1, hj => injection hj with hj; rw [<- hj]; exact h1
   | 2, hj => injection hj with hj; rw [<- hj]; exact h2) hd hr (by rw [rwT3.info]; rfl)
  have h3 : (Instr.loadAt 100 (.pointer (some ⟨b, off, none⟩))).run Tryz.prog w = .ok (.agg #[.int .u64 sg, .slice IA m ic, .slice CA q cx]) w := by
   simp only [Instr.loadAt, Instr.sureAddr, Sem.run_bind, Sem.run_pure, Result.andThen_ok, this]
  unfold Oper.wp execOp
  simp only [ho, hx, h3, Sem.run_bind, Sem.run_pure, Result.andThen_ok]
  exact hK _ _ kk
section
variable (lg pg en gn : Int) (A : Option Addr) (n cap : Nat) (ks : List Kd) (GA : Option Addr) (gN gc : Nat) (gs : List Int) (FA : Option Addr) (fN fc : Nat) (fs : List Int) (LA : Option Addr) (ln lc : Nat) (w : World)
def ELd (lg pg en gn : Int) (n : Nat) (ks : List Kd) (s : NS) (xs : List Rw) (w : World) (e : Ending) (w' : World) : Prop := Below w.heap.size w w' /\
 ((∃ x gr k c pt, e = .returned (.tuple #[.pointer (some ⟨x.p, 0, none⟩), .int .i64 0]) /\ x.Of lg pg en gn n ks /\ LdTo n (zsK ks) s xs xs.length k /\ (namesTo xs xs.length).length = s.cnt s.g.length /\ CoJ 0 w' (w.heap.size + 1) gr x k c pt /\ c <= xs.length * 1025) \/
  (e = .returned (.tuple #[.pointer none, .int .i64 11]) /\ ¬ ∃ k, LdTo n (zsK ks) s xs xs.length k /\ (namesTo xs xs.length).length = s.cnt s.g.length))
def RwOk (r : Rw) : Prop := r.1 < 18446744073709551616 /\ r.2.1.length <= 1000000 /\ r.2.2.length <= 1000000 /\ ∀ id ∈ r.2.1, okE id
set_option maxHeartbeats 1000000 in
theorem eload_any {K : Nat -> Prop} {xs : List Rw} (h : KRd w A n ks) (hn : n <= 1000000) (hL : Lens ks) (hR : (Cf.mk lg pg en gn ks).Right) (hg : IRd w GA gN gs) (hf : IRd w FA fN fs) (hgn : gN <= 1100) (hfn : fN <= 100) (hok : LdOk (ldNs en gn gs fs))
  (hx : RwsV K w LA ln xs) (hln : ln <= 500) (hrw : ∀ r ∈ xs, RwOk r) (hT : ∀ W, Below w.heap.size w W -> TabAt W) :
  Calls Tryz.prog 15 #[cv lg pg en gn A n cap, .slice GA gN gc, .slice FA fN fc, .slice LA ln lc] w (ELd lg pg en gn n ks (ldNs en gn gs fs) xs w) := by
 obtain ⟨w1, hw1⟩ : ∃ w1, w1 = w.alloc (.cells (cc lg pg en gn A n cap) 24) := ⟨_, rfl⟩
 have hb1 : Below w.heap.size w w1 := by rw [hw1]; exact (Below.refl _ _).alloc (Nat.le_refl _) _
 have hs1 : w1.heap.size = w.heap.size + 1 := by rw [hw1]; simp
 have r1 : Rec 24 w1 w.heap.size (cc lg pg en gn A n cap) := by rw [hw1]; exact Rec.new w _ _
 have CC := Check_any lg pg en gn A n cap ks w1 (h.below hb1) hn hL
 rw [if_pos hR] at CC
 have CC := hi_ CC
 obtain ⟨s, hs⟩ : ∃ s, s = ldNs en gn gs fs := ⟨_, rfl⟩
 rw [<- hs] at hok ⊢
 have CI : Hid (∀ W, Below w1.heap.size w1 W -> Calls Tryz.prog 47 #[.int .i64 en, .int .i64 gn, .slice GA gN gc, .slice FA fN fc] W fun e w' => ∃ p, e = .returned (.tuple #[.pointer (some ⟨p, 0, none⟩), .int .i64 0]) /\ Below W.heap.size W w' /\ ∃ own gv av fv, (∀ y, own y -> W.heap.size <= y /\ y < w'.heap.size) /\ IAt w' own p gv av fv s) := hi_ (fun W hW => by
  have hwW := hb1.trans (hW.mono hb1.size)
  refine (Load_any en gn GA gN gc gs FA fN fc fs W (hg.below hwW) (hf.below hwW) hgn hfn).mono ?_
  rw [hs] at hok ⊢
  rintro e w' (⟨_, p, rfl, own, a1, a2, a3, a4, gv, av, fv, a5⟩ | ⟨hno, _⟩)
  ·exact ⟨p, rfl, a1, own, gv, av, fv, fun y hy => ⟨a2 y hy, a4 y hy⟩, a5⟩
  ·exact absurd hok hno)
 have CO : Hid (∀ W, Below w1.heap.size w1 W -> Calls Tryz.prog 28 #[cv lg pg en gn A n cap] W fun e w' => ∃ A' c', e = .returned (cv lg pg en gn A' n c') /\ KRd w' A' n ks /\ (∀ b o, A' = some ⟨b, o, none⟩ -> W.heap.size <= b /\ b < w'.heap.size) /\ Below W.heap.size W w') := hi_ (fun W hb => own_any lg pg en gn A n cap ks W ((h.below hb1).below hb) hn)
 have CT : Hid (∀ W, Below w1.heap.size w1 W -> ∀ r : Rw, RwOk r -> ∀ (IA : Option Addr) (ic : Nat) (CA : Option Addr) (cx : Nat), IdsV K W IA r.2.1.length r.2.1 -> ColsL K W CA r.2.2.length r.2.2 -> Calls Tryz.prog 48 #[cv lg pg en gn A n cap, .int .u64 (r.1 : Nat), .slice IA r.2.1.length ic, .slice CA r.2.2.length cx] W fun e w' => Below W.heap.size W w' /\
   ((∃ t p m v q tag, TLd n (zsK ks) r t /\ e = .returned (.tuple #[.pointer (some ⟨p, 0, none⟩), .int .i64 0]) /\ TbA w' W.heap.size tag p m v q r.1 t) \/ ((¬ ∃ t, TLd n (zsK ks) r t) /\ e = .returned (.tuple #[.pointer none, .int .i64 11])))) := hi_ (fun W hW r hr IA ic CA cx hi hc => by
  have hwW := hb1.trans (hW.mono hb1.size)
  exact TLoad_go lg pg en gn A n cap ks W (h.below hwW) hn (hT W hwW) r hr.1 IA ic CA cx hi hc hr.2.1 hr.2.2.1)
 have HXS : Hid (xs.length = ln) := hi_ (by obtain ⟨_, h1, _⟩ := hx; exact h1)
 have HRW := hi_ (And.intro hx hrw)
 have k0 := r1.at_ 0
 have k1 := r1.at_ 1
 have k2 := r1.at_ 2
 have k3 := r1.at_ 3
 have k4 := r1.at_ 4
 have HB := hi_ (And.intro hb1 hs1)
 have R1 := hi_ r1
 clear h hb1 r1 hR hg hf hok hx hrw hT hs hs1 hL
 go_enter Tryz.func15, Tryz.ntmps15
 go_wp2_with (first
  | (rw [<- hw1]; clear hw1)
  | (go_at_call 26; refine CC.out.mono ?_; rintro e w2 ⟨rfl, hb2⟩; have e2 := (R1.out.under hb2).at_ 2; have e3 := (R1.out.under hb2).at_ 3; have HB2 := hi_ hb2; clear hb2 k0 k1 k2 k3 k4)
  | (go_at_call 47; refine (CI.out _ HB2.out).mono ?_; rintro e w3 ⟨pi, rfl, hb3, own, gv, av, fv, ho3, hI3⟩; have HB3 := hi_ (HB2.out.trans (hb3.mono HB2.out.size)); have HI3 := hi_ (And.intro ho3 (And.intro hI3 hb3.size)); have f0 := (R1.out.under HB3.out).at_ 0; have f1 := (R1.out.under HB3.out).at_ 1; have f2 := (R1.out.under HB3.out).at_ 2; have f3 := (R1.out.under HB3.out).at_ 3; have f4 := (R1.out.under HB3.out).at_ 4; clear hb3 ho3 hI3 e2 e3)
  | (go_at_call 28; refine (CO.out _ HB3.out).mono ?_; rintro e w4 ⟨A', c', rfl, hk4, ha4, hb4⟩; have HB4 := hi_ (HB3.out.trans (hb4.mono HB3.out.size)); have CE := hi_ (empty_any (N := w1.heap.size) lg pg en gn A' n c' ks w4 HB4.out.size hk4 (fun b o e => by have h1 := ha4 b o e; have h2 := HB3.out.size; exact ⟨by omega, h1.2, fun e' => by have := HI3.out.1 b e'; omega⟩) (HI3.out.2.1.below hb4) (fun y hy => by have h1 := HI3.out.1 y hy; have h2 := HB2.out.size; have h3 := hb4.size; exact ⟨by omega, by omega⟩)); clear hk4 ha4 hb4 f0 f1 f2 f3 f4)
  | (go_at_call 27; refine CE.out.mono ?_; rintro e w5 ⟨x, gr0, rfl, hx0, hC0, hb5⟩; have HC0 := hi_ (And.intro hC0 (HB4.out.trans (hb5.mono HB4.out.size))); have HOF := hi_ hx0; clear hx0 hC0 hb5))
 go_loopw [42] (fun iv wr => ∃ (j : Nat) (k : Ks) (gr : Nat -> Nat) (c : Nat) (pt : Nat -> Nat), j <= ln /\ iv = .int .i64 j /\ LdTo n (zsK ks) s xs j k /\ CoJ 0 wr w1.heap.size gr x k c pt /\ c <= j * 1025 /\ Below w1.heap.size w1 wr) (fun iv _ => ln - (intOf iv).toNat)
 case atStart => exact ⟨0, ks0 s, gr0, 0, _, Nat.zero_le _, rfl, rfl, HC0.out.1, Nat.le_refl _, HC0.out.2⟩
 case round =>
  obtain ⟨j, k, gr, c, pt, hj, rfl, hLd, hC, hcj, hB⟩ := hrel
  by_cases hjn : j < ln
  ·obtain ⟨r, hr⟩ : ∃ r, xs[j]? = some r := ⟨_, List.getElem?_eq_getElem (by rw [HXS.out]; exact hjn)⟩
   have hrk := HRW.out.2 r (List.mem_of_getElem? hr)
   have hwr : Below w.heap.size w wr := HB.out.1.trans (hB.mono HB.out.1.size)
   have hRw : RwsV K wr LA ln xs := RwsV.below HRW.out.1 hwr
   obtain ⟨b, o, IA, ic, CA, cx, hLA, hblt, h0, h1, h2, hI, hC2⟩ := RwsV.cell hRw hr
   have hprev : ∀ jj, j = jj + 1 -> ∃ ps : Nat, prevS xs j = some ps /\ wr.cell? ⟨b, o + jj * 3, none⟩ = some (.int .u64 (ps : Int)) := fun jj e => by
    obtain ⟨rp, hrp⟩ : ∃ rp, xs[jj]? = some rp := ⟨_, List.getElem?_eq_getElem (by rw [HXS.out]; omega)⟩
    obtain ⟨b', o', _, _, _, _, hLA', _, h0', _⟩ := RwsV.cell hRw hrp
    rw [hLA] at hLA'
    injection hLA' with e1
    injection e1 with e2 e3
    subst e2 e3
    exact ⟨rp.1, by rw [e]; show (xs[jj]?).map (·.1) = _; rw [hrp]; rfl, h0'⟩
   have hsl := hLd.S_len
   obtain ⟨sg, ids, cols⟩ := r
   simp only at h0 h1 h2 hI hC2
   obtain ⟨m, hm⟩ : ∃ m, m = ids.length := ⟨_, rfl⟩
   obtain ⟨q, hq⟩ : ∃ q, q = cols.length := ⟨_, rfl⟩
   have hm1 : m <= 1000000 := by rw [hm]; exact hrk.2.1
   rw [<- hm] at h1 hI
   rw [<- hq] at h2 hC2
   have HLA := hi_ hLA
   subst hLA
   obtain ⟨B, hBB⟩ : ∃ B, B = wr.heap.size := ⟨_, rfl⟩
   obtain ⟨w6, hw6⟩ : ∃ w6, w6 = wr.alloc (.cells #[.int .u64 0, .slice none 0 0, .slice none 0 0] 100) := ⟨_, rfl⟩
   have R6 := hi_ (show Rec 100 w6 wr.heap.size #[.int .u64 0, .slice none 0 0, .slice none 0 0] by rw [hw6]; exact Rec.new wr _ _)
   have HB6 := hi_ (show Below wr.heap.size wr w6 by rw [hw6]; exact (Below.refl _ _).alloc (Nat.le_refl _) _)
   have hI := hi_ hI
   have hC2 := hi_ hC2
   have HMQ := hi_ (And.intro hm hq)
   have HH := hi_ (And.intro hLd (And.intro hC (And.intro hcj (And.intro hB (And.intro hr (And.intro hrk (And.intro hwr (And.intro hsl (And.intro hprev hblt)))))))))
   clear hLd hC hcj hB hr hrk hwr hRw hsl hprev hblt hm hq
   go_upto_region 11 with (first
    | ((with_reducible refine wpList_ldRw rfl (.tmp 45) rfl rfl h0 h1 h2 ?_))
    | (rw [<- hw6]; clear hw6)
    | ((with_reducible refine wpList_stRw sg IA m ic CA q cx rfl rfl (.tmp 15) (.tmp 46) rfl rfl rfl R6.out ?_); intro w7 hR7 hF7; have HR7 := hi_ (And.intro hR7 (HB6.out.trans (hF7.toBelow (fun y hy => by rw [show y = wr.heap.size from hy]; exact Nat.le_refl _) HB6.out.size))); clear hR7 hF7 h0 h1 h2))
   rw [<- hBB] at HR7 ⊢
   have c0 : w7.cell? ⟨B, 0, none⟩ = some (.int .u64 sg) := HR7.out.1.at_ 0
   have c1 : w7.cell? ⟨B, 1, none⟩ = some (.slice IA m ic) := HR7.out.1.at_ 1
   have H7B : Hid (Below wr.heap.size wr w7) := hi_ (by have h := HR7.out.2; rw [hBB] at h; exact h)
   have HBB := hi_ hBB
   clear hBB
   by_cases hj0 : j = 0
   ·by_cases hmz : m = 0
    ·have hjz : j = 0 := by omega
     have dj : decide ((0 : Int) < (j : Int)) = false := decide_eq_false (by omega)
     have dj' : decide ((j : Int) > 0) = false := decide_eq_false (by omega)
     have dj2 : decide (0 < j) = false := decide_eq_false (by omega)
     have dm2 : decide (m = 0) = true := decide_eq_true (by omega)
     have dm : decide ((m : Int) = 0) = true := decide_eq_true (by omega)
     have dm' : ((m : Int) == 0) = true := by simp; omega
     have HJ := hi_ hj0
     have HMZ := hi_ hmz
     clear hj0 hmz hjz
     have s1 : w7.drew.cell? ⟨B, 0, none⟩ = some (.int .u64 sg) /\ w7.drew.cell? ⟨B, 1, none⟩ = some (.slice IA m ic) := ⟨c0, c1⟩
     refine wp_region_noPanic ?_
     refine wp_region_held_drew (S := fun W => W.cell? ⟨B, 0, none⟩ = some (.int .u64 sg) /\ W.cell? ⟨B, 1, none⟩ = some (.slice IA m ic)) (by kernel_rfl) s1 (fun hHeld => ?_)
     refine tk_ 0 ⟨some 47, .move (.tmp 14), 3, "ecs.go:61", #[], none⟩ hHeld ?_
     simp only [Act.put, sA_, sB_, sC_]
     refine tk_ 1 ⟨some 48, .binOp .gtr 3 (.tmp 47) (.const (.int .i64 0)) 3, 4, "ecs.go:61", #[⟨0, .data⟩], none⟩ hHeld ?_
     simp only [Act.put, sA_, sB_, sC_]
     refine tk_ 2 ⟨some 49, .move (.tmp 48), 4, "ecs.go:61", #[⟨1, .data⟩], none⟩ hHeld ?_
     simp only [Act.put, sA_, sB_, sC_]
     refine sk_ 3 ⟨some 50, .move (.tmp 3), 43, "ecs.go:61", #[⟨2, .guard⟩], some (2, true)⟩ hHeld ?_
     simp only [Act.put, sA_, sB_, sC_]
     refine sk_ 4 ⟨some 51, .move (.tmp 14), 3, "ecs.go:61", #[⟨2, .guard⟩], some (2, true)⟩ hHeld ?_
     simp only [Act.put, sA_, sB_, sC_]
     refine sk_ 5 ⟨some 52, .binOp .sub 3 (.tmp 51) (.const (.int .i64 1)) 3, 3, "ecs.go:61", #[⟨4, .data⟩, ⟨2, .guard⟩], some (2, true)⟩ hHeld ?_
     simp only [Act.put, sA_, sB_, sC_]
     refine sk_ 6 ⟨some 53, .indexAddr 43 (.tmp 50) (.tmp 52), 0, "ecs.go:61", #[⟨3, .data⟩, ⟨5, .data⟩, ⟨2, .guard⟩], some (2, true)⟩ hHeld ?_
     simp only [Act.put, sA_, sB_, sC_]
     refine sk_ 7 ⟨some 54, .fieldAddr 100 (.tmp 53) 0, 0, "ecs.go:61", #[⟨6, .data⟩, ⟨2, .guard⟩], some (2, true)⟩ hHeld ?_
     simp only [Act.put, sA_, sB_, sC_]
     refine sk_ 8 ⟨some 55, .load 68 (.tmp 54), 68, "ecs.go:61", #[⟨7, .data⟩, ⟨2, .guard⟩], some (2, true)⟩ hHeld ?_
     simp only [Act.put, sA_, sB_, sC_]
     refine sk_ 9 ⟨some 56, .fieldAddr 100 (.tmp 15) 0, 0, "ecs.go:61", #[⟨2, .guard⟩], some (2, true)⟩ hHeld ?_
     simp only [Act.put, sA_, sB_, sC_]
     refine sk_ 10 ⟨some 57, .load 68 (.tmp 56), 68, "ecs.go:61", #[⟨9, .data⟩, ⟨2, .guard⟩], some (2, true)⟩ hHeld ?_
     simp only [Act.put, sA_, sB_, sC_]
     refine sk_ 11 ⟨some 58, .binOp .geq 68 (.tmp 55) (.tmp 57) 68, 4, "ecs.go:61", #[⟨8, .data⟩, ⟨10, .data⟩, ⟨2, .guard⟩], some (2, true)⟩ hHeld ?_
     simp only [Act.put, sA_, sB_, sC_]
     refine tk_ 12 ⟨some 59, .pick (.tmp 49) (.tmp 58) (.const (.bool false)), 4, "ecs.go:61", #[⟨2, .data⟩, ⟨11, .data⟩], none⟩ hHeld ?_
     simp only [Act.put, sA_, sB_, sC_]
     refine tk_ 13 ⟨some 60, .move (.tmp 59), 4, "ecs.go:61", #[⟨12, .data⟩, ⟨2, .chain⟩], none⟩ hHeld ?_
     simp only [Act.put, sA_, sB_, sC_]
     refine tk_ 14 ⟨some 61, .fieldAddr 100 (.tmp 15) 1, 0, "ecs.go:61", #[⟨13, .guard⟩], some (13, false)⟩ hHeld ?_
     simp only [Act.put, sA_, sB_, sC_]
     refine tk_ 15 ⟨some 62, .load 66 (.tmp 61), 66, "ecs.go:61", #[⟨14, .data⟩, ⟨13, .guard⟩], some (13, false)⟩ hHeld ?_
     simp only [Act.put, sA_, sB_, sC_]
     refine tk_ 16 ⟨some 63, .call { callee := .builtin .len, args := #[.tmp 62], argTypes := #[66] }, 3, "ecs.go:61", #[⟨15, .data⟩, ⟨13, .guard⟩], some (13, false)⟩ hHeld ?_
     simp only [Act.put, sA_, sB_, sC_]
     refine tk_ 17 ⟨some 64, .binOp .eql 3 (.tmp 63) (.const (.int .i64 0)) 3, 4, "ecs.go:61", #[⟨16, .data⟩, ⟨13, .guard⟩], some (13, false)⟩ hHeld ?_
     simp only [Act.put, sA_, sB_, sC_]
     refine tk_ 18 ⟨some 65, .pick (.tmp 60) (.const (.bool true)) (.tmp 64), 4, "ecs.go:61", #[⟨13, .data⟩, ⟨17, .data⟩], none⟩ hHeld ?_
     simp only [Act.put, sA_, sB_, sC_]
     refine wpAnyH_done (by kernel_rfl) ?_ _
     refine NoPanic.normal ?_
     clear s1 hHeld
     go_wp2
     go_ret2
     obtain ⟨hLd, hC, hcj, hB, hr, hrk, hwr, hsl, hprev, hblt⟩ := HH.out
     refine ⟨hwr.trans ((H7B.out.drew).mono hwr.size), .inr ⟨rfl, fun ⟨kz, hz, _⟩ => hLd.stop hr (fun ⟨k', _, hne, _⟩ => hne (List.eq_nil_of_length_eq_zero (by show ids.length = 0; rw [<- HMQ.out.1]; exact HMZ.out))) ⟨kz, hz⟩⟩⟩
    ·have hjz : j = 0 := by omega
     have dj : decide ((0 : Int) < (j : Int)) = false := decide_eq_false (by omega)
     have dj' : decide ((j : Int) > 0) = false := decide_eq_false (by omega)
     have dj2 : decide (0 < j) = false := decide_eq_false (by omega)
     have dm2 : decide (m = 0) = false := decide_eq_false (by omega)
     have dm : decide ((m : Int) = 0) = false := decide_eq_false (by omega)
     have dm' : ((m : Int) == 0) = false := by simp; omega
     have HJ := hi_ hj0
     have HMZ := hi_ hmz
     clear hj0 hmz hjz
     have s1 : w7.drew.cell? ⟨B, 0, none⟩ = some (.int .u64 sg) /\ w7.drew.cell? ⟨B, 1, none⟩ = some (.slice IA m ic) := ⟨c0, c1⟩
     refine wp_region_noPanic ?_
     refine wp_region_held_drew (S := fun W => W.cell? ⟨B, 0, none⟩ = some (.int .u64 sg) /\ W.cell? ⟨B, 1, none⟩ = some (.slice IA m ic)) (by kernel_rfl) s1 (fun hHeld => ?_)
     refine tk_ 0 ⟨some 47, .move (.tmp 14), 3, "ecs.go:61", #[], none⟩ hHeld ?_
     simp only [Act.put, sA_, sB_, sC_]
     refine tk_ 1 ⟨some 48, .binOp .gtr 3 (.tmp 47) (.const (.int .i64 0)) 3, 4, "ecs.go:61", #[⟨0, .data⟩], none⟩ hHeld ?_
     simp only [Act.put, sA_, sB_, sC_]
     refine tk_ 2 ⟨some 49, .move (.tmp 48), 4, "ecs.go:61", #[⟨1, .data⟩], none⟩ hHeld ?_
     simp only [Act.put, sA_, sB_, sC_]
     refine sk_ 3 ⟨some 50, .move (.tmp 3), 43, "ecs.go:61", #[⟨2, .guard⟩], some (2, true)⟩ hHeld ?_
     simp only [Act.put, sA_, sB_, sC_]
     refine sk_ 4 ⟨some 51, .move (.tmp 14), 3, "ecs.go:61", #[⟨2, .guard⟩], some (2, true)⟩ hHeld ?_
     simp only [Act.put, sA_, sB_, sC_]
     refine sk_ 5 ⟨some 52, .binOp .sub 3 (.tmp 51) (.const (.int .i64 1)) 3, 3, "ecs.go:61", #[⟨4, .data⟩, ⟨2, .guard⟩], some (2, true)⟩ hHeld ?_
     simp only [Act.put, sA_, sB_, sC_]
     refine sk_ 6 ⟨some 53, .indexAddr 43 (.tmp 50) (.tmp 52), 0, "ecs.go:61", #[⟨3, .data⟩, ⟨5, .data⟩, ⟨2, .guard⟩], some (2, true)⟩ hHeld ?_
     simp only [Act.put, sA_, sB_, sC_]
     refine sk_ 7 ⟨some 54, .fieldAddr 100 (.tmp 53) 0, 0, "ecs.go:61", #[⟨6, .data⟩, ⟨2, .guard⟩], some (2, true)⟩ hHeld ?_
     simp only [Act.put, sA_, sB_, sC_]
     refine sk_ 8 ⟨some 55, .load 68 (.tmp 54), 68, "ecs.go:61", #[⟨7, .data⟩, ⟨2, .guard⟩], some (2, true)⟩ hHeld ?_
     simp only [Act.put, sA_, sB_, sC_]
     refine sk_ 9 ⟨some 56, .fieldAddr 100 (.tmp 15) 0, 0, "ecs.go:61", #[⟨2, .guard⟩], some (2, true)⟩ hHeld ?_
     simp only [Act.put, sA_, sB_, sC_]
     refine sk_ 10 ⟨some 57, .load 68 (.tmp 56), 68, "ecs.go:61", #[⟨9, .data⟩, ⟨2, .guard⟩], some (2, true)⟩ hHeld ?_
     simp only [Act.put, sA_, sB_, sC_]
     refine sk_ 11 ⟨some 58, .binOp .geq 68 (.tmp 55) (.tmp 57) 68, 4, "ecs.go:61", #[⟨8, .data⟩, ⟨10, .data⟩, ⟨2, .guard⟩], some (2, true)⟩ hHeld ?_
     simp only [Act.put, sA_, sB_, sC_]
     refine tk_ 12 ⟨some 59, .pick (.tmp 49) (.tmp 58) (.const (.bool false)), 4, "ecs.go:61", #[⟨2, .data⟩, ⟨11, .data⟩], none⟩ hHeld ?_
     simp only [Act.put, sA_, sB_, sC_]
     refine tk_ 13 ⟨some 60, .move (.tmp 59), 4, "ecs.go:61", #[⟨12, .data⟩, ⟨2, .chain⟩], none⟩ hHeld ?_
     simp only [Act.put, sA_, sB_, sC_]
     refine tk_ 14 ⟨some 61, .fieldAddr 100 (.tmp 15) 1, 0, "ecs.go:61", #[⟨13, .guard⟩], some (13, false)⟩ hHeld ?_
     simp only [Act.put, sA_, sB_, sC_]
     refine tk_ 15 ⟨some 62, .load 66 (.tmp 61), 66, "ecs.go:61", #[⟨14, .data⟩, ⟨13, .guard⟩], some (13, false)⟩ hHeld ?_
     simp only [Act.put, sA_, sB_, sC_]
     refine tk_ 16 ⟨some 63, .call { callee := .builtin .len, args := #[.tmp 62], argTypes := #[66] }, 3, "ecs.go:61", #[⟨15, .data⟩, ⟨13, .guard⟩], some (13, false)⟩ hHeld ?_
     simp only [Act.put, sA_, sB_, sC_]
     refine tk_ 17 ⟨some 64, .binOp .eql 3 (.tmp 63) (.const (.int .i64 0)) 3, 4, "ecs.go:61", #[⟨16, .data⟩, ⟨13, .guard⟩], some (13, false)⟩ hHeld ?_
     simp only [Act.put, sA_, sB_, sC_]
     refine tk_ 18 ⟨some 65, .pick (.tmp 60) (.const (.bool true)) (.tmp 64), 4, "ecs.go:61", #[⟨13, .data⟩, ⟨17, .data⟩], none⟩ hHeld ?_
     simp only [Act.put, sA_, sB_, sC_]
     refine wpAnyH_done (by kernel_rfl) ?_ _
     refine NoPanic.normal ?_
     clear s1 hHeld
     obtain ⟨wq, hwq⟩ : ∃ wq, wq = w7.drew := ⟨_, rfl⟩
     have hBq : Below w7.heap.size w7 wq := by rw [hwq]; exact (Below.refl _ _).drew
     rw [<- hwq]
     clear hwq
     clear dj dj' dj2 dm dm' dm2
     have hpv : ∀ s', prevS xs j = some s' -> s' < sg := fun s' e => by rw [HJ.out] at e; cases e
     have h7q : Below wr.heap.size wr wq := H7B.out.trans (hBq.mono H7B.out.size)
     have h1q : Below w1.heap.size w1 wq := HH.out.2.2.2.1.trans (h7q.mono HH.out.2.2.2.1.size)
     have f0 := (R1.out.under h1q).at_ 0
     have f1 := (R1.out.under h1q).at_ 1
     have f2 := (R1.out.under h1q).at_ 2
     have f3 := (R1.out.under h1q).at_ 3
     have f4 := (R1.out.under h1q).at_ 4
     have d0 : wq.cell? ⟨B, 0, none⟩ = some (.int .u64 sg) := (HR7.out.1.under hBq).at_ 0
     have d1 : wq.cell? ⟨B, 1, none⟩ = some (.slice IA m ic) := (HR7.out.1.under hBq).at_ 1
     have d2 : wq.cell? ⟨B, 2, none⟩ = some (.slice CA q cx) := (HR7.out.1.under hBq).at_ 2
     have CTq := CT.out wq h1q (sg, ids, cols) HH.out.2.2.2.2.2.1 IA ic CA cx (by have := IdsV.below hI.out h7q; rw [HMQ.out.1] at this; exact this) (by have := ColsL.below hC2.out h7q; rw [HMQ.out.2] at this; exact this)
     rw [show ((sg, ids, cols) : Rw).2.1.length = m from HMQ.out.1.symm, show ((sg, ids, cols) : Rw).2.2.length = q from HMQ.out.2.symm] at CTq
     have hCq := HH.out.2.1.below h7q
     have HQ1 := hi_ (And.intro h1q (And.intro hpv hCq))
     clear h7q h1q hpv hCq hBq c0 c1
     by_cases ht : ∃ t, TLd n (zsK ks) (sg, ids, cols) t
     ·obtain ⟨t, ht⟩ := ht
      have CTy : Hid (Calls Tryz.prog 48 #[cv lg pg en gn A n cap, .int .u64 (sg : Nat), .slice IA m ic, .slice CA q cx] wq fun e w' => Below wq.heap.size wq w' /\ ∃ p m v q tag, e = .returned (.tuple #[.pointer (some ⟨p, 0, none⟩), .int .i64 0]) /\ TbA w' wq.heap.size tag p m v q sg t) := hi_ (CTq.mono (by
       rintro e w' ⟨hb, ⟨t', p, m', v, q', tag, ht', rfl, hA⟩ | ⟨hno, _⟩⟩
       ·rw [ht'.1, <- ht.1] at hA
        exact ⟨hb, p, m', v, q', tag, rfl, hA⟩
       ·exact absurd ⟨t, ht⟩ hno))
      have hti := ht.ids
      simp only at hti
      have CLy : Hid (∀ w8 p m' v q' tag, Below wq.heap.size wq w8 -> TbA w8 wq.heap.size tag p m' v q' sg t -> Calls Tryz.prog 49 #[.pointer (some ⟨x.p, 0, none⟩), .pointer (some ⟨p, 0, none⟩)] w8 (LayR w1.heap.size wq w8 gr x k c sg t)) := hi_ (fun w8 p m' v q' tag hb hA => elay_any HQ1.out.2.2 hb hA (by have := HH.out.2.2.1; omega) HH.out.2.2.2.2.2.2.2.1.1 (by have := HH.out.2.2.2.2.2.2.2.1.2; omega) (fun id hid => HH.out.2.2.2.2.2.1.2.2.2 id (by rw [hti] at hid; exact hid)))
      have HT := hi_ (And.intro ht hti)
      clear ht hti CTq
      cases hlp : layP (fun id => k.ns.alive id.1 id.2) (gNode k.S sg).2 0 t.ids k.pl with
      | none =>
       have HLP := hi_ hlp
       clear hlp
       go_wp2_with (first
        | (go_at_call 48; refine CTy.out.mono ?_; rintro e w8 ⟨hb8, p, m', v, q', tag, rfl, hA⟩; have CL : Hid (Calls Tryz.prog 49 #[.pointer (some ⟨x.p, 0, none⟩), .pointer (some ⟨p, 0, none⟩)] w8 fun e w' => e = .returned (.bool false) /\ Below w1.heap.size w8 w') := hi_ ((CLy.out w8 p m' v q' tag hb8 hA).mono (by rintro e w' ⟨bb, rfl, ⟨_, pl', _, _, h2, _⟩ | ⟨rfl, _, h3⟩⟩; (rw [HLP.out] at h2; cases h2); exact ⟨rfl, h3⟩)); have HB8 := hi_ hb8; clear hb8 hA f0 f1 f2 f3 f4 d0 d1 d2)
        | (go_at_call 49; refine CL.out.mono ?_; rintro e w9 ⟨rfl, hb9⟩; have HB9 := hi_ hb9; clear hb9))
       go_ret2
       obtain ⟨hLd, hC, hcj, hB, hr, hrk, hwr, hsl, hprev, hblt⟩ := HH.out
       refine ⟨HB.out.1.trans ((HQ1.out.1.trans ((HB8.out.mono HQ1.out.1.size).trans HB9.out)).mono HB.out.1.size), .inr ⟨rfl, fun ⟨kz, hz, _⟩ => hLd.stop hr (by rintro ⟨k', _, _, t', ht', pl', h2, _⟩; rw [ht'.1, <- HT.out.1.1] at h2; exact absurd (HLP.out.symm.trans h2) (by simp)) ⟨kz, hz⟩⟩⟩
      | some pl =>
       have HLP := hi_ hlp
       clear hlp
       go_wp2_with (first
        | (go_at_call 48; refine CTy.out.mono ?_; rintro e w8 ⟨hb8, p, m', v, q', tag, rfl, hA⟩; have CL : Hid (Calls Tryz.prog 49 #[.pointer (some ⟨x.p, 0, none⟩), .pointer (some ⟨p, 0, none⟩)] w8 fun e w' => e = .returned (.bool true) /\ ∃ gr' pt', CoJ 0 w' w1.heap.size gr' x ⟨k.ns, (gNode k.S sg).1, upd k.tb (gNode k.S sg).2 (some t), pl⟩ (c + 1 + t.ids.length) pt' /\ TGo wq gr w' gr') := hi_ ((CLy.out w8 p m' v q' tag hb8 hA).mono (by rintro e w' ⟨bb, rfl, ⟨rfl, pl', gr', pt', h2, h3⟩ | ⟨_, h2, _⟩⟩; (rw [HLP.out] at h2; injection h2 with h2; subst h2; exact ⟨rfl, gr', pt', h3⟩); (rw [HLP.out] at h2; cases h2))); clear hb8 hA f0 f1 f2 f3 f4 d0 d1 d2)
        | (go_at_call 49; refine CL.out.mono ?_; rintro e w9 ⟨rfl, gr', pt', hC9, hG9⟩; have H9 := hi_ (And.intro hC9 hG9); clear hC9 hG9))
       go_roundw
       case rel =>
        obtain ⟨hLd, hC, hcj, hB, hr, hrk, hwr, hsl, hprev, hblt⟩ := HH.out
        refine ⟨j + 1, _, gr', _, pt', hjn, by go_num, ⟨(sg, ids, cols), k, hr, hLd, HQ1.out.2.1, ?_, t, HT.out.1, pl, HLP.out, rfl⟩, H9.out.1, ?_, HQ1.out.1.trans (H9.out.2.toBelow HQ1.out.2.2.lo HQ1.out.1.size)⟩
        ·intro e
         have e' : ids = [] := e
         have h1 := HMQ.out.1
         rw [e'] at h1
         exact HMZ.out h1
        ·have h1 := HT.out.1.2.2.2.1
         have h2 := HT.out.2
         simp only at h1
         rw [h2]
         omega
       case measure => simp [intOf]; omega
     ·have HTN := hi_ ht
      have CTn : Hid (Calls Tryz.prog 48 #[cv lg pg en gn A n cap, .int .u64 (sg : Nat), .slice IA m ic, .slice CA q cx] wq fun e w' => e = .returned (.tuple #[.pointer none, .int .i64 11]) /\ Below wq.heap.size wq w') := hi_ (CTq.mono (by
       rintro e w' ⟨hb, ⟨t', _, _, _, _, _, ht', _⟩ | ⟨_, rfl⟩⟩
       ·exact absurd ⟨t', ht'⟩ ht
       ·exact ⟨rfl, hb⟩))
      clear ht CTq
      go_wp2_with (go_at_call 48; refine CTn.out.mono ?_; rintro e w8 ⟨rfl, hb8⟩; have HB8 := hi_ hb8; clear hb8 f0 f1 f2 f3 f4 d0 d1 d2)
      go_ret2
      obtain ⟨hLd, hC, hcj, hB, hr, hrk, hwr, hsl, hprev, hblt⟩ := HH.out
      refine ⟨HB.out.1.trans ((HQ1.out.1.trans (HB8.out.mono HQ1.out.1.size)).mono HB.out.1.size), .inr ⟨rfl, fun ⟨kz, hz, _⟩ => hLd.stop hr (fun ⟨k', _, _, t', ht', _⟩ => HTN.out ⟨t', ht'⟩) ⟨kz, hz⟩⟩⟩
   ·obtain ⟨jj, hjj⟩ : ∃ jj, j = jj + 1 := ⟨j - 1, by omega⟩
    obtain ⟨ps, hps, kp⟩ := HH.out.2.2.2.2.2.2.2.2.1 jj hjj
    have hblt := HH.out.2.2.2.2.2.2.2.2.2
    have kp7 : w7.cell? ⟨b, o + jj * 3, none⟩ = some (.int .u64 (ps : Int)) := (H7B.out.cell (p := ⟨b, o + jj * 3, none⟩) hblt).trans kp
    have HPS := hi_ hps
    clear hps kp hblt
    by_cases hge : sg <= ps
    ·have hjl : jj < ln := by omega
     have dj : decide ((0 : Int) < (j : Int)) = true := decide_eq_true (by omega)
     have dj' : decide ((j : Int) > 0) = true := decide_eq_true (by omega)
     have dj2 : decide (0 < j) = true := decide_eq_true (by omega)
     have dg2 : decide (sg <= ps) = true := decide_eq_true (by omega)
     have hwrap : IntKind.i64.wrap ((j : Int) - 1) = (jj : Int) := by rw [show (j : Int) - 1 = (jj : Int) by omega]; exact IntWalk.i64_in _ (by omega)
     have dg : decide ((sg : Int) <= (ps : Int)) = true := decide_eq_true (by omega)
     have dg' : decide ((ps : Int) ≥ (sg : Int)) = true := decide_eq_true (by omega)
     have HJ := hi_ hj0
     have HJJ := hi_ hjj
     clear hj0 hjj
     have HGE := hi_ hge
     clear hge
     have s1 : w7.drew.cell? ⟨b, o + jj * 3, none⟩ = some (.int .u64 (ps : Int)) /\ w7.drew.cell? ⟨B, 0, none⟩ = some (.int .u64 sg) /\ w7.drew.cell? ⟨B, 1, none⟩ = some (.slice IA m ic) := ⟨kp7, c0, c1⟩
     refine wp_region_noPanic ?_
     refine wp_region_held_drew (S := fun W => W.cell? ⟨b, o + jj * 3, none⟩ = some (.int .u64 (ps : Int)) /\ W.cell? ⟨B, 0, none⟩ = some (.int .u64 sg) /\ W.cell? ⟨B, 1, none⟩ = some (.slice IA m ic)) (by kernel_rfl) s1 (fun hHeld => ?_)
     refine tk_ 0 ⟨some 47, .move (.tmp 14), 3, "ecs.go:61", #[], none⟩ hHeld ?_
     simp only [Act.put, sA_, sB_, sC_]
     refine tk_ 1 ⟨some 48, .binOp .gtr 3 (.tmp 47) (.const (.int .i64 0)) 3, 4, "ecs.go:61", #[⟨0, .data⟩], none⟩ hHeld ?_
     simp only [Act.put, sA_, sB_, sC_]
     refine tk_ 2 ⟨some 49, .move (.tmp 48), 4, "ecs.go:61", #[⟨1, .data⟩], none⟩ hHeld ?_
     simp only [Act.put, sA_, sB_, sC_]
     refine tk_ 3 ⟨some 50, .move (.tmp 3), 43, "ecs.go:61", #[⟨2, .guard⟩], some (2, true)⟩ hHeld ?_
     simp only [Act.put, sA_, sB_, sC_]
     refine tk_ 4 ⟨some 51, .move (.tmp 14), 3, "ecs.go:61", #[⟨2, .guard⟩], some (2, true)⟩ hHeld ?_
     simp only [Act.put, sA_, sB_, sC_]
     refine tk_ 5 ⟨some 52, .binOp .sub 3 (.tmp 51) (.const (.int .i64 1)) 3, 3, "ecs.go:61", #[⟨4, .data⟩, ⟨2, .guard⟩], some (2, true)⟩ hHeld ?_
     simp only [Act.put, sA_, sB_, sC_]
     refine tk_ 6 ⟨some 53, .indexAddr 43 (.tmp 50) (.tmp 52), 0, "ecs.go:61", #[⟨3, .data⟩, ⟨5, .data⟩, ⟨2, .guard⟩], some (2, true)⟩ hHeld ?_
     simp only [Act.put, sA_, sB_, sC_]
     refine tk_ 7 ⟨some 54, .fieldAddr 100 (.tmp 53) 0, 0, "ecs.go:61", #[⟨6, .data⟩, ⟨2, .guard⟩], some (2, true)⟩ hHeld ?_
     simp only [Act.put, sA_, sB_, sC_]
     refine tk_ 8 ⟨some 55, .load 68 (.tmp 54), 68, "ecs.go:61", #[⟨7, .data⟩, ⟨2, .guard⟩], some (2, true)⟩ hHeld ?_
     simp only [Act.put, sA_, sB_, sC_]
     refine tk_ 9 ⟨some 56, .fieldAddr 100 (.tmp 15) 0, 0, "ecs.go:61", #[⟨2, .guard⟩], some (2, true)⟩ hHeld ?_
     simp only [Act.put, sA_, sB_, sC_]
     refine tk_ 10 ⟨some 57, .load 68 (.tmp 56), 68, "ecs.go:61", #[⟨9, .data⟩, ⟨2, .guard⟩], some (2, true)⟩ hHeld ?_
     simp only [Act.put, sA_, sB_, sC_]
     refine tk_ 11 ⟨some 58, .binOp .geq 68 (.tmp 55) (.tmp 57) 68, 4, "ecs.go:61", #[⟨8, .data⟩, ⟨10, .data⟩, ⟨2, .guard⟩], some (2, true)⟩ hHeld ?_
     simp only [Act.put, sA_, sB_, sC_]
     refine tk_ 12 ⟨some 59, .pick (.tmp 49) (.tmp 58) (.const (.bool false)), 4, "ecs.go:61", #[⟨2, .data⟩, ⟨11, .data⟩], none⟩ hHeld ?_
     simp only [Act.put, sA_, sB_, sC_]
     refine tk_ 13 ⟨some 60, .move (.tmp 59), 4, "ecs.go:61", #[⟨12, .data⟩, ⟨2, .chain⟩], none⟩ hHeld ?_
     simp only [Act.put, sA_, sB_, sC_]
     refine sk_ 14 ⟨some 61, .fieldAddr 100 (.tmp 15) 1, 0, "ecs.go:61", #[⟨13, .guard⟩], some (13, false)⟩ hHeld ?_
     simp only [Act.put, sA_, sB_, sC_]
     refine sk_ 15 ⟨some 62, .load 66 (.tmp 61), 66, "ecs.go:61", #[⟨14, .data⟩, ⟨13, .guard⟩], some (13, false)⟩ hHeld ?_
     simp only [Act.put, sA_, sB_, sC_]
     refine sk_ 16 ⟨some 63, .call { callee := .builtin .len, args := #[.tmp 62], argTypes := #[66] }, 3, "ecs.go:61", #[⟨15, .data⟩, ⟨13, .guard⟩], some (13, false)⟩ hHeld ?_
     simp only [Act.put, sA_, sB_, sC_]
     refine sk_ 17 ⟨some 64, .binOp .eql 3 (.tmp 63) (.const (.int .i64 0)) 3, 4, "ecs.go:61", #[⟨16, .data⟩, ⟨13, .guard⟩], some (13, false)⟩ hHeld ?_
     simp only [Act.put, sA_, sB_, sC_]
     refine tk_ 18 ⟨some 65, .pick (.tmp 60) (.const (.bool true)) (.tmp 64), 4, "ecs.go:61", #[⟨13, .data⟩, ⟨17, .data⟩], none⟩ hHeld ?_
     simp only [Act.put, sA_, sB_, sC_]
     refine wpAnyH_done (by kernel_rfl) ?_ _
     refine NoPanic.normal ?_
     clear s1 hHeld
     go_wp2
     go_ret2
     obtain ⟨hLd, hC, hcj, hB, hr, hrk, hwr, hsl, hprev, hblt⟩ := HH.out
     refine ⟨hwr.trans ((H7B.out.drew).mono hwr.size), .inr ⟨rfl, fun ⟨kz, hz, _⟩ => hLd.stop hr (fun ⟨k', hlt, _⟩ => by have h1 : ps < sg := hlt ps HPS.out; have h2 := HGE.out; omega) ⟨kz, hz⟩⟩⟩
    ·by_cases hmz : m = 0
     ·have hjl : jj < ln := by omega
      have dj : decide ((0 : Int) < (j : Int)) = true := decide_eq_true (by omega)
      have dj' : decide ((j : Int) > 0) = true := decide_eq_true (by omega)
      have dj2 : decide (0 < j) = true := decide_eq_true (by omega)
      have dg2 : decide (sg <= ps) = false := decide_eq_false (by omega)
      have hwrap : IntKind.i64.wrap ((j : Int) - 1) = (jj : Int) := by rw [show (j : Int) - 1 = (jj : Int) by omega]; exact IntWalk.i64_in _ (by omega)
      have dg : decide ((sg : Int) <= (ps : Int)) = false := decide_eq_false (by omega)
      have dg' : decide ((ps : Int) ≥ (sg : Int)) = false := decide_eq_false (by omega)
      have dm2 : decide (m = 0) = true := decide_eq_true (by omega)
      have dm : decide ((m : Int) = 0) = true := decide_eq_true (by omega)
      have dm' : ((m : Int) == 0) = true := by simp; omega
      have HJ := hi_ hj0
      have HMZ := hi_ hmz
      have HJJ := hi_ hjj
      clear hj0 hmz hjj
      have HGE := hi_ hge
      clear hge
      have s1 : w7.drew.cell? ⟨b, o + jj * 3, none⟩ = some (.int .u64 (ps : Int)) /\ w7.drew.cell? ⟨B, 0, none⟩ = some (.int .u64 sg) /\ w7.drew.cell? ⟨B, 1, none⟩ = some (.slice IA m ic) := ⟨kp7, c0, c1⟩
      refine wp_region_noPanic ?_
      refine wp_region_held_drew (S := fun W => W.cell? ⟨b, o + jj * 3, none⟩ = some (.int .u64 (ps : Int)) /\ W.cell? ⟨B, 0, none⟩ = some (.int .u64 sg) /\ W.cell? ⟨B, 1, none⟩ = some (.slice IA m ic)) (by kernel_rfl) s1 (fun hHeld => ?_)
      refine tk_ 0 ⟨some 47, .move (.tmp 14), 3, "ecs.go:61", #[], none⟩ hHeld ?_
      simp only [Act.put, sA_, sB_, sC_]
      refine tk_ 1 ⟨some 48, .binOp .gtr 3 (.tmp 47) (.const (.int .i64 0)) 3, 4, "ecs.go:61", #[⟨0, .data⟩], none⟩ hHeld ?_
      simp only [Act.put, sA_, sB_, sC_]
      refine tk_ 2 ⟨some 49, .move (.tmp 48), 4, "ecs.go:61", #[⟨1, .data⟩], none⟩ hHeld ?_
      simp only [Act.put, sA_, sB_, sC_]
      refine tk_ 3 ⟨some 50, .move (.tmp 3), 43, "ecs.go:61", #[⟨2, .guard⟩], some (2, true)⟩ hHeld ?_
      simp only [Act.put, sA_, sB_, sC_]
      refine tk_ 4 ⟨some 51, .move (.tmp 14), 3, "ecs.go:61", #[⟨2, .guard⟩], some (2, true)⟩ hHeld ?_
      simp only [Act.put, sA_, sB_, sC_]
      refine tk_ 5 ⟨some 52, .binOp .sub 3 (.tmp 51) (.const (.int .i64 1)) 3, 3, "ecs.go:61", #[⟨4, .data⟩, ⟨2, .guard⟩], some (2, true)⟩ hHeld ?_
      simp only [Act.put, sA_, sB_, sC_]
      refine tk_ 6 ⟨some 53, .indexAddr 43 (.tmp 50) (.tmp 52), 0, "ecs.go:61", #[⟨3, .data⟩, ⟨5, .data⟩, ⟨2, .guard⟩], some (2, true)⟩ hHeld ?_
      simp only [Act.put, sA_, sB_, sC_]
      refine tk_ 7 ⟨some 54, .fieldAddr 100 (.tmp 53) 0, 0, "ecs.go:61", #[⟨6, .data⟩, ⟨2, .guard⟩], some (2, true)⟩ hHeld ?_
      simp only [Act.put, sA_, sB_, sC_]
      refine tk_ 8 ⟨some 55, .load 68 (.tmp 54), 68, "ecs.go:61", #[⟨7, .data⟩, ⟨2, .guard⟩], some (2, true)⟩ hHeld ?_
      simp only [Act.put, sA_, sB_, sC_]
      refine tk_ 9 ⟨some 56, .fieldAddr 100 (.tmp 15) 0, 0, "ecs.go:61", #[⟨2, .guard⟩], some (2, true)⟩ hHeld ?_
      simp only [Act.put, sA_, sB_, sC_]
      refine tk_ 10 ⟨some 57, .load 68 (.tmp 56), 68, "ecs.go:61", #[⟨9, .data⟩, ⟨2, .guard⟩], some (2, true)⟩ hHeld ?_
      simp only [Act.put, sA_, sB_, sC_]
      refine tk_ 11 ⟨some 58, .binOp .geq 68 (.tmp 55) (.tmp 57) 68, 4, "ecs.go:61", #[⟨8, .data⟩, ⟨10, .data⟩, ⟨2, .guard⟩], some (2, true)⟩ hHeld ?_
      simp only [Act.put, sA_, sB_, sC_]
      refine tk_ 12 ⟨some 59, .pick (.tmp 49) (.tmp 58) (.const (.bool false)), 4, "ecs.go:61", #[⟨2, .data⟩, ⟨11, .data⟩], none⟩ hHeld ?_
      simp only [Act.put, sA_, sB_, sC_]
      refine tk_ 13 ⟨some 60, .move (.tmp 59), 4, "ecs.go:61", #[⟨12, .data⟩, ⟨2, .chain⟩], none⟩ hHeld ?_
      simp only [Act.put, sA_, sB_, sC_]
      refine tk_ 14 ⟨some 61, .fieldAddr 100 (.tmp 15) 1, 0, "ecs.go:61", #[⟨13, .guard⟩], some (13, false)⟩ hHeld ?_
      simp only [Act.put, sA_, sB_, sC_]
      refine tk_ 15 ⟨some 62, .load 66 (.tmp 61), 66, "ecs.go:61", #[⟨14, .data⟩, ⟨13, .guard⟩], some (13, false)⟩ hHeld ?_
      simp only [Act.put, sA_, sB_, sC_]
      refine tk_ 16 ⟨some 63, .call { callee := .builtin .len, args := #[.tmp 62], argTypes := #[66] }, 3, "ecs.go:61", #[⟨15, .data⟩, ⟨13, .guard⟩], some (13, false)⟩ hHeld ?_
      simp only [Act.put, sA_, sB_, sC_]
      refine tk_ 17 ⟨some 64, .binOp .eql 3 (.tmp 63) (.const (.int .i64 0)) 3, 4, "ecs.go:61", #[⟨16, .data⟩, ⟨13, .guard⟩], some (13, false)⟩ hHeld ?_
      simp only [Act.put, sA_, sB_, sC_]
      refine tk_ 18 ⟨some 65, .pick (.tmp 60) (.const (.bool true)) (.tmp 64), 4, "ecs.go:61", #[⟨13, .data⟩, ⟨17, .data⟩], none⟩ hHeld ?_
      simp only [Act.put, sA_, sB_, sC_]
      refine wpAnyH_done (by kernel_rfl) ?_ _
      refine NoPanic.normal ?_
      clear s1 hHeld
      go_wp2
      go_ret2
      obtain ⟨hLd, hC, hcj, hB, hr, hrk, hwr, hsl, hprev, hblt⟩ := HH.out
      refine ⟨hwr.trans ((H7B.out.drew).mono hwr.size), .inr ⟨rfl, fun ⟨kz, hz, _⟩ => hLd.stop hr (fun ⟨k', _, hne, _⟩ => hne (List.eq_nil_of_length_eq_zero (by show ids.length = 0; rw [<- HMQ.out.1]; exact HMZ.out))) ⟨kz, hz⟩⟩⟩
     ·have hjl : jj < ln := by omega
      have dj : decide ((0 : Int) < (j : Int)) = true := decide_eq_true (by omega)
      have dj' : decide ((j : Int) > 0) = true := decide_eq_true (by omega)
      have dj2 : decide (0 < j) = true := decide_eq_true (by omega)
      have dg2 : decide (sg <= ps) = false := decide_eq_false (by omega)
      have hwrap : IntKind.i64.wrap ((j : Int) - 1) = (jj : Int) := by rw [show (j : Int) - 1 = (jj : Int) by omega]; exact IntWalk.i64_in _ (by omega)
      have dg : decide ((sg : Int) <= (ps : Int)) = false := decide_eq_false (by omega)
      have dg' : decide ((ps : Int) ≥ (sg : Int)) = false := decide_eq_false (by omega)
      have dm2 : decide (m = 0) = false := decide_eq_false (by omega)
      have dm : decide ((m : Int) = 0) = false := decide_eq_false (by omega)
      have dm' : ((m : Int) == 0) = false := by simp; omega
      have HJ := hi_ hj0
      have HMZ := hi_ hmz
      have HJJ := hi_ hjj
      clear hj0 hmz hjj
      have HGE := hi_ hge
      clear hge
      have s1 : w7.drew.cell? ⟨b, o + jj * 3, none⟩ = some (.int .u64 (ps : Int)) /\ w7.drew.cell? ⟨B, 0, none⟩ = some (.int .u64 sg) /\ w7.drew.cell? ⟨B, 1, none⟩ = some (.slice IA m ic) := ⟨kp7, c0, c1⟩
      refine wp_region_noPanic ?_
      refine wp_region_held_drew (S := fun W => W.cell? ⟨b, o + jj * 3, none⟩ = some (.int .u64 (ps : Int)) /\ W.cell? ⟨B, 0, none⟩ = some (.int .u64 sg) /\ W.cell? ⟨B, 1, none⟩ = some (.slice IA m ic)) (by kernel_rfl) s1 (fun hHeld => ?_)
      refine tk_ 0 ⟨some 47, .move (.tmp 14), 3, "ecs.go:61", #[], none⟩ hHeld ?_
      simp only [Act.put, sA_, sB_, sC_]
      refine tk_ 1 ⟨some 48, .binOp .gtr 3 (.tmp 47) (.const (.int .i64 0)) 3, 4, "ecs.go:61", #[⟨0, .data⟩], none⟩ hHeld ?_
      simp only [Act.put, sA_, sB_, sC_]
      refine tk_ 2 ⟨some 49, .move (.tmp 48), 4, "ecs.go:61", #[⟨1, .data⟩], none⟩ hHeld ?_
      simp only [Act.put, sA_, sB_, sC_]
      refine tk_ 3 ⟨some 50, .move (.tmp 3), 43, "ecs.go:61", #[⟨2, .guard⟩], some (2, true)⟩ hHeld ?_
      simp only [Act.put, sA_, sB_, sC_]
      refine tk_ 4 ⟨some 51, .move (.tmp 14), 3, "ecs.go:61", #[⟨2, .guard⟩], some (2, true)⟩ hHeld ?_
      simp only [Act.put, sA_, sB_, sC_]
      refine tk_ 5 ⟨some 52, .binOp .sub 3 (.tmp 51) (.const (.int .i64 1)) 3, 3, "ecs.go:61", #[⟨4, .data⟩, ⟨2, .guard⟩], some (2, true)⟩ hHeld ?_
      simp only [Act.put, sA_, sB_, sC_]
      refine tk_ 6 ⟨some 53, .indexAddr 43 (.tmp 50) (.tmp 52), 0, "ecs.go:61", #[⟨3, .data⟩, ⟨5, .data⟩, ⟨2, .guard⟩], some (2, true)⟩ hHeld ?_
      simp only [Act.put, sA_, sB_, sC_]
      refine tk_ 7 ⟨some 54, .fieldAddr 100 (.tmp 53) 0, 0, "ecs.go:61", #[⟨6, .data⟩, ⟨2, .guard⟩], some (2, true)⟩ hHeld ?_
      simp only [Act.put, sA_, sB_, sC_]
      refine tk_ 8 ⟨some 55, .load 68 (.tmp 54), 68, "ecs.go:61", #[⟨7, .data⟩, ⟨2, .guard⟩], some (2, true)⟩ hHeld ?_
      simp only [Act.put, sA_, sB_, sC_]
      refine tk_ 9 ⟨some 56, .fieldAddr 100 (.tmp 15) 0, 0, "ecs.go:61", #[⟨2, .guard⟩], some (2, true)⟩ hHeld ?_
      simp only [Act.put, sA_, sB_, sC_]
      refine tk_ 10 ⟨some 57, .load 68 (.tmp 56), 68, "ecs.go:61", #[⟨9, .data⟩, ⟨2, .guard⟩], some (2, true)⟩ hHeld ?_
      simp only [Act.put, sA_, sB_, sC_]
      refine tk_ 11 ⟨some 58, .binOp .geq 68 (.tmp 55) (.tmp 57) 68, 4, "ecs.go:61", #[⟨8, .data⟩, ⟨10, .data⟩, ⟨2, .guard⟩], some (2, true)⟩ hHeld ?_
      simp only [Act.put, sA_, sB_, sC_]
      refine tk_ 12 ⟨some 59, .pick (.tmp 49) (.tmp 58) (.const (.bool false)), 4, "ecs.go:61", #[⟨2, .data⟩, ⟨11, .data⟩], none⟩ hHeld ?_
      simp only [Act.put, sA_, sB_, sC_]
      refine tk_ 13 ⟨some 60, .move (.tmp 59), 4, "ecs.go:61", #[⟨12, .data⟩, ⟨2, .chain⟩], none⟩ hHeld ?_
      simp only [Act.put, sA_, sB_, sC_]
      refine tk_ 14 ⟨some 61, .fieldAddr 100 (.tmp 15) 1, 0, "ecs.go:61", #[⟨13, .guard⟩], some (13, false)⟩ hHeld ?_
      simp only [Act.put, sA_, sB_, sC_]
      refine tk_ 15 ⟨some 62, .load 66 (.tmp 61), 66, "ecs.go:61", #[⟨14, .data⟩, ⟨13, .guard⟩], some (13, false)⟩ hHeld ?_
      simp only [Act.put, sA_, sB_, sC_]
      refine tk_ 16 ⟨some 63, .call { callee := .builtin .len, args := #[.tmp 62], argTypes := #[66] }, 3, "ecs.go:61", #[⟨15, .data⟩, ⟨13, .guard⟩], some (13, false)⟩ hHeld ?_
      simp only [Act.put, sA_, sB_, sC_]
      refine tk_ 17 ⟨some 64, .binOp .eql 3 (.tmp 63) (.const (.int .i64 0)) 3, 4, "ecs.go:61", #[⟨16, .data⟩, ⟨13, .guard⟩], some (13, false)⟩ hHeld ?_
      simp only [Act.put, sA_, sB_, sC_]
      refine tk_ 18 ⟨some 65, .pick (.tmp 60) (.const (.bool true)) (.tmp 64), 4, "ecs.go:61", #[⟨13, .data⟩, ⟨17, .data⟩], none⟩ hHeld ?_
      simp only [Act.put, sA_, sB_, sC_]
      refine wpAnyH_done (by kernel_rfl) ?_ _
      refine NoPanic.normal ?_
      clear s1 hHeld
      obtain ⟨wq, hwq⟩ : ∃ wq, wq = w7.drew := ⟨_, rfl⟩
      have hBq : Below w7.heap.size w7 wq := by rw [hwq]; exact (Below.refl _ _).drew
      rw [<- hwq]
      clear hwq
      clear dj dj' dj2 dm dm' dm2 hwrap dg dg' dg2
      have hpv : ∀ s', prevS xs j = some s' -> s' < sg := fun s' e => by rw [HPS.out] at e; injection e with e; have h2 := HGE.out; omega
      have h7q : Below wr.heap.size wr wq := H7B.out.trans (hBq.mono H7B.out.size)
      have h1q : Below w1.heap.size w1 wq := HH.out.2.2.2.1.trans (h7q.mono HH.out.2.2.2.1.size)
      have f0 := (R1.out.under h1q).at_ 0
      have f1 := (R1.out.under h1q).at_ 1
      have f2 := (R1.out.under h1q).at_ 2
      have f3 := (R1.out.under h1q).at_ 3
      have f4 := (R1.out.under h1q).at_ 4
      have d0 : wq.cell? ⟨B, 0, none⟩ = some (.int .u64 sg) := (HR7.out.1.under hBq).at_ 0
      have d1 : wq.cell? ⟨B, 1, none⟩ = some (.slice IA m ic) := (HR7.out.1.under hBq).at_ 1
      have d2 : wq.cell? ⟨B, 2, none⟩ = some (.slice CA q cx) := (HR7.out.1.under hBq).at_ 2
      have CTq := CT.out wq h1q (sg, ids, cols) HH.out.2.2.2.2.2.1 IA ic CA cx (by have := IdsV.below hI.out h7q; rw [HMQ.out.1] at this; exact this) (by have := ColsL.below hC2.out h7q; rw [HMQ.out.2] at this; exact this)
      rw [show ((sg, ids, cols) : Rw).2.1.length = m from HMQ.out.1.symm, show ((sg, ids, cols) : Rw).2.2.length = q from HMQ.out.2.symm] at CTq
      have hCq := HH.out.2.1.below h7q
      have HQ1 := hi_ (And.intro h1q (And.intro hpv hCq))
      clear h7q h1q hpv hCq hBq c0 c1
      by_cases ht : ∃ t, TLd n (zsK ks) (sg, ids, cols) t
      ·obtain ⟨t, ht⟩ := ht
       have CTy : Hid (Calls Tryz.prog 48 #[cv lg pg en gn A n cap, .int .u64 (sg : Nat), .slice IA m ic, .slice CA q cx] wq fun e w' => Below wq.heap.size wq w' /\ ∃ p m v q tag, e = .returned (.tuple #[.pointer (some ⟨p, 0, none⟩), .int .i64 0]) /\ TbA w' wq.heap.size tag p m v q sg t) := hi_ (CTq.mono (by
        rintro e w' ⟨hb, ⟨t', p, m', v, q', tag, ht', rfl, hA⟩ | ⟨hno, _⟩⟩
        ·rw [ht'.1, <- ht.1] at hA
         exact ⟨hb, p, m', v, q', tag, rfl, hA⟩
        ·exact absurd ⟨t, ht⟩ hno))
       have hti := ht.ids
       simp only at hti
       have CLy : Hid (∀ w8 p m' v q' tag, Below wq.heap.size wq w8 -> TbA w8 wq.heap.size tag p m' v q' sg t -> Calls Tryz.prog 49 #[.pointer (some ⟨x.p, 0, none⟩), .pointer (some ⟨p, 0, none⟩)] w8 (LayR w1.heap.size wq w8 gr x k c sg t)) := hi_ (fun w8 p m' v q' tag hb hA => elay_any HQ1.out.2.2 hb hA (by have := HH.out.2.2.1; omega) HH.out.2.2.2.2.2.2.2.1.1 (by have := HH.out.2.2.2.2.2.2.2.1.2; omega) (fun id hid => HH.out.2.2.2.2.2.1.2.2.2 id (by rw [hti] at hid; exact hid)))
       have HT := hi_ (And.intro ht hti)
       clear ht hti CTq
       cases hlp : layP (fun id => k.ns.alive id.1 id.2) (gNode k.S sg).2 0 t.ids k.pl with
       | none =>
        have HLP := hi_ hlp
        clear hlp
        go_wp2_with (first
         | (go_at_call 48; refine CTy.out.mono ?_; rintro e w8 ⟨hb8, p, m', v, q', tag, rfl, hA⟩; have CL : Hid (Calls Tryz.prog 49 #[.pointer (some ⟨x.p, 0, none⟩), .pointer (some ⟨p, 0, none⟩)] w8 fun e w' => e = .returned (.bool false) /\ Below w1.heap.size w8 w') := hi_ ((CLy.out w8 p m' v q' tag hb8 hA).mono (by rintro e w' ⟨bb, rfl, ⟨_, pl', _, _, h2, _⟩ | ⟨rfl, _, h3⟩⟩; (rw [HLP.out] at h2; cases h2); exact ⟨rfl, h3⟩)); have HB8 := hi_ hb8; clear hb8 hA f0 f1 f2 f3 f4 d0 d1 d2)
         | (go_at_call 49; refine CL.out.mono ?_; rintro e w9 ⟨rfl, hb9⟩; have HB9 := hi_ hb9; clear hb9))
        go_ret2
        obtain ⟨hLd, hC, hcj, hB, hr, hrk, hwr, hsl, hprev, hblt⟩ := HH.out
        refine ⟨HB.out.1.trans ((HQ1.out.1.trans ((HB8.out.mono HQ1.out.1.size).trans HB9.out)).mono HB.out.1.size), .inr ⟨rfl, fun ⟨kz, hz, _⟩ => hLd.stop hr (by rintro ⟨k', _, _, t', ht', pl', h2, _⟩; rw [ht'.1, <- HT.out.1.1] at h2; exact absurd (HLP.out.symm.trans h2) (by simp)) ⟨kz, hz⟩⟩⟩
       | some pl =>
        have HLP := hi_ hlp
        clear hlp
        go_wp2_with (first
         | (go_at_call 48; refine CTy.out.mono ?_; rintro e w8 ⟨hb8, p, m', v, q', tag, rfl, hA⟩; have CL : Hid (Calls Tryz.prog 49 #[.pointer (some ⟨x.p, 0, none⟩), .pointer (some ⟨p, 0, none⟩)] w8 fun e w' => e = .returned (.bool true) /\ ∃ gr' pt', CoJ 0 w' w1.heap.size gr' x ⟨k.ns, (gNode k.S sg).1, upd k.tb (gNode k.S sg).2 (some t), pl⟩ (c + 1 + t.ids.length) pt' /\ TGo wq gr w' gr') := hi_ ((CLy.out w8 p m' v q' tag hb8 hA).mono (by rintro e w' ⟨bb, rfl, ⟨rfl, pl', gr', pt', h2, h3⟩ | ⟨_, h2, _⟩⟩; (rw [HLP.out] at h2; injection h2 with h2; subst h2; exact ⟨rfl, gr', pt', h3⟩); (rw [HLP.out] at h2; cases h2))); clear hb8 hA f0 f1 f2 f3 f4 d0 d1 d2)
         | (go_at_call 49; refine CL.out.mono ?_; rintro e w9 ⟨rfl, gr', pt', hC9, hG9⟩; have H9 := hi_ (And.intro hC9 hG9); clear hC9 hG9))
        go_roundw
        case rel =>
         obtain ⟨hLd, hC, hcj, hB, hr, hrk, hwr, hsl, hprev, hblt⟩ := HH.out
         refine ⟨j + 1, _, gr', _, pt', hjn, by go_num, ⟨(sg, ids, cols), k, hr, hLd, HQ1.out.2.1, ?_, t, HT.out.1, pl, HLP.out, rfl⟩, H9.out.1, ?_, HQ1.out.1.trans (H9.out.2.toBelow HQ1.out.2.2.lo HQ1.out.1.size)⟩
         ·intro e
          have e' : ids = [] := e
          have h1 := HMQ.out.1
          rw [e'] at h1
          exact HMZ.out h1
         ·have h1 := HT.out.1.2.2.2.1
          have h2 := HT.out.2
          simp only at h1
          rw [h2]
          omega
        case measure => simp [intOf]; omega
      ·have HTN := hi_ ht
       have CTn : Hid (Calls Tryz.prog 48 #[cv lg pg en gn A n cap, .int .u64 (sg : Nat), .slice IA m ic, .slice CA q cx] wq fun e w' => e = .returned (.tuple #[.pointer none, .int .i64 11]) /\ Below wq.heap.size wq w') := hi_ (CTq.mono (by
        rintro e w' ⟨hb, ⟨t', _, _, _, _, _, ht', _⟩ | ⟨_, rfl⟩⟩
        ·exact absurd ⟨t', ht'⟩ ht
        ·exact ⟨rfl, hb⟩))
       clear ht CTq
       go_wp2_with (go_at_call 48; refine CTn.out.mono ?_; rintro e w8 ⟨rfl, hb8⟩; have HB8 := hi_ hb8; clear hb8 f0 f1 f2 f3 f4 d0 d1 d2)
       go_ret2
       obtain ⟨hLd, hC, hcj, hB, hr, hrk, hwr, hsl, hprev, hblt⟩ := HH.out
       refine ⟨HB.out.1.trans ((HQ1.out.1.trans (HB8.out.mono HQ1.out.1.size)).mono HB.out.1.size), .inr ⟨rfl, fun ⟨kz, hz, _⟩ => hLd.stop hr (fun ⟨k', _, _, t', ht', _⟩ => HTN.out ⟨t', ht'⟩) ⟨kz, hz⟩⟩⟩
  ·obtain rfl : j = ln := by omega
   have c8 := hC.c8
   obtain ⟨np, hnp, hm⟩ := hC.mpp (by decide)
   have hlen := hm.len Tryz.underlying80 3
   have hns := hLd.ns
   have hcount : np = (namesTo xs xs.length).length := by
    have hLd' := hLd
    rw [<- HXS.out] at hLd'
    obtain ⟨h1, h2, _⟩ := hLd'.names
    refine MapE.count kfD hm _ h1 (fun id => ?_)
    have e1 : (plF k.pl id).isSome = (k.pl id).isSome := by unfold plF; simp
    rw [e1, h2 id]
    refine ⟨fun hid => ⟨?_, hid⟩, fun hid => hid.2⟩
    unfold namesTo at hid
    obtain ⟨l, hl, hid⟩ := List.mem_flatten.1 hid
    obtain ⟨r, hr, rfl⟩ := List.mem_map.1 hl
    exact (HRW.out.2 r (List.mem_of_mem_take hr)).2.2.2 id hid
   have CN := ecount_yes hC
   rw [hns] at CN
   obtain ⟨z, hz⟩ : ∃ z : Nat, z = s.cnt s.g.length := ⟨_, rfl⟩
   rw [<- hz] at CN
   have CN := hi_ CN
   have hBz : Below w.heap.size w wr := HB.out.1.trans (hB.mono HB.out.1.size)
   have HZ := hi_ (And.intro hLd (And.intro hC (And.intro hcj (And.intro hBz (And.intro hz hcount)))))
   clear hLd hC hcj hB hBz hz hcount hm hns hnp
   by_cases hnz : np = z
   ·subst hnz
    go_wp2_with (go_at_call 50; refine CN.out.mono ?_; rintro e w6 ⟨rfl, rfl⟩)
    go_ret2
    obtain ⟨hLd, hC, hcj, hBz, hz, hcount⟩ := HZ.out
    refine ⟨hBz, .inl ⟨x, gr, k, c, pt, rfl, HOF.out, by rw [HXS.out]; exact hLd, by rw [<- hcount, <- hz], by rw [<- HB.out.2]; exact hC, by rw [HXS.out]; exact hcj⟩⟩
   ·have hd1 : ((np : Int) != (z : Int)) = true := bne_iff_ne.2 (fun e => hnz (by omega))
    have hd2 : ¬ (np : Int) = (z : Int) := fun e => hnz (by omega)
    go_wp2_with (go_at_call 50; refine CN.out.mono ?_; rintro e w6 ⟨rfl, rfl⟩)
    go_ret2
    obtain ⟨hLd, hC, hcj, hBz, hz, hcount⟩ := HZ.out
    exact ⟨hBz, .inr ⟨rfl, fun ⟨_, _, hh⟩ => hnz (by rw [hcount, hh, hz])⟩⟩
end
end Go.Proofs.YtaoinkjjmakhaaaGreatDoor
