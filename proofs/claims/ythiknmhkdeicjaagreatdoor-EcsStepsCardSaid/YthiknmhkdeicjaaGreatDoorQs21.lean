/- EcRe, EcRf -/
import Derived.Test.YthiknmhkdeicjaaGreatDoorQs1
import Derived.Test.YthiknmhkdeicjaaGreatDoorQs12
import Derived.Test.YthiknmhkdeicjaaGreatDoorQs20
namespace Go.Proofs.YthiknmhkdeicjaaGreatDoor
open Go.RowKit
set_option maxRecDepth 20000
theorem VRow.pre {K : Nat -> Prop} {w : World} {A : Option Addr} {n sz : Nat} {vs : List Value} (h : VRow K w A n sz vs) {m : Nat} (hm : m <= n) : VRow K w A m sz (vs.take (m * sz)) := by
 refine ⟨?_, fun e => by have := h.2.1 e; omega, fun hp => ?_⟩
 ·rw [List.length_take, h.1]
  exact Nat.min_eq_left (Nat.mul_le_mul_right _ hm)
 ·obtain ⟨b, o, e, hk, hlt, hc⟩ := h.2.2 (by omega)
  exact ⟨b, o, e, hk, hlt, fun j u hj => hc j u (by
   rw [List.getElem?_take] at hj
   split at hj
   ·exact hj
   ·cases hj)⟩
theorem VRow.suf {K : Nat -> Prop} {w : World} {b o n sz : Nat} {vs : List Value} (h : VRow K w (some ⟨b, o, none⟩) n sz vs) {m : Nat} (hm : m <= n) : VRow K w (some ⟨b, o + m * sz, none⟩) (n - m) sz (vs.drop (m * sz)) := by
 refine ⟨?_, (fun e => by cases e), fun hp => ?_⟩
 ·rw [List.length_drop, h.1, Nat.sub_mul]
 ·obtain ⟨b', o', e, hk, hlt, hc⟩ := h.2.2 (by omega)
  injection e with e
  injection e with e1 e2
  subst e1 e2
  refine ⟨b, o + m * sz, rfl, hk, hlt, fun j u hj => ?_⟩
  rw [List.getElem?_drop] at hj
  rw [Nat.add_assoc]
  exact hc _ u hj
theorem HdL.drop {α : Type} {sz : Nat} {E : α -> List Value -> Prop} {vs : List Value} {xs : List α} (h : HdL sz E vs xs) (m : Nat) : HdL sz E (vs.drop (m * sz)) (xs.drop m) := by
 obtain ⟨ch, rfl, hl, hz, he⟩ := h
 refine ⟨ch.drop m, flatg_drop hz m, by simp [hl], fun r hr => hz r (List.mem_of_mem_drop hr), fun j x hj => ?_⟩
 rw [List.getElem?_drop] at hj
 obtain ⟨r, hr, hE⟩ := he _ x hj
 exact ⟨r, by rw [List.getElem?_drop]; exact hr, hE⟩
theorem four_start (w : World) (lg pg en gn : Int) (A : Option Addr) (n cap : Nat) (d : Rst) (i g : Int) : ∃ w1, w1 = (((w.alloc (.cells (cc lg pg en gn A n cap) 24)).alloc (.cells d.cs 37)).alloc (.cells #[.int .i64 i, .int .i64 g] 39)).alloc (.cells stZ 37) /\ Below w.heap.size w w1 /\ Rec 24 w1 w.heap.size (cc lg pg en gn A n cap) /\ Rec 37 w1 (w.heap.size + 1) d.cs /\ Rec 39 w1 (w.heap.size + 2) #[.int .i64 i, .int .i64 g] /\ Rec 37 w1 (w.heap.size + 3) stZ := by
 obtain ⟨w1, hw1, hb, r0, r1, r2, hs⟩ := three_start w lg pg en gn A n cap d i g
 have bc : Below w1.heap.size w1 (w1.alloc (.cells stZ 37)) := (Below.refl _ _).alloc (Nat.le_refl _) _
 refine ⟨w1.alloc (.cells stZ 37), by rw [hw1], hb.trans (bc.mono hb.size), r0.under bc, r1.under bc, r2.under bc, ?_⟩
 have := Rec.new w1 37 stZ
 rwa [hs] at this
section
variable {K : Nat -> Prop} {w : World} {d : Rst} {s : Es} {A : Option Addr} {n cap : Nat} {ks : List Kd}
def RTold (K : Nat -> Prop) (w : World) (s' : Es) (z : Int) (e : Ending) (w' : World) : Prop := ∃ d' : Rst, e = .returned (.tuple #[.agg d'.cs, .int .i64 z]) /\ RSt (fun y => K y \/ w.heap.size <= y) w' d' s' /\ Below w.heap.size w w'
set_option maxHeartbeats 1000000 in
theorem RRemove_no (h : RSt K w d s) (hn : d.en <= 1000000) (hps : ∀ e ∈ s.ents, e.2.length <= 1000000) (hk : KRd w A n ks) (hkn : n <= 1000000) (hz : Sized ks) (lg pg en gn i g kk : Int) (z : Int) (he : s.remove (szX ks) (i, g) kk = (s, z)) (hz0 : z ≠ 0) :
  Calls Tryz.prog 42 #[cv lg pg en gn A n cap, .agg d.cs, .agg #[.int .i64 i, .int .i64 g], .int .i64 kk] w (RTold K w s z) := by
 obtain ⟨w1, hw1, hb1, r0, r1, r2, r3⟩ := four_start w lg pg en gn A n cap d i g
 have CPL : Hid (Calls Tryz.prog 61 #[.agg d.cs, .agg #[.int .i64 i, .int .i64 g]] w1 fun e w' => e = .returned (.int .i64 (placeN (ePlace s.ents (i, g)))) /\ Below w1.heap.size w1 w') := hi_ (RPlace_any w1 d s (h.below hb1) hn i g)
 have CSZ : Hid (∀ W, Below w.heap.size w W -> Calls Tryz.prog 96 #[cv lg pg en gn A n cap, .int .i64 kk] W fun e w' => e = .returned (.tuple #[.int .i64 (sizeK ks kk).1, .bool (sizeK ks kk).2]) /\ Below W.heap.size W w') := hi_ fun W hW => RSize_any lg pg en gn A n cap ks W (hk.below hW) hkn kk
 have m0 := r2.at_ 0
 have m1 := r2.at_ 1
 have HE := hi_ h.e.ents
 have hel := h.en
 have H0 := hi_ h
 obtain ⟨GA, gn', gc, FA, fn, fc, EA, en', ec⟩ := d
 simp only at hel HE hn
 have HR := hi_ (And.intro r0 (And.intro r1 (And.intro hb1 (And.intro r2 r3))))
 have HL := hi_ (And.intro hel hps)
 have FIN : Hid (∀ W W', Below w.heap.size w W -> Fr (· = w.heap.size + 3) W W' -> RTold K w s z (.returned (.tuple #[.agg (stC GA gn' gc FA fn fc EA en' ec), .int .i64 z])) W') := hi_ fun W W' hW hF => by
  have hb : Below w.heap.size w W' := hW.trans (hF.toBelow (fun y hy => by rw [show y = w.heap.size + 3 from hy]; omega) hW.size)
  exact ⟨⟨GA, gn', gc, FA, fn, fc, EA, en', ec⟩, rfl, (H0.out.below hb).mono (fun _ hy => .inl hy), hb⟩
 clear h hk r0 r1 r2 r3 hb1 hel hps
 unfold Es.remove at he
 cases hp : ePlace s.ents (i, g) with
 | none =>
  rw [hp] at CPL he
  simp only [Prod.mk.injEq, true_and] at he
  subst he
  clear hp CSZ
  simp only [placeN] at CPL
  go_enter Tryz.func42, Tryz.ntmps42
  go_wp2_with (first
   | (rw [<- hw1]; clear hw1)
   | ((with_reducible refine wpList_ldS stT rfl rfl (.tmp 5) rfl rfl HR.out.2.1 ?_))
   | (go_at_call 61; refine CPL.out.mono ?_; rintro e w2 ⟨rfl, hb2⟩; have HB2 := hi_ (HR.out.2.2.1.trans (hb2.mono HR.out.2.2.1.size)); have R2 := hi_ (And.intro (HR.out.2.1.under hb2) (HR.out.2.2.2.2.under hb2)); clear hb2 m0 m1)
   | ((with_reducible refine wpList_ldS stT rfl rfl (.tmp 5) rfl rfl R2.out.1 ?_))
   | ((with_reducible refine wpList_stSt GA gn' gc FA fn fc EA en' ec rfl rfl (.tmp 8) (.tmp 21) rfl rfl rfl R2.out.2 ?_); intro w6 hR6 hF6))
  exact bodyPost_ret (res_ct rfl rfl (hR6.load stT rfl)) rfl (FIN.out w2 w6 HB2.out hF6)
 | some j =>
  obtain ⟨hj, hje⟩ := ePlace_some hp
  rw [hp] at CPL he
  simp only [placeN] at CPL
  simp only at he
  have dj : decide ((j : Int) < 0) = false := decide_eq_false (by omega)
  obtain ⟨q1, q2⟩ := szAt_of_size (kk := kk) hz
  cases hzz : szAt (szX ks) kk with
  | none =>
   rw [hzz] at q1 he
   simp only [Prod.mk.injEq, true_and] at he
   subst he
   obtain ⟨sz1, hsz1⟩ : ∃ z, z = (sizeK ks kk).1 := ⟨_, rfl⟩
   rw [q1, <- hsz1] at CSZ
   simp only [Option.isSome_none] at CSZ
   clear hp q1 q2 hzz hsz1 hje
   go_enter Tryz.func42, Tryz.ntmps42
   go_wp2_with (first
    | (rw [<- hw1]; clear hw1)
    | ((with_reducible refine wpList_ldS stT rfl rfl (.tmp 5) rfl rfl HR.out.2.1 ?_))
    | (go_at_call 61; refine CPL.out.mono ?_; rintro e w2 ⟨rfl, hb2⟩; have HB2 := hi_ (HR.out.2.2.1.trans (hb2.mono HR.out.2.2.1.size)); have R2 := hi_ (And.intro (HR.out.1.under hb2) (And.intro (HR.out.2.1.under hb2) (HR.out.2.2.2.2.under hb2))); clear hb2 m0 m1)
    | ((with_reducible refine wpList_ldS confT rfl rfl (.tmp 4) rfl rfl R2.out.1 ?_))
    | (go_at_call 96; refine (CSZ.out w2 HB2.out).mono ?_; rintro e w3 ⟨rfl, hb3⟩; have HB3 := hi_ (HB2.out.trans (hb3.mono HB2.out.size)); have R3 := hi_ (And.intro (R2.out.2.1.under hb3) (R2.out.2.2.under hb3)); clear hb3)
    | ((with_reducible refine wpList_ldS stT rfl rfl (.tmp 5) rfl rfl R3.out.1 ?_))
    | ((with_reducible refine wpList_stSt GA gn' gc FA fn fc EA en' ec rfl rfl (.tmp 8) (.tmp 30) rfl rfl rfl R3.out.2 ?_); intro w6 hR6 hF6))
   exact bodyPost_ret (res_ct rfl rfl (hR6.load stT rfl)) rfl (FIN.out w3 w6 HB3.out hF6)
  | some zz =>
   rw [hzz] at he
   simp only at he
   rw [q2 zz hzz] at CSZ
   obtain ⟨e, hee⟩ : ∃ e, s.ents[j]? = some e := ⟨_, List.getElem?_eq_getElem hj⟩
   have hg : s.ents.getD j noEn = e := by rw [List.getD_eq_getElem?_getD, hee]; rfl
   rw [hg] at he
   cases hq : pAt e.2 kk with
   | some q =>
    rw [hq] at he
    simp only [Prod.mk.injEq] at he
    exact absurd he.2.symm hz0
   | none =>
    rw [hq] at he
    simp only [Prod.mk.injEq, true_and] at he
    subst he
    obtain ⟨b, o, PA, pn, pc, hEA, _, hblt, _, _, h2, hP⟩ := HE.out.cell hee
    subst hEA
    have hyl := HL.out.2 e (List.mem_of_getElem? hee)
    have hjn : j < en' := by rw [HL.out.1]; exact hj
    have CPA : Hid (∀ W, Below w.heap.size w W -> Calls Tryz.prog 98 #[.slice PA pn pc, .int .i64 kk] W fun e' w' => e' = .returned (.int .i64 (-1)) /\ W = w') := hi_ fun W hW => by
     have := RPart_any W PA pn pc e.2 kk (hP.below hW) (by rw [<- hP.len]; exact hyl)
     rw [hq] at this
     exact this
    have FK : Hid (∀ W, Below w.heap.size w W -> W.cell? ⟨b, o + j * 3 + 2, none⟩ = some (.slice PA pn pc)) := hi_ fun W hW => (hW.cell (p := ⟨b, o + j * 3 + 2, none⟩) hblt).trans h2
    clear hp q1 q2 hzz hje hg hee hq h2 hP hyl hblt hz
    go_enter Tryz.func42, Tryz.ntmps42
    go_wp2_with (first
     | (rw [<- hw1]; clear hw1)
     | ((with_reducible refine wpList_ldS stT rfl rfl (.tmp 5) rfl rfl HR.out.2.1 ?_))
     | (go_at_call 61; refine CPL.out.mono ?_; rintro e w2 ⟨rfl, hb2⟩; have HB2 := hi_ (HR.out.2.2.1.trans (hb2.mono HR.out.2.2.1.size)); have R2 := hi_ (And.intro (HR.out.1.under hb2) (And.intro (HR.out.2.1.under hb2) (HR.out.2.2.2.2.under hb2))); clear hb2 m0 m1)
     | ((with_reducible refine wpList_ldS confT rfl rfl (.tmp 4) rfl rfl R2.out.1 ?_))
     | (go_at_call 96; refine (CSZ.out w2 HB2.out).mono ?_; rintro e w3 ⟨rfl, hb3⟩; have HB3 := hi_ (HB2.out.trans (hb3.mono HB2.out.size)); have R3 := hi_ (And.intro (R2.out.2.1.under hb3) (R2.out.2.2.under hb3)); have k2 := (R2.out.2.1.under hb3).at_ 2; have k5 := FK.out w3 HB3.out; clear hb3)
     | (go_at_call 98; refine (CPA.out w3 HB3.out).mono ?_; rintro e w' ⟨rfl, rfl⟩)
     | ((with_reducible refine wpList_ldS stT rfl rfl (.tmp 5) rfl rfl R3.out.1 ?_))
     | ((with_reducible refine wpList_stSt GA gn' gc FA fn fc (some ⟨b, o, none⟩) en' ec rfl rfl (.tmp 8) (.tmp 42) rfl rfl rfl R3.out.2 ?_); intro w6 hR6 hF6))
    exact bodyPost_ret (res_ct rfl rfl (hR6.load stT rfl)) rfl (FIN.out w3 w6 HB3.out hF6)
set_option maxHeartbeats 2000000 in
theorem RRemove_yes (h : RSt K w d s) (hn : d.en <= 1000000) (hps : ∀ e ∈ s.ents, e.2.length <= 1000) (hk : KRd w A n ks) (hkn : n <= 1000000) (hz : Sized ks) (lg pg en gn i g kk : Int) {j : Nat} (hp : ePlace s.ents (i, g) = some j) {z : Nat} (hzz : szAt (szX ks) kk = some z) {q : Nat} (hq : pAt (s.ents.getD j noEn).2 kk = some q) :
  Calls Tryz.prog 42 #[cv lg pg en gn A n cap, .agg d.cs, .agg #[.int .i64 i, .int .i64 g], .int .i64 kk] w (RTold K w ⟨s.ns, s.ents.set j ((i, g), (s.ents.getD j noEn).2.eraseIdx q)⟩ 0) := by
 obtain ⟨w1, hw1, hb1, r0, r1, r2, r3⟩ := four_start w lg pg en gn A n cap d i g
 obtain ⟨hj, hje⟩ := ePlace_some hp
 obtain ⟨e, hee⟩ : ∃ e, s.ents[j]? = some e := ⟨_, List.getElem?_eq_getElem hj⟩
 have hg : s.ents.getD j noEn = e := by rw [List.getD_eq_getElem?_getD, hee]; rfl
 rw [hg] at hq ⊢
 obtain ⟨hql, _⟩ := pAt_some hq
 have CPL : Hid (Calls Tryz.prog 61 #[.agg d.cs, .agg #[.int .i64 i, .int .i64 g]] w1 fun e w' => e = .returned (.int .i64 (j : Int)) /\ Below w1.heap.size w1 w') := hi_ (by
  have := RPlace_any w1 d s (h.below hb1) hn i g
  rw [hp] at this
  exact this)
 have CSZ : Hid (∀ W, Below w.heap.size w W -> Calls Tryz.prog 96 #[cv lg pg en gn A n cap, .int .i64 kk] W fun e w' => e = .returned (.tuple #[.int .i64 (z : Int), .bool true]) /\ Below W.heap.size W w') := hi_ fun W hW => by
  have := RSize_any lg pg en gn A n cap ks W (hk.below hW) hkn kk
  rw [(szAt_of_size hz).2 z hzz] at this
  exact this
 have m0 := r2.at_ 0
 have m1 := r2.at_ 1
 have H0 := hi_ (And.intro h hn)
 have HE := hi_ h.e
 have hel := h.en
 obtain ⟨GA, gn', gc, FA, fn, fc, EA, en', ec⟩ := d
 simp only at hel HE hn
 obtain ⟨b, o, PA, pn, pc, hEA, _, hblt, _, _, h2, hP, hpc, hpm⟩ := HE.out.cell hee
 subst hEA
 have hyl := hps e (List.mem_of_getElem? hee)
 have hpl := hP.len
 have hjn : j < en' := by rw [hel]; exact hj
 have hqn : q < pn := by omega
 have CPA : Hid (∀ W, Below w.heap.size w W -> Calls Tryz.prog 98 #[.slice PA pn pc, .int .i64 kk] W fun e' w' => e' = .returned (.int .i64 (q : Int)) /\ W = w') := hi_ fun W hW => by
  have := RPart_any W PA pn pc e.2 kk (hP.below hW) (by omega)
  rw [hq] at this
  exact this
 have FK : Hid (∀ W, Below w.heap.size w W -> W.cell? ⟨b, o + j * 3 + 2, none⟩ = some (.slice PA pn pc)) := hi_ fun W hW => (hW.cell (p := ⟨b, o + j * 3 + 2, none⟩) hblt).trans h2
 obtain ⟨pvs, hpvl, hpvr, hphd⟩ := hP
 obtain ⟨pb, po, hPA, _, _, _⟩ := hpvr.2.2 (by omega)
 subst hPA
 have HONE := hi_ (hphd.one (fun _ _ hx => EP.one hx))
 have HPV := hi_ (And.intro hpvr (And.intro hphd (And.intro hpl hyl)))
 have HR := hi_ (And.intro r0 (And.intro r1 (And.intro hb1 (And.intro r2 r3))))
 have HJ := hi_ (And.intro hj hql)
 have dj : decide ((j : Int) < 0) = false := decide_eq_false (by omega)
 have dq : decide ((q : Int) < 0) = false := decide_eq_false (by omega)
 have hpcc : True := trivial
 clear h hk r0 r1 r2 r3 hb1 hel hps hp hzz hq hje hg hee h2 hblt hz hpvl hpvr hphd hyl hpl HE hpcc
 go_enter Tryz.func42, Tryz.ntmps42
 go_upto_region 11 with (first
  | (rw [<- hw1]; clear hw1)
  | ((with_reducible refine wpList_ldS stT rfl rfl (.tmp 5) rfl rfl HR.out.2.1 ?_))
  | (go_at_call 61; refine CPL.out.mono ?_; rintro e w2 ⟨rfl, hb2⟩; have HB2 := hi_ (HR.out.2.2.1.trans (hb2.mono HR.out.2.2.1.size)); have R2 := hi_ (And.intro (HR.out.1.under hb2) (And.intro (HR.out.2.1.under hb2) (And.intro (HR.out.2.2.2.1.under hb2) (HR.out.2.2.2.2.under hb2)))); clear hb2 m0 m1)
  | ((with_reducible refine wpList_ldS confT rfl rfl (.tmp 4) rfl rfl R2.out.1 ?_))
  | (go_at_call 96; refine (CSZ.out w2 HB2.out).mono ?_; rintro e w3 ⟨rfl, hb3⟩; have HB3 := hi_ (HB2.out.trans (hb3.mono HB2.out.size)); have R3 := hi_ (And.intro (R2.out.2.1.under hb3) (And.intro (R2.out.2.2.1.under hb3) (R2.out.2.2.2.under hb3))); have k2 := (R2.out.2.1.under hb3).at_ 2; have k5 := FK.out w3 HB3.out; clear hb3)
  | (go_at_call 98; refine (CPA.out w3 HB3.out).mono ?_; rintro e w' ⟨rfl, rfl⟩))
 obtain ⟨wE, hwE⟩ : ∃ wE, wE = w3.alloc (.cells #[] 159) := ⟨_, rfl⟩
 have hbE : Below w3.heap.size w3 wE := by rw [hwE]; exact (Below.refl _ _).alloc (Nat.le_refl _) _
 have HOE : Hid (wE.ownsRow w3.heap.size 159 2 (.slice (some ⟨w3.heap.size, 0, none⟩) 0 0) 0 []) := hi_ (by rw [hwE]; exact World.ownsRow_lit w3 #[] 0 (Nat.le_refl _) (Nat.zero_le _) rfl)
 have HBE := hi_ (And.intro (HB3.out.trans (hbE.mono HB3.out.size)) hbE)
 clear hbE k2 k5 dj dq CPL CSZ CPA
 obtain ⟨hpvr, hphd, hpl, hyl⟩ := HPV.out
 have c0 : (0 : Int) <= (q : Int) := by omega
 have c1 : (q : Int) <= (pc : Int) := by omega
 have HV1 : Hid (VRow K wE (some ⟨pb, po, none⟩) q 2 (pvs.take (q * 2))) := hi_ ((hpvr.below HBE.out.1).pre (by omega))
 have HO1 : Hid (∀ u ∈ pvs.take (q * 2), u.oneCell' = true) := hi_ fun u hu => HONE.out u (List.mem_of_mem_take hu)
 have hq1000 : pn <= 1000 := by omega
 clear hpvr hphd hpl hyl
 go_upto_region 12 with (first
  | (rw [<- hwE]; clear hwE)
  | (at_builtin; refine wpList_appW partsT rfl (.tmp 43) (.tmp 46) rfl w3.heap.size (.slice (some ⟨w3.heap.size, 0, none⟩) 0 0) 0 [] rfl HOE.out (some ⟨pb, po, none⟩) q pc (pvs.take (q * 2)) rfl HV1.out HO1.out (by omega) (by decide) HBE.out.2.size ?_; intro v5 w5 ho5 hg5; rw [List.nil_append, Nat.zero_add] at ho5; have hF5 := Fr.grown hg5 (own := fun y => w3.heap.size <= y) (fun x hx => (own_geB HOE.out hx).1); obtain ⟨A5, c5, rfl, _, _, _⟩ := own_vrow ho5; have H5 := hi_ (And.intro ho5 hF5); clear ho5 hg5 hF5))
 obtain ⟨ho5, hF5⟩ := H5.out
 have hb5 : Below w3.heap.size w3 w5 := HBE.out.2.trans (hF5.toBelow (fun y hy => hy) HBE.out.2.size)
 obtain ⟨R30, R31, R32⟩ := R3.out
 have hb5d : Below w3.heap.size w3 w5.drew := hb5.drew
 have rs := R30.under hb5d
 have ri := R31.under hb5d
 have rz := R32.under hb5d
 have s1 : (w5.drew.cell? ⟨w.heap.size + 1, 0, none⟩ = some (.slice GA gn' gc) /\ w5.drew.cell? ⟨w.heap.size + 1, 1, none⟩ = some (.slice FA fn fc) /\ w5.drew.cell? ⟨w.heap.size + 1, 2, none⟩ = some (.slice (some ⟨b, o, none⟩) en' ec)) /\ w5.drew.cell? ⟨w.heap.size + 2, 0, none⟩ = some (.int .i64 i) /\ w5.drew.cell? ⟨w.heap.size + 2, 1, none⟩ = some (.int .i64 g) := ⟨⟨rs.at_ 0, rs.at_ 1, rs.at_ 2⟩, ri.at_ 0, ri.at_ 1⟩
 have HB5 := hi_ (HB3.out.trans (hb5d.mono HB3.out.size))
 have RZ := hi_ rz
 have c2 : (q : Int) + 1 <= (pn : Int) := by omega
 have c3 : (pn : Int) <= (pc : Int) := by omega
 have hwq : IntKind.i64.wrap ((q : Int) + 1) = ((q + 1 : Nat) : Int) := by rw [IntKind.wrap_i64]; omega
 have c4 : (0 : Int) <= ((q + 1 : Nat) : Int) /\ ((q + 1 : Nat) : Int) <= (pn : Int) := ⟨by omega, by omega⟩
 obtain ⟨SA, hSA⟩ : ∃ SA : Option Addr, SA = if pc = q + 1 then some ⟨pb, po, none⟩ else some ⟨pb, po + (q + 1) * 2, none⟩ := ⟨_, rfl⟩
 have HSA := hi_ hSA
 obtain ⟨hpvr, hphd, hpl, hyl⟩ := HPV.out
 have HVS : Hid (VRow K w5.drew SA (pn - (q + 1)) 2 (pvs.drop ((q + 1) * 2))) := hi_ (by
  have h1 := (hpvr.below HB5.out).suf (m := q + 1) (by omega)
  rw [hSA]
  split
  ·have e : pn - (q + 1) = 0 := by omega
   rw [e] at h1 ⊢
   exact ⟨h1.1, fun _ => rfl, fun h => absurd h (Nat.lt_irrefl 0)⟩
  ·exact h1)
 have HO2 : Hid (∀ u ∈ pvs.drop ((q + 1) * 2), u.oneCell' = true) := hi_ fun u hu => HONE.out u (List.mem_of_mem_drop hu)
 have HO5 := hi_ (own_keep ho5 (show Below w5.heap.size w5 w5.drew from (Below.refl _ _).drew))
 have HHD : Hid (HdL 2 (EP K w) (pvs.take (q * 2) ++ pvs.drop ((q + 1) * 2)) (e.2.eraseIdx q)) := hi_ (by
  rw [List.eraseIdx_eq_take_drop_succ]
  exact HdL.append (hphd.take q) (hphd.drop (q + 1)))
 have HEL : Hid ((e.2.eraseIdx q).length = q + (pn - (q + 1))) := hi_ (by rw [List.length_eraseIdx, if_pos HJ.out.2]; omega)
 have HW3 := hi_ (And.intro HB3.out.size hb5d.size)
 have HRS := hi_ (And.intro rs ri)
 have HLT := hi_ (And.intro rz.lt (And.intro R32.lt (And.intro R30.lt R31.lt)))
 clear ho5 hF5 hb5 R30 R31 R32 hb5d rs ri rz hSA hpvr hphd hpl hyl
 refine wp_region_noPanic ?_
 refine wp_region_held_drew (S := fun W => (W.cell? ⟨w.heap.size + 1, 0, none⟩ = some (.slice GA gn' gc) /\ W.cell? ⟨w.heap.size + 1, 1, none⟩ = some (.slice FA fn fc) /\ W.cell? ⟨w.heap.size + 1, 2, none⟩ = some (.slice (some ⟨b, o, none⟩) en' ec)) /\ W.cell? ⟨w.heap.size + 2, 0, none⟩ = some (.int .i64 i) /\ W.cell? ⟨w.heap.size + 2, 1, none⟩ = some (.int .i64 g)) (by kernel_rfl) s1 (fun hHeld => ?_)
 refine wpAnyH_take (i := 0) (oi := ⟨some 48, .load 37 (.tmp 5), 37, "ref.go:127", #[], none⟩) (v := ?_) rfl (by kernel_rfl) (by kernel_rfl) (by kernel_rfl) (fun _ _ _ h => h) (Or.inl ⟨by rfl, ?_⟩) (by assumption) ?_
 rotate_left 1
 ·intro w' hSw; (try dsimp only at hSw); go_simp; (try with_reducible rfl)
 simp only [Act.put, sA_, sB_, sC_]
 refine wpAnyH_take (i := 1) (oi := ⟨some 49, .move (.tmp 10), 3, "ref.go:127", #[], none⟩) (v := ?_) rfl (by kernel_rfl) (by kernel_rfl) (by kernel_rfl) (fun _ _ _ h => h) (Or.inl ⟨by rfl, ?_⟩) (by assumption) ?_
 rotate_left 1
 ·intro w' hSw; (try dsimp only at hSw); go_simp; (try with_reducible rfl)
 simp only [Act.put, sA_, sB_, sC_]
 refine wpAnyH_take (i := 2) (oi := ⟨some 50, .load 39 (.tmp 6), 39, "ref.go:127", #[], none⟩) (v := ?_) rfl (by kernel_rfl) (by kernel_rfl) (by kernel_rfl) (fun _ _ _ h => h) (Or.inl ⟨by rfl, ?_⟩) (by assumption) ?_
 rotate_left 1
 ·intro w' hSw; (try dsimp only at hSw); go_simp; (try with_reducible rfl)
 simp only [Act.put, sA_, sB_, sC_]
 refine wpAnyH_take (i := 3) (oi := ⟨some 51, .move (.tmp 15), 99, "ref.go:127", #[], none⟩) (v := ?_) rfl (by kernel_rfl) (by kernel_rfl) (by kernel_rfl) (fun _ _ _ h => h) (Or.inl ⟨by rfl, ?_⟩) (by assumption) ?_
 rotate_left 1
 ·intro w' hSw; (try dsimp only at hSw); go_simp; (try with_reducible rfl)
 simp only [Act.put, sA_, sB_, sC_]
 refine wpAnyH_take (i := 4) (oi := ⟨some 52, .move (.tmp 13), 99, "ref.go:127", #[], none⟩) (v := ?_) rfl (by kernel_rfl) (by kernel_rfl) (by kernel_rfl) (fun _ _ _ h => h) (Or.inl ⟨by rfl, ?_⟩) (by assumption) ?_
 rotate_left 1
 ·intro w' hSw; (try dsimp only at hSw); go_simp; (try with_reducible rfl)
 simp only [Act.put, sA_, sB_, sC_]
 refine wpAnyH_take (i := 5) (oi := ⟨some 53, .move (.tmp 14), 3, "ref.go:127", #[], none⟩) (v := ?_) rfl (by kernel_rfl) (by kernel_rfl) (by kernel_rfl) (fun _ _ _ h => h) (Or.inl ⟨by rfl, ?_⟩) (by assumption) ?_
 rotate_left 1
 ·intro w' hSw; (try dsimp only at hSw); go_simp; (try with_reducible rfl)
 simp only [Act.put, sA_, sB_, sC_]
 refine wpAnyH_take (i := 6) (oi := ⟨some 54, .binOp .add 3 (.tmp 53) (.const (.int .i64 1)) 3, 3, "ref.go:127", #[⟨5, .data⟩], none⟩) (v := ?_) rfl (by kernel_rfl) (by kernel_rfl) (by kernel_rfl) (fun _ _ _ h => h) (Or.inl ⟨by rfl, ?_⟩) (by assumption) ?_
 rotate_left 1
 ·intro w' hSw; (try dsimp only at hSw); go_simp; (try rw [hwq]); (try with_reducible rfl)
 simp only [Act.put, sA_, sB_, sC_]
 refine wpAnyH_take (i := 7) (oi := ⟨some 55, .slice 99 (.tmp 52) (some (.tmp 54)) none none, 99, "ref.go:127", #[⟨4, .data⟩, ⟨6, .data⟩], none⟩) (v := ?_) rfl (by kernel_rfl) (by kernel_rfl) (by kernel_rfl) (fun _ _ _ h => h) (Or.inl ⟨by rfl, ?_⟩) (by assumption) ?_
 rotate_left 1
 ·intro w' hSw; (try dsimp only at hSw); go_simp; (try simp only [Int.toNat_natCast]); (try rw [if_pos (show (0 : Int) <= (q : Int) + 1 by omega)]); (try rw [<- HSA.out]); (try with_reducible rfl)
 simp only [Act.put, sA_, sB_, sC_]
 refine wpAnyH_ready (rs := [8]) (by kernel_rfl) (by simp) ?_
 refine AllReadyH.cons (o := ⟨some 56, .call { callee := .builtin .append, args := #[.tmp 51, .tmp 55], argTypes := #[99, 99] }, 99, "ref.go:127", #[⟨3, .data⟩, ⟨7, .data⟩], none⟩) rfl (fun K' hK => ?_) AllReadyH.nil
 try rw [<- HSA.out]
 refine step_appX (K := K) partsT rfl (.tmp 51) (.tmp 55) rfl w3.heap.size (.slice A5 q c5) q (pvs.take (q * 2)) rfl HO5.out SA (pn - (q + 1)) (pc - (q + 1)) (pvs.drop ((q + 1) * 2)) rfl HVS.out HO2.out (by omega) (by decide) HW3.out.2 ?_
 intro v6 w6 ho6 hg6 hv6
 have hF6 := Fr.grown hg6 (own := fun y => w3.heap.size <= y) (fun x hx => (own_geB HO5.out hx).1)
 obtain ⟨A6, c6, rfl, hn6, hm6, hvr6⟩ := own_vrow ho6
 have hb6 : Below w.heap.size w w6 := HB5.out.trans (hF6.toBelow (fun y hy => Nat.le_trans HW3.out.1 hy) HB5.out.size)
 have t0 := HRS.out.1.fr hF6 (fun e => by have e' : w3.heap.size <= w.heap.size + 1 := e; have := HLT.out.2.2.1; omega)
 have t1 := HRS.out.2.fr hF6 (fun e => by have e' : w3.heap.size <= w.heap.size + 2 := e; have := HLT.out.2.2.2; omega)
 have t2 := RZ.out.fr hF6 (fun e => by have e' : w3.heap.size <= w.heap.size + 3 := e; have := HLT.out.2.1; omega)
 have s2 : (w6.cell? ⟨w.heap.size + 1, 0, none⟩ = some (.slice GA gn' gc) /\ w6.cell? ⟨w.heap.size + 1, 1, none⟩ = some (.slice FA fn fc) /\ w6.cell? ⟨w.heap.size + 1, 2, none⟩ = some (.slice (some ⟨b, o, none⟩) en' ec)) /\ w6.cell? ⟨w.heap.size + 2, 0, none⟩ = some (.int .i64 i) /\ w6.cell? ⟨w.heap.size + 2, 1, none⟩ = some (.int .i64 g) := ⟨⟨t0.at_ 0, t0.at_ 1, t0.at_ 2⟩, t1.at_ 0, t1.at_ 1⟩
 have HP6 : Hid (PartsV (fun y => (K y /\ y < w.heap.size) \/ w3.heap.size <= y) w6 A6 (q + (pn - (q + 1))) (e.2.eraseIdx q)) := hi_ ⟨_, HEL.out, hvr6.mono (fun y hy => .inr hy.1), HHD.out.imp (fun x r hx => EP.ok.mono (EP.ok.below (EP.ok.lt hx) hb6) (fun _ hy => .inl hy))⟩
 have H6 := hi_ (And.intro hb6 (And.intro t2 (And.intro hn6 hm6)))
 have HS63 : Hid (w3.heap.size <= w6.heap.size) := hi_ (Nat.le_trans HW3.out.2 hF6.size)
 clear ho6 hg6 hv6 hF6 hvr6 hb6 t0 t1 t2 hn6 hm6
 refine hK.out _ _ s2 (fun hHeld => ?_)
 clear hK K'
 try simp only [Act.put, sA_, sB_, sC_]
 refine wpAnyH_take (i := 9) (oi := ⟨some 57, .build 101 #[(0, .tmp 50), (1, .tmp 56)], 101, "ref.go:127", #[⟨2, .data⟩, ⟨8, .data⟩], none⟩) (v := ?_) rfl (by kernel_rfl) (by kernel_rfl) (by kernel_rfl) (fun _ _ _ h => h) (Or.inl ⟨by rfl, ?_⟩) (by assumption) ?_
 rotate_left 1
 ·intro w' hSw; (try dsimp only at hSw); go_simp; (try with_reducible rfl)
 simp only [Act.put, sA_, sB_, sC_]
 refine wpAnyH_ready (rs := [10]) (by kernel_rfl) (by simp) ?_
 refine AllReadyH.cons (o := ⟨some 58, .call { callee := .value (.func 97), args := #[.tmp 48, .tmp 49, .tmp 57], argTypes := #[37, 3, 101] }, 37, "ref.go:127", #[⟨0, .data⟩, ⟨1, .data⟩, ⟨9, .data⟩, ⟨8, .chain⟩], none⟩) rfl (fun K' hK => ?_) AllReadyH.nil
 go_simp
 go_at_call 97; refine (RWith_any (K := fun y => (K y /\ y < w.heap.size) \/ w3.heap.size <= y) ((H0.out.1.lt.below H6.out.1).mono (fun _ hy => .inl hy)) H0.out.2 HJ.out.1 i g c6 HP6.out H6.out.2.2.1 H6.out.2.2.2).mono ?_; rintro e w7 ⟨d7, rfl, hR7, hb7⟩
 have H7 := hi_ (And.intro hR7 (And.intro (H6.out.1.trans (hb7.mono H6.out.1.size)) (H6.out.2.1.under hb7)))
 have hsz6 := hi_ H6.out.1.size
 have HSZ63 := hi_ HS63.out
 have s3 : (w7.cell? ⟨w.heap.size + 1, 0, none⟩ = some (.slice GA gn' gc) /\ w7.cell? ⟨w.heap.size + 1, 1, none⟩ = some (.slice FA fn fc) /\ w7.cell? ⟨w.heap.size + 1, 2, none⟩ = some (.slice (some ⟨b, o, none⟩) en' ec)) /\ w7.cell? ⟨w.heap.size + 2, 0, none⟩ = some (.int .i64 i) /\ w7.cell? ⟨w.heap.size + 2, 1, none⟩ = some (.int .i64 g) := ⟨⟨(World.cell?_of_block (hb7.block _ (World.block_lt_of_cell? w6 _ s2.1.1))).trans s2.1.1, (World.cell?_of_block (hb7.block _ (World.block_lt_of_cell? w6 _ s2.1.2.1))).trans s2.1.2.1, (World.cell?_of_block (hb7.block _ (World.block_lt_of_cell? w6 _ s2.1.2.2))).trans s2.1.2.2⟩, (World.cell?_of_block (hb7.block _ (World.block_lt_of_cell? w6 _ s2.2.1))).trans s2.2.1, (World.cell?_of_block (hb7.block _ (World.block_lt_of_cell? w6 _ s2.2.2))).trans s2.2.2⟩
 clear hR7 hb7
 refine hK.out _ _ s3 (fun hHeld => ?_)
 clear hK K'
 try simp only [Act.put, sA_, sB_, sC_]
 refine wpAnyH_ready (rs := [11]) (by kernel_rfl) (by simp) ?_
 refine AllReadyH.cons (o := ⟨none, .store 37 (.tmp 8) (.tmp 58), 0, "ref.go:127", #[⟨10, .data⟩, ⟨10, .chain⟩, ⟨0, .phase⟩, ⟨1, .phase⟩, ⟨2, .phase⟩, ⟨3, .phase⟩, ⟨4, .phase⟩, ⟨5, .phase⟩, ⟨6, .phase⟩, ⟨7, .phase⟩, ⟨8, .phase⟩, ⟨9, .phase⟩, ⟨10, .phase⟩], none⟩) rfl (fun K' hK => ?_) AllReadyH.nil
 refine step_stS (cs' := d7.cs) stT rfl rfl (by simp [Value.oneCell']) rfl (.tmp 8) (.tmp 58) rfl rfl rfl H7.out.2.2 ?_
 intro w8 hR8 hF8
 have s4 : (w8.cell? ⟨w.heap.size + 1, 0, none⟩ = some (.slice GA gn' gc) /\ w8.cell? ⟨w.heap.size + 1, 1, none⟩ = some (.slice FA fn fc) /\ w8.cell? ⟨w.heap.size + 1, 2, none⟩ = some (.slice (some ⟨b, o, none⟩) en' ec)) /\ w8.cell? ⟨w.heap.size + 2, 0, none⟩ = some (.int .i64 i) /\ w8.cell? ⟨w.heap.size + 2, 1, none⟩ = some (.int .i64 g) := ⟨⟨(World.cell?_of_block (hF8.block _ (World.block_lt_of_cell? w7 _ s3.1.1) (fun e => by have e' : w.heap.size + 1 = w.heap.size + 3 := e; omega))).trans s3.1.1, (World.cell?_of_block (hF8.block _ (World.block_lt_of_cell? w7 _ s3.1.2.1) (fun e => by have e' : w.heap.size + 1 = w.heap.size + 3 := e; omega))).trans s3.1.2.1, (World.cell?_of_block (hF8.block _ (World.block_lt_of_cell? w7 _ s3.1.2.2) (fun e => by have e' : w.heap.size + 1 = w.heap.size + 3 := e; omega))).trans s3.1.2.2⟩, (World.cell?_of_block (hF8.block _ (World.block_lt_of_cell? w7 _ s3.2.1) (fun e => by have e' : w.heap.size + 2 = w.heap.size + 3 := e; omega))).trans s3.2.1, (World.cell?_of_block (hF8.block _ (World.block_lt_of_cell? w7 _ s3.2.2) (fun e => by have e' : w.heap.size + 2 = w.heap.size + 3 := e; omega))).trans s3.2.2⟩
 have H8 := hi_ (And.intro hR8 hF8)
 clear hR8 hF8
 refine hK.out _ _ s4 (fun hHeld => ?_)
 clear hK K'
 try simp only [Act.put]
 refine wpAnyH_take (i := 12) (oi := ⟨some 9, .assign (.const (.int .i64 0)), 3, "ref.go:127", #[⟨11, .chain⟩, ⟨0, .phase⟩, ⟨1, .phase⟩, ⟨2, .phase⟩, ⟨3, .phase⟩, ⟨4, .phase⟩, ⟨5, .phase⟩, ⟨6, .phase⟩, ⟨7, .phase⟩, ⟨8, .phase⟩, ⟨9, .phase⟩, ⟨10, .phase⟩, ⟨11, .phase⟩], none⟩) (v := ?_) rfl (by kernel_rfl) (by kernel_rfl) (by kernel_rfl) (fun _ _ _ h => h) (Or.inl ⟨by rfl, ?_⟩) (by assumption) ?_
 rotate_left 1
 ·intro w' hSw; (try dsimp only at hSw); go_simp; (try with_reducible rfl)
 simp only [Act.put, sA_, sB_, sC_]
 refine wpAnyH_done (by kernel_rfl) ?_ _
 refine NoPanic.normal ?_
 clear hHeld s1 s2 s3 s4
 go_wp2
 refine bodyPost_ret (res_ct rfl rfl (H8.out.1.load stT rfl)) rfl ?_
 have hb8 : Below w.heap.size w w8 := H7.out.2.1.trans (H8.out.2.toBelow (fun y hy => by rw [show y = w.heap.size + 3 from hy]; omega) H7.out.2.1.size)
 refine ⟨d7, rfl, ?_, hb8⟩
 have := (H7.out.1.lt.stays (w' := w8) ⟨H8.out.2.size, fun y hy => H8.out.2.block y hy.2 (fun e => by have e' : y = w.heap.size + 3 := e; have := HLT.out.2.1; have := hsz6.out; rcases hy.1 with (h | h) | h; omega; omega; have := HSZ63.out; omega)⟩)
 exact this.mono (fun y hy => by rcases hy.1 with (h | h) | h; exact .inl h.1; exact .inr (Nat.le_trans HW3.out.1 h); exact .inr (by have := hsz6.out; omega))
end
end Go.Proofs.YthiknmhkdeicjaaGreatDoor
namespace Go.Proofs.YthiknmhkdeicjaaGreatDoor
open Go.RowKit
set_option maxRecDepth 20000
theorem partT2 : RT Tryz.prog 159 2 := ⟨⟨_, Tryz.underlying159, rfl⟩, by kernel_rfl⟩
theorem wpList_ldPt {ops : Array Oper} {rest : List Oper} {o : Oper} {a : Act} {w : World} {Q : Exit -> Act -> World -> Prop} {b off : Nat} {k : Int} {u : Value} (hgd : Region.wanted o (yielded ops a.tmps) = true) (x : Operand) (ho : o.op = .load 159 x)
  (hx : a.eval x = .pointer (some ⟨b, off, none⟩)) (h0 : w.cell? ⟨b, off, none⟩ = some (.int .i64 k)) (h1 : w.cell? ⟨b, off + 1, none⟩ = some u)
  (kk : wpList Tryz.prog ops Q rest (a.put o.dst (.agg #[.int .i64 k, u])) w) : wpList Tryz.prog ops Q (o :: rest) a w :=
 wpList_w hgd fun _ hK => by
  obtain ⟨d, hd, hr⟩ := partT2.und
  have := run_loadVar_mid (P := Tryz.prog) w b off 159 [.int .i64 k, u] d (fun j v hj => by
   match j, hj with
   | 0, hj => injection hj with hj; rw [<- hj]; exact h0
   | 1, hj => injection hj with hj; rw [<- hj]; exact h1) hd hr (by rw [partT2.info]; rfl)
  have h3 : (Instr.loadAt 159 (.pointer (some ⟨b, off, none⟩))).run Tryz.prog w = .ok (.agg #[.int .i64 k, u]) w := by
   simp only [Instr.loadAt, Instr.sureAddr, Sem.run_bind, Sem.run_pure, Result.andThen_ok, this]
  unfold Oper.wp execOp
  simp only [ho, hx, h3, Sem.run_bind, Sem.run_pure, Result.andThen_ok]
  exact hK _ _ kk
theorem pSet_cons (k : Int) (b : List UInt8) (d : Bool) (x : Pt) (l : List Pt) : pSet k b d (x :: l) = (if d = false /\ k <= x.1 then [(k, b)] else []) ++ (if x.1 = k then [] else [x]) ++ pSet k b (d || decide (k <= x.1)) l := rfl
theorem VB.at_ {K : Nat -> Prop} {w W : World} {B : Nat} {u : Value} {l : List UInt8} (h : VB K w u l) (hb : Below w.heap.size w W) (hB : w.heap.size <= B) : VB (fun y => K y /\ y < B) W u l := (h.lt.below hb).mono fun _ hy => ⟨hy.1, Nat.lt_of_lt_of_le hy.2 hB⟩
section
variable {K : Nat -> Prop} {w : World} {d : Rst} {s : Es} {A : Option Addr} {n cap : Nat} {ks : List Kd}
set_option maxHeartbeats 1000000 in
theorem RSet_no (h : RSt K w d s) (hn : d.en <= 1000000) (hk : KRd w A n ks) (hkn : n <= 1000000) (hz : Sized ks) (lg pg en gn i g kk : Int) (DA : Option Addr) (dn dc : Nat) {b : List UInt8} (hb : b.length = dn) (z : Int) (he : s.set (szX ks) (i, g) kk b = (s, z)) (hz0 : z ≠ 0) :
  Calls Tryz.prog 41 #[cv lg pg en gn A n cap, .agg d.cs, .agg #[.int .i64 i, .int .i64 g], .int .i64 kk, .slice DA dn dc] w (RTold K w s z) := by
 obtain ⟨w1, hw1, hb1, r0, r1, r2, r3⟩ := four_start w lg pg en gn A n cap d i g
 have CPL : Hid (Calls Tryz.prog 61 #[.agg d.cs, .agg #[.int .i64 i, .int .i64 g]] w1 fun e w' => e = .returned (.int .i64 (placeN (ePlace s.ents (i, g)))) /\ Below w1.heap.size w1 w') := hi_ (RPlace_any w1 d s (h.below hb1) hn i g)
 have CSZ : Hid (∀ W, Below w.heap.size w W -> Calls Tryz.prog 96 #[cv lg pg en gn A n cap, .int .i64 kk] W fun e w' => e = .returned (.tuple #[.int .i64 (sizeK ks kk).1, .bool (sizeK ks kk).2]) /\ Below W.heap.size W w') := hi_ fun W hW => RSize_any lg pg en gn A n cap ks W (hk.below hW) hkn kk
 have m0 := r2.at_ 0
 have m1 := r2.at_ 1
 have H0 := hi_ h
 obtain ⟨GA, gn', gc, FA, fn, fc, EA, en', ec⟩ := d
 simp only at hn
 have HR := hi_ (And.intro r0 (And.intro r1 (And.intro hb1 (And.intro r2 r3))))
 have FIN : Hid (∀ W W', Below w.heap.size w W -> Fr (· = w.heap.size + 3) W W' -> RTold K w s z (.returned (.tuple #[.agg (stC GA gn' gc FA fn fc EA en' ec), .int .i64 z])) W') := hi_ fun W W' hW hF => by
  have hb : Below w.heap.size w W' := hW.trans (hF.toBelow (fun y hy => by rw [show y = w.heap.size + 3 from hy]; omega) hW.size)
  exact ⟨⟨GA, gn', gc, FA, fn, fc, EA, en', ec⟩, rfl, (H0.out.below hb).mono (fun _ hy => .inl hy), hb⟩
 clear h hk r0 r1 r2 r3 hb1
 unfold Es.set at he
 cases hp : ePlace s.ents (i, g) with
 | none =>
  rw [hp] at CPL he
  simp only [Prod.mk.injEq, true_and] at he
  subst he
  clear hp CSZ
  simp only [placeN] at CPL
  go_enter Tryz.func41, Tryz.ntmps41
  go_wp2_with (first
   | (rw [<- hw1]; clear hw1)
   | ((with_reducible refine wpList_ldS stT rfl rfl (.tmp 6) rfl rfl HR.out.2.1 ?_))
   | (go_at_call 61; refine CPL.out.mono ?_; rintro e w2 ⟨rfl, hb2⟩; have HB2 := hi_ (HR.out.2.2.1.trans (hb2.mono HR.out.2.2.1.size)); have R2 := hi_ (And.intro (HR.out.2.1.under hb2) (HR.out.2.2.2.2.under hb2)); clear hb2 m0 m1)
   | ((with_reducible refine wpList_ldS stT rfl rfl (.tmp 6) rfl rfl R2.out.1 ?_))
   | ((with_reducible refine wpList_stSt GA gn' gc FA fn fc EA en' ec rfl rfl (.tmp 10) (.tmp 24) rfl rfl rfl R2.out.2 ?_); intro w6 hR6 hF6))
  exact bodyPost_ret (res_ct rfl rfl (hR6.load stT rfl)) rfl (FIN.out w2 w6 HB2.out hF6)
 | some j =>
  rw [hp] at CPL he
  simp only [placeN] at CPL
  simp only at he
  have dj : decide ((j : Int) < 0) = false := decide_eq_false (by omega)
  obtain ⟨q1, q2⟩ := szAt_of_size (kk := kk) hz
  cases hzz : szAt (szX ks) kk with
  | none =>
   rw [hzz] at q1 he
   simp only [Prod.mk.injEq, true_and] at he
   subst he
   obtain ⟨sz1, hsz1⟩ : ∃ z, z = (sizeK ks kk).1 := ⟨_, rfl⟩
   rw [q1, <- hsz1] at CSZ
   simp only [Option.isSome_none] at CSZ
   clear hp q1 q2 hzz hsz1
   go_enter Tryz.func41, Tryz.ntmps41
   go_wp2_with (first
    | (rw [<- hw1]; clear hw1)
    | ((with_reducible refine wpList_ldS stT rfl rfl (.tmp 6) rfl rfl HR.out.2.1 ?_))
    | (go_at_call 61; refine CPL.out.mono ?_; rintro e w2 ⟨rfl, hb2⟩; have HB2 := hi_ (HR.out.2.2.1.trans (hb2.mono HR.out.2.2.1.size)); have R2 := hi_ (And.intro (HR.out.1.under hb2) (And.intro (HR.out.2.1.under hb2) (HR.out.2.2.2.2.under hb2))); clear hb2 m0 m1)
    | ((with_reducible refine wpList_ldS confT rfl rfl (.tmp 5) rfl rfl R2.out.1 ?_))
    | (go_at_call 96; refine (CSZ.out w2 HB2.out).mono ?_; rintro e w3 ⟨rfl, hb3⟩; have HB3 := hi_ (HB2.out.trans (hb3.mono HB2.out.size)); have R3 := hi_ (And.intro (R2.out.2.1.under hb3) (R2.out.2.2.under hb3)); clear hb3)
    | ((with_reducible refine wpList_ldS stT rfl rfl (.tmp 6) rfl rfl R3.out.1 ?_))
    | ((with_reducible refine wpList_stSt GA gn' gc FA fn fc EA en' ec rfl rfl (.tmp 10) (.tmp 33) rfl rfl rfl R3.out.2 ?_); intro w6 hR6 hF6))
   exact bodyPost_ret (res_ct rfl rfl (hR6.load stT rfl)) rfl (FIN.out w3 w6 HB3.out hF6)
  | some zz =>
   rw [hzz] at he
   simp only at he
   rw [q2 zz hzz] at CSZ
   by_cases hbl : b.length = zz
   ·rw [if_pos hbl] at he
    simp only [Prod.mk.injEq] at he
    exact absurd he.2.symm hz0
   ·rw [if_neg hbl] at he
    simp only [Prod.mk.injEq, true_and] at he
    subst he
    have d1 : decide ((dn : Int) = (zz : Int)) = false := decide_eq_false (by omega)
    have d2 : ((dn : Int) != (zz : Int)) = true := bne_iff_ne.2 (by omega)
    clear hp q1 q2 hzz hbl hb hz0
    go_enter Tryz.func41, Tryz.ntmps41
    go_wp2_with (first
     | (rw [<- hw1]; clear hw1)
     | ((with_reducible refine wpList_ldS stT rfl rfl (.tmp 6) rfl rfl HR.out.2.1 ?_))
     | (go_at_call 61; refine CPL.out.mono ?_; rintro e w2 ⟨rfl, hb2⟩; have HB2 := hi_ (HR.out.2.2.1.trans (hb2.mono HR.out.2.2.1.size)); have R2 := hi_ (And.intro (HR.out.1.under hb2) (And.intro (HR.out.2.1.under hb2) (HR.out.2.2.2.2.under hb2))); clear hb2 m0 m1)
     | ((with_reducible refine wpList_ldS confT rfl rfl (.tmp 5) rfl rfl R2.out.1 ?_))
     | (go_at_call 96; refine (CSZ.out w2 HB2.out).mono ?_; rintro e w3 ⟨rfl, hb3⟩; have HB3 := hi_ (HB2.out.trans (hb3.mono HB2.out.size)); have R3 := hi_ (And.intro (R2.out.2.1.under hb3) (R2.out.2.2.under hb3)); clear hb3)
     | ((with_reducible refine wpList_ldS stT rfl rfl (.tmp 6) rfl rfl R3.out.1 ?_))
     | ((with_reducible refine wpList_stSt GA gn' gc FA fn fc EA en' ec rfl rfl (.tmp 10) (.tmp 38) rfl rfl rfl R3.out.2 ?_); intro w6 hR6 hF6))
    exact bodyPost_ret (res_ct rfl rfl (hR6.load stT rfl)) rfl (FIN.out w3 w6 HB3.out hF6)
set_option maxHeartbeats 4000000 in
theorem RSet_yes (h : RSt K w d s) (hn : d.en <= 1000000) (hps : ∀ e ∈ s.ents, e.2.length <= 1000) (hk : KRd w A n ks) (hkn : n <= 1000000) (hz : Sized ks) (lg pg en gn i g kk : Int) {j : Nat} (hp : ePlace s.ents (i, g) = some j) (DA : Option Addr) (dn dc : Nat) {b : List UInt8} (hzz : szAt (szX ks) kk = some dn) (hV : VB K w (.slice DA dn dc) b) :
  Calls Tryz.prog 41 #[cv lg pg en gn A n cap, .agg d.cs, .agg #[.int .i64 i, .int .i64 g], .int .i64 kk, .slice DA dn dc] w (RTold K w ⟨s.ns, s.ents.set j ((i, g), pSet kk b false (s.ents.getD j noEn).2)⟩ 0) := by
 obtain ⟨w1, hw1, hb1, r0, r1, r2, r3⟩ := four_start w lg pg en gn A n cap d i g
 obtain ⟨hj, hje⟩ := ePlace_some hp
 obtain ⟨e, hee⟩ : ∃ e, s.ents[j]? = some e := ⟨_, List.getElem?_eq_getElem hj⟩
 have hg : s.ents.getD j noEn = e := by rw [List.getD_eq_getElem?_getD, hee]; rfl
 rw [hg]
 obtain ⟨old, hold⟩ : ∃ old, old = e.2 := ⟨_, rfl⟩
 rw [<- hold]
 have CPL : Hid (Calls Tryz.prog 61 #[.agg d.cs, .agg #[.int .i64 i, .int .i64 g]] w1 fun e w' => e = .returned (.int .i64 (j : Int)) /\ Below w1.heap.size w1 w') := hi_ (by
  have := RPlace_any w1 d s (h.below hb1) hn i g
  rw [hp] at this
  exact this)
 have CSZ : Hid (∀ W, Below w.heap.size w W -> Calls Tryz.prog 96 #[cv lg pg en gn A n cap, .int .i64 kk] W fun e w' => e = .returned (.tuple #[.int .i64 (dn : Int), .bool true]) /\ Below W.heap.size W w') := hi_ fun W hW => by
  have := RSize_any lg pg en gn A n cap ks W (hk.below hW) hkn kk
  rw [(szAt_of_size hz).2 dn hzz] at this
  exact this
 have m0 := r2.at_ 0
 have m1 := r2.at_ 1
 have H0 := hi_ (And.intro h (And.intro hn hj))
 have HE := hi_ h.e
 have hel := h.en
 obtain ⟨GA, gn', gc, FA, fn, fc, EA, en', ec⟩ := d
 simp only at hel HE hn
 obtain ⟨eb, eo, PA, pn, pc, hEA, _, hblt, _, _, h2, hP, hpc, hpm⟩ := HE.out.cell hee
 subst hEA
 rw [<- hold] at hP
 have hyl := hps e (List.mem_of_getElem? hee)
 rw [<- hold] at hyl
 have hpl := hP.len
 have hjn : j < en' := by rw [hel]; exact hj
 have FK : Hid (∀ W, Below w.heap.size w W -> W.cell? ⟨eb, eo + j * 3 + 2, none⟩ = some (.slice PA pn pc)) := hi_ fun W hW => (hW.cell (p := ⟨eb, eo + j * 3 + 2, none⟩) hblt).trans h2
 have HP := hi_ (And.intro hP (And.intro hpl hyl))
 have HV := hi_ hV
 have HR := hi_ (And.intro r0 (And.intro r1 (And.intro hb1 (And.intro r2 r3))))
 have dj : decide ((j : Int) < 0) = false := decide_eq_false (by omega)
 clear h hk r0 r1 r2 r3 hb1 hel hps hp hzz hje hg hee h2 hblt hz hyl hpl HE hP hold hV
 go_enter Tryz.func41, Tryz.ntmps41
 go_wp2_with (first
  | (rw [<- hw1]; clear hw1)
  | ((with_reducible refine wpList_ldS stT rfl rfl (.tmp 6) rfl rfl HR.out.2.1 ?_))
  | (go_at_call 61; refine CPL.out.mono ?_; rintro e w2 ⟨rfl, hb2⟩; have HB2 := hi_ (HR.out.2.2.1.trans (hb2.mono HR.out.2.2.1.size)); have R2 := hi_ (And.intro (HR.out.1.under hb2) (And.intro (HR.out.2.1.under hb2) (And.intro (HR.out.2.2.2.1.under hb2) (HR.out.2.2.2.2.under hb2)))); clear hb2 m0 m1)
  | ((with_reducible refine wpList_ldS confT rfl rfl (.tmp 5) rfl rfl R2.out.1 ?_))
  | (go_at_call 96; refine (CSZ.out w2 HB2.out).mono ?_; rintro e w3 ⟨rfl, hb3⟩; have HB3 := hi_ (HB2.out.trans (hb3.mono HB2.out.size)); have R3 := hi_ (And.intro (R2.out.2.1.under hb3) (And.intro (R2.out.2.2.1.under hb3) (R2.out.2.2.2.under hb3))); have k2 := (R2.out.2.1.under hb3).at_ 2; have k5 := FK.out w3 HB3.out; clear hb3))
 clear k2 k5 dj CPL CSZ HB2 R2
 go_loopw [15, 16, 18] (fun lv dv iv wr => ∃ (jj : Nat) (db : Bool) (xs : List Pt) (vs : List Value) (D : Nat -> Prop), jj <= pn /\ iv = .int .i64 jj /\ dv = .bool db /\ Gr EP 159 2 wr w3.heap.size lv vs D xs /\ (∀ y, D y -> K y /\ y < w.heap.size) /\ xs ++ pSet kk b db (old.drop jj) = pSet kk b false old /\ xs.length <= 2 * jj /\ Below w3.heap.size w3 wr) (fun _ _ iv _ => pn - (intOf iv).toNat)
 case atStart => exact ⟨0, false, [], [], fun _ => False, Nat.zero_le _, rfl, rfl, Gr.start (World.ownsRow_nil _ _ _ _) (Nat.le_refl _), fun _ hh => hh.elim, rfl, Nat.le_refl _, Below.refl _ _⟩
 case round =>
  obtain ⟨jj, db, xs, vs, D, hjj, rfl, rfl, hG, hD, hX, hxl, hB⟩ := hrel
  have HBw := hi_ (HB3.out.trans (hB.mono HB3.out.size))
  have HG := hi_ (And.intro hG (And.intro hD (And.intro hX hB)))
  have hpl := HP.out.2.1
  have hyl := HP.out.2.2
  clear hG hD hX hB
  by_cases hjn : jj < pn
  ·obtain ⟨y, hy⟩ : ∃ y, old[jj]? = some y := ⟨_, List.getElem?_eq_getElem (by omega)⟩
   obtain ⟨pb, po, u, hPA, _, hblt, h0, h1, hU⟩ := HP.out.1.cell hy
   subst hPA
   have hdr : old.drop jj = y :: old.drop (jj + 1) := by
    obtain ⟨hl, he⟩ := List.getElem?_eq_some_iff.1 hy
    rw [List.drop_eq_getElem_cons hl, he]
   obtain ⟨xk, xb⟩ := y
   obtain ⟨UA, um, uc, rfl, hu⟩ := hU
   have HU : Hid (VB K w (.slice UA um uc) xb) := hi_ ⟨UA, um, uc, rfl, hu⟩
   simp only at h0
   have HC : Hid (∀ W, Below w.heap.size w W -> W.cell? ⟨pb, po + jj * 2, none⟩ = some (.int .i64 xk) /\ W.cell? ⟨pb, po + jj * 2 + 1, none⟩ = some (.slice UA um uc)) := hi_ fun W hW => ⟨(hW.cell (p := ⟨pb, po + jj * 2, none⟩) hblt).trans h0, (hW.cell (p := ⟨pb, po + jj * 2 + 1, none⟩) hblt).trans h1⟩
   have HX := hi_ hdr
   obtain ⟨n0, n1⟩ := HC.out wr HBw.out
   clear hy hdr hblt h0 h1 hu
   cases db with
   | false =>
    by_cases hle : kk <= xk
    ·have d1 : decide (kk <= xk) = true := decide_eq_true hle
     have d1' : decide (xk ≥ kk) = true := decide_eq_true hle
     obtain ⟨w5, hw5⟩ : ∃ w', w' = wr.alloc (.cells #[.int .i64 kk, .slice DA dn dc] 159) := ⟨_, rfl⟩
     have hb5 : Below wr.heap.size wr w5 := (by rw [hw5]; exact (Below.refl _ _).alloc (Nat.le_refl _) _)
     have HV5 : Hid (VRow (fun y => wr.heap.size <= y) w5 (some ⟨wr.heap.size, 0, none⟩) 1 2 [.int .i64 kk, .slice DA dn dc]) := hi_ (by rw [hw5]; exact VRow.new wr #[.int .i64 kk, .slice DA dn dc] _ 1 2 rfl)
     have HG5 := hi_ (And.intro (Gr.below EP.ok HG.out.1 hb5) (HG.out.2.2.2.trans (hb5.mono HG.out.2.2.2.size)))
     clear hb5
     by_cases heq : xk = kk
     ·obtain rfl := heq
      go_wp2_with (first
       | (rw [<- hw5]; clear hw5)
       | (at_builtin; refine wpList_appX (K := fun y => wr.heap.size <= y) partsT rfl (.tmp 62) (.tmp 66) rfl w3.heap.size _ (xs).length _ rfl HG5.out.1.ow (some ⟨wr.heap.size, 0, none⟩) 1 1 [.int .i64 xk, .slice DA dn dc] rfl HV5.out (fun u hu => by simp at hu; rcases hu with rfl | rfl <;> rfl) (by omega) (by decide) HG5.out.1.Bw ?_; intro v6 w6 ho6 hg6 hv6; have HG6 := hi_ (And.intro (HG5.out.1.put (x := (xk, b)) (r := [.int .i64 xk, .slice DA dn dc]) (K := fun y => K y /\ y < w.heap.size) EP.ok rfl ⟨_, rfl, (HV.out).at_ (HB3.out.trans (HG5.out.2.mono HB3.out.size)) (Nat.le_refl _)⟩ (fun y hy e => by have h1 := (own_geB HG5.out.1.ow e).1; have h2 := HB3.out.size; have h3 := hy.2; omega) ho6 hg6 hv6) (HG5.out.2.grown hg6 HG5.out.1.Bw (fun y hy => (own_geB HG5.out.1.ow hy).1))); clear ho6 hg6 hv6; have n0' := (HC.out w6 (HB3.out.trans (HG6.out.2.mono HB3.out.size))).1; clear n0 n1))
      go_roundw
      case rel =>
       refine ⟨jj + 1, true, xs ++ [(xk, b)], _, _, hjn, by go_num, rfl, HG6.out.1, fun y hy => ?_, ?_, by first | omega | (simp; omega), HG6.out.2⟩
       ·rcases hy with hy | hy; exact HG.out.2.1 y hy; exact hy.1
       ·have hx := HG.out.2.2.1
        rw [HX.out, pSet_cons] at hx
        rw [<- hx]
        simp
      case measure => simp [intOf]; omega
     ·have d2 : (xk != kk) = true := bne_iff_ne.2 heq
      have d3 : decide (xk = kk) = false := decide_eq_false heq
      go_wp2_with (first
       | (rw [<- hw5]; clear hw5)
       | (at_builtin; refine wpList_appX (K := fun y => wr.heap.size <= y) partsT rfl (.tmp 62) (.tmp 66) rfl w3.heap.size _ (xs).length _ rfl HG5.out.1.ow (some ⟨wr.heap.size, 0, none⟩) 1 1 [.int .i64 kk, .slice DA dn dc] rfl HV5.out (fun u hu => by simp at hu; rcases hu with rfl | rfl <;> rfl) (by omega) (by decide) HG5.out.1.Bw ?_; intro v6 w6 ho6 hg6 hv6; have HG6 := hi_ (And.intro (HG5.out.1.put (x := (kk, b)) (r := [.int .i64 kk, .slice DA dn dc]) (K := fun y => K y /\ y < w.heap.size) EP.ok rfl ⟨_, rfl, (HV.out).at_ (HB3.out.trans (HG5.out.2.mono HB3.out.size)) (Nat.le_refl _)⟩ (fun y hy e => by have h1 := (own_geB HG5.out.1.ow e).1; have h2 := HB3.out.size; have h3 := hy.2; omega) ho6 hg6 hv6) (HG5.out.2.grown hg6 HG5.out.1.Bw (fun y hy => (own_geB HG5.out.1.ow hy).1))); clear ho6 hg6 hv6; obtain ⟨n0', n1'⟩ := HC.out w6 (HB3.out.trans (HG6.out.2.mono HB3.out.size)); clear n0 n1; obtain ⟨w7, hw7⟩ : ∃ w', w' = w6.alloc (.cells #[.int .i64 xk, .slice UA um uc] 159) := ⟨_, rfl⟩; have hb7 : Below w6.heap.size w6 w7 := (by rw [hw7]; exact (Below.refl _ _).alloc (Nat.le_refl _) _); have HV7 : Hid (VRow (fun y => w6.heap.size <= y) w7 (some ⟨w6.heap.size, 0, none⟩) 1 2 [.int .i64 xk, .slice UA um uc]) := hi_ (by rw [hw7]; exact VRow.new w6 #[.int .i64 xk, .slice UA um uc] _ 1 2 rfl); have HG7 := hi_ (And.intro (Gr.below EP.ok HG6.out.1 hb7) (HG6.out.2.trans (hb7.mono HG6.out.2.size))); clear hb7)
       | ((with_reducible refine wpList_ldPt rfl (.tmp 78) rfl rfl n0' n1' ?_))
       | (rw [<- hw7]; clear hw7)
       | (at_builtin; refine wpList_appX (K := fun y => w6.heap.size <= y) partsT rfl (.tmp 75) (.tmp 80) rfl w3.heap.size _ (xs ++ [(kk, b)]).length _ rfl HG7.out.1.ow (some ⟨w6.heap.size, 0, none⟩) 1 1 [.int .i64 xk, .slice UA um uc] rfl HV7.out (fun u hu => by simp at hu; rcases hu with rfl | rfl <;> rfl) (by first | omega | (simp; omega)) (by decide) HG7.out.1.Bw ?_; intro v8 w8 ho8 hg8 hv8; have HG8 := hi_ (And.intro (HG7.out.1.put (x := (xk, xb)) (r := [.int .i64 xk, .slice UA um uc]) (K := fun y => K y /\ y < w.heap.size) EP.ok rfl ⟨_, rfl, (HU.out).at_ (HB3.out.trans (HG7.out.2.mono HB3.out.size)) (Nat.le_refl _)⟩ (fun y hy e => by have h1 := (own_geB HG7.out.1.ow e).1; have h2 := HB3.out.size; have h3 := hy.2; omega) ho8 hg8 hv8) (HG7.out.2.grown hg8 HG7.out.1.Bw (fun y hy => (own_geB HG7.out.1.ow hy).1))); clear ho8 hg8 hv8))
      go_roundw
      case rel =>
       refine ⟨jj + 1, true, xs ++ [(kk, b)] ++ [(xk, xb)], _, _, hjn, by go_num, rfl, HG8.out.1, fun y hy => ?_, ?_, by first | omega | (simp; omega), HG8.out.2⟩
       ·rcases hy with (hy | hy) | hy; exact HG.out.2.1 y hy; exact hy.1; exact hy.1
       ·have hx := HG.out.2.2.1
        rw [HX.out, pSet_cons] at hx
        rw [<- hx]
        simp [hle, heq]
      case measure => simp [intOf]; omega
    ·have d1 : decide (kk <= xk) = false := decide_eq_false hle
     have d1' : decide (xk ≥ kk) = false := decide_eq_false hle
     have heq : xk ≠ kk := by omega
     have d2 : (xk != kk) = true := bne_iff_ne.2 heq
     have d3 : decide (xk = kk) = false := decide_eq_false heq
     obtain ⟨w7, hw7⟩ : ∃ w', w' = wr.alloc (.cells #[.int .i64 xk, .slice UA um uc] 159) := ⟨_, rfl⟩
     have hb7 : Below wr.heap.size wr w7 := (by rw [hw7]; exact (Below.refl _ _).alloc (Nat.le_refl _) _)
     have HV7 : Hid (VRow (fun y => wr.heap.size <= y) w7 (some ⟨wr.heap.size, 0, none⟩) 1 2 [.int .i64 xk, .slice UA um uc]) := hi_ (by rw [hw7]; exact VRow.new wr #[.int .i64 xk, .slice UA um uc] _ 1 2 rfl)
     have HG7 := hi_ (And.intro (Gr.below EP.ok HG.out.1 hb7) (HG.out.2.2.2.trans (hb7.mono HG.out.2.2.2.size)))
     clear hb7
     go_wp2_with (first
      | ((with_reducible refine wpList_ldPt rfl (.tmp 78) rfl rfl n0 n1 ?_))
      | (rw [<- hw7]; clear hw7)
      | (at_builtin; refine wpList_appX (K := fun y => wr.heap.size <= y) partsT rfl (.tmp 75) (.tmp 80) rfl w3.heap.size _ (xs).length _ rfl HG7.out.1.ow (some ⟨wr.heap.size, 0, none⟩) 1 1 [.int .i64 xk, .slice UA um uc] rfl HV7.out (fun u hu => by simp at hu; rcases hu with rfl | rfl <;> rfl) (by omega) (by decide) HG7.out.1.Bw ?_; intro v8 w8 ho8 hg8 hv8; have HG8 := hi_ (And.intro (HG7.out.1.put (x := (xk, xb)) (r := [.int .i64 xk, .slice UA um uc]) (K := fun y => K y /\ y < w.heap.size) EP.ok rfl ⟨_, rfl, (HU.out).at_ (HB3.out.trans (HG7.out.2.mono HB3.out.size)) (Nat.le_refl _)⟩ (fun y hy e => by have h1 := (own_geB HG7.out.1.ow e).1; have h2 := HB3.out.size; have h3 := hy.2; omega) ho8 hg8 hv8) (HG7.out.2.grown hg8 HG7.out.1.Bw (fun y hy => (own_geB HG7.out.1.ow hy).1))); clear ho8 hg8 hv8; clear n0 n1))
     go_roundw
     case rel =>
      refine ⟨jj + 1, false, xs ++ [(xk, xb)], _, _, hjn, by go_num, rfl, HG8.out.1, fun y hy => ?_, ?_, by first | omega | (simp; omega), HG8.out.2⟩
      ·rcases hy with hy | hy; exact HG.out.2.1 y hy; exact hy.1
      ·have hx := HG.out.2.2.1
       rw [HX.out, pSet_cons] at hx
       rw [<- hx]
       simp [hle, heq]
     case measure => simp [intOf]; omega
   | true =>
    by_cases heq : xk = kk
    ·obtain rfl := heq
     go_wp2
     go_roundw
     case rel =>
      refine ⟨jj + 1, true, xs, _, _, hjn, by go_num, rfl, HG.out.1, fun y hy => ?_, ?_, by first | omega | (simp; omega), HG.out.2.2.2⟩
      ·exact HG.out.2.1 y hy
      ·have hx := HG.out.2.2.1
       rw [HX.out, pSet_cons] at hx
       rw [<- hx]
       simp
     case measure => simp [intOf]; omega
    ·have d2 : (xk != kk) = true := bne_iff_ne.2 heq
     have d3 : decide (xk = kk) = false := decide_eq_false heq
     obtain ⟨w7, hw7⟩ : ∃ w', w' = wr.alloc (.cells #[.int .i64 xk, .slice UA um uc] 159) := ⟨_, rfl⟩
     have hb7 : Below wr.heap.size wr w7 := (by rw [hw7]; exact (Below.refl _ _).alloc (Nat.le_refl _) _)
     have HV7 : Hid (VRow (fun y => wr.heap.size <= y) w7 (some ⟨wr.heap.size, 0, none⟩) 1 2 [.int .i64 xk, .slice UA um uc]) := hi_ (by rw [hw7]; exact VRow.new wr #[.int .i64 xk, .slice UA um uc] _ 1 2 rfl)
     have HG7 := hi_ (And.intro (Gr.below EP.ok HG.out.1 hb7) (HG.out.2.2.2.trans (hb7.mono HG.out.2.2.2.size)))
     clear hb7
     go_wp2_with (first
      | ((with_reducible refine wpList_ldPt rfl (.tmp 78) rfl rfl n0 n1 ?_))
      | (rw [<- hw7]; clear hw7)
      | (at_builtin; refine wpList_appX (K := fun y => wr.heap.size <= y) partsT rfl (.tmp 75) (.tmp 80) rfl w3.heap.size _ (xs).length _ rfl HG7.out.1.ow (some ⟨wr.heap.size, 0, none⟩) 1 1 [.int .i64 xk, .slice UA um uc] rfl HV7.out (fun u hu => by simp at hu; rcases hu with rfl | rfl <;> rfl) (by omega) (by decide) HG7.out.1.Bw ?_; intro v8 w8 ho8 hg8 hv8; have HG8 := hi_ (And.intro (HG7.out.1.put (x := (xk, xb)) (r := [.int .i64 xk, .slice UA um uc]) (K := fun y => K y /\ y < w.heap.size) EP.ok rfl ⟨_, rfl, (HU.out).at_ (HB3.out.trans (HG7.out.2.mono HB3.out.size)) (Nat.le_refl _)⟩ (fun y hy e => by have h1 := (own_geB HG7.out.1.ow e).1; have h2 := HB3.out.size; have h3 := hy.2; omega) ho8 hg8 hv8) (HG7.out.2.grown hg8 HG7.out.1.Bw (fun y hy => (own_geB HG7.out.1.ow hy).1))); clear ho8 hg8 hv8; clear n0 n1))
     go_roundw
     case rel =>
      refine ⟨jj + 1, true, xs ++ [(xk, xb)], _, _, hjn, by go_num, rfl, HG8.out.1, fun y hy => ?_, ?_, by first | omega | (simp; omega), HG8.out.2⟩
      ·rcases hy with hy | hy; exact HG.out.2.1 y hy; exact hy.1
      ·have hx := HG.out.2.2.1
       rw [HX.out, pSet_cons] at hx
       rw [<- hx]
       simp [heq]
     case measure => simp [intOf]; omega
  ·obtain rfl : jj = pn := by omega
   have HXE : Hid (xs ++ pSet kk b db [] = pSet kk b false old) := hi_ (by
    have := HG.out.2.2.1
    rwa [List.drop_of_length_le (Nat.le_of_eq hpl)] at this)
   have HXL : Hid (xs.length <= 1000000) := hi_ (by omega)
   clear hpl hyl hxl hjj hjn
   cases db with
   | true =>
    have HBE := hi_ HG.out.2.2.2
    obtain ⟨xz, hxz⟩ : ∃ l, l = xs := ⟨_, rfl⟩
    have hgz := HG.out.1
    rw [<- hxz] at hgz
    have HFX : Hid (xz = pSet kk b false old) := hi_ (by rw [hxz]; have := HXE.out; rwa [show pSet kk b true ([] : List Pt) = [] from rfl, List.append_nil] at this)
    clear hxz
    obtain ⟨LA, lc, hlv, hlc, hlm, hlr⟩ := hgz.rows EP.ok
    clear hgz
    subst hlv
    have hbW : Below w.heap.size w wr := HB3.out.trans ((HG.out.2.2.2).mono HB3.out.size)
    have HP6 : Hid (PartsV (fun y => (K y /\ y < w.heap.size) \/ w3.heap.size <= y) wr LA xz.length xz) := hi_ (PartsV.mono hlr (fun y hy => by rcases hy with hy | hy; exact .inl (HG.out.2.1 y hy); exact .inr hy.1))
    have R6 := hi_ (And.intro (R3.out.1.under (HG.out.2.2.2)) (And.intro (R3.out.2.1.under (HG.out.2.2.2)) (R3.out.2.2.under (HG.out.2.2.2))))
    have H6 := hi_ (And.intro hbW (And.intro hlc hlm))
    have i0 := R6.out.2.1.at_ 0
    have i1 := R6.out.2.1.at_ 1
    clear hlc hlm hlr hbW
    go_wp2_with (first
     | ((with_reducible refine wpList_ldS stT rfl rfl (.tmp 6) rfl rfl R6.out.1 ?_))
     | (go_at_call 97; refine (RWith_any (K := fun y => (K y /\ y < w.heap.size) \/ w3.heap.size <= y) ((H0.out.1.lt.below H6.out.1).mono (fun _ hy => .inl hy)) H0.out.2.1 H0.out.2.2 i g lc HP6.out H6.out.2.1 H6.out.2.2).mono ?_; rintro e w7 ⟨d7, rfl, hR7, hb7⟩; have H7 := hi_ (And.intro hR7 (And.intro (H6.out.1.trans (hb7.mono H6.out.1.size)) (R6.out.2.2.under hb7))); have hsz6 := hi_ H6.out.1.size; have HS3 := hi_ (And.intro R3.out.2.2.lt (HBE.out.size)); clear hR7 hb7 i0 i1)
     | ((with_reducible refine wpList_stS (cs' := d7.cs) stT rfl rfl (by simp [Value.oneCell']) rfl (.tmp 10) (.tmp 95) rfl rfl rfl H7.out.2.2 ?_); intro w8 hR8 hF8; have H8 := hi_ (And.intro hR8 hF8); clear hR8 hF8))
    obtain ⟨hR8, hF8⟩ := H8.out
    refine bodyPost_ret (res_ct rfl rfl (hR8.load stT rfl)) rfl ?_
    have hb8 : Below w.heap.size w w8 := H7.out.2.1.trans (hF8.toBelow (fun y hy => by rw [show y = w.heap.size + 3 from hy]; omega) H7.out.2.1.size)
    refine ⟨d7, rfl, ?_, hb8⟩
    rw [<- HFX.out]
    have := (H7.out.1.lt.stays (w' := w8) ⟨hF8.size, fun y hy => hF8.block y hy.2 (fun e => by have e' : y = w.heap.size + 3 := e; have := HS3.out.1; have := HS3.out.2; have := HB3.out.size; rcases hy.1 with (h | h) | h <;> omega)⟩)
    exact this.mono (fun y hy => by rcases hy.1 with (h | h) | h; exact .inl h.1; exact .inr (Nat.le_trans HB3.out.size h); exact .inr (by have := hsz6.out; omega))
   | false =>
    obtain ⟨w5, hw5⟩ : ∃ w', w' = wr.alloc (.cells #[.int .i64 kk, .slice DA dn dc] 159) := ⟨_, rfl⟩
    have hb5 : Below wr.heap.size wr w5 := (by rw [hw5]; exact (Below.refl _ _).alloc (Nat.le_refl _) _)
    have HV5 : Hid (VRow (fun y => wr.heap.size <= y) w5 (some ⟨wr.heap.size, 0, none⟩) 1 2 [.int .i64 kk, .slice DA dn dc]) := hi_ (by rw [hw5]; exact VRow.new wr #[.int .i64 kk, .slice DA dn dc] _ 1 2 rfl)
    have HG5 := hi_ (And.intro (Gr.below EP.ok HG.out.1 hb5) (HG.out.2.2.2.trans (hb5.mono HG.out.2.2.2.size)))
    clear hb5
    go_wp2_with (first
     | (rw [<- hw5]; clear hw5)
     | (at_builtin; refine wpList_appX (K := fun y => wr.heap.size <= y) partsT rfl (.tmp 84) (.tmp 88) rfl w3.heap.size _ (xs).length _ rfl HG5.out.1.ow (some ⟨wr.heap.size, 0, none⟩) 1 1 [.int .i64 kk, .slice DA dn dc] rfl HV5.out (fun u hu => by simp at hu; rcases hu with rfl | rfl <;> rfl) (by have := HXL.out; omega) (by decide) HG5.out.1.Bw ?_; intro v6 w6 ho6 hg6 hv6; have HG6 := hi_ (And.intro (HG5.out.1.put (x := (kk, b)) (r := [.int .i64 kk, .slice DA dn dc]) (K := fun y => K y /\ y < w.heap.size) EP.ok rfl ⟨_, rfl, (HV.out).at_ (HB3.out.trans (HG5.out.2.mono HB3.out.size)) (Nat.le_refl _)⟩ (fun y hy e => by have h1 := (own_geB HG5.out.1.ow e).1; have h2 := HB3.out.size; have h3 := hy.2; omega) ho6 hg6 hv6) (HG5.out.2.grown hg6 HG5.out.1.Bw (fun y hy => (own_geB HG5.out.1.ow hy).1))); clear ho6 hg6 hv6; have HBE := hi_ HG6.out.2; obtain ⟨xz, hxz⟩ : ∃ l, l = xs ++ [(kk, b)] := ⟨_, rfl⟩; have hgz := HG6.out.1; rw [<- hxz] at hgz; have HFX : Hid (xz = pSet kk b false old) := hi_ (by rw [hxz]; exact HXE.out); clear hxz; obtain ⟨LA, lc, hlv, hlc, hlm, hlr⟩ := hgz.rows EP.ok; clear hgz; subst hlv; have hbW : Below w.heap.size w w6 := HB3.out.trans ((HG6.out.2).mono HB3.out.size); have HP6 : Hid (PartsV (fun y => (K y /\ y < w.heap.size) \/ w3.heap.size <= y) w6 LA xz.length xz) := hi_ (PartsV.mono hlr (fun y hy => by rcases hy with hy | hy; exact .inl (by rcases hy with hy | hy; exact HG.out.2.1 y hy; exact hy.1); exact .inr hy.1)); have R6 := hi_ (And.intro (R3.out.1.under (HG6.out.2)) (And.intro (R3.out.2.1.under (HG6.out.2)) (R3.out.2.2.under (HG6.out.2)))); have H6 := hi_ (And.intro hbW (And.intro hlc hlm)); have i0 := R6.out.2.1.at_ 0; have i1 := R6.out.2.1.at_ 1; clear hlc hlm hlr hbW)
     | ((with_reducible refine wpList_ldS stT rfl rfl (.tmp 6) rfl rfl R6.out.1 ?_))
     | (go_at_call 97; refine (RWith_any (K := fun y => (K y /\ y < w.heap.size) \/ w3.heap.size <= y) ((H0.out.1.lt.below H6.out.1).mono (fun _ hy => .inl hy)) H0.out.2.1 H0.out.2.2 i g lc HP6.out H6.out.2.1 H6.out.2.2).mono ?_; rintro e w7 ⟨d7, rfl, hR7, hb7⟩; have H7 := hi_ (And.intro hR7 (And.intro (H6.out.1.trans (hb7.mono H6.out.1.size)) (R6.out.2.2.under hb7))); have hsz6 := hi_ H6.out.1.size; have HS3 := hi_ (And.intro R3.out.2.2.lt (HBE.out.size)); clear hR7 hb7 i0 i1)
     | ((with_reducible refine wpList_stS (cs' := d7.cs) stT rfl rfl (by simp [Value.oneCell']) rfl (.tmp 10) (.tmp 95) rfl rfl rfl H7.out.2.2 ?_); intro w8 hR8 hF8; have H8 := hi_ (And.intro hR8 hF8); clear hR8 hF8))
    obtain ⟨hR8, hF8⟩ := H8.out
    refine bodyPost_ret (res_ct rfl rfl (hR8.load stT rfl)) rfl ?_
    have hb8 : Below w.heap.size w w8 := H7.out.2.1.trans (hF8.toBelow (fun y hy => by rw [show y = w.heap.size + 3 from hy]; omega) H7.out.2.1.size)
    refine ⟨d7, rfl, ?_, hb8⟩
    rw [<- HFX.out]
    have := (H7.out.1.lt.stays (w' := w8) ⟨hF8.size, fun y hy => hF8.block y hy.2 (fun e => by have e' : y = w.heap.size + 3 := e; have := HS3.out.1; have := HS3.out.2; have := HB3.out.size; rcases hy.1 with (h | h) | h <;> omega)⟩)
    exact this.mono (fun y hy => by rcases hy.1 with (h | h) | h; exact .inl h.1; exact .inr (Nat.le_trans HB3.out.size h); exact .inr (by have := hsz6.out; omega))
end
end Go.Proofs.YthiknmhkdeicjaaGreatDoor
