/- EcI -/
import Derived.Test.YthiknmhkdeicjaaGreatDoorQs1
import Derived.Test.YthiknmhkdeicjaaGreatDoorQs14
namespace Go.Proofs.YthiknmhkdeicjaaGreatDoor
open Go.RowKit
set_option maxRecDepth 20000
theorem id_start (w : World) (i g : Int) : ∃ w1, w1 = w.alloc (.cells #[.int .i64 i, .int .i64 g] 39) /\ Below w.heap.size w w1 /\ Rec 39 w1 w.heap.size #[.int .i64 i, .int .i64 g] := ⟨_, rfl, (Below.refl _ _).alloc (Nat.le_refl _) _, Rec.new w _ _⟩
theorem parts_one {K : Nat -> Prop} (W : World) (kk : Int) {u : Value} {d : List UInt8} (h : VB K W u d) : PartsV (fun y => K y \/ y = W.heap.size) (W.alloc (.cells #[.int .i64 kk, u] 159)) (some ⟨W.heap.size, 0, none⟩) 1 [(kk, d)] := by
 have hb : Below W.heap.size W (W.alloc (.cells #[.int .i64 kk, u] 159)) := (Below.refl _ _).alloc (Nat.le_refl _) _
 refine ⟨[.int .i64 kk, u], rfl, ⟨rfl, (fun e => by cases e), fun _ => ⟨_, _, rfl, .inr rfl, by rw [World.size_alloc]; omega, fun j v hj => ?_⟩⟩, HdL.one1 rfl ⟨u, rfl, (h.below hb).mono (fun y hy => .inl hy)⟩⟩
 have := (Rec.new W 159 #[.int .i64 kk, u]).at_ j
 rw [show (⟨W.heap.size, 0 + j, none⟩ : Addr) = ⟨W.heap.size, j, none⟩ by rw [Nat.zero_add], this]
 simpa using hj
theorem gMove_at {S : List Nat} {n s : Nat} (hs : S[n]? = some s) (b : Bool) (c : Int) : gMove S b (n : Int) c = ((gNode S (chg b s c)).1, ((gNode S (chg b s c)).2 : Int)) := by
 have hl := (List.getElem?_eq_some_iff.1 hs).1
 have hd : S.getD n 0 = s := by rw [List.getD_eq_getElem?_getD, hs]; rfl
 unfold gMove
 rw [if_pos ⟨Int.natCast_nonneg _, by omega⟩, Int.toNat_natCast, hd]
section
variable {w : World} {N : Nat} {gr : Nat -> Nat} {x : Fx} {k : Ks} {c : Nat} {pt : Nat -> Nat}
theorem CoJ.with_ (h : CoJ 0 w N gr x k c pt) {n s : Nat} (hs : k.S[n]? = some s) (kk : Int) (hS : k.S.length <= 900000) (hc : c <= 400000) :
  Calls Tryz.prog 82 #[.pointer (some ⟨x.pg, 0, none⟩), .int .i64 (n : Int), .int .i64 kk] w fun e w' => e = .returned (.int .i64 ((gNode k.S (chg true s kk)).2 : Nat)) /\ ∃ gr', CoJ 0 w' N gr' x { k with S := (gNode k.S (chg true s kk)).1 } (c + 1) pt /\ TGo w gr w' gr' := by
 obtain ⟨sv, ed, b, hb, hG⟩ := h.gph (by decide)
 refine (GWith_any (fun y hy => h.dom y (by rw [show gr y = 5 from hy]; decide)) hG (n : Int) kk hS (by omega)).mono ?_
 rw [gMove_at hs]
 rintro e w' ⟨rfl, hGG⟩
 exact ⟨rfl, h.gph_go hGG (fun i t => gNode_keeps _) (Nat.le_succ c) (by omega)⟩
theorem CoJ.without_ (h : CoJ 0 w N gr x k c pt) {n s : Nat} (hs : k.S[n]? = some s) (kk : Int) (hS : k.S.length <= 900000) (hc : c <= 400000) :
  Calls Tryz.prog 92 #[.pointer (some ⟨x.pg, 0, none⟩), .int .i64 (n : Int), .int .i64 kk] w fun e w' => e = .returned (.int .i64 ((gNode k.S (chg false s kk)).2 : Nat)) /\ ∃ gr', CoJ 0 w' N gr' x { k with S := (gNode k.S (chg false s kk)).1 } (c + 1) pt /\ TGo w gr w' gr' := by
 obtain ⟨sv, ed, b, hb, hG⟩ := h.gph (by decide)
 refine (GWithout_any (fun y hy => h.dom y (by rw [show gr y = 5 from hy]; decide)) hG (n : Int) kk hS (by omega)).mono ?_
 rw [gMove_at hs]
 rintro e w' ⟨rfl, hGG⟩
 exact ⟨rfl, h.gph_go hGG (fun i t => gNode_keeps _) (Nat.le_succ c) (by omega)⟩
theorem eset_err (R : Value) (i g kk z : Int) (hz : z ≠ 0) (D : Value) (w : World) (CA : Hid (∀ W, Below w.heap.size w W -> Calls Tryz.prog 76 #[R, .agg #[.int .i64 i, .int .i64 g], .int .i64 kk] W fun e w' => e = .returned (.tuple #[.agg enZ, .int .i64 z]) /\ Below W.heap.size W w')) :
  Calls Tryz.prog 30 #[R, .agg #[.int .i64 i, .int .i64 g], .int .i64 kk, D] w fun e w' => e = .returned (.int .i64 z) /\ Below w.heap.size w w' := by
 obtain ⟨w1, hw1, hb1, r1⟩ := id_start w i g
 have C1 := hi_ (CA.out w1 hb1)
 have k0 := r1.at_ 0
 have k1 := r1.at_ 1
 have d1 : decide (z = 0) = false := decide_eq_false hz
 have d2 : (z != 0) = true := bne_iff_ne.2 hz
 have HB := hi_ hb1
 clear hb1 r1 CA
 go_enter Tryz.func30, Tryz.ntmps30
 go_wp2_with (first
  | (rw [<- hw1]; clear hw1)
  | (go_at_call 76; refine C1.out.mono ?_; rintro e w2 ⟨rfl, hb2⟩; obtain ⟨w3, hw3⟩ : ∃ w3, w3 = w2.alloc (.cells enZ 108) := ⟨_, rfl⟩; have hb3 : Below w1.heap.size w1 w3 := hb2.trans (show Below w1.heap.size w2 w3 by rw [hw3]; exact (Below.refl _ _).alloc hb2.size _); have R3 := hi_ (show Rec 108 w3 w2.heap.size enZ by rw [hw3]; exact Rec.new w2 _ _); have HS := hi_ (And.intro hb2.size hb3); clear hb2 hb3 k0 k1)
  | (rw [<- hw3]; clear hw3)
  | ((with_reducible refine wpList_stNz enZ_size rfl (.tmp 9) (.tmp 18) rfl rfl rfl R3.out ?_); intro w4 hR4 hF4; have HB3 := hi_ (HS.out.2.trans (hF4.toBelow (fun y hy => by rw [show y = w2.heap.size from hy]; exact HS.out.1) HS.out.2.size)); clear hR4 hF4))
 go_ret
 exact ⟨rfl, HB.out.trans (HB3.out.mono HB.out.size)⟩
theorem eremove_err (R : Value) (i g kk z : Int) (hz : z ≠ 0) (w : World) (CA : Hid (∀ W, Below w.heap.size w W -> Calls Tryz.prog 76 #[R, .agg #[.int .i64 i, .int .i64 g], .int .i64 kk] W fun e w' => e = .returned (.tuple #[.agg enZ, .int .i64 z]) /\ Below W.heap.size W w')) :
  Calls Tryz.prog 38 #[R, .agg #[.int .i64 i, .int .i64 g], .int .i64 kk] w fun e w' => e = .returned (.int .i64 z) /\ Below w.heap.size w w' := by
 obtain ⟨w1, hw1, hb1, r1⟩ := id_start w i g
 have C1 := hi_ (CA.out w1 hb1)
 have k0 := r1.at_ 0
 have k1 := r1.at_ 1
 have d1 : decide (z = 0) = false := decide_eq_false hz
 have d2 : (z != 0) = true := bne_iff_ne.2 hz
 have HB := hi_ hb1
 clear hb1 r1 CA
 go_enter Tryz.func38, Tryz.ntmps38
 go_wp2_with (first
  | (rw [<- hw1]; clear hw1)
  | (go_at_call 76; refine C1.out.mono ?_; rintro e w2 ⟨rfl, hb2⟩; obtain ⟨w3, hw3⟩ : ∃ w3, w3 = w2.alloc (.cells enZ 108) := ⟨_, rfl⟩; have hb3 : Below w1.heap.size w1 w3 := hb2.trans (show Below w1.heap.size w2 w3 by rw [hw3]; exact (Below.refl _ _).alloc hb2.size _); have R3 := hi_ (show Rec 108 w3 w2.heap.size enZ by rw [hw3]; exact Rec.new w2 _ _); have HS := hi_ (And.intro hb2.size hb3); clear hb2 hb3 k0 k1)
  | (rw [<- hw3]; clear hw3)
  | ((with_reducible refine wpList_stNz enZ_size rfl (.tmp 7) (.tmp 14) rfl rfl rfl R3.out ?_); intro w4 hR4 hF4; have HB3 := hi_ (HS.out.2.trans (hF4.toBelow (fun y hy => by rw [show y = w2.heap.size from hy]; exact HS.out.1) HS.out.2.size)); clear hR4 hF4))
 go_ret
 exact ⟨rfl, HB.out.trans (HB3.out.mono HB.out.size)⟩
theorem eset_size (h : CoJ 0 w N gr x k c pt) {i g : Int} (hw : okE (i, g)) {n r : Nat} {t : Tb} (hp : k.pl (i, g) = some (n, r)) (ht : k.tb n = some t) (hn : okN n) {kk : Int} (hks : x.n <= 1000000) {z : Int} (hsz : sizeK x.ks kk = (z, true)) (DA : Option Addr) (dn dc : Nat) (hd : (dn : Int) ≠ z) :
  Calls Tryz.prog 30 #[.pointer (some ⟨x.p, 0, none⟩), .agg #[.int .i64 i, .int .i64 g], .int .i64 kk, .slice DA dn dc] w fun e w' => e = .returned (.int .i64 7) /\ Below w.heap.size w w' := by
 obtain ⟨w1, hw1, hb1, r1⟩ := id_start w i g
 have h1 := h.below hb1
 have CA := eask_yes h1 hw hp ht hn kk hks true (by rw [hsz])
 simp only [if_true] at CA
 have k0 := r1.at_ 0
 have k1 := r1.at_ 1
 obtain ⟨q, hq⟩ : ∃ q : Nat, q = pt n := ⟨_, rfl⟩
 rw [<- hq] at CA
 have CA := hi_ CA
 have H0 := hi_ h
 have HQ := hi_ hq
 have HB1 := hi_ hb1
 have H1 := hi_ h1
 have HN := hi_ (And.intro hw (And.intro hp (And.intro ht (And.intro hn (And.intro hks hsz)))))
 clear h h1 hb1 r1 hw hp ht hn hks hsz hq
 go_enter Tryz.func30, Tryz.ntmps30
 go_upto_region 4 with (first
  | (rw [<- hw1]; clear hw1)
  | (go_at_call 76; refine CA.out.mono ?_; rintro e w2 ⟨rfl, hb2⟩; obtain ⟨w3, hw3⟩ : ∃ w3, w3 = w2.alloc (.cells enZ 108) := ⟨_, rfl⟩; have hb3 : Below w1.heap.size w1 w3 := hb2.trans (show Below w1.heap.size w2 w3 by rw [hw3]; exact (Below.refl _ _).alloc hb2.size _); have R3 := hi_ (show Rec 108 w3 w2.heap.size enZ by rw [hw3]; exact Rec.new w2 _ _); have HS := hi_ (And.intro hb2.size hb3); clear hb2 hb3 k0 k1 CA)
  | (rw [<- hw3]; clear hw3)
  | ((with_reducible refine wpList_stN n r i g (some ⟨q, 0, none⟩) enZ_size rfl (.tmp 9) (.tmp 18) rfl rfl rfl R3.out ?_); intro w4 hR4 hF4; have HR4 := hi_ (And.intro hR4 hF4); clear hR4 hF4))
 obtain ⟨ge, hge⟩ : ∃ ge : Nat, ge = w2.heap.size := ⟨_, rfl⟩
 rw [<- hge] at HR4
 have HGE := hi_ hge
 rw [<- hge]
 obtain ⟨R4, hF4⟩ := HR4.out
 have hb4 : Below w1.heap.size w1 w4 := HS.out.2.trans (hF4.toBelow (fun y hy => by have := HS.out.1; have e' : y = ge := hy; omega) HS.out.2.size)
 have h4 := H1.out.below hb4
 have H4 := hi_ (And.intro h4 (And.intro R4 (HB1.out.trans (hb4.mono HB1.out.size))))
 have HG := hi_ (show gr ge = 0 from Classical.byContradiction fun hh => by have := H1.out.dom _ hh; have := HS.out.1; omega)
 clear hge hF4 hb4 h4 R4 HR4 HS R3
 have h4 := H4.out.1
 have k0 : w4.cell? ⟨x.p, 0, none⟩ = some (.int .i64 x.lg) := h4.cell 0
 have k1 : w4.cell? ⟨x.p, 1, none⟩ = some (.int .i64 x.ps) := h4.cell 1
 have k2 : w4.cell? ⟨x.p, 2, none⟩ = some (.int .i64 x.en) := h4.cell 2
 have k3 : w4.cell? ⟨x.p, 3, none⟩ = some (.int .i64 x.gn) := h4.cell 3
 have k4 : w4.cell? ⟨x.p, 4, none⟩ = some (.slice x.A x.n x.cap) := h4.cell 4
 have CS := Size_any x.lg x.ps x.en x.gn x.A x.n x.cap x.ks w4 h4.kd HN.out.2.2.2.2.1 kk
 rw [HN.out.2.2.2.2.2] at CS
 have CS := hi_ CS
 clear h4
 have d1 : decide ((dn : Int) = z) = false := decide_eq_false hd
 have d2 : ((dn : Int) != z) = true := bne_iff_ne.2 hd
 go_wp2_with (go_at_call 77; refine CS.out.mono ?_; rintro e w5 ⟨rfl, hb5⟩; have HB5 := hi_ (H4.out.2.2.trans (hb5.mono H4.out.2.2.size)); clear hb5 k0 k1 k2 k3 k4)
 go_ret
 exact ⟨rfl, HB5.out⟩
theorem eset_has (h : CoJ 0 w N gr x k c pt) {i g : Int} (hw : okE (i, g)) {n r : Nat} {t : Tb} (hp : k.pl (i, g) = some (n, r)) (ht : k.tb n = some t) (hn : okN n) {kk : Int} (hks : x.n <= 1000000) (hT : TabN N w) (DA : Option Addr) (dn dc : Nat) (hsz : sizeK x.ks kk = ((dn : Int), true)) {d : List UInt8} (hd : VB (fun y => gr y = 0) w (.slice DA dn dc) d) (hk : In64 kk) {s0 : Nat} (hs0 : k.S[n]? = some s0) (hh : decide (0 <= kk /\ kk < 64 /\ s0.testBit kk.toNat = true) = true) :
  Calls Tryz.prog 30 #[.pointer (some ⟨x.p, 0, none⟩), .agg #[.int .i64 i, .int .i64 g], .int .i64 kk, .slice DA dn dc] w fun e w' => e = .returned (.int .i64 (t.go ⟨1, (0, 0), [], (r : Int), kk, d⟩).2.err) /\ ∃ gr', CoJ 0 w' N gr' x { k with tb := upd k.tb n (some (t.go ⟨1, (0, 0), [], (r : Int), kk, d⟩).1) } c pt /\ TGo w gr w' gr' := by
 have HHB : Hid (∀ s, k.S[n]? = some s -> decide (0 <= kk /\ kk < 64 /\ s.testBit kk.toNat = true) = true) := hi_ (fun s hs => by rw [hs0] at hs; injection hs with hs; subst hs; exact hh)
 have HD := hi_ (And.intro hT (And.intro hd hk))
 obtain ⟨res, hres⟩ : ∃ res, res = t.go ⟨1, (0, 0), [], (r : Int), kk, d⟩ := ⟨_, rfl⟩
 rw [<- hres]
 obtain ⟨ze, hze⟩ : ∃ ze, ze = res.2.err := ⟨_, rfl⟩
 rw [<- hze]
 obtain ⟨t1, ht1⟩ : ∃ t1, t1 = res.1 := ⟨_, rfl⟩
 rw [<- ht1]
 have HRES := hi_ (And.intro hres (And.intro hze ht1))
 clear hres hze ht1
 obtain ⟨w1, hw1, hb1, r1⟩ := id_start w i g
 have h1 := h.below hb1
 have CA := eask_yes h1 hw hp ht hn kk hks true (by rw [hsz])
 simp only [if_true] at CA
 have k0 := r1.at_ 0
 have k1 := r1.at_ 1
 obtain ⟨q, hq⟩ : ∃ q : Nat, q = pt n := ⟨_, rfl⟩
 rw [<- hq] at CA
 have CA := hi_ CA
 have H0 := hi_ h
 have HQ := hi_ hq
 have HB1 := hi_ hb1
 have H1 := hi_ h1
 have HN := hi_ (And.intro hw (And.intro hp (And.intro ht (And.intro hn (And.intro hks hsz)))))
 clear h h1 hb1 r1 hw hp ht hn hks hsz hq hh hs0 hT hd hk
 go_enter Tryz.func30, Tryz.ntmps30
 go_upto_region 4 with (first
  | (rw [<- hw1]; clear hw1)
  | (go_at_call 76; refine CA.out.mono ?_; rintro e w2 ⟨rfl, hb2⟩; obtain ⟨w3, hw3⟩ : ∃ w3, w3 = w2.alloc (.cells enZ 108) := ⟨_, rfl⟩; have hb3 : Below w1.heap.size w1 w3 := hb2.trans (show Below w1.heap.size w2 w3 by rw [hw3]; exact (Below.refl _ _).alloc hb2.size _); have R3 := hi_ (show Rec 108 w3 w2.heap.size enZ by rw [hw3]; exact Rec.new w2 _ _); have HS := hi_ (And.intro hb2.size hb3); clear hb2 hb3 k0 k1 CA)
  | (rw [<- hw3]; clear hw3)
  | ((with_reducible refine wpList_stN n r i g (some ⟨q, 0, none⟩) enZ_size rfl (.tmp 9) (.tmp 18) rfl rfl rfl R3.out ?_); intro w4 hR4 hF4; have HR4 := hi_ (And.intro hR4 hF4); clear hR4 hF4))
 obtain ⟨ge, hge⟩ : ∃ ge : Nat, ge = w2.heap.size := ⟨_, rfl⟩
 rw [<- hge] at HR4
 have HGE := hi_ hge
 rw [<- hge]
 obtain ⟨R4, hF4⟩ := HR4.out
 have hb4 : Below w1.heap.size w1 w4 := HS.out.2.trans (hF4.toBelow (fun y hy => by have := HS.out.1; have e' : y = ge := hy; omega) HS.out.2.size)
 have h4 := H1.out.below hb4
 have H4 := hi_ (And.intro h4 (And.intro R4 (HB1.out.trans (hb4.mono HB1.out.size))))
 have HG := hi_ (show gr ge = 0 from Classical.byContradiction fun hh => by have := H1.out.dom _ hh; have := HS.out.1; omega)
 clear hge hF4 hb4 h4 R4 HR4 HS R3
 have h4 := H4.out.1
 have k0 : w4.cell? ⟨x.p, 0, none⟩ = some (.int .i64 x.lg) := h4.cell 0
 have k1 : w4.cell? ⟨x.p, 1, none⟩ = some (.int .i64 x.ps) := h4.cell 1
 have k2 : w4.cell? ⟨x.p, 2, none⟩ = some (.int .i64 x.en) := h4.cell 2
 have k3 : w4.cell? ⟨x.p, 3, none⟩ = some (.int .i64 x.gn) := h4.cell 3
 have k4 : w4.cell? ⟨x.p, 4, none⟩ = some (.slice x.A x.n x.cap) := h4.cell 4
 have CS := Size_any x.lg x.ps x.en x.gn x.A x.n x.cap x.ks w4 h4.kd HN.out.2.2.2.2.1 kk
 rw [HN.out.2.2.2.2.2] at CS
 have CS := hi_ CS
 clear h4
 go_upto_region 7 with (go_at_call 77; refine CS.out.mono ?_; rintro e w5 ⟨rfl, hb5⟩; have HB5 := hi_ hb5; clear hb5 k0 k1 k2 k3 k4 CS)
 have h5 := H4.out.1.below HB5.out
 have R5 := H4.out.2.1.under HB5.out
 obtain ⟨s, tag, m, v, qq, hs, hA, hg⟩ := h5.tab n t (by omega) HN.out.2.2.1
 have CG := tsig_any hA.i
 rw [<- HQ.out] at CG
 have CG := hi_ CG
 have CH := Has_any s kk w5 hA.sgl
 rw [HHB.out s hs] at CH
 have CH := hi_ CH
 have k4 := R5.at_ 4
 have H5 := hi_ (And.intro h5 R5)
 have HS5 := hi_ hs
 clear h5 R5 hs hA hg
 go_upto_region 8 with (first
  | (go_at_call 79; refine CG.out.mono ?_; rintro e w' ⟨rfl, rfl⟩)
  | (go_at_call 78; refine CH.out.mono ?_; rintro e w6 ⟨rfl, hb6⟩; have HB6 := hi_ hb6; clear hb6 k4))
 have hb56 := HB5.out.trans (HB6.out.mono HB5.out.size)
 have h6 := H5.out.1.below HB6.out
 have R6 := H5.out.2.under HB6.out
 obtain ⟨s', tag, m, v, qq, hs, hA, hg⟩ := h6.tab n t (by omega) HN.out.2.2.1
 have hb06 := H4.out.2.2.trans (hb56.mono H4.out.2.2.size)
 obtain ⟨_, _, _, e, hrd, _⟩ := HD.out.2.1.below hb06
 injection e with e1 e2 e3
 subst e1 e2 e3
 have CT := TSet_go hA (0, 0) [] (r : Int) kk HD.out.2.2 DA dn dc d hrd
 rw [<- HQ.out] at CT
 rw [<- HRES.out.1, <- HRES.out.2.1, <- HRES.out.2.2] at CT
 have CT := hi_ CT
 have HE : Hid (∀ w', TStep w6 N tag q m qq s' t1 w' -> ∃ gr', CoJ 0 w' N gr' x { k with tb := upd k.tb n (some t1) } c pt /\ TGo w gr w' gr') := hi_ (fun w' hS => by
  rw [HQ.out] at hS
  obtain ⟨gr', h', hG⟩ := h6.tab_go HN.out.2.2.1 hs hg hS
  exact ⟨gr', h', (TGo.ofBelow hb06).trans hG⟩)
 have k1 := R6.at_ 1
 have k4 := R6.at_ 4
 clear hb56 h6 R6 hs hA hg hb06 hrd
 go_wp2_with (go_at_call 80; refine CT.out.mono ?_; rintro e w7 ⟨rfl, hS7⟩; have HS7 := hi_ hS7; clear hS7 k1 k4)
 go_ret
 exact ⟨rfl, HE.out _ HS7.out⟩
theorem eset_lacks (h : CoJ 0 w N gr x k c pt) {i g : Int} (hw : okE (i, g)) {n r : Nat} {t : Tb} (hp : k.pl (i, g) = some (n, r)) (ht : k.tb n = some t) (hn : okN n) {kk : Int} (hks : x.n <= 1000000) (hT : TabN N w) (hc : c <= 80000) (hr : r < t.rows.length) (hmo : okE t.lastR.1) (hSl : k.S.length <= 4090) (DA : Option Addr) (dn dc : Nat) (hsz : sizeK x.ks kk = ((dn : Int), true)) {d : List UInt8} (hd : VB (fun y => gr y = 0) w (.slice DA dn dc) d) {s0 : Nat} (hs0 : k.S[n]? = some s0) (hh : decide (0 <= kk /\ kk < 64 /\ s0.testBit kk.toNat = true) = false) (hsl : chg true s0 kk < 18446744073709551616) (hsub : chg true s0 kk &&& ofL (idxs x.n) 64 = chg true s0 kk) :
  Calls Tryz.prog 30 #[.pointer (some ⟨x.p, 0, none⟩), .agg #[.int .i64 i, .int .i64 g], .int .i64 kk, .slice DA dn dc] w fun e w' => e = .returned (.int .i64 0) /\ ∃ gr' pt', CoJ 0 w' N gr' x (({ k with S := (gNode k.S (chg true s0 kk)).1 } : Ks).move x (i, g) n r t (gNode k.S (chg true s0 kk)).2 (chg true s0 kk) ((t.rows.getD r noEn).2 ++ [(kk, d)])) (c + 4) pt' /\ TGo w gr w' gr' := by
 have HHB : Hid (∀ s, k.S[n]? = some s -> decide (0 <= kk /\ kk < 64 /\ s.testBit kk.toNat = true) = false) := hi_ (fun s hs => by rw [hs0] at hs; injection hs with hs; subst hs; exact hh)
 have HD := hi_ (And.intro hT (And.intro hc (And.intro hr (And.intro hmo (And.intro hSl (And.intro hs0 (And.intro hsl hsub)))))))
 obtain ⟨K3, hK3⟩ : ∃ K3, K3 = (({ k with S := (gNode k.S (chg true s0 kk)).1 } : Ks).move x (i, g) n r t (gNode k.S (chg true s0 kk)).2 (chg true s0 kk) ((t.rows.getD r noEn).2 ++ [(kk, d)])) := ⟨_, rfl⟩
 rw [<- hK3]
 have HK3 := hi_ hK3
 clear hK3
 have HDD := hi_ hd
 obtain ⟨w1, hw1, hb1, r1⟩ := id_start w i g
 have h1 := h.below hb1
 have CA := eask_yes h1 hw hp ht hn kk hks true (by rw [hsz])
 simp only [if_true] at CA
 have k0 := r1.at_ 0
 have k1 := r1.at_ 1
 obtain ⟨q, hq⟩ : ∃ q : Nat, q = pt n := ⟨_, rfl⟩
 rw [<- hq] at CA
 have CA := hi_ CA
 have H0 := hi_ h
 have HQ := hi_ hq
 have HB1 := hi_ hb1
 have H1 := hi_ h1
 have HN := hi_ (And.intro hw (And.intro hp (And.intro ht (And.intro hn (And.intro hks hsz)))))
 clear h h1 hb1 r1 hw hp ht hn hks hsz hq hh hs0 hT hc hr hmo hSl hsl hsub hd
 go_enter Tryz.func30, Tryz.ntmps30
 go_upto_region 4 with (first
  | (rw [<- hw1]; clear hw1)
  | (go_at_call 76; refine CA.out.mono ?_; rintro e w2 ⟨rfl, hb2⟩; obtain ⟨w3, hw3⟩ : ∃ w3, w3 = w2.alloc (.cells enZ 108) := ⟨_, rfl⟩; have hb3 : Below w1.heap.size w1 w3 := hb2.trans (show Below w1.heap.size w2 w3 by rw [hw3]; exact (Below.refl _ _).alloc hb2.size _); have R3 := hi_ (show Rec 108 w3 w2.heap.size enZ by rw [hw3]; exact Rec.new w2 _ _); have HS := hi_ (And.intro hb2.size hb3); clear hb2 hb3 k0 k1 CA)
  | (rw [<- hw3]; clear hw3)
  | ((with_reducible refine wpList_stN n r i g (some ⟨q, 0, none⟩) enZ_size rfl (.tmp 9) (.tmp 18) rfl rfl rfl R3.out ?_); intro w4 hR4 hF4; have HR4 := hi_ (And.intro hR4 hF4); clear hR4 hF4))
 obtain ⟨ge, hge⟩ : ∃ ge : Nat, ge = w2.heap.size := ⟨_, rfl⟩
 rw [<- hge] at HR4
 have HGE := hi_ hge
 rw [<- hge]
 obtain ⟨R4, hF4⟩ := HR4.out
 have hb4 : Below w1.heap.size w1 w4 := HS.out.2.trans (hF4.toBelow (fun y hy => by have := HS.out.1; have e' : y = ge := hy; omega) HS.out.2.size)
 have h4 := H1.out.below hb4
 have H4 := hi_ (And.intro h4 (And.intro R4 (HB1.out.trans (hb4.mono HB1.out.size))))
 have HG := hi_ (show gr ge = 0 from Classical.byContradiction fun hh => by have := H1.out.dom _ hh; have := HS.out.1; omega)
 clear hge hF4 hb4 h4 R4 HR4 HS R3
 have h4 := H4.out.1
 have k0 : w4.cell? ⟨x.p, 0, none⟩ = some (.int .i64 x.lg) := h4.cell 0
 have k1 : w4.cell? ⟨x.p, 1, none⟩ = some (.int .i64 x.ps) := h4.cell 1
 have k2 : w4.cell? ⟨x.p, 2, none⟩ = some (.int .i64 x.en) := h4.cell 2
 have k3 : w4.cell? ⟨x.p, 3, none⟩ = some (.int .i64 x.gn) := h4.cell 3
 have k4 : w4.cell? ⟨x.p, 4, none⟩ = some (.slice x.A x.n x.cap) := h4.cell 4
 have CS := Size_any x.lg x.ps x.en x.gn x.A x.n x.cap x.ks w4 h4.kd HN.out.2.2.2.2.1 kk
 rw [HN.out.2.2.2.2.2] at CS
 have CS := hi_ CS
 clear h4
 go_upto_region 7 with (go_at_call 77; refine CS.out.mono ?_; rintro e w5 ⟨rfl, hb5⟩; have HB5 := hi_ hb5; clear hb5 k0 k1 k2 k3 k4 CS)
 have h5 := H4.out.1.below HB5.out
 have R5 := H4.out.2.1.under HB5.out
 obtain ⟨s, tag, m, v, qq, hs, hA, hg⟩ := h5.tab n t (by omega) HN.out.2.2.1
 have CG := tsig_any hA.i
 rw [<- HQ.out] at CG
 have CG := hi_ CG
 have CH := Has_any s kk w5 hA.sgl
 rw [HHB.out s hs] at CH
 have CH := hi_ CH
 have k4 := R5.at_ 4
 have H5 := hi_ (And.intro h5 R5)
 have HS5 := hi_ hs
 clear h5 R5 hs hA hg
 go_upto_region 9 with (first
  | (go_at_call 79; refine CG.out.mono ?_; rintro e w' ⟨rfl, rfl⟩)
  | (go_at_call 78; refine CH.out.mono ?_; rintro e w6 ⟨rfl, hb6⟩; have HB6 := hi_ hb6; clear hb6 k4))
 obtain ⟨hT, hc, hr, hmo, hSl, hs0, hsl, hsub⟩ := HD.out
 obtain ⟨hw, hp, ht, hn, hks, hsz⟩ := HN.out
 have hb56 := HB5.out.trans (HB6.out.mono HB5.out.size)
 have h6 := (H5.out.1.below HB6.out).below (Below.refl _ _).drew
 have R6 := H5.out.2.under HB6.out
 have hb06 := H4.out.2.2.trans (hb56.mono H4.out.2.2.size)
 have hB6d : Below w.heap.size w w6.drew := hb06.drew
 have hge6 : ge < w6.heap.size := R6.lt
 have CW : Hid (∀ W, CoJ 0 W N gr x k c pt -> Rec 108 W ge (enC n r i g (some ⟨q, 0, none⟩)) -> Calls Tryz.prog 82 #[.pointer (some ⟨x.pg, 0, none⟩), .int .i64 (n : Int), .int .i64 kk] W fun e w' => e = .returned (.int .i64 ((gNode k.S (chg true s0 kk)).2 : Nat)) /\ ∃ gr', CoJ 0 w' N gr' x { k with S := (gNode k.S (chg true s0 kk)).1 } (c + 1) pt /\ TGo W gr w' gr' /\ Rec 108 w' ge (enC n r i g (some ⟨q, 0, none⟩)) /\ gr' ge = 0) := hi_ (fun W hW hR => by
  refine (hW.with_ hs0 kk (by omega) (by omega)).mono ?_
  rintro e w' ⟨rfl, gr', h', hG'⟩
  exact ⟨rfl, gr', h', hG', hR.tgo hG' HG.out, hG'.gr0 HG.out hR.lt⟩)
 have CM : Hid (∀ W gr2 MA mn (more : List Pt) mc, more = [(kk, d)] -> CoJ 0 W N gr2 x { k with S := (gNode k.S (chg true s0 kk)).1 } (c + 1) pt -> TGo w gr W gr2 -> Rec 108 W ge (enC n r i g (some ⟨q, 0, none⟩)) -> gr2 ge = 0 -> PartsV (fun y => gr2 y = 0) W MA mn more -> mn <= 1000 ->
   Calls Tryz.prog 81 #[.pointer (some ⟨x.p, 0, none⟩), .agg (enC n r i g (some ⟨q, 0, none⟩)), .int .i64 ((gNode k.S (chg true s0 kk)).2 : Nat), .slice MA mn mc] W fun e w' => e = .returned (.tuple #[]) /\ (∃ gr' pt', CoJ 0 w' N gr' x K3 (c + 4) pt' /\ TGo w gr w' gr') /\ (w'.cell? ⟨x.p, 6, none⟩ = some (.pointer (some ⟨x.pg, 0, none⟩)) /\ (w'.cell? ⟨ge, 0, none⟩ = some (.int .i64 (n : Int)) /\ w'.cell? ⟨ge, 1, none⟩ = some (.int .i64 (r : Int)) /\ w'.cell? ⟨ge, 2, none⟩ = some (.int .i64 i) /\ w'.cell? ⟨ge, 3, none⟩ = some (.int .i64 g) /\ w'.cell? ⟨ge, 4, none⟩ = some (.pointer (some ⟨q, 0, none⟩))))) := hi_ (fun W gr2 MA mn more mc he2 h2 hG2 hR2 hz2 hm hmn => by
  subst he2
  have hat := gNode_at k.S (chg true s0 kk)
  have hln : (gNode k.S (chg true s0 kk)).2 < (gNode k.S (chg true s0 kk)).1.length := (List.getElem?_eq_some_iff.1 hat).1
  have hll := (gNode_len k.S (chg true s0 kk)).1
  have C := emove_any h2 (hT.go H0.out hG2) (by omega) hw hn ht hr hmo (n2 := (gNode k.S (chg true s0 kk)).2) (s2 := chg true s0 kk) (by unfold okN; omega) hat hsl hsub hks (by show (gNode k.S (chg true s0 kk)).1.length <= 4096; omega) hm (fun y hy => hy) hmn mc
  rw [<- HQ.out, <- HK3.out] at C
  refine C.mono ?_
  rintro e w' ⟨rfl, gr', pt', h', hG'⟩
  have R' := hR2.tgo hG' hz2
  exact ⟨rfl, ⟨gr', pt', h', hG2.trans hG'⟩, h'.c6, R'.at_ 0, R'.at_ 1, R'.at_ 2, R'.at_ 3, R'.at_ 4⟩)
 have s6 : w6.drew.cell? ⟨x.p, 6, none⟩ = some (.pointer (some ⟨x.pg, 0, none⟩)) /\ (w6.drew.cell? ⟨ge, 0, none⟩ = some (.int .i64 (n : Int)) /\ w6.drew.cell? ⟨ge, 1, none⟩ = some (.int .i64 (r : Int)) /\ w6.drew.cell? ⟨ge, 2, none⟩ = some (.int .i64 i) /\ w6.drew.cell? ⟨ge, 3, none⟩ = some (.int .i64 g) /\ w6.drew.cell? ⟨ge, 4, none⟩ = some (.pointer (some ⟨q, 0, none⟩))) := ⟨h6.c6, R6.at_ 0, R6.at_ 1, R6.at_ 2, R6.at_ 3, R6.at_ 4⟩
 have H6 := hi_ (And.intro h6 (And.intro R6 (And.intro hB6d hge6)))
 have D6 := HDD.out.below hB6d
 obtain ⟨wb, hwb⟩ : ∃ wb, wb = (w6.alloc (.cells #[.int .i64 kk, .slice DA dn dc] 159)).drew := ⟨_, rfl⟩
 have hbb : Below w6.heap.size w6 wb := by rw [hwb]; exact ((Below.refl _ _).alloc (Nat.le_refl _) _).drew
 have hbd : Below w6.drew.heap.size w6.drew wb := by rw [hwb]; exact (Below.refl _ _).alloc (Nat.le_refl _) _
 have hPb : PartsV (fun y => gr y = 0) wb (some ⟨w6.heap.size, 0, none⟩) 1 [(kk, d)] := by
  have := parts_one w6.drew kk D6
  refine PartsV.mono (by rw [hwb]; exact this) (fun y hy => ?_)
  rcases hy with hy | hy
  ·exact hy
  ·exact Classical.byContradiction fun hh => by have := h6.dom y hh; have e' : y = w6.heap.size := hy; have e2 : y < w6.heap.size := this; omega
 have hhb := h6.below hbd
 have hRb := R6.under hbb
 have sb : wb.cell? ⟨x.p, 6, none⟩ = some (.pointer (some ⟨x.pg, 0, none⟩)) /\ (wb.cell? ⟨ge, 0, none⟩ = some (.int .i64 (n : Int)) /\ wb.cell? ⟨ge, 1, none⟩ = some (.int .i64 (r : Int)) /\ wb.cell? ⟨ge, 2, none⟩ = some (.int .i64 i) /\ wb.cell? ⟨ge, 3, none⟩ = some (.int .i64 g) /\ wb.cell? ⟨ge, 4, none⟩ = some (.pointer (some ⟨q, 0, none⟩))) := ⟨hhb.c6, hRb.at_ 0, hRb.at_ 1, hRb.at_ 2, hRb.at_ 3, hRb.at_ 4⟩
 have HWB := hi_ hwb
 have HBB := hi_ (And.intro hhb (And.intro hRb (And.intro hPb (hB6d.trans (hbd.mono hB6d.size)))))
 have HD6 := hi_ D6
 clear D6 hwb hbb hbd hPb hhb hRb
 obtain ⟨n2, hn2⟩ : ∃ n2 : Nat, n2 = (gNode k.S (chg true s0 kk)).2 := ⟨_, rfl⟩
 rw [<- hn2] at CW CM
 clear hT hc hr hmo hSl hs0 hsl hsub hw hp ht hn hks hsz hb56 h6 R6 hb06 hB6d hge6 hn2
 refine wp_region_noPanic ?_
 refine wp_region_held_drew (S := fun W => W.cell? ⟨x.p, 6, none⟩ = some (.pointer (some ⟨x.pg, 0, none⟩)) /\ (W.cell? ⟨ge, 0, none⟩ = some (.int .i64 (n : Int)) /\ W.cell? ⟨ge, 1, none⟩ = some (.int .i64 (r : Int)) /\ W.cell? ⟨ge, 2, none⟩ = some (.int .i64 i) /\ W.cell? ⟨ge, 3, none⟩ = some (.int .i64 g) /\ W.cell? ⟨ge, 4, none⟩ = some (.pointer (some ⟨q, 0, none⟩)))) (by kernel_rfl) s6 (fun hHeld => ?_)
 refine wpAnyH_take (i := 0) (oi := ⟨some 49, .move (.tmp 0), 30, "ecs.go:121", #[], none⟩) (v := ?_) rfl (by kernel_rfl) (by kernel_rfl) (by kernel_rfl) (fun _ _ _ h => h) (Or.inl ⟨by rfl, ?_⟩) (by assumption) ?_
 rotate_left 1
 ·intro w' hSw; (try dsimp only at hSw); go_simp; (try with_reducible rfl)
 simp only [Act.put, sA_, sB_, sC_]
 refine wpAnyH_take (i := 1) (oi := ⟨some 50, .load 108 (.tmp 9), 108, "ecs.go:121", #[], none⟩) (v := ?_) rfl (by kernel_rfl) (by kernel_rfl) (by kernel_rfl) (fun _ _ _ h => h) (Or.inl ⟨by rfl, ?_⟩) (by assumption) ?_
 rotate_left 1
 ·intro w' hSw; (try dsimp only at hSw); go_simp; (try with_reducible rfl)
 simp only [Act.put, sA_, sB_, sC_]
 refine wpAnyH_take (i := 2) (oi := ⟨some 51, .move (.tmp 0), 30, "ecs.go:121", #[], none⟩) (v := ?_) rfl (by kernel_rfl) (by kernel_rfl) (by kernel_rfl) (fun _ _ _ h => h) (Or.inl ⟨by rfl, ?_⟩) (by assumption) ?_
 rotate_left 1
 ·intro w' hSw; (try dsimp only at hSw); go_simp; (try with_reducible rfl)
 simp only [Act.put, sA_, sB_, sC_]
 refine wpAnyH_take (i := 3) (oi := ⟨some 52, .nilCheck (.tmp 51), 0, "ecs.go:121", #[⟨2, .data⟩], none⟩) (v := ?_) rfl (by kernel_rfl) (by kernel_rfl) (by kernel_rfl) (fun _ _ _ h => h) (Or.inl ⟨by rfl, ?_⟩) (by assumption) ?_
 rotate_left 1
 ·intro w' hSw; (try dsimp only at hSw); go_simp; (try with_reducible rfl)
 simp only [Act.put, sA_, sB_, sC_]
 refine wpAnyH_take (i := 4) (oi := ⟨some 53, .fieldAddr 86 (.tmp 52) 2, 0, "ecs.go:121", #[⟨3, .data⟩], none⟩) (v := ?_) rfl (by kernel_rfl) (by kernel_rfl) (by kernel_rfl) (fun _ _ _ h => h) (Or.inl ⟨by rfl, ?_⟩) (by assumption) ?_
 rotate_left 1
 ·intro w' hSw; (try dsimp only at hSw); go_simp; (try with_reducible rfl)
 simp only [Act.put, sA_, sB_, sC_]
 refine wpAnyH_take (i := 5) (oi := ⟨some 54, .load 82 (.tmp 53), 82, "ecs.go:121", #[⟨4, .data⟩], none⟩) (v := ?_) rfl (by kernel_rfl) (by kernel_rfl) (by kernel_rfl) (fun _ _ _ h => h) (Or.inl ⟨by rfl, ?_⟩) (by assumption) ?_
 rotate_left 1
 ·intro w' hSw; (try dsimp only at hSw); go_simp; (try with_reducible rfl)
 simp only [Act.put, sA_, sB_, sC_]
 refine wpAnyH_take (i := 6) (oi := ⟨some 55, .fieldAddr 108 (.tmp 9) 0, 0, "ecs.go:121", #[], none⟩) (v := ?_) rfl (by kernel_rfl) (by kernel_rfl) (by kernel_rfl) (fun _ _ _ h => h) (Or.inl ⟨by rfl, ?_⟩) (by assumption) ?_
 rotate_left 1
 ·intro w' hSw; (try dsimp only at hSw); go_simp; (try with_reducible rfl)
 simp only [Act.put, sA_, sB_, sC_]
 refine wpAnyH_take (i := 7) (oi := ⟨some 56, .fieldAddr 105 (.tmp 55) 0, 0, "ecs.go:121", #[⟨6, .data⟩], none⟩) (v := ?_) rfl (by kernel_rfl) (by kernel_rfl) (by kernel_rfl) (fun _ _ _ h => h) (Or.inl ⟨by rfl, ?_⟩) (by assumption) ?_
 rotate_left 1
 ·intro w' hSw; (try dsimp only at hSw); go_simp; (try with_reducible rfl)
 simp only [Act.put, sA_, sB_, sC_]
 refine wpAnyH_take (i := 8) (oi := ⟨some 57, .load 3 (.tmp 56), 3, "ecs.go:121", #[⟨7, .data⟩], none⟩) (v := ?_) rfl (by kernel_rfl) (by kernel_rfl) (by kernel_rfl) (fun _ _ _ h => h) (Or.inl ⟨by rfl, ?_⟩) (by assumption) ?_
 rotate_left 1
 ·intro w' hSw; (try dsimp only at hSw); go_simp; (try with_reducible rfl)
 simp only [Act.put, sA_, sB_, sC_]
 refine wpAnyH_take (i := 9) (oi := ⟨some 58, .move (.tmp 2), 3, "ecs.go:121", #[], none⟩) (v := ?_) rfl (by kernel_rfl) (by kernel_rfl) (by kernel_rfl) (fun _ _ _ h => h) (Or.inl ⟨by rfl, ?_⟩) (by assumption) ?_
 rotate_left 1
 ·intro w' hSw; (try dsimp only at hSw); go_simp; (try with_reducible rfl)
 simp only [Act.put, sA_, sB_, sC_]
 refine wpAnyH_take (i := 11) (oi := ⟨some 60, .move (.tmp 2), 3, "ecs.go:121", #[], none⟩) (v := ?_) rfl (by kernel_rfl) (by kernel_rfl) (by kernel_rfl) (fun _ _ _ h => h) (Or.inl ⟨by rfl, ?_⟩) (by assumption) ?_
 rotate_left 1
 ·intro w' hSw; (try dsimp only at hSw); go_simp; (try with_reducible rfl)
 simp only [Act.put, sA_, sB_, sC_]
 refine wpAnyH_take (i := 12) (oi := ⟨some 61, .move (.tmp 3), 40, "ecs.go:121", #[], none⟩) (v := ?_) rfl (by kernel_rfl) (by kernel_rfl) (by kernel_rfl) (fun _ _ _ h => h) (Or.inl ⟨by rfl, ?_⟩) (by assumption) ?_
 rotate_left 1
 ·intro w' hSw; (try dsimp only at hSw); go_simp; (try with_reducible rfl)
 simp only [Act.put, sA_, sB_, sC_]
 refine wpAnyH_take (i := 13) (oi := ⟨some 62, .build 159 #[(0, .tmp 60), (1, .tmp 61)], 159, "ecs.go:121", #[⟨11, .data⟩, ⟨12, .data⟩], none⟩) (v := ?_) rfl (by kernel_rfl) (by kernel_rfl) (by kernel_rfl) (fun _ _ _ h => h) (Or.inl ⟨by rfl, ?_⟩) (by assumption) ?_
 rotate_left 1
 ·intro w' hSw; (try dsimp only at hSw); go_simp; (try with_reducible rfl)
 simp only [Act.put, sA_, sB_, sC_]
 refine wpAnyH_ready (rs := [10, 14]) (by kernel_rfl) (by simp) ?_
 refine AllReadyH.cons (o := ⟨some 59, .call { callee := .value (.func 82), args := #[.tmp 54, .tmp 57, .tmp 58], argTypes := #[82, 3, 3] }, 3, "ecs.go:121", #[⟨5, .data⟩, ⟨8, .data⟩, ⟨9, .data⟩], none⟩) rfl (fun K' hK => ?_) (AllReadyH.cons (o := ⟨some 63, .buildSlice 99 1 #[(0, .tmp 62)], 99, "ecs.go:121", #[⟨13, .data⟩], none⟩) rfl (fun K' hK => ?_) AllReadyH.nil)
 ·go_simp
  go_at_call 82; refine (CW.out w6.drew H6.out.1 H6.out.2.1).mono ?_; rintro e w7 ⟨rfl, gr7, h7, hG7, R7, z7⟩
  have s7 : w7.cell? ⟨x.p, 6, none⟩ = some (.pointer (some ⟨x.pg, 0, none⟩)) /\ (w7.cell? ⟨ge, 0, none⟩ = some (.int .i64 (n : Int)) /\ w7.cell? ⟨ge, 1, none⟩ = some (.int .i64 (r : Int)) /\ w7.cell? ⟨ge, 2, none⟩ = some (.int .i64 i) /\ w7.cell? ⟨ge, 3, none⟩ = some (.int .i64 g) /\ w7.cell? ⟨ge, 4, none⟩ = some (.pointer (some ⟨q, 0, none⟩))) := ⟨h7.c6, R7.at_ 0, R7.at_ 1, R7.at_ 2, R7.at_ 3, R7.at_ 4⟩
  have H7 := hi_ (And.intro h7 (And.intro R7 (And.intro z7 hG7)))
  clear h7 hG7 R7 z7
  refine hK.out _ _ s7 (fun hHeld => ?_)
  clear hK K'
  try simp only [Act.put, sA_, sB_, sC_]
  refine wpAnyH_ready (rs := [14]) (by kernel_rfl) (by simp) ?_
  refine AllReadyH.cons (o := ⟨some 63, .buildSlice 99 1 #[(0, .tmp 62)], 99, "ecs.go:121", #[⟨13, .data⟩], none⟩) rfl (fun K' hK => ?_) AllReadyH.nil
  go_simp
  obtain ⟨w8, hw8⟩ : ∃ w8, w8 = w7.alloc (.cells #[.int .i64 kk, .slice DA dn dc] 159) := ⟨_, rfl⟩
  rw [<- hw8]
  have hb8 : Below w7.heap.size w7 w8 := by rw [hw8]; exact (Below.refl _ _).alloc (Nat.le_refl _) _
  have h8 := H7.out.1.below hb8
  have R8 := H7.out.2.1.under hb8
  have s8 : w8.cell? ⟨x.p, 6, none⟩ = some (.pointer (some ⟨x.pg, 0, none⟩)) /\ (w8.cell? ⟨ge, 0, none⟩ = some (.int .i64 (n : Int)) /\ w8.cell? ⟨ge, 1, none⟩ = some (.int .i64 (r : Int)) /\ w8.cell? ⟨ge, 2, none⟩ = some (.int .i64 i) /\ w8.cell? ⟨ge, 3, none⟩ = some (.int .i64 g) /\ w8.cell? ⟨ge, 4, none⟩ = some (.pointer (some ⟨q, 0, none⟩))) := ⟨h8.c6, R8.at_ 0, R8.at_ 1, R8.at_ 2, R8.at_ 3, R8.at_ 4⟩
  have HW8 := hi_ hw8
  have HB8 := hi_ hb8
  clear hw8 hb8 h8 R8
  refine hK.out _ _ s8 (fun hHeld => ?_)
  clear hK K'
  try simp only [Act.put, sA_, sB_, sC_]
  refine wpAnyH_ready (rs := [15]) (by kernel_rfl) (by simp) ?_
  refine AllReadyH.cons (o := ⟨some 64, .call { callee := .value (.func 81), args := #[.tmp 49, .tmp 50, .tmp 59, .tmp 63], argTypes := #[30, 108, 3, 99] }, 0, "ecs.go:121", #[⟨0, .data⟩, ⟨1, .data⟩, ⟨10, .data⟩, ⟨14, .data⟩, ⟨10, .chain⟩], none⟩) rfl (fun K' hK => ?_) AllReadyH.nil
  go_simp
  have D7 : VB (fun y => gr7 y = 0) w7 (.slice DA dn dc) d := ((HD6.out.lt).stays (w' := w7) ⟨H7.out.2.2.2.fr.size, fun y hy => H7.out.2.2.2.fr.block y hy.2 (fun hn => hn hy.1)⟩).mono (fun y hy => H7.out.2.2.2.gr0 hy.1 hy.2)
  have P8 : PartsV (fun y => gr7 y = 0) w8 (some ⟨w7.heap.size, 0, none⟩) 1 [(kk, d)] := by
   rw [HW8.out]
   refine PartsV.mono (parts_one w7 kk D7) (fun y hy => ?_)
   rcases hy with hy | hy
   ·exact hy
   ·exact Classical.byContradiction fun hh => by have := H7.out.1.dom y hh; omega
  have C8 := hi_ (CM.out w8 gr7 (some ⟨w7.heap.size, 0, none⟩) 1 [(kk, d)] 1 rfl (H7.out.1.below HB8.out) (((TGo.ofBelow H6.out.2.2.1).trans H7.out.2.2.2).trans (TGo.ofBelow HB8.out)) (H7.out.2.1.under HB8.out) H7.out.2.2.1 P8 (by decide))
  clear D7 P8
  go_at_call 81; refine C8.out.mono ?_; rintro e w9 ⟨rfl, hX9, s9⟩
  have HX9 := hi_ hX9
  clear hX9
  refine hK.out _ _ s9 (fun hHeld => ?_)
  clear hK K'
  try simp only [Act.put]
  refine wpAnyH_done (by kernel_rfl) ?_ _
  refine NoPanic.normal ?_
  clear hHeld s6 s7 s8 s9 sb
  go_wp2
  go_ret
  exact ⟨rfl, HX9.out⟩
 ·go_simp
  rw [<- HWB.out]
  refine hK.out _ _ sb (fun hHeld => ?_)
  clear hK K'
  try simp only [Act.put, sA_, sB_, sC_]
  refine wpAnyH_ready (rs := [10]) (by kernel_rfl) (by simp) ?_
  refine AllReadyH.cons (o := ⟨some 59, .call { callee := .value (.func 82), args := #[.tmp 54, .tmp 57, .tmp 58], argTypes := #[82, 3, 3] }, 3, "ecs.go:121", #[⟨5, .data⟩, ⟨8, .data⟩, ⟨9, .data⟩], none⟩) rfl (fun K' hK => ?_) AllReadyH.nil
  go_simp
  go_at_call 82; refine (CW.out wb HBB.out.1 HBB.out.2.1).mono ?_; rintro e w7 ⟨rfl, gr7, h7, hG7, R7, z7⟩
  have s7 : w7.cell? ⟨x.p, 6, none⟩ = some (.pointer (some ⟨x.pg, 0, none⟩)) /\ (w7.cell? ⟨ge, 0, none⟩ = some (.int .i64 (n : Int)) /\ w7.cell? ⟨ge, 1, none⟩ = some (.int .i64 (r : Int)) /\ w7.cell? ⟨ge, 2, none⟩ = some (.int .i64 i) /\ w7.cell? ⟨ge, 3, none⟩ = some (.int .i64 g) /\ w7.cell? ⟨ge, 4, none⟩ = some (.pointer (some ⟨q, 0, none⟩))) := ⟨h7.c6, R7.at_ 0, R7.at_ 1, R7.at_ 2, R7.at_ 3, R7.at_ 4⟩
  have H7 := hi_ (And.intro h7 (And.intro R7 (And.intro z7 hG7)))
  clear h7 hG7 R7 z7
  refine hK.out _ _ s7 (fun hHeld => ?_)
  clear hK K'
  try simp only [Act.put, sA_, sB_, sC_]
  refine wpAnyH_ready (rs := [15]) (by kernel_rfl) (by simp) ?_
  refine AllReadyH.cons (o := ⟨some 64, .call { callee := .value (.func 81), args := #[.tmp 49, .tmp 50, .tmp 59, .tmp 63], argTypes := #[30, 108, 3, 99] }, 0, "ecs.go:121", #[⟨0, .data⟩, ⟨1, .data⟩, ⟨10, .data⟩, ⟨14, .data⟩, ⟨10, .chain⟩], none⟩) rfl (fun K' hK => ?_) AllReadyH.nil
  go_simp
  have C8 := hi_ (CM.out w7 gr7 (some ⟨w6.heap.size, 0, none⟩) 1 [(kk, d)] 1 rfl H7.out.1 ((TGo.ofBelow HBB.out.2.2.2).trans H7.out.2.2.2) H7.out.2.1 H7.out.2.2.1 (((HBB.out.2.2.1.lt).stays ⟨H7.out.2.2.2.fr.size, fun y hy => H7.out.2.2.2.fr.block y hy.2 (fun hn => hn hy.1)⟩).mono (fun y hy => H7.out.2.2.2.gr0 hy.1 hy.2)) (by decide))
  go_at_call 81; refine C8.out.mono ?_; rintro e w9 ⟨rfl, hX9, s9⟩
  have HX9 := hi_ hX9
  clear hX9
  refine hK.out _ _ s9 (fun hHeld => ?_)
  clear hK K'
  try simp only [Act.put]
  refine wpAnyH_done (by kernel_rfl) ?_ _
  refine NoPanic.normal ?_
  clear hHeld s6 sb s7 s9
  go_wp2
  go_ret
  exact ⟨rfl, HX9.out⟩
theorem eremove_no (h : CoJ 0 w N gr x k c pt) {i g : Int} (hw : okE (i, g)) {n r : Nat} {t : Tb} (hp : k.pl (i, g) = some (n, r)) (ht : k.tb n = some t) (hn : okN n) {kk : Int} (hks : x.n <= 1000000) {z : Int} (hsz : sizeK x.ks kk = (z, true)) {s0 : Nat} (hs0 : k.S[n]? = some s0) (hh : decide (0 <= kk /\ kk < 64 /\ s0.testBit kk.toNat = true) = false) :
  Calls Tryz.prog 38 #[.pointer (some ⟨x.p, 0, none⟩), .agg #[.int .i64 i, .int .i64 g], .int .i64 kk] w fun e w' => e = .returned (.int .i64 8) /\ Below w.heap.size w w' := by
 have HHB : Hid (∀ s, k.S[n]? = some s -> decide (0 <= kk /\ kk < 64 /\ s.testBit kk.toNat = true) = false) := hi_ (fun s hs => by rw [hs0] at hs; injection hs with hs; subst hs; exact hh)
 obtain ⟨w1, hw1, hb1, r1⟩ := id_start w i g
 have h1 := h.below hb1
 have CA := eask_yes h1 hw hp ht hn kk hks true (by rw [hsz])
 simp only [if_true] at CA
 have k0 := r1.at_ 0
 have k1 := r1.at_ 1
 obtain ⟨q, hq⟩ : ∃ q : Nat, q = pt n := ⟨_, rfl⟩
 rw [<- hq] at CA
 have CA := hi_ CA
 have H0 := hi_ h
 have HQ := hi_ hq
 have HB1 := hi_ hb1
 have H1 := hi_ h1
 have HN := hi_ (And.intro hw (And.intro hp (And.intro ht (And.intro hn (And.intro hks hsz)))))
 clear h h1 hb1 r1 hw hp ht hn hks hsz hq hh hs0
 go_enter Tryz.func38, Tryz.ntmps38
 go_upto_region 4 with (first
  | (rw [<- hw1]; clear hw1)
  | (go_at_call 76; refine CA.out.mono ?_; rintro e w2 ⟨rfl, hb2⟩; obtain ⟨w3, hw3⟩ : ∃ w3, w3 = w2.alloc (.cells enZ 108) := ⟨_, rfl⟩; have hb3 : Below w1.heap.size w1 w3 := hb2.trans (show Below w1.heap.size w2 w3 by rw [hw3]; exact (Below.refl _ _).alloc hb2.size _); have R3 := hi_ (show Rec 108 w3 w2.heap.size enZ by rw [hw3]; exact Rec.new w2 _ _); have HS := hi_ (And.intro hb2.size hb3); clear hb2 hb3 k0 k1 CA)
  | (rw [<- hw3]; clear hw3)
  | ((with_reducible refine wpList_stN n r i g (some ⟨q, 0, none⟩) enZ_size rfl (.tmp 7) (.tmp 14) rfl rfl rfl R3.out ?_); intro w4 hR4 hF4; have HR4 := hi_ (And.intro hR4 hF4); clear hR4 hF4))
 obtain ⟨ge, hge⟩ : ∃ ge : Nat, ge = w2.heap.size := ⟨_, rfl⟩
 rw [<- hge] at HR4
 have HGE := hi_ hge
 rw [<- hge]
 obtain ⟨R4, hF4⟩ := HR4.out
 have hb4 : Below w1.heap.size w1 w4 := HS.out.2.trans (hF4.toBelow (fun y hy => by have := HS.out.1; have e' : y = ge := hy; omega) HS.out.2.size)
 have h4 := H1.out.below hb4
 have H4 := hi_ (And.intro h4 (And.intro R4 (HB1.out.trans (hb4.mono HB1.out.size))))
 have HG := hi_ (show gr ge = 0 from Classical.byContradiction fun hh => by have := H1.out.dom _ hh; have := HS.out.1; omega)
 clear hge hF4 hb4 h4 R4 HR4 HS R3
 obtain ⟨w5, hw5⟩ : ∃ w5, w5 = w4 := ⟨_, rfl⟩
 have HB5 := hi_ (show Below w4.heap.size w4 w5 by rw [hw5]; exact Below.refl _ _)
 have h5 := H4.out.1.below HB5.out
 have R5 := H4.out.2.1.under HB5.out
 rw [<- hw5]
 clear hw5
 obtain ⟨s, tag, m, v, qq, hs, hA, hg⟩ := h5.tab n t (by omega) HN.out.2.2.1
 have CG := tsig_any hA.i
 rw [<- HQ.out] at CG
 have CG := hi_ CG
 have CH := Has_any s kk w5 hA.sgl
 rw [HHB.out s hs] at CH
 have CH := hi_ CH
 have k4 := R5.at_ 4
 have H5 := hi_ (And.intro h5 R5)
 have HS5 := hi_ hs
 clear h5 R5 hs hA hg
 go_wp2_with (first
  | (go_at_call 79; refine CG.out.mono ?_; rintro e w' ⟨rfl, rfl⟩)
  | (go_at_call 78; refine CH.out.mono ?_; rintro e w6 ⟨rfl, hb6⟩; have HB6 := hi_ hb6; clear hb6 k4))
 go_ret
 have hb56 := HB5.out.trans (HB6.out.mono HB5.out.size)
 exact ⟨rfl, H4.out.2.2.trans (hb56.mono H4.out.2.2.size)⟩
theorem eremove_has (h : CoJ 0 w N gr x k c pt) {i g : Int} (hw : okE (i, g)) {n r : Nat} {t : Tb} (hp : k.pl (i, g) = some (n, r)) (ht : k.tb n = some t) (hn : okN n) {kk : Int} (hks : x.n <= 1000000) (hT : TabN N w) (hc : c <= 80000) (hr : r < t.rows.length) (hmo : okE t.lastR.1) (hSl : k.S.length <= 4090) {z : Int} (hsz : sizeK x.ks kk = (z, true)) {s0 : Nat} (hs0 : k.S[n]? = some s0) (hh : decide (0 <= kk /\ kk < 64 /\ s0.testBit kk.toNat = true) = true) (hsl : chg false s0 kk < 18446744073709551616) (hsub : chg false s0 kk &&& ofL (idxs x.n) 64 = chg false s0 kk) :
  Calls Tryz.prog 38 #[.pointer (some ⟨x.p, 0, none⟩), .agg #[.int .i64 i, .int .i64 g], .int .i64 kk] w fun e w' => e = .returned (.int .i64 0) /\ ∃ gr' pt', CoJ 0 w' N gr' x (({ k with S := (gNode k.S (chg false s0 kk)).1 } : Ks).move x (i, g) n r t (gNode k.S (chg false s0 kk)).2 (chg false s0 kk) ((t.rows.getD r noEn).2 ++ [])) (c + 4) pt' /\ TGo w gr w' gr' := by
 have HHB : Hid (∀ s, k.S[n]? = some s -> decide (0 <= kk /\ kk < 64 /\ s.testBit kk.toNat = true) = true) := hi_ (fun s hs => by rw [hs0] at hs; injection hs with hs; subst hs; exact hh)
 have HD := hi_ (And.intro hT (And.intro hc (And.intro hr (And.intro hmo (And.intro hSl (And.intro hs0 (And.intro hsl hsub)))))))
 obtain ⟨K3, hK3⟩ : ∃ K3, K3 = (({ k with S := (gNode k.S (chg false s0 kk)).1 } : Ks).move x (i, g) n r t (gNode k.S (chg false s0 kk)).2 (chg false s0 kk) ((t.rows.getD r noEn).2 ++ [])) := ⟨_, rfl⟩
 rw [<- hK3]
 have HK3 := hi_ hK3
 clear hK3
 obtain ⟨w1, hw1, hb1, r1⟩ := id_start w i g
 have h1 := h.below hb1
 have CA := eask_yes h1 hw hp ht hn kk hks true (by rw [hsz])
 simp only [if_true] at CA
 have k0 := r1.at_ 0
 have k1 := r1.at_ 1
 obtain ⟨q, hq⟩ : ∃ q : Nat, q = pt n := ⟨_, rfl⟩
 rw [<- hq] at CA
 have CA := hi_ CA
 have H0 := hi_ h
 have HQ := hi_ hq
 have HB1 := hi_ hb1
 have H1 := hi_ h1
 have HN := hi_ (And.intro hw (And.intro hp (And.intro ht (And.intro hn (And.intro hks hsz)))))
 clear h h1 hb1 r1 hw hp ht hn hks hsz hq hh hs0 hT hc hr hmo hSl hsl hsub
 go_enter Tryz.func38, Tryz.ntmps38
 go_upto_region 4 with (first
  | (rw [<- hw1]; clear hw1)
  | (go_at_call 76; refine CA.out.mono ?_; rintro e w2 ⟨rfl, hb2⟩; obtain ⟨w3, hw3⟩ : ∃ w3, w3 = w2.alloc (.cells enZ 108) := ⟨_, rfl⟩; have hb3 : Below w1.heap.size w1 w3 := hb2.trans (show Below w1.heap.size w2 w3 by rw [hw3]; exact (Below.refl _ _).alloc hb2.size _); have R3 := hi_ (show Rec 108 w3 w2.heap.size enZ by rw [hw3]; exact Rec.new w2 _ _); have HS := hi_ (And.intro hb2.size hb3); clear hb2 hb3 k0 k1 CA)
  | (rw [<- hw3]; clear hw3)
  | ((with_reducible refine wpList_stN n r i g (some ⟨q, 0, none⟩) enZ_size rfl (.tmp 7) (.tmp 14) rfl rfl rfl R3.out ?_); intro w4 hR4 hF4; have HR4 := hi_ (And.intro hR4 hF4); clear hR4 hF4))
 obtain ⟨ge, hge⟩ : ∃ ge : Nat, ge = w2.heap.size := ⟨_, rfl⟩
 rw [<- hge] at HR4
 have HGE := hi_ hge
 rw [<- hge]
 obtain ⟨R4, hF4⟩ := HR4.out
 have hb4 : Below w1.heap.size w1 w4 := HS.out.2.trans (hF4.toBelow (fun y hy => by have := HS.out.1; have e' : y = ge := hy; omega) HS.out.2.size)
 have h4 := H1.out.below hb4
 have H4 := hi_ (And.intro h4 (And.intro R4 (HB1.out.trans (hb4.mono HB1.out.size))))
 have HG := hi_ (show gr ge = 0 from Classical.byContradiction fun hh => by have := H1.out.dom _ hh; have := HS.out.1; omega)
 clear hge hF4 hb4 h4 R4 HR4 HS R3
 obtain ⟨w5, hw5⟩ : ∃ w5, w5 = w4 := ⟨_, rfl⟩
 have HB5 := hi_ (show Below w4.heap.size w4 w5 by rw [hw5]; exact Below.refl _ _)
 have h5 := H4.out.1.below HB5.out
 have R5 := H4.out.2.1.under HB5.out
 rw [<- hw5]
 clear hw5
 obtain ⟨s, tag, m, v, qq, hs, hA, hg⟩ := h5.tab n t (by omega) HN.out.2.2.1
 have CG := tsig_any hA.i
 rw [<- HQ.out] at CG
 have CG := hi_ CG
 have CH := Has_any s kk w5 hA.sgl
 rw [HHB.out s hs] at CH
 have CH := hi_ CH
 have k4 := R5.at_ 4
 have H5 := hi_ (And.intro h5 R5)
 have HS5 := hi_ hs
 clear h5 R5 hs hA hg
 go_upto_region 6 with (first
  | (go_at_call 79; refine CG.out.mono ?_; rintro e w' ⟨rfl, rfl⟩)
  | (go_at_call 78; refine CH.out.mono ?_; rintro e w6 ⟨rfl, hb6⟩; have HB6 := hi_ hb6; clear hb6 k4))
 obtain ⟨hT, hc, hr, hmo, hSl, hs0, hsl, hsub⟩ := HD.out
 obtain ⟨hw, hp, ht, hn, hks, hsz⟩ := HN.out
 have hb56 := HB5.out.trans (HB6.out.mono HB5.out.size)
 have h6 := (H5.out.1.below HB6.out).below (Below.refl _ _).drew
 have R6 := H5.out.2.under HB6.out
 have hb06 := H4.out.2.2.trans (hb56.mono H4.out.2.2.size)
 have hB6d : Below w.heap.size w w6.drew := hb06.drew
 have hge6 : ge < w6.heap.size := R6.lt
 have CW : Hid (∀ W, CoJ 0 W N gr x k c pt -> Rec 108 W ge (enC n r i g (some ⟨q, 0, none⟩)) -> Calls Tryz.prog 92 #[.pointer (some ⟨x.pg, 0, none⟩), .int .i64 (n : Int), .int .i64 kk] W fun e w' => e = .returned (.int .i64 ((gNode k.S (chg false s0 kk)).2 : Nat)) /\ ∃ gr', CoJ 0 w' N gr' x { k with S := (gNode k.S (chg false s0 kk)).1 } (c + 1) pt /\ TGo W gr w' gr' /\ Rec 108 w' ge (enC n r i g (some ⟨q, 0, none⟩)) /\ gr' ge = 0) := hi_ (fun W hW hR => by
  refine (hW.without_ hs0 kk (by omega) (by omega)).mono ?_
  rintro e w' ⟨rfl, gr', h', hG'⟩
  exact ⟨rfl, gr', h', hG', hR.tgo hG' HG.out, hG'.gr0 HG.out hR.lt⟩)
 have CM : Hid (∀ W gr2 MA mn (more : List Pt) mc, more = [] -> CoJ 0 W N gr2 x { k with S := (gNode k.S (chg false s0 kk)).1 } (c + 1) pt -> TGo w gr W gr2 -> Rec 108 W ge (enC n r i g (some ⟨q, 0, none⟩)) -> gr2 ge = 0 -> PartsV (fun y => gr2 y = 0) W MA mn more -> mn <= 1000 ->
   Calls Tryz.prog 81 #[.pointer (some ⟨x.p, 0, none⟩), .agg (enC n r i g (some ⟨q, 0, none⟩)), .int .i64 ((gNode k.S (chg false s0 kk)).2 : Nat), .slice MA mn mc] W fun e w' => e = .returned (.tuple #[]) /\ (∃ gr' pt', CoJ 0 w' N gr' x K3 (c + 4) pt' /\ TGo w gr w' gr') /\ (w'.cell? ⟨x.p, 6, none⟩ = some (.pointer (some ⟨x.pg, 0, none⟩)) /\ (w'.cell? ⟨ge, 0, none⟩ = some (.int .i64 (n : Int)) /\ w'.cell? ⟨ge, 1, none⟩ = some (.int .i64 (r : Int)) /\ w'.cell? ⟨ge, 2, none⟩ = some (.int .i64 i) /\ w'.cell? ⟨ge, 3, none⟩ = some (.int .i64 g) /\ w'.cell? ⟨ge, 4, none⟩ = some (.pointer (some ⟨q, 0, none⟩))))) := hi_ (fun W gr2 MA mn more mc he2 h2 hG2 hR2 hz2 hm hmn => by
  subst he2
  have hat := gNode_at k.S (chg false s0 kk)
  have hln : (gNode k.S (chg false s0 kk)).2 < (gNode k.S (chg false s0 kk)).1.length := (List.getElem?_eq_some_iff.1 hat).1
  have hll := (gNode_len k.S (chg false s0 kk)).1
  have C := emove_any h2 (hT.go H0.out hG2) (by omega) hw hn ht hr hmo (n2 := (gNode k.S (chg false s0 kk)).2) (s2 := chg false s0 kk) (by unfold okN; omega) hat hsl hsub hks (by show (gNode k.S (chg false s0 kk)).1.length <= 4096; omega) hm (fun y hy => hy) hmn mc
  rw [<- HQ.out, <- HK3.out] at C
  refine C.mono ?_
  rintro e w' ⟨rfl, gr', pt', h', hG'⟩
  have R' := hR2.tgo hG' hz2
  exact ⟨rfl, ⟨gr', pt', h', hG2.trans hG'⟩, h'.c6, R'.at_ 0, R'.at_ 1, R'.at_ 2, R'.at_ 3, R'.at_ 4⟩)
 have s6 : w6.drew.cell? ⟨x.p, 6, none⟩ = some (.pointer (some ⟨x.pg, 0, none⟩)) /\ (w6.drew.cell? ⟨ge, 0, none⟩ = some (.int .i64 (n : Int)) /\ w6.drew.cell? ⟨ge, 1, none⟩ = some (.int .i64 (r : Int)) /\ w6.drew.cell? ⟨ge, 2, none⟩ = some (.int .i64 i) /\ w6.drew.cell? ⟨ge, 3, none⟩ = some (.int .i64 g) /\ w6.drew.cell? ⟨ge, 4, none⟩ = some (.pointer (some ⟨q, 0, none⟩))) := ⟨h6.c6, R6.at_ 0, R6.at_ 1, R6.at_ 2, R6.at_ 3, R6.at_ 4⟩
 have H6 := hi_ (And.intro h6 (And.intro R6 (And.intro hB6d hge6)))
 obtain ⟨n2, hn2⟩ : ∃ n2 : Nat, n2 = (gNode k.S (chg false s0 kk)).2 := ⟨_, rfl⟩
 rw [<- hn2] at CW CM
 clear hT hc hr hmo hSl hs0 hsl hsub hw hp ht hn hks hsz hb56 h6 R6 hb06 hB6d hge6 hn2
 refine wp_region_noPanic ?_
 refine wp_region_held_drew (S := fun W => W.cell? ⟨x.p, 6, none⟩ = some (.pointer (some ⟨x.pg, 0, none⟩)) /\ (W.cell? ⟨ge, 0, none⟩ = some (.int .i64 (n : Int)) /\ W.cell? ⟨ge, 1, none⟩ = some (.int .i64 (r : Int)) /\ W.cell? ⟨ge, 2, none⟩ = some (.int .i64 i) /\ W.cell? ⟨ge, 3, none⟩ = some (.int .i64 g) /\ W.cell? ⟨ge, 4, none⟩ = some (.pointer (some ⟨q, 0, none⟩)))) (by kernel_rfl) s6 (fun hHeld => ?_)
 refine wpAnyH_take (i := 0) (oi := ⟨some 25, .move (.tmp 0), 30, "ecs.go:134", #[], none⟩) (v := ?_) rfl (by kernel_rfl) (by kernel_rfl) (by kernel_rfl) (fun _ _ _ h => h) (Or.inl ⟨by rfl, ?_⟩) (by assumption) ?_
 rotate_left 1
 ·intro w' hSw; (try dsimp only at hSw); go_simp; (try with_reducible rfl)
 simp only [Act.put, sA_, sB_, sC_]
 refine wpAnyH_take (i := 1) (oi := ⟨some 26, .load 108 (.tmp 7), 108, "ecs.go:134", #[], none⟩) (v := ?_) rfl (by kernel_rfl) (by kernel_rfl) (by kernel_rfl) (fun _ _ _ h => h) (Or.inl ⟨by rfl, ?_⟩) (by assumption) ?_
 rotate_left 1
 ·intro w' hSw; (try dsimp only at hSw); go_simp; (try with_reducible rfl)
 simp only [Act.put, sA_, sB_, sC_]
 refine wpAnyH_take (i := 2) (oi := ⟨some 27, .move (.tmp 0), 30, "ecs.go:134", #[], none⟩) (v := ?_) rfl (by kernel_rfl) (by kernel_rfl) (by kernel_rfl) (fun _ _ _ h => h) (Or.inl ⟨by rfl, ?_⟩) (by assumption) ?_
 rotate_left 1
 ·intro w' hSw; (try dsimp only at hSw); go_simp; (try with_reducible rfl)
 simp only [Act.put, sA_, sB_, sC_]
 refine wpAnyH_take (i := 3) (oi := ⟨some 28, .nilCheck (.tmp 27), 0, "ecs.go:134", #[⟨2, .data⟩], none⟩) (v := ?_) rfl (by kernel_rfl) (by kernel_rfl) (by kernel_rfl) (fun _ _ _ h => h) (Or.inl ⟨by rfl, ?_⟩) (by assumption) ?_
 rotate_left 1
 ·intro w' hSw; (try dsimp only at hSw); go_simp; (try with_reducible rfl)
 simp only [Act.put, sA_, sB_, sC_]
 refine wpAnyH_take (i := 4) (oi := ⟨some 29, .fieldAddr 86 (.tmp 28) 2, 0, "ecs.go:134", #[⟨3, .data⟩], none⟩) (v := ?_) rfl (by kernel_rfl) (by kernel_rfl) (by kernel_rfl) (fun _ _ _ h => h) (Or.inl ⟨by rfl, ?_⟩) (by assumption) ?_
 rotate_left 1
 ·intro w' hSw; (try dsimp only at hSw); go_simp; (try with_reducible rfl)
 simp only [Act.put, sA_, sB_, sC_]
 refine wpAnyH_take (i := 5) (oi := ⟨some 30, .load 82 (.tmp 29), 82, "ecs.go:134", #[⟨4, .data⟩], none⟩) (v := ?_) rfl (by kernel_rfl) (by kernel_rfl) (by kernel_rfl) (fun _ _ _ h => h) (Or.inl ⟨by rfl, ?_⟩) (by assumption) ?_
 rotate_left 1
 ·intro w' hSw; (try dsimp only at hSw); go_simp; (try with_reducible rfl)
 simp only [Act.put, sA_, sB_, sC_]
 refine wpAnyH_take (i := 6) (oi := ⟨some 31, .fieldAddr 108 (.tmp 7) 0, 0, "ecs.go:134", #[], none⟩) (v := ?_) rfl (by kernel_rfl) (by kernel_rfl) (by kernel_rfl) (fun _ _ _ h => h) (Or.inl ⟨by rfl, ?_⟩) (by assumption) ?_
 rotate_left 1
 ·intro w' hSw; (try dsimp only at hSw); go_simp; (try with_reducible rfl)
 simp only [Act.put, sA_, sB_, sC_]
 refine wpAnyH_take (i := 7) (oi := ⟨some 32, .fieldAddr 105 (.tmp 31) 0, 0, "ecs.go:134", #[⟨6, .data⟩], none⟩) (v := ?_) rfl (by kernel_rfl) (by kernel_rfl) (by kernel_rfl) (fun _ _ _ h => h) (Or.inl ⟨by rfl, ?_⟩) (by assumption) ?_
 rotate_left 1
 ·intro w' hSw; (try dsimp only at hSw); go_simp; (try with_reducible rfl)
 simp only [Act.put, sA_, sB_, sC_]
 refine wpAnyH_take (i := 8) (oi := ⟨some 33, .load 3 (.tmp 32), 3, "ecs.go:134", #[⟨7, .data⟩], none⟩) (v := ?_) rfl (by kernel_rfl) (by kernel_rfl) (by kernel_rfl) (fun _ _ _ h => h) (Or.inl ⟨by rfl, ?_⟩) (by assumption) ?_
 rotate_left 1
 ·intro w' hSw; (try dsimp only at hSw); go_simp; (try with_reducible rfl)
 simp only [Act.put, sA_, sB_, sC_]
 refine wpAnyH_take (i := 9) (oi := ⟨some 34, .move (.tmp 2), 3, "ecs.go:134", #[], none⟩) (v := ?_) rfl (by kernel_rfl) (by kernel_rfl) (by kernel_rfl) (fun _ _ _ h => h) (Or.inl ⟨by rfl, ?_⟩) (by assumption) ?_
 rotate_left 1
 ·intro w' hSw; (try dsimp only at hSw); go_simp; (try with_reducible rfl)
 simp only [Act.put, sA_, sB_, sC_]
 refine wpAnyH_ready (rs := [10]) (by kernel_rfl) (by simp) ?_
 refine AllReadyH.cons (o := ⟨some 35, .call { callee := .value (.func 92), args := #[.tmp 30, .tmp 33, .tmp 34], argTypes := #[82, 3, 3] }, 3, "ecs.go:134", #[⟨5, .data⟩, ⟨8, .data⟩, ⟨9, .data⟩], none⟩) rfl (fun K' hK => ?_) AllReadyH.nil
 go_simp
 go_at_call 92; refine (CW.out w6.drew H6.out.1 H6.out.2.1).mono ?_; rintro e w7 ⟨rfl, gr7, h7, hG7, R7, z7⟩
 have s7 : w7.cell? ⟨x.p, 6, none⟩ = some (.pointer (some ⟨x.pg, 0, none⟩)) /\ (w7.cell? ⟨ge, 0, none⟩ = some (.int .i64 (n : Int)) /\ w7.cell? ⟨ge, 1, none⟩ = some (.int .i64 (r : Int)) /\ w7.cell? ⟨ge, 2, none⟩ = some (.int .i64 i) /\ w7.cell? ⟨ge, 3, none⟩ = some (.int .i64 g) /\ w7.cell? ⟨ge, 4, none⟩ = some (.pointer (some ⟨q, 0, none⟩))) := ⟨h7.c6, R7.at_ 0, R7.at_ 1, R7.at_ 2, R7.at_ 3, R7.at_ 4⟩
 have H7 := hi_ (And.intro h7 (And.intro R7 (And.intro z7 hG7)))
 clear h7 hG7 R7 z7
 refine hK.out _ _ s7 (fun hHeld => ?_)
 clear hK K'
 try simp only [Act.put, sA_, sB_, sC_]
 refine wpAnyH_ready (rs := [11]) (by kernel_rfl) (by simp) ?_
 refine AllReadyH.cons (o := ⟨some 36, .call { callee := .value (.func 81), args := #[.tmp 25, .tmp 26, .tmp 35, .const (.slice none 0 0)], argTypes := #[30, 108, 3, 99] }, 0, "ecs.go:134", #[⟨0, .data⟩, ⟨1, .data⟩, ⟨10, .data⟩, ⟨10, .chain⟩], none⟩) rfl (fun K' hK => ?_) AllReadyH.nil
 go_simp
 have C8 := hi_ (CM.out w7 gr7 none 0 [] 0 rfl H7.out.1 ((TGo.ofBelow H6.out.2.2.1).trans H7.out.2.2.2) H7.out.2.1 H7.out.2.2.1 (PartsV.nil _ _ _) (by decide))
 go_at_call 81; refine C8.out.mono ?_; rintro e w9 ⟨rfl, hX9, s9⟩
 have HX9 := hi_ hX9
 clear hX9
 refine hK.out _ _ s9 (fun hHeld => ?_)
 clear hK K'
 try simp only [Act.put]
 refine wpAnyH_done (by kernel_rfl) ?_ _
 refine NoPanic.normal ?_
 clear hHeld s6 s7 s9
 go_wp2
 go_ret
 exact ⟨rfl, HX9.out⟩
end
end Go.Proofs.YthiknmhkdeicjaaGreatDoor
