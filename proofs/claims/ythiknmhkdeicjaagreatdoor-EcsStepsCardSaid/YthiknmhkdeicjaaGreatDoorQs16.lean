/- EcJ, EcS, EcQ, EcL -/
import Derived.Test.YthiknmhkdeicjaaGreatDoorQs1
import Derived.Test.YthiknmhkdeicjaaGreatDoorQs3
import Derived.Test.YthiknmhkdeicjaaGreatDoorQs4
import Derived.Test.YthiknmhkdeicjaaGreatDoorQs15
import Derived.Shelf.SlSortCmp.NoneTotal
namespace Go.Proofs.YthiknmhkdeicjaaGreatDoor
open Go.RowKit
set_option maxRecDepth 20000
section
variable {w : World} {N : Nat} {gr : Nat -> Nat} {x : Fx} {k : Ks} {c : Nat} {pt : Nat -> Nat}
theorem CoJ.give (h : CoJ 0 w N gr x k c pt) (i g : Int) : Calls Tryz.prog 91 #[.pointer (some ⟨x.pi, 0, none⟩), .agg #[.int .i64 i, .int .i64 g]] w fun e w' => e = .returned (.int .i64 (k.ns.give i g).2) /\ ∃ gr', CoJ 0 w' N gr' x { k with ns := (k.ns.give i g).1 } c pt /\ TGo w gr w' gr' := by
 obtain ⟨gv, av, fv, I⟩ := h.ids (by decide)
 refine (Give_any (fun y hy => h.dom y (by rw [show gr y = 4 from hy]; decide)) I i g).mono ?_
 rintro e w' ⟨rfl, hG⟩
 exact ⟨rfl, h.ids_go hG⟩
theorem edespawn_err (R : Value) (i g z : Int) (hz : z ≠ 0) (w : World) (CA : Hid (∀ W, Below w.heap.size w W -> Calls Tryz.prog 50 #[R, .agg #[.int .i64 i, .int .i64 g]] W fun e w' => e = .returned (.tuple #[.agg enZ, .int .i64 z]) /\ Below W.heap.size W w')) :
  Calls Tryz.prog 37 #[R, .agg #[.int .i64 i, .int .i64 g]] w fun e w' => e = .returned (.int .i64 z) /\ Below w.heap.size w w' := by
 obtain ⟨w1, hw1, hb1, r1⟩ := id_start w i g
 have C1 := hi_ (CA.out w1 hb1)
 have k0 := r1.at_ 0
 have k1 := r1.at_ 1
 have d1 : decide (z = 0) = false := decide_eq_false hz
 have d2 : (z != 0) = true := bne_iff_ne.2 hz
 have HB := hi_ hb1
 clear hb1 r1 CA
 go_enter Tryz.func37, Tryz.ntmps37
 go_wp2_with (first
  | (rw [<- hw1]; clear hw1)
  | (go_at_call 50; refine C1.out.mono ?_; rintro e w2 ⟨rfl, hb2⟩; obtain ⟨w3, hw3⟩ : ∃ w3, w3 = w2.alloc (.cells enZ 108) := ⟨_, rfl⟩; have hb3 : Below w1.heap.size w1 w3 := hb2.trans (show Below w1.heap.size w2 w3 by rw [hw3]; exact (Below.refl _ _).alloc hb2.size _); have R3 := hi_ (show Rec 108 w3 w2.heap.size enZ by rw [hw3]; exact Rec.new w2 _ _); have HS := hi_ (And.intro hb2.size hb3); clear hb2 hb3 k0 k1)
  | (rw [<- hw3]; clear hw3)
  | ((with_reducible refine wpList_stNz enZ_size rfl (.tmp 5) (.tmp 11) rfl rfl rfl R3.out ?_); intro w4 hR4 hF4; have HB3 := hi_ (HS.out.2.trans (hF4.toBelow (fun y hy => by rw [show y = w2.heap.size from hy]; exact HS.out.1) HS.out.2.size)); clear hR4 hF4))
 go_ret
 exact ⟨rfl, HB.out.trans (HB3.out.mono HB.out.size)⟩
theorem edespawn_yes (h : CoJ 0 w N gr x k c pt) {i g : Int} (hw : okE (i, g)) {n r : Nat} {t : Tb} (hp : k.pl (i, g) = some (n, r)) (ht : k.tb n = some t) (hn : okN n) (hT : TabN N w) (hc : c <= 80000) (hr : r < t.rows.length) (hmo : okE t.lastR.1) :
  Calls Tryz.prog 37 #[.pointer (some ⟨x.p, 0, none⟩), .agg #[.int .i64 i, .int .i64 g]] w fun e w' => e = .returned (.int .i64 (k.ns.give i g).2) /\ ∃ gr', CoJ 0 w' N gr' x { k.drop (i, g) n r t with ns := (k.ns.give i g).1 } (c + 1) pt /\ TGo w gr w' gr' := by
 obtain ⟨ze, hze⟩ : ∃ ze, ze = (k.ns.give i g).2 := ⟨_, rfl⟩
 rw [<- hze]
 have HZE := hi_ hze
 clear hze
 obtain ⟨K3, hK3⟩ : ∃ K3 : Ks, K3 = { k.drop (i, g) n r t with ns := (k.ns.give i g).1 } := ⟨_, rfl⟩
 rw [<- hK3]
 have HK3 := hi_ hK3
 clear hK3
 obtain ⟨w1, hw1, hb1, r1⟩ := id_start w i g
 have h1 := h.below hb1
 have CA := efind_yes h1 hw hp ht hn
 have k0 := r1.at_ 0
 have k1 := r1.at_ 1
 obtain ⟨q, hq⟩ : ∃ q : Nat, q = pt n := ⟨_, rfl⟩
 rw [<- hq] at CA
 have CA := hi_ CA
 have H0 := hi_ h
 have HQ := hi_ hq
 have HB1 := hi_ hb1
 have H1 := hi_ h1
 have HN := hi_ (And.intro hw (And.intro hp (And.intro ht (And.intro hn (And.intro hT (And.intro hc (And.intro hr hmo)))))))
 have HR1 := hi_ (And.intro r1 (show gr w.heap.size = 0 from Classical.byContradiction fun hh => by have := h.dom _ hh; omega))
 clear h h1 hb1 r1 hw hp ht hn hq hT hc hr hmo
 go_enter Tryz.func37, Tryz.ntmps37
 go_upto_region 4 with (first
  | (rw [<- hw1]; clear hw1)
  | (go_at_call 50; refine CA.out.mono ?_; rintro e w2 ⟨rfl, hb2⟩; obtain ⟨w3, hw3⟩ : ∃ w3, w3 = w2.alloc (.cells enZ 108) := ⟨_, rfl⟩; have hb3 : Below w1.heap.size w1 w3 := hb2.trans (show Below w1.heap.size w2 w3 by rw [hw3]; exact (Below.refl _ _).alloc hb2.size _); have R3 := hi_ (show Rec 108 w3 w2.heap.size enZ by rw [hw3]; exact Rec.new w2 _ _); have HS := hi_ (And.intro hb2.size hb3); clear hb2 hb3 k0 k1 CA)
  | (rw [<- hw3]; clear hw3)
  | ((with_reducible refine wpList_stN n r i g (some ⟨q, 0, none⟩) enZ_size rfl (.tmp 5) (.tmp 11) rfl rfl rfl R3.out ?_); intro w4 hR4 hF4; have HR4 := hi_ (And.intro hR4 hF4); clear hR4 hF4))
 obtain ⟨ge, hge⟩ : ∃ ge : Nat, ge = w2.heap.size := ⟨_, rfl⟩
 rw [<- hge] at HR4
 have HGE := hi_ hge
 rw [<- hge]
 obtain ⟨R4, hF4⟩ := HR4.out
 have hb4 : Below w1.heap.size w1 w4 := HS.out.2.trans (hF4.toBelow (fun y hy => by have := HS.out.1; have e' : y = ge := hy; omega) HS.out.2.size)
 have h4 := H1.out.below hb4
 have H4 := hi_ (And.intro h4 (And.intro R4 (HB1.out.trans (hb4.mono HB1.out.size))))
 have HG := hi_ (show gr ge = 0 from Classical.byContradiction fun hh => by have := H1.out.dom _ hh; have := HS.out.1; omega)
 have HR4i := hi_ (HR1.out.1.under hb4)
 clear hge hF4 hb4 h4 R4 HR4 HS R3
 have CD := hi_ (show Calls Tryz.prog 90 #[.pointer (some ⟨x.p, 0, none⟩), .agg (enC n r i g (some ⟨q, 0, none⟩))] w4 _ by
  have := edrop_any H4.out.1 (HN.out.2.2.2.2.1.below H0.out H4.out.2.2) (by have := HN.out.2.2.2.2.2.1; omega) HN.out.1 HN.out.2.2.2.1 HN.out.2.2.1 HN.out.2.2.2.2.2.2.1 HN.out.2.2.2.2.2.2.2
  rw [<- HQ.out] at this
  exact this)
 go_upto_region 5 with (first
  | (with_reducible refine wpList_ldN rfl (.tmp 5) rfl rfl H4.out.2.1 ?_)
  | (go_at_call 90; refine CD.out.mono ?_; rintro e w5 ⟨rfl, gr5, h5, hG5⟩; have H5 := hi_ (And.intro h5 hG5); clear h5 hG5))
 obtain ⟨h5, hG5⟩ := H5.out
 have h5d := h5.below (Below.refl _ _).drew
 have r5 : Rec 39 w5 w.heap.size #[.int .i64 i, .int .i64 g] := HR4i.out.tgo hG5 HR1.out.2
 have z5 : gr5 w.heap.size = 0 := hG5.gr0 HR1.out.2 HR4i.out.lt
 have hG05 : TGo w gr w5.drew gr5 := ((TGo.ofBelow H4.out.2.2).trans hG5).trans (TGo.ofBelow (Below.refl _ _).drew)
 have CG : Hid (Calls Tryz.prog 91 #[.pointer (some ⟨x.pi, 0, none⟩), .agg #[.int .i64 i, .int .i64 g]] w5.drew fun e w' => e = .returned (.int .i64 ze) /\ (∃ gr', CoJ 0 w' N gr' x K3 (c + 1) pt /\ TGo w gr w' gr') /\ (w'.cell? ⟨x.p, 5, none⟩ = some (.pointer (some ⟨x.pi, 0, none⟩)) /\ w'.cell? ⟨w.heap.size, 0, none⟩ = some (.int .i64 i) /\ w'.cell? ⟨w.heap.size, 1, none⟩ = some (.int .i64 g))) := hi_ (by
  refine (h5d.give i g).mono ?_
  rintro e w' ⟨rfl, gr', h', hG'⟩
  have r' : Rec 39 w' w.heap.size #[.int .i64 i, .int .i64 g] := Rec.tgo (w := w5.drew) r5 hG' z5
  refine ⟨by rw [HZE.out]; rfl, ⟨gr', ?_, hG05.trans hG'⟩, h'.c5, r'.at_ 0, r'.at_ 1⟩
  rw [HK3.out]
  exact h')
 have s5 : w5.drew.cell? ⟨x.p, 5, none⟩ = some (.pointer (some ⟨x.pi, 0, none⟩)) /\ w5.drew.cell? ⟨w.heap.size, 0, none⟩ = some (.int .i64 i) /\ w5.drew.cell? ⟨w.heap.size, 1, none⟩ = some (.int .i64 g) := ⟨h5d.c5, r5.at_ 0, r5.at_ 1⟩
 clear h5 hG5 h5d r5 z5 hG05
 refine wp_region_noPanic ?_
 refine wp_region_held_drew (S := fun W => W.cell? ⟨x.p, 5, none⟩ = some (.pointer (some ⟨x.pi, 0, none⟩)) /\ W.cell? ⟨w.heap.size, 0, none⟩ = some (.int .i64 i) /\ W.cell? ⟨w.heap.size, 1, none⟩ = some (.int .i64 g)) (by kernel_rfl) s5 (fun hHeld => ?_)
 refine wpAnyH_take (i := 0) (oi := ⟨some 19, .move (.tmp 0), 30, "ecs.go:106", #[], none⟩) (v := ?_) rfl (by kernel_rfl) (by kernel_rfl) (by kernel_rfl) (fun _ _ _ h => h) (Or.inl ⟨by rfl, ?_⟩) (by assumption) ?_
 rotate_left 1
 ·intro w' hSw; (try dsimp only at hSw); go_simp; (try with_reducible rfl)
 simp only [Act.put, sA_, sB_, sC_]
 refine wpAnyH_take (i := 1) (oi := ⟨some 20, .nilCheck (.tmp 19), 0, "ecs.go:106", #[⟨0, .data⟩], none⟩) (v := ?_) rfl (by kernel_rfl) (by kernel_rfl) (by kernel_rfl) (fun _ _ _ h => h) (Or.inl ⟨by rfl, ?_⟩) (by assumption) ?_
 rotate_left 1
 ·intro w' hSw; (try dsimp only at hSw); go_simp; (try with_reducible rfl)
 simp only [Act.put, sA_, sB_, sC_]
 refine wpAnyH_take (i := 2) (oi := ⟨some 21, .fieldAddr 86 (.tmp 20) 1, 0, "ecs.go:106", #[⟨1, .data⟩], none⟩) (v := ?_) rfl (by kernel_rfl) (by kernel_rfl) (by kernel_rfl) (fun _ _ _ h => h) (Or.inl ⟨by rfl, ?_⟩) (by assumption) ?_
 rotate_left 1
 ·intro w' hSw; (try dsimp only at hSw); go_simp; (try with_reducible rfl)
 simp only [Act.put, sA_, sB_, sC_]
 refine wpAnyH_take (i := 3) (oi := ⟨some 22, .load 77 (.tmp 21), 77, "ecs.go:106", #[⟨2, .data⟩], none⟩) (v := ?_) rfl (by kernel_rfl) (by kernel_rfl) (by kernel_rfl) (fun _ _ _ h => h) (Or.inl ⟨by rfl, ?_⟩) (by assumption) ?_
 rotate_left 1
 ·intro w' hSw; (try dsimp only at hSw); go_simp; (try with_reducible rfl)
 simp only [Act.put, sA_, sB_, sC_]
 refine wpAnyH_take (i := 4) (oi := ⟨some 23, .load 39 (.tmp 3), 39, "ecs.go:106", #[], none⟩) (v := ?_) rfl (by kernel_rfl) (by kernel_rfl) (by kernel_rfl) (fun _ _ _ h => h) (Or.inl ⟨by rfl, ?_⟩) (by assumption) ?_
 rotate_left 1
 ·intro w' hSw; (try dsimp only at hSw); go_simp; (try with_reducible rfl)
 simp only [Act.put, sA_, sB_, sC_]
 refine wpAnyH_ready (rs := [5]) (by kernel_rfl) (by simp) ?_
 refine AllReadyH.cons (o := ⟨some 24, .call { callee := .value (.func 91), args := #[.tmp 22, .tmp 23], argTypes := #[77, 39] }, 60, "ecs.go:106", #[⟨3, .data⟩, ⟨4, .data⟩], none⟩) rfl (fun K' hK => ?_) AllReadyH.nil
 go_simp
 go_at_call 91; refine CG.out.mono ?_; rintro e w6 ⟨rfl, hX, s6⟩
 have HX := hi_ hX
 clear hX
 refine hK.out _ _ s6 (fun hHeld => ?_)
 clear hK K'
 try simp only [Act.put, sA_, sB_, sC_]
 refine wpAnyH_take (i := 6) (oi := ⟨some 4, .assign (.tmp 24), 60, "ecs.go:106", #[⟨5, .data⟩, ⟨5, .chain⟩, ⟨0, .phase⟩, ⟨1, .phase⟩, ⟨2, .phase⟩, ⟨3, .phase⟩, ⟨4, .phase⟩, ⟨5, .phase⟩], none⟩) (v := ?_) rfl (by kernel_rfl) (by kernel_rfl) (by kernel_rfl) (fun _ _ _ h => h) (Or.inl ⟨by rfl, ?_⟩) (by assumption) ?_
 rotate_left 1
 ·intro w' hSw; (try dsimp only at hSw); go_simp; (try with_reducible rfl)
 simp only [Act.put, sA_, sB_, sC_]
 refine wpAnyH_done (by kernel_rfl) ?_ _
 refine NoPanic.normal ?_
 clear hHeld s5 s6
 go_wp2
 go_ret
 exact ⟨rfl, HX.out⟩
theorem eget_err (R : Value) (i g kk z : Int) (hz : z ≠ 0) (w : World) (CA : Hid (∀ W, Below w.heap.size w W -> Calls Tryz.prog 76 #[R, .agg #[.int .i64 i, .int .i64 g], .int .i64 kk] W fun e w' => e = .returned (.tuple #[.agg enZ, .int .i64 z]) /\ Below W.heap.size W w')) :
  Calls Tryz.prog 39 #[R, .agg #[.int .i64 i, .int .i64 g], .int .i64 kk] w fun e w' => e = .returned (.tuple #[.slice none 0 0, .int .i64 z]) /\ Below w.heap.size w w' := by
 obtain ⟨w1, hw1, hb1, r1⟩ := id_start w i g
 have C1 := hi_ (CA.out w1 hb1)
 have k0 := r1.at_ 0
 have k1 := r1.at_ 1
 have d1 : decide (z = 0) = false := decide_eq_false hz
 have d2 : (z != 0) = true := bne_iff_ne.2 hz
 have HB := hi_ hb1
 clear hb1 r1 CA
 go_enter Tryz.func39, Tryz.ntmps39
 go_wp2_with (first
  | (rw [<- hw1]; clear hw1)
  | (go_at_call 76; refine C1.out.mono ?_; rintro e w2 ⟨rfl, hb2⟩; obtain ⟨w3, hw3⟩ : ∃ w3, w3 = w2.alloc (.cells enZ 108) := ⟨_, rfl⟩; have hb3 : Below w1.heap.size w1 w3 := hb2.trans (show Below w1.heap.size w2 w3 by rw [hw3]; exact (Below.refl _ _).alloc hb2.size _); have R3 := hi_ (show Rec 108 w3 w2.heap.size enZ by rw [hw3]; exact Rec.new w2 _ _); have HS := hi_ (And.intro hb2.size hb3); clear hb2 hb3 k0 k1)
  | (rw [<- hw3]; clear hw3)
  | ((with_reducible refine wpList_stNz enZ_size rfl (.tmp 8) (.tmp 15) rfl rfl rfl R3.out ?_); intro w4 hR4 hF4; have HB3 := hi_ (HS.out.2.trans (hF4.toBelow (fun y hy => by rw [show y = w2.heap.size from hy]; exact HS.out.1) HS.out.2.size)); clear hR4 hF4))
 go_ret2
 exact ⟨rfl, HB.out.trans (HB3.out.mono HB.out.size)⟩
theorem eget_yes (h : CoJ 0 w N gr x k c pt) {i g : Int} (hw : okE (i, g)) {n r : Nat} {t : Tb} (hp : k.pl (i, g) = some (n, r)) (ht : k.tb n = some t) (hn : okN n) {kk : Int} (hks : x.n <= 1000000) {z : Int} (hsz : sizeK x.ks kk = (z, true)) (hk : In64 kk) :
  Calls Tryz.prog 39 #[.pointer (some ⟨x.p, 0, none⟩), .agg #[.int .i64 i, .int .i64 g], .int .i64 kk] w fun e w' => (∃ A n c, e = .returned (.tuple #[.slice A n c, .int .i64 (t.go ⟨2, (0, 0), [], (r : Int), kk, []⟩).2.err]) /\ VB (fun y => w.heap.size <= y) w' (.slice A n c) (t.go ⟨2, (0, 0), [], (r : Int), kk, []⟩).2.data) /\ Below w.heap.size w w' := by
 obtain ⟨ze, hze⟩ : ∃ ze, ze = (t.go ⟨2, (0, 0), [], (r : Int), kk, []⟩).2.err := ⟨_, rfl⟩
 obtain ⟨da, hda⟩ : ∃ da, da = (t.go ⟨2, (0, 0), [], (r : Int), kk, []⟩).2.data := ⟨_, rfl⟩
 rw [<- hze, <- hda]
 have HZE := hi_ (And.intro hze (And.intro hda hk))
 clear hze hda
 obtain ⟨w1, hw1, hb1, r1⟩ := id_start w i g
 have h1 := h.below hb1
 have CA := eask_yes h1 hw hp ht hn kk hks true (by rw [hsz])
 simp only [if_true] at CA
 have k0 := r1.at_ 0
 have k1 := r1.at_ 1
 obtain ⟨q, hq⟩ : ∃ q : Nat, q = pt n := ⟨_, rfl⟩
 rw [<- hq] at CA
 have CA := hi_ CA
 have H0 := hi_ h
 have HQ := hi_ hq
 have HB1 := hi_ hb1
 have H1 := hi_ h1
 have HN := hi_ (And.intro hw (And.intro hp (And.intro ht (And.intro hn (And.intro hks hsz)))))
 clear h h1 hb1 r1 hw hp ht hn hks hsz hq hk
 go_enter Tryz.func39, Tryz.ntmps39
 go_upto_region 4 with (first
  | (rw [<- hw1]; clear hw1)
  | (go_at_call 76; refine CA.out.mono ?_; rintro e w2 ⟨rfl, hb2⟩; obtain ⟨w3, hw3⟩ : ∃ w3, w3 = w2.alloc (.cells enZ 108) := ⟨_, rfl⟩; have hb3 : Below w1.heap.size w1 w3 := hb2.trans (show Below w1.heap.size w2 w3 by rw [hw3]; exact (Below.refl _ _).alloc hb2.size _); have R3 := hi_ (show Rec 108 w3 w2.heap.size enZ by rw [hw3]; exact Rec.new w2 _ _); have HS := hi_ (And.intro hb2.size hb3); clear hb2 hb3 k0 k1 CA)
  | (rw [<- hw3]; clear hw3)
  | ((with_reducible refine wpList_stN n r i g (some ⟨q, 0, none⟩) enZ_size rfl (.tmp 8) (.tmp 15) rfl rfl rfl R3.out ?_); intro w4 hR4 hF4; have HR4 := hi_ (And.intro hR4 hF4); clear hR4 hF4))
 obtain ⟨ge, hge⟩ : ∃ ge : Nat, ge = w2.heap.size := ⟨_, rfl⟩
 rw [<- hge] at HR4
 have HGE := hi_ hge
 rw [<- hge]
 obtain ⟨R4, hF4⟩ := HR4.out
 have hb4 : Below w1.heap.size w1 w4 := HS.out.2.trans (hF4.toBelow (fun y hy => by have := HS.out.1; have e' : y = ge := hy; omega) HS.out.2.size)
 have h4 := H1.out.below hb4
 have H4 := hi_ (And.intro h4 (And.intro R4 (HB1.out.trans (hb4.mono HB1.out.size))))
 have HG := hi_ (show gr ge = 0 from Classical.byContradiction fun hh => by have := H1.out.dom _ hh; have := HS.out.1; omega)
 clear hge hF4 hb4 h4 R4 HR4 HS R3
 obtain ⟨s', tag, m, v, qq, hs, hA, hg⟩ := H4.out.1.tab n t (by omega) HN.out.2.2.1
 have CT := TGet_go hA (0, 0) [] (r : Int) kk HZE.out.2.2 []
 rw [<- HQ.out, <- HZE.out.1, <- HZE.out.2.1] at CT
 have CT := hi_ CT
 have k1 := H4.out.2.1.at_ 1
 have k4 := H4.out.2.1.at_ 4
 clear hs hA hg
 go_wp2_with (go_at_call 93; refine CT.out.mono ?_; rintro e w5 ⟨⟨RA, rn, rc, rfl, _, hV⟩, _, hb5⟩; have H5 := hi_ (And.intro hV hb5); clear hV hb5 k1 k4)
 go_ret2
 exact ⟨⟨RA, rn, rc, rfl, H5.out.1.mono (fun y hy => Nat.le_trans H4.out.2.2.size hy)⟩, H4.out.2.2.trans (H5.out.2.mono H4.out.2.2.size)⟩
theorem ecount_yes (h : CoJ 0 w N gr x k c pt) : Calls Tryz.prog 16 #[.pointer (some ⟨x.p, 0, none⟩)] w fun e w' => e = .returned (.int .i64 (k.ns.cnt k.ns.g.length)) /\ w = w' := by
 obtain ⟨gv, av, fv, I⟩ := h.ids (by decide)
 obtain ⟨z, hz⟩ : ∃ z : Nat, z = k.ns.cnt k.ns.g.length := ⟨_, rfl⟩
 have CC := Count_any I
 rw [<- hz] at CC ⊢
 have CC := hi_ CC
 have c5 := h.c5
 clear h I hz
 go_enter Tryz.func16, Tryz.ntmps16
 go_wp2_with (go_at_call 45; refine CC.out.mono ?_; rintro e w' ⟨rfl, rfl⟩)
 go_ret
 exact ⟨rfl, rfl⟩
theorem conf_start (w : World) : ∃ w1, w1 = w.alloc (.cells ccZ 24) /\ Below w.heap.size w w1 /\ Rec 24 w1 w.heap.size ccZ := ⟨_, rfl, (Below.refl _ _).alloc (Nat.le_refl _) _, Rec.new w _ _⟩
theorem econf_yes (h : CoJ 0 w N gr x k c pt) (hks : x.n <= 1000000) : Calls Tryz.prog 12 #[.pointer (some ⟨x.p, 0, none⟩)] w fun e w' => ∃ A' c', e = .returned (cv x.lg x.ps x.en x.gn A' x.n c') /\ KRd w' A' x.n x.ks /\ Below w.heap.size w w' := by
 obtain ⟨w1, hw1, hb1, r1⟩ := conf_start w
 have h1 := h.below hb1
 have k0 : w1.cell? ⟨x.p, 0, none⟩ = some (.int .i64 x.lg) := h1.cell 0
 have k1 : w1.cell? ⟨x.p, 1, none⟩ = some (.int .i64 x.ps) := h1.cell 1
 have k2 : w1.cell? ⟨x.p, 2, none⟩ = some (.int .i64 x.en) := h1.cell 2
 have k3 : w1.cell? ⟨x.p, 3, none⟩ = some (.int .i64 x.gn) := h1.cell 3
 have k4 : w1.cell? ⟨x.p, 4, none⟩ = some (.slice x.A x.n x.cap) := h1.cell 4
 have CO := hi_ (own_any x.lg x.ps x.en x.gn x.A x.n x.cap x.ks w1 h1.kd hks)
 have R1 := hi_ r1
 have HB := hi_ hb1
 clear r1 hb1 h h1
 go_enter Tryz.func12, Tryz.ntmps12
 go_wp2_with (first
  | (rw [<- hw1]; clear hw1)
  | (go_at_call 33; refine CO.out.mono ?_; rintro e w2 ⟨A', c', rfl, hk2, ha2, hb2⟩; have H2 := hi_ (And.intro hk2 (And.intro ha2 hb2)); clear hk2 ha2 hb2 k0 k1 k2 k3 k4)
  | ((with_reducible refine wpList_stC x.lg x.ps x.en x.gn A' x.n c' ccZ_size rfl (.tmp 2) (.tmp 10) rfl rfl rfl (R1.out.under H2.out.2.2) ?_); intro w5 hR5 hF5))
 refine bodyPost_ret (res_c rfl rfl (hR5.load confT rfl)) rfl ?_
 obtain ⟨hk, ha, hb⟩ := H2.out
 have hlt := R1.out.lt
 exact ⟨A', c', rfl, hk.fr hF5 (fun b o e e' => by have := (ha b o e).1; have e2 : b = w.heap.size := e'; omega), HB.out.trans ((hb.mono HB.out.size).trans (hF5.toBelow (fun y hy => by rw [show y = w.heap.size from hy]; exact Nat.le_refl _) (Nat.le_trans HB.out.size hb.size)))⟩
end
end Go.Proofs.YthiknmhkdeicjaaGreatDoor
namespace Go.Proofs.YthiknmhkdeicjaaGreatDoor
open Go.RowKit Go.Sort
set_option maxRecDepth 20000
def encD (x : Int × Int) : List Value := [.int .i64 x.1, .int .i64 x.2]
theorem encD_flat : ∀ (d : List (Int × Int)) (t : Nat) (u : Value), (idc d)[t]? = some u -> t < d.length * 2 /\ ∃ x, d[t / 2]? = some x /\ (encD x)[t % 2]? = some u := by
 intro d t u h
 have hl : t < (idc d).length := (List.getElem?_eq_some_iff.1 h).1
 rw [idc_len] at hl
 obtain ⟨ch, hch, hl2, hz, hx⟩ := idc_el d
 have hq : t / 2 < d.length := by omega
 obtain ⟨r, hr, he⟩ := hx (t / 2) d[t / 2] (List.getElem?_eq_getElem hq)
 have hg := flatg_get hz hr (i := t % 2) (by omega)
 rw [<- hch, show t / 2 * 2 + t % 2 = t by omega, h] at hg
 exact ⟨hl, d[t / 2], List.getElem?_eq_getElem hq, by rw [<- show r = encD d[t / 2] from he]; exact hg.symm⟩
theorem flat_idc (d : List (Int × Int)) : (flatK encD 2 d.toArray).toList = idc d := by
 apply List.ext_getElem?
 intro t
 by_cases ht : t < d.length * 2
 ·have h1 : t < (flatK encD 2 d.toArray).size := by simp; exact ht
  have h2 : t < (idc d).length := by rw [idc_len]; exact ht
  obtain ⟨_, x, hx, hu⟩ := encD_flat d t (idc d)[t] (List.getElem?_eq_getElem h2)
  have h3 := get_flatK encD 2 d.toArray t (by simpa using ht)
  rw [Array.getElem?_toList, Array.getElem?_eq_getElem h1, List.getElem?_eq_getElem h2]
  rw [getElem!_pos _ t h1] at h3
  rw [h3]
  have hq : t / 2 < d.length := by omega
  have hx' : d[t / 2] = x := by rw [List.getElem?_eq_getElem hq] at hx; exact Option.some.inj hx
  have e1 : d.toArray[t / 2]! = x := by rw [getElem!_pos _ _ (by simpa using hq)]; simpa using hx'
  rw [e1, List.getElem!_eq_getElem?_getD, hu]
  rfl
 ·rw [List.getElem?_eq_none (by simp; omega), List.getElem?_eq_none (by rw [idc_len]; omega)]
theorem ltIx (x y : Int × Int) : ltOf (fun x y : Int × Int => Lib.compareInt x.1 y.1) x y = decide (x.1 < y.1) := by
 unfold ltOf Lib.compareInt
 by_cases h1 : x.1 < y.1
 ·simp [h1]
 ·by_cases h2 : y.1 < x.1 <;> simp [h1, h2]
theorem swoIx : SWO (ltOf fun x y : Int × Int => Lib.compareInt x.1 y.1) where
 irrefl x := by rw [ltIx]; simp
 trans x y z h1 h2 := by rw [ltIx] at *; simp at *; omega
 ntrans x y z h1 h2 := by rw [ltIx] at *; simp at *; omega
set_option maxHeartbeats 1000000 in
theorem compare_any (a b : Int) (W : World) : Calls Tryz.prog 56 #[.int .i64 a, .int .i64 b] W fun e w' => e = .returned (.int .i64 (Lib.compareInt a b)) /\ ∃ q, w' = W.drewN q := by
 unfold Lib.compareInt
 rcases Int.lt_trichotomy a b with h | h | h
 ·rw [if_pos h]
  have e : ¬ b < a := by omega
  go_enter Tryz.func56, Tryz.ntmps56
  go_wp2
  go_ret
  exact ⟨rfl, 0, rfl⟩
 ·subst h
  rw [if_neg (Int.lt_irrefl a), if_neg (Int.lt_irrefl a)]
  go_enter Tryz.func56, Tryz.ntmps56
  go_wp2
  go_ret
  exact ⟨rfl, 0, rfl⟩
 ·have e : ¬ a < b := by omega
  rw [if_neg e, if_pos h]
  go_enter Tryz.func56, Tryz.ntmps56
  go_wp2
  go_ret
  exact ⟨rfl, 0, rfl⟩
set_option maxHeartbeats 1000000 in
theorem qcmp_any (a b : Int × Int) (W : World) : Calls Tryz.prog 55 #[.agg #[.int .i64 a.1, .int .i64 a.2], .agg #[.int .i64 b.1, .int .i64 b.2]] W fun e w' => e = .returned (.int .i64 (Lib.compareInt a.1 b.1)) /\ ∃ q os', w' = grow (W.drewN q) os' := by
 have hcon := fun W' => compare_any a.1 b.1 W'
 generalize Lib.compareInt a.1 b.1 = r at hcon ⊢
 have HC := hi_ hcon
 clear hcon
 go_enter Tryz.func55, Tryz.ntmps55
 go_wp2_with (go_at_call 56; refine (HC.out _).mono ?_; rintro e w' ⟨rfl, q, rfl⟩)
 go_ret
 exact ⟨rfl, q, #[.cells #[.int .i64 a.1, .int .i64 a.2] 39] ++ #[.cells #[.int .i64 b.1, .int .i64 b.2] 39], by rw [alloc_eq_grow, alloc_eq_grow, grow_grow]; rfl⟩
theorem sorted_fr (w : World) (blk off m : Nat) (d : Array (Int × Int)) (os : Array Obj) : Fr (· = blk) w (sortWorldK encD 2 w blk off m d os) :=
 ⟨rfl, rfl, rfl, by show w.heap.size <= (grow (putRowK encD 2 (Sort.ahead w m) blk off d) os).heap.size; rw [size_grow, show (putRowK encD 2 (Sort.ahead w m) blk off d).heap.size = w.heap.size from size_putRowK encD 2 (Sort.ahead w m) blk off d]; omega, fun b hb hn => by
  show (grow (putRowK encD 2 (Sort.ahead w m) blk off d) os).heap[b]? = _
  rw [heap_grow_old _ _ (by rw [show (putRowK encD 2 (Sort.ahead w m) blk off d).heap.size = w.heap.size from size_putRowK encD 2 (Sort.ahead w m) blk off d]; exact hb)]
  show (mapBlock (Sort.ahead w m) blk _).heap[b]? = _
  have : blk ≠ b := fun e => hn e.symm
  simp [mapBlock, Sort.ahead, Array.getElem?_modify, this]⟩
theorem sorted_list {d' : Array (Int × Int)} (h : SortedIn (ltOf fun x y : Int × Int => Lib.compareInt x.1 y.1) 0 d'.size d') : d'.toList.Pairwise fun x y => x.1 <= y.1 := by
 rw [List.pairwise_iff_getElem]
 intro i j hi hj hij
 have := h i j (Nat.zero_le _) hij (by simpa using hj)
 rw [ltIx, getElem!_pos d' i (by simpa using hi), getElem!_pos d' j (by simpa using hj)] at this
 have h2 := of_decide_eq_false this
 simp only [Array.getElem_toList]
 omega
theorem own_openS {w : World} {B e n sz : Nat} {v : Value} {xs : List Value} (h : w.ownsRow B e sz v n xs) :
  ∃ A c, v = .slice A n c /\ (0 < n -> ∃ g, A = some ⟨g, 0, none⟩ /\ g < w.heap.size /\ (∀ j u, xs[j]? = some u -> w.cell? ⟨g, j, none⟩ = some u) /\ (∀ j, w.frozen? ⟨g, j, none⟩ = false)) := by
 rcases h.2 with ⟨hv, h0⟩ | ⟨g, cap, cur, rfl, _, hh, hn, hc, hs, ht⟩
 ·exact ⟨none, 0, by rw [hv, h0], fun hp => by omega⟩
 ·refine ⟨_, cap, rfl, fun _ => ⟨g, rfl, (Array.getElem?_eq_some_iff.1 hh).1, fun j u hj => ?_, fun j => frozen_of_row w g j _ _ hh⟩⟩
  rw [cell_of_row _ _ _ _ _ _ hh]
  have hl : j < xs.length := (List.getElem?_eq_some_iff.1 hj).1
  rw [<- ht, List.getElem?_take_of_lt (by rw [h.1] at hl; exact hl), Array.getElem?_toList] at hj
  exact hj
theorem sortIds_any {B : Nat} {v : Value} {xs : List (Int × Int)} {n : Nat} (hn : xs.length = n) (w : World) (ho : w.ownsRow B 39 2 v n (idc xs)) (hlen : n <= 10000000) :
  ∃ A c, v = .slice A n c /\ Calls Tryz.prog 54 #[.slice A n c, .func (.func 55) #[] #[]] w fun e w' => e = .returned (.tuple #[]) /\ ∃ ys : List (Int × Int), ys.Perm xs /\ ys.Pairwise (fun x y => x.1 <= y.1) /\ IdsV (fun y => v.ownBlock = some y) w' A n ys /\ Fr (fun y => v.ownBlock = some y) w w' := by
 obtain ⟨A, c, hv, hp⟩ := own_openS ho
 refine ⟨A, c, hv, ?_⟩
 by_cases h0 : n = 0
 ·subst h0
  have hx : xs = [] := List.eq_nil_of_length_eq_zero hn
  subst hx
  refine (AnyF.slices_SortFunc_none Tryz.sortD A c (.func (.func 55) #[] #[]) w).mono ?_
  rintro e w' ⟨rfl, rfl⟩
  exact ⟨rfl, [], List.Perm.refl _, List.Pairwise.nil, ⟨[], rfl, ⟨rfl, fun _ => rfl, fun h => absurd h (Nat.lt_irrefl 0)⟩, HdL.nil _ _⟩, Fr.refl _ _⟩
 ·obtain ⟨b, hA, hb, hc, hf⟩ := hp (by omega)
  subst hA
  have hxl : (idc xs).length = n * 2 := by rw [idc_len, hn]
  have hH : HoldsK encD 2 w b 0 xs.toArray := fun j hj => by
   have hj' : j < n * 2 := by simp at hj; omega
   refine ⟨?_, by rw [Nat.zero_add]; exact hf j⟩
   rw [Nat.zero_add, getElem!_pos _ j hj]
   have e1 := flat_idc xs
   have e2 : (flatK encD 2 xs.toArray)[j]? = (idc xs)[j]? := by rw [<- e1]; simp
   rw [Array.getElem?_eq_getElem hj] at e2
   show w.cell? ⟨b, j, none⟩ = some (flatK encD 2 xs.toArray)[j]
   exact hc j _ e2.symm
  have hcmp : CmpLays Tryz.prog 55 #[] encD 2 (fun x y => Lib.compareInt x.1 y.1) b 0 xs.toArray.size w := fun _ _ _ _ x y => qcmp_any x y _
  have C := AnyQ.slices_SortFunc Tryz.sortD 2 Tryz.isAgg39 Tryz.sizeOf39 encD (fun _ => rfl) (fun x v hv => by simp [encD] at hv; rcases hv with rfl | rfl <;> rfl) (fun x y => Lib.compareInt x.1 y.1) swoIx 55 #[] b 0 c xs.toArray w (enters_of Tryz.func55 (by kernel_rfl) rfl) hcmp hH hb (by simp; omega)
  rw [show xs.toArray.size = n by simp; exact hn] at C
  refine C.mono ?_
  rintro e w' ⟨rfl, d', m, os, hpm, hso, rfl⟩
  obtain ⟨hs, _, hper⟩ := hpm
  have hs' : d'.size = n := by rw [hs]; simp; exact hn
  have hown : (Value.slice (some ⟨b, 0, none⟩) n c).ownBlock = some b := rfl
  rw [hv, hown]
  refine ⟨rfl, d'.toList, ?_, sorted_list (by rw [hs']; exact hso), ?_, (sorted_fr w b 0 m d' os).mono (fun y hy => by rw [show y = b from hy])⟩
  ·have e1 : d'.extract 0 n = d' := by rw [<- hs']; exact Array.extract_size
   have e2 : xs.toArray.extract 0 n = xs.toArray := by rw [<- hn]; simp
   rw [e1, e2] at hper
   simpa using hper
  ·have hH' : HoldsK encD 2 (sortWorldK encD 2 w b 0 m d' os) b 0 d' :=
    holdsK_grow encD 2 _ os b 0 d' (by rw [show (putRowK encD 2 (Sort.ahead w m) b 0 d').heap.size = w.heap.size from size_putRowK encD 2 (Sort.ahead w m) b 0 d']; exact hb) (holdsK_putRowK encD 2 (Sort.ahead w m) b 0 xs.toArray d' hH (by rw [hs', List.size_toArray, hn]))
   refine ⟨idc d'.toList, by simp; exact hs', ⟨by rw [idc_len]; simp; omega, (fun e => by cases e), fun _ => ⟨b, 0, rfl, rfl, Nat.lt_of_lt_of_le hb (sorted_fr w b 0 m d' os).size, fun j u hj => ?_⟩⟩, idc_el _⟩
   have hjl : j < n * 2 := by have := (List.getElem?_eq_some_iff.1 hj).1; rw [idc_len] at this; simp at this; omega
   have hjf : j < (flatK encD 2 d').size := by simp; omega
   have h1 := (hH' j hjf).1
   rw [getElem!_pos _ j hjf] at h1
   have e1 := flat_idc d'.toList
   have e2 : (flatK encD 2 d')[j]? = (idc d'.toList)[j]? := by rw [<- e1]; simp
   rw [Array.getElem?_eq_getElem hjf, hj] at e2
   rw [h1]
   exact e2
end Go.Proofs.YthiknmhkdeicjaaGreatDoor
namespace Go.Proofs.YthiknmhkdeicjaaGreatDoor
open Go.RowKit
set_option maxRecDepth 20000
theorem ids_vs {vs : List Value} {xs : List (Int × Int)} (h : HdL 2 ED vs xs) : vs = idc xs := by
 obtain ⟨ch, rfl, h4, h5, h6⟩ := h
 unfold idc
 congr 1
 apply List.ext_getElem?
 intro j
 by_cases hj : j < xs.length
 ·obtain ⟨r, hr, he⟩ := h6 j xs[j] (List.getElem?_eq_getElem hj)
  rw [hr, List.getElem?_map, List.getElem?_eq_getElem hj]
  exact congrArg some he
 ·rw [List.getElem?_eq_none (by omega), List.getElem?_eq_none (by simp; omega)]
theorem idc_append (l m : List (Int × Int)) : idc (l ++ m) = idc l ++ idc m := by simp [idc]
def Ks.at_ (k : Ks) (n : Nat) : List (Int × Int) := match k.tb n with | some t => t.ids | none => []
def Ks.idsOf (k : Ks) (l : List Nat) : List (Int × Int) := (l.map k.at_).flatten
theorem Ks.idsOf_succ (k : Ks) (l : List Nat) {j n : Nat} (h : l[j]? = some n) : k.idsOf (l.take (j + 1)) = k.idsOf (l.take j) ++ k.at_ n := by
 unfold Ks.idsOf
 rw [List.take_add_one, h]
 simp
theorem sigsL_lt (S : List Nat) (wi wo : Nat) : ∀ m n, n ∈ sigsL S wi wo m -> n < m
 | 0, n, h => absurd h List.not_mem_nil
 | m + 1, n, h => by
  unfold sigsL at h
  rcases List.mem_append.1 h with h | h
  ·exact Nat.lt_succ_of_lt (sigsL_lt S wi wo m n h)
  ·split at h
   ·rw [List.mem_singleton.1 h]; exact Nat.lt_succ_self _
   ·exact absurd h List.not_mem_nil
section
variable {w : World} {N : Nat} {gr : Nat -> Nat} {x : Fx} {k : Ks} {c : Nat} {pt : Nat -> Nat}
theorem CoJ.idsAt (h : CoJ 0 w N gr x k c pt) {n : Nat} (hn : okN n) : ∃ q, (Instr.lookup 83 (.map (some x.mt)) (.int .i64 (n : Int)) false).run Tryz.prog w = .ok (.pointer q) w /\
  Calls Tryz.prog 53 #[.pointer q] w fun e w' => ∃ A m cc, e = .returned (.slice A m cc) /\ m = (k.at_ n).length /\ IdsV (fun y => w.heap.size <= y /\ y < w'.heap.size) w' A m (k.at_ n) /\ Below w.heap.size w w' := by
 have L := h.lookT hn
 unfold Ks.at_
 cases ht : k.tb n with
 | none =>
  rw [show tbV k.tb pt n = none by unfold tbV; rw [ht]; rfl] at L
  refine ⟨none, L, (TIDs_nil w).mono ?_⟩
  rintro e w' ⟨rfl, rfl⟩
  exact ⟨none, 0, 0, rfl, rfl, ⟨[], rfl, ⟨rfl, fun _ => rfl, fun h => absurd h (Nat.lt_irrefl 0)⟩, HdL.nil _ _⟩, Below.refl _ _⟩
 | some t =>
  rw [show tbV k.tb pt n = some (.pointer (some ⟨pt n, 0, none⟩)) by unfold tbV; rw [ht]; rfl] at L
  obtain ⟨s, tag, m, v, q, hs, hA, hg⟩ := h.tab n t (by omega) ht
  refine ⟨some ⟨pt n, 0, none⟩, L, (TIDs_any hA.i (by rw [t.ids_len]; exact hA.ok.n)).mono ?_⟩
  rintro e w' ⟨A, cc, rfl, hI, hb⟩
  exact ⟨A, _, cc, rfl, rfl, hI, hb⟩
theorem CoJ.at_len (h : CoJ 0 w N gr x k c pt) (n : Nat) : (k.at_ n).length <= 1024 := by
 unfold Ks.at_
 cases ht : k.tb n with
 | none => exact Nat.zero_le _
 | some t =>
  obtain ⟨s, tag, m, v, q, hs, hA, hg⟩ := h.tab n t (by omega) ht
  show t.ids.length <= 1024
  rw [t.ids_len]
  exact hA.ok.n
theorem CoJ.idsOf_len (h : CoJ 0 w N gr x k c pt) : ∀ l : List Nat, (k.idsOf l).length <= l.length * 1024
 | [] => Nat.le_refl _
 | n :: l => by
  have h1 := h.at_len n
  have h2 := h.idsOf_len l
  show ((k.at_ n) ++ (l.map k.at_).flatten).length <= (l.length + 1) * 1024
  rw [List.length_append]
  have h2' : ((l.map k.at_).flatten).length <= l.length * 1024 := h2
  omega
theorem equery_yes (h : CoJ 0 w N gr x k c pt) (wi wo : Nat) (hwi : wi < 18446744073709551616) (hwo : wo < 18446744073709551616) (hS : k.S.length <= 5000) :
  Calls Tryz.prog 20 #[.pointer (some ⟨x.p, 0, none⟩), .int .u64 wi, .int .u64 wo] w fun e w' => ∃ A m cc ys, e = .returned (.slice A m cc) /\ m = ys.length /\ IdsV (fun y => w.heap.size <= y) w' A m ys /\ ys.Perm (k.idsOf (sigsL k.S wi wo k.S.length)) /\ ys.Pairwise (fun a b => a.1 <= b.1) /\ Below w.heap.size w w' := by
 obtain ⟨sv, ed, b, _, hG⟩ := h.gph (by decide)
 have CS := Sigs_any hG wi wo hwi hwo (by omega)
 obtain ⟨l, hl⟩ : ∃ l, l = sigsL k.S wi wo k.S.length := ⟨_, rfl⟩
 have hln : ∀ j n, l[j]? = some n -> n < k.S.length := fun j n hj => by
  rw [hl] at hj
  exact sigsL_lt k.S wi wo k.S.length n (List.mem_of_getElem? hj)
 have hll : l.length <= k.S.length := by rw [hl]; exact sigsL_len _ _ _ _
 have htot := h.idsOf_len
 rw [<- hl] at CS ⊢
 obtain ⟨ln, hln'⟩ : ∃ ln, ln = l.length := ⟨_, rfl⟩
 rw [<- hln'] at CS
 have CS := hi_ CS
 have HL := hi_ (And.intro hln (And.intro hll (And.intro htot (And.intro hS hln'))))
 have c6 := h.c6
 have H0 := hi_ h
 clear h hG hl hln hll htot hS hln'
 go_enter Tryz.func20, Tryz.ntmps20
 go_wp2_with (go_at_call 52; refine CS.out.mono ?_; rintro e w2 ⟨v2, rfl, ho2, hb2⟩; obtain ⟨LA, lc, rfl, hnc2, hcm2, hp2⟩ := own_open ho2; have HO2 := hi_ (And.intro ho2 (And.intro hp2 hb2)); clear ho2 hnc2 hcm2 hp2 hb2 c6)
 obtain ⟨hln, hll, htot, hS, hle⟩ := HL.out
 have hlen : ln <= 5000 := by omega
 clear hln hll htot hS hle
 go_loopw [7, 20] (fun ov iv wr => ∃ (j : Nat) (xs : List (Int × Int)), j <= ln /\ iv = .int .i64 j /\ xs = k.idsOf (l.take j) /\ wr.ownsRow w2.heap.size 39 2 ov xs.length (idc xs) /\ Below w2.heap.size w2 wr) (fun _ iv _ => ln - (intOf iv).toNat)
 case atStart => exact ⟨0, [], Nat.zero_le _, rfl, rfl, World.ownsRow_nil _ _ _ _, Below.refl _ _⟩
 case round =>
  obtain ⟨j, xs, hj, rfl, hxs, ho, hb⟩ := hrel
  have hbw := HO2.out.2.2.trans (hb.mono HO2.out.2.2.size)
  by_cases hjn : j < ln
  ·obtain ⟨hln, hll, htot, hS, hle⟩ := HL.out
   have hjl : j < l.length := by omega
   obtain ⟨n, hn⟩ : ∃ n, l[j]? = some n := ⟨l[j], List.getElem?_eq_getElem hjl⟩
   have hnS := hln j n hn
   have hr := H0.out.below hbw
   obtain ⟨q, LT, CI⟩ := hr.idsAt (n := n) (by unfold okN; omega)
   have c7 := hr.c7
   obtain ⟨gb, hA, hgl, hcs, _⟩ := HO2.out.2.1 (by omega)
   subst hA
   have kj : wr.cell? ⟨gb, j, none⟩ = some (.int .i64 (n : Int)) := by
    rw [show wr.cell? ⟨gb, j, none⟩ = w2.cell? ⟨gb, j, none⟩ from hb.cell (p := ⟨gb, j, none⟩) hgl, hcs j hjn]
    simp [hn]
   have hat := hr.at_len n
   have hxl : xs.length <= j * 1024 := by rw [hxs]; refine Nat.le_trans (htot _) ?_; rw [List.length_take]; exact Nat.mul_le_mul_right _ (Nat.min_le_left _ _)
   have CI := hi_ CI
   have HX := hi_ (And.intro hxs (And.intro hxl (And.intro hat hn)))
   have HO := hi_ ho
   have HB := hi_ hb
   clear hln hll htot hS hle hr hcs hbw hat hxl hn hnS hxs ho hb hjl
   go_wp2_with (first
    | (go_at_call 53; refine CI.out.mono ?_; rintro e w3 ⟨IA, im, ic, rfl, him, hI3, hb3⟩; have HI3 := hi_ (And.intro him (And.intro hI3 hb3)); clear him hI3 hb3 kj c7 LT)
    | (at_builtin; obtain ⟨vs, h1, h2, h3⟩ := HI3.out.2.1; refine wpList_appW idsTP rfl (.tmp 24) (.tmp 31) rfl w2.heap.size _ xs.length (idc xs) rfl (own_keep HO.out HI3.out.2.2) IA im ic vs rfl h2 (h3.one (fun _ _ hx => ED.one hx)) (by have := HX.out.2.1; have := HX.out.2.2.1; have := HI3.out.1; omega) (by decide) (Nat.le_trans HB.out.size HI3.out.2.2.size) ?_; intro v4 w4 ho4 hg4; have HO4 := hi_ (And.intro ho4 (And.intro hg4 (And.intro h1 h3))); clear ho4 hg4 h1 h2 h3))
   go_roundw
   case rel =>
    obtain ⟨ho4, hg4, h1, h3⟩ := HO4.out
    obtain ⟨him, _, hb3⟩ := HI3.out
    refine ⟨j + 1, xs ++ k.at_ n, hjn, by go_num, ?_, ?_, ?_⟩
    ·rw [k.idsOf_succ l HX.out.2.2.2, <- HX.out.1]
    ·rw [List.length_append, idc_append, <- him, <- ids_vs h3]
     exact ho4
    ·exact (HB.out.trans (hb3.mono HB.out.size)).grown hg4 (Nat.le_trans HB.out.size hb3.size) (fun y hy => (own_geB HO.out hy).1)
   case measure => simp [intOf]; omega
  ·obtain rfl : j = ln := by omega
   obtain ⟨hln, hll, htot, hS, hle⟩ := HL.out
   have hxl : xs.length <= 10000000 := by rw [hxs]; refine Nat.le_trans (htot _) ?_; rw [List.length_take]; omega
   obtain ⟨A, cc, hov, CSo⟩ := sortIds_any (n := xs.length) rfl wr ho hxl
   subst hov
   have CSo := hi_ CSo
   have HX := hi_ (And.intro hxs (And.intro ho (And.intro hbw (And.intro hb hle))))
   clear hln hll htot hS hle hxl hxs ho hbw hb
   go_wp2_with (go_at_call 54; refine CSo.out.mono ?_; rintro e w5 ⟨rfl, ys, hperm, hsort, hI5, hF5⟩; have H5 := hi_ (And.intro hperm (And.intro hsort (And.intro hI5 hF5))); clear hperm hsort hI5 hF5)
   go_ret
   obtain ⟨hperm, hsort, hI5, hF5⟩ := H5.out
   obtain ⟨hxs, ho, hbw, hb, hle⟩ := HX.out
   have lo : ∀ y, (Value.slice A xs.length cc).ownBlock = some y -> w2.heap.size <= y := fun y hy => (own_geB ho hy).1
   have hw2 := HO2.out.2.2.size
   exact ⟨A, xs.length, cc, ys, rfl, hperm.length_eq.symm, hI5.mono (fun y hy => by have := lo y hy; omega), by rw [hxs, hle, List.take_length] at hperm; exact hperm, hsort, hbw.trans (hF5.toBelow (fun y hy => by have := lo y hy; omega) hbw.size)⟩
end
end Go.Proofs.YthiknmhkdeicjaaGreatDoor
namespace Go.Proofs.YthiknmhkdeicjaaGreatDoor
open Go.RowKit
set_option maxRecDepth 20000
theorem res_cttE {P : Program} {T : TypeId} {w : World} {fn : Func} {p u v : Tmp} {tmps : Array Value} {ad : Addr} {x : Value} (h : fn.results = #[.cell p T, .tmp u, .tmp v]) (hp : tmps.getD p undef = .pointer (some ad)) (hl : (loadVar T ad).run P w = .ok x w) : (results fn tmps).run P w = .ok (.tuple #[x, tmps.getD u undef, tmps.getD v undef]) w := by
 rw [Array.getD_eq_getD_getElem?] at hp
 simp only [results, h]
 simp [Result.andThen, hp, asAddr, hl]
theorem ecode_any (n : Int) (w : World) : Calls Tryz.prog 26 #[.int .i64 n] w fun e w' => e = .returned (.int .i64 n) /\ w = w' := by
 go_enter Tryz.func26, Tryz.ntmps26
 go_wp2
 go_ret
 exact ⟨rfl, rfl⟩
abbrev seC (d i g kk : Int) (DA : Option Addr) (dn dc : Nat) : Array Value := #[.int .i64 d, .int .i64 i, .int .i64 g, .int .i64 kk, .slice DA dn dc]
theorem stepT : RT Tryz.prog 44 5 := ⟨⟨_, Tryz.underlying44, rfl⟩, by kernel_rfl⟩
structure Kp (n : Nat) (W w' : World) : Prop where
 size : W.heap.size <= w'.heap.size
 blk : ∀ b, n <= b -> b < W.heap.size -> w'.heap[b]? = W.heap[b]?
theorem Kp.ofBelow {n : Nat} {W w' : World} (h : Below W.heap.size W w') : Kp n W w' := ⟨h.size, fun b _ hb => h.block b hb⟩
theorem Kp.ofTGo {n : Nat} {W w' : World} {gr gr' : Nat -> Nat} (h : TGo W gr w' gr') (hz : ∀ b, n <= b -> b < W.heap.size -> gr b = 0) : Kp n W w' := ⟨h.fr.size, fun b h1 h2 => h.fr.block b h2 (fun e => e (hz b h1 h2))⟩
theorem Rec.kp {T : TypeId} {n g : Nat} {cs : Array Value} {W w' : World} (h : Rec T W g cs) (hk : Kp n W w') (hg : n <= g) : Rec T w' g cs := h.block (hk.blk g hg h.lt)
structure Stb (g : Nat) (Φ : World -> Prop) : Prop where
 more : ∀ w1 w2, Φ w1 -> Below w1.heap.size w1 w2 -> Φ w2
 put : ∀ w1 w2, Φ w1 -> Fr (· = g) w1 w2 -> Φ w2
theorem do_start (w : World) (d i g kk : Int) (DA : Option Addr) (dn dc : Nat) : ∃ w1, w1 = (w.alloc (.cells (seC d i g kk DA dn dc) 44)).alloc (.cells #[.int .i64 0, .int .i64 0] 39) /\ Below w.heap.size w w1 /\ Rec 44 w1 w.heap.size (seC d i g kk DA dn dc) /\ Rec 39 w1 (w.heap.size + 1) #[.int .i64 0, .int .i64 0] := by
 refine ⟨_, rfl, ((Below.refl _ _).alloc (Nat.le_refl _) _).alloc (by simp) _, (Rec.new w _ _).under ((Below.refl _ _).alloc (Nat.le_refl _) _), ?_⟩
 have := Rec.new (w.alloc (.cells (seC d i g kk DA dn dc) 44)) 39 #[.int .i64 0, .int .i64 0]
 rw [World.size_alloc] at this
 exact this
section
variable (R : Value) (i g kk : Int) (DA : Option Addr) (dn dc : Nat) (z : Int) (w : World)
theorem do_1 {Φ : World -> Prop} (hΦ : Stb (w.heap.size + 1) Φ) (C : Hid (∀ W, Below w.heap.size w W -> w.heap.size + 2 <= W.heap.size -> Calls Tryz.prog 37 #[R, .agg #[.int .i64 i, .int .i64 g]] W fun e w' => e = .returned (.int .i64 z) /\ Φ w' /\ Kp w.heap.size W w')) :
  Calls Tryz.prog 13 #[R, .agg (seC 1 i g kk DA dn dc)] w fun e w' => e = .returned (.tuple #[.agg #[.int .i64 0, .int .i64 0], .slice none 0 0, .int .i64 z]) /\ Φ w' := by
 obtain ⟨w1, hw1, hb1, r1, r2⟩ := do_start w 1 i g kk DA dn dc
 have C1 := hi_ (C.out w1 hb1 (Nat.succ_le_of_lt r2.lt))
 have k0 := r1.at_ 0
 have k1 := r1.at_ 1
 have k2 := r1.at_ 2
 have k3 := r1.at_ 3
 have k4 := r1.at_ 4
 have R2 := hi_ r2
 clear hb1 r1 r2 C
 go_enter Tryz.func13, Tryz.ntmps13
 go_wp2_with (first
  | (rw [<- hw1]; clear hw1)
  | (go_at_call 37; refine C1.out.mono ?_; rintro e w2 ⟨rfl, hp, hk⟩; have HP := hi_ (And.intro hp hk); clear hp hk k0 k1 k2 k3 k4)
  | (go_at_call 26; refine (ecode_any _ _).mono ?_; rintro e w' ⟨rfl, rfl⟩)
  | ((with_reducible refine wpList_stP rfl (.tmp 4) (.tmp 14) rfl rfl rfl (R2.out.kp HP.out.2 (by omega)) ?_); intro w5 hR5 hF5))
 refine bodyPost_ret (res_cttE rfl rfl (hR5.load idT rfl)) rfl ?_
 exact ⟨rfl, hΦ.put _ _ HP.out.1 hF5⟩
theorem do_2 {Φ : World -> Prop} (hΦ : Stb (w.heap.size + 1) Φ) (C : Hid (∀ W, Below w.heap.size w W -> w.heap.size + 2 <= W.heap.size -> Calls Tryz.prog 30 #[R, .agg #[.int .i64 i, .int .i64 g], .int .i64 kk, .slice DA dn dc] W fun e w' => e = .returned (.int .i64 z) /\ Φ w' /\ Kp w.heap.size W w')) :
  Calls Tryz.prog 13 #[R, .agg (seC 2 i g kk DA dn dc)] w fun e w' => e = .returned (.tuple #[.agg #[.int .i64 0, .int .i64 0], .slice none 0 0, .int .i64 z]) /\ Φ w' := by
 obtain ⟨w1, hw1, hb1, r1, r2⟩ := do_start w 2 i g kk DA dn dc
 have C1 := hi_ (C.out w1 hb1 (Nat.succ_le_of_lt r2.lt))
 have k0 := r1.at_ 0
 have k1 := r1.at_ 1
 have k2 := r1.at_ 2
 have k3 := r1.at_ 3
 have k4 := r1.at_ 4
 have R2 := hi_ r2
 clear hb1 r1 r2 C
 go_enter Tryz.func13, Tryz.ntmps13
 go_wp2_with (first
  | (rw [<- hw1]; clear hw1)
  | (go_at_call 30; refine C1.out.mono ?_; rintro e w2 ⟨rfl, hp, hk⟩; have HP := hi_ (And.intro hp hk); clear hp hk k0 k1 k2 k3 k4)
  | (go_at_call 26; refine (ecode_any _ _).mono ?_; rintro e w' ⟨rfl, rfl⟩)
  | ((with_reducible refine wpList_stP rfl (.tmp 4) (.tmp 23) rfl rfl rfl (R2.out.kp HP.out.2 (by omega)) ?_); intro w5 hR5 hF5))
 refine bodyPost_ret (res_cttE rfl rfl (hR5.load idT rfl)) rfl ?_
 exact ⟨rfl, hΦ.put _ _ HP.out.1 hF5⟩
theorem do_3 {Φ : World -> Prop} (hΦ : Stb (w.heap.size + 1) Φ) (C : Hid (∀ W, Below w.heap.size w W -> w.heap.size + 2 <= W.heap.size -> Calls Tryz.prog 38 #[R, .agg #[.int .i64 i, .int .i64 g], .int .i64 kk] W fun e w' => e = .returned (.int .i64 z) /\ Φ w' /\ Kp w.heap.size W w')) :
  Calls Tryz.prog 13 #[R, .agg (seC 3 i g kk DA dn dc)] w fun e w' => e = .returned (.tuple #[.agg #[.int .i64 0, .int .i64 0], .slice none 0 0, .int .i64 z]) /\ Φ w' := by
 obtain ⟨w1, hw1, hb1, r1, r2⟩ := do_start w 3 i g kk DA dn dc
 have C1 := hi_ (C.out w1 hb1 (Nat.succ_le_of_lt r2.lt))
 have k0 := r1.at_ 0
 have k1 := r1.at_ 1
 have k2 := r1.at_ 2
 have k3 := r1.at_ 3
 have k4 := r1.at_ 4
 have R2 := hi_ r2
 clear hb1 r1 r2 C
 go_enter Tryz.func13, Tryz.ntmps13
 go_wp2_with (first
  | (rw [<- hw1]; clear hw1)
  | (go_at_call 38; refine C1.out.mono ?_; rintro e w2 ⟨rfl, hp, hk⟩; have HP := hi_ (And.intro hp hk); clear hp hk k0 k1 k2 k3 k4)
  | (go_at_call 26; refine (ecode_any _ _).mono ?_; rintro e w' ⟨rfl, rfl⟩)
  | ((with_reducible refine wpList_stP rfl (.tmp 4) (.tmp 36) rfl rfl rfl (R2.out.kp HP.out.2 (by omega)) ?_); intro w5 hR5 hF5))
 refine bodyPost_ret (res_cttE rfl rfl (hR5.load idT rfl)) rfl ?_
 exact ⟨rfl, hΦ.put _ _ HP.out.1 hF5⟩
theorem do_4 {Φ : Option Addr -> Nat -> Nat -> World -> Prop} (hΦ : ∀ A m cc, Stb (w.heap.size + 1) (Φ A m cc)) (C : Hid (∀ W, Below w.heap.size w W -> w.heap.size + 2 <= W.heap.size -> Calls Tryz.prog 39 #[R, .agg #[.int .i64 i, .int .i64 g], .int .i64 kk] W fun e w' => ∃ A m cc, e = .returned (.tuple #[.slice A m cc, .int .i64 z]) /\ Φ A m cc w' /\ Kp w.heap.size W w')) :
  Calls Tryz.prog 13 #[R, .agg (seC 4 i g kk DA dn dc)] w fun e w' => ∃ A m cc, e = .returned (.tuple #[.agg #[.int .i64 0, .int .i64 0], .slice A m cc, .int .i64 z]) /\ Φ A m cc w' := by
 obtain ⟨w1, hw1, hb1, r1, r2⟩ := do_start w 4 i g kk DA dn dc
 have C1 := hi_ (C.out w1 hb1 (Nat.succ_le_of_lt r2.lt))
 have k0 := r1.at_ 0
 have k1 := r1.at_ 1
 have k2 := r1.at_ 2
 have k3 := r1.at_ 3
 have k4 := r1.at_ 4
 have R2 := hi_ r2
 clear hb1 r1 r2 C
 go_enter Tryz.func13, Tryz.ntmps13
 go_wp2_with (first
  | (rw [<- hw1]; clear hw1)
  | (go_at_call 39; refine C1.out.mono ?_; rintro e w2 ⟨RA, rm, rc, rfl, hp, hk⟩; have HP := hi_ (And.intro hp hk); clear hp hk k0 k1 k2 k3 k4)
  | (go_at_call 26; refine (ecode_any _ _).mono ?_; rintro e w' ⟨rfl, rfl⟩)
  | ((with_reducible refine wpList_stP rfl (.tmp 4) (.tmp 56) rfl rfl rfl (R2.out.kp HP.out.2 (by omega)) ?_); intro w5 hR5 hF5))
 refine bodyPost_ret (res_cttE rfl rfl (hR5.load idT rfl)) rfl ?_
 exact ⟨RA, rm, rc, rfl, (hΦ _ _ _).put _ _ HP.out.1 hF5⟩
theorem do_0 (d : Int) (h1 : d ≠ 1) (h2 : d ≠ 2) (h3 : d ≠ 3) (h4 : d ≠ 4) (i2 g2 : Int) {Φ : World -> Prop} (hΦ : Stb (w.heap.size + 1) Φ) (C : Hid (∀ W, Below w.heap.size w W -> w.heap.size + 2 <= W.heap.size -> Calls Tryz.prog 29 #[R] W fun e w' => e = .returned (.tuple #[.agg #[.int .i64 i2, .int .i64 g2], .int .i64 z]) /\ Φ w' /\ Kp w.heap.size W w')) :
  Calls Tryz.prog 13 #[R, .agg (seC d i g kk DA dn dc)] w fun e w' => e = .returned (.tuple #[.agg #[.int .i64 i2, .int .i64 g2], .slice none 0 0, .int .i64 z]) /\ Φ w' := by
 obtain ⟨w1, hw1, hb1, r1, r2⟩ := do_start w d i g kk DA dn dc
 have C1 := hi_ (C.out w1 hb1 (Nat.succ_le_of_lt r2.lt))
 have k0 := r1.at_ 0
 have k1 := r1.at_ 1
 have k2 := r1.at_ 2
 have k3 := r1.at_ 3
 have k4 := r1.at_ 4
 have R2 := hi_ r2
 clear hb1 r1 r2 C
 have d1 : decide (d = 1) = false := decide_eq_false h1
 have d2 : decide (d = 2) = false := decide_eq_false h2
 have d3 : decide (d = 3) = false := decide_eq_false h3
 have d4 : decide (d = 4) = false := decide_eq_false h4
 go_enter Tryz.func13, Tryz.ntmps13
 go_upto_region 11 with (first
  | (rw [<- hw1]; clear hw1)
  | (go_at_call 29; refine C1.out.mono ?_; rintro e w2 ⟨rfl, hp, hk⟩; have HP := hi_ (And.intro hp hk); obtain ⟨w3, hw3⟩ : ∃ w3, w3 = w2.alloc (.cells #[.int .i64 0, .int .i64 0] 39) := ⟨_, rfl⟩; have R3 := hi_ (show Rec 39 w3 w2.heap.size #[.int .i64 0, .int .i64 0] by rw [hw3]; exact Rec.new w2 _ _); have HB3 := hi_ (show Below w2.heap.size w2 w3 by rw [hw3]; exact (Below.refl _ _).alloc (Nat.le_refl _) _); clear hp hk k0 k1 k2 k3 k4)
  | (rw [<- hw3]; clear hw3)
  | ((with_reducible refine wpList_stP rfl (.tmp 9) (.tmp 63) rfl rfl rfl R3.out ?_); intro w4 hR4 hF4; have HR4 := hi_ (And.intro hR4 hF4); clear hR4 hF4))
 obtain ⟨m4', hF4⟩ := HR4.out
 have m4 : Rec 39 w4.drew w2.heap.size #[.int .i64 i2, .int .i64 g2] := m4'
 have hb4 : Below w2.heap.size w2 w4 := HB3.out.trans (hF4.toBelow (fun y hy => by rw [show y = w2.heap.size from hy]; exact Nat.le_refl _) HB3.out.size)
 have R4 := hi_ (show Rec 39 w4.drew (w.heap.size + 1) #[.int .i64 0, .int .i64 0] from (R2.out.kp HP.out.2 (by omega)).under (show Below w2.heap.size w2 w4.drew from hb4.drew))
 have HP4 := hi_ (hΦ.more _ _ HP.out.1 (show Below w2.heap.size w2 w4.drew from hb4.drew))
 have s4 : w4.drew.cell? ⟨w2.heap.size, 0, none⟩ = some (.int .i64 i2) /\ w4.drew.cell? ⟨w2.heap.size, 1, none⟩ = some (.int .i64 g2) := ⟨m4.at_ 0, m4.at_ 1⟩
 clear hF4 hb4 m4'
 refine wp_region_noPanic ?_
 refine wp_region_held_drew (S := fun W => W.cell? ⟨w2.heap.size, 0, none⟩ = some (.int .i64 i2) /\ W.cell? ⟨w2.heap.size, 1, none⟩ = some (.int .i64 g2)) (by kernel_rfl) s4 (fun hHeld => ?_)
 refine wpAnyH_take (i := 0) (oi := ⟨some 65, .load 39 (.tmp 9), 39, "law.go:43", #[], none⟩) (v := ?_) rfl (by kernel_rfl) (by kernel_rfl) (by kernel_rfl) (fun _ _ _ h => h) (Or.inl ⟨by rfl, ?_⟩) (by assumption) ?_
 rotate_left 1
 ·intro w' hSw; (try dsimp only at hSw); go_simp; (try with_reducible rfl)
 simp only [Act.put, sA_, sB_, sC_]
 refine wpAnyH_take (i := 1) (oi := ⟨some 66, .move (.tmp 10), 60, "law.go:43", #[], none⟩) (v := ?_) rfl (by kernel_rfl) (by kernel_rfl) (by kernel_rfl) (fun _ _ _ h => h) (Or.inl ⟨by rfl, ?_⟩) (by assumption) ?_
 rotate_left 1
 ·intro w' hSw; (try dsimp only at hSw); go_simp; (try with_reducible rfl)
 simp only [Act.put, sA_, sB_, sC_]
 refine wpAnyH_ready (rs := [2]) (by kernel_rfl) (by simp) ?_
 refine AllReadyH.cons (o := ⟨some 67, .call { callee := .value (.func 26), args := #[.tmp 66], argTypes := #[60] }, 3, "law.go:43", #[⟨1, .data⟩], none⟩) rfl (fun K' hK => ?_) AllReadyH.nil
 go_simp
 go_at_call 26; refine (ecode_any _ _).mono ?_; rintro e w' ⟨rfl, rfl⟩
 refine hK.out _ _ s4 (fun hHeld => ?_)
 clear hK K'
 try simp only [Act.put, sA_, sB_, sC_]
 refine wpAnyH_ready (rs := [3]) (by kernel_rfl) (by simp) ?_
 refine AllReadyH.cons (o := ⟨none, .store 39 (.tmp 4) (.tmp 65), 0, "law.go:43", #[⟨0, .data⟩, ⟨2, .chain⟩, ⟨0, .phase⟩, ⟨1, .textOnly .lateStores⟩, ⟨2, .textOnly .lateStoresUnsure⟩], none⟩) rfl (fun K' hK => ?_) AllReadyH.nil
 refine step_stS (cs' := #[.int .i64 i2, .int .i64 g2]) idT rfl rfl (by simp [Value.oneCell']) rfl (.tmp 4) (.tmp 65) rfl rfl rfl R4.out ?_
 intro w5 hR5 hF5
 have m5 := Rec.fr (w := w4.drew) m4 hF5 (fun e => by have e' : w2.heap.size = w.heap.size + 1 := e; have := R2.out.lt; have := HP.out.2.size; omega)
 have s5 : w5.cell? ⟨w2.heap.size, 0, none⟩ = some (.int .i64 i2) /\ w5.cell? ⟨w2.heap.size, 1, none⟩ = some (.int .i64 g2) := ⟨m5.at_ 0, m5.at_ 1⟩
 refine hK.out _ _ s5 (fun hHeld => ?_)
 clear hK K'
 try simp only [Act.put]
 refine wpAnyH_take (i := 4) (oi := ⟨some 5, .assign (.const (.slice none 0 0)), 40, "law.go:43", #[⟨3, .chain⟩, ⟨0, .phase⟩, ⟨1, .textOnly .lateStores⟩, ⟨2, .textOnly .lateStoresUnsure⟩, ⟨3, .phase⟩], none⟩) (v := ?_) rfl (by kernel_rfl) (by kernel_rfl) (by kernel_rfl) (fun _ _ _ h => h) (Or.inl ⟨by rfl, ?_⟩) (by assumption) ?_
 rotate_left 1
 ·intro w' hSw; (try dsimp only at hSw); go_simp; (try with_reducible rfl)
 simp only [Act.put, sA_, sB_, sC_]
 refine wpAnyH_take (i := 5) (oi := ⟨some 6, .assign (.tmp 67), 3, "law.go:43", #[⟨2, .data⟩, ⟨4, .chain⟩, ⟨0, .phase⟩, ⟨1, .phase⟩, ⟨2, .phase⟩, ⟨3, .phase⟩, ⟨4, .phase⟩], none⟩) (v := ?_) rfl (by kernel_rfl) (by kernel_rfl) (by kernel_rfl) (fun _ _ _ h => h) (Or.inl ⟨by rfl, ?_⟩) (by assumption) ?_
 rotate_left 1
 ·intro w' hSw; (try dsimp only at hSw); go_simp; (try with_reducible rfl)
 simp only [Act.put, sA_, sB_, sC_]
 refine wpAnyH_done (by kernel_rfl) ?_ _
 refine NoPanic.normal ?_
 clear hHeld s4 s5 m4
 go_wp2
 refine bodyPost_ret (res_cttE rfl rfl (hR5.load idT rfl)) rfl ?_
 exact ⟨rfl, hΦ.put _ _ HP4.out hF5⟩
end
end Go.Proofs.YthiknmhkdeicjaaGreatDoor
