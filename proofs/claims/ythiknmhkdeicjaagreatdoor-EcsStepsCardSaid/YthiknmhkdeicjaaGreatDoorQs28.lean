/- EcW -/
import Derived.Test.YthiknmhkdeicjaaGreatDoorQs1
import Derived.Test.YthiknmhkdeicjaaGreatDoorQs3
import Derived.Test.YthiknmhkdeicjaaGreatDoorQs17
import Derived.Test.YthiknmhkdeicjaaGreatDoorQs27
namespace Go.Proofs.YthiknmhkdeicjaaGreatDoor
open Go.RowKit
set_option maxRecDepth 20000
section
variable {w0 : World} {N : Nat} {x : Fx} {g10 j : Nat} {k : Ks} {gr pt : Nat -> Nat} {c : Nat} {s : Es} {d : Rst} {W W' : World}
theorem LI.below (h : LI w0 N x g10 j k gr pt c s d W) (hN : N <= W.heap.size) (hb : Below W.heap.size W W') : LI w0 N x g10 j k gr pt c s d W' :=
 { h with co := h.co.below hb, st := h.st.below hb, r10 := h.r10.under hb, b := h.b.trans (hb.mono hN) }
end
theorem XR.of {x : Fx} {lg pg en gn : Int} {n : Nat} {ks : List Kd} (h : x.Of lg pg en gn n ks) (hn : ks.length = n) (hR : (Cf.mk lg pg en gn ks).Right) : XR x := by
 have hb := hR.1
 refine ⟨by rw [h.n, h.ks, hn], ?_, by rw [h.ks]; exact hR.2.2.2⟩
 rw [h.n, <- hn]
 exact hb.2.2.2.2
theorem NS.new_EL {en gn : Int} (h1 : 1 <= en /\ en <= 1024) (h2 : 1 <= gn /\ gn <= 1073741824) : en = ((NS.new en gn).E : Int) /\ gn = (NS.new en gn).L := by
 constructor
 ·show en = ((nears en 1024).toNat : Int)
  unfold nears
  omega
 ·show gn = nears gn 1073741824
  unfold nears
  omega
section
variable (lg pg en gn : Int) (A : Option Addr) (n cap : Nat) (ks : List Kd) (LA : Option Addr) (ln lcap : Nat) (st : List Est) (wi wo : Nat) (w : World)
theorem law_start : ∃ w1, w1 = w.alloc (.cells (cc lg pg en gn A n cap) 24) /\ Below w.heap.size w w1 /\ Rec 24 w1 w.heap.size (cc lg pg en gn A n cap) := ⟨_, rfl, (Below.refl _ _).alloc (Nat.le_refl _) _, Rec.new w _ _⟩
theorem EcsSteps_much (h : KRd w A n ks) (hn : n <= 9223372036854775807) (hl : Lens ks) (hT : TabAt w) (hm : muchK ks = true) :
  Calls Tryz.prog 3 #[cv lg pg en gn A n cap, .slice LA ln lcap, .int .u64 wi, .int .u64 wo] w fun e w' => e = .returned (.bool true) /\ Below w.heap.size w w' := by
 obtain ⟨w1, hw1, hb1, r1⟩ := law_start lg pg en gn A n cap w
 have CM := Much_any lg pg en gn A n cap ks w1 (h.below hb1) hn hl
 rw [hm] at CM
 have CM := hi_ CM
 have HR := hi_ (And.intro r1 (And.intro hb1 hT))
 clear h hb1 r1 hT hm
 go_enter Tryz.func3, Tryz.ntmps3
 go_wp2_with (first
  | (rw [<- hw1]; clear hw1)
  | ((with_reducible refine wpList_ldS confT rfl rfl (.tmp 4) rfl rfl HR.out.1 ?_))
  | (go_at_call 6; refine CM.out.mono ?_; rintro e w2 ⟨rfl, hb2⟩; have HB2 := hi_ (HR.out.2.1.trans (hb2.mono HR.out.2.1.size)); clear hb2)
  | (go_at_call 8; refine (elive_any w2 (HR.out.2.2.below HB2.out)).mono ?_; rintro e w3 ⟨rfl, hb3⟩; have HB3 := hi_ hb3; clear hb3))
 go_ret
 exact ⟨rfl, HB2.out.trans (HB3.out.mono HB2.out.size)⟩
set_option maxHeartbeats 8000000 in
theorem EcsSteps_walk (h : KRd w A n ks) (hn : n <= 9223372036854775807) (hl : Lens ks) (hs : EstR w LA ln st) (hln : ln <= 9223372036854775807) (hwi : wi < 18446744073709551616) (hwo : wo < 18446744073709551616) (hT : TabAt w) :
  Calls Tryz.prog 3 #[cv lg pg en gn A n cap, .slice LA ln lcap, .int .u64 wi, .int .u64 wo] w fun e w' => e = .returned (.bool true) /\ Below w.heap.size w w' := by
 by_cases hm : muchK ks = true
 ·exact EcsSteps_much lg pg en gn A n cap ks LA ln lcap wi wo w h hn hl hT hm
 have hm : muchK ks = false := Bool.eq_false_iff.2 hm
 have hn40 : n <= 1000000 := by
  have h1 := h.1
  have h2 := (muchK_no hm).1
  omega
 obtain ⟨w1, hw1, hb1, r1⟩ := law_start lg pg en gn A n cap w
 have CM := Much_any lg pg en gn A n cap ks w1 (h.below hb1) hn hl
 rw [hm] at CM
 have CM := hi_ CM
 have HS := hi_ hs
 have CE : Hid (∀ W, Below w.heap.size w W -> Calls Tryz.prog 7 #[.slice LA ln lcap] W (EMuch ln st W)) := hi_ fun W hW => EMuch_any W LA ln lcap st (HS.out.below hW) hln
 have HR := hi_ (And.intro r1 (And.intro hb1 hT))
 have HK := hi_ (And.intro h (And.intro hn40 hl))
 clear h hn hb1 r1 hT hm hs hl hn40
 go_enter Tryz.func3, Tryz.ntmps3
 go_wp2_with (first
  | (rw [<- hw1]; clear hw1)
  | ((with_reducible refine wpList_ldS confT rfl rfl (.tmp 4) rfl rfl HR.out.1 ?_))
  | (go_at_call 6; refine CM.out.mono ?_; rintro e w2 ⟨rfl, hb2⟩; have HB2 := hi_ (And.intro (HR.out.2.1.trans (hb2.mono HR.out.2.1.size)) (HR.out.1.under hb2)); clear hb2))
 refine (CE.out w2 HB2.out.1).mono ?_
 rintro e _ ⟨rfl, r, rfl, hr⟩
 have HT2 := hi_ (HR.out.2.2.below HB2.out.1)
 clear CM CE
 cases r with
 | true =>
  go_wp2_with (go_at_call 8; refine (elive_any w2 HT2.out).mono ?_; rintro e w3 ⟨rfl, hb3⟩; have HB3 := hi_ hb3; clear hb3)
  go_ret
  exact ⟨rfl, HB2.out.1.trans (HB3.out.mono HB2.out.1.size)⟩
 | false =>
 have hln60 := (hr rfl).1
 clear hr
 obtain ⟨hk, hn6, hlen⟩ := HK.out
 have CR : Hid (∀ W, Below w.heap.size w W -> Calls Tryz.prog 10 #[cv lg pg en gn A n cap] W fun e w' => e = .returned (.bool (decide (Cf.mk lg pg en gn ks).Right)) /\ Below W.heap.size W w') := hi_ fun W hW => RRight_any lg pg en gn A n cap ks W (HK.out.1.below hW) HK.out.2.1 HK.out.2.2
 by_cases hR : (Cf.mk lg pg en gn ks).Right
 case neg =>
  rw [decide_eq_false hR] at CR
  have CN := hi_ (enew_no lg pg en gn A n cap ks w2 (hk.below HB2.out.1) hn6 hlen hR)
  clear hk hn6 hlen hR
  go_wp2_with (first
   | ((with_reducible refine wpList_ldS confT rfl rfl (.tmp 4) rfl rfl HB2.out.2 ?_))
   | (go_at_call 9; refine CN.out.mono ?_; rintro e w3 ⟨rfl, hb3⟩; have HB3 := hi_ (And.intro (HB2.out.1.trans (hb3.mono HB2.out.1.size)) (HB2.out.2.under hb3)); clear hb3)
   | ((with_reducible refine wpList_ldS confT rfl rfl (.tmp 4) rfl rfl HB3.out.2 ?_))
   | (go_at_call 10; refine (CR.out w3 HB3.out.1).mono ?_; rintro e w4 ⟨rfl, hb4⟩; have HB4 := hi_ (HB3.out.1.trans (hb4.mono HB3.out.1.size)); clear hb4)
   | (go_at_call 8; refine (elive_any w4 (HR.out.2.2.below HB4.out)).mono ?_; rintro e w5 ⟨rfl, hb5⟩; have HB5 := hi_ hb5; clear hb5))
  go_ret
  exact ⟨rfl, HB4.out.trans (HB5.out.mono HB4.out.size)⟩
 rw [decide_eq_true hR] at CR
 have CN := hi_ (enew_yes lg pg en gn A n cap ks w2 (hk.below HB2.out.1) hn6 hlen hR)
 have HRI := hi_ hR
 clear hk hn6 hlen hR
 go_upto_region 6 with (first
  | ((with_reducible refine wpList_ldS confT rfl rfl (.tmp 4) rfl rfl HB2.out.2 ?_))
  | (go_at_call 9; refine CN.out.mono ?_; rintro e w3 ⟨x, gr0, rfl, hOf, hC3, hb3⟩; have HB3 := hi_ (And.intro (HB2.out.1.trans (hb3.mono HB2.out.1.size)) (And.intro (HB2.out.2.under hb3) (And.intro hb3 (And.intro hOf hC3)))); clear hb3 hOf hC3)
  | ((with_reducible refine wpList_ldS confT rfl rfl (.tmp 4) rfl rfl HB3.out.2.1 ?_))
  | (go_at_call 10; refine (CR.out w3 HB3.out.1).mono ?_; rintro e w4 ⟨rfl, hb4⟩; have HB4 := hi_ hb4; clear hb4))
 obtain ⟨hbw3, rC3, hb23, hOf, hC3⟩ := HB3.out
 have hb4 := HB4.out
 have hC4 := hC3.below hb4
 have HX : Hid (XR x) := hi_ (XR.of hOf HK.out.1.1 HRI.out)
 have hxks := hOf.ks
 have hx6 : x.n <= 1000000 := by rw [hOf.n]; exact HK.out.2.1
 have CCF : Hid (∀ W, Below w4.heap.size w4 W -> Calls Tryz.prog 12 #[.pointer (some ⟨x.p, 0, none⟩)] W fun e w' => ∃ A' c', e = .returned (cv lg pg en gn A' n c') /\ KRd w' A' n ks /\ Below W.heap.size W w') := hi_ fun W hW => by
  have := econf_yes (hC4.below hW) hx6
  rw [hOf.lg, hOf.ps, hOf.en, hOf.gn, hOf.n, hOf.ks] at this
  exact this
 have HBW4 := hi_ (And.intro (hbw3.trans (hb4.mono hbw3.size)) (And.intro (rC3.under hb4) (hb23.trans (hb4.mono hb23.size))))
 have CSA : Hid (∀ (W : World) (A' : Option Addr) (c' : Nat), Below w4.heap.size w4 W -> KRd W A' n ks -> Calls Tryz.prog 11 #[cv lg pg en gn A' n c', cv lg pg en gn A n cap] W fun e w' => e = .returned (.bool true) /\ Below W.heap.size W w') := hi_ fun W A' c' hW hA => RSame_yes lg pg en gn A' n c' ks W A cap hA (HK.out.1.below (HBW4.out.1.trans (hW.mono HBW4.out.1.size))) HK.out.2.1
 have SC : Hid (∀ W, Below w4.heap.size w4 W -> (W.cell? ⟨w.heap.size, 0, none⟩ = some (.int .i64 lg) /\ W.cell? ⟨w.heap.size, 1, none⟩ = some (.int .i64 pg) /\ W.cell? ⟨w.heap.size, 2, none⟩ = some (.int .i64 en) /\ W.cell? ⟨w.heap.size, 3, none⟩ = some (.int .i64 gn) /\ W.cell? ⟨w.heap.size, 4, none⟩ = some (.slice A n cap))) := hi_ fun W hW => by
  have b0 := HBW4.out.2.1.under hW
  exact ⟨b0.at_ 0, b0.at_ 1, b0.at_ 2, b0.at_ 3, b0.at_ 4⟩
 have BD4 : Hid (Below w4.heap.size w4 w4.drew) := hi_ (Below.refl _ _).drew
 have s4 := SC.out _ BD4.out
 have HC4 := hi_ (And.intro hC4 (And.intro hOf hx6))
 clear hbw3 rC3 hb23 hOf hC3 hb4 hC4 hxks hx6 CN CR
 refine wp_region_noPanic ?_
 refine wp_region_held_drew (S := fun W => W.cell? ⟨w.heap.size, 0, none⟩ = some (.int .i64 lg) /\ W.cell? ⟨w.heap.size, 1, none⟩ = some (.int .i64 pg) /\ W.cell? ⟨w.heap.size, 2, none⟩ = some (.int .i64 en) /\ W.cell? ⟨w.heap.size, 3, none⟩ = some (.int .i64 gn) /\ W.cell? ⟨w.heap.size, 4, none⟩ = some (.slice A n cap)) (by kernel_rfl) s4 (fun hHeld => ?_)
 refine wpAnyH_take (i := 0) (oi := ⟨some 36, .move (.tmp 9), 30, "law.go:55", #[], none⟩) (v := ?_) rfl (by kernel_rfl) (by kernel_rfl) (by kernel_rfl) (fun _ _ _ h => h) (Or.inl ⟨by rfl, ?_⟩) (by assumption) ?_
 rotate_left 1
 ·intro w' hSw; (try dsimp only at hSw); go_simp; (try with_reducible rfl)
 simp only [Act.put, sA_, sB_, sC_]
 refine wpAnyH_take (i := 1) (oi := ⟨some 37, .binOp .eql 30 (.tmp 36) (.const (.pointer none)) 30, 4, "law.go:55", #[⟨0, .data⟩], none⟩) (v := ?_) rfl (by kernel_rfl) (by kernel_rfl) (by kernel_rfl) (fun _ _ _ h => h) (Or.inl ⟨by rfl, ?_⟩) (by assumption) ?_
 rotate_left 1
 ·intro w' hSw; (try dsimp only at hSw); go_simp; (try with_reducible rfl)
 simp only [Act.put, sA_, sB_, sC_]
 refine wpAnyH_take (i := 2) (oi := ⟨some 38, .move (.tmp 37), 4, "law.go:55", #[⟨1, .data⟩], none⟩) (v := ?_) rfl (by kernel_rfl) (by kernel_rfl) (by kernel_rfl) (fun _ _ _ h => h) (Or.inl ⟨by rfl, ?_⟩) (by assumption) ?_
 rotate_left 1
 ·intro w' hSw; (try dsimp only at hSw); go_simp; (try with_reducible rfl)
 simp only [Act.put, sA_, sB_, sC_]
 refine wpAnyH_take (i := 3) (oi := ⟨some 39, .move (.tmp 9), 30, "law.go:55", #[⟨2, .guard⟩], some (2, false)⟩) (v := ?_) rfl (by kernel_rfl) (by kernel_rfl) (by kernel_rfl) (fun _ _ _ h => h) (Or.inl ⟨by rfl, ?_⟩) (by assumption) ?_
 rotate_left 1
 ·intro w' hSw; (try dsimp only at hSw); go_simp; (try with_reducible rfl)
 simp only [Act.put, sA_, sB_, sC_]
 refine wpAnyH_take (i := 5) (oi := ⟨some 41, .load 24 (.tmp 4), 24, "law.go:55", #[⟨2, .guard⟩], some (2, false)⟩) (v := ?_) rfl (by kernel_rfl) (by kernel_rfl) (by kernel_rfl) (fun _ _ _ h => h) (Or.inl ⟨by rfl, ?_⟩) (by assumption) ?_
 rotate_left 1
 ·intro w' hSw; (try dsimp only at hSw); go_simp; (try with_reducible rfl)
 simp only [Act.put, sA_, sB_, sC_]
 refine wpAnyH_ready (rs := [4]) (by kernel_rfl) (by simp) ?_
 refine AllReadyH.cons (o := ⟨some 40, .call { callee := .value (.func 12), args := #[.tmp 39], argTypes := #[30] }, 24, "law.go:55", #[⟨3, .data⟩, ⟨2, .chain⟩, ⟨2, .guard⟩], some (2, false)⟩) rfl (fun K' hK => ?_) AllReadyH.nil
 go_simp
 go_at_call 12; refine (CCF.out _ BD4.out).mono ?_; rintro e w5 ⟨A5, c5, rfl, hk5, hb5⟩
 have H5 := hi_ (And.intro hk5 (BD4.out.trans (hb5.mono BD4.out.size)))
 have s5 := SC.out w5 H5.out.2
 clear hk5 hb5
 refine hK.out _ _ s5 (fun hHeld => ?_)
 clear hK K'
 try simp only [Act.put, sA_, sB_, sC_]
 refine wpAnyH_ready (rs := [6]) (by kernel_rfl) (by simp) ?_
 refine AllReadyH.cons (o := ⟨some 42, .call { callee := .value (.func 11), args := #[.tmp 40, .tmp 41], argTypes := #[24, 24] }, 4, "law.go:55", #[⟨4, .data⟩, ⟨5, .data⟩, ⟨4, .chain⟩, ⟨2, .guard⟩], some (2, false)⟩) rfl (fun K' hK => ?_) AllReadyH.nil
 go_simp
 go_at_call 11; refine (CSA.out w5 A5 c5 H5.out.2 H5.out.1).mono ?_; rintro e w6 ⟨rfl, hb6⟩
 have H6 := hi_ (H5.out.2.trans (hb6.mono H5.out.2.size))
 have s6 := SC.out w6 H6.out
 clear hb6
 refine hK.out _ _ s6 (fun hHeld => ?_)
 clear hK K'
 try simp only [Act.put, sA_, sB_, sC_]
 refine wpAnyH_take (i := 7) (oi := ⟨some 43, .unOp .not 4 (.tmp 42), 4, "law.go:55", #[⟨6, .data⟩, ⟨2, .guard⟩], some (2, false)⟩) (v := ?_) rfl (by kernel_rfl) (by kernel_rfl) (by kernel_rfl) (fun _ _ _ h => h) (Or.inl ⟨by rfl, ?_⟩) (by assumption) ?_
 rotate_left 1
 ·intro w' hSw; (try dsimp only at hSw); go_simp; (try with_reducible rfl)
 simp only [Act.put, sA_, sB_, sC_]
 refine wpAnyH_take (i := 8) (oi := ⟨some 44, .pick (.tmp 38) (.const (.bool true)) (.tmp 43), 4, "law.go:55", #[⟨2, .data⟩, ⟨7, .data⟩], none⟩) (v := ?_) rfl (by kernel_rfl) (by kernel_rfl) (by kernel_rfl) (fun _ _ _ h => h) (Or.inl ⟨by rfl, ?_⟩) (by assumption) ?_
 rotate_left 1
 ·intro w' hSw; (try dsimp only at hSw); go_simp; (try with_reducible rfl)
 simp only [Act.put, sA_, sB_, sC_]
 refine wpAnyH_done (by kernel_rfl) ?_ _
 refine NoPanic.normal ?_
 clear hHeld s4 s5 s6
 obtain ⟨w7, hw7⟩ : ∃ W, W = w6.alloc (.cells stZ 37) := ⟨_, rfl⟩
 obtain ⟨g10, hg10⟩ : ∃ g, g = w6.heap.size := ⟨_, rfl⟩
 have HB7 : Hid (Below w4.heap.size w4 w7) := hi_ (H6.out.trans (show Below w4.heap.size w6 w7 by rw [hw7]; exact (Below.refl _ _).alloc H6.out.size _))
 have HR10 : Hid (Rec 37 w7 g10 stZ /\ w4.heap.size <= g10) := hi_ ⟨by rw [hw7, hg10]; exact Rec.new w6 _ _, by rw [hg10]; exact H6.out.size⟩
 have HG10 := hi_ hg10
 clear CCF CSA SC BD4 H5
 go_wp2_with (rw [<- hw7, <- HG10.out]; clear hw7)
 clear hg10 HG10
 have HEL : Hid (en = ((NS.new en gn).E : Int) /\ gn = (NS.new en gn).L) := hi_ (NS.new_EL HRI.out.1.2.2.1 HRI.out.1.2.2.2.1)
 have HBW : Hid (Below w.heap.size w w7 /\ Below w2.heap.size w2 w7 /\ Rec 24 w7 w.heap.size (cc lg pg en gn A n cap)) := hi_ ⟨HBW4.out.1.trans (HB7.out.mono HBW4.out.1.size), HBW4.out.2.2.trans (HB7.out.mono HBW4.out.2.2.size), HBW4.out.2.1.under HB7.out⟩
 go_loopw [11] (fun iv wr => ∃ (j : Nat) (k : Ks) (gr pt : Nat -> Nat) (c : Nat) (s : Es) (d : Rst), j <= ln /\ iv = .int .i64 j /\ LI w2 w2.heap.size x g10 j k gr pt c s d wr /\ (s.ns.E = (NS.new en gn).E /\ s.ns.L = (NS.new en gn).L /\ Rec 24 wr w.heap.size (cc lg pg en gn A n cap))) (fun iv _ => ln - (intOf iv).toNat)
 case atStart =>
  obtain ⟨hC4, hOf, hx6⟩ := HC4.out
  refine ⟨0, ks0 (NS.new en gn), gr0, fun _ => 0, 0, ⟨NS.new en gn, []⟩, Rst.z, Nat.zero_le _, rfl, ⟨hC4.below HB7.out, Sim.start en gn, RSt.zero _ _ _ rfl rfl, HR10.out.1, Classical.byContradiction fun hh => ?_, Nat.le_refl _, Nat.le_refl _, Nat.le_refl _, HBW.out.2.1⟩, rfl, rfl, HBW.out.2.2⟩
  have h1 := HB3.out.2.2.2.2.dom _ hh
  have h2 := HB4.out.size
  have h3 := HR10.out.2
  omega
 case round =>
  obtain ⟨j, k, gr, pt, c, s, d, hj, rfl, hLI, hEE, hLL, hrC⟩ := hrel
  obtain ⟨hC, hSim, hSt, hr10, hg0, hc4, hS1, hel, hB2⟩ := hLI
  obtain ⟨hC4', hOf, hx6⟩ := HC4.out
  have hxks := hOf.ks
  have hbw : Below w.heap.size w wr := HB2.out.1.trans (hB2.mono HB2.out.1.size)
  have hTN : TabN w2.heap.size wr := (TabAt.N HT2.out (Nat.le_refl _)).low hB2
  have hN2 := HB2.out.1.size
  have hCs := hrC.lt
  by_cases hlt : j < ln
  ·obtain ⟨lb, lo, y, hLA, hlb, hy, hyok, hyc⟩ := (HS.out.below hbw).at_ hlt
   subst hLA
   obtain ⟨sd, si, sg, sk, SA, sn, sc, sb⟩ := y
   have hyw : EstOk (· < w.heap.size) w ⟨sd, si, sg, sk, SA, sn, sc, sb⟩ := HS.out.2.2 _ (List.mem_of_getElem? hy)
   have hgw : ∀ y, y < w.heap.size -> gr y = 0 := fun y hy => Classical.byContradiction fun hh => by have := hC.lo _ hh; omega
   have hlbw : lb < w.heap.size := by
    obtain ⟨b', o', e', h', _⟩ := HS.out.2.1 (by omega)
    injection e' with e'
    injection e' with e1 _
    omega
   obtain ⟨s', id2, data, z2, ho⟩ : ∃ s' id2 data z2, s.go (szX ks) ⟨sd, (si, sg), sk, sb⟩ = (s', id2, data, z2) := ⟨_, _, _, _, rfl⟩
   obtain ⟨i2, g2⟩ := id2
   have hkp := s.go_keep (szX ks) ⟨sd, (si, sg), sk, sb⟩
   have hok' := (hSim.ok).go ⟨sd, (si, sg), sk, sb⟩
   rw [hxks] at hok'
   rw [ho] at hkp hok'
   have CD := edo_any hC hSim HX.out hTN (by omega) (by omega) (by omega) sd si sg sk SA sn sc (K := (· < w.heap.size)) (b := sb) (hyw.below hbw) hgw
   rw [hxks, ho] at CD
   have CD := hi_ CD
   have hstep : ∀ W, Below wr.heap.size wr W -> ∀ i u, (seC sd si sg sk SA sn sc)[i]? = some u -> W.cell? ⟨lb, lo + j * 5 + i, none⟩ = some u := fun W hW i u hu => (hW.cell (p := ⟨lb, lo + j * 5 + i, none⟩) hlb).trans (hyc i u hu)
   have HSTP := hi_ hstep
   have HC5 : Hid (∀ i v, (seC sd si sg sk SA sn sc).toList[i]? = some v -> wr.cell? ⟨lb, lo + j * 5 + i, none⟩ = some v) := hi_ fun i v hv => hstep wr (Below.refl _ _) i v (by rw [<- hv]; simp)
   have HW := hi_ (And.intro hC (And.intro hSim (And.intro hSt (And.intro hr10 (And.intro hg0 (And.intro hc4 (And.intro hS1 (And.intro hel (And.intro hB2 (And.intro hEE (And.intro hLL hrC)))))))))))
   have HY := hi_ (And.intro hbw (And.intro hTN (And.intro hyw (And.intro hkp (And.intro hok' (And.intro hN2 (And.intro hCs hlbw)))))))
   have HOF := hi_ (And.intro hxks hx6)
   have HO := hi_ ho
   clear hC hSim hSt hr10 hg0 hc4 hS1 hel hB2 hEE hLL hrC hC4' hOf hx6 hxks hbw hTN hN2 hCs hlb hy hyok hyc hyw hgw hlbw ho hkp hok' hstep
   go_upto_region 13 with (first
    | ((with_reducible refine wpList_ldStp (cs := [.int .i64 sd, .int .i64 si, .int .i64 sg, .int .i64 sk, .slice SA sn sc]) rfl rfl (.tmp 55) rfl rfl HC5.out ?_))
    | (go_at_call 13; refine CD.out.mono ?_; rintro e wa ⟨DA1, dm1, dc1, rfl, hV1, k', gr', pt', hC', hS', hG', hz', hl'⟩; obtain ⟨wb, hwb⟩ : ∃ W, W = wa.alloc (.cells #[.int .i64 0, .int .i64 0] 39) := ⟨_, rfl⟩; have RB := hi_ (And.intro (show Rec 39 wb wa.heap.size #[.int .i64 0, .int .i64 0] by rw [hwb]; exact Rec.new wa _ _) (show Below wa.heap.size wa wb by rw [hwb]; exact (Below.refl _ _).alloc (Nat.le_refl _) _)); have HA := hi_ (And.intro hV1 (And.intro hC' (And.intro hS' (And.intro hG' hl')))); clear hV1 hC' hS' hG' hz' hl')
    | (rw [<- hwb]; clear hwb)
    | ((with_reducible refine wpList_stP rfl (.tmp 12) (.tmp 58) rfl rfl rfl RB.out.1 ?_); intro w4' hR4 hF4; have H4 := hi_ (And.intro hR4 hF4); clear hR4 hF4))
   obtain ⟨hR12, hF4⟩ := H4.out
   clear H4
   obtain ⟨hV1, hC', hS', hG', hl'⟩ := HA.out
   obtain ⟨hC, hSim, hSt, hr10, hg0, hc4, hS1, hel, hB2, hEE, hLL, hrC⟩ := HW.out
   obtain ⟨hbw, hTN, hyw, hkp, hok', hN2, hCs, hlbw⟩ := HY.out
   obtain ⟨g12, hg12⟩ : ∃ g, g = wa.heap.size := ⟨_, rfl⟩
   rw [<- hg12] at hR12 hF4
   rw [<- hg12]
   have hsa := hG'.fr.size
   have hrl := hr10.lt
   have hbs := RB.out.2.size
   have hga : ∀ y, gr y = 0 -> y < wr.heap.size -> gr' y = 0 := fun y h1 h2 => hG'.gr0 h1 h2
   have hgA : ∀ y, wa.heap.size <= y -> gr' y = 0 := fun y h1 => Classical.byContradiction fun hh => by have := hC'.dom _ hh; omega
   have hgC : gr w.heap.size = 0 := Classical.byContradiction fun hh => by have := hC.lo _ hh; have := HBW4.out.2.1.lt; have h3 := HB2.out.2.lt; omega
   have hFa : Fr (fun y => gr y ≠ 0 \/ y = g12) wr w4' := (hG'.fr.mono (fun y hy => .inl hy)).trans ((Fr.ofBelow _ RB.out.2).trans (hF4.mono (fun y hy => .inr hy)))
   have hC4 := (hC'.below RB.out.2).kept hF4 (fun y hy e => by have := hC'.dom _ hy; have e' : y = g12 := e; omega)
   have hSt4 : RSt (fun y => gr' y = 0 /\ y ≠ g10 /\ y < w4'.heap.size) w4' d s := (hSt.lt.stays ⟨hFa.size, fun y hy => hFa.block y hy.2 (fun e => by rcases e with e | e; exact e hy.1.1; omega)⟩).mono (fun y hy => ⟨hga y hy.1.1 hy.2, hy.1.2, Nat.lt_of_lt_of_le hy.2 hFa.size⟩)
   have hr4 : Rec 37 w4' g10 d.cs := hr10.fr hFa (fun e => by rcases e with e | e; exact e hg0; omega)
   have hrC4 : Rec 24 w4' w.heap.size (cc lg pg en gn A n cap) := hrC.fr hFa (fun e => by rcases e with e | e; exact e hgC; omega)
   have hV4 : VB (fun y => wr.heap.size <= y) w4' (.slice DA1 dm1 dc1) data := ((hV1.lt.below RB.out.2).stays ⟨hF4.size, fun y hy => hF4.block y (by have := hy.2; omega) (fun e => by have e' : y = g12 := e; have := hy.2; omega)⟩).mono (fun y hy => hy.1)
   have hB24 : Below w2.heap.size w2 w4' := hB2.trans (hFa.toBelow (fun y hy => by rcases hy with hy | hy; exact hC.lo _ hy; have := hC.Nle; omega) hC.Nle)
   have hbw4 : Below w.heap.size w w4' := HB2.out.1.trans (hB24.mono HB2.out.1.size)
   have hg40 : gr' g10 = 0 := hga _ hg0 hrl
   obtain ⟨GA, gn', gc, FA, fn, fc, EA, en', ec⟩ := d
   have HL4 : Hid (∀ W, Below w4'.heap.size w4' W -> (W.cell? ⟨w.heap.size, 0, none⟩ = some (.int .i64 lg) /\ W.cell? ⟨w.heap.size, 1, none⟩ = some (.int .i64 pg) /\ W.cell? ⟨w.heap.size, 2, none⟩ = some (.int .i64 en) /\ W.cell? ⟨w.heap.size, 3, none⟩ = some (.int .i64 gn) /\ W.cell? ⟨w.heap.size, 4, none⟩ = some (.slice A n cap)) /\ (W.cell? ⟨g10, 0, none⟩ = some (.slice GA gn' gc) /\ W.cell? ⟨g10, 1, none⟩ = some (.slice FA fn fc) /\ W.cell? ⟨g10, 2, none⟩ = some (.slice EA en' ec)) /\ W.cell? ⟨lb, lo + j * 5, none⟩ = some (.int .i64 sd) /\ W.cell? ⟨lb, lo + j * 5 + 1, none⟩ = some (.int .i64 si) /\ W.cell? ⟨lb, lo + j * 5 + 2, none⟩ = some (.int .i64 sg) /\ W.cell? ⟨lb, lo + j * 5 + 3, none⟩ = some (.int .i64 sk) /\ W.cell? ⟨lb, lo + j * 5 + 4, none⟩ = some (.slice SA sn sc)) := hi_ fun W hW => by
    have b0 := hrC4.under hW
    have b1 := hr4.under hW
    have hst : ∀ i u, (seC sd si sg sk SA sn sc)[i]? = some u -> W.cell? ⟨lb, lo + j * 5 + i, none⟩ = some u := fun i u hu => by
     have h1 := HSTP.out wr (Below.refl _ _) i u hu
     have h2 : w4'.cell? ⟨lb, lo + j * 5 + i, none⟩ = some u := (World.cell?_of_block (w := wr) (w' := w4') (a := ⟨lb, lo + j * 5 + i, none⟩) (hFa.block lb (World.block_lt_of_cell? wr _ h1) (fun e => by rcases e with e | e; exact e (Classical.byContradiction fun hh => by have := hC.lo _ hh; omega); have := hbw.size; omega))).trans h1
     exact (hW.cell (p := ⟨lb, lo + j * 5 + i, none⟩) (World.block_lt_of_cell? w4' _ h2)).trans h2
    exact ⟨⟨b0.at_ 0, b0.at_ 1, b0.at_ 2, b0.at_ 3, b0.at_ 4⟩, ⟨b1.at_ 0, b1.at_ 1, b1.at_ 2⟩, hst 0 _ rfl, hst 1 _ rfl, hst 2 _ rfl, hst 3 _ rfl, hst 4 _ rfl⟩
   have SS := HL4
   have CG : Hid (∀ W, Below w4'.heap.size w4' W -> Calls Tryz.prog 14 #[cv lg pg en gn A n cap, .agg (stC GA gn' gc FA fn fc EA en' ec), .agg (seC sd si sg sk SA sn sc)] W fun e w' => ∃ (d' : Rst) (DA : Option Addr) (dn dc : Nat), e = .returned (.tuple #[.agg d'.cs, .agg #[.int .i64 i2, .int .i64 g2], .slice DA dn dc, .int .i64 z2]) /\ RSt (fun y => (gr' y = 0 /\ y ≠ g10 /\ y < w4'.heap.size) \/ W.heap.size <= y) w' d' s' /\ VB (fun y => gr' y = 0 /\ y ≠ g10 /\ y < w4'.heap.size) w' (.slice DA dn dc) data /\ Below W.heap.size W w') := hi_ fun W hW => by
    have hgw : ∀ y, y < w.heap.size -> gr y = 0 := fun y hy => Classical.byContradiction fun hh => by have := hC.lo _ hh; omega
    have h10 := HR10.out.2
    have h44 := HBW4.out.1.size
    have hE0 : s.ents.length <= 1000000 := by omega
    have hen : en' <= 1000000 := by rw [show en' = s.ents.length from hSt4.en]; exact hE0
    have hok : s.Ok (szX ks) := by have := hSim.ok; rw [HOF.out.1] at this; exact this
    have hb1 : ks.length <= 32 := HRI.out.1.2.2.2.2
    have := REGo_any (K := fun y => gr' y = 0 /\ y ≠ g10 /\ y < w4'.heap.size) (cap := cap) (hSt4.below hW) hok hen (HK.out.1.below (hbw4.trans (hW.mono hbw4.size))) HK.out.2.1 HRI.out.2.2.2 (by omega) lg pg en gn (by rw [hEE]; exact HEL.out.1) (by rw [hLL]; exact HEL.out.2) sd si sg sk SA sn sc (b := sb) ((hyw.below (hbw4.trans (hW.mono hbw4.size))).v.mono (fun y hy => ⟨hga y (hgw y hy) (by have := hbw.size; have hy' : y < w.heap.size := hy; omega), by have hy' : y < w.heap.size := hy; omega, by have := hbw4.size; have hy' : y < w.heap.size := hy; omega⟩))
    rw [HO.out] at this
    exact this
   have hTN4 : TabN w2.heap.size w4' := (TabAt.N HT2.out (Nat.le_refl _)).low hB24
   have F := hi_ (And.intro hC4 (And.intro hS' (And.intro hV4 (And.intro hkp (And.intro hc4 (And.intro hel (And.intro hl' (And.intro hS1 (And.intro hB24 (And.intro hbw4 (And.intro hg40 (And.intro hrC4 (And.intro hR12 hgA)))))))))))))
   have F2 := hi_ (And.intro hEE (And.intro hLL (And.intro hTN4 (And.intro hok' (And.intro hr4 (And.intro hrl (And.intro hsa (And.intro hbs (And.intro hg12 hF4.size)))))))))
   have E0 := hi_ (Dg.start w4' (fun y => gr' y = 0 /\ y ≠ g10 /\ y < w4'.heap.size) s' data)
   have s0 := SS.out w4'.drew E0.out.b
   clear hR12 hF4 hV1 hC' hS' hG' hl' hC hSim hSt hr10 hg0 hc4 hS1 hel hB2 hEE hLL hrC hbw hTN hyw hkp hok' hN2 hCs hlbw hsa hrl hbs hga hgA hgC hFa hC4 hSt4 hr4 hrC4 hV4 hB24 hbw4 hg40 hTN4 HL4 HC5 HSTP CD RB HA HW HY HO hg12
   go_cut [15, 16, 17, 18] (fun av bv cv dv wl => ∃ (ga gb : Nat) (d' : Rst) (DA : Option Addr) (dn dc : Nat), av = .pointer (some ⟨ga, 0, none⟩) /\ bv = .pointer (some ⟨gb, 0, none⟩) /\ cv = .slice DA dn dc /\ dv = .int .i64 z2 /\ Dz (fun y => gr' y = 0 /\ y ≠ g10 /\ y < w4'.heap.size) w4' wl d' s' DA dn dc data i2 g2 ga gb)
   case first =>
    refine wp_region_noPanic ?_
    refine wp_region_held_drew (S := fun W => (W.cell? ⟨w.heap.size, 0, none⟩ = some (.int .i64 lg) /\ W.cell? ⟨w.heap.size, 1, none⟩ = some (.int .i64 pg) /\ W.cell? ⟨w.heap.size, 2, none⟩ = some (.int .i64 en) /\ W.cell? ⟨w.heap.size, 3, none⟩ = some (.int .i64 gn) /\ W.cell? ⟨w.heap.size, 4, none⟩ = some (.slice A n cap)) /\ (W.cell? ⟨g10, 0, none⟩ = some (.slice GA gn' gc) /\ W.cell? ⟨g10, 1, none⟩ = some (.slice FA fn fc) /\ W.cell? ⟨g10, 2, none⟩ = some (.slice EA en' ec)) /\ W.cell? ⟨lb, lo + j * 5, none⟩ = some (.int .i64 sd) /\ W.cell? ⟨lb, lo + j * 5 + 1, none⟩ = some (.int .i64 si) /\ W.cell? ⟨lb, lo + j * 5 + 2, none⟩ = some (.int .i64 sg) /\ W.cell? ⟨lb, lo + j * 5 + 3, none⟩ = some (.int .i64 sk) /\ W.cell? ⟨lb, lo + j * 5 + 4, none⟩ = some (.slice SA sn sc)) (by kernel_rfl) s0 (fun hHeld => ?_)
    refine wpAnyH_take (i := 0) (oi := ⟨some 62, .load 24 (.tmp 4), 24, "law.go:61", #[], none⟩) (v := ?_) rfl (by kernel_rfl) (by kernel_rfl) (by kernel_rfl) (fun _ _ _ h => h) (Or.inl ⟨by rfl, ?_⟩) (by assumption) ?_
    rotate_left 1
    ·intro w' hSw; (try dsimp only at hSw); go_simp; (try with_reducible rfl)
    simp only [Act.put, sA_, sB_, sC_]
    refine wpAnyH_take (i := 1) (oi := ⟨some 63, .load 37 (.tmp 10), 37, "law.go:61", #[], none⟩) (v := ?_) rfl (by kernel_rfl) (by kernel_rfl) (by kernel_rfl) (fun _ _ _ h => h) (Or.inl ⟨by rfl, ?_⟩) (by assumption) ?_
    rotate_left 1
    ·intro w' hSw; (try dsimp only at hSw); go_simp; (try with_reducible rfl)
    simp only [Act.put, sA_, sB_, sC_]
    refine wpAnyH_take (i := 2) (oi := ⟨some 64, .move (.tmp 1), 25, "law.go:61", #[], none⟩) (v := ?_) rfl (by kernel_rfl) (by kernel_rfl) (by kernel_rfl) (fun _ _ _ h => h) (Or.inl ⟨by rfl, ?_⟩) (by assumption) ?_
    rotate_left 1
    ·intro w' hSw; (try dsimp only at hSw); go_simp; (try with_reducible rfl)
    simp only [Act.put, sA_, sB_, sC_]
    refine wpAnyH_take (i := 3) (oi := ⟨some 65, .move (.tmp 11), 3, "law.go:61", #[], none⟩) (v := ?_) rfl (by kernel_rfl) (by kernel_rfl) (by kernel_rfl) (fun _ _ _ h => h) (Or.inl ⟨by rfl, ?_⟩) (by assumption) ?_
    rotate_left 1
    ·intro w' hSw; (try dsimp only at hSw); go_simp; (try with_reducible rfl)
    simp only [Act.put, sA_, sB_, sC_]
    refine wpAnyH_take (i := 4) (oi := ⟨some 66, .indexAddr 25 (.tmp 64) (.tmp 65), 0, "law.go:61", #[⟨2, .data⟩, ⟨3, .data⟩], none⟩) (v := ?_) rfl (by kernel_rfl) (by kernel_rfl) (by kernel_rfl) (fun _ _ _ h => h) (Or.inl ⟨by rfl, ?_⟩) (by assumption) ?_
    rotate_left 1
    ·intro w' hSw; (try dsimp only at hSw); go_simp; (try with_reducible rfl)
    simp only [Act.put, sA_, sB_, sC_]
    refine wpAnyH_take (i := 5) (oi := ⟨some 67, .load 44 (.tmp 66), 44, "law.go:61", #[⟨4, .data⟩], none⟩) (v := ?_) rfl (by kernel_rfl) (by kernel_rfl) (by kernel_rfl) (fun _ _ _ h => h) (Or.inl ⟨by rfl, ?_⟩) (by assumption) ?_
    rotate_left 1
    ·intro w' hSw; (try dsimp only at hSw); go_simp; (try with_reducible rfl)
    simp only [Act.put, sA_, sB_, sC_]
    refine wpAnyH_ready (rs := [6, 12, 13]) (by kernel_rfl) (by simp) ?_
    refine AllReadyH.cons (o := ⟨some 68, .call { callee := .value (.func 14), args := #[.tmp 62, .tmp 63, .tmp 67], argTypes := #[24, 37, 44] }, 45, "law.go:61", #[⟨0, .data⟩, ⟨1, .data⟩, ⟨5, .data⟩], none⟩) rfl (fun K' hK => ?c1) (AllReadyH.cons (o := ⟨some 15, .alloc 37, 0, "law.go:61", #[], none⟩) rfl (fun K' hK => ?c2) (AllReadyH.cons (o := ⟨some 16, .alloc 39, 0, "law.go:61", #[], none⟩) rfl (fun K' hK => ?c3) AllReadyH.nil))
    case' c1 =>
     go_simp
     go_at_call 14; refine (CG.out w4'.drew E0.out.b).mono ?_; rintro e vG ⟨⟨GA2, gn2, gc2, FA2, fn2, fc2, EA2, en2, ec2⟩, DA2, dn2, dc2, rfl, hR2, hV2, hb2⟩
     have E0G := hi_ (E0.out.G hb2 hR2 hV2)
     have s0G := SS.out vG E0G.out.b
     clear hb2 hR2 hV2
     refine hK.out _ _ s0G (fun hHeld => ?_)
     clear hK K'
     try simp only [Act.put, sA_, sB_, sC_]
     refine wpAnyH_take (i := 7) (oi := ⟨some 61, .move (.tmp 68), 45, "law.go:61", #[⟨6, .data⟩], none⟩) (v := ?_) rfl (by kernel_rfl) (by kernel_rfl) (by kernel_rfl) (fun _ _ _ h => h) (Or.inl ⟨by rfl, ?_⟩) (by assumption) ?_
     rotate_left 1
     ·intro w' hSw; (try dsimp only at hSw); go_simp; (try with_reducible rfl)
     simp only [Act.put, sA_, sB_, sC_]
     refine wpAnyH_take (i := 8) (oi := ⟨some 69, .extract (.tmp 61) 0, 37, "law.go:61", #[⟨7, .data⟩], none⟩) (v := ?_) rfl (by kernel_rfl) (by kernel_rfl) (by kernel_rfl) (fun _ _ _ h => h) (Or.inl ⟨by rfl, ?_⟩) (by assumption) ?_
     rotate_left 1
     ·intro w' hSw; (try dsimp only at hSw); go_simp; (try with_reducible rfl)
     simp only [Act.put, sA_, sB_, sC_]
     refine wpAnyH_take (i := 9) (oi := ⟨some 70, .extract (.tmp 61) 1, 39, "law.go:61", #[⟨7, .data⟩, ⟨14, .gcOnly .lateStores⟩], none⟩) (v := ?_) rfl (by kernel_rfl) (by kernel_rfl) (by kernel_rfl) (fun _ _ _ h => h) (Or.inl ⟨by rfl, ?_⟩) (by assumption) ?_
     rotate_left 1
     ·intro w' hSw; (try dsimp only at hSw); go_simp; (try with_reducible rfl)
     simp only [Act.put, sA_, sB_, sC_]
     refine wpAnyH_take (i := 10) (oi := ⟨some 71, .extract (.tmp 61) 2, 40, "law.go:61", #[⟨7, .data⟩, ⟨15, .gcOnly .lateStores⟩], none⟩) (v := ?_) rfl (by kernel_rfl) (by kernel_rfl) (by kernel_rfl) (fun _ _ _ h => h) (Or.inl ⟨by rfl, ?_⟩) (by assumption) ?_
     rotate_left 1
     ·intro w' hSw; (try dsimp only at hSw); go_simp; (try with_reducible rfl)
     simp only [Act.put, sA_, sB_, sC_]
     refine wpAnyH_take (i := 11) (oi := ⟨some 72, .extract (.tmp 61) 3, 3, "law.go:61", #[⟨7, .data⟩, ⟨16, .gcOnly .lateStores⟩], none⟩) (v := ?_) rfl (by kernel_rfl) (by kernel_rfl) (by kernel_rfl) (fun _ _ _ h => h) (Or.inl ⟨by rfl, ?_⟩) (by assumption) ?_
     rotate_left 1
     ·intro w' hSw; (try dsimp only at hSw); go_simp; (try with_reducible rfl)
     simp only [Act.put, sA_, sB_, sC_]
     refine wpAnyH_ready (rs := [12, 13]) (by kernel_rfl) (by simp) ?_
     refine AllReadyH.cons (o := ⟨some 15, .alloc 37, 0, "law.go:61", #[], none⟩) rfl (fun K' hK => ?c4) (AllReadyH.cons (o := ⟨some 16, .alloc 39, 0, "law.go:61", #[], none⟩) rfl (fun K' hK => ?c5) AllReadyH.nil)
     case' c4 =>
      go_simp
      obtain ⟨vGA, hvGA⟩ : ∃ W, W = vG.alloc (.cells stZ 37) := ⟨_, rfl⟩
      rw [<- hvGA]
      have E0GA := hi_ (show Dg _ w4' vGA _ _ _ _ _ _ _ _ _ _ _ by rw [hvGA]; exact E0G.out.A)
      have s0GA := SS.out vGA E0GA.out.b
      clear hvGA
      refine hK.out _ _ s0GA (fun hHeld => ?_)
      clear hK K'
      try simp only [Act.put, sA_, sB_, sC_]
      refine wpAnyH_ready (rs := [13]) (by kernel_rfl) (by simp) ?_
      refine AllReadyH.cons (o := ⟨some 16, .alloc 39, 0, "law.go:61", #[], none⟩) rfl (fun K' hK => ?_) AllReadyH.nil
      go_simp
      obtain ⟨vGAB, hvGAB⟩ : ∃ W, W = vGA.alloc (.cells #[.int .i64 0, .int .i64 0] 39) := ⟨_, rfl⟩
      rw [<- hvGAB]
      have E0GAB := hi_ (show Dg _ w4' vGAB _ _ _ _ _ _ _ _ _ _ _ by rw [hvGAB]; exact E0GA.out.B)
      have s0GAB := SS.out vGAB E0GAB.out.b
      clear hvGAB
      refine hK.out _ _ s0GAB (fun hHeld => ?_)
      clear hK K'
      try simp only [Act.put, sA_, sB_, sC_]
      have E9 := E0GAB
      have s9 := s0GAB
     case' c5 =>
      go_simp
      obtain ⟨vGB, hvGB⟩ : ∃ W, W = vG.alloc (.cells #[.int .i64 0, .int .i64 0] 39) := ⟨_, rfl⟩
      rw [<- hvGB]
      have E0GB := hi_ (show Dg _ w4' vGB _ _ _ _ _ _ _ _ _ _ _ by rw [hvGB]; exact E0G.out.B)
      have s0GB := SS.out vGB E0GB.out.b
      clear hvGB
      refine hK.out _ _ s0GB (fun hHeld => ?_)
      clear hK K'
      try simp only [Act.put, sA_, sB_, sC_]
      refine wpAnyH_ready (rs := [12]) (by kernel_rfl) (by simp) ?_
      refine AllReadyH.cons (o := ⟨some 15, .alloc 37, 0, "law.go:61", #[], none⟩) rfl (fun K' hK => ?_) AllReadyH.nil
      go_simp
      obtain ⟨vGBA, hvGBA⟩ : ∃ W, W = vGB.alloc (.cells stZ 37) := ⟨_, rfl⟩
      rw [<- hvGBA]
      have E0GBA := hi_ (show Dg _ w4' vGBA _ _ _ _ _ _ _ _ _ _ _ by rw [hvGBA]; exact E0GB.out.A)
      have s0GBA := SS.out vGBA E0GBA.out.b
      clear hvGBA
      refine hK.out _ _ s0GBA (fun hHeld => ?_)
      clear hK K'
      try simp only [Act.put, sA_, sB_, sC_]
      have E9 := E0GBA
      have s9 := s0GBA
    case' c2 =>
     go_simp
     obtain ⟨vA, hvA⟩ : ∃ W, W = (w4'.alloc (.cells stZ 37)).drew := ⟨_, rfl⟩
     rw [<- hvA]
     have E0A := hi_ (show Dg _ w4' vA _ _ _ _ _ _ _ _ _ _ _ by rw [hvA]; exact E0.out.A)
     have s0A := SS.out vA E0A.out.b
     clear hvA
     refine hK.out _ _ s0A (fun hHeld => ?_)
     clear hK K'
     try simp only [Act.put, sA_, sB_, sC_]
     refine wpAnyH_ready (rs := [6, 13]) (by kernel_rfl) (by simp) ?_
     refine AllReadyH.cons (o := ⟨some 68, .call { callee := .value (.func 14), args := #[.tmp 62, .tmp 63, .tmp 67], argTypes := #[24, 37, 44] }, 45, "law.go:61", #[⟨0, .data⟩, ⟨1, .data⟩, ⟨5, .data⟩], none⟩) rfl (fun K' hK => ?c8) (AllReadyH.cons (o := ⟨some 16, .alloc 39, 0, "law.go:61", #[], none⟩) rfl (fun K' hK => ?c9) AllReadyH.nil)
     case' c8 =>
      go_simp
      go_at_call 14; refine (CG.out vA E0A.out.b).mono ?_; rintro e vAG ⟨⟨GA2, gn2, gc2, FA2, fn2, fc2, EA2, en2, ec2⟩, DA2, dn2, dc2, rfl, hR2, hV2, hb2⟩
      have E0AG := hi_ (E0A.out.G hb2 hR2 hV2)
      have s0AG := SS.out vAG E0AG.out.b
      clear hb2 hR2 hV2
      refine hK.out _ _ s0AG (fun hHeld => ?_)
      clear hK K'
      try simp only [Act.put, sA_, sB_, sC_]
      refine wpAnyH_take (i := 7) (oi := ⟨some 61, .move (.tmp 68), 45, "law.go:61", #[⟨6, .data⟩], none⟩) (v := ?_) rfl (by kernel_rfl) (by kernel_rfl) (by kernel_rfl) (fun _ _ _ h => h) (Or.inl ⟨by rfl, ?_⟩) (by assumption) ?_
      rotate_left 1
      ·intro w' hSw; (try dsimp only at hSw); go_simp; (try with_reducible rfl)
      simp only [Act.put, sA_, sB_, sC_]
      refine wpAnyH_take (i := 8) (oi := ⟨some 69, .extract (.tmp 61) 0, 37, "law.go:61", #[⟨7, .data⟩], none⟩) (v := ?_) rfl (by kernel_rfl) (by kernel_rfl) (by kernel_rfl) (fun _ _ _ h => h) (Or.inl ⟨by rfl, ?_⟩) (by assumption) ?_
      rotate_left 1
      ·intro w' hSw; (try dsimp only at hSw); go_simp; (try with_reducible rfl)
      simp only [Act.put, sA_, sB_, sC_]
      refine wpAnyH_take (i := 9) (oi := ⟨some 70, .extract (.tmp 61) 1, 39, "law.go:61", #[⟨7, .data⟩, ⟨14, .gcOnly .lateStores⟩], none⟩) (v := ?_) rfl (by kernel_rfl) (by kernel_rfl) (by kernel_rfl) (fun _ _ _ h => h) (Or.inl ⟨by rfl, ?_⟩) (by assumption) ?_
      rotate_left 1
      ·intro w' hSw; (try dsimp only at hSw); go_simp; (try with_reducible rfl)
      simp only [Act.put, sA_, sB_, sC_]
      refine wpAnyH_take (i := 10) (oi := ⟨some 71, .extract (.tmp 61) 2, 40, "law.go:61", #[⟨7, .data⟩, ⟨15, .gcOnly .lateStores⟩], none⟩) (v := ?_) rfl (by kernel_rfl) (by kernel_rfl) (by kernel_rfl) (fun _ _ _ h => h) (Or.inl ⟨by rfl, ?_⟩) (by assumption) ?_
      rotate_left 1
      ·intro w' hSw; (try dsimp only at hSw); go_simp; (try with_reducible rfl)
      simp only [Act.put, sA_, sB_, sC_]
      refine wpAnyH_take (i := 11) (oi := ⟨some 72, .extract (.tmp 61) 3, 3, "law.go:61", #[⟨7, .data⟩, ⟨16, .gcOnly .lateStores⟩], none⟩) (v := ?_) rfl (by kernel_rfl) (by kernel_rfl) (by kernel_rfl) (fun _ _ _ h => h) (Or.inl ⟨by rfl, ?_⟩) (by assumption) ?_
      rotate_left 1
      ·intro w' hSw; (try dsimp only at hSw); go_simp; (try with_reducible rfl)
      simp only [Act.put, sA_, sB_, sC_]
      refine wpAnyH_ready (rs := [13]) (by kernel_rfl) (by simp) ?_
      refine AllReadyH.cons (o := ⟨some 16, .alloc 39, 0, "law.go:61", #[], none⟩) rfl (fun K' hK => ?_) AllReadyH.nil
      go_simp
      obtain ⟨vAGB, hvAGB⟩ : ∃ W, W = vAG.alloc (.cells #[.int .i64 0, .int .i64 0] 39) := ⟨_, rfl⟩
      rw [<- hvAGB]
      have E0AGB := hi_ (show Dg _ w4' vAGB _ _ _ _ _ _ _ _ _ _ _ by rw [hvAGB]; exact E0AG.out.B)
      have s0AGB := SS.out vAGB E0AGB.out.b
      clear hvAGB
      refine hK.out _ _ s0AGB (fun hHeld => ?_)
      clear hK K'
      try simp only [Act.put, sA_, sB_, sC_]
      have E9 := E0AGB
      have s9 := s0AGB
     case' c9 =>
      go_simp
      obtain ⟨vAB, hvAB⟩ : ∃ W, W = vA.alloc (.cells #[.int .i64 0, .int .i64 0] 39) := ⟨_, rfl⟩
      rw [<- hvAB]
      have E0AB := hi_ (show Dg _ w4' vAB _ _ _ _ _ _ _ _ _ _ _ by rw [hvAB]; exact E0A.out.B)
      have s0AB := SS.out vAB E0AB.out.b
      clear hvAB
      refine hK.out _ _ s0AB (fun hHeld => ?_)
      clear hK K'
      try simp only [Act.put, sA_, sB_, sC_]
      refine wpAnyH_ready (rs := [6]) (by kernel_rfl) (by simp) ?_
      refine AllReadyH.cons (o := ⟨some 68, .call { callee := .value (.func 14), args := #[.tmp 62, .tmp 63, .tmp 67], argTypes := #[24, 37, 44] }, 45, "law.go:61", #[⟨0, .data⟩, ⟨1, .data⟩, ⟨5, .data⟩], none⟩) rfl (fun K' hK => ?_) AllReadyH.nil
      go_simp
      go_at_call 14; refine (CG.out vAB E0AB.out.b).mono ?_; rintro e vABG ⟨⟨GA2, gn2, gc2, FA2, fn2, fc2, EA2, en2, ec2⟩, DA2, dn2, dc2, rfl, hR2, hV2, hb2⟩
      have E0ABG := hi_ (E0AB.out.G hb2 hR2 hV2)
      have s0ABG := SS.out vABG E0ABG.out.b
      clear hb2 hR2 hV2
      refine hK.out _ _ s0ABG (fun hHeld => ?_)
      clear hK K'
      try simp only [Act.put, sA_, sB_, sC_]
      refine wpAnyH_take (i := 7) (oi := ⟨some 61, .move (.tmp 68), 45, "law.go:61", #[⟨6, .data⟩], none⟩) (v := ?_) rfl (by kernel_rfl) (by kernel_rfl) (by kernel_rfl) (fun _ _ _ h => h) (Or.inl ⟨by rfl, ?_⟩) (by assumption) ?_
      rotate_left 1
      ·intro w' hSw; (try dsimp only at hSw); go_simp; (try with_reducible rfl)
      simp only [Act.put, sA_, sB_, sC_]
      refine wpAnyH_take (i := 8) (oi := ⟨some 69, .extract (.tmp 61) 0, 37, "law.go:61", #[⟨7, .data⟩], none⟩) (v := ?_) rfl (by kernel_rfl) (by kernel_rfl) (by kernel_rfl) (fun _ _ _ h => h) (Or.inl ⟨by rfl, ?_⟩) (by assumption) ?_
      rotate_left 1
      ·intro w' hSw; (try dsimp only at hSw); go_simp; (try with_reducible rfl)
      simp only [Act.put, sA_, sB_, sC_]
      refine wpAnyH_take (i := 9) (oi := ⟨some 70, .extract (.tmp 61) 1, 39, "law.go:61", #[⟨7, .data⟩, ⟨14, .gcOnly .lateStores⟩], none⟩) (v := ?_) rfl (by kernel_rfl) (by kernel_rfl) (by kernel_rfl) (fun _ _ _ h => h) (Or.inl ⟨by rfl, ?_⟩) (by assumption) ?_
      rotate_left 1
      ·intro w' hSw; (try dsimp only at hSw); go_simp; (try with_reducible rfl)
      simp only [Act.put, sA_, sB_, sC_]
      refine wpAnyH_take (i := 10) (oi := ⟨some 71, .extract (.tmp 61) 2, 40, "law.go:61", #[⟨7, .data⟩, ⟨15, .gcOnly .lateStores⟩], none⟩) (v := ?_) rfl (by kernel_rfl) (by kernel_rfl) (by kernel_rfl) (fun _ _ _ h => h) (Or.inl ⟨by rfl, ?_⟩) (by assumption) ?_
      rotate_left 1
      ·intro w' hSw; (try dsimp only at hSw); go_simp; (try with_reducible rfl)
      simp only [Act.put, sA_, sB_, sC_]
      refine wpAnyH_take (i := 11) (oi := ⟨some 72, .extract (.tmp 61) 3, 3, "law.go:61", #[⟨7, .data⟩, ⟨16, .gcOnly .lateStores⟩], none⟩) (v := ?_) rfl (by kernel_rfl) (by kernel_rfl) (by kernel_rfl) (fun _ _ _ h => h) (Or.inl ⟨by rfl, ?_⟩) (by assumption) ?_
      rotate_left 1
      ·intro w' hSw; (try dsimp only at hSw); go_simp; (try with_reducible rfl)
      simp only [Act.put, sA_, sB_, sC_]
      have E9 := E0ABG
      have s9 := s0ABG
    case' c3 =>
     go_simp
     obtain ⟨vB, hvB⟩ : ∃ W, W = (w4'.alloc (.cells #[.int .i64 0, .int .i64 0] 39)).drew := ⟨_, rfl⟩
     rw [<- hvB]
     have E0B := hi_ (show Dg _ w4' vB _ _ _ _ _ _ _ _ _ _ _ by rw [hvB]; exact E0.out.B)
     have s0B := SS.out vB E0B.out.b
     clear hvB
     refine hK.out _ _ s0B (fun hHeld => ?_)
     clear hK K'
     try simp only [Act.put, sA_, sB_, sC_]
     refine wpAnyH_ready (rs := [6, 12]) (by kernel_rfl) (by simp) ?_
     refine AllReadyH.cons (o := ⟨some 68, .call { callee := .value (.func 14), args := #[.tmp 62, .tmp 63, .tmp 67], argTypes := #[24, 37, 44] }, 45, "law.go:61", #[⟨0, .data⟩, ⟨1, .data⟩, ⟨5, .data⟩], none⟩) rfl (fun K' hK => ?c12) (AllReadyH.cons (o := ⟨some 15, .alloc 37, 0, "law.go:61", #[], none⟩) rfl (fun K' hK => ?c13) AllReadyH.nil)
     case' c12 =>
      go_simp
      go_at_call 14; refine (CG.out vB E0B.out.b).mono ?_; rintro e vBG ⟨⟨GA2, gn2, gc2, FA2, fn2, fc2, EA2, en2, ec2⟩, DA2, dn2, dc2, rfl, hR2, hV2, hb2⟩
      have E0BG := hi_ (E0B.out.G hb2 hR2 hV2)
      have s0BG := SS.out vBG E0BG.out.b
      clear hb2 hR2 hV2
      refine hK.out _ _ s0BG (fun hHeld => ?_)
      clear hK K'
      try simp only [Act.put, sA_, sB_, sC_]
      refine wpAnyH_take (i := 7) (oi := ⟨some 61, .move (.tmp 68), 45, "law.go:61", #[⟨6, .data⟩], none⟩) (v := ?_) rfl (by kernel_rfl) (by kernel_rfl) (by kernel_rfl) (fun _ _ _ h => h) (Or.inl ⟨by rfl, ?_⟩) (by assumption) ?_
      rotate_left 1
      ·intro w' hSw; (try dsimp only at hSw); go_simp; (try with_reducible rfl)
      simp only [Act.put, sA_, sB_, sC_]
      refine wpAnyH_take (i := 8) (oi := ⟨some 69, .extract (.tmp 61) 0, 37, "law.go:61", #[⟨7, .data⟩], none⟩) (v := ?_) rfl (by kernel_rfl) (by kernel_rfl) (by kernel_rfl) (fun _ _ _ h => h) (Or.inl ⟨by rfl, ?_⟩) (by assumption) ?_
      rotate_left 1
      ·intro w' hSw; (try dsimp only at hSw); go_simp; (try with_reducible rfl)
      simp only [Act.put, sA_, sB_, sC_]
      refine wpAnyH_take (i := 9) (oi := ⟨some 70, .extract (.tmp 61) 1, 39, "law.go:61", #[⟨7, .data⟩, ⟨14, .gcOnly .lateStores⟩], none⟩) (v := ?_) rfl (by kernel_rfl) (by kernel_rfl) (by kernel_rfl) (fun _ _ _ h => h) (Or.inl ⟨by rfl, ?_⟩) (by assumption) ?_
      rotate_left 1
      ·intro w' hSw; (try dsimp only at hSw); go_simp; (try with_reducible rfl)
      simp only [Act.put, sA_, sB_, sC_]
      refine wpAnyH_take (i := 10) (oi := ⟨some 71, .extract (.tmp 61) 2, 40, "law.go:61", #[⟨7, .data⟩, ⟨15, .gcOnly .lateStores⟩], none⟩) (v := ?_) rfl (by kernel_rfl) (by kernel_rfl) (by kernel_rfl) (fun _ _ _ h => h) (Or.inl ⟨by rfl, ?_⟩) (by assumption) ?_
      rotate_left 1
      ·intro w' hSw; (try dsimp only at hSw); go_simp; (try with_reducible rfl)
      simp only [Act.put, sA_, sB_, sC_]
      refine wpAnyH_take (i := 11) (oi := ⟨some 72, .extract (.tmp 61) 3, 3, "law.go:61", #[⟨7, .data⟩, ⟨16, .gcOnly .lateStores⟩], none⟩) (v := ?_) rfl (by kernel_rfl) (by kernel_rfl) (by kernel_rfl) (fun _ _ _ h => h) (Or.inl ⟨by rfl, ?_⟩) (by assumption) ?_
      rotate_left 1
      ·intro w' hSw; (try dsimp only at hSw); go_simp; (try with_reducible rfl)
      simp only [Act.put, sA_, sB_, sC_]
      refine wpAnyH_ready (rs := [12]) (by kernel_rfl) (by simp) ?_
      refine AllReadyH.cons (o := ⟨some 15, .alloc 37, 0, "law.go:61", #[], none⟩) rfl (fun K' hK => ?_) AllReadyH.nil
      go_simp
      obtain ⟨vBGA, hvBGA⟩ : ∃ W, W = vBG.alloc (.cells stZ 37) := ⟨_, rfl⟩
      rw [<- hvBGA]
      have E0BGA := hi_ (show Dg _ w4' vBGA _ _ _ _ _ _ _ _ _ _ _ by rw [hvBGA]; exact E0BG.out.A)
      have s0BGA := SS.out vBGA E0BGA.out.b
      clear hvBGA
      refine hK.out _ _ s0BGA (fun hHeld => ?_)
      clear hK K'
      try simp only [Act.put, sA_, sB_, sC_]
      have E9 := E0BGA
      have s9 := s0BGA
     case' c13 =>
      go_simp
      obtain ⟨vBA, hvBA⟩ : ∃ W, W = vB.alloc (.cells stZ 37) := ⟨_, rfl⟩
      rw [<- hvBA]
      have E0BA := hi_ (show Dg _ w4' vBA _ _ _ _ _ _ _ _ _ _ _ by rw [hvBA]; exact E0B.out.A)
      have s0BA := SS.out vBA E0BA.out.b
      clear hvBA
      refine hK.out _ _ s0BA (fun hHeld => ?_)
      clear hK K'
      try simp only [Act.put, sA_, sB_, sC_]
      refine wpAnyH_ready (rs := [6]) (by kernel_rfl) (by simp) ?_
      refine AllReadyH.cons (o := ⟨some 68, .call { callee := .value (.func 14), args := #[.tmp 62, .tmp 63, .tmp 67], argTypes := #[24, 37, 44] }, 45, "law.go:61", #[⟨0, .data⟩, ⟨1, .data⟩, ⟨5, .data⟩], none⟩) rfl (fun K' hK => ?_) AllReadyH.nil
      go_simp
      go_at_call 14; refine (CG.out vBA E0BA.out.b).mono ?_; rintro e vBAG ⟨⟨GA2, gn2, gc2, FA2, fn2, fc2, EA2, en2, ec2⟩, DA2, dn2, dc2, rfl, hR2, hV2, hb2⟩
      have E0BAG := hi_ (E0BA.out.G hb2 hR2 hV2)
      have s0BAG := SS.out vBAG E0BAG.out.b
      clear hb2 hR2 hV2
      refine hK.out _ _ s0BAG (fun hHeld => ?_)
      clear hK K'
      try simp only [Act.put, sA_, sB_, sC_]
      refine wpAnyH_take (i := 7) (oi := ⟨some 61, .move (.tmp 68), 45, "law.go:61", #[⟨6, .data⟩], none⟩) (v := ?_) rfl (by kernel_rfl) (by kernel_rfl) (by kernel_rfl) (fun _ _ _ h => h) (Or.inl ⟨by rfl, ?_⟩) (by assumption) ?_
      rotate_left 1
      ·intro w' hSw; (try dsimp only at hSw); go_simp; (try with_reducible rfl)
      simp only [Act.put, sA_, sB_, sC_]
      refine wpAnyH_take (i := 8) (oi := ⟨some 69, .extract (.tmp 61) 0, 37, "law.go:61", #[⟨7, .data⟩], none⟩) (v := ?_) rfl (by kernel_rfl) (by kernel_rfl) (by kernel_rfl) (fun _ _ _ h => h) (Or.inl ⟨by rfl, ?_⟩) (by assumption) ?_
      rotate_left 1
      ·intro w' hSw; (try dsimp only at hSw); go_simp; (try with_reducible rfl)
      simp only [Act.put, sA_, sB_, sC_]
      refine wpAnyH_take (i := 9) (oi := ⟨some 70, .extract (.tmp 61) 1, 39, "law.go:61", #[⟨7, .data⟩, ⟨14, .gcOnly .lateStores⟩], none⟩) (v := ?_) rfl (by kernel_rfl) (by kernel_rfl) (by kernel_rfl) (fun _ _ _ h => h) (Or.inl ⟨by rfl, ?_⟩) (by assumption) ?_
      rotate_left 1
      ·intro w' hSw; (try dsimp only at hSw); go_simp; (try with_reducible rfl)
      simp only [Act.put, sA_, sB_, sC_]
      refine wpAnyH_take (i := 10) (oi := ⟨some 71, .extract (.tmp 61) 2, 40, "law.go:61", #[⟨7, .data⟩, ⟨15, .gcOnly .lateStores⟩], none⟩) (v := ?_) rfl (by kernel_rfl) (by kernel_rfl) (by kernel_rfl) (fun _ _ _ h => h) (Or.inl ⟨by rfl, ?_⟩) (by assumption) ?_
      rotate_left 1
      ·intro w' hSw; (try dsimp only at hSw); go_simp; (try with_reducible rfl)
      simp only [Act.put, sA_, sB_, sC_]
      refine wpAnyH_take (i := 11) (oi := ⟨some 72, .extract (.tmp 61) 3, 3, "law.go:61", #[⟨7, .data⟩, ⟨16, .gcOnly .lateStores⟩], none⟩) (v := ?_) rfl (by kernel_rfl) (by kernel_rfl) (by kernel_rfl) (fun _ _ _ h => h) (Or.inl ⟨by rfl, ?_⟩) (by assumption) ?_
      rotate_left 1
      ·intro w' hSw; (try dsimp only at hSw); go_simp; (try with_reducible rfl)
      simp only [Act.put, sA_, sB_, sC_]
      have E9 := E0BAG
      have s9 := s0BAG
    all_goals
     refine wpAnyH_ready (rs := [14]) (by kernel_rfl) (by simp) ?_
     refine AllReadyH.cons (o := ⟨none, .store 37 (.tmp 15) (.tmp 69), 0, "law.go:61", #[⟨12, .data⟩, ⟨8, .data⟩, ⟨6, .chain⟩, ⟨0, .phase⟩, ⟨1, .phase⟩, ⟨2, .phase⟩, ⟨3, .phase⟩, ⟨4, .phase⟩, ⟨5, .phase⟩, ⟨6, .phase⟩, ⟨7, .phase⟩, ⟨8, .phase⟩, ⟨9, .textOnly .lateStores⟩, ⟨10, .textOnly .lateStores⟩, ⟨11, .textOnly .lateStores⟩, ⟨12, .phase⟩, ⟨13, .phase⟩], none⟩) rfl (fun K' hK => ?_) AllReadyH.nil
     refine step_stS (cs' := stC GA2 gn2 gc2 FA2 fn2 fc2 EA2 en2 ec2) stT rfl rfl (by simp [Value.oneCell']) rfl (.tmp 15) (.tmp 69) rfl rfl rfl (E9.out.a rfl).1 ?_
     intro vX hRX hFX
     have SX := hi_ (And.intro hRX hFX)
     have BX := hi_ (E9.out.b.trans (hFX.toBelow (fun y hy => by rw [show y = _ from hy]; exact (E9.out.a rfl).2) E9.out.b.size))
     have s9X := SS.out vX BX.out
     clear hRX hFX
     refine hK.out _ _ s9X (fun hHeld => ?_)
     clear hK K'
     try simp only [Act.put]
     refine wpAnyH_ready (rs := [15]) (by kernel_rfl) (by simp) ?_
     refine AllReadyH.cons (o := ⟨none, .store 39 (.tmp 16) (.tmp 70), 0, "law.go:61", #[⟨13, .data⟩, ⟨9, .data⟩, ⟨14, .chain⟩, ⟨0, .phase⟩, ⟨1, .phase⟩, ⟨2, .phase⟩, ⟨3, .phase⟩, ⟨4, .phase⟩, ⟨5, .phase⟩, ⟨6, .phase⟩, ⟨7, .phase⟩, ⟨8, .phase⟩, ⟨9, .phase⟩, ⟨10, .textOnly .lateStores⟩, ⟨11, .textOnly .lateStores⟩, ⟨12, .phase⟩, ⟨13, .phase⟩, ⟨14, .phase⟩], none⟩) rfl (fun K' hK => ?_) AllReadyH.nil
     refine step_stS (cs' := #[.int .i64 i2, .int .i64 g2]) idT rfl rfl (by simp [Value.oneCell']) rfl (.tmp 16) (.tmp 70) rfl rfl rfl (E9.out.X SX.out.2) ?_
     intro vY hRY hFY
     have DZ := hi_ (E9.out.Y (fun y hy => hy.2.2) SX.out.1 SX.out.2 hRY hFY)
     have s9XY := SS.out vY DZ.out.b
     clear hRY hFY
     refine hK.out _ _ s9XY (fun hHeld => ?_)
     clear hK K'
     try simp only [Act.put]
     refine wpAnyH_take (i := 16) (oi := ⟨some 17, .assign (.tmp 71), 40, "law.go:61", #[⟨10, .data⟩, ⟨15, .chain⟩, ⟨0, .phase⟩, ⟨1, .phase⟩, ⟨2, .phase⟩, ⟨3, .phase⟩, ⟨4, .phase⟩, ⟨5, .phase⟩, ⟨6, .phase⟩, ⟨7, .phase⟩, ⟨8, .phase⟩, ⟨9, .phase⟩, ⟨10, .phase⟩, ⟨11, .textOnly .lateStores⟩, ⟨12, .phase⟩, ⟨13, .phase⟩, ⟨14, .phase⟩, ⟨15, .phase⟩], none⟩) (v := ?_) rfl (by kernel_rfl) (by kernel_rfl) (by kernel_rfl) (fun _ _ _ h => h) (Or.inl ⟨by rfl, ?_⟩) (by assumption) ?_
     rotate_left 1
     ·intro w' hSw; (try dsimp only at hSw); go_simp; (try with_reducible rfl)
     simp only [Act.put, sA_, sB_, sC_]
     refine wpAnyH_take (i := 17) (oi := ⟨some 18, .assign (.tmp 72), 3, "law.go:61", #[⟨11, .data⟩, ⟨16, .chain⟩, ⟨0, .phase⟩, ⟨1, .phase⟩, ⟨2, .phase⟩, ⟨3, .phase⟩, ⟨4, .phase⟩, ⟨5, .phase⟩, ⟨6, .phase⟩, ⟨7, .phase⟩, ⟨8, .phase⟩, ⟨9, .phase⟩, ⟨10, .phase⟩, ⟨11, .phase⟩, ⟨12, .phase⟩, ⟨13, .phase⟩, ⟨14, .phase⟩, ⟨15, .phase⟩, ⟨16, .phase⟩], none⟩) (v := ?_) rfl (by kernel_rfl) (by kernel_rfl) (by kernel_rfl) (fun _ _ _ h => h) (Or.inl ⟨by rfl, ?_⟩) (by assumption) ?_
     rotate_left 1
     ·intro w' hSw; (try dsimp only at hSw); go_simp; (try with_reducible rfl)
     simp only [Act.put, sA_, sB_, sC_]
     refine wpAnyH_done (by kernel_rfl) ?_ _
     refine NoPanic.normal ?_
     go_wp2_with fail
     go_meet
     case' rel => exact ⟨_, _, ⟨GA2, gn2, gc2, FA2, fn2, fc2, EA2, en2, ec2⟩, DA2, dn2, dc2, rfl, rfl, rfl, rfl, DZ.out⟩
   case rest =>
   obtain ⟨ga, gb, ⟨GA2, gn2, gc2, FA2, fn2, fc2, EA2, en2, ec2⟩, DA2, dn2, dc2, rfl, rfl, rfl, rfl, hZ⟩ := hcut
   have HZ := hi_ hZ
   have HRT := hi_ (F2.out.2.2.2.2.1.under hZ.b)
   clear hZ SS CG E0 s0
   go_upto_region 15 with (first
    | ((with_reducible refine wpList_ldS stT rfl rfl (.tmp 15) rfl rfl HZ.out.ra ?_))
    | ((with_reducible refine wpList_stSt GA2 gn2 gc2 FA2 fn2 fc2 EA2 en2 ec2 rfl rfl (.tmp 10) (.tmp 73) rfl rfl rfl HRT.out ?_); intro wz hRz hFz; have HZZ := hi_ (And.intro hRz hFz); clear hRz hFz))
   obtain ⟨hRz, hFz⟩ := HZZ.out
   obtain ⟨hC4, hS', hV4, hkp, hc4, hel, hl', hS1, hB24, hbw4, hg40, hrC4, hR12, hgA⟩ := F.out
   obtain ⟨hEE, hLL, hTN4, hok', hr4, hrl, hsa, hbs, hg12, h4s⟩ := F2.out
   have hZ := HZ.out
   have hzb := hZ.b.size
   have hN2 := hC4.Nle
   have h10 := HR10.out.2
   have h24 := HBW4.out.2.2.size
   have hla := hZ.la
   have hlb := hZ.lb
   have hcl := HBW4.out.2.1.lt
   have hBz : Below w2.heap.size w2 wz := (hB24.trans (hZ.b.mono hN2)).trans (hFz.toBelow (fun y hy => by rw [show y = g10 from hy]; omega) (by omega))
   have hCz := (hC4.below hZ.b).kept hFz (fun y hy e => by rw [show y = g10 from e] at hy; exact hy hg40)
   have hStz : RSt (fun y => gr' y = 0 /\ y ≠ g10) wz ⟨GA2, gn2, gc2, FA2, fn2, fc2, EA2, en2, ec2⟩ s' := (hZ.g.lt.stays ⟨hFz.size, fun y hy => hFz.block y hy.2 (fun e => by have e' : y = g10 := e; rcases hy.1 with h | h; exact h.2.1 e'; omega)⟩).mono (fun y hy => by
    rcases hy.1 with h | h
    ·exact ⟨h.1, h.2.1⟩
    ·exact ⟨hgA y (by omega), by omega⟩)
   have hrCz := (hrC4.under hZ.b).fr hFz (fun e => by have e' : w.heap.size = g10 := e; omega)
   have hr12z := (hR12.under hZ.b).fr hFz (fun e => by have e' : g12 = g10 := e; omega)
   have hrbz := hZ.rb.fr hFz (fun e => by have e' : gb = g10 := e; omega)
   have hVa : VB (fun _ => True) wz (.slice DA1 dm1 dc1) data := (((hV4.below hZ.b).lt.stays ⟨hFz.size, fun y hy => hFz.block y hy.2 (fun e => by have e' : y = g10 := e; have := hy.1; omega)⟩).mono (fun _ _ => trivial))
   have hVb : VB (fun _ => True) wz (.slice DA2 dn2 dc2) data := ((hZ.v.stays ⟨hFz.size, fun y hy => hFz.block y (by have := hy.2.2; omega) (fun e => hy.2.1 e)⟩).mono (fun _ _ => trivial))
   have LIN := hi_ (And.intro (show LI w2 w2.heap.size x g10 (j + 1) k' gr' pt' (c + 4) s' ⟨GA2, gn2, gc2, FA2, fn2, fc2, EA2, en2, ec2⟩ wz from ⟨hCz, hS', hStz, hRz, hg40, by omega, by omega, by omega, hBz⟩) (And.intro (hkp.1.trans hEE) (And.intro (hkp.2.1.trans hLL) hrCz)))
   have e1 : gn2 = s'.ns.g.length := hStz.gn
   have e2 : fn2 = s'.ns.fr.length := hStz.fn
   have e3 : en2 = s'.ents.length := hStz.en
   have hS5 : k'.S.length <= 5000 := by omega
   have hl5 : s'.ents.length <= 1000000 := by omega
   have hgl : s'.ns.g.length <= 1000000 := by have h1 := hok'.ns.len; have h2 := hok'.ns.E2; omega
   have hfl : s'.ns.fr.length <= 1000000 := by have h1 := hok'.ns.few; omega
   have hps : ∀ e ∈ s'.ents, e.2.length <= 1000000 := fun e he => by
    have h1 := (hok'.parts e he).len
    rw [show (szX ks).length = ks.length by simp [szX]] at h1
    have h2 := HRI.out.1.2.2.2.2
    have h3 : ks.length <= 32 := h2
    omega
   have CSM : Hid (∀ W, Below wz.heap.size wz W -> Calls Tryz.prog 15 #[.slice DA1 dm1 dc1, .slice DA2 dn2 dc2] W fun e w' => e = .returned (.bool true) /\ W = w') := hi_ fun W hW => by
    obtain ⟨_, _, _, q1, q2, _⟩ := hVa.below hW
    obtain ⟨_, _, _, q3, q4, _⟩ := hVb.below hW
    injection q1 with q11 q12 q13
    injection q3 with q31 q32 q33
    subst q11 q12 q13 q31 q32 q33
    exact Same_yes _ _ _ _ _ _ _ W q2 q4
   have CCN : Hid (∀ W, Below wz.heap.size wz W -> Calls Tryz.prog 16 #[.pointer (some ⟨x.p, 0, none⟩)] W fun e w' => e = .returned (.int .i64 (en2 : Int)) /\ W = w') := hi_ fun W hW => by
    have := ecount_yes (hCz.below hW)
    rw [hS'.ns, hok'.cnt, <- e3] at this
    exact this
   have CST : Hid (∀ W, Below wz.heap.size wz W -> Calls Tryz.prog 18 #[.pointer (some ⟨x.p, 0, none⟩)] W fun e w' => ∃ GA gc FA fc EA ec, e = .returned (.agg (stC GA gn2 gc FA fn2 fc EA en2 ec)) /\ StV (fun y => W.heap.size <= y) w' GA gn2 FA fn2 EA en2 s'.ns.g s'.ns.fr s'.ents /\ Below W.heap.size W w') := hi_ fun W hW => by
    have := estate_yes (hCz.below hW) ((TabAt.N HT2.out (Nat.le_refl _)).low (hBz.trans (hW.mono (by have := hBz.size; omega)))) (hS'.has HX.out (fun n t ht => hCz.tok ht) hS5) hS5 hl5
    rw [hS'.ns, <- e1, <- e2, <- e3] at this
    exact this
   have CSS : Hid (∀ {K : Nat -> Prop} (W : World) (GA : Option Addr) (gc : Nat) (FA : Option Addr) (fc : Nat) (EA : Option Addr) (ec : Nat), Below wz.heap.size wz W -> StV K W GA gn2 FA fn2 EA en2 s'.ns.g s'.ns.fr s'.ents -> Calls Tryz.prog 17 #[.agg (stC GA gn2 gc FA fn2 fc EA en2 ec), .agg (stC GA2 gn2 gc2 FA2 fn2 fc2 EA2 en2 ec2)] W fun e w' => e = .returned (.bool true) /\ Below W.heap.size W w') := hi_ fun W GA gc FA fc EA ec hW hV => RSameS_yes GA gn2 gc FA fn2 fc EA en2 ec GA2 gc2 FA2 fc2 EA2 ec2 s'.ns.g s'.ns.fr s'.ents W hV (hStz.below hW).stv (by omega) (by omega) (by omega) hps
   have SP : Hid (∀ W, Below wz.heap.size wz W -> ((W.cell? ⟨g12, 0, none⟩ = some (.int .i64 i2) /\ W.cell? ⟨g12, 1, none⟩ = some (.int .i64 g2)) /\ (W.cell? ⟨gb, 0, none⟩ = some (.int .i64 i2) /\ W.cell? ⟨gb, 1, none⟩ = some (.int .i64 g2)) /\ W.cell? ⟨g10, 0, none⟩ = some (.slice GA2 gn2 gc2) /\ W.cell? ⟨g10, 1, none⟩ = some (.slice FA2 fn2 fc2) /\ W.cell? ⟨g10, 2, none⟩ = some (.slice EA2 en2 ec2))) := hi_ fun W hW => by
    have b0 := hr12z.under hW
    have b1 := hrbz.under hW
    have b2 := hRz.under hW
    exact ⟨⟨b0.at_ 0, b0.at_ 1⟩, ⟨b1.at_ 0, b1.at_ 1⟩, b2.at_ 0, b2.at_ 1, b2.at_ 2⟩
   have BD : Hid (Below wz.heap.size wz wz.drew) := hi_ (Below.refl _ _).drew
   have s0 := SP.out _ BD.out
   clear hRz hFz hC4 hS' hV4 hkp hc4 hel hl' hS1 hB24 hbw4 hg40 hrC4 hR12 hgA hEE hLL hTN4 hok' hr4 hrl hsa hbs hg12 h4s hZ hzb hN2 h10 h24 hla hlb hcl hBz hCz hStz hrCz hr12z hrbz hVa hVb e1 e2 e3 hS5 hl5 hgl hfl hps HZ HRT HZZ F F2
   refine wp_region_noPanic ?_
   refine wp_region_held_drew (S := fun W => (W.cell? ⟨g12, 0, none⟩ = some (.int .i64 i2) /\ W.cell? ⟨g12, 1, none⟩ = some (.int .i64 g2)) /\ (W.cell? ⟨gb, 0, none⟩ = some (.int .i64 i2) /\ W.cell? ⟨gb, 1, none⟩ = some (.int .i64 g2)) /\ W.cell? ⟨g10, 0, none⟩ = some (.slice GA2 gn2 gc2) /\ W.cell? ⟨g10, 1, none⟩ = some (.slice FA2 fn2 fc2) /\ W.cell? ⟨g10, 2, none⟩ = some (.slice EA2 en2 ec2)) (by kernel_rfl) s0 (fun hHeld => ?_)
   refine wpAnyH_take (i := 0) (oi := ⟨some 74, .load 39 (.tmp 12), 39, "law.go:63", #[], none⟩) (v := ?_) rfl (by kernel_rfl) (by kernel_rfl) (by kernel_rfl) (fun _ _ _ h => h) (Or.inl ⟨by rfl, ?_⟩) (by assumption) ?_
   rotate_left 1
   ·intro w' hSw; (try dsimp only at hSw); go_simp; (try with_reducible rfl)
   simp only [Act.put, sA_, sB_, sC_]
   refine wpAnyH_take (i := 1) (oi := ⟨some 75, .load 39 (.tmp 16), 39, "law.go:63", #[], none⟩) (v := ?_) rfl (by kernel_rfl) (by kernel_rfl) (by kernel_rfl) (fun _ _ _ h => h) (Or.inl ⟨by rfl, ?_⟩) (by assumption) ?_
   rotate_left 1
   ·intro w' hSw; (try dsimp only at hSw); go_simp; (try with_reducible rfl)
   simp only [Act.put, sA_, sB_, sC_]
   refine wpAnyH_take (i := 2) (oi := ⟨some 76, .binOp .neq 39 (.tmp 74) (.tmp 75) 39, 4, "law.go:63", #[⟨0, .data⟩, ⟨1, .data⟩], none⟩) (v := ?_) rfl (by kernel_rfl) (by kernel_rfl) (by kernel_rfl) (fun _ _ _ h => h) (Or.inl ⟨by rfl, ?_⟩) (by assumption) ?_
   rotate_left 1
   ·intro w' hSw; (try dsimp only at hSw); go_simp; (try with_reducible rfl)
   simp only [Act.put, sA_, sB_, sC_]
   refine wpAnyH_take (i := 3) (oi := ⟨some 77, .move (.tmp 76), 4, "law.go:63", #[⟨2, .data⟩], none⟩) (v := ?_) rfl (by kernel_rfl) (by kernel_rfl) (by kernel_rfl) (fun _ _ _ h => h) (Or.inl ⟨by rfl, ?_⟩) (by assumption) ?_
   rotate_left 1
   ·intro w' hSw; (try dsimp only at hSw); go_simp; (try with_reducible rfl)
   simp only [Act.put, sA_, sB_, sC_]
   refine wpAnyH_take (i := 4) (oi := ⟨some 78, .move (.tmp 13), 40, "law.go:63", #[⟨3, .guard⟩], some (3, false)⟩) (v := ?_) rfl (by kernel_rfl) (by kernel_rfl) (by kernel_rfl) (fun _ _ _ h => h) (Or.inl ⟨by rfl, ?_⟩) (by assumption) ?_
   rotate_left 1
   ·intro w' hSw; (try dsimp only at hSw); go_simp; (try with_reducible rfl)
   simp only [Act.put, sA_, sB_, sC_]
   refine wpAnyH_take (i := 5) (oi := ⟨some 79, .move (.tmp 17), 40, "law.go:63", #[⟨3, .guard⟩], some (3, false)⟩) (v := ?_) rfl (by kernel_rfl) (by kernel_rfl) (by kernel_rfl) (fun _ _ _ h => h) (Or.inl ⟨by rfl, ?_⟩) (by assumption) ?_
   rotate_left 1
   ·intro w' hSw; (try dsimp only at hSw); go_simp; (try with_reducible rfl)
   simp only [Act.put, sA_, sB_, sC_]
   refine wpAnyH_ready (rs := [6]) (by kernel_rfl) (by simp) ?_
   refine AllReadyH.cons (o := ⟨some 80, .call { callee := .value (.func 15), args := #[.tmp 78, .tmp 79], argTypes := #[40, 40] }, 4, "law.go:63", #[⟨4, .data⟩, ⟨5, .data⟩, ⟨3, .chain⟩, ⟨3, .guard⟩], some (3, false)⟩) rfl (fun K' hK => ?_) AllReadyH.nil
   go_simp
   go_at_call 15; refine (CSM.out _ BD.out).mono ?_; rintro e w' ⟨rfl, rfl⟩
   refine hK.out _ _ s0 (fun hHeld => ?_)
   clear hK K'
   try simp only [Act.put, sA_, sB_, sC_]
   refine wpAnyH_take (i := 7) (oi := ⟨some 81, .unOp .not 4 (.tmp 80), 4, "law.go:63", #[⟨6, .data⟩, ⟨3, .guard⟩], some (3, false)⟩) (v := ?_) rfl (by kernel_rfl) (by kernel_rfl) (by kernel_rfl) (fun _ _ _ h => h) (Or.inl ⟨by rfl, ?_⟩) (by assumption) ?_
   rotate_left 1
   ·intro w' hSw; (try dsimp only at hSw); go_simp; (try with_reducible rfl)
   simp only [Act.put, sA_, sB_, sC_]
   refine wpAnyH_take (i := 8) (oi := ⟨some 82, .pick (.tmp 77) (.const (.bool true)) (.tmp 81), 4, "law.go:63", #[⟨3, .data⟩, ⟨7, .data⟩], none⟩) (v := ?_) rfl (by kernel_rfl) (by kernel_rfl) (by kernel_rfl) (fun _ _ _ h => h) (Or.inl ⟨by rfl, ?_⟩) (by assumption) ?_
   rotate_left 1
   ·intro w' hSw; (try dsimp only at hSw); go_simp; (try with_reducible rfl)
   simp only [Act.put, sA_, sB_, sC_]
   refine wpAnyH_take (i := 9) (oi := ⟨some 83, .move (.tmp 82), 4, "law.go:63", #[⟨8, .data⟩, ⟨6, .chain⟩], none⟩) (v := ?_) rfl (by kernel_rfl) (by kernel_rfl) (by kernel_rfl) (fun _ _ _ h => h) (Or.inl ⟨by rfl, ?_⟩) (by assumption) ?_
   rotate_left 1
   ·intro w' hSw; (try dsimp only at hSw); go_simp; (try with_reducible rfl)
   simp only [Act.put, sA_, sB_, sC_]
   refine wpAnyH_take (i := 10) (oi := ⟨some 84, .move (.tmp 14), 3, "law.go:63", #[⟨9, .guard⟩], some (9, false)⟩) (v := ?_) rfl (by kernel_rfl) (by kernel_rfl) (by kernel_rfl) (fun _ _ _ h => h) (Or.inl ⟨by rfl, ?_⟩) (by assumption) ?_
   rotate_left 1
   ·intro w' hSw; (try dsimp only at hSw); go_simp; (try with_reducible rfl)
   simp only [Act.put, sA_, sB_, sC_]
   refine wpAnyH_take (i := 11) (oi := ⟨some 85, .move (.tmp 18), 3, "law.go:63", #[⟨9, .guard⟩], some (9, false)⟩) (v := ?_) rfl (by kernel_rfl) (by kernel_rfl) (by kernel_rfl) (fun _ _ _ h => h) (Or.inl ⟨by rfl, ?_⟩) (by assumption) ?_
   rotate_left 1
   ·intro w' hSw; (try dsimp only at hSw); go_simp; (try with_reducible rfl)
   simp only [Act.put, sA_, sB_, sC_]
   refine wpAnyH_take (i := 12) (oi := ⟨some 86, .binOp .neq 3 (.tmp 84) (.tmp 85) 3, 4, "law.go:63", #[⟨10, .data⟩, ⟨11, .data⟩, ⟨9, .guard⟩], some (9, false)⟩) (v := ?_) rfl (by kernel_rfl) (by kernel_rfl) (by kernel_rfl) (fun _ _ _ h => h) (Or.inl ⟨by rfl, ?_⟩) (by assumption) ?_
   rotate_left 1
   ·intro w' hSw; (try dsimp only at hSw); go_simp; (try with_reducible rfl)
   simp only [Act.put, sA_, sB_, sC_]
   refine wpAnyH_take (i := 13) (oi := ⟨some 87, .pick (.tmp 83) (.const (.bool true)) (.tmp 86), 4, "law.go:63", #[⟨9, .data⟩, ⟨12, .data⟩], none⟩) (v := ?_) rfl (by kernel_rfl) (by kernel_rfl) (by kernel_rfl) (fun _ _ _ h => h) (Or.inl ⟨by rfl, ?_⟩) (by assumption) ?_
   rotate_left 1
   ·intro w' hSw; (try dsimp only at hSw); go_simp; (try with_reducible rfl)
   simp only [Act.put, sA_, sB_, sC_]
   refine wpAnyH_take (i := 14) (oi := ⟨some 88, .move (.tmp 87), 4, "law.go:63", #[⟨13, .data⟩, ⟨9, .chain⟩], none⟩) (v := ?_) rfl (by kernel_rfl) (by kernel_rfl) (by kernel_rfl) (fun _ _ _ h => h) (Or.inl ⟨by rfl, ?_⟩) (by assumption) ?_
   rotate_left 1
   ·intro w' hSw; (try dsimp only at hSw); go_simp; (try with_reducible rfl)
   simp only [Act.put, sA_, sB_, sC_]
   refine wpAnyH_take (i := 15) (oi := ⟨some 89, .move (.tmp 9), 30, "law.go:63", #[⟨14, .guard⟩], some (14, false)⟩) (v := ?_) rfl (by kernel_rfl) (by kernel_rfl) (by kernel_rfl) (fun _ _ _ h => h) (Or.inl ⟨by rfl, ?_⟩) (by assumption) ?_
   rotate_left 1
   ·intro w' hSw; (try dsimp only at hSw); go_simp; (try with_reducible rfl)
   simp only [Act.put, sA_, sB_, sC_]
   refine wpAnyH_take (i := 17) (oi := ⟨some 91, .fieldAddr 37 (.tmp 10) 2, 0, "law.go:63", #[⟨14, .guard⟩], some (14, false)⟩) (v := ?_) rfl (by kernel_rfl) (by kernel_rfl) (by kernel_rfl) (fun _ _ _ h => h) (Or.inl ⟨by rfl, ?_⟩) (by assumption) ?_
   rotate_left 1
   ·intro w' hSw; (try dsimp only at hSw); go_simp; (try with_reducible rfl)
   simp only [Act.put, sA_, sB_, sC_]
   refine wpAnyH_take (i := 18) (oi := ⟨some 92, .load 35 (.tmp 91), 35, "law.go:63", #[⟨17, .data⟩, ⟨14, .guard⟩], some (14, false)⟩) (v := ?_) rfl (by kernel_rfl) (by kernel_rfl) (by kernel_rfl) (fun _ _ _ h => h) (Or.inl ⟨by rfl, ?_⟩) (by assumption) ?_
   rotate_left 1
   ·intro w' hSw; (try dsimp only at hSw); go_simp; (try with_reducible rfl)
   simp only [Act.put, sA_, sB_, sC_]
   refine wpAnyH_take (i := 19) (oi := ⟨some 93, .call { callee := .builtin .len, args := #[.tmp 92], argTypes := #[35] }, 3, "law.go:63", #[⟨18, .data⟩, ⟨14, .guard⟩], some (14, false)⟩) (v := ?_) rfl (by kernel_rfl) (by kernel_rfl) (by kernel_rfl) (fun _ _ _ h => h) (Or.inl ⟨by rfl, ?_⟩) (by assumption) ?_
   rotate_left 1
   ·intro w' hSw; (try dsimp only at hSw); go_simp; (try with_reducible rfl)
   simp only [Act.put, sA_, sB_, sC_]
   refine wpAnyH_ready (rs := [16]) (by kernel_rfl) (by simp) ?_
   refine AllReadyH.cons (o := ⟨some 90, .call { callee := .value (.func 16), args := #[.tmp 89], argTypes := #[30] }, 3, "law.go:63", #[⟨15, .data⟩, ⟨14, .chain⟩, ⟨14, .guard⟩], some (14, false)⟩) rfl (fun K' hK => ?_) AllReadyH.nil
   go_simp
   go_at_call 16; refine (CCN.out _ BD.out).mono ?_; rintro e w' ⟨rfl, rfl⟩
   refine hK.out _ _ s0 (fun hHeld => ?_)
   clear hK K'
   try simp only [Act.put, sA_, sB_, sC_]
   refine wpAnyH_take (i := 20) (oi := ⟨some 94, .binOp .neq 3 (.tmp 90) (.tmp 93) 3, 4, "law.go:63", #[⟨16, .data⟩, ⟨19, .data⟩, ⟨14, .guard⟩], some (14, false)⟩) (v := ?_) rfl (by kernel_rfl) (by kernel_rfl) (by kernel_rfl) (fun _ _ _ h => h) (Or.inl ⟨by rfl, ?_⟩) (by assumption) ?_
   rotate_left 1
   ·intro w' hSw; (try dsimp only at hSw); go_simp; (try with_reducible rfl)
   simp only [Act.put, sA_, sB_, sC_]
   refine wpAnyH_take (i := 21) (oi := ⟨some 95, .pick (.tmp 88) (.const (.bool true)) (.tmp 94), 4, "law.go:63", #[⟨14, .data⟩, ⟨20, .data⟩], none⟩) (v := ?_) rfl (by kernel_rfl) (by kernel_rfl) (by kernel_rfl) (fun _ _ _ h => h) (Or.inl ⟨by rfl, ?_⟩) (by assumption) ?_
   rotate_left 1
   ·intro w' hSw; (try dsimp only at hSw); go_simp; (try with_reducible rfl)
   simp only [Act.put, sA_, sB_, sC_]
   refine wpAnyH_take (i := 22) (oi := ⟨some 96, .move (.tmp 95), 4, "law.go:63", #[⟨21, .data⟩, ⟨16, .chain⟩], none⟩) (v := ?_) rfl (by kernel_rfl) (by kernel_rfl) (by kernel_rfl) (fun _ _ _ h => h) (Or.inl ⟨by rfl, ?_⟩) (by assumption) ?_
   rotate_left 1
   ·intro w' hSw; (try dsimp only at hSw); go_simp; (try with_reducible rfl)
   simp only [Act.put, sA_, sB_, sC_]
   refine wpAnyH_take (i := 23) (oi := ⟨some 97, .move (.tmp 9), 30, "law.go:63", #[⟨22, .guard⟩], some (22, false)⟩) (v := ?_) rfl (by kernel_rfl) (by kernel_rfl) (by kernel_rfl) (fun _ _ _ h => h) (Or.inl ⟨by rfl, ?_⟩) (by assumption) ?_
   rotate_left 1
   ·intro w' hSw; (try dsimp only at hSw); go_simp; (try with_reducible rfl)
   simp only [Act.put, sA_, sB_, sC_]
   refine wpAnyH_take (i := 25) (oi := ⟨some 99, .load 37 (.tmp 10), 37, "law.go:63", #[⟨22, .guard⟩], some (22, false)⟩) (v := ?_) rfl (by kernel_rfl) (by kernel_rfl) (by kernel_rfl) (fun _ _ _ h => h) (Or.inl ⟨by rfl, ?_⟩) (by assumption) ?_
   rotate_left 1
   ·intro w' hSw; (try dsimp only at hSw); go_simp; (try with_reducible rfl)
   simp only [Act.put, sA_, sB_, sC_]
   refine wpAnyH_ready (rs := [24]) (by kernel_rfl) (by simp) ?_
   refine AllReadyH.cons (o := ⟨some 98, .call { callee := .value (.func 18), args := #[.tmp 97], argTypes := #[30] }, 37, "law.go:63", #[⟨23, .data⟩, ⟨22, .chain⟩, ⟨22, .guard⟩], some (22, false)⟩) rfl (fun K' hK => ?_) AllReadyH.nil
   go_simp
   go_at_call 18; refine (CST.out _ BD.out).mono ?_; rintro e w9 ⟨GA3, gc3, FA3, fc3, EA3, ec3, rfl, hS3, hb3⟩
   have H9 := hi_ (And.intro hS3 (BD.out.trans (hb3.mono BD.out.size)))
   have s9 := SP.out w9 H9.out.2
   clear hS3 hb3
   refine hK.out _ _ s9 (fun hHeld => ?_)
   clear hK K'
   try simp only [Act.put, sA_, sB_, sC_]
   refine wpAnyH_ready (rs := [26]) (by kernel_rfl) (by simp) ?_
   refine AllReadyH.cons (o := ⟨some 100, .call { callee := .value (.func 17), args := #[.tmp 98, .tmp 99], argTypes := #[37, 37] }, 4, "law.go:63", #[⟨24, .data⟩, ⟨25, .data⟩, ⟨24, .chain⟩, ⟨22, .guard⟩], some (22, false)⟩) rfl (fun K' hK => ?_) AllReadyH.nil
   go_simp
   go_at_call 17; refine (CSS.out w9 GA3 gc3 FA3 fc3 EA3 ec3 H9.out.2 H9.out.1).mono ?_; rintro e w10 ⟨rfl, hb10⟩
   have H10 := hi_ (H9.out.2.trans (hb10.mono H9.out.2.size))
   have s10 := SP.out w10 H10.out
   clear hb10
   refine hK.out _ _ s10 (fun hHeld => ?_)
   clear hK K'
   try simp only [Act.put, sA_, sB_, sC_]
   refine wpAnyH_take (i := 27) (oi := ⟨some 101, .unOp .not 4 (.tmp 100), 4, "law.go:63", #[⟨26, .data⟩, ⟨22, .guard⟩], some (22, false)⟩) (v := ?_) rfl (by kernel_rfl) (by kernel_rfl) (by kernel_rfl) (fun _ _ _ h => h) (Or.inl ⟨by rfl, ?_⟩) (by assumption) ?_
   rotate_left 1
   ·intro w' hSw; (try dsimp only at hSw); go_simp; (try with_reducible rfl)
   simp only [Act.put, sA_, sB_, sC_]
   refine wpAnyH_take (i := 28) (oi := ⟨some 102, .pick (.tmp 96) (.const (.bool true)) (.tmp 101), 4, "law.go:63", #[⟨22, .data⟩, ⟨27, .data⟩], none⟩) (v := ?_) rfl (by kernel_rfl) (by kernel_rfl) (by kernel_rfl) (fun _ _ _ h => h) (Or.inl ⟨by rfl, ?_⟩) (by assumption) ?_
   rotate_left 1
   ·intro w' hSw; (try dsimp only at hSw); go_simp; (try with_reducible rfl)
   simp only [Act.put, sA_, sB_, sC_]
   refine wpAnyH_done (by kernel_rfl) ?_ _
   refine NoPanic.normal ?_
   clear hHeld s0 s9 s10
   go_wp2
   go_roundw
   case rel => exact ⟨j + 1, k', gr', pt', c + 4, s', ⟨GA2, gn2, gc2, FA2, fn2, fc2, EA2, en2, ec2⟩, hlt, by go_num, LIN.out.1.below (Nat.le_of_lt_succ (Nat.lt_succ_of_le LIN.out.1.co.Nle)) H10.out, LIN.out.2.1, LIN.out.2.2.1, LIN.out.2.2.2.under H10.out⟩
   case measure => simp [intOf]; omega
  ·obtain rfl : j = ln := by omega
   obtain ⟨GA, gn', gc, FA, fn, fc, EA, en', ec⟩ := d
   obtain ⟨ys, hys⟩ : ∃ ys, ys = (s.ents.filter (fitE wi wo)).map (·.1) := ⟨_, rfl⟩
   obtain ⟨qn, hqn⟩ : ∃ q, q = ys.length := ⟨_, rfl⟩
   have hok : s.Ok (szX ks) := by have := hSim.ok; rw [hxks] at this; exact this
   have hql : qn <= 1000000 := by
    rw [hqn, hys, List.length_map]
    have := List.length_filter_le (fitE wi wo) s.ents
    omega
   have hps : ∀ e ∈ s.ents, e.2.length <= 1000000 := fun e he => by
    have h1 := (hok.parts e he).len
    rw [show (szX ks).length = ks.length by simp [szX]] at h1
    have h3 : ks.length <= 32 := HRI.out.1.2.2.2.2
    omega
   have hS5 : k.S.length <= 5000 := by omega
   have e3 : en' = s.ents.length := hSt.en
   have CQ : Hid (∀ W, Below wr.heap.size wr W -> Calls Tryz.prog 20 #[.pointer (some ⟨x.p, 0, none⟩), .int .u64 wi, .int .u64 wo] W fun e w' => ∃ QA qc, e = .returned (.slice QA qn qc) /\ IdsV (fun y => W.heap.size <= y) w' QA qn ys /\ Below W.heap.size W w') := hi_ fun W hW => by
    refine (equery_yes (hC.below hW) wi wo hwi hwo hS5).mono ?_
    rintro e w' ⟨QA, m, cc, zs, rfl, hm, hI, hp, hu, hb⟩
    have hz := hSim.query HX.out (fun n t ht => hC.tok ht) hp hu
    rw [<- hys] at hz
    subst hz
    have hmq : m = qn := by rw [hm, hqn]
    subst hmq
    exact ⟨QA, cc, rfl, hI, hb⟩
   have CU : Hid (∀ W, Below wr.heap.size wr W -> Calls Tryz.prog 21 #[.agg (stC GA gn' gc FA fn fc EA en' ec), .int .u64 wi, .int .u64 wo] W fun e w' => ∃ UA uc, e = .returned (.slice UA qn uc) /\ IdsV (fun y => W.heap.size <= y) w' UA qn ys /\ Below W.heap.size W w') := hi_ fun W hW => by
    have := RQuery_any W _ s (hSt.below hW) (by rw [show (⟨GA, gn', gc, FA, fn, fc, EA, en', ec⟩ : Rst).en = en' from rfl, e3]; omega) hps wi wo hwi hwo
    rw [<- hys, <- hqn] at this
    exact this
   have CL : Hid (∀ W, Below wr.heap.size wr W -> Calls Tryz.prog 8 #[] W fun e w' => e = .returned (.bool true) /\ Below W.heap.size W w') := hi_ fun W hW => elive_any W (HR.out.2.2.below (hbw.trans (hW.mono hbw.size)))
   have SP : Hid (∀ W, Below wr.heap.size wr W -> (W.cell? ⟨g10, 0, none⟩ = some (.slice GA gn' gc) /\ W.cell? ⟨g10, 1, none⟩ = some (.slice FA fn fc) /\ W.cell? ⟨g10, 2, none⟩ = some (.slice EA en' ec))) := hi_ fun W hW => by
    have b2 := hr10.under hW
    exact ⟨b2.at_ 0, b2.at_ 1, b2.at_ 2⟩
   have BD : Hid (Below wr.heap.size wr wr.drew) := hi_ (Below.refl _ _).drew
   have s0 := SP.out _ BD.out
   have HBR := hi_ hbw
   have HQN := hi_ hql
   clear hC hSim hSt hr10 hg0 hc4 hS1 hel hB2 hEE hLL hrC hC4' hOf hx6 hxks hbw hTN hN2 hCs hys hqn hok hql hps hS5 e3
   go_upto_region 17 with fail
   refine wp_region_noPanic ?_
   refine wp_region_held_drew (S := fun W => W.cell? ⟨g10, 0, none⟩ = some (.slice GA gn' gc) /\ W.cell? ⟨g10, 1, none⟩ = some (.slice FA fn fc) /\ W.cell? ⟨g10, 2, none⟩ = some (.slice EA en' ec)) (by kernel_rfl) s0 (fun hHeld => ?_)
   refine wpAnyH_take (i := 0) (oi := ⟨some 103, .move (.tmp 9), 30, "law.go:67", #[], none⟩) (v := ?_) rfl (by kernel_rfl) (by kernel_rfl) (by kernel_rfl) (fun _ _ _ h => h) (Or.inl ⟨by rfl, ?_⟩) (by assumption) ?_
   rotate_left 1
   ·intro w' hSw; (try dsimp only at hSw); go_simp; (try with_reducible rfl)
   simp only [Act.put, sA_, sB_, sC_]
   refine wpAnyH_take (i := 1) (oi := ⟨some 104, .move (.tmp 2), 26, "law.go:67", #[], none⟩) (v := ?_) rfl (by kernel_rfl) (by kernel_rfl) (by kernel_rfl) (fun _ _ _ h => h) (Or.inl ⟨by rfl, ?_⟩) (by assumption) ?_
   rotate_left 1
   ·intro w' hSw; (try dsimp only at hSw); go_simp; (try with_reducible rfl)
   simp only [Act.put, sA_, sB_, sC_]
   refine wpAnyH_take (i := 2) (oi := ⟨some 105, .move (.tmp 3), 26, "law.go:67", #[], none⟩) (v := ?_) rfl (by kernel_rfl) (by kernel_rfl) (by kernel_rfl) (fun _ _ _ h => h) (Or.inl ⟨by rfl, ?_⟩) (by assumption) ?_
   rotate_left 1
   ·intro w' hSw; (try dsimp only at hSw); go_simp; (try with_reducible rfl)
   simp only [Act.put, sA_, sB_, sC_]
   refine wpAnyH_take (i := 4) (oi := ⟨some 107, .load 37 (.tmp 10), 37, "law.go:67", #[], none⟩) (v := ?_) rfl (by kernel_rfl) (by kernel_rfl) (by kernel_rfl) (fun _ _ _ h => h) (Or.inl ⟨by rfl, ?_⟩) (by assumption) ?_
   rotate_left 1
   ·intro w' hSw; (try dsimp only at hSw); go_simp; (try with_reducible rfl)
   simp only [Act.put, sA_, sB_, sC_]
   refine wpAnyH_take (i := 5) (oi := ⟨some 108, .move (.tmp 2), 26, "law.go:67", #[], none⟩) (v := ?_) rfl (by kernel_rfl) (by kernel_rfl) (by kernel_rfl) (fun _ _ _ h => h) (Or.inl ⟨by rfl, ?_⟩) (by assumption) ?_
   rotate_left 1
   ·intro w' hSw; (try dsimp only at hSw); go_simp; (try with_reducible rfl)
   simp only [Act.put, sA_, sB_, sC_]
   refine wpAnyH_take (i := 6) (oi := ⟨some 109, .move (.tmp 3), 26, "law.go:67", #[], none⟩) (v := ?_) rfl (by kernel_rfl) (by kernel_rfl) (by kernel_rfl) (fun _ _ _ h => h) (Or.inl ⟨by rfl, ?_⟩) (by assumption) ?_
   rotate_left 1
   ·intro w' hSw; (try dsimp only at hSw); go_simp; (try with_reducible rfl)
   simp only [Act.put, sA_, sB_, sC_]
   refine wpAnyH_ready (rs := [3]) (by kernel_rfl) (by simp) ?_
   refine AllReadyH.cons (o := ⟨some 106, .call { callee := .value (.func 20), args := #[.tmp 103, .tmp 104, .tmp 105], argTypes := #[30, 26, 26] }, 52, "law.go:67", #[⟨0, .data⟩, ⟨1, .data⟩, ⟨2, .data⟩], none⟩) rfl (fun K' hK => ?_) AllReadyH.nil
   go_simp
   go_at_call 20; refine (CQ.out _ BD.out).mono ?_; rintro e w9 ⟨QA, qc, rfl, hI9, hb9⟩
   have H9 := hi_ (And.intro hI9 (BD.out.trans (hb9.mono BD.out.size)))
   have s9 := SP.out w9 H9.out.2
   clear hI9 hb9
   refine hK.out _ _ s9 (fun hHeld => ?_)
   clear hK K'
   try simp only [Act.put, sA_, sB_, sC_]
   refine wpAnyH_ready (rs := [7]) (by kernel_rfl) (by simp) ?_
   refine AllReadyH.cons (o := ⟨some 110, .call { callee := .value (.func 21), args := #[.tmp 107, .tmp 108, .tmp 109], argTypes := #[37, 26, 26] }, 52, "law.go:67", #[⟨4, .data⟩, ⟨5, .data⟩, ⟨6, .data⟩, ⟨3, .chain⟩], none⟩) rfl (fun K' hK => ?_) AllReadyH.nil
   go_simp
   go_at_call 21; refine (CU.out w9 H9.out.2).mono ?_; rintro e w10 ⟨UA, uc, rfl, hI10, hb10⟩
   have H10 := hi_ (And.intro hI10 (And.intro (H9.out.2.trans (hb10.mono H9.out.2.size)) (IdsV.below H9.out.1 hb10)))
   have s10 := SP.out w10 H10.out.2.1
   clear hI10 hb10
   refine hK.out _ _ s10 (fun hHeld => ?_)
   clear hK K'
   try simp only [Act.put, sA_, sB_, sC_]
   refine wpAnyH_ready (rs := [8]) (by kernel_rfl) (by simp) ?_
   refine AllReadyH.cons (o := ⟨some 111, .call { callee := .value (.func 19), args := #[.tmp 106, .tmp 110], argTypes := #[52, 52] }, 4, "law.go:67", #[⟨3, .data⟩, ⟨7, .data⟩, ⟨7, .chain⟩], none⟩) rfl (fun K' hK => ?_) AllReadyH.nil
   go_simp
   go_at_call 19; refine (SameIDs_yes QA UA qn qc uc ys w10 H10.out.2.2 H10.out.1 HQN.out).mono ?_; rintro e w11 ⟨rfl, hb11⟩
   have H11 := hi_ (H10.out.2.1.trans (hb11.mono H10.out.2.1.size))
   have s11 := SP.out w11 H11.out
   clear hb11
   refine hK.out _ _ s11 (fun hHeld => ?_)
   clear hK K'
   try simp only [Act.put, sA_, sB_, sC_]
   refine wpAnyH_take (i := 9) (oi := ⟨some 112, .move (.tmp 111), 4, "law.go:67", #[⟨8, .data⟩, ⟨8, .chain⟩], none⟩) (v := ?_) rfl (by kernel_rfl) (by kernel_rfl) (by kernel_rfl) (fun _ _ _ h => h) (Or.inl ⟨by rfl, ?_⟩) (by assumption) ?_
   rotate_left 1
   ·intro w' hSw; (try dsimp only at hSw); go_simp; (try with_reducible rfl)
   simp only [Act.put, sA_, sB_, sC_]
   refine wpAnyH_ready (rs := [10]) (by kernel_rfl) (by simp) ?_
   refine AllReadyH.cons (o := ⟨some 113, .call { callee := .value (.func 8), args := #[], argTypes := #[] }, 4, "law.go:67", #[⟨9, .chain⟩, ⟨9, .guard⟩], some (9, true)⟩) rfl (fun K' hK => ?_) AllReadyH.nil
   go_simp
   go_at_call 8; refine (CL.out w11 H11.out).mono ?_; rintro e w12 ⟨rfl, hb12⟩
   have H12 := hi_ (H11.out.trans (hb12.mono H11.out.size))
   have s12 := SP.out w12 H12.out
   clear hb12
   refine hK.out _ _ s12 (fun hHeld => ?_)
   clear hK K'
   try simp only [Act.put, sA_, sB_, sC_]
   refine wpAnyH_take (i := 11) (oi := ⟨some 114, .pick (.tmp 112) (.tmp 113) (.const (.bool false)), 4, "law.go:67", #[⟨9, .data⟩, ⟨10, .data⟩], none⟩) (v := ?_) rfl (by kernel_rfl) (by kernel_rfl) (by kernel_rfl) (fun _ _ _ h => h) (Or.inl ⟨by rfl, ?_⟩) (by assumption) ?_
   rotate_left 1
   ·intro w' hSw; (try dsimp only at hSw); go_simp; (try with_reducible rfl)
   simp only [Act.put, sA_, sB_, sC_]
   refine wpAnyH_take (i := 12) (oi := ⟨some 8, .assign (.tmp 114), 4, "law.go:67", #[⟨11, .data⟩, ⟨10, .chain⟩, ⟨0, .phase⟩, ⟨1, .phase⟩, ⟨2, .phase⟩, ⟨3, .phase⟩, ⟨4, .phase⟩, ⟨5, .phase⟩, ⟨6, .phase⟩, ⟨7, .phase⟩, ⟨8, .phase⟩, ⟨9, .phase⟩, ⟨10, .phase⟩, ⟨11, .phase⟩], none⟩) (v := ?_) rfl (by kernel_rfl) (by kernel_rfl) (by kernel_rfl) (fun _ _ _ h => h) (Or.inl ⟨by rfl, ?_⟩) (by assumption) ?_
   rotate_left 1
   ·intro w' hSw; (try dsimp only at hSw); go_simp; (try with_reducible rfl)
   simp only [Act.put, sA_, sB_, sC_]
   refine wpAnyH_done (by kernel_rfl) ?_ _
   refine NoPanic.normal ?_
   clear hHeld s0 s9 s10 s11 s12
   go_wp2
   go_ret
   exact ⟨rfl, HBR.out.trans (H12.out.mono HBR.out.size)⟩
end
end Go.Proofs.YthiknmhkdeicjaaGreatDoor
