/- The law IdsLoads, walked. -/
import Derived.Test.YtldabjgnnmoneaaIdW1
import Derived.Test.YtldabjgnnmoneaaIdT
namespace Go.Proofs.Ytldabjgnnmoneaa
open Go.RowKit

set_option maxRecDepth 100000 in
set_option maxHeartbeats 4000000 in
theorem IdsLoads_big (nE nG : Int) (GA : Option Addr) (gn gc : Nat) (FA : Option Addr) (fn fc : Nat) (A : Option Addr) (n c : Nat) (i gen : Int) (w0 : World)
    (hn : (n : Int) ≤ 9223372036854775807) (hgn : (gn : Int) ≤ 9223372036854775807) (hfn : (fn : Int) ≤ 9223372036854775807) (hbig : ¬ (n ≤ 60 ∧ gn ≤ 1100 ∧ fn ≤ 100)) :
    Calls Try.prog 5 #[.int .i64 nE, .int .i64 nG, .slice GA gn gc, .slice FA fn fc, .slice A n c, .agg #[.int .i64 i, .int .i64 gen]] w0 fun e w' => e = .returned (.bool true) ∧ Below w0.heap.size w0 w' := by
  obtain ⟨w, hw0⟩ : ∃ w, w = w0.alloc (.cells #[.int .i64 i, .int .i64 gen] 24) := ⟨_, rfl⟩
  have hb0 : Below w0.heap.size w0 w := by rw [hw0]; exact (Below.refl _ _).alloc (Nat.le_refl _) _
  have HL := Lib.hid (live_any w)
  have HB0 := Lib.hid hb0
  clear hb0
  by_cases h1 : n ≤ 60
  · by_cases h2 : gn ≤ 1100
    · have h3 : ¬ fn ≤ 100 := fun h3 => hbig ⟨h1, h2, h3⟩
      clear hbig
      go_enter Try.func5, Try.ntmps5
      go_wp2_with (first
        | (rw [← hw0]; clear hw0)
        | (go_at_call 6; refine HL.out.mono ?_; rintro e w1 ⟨rfl, hB1⟩))
      go_ret
      exact ⟨rfl, HB0.out.trans (hB1.mono HB0.out.size)⟩
    · clear hbig
      go_enter Try.func5, Try.ntmps5
      go_wp2_with (first
        | (rw [← hw0]; clear hw0)
        | (go_at_call 6; refine HL.out.mono ?_; rintro e w1 ⟨rfl, hB1⟩))
      go_ret
      exact ⟨rfl, HB0.out.trans (hB1.mono HB0.out.size)⟩
  · clear hbig
    go_enter Try.func5, Try.ntmps5
    go_wp2_with (first
      | (rw [← hw0]; clear hw0)
      | (go_at_call 6; refine HL.out.mono ?_; rintro e w1 ⟨rfl, hB1⟩))
    go_ret
    exact ⟨rfl, HB0.out.trans (hB1.mono HB0.out.size)⟩

set_option maxRecDepth 100000 in
set_option maxHeartbeats 4000000 in
theorem IdsLoads_walk (nE nG : Int) (GA0 : Option Addr) (gn0 gc0 : Nat) (gs : List Int) (FA0 : Option Addr) (fn0 fc0 : Nat) (fs : List Int) (A : Option Addr) (n c : Nat) (st : List Stg) (i gen : Int) (w0 : World)
    (hg : IRd w0 GA0 gn0 gs) (hf : IRd w0 FA0 fn0 fs) (hgc : gn0 ≤ gc0) (hfc : fn0 ≤ fc0) (h : TRd w0 A n st) (hn60 : n ≤ 60) (hgn : gn0 ≤ 1100) (hfn : fn0 ≤ 100) :
    Calls Try.prog 5 #[.int .i64 nE, .int .i64 nG, .slice GA0 gn0 gc0, .slice FA0 fn0 fc0, .slice A n c, .agg #[.int .i64 i, .int .i64 gen]] w0 fun e w' => e = .returned (.bool true) ∧ Below w0.heap.size w0 w' := by
  obtain ⟨w, hw0⟩ : ∃ w, w = w0.alloc (.cells #[.int .i64 i, .int .i64 gen] 24) := ⟨_, rfl⟩
  have hb0 : Below w0.heap.size w0 w := by rw [hw0]; exact (Below.refl _ _).alloc (Nat.le_refl _) _
  have hI0 : Rec 24 w w0.heap.size #[.int .i64 i, .int .i64 gen] := by rw [hw0]; exact Rec.new _ _ _
  have hgw := hg.below hb0
  have hfw := hf.below hb0
  have CL := Load_any nE nG GA0 gn0 gc0 gs FA0 fn0 fc0 fs w hgw hfw hgn hfn
  have CR : ∀ W, Below w.heap.size w W → Calls Try.prog 14 #[.int .i64 nE, .int .i64 nG, .slice GA0 gn0 gc0, .slice FA0 fn0 fc0] W (RLdSaid W ⟨(nears nE 1024).toNat, nears nG 1073741824, gs, fs⟩ ⟨nears nE 1024, nears nG 1073741824, GA0, gn0, gc0, FA0, fn0, fc0⟩) := fun W hW => RLoad_any nE nG GA0 gn0 gc0 gs FA0 fn0 fc0 fs W (hgw.below hW) (hfw.below hW) hgn hfn hfc
  have hbE := nears_bounds nE 1024 (by decide)
  obtain ⟨E0, hE0⟩ : ∃ E0 : Nat, nears nE 1024 = (E0 : Int) := ⟨(nears nE 1024).toNat, by omega⟩
  obtain ⟨L0, hL0⟩ : ∃ L0, nears nG 1073741824 = L0 := ⟨_, rfl⟩
  rw [hE0, hL0, Int.toNat_natCast] at CL
  have CR : ∀ W, Below w.heap.size w W → Calls Try.prog 14 #[.int .i64 nE, .int .i64 nG, .slice GA0 gn0 gc0, .slice FA0 fn0 fc0] W (RLdSaid W ⟨E0, L0, gs, fs⟩ ⟨E0, L0, GA0, gn0, gc0, FA0, fn0, fc0⟩) := fun W hW => by
    have := CR W hW
    rw [hE0, hL0, Int.toNat_natCast] at this
    exact this
  have HB0 := Lib.hid hb0
  have HI0 := Lib.hid hI0
  have H := Lib.hid (h.below hb0)
  have HGW := Lib.hid hgw
  have HFW := Lib.hid hfw
  have CL1 := Lib.hid CL
  have CR1 := Lib.hid CR
  have ngt1 : decide (60 < n) = false := decide_eq_false (by omega)
  have ngt2 : decide (1100 < gn0) = false := decide_eq_false (by omega)
  have ngt3 : decide (100 < fn0) = false := decide_eq_false (by omega)
  have ngt1' : decide ((60 : Int) < n) = false := decide_eq_false (by omega)
  have ngt2' : decide ((1100 : Int) < gn0) = false := decide_eq_false (by omega)
  have ngt3' : decide ((100 : Int) < fn0) = false := decide_eq_false (by omega)
  clear hb0 hI0 h hgw hfw hg hf CL CR hbE hE0 hL0
  by_cases hok : LdOk ⟨E0, L0, gs, fs⟩
  case neg =>
    have CL2 : Hid (Calls Try.prog 13 #[.int .i64 nE, .int .i64 nG, .slice GA0 gn0 gc0, .slice FA0 fn0 fc0] w fun e w' => e = .returned (.tuple #[.pointer none, .int .i64 11]) ∧ Below w.heap.size w w') := Lib.hid (CL1.out.mono fun e w' hh => by rcases hh with hh | hh; exact absurd hh.1 hok; exact hh.2)
    have CR2 : Hid (∀ W, Below w.heap.size w W → Calls Try.prog 14 #[.int .i64 nE, .int .i64 nG, .slice GA0 gn0 gc0, .slice FA0 fn0 fc0] W fun e w' => e = .returned (.tuple #[.agg #[.int .i64 0, .int .i64 0, .slice none 0 0, .slice none 0 0], .int .i64 11]) ∧ Below W.heap.size W w') := Lib.hid (fun W hW => (CR1.out W hW).mono fun e w' hh => by rcases hh with hh | hh; exact absurd hh.1 hok; exact hh.2)
    clear CL1 CR1
    go_enter Try.func5, Try.ntmps5
    go_wp2_with (first
      | (rw [← hw0]; clear hw0)
      | ((go_at_call 13); refine CL2.out.mono ?_; rintro e w1 ⟨rfl, hB1⟩; have CR3 := Lib.hid (CR2.out w1 hB1); have HB1 := Lib.hid hB1; clear hB1)
      | ((go_at_call 14); refine CR3.out.mono ?_; rintro e w2 ⟨rfl, hB2⟩; have HB2 := Lib.hid (HB1.out.trans (hB2.mono HB1.out.size)); clear hB2)
      | ((go_at_call 15); refine (code_any _ _).mono ?_; rintro e w' ⟨rfl, rfl⟩)
      | ((go_at_call 6); refine (live_any _).mono ?_; rintro e w9 ⟨rfl, hB9⟩))
    go_ret
    have hb3 : Below w.heap.size w (w2.alloc (.cells #[.int .i64 0, .int .i64 0, .slice none 0 0, .slice none 0 0] 30)) := HB2.out.alloc HB2.out.size _
    exact ⟨rfl, HB0.out.trans ((hb3.trans (hB9.mono hb3.size)).mono HB0.out.size)⟩
  have CL2 : Hid (Calls Try.prog 13 #[.int .i64 nE, .int .i64 nG, .slice GA0 gn0 gc0, .slice FA0 fn0 fc0] w fun e w' => ∃ p, e = .returned (.tuple #[.pointer (some ⟨p, 0, none⟩), .int .i64 0]) ∧ Idv w w' p (· < w.heap.size) ⟨E0, L0, gs, fs⟩) := Lib.hid (CL1.out.mono fun e w' hh => by rcases hh with hh | hh; exact hh.2; exact absurd hok hh.1)
  have CR2 : Hid (∀ W, Below w.heap.size w W → Calls Try.prog 14 #[.int .i64 nE, .int .i64 nG, .slice GA0 gn0 gc0, .slice FA0 fn0 fc0] W fun e w' => e = .returned (.tuple #[.agg #[.int .i64 E0, .int .i64 L0, .slice GA0 gn0 gc0, .slice FA0 fn0 fc0], .int .i64 0]) ∧ Below W.heap.size W w') := Lib.hid (fun W hW => (CR1.out W hW).mono fun e w' hh => by rcases hh with hh | hh; exact hh.2; exact absurd hok hh.1)
  clear CL1 CR1 hok
  go_enter Try.func5, Try.ntmps5
  go_wp2_with (first
    | (rw [← hw0]; clear hw0)
    | ((go_at_call 13); refine CL2.out.mono ?_; rintro e w1 ⟨p, rfl, hD1⟩; have CR3 := Lib.hid (CR2.out w1 hD1.under); have HD1 := Lib.hid hD1; clear hD1)
    | ((go_at_call 14); refine CR3.out.mono ?_; rintro e w2 ⟨rfl, hB2⟩; have hD2 := HD1.out.below hB2; obtain ⟨w3, hw3⟩ : ∃ w3, w3 = w2.alloc (.cells #[.int .i64 E0, .int .i64 L0, .slice GA0 gn0 gc0, .slice FA0 fn0 fc0] 30) := ⟨_, rfl⟩; have b3 : Below w2.heap.size w2 w3 := (by rw [hw3]; exact (Below.refl _ _).alloc (Nat.le_refl _) _); obtain ⟨g, hg⟩ : ∃ g, g = w2.heap.size := ⟨_, rfl⟩; have hT3 : Rec 30 w3 g #[.int .i64 E0, .int .i64 L0, .slice GA0 gn0 gc0, .slice FA0 fn0 fc0] := (by rw [hw3, hg]; exact Rec.new _ _ _); have hwg : w.heap.size ≤ g := (by rw [hg]; exact hD2.under.size); have HD3 : Hid (Idv w w3 p (fun x => x < w.heap.size ∨ x = g ∨ x < w.heap.size) ⟨E0, L0, gs, fs⟩) := Lib.hid ((hD2.more b3 (fun x => x = g) (fun x hx => by rw [hx, hg]; exact ⟨Nat.le_refl _, by rw [← hg]; exact hT3.lt⟩)).less (fun x hx => by rcases hx with h | h | h; exact .inl h; exact .inr h; exact .inl h)); have hu3 := HD3.out.under; have HS3 : Hid (RS (fun x => x < w.heap.size) w3 ⟨E0, L0, GA0, gn0, gc0, FA0, fn0, fc0⟩ ⟨E0, L0, gs, fs⟩) := Lib.hid { E := rfl, L := rfl, gn := HGW.out.1.symm, fn := HFW.out.1.symm, g := ⟨HGW.out.own_below (Nat.le_refl _) hu3, fun hp b o e => by obtain ⟨b', o', e', hlt, _⟩ := HGW.out.2 hp; simp only at e; rw [e] at e'; injection e' with e'; injection e' with e1 _; omega⟩, f := ⟨HFW.out.own_below (Nat.le_refl _) hu3, fun hp b o e => by obtain ⟨b', o', e', hlt, _⟩ := HFW.out.2 hp; simp only at e; rw [e] at e'; injection e' with e'; injection e' with e1 _; omega⟩, gc := hgc, fc := hfc }; have CS3 := Lib.hid (same_idv HD3.out HS3.out i gen); have HT3 := Lib.hid hT3; have HI3 := Lib.hid (HI0.out.below hu3 HI0.out.lt); have r0 : w3.cell? ⟨g, 0, none⟩ = some (.int .i64 E0) := hT3.at_ 0; have r1 : w3.cell? ⟨g, 1, none⟩ = some (.int .i64 L0) := hT3.at_ 1; have r2 : w3.cell? ⟨g, 2, none⟩ = some (.slice GA0 gn0 gc0) := hT3.at_ 2; have r3 : w3.cell? ⟨g, 3, none⟩ = some (.slice FA0 fn0 fc0) := hT3.at_ 3; have i0 : w3.cell? ⟨w0.heap.size, 0, none⟩ = some (.int .i64 i) := HI3.out.at_ 0; have i1 : w3.cell? ⟨w0.heap.size, 1, none⟩ = some (.int .i64 gen) := HI3.out.at_ 1; have HW3 := Lib.hid hw3; have HG := Lib.hid hg; clear hB2 hD2 hw3 b3 hg hT3 hu3)
    | (rw [← HW3.out, ← HG.out])
    | ((go_at_call 15); refine (code_any _ _).mono ?_; rintro e w' ⟨rfl, rfl⟩)
    | ((go_at_call 11); refine CS3.out.mono ?_; rintro e w4 ⟨rfl, hB4⟩; have HI : Hid (StepI w p g w4) := Lib.hid ⟨fun x => x < w.heap.size, ⟨E0, L0, gs, fs⟩, ⟨E0, L0, GA0, gn0, gc0, FA0, fn0, fc0⟩, by omega, hwg, HD3.out.below hB4, HT3.out.under hB4, HS3.out.below hB4⟩; clear hB4))
  go_loopw [17] (fun iv wr => ∃ j : Nat, j ≤ n ∧ iv = .int .i64 j ∧ StepI w p g wr) (fun iv _ => n - (intOf iv).toNat)
  case atStart => exact ⟨0, Nat.zero_le _, rfl, HI.out⟩
  case round =>
    obtain ⟨j, hj, rfl, hI⟩ := hrel
    by_cases hlt : j < n
    · obtain ⟨kr, s, ⟨E, L, GA, gn, gc, FA, fn, fc⟩, hkg, hwg, hD, hR, hRS⟩ := hI
      obtain ⟨b, o, hA, hbw, hc⟩ := H.out.2 (by omega)
      have hjl : j < st.length := by have := H.out.1; omega
      obtain ⟨q0, q1, q2⟩ := hc j hjl
      obtain ⟨y, hy⟩ : ∃ y, y = st[j] := ⟨_, rfl⟩
      rw [← hy] at q0 q1 q2
      obtain ⟨s', x', cd, hgo⟩ : ∃ s' x' cd, s.go y = (s', x', cd) := ⟨_, _, _, rfl⟩
      have ok := hD.ok
      have ok' : s'.Ok := by have := NS.go_ok ok y; rw [hgo] at this; exact this
      have hdo := do_idv hD y
      rw [hgo] at hdo
      have k0 := (hD.under.cell (p := ⟨b, o + j * 3, none⟩) hbw).trans q0
      have k1 := (hD.under.cell (p := ⟨b, o + j * 3 + 1, none⟩) hbw).trans q1
      have k2 := (hD.under.cell (p := ⟨b, o + j * 3 + 2, none⟩) hbw).trans q2
      obtain ⟨yg, yi, yn⟩ := y
      obtain ⟨x1, x2⟩ := x'
      simp only [Stg.val, idv] at hdo
      have CG0 : ∀ W, RS kr W ⟨E, L, GA, gn, gc, FA, fn, fc⟩ s → ∀ V, Below W.heap.size W V → Calls Try.prog 10 #[.agg #[.int .i64 E, .int .i64 L, .slice GA gn gc, .slice FA fn fc], .agg #[.bool yg, .int .i64 yi, .int .i64 yn]] V (RLeft (fun x => kr x ∧ x < W.heap.size) V s' (x1, x2) cd) := fun W hW V hV => by
        have := RGo_any (hW.lt.below hV) ok ⟨yg, yi, yn⟩
        rw [hgo] at this
        exact this
      have HDO := Lib.hid hdo
      have HGO := Lib.hid hgo
      have CG1 := Lib.hid CG0
      have OK' := Lib.hid ok'
      have HY := Lib.hid hy
      have HR0 := Lib.hid hR
      have HRS0 := Lib.hid hRS
      have HQ := Lib.hid (And.intro q0 (And.intro q1 q2))
      simp only at k0 k1 k2
      clear hc hdo hD hy hgo ok ok' CG0 hR hRS q0 q1 q2
      subst hA
      go_wp2_with (first
        | (go_at_call 9; refine HDO.out.mono ?_; rintro e wd ⟨rfl, hD2, hS2⟩; obtain ⟨w2, hw2⟩ : ∃ w2, w2 = wd.alloc (.cells #[.int .i64 x1, .int .i64 x2] 24) := ⟨_, rfl⟩; have b2 : Below wd.heap.size wd w2 := (by rw [hw2]; exact (Below.refl _ _).alloc (Nat.le_refl _) _); have hT2 : Rec 24 w2 wd.heap.size #[.int .i64 x1, .int .i64 x2] := (by rw [hw2]; exact Rec.new _ _ _); have HD2 := Lib.hid hD2; have HS2 := Lib.hid hS2; have B2 := Lib.hid b2; have HT2 := Lib.hid hT2; have HW2 := Lib.hid hw2; clear hD2 hS2 b2 hT2 hw2)
        | (rw [← HW2.out]))
      have hR2 : Rec 30 w2 g #[.int .i64 E, .int .i64 L, .slice GA gn gc, .slice FA fn fc] := (HR0.out.block (HS2.out.2 g (.inr (.inl rfl)))).under B2.out
      have hRS2 : RS kr w2 ⟨E, L, GA, gn, gc, FA, fn, fc⟩ s := (HRS0.out.stays (HS2.out.less (fun x hx => .inl hx))).below B2.out
      have hU2 : Below w.heap.size w w2 := HD2.out.under.trans (B2.out.mono HD2.out.under.size)
      have CG := Lib.hid (CG1.out w2 hRS2)
      have bd : Below w2.heap.size w2 w2.drew := (Below.refl _ _).drew
      have SS : ∀ W, Below w2.heap.size w2 W → ((W.cell? ⟨g, 0, none⟩ = some (.int .i64 E) ∧ W.cell? ⟨g, 1, none⟩ = some (.int .i64 L) ∧ W.cell? ⟨g, 2, none⟩ = some (.slice GA gn gc) ∧ W.cell? ⟨g, 3, none⟩ = some (.slice FA fn fc)) ∧ W.cell? ⟨b, o + j * 3, none⟩ = some (.bool yg) ∧ W.cell? ⟨b, o + j * 3 + 1, none⟩ = some (.int .i64 yi) ∧ W.cell? ⟨b, o + j * 3 + 2, none⟩ = some (.int .i64 yn)) := fun W hW => by
        have x := hR2.under hW
        have hU := hU2.trans (hW.mono hU2.size)
        exact ⟨⟨x.at_ 0, x.at_ 1, x.at_ 2, x.at_ 3⟩, (hU.cell (p := ⟨b, o + j * 3, none⟩) hbw).trans HQ.out.1, (hU.cell (p := ⟨b, o + j * 3 + 1, none⟩) hbw).trans HQ.out.2.1, (hU.cell (p := ⟨b, o + j * 3 + 2, none⟩) hbw).trans HQ.out.2.2⟩
      have SS := Lib.hid SS
      have s0d := SS.out _ bd
      have HR2 := Lib.hid hR2
      have HU2 := Lib.hid hU2
      have hglt : g < w2.heap.size := hR2.lt
      have hwdlt : wd.heap.size < w2.heap.size := HT2.out.lt
      clear hR2 hRS2 hU2 k0 k1 k2
      have HNE : Hid (wd.heap.size ≠ g) := Lib.hid (fun e => by have h1 := HR0.out.lt; have h2 := HS2.out.1; omega)
      refine wp_region_noPanic ?_
      refine wp_region_held_drew (S := fun W => (W.cell? ⟨g, 0, none⟩ = some (.int .i64 E) ∧ W.cell? ⟨g, 1, none⟩ = some (.int .i64 L) ∧ W.cell? ⟨g, 2, none⟩ = some (.slice GA gn gc) ∧ W.cell? ⟨g, 3, none⟩ = some (.slice FA fn fc)) ∧ W.cell? ⟨b, o + j * 3, none⟩ = some (.bool yg) ∧ W.cell? ⟨b, o + j * 3 + 1, none⟩ = some (.int .i64 yi) ∧ W.cell? ⟨b, o + j * 3 + 2, none⟩ = some (.int .i64 yn)) (by kernel_rfl) s0d (fun hHeld => ?_)
      refine wpAnyH_take (i := 0) (oi := { dst := some 93, op := Op.load 30 (Operand.tmp 15), type := 30, pos := "law.go:108", after := #[], guard := none }) (v := ?_) rfl (by kernel_rfl) (by kernel_rfl) (by kernel_rfl) (fun _ _ _ h => h) (Or.inl ⟨by rfl, ?_⟩) (by assumption) ?_
      rotate_left 1
      · intro w' hSw; (try dsimp only at hSw); go_simp; (try with_reducible rfl)
      simp only [Act.put, List.setIfInBounds_toArray, List.set_cons_zero, List.set_cons_succ]
      refine wpAnyH_take (i := 1) (oi := { dst := some 94, op := Op.move (Operand.tmp 4), type := 22, pos := "law.go:108", after := #[], guard := none }) (v := ?_) rfl (by kernel_rfl) (by kernel_rfl) (by kernel_rfl) (fun _ _ _ h => h) (Or.inl ⟨by rfl, ?_⟩) (by assumption) ?_
      rotate_left 1
      · intro w' hSw; (try dsimp only at hSw); go_simp; (try with_reducible rfl)
      simp only [Act.put, List.setIfInBounds_toArray, List.set_cons_zero, List.set_cons_succ]
      refine wpAnyH_take (i := 2) (oi := { dst := some 95, op := Op.move (Operand.tmp 17), type := 3, pos := "law.go:108", after := #[], guard := none }) (v := ?_) rfl (by kernel_rfl) (by kernel_rfl) (by kernel_rfl) (fun _ _ _ h => h) (Or.inl ⟨by rfl, ?_⟩) (by assumption) ?_
      rotate_left 1
      · intro w' hSw; (try dsimp only at hSw); go_simp; (try with_reducible rfl)
      simp only [Act.put, List.setIfInBounds_toArray, List.set_cons_zero, List.set_cons_succ]
      refine wpAnyH_take (i := 3) (oi := { dst := some 96, op := Op.indexAddr 22 (Operand.tmp 94) (Operand.tmp 95), type := 0, pos := "law.go:108", after := #[{ on := 1, ground := Ground.data }, { on := 2, ground := Ground.data }], guard := none }) (v := ?_) rfl (by kernel_rfl) (by kernel_rfl) (by kernel_rfl) (fun _ _ _ h => h) (Or.inl ⟨by rfl, ?_⟩) (by assumption) ?_
      rotate_left 1
      · intro w' hSw; (try dsimp only at hSw); go_simp; (try with_reducible rfl)
      simp only [Act.put, List.setIfInBounds_toArray, List.set_cons_zero, List.set_cons_succ]
      refine wpAnyH_take (i := 4) (oi := { dst := some 97, op := Op.load 35 (Operand.tmp 96), type := 35, pos := "law.go:108", after := #[{ on := 3, ground := Ground.data }], guard := none }) (v := ?_) rfl (by kernel_rfl) (by kernel_rfl) (by kernel_rfl) (fun _ _ _ h => h) (Or.inl ⟨by rfl, ?_⟩) (by assumption) ?_
      rotate_left 1
      · intro w' hSw; (try dsimp only at hSw); go_simp; (try with_reducible rfl)
      simp only [Act.put, List.setIfInBounds_toArray, List.set_cons_zero, List.set_cons_succ]
      refine wpAnyH_ready (rs := [5, 10, 11]) (by kernel_rfl) (by simp) ?_
      refine AllReadyH.cons (o := { dst := some 98, op := Op.call { callee := Callee.value (Operand.func 10), args := #[Operand.tmp 93, Operand.tmp 97], argTypes := #[30, 35] }, type := 36, pos := "law.go:108", after := #[{ on := 0, ground := Ground.data }, { on := 4, ground := Ground.data }], guard := none }) rfl (fun K' hK => ?_) (AllReadyH.cons (o := { dst := some 20, op := Op.alloc 30, type := 0, pos := "law.go:108", after := #[], guard := none }) rfl (fun K' hK => ?_) (AllReadyH.cons (o := { dst := some 21, op := Op.alloc 24, type := 0, pos := "law.go:108", after := #[], guard := none }) rfl (fun K' hK => ?_) AllReadyH.nil))
      · go_simp
        go_at_call 10; refine (CG.out _ bd).mono ?_; rintro e vP ⟨⟨E', L', GA', gn', gc', FA', fn', fc'⟩, rfl, hRP, hBP⟩
        have BVP := Lib.hid (bd.trans (hBP.mono bd.size))
        have sP := SS.out _ BVP.out
        have hsW := bd.size
        have RSP := Lib.hid (hRP.mono (K' := fun x => (kr x ∧ x < w2.heap.size) ∨ (w2.heap.size ≤ x ∧ x < vP.heap.size)) (fun x hx => by rcases hx with h | h; exact .inl h; exact .inr ⟨by omega, h.2⟩))
        clear hRP hBP hsW
        simp only [Rv.v, idv]
        refine hK.out _ _ sP (fun hHeld => ?_)
        clear hK K'
        try simp only [Act.put, List.setIfInBounds_toArray, List.set_cons_zero, List.set_cons_succ]
        refine wpAnyH_take (i := 6) (oi := { dst := some 92, op := Op.move (Operand.tmp 98), type := 36, pos := "law.go:108", after := #[{ on := 5, ground := Ground.data }], guard := none }) (v := ?_) rfl (by kernel_rfl) (by kernel_rfl) (by kernel_rfl) (fun _ _ _ h => h) (Or.inl ⟨by rfl, ?_⟩) (by assumption) ?_
        rotate_left 1
        · intro w' hSw; (try dsimp only at hSw); go_simp; (try with_reducible rfl)
        simp only [Act.put, List.setIfInBounds_toArray, List.set_cons_zero, List.set_cons_succ]
        refine wpAnyH_take (i := 7) (oi := { dst := some 99, op := Op.extract (Operand.tmp 92) 0, type := 30, pos := "law.go:108", after := #[{ on := 6, ground := Ground.data }], guard := none }) (v := ?_) rfl (by kernel_rfl) (by kernel_rfl) (by kernel_rfl) (fun _ _ _ h => h) (Or.inl ⟨by rfl, ?_⟩) (by assumption) ?_
        rotate_left 1
        · intro w' hSw; (try dsimp only at hSw); go_simp; (try with_reducible rfl)
        simp only [Act.put, List.setIfInBounds_toArray, List.set_cons_zero, List.set_cons_succ]
        refine wpAnyH_take (i := 8) (oi := { dst := some 100, op := Op.extract (Operand.tmp 92) 1, type := 24, pos := "law.go:108", after := #[{ on := 6, ground := Ground.data }, { on := 12, ground := Ground.gcOnly Departure.lateStores }], guard := none }) (v := ?_) rfl (by kernel_rfl) (by kernel_rfl) (by kernel_rfl) (fun _ _ _ h => h) (Or.inl ⟨by rfl, ?_⟩) (by assumption) ?_
        rotate_left 1
        · intro w' hSw; (try dsimp only at hSw); go_simp; (try with_reducible rfl)
        simp only [Act.put, List.setIfInBounds_toArray, List.set_cons_zero, List.set_cons_succ]
        refine wpAnyH_take (i := 9) (oi := { dst := some 101, op := Op.extract (Operand.tmp 92) 2, type := 3, pos := "law.go:108", after := #[{ on := 6, ground := Ground.data }, { on := 13, ground := Ground.gcOnly Departure.lateStores }], guard := none }) (v := ?_) rfl (by kernel_rfl) (by kernel_rfl) (by kernel_rfl) (fun _ _ _ h => h) (Or.inl ⟨by rfl, ?_⟩) (by assumption) ?_
        rotate_left 1
        · intro w' hSw; (try dsimp only at hSw); go_simp; (try with_reducible rfl)
        simp only [Act.put, List.setIfInBounds_toArray, List.set_cons_zero, List.set_cons_succ]
        refine wpAnyH_ready (rs := [10, 11]) (by kernel_rfl) (by simp) ?_
        refine AllReadyH.cons (o := { dst := some 20, op := Op.alloc 30, type := 0, pos := "law.go:108", after := #[], guard := none }) rfl (fun K' hK => ?_) (AllReadyH.cons (o := { dst := some 21, op := Op.alloc 24, type := 0, pos := "law.go:108", after := #[], guard := none }) rfl (fun K' hK => ?_) AllReadyH.nil)
        · go_simp
          obtain ⟨vPA, hv⟩ : ∃ v, v = vP.alloc (.cells #[.int .i64 0, .int .i64 0, .slice none 0 0, .slice none 0 0] 30) := ⟨_, rfl⟩
          have hR : Rec 30 vPA vP.heap.size #[.int .i64 0, .int .i64 0, .slice none 0 0, .slice none 0 0] := by rw [hv]; exact Rec.new vP _ _
          have bV : Below vP.heap.size vP vPA := by rw [hv]; exact ((Below.refl _ _).alloc (Nat.le_refl _) _)
          have BVPA := Lib.hid (BVP.out.trans (bV.mono BVP.out.size))
          have sPA := SS.out _ BVPA.out
          have RSPA := Lib.hid ((RSP.out.below bV).mono (K' := fun x => (kr x ∧ x < w2.heap.size) ∨ (w2.heap.size ≤ x ∧ x < vPA.heap.size ∧ x ≠ vP.heap.size)) (fun x hx => by have := bV.size; rcases hx with h | h; exact .inl h; exact .inr ⟨h.1, by omega, by omega⟩))
          obtain ⟨gA, hgA⟩ : ∃ g, g = vP.heap.size := ⟨_, rfl⟩
          have leA : w2.heap.size ≤ gA := by rw [hgA]; exact BVP.out.size
          rw [← hgA] at hR RSPA
          try rw [← hv]
          rw [← hgA]
          have RAPA := Lib.hid hR
          have HLEA := Lib.hid leA
          clear hv hR bV hgA leA
          refine hK.out _ _ sPA (fun hHeld => ?_)
          clear hK K'
          try simp only [Act.put, List.setIfInBounds_toArray, List.set_cons_zero, List.set_cons_succ]
          refine wpAnyH_ready (rs := [11]) (by kernel_rfl) (by simp) ?_
          refine AllReadyH.cons (o := { dst := some 21, op := Op.alloc 24, type := 0, pos := "law.go:108", after := #[], guard := none }) rfl (fun K' hK => ?_) AllReadyH.nil
          go_simp
          obtain ⟨vPAB, hv⟩ : ∃ v, v = vPA.alloc (.cells #[.int .i64 0, .int .i64 0] 24) := ⟨_, rfl⟩
          have hR : Rec 24 vPAB vPA.heap.size #[.int .i64 0, .int .i64 0] := by rw [hv]; exact Rec.new vPA _ _
          have bV : Below vPA.heap.size vPA vPAB := by rw [hv]; exact ((Below.refl _ _).alloc (Nat.le_refl _) _)
          have BVPAB := Lib.hid (BVPA.out.trans (bV.mono BVPA.out.size))
          have sPAB := SS.out _ BVPAB.out
          have RAPAB := Lib.hid (RAPA.out.under bV)
          have neA : gA < vPA.heap.size := RAPA.out.lt
          have RSPAB := Lib.hid ((RSPA.out.below bV).mono (K' := fun x => (kr x ∧ x < w2.heap.size) ∨ (w2.heap.size ≤ x ∧ x < vPAB.heap.size ∧ x ≠ gA ∧ x ≠ vPA.heap.size)) (fun x hx => by have := bV.size; rcases hx with h | h; exact .inl h; exact .inr ⟨h.1, by omega, by omega, by omega⟩))
          obtain ⟨gB, hgB⟩ : ∃ g, g = vPA.heap.size := ⟨_, rfl⟩
          have leB : w2.heap.size ≤ gB := by rw [hgB]; exact BVPA.out.size
          rw [← hgB] at hR neA RSPAB
          try rw [← hv]
          rw [← hgB]
          have RBPAB := Lib.hid hR
          have HN := Lib.hid neA
          have HLEB := Lib.hid leB
          clear hv hR bV hgB leB neA
          refine hK.out _ _ sPAB (fun hHeld => ?_)
          clear hK K'
          try simp only [Act.put, List.setIfInBounds_toArray, List.set_cons_zero, List.set_cons_succ]
          refine wpAnyH_ready (rs := [12]) (by kernel_rfl) (by simp) ?_
          refine AllReadyH.cons (o := { dst := none, op := Op.store 30 (Operand.tmp 20) (Operand.tmp 99), type := 0, pos := "law.go:108", after := #[{ on := 10, ground := Ground.data }, { on := 7, ground := Ground.data }, { on := 5, ground := Ground.chain }, { on := 0, ground := Ground.phase }, { on := 1, ground := Ground.phase }, { on := 2, ground := Ground.phase }, { on := 3, ground := Ground.phase }, { on := 4, ground := Ground.phase }, { on := 5, ground := Ground.phase }, { on := 6, ground := Ground.phase }, { on := 7, ground := Ground.phase }, { on := 8, ground := Ground.textOnly Departure.lateStores }, { on := 9, ground := Ground.textOnly Departure.lateStores }, { on := 10, ground := Ground.phase }, { on := 11, ground := Ground.phase }], guard := none }) rfl (fun K' hK => ?_) AllReadyH.nil
          refine step_stQ (E' := E') (L' := L') (GA' := GA') (gn' := gn') (gc' := gc') (FA' := FA') (fn' := fn') (fc' := fc') rfl (.tmp 20) (.tmp 99) rfl rfl rfl RAPAB.out ?_
          intro vG hRG hFG
          have hne : gA ≠ gB := by have := HN.out; omega
          have BVG := Lib.hid (BVPAB.out.trans (hFG.toBelow (fun x hx => by rw [show x = gA from hx]; exact HLEA.out) BVPAB.out.size))
          have sG := SS.out _ BVG.out
          have RAG := Lib.hid hRG
          have RBG := Lib.hid (RBPAB.out.fr hFG (fun e => hne (show gB = gA from e).symm))
          have RSG := Lib.hid ((RSPAB.out.mono (K' := fun x => (kr x ∧ x < w2.heap.size) ∨ (w2.heap.size ≤ x ∧ x < vPAB.heap.size ∧ x ≠ gA ∧ x ≠ gB)) (fun x hx => by rcases hx with h | h; exact .inl h; exact .inr ⟨h.1, h.2.1, by omega, by omega⟩)).stays (w' := vG) ⟨hFG.size, fun x hx => hFG.block x (by have := BVPAB.out.size; rcases hx with h | h <;> omega) (fun e => by have e' : x = gA := e; have := HLEA.out; rcases hx with h | h <;> omega)⟩)
          have hsG := hFG.size
          clear hRG hFG hne
          refine hK.out _ _ sG (fun hHeld => ?_)
          clear hK K'
          try simp only [Act.put]
          refine wpAnyH_ready (rs := [13]) (by kernel_rfl) (by simp) ?_
          refine AllReadyH.cons (o := { dst := none, op := Op.store 24 (Operand.tmp 21) (Operand.tmp 100), type := 0, pos := "law.go:108", after := #[{ on := 11, ground := Ground.data }, { on := 8, ground := Ground.data }, { on := 12, ground := Ground.chain }, { on := 0, ground := Ground.phase }, { on := 1, ground := Ground.phase }, { on := 2, ground := Ground.phase }, { on := 3, ground := Ground.phase }, { on := 4, ground := Ground.phase }, { on := 5, ground := Ground.phase }, { on := 6, ground := Ground.phase }, { on := 7, ground := Ground.phase }, { on := 8, ground := Ground.phase }, { on := 9, ground := Ground.textOnly Departure.lateStores }, { on := 10, ground := Ground.phase }, { on := 11, ground := Ground.phase }, { on := 12, ground := Ground.phase }], guard := none }) rfl (fun K' hK => ?_) AllReadyH.nil
          refine step_stP (x1 := x1) (y1 := x2) rfl (.tmp 21) (.tmp 100) rfl rfl rfl RBG.out ?_
          intro wF hRF hFF
          have hne : gA ≠ gB := by have := HN.out; omega
          have BF := Lib.hid (BVG.out.trans (hFF.toBelow (fun x hx => by rw [show x = gB from hx]; exact HLEB.out) BVG.out.size))
          have sF := SS.out _ BF.out
          have RBF := Lib.hid hRF
          have RAF := Lib.hid (RAG.out.fr hFF (fun e => hne (show gA = gB from e)))
          have RSF := Lib.hid ((RSG.out.stays (w' := wF) ⟨hFF.size, fun x hx => hFF.block x (by have := BVG.out.size; rcases hx with h | h <;> omega) (fun e => by have e' : x = gB := e; have := HLEB.out; rcases hx with h | h <;> omega)⟩).mono (K' := fun x => (kr x ∧ x < w2.heap.size) ∨ (w2.heap.size ≤ x ∧ x < wF.heap.size ∧ x ≠ gA ∧ x ≠ gB)) (fun x hx => by have := hFF.size; rcases hx with h | h; exact .inl h; exact .inr ⟨h.1, by omega, h.2.2.1, h.2.2.2⟩))
          clear hRF hFF hne RAG RBG RSG BVG
          refine hK.out _ _ sF (fun hHeld => ?_)
          clear hK K'
          try simp only [Act.put]
          refine wpAnyH_take (i := 14) (oi := { dst := some 22, op := Op.assign (Operand.tmp 101), type := 3, pos := "law.go:108", after := #[{ on := 9, ground := Ground.data }, { on := 13, ground := Ground.chain }, { on := 0, ground := Ground.phase }, { on := 1, ground := Ground.phase }, { on := 2, ground := Ground.phase }, { on := 3, ground := Ground.phase }, { on := 4, ground := Ground.phase }, { on := 5, ground := Ground.phase }, { on := 6, ground := Ground.phase }, { on := 7, ground := Ground.phase }, { on := 8, ground := Ground.phase }, { on := 9, ground := Ground.phase }, { on := 10, ground := Ground.phase }, { on := 11, ground := Ground.phase }, { on := 12, ground := Ground.phase }, { on := 13, ground := Ground.phase }], guard := none }) (v := ?_) rfl (by kernel_rfl) (by kernel_rfl) (by kernel_rfl) (fun _ _ _ h => h) (Or.inl ⟨by rfl, ?_⟩) (by assumption) ?_
          rotate_left 1
          · intro w' hSw; (try dsimp only at hSw); go_simp; (try with_reducible rfl)
          simp only [Act.put, List.setIfInBounds_toArray, List.set_cons_zero, List.set_cons_succ]
          refine wpAnyH_done (by kernel_rfl) ?_ _
          refine NoPanic.normal ?_
          have RG0 := Lib.hid (HR2.out.under BF.out)
          go_wp2_with (first
            | (with_reducible refine wpList_ldQ rfl (.tmp 20) rfl rfl RAF.out ?_)
            | ((with_reducible refine wpList_stQ (E' := E') (L' := L') (GA' := GA') (gn' := gn') (gc' := gc') (FA' := FA') (fn' := fn') (fc' := fc') rfl (.tmp 15) (.tmp 102) rfl rfl rfl RG0.out ?_); intro w7 hR7 hF7; have HR7 := Lib.hid hR7; have HF7 := Lib.hid hF7; have HT7 := Lib.hid ((HT2.out.under BF.out).fr hF7 (fun e => by have e' : wd.heap.size = g := e; exact absurd e' HNE.out)); have HB7 := Lib.hid (RBF.out.fr hF7 (fun e => by have e' : gB = g := e; have := HLEB.out; omega)); have hD7 := ((HD2.out.below B2.out).more BF.out (fun x => w2.heap.size ≤ x ∧ x < wF.heap.size) (fun x hx => hx)).fr (g := g) (.inl (.inr (.inl rfl))) hwg HF7.out; have hS7 := RSF.out.stays (w' := w7) ⟨HF7.out.size, fun x hx => HF7.out.block x (by have := BF.out.size; rcases hx with h | h <;> omega) (fun e => by have e' : x = g := e; rcases hx with h | h; exact hkg (e' ▸ h.1); omega)⟩; have HD7 := Lib.hid hD7; have HS7 := Lib.hid hS7; clear hR7 hF7 hD7 hS7)
            | (with_reducible refine wpList_ldP rfl (.tmp 18) rfl rfl HT7.out ?_)
            | (with_reducible refine wpList_ldP rfl (.tmp 21) rfl rfl HB7.out ?_))
          go_roundw
          case rel =>
            refine ⟨j + 1, hlt, by go_num, fun x => (kr x ∧ x < w2.heap.size) ∨ (w2.heap.size ≤ x ∧ x < wF.heap.size ∧ x ≠ gA ∧ x ≠ gB), s', ⟨E', L', GA', gn', gc', FA', fn', fc'⟩, fun hx => ?_, hwg, ?_, HR7.out, HS7.out⟩
            · rcases hx with h | h
              · exact hkg h.1
              · omega
            · exact HD7.out.less (fun x hx => by rcases hx with (h | h) | h | h; exact .inl (.inl h.1); exact .inr ⟨h.1, h.2.1⟩; exact .inl (.inr (.inl h)); exact .inl (.inr (.inr h)))
          case measure => simp [intOf]; omega
        · go_simp
          obtain ⟨vPB, hv⟩ : ∃ v, v = vP.alloc (.cells #[.int .i64 0, .int .i64 0] 24) := ⟨_, rfl⟩
          have hR : Rec 24 vPB vP.heap.size #[.int .i64 0, .int .i64 0] := by rw [hv]; exact Rec.new vP _ _
          have bV : Below vP.heap.size vP vPB := by rw [hv]; exact ((Below.refl _ _).alloc (Nat.le_refl _) _)
          have BVPB := Lib.hid (BVP.out.trans (bV.mono BVP.out.size))
          have sPB := SS.out _ BVPB.out
          have RSPB := Lib.hid ((RSP.out.below bV).mono (K' := fun x => (kr x ∧ x < w2.heap.size) ∨ (w2.heap.size ≤ x ∧ x < vPB.heap.size ∧ x ≠ vP.heap.size)) (fun x hx => by have := bV.size; rcases hx with h | h; exact .inl h; exact .inr ⟨h.1, by omega, by omega⟩))
          obtain ⟨gB, hgB⟩ : ∃ g, g = vP.heap.size := ⟨_, rfl⟩
          have leB : w2.heap.size ≤ gB := by rw [hgB]; exact BVP.out.size
          rw [← hgB] at hR RSPB
          try rw [← hv]
          rw [← hgB]
          have RBPB := Lib.hid hR
          have HLEB := Lib.hid leB
          clear hv hR bV hgB leB
          refine hK.out _ _ sPB (fun hHeld => ?_)
          clear hK K'
          try simp only [Act.put, List.setIfInBounds_toArray, List.set_cons_zero, List.set_cons_succ]
          refine wpAnyH_ready (rs := [10]) (by kernel_rfl) (by simp) ?_
          refine AllReadyH.cons (o := { dst := some 20, op := Op.alloc 30, type := 0, pos := "law.go:108", after := #[], guard := none }) rfl (fun K' hK => ?_) AllReadyH.nil
          go_simp
          obtain ⟨vPBA, hv⟩ : ∃ v, v = vPB.alloc (.cells #[.int .i64 0, .int .i64 0, .slice none 0 0, .slice none 0 0] 30) := ⟨_, rfl⟩
          have hR : Rec 30 vPBA vPB.heap.size #[.int .i64 0, .int .i64 0, .slice none 0 0, .slice none 0 0] := by rw [hv]; exact Rec.new vPB _ _
          have bV : Below vPB.heap.size vPB vPBA := by rw [hv]; exact ((Below.refl _ _).alloc (Nat.le_refl _) _)
          have BVPBA := Lib.hid (BVPB.out.trans (bV.mono BVPB.out.size))
          have sPBA := SS.out _ BVPBA.out
          have RBPBA := Lib.hid (RBPB.out.under bV)
          have neB : gB < vPB.heap.size := RBPB.out.lt
          have RSPBA := Lib.hid ((RSPB.out.below bV).mono (K' := fun x => (kr x ∧ x < w2.heap.size) ∨ (w2.heap.size ≤ x ∧ x < vPBA.heap.size ∧ x ≠ gB ∧ x ≠ vPB.heap.size)) (fun x hx => by have := bV.size; rcases hx with h | h; exact .inl h; exact .inr ⟨h.1, by omega, by omega, by omega⟩))
          obtain ⟨gA, hgA⟩ : ∃ g, g = vPB.heap.size := ⟨_, rfl⟩
          have leA : w2.heap.size ≤ gA := by rw [hgA]; exact BVPB.out.size
          rw [← hgA] at hR neB RSPBA
          try rw [← hv]
          rw [← hgA]
          have RAPBA := Lib.hid hR
          have HN := Lib.hid neB
          have HLEA := Lib.hid leA
          clear hv hR bV hgA leA neB
          refine hK.out _ _ sPBA (fun hHeld => ?_)
          clear hK K'
          try simp only [Act.put, List.setIfInBounds_toArray, List.set_cons_zero, List.set_cons_succ]
          refine wpAnyH_ready (rs := [12]) (by kernel_rfl) (by simp) ?_
          refine AllReadyH.cons (o := { dst := none, op := Op.store 30 (Operand.tmp 20) (Operand.tmp 99), type := 0, pos := "law.go:108", after := #[{ on := 10, ground := Ground.data }, { on := 7, ground := Ground.data }, { on := 5, ground := Ground.chain }, { on := 0, ground := Ground.phase }, { on := 1, ground := Ground.phase }, { on := 2, ground := Ground.phase }, { on := 3, ground := Ground.phase }, { on := 4, ground := Ground.phase }, { on := 5, ground := Ground.phase }, { on := 6, ground := Ground.phase }, { on := 7, ground := Ground.phase }, { on := 8, ground := Ground.textOnly Departure.lateStores }, { on := 9, ground := Ground.textOnly Departure.lateStores }, { on := 10, ground := Ground.phase }, { on := 11, ground := Ground.phase }], guard := none }) rfl (fun K' hK => ?_) AllReadyH.nil
          refine step_stQ (E' := E') (L' := L') (GA' := GA') (gn' := gn') (gc' := gc') (FA' := FA') (fn' := fn') (fc' := fc') rfl (.tmp 20) (.tmp 99) rfl rfl rfl RAPBA.out ?_
          intro vG hRG hFG
          have hne : gA ≠ gB := by have := HN.out; omega
          have BVG := Lib.hid (BVPBA.out.trans (hFG.toBelow (fun x hx => by rw [show x = gA from hx]; exact HLEA.out) BVPBA.out.size))
          have sG := SS.out _ BVG.out
          have RAG := Lib.hid hRG
          have RBG := Lib.hid (RBPBA.out.fr hFG (fun e => hne (show gB = gA from e).symm))
          have RSG := Lib.hid ((RSPBA.out.mono (K' := fun x => (kr x ∧ x < w2.heap.size) ∨ (w2.heap.size ≤ x ∧ x < vPBA.heap.size ∧ x ≠ gA ∧ x ≠ gB)) (fun x hx => by rcases hx with h | h; exact .inl h; exact .inr ⟨h.1, h.2.1, by omega, by omega⟩)).stays (w' := vG) ⟨hFG.size, fun x hx => hFG.block x (by have := BVPBA.out.size; rcases hx with h | h <;> omega) (fun e => by have e' : x = gA := e; have := HLEA.out; rcases hx with h | h <;> omega)⟩)
          have hsG := hFG.size
          clear hRG hFG hne
          refine hK.out _ _ sG (fun hHeld => ?_)
          clear hK K'
          try simp only [Act.put]
          refine wpAnyH_ready (rs := [13]) (by kernel_rfl) (by simp) ?_
          refine AllReadyH.cons (o := { dst := none, op := Op.store 24 (Operand.tmp 21) (Operand.tmp 100), type := 0, pos := "law.go:108", after := #[{ on := 11, ground := Ground.data }, { on := 8, ground := Ground.data }, { on := 12, ground := Ground.chain }, { on := 0, ground := Ground.phase }, { on := 1, ground := Ground.phase }, { on := 2, ground := Ground.phase }, { on := 3, ground := Ground.phase }, { on := 4, ground := Ground.phase }, { on := 5, ground := Ground.phase }, { on := 6, ground := Ground.phase }, { on := 7, ground := Ground.phase }, { on := 8, ground := Ground.phase }, { on := 9, ground := Ground.textOnly Departure.lateStores }, { on := 10, ground := Ground.phase }, { on := 11, ground := Ground.phase }, { on := 12, ground := Ground.phase }], guard := none }) rfl (fun K' hK => ?_) AllReadyH.nil
          refine step_stP (x1 := x1) (y1 := x2) rfl (.tmp 21) (.tmp 100) rfl rfl rfl RBG.out ?_
          intro wF hRF hFF
          have hne : gA ≠ gB := by have := HN.out; omega
          have BF := Lib.hid (BVG.out.trans (hFF.toBelow (fun x hx => by rw [show x = gB from hx]; exact HLEB.out) BVG.out.size))
          have sF := SS.out _ BF.out
          have RBF := Lib.hid hRF
          have RAF := Lib.hid (RAG.out.fr hFF (fun e => hne (show gA = gB from e)))
          have RSF := Lib.hid ((RSG.out.stays (w' := wF) ⟨hFF.size, fun x hx => hFF.block x (by have := BVG.out.size; rcases hx with h | h <;> omega) (fun e => by have e' : x = gB := e; have := HLEB.out; rcases hx with h | h <;> omega)⟩).mono (K' := fun x => (kr x ∧ x < w2.heap.size) ∨ (w2.heap.size ≤ x ∧ x < wF.heap.size ∧ x ≠ gA ∧ x ≠ gB)) (fun x hx => by have := hFF.size; rcases hx with h | h; exact .inl h; exact .inr ⟨h.1, by omega, h.2.2.1, h.2.2.2⟩))
          clear hRF hFF hne RAG RBG RSG BVG
          refine hK.out _ _ sF (fun hHeld => ?_)
          clear hK K'
          try simp only [Act.put]
          refine wpAnyH_take (i := 14) (oi := { dst := some 22, op := Op.assign (Operand.tmp 101), type := 3, pos := "law.go:108", after := #[{ on := 9, ground := Ground.data }, { on := 13, ground := Ground.chain }, { on := 0, ground := Ground.phase }, { on := 1, ground := Ground.phase }, { on := 2, ground := Ground.phase }, { on := 3, ground := Ground.phase }, { on := 4, ground := Ground.phase }, { on := 5, ground := Ground.phase }, { on := 6, ground := Ground.phase }, { on := 7, ground := Ground.phase }, { on := 8, ground := Ground.phase }, { on := 9, ground := Ground.phase }, { on := 10, ground := Ground.phase }, { on := 11, ground := Ground.phase }, { on := 12, ground := Ground.phase }, { on := 13, ground := Ground.phase }], guard := none }) (v := ?_) rfl (by kernel_rfl) (by kernel_rfl) (by kernel_rfl) (fun _ _ _ h => h) (Or.inl ⟨by rfl, ?_⟩) (by assumption) ?_
          rotate_left 1
          · intro w' hSw; (try dsimp only at hSw); go_simp; (try with_reducible rfl)
          simp only [Act.put, List.setIfInBounds_toArray, List.set_cons_zero, List.set_cons_succ]
          refine wpAnyH_done (by kernel_rfl) ?_ _
          refine NoPanic.normal ?_
          have RG0 := Lib.hid (HR2.out.under BF.out)
          go_wp2_with (first
            | (with_reducible refine wpList_ldQ rfl (.tmp 20) rfl rfl RAF.out ?_)
            | ((with_reducible refine wpList_stQ (E' := E') (L' := L') (GA' := GA') (gn' := gn') (gc' := gc') (FA' := FA') (fn' := fn') (fc' := fc') rfl (.tmp 15) (.tmp 102) rfl rfl rfl RG0.out ?_); intro w7 hR7 hF7; have HR7 := Lib.hid hR7; have HF7 := Lib.hid hF7; have HT7 := Lib.hid ((HT2.out.under BF.out).fr hF7 (fun e => by have e' : wd.heap.size = g := e; exact absurd e' HNE.out)); have HB7 := Lib.hid (RBF.out.fr hF7 (fun e => by have e' : gB = g := e; have := HLEB.out; omega)); have hD7 := ((HD2.out.below B2.out).more BF.out (fun x => w2.heap.size ≤ x ∧ x < wF.heap.size) (fun x hx => hx)).fr (g := g) (.inl (.inr (.inl rfl))) hwg HF7.out; have hS7 := RSF.out.stays (w' := w7) ⟨HF7.out.size, fun x hx => HF7.out.block x (by have := BF.out.size; rcases hx with h | h <;> omega) (fun e => by have e' : x = g := e; rcases hx with h | h; exact hkg (e' ▸ h.1); omega)⟩; have HD7 := Lib.hid hD7; have HS7 := Lib.hid hS7; clear hR7 hF7 hD7 hS7)
            | (with_reducible refine wpList_ldP rfl (.tmp 18) rfl rfl HT7.out ?_)
            | (with_reducible refine wpList_ldP rfl (.tmp 21) rfl rfl HB7.out ?_))
          go_roundw
          case rel =>
            refine ⟨j + 1, hlt, by go_num, fun x => (kr x ∧ x < w2.heap.size) ∨ (w2.heap.size ≤ x ∧ x < wF.heap.size ∧ x ≠ gA ∧ x ≠ gB), s', ⟨E', L', GA', gn', gc', FA', fn', fc'⟩, fun hx => ?_, hwg, ?_, HR7.out, HS7.out⟩
            · rcases hx with h | h
              · exact hkg h.1
              · omega
            · exact HD7.out.less (fun x hx => by rcases hx with (h | h) | h | h; exact .inl (.inl h.1); exact .inr ⟨h.1, h.2.1⟩; exact .inl (.inr (.inl h)); exact .inl (.inr (.inr h)))
          case measure => simp [intOf]; omega
      · go_simp
        obtain ⟨vA, hv⟩ : ∃ v, v = (w2.alloc (.cells #[.int .i64 0, .int .i64 0, .slice none 0 0, .slice none 0 0] 30)).drew := ⟨_, rfl⟩
        have hR : Rec 30 vA w2.heap.size #[.int .i64 0, .int .i64 0, .slice none 0 0, .slice none 0 0] := by rw [hv]; exact Rec.new w2 _ _
        have bV : Below w2.heap.size w2 vA := by rw [hv]; exact ((Below.refl _ _).alloc (Nat.le_refl _) _).drew
        have BVA := Lib.hid (bV)
        have sA := SS.out _ BVA.out
        obtain ⟨gA, hgA⟩ : ∃ g, g = w2.heap.size := ⟨_, rfl⟩
        have leA : w2.heap.size ≤ gA := by rw [hgA]; exact Nat.le_refl _
        rw [← hgA] at hR
        try rw [← hv]
        rw [← hgA]
        have RAA := Lib.hid hR
        have HLEA := Lib.hid leA
        clear hv hR bV hgA leA
        refine hK.out _ _ sA (fun hHeld => ?_)
        clear hK K'
        try simp only [Act.put, List.setIfInBounds_toArray, List.set_cons_zero, List.set_cons_succ]
        refine wpAnyH_ready (rs := [5, 11]) (by kernel_rfl) (by simp) ?_
        refine AllReadyH.cons (o := { dst := some 98, op := Op.call { callee := Callee.value (Operand.func 10), args := #[Operand.tmp 93, Operand.tmp 97], argTypes := #[30, 35] }, type := 36, pos := "law.go:108", after := #[{ on := 0, ground := Ground.data }, { on := 4, ground := Ground.data }], guard := none }) rfl (fun K' hK => ?_) (AllReadyH.cons (o := { dst := some 21, op := Op.alloc 24, type := 0, pos := "law.go:108", after := #[], guard := none }) rfl (fun K' hK => ?_) AllReadyH.nil)
        · go_simp
          go_at_call 10; refine (CG.out _ BVA.out).mono ?_; rintro e vAP ⟨⟨E', L', GA', gn', gc', FA', fn', fc'⟩, rfl, hRP, hBP⟩
          have BVAP := Lib.hid (BVA.out.trans (hBP.mono BVA.out.size))
          have sAP := SS.out _ BVAP.out
          have RAAP := Lib.hid (RAA.out.under hBP)
          have ltA := RAA.out.lt
          have hsW := BVA.out.size
          have RSAP := Lib.hid (hRP.mono (K' := fun x => (kr x ∧ x < w2.heap.size) ∨ (w2.heap.size ≤ x ∧ x < vAP.heap.size ∧ x ≠ gA)) (fun x hx => by rcases hx with h | h; exact .inl h; exact .inr ⟨by omega, h.2, by omega⟩))
          clear hRP hBP hsW ltA
          simp only [Rv.v, idv]
          refine hK.out _ _ sAP (fun hHeld => ?_)
          clear hK K'
          try simp only [Act.put, List.setIfInBounds_toArray, List.set_cons_zero, List.set_cons_succ]
          refine wpAnyH_take (i := 6) (oi := { dst := some 92, op := Op.move (Operand.tmp 98), type := 36, pos := "law.go:108", after := #[{ on := 5, ground := Ground.data }], guard := none }) (v := ?_) rfl (by kernel_rfl) (by kernel_rfl) (by kernel_rfl) (fun _ _ _ h => h) (Or.inl ⟨by rfl, ?_⟩) (by assumption) ?_
          rotate_left 1
          · intro w' hSw; (try dsimp only at hSw); go_simp; (try with_reducible rfl)
          simp only [Act.put, List.setIfInBounds_toArray, List.set_cons_zero, List.set_cons_succ]
          refine wpAnyH_take (i := 7) (oi := { dst := some 99, op := Op.extract (Operand.tmp 92) 0, type := 30, pos := "law.go:108", after := #[{ on := 6, ground := Ground.data }], guard := none }) (v := ?_) rfl (by kernel_rfl) (by kernel_rfl) (by kernel_rfl) (fun _ _ _ h => h) (Or.inl ⟨by rfl, ?_⟩) (by assumption) ?_
          rotate_left 1
          · intro w' hSw; (try dsimp only at hSw); go_simp; (try with_reducible rfl)
          simp only [Act.put, List.setIfInBounds_toArray, List.set_cons_zero, List.set_cons_succ]
          refine wpAnyH_take (i := 8) (oi := { dst := some 100, op := Op.extract (Operand.tmp 92) 1, type := 24, pos := "law.go:108", after := #[{ on := 6, ground := Ground.data }, { on := 12, ground := Ground.gcOnly Departure.lateStores }], guard := none }) (v := ?_) rfl (by kernel_rfl) (by kernel_rfl) (by kernel_rfl) (fun _ _ _ h => h) (Or.inl ⟨by rfl, ?_⟩) (by assumption) ?_
          rotate_left 1
          · intro w' hSw; (try dsimp only at hSw); go_simp; (try with_reducible rfl)
          simp only [Act.put, List.setIfInBounds_toArray, List.set_cons_zero, List.set_cons_succ]
          refine wpAnyH_take (i := 9) (oi := { dst := some 101, op := Op.extract (Operand.tmp 92) 2, type := 3, pos := "law.go:108", after := #[{ on := 6, ground := Ground.data }, { on := 13, ground := Ground.gcOnly Departure.lateStores }], guard := none }) (v := ?_) rfl (by kernel_rfl) (by kernel_rfl) (by kernel_rfl) (fun _ _ _ h => h) (Or.inl ⟨by rfl, ?_⟩) (by assumption) ?_
          rotate_left 1
          · intro w' hSw; (try dsimp only at hSw); go_simp; (try with_reducible rfl)
          simp only [Act.put, List.setIfInBounds_toArray, List.set_cons_zero, List.set_cons_succ]
          refine wpAnyH_ready (rs := [11]) (by kernel_rfl) (by simp) ?_
          refine AllReadyH.cons (o := { dst := some 21, op := Op.alloc 24, type := 0, pos := "law.go:108", after := #[], guard := none }) rfl (fun K' hK => ?_) AllReadyH.nil
          go_simp
          obtain ⟨vAPB, hv⟩ : ∃ v, v = vAP.alloc (.cells #[.int .i64 0, .int .i64 0] 24) := ⟨_, rfl⟩
          have hR : Rec 24 vAPB vAP.heap.size #[.int .i64 0, .int .i64 0] := by rw [hv]; exact Rec.new vAP _ _
          have bV : Below vAP.heap.size vAP vAPB := by rw [hv]; exact ((Below.refl _ _).alloc (Nat.le_refl _) _)
          have BVAPB := Lib.hid (BVAP.out.trans (bV.mono BVAP.out.size))
          have sAPB := SS.out _ BVAPB.out
          have RAAPB := Lib.hid (RAAP.out.under bV)
          have neA : gA < vAP.heap.size := RAAP.out.lt
          have RSAPB := Lib.hid ((RSAP.out.below bV).mono (K' := fun x => (kr x ∧ x < w2.heap.size) ∨ (w2.heap.size ≤ x ∧ x < vAPB.heap.size ∧ x ≠ gA ∧ x ≠ vAP.heap.size)) (fun x hx => by have := bV.size; rcases hx with h | h; exact .inl h; exact .inr ⟨h.1, by omega, by omega, by omega⟩))
          obtain ⟨gB, hgB⟩ : ∃ g, g = vAP.heap.size := ⟨_, rfl⟩
          have leB : w2.heap.size ≤ gB := by rw [hgB]; exact BVAP.out.size
          rw [← hgB] at hR neA RSAPB
          try rw [← hv]
          rw [← hgB]
          have RBAPB := Lib.hid hR
          have HN := Lib.hid neA
          have HLEB := Lib.hid leB
          clear hv hR bV hgB leB neA
          refine hK.out _ _ sAPB (fun hHeld => ?_)
          clear hK K'
          try simp only [Act.put, List.setIfInBounds_toArray, List.set_cons_zero, List.set_cons_succ]
          refine wpAnyH_ready (rs := [12]) (by kernel_rfl) (by simp) ?_
          refine AllReadyH.cons (o := { dst := none, op := Op.store 30 (Operand.tmp 20) (Operand.tmp 99), type := 0, pos := "law.go:108", after := #[{ on := 10, ground := Ground.data }, { on := 7, ground := Ground.data }, { on := 5, ground := Ground.chain }, { on := 0, ground := Ground.phase }, { on := 1, ground := Ground.phase }, { on := 2, ground := Ground.phase }, { on := 3, ground := Ground.phase }, { on := 4, ground := Ground.phase }, { on := 5, ground := Ground.phase }, { on := 6, ground := Ground.phase }, { on := 7, ground := Ground.phase }, { on := 8, ground := Ground.textOnly Departure.lateStores }, { on := 9, ground := Ground.textOnly Departure.lateStores }, { on := 10, ground := Ground.phase }, { on := 11, ground := Ground.phase }], guard := none }) rfl (fun K' hK => ?_) AllReadyH.nil
          refine step_stQ (E' := E') (L' := L') (GA' := GA') (gn' := gn') (gc' := gc') (FA' := FA') (fn' := fn') (fc' := fc') rfl (.tmp 20) (.tmp 99) rfl rfl rfl RAAPB.out ?_
          intro vG hRG hFG
          have hne : gA ≠ gB := by have := HN.out; omega
          have BVG := Lib.hid (BVAPB.out.trans (hFG.toBelow (fun x hx => by rw [show x = gA from hx]; exact HLEA.out) BVAPB.out.size))
          have sG := SS.out _ BVG.out
          have RAG := Lib.hid hRG
          have RBG := Lib.hid (RBAPB.out.fr hFG (fun e => hne (show gB = gA from e).symm))
          have RSG := Lib.hid ((RSAPB.out.mono (K' := fun x => (kr x ∧ x < w2.heap.size) ∨ (w2.heap.size ≤ x ∧ x < vAPB.heap.size ∧ x ≠ gA ∧ x ≠ gB)) (fun x hx => by rcases hx with h | h; exact .inl h; exact .inr ⟨h.1, h.2.1, by omega, by omega⟩)).stays (w' := vG) ⟨hFG.size, fun x hx => hFG.block x (by have := BVAPB.out.size; rcases hx with h | h <;> omega) (fun e => by have e' : x = gA := e; have := HLEA.out; rcases hx with h | h <;> omega)⟩)
          have hsG := hFG.size
          clear hRG hFG hne
          refine hK.out _ _ sG (fun hHeld => ?_)
          clear hK K'
          try simp only [Act.put]
          refine wpAnyH_ready (rs := [13]) (by kernel_rfl) (by simp) ?_
          refine AllReadyH.cons (o := { dst := none, op := Op.store 24 (Operand.tmp 21) (Operand.tmp 100), type := 0, pos := "law.go:108", after := #[{ on := 11, ground := Ground.data }, { on := 8, ground := Ground.data }, { on := 12, ground := Ground.chain }, { on := 0, ground := Ground.phase }, { on := 1, ground := Ground.phase }, { on := 2, ground := Ground.phase }, { on := 3, ground := Ground.phase }, { on := 4, ground := Ground.phase }, { on := 5, ground := Ground.phase }, { on := 6, ground := Ground.phase }, { on := 7, ground := Ground.phase }, { on := 8, ground := Ground.phase }, { on := 9, ground := Ground.textOnly Departure.lateStores }, { on := 10, ground := Ground.phase }, { on := 11, ground := Ground.phase }, { on := 12, ground := Ground.phase }], guard := none }) rfl (fun K' hK => ?_) AllReadyH.nil
          refine step_stP (x1 := x1) (y1 := x2) rfl (.tmp 21) (.tmp 100) rfl rfl rfl RBG.out ?_
          intro wF hRF hFF
          have hne : gA ≠ gB := by have := HN.out; omega
          have BF := Lib.hid (BVG.out.trans (hFF.toBelow (fun x hx => by rw [show x = gB from hx]; exact HLEB.out) BVG.out.size))
          have sF := SS.out _ BF.out
          have RBF := Lib.hid hRF
          have RAF := Lib.hid (RAG.out.fr hFF (fun e => hne (show gA = gB from e)))
          have RSF := Lib.hid ((RSG.out.stays (w' := wF) ⟨hFF.size, fun x hx => hFF.block x (by have := BVG.out.size; rcases hx with h | h <;> omega) (fun e => by have e' : x = gB := e; have := HLEB.out; rcases hx with h | h <;> omega)⟩).mono (K' := fun x => (kr x ∧ x < w2.heap.size) ∨ (w2.heap.size ≤ x ∧ x < wF.heap.size ∧ x ≠ gA ∧ x ≠ gB)) (fun x hx => by have := hFF.size; rcases hx with h | h; exact .inl h; exact .inr ⟨h.1, by omega, h.2.2.1, h.2.2.2⟩))
          clear hRF hFF hne RAG RBG RSG BVG
          refine hK.out _ _ sF (fun hHeld => ?_)
          clear hK K'
          try simp only [Act.put]
          refine wpAnyH_take (i := 14) (oi := { dst := some 22, op := Op.assign (Operand.tmp 101), type := 3, pos := "law.go:108", after := #[{ on := 9, ground := Ground.data }, { on := 13, ground := Ground.chain }, { on := 0, ground := Ground.phase }, { on := 1, ground := Ground.phase }, { on := 2, ground := Ground.phase }, { on := 3, ground := Ground.phase }, { on := 4, ground := Ground.phase }, { on := 5, ground := Ground.phase }, { on := 6, ground := Ground.phase }, { on := 7, ground := Ground.phase }, { on := 8, ground := Ground.phase }, { on := 9, ground := Ground.phase }, { on := 10, ground := Ground.phase }, { on := 11, ground := Ground.phase }, { on := 12, ground := Ground.phase }, { on := 13, ground := Ground.phase }], guard := none }) (v := ?_) rfl (by kernel_rfl) (by kernel_rfl) (by kernel_rfl) (fun _ _ _ h => h) (Or.inl ⟨by rfl, ?_⟩) (by assumption) ?_
          rotate_left 1
          · intro w' hSw; (try dsimp only at hSw); go_simp; (try with_reducible rfl)
          simp only [Act.put, List.setIfInBounds_toArray, List.set_cons_zero, List.set_cons_succ]
          refine wpAnyH_done (by kernel_rfl) ?_ _
          refine NoPanic.normal ?_
          have RG0 := Lib.hid (HR2.out.under BF.out)
          go_wp2_with (first
            | (with_reducible refine wpList_ldQ rfl (.tmp 20) rfl rfl RAF.out ?_)
            | ((with_reducible refine wpList_stQ (E' := E') (L' := L') (GA' := GA') (gn' := gn') (gc' := gc') (FA' := FA') (fn' := fn') (fc' := fc') rfl (.tmp 15) (.tmp 102) rfl rfl rfl RG0.out ?_); intro w7 hR7 hF7; have HR7 := Lib.hid hR7; have HF7 := Lib.hid hF7; have HT7 := Lib.hid ((HT2.out.under BF.out).fr hF7 (fun e => by have e' : wd.heap.size = g := e; exact absurd e' HNE.out)); have HB7 := Lib.hid (RBF.out.fr hF7 (fun e => by have e' : gB = g := e; have := HLEB.out; omega)); have hD7 := ((HD2.out.below B2.out).more BF.out (fun x => w2.heap.size ≤ x ∧ x < wF.heap.size) (fun x hx => hx)).fr (g := g) (.inl (.inr (.inl rfl))) hwg HF7.out; have hS7 := RSF.out.stays (w' := w7) ⟨HF7.out.size, fun x hx => HF7.out.block x (by have := BF.out.size; rcases hx with h | h <;> omega) (fun e => by have e' : x = g := e; rcases hx with h | h; exact hkg (e' ▸ h.1); omega)⟩; have HD7 := Lib.hid hD7; have HS7 := Lib.hid hS7; clear hR7 hF7 hD7 hS7)
            | (with_reducible refine wpList_ldP rfl (.tmp 18) rfl rfl HT7.out ?_)
            | (with_reducible refine wpList_ldP rfl (.tmp 21) rfl rfl HB7.out ?_))
          go_roundw
          case rel =>
            refine ⟨j + 1, hlt, by go_num, fun x => (kr x ∧ x < w2.heap.size) ∨ (w2.heap.size ≤ x ∧ x < wF.heap.size ∧ x ≠ gA ∧ x ≠ gB), s', ⟨E', L', GA', gn', gc', FA', fn', fc'⟩, fun hx => ?_, hwg, ?_, HR7.out, HS7.out⟩
            · rcases hx with h | h
              · exact hkg h.1
              · omega
            · exact HD7.out.less (fun x hx => by rcases hx with (h | h) | h | h; exact .inl (.inl h.1); exact .inr ⟨h.1, h.2.1⟩; exact .inl (.inr (.inl h)); exact .inl (.inr (.inr h)))
          case measure => simp [intOf]; omega
        · go_simp
          obtain ⟨vAB, hv⟩ : ∃ v, v = vA.alloc (.cells #[.int .i64 0, .int .i64 0] 24) := ⟨_, rfl⟩
          have hR : Rec 24 vAB vA.heap.size #[.int .i64 0, .int .i64 0] := by rw [hv]; exact Rec.new vA _ _
          have bV : Below vA.heap.size vA vAB := by rw [hv]; exact ((Below.refl _ _).alloc (Nat.le_refl _) _)
          have BVAB := Lib.hid (BVA.out.trans (bV.mono BVA.out.size))
          have sAB := SS.out _ BVAB.out
          have RAAB := Lib.hid (RAA.out.under bV)
          have neA : gA < vA.heap.size := RAA.out.lt
          obtain ⟨gB, hgB⟩ : ∃ g, g = vA.heap.size := ⟨_, rfl⟩
          have leB : w2.heap.size ≤ gB := by rw [hgB]; exact BVA.out.size
          rw [← hgB] at hR neA
          try rw [← hv]
          rw [← hgB]
          have RBAB := Lib.hid hR
          have HN := Lib.hid neA
          have HLEB := Lib.hid leB
          clear hv hR bV hgB leB neA
          refine hK.out _ _ sAB (fun hHeld => ?_)
          clear hK K'
          try simp only [Act.put, List.setIfInBounds_toArray, List.set_cons_zero, List.set_cons_succ]
          refine wpAnyH_ready (rs := [5]) (by kernel_rfl) (by simp) ?_
          refine AllReadyH.cons (o := { dst := some 98, op := Op.call { callee := Callee.value (Operand.func 10), args := #[Operand.tmp 93, Operand.tmp 97], argTypes := #[30, 35] }, type := 36, pos := "law.go:108", after := #[{ on := 0, ground := Ground.data }, { on := 4, ground := Ground.data }], guard := none }) rfl (fun K' hK => ?_) AllReadyH.nil
          go_simp
          go_at_call 10; refine (CG.out _ BVAB.out).mono ?_; rintro e vABP ⟨⟨E', L', GA', gn', gc', FA', fn', fc'⟩, rfl, hRP, hBP⟩
          have BVABP := Lib.hid (BVAB.out.trans (hBP.mono BVAB.out.size))
          have sABP := SS.out _ BVABP.out
          have RAABP := Lib.hid (RAAB.out.under hBP)
          have RBABP := Lib.hid (RBAB.out.under hBP)
          have ltA := RAAB.out.lt
          have ltB := RBAB.out.lt
          have hsW := BVAB.out.size
          have RSABP := Lib.hid (hRP.mono (K' := fun x => (kr x ∧ x < w2.heap.size) ∨ (w2.heap.size ≤ x ∧ x < vABP.heap.size ∧ x ≠ gA ∧ x ≠ gB)) (fun x hx => by rcases hx with h | h; exact .inl h; exact .inr ⟨by omega, h.2, by omega, by omega⟩))
          clear hRP hBP hsW ltA ltB
          simp only [Rv.v, idv]
          refine hK.out _ _ sABP (fun hHeld => ?_)
          clear hK K'
          try simp only [Act.put, List.setIfInBounds_toArray, List.set_cons_zero, List.set_cons_succ]
          refine wpAnyH_take (i := 6) (oi := { dst := some 92, op := Op.move (Operand.tmp 98), type := 36, pos := "law.go:108", after := #[{ on := 5, ground := Ground.data }], guard := none }) (v := ?_) rfl (by kernel_rfl) (by kernel_rfl) (by kernel_rfl) (fun _ _ _ h => h) (Or.inl ⟨by rfl, ?_⟩) (by assumption) ?_
          rotate_left 1
          · intro w' hSw; (try dsimp only at hSw); go_simp; (try with_reducible rfl)
          simp only [Act.put, List.setIfInBounds_toArray, List.set_cons_zero, List.set_cons_succ]
          refine wpAnyH_take (i := 7) (oi := { dst := some 99, op := Op.extract (Operand.tmp 92) 0, type := 30, pos := "law.go:108", after := #[{ on := 6, ground := Ground.data }], guard := none }) (v := ?_) rfl (by kernel_rfl) (by kernel_rfl) (by kernel_rfl) (fun _ _ _ h => h) (Or.inl ⟨by rfl, ?_⟩) (by assumption) ?_
          rotate_left 1
          · intro w' hSw; (try dsimp only at hSw); go_simp; (try with_reducible rfl)
          simp only [Act.put, List.setIfInBounds_toArray, List.set_cons_zero, List.set_cons_succ]
          refine wpAnyH_take (i := 8) (oi := { dst := some 100, op := Op.extract (Operand.tmp 92) 1, type := 24, pos := "law.go:108", after := #[{ on := 6, ground := Ground.data }, { on := 12, ground := Ground.gcOnly Departure.lateStores }], guard := none }) (v := ?_) rfl (by kernel_rfl) (by kernel_rfl) (by kernel_rfl) (fun _ _ _ h => h) (Or.inl ⟨by rfl, ?_⟩) (by assumption) ?_
          rotate_left 1
          · intro w' hSw; (try dsimp only at hSw); go_simp; (try with_reducible rfl)
          simp only [Act.put, List.setIfInBounds_toArray, List.set_cons_zero, List.set_cons_succ]
          refine wpAnyH_take (i := 9) (oi := { dst := some 101, op := Op.extract (Operand.tmp 92) 2, type := 3, pos := "law.go:108", after := #[{ on := 6, ground := Ground.data }, { on := 13, ground := Ground.gcOnly Departure.lateStores }], guard := none }) (v := ?_) rfl (by kernel_rfl) (by kernel_rfl) (by kernel_rfl) (fun _ _ _ h => h) (Or.inl ⟨by rfl, ?_⟩) (by assumption) ?_
          rotate_left 1
          · intro w' hSw; (try dsimp only at hSw); go_simp; (try with_reducible rfl)
          simp only [Act.put, List.setIfInBounds_toArray, List.set_cons_zero, List.set_cons_succ]
          refine wpAnyH_ready (rs := [12]) (by kernel_rfl) (by simp) ?_
          refine AllReadyH.cons (o := { dst := none, op := Op.store 30 (Operand.tmp 20) (Operand.tmp 99), type := 0, pos := "law.go:108", after := #[{ on := 10, ground := Ground.data }, { on := 7, ground := Ground.data }, { on := 5, ground := Ground.chain }, { on := 0, ground := Ground.phase }, { on := 1, ground := Ground.phase }, { on := 2, ground := Ground.phase }, { on := 3, ground := Ground.phase }, { on := 4, ground := Ground.phase }, { on := 5, ground := Ground.phase }, { on := 6, ground := Ground.phase }, { on := 7, ground := Ground.phase }, { on := 8, ground := Ground.textOnly Departure.lateStores }, { on := 9, ground := Ground.textOnly Departure.lateStores }, { on := 10, ground := Ground.phase }, { on := 11, ground := Ground.phase }], guard := none }) rfl (fun K' hK => ?_) AllReadyH.nil
          refine step_stQ (E' := E') (L' := L') (GA' := GA') (gn' := gn') (gc' := gc') (FA' := FA') (fn' := fn') (fc' := fc') rfl (.tmp 20) (.tmp 99) rfl rfl rfl RAABP.out ?_
          intro vG hRG hFG
          have hne : gA ≠ gB := by have := HN.out; omega
          have BVG := Lib.hid (BVABP.out.trans (hFG.toBelow (fun x hx => by rw [show x = gA from hx]; exact HLEA.out) BVABP.out.size))
          have sG := SS.out _ BVG.out
          have RAG := Lib.hid hRG
          have RBG := Lib.hid (RBABP.out.fr hFG (fun e => hne (show gB = gA from e).symm))
          have RSG := Lib.hid ((RSABP.out.mono (K' := fun x => (kr x ∧ x < w2.heap.size) ∨ (w2.heap.size ≤ x ∧ x < vABP.heap.size ∧ x ≠ gA ∧ x ≠ gB)) (fun x hx => by rcases hx with h | h; exact .inl h; exact .inr ⟨h.1, h.2.1, by omega, by omega⟩)).stays (w' := vG) ⟨hFG.size, fun x hx => hFG.block x (by have := BVABP.out.size; rcases hx with h | h <;> omega) (fun e => by have e' : x = gA := e; have := HLEA.out; rcases hx with h | h <;> omega)⟩)
          have hsG := hFG.size
          clear hRG hFG hne
          refine hK.out _ _ sG (fun hHeld => ?_)
          clear hK K'
          try simp only [Act.put]
          refine wpAnyH_ready (rs := [13]) (by kernel_rfl) (by simp) ?_
          refine AllReadyH.cons (o := { dst := none, op := Op.store 24 (Operand.tmp 21) (Operand.tmp 100), type := 0, pos := "law.go:108", after := #[{ on := 11, ground := Ground.data }, { on := 8, ground := Ground.data }, { on := 12, ground := Ground.chain }, { on := 0, ground := Ground.phase }, { on := 1, ground := Ground.phase }, { on := 2, ground := Ground.phase }, { on := 3, ground := Ground.phase }, { on := 4, ground := Ground.phase }, { on := 5, ground := Ground.phase }, { on := 6, ground := Ground.phase }, { on := 7, ground := Ground.phase }, { on := 8, ground := Ground.phase }, { on := 9, ground := Ground.textOnly Departure.lateStores }, { on := 10, ground := Ground.phase }, { on := 11, ground := Ground.phase }, { on := 12, ground := Ground.phase }], guard := none }) rfl (fun K' hK => ?_) AllReadyH.nil
          refine step_stP (x1 := x1) (y1 := x2) rfl (.tmp 21) (.tmp 100) rfl rfl rfl RBG.out ?_
          intro wF hRF hFF
          have hne : gA ≠ gB := by have := HN.out; omega
          have BF := Lib.hid (BVG.out.trans (hFF.toBelow (fun x hx => by rw [show x = gB from hx]; exact HLEB.out) BVG.out.size))
          have sF := SS.out _ BF.out
          have RBF := Lib.hid hRF
          have RAF := Lib.hid (RAG.out.fr hFF (fun e => hne (show gA = gB from e)))
          have RSF := Lib.hid ((RSG.out.stays (w' := wF) ⟨hFF.size, fun x hx => hFF.block x (by have := BVG.out.size; rcases hx with h | h <;> omega) (fun e => by have e' : x = gB := e; have := HLEB.out; rcases hx with h | h <;> omega)⟩).mono (K' := fun x => (kr x ∧ x < w2.heap.size) ∨ (w2.heap.size ≤ x ∧ x < wF.heap.size ∧ x ≠ gA ∧ x ≠ gB)) (fun x hx => by have := hFF.size; rcases hx with h | h; exact .inl h; exact .inr ⟨h.1, by omega, h.2.2.1, h.2.2.2⟩))
          clear hRF hFF hne RAG RBG RSG BVG
          refine hK.out _ _ sF (fun hHeld => ?_)
          clear hK K'
          try simp only [Act.put]
          refine wpAnyH_take (i := 14) (oi := { dst := some 22, op := Op.assign (Operand.tmp 101), type := 3, pos := "law.go:108", after := #[{ on := 9, ground := Ground.data }, { on := 13, ground := Ground.chain }, { on := 0, ground := Ground.phase }, { on := 1, ground := Ground.phase }, { on := 2, ground := Ground.phase }, { on := 3, ground := Ground.phase }, { on := 4, ground := Ground.phase }, { on := 5, ground := Ground.phase }, { on := 6, ground := Ground.phase }, { on := 7, ground := Ground.phase }, { on := 8, ground := Ground.phase }, { on := 9, ground := Ground.phase }, { on := 10, ground := Ground.phase }, { on := 11, ground := Ground.phase }, { on := 12, ground := Ground.phase }, { on := 13, ground := Ground.phase }], guard := none }) (v := ?_) rfl (by kernel_rfl) (by kernel_rfl) (by kernel_rfl) (fun _ _ _ h => h) (Or.inl ⟨by rfl, ?_⟩) (by assumption) ?_
          rotate_left 1
          · intro w' hSw; (try dsimp only at hSw); go_simp; (try with_reducible rfl)
          simp only [Act.put, List.setIfInBounds_toArray, List.set_cons_zero, List.set_cons_succ]
          refine wpAnyH_done (by kernel_rfl) ?_ _
          refine NoPanic.normal ?_
          have RG0 := Lib.hid (HR2.out.under BF.out)
          go_wp2_with (first
            | (with_reducible refine wpList_ldQ rfl (.tmp 20) rfl rfl RAF.out ?_)
            | ((with_reducible refine wpList_stQ (E' := E') (L' := L') (GA' := GA') (gn' := gn') (gc' := gc') (FA' := FA') (fn' := fn') (fc' := fc') rfl (.tmp 15) (.tmp 102) rfl rfl rfl RG0.out ?_); intro w7 hR7 hF7; have HR7 := Lib.hid hR7; have HF7 := Lib.hid hF7; have HT7 := Lib.hid ((HT2.out.under BF.out).fr hF7 (fun e => by have e' : wd.heap.size = g := e; exact absurd e' HNE.out)); have HB7 := Lib.hid (RBF.out.fr hF7 (fun e => by have e' : gB = g := e; have := HLEB.out; omega)); have hD7 := ((HD2.out.below B2.out).more BF.out (fun x => w2.heap.size ≤ x ∧ x < wF.heap.size) (fun x hx => hx)).fr (g := g) (.inl (.inr (.inl rfl))) hwg HF7.out; have hS7 := RSF.out.stays (w' := w7) ⟨HF7.out.size, fun x hx => HF7.out.block x (by have := BF.out.size; rcases hx with h | h <;> omega) (fun e => by have e' : x = g := e; rcases hx with h | h; exact hkg (e' ▸ h.1); omega)⟩; have HD7 := Lib.hid hD7; have HS7 := Lib.hid hS7; clear hR7 hF7 hD7 hS7)
            | (with_reducible refine wpList_ldP rfl (.tmp 18) rfl rfl HT7.out ?_)
            | (with_reducible refine wpList_ldP rfl (.tmp 21) rfl rfl HB7.out ?_))
          go_roundw
          case rel =>
            refine ⟨j + 1, hlt, by go_num, fun x => (kr x ∧ x < w2.heap.size) ∨ (w2.heap.size ≤ x ∧ x < wF.heap.size ∧ x ≠ gA ∧ x ≠ gB), s', ⟨E', L', GA', gn', gc', FA', fn', fc'⟩, fun hx => ?_, hwg, ?_, HR7.out, HS7.out⟩
            · rcases hx with h | h
              · exact hkg h.1
              · omega
            · exact HD7.out.less (fun x hx => by rcases hx with (h | h) | h | h; exact .inl (.inl h.1); exact .inr ⟨h.1, h.2.1⟩; exact .inl (.inr (.inl h)); exact .inl (.inr (.inr h)))
          case measure => simp [intOf]; omega
      · go_simp
        obtain ⟨vB, hv⟩ : ∃ v, v = (w2.alloc (.cells #[.int .i64 0, .int .i64 0] 24)).drew := ⟨_, rfl⟩
        have hR : Rec 24 vB w2.heap.size #[.int .i64 0, .int .i64 0] := by rw [hv]; exact Rec.new w2 _ _
        have bV : Below w2.heap.size w2 vB := by rw [hv]; exact ((Below.refl _ _).alloc (Nat.le_refl _) _).drew
        have BVB := Lib.hid (bV)
        have sB := SS.out _ BVB.out
        obtain ⟨gB, hgB⟩ : ∃ g, g = w2.heap.size := ⟨_, rfl⟩
        have leB : w2.heap.size ≤ gB := by rw [hgB]; exact Nat.le_refl _
        rw [← hgB] at hR
        try rw [← hv]
        rw [← hgB]
        have RBB := Lib.hid hR
        have HLEB := Lib.hid leB
        clear hv hR bV hgB leB
        refine hK.out _ _ sB (fun hHeld => ?_)
        clear hK K'
        try simp only [Act.put, List.setIfInBounds_toArray, List.set_cons_zero, List.set_cons_succ]
        refine wpAnyH_ready (rs := [5, 10]) (by kernel_rfl) (by simp) ?_
        refine AllReadyH.cons (o := { dst := some 98, op := Op.call { callee := Callee.value (Operand.func 10), args := #[Operand.tmp 93, Operand.tmp 97], argTypes := #[30, 35] }, type := 36, pos := "law.go:108", after := #[{ on := 0, ground := Ground.data }, { on := 4, ground := Ground.data }], guard := none }) rfl (fun K' hK => ?_) (AllReadyH.cons (o := { dst := some 20, op := Op.alloc 30, type := 0, pos := "law.go:108", after := #[], guard := none }) rfl (fun K' hK => ?_) AllReadyH.nil)
        · go_simp
          go_at_call 10; refine (CG.out _ BVB.out).mono ?_; rintro e vBP ⟨⟨E', L', GA', gn', gc', FA', fn', fc'⟩, rfl, hRP, hBP⟩
          have BVBP := Lib.hid (BVB.out.trans (hBP.mono BVB.out.size))
          have sBP := SS.out _ BVBP.out
          have RBBP := Lib.hid (RBB.out.under hBP)
          have ltB := RBB.out.lt
          have hsW := BVB.out.size
          have RSBP := Lib.hid (hRP.mono (K' := fun x => (kr x ∧ x < w2.heap.size) ∨ (w2.heap.size ≤ x ∧ x < vBP.heap.size ∧ x ≠ gB)) (fun x hx => by rcases hx with h | h; exact .inl h; exact .inr ⟨by omega, h.2, by omega⟩))
          clear hRP hBP hsW ltB
          simp only [Rv.v, idv]
          refine hK.out _ _ sBP (fun hHeld => ?_)
          clear hK K'
          try simp only [Act.put, List.setIfInBounds_toArray, List.set_cons_zero, List.set_cons_succ]
          refine wpAnyH_take (i := 6) (oi := { dst := some 92, op := Op.move (Operand.tmp 98), type := 36, pos := "law.go:108", after := #[{ on := 5, ground := Ground.data }], guard := none }) (v := ?_) rfl (by kernel_rfl) (by kernel_rfl) (by kernel_rfl) (fun _ _ _ h => h) (Or.inl ⟨by rfl, ?_⟩) (by assumption) ?_
          rotate_left 1
          · intro w' hSw; (try dsimp only at hSw); go_simp; (try with_reducible rfl)
          simp only [Act.put, List.setIfInBounds_toArray, List.set_cons_zero, List.set_cons_succ]
          refine wpAnyH_take (i := 7) (oi := { dst := some 99, op := Op.extract (Operand.tmp 92) 0, type := 30, pos := "law.go:108", after := #[{ on := 6, ground := Ground.data }], guard := none }) (v := ?_) rfl (by kernel_rfl) (by kernel_rfl) (by kernel_rfl) (fun _ _ _ h => h) (Or.inl ⟨by rfl, ?_⟩) (by assumption) ?_
          rotate_left 1
          · intro w' hSw; (try dsimp only at hSw); go_simp; (try with_reducible rfl)
          simp only [Act.put, List.setIfInBounds_toArray, List.set_cons_zero, List.set_cons_succ]
          refine wpAnyH_take (i := 8) (oi := { dst := some 100, op := Op.extract (Operand.tmp 92) 1, type := 24, pos := "law.go:108", after := #[{ on := 6, ground := Ground.data }, { on := 12, ground := Ground.gcOnly Departure.lateStores }], guard := none }) (v := ?_) rfl (by kernel_rfl) (by kernel_rfl) (by kernel_rfl) (fun _ _ _ h => h) (Or.inl ⟨by rfl, ?_⟩) (by assumption) ?_
          rotate_left 1
          · intro w' hSw; (try dsimp only at hSw); go_simp; (try with_reducible rfl)
          simp only [Act.put, List.setIfInBounds_toArray, List.set_cons_zero, List.set_cons_succ]
          refine wpAnyH_take (i := 9) (oi := { dst := some 101, op := Op.extract (Operand.tmp 92) 2, type := 3, pos := "law.go:108", after := #[{ on := 6, ground := Ground.data }, { on := 13, ground := Ground.gcOnly Departure.lateStores }], guard := none }) (v := ?_) rfl (by kernel_rfl) (by kernel_rfl) (by kernel_rfl) (fun _ _ _ h => h) (Or.inl ⟨by rfl, ?_⟩) (by assumption) ?_
          rotate_left 1
          · intro w' hSw; (try dsimp only at hSw); go_simp; (try with_reducible rfl)
          simp only [Act.put, List.setIfInBounds_toArray, List.set_cons_zero, List.set_cons_succ]
          refine wpAnyH_ready (rs := [10]) (by kernel_rfl) (by simp) ?_
          refine AllReadyH.cons (o := { dst := some 20, op := Op.alloc 30, type := 0, pos := "law.go:108", after := #[], guard := none }) rfl (fun K' hK => ?_) AllReadyH.nil
          go_simp
          obtain ⟨vBPA, hv⟩ : ∃ v, v = vBP.alloc (.cells #[.int .i64 0, .int .i64 0, .slice none 0 0, .slice none 0 0] 30) := ⟨_, rfl⟩
          have hR : Rec 30 vBPA vBP.heap.size #[.int .i64 0, .int .i64 0, .slice none 0 0, .slice none 0 0] := by rw [hv]; exact Rec.new vBP _ _
          have bV : Below vBP.heap.size vBP vBPA := by rw [hv]; exact ((Below.refl _ _).alloc (Nat.le_refl _) _)
          have BVBPA := Lib.hid (BVBP.out.trans (bV.mono BVBP.out.size))
          have sBPA := SS.out _ BVBPA.out
          have RBBPA := Lib.hid (RBBP.out.under bV)
          have neB : gB < vBP.heap.size := RBBP.out.lt
          have RSBPA := Lib.hid ((RSBP.out.below bV).mono (K' := fun x => (kr x ∧ x < w2.heap.size) ∨ (w2.heap.size ≤ x ∧ x < vBPA.heap.size ∧ x ≠ gB ∧ x ≠ vBP.heap.size)) (fun x hx => by have := bV.size; rcases hx with h | h; exact .inl h; exact .inr ⟨h.1, by omega, by omega, by omega⟩))
          obtain ⟨gA, hgA⟩ : ∃ g, g = vBP.heap.size := ⟨_, rfl⟩
          have leA : w2.heap.size ≤ gA := by rw [hgA]; exact BVBP.out.size
          rw [← hgA] at hR neB RSBPA
          try rw [← hv]
          rw [← hgA]
          have RABPA := Lib.hid hR
          have HN := Lib.hid neB
          have HLEA := Lib.hid leA
          clear hv hR bV hgA leA neB
          refine hK.out _ _ sBPA (fun hHeld => ?_)
          clear hK K'
          try simp only [Act.put, List.setIfInBounds_toArray, List.set_cons_zero, List.set_cons_succ]
          refine wpAnyH_ready (rs := [12]) (by kernel_rfl) (by simp) ?_
          refine AllReadyH.cons (o := { dst := none, op := Op.store 30 (Operand.tmp 20) (Operand.tmp 99), type := 0, pos := "law.go:108", after := #[{ on := 10, ground := Ground.data }, { on := 7, ground := Ground.data }, { on := 5, ground := Ground.chain }, { on := 0, ground := Ground.phase }, { on := 1, ground := Ground.phase }, { on := 2, ground := Ground.phase }, { on := 3, ground := Ground.phase }, { on := 4, ground := Ground.phase }, { on := 5, ground := Ground.phase }, { on := 6, ground := Ground.phase }, { on := 7, ground := Ground.phase }, { on := 8, ground := Ground.textOnly Departure.lateStores }, { on := 9, ground := Ground.textOnly Departure.lateStores }, { on := 10, ground := Ground.phase }, { on := 11, ground := Ground.phase }], guard := none }) rfl (fun K' hK => ?_) AllReadyH.nil
          refine step_stQ (E' := E') (L' := L') (GA' := GA') (gn' := gn') (gc' := gc') (FA' := FA') (fn' := fn') (fc' := fc') rfl (.tmp 20) (.tmp 99) rfl rfl rfl RABPA.out ?_
          intro vG hRG hFG
          have hne : gA ≠ gB := by have := HN.out; omega
          have BVG := Lib.hid (BVBPA.out.trans (hFG.toBelow (fun x hx => by rw [show x = gA from hx]; exact HLEA.out) BVBPA.out.size))
          have sG := SS.out _ BVG.out
          have RAG := Lib.hid hRG
          have RBG := Lib.hid (RBBPA.out.fr hFG (fun e => hne (show gB = gA from e).symm))
          have RSG := Lib.hid ((RSBPA.out.mono (K' := fun x => (kr x ∧ x < w2.heap.size) ∨ (w2.heap.size ≤ x ∧ x < vBPA.heap.size ∧ x ≠ gA ∧ x ≠ gB)) (fun x hx => by rcases hx with h | h; exact .inl h; exact .inr ⟨h.1, h.2.1, by omega, by omega⟩)).stays (w' := vG) ⟨hFG.size, fun x hx => hFG.block x (by have := BVBPA.out.size; rcases hx with h | h <;> omega) (fun e => by have e' : x = gA := e; have := HLEA.out; rcases hx with h | h <;> omega)⟩)
          have hsG := hFG.size
          clear hRG hFG hne
          refine hK.out _ _ sG (fun hHeld => ?_)
          clear hK K'
          try simp only [Act.put]
          refine wpAnyH_ready (rs := [13]) (by kernel_rfl) (by simp) ?_
          refine AllReadyH.cons (o := { dst := none, op := Op.store 24 (Operand.tmp 21) (Operand.tmp 100), type := 0, pos := "law.go:108", after := #[{ on := 11, ground := Ground.data }, { on := 8, ground := Ground.data }, { on := 12, ground := Ground.chain }, { on := 0, ground := Ground.phase }, { on := 1, ground := Ground.phase }, { on := 2, ground := Ground.phase }, { on := 3, ground := Ground.phase }, { on := 4, ground := Ground.phase }, { on := 5, ground := Ground.phase }, { on := 6, ground := Ground.phase }, { on := 7, ground := Ground.phase }, { on := 8, ground := Ground.phase }, { on := 9, ground := Ground.textOnly Departure.lateStores }, { on := 10, ground := Ground.phase }, { on := 11, ground := Ground.phase }, { on := 12, ground := Ground.phase }], guard := none }) rfl (fun K' hK => ?_) AllReadyH.nil
          refine step_stP (x1 := x1) (y1 := x2) rfl (.tmp 21) (.tmp 100) rfl rfl rfl RBG.out ?_
          intro wF hRF hFF
          have hne : gA ≠ gB := by have := HN.out; omega
          have BF := Lib.hid (BVG.out.trans (hFF.toBelow (fun x hx => by rw [show x = gB from hx]; exact HLEB.out) BVG.out.size))
          have sF := SS.out _ BF.out
          have RBF := Lib.hid hRF
          have RAF := Lib.hid (RAG.out.fr hFF (fun e => hne (show gA = gB from e)))
          have RSF := Lib.hid ((RSG.out.stays (w' := wF) ⟨hFF.size, fun x hx => hFF.block x (by have := BVG.out.size; rcases hx with h | h <;> omega) (fun e => by have e' : x = gB := e; have := HLEB.out; rcases hx with h | h <;> omega)⟩).mono (K' := fun x => (kr x ∧ x < w2.heap.size) ∨ (w2.heap.size ≤ x ∧ x < wF.heap.size ∧ x ≠ gA ∧ x ≠ gB)) (fun x hx => by have := hFF.size; rcases hx with h | h; exact .inl h; exact .inr ⟨h.1, by omega, h.2.2.1, h.2.2.2⟩))
          clear hRF hFF hne RAG RBG RSG BVG
          refine hK.out _ _ sF (fun hHeld => ?_)
          clear hK K'
          try simp only [Act.put]
          refine wpAnyH_take (i := 14) (oi := { dst := some 22, op := Op.assign (Operand.tmp 101), type := 3, pos := "law.go:108", after := #[{ on := 9, ground := Ground.data }, { on := 13, ground := Ground.chain }, { on := 0, ground := Ground.phase }, { on := 1, ground := Ground.phase }, { on := 2, ground := Ground.phase }, { on := 3, ground := Ground.phase }, { on := 4, ground := Ground.phase }, { on := 5, ground := Ground.phase }, { on := 6, ground := Ground.phase }, { on := 7, ground := Ground.phase }, { on := 8, ground := Ground.phase }, { on := 9, ground := Ground.phase }, { on := 10, ground := Ground.phase }, { on := 11, ground := Ground.phase }, { on := 12, ground := Ground.phase }, { on := 13, ground := Ground.phase }], guard := none }) (v := ?_) rfl (by kernel_rfl) (by kernel_rfl) (by kernel_rfl) (fun _ _ _ h => h) (Or.inl ⟨by rfl, ?_⟩) (by assumption) ?_
          rotate_left 1
          · intro w' hSw; (try dsimp only at hSw); go_simp; (try with_reducible rfl)
          simp only [Act.put, List.setIfInBounds_toArray, List.set_cons_zero, List.set_cons_succ]
          refine wpAnyH_done (by kernel_rfl) ?_ _
          refine NoPanic.normal ?_
          have RG0 := Lib.hid (HR2.out.under BF.out)
          go_wp2_with (first
            | (with_reducible refine wpList_ldQ rfl (.tmp 20) rfl rfl RAF.out ?_)
            | ((with_reducible refine wpList_stQ (E' := E') (L' := L') (GA' := GA') (gn' := gn') (gc' := gc') (FA' := FA') (fn' := fn') (fc' := fc') rfl (.tmp 15) (.tmp 102) rfl rfl rfl RG0.out ?_); intro w7 hR7 hF7; have HR7 := Lib.hid hR7; have HF7 := Lib.hid hF7; have HT7 := Lib.hid ((HT2.out.under BF.out).fr hF7 (fun e => by have e' : wd.heap.size = g := e; exact absurd e' HNE.out)); have HB7 := Lib.hid (RBF.out.fr hF7 (fun e => by have e' : gB = g := e; have := HLEB.out; omega)); have hD7 := ((HD2.out.below B2.out).more BF.out (fun x => w2.heap.size ≤ x ∧ x < wF.heap.size) (fun x hx => hx)).fr (g := g) (.inl (.inr (.inl rfl))) hwg HF7.out; have hS7 := RSF.out.stays (w' := w7) ⟨HF7.out.size, fun x hx => HF7.out.block x (by have := BF.out.size; rcases hx with h | h <;> omega) (fun e => by have e' : x = g := e; rcases hx with h | h; exact hkg (e' ▸ h.1); omega)⟩; have HD7 := Lib.hid hD7; have HS7 := Lib.hid hS7; clear hR7 hF7 hD7 hS7)
            | (with_reducible refine wpList_ldP rfl (.tmp 18) rfl rfl HT7.out ?_)
            | (with_reducible refine wpList_ldP rfl (.tmp 21) rfl rfl HB7.out ?_))
          go_roundw
          case rel =>
            refine ⟨j + 1, hlt, by go_num, fun x => (kr x ∧ x < w2.heap.size) ∨ (w2.heap.size ≤ x ∧ x < wF.heap.size ∧ x ≠ gA ∧ x ≠ gB), s', ⟨E', L', GA', gn', gc', FA', fn', fc'⟩, fun hx => ?_, hwg, ?_, HR7.out, HS7.out⟩
            · rcases hx with h | h
              · exact hkg h.1
              · omega
            · exact HD7.out.less (fun x hx => by rcases hx with (h | h) | h | h; exact .inl (.inl h.1); exact .inr ⟨h.1, h.2.1⟩; exact .inl (.inr (.inl h)); exact .inl (.inr (.inr h)))
          case measure => simp [intOf]; omega
        · go_simp
          obtain ⟨vBA, hv⟩ : ∃ v, v = vB.alloc (.cells #[.int .i64 0, .int .i64 0, .slice none 0 0, .slice none 0 0] 30) := ⟨_, rfl⟩
          have hR : Rec 30 vBA vB.heap.size #[.int .i64 0, .int .i64 0, .slice none 0 0, .slice none 0 0] := by rw [hv]; exact Rec.new vB _ _
          have bV : Below vB.heap.size vB vBA := by rw [hv]; exact ((Below.refl _ _).alloc (Nat.le_refl _) _)
          have BVBA := Lib.hid (BVB.out.trans (bV.mono BVB.out.size))
          have sBA := SS.out _ BVBA.out
          have RBBA := Lib.hid (RBB.out.under bV)
          have neB : gB < vB.heap.size := RBB.out.lt
          obtain ⟨gA, hgA⟩ : ∃ g, g = vB.heap.size := ⟨_, rfl⟩
          have leA : w2.heap.size ≤ gA := by rw [hgA]; exact BVB.out.size
          rw [← hgA] at hR neB
          try rw [← hv]
          rw [← hgA]
          have RABA := Lib.hid hR
          have HN := Lib.hid neB
          have HLEA := Lib.hid leA
          clear hv hR bV hgA leA neB
          refine hK.out _ _ sBA (fun hHeld => ?_)
          clear hK K'
          try simp only [Act.put, List.setIfInBounds_toArray, List.set_cons_zero, List.set_cons_succ]
          refine wpAnyH_ready (rs := [5]) (by kernel_rfl) (by simp) ?_
          refine AllReadyH.cons (o := { dst := some 98, op := Op.call { callee := Callee.value (Operand.func 10), args := #[Operand.tmp 93, Operand.tmp 97], argTypes := #[30, 35] }, type := 36, pos := "law.go:108", after := #[{ on := 0, ground := Ground.data }, { on := 4, ground := Ground.data }], guard := none }) rfl (fun K' hK => ?_) AllReadyH.nil
          go_simp
          go_at_call 10; refine (CG.out _ BVBA.out).mono ?_; rintro e vBAP ⟨⟨E', L', GA', gn', gc', FA', fn', fc'⟩, rfl, hRP, hBP⟩
          have BVBAP := Lib.hid (BVBA.out.trans (hBP.mono BVBA.out.size))
          have sBAP := SS.out _ BVBAP.out
          have RBBAP := Lib.hid (RBBA.out.under hBP)
          have RABAP := Lib.hid (RABA.out.under hBP)
          have ltB := RBBA.out.lt
          have ltA := RABA.out.lt
          have hsW := BVBA.out.size
          have RSBAP := Lib.hid (hRP.mono (K' := fun x => (kr x ∧ x < w2.heap.size) ∨ (w2.heap.size ≤ x ∧ x < vBAP.heap.size ∧ x ≠ gB ∧ x ≠ gA)) (fun x hx => by rcases hx with h | h; exact .inl h; exact .inr ⟨by omega, h.2, by omega, by omega⟩))
          clear hRP hBP hsW ltB ltA
          simp only [Rv.v, idv]
          refine hK.out _ _ sBAP (fun hHeld => ?_)
          clear hK K'
          try simp only [Act.put, List.setIfInBounds_toArray, List.set_cons_zero, List.set_cons_succ]
          refine wpAnyH_take (i := 6) (oi := { dst := some 92, op := Op.move (Operand.tmp 98), type := 36, pos := "law.go:108", after := #[{ on := 5, ground := Ground.data }], guard := none }) (v := ?_) rfl (by kernel_rfl) (by kernel_rfl) (by kernel_rfl) (fun _ _ _ h => h) (Or.inl ⟨by rfl, ?_⟩) (by assumption) ?_
          rotate_left 1
          · intro w' hSw; (try dsimp only at hSw); go_simp; (try with_reducible rfl)
          simp only [Act.put, List.setIfInBounds_toArray, List.set_cons_zero, List.set_cons_succ]
          refine wpAnyH_take (i := 7) (oi := { dst := some 99, op := Op.extract (Operand.tmp 92) 0, type := 30, pos := "law.go:108", after := #[{ on := 6, ground := Ground.data }], guard := none }) (v := ?_) rfl (by kernel_rfl) (by kernel_rfl) (by kernel_rfl) (fun _ _ _ h => h) (Or.inl ⟨by rfl, ?_⟩) (by assumption) ?_
          rotate_left 1
          · intro w' hSw; (try dsimp only at hSw); go_simp; (try with_reducible rfl)
          simp only [Act.put, List.setIfInBounds_toArray, List.set_cons_zero, List.set_cons_succ]
          refine wpAnyH_take (i := 8) (oi := { dst := some 100, op := Op.extract (Operand.tmp 92) 1, type := 24, pos := "law.go:108", after := #[{ on := 6, ground := Ground.data }, { on := 12, ground := Ground.gcOnly Departure.lateStores }], guard := none }) (v := ?_) rfl (by kernel_rfl) (by kernel_rfl) (by kernel_rfl) (fun _ _ _ h => h) (Or.inl ⟨by rfl, ?_⟩) (by assumption) ?_
          rotate_left 1
          · intro w' hSw; (try dsimp only at hSw); go_simp; (try with_reducible rfl)
          simp only [Act.put, List.setIfInBounds_toArray, List.set_cons_zero, List.set_cons_succ]
          refine wpAnyH_take (i := 9) (oi := { dst := some 101, op := Op.extract (Operand.tmp 92) 2, type := 3, pos := "law.go:108", after := #[{ on := 6, ground := Ground.data }, { on := 13, ground := Ground.gcOnly Departure.lateStores }], guard := none }) (v := ?_) rfl (by kernel_rfl) (by kernel_rfl) (by kernel_rfl) (fun _ _ _ h => h) (Or.inl ⟨by rfl, ?_⟩) (by assumption) ?_
          rotate_left 1
          · intro w' hSw; (try dsimp only at hSw); go_simp; (try with_reducible rfl)
          simp only [Act.put, List.setIfInBounds_toArray, List.set_cons_zero, List.set_cons_succ]
          refine wpAnyH_ready (rs := [12]) (by kernel_rfl) (by simp) ?_
          refine AllReadyH.cons (o := { dst := none, op := Op.store 30 (Operand.tmp 20) (Operand.tmp 99), type := 0, pos := "law.go:108", after := #[{ on := 10, ground := Ground.data }, { on := 7, ground := Ground.data }, { on := 5, ground := Ground.chain }, { on := 0, ground := Ground.phase }, { on := 1, ground := Ground.phase }, { on := 2, ground := Ground.phase }, { on := 3, ground := Ground.phase }, { on := 4, ground := Ground.phase }, { on := 5, ground := Ground.phase }, { on := 6, ground := Ground.phase }, { on := 7, ground := Ground.phase }, { on := 8, ground := Ground.textOnly Departure.lateStores }, { on := 9, ground := Ground.textOnly Departure.lateStores }, { on := 10, ground := Ground.phase }, { on := 11, ground := Ground.phase }], guard := none }) rfl (fun K' hK => ?_) AllReadyH.nil
          refine step_stQ (E' := E') (L' := L') (GA' := GA') (gn' := gn') (gc' := gc') (FA' := FA') (fn' := fn') (fc' := fc') rfl (.tmp 20) (.tmp 99) rfl rfl rfl RABAP.out ?_
          intro vG hRG hFG
          have hne : gA ≠ gB := by have := HN.out; omega
          have BVG := Lib.hid (BVBAP.out.trans (hFG.toBelow (fun x hx => by rw [show x = gA from hx]; exact HLEA.out) BVBAP.out.size))
          have sG := SS.out _ BVG.out
          have RAG := Lib.hid hRG
          have RBG := Lib.hid (RBBAP.out.fr hFG (fun e => hne (show gB = gA from e).symm))
          have RSG := Lib.hid ((RSBAP.out.mono (K' := fun x => (kr x ∧ x < w2.heap.size) ∨ (w2.heap.size ≤ x ∧ x < vBAP.heap.size ∧ x ≠ gA ∧ x ≠ gB)) (fun x hx => by rcases hx with h | h; exact .inl h; exact .inr ⟨h.1, h.2.1, by omega, by omega⟩)).stays (w' := vG) ⟨hFG.size, fun x hx => hFG.block x (by have := BVBAP.out.size; rcases hx with h | h <;> omega) (fun e => by have e' : x = gA := e; have := HLEA.out; rcases hx with h | h <;> omega)⟩)
          have hsG := hFG.size
          clear hRG hFG hne
          refine hK.out _ _ sG (fun hHeld => ?_)
          clear hK K'
          try simp only [Act.put]
          refine wpAnyH_ready (rs := [13]) (by kernel_rfl) (by simp) ?_
          refine AllReadyH.cons (o := { dst := none, op := Op.store 24 (Operand.tmp 21) (Operand.tmp 100), type := 0, pos := "law.go:108", after := #[{ on := 11, ground := Ground.data }, { on := 8, ground := Ground.data }, { on := 12, ground := Ground.chain }, { on := 0, ground := Ground.phase }, { on := 1, ground := Ground.phase }, { on := 2, ground := Ground.phase }, { on := 3, ground := Ground.phase }, { on := 4, ground := Ground.phase }, { on := 5, ground := Ground.phase }, { on := 6, ground := Ground.phase }, { on := 7, ground := Ground.phase }, { on := 8, ground := Ground.phase }, { on := 9, ground := Ground.textOnly Departure.lateStores }, { on := 10, ground := Ground.phase }, { on := 11, ground := Ground.phase }, { on := 12, ground := Ground.phase }], guard := none }) rfl (fun K' hK => ?_) AllReadyH.nil
          refine step_stP (x1 := x1) (y1 := x2) rfl (.tmp 21) (.tmp 100) rfl rfl rfl RBG.out ?_
          intro wF hRF hFF
          have hne : gA ≠ gB := by have := HN.out; omega
          have BF := Lib.hid (BVG.out.trans (hFF.toBelow (fun x hx => by rw [show x = gB from hx]; exact HLEB.out) BVG.out.size))
          have sF := SS.out _ BF.out
          have RBF := Lib.hid hRF
          have RAF := Lib.hid (RAG.out.fr hFF (fun e => hne (show gA = gB from e)))
          have RSF := Lib.hid ((RSG.out.stays (w' := wF) ⟨hFF.size, fun x hx => hFF.block x (by have := BVG.out.size; rcases hx with h | h <;> omega) (fun e => by have e' : x = gB := e; have := HLEB.out; rcases hx with h | h <;> omega)⟩).mono (K' := fun x => (kr x ∧ x < w2.heap.size) ∨ (w2.heap.size ≤ x ∧ x < wF.heap.size ∧ x ≠ gA ∧ x ≠ gB)) (fun x hx => by have := hFF.size; rcases hx with h | h; exact .inl h; exact .inr ⟨h.1, by omega, h.2.2.1, h.2.2.2⟩))
          clear hRF hFF hne RAG RBG RSG BVG
          refine hK.out _ _ sF (fun hHeld => ?_)
          clear hK K'
          try simp only [Act.put]
          refine wpAnyH_take (i := 14) (oi := { dst := some 22, op := Op.assign (Operand.tmp 101), type := 3, pos := "law.go:108", after := #[{ on := 9, ground := Ground.data }, { on := 13, ground := Ground.chain }, { on := 0, ground := Ground.phase }, { on := 1, ground := Ground.phase }, { on := 2, ground := Ground.phase }, { on := 3, ground := Ground.phase }, { on := 4, ground := Ground.phase }, { on := 5, ground := Ground.phase }, { on := 6, ground := Ground.phase }, { on := 7, ground := Ground.phase }, { on := 8, ground := Ground.phase }, { on := 9, ground := Ground.phase }, { on := 10, ground := Ground.phase }, { on := 11, ground := Ground.phase }, { on := 12, ground := Ground.phase }, { on := 13, ground := Ground.phase }], guard := none }) (v := ?_) rfl (by kernel_rfl) (by kernel_rfl) (by kernel_rfl) (fun _ _ _ h => h) (Or.inl ⟨by rfl, ?_⟩) (by assumption) ?_
          rotate_left 1
          · intro w' hSw; (try dsimp only at hSw); go_simp; (try with_reducible rfl)
          simp only [Act.put, List.setIfInBounds_toArray, List.set_cons_zero, List.set_cons_succ]
          refine wpAnyH_done (by kernel_rfl) ?_ _
          refine NoPanic.normal ?_
          have RG0 := Lib.hid (HR2.out.under BF.out)
          go_wp2_with (first
            | (with_reducible refine wpList_ldQ rfl (.tmp 20) rfl rfl RAF.out ?_)
            | ((with_reducible refine wpList_stQ (E' := E') (L' := L') (GA' := GA') (gn' := gn') (gc' := gc') (FA' := FA') (fn' := fn') (fc' := fc') rfl (.tmp 15) (.tmp 102) rfl rfl rfl RG0.out ?_); intro w7 hR7 hF7; have HR7 := Lib.hid hR7; have HF7 := Lib.hid hF7; have HT7 := Lib.hid ((HT2.out.under BF.out).fr hF7 (fun e => by have e' : wd.heap.size = g := e; exact absurd e' HNE.out)); have HB7 := Lib.hid (RBF.out.fr hF7 (fun e => by have e' : gB = g := e; have := HLEB.out; omega)); have hD7 := ((HD2.out.below B2.out).more BF.out (fun x => w2.heap.size ≤ x ∧ x < wF.heap.size) (fun x hx => hx)).fr (g := g) (.inl (.inr (.inl rfl))) hwg HF7.out; have hS7 := RSF.out.stays (w' := w7) ⟨HF7.out.size, fun x hx => HF7.out.block x (by have := BF.out.size; rcases hx with h | h <;> omega) (fun e => by have e' : x = g := e; rcases hx with h | h; exact hkg (e' ▸ h.1); omega)⟩; have HD7 := Lib.hid hD7; have HS7 := Lib.hid hS7; clear hR7 hF7 hD7 hS7)
            | (with_reducible refine wpList_ldP rfl (.tmp 18) rfl rfl HT7.out ?_)
            | (with_reducible refine wpList_ldP rfl (.tmp 21) rfl rfl HB7.out ?_))
          go_roundw
          case rel =>
            refine ⟨j + 1, hlt, by go_num, fun x => (kr x ∧ x < w2.heap.size) ∨ (w2.heap.size ≤ x ∧ x < wF.heap.size ∧ x ≠ gA ∧ x ≠ gB), s', ⟨E', L', GA', gn', gc', FA', fn', fc'⟩, fun hx => ?_, hwg, ?_, HR7.out, HS7.out⟩
            · rcases hx with h | h
              · exact hkg h.1
              · omega
            · exact HD7.out.less (fun x hx => by rcases hx with (h | h) | h | h; exact .inl (.inl h.1); exact .inr ⟨h.1, h.2.1⟩; exact .inl (.inr (.inl h)); exact .inl (.inr (.inr h)))
          case measure => simp [intOf]; omega
    · obtain ⟨kr, s, ⟨E, L, GA, gn, gc, FA, fn, fc⟩, hkg, hwg, hD, hR, hRS⟩ := hI
      have CS : ∀ W, Below wr.heap.size wr W → Calls Try.prog 11 #[.pointer (some ⟨p, 0, none⟩), .agg #[.int .i64 E, .int .i64 L, .slice GA gn gc, .slice FA fn fc], .agg #[.int .i64 i, .int .i64 gen]] W fun e w' => e = .returned (.bool true) ∧ Below W.heap.size W w' := fun W hW => same_idv (hD.below hW) (hRS.below hW) i gen
      have CS := Lib.hid CS
      have hI7 := HI0.out.below hD.under HI0.out.lt
      have HI7 := Lib.hid hI7
      have HR7 := Lib.hid hR
      have HU := Lib.hid hD.under
      have HV := Lib.hid (Below.refl wr.heap.size wr)
      clear hD hRS hR hI7
      go_wp2_with (first
        | ((go_at_call 16); refine (Take_nil _).mono ?_; rintro e w1 ⟨rfl, hB1⟩; simp only [idv]; obtain ⟨w2, hw2⟩ : ∃ w2, w2 = w1.alloc (.cells #[.int .i64 0, .int .i64 0] 24) := ⟨_, rfl⟩; have hB2 : Below wr.heap.size wr w2 := (by rw [hw2]; exact hB1.alloc hB1.size _); have HI7 := Lib.hid (HI7.out.under hB2); have HR7 := Lib.hid (HR7.out.under hB2); have HV := Lib.hid (HV.out.trans (hB2.mono HV.out.size)); have HW2 := Lib.hid hw2; clear hB1 hB2 hw2)
        | ((go_at_call 15); (try rw [← HW2.out]); refine (code_any _ _).mono ?_; rintro e w' ⟨rfl, rfl⟩)
        | ((go_at_call 17); refine (Give_nil _ _ _).mono ?_; rintro e w3 ⟨rfl, hB3⟩; have HI7 := Lib.hid (HI7.out.under hB3); have HR7 := Lib.hid (HR7.out.under hB3); have HV := Lib.hid (HV.out.trans (hB3.mono HV.out.size)); clear hB3)
        | ((go_at_call 12); refine (Alive_nil _ _ _).mono ?_; rintro e w4 ⟨rfl, hB4⟩; have HI7 := Lib.hid (HI7.out.under hB4); have HR7 := Lib.hid (HR7.out.under hB4); have HV := Lib.hid (HV.out.trans (hB4.mono HV.out.size)); clear hB4)
        | ((go_at_call 18); refine (Count_nil _).mono ?_; rintro e w' ⟨rfl, rfl⟩)
        | ((go_at_call 19); refine (Gens_nil _).mono ?_; rintro e w' ⟨rfl, rfl⟩)
        | ((go_at_call 20); refine (Free_nil _).mono ?_; rintro e w' ⟨rfl, rfl⟩)
        | (with_reducible refine wpList_ldQ rfl (.tmp 15) rfl rfl HR7.out ?_)
        | (with_reducible refine wpList_ldP rfl (.tmp 11) rfl rfl HI7.out ?_)
        | ((go_at_call 11); refine (CS.out _ HV.out).mono ?_; rintro e w8 ⟨rfl, hB8⟩; have HV := Lib.hid (HV.out.trans (hB8.mono HV.out.size)); clear hB8)
        | ((go_at_call 6); refine (live_any _).mono ?_; rintro e w9 ⟨rfl, hB9⟩; have HV := Lib.hid (HV.out.trans (hB9.mono HV.out.size)); clear hB9))
      go_ret
      exact ⟨rfl, HB0.out.trans ((HU.out.trans (HV.out.mono HU.out.size)).mono HB0.out.size)⟩
end Go.Proofs.Ytldabjgnnmoneaa
