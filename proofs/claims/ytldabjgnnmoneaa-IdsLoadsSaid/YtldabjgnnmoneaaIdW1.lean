/- The law IdsSteps, walked. -/
import Derived.Test.YtldabjgnnmoneaaIdL1
import Derived.Test.YtldabjgnnmoneaaIdV
import Derived.Test.YtldabjgnnmoneaaIdO
import Derived.IntWalk
namespace Go.Proofs.Ytldabjgnnmoneaa
open Go.RowKit

theorem step_stQ {ops : Array Oper} {o : Oper} {a : Act} {J : Act → World → Prop} {Q : Exit → Act → World → Prop} {X : Prop} {w : World} {g : Nat} {E L E' L' : Int} {GA FA GA' FA' : Option Addr} {gn gc fn fc gn' gc' fn' fc' : Nat} (hgd : o.guard = none) (x y : Operand) (ho : o.op = .store 30 x y)
    (hx : a.eval x = .pointer (some ⟨g, 0, none⟩)) (hy : a.eval y = .agg #[.int .i64 E', .int .i64 L', .slice GA' gn' gc', .slice FA' fn' fc']) (h : Rec 30 w g #[.int .i64 E, .int .i64 L, .slice GA gn gc, .slice FA fn fc])
    (kk : ∀ w', Rec 30 w' g #[.int .i64 E', .int .i64 L', .slice GA' gn' gc', .slice FA' fn' fc'] → Fr (· = g) w w' → J (a.put o.dst undef) w') : if Region.wanted o (yielded ops a.tmps) = true then Oper.wp Try.prog o a w J Q else X :=
  step_stS rsT rfl rfl (by simp [Value.oneCell']) hgd x y ho hx hy h kk

theorem same_idv {w0 w : World} {p : Nat} {keep K : Nat → Prop} {s : NS} {E L : Int} {GA FA : Option Addr} {gn gc fn fc : Nat} (h : Idv w0 w p keep s) (hr : RS K w ⟨E, L, GA, gn, gc, FA, fn, fc⟩ s) (i gen : Int) :
    Calls Try.prog 11 #[.pointer (some ⟨p, 0, none⟩), .agg #[.int .i64 E, .int .i64 L, .slice GA gn gc, .slice FA fn fc], .agg #[.int .i64 i, .int .i64 gen]] w fun e w' => e = .returned (.bool true) ∧ Below w.heap.size w w' := by
  obtain ⟨own, h1, h2, h3, hd, gv, av, fv, I⟩ := h
  have := same_any I hr i gen
  exact this

/-- What holds ahead of each step: the names at p, the reference's by value at block g. -/
def StepI (w : World) (p g : Nat) (wr : World) : Prop :=
  ∃ (kr : Nat → Prop) (s : NS) (d : Rv), ¬ kr g ∧ w.heap.size ≤ g ∧ Idv w wr p (fun x => kr x ∨ x = g ∨ x < w.heap.size) s ∧ Rec 30 wr g #[.int .i64 d.E, .int .i64 d.L, .slice d.GA d.gn d.gc, .slice d.FA d.fn d.fc] ∧ RS kr wr d s

set_option maxRecDepth 100000 in
set_option maxHeartbeats 4000000 in
theorem IdsSteps_walk (nE nG : Int) (A : Option Addr) (n c : Nat) (st : List Stg) (i gen : Int) (w0 : World)
    (h : TRd w0 A n st) (hn : (n : Int) ≤ 9223372036854775807) :
    Calls Try.prog 3 #[.int .i64 nE, .int .i64 nG, .slice A n c, .agg #[.int .i64 i, .int .i64 gen]] w0 fun e w' => e = .returned (.bool true) ∧ Below w0.heap.size w0 w' := by
  obtain ⟨w, hw0⟩ : ∃ w, w = w0.alloc (.cells #[.int .i64 i, .int .i64 gen] 24) := ⟨_, rfl⟩
  have hb0 : Below w0.heap.size w0 w := by rw [hw0]; exact (Below.refl _ _).alloc (Nat.le_refl _) _
  have hI0 : Rec 24 w w0.heap.size #[.int .i64 i, .int .i64 gen] := by rw [hw0]; exact Rec.new _ _ _
  have h1 := h.below hb0
  have HL := Lib.hid (live_any w)
  have HB0 := Lib.hid hb0
  have HI0 := Lib.hid hI0
  have H := Lib.hid h1
  have CN := Lib.hid (New_idv nE nG w)
  clear h h1 hb0 hI0
  by_cases hn60 : n ≤ 60
  case neg =>
    go_enter Try.func3, Try.ntmps3
    go_wp2_with (first
      | (rw [← hw0]; clear hw0)
      | (go_at_call 6; refine HL.out.mono ?_; rintro e w1 ⟨rfl, hB1⟩))
    go_ret
    exact ⟨rfl, HB0.out.trans (hB1.mono HB0.out.size)⟩
  go_enter Try.func3, Try.ntmps3
  go_wp2_with (first
    | (rw [← hw0]; clear hw0)
    | (go_at_call 7; refine CN.out.mono ?_; rintro e w1 ⟨p, rfl, hD1⟩; have HD1 := Lib.hid hD1; clear hD1)
    | (go_at_call 8; refine (RNew_any nE nG w1).mono ?_; rintro e w2 ⟨rfl, hB2⟩; have HD2 := Lib.hid (HD1.out.below hB2); clear hB2; simp only [Rv.v]))
  obtain ⟨d0, hd0⟩ : ∃ d0 : Rv, d0 = ⟨nears nE 1024, nears nG 1073741824, none, 0, 0, none, 0, 0⟩ := ⟨_, rfl⟩
  obtain ⟨w3, hw3⟩ : ∃ w3, w3 = w2.alloc (.cells #[.int .i64 (nears nE 1024), .int .i64 (nears nG 1073741824), .slice none 0 0, .slice none 0 0] 30) := ⟨_, rfl⟩
  have b3 : Below w2.heap.size w2 w3 := by rw [hw3]; exact (Below.refl _ _).alloc (Nat.le_refl _) _
  have hT3 : Rec 30 w3 w2.heap.size #[.int .i64 d0.E, .int .i64 d0.L, .slice d0.GA d0.gn d0.gc, .slice d0.FA d0.fn d0.fc] := by rw [hw3, hd0]; exact Rec.new _ _ _
  have hS3 : StepI w p w2.heap.size w3 := by
    refine ⟨fun _ => False, NS.new nE nG, d0, fun h => h, HD2.out.under.size, ?_, hT3, by rw [hd0]; exact (RNew_rs nE nG w3)⟩
    exact (HD2.out.more b3 (fun x => x = w2.heap.size) (fun x hx => by rw [hx]; exact ⟨Nat.le_refl _, hT3.lt⟩)).less (fun x hx => by rcases hx with h | h | h; exact h.elim; exact .inr h; exact .inl h)
  obtain ⟨g, hg⟩ : ∃ g, g = w2.heap.size := ⟨_, rfl⟩
  rw [← hg] at hS3
  have HI := Lib.hid hS3
  rw [← hw3, ← hg]
  clear hw3 hg b3 hT3 hS3 HD1 HD2 CN hd0
  go_wp2_with fail
  go_loopw [11] (fun iv wr => ∃ j : Nat, j ≤ n ∧ iv = .int .i64 j ∧ StepI w p g wr) (fun iv _ => n - (intOf iv).toNat)
  case atStart => exact ⟨0, Nat.zero_le _, rfl, HI.out⟩
  case round =>
    obtain ⟨j, hj, rfl, hI⟩ := hrel
    by_cases hlt : j < n
    · obtain ⟨kr, s, ⟨E, L, GA, gn, gc, FA, fn, fc⟩, hkg, hwg, hD, hR, hRS⟩ := hI
      obtain ⟨b, o, hA, hbw, hc⟩ := H.out.2 (by omega)
      have hjl : j < st.length := by have := H.out.1; omega
      obtain ⟨q0, q1, q2⟩ := hc j hjl
      obtain ⟨y, hy⟩ : ∃ y, y = st[j] := ⟨_, rfl⟩
      rw [← hy] at q0 q1 q2
      obtain ⟨s', x', cd, hgo⟩ : ∃ s' x' cd, s.go y = (s', x', cd) := ⟨_, _, _, rfl⟩
      have ok := hD.ok
      have ok' : s'.Ok := by have := NS.go_ok ok y; rw [hgo] at this; exact this
      have hdo := do_idv hD y
      rw [hgo] at hdo
      have k0 := (hD.under.cell (p := ⟨b, o + j * 3, none⟩) hbw).trans q0
      have k1 := (hD.under.cell (p := ⟨b, o + j * 3 + 1, none⟩) hbw).trans q1
      have k2 := (hD.under.cell (p := ⟨b, o + j * 3 + 2, none⟩) hbw).trans q2
      obtain ⟨yg, yi, yn⟩ := y
      obtain ⟨x1, x2⟩ := x'
      simp only [Stg.val, idv] at hdo
      have CG0 : ∀ W, RS kr W ⟨E, L, GA, gn, gc, FA, fn, fc⟩ s → ∀ V, Below W.heap.size W V → Calls Try.prog 10 #[.agg #[.int .i64 E, .int .i64 L, .slice GA gn gc, .slice FA fn fc], .agg #[.bool yg, .int .i64 yi, .int .i64 yn]] V (RLeft (fun x => kr x ∧ x < W.heap.size) V s' (x1, x2) cd) := fun W hW V hV => by
        have := RGo_any (hW.lt.below hV) ok ⟨yg, yi, yn⟩
        rw [hgo] at this
        exact this
      have HDO := Lib.hid hdo
      have HGO := Lib.hid hgo
      have CG1 := Lib.hid CG0
      have OK' := Lib.hid ok'
      have HY := Lib.hid hy
      have HR0 := Lib.hid hR
      have HRS0 := Lib.hid hRS
      have HQ := Lib.hid (And.intro q0 (And.intro q1 q2))
      simp only at k0 k1 k2
      clear hc hdo hD hy hgo ok ok' CG0 hR hRS q0 q1 q2
      subst hA
      go_wp2_with (first
        | (go_at_call 9; refine HDO.out.mono ?_; rintro e wd ⟨rfl, hD2, hS2⟩; obtain ⟨w2, hw2⟩ : ∃ w2, w2 = wd.alloc (.cells #[.int .i64 x1, .int .i64 x2] 24) := ⟨_, rfl⟩; have b2 : Below wd.heap.size wd w2 := (by rw [hw2]; exact (Below.refl _ _).alloc (Nat.le_refl _) _); have hT2 : Rec 24 w2 wd.heap.size #[.int .i64 x1, .int .i64 x2] := (by rw [hw2]; exact Rec.new _ _ _); have HD2 := Lib.hid hD2; have HS2 := Lib.hid hS2; have B2 := Lib.hid b2; have HT2 := Lib.hid hT2; have HW2 := Lib.hid hw2; clear hD2 hS2 b2 hT2 hw2)
        | (rw [← HW2.out]))
      have hR2 : Rec 30 w2 g #[.int .i64 E, .int .i64 L, .slice GA gn gc, .slice FA fn fc] := (HR0.out.block (HS2.out.2 g (.inr (.inl rfl)))).under B2.out
      have hRS2 : RS kr w2 ⟨E, L, GA, gn, gc, FA, fn, fc⟩ s := (HRS0.out.stays (HS2.out.less (fun x hx => .inl hx))).below B2.out
      have hU2 : Below w.heap.size w w2 := HD2.out.under.trans (B2.out.mono HD2.out.under.size)
      have CG := Lib.hid (CG1.out w2 hRS2)
      have bd : Below w2.heap.size w2 w2.drew := (Below.refl _ _).drew
      have SS : ∀ W, Below w2.heap.size w2 W → ((W.cell? ⟨g, 0, none⟩ = some (.int .i64 E) ∧ W.cell? ⟨g, 1, none⟩ = some (.int .i64 L) ∧ W.cell? ⟨g, 2, none⟩ = some (.slice GA gn gc) ∧ W.cell? ⟨g, 3, none⟩ = some (.slice FA fn fc)) ∧ W.cell? ⟨b, o + j * 3, none⟩ = some (.bool yg) ∧ W.cell? ⟨b, o + j * 3 + 1, none⟩ = some (.int .i64 yi) ∧ W.cell? ⟨b, o + j * 3 + 2, none⟩ = some (.int .i64 yn)) := fun W hW => by
        have x := hR2.under hW
        have hU := hU2.trans (hW.mono hU2.size)
        exact ⟨⟨x.at_ 0, x.at_ 1, x.at_ 2, x.at_ 3⟩, (hU.cell (p := ⟨b, o + j * 3, none⟩) hbw).trans HQ.out.1, (hU.cell (p := ⟨b, o + j * 3 + 1, none⟩) hbw).trans HQ.out.2.1, (hU.cell (p := ⟨b, o + j * 3 + 2, none⟩) hbw).trans HQ.out.2.2⟩
      have SS := Lib.hid SS
      have s0d := SS.out _ bd
      have HR2 := Lib.hid hR2
      have HU2 := Lib.hid hU2
      have hglt : g < w2.heap.size := hR2.lt
      have hwdlt : wd.heap.size < w2.heap.size := HT2.out.lt
      clear hR2 hRS2 hU2 k0 k1 k2
      have HNE : Hid (wd.heap.size ≠ g) := Lib.hid (fun e => by have h1 := HR0.out.lt; have h2 := HS2.out.1; omega)
      refine wp_region_noPanic ?_
      refine wp_region_held_drew (S := fun W => (W.cell? ⟨g, 0, none⟩ = some (.int .i64 E) ∧ W.cell? ⟨g, 1, none⟩ = some (.int .i64 L) ∧ W.cell? ⟨g, 2, none⟩ = some (.slice GA gn gc) ∧ W.cell? ⟨g, 3, none⟩ = some (.slice FA fn fc)) ∧ W.cell? ⟨b, o + j * 3, none⟩ = some (.bool yg) ∧ W.cell? ⟨b, o + j * 3 + 1, none⟩ = some (.int .i64 yi) ∧ W.cell? ⟨b, o + j * 3 + 2, none⟩ = some (.int .i64 yn)) (by kernel_rfl) s0d (fun hHeld => ?_)
      refine wpAnyH_take (i := 0) (oi := { dst := some 45, op := Op.load 30 (Operand.tmp 10), type := 30, pos := "law.go:53", after := #[], guard := none }) (v := ?_) rfl (by kernel_rfl) (by kernel_rfl) (by kernel_rfl) (fun _ _ _ h => h) (Or.inl ⟨by rfl, ?_⟩) (by assumption) ?_
      rotate_left 1
      · intro w' hSw; (try dsimp only at hSw); go_simp; (try with_reducible rfl)
      simp only [Act.put, List.setIfInBounds_toArray, List.set_cons_zero, List.set_cons_succ]
      refine wpAnyH_take (i := 1) (oi := { dst := some 46, op := Op.move (Operand.tmp 2), type := 22, pos := "law.go:53", after := #[], guard := none }) (v := ?_) rfl (by kernel_rfl) (by kernel_rfl) (by kernel_rfl) (fun _ _ _ h => h) (Or.inl ⟨by rfl, ?_⟩) (by assumption) ?_
      rotate_left 1
      · intro w' hSw; (try dsimp only at hSw); go_simp; (try with_reducible rfl)
      simp only [Act.put, List.setIfInBounds_toArray, List.set_cons_zero, List.set_cons_succ]
      refine wpAnyH_take (i := 2) (oi := { dst := some 47, op := Op.move (Operand.tmp 11), type := 3, pos := "law.go:53", after := #[], guard := none }) (v := ?_) rfl (by kernel_rfl) (by kernel_rfl) (by kernel_rfl) (fun _ _ _ h => h) (Or.inl ⟨by rfl, ?_⟩) (by assumption) ?_
      rotate_left 1
      · intro w' hSw; (try dsimp only at hSw); go_simp; (try with_reducible rfl)
      simp only [Act.put, List.setIfInBounds_toArray, List.set_cons_zero, List.set_cons_succ]
      refine wpAnyH_take (i := 3) (oi := { dst := some 48, op := Op.indexAddr 22 (Operand.tmp 46) (Operand.tmp 47), type := 0, pos := "law.go:53", after := #[{ on := 1, ground := Ground.data }, { on := 2, ground := Ground.data }], guard := none }) (v := ?_) rfl (by kernel_rfl) (by kernel_rfl) (by kernel_rfl) (fun _ _ _ h => h) (Or.inl ⟨by rfl, ?_⟩) (by assumption) ?_
      rotate_left 1
      · intro w' hSw; (try dsimp only at hSw); go_simp; (try with_reducible rfl)
      simp only [Act.put, List.setIfInBounds_toArray, List.set_cons_zero, List.set_cons_succ]
      refine wpAnyH_take (i := 4) (oi := { dst := some 49, op := Op.load 35 (Operand.tmp 48), type := 35, pos := "law.go:53", after := #[{ on := 3, ground := Ground.data }], guard := none }) (v := ?_) rfl (by kernel_rfl) (by kernel_rfl) (by kernel_rfl) (fun _ _ _ h => h) (Or.inl ⟨by rfl, ?_⟩) (by assumption) ?_
      rotate_left 1
      · intro w' hSw; (try dsimp only at hSw); go_simp; (try with_reducible rfl)
      simp only [Act.put, List.setIfInBounds_toArray, List.set_cons_zero, List.set_cons_succ]
      refine wpAnyH_ready (rs := [5, 10, 11]) (by kernel_rfl) (by simp) ?_
      refine AllReadyH.cons (o := { dst := some 50, op := Op.call { callee := Callee.value (Operand.func 10), args := #[Operand.tmp 45, Operand.tmp 49], argTypes := #[30, 35] }, type := 36, pos := "law.go:53", after := #[{ on := 0, ground := Ground.data }, { on := 4, ground := Ground.data }], guard := none }) rfl (fun K' hK => ?_) (AllReadyH.cons (o := { dst := some 14, op := Op.alloc 30, type := 0, pos := "law.go:53", after := #[], guard := none }) rfl (fun K' hK => ?_) (AllReadyH.cons (o := { dst := some 15, op := Op.alloc 24, type := 0, pos := "law.go:53", after := #[], guard := none }) rfl (fun K' hK => ?_) AllReadyH.nil))
      · go_simp
        go_at_call 10; refine (CG.out _ bd).mono ?_; rintro e vP ⟨⟨E', L', GA', gn', gc', FA', fn', fc'⟩, rfl, hRP, hBP⟩
        have BVP := Lib.hid (bd.trans (hBP.mono bd.size))
        have sP := SS.out _ BVP.out
        have hsW := bd.size
        have RSP := Lib.hid (hRP.mono (K' := fun x => (kr x ∧ x < w2.heap.size) ∨ (w2.heap.size ≤ x ∧ x < vP.heap.size)) (fun x hx => by rcases hx with h | h; exact .inl h; exact .inr ⟨by omega, h.2⟩))
        clear hRP hBP hsW
        simp only [Rv.v, idv]
        refine hK.out _ _ sP (fun hHeld => ?_)
        clear hK K'
        try simp only [Act.put, List.setIfInBounds_toArray, List.set_cons_zero, List.set_cons_succ]
        refine wpAnyH_take (i := 6) (oi := { dst := some 44, op := Op.move (Operand.tmp 50), type := 36, pos := "law.go:53", after := #[{ on := 5, ground := Ground.data }], guard := none }) (v := ?_) rfl (by kernel_rfl) (by kernel_rfl) (by kernel_rfl) (fun _ _ _ h => h) (Or.inl ⟨by rfl, ?_⟩) (by assumption) ?_
        rotate_left 1
        · intro w' hSw; (try dsimp only at hSw); go_simp; (try with_reducible rfl)
        simp only [Act.put, List.setIfInBounds_toArray, List.set_cons_zero, List.set_cons_succ]
        refine wpAnyH_take (i := 7) (oi := { dst := some 51, op := Op.extract (Operand.tmp 44) 0, type := 30, pos := "law.go:53", after := #[{ on := 6, ground := Ground.data }], guard := none }) (v := ?_) rfl (by kernel_rfl) (by kernel_rfl) (by kernel_rfl) (fun _ _ _ h => h) (Or.inl ⟨by rfl, ?_⟩) (by assumption) ?_
        rotate_left 1
        · intro w' hSw; (try dsimp only at hSw); go_simp; (try with_reducible rfl)
        simp only [Act.put, List.setIfInBounds_toArray, List.set_cons_zero, List.set_cons_succ]
        refine wpAnyH_take (i := 8) (oi := { dst := some 52, op := Op.extract (Operand.tmp 44) 1, type := 24, pos := "law.go:53", after := #[{ on := 6, ground := Ground.data }, { on := 12, ground := Ground.gcOnly Departure.lateStores }], guard := none }) (v := ?_) rfl (by kernel_rfl) (by kernel_rfl) (by kernel_rfl) (fun _ _ _ h => h) (Or.inl ⟨by rfl, ?_⟩) (by assumption) ?_
        rotate_left 1
        · intro w' hSw; (try dsimp only at hSw); go_simp; (try with_reducible rfl)
        simp only [Act.put, List.setIfInBounds_toArray, List.set_cons_zero, List.set_cons_succ]
        refine wpAnyH_take (i := 9) (oi := { dst := some 53, op := Op.extract (Operand.tmp 44) 2, type := 3, pos := "law.go:53", after := #[{ on := 6, ground := Ground.data }, { on := 13, ground := Ground.gcOnly Departure.lateStores }], guard := none }) (v := ?_) rfl (by kernel_rfl) (by kernel_rfl) (by kernel_rfl) (fun _ _ _ h => h) (Or.inl ⟨by rfl, ?_⟩) (by assumption) ?_
        rotate_left 1
        · intro w' hSw; (try dsimp only at hSw); go_simp; (try with_reducible rfl)
        simp only [Act.put, List.setIfInBounds_toArray, List.set_cons_zero, List.set_cons_succ]
        refine wpAnyH_ready (rs := [10, 11]) (by kernel_rfl) (by simp) ?_
        refine AllReadyH.cons (o := { dst := some 14, op := Op.alloc 30, type := 0, pos := "law.go:53", after := #[], guard := none }) rfl (fun K' hK => ?_) (AllReadyH.cons (o := { dst := some 15, op := Op.alloc 24, type := 0, pos := "law.go:53", after := #[], guard := none }) rfl (fun K' hK => ?_) AllReadyH.nil)
        · go_simp
          obtain ⟨vPA, hv⟩ : ∃ v, v = vP.alloc (.cells #[.int .i64 0, .int .i64 0, .slice none 0 0, .slice none 0 0] 30) := ⟨_, rfl⟩
          have hR : Rec 30 vPA vP.heap.size #[.int .i64 0, .int .i64 0, .slice none 0 0, .slice none 0 0] := by rw [hv]; exact Rec.new vP _ _
          have bV : Below vP.heap.size vP vPA := by rw [hv]; exact ((Below.refl _ _).alloc (Nat.le_refl _) _)
          have BVPA := Lib.hid (BVP.out.trans (bV.mono BVP.out.size))
          have sPA := SS.out _ BVPA.out
          have RSPA := Lib.hid ((RSP.out.below bV).mono (K' := fun x => (kr x ∧ x < w2.heap.size) ∨ (w2.heap.size ≤ x ∧ x < vPA.heap.size ∧ x ≠ vP.heap.size)) (fun x hx => by have := bV.size; rcases hx with h | h; exact .inl h; exact .inr ⟨h.1, by omega, by omega⟩))
          obtain ⟨gA, hgA⟩ : ∃ g, g = vP.heap.size := ⟨_, rfl⟩
          have leA : w2.heap.size ≤ gA := by rw [hgA]; exact BVP.out.size
          rw [← hgA] at hR RSPA
          try rw [← hv]
          rw [← hgA]
          have RAPA := Lib.hid hR
          have HLEA := Lib.hid leA
          clear hv hR bV hgA leA
          refine hK.out _ _ sPA (fun hHeld => ?_)
          clear hK K'
          try simp only [Act.put, List.setIfInBounds_toArray, List.set_cons_zero, List.set_cons_succ]
          refine wpAnyH_ready (rs := [11]) (by kernel_rfl) (by simp) ?_
          refine AllReadyH.cons (o := { dst := some 15, op := Op.alloc 24, type := 0, pos := "law.go:53", after := #[], guard := none }) rfl (fun K' hK => ?_) AllReadyH.nil
          go_simp
          obtain ⟨vPAB, hv⟩ : ∃ v, v = vPA.alloc (.cells #[.int .i64 0, .int .i64 0] 24) := ⟨_, rfl⟩
          have hR : Rec 24 vPAB vPA.heap.size #[.int .i64 0, .int .i64 0] := by rw [hv]; exact Rec.new vPA _ _
          have bV : Below vPA.heap.size vPA vPAB := by rw [hv]; exact ((Below.refl _ _).alloc (Nat.le_refl _) _)
          have BVPAB := Lib.hid (BVPA.out.trans (bV.mono BVPA.out.size))
          have sPAB := SS.out _ BVPAB.out
          have RAPAB := Lib.hid (RAPA.out.under bV)
          have neA : gA < vPA.heap.size := RAPA.out.lt
          have RSPAB := Lib.hid ((RSPA.out.below bV).mono (K' := fun x => (kr x ∧ x < w2.heap.size) ∨ (w2.heap.size ≤ x ∧ x < vPAB.heap.size ∧ x ≠ gA ∧ x ≠ vPA.heap.size)) (fun x hx => by have := bV.size; rcases hx with h | h; exact .inl h; exact .inr ⟨h.1, by omega, by omega, by omega⟩))
          obtain ⟨gB, hgB⟩ : ∃ g, g = vPA.heap.size := ⟨_, rfl⟩
          have leB : w2.heap.size ≤ gB := by rw [hgB]; exact BVPA.out.size
          rw [← hgB] at hR neA RSPAB
          try rw [← hv]
          rw [← hgB]
          have RBPAB := Lib.hid hR
          have HN := Lib.hid neA
          have HLEB := Lib.hid leB
          clear hv hR bV hgB leB neA
          refine hK.out _ _ sPAB (fun hHeld => ?_)
          clear hK K'
          try simp only [Act.put, List.setIfInBounds_toArray, List.set_cons_zero, List.set_cons_succ]
          refine wpAnyH_ready (rs := [12]) (by kernel_rfl) (by simp) ?_
          refine AllReadyH.cons (o := { dst := none, op := Op.store 30 (Operand.tmp 14) (Operand.tmp 51), type := 0, pos := "law.go:53", after := #[{ on := 10, ground := Ground.data }, { on := 7, ground := Ground.data }, { on := 5, ground := Ground.chain }, { on := 0, ground := Ground.phase }, { on := 1, ground := Ground.phase }, { on := 2, ground := Ground.phase }, { on := 3, ground := Ground.phase }, { on := 4, ground := Ground.phase }, { on := 5, ground := Ground.phase }, { on := 6, ground := Ground.phase }, { on := 7, ground := Ground.phase }, { on := 8, ground := Ground.textOnly Departure.lateStores }, { on := 9, ground := Ground.textOnly Departure.lateStores }, { on := 10, ground := Ground.phase }, { on := 11, ground := Ground.phase }], guard := none }) rfl (fun K' hK => ?_) AllReadyH.nil
          refine step_stQ (E' := E') (L' := L') (GA' := GA') (gn' := gn') (gc' := gc') (FA' := FA') (fn' := fn') (fc' := fc') rfl (.tmp 14) (.tmp 51) rfl rfl rfl RAPAB.out ?_
          intro vG hRG hFG
          have hne : gA ≠ gB := by have := HN.out; omega
          have BVG := Lib.hid (BVPAB.out.trans (hFG.toBelow (fun x hx => by rw [show x = gA from hx]; exact HLEA.out) BVPAB.out.size))
          have sG := SS.out _ BVG.out
          have RAG := Lib.hid hRG
          have RBG := Lib.hid (RBPAB.out.fr hFG (fun e => hne (show gB = gA from e).symm))
          have RSG := Lib.hid ((RSPAB.out.mono (K' := fun x => (kr x ∧ x < w2.heap.size) ∨ (w2.heap.size ≤ x ∧ x < vPAB.heap.size ∧ x ≠ gA ∧ x ≠ gB)) (fun x hx => by rcases hx with h | h; exact .inl h; exact .inr ⟨h.1, h.2.1, by omega, by omega⟩)).stays (w' := vG) ⟨hFG.size, fun x hx => hFG.block x (by have := BVPAB.out.size; rcases hx with h | h <;> omega) (fun e => by have e' : x = gA := e; have := HLEA.out; rcases hx with h | h <;> omega)⟩)
          have hsG := hFG.size
          clear hRG hFG hne
          refine hK.out _ _ sG (fun hHeld => ?_)
          clear hK K'
          try simp only [Act.put]
          refine wpAnyH_ready (rs := [13]) (by kernel_rfl) (by simp) ?_
          refine AllReadyH.cons (o := { dst := none, op := Op.store 24 (Operand.tmp 15) (Operand.tmp 52), type := 0, pos := "law.go:53", after := #[{ on := 11, ground := Ground.data }, { on := 8, ground := Ground.data }, { on := 12, ground := Ground.chain }, { on := 0, ground := Ground.phase }, { on := 1, ground := Ground.phase }, { on := 2, ground := Ground.phase }, { on := 3, ground := Ground.phase }, { on := 4, ground := Ground.phase }, { on := 5, ground := Ground.phase }, { on := 6, ground := Ground.phase }, { on := 7, ground := Ground.phase }, { on := 8, ground := Ground.phase }, { on := 9, ground := Ground.textOnly Departure.lateStores }, { on := 10, ground := Ground.phase }, { on := 11, ground := Ground.phase }, { on := 12, ground := Ground.phase }], guard := none }) rfl (fun K' hK => ?_) AllReadyH.nil
          refine step_stP (x1 := x1) (y1 := x2) rfl (.tmp 15) (.tmp 52) rfl rfl rfl RBG.out ?_
          intro wF hRF hFF
          have hne : gA ≠ gB := by have := HN.out; omega
          have BF := Lib.hid (BVG.out.trans (hFF.toBelow (fun x hx => by rw [show x = gB from hx]; exact HLEB.out) BVG.out.size))
          have sF := SS.out _ BF.out
          have RBF := Lib.hid hRF
          have RAF := Lib.hid (RAG.out.fr hFF (fun e => hne (show gA = gB from e)))
          have RSF := Lib.hid ((RSG.out.stays (w' := wF) ⟨hFF.size, fun x hx => hFF.block x (by have := BVG.out.size; rcases hx with h | h <;> omega) (fun e => by have e' : x = gB := e; have := HLEB.out; rcases hx with h | h <;> omega)⟩).mono (K' := fun x => (kr x ∧ x < w2.heap.size) ∨ (w2.heap.size ≤ x ∧ x < wF.heap.size ∧ x ≠ gA ∧ x ≠ gB)) (fun x hx => by have := hFF.size; rcases hx with h | h; exact .inl h; exact .inr ⟨h.1, by omega, h.2.2.1, h.2.2.2⟩))
          clear hRF hFF hne RAG RBG RSG BVG
          refine hK.out _ _ sF (fun hHeld => ?_)
          clear hK K'
          try simp only [Act.put]
          refine wpAnyH_take (i := 14) (oi := { dst := some 16, op := Op.assign (Operand.tmp 53), type := 3, pos := "law.go:53", after := #[{ on := 9, ground := Ground.data }, { on := 13, ground := Ground.chain }, { on := 0, ground := Ground.phase }, { on := 1, ground := Ground.phase }, { on := 2, ground := Ground.phase }, { on := 3, ground := Ground.phase }, { on := 4, ground := Ground.phase }, { on := 5, ground := Ground.phase }, { on := 6, ground := Ground.phase }, { on := 7, ground := Ground.phase }, { on := 8, ground := Ground.phase }, { on := 9, ground := Ground.phase }, { on := 10, ground := Ground.phase }, { on := 11, ground := Ground.phase }, { on := 12, ground := Ground.phase }, { on := 13, ground := Ground.phase }], guard := none }) (v := ?_) rfl (by kernel_rfl) (by kernel_rfl) (by kernel_rfl) (fun _ _ _ h => h) (Or.inl ⟨by rfl, ?_⟩) (by assumption) ?_
          rotate_left 1
          · intro w' hSw; (try dsimp only at hSw); go_simp; (try with_reducible rfl)
          simp only [Act.put, List.setIfInBounds_toArray, List.set_cons_zero, List.set_cons_succ]
          refine wpAnyH_done (by kernel_rfl) ?_ _
          refine NoPanic.normal ?_
          have RG0 := Lib.hid (HR2.out.under BF.out)
          go_wp2_with (first
            | (with_reducible refine wpList_ldQ rfl (.tmp 14) rfl rfl RAF.out ?_)
            | ((with_reducible refine wpList_stQ (E' := E') (L' := L') (GA' := GA') (gn' := gn') (gc' := gc') (FA' := FA') (fn' := fn') (fc' := fc') rfl (.tmp 10) (.tmp 54) rfl rfl rfl RG0.out ?_); intro w7 hR7 hF7; have HR7 := Lib.hid hR7; have HF7 := Lib.hid hF7; have HT7 := Lib.hid ((HT2.out.under BF.out).fr hF7 (fun e => by have e' : wd.heap.size = g := e; exact absurd e' HNE.out)); have HB7 := Lib.hid (RBF.out.fr hF7 (fun e => by have e' : gB = g := e; have := HLEB.out; omega)); have hD7 := ((HD2.out.below B2.out).more BF.out (fun x => w2.heap.size ≤ x ∧ x < wF.heap.size) (fun x hx => hx)).fr (g := g) (.inl (.inr (.inl rfl))) hwg HF7.out; have hS7 := RSF.out.stays (w' := w7) ⟨HF7.out.size, fun x hx => HF7.out.block x (by have := BF.out.size; rcases hx with h | h <;> omega) (fun e => by have e' : x = g := e; rcases hx with h | h; exact hkg (e' ▸ h.1); omega)⟩; have CS7 := Lib.hid (same_idv hD7 hS7 i gen); have HD7 := Lib.hid hD7; have HS7 := Lib.hid hS7; have hU7 := hD7.under; have hI7 := HI0.out.below hU7 HI0.out.lt; have HI7 := Lib.hid hI7; have r0 : w7.cell? ⟨g, 0, none⟩ = some (.int .i64 E') := HR7.out.at_ 0; have r1 : w7.cell? ⟨g, 1, none⟩ = some (.int .i64 L') := HR7.out.at_ 1; have r2 : w7.cell? ⟨g, 2, none⟩ = some (.slice GA' gn' gc') := HR7.out.at_ 2; have r3 : w7.cell? ⟨g, 3, none⟩ = some (.slice FA' fn' fc') := HR7.out.at_ 3; have i0 : w7.cell? ⟨w0.heap.size, 0, none⟩ = some (.int .i64 i) := hI7.at_ 0; have i1 : w7.cell? ⟨w0.heap.size, 1, none⟩ = some (.int .i64 gen) := hI7.at_ 1; clear hR7 hF7 hD7 hS7 hU7 hI7)
            | (with_reducible refine wpList_ldP rfl (.tmp 12) rfl rfl HT7.out ?_)
            | (with_reducible refine wpList_ldP rfl (.tmp 15) rfl rfl HB7.out ?_)
            | (go_at_call 11; refine CS7.out.mono ?_; rintro e w8 ⟨rfl, hB8⟩; have HB8 := Lib.hid hB8; clear hB8))
          go_roundw
          case rel =>
            refine ⟨j + 1, hlt, by go_num, fun x => (kr x ∧ x < w2.heap.size) ∨ (w2.heap.size ≤ x ∧ x < wF.heap.size ∧ x ≠ gA ∧ x ≠ gB), s', ⟨E', L', GA', gn', gc', FA', fn', fc'⟩, fun hx => ?_, hwg, ?_, HR7.out.under HB8.out, HS7.out.below HB8.out⟩
            · rcases hx with h | h
              · exact hkg h.1
              · omega
            · exact (HD7.out.below HB8.out).less (fun x hx => by rcases hx with (h | h) | h | h; exact .inl (.inl h.1); exact .inr ⟨h.1, h.2.1⟩; exact .inl (.inr (.inl h)); exact .inl (.inr (.inr h)))
          case measure => simp [intOf]; omega
        · go_simp
          obtain ⟨vPB, hv⟩ : ∃ v, v = vP.alloc (.cells #[.int .i64 0, .int .i64 0] 24) := ⟨_, rfl⟩
          have hR : Rec 24 vPB vP.heap.size #[.int .i64 0, .int .i64 0] := by rw [hv]; exact Rec.new vP _ _
          have bV : Below vP.heap.size vP vPB := by rw [hv]; exact ((Below.refl _ _).alloc (Nat.le_refl _) _)
          have BVPB := Lib.hid (BVP.out.trans (bV.mono BVP.out.size))
          have sPB := SS.out _ BVPB.out
          have RSPB := Lib.hid ((RSP.out.below bV).mono (K' := fun x => (kr x ∧ x < w2.heap.size) ∨ (w2.heap.size ≤ x ∧ x < vPB.heap.size ∧ x ≠ vP.heap.size)) (fun x hx => by have := bV.size; rcases hx with h | h; exact .inl h; exact .inr ⟨h.1, by omega, by omega⟩))
          obtain ⟨gB, hgB⟩ : ∃ g, g = vP.heap.size := ⟨_, rfl⟩
          have leB : w2.heap.size ≤ gB := by rw [hgB]; exact BVP.out.size
          rw [← hgB] at hR RSPB
          try rw [← hv]
          rw [← hgB]
          have RBPB := Lib.hid hR
          have HLEB := Lib.hid leB
          clear hv hR bV hgB leB
          refine hK.out _ _ sPB (fun hHeld => ?_)
          clear hK K'
          try simp only [Act.put, List.setIfInBounds_toArray, List.set_cons_zero, List.set_cons_succ]
          refine wpAnyH_ready (rs := [10]) (by kernel_rfl) (by simp) ?_
          refine AllReadyH.cons (o := { dst := some 14, op := Op.alloc 30, type := 0, pos := "law.go:53", after := #[], guard := none }) rfl (fun K' hK => ?_) AllReadyH.nil
          go_simp
          obtain ⟨vPBA, hv⟩ : ∃ v, v = vPB.alloc (.cells #[.int .i64 0, .int .i64 0, .slice none 0 0, .slice none 0 0] 30) := ⟨_, rfl⟩
          have hR : Rec 30 vPBA vPB.heap.size #[.int .i64 0, .int .i64 0, .slice none 0 0, .slice none 0 0] := by rw [hv]; exact Rec.new vPB _ _
          have bV : Below vPB.heap.size vPB vPBA := by rw [hv]; exact ((Below.refl _ _).alloc (Nat.le_refl _) _)
          have BVPBA := Lib.hid (BVPB.out.trans (bV.mono BVPB.out.size))
          have sPBA := SS.out _ BVPBA.out
          have RBPBA := Lib.hid (RBPB.out.under bV)
          have neB : gB < vPB.heap.size := RBPB.out.lt
          have RSPBA := Lib.hid ((RSPB.out.below bV).mono (K' := fun x => (kr x ∧ x < w2.heap.size) ∨ (w2.heap.size ≤ x ∧ x < vPBA.heap.size ∧ x ≠ gB ∧ x ≠ vPB.heap.size)) (fun x hx => by have := bV.size; rcases hx with h | h; exact .inl h; exact .inr ⟨h.1, by omega, by omega, by omega⟩))
          obtain ⟨gA, hgA⟩ : ∃ g, g = vPB.heap.size := ⟨_, rfl⟩
          have leA : w2.heap.size ≤ gA := by rw [hgA]; exact BVPB.out.size
          rw [← hgA] at hR neB RSPBA
          try rw [← hv]
          rw [← hgA]
          have RAPBA := Lib.hid hR
          have HN := Lib.hid neB
          have HLEA := Lib.hid leA
          clear hv hR bV hgA leA neB
          refine hK.out _ _ sPBA (fun hHeld => ?_)
          clear hK K'
          try simp only [Act.put, List.setIfInBounds_toArray, List.set_cons_zero, List.set_cons_succ]
          refine wpAnyH_ready (rs := [12]) (by kernel_rfl) (by simp) ?_
          refine AllReadyH.cons (o := { dst := none, op := Op.store 30 (Operand.tmp 14) (Operand.tmp 51), type := 0, pos := "law.go:53", after := #[{ on := 10, ground := Ground.data }, { on := 7, ground := Ground.data }, { on := 5, ground := Ground.chain }, { on := 0, ground := Ground.phase }, { on := 1, ground := Ground.phase }, { on := 2, ground := Ground.phase }, { on := 3, ground := Ground.phase }, { on := 4, ground := Ground.phase }, { on := 5, ground := Ground.phase }, { on := 6, ground := Ground.phase }, { on := 7, ground := Ground.phase }, { on := 8, ground := Ground.textOnly Departure.lateStores }, { on := 9, ground := Ground.textOnly Departure.lateStores }, { on := 10, ground := Ground.phase }, { on := 11, ground := Ground.phase }], guard := none }) rfl (fun K' hK => ?_) AllReadyH.nil
          refine step_stQ (E' := E') (L' := L') (GA' := GA') (gn' := gn') (gc' := gc') (FA' := FA') (fn' := fn') (fc' := fc') rfl (.tmp 14) (.tmp 51) rfl rfl rfl RAPBA.out ?_
          intro vG hRG hFG
          have hne : gA ≠ gB := by have := HN.out; omega
          have BVG := Lib.hid (BVPBA.out.trans (hFG.toBelow (fun x hx => by rw [show x = gA from hx]; exact HLEA.out) BVPBA.out.size))
          have sG := SS.out _ BVG.out
          have RAG := Lib.hid hRG
          have RBG := Lib.hid (RBPBA.out.fr hFG (fun e => hne (show gB = gA from e).symm))
          have RSG := Lib.hid ((RSPBA.out.mono (K' := fun x => (kr x ∧ x < w2.heap.size) ∨ (w2.heap.size ≤ x ∧ x < vPBA.heap.size ∧ x ≠ gA ∧ x ≠ gB)) (fun x hx => by rcases hx with h | h; exact .inl h; exact .inr ⟨h.1, h.2.1, by omega, by omega⟩)).stays (w' := vG) ⟨hFG.size, fun x hx => hFG.block x (by have := BVPBA.out.size; rcases hx with h | h <;> omega) (fun e => by have e' : x = gA := e; have := HLEA.out; rcases hx with h | h <;> omega)⟩)
          have hsG := hFG.size
          clear hRG hFG hne
          refine hK.out _ _ sG (fun hHeld => ?_)
          clear hK K'
          try simp only [Act.put]
          refine wpAnyH_ready (rs := [13]) (by kernel_rfl) (by simp) ?_
          refine AllReadyH.cons (o := { dst := none, op := Op.store 24 (Operand.tmp 15) (Operand.tmp 52), type := 0, pos := "law.go:53", after := #[{ on := 11, ground := Ground.data }, { on := 8, ground := Ground.data }, { on := 12, ground := Ground.chain }, { on := 0, ground := Ground.phase }, { on := 1, ground := Ground.phase }, { on := 2, ground := Ground.phase }, { on := 3, ground := Ground.phase }, { on := 4, ground := Ground.phase }, { on := 5, ground := Ground.phase }, { on := 6, ground := Ground.phase }, { on := 7, ground := Ground.phase }, { on := 8, ground := Ground.phase }, { on := 9, ground := Ground.textOnly Departure.lateStores }, { on := 10, ground := Ground.phase }, { on := 11, ground := Ground.phase }, { on := 12, ground := Ground.phase }], guard := none }) rfl (fun K' hK => ?_) AllReadyH.nil
          refine step_stP (x1 := x1) (y1 := x2) rfl (.tmp 15) (.tmp 52) rfl rfl rfl RBG.out ?_
          intro wF hRF hFF
          have hne : gA ≠ gB := by have := HN.out; omega
          have BF := Lib.hid (BVG.out.trans (hFF.toBelow (fun x hx => by rw [show x = gB from hx]; exact HLEB.out) BVG.out.size))
          have sF := SS.out _ BF.out
          have RBF := Lib.hid hRF
          have RAF := Lib.hid (RAG.out.fr hFF (fun e => hne (show gA = gB from e)))
          have RSF := Lib.hid ((RSG.out.stays (w' := wF) ⟨hFF.size, fun x hx => hFF.block x (by have := BVG.out.size; rcases hx with h | h <;> omega) (fun e => by have e' : x = gB := e; have := HLEB.out; rcases hx with h | h <;> omega)⟩).mono (K' := fun x => (kr x ∧ x < w2.heap.size) ∨ (w2.heap.size ≤ x ∧ x < wF.heap.size ∧ x ≠ gA ∧ x ≠ gB)) (fun x hx => by have := hFF.size; rcases hx with h | h; exact .inl h; exact .inr ⟨h.1, by omega, h.2.2.1, h.2.2.2⟩))
          clear hRF hFF hne RAG RBG RSG BVG
          refine hK.out _ _ sF (fun hHeld => ?_)
          clear hK K'
          try simp only [Act.put]
          refine wpAnyH_take (i := 14) (oi := { dst := some 16, op := Op.assign (Operand.tmp 53), type := 3, pos := "law.go:53", after := #[{ on := 9, ground := Ground.data }, { on := 13, ground := Ground.chain }, { on := 0, ground := Ground.phase }, { on := 1, ground := Ground.phase }, { on := 2, ground := Ground.phase }, { on := 3, ground := Ground.phase }, { on := 4, ground := Ground.phase }, { on := 5, ground := Ground.phase }, { on := 6, ground := Ground.phase }, { on := 7, ground := Ground.phase }, { on := 8, ground := Ground.phase }, { on := 9, ground := Ground.phase }, { on := 10, ground := Ground.phase }, { on := 11, ground := Ground.phase }, { on := 12, ground := Ground.phase }, { on := 13, ground := Ground.phase }], guard := none }) (v := ?_) rfl (by kernel_rfl) (by kernel_rfl) (by kernel_rfl) (fun _ _ _ h => h) (Or.inl ⟨by rfl, ?_⟩) (by assumption) ?_
          rotate_left 1
          · intro w' hSw; (try dsimp only at hSw); go_simp; (try with_reducible rfl)
          simp only [Act.put, List.setIfInBounds_toArray, List.set_cons_zero, List.set_cons_succ]
          refine wpAnyH_done (by kernel_rfl) ?_ _
          refine NoPanic.normal ?_
          have RG0 := Lib.hid (HR2.out.under BF.out)
          go_wp2_with (first
            | (with_reducible refine wpList_ldQ rfl (.tmp 14) rfl rfl RAF.out ?_)
            | ((with_reducible refine wpList_stQ (E' := E') (L' := L') (GA' := GA') (gn' := gn') (gc' := gc') (FA' := FA') (fn' := fn') (fc' := fc') rfl (.tmp 10) (.tmp 54) rfl rfl rfl RG0.out ?_); intro w7 hR7 hF7; have HR7 := Lib.hid hR7; have HF7 := Lib.hid hF7; have HT7 := Lib.hid ((HT2.out.under BF.out).fr hF7 (fun e => by have e' : wd.heap.size = g := e; exact absurd e' HNE.out)); have HB7 := Lib.hid (RBF.out.fr hF7 (fun e => by have e' : gB = g := e; have := HLEB.out; omega)); have hD7 := ((HD2.out.below B2.out).more BF.out (fun x => w2.heap.size ≤ x ∧ x < wF.heap.size) (fun x hx => hx)).fr (g := g) (.inl (.inr (.inl rfl))) hwg HF7.out; have hS7 := RSF.out.stays (w' := w7) ⟨HF7.out.size, fun x hx => HF7.out.block x (by have := BF.out.size; rcases hx with h | h <;> omega) (fun e => by have e' : x = g := e; rcases hx with h | h; exact hkg (e' ▸ h.1); omega)⟩; have CS7 := Lib.hid (same_idv hD7 hS7 i gen); have HD7 := Lib.hid hD7; have HS7 := Lib.hid hS7; have hU7 := hD7.under; have hI7 := HI0.out.below hU7 HI0.out.lt; have HI7 := Lib.hid hI7; have r0 : w7.cell? ⟨g, 0, none⟩ = some (.int .i64 E') := HR7.out.at_ 0; have r1 : w7.cell? ⟨g, 1, none⟩ = some (.int .i64 L') := HR7.out.at_ 1; have r2 : w7.cell? ⟨g, 2, none⟩ = some (.slice GA' gn' gc') := HR7.out.at_ 2; have r3 : w7.cell? ⟨g, 3, none⟩ = some (.slice FA' fn' fc') := HR7.out.at_ 3; have i0 : w7.cell? ⟨w0.heap.size, 0, none⟩ = some (.int .i64 i) := hI7.at_ 0; have i1 : w7.cell? ⟨w0.heap.size, 1, none⟩ = some (.int .i64 gen) := hI7.at_ 1; clear hR7 hF7 hD7 hS7 hU7 hI7)
            | (with_reducible refine wpList_ldP rfl (.tmp 12) rfl rfl HT7.out ?_)
            | (with_reducible refine wpList_ldP rfl (.tmp 15) rfl rfl HB7.out ?_)
            | (go_at_call 11; refine CS7.out.mono ?_; rintro e w8 ⟨rfl, hB8⟩; have HB8 := Lib.hid hB8; clear hB8))
          go_roundw
          case rel =>
            refine ⟨j + 1, hlt, by go_num, fun x => (kr x ∧ x < w2.heap.size) ∨ (w2.heap.size ≤ x ∧ x < wF.heap.size ∧ x ≠ gA ∧ x ≠ gB), s', ⟨E', L', GA', gn', gc', FA', fn', fc'⟩, fun hx => ?_, hwg, ?_, HR7.out.under HB8.out, HS7.out.below HB8.out⟩
            · rcases hx with h | h
              · exact hkg h.1
              · omega
            · exact (HD7.out.below HB8.out).less (fun x hx => by rcases hx with (h | h) | h | h; exact .inl (.inl h.1); exact .inr ⟨h.1, h.2.1⟩; exact .inl (.inr (.inl h)); exact .inl (.inr (.inr h)))
          case measure => simp [intOf]; omega
      · go_simp
        obtain ⟨vA, hv⟩ : ∃ v, v = (w2.alloc (.cells #[.int .i64 0, .int .i64 0, .slice none 0 0, .slice none 0 0] 30)).drew := ⟨_, rfl⟩
        have hR : Rec 30 vA w2.heap.size #[.int .i64 0, .int .i64 0, .slice none 0 0, .slice none 0 0] := by rw [hv]; exact Rec.new w2 _ _
        have bV : Below w2.heap.size w2 vA := by rw [hv]; exact ((Below.refl _ _).alloc (Nat.le_refl _) _).drew
        have BVA := Lib.hid (bV)
        have sA := SS.out _ BVA.out
        obtain ⟨gA, hgA⟩ : ∃ g, g = w2.heap.size := ⟨_, rfl⟩
        have leA : w2.heap.size ≤ gA := by rw [hgA]; exact Nat.le_refl _
        rw [← hgA] at hR
        try rw [← hv]
        rw [← hgA]
        have RAA := Lib.hid hR
        have HLEA := Lib.hid leA
        clear hv hR bV hgA leA
        refine hK.out _ _ sA (fun hHeld => ?_)
        clear hK K'
        try simp only [Act.put, List.setIfInBounds_toArray, List.set_cons_zero, List.set_cons_succ]
        refine wpAnyH_ready (rs := [5, 11]) (by kernel_rfl) (by simp) ?_
        refine AllReadyH.cons (o := { dst := some 50, op := Op.call { callee := Callee.value (Operand.func 10), args := #[Operand.tmp 45, Operand.tmp 49], argTypes := #[30, 35] }, type := 36, pos := "law.go:53", after := #[{ on := 0, ground := Ground.data }, { on := 4, ground := Ground.data }], guard := none }) rfl (fun K' hK => ?_) (AllReadyH.cons (o := { dst := some 15, op := Op.alloc 24, type := 0, pos := "law.go:53", after := #[], guard := none }) rfl (fun K' hK => ?_) AllReadyH.nil)
        · go_simp
          go_at_call 10; refine (CG.out _ BVA.out).mono ?_; rintro e vAP ⟨⟨E', L', GA', gn', gc', FA', fn', fc'⟩, rfl, hRP, hBP⟩
          have BVAP := Lib.hid (BVA.out.trans (hBP.mono BVA.out.size))
          have sAP := SS.out _ BVAP.out
          have RAAP := Lib.hid (RAA.out.under hBP)
          have ltA := RAA.out.lt
          have hsW := BVA.out.size
          have RSAP := Lib.hid (hRP.mono (K' := fun x => (kr x ∧ x < w2.heap.size) ∨ (w2.heap.size ≤ x ∧ x < vAP.heap.size ∧ x ≠ gA)) (fun x hx => by rcases hx with h | h; exact .inl h; exact .inr ⟨by omega, h.2, by omega⟩))
          clear hRP hBP hsW ltA
          simp only [Rv.v, idv]
          refine hK.out _ _ sAP (fun hHeld => ?_)
          clear hK K'
          try simp only [Act.put, List.setIfInBounds_toArray, List.set_cons_zero, List.set_cons_succ]
          refine wpAnyH_take (i := 6) (oi := { dst := some 44, op := Op.move (Operand.tmp 50), type := 36, pos := "law.go:53", after := #[{ on := 5, ground := Ground.data }], guard := none }) (v := ?_) rfl (by kernel_rfl) (by kernel_rfl) (by kernel_rfl) (fun _ _ _ h => h) (Or.inl ⟨by rfl, ?_⟩) (by assumption) ?_
          rotate_left 1
          · intro w' hSw; (try dsimp only at hSw); go_simp; (try with_reducible rfl)
          simp only [Act.put, List.setIfInBounds_toArray, List.set_cons_zero, List.set_cons_succ]
          refine wpAnyH_take (i := 7) (oi := { dst := some 51, op := Op.extract (Operand.tmp 44) 0, type := 30, pos := "law.go:53", after := #[{ on := 6, ground := Ground.data }], guard := none }) (v := ?_) rfl (by kernel_rfl) (by kernel_rfl) (by kernel_rfl) (fun _ _ _ h => h) (Or.inl ⟨by rfl, ?_⟩) (by assumption) ?_
          rotate_left 1
          · intro w' hSw; (try dsimp only at hSw); go_simp; (try with_reducible rfl)
          simp only [Act.put, List.setIfInBounds_toArray, List.set_cons_zero, List.set_cons_succ]
          refine wpAnyH_take (i := 8) (oi := { dst := some 52, op := Op.extract (Operand.tmp 44) 1, type := 24, pos := "law.go:53", after := #[{ on := 6, ground := Ground.data }, { on := 12, ground := Ground.gcOnly Departure.lateStores }], guard := none }) (v := ?_) rfl (by kernel_rfl) (by kernel_rfl) (by kernel_rfl) (fun _ _ _ h => h) (Or.inl ⟨by rfl, ?_⟩) (by assumption) ?_
          rotate_left 1
          · intro w' hSw; (try dsimp only at hSw); go_simp; (try with_reducible rfl)
          simp only [Act.put, List.setIfInBounds_toArray, List.set_cons_zero, List.set_cons_succ]
          refine wpAnyH_take (i := 9) (oi := { dst := some 53, op := Op.extract (Operand.tmp 44) 2, type := 3, pos := "law.go:53", after := #[{ on := 6, ground := Ground.data }, { on := 13, ground := Ground.gcOnly Departure.lateStores }], guard := none }) (v := ?_) rfl (by kernel_rfl) (by kernel_rfl) (by kernel_rfl) (fun _ _ _ h => h) (Or.inl ⟨by rfl, ?_⟩) (by assumption) ?_
          rotate_left 1
          · intro w' hSw; (try dsimp only at hSw); go_simp; (try with_reducible rfl)
          simp only [Act.put, List.setIfInBounds_toArray, List.set_cons_zero, List.set_cons_succ]
          refine wpAnyH_ready (rs := [11]) (by kernel_rfl) (by simp) ?_
          refine AllReadyH.cons (o := { dst := some 15, op := Op.alloc 24, type := 0, pos := "law.go:53", after := #[], guard := none }) rfl (fun K' hK => ?_) AllReadyH.nil
          go_simp
          obtain ⟨vAPB, hv⟩ : ∃ v, v = vAP.alloc (.cells #[.int .i64 0, .int .i64 0] 24) := ⟨_, rfl⟩
          have hR : Rec 24 vAPB vAP.heap.size #[.int .i64 0, .int .i64 0] := by rw [hv]; exact Rec.new vAP _ _
          have bV : Below vAP.heap.size vAP vAPB := by rw [hv]; exact ((Below.refl _ _).alloc (Nat.le_refl _) _)
          have BVAPB := Lib.hid (BVAP.out.trans (bV.mono BVAP.out.size))
          have sAPB := SS.out _ BVAPB.out
          have RAAPB := Lib.hid (RAAP.out.under bV)
          have neA : gA < vAP.heap.size := RAAP.out.lt
          have RSAPB := Lib.hid ((RSAP.out.below bV).mono (K' := fun x => (kr x ∧ x < w2.heap.size) ∨ (w2.heap.size ≤ x ∧ x < vAPB.heap.size ∧ x ≠ gA ∧ x ≠ vAP.heap.size)) (fun x hx => by have := bV.size; rcases hx with h | h; exact .inl h; exact .inr ⟨h.1, by omega, by omega, by omega⟩))
          obtain ⟨gB, hgB⟩ : ∃ g, g = vAP.heap.size := ⟨_, rfl⟩
          have leB : w2.heap.size ≤ gB := by rw [hgB]; exact BVAP.out.size
          rw [← hgB] at hR neA RSAPB
          try rw [← hv]
          rw [← hgB]
          have RBAPB := Lib.hid hR
          have HN := Lib.hid neA
          have HLEB := Lib.hid leB
          clear hv hR bV hgB leB neA
          refine hK.out _ _ sAPB (fun hHeld => ?_)
          clear hK K'
          try simp only [Act.put, List.setIfInBounds_toArray, List.set_cons_zero, List.set_cons_succ]
          refine wpAnyH_ready (rs := [12]) (by kernel_rfl) (by simp) ?_
          refine AllReadyH.cons (o := { dst := none, op := Op.store 30 (Operand.tmp 14) (Operand.tmp 51), type := 0, pos := "law.go:53", after := #[{ on := 10, ground := Ground.data }, { on := 7, ground := Ground.data }, { on := 5, ground := Ground.chain }, { on := 0, ground := Ground.phase }, { on := 1, ground := Ground.phase }, { on := 2, ground := Ground.phase }, { on := 3, ground := Ground.phase }, { on := 4, ground := Ground.phase }, { on := 5, ground := Ground.phase }, { on := 6, ground := Ground.phase }, { on := 7, ground := Ground.phase }, { on := 8, ground := Ground.textOnly Departure.lateStores }, { on := 9, ground := Ground.textOnly Departure.lateStores }, { on := 10, ground := Ground.phase }, { on := 11, ground := Ground.phase }], guard := none }) rfl (fun K' hK => ?_) AllReadyH.nil
          refine step_stQ (E' := E') (L' := L') (GA' := GA') (gn' := gn') (gc' := gc') (FA' := FA') (fn' := fn') (fc' := fc') rfl (.tmp 14) (.tmp 51) rfl rfl rfl RAAPB.out ?_
          intro vG hRG hFG
          have hne : gA ≠ gB := by have := HN.out; omega
          have BVG := Lib.hid (BVAPB.out.trans (hFG.toBelow (fun x hx => by rw [show x = gA from hx]; exact HLEA.out) BVAPB.out.size))
          have sG := SS.out _ BVG.out
          have RAG := Lib.hid hRG
          have RBG := Lib.hid (RBAPB.out.fr hFG (fun e => hne (show gB = gA from e).symm))
          have RSG := Lib.hid ((RSAPB.out.mono (K' := fun x => (kr x ∧ x < w2.heap.size) ∨ (w2.heap.size ≤ x ∧ x < vAPB.heap.size ∧ x ≠ gA ∧ x ≠ gB)) (fun x hx => by rcases hx with h | h; exact .inl h; exact .inr ⟨h.1, h.2.1, by omega, by omega⟩)).stays (w' := vG) ⟨hFG.size, fun x hx => hFG.block x (by have := BVAPB.out.size; rcases hx with h | h <;> omega) (fun e => by have e' : x = gA := e; have := HLEA.out; rcases hx with h | h <;> omega)⟩)
          have hsG := hFG.size
          clear hRG hFG hne
          refine hK.out _ _ sG (fun hHeld => ?_)
          clear hK K'
          try simp only [Act.put]
          refine wpAnyH_ready (rs := [13]) (by kernel_rfl) (by simp) ?_
          refine AllReadyH.cons (o := { dst := none, op := Op.store 24 (Operand.tmp 15) (Operand.tmp 52), type := 0, pos := "law.go:53", after := #[{ on := 11, ground := Ground.data }, { on := 8, ground := Ground.data }, { on := 12, ground := Ground.chain }, { on := 0, ground := Ground.phase }, { on := 1, ground := Ground.phase }, { on := 2, ground := Ground.phase }, { on := 3, ground := Ground.phase }, { on := 4, ground := Ground.phase }, { on := 5, ground := Ground.phase }, { on := 6, ground := Ground.phase }, { on := 7, ground := Ground.phase }, { on := 8, ground := Ground.phase }, { on := 9, ground := Ground.textOnly Departure.lateStores }, { on := 10, ground := Ground.phase }, { on := 11, ground := Ground.phase }, { on := 12, ground := Ground.phase }], guard := none }) rfl (fun K' hK => ?_) AllReadyH.nil
          refine step_stP (x1 := x1) (y1 := x2) rfl (.tmp 15) (.tmp 52) rfl rfl rfl RBG.out ?_
          intro wF hRF hFF
          have hne : gA ≠ gB := by have := HN.out; omega
          have BF := Lib.hid (BVG.out.trans (hFF.toBelow (fun x hx => by rw [show x = gB from hx]; exact HLEB.out) BVG.out.size))
          have sF := SS.out _ BF.out
          have RBF := Lib.hid hRF
          have RAF := Lib.hid (RAG.out.fr hFF (fun e => hne (show gA = gB from e)))
          have RSF := Lib.hid ((RSG.out.stays (w' := wF) ⟨hFF.size, fun x hx => hFF.block x (by have := BVG.out.size; rcases hx with h | h <;> omega) (fun e => by have e' : x = gB := e; have := HLEB.out; rcases hx with h | h <;> omega)⟩).mono (K' := fun x => (kr x ∧ x < w2.heap.size) ∨ (w2.heap.size ≤ x ∧ x < wF.heap.size ∧ x ≠ gA ∧ x ≠ gB)) (fun x hx => by have := hFF.size; rcases hx with h | h; exact .inl h; exact .inr ⟨h.1, by omega, h.2.2.1, h.2.2.2⟩))
          clear hRF hFF hne RAG RBG RSG BVG
          refine hK.out _ _ sF (fun hHeld => ?_)
          clear hK K'
          try simp only [Act.put]
          refine wpAnyH_take (i := 14) (oi := { dst := some 16, op := Op.assign (Operand.tmp 53), type := 3, pos := "law.go:53", after := #[{ on := 9, ground := Ground.data }, { on := 13, ground := Ground.chain }, { on := 0, ground := Ground.phase }, { on := 1, ground := Ground.phase }, { on := 2, ground := Ground.phase }, { on := 3, ground := Ground.phase }, { on := 4, ground := Ground.phase }, { on := 5, ground := Ground.phase }, { on := 6, ground := Ground.phase }, { on := 7, ground := Ground.phase }, { on := 8, ground := Ground.phase }, { on := 9, ground := Ground.phase }, { on := 10, ground := Ground.phase }, { on := 11, ground := Ground.phase }, { on := 12, ground := Ground.phase }, { on := 13, ground := Ground.phase }], guard := none }) (v := ?_) rfl (by kernel_rfl) (by kernel_rfl) (by kernel_rfl) (fun _ _ _ h => h) (Or.inl ⟨by rfl, ?_⟩) (by assumption) ?_
          rotate_left 1
          · intro w' hSw; (try dsimp only at hSw); go_simp; (try with_reducible rfl)
          simp only [Act.put, List.setIfInBounds_toArray, List.set_cons_zero, List.set_cons_succ]
          refine wpAnyH_done (by kernel_rfl) ?_ _
          refine NoPanic.normal ?_
          have RG0 := Lib.hid (HR2.out.under BF.out)
          go_wp2_with (first
            | (with_reducible refine wpList_ldQ rfl (.tmp 14) rfl rfl RAF.out ?_)
            | ((with_reducible refine wpList_stQ (E' := E') (L' := L') (GA' := GA') (gn' := gn') (gc' := gc') (FA' := FA') (fn' := fn') (fc' := fc') rfl (.tmp 10) (.tmp 54) rfl rfl rfl RG0.out ?_); intro w7 hR7 hF7; have HR7 := Lib.hid hR7; have HF7 := Lib.hid hF7; have HT7 := Lib.hid ((HT2.out.under BF.out).fr hF7 (fun e => by have e' : wd.heap.size = g := e; exact absurd e' HNE.out)); have HB7 := Lib.hid (RBF.out.fr hF7 (fun e => by have e' : gB = g := e; have := HLEB.out; omega)); have hD7 := ((HD2.out.below B2.out).more BF.out (fun x => w2.heap.size ≤ x ∧ x < wF.heap.size) (fun x hx => hx)).fr (g := g) (.inl (.inr (.inl rfl))) hwg HF7.out; have hS7 := RSF.out.stays (w' := w7) ⟨HF7.out.size, fun x hx => HF7.out.block x (by have := BF.out.size; rcases hx with h | h <;> omega) (fun e => by have e' : x = g := e; rcases hx with h | h; exact hkg (e' ▸ h.1); omega)⟩; have CS7 := Lib.hid (same_idv hD7 hS7 i gen); have HD7 := Lib.hid hD7; have HS7 := Lib.hid hS7; have hU7 := hD7.under; have hI7 := HI0.out.below hU7 HI0.out.lt; have HI7 := Lib.hid hI7; have r0 : w7.cell? ⟨g, 0, none⟩ = some (.int .i64 E') := HR7.out.at_ 0; have r1 : w7.cell? ⟨g, 1, none⟩ = some (.int .i64 L') := HR7.out.at_ 1; have r2 : w7.cell? ⟨g, 2, none⟩ = some (.slice GA' gn' gc') := HR7.out.at_ 2; have r3 : w7.cell? ⟨g, 3, none⟩ = some (.slice FA' fn' fc') := HR7.out.at_ 3; have i0 : w7.cell? ⟨w0.heap.size, 0, none⟩ = some (.int .i64 i) := hI7.at_ 0; have i1 : w7.cell? ⟨w0.heap.size, 1, none⟩ = some (.int .i64 gen) := hI7.at_ 1; clear hR7 hF7 hD7 hS7 hU7 hI7)
            | (with_reducible refine wpList_ldP rfl (.tmp 12) rfl rfl HT7.out ?_)
            | (with_reducible refine wpList_ldP rfl (.tmp 15) rfl rfl HB7.out ?_)
            | (go_at_call 11; refine CS7.out.mono ?_; rintro e w8 ⟨rfl, hB8⟩; have HB8 := Lib.hid hB8; clear hB8))
          go_roundw
          case rel =>
            refine ⟨j + 1, hlt, by go_num, fun x => (kr x ∧ x < w2.heap.size) ∨ (w2.heap.size ≤ x ∧ x < wF.heap.size ∧ x ≠ gA ∧ x ≠ gB), s', ⟨E', L', GA', gn', gc', FA', fn', fc'⟩, fun hx => ?_, hwg, ?_, HR7.out.under HB8.out, HS7.out.below HB8.out⟩
            · rcases hx with h | h
              · exact hkg h.1
              · omega
            · exact (HD7.out.below HB8.out).less (fun x hx => by rcases hx with (h | h) | h | h; exact .inl (.inl h.1); exact .inr ⟨h.1, h.2.1⟩; exact .inl (.inr (.inl h)); exact .inl (.inr (.inr h)))
          case measure => simp [intOf]; omega
        · go_simp
          obtain ⟨vAB, hv⟩ : ∃ v, v = vA.alloc (.cells #[.int .i64 0, .int .i64 0] 24) := ⟨_, rfl⟩
          have hR : Rec 24 vAB vA.heap.size #[.int .i64 0, .int .i64 0] := by rw [hv]; exact Rec.new vA _ _
          have bV : Below vA.heap.size vA vAB := by rw [hv]; exact ((Below.refl _ _).alloc (Nat.le_refl _) _)
          have BVAB := Lib.hid (BVA.out.trans (bV.mono BVA.out.size))
          have sAB := SS.out _ BVAB.out
          have RAAB := Lib.hid (RAA.out.under bV)
          have neA : gA < vA.heap.size := RAA.out.lt
          obtain ⟨gB, hgB⟩ : ∃ g, g = vA.heap.size := ⟨_, rfl⟩
          have leB : w2.heap.size ≤ gB := by rw [hgB]; exact BVA.out.size
          rw [← hgB] at hR neA
          try rw [← hv]
          rw [← hgB]
          have RBAB := Lib.hid hR
          have HN := Lib.hid neA
          have HLEB := Lib.hid leB
          clear hv hR bV hgB leB neA
          refine hK.out _ _ sAB (fun hHeld => ?_)
          clear hK K'
          try simp only [Act.put, List.setIfInBounds_toArray, List.set_cons_zero, List.set_cons_succ]
          refine wpAnyH_ready (rs := [5]) (by kernel_rfl) (by simp) ?_
          refine AllReadyH.cons (o := { dst := some 50, op := Op.call { callee := Callee.value (Operand.func 10), args := #[Operand.tmp 45, Operand.tmp 49], argTypes := #[30, 35] }, type := 36, pos := "law.go:53", after := #[{ on := 0, ground := Ground.data }, { on := 4, ground := Ground.data }], guard := none }) rfl (fun K' hK => ?_) AllReadyH.nil
          go_simp
          go_at_call 10; refine (CG.out _ BVAB.out).mono ?_; rintro e vABP ⟨⟨E', L', GA', gn', gc', FA', fn', fc'⟩, rfl, hRP, hBP⟩
          have BVABP := Lib.hid (BVAB.out.trans (hBP.mono BVAB.out.size))
          have sABP := SS.out _ BVABP.out
          have RAABP := Lib.hid (RAAB.out.under hBP)
          have RBABP := Lib.hid (RBAB.out.under hBP)
          have ltA := RAAB.out.lt
          have ltB := RBAB.out.lt
          have hsW := BVAB.out.size
          have RSABP := Lib.hid (hRP.mono (K' := fun x => (kr x ∧ x < w2.heap.size) ∨ (w2.heap.size ≤ x ∧ x < vABP.heap.size ∧ x ≠ gA ∧ x ≠ gB)) (fun x hx => by rcases hx with h | h; exact .inl h; exact .inr ⟨by omega, h.2, by omega, by omega⟩))
          clear hRP hBP hsW ltA ltB
          simp only [Rv.v, idv]
          refine hK.out _ _ sABP (fun hHeld => ?_)
          clear hK K'
          try simp only [Act.put, List.setIfInBounds_toArray, List.set_cons_zero, List.set_cons_succ]
          refine wpAnyH_take (i := 6) (oi := { dst := some 44, op := Op.move (Operand.tmp 50), type := 36, pos := "law.go:53", after := #[{ on := 5, ground := Ground.data }], guard := none }) (v := ?_) rfl (by kernel_rfl) (by kernel_rfl) (by kernel_rfl) (fun _ _ _ h => h) (Or.inl ⟨by rfl, ?_⟩) (by assumption) ?_
          rotate_left 1
          · intro w' hSw; (try dsimp only at hSw); go_simp; (try with_reducible rfl)
          simp only [Act.put, List.setIfInBounds_toArray, List.set_cons_zero, List.set_cons_succ]
          refine wpAnyH_take (i := 7) (oi := { dst := some 51, op := Op.extract (Operand.tmp 44) 0, type := 30, pos := "law.go:53", after := #[{ on := 6, ground := Ground.data }], guard := none }) (v := ?_) rfl (by kernel_rfl) (by kernel_rfl) (by kernel_rfl) (fun _ _ _ h => h) (Or.inl ⟨by rfl, ?_⟩) (by assumption) ?_
          rotate_left 1
          · intro w' hSw; (try dsimp only at hSw); go_simp; (try with_reducible rfl)
          simp only [Act.put, List.setIfInBounds_toArray, List.set_cons_zero, List.set_cons_succ]
          refine wpAnyH_take (i := 8) (oi := { dst := some 52, op := Op.extract (Operand.tmp 44) 1, type := 24, pos := "law.go:53", after := #[{ on := 6, ground := Ground.data }, { on := 12, ground := Ground.gcOnly Departure.lateStores }], guard := none }) (v := ?_) rfl (by kernel_rfl) (by kernel_rfl) (by kernel_rfl) (fun _ _ _ h => h) (Or.inl ⟨by rfl, ?_⟩) (by assumption) ?_
          rotate_left 1
          · intro w' hSw; (try dsimp only at hSw); go_simp; (try with_reducible rfl)
          simp only [Act.put, List.setIfInBounds_toArray, List.set_cons_zero, List.set_cons_succ]
          refine wpAnyH_take (i := 9) (oi := { dst := some 53, op := Op.extract (Operand.tmp 44) 2, type := 3, pos := "law.go:53", after := #[{ on := 6, ground := Ground.data }, { on := 13, ground := Ground.gcOnly Departure.lateStores }], guard := none }) (v := ?_) rfl (by kernel_rfl) (by kernel_rfl) (by kernel_rfl) (fun _ _ _ h => h) (Or.inl ⟨by rfl, ?_⟩) (by assumption) ?_
          rotate_left 1
          · intro w' hSw; (try dsimp only at hSw); go_simp; (try with_reducible rfl)
          simp only [Act.put, List.setIfInBounds_toArray, List.set_cons_zero, List.set_cons_succ]
          refine wpAnyH_ready (rs := [12]) (by kernel_rfl) (by simp) ?_
          refine AllReadyH.cons (o := { dst := none, op := Op.store 30 (Operand.tmp 14) (Operand.tmp 51), type := 0, pos := "law.go:53", after := #[{ on := 10, ground := Ground.data }, { on := 7, ground := Ground.data }, { on := 5, ground := Ground.chain }, { on := 0, ground := Ground.phase }, { on := 1, ground := Ground.phase }, { on := 2, ground := Ground.phase }, { on := 3, ground := Ground.phase }, { on := 4, ground := Ground.phase }, { on := 5, ground := Ground.phase }, { on := 6, ground := Ground.phase }, { on := 7, ground := Ground.phase }, { on := 8, ground := Ground.textOnly Departure.lateStores }, { on := 9, ground := Ground.textOnly Departure.lateStores }, { on := 10, ground := Ground.phase }, { on := 11, ground := Ground.phase }], guard := none }) rfl (fun K' hK => ?_) AllReadyH.nil
          refine step_stQ (E' := E') (L' := L') (GA' := GA') (gn' := gn') (gc' := gc') (FA' := FA') (fn' := fn') (fc' := fc') rfl (.tmp 14) (.tmp 51) rfl rfl rfl RAABP.out ?_
          intro vG hRG hFG
          have hne : gA ≠ gB := by have := HN.out; omega
          have BVG := Lib.hid (BVABP.out.trans (hFG.toBelow (fun x hx => by rw [show x = gA from hx]; exact HLEA.out) BVABP.out.size))
          have sG := SS.out _ BVG.out
          have RAG := Lib.hid hRG
          have RBG := Lib.hid (RBABP.out.fr hFG (fun e => hne (show gB = gA from e).symm))
          have RSG := Lib.hid ((RSABP.out.mono (K' := fun x => (kr x ∧ x < w2.heap.size) ∨ (w2.heap.size ≤ x ∧ x < vABP.heap.size ∧ x ≠ gA ∧ x ≠ gB)) (fun x hx => by rcases hx with h | h; exact .inl h; exact .inr ⟨h.1, h.2.1, by omega, by omega⟩)).stays (w' := vG) ⟨hFG.size, fun x hx => hFG.block x (by have := BVABP.out.size; rcases hx with h | h <;> omega) (fun e => by have e' : x = gA := e; have := HLEA.out; rcases hx with h | h <;> omega)⟩)
          have hsG := hFG.size
          clear hRG hFG hne
          refine hK.out _ _ sG (fun hHeld => ?_)
          clear hK K'
          try simp only [Act.put]
          refine wpAnyH_ready (rs := [13]) (by kernel_rfl) (by simp) ?_
          refine AllReadyH.cons (o := { dst := none, op := Op.store 24 (Operand.tmp 15) (Operand.tmp 52), type := 0, pos := "law.go:53", after := #[{ on := 11, ground := Ground.data }, { on := 8, ground := Ground.data }, { on := 12, ground := Ground.chain }, { on := 0, ground := Ground.phase }, { on := 1, ground := Ground.phase }, { on := 2, ground := Ground.phase }, { on := 3, ground := Ground.phase }, { on := 4, ground := Ground.phase }, { on := 5, ground := Ground.phase }, { on := 6, ground := Ground.phase }, { on := 7, ground := Ground.phase }, { on := 8, ground := Ground.phase }, { on := 9, ground := Ground.textOnly Departure.lateStores }, { on := 10, ground := Ground.phase }, { on := 11, ground := Ground.phase }, { on := 12, ground := Ground.phase }], guard := none }) rfl (fun K' hK => ?_) AllReadyH.nil
          refine step_stP (x1 := x1) (y1 := x2) rfl (.tmp 15) (.tmp 52) rfl rfl rfl RBG.out ?_
          intro wF hRF hFF
          have hne : gA ≠ gB := by have := HN.out; omega
          have BF := Lib.hid (BVG.out.trans (hFF.toBelow (fun x hx => by rw [show x = gB from hx]; exact HLEB.out) BVG.out.size))
          have sF := SS.out _ BF.out
          have RBF := Lib.hid hRF
          have RAF := Lib.hid (RAG.out.fr hFF (fun e => hne (show gA = gB from e)))
          have RSF := Lib.hid ((RSG.out.stays (w' := wF) ⟨hFF.size, fun x hx => hFF.block x (by have := BVG.out.size; rcases hx with h | h <;> omega) (fun e => by have e' : x = gB := e; have := HLEB.out; rcases hx with h | h <;> omega)⟩).mono (K' := fun x => (kr x ∧ x < w2.heap.size) ∨ (w2.heap.size ≤ x ∧ x < wF.heap.size ∧ x ≠ gA ∧ x ≠ gB)) (fun x hx => by have := hFF.size; rcases hx with h | h; exact .inl h; exact .inr ⟨h.1, by omega, h.2.2.1, h.2.2.2⟩))
          clear hRF hFF hne RAG RBG RSG BVG
          refine hK.out _ _ sF (fun hHeld => ?_)
          clear hK K'
          try simp only [Act.put]
          refine wpAnyH_take (i := 14) (oi := { dst := some 16, op := Op.assign (Operand.tmp 53), type := 3, pos := "law.go:53", after := #[{ on := 9, ground := Ground.data }, { on := 13, ground := Ground.chain }, { on := 0, ground := Ground.phase }, { on := 1, ground := Ground.phase }, { on := 2, ground := Ground.phase }, { on := 3, ground := Ground.phase }, { on := 4, ground := Ground.phase }, { on := 5, ground := Ground.phase }, { on := 6, ground := Ground.phase }, { on := 7, ground := Ground.phase }, { on := 8, ground := Ground.phase }, { on := 9, ground := Ground.phase }, { on := 10, ground := Ground.phase }, { on := 11, ground := Ground.phase }, { on := 12, ground := Ground.phase }, { on := 13, ground := Ground.phase }], guard := none }) (v := ?_) rfl (by kernel_rfl) (by kernel_rfl) (by kernel_rfl) (fun _ _ _ h => h) (Or.inl ⟨by rfl, ?_⟩) (by assumption) ?_
          rotate_left 1
          · intro w' hSw; (try dsimp only at hSw); go_simp; (try with_reducible rfl)
          simp only [Act.put, List.setIfInBounds_toArray, List.set_cons_zero, List.set_cons_succ]
          refine wpAnyH_done (by kernel_rfl) ?_ _
          refine NoPanic.normal ?_
          have RG0 := Lib.hid (HR2.out.under BF.out)
          go_wp2_with (first
            | (with_reducible refine wpList_ldQ rfl (.tmp 14) rfl rfl RAF.out ?_)
            | ((with_reducible refine wpList_stQ (E' := E') (L' := L') (GA' := GA') (gn' := gn') (gc' := gc') (FA' := FA') (fn' := fn') (fc' := fc') rfl (.tmp 10) (.tmp 54) rfl rfl rfl RG0.out ?_); intro w7 hR7 hF7; have HR7 := Lib.hid hR7; have HF7 := Lib.hid hF7; have HT7 := Lib.hid ((HT2.out.under BF.out).fr hF7 (fun e => by have e' : wd.heap.size = g := e; exact absurd e' HNE.out)); have HB7 := Lib.hid (RBF.out.fr hF7 (fun e => by have e' : gB = g := e; have := HLEB.out; omega)); have hD7 := ((HD2.out.below B2.out).more BF.out (fun x => w2.heap.size ≤ x ∧ x < wF.heap.size) (fun x hx => hx)).fr (g := g) (.inl (.inr (.inl rfl))) hwg HF7.out; have hS7 := RSF.out.stays (w' := w7) ⟨HF7.out.size, fun x hx => HF7.out.block x (by have := BF.out.size; rcases hx with h | h <;> omega) (fun e => by have e' : x = g := e; rcases hx with h | h; exact hkg (e' ▸ h.1); omega)⟩; have CS7 := Lib.hid (same_idv hD7 hS7 i gen); have HD7 := Lib.hid hD7; have HS7 := Lib.hid hS7; have hU7 := hD7.under; have hI7 := HI0.out.below hU7 HI0.out.lt; have HI7 := Lib.hid hI7; have r0 : w7.cell? ⟨g, 0, none⟩ = some (.int .i64 E') := HR7.out.at_ 0; have r1 : w7.cell? ⟨g, 1, none⟩ = some (.int .i64 L') := HR7.out.at_ 1; have r2 : w7.cell? ⟨g, 2, none⟩ = some (.slice GA' gn' gc') := HR7.out.at_ 2; have r3 : w7.cell? ⟨g, 3, none⟩ = some (.slice FA' fn' fc') := HR7.out.at_ 3; have i0 : w7.cell? ⟨w0.heap.size, 0, none⟩ = some (.int .i64 i) := hI7.at_ 0; have i1 : w7.cell? ⟨w0.heap.size, 1, none⟩ = some (.int .i64 gen) := hI7.at_ 1; clear hR7 hF7 hD7 hS7 hU7 hI7)
            | (with_reducible refine wpList_ldP rfl (.tmp 12) rfl rfl HT7.out ?_)
            | (with_reducible refine wpList_ldP rfl (.tmp 15) rfl rfl HB7.out ?_)
            | (go_at_call 11; refine CS7.out.mono ?_; rintro e w8 ⟨rfl, hB8⟩; have HB8 := Lib.hid hB8; clear hB8))
          go_roundw
          case rel =>
            refine ⟨j + 1, hlt, by go_num, fun x => (kr x ∧ x < w2.heap.size) ∨ (w2.heap.size ≤ x ∧ x < wF.heap.size ∧ x ≠ gA ∧ x ≠ gB), s', ⟨E', L', GA', gn', gc', FA', fn', fc'⟩, fun hx => ?_, hwg, ?_, HR7.out.under HB8.out, HS7.out.below HB8.out⟩
            · rcases hx with h | h
              · exact hkg h.1
              · omega
            · exact (HD7.out.below HB8.out).less (fun x hx => by rcases hx with (h | h) | h | h; exact .inl (.inl h.1); exact .inr ⟨h.1, h.2.1⟩; exact .inl (.inr (.inl h)); exact .inl (.inr (.inr h)))
          case measure => simp [intOf]; omega
      · go_simp
        obtain ⟨vB, hv⟩ : ∃ v, v = (w2.alloc (.cells #[.int .i64 0, .int .i64 0] 24)).drew := ⟨_, rfl⟩
        have hR : Rec 24 vB w2.heap.size #[.int .i64 0, .int .i64 0] := by rw [hv]; exact Rec.new w2 _ _
        have bV : Below w2.heap.size w2 vB := by rw [hv]; exact ((Below.refl _ _).alloc (Nat.le_refl _) _).drew
        have BVB := Lib.hid (bV)
        have sB := SS.out _ BVB.out
        obtain ⟨gB, hgB⟩ : ∃ g, g = w2.heap.size := ⟨_, rfl⟩
        have leB : w2.heap.size ≤ gB := by rw [hgB]; exact Nat.le_refl _
        rw [← hgB] at hR
        try rw [← hv]
        rw [← hgB]
        have RBB := Lib.hid hR
        have HLEB := Lib.hid leB
        clear hv hR bV hgB leB
        refine hK.out _ _ sB (fun hHeld => ?_)
        clear hK K'
        try simp only [Act.put, List.setIfInBounds_toArray, List.set_cons_zero, List.set_cons_succ]
        refine wpAnyH_ready (rs := [5, 10]) (by kernel_rfl) (by simp) ?_
        refine AllReadyH.cons (o := { dst := some 50, op := Op.call { callee := Callee.value (Operand.func 10), args := #[Operand.tmp 45, Operand.tmp 49], argTypes := #[30, 35] }, type := 36, pos := "law.go:53", after := #[{ on := 0, ground := Ground.data }, { on := 4, ground := Ground.data }], guard := none }) rfl (fun K' hK => ?_) (AllReadyH.cons (o := { dst := some 14, op := Op.alloc 30, type := 0, pos := "law.go:53", after := #[], guard := none }) rfl (fun K' hK => ?_) AllReadyH.nil)
        · go_simp
          go_at_call 10; refine (CG.out _ BVB.out).mono ?_; rintro e vBP ⟨⟨E', L', GA', gn', gc', FA', fn', fc'⟩, rfl, hRP, hBP⟩
          have BVBP := Lib.hid (BVB.out.trans (hBP.mono BVB.out.size))
          have sBP := SS.out _ BVBP.out
          have RBBP := Lib.hid (RBB.out.under hBP)
          have ltB := RBB.out.lt
          have hsW := BVB.out.size
          have RSBP := Lib.hid (hRP.mono (K' := fun x => (kr x ∧ x < w2.heap.size) ∨ (w2.heap.size ≤ x ∧ x < vBP.heap.size ∧ x ≠ gB)) (fun x hx => by rcases hx with h | h; exact .inl h; exact .inr ⟨by omega, h.2, by omega⟩))
          clear hRP hBP hsW ltB
          simp only [Rv.v, idv]
          refine hK.out _ _ sBP (fun hHeld => ?_)
          clear hK K'
          try simp only [Act.put, List.setIfInBounds_toArray, List.set_cons_zero, List.set_cons_succ]
          refine wpAnyH_take (i := 6) (oi := { dst := some 44, op := Op.move (Operand.tmp 50), type := 36, pos := "law.go:53", after := #[{ on := 5, ground := Ground.data }], guard := none }) (v := ?_) rfl (by kernel_rfl) (by kernel_rfl) (by kernel_rfl) (fun _ _ _ h => h) (Or.inl ⟨by rfl, ?_⟩) (by assumption) ?_
          rotate_left 1
          · intro w' hSw; (try dsimp only at hSw); go_simp; (try with_reducible rfl)
          simp only [Act.put, List.setIfInBounds_toArray, List.set_cons_zero, List.set_cons_succ]
          refine wpAnyH_take (i := 7) (oi := { dst := some 51, op := Op.extract (Operand.tmp 44) 0, type := 30, pos := "law.go:53", after := #[{ on := 6, ground := Ground.data }], guard := none }) (v := ?_) rfl (by kernel_rfl) (by kernel_rfl) (by kernel_rfl) (fun _ _ _ h => h) (Or.inl ⟨by rfl, ?_⟩) (by assumption) ?_
          rotate_left 1
          · intro w' hSw; (try dsimp only at hSw); go_simp; (try with_reducible rfl)
          simp only [Act.put, List.setIfInBounds_toArray, List.set_cons_zero, List.set_cons_succ]
          refine wpAnyH_take (i := 8) (oi := { dst := some 52, op := Op.extract (Operand.tmp 44) 1, type := 24, pos := "law.go:53", after := #[{ on := 6, ground := Ground.data }, { on := 12, ground := Ground.gcOnly Departure.lateStores }], guard := none }) (v := ?_) rfl (by kernel_rfl) (by kernel_rfl) (by kernel_rfl) (fun _ _ _ h => h) (Or.inl ⟨by rfl, ?_⟩) (by assumption) ?_
          rotate_left 1
          · intro w' hSw; (try dsimp only at hSw); go_simp; (try with_reducible rfl)
          simp only [Act.put, List.setIfInBounds_toArray, List.set_cons_zero, List.set_cons_succ]
          refine wpAnyH_take (i := 9) (oi := { dst := some 53, op := Op.extract (Operand.tmp 44) 2, type := 3, pos := "law.go:53", after := #[{ on := 6, ground := Ground.data }, { on := 13, ground := Ground.gcOnly Departure.lateStores }], guard := none }) (v := ?_) rfl (by kernel_rfl) (by kernel_rfl) (by kernel_rfl) (fun _ _ _ h => h) (Or.inl ⟨by rfl, ?_⟩) (by assumption) ?_
          rotate_left 1
          · intro w' hSw; (try dsimp only at hSw); go_simp; (try with_reducible rfl)
          simp only [Act.put, List.setIfInBounds_toArray, List.set_cons_zero, List.set_cons_succ]
          refine wpAnyH_ready (rs := [10]) (by kernel_rfl) (by simp) ?_
          refine AllReadyH.cons (o := { dst := some 14, op := Op.alloc 30, type := 0, pos := "law.go:53", after := #[], guard := none }) rfl (fun K' hK => ?_) AllReadyH.nil
          go_simp
          obtain ⟨vBPA, hv⟩ : ∃ v, v = vBP.alloc (.cells #[.int .i64 0, .int .i64 0, .slice none 0 0, .slice none 0 0] 30) := ⟨_, rfl⟩
          have hR : Rec 30 vBPA vBP.heap.size #[.int .i64 0, .int .i64 0, .slice none 0 0, .slice none 0 0] := by rw [hv]; exact Rec.new vBP _ _
          have bV : Below vBP.heap.size vBP vBPA := by rw [hv]; exact ((Below.refl _ _).alloc (Nat.le_refl _) _)
          have BVBPA := Lib.hid (BVBP.out.trans (bV.mono BVBP.out.size))
          have sBPA := SS.out _ BVBPA.out
          have RBBPA := Lib.hid (RBBP.out.under bV)
          have neB : gB < vBP.heap.size := RBBP.out.lt
          have RSBPA := Lib.hid ((RSBP.out.below bV).mono (K' := fun x => (kr x ∧ x < w2.heap.size) ∨ (w2.heap.size ≤ x ∧ x < vBPA.heap.size ∧ x ≠ gB ∧ x ≠ vBP.heap.size)) (fun x hx => by have := bV.size; rcases hx with h | h; exact .inl h; exact .inr ⟨h.1, by omega, by omega, by omega⟩))
          obtain ⟨gA, hgA⟩ : ∃ g, g = vBP.heap.size := ⟨_, rfl⟩
          have leA : w2.heap.size ≤ gA := by rw [hgA]; exact BVBP.out.size
          rw [← hgA] at hR neB RSBPA
          try rw [← hv]
          rw [← hgA]
          have RABPA := Lib.hid hR
          have HN := Lib.hid neB
          have HLEA := Lib.hid leA
          clear hv hR bV hgA leA neB
          refine hK.out _ _ sBPA (fun hHeld => ?_)
          clear hK K'
          try simp only [Act.put, List.setIfInBounds_toArray, List.set_cons_zero, List.set_cons_succ]
          refine wpAnyH_ready (rs := [12]) (by kernel_rfl) (by simp) ?_
          refine AllReadyH.cons (o := { dst := none, op := Op.store 30 (Operand.tmp 14) (Operand.tmp 51), type := 0, pos := "law.go:53", after := #[{ on := 10, ground := Ground.data }, { on := 7, ground := Ground.data }, { on := 5, ground := Ground.chain }, { on := 0, ground := Ground.phase }, { on := 1, ground := Ground.phase }, { on := 2, ground := Ground.phase }, { on := 3, ground := Ground.phase }, { on := 4, ground := Ground.phase }, { on := 5, ground := Ground.phase }, { on := 6, ground := Ground.phase }, { on := 7, ground := Ground.phase }, { on := 8, ground := Ground.textOnly Departure.lateStores }, { on := 9, ground := Ground.textOnly Departure.lateStores }, { on := 10, ground := Ground.phase }, { on := 11, ground := Ground.phase }], guard := none }) rfl (fun K' hK => ?_) AllReadyH.nil
          refine step_stQ (E' := E') (L' := L') (GA' := GA') (gn' := gn') (gc' := gc') (FA' := FA') (fn' := fn') (fc' := fc') rfl (.tmp 14) (.tmp 51) rfl rfl rfl RABPA.out ?_
          intro vG hRG hFG
          have hne : gA ≠ gB := by have := HN.out; omega
          have BVG := Lib.hid (BVBPA.out.trans (hFG.toBelow (fun x hx => by rw [show x = gA from hx]; exact HLEA.out) BVBPA.out.size))
          have sG := SS.out _ BVG.out
          have RAG := Lib.hid hRG
          have RBG := Lib.hid (RBBPA.out.fr hFG (fun e => hne (show gB = gA from e).symm))
          have RSG := Lib.hid ((RSBPA.out.mono (K' := fun x => (kr x ∧ x < w2.heap.size) ∨ (w2.heap.size ≤ x ∧ x < vBPA.heap.size ∧ x ≠ gA ∧ x ≠ gB)) (fun x hx => by rcases hx with h | h; exact .inl h; exact .inr ⟨h.1, h.2.1, by omega, by omega⟩)).stays (w' := vG) ⟨hFG.size, fun x hx => hFG.block x (by have := BVBPA.out.size; rcases hx with h | h <;> omega) (fun e => by have e' : x = gA := e; have := HLEA.out; rcases hx with h | h <;> omega)⟩)
          have hsG := hFG.size
          clear hRG hFG hne
          refine hK.out _ _ sG (fun hHeld => ?_)
          clear hK K'
          try simp only [Act.put]
          refine wpAnyH_ready (rs := [13]) (by kernel_rfl) (by simp) ?_
          refine AllReadyH.cons (o := { dst := none, op := Op.store 24 (Operand.tmp 15) (Operand.tmp 52), type := 0, pos := "law.go:53", after := #[{ on := 11, ground := Ground.data }, { on := 8, ground := Ground.data }, { on := 12, ground := Ground.chain }, { on := 0, ground := Ground.phase }, { on := 1, ground := Ground.phase }, { on := 2, ground := Ground.phase }, { on := 3, ground := Ground.phase }, { on := 4, ground := Ground.phase }, { on := 5, ground := Ground.phase }, { on := 6, ground := Ground.phase }, { on := 7, ground := Ground.phase }, { on := 8, ground := Ground.phase }, { on := 9, ground := Ground.textOnly Departure.lateStores }, { on := 10, ground := Ground.phase }, { on := 11, ground := Ground.phase }, { on := 12, ground := Ground.phase }], guard := none }) rfl (fun K' hK => ?_) AllReadyH.nil
          refine step_stP (x1 := x1) (y1 := x2) rfl (.tmp 15) (.tmp 52) rfl rfl rfl RBG.out ?_
          intro wF hRF hFF
          have hne : gA ≠ gB := by have := HN.out; omega
          have BF := Lib.hid (BVG.out.trans (hFF.toBelow (fun x hx => by rw [show x = gB from hx]; exact HLEB.out) BVG.out.size))
          have sF := SS.out _ BF.out
          have RBF := Lib.hid hRF
          have RAF := Lib.hid (RAG.out.fr hFF (fun e => hne (show gA = gB from e)))
          have RSF := Lib.hid ((RSG.out.stays (w' := wF) ⟨hFF.size, fun x hx => hFF.block x (by have := BVG.out.size; rcases hx with h | h <;> omega) (fun e => by have e' : x = gB := e; have := HLEB.out; rcases hx with h | h <;> omega)⟩).mono (K' := fun x => (kr x ∧ x < w2.heap.size) ∨ (w2.heap.size ≤ x ∧ x < wF.heap.size ∧ x ≠ gA ∧ x ≠ gB)) (fun x hx => by have := hFF.size; rcases hx with h | h; exact .inl h; exact .inr ⟨h.1, by omega, h.2.2.1, h.2.2.2⟩))
          clear hRF hFF hne RAG RBG RSG BVG
          refine hK.out _ _ sF (fun hHeld => ?_)
          clear hK K'
          try simp only [Act.put]
          refine wpAnyH_take (i := 14) (oi := { dst := some 16, op := Op.assign (Operand.tmp 53), type := 3, pos := "law.go:53", after := #[{ on := 9, ground := Ground.data }, { on := 13, ground := Ground.chain }, { on := 0, ground := Ground.phase }, { on := 1, ground := Ground.phase }, { on := 2, ground := Ground.phase }, { on := 3, ground := Ground.phase }, { on := 4, ground := Ground.phase }, { on := 5, ground := Ground.phase }, { on := 6, ground := Ground.phase }, { on := 7, ground := Ground.phase }, { on := 8, ground := Ground.phase }, { on := 9, ground := Ground.phase }, { on := 10, ground := Ground.phase }, { on := 11, ground := Ground.phase }, { on := 12, ground := Ground.phase }, { on := 13, ground := Ground.phase }], guard := none }) (v := ?_) rfl (by kernel_rfl) (by kernel_rfl) (by kernel_rfl) (fun _ _ _ h => h) (Or.inl ⟨by rfl, ?_⟩) (by assumption) ?_
          rotate_left 1
          · intro w' hSw; (try dsimp only at hSw); go_simp; (try with_reducible rfl)
          simp only [Act.put, List.setIfInBounds_toArray, List.set_cons_zero, List.set_cons_succ]
          refine wpAnyH_done (by kernel_rfl) ?_ _
          refine NoPanic.normal ?_
          have RG0 := Lib.hid (HR2.out.under BF.out)
          go_wp2_with (first
            | (with_reducible refine wpList_ldQ rfl (.tmp 14) rfl rfl RAF.out ?_)
            | ((with_reducible refine wpList_stQ (E' := E') (L' := L') (GA' := GA') (gn' := gn') (gc' := gc') (FA' := FA') (fn' := fn') (fc' := fc') rfl (.tmp 10) (.tmp 54) rfl rfl rfl RG0.out ?_); intro w7 hR7 hF7; have HR7 := Lib.hid hR7; have HF7 := Lib.hid hF7; have HT7 := Lib.hid ((HT2.out.under BF.out).fr hF7 (fun e => by have e' : wd.heap.size = g := e; exact absurd e' HNE.out)); have HB7 := Lib.hid (RBF.out.fr hF7 (fun e => by have e' : gB = g := e; have := HLEB.out; omega)); have hD7 := ((HD2.out.below B2.out).more BF.out (fun x => w2.heap.size ≤ x ∧ x < wF.heap.size) (fun x hx => hx)).fr (g := g) (.inl (.inr (.inl rfl))) hwg HF7.out; have hS7 := RSF.out.stays (w' := w7) ⟨HF7.out.size, fun x hx => HF7.out.block x (by have := BF.out.size; rcases hx with h | h <;> omega) (fun e => by have e' : x = g := e; rcases hx with h | h; exact hkg (e' ▸ h.1); omega)⟩; have CS7 := Lib.hid (same_idv hD7 hS7 i gen); have HD7 := Lib.hid hD7; have HS7 := Lib.hid hS7; have hU7 := hD7.under; have hI7 := HI0.out.below hU7 HI0.out.lt; have HI7 := Lib.hid hI7; have r0 : w7.cell? ⟨g, 0, none⟩ = some (.int .i64 E') := HR7.out.at_ 0; have r1 : w7.cell? ⟨g, 1, none⟩ = some (.int .i64 L') := HR7.out.at_ 1; have r2 : w7.cell? ⟨g, 2, none⟩ = some (.slice GA' gn' gc') := HR7.out.at_ 2; have r3 : w7.cell? ⟨g, 3, none⟩ = some (.slice FA' fn' fc') := HR7.out.at_ 3; have i0 : w7.cell? ⟨w0.heap.size, 0, none⟩ = some (.int .i64 i) := hI7.at_ 0; have i1 : w7.cell? ⟨w0.heap.size, 1, none⟩ = some (.int .i64 gen) := hI7.at_ 1; clear hR7 hF7 hD7 hS7 hU7 hI7)
            | (with_reducible refine wpList_ldP rfl (.tmp 12) rfl rfl HT7.out ?_)
            | (with_reducible refine wpList_ldP rfl (.tmp 15) rfl rfl HB7.out ?_)
            | (go_at_call 11; refine CS7.out.mono ?_; rintro e w8 ⟨rfl, hB8⟩; have HB8 := Lib.hid hB8; clear hB8))
          go_roundw
          case rel =>
            refine ⟨j + 1, hlt, by go_num, fun x => (kr x ∧ x < w2.heap.size) ∨ (w2.heap.size ≤ x ∧ x < wF.heap.size ∧ x ≠ gA ∧ x ≠ gB), s', ⟨E', L', GA', gn', gc', FA', fn', fc'⟩, fun hx => ?_, hwg, ?_, HR7.out.under HB8.out, HS7.out.below HB8.out⟩
            · rcases hx with h | h
              · exact hkg h.1
              · omega
            · exact (HD7.out.below HB8.out).less (fun x hx => by rcases hx with (h | h) | h | h; exact .inl (.inl h.1); exact .inr ⟨h.1, h.2.1⟩; exact .inl (.inr (.inl h)); exact .inl (.inr (.inr h)))
          case measure => simp [intOf]; omega
        · go_simp
          obtain ⟨vBA, hv⟩ : ∃ v, v = vB.alloc (.cells #[.int .i64 0, .int .i64 0, .slice none 0 0, .slice none 0 0] 30) := ⟨_, rfl⟩
          have hR : Rec 30 vBA vB.heap.size #[.int .i64 0, .int .i64 0, .slice none 0 0, .slice none 0 0] := by rw [hv]; exact Rec.new vB _ _
          have bV : Below vB.heap.size vB vBA := by rw [hv]; exact ((Below.refl _ _).alloc (Nat.le_refl _) _)
          have BVBA := Lib.hid (BVB.out.trans (bV.mono BVB.out.size))
          have sBA := SS.out _ BVBA.out
          have RBBA := Lib.hid (RBB.out.under bV)
          have neB : gB < vB.heap.size := RBB.out.lt
          obtain ⟨gA, hgA⟩ : ∃ g, g = vB.heap.size := ⟨_, rfl⟩
          have leA : w2.heap.size ≤ gA := by rw [hgA]; exact BVB.out.size
          rw [← hgA] at hR neB
          try rw [← hv]
          rw [← hgA]
          have RABA := Lib.hid hR
          have HN := Lib.hid neB
          have HLEA := Lib.hid leA
          clear hv hR bV hgA leA neB
          refine hK.out _ _ sBA (fun hHeld => ?_)
          clear hK K'
          try simp only [Act.put, List.setIfInBounds_toArray, List.set_cons_zero, List.set_cons_succ]
          refine wpAnyH_ready (rs := [5]) (by kernel_rfl) (by simp) ?_
          refine AllReadyH.cons (o := { dst := some 50, op := Op.call { callee := Callee.value (Operand.func 10), args := #[Operand.tmp 45, Operand.tmp 49], argTypes := #[30, 35] }, type := 36, pos := "law.go:53", after := #[{ on := 0, ground := Ground.data }, { on := 4, ground := Ground.data }], guard := none }) rfl (fun K' hK => ?_) AllReadyH.nil
          go_simp
          go_at_call 10; refine (CG.out _ BVBA.out).mono ?_; rintro e vBAP ⟨⟨E', L', GA', gn', gc', FA', fn', fc'⟩, rfl, hRP, hBP⟩
          have BVBAP := Lib.hid (BVBA.out.trans (hBP.mono BVBA.out.size))
          have sBAP := SS.out _ BVBAP.out
          have RBBAP := Lib.hid (RBBA.out.under hBP)
          have RABAP := Lib.hid (RABA.out.under hBP)
          have ltB := RBBA.out.lt
          have ltA := RABA.out.lt
          have hsW := BVBA.out.size
          have RSBAP := Lib.hid (hRP.mono (K' := fun x => (kr x ∧ x < w2.heap.size) ∨ (w2.heap.size ≤ x ∧ x < vBAP.heap.size ∧ x ≠ gB ∧ x ≠ gA)) (fun x hx => by rcases hx with h | h; exact .inl h; exact .inr ⟨by omega, h.2, by omega, by omega⟩))
          clear hRP hBP hsW ltB ltA
          simp only [Rv.v, idv]
          refine hK.out _ _ sBAP (fun hHeld => ?_)
          clear hK K'
          try simp only [Act.put, List.setIfInBounds_toArray, List.set_cons_zero, List.set_cons_succ]
          refine wpAnyH_take (i := 6) (oi := { dst := some 44, op := Op.move (Operand.tmp 50), type := 36, pos := "law.go:53", after := #[{ on := 5, ground := Ground.data }], guard := none }) (v := ?_) rfl (by kernel_rfl) (by kernel_rfl) (by kernel_rfl) (fun _ _ _ h => h) (Or.inl ⟨by rfl, ?_⟩) (by assumption) ?_
          rotate_left 1
          · intro w' hSw; (try dsimp only at hSw); go_simp; (try with_reducible rfl)
          simp only [Act.put, List.setIfInBounds_toArray, List.set_cons_zero, List.set_cons_succ]
          refine wpAnyH_take (i := 7) (oi := { dst := some 51, op := Op.extract (Operand.tmp 44) 0, type := 30, pos := "law.go:53", after := #[{ on := 6, ground := Ground.data }], guard := none }) (v := ?_) rfl (by kernel_rfl) (by kernel_rfl) (by kernel_rfl) (fun _ _ _ h => h) (Or.inl ⟨by rfl, ?_⟩) (by assumption) ?_
          rotate_left 1
          · intro w' hSw; (try dsimp only at hSw); go_simp; (try with_reducible rfl)
          simp only [Act.put, List.setIfInBounds_toArray, List.set_cons_zero, List.set_cons_succ]
          refine wpAnyH_take (i := 8) (oi := { dst := some 52, op := Op.extract (Operand.tmp 44) 1, type := 24, pos := "law.go:53", after := #[{ on := 6, ground := Ground.data }, { on := 12, ground := Ground.gcOnly Departure.lateStores }], guard := none }) (v := ?_) rfl (by kernel_rfl) (by kernel_rfl) (by kernel_rfl) (fun _ _ _ h => h) (Or.inl ⟨by rfl, ?_⟩) (by assumption) ?_
          rotate_left 1
          · intro w' hSw; (try dsimp only at hSw); go_simp; (try with_reducible rfl)
          simp only [Act.put, List.setIfInBounds_toArray, List.set_cons_zero, List.set_cons_succ]
          refine wpAnyH_take (i := 9) (oi := { dst := some 53, op := Op.extract (Operand.tmp 44) 2, type := 3, pos := "law.go:53", after := #[{ on := 6, ground := Ground.data }, { on := 13, ground := Ground.gcOnly Departure.lateStores }], guard := none }) (v := ?_) rfl (by kernel_rfl) (by kernel_rfl) (by kernel_rfl) (fun _ _ _ h => h) (Or.inl ⟨by rfl, ?_⟩) (by assumption) ?_
          rotate_left 1
          · intro w' hSw; (try dsimp only at hSw); go_simp; (try with_reducible rfl)
          simp only [Act.put, List.setIfInBounds_toArray, List.set_cons_zero, List.set_cons_succ]
          refine wpAnyH_ready (rs := [12]) (by kernel_rfl) (by simp) ?_
          refine AllReadyH.cons (o := { dst := none, op := Op.store 30 (Operand.tmp 14) (Operand.tmp 51), type := 0, pos := "law.go:53", after := #[{ on := 10, ground := Ground.data }, { on := 7, ground := Ground.data }, { on := 5, ground := Ground.chain }, { on := 0, ground := Ground.phase }, { on := 1, ground := Ground.phase }, { on := 2, ground := Ground.phase }, { on := 3, ground := Ground.phase }, { on := 4, ground := Ground.phase }, { on := 5, ground := Ground.phase }, { on := 6, ground := Ground.phase }, { on := 7, ground := Ground.phase }, { on := 8, ground := Ground.textOnly Departure.lateStores }, { on := 9, ground := Ground.textOnly Departure.lateStores }, { on := 10, ground := Ground.phase }, { on := 11, ground := Ground.phase }], guard := none }) rfl (fun K' hK => ?_) AllReadyH.nil
          refine step_stQ (E' := E') (L' := L') (GA' := GA') (gn' := gn') (gc' := gc') (FA' := FA') (fn' := fn') (fc' := fc') rfl (.tmp 14) (.tmp 51) rfl rfl rfl RABAP.out ?_
          intro vG hRG hFG
          have hne : gA ≠ gB := by have := HN.out; omega
          have BVG := Lib.hid (BVBAP.out.trans (hFG.toBelow (fun x hx => by rw [show x = gA from hx]; exact HLEA.out) BVBAP.out.size))
          have sG := SS.out _ BVG.out
          have RAG := Lib.hid hRG
          have RBG := Lib.hid (RBBAP.out.fr hFG (fun e => hne (show gB = gA from e).symm))
          have RSG := Lib.hid ((RSBAP.out.mono (K' := fun x => (kr x ∧ x < w2.heap.size) ∨ (w2.heap.size ≤ x ∧ x < vBAP.heap.size ∧ x ≠ gA ∧ x ≠ gB)) (fun x hx => by rcases hx with h | h; exact .inl h; exact .inr ⟨h.1, h.2.1, by omega, by omega⟩)).stays (w' := vG) ⟨hFG.size, fun x hx => hFG.block x (by have := BVBAP.out.size; rcases hx with h | h <;> omega) (fun e => by have e' : x = gA := e; have := HLEA.out; rcases hx with h | h <;> omega)⟩)
          have hsG := hFG.size
          clear hRG hFG hne
          refine hK.out _ _ sG (fun hHeld => ?_)
          clear hK K'
          try simp only [Act.put]
          refine wpAnyH_ready (rs := [13]) (by kernel_rfl) (by simp) ?_
          refine AllReadyH.cons (o := { dst := none, op := Op.store 24 (Operand.tmp 15) (Operand.tmp 52), type := 0, pos := "law.go:53", after := #[{ on := 11, ground := Ground.data }, { on := 8, ground := Ground.data }, { on := 12, ground := Ground.chain }, { on := 0, ground := Ground.phase }, { on := 1, ground := Ground.phase }, { on := 2, ground := Ground.phase }, { on := 3, ground := Ground.phase }, { on := 4, ground := Ground.phase }, { on := 5, ground := Ground.phase }, { on := 6, ground := Ground.phase }, { on := 7, ground := Ground.phase }, { on := 8, ground := Ground.phase }, { on := 9, ground := Ground.textOnly Departure.lateStores }, { on := 10, ground := Ground.phase }, { on := 11, ground := Ground.phase }, { on := 12, ground := Ground.phase }], guard := none }) rfl (fun K' hK => ?_) AllReadyH.nil
          refine step_stP (x1 := x1) (y1 := x2) rfl (.tmp 15) (.tmp 52) rfl rfl rfl RBG.out ?_
          intro wF hRF hFF
          have hne : gA ≠ gB := by have := HN.out; omega
          have BF := Lib.hid (BVG.out.trans (hFF.toBelow (fun x hx => by rw [show x = gB from hx]; exact HLEB.out) BVG.out.size))
          have sF := SS.out _ BF.out
          have RBF := Lib.hid hRF
          have RAF := Lib.hid (RAG.out.fr hFF (fun e => hne (show gA = gB from e)))
          have RSF := Lib.hid ((RSG.out.stays (w' := wF) ⟨hFF.size, fun x hx => hFF.block x (by have := BVG.out.size; rcases hx with h | h <;> omega) (fun e => by have e' : x = gB := e; have := HLEB.out; rcases hx with h | h <;> omega)⟩).mono (K' := fun x => (kr x ∧ x < w2.heap.size) ∨ (w2.heap.size ≤ x ∧ x < wF.heap.size ∧ x ≠ gA ∧ x ≠ gB)) (fun x hx => by have := hFF.size; rcases hx with h | h; exact .inl h; exact .inr ⟨h.1, by omega, h.2.2.1, h.2.2.2⟩))
          clear hRF hFF hne RAG RBG RSG BVG
          refine hK.out _ _ sF (fun hHeld => ?_)
          clear hK K'
          try simp only [Act.put]
          refine wpAnyH_take (i := 14) (oi := { dst := some 16, op := Op.assign (Operand.tmp 53), type := 3, pos := "law.go:53", after := #[{ on := 9, ground := Ground.data }, { on := 13, ground := Ground.chain }, { on := 0, ground := Ground.phase }, { on := 1, ground := Ground.phase }, { on := 2, ground := Ground.phase }, { on := 3, ground := Ground.phase }, { on := 4, ground := Ground.phase }, { on := 5, ground := Ground.phase }, { on := 6, ground := Ground.phase }, { on := 7, ground := Ground.phase }, { on := 8, ground := Ground.phase }, { on := 9, ground := Ground.phase }, { on := 10, ground := Ground.phase }, { on := 11, ground := Ground.phase }, { on := 12, ground := Ground.phase }, { on := 13, ground := Ground.phase }], guard := none }) (v := ?_) rfl (by kernel_rfl) (by kernel_rfl) (by kernel_rfl) (fun _ _ _ h => h) (Or.inl ⟨by rfl, ?_⟩) (by assumption) ?_
          rotate_left 1
          · intro w' hSw; (try dsimp only at hSw); go_simp; (try with_reducible rfl)
          simp only [Act.put, List.setIfInBounds_toArray, List.set_cons_zero, List.set_cons_succ]
          refine wpAnyH_done (by kernel_rfl) ?_ _
          refine NoPanic.normal ?_
          have RG0 := Lib.hid (HR2.out.under BF.out)
          go_wp2_with (first
            | (with_reducible refine wpList_ldQ rfl (.tmp 14) rfl rfl RAF.out ?_)
            | ((with_reducible refine wpList_stQ (E' := E') (L' := L') (GA' := GA') (gn' := gn') (gc' := gc') (FA' := FA') (fn' := fn') (fc' := fc') rfl (.tmp 10) (.tmp 54) rfl rfl rfl RG0.out ?_); intro w7 hR7 hF7; have HR7 := Lib.hid hR7; have HF7 := Lib.hid hF7; have HT7 := Lib.hid ((HT2.out.under BF.out).fr hF7 (fun e => by have e' : wd.heap.size = g := e; exact absurd e' HNE.out)); have HB7 := Lib.hid (RBF.out.fr hF7 (fun e => by have e' : gB = g := e; have := HLEB.out; omega)); have hD7 := ((HD2.out.below B2.out).more BF.out (fun x => w2.heap.size ≤ x ∧ x < wF.heap.size) (fun x hx => hx)).fr (g := g) (.inl (.inr (.inl rfl))) hwg HF7.out; have hS7 := RSF.out.stays (w' := w7) ⟨HF7.out.size, fun x hx => HF7.out.block x (by have := BF.out.size; rcases hx with h | h <;> omega) (fun e => by have e' : x = g := e; rcases hx with h | h; exact hkg (e' ▸ h.1); omega)⟩; have CS7 := Lib.hid (same_idv hD7 hS7 i gen); have HD7 := Lib.hid hD7; have HS7 := Lib.hid hS7; have hU7 := hD7.under; have hI7 := HI0.out.below hU7 HI0.out.lt; have HI7 := Lib.hid hI7; have r0 : w7.cell? ⟨g, 0, none⟩ = some (.int .i64 E') := HR7.out.at_ 0; have r1 : w7.cell? ⟨g, 1, none⟩ = some (.int .i64 L') := HR7.out.at_ 1; have r2 : w7.cell? ⟨g, 2, none⟩ = some (.slice GA' gn' gc') := HR7.out.at_ 2; have r3 : w7.cell? ⟨g, 3, none⟩ = some (.slice FA' fn' fc') := HR7.out.at_ 3; have i0 : w7.cell? ⟨w0.heap.size, 0, none⟩ = some (.int .i64 i) := hI7.at_ 0; have i1 : w7.cell? ⟨w0.heap.size, 1, none⟩ = some (.int .i64 gen) := hI7.at_ 1; clear hR7 hF7 hD7 hS7 hU7 hI7)
            | (with_reducible refine wpList_ldP rfl (.tmp 12) rfl rfl HT7.out ?_)
            | (with_reducible refine wpList_ldP rfl (.tmp 15) rfl rfl HB7.out ?_)
            | (go_at_call 11; refine CS7.out.mono ?_; rintro e w8 ⟨rfl, hB8⟩; have HB8 := Lib.hid hB8; clear hB8))
          go_roundw
          case rel =>
            refine ⟨j + 1, hlt, by go_num, fun x => (kr x ∧ x < w2.heap.size) ∨ (w2.heap.size ≤ x ∧ x < wF.heap.size ∧ x ≠ gA ∧ x ≠ gB), s', ⟨E', L', GA', gn', gc', FA', fn', fc'⟩, fun hx => ?_, hwg, ?_, HR7.out.under HB8.out, HS7.out.below HB8.out⟩
            · rcases hx with h | h
              · exact hkg h.1
              · omega
            · exact (HD7.out.below HB8.out).less (fun x hx => by rcases hx with (h | h) | h | h; exact .inl (.inl h.1); exact .inr ⟨h.1, h.2.1⟩; exact .inl (.inr (.inl h)); exact .inl (.inr (.inr h)))
          case measure => simp [intOf]; omega
    · obtain ⟨kr, s, ⟨E, L, GA, gn, gc, FA, fn, fc⟩, hkg, hwg, hD, hR, hRS⟩ := hI
      have CS := Lib.hid (same_idv hD hRS i gen)
      have hI7 := HI0.out.below hD.under HI0.out.lt
      have HI7 := Lib.hid hI7
      have HR7 := Lib.hid hR
      have HU := Lib.hid hD.under
      clear hD hRS hR hI7
      go_wp2_with (first
        | (with_reducible refine wpList_ldQ rfl (.tmp 10) rfl rfl HR7.out ?_)
        | (with_reducible refine wpList_ldP rfl (.tmp 7) rfl rfl HI7.out ?_)
        | (go_at_call 11; refine CS.out.mono ?_; rintro e w8 ⟨rfl, hB8⟩; have HB8 := Lib.hid hB8; clear hB8)
        | (go_at_call 6; refine (live_any _).mono ?_; rintro e w9 ⟨rfl, hB9⟩; have HB9 := Lib.hid hB9; clear hB9))
      go_ret
      have hU8 := HU.out.trans (HB8.out.mono HU.out.size)
      exact ⟨rfl, HB0.out.trans ((hU8.trans (HB9.out.mono hU8.size)).mono HB0.out.size)⟩
end Go.Proofs.Ytldabjgnnmoneaa
