/- The law ColumnSteps, walked. -/
import Derived.Test.YtlblbhndfclhnaaClV
import Derived.Test.YtlblbhndfclhnaaClO
import Derived.IntWalk
namespace Go.Proofs.Ytlblbhndfclhnaa
open Go.RowKit

/-- The reference's rows and what is got, together. -/
def RSt (K : Nat → Prop) (w : World) (A : Option Addr) (n : Nat) (ls : List (List UInt8)) (gA : Option Addr) (gn gc : Nat) (got : List UInt8) : Prop := RowsV K w A n ls ∧ VB K w (.slice gA gn gc) got
section
variable {K K' : Nat → Prop} {w w' : World} {A gA : Option Addr} {n gn gc : Nat} {ls : List (List UInt8)} {got : List UInt8}
theorem RSt.mono (h : RSt K w A n ls gA gn gc got) (hk : ∀ x, K x → K' x) : RSt K' w A n ls gA gn gc got := ⟨h.1.mono hk, h.2.mono hk⟩
theorem RSt.below (h : RSt K w A n ls gA gn gc got) (hb : Below w.heap.size w w') : RSt K w' A n ls gA gn gc got := ⟨h.1.below hb, h.2.below hb⟩
theorem RSt.stays (h : RSt K w A n ls gA gn gc got) (hs : WStays K w w') : RSt K w' A n ls gA gn gc got := ⟨h.1.stays hs, h.2.stays hs⟩
theorem RSt.rd (h : RSt K w A n ls gA gn gc got) : Rd w gA gn got := by
  obtain ⟨A, m, c, e, hr, _⟩ := h.2
  injection e with e1 e2 e3
  subst e1 e2
  exact hr
end

/-- What holds ahead of each step: the column at p, the reference's by value at block g. -/
def CStepI (w : World) (p g : Nat) (wr : World) : Prop :=
  ∃ (K : Nat → Prop) (s : Co) (A : Option Addr) (n c : Nat), ¬ K g ∧ (∀ x, x < w.heap.size → K x) ∧ w.heap.size ≤ g ∧ Clv w wr p (fun x => K x ∨ x = g) s ∧ Rec 29 wr g #[.int .i64 (s.sz : Nat), .slice A n c] ∧ RowsV K wr A n s.rows

set_option maxRecDepth 100000 in
set_option maxHeartbeats 4000000 in
theorem ColumnSteps_walk (size : Int) (A : Option Addr) (n c : Nat) (st : List Cst) (w : World)
    (h : CRd w A n st) (hn : (n : Int) ≤ 9223372036854775807) :
    Calls Try.prog 3 #[.int .i64 size, .slice A n c] w fun e w' => e = .returned (.bool true) ∧ Below w.heap.size w w' := by
  have CM := Lib.hid (CMuch_any w A n c st h hn)
  have HL := Lib.hid (live_any w)
  have H := Lib.hid h
  have CN := Lib.hid (New_clv size w)
  clear h
  go_enter Try.func3, Try.ntmps3
  go_wp2_with fail
  refine CM.out.mono ?_
  rintro e w' ⟨rfl, r, rfl, hsm⟩
  cases r
  case true =>
    go_wp2_with (go_at_call 6; refine HL.out.mono ?_; rintro e w1 ⟨rfl, hB1⟩)
    go_ret
    exact ⟨rfl, hB1⟩
  have hn60 := hsm rfl
  clear hsm CM
  go_wp2_with (first
    | (go_at_call 7; refine CN.out.mono ?_; rintro e w1 ⟨p, rfl, hD1⟩; have HD1 := Lib.hid hD1; clear hD1)
    | (go_at_call 8; refine (RNew_any size w1).mono ?_; rintro e w2 ⟨rfl, hB2⟩; have HD2 := Lib.hid (HD1.out.below hB2); clear hB2; simp only [cv]))
  obtain ⟨z0, hz0⟩ : ∃ z0, z0 = (Co.new size).sz := ⟨_, rfl⟩
  rw [← hz0]
  obtain ⟨w3, hw3⟩ : ∃ w3, w3 = w2.alloc (.cells #[.int .i64 (z0 : Nat), .slice none 0 0] 29) := ⟨_, rfl⟩
  have b3 : Below w2.heap.size w2 w3 := by rw [hw3]; exact (Below.refl _ _).alloc (Nat.le_refl _) _
  have hT3 : Rec 29 w3 w2.heap.size #[.int .i64 (z0 : Nat), .slice none 0 0] := by rw [hw3]; exact Rec.new _ _ _
  have hws : w.heap.size ≤ w2.heap.size := HD2.out.under.size
  have hS3 : CStepI w p w2.heap.size w3 := by
    refine ⟨fun x => x < w.heap.size, Co.new size, none, 0, 0, fun h => by omega, fun x hx => hx, hws, ?_, by rw [← hz0]; exact hT3, RowsV.nil _ _ _⟩
    exact (HD2.out.more b3 (fun x => x = w2.heap.size) (fun x hx => by rw [hx]; exact ⟨Nat.le_refl _, hT3.lt⟩)).less (fun x hx => hx)
  obtain ⟨g, hg⟩ : ∃ g, g = w2.heap.size := ⟨_, rfl⟩
  rw [← hg] at hS3
  have HI := Lib.hid hS3
  rw [← hw3, ← hg]
  clear hw3 hg b3 hT3 hS3 HD1 HD2 CN hz0 hws
  go_wp2_with fail
  go_loopw [7] (fun iv wr => ∃ j : Nat, j ≤ n ∧ iv = .int .i64 j ∧ CStepI w p g wr) (fun iv _ => n - (intOf iv).toNat)
  case atStart => exact ⟨0, Nat.zero_le _, rfl, HI.out⟩
  case round =>
    obtain ⟨j, hj, rfl, hI⟩ := hrel
    by_cases hlt : j < n
    · obtain ⟨K, s, rA, rn, rc, hKg, hKw, hwg, hD, hR, hRS⟩ := hI
      obtain ⟨b, o, hA, hbw, hc⟩ := H.out.2.1 (by omega)
      have hjl : j < st.length := by have := H.out.1; omega
      obtain ⟨q0, q1, q2⟩ := hc j hjl
      have hok := H.out.2.2 st[j] (List.getElem_mem hjl)
      obtain ⟨y, hy⟩ : ∃ y, y = st[j] := ⟨_, rfl⟩
      rw [← hy] at q0 q1 q2 hok
      obtain ⟨s', got, cd, hgo⟩ : ∃ s' got cd, s.go y.d y.a y.b = (s', got, cd) := ⟨_, _, _, rfl⟩
      have ok := hD.ok
      have ok' : s'.Ok := by have := ok.go y.d y.a y.b; rw [hgo] at this; exact this
      have k0 := (hD.under.cell (p := ⟨b, o + j * 3, none⟩) hbw).trans q0
      have k1 := (hD.under.cell (p := ⟨b, o + j * 3 + 1, none⟩) hbw).trans q1
      have k2 := (hD.under.cell (p := ⟨b, o + j * 3 + 2, none⟩) hbw).trans q2
      have hyr := hok.rb.below (Nat.le_refl _) hD.under
      have hyK : ∀ q o, y.bA = some ⟨q, o, none⟩ → 0 < y.bn → K q := fun q o e hp => hKw q (by
        obtain ⟨q', o', e', hlt, _⟩ := hok.rb.2 hp
        rw [e] at e'
        injection e' with e'
        injection e' with e1 _
        omega)
      have hdo := do_clv hD y hyr
      rw [hgo] at hdo
      have CG0 : ∀ W, RowsV K W rA rn s.rows → Rd W y.bA y.bn y.b → (∀ x, x < w.heap.size → x < W.heap.size) → ∀ V, Below W.heap.size W V → Calls Try.prog 10 #[cv s.sz rA rn rc, y.val] V (CRes (fun x => K x ∧ x < W.heap.size) V s' got cd) := fun W hW hr hlt V hV => by
        have := RGo_any (c := rc) (hW.lt.below hV) ok y (hr.below (Nat.le_refl _) hV) (fun q o e hp => ⟨hyK q o e hp, by
          obtain ⟨q', o', e', hlt', _⟩ := hr.2 hp
          rw [e] at e'
          injection e' with e'
          injection e' with e1 _
          omega⟩)
        rw [hgo] at this
        exact this
      have HDO := Lib.hid hdo
      have CG1 := Lib.hid CG0
      have OK' := Lib.hid ok'
      have HR0 := Lib.hid hR
      have HRS0 := Lib.hid hRS
      have HYR := Lib.hid hok.rb
      have HQ := Lib.hid (And.intro q0 (And.intro q1 q2))
      have HKg := Lib.hid hKg
      have HKw := Lib.hid hKw
      obtain ⟨yd, ya, yA, yn, yc, yb⟩ := y
      simp only at k0 k1 k2
      clear hc hdo hD hy hgo ok ok' CG0 hR hRS q0 q1 q2 hok hyr hyK hKg hKw
      subst hA
      simp only [Cst.val, cv] at HDO CG1
      go_wp2_with (go_at_call 9; refine HDO.out.mono ?_; rintro e w2 ⟨A1, n1, c1, rfl, hf1, hr1, hD2, hS2⟩; have HD2 := Lib.hid hD2; have HS2 := Lib.hid hS2; have HF1 := Lib.hid hf1; have HR1 := Lib.hid hr1; clear hD2 hS2 hf1 hr1)
      have hR2 : Rec 29 w2 g #[.int .i64 (s.sz : Nat), .slice rA rn rc] := HR0.out.block (HS2.out.2 g (.inr rfl))
      have hRS2 : RowsV K w2 rA rn s.rows := HRS0.out.stays (HS2.out.less (fun x hx => .inl hx))
      have hU2 : Below w.heap.size w w2 := HD2.out.under
      have CG := Lib.hid (CG1.out w2 hRS2 (HYR.out.below (Nat.le_refl _) hU2) (fun x hx => Nat.lt_of_lt_of_le hx hU2.size))
      have bd : Below w2.heap.size w2 w2.drew := (Below.refl _ _).drew
      have SS : ∀ W, Below w2.heap.size w2 W → ((W.cell? ⟨g, 0, none⟩ = some (.int .i64 (s.sz : Nat)) ∧ W.cell? ⟨g, 1, none⟩ = some (.slice rA rn rc)) ∧ W.cell? ⟨b, o + j * 3, none⟩ = some (.int .i64 yd) ∧ W.cell? ⟨b, o + j * 3 + 1, none⟩ = some (.int .i64 ya) ∧ W.cell? ⟨b, o + j * 3 + 2, none⟩ = some (.slice yA yn yc)) := fun W hW => by
        have x := hR2.under hW
        have hU := hU2.trans (hW.mono hU2.size)
        exact ⟨⟨x.at_ 0, x.at_ 1⟩, (hU.cell (p := ⟨b, o + j * 3, none⟩) hbw).trans HQ.out.1, (hU.cell (p := ⟨b, o + j * 3 + 1, none⟩) hbw).trans HQ.out.2.1, (hU.cell (p := ⟨b, o + j * 3 + 2, none⟩) hbw).trans HQ.out.2.2⟩
      have SS := Lib.hid SS
      have s0d := SS.out _ bd
      have HR2 := Lib.hid hR2
      have HU2 := Lib.hid hU2
      have hglt : g < w2.heap.size := hR2.lt
      clear hR2 hRS2 hU2 k0 k1 k2 CG1 HDO
-- REGION
      refine wp_region_noPanic ?_
      refine wp_region_held_drew (S := fun W => (W.cell? ⟨g, 0, none⟩ = some (.int .i64 (s.sz : Nat)) ∧ W.cell? ⟨g, 1, none⟩ = some (.slice rA rn rc)) ∧ W.cell? ⟨b, o + j * 3, none⟩ = some (.int .i64 yd) ∧ W.cell? ⟨b, o + j * 3 + 1, none⟩ = some (.int .i64 ya) ∧ W.cell? ⟨b, o + j * 3 + 2, none⟩ = some (.slice yA yn yc)) (by kernel_rfl) s0d (fun hHeld => ?_)
      refine wpAnyH_take (i := 0) (oi := { dst := some 38, op := Op.load 29 (Operand.tmp 6), type := 29, pos := "law.go:49", after := #[], guard := none }) (v := ?_) rfl (by kernel_rfl) (by kernel_rfl) (by kernel_rfl) (fun _ _ _ h => h) (Or.inl ⟨by rfl, ?_⟩) (by assumption) ?_
      rotate_left 1
      · intro w' hSw; (try dsimp only at hSw); go_simp; (try with_reducible rfl)
      simp only [Act.put, List.setIfInBounds_toArray, List.set_cons_zero, List.set_cons_succ]
      refine wpAnyH_take (i := 1) (oi := { dst := some 39, op := Op.move (Operand.tmp 1), type := 22, pos := "law.go:49", after := #[], guard := none }) (v := ?_) rfl (by kernel_rfl) (by kernel_rfl) (by kernel_rfl) (fun _ _ _ h => h) (Or.inl ⟨by rfl, ?_⟩) (by assumption) ?_
      rotate_left 1
      · intro w' hSw; (try dsimp only at hSw); go_simp; (try with_reducible rfl)
      simp only [Act.put, List.setIfInBounds_toArray, List.set_cons_zero, List.set_cons_succ]
      refine wpAnyH_take (i := 2) (oi := { dst := some 40, op := Op.move (Operand.tmp 7), type := 3, pos := "law.go:49", after := #[], guard := none }) (v := ?_) rfl (by kernel_rfl) (by kernel_rfl) (by kernel_rfl) (fun _ _ _ h => h) (Or.inl ⟨by rfl, ?_⟩) (by assumption) ?_
      rotate_left 1
      · intro w' hSw; (try dsimp only at hSw); go_simp; (try with_reducible rfl)
      simp only [Act.put, List.setIfInBounds_toArray, List.set_cons_zero, List.set_cons_succ]
      refine wpAnyH_take (i := 3) (oi := { dst := some 41, op := Op.indexAddr 22 (Operand.tmp 39) (Operand.tmp 40), type := 0, pos := "law.go:49", after := #[{ on := 1, ground := Ground.data }, { on := 2, ground := Ground.data }], guard := none }) (v := ?_) rfl (by kernel_rfl) (by kernel_rfl) (by kernel_rfl) (fun _ _ _ h => h) (Or.inl ⟨by rfl, ?_⟩) (by assumption) ?_
      rotate_left 1
      · intro w' hSw; (try dsimp only at hSw); go_simp; (try with_reducible rfl)
      simp only [Act.put, List.setIfInBounds_toArray, List.set_cons_zero, List.set_cons_succ]
      refine wpAnyH_take (i := 4) (oi := { dst := some 42, op := Op.load 35 (Operand.tmp 41), type := 35, pos := "law.go:49", after := #[{ on := 3, ground := Ground.data }], guard := none }) (v := ?_) rfl (by kernel_rfl) (by kernel_rfl) (by kernel_rfl) (fun _ _ _ h => h) (Or.inl ⟨by rfl, ?_⟩) (by assumption) ?_
      rotate_left 1
      · intro w' hSw; (try dsimp only at hSw); go_simp; (try with_reducible rfl)
      simp only [Act.put, List.setIfInBounds_toArray, List.set_cons_zero, List.set_cons_succ]
      refine wpAnyH_ready (rs := [5, 10]) (by kernel_rfl) (by simp) ?_
      refine AllReadyH.cons (o := { dst := some 43, op := Op.call { callee := Callee.value (Operand.func 10), args := #[Operand.tmp 38, Operand.tmp 42], argTypes := #[29, 35] }, type := 36, pos := "law.go:49", after := #[{ on := 0, ground := Ground.data }, { on := 4, ground := Ground.data }], guard := none }) rfl (fun K' hK => ?_) (AllReadyH.cons (o := { dst := some 10, op := Op.alloc 29, type := 0, pos := "law.go:49", after := #[], guard := none }) rfl (fun K' hK => ?_) AllReadyH.nil)
      · go_simp
        go_at_call 10; refine (CG.out _ bd).mono ?_; rintro e vP ⟨qA, qn, qc, uA, un, uc, rfl, hRP, hVP, hBP⟩
        have BVP := Lib.hid (bd.trans (hBP.mono bd.size))
        have sP := SS.out _ BVP.out
        have hsW := bd.size
        have RSP : Hid (RSt (fun x => (K x ∧ x < w2.heap.size) ∨ (w2.heap.size ≤ x ∧ x < vP.heap.size)) vP qA qn s'.rows uA un uc got) := Lib.hid (RSt.mono ⟨hRP, hVP⟩ (fun x hx => by rcases hx with h | h; exact .inl h; exact .inr ⟨by omega, h.2⟩))
        clear hRP hVP hBP hsW
        simp only [cv]
        refine hK.out _ _ sP (fun hHeld => ?_)
        clear hK K'
        try simp only [Act.put, List.setIfInBounds_toArray, List.set_cons_zero, List.set_cons_succ]
        refine wpAnyH_take (i := 6) (oi := { dst := some 37, op := Op.move (Operand.tmp 43), type := 36, pos := "law.go:49", after := #[{ on := 5, ground := Ground.data }], guard := none }) (v := ?_) rfl (by kernel_rfl) (by kernel_rfl) (by kernel_rfl) (fun _ _ _ h => h) (Or.inl ⟨by rfl, ?_⟩) (by assumption) ?_
        rotate_left 1
        · intro w' hSw; (try dsimp only at hSw); go_simp; (try with_reducible rfl)
        simp only [Act.put, List.setIfInBounds_toArray, List.set_cons_zero, List.set_cons_succ]
        refine wpAnyH_take (i := 7) (oi := { dst := some 44, op := Op.extract (Operand.tmp 37) 0, type := 29, pos := "law.go:49", after := #[{ on := 6, ground := Ground.data }], guard := none }) (v := ?_) rfl (by kernel_rfl) (by kernel_rfl) (by kernel_rfl) (fun _ _ _ h => h) (Or.inl ⟨by rfl, ?_⟩) (by assumption) ?_
        rotate_left 1
        · intro w' hSw; (try dsimp only at hSw); go_simp; (try with_reducible rfl)
        simp only [Act.put, List.setIfInBounds_toArray, List.set_cons_zero, List.set_cons_succ]
        refine wpAnyH_take (i := 8) (oi := { dst := some 45, op := Op.extract (Operand.tmp 37) 1, type := 31, pos := "law.go:49", after := #[{ on := 6, ground := Ground.data }, { on := 11, ground := Ground.gcOnly Departure.lateStores }], guard := none }) (v := ?_) rfl (by kernel_rfl) (by kernel_rfl) (by kernel_rfl) (fun _ _ _ h => h) (Or.inl ⟨by rfl, ?_⟩) (by assumption) ?_
        rotate_left 1
        · intro w' hSw; (try dsimp only at hSw); go_simp; (try with_reducible rfl)
        simp only [Act.put, List.setIfInBounds_toArray, List.set_cons_zero, List.set_cons_succ]
        refine wpAnyH_take (i := 9) (oi := { dst := some 46, op := Op.extract (Operand.tmp 37) 2, type := 3, pos := "law.go:49", after := #[{ on := 6, ground := Ground.data }, { on := 12, ground := Ground.gcOnly Departure.lateStores }], guard := none }) (v := ?_) rfl (by kernel_rfl) (by kernel_rfl) (by kernel_rfl) (fun _ _ _ h => h) (Or.inl ⟨by rfl, ?_⟩) (by assumption) ?_
        rotate_left 1
        · intro w' hSw; (try dsimp only at hSw); go_simp; (try with_reducible rfl)
        simp only [Act.put, List.setIfInBounds_toArray, List.set_cons_zero, List.set_cons_succ]
        refine wpAnyH_ready (rs := [10]) (by kernel_rfl) (by simp) ?_
        refine AllReadyH.cons (o := { dst := some 10, op := Op.alloc 29, type := 0, pos := "law.go:49", after := #[], guard := none }) rfl (fun K' hK => ?_) AllReadyH.nil
        go_simp
        obtain ⟨vPA, hv⟩ : ∃ v, v = vP.alloc (.cells #[.int .i64 0, .slice none 0 0] 29) := ⟨_, rfl⟩
        have hR : Rec 29 vPA vP.heap.size #[.int .i64 0, .slice none 0 0] := by rw [hv]; exact Rec.new vP _ _
        have bV : Below vP.heap.size vP vPA := by rw [hv]; exact ((Below.refl _ _).alloc (Nat.le_refl _) _)
        have BVPA := Lib.hid (BVP.out.trans (bV.mono BVP.out.size))
        have sPA := SS.out _ BVPA.out
        have RSPA := Lib.hid ((RSP.out.below bV).mono (K' := fun x => (K x ∧ x < w2.heap.size) ∨ (w2.heap.size ≤ x ∧ x < vPA.heap.size ∧ x ≠ vP.heap.size)) (fun x hx => by have := bV.size; rcases hx with h | h; exact .inl h; exact .inr ⟨h.1, by omega, by omega⟩))
        obtain ⟨gA, hgA⟩ : ∃ g, g = vP.heap.size := ⟨_, rfl⟩
        have leA : w2.heap.size ≤ gA := by rw [hgA]; exact BVP.out.size
        rw [← hgA] at hR RSPA
        try rw [← hv]
        rw [← hgA]
        have RAPA := Lib.hid hR
        have HLEA := Lib.hid leA
        clear hv hR bV hgA leA
        refine hK.out _ _ sPA (fun hHeld => ?_)
        clear hK K'
        try simp only [Act.put, List.setIfInBounds_toArray, List.set_cons_zero, List.set_cons_succ]
        refine wpAnyH_ready (rs := [11]) (by kernel_rfl) (by simp) ?_
        refine AllReadyH.cons (o := { dst := none, op := Op.store 29 (Operand.tmp 10) (Operand.tmp 44), type := 0, pos := "law.go:49", after := #[{ on := 10, ground := Ground.data }, { on := 7, ground := Ground.data }, { on := 5, ground := Ground.chain }, { on := 0, ground := Ground.phase }, { on := 1, ground := Ground.phase }, { on := 2, ground := Ground.phase }, { on := 3, ground := Ground.phase }, { on := 4, ground := Ground.phase }, { on := 5, ground := Ground.phase }, { on := 6, ground := Ground.phase }, { on := 7, ground := Ground.phase }, { on := 8, ground := Ground.textOnly Departure.lateStores }, { on := 9, ground := Ground.textOnly Departure.lateStores }, { on := 10, ground := Ground.phase }], guard := none }) rfl (fun K' hK => ?_) AllReadyH.nil
        refine step_stC (z' := s'.sz) (A' := qA) (n' := qn) (c' := qc) rfl (.tmp 10) (.tmp 44) rfl rfl rfl RAPA.out ?_
        intro vG hRG hFG
        have BVG := Lib.hid (BVPA.out.trans (hFG.toBelow (fun x hx => by rw [show x = gA from hx]; exact HLEA.out) BVPA.out.size))
        have sG := SS.out _ BVG.out
        have RAG := Lib.hid hRG
        have hsG := hFG.size
        have RSG := Lib.hid ((RSPA.out.stays (w' := vG) ⟨hFG.size, fun x hx => hFG.block x (by have := BVPA.out.size; rcases hx with h | h <;> omega) (fun e => by have e' : x = gA := e; have := HLEA.out; rcases hx with h | h <;> omega)⟩).mono (K' := fun x => (K x ∧ x < w2.heap.size) ∨ (w2.heap.size ≤ x ∧ x < vG.heap.size ∧ x ≠ gA)) (fun x hx => by rcases hx with h | h; exact .inl h; exact .inr ⟨h.1, by omega, by omega⟩))
        clear hRG hFG hsG
        refine hK.out _ _ sG (fun hHeld => ?_)
        clear hK K'
        try simp only [Act.put]
        refine wpAnyH_take (i := 12) (oi := { dst := some 11, op := Op.assign (Operand.tmp 45), type := 31, pos := "law.go:49", after := #[{ on := 8, ground := Ground.data }, { on := 11, ground := Ground.chain }, { on := 0, ground := Ground.phase }, { on := 1, ground := Ground.phase }, { on := 2, ground := Ground.phase }, { on := 3, ground := Ground.phase }, { on := 4, ground := Ground.phase }, { on := 5, ground := Ground.phase }, { on := 6, ground := Ground.phase }, { on := 7, ground := Ground.phase }, { on := 8, ground := Ground.phase }, { on := 9, ground := Ground.textOnly Departure.lateStores }, { on := 10, ground := Ground.phase }, { on := 11, ground := Ground.phase }], guard := none }) (v := ?_) rfl (by kernel_rfl) (by kernel_rfl) (by kernel_rfl) (fun _ _ _ h => h) (Or.inl ⟨by rfl, ?_⟩) (by assumption) ?_
        rotate_left 1
        · intro w' hSw; (try dsimp only at hSw); go_simp; (try with_reducible rfl)
        simp only [Act.put, List.setIfInBounds_toArray, List.set_cons_zero, List.set_cons_succ]
        refine wpAnyH_take (i := 13) (oi := { dst := some 12, op := Op.assign (Operand.tmp 46), type := 3, pos := "law.go:49", after := #[{ on := 9, ground := Ground.data }, { on := 12, ground := Ground.chain }, { on := 0, ground := Ground.phase }, { on := 1, ground := Ground.phase }, { on := 2, ground := Ground.phase }, { on := 3, ground := Ground.phase }, { on := 4, ground := Ground.phase }, { on := 5, ground := Ground.phase }, { on := 6, ground := Ground.phase }, { on := 7, ground := Ground.phase }, { on := 8, ground := Ground.phase }, { on := 9, ground := Ground.phase }, { on := 10, ground := Ground.phase }, { on := 11, ground := Ground.phase }, { on := 12, ground := Ground.phase }], guard := none }) (v := ?_) rfl (by kernel_rfl) (by kernel_rfl) (by kernel_rfl) (fun _ _ _ h => h) (Or.inl ⟨by rfl, ?_⟩) (by assumption) ?_
        rotate_left 1
        · intro w' hSw; (try dsimp only at hSw); go_simp; (try with_reducible rfl)
        simp only [Act.put, List.setIfInBounds_toArray, List.set_cons_zero, List.set_cons_succ]
        refine wpAnyH_done (by kernel_rfl) ?_ _
        refine NoPanic.normal ?_
        have RG0 := Lib.hid (HR2.out.under BVG.out)
        go_wp2_with (first
          | (with_reducible refine wpList_ldC rfl (.tmp 10) rfl rfl RAG.out ?_)
          | (with_reducible refine wpList_stC (z' := s'.sz) (A' := qA) (n' := qn) (c' := qc) rfl (.tmp 6) (.tmp 47) rfl rfl rfl RG0.out ?_; intro w7 hR7 hF7))
        obtain ⟨K2, hK2⟩ : ∃ K2 : Nat → Prop, K2 = fun x => (K x ∧ x < w2.heap.size) ∨ (w2.heap.size ≤ x ∧ x < vG.heap.size ∧ x ≠ gA) := ⟨_, rfl⟩
        have hgw : g < wr.heap.size := HR0.out.lt
        have hK2x : ∀ x, K2 x → x < vG.heap.size ∧ x ≠ g := fun x hx => by
          rw [hK2] at hx
          have := BVG.out.size
          rcases hx with h | h
          · exact ⟨by omega, fun e => HKg.out (e ▸ h.1)⟩
          · exact ⟨h.2.1, by omega⟩
        have hRS7 : RSt K2 w7 qA qn s'.rows uA un uc got := by
          have := RSG.out
          rw [← hK2] at this
          exact this.stays ⟨hF7.size, fun x hx => hF7.block x (hK2x x hx).1 (hK2x x hx).2⟩
        have hr1 : Rd w7 A1 n1 got := (HR1.out.below (Nat.le_refl _) BVG.out).fr hF7 (fun q o e _ hq => by have := HF1.out q o e; have e' : q = g := hq; omega)
        have hD7 : Clv w w7 p (fun x => K2 x ∨ x = g) s' := by
          have h1 := HD2.out.more BVG.out (fun x => w2.heap.size ≤ x ∧ x < vG.heap.size) (fun x hx => hx)
          refine (h1.fr (.inl (.inr rfl)) hwg hF7).less (fun x hx => ?_)
          rcases hx with hx | hx
          · rw [hK2] at hx
            rcases hx with h | h
            · exact .inl (.inl h.1)
            · exact .inr ⟨h.1, h.2.1⟩
          · exact .inl (.inr hx)
        have hqn : s'.rows.length = qn := by obtain ⟨⟨_, h1, _⟩, _⟩ := hRS7; exact h1
        subst hqn
        have hKw2 : ∀ x, x < w.heap.size → K2 x := fun x hx => by
          rw [hK2]
          exact .inl ⟨HKw.out x hx, Nat.lt_of_lt_of_le hx HU2.out.size⟩
        have hKg2 : ¬ K2 g := fun hx => (hK2x g hx).2 rfl
        have bd7 : Below w7.heap.size w7 w7.drew := (Below.refl _ _).drew
        have hD7d := hD7.below bd7
        have hok7 := hD7.ok
        have CS1 := Lib.hid (Same_yes A1 uA n1 c1 un uc got w7.drew (hr1.below (Nat.le_refl _) bd7) (hRS7.rd.below (Nat.le_refl _) bd7))
        have CLE := Lib.hid (Len_clv hD7d)
        have CSZ := Lib.hid (Size_clv hD7d)
        have CBY := Lib.hid (Bytes_clv hD7d)
        have CRB0 : ∀ V, Below w7.heap.size w7 V → Calls Try.prog 15 #[.agg #[.int .i64 (s'.sz : Nat), .slice qA s'.rows.length qc]] V fun e w' => ∃ v m, e = .returned v ∧ w'.ownsRow V.heap.size 5 1 v m (cells s'.bytes) ∧ Below V.heap.size V w' := fun V hV =>
          RBytes_any K2 s'.sz qA s'.rows.length qc s'.rows V (hRS7.1.below hV) hok7.each hok7.z hok7.n
        have CRB := Lib.hid CRB0
        have SS7 : ∀ W, Below w7.heap.size w7 W → W.cell? ⟨g, 0, none⟩ = some (.int .i64 (s'.sz : Nat)) ∧ W.cell? ⟨g, 1, none⟩ = some (.slice qA s'.rows.length qc) := fun W hW => ⟨(hR7.under hW).at_ 0, (hR7.under hW).at_ 1⟩
        have SS7 := Lib.hid SS7
        have s7 := SS7.out w7 (Below.refl _ _)
        have s7d := SS7.out w7.drew bd7
        have HD7 := Lib.hid hD7
        have HR7 := Lib.hid hR7
        have HRS7 := Lib.hid hRS7
        have HKw2 := Lib.hid hKw2
        have HKg2 := Lib.hid hKg2
        have BD7 := Lib.hid bd7
        clear hK2 hK2x hRS7 hr1 hD7 hD7d hok7 CRB0 hR7 hKw2 hKg2 bd7 hF7 sG s0d RSG RAG RG0 SS CG
        go_region_held3 (fun W => W.cell? ⟨g, 0, none⟩ = some (.int .i64 (s'.sz : Nat)) ∧ W.cell? ⟨g, 1, none⟩ = some (.slice qA s'.rows.length qc)) (first
            | with_reducible exact s7d
            | with_reducible exact s8
            | with_reducible exact s9) (first
          | (go_at_call 11; refine CS1.out.mono ?_; rintro e w' ⟨rfl, rfl⟩)
          | (go_at_call 12; refine CLE.out.mono ?_; rintro e w' ⟨rfl, rfl⟩)
          | (go_at_call 13; refine CSZ.out.mono ?_; rintro e w' ⟨rfl, rfl⟩)
          | (go_at_call 14; refine CBY.out.mono ?_; rintro e w8 ⟨g8, n8, rfl, hg8, hn8, hO8, hB8⟩; have b8 := BD7.out.trans (hB8.mono BD7.out.size); have s8 := SS7.out w8 b8; have HB8 := Lib.hid b8; have HO8 := Lib.hid (Rd.of_own' hO8); clear hO8 hB8 b8 hg8 hn8)
          | (go_at_call 15; refine (CRB.out w8 HB8.out).mono ?_; rintro e w9 ⟨v9, m9, rfl, hO9, hB9⟩; obtain ⟨A9, c9, rfl, _, _, _, _⟩ := own_opens hO9; have b9 := HB8.out.trans (hB9.mono HB8.out.size); have s9 := SS7.out w9 b9; have CS9 := Lib.hid (Same_yes _ _ n8 n8 m9 c9 _ w9 (HO8.out.below (Nat.le_refl _) hB9) (Rd.of_own' hO9)); have HB9 := Lib.hid b9; clear hO9 hB9 b9)
          | (go_at_call 11; refine CS9.out.mono ?_; rintro e w' ⟨rfl, rfl⟩))
        go_wp2_with fail
        go_roundw
        case rel => exact ⟨j + 1, hlt, by go_num, K2, s', qA, s'.rows.length, qc, HKg2.out, HKw2.out, hwg, HD7.out.below HB9.out, HR7.out.under HB9.out, HRS7.out.1.below HB9.out⟩
        case measure => simp [intOf]; omega
      · go_simp
        obtain ⟨vA, hv⟩ : ∃ v, v = (w2.alloc (.cells #[.int .i64 0, .slice none 0 0] 29)).drew := ⟨_, rfl⟩
        have hR : Rec 29 vA w2.heap.size #[.int .i64 0, .slice none 0 0] := by rw [hv]; exact Rec.new w2 _ _
        have bV : Below w2.heap.size w2 vA := by rw [hv]; exact ((Below.refl _ _).alloc (Nat.le_refl _) _).drew
        have BVA := Lib.hid (bV)
        have sA := SS.out _ BVA.out
        obtain ⟨gA, hgA⟩ : ∃ g, g = w2.heap.size := ⟨_, rfl⟩
        have leA : w2.heap.size ≤ gA := by rw [hgA]; exact Nat.le_refl _
        rw [← hgA] at hR
        try rw [← hv]
        rw [← hgA]
        have RAA := Lib.hid hR
        have HLEA := Lib.hid leA
        clear hv hR bV hgA leA
        refine hK.out _ _ sA (fun hHeld => ?_)
        clear hK K'
        try simp only [Act.put, List.setIfInBounds_toArray, List.set_cons_zero, List.set_cons_succ]
        refine wpAnyH_ready (rs := [5]) (by kernel_rfl) (by simp) ?_
        refine AllReadyH.cons (o := { dst := some 43, op := Op.call { callee := Callee.value (Operand.func 10), args := #[Operand.tmp 38, Operand.tmp 42], argTypes := #[29, 35] }, type := 36, pos := "law.go:49", after := #[{ on := 0, ground := Ground.data }, { on := 4, ground := Ground.data }], guard := none }) rfl (fun K' hK => ?_) AllReadyH.nil
        go_simp
        go_at_call 10; refine (CG.out _ BVA.out).mono ?_; rintro e vAP ⟨qA, qn, qc, uA, un, uc, rfl, hRP, hVP, hBP⟩
        have BVAP := Lib.hid (BVA.out.trans (hBP.mono BVA.out.size))
        have sAP := SS.out _ BVAP.out
        have RAAP := Lib.hid (RAA.out.under hBP)
        have ltA := RAA.out.lt
        have hsW := BVA.out.size
        have RSAP : Hid (RSt (fun x => (K x ∧ x < w2.heap.size) ∨ (w2.heap.size ≤ x ∧ x < vAP.heap.size ∧ x ≠ gA)) vAP qA qn s'.rows uA un uc got) := Lib.hid (RSt.mono ⟨hRP, hVP⟩ (fun x hx => by rcases hx with h | h; exact .inl h; exact .inr ⟨by omega, h.2, by omega⟩))
        clear hRP hVP hBP hsW ltA
        simp only [cv]
        refine hK.out _ _ sAP (fun hHeld => ?_)
        clear hK K'
        try simp only [Act.put, List.setIfInBounds_toArray, List.set_cons_zero, List.set_cons_succ]
        refine wpAnyH_take (i := 6) (oi := { dst := some 37, op := Op.move (Operand.tmp 43), type := 36, pos := "law.go:49", after := #[{ on := 5, ground := Ground.data }], guard := none }) (v := ?_) rfl (by kernel_rfl) (by kernel_rfl) (by kernel_rfl) (fun _ _ _ h => h) (Or.inl ⟨by rfl, ?_⟩) (by assumption) ?_
        rotate_left 1
        · intro w' hSw; (try dsimp only at hSw); go_simp; (try with_reducible rfl)
        simp only [Act.put, List.setIfInBounds_toArray, List.set_cons_zero, List.set_cons_succ]
        refine wpAnyH_take (i := 7) (oi := { dst := some 44, op := Op.extract (Operand.tmp 37) 0, type := 29, pos := "law.go:49", after := #[{ on := 6, ground := Ground.data }], guard := none }) (v := ?_) rfl (by kernel_rfl) (by kernel_rfl) (by kernel_rfl) (fun _ _ _ h => h) (Or.inl ⟨by rfl, ?_⟩) (by assumption) ?_
        rotate_left 1
        · intro w' hSw; (try dsimp only at hSw); go_simp; (try with_reducible rfl)
        simp only [Act.put, List.setIfInBounds_toArray, List.set_cons_zero, List.set_cons_succ]
        refine wpAnyH_take (i := 8) (oi := { dst := some 45, op := Op.extract (Operand.tmp 37) 1, type := 31, pos := "law.go:49", after := #[{ on := 6, ground := Ground.data }, { on := 11, ground := Ground.gcOnly Departure.lateStores }], guard := none }) (v := ?_) rfl (by kernel_rfl) (by kernel_rfl) (by kernel_rfl) (fun _ _ _ h => h) (Or.inl ⟨by rfl, ?_⟩) (by assumption) ?_
        rotate_left 1
        · intro w' hSw; (try dsimp only at hSw); go_simp; (try with_reducible rfl)
        simp only [Act.put, List.setIfInBounds_toArray, List.set_cons_zero, List.set_cons_succ]
        refine wpAnyH_take (i := 9) (oi := { dst := some 46, op := Op.extract (Operand.tmp 37) 2, type := 3, pos := "law.go:49", after := #[{ on := 6, ground := Ground.data }, { on := 12, ground := Ground.gcOnly Departure.lateStores }], guard := none }) (v := ?_) rfl (by kernel_rfl) (by kernel_rfl) (by kernel_rfl) (fun _ _ _ h => h) (Or.inl ⟨by rfl, ?_⟩) (by assumption) ?_
        rotate_left 1
        · intro w' hSw; (try dsimp only at hSw); go_simp; (try with_reducible rfl)
        simp only [Act.put, List.setIfInBounds_toArray, List.set_cons_zero, List.set_cons_succ]
        refine wpAnyH_ready (rs := [11]) (by kernel_rfl) (by simp) ?_
        refine AllReadyH.cons (o := { dst := none, op := Op.store 29 (Operand.tmp 10) (Operand.tmp 44), type := 0, pos := "law.go:49", after := #[{ on := 10, ground := Ground.data }, { on := 7, ground := Ground.data }, { on := 5, ground := Ground.chain }, { on := 0, ground := Ground.phase }, { on := 1, ground := Ground.phase }, { on := 2, ground := Ground.phase }, { on := 3, ground := Ground.phase }, { on := 4, ground := Ground.phase }, { on := 5, ground := Ground.phase }, { on := 6, ground := Ground.phase }, { on := 7, ground := Ground.phase }, { on := 8, ground := Ground.textOnly Departure.lateStores }, { on := 9, ground := Ground.textOnly Departure.lateStores }, { on := 10, ground := Ground.phase }], guard := none }) rfl (fun K' hK => ?_) AllReadyH.nil
        refine step_stC (z' := s'.sz) (A' := qA) (n' := qn) (c' := qc) rfl (.tmp 10) (.tmp 44) rfl rfl rfl RAAP.out ?_
        intro vG hRG hFG
        have BVG := Lib.hid (BVAP.out.trans (hFG.toBelow (fun x hx => by rw [show x = gA from hx]; exact HLEA.out) BVAP.out.size))
        have sG := SS.out _ BVG.out
        have RAG := Lib.hid hRG
        have hsG := hFG.size
        have RSG := Lib.hid ((RSAP.out.stays (w' := vG) ⟨hFG.size, fun x hx => hFG.block x (by have := BVAP.out.size; rcases hx with h | h <;> omega) (fun e => by have e' : x = gA := e; have := HLEA.out; rcases hx with h | h <;> omega)⟩).mono (K' := fun x => (K x ∧ x < w2.heap.size) ∨ (w2.heap.size ≤ x ∧ x < vG.heap.size ∧ x ≠ gA)) (fun x hx => by rcases hx with h | h; exact .inl h; exact .inr ⟨h.1, by omega, by omega⟩))
        clear hRG hFG hsG
        refine hK.out _ _ sG (fun hHeld => ?_)
        clear hK K'
        try simp only [Act.put]
        refine wpAnyH_take (i := 12) (oi := { dst := some 11, op := Op.assign (Operand.tmp 45), type := 31, pos := "law.go:49", after := #[{ on := 8, ground := Ground.data }, { on := 11, ground := Ground.chain }, { on := 0, ground := Ground.phase }, { on := 1, ground := Ground.phase }, { on := 2, ground := Ground.phase }, { on := 3, ground := Ground.phase }, { on := 4, ground := Ground.phase }, { on := 5, ground := Ground.phase }, { on := 6, ground := Ground.phase }, { on := 7, ground := Ground.phase }, { on := 8, ground := Ground.phase }, { on := 9, ground := Ground.textOnly Departure.lateStores }, { on := 10, ground := Ground.phase }, { on := 11, ground := Ground.phase }], guard := none }) (v := ?_) rfl (by kernel_rfl) (by kernel_rfl) (by kernel_rfl) (fun _ _ _ h => h) (Or.inl ⟨by rfl, ?_⟩) (by assumption) ?_
        rotate_left 1
        · intro w' hSw; (try dsimp only at hSw); go_simp; (try with_reducible rfl)
        simp only [Act.put, List.setIfInBounds_toArray, List.set_cons_zero, List.set_cons_succ]
        refine wpAnyH_take (i := 13) (oi := { dst := some 12, op := Op.assign (Operand.tmp 46), type := 3, pos := "law.go:49", after := #[{ on := 9, ground := Ground.data }, { on := 12, ground := Ground.chain }, { on := 0, ground := Ground.phase }, { on := 1, ground := Ground.phase }, { on := 2, ground := Ground.phase }, { on := 3, ground := Ground.phase }, { on := 4, ground := Ground.phase }, { on := 5, ground := Ground.phase }, { on := 6, ground := Ground.phase }, { on := 7, ground := Ground.phase }, { on := 8, ground := Ground.phase }, { on := 9, ground := Ground.phase }, { on := 10, ground := Ground.phase }, { on := 11, ground := Ground.phase }, { on := 12, ground := Ground.phase }], guard := none }) (v := ?_) rfl (by kernel_rfl) (by kernel_rfl) (by kernel_rfl) (fun _ _ _ h => h) (Or.inl ⟨by rfl, ?_⟩) (by assumption) ?_
        rotate_left 1
        · intro w' hSw; (try dsimp only at hSw); go_simp; (try with_reducible rfl)
        simp only [Act.put, List.setIfInBounds_toArray, List.set_cons_zero, List.set_cons_succ]
        refine wpAnyH_done (by kernel_rfl) ?_ _
        refine NoPanic.normal ?_
        have RG0 := Lib.hid (HR2.out.under BVG.out)
        go_wp2_with (first
          | (with_reducible refine wpList_ldC rfl (.tmp 10) rfl rfl RAG.out ?_)
          | (with_reducible refine wpList_stC (z' := s'.sz) (A' := qA) (n' := qn) (c' := qc) rfl (.tmp 6) (.tmp 47) rfl rfl rfl RG0.out ?_; intro w7 hR7 hF7))
        obtain ⟨K2, hK2⟩ : ∃ K2 : Nat → Prop, K2 = fun x => (K x ∧ x < w2.heap.size) ∨ (w2.heap.size ≤ x ∧ x < vG.heap.size ∧ x ≠ gA) := ⟨_, rfl⟩
        have hgw : g < wr.heap.size := HR0.out.lt
        have hK2x : ∀ x, K2 x → x < vG.heap.size ∧ x ≠ g := fun x hx => by
          rw [hK2] at hx
          have := BVG.out.size
          rcases hx with h | h
          · exact ⟨by omega, fun e => HKg.out (e ▸ h.1)⟩
          · exact ⟨h.2.1, by omega⟩
        have hRS7 : RSt K2 w7 qA qn s'.rows uA un uc got := by
          have := RSG.out
          rw [← hK2] at this
          exact this.stays ⟨hF7.size, fun x hx => hF7.block x (hK2x x hx).1 (hK2x x hx).2⟩
        have hr1 : Rd w7 A1 n1 got := (HR1.out.below (Nat.le_refl _) BVG.out).fr hF7 (fun q o e _ hq => by have := HF1.out q o e; have e' : q = g := hq; omega)
        have hD7 : Clv w w7 p (fun x => K2 x ∨ x = g) s' := by
          have h1 := HD2.out.more BVG.out (fun x => w2.heap.size ≤ x ∧ x < vG.heap.size) (fun x hx => hx)
          refine (h1.fr (.inl (.inr rfl)) hwg hF7).less (fun x hx => ?_)
          rcases hx with hx | hx
          · rw [hK2] at hx
            rcases hx with h | h
            · exact .inl (.inl h.1)
            · exact .inr ⟨h.1, h.2.1⟩
          · exact .inl (.inr hx)
        have hqn : s'.rows.length = qn := by obtain ⟨⟨_, h1, _⟩, _⟩ := hRS7; exact h1
        subst hqn
        have hKw2 : ∀ x, x < w.heap.size → K2 x := fun x hx => by
          rw [hK2]
          exact .inl ⟨HKw.out x hx, Nat.lt_of_lt_of_le hx HU2.out.size⟩
        have hKg2 : ¬ K2 g := fun hx => (hK2x g hx).2 rfl
        have bd7 : Below w7.heap.size w7 w7.drew := (Below.refl _ _).drew
        have hD7d := hD7.below bd7
        have hok7 := hD7.ok
        have CS1 := Lib.hid (Same_yes A1 uA n1 c1 un uc got w7.drew (hr1.below (Nat.le_refl _) bd7) (hRS7.rd.below (Nat.le_refl _) bd7))
        have CLE := Lib.hid (Len_clv hD7d)
        have CSZ := Lib.hid (Size_clv hD7d)
        have CBY := Lib.hid (Bytes_clv hD7d)
        have CRB0 : ∀ V, Below w7.heap.size w7 V → Calls Try.prog 15 #[.agg #[.int .i64 (s'.sz : Nat), .slice qA s'.rows.length qc]] V fun e w' => ∃ v m, e = .returned v ∧ w'.ownsRow V.heap.size 5 1 v m (cells s'.bytes) ∧ Below V.heap.size V w' := fun V hV =>
          RBytes_any K2 s'.sz qA s'.rows.length qc s'.rows V (hRS7.1.below hV) hok7.each hok7.z hok7.n
        have CRB := Lib.hid CRB0
        have SS7 : ∀ W, Below w7.heap.size w7 W → W.cell? ⟨g, 0, none⟩ = some (.int .i64 (s'.sz : Nat)) ∧ W.cell? ⟨g, 1, none⟩ = some (.slice qA s'.rows.length qc) := fun W hW => ⟨(hR7.under hW).at_ 0, (hR7.under hW).at_ 1⟩
        have SS7 := Lib.hid SS7
        have s7 := SS7.out w7 (Below.refl _ _)
        have s7d := SS7.out w7.drew bd7
        have HD7 := Lib.hid hD7
        have HR7 := Lib.hid hR7
        have HRS7 := Lib.hid hRS7
        have HKw2 := Lib.hid hKw2
        have HKg2 := Lib.hid hKg2
        have BD7 := Lib.hid bd7
        clear hK2 hK2x hRS7 hr1 hD7 hD7d hok7 CRB0 hR7 hKw2 hKg2 bd7 hF7 sG s0d RSG RAG RG0 SS CG
        go_region_held3 (fun W => W.cell? ⟨g, 0, none⟩ = some (.int .i64 (s'.sz : Nat)) ∧ W.cell? ⟨g, 1, none⟩ = some (.slice qA s'.rows.length qc)) (first
            | with_reducible exact s7d
            | with_reducible exact s8
            | with_reducible exact s9) (first
          | (go_at_call 11; refine CS1.out.mono ?_; rintro e w' ⟨rfl, rfl⟩)
          | (go_at_call 12; refine CLE.out.mono ?_; rintro e w' ⟨rfl, rfl⟩)
          | (go_at_call 13; refine CSZ.out.mono ?_; rintro e w' ⟨rfl, rfl⟩)
          | (go_at_call 14; refine CBY.out.mono ?_; rintro e w8 ⟨g8, n8, rfl, hg8, hn8, hO8, hB8⟩; have b8 := BD7.out.trans (hB8.mono BD7.out.size); have s8 := SS7.out w8 b8; have HB8 := Lib.hid b8; have HO8 := Lib.hid (Rd.of_own' hO8); clear hO8 hB8 b8 hg8 hn8)
          | (go_at_call 15; refine (CRB.out w8 HB8.out).mono ?_; rintro e w9 ⟨v9, m9, rfl, hO9, hB9⟩; obtain ⟨A9, c9, rfl, _, _, _, _⟩ := own_opens hO9; have b9 := HB8.out.trans (hB9.mono HB8.out.size); have s9 := SS7.out w9 b9; have CS9 := Lib.hid (Same_yes _ _ n8 n8 m9 c9 _ w9 (HO8.out.below (Nat.le_refl _) hB9) (Rd.of_own' hO9)); have HB9 := Lib.hid b9; clear hO9 hB9 b9)
          | (go_at_call 11; refine CS9.out.mono ?_; rintro e w' ⟨rfl, rfl⟩))
        go_wp2_with fail
        go_roundw
        case rel => exact ⟨j + 1, hlt, by go_num, K2, s', qA, s'.rows.length, qc, HKg2.out, HKw2.out, hwg, HD7.out.below HB9.out, HR7.out.under HB9.out, HRS7.out.1.below HB9.out⟩
        case measure => simp [intOf]; omega
-- END
    · obtain ⟨K, s, rA, rn, rc, hKg, hKw, hwg, hD, hR, hRS⟩ := hI
      have HU := Lib.hid hD.under
      clear hD hRS hR
      go_wp2_with (go_at_call 6; refine (live_any _).mono ?_; rintro e w9 ⟨rfl, hB9⟩; have HB9 := Lib.hid hB9; clear hB9)
      go_ret
      exact ⟨rfl, HU.out.trans (HB9.out.mono HU.out.size)⟩
end Go.Proofs.Ytlblbhndfclhnaa
