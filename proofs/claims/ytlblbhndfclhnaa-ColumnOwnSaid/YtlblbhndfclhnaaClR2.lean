/- The reference's Go: what is told and what is got. -/
import Derived.Test.YtlblbhndfclhnaaClR1
import Derived.Deep.RegionHeld3
namespace Go.Proofs.Ytlblbhndfclhnaa
open Go.RowKit

/-- The blocks that Go begins with. -/
structure CLaid (w w1 : World) (z : Nat) (A : Option Addr) (n c : Nat) (x : Cst) : Prop where
  hb : Below w.heap.size w w1
  r0 : Rec 29 w1 w.heap.size #[.int .i64 (z : Nat), .slice A n c]
  st : Rec 35 w1 (w.heap.size + 1) #[.int .i64 x.d, .int .i64 x.a, .slice x.bA x.bn x.bc]
  r2 : Rec 29 w1 (w.heap.size + 2) #[.int .i64 0, .slice none 0 0]
theorem CLaid.new (w : World) (z : Nat) (A : Option Addr) (n c : Nat) (x : Cst) :
    CLaid w (((w.alloc (.cells #[.int .i64 (z : Nat), .slice A n c] 29)).alloc (.cells #[.int .i64 x.d, .int .i64 x.a, .slice x.bA x.bn x.bc] 35)).alloc (.cells #[.int .i64 0, .slice none 0 0] 29)) z A n c x := by
  have b1 : Below w.heap.size w (w.alloc (.cells #[.int .i64 (z : Nat), .slice A n c] 29)) := (Below.refl _ _).alloc (Nat.le_refl _) _
  have s1 : (w.alloc (.cells #[.int .i64 (z : Nat), .slice A n c] 29)).heap.size = w.heap.size + 1 := by simp
  obtain ⟨w1, hw1⟩ : ∃ w1, w1 = w.alloc (.cells #[.int .i64 (z : Nat), .slice A n c] 29) := ⟨_, rfl⟩
  have r1 : Rec 29 w1 w.heap.size #[.int .i64 (z : Nat), .slice A n c] := by rw [hw1]; exact Rec.new _ _ _
  rw [← hw1] at b1 s1 ⊢
  clear hw1
  have b2 : Below w1.heap.size w1 (w1.alloc (.cells #[.int .i64 x.d, .int .i64 x.a, .slice x.bA x.bn x.bc] 35)) := (Below.refl _ _).alloc (Nat.le_refl _) _
  have s2 : (w1.alloc (.cells #[.int .i64 x.d, .int .i64 x.a, .slice x.bA x.bn x.bc] 35)).heap.size = w1.heap.size + 1 := by simp
  obtain ⟨w2, hw2⟩ : ∃ w2, w2 = w1.alloc (.cells #[.int .i64 x.d, .int .i64 x.a, .slice x.bA x.bn x.bc] 35) := ⟨_, rfl⟩
  have r2 : Rec 35 w2 w1.heap.size #[.int .i64 x.d, .int .i64 x.a, .slice x.bA x.bn x.bc] := by rw [hw2]; exact Rec.new _ _ _
  rw [← hw2] at b2 s2 ⊢
  clear hw2
  have b3 : Below w2.heap.size w2 (w2.alloc (.cells #[.int .i64 0, .slice none 0 0] 29)) := (Below.refl _ _).alloc (Nat.le_refl _) _
  have r3 : Rec 29 (w2.alloc (.cells #[.int .i64 0, .slice none 0 0] 29)) w2.heap.size #[.int .i64 0, .slice none 0 0] := Rec.new _ _ _
  rw [s2, s1] at r3
  rw [s1] at r2
  exact ⟨b1.trans ((b2.trans (b3.mono (by omega))).mono (by omega)), (r1.under b2).under b3, r2.under b3, r3⟩

/-- What Go leaves. -/
def CRes (K : Nat → Prop) (w : World) (s' : Co) (got : List UInt8) (cd : Int) (e : Ending) (w' : World) : Prop :=
  ∃ A n c gA gn gc, e = .returned (.tuple #[cv s'.sz A n c, .slice gA gn gc, .int .i64 cd]) ∧ RowsV (fun x => K x ∨ (w.heap.size ≤ x ∧ x < w'.heap.size)) w' A n s'.rows ∧ VB (fun x => K x ∨ (w.heap.size ≤ x ∧ x < w'.heap.size)) w' (.slice gA gn gc) got ∧ Below w.heap.size w w'

theorem CLaid.next {w w1 w2 : World} {z : Nat} {A : Option Addr} {n c : Nat} {x : Cst} (h : CLaid w w1 z A n c x) (hb : Below w1.heap.size w1 w2) : CLaid w w2 z A n c x :=
  ⟨h.hb.trans (hb.mono h.hb.size), h.r0.under hb, h.st.under hb, h.r2.under hb⟩
theorem VB.nil (K : Nat → Prop) (w : World) : VB K w (.slice none 0 0) [] := ⟨none, 0, 0, rfl, Rd.nil _ _, fun b o e => by cases e⟩
theorem res_ctt {P : Program} {T : TypeId} {w : World} {fn : Func} {p u v : Tmp} {tmps : Array Value} {ad : Addr} {x : Value} (h : fn.results = #[.cell p T, .tmp u, .tmp v]) (hp : tmps.getD p undef = .pointer (some ad)) (hl : (loadVar T ad).run P w = .ok x w) : (results fn tmps).run P w = .ok (.tuple #[x, tmps.getD u undef, tmps.getD v undef]) w := by
  rw [Array.getD_eq_getD_getElem?] at hp
  simp only [results, h]
  simp [Result.andThen, hp, asAddr, hl]

section
variable {K : Nat → Prop} {s : Co} {A : Option Addr} {n c : Nat} {w : World}

theorem nothing_left {w1 w2 : World} (h : RowsV K w A n s.rows) (hb : Below w.heap.size w w1) (hF : Fr (· = w.heap.size + 2) w1 w2) : Below w.heap.size w w2 ∧ RowsV (fun x => K x ∨ (w.heap.size ≤ x ∧ x < w2.heap.size)) w2 A n s.rows := by
  have hB := hb.trans (hF.toBelow (fun x hx => by rw [show x = w.heap.size + 2 from hx]; exact Nat.le_add_right _ 2) hb.size)
  exact ⟨hB, (h.below hB).mono fun _ hx => .inl hx⟩

set_option maxHeartbeats 2000000 in
theorem Go_range (h : RowsV K w A n s.rows) (x : Cst) (hd : x.d = 1 ∨ x.d = 2 ∨ x.d = 3) (ha : ¬ (0 ≤ x.a ∧ x.a < n)) :
    Calls Try.prog 10 #[cv s.sz A n c, x.val] w (CRes K w s [] 2) := by
  have hL := CLaid.new w s.sz A n c x
  obtain ⟨d, a, bA, bn, bc, b⟩ := x
  simp only at hd ha hL
  unfold cv
  show Calls _ _ #[.agg #[.int .i64 (s.sz : Nat), .slice A n c], .agg #[.int .i64 d, .int .i64 a, .slice bA bn bc]] w _
  obtain ⟨z, hz⟩ : ∃ z, z = s.sz := ⟨_, rfl⟩
  rw [← hz] at hL ⊢
  obtain ⟨w1, hw1⟩ : ∃ w1, w1 = ((w.alloc (.cells #[.int .i64 (z : Nat), .slice A n c] 29)).alloc (.cells #[.int .i64 d, .int .i64 a, .slice bA bn bc] 35)).alloc (.cells #[.int .i64 0, .slice none 0 0] 29) := ⟨_, rfl⟩
  rw [← hw1] at hL
  have k0 : w1.cell? ⟨w.heap.size + 1, 0, none⟩ = some (.int .i64 d) := hL.st.at_ 0
  have k1 : w1.cell? ⟨w.heap.size + 1, 1, none⟩ = some (.int .i64 a) := hL.st.at_ 1
  have q1 : w1.cell? ⟨w.heap.size, 1, none⟩ = some (.slice A n c) := hL.r0.at_ 1
  have HL := Lib.hid hL
  have H := Lib.hid h
  have HZ := Lib.hid hz
  clear hL h hz
  have ha' : a < 0 ∨ (n : Int) ≤ a := by omega
  clear ha
  have key : ∀ w2, Rec 29 w2 (w.heap.size + 2) #[.int .i64 (z : Nat), .slice A n c] → Fr (· = w.heap.size + 2) w1 w2 → CRes K w s [] 2 (.returned (.tuple #[.agg #[.int .i64 (z : Nat), .slice A n c], .slice none 0 0, .int .i64 2])) w2 := fun w2 _ hF => by
    obtain ⟨hB, hR⟩ := nothing_left H.out HL.out.hb hF
    exact ⟨A, n, c, none, 0, 0, by unfold cv; rw [HZ.out], hR, VB.nil _ _, hB⟩
  have KEY := Lib.hid key
  clear key
  rcases hd with rfl | rfl | rfl <;> rcases ha' with h1 | h1
  all_goals
    go_enter Try.func10, Try.ntmps10
    go_wp2_with (first
      | (rw [← hw1]; clear hw1)
      | (with_reducible refine wpList_ldC rfl (.tmp 2) rfl rfl HL.out.r0 ?_)
      | (with_reducible refine wpList_stC (z' := z) (A' := A) (n' := n) (c' := c) rfl (.tmp 4) (.tmp 36) rfl rfl rfl HL.out.r2 ?_; intro w2 hR2 hF2))
    refine bodyPost_ret (res_ctt rfl rfl (hR2.load rcolT rfl)) rfl ?_
    exact KEY.out w2 hR2 hF2

theorem Go_size (h : RowsV K w A n s.rows) (x : Cst) (hd2 : x.d ≠ 2) (hd3 : x.d ≠ 3) (ha : x.d = 1 → 0 ≤ x.a ∧ x.a < n) (hb : x.bn ≠ s.sz) :
    Calls Try.prog 10 #[cv s.sz A n c, x.val] w (CRes K w s [] 7) := by
  have hL := CLaid.new w s.sz A n c x
  obtain ⟨d, a, bA, bn, bc, b⟩ := x
  simp only at hd2 hd3 ha hb hL
  unfold cv
  show Calls _ _ #[.agg #[.int .i64 (s.sz : Nat), .slice A n c], .agg #[.int .i64 d, .int .i64 a, .slice bA bn bc]] w _
  obtain ⟨z, hz⟩ : ∃ z, z = s.sz := ⟨_, rfl⟩
  rw [← hz] at hL hb ⊢
  have hb' : ¬ ((bn : Int) = (z : Int)) := by omega
  obtain ⟨w1, hw1⟩ : ∃ w1, w1 = ((w.alloc (.cells #[.int .i64 (z : Nat), .slice A n c] 29)).alloc (.cells #[.int .i64 d, .int .i64 a, .slice bA bn bc] 35)).alloc (.cells #[.int .i64 0, .slice none 0 0] 29) := ⟨_, rfl⟩
  rw [← hw1] at hL
  have k0 : w1.cell? ⟨w.heap.size + 1, 0, none⟩ = some (.int .i64 d) := hL.st.at_ 0
  have k1 : w1.cell? ⟨w.heap.size + 1, 1, none⟩ = some (.int .i64 a) := hL.st.at_ 1
  have k2 : w1.cell? ⟨w.heap.size + 1, 2, none⟩ = some (.slice bA bn bc) := hL.st.at_ 2
  have q0 : w1.cell? ⟨w.heap.size, 0, none⟩ = some (.int .i64 (z : Nat)) := hL.r0.at_ 0
  have q1 : w1.cell? ⟨w.heap.size, 1, none⟩ = some (.slice A n c) := hL.r0.at_ 1
  have HL := Lib.hid hL
  have H := Lib.hid h
  have HZ := Lib.hid hz
  clear hL h hz hb
  have key : ∀ w2, Rec 29 w2 (w.heap.size + 2) #[.int .i64 (z : Nat), .slice A n c] → Fr (· = w.heap.size + 2) w1 w2 → CRes K w s [] 7 (.returned (.tuple #[.agg #[.int .i64 (z : Nat), .slice A n c], .slice none 0 0, .int .i64 7])) w2 := fun w2 _ hF => by
    obtain ⟨hB, hR⟩ := nothing_left H.out HL.out.hb hF
    exact ⟨A, n, c, none, 0, 0, by unfold cv; rw [HZ.out], hR, VB.nil _ _, hB⟩
  have KEY := Lib.hid key
  clear key
  by_cases h1 : d = 1
  · subst h1
    obtain ⟨h0, h1⟩ := ha rfl
    clear ha
    go_enter Try.func10, Try.ntmps10
    go_wp2_with (first
      | (rw [← hw1]; clear hw1)
      | (with_reducible refine wpList_ldC rfl (.tmp 2) rfl rfl HL.out.r0 ?_)
      | (with_reducible refine wpList_stC (z' := z) (A' := A) (n' := n) (c' := c) rfl (.tmp 4) (.tmp 53) rfl rfl rfl HL.out.r2 ?_; intro w2 hR2 hF2))
    refine bodyPost_ret (res_ctt rfl rfl (hR2.load rcolT rfl)) rfl ?_
    exact KEY.out w2 hR2 hF2
  · have e1 : (d == 1) = false := by simpa using h1
    have e2 : (d == 2) = false := by simpa using hd2
    have e3 : (d == 3) = false := by simpa using hd3
    have f2 : (d != 2) = true := by simpa using hd2
    have f3 : (d != 3) = true := by simpa using hd3
    clear ha
    go_enter Try.func10, Try.ntmps10
    go_wp2_with (first
      | (rw [← hw1]; clear hw1)
      | (with_reducible refine wpList_ldC rfl (.tmp 2) rfl rfl HL.out.r0 ?_)
      | (with_reducible refine wpList_stC (z' := z) (A' := A) (n' := n) (c' := c) rfl (.tmp 4) (.tmp 53) rfl rfl rfl HL.out.r2 ?_; intro w2 hR2 hF2))
    refine bodyPost_ret (res_ctt rfl rfl (hR2.load rcolT rfl)) rfl ?_
    exact KEY.out w2 hR2 hF2

set_option maxRecDepth 20000 in
theorem Go_get (h : RowsV K w A n s.rows) (x : Cst) (hd : x.d = 2) (k : Nat) (ha : x.a = (k : Int)) (hk : k < n) :
    Calls Try.prog 10 #[cv s.sz A n c, x.val] w (CRes K w s (s.rows.getD k []) 0) := by
  have hL := CLaid.new w s.sz A n c x
  obtain ⟨d, a, bA, bn, bc, b⟩ := x
  simp only at hd ha hL
  subst hd ha
  unfold cv
  show Calls _ _ #[.agg #[.int .i64 (s.sz : Nat), .slice A n c], .agg #[.int .i64 2, .int .i64 k, .slice bA bn bc]] w _
  obtain ⟨z, hz⟩ : ∃ z, z = s.sz := ⟨_, rfl⟩
  rw [← hz] at hL ⊢
  obtain ⟨w1, hw1⟩ : ∃ w1, w1 = ((w.alloc (.cells #[.int .i64 (z : Nat), .slice A n c] 29)).alloc (.cells #[.int .i64 2, .int .i64 k, .slice bA bn bc] 35)).alloc (.cells #[.int .i64 0, .slice none 0 0] 29) := ⟨_, rfl⟩
  rw [← hw1] at hL
  have k0 : w1.cell? ⟨w.heap.size + 1, 0, none⟩ = some (.int .i64 2) := hL.st.at_ 0
  have k1 : w1.cell? ⟨w.heap.size + 1, 1, none⟩ = some (.int .i64 k) := hL.st.at_ 1
  have q0 : w1.cell? ⟨w.heap.size, 0, none⟩ = some (.int .i64 (z : Nat)) := hL.r0.at_ 0
  have q1 : w1.cell? ⟨w.heap.size, 1, none⟩ = some (.slice A n c) := hL.r0.at_ 1
  obtain ⟨bo, o, u, hA, hblt, hc0, hu0⟩ := h.at_ hk
  have hc := (hL.hb.cell (p := ⟨bo, o + k, none⟩) hblt).trans hc0
  obtain ⟨gA, gn, gc, rfl, hgr, hgk⟩ := hu0
  have HV := Lib.hid (show VB K w (.slice gA gn gc) (s.rows.getD k []) from ⟨gA, gn, gc, rfl, hgr, hgk⟩)
  subst hA
  have HL := Lib.hid hL
  have H := Lib.hid h
  have HZ := Lib.hid hz
  have s1d : (w1.drew.cell? ⟨w.heap.size, 0, none⟩ = some (.int .i64 (z : Nat)) ∧ w1.drew.cell? ⟨w.heap.size, 1, none⟩ = some (.slice (some ⟨bo, o, none⟩) n c)) ∧ w1.drew.cell? ⟨w.heap.size + 1, 1, none⟩ = some (.int .i64 k) ∧ w1.drew.cell? ⟨bo, o + k, none⟩ = some (.slice gA gn gc) := ⟨⟨q0, q1⟩, k1, hc⟩
  have hRd2 := hL.r2.under (w' := w1.drew) ((Below.refl _ _).drew)
  have HRD2 := Lib.hid hRd2
  have hk0 : (0 : Int) ≤ (k : Int) := by omega
  have hk1 : (k : Int) < (n : Int) := by omega
  clear hL h hz hgr hgk hRd2
  go_enter Try.func10, Try.ntmps10
  go_wp2_with (first
    | (rw [← hw1]; clear hw1))
-- REGION7
  refine wp_region_noPanic ?_
  refine wp_region_held_drew (S := fun W => (W.cell? ⟨w.heap.size, 0, none⟩ = some (.int .i64 (z : Nat)) ∧ W.cell? ⟨w.heap.size, 1, none⟩ = some (.slice (some ⟨bo, o, none⟩) n c)) ∧ W.cell? ⟨w.heap.size + 1, 1, none⟩ = some (.int .i64 k) ∧ W.cell? ⟨bo, o + k, none⟩ = some (.slice gA gn gc)) (by kernel_rfl) s1d (fun hHeld => ?_)
  refine wpAnyH_take (i := 0) (oi := { dst := some 57, op := Op.load 29 (Operand.tmp 2), type := 29, pos := "ref.go:50", after := #[], guard := none }) (v := ?_) rfl (by kernel_rfl) (by kernel_rfl) (by kernel_rfl) (fun _ _ _ h => h) (Or.inl ⟨by rfl, ?_⟩) (by assumption) ?_
  rotate_left 1
  · intro w' hSw; (try dsimp only at hSw); go_simp; (try with_reducible rfl)
  simp only [Act.put, List.setIfInBounds_toArray, List.set_cons_zero, List.set_cons_succ]
  refine wpAnyH_take (i := 1) (oi := { dst := some 58, op := Op.fieldAddr 29 (Operand.tmp 2) 1, type := 0, pos := "ref.go:50", after := #[{ on := 7, ground := Ground.gcOnly Departure.lateStores }], guard := none }) (v := ?_) rfl (by kernel_rfl) (by kernel_rfl) (by kernel_rfl) (fun _ _ _ h => h) (Or.inl ⟨by rfl, ?_⟩) (by assumption) ?_
  rotate_left 1
  · intro w' hSw; (try dsimp only at hSw); go_simp; (try with_reducible rfl)
  simp only [Act.put, List.setIfInBounds_toArray, List.set_cons_zero, List.set_cons_succ]
  refine wpAnyH_take (i := 2) (oi := { dst := some 59, op := Op.load 27 (Operand.tmp 58), type := 27, pos := "ref.go:50", after := #[{ on := 1, ground := Ground.data }, { on := 7, ground := Ground.gcOnly Departure.lateStores }], guard := none }) (v := ?_) rfl (by kernel_rfl) (by kernel_rfl) (by kernel_rfl) (fun _ _ _ h => h) (Or.inl ⟨by rfl, ?_⟩) (by assumption) ?_
  rotate_left 1
  · intro w' hSw; (try dsimp only at hSw); go_simp; (try with_reducible rfl)
  simp only [Act.put, List.setIfInBounds_toArray, List.set_cons_zero, List.set_cons_succ]
  refine wpAnyH_take (i := 3) (oi := { dst := some 60, op := Op.fieldAddr 35 (Operand.tmp 3) 1, type := 0, pos := "ref.go:50", after := #[{ on := 7, ground := Ground.gcOnly Departure.lateStores }], guard := none }) (v := ?_) rfl (by kernel_rfl) (by kernel_rfl) (by kernel_rfl) (fun _ _ _ h => h) (Or.inl ⟨by rfl, ?_⟩) (by assumption) ?_
  rotate_left 1
  · intro w' hSw; (try dsimp only at hSw); go_simp; (try with_reducible rfl)
  simp only [Act.put, List.setIfInBounds_toArray, List.set_cons_zero, List.set_cons_succ]
  refine wpAnyH_take (i := 4) (oi := { dst := some 61, op := Op.load 3 (Operand.tmp 60), type := 3, pos := "ref.go:50", after := #[{ on := 3, ground := Ground.data }, { on := 7, ground := Ground.gcOnly Departure.lateStores }], guard := none }) (v := ?_) rfl (by kernel_rfl) (by kernel_rfl) (by kernel_rfl) (fun _ _ _ h => h) (Or.inl ⟨by rfl, ?_⟩) (by assumption) ?_
  rotate_left 1
  · intro w' hSw; (try dsimp only at hSw); go_simp; (try with_reducible rfl)
  simp only [Act.put, List.setIfInBounds_toArray, List.set_cons_zero, List.set_cons_succ]
  refine wpAnyH_take (i := 5) (oi := { dst := some 62, op := Op.indexAddr 27 (Operand.tmp 59) (Operand.tmp 61), type := 0, pos := "ref.go:50", after := #[{ on := 2, ground := Ground.data }, { on := 4, ground := Ground.data }, { on := 7, ground := Ground.gcOnly Departure.lateStores }], guard := none }) (v := ?_) rfl (by kernel_rfl) (by kernel_rfl) (by kernel_rfl) (fun _ _ _ h => h) (Or.inl ⟨by rfl, ?_⟩) (by assumption) ?_
  rotate_left 1
  · intro w' hSw; (try dsimp only at hSw); go_simp; (try with_reducible rfl)
  simp only [Act.put, List.setIfInBounds_toArray, List.set_cons_zero, List.set_cons_succ]
  refine wpAnyH_take (i := 6) (oi := { dst := some 63, op := Op.load 31 (Operand.tmp 62), type := 31, pos := "ref.go:50", after := #[{ on := 5, ground := Ground.data }, { on := 7, ground := Ground.gcOnly Departure.lateStores }], guard := none }) (v := ?_) rfl (by kernel_rfl) (by kernel_rfl) (by kernel_rfl) (fun _ _ _ h => h) (Or.inl ⟨by rfl, ?_⟩) (by assumption) ?_
  rotate_left 1
  · intro w' hSw; (try dsimp only at hSw); go_simp; (try with_reducible rfl)
  simp only [Act.put, List.setIfInBounds_toArray, List.set_cons_zero, List.set_cons_succ]
  refine wpAnyH_ready (rs := [7]) (by kernel_rfl) (by simp) ?_
  refine AllReadyH.cons (o := { dst := none, op := Op.store 29 (Operand.tmp 4) (Operand.tmp 57), type := 0, pos := "ref.go:50", after := #[{ on := 0, ground := Ground.data }, { on := 0, ground := Ground.phase }, { on := 1, ground := Ground.textOnly Departure.lateStores }, { on := 2, ground := Ground.textOnly Departure.lateStores }, { on := 3, ground := Ground.textOnly Departure.lateStores }, { on := 4, ground := Ground.textOnly Departure.lateStores }, { on := 5, ground := Ground.textOnly Departure.lateStores }, { on := 6, ground := Ground.textOnly Departure.lateStores }], guard := none }) rfl (fun K' hK => ?_) AllReadyH.nil
  refine step_stC (z' := z) (A' := some ⟨bo, o, none⟩) (n' := n) (c' := c) rfl (.tmp 4) (.tmp 57) rfl rfl rfl HRD2.out ?_
  intro w2 hR2 hF2
  have x0 := (HL.out.r0.under (w' := w1.drew) ((Below.refl _ _).drew)).fr hF2 (fun e => by have e' : w.heap.size = w.heap.size + 2 := e; omega)
  have x1 := (HL.out.st.under (w' := w1.drew) ((Below.refl _ _).drew)).fr hF2 (fun e => by have e' : w.heap.size + 1 = w.heap.size + 2 := e; omega)
  have s2 : (w2.cell? ⟨w.heap.size, 0, none⟩ = some (.int .i64 (z : Nat)) ∧ w2.cell? ⟨w.heap.size, 1, none⟩ = some (.slice (some ⟨bo, o, none⟩) n c)) ∧ w2.cell? ⟨w.heap.size + 1, 1, none⟩ = some (.int .i64 k) ∧ w2.cell? ⟨bo, o + k, none⟩ = some (.slice gA gn gc) := ⟨⟨x0.at_ 0, x0.at_ 1⟩, x1.at_ 1, (World.cell?_of_block (w := w1.drew) (a := ⟨bo, o + k, none⟩) (hF2.block bo (Nat.lt_of_lt_of_le hblt HL.out.hb.size) (fun e => by have e' : bo = w.heap.size + 2 := e; omega))).trans hc⟩
  clear x0 x1
  refine hK.out _ _ s2 (fun hHeld => ?_)
  clear hK K'
  try simp only [Act.put]
  refine wpAnyH_take (i := 8) (oi := { dst := some 5, op := Op.assign (Operand.tmp 63), type := 31, pos := "ref.go:50", after := #[{ on := 6, ground := Ground.data }, { on := 7, ground := Ground.chain }, { on := 0, ground := Ground.phase }, { on := 1, ground := Ground.phase }, { on := 2, ground := Ground.phase }, { on := 3, ground := Ground.phase }, { on := 4, ground := Ground.phase }, { on := 5, ground := Ground.phase }, { on := 6, ground := Ground.phase }, { on := 7, ground := Ground.phase }], guard := none }) (v := ?_) rfl (by kernel_rfl) (by kernel_rfl) (by kernel_rfl) (fun _ _ _ h => h) (Or.inl ⟨by rfl, ?_⟩) (by assumption) ?_
  rotate_left 1
  · intro w' hSw; (try dsimp only at hSw); go_simp; (try with_reducible rfl)
  simp only [Act.put, List.setIfInBounds_toArray, List.set_cons_zero, List.set_cons_succ]
  refine wpAnyH_take (i := 9) (oi := { dst := some 6, op := Op.assign (Operand.const (Value.int IntKind.i64 0)), type := 3, pos := "ref.go:50", after := #[{ on := 8, ground := Ground.chain }, { on := 0, ground := Ground.phase }, { on := 1, ground := Ground.phase }, { on := 2, ground := Ground.phase }, { on := 3, ground := Ground.phase }, { on := 4, ground := Ground.phase }, { on := 5, ground := Ground.phase }, { on := 6, ground := Ground.phase }, { on := 7, ground := Ground.phase }, { on := 8, ground := Ground.phase }], guard := none }) (v := ?_) rfl (by kernel_rfl) (by kernel_rfl) (by kernel_rfl) (fun _ _ _ h => h) (Or.inl ⟨by rfl, ?_⟩) (by assumption) ?_
  rotate_left 1
  · intro w' hSw; (try dsimp only at hSw); go_simp; (try with_reducible rfl)
  simp only [Act.put, List.setIfInBounds_toArray, List.set_cons_zero, List.set_cons_succ]
  refine wpAnyH_done (by kernel_rfl) ?_ _
  refine NoPanic.normal ?_
  go_wp2
  refine bodyPost_ret (res_ctt rfl rfl (hR2.load rcolT rfl)) rfl ?_
  obtain ⟨hB, hR⟩ := nothing_left H.out HL.out.hb ((Fr.drew (· = w.heap.size + 2) w1).trans hF2)
  exact ⟨some ⟨bo, o, none⟩, n, c, gA, gn, gc, by unfold cv; rw [← HZ.out]; rfl, hR, (HV.out.below hB).mono (fun x hx => .inl hx), hB⟩
-- END7
end
end Go.Proofs.Ytlblbhndfclhnaa
