/- The contract of cmd.Same (written by gen_cde.py). -/
import Derived.Test.YtieinkndcbobfaaCdC
import Derived.Test.YtieinkndcbobfaaByE
namespace Go.Proofs.Ytieinkndcbobfaa
open Go.RowKit
set_option linter.unusedVariables false
set_option maxRecDepth 20000

section
variable {P : Program} {T : TypeId} {w w' : World} {g : Nat} {cs : Array Value} {n : Nat} {ops : Array Oper} {o : Oper} {a : Act} {Q : Exit → Act → World → Prop}
/-- The load of a struct by value, as a step of a region that draws its order. -/
theorem step_ldS {J : Act → World → Prop} {E : Prop} (rt : RT P T n) (hn : cs.size = n) (hgd : o.guard = none) (x : Operand) (ho : o.op = .load T x)
    (hx : a.eval x = .pointer (some ⟨g, 0, none⟩)) (h : Rec T w g cs) (kk : J (a.put o.dst (.agg cs)) w) : if Region.wanted o (yielded ops a.tmps) = true then Oper.wp P o a w J Q else E := by
  have hw : Region.wanted o (yielded ops a.tmps) = true := by simp [Region.wanted, hgd]
  rw [if_pos hw]
  unfold Oper.wp execOp
  simp only [ho, hx, h.loadAt rt hn, Sem.run_bind, Sem.run_pure, Result.andThen_ok]
  exact kk
end
/-- Bytes don't lie in a block that holds a command. -/
theorem Rd.ne_cd {w : World} {A : Option Addr} {n g : Nat} {l : List UInt8} {x : Cd} {A' : Option Addr} {n' c' : Nat} (h : Rd w A n l) (hr : Rec 26 w g (x.cs A' n' c')) (b o : Nat) (e : A = some ⟨b, o, none⟩) (hp : 0 < n) : b ≠ g := by
  rintro rfl
  obtain ⟨b', o', e', _, hc⟩ := h.2 hp
  rw [e] at e'
  obtain ⟨rfl, rfl⟩ : b = b' ∧ o = o' := by simpa using e'
  have h0 := hc 0 (by rw [h.1]; exact hp)
  rw [Nat.add_zero, hr.at_ o] at h0
  match o, h0 with
  | 0, h0 => simp at h0
  | 1, h0 => simp at h0
  | 2, h0 => simp at h0
  | 3, h0 => simp at h0
  | 4, h0 => simp at h0
  | 5, h0 => simp at h0
  | _ + 6, h0 => simp at h0

set_option maxHeartbeats 4000000 in
theorem CSame_any (x y : Cd) (A A' : Option Addr) (n c n' c' : Nat) (w : World) (h : Rd w A n x.dt) (h' : Rd w A' n' y.dt) (hn : n ≤ 140737488355328) (hn' : n' ≤ 140737488355328) :
    Calls Try.prog 18 #[.agg (x.cs A n c), .agg (y.cs A' n' c')] w fun e w' => e = .returned (.bool (x.plain.eqB y.plain)) ∧ Below w.heap.size w w' := by
  obtain ⟨w1, hw1⟩ : ∃ w1, w1 = (w.alloc (.cells (x.cs A n c) 26)).alloc (.cells (y.cs A' n' c') 26) := ⟨_, rfl⟩
  have hb1 : Below w.heap.size w w1 := by rw [hw1]; exact ((Below.refl _ _).alloc (Nat.le_refl _) _).alloc (by simp) _
  have r1 : Rec 26 w1.drew w.heap.size (x.cs A n c) := by rw [hw1]; exact (Rec.new w _ _).under ((Below.refl _ _).alloc (Nat.le_refl _) _).drew
  have r2 : Rec 26 w1.drew (w.heap.size + 1) (y.cs A' n' c') := by
    have := Rec.new (w.alloc (.cells (x.cs A n c) 26)) 26 (y.cs A' n' c')
    rw [World.size_alloc] at this
    rw [hw1]; exact this
  have hb1d : Below w.heap.size w w1.drew := hb1.drew
  have CX := Lib.hid (Plain_any x A n c w1.drew (h.below (Nat.le_refl _) hb1d) hn)
  have CY : Hid (∀ W, Below w1.drew.heap.size w1.drew W → Calls Try.prog 11 #[.agg (y.cs A' n' c')] W (PlainP y W)) := Lib.hid (fun W hW => Plain_any y A' n' c' W (h'.below (Nat.le_refl _) (hb1d.trans (hW.mono hb1d.size))) hn')
  have H1 := Lib.hid (And.intro r1 (And.intro r2 hb1d))
  obtain ⟨⟨d, lc, ix, gn, cp, dt⟩, hp⟩ : ∃ p, p = x.plain := ⟨_, rfl⟩
  obtain ⟨⟨d', lc', ix', gn', cp', dt'⟩, hp'⟩ : ∃ p, p = y.plain := ⟨_, rfl⟩
  unfold PlainP at CX CY
  rw [← hp] at CX ⊢
  rw [← hp'] at CY ⊢
  clear h h' hb1 hb1d r1 r2 hp hp' hn hn'
  go_enter Try.func18, Try.ntmps18
  go_upto_region 1 with (rw [← hw1]; clear hw1)
  refine wp_region_noPanic ?_
  refine wp_region_held_drew (S := fun W => True) (by kernel_rfl) trivial (fun hHeld => ?_)
  refine wpAnyH_ready (rs := [0, 2]) (by kernel_rfl) (by simp) ?_
  refine AllReadyH.cons (o := { dst := some 5, op := Op.load 26 (Operand.tmp 2), type := 26, pos := "cmd.go:66", after := #[], guard := none }) rfl (fun K' hK => ?_) (AllReadyH.cons (o := { dst := some 7, op := Op.load 26 (Operand.tmp 3), type := 26, pos := "cmd.go:66", after := #[], guard := none }) rfl (fun K' hK => ?_) AllReadyH.nil)
  · refine step_ldS cdT rfl rfl (.tmp 2) rfl rfl H1.out.1 ?_
    refine hK.out _ _ trivial (fun hHeld => ?_)
    clear hK K'
    try simp only [Act.put, List.setIfInBounds_toArray, List.set_cons_zero, List.set_cons_succ]
    refine wpAnyH_ready (rs := [1, 2]) (by kernel_rfl) (by simp) ?_
    refine AllReadyH.cons (o := { dst := some 6, op := Op.call { callee := Callee.value (Operand.func 11), args := #[Operand.tmp 5], argTypes := #[26] }, type := 26, pos := "cmd.go:66", after := #[{ on := 0, ground := Ground.data }], guard := none }) rfl (fun K' hK => ?_) (AllReadyH.cons (o := { dst := some 7, op := Op.load 26 (Operand.tmp 3), type := 26, pos := "cmd.go:66", after := #[], guard := none }) rfl (fun K' hK => ?_) AllReadyH.nil)
    · go_simp
      go_at_call 11; refine CX.out.mono ?_; rintro e w2 ⟨A2, n2, c2, rfl, hr2, hc2, hb2⟩
      have H2 := Lib.hid (And.intro (H1.out.1.under hb2) (And.intro (H1.out.2.1.under hb2) (And.intro (H1.out.2.2.trans (hb2.mono H1.out.2.2.size)) (And.intro hr2 hb2))))
      clear hr2 hb2 hc2
      refine hK.out _ _ trivial (fun hHeld => ?_)
      clear hK K'
      try simp only [Act.put, List.setIfInBounds_toArray, List.set_cons_zero, List.set_cons_succ]
      refine wpAnyH_ready (rs := [2]) (by kernel_rfl) (by simp) ?_
      refine AllReadyH.cons (o := { dst := some 7, op := Op.load 26 (Operand.tmp 3), type := 26, pos := "cmd.go:66", after := #[], guard := none }) rfl (fun K' hK => ?_) AllReadyH.nil
      refine step_ldS cdT rfl rfl (.tmp 3) rfl rfl H2.out.2.1 ?_
      refine hK.out _ _ trivial (fun hHeld => ?_)
      clear hK K'
      try simp only [Act.put, List.setIfInBounds_toArray, List.set_cons_zero, List.set_cons_succ]
      refine wpAnyH_ready (rs := [3]) (by kernel_rfl) (by simp) ?_
      refine AllReadyH.cons (o := { dst := some 8, op := Op.call { callee := Callee.value (Operand.func 11), args := #[Operand.tmp 7], argTypes := #[26] }, type := 26, pos := "cmd.go:66", after := #[{ on := 2, ground := Ground.data }, { on := 1, ground := Ground.chain }], guard := none }) rfl (fun K' hK => ?_) AllReadyH.nil
      go_simp
      go_at_call 11; refine (CY.out w2 H2.out.2.2.2.2).mono ?_; rintro e w3 ⟨A3, n3, c3, rfl, hr3, hc3, hb3⟩
      have H3 := Lib.hid (And.intro (H2.out.1.under hb3) (And.intro (H2.out.2.1.under hb3) (And.intro (H2.out.2.2.1.trans (hb3.mono H2.out.2.2.1.size)) (And.intro (H2.out.2.2.2.1.below (Nat.le_refl _) hb3) hr3))))
      clear hr3 hb3 hc3
      refine hK.out _ _ trivial (fun hHeld => ?_)
      clear hK K'
      try simp only [Act.put, List.setIfInBounds_toArray, List.set_cons_zero, List.set_cons_succ]
      refine wpAnyH_ready (rs := [4]) (by kernel_rfl) (by simp) ?_
      refine AllReadyH.cons (o := { dst := none, op := Op.store 26 (Operand.tmp 2) (Operand.tmp 6), type := 0, pos := "cmd.go:66", after := #[{ on := 1, ground := Ground.data }, { on := 3, ground := Ground.chain }, { on := 0, ground := Ground.phase }, { on := 1, ground := Ground.phase }, { on := 2, ground := Ground.textOnly Departure.lateStores }, { on := 3, ground := Ground.textOnly Departure.lateStoresUnsure }], guard := none }) rfl (fun K' hK => ?_) AllReadyH.nil
      refine step_stS (cs' := (Cd.cs ⟨d, lc, ix, gn, cp, dt⟩ A2 n2 c2)) cdT rfl rfl (by simp [Value.oneCell']) rfl (.tmp 2) (.tmp 6) rfl rfl rfl H3.out.1 ?_
      intro w4 hR4 hF4
      have hn4 : w.heap.size + 1 ≠ w.heap.size := by omega
      have hb4 : Below w.heap.size w3 w4 := hF4.toBelow (fun y hy => by have : y = w.heap.size := hy; omega) H3.out.2.2.1.size
      have H4 := Lib.hid (And.intro hR4 (And.intro (H3.out.2.1.fr hF4 hn4) (And.intro (H3.out.2.2.1.trans hb4) (And.intro (H3.out.2.2.2.1.fr hF4 (fun b o e hp => H3.out.2.2.2.1.ne_cd H3.out.1 b o e hp)) (H3.out.2.2.2.2.fr hF4 (fun b o e hp => H3.out.2.2.2.2.ne_cd H3.out.1 b o e hp))))))
      clear hR4 hF4 hb4 hn4
      refine hK.out _ _ trivial (fun hHeld => ?_)
      clear hK K'
      try simp only [Act.put]
      refine wpAnyH_ready (rs := [5]) (by kernel_rfl) (by simp) ?_
      refine AllReadyH.cons (o := { dst := none, op := Op.store 26 (Operand.tmp 3) (Operand.tmp 8), type := 0, pos := "cmd.go:66", after := #[{ on := 3, ground := Ground.data }, { on := 4, ground := Ground.chain }, { on := 0, ground := Ground.phase }, { on := 1, ground := Ground.phase }, { on := 2, ground := Ground.phase }, { on := 3, ground := Ground.phase }, { on := 4, ground := Ground.phase }], guard := none }) rfl (fun K' hK => ?_) AllReadyH.nil
      refine step_stS (cs' := (Cd.cs ⟨d', lc', ix', gn', cp', dt'⟩ A3 n3 c3)) cdT rfl rfl (by simp [Value.oneCell']) rfl (.tmp 3) (.tmp 8) rfl rfl rfl H4.out.2.1 ?_
      intro w5 hR5 hF5
      have hn5 : w.heap.size ≠ w.heap.size + 1 := by omega
      have hb5 : Below w.heap.size w4 w5 := hF5.toBelow (fun y hy => by have : y = w.heap.size + 1 := hy; omega) H4.out.2.2.1.size
      have r5 := H4.out.1.fr hF5 hn5
      have H5 := Lib.hid (And.intro (H4.out.2.2.1.trans hb5) (And.intro (H4.out.2.2.2.1.fr hF5 (fun b o e hp => H4.out.2.2.2.1.ne_cd H4.out.2.1 b o e hp)) (H4.out.2.2.2.2.fr hF5 (fun b o e hp => H4.out.2.2.2.2.ne_cd H4.out.2.1 b o e hp))))
      have CE := Lib.hid (Equal_any A2 A3 n2 c2 n3 c3 dt dt' w5 H5.out.2.1 H5.out.2.2)
      have a0 := r5.at_ 0
      have a1 := r5.at_ 1
      have a2 := r5.at_ 2
      have a3 := r5.at_ 3
      have a4 := r5.at_ 4
      have a5 := r5.at_ 5
      have b0 := hR5.at_ 0
      have b1 := hR5.at_ 1
      have b2 := hR5.at_ 2
      have b3 := hR5.at_ 3
      have b4 := hR5.at_ 4
      have b5 := hR5.at_ 5
      clear hF5 hb5 hn5 r5 hR5
      refine hK.out _ _ trivial (fun hHeld => ?_)
      clear hK K'
      try simp only [Act.put]
      refine wpAnyH_done (by kernel_rfl) ?_ _
      refine NoPanic.normal ?_
      clear hHeld
      by_cases ne : d = d'
      rotate_left 1
      · have e1 : decide (d = d') = false := decide_eq_false ne
        have e2 : (d == d') = false := by simpa using ne
        have ne0 := Lib.hid ne
        clear ne
        go_wp2
        go_ret
        exact ⟨ret_bool (by simp [Cd.eqB, ne0.out]), H5.out.1⟩
      subst ne
      by_cases ne : lc = lc'
      rotate_left 1
      · have e1 : decide (lc = lc') = false := decide_eq_false ne
        have e2 : (lc == lc') = false := by simpa using ne
        have ne1 := Lib.hid ne
        clear ne
        go_wp2
        go_ret
        exact ⟨ret_bool (by simp [Cd.eqB, ne1.out]), H5.out.1⟩
      subst ne
      by_cases ne : ix = ix'
      rotate_left 1
      · have e1 : decide (ix = ix') = false := decide_eq_false ne
        have e2 : (ix == ix') = false := by simpa using ne
        have ne2 := Lib.hid ne
        clear ne
        go_wp2
        go_ret
        exact ⟨ret_bool (by simp [Cd.eqB, ne2.out]), H5.out.1⟩
      subst ne
      by_cases ne : gn = gn'
      rotate_left 1
      · have e1 : decide (gn = gn') = false := decide_eq_false ne
        have e2 : (gn == gn') = false := by simpa using ne
        have ne3 := Lib.hid ne
        clear ne
        go_wp2
        go_ret
        exact ⟨ret_bool (by simp [Cd.eqB, ne3.out]), H5.out.1⟩
      subst ne
      by_cases ne : cp = cp'
      rotate_left 1
      · have e1 : decide (cp = cp') = false := decide_eq_false ne
        have e2 : (cp == cp') = false := by simpa using ne
        have ne4 := Lib.hid ne
        clear ne
        go_wp2
        go_ret
        exact ⟨ret_bool (by simp [Cd.eqB, ne4.out]), H5.out.1⟩
      subst ne
      go_wp2_with (go_at_call 28; refine CE.out.mono ?_; rintro e w' ⟨rfl, rfl⟩)
      go_ret
      exact ⟨ret_bool (by simp [Cd.eqB]), H5.out.1⟩
    · refine step_ldS cdT rfl rfl (.tmp 3) rfl rfl H1.out.2.1 ?_
      refine hK.out _ _ trivial (fun hHeld => ?_)
      clear hK K'
      try simp only [Act.put, List.setIfInBounds_toArray, List.set_cons_zero, List.set_cons_succ]
      refine wpAnyH_ready (rs := [1]) (by kernel_rfl) (by simp) ?_
      refine AllReadyH.cons (o := { dst := some 6, op := Op.call { callee := Callee.value (Operand.func 11), args := #[Operand.tmp 5], argTypes := #[26] }, type := 26, pos := "cmd.go:66", after := #[{ on := 0, ground := Ground.data }], guard := none }) rfl (fun K' hK => ?_) AllReadyH.nil
      go_simp
      go_at_call 11; refine CX.out.mono ?_; rintro e w2 ⟨A2, n2, c2, rfl, hr2, hc2, hb2⟩
      have H2 := Lib.hid (And.intro (H1.out.1.under hb2) (And.intro (H1.out.2.1.under hb2) (And.intro (H1.out.2.2.trans (hb2.mono H1.out.2.2.size)) (And.intro hr2 hb2))))
      clear hr2 hb2 hc2
      refine hK.out _ _ trivial (fun hHeld => ?_)
      clear hK K'
      try simp only [Act.put, List.setIfInBounds_toArray, List.set_cons_zero, List.set_cons_succ]
      refine wpAnyH_ready (rs := [3]) (by kernel_rfl) (by simp) ?_
      refine AllReadyH.cons (o := { dst := some 8, op := Op.call { callee := Callee.value (Operand.func 11), args := #[Operand.tmp 7], argTypes := #[26] }, type := 26, pos := "cmd.go:66", after := #[{ on := 2, ground := Ground.data }, { on := 1, ground := Ground.chain }], guard := none }) rfl (fun K' hK => ?_) AllReadyH.nil
      go_simp
      go_at_call 11; refine (CY.out w2 H2.out.2.2.2.2).mono ?_; rintro e w3 ⟨A3, n3, c3, rfl, hr3, hc3, hb3⟩
      have H3 := Lib.hid (And.intro (H2.out.1.under hb3) (And.intro (H2.out.2.1.under hb3) (And.intro (H2.out.2.2.1.trans (hb3.mono H2.out.2.2.1.size)) (And.intro (H2.out.2.2.2.1.below (Nat.le_refl _) hb3) hr3))))
      clear hr3 hb3 hc3
      refine hK.out _ _ trivial (fun hHeld => ?_)
      clear hK K'
      try simp only [Act.put, List.setIfInBounds_toArray, List.set_cons_zero, List.set_cons_succ]
      refine wpAnyH_ready (rs := [4]) (by kernel_rfl) (by simp) ?_
      refine AllReadyH.cons (o := { dst := none, op := Op.store 26 (Operand.tmp 2) (Operand.tmp 6), type := 0, pos := "cmd.go:66", after := #[{ on := 1, ground := Ground.data }, { on := 3, ground := Ground.chain }, { on := 0, ground := Ground.phase }, { on := 1, ground := Ground.phase }, { on := 2, ground := Ground.textOnly Departure.lateStores }, { on := 3, ground := Ground.textOnly Departure.lateStoresUnsure }], guard := none }) rfl (fun K' hK => ?_) AllReadyH.nil
      refine step_stS (cs' := (Cd.cs ⟨d, lc, ix, gn, cp, dt⟩ A2 n2 c2)) cdT rfl rfl (by simp [Value.oneCell']) rfl (.tmp 2) (.tmp 6) rfl rfl rfl H3.out.1 ?_
      intro w4 hR4 hF4
      have hn4 : w.heap.size + 1 ≠ w.heap.size := by omega
      have hb4 : Below w.heap.size w3 w4 := hF4.toBelow (fun y hy => by have : y = w.heap.size := hy; omega) H3.out.2.2.1.size
      have H4 := Lib.hid (And.intro hR4 (And.intro (H3.out.2.1.fr hF4 hn4) (And.intro (H3.out.2.2.1.trans hb4) (And.intro (H3.out.2.2.2.1.fr hF4 (fun b o e hp => H3.out.2.2.2.1.ne_cd H3.out.1 b o e hp)) (H3.out.2.2.2.2.fr hF4 (fun b o e hp => H3.out.2.2.2.2.ne_cd H3.out.1 b o e hp))))))
      clear hR4 hF4 hb4 hn4
      refine hK.out _ _ trivial (fun hHeld => ?_)
      clear hK K'
      try simp only [Act.put]
      refine wpAnyH_ready (rs := [5]) (by kernel_rfl) (by simp) ?_
      refine AllReadyH.cons (o := { dst := none, op := Op.store 26 (Operand.tmp 3) (Operand.tmp 8), type := 0, pos := "cmd.go:66", after := #[{ on := 3, ground := Ground.data }, { on := 4, ground := Ground.chain }, { on := 0, ground := Ground.phase }, { on := 1, ground := Ground.phase }, { on := 2, ground := Ground.phase }, { on := 3, ground := Ground.phase }, { on := 4, ground := Ground.phase }], guard := none }) rfl (fun K' hK => ?_) AllReadyH.nil
      refine step_stS (cs' := (Cd.cs ⟨d', lc', ix', gn', cp', dt'⟩ A3 n3 c3)) cdT rfl rfl (by simp [Value.oneCell']) rfl (.tmp 3) (.tmp 8) rfl rfl rfl H4.out.2.1 ?_
      intro w5 hR5 hF5
      have hn5 : w.heap.size ≠ w.heap.size + 1 := by omega
      have hb5 : Below w.heap.size w4 w5 := hF5.toBelow (fun y hy => by have : y = w.heap.size + 1 := hy; omega) H4.out.2.2.1.size
      have r5 := H4.out.1.fr hF5 hn5
      have H5 := Lib.hid (And.intro (H4.out.2.2.1.trans hb5) (And.intro (H4.out.2.2.2.1.fr hF5 (fun b o e hp => H4.out.2.2.2.1.ne_cd H4.out.2.1 b o e hp)) (H4.out.2.2.2.2.fr hF5 (fun b o e hp => H4.out.2.2.2.2.ne_cd H4.out.2.1 b o e hp))))
      have CE := Lib.hid (Equal_any A2 A3 n2 c2 n3 c3 dt dt' w5 H5.out.2.1 H5.out.2.2)
      have a0 := r5.at_ 0
      have a1 := r5.at_ 1
      have a2 := r5.at_ 2
      have a3 := r5.at_ 3
      have a4 := r5.at_ 4
      have a5 := r5.at_ 5
      have b0 := hR5.at_ 0
      have b1 := hR5.at_ 1
      have b2 := hR5.at_ 2
      have b3 := hR5.at_ 3
      have b4 := hR5.at_ 4
      have b5 := hR5.at_ 5
      clear hF5 hb5 hn5 r5 hR5
      refine hK.out _ _ trivial (fun hHeld => ?_)
      clear hK K'
      try simp only [Act.put]
      refine wpAnyH_done (by kernel_rfl) ?_ _
      refine NoPanic.normal ?_
      clear hHeld
      by_cases ne : d = d'
      rotate_left 1
      · have e1 : decide (d = d') = false := decide_eq_false ne
        have e2 : (d == d') = false := by simpa using ne
        have ne0 := Lib.hid ne
        clear ne
        go_wp2
        go_ret
        exact ⟨ret_bool (by simp [Cd.eqB, ne0.out]), H5.out.1⟩
      subst ne
      by_cases ne : lc = lc'
      rotate_left 1
      · have e1 : decide (lc = lc') = false := decide_eq_false ne
        have e2 : (lc == lc') = false := by simpa using ne
        have ne1 := Lib.hid ne
        clear ne
        go_wp2
        go_ret
        exact ⟨ret_bool (by simp [Cd.eqB, ne1.out]), H5.out.1⟩
      subst ne
      by_cases ne : ix = ix'
      rotate_left 1
      · have e1 : decide (ix = ix') = false := decide_eq_false ne
        have e2 : (ix == ix') = false := by simpa using ne
        have ne2 := Lib.hid ne
        clear ne
        go_wp2
        go_ret
        exact ⟨ret_bool (by simp [Cd.eqB, ne2.out]), H5.out.1⟩
      subst ne
      by_cases ne : gn = gn'
      rotate_left 1
      · have e1 : decide (gn = gn') = false := decide_eq_false ne
        have e2 : (gn == gn') = false := by simpa using ne
        have ne3 := Lib.hid ne
        clear ne
        go_wp2
        go_ret
        exact ⟨ret_bool (by simp [Cd.eqB, ne3.out]), H5.out.1⟩
      subst ne
      by_cases ne : cp = cp'
      rotate_left 1
      · have e1 : decide (cp = cp') = false := decide_eq_false ne
        have e2 : (cp == cp') = false := by simpa using ne
        have ne4 := Lib.hid ne
        clear ne
        go_wp2
        go_ret
        exact ⟨ret_bool (by simp [Cd.eqB, ne4.out]), H5.out.1⟩
      subst ne
      go_wp2_with (go_at_call 28; refine CE.out.mono ?_; rintro e w' ⟨rfl, rfl⟩)
      go_ret
      exact ⟨ret_bool (by simp [Cd.eqB]), H5.out.1⟩
  · refine step_ldS cdT rfl rfl (.tmp 3) rfl rfl H1.out.2.1 ?_
    refine hK.out _ _ trivial (fun hHeld => ?_)
    clear hK K'
    try simp only [Act.put, List.setIfInBounds_toArray, List.set_cons_zero, List.set_cons_succ]
    refine wpAnyH_ready (rs := [0]) (by kernel_rfl) (by simp) ?_
    refine AllReadyH.cons (o := { dst := some 5, op := Op.load 26 (Operand.tmp 2), type := 26, pos := "cmd.go:66", after := #[], guard := none }) rfl (fun K' hK => ?_) AllReadyH.nil
    refine step_ldS cdT rfl rfl (.tmp 2) rfl rfl H1.out.1 ?_
    refine hK.out _ _ trivial (fun hHeld => ?_)
    clear hK K'
    try simp only [Act.put, List.setIfInBounds_toArray, List.set_cons_zero, List.set_cons_succ]
    refine wpAnyH_ready (rs := [1]) (by kernel_rfl) (by simp) ?_
    refine AllReadyH.cons (o := { dst := some 6, op := Op.call { callee := Callee.value (Operand.func 11), args := #[Operand.tmp 5], argTypes := #[26] }, type := 26, pos := "cmd.go:66", after := #[{ on := 0, ground := Ground.data }], guard := none }) rfl (fun K' hK => ?_) AllReadyH.nil
    go_simp
    go_at_call 11; refine CX.out.mono ?_; rintro e w2 ⟨A2, n2, c2, rfl, hr2, hc2, hb2⟩
    have H2 := Lib.hid (And.intro (H1.out.1.under hb2) (And.intro (H1.out.2.1.under hb2) (And.intro (H1.out.2.2.trans (hb2.mono H1.out.2.2.size)) (And.intro hr2 hb2))))
    clear hr2 hb2 hc2
    refine hK.out _ _ trivial (fun hHeld => ?_)
    clear hK K'
    try simp only [Act.put, List.setIfInBounds_toArray, List.set_cons_zero, List.set_cons_succ]
    refine wpAnyH_ready (rs := [3]) (by kernel_rfl) (by simp) ?_
    refine AllReadyH.cons (o := { dst := some 8, op := Op.call { callee := Callee.value (Operand.func 11), args := #[Operand.tmp 7], argTypes := #[26] }, type := 26, pos := "cmd.go:66", after := #[{ on := 2, ground := Ground.data }, { on := 1, ground := Ground.chain }], guard := none }) rfl (fun K' hK => ?_) AllReadyH.nil
    go_simp
    go_at_call 11; refine (CY.out w2 H2.out.2.2.2.2).mono ?_; rintro e w3 ⟨A3, n3, c3, rfl, hr3, hc3, hb3⟩
    have H3 := Lib.hid (And.intro (H2.out.1.under hb3) (And.intro (H2.out.2.1.under hb3) (And.intro (H2.out.2.2.1.trans (hb3.mono H2.out.2.2.1.size)) (And.intro (H2.out.2.2.2.1.below (Nat.le_refl _) hb3) hr3))))
    clear hr3 hb3 hc3
    refine hK.out _ _ trivial (fun hHeld => ?_)
    clear hK K'
    try simp only [Act.put, List.setIfInBounds_toArray, List.set_cons_zero, List.set_cons_succ]
    refine wpAnyH_ready (rs := [4]) (by kernel_rfl) (by simp) ?_
    refine AllReadyH.cons (o := { dst := none, op := Op.store 26 (Operand.tmp 2) (Operand.tmp 6), type := 0, pos := "cmd.go:66", after := #[{ on := 1, ground := Ground.data }, { on := 3, ground := Ground.chain }, { on := 0, ground := Ground.phase }, { on := 1, ground := Ground.phase }, { on := 2, ground := Ground.textOnly Departure.lateStores }, { on := 3, ground := Ground.textOnly Departure.lateStoresUnsure }], guard := none }) rfl (fun K' hK => ?_) AllReadyH.nil
    refine step_stS (cs' := (Cd.cs ⟨d, lc, ix, gn, cp, dt⟩ A2 n2 c2)) cdT rfl rfl (by simp [Value.oneCell']) rfl (.tmp 2) (.tmp 6) rfl rfl rfl H3.out.1 ?_
    intro w4 hR4 hF4
    have hn4 : w.heap.size + 1 ≠ w.heap.size := by omega
    have hb4 : Below w.heap.size w3 w4 := hF4.toBelow (fun y hy => by have : y = w.heap.size := hy; omega) H3.out.2.2.1.size
    have H4 := Lib.hid (And.intro hR4 (And.intro (H3.out.2.1.fr hF4 hn4) (And.intro (H3.out.2.2.1.trans hb4) (And.intro (H3.out.2.2.2.1.fr hF4 (fun b o e hp => H3.out.2.2.2.1.ne_cd H3.out.1 b o e hp)) (H3.out.2.2.2.2.fr hF4 (fun b o e hp => H3.out.2.2.2.2.ne_cd H3.out.1 b o e hp))))))
    clear hR4 hF4 hb4 hn4
    refine hK.out _ _ trivial (fun hHeld => ?_)
    clear hK K'
    try simp only [Act.put]
    refine wpAnyH_ready (rs := [5]) (by kernel_rfl) (by simp) ?_
    refine AllReadyH.cons (o := { dst := none, op := Op.store 26 (Operand.tmp 3) (Operand.tmp 8), type := 0, pos := "cmd.go:66", after := #[{ on := 3, ground := Ground.data }, { on := 4, ground := Ground.chain }, { on := 0, ground := Ground.phase }, { on := 1, ground := Ground.phase }, { on := 2, ground := Ground.phase }, { on := 3, ground := Ground.phase }, { on := 4, ground := Ground.phase }], guard := none }) rfl (fun K' hK => ?_) AllReadyH.nil
    refine step_stS (cs' := (Cd.cs ⟨d', lc', ix', gn', cp', dt'⟩ A3 n3 c3)) cdT rfl rfl (by simp [Value.oneCell']) rfl (.tmp 3) (.tmp 8) rfl rfl rfl H4.out.2.1 ?_
    intro w5 hR5 hF5
    have hn5 : w.heap.size ≠ w.heap.size + 1 := by omega
    have hb5 : Below w.heap.size w4 w5 := hF5.toBelow (fun y hy => by have : y = w.heap.size + 1 := hy; omega) H4.out.2.2.1.size
    have r5 := H4.out.1.fr hF5 hn5
    have H5 := Lib.hid (And.intro (H4.out.2.2.1.trans hb5) (And.intro (H4.out.2.2.2.1.fr hF5 (fun b o e hp => H4.out.2.2.2.1.ne_cd H4.out.2.1 b o e hp)) (H4.out.2.2.2.2.fr hF5 (fun b o e hp => H4.out.2.2.2.2.ne_cd H4.out.2.1 b o e hp))))
    have CE := Lib.hid (Equal_any A2 A3 n2 c2 n3 c3 dt dt' w5 H5.out.2.1 H5.out.2.2)
    have a0 := r5.at_ 0
    have a1 := r5.at_ 1
    have a2 := r5.at_ 2
    have a3 := r5.at_ 3
    have a4 := r5.at_ 4
    have a5 := r5.at_ 5
    have b0 := hR5.at_ 0
    have b1 := hR5.at_ 1
    have b2 := hR5.at_ 2
    have b3 := hR5.at_ 3
    have b4 := hR5.at_ 4
    have b5 := hR5.at_ 5
    clear hF5 hb5 hn5 r5 hR5
    refine hK.out _ _ trivial (fun hHeld => ?_)
    clear hK K'
    try simp only [Act.put]
    refine wpAnyH_done (by kernel_rfl) ?_ _
    refine NoPanic.normal ?_
    clear hHeld
    by_cases ne : d = d'
    rotate_left 1
    · have e1 : decide (d = d') = false := decide_eq_false ne
      have e2 : (d == d') = false := by simpa using ne
      have ne0 := Lib.hid ne
      clear ne
      go_wp2
      go_ret
      exact ⟨ret_bool (by simp [Cd.eqB, ne0.out]), H5.out.1⟩
    subst ne
    by_cases ne : lc = lc'
    rotate_left 1
    · have e1 : decide (lc = lc') = false := decide_eq_false ne
      have e2 : (lc == lc') = false := by simpa using ne
      have ne1 := Lib.hid ne
      clear ne
      go_wp2
      go_ret
      exact ⟨ret_bool (by simp [Cd.eqB, ne1.out]), H5.out.1⟩
    subst ne
    by_cases ne : ix = ix'
    rotate_left 1
    · have e1 : decide (ix = ix') = false := decide_eq_false ne
      have e2 : (ix == ix') = false := by simpa using ne
      have ne2 := Lib.hid ne
      clear ne
      go_wp2
      go_ret
      exact ⟨ret_bool (by simp [Cd.eqB, ne2.out]), H5.out.1⟩
    subst ne
    by_cases ne : gn = gn'
    rotate_left 1
    · have e1 : decide (gn = gn') = false := decide_eq_false ne
      have e2 : (gn == gn') = false := by simpa using ne
      have ne3 := Lib.hid ne
      clear ne
      go_wp2
      go_ret
      exact ⟨ret_bool (by simp [Cd.eqB, ne3.out]), H5.out.1⟩
    subst ne
    by_cases ne : cp = cp'
    rotate_left 1
    · have e1 : decide (cp = cp') = false := decide_eq_false ne
      have e2 : (cp == cp') = false := by simpa using ne
      have ne4 := Lib.hid ne
      clear ne
      go_wp2
      go_ret
      exact ⟨ret_bool (by simp [Cd.eqB, ne4.out]), H5.out.1⟩
    subst ne
    go_wp2_with (go_at_call 28; refine CE.out.mono ?_; rintro e w' ⟨rfl, rfl⟩)
    go_ret
    exact ⟨ret_bool (by simp [Cd.eqB]), H5.out.1⟩
end Go.Proofs.Ytieinkndcbobfaa
