/- CdS -/
import Derived.Test.YtlinafnhhnkjnaaQf11
namespace Go.Proofs.Ytlinafnhhnkjnaa
open Go.RowKit
set_option linter.unusedVariables false
set_option maxRecDepth 20000

theorem getCd_zero (l : List UInt8) : (getCd l).2.2 ≠ 0 → (getCd l).1 = Cd.zero := by
  unfold getCd
  simp only
  by_cases h0 : l.length = 0
  · rw [if_pos h0]; intro _; rfl
  rw [if_neg h0]
  by_cases h1 : 3 < (l.getD 0 0).toNat
  · rw [if_pos h1]; intro _; rfl
  rw [if_neg h1]
  by_cases h2 : (l.getD 0 0).toNat = 0
  · rw [if_pos h2]; intro _; rfl
  rw [if_neg h2]
  by_cases h3 : l.length = 1
  · rw [if_pos h3]; intro _; rfl
  rw [if_neg h3]
  by_cases h4 : 1 < (l.getD 1 0).toNat
  · rw [if_pos h4]; intro _; rfl
  rw [if_neg h4]
  obtain ⟨e0, he0⟩ : ∃ e0, e0 = if (l.getD 1 0).toNat = 1 then 10 else 18 := ⟨_, rfl⟩
  simp only [← he0]
  by_cases h5 : (l.getD 0 0).toNat = 1
  · rw [if_pos h5]
    by_cases h6 : l.length < e0
    · rw [if_pos h6]; intro _; rfl
    · rw [if_neg h6]; intro h; exact absurd rfl h
  rw [if_neg h5]
  by_cases h7 : (l.getD 0 0).toNat = 3
  · rw [if_pos h7]
    by_cases h6 : l.length < e0 + 8
    · rw [if_pos h6]; intro _; rfl
    · rw [if_neg h6]; intro h; exact absurd rfl h
  rw [if_neg h7]
  by_cases h8 : l.length < e0 + 10
  · rw [if_pos h8]; intro _; rfl
  rw [if_neg h8]
  by_cases h9 : 64 < leN ((l.drop (e0 + 8)).take 2)
  · rw [if_pos h9]; intro _; rfl
  rw [if_neg h9]
  by_cases h10 : l.length < e0 + 10 + leN ((l.drop (e0 + 8)).take 2)
  · rw [if_pos h10]; intro _; rfl
  · rw [if_neg h10]; intro h; exact absurd rfl h
theorem rdNum_len (k : Nat) (st : RS) : (rdNum k st).2.1.length ≤ st.1.length := by
  unfold rdNum
  repeat' split
  all_goals simp
theorem rdBytes_len (k : Nat) (st : RS) : (rdBytes k st).2.1.length ≤ st.1.length := by
  unfold rdBytes
  repeat' split
  all_goals simp
theorem rdFin_len (x : Cd) (st : RS) : (rdFin x st).2.2.1.length ≤ st.1.length := by
  unfold rdFin
  split <;> simp
theorem rdCmd_len (st : RS) : (rdCmd st).2.2.1.length ≤ st.1.length := by
  have h1 := rdNum_len 1 st
  unfold rdCmd
  split
  · exact h1
  split
  · exact Nat.le_trans (rdFin_len _ _) h1
  have h2 := Nat.le_trans (rdNum_len 1 (rdNum 1 st).2) h1
  simp only
  split
  · exact h2
  have h3 := Nat.le_trans (rdNum_len 8 (rdNum 1 (rdNum 1 st).2).2) h2
  obtain ⟨g, hg⟩ : ∃ g, g = (if (rdNum 1 (rdNum 1 st).2).1 = 1 then (0, (rdNum 8 (rdNum 1 (rdNum 1 st).2).2).2) else rdNum 8 (rdNum 8 (rdNum 1 (rdNum 1 st).2).2).2) := ⟨_, rfl⟩
  have h4 : g.2.1.length ≤ st.1.length := by
    rw [hg]
    split
    · exact h3
    · exact Nat.le_trans (rdNum_len _ _) h3
  rw [← hg]
  split
  · exact Nat.le_trans (rdFin_len _ _) h4
  have h5 := Nat.le_trans (rdNum_len 8 g.2) h4
  split
  · exact Nat.le_trans (rdFin_len _ _) h5
  have h6 := Nat.le_trans (rdNum_len 2 (rdNum 8 g.2).2) h5
  split
  · exact h6
  · exact Nat.le_trans (rdFin_len _ _) (Nat.le_trans (rdBytes_len _ _) h6)
theorem RdrIs.fr_cd {N p g : Nat} {w w' : World} {st : RS} {x : Cd} {A : Option Addr} {n c : Nat} (h : RdrIs N w p st) (hr : Rec 47 w g (x.cs A n c)) (hf : Fr (· = g) w w') (hp : g ≠ p) : RdrIs N w' p st := by
  obtain ⟨A', n', c', h1, h2, h3, h4, h5, hpN, h6⟩ := h
  exact ⟨A', n', c', (hf.block p (Array.getElem?_eq_some_iff.1 h1).1 (fun e => hp e.symm)).trans h1, h2.fr hf (fun b o e hp => h2.ne_cd hr b o e hp), h3, h4, h5, hpN, h6⟩
/-- What Get leaves. -/
def GetE (w : World) (r : Cd × Int × Int) (e : Ending) (w' : World) : Prop :=
  ∃ (A : Option Addr) (n c : Nat), e = .returned (.tuple #[.agg (r.1.cs A n c), .int .i64 r.2.1, .int .i64 r.2.2]) ∧ Rd w' A n r.1.dt ∧ n ≤ c ∧ Below w.heap.size w w'
/-- As GetE, and where the data lie. -/
def GetL (L : Nat → Prop) (w : World) (r : Cd × Int × Int) (e : Ending) (w' : World) : Prop :=
  ∃ (A : Option Addr) (n c : Nat), e = .returned (.tuple #[.agg (r.1.cs A n c), .int .i64 r.2.1, .int .i64 r.2.2]) ∧ Rd w' A n r.1.dt ∧ n ≤ c ∧ Below w.heap.size w w' ∧ ∀ b o, A = some ⟨b, o, none⟩ → 0 < n → L b
theorem GetL.e {L : Nat → Prop} {w w' : World} {r : Cd × Int × Int} {e : Ending} (h : GetL L w r e w') : GetE w r e w' := by
  obtain ⟨A, n, c, h1, h2, h3, h4, _⟩ := h
  exact ⟨A, n, c, h1, h2, h3, h4⟩
theorem res_ctt {P : Program} {fn : Func} {p u v : Tmp} {T : TypeId} {tmps : Array Value} {ad : Addr} {x : Value} {w : World} (h : fn.results = #[.cell p T, .tmp u, .tmp v]) (hp : tmps.getD p undef = .pointer (some ad)) (hl : (loadVar T ad).run P w = .ok x w) :
    (results fn tmps).run P w = .ok (.tuple #[x, tmps.getD u undef, tmps.getD v undef]) w := by
  rw [Array.getD_eq_getD_getElem?] at hp
  simp only [results, h]
  simp [Result.andThen, hp, asAddr, hl]
section
variable (A : Option Addr) (n c : Nat) (l : List UInt8) (w : World)
theorem CGet_bad (a : Int) (hn : n ≤ 9223372036854775807) (ha : a < 0 ∨ (n : Int) < a) (hl : l.length = n) :
    Calls Try.prog 42 #[.slice A n c, .int .i64 a] w (GetL (fun y => w.heap.size ≤ y) w (getAt l a)) := by
  have e : getAt l a = (Cd.zero, 0, 2) := by unfold getAt; rw [if_pos (by omega)]
  rw [e]
  obtain ⟨w1, hw1⟩ : ∃ w1, w1 = w.alloc (.cells (Cd.zero.cs none 0 0) 47) := ⟨_, rfl⟩
  have R1 := Lib.hid (show Rec 47 w1 w.heap.size (Cd.zero.cs none 0 0) by rw [hw1]; exact Rec.new w _ _)
  have B1 := Lib.hid (show Below w.heap.size w w1 by rw [hw1]; exact (Below.refl _ _).alloc (Nat.le_refl _) _)
  clear e hl
  rcases ha with ha | ha
  all_goals
    go_enter Try.func42, Try.ntmps42
    go_wp2_with (first
      | (rw [← hw1]; clear hw1)
      | ((with_reducible refine wpList_stS (cs' := Cd.zero.cs none 0 0) cdT rfl rfl (by simp [Value.oneCell']) rfl (.tmp 4) (.tmp 17) rfl rfl rfl R1.out ?_); intro wz hRz hFz))
    refine bodyPost_ret (res_ctt rfl rfl (hRz.load cdT rfl)) rfl ?_
    exact ⟨none, 0, 0, rfl, Rd.nil _ _, Nat.le_refl _, B1.out.trans (hFz.toBelow (fun y hy => by have : y = w.heap.size := hy; omega) B1.out.size), fun _ _ e => by cases e⟩

/-- What is handed to the Reader. -/
theorem part_len (hl : l.length = n) (k : Nat) (hk : k ≤ n) : ((l.drop k).take 92).length = min (n - k) 92 := by simp; omega
set_option maxHeartbeats 4000000 in
theorem CGet_ina (k : Nat) (hr : Rd w A n l) (hn : n ≤ 1000000) (hc : n ≤ c) (hcm : c ≤ 9223372036854775807) (hk : k ≤ n) (hv : k = c) :
    Calls Try.prog 42 #[.slice A n c, .int .i64 k] w (GetL (fun y => w.heap.size ≤ y) w (getAt l k)) := by
  have hl := hr.1
  have e : getAt l k = ((getCd (l.drop k)).1, if (getCd (l.drop k)).2.2 = 0 then (k : Int) + (getCd (l.drop k)).2.1 else 0, (getCd (l.drop k)).2.2) := by unfold getAt; rw [if_neg (by omega), Int.toNat_natCast]
  have hs := rd_getCd ((l.drop k).take 92)
  rw [getCd_take, part_len n l hl k hk] at hs
  obtain ⟨z, hz⟩ : ∃ z, z = min (n - k) 92 := ⟨_, rfl⟩
  rw [← hz] at hs
  rw [e]
  clear e
  obtain ⟨⟨x, u, er⟩, hg⟩ : ∃ g, g = getCd (l.drop k) := ⟨_, rfl⟩
  obtain ⟨⟨x2, er2, ⟨lf, ms⟩⟩, hrd⟩ : ∃ g, g = rdCmd ((l.drop k).take 92, false) := ⟨_, rfl⟩
  rw [← hg, ← hrd] at hs
  rw [← hg]
  obtain ⟨s1, s2, s3⟩ := hs
  simp only at s1 s2 s3 ⊢
  subst s1 s2
  obtain ⟨w1, hw1⟩ : ∃ w1, w1 = w.alloc (.cells (Cd.zero.cs none 0 0) 47) := ⟨_, rfl⟩
  have R1 := Lib.hid (show Rec 47 w1 w.heap.size (Cd.zero.cs none 0 0) by rw [hw1]; exact Rec.new w _ _)
  have hb1 : Below w.heap.size w w1 := by rw [hw1]; exact (Below.refl _ _).alloc (Nat.le_refl _) _
  have B1 := Lib.hid hb1
  -- the part
  have hP : ∀ A', (0 < z → ∀ b o, A = some ⟨b, o, none⟩ → A' = some ⟨b, o + k, none⟩) → Rd w1 A' z ((l.drop k).take 92) := fun A' hA => by
    have h := (hr.below (Nat.le_refl _) hb1).part (lo := k) (m := z) (by omega) A' hA
    have e2 : (l.drop k).take z = (l.drop k).take 92 := by
      rw [hz, List.take_eq_take_iff]
      simp
      omega
    rw [e2] at h
    exact h
  have HP := Lib.hid hP
  have HRD := Lib.hid hrd
  have HS3 := Lib.hid s3
  have z1 : min ((n : Int) - (k : Int)) 92 = (z : Int) := by omega
  have z2 : z ≤ n - k := by omega
  have hz92 : z ≤ 92 := by omega
  have hz0 := getCd_zero (l.drop k)
  rw [← hg] at hz0
  simp only at hz0
  have HZ0 := Lib.hid hz0
  have hql : ∀ q : Nat, q = lf.length → q ≤ z := fun q hq => by rw [hq]; have h5 := rdCmd_len ((l.drop k).take 92, false); rw [← hrd] at h5; simp only [part_len n l hl k hk, ← hz] at h5; exact h5
  have HQL := Lib.hid hql
  subst hv
  obtain rfl : z = 0 := by omega
  clear hr hb1 hP hrd s3 hg z1 hl hz0 hql hz
  by_cases he : er2 = 0
  rotate_left 1
  · have hne : (er2 != 0) = true := bne_iff_ne.2 he
    rw [if_neg he]
    have HE := Lib.hid he
    clear he
    go_enter Try.func42, Try.ntmps42
    go_wp2_with (first
      | (rw [← hw1]; clear hw1)
      | (go_at_call 49; refine (RRead_any _ 0 _ ((l.drop k).take 92) w1 (HP.out _ (fun hp0 b o e => by first | (exfalso; omega) | (subst e; simp [Addr.add_lit]))) (by omega)).mono ?_; rintro e w2 ⟨p, rfl, hp, hr2, hb2⟩
         have CR := read_any (st := ((l.drop k).take 92, false)) hr2 (Nat.le_refl _)
         unfold ReadE at CR
         rw [← HRD.out] at CR
         have CR2 := Lib.hid CR
         have H2 := Lib.hid (And.intro (R1.out.under hb2) (And.intro (B1.out.trans (hb2.mono B1.out.size)) (And.intro (show w.heap.size ≠ p by have := R1.out.lt; omega) hp)))
         clear hr2 hb2 hp CR)
      | (go_at_call 50; refine CR2.out.mono ?_; rintro e w3 ⟨y, A9, n9, c9, rfl, hy, hr3, hf3⟩
         have H3 := Lib.hid (And.intro (H2.out.1.fr hf3 H2.out.2.2.1) (And.intro (H2.out.2.1.trans (hf3.toBelow (fun v hv => by have : v = p := hv; have := H2.out.2.2.2; have := B1.out.size; omega) H2.out.2.1.size)) hr3))
         have HY := Lib.hid hy
         clear hr3 hf3 hy CR2)
      | ((with_reducible refine wpList_stS (cs' := y.cs A9 n9 c9) cdT rfl rfl (by simp [Value.oneCell']) rfl (.tmp 4) (.tmp 32) rfl rfl rfl H3.out.1 ?_); intro w4 hR4 hF4
         have H4 := Lib.hid (And.intro hR4 (And.intro hF4 (And.intro (H3.out.2.1.trans (hF4.toBelow (fun v hv => by have : v = w.heap.size := hv; omega) H3.out.2.1.size)) (H3.out.2.2.fr_cd H3.out.1 hF4 H2.out.2.2.1))))
         clear hR4 hF4)
      | ((with_reducible refine wpList_stS (cs' := Cd.zero.cs none 0 0) cdT rfl rfl (by simp [Value.oneCell']) rfl (.tmp 4) (.tmp 36) rfl rfl rfl H4.out.1 ?_); intro wz hRz hFz))
    refine bodyPost_ret (res_ctt rfl rfl (hRz.load cdT rfl)) rfl ?_
    rw [HZ0.out HE.out]
    exact ⟨none, 0, 0, rfl, Rd.nil _ _, Nat.le_refl _, H4.out.2.2.1.trans (hFz.toBelow (fun y hy => by have : y = w.heap.size := hy; omega) H4.out.2.2.1.size), fun _ _ e => by cases e⟩
  · subst he
    rw [if_pos rfl]
    obtain ⟨hu, hu2⟩ := HS3.out rfl
    obtain ⟨q, hq⟩ : ∃ q, q = lf.length := ⟨_, rfl⟩
    rw [← hq] at hu
    obtain ⟨Q, hQ⟩ : ∃ Q : Nat, Q = k + 0 := ⟨_, rfl⟩
    have e1 : IntKind.i64.wrap ((k : Int)) = (Q : Int) := by rw [IntWalk.i64_in _ (by omega)]; omega
    have hqz : q ≤ 0 := HQL.out q hq
    have e2 : IntKind.i64.wrap ((Q : Int) - (q : Int)) = (k : Int) + (u : Int) := by rw [IntWalk.i64_in _ (by omega)]; omega
    have E1 := Lib.hid e1
    have E2 := Lib.hid e2
    have HQ := Lib.hid hq
    clear e1 e2 hQ hqz hu hu2 hq
    go_enter Try.func42, Try.ntmps42
    go_upto_region 8 with (first
      | (rw [← hw1]; clear hw1)
      | (go_at_call 49; refine (RRead_any _ 0 _ ((l.drop k).take 92) w1 (HP.out _ (fun hp0 b o e => by first | (exfalso; omega) | (subst e; simp [Addr.add_lit]))) (by omega)).mono ?_; rintro e w2 ⟨p, rfl, hp, hr2, hb2⟩
         have CR := read_any (st := ((l.drop k).take 92, false)) hr2 (Nat.le_refl _)
         unfold ReadE at CR
         rw [← HRD.out] at CR
         have CR2 := Lib.hid CR
         have H2 := Lib.hid (And.intro (R1.out.under hb2) (And.intro (B1.out.trans (hb2.mono B1.out.size)) (And.intro (show w.heap.size ≠ p by have := R1.out.lt; omega) hp)))
         clear hr2 hb2 hp CR)
      | (go_at_call 50; refine CR2.out.mono ?_; rintro e w3 ⟨y, A9, n9, c9, rfl, hy, hr3, hf3⟩
         have H3 := Lib.hid (And.intro (H2.out.1.fr hf3 H2.out.2.2.1) (And.intro (H2.out.2.1.trans (hf3.toBelow (fun v hv => by have : v = p := hv; have := H2.out.2.2.2; have := B1.out.size; omega) H2.out.2.1.size)) hr3))
         have HY := Lib.hid hy
         clear hr3 hf3 hy CR2)
      | ((with_reducible refine wpList_stS (cs' := y.cs A9 n9 c9) cdT rfl rfl (by simp [Value.oneCell']) rfl (.tmp 4) (.tmp 32) rfl rfl rfl H3.out.1 ?_); intro w4 hR4 hF4
         have H4 := Lib.hid (And.intro hR4 (And.intro hF4 (And.intro (H3.out.2.1.trans (hF4.toBelow (fun v hv => by have : v = w.heap.size := hv; omega) H3.out.2.1.size)) (H3.out.2.2.fr_cd H3.out.1 hF4 H2.out.2.2.1))))
         clear hR4 hF4))
    have D4 := Lib.hid (show Rec 47 w4.drew w.heap.size (y.cs A9 n9 c9) ∧ RdrIs w2.heap.size w4.drew p (lf, ms) ∧ Below w.heap.size w w4.drew from ⟨H4.out.1, H4.out.2.2.2.below (Below.refl _ _).drew, H4.out.2.2.1.drew⟩)
    have CL := Left_any D4.out.2.1
    simp only [← HQ.out] at CL
    have CL2 := Lib.hid CL
    have e1 := E1.out
    have e2 := E2.out
    clear CL
    refine wp_region_noPanic ?_
    refine wp_region_held_drew (S := fun W => True) (by kernel_rfl) trivial (fun hHeld => ?_)
    refine wpAnyH_take (i := 1) (oi := { dst := some 39, op := Op.move (Operand.tmp 1), type := 3, pos := "cmd.go:88", after := #[{ on := 8, ground := Ground.gcOnly Departure.lateStores }], guard := none }) (v := ?_) rfl (by kernel_rfl) (by kernel_rfl) (by kernel_rfl) (fun _ _ _ h => h) (Or.inl ⟨by rfl, ?_⟩) (by assumption) ?_
    rotate_left 1
    · intro w' hSw; (try dsimp only at hSw); go_simp; (try with_reducible rfl)
    simp only [Act.put, List.setIfInBounds_toArray, List.set_cons_zero, List.set_cons_succ]
    refine wpAnyH_take (i := 2) (oi := { dst := some 40, op := Op.move (Operand.tmp 7), type := 25, pos := "cmd.go:88", after := #[], guard := none }) (v := ?_) rfl (by kernel_rfl) (by kernel_rfl) (by kernel_rfl) (fun _ _ _ h => h) (Or.inl ⟨by rfl, ?_⟩) (by assumption) ?_
    rotate_left 1
    · intro w' hSw; (try dsimp only at hSw); go_simp; (try with_reducible rfl)
    simp only [Act.put, List.setIfInBounds_toArray, List.set_cons_zero, List.set_cons_succ]
    refine wpAnyH_take (i := 3) (oi := { dst := some 41, op := Op.call { callee := Callee.builtin Builtin.len, args := #[Operand.tmp 40], argTypes := #[25] }, type := 3, pos := "cmd.go:88", after := #[{ on := 2, ground := Ground.data }], guard := none }) (v := ?_) rfl (by kernel_rfl) (by kernel_rfl) (by kernel_rfl) (fun _ _ _ h => h) (Or.inl ⟨by rfl, ?_⟩) (by assumption) ?_
    rotate_left 1
    · intro w' hSw; (try dsimp only at hSw); go_simp; (try with_reducible rfl)
    simp only [Act.put, List.setIfInBounds_toArray, List.set_cons_zero, List.set_cons_succ]
    refine wpAnyH_take (i := 4) (oi := { dst := some 42, op := Op.binOp BinOp.add 3 (Operand.tmp 39) (Operand.tmp 41) 3, type := 3, pos := "cmd.go:88", after := #[{ on := 1, ground := Ground.data }, { on := 3, ground := Ground.data }, { on := 8, ground := Ground.gcOnly Departure.lateStores }], guard := none }) (v := ?_) rfl (by kernel_rfl) (by kernel_rfl) (by kernel_rfl) (fun _ _ _ h => h) (Or.inl ⟨by rfl, ?_⟩) (by assumption) ?_
    rotate_left 1
    · intro w' hSw; (try dsimp only at hSw); go_simp; (try with_reducible rfl)
    simp only [Act.put, List.setIfInBounds_toArray, List.set_cons_zero, List.set_cons_succ]
    refine wpAnyH_take (i := 5) (oi := { dst := some 43, op := Op.move (Operand.tmp 8), type := 85, pos := "cmd.go:88", after := #[], guard := none }) (v := ?_) rfl (by kernel_rfl) (by kernel_rfl) (by kernel_rfl) (fun _ _ _ h => h) (Or.inl ⟨by rfl, ?_⟩) (by assumption) ?_
    rotate_left 1
    · intro w' hSw; (try dsimp only at hSw); go_simp; (try with_reducible rfl)
    simp only [Act.put, List.setIfInBounds_toArray, List.set_cons_zero, List.set_cons_succ]
    refine wpAnyH_ready (rs := [0, 6]) (by kernel_rfl) (by simp) ?_
    refine AllReadyH.cons (o := { dst := some 38, op := Op.load 47 (Operand.tmp 4), type := 47, pos := "cmd.go:88", after := #[], guard := none }) rfl (fun K' hK => ?_) (AllReadyH.cons (o := { dst := some 44, op := Op.call { callee := Callee.value (Operand.func 51), args := #[Operand.tmp 43], argTypes := #[85] }, type := 3, pos := "cmd.go:88", after := #[{ on := 5, ground := Ground.data }], guard := none }) rfl (fun K' hK => ?_) AllReadyH.nil)
    · refine step_ldS cdT rfl rfl (.tmp 4) rfl rfl D4.out.1 ?_
      refine hK.out _ _ trivial (fun hHeld => ?_)
      clear hK K'
      try simp only [Act.put, List.setIfInBounds_toArray, List.set_cons_zero, List.set_cons_succ]
      refine wpAnyH_ready (rs := [6]) (by kernel_rfl) (by simp) ?_
      refine AllReadyH.cons (o := { dst := some 44, op := Op.call { callee := Callee.value (Operand.func 51), args := #[Operand.tmp 43], argTypes := #[85] }, type := 3, pos := "cmd.go:88", after := #[{ on := 5, ground := Ground.data }], guard := none }) rfl (fun K' hK => ?_) AllReadyH.nil
      go_simp
      go_at_call 51; refine CL2.out.mono ?_; rintro e w' ⟨rfl, hw'⟩; subst hw'
      refine hK.out _ _ trivial (fun hHeld => ?_)
      clear hK K'
      try simp only [Act.put, List.setIfInBounds_toArray, List.set_cons_zero, List.set_cons_succ]
      refine wpAnyH_take (i := 7) (oi := { dst := some 45, op := Op.binOp BinOp.sub 3 (Operand.tmp 42) (Operand.tmp 44) 3, type := 3, pos := "cmd.go:88", after := #[{ on := 4, ground := Ground.data }, { on := 6, ground := Ground.data }, { on := 8, ground := Ground.gcOnly Departure.lateStores }], guard := none }) (v := ?_) rfl (by kernel_rfl) (by kernel_rfl) (by kernel_rfl) (fun _ _ _ h => h) (Or.inl ⟨by rfl, ?_⟩) (by assumption) ?_
      rotate_left 1
      · intro w' hSw; (try dsimp only at hSw); go_simp; (try with_reducible rfl)
      simp only [Act.put, List.setIfInBounds_toArray, List.set_cons_zero, List.set_cons_succ]
      refine wpAnyH_ready (rs := [8]) (by kernel_rfl) (by simp) ?_
      refine AllReadyH.cons (o := { dst := none, op := Op.store 47 (Operand.tmp 4) (Operand.tmp 38), type := 0, pos := "cmd.go:88", after := #[{ on := 0, ground := Ground.data }, { on := 6, ground := Ground.chain }, { on := 0, ground := Ground.phase }, { on := 1, ground := Ground.textOnly Departure.lateStores }, { on := 2, ground := Ground.textOnly Departure.lateStores }, { on := 3, ground := Ground.textOnly Departure.lateStoresUnsure }, { on := 4, ground := Ground.textOnly Departure.lateStores }, { on := 5, ground := Ground.textOnly Departure.lateStores }, { on := 6, ground := Ground.textOnly Departure.lateStoresUnsure }, { on := 7, ground := Ground.textOnly Departure.lateStores }], guard := none }) rfl (fun K' hK => ?_) AllReadyH.nil
      refine step_stS (cs' := y.cs A9 n9 c9) cdT rfl rfl (by simp [Value.oneCell']) rfl (.tmp 4) (.tmp 38) rfl rfl rfl D4.out.1 ?_
      intro wz hRz hFz
      refine hK.out _ _ trivial (fun hHeld => ?_)
      clear hK K'
      try simp only [Act.put]
      refine wpAnyH_take (i := 9) (oi := { dst := some 5, op := Op.assign (Operand.tmp 45), type := 3, pos := "cmd.go:88", after := #[{ on := 7, ground := Ground.data }, { on := 8, ground := Ground.chain }, { on := 0, ground := Ground.phase }, { on := 1, ground := Ground.phase }, { on := 2, ground := Ground.phase }, { on := 3, ground := Ground.phase }, { on := 4, ground := Ground.phase }, { on := 5, ground := Ground.phase }, { on := 6, ground := Ground.phase }, { on := 7, ground := Ground.phase }, { on := 8, ground := Ground.phase }], guard := none }) (v := ?_) rfl (by kernel_rfl) (by kernel_rfl) (by kernel_rfl) (fun _ _ _ h => h) (Or.inl ⟨by rfl, ?_⟩) (by assumption) ?_
      rotate_left 1
      · intro w' hSw; (try dsimp only at hSw); go_simp; (try with_reducible rfl)
      simp only [Act.put, List.setIfInBounds_toArray, List.set_cons_zero, List.set_cons_succ]
      refine wpAnyH_take (i := 10) (oi := { dst := some 6, op := Op.assign (Operand.const (Value.int IntKind.i64 0)), type := 26, pos := "cmd.go:88", after := #[{ on := 9, ground := Ground.chain }, { on := 0, ground := Ground.phase }, { on := 1, ground := Ground.phase }, { on := 2, ground := Ground.phase }, { on := 3, ground := Ground.phase }, { on := 4, ground := Ground.phase }, { on := 5, ground := Ground.phase }, { on := 6, ground := Ground.phase }, { on := 7, ground := Ground.phase }, { on := 8, ground := Ground.phase }, { on := 9, ground := Ground.phase }], guard := none }) (v := ?_) rfl (by kernel_rfl) (by kernel_rfl) (by kernel_rfl) (fun _ _ _ h => h) (Or.inl ⟨by rfl, ?_⟩) (by assumption) ?_
      rotate_left 1
      · intro w' hSw; (try dsimp only at hSw); go_simp; (try with_reducible rfl)
      simp only [Act.put, List.setIfInBounds_toArray, List.set_cons_zero, List.set_cons_succ]
      refine wpAnyH_done (by kernel_rfl) ?_ _
      refine NoPanic.normal ?_
      clear hHeld
      go_wp2
      refine bodyPost_ret (res_ctt rfl rfl (hRz.load cdT rfl)) rfl ?_
      obtain ⟨rfl, hr9, hc9, hlo9⟩ := (show y = x2 ∧ Rd w3 A9 n9 y.dt ∧ n9 ≤ c9 ∧ ∀ b o, A9 = some ⟨b, o, none⟩ → 0 < n9 → w2.heap.size ≤ b by first | exact HY.out rfl | exact HY.out trivial)
      refine ⟨A9, n9, c9, ?_, ?_, hc9, D4.out.2.2.trans (hFz.toBelow (fun v hv => by have : v = w.heap.size := hv; omega) D4.out.2.2.size), fun b o e hp => by have := hlo9 b o e hp; have := H2.out.2.1.size; omega⟩
      · rfl
      · exact (hr9.fr H4.out.2.1 (fun b o e hp => hr9.ne_cd H3.out.1 b o e hp)).drew.fr hFz (fun b o e hp => (hr9.fr H4.out.2.1 (fun b o e hp => hr9.ne_cd H3.out.1 b o e hp)).drew.ne_cd D4.out.1 b o e hp)
    · go_simp
      go_at_call 51; refine CL2.out.mono ?_; rintro e w' ⟨rfl, hw'⟩; subst hw'
      refine hK.out _ _ trivial (fun hHeld => ?_)
      clear hK K'
      try simp only [Act.put, List.setIfInBounds_toArray, List.set_cons_zero, List.set_cons_succ]
      refine wpAnyH_take (i := 7) (oi := { dst := some 45, op := Op.binOp BinOp.sub 3 (Operand.tmp 42) (Operand.tmp 44) 3, type := 3, pos := "cmd.go:88", after := #[{ on := 4, ground := Ground.data }, { on := 6, ground := Ground.data }, { on := 8, ground := Ground.gcOnly Departure.lateStores }], guard := none }) (v := ?_) rfl (by kernel_rfl) (by kernel_rfl) (by kernel_rfl) (fun _ _ _ h => h) (Or.inl ⟨by rfl, ?_⟩) (by assumption) ?_
      rotate_left 1
      · intro w' hSw; (try dsimp only at hSw); go_simp; (try with_reducible rfl)
      simp only [Act.put, List.setIfInBounds_toArray, List.set_cons_zero, List.set_cons_succ]
      refine wpAnyH_ready (rs := [0]) (by kernel_rfl) (by simp) ?_
      refine AllReadyH.cons (o := { dst := some 38, op := Op.load 47 (Operand.tmp 4), type := 47, pos := "cmd.go:88", after := #[], guard := none }) rfl (fun K' hK => ?_) AllReadyH.nil
      refine step_ldS cdT rfl rfl (.tmp 4) rfl rfl D4.out.1 ?_
      refine hK.out _ _ trivial (fun hHeld => ?_)
      clear hK K'
      try simp only [Act.put, List.setIfInBounds_toArray, List.set_cons_zero, List.set_cons_succ]
      refine wpAnyH_ready (rs := [8]) (by kernel_rfl) (by simp) ?_
      refine AllReadyH.cons (o := { dst := none, op := Op.store 47 (Operand.tmp 4) (Operand.tmp 38), type := 0, pos := "cmd.go:88", after := #[{ on := 0, ground := Ground.data }, { on := 6, ground := Ground.chain }, { on := 0, ground := Ground.phase }, { on := 1, ground := Ground.textOnly Departure.lateStores }, { on := 2, ground := Ground.textOnly Departure.lateStores }, { on := 3, ground := Ground.textOnly Departure.lateStoresUnsure }, { on := 4, ground := Ground.textOnly Departure.lateStores }, { on := 5, ground := Ground.textOnly Departure.lateStores }, { on := 6, ground := Ground.textOnly Departure.lateStoresUnsure }, { on := 7, ground := Ground.textOnly Departure.lateStores }], guard := none }) rfl (fun K' hK => ?_) AllReadyH.nil
      refine step_stS (cs' := y.cs A9 n9 c9) cdT rfl rfl (by simp [Value.oneCell']) rfl (.tmp 4) (.tmp 38) rfl rfl rfl D4.out.1 ?_
      intro wz hRz hFz
      refine hK.out _ _ trivial (fun hHeld => ?_)
      clear hK K'
      try simp only [Act.put]
      refine wpAnyH_take (i := 9) (oi := { dst := some 5, op := Op.assign (Operand.tmp 45), type := 3, pos := "cmd.go:88", after := #[{ on := 7, ground := Ground.data }, { on := 8, ground := Ground.chain }, { on := 0, ground := Ground.phase }, { on := 1, ground := Ground.phase }, { on := 2, ground := Ground.phase }, { on := 3, ground := Ground.phase }, { on := 4, ground := Ground.phase }, { on := 5, ground := Ground.phase }, { on := 6, ground := Ground.phase }, { on := 7, ground := Ground.phase }, { on := 8, ground := Ground.phase }], guard := none }) (v := ?_) rfl (by kernel_rfl) (by kernel_rfl) (by kernel_rfl) (fun _ _ _ h => h) (Or.inl ⟨by rfl, ?_⟩) (by assumption) ?_
      rotate_left 1
      · intro w' hSw; (try dsimp only at hSw); go_simp; (try with_reducible rfl)
      simp only [Act.put, List.setIfInBounds_toArray, List.set_cons_zero, List.set_cons_succ]
      refine wpAnyH_take (i := 10) (oi := { dst := some 6, op := Op.assign (Operand.const (Value.int IntKind.i64 0)), type := 26, pos := "cmd.go:88", after := #[{ on := 9, ground := Ground.chain }, { on := 0, ground := Ground.phase }, { on := 1, ground := Ground.phase }, { on := 2, ground := Ground.phase }, { on := 3, ground := Ground.phase }, { on := 4, ground := Ground.phase }, { on := 5, ground := Ground.phase }, { on := 6, ground := Ground.phase }, { on := 7, ground := Ground.phase }, { on := 8, ground := Ground.phase }, { on := 9, ground := Ground.phase }], guard := none }) (v := ?_) rfl (by kernel_rfl) (by kernel_rfl) (by kernel_rfl) (fun _ _ _ h => h) (Or.inl ⟨by rfl, ?_⟩) (by assumption) ?_
      rotate_left 1
      · intro w' hSw; (try dsimp only at hSw); go_simp; (try with_reducible rfl)
      simp only [Act.put, List.setIfInBounds_toArray, List.set_cons_zero, List.set_cons_succ]
      refine wpAnyH_done (by kernel_rfl) ?_ _
      refine NoPanic.normal ?_
      clear hHeld
      go_wp2
      refine bodyPost_ret (res_ctt rfl rfl (hRz.load cdT rfl)) rfl ?_
      obtain ⟨rfl, hr9, hc9, hlo9⟩ := (show y = x2 ∧ Rd w3 A9 n9 y.dt ∧ n9 ≤ c9 ∧ ∀ b o, A9 = some ⟨b, o, none⟩ → 0 < n9 → w2.heap.size ≤ b by first | exact HY.out rfl | exact HY.out trivial)
      refine ⟨A9, n9, c9, ?_, ?_, hc9, D4.out.2.2.trans (hFz.toBelow (fun v hv => by have : v = w.heap.size := hv; omega) D4.out.2.2.size), fun b o e hp => by have := hlo9 b o e hp; have := H2.out.2.1.size; omega⟩
      · rfl
      · exact (hr9.fr H4.out.2.1 (fun b o e hp => hr9.ne_cd H3.out.1 b o e hp)).drew.fr hFz (fun b o e hp => (hr9.fr H4.out.2.1 (fun b o e hp => hr9.ne_cd H3.out.1 b o e hp)).drew.ne_cd D4.out.1 b o e hp)

set_option maxHeartbeats 4000000 in
theorem CGet_inb (k : Nat) (hr : Rd w A n l) (hn : n ≤ 1000000) (hc : n ≤ c) (hcm : c ≤ 9223372036854775807) (hk : k ≤ n) (hv : ¬ k = c) (h92 : (92 : Int) < (n : Int) - k) :
    Calls Try.prog 42 #[.slice A n c, .int .i64 k] w (GetL (fun y => w.heap.size ≤ y) w (getAt l k)) := by
  have hl := hr.1
  have e : getAt l k = ((getCd (l.drop k)).1, if (getCd (l.drop k)).2.2 = 0 then (k : Int) + (getCd (l.drop k)).2.1 else 0, (getCd (l.drop k)).2.2) := by unfold getAt; rw [if_neg (by omega), Int.toNat_natCast]
  have hs := rd_getCd ((l.drop k).take 92)
  rw [getCd_take, part_len n l hl k hk] at hs
  obtain ⟨z, hz⟩ : ∃ z, z = min (n - k) 92 := ⟨_, rfl⟩
  rw [← hz] at hs
  rw [e]
  clear e
  obtain ⟨⟨x, u, er⟩, hg⟩ : ∃ g, g = getCd (l.drop k) := ⟨_, rfl⟩
  obtain ⟨⟨x2, er2, ⟨lf, ms⟩⟩, hrd⟩ : ∃ g, g = rdCmd ((l.drop k).take 92, false) := ⟨_, rfl⟩
  rw [← hg, ← hrd] at hs
  rw [← hg]
  obtain ⟨s1, s2, s3⟩ := hs
  simp only at s1 s2 s3 ⊢
  subst s1 s2
  obtain ⟨w1, hw1⟩ : ∃ w1, w1 = w.alloc (.cells (Cd.zero.cs none 0 0) 47) := ⟨_, rfl⟩
  have R1 := Lib.hid (show Rec 47 w1 w.heap.size (Cd.zero.cs none 0 0) by rw [hw1]; exact Rec.new w _ _)
  have hb1 : Below w.heap.size w w1 := by rw [hw1]; exact (Below.refl _ _).alloc (Nat.le_refl _) _
  have B1 := Lib.hid hb1
  -- the part
  have hP : ∀ A', (0 < z → ∀ b o, A = some ⟨b, o, none⟩ → A' = some ⟨b, o + k, none⟩) → Rd w1 A' z ((l.drop k).take 92) := fun A' hA => by
    have h := (hr.below (Nat.le_refl _) hb1).part (lo := k) (m := z) (by omega) A' hA
    have e2 : (l.drop k).take z = (l.drop k).take 92 := by
      rw [hz, List.take_eq_take_iff]
      simp
      omega
    rw [e2] at h
    exact h
  have HP := Lib.hid hP
  have HRD := Lib.hid hrd
  have HS3 := Lib.hid s3
  have z1 : min ((n : Int) - (k : Int)) 92 = (z : Int) := by omega
  have z2 : z ≤ n - k := by omega
  have hz92 : z ≤ 92 := by omega
  have hz0 := getCd_zero (l.drop k)
  rw [← hg] at hz0
  simp only at hz0
  have HZ0 := Lib.hid hz0
  have hql : ∀ q : Nat, q = lf.length → q ≤ z := fun q hq => by rw [hq]; have h5 := rdCmd_len ((l.drop k).take 92, false); rw [← hrd] at h5; simp only [part_len n l hl k hk, ← hz] at h5; exact h5
  have HQL := Lib.hid hql
  obtain rfl : z = 92 := by omega
  clear hr hb1 hP hrd s3 hg z1 hl hz0 hql hz
  by_cases he : er2 = 0
  rotate_left 1
  · have hne : (er2 != 0) = true := bne_iff_ne.2 he
    rw [if_neg he]
    have HE := Lib.hid he
    clear he
    go_enter Try.func42, Try.ntmps42
    go_wp2_with (first
      | (rw [← hw1]; clear hw1)
      | (go_at_call 49; refine (RRead_any _ 92 _ ((l.drop k).take 92) w1 (HP.out _ (fun hp0 b o e => by first | (exfalso; omega) | (subst e; simp [Addr.add_lit]))) (by omega)).mono ?_; rintro e w2 ⟨p, rfl, hp, hr2, hb2⟩
         have CR := read_any (st := ((l.drop k).take 92, false)) hr2 (Nat.le_refl _)
         unfold ReadE at CR
         rw [← HRD.out] at CR
         have CR2 := Lib.hid CR
         have H2 := Lib.hid (And.intro (R1.out.under hb2) (And.intro (B1.out.trans (hb2.mono B1.out.size)) (And.intro (show w.heap.size ≠ p by have := R1.out.lt; omega) hp)))
         clear hr2 hb2 hp CR)
      | (go_at_call 50; refine CR2.out.mono ?_; rintro e w3 ⟨y, A9, n9, c9, rfl, hy, hr3, hf3⟩
         have H3 := Lib.hid (And.intro (H2.out.1.fr hf3 H2.out.2.2.1) (And.intro (H2.out.2.1.trans (hf3.toBelow (fun v hv => by have : v = p := hv; have := H2.out.2.2.2; have := B1.out.size; omega) H2.out.2.1.size)) hr3))
         have HY := Lib.hid hy
         clear hr3 hf3 hy CR2)
      | ((with_reducible refine wpList_stS (cs' := y.cs A9 n9 c9) cdT rfl rfl (by simp [Value.oneCell']) rfl (.tmp 4) (.tmp 32) rfl rfl rfl H3.out.1 ?_); intro w4 hR4 hF4
         have H4 := Lib.hid (And.intro hR4 (And.intro hF4 (And.intro (H3.out.2.1.trans (hF4.toBelow (fun v hv => by have : v = w.heap.size := hv; omega) H3.out.2.1.size)) (H3.out.2.2.fr_cd H3.out.1 hF4 H2.out.2.2.1))))
         clear hR4 hF4)
      | ((with_reducible refine wpList_stS (cs' := Cd.zero.cs none 0 0) cdT rfl rfl (by simp [Value.oneCell']) rfl (.tmp 4) (.tmp 36) rfl rfl rfl H4.out.1 ?_); intro wz hRz hFz))
    refine bodyPost_ret (res_ctt rfl rfl (hRz.load cdT rfl)) rfl ?_
    rw [HZ0.out HE.out]
    exact ⟨none, 0, 0, rfl, Rd.nil _ _, Nat.le_refl _, H4.out.2.2.1.trans (hFz.toBelow (fun y hy => by have : y = w.heap.size := hy; omega) H4.out.2.2.1.size), fun _ _ e => by cases e⟩
  · subst he
    rw [if_pos rfl]
    obtain ⟨hu, hu2⟩ := HS3.out rfl
    obtain ⟨q, hq⟩ : ∃ q, q = lf.length := ⟨_, rfl⟩
    rw [← hq] at hu
    obtain ⟨Q, hQ⟩ : ∃ Q : Nat, Q = k + 92 := ⟨_, rfl⟩
    have e1 : IntKind.i64.wrap ((k : Int) + 92) = (Q : Int) := by rw [IntWalk.i64_in _ (by omega)]; omega
    have hqz : q ≤ 92 := HQL.out q hq
    have e2 : IntKind.i64.wrap ((Q : Int) - (q : Int)) = (k : Int) + (u : Int) := by rw [IntWalk.i64_in _ (by omega)]; omega
    have E1 := Lib.hid e1
    have E2 := Lib.hid e2
    have HQ := Lib.hid hq
    clear e1 e2 hQ hqz hu hu2 hq
    go_enter Try.func42, Try.ntmps42
    go_upto_region 8 with (first
      | (rw [← hw1]; clear hw1)
      | (go_at_call 49; refine (RRead_any _ 92 _ ((l.drop k).take 92) w1 (HP.out _ (fun hp0 b o e => by first | (exfalso; omega) | (subst e; simp [Addr.add_lit]))) (by omega)).mono ?_; rintro e w2 ⟨p, rfl, hp, hr2, hb2⟩
         have CR := read_any (st := ((l.drop k).take 92, false)) hr2 (Nat.le_refl _)
         unfold ReadE at CR
         rw [← HRD.out] at CR
         have CR2 := Lib.hid CR
         have H2 := Lib.hid (And.intro (R1.out.under hb2) (And.intro (B1.out.trans (hb2.mono B1.out.size)) (And.intro (show w.heap.size ≠ p by have := R1.out.lt; omega) hp)))
         clear hr2 hb2 hp CR)
      | (go_at_call 50; refine CR2.out.mono ?_; rintro e w3 ⟨y, A9, n9, c9, rfl, hy, hr3, hf3⟩
         have H3 := Lib.hid (And.intro (H2.out.1.fr hf3 H2.out.2.2.1) (And.intro (H2.out.2.1.trans (hf3.toBelow (fun v hv => by have : v = p := hv; have := H2.out.2.2.2; have := B1.out.size; omega) H2.out.2.1.size)) hr3))
         have HY := Lib.hid hy
         clear hr3 hf3 hy CR2)
      | ((with_reducible refine wpList_stS (cs' := y.cs A9 n9 c9) cdT rfl rfl (by simp [Value.oneCell']) rfl (.tmp 4) (.tmp 32) rfl rfl rfl H3.out.1 ?_); intro w4 hR4 hF4
         have H4 := Lib.hid (And.intro hR4 (And.intro hF4 (And.intro (H3.out.2.1.trans (hF4.toBelow (fun v hv => by have : v = w.heap.size := hv; omega) H3.out.2.1.size)) (H3.out.2.2.fr_cd H3.out.1 hF4 H2.out.2.2.1))))
         clear hR4 hF4))
    have D4 := Lib.hid (show Rec 47 w4.drew w.heap.size (y.cs A9 n9 c9) ∧ RdrIs w2.heap.size w4.drew p (lf, ms) ∧ Below w.heap.size w w4.drew from ⟨H4.out.1, H4.out.2.2.2.below (Below.refl _ _).drew, H4.out.2.2.1.drew⟩)
    have CL := Left_any D4.out.2.1
    simp only [← HQ.out] at CL
    have CL2 := Lib.hid CL
    have e1 := E1.out
    have e2 := E2.out
    clear CL
    refine wp_region_noPanic ?_
    refine wp_region_held_drew (S := fun W => True) (by kernel_rfl) trivial (fun hHeld => ?_)
    refine wpAnyH_take (i := 1) (oi := { dst := some 39, op := Op.move (Operand.tmp 1), type := 3, pos := "cmd.go:88", after := #[{ on := 8, ground := Ground.gcOnly Departure.lateStores }], guard := none }) (v := ?_) rfl (by kernel_rfl) (by kernel_rfl) (by kernel_rfl) (fun _ _ _ h => h) (Or.inl ⟨by rfl, ?_⟩) (by assumption) ?_
    rotate_left 1
    · intro w' hSw; (try dsimp only at hSw); go_simp; (try with_reducible rfl)
    simp only [Act.put, List.setIfInBounds_toArray, List.set_cons_zero, List.set_cons_succ]
    refine wpAnyH_take (i := 2) (oi := { dst := some 40, op := Op.move (Operand.tmp 7), type := 25, pos := "cmd.go:88", after := #[], guard := none }) (v := ?_) rfl (by kernel_rfl) (by kernel_rfl) (by kernel_rfl) (fun _ _ _ h => h) (Or.inl ⟨by rfl, ?_⟩) (by assumption) ?_
    rotate_left 1
    · intro w' hSw; (try dsimp only at hSw); go_simp; (try with_reducible rfl)
    simp only [Act.put, List.setIfInBounds_toArray, List.set_cons_zero, List.set_cons_succ]
    refine wpAnyH_take (i := 3) (oi := { dst := some 41, op := Op.call { callee := Callee.builtin Builtin.len, args := #[Operand.tmp 40], argTypes := #[25] }, type := 3, pos := "cmd.go:88", after := #[{ on := 2, ground := Ground.data }], guard := none }) (v := ?_) rfl (by kernel_rfl) (by kernel_rfl) (by kernel_rfl) (fun _ _ _ h => h) (Or.inl ⟨by rfl, ?_⟩) (by assumption) ?_
    rotate_left 1
    · intro w' hSw; (try dsimp only at hSw); go_simp; (try with_reducible rfl)
    simp only [Act.put, List.setIfInBounds_toArray, List.set_cons_zero, List.set_cons_succ]
    refine wpAnyH_take (i := 4) (oi := { dst := some 42, op := Op.binOp BinOp.add 3 (Operand.tmp 39) (Operand.tmp 41) 3, type := 3, pos := "cmd.go:88", after := #[{ on := 1, ground := Ground.data }, { on := 3, ground := Ground.data }, { on := 8, ground := Ground.gcOnly Departure.lateStores }], guard := none }) (v := ?_) rfl (by kernel_rfl) (by kernel_rfl) (by kernel_rfl) (fun _ _ _ h => h) (Or.inl ⟨by rfl, ?_⟩) (by assumption) ?_
    rotate_left 1
    · intro w' hSw; (try dsimp only at hSw); go_simp; (try with_reducible rfl)
    simp only [Act.put, List.setIfInBounds_toArray, List.set_cons_zero, List.set_cons_succ]
    refine wpAnyH_take (i := 5) (oi := { dst := some 43, op := Op.move (Operand.tmp 8), type := 85, pos := "cmd.go:88", after := #[], guard := none }) (v := ?_) rfl (by kernel_rfl) (by kernel_rfl) (by kernel_rfl) (fun _ _ _ h => h) (Or.inl ⟨by rfl, ?_⟩) (by assumption) ?_
    rotate_left 1
    · intro w' hSw; (try dsimp only at hSw); go_simp; (try with_reducible rfl)
    simp only [Act.put, List.setIfInBounds_toArray, List.set_cons_zero, List.set_cons_succ]
    refine wpAnyH_ready (rs := [0, 6]) (by kernel_rfl) (by simp) ?_
    refine AllReadyH.cons (o := { dst := some 38, op := Op.load 47 (Operand.tmp 4), type := 47, pos := "cmd.go:88", after := #[], guard := none }) rfl (fun K' hK => ?_) (AllReadyH.cons (o := { dst := some 44, op := Op.call { callee := Callee.value (Operand.func 51), args := #[Operand.tmp 43], argTypes := #[85] }, type := 3, pos := "cmd.go:88", after := #[{ on := 5, ground := Ground.data }], guard := none }) rfl (fun K' hK => ?_) AllReadyH.nil)
    · refine step_ldS cdT rfl rfl (.tmp 4) rfl rfl D4.out.1 ?_
      refine hK.out _ _ trivial (fun hHeld => ?_)
      clear hK K'
      try simp only [Act.put, List.setIfInBounds_toArray, List.set_cons_zero, List.set_cons_succ]
      refine wpAnyH_ready (rs := [6]) (by kernel_rfl) (by simp) ?_
      refine AllReadyH.cons (o := { dst := some 44, op := Op.call { callee := Callee.value (Operand.func 51), args := #[Operand.tmp 43], argTypes := #[85] }, type := 3, pos := "cmd.go:88", after := #[{ on := 5, ground := Ground.data }], guard := none }) rfl (fun K' hK => ?_) AllReadyH.nil
      go_simp
      go_at_call 51; refine CL2.out.mono ?_; rintro e w' ⟨rfl, hw'⟩; subst hw'
      refine hK.out _ _ trivial (fun hHeld => ?_)
      clear hK K'
      try simp only [Act.put, List.setIfInBounds_toArray, List.set_cons_zero, List.set_cons_succ]
      refine wpAnyH_take (i := 7) (oi := { dst := some 45, op := Op.binOp BinOp.sub 3 (Operand.tmp 42) (Operand.tmp 44) 3, type := 3, pos := "cmd.go:88", after := #[{ on := 4, ground := Ground.data }, { on := 6, ground := Ground.data }, { on := 8, ground := Ground.gcOnly Departure.lateStores }], guard := none }) (v := ?_) rfl (by kernel_rfl) (by kernel_rfl) (by kernel_rfl) (fun _ _ _ h => h) (Or.inl ⟨by rfl, ?_⟩) (by assumption) ?_
      rotate_left 1
      · intro w' hSw; (try dsimp only at hSw); go_simp; (try with_reducible rfl)
      simp only [Act.put, List.setIfInBounds_toArray, List.set_cons_zero, List.set_cons_succ]
      refine wpAnyH_ready (rs := [8]) (by kernel_rfl) (by simp) ?_
      refine AllReadyH.cons (o := { dst := none, op := Op.store 47 (Operand.tmp 4) (Operand.tmp 38), type := 0, pos := "cmd.go:88", after := #[{ on := 0, ground := Ground.data }, { on := 6, ground := Ground.chain }, { on := 0, ground := Ground.phase }, { on := 1, ground := Ground.textOnly Departure.lateStores }, { on := 2, ground := Ground.textOnly Departure.lateStores }, { on := 3, ground := Ground.textOnly Departure.lateStoresUnsure }, { on := 4, ground := Ground.textOnly Departure.lateStores }, { on := 5, ground := Ground.textOnly Departure.lateStores }, { on := 6, ground := Ground.textOnly Departure.lateStoresUnsure }, { on := 7, ground := Ground.textOnly Departure.lateStores }], guard := none }) rfl (fun K' hK => ?_) AllReadyH.nil
      refine step_stS (cs' := y.cs A9 n9 c9) cdT rfl rfl (by simp [Value.oneCell']) rfl (.tmp 4) (.tmp 38) rfl rfl rfl D4.out.1 ?_
      intro wz hRz hFz
      refine hK.out _ _ trivial (fun hHeld => ?_)
      clear hK K'
      try simp only [Act.put]
      refine wpAnyH_take (i := 9) (oi := { dst := some 5, op := Op.assign (Operand.tmp 45), type := 3, pos := "cmd.go:88", after := #[{ on := 7, ground := Ground.data }, { on := 8, ground := Ground.chain }, { on := 0, ground := Ground.phase }, { on := 1, ground := Ground.phase }, { on := 2, ground := Ground.phase }, { on := 3, ground := Ground.phase }, { on := 4, ground := Ground.phase }, { on := 5, ground := Ground.phase }, { on := 6, ground := Ground.phase }, { on := 7, ground := Ground.phase }, { on := 8, ground := Ground.phase }], guard := none }) (v := ?_) rfl (by kernel_rfl) (by kernel_rfl) (by kernel_rfl) (fun _ _ _ h => h) (Or.inl ⟨by rfl, ?_⟩) (by assumption) ?_
      rotate_left 1
      · intro w' hSw; (try dsimp only at hSw); go_simp; (try with_reducible rfl)
      simp only [Act.put, List.setIfInBounds_toArray, List.set_cons_zero, List.set_cons_succ]
      refine wpAnyH_take (i := 10) (oi := { dst := some 6, op := Op.assign (Operand.const (Value.int IntKind.i64 0)), type := 26, pos := "cmd.go:88", after := #[{ on := 9, ground := Ground.chain }, { on := 0, ground := Ground.phase }, { on := 1, ground := Ground.phase }, { on := 2, ground := Ground.phase }, { on := 3, ground := Ground.phase }, { on := 4, ground := Ground.phase }, { on := 5, ground := Ground.phase }, { on := 6, ground := Ground.phase }, { on := 7, ground := Ground.phase }, { on := 8, ground := Ground.phase }, { on := 9, ground := Ground.phase }], guard := none }) (v := ?_) rfl (by kernel_rfl) (by kernel_rfl) (by kernel_rfl) (fun _ _ _ h => h) (Or.inl ⟨by rfl, ?_⟩) (by assumption) ?_
      rotate_left 1
      · intro w' hSw; (try dsimp only at hSw); go_simp; (try with_reducible rfl)
      simp only [Act.put, List.setIfInBounds_toArray, List.set_cons_zero, List.set_cons_succ]
      refine wpAnyH_done (by kernel_rfl) ?_ _
      refine NoPanic.normal ?_
      clear hHeld
      go_wp2
      refine bodyPost_ret (res_ctt rfl rfl (hRz.load cdT rfl)) rfl ?_
      obtain ⟨rfl, hr9, hc9, hlo9⟩ := (show y = x2 ∧ Rd w3 A9 n9 y.dt ∧ n9 ≤ c9 ∧ ∀ b o, A9 = some ⟨b, o, none⟩ → 0 < n9 → w2.heap.size ≤ b by first | exact HY.out rfl | exact HY.out trivial)
      refine ⟨A9, n9, c9, ?_, ?_, hc9, D4.out.2.2.trans (hFz.toBelow (fun v hv => by have : v = w.heap.size := hv; omega) D4.out.2.2.size), fun b o e hp => by have := hlo9 b o e hp; have := H2.out.2.1.size; omega⟩
      · rfl
      · exact (hr9.fr H4.out.2.1 (fun b o e hp => hr9.ne_cd H3.out.1 b o e hp)).drew.fr hFz (fun b o e hp => (hr9.fr H4.out.2.1 (fun b o e hp => hr9.ne_cd H3.out.1 b o e hp)).drew.ne_cd D4.out.1 b o e hp)
    · go_simp
      go_at_call 51; refine CL2.out.mono ?_; rintro e w' ⟨rfl, hw'⟩; subst hw'
      refine hK.out _ _ trivial (fun hHeld => ?_)
      clear hK K'
      try simp only [Act.put, List.setIfInBounds_toArray, List.set_cons_zero, List.set_cons_succ]
      refine wpAnyH_take (i := 7) (oi := { dst := some 45, op := Op.binOp BinOp.sub 3 (Operand.tmp 42) (Operand.tmp 44) 3, type := 3, pos := "cmd.go:88", after := #[{ on := 4, ground := Ground.data }, { on := 6, ground := Ground.data }, { on := 8, ground := Ground.gcOnly Departure.lateStores }], guard := none }) (v := ?_) rfl (by kernel_rfl) (by kernel_rfl) (by kernel_rfl) (fun _ _ _ h => h) (Or.inl ⟨by rfl, ?_⟩) (by assumption) ?_
      rotate_left 1
      · intro w' hSw; (try dsimp only at hSw); go_simp; (try with_reducible rfl)
      simp only [Act.put, List.setIfInBounds_toArray, List.set_cons_zero, List.set_cons_succ]
      refine wpAnyH_ready (rs := [0]) (by kernel_rfl) (by simp) ?_
      refine AllReadyH.cons (o := { dst := some 38, op := Op.load 47 (Operand.tmp 4), type := 47, pos := "cmd.go:88", after := #[], guard := none }) rfl (fun K' hK => ?_) AllReadyH.nil
      refine step_ldS cdT rfl rfl (.tmp 4) rfl rfl D4.out.1 ?_
      refine hK.out _ _ trivial (fun hHeld => ?_)
      clear hK K'
      try simp only [Act.put, List.setIfInBounds_toArray, List.set_cons_zero, List.set_cons_succ]
      refine wpAnyH_ready (rs := [8]) (by kernel_rfl) (by simp) ?_
      refine AllReadyH.cons (o := { dst := none, op := Op.store 47 (Operand.tmp 4) (Operand.tmp 38), type := 0, pos := "cmd.go:88", after := #[{ on := 0, ground := Ground.data }, { on := 6, ground := Ground.chain }, { on := 0, ground := Ground.phase }, { on := 1, ground := Ground.textOnly Departure.lateStores }, { on := 2, ground := Ground.textOnly Departure.lateStores }, { on := 3, ground := Ground.textOnly Departure.lateStoresUnsure }, { on := 4, ground := Ground.textOnly Departure.lateStores }, { on := 5, ground := Ground.textOnly Departure.lateStores }, { on := 6, ground := Ground.textOnly Departure.lateStoresUnsure }, { on := 7, ground := Ground.textOnly Departure.lateStores }], guard := none }) rfl (fun K' hK => ?_) AllReadyH.nil
      refine step_stS (cs' := y.cs A9 n9 c9) cdT rfl rfl (by simp [Value.oneCell']) rfl (.tmp 4) (.tmp 38) rfl rfl rfl D4.out.1 ?_
      intro wz hRz hFz
      refine hK.out _ _ trivial (fun hHeld => ?_)
      clear hK K'
      try simp only [Act.put]
      refine wpAnyH_take (i := 9) (oi := { dst := some 5, op := Op.assign (Operand.tmp 45), type := 3, pos := "cmd.go:88", after := #[{ on := 7, ground := Ground.data }, { on := 8, ground := Ground.chain }, { on := 0, ground := Ground.phase }, { on := 1, ground := Ground.phase }, { on := 2, ground := Ground.phase }, { on := 3, ground := Ground.phase }, { on := 4, ground := Ground.phase }, { on := 5, ground := Ground.phase }, { on := 6, ground := Ground.phase }, { on := 7, ground := Ground.phase }, { on := 8, ground := Ground.phase }], guard := none }) (v := ?_) rfl (by kernel_rfl) (by kernel_rfl) (by kernel_rfl) (fun _ _ _ h => h) (Or.inl ⟨by rfl, ?_⟩) (by assumption) ?_
      rotate_left 1
      · intro w' hSw; (try dsimp only at hSw); go_simp; (try with_reducible rfl)
      simp only [Act.put, List.setIfInBounds_toArray, List.set_cons_zero, List.set_cons_succ]
      refine wpAnyH_take (i := 10) (oi := { dst := some 6, op := Op.assign (Operand.const (Value.int IntKind.i64 0)), type := 26, pos := "cmd.go:88", after := #[{ on := 9, ground := Ground.chain }, { on := 0, ground := Ground.phase }, { on := 1, ground := Ground.phase }, { on := 2, ground := Ground.phase }, { on := 3, ground := Ground.phase }, { on := 4, ground := Ground.phase }, { on := 5, ground := Ground.phase }, { on := 6, ground := Ground.phase }, { on := 7, ground := Ground.phase }, { on := 8, ground := Ground.phase }, { on := 9, ground := Ground.phase }], guard := none }) (v := ?_) rfl (by kernel_rfl) (by kernel_rfl) (by kernel_rfl) (fun _ _ _ h => h) (Or.inl ⟨by rfl, ?_⟩) (by assumption) ?_
      rotate_left 1
      · intro w' hSw; (try dsimp only at hSw); go_simp; (try with_reducible rfl)
      simp only [Act.put, List.setIfInBounds_toArray, List.set_cons_zero, List.set_cons_succ]
      refine wpAnyH_done (by kernel_rfl) ?_ _
      refine NoPanic.normal ?_
      clear hHeld
      go_wp2
      refine bodyPost_ret (res_ctt rfl rfl (hRz.load cdT rfl)) rfl ?_
      obtain ⟨rfl, hr9, hc9, hlo9⟩ := (show y = x2 ∧ Rd w3 A9 n9 y.dt ∧ n9 ≤ c9 ∧ ∀ b o, A9 = some ⟨b, o, none⟩ → 0 < n9 → w2.heap.size ≤ b by first | exact HY.out rfl | exact HY.out trivial)
      refine ⟨A9, n9, c9, ?_, ?_, hc9, D4.out.2.2.trans (hFz.toBelow (fun v hv => by have : v = w.heap.size := hv; omega) D4.out.2.2.size), fun b o e hp => by have := hlo9 b o e hp; have := H2.out.2.1.size; omega⟩
      · rfl
      · exact (hr9.fr H4.out.2.1 (fun b o e hp => hr9.ne_cd H3.out.1 b o e hp)).drew.fr hFz (fun b o e hp => (hr9.fr H4.out.2.1 (fun b o e hp => hr9.ne_cd H3.out.1 b o e hp)).drew.ne_cd D4.out.1 b o e hp)

set_option maxHeartbeats 4000000 in
theorem CGet_inc (k : Nat) (hr : Rd w A n l) (hn : n ≤ 1000000) (hc : n ≤ c) (hcm : c ≤ 9223372036854775807) (hk : k ≤ n) (hv : ¬ k = c) (h92 : ¬ (92 : Int) < (n : Int) - k) :
    Calls Try.prog 42 #[.slice A n c, .int .i64 k] w (GetL (fun y => w.heap.size ≤ y) w (getAt l k)) := by
  have hl := hr.1
  have e : getAt l k = ((getCd (l.drop k)).1, if (getCd (l.drop k)).2.2 = 0 then (k : Int) + (getCd (l.drop k)).2.1 else 0, (getCd (l.drop k)).2.2) := by unfold getAt; rw [if_neg (by omega), Int.toNat_natCast]
  have hs := rd_getCd ((l.drop k).take 92)
  rw [getCd_take, part_len n l hl k hk] at hs
  obtain ⟨z, hz⟩ : ∃ z, z = min (n - k) 92 := ⟨_, rfl⟩
  rw [← hz] at hs
  rw [e]
  clear e
  obtain ⟨⟨x, u, er⟩, hg⟩ : ∃ g, g = getCd (l.drop k) := ⟨_, rfl⟩
  obtain ⟨⟨x2, er2, ⟨lf, ms⟩⟩, hrd⟩ : ∃ g, g = rdCmd ((l.drop k).take 92, false) := ⟨_, rfl⟩
  rw [← hg, ← hrd] at hs
  rw [← hg]
  obtain ⟨s1, s2, s3⟩ := hs
  simp only at s1 s2 s3 ⊢
  subst s1 s2
  obtain ⟨w1, hw1⟩ : ∃ w1, w1 = w.alloc (.cells (Cd.zero.cs none 0 0) 47) := ⟨_, rfl⟩
  have R1 := Lib.hid (show Rec 47 w1 w.heap.size (Cd.zero.cs none 0 0) by rw [hw1]; exact Rec.new w _ _)
  have hb1 : Below w.heap.size w w1 := by rw [hw1]; exact (Below.refl _ _).alloc (Nat.le_refl _) _
  have B1 := Lib.hid hb1
  -- the part
  have hP : ∀ A', (0 < z → ∀ b o, A = some ⟨b, o, none⟩ → A' = some ⟨b, o + k, none⟩) → Rd w1 A' z ((l.drop k).take 92) := fun A' hA => by
    have h := (hr.below (Nat.le_refl _) hb1).part (lo := k) (m := z) (by omega) A' hA
    have e2 : (l.drop k).take z = (l.drop k).take 92 := by
      rw [hz, List.take_eq_take_iff]
      simp
      omega
    rw [e2] at h
    exact h
  have HP := Lib.hid hP
  have HRD := Lib.hid hrd
  have HS3 := Lib.hid s3
  have z1 : min ((n : Int) - (k : Int)) 92 = (z : Int) := by omega
  have z2 : z ≤ n - k := by omega
  have hz92 : z ≤ 92 := by omega
  have hz0 := getCd_zero (l.drop k)
  rw [← hg] at hz0
  simp only at hz0
  have HZ0 := Lib.hid hz0
  have hql : ∀ q : Nat, q = lf.length → q ≤ z := fun q hq => by rw [hq]; have h5 := rdCmd_len ((l.drop k).take 92, false); rw [← hrd] at h5; simp only [part_len n l hl k hk, ← hz] at h5; exact h5
  have HQL := Lib.hid hql
  have hzz : z = n - k := by omega
  have HZ := Lib.hid hzz
  clear hzz
  clear hr hb1 hP hrd s3 hg z1 hl hz0 hql hz
  by_cases he : er2 = 0
  rotate_left 1
  · have hne : (er2 != 0) = true := bne_iff_ne.2 he
    rw [if_neg he]
    have HE := Lib.hid he
    clear he
    go_enter Try.func42, Try.ntmps42
    go_wp2_with (first
      | (rw [← hw1]; clear hw1)
      | (go_at_call 49; have _t := HZ; rw [← HZ.out]; refine (RRead_any _ z _ ((l.drop k).take 92) w1 (HP.out _ (fun hp0 b o e => by first | (exfalso; omega) | (subst e; simp [Addr.add_lit]))) (by omega)).mono ?_; rintro e w2 ⟨p, rfl, hp, hr2, hb2⟩
         have CR := read_any (st := ((l.drop k).take 92, false)) hr2 (Nat.le_refl _)
         unfold ReadE at CR
         rw [← HRD.out] at CR
         have CR2 := Lib.hid CR
         have H2 := Lib.hid (And.intro (R1.out.under hb2) (And.intro (B1.out.trans (hb2.mono B1.out.size)) (And.intro (show w.heap.size ≠ p by have := R1.out.lt; omega) hp)))
         clear hr2 hb2 hp CR)
      | (go_at_call 50; refine CR2.out.mono ?_; rintro e w3 ⟨y, A9, n9, c9, rfl, hy, hr3, hf3⟩
         have H3 := Lib.hid (And.intro (H2.out.1.fr hf3 H2.out.2.2.1) (And.intro (H2.out.2.1.trans (hf3.toBelow (fun v hv => by have : v = p := hv; have := H2.out.2.2.2; have := B1.out.size; omega) H2.out.2.1.size)) hr3))
         have HY := Lib.hid hy
         clear hr3 hf3 hy CR2)
      | ((with_reducible refine wpList_stS (cs' := y.cs A9 n9 c9) cdT rfl rfl (by simp [Value.oneCell']) rfl (.tmp 4) (.tmp 32) rfl rfl rfl H3.out.1 ?_); intro w4 hR4 hF4
         have H4 := Lib.hid (And.intro hR4 (And.intro hF4 (And.intro (H3.out.2.1.trans (hF4.toBelow (fun v hv => by have : v = w.heap.size := hv; omega) H3.out.2.1.size)) (H3.out.2.2.fr_cd H3.out.1 hF4 H2.out.2.2.1))))
         clear hR4 hF4)
      | ((with_reducible refine wpList_stS (cs' := Cd.zero.cs none 0 0) cdT rfl rfl (by simp [Value.oneCell']) rfl (.tmp 4) (.tmp 36) rfl rfl rfl H4.out.1 ?_); intro wz hRz hFz))
    refine bodyPost_ret (res_ctt rfl rfl (hRz.load cdT rfl)) rfl ?_
    rw [HZ0.out HE.out]
    exact ⟨none, 0, 0, rfl, Rd.nil _ _, Nat.le_refl _, H4.out.2.2.1.trans (hFz.toBelow (fun y hy => by have : y = w.heap.size := hy; omega) H4.out.2.2.1.size), fun _ _ e => by cases e⟩
  · subst he
    rw [if_pos rfl]
    obtain ⟨hu, hu2⟩ := HS3.out rfl
    obtain ⟨q, hq⟩ : ∃ q, q = lf.length := ⟨_, rfl⟩
    rw [← hq] at hu
    obtain ⟨Q, hQ⟩ : ∃ Q : Nat, Q = k + z := ⟨_, rfl⟩
    have e1 : IntKind.i64.wrap ((k : Int) + (z : Int)) = (Q : Int) := by rw [IntWalk.i64_in _ (by omega)]; omega
    have hqz : q ≤ z := HQL.out q hq
    have e2 : IntKind.i64.wrap ((Q : Int) - (q : Int)) = (k : Int) + (u : Int) := by rw [IntWalk.i64_in _ (by omega)]; omega
    have E1 := Lib.hid e1
    have E2 := Lib.hid e2
    have HQ := Lib.hid hq
    clear e1 e2 hQ hqz hu hu2 hq
    go_enter Try.func42, Try.ntmps42
    go_upto_region 8 with (first
      | (rw [← hw1]; clear hw1)
      | (go_at_call 49; have _t := HZ; rw [← HZ.out]; refine (RRead_any _ z _ ((l.drop k).take 92) w1 (HP.out _ (fun hp0 b o e => by first | (exfalso; omega) | (subst e; simp [Addr.add_lit]))) (by omega)).mono ?_; rintro e w2 ⟨p, rfl, hp, hr2, hb2⟩
         have CR := read_any (st := ((l.drop k).take 92, false)) hr2 (Nat.le_refl _)
         unfold ReadE at CR
         rw [← HRD.out] at CR
         have CR2 := Lib.hid CR
         have H2 := Lib.hid (And.intro (R1.out.under hb2) (And.intro (B1.out.trans (hb2.mono B1.out.size)) (And.intro (show w.heap.size ≠ p by have := R1.out.lt; omega) hp)))
         clear hr2 hb2 hp CR)
      | (go_at_call 50; refine CR2.out.mono ?_; rintro e w3 ⟨y, A9, n9, c9, rfl, hy, hr3, hf3⟩
         have H3 := Lib.hid (And.intro (H2.out.1.fr hf3 H2.out.2.2.1) (And.intro (H2.out.2.1.trans (hf3.toBelow (fun v hv => by have : v = p := hv; have := H2.out.2.2.2; have := B1.out.size; omega) H2.out.2.1.size)) hr3))
         have HY := Lib.hid hy
         clear hr3 hf3 hy CR2)
      | ((with_reducible refine wpList_stS (cs' := y.cs A9 n9 c9) cdT rfl rfl (by simp [Value.oneCell']) rfl (.tmp 4) (.tmp 32) rfl rfl rfl H3.out.1 ?_); intro w4 hR4 hF4
         have H4 := Lib.hid (And.intro hR4 (And.intro hF4 (And.intro (H3.out.2.1.trans (hF4.toBelow (fun v hv => by have : v = w.heap.size := hv; omega) H3.out.2.1.size)) (H3.out.2.2.fr_cd H3.out.1 hF4 H2.out.2.2.1))))
         clear hR4 hF4))
    have D4 := Lib.hid (show Rec 47 w4.drew w.heap.size (y.cs A9 n9 c9) ∧ RdrIs w2.heap.size w4.drew p (lf, ms) ∧ Below w.heap.size w w4.drew from ⟨H4.out.1, H4.out.2.2.2.below (Below.refl _ _).drew, H4.out.2.2.1.drew⟩)
    have CL := Left_any D4.out.2.1
    simp only [← HQ.out] at CL
    have CL2 := Lib.hid CL
    have e1 := E1.out
    have e2 := E2.out
    clear CL
    refine wp_region_noPanic ?_
    refine wp_region_held_drew (S := fun W => True) (by kernel_rfl) trivial (fun hHeld => ?_)
    refine wpAnyH_take (i := 1) (oi := { dst := some 39, op := Op.move (Operand.tmp 1), type := 3, pos := "cmd.go:88", after := #[{ on := 8, ground := Ground.gcOnly Departure.lateStores }], guard := none }) (v := ?_) rfl (by kernel_rfl) (by kernel_rfl) (by kernel_rfl) (fun _ _ _ h => h) (Or.inl ⟨by rfl, ?_⟩) (by assumption) ?_
    rotate_left 1
    · intro w' hSw; (try dsimp only at hSw); go_simp; (try with_reducible rfl)
    simp only [Act.put, List.setIfInBounds_toArray, List.set_cons_zero, List.set_cons_succ]
    refine wpAnyH_take (i := 2) (oi := { dst := some 40, op := Op.move (Operand.tmp 7), type := 25, pos := "cmd.go:88", after := #[], guard := none }) (v := ?_) rfl (by kernel_rfl) (by kernel_rfl) (by kernel_rfl) (fun _ _ _ h => h) (Or.inl ⟨by rfl, ?_⟩) (by assumption) ?_
    rotate_left 1
    · intro w' hSw; (try dsimp only at hSw); go_simp; (try with_reducible rfl)
    simp only [Act.put, List.setIfInBounds_toArray, List.set_cons_zero, List.set_cons_succ]
    refine wpAnyH_take (i := 3) (oi := { dst := some 41, op := Op.call { callee := Callee.builtin Builtin.len, args := #[Operand.tmp 40], argTypes := #[25] }, type := 3, pos := "cmd.go:88", after := #[{ on := 2, ground := Ground.data }], guard := none }) (v := ?_) rfl (by kernel_rfl) (by kernel_rfl) (by kernel_rfl) (fun _ _ _ h => h) (Or.inl ⟨by rfl, ?_⟩) (by assumption) ?_
    rotate_left 1
    · intro w' hSw; (try dsimp only at hSw); go_simp; (try with_reducible rfl)
    simp only [Act.put, List.setIfInBounds_toArray, List.set_cons_zero, List.set_cons_succ]
    refine wpAnyH_take (i := 4) (oi := { dst := some 42, op := Op.binOp BinOp.add 3 (Operand.tmp 39) (Operand.tmp 41) 3, type := 3, pos := "cmd.go:88", after := #[{ on := 1, ground := Ground.data }, { on := 3, ground := Ground.data }, { on := 8, ground := Ground.gcOnly Departure.lateStores }], guard := none }) (v := ?_) rfl (by kernel_rfl) (by kernel_rfl) (by kernel_rfl) (fun _ _ _ h => h) (Or.inl ⟨by rfl, ?_⟩) (by assumption) ?_
    rotate_left 1
    · intro w' hSw; (try dsimp only at hSw); go_simp; (try with_reducible rfl)
    simp only [Act.put, List.setIfInBounds_toArray, List.set_cons_zero, List.set_cons_succ]
    refine wpAnyH_take (i := 5) (oi := { dst := some 43, op := Op.move (Operand.tmp 8), type := 85, pos := "cmd.go:88", after := #[], guard := none }) (v := ?_) rfl (by kernel_rfl) (by kernel_rfl) (by kernel_rfl) (fun _ _ _ h => h) (Or.inl ⟨by rfl, ?_⟩) (by assumption) ?_
    rotate_left 1
    · intro w' hSw; (try dsimp only at hSw); go_simp; (try with_reducible rfl)
    simp only [Act.put, List.setIfInBounds_toArray, List.set_cons_zero, List.set_cons_succ]
    refine wpAnyH_ready (rs := [0, 6]) (by kernel_rfl) (by simp) ?_
    refine AllReadyH.cons (o := { dst := some 38, op := Op.load 47 (Operand.tmp 4), type := 47, pos := "cmd.go:88", after := #[], guard := none }) rfl (fun K' hK => ?_) (AllReadyH.cons (o := { dst := some 44, op := Op.call { callee := Callee.value (Operand.func 51), args := #[Operand.tmp 43], argTypes := #[85] }, type := 3, pos := "cmd.go:88", after := #[{ on := 5, ground := Ground.data }], guard := none }) rfl (fun K' hK => ?_) AllReadyH.nil)
    · refine step_ldS cdT rfl rfl (.tmp 4) rfl rfl D4.out.1 ?_
      refine hK.out _ _ trivial (fun hHeld => ?_)
      clear hK K'
      try simp only [Act.put, List.setIfInBounds_toArray, List.set_cons_zero, List.set_cons_succ]
      refine wpAnyH_ready (rs := [6]) (by kernel_rfl) (by simp) ?_
      refine AllReadyH.cons (o := { dst := some 44, op := Op.call { callee := Callee.value (Operand.func 51), args := #[Operand.tmp 43], argTypes := #[85] }, type := 3, pos := "cmd.go:88", after := #[{ on := 5, ground := Ground.data }], guard := none }) rfl (fun K' hK => ?_) AllReadyH.nil
      go_simp
      go_at_call 51; refine CL2.out.mono ?_; rintro e w' ⟨rfl, hw'⟩; subst hw'
      refine hK.out _ _ trivial (fun hHeld => ?_)
      clear hK K'
      try simp only [Act.put, List.setIfInBounds_toArray, List.set_cons_zero, List.set_cons_succ]
      refine wpAnyH_take (i := 7) (oi := { dst := some 45, op := Op.binOp BinOp.sub 3 (Operand.tmp 42) (Operand.tmp 44) 3, type := 3, pos := "cmd.go:88", after := #[{ on := 4, ground := Ground.data }, { on := 6, ground := Ground.data }, { on := 8, ground := Ground.gcOnly Departure.lateStores }], guard := none }) (v := ?_) rfl (by kernel_rfl) (by kernel_rfl) (by kernel_rfl) (fun _ _ _ h => h) (Or.inl ⟨by rfl, ?_⟩) (by assumption) ?_
      rotate_left 1
      · intro w' hSw; (try dsimp only at hSw); go_simp; (try with_reducible rfl)
      simp only [Act.put, List.setIfInBounds_toArray, List.set_cons_zero, List.set_cons_succ]
      refine wpAnyH_ready (rs := [8]) (by kernel_rfl) (by simp) ?_
      refine AllReadyH.cons (o := { dst := none, op := Op.store 47 (Operand.tmp 4) (Operand.tmp 38), type := 0, pos := "cmd.go:88", after := #[{ on := 0, ground := Ground.data }, { on := 6, ground := Ground.chain }, { on := 0, ground := Ground.phase }, { on := 1, ground := Ground.textOnly Departure.lateStores }, { on := 2, ground := Ground.textOnly Departure.lateStores }, { on := 3, ground := Ground.textOnly Departure.lateStoresUnsure }, { on := 4, ground := Ground.textOnly Departure.lateStores }, { on := 5, ground := Ground.textOnly Departure.lateStores }, { on := 6, ground := Ground.textOnly Departure.lateStoresUnsure }, { on := 7, ground := Ground.textOnly Departure.lateStores }], guard := none }) rfl (fun K' hK => ?_) AllReadyH.nil
      refine step_stS (cs' := y.cs A9 n9 c9) cdT rfl rfl (by simp [Value.oneCell']) rfl (.tmp 4) (.tmp 38) rfl rfl rfl D4.out.1 ?_
      intro wz hRz hFz
      refine hK.out _ _ trivial (fun hHeld => ?_)
      clear hK K'
      try simp only [Act.put]
      refine wpAnyH_take (i := 9) (oi := { dst := some 5, op := Op.assign (Operand.tmp 45), type := 3, pos := "cmd.go:88", after := #[{ on := 7, ground := Ground.data }, { on := 8, ground := Ground.chain }, { on := 0, ground := Ground.phase }, { on := 1, ground := Ground.phase }, { on := 2, ground := Ground.phase }, { on := 3, ground := Ground.phase }, { on := 4, ground := Ground.phase }, { on := 5, ground := Ground.phase }, { on := 6, ground := Ground.phase }, { on := 7, ground := Ground.phase }, { on := 8, ground := Ground.phase }], guard := none }) (v := ?_) rfl (by kernel_rfl) (by kernel_rfl) (by kernel_rfl) (fun _ _ _ h => h) (Or.inl ⟨by rfl, ?_⟩) (by assumption) ?_
      rotate_left 1
      · intro w' hSw; (try dsimp only at hSw); go_simp; (try with_reducible rfl)
      simp only [Act.put, List.setIfInBounds_toArray, List.set_cons_zero, List.set_cons_succ]
      refine wpAnyH_take (i := 10) (oi := { dst := some 6, op := Op.assign (Operand.const (Value.int IntKind.i64 0)), type := 26, pos := "cmd.go:88", after := #[{ on := 9, ground := Ground.chain }, { on := 0, ground := Ground.phase }, { on := 1, ground := Ground.phase }, { on := 2, ground := Ground.phase }, { on := 3, ground := Ground.phase }, { on := 4, ground := Ground.phase }, { on := 5, ground := Ground.phase }, { on := 6, ground := Ground.phase }, { on := 7, ground := Ground.phase }, { on := 8, ground := Ground.phase }, { on := 9, ground := Ground.phase }], guard := none }) (v := ?_) rfl (by kernel_rfl) (by kernel_rfl) (by kernel_rfl) (fun _ _ _ h => h) (Or.inl ⟨by rfl, ?_⟩) (by assumption) ?_
      rotate_left 1
      · intro w' hSw; (try dsimp only at hSw); go_simp; (try with_reducible rfl)
      simp only [Act.put, List.setIfInBounds_toArray, List.set_cons_zero, List.set_cons_succ]
      refine wpAnyH_done (by kernel_rfl) ?_ _
      refine NoPanic.normal ?_
      clear hHeld
      go_wp2
      refine bodyPost_ret (res_ctt rfl rfl (hRz.load cdT rfl)) rfl ?_
      obtain ⟨rfl, hr9, hc9, hlo9⟩ := (show y = x2 ∧ Rd w3 A9 n9 y.dt ∧ n9 ≤ c9 ∧ ∀ b o, A9 = some ⟨b, o, none⟩ → 0 < n9 → w2.heap.size ≤ b by first | exact HY.out rfl | exact HY.out trivial)
      refine ⟨A9, n9, c9, ?_, ?_, hc9, D4.out.2.2.trans (hFz.toBelow (fun v hv => by have : v = w.heap.size := hv; omega) D4.out.2.2.size), fun b o e hp => by have := hlo9 b o e hp; have := H2.out.2.1.size; omega⟩
      · rfl
      · exact (hr9.fr H4.out.2.1 (fun b o e hp => hr9.ne_cd H3.out.1 b o e hp)).drew.fr hFz (fun b o e hp => (hr9.fr H4.out.2.1 (fun b o e hp => hr9.ne_cd H3.out.1 b o e hp)).drew.ne_cd D4.out.1 b o e hp)
    · go_simp
      go_at_call 51; refine CL2.out.mono ?_; rintro e w' ⟨rfl, hw'⟩; subst hw'
      refine hK.out _ _ trivial (fun hHeld => ?_)
      clear hK K'
      try simp only [Act.put, List.setIfInBounds_toArray, List.set_cons_zero, List.set_cons_succ]
      refine wpAnyH_take (i := 7) (oi := { dst := some 45, op := Op.binOp BinOp.sub 3 (Operand.tmp 42) (Operand.tmp 44) 3, type := 3, pos := "cmd.go:88", after := #[{ on := 4, ground := Ground.data }, { on := 6, ground := Ground.data }, { on := 8, ground := Ground.gcOnly Departure.lateStores }], guard := none }) (v := ?_) rfl (by kernel_rfl) (by kernel_rfl) (by kernel_rfl) (fun _ _ _ h => h) (Or.inl ⟨by rfl, ?_⟩) (by assumption) ?_
      rotate_left 1
      · intro w' hSw; (try dsimp only at hSw); go_simp; (try with_reducible rfl)
      simp only [Act.put, List.setIfInBounds_toArray, List.set_cons_zero, List.set_cons_succ]
      refine wpAnyH_ready (rs := [0]) (by kernel_rfl) (by simp) ?_
      refine AllReadyH.cons (o := { dst := some 38, op := Op.load 47 (Operand.tmp 4), type := 47, pos := "cmd.go:88", after := #[], guard := none }) rfl (fun K' hK => ?_) AllReadyH.nil
      refine step_ldS cdT rfl rfl (.tmp 4) rfl rfl D4.out.1 ?_
      refine hK.out _ _ trivial (fun hHeld => ?_)
      clear hK K'
      try simp only [Act.put, List.setIfInBounds_toArray, List.set_cons_zero, List.set_cons_succ]
      refine wpAnyH_ready (rs := [8]) (by kernel_rfl) (by simp) ?_
      refine AllReadyH.cons (o := { dst := none, op := Op.store 47 (Operand.tmp 4) (Operand.tmp 38), type := 0, pos := "cmd.go:88", after := #[{ on := 0, ground := Ground.data }, { on := 6, ground := Ground.chain }, { on := 0, ground := Ground.phase }, { on := 1, ground := Ground.textOnly Departure.lateStores }, { on := 2, ground := Ground.textOnly Departure.lateStores }, { on := 3, ground := Ground.textOnly Departure.lateStoresUnsure }, { on := 4, ground := Ground.textOnly Departure.lateStores }, { on := 5, ground := Ground.textOnly Departure.lateStores }, { on := 6, ground := Ground.textOnly Departure.lateStoresUnsure }, { on := 7, ground := Ground.textOnly Departure.lateStores }], guard := none }) rfl (fun K' hK => ?_) AllReadyH.nil
      refine step_stS (cs' := y.cs A9 n9 c9) cdT rfl rfl (by simp [Value.oneCell']) rfl (.tmp 4) (.tmp 38) rfl rfl rfl D4.out.1 ?_
      intro wz hRz hFz
      refine hK.out _ _ trivial (fun hHeld => ?_)
      clear hK K'
      try simp only [Act.put]
      refine wpAnyH_take (i := 9) (oi := { dst := some 5, op := Op.assign (Operand.tmp 45), type := 3, pos := "cmd.go:88", after := #[{ on := 7, ground := Ground.data }, { on := 8, ground := Ground.chain }, { on := 0, ground := Ground.phase }, { on := 1, ground := Ground.phase }, { on := 2, ground := Ground.phase }, { on := 3, ground := Ground.phase }, { on := 4, ground := Ground.phase }, { on := 5, ground := Ground.phase }, { on := 6, ground := Ground.phase }, { on := 7, ground := Ground.phase }, { on := 8, ground := Ground.phase }], guard := none }) (v := ?_) rfl (by kernel_rfl) (by kernel_rfl) (by kernel_rfl) (fun _ _ _ h => h) (Or.inl ⟨by rfl, ?_⟩) (by assumption) ?_
      rotate_left 1
      · intro w' hSw; (try dsimp only at hSw); go_simp; (try with_reducible rfl)
      simp only [Act.put, List.setIfInBounds_toArray, List.set_cons_zero, List.set_cons_succ]
      refine wpAnyH_take (i := 10) (oi := { dst := some 6, op := Op.assign (Operand.const (Value.int IntKind.i64 0)), type := 26, pos := "cmd.go:88", after := #[{ on := 9, ground := Ground.chain }, { on := 0, ground := Ground.phase }, { on := 1, ground := Ground.phase }, { on := 2, ground := Ground.phase }, { on := 3, ground := Ground.phase }, { on := 4, ground := Ground.phase }, { on := 5, ground := Ground.phase }, { on := 6, ground := Ground.phase }, { on := 7, ground := Ground.phase }, { on := 8, ground := Ground.phase }, { on := 9, ground := Ground.phase }], guard := none }) (v := ?_) rfl (by kernel_rfl) (by kernel_rfl) (by kernel_rfl) (fun _ _ _ h => h) (Or.inl ⟨by rfl, ?_⟩) (by assumption) ?_
      rotate_left 1
      · intro w' hSw; (try dsimp only at hSw); go_simp; (try with_reducible rfl)
      simp only [Act.put, List.setIfInBounds_toArray, List.set_cons_zero, List.set_cons_succ]
      refine wpAnyH_done (by kernel_rfl) ?_ _
      refine NoPanic.normal ?_
      clear hHeld
      go_wp2
      refine bodyPost_ret (res_ctt rfl rfl (hRz.load cdT rfl)) rfl ?_
      obtain ⟨rfl, hr9, hc9, hlo9⟩ := (show y = x2 ∧ Rd w3 A9 n9 y.dt ∧ n9 ≤ c9 ∧ ∀ b o, A9 = some ⟨b, o, none⟩ → 0 < n9 → w2.heap.size ≤ b by first | exact HY.out rfl | exact HY.out trivial)
      refine ⟨A9, n9, c9, ?_, ?_, hc9, D4.out.2.2.trans (hFz.toBelow (fun v hv => by have : v = w.heap.size := hv; omega) D4.out.2.2.size), fun b o e hp => by have := hlo9 b o e hp; have := H2.out.2.1.size; omega⟩
      · rfl
      · exact (hr9.fr H4.out.2.1 (fun b o e hp => hr9.ne_cd H3.out.1 b o e hp)).drew.fr hFz (fun b o e hp => (hr9.fr H4.out.2.1 (fun b o e hp => hr9.ne_cd H3.out.1 b o e hp)).drew.ne_cd D4.out.1 b o e hp)

theorem CGetL_any (a : Int) (hr : Rd w A n l) (hn : n ≤ 1000000) (hc : n ≤ c) (hcm : c ≤ 9223372036854775807) : Calls Try.prog 42 #[.slice A n c, .int .i64 a] w (GetL (fun y => w.heap.size ≤ y) w (getAt l a)) := by
  by_cases ha : a < 0 ∨ (n : Int) < a
  · exact CGet_bad A n c l w a (by omega) ha hr.1
  · obtain ⟨k, rfl⟩ : ∃ k : Nat, a = (k : Int) := ⟨a.toNat, by omega⟩
    by_cases hv : k = c
    · exact CGet_ina A n c l w k hr hn hc hcm (by omega) hv
    · by_cases h92 : (92 : Int) < (n : Int) - k
      · exact CGet_inb A n c l w k hr hn hc hcm (by omega) hv h92
      · exact CGet_inc A n c l w k hr hn hc hcm (by omega) hv h92
theorem CGet_any (a : Int) (hr : Rd w A n l) (hn : n ≤ 1000000) (hc : n ≤ c) (hcm : c ≤ 9223372036854775807) : Calls Try.prog 42 #[.slice A n c, .int .i64 a] w (GetE w (getAt l a)) :=
  (CGetL_any A n c l w a hr hn hc hcm).mono fun _ _ h => h.e
end
end Go.Proofs.Ytlinafnhhnkjnaa
