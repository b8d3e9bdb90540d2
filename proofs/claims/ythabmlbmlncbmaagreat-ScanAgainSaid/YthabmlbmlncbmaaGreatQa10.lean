/- CdE, CdS, FrI, FrJ, FrK -/
import Derived.Test.YthabmlbmlncbmaaGreatQa1
import Derived.Test.YthabmlbmlncbmaaGreatQa5
import Derived.Test.YthabmlbmlncbmaaGreatQa7
import Derived.Test.YthabmlbmlncbmaaGreatQa8
import Derived.Test.YthabmlbmlncbmaaGreatQa9
import Derived.Shelf.Abstract
namespace Go.Proofs.YthabmlbmlncbmaaGreat
open Go.RowKit
set_option linter.unusedVariables false
set_option maxRecDepth 20000
section
variable {P : Program} {T : TypeId} {w w' : World} {g : Nat} {cs : Array Value} {n : Nat} {ops : Array Oper} {o : Oper} {a : Act} {Q : Exit -> Act -> World -> Prop}
theorem step_ldS {J : Act -> World -> Prop} {E : Prop} (rt : RT P T n) (hn : cs.size = n) (hgd : o.guard = none) (x : Operand) (ho : o.op = .load T x)
    (hx : a.eval x = .pointer (some ⟨g, 0, none⟩)) (h : Rec T w g cs) (kk : J (a.put o.dst (.agg cs)) w) : if Region.wanted o (yielded ops a.tmps) = true then Oper.wp P o a w J Q else E := by
  have hw : Region.wanted o (yielded ops a.tmps) = true := by simp [Region.wanted, hgd]
  rw [if_pos hw]
  unfold Oper.wp execOp
  simp only [ho, hx, h.loadAt rt hn, Sem.run_bind, Sem.run_pure, Result.andThen_ok]
  exact kk
end
theorem Rd.ne_cd {w : World} {A : Option Addr} {n g : Nat} {l : List UInt8} {x : Cd} {A' : Option Addr} {n' c' : Nat} (h : Rd w A n l) (hr : Rec 61 w g (x.cs A' n' c')) (b o : Nat) (e : A = some ⟨b, o, none⟩) (hp : 0 < n) : b ≠ g := by
  rintro rfl
  obtain ⟨b', o', e', _, hc⟩ := h.2 hp
  rw [e] at e'
  obtain ⟨rfl, rfl⟩ : b = b' /\ o = o' := by simpa using e'
  have h0 := hc 0 (by rw [h.1]; exact hp)
  rw [Nat.add_zero, hr.at_ o] at h0
  match o, h0 with
  | 0, h0 => simp at h0
  | 1, h0 => simp at h0
  | 2, h0 => simp at h0
  | 3, h0 => simp at h0
  | 4, h0 => simp at h0
  | 5, h0 => simp at h0
  | _ + 6, h0 => simp at h0
end Go.Proofs.YthabmlbmlncbmaaGreat
namespace Go.Proofs.YthabmlbmlncbmaaGreat
open Go.RowKit
set_option linter.unusedVariables false
set_option maxRecDepth 20000
theorem getCd_zero (l : List UInt8) : (getCd l).2.2 ≠ 0 -> (getCd l).1 = Cd.zero := by
  unfold getCd
  simp only
  by_cases h0 : l.length = 0
  · rw [if_pos h0]; intro _; rfl
  rw [if_neg h0]
  by_cases h1 : 3 < (l.getD 0 0).toNat
  · rw [if_pos h1]; intro _; rfl
  rw [if_neg h1]
  by_cases h2 : (l.getD 0 0).toNat = 0
  · rw [if_pos h2]; intro _; rfl
  rw [if_neg h2]
  by_cases h3 : l.length = 1
  · rw [if_pos h3]; intro _; rfl
  rw [if_neg h3]
  by_cases h4 : 1 < (l.getD 1 0).toNat
  · rw [if_pos h4]; intro _; rfl
  rw [if_neg h4]
  obtain ⟨e0, he0⟩ : ∃ e0, e0 = if (l.getD 1 0).toNat = 1 then 10 else 18 := ⟨_, rfl⟩
  simp only [<- he0]
  by_cases h5 : (l.getD 0 0).toNat = 1
  · rw [if_pos h5]
    by_cases h6 : l.length < e0
    · rw [if_pos h6]; intro _; rfl
    · rw [if_neg h6]; intro h; exact absurd rfl h
  rw [if_neg h5]
  by_cases h7 : (l.getD 0 0).toNat = 3
  · rw [if_pos h7]
    by_cases h6 : l.length < e0 + 8
    · rw [if_pos h6]; intro _; rfl
    · rw [if_neg h6]; intro h; exact absurd rfl h
  rw [if_neg h7]
  by_cases h8 : l.length < e0 + 10
  · rw [if_pos h8]; intro _; rfl
  rw [if_neg h8]
  by_cases h9 : 64 < leN ((l.drop (e0 + 8)).take 2)
  · rw [if_pos h9]; intro _; rfl
  rw [if_neg h9]
  by_cases h10 : l.length < e0 + 10 + leN ((l.drop (e0 + 8)).take 2)
  · rw [if_pos h10]; intro _; rfl
  · rw [if_neg h10]; intro h; exact absurd rfl h
theorem rdNum_len (k : Nat) (st : RS) : (rdNum k st).2.1.length <= st.1.length := by
  unfold rdNum
  repeat' split
  all_goals simp
theorem rdBytes_len (k : Nat) (st : RS) : (rdBytes k st).2.1.length <= st.1.length := by
  unfold rdBytes
  repeat' split
  all_goals simp
theorem rdFin_len (x : Cd) (st : RS) : (rdFin x st).2.2.1.length <= st.1.length := by
  unfold rdFin
  split <;> simp
theorem rdCmd_len (st : RS) : (rdCmd st).2.2.1.length <= st.1.length := by
  have h1 := rdNum_len 1 st
  unfold rdCmd
  split
  · exact h1
  split
  · exact Nat.le_trans (rdFin_len _ _) h1
  have h2 := Nat.le_trans (rdNum_len 1 (rdNum 1 st).2) h1
  simp only
  split
  · exact h2
  have h3 := Nat.le_trans (rdNum_len 8 (rdNum 1 (rdNum 1 st).2).2) h2
  obtain ⟨g, hg⟩ : ∃ g, g = (if (rdNum 1 (rdNum 1 st).2).1 = 1 then (0, (rdNum 8 (rdNum 1 (rdNum 1 st).2).2).2) else rdNum 8 (rdNum 8 (rdNum 1 (rdNum 1 st).2).2).2) := ⟨_, rfl⟩
  have h4 : g.2.1.length <= st.1.length := by
    rw [hg]
    split
    · exact h3
    · exact Nat.le_trans (rdNum_len _ _) h3
  rw [<- hg]
  split
  · exact Nat.le_trans (rdFin_len _ _) h4
  have h5 := Nat.le_trans (rdNum_len 8 g.2) h4
  split
  · exact Nat.le_trans (rdFin_len _ _) h5
  have h6 := Nat.le_trans (rdNum_len 2 (rdNum 8 g.2).2) h5
  split
  · exact h6
  · exact Nat.le_trans (rdFin_len _ _) (Nat.le_trans (rdBytes_len _ _) h6)
theorem RdrIs.fr_cd {N p g : Nat} {w w' : World} {st : RS} {x : Cd} {A : Option Addr} {n c : Nat} (h : RdrIs N w p st) (hr : Rec 61 w g (x.cs A n c)) (hf : Fr (· = g) w w') (hp : g ≠ p) : RdrIs N w' p st := by
  obtain ⟨A', n', c', h1, h2, h3, h4, h5, hpN, h6⟩ := h
  exact ⟨A', n', c', (hf.block p (Array.getElem?_eq_some_iff.1 h1).1 (fun e => hp e.symm)).trans h1, h2.fr hf (fun b o e hp => h2.ne_cd hr b o e hp), h3, h4, h5, hpN, h6⟩
def GetE (w : World) (r : Cd × Int × Int) (e : Ending) (w' : World) : Prop :=
  ∃ (A : Option Addr) (n c : Nat), e = .returned (.tuple #[.agg (r.1.cs A n c), .int .i64 r.2.1, .int .i64 r.2.2]) /\ Rd w' A n r.1.dt /\ n <= c /\ Below w.heap.size w w'
def GetL (L : Nat -> Prop) (w : World) (r : Cd × Int × Int) (e : Ending) (w' : World) : Prop :=
  ∃ (A : Option Addr) (n c : Nat), e = .returned (.tuple #[.agg (r.1.cs A n c), .int .i64 r.2.1, .int .i64 r.2.2]) /\ Rd w' A n r.1.dt /\ n <= c /\ Below w.heap.size w w' /\ ∀ b o, A = some ⟨b, o, none⟩ -> 0 < n -> L b
theorem res_ctt {P : Program} {fn : Func} {p u v : Tmp} {T : TypeId} {tmps : Array Value} {ad : Addr} {x : Value} {w : World} (h : fn.results = #[.cell p T, .tmp u, .tmp v]) (hp : tmps.getD p undef = .pointer (some ad)) (hl : (loadVar T ad).run P w = .ok x w) :
    (results fn tmps).run P w = .ok (.tuple #[x, tmps.getD u undef, tmps.getD v undef]) w := by
  rw [Array.getD_eq_getD_getElem?] at hp
  simp only [results, h]
  simp [Result.andThen, hp, asAddr, hl]
section
variable (A : Option Addr) (n c : Nat) (l : List UInt8) (w : World)
theorem CGet_bad (a : Int) (hn : n <= 9223372036854775807) (ha : a < 0 \/ (n : Int) < a) (hl : l.length = n) :
    Calls Tryz.prog 83 #[.slice A n c, .int .i64 a] w (GetL (fun y => w.heap.size <= y) w (getAt l a)) := by
  have e : getAt l a = (Cd.zero, 0, 2) := by unfold getAt; rw [if_pos (by omega)]
  rw [e]
  obtain ⟨w1, hw1⟩ : ∃ w1, w1 = w.alloc (.cells (Cd.zero.cs none 0 0) 61) := ⟨_, rfl⟩
  have R1 := hi_ (show Rec 61 w1 w.heap.size (Cd.zero.cs none 0 0) by rw [hw1]; exact Rec.new w _ _)
  have B1 := hi_ (show Below w.heap.size w w1 by rw [hw1]; exact (Below.refl _ _).alloc (Nat.le_refl _) _)
  clear e hl
  rcases ha with ha | ha
  all_goals
    go_enter Tryz.func83, Tryz.ntmps83
    go_wp2_with (first
      | (rw [<- hw1]; clear hw1)
      | ((with_reducible refine wpList_stS (cs' := Cd.zero.cs none 0 0) cdT rfl rfl (by simp [Value.oneCell']) rfl (.tmp 4) (.tmp 17) rfl rfl rfl R1.out ?_); intro wz hRz hFz))
    refine bodyPost_ret (res_ctt rfl rfl (hRz.load cdT rfl)) rfl ?_
    exact ⟨none, 0, 0, rfl, Rd.nil _ _, Nat.le_refl _, B1.out.trans (hFz.toBelow (fun y hy => by have : y = w.heap.size := hy; omega) B1.out.size), fun _ _ e => by cases e⟩
theorem part_len (hl : l.length = n) (k : Nat) (hk : k <= n) : ((l.drop k).take 92).length = min (n - k) 92 := by simp; omega
set_option maxHeartbeats 4000000 in
theorem CGet_ina (k : Nat) (hr : Rd w A n l) (hn : n <= 1000000) (hc : n <= c) (hcm : c <= 9223372036854775807) (hk : k <= n) (hv : k = c) :
    Calls Tryz.prog 83 #[.slice A n c, .int .i64 k] w (GetL (fun y => w.heap.size <= y) w (getAt l k)) := by
  have hl := hr.1
  have e : getAt l k = ((getCd (l.drop k)).1, if (getCd (l.drop k)).2.2 = 0 then (k : Int) + (getCd (l.drop k)).2.1 else 0, (getCd (l.drop k)).2.2) := by unfold getAt; rw [if_neg (by omega), Int.toNat_natCast]
  have hs := rd_getCd ((l.drop k).take 92)
  rw [getCd_take, part_len n l hl k hk] at hs
  obtain ⟨z, hz⟩ : ∃ z, z = min (n - k) 92 := ⟨_, rfl⟩
  rw [<- hz] at hs
  rw [e]
  clear e
  obtain ⟨⟨x, u, er⟩, hg⟩ : ∃ g, g = getCd (l.drop k) := ⟨_, rfl⟩
  obtain ⟨⟨x2, er2, ⟨lf, ms⟩⟩, hrd⟩ : ∃ g, g = rdCmd ((l.drop k).take 92, false) := ⟨_, rfl⟩
  rw [<- hg, <- hrd] at hs
  rw [<- hg]
  obtain ⟨s1, s2, s3⟩ := hs
  simp only at s1 s2 s3 ⊢
  subst s1 s2
  obtain ⟨w1, hw1⟩ : ∃ w1, w1 = w.alloc (.cells (Cd.zero.cs none 0 0) 61) := ⟨_, rfl⟩
  have R1 := hi_ (show Rec 61 w1 w.heap.size (Cd.zero.cs none 0 0) by rw [hw1]; exact Rec.new w _ _)
  have hb1 : Below w.heap.size w w1 := by rw [hw1]; exact (Below.refl _ _).alloc (Nat.le_refl _) _
  have B1 := hi_ hb1
  -- the part
  have hP : ∀ A', (0 < z -> ∀ b o, A = some ⟨b, o, none⟩ -> A' = some ⟨b, o + k, none⟩) -> Rd w1 A' z ((l.drop k).take 92) := fun A' hA => by
    have h := (hr.below (Nat.le_refl _) hb1).part (lo := k) (m := z) (by omega) A' hA
    have e2 : (l.drop k).take z = (l.drop k).take 92 := by
      rw [hz, List.take_eq_take_iff]
      simp
      omega
    rw [e2] at h
    exact h
  have HP := hi_ hP
  have HRD := hi_ hrd
  have HS3 := hi_ s3
  have z1 : min ((n : Int) - (k : Int)) 92 = (z : Int) := by omega
  have z2 : z <= n - k := by omega
  have hz92 : z <= 92 := by omega
  have hz0 := getCd_zero (l.drop k)
  rw [<- hg] at hz0
  simp only at hz0
  have HZ0 := hi_ hz0
  have hql : ∀ q : Nat, q = lf.length -> q <= z := fun q hq => by rw [hq]; have h5 := rdCmd_len ((l.drop k).take 92, false); rw [<- hrd] at h5; simp only [part_len n l hl k hk, <- hz] at h5; exact h5
  have HQL := hi_ hql
  subst hv
  obtain rfl : z = 0 := by omega
  clear hr hb1 hP hrd s3 hg z1 hl hz0 hql hz
  by_cases he : er2 = 0
  rotate_left 1
  · have hne : (er2 != 0) = true := bne_iff_ne.2 he
    rw [if_neg he]
    have HE := hi_ he
    clear he
    go_enter Tryz.func83, Tryz.ntmps83
    go_wp2_with (first
      | (rw [<- hw1]; clear hw1)
      | (go_at_call 94; refine (RRead_any _ 0 _ ((l.drop k).take 92) w1 (HP.out _ (fun hp0 b o e => by first | (exfalso; omega) | (subst e; simp [Addr.add_lit]))) (by omega)).mono ?_; rintro e w2 ⟨p, rfl, hp, hr2, hb2⟩
         have CR := read_any (st := ((l.drop k).take 92, false)) hr2 (Nat.le_refl _)
         unfold ReadE at CR
         rw [<- HRD.out] at CR
         have CR2 := hi_ CR
         have H2 := hi_ (And.intro (R1.out.under hb2) (And.intro (B1.out.trans (hb2.mono B1.out.size)) (And.intro (show w.heap.size ≠ p by have := R1.out.lt; omega) hp)))
         clear hr2 hb2 hp CR)
      | (go_at_call 95; refine CR2.out.mono ?_; rintro e w3 ⟨y, A9, n9, c9, rfl, hy, hr3, hf3⟩
         have H3 := hi_ (And.intro (H2.out.1.fr hf3 H2.out.2.2.1) (And.intro (H2.out.2.1.trans (hf3.toBelow (fun v hv => by have : v = p := hv; have := H2.out.2.2.2; have := B1.out.size; omega) H2.out.2.1.size)) hr3))
         have HY := hi_ hy
         clear hr3 hf3 hy CR2)
      | ((with_reducible refine wpList_stS (cs' := y.cs A9 n9 c9) cdT rfl rfl (by simp [Value.oneCell']) rfl (.tmp 4) (.tmp 32) rfl rfl rfl H3.out.1 ?_); intro w4 hR4 hF4
         have H4 := hi_ (And.intro hR4 (And.intro hF4 (And.intro (H3.out.2.1.trans (hF4.toBelow (fun v hv => by have : v = w.heap.size := hv; omega) H3.out.2.1.size)) (H3.out.2.2.fr_cd H3.out.1 hF4 H2.out.2.2.1))))
         clear hR4 hF4)
      | ((with_reducible refine wpList_stS (cs' := Cd.zero.cs none 0 0) cdT rfl rfl (by simp [Value.oneCell']) rfl (.tmp 4) (.tmp 36) rfl rfl rfl H4.out.1 ?_); intro wz hRz hFz))
    refine bodyPost_ret (res_ctt rfl rfl (hRz.load cdT rfl)) rfl ?_
    rw [HZ0.out HE.out]
    exact ⟨none, 0, 0, rfl, Rd.nil _ _, Nat.le_refl _, H4.out.2.2.1.trans (hFz.toBelow (fun y hy => by have : y = w.heap.size := hy; omega) H4.out.2.2.1.size), fun _ _ e => by cases e⟩
  · subst he
    rw [if_pos rfl]
    obtain ⟨hu, hu2⟩ := HS3.out rfl
    obtain ⟨q, hq⟩ : ∃ q, q = lf.length := ⟨_, rfl⟩
    rw [<- hq] at hu
    obtain ⟨Q, hQ⟩ : ∃ Q : Nat, Q = k + 0 := ⟨_, rfl⟩
    have e1 : IntKind.i64.wrap ((k : Int)) = (Q : Int) := by rw [IntWalk.i64_in _ (by omega)]; omega
    have hqz : q <= 0 := HQL.out q hq
    have e2 : IntKind.i64.wrap ((Q : Int) - (q : Int)) = (k : Int) + (u : Int) := by rw [IntWalk.i64_in _ (by omega)]; omega
    have E1 := hi_ e1
    have E2 := hi_ e2
    have HQ := hi_ hq
    clear e1 e2 hQ hqz hu hu2 hq
    go_enter Tryz.func83, Tryz.ntmps83
    go_upto_region 8 with (first
      | (rw [<- hw1]; clear hw1)
      | (go_at_call 94; refine (RRead_any _ 0 _ ((l.drop k).take 92) w1 (HP.out _ (fun hp0 b o e => by first | (exfalso; omega) | (subst e; simp [Addr.add_lit]))) (by omega)).mono ?_; rintro e w2 ⟨p, rfl, hp, hr2, hb2⟩
         have CR := read_any (st := ((l.drop k).take 92, false)) hr2 (Nat.le_refl _)
         unfold ReadE at CR
         rw [<- HRD.out] at CR
         have CR2 := hi_ CR
         have H2 := hi_ (And.intro (R1.out.under hb2) (And.intro (B1.out.trans (hb2.mono B1.out.size)) (And.intro (show w.heap.size ≠ p by have := R1.out.lt; omega) hp)))
         clear hr2 hb2 hp CR)
      | (go_at_call 95; refine CR2.out.mono ?_; rintro e w3 ⟨y, A9, n9, c9, rfl, hy, hr3, hf3⟩
         have H3 := hi_ (And.intro (H2.out.1.fr hf3 H2.out.2.2.1) (And.intro (H2.out.2.1.trans (hf3.toBelow (fun v hv => by have : v = p := hv; have := H2.out.2.2.2; have := B1.out.size; omega) H2.out.2.1.size)) hr3))
         have HY := hi_ hy
         clear hr3 hf3 hy CR2)
      | ((with_reducible refine wpList_stS (cs' := y.cs A9 n9 c9) cdT rfl rfl (by simp [Value.oneCell']) rfl (.tmp 4) (.tmp 32) rfl rfl rfl H3.out.1 ?_); intro w4 hR4 hF4
         have H4 := hi_ (And.intro hR4 (And.intro hF4 (And.intro (H3.out.2.1.trans (hF4.toBelow (fun v hv => by have : v = w.heap.size := hv; omega) H3.out.2.1.size)) (H3.out.2.2.fr_cd H3.out.1 hF4 H2.out.2.2.1))))
         clear hR4 hF4))
    have D4 := hi_ (show Rec 61 w4.drew w.heap.size (y.cs A9 n9 c9) /\ RdrIs w2.heap.size w4.drew p (lf, ms) /\ Below w.heap.size w w4.drew from ⟨H4.out.1, H4.out.2.2.2.below (Below.refl _ _).drew, H4.out.2.2.1.drew⟩)
    have CL := Left_any D4.out.2.1
    simp only [<- HQ.out] at CL
    have CL2 := hi_ CL
    have e1 := E1.out
    have e2 := E2.out
    clear CL
    refine wp_region_noPanic ?_
    refine wp_region_held_drew (S := fun W => True) (by kernel_rfl) trivial (fun hHeld => ?_)
    refine tj_ 1 ⟨some 39, .move (.tmp 1), 3, "cmd.go:88", #[⟨8, .gcOnly .lateStores⟩], none⟩ hHeld (h := ?_)
    refine tj_ 2 ⟨some 40, .move (.tmp 7), 42, "cmd.go:88", #[], none⟩ hHeld (h := ?_)
    refine tj_ 3 ⟨some 41, .call { callee := .builtin .len, args := #[.tmp 40], argTypes := #[42] }, 3, "cmd.go:88", #[⟨2, .data⟩], none⟩ hHeld (h := ?_)
    refine tj_ 4 ⟨some 42, .binOp .add 3 (.tmp 39) (.tmp 41) 3, 3, "cmd.go:88", #[⟨1, .data⟩, ⟨3, .data⟩, ⟨8, .gcOnly .lateStores⟩], none⟩ hHeld (h := ?_)
    refine tj_ 5 ⟨some 43, .move (.tmp 8), 129, "cmd.go:88", #[], none⟩ hHeld (h := ?_)
    refine wpAnyH_ready (rs := [0, 6]) (by kernel_rfl) (by simp) ?_
    refine AllReadyH.cons (o := ⟨some 38, .load 61 (.tmp 4), 61, "cmd.go:88", #[], none⟩) rfl (fun K' hK => ?_) (AllReadyH.cons (o := ⟨some 44, .call { callee := .value (.func 96), args := #[.tmp 43], argTypes := #[129] }, 3, "cmd.go:88", #[⟨5, .data⟩], none⟩) rfl (fun K' hK => ?_) AllReadyH.nil)
    · refine step_ldS cdT rfl rfl (.tmp 4) rfl rfl D4.out.1 ?_
      refine hK.out _ _ trivial (fun hHeld => ?_)
      clear hK K'
      try simp only [Act.put, sA_, sB_, sC_]
      refine wpAnyH_ready (rs := [6]) (by kernel_rfl) (by simp) ?_
      refine AllReadyH.cons (o := ⟨some 44, .call { callee := .value (.func 96), args := #[.tmp 43], argTypes := #[129] }, 3, "cmd.go:88", #[⟨5, .data⟩], none⟩) rfl (fun K' hK => ?_) AllReadyH.nil
      go_simp
      go_at_call 96; refine CL2.out.mono ?_; rintro e w' ⟨rfl, hw'⟩; subst hw'
      refine hK.out _ _ trivial (fun hHeld => ?_)
      clear hK K'
      try simp only [Act.put, sA_, sB_, sC_]
      refine tj_ 7 ⟨some 45, .binOp .sub 3 (.tmp 42) (.tmp 44) 3, 3, "cmd.go:88", #[⟨4, .data⟩, ⟨6, .data⟩, ⟨8, .gcOnly .lateStores⟩], none⟩ hHeld (h := ?_)
      refine wpAnyH_ready (rs := [8]) (by kernel_rfl) (by simp) ?_
      refine AllReadyH.cons (o := ⟨none, .store 61 (.tmp 4) (.tmp 38), 0, "cmd.go:88", #[⟨0, .data⟩, ⟨6, .chain⟩, ⟨0, .phase⟩, ⟨1, .textOnly .lateStores⟩, ⟨2, .textOnly .lateStores⟩, ⟨3, .textOnly .lateStoresUnsure⟩, ⟨4, .textOnly .lateStores⟩, ⟨5, .textOnly .lateStores⟩, ⟨6, .textOnly .lateStoresUnsure⟩, ⟨7, .textOnly .lateStores⟩], none⟩) rfl (fun K' hK => ?_) AllReadyH.nil
      refine step_stS (cs' := y.cs A9 n9 c9) cdT rfl rfl (by simp [Value.oneCell']) rfl (.tmp 4) (.tmp 38) rfl rfl rfl D4.out.1 ?_
      intro wz hRz hFz
      refine hK.out _ _ trivial (fun hHeld => ?_)
      clear hK K'
      try simp only [Act.put]
      refine tj_ 9 ⟨some 5, .assign (.tmp 45), 3, "cmd.go:88", #[⟨7, .data⟩, ⟨8, .chain⟩, ⟨0, .phase⟩, ⟨1, .phase⟩, ⟨2, .phase⟩, ⟨3, .phase⟩, ⟨4, .phase⟩, ⟨5, .phase⟩, ⟨6, .phase⟩, ⟨7, .phase⟩, ⟨8, .phase⟩], none⟩ hHeld (h := ?_)
      refine tj_ 10 ⟨some 6, .assign (.const (.int .i64 0)), 99, "cmd.go:88", #[⟨9, .chain⟩, ⟨0, .phase⟩, ⟨1, .phase⟩, ⟨2, .phase⟩, ⟨3, .phase⟩, ⟨4, .phase⟩, ⟨5, .phase⟩, ⟨6, .phase⟩, ⟨7, .phase⟩, ⟨8, .phase⟩, ⟨9, .phase⟩], none⟩ hHeld (h := ?_)
      refine wpAnyH_done (by kernel_rfl) ?_ _
      refine NoPanic.normal ?_
      clear hHeld
      go_wp2
      refine bodyPost_ret (res_ctt rfl rfl (hRz.load cdT rfl)) rfl ?_
      obtain ⟨rfl, hr9, hc9, hlo9⟩ := (show y = x2 /\ Rd w3 A9 n9 y.dt /\ n9 <= c9 /\ ∀ b o, A9 = some ⟨b, o, none⟩ -> 0 < n9 -> w2.heap.size <= b by first | exact HY.out rfl | exact HY.out trivial)
      refine ⟨A9, n9, c9, ?_, ?_, hc9, D4.out.2.2.trans (hFz.toBelow (fun v hv => by have : v = w.heap.size := hv; omega) D4.out.2.2.size), fun b o e hp => by have := hlo9 b o e hp; have := H2.out.2.1.size; omega⟩
      · rfl
      · exact (hr9.fr H4.out.2.1 (fun b o e hp => hr9.ne_cd H3.out.1 b o e hp)).drew.fr hFz (fun b o e hp => (hr9.fr H4.out.2.1 (fun b o e hp => hr9.ne_cd H3.out.1 b o e hp)).drew.ne_cd D4.out.1 b o e hp)
    · go_simp
      go_at_call 96; refine CL2.out.mono ?_; rintro e w' ⟨rfl, hw'⟩; subst hw'
      refine hK.out _ _ trivial (fun hHeld => ?_)
      clear hK K'
      try simp only [Act.put, sA_, sB_, sC_]
      refine tj_ 7 ⟨some 45, .binOp .sub 3 (.tmp 42) (.tmp 44) 3, 3, "cmd.go:88", #[⟨4, .data⟩, ⟨6, .data⟩, ⟨8, .gcOnly .lateStores⟩], none⟩ hHeld (h := ?_)
      refine wpAnyH_ready (rs := [0]) (by kernel_rfl) (by simp) ?_
      refine AllReadyH.cons (o := ⟨some 38, .load 61 (.tmp 4), 61, "cmd.go:88", #[], none⟩) rfl (fun K' hK => ?_) AllReadyH.nil
      refine step_ldS cdT rfl rfl (.tmp 4) rfl rfl D4.out.1 ?_
      refine hK.out _ _ trivial (fun hHeld => ?_)
      clear hK K'
      try simp only [Act.put, sA_, sB_, sC_]
      refine wpAnyH_ready (rs := [8]) (by kernel_rfl) (by simp) ?_
      refine AllReadyH.cons (o := ⟨none, .store 61 (.tmp 4) (.tmp 38), 0, "cmd.go:88", #[⟨0, .data⟩, ⟨6, .chain⟩, ⟨0, .phase⟩, ⟨1, .textOnly .lateStores⟩, ⟨2, .textOnly .lateStores⟩, ⟨3, .textOnly .lateStoresUnsure⟩, ⟨4, .textOnly .lateStores⟩, ⟨5, .textOnly .lateStores⟩, ⟨6, .textOnly .lateStoresUnsure⟩, ⟨7, .textOnly .lateStores⟩], none⟩) rfl (fun K' hK => ?_) AllReadyH.nil
      refine step_stS (cs' := y.cs A9 n9 c9) cdT rfl rfl (by simp [Value.oneCell']) rfl (.tmp 4) (.tmp 38) rfl rfl rfl D4.out.1 ?_
      intro wz hRz hFz
      refine hK.out _ _ trivial (fun hHeld => ?_)
      clear hK K'
      try simp only [Act.put]
      refine tj_ 9 ⟨some 5, .assign (.tmp 45), 3, "cmd.go:88", #[⟨7, .data⟩, ⟨8, .chain⟩, ⟨0, .phase⟩, ⟨1, .phase⟩, ⟨2, .phase⟩, ⟨3, .phase⟩, ⟨4, .phase⟩, ⟨5, .phase⟩, ⟨6, .phase⟩, ⟨7, .phase⟩, ⟨8, .phase⟩], none⟩ hHeld (h := ?_)
      refine tj_ 10 ⟨some 6, .assign (.const (.int .i64 0)), 99, "cmd.go:88", #[⟨9, .chain⟩, ⟨0, .phase⟩, ⟨1, .phase⟩, ⟨2, .phase⟩, ⟨3, .phase⟩, ⟨4, .phase⟩, ⟨5, .phase⟩, ⟨6, .phase⟩, ⟨7, .phase⟩, ⟨8, .phase⟩, ⟨9, .phase⟩], none⟩ hHeld (h := ?_)
      refine wpAnyH_done (by kernel_rfl) ?_ _
      refine NoPanic.normal ?_
      clear hHeld
      go_wp2
      refine bodyPost_ret (res_ctt rfl rfl (hRz.load cdT rfl)) rfl ?_
      obtain ⟨rfl, hr9, hc9, hlo9⟩ := (show y = x2 /\ Rd w3 A9 n9 y.dt /\ n9 <= c9 /\ ∀ b o, A9 = some ⟨b, o, none⟩ -> 0 < n9 -> w2.heap.size <= b by first | exact HY.out rfl | exact HY.out trivial)
      refine ⟨A9, n9, c9, ?_, ?_, hc9, D4.out.2.2.trans (hFz.toBelow (fun v hv => by have : v = w.heap.size := hv; omega) D4.out.2.2.size), fun b o e hp => by have := hlo9 b o e hp; have := H2.out.2.1.size; omega⟩
      · rfl
      · exact (hr9.fr H4.out.2.1 (fun b o e hp => hr9.ne_cd H3.out.1 b o e hp)).drew.fr hFz (fun b o e hp => (hr9.fr H4.out.2.1 (fun b o e hp => hr9.ne_cd H3.out.1 b o e hp)).drew.ne_cd D4.out.1 b o e hp)
set_option maxHeartbeats 4000000 in
theorem CGet_inb (k : Nat) (hr : Rd w A n l) (hn : n <= 1000000) (hc : n <= c) (hcm : c <= 9223372036854775807) (hk : k <= n) (hv : ¬ k = c) (h92 : (92 : Int) < (n : Int) - k) :
    Calls Tryz.prog 83 #[.slice A n c, .int .i64 k] w (GetL (fun y => w.heap.size <= y) w (getAt l k)) := by
  have hl := hr.1
  have e : getAt l k = ((getCd (l.drop k)).1, if (getCd (l.drop k)).2.2 = 0 then (k : Int) + (getCd (l.drop k)).2.1 else 0, (getCd (l.drop k)).2.2) := by unfold getAt; rw [if_neg (by omega), Int.toNat_natCast]
  have hs := rd_getCd ((l.drop k).take 92)
  rw [getCd_take, part_len n l hl k hk] at hs
  obtain ⟨z, hz⟩ : ∃ z, z = min (n - k) 92 := ⟨_, rfl⟩
  rw [<- hz] at hs
  rw [e]
  clear e
  obtain ⟨⟨x, u, er⟩, hg⟩ : ∃ g, g = getCd (l.drop k) := ⟨_, rfl⟩
  obtain ⟨⟨x2, er2, ⟨lf, ms⟩⟩, hrd⟩ : ∃ g, g = rdCmd ((l.drop k).take 92, false) := ⟨_, rfl⟩
  rw [<- hg, <- hrd] at hs
  rw [<- hg]
  obtain ⟨s1, s2, s3⟩ := hs
  simp only at s1 s2 s3 ⊢
  subst s1 s2
  obtain ⟨w1, hw1⟩ : ∃ w1, w1 = w.alloc (.cells (Cd.zero.cs none 0 0) 61) := ⟨_, rfl⟩
  have R1 := hi_ (show Rec 61 w1 w.heap.size (Cd.zero.cs none 0 0) by rw [hw1]; exact Rec.new w _ _)
  have hb1 : Below w.heap.size w w1 := by rw [hw1]; exact (Below.refl _ _).alloc (Nat.le_refl _) _
  have B1 := hi_ hb1
  -- the part
  have hP : ∀ A', (0 < z -> ∀ b o, A = some ⟨b, o, none⟩ -> A' = some ⟨b, o + k, none⟩) -> Rd w1 A' z ((l.drop k).take 92) := fun A' hA => by
    have h := (hr.below (Nat.le_refl _) hb1).part (lo := k) (m := z) (by omega) A' hA
    have e2 : (l.drop k).take z = (l.drop k).take 92 := by
      rw [hz, List.take_eq_take_iff]
      simp
      omega
    rw [e2] at h
    exact h
  have HP := hi_ hP
  have HRD := hi_ hrd
  have HS3 := hi_ s3
  have z1 : min ((n : Int) - (k : Int)) 92 = (z : Int) := by omega
  have z2 : z <= n - k := by omega
  have hz92 : z <= 92 := by omega
  have hz0 := getCd_zero (l.drop k)
  rw [<- hg] at hz0
  simp only at hz0
  have HZ0 := hi_ hz0
  have hql : ∀ q : Nat, q = lf.length -> q <= z := fun q hq => by rw [hq]; have h5 := rdCmd_len ((l.drop k).take 92, false); rw [<- hrd] at h5; simp only [part_len n l hl k hk, <- hz] at h5; exact h5
  have HQL := hi_ hql
  obtain rfl : z = 92 := by omega
  clear hr hb1 hP hrd s3 hg z1 hl hz0 hql hz
  by_cases he : er2 = 0
  rotate_left 1
  · have hne : (er2 != 0) = true := bne_iff_ne.2 he
    rw [if_neg he]
    have HE := hi_ he
    clear he
    go_enter Tryz.func83, Tryz.ntmps83
    go_wp2_with (first
      | (rw [<- hw1]; clear hw1)
      | (go_at_call 94; refine (RRead_any _ 92 _ ((l.drop k).take 92) w1 (HP.out _ (fun hp0 b o e => by first | (exfalso; omega) | (subst e; simp [Addr.add_lit]))) (by omega)).mono ?_; rintro e w2 ⟨p, rfl, hp, hr2, hb2⟩
         have CR := read_any (st := ((l.drop k).take 92, false)) hr2 (Nat.le_refl _)
         unfold ReadE at CR
         rw [<- HRD.out] at CR
         have CR2 := hi_ CR
         have H2 := hi_ (And.intro (R1.out.under hb2) (And.intro (B1.out.trans (hb2.mono B1.out.size)) (And.intro (show w.heap.size ≠ p by have := R1.out.lt; omega) hp)))
         clear hr2 hb2 hp CR)
      | (go_at_call 95; refine CR2.out.mono ?_; rintro e w3 ⟨y, A9, n9, c9, rfl, hy, hr3, hf3⟩
         have H3 := hi_ (And.intro (H2.out.1.fr hf3 H2.out.2.2.1) (And.intro (H2.out.2.1.trans (hf3.toBelow (fun v hv => by have : v = p := hv; have := H2.out.2.2.2; have := B1.out.size; omega) H2.out.2.1.size)) hr3))
         have HY := hi_ hy
         clear hr3 hf3 hy CR2)
      | ((with_reducible refine wpList_stS (cs' := y.cs A9 n9 c9) cdT rfl rfl (by simp [Value.oneCell']) rfl (.tmp 4) (.tmp 32) rfl rfl rfl H3.out.1 ?_); intro w4 hR4 hF4
         have H4 := hi_ (And.intro hR4 (And.intro hF4 (And.intro (H3.out.2.1.trans (hF4.toBelow (fun v hv => by have : v = w.heap.size := hv; omega) H3.out.2.1.size)) (H3.out.2.2.fr_cd H3.out.1 hF4 H2.out.2.2.1))))
         clear hR4 hF4)
      | ((with_reducible refine wpList_stS (cs' := Cd.zero.cs none 0 0) cdT rfl rfl (by simp [Value.oneCell']) rfl (.tmp 4) (.tmp 36) rfl rfl rfl H4.out.1 ?_); intro wz hRz hFz))
    refine bodyPost_ret (res_ctt rfl rfl (hRz.load cdT rfl)) rfl ?_
    rw [HZ0.out HE.out]
    exact ⟨none, 0, 0, rfl, Rd.nil _ _, Nat.le_refl _, H4.out.2.2.1.trans (hFz.toBelow (fun y hy => by have : y = w.heap.size := hy; omega) H4.out.2.2.1.size), fun _ _ e => by cases e⟩
  · subst he
    rw [if_pos rfl]
    obtain ⟨hu, hu2⟩ := HS3.out rfl
    obtain ⟨q, hq⟩ : ∃ q, q = lf.length := ⟨_, rfl⟩
    rw [<- hq] at hu
    obtain ⟨Q, hQ⟩ : ∃ Q : Nat, Q = k + 92 := ⟨_, rfl⟩
    have e1 : IntKind.i64.wrap ((k : Int) + 92) = (Q : Int) := by rw [IntWalk.i64_in _ (by omega)]; omega
    have hqz : q <= 92 := HQL.out q hq
    have e2 : IntKind.i64.wrap ((Q : Int) - (q : Int)) = (k : Int) + (u : Int) := by rw [IntWalk.i64_in _ (by omega)]; omega
    have E1 := hi_ e1
    have E2 := hi_ e2
    have HQ := hi_ hq
    clear e1 e2 hQ hqz hu hu2 hq
    go_enter Tryz.func83, Tryz.ntmps83
    go_upto_region 8 with (first
      | (rw [<- hw1]; clear hw1)
      | (go_at_call 94; refine (RRead_any _ 92 _ ((l.drop k).take 92) w1 (HP.out _ (fun hp0 b o e => by first | (exfalso; omega) | (subst e; simp [Addr.add_lit]))) (by omega)).mono ?_; rintro e w2 ⟨p, rfl, hp, hr2, hb2⟩
         have CR := read_any (st := ((l.drop k).take 92, false)) hr2 (Nat.le_refl _)
         unfold ReadE at CR
         rw [<- HRD.out] at CR
         have CR2 := hi_ CR
         have H2 := hi_ (And.intro (R1.out.under hb2) (And.intro (B1.out.trans (hb2.mono B1.out.size)) (And.intro (show w.heap.size ≠ p by have := R1.out.lt; omega) hp)))
         clear hr2 hb2 hp CR)
      | (go_at_call 95; refine CR2.out.mono ?_; rintro e w3 ⟨y, A9, n9, c9, rfl, hy, hr3, hf3⟩
         have H3 := hi_ (And.intro (H2.out.1.fr hf3 H2.out.2.2.1) (And.intro (H2.out.2.1.trans (hf3.toBelow (fun v hv => by have : v = p := hv; have := H2.out.2.2.2; have := B1.out.size; omega) H2.out.2.1.size)) hr3))
         have HY := hi_ hy
         clear hr3 hf3 hy CR2)
      | ((with_reducible refine wpList_stS (cs' := y.cs A9 n9 c9) cdT rfl rfl (by simp [Value.oneCell']) rfl (.tmp 4) (.tmp 32) rfl rfl rfl H3.out.1 ?_); intro w4 hR4 hF4
         have H4 := hi_ (And.intro hR4 (And.intro hF4 (And.intro (H3.out.2.1.trans (hF4.toBelow (fun v hv => by have : v = w.heap.size := hv; omega) H3.out.2.1.size)) (H3.out.2.2.fr_cd H3.out.1 hF4 H2.out.2.2.1))))
         clear hR4 hF4))
    have D4 := hi_ (show Rec 61 w4.drew w.heap.size (y.cs A9 n9 c9) /\ RdrIs w2.heap.size w4.drew p (lf, ms) /\ Below w.heap.size w w4.drew from ⟨H4.out.1, H4.out.2.2.2.below (Below.refl _ _).drew, H4.out.2.2.1.drew⟩)
    have CL := Left_any D4.out.2.1
    simp only [<- HQ.out] at CL
    have CL2 := hi_ CL
    have e1 := E1.out
    have e2 := E2.out
    clear CL
    refine wp_region_noPanic ?_
    refine wp_region_held_drew (S := fun W => True) (by kernel_rfl) trivial (fun hHeld => ?_)
    refine tj_ 1 ⟨some 39, .move (.tmp 1), 3, "cmd.go:88", #[⟨8, .gcOnly .lateStores⟩], none⟩ hHeld (h := ?_)
    refine tj_ 2 ⟨some 40, .move (.tmp 7), 42, "cmd.go:88", #[], none⟩ hHeld (h := ?_)
    refine tj_ 3 ⟨some 41, .call { callee := .builtin .len, args := #[.tmp 40], argTypes := #[42] }, 3, "cmd.go:88", #[⟨2, .data⟩], none⟩ hHeld (h := ?_)
    refine tj_ 4 ⟨some 42, .binOp .add 3 (.tmp 39) (.tmp 41) 3, 3, "cmd.go:88", #[⟨1, .data⟩, ⟨3, .data⟩, ⟨8, .gcOnly .lateStores⟩], none⟩ hHeld (h := ?_)
    refine tj_ 5 ⟨some 43, .move (.tmp 8), 129, "cmd.go:88", #[], none⟩ hHeld (h := ?_)
    refine wpAnyH_ready (rs := [0, 6]) (by kernel_rfl) (by simp) ?_
    refine AllReadyH.cons (o := ⟨some 38, .load 61 (.tmp 4), 61, "cmd.go:88", #[], none⟩) rfl (fun K' hK => ?_) (AllReadyH.cons (o := ⟨some 44, .call { callee := .value (.func 96), args := #[.tmp 43], argTypes := #[129] }, 3, "cmd.go:88", #[⟨5, .data⟩], none⟩) rfl (fun K' hK => ?_) AllReadyH.nil)
    · refine step_ldS cdT rfl rfl (.tmp 4) rfl rfl D4.out.1 ?_
      refine hK.out _ _ trivial (fun hHeld => ?_)
      clear hK K'
      try simp only [Act.put, sA_, sB_, sC_]
      refine wpAnyH_ready (rs := [6]) (by kernel_rfl) (by simp) ?_
      refine AllReadyH.cons (o := ⟨some 44, .call { callee := .value (.func 96), args := #[.tmp 43], argTypes := #[129] }, 3, "cmd.go:88", #[⟨5, .data⟩], none⟩) rfl (fun K' hK => ?_) AllReadyH.nil
      go_simp
      go_at_call 96; refine CL2.out.mono ?_; rintro e w' ⟨rfl, hw'⟩; subst hw'
      refine hK.out _ _ trivial (fun hHeld => ?_)
      clear hK K'
      try simp only [Act.put, sA_, sB_, sC_]
      refine tj_ 7 ⟨some 45, .binOp .sub 3 (.tmp 42) (.tmp 44) 3, 3, "cmd.go:88", #[⟨4, .data⟩, ⟨6, .data⟩, ⟨8, .gcOnly .lateStores⟩], none⟩ hHeld (h := ?_)
      refine wpAnyH_ready (rs := [8]) (by kernel_rfl) (by simp) ?_
      refine AllReadyH.cons (o := ⟨none, .store 61 (.tmp 4) (.tmp 38), 0, "cmd.go:88", #[⟨0, .data⟩, ⟨6, .chain⟩, ⟨0, .phase⟩, ⟨1, .textOnly .lateStores⟩, ⟨2, .textOnly .lateStores⟩, ⟨3, .textOnly .lateStoresUnsure⟩, ⟨4, .textOnly .lateStores⟩, ⟨5, .textOnly .lateStores⟩, ⟨6, .textOnly .lateStoresUnsure⟩, ⟨7, .textOnly .lateStores⟩], none⟩) rfl (fun K' hK => ?_) AllReadyH.nil
      refine step_stS (cs' := y.cs A9 n9 c9) cdT rfl rfl (by simp [Value.oneCell']) rfl (.tmp 4) (.tmp 38) rfl rfl rfl D4.out.1 ?_
      intro wz hRz hFz
      refine hK.out _ _ trivial (fun hHeld => ?_)
      clear hK K'
      try simp only [Act.put]
      refine tj_ 9 ⟨some 5, .assign (.tmp 45), 3, "cmd.go:88", #[⟨7, .data⟩, ⟨8, .chain⟩, ⟨0, .phase⟩, ⟨1, .phase⟩, ⟨2, .phase⟩, ⟨3, .phase⟩, ⟨4, .phase⟩, ⟨5, .phase⟩, ⟨6, .phase⟩, ⟨7, .phase⟩, ⟨8, .phase⟩], none⟩ hHeld (h := ?_)
      refine tj_ 10 ⟨some 6, .assign (.const (.int .i64 0)), 99, "cmd.go:88", #[⟨9, .chain⟩, ⟨0, .phase⟩, ⟨1, .phase⟩, ⟨2, .phase⟩, ⟨3, .phase⟩, ⟨4, .phase⟩, ⟨5, .phase⟩, ⟨6, .phase⟩, ⟨7, .phase⟩, ⟨8, .phase⟩, ⟨9, .phase⟩], none⟩ hHeld (h := ?_)
      refine wpAnyH_done (by kernel_rfl) ?_ _
      refine NoPanic.normal ?_
      clear hHeld
      go_wp2
      refine bodyPost_ret (res_ctt rfl rfl (hRz.load cdT rfl)) rfl ?_
      obtain ⟨rfl, hr9, hc9, hlo9⟩ := (show y = x2 /\ Rd w3 A9 n9 y.dt /\ n9 <= c9 /\ ∀ b o, A9 = some ⟨b, o, none⟩ -> 0 < n9 -> w2.heap.size <= b by first | exact HY.out rfl | exact HY.out trivial)
      refine ⟨A9, n9, c9, ?_, ?_, hc9, D4.out.2.2.trans (hFz.toBelow (fun v hv => by have : v = w.heap.size := hv; omega) D4.out.2.2.size), fun b o e hp => by have := hlo9 b o e hp; have := H2.out.2.1.size; omega⟩
      · rfl
      · exact (hr9.fr H4.out.2.1 (fun b o e hp => hr9.ne_cd H3.out.1 b o e hp)).drew.fr hFz (fun b o e hp => (hr9.fr H4.out.2.1 (fun b o e hp => hr9.ne_cd H3.out.1 b o e hp)).drew.ne_cd D4.out.1 b o e hp)
    · go_simp
      go_at_call 96; refine CL2.out.mono ?_; rintro e w' ⟨rfl, hw'⟩; subst hw'
      refine hK.out _ _ trivial (fun hHeld => ?_)
      clear hK K'
      try simp only [Act.put, sA_, sB_, sC_]
      refine tj_ 7 ⟨some 45, .binOp .sub 3 (.tmp 42) (.tmp 44) 3, 3, "cmd.go:88", #[⟨4, .data⟩, ⟨6, .data⟩, ⟨8, .gcOnly .lateStores⟩], none⟩ hHeld (h := ?_)
      refine wpAnyH_ready (rs := [0]) (by kernel_rfl) (by simp) ?_
      refine AllReadyH.cons (o := ⟨some 38, .load 61 (.tmp 4), 61, "cmd.go:88", #[], none⟩) rfl (fun K' hK => ?_) AllReadyH.nil
      refine step_ldS cdT rfl rfl (.tmp 4) rfl rfl D4.out.1 ?_
      refine hK.out _ _ trivial (fun hHeld => ?_)
      clear hK K'
      try simp only [Act.put, sA_, sB_, sC_]
      refine wpAnyH_ready (rs := [8]) (by kernel_rfl) (by simp) ?_
      refine AllReadyH.cons (o := ⟨none, .store 61 (.tmp 4) (.tmp 38), 0, "cmd.go:88", #[⟨0, .data⟩, ⟨6, .chain⟩, ⟨0, .phase⟩, ⟨1, .textOnly .lateStores⟩, ⟨2, .textOnly .lateStores⟩, ⟨3, .textOnly .lateStoresUnsure⟩, ⟨4, .textOnly .lateStores⟩, ⟨5, .textOnly .lateStores⟩, ⟨6, .textOnly .lateStoresUnsure⟩, ⟨7, .textOnly .lateStores⟩], none⟩) rfl (fun K' hK => ?_) AllReadyH.nil
      refine step_stS (cs' := y.cs A9 n9 c9) cdT rfl rfl (by simp [Value.oneCell']) rfl (.tmp 4) (.tmp 38) rfl rfl rfl D4.out.1 ?_
      intro wz hRz hFz
      refine hK.out _ _ trivial (fun hHeld => ?_)
      clear hK K'
      try simp only [Act.put]
      refine tj_ 9 ⟨some 5, .assign (.tmp 45), 3, "cmd.go:88", #[⟨7, .data⟩, ⟨8, .chain⟩, ⟨0, .phase⟩, ⟨1, .phase⟩, ⟨2, .phase⟩, ⟨3, .phase⟩, ⟨4, .phase⟩, ⟨5, .phase⟩, ⟨6, .phase⟩, ⟨7, .phase⟩, ⟨8, .phase⟩], none⟩ hHeld (h := ?_)
      refine tj_ 10 ⟨some 6, .assign (.const (.int .i64 0)), 99, "cmd.go:88", #[⟨9, .chain⟩, ⟨0, .phase⟩, ⟨1, .phase⟩, ⟨2, .phase⟩, ⟨3, .phase⟩, ⟨4, .phase⟩, ⟨5, .phase⟩, ⟨6, .phase⟩, ⟨7, .phase⟩, ⟨8, .phase⟩, ⟨9, .phase⟩], none⟩ hHeld (h := ?_)
      refine wpAnyH_done (by kernel_rfl) ?_ _
      refine NoPanic.normal ?_
      clear hHeld
      go_wp2
      refine bodyPost_ret (res_ctt rfl rfl (hRz.load cdT rfl)) rfl ?_
      obtain ⟨rfl, hr9, hc9, hlo9⟩ := (show y = x2 /\ Rd w3 A9 n9 y.dt /\ n9 <= c9 /\ ∀ b o, A9 = some ⟨b, o, none⟩ -> 0 < n9 -> w2.heap.size <= b by first | exact HY.out rfl | exact HY.out trivial)
      refine ⟨A9, n9, c9, ?_, ?_, hc9, D4.out.2.2.trans (hFz.toBelow (fun v hv => by have : v = w.heap.size := hv; omega) D4.out.2.2.size), fun b o e hp => by have := hlo9 b o e hp; have := H2.out.2.1.size; omega⟩
      · rfl
      · exact (hr9.fr H4.out.2.1 (fun b o e hp => hr9.ne_cd H3.out.1 b o e hp)).drew.fr hFz (fun b o e hp => (hr9.fr H4.out.2.1 (fun b o e hp => hr9.ne_cd H3.out.1 b o e hp)).drew.ne_cd D4.out.1 b o e hp)
set_option maxHeartbeats 4000000 in
theorem CGet_inc (k : Nat) (hr : Rd w A n l) (hn : n <= 1000000) (hc : n <= c) (hcm : c <= 9223372036854775807) (hk : k <= n) (hv : ¬ k = c) (h92 : ¬ (92 : Int) < (n : Int) - k) :
    Calls Tryz.prog 83 #[.slice A n c, .int .i64 k] w (GetL (fun y => w.heap.size <= y) w (getAt l k)) := by
  have hl := hr.1
  have e : getAt l k = ((getCd (l.drop k)).1, if (getCd (l.drop k)).2.2 = 0 then (k : Int) + (getCd (l.drop k)).2.1 else 0, (getCd (l.drop k)).2.2) := by unfold getAt; rw [if_neg (by omega), Int.toNat_natCast]
  have hs := rd_getCd ((l.drop k).take 92)
  rw [getCd_take, part_len n l hl k hk] at hs
  obtain ⟨z, hz⟩ : ∃ z, z = min (n - k) 92 := ⟨_, rfl⟩
  rw [<- hz] at hs
  rw [e]
  clear e
  obtain ⟨⟨x, u, er⟩, hg⟩ : ∃ g, g = getCd (l.drop k) := ⟨_, rfl⟩
  obtain ⟨⟨x2, er2, ⟨lf, ms⟩⟩, hrd⟩ : ∃ g, g = rdCmd ((l.drop k).take 92, false) := ⟨_, rfl⟩
  rw [<- hg, <- hrd] at hs
  rw [<- hg]
  obtain ⟨s1, s2, s3⟩ := hs
  simp only at s1 s2 s3 ⊢
  subst s1 s2
  obtain ⟨w1, hw1⟩ : ∃ w1, w1 = w.alloc (.cells (Cd.zero.cs none 0 0) 61) := ⟨_, rfl⟩
  have R1 := hi_ (show Rec 61 w1 w.heap.size (Cd.zero.cs none 0 0) by rw [hw1]; exact Rec.new w _ _)
  have hb1 : Below w.heap.size w w1 := by rw [hw1]; exact (Below.refl _ _).alloc (Nat.le_refl _) _
  have B1 := hi_ hb1
  -- the part
  have hP : ∀ A', (0 < z -> ∀ b o, A = some ⟨b, o, none⟩ -> A' = some ⟨b, o + k, none⟩) -> Rd w1 A' z ((l.drop k).take 92) := fun A' hA => by
    have h := (hr.below (Nat.le_refl _) hb1).part (lo := k) (m := z) (by omega) A' hA
    have e2 : (l.drop k).take z = (l.drop k).take 92 := by
      rw [hz, List.take_eq_take_iff]
      simp
      omega
    rw [e2] at h
    exact h
  have HP := hi_ hP
  have HRD := hi_ hrd
  have HS3 := hi_ s3
  have z1 : min ((n : Int) - (k : Int)) 92 = (z : Int) := by omega
  have z2 : z <= n - k := by omega
  have hz92 : z <= 92 := by omega
  have hz0 := getCd_zero (l.drop k)
  rw [<- hg] at hz0
  simp only at hz0
  have HZ0 := hi_ hz0
  have hql : ∀ q : Nat, q = lf.length -> q <= z := fun q hq => by rw [hq]; have h5 := rdCmd_len ((l.drop k).take 92, false); rw [<- hrd] at h5; simp only [part_len n l hl k hk, <- hz] at h5; exact h5
  have HQL := hi_ hql
  have hzz : z = n - k := by omega
  have HZ := hi_ hzz
  clear hzz
  clear hr hb1 hP hrd s3 hg z1 hl hz0 hql hz
  by_cases he : er2 = 0
  rotate_left 1
  · have hne : (er2 != 0) = true := bne_iff_ne.2 he
    rw [if_neg he]
    have HE := hi_ he
    clear he
    go_enter Tryz.func83, Tryz.ntmps83
    go_wp2_with (first
      | (rw [<- hw1]; clear hw1)
      | (go_at_call 94; have _t := HZ; rw [<- HZ.out]; refine (RRead_any _ z _ ((l.drop k).take 92) w1 (HP.out _ (fun hp0 b o e => by first | (exfalso; omega) | (subst e; simp [Addr.add_lit]))) (by omega)).mono ?_; rintro e w2 ⟨p, rfl, hp, hr2, hb2⟩
         have CR := read_any (st := ((l.drop k).take 92, false)) hr2 (Nat.le_refl _)
         unfold ReadE at CR
         rw [<- HRD.out] at CR
         have CR2 := hi_ CR
         have H2 := hi_ (And.intro (R1.out.under hb2) (And.intro (B1.out.trans (hb2.mono B1.out.size)) (And.intro (show w.heap.size ≠ p by have := R1.out.lt; omega) hp)))
         clear hr2 hb2 hp CR)
      | (go_at_call 95; refine CR2.out.mono ?_; rintro e w3 ⟨y, A9, n9, c9, rfl, hy, hr3, hf3⟩
         have H3 := hi_ (And.intro (H2.out.1.fr hf3 H2.out.2.2.1) (And.intro (H2.out.2.1.trans (hf3.toBelow (fun v hv => by have : v = p := hv; have := H2.out.2.2.2; have := B1.out.size; omega) H2.out.2.1.size)) hr3))
         have HY := hi_ hy
         clear hr3 hf3 hy CR2)
      | ((with_reducible refine wpList_stS (cs' := y.cs A9 n9 c9) cdT rfl rfl (by simp [Value.oneCell']) rfl (.tmp 4) (.tmp 32) rfl rfl rfl H3.out.1 ?_); intro w4 hR4 hF4
         have H4 := hi_ (And.intro hR4 (And.intro hF4 (And.intro (H3.out.2.1.trans (hF4.toBelow (fun v hv => by have : v = w.heap.size := hv; omega) H3.out.2.1.size)) (H3.out.2.2.fr_cd H3.out.1 hF4 H2.out.2.2.1))))
         clear hR4 hF4)
      | ((with_reducible refine wpList_stS (cs' := Cd.zero.cs none 0 0) cdT rfl rfl (by simp [Value.oneCell']) rfl (.tmp 4) (.tmp 36) rfl rfl rfl H4.out.1 ?_); intro wz hRz hFz))
    refine bodyPost_ret (res_ctt rfl rfl (hRz.load cdT rfl)) rfl ?_
    rw [HZ0.out HE.out]
    exact ⟨none, 0, 0, rfl, Rd.nil _ _, Nat.le_refl _, H4.out.2.2.1.trans (hFz.toBelow (fun y hy => by have : y = w.heap.size := hy; omega) H4.out.2.2.1.size), fun _ _ e => by cases e⟩
  · subst he
    rw [if_pos rfl]
    obtain ⟨hu, hu2⟩ := HS3.out rfl
    obtain ⟨q, hq⟩ : ∃ q, q = lf.length := ⟨_, rfl⟩
    rw [<- hq] at hu
    obtain ⟨Q, hQ⟩ : ∃ Q : Nat, Q = k + z := ⟨_, rfl⟩
    have e1 : IntKind.i64.wrap ((k : Int) + (z : Int)) = (Q : Int) := by rw [IntWalk.i64_in _ (by omega)]; omega
    have hqz : q <= z := HQL.out q hq
    have e2 : IntKind.i64.wrap ((Q : Int) - (q : Int)) = (k : Int) + (u : Int) := by rw [IntWalk.i64_in _ (by omega)]; omega
    have E1 := hi_ e1
    have E2 := hi_ e2
    have HQ := hi_ hq
    clear e1 e2 hQ hqz hu hu2 hq
    go_enter Tryz.func83, Tryz.ntmps83
    go_upto_region 8 with (first
      | (rw [<- hw1]; clear hw1)
      | (go_at_call 94; have _t := HZ; rw [<- HZ.out]; refine (RRead_any _ z _ ((l.drop k).take 92) w1 (HP.out _ (fun hp0 b o e => by first | (exfalso; omega) | (subst e; simp [Addr.add_lit]))) (by omega)).mono ?_; rintro e w2 ⟨p, rfl, hp, hr2, hb2⟩
         have CR := read_any (st := ((l.drop k).take 92, false)) hr2 (Nat.le_refl _)
         unfold ReadE at CR
         rw [<- HRD.out] at CR
         have CR2 := hi_ CR
         have H2 := hi_ (And.intro (R1.out.under hb2) (And.intro (B1.out.trans (hb2.mono B1.out.size)) (And.intro (show w.heap.size ≠ p by have := R1.out.lt; omega) hp)))
         clear hr2 hb2 hp CR)
      | (go_at_call 95; refine CR2.out.mono ?_; rintro e w3 ⟨y, A9, n9, c9, rfl, hy, hr3, hf3⟩
         have H3 := hi_ (And.intro (H2.out.1.fr hf3 H2.out.2.2.1) (And.intro (H2.out.2.1.trans (hf3.toBelow (fun v hv => by have : v = p := hv; have := H2.out.2.2.2; have := B1.out.size; omega) H2.out.2.1.size)) hr3))
         have HY := hi_ hy
         clear hr3 hf3 hy CR2)
      | ((with_reducible refine wpList_stS (cs' := y.cs A9 n9 c9) cdT rfl rfl (by simp [Value.oneCell']) rfl (.tmp 4) (.tmp 32) rfl rfl rfl H3.out.1 ?_); intro w4 hR4 hF4
         have H4 := hi_ (And.intro hR4 (And.intro hF4 (And.intro (H3.out.2.1.trans (hF4.toBelow (fun v hv => by have : v = w.heap.size := hv; omega) H3.out.2.1.size)) (H3.out.2.2.fr_cd H3.out.1 hF4 H2.out.2.2.1))))
         clear hR4 hF4))
    have D4 := hi_ (show Rec 61 w4.drew w.heap.size (y.cs A9 n9 c9) /\ RdrIs w2.heap.size w4.drew p (lf, ms) /\ Below w.heap.size w w4.drew from ⟨H4.out.1, H4.out.2.2.2.below (Below.refl _ _).drew, H4.out.2.2.1.drew⟩)
    have CL := Left_any D4.out.2.1
    simp only [<- HQ.out] at CL
    have CL2 := hi_ CL
    have e1 := E1.out
    have e2 := E2.out
    clear CL
    refine wp_region_noPanic ?_
    refine wp_region_held_drew (S := fun W => True) (by kernel_rfl) trivial (fun hHeld => ?_)
    refine tj_ 1 ⟨some 39, .move (.tmp 1), 3, "cmd.go:88", #[⟨8, .gcOnly .lateStores⟩], none⟩ hHeld (h := ?_)
    refine tj_ 2 ⟨some 40, .move (.tmp 7), 42, "cmd.go:88", #[], none⟩ hHeld (h := ?_)
    refine tj_ 3 ⟨some 41, .call { callee := .builtin .len, args := #[.tmp 40], argTypes := #[42] }, 3, "cmd.go:88", #[⟨2, .data⟩], none⟩ hHeld (h := ?_)
    refine tj_ 4 ⟨some 42, .binOp .add 3 (.tmp 39) (.tmp 41) 3, 3, "cmd.go:88", #[⟨1, .data⟩, ⟨3, .data⟩, ⟨8, .gcOnly .lateStores⟩], none⟩ hHeld (h := ?_)
    refine tj_ 5 ⟨some 43, .move (.tmp 8), 129, "cmd.go:88", #[], none⟩ hHeld (h := ?_)
    refine wpAnyH_ready (rs := [0, 6]) (by kernel_rfl) (by simp) ?_
    refine AllReadyH.cons (o := ⟨some 38, .load 61 (.tmp 4), 61, "cmd.go:88", #[], none⟩) rfl (fun K' hK => ?_) (AllReadyH.cons (o := ⟨some 44, .call { callee := .value (.func 96), args := #[.tmp 43], argTypes := #[129] }, 3, "cmd.go:88", #[⟨5, .data⟩], none⟩) rfl (fun K' hK => ?_) AllReadyH.nil)
    · refine step_ldS cdT rfl rfl (.tmp 4) rfl rfl D4.out.1 ?_
      refine hK.out _ _ trivial (fun hHeld => ?_)
      clear hK K'
      try simp only [Act.put, sA_, sB_, sC_]
      refine wpAnyH_ready (rs := [6]) (by kernel_rfl) (by simp) ?_
      refine AllReadyH.cons (o := ⟨some 44, .call { callee := .value (.func 96), args := #[.tmp 43], argTypes := #[129] }, 3, "cmd.go:88", #[⟨5, .data⟩], none⟩) rfl (fun K' hK => ?_) AllReadyH.nil
      go_simp
      go_at_call 96; refine CL2.out.mono ?_; rintro e w' ⟨rfl, hw'⟩; subst hw'
      refine hK.out _ _ trivial (fun hHeld => ?_)
      clear hK K'
      try simp only [Act.put, sA_, sB_, sC_]
      refine tj_ 7 ⟨some 45, .binOp .sub 3 (.tmp 42) (.tmp 44) 3, 3, "cmd.go:88", #[⟨4, .data⟩, ⟨6, .data⟩, ⟨8, .gcOnly .lateStores⟩], none⟩ hHeld (h := ?_)
      refine wpAnyH_ready (rs := [8]) (by kernel_rfl) (by simp) ?_
      refine AllReadyH.cons (o := ⟨none, .store 61 (.tmp 4) (.tmp 38), 0, "cmd.go:88", #[⟨0, .data⟩, ⟨6, .chain⟩, ⟨0, .phase⟩, ⟨1, .textOnly .lateStores⟩, ⟨2, .textOnly .lateStores⟩, ⟨3, .textOnly .lateStoresUnsure⟩, ⟨4, .textOnly .lateStores⟩, ⟨5, .textOnly .lateStores⟩, ⟨6, .textOnly .lateStoresUnsure⟩, ⟨7, .textOnly .lateStores⟩], none⟩) rfl (fun K' hK => ?_) AllReadyH.nil
      refine step_stS (cs' := y.cs A9 n9 c9) cdT rfl rfl (by simp [Value.oneCell']) rfl (.tmp 4) (.tmp 38) rfl rfl rfl D4.out.1 ?_
      intro wz hRz hFz
      refine hK.out _ _ trivial (fun hHeld => ?_)
      clear hK K'
      try simp only [Act.put]
      refine tj_ 9 ⟨some 5, .assign (.tmp 45), 3, "cmd.go:88", #[⟨7, .data⟩, ⟨8, .chain⟩, ⟨0, .phase⟩, ⟨1, .phase⟩, ⟨2, .phase⟩, ⟨3, .phase⟩, ⟨4, .phase⟩, ⟨5, .phase⟩, ⟨6, .phase⟩, ⟨7, .phase⟩, ⟨8, .phase⟩], none⟩ hHeld (h := ?_)
      refine tj_ 10 ⟨some 6, .assign (.const (.int .i64 0)), 99, "cmd.go:88", #[⟨9, .chain⟩, ⟨0, .phase⟩, ⟨1, .phase⟩, ⟨2, .phase⟩, ⟨3, .phase⟩, ⟨4, .phase⟩, ⟨5, .phase⟩, ⟨6, .phase⟩, ⟨7, .phase⟩, ⟨8, .phase⟩, ⟨9, .phase⟩], none⟩ hHeld (h := ?_)
      refine wpAnyH_done (by kernel_rfl) ?_ _
      refine NoPanic.normal ?_
      clear hHeld
      go_wp2
      refine bodyPost_ret (res_ctt rfl rfl (hRz.load cdT rfl)) rfl ?_
      obtain ⟨rfl, hr9, hc9, hlo9⟩ := (show y = x2 /\ Rd w3 A9 n9 y.dt /\ n9 <= c9 /\ ∀ b o, A9 = some ⟨b, o, none⟩ -> 0 < n9 -> w2.heap.size <= b by first | exact HY.out rfl | exact HY.out trivial)
      refine ⟨A9, n9, c9, ?_, ?_, hc9, D4.out.2.2.trans (hFz.toBelow (fun v hv => by have : v = w.heap.size := hv; omega) D4.out.2.2.size), fun b o e hp => by have := hlo9 b o e hp; have := H2.out.2.1.size; omega⟩
      · rfl
      · exact (hr9.fr H4.out.2.1 (fun b o e hp => hr9.ne_cd H3.out.1 b o e hp)).drew.fr hFz (fun b o e hp => (hr9.fr H4.out.2.1 (fun b o e hp => hr9.ne_cd H3.out.1 b o e hp)).drew.ne_cd D4.out.1 b o e hp)
    · go_simp
      go_at_call 96; refine CL2.out.mono ?_; rintro e w' ⟨rfl, hw'⟩; subst hw'
      refine hK.out _ _ trivial (fun hHeld => ?_)
      clear hK K'
      try simp only [Act.put, sA_, sB_, sC_]
      refine tj_ 7 ⟨some 45, .binOp .sub 3 (.tmp 42) (.tmp 44) 3, 3, "cmd.go:88", #[⟨4, .data⟩, ⟨6, .data⟩, ⟨8, .gcOnly .lateStores⟩], none⟩ hHeld (h := ?_)
      refine wpAnyH_ready (rs := [0]) (by kernel_rfl) (by simp) ?_
      refine AllReadyH.cons (o := ⟨some 38, .load 61 (.tmp 4), 61, "cmd.go:88", #[], none⟩) rfl (fun K' hK => ?_) AllReadyH.nil
      refine step_ldS cdT rfl rfl (.tmp 4) rfl rfl D4.out.1 ?_
      refine hK.out _ _ trivial (fun hHeld => ?_)
      clear hK K'
      try simp only [Act.put, sA_, sB_, sC_]
      refine wpAnyH_ready (rs := [8]) (by kernel_rfl) (by simp) ?_
      refine AllReadyH.cons (o := ⟨none, .store 61 (.tmp 4) (.tmp 38), 0, "cmd.go:88", #[⟨0, .data⟩, ⟨6, .chain⟩, ⟨0, .phase⟩, ⟨1, .textOnly .lateStores⟩, ⟨2, .textOnly .lateStores⟩, ⟨3, .textOnly .lateStoresUnsure⟩, ⟨4, .textOnly .lateStores⟩, ⟨5, .textOnly .lateStores⟩, ⟨6, .textOnly .lateStoresUnsure⟩, ⟨7, .textOnly .lateStores⟩], none⟩) rfl (fun K' hK => ?_) AllReadyH.nil
      refine step_stS (cs' := y.cs A9 n9 c9) cdT rfl rfl (by simp [Value.oneCell']) rfl (.tmp 4) (.tmp 38) rfl rfl rfl D4.out.1 ?_
      intro wz hRz hFz
      refine hK.out _ _ trivial (fun hHeld => ?_)
      clear hK K'
      try simp only [Act.put]
      refine tj_ 9 ⟨some 5, .assign (.tmp 45), 3, "cmd.go:88", #[⟨7, .data⟩, ⟨8, .chain⟩, ⟨0, .phase⟩, ⟨1, .phase⟩, ⟨2, .phase⟩, ⟨3, .phase⟩, ⟨4, .phase⟩, ⟨5, .phase⟩, ⟨6, .phase⟩, ⟨7, .phase⟩, ⟨8, .phase⟩], none⟩ hHeld (h := ?_)
      refine tj_ 10 ⟨some 6, .assign (.const (.int .i64 0)), 99, "cmd.go:88", #[⟨9, .chain⟩, ⟨0, .phase⟩, ⟨1, .phase⟩, ⟨2, .phase⟩, ⟨3, .phase⟩, ⟨4, .phase⟩, ⟨5, .phase⟩, ⟨6, .phase⟩, ⟨7, .phase⟩, ⟨8, .phase⟩, ⟨9, .phase⟩], none⟩ hHeld (h := ?_)
      refine wpAnyH_done (by kernel_rfl) ?_ _
      refine NoPanic.normal ?_
      clear hHeld
      go_wp2
      refine bodyPost_ret (res_ctt rfl rfl (hRz.load cdT rfl)) rfl ?_
      obtain ⟨rfl, hr9, hc9, hlo9⟩ := (show y = x2 /\ Rd w3 A9 n9 y.dt /\ n9 <= c9 /\ ∀ b o, A9 = some ⟨b, o, none⟩ -> 0 < n9 -> w2.heap.size <= b by first | exact HY.out rfl | exact HY.out trivial)
      refine ⟨A9, n9, c9, ?_, ?_, hc9, D4.out.2.2.trans (hFz.toBelow (fun v hv => by have : v = w.heap.size := hv; omega) D4.out.2.2.size), fun b o e hp => by have := hlo9 b o e hp; have := H2.out.2.1.size; omega⟩
      · rfl
      · exact (hr9.fr H4.out.2.1 (fun b o e hp => hr9.ne_cd H3.out.1 b o e hp)).drew.fr hFz (fun b o e hp => (hr9.fr H4.out.2.1 (fun b o e hp => hr9.ne_cd H3.out.1 b o e hp)).drew.ne_cd D4.out.1 b o e hp)
theorem CGetL_any (a : Int) (hr : Rd w A n l) (hn : n <= 1000000) (hc : n <= c) (hcm : c <= 9223372036854775807) : Calls Tryz.prog 83 #[.slice A n c, .int .i64 a] w (GetL (fun y => w.heap.size <= y) w (getAt l a)) := by
  by_cases ha : a < 0 \/ (n : Int) < a
  · exact CGet_bad A n c l w a (by omega) ha hr.1
  · obtain ⟨k, rfl⟩ : ∃ k : Nat, a = (k : Int) := ⟨a.toNat, by omega⟩
    by_cases hv : k = c
    · exact CGet_ina A n c l w k hr hn hc hcm (by omega) hv
    · by_cases h92 : (92 : Int) < (n : Int) - k
      · exact CGet_inb A n c l w k hr hn hc hcm (by omega) hv h92
      · exact CGet_inc A n c l w k hr hn hc hcm (by omega) hv h92
end
end Go.Proofs.YthabmlbmlncbmaaGreat
namespace Go.Proofs.YthabmlbmlncbmaaGreat
open Go.RowKit
set_option linter.unusedVariables false
set_option linter.unusedSimpArgs false
set_option maxRecDepth 20000
attribute [local go_sem] Oper.semAt_some
structure Gt where
  x : Cd
  A : Option Addr
  n : Nat
  c : Nat
  nx : Int
  e : Int
abbrev Gt.cs (p : Gt) : Array Value := #[.int .i64 p.x.d, .bool p.x.lc, .int .i64 p.x.ix, .int .i64 p.x.gn, .int .i64 p.x.cp, .slice p.A p.n p.c, .int .i64 p.nx, .int .i64 p.e]
abbrev Gt.enc (p : Gt) : Array Value := #[.agg p.cs]
def nxt (pre : List Gt) : Int := (pre.getLast?.map Gt.nx).getD 1
theorem nxt_snoc (pre : List Gt) (g : Gt) : nxt (pre ++ [g]) = g.nx := by simp [nxt]
structure GtPre (inp : List UInt8) (d : Nat) (pre : List Gt) (a : Nat) : Prop where
  ok : ∀ y ∈ pre, y.e = 0
  len : pre.length <= d
  le : a <= inp.length
  at_ : nxt pre = (a : Int)
  gets : getsL inp d 1 = (pre.map Gt.x ++ (getsL inp (d - pre.length) a).1, (getsL inp (d - pre.length) a).2.1, (getsL inp (d - pre.length) a).2.2)
def GtAt (inp : List UInt8) (d : Nat) (s : List Gt × Gt) (N : Nat) (W : World) : Prop :=
  ∃ a, GtPre inp d s.1 a /\ s.1.length < d /\ s.2.x = (getCd (inp.drop a)).1 /\ s.2.e = (getCd (inp.drop a)).2.2 /\ s.2.nx = (if s.2.e = 0 then (a : Int) + ((getCd (inp.drop a)).2.1 : Nat) else 0) /\ Rd W s.2.A s.2.n s.2.x.dt /\ s.2.n <= s.2.c /\ ∀ b o, s.2.A = some ⟨b, o, none⟩ -> 0 < s.2.n -> N <= b
theorem GtAt.own (inp : List UInt8) (d B N : Nat) : OwnFrom B (fun s => GtAt inp d s N) := fun s X Y row h hg hr => by
  obtain ⟨a, h1, h2, h3, h4, h5, h6, h7, h8⟩ := h
  exact ⟨a, h1, h2, h3, h4, h5, rd_kept h6 hg (fun r e => (hr r e).2), h7, h8⟩
theorem gets_step (inp : List UInt8) (d j a : Nat) (hj : j < d) : getsL inp (d - j) a = (if (getCd (inp.drop a)).2.2 ≠ 0 then ([], (getCd (inp.drop a)).2.2, a) else ((getCd (inp.drop a)).1 :: (getsL inp (d - (j + 1)) (a + (getCd (inp.drop a)).2.1)).1, (getsL inp (d - (j + 1)) (a + (getCd (inp.drop a)).2.1)).2.1, (getsL inp (d - (j + 1)) (a + (getCd (inp.drop a)).2.1)).2.2)) := by
  rw [show d - j = (d - (j + 1)) + 1 by omega]
  rfl
theorem GtPre.step {inp : List UInt8} {d : Nat} {pre : List Gt} {a : Nat} (h : GtPre inp d pre a) (hl : pre.length < d) (g : Gt) (hx : g.x = (getCd (inp.drop a)).1) (he : (getCd (inp.drop a)).2.2 = 0) (hge : g.e = 0) (hn : g.nx = (a : Int) + ((getCd (inp.drop a)).2.1 : Nat)) :
    GtPre inp d (pre ++ [g]) (a + (getCd (inp.drop a)).2.1) := by
  have hle := getCd_le (inp.drop a) he
  refine ⟨fun y hy => ?_, by simp; omega, by have := h.le; rw [List.length_drop] at hle; omega, by rw [nxt_snoc, hn]; omega, ?_⟩
  · rcases List.mem_append.1 hy with hy | hy
    · exact h.ok y hy
    · rw [List.mem_singleton.1 hy]; exact hge
  · rw [h.gets, gets_step inp d pre.length a hl, if_neg (fun e => e he), hx.symm]
    simp [List.append_assoc]
theorem GtPre.err {inp : List UInt8} {d : Nat} {pre : List Gt} {a : Nat} (h : GtPre inp d pre a) (hl : pre.length < d) (he : (getCd (inp.drop a)).2.2 ≠ 0) : (getsL inp d 1).2.1 = (getCd (inp.drop a)).2.2 := by
  rw [h.gets, gets_step inp d pre.length a hl, if_pos he]
theorem GtPre.done {inp : List UInt8} {d : Nat} {pre : List Gt} {a : Nat} (h : GtPre inp d pre a) (hl : pre.length = d) : getsL inp d 1 = (pre.map Gt.x, 0, a) := by
  rw [h.gets, hl, Nat.sub_self]
  simp [getsL]
theorem GtPre.start (inp : List UInt8) (d : Nat) (h : 1 <= inp.length) : GtPre inp d [] 1 := ⟨fun _ h => absurd h List.not_mem_nil, Nat.zero_le _, h, rfl, by simp⟩
def GtAll (inp : List UInt8) (d : Nat) (ys : List Gt) : Prop := (∃ a, GtPre inp d ys a /\ ys.length = d) \/ ∃ y ∈ ys, y.e ≠ 0
theorem commands_any (A : Option Addr) (n c : Nat) (d : Int) (w : World) : Calls Tryz.prog 68 #[.slice A n c, .int .i64 d] w fun e w' => e = .returned (.func (.func 82) #[] #[.pointer (some ⟨w.heap.size + 1, 0, none⟩), .pointer (some ⟨w.heap.size, 0, none⟩)]) /\ w' = (w.alloc (.cells #[.slice A n c] 42)).alloc (.cells #[.int .i64 d] 3) := by
  go_enter Tryz.func68, Tryz.ntmps68
  go_wp2
  go_ret
  exact ⟨rfl, rfl⟩
set_option maxHeartbeats 4000000 in
theorem commands_seq (U : Nat -> Prop) (bd bb : Nat) (A : Option Addr) (n c d : Nat) (inp : List UInt8) (W : World) (hU : ∀ k, U k -> k < W.heap.size) (hbd : W.cell? ⟨bd, 0, none⟩ = some (.int .i64 d)) (hbb : W.cell? ⟨bb, 0, none⟩ = some (.slice A n c)) (hUb : U bb)
    (hr : Rd W A n inp) (hUA : ∀ b o, A = some ⟨b, o, none⟩ -> U b) (h1 : 1 <= n) (hn : n <= 1000000) (hnc : n <= c) (hcm : c <= maxLen) (hd : d <= 255) :
    SeqMem Tryz.prog 82 #[.pointer (some ⟨bd, 0, none⟩), .pointer (some ⟨bb, 0, none⟩)] Gt.enc U (GtAt inp d) (GtAll inp d) (fun _ => True) W := by
  intro l J Jx gJ gX hY h0
  have HY := hi_ hY
  have GJ := hi_ gJ
  have HR := hi_ hr
  have HIL := hi_ hr.1
  have HUA := hi_ hUA
  have HBB := hi_ hbb
  have H0 := hi_ h0
  have HCM := hi_ (show c <= 9223372036854775807 from Nat.le_trans hcm (by decide))
  clear hY gJ gX hr hUA h0 hbb hcm
  refine callsIn_of_wp Tryz.func82 rfl trivial ?_ rfl
  simp only [Tryz.ntmps82, List.size_toArray, List.length_cons, List.length_nil, Nat.reduceAdd, Nat.reduceSub, Array.replicate_succ, Array.replicate_zero, List.push_toArray, List.append_toArray, List.nil_append, List.cons_append]
  gi_wp2
  gi_loopw [4, 9] (fun av iv wr => ∃ (j a : Nat) (pre : List Gt), j <= d /\ iv = .int .i64 j /\ av = .int .i64 a /\ Hid (pre.length = j) /\ Hid (GtPre inp d pre a) /\ Hid (J pre wr) /\ Hid (WStays U W wr)) (fun _ iv _ => d - (intOf iv).toNat)
  case atStart => exact ⟨0, 1, [], Nat.zero_le _, rfl, rfl, hi_ rfl, hi_ (GtPre.start inp d (by rw [HIL.out]; exact h1)), H0, hi_ ⟨Nat.le_refl _, fun _ _ => rfl⟩⟩
  case round =>
    obtain ⟨j, a, pre, hj, rfl, rfl, hpl, hpx, hJ, HB⟩ := hrel
    by_cases hjd : j < d
    · have hcb : wr.cell? ⟨bb, 0, none⟩ = some (.slice A n c) := (World.cell?_of_block (w := W) (a := ⟨bb, 0, none⟩) (HB.out.2 bb hUb)).trans HBB.out
      have CG := CGetL_any A n c inp wr (a : Int) (HR.out.block HB.out.1 (fun b o e => HB.out.2 b (HUA.out b o e))) hn hnc HCM.out
      have hal := hpx.out.le
      have ea : getAt inp (a : Int) = ((getCd (inp.drop a)).1, if (getCd (inp.drop a)).2.2 = 0 then (a : Int) + (getCd (inp.drop a)).2.1 else 0, (getCd (inp.drop a)).2.2) := by unfold getAt; rw [if_neg (by omega), Int.toNat_natCast]
      obtain ⟨⟨x, u, er⟩, hx⟩ : ∃ g, g = getCd (inp.drop a) := ⟨_, rfl⟩
      rw [ea, <- hx] at CG
      simp only at CG
      have HX := hi_ hx
      unfold GetL at CG
      obtain ⟨nx, hnx⟩ : ∃ q, q = (if er = 0 then (a : Int) + (u : Int) else 0) := ⟨_, rfl⟩
      have HNX := hi_ hnx
      rw [<- hnx] at CG
      have CG2 := hi_ CG
      have HAL := hi_ hal
      clear ea hx hnx CG hal
      by_cases he : er = 0
      · subst he
        have hnx2 : nx = (((a + u : Nat) : Nat) : Int) := by rw [HNX.out, if_pos rfl]; omega
        have HN2 := hi_ hnx2
        clear hnx2
        gi_wp2_with (first
          | (refine ⟨trivial, rfl, ?_⟩; gi_at_call 83; refine (callsIn_wide.2 CG2.out).mono ?_; rintro e w5 ⟨A1, n1, c1, rfl, hr1, hc1, hb5, hlo1⟩
             obtain ⟨w6, hw6⟩ : ∃ w6, w6 = w5.alloc (.cells (x.cs A1 n1 c1) 61) := ⟨_, rfl⟩
             have L6 := hi_ (show CdL w6 w5.heap.size 0 x A1 n1 c1 by rw [hw6]; exact CdL.new w5 x A1 n1 c1)
             have hb6 : Below w5.heap.size w5 w6 := by rw [hw6]; exact (Below.refl _ _).alloc (Nat.le_refl _) _
             have HB6 := hi_ (hb5.trans (hb6.mono hb5.size))
             have PX := hi_ (show GtAt inp d (pre, ⟨x, A1, n1, c1, nx, 0⟩) wr.heap.size w6 from ⟨a, hpx.out, by rw [hpl.out]; exact hjd, by rw [<- HX.out], by rw [<- HX.out], by rw [<- HX.out]; exact HNX.out, hr1.below (Nat.le_refl _) hb6, hc1, hlo1⟩)
             obtain ⟨fn, tmps, assign, body, hy, hR⟩ := HY.out pre ⟨x, A1, n1, c1, nx, 0⟩ wr w6 hJ.out HB6.out PX.out
             dsimp only [Gt.enc, Gt.cs] at hy hR
             clear hr1 hc1 hb5 hlo1 hb6)
          | (rw [<- hw6]; clear hw6)
          | ((with_reducible refine wpListIn_ldCd (b := w5.heap.size) (off := 0) rfl (.tmp 5) rfl rfl L6.out ?_)))
        refine ⟨rfl, hR.mono ?_⟩
        rintro e w7 (⟨rfl, hJ7, hb7⟩ | ⟨rfl, hX7⟩)
        · have HJ7 := hi_ hJ7
          have HB7 := hi_ (show WStays U W w7 from ⟨Nat.le_trans HB.out.1 (Nat.le_trans HB6.out.size hb7.1), fun k hk => (hb7.2 k hk).trans ((HB6.out.block k (Nat.lt_of_lt_of_le (hU k hk) HB.out.1)).trans (HB.out.2 k hk))⟩)
          clear hJ7 hb7 hy hR hcb
          gi_wp2
          go_roundw
          case rel =>
            refine ⟨j + 1, a + u, pre ++ [⟨x, A1, n1, c1, nx, 0⟩], hjd, by go_num, by rw [HN2.out], hi_ (by simp [hpl.out]), hi_ ?_, HJ7, HB7⟩
            have h := hpx.out.step (by rw [hpl.out]; exact hjd) ⟨x, A1, n1, c1, nx, 0⟩ (by rw [<- HX.out]) (by rw [<- HX.out]) rfl (by rw [<- HX.out]; simp only; rw [HN2.out]; omega)
            rw [<- HX.out] at h
            exact h
          case measure => simp [intOf]; omega
        · have HX7 := hi_ hX7
          clear hX7 hy hR hcb
          gi_wp2
          refine bodyPost_ret (results_none rfl _ _ _) rfl ?_
          exact ⟨⟨_, rfl⟩, .inr ⟨_, trivial, HX7.out⟩⟩
      · have hne : (er != 0) = true := bne_iff_ne.2 he
        have HE := hi_ he
        clear he
        gi_wp2_with (first
          | (refine ⟨trivial, rfl, ?_⟩; gi_at_call 83; refine (callsIn_wide.2 CG2.out).mono ?_; rintro e w5 ⟨A1, n1, c1, rfl, hr1, hc1, hb5, hlo1⟩
             obtain ⟨w6, hw6⟩ : ∃ w6, w6 = w5.alloc (.cells (x.cs A1 n1 c1) 61) := ⟨_, rfl⟩
             have L6 := hi_ (show CdL w6 w5.heap.size 0 x A1 n1 c1 by rw [hw6]; exact CdL.new w5 x A1 n1 c1)
             have hb6 : Below w5.heap.size w5 w6 := by rw [hw6]; exact (Below.refl _ _).alloc (Nat.le_refl _) _
             have HB6 := hi_ (hb5.trans (hb6.mono hb5.size))
             have PX := hi_ (show GtAt inp d (pre, ⟨x, A1, n1, c1, nx, er⟩) wr.heap.size w6 from ⟨a, hpx.out, by rw [hpl.out]; exact hjd, by rw [<- HX.out], by rw [<- HX.out], by rw [<- HX.out]; exact HNX.out, hr1.below (Nat.le_refl _) hb6, hc1, hlo1⟩)
             obtain ⟨fn, tmps, assign, body, hy, hR⟩ := HY.out pre ⟨x, A1, n1, c1, nx, er⟩ wr w6 hJ.out HB6.out PX.out
             dsimp only [Gt.enc, Gt.cs] at hy hR
             clear hr1 hc1 hb5 hlo1 hb6)
          | (rw [<- hw6]; clear hw6)
          | ((with_reducible refine wpListIn_ldCd (b := w5.heap.size) (off := 0) rfl (.tmp 5) rfl rfl L6.out ?_)))
        refine ⟨rfl, hR.mono ?_⟩
        rintro e w7 (⟨rfl, hJ7, hb7⟩ | ⟨rfl, hX7⟩)
        · have HJ7 := hi_ hJ7
          clear hJ7 hb7 hy hR hcb
          gi_wp2
          refine bodyPost_ret (results_none rfl _ _ _) rfl ?_
          exact ⟨⟨_, rfl⟩, .inl ⟨_, .inr ⟨⟨x, A1, n1, c1, nx, er⟩, by simp, HE.out⟩, HJ7.out⟩⟩
        · have HX7 := hi_ hX7
          clear hX7 hy hR hcb
          gi_wp2
          refine bodyPost_ret (results_none rfl _ _ _) rfl ?_
          exact ⟨⟨_, rfl⟩, .inr ⟨_, trivial, HX7.out⟩⟩
    · have hjn' : j = d := by omega
      have HJN := hi_ hjn'
      clear hjn'
      gi_wp2
      go_end0
      exact ⟨⟨_, rfl⟩, .inl ⟨pre, .inl ⟨a, hpx.out, by rw [hpl.out]; exact HJN.out⟩, hJ.out⟩⟩
end Go.Proofs.YthabmlbmlncbmaaGreat
namespace Go.Proofs.YthabmlbmlncbmaaGreat
open Go.RowKit
set_option linter.unusedVariables false
set_option linter.unusedSimpArgs false
set_option maxRecDepth 20000
attribute [local go_sem] Oper.semAt_some
theorem FGotP.fault {w w' : World} (er : Int) (hb : Below w.heap.size w w') : FGotP ([], er) w (.returned (.tuple #[.slice none 0 0, .int .i64 er])) w' := ⟨none, 0, 0, rfl, CdsV.nil _ _ _, Nat.le_refl _, hb⟩
structure Res2 (w W : World) (u : Value) (e : Int) : Prop where
  b2 : Boxed W w.heap.size 40 u
  b3 : Boxed W (w.heap.size + 1) 99 (.int .i64 e)
  bl : Below w.heap.size w W
theorem Res2.start (w : World) : Res2 w ((w.alloc (.cells #[.slice none 0 0] 40)).alloc (.cells #[.int .i64 0] 99)) (.slice none 0 0) 0 where
  b2 := (Boxed.new w _ _).alloc _
  b3 := by
    have h := Boxed.new (w.alloc (.cells #[.slice none 0 0] 40)) 99 (.int .i64 0)
    rw [World.size_alloc] at h
    exact h
  bl := ((Below.refl _ _).alloc (Nat.le_refl _) _).alloc (by simp) _
theorem Res2.next {w W W' : World} {u : Value} {e : Int} (h : Res2 w W u e) (hb : Below W.heap.size W W') : Res2 w W' u e := ⟨h.b2.kept (below_row hb) (by simp), h.b3.kept (below_row hb) (by simp), h.bl.trans (hb.mono h.bl.size)⟩
theorem Res2.set {w W : World} {u : Value} {e : Int} (h : Res2 w W u e) (u' : Value) (e' : Int) : Res2 w ((W.setCell ⟨w.heap.size, 0, none⟩ u').setCell ⟨w.heap.size + 1, 0, none⟩ (.int .i64 e')) u' e' :=
  ⟨(h.b2.set u').other (by omega) _, (h.b3.other (by omega) u').set _, (h.bl.setCell (p := ⟨w.heap.size, 0, none⟩) (Nat.le_refl _) _).setCell (p := ⟨w.heap.size + 1, 0, none⟩) (by simp) _⟩
theorem Res2.ret {w W : World} {u : Value} {e : Int} (h : Res2 w W u e) (tmps : Array Value) (h2 : tmps.getD 2 undef = .pointer (some ⟨w.heap.size, 0, none⟩)) (h3 : tmps.getD 3 undef = .pointer (some ⟨w.heap.size + 1, 0, none⟩)) :
    (results Tryz.f57 tmps).run Tryz.prog W = .ok (.tuple #[u, .int .i64 e]) W := by
  have c2 := h.b2.cell
  have c3 := h.b3.cell
  rw [Array.getD_eq_getD_getElem?] at h2 h3
  simp [results, Tryz.results57, Sem.run_bind, Result.andThen, h2, h3, asAddr, loadVar, go_sem, c2, c3]
section
variable (A : Option Addr) (n c : Nat) (l : List UInt8) (w : World)
set_option maxHeartbeats 1000000 in
theorem GGet_short (hl : l.length = n) (hn : n < 5) : Calls Tryz.prog 57 #[.slice A n c] w (FGotP (frGet l) w) := by
  have e : frGet l = ([], 12) := by unfold frGet; rw [if_pos (by omega)]
  rw [e]
  obtain ⟨w1, hw1⟩ : ∃ w1, w1 = (w.alloc (.cells #[.slice none 0 0] 40)).alloc (.cells #[.int .i64 0] 99) := ⟨_, rfl⟩
  have R1 := hi_ (show Res2 w w1 (.slice none 0 0) 0 by rw [hw1]; exact Res2.start w)
  clear hl e
  go_enter Tryz.func57, Tryz.ntmps57
  go_wp2_with (rw [<- hw1]; clear hw1; have c2 := R1.out.b2.cell; have f2 := R1.out.b2.frozen; have c3 := R1.out.b3.cell; have f3 := R1.out.b3.frozen)
  exact bodyPost_ret ((R1.out.set (.slice none 0 0) 12).ret _ rfl rfl) rfl (FGotP.fault 12 (R1.out.set (.slice none 0 0) 12).bl)
-- LEAVES (written by gen_frj.py)
set_option maxHeartbeats 4000000 in
theorem GGet_sum (b o q : Nat) (hr : Rd w (some ⟨b, o, none⟩) (q + 4) l) (hlt : b < w.heap.size) (hq : 1 <= q) (hq2 : q <= 100000) (hc : q + 4 <= c) (hcm : c <= maxLen) (hs : numB 4 ((sumL (l.take q) : Nat) : Int) ≠ l.drop q) :
    Calls Tryz.prog 57 #[.slice (some ⟨b, o, none⟩) (q + 4) c] w (FGotP (frGet l) w) := by
  have hl := hr.1
  obtain ⟨inp, hinp⟩ : ∃ i, i = l.take q := ⟨_, rfl⟩
  have hil : inp.length = q := by rw [hinp]; simp; omega
  have hcq : ¬ c = q := by omega
  have hri : Rd w (some ⟨b, o, none⟩) q inp := by
    have h := hr.part (lo := 0) (m := q) (by omega) (some ⟨b, o, none⟩) (fun _ b' o' e => by injection e with e; injection e with e1 e2; rw [e1, e2]; rfl)
    rw [List.drop_zero, <- hinp] at h
    exact h
  have hrt : Rd w (some ⟨b, o + q, none⟩) 4 (l.drop q) := by
    have h := hr.part (lo := q) (m := 4) (by omega) (some ⟨b, o + q, none⟩) (fun _ b' o' e => by injection e with e; injection e with e1 e2; rw [e1, e2])
    rw [List.take_of_length_le (by simp; omega)] at h
    exact h
  obtain ⟨w1, hw1⟩ : ∃ w1, w1 = (w.alloc (.cells #[.slice none 0 0] 40)).alloc (.cells #[.int .i64 0] 99) := ⟨_, rfl⟩
  have R1 := hi_ (show Res2 w w1 (.slice none 0 0) 0 by rw [hw1]; exact Res2.start w)
  have CS := hi_ (fsum_any (some ⟨b, o, none⟩) q c inp w1.drew ((hri.below (Nat.le_refl _) R1.out.bl).drew) (by omega))
  have hsum := sumL_lt inp
  obtain ⟨sm, hsm⟩ : ∃ s, s = sumL inp := ⟨_, rfl⟩
  rw [<- hsm] at CS hsum
  have F : frGet l = if numB 4 (sm : Int) ≠ l.drop q then ([], 11) else if 64 < (l.getD 0 0).toNat then ([], 13) else if (getsL inp (l.getD 0 0).toNat 1).2.1 ≠ 0 then ([], (getsL inp (l.getD 0 0).toNat 1).2.1) else if (getsL inp (l.getD 0 0).toNat 1).2.2 < q then ([], 11) else ((getsL inp (l.getD 0 0).toNat 1).1, 0) := by
    have e : l.length - 4 = q := by omega
    unfold frGet
    rw [e, <- hinp, <- hsm, if_neg (by omega)]
  have HRT := hi_ hrt
  have HRI := hi_ hri
  have HIL := hi_ hil
  have hwq : IntKind.i64.wrap (q : Int) = (q : Int) := IntWalk.i64_in _ (by omega)
  have hqn : (q : Int) <= (q : Int) + 4 := by omega
  have hqc : q <= c := by omega
  rw [<- hinp, <- hsm] at hs
  have HS := hi_ hs
  rw [F, if_pos hs]
  clear hr hl hinp hil hri hrt F hs hsm
  go_enter Tryz.func57, Tryz.ntmps57
  go_upto_region 3 with (rw [<- hw1]; clear hw1)
  refine wp_region_noPanic ?_
  refine wp_region_held_drew (S := fun W => True) (by kernel_rfl) trivial (fun hHeld => ?_)
  refine tj_ 0 ⟨some 13, .move (.tmp 0), 42, "frame.go:58", #[], none⟩ hHeld (h := ?_)
  refine tj_ 1 ⟨some 14, .move (.tmp 0), 42, "frame.go:58", #[], none⟩ hHeld (h := ?_)
  refine tj_ 2 ⟨some 15, .call { callee := .builtin .len, args := #[.tmp 14], argTypes := #[42] }, 3, "frame.go:58", #[⟨1, .data⟩], none⟩ hHeld (h := ?_)
  refine tj_ 3 ⟨some 16, .binOp .sub 3 (.tmp 15) (.const (.int .i64 4)) 3, 3, "frame.go:58", #[⟨2, .data⟩], none⟩ hHeld (h := ?_)
  refine tj_ 4 ⟨some 17, .slice 42 (.tmp 13) none (some (.tmp 16)) none, 42, "frame.go:58", #[⟨0, .data⟩, ⟨3, .data⟩], none⟩ hHeld (h := ?_)
  refine tj_ 5 ⟨some 18, .move (.tmp 0), 42, "frame.go:58", #[], none⟩ hHeld (h := ?_)
  refine tj_ 6 ⟨some 19, .move (.tmp 0), 42, "frame.go:58", #[], none⟩ hHeld (h := ?_)
  refine tj_ 7 ⟨some 20, .call { callee := .builtin .len, args := #[.tmp 19], argTypes := #[42] }, 3, "frame.go:58", #[⟨6, .data⟩], none⟩ hHeld (h := ?_)
  refine tj_ 8 ⟨some 21, .binOp .sub 3 (.tmp 20) (.const (.int .i64 4)) 3, 3, "frame.go:58", #[⟨7, .data⟩], none⟩ hHeld (h := ?_)
  refine tj_ 9 ⟨some 22, .slice 42 (.tmp 18) (some (.tmp 21)) none none, 42, "frame.go:58", #[⟨5, .data⟩, ⟨8, .data⟩], none⟩ hHeld (h := ?_)
  refine tj_ 10 ⟨some 4, .assign (.tmp 17), 42, "frame.go:58", #[⟨4, .data⟩, ⟨0, .phase⟩, ⟨1, .phase⟩, ⟨2, .phase⟩, ⟨3, .phase⟩, ⟨4, .phase⟩, ⟨5, .textOnly .lateStores⟩, ⟨6, .textOnly .lateStores⟩, ⟨7, .textOnly .lateStoresUnsure⟩, ⟨8, .textOnly .lateStores⟩, ⟨9, .textOnly .lateStoresUnsure⟩], none⟩ hHeld (h := ?_)
  refine tj_ 11 ⟨some 5, .assign (.tmp 22), 42, "frame.go:58", #[⟨9, .data⟩, ⟨10, .chain⟩, ⟨0, .phase⟩, ⟨1, .phase⟩, ⟨2, .phase⟩, ⟨3, .phase⟩, ⟨4, .phase⟩, ⟨5, .phase⟩, ⟨6, .phase⟩, ⟨7, .phase⟩, ⟨8, .phase⟩, ⟨9, .phase⟩, ⟨10, .phase⟩], none⟩ hHeld (h := ?_)
  refine wpAnyH_done (by kernel_rfl) ?_ _
  refine NoPanic.normal ?_
  go_wp2_with (first
    | (go_at_call 67; refine CS.out.mono ?_; rintro e w2 ⟨v2, rfl, ho2, hb2⟩; obtain ⟨A2, c2', rfl, _, _, hr2⟩ := Rd.of_own ho2 rfl; have R2 := hi_ (R1.out.next (show Below w1.heap.size w1 w2 from ((Below.refl _ _).drew).trans hb2)); have CE := Equal_any (some ⟨b, o + q, none⟩) A2 4 (c - q) 4 c2' (l.drop q) (numB 4 (sm : Int)) w2 (HRT.out.below (Nat.le_refl _) R2.out.bl) hr2; rw [decide_eq_false (fun e => HS.out e.symm)] at CE; have CE2 := hi_ CE; clear ho2 hb2 hr2 CE)
    | (go_at_call 66; refine CE2.out.mono ?_; rintro e w' ⟨rfl, hw'⟩; subst hw'; have c2 := R2.out.b2.cell; have f2 := R2.out.b2.frozen; have c3 := R2.out.b3.cell; have f3 := R2.out.b3.frozen))
  exact bodyPost_ret ((R2.out.set (.slice none 0 0) 11).ret _ rfl rfl) rfl (FGotP.fault 11 (R2.out.set (.slice none 0 0) 11).bl)
set_option maxHeartbeats 4000000 in
theorem GGet_many (b o q : Nat) (hr : Rd w (some ⟨b, o, none⟩) (q + 4) l) (hlt : b < w.heap.size) (hq : 1 <= q) (hq2 : q <= 100000) (hc : q + 4 <= c) (hcm : c <= maxLen) (hs : numB 4 ((sumL (l.take q) : Nat) : Int) = l.drop q) (d : Nat) (hd : (l.getD 0 0).toNat = d) (h0 : w.cell? ⟨b, o, none⟩ = some (.int .u8 (d : Int))) (h64 : 64 < d) :
    Calls Tryz.prog 57 #[.slice (some ⟨b, o, none⟩) (q + 4) c] w (FGotP (frGet l) w) := by
  have hl := hr.1
  obtain ⟨inp, hinp⟩ : ∃ i, i = l.take q := ⟨_, rfl⟩
  have hil : inp.length = q := by rw [hinp]; simp; omega
  have hcq : ¬ c = q := by omega
  have hri : Rd w (some ⟨b, o, none⟩) q inp := by
    have h := hr.part (lo := 0) (m := q) (by omega) (some ⟨b, o, none⟩) (fun _ b' o' e => by injection e with e; injection e with e1 e2; rw [e1, e2]; rfl)
    rw [List.drop_zero, <- hinp] at h
    exact h
  have hrt : Rd w (some ⟨b, o + q, none⟩) 4 (l.drop q) := by
    have h := hr.part (lo := q) (m := 4) (by omega) (some ⟨b, o + q, none⟩) (fun _ b' o' e => by injection e with e; injection e with e1 e2; rw [e1, e2])
    rw [List.take_of_length_le (by simp; omega)] at h
    exact h
  obtain ⟨w1, hw1⟩ : ∃ w1, w1 = (w.alloc (.cells #[.slice none 0 0] 40)).alloc (.cells #[.int .i64 0] 99) := ⟨_, rfl⟩
  have R1 := hi_ (show Res2 w w1 (.slice none 0 0) 0 by rw [hw1]; exact Res2.start w)
  have CS := hi_ (fsum_any (some ⟨b, o, none⟩) q c inp w1.drew ((hri.below (Nat.le_refl _) R1.out.bl).drew) (by omega))
  have hsum := sumL_lt inp
  obtain ⟨sm, hsm⟩ : ∃ s, s = sumL inp := ⟨_, rfl⟩
  rw [<- hsm] at CS hsum
  have F : frGet l = if numB 4 (sm : Int) ≠ l.drop q then ([], 11) else if 64 < (l.getD 0 0).toNat then ([], 13) else if (getsL inp (l.getD 0 0).toNat 1).2.1 ≠ 0 then ([], (getsL inp (l.getD 0 0).toNat 1).2.1) else if (getsL inp (l.getD 0 0).toNat 1).2.2 < q then ([], 11) else ((getsL inp (l.getD 0 0).toNat 1).1, 0) := by
    have e : l.length - 4 = q := by omega
    unfold frGet
    rw [e, <- hinp, <- hsm, if_neg (by omega)]
  have HRT := hi_ hrt
  have HRI := hi_ hri
  have HIL := hi_ hil
  have hwq : IntKind.i64.wrap (q : Int) = (q : Int) := IntWalk.i64_in _ (by omega)
  have hqn : (q : Int) <= (q : Int) + 4 := by omega
  have hqc : q <= c := by omega
  rw [<- hinp, <- hsm] at hs
  have HS := hi_ hs
  rw [F, if_neg (fun h => h hs), hd, if_pos h64]
  have hd2 : d < 256 := by rw [<- hd]; exact UInt8.toNat_lt _
  have H0 := hi_ h0
  clear hr hl hinp hil hri hrt F hs hsm hd h0
  go_enter Tryz.func57, Tryz.ntmps57
  go_upto_region 3 with (rw [<- hw1]; clear hw1)
  refine wp_region_noPanic ?_
  refine wp_region_held_drew (S := fun W => True) (by kernel_rfl) trivial (fun hHeld => ?_)
  refine tj_ 0 ⟨some 13, .move (.tmp 0), 42, "frame.go:58", #[], none⟩ hHeld (h := ?_)
  refine tj_ 1 ⟨some 14, .move (.tmp 0), 42, "frame.go:58", #[], none⟩ hHeld (h := ?_)
  refine tj_ 2 ⟨some 15, .call { callee := .builtin .len, args := #[.tmp 14], argTypes := #[42] }, 3, "frame.go:58", #[⟨1, .data⟩], none⟩ hHeld (h := ?_)
  refine tj_ 3 ⟨some 16, .binOp .sub 3 (.tmp 15) (.const (.int .i64 4)) 3, 3, "frame.go:58", #[⟨2, .data⟩], none⟩ hHeld (h := ?_)
  refine tj_ 4 ⟨some 17, .slice 42 (.tmp 13) none (some (.tmp 16)) none, 42, "frame.go:58", #[⟨0, .data⟩, ⟨3, .data⟩], none⟩ hHeld (h := ?_)
  refine tj_ 5 ⟨some 18, .move (.tmp 0), 42, "frame.go:58", #[], none⟩ hHeld (h := ?_)
  refine tj_ 6 ⟨some 19, .move (.tmp 0), 42, "frame.go:58", #[], none⟩ hHeld (h := ?_)
  refine tj_ 7 ⟨some 20, .call { callee := .builtin .len, args := #[.tmp 19], argTypes := #[42] }, 3, "frame.go:58", #[⟨6, .data⟩], none⟩ hHeld (h := ?_)
  refine tj_ 8 ⟨some 21, .binOp .sub 3 (.tmp 20) (.const (.int .i64 4)) 3, 3, "frame.go:58", #[⟨7, .data⟩], none⟩ hHeld (h := ?_)
  refine tj_ 9 ⟨some 22, .slice 42 (.tmp 18) (some (.tmp 21)) none none, 42, "frame.go:58", #[⟨5, .data⟩, ⟨8, .data⟩], none⟩ hHeld (h := ?_)
  refine tj_ 10 ⟨some 4, .assign (.tmp 17), 42, "frame.go:58", #[⟨4, .data⟩, ⟨0, .phase⟩, ⟨1, .phase⟩, ⟨2, .phase⟩, ⟨3, .phase⟩, ⟨4, .phase⟩, ⟨5, .textOnly .lateStores⟩, ⟨6, .textOnly .lateStores⟩, ⟨7, .textOnly .lateStoresUnsure⟩, ⟨8, .textOnly .lateStores⟩, ⟨9, .textOnly .lateStoresUnsure⟩], none⟩ hHeld (h := ?_)
  refine tj_ 11 ⟨some 5, .assign (.tmp 22), 42, "frame.go:58", #[⟨9, .data⟩, ⟨10, .chain⟩, ⟨0, .phase⟩, ⟨1, .phase⟩, ⟨2, .phase⟩, ⟨3, .phase⟩, ⟨4, .phase⟩, ⟨5, .phase⟩, ⟨6, .phase⟩, ⟨7, .phase⟩, ⟨8, .phase⟩, ⟨9, .phase⟩, ⟨10, .phase⟩], none⟩ hHeld (h := ?_)
  refine wpAnyH_done (by kernel_rfl) ?_ _
  refine NoPanic.normal ?_
  go_wp2_with (first
    | (go_at_call 67; refine CS.out.mono ?_; rintro e w2 ⟨v2, rfl, ho2, hb2⟩; obtain ⟨A2, c2', rfl, _, _, hr2⟩ := Rd.of_own ho2 rfl; have R2 := hi_ (R1.out.next (show Below w1.heap.size w1 w2 from ((Below.refl _ _).drew).trans hb2)); have CE := Equal_any (some ⟨b, o + q, none⟩) A2 4 (c - q) 4 c2' (l.drop q) (numB 4 (sm : Int)) w2 (HRT.out.below (Nat.le_refl _) R2.out.bl) hr2; rw [decide_eq_true HS.out.symm] at CE; have CE2 := hi_ CE; clear ho2 hb2 hr2 CE)
    | (go_at_call 66; refine CE2.out.mono ?_; rintro e w' ⟨rfl, hw'⟩; subst hw'; have c2 := R2.out.b2.cell; have f2 := R2.out.b2.frozen; have c3 := R2.out.b3.cell; have f3 := R2.out.b3.frozen; have q0 : w2.cell? ⟨b, o, none⟩ = some (.int .u8 (d : Int)) := (R2.out.bl.cell (p := ⟨b, o, none⟩) hlt).trans H0.out))
  exact bodyPost_ret ((R2.out.set (.slice none 0 0) 13).ret _ rfl rfl) rfl (FGotP.fault 13 (R2.out.set (.slice none 0 0) 13).bl)
end
end Go.Proofs.YthabmlbmlncbmaaGreat
namespace Go.Proofs.YthabmlbmlncbmaaGreat
open Go.RowKit
set_option linter.unusedVariables false
set_option maxRecDepth 20000
def NoCells (W : World) (row : Option Nat) : Prop := ∀ r, row = some r -> ∃ o : Obj, W.heap[r]? = some o /\ o.isCells = false
section
variable {W W' : World} {row : Option Nat}
theorem boxed_kept {B : Nat} {t : TypeId} {v : Value} (h : Boxed W B t v) (hg : W.grownBy W' row) (hr : NoCells W row) : Boxed W' B t v :=
  h.kept hg (fun e => by obtain ⟨o, ho, hc⟩ := hr B e.symm; rw [show W.heap[B]? = _ from h] at ho; cases ho; cases hc)
theorem block_kept {B : Nat} {cs : Array Value} {t : TypeId} {fr : Nat × Nat} (h : W.heap[B]? = some (.cells cs t fr)) (hg : W.grownBy W' row) (hr : NoCells W row) : W'.heap[B]? = some (.cells cs t fr) :=
  (hg.block B (Array.getElem?_eq_some_iff.1 h).1 (fun e => by obtain ⟨o, ho, hc⟩ := hr B e.symm; rw [h] at ho; cases ho; cases hc)).trans h
theorem own_kept {B : Nat} {e : TypeId} {size n : Nat} {v : Value} {xs : List Value} (h : W.ownsRow B e size v n xs) (hg : W.grownBy W' row) (hr : NoCells W row) : W'.ownsRow B e size v n xs := by
  refine h.kept hg ?_
  rcases h.2 with ⟨rfl, _⟩ | ⟨g, cap, cur, rfl, _, hgb, _⟩
  · exact .inl rfl
  · refine .inr fun e' => ?_
    obtain ⟨o, ho, hc⟩ := hr g e'.symm
    rw [hgb] at ho; cases ho; cases hc
theorem vb_kept {K : Nat -> Prop} {u : Value} {l : List UInt8} (h : VB K W u l) (hg : W.grownBy W' row) (hr : NoCells W row) : VB K W' u l := by
  obtain ⟨A, m, c, rfl, h1, h2⟩ := h
  exact ⟨A, m, c, rfl, rd_kept h1 hg hr, fun b o e h0 => ⟨(h2 b o e h0).1, Nat.lt_of_lt_of_le (h2 b o e h0).2 hg.size⟩⟩
theorem gr_kept {B : Nat} {v : Value} {vs : List Value} {D : Nat -> Prop} {xs : List Cd} (h : Gr ECd 61 6 W B v vs D xs) (hg : W.grownBy W' row) (hr : NoCells W row) : Gr ECd 61 6 W' B v vs D xs :=
  ⟨Nat.le_trans h.Bw hg.size, own_kept h.ow hg hr, h.hd.imp (fun _ _ ⟨A, n, c, e, hu, hc⟩ => ⟨A, n, c, e, vb_kept hu hg hr, hc⟩), fun x hx => ⟨Nat.lt_of_lt_of_le (h.dx x hx).1 hg.size, (h.dx x hx).2⟩⟩
end
def GetI (w : World) (gl bb : Nat) (sv : Value) (pre : List Gt) (W : World) : Prop :=
  (∃ v vs D, Boxed W gl 40 v /\ Gr ECd 61 6 W w.heap.size v vs D (pre.map Gt.x)) /\ Boxed W (gl + 1) 3 (.int .i64 (nxt pre)) /\ Boxed W bb 42 sv /\ Res2 w W (.slice none 0 0) 0 /\ ∀ y ∈ pre, y.e = 0
theorem res2_kept {w W W' : World} {u : Value} {e : Int} {row : Option Nat} (h : Res2 w W u e) (hg : W.grownBy W' row) (hr : NoCells W row) (hB : ∀ r, row = some r -> w.heap.size <= r) : Res2 w W' u e :=
  ⟨boxed_kept h.b2 hg hr, boxed_kept h.b3 hg hr, h.bl.grown hg h.bl.size hB⟩
theorem GetI.own (w : World) (gl bb : Nat) (sv : Value) (B : Nat) (hB : w.heap.size <= B) : OwnFrom B (GetI w gl bb sv) := fun s X Y row h hg hr => by
  obtain ⟨⟨v, vs, D, h1, h2⟩, h3, h4, h5, h6⟩ := h
  have hn : NoCells X row := fun r e => (hr r e).2
  exact ⟨⟨v, vs, D, boxed_kept h1 hg hn, gr_kept h2 hg hn⟩, boxed_kept h3 hg hn, boxed_kept h4 hg hn, res2_kept h5 hg hn (fun r e => Nat.le_trans hB (hr r e).1), h6⟩
def GetX (w : World) (inp : List UInt8) (d : Nat) (c : Code) (_ys : List Gt) (W : World) : Prop := c = .ret /\ ∃ er : Int, er ≠ 0 /\ (getsL inp d 1).2.1 = er /\ Res2 w W (.slice none 0 0) er
theorem GetX.own (w : World) (inp : List UInt8) (d : Nat) (c : Code) (B : Nat) (hB : w.heap.size <= B) : OwnFrom B (GetX w inp d c) := fun s X Y row h hg hr => by
  obtain ⟨h1, er, h2, h3, h4⟩ := h
  exact ⟨h1, er, h2, h3, res2_kept h4 hg (fun r e => (hr r e).2) (fun r e => Nat.le_trans hB (hr r e).1)⟩
def GotAx (F : Gt -> Nat -> Act) (s : Gt × Act) (W : World) : Prop := ∃ Bx, W.heap[Bx]? = some (.cells s.1.cs 111 (0, 0)) /\ s.2 = F s.1 Bx
theorem GotAx.own (F : Gt -> Nat -> Act) (B : Nat) : OwnFrom B (GotAx F) := fun s X Y row h hg hr => by
  obtain ⟨Bx, h2, h3⟩ := h
  exact ⟨Bx, block_kept h2 hg (fun r e => (hr r e).2), h3⟩
theorem gt_cells {W : World} {b : Nat} {g : Gt} {fr : Nat × Nat} (h : W.heap[b]? = some (.cells g.cs 111 fr)) :
    W.cell? ⟨b, 0, none⟩ = some (.int .i64 g.x.d) /\ W.cell? ⟨b, 1, none⟩ = some (.bool g.x.lc) /\ W.cell? ⟨b, 2, none⟩ = some (.int .i64 g.x.ix) /\ W.cell? ⟨b, 3, none⟩ = some (.int .i64 g.x.gn) /\ W.cell? ⟨b, 4, none⟩ = some (.int .i64 g.x.cp) /\ W.cell? ⟨b, 5, none⟩ = some (.slice g.A g.n g.c) /\ W.cell? ⟨b, 6, none⟩ = some (.int .i64 g.nx) /\ W.cell? ⟨b, 7, none⟩ = some (.int .i64 g.e) := by
  refine ⟨?_, ?_, ?_, ?_, ?_, ?_, ?_, ?_⟩ <;> simp [World.cell?, h]
theorem rd_ne {W : World} {A : Option Addr} {m : Nat} {l : List UInt8} {B : Nat} {t : TypeId} {v : Value} (h : Rd W A m l) (hb : Boxed W B t v) (hv : ∀ k, v ≠ .int .u8 k) {b o : Nat} (hA : A = some ⟨b, o, none⟩) (hm : 0 < m) : b ≠ B := fun e => by
  obtain ⟨b', o', hA', _, hc⟩ := h.2 hm
  rw [hA] at hA'
  injection hA' with h1
  injection h1 with h1 h2
  subst h1 h2 e
  have h0 := hc 0 (by rw [h.1]; exact hm)
  simp only [World.cell?, show W.heap[b]? = _ from hb] at h0
  rcases Nat.eq_zero_or_pos o with ho | ho
  · subst ho
    simp at h0
    exact hv _ h0
  · obtain ⟨h3, _⟩ := Array.getElem?_eq_some_iff.1 h0
    simp at h3
    omega
theorem rd_set {W : World} {A : Option Addr} {m : Nat} {l : List UInt8} {B : Nat} {t : TypeId} {v : Value} (h : Rd W A m l) (hb : Boxed W B t v) (hv : ∀ k, v ≠ .int .u8 k) (u : Value) : Rd (W.setCell ⟨B, 0, none⟩ u) A m l := by
  rcases Nat.eq_zero_or_pos m with h0 | h0
  · exact ⟨h.1, fun h1 => absurd h1 (by omega)⟩
  · exact h.block (grownBy_setCell' W B u).size fun b o hA => Below.heap_setCell _ _ _ _ (rd_ne h hb hv hA h0)
theorem gr_set {W : World} {B n₀ : Nat} {t : TypeId} {v vv : Value} {vs : List Value} {D : Nat -> Prop} {xs : List Cd} (h : Gr ECd 61 6 W n₀ vv vs D xs) (hb : Boxed W B t v) (ht : t ≠ 61) (hv : ∀ k, v ≠ .int .u8 k) (u : Value) : Gr ECd 61 6 (W.setCell ⟨B, 0, none⟩ u) n₀ vv vs D xs := by
  have hs := (grownBy_setCell' W B u).size
  refine ⟨Nat.le_trans h.Bw hs, h.ow.kept (grownBy_setCell' W B u) (.inr (hb.not_row ht h.ow).symm), h.hd.imp (fun x r ⟨A, n, c, e, hu, hc⟩ => ⟨A, n, c, e, ?_, hc⟩), fun x hx => ⟨Nat.lt_of_lt_of_le (h.dx x hx).1 hs, (h.dx x hx).2⟩⟩
  obtain ⟨A2, m2, c2, e2, h1, h2⟩ := hu
  exact ⟨A2, m2, c2, e2, rd_set h1 hb hv u, fun b o e h0 => ⟨(h2 b o e h0).1, Nat.lt_of_lt_of_le (h2 b o e h0).2 hs⟩⟩
section
variable {w W w6 w7 : World} {gl bb Bx : Nat} {sv v v7 : Value} {vs : List Value} {D : Nat -> Prop} {e0 : Int} {xs : List Cd} {g : Gt}
theorem block_row {B : Nat} {cs : Array Value} {t : TypeId} {fr : Nat × Nat} {n k : Nat} {v : Value} {vs : List Value} (h : w6.heap[B]? = some (.cells cs t fr)) (ht : t ≠ 61) (ho : w6.ownsRow n 61 6 v k vs) : some B ≠ v.ownBlock := by
  rcases ho.2 with ⟨rfl, _⟩ | ⟨g, cap, cur, rfl, _, hgb, _⟩
  · simp [Value.ownBlock]
  · intro e'
    obtain rfl : B = g := by simpa [Value.ownBlock] using e'
    rw [h] at hgb
    simp at hgb
    exact ht hgb.2.1
theorem get_seven (hv : Boxed W gl 40 v) (hE : Boxed W (gl + 1) 3 (.int .i64 e0)) (hbb : Boxed W bb 42 sv) (hR : Res2 w W (.slice none 0 0) 0) (hBx : W.heap[Bx]? = some (.cells g.cs 111 (0, 0)))
    (hG : Gr ECd 61 6 W w.heap.size v vs D xs) (hb6 : Below W.heap.size W w6) (hg7 : w6.grownBy w7 v.ownBlock) :
    Boxed w7 gl 40 v /\ Boxed w7 (gl + 1) 3 (.int .i64 e0) /\ Boxed w7 bb 42 sv /\ Res2 w w7 (.slice none 0 0) 0 /\ w7.heap[Bx]? = some (.cells g.cs 111 (0, 0)) /\ KeepsOthers W w7 /\
      ∀ k, k < W.heap.size -> (k < w.heap.size \/ k = bb) -> w7.heap[k]? = W.heap[k]? := by
  have G6 := hG.below ECd.ok hb6
  have K : ∀ {B : Nat} {t : TypeId} {u : Value}, Boxed W B t u -> t ≠ 61 -> Boxed w7 B t u := fun h ht =>
    (h.kept (below_row hb6) (by simp)).kept hg7 (block_row (h.kept (below_row hb6) (by simp)) ht G6.ow)
  have kb : some bb ≠ v.ownBlock := block_row (hbb.kept (below_row hb6) (by simp)) (by decide) G6.ow
  refine ⟨K hv (by decide), K hE (by decide), K hbb (by decide), ⟨K hR.b2 (by decide), K hR.b3 (by decide), hR.bl.trans ((hb6.mono hR.bl.size).trans (below_own G6.ow (Nat.le_trans hR.bl.size hb6.size) hg7))⟩, ?_, ?_, fun k hk hkk => ?_⟩
  · have h6 := below_at hb6 hBx
    exact (hg7.block Bx (Array.getElem?_eq_some_iff.1 h6).1 (block_row h6 (by decide) G6.ow)).trans h6
  · exact (KeepsOthers.of_grownBy (below_row hb6) (fun j o e => by cases e)).trans (own_turn G6.ow hg7)
  · refine (hg7.block k (Nat.lt_of_lt_of_le hk hb6.size) ?_).trans (hb6.block k hk)
    rcases hkk with h1 | rfl
    · intro e'
      have := (own_geB G6.ow e'.symm).1
      omega
    · exact kb
theorem get_nine {pre : List Gt} {vs7 : List Value} {D7 : Nat -> Prop} (hB : w.heap.size + 2 <= gl) (hbg : bb ≠ gl /\ bb ≠ gl + 1) (h7 : Boxed w7 gl 40 v /\ Boxed w7 (gl + 1) 3 (.int .i64 e0) /\ Boxed w7 bb 42 sv /\ Res2 w w7 (.slice none 0 0) 0 /\ w7.heap[Bx]? = some (.cells g.cs 111 (0, 0)) /\ KeepsOthers W w7 /\
      ∀ k, k < W.heap.size -> (k < w.heap.size \/ k = bb) -> w7.heap[k]? = W.heap[k]?) (hvs : ∀ k, v ≠ .int .u8 k) (hG : Gr ECd 61 6 w7 w.heap.size v7 vs7 D7 (pre.map Gt.x ++ [g.x])) (hok : ∀ y ∈ pre, y.e = 0) (hge : g.e = 0) (hU : w.heap.size <= W.heap.size) (hbW : bb < W.heap.size) (B0 : Nat) :
    KeepsFrom B0 W ((w7.setCell ⟨gl, 0, none⟩ v7).setCell ⟨gl + 1, 0, none⟩ (.int .i64 g.nx)) /\ WStays (fun k => k < w.heap.size \/ k = bb) W ((w7.setCell ⟨gl, 0, none⟩ v7).setCell ⟨gl + 1, 0, none⟩ (.int .i64 g.nx)) /\
      GetI w gl bb sv (pre ++ [g]) ((w7.setCell ⟨gl, 0, none⟩ v7).setCell ⟨gl + 1, 0, none⟩ (.int .i64 g.nx)) := by
  obtain ⟨b7, e7, bb7, r7, x7, k7, s7⟩ := h7
  refine ⟨((k7.trans (KeepsOthers.setCell _ _ _)).trans (KeepsOthers.setCell _ _ _)).from _, ⟨?_, fun k hk => ?_⟩, ?_⟩
  · exact Nat.le_trans k7.size (Nat.le_trans (grownBy_setCell' w7 gl v7).size (grownBy_setCell' _ (gl + 1) _).size)
  · have h1 : k ≠ gl /\ k ≠ gl + 1 /\ k < W.heap.size := by rcases hk with h | rfl <;> omega
    exact (Below.heap_setCell _ _ _ _ h1.2.1).trans ((Below.heap_setCell _ _ _ _ h1.1).trans (s7 k h1.2.2 hk))
  · have b8 := b7.set v7
    have e8 := e7.other (B' := gl) (by omega) v7
    refine ⟨⟨v7, vs7, D7, b8.other (by omega) _, ?_⟩, by rw [nxt_snoc]; exact e8.set _, (bb7.other hbg.1 _).other hbg.2 _, ?_, fun y hy => ?_⟩
    · rw [List.map_append]
      exact gr_set (gr_set hG b7 (by decide) hvs v7) e8 (by decide) (fun _ e => by cases e) _
    · exact ⟨(r7.b2.other (by omega) _).other (by omega) _, (r7.b3.other (by omega) _).other (by omega) _, (r7.bl.setCell (p := ⟨gl, 0, none⟩) (show w.heap.size <= gl by omega) _).setCell (p := ⟨gl + 1, 0, none⟩) (show w.heap.size <= gl + 1 by omega) _⟩
    · rcases List.mem_append.1 hy with h | h
      · exact hok y h
      · rw [List.mem_singleton.1 h]; exact hge
end
end Go.Proofs.YthabmlbmlncbmaaGreat
