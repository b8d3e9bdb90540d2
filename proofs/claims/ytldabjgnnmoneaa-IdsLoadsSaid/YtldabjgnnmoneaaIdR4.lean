/- The reference's Take. -/
import Derived.Test.YtldabjgnnmoneaaIdR3
namespace Go.Proofs.Ytldabjgnnmoneaa
open Go.RowKit

theorem run_appI {P : Program} (w : World) {T e : TypeId} (el : El P T e (.int .i64 0) 1 8) (ty : TypeId) (B : Nat) (v : Value) (n : Nat) (xs : List Value) (hown : w.ownsRow B e 1 v n xs)
    (A : Option Addr) (m c : Nat) (zs : List Int) (hr : IRd w A m zs) (hb : n + m ≤ 1000000000) (hB : B ≤ w.heap.size) :
    ∃ v' w', (Builtin.append_ #[T, T] ty #[v, .slice A m c]).run P w = .ok v' w' ∧ w'.ownsRow B e 1 v' (n + m) (xs ++ zs.map (Value.int .i64)) ∧ w.grownBy w' v.ownBlock := by
  obtain ⟨i, hi, hz, h1, h2⟩ := info_parts el.info
  rcases A with _ | ad
  · have hm : m = 0 := by
      rcases Nat.eq_zero_or_pos m with h0 | h0
      · exact h0
      · obtain ⟨_, _, h, _⟩ := hr.2 h0
        cases h
    subst hm
    have hn : zs = [] := List.eq_nil_of_length_eq_zero hr.1
    subst hn
    exact ⟨v, w, run_app_nil w B T ty e i 1 el.und hi v n xs hown c, by simpa using hown, World.grownBy.refl _ _⟩
  · have hcells : ∀ j u, (zs.map (Value.int .i64))[j]? = some u → w.cell? (ad.add j) = some u := fun j u hj => by
      have hjl : j < zs.length := by have := (List.getElem?_eq_some_iff.1 hj).1; simpa using this
      obtain ⟨b, o, e, _, hc⟩ := hr.2 (by have := hr.1; omega)
      injection e with e
      subst e
      rw [Addr.add_lit, hc j hjl, ← hj]
      simp [List.getD, List.getElem?_eq_getElem hjl]
    obtain ⟨v', w', hrun, ho, hg, _⟩ := run_append_own (P := P) w B T ty e i (.int .i64 0) 1 8 el.und hi hz h1 h2 rfl (by decide) v n xs hown ad m c (zs.map (Value.int .i64)) (by simp [hr.1]) hcells (fun u hu => by obtain ⟨_, _, rfl⟩ := List.mem_map.1 hu; rfl)
      (by unfold maxLen; omega) (by omega) hB
    exact ⟨v', w', hrun, ho, hg⟩

section
variable {P : Program} (w : World) {T e : TypeId} {ops : Array Oper} {rest : List Oper} {o : Oper} {a : Act} {Q : Exit → Act → World → Prop} {J : Act → World → Prop} {E : Prop}
/-- 'append(v, x...)': v a row of ints of one's own, x any slice of ints. -/
theorem wpList_appI (el : El P T e (.int .i64 0) 1 8) (hgd : Region.wanted o (yielded ops a.tmps) = true) (s x : Operand)
    (ho : o.op = .call { callee := .builtin .append, args := #[s, x], argTypes := #[T, T] })
    (B : Nat) (v : Value) (n : Nat) (xs : List Value) (hs : a.eval s = v) (hown : w.ownsRow B e 1 v n xs)
    (A : Option Addr) (m c : Nat) (zs : List Int) (hx : a.eval x = .slice A m c) (hr : IRd w A m zs) (hb : n + m ≤ 1000000000) (hB : B ≤ w.heap.size)
    (h : ∀ v' w', w'.ownsRow B e 1 v' (n + m) (xs ++ zs.map (Value.int .i64)) → w.grownBy w' v.ownBlock → wpList P ops Q rest (a.put o.dst v') w') : wpList P ops Q (o :: rest) a w :=
  wpList_w hgd fun _ hK => by
    obtain ⟨v', w', hrun, h2, h3⟩ := run_appI w el o.type B v n xs hown A m c zs hr hb hB
    unfold Oper.wp execOp
    simp only [ho, resolve, invoke, builtin, Sem.run_bind, Sem.run_pure, Result.andThen_ok, List.map_toArray, List.map_cons, List.map_nil, hs, hx, hrun]
    exact hK _ _ (h v' w' h2 h3)
theorem step_appI (el : El P T e (.int .i64 0) 1 8) (hgd : o.guard = none) (s x : Operand)
    (ho : o.op = .call { callee := .builtin .append, args := #[s, x], argTypes := #[T, T] })
    (B : Nat) (v : Value) (n : Nat) (xs : List Value) (hs : a.eval s = v) (hown : w.ownsRow B e 1 v n xs)
    (A : Option Addr) (m c : Nat) (zs : List Int) (hx : a.eval x = .slice A m c) (hr : IRd w A m zs) (hb : n + m ≤ 1000000000) (hB : B ≤ w.heap.size)
    (h : ∀ v' w', w'.ownsRow B e 1 v' (n + m) (xs ++ zs.map (Value.int .i64)) → w.grownBy w' v.ownBlock → J (a.put o.dst v') w') : if Region.wanted o (yielded ops a.tmps) = true then Oper.wp P o a w J Q else E := by
  have hw : Region.wanted o (yielded ops a.tmps) = true := by simp [Region.wanted, hgd]
  rw [if_pos hw]
  obtain ⟨v', w', hrun, h2, h3⟩ := run_appI w el o.type B v n xs hown A m c zs hr hb hB
  unfold Oper.wp execOp
  simp only [ho, resolve, invoke, builtin, Sem.run_bind, Sem.run_pure, Result.andThen_ok, List.map_toArray, List.map_cons, List.map_nil, hs, hx, hrun]
  exact h v' w' h2 h3
end

/-- Two structs stored, cell by cell. -/
theorem stores_two {w : World} {T U g h : Nat} {a0 a1 a2 a3 b0 b1 a0' a1' a2' a3' b0' b1' : Value} (hT : Rec T w g #[a0', a1', a2', a3']) (hU : Rec U w h #[b0', b1']) (hne : g ≠ h) :
    Rec T (((((((w.setCell ⟨g, 0, none⟩ a0).setCell ⟨g, 1, none⟩ a1).setCell ⟨g, 2, none⟩ a2).setCell ⟨g, 3, none⟩ a3).setCell ⟨h, 0, none⟩ b0).setCell ⟨h, 1, none⟩ b1).drew) g #[a0, a1, a2, a3] ∧
    Rec U (((((((w.setCell ⟨g, 0, none⟩ a0).setCell ⟨g, 1, none⟩ a1).setCell ⟨g, 2, none⟩ a2).setCell ⟨g, 3, none⟩ a3).setCell ⟨h, 0, none⟩ b0).setCell ⟨h, 1, none⟩ b1).drew) h #[b0, b1] ∧
    Fr (fun x => x = g ∨ x = h) w (((((((w.setCell ⟨g, 0, none⟩ a0).setCell ⟨g, 1, none⟩ a1).setCell ⟨g, 2, none⟩ a2).setCell ⟨g, 3, none⟩ a3).setCell ⟨h, 0, none⟩ b0).setCell ⟨h, 1, none⟩ b1).drew) := by
  have f1 : ∀ (W : World) (i : Nat) (u : Value), Fr (· = g) W (W.setCell ⟨g, i, none⟩ u) := fun W i u => Fr.setCell (own := (· = g)) W (p := ⟨g, i, none⟩) rfl u
  have f2 : ∀ (W : World) (i : Nat) (u : Value), Fr (· = h) W (W.setCell ⟨h, i, none⟩ u) := fun W i u => Fr.setCell (own := (· = h)) W (p := ⟨h, i, none⟩) rfl u
  have F1 : Fr (· = g) w ((((w.setCell ⟨g, 0, none⟩ a0).setCell ⟨g, 1, none⟩ a1).setCell ⟨g, 2, none⟩ a2).setCell ⟨g, 3, none⟩ a3) := (((f1 _ _ _).trans (f1 _ _ _)).trans (f1 _ _ _)).trans (f1 _ _ _)
  have R1 : Rec T ((((w.setCell ⟨g, 0, none⟩ a0).setCell ⟨g, 1, none⟩ a1).setCell ⟨g, 2, none⟩ a2).setCell ⟨g, 3, none⟩ a3) g #[a0, a1, a2, a3] := (((hT.set 0 _).set 1 _).set 2 _).set 3 _
  have U1 := hU.fr F1 (fun e => hne (show h = g from e).symm)
  obtain ⟨w1, hw1⟩ : ∃ w1, w1 = ((((w.setCell ⟨g, 0, none⟩ a0).setCell ⟨g, 1, none⟩ a1).setCell ⟨g, 2, none⟩ a2).setCell ⟨g, 3, none⟩ a3) := ⟨_, rfl⟩
  rw [← hw1] at F1 R1 U1 ⊢
  have F2 : Fr (· = h) w1 ((w1.setCell ⟨h, 0, none⟩ b0).setCell ⟨h, 1, none⟩ b1).drew := ((f2 _ _ _).trans (f2 _ _ _)).trans (Fr.drew _ _)
  refine ⟨R1.fr F2 (fun e => hne e), (U1.set 0 _).set 1 _, (F1.mono fun x hx => .inl hx).trans (F2.mono fun x hx => .inr hx)⟩

/-- What the reference's Take or Give leaves. -/
def RLeft (K : Nat → Prop) (w : World) (s : NS) (x : Int × Int) (cd : Int) (e : Ending) (w' : World) : Prop :=
  ∃ d' : Rv, e = .returned (.tuple #[d'.v, idv x, .int .i64 cd]) ∧ RS (fun y => K y ∨ (w.heap.size ≤ y ∧ y < w'.heap.size)) w' d' s ∧ Below w.heap.size w w'

section
variable {K : Nat → Prop} {w : World} {d : Rv} {s : NS}

theorem RTake_full (h : RS K w d s) (ok : s.Ok) (hf : s.fr = []) (he : s.g.length = s.E) :
    Calls Try.prog 24 #[d.v] w (RLeft K w s (0, 0) 9) := by
  obtain ⟨E, L, GA, gn, gc, FA, fn, fc⟩ := d
  have hgn := h.gn
  have hfn := h.fn
  have hE := h.E
  simp only at hgn hfn hE
  rw [hf] at hfn
  have hfn0 : fn = 0 := by simpa using hfn
  subst hfn0
  have hEg : E = (gn : Int) := by rw [hE, hgn, he]
  subst hEg
  have hE2 := ok.E2
  have hg2 : gn ≤ 1024 := by omega
  have H := Lib.hid h
  clear h hgn hfn hE he hE2 hf
  show Calls _ _ #[.agg #[.int .i64 gn, .int .i64 L, .slice GA gn gc, .slice FA 0 fc]] w _
  obtain ⟨hb, hA1, hB1, hC1⟩ := three_new w 30 30 24 #[.int .i64 gn, .int .i64 L, .slice GA gn gc, .slice FA 0 fc] #[.int .i64 0, .int .i64 0, .slice none 0 0, .slice none 0 0] #[.int .i64 0, .int .i64 0]
  obtain ⟨w1, hw1⟩ : ∃ w1, w1 = ((w.alloc (.cells #[.int .i64 gn, .int .i64 L, .slice GA gn gc, .slice FA 0 fc] 30)).alloc (.cells #[.int .i64 0, .int .i64 0, .slice none 0 0, .slice none 0 0] 30)).alloc (.cells #[.int .i64 0, .int .i64 0] 24) := ⟨_, rfl⟩
  rw [← hw1] at hb hA1 hB1 hC1
  have c0 : w1.cell? ⟨w.heap.size, 0, none⟩ = some (.int .i64 gn) := hA1.at_ 0
  have c2 : w1.cell? ⟨w.heap.size, 2, none⟩ = some (.slice GA gn gc) := hA1.at_ 2
  have c3 : w1.cell? ⟨w.heap.size, 3, none⟩ = some (.slice FA 0 fc) := hA1.at_ 3
  have HB := Lib.hid hb
  have HA1 := Lib.hid hA1
  have HB1 := Lib.hid hB1
  have HC1 := Lib.hid hC1
  clear hb hA1 hB1 hC1
  go_enter Try.func24, Try.ntmps24
  go_wp2_with (first
    | (rw [← hw1]; clear hw1)
    | (with_reducible refine wpList_ldQ rfl (.tmp 1) rfl rfl HA1.out ?_)
    | (with_reducible refine wpList_stQ (E' := gn) (L' := L) (GA' := GA) (gn' := gn) (gc' := gc) (FA' := FA) (fn' := 0) (fc' := fc) rfl (.tmp 2) (.tmp 38) rfl rfl rfl HB1.out ?_; intro w2 hR2 hF2; have HR2 := Lib.hid hR2; have HC2 := Lib.hid (HC1.out.fr hF2 (fun e => by have e' : w.heap.size + 2 = w.heap.size + 1 := e; omega)); have HF2 := Lib.hid hF2; clear hR2 hF2)
    | (with_reducible refine wpList_stP (x1 := 0) (y1 := 0) rfl (.tmp 3) (.tmp 39) rfl rfl rfl HC2.out ?_; intro w3 hR3 hF3; have HR3 := Lib.hid hR3; have HT3 := Lib.hid (HR2.out.fr hF3 (fun e => by have e' : w.heap.size + 1 = w.heap.size + 2 := e; omega)); have HF3 := Lib.hid hF3; clear hR3 hF3))
  refine bodyPost_ret (res_cct rfl rfl (HT3.out.load rsT rfl) rfl (HR3.out.load idT rfl)) rfl ?_
  have hB : Below w.heap.size w w3 := (HB.out.trans (HF2.out.toBelow (fun x hx => by rw [show x = w.heap.size + 1 from hx]; omega) HB.out.size)).trans (HF3.out.toBelow (fun x hx => by rw [show x = w.heap.size + 2 from hx]; omega) (by have := HB.out.size; have := HF2.out.size; omega))
  exact ⟨⟨gn, L, GA, gn, gc, FA, 0, fc⟩, rfl, (H.out.below hB).mono (fun x hx => .inl hx), hB⟩
end
end Go.Proofs.Ytldabjgnnmoneaa
