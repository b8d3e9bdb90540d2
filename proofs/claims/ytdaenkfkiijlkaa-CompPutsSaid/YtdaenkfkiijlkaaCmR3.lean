/- The contract of comp's read. -/
import Derived.Test.YtdaenkfkiijlkaaCmR2
import Derived.Deep.RegionHeld3
namespace Go.Proofs.Ytdaenkfkiijlkaa
open Go.RowKit
set_option linter.unusedVariables false

theorem own_slK {w : World} {B e size n : Nat} {v : Value} {xs : List Value} (h : w.ownsRow B e size v n xs) : ∃ A c, v = .slice A n c := by
  rcases h.2 with ⟨rfl, rfl⟩ | ⟨g, cap, cur, rfl, _⟩
  · exact ⟨none, 0, rfl⟩
  · exact ⟨_, cap, rfl⟩
theorem two_new (w : World) (t : ByteArray) (z : Int) : ∀ i u, [Value.string t, .int .i64 z][i]? = some u → (w.alloc (.cells #[.string t, .int .i64 z] 50)).cell? ((⟨w.heap.size, 0, none⟩ : Addr).add i) = some u := by
  intro i u hu
  rw [Addr.add_lit]
  match i, hu with
  | 0, hu => simp at hu; subst hu; simp
  | 1, hu => simp at hu; subst hu; simp
section
variable {ops : Array Oper} {rest : List Oper} {o : Oper} {a : Act} {w : World} {Q : Exit → Act → World → Prop} {g : Nat} {lg pg en gn lg' pg' en' gn' : Int} {A A' : Option Addr} {n cap n' cap' : Nat}
/-- A layout by value: load, store. -/
theorem wpList_ldC (hgd : Region.wanted o (yielded ops a.tmps) = true) (x : Operand) (ho : o.op = .load 24 x)
    (hx : a.eval x = .pointer (some ⟨g, 0, none⟩)) (h : Rec 24 w g (cc lg pg en gn A n cap)) (kk : wpList Try.prog ops Q rest (a.put o.dst (cv lg pg en gn A n cap)) w) : wpList Try.prog ops Q (o :: rest) a w :=
  wpList_ldS confT rfl hgd x ho hx h kk
theorem wpList_stC (hgd : Region.wanted o (yielded ops a.tmps) = true) (x y : Operand) (ho : o.op = .store 24 x y)
    (hx : a.eval x = .pointer (some ⟨g, 0, none⟩)) (hy : a.eval y = cv lg' pg' en' gn' A' n' cap') (h : Rec 24 w g (cc lg pg en gn A n cap))
    (kk : ∀ w', Rec 24 w' g (cc lg' pg' en' gn' A' n' cap') → Fr (· = g) w w' → wpList Try.prog ops Q rest (a.put o.dst undef) w') : wpList Try.prog ops Q (o :: rest) a w :=
  wpList_stS confT rfl rfl (by simp [Value.oneCell']) hgd x y ho hx hy h kk
end
/-- The state of a reading in the midst: the Reader at p, the layout at g3 (its components v), the answer's cell at g. -/
structure Mid (w0 : World) (N p g g3 B : Nat) (lg pg en gn : Int) (v : Value) (j : Nat) (ks : List Kd) (s : RS) (W : World) : Prop where
  rd : RdrIs N W p s
  cf : Rec 24 W g3 #[.int .i64 lg, .int .i64 pg, .int .i64 en, .int .i64 gn, v]
  zz : Rec 24 W g #[.int .i64 0, .int .i64 0, .int .i64 0, .int .i64 0, .slice none 0 0]
  ow : W.ownsRow B 50 2 v j (kcells ks)
  fr : Fr (· = p) w0 W
  pN : p < N
  Nw : N ≤ w0.heap.size
  wg : w0.heap.size ≤ g
  wg3 : w0.heap.size ≤ g3
  ne : g ≠ g3
  gB : g < B
  g3B : g3 < B
  BW : B ≤ W.heap.size

section
variable {w0 W W' : World} {N p g g3 B j : Nat} {lg pg en gn : Int} {v : Value} {ks : List Kd} {s s' : RS}
theorem Mid.step (h : Mid w0 N p g g3 B lg pg en gn v j ks s W) (hr : RdrIs N W' p s') (hf : Fr (· = p) W W') : Mid w0 N p g g3 B lg pg en gn v j ks s' W' where
  rd := hr
  cf := h.cf.fr hf (fun e => by have : g3 = p := e; have := h.wg3; have := h.Nw; have := h.pN; omega)
  zz := h.zz.fr hf (fun e => by have : g = p := e; have := h.wg; have := h.Nw; have := h.pN; omega)
  ow := own_fr h.ow hf (fun x hx e => by have : x = p := e; have := (h.ow.lt x hx).1; have := h.g3B; have := h.wg3; have := h.Nw; have := h.pN; omega)
  fr := h.fr.trans hf
  pN := h.pN
  Nw := h.Nw
  wg := h.wg
  wg3 := h.wg3
  ne := h.ne
  gB := h.gB
  g3B := h.g3B
  BW := Nat.le_trans h.BW hf.size
theorem Mid.below (h : Mid w0 N p g g3 B lg pg en gn v j ks s W) (hb : Below W.heap.size W W') : Mid w0 N p g g3 B lg pg en gn v j ks s W' where
  rd := h.rd.below hb
  cf := h.cf.under hb
  zz := h.zz.under hb
  ow := own_keep h.ow hb
  fr := h.fr.trans (Fr.ofBelow _ hb)
  pN := h.pN
  Nw := h.Nw
  wg := h.wg
  wg3 := h.wg3
  ne := h.ne
  gB := h.gB
  g3B := h.g3B
  BW := Nat.le_trans h.BW hb.size
/-- One component more: what is appended is stored. -/
theorem Mid.more (h : Mid w0 N p g g3 B lg pg en gn v j ks s W) {v' : Value} {k : Kd} (ho : W'.ownsRow B 50 2 v' (j + 1) (kcells ks ++ [.string k.1, .int .i64 k.2])) (hg : W.grownBy W' v.ownBlock) :
    Rec 24 W' g3 #[.int .i64 lg, .int .i64 pg, .int .i64 en, .int .i64 gn, v] ∧ Mid w0 N p g g3 B lg pg en gn v' (j + 1) (ks ++ [k]) s (W'.setCell ⟨g3, 4, none⟩ v') := by
  have hb : Below B W W' := below_own h.ow h.BW hg
  have hNB : N ≤ B := by have := h.g3B; have := h.wg3; have := h.Nw; omega
  have hcf : Rec 24 W' g3 #[.int .i64 lg, .int .i64 pg, .int .i64 en, .int .i64 gn, v] := h.cf.below hb h.g3B
  have hzz := h.zz.below hb h.gB
  have hrd := h.rd.stay hNB hb
  have hset : Fr (· = g3) W' (W'.setCell ⟨g3, 4, none⟩ v') := Fr.setCell W' (own := (· = g3)) (p := ⟨g3, 4, none⟩) rfl v'
  have hB2 : Below g3 W' (W'.setCell ⟨g3, 4, none⟩ v') := hset.toBelow (fun x hx => by have : x = g3 := hx; omega) (Nat.le_of_lt hcf.lt)
  refine ⟨hcf, ⟨?_, ?_, hzz.fr hset (fun e => h.ne e), ?_, ?_, h.pN, h.Nw, h.wg, h.wg3, h.ne, h.gB, h.g3B, Nat.le_trans h.BW (Nat.le_trans hb.size hset.size)⟩⟩
  · exact hrd.stay (Nat.le_trans h.Nw h.wg3) hB2
  · have := hcf.set 4 v'
    simpa using this
  · rw [kcells_snoc]
    exact own_fr ho hset (fun x hx e => by have : x = g3 := e; have := (ho.lt x hx).1; have := h.g3B; omega)
  · refine (h.fr.trans' (own' := fun x => B ≤ x) ⟨hb.os, hb.tape, hb.output, hb.size, fun b hlt hn => hb.block b (by have hn : ¬ B ≤ b := hn; omega)⟩ (fun x hx => .inr (by have hx : B ≤ x := hx; have := h.gB; have := h.wg; omega))).trans' hset (fun x hx => .inr (by have : x = g3 := hx; have := h.wg3; omega))
end

set_option maxHeartbeats 4000000 in
theorem read_any (p N : Nat) (st : RS) (w : World) (h : RdrIs N w p st) (hN : N ≤ w.heap.size) :
    Calls Try.prog 36 #[.pointer (some ⟨p, 0, none⟩)] w fun e w' => ∃ A n cap, e = .returned (cv (rdConf st).1.lg (rdConf st).1.pg (rdConf st).1.en (rdConf st).1.gn A n cap) ∧ KRd w' A n (rdConf st).1.ks ∧ n ≤ cap ∧ n ≤ 255 ∧ RdrIs N w' p (rdConf st).2 ∧ Fr (· = p) w w' := by
  obtain ⟨lg, s1, e1⟩ : ∃ a b, rdNum 4 st = (a, b) := ⟨_, _, rfl⟩
  obtain ⟨pg, s2, e2⟩ : ∃ a b, rdNum 4 s1 = (a, b) := ⟨_, _, rfl⟩
  obtain ⟨en, s3, e3⟩ : ∃ a b, rdNum 4 s2 = (a, b) := ⟨_, _, rfl⟩
  obtain ⟨gn, s4, e4⟩ : ∃ a b, rdNum 4 s3 = (a, b) := ⟨_, _, rfl⟩
  obtain ⟨m, hm, hm2⟩ := rdNum1 s4
  obtain ⟨s5, e5⟩ : ∃ b, rdNum 1 s4 = ((m : Int), b) := ⟨_, by rw [← hm]⟩
  have eC : rdConf st = (⟨lg, pg, en, gn, (rdKs m s5).1⟩, (rdKs m s5).2) := by
    unfold rdConf
    simp only [e1, e2, e3, e4, e5, Int.toNat_natCast]
  rw [eC]
  clear eC hm
  obtain ⟨w1, hw1⟩ : ∃ w1, w1 = w.alloc (.cells #[.int .i64 0, .int .i64 0, .int .i64 0, .int .i64 0, .slice none 0 0] 24) := ⟨_, rfl⟩
  have hB1 : Below w.heap.size w w1 := by rw [hw1]; exact (Below.refl _ _).alloc (Nat.le_refl _) _
  have hZ : Rec 24 w1 w.heap.size #[.int .i64 0, .int .i64 0, .int .i64 0, .int .i64 0, .slice none 0 0] := by rw [hw1]; exact Rec.new w _ _
  have H1 := Lib.hid (h.below hB1)
  have HB1 := Lib.hid hB1
  have HZ := Lib.hid hZ
  have hpw : p < w.heap.size := h.lt
  clear h hB1 hZ
  obtain ⟨g, hg⟩ : ∃ g, g = w.heap.size := ⟨_, rfl⟩
  rw [← hg] at HZ
  have HG := Lib.hid hg
  clear hg
  go_enter Try.func36, Try.ntmps36
  go_wp2_with (rw [← hw1, ← HG.out]; clear hw1)
  have cN := RNum_any H1.out 4 (.inr rfl)
  rw [e1] at cN
  refine cN.mono ?_
  clear cN
  rintro e w2 ⟨rfl, hr2, hf2⟩
  have H2 := Lib.hid hr2
  have F2 := Lib.hid hf2
  clear hr2 hf2
  go_wp2_with fail
  have cN := RNum_any H2.out 4 (.inr rfl)
  rw [e2] at cN
  refine cN.mono ?_
  clear cN
  rintro e w3 ⟨rfl, hr3, hf3⟩
  have H3 := Lib.hid hr3
  have F3 := Lib.hid (F2.out.trans hf3)
  clear hr3 hf3
  go_wp2_with fail
  have cN := RNum_any H3.out 4 (.inr rfl)
  rw [e3] at cN
  refine cN.mono ?_
  clear cN
  rintro e w4 ⟨rfl, hr4, hf4⟩
  have H4 := Lib.hid hr4
  have F4 := Lib.hid (F3.out.trans hf4)
  clear hr4 hf4
  go_wp2_with fail
  have cN := RNum_any H4.out 4 (.inr rfl)
  rw [e4] at cN
  refine cN.mono ?_
  clear cN
  rintro e w5 ⟨rfl, hr5, hf5⟩
  have H5 := Lib.hid hr5
  have F5 := Lib.hid (F4.out.trans hf5)
  clear hr5 hf5
  go_wp2_with fail
  obtain ⟨w6, hw6⟩ : ∃ w6, w6 = w5.alloc (.cells #[.int .i64 lg, .int .i64 pg, .int .i64 en, .int .i64 gn, .slice none 0 0] 24) := ⟨_, rfl⟩
  have hB6 : Below w5.heap.size w5 w6 := by rw [hw6]; exact (Below.refl _ _).alloc (Nat.le_refl _) _
  have hC6 : Rec 24 w6 w5.heap.size #[.int .i64 lg, .int .i64 pg, .int .i64 en, .int .i64 gn, .slice none 0 0] := by rw [hw6]; exact Rec.new w5 _ _
  obtain ⟨g3, hg3⟩ : ∃ g3, g3 = w5.heap.size := ⟨_, rfl⟩
  have hZ5 := HZ.out.fr F5.out (fun e => by have : g = p := e; have := HG.out; omega)
  have M6 : Mid w N p g g3 w6.heap.size lg pg en gn (.slice none 0 0) 0 [] s4 w6 :=
    { rd := H5.out.below hB6, cf := by rw [hg3]; exact hC6, zz := hZ5.under hB6, ow := World.ownsRow_nil _ _ _ _,
      fr := (Fr.ofBelow _ HB1.out).trans ((F5.out).trans (Fr.ofBelow _ hB6)), pN := by obtain ⟨_, _, _, _, _, _, _, _, hp, _⟩ := H5.out; exact hp, Nw := hN, wg := by rw [HG.out]; exact Nat.le_refl _,
      wg3 := by rw [hg3]; exact Nat.le_trans HB1.out.size F5.out.size, ne := by have := hZ5.lt; omega, gB := Nat.lt_of_lt_of_le hZ5.lt hB6.size, g3B := by rw [hg3]; exact hC6.lt, BW := Nat.le_refl _ }
  obtain ⟨B, hB⟩ : ∃ B, B = w6.heap.size := ⟨_, rfl⟩
  rw [← hB] at M6
  rw [← hw6, ← hg3]
  have K6 := Lib.hid M6
  clear M6 hB hw6 hg3 hZ5 hC6 hB6 H1 H2 H3 H4 H5 F2 F3 F4 F5
  have cN := RNum_any K6.out.rd 1 (.inl rfl)
  rw [e5] at cN
  refine cN.mono ?_
  clear cN
  rintro e w7 ⟨rfl, hr7, hf7⟩
  have K7 := Lib.hid (K6.out.step hr7 hf7)
  clear hr7 hf7 K6 e1 e2 e3 e4 e5
  go_wp2_with fail
  go_loopw [15] (fun i wr => ∃ j : Nat, j ≤ m ∧ i = .int .i64 j ∧ ∃ v, Mid w N p g g3 B lg pg en gn v j (rdKs j s5).1 (rdKs j s5).2 wr) (fun i _ => m - (intOf i).toNat)
  case atStart => exact ⟨0, Nat.zero_le _, rfl, _, K7.out⟩
  case round =>
    obtain ⟨j, hj, rfl, v, hM⟩ := hrel
    have K := Lib.hid hM
    obtain ⟨A', c', rfl⟩ := own_slK hM.ow
    by_cases hjm : j < m
    · clear hM
      obtain ⟨t, t1, eT⟩ : ∃ a b, rdText (rdKs j s5).2 = (a, b) := ⟨_, _, rfl⟩
      obtain ⟨z, t2, eN⟩ : ∃ a b, rdNum 1 t1 = (a, b) := ⟨_, _, rfl⟩
      have eJ : rdKs (j + 1) s5 = ((rdKs j s5).1 ++ [(t, z)], t2) := by simp only [rdKs, eT, eN]
      have K0 := Lib.hid (K.out.below ((Below.refl _ _).drew))
      have cT := RText_any K0.out.rd
      rw [eT] at cT
      have cN : ∀ W, RdrIs N W p t1 → Calls Try.prog 45 #[.pointer (some ⟨p, 0, none⟩), .int .i64 1] W fun e w' => e = .returned (.int .i64 z) ∧ RdrIs N w' p t2 ∧ Fr (· = p) W w' := fun W hW => by
        have c := RNum_any hW 1 (.inl rfl)
        rw [eN] at c
        exact c
      have CT := Lib.hid cT
      have CN := Lib.hid cN
      have EJ := Lib.hid eJ
      clear cT cN eJ eT eN K
      go_wp2_with fail
      -- REGION
      refine wp_region_held_drew (S := fun _ => True) (by kernel_rfl) trivial (fun hHeld => ?_)
      refine wpAnyH_take (i := 0) (oi := { dst := some 17, op := Op.fieldAddr 24 (Operand.tmp 3) 4, type := 0, pos := "comp.go:116", after := #[], guard := none }) (v := ?_) rfl (by kernel_rfl) (by kernel_rfl) (by kernel_rfl) (fun _ _ _ h => h) (Or.inl ⟨by rfl, ?_⟩) (by assumption) ?_
      rotate_left 1
      · intro w' hSw; (try dsimp only at hSw); go_simp; (try with_reducible rfl)
      simp only [Act.put, List.setIfInBounds_toArray, List.set_cons_zero, List.set_cons_succ]
      refine wpAnyH_take (i := 2) (oi := { dst := some 19, op := Op.move (Operand.tmp 0), type := 58, pos := "comp.go:116", after := #[], guard := none }) (v := ?_) rfl (by kernel_rfl) (by kernel_rfl) (by kernel_rfl) (fun _ _ _ h => h) (Or.inl ⟨by rfl, ?_⟩) (by assumption) ?_
      rotate_left 1
      · intro w' hSw; (try dsimp only at hSw); go_simp; (try with_reducible rfl)
      simp only [Act.put, List.setIfInBounds_toArray, List.set_cons_zero, List.set_cons_succ]
      refine wpAnyH_take (i := 4) (oi := { dst := some 21, op := Op.move (Operand.tmp 0), type := 58, pos := "comp.go:116", after := #[], guard := none }) (v := ?_) rfl (by kernel_rfl) (by kernel_rfl) (by kernel_rfl) (fun _ _ _ h => h) (Or.inl ⟨by rfl, ?_⟩) (by assumption) ?_
      rotate_left 1
      · intro w' hSw; (try dsimp only at hSw); go_simp; (try with_reducible rfl)
      simp only [Act.put, List.setIfInBounds_toArray, List.set_cons_zero, List.set_cons_succ]
      refine wpAnyH_ready (rs := [1, 3]) (by kernel_rfl) (by simp) ?_
      refine AllReadyH.cons (o := { dst := some 18, op := Op.load 22 (Operand.tmp 17), type := 22, pos := "comp.go:116", after := #[{ on := 0, ground := Ground.data }], guard := none }) rfl (fun K' hK => ?_) (AllReadyH.cons (o := { dst := some 20, op := Op.call { callee := Callee.value (Operand.func 46), args := #[Operand.tmp 19], argTypes := #[58] }, type := 9, pos := "comp.go:116", after := #[{ on := 2, ground := Ground.data }], guard := none }) rfl (fun K' hK => ?_) AllReadyH.nil)
      · have q4 : wr.drew.cell? ⟨g3, 4, none⟩ = some (.slice A' j c') := K0.out.cf.at_ 4
        go_simp
        clear q4
        refine hK.out _ _ trivial (fun hHeld => ?_)
        clear hK K'
        try simp only [Act.put, List.setIfInBounds_toArray, List.set_cons_zero, List.set_cons_succ]
        refine wpAnyH_ready (rs := [3]) (by kernel_rfl) (by simp) ?_
        refine AllReadyH.cons (o := { dst := some 20, op := Op.call { callee := Callee.value (Operand.func 46), args := #[Operand.tmp 19], argTypes := #[58] }, type := 9, pos := "comp.go:116", after := #[{ on := 2, ground := Ground.data }], guard := none }) rfl (fun K' hK => ?_) AllReadyH.nil
        go_simp
        go_at_call 46; refine CT.out.mono ?_; rintro e xT ⟨rfl, hr, hf⟩
        have KT := Lib.hid (K0.out.step hr hf)
        clear hr hf
        refine hK.out _ _ trivial (fun hHeld => ?_)
        clear hK K'
        try simp only [Act.put, List.setIfInBounds_toArray, List.set_cons_zero, List.set_cons_succ]
        refine wpAnyH_ready (rs := [5]) (by kernel_rfl) (by simp) ?_
        refine AllReadyH.cons (o := { dst := some 22, op := Op.call { callee := Callee.value (Operand.func 45), args := #[Operand.tmp 21, Operand.const (Value.int IntKind.i64 1)], argTypes := #[58, 3] }, type := 3, pos := "comp.go:116", after := #[{ on := 4, ground := Ground.data }, { on := 3, ground := Ground.chain }], guard := none }) rfl (fun K' hK => ?_) AllReadyH.nil
        go_simp
        go_at_call 45; refine (CN.out xT KT.out.rd).mono ?_; rintro e xN ⟨rfl, hr, hf⟩
        have KN := Lib.hid (KT.out.step hr hf)
        clear hr hf
        refine hK.out _ _ trivial (fun hHeld => ?_)
        clear hK K'
        try simp only [Act.put, List.setIfInBounds_toArray, List.set_cons_zero, List.set_cons_succ]
        refine wpAnyH_take (i := 6) (oi := { dst := some 23, op := Op.build 50 #[(0, Operand.tmp 20), (1, Operand.tmp 22)], type := 50, pos := "comp.go:116", after := #[{ on := 3, ground := Ground.data }, { on := 5, ground := Ground.data }], guard := none }) (v := ?_) rfl (by kernel_rfl) (by kernel_rfl) (by kernel_rfl) (fun _ _ _ h => h) (Or.inl ⟨by rfl, ?_⟩) (by assumption) ?_
        rotate_left 1
        · intro w' hSw; (try dsimp only at hSw); go_simp; (try with_reducible rfl)
        simp only [Act.put, List.setIfInBounds_toArray, List.set_cons_zero, List.set_cons_succ]
        refine wpAnyH_ready (rs := [7]) (by kernel_rfl) (by simp) ?_
        refine AllReadyH.cons (o := { dst := some 24, op := Op.buildSlice 22 1 #[(0, Operand.tmp 23)], type := 22, pos := "comp.go:116", after := #[{ on := 6, ground := Ground.data }], guard := none }) rfl (fun K' hK => ?_) AllReadyH.nil
        go_simp
        obtain ⟨xB, hxB⟩ : ∃ x, x = xN.alloc (.cells #[.string t, .int .i64 z] 50) := ⟨_, rfl⟩
        have hbB : Below xN.heap.size xN xB := by rw [hxB]; exact (Below.refl _ _).alloc (Nat.le_refl _) _
        have KB := Lib.hid (KN.out.below hbB)
        have HC : Hid (∀ i u, [Value.string t, .int .i64 z][i]? = some u → xB.cell? ((⟨xN.heap.size, 0, none⟩ : Addr).add i) = some u) := Lib.hid (by rw [hxB]; exact two_new xN t z)
        rw [← hxB]
        clear hxB hbB
        refine hK.out _ _ trivial (fun hHeld => ?_)
        clear hK K'
        try simp only [Act.put, List.setIfInBounds_toArray, List.set_cons_zero, List.set_cons_succ]
        refine wpAnyH_ready (rs := [8]) (by kernel_rfl) (by simp) ?_
        refine AllReadyH.cons (o := { dst := some 25, op := Op.call { callee := Callee.builtin Builtin.append, args := #[Operand.tmp 18, Operand.tmp 24], argTypes := #[22, 22] }, type := 22, pos := "comp.go:116", after := #[{ on := 1, ground := Ground.data }, { on := 7, ground := Ground.data }, { on := 5, ground := Ground.chain }], guard := none }) rfl (fun K' hK => ?_) AllReadyH.nil
        refine step_appV compsT rfl (.tmp 18) (.tmp 24) rfl B (.slice A' j c') j (kcells (rdKs j s5).1) rfl KB.out.ow ⟨xN.heap.size, 0, none⟩ 1 1 [.string t, .int .i64 z] rfl rfl HC.out (by intro u hu; simp at hu; rcases hu with rfl | rfl <;> rfl) (by omega) (by decide) KB.out.BW ?_
        intro vA xA hoA hgA _
        obtain ⟨AA, cA, rfl⟩ := own_slK hoA
        have hMA := KB.out.more (k := (t, z)) hoA hgA
        have kA := hMA.1.at_ 4
        have fA := hMA.1.fz 4
        have KA := Lib.hid hMA.2
        clear hoA hgA hMA
        refine hK.out _ _ trivial (fun hHeld => ?_)
        clear hK K'
        try simp only [Act.put, List.setIfInBounds_toArray, List.set_cons_zero, List.set_cons_succ]
        refine wpAnyH_take (i := 9) (oi := { dst := some 26, op := Op.fieldAddr 24 (Operand.tmp 3) 4, type := 0, pos := "comp.go:116", after := #[{ on := 0, ground := Ground.phase }, { on := 1, ground := Ground.phase }, { on := 2, ground := Ground.phase }, { on := 3, ground := Ground.phase }, { on := 4, ground := Ground.phase }, { on := 5, ground := Ground.phase }, { on := 6, ground := Ground.phase }, { on := 7, ground := Ground.phase }, { on := 8, ground := Ground.phase }], guard := none }) (v := ?_) rfl (by kernel_rfl) (by kernel_rfl) (by kernel_rfl) (fun _ _ _ h => h) (Or.inl ⟨by rfl, ?_⟩) (by assumption) ?_
        rotate_left 1
        · intro w' hSw; (try dsimp only at hSw); go_simp; (try with_reducible rfl)
        simp only [Act.put, List.setIfInBounds_toArray, List.set_cons_zero, List.set_cons_succ]
        refine wpAnyH_ready (rs := [10]) (by kernel_rfl) (by simp) ?_
        refine AllReadyH.cons (o := { dst := none, op := Op.store 22 (Operand.tmp 26) (Operand.tmp 25), type := 0, pos := "comp.go:116", after := #[{ on := 9, ground := Ground.data }, { on := 8, ground := Ground.data }, { on := 8, ground := Ground.chain }, { on := 0, ground := Ground.phase }, { on := 1, ground := Ground.phase }, { on := 2, ground := Ground.phase }, { on := 3, ground := Ground.phase }, { on := 4, ground := Ground.phase }, { on := 5, ground := Ground.phase }, { on := 6, ground := Ground.phase }, { on := 7, ground := Ground.phase }, { on := 8, ground := Ground.phase }], guard := none }) rfl (fun K' hK => ?_) AllReadyH.nil
        go_simp
        refine hK.out _ _ trivial (fun hHeld => ?_)
        clear hK K'
        try simp only [Act.put, List.setIfInBounds_toArray, List.set_cons_zero, List.set_cons_succ]
        refine wpAnyH_done (by kernel_rfl) ?_ _
        obtain ⟨x9, hx9⟩ : ∃ x, x = xA.setCell ⟨g3, 4, none⟩ (.slice AA (j + 1) cA) := ⟨_, rfl⟩
        rw [← hx9] at KA ⊢
        clear kA fA hx9
        go_wp2
        go_roundw
        case rel => exact ⟨j + 1, hjm, by go_num, _, by rw [EJ.out]; exact KA.out⟩
        case measure => simp [intOf]; omega
      · go_simp
        go_at_call 46; refine CT.out.mono ?_; rintro e xT ⟨rfl, hr, hf⟩
        have KT := Lib.hid (K0.out.step hr hf)
        clear hr hf
        refine hK.out _ _ trivial (fun hHeld => ?_)
        clear hK K'
        try simp only [Act.put, List.setIfInBounds_toArray, List.set_cons_zero, List.set_cons_succ]
        refine wpAnyH_ready (rs := [1, 5]) (by kernel_rfl) (by simp) ?_
        refine AllReadyH.cons (o := { dst := some 18, op := Op.load 22 (Operand.tmp 17), type := 22, pos := "comp.go:116", after := #[{ on := 0, ground := Ground.data }], guard := none }) rfl (fun K' hK => ?_) (AllReadyH.cons (o := { dst := some 22, op := Op.call { callee := Callee.value (Operand.func 45), args := #[Operand.tmp 21, Operand.const (Value.int IntKind.i64 1)], argTypes := #[58, 3] }, type := 3, pos := "comp.go:116", after := #[{ on := 4, ground := Ground.data }, { on := 3, ground := Ground.chain }], guard := none }) rfl (fun K' hK => ?_) AllReadyH.nil)
        · have q4 : xT.cell? ⟨g3, 4, none⟩ = some (.slice A' j c') := KT.out.cf.at_ 4
          go_simp
          clear q4
          refine hK.out _ _ trivial (fun hHeld => ?_)
          clear hK K'
          try simp only [Act.put, List.setIfInBounds_toArray, List.set_cons_zero, List.set_cons_succ]
          refine wpAnyH_ready (rs := [5]) (by kernel_rfl) (by simp) ?_
          refine AllReadyH.cons (o := { dst := some 22, op := Op.call { callee := Callee.value (Operand.func 45), args := #[Operand.tmp 21, Operand.const (Value.int IntKind.i64 1)], argTypes := #[58, 3] }, type := 3, pos := "comp.go:116", after := #[{ on := 4, ground := Ground.data }, { on := 3, ground := Ground.chain }], guard := none }) rfl (fun K' hK => ?_) AllReadyH.nil
          go_simp
          go_at_call 45; refine (CN.out xT KT.out.rd).mono ?_; rintro e xN ⟨rfl, hr, hf⟩
          have KN := Lib.hid (KT.out.step hr hf)
          clear hr hf
          refine hK.out _ _ trivial (fun hHeld => ?_)
          clear hK K'
          try simp only [Act.put, List.setIfInBounds_toArray, List.set_cons_zero, List.set_cons_succ]
          refine wpAnyH_take (i := 6) (oi := { dst := some 23, op := Op.build 50 #[(0, Operand.tmp 20), (1, Operand.tmp 22)], type := 50, pos := "comp.go:116", after := #[{ on := 3, ground := Ground.data }, { on := 5, ground := Ground.data }], guard := none }) (v := ?_) rfl (by kernel_rfl) (by kernel_rfl) (by kernel_rfl) (fun _ _ _ h => h) (Or.inl ⟨by rfl, ?_⟩) (by assumption) ?_
          rotate_left 1
          · intro w' hSw; (try dsimp only at hSw); go_simp; (try with_reducible rfl)
          simp only [Act.put, List.setIfInBounds_toArray, List.set_cons_zero, List.set_cons_succ]
          refine wpAnyH_ready (rs := [7]) (by kernel_rfl) (by simp) ?_
          refine AllReadyH.cons (o := { dst := some 24, op := Op.buildSlice 22 1 #[(0, Operand.tmp 23)], type := 22, pos := "comp.go:116", after := #[{ on := 6, ground := Ground.data }], guard := none }) rfl (fun K' hK => ?_) AllReadyH.nil
          go_simp
          obtain ⟨xB, hxB⟩ : ∃ x, x = xN.alloc (.cells #[.string t, .int .i64 z] 50) := ⟨_, rfl⟩
          have hbB : Below xN.heap.size xN xB := by rw [hxB]; exact (Below.refl _ _).alloc (Nat.le_refl _) _
          have KB := Lib.hid (KN.out.below hbB)
          have HC : Hid (∀ i u, [Value.string t, .int .i64 z][i]? = some u → xB.cell? ((⟨xN.heap.size, 0, none⟩ : Addr).add i) = some u) := Lib.hid (by rw [hxB]; exact two_new xN t z)
          rw [← hxB]
          clear hxB hbB
          refine hK.out _ _ trivial (fun hHeld => ?_)
          clear hK K'
          try simp only [Act.put, List.setIfInBounds_toArray, List.set_cons_zero, List.set_cons_succ]
          refine wpAnyH_ready (rs := [8]) (by kernel_rfl) (by simp) ?_
          refine AllReadyH.cons (o := { dst := some 25, op := Op.call { callee := Callee.builtin Builtin.append, args := #[Operand.tmp 18, Operand.tmp 24], argTypes := #[22, 22] }, type := 22, pos := "comp.go:116", after := #[{ on := 1, ground := Ground.data }, { on := 7, ground := Ground.data }, { on := 5, ground := Ground.chain }], guard := none }) rfl (fun K' hK => ?_) AllReadyH.nil
          refine step_appV compsT rfl (.tmp 18) (.tmp 24) rfl B (.slice A' j c') j (kcells (rdKs j s5).1) rfl KB.out.ow ⟨xN.heap.size, 0, none⟩ 1 1 [.string t, .int .i64 z] rfl rfl HC.out (by intro u hu; simp at hu; rcases hu with rfl | rfl <;> rfl) (by omega) (by decide) KB.out.BW ?_
          intro vA xA hoA hgA _
          obtain ⟨AA, cA, rfl⟩ := own_slK hoA
          have hMA := KB.out.more (k := (t, z)) hoA hgA
          have kA := hMA.1.at_ 4
          have fA := hMA.1.fz 4
          have KA := Lib.hid hMA.2
          clear hoA hgA hMA
          refine hK.out _ _ trivial (fun hHeld => ?_)
          clear hK K'
          try simp only [Act.put, List.setIfInBounds_toArray, List.set_cons_zero, List.set_cons_succ]
          refine wpAnyH_take (i := 9) (oi := { dst := some 26, op := Op.fieldAddr 24 (Operand.tmp 3) 4, type := 0, pos := "comp.go:116", after := #[{ on := 0, ground := Ground.phase }, { on := 1, ground := Ground.phase }, { on := 2, ground := Ground.phase }, { on := 3, ground := Ground.phase }, { on := 4, ground := Ground.phase }, { on := 5, ground := Ground.phase }, { on := 6, ground := Ground.phase }, { on := 7, ground := Ground.phase }, { on := 8, ground := Ground.phase }], guard := none }) (v := ?_) rfl (by kernel_rfl) (by kernel_rfl) (by kernel_rfl) (fun _ _ _ h => h) (Or.inl ⟨by rfl, ?_⟩) (by assumption) ?_
          rotate_left 1
          · intro w' hSw; (try dsimp only at hSw); go_simp; (try with_reducible rfl)
          simp only [Act.put, List.setIfInBounds_toArray, List.set_cons_zero, List.set_cons_succ]
          refine wpAnyH_ready (rs := [10]) (by kernel_rfl) (by simp) ?_
          refine AllReadyH.cons (o := { dst := none, op := Op.store 22 (Operand.tmp 26) (Operand.tmp 25), type := 0, pos := "comp.go:116", after := #[{ on := 9, ground := Ground.data }, { on := 8, ground := Ground.data }, { on := 8, ground := Ground.chain }, { on := 0, ground := Ground.phase }, { on := 1, ground := Ground.phase }, { on := 2, ground := Ground.phase }, { on := 3, ground := Ground.phase }, { on := 4, ground := Ground.phase }, { on := 5, ground := Ground.phase }, { on := 6, ground := Ground.phase }, { on := 7, ground := Ground.phase }, { on := 8, ground := Ground.phase }], guard := none }) rfl (fun K' hK => ?_) AllReadyH.nil
          go_simp
          refine hK.out _ _ trivial (fun hHeld => ?_)
          clear hK K'
          try simp only [Act.put, List.setIfInBounds_toArray, List.set_cons_zero, List.set_cons_succ]
          refine wpAnyH_done (by kernel_rfl) ?_ _
          obtain ⟨x9, hx9⟩ : ∃ x, x = xA.setCell ⟨g3, 4, none⟩ (.slice AA (j + 1) cA) := ⟨_, rfl⟩
          rw [← hx9] at KA ⊢
          clear kA fA hx9
          go_wp2
          go_roundw
          case rel => exact ⟨j + 1, hjm, by go_num, _, by rw [EJ.out]; exact KA.out⟩
          case measure => simp [intOf]; omega
        · go_simp
          go_at_call 45; refine (CN.out xT KT.out.rd).mono ?_; rintro e xN ⟨rfl, hr, hf⟩
          have KN := Lib.hid (KT.out.step hr hf)
          clear hr hf
          refine hK.out _ _ trivial (fun hHeld => ?_)
          clear hK K'
          try simp only [Act.put, List.setIfInBounds_toArray, List.set_cons_zero, List.set_cons_succ]
          refine wpAnyH_take (i := 6) (oi := { dst := some 23, op := Op.build 50 #[(0, Operand.tmp 20), (1, Operand.tmp 22)], type := 50, pos := "comp.go:116", after := #[{ on := 3, ground := Ground.data }, { on := 5, ground := Ground.data }], guard := none }) (v := ?_) rfl (by kernel_rfl) (by kernel_rfl) (by kernel_rfl) (fun _ _ _ h => h) (Or.inl ⟨by rfl, ?_⟩) (by assumption) ?_
          rotate_left 1
          · intro w' hSw; (try dsimp only at hSw); go_simp; (try with_reducible rfl)
          simp only [Act.put, List.setIfInBounds_toArray, List.set_cons_zero, List.set_cons_succ]
          refine wpAnyH_ready (rs := [1, 7]) (by kernel_rfl) (by simp) ?_
          refine AllReadyH.cons (o := { dst := some 18, op := Op.load 22 (Operand.tmp 17), type := 22, pos := "comp.go:116", after := #[{ on := 0, ground := Ground.data }], guard := none }) rfl (fun K' hK => ?_) (AllReadyH.cons (o := { dst := some 24, op := Op.buildSlice 22 1 #[(0, Operand.tmp 23)], type := 22, pos := "comp.go:116", after := #[{ on := 6, ground := Ground.data }], guard := none }) rfl (fun K' hK => ?_) AllReadyH.nil)
          · have q4 : xN.cell? ⟨g3, 4, none⟩ = some (.slice A' j c') := KN.out.cf.at_ 4
            go_simp
            clear q4
            refine hK.out _ _ trivial (fun hHeld => ?_)
            clear hK K'
            try simp only [Act.put, List.setIfInBounds_toArray, List.set_cons_zero, List.set_cons_succ]
            refine wpAnyH_ready (rs := [7]) (by kernel_rfl) (by simp) ?_
            refine AllReadyH.cons (o := { dst := some 24, op := Op.buildSlice 22 1 #[(0, Operand.tmp 23)], type := 22, pos := "comp.go:116", after := #[{ on := 6, ground := Ground.data }], guard := none }) rfl (fun K' hK => ?_) AllReadyH.nil
            go_simp
            obtain ⟨xB, hxB⟩ : ∃ x, x = xN.alloc (.cells #[.string t, .int .i64 z] 50) := ⟨_, rfl⟩
            have hbB : Below xN.heap.size xN xB := by rw [hxB]; exact (Below.refl _ _).alloc (Nat.le_refl _) _
            have KB := Lib.hid (KN.out.below hbB)
            have HC : Hid (∀ i u, [Value.string t, .int .i64 z][i]? = some u → xB.cell? ((⟨xN.heap.size, 0, none⟩ : Addr).add i) = some u) := Lib.hid (by rw [hxB]; exact two_new xN t z)
            rw [← hxB]
            clear hxB hbB
            refine hK.out _ _ trivial (fun hHeld => ?_)
            clear hK K'
            try simp only [Act.put, List.setIfInBounds_toArray, List.set_cons_zero, List.set_cons_succ]
            refine wpAnyH_ready (rs := [8]) (by kernel_rfl) (by simp) ?_
            refine AllReadyH.cons (o := { dst := some 25, op := Op.call { callee := Callee.builtin Builtin.append, args := #[Operand.tmp 18, Operand.tmp 24], argTypes := #[22, 22] }, type := 22, pos := "comp.go:116", after := #[{ on := 1, ground := Ground.data }, { on := 7, ground := Ground.data }, { on := 5, ground := Ground.chain }], guard := none }) rfl (fun K' hK => ?_) AllReadyH.nil
            refine step_appV compsT rfl (.tmp 18) (.tmp 24) rfl B (.slice A' j c') j (kcells (rdKs j s5).1) rfl KB.out.ow ⟨xN.heap.size, 0, none⟩ 1 1 [.string t, .int .i64 z] rfl rfl HC.out (by intro u hu; simp at hu; rcases hu with rfl | rfl <;> rfl) (by omega) (by decide) KB.out.BW ?_
            intro vA xA hoA hgA _
            obtain ⟨AA, cA, rfl⟩ := own_slK hoA
            have hMA := KB.out.more (k := (t, z)) hoA hgA
            have kA := hMA.1.at_ 4
            have fA := hMA.1.fz 4
            have KA := Lib.hid hMA.2
            clear hoA hgA hMA
            refine hK.out _ _ trivial (fun hHeld => ?_)
            clear hK K'
            try simp only [Act.put, List.setIfInBounds_toArray, List.set_cons_zero, List.set_cons_succ]
            refine wpAnyH_take (i := 9) (oi := { dst := some 26, op := Op.fieldAddr 24 (Operand.tmp 3) 4, type := 0, pos := "comp.go:116", after := #[{ on := 0, ground := Ground.phase }, { on := 1, ground := Ground.phase }, { on := 2, ground := Ground.phase }, { on := 3, ground := Ground.phase }, { on := 4, ground := Ground.phase }, { on := 5, ground := Ground.phase }, { on := 6, ground := Ground.phase }, { on := 7, ground := Ground.phase }, { on := 8, ground := Ground.phase }], guard := none }) (v := ?_) rfl (by kernel_rfl) (by kernel_rfl) (by kernel_rfl) (fun _ _ _ h => h) (Or.inl ⟨by rfl, ?_⟩) (by assumption) ?_
            rotate_left 1
            · intro w' hSw; (try dsimp only at hSw); go_simp; (try with_reducible rfl)
            simp only [Act.put, List.setIfInBounds_toArray, List.set_cons_zero, List.set_cons_succ]
            refine wpAnyH_ready (rs := [10]) (by kernel_rfl) (by simp) ?_
            refine AllReadyH.cons (o := { dst := none, op := Op.store 22 (Operand.tmp 26) (Operand.tmp 25), type := 0, pos := "comp.go:116", after := #[{ on := 9, ground := Ground.data }, { on := 8, ground := Ground.data }, { on := 8, ground := Ground.chain }, { on := 0, ground := Ground.phase }, { on := 1, ground := Ground.phase }, { on := 2, ground := Ground.phase }, { on := 3, ground := Ground.phase }, { on := 4, ground := Ground.phase }, { on := 5, ground := Ground.phase }, { on := 6, ground := Ground.phase }, { on := 7, ground := Ground.phase }, { on := 8, ground := Ground.phase }], guard := none }) rfl (fun K' hK => ?_) AllReadyH.nil
            go_simp
            refine hK.out _ _ trivial (fun hHeld => ?_)
            clear hK K'
            try simp only [Act.put, List.setIfInBounds_toArray, List.set_cons_zero, List.set_cons_succ]
            refine wpAnyH_done (by kernel_rfl) ?_ _
            obtain ⟨x9, hx9⟩ : ∃ x, x = xA.setCell ⟨g3, 4, none⟩ (.slice AA (j + 1) cA) := ⟨_, rfl⟩
            rw [← hx9] at KA ⊢
            clear kA fA hx9
            go_wp2
            go_roundw
            case rel => exact ⟨j + 1, hjm, by go_num, _, by rw [EJ.out]; exact KA.out⟩
            case measure => simp [intOf]; omega
          · go_simp
            obtain ⟨xB, hxB⟩ : ∃ x, x = xN.alloc (.cells #[.string t, .int .i64 z] 50) := ⟨_, rfl⟩
            have hbB : Below xN.heap.size xN xB := by rw [hxB]; exact (Below.refl _ _).alloc (Nat.le_refl _) _
            have KB := Lib.hid (KN.out.below hbB)
            have HC : Hid (∀ i u, [Value.string t, .int .i64 z][i]? = some u → xB.cell? ((⟨xN.heap.size, 0, none⟩ : Addr).add i) = some u) := Lib.hid (by rw [hxB]; exact two_new xN t z)
            rw [← hxB]
            clear hxB hbB
            refine hK.out _ _ trivial (fun hHeld => ?_)
            clear hK K'
            try simp only [Act.put, List.setIfInBounds_toArray, List.set_cons_zero, List.set_cons_succ]
            refine wpAnyH_ready (rs := [1]) (by kernel_rfl) (by simp) ?_
            refine AllReadyH.cons (o := { dst := some 18, op := Op.load 22 (Operand.tmp 17), type := 22, pos := "comp.go:116", after := #[{ on := 0, ground := Ground.data }], guard := none }) rfl (fun K' hK => ?_) AllReadyH.nil
            have q4 : xB.cell? ⟨g3, 4, none⟩ = some (.slice A' j c') := KB.out.cf.at_ 4
            go_simp
            clear q4
            refine hK.out _ _ trivial (fun hHeld => ?_)
            clear hK K'
            try simp only [Act.put, List.setIfInBounds_toArray, List.set_cons_zero, List.set_cons_succ]
            refine wpAnyH_ready (rs := [8]) (by kernel_rfl) (by simp) ?_
            refine AllReadyH.cons (o := { dst := some 25, op := Op.call { callee := Callee.builtin Builtin.append, args := #[Operand.tmp 18, Operand.tmp 24], argTypes := #[22, 22] }, type := 22, pos := "comp.go:116", after := #[{ on := 1, ground := Ground.data }, { on := 7, ground := Ground.data }, { on := 5, ground := Ground.chain }], guard := none }) rfl (fun K' hK => ?_) AllReadyH.nil
            refine step_appV compsT rfl (.tmp 18) (.tmp 24) rfl B (.slice A' j c') j (kcells (rdKs j s5).1) rfl KB.out.ow ⟨xN.heap.size, 0, none⟩ 1 1 [.string t, .int .i64 z] rfl rfl HC.out (by intro u hu; simp at hu; rcases hu with rfl | rfl <;> rfl) (by omega) (by decide) KB.out.BW ?_
            intro vA xA hoA hgA _
            obtain ⟨AA, cA, rfl⟩ := own_slK hoA
            have hMA := KB.out.more (k := (t, z)) hoA hgA
            have kA := hMA.1.at_ 4
            have fA := hMA.1.fz 4
            have KA := Lib.hid hMA.2
            clear hoA hgA hMA
            refine hK.out _ _ trivial (fun hHeld => ?_)
            clear hK K'
            try simp only [Act.put, List.setIfInBounds_toArray, List.set_cons_zero, List.set_cons_succ]
            refine wpAnyH_take (i := 9) (oi := { dst := some 26, op := Op.fieldAddr 24 (Operand.tmp 3) 4, type := 0, pos := "comp.go:116", after := #[{ on := 0, ground := Ground.phase }, { on := 1, ground := Ground.phase }, { on := 2, ground := Ground.phase }, { on := 3, ground := Ground.phase }, { on := 4, ground := Ground.phase }, { on := 5, ground := Ground.phase }, { on := 6, ground := Ground.phase }, { on := 7, ground := Ground.phase }, { on := 8, ground := Ground.phase }], guard := none }) (v := ?_) rfl (by kernel_rfl) (by kernel_rfl) (by kernel_rfl) (fun _ _ _ h => h) (Or.inl ⟨by rfl, ?_⟩) (by assumption) ?_
            rotate_left 1
            · intro w' hSw; (try dsimp only at hSw); go_simp; (try with_reducible rfl)
            simp only [Act.put, List.setIfInBounds_toArray, List.set_cons_zero, List.set_cons_succ]
            refine wpAnyH_ready (rs := [10]) (by kernel_rfl) (by simp) ?_
            refine AllReadyH.cons (o := { dst := none, op := Op.store 22 (Operand.tmp 26) (Operand.tmp 25), type := 0, pos := "comp.go:116", after := #[{ on := 9, ground := Ground.data }, { on := 8, ground := Ground.data }, { on := 8, ground := Ground.chain }, { on := 0, ground := Ground.phase }, { on := 1, ground := Ground.phase }, { on := 2, ground := Ground.phase }, { on := 3, ground := Ground.phase }, { on := 4, ground := Ground.phase }, { on := 5, ground := Ground.phase }, { on := 6, ground := Ground.phase }, { on := 7, ground := Ground.phase }, { on := 8, ground := Ground.phase }], guard := none }) rfl (fun K' hK => ?_) AllReadyH.nil
            go_simp
            refine hK.out _ _ trivial (fun hHeld => ?_)
            clear hK K'
            try simp only [Act.put, List.setIfInBounds_toArray, List.set_cons_zero, List.set_cons_succ]
            refine wpAnyH_done (by kernel_rfl) ?_ _
            obtain ⟨x9, hx9⟩ : ∃ x, x = xA.setCell ⟨g3, 4, none⟩ (.slice AA (j + 1) cA) := ⟨_, rfl⟩
            rw [← hx9] at KA ⊢
            clear kA fA hx9
            go_wp2
            go_roundw
            case rel => exact ⟨j + 1, hjm, by go_num, _, by rw [EJ.out]; exact KA.out⟩
            case measure => simp [intOf]; omega
      -- END
    · have hjz : ¬ (j : Int) < (m : Int) := by omega
      obtain rfl : j = m := by omega
      clear hM
      go_wp2_with (first
        | (with_reducible refine wpList_ldC (lg := lg) (pg := pg) (en := en) (gn := gn) (A := A') (n := j) (cap := c') rfl (.tmp 3) rfl rfl K.out.cf ?_)
        | (with_reducible refine wpList_stC (lg := 0) (pg := 0) (en := 0) (gn := 0) (A := none) (n := 0) (cap := 0) (lg' := lg) (pg' := pg) (en' := en) (gn' := gn) (A' := A') (n' := j) (cap' := c') rfl (.tmp 2) (.tmp 28) rfl rfl rfl K.out.zz ?_; intro wz hRz hFz))
      refine bodyPost_ret (res_c rfl rfl (hRz.load confT rfl)) rfl ?_
      have hoz := own_fr K.out.ow hFz (fun x hx e => by have : x = g := e; have := (K.out.ow.lt x hx).1; have := K.out.gB; omega)
      obtain ⟨A2, c2, e2, hk2, hc2, _⟩ := KRd.of_own hoz
      cases e2
      have hBg : Below g wr wz := hFz.toBelow (fun x hx => by have : x = g := hx; omega) (Nat.le_of_lt K.out.zz.lt)
      exact ⟨A', j, c', rfl, hk2, hc2, hm2, K.out.rd.stay (Nat.le_trans K.out.Nw K.out.wg) hBg, K.out.fr.trans' hFz (fun x hx => .inr (by have : x = g := hx; have := K.out.wg; omega))⟩
end Go.Proofs.Ytdaenkfkiijlkaa
