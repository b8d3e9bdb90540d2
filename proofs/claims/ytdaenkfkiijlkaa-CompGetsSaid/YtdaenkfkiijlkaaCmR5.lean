/- The contract of the reference's Get: its first half. -/
import Derived.Test.YtdaenkfkiijlkaaCmP
import Derived.Test.YtdaenkfkiijlkaaAppI
import Derived.Test.YtdaenkfkiijlkaaCm6
import Derived.Test.YtdaenkfkiijlkaaBitsO
import Derived.Deep.RegionHeld3
namespace Go.Proofs.Ytdaenkfkiijlkaa
open Go.RowKit
set_option linter.unusedVariables false

/-- The first numbers of 4 bytes. -/
def numsL (l : List UInt8) (j : Nat) : List Int := (List.range j).map fun i => getV ((l.drop (4 * i)).take 4)
theorem numsL_succ (l : List UInt8) (j : Nat) : numsL l (j + 1) = numsL l j ++ [getV ((l.drop (4 * j)).take 4)] := by simp [numsL, List.range_succ]

section
variable {ops : Array Oper} {o : Oper} {a : Act} {w : World} {Q : Exit → Act → World → Prop} {J : Act → World → Prop} {E : Prop} {g : Nat} {lg pg en gn lg' pg' en' gn' : Int} {A A' : Option Addr} {n cap n' cap' : Nat}
theorem step_stC (hgd : o.guard = none) (x y : Operand) (ho : o.op = .store 24 x y)
    (hx : a.eval x = .pointer (some ⟨g, 0, none⟩)) (hy : a.eval y = cv lg' pg' en' gn' A' n' cap') (h : Rec 24 w g (cc lg pg en gn A n cap))
    (kk : ∀ w', Rec 24 w' g (cc lg' pg' en' gn' A' n' cap') → Fr (· = g) w w' → J (a.put o.dst undef) w') : if Region.wanted o (yielded ops a.tmps) = true then Oper.wp Try.prog o a w J Q else E :=
  step_stS confT rfl rfl (by simp [Value.oneCell']) hgd x y ho hx hy h kk
end
theorem conf_miss {l : List UInt8} {m q a : Nat} (hh : (rdConf (l, false)).2 = (rdKs m (l.drop 17, false)).2) (hst : (rdKs q (l.drop 17, false)).2 = (l.drop a, false)) (hq : q < m)
    (h : (l.drop a).length < 2 ∨ (l.drop a).length < lenT (l.drop a) + 3) : (rdConf (l, false)).2.2 = true := by
  obtain ⟨d, rfl⟩ : ∃ d, m = q + 1 + d := ⟨m - (q + 1), by omega⟩
  rw [hh]
  refine rdKs_more ?_ d
  show (rdNum 1 (rdText (rdKs q (l.drop 17, false)).2).2).2.2 = true
  rw [hst]
  exact rdK_miss h
/-- A byte as a number. -/
theorem byteV (b : List UInt8) (h : b.length = 1) : ∃ m : Nat, getV b = (m : Int) ∧ m ≤ 255 := by
  have h1 := leN_lt b
  rw [h] at h1
  exact ⟨leN b, getV_in _ (by omega), by omega⟩
theorem own_four {w : World} {B e : TypeId} {v : Value} {a b c d : Int} (h : w.ownsRow B e 1 v 4 ([a, b, c, d].map (Value.int .i64))) :
    ∃ g cap, v = .slice (some ⟨g, 0, none⟩) 4 cap ∧ g < w.heap.size ∧ (w.cell? ⟨g, 0, none⟩ = some (.int .i64 a) ∧ w.cell? ⟨g, 1, none⟩ = some (.int .i64 b) ∧ w.cell? ⟨g, 2, none⟩ = some (.int .i64 c) ∧ w.cell? ⟨g, 3, none⟩ = some (.int .i64 d)) ∧ 4 ≤ cap := by
  rcases h.2 with ⟨_, h0⟩ | ⟨g, cap, cur, rfl, _, hh, hn, _⟩
  · omega
  · have h0 := h.cells (g := g) rfl 0 (.int .i64 a) rfl
    have h1 := h.cells (g := g) rfl 1 (.int .i64 b) rfl
    have h2 := h.cells (g := g) rfl 2 (.int .i64 c) rfl
    have h3 := h.cells (g := g) rfl 3 (.int .i64 d) rfl
    rw [Addr.add_lit] at h0 h1 h2 h3
    exact ⟨g, cap, rfl, (Array.getElem?_eq_some_iff.1 hh).1, ⟨h0, h1, h2, h3⟩, hn⟩

/-- The state of the reference's reading in the midst: the layout at g3 (its components v), the answer's cell at g. -/
structure Mid2 (w0 : World) (g g3 B : Nat) (lg pg en gn : Int) (v : Value) (j : Nat) (ks : List Kd) (W : World) : Prop where
  cf : Rec 24 W g3 #[.int .i64 lg, .int .i64 pg, .int .i64 en, .int .i64 gn, v]
  zz : Rec 24 W g (cc 0 0 0 0 none 0 0)
  ow : W.ownsRow B 50 2 v j (kcells ks)
  bel : Below w0.heap.size w0 W
  wg : w0.heap.size ≤ g
  wg3 : w0.heap.size ≤ g3
  ne : g ≠ g3
  gB : g < B
  g3B : g3 < B
  BW : B ≤ W.heap.size
section
variable {w0 W W' : World} {g g3 B j : Nat} {lg pg en gn : Int} {v : Value} {ks : List Kd}
theorem Mid2.below (h : Mid2 w0 g g3 B lg pg en gn v j ks W) (hb : Below W.heap.size W W') : Mid2 w0 g g3 B lg pg en gn v j ks W' where
  cf := h.cf.under hb
  zz := h.zz.under hb
  ow := own_keep h.ow hb
  bel := h.bel.trans (hb.mono h.bel.size)
  wg := h.wg
  wg3 := h.wg3
  ne := h.ne
  gB := h.gB
  g3B := h.g3B
  BW := Nat.le_trans h.BW hb.size
theorem Mid2.more (h : Mid2 w0 g g3 B lg pg en gn v j ks W) {v' : Value} {k : Kd} (ho : W'.ownsRow B 50 2 v' (j + 1) (kcells ks ++ [.string k.1, .int .i64 k.2])) (hg : W.grownBy W' v.ownBlock) :
    Rec 24 W' g3 #[.int .i64 lg, .int .i64 pg, .int .i64 en, .int .i64 gn, v] ∧ Below w0.heap.size w0 W' ∧ Below w0.heap.size w0 (W'.setCell ⟨g3, 4, none⟩ v') ∧ Mid2 w0 g g3 B lg pg en gn v' (j + 1) (ks ++ [k]) (W'.setCell ⟨g3, 4, none⟩ v') := by
  have hb : Below B W W' := below_own h.ow h.BW hg
  have hcf : Rec 24 W' g3 #[.int .i64 lg, .int .i64 pg, .int .i64 en, .int .i64 gn, v] := h.cf.below hb h.g3B
  have hzz := h.zz.below hb h.gB
  have hset : Fr (· = g3) W' (W'.setCell ⟨g3, 4, none⟩ v') := Fr.setCell W' (own := (· = g3)) (p := ⟨g3, 4, none⟩) rfl v'
  have hB0 : Below w0.heap.size w0 W' := h.bel.trans (hb.mono (Nat.le_trans h.wg3 (Nat.le_of_lt h.g3B)))
  have hB1 : Below w0.heap.size w0 (W'.setCell ⟨g3, 4, none⟩ v') := hB0.trans (hset.toBelow (fun x hx => by have : x = g3 := hx; have := h.wg3; omega) hB0.size)
  refine ⟨hcf, hB0, hB1, ⟨?_, hzz.fr hset (fun e => h.ne e), ?_, hB1, h.wg, h.wg3, h.ne, h.gB, h.g3B, Nat.le_trans h.BW (Nat.le_trans hb.size hset.size)⟩⟩
  · have := hcf.set 4 v'
    simpa using this
  · rw [kcells_snoc]
    exact own_fr ho hset (fun x hx e => by have : x = g3 := e; have := (ho.lt x hx).1; have := h.g3B; omega)
end

/-- What Get leaves. -/
def GotC (w : World) (l : List UInt8) (e : Ending) (w' : World) : Prop :=
  ∃ A' n' cap', e = .returned (.tuple #[cv (getC l).1.lg (getC l).1.pg (getC l).1.en (getC l).1.gn A' n' cap', .int .i64 (getC l).2]) ∧ KRd w' A' n' (getC l).1.ks ∧ n' ≤ 255 ∧ Below w.heap.size w w'
theorem getC_miss {l : List UInt8} (h : (rdConf (l, false)).2.2 = true) : getC l = (Cf.none0, 12) := by unfold getC; rw [if_pos h]

set_option maxHeartbeats 2000000 in
theorem RGetC_any (A : Option Addr) (n c : Nat) (l : List UInt8) (w : World) (hr : Rd w A n l) (hn : n ≤ 1000) (hnc : n ≤ c) :
    Calls Try.prog 25 #[.slice A n c] w (GotC w l) := by
  obtain ⟨w1, hw1⟩ : ∃ w1, w1 = w.alloc (.cells #[.int .i64 0, .int .i64 0, .int .i64 0, .int .i64 0, .slice none 0 0] 24) := ⟨_, rfl⟩
  have hB1 : Below w.heap.size w w1 := by rw [hw1]; exact (Below.refl _ _).alloc (Nat.le_refl _) _
  have hZ : Rec 24 w1 w.heap.size (cc 0 0 0 0 none 0 0) := by rw [hw1]; exact Rec.new w _ _
  obtain ⟨g, hg⟩ : ∃ g, g = w.heap.size := ⟨_, rfl⟩
  rw [← hg] at hZ
  have hl := hr.1
  have HR := Lib.hid hr
  have HB1 := Lib.hid hB1
  have HZ := Lib.hid hZ
  have HG := Lib.hid hg
  clear hr hB1 hZ hg
  have hwd4 : wd 4 = 4 := by decide
  have hwd1 : wd 1 = 1 := by decide
  have hwd2 : wd 2 = 2 := by decide
  have HW4 := Lib.hid hwd4
  have HW1 := Lib.hid hwd1
  have HW2 := Lib.hid hwd2
  clear hwd4 hwd1 hwd2
  go_enter Try.func25, Try.ntmps25
  go_wp2_with (rw [← hw1, ← HG.out]; clear hw1)
  go_loopw [4, 5, 6, 7] (fun v i _ _ wr => ∃ j : Nat, j ≤ 4 ∧ 4 * j ≤ n ∧ i = .int .i64 j ∧ wr.ownsRow w1.heap.size 3 1 v j ((numsL l j).map (Value.int .i64)) ∧ Below w1.heap.size w1 wr) (fun _ i _ _ _ => 4 - (intOf i).toNat)
  case atStart => exact ⟨0, Nat.zero_le _, Nat.zero_le _, rfl, World.ownsRow_nil _ _ _ _, Below.refl _ _⟩
  case round =>
    obtain ⟨j, hj, hjn, rfl, hown, hb⟩ := hrel
    have HO := Lib.hid hown
    have HB := Lib.hid hb
    clear hown hb
    by_cases hj4 : j < 4
    · by_cases hok : 4 * j + 4 ≤ n
      · have cG := RGet_yes A n c l (4 * j) 4 wr (HR.out.below (Nat.le_refl _) (HB1.out.trans (HB.out.mono HB1.out.size))) (by omega) (by rw [HW4.out]; omega)
        rw [HW4.out, Int.natCast_mul] at cG
        obtain ⟨z, hz⟩ : ∃ z, z = getV ((l.drop (4 * j)).take 4) := ⟨_, rfl⟩
        have hsn := numsL_succ l j
        rw [← hz] at cG hsn
        have CG := Lib.hid cG
        have HSN := Lib.hid hsn
        have hs1 := HB.out.size
        clear cG hz hsn
        go_wp2_with (first
          | (go_at_call 40; refine CG.out.mono ?_; rintro e w' ⟨rfl, rfl⟩)
          | (at_builtin; refine wpList_appI _ intT rfl (.tmp 29) (.tmp 31) rfl w1.heap.size _ j _ rfl (HO.out.alloc _) _ 1 1 [z] rfl (one_ird wr z) (by omega) (by simp; omega) ?_; intro v2 w2 ho2 hg2; have H2 := Lib.hid (And.intro ho2 (below_own (HO.out.alloc (.cells #[.int .i64 z] 3)) (by simp; omega) hg2)); clear ho2 hg2))
        go_roundw
        case rel =>
          obtain ⟨h1, h2⟩ := H2.out
          refine ⟨j + 1, by omega, by omega, by go_num, ?_, HB.out.trans (((Below.refl _ _).alloc hs1 _).trans h2)⟩
          rw [HSN.out, List.map_append]
          exact h1
        case measure => simp [intOf]; omega
      · have cG := RGet_no A n c ((4 * j : Nat) : Int) 4 wr (by omega) (by rw [HW4.out]; omega)
        rw [Int.natCast_mul] at cG
        have CG := Lib.hid cG
        have E1 := Lib.hid (getC_miss (rdConf_miss (l := l) (by omega)))
        have Z4 := Lib.hid (HZ.out.under HB.out)
        have B4 := Lib.hid (HB1.out.trans (HB.out.mono HB1.out.size))
        clear cG
        go_wp2_with (first
          | (go_at_call 40; refine CG.out.mono ?_; rintro e w' ⟨rfl, rfl⟩)
          | (with_reducible refine wpList_stC (lg := 0) (pg := 0) (en := 0) (gn := 0) (A := none) (n := 0) (cap := 0) (lg' := 0) (pg' := 0) (en' := 0) (gn' := 0) (A' := none) (n' := 0) (cap' := 0) rfl (.tmp 2) (.tmp 28) rfl rfl rfl Z4.out ?_; intro wz hRz hFz))
        refine bodyPost_ret (res_ct rfl rfl (hRz.load confT rfl)) rfl ?_
        unfold GotC
        rw [E1.out]
        exact ⟨none, 0, 0, rfl, KRd.nil _ _, by omega, belowz B4.out hFz HG.out⟩
    · have hge : ¬ (j : Int) < 4 := by omega
      obtain rfl : j = 4 := by omega
      obtain ⟨lg, hlg⟩ : ∃ x, x = getV (l.take 4) := ⟨_, rfl⟩
      obtain ⟨pg, hpg⟩ : ∃ x, x = getV ((l.drop 4).take 4) := ⟨_, rfl⟩
      obtain ⟨en, hen⟩ : ∃ x, x = getV ((l.drop 8).take 4) := ⟨_, rfl⟩
      obtain ⟨gn, hgn⟩ : ∃ x, x = getV ((l.drop 12).take 4) := ⟨_, rfl⟩
      have e4 : numsL l 4 = [lg, pg, en, gn] := by rw [hlg, hpg, hen, hgn]; rfl
      have ho4 := HO.out
      rw [e4] at ho4
      obtain ⟨gi, ci, rfl, hgi, hc4, hci⟩ := own_four ho4
      have hS : ∀ W, Below wr.heap.size wr W → W.cell? ⟨gi, 0, none⟩ = some (.int .i64 lg) ∧ W.cell? ⟨gi, 1, none⟩ = some (.int .i64 pg) ∧ W.cell? ⟨gi, 2, none⟩ = some (.int .i64 en) ∧ W.cell? ⟨gi, 3, none⟩ = some (.int .i64 gn) :=
        fun W hW => ⟨(hW.cell (p := ⟨gi, 0, none⟩) hgi).trans hc4.1, (hW.cell (p := ⟨gi, 1, none⟩) hgi).trans hc4.2.1, (hW.cell (p := ⟨gi, 2, none⟩) hgi).trans hc4.2.2.1, (hW.cell (p := ⟨gi, 3, none⟩) hgi).trans hc4.2.2.2⟩
      have SS := Lib.hid hS
      have HLG := Lib.hid hlg
      have HPG := Lib.hid hpg
      have HEN := Lib.hid hen
      have HGN := Lib.hid hgn
      clear hS hlg hpg hen hgn e4 ho4 hc4 hgi
      go_wp2_with fail
      -- REGION9
      refine wp_region_held_drew (S := (fun W => W.cell? ⟨gi, 0, none⟩ = some (.int .i64 lg) ∧ W.cell? ⟨gi, 1, none⟩ = some (.int .i64 pg) ∧ W.cell? ⟨gi, 2, none⟩ = some (.int .i64 en) ∧ W.cell? ⟨gi, 3, none⟩ = some (.int .i64 gn))) (by kernel_rfl) (SS.out _ (Below.refl _ _).drew) (fun hHeld => ?_)
      refine wpAnyH_take (i := 0) (oi := { dst := some 33, op := Op.move (Operand.tmp 4), type := 38, pos := "ref.go:75", after := #[], guard := none }) (v := ?_) rfl (by kernel_rfl) (by kernel_rfl) (by kernel_rfl) (fun _ _ _ h => h) (Or.inl ⟨by rfl, ?_⟩) (by assumption) ?_
      rotate_left 1
      · intro w' hSw; (try dsimp only at hSw); go_simp; (try with_reducible rfl)
      simp only [Act.put, List.setIfInBounds_toArray, List.set_cons_zero, List.set_cons_succ]
      refine wpAnyH_take (i := 1) (oi := { dst := some 34, op := Op.indexAddr 38 (Operand.tmp 33) (Operand.const (Value.int IntKind.i64 0)), type := 0, pos := "ref.go:75", after := #[{ on := 0, ground := Ground.data }], guard := none }) (v := ?_) rfl (by kernel_rfl) (by kernel_rfl) (by kernel_rfl) (fun _ _ _ h => h) (Or.inl ⟨by rfl, ?_⟩) (by assumption) ?_
      rotate_left 1
      · intro w' hSw; (try dsimp only at hSw); go_simp; (try with_reducible rfl)
      simp only [Act.put, List.setIfInBounds_toArray, List.set_cons_zero, List.set_cons_succ]
      refine wpAnyH_take (i := 2) (oi := { dst := some 35, op := Op.load 3 (Operand.tmp 34), type := 3, pos := "ref.go:75", after := #[{ on := 1, ground := Ground.data }], guard := none }) (v := ?_) rfl (by kernel_rfl) (by kernel_rfl) (by kernel_rfl) (fun _ _ _ h => h) (Or.inl ⟨by rfl, ?_⟩) (by assumption) ?_
      rotate_left 1
      · intro w' hSw; (try dsimp only at hSw); go_simp; (try with_reducible rfl)
      simp only [Act.put, List.setIfInBounds_toArray, List.set_cons_zero, List.set_cons_succ]
      refine wpAnyH_take (i := 3) (oi := { dst := some 36, op := Op.move (Operand.tmp 4), type := 38, pos := "ref.go:75", after := #[], guard := none }) (v := ?_) rfl (by kernel_rfl) (by kernel_rfl) (by kernel_rfl) (fun _ _ _ h => h) (Or.inl ⟨by rfl, ?_⟩) (by assumption) ?_
      rotate_left 1
      · intro w' hSw; (try dsimp only at hSw); go_simp; (try with_reducible rfl)
      simp only [Act.put, List.setIfInBounds_toArray, List.set_cons_zero, List.set_cons_succ]
      refine wpAnyH_take (i := 4) (oi := { dst := some 37, op := Op.indexAddr 38 (Operand.tmp 36) (Operand.const (Value.int IntKind.i64 1)), type := 0, pos := "ref.go:75", after := #[{ on := 3, ground := Ground.data }], guard := none }) (v := ?_) rfl (by kernel_rfl) (by kernel_rfl) (by kernel_rfl) (fun _ _ _ h => h) (Or.inl ⟨by rfl, ?_⟩) (by assumption) ?_
      rotate_left 1
      · intro w' hSw; (try dsimp only at hSw); go_simp; (try with_reducible rfl)
      simp only [Act.put, List.setIfInBounds_toArray, List.set_cons_zero, List.set_cons_succ]
      refine wpAnyH_take (i := 5) (oi := { dst := some 38, op := Op.load 3 (Operand.tmp 37), type := 3, pos := "ref.go:75", after := #[{ on := 4, ground := Ground.data }], guard := none }) (v := ?_) rfl (by kernel_rfl) (by kernel_rfl) (by kernel_rfl) (fun _ _ _ h => h) (Or.inl ⟨by rfl, ?_⟩) (by assumption) ?_
      rotate_left 1
      · intro w' hSw; (try dsimp only at hSw); go_simp; (try with_reducible rfl)
      simp only [Act.put, List.setIfInBounds_toArray, List.set_cons_zero, List.set_cons_succ]
      refine wpAnyH_take (i := 6) (oi := { dst := some 39, op := Op.move (Operand.tmp 4), type := 38, pos := "ref.go:75", after := #[], guard := none }) (v := ?_) rfl (by kernel_rfl) (by kernel_rfl) (by kernel_rfl) (fun _ _ _ h => h) (Or.inl ⟨by rfl, ?_⟩) (by assumption) ?_
      rotate_left 1
      · intro w' hSw; (try dsimp only at hSw); go_simp; (try with_reducible rfl)
      simp only [Act.put, List.setIfInBounds_toArray, List.set_cons_zero, List.set_cons_succ]
      refine wpAnyH_take (i := 7) (oi := { dst := some 40, op := Op.indexAddr 38 (Operand.tmp 39) (Operand.const (Value.int IntKind.i64 2)), type := 0, pos := "ref.go:75", after := #[{ on := 6, ground := Ground.data }], guard := none }) (v := ?_) rfl (by kernel_rfl) (by kernel_rfl) (by kernel_rfl) (fun _ _ _ h => h) (Or.inl ⟨by rfl, ?_⟩) (by assumption) ?_
      rotate_left 1
      · intro w' hSw; (try dsimp only at hSw); go_simp; (try with_reducible rfl)
      simp only [Act.put, List.setIfInBounds_toArray, List.set_cons_zero, List.set_cons_succ]
      refine wpAnyH_take (i := 8) (oi := { dst := some 41, op := Op.load 3 (Operand.tmp 40), type := 3, pos := "ref.go:75", after := #[{ on := 7, ground := Ground.data }], guard := none }) (v := ?_) rfl (by kernel_rfl) (by kernel_rfl) (by kernel_rfl) (fun _ _ _ h => h) (Or.inl ⟨by rfl, ?_⟩) (by assumption) ?_
      rotate_left 1
      · intro w' hSw; (try dsimp only at hSw); go_simp; (try with_reducible rfl)
      simp only [Act.put, List.setIfInBounds_toArray, List.set_cons_zero, List.set_cons_succ]
      refine wpAnyH_take (i := 9) (oi := { dst := some 42, op := Op.move (Operand.tmp 4), type := 38, pos := "ref.go:75", after := #[], guard := none }) (v := ?_) rfl (by kernel_rfl) (by kernel_rfl) (by kernel_rfl) (fun _ _ _ h => h) (Or.inl ⟨by rfl, ?_⟩) (by assumption) ?_
      rotate_left 1
      · intro w' hSw; (try dsimp only at hSw); go_simp; (try with_reducible rfl)
      simp only [Act.put, List.setIfInBounds_toArray, List.set_cons_zero, List.set_cons_succ]
      refine wpAnyH_take (i := 10) (oi := { dst := some 43, op := Op.indexAddr 38 (Operand.tmp 42) (Operand.const (Value.int IntKind.i64 3)), type := 0, pos := "ref.go:75", after := #[{ on := 9, ground := Ground.data }], guard := none }) (v := ?_) rfl (by kernel_rfl) (by kernel_rfl) (by kernel_rfl) (fun _ _ _ h => h) (Or.inl ⟨by rfl, ?_⟩) (by assumption) ?_
      rotate_left 1
      · intro w' hSw; (try dsimp only at hSw); go_simp; (try with_reducible rfl)
      simp only [Act.put, List.setIfInBounds_toArray, List.set_cons_zero, List.set_cons_succ]
      refine wpAnyH_take (i := 11) (oi := { dst := some 44, op := Op.load 3 (Operand.tmp 43), type := 3, pos := "ref.go:75", after := #[{ on := 10, ground := Ground.data }], guard := none }) (v := ?_) rfl (by kernel_rfl) (by kernel_rfl) (by kernel_rfl) (fun _ _ _ h => h) (Or.inl ⟨by rfl, ?_⟩) (by assumption) ?_
      rotate_left 1
      · intro w' hSw; (try dsimp only at hSw); go_simp; (try with_reducible rfl)
      simp only [Act.put, List.setIfInBounds_toArray, List.set_cons_zero, List.set_cons_succ]
      refine wpAnyH_take (i := 12) (oi := { dst := some 45, op := Op.build 24 #[(0, Operand.tmp 35), (1, Operand.tmp 38), (2, Operand.tmp 41), (3, Operand.tmp 44)], type := 24, pos := "ref.go:75", after := #[{ on := 2, ground := Ground.data }, { on := 5, ground := Ground.data }, { on := 8, ground := Ground.data }, { on := 11, ground := Ground.data }], guard := none }) (v := ?_) rfl (by kernel_rfl) (by kernel_rfl) (by kernel_rfl) (fun _ _ _ h => h) (Or.inl ⟨by rfl, ?_⟩) (by assumption) ?_
      rotate_left 1
      · intro w' hSw; (try dsimp only at hSw); go_simp; (try with_reducible rfl)
      simp only [Act.put, List.setIfInBounds_toArray, List.set_cons_zero, List.set_cons_succ]
      refine wpAnyH_ready (rs := [13]) (by kernel_rfl) (by simp) ?_
      refine AllReadyH.cons (o := { dst := some 8, op := Op.alloc 24, type := 0, pos := "ref.go:75", after := #[], guard := none }) rfl (fun K' hK => ?_) AllReadyH.nil
      go_simp
      obtain ⟨x1, hx1⟩ : ∃ x, x = (wr.alloc (.cells #[.int .i64 0, .int .i64 0, .int .i64 0, .int .i64 0, .slice none 0 0] 24)).drew := ⟨_, rfl⟩
      have RX : Rec 24 x1 wr.heap.size (cc 0 0 0 0 none 0 0) := by rw [hx1]; exact Rec.new wr _ _
      have bX : Below wr.heap.size wr x1 := by rw [hx1]; exact ((Below.refl _ _).alloc (Nat.le_refl _) _).drew
      have sX := SS.out x1 bX
      obtain ⟨g3, hg3⟩ : ∃ g3, g3 = wr.heap.size := ⟨_, rfl⟩
      rw [← hg3] at RX
      try rw [← hx1]
      rw [← hg3]
      have HX := Lib.hid RX
      have BX := Lib.hid bX
      have HG3 := Lib.hid hg3
      clear hx1 RX bX hg3
      refine hK.out _ _ sX (fun hHeld => ?_)
      clear hK K'
      try simp only [Act.put, List.setIfInBounds_toArray, List.set_cons_zero, List.set_cons_succ]
      refine wpAnyH_ready (rs := [14]) (by kernel_rfl) (by simp) ?_
      refine AllReadyH.cons (o := { dst := none, op := Op.store 24 (Operand.tmp 8) (Operand.tmp 45), type := 0, pos := "ref.go:75", after := #[{ on := 13, ground := Ground.data }, { on := 12, ground := Ground.data }, { on := 0, ground := Ground.phase }, { on := 1, ground := Ground.phase }, { on := 2, ground := Ground.phase }, { on := 3, ground := Ground.phase }, { on := 4, ground := Ground.phase }, { on := 5, ground := Ground.phase }, { on := 6, ground := Ground.phase }, { on := 7, ground := Ground.phase }, { on := 8, ground := Ground.phase }, { on := 9, ground := Ground.phase }, { on := 10, ground := Ground.phase }, { on := 11, ground := Ground.phase }, { on := 12, ground := Ground.phase }, { on := 13, ground := Ground.phase }], guard := none }) rfl (fun K' hK => ?_) AllReadyH.nil
      refine step_stC (lg := 0) (pg := 0) (en := 0) (gn := 0) (A := none) (n := 0) (cap := 0) (lg' := lg) (pg' := pg) (en' := en) (gn' := gn) (A' := none) (n' := 0) (cap' := 0) rfl (.tmp 8) (.tmp 45) rfl rfl rfl HX.out ?_
      intro x2 hR2 hF2
      have bY : Below wr.heap.size wr x2 := BX.out.trans (hF2.toBelow (fun x hx => by have : x = g3 := hx; have := HG3.out; omega) BX.out.size)
      have sY := SS.out x2 bY
      have HY := Lib.hid hR2
      have BY := Lib.hid bY
      clear hR2 hF2 bY
      refine hK.out _ _ sY (fun hHeld => ?_)
      clear hK K'
      try simp only [Act.put]
      refine wpAnyH_done (by kernel_rfl) ?_ _
      -- ENDREGION9
      clear sY sX hHeld
      have hx2 := BY.out.size
      have hgg3 : g < g3 := by have := HZ.out.lt; have := HB.out.size; have := HG3.out; omega
      have K2 : Hid (Mid2 w g g3 x2.heap.size lg pg en gn (.slice none 0 0) 0 [] x2) := Lib.hid {
        cf := HY.out, zz := HZ.out.under (HB.out.trans (BY.out.mono HB.out.size)), ow := World.ownsRow_nil _ _ _ _,
        bel := HB1.out.trans ((HB.out.trans (BY.out.mono HB.out.size)).mono HB1.out.size), wg := by rw [HG.out]; exact Nat.le_refl _,
        wg3 := by rw [HG3.out]; exact Nat.le_trans HB1.out.size HB.out.size, ne := by omega, gB := by have := HY.out.lt; omega, g3B := HY.out.lt, BW := Nat.le_refl _ }
      obtain ⟨B, hB⟩ : ∃ B, B = x2.heap.size := ⟨_, rfl⟩
      rw [← hB] at K2
      clear hB hx2 HY BY HX BX SS HO HB hge hj
      by_cases h17 : 17 ≤ n
      · have cG := RGet_yes A n c l 16 1 x2 (HR.out.below (Nat.le_refl _) K2.out.bel) (by omega) (by rw [HW1.out]; omega)
        rw [HW1.out] at cG
        obtain ⟨m, hm, hm2⟩ := byteV ((l.drop 16).take 1) (by simp; omega)
        have hhead := rdConf_head (l := l) (by omega)
        rw [hm] at cG hhead
        rw [Int.toNat_natCast, ← HLG.out, ← HPG.out, ← HEN.out, ← HGN.out] at hhead
        have CG := Lib.hid cG
        have HH := Lib.hid hhead
        clear cG hm hhead
        go_wp2_with (go_at_call 40; refine CG.out.mono ?_; rintro e w' ⟨rfl, rfl⟩)
        go_loopw [11, 12, 13, 14] (fun av i _ _ wr => ∃ q a : Nat, q ≤ m ∧ i = .int .i64 q ∧ av = .int .i64 a ∧ 17 ≤ a ∧ a ≤ n ∧ (rdKs q (l.drop 17, false)).2 = (l.drop a, false) ∧ ∃ v, Mid2 w g g3 B lg pg en gn v q (rdKs q (l.drop 17, false)).1 wr) (fun _ i _ _ _ => m - (intOf i).toNat)
        case atStart => exact ⟨0, 17, Nat.zero_le _, rfl, rfl, by omega, h17, rfl, _, K2.out⟩
        case round =>
          obtain ⟨q, a, hq, rfl, rfl, ha17, han, hst, v, hM⟩ := hrel
          have K := Lib.hid hM
          obtain ⟨A', c', rfl⟩ := own_slK hM.ow
          obtain ⟨ks, hks⟩ : ∃ ks, ks = (rdKs q (l.drop 17, false)).1 := ⟨_, rfl⟩
          rw [← hks] at K
          have HKS := Lib.hid hks
          have HST := Lib.hid hst
          clear hM hks hst
          by_cases hqm : q < m
          · have hrl : (l.drop a).length = n - a := by rw [List.length_drop, hl]
            have hLe := lenT_le (l.drop a)
            obtain ⟨L, hL⟩ : ∃ L, L = lenT (l.drop a) := ⟨_, rfl⟩
            rw [← hL] at hLe
            have Z4 := Lib.hid K.out.zz
            by_cases h2 : a + 2 ≤ n
            · have cG := RGet_yes A n c l a 2 wr (HR.out.below (Nat.le_refl _) K.out.bel) (by omega) (by rw [HW2.out]; omega)
              rw [HW2.out] at cG
              have hgv : getV ((l.drop a).take 2) = (L : Int) := by
                have e : lenT (l.drop a) = leN ((l.drop a).take 2) := by unfold lenT; rw [if_neg (by omega)]
                rw [hL] at hLe ⊢
                rw [e] at hLe ⊢
                exact getV_in _ (by omega)
              rw [hgv] at cG
              have CG := Lib.hid cG
              clear cG hgv
              by_cases h3 : L + 3 ≤ n - a
              · have hd : decide ((n : Int) - a - 3 < (L : Int)) = false := decide_eq_false (by omega)
                have HL3 := Lib.hid hL
                clear hL
                obtain ⟨b, o, rfl, hbl, hcell⟩ := HR.out.2 (by omega)
                obtain ⟨a2, ha2⟩ : ∃ a2, a2 = a + 2 := ⟨_, rfl⟩
                obtain ⟨a3, ha3⟩ : ∃ a3, a3 = a2 + L := ⟨_, rfl⟩
                have hx3 : a3 < l.length := by omega
                obtain ⟨z, hz⟩ : ∃ z : Int, z = (l[a3].toNat : Int) := ⟨_, rfl⟩
                obtain ⟨tx, htx⟩ : ∃ tx, tx = str ((l.drop a2).take L) := ⟨_, rfl⟩
                have hSS : ∀ W, Below w.heap.size w W → (convert 35 9 (.slice (some ⟨b, o + a2, none⟩) L (c - a2))).run Try.prog W = .ok (.string tx) W ∧ W.cell? ⟨b, o + a3, none⟩ = some (.int .u8 z) := fun W hW => by
                  have hRW := HR.out.below (Nat.le_refl _) hW
                  refine ⟨?_, ?_⟩
                  · rw [htx]
                    exact run_to_string 35 9 5 Try.underlying35 Try.underlying5 Try.underlying9 W _ L (c - a2) _ (hRW.part (lo := a2) (m := L) (by omega) (some ⟨b, o + a2, none⟩) (fun _ b' o' e => by injection e with e; injection e with e1 e2; rw [← e1, ← e2]))
                  · rw [hz]
                    exact (hW.cell (p := ⟨b, o + a3, none⟩) hbl).trans (hcell a3 hx3)
                have s0 := hSS wr.drew K.out.bel.drew
                have SS := Lib.hid hSS
                have hzb : 0 ≤ z ∧ z ≤ 255 := by have := l[a3].toNat_lt; omega
                have m1 : IntKind.i64.wrap ((a : Int) + 2) = (a2 : Int) := by rw [IntKind.wrap_i64]; omega
                have m2 : IntKind.i64.wrap ((a2 : Int) + (L : Int)) = (a3 : Int) := by rw [IntKind.wrap_i64]; omega
                have m3 : IntKind.i64.wrap z = z := by rw [IntKind.wrap_i64]; omega
                have b1 : (0 : Int) ≤ (a2 : Int) := by omega
                have b2 : (a2 : Int) ≤ (a3 : Int) := by omega
                have b3 : (a3 : Int) ≤ (c : Int) := by omega
                have b4 : (a3 : Int) < (n : Int) := by omega
                have b5 : (0 : Int) ≤ (a3 : Int) := by omega
                have b6 : ¬ c = a2 := by omega
                have K0 := Lib.hid (K.out.below (Below.refl _ _).drew)
                have b7 : a3 - a2 = L := by omega
                have eK := rdK_yes (l := l.drop a) (by rw [← HL3.out]; omega)
                rw [← HL3.out] at eK
                have eJ : rdKs (q + 1) (l.drop 17, false) = (ks ++ [(tx, z)], (l.drop (a3 + 1), false)) := by
                  simp only [rdKs]
                  have d1 : (l.drop a).drop 2 = l.drop a2 := by rw [List.drop_drop, ha2]
                  have d2 : (l.drop a).drop (2 + L) = l.drop a3 := by rw [List.drop_drop, ha3, ha2]; congr 1; omega
                  have d3 : (l.drop a).drop (3 + L) = l.drop (a3 + 1) := by rw [List.drop_drop, ha3, ha2]; congr 1; omega
                  have d4 : getV ((l.drop a3).take 1) = z := by
                    rw [List.drop_eq_getElem_cons hx3, hz, List.take_succ_cons, List.take_zero]
                    have := l[a3].toNat_lt
                    rw [getV_in _ (by simp [leN]; omega)]
                    simp [leN]
                  rw [HST.out, eK.1, eK.2.1, eK.2.2, ← HKS.out, d1, d2, d3, d4, ← htx]
                have EJ := Lib.hid eJ
                have HA2 := Lib.hid ha2
                have HA3 := Lib.hid ha3
                have HX3 := Lib.hid hx3
                clear hSS eK eJ ha2 ha3 hz htx hcell hzb hx3 hd
                go_wp2_with (go_at_call 40; refine CG.out.mono ?_; rintro e w' ⟨rfl, rfl⟩)
                -- REGION20
                refine wp_region_held_drew (S := (fun W => (convert 35 9 (.slice (some ⟨b, o + a2, none⟩) L (c - a2))).run Try.prog W = .ok (.string tx) W ∧ W.cell? ⟨b, o + a3, none⟩ = some (.int .u8 z))) (by kernel_rfl) s0 (fun hHeld => ?_)
                refine wpAnyH_take (i := 0) (oi := { dst := some 77, op := Op.fieldAddr 24 (Operand.tmp 8) 4, type := 0, pos := "ref.go:86", after := #[], guard := none }) (v := ?_) rfl (by kernel_rfl) (by kernel_rfl) (by kernel_rfl) (fun _ _ _ h => h) (Or.inl ⟨by rfl, ?_⟩) (by assumption) ?_
                rotate_left 1
                · intro w' hSw; (try dsimp only at hSw); go_simp; (try with_reducible rfl)
                simp only [Act.put, List.setIfInBounds_toArray, List.set_cons_zero, List.set_cons_succ]
                refine wpAnyH_take (i := 2) (oi := { dst := some 79, op := Op.move (Operand.tmp 0), type := 35, pos := "ref.go:86", after := #[], guard := none }) (v := ?_) rfl (by kernel_rfl) (by kernel_rfl) (by kernel_rfl) (fun _ _ _ h => h) (Or.inl ⟨by rfl, ?_⟩) (by assumption) ?_
                rotate_left 1
                · intro w' hSw; (try dsimp only at hSw); go_simp; (try with_reducible rfl)
                simp only [Act.put, List.setIfInBounds_toArray, List.set_cons_zero, List.set_cons_succ]
                refine wpAnyH_take (i := 3) (oi := { dst := some 80, op := Op.move (Operand.tmp 11), type := 3, pos := "ref.go:86", after := #[], guard := none }) (v := ?_) rfl (by kernel_rfl) (by kernel_rfl) (by kernel_rfl) (fun _ _ _ h => h) (Or.inl ⟨by rfl, ?_⟩) (by assumption) ?_
                rotate_left 1
                · intro w' hSw; (try dsimp only at hSw); go_simp; (try with_reducible rfl)
                simp only [Act.put, List.setIfInBounds_toArray, List.set_cons_zero, List.set_cons_succ]
                refine wpAnyH_take (i := 4) (oi := { dst := some 81, op := Op.binOp BinOp.add 3 (Operand.tmp 80) (Operand.const (Value.int IntKind.i64 2)) 3, type := 3, pos := "ref.go:86", after := #[{ on := 3, ground := Ground.data }], guard := none }) (v := ?_) rfl (by kernel_rfl) (by kernel_rfl) (by kernel_rfl) (fun _ _ _ h => h) (Or.inl ⟨by rfl, ?_⟩) (by assumption) ?_
                rotate_left 1
                · intro w' hSw; (try dsimp only at hSw); go_simp; (try with_reducible rfl)
                simp only [Act.put, List.setIfInBounds_toArray, List.set_cons_zero, List.set_cons_succ]
                refine wpAnyH_take (i := 5) (oi := { dst := some 82, op := Op.move (Operand.tmp 11), type := 3, pos := "ref.go:86", after := #[], guard := none }) (v := ?_) rfl (by kernel_rfl) (by kernel_rfl) (by kernel_rfl) (fun _ _ _ h => h) (Or.inl ⟨by rfl, ?_⟩) (by assumption) ?_
                rotate_left 1
                · intro w' hSw; (try dsimp only at hSw); go_simp; (try with_reducible rfl)
                simp only [Act.put, List.setIfInBounds_toArray, List.set_cons_zero, List.set_cons_succ]
                refine wpAnyH_take (i := 6) (oi := { dst := some 83, op := Op.binOp BinOp.add 3 (Operand.tmp 82) (Operand.const (Value.int IntKind.i64 2)) 3, type := 3, pos := "ref.go:86", after := #[{ on := 5, ground := Ground.data }], guard := none }) (v := ?_) rfl (by kernel_rfl) (by kernel_rfl) (by kernel_rfl) (fun _ _ _ h => h) (Or.inl ⟨by rfl, ?_⟩) (by assumption) ?_
                rotate_left 1
                · intro w' hSw; (try dsimp only at hSw); go_simp; (try with_reducible rfl)
                simp only [Act.put, List.setIfInBounds_toArray, List.set_cons_zero, List.set_cons_succ]
                refine wpAnyH_take (i := 7) (oi := { dst := some 84, op := Op.move (Operand.tmp 13), type := 3, pos := "ref.go:86", after := #[], guard := none }) (v := ?_) rfl (by kernel_rfl) (by kernel_rfl) (by kernel_rfl) (fun _ _ _ h => h) (Or.inl ⟨by rfl, ?_⟩) (by assumption) ?_
                rotate_left 1
                · intro w' hSw; (try dsimp only at hSw); go_simp; (try with_reducible rfl)
                simp only [Act.put, List.setIfInBounds_toArray, List.set_cons_zero, List.set_cons_succ]
                refine wpAnyH_take (i := 8) (oi := { dst := some 85, op := Op.binOp BinOp.add 3 (Operand.tmp 83) (Operand.tmp 84) 3, type := 3, pos := "ref.go:86", after := #[{ on := 6, ground := Ground.data }, { on := 7, ground := Ground.data }], guard := none }) (v := ?_) rfl (by kernel_rfl) (by kernel_rfl) (by kernel_rfl) (fun _ _ _ h => h) (Or.inl ⟨by rfl, ?_⟩) (by assumption) ?_
                rotate_left 1
                · intro w' hSw; (try dsimp only at hSw); go_simp; (try with_reducible rfl)
                simp only [Act.put, List.setIfInBounds_toArray, List.set_cons_zero, List.set_cons_succ]
                refine wpAnyH_take (i := 9) (oi := { dst := some 86, op := Op.slice 35 (Operand.tmp 79) (some (Operand.tmp 81)) (some (Operand.tmp 85)) none, type := 35, pos := "ref.go:86", after := #[{ on := 2, ground := Ground.data }, { on := 4, ground := Ground.data }, { on := 8, ground := Ground.data }], guard := none }) (v := ?_) rfl (by kernel_rfl) (by kernel_rfl) (by kernel_rfl) (fun _ _ _ h => h) (Or.inl ⟨by rfl, ?_⟩) (by assumption) ?_
                rotate_left 1
                · intro w' hSw; (try dsimp only at hSw); go_simp; (try with_reducible rfl)
                simp only [Act.put, List.setIfInBounds_toArray, List.set_cons_zero, List.set_cons_succ]
                refine wpAnyH_take (i := 10) (oi := { dst := some 87, op := Op.convert 35 9 (Operand.tmp 86), type := 9, pos := "ref.go:86", after := #[{ on := 9, ground := Ground.data }], guard := none }) (v := ?_) rfl (by kernel_rfl) (by kernel_rfl) (by kernel_rfl) (fun _ _ _ h => h) (Or.inl ⟨by rfl, ?_⟩) (by assumption) ?_
                rotate_left 1
                · intro w' hSw; (try dsimp only at hSw); go_simp; (try with_reducible rfl)
                simp only [Act.put, List.setIfInBounds_toArray, List.set_cons_zero, List.set_cons_succ]
                refine wpAnyH_take (i := 11) (oi := { dst := some 88, op := Op.move (Operand.tmp 0), type := 35, pos := "ref.go:86", after := #[], guard := none }) (v := ?_) rfl (by kernel_rfl) (by kernel_rfl) (by kernel_rfl) (fun _ _ _ h => h) (Or.inl ⟨by rfl, ?_⟩) (by assumption) ?_
                rotate_left 1
                · intro w' hSw; (try dsimp only at hSw); go_simp; (try with_reducible rfl)
                simp only [Act.put, List.setIfInBounds_toArray, List.set_cons_zero, List.set_cons_succ]
                refine wpAnyH_take (i := 12) (oi := { dst := some 89, op := Op.move (Operand.tmp 11), type := 3, pos := "ref.go:86", after := #[], guard := none }) (v := ?_) rfl (by kernel_rfl) (by kernel_rfl) (by kernel_rfl) (fun _ _ _ h => h) (Or.inl ⟨by rfl, ?_⟩) (by assumption) ?_
                rotate_left 1
                · intro w' hSw; (try dsimp only at hSw); go_simp; (try with_reducible rfl)
                simp only [Act.put, List.setIfInBounds_toArray, List.set_cons_zero, List.set_cons_succ]
                refine wpAnyH_take (i := 13) (oi := { dst := some 90, op := Op.binOp BinOp.add 3 (Operand.tmp 89) (Operand.const (Value.int IntKind.i64 2)) 3, type := 3, pos := "ref.go:86", after := #[{ on := 12, ground := Ground.data }], guard := none }) (v := ?_) rfl (by kernel_rfl) (by kernel_rfl) (by kernel_rfl) (fun _ _ _ h => h) (Or.inl ⟨by rfl, ?_⟩) (by assumption) ?_
                rotate_left 1
                · intro w' hSw; (try dsimp only at hSw); go_simp; (try with_reducible rfl)
                simp only [Act.put, List.setIfInBounds_toArray, List.set_cons_zero, List.set_cons_succ]
                refine wpAnyH_take (i := 14) (oi := { dst := some 91, op := Op.move (Operand.tmp 13), type := 3, pos := "ref.go:86", after := #[], guard := none }) (v := ?_) rfl (by kernel_rfl) (by kernel_rfl) (by kernel_rfl) (fun _ _ _ h => h) (Or.inl ⟨by rfl, ?_⟩) (by assumption) ?_
                rotate_left 1
                · intro w' hSw; (try dsimp only at hSw); go_simp; (try with_reducible rfl)
                simp only [Act.put, List.setIfInBounds_toArray, List.set_cons_zero, List.set_cons_succ]
                refine wpAnyH_take (i := 15) (oi := { dst := some 92, op := Op.binOp BinOp.add 3 (Operand.tmp 90) (Operand.tmp 91) 3, type := 3, pos := "ref.go:86", after := #[{ on := 13, ground := Ground.data }, { on := 14, ground := Ground.data }], guard := none }) (v := ?_) rfl (by kernel_rfl) (by kernel_rfl) (by kernel_rfl) (fun _ _ _ h => h) (Or.inl ⟨by rfl, ?_⟩) (by assumption) ?_
                rotate_left 1
                · intro w' hSw; (try dsimp only at hSw); go_simp; (try with_reducible rfl)
                simp only [Act.put, List.setIfInBounds_toArray, List.set_cons_zero, List.set_cons_succ]
                refine wpAnyH_take (i := 16) (oi := { dst := some 93, op := Op.indexAddr 35 (Operand.tmp 88) (Operand.tmp 92), type := 0, pos := "ref.go:86", after := #[{ on := 11, ground := Ground.data }, { on := 15, ground := Ground.data }], guard := none }) (v := ?_) rfl (by kernel_rfl) (by kernel_rfl) (by kernel_rfl) (fun _ _ _ h => h) (Or.inl ⟨by rfl, ?_⟩) (by assumption) ?_
                rotate_left 1
                · intro w' hSw; (try dsimp only at hSw); go_simp; (try with_reducible rfl)
                simp only [Act.put, List.setIfInBounds_toArray, List.set_cons_zero, List.set_cons_succ]
                refine wpAnyH_take (i := 17) (oi := { dst := some 94, op := Op.load 5 (Operand.tmp 93), type := 5, pos := "ref.go:86", after := #[{ on := 16, ground := Ground.data }], guard := none }) (v := ?_) rfl (by kernel_rfl) (by kernel_rfl) (by kernel_rfl) (fun _ _ _ h => h) (Or.inl ⟨by rfl, ?_⟩) (by assumption) ?_
                rotate_left 1
                · intro w' hSw; (try dsimp only at hSw); go_simp; (try with_reducible rfl)
                simp only [Act.put, List.setIfInBounds_toArray, List.set_cons_zero, List.set_cons_succ]
                refine wpAnyH_take (i := 18) (oi := { dst := some 95, op := Op.convert 5 3 (Operand.tmp 94), type := 3, pos := "ref.go:86", after := #[{ on := 17, ground := Ground.data }], guard := none }) (v := ?_) rfl (by kernel_rfl) (by kernel_rfl) (by kernel_rfl) (fun _ _ _ h => h) (Or.inl ⟨by rfl, ?_⟩) (by assumption) ?_
                rotate_left 1
                · intro w' hSw; (try dsimp only at hSw); go_simp; (try with_reducible rfl)
                simp only [Act.put, List.setIfInBounds_toArray, List.set_cons_zero, List.set_cons_succ]
                refine wpAnyH_take (i := 19) (oi := { dst := some 96, op := Op.build 50 #[(0, Operand.tmp 87), (1, Operand.tmp 95)], type := 50, pos := "ref.go:86", after := #[{ on := 10, ground := Ground.data }, { on := 18, ground := Ground.data }], guard := none }) (v := ?_) rfl (by kernel_rfl) (by kernel_rfl) (by kernel_rfl) (fun _ _ _ h => h) (Or.inl ⟨by rfl, ?_⟩) (by assumption) ?_
                rotate_left 1
                · intro w' hSw; (try dsimp only at hSw); go_simp; (try with_reducible rfl)
                simp only [Act.put, List.setIfInBounds_toArray, List.set_cons_zero, List.set_cons_succ]
                refine wpAnyH_ready (rs := [1, 20]) (by kernel_rfl) (by simp) ?_
                refine AllReadyH.cons (o := { dst := some 78, op := Op.load 22 (Operand.tmp 77), type := 22, pos := "ref.go:86", after := #[{ on := 0, ground := Ground.data }], guard := none }) rfl (fun K' hK => ?_) (AllReadyH.cons (o := { dst := some 97, op := Op.buildSlice 22 1 #[(0, Operand.tmp 96)], type := 22, pos := "ref.go:86", after := #[{ on := 19, ground := Ground.data }], guard := none }) rfl (fun K' hK => ?_) AllReadyH.nil)
                · have q4 : wr.drew.cell? ⟨g3, 4, none⟩ = some (.slice A' q c') := K0.out.cf.at_ 4
                  go_simp
                  clear q4
                  refine hK.out _ _ s0 (fun hHeld => ?_)
                  clear hK K'
                  try simp only [Act.put, List.setIfInBounds_toArray, List.set_cons_zero, List.set_cons_succ]
                  refine wpAnyH_ready (rs := [20]) (by kernel_rfl) (by simp) ?_
                  refine AllReadyH.cons (o := { dst := some 97, op := Op.buildSlice 22 1 #[(0, Operand.tmp 96)], type := 22, pos := "ref.go:86", after := #[{ on := 19, ground := Ground.data }], guard := none }) rfl (fun K' hK => ?_) AllReadyH.nil
                  go_simp
                  obtain ⟨xB, hxB⟩ : ∃ x, x = (wr.alloc (.cells #[.string tx, .int .i64 z] 50)).drew := ⟨_, rfl⟩
                  have hbB : Below wr.heap.size wr xB := by rw [hxB]; exact ((Below.refl _ _).alloc (Nat.le_refl _) _).drew
                  have KB := Lib.hid (K.out.below hbB)
                  have sB := SS.out xB KB.out.bel
                  have HC : Hid (∀ i u, [Value.string tx, .int .i64 z][i]? = some u → xB.cell? ((⟨wr.heap.size, 0, none⟩ : Addr).add i) = some u) := Lib.hid (by rw [hxB]; exact two_new wr tx z)
                  try rw [← hxB]
                  clear hxB hbB
                  refine hK.out _ _ sB (fun hHeld => ?_)
                  clear hK K'
                  try simp only [Act.put, List.setIfInBounds_toArray, List.set_cons_zero, List.set_cons_succ]
                  refine wpAnyH_ready (rs := [21]) (by kernel_rfl) (by simp) ?_
                  refine AllReadyH.cons (o := { dst := some 98, op := Op.call { callee := Callee.builtin Builtin.append, args := #[Operand.tmp 78, Operand.tmp 97], argTypes := #[22, 22] }, type := 22, pos := "ref.go:86", after := #[{ on := 1, ground := Ground.data }, { on := 20, ground := Ground.data }], guard := none }) rfl (fun K' hK => ?_) AllReadyH.nil
                  refine step_appV compsT rfl (.tmp 78) (.tmp 97) rfl B (.slice A' q c') q (kcells ks) rfl KB.out.ow ⟨wr.heap.size, 0, none⟩ 1 1 [.string tx, .int .i64 z] rfl rfl HC.out (by intro u hu; simp at hu; rcases hu with rfl | rfl <;> rfl) (by omega) (by decide) KB.out.BW ?_
                  intro vA xA hoA hgA _
                  obtain ⟨AA, cA, rfl⟩ := own_slK hoA
                  have hMA := KB.out.more (k := (tx, z)) hoA hgA
                  have kA := hMA.1.at_ 4
                  have fA := hMA.1.fz 4
                  have KA := Lib.hid hMA.2.2.2
                  have sA := SS.out xA hMA.2.1
                  have sS := SS.out _ hMA.2.2.1
                  clear hoA hgA hMA
                  refine hK.out _ _ sA (fun hHeld => ?_)
                  clear hK K'
                  try simp only [Act.put, List.setIfInBounds_toArray, List.set_cons_zero, List.set_cons_succ]
                  refine wpAnyH_take (i := 22) (oi := { dst := some 99, op := Op.fieldAddr 24 (Operand.tmp 8) 4, type := 0, pos := "ref.go:86", after := #[{ on := 0, ground := Ground.phase }, { on := 1, ground := Ground.phase }, { on := 2, ground := Ground.phase }, { on := 3, ground := Ground.phase }, { on := 4, ground := Ground.phase }, { on := 5, ground := Ground.phase }, { on := 6, ground := Ground.phase }, { on := 7, ground := Ground.phase }, { on := 8, ground := Ground.phase }, { on := 9, ground := Ground.phase }, { on := 10, ground := Ground.phase }, { on := 11, ground := Ground.phase }, { on := 12, ground := Ground.phase }, { on := 13, ground := Ground.phase }, { on := 14, ground := Ground.phase }, { on := 15, ground := Ground.phase }, { on := 16, ground := Ground.phase }, { on := 17, ground := Ground.phase }, { on := 18, ground := Ground.phase }, { on := 19, ground := Ground.phase }, { on := 20, ground := Ground.phase }, { on := 21, ground := Ground.phase }], guard := none }) (v := ?_) rfl (by kernel_rfl) (by kernel_rfl) (by kernel_rfl) (fun _ _ _ h => h) (Or.inl ⟨by rfl, ?_⟩) (by assumption) ?_
                  rotate_left 1
                  · intro w' hSw; (try dsimp only at hSw); go_simp; (try with_reducible rfl)
                  simp only [Act.put, List.setIfInBounds_toArray, List.set_cons_zero, List.set_cons_succ]
                  refine wpAnyH_ready (rs := [23]) (by kernel_rfl) (by simp) ?_
                  refine AllReadyH.cons (o := { dst := none, op := Op.store 22 (Operand.tmp 99) (Operand.tmp 98), type := 0, pos := "ref.go:86", after := #[{ on := 22, ground := Ground.data }, { on := 21, ground := Ground.data }, { on := 21, ground := Ground.chain }, { on := 0, ground := Ground.phase }, { on := 1, ground := Ground.phase }, { on := 2, ground := Ground.phase }, { on := 3, ground := Ground.phase }, { on := 4, ground := Ground.phase }, { on := 5, ground := Ground.phase }, { on := 6, ground := Ground.phase }, { on := 7, ground := Ground.phase }, { on := 8, ground := Ground.phase }, { on := 9, ground := Ground.phase }, { on := 10, ground := Ground.phase }, { on := 11, ground := Ground.phase }, { on := 12, ground := Ground.phase }, { on := 13, ground := Ground.phase }, { on := 14, ground := Ground.phase }, { on := 15, ground := Ground.phase }, { on := 16, ground := Ground.phase }, { on := 17, ground := Ground.phase }, { on := 18, ground := Ground.phase }, { on := 19, ground := Ground.phase }, { on := 20, ground := Ground.phase }, { on := 21, ground := Ground.phase }], guard := none }) rfl (fun K' hK => ?_) AllReadyH.nil
                  go_simp
                  refine hK.out _ _ sS (fun hHeld => ?_)
                  clear hK K'
                  try simp only [Act.put, List.setIfInBounds_toArray, List.set_cons_zero, List.set_cons_succ]
                  refine wpAnyH_done (by kernel_rfl) ?_ _
                  obtain ⟨x9, hx9⟩ : ∃ x, x = xA.setCell ⟨g3, 4, none⟩ (.slice AA (q + 1) cA) := ⟨_, rfl⟩
                  rw [← hx9] at KA ⊢
                  clear kA fA hx9 sA sS m1 m2 m3 b1 b2 b3 b4 b5 b6 b7 s0
                  go_wp2
                  go_roundw
                  case rel => exact ⟨q + 1, a3 + 1, hqm, by go_num, by have := HA3.out; have := HA2.out; exact congrArg (Value.int .i64) (by omega), by have := HA3.out; have := HA2.out; omega, by have := HX3.out; omega, by rw [EJ.out], _, by rw [EJ.out]; exact KA.out⟩
                  case measure => simp [intOf]; omega
                · go_simp
                  obtain ⟨xB, hxB⟩ : ∃ x, x = (wr.alloc (.cells #[.string tx, .int .i64 z] 50)).drew := ⟨_, rfl⟩
                  have hbB : Below wr.heap.size wr xB := by rw [hxB]; exact ((Below.refl _ _).alloc (Nat.le_refl _) _).drew
                  have KB := Lib.hid (K.out.below hbB)
                  have sB := SS.out xB KB.out.bel
                  have HC : Hid (∀ i u, [Value.string tx, .int .i64 z][i]? = some u → xB.cell? ((⟨wr.heap.size, 0, none⟩ : Addr).add i) = some u) := Lib.hid (by rw [hxB]; exact two_new wr tx z)
                  try rw [← hxB]
                  clear hxB hbB
                  refine hK.out _ _ sB (fun hHeld => ?_)
                  clear hK K'
                  try simp only [Act.put, List.setIfInBounds_toArray, List.set_cons_zero, List.set_cons_succ]
                  refine wpAnyH_ready (rs := [1]) (by kernel_rfl) (by simp) ?_
                  refine AllReadyH.cons (o := { dst := some 78, op := Op.load 22 (Operand.tmp 77), type := 22, pos := "ref.go:86", after := #[{ on := 0, ground := Ground.data }], guard := none }) rfl (fun K' hK => ?_) AllReadyH.nil
                  have q4 : xB.cell? ⟨g3, 4, none⟩ = some (.slice A' q c') := KB.out.cf.at_ 4
                  go_simp
                  clear q4
                  refine hK.out _ _ sB (fun hHeld => ?_)
                  clear hK K'
                  try simp only [Act.put, List.setIfInBounds_toArray, List.set_cons_zero, List.set_cons_succ]
                  refine wpAnyH_ready (rs := [21]) (by kernel_rfl) (by simp) ?_
                  refine AllReadyH.cons (o := { dst := some 98, op := Op.call { callee := Callee.builtin Builtin.append, args := #[Operand.tmp 78, Operand.tmp 97], argTypes := #[22, 22] }, type := 22, pos := "ref.go:86", after := #[{ on := 1, ground := Ground.data }, { on := 20, ground := Ground.data }], guard := none }) rfl (fun K' hK => ?_) AllReadyH.nil
                  refine step_appV compsT rfl (.tmp 78) (.tmp 97) rfl B (.slice A' q c') q (kcells ks) rfl KB.out.ow ⟨wr.heap.size, 0, none⟩ 1 1 [.string tx, .int .i64 z] rfl rfl HC.out (by intro u hu; simp at hu; rcases hu with rfl | rfl <;> rfl) (by omega) (by decide) KB.out.BW ?_
                  intro vA xA hoA hgA _
                  obtain ⟨AA, cA, rfl⟩ := own_slK hoA
                  have hMA := KB.out.more (k := (tx, z)) hoA hgA
                  have kA := hMA.1.at_ 4
                  have fA := hMA.1.fz 4
                  have KA := Lib.hid hMA.2.2.2
                  have sA := SS.out xA hMA.2.1
                  have sS := SS.out _ hMA.2.2.1
                  clear hoA hgA hMA
                  refine hK.out _ _ sA (fun hHeld => ?_)
                  clear hK K'
                  try simp only [Act.put, List.setIfInBounds_toArray, List.set_cons_zero, List.set_cons_succ]
                  refine wpAnyH_take (i := 22) (oi := { dst := some 99, op := Op.fieldAddr 24 (Operand.tmp 8) 4, type := 0, pos := "ref.go:86", after := #[{ on := 0, ground := Ground.phase }, { on := 1, ground := Ground.phase }, { on := 2, ground := Ground.phase }, { on := 3, ground := Ground.phase }, { on := 4, ground := Ground.phase }, { on := 5, ground := Ground.phase }, { on := 6, ground := Ground.phase }, { on := 7, ground := Ground.phase }, { on := 8, ground := Ground.phase }, { on := 9, ground := Ground.phase }, { on := 10, ground := Ground.phase }, { on := 11, ground := Ground.phase }, { on := 12, ground := Ground.phase }, { on := 13, ground := Ground.phase }, { on := 14, ground := Ground.phase }, { on := 15, ground := Ground.phase }, { on := 16, ground := Ground.phase }, { on := 17, ground := Ground.phase }, { on := 18, ground := Ground.phase }, { on := 19, ground := Ground.phase }, { on := 20, ground := Ground.phase }, { on := 21, ground := Ground.phase }], guard := none }) (v := ?_) rfl (by kernel_rfl) (by kernel_rfl) (by kernel_rfl) (fun _ _ _ h => h) (Or.inl ⟨by rfl, ?_⟩) (by assumption) ?_
                  rotate_left 1
                  · intro w' hSw; (try dsimp only at hSw); go_simp; (try with_reducible rfl)
                  simp only [Act.put, List.setIfInBounds_toArray, List.set_cons_zero, List.set_cons_succ]
                  refine wpAnyH_ready (rs := [23]) (by kernel_rfl) (by simp) ?_
                  refine AllReadyH.cons (o := { dst := none, op := Op.store 22 (Operand.tmp 99) (Operand.tmp 98), type := 0, pos := "ref.go:86", after := #[{ on := 22, ground := Ground.data }, { on := 21, ground := Ground.data }, { on := 21, ground := Ground.chain }, { on := 0, ground := Ground.phase }, { on := 1, ground := Ground.phase }, { on := 2, ground := Ground.phase }, { on := 3, ground := Ground.phase }, { on := 4, ground := Ground.phase }, { on := 5, ground := Ground.phase }, { on := 6, ground := Ground.phase }, { on := 7, ground := Ground.phase }, { on := 8, ground := Ground.phase }, { on := 9, ground := Ground.phase }, { on := 10, ground := Ground.phase }, { on := 11, ground := Ground.phase }, { on := 12, ground := Ground.phase }, { on := 13, ground := Ground.phase }, { on := 14, ground := Ground.phase }, { on := 15, ground := Ground.phase }, { on := 16, ground := Ground.phase }, { on := 17, ground := Ground.phase }, { on := 18, ground := Ground.phase }, { on := 19, ground := Ground.phase }, { on := 20, ground := Ground.phase }, { on := 21, ground := Ground.phase }], guard := none }) rfl (fun K' hK => ?_) AllReadyH.nil
                  go_simp
                  refine hK.out _ _ sS (fun hHeld => ?_)
                  clear hK K'
                  try simp only [Act.put, List.setIfInBounds_toArray, List.set_cons_zero, List.set_cons_succ]
                  refine wpAnyH_done (by kernel_rfl) ?_ _
                  obtain ⟨x9, hx9⟩ : ∃ x, x = xA.setCell ⟨g3, 4, none⟩ (.slice AA (q + 1) cA) := ⟨_, rfl⟩
                  rw [← hx9] at KA ⊢
                  clear kA fA hx9 sA sS m1 m2 m3 b1 b2 b3 b4 b5 b6 b7 s0
                  go_wp2
                  go_roundw
                  case rel => exact ⟨q + 1, a3 + 1, hqm, by go_num, by have := HA3.out; have := HA2.out; exact congrArg (Value.int .i64) (by omega), by have := HA3.out; have := HA2.out; omega, by have := HX3.out; omega, by rw [EJ.out], _, by rw [EJ.out]; exact KA.out⟩
                  case measure => simp [intOf]; omega
                -- ENDREGION20
              · have hd : decide ((n : Int) - a - 3 < (L : Int)) = true := decide_eq_true (by omega)
                have E1 := Lib.hid (getC_miss (conf_miss (by rw [HH.out]) HST.out hqm (.inr (by rw [← hL]; omega))))
                clear hL
                go_wp2_with (first
                  | (go_at_call 40; refine CG.out.mono ?_; rintro e w' ⟨rfl, rfl⟩)
                  | (with_reducible refine wpList_stC (lg := 0) (pg := 0) (en := 0) (gn := 0) (A := none) (n := 0) (cap := 0) (lg' := 0) (pg' := 0) (en' := 0) (gn' := 0) (A' := none) (n' := 0) (cap' := 0) rfl (.tmp 2) (.tmp 76) rfl rfl rfl Z4.out ?_; intro wz hRz hFz))
                refine bodyPost_ret (res_ct rfl rfl (hRz.load confT rfl)) rfl ?_
                unfold GotC
                rw [E1.out]
                exact ⟨none, 0, 0, rfl, KRd.nil _ _, by omega, belowz K.out.bel hFz HG.out⟩
            · have cG := RGet_no A n c (a : Int) 2 wr (by omega) (by rw [HW2.out]; omega)
              have CG := Lib.hid cG
              have E1 := Lib.hid (getC_miss (conf_miss (by rw [HH.out]) HST.out hqm (.inl (by omega))))
              clear cG hL
              go_wp2_with (first
                | (go_at_call 40; refine CG.out.mono ?_; rintro e w' ⟨rfl, rfl⟩)
                | (with_reducible refine wpList_stC (lg := 0) (pg := 0) (en := 0) (gn := 0) (A := none) (n := 0) (cap := 0) (lg' := 0) (pg' := 0) (en' := 0) (gn' := 0) (A' := none) (n' := 0) (cap' := 0) rfl (.tmp 2) (.tmp 76) rfl rfl rfl Z4.out ?_; intro wz hRz hFz))
              refine bodyPost_ret (res_ct rfl rfl (hRz.load confT rfl)) rfl ?_
              unfold GotC
              rw [E1.out]
              exact ⟨none, 0, 0, rfl, KRd.nil _ _, by omega, belowz K.out.bel hFz HG.out⟩
          · have hge : ¬ (q : Int) < (m : Int) := by omega
            obtain rfl : q = m := by omega
            have hrl : (l.drop a).length = n - a := by rw [List.length_drop, hl]
            have hgc : getC l = if 0 < n - a then (Cf.none0, 11) else if (Cf.mk lg pg en gn ks).Right then (⟨lg, pg, en, gn, ks⟩, 0) else (Cf.none0, 1) := by
              unfold getC
              rw [HH.out, HST.out, ← HKS.out, hrl]
              simp
            have Z4 := Lib.hid K.out.zz
            by_cases han' : a = n
            · have hne : ((a : Int) != (n : Int)) = false := by rw [han']; simp
              rw [if_neg (by omega)] at hgc
              obtain ⟨A9, c9, e9, hk9, hc9, _⟩ := KRd.of_own K.out.ow
              cases e9
              have hlk := rdKs_lens (l.drop 17, false) q
              rw [← HKS.out] at hlk
              have cR := RRight_any lg pg en gn A' q c' ks wr hk9 (by omega) (fun k hk => by have := hlk k hk; omega)
              have C8 : Hid (Rec 24 wr g3 (cc lg pg en gn A' q c')) := Lib.hid K.out.cf
              have K9 := Lib.hid hk9
              by_cases hR : (Cf.mk lg pg en gn ks).Right
              · rw [if_pos hR] at hgc
                rw [decide_eq_true hR] at cR
                have CR := Lib.hid cR
                have E1 := Lib.hid hgc
                clear hgc cR hR hlk hk9 han' hrl
                go_wp2_with (first
                  | (with_reducible refine wpList_ldC (lg := lg) (pg := pg) (en := en) (gn := gn) (A := A') (n := q) (cap := c') rfl (.tmp 8) rfl rfl C8.out ?_)
                  | (go_at_call 14; refine CR.out.mono ?_; rintro e w5 ⟨rfl, hb5⟩; have C5 := Lib.hid (C8.out.under hb5); have Z5 := Lib.hid (Z4.out.under hb5); have B5 := Lib.hid (K.out.bel.trans (hb5.mono K.out.bel.size)); have K5 := Lib.hid (K9.out.below hb5); clear hb5)
                  | (with_reducible refine wpList_ldC (lg := lg) (pg := pg) (en := en) (gn := gn) (A := A') (n := q) (cap := c') rfl (.tmp 8) rfl rfl C5.out ?_)
                  | (with_reducible refine wpList_stC (lg := 0) (pg := 0) (en := 0) (gn := 0) (A := none) (n := 0) (cap := 0) (lg' := lg) (pg' := pg) (en' := en) (gn' := gn) (A' := A') (n' := q) (cap' := c') rfl (.tmp 2) (.tmp 113) rfl rfl rfl Z5.out ?_; intro wz hRz hFz))
                refine bodyPost_ret (res_ct rfl rfl (hRz.load confT rfl)) rfl ?_
                unfold GotC
                rw [E1.out]
                exact ⟨A', q, c', rfl, K5.out.fr hFz (fun b o e hp hb => K5.out.ne Z5.out b o e hp hb), hm2, belowz B5.out hFz HG.out⟩
              · rw [if_neg hR] at hgc
                rw [decide_eq_false hR] at cR
                have CR := Lib.hid cR
                have E1 := Lib.hid hgc
                clear hgc cR hR hlk hk9 han' hrl
                go_wp2_with (first
                  | (with_reducible refine wpList_ldC (lg := lg) (pg := pg) (en := en) (gn := gn) (A := A') (n := q) (cap := c') rfl (.tmp 8) rfl rfl C8.out ?_)
                  | (go_at_call 14; refine CR.out.mono ?_; rintro e w5 ⟨rfl, hb5⟩; have Z5 := Lib.hid (Z4.out.under hb5); have B5 := Lib.hid (K.out.bel.trans (hb5.mono K.out.bel.size)); clear hb5)
                  | (with_reducible refine wpList_stC (lg := 0) (pg := 0) (en := 0) (gn := 0) (A := none) (n := 0) (cap := 0) (lg' := 0) (pg' := 0) (en' := 0) (gn' := 0) (A' := none) (n' := 0) (cap' := 0) rfl (.tmp 2) (.tmp 112) rfl rfl rfl Z5.out ?_; intro wz hRz hFz))
                refine bodyPost_ret (res_ct rfl rfl (hRz.load confT rfl)) rfl ?_
                unfold GotC
                rw [E1.out]
                exact ⟨none, 0, 0, rfl, KRd.nil _ _, by omega, belowz B5.out hFz HG.out⟩
            · have hne : ((a : Int) != (n : Int)) = true := bne_iff_ne.2 (by omega)
              rw [if_pos (by omega)] at hgc
              have E1 := Lib.hid hgc
              clear hgc hrl
              go_wp2_with (with_reducible refine wpList_stC (lg := 0) (pg := 0) (en := 0) (gn := 0) (A := none) (n := 0) (cap := 0) (lg' := 0) (pg' := 0) (en' := 0) (gn' := 0) (A' := none) (n' := 0) (cap' := 0) rfl (.tmp 2) (.tmp 108) rfl rfl rfl Z4.out ?_; intro wz hRz hFz)
              refine bodyPost_ret (res_ct rfl rfl (hRz.load confT rfl)) rfl ?_
              unfold GotC
              rw [E1.out]
              exact ⟨none, 0, 0, rfl, KRd.nil _ _, by omega, belowz K.out.bel hFz HG.out⟩
      · have cG := RGet_no A n c (16 : Int) 1 x2 (by omega) (by rw [HW1.out]; omega)
        have CG := Lib.hid cG
        have E1 := Lib.hid (getC_miss (rdConf_miss (l := l) (by omega)))
        have Z4 := Lib.hid K2.out.zz
        clear cG
        go_wp2_with (first
          | (go_at_call 40; refine CG.out.mono ?_; rintro e w' ⟨rfl, rfl⟩)
          | (with_reducible refine wpList_stC (lg := 0) (pg := 0) (en := 0) (gn := 0) (A := none) (n := 0) (cap := 0) (lg' := 0) (pg' := 0) (en' := 0) (gn' := 0) (A' := none) (n' := 0) (cap' := 0) rfl (.tmp 2) (.tmp 53) rfl rfl rfl Z4.out ?_; intro wz hRz hFz))
        refine bodyPost_ret (res_ct rfl rfl (hRz.load confT rfl)) rfl ?_
        unfold GotC
        rw [E1.out]
        exact ⟨none, 0, 0, rfl, KRd.nil _ _, by omega, belowz K2.out.bel hFz HG.out⟩
end Go.Proofs.Ytdaenkfkiijlkaa
