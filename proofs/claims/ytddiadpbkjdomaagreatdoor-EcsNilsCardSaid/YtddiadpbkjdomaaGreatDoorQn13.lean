/- EcD -/
import Derived.Test.YtddiadpbkjdomaaGreatDoorQn12
namespace Go.Proofs.YtddiadpbkjdomaaGreatDoor
open Go.RowKit
set_option maxRecDepth 20000

/-- One more entity in the table t of node n. -/
def Ks.put (k : Ks) (id : Int × Int) (n : Nat) (t : Tb) (ps : List Pt) : Ks := { k with pl := fun j => if j = id then some (n, t.rows.length) else k.pl j, tb := upd k.tb n (some (t.add id ps).1) }
section
variable {w : World} {N : Nat} {gr : Nat → Nat} {x : Fx} {k : Ks} {c : Nat} {pt : Nat → Nat}
/-- The table of bits' numbers, below all that is the call's own. -/
def TabN (N : Nat) (w : World) : Prop := 0 < N ∧ TabAt w
theorem TabN.low {w w' : World} {N : Nat} (h : TabN N w) (hb : Below N w w') : TabN N w' := ⟨h.1, fun j hj => (hb.cell (p := ⟨0, j, none⟩) h.1).trans (h.2 j hj)⟩
theorem TabN.go {j : Nat} {w' : World} {gr' : Nat → Nat} (h : TabN N w) (hC : CoJ j w N gr x k c pt) (hG : TGo w gr w' gr') : TabN N w' := h.low (hG.toBelow hC.lo hC.Nle)
theorem TabN.below {j : Nat} {w' : World} (h : TabN N w) (hC : CoJ j w N gr x k c pt) (hb : Below w.heap.size w w') : TabN N w' := h.low (hb.mono hC.Nle)
theorem TGo.gr0 {w w' : World} {gr gr' : Nat → Nat} (h : TGo w gr w' gr') {y : Nat} (hy : gr y = 0) (hl : y < w.heap.size) : gr' y = 0 := by
  refine Classical.byContradiction fun hn => ?_
  rcases h.own y hn with h1 | h1
  · exact h1 hy
  · omega
/-- The places with one more. -/
theorem plF_put (pl : Int × Int → Option (Nat × Nat)) (id : Int × Int) (n r : Nat) (j : Int × Int) : (if j = id then some (plV (n, r)) else plF pl j) = plF (fun j => if j = id then some (n, r) else pl j) j := by
  unfold plF
  by_cases e : j = id
  · simp only [if_pos e, Option.map_some]
  · simp only [if_neg e]
/-- The place is put into the map. -/
theorem CoJ.put_pl (h : CoJ 0 w N gr x k c pt) (hc : c ≤ 1000000) {i g : Int} (hw : okE (i, g)) (n r : Nat) :
    ∃ w', (Instr.mapUpdate 86 (.map (some x.mp)) (.agg #[.int .i64 i, .int .i64 g]) (.agg #[.int .i64 (n : Int), .int .i64 (r : Int)])).run Tryz.prog w = .ok () w' ∧ ∃ gr', CoJ 0 w' N gr' x { k with pl := fun j => if j = (i, g) then some (n, r) else k.pl j } (c + 1) pt ∧ TGo w gr w' gr' ∧ Fr (· = x.mp) w w' := by
  obtain ⟨np, hnp, hm⟩ := h.mpp (by decide)
  obtain ⟨w', hrun, hm', hg⟩ := hm.put kfD Tryz.underlying86 (by unfold maxLen; omega) hw (plV (n, r))
  obtain ⟨gr', h', hG⟩ := h.pl_go (pl' := fun j => if j = (i, g) then some (n, r) else k.pl j) (hm'.congr (fun j _ => plF_put k.pl (i, g) n r j)) hg (show (if (plF k.pl (i, g)).isSome = true then np else np + 1) ≤ c + 1 by split <;> omega) (Nat.le_succ c)
  exact ⟨w', hrun, gr', h', hG, Fr.grown hg (fun y e => by injection e with e; exact e.symm)⟩

theorem eadd_old (h : CoJ 0 w N gr x k c pt) (hT : TabN N w) (hc : c ≤ 1000000) {i g : Int} (hw : okE (i, g)) {n : Nat} (hn : okN n) {t : Tb} (ht : k.tb n = some t) {K : Nat → Prop} {PA : Option Addr} {pn : Nat} {ps : List Pt} (hp : PartsV K w PA pn ps) (hK : ∀ y, K y → gr y = 0) (hpn : pn ≤ 1000000) (pc : Nat) :
    Calls Tryz.prog 77 #[.pointer (some ⟨x.p, 0, none⟩), .agg #[.int .i64 i, .int .i64 g], .int .i64 (n : Int), .slice PA pn pc] w fun e w' => e = .returned (.tuple #[]) ∧ ∃ gr', CoJ 0 w' N gr' x (k.put (i, g) n t ps) (c + 1) pt ∧ TGo w gr w' gr' := by
  obtain ⟨w1, hw1⟩ : ∃ w1, w1 = w.alloc (.cells #[.int .i64 i, .int .i64 g] 39) := ⟨_, rfl⟩
  have hb1 : Below w.heap.size w w1 := by rw [hw1]; exact (Below.refl _ _).alloc (Nat.le_refl _) _
  have r1 : Rec 39 w1 w.heap.size #[.int .i64 i, .int .i64 g] := by rw [hw1]; exact Rec.new w _ _
  have h1 := h.below hb1
  have c7 := h1.c7
  have LT := h1.lookT_ok hn
  rw [show tbV k.tb pt n = some (.pointer (some ⟨pt n, 0, none⟩)) by unfold tbV; rw [ht]; rfl] at LT
  simp only [Option.getD_some, Option.isSome_some] at LT
  obtain ⟨s, tag, m, v, q, hs, hA, hg⟩ := h1.tab n t (by omega) ht
  have h1d := h1.below (Below.refl _ _).drew
  have CL : Hid (Calls Tryz.prog 134 #[.pointer (some ⟨pt n, 0, none⟩)] w1.drew fun e w' => e = .returned (.int .i64 (t.rows.length : Nat)) ∧ w1.drew = w') := Lib.hid (by
    have := tlen_any (hA.below (Below.refl _ _).drew).i
    rw [t.ids_len] at this
    exact this)
  obtain ⟨w2, hrun, gr2, h2, hG2, hF2⟩ := h1d.put_pl hc hw n t.rows.length
  obtain ⟨s', tag', m', v', q', hs', hA2, hg2⟩ := h2.tab n t (by omega) ht
  have hG12 : TGo w gr w2 gr2 := (TGo.ofBelow (hb1.drew)).trans hG2
  have hp2 : PartsV (fun y => K y ∧ y < w.heap.size) w2 PA pn ps := (hp.lt).stays ⟨hG12.fr.size, fun y hy => hG12.fr.block y hy.2 (fun hn => hn (hK y hy.1))⟩
  have CA := Lib.hid (TAdd_go hA2 (hT.go h hG12).2 hp2 (fun y hy => by
    have h0 := hG12.gr0 (hK y hy.1) hy.2
    refine Classical.byContradiction fun hn => ?_
    have := hg2 y hn
    omega) hpn pc i g)
  have HE : Hid (∀ w', TStep w2 N tag' (pt n) m' q' s' (t.add (i, g) ps).1 w' → ∃ gr', CoJ 0 w' N gr' x (k.put (i, g) n t ps) (c + 1) pt ∧ TGo w gr w' gr') := Lib.hid (fun w' hS => by
    obtain ⟨gr', h', hG'⟩ := h2.tab_go ht hs' hg2 hS
    exact ⟨gr', h', hG12.trans hG'⟩)
  have k20 := (hF2.block w.heap.size (show w.heap.size < w1.drew.heap.size from r1.lt) (fun e => by have := h.dom x.mp (by rw [h.gm]; decide); have e' : w.heap.size = x.mp := e; omega))
  have s6 : w1.drew.cell? ⟨x.p, 8, none⟩ = some (.map (some x.mp)) ∧ w1.drew.cell? ⟨w.heap.size, 0, none⟩ = some (.int .i64 i) ∧ w1.drew.cell? ⟨w.heap.size, 1, none⟩ = some (.int .i64 g) := ⟨h1d.c8, r1.at_ 0, r1.at_ 1⟩
  have s7 : w2.cell? ⟨x.p, 8, none⟩ = some (.map (some x.mp)) ∧ w2.cell? ⟨w.heap.size, 0, none⟩ = some (.int .i64 i) ∧ w2.cell? ⟨w.heap.size, 1, none⟩ = some (.int .i64 g) := ⟨h2.c8, (World.cell?_of_block (w := w1.drew) (a := ⟨w.heap.size, 0, none⟩) k20).trans (r1.at_ 0), (World.cell?_of_block (w := w1.drew) (a := ⟨w.heap.size, 1, none⟩) k20).trans (r1.at_ 1)⟩
  have S7 := Lib.hid s7
  obtain ⟨z, hz⟩ : ∃ z : Nat, z = t.rows.length := ⟨_, rfl⟩
  rw [← hz] at CL hrun
  clear h h1 hb1 r1 hA hg h1d h2 hA2 hg2 hG2 hG12 hF2 hp hp2 hK hT k20 hs hs' hz hw hn ht hc
  go_enter Tryz.func77, Tryz.ntmps77
  go_upto_region 6 with (rw [← hw1]; clear hw1)
  refine wp_region_noPanic ?_
  refine wp_region_held_drew (S := fun W => W.cell? ⟨x.p, 8, none⟩ = some (.map (some x.mp)) ∧ W.cell? ⟨w.heap.size, 0, none⟩ = some (.int .i64 i) ∧ W.cell? ⟨w.heap.size, 1, none⟩ = some (.int .i64 g)) (by kernel_rfl) s6 (fun hHeld => ?_)
  refine wpAnyH_take (i := 0) (oi := { dst := some 44, op := Op.move (Operand.tmp 0), type := 30, pos := "ecs.go:236", after := #[], guard := none }) (v := ?_) rfl (by kernel_rfl) (by kernel_rfl) (by kernel_rfl) (fun _ _ _ h => h) (Or.inl ⟨by rfl, ?_⟩) (by assumption) ?_
  rotate_left 1
  · intro w' hSw; (try dsimp only at hSw); go_simp; (try with_reducible rfl)
  simp only [Act.put, List.setIfInBounds_toArray, List.set_cons_zero, List.set_cons_succ]
  refine wpAnyH_take (i := 1) (oi := { dst := some 45, op := Op.nilCheck (Operand.tmp 44), type := 0, pos := "ecs.go:236", after := #[{ on := 0, ground := Ground.data }], guard := none }) (v := ?_) rfl (by kernel_rfl) (by kernel_rfl) (by kernel_rfl) (fun _ _ _ h => h) (Or.inl ⟨by rfl, ?_⟩) (by assumption) ?_
  rotate_left 1
  · intro w' hSw; (try dsimp only at hSw); go_simp; (try with_reducible rfl)
  simp only [Act.put, List.setIfInBounds_toArray, List.set_cons_zero, List.set_cons_succ]
  refine wpAnyH_take (i := 2) (oi := { dst := some 46, op := Op.fieldAddr 88 (Operand.tmp 45) 4, type := 0, pos := "ecs.go:236", after := #[{ on := 1, ground := Ground.data }], guard := none }) (v := ?_) rfl (by kernel_rfl) (by kernel_rfl) (by kernel_rfl) (fun _ _ _ h => h) (Or.inl ⟨by rfl, ?_⟩) (by assumption) ?_
  rotate_left 1
  · intro w' hSw; (try dsimp only at hSw); go_simp; (try with_reducible rfl)
  simp only [Act.put, List.setIfInBounds_toArray, List.set_cons_zero, List.set_cons_succ]
  refine wpAnyH_take (i := 3) (oi := { dst := some 47, op := Op.load 86 (Operand.tmp 46), type := 86, pos := "ecs.go:236", after := #[{ on := 2, ground := Ground.data }], guard := none }) (v := ?_) rfl (by kernel_rfl) (by kernel_rfl) (by kernel_rfl) (fun _ _ _ h => h) (Or.inl ⟨by rfl, ?_⟩) (by assumption) ?_
  rotate_left 1
  · intro w' hSw; (try dsimp only at hSw); go_simp; (try with_reducible rfl)
  simp only [Act.put, List.setIfInBounds_toArray, List.set_cons_zero, List.set_cons_succ]
  refine wpAnyH_take (i := 4) (oi := { dst := some 48, op := Op.load 39 (Operand.tmp 5), type := 39, pos := "ecs.go:236", after := #[], guard := none }) (v := ?_) rfl (by kernel_rfl) (by kernel_rfl) (by kernel_rfl) (fun _ _ _ h => h) (Or.inl ⟨by rfl, ?_⟩) (by assumption) ?_
  rotate_left 1
  · intro w' hSw; (try dsimp only at hSw); go_simp; (try with_reducible rfl)
  simp only [Act.put, List.setIfInBounds_toArray, List.set_cons_zero, List.set_cons_succ]
  refine wpAnyH_take (i := 5) (oi := { dst := some 49, op := Op.move (Operand.tmp 2), type := 3, pos := "ecs.go:236", after := #[], guard := none }) (v := ?_) rfl (by kernel_rfl) (by kernel_rfl) (by kernel_rfl) (fun _ _ _ h => h) (Or.inl ⟨by rfl, ?_⟩) (by assumption) ?_
  rotate_left 1
  · intro w' hSw; (try dsimp only at hSw); go_simp; (try with_reducible rfl)
  simp only [Act.put, List.setIfInBounds_toArray, List.set_cons_zero, List.set_cons_succ]
  refine wpAnyH_take (i := 6) (oi := { dst := some 50, op := Op.move (Operand.tmp 8), type := 108, pos := "ecs.go:236", after := #[], guard := none }) (v := ?_) rfl (by kernel_rfl) (by kernel_rfl) (by kernel_rfl) (fun _ _ _ h => h) (Or.inl ⟨by rfl, ?_⟩) (by assumption) ?_
  rotate_left 1
  · intro w' hSw; (try dsimp only at hSw); go_simp; (try with_reducible rfl)
  simp only [Act.put, List.setIfInBounds_toArray, List.set_cons_zero, List.set_cons_succ]
  refine wpAnyH_ready (rs := [7]) (by kernel_rfl) (by simp) ?_
  refine AllReadyH.cons (o := { dst := some 51, op := Op.call { callee := Callee.value (Operand.func 134), args := #[Operand.tmp 50], argTypes := #[108] }, type := 3, pos := "ecs.go:236", after := #[{ on := 6, ground := Ground.data }], guard := none }) rfl (fun K' hK => ?_) AllReadyH.nil
  go_simp
  go_at_call 134; refine CL.out.mono ?_; rintro e w' ⟨rfl, rfl⟩
  refine hK.out _ _ s6 (fun hHeld => ?_)
  clear hK K'
  try simp only [Act.put, List.setIfInBounds_toArray, List.set_cons_zero, List.set_cons_succ]
  refine wpAnyH_take (i := 8) (oi := { dst := some 52, op := Op.build 107 #[(0, Operand.tmp 49), (1, Operand.tmp 51)], type := 107, pos := "ecs.go:236", after := #[{ on := 5, ground := Ground.data }, { on := 7, ground := Ground.data }], guard := none }) (v := ?_) rfl (by kernel_rfl) (by kernel_rfl) (by kernel_rfl) (fun _ _ _ h => h) (Or.inl ⟨by rfl, ?_⟩) (by assumption) ?_
  rotate_left 1
  · intro w' hSw; (try dsimp only at hSw); go_simp; (try with_reducible rfl)
  simp only [Act.put, List.setIfInBounds_toArray, List.set_cons_zero, List.set_cons_succ]
  refine wpAnyH_ready (rs := [9]) (by kernel_rfl) (by simp) ?_
  refine AllReadyH.cons (o := { dst := none, op := Op.mapUpdate 86 (Operand.tmp 47) (Operand.tmp 48) (Operand.tmp 52), type := 0, pos := "ecs.go:236", after := #[{ on := 3, ground := Ground.data }, { on := 4, ground := Ground.data }, { on := 8, ground := Ground.data }, { on := 7, ground := Ground.chain }, { on := 0, ground := Ground.phase }, { on := 1, ground := Ground.phase }, { on := 2, ground := Ground.phase }, { on := 3, ground := Ground.phase }, { on := 4, ground := Ground.phase }, { on := 5, ground := Ground.phase }, { on := 6, ground := Ground.phase }, { on := 7, ground := Ground.phase }, { on := 8, ground := Ground.phase }], guard := none }) rfl (fun K' hK => ?_) AllReadyH.nil
  go_simp
  refine hK.out _ _ s7 (fun hHeld => ?_)
  clear hK K'
  try simp only [Act.put]
  refine wpAnyH_done (by kernel_rfl) ?_ _
  refine NoPanic.normal ?_
  clear s6 s7 hHeld
  have k0 := S7.out.2.1
  have k1 := S7.out.2.2
  go_wp2_with (go_at_call 135; refine CA.out.mono ?_; rintro e w5 ⟨z5, _, rfl, hS5⟩; have HS5 := Lib.hid hS5; clear hS5 k0 k1)
  go_end0
  exact ⟨rfl, HE.out _ HS5.out⟩

/-- A new table is put into the map. -/
theorem CoJ.put_tab {w2 : World} {n s p' m : Nat} {q : Nat → Nat} {tag : Nat → Nat} {v : Value} {t : Tb} (h : CoJ 0 w N gr x k c pt) (hc : c ≤ 1000000) (hn : okN n) (hb : Below w.heap.size w w2) (hA : TbA w2 w.heap.size tag p' m v q s t) (hs : k.S[n]? = some s) (hi : k.tb n = none) :
    ∃ w', (Instr.mapUpdate 85 (.map (some x.mt)) (.int .i64 (n : Int)) (.pointer (some ⟨p', 0, none⟩))).run Tryz.prog w2 = .ok () w' ∧ ∃ gr', CoJ 0 w' N gr' x { k with tb := upd k.tb n (some t) } (c + 1) (upd pt n p') ∧ TGo w gr w' gr' ∧ Fr (· = x.mt) w2 w' := by
  obtain ⟨nt, hnt, hm⟩ := h.mpt (by decide)
  obtain ⟨w', hrun, hm', hg⟩ := (hm.below hb).put kfN Tryz.underlying85 (by unfold maxLen; omega) hn (.pointer (some ⟨p', 0, none⟩))
  obtain ⟨gr', h', hG⟩ := h.tab_new hb hA hs hi hm' hg (show (if (tbV k.tb pt n).isSome = true then nt else nt + 1) ≤ c + 1 by split <;> omega)
  exact ⟨w', hrun, gr', h', hG, Fr.grown hg (fun y e => by injection e with e; exact e.symm)⟩
theorem eadd_new (h : CoJ 0 w N gr x k c pt) (hT : TabN N w) (hc : c ≤ 100000) {i g : Int} (hw : okE (i, g)) {n : Nat} (hn : okN n) (ht : k.tb n = none) {s : Nat} (hs : k.S[n]? = some s) (hsl : s < 18446744073709551616) (hsub : s &&& ofL (idxs x.n) 64 = s) (hks : x.n ≤ 1000000) {K : Nat → Prop} {PA : Option Addr} {pn : Nat} {ps : List Pt} (hp : PartsV K w PA pn ps) (hK : ∀ y, K y → gr y = 0) (hpn : pn ≤ 1000000) (pc : Nat) :
    Calls Tryz.prog 77 #[.pointer (some ⟨x.p, 0, none⟩), .agg #[.int .i64 i, .int .i64 g], .int .i64 (n : Int), .slice PA pn pc] w fun e w' => e = .returned (.tuple #[]) ∧ ∃ gr' pt', CoJ 0 w' N gr' x (k.put (i, g) n (Tb.new x.n (zsK x.ks) s) ps) (c + 2) pt' ∧ TGo w gr w' gr' := by
  obtain ⟨w1, hw1⟩ : ∃ w1, w1 = w.alloc (.cells #[.int .i64 i, .int .i64 g] 39) := ⟨_, rfl⟩
  have hb1 : Below w.heap.size w w1 := by rw [hw1]; exact (Below.refl _ _).alloc (Nat.le_refl _) _
  have r1 : Rec 39 w1 w.heap.size #[.int .i64 i, .int .i64 g] := by rw [hw1]; exact Rec.new w _ _
  have h1 := h.below hb1
  have c7 := h1.c7
  have c6 := h1.c6
  have k0 : w1.cell? ⟨x.p, 0, none⟩ = some (.int .i64 x.lg) := h1.cell 0
  have k1 : w1.cell? ⟨x.p, 1, none⟩ = some (.int .i64 x.ps) := h1.cell 1
  have k2 : w1.cell? ⟨x.p, 2, none⟩ = some (.int .i64 x.en) := h1.cell 2
  have k3 : w1.cell? ⟨x.p, 3, none⟩ = some (.int .i64 x.gn) := h1.cell 3
  have k4 : w1.cell? ⟨x.p, 4, none⟩ = some (.slice x.A x.n x.cap) := h1.cell 4
  have LT := h1.lookT_ok hn
  rw [show tbV k.tb pt n = none by unfold tbV; rw [ht]; rfl] at LT
  simp only [Option.getD_none, Option.isSome_none] at LT
  obtain ⟨sv, ed, b, _, hGA⟩ := h1.gph (by decide)
  have CS := Lib.hid (Sig_yes hGA n s hs)
  obtain ⟨T0, hT0⟩ : ∃ T0, T0 = Tb.new x.n (zsK x.ks) s := ⟨_, rfl⟩
  have CN : Hid (Calls Tryz.prog 125 #[cv x.lg x.ps x.en x.gn x.A x.n x.cap, .int .u64 (s : Nat)] w1 fun e w2 => ∃ p' m q tag, e = .returned (.pointer (some ⟨p', 0, none⟩)) ∧ TbA w2 w1.heap.size tag p' m nilv q s T0 ∧ Below w1.heap.size w1 w2) := Lib.hid (by
    refine (TNew_any x.lg x.ps x.en x.gn x.A x.n x.cap x.ks w1 h1.kd hks s hsl (hT.2.below hb1)).mono ?_
    rintro e w' ⟨p', m, q, tag, rfl, hI, hB⟩
    have hA := TbA.new hsl hI
    rw [hsub, ← hT0] at hA
    exact ⟨p', m, q, tag, rfl, hA, hB⟩)
  have H1 := Lib.hid (And.intro h1 (And.intro r1 (And.intro hb1 (And.intro hT (And.intro hp h)))))
  have HN := Lib.hid (And.intro hn (And.intro hs (And.intro ht (And.intro hw (And.intro hc (And.intro hK hpn))))))
  rw [← hT0]
  clear h h1 hb1 r1 hp hK hT hs hw hn ht hc hGA hsl hsub hpn hT0
  go_enter Tryz.func77, Tryz.ntmps77
  go_upto_region 5 with (first
    | (rw [← hw1]; clear hw1)
    | (go_at_call 133; refine CS.out.mono ?_; rintro e w' ⟨rfl, rfl⟩)
    | (go_at_call 125; refine CN.out.mono ?_; rintro e w2 ⟨p', m, q, tag, rfl, hA2, hb2⟩; have HA2 := Lib.hid hA2; have HB2 := Lib.hid hb2; clear hA2 hb2 k0 k1 k2 k3 k4 c6))
  obtain ⟨h1, r1, hb1, hT, hp, h⟩ := H1.out
  obtain ⟨hn, hs, ht, hw, hc, hK, hpn⟩ := HN.out
  have c7 : w2.cell? ⟨x.p, 7, none⟩ = some (.map (some x.mt)) := (h1.below HB2.out).c7
  obtain ⟨w3, hrun3, gr3, h3, hG3, hF3⟩ := h1.put_tab (by omega) hn HB2.out HA2.out hs ht
  have r3 := (r1.under HB2.out).fr hF3 (fun e => by have := h.dom x.mt (by rw [h.gt]; decide); have e' : w.heap.size = x.mt := e; omega)
  have h3d := h3.below (Below.refl _ _).drew
  obtain ⟨s4, tag4, m4, v4, q4, hs4, hA4, hg4⟩ := h3d.tab n T0 (by omega) (if_pos rfl)
  have CL : Hid (Calls Tryz.prog 134 #[.pointer (some ⟨p', 0, none⟩)] w3.drew fun e w' => e = .returned (.int .i64 (T0.rows.length : Nat)) ∧ w3.drew = w') := Lib.hid (by
    have := tlen_any hA4.i
    rw [T0.ids_len, show upd pt n p' n = p' from if_pos rfl] at this
    exact this)
  obtain ⟨w5, hrun5, gr5, h5, hG5, hF5⟩ := h3d.put_pl (by omega) hw n T0.rows.length
  obtain ⟨s6', tag6, m6, v6, q6, hs6, hA6, hg6⟩ := h5.tab n T0 (by omega) (if_pos rfl)
  have hG05 : TGo w gr w5 gr5 := (TGo.ofBelow hb1).trans (hG3.trans ((TGo.ofBelow (Below.refl _ _).drew).trans hG5))
  have hp5 : PartsV (fun y => K y ∧ y < w.heap.size) w5 PA pn ps := (hp.lt).stays ⟨hG05.fr.size, fun y hy => hG05.fr.block y hy.2 (fun hn => hn (hK y hy.1))⟩
  have CA := TAdd_go hA6 (hT.go h hG05).2 hp5 (fun y hy => by
    have h0 := hG05.gr0 (hK y hy.1) hy.2
    refine Classical.byContradiction fun hn => ?_
    have := hg6 y hn
    omega) hpn pc i g
  rw [show upd pt n p' n = p' from if_pos rfl] at CA
  have CA := Lib.hid CA
  have HE : Hid (∀ w', TStep w5 N tag6 p' m6 q6 s6' (T0.add (i, g) ps).1 w' → ∃ gr' pt', CoJ 0 w' N gr' x (k.put (i, g) n T0 ps) (c + 2) pt' ∧ TGo w gr w' gr') := Lib.hid (fun w' hS => by
    obtain ⟨gr', h', hG'⟩ := h5.tab_go (i := n) (if_pos rfl) hs6 hg6 (by rw [show upd pt n p' n = p' from if_pos rfl]; exact hS)
    refine ⟨gr', upd pt n p', ?_, hG05.trans hG'⟩
    have e : upd (upd k.tb n (some T0)) n (some (T0.add (i, g) ps).1) = upd k.tb n (some (T0.add (i, g) ps).1) := by
      funext a
      unfold upd
      split <;> rfl
    simp only [e] at h'
    exact h')
  have k50 := (hF5.block w.heap.size (show w.heap.size < w3.drew.heap.size from r3.lt) (fun e => by have := h.dom x.mp (by rw [h.gm]; decide); have e' : w.heap.size = x.mp := e; omega))
  have s6 : w3.drew.cell? ⟨x.p, 8, none⟩ = some (.map (some x.mp)) ∧ w3.drew.cell? ⟨w.heap.size, 0, none⟩ = some (.int .i64 i) ∧ w3.drew.cell? ⟨w.heap.size, 1, none⟩ = some (.int .i64 g) := ⟨h3d.c8, r3.at_ 0, r3.at_ 1⟩
  have s7 : w5.cell? ⟨x.p, 8, none⟩ = some (.map (some x.mp)) ∧ w5.cell? ⟨w.heap.size, 0, none⟩ = some (.int .i64 i) ∧ w5.cell? ⟨w.heap.size, 1, none⟩ = some (.int .i64 g) := ⟨h5.c8, (World.cell?_of_block (w := w3.drew) (a := ⟨w.heap.size, 0, none⟩) k50).trans (r3.at_ 0), (World.cell?_of_block (w := w3.drew) (a := ⟨w.heap.size, 1, none⟩) k50).trans (r3.at_ 1)⟩
  have S7 := Lib.hid s7
  have S6 := Lib.hid s6
  obtain ⟨z, hz⟩ : ∃ z : Nat, z = T0.rows.length := ⟨_, rfl⟩
  rw [← hz] at CL hrun5
  have R5 := Lib.hid hrun5
  clear h h1 hb1 r1 h3 h3d hA4 hg4 h5 hA6 hg6 hG3 hG5 hG05 hF3 hF5 hp hp5 hK hT k50 hs hs4 hs6 hz hw hn ht hc hpn r3 s6 s7 hrun5 HA2 HB2 CN CS H1 HN LT
  go_upto_region 6 with fail
  have s6 := S6.out
  have s7 := S7.out
  have hrun5 := R5.out
  refine wp_region_noPanic ?_
  refine wp_region_held_drew (S := fun W => W.cell? ⟨x.p, 8, none⟩ = some (.map (some x.mp)) ∧ W.cell? ⟨w.heap.size, 0, none⟩ = some (.int .i64 i) ∧ W.cell? ⟨w.heap.size, 1, none⟩ = some (.int .i64 g)) (by kernel_rfl) s6 (fun hHeld => ?_)
  refine wpAnyH_take (i := 0) (oi := { dst := some 44, op := Op.move (Operand.tmp 0), type := 30, pos := "ecs.go:236", after := #[], guard := none }) (v := ?_) rfl (by kernel_rfl) (by kernel_rfl) (by kernel_rfl) (fun _ _ _ h => h) (Or.inl ⟨by rfl, ?_⟩) (by assumption) ?_
  rotate_left 1
  · intro w' hSw; (try dsimp only at hSw); go_simp; (try with_reducible rfl)
  simp only [Act.put, List.setIfInBounds_toArray, List.set_cons_zero, List.set_cons_succ]
  refine wpAnyH_take (i := 1) (oi := { dst := some 45, op := Op.nilCheck (Operand.tmp 44), type := 0, pos := "ecs.go:236", after := #[{ on := 0, ground := Ground.data }], guard := none }) (v := ?_) rfl (by kernel_rfl) (by kernel_rfl) (by kernel_rfl) (fun _ _ _ h => h) (Or.inl ⟨by rfl, ?_⟩) (by assumption) ?_
  rotate_left 1
  · intro w' hSw; (try dsimp only at hSw); go_simp; (try with_reducible rfl)
  simp only [Act.put, List.setIfInBounds_toArray, List.set_cons_zero, List.set_cons_succ]
  refine wpAnyH_take (i := 2) (oi := { dst := some 46, op := Op.fieldAddr 88 (Operand.tmp 45) 4, type := 0, pos := "ecs.go:236", after := #[{ on := 1, ground := Ground.data }], guard := none }) (v := ?_) rfl (by kernel_rfl) (by kernel_rfl) (by kernel_rfl) (fun _ _ _ h => h) (Or.inl ⟨by rfl, ?_⟩) (by assumption) ?_
  rotate_left 1
  · intro w' hSw; (try dsimp only at hSw); go_simp; (try with_reducible rfl)
  simp only [Act.put, List.setIfInBounds_toArray, List.set_cons_zero, List.set_cons_succ]
  refine wpAnyH_take (i := 3) (oi := { dst := some 47, op := Op.load 86 (Operand.tmp 46), type := 86, pos := "ecs.go:236", after := #[{ on := 2, ground := Ground.data }], guard := none }) (v := ?_) rfl (by kernel_rfl) (by kernel_rfl) (by kernel_rfl) (fun _ _ _ h => h) (Or.inl ⟨by rfl, ?_⟩) (by assumption) ?_
  rotate_left 1
  · intro w' hSw; (try dsimp only at hSw); go_simp; (try with_reducible rfl)
  simp only [Act.put, List.setIfInBounds_toArray, List.set_cons_zero, List.set_cons_succ]
  refine wpAnyH_take (i := 4) (oi := { dst := some 48, op := Op.load 39 (Operand.tmp 5), type := 39, pos := "ecs.go:236", after := #[], guard := none }) (v := ?_) rfl (by kernel_rfl) (by kernel_rfl) (by kernel_rfl) (fun _ _ _ h => h) (Or.inl ⟨by rfl, ?_⟩) (by assumption) ?_
  rotate_left 1
  · intro w' hSw; (try dsimp only at hSw); go_simp; (try with_reducible rfl)
  simp only [Act.put, List.setIfInBounds_toArray, List.set_cons_zero, List.set_cons_succ]
  refine wpAnyH_take (i := 5) (oi := { dst := some 49, op := Op.move (Operand.tmp 2), type := 3, pos := "ecs.go:236", after := #[], guard := none }) (v := ?_) rfl (by kernel_rfl) (by kernel_rfl) (by kernel_rfl) (fun _ _ _ h => h) (Or.inl ⟨by rfl, ?_⟩) (by assumption) ?_
  rotate_left 1
  · intro w' hSw; (try dsimp only at hSw); go_simp; (try with_reducible rfl)
  simp only [Act.put, List.setIfInBounds_toArray, List.set_cons_zero, List.set_cons_succ]
  refine wpAnyH_take (i := 6) (oi := { dst := some 50, op := Op.move (Operand.tmp 8), type := 108, pos := "ecs.go:236", after := #[], guard := none }) (v := ?_) rfl (by kernel_rfl) (by kernel_rfl) (by kernel_rfl) (fun _ _ _ h => h) (Or.inl ⟨by rfl, ?_⟩) (by assumption) ?_
  rotate_left 1
  · intro w' hSw; (try dsimp only at hSw); go_simp; (try with_reducible rfl)
  simp only [Act.put, List.setIfInBounds_toArray, List.set_cons_zero, List.set_cons_succ]
  refine wpAnyH_ready (rs := [7]) (by kernel_rfl) (by simp) ?_
  refine AllReadyH.cons (o := { dst := some 51, op := Op.call { callee := Callee.value (Operand.func 134), args := #[Operand.tmp 50], argTypes := #[108] }, type := 3, pos := "ecs.go:236", after := #[{ on := 6, ground := Ground.data }], guard := none }) rfl (fun K' hK => ?_) AllReadyH.nil
  go_simp
  go_at_call 134; refine CL.out.mono ?_; rintro e w' ⟨rfl, rfl⟩
  refine hK.out _ _ s6 (fun hHeld => ?_)
  clear hK K'
  try simp only [Act.put, List.setIfInBounds_toArray, List.set_cons_zero, List.set_cons_succ]
  refine wpAnyH_take (i := 8) (oi := { dst := some 52, op := Op.build 107 #[(0, Operand.tmp 49), (1, Operand.tmp 51)], type := 107, pos := "ecs.go:236", after := #[{ on := 5, ground := Ground.data }, { on := 7, ground := Ground.data }], guard := none }) (v := ?_) rfl (by kernel_rfl) (by kernel_rfl) (by kernel_rfl) (fun _ _ _ h => h) (Or.inl ⟨by rfl, ?_⟩) (by assumption) ?_
  rotate_left 1
  · intro w' hSw; (try dsimp only at hSw); go_simp; (try with_reducible rfl)
  simp only [Act.put, List.setIfInBounds_toArray, List.set_cons_zero, List.set_cons_succ]
  refine wpAnyH_ready (rs := [9]) (by kernel_rfl) (by simp) ?_
  refine AllReadyH.cons (o := { dst := none, op := Op.mapUpdate 86 (Operand.tmp 47) (Operand.tmp 48) (Operand.tmp 52), type := 0, pos := "ecs.go:236", after := #[{ on := 3, ground := Ground.data }, { on := 4, ground := Ground.data }, { on := 8, ground := Ground.data }, { on := 7, ground := Ground.chain }, { on := 0, ground := Ground.phase }, { on := 1, ground := Ground.phase }, { on := 2, ground := Ground.phase }, { on := 3, ground := Ground.phase }, { on := 4, ground := Ground.phase }, { on := 5, ground := Ground.phase }, { on := 6, ground := Ground.phase }, { on := 7, ground := Ground.phase }, { on := 8, ground := Ground.phase }], guard := none }) rfl (fun K' hK => ?_) AllReadyH.nil
  go_simp
  refine hK.out _ _ s7 (fun hHeld => ?_)
  clear hK K'
  try simp only [Act.put]
  refine wpAnyH_done (by kernel_rfl) ?_ _
  refine NoPanic.normal ?_
  clear s6 s7 hHeld
  have k0 := S7.out.2.1
  have k1 := S7.out.2.2
  go_wp2_with (go_at_call 135; refine CA.out.mono ?_; rintro e w7 ⟨z5, _, rfl, hS5⟩; have HS5 := Lib.hid hS5; clear hS5 k0 k1)
  go_end0
  exact ⟨rfl, HE.out _ HS5.out⟩
end
end Go.Proofs.YtddiadpbkjdomaaGreatDoor
