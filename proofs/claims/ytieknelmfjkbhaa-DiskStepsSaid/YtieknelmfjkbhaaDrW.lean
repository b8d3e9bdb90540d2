/- The law DiskSteps, walked. -/
import Derived.Test.YtieknelmfjkbhaaDr13
import Derived.Test.YtieknelmfjkbhaaDkO
import Derived.BigQuiet
import Derived.Deep.QuietTactic
import Derived.IntWalk
namespace Go.Proofs.Ytieknelmfjkbhaa
open Go.RowKit Go.Maps

/-- The store of a device by value, as a step of a region that draws its order. -/
theorem step_stR {ops : Array Oper} {o : Oper} {a : Act} {w : World} {J : Act → World → Prop} {Q : Exit → Act → World → Prop} {E : Prop} {g : Nat} {d d' : Rf} (hgd : o.guard = none) (x y : Operand) (ho : o.op = .store 30 x y)
    (hx : a.eval x = .pointer (some ⟨g, 0, none⟩)) (hy : a.eval y = d'.v) (h : RAt w g d)
    (kk : ∀ w', RAt w' g d' → Fr (· = g) w w' → J (a.put o.dst undef) w') : if Region.wanted o (yielded ops a.tmps) = true then Oper.wp Try.prog o a w J Q else E := by
  have hw : Region.wanted o (yielded ops a.tmps) = true := by simp [Region.wanted, hgd]
  rw [if_pos hw]
  obtain ⟨w', hrun, h1, h2⟩ := h.store d'
  unfold Oper.wp execOp
  simp only [ho, hx, hy, hrun, Sem.run_bind, Sem.run_pure, Result.andThen_ok]
  exact kk w' h1 h2

theorem Dev.fr {w0 w w' : World} {N p K : Nat} {keep : Nat → Prop} {P : St → Prop} (h : Dev w0 w N p K keep P) {g : Nat} (hg : keep g) (h0 : w0.heap.size ≤ g) (hF : Fr (· = g) w w') : Dev w0 w' N p K keep P := by
  obtain ⟨own, s, h1, h2, h3, ⟨hd, m, sv, f, D⟩, h5, h6⟩ := h
  exact ⟨own, s, h1.trans (hF.toBelow (fun x hx => by rw [show x = g from hx]; exact h0) h1.size), h2, fun x hx => ⟨Nat.lt_of_lt_of_le (h3 x hx).1 hF.size, (h3 x hx).2⟩, ⟨fun x hx => Nat.lt_of_lt_of_le (hd x hx) hF.size, m, sv, f, D.kept hF (fun x hx e => (h3 g hg).2 (by rw [← show x = g from e]; exact hx))⟩, h5, h6⟩
theorem Dev.n {w0 w : World} {N p K : Nat} {keep : Nat → Prop} {r : Rs} (h : Dev w0 w N p K keep (fun s => Agree s r)) : r.safe.length = K := by
  obtain ⟨own, s, h1, h2, h3, _, h5, h6⟩ := h
  rw [h6.n, h5]

/-- What holds ahead of each step. -/
def StepI (w : World) (p g K : Nat) (j : Nat) (wr : World) : Prop :=
  ∃ (kr : Nat → Prop) (r : Rs) (d : Rf), ¬ kr g ∧ w.heap.size ≤ g ∧ Dev w wr (2 * j) p K (fun x => kr x ∨ x = g) (fun s => Agree s r) ∧ RAt wr g d ∧ RSt kr wr d r j ∧ d.sn = K

set_option maxRecDepth 100000 in
set_option maxHeartbeats 2000000 in
theorem DiskSteps_walk (nB : Int) (hB : 0 ≤ nB ∧ nB ≤ 255) (A : Option Addr) (n c : Nat) (st : List Stp) (w : World)
    (h : SRd w A n st) (hn : (n : Int) ≤ 9223372036854775807) :
    Calls Try.prog 3 #[.int .u8 nB, .slice A n c] w fun e w' => e = .returned (.bool true) ∧ Below w.heap.size w w' := by
  obtain ⟨K, hK, hK7⟩ : ∃ K : Nat, nB % 8 = (K : Int) ∧ K ≤ 7 := ⟨(nB % 8).toNat, by omega, by omega⟩
  have HK := Lib.hid hK
  clear hK
  have HL := Lib.hid (live_any w)
  have HM1 := Lib.hid (Much_any w A n c st h hn)
  have H := Lib.hid h
  clear h
  go_enter Try.func3, Try.ntmps3
  go_wp2_with fail
  refine HM1.out.mono ?_
  rintro e w' ⟨rfl, r, rfl, hr⟩
  cases r
  case true =>
    clear hr
    go_wp2_with (go_at_call 7; refine HL.out.mono ?_; rintro e w1 ⟨rfl, hB1⟩)
    go_ret
    exact ⟨rfl, hB1⟩
  have hS1 := hr rfl
  have HS1 := Lib.hid hS1
  clear hr hS1
  go_wp2_with fail
  rw [HK.out]
  have cN := New_dev (K : Int) w ⟨by omega, by omega⟩
  rw [Int.toNat_natCast] at cN
  refine cN.mono ?_
  rintro e w1 ⟨p, rfl, hD1⟩
  have hD1' := hD1.imp (Q := fun s => Agree s ⟨List.replicate K zero512, [], -1, false, 0, 0⟩) (fun s _ hs => by rw [hs]; exact fresh_agree K)
  have HD1 := Lib.hid hD1'
  clear cN hD1 hD1'
  go_wp2_with fail
  try rw [HK.out]
  refine (RNew_any K w1 hK7).mono ?_
  rintro e w2 ⟨A2, c2, vs, rfl, ho2, hH2, hB2⟩
  unfold rv
  obtain ⟨w3, hw3⟩ : ∃ w3, w3 = w2.alloc (.cells #[.slice A2 K c2, .slice none 0 0, .int .i64 (-1), .bool false, .int .i64 0, .int .i64 0] 30) := ⟨_, rfl⟩
  have hB3 : Below w2.heap.size w2 w3 := by rw [hw3]; exact (Below.refl _ _).alloc (Nat.le_refl _) _
  have hR3 : RAt w3 w2.heap.size ⟨A2, K, c2, none, 0, 0, -1, false, 0, 0⟩ := by rw [hw3]; exact RAt.new w2 ⟨A2, K, c2, none, 0, 0, -1, false, 0, 0⟩
  have hI : StepI w p w2.heap.size K 0 w3 := by
    obtain ⟨A', c', e', _, _, hA'⟩ := own_row ho2
    cases e'
    have hrows : RowsK (fun x => w1.heap.size ≤ x ∧ x < w2.heap.size) w2 A2 K (List.replicate K zero512) := ⟨vs, by simp, hA', hH2.hdS⟩
    have hDev := (HD1.out.below hB2).more hB3 (fun x => x = w2.heap.size) (fun x hx => by rw [hx]; exact ⟨Nat.le_refl _, hR3.lt⟩)
    have hDev1 := HD1.out.more hB2 (fun x => w1.heap.size ≤ x ∧ x < w2.heap.size) (fun x hx => hx)
    have hDev2 := hDev1.more hB3 (fun x => x = w2.heap.size) (fun x hx => by rw [hx]; exact ⟨Nat.le_refl _, hR3.lt⟩)
    refine ⟨fun x => w1.heap.size ≤ x ∧ x < w2.heap.size, ⟨List.replicate K zero512, [], -1, false, 0, 0⟩, ⟨A2, K, c2, none, 0, 0, -1, false, 0, 0⟩, fun hx => by omega, ?_, hDev2.less (fun x hx => by rcases hx with h | h; exact .inl (.inr h); exact .inr h), hR3, ⟨hrows.below hB3, ⟨[], rfl, ⟨rfl, fun h => absurd h (Nat.lt_irrefl 0)⟩, ⟨rfl, fun j hj => absurd hj (Nat.not_lt_zero j)⟩⟩, fun x hx => absurd hx List.not_mem_nil, by show K ≤ 4096; omega, Nat.le_refl _, show (0 : Int) ≤ 0 ∧ (0 : Int) ≤ ((0 : Nat) : Int) by decide, show (0 : Int) ≤ 0 ∧ (0 : Int) ≤ ((0 : Nat) : Int) by decide, show (-9223372036854775808 : Int) ≤ -1 ∧ (-1 : Int) ≤ 9223372036854775807 by decide, rfl, rfl, rfl, rfl⟩, rfl⟩
    have := HD1.out.under.size
    have := hB2.size
    omega
  obtain ⟨g, hg⟩ : ∃ g, g = w2.heap.size := ⟨_, rfl⟩
  rw [← hg] at hI
  have HI := Lib.hid hI
  clear ho2 hH2 hB2 hB3 hR3 hI HD1
  go_wp2_with (first | (rw [← hw3]; clear hw3))
  rw [← hg]
  clear hg
  go_loopw [8] (fun iv wr => ∃ j : Nat, j ≤ n ∧ iv = .int .i64 j ∧ StepI w p g K j wr) (fun iv _ => n - (intOf iv).toNat)
  case atStart => exact ⟨0, Nat.zero_le _, rfl, HI.out⟩
  case round =>
    obtain ⟨j, hj, rfl, hI⟩ := hrel
    by_cases hlt : j < n
    · obtain ⟨kr, r, d, hkg, hwg, hD, hR, hRS, hdK⟩ := hI
      have hn60 := HS1.out.1
      have hw := H.out.below hD.under
      obtain ⟨b, o, hA, hbw, hc⟩ := hw.2.1 (by omega)
      have hjl : j < st.length := by have := hw.1; omega
      obtain ⟨k0, k1, k2, k3⟩ := hc j hjl
      obtain ⟨y, hy⟩ : ∃ y, y = st[j] := ⟨_, rfl⟩
      have hym : y ∈ st := by rw [hy]; exact List.getElem_mem hjl
      have hy2 := HS1.out.2 y hym
      rw [← hy] at k0 k1 k2 k3
      obtain ⟨r', L', cd, hgo⟩ : ∃ r' L' cd, r.go y = (r', L', cd) := ⟨_, _, _, rfl⟩
      have hdo := do_devA hD (by omega) y (H.out.2.2 y hym) (by omega)
      rw [hgo] at hdo
      simp only [Stp.val] at hdo
      have HDO := Lib.hid hdo
      have HGO := Lib.hid hgo
      have HY := Lib.hid hy
      clear hw hc hdo hD hy
      subst hA
      go_wp2_with (go_at_call 10; refine HDO.out.mono ?_; rintro e w2 ⟨A2, n2, c2, rfl, hn2, hr2, hD2, hS2⟩)
      have hw2 := H.out.below hD2.under
      obtain ⟨b', o', e', hbw2, hc2⟩ := hw2.2.1 (by omega)
      cases e'
      obtain ⟨k0, k1, k2, k3⟩ := hc2 j hjl
      rw [← HY.out] at k0 k1 k2 k3
      have hR2 : RAt w2 g d := (hS2.2 g (.inr rfl)).trans hR
      have hRS2 : RSt kr w2 d r j := hRS.stays (hS2.less (fun x hx => .inl hx))
      have hsk2 := hw2.2.2 y hym
      clear hw2 hc2
      have hn2' : (2 : Int) ≤ 3 := by decide
      have hblt : b < w2.heap.size := hbw2
      obtain ⟨SA, sn, sc, WA, wn, wc, fuse, off, rdd, wrr⟩ := d
      have CG : ∀ W, Below w2.heap.size w2 W → Calls Try.prog 11 #[.agg #[.slice SA sn sc, .slice WA wn wc, .int .i64 fuse, .bool off, .int .i64 rdd, .int .i64 wrr], .agg #[.int .i64 y.d, .int .i64 y.a, .slice y.bA y.bn y.bc, .slice y.fA y.fn y.fc]] W (fun e w' => ∃ (d' : Rf) (A : Option Addr) (n c : Nat), e = .returned (.tuple #[d'.v, .slice A n c, .int .i64 cd]) ∧ n ≤ 512 ∧ Rd w' A n L' ∧ RSt (fun x => (kr x ∧ x < w2.heap.size) ∨ (W.heap.size ≤ x ∧ x < w'.heap.size)) w' d' r' (j + 1) ∧ Below W.heap.size W w') := fun W hW => by
        have hh := Go_any (hRS2.lt.below hW) (by omega) y (hsk2.below hW) (by omega)
        unfold RDid at hh
        rw [hgo] at hh
        exact hh
      have CG := Lib.hid CG
      clear hgo
      have bd : Below w2.heap.size w2 w2.drew := (Below.refl _ _).drew
      have SS : ∀ W, Below w2.heap.size w2 W → ((W.cell? ⟨g, 0, none⟩ = some (.slice SA sn sc) ∧ W.cell? ⟨g, 1, none⟩ = some (.slice WA wn wc) ∧ W.cell? ⟨g, 2, none⟩ = some (.int .i64 fuse) ∧ W.cell? ⟨g, 3, none⟩ = some (.bool off) ∧ W.cell? ⟨g, 4, none⟩ = some (.int .i64 rdd) ∧ W.cell? ⟨g, 5, none⟩ = some (.int .i64 wrr)) ∧ W.cell? ⟨b, o + j * 4, none⟩ = some (.int .i64 y.d) ∧ W.cell? ⟨b, o + j * 4 + 1, none⟩ = some (.int .i64 y.a) ∧ W.cell? ⟨b, o + j * 4 + 2, none⟩ = some (.slice y.bA y.bn y.bc) ∧ W.cell? ⟨b, o + j * 4 + 3, none⟩ = some (.slice y.fA y.fn y.fc)) := fun W hW =>
        ⟨⟨(hR2.under hW).h0, (hR2.under hW).h1, (hR2.under hW).h2, (hR2.under hW).h3, (hR2.under hW).h4, (hR2.under hW).h5⟩, (hW.cell (p := ⟨b, o + j * 4, none⟩) hblt).trans k0, (hW.cell (p := ⟨b, o + j * 4 + 1, none⟩) hblt).trans k1, (hW.cell (p := ⟨b, o + j * 4 + 2, none⟩) hblt).trans k2, (hW.cell (p := ⟨b, o + j * 4 + 3, none⟩) hblt).trans k3⟩
      have SS := Lib.hid SS
      have s0d := SS.out _ bd
      have HD2 := Lib.hid hD2
      have HR2 := Lib.hid hR2
      have HRS2 := Lib.hid hRS2
      have HRD2 := Lib.hid hr2
      clear hD2 hR2 hRS2 hr2 hsk2 hR hRS hS2 k0 k1 k2 k3
      refine wp_region_noPanic ?_
      refine wp_region_held_drew (S := fun W => ((W.cell? ⟨g, 0, none⟩ = some (.slice SA sn sc) ∧ W.cell? ⟨g, 1, none⟩ = some (.slice WA wn wc) ∧ W.cell? ⟨g, 2, none⟩ = some (.int .i64 fuse) ∧ W.cell? ⟨g, 3, none⟩ = some (.bool off) ∧ W.cell? ⟨g, 4, none⟩ = some (.int .i64 rdd) ∧ W.cell? ⟨g, 5, none⟩ = some (.int .i64 wrr)) ∧ W.cell? ⟨b, o + j * 4, none⟩ = some (.int .i64 y.d) ∧ W.cell? ⟨b, o + j * 4 + 1, none⟩ = some (.int .i64 y.a) ∧ W.cell? ⟨b, o + j * 4 + 2, none⟩ = some (.slice y.bA y.bn y.bc) ∧ W.cell? ⟨b, o + j * 4 + 3, none⟩ = some (.slice y.fA y.fn y.fc))) (by kernel_rfl) s0d (fun hHeld => ?_)
      refine wpAnyH_take (i := 0) (oi := { dst := some 42, op := Op.load 30 (Operand.tmp 7), type := 30, pos := "law.go:61", after := #[], guard := none }) (v := ?_) rfl (by kernel_rfl) (by kernel_rfl) (by kernel_rfl) (fun _ _ _ h => h) (Or.inl ⟨by rfl, ?_⟩) (by assumption) ?_
      rotate_left 1
      · intro w' hSw; (try dsimp only at hSw); go_simp; (try with_reducible rfl)
      simp only [Act.put, List.setIfInBounds_toArray, List.set_cons_zero, List.set_cons_succ]
      refine wpAnyH_take (i := 1) (oi := { dst := some 43, op := Op.move (Operand.tmp 1), type := 22, pos := "law.go:61", after := #[], guard := none }) (v := ?_) rfl (by kernel_rfl) (by kernel_rfl) (by kernel_rfl) (fun _ _ _ h => h) (Or.inl ⟨by rfl, ?_⟩) (by assumption) ?_
      rotate_left 1
      · intro w' hSw; (try dsimp only at hSw); go_simp; (try with_reducible rfl)
      simp only [Act.put, List.setIfInBounds_toArray, List.set_cons_zero, List.set_cons_succ]
      refine wpAnyH_take (i := 2) (oi := { dst := some 44, op := Op.move (Operand.tmp 8), type := 3, pos := "law.go:61", after := #[], guard := none }) (v := ?_) rfl (by kernel_rfl) (by kernel_rfl) (by kernel_rfl) (fun _ _ _ h => h) (Or.inl ⟨by rfl, ?_⟩) (by assumption) ?_
      rotate_left 1
      · intro w' hSw; (try dsimp only at hSw); go_simp; (try with_reducible rfl)
      simp only [Act.put, List.setIfInBounds_toArray, List.set_cons_zero, List.set_cons_succ]
      refine wpAnyH_take (i := 3) (oi := { dst := some 45, op := Op.indexAddr 22 (Operand.tmp 43) (Operand.tmp 44), type := 0, pos := "law.go:61", after := #[{ on := 1, ground := Ground.data }, { on := 2, ground := Ground.data }], guard := none }) (v := ?_) rfl (by kernel_rfl) (by kernel_rfl) (by kernel_rfl) (fun _ _ _ h => h) (Or.inl ⟨by rfl, ?_⟩) (by assumption) ?_
      rotate_left 1
      · intro w' hSw; (try dsimp only at hSw); go_simp; (try with_reducible rfl)
      simp only [Act.put, List.setIfInBounds_toArray, List.set_cons_zero, List.set_cons_succ]
      refine wpAnyH_take (i := 4) (oi := { dst := some 46, op := Op.load 37 (Operand.tmp 45), type := 37, pos := "law.go:61", after := #[{ on := 3, ground := Ground.data }], guard := none }) (v := ?_) rfl (by kernel_rfl) (by kernel_rfl) (by kernel_rfl) (fun _ _ _ h => h) (Or.inl ⟨by rfl, ?_⟩) (by assumption) ?_
      rotate_left 1
      · intro w' hSw; (try dsimp only at hSw); go_simp; (try with_reducible rfl)
      simp only [Act.put, List.setIfInBounds_toArray, List.set_cons_zero, List.set_cons_succ]
      refine wpAnyH_ready (rs := [5, 10]) (by kernel_rfl) (by simp) ?_
      refine AllReadyH.cons (o := { dst := some 47, op := Op.call { callee := Callee.value (Operand.func 11), args := #[Operand.tmp 42, Operand.tmp 46], argTypes := #[30, 37] }, type := 38, pos := "law.go:61", after := #[{ on := 0, ground := Ground.data }, { on := 4, ground := Ground.data }], guard := none }) rfl (fun K' hK => ?_) (AllReadyH.cons (o := { dst := some 11, op := Op.alloc 30, type := 0, pos := "law.go:61", after := #[], guard := none }) rfl (fun K' hK => ?_) AllReadyH.nil)
      · go_simp
        go_at_call 11; refine (CG.out _ bd).mono ?_; rintro e w3 ⟨d3, A3, n3, c3, rfl, hn3, hr3, hR3, hB3⟩
        obtain ⟨SA3, sn3, sc3, WA3, wn3, wc3, fuse3, off3, rd3, wr3⟩ := d3
        have hB23 := bd.trans (hB3.mono bd.size)
        have s3 := SS.out w3 hB23
        have HR3 := Lib.hid (hR3.mono (K' := fun x => (kr x ∧ x < w2.heap.size) ∨ (w2.heap.size ≤ x ∧ x < w3.heap.size)) (fun x hx => hx))
        have HRD3 := Lib.hid hr3
        have HB23 := Lib.hid hB23
        clear hr3 hR3 hB3 hB23
        simp only [Rf.v, rv]
        refine hK.out _ _ s3 (fun hHeld => ?_)
        clear hK K'
        try simp only [Act.put, List.setIfInBounds_toArray, List.set_cons_zero, List.set_cons_succ]
        refine wpAnyH_take (i := 6) (oi := { dst := some 41, op := Op.move (Operand.tmp 47), type := 38, pos := "law.go:61", after := #[{ on := 5, ground := Ground.data }], guard := none }) (v := ?_) rfl (by kernel_rfl) (by kernel_rfl) (by kernel_rfl) (fun _ _ _ h => h) (Or.inl ⟨by rfl, ?_⟩) (by assumption) ?_
        rotate_left 1
        · intro w' hSw; (try dsimp only at hSw); go_simp; (try with_reducible rfl)
        simp only [Act.put, List.setIfInBounds_toArray, List.set_cons_zero, List.set_cons_succ]
        refine wpAnyH_take (i := 7) (oi := { dst := some 48, op := Op.extract (Operand.tmp 41) 0, type := 30, pos := "law.go:61", after := #[{ on := 6, ground := Ground.data }], guard := none }) (v := ?_) rfl (by kernel_rfl) (by kernel_rfl) (by kernel_rfl) (fun _ _ _ h => h) (Or.inl ⟨by rfl, ?_⟩) (by assumption) ?_
        rotate_left 1
        · intro w' hSw; (try dsimp only at hSw); go_simp; (try with_reducible rfl)
        simp only [Act.put, List.setIfInBounds_toArray, List.set_cons_zero, List.set_cons_succ]
        refine wpAnyH_take (i := 8) (oi := { dst := some 49, op := Op.extract (Operand.tmp 41) 1, type := 32, pos := "law.go:61", after := #[{ on := 6, ground := Ground.data }, { on := 11, ground := Ground.gcOnly Departure.lateStores }], guard := none }) (v := ?_) rfl (by kernel_rfl) (by kernel_rfl) (by kernel_rfl) (fun _ _ _ h => h) (Or.inl ⟨by rfl, ?_⟩) (by assumption) ?_
        rotate_left 1
        · intro w' hSw; (try dsimp only at hSw); go_simp; (try with_reducible rfl)
        simp only [Act.put, List.setIfInBounds_toArray, List.set_cons_zero, List.set_cons_succ]
        refine wpAnyH_take (i := 9) (oi := { dst := some 50, op := Op.extract (Operand.tmp 41) 2, type := 3, pos := "law.go:61", after := #[{ on := 6, ground := Ground.data }, { on := 12, ground := Ground.gcOnly Departure.lateStores }], guard := none }) (v := ?_) rfl (by kernel_rfl) (by kernel_rfl) (by kernel_rfl) (fun _ _ _ h => h) (Or.inl ⟨by rfl, ?_⟩) (by assumption) ?_
        rotate_left 1
        · intro w' hSw; (try dsimp only at hSw); go_simp; (try with_reducible rfl)
        simp only [Act.put, List.setIfInBounds_toArray, List.set_cons_zero, List.set_cons_succ]
        refine wpAnyH_ready (rs := [10]) (by kernel_rfl) (by simp) ?_
        refine AllReadyH.cons (o := { dst := some 11, op := Op.alloc 30, type := 0, pos := "law.go:61", after := #[], guard := none }) rfl (fun K' hK => ?_) AllReadyH.nil
        go_simp
        obtain ⟨w4, hw4⟩ : ∃ w4, w4 = w3.alloc (.cells #[.slice none 0 0, .slice none 0 0, .int .i64 0, .bool false, .int .i64 0, .int .i64 0] 30) := ⟨_, rfl⟩
        have hZ : RAt w4 w3.heap.size zeroR := by rw [hw4]; exact RAt.new w3 zeroR
        have hB34 : Below w3.heap.size w3 w4 := by rw [hw4]; exact (Below.refl _ _).alloc (Nat.le_refl _) _
        obtain ⟨gN, hgN⟩ : ∃ gN, gN = w3.heap.size := ⟨_, rfl⟩
        have hB24 : Below w2.heap.size w2 w4 := HB23.out.trans (hB34.mono HB23.out.size)
        have s4 := SS.out w4 hB24
        try rw [← hw4]
        rw [← hgN] at hZ ⊢
        have hgN1 : w2.heap.size ≤ gN := by rw [hgN]; exact HB23.out.size
        have RST4 := (HR3.out.below hB34).mono (K' := fun x => (kr x ∧ x < w2.heap.size) ∨ (w2.heap.size ≤ x ∧ x < w4.heap.size ∧ x ≠ gN)) (fun x hx => by rcases hx with h | h; exact .inl h; exact .inr ⟨h.1, by have := hB34.size; omega, by omega⟩)
        have RDW4 := HRD3.out.below (Nat.le_refl _) hB34
        have RST4 := Lib.hid RST4
        have RDW4 := Lib.hid RDW4
        have HZ := Lib.hid hZ
        have HB24 := Lib.hid hB24
        clear hw4 hgN hB34 hZ hB24 HR3 HRD3 HB23
        refine hK.out _ _ s4 (fun hHeld => ?_)
        clear hK K'
        try simp only [Act.put, List.setIfInBounds_toArray, List.set_cons_zero, List.set_cons_succ]
        refine wpAnyH_ready (rs := [11]) (by kernel_rfl) (by simp) ?_
        refine AllReadyH.cons (o := { dst := none, op := Op.store 30 (Operand.tmp 11) (Operand.tmp 48), type := 0, pos := "law.go:61", after := #[{ on := 10, ground := Ground.data }, { on := 7, ground := Ground.data }, { on := 5, ground := Ground.chain }, { on := 0, ground := Ground.phase }, { on := 1, ground := Ground.phase }, { on := 2, ground := Ground.phase }, { on := 3, ground := Ground.phase }, { on := 4, ground := Ground.phase }, { on := 5, ground := Ground.phase }, { on := 6, ground := Ground.phase }, { on := 7, ground := Ground.phase }, { on := 8, ground := Ground.textOnly Departure.lateStores }, { on := 9, ground := Ground.textOnly Departure.lateStores }, { on := 10, ground := Ground.phase }], guard := none }) rfl (fun K' hK => ?_) AllReadyH.nil
        refine step_stR (d' := ⟨SA3, sn3, sc3, WA3, wn3, wc3, fuse3, off3, rd3, wr3⟩) rfl (.tmp 11) (.tmp 48) rfl rfl rfl HZ.out ?_
        intro w5 hR5 hF5
        have hB25 : Below w2.heap.size w2 w5 := HB24.out.trans (hF5.toBelow (fun x hx => by rw [show x = gN from hx]; exact hgN1) HB24.out.size)
        have s5 := SS.out w5 hB25
        have RST5 := Lib.hid ((RST4.out.stays ⟨hF5.size, fun x hx => hF5.block x (by have := HB24.out.size; have := HZ.out.lt; rcases hx with h | h <;> omega) (fun e => by have e' : x = gN := e; rcases hx with h | h <;> omega)⟩).mono (K' := fun x => (kr x ∧ x < w2.heap.size) ∨ (w2.heap.size ≤ x ∧ x < w5.heap.size ∧ x ≠ gN)) (fun x hx => by have := hF5.size; rcases hx with h | h; exact .inl h; exact .inr ⟨h.1, by omega, h.2.2⟩))
        have RDW5 := Lib.hid (RDW4.out.fr hF5 (fun b o e _ hx => by rw [e] at RDW4; exact RDW4.out.not_R (by assumption) HZ.out hx))
        have HB25 := Lib.hid hB25
        have HR5 := Lib.hid hR5
        clear hF5 hB25 hR5 HZ HB24 RST4 RDW4
        refine hK.out _ _ s5 (fun hHeld => ?_)
        clear hK K'
        try simp only [Act.put]
        refine wpAnyH_take (i := 12) (oi := { dst := some 12, op := Op.assign (Operand.tmp 49), type := 32, pos := "law.go:61", after := #[{ on := 8, ground := Ground.data }, { on := 11, ground := Ground.chain }, { on := 0, ground := Ground.phase }, { on := 1, ground := Ground.phase }, { on := 2, ground := Ground.phase }, { on := 3, ground := Ground.phase }, { on := 4, ground := Ground.phase }, { on := 5, ground := Ground.phase }, { on := 6, ground := Ground.phase }, { on := 7, ground := Ground.phase }, { on := 8, ground := Ground.phase }, { on := 9, ground := Ground.textOnly Departure.lateStores }, { on := 10, ground := Ground.phase }, { on := 11, ground := Ground.phase }], guard := none }) (v := ?_) rfl (by kernel_rfl) (by kernel_rfl) (by kernel_rfl) (fun _ _ _ h => h) (Or.inl ⟨by rfl, ?_⟩) (by assumption) ?_
        rotate_left 1
        · intro w' hSw; (try dsimp only at hSw); go_simp; (try with_reducible rfl)
        simp only [Act.put, List.setIfInBounds_toArray, List.set_cons_zero, List.set_cons_succ]
        refine wpAnyH_take (i := 13) (oi := { dst := some 13, op := Op.assign (Operand.tmp 50), type := 3, pos := "law.go:61", after := #[{ on := 9, ground := Ground.data }, { on := 12, ground := Ground.chain }, { on := 0, ground := Ground.phase }, { on := 1, ground := Ground.phase }, { on := 2, ground := Ground.phase }, { on := 3, ground := Ground.phase }, { on := 4, ground := Ground.phase }, { on := 5, ground := Ground.phase }, { on := 6, ground := Ground.phase }, { on := 7, ground := Ground.phase }, { on := 8, ground := Ground.phase }, { on := 9, ground := Ground.phase }, { on := 10, ground := Ground.phase }, { on := 11, ground := Ground.phase }, { on := 12, ground := Ground.phase }], guard := none }) (v := ?_) rfl (by kernel_rfl) (by kernel_rfl) (by kernel_rfl) (fun _ _ _ h => h) (Or.inl ⟨by rfl, ?_⟩) (by assumption) ?_
        rotate_left 1
        · intro w' hSw; (try dsimp only at hSw); go_simp; (try with_reducible rfl)
        simp only [Act.put, List.setIfInBounds_toArray, List.set_cons_zero, List.set_cons_succ]
        refine wpAnyH_done (by kernel_rfl) ?_ _
        refine NoPanic.normal ?_
        have hgw2 : g < w2.heap.size := HR2.out.lt
        have HG5 := Lib.hid (HR2.out.under HB25.out)
        go_wp2_with (first
          | (with_reducible refine wpList_ldR rfl (.tmp 11) rfl rfl HR5.out ?_)
          | (with_reducible refine wpList_stR (d' := ⟨SA3, sn3, sc3, WA3, wn3, wc3, fuse3, off3, rd3, wr3⟩) rfl (.tmp 7) (.tmp 51) rfl rfl rfl HG5.out ?_; intro w6 hR6 hF6))
        have hs25 := HB25.out.size
        have hD6 := (HD2.out.more HB25.out (fun x => w2.heap.size ≤ x ∧ x < w5.heap.size) (fun x hx => hx)).fr (g := g) (.inl (.inr rfl)) hwg hF6
        have hRS6 := (RST5.out.stays ⟨hF6.size, fun x hx => hF6.block x (by rcases hx with h | h <;> omega) (fun e => by have e' : x = g := e; rcases hx with h | h; exact hkg (e' ▸ h.1); omega)⟩).mono (K' := fun x => kr x ∨ (w2.heap.size ≤ x ∧ x < w5.heap.size)) (fun x hx => by rcases hx with h | h; exact .inl h.1; exact .inr ⟨h.1, h.2.1⟩)
        have RDB5 := Lib.hid (HRD2.out.below (Nat.le_refl _) HB25.out)
        have hrb6 := RDB5.out.fr hF6 (fun b o e _ hx => by rw [e] at RDB5; exact RDB5.out.not_R (by assumption) HG5.out hx)
        have hrw6 := RDW5.out.fr hF6 (fun b o e _ hx => by rw [e] at RDW5; exact RDW5.out.not_R (by assumption) HG5.out hx)
        have hsn6 : r'.safe.length = sn3 := hRS6.len
        have hK6 : r'.safe.length = K := hD6.n
        obtain ⟨m, hm⟩ : ∃ m, m = (dirtyR sn3 r'.wait).length := ⟨_, rfl⟩
        obtain ⟨zs, hzs⟩ : ∃ zs, zs = (dirtyR sn3 r'.wait).map fun (i : Nat) => (i : Int) := ⟨_, rfl⟩
        have hm7 : m ≤ 1000000 := by
          have := dirtyR_len sn3 r'.wait
          have := hRS6.sn
          simp only at this
          omega
        have b6d : Below w6.heap.size w6 w6.drew := (Below.refl _ _).drew
        have COF := Off_devA (hD6.below b6d)
        rw [← hRS6.eoff] at COF
        have CRE := Reads_devA (hD6.below b6d)
        rw [← hRS6.erd] at CRE
        have CWR := Writes_devA (hD6.below b6d)
        rw [← hRS6.ewr] at CWR
        have CDI := Dirty_devA (hD6.below b6d)
        rw [hsn6, ← hm, ← hzs] at CDI
        have CRD : ∀ W, Below w6.heap.size w6 W → Calls Try.prog 18 #[.agg #[.slice SA3 sn3 sc3, .slice WA3 wn3 wc3, .int .i64 fuse3, .bool off3, .int .i64 rd3, .int .i64 wr3]] W fun e w' => ∃ A c, e = .returned (.slice A m c) ∧ IRd w' A m zs ∧ Below W.heap.size W w' := fun W hW => by
          rw [hm, hzs]
          exact RDirty_any ⟨SA3, sn3, sc3, WA3, wn3, wc3, fuse3, off3, rd3, wr3⟩ W r'.wait ((hRS6.below hW).wait.wait) (by have := hRS6.wn; simp only at this ⊢; omega) hRS6.sn
        have S6 : ∀ W, Below w6.heap.size w6 W → (W.cell? ⟨g, 0, none⟩ = some (.slice SA3 sn3 sc3) ∧ W.cell? ⟨g, 1, none⟩ = some (.slice WA3 wn3 wc3) ∧ W.cell? ⟨g, 2, none⟩ = some (.int .i64 fuse3) ∧ W.cell? ⟨g, 3, none⟩ = some (.bool off3) ∧ W.cell? ⟨g, 4, none⟩ = some (.int .i64 rd3) ∧ W.cell? ⟨g, 5, none⟩ = some (.int .i64 wr3)) := fun W hW => ⟨(hR6.under hW).h0, (hR6.under hW).h1, (hR6.under hW).h2, (hR6.under hW).h3, (hR6.under hW).h4, (hR6.under hW).h5⟩
        have S6 := Lib.hid S6
        have s6d := S6.out _ b6d
        have COF := Lib.hid COF
        have CRE := Lib.hid CRE
        have CWR := Lib.hid CWR
        have CDI := Lib.hid CDI
        have CRD := Lib.hid CRD
        have HRB := Lib.hid (hrb6.below (Nat.le_refl _) b6d)
        have HRW := Lib.hid (hrw6.below (Nat.le_refl _) b6d)
        have HD6 := Lib.hid hD6
        have HR6 := Lib.hid hR6
        have HRS6 := Lib.hid hRS6
        have HK6 := Lib.hid (hsn6.symm.trans hK6)
        clear hD6 hR6 hRS6 hrb6 hrw6 hsn6 hK6 hm hzs hF6 HR5 RST5 RDW5 RDB5 HG5 HB25 HD2 HR2 HRS2 HRD2 SS CG
        go_region_held3 (fun W => (W.cell? ⟨g, 0, none⟩ = some (.slice SA3 sn3 sc3) ∧ W.cell? ⟨g, 1, none⟩ = some (.slice WA3 wn3 wc3) ∧ W.cell? ⟨g, 2, none⟩ = some (.int .i64 fuse3) ∧ W.cell? ⟨g, 3, none⟩ = some (.bool off3) ∧ W.cell? ⟨g, 4, none⟩ = some (.int .i64 rd3) ∧ W.cell? ⟨g, 5, none⟩ = some (.int .i64 wr3))) (first
            | with_reducible exact s6d
            | with_reducible exact s7
            | with_reducible exact s8
            | with_reducible exact s9) (first
          | (go_at_call 12; refine (Same_yes _ _ _ _ _ _ _ _ HRB.out HRW.out).mono ?_; rintro e w' ⟨rfl, rfl⟩)
          | (go_at_call 13; refine COF.out.mono ?_; rintro e w' ⟨rfl, rfl⟩)
          | (go_at_call 14; refine CRE.out.mono ?_; rintro e w' ⟨rfl, rfl⟩)
          | (go_at_call 15; refine CWR.out.mono ?_; rintro e w' ⟨rfl, rfl⟩)
          | (go_at_call 17; refine CDI.out.mono ?_; rintro e w7 ⟨A7, c7, rfl, hI7, hB7⟩; have hB67 := b6d.trans hB7; have s7 := S6.out w7 hB67; have HI7 := Lib.hid hI7; have CR7 := Lib.hid (CRD.out w7 hB67); have HB67 := Lib.hid hB67; clear hI7 hB7 hB67)
          | (go_at_call 18; refine CR7.out.mono ?_; rintro e w8 ⟨A8, c8, rfl, hI8, hB8⟩; have hB68 := HB67.out.trans (hB8.mono HB67.out.size); have s8 := S6.out w8 hB68; have CS8 := Lib.hid (SameList_yes w8 A7 A8 m c7 c8 zs (HI7.out.below hB8) hI8 hm7); have HB68 := Lib.hid hB68; clear hI8 hB8 hB68)
          | (go_at_call 16; refine CS8.out.mono ?_; rintro e w9 ⟨rfl, hB9⟩; have hB69 := HB68.out.trans (hB9.mono HB68.out.size); have s9 := S6.out w9 hB69; have HB69 := Lib.hid hB69; clear hB9 hB69))
        go_wp2
        go_roundw
        case rel =>
          refine ⟨j + 1, hlt, by go_num, fun x => kr x ∨ (w2.heap.size ≤ x ∧ x < w5.heap.size), r', ⟨SA3, sn3, sc3, WA3, wn3, wc3, fuse3, off3, rd3, wr3⟩, fun hx => ?_, hwg, ?_, HR6.out.under HB69.out, HRS6.out.below HB69.out, HK6.out⟩
          · rcases hx with h | h
            · exact hkg h
            · omega
          · exact (HD6.out.below HB69.out).less (fun x hx => by rcases hx with (h | h) | h; exact .inl (.inl h); exact .inr h; exact .inl (.inr h))
        case measure => simp [intOf]; omega
      · go_simp
        obtain ⟨wa, hwa⟩ : ∃ wa, wa = (w2.alloc (.cells #[.slice none 0 0, .slice none 0 0, .int .i64 0, .bool false, .int .i64 0, .int .i64 0] 30)).drew := ⟨_, rfl⟩
        have hZa : RAt wa w2.heap.size zeroR := by rw [hwa]; exact RAt.new w2 zeroR
        have ba : Below w2.heap.size w2 wa := by rw [hwa]; exact ((Below.refl _ _).alloc (Nat.le_refl _) _).drew
        have sza : wa.heap.size = w2.heap.size + 1 := by rw [hwa]; show (w2.heap.push _).size = _; simp
        obtain ⟨gN, hgN⟩ : ∃ gN, gN = w2.heap.size := ⟨_, rfl⟩
        have s0a := SS.out wa ba
        try rw [← hwa]
        rw [← hgN] at hZa
        rw [← hgN]
        have hgN1 : w2.heap.size ≤ gN := by rw [hgN]; exact Nat.le_refl _
        have HGN := Lib.hid hgN
        clear hwa hgN
        refine hK.out _ _ s0a (fun hHeld => ?_)
        clear hK K'
        try simp only [Act.put, List.setIfInBounds_toArray, List.set_cons_zero, List.set_cons_succ]
        refine wpAnyH_ready (rs := [5]) (by kernel_rfl) (by simp) ?_
        refine AllReadyH.cons (o := { dst := some 47, op := Op.call { callee := Callee.value (Operand.func 11), args := #[Operand.tmp 42, Operand.tmp 46], argTypes := #[30, 37] }, type := 38, pos := "law.go:61", after := #[{ on := 0, ground := Ground.data }, { on := 4, ground := Ground.data }], guard := none }) rfl (fun K' hK => ?_) AllReadyH.nil
        go_simp
        go_at_call 11; refine (CG.out _ ba).mono ?_; rintro e w3 ⟨d3, A3, n3, c3, rfl, hn3, hr3, hR3, hB3⟩
        obtain ⟨SA3, sn3, sc3, WA3, wn3, wc3, fuse3, off3, rd3, wr3⟩ := d3
        have hB24 := ba.trans (hB3.mono ba.size)
        have s3 := SS.out w3 hB24
        have RST4 := Lib.hid (hR3.mono (K' := fun x => (kr x ∧ x < w2.heap.size) ∨ (w2.heap.size ≤ x ∧ x < w3.heap.size ∧ x ≠ gN)) (fun x hx => by have := HGN.out; rcases hx with h | h; exact .inl h; exact .inr ⟨by omega, by omega, by omega⟩))
        have RDW4 := Lib.hid hr3
        have HZ := Lib.hid (hZa.under hB3)
        have HB24 := Lib.hid hB24
        clear hr3 hR3 hB3 hB24 hZa ba sza HGN
        simp only [Rf.v, rv]
        refine hK.out _ _ s3 (fun hHeld => ?_)
        clear hK K'
        try simp only [Act.put, List.setIfInBounds_toArray, List.set_cons_zero, List.set_cons_succ]
        refine wpAnyH_take (i := 6) (oi := { dst := some 41, op := Op.move (Operand.tmp 47), type := 38, pos := "law.go:61", after := #[{ on := 5, ground := Ground.data }], guard := none }) (v := ?_) rfl (by kernel_rfl) (by kernel_rfl) (by kernel_rfl) (fun _ _ _ h => h) (Or.inl ⟨by rfl, ?_⟩) (by assumption) ?_
        rotate_left 1
        · intro w' hSw; (try dsimp only at hSw); go_simp; (try with_reducible rfl)
        simp only [Act.put, List.setIfInBounds_toArray, List.set_cons_zero, List.set_cons_succ]
        refine wpAnyH_take (i := 7) (oi := { dst := some 48, op := Op.extract (Operand.tmp 41) 0, type := 30, pos := "law.go:61", after := #[{ on := 6, ground := Ground.data }], guard := none }) (v := ?_) rfl (by kernel_rfl) (by kernel_rfl) (by kernel_rfl) (fun _ _ _ h => h) (Or.inl ⟨by rfl, ?_⟩) (by assumption) ?_
        rotate_left 1
        · intro w' hSw; (try dsimp only at hSw); go_simp; (try with_reducible rfl)
        simp only [Act.put, List.setIfInBounds_toArray, List.set_cons_zero, List.set_cons_succ]
        refine wpAnyH_take (i := 8) (oi := { dst := some 49, op := Op.extract (Operand.tmp 41) 1, type := 32, pos := "law.go:61", after := #[{ on := 6, ground := Ground.data }, { on := 11, ground := Ground.gcOnly Departure.lateStores }], guard := none }) (v := ?_) rfl (by kernel_rfl) (by kernel_rfl) (by kernel_rfl) (fun _ _ _ h => h) (Or.inl ⟨by rfl, ?_⟩) (by assumption) ?_
        rotate_left 1
        · intro w' hSw; (try dsimp only at hSw); go_simp; (try with_reducible rfl)
        simp only [Act.put, List.setIfInBounds_toArray, List.set_cons_zero, List.set_cons_succ]
        refine wpAnyH_take (i := 9) (oi := { dst := some 50, op := Op.extract (Operand.tmp 41) 2, type := 3, pos := "law.go:61", after := #[{ on := 6, ground := Ground.data }, { on := 12, ground := Ground.gcOnly Departure.lateStores }], guard := none }) (v := ?_) rfl (by kernel_rfl) (by kernel_rfl) (by kernel_rfl) (fun _ _ _ h => h) (Or.inl ⟨by rfl, ?_⟩) (by assumption) ?_
        rotate_left 1
        · intro w' hSw; (try dsimp only at hSw); go_simp; (try with_reducible rfl)
        simp only [Act.put, List.setIfInBounds_toArray, List.set_cons_zero, List.set_cons_succ]
        refine wpAnyH_ready (rs := [11]) (by kernel_rfl) (by simp) ?_
        refine AllReadyH.cons (o := { dst := none, op := Op.store 30 (Operand.tmp 11) (Operand.tmp 48), type := 0, pos := "law.go:61", after := #[{ on := 10, ground := Ground.data }, { on := 7, ground := Ground.data }, { on := 5, ground := Ground.chain }, { on := 0, ground := Ground.phase }, { on := 1, ground := Ground.phase }, { on := 2, ground := Ground.phase }, { on := 3, ground := Ground.phase }, { on := 4, ground := Ground.phase }, { on := 5, ground := Ground.phase }, { on := 6, ground := Ground.phase }, { on := 7, ground := Ground.phase }, { on := 8, ground := Ground.textOnly Departure.lateStores }, { on := 9, ground := Ground.textOnly Departure.lateStores }, { on := 10, ground := Ground.phase }], guard := none }) rfl (fun K' hK => ?_) AllReadyH.nil
        refine step_stR (d' := ⟨SA3, sn3, sc3, WA3, wn3, wc3, fuse3, off3, rd3, wr3⟩) rfl (.tmp 11) (.tmp 48) rfl rfl rfl HZ.out ?_
        intro w5 hR5 hF5
        have hB25 : Below w2.heap.size w2 w5 := HB24.out.trans (hF5.toBelow (fun x hx => by rw [show x = gN from hx]; exact hgN1) HB24.out.size)
        have s5 := SS.out w5 hB25
        have RST5 := Lib.hid ((RST4.out.stays ⟨hF5.size, fun x hx => hF5.block x (by have := HB24.out.size; have := HZ.out.lt; rcases hx with h | h <;> omega) (fun e => by have e' : x = gN := e; rcases hx with h | h <;> omega)⟩).mono (K' := fun x => (kr x ∧ x < w2.heap.size) ∨ (w2.heap.size ≤ x ∧ x < w5.heap.size ∧ x ≠ gN)) (fun x hx => by have := hF5.size; rcases hx with h | h; exact .inl h; exact .inr ⟨h.1, by omega, h.2.2⟩))
        have RDW5 := Lib.hid (RDW4.out.fr hF5 (fun b o e _ hx => by rw [e] at RDW4; exact RDW4.out.not_R (by assumption) HZ.out hx))
        have HB25 := Lib.hid hB25
        have HR5 := Lib.hid hR5
        clear hF5 hB25 hR5 HZ HB24 RST4 RDW4
        refine hK.out _ _ s5 (fun hHeld => ?_)
        clear hK K'
        try simp only [Act.put]
        refine wpAnyH_take (i := 12) (oi := { dst := some 12, op := Op.assign (Operand.tmp 49), type := 32, pos := "law.go:61", after := #[{ on := 8, ground := Ground.data }, { on := 11, ground := Ground.chain }, { on := 0, ground := Ground.phase }, { on := 1, ground := Ground.phase }, { on := 2, ground := Ground.phase }, { on := 3, ground := Ground.phase }, { on := 4, ground := Ground.phase }, { on := 5, ground := Ground.phase }, { on := 6, ground := Ground.phase }, { on := 7, ground := Ground.phase }, { on := 8, ground := Ground.phase }, { on := 9, ground := Ground.textOnly Departure.lateStores }, { on := 10, ground := Ground.phase }, { on := 11, ground := Ground.phase }], guard := none }) (v := ?_) rfl (by kernel_rfl) (by kernel_rfl) (by kernel_rfl) (fun _ _ _ h => h) (Or.inl ⟨by rfl, ?_⟩) (by assumption) ?_
        rotate_left 1
        · intro w' hSw; (try dsimp only at hSw); go_simp; (try with_reducible rfl)
        simp only [Act.put, List.setIfInBounds_toArray, List.set_cons_zero, List.set_cons_succ]
        refine wpAnyH_take (i := 13) (oi := { dst := some 13, op := Op.assign (Operand.tmp 50), type := 3, pos := "law.go:61", after := #[{ on := 9, ground := Ground.data }, { on := 12, ground := Ground.chain }, { on := 0, ground := Ground.phase }, { on := 1, ground := Ground.phase }, { on := 2, ground := Ground.phase }, { on := 3, ground := Ground.phase }, { on := 4, ground := Ground.phase }, { on := 5, ground := Ground.phase }, { on := 6, ground := Ground.phase }, { on := 7, ground := Ground.phase }, { on := 8, ground := Ground.phase }, { on := 9, ground := Ground.phase }, { on := 10, ground := Ground.phase }, { on := 11, ground := Ground.phase }, { on := 12, ground := Ground.phase }], guard := none }) (v := ?_) rfl (by kernel_rfl) (by kernel_rfl) (by kernel_rfl) (fun _ _ _ h => h) (Or.inl ⟨by rfl, ?_⟩) (by assumption) ?_
        rotate_left 1
        · intro w' hSw; (try dsimp only at hSw); go_simp; (try with_reducible rfl)
        simp only [Act.put, List.setIfInBounds_toArray, List.set_cons_zero, List.set_cons_succ]
        refine wpAnyH_done (by kernel_rfl) ?_ _
        refine NoPanic.normal ?_
        have hgw2 : g < w2.heap.size := HR2.out.lt
        have HG5 := Lib.hid (HR2.out.under HB25.out)
        go_wp2_with (first
          | (with_reducible refine wpList_ldR rfl (.tmp 11) rfl rfl HR5.out ?_)
          | (with_reducible refine wpList_stR (d' := ⟨SA3, sn3, sc3, WA3, wn3, wc3, fuse3, off3, rd3, wr3⟩) rfl (.tmp 7) (.tmp 51) rfl rfl rfl HG5.out ?_; intro w6 hR6 hF6))
        have hs25 := HB25.out.size
        have hD6 := (HD2.out.more HB25.out (fun x => w2.heap.size ≤ x ∧ x < w5.heap.size) (fun x hx => hx)).fr (g := g) (.inl (.inr rfl)) hwg hF6
        have hRS6 := (RST5.out.stays ⟨hF6.size, fun x hx => hF6.block x (by rcases hx with h | h <;> omega) (fun e => by have e' : x = g := e; rcases hx with h | h; exact hkg (e' ▸ h.1); omega)⟩).mono (K' := fun x => kr x ∨ (w2.heap.size ≤ x ∧ x < w5.heap.size)) (fun x hx => by rcases hx with h | h; exact .inl h.1; exact .inr ⟨h.1, h.2.1⟩)
        have RDB5 := Lib.hid (HRD2.out.below (Nat.le_refl _) HB25.out)
        have hrb6 := RDB5.out.fr hF6 (fun b o e _ hx => by rw [e] at RDB5; exact RDB5.out.not_R (by assumption) HG5.out hx)
        have hrw6 := RDW5.out.fr hF6 (fun b o e _ hx => by rw [e] at RDW5; exact RDW5.out.not_R (by assumption) HG5.out hx)
        have hsn6 : r'.safe.length = sn3 := hRS6.len
        have hK6 : r'.safe.length = K := hD6.n
        obtain ⟨m, hm⟩ : ∃ m, m = (dirtyR sn3 r'.wait).length := ⟨_, rfl⟩
        obtain ⟨zs, hzs⟩ : ∃ zs, zs = (dirtyR sn3 r'.wait).map fun (i : Nat) => (i : Int) := ⟨_, rfl⟩
        have hm7 : m ≤ 1000000 := by
          have := dirtyR_len sn3 r'.wait
          have := hRS6.sn
          simp only at this
          omega
        have b6d : Below w6.heap.size w6 w6.drew := (Below.refl _ _).drew
        have COF := Off_devA (hD6.below b6d)
        rw [← hRS6.eoff] at COF
        have CRE := Reads_devA (hD6.below b6d)
        rw [← hRS6.erd] at CRE
        have CWR := Writes_devA (hD6.below b6d)
        rw [← hRS6.ewr] at CWR
        have CDI := Dirty_devA (hD6.below b6d)
        rw [hsn6, ← hm, ← hzs] at CDI
        have CRD : ∀ W, Below w6.heap.size w6 W → Calls Try.prog 18 #[.agg #[.slice SA3 sn3 sc3, .slice WA3 wn3 wc3, .int .i64 fuse3, .bool off3, .int .i64 rd3, .int .i64 wr3]] W fun e w' => ∃ A c, e = .returned (.slice A m c) ∧ IRd w' A m zs ∧ Below W.heap.size W w' := fun W hW => by
          rw [hm, hzs]
          exact RDirty_any ⟨SA3, sn3, sc3, WA3, wn3, wc3, fuse3, off3, rd3, wr3⟩ W r'.wait ((hRS6.below hW).wait.wait) (by have := hRS6.wn; simp only at this ⊢; omega) hRS6.sn
        have S6 : ∀ W, Below w6.heap.size w6 W → (W.cell? ⟨g, 0, none⟩ = some (.slice SA3 sn3 sc3) ∧ W.cell? ⟨g, 1, none⟩ = some (.slice WA3 wn3 wc3) ∧ W.cell? ⟨g, 2, none⟩ = some (.int .i64 fuse3) ∧ W.cell? ⟨g, 3, none⟩ = some (.bool off3) ∧ W.cell? ⟨g, 4, none⟩ = some (.int .i64 rd3) ∧ W.cell? ⟨g, 5, none⟩ = some (.int .i64 wr3)) := fun W hW => ⟨(hR6.under hW).h0, (hR6.under hW).h1, (hR6.under hW).h2, (hR6.under hW).h3, (hR6.under hW).h4, (hR6.under hW).h5⟩
        have S6 := Lib.hid S6
        have s6d := S6.out _ b6d
        have COF := Lib.hid COF
        have CRE := Lib.hid CRE
        have CWR := Lib.hid CWR
        have CDI := Lib.hid CDI
        have CRD := Lib.hid CRD
        have HRB := Lib.hid (hrb6.below (Nat.le_refl _) b6d)
        have HRW := Lib.hid (hrw6.below (Nat.le_refl _) b6d)
        have HD6 := Lib.hid hD6
        have HR6 := Lib.hid hR6
        have HRS6 := Lib.hid hRS6
        have HK6 := Lib.hid (hsn6.symm.trans hK6)
        clear hD6 hR6 hRS6 hrb6 hrw6 hsn6 hK6 hm hzs hF6 HR5 RST5 RDW5 RDB5 HG5 HB25 HD2 HR2 HRS2 HRD2 SS CG
        go_region_held3 (fun W => (W.cell? ⟨g, 0, none⟩ = some (.slice SA3 sn3 sc3) ∧ W.cell? ⟨g, 1, none⟩ = some (.slice WA3 wn3 wc3) ∧ W.cell? ⟨g, 2, none⟩ = some (.int .i64 fuse3) ∧ W.cell? ⟨g, 3, none⟩ = some (.bool off3) ∧ W.cell? ⟨g, 4, none⟩ = some (.int .i64 rd3) ∧ W.cell? ⟨g, 5, none⟩ = some (.int .i64 wr3))) (first
            | with_reducible exact s6d
            | with_reducible exact s7
            | with_reducible exact s8
            | with_reducible exact s9) (first
          | (go_at_call 12; refine (Same_yes _ _ _ _ _ _ _ _ HRB.out HRW.out).mono ?_; rintro e w' ⟨rfl, rfl⟩)
          | (go_at_call 13; refine COF.out.mono ?_; rintro e w' ⟨rfl, rfl⟩)
          | (go_at_call 14; refine CRE.out.mono ?_; rintro e w' ⟨rfl, rfl⟩)
          | (go_at_call 15; refine CWR.out.mono ?_; rintro e w' ⟨rfl, rfl⟩)
          | (go_at_call 17; refine CDI.out.mono ?_; rintro e w7 ⟨A7, c7, rfl, hI7, hB7⟩; have hB67 := b6d.trans hB7; have s7 := S6.out w7 hB67; have HI7 := Lib.hid hI7; have CR7 := Lib.hid (CRD.out w7 hB67); have HB67 := Lib.hid hB67; clear hI7 hB7 hB67)
          | (go_at_call 18; refine CR7.out.mono ?_; rintro e w8 ⟨A8, c8, rfl, hI8, hB8⟩; have hB68 := HB67.out.trans (hB8.mono HB67.out.size); have s8 := S6.out w8 hB68; have CS8 := Lib.hid (SameList_yes w8 A7 A8 m c7 c8 zs (HI7.out.below hB8) hI8 hm7); have HB68 := Lib.hid hB68; clear hI8 hB8 hB68)
          | (go_at_call 16; refine CS8.out.mono ?_; rintro e w9 ⟨rfl, hB9⟩; have hB69 := HB68.out.trans (hB9.mono HB68.out.size); have s9 := S6.out w9 hB69; have HB69 := Lib.hid hB69; clear hB9 hB69))
        go_wp2
        go_roundw
        case rel =>
          refine ⟨j + 1, hlt, by go_num, fun x => kr x ∨ (w2.heap.size ≤ x ∧ x < w5.heap.size), r', ⟨SA3, sn3, sc3, WA3, wn3, wc3, fuse3, off3, rd3, wr3⟩, fun hx => ?_, hwg, ?_, HR6.out.under HB69.out, HRS6.out.below HB69.out, HK6.out⟩
          · rcases hx with h | h
            · exact hkg h
            · omega
          · exact (HD6.out.below HB69.out).less (fun x hx => by rcases hx with (h | h) | h; exact .inl (.inl h); exact .inr h; exact .inl (.inr h))
        case measure => simp [intOf]; omega
    · obtain rfl : j = n := by omega
      obtain ⟨kr, r, ⟨SA, sn, sc, WA, wn, wc, fuse, off, rdd, wrr⟩, hkg, hwg, hD, hR, hRS, hdK⟩ := hI
      simp only at hdK
      subst hdK
      have bd : Below wr.heap.size wr wr.drew := (Below.refl _ _).drew
      have CBY := Bytes_devA (hD.below bd)
      have CRB : ∀ W, Below wr.heap.size wr W → Calls Try.prog 20 #[.agg #[.slice SA sn sc, .slice WA wn wc, .int .i64 fuse, .bool off, .int .i64 rdd, .int .i64 wrr]] W fun e w' => ∃ A c, e = .returned (.slice A (512 * sn) c) ∧ 512 * sn ≤ c ∧ c ≤ maxLen ∧ Rd w' A (512 * sn) r.safe.flatten ∧ Below W.heap.size W w' := fun W hW =>
        RBytes_any ⟨SA, sn, sc, WA, wn, wc, fuse, off, rdd, wrr⟩ W r.safe ((hRS.below hW).rows.rows) hRS.sn
      have CSZ : ∀ W, Below wr.heap.size wr W → Calls Try.prog 21 #[.pointer (some ⟨p, 0, none⟩)] W fun e w' => e = .returned (.int .i64 sn) ∧ W = w' := fun W hW => Size_devA (hD.below hW)
      have SE : ∀ W, Below wr.heap.size wr W → (W.cell? ⟨g, 0, none⟩ = some (.slice SA sn sc) ∧ W.cell? ⟨g, 1, none⟩ = some (.slice WA wn wc) ∧ W.cell? ⟨g, 2, none⟩ = some (.int .i64 fuse) ∧ W.cell? ⟨g, 3, none⟩ = some (.bool off) ∧ W.cell? ⟨g, 4, none⟩ = some (.int .i64 rdd) ∧ W.cell? ⟨g, 5, none⟩ = some (.int .i64 wrr)) := fun W hW => ⟨(hR.under hW).h0, (hR.under hW).h1, (hR.under hW).h2, (hR.under hW).h3, (hR.under hW).h4, (hR.under hW).h5⟩
      have SE := Lib.hid SE
      have s0d := SE.out _ bd
      have HU := Lib.hid hD.under
      have CBY := Lib.hid CBY
      have CRB := Lib.hid CRB
      have CSZ := Lib.hid CSZ
      clear hD hR hRS HI
      go_wp2_with fail
      go_region_held3 (fun W => (W.cell? ⟨g, 0, none⟩ = some (.slice SA sn sc) ∧ W.cell? ⟨g, 1, none⟩ = some (.slice WA wn wc) ∧ W.cell? ⟨g, 2, none⟩ = some (.int .i64 fuse) ∧ W.cell? ⟨g, 3, none⟩ = some (.bool off) ∧ W.cell? ⟨g, 4, none⟩ = some (.int .i64 rdd) ∧ W.cell? ⟨g, 5, none⟩ = some (.int .i64 wrr))) (first
          | with_reducible exact s0d
          | with_reducible exact s7
          | with_reducible exact s8
          | with_reducible exact s9) (first
        | (go_at_call 19; refine CBY.out.mono ?_; rintro e w7 ⟨A7, c7, rfl, hr7, hB7⟩; have hB07 := bd.trans hB7; have s7 := SE.out w7 hB07; have CR7 := Lib.hid (CRB.out w7 hB07); have HR7 := Lib.hid hr7; have HB07 := Lib.hid hB07; clear hr7 hB7 hB07)
        | (go_at_call 20; refine CR7.out.mono ?_; rintro e w8 ⟨A8, c8, rfl, _, _, hr8, hB8⟩; have hB08 := HB07.out.trans (hB8.mono HB07.out.size); have s8 := SE.out w8 hB08; have HR8 := Lib.hid hr8; have HR78 := Lib.hid (HR7.out.below (Nat.le_refl _) hB8); have CS8 := Lib.hid (CSZ.out w8 hB08); have HB08 := Lib.hid hB08; clear hr8 hB8 hB08)
        | (go_at_call 12; refine (Same_yes _ _ _ _ _ _ _ w8 HR78.out HR8.out).mono ?_; rintro e w' ⟨rfl, rfl⟩)
        | (go_at_call 21; refine CS8.out.mono ?_; rintro e w' ⟨rfl, rfl⟩)
        | (go_at_call 7; refine (live_any _).mono ?_; rintro e w9 ⟨rfl, hB9⟩; have hB09 := HB08.out.trans (hB9.mono HB08.out.size); have s9 := SE.out w9 hB09; have HB09 := Lib.hid hB09; clear hB9 hB09))
      go_wp2
      go_ret
      exact ⟨rfl, HU.out.trans (HB09.out.mono HU.out.size)⟩
end Go.Proofs.Ytieknelmfjkbhaa
