/- EcF, CmL, Cm1, Cm2, Cm3, Cm4 -/
import Derived.Test.YtddiadpbkjdomaaGreatDoorQn14
import Derived.Deep.LoopGhost
namespace Go.Proofs.YtddiadpbkjdomaaGreatDoor
open Go.RowKit
set_option maxRecDepth 20000

theorem HdL.append {α : Type} {sz : Nat} {E : α → List Value → Prop} {vs vs' : List Value} {xs xs' : List α} (h : HdL sz E vs xs) (h' : HdL sz E vs' xs') : HdL sz E (vs ++ vs') (xs ++ xs') := by
  obtain ⟨ch, rfl, h2, h3, h4⟩ := h
  obtain ⟨ch', rfl, k2, k3, k4⟩ := h'
  refine ⟨ch ++ ch', by simp, by simp [h2, k2], fun q hq => ?_, fun j y hy => ?_⟩
  · rcases List.mem_append.1 hq with h | h
    · exact h3 q h
    · exact k3 q h
  · by_cases hj : j < xs.length
    · rw [List.getElem?_append_left hj] at hy
      obtain ⟨q, hq, hE⟩ := h4 j y hy
      exact ⟨q, by rw [List.getElem?_append_left (by omega)]; exact hq, hE⟩
    · rw [List.getElem?_append_right (by omega)] at hy
      obtain ⟨q, hq, hE⟩ := k4 _ y hy
      exact ⟨q, by rw [List.getElem?_append_right (by omega), h2]; exact hq, hE⟩
section
variable {α : Type} {E : (Nat → Prop) → World → α → List Value → Prop} {e : TypeId} {sz : Nat} {w w' : World} {B : Nat} {v : Value} {vs : List Value} {D K : Nat → Prop} {xs : List α}
theorem Gr.fr {own : Nat → Prop} (ok : EOk E) (h : Gr E e sz w B v vs D xs) (hf : Fr own w w') (hv : ∀ y, v.ownBlock = some y → ¬ own y) (hD : ∀ y, D y → ¬ own y) : Gr E e sz w' B v vs D xs :=
  ⟨Nat.le_trans h.Bw hf.size, own_fr h.ow hf hv, h.hd.imp fun _ _ hx => ok.stays hx ⟨hf.size, fun y hy => hf.block y (h.dx y hy).1 (hD y hy)⟩, fun y hy => ⟨Nat.lt_of_lt_of_le (h.dx y hy).1 hf.size, (h.dx y hy).2⟩⟩
/-- More elements. -/
theorem Gr.puts (ok : EOk E) (h : Gr E e sz w B v vs D xs) {v' : Value} {ys : List α} {rs : List Value} (hE : HdL sz (E K w) rs ys) (hK : ∀ y, K y → v.ownBlock ≠ some y)
    (ho : w'.ownsRow B e sz v' (xs.length + ys.length) (vs ++ rs)) (hg : w.grownBy w' v.ownBlock) (hv : v'.ownBlock = v.ownBlock ∨ v'.ownBlock = some w.heap.size) :
    Gr E e sz w' B v' (vs ++ rs) (fun y => D y ∨ (K y ∧ y < w.heap.size)) (xs ++ ys) := by
  have hF : Fr (fun y => v.ownBlock = some y) w w' := Fr.grown hg (fun y hy => hy)
  have hs := hF.size
  have hall : ∀ y, (D y ∨ (K y ∧ y < w.heap.size)) → y < w.heap.size ∧ v.ownBlock ≠ some y := fun y hy => by
    rcases hy with h1 | h1
    · exact h.dx y h1
    · exact ⟨h1.2, hK y h1.1⟩
  have st : WStays (fun y => D y ∨ (K y ∧ y < w.heap.size)) w w' := ⟨hs, fun y hy => hF.block y (hall y hy).1 (hall y hy).2⟩
  refine ⟨Nat.le_trans h.Bw hs, by rw [List.length_append]; exact ho, ?_, fun y hy => ?_⟩
  · exact (h.hd.imp fun _ _ hx => ok.stays (ok.mono hx (fun _ hy => .inl hy)) st).append (hE.imp fun _ _ hx => ok.stays (ok.mono (ok.lt hx) (fun _ hy => .inr hy)) st)
  · obtain ⟨h1, h2⟩ := hall y hy
    refine ⟨by omega, fun e => ?_⟩
    rcases hv with hv | hv
    · exact h2 (hv ▸ e)
    · rw [hv] at e
      injection e with e
      omega
end

theorem VRow.own {K : Nat → Prop} {w : World} {A : Option Addr} {n sz : Nat} {vs : List Value} (h : VRow K w A n sz vs) (c : Nat) : VRow (fun y => (Value.slice A n c).ownBlock = some y) w A n sz vs :=
  ⟨h.1, h.2.1, fun hn => by
    obtain ⟨b, o, e, _, r⟩ := h.2.2 hn
    exact ⟨b, o, e, by rw [e]; rfl, r⟩⟩
/-- What a row of one's own is in the end: its block, and those that its elements lead to. -/
theorem Gr.rowsO {α : Type} {E : (Nat → Prop) → World → α → List Value → Prop} {e : TypeId} {sz : Nat} {w : World} {B : Nat} {v : Value} {vs : List Value} {D : Nat → Prop} {xs : List α} (ok : EOk E) (h : Gr E e sz w B v vs D xs) :
    ∃ A c, v = .slice A xs.length c ∧ xs.length ≤ c ∧ c ≤ maxLen ∧ RowsL sz (E (fun y => D y ∨ v.ownBlock = some y) w) (fun y => D y ∨ v.ownBlock = some y) w A xs.length xs := by
  obtain ⟨A, c, e1, h1, h2, h3⟩ := own_vrow h.ow
  exact ⟨A, c, e1, h1, h2, vs, rfl, (h3.own c).mono (fun y hy => .inr (by rw [e1]; exact hy)), h.hd.imp fun _ _ hx => ok.mono hx (fun _ hy => .inl hy)⟩
section
variable {w : World} {N : Nat} {gr : Nat → Nat} {x : Fx} {k : Ks} {c : Nat} {pt : Nat → Nat}
theorem edrop_any (h : CoJ 0 w N gr x k c pt) (hT : TabN N w) (hc : c ≤ 1000000) {i g : Int} (hw : okE (i, g)) {n r : Nat} (hn : okN n) {t : Tb} (ht : k.tb n = some t) (hr : r < t.rows.length) (hmo : okE t.lastR.1) :
    Calls Tryz.prog 93 #[.pointer (some ⟨x.p, 0, none⟩), .agg (enC n r i g (some ⟨pt n, 0, none⟩))] w fun e w' => e = .returned (.tuple #[]) ∧ ∃ gr', CoJ 0 w' N gr' x (k.drop (i, g) n r t) (c + 1) pt ∧ TGo w gr w' gr' := by
  by_cases hl : r = t.rows.length - 1
  · by_cases h1 : t.rows.length = 1
    · exact edrop_A0 h hT hc hw hn ht hr hl h1
    · exact edrop_A1 h hT hc hw hn ht hr hl h1
  · exact edrop_B h hT hc hw hn ht hr hl hmo
theorem upd_self {α : Type} (f : Nat → α) (n : Nat) {v : α} (h : f n = v) : upd f n v = f := by
  funext a
  unfold upd
  split
  · rename_i e; subst e; exact h.symm
  · rfl
/-- The table of a node; a new one, if there is none. -/
def Ks.tab (k : Ks) (x : Fx) (n s : Nat) : Tb := (k.tb n).getD (Tb.new x.n (zsK x.ks) s)
theorem eadd_any (h : CoJ 0 w N gr x k c pt) (hT : TabN N w) (hc : c ≤ 100000) {i g : Int} (hw : okE (i, g)) {n : Nat} (hn : okN n) {s : Nat} (hs : k.S[n]? = some s) (hsl : s < 18446744073709551616) (hsub : s &&& ofL (idxs x.n) 64 = s) (hks : x.n ≤ 1000000) {K : Nat → Prop} {PA : Option Addr} {pn : Nat} {ps : List Pt} (hp : PartsV K w PA pn ps) (hK : ∀ y, K y → gr y = 0) (hpn : pn ≤ 1000000) (pc : Nat) :
    Calls Tryz.prog 77 #[.pointer (some ⟨x.p, 0, none⟩), .agg #[.int .i64 i, .int .i64 g], .int .i64 (n : Int), .slice PA pn pc] w fun e w' => e = .returned (.tuple #[]) ∧ ∃ gr' pt', CoJ 0 w' N gr' x (k.put (i, g) n (k.tab x n s) ps) (c + 2) pt' ∧ TGo w gr w' gr' := by
  unfold Ks.tab
  cases ht : k.tb n with
  | some t =>
    refine (eadd_old h hT (by omega) hw hn ht hp hK hpn pc).mono ?_
    rintro e w' ⟨rfl, gr', h', hG⟩
    exact ⟨rfl, gr', pt, h'.more (by omega), hG⟩
  | none => exact eadd_new h hT hc hw hn ht hs hsl hsub hks hp hK hpn pc
/-- An entity goes from row r of the table t of node n to node n2, with ps. -/
def Ks.move (k : Ks) (x : Fx) (id : Int × Int) (n r : Nat) (t : Tb) (n2 s2 : Nat) (ps : List Pt) : Ks := (k.drop id n r t).put id n2 ((k.drop id n r t).tab x n2 s2) ps

set_option maxHeartbeats 1000000 in
theorem emove_any (h : CoJ 0 w N gr x k c pt) (hT : TabN N w) (hc : c ≤ 90000) {i g : Int} (hw : okE (i, g)) {n r : Nat} (hn : okN n) {t : Tb} (ht : k.tb n = some t) (hr : r < t.rows.length) (hmo : okE t.lastR.1)
    {n2 s2 : Nat} (hn2 : okN n2) (hs2 : k.S[n2]? = some s2) (hsl : s2 < 18446744073709551616) (hsub : s2 &&& ofL (idxs x.n) 64 = s2) (hks : x.n ≤ 1000000) (hS : k.S.length ≤ 4096) {K : Nat → Prop} {MA : Option Addr} {mn : Nat} {more : List Pt} (hm : PartsV K w MA mn more) (hK : ∀ y, K y → gr y = 0) (hmn : mn ≤ 1000) (mc : Nat) :
    Calls Tryz.prog 84 #[.pointer (some ⟨x.p, 0, none⟩), .agg (enC n r i g (some ⟨pt n, 0, none⟩)), .int .i64 (n2 : Int), .slice MA mn mc] w fun e w' => e = .returned (.tuple #[]) ∧ ∃ gr' pt', CoJ 0 w' N gr' x (k.move x (i, g) n r t n2 s2 ((t.rows.getD r noEn).2 ++ more)) (c + 3) pt' ∧ TGo w gr w' gr' := by
  obtain ⟨w1, hw1⟩ : ∃ w1, w1 = w.alloc (.cells (enC n r i g (some ⟨pt n, 0, none⟩)) 110) := ⟨_, rfl⟩
  have hb1 : Below w.heap.size w w1 := by rw [hw1]; exact (Below.refl _ _).alloc (Nat.le_refl _) _
  have r1 : Rec 110 w1 w.heap.size (enC n r i g (some ⟨pt n, 0, none⟩)) := by rw [hw1]; exact Rec.new w _ _
  have hs1 : w1.heap.size = w.heap.size + 1 := by rw [hw1]; simp
  have h1 := h.below hb1
  obtain ⟨q, hq⟩ : ∃ q : Nat, q = pt n := ⟨_, rfl⟩
  rw [← hq] at r1 hw1
  obtain ⟨s, tag, m, v, qq, hs, hA, hg⟩ := h1.tab n t (by omega) ht
  obtain ⟨ps, hps⟩ : ∃ ps, ps = (t.rows.getD r noEn).2 := ⟨_, rfl⟩
  have hpl : ps.length = t.cs.length := by rw [hps]; exact (Tb.Ok.getD hA.ok hr).len
  have hpl64 := hA.ok.cn
  have CP : Hid (Calls Tryz.prog 53 #[.pointer (some ⟨q, 0, none⟩), .int .i64 (r : Nat)] w1 fun e w' => ∃ PA pc vs D, e = .returned (.tuple #[.slice PA ps.length pc, .int .i64 0]) ∧ Gr EP 161 2 w' w1.heap.size (.slice PA ps.length pc) vs D ps ∧ (∀ y, D y → w1.heap.size ≤ y) ∧ Below w1.heap.size w1 w') := Lib.hid (by
    rw [hq]
    have := TParts_gr hA.i hA.sig hA.sgl (hT.below h hb1).2 hA.ok.cn hA.hrw r (by rw [t.ids_len]; exact hr)
    rw [Tb.rowL_eq hA.ok hr, ← hps, ← hpl] at this
    exact this)
  have hg0 : gr w.heap.size = 0 := Classical.byContradiction fun hh => by have := h.dom _ hh; omega
  have k1 := r1.at_ 1
  have k4 := r1.at_ 4
  have H1 := Lib.hid (And.intro r1 (And.intro hb1 (And.intro hg0 (And.intro hs1 h))))
  have HN := Lib.hid (And.intro hw (And.intro hn (And.intro ht (And.intro hr (And.intro hmo (And.intro hT hc))))))
  have HM := Lib.hid (And.intro hn2 (And.intro hs2 (And.intro hsl (And.intro hsub (And.intro hks (And.intro hS hmn))))))
  have HP := Lib.hid (And.intro hm (And.intro hK (And.intro hpl hpl64)))
  have HQ := Lib.hid hq
  rw [← hps, ← hq]
  clear h hb1 r1 hA hg hT hs hw hn ht hr hc hq hg0 hmo hn2 hs2 hsl hsub hks hS hmn hm hK hpl hpl64 hps hs1
  have H1' := Lib.hid h1
  clear h1
  go_enter Tryz.func84, Tryz.ntmps84
  go_upto_region 2 with (first
    | (rw [← hw1]; clear hw1)
    | (go_at_call 53; refine CP.out.mono ?_; rintro e w2 ⟨PA, pc, vs, D, rfl, hG2, hD2, hb2⟩; have H2 := Lib.hid (And.intro hG2 (And.intro hD2 hb2)); clear hG2 hD2 hb2 k1 k4))
  obtain ⟨r1, hb1, hg0, hs1, h⟩ := H1.out
  obtain ⟨hw, hn, ht, hr, hmo, hT, hc⟩ := HN.out
  obtain ⟨hG2, hD2, hb2⟩ := H2.out
  have h2 := H1'.out.below hb2
  have hb02 := hb1.trans (hb2.mono hb1.size)
  have CD := edrop_any h2 (hT.below h hb02) (by omega) hw hn ht hr hmo
  rw [← HQ.out] at CD
  have CD := Lib.hid CD
  have R2 := Lib.hid (r1.under hb2)
  have B2 := Lib.hid hb02
  clear r1 hb1 hg0 hs1 h hw hn ht hr hmo hT hc hG2 hD2 hb2 h2 hb02 CP
  go_upto_region 3 with (first
    | (with_reducible refine wpList_ldN rfl (.tmp 5) rfl rfl R2.out ?_)
    | (go_at_call 93; refine CD.out.mono ?_; rintro e w3 ⟨rfl, gr3, h3, hG3⟩; have H3 := Lib.hid (And.intro h3 hG3); clear h3 hG3))
  obtain ⟨r1, hb1, hg0, hs1, h⟩ := H1.out
  obtain ⟨hw, hn, ht, hr, hmo, hT, hc⟩ := HN.out
  obtain ⟨hn2, hs2, hsl, hsub, hks, hS, hmn⟩ := HM.out
  obtain ⟨hm, hK, hpl, hpl64⟩ := HP.out
  obtain ⟨hG2, hD2, hb2⟩ := H2.out
  obtain ⟨h3, hG3⟩ := H3.out
  have hs2' := hb2.size
  have hG03 : TGo w gr w3 gr3 := (TGo.ofBelow B2.out).trans hG3
  have hz : ∀ y, w.heap.size ≤ y → gr y = 0 := fun y hy => Classical.byContradiction fun hh => by have := h.dom y hh; omega
  have r3 : Rec 110 w3 w.heap.size (enC n r i g (some ⟨q, 0, none⟩)) := R2.out.tgo hG3 hg0
  have G3 : Gr EP 161 2 w3.drew w1.heap.size (.slice PA ps.length pc) vs D ps :=
    (hG2.fr EP.ok (own := fun y => gr y ≠ 0) hG3.fr (fun y hy e => e (hz y (by have := (own_geB hG2.ow hy).1; omega))) (fun y hy e => e (hz y (by have := hD2 y hy; omega)))).below EP.ok (Below.refl _ _).drew
  have m3 : PartsV (fun y => K y ∧ y < w.heap.size) w3.drew MA mn more := ((hm.lt).stays ⟨hG03.fr.size, fun y hy => hG03.fr.block y hy.2 (fun hn => hn (hK y hy.1))⟩).below (Below.refl _ _).drew
  have h3d := h3.below (Below.refl _ _).drew
  obtain ⟨ms, hml, hmV, hmE⟩ := m3
  have s3 : w3.drew.cell? ⟨w.heap.size, 2, none⟩ = some (.int .i64 i) ∧ w3.drew.cell? ⟨w.heap.size, 3, none⟩ = some (.int .i64 g) := ⟨r3.at_ 2, r3.at_ 3⟩
  have HV := Lib.hid (And.intro hmV (And.intro hmE hml))
  have HG := Lib.hid G3
  have HO : Hid (∀ v4 w4, w4.ownsRow w1.heap.size 161 2 v4 (ps.length + mn) (vs ++ ms) → w3.drew.grownBy w4 (Value.slice PA ps.length pc).ownBlock → (v4.ownBlock = (Value.slice PA ps.length pc).ownBlock ∨ v4.ownBlock = some w3.drew.heap.size) →
      ∃ A4 c4, v4 = .slice A4 (ps.length + mn) c4 ∧ (w4.cell? ⟨w.heap.size, 2, none⟩ = some (.int .i64 i) ∧ w4.cell? ⟨w.heap.size, 3, none⟩ = some (.int .i64 g)) ∧
      Calls Tryz.prog 77 #[.pointer (some ⟨x.p, 0, none⟩), .agg #[.int .i64 i, .int .i64 g], .int .i64 (n2 : Int), .slice A4 (ps.length + mn) c4] w4 fun e w' => e = .returned (.tuple #[]) ∧ (∃ gr' pt', CoJ 0 w' N gr' x (k.move x (i, g) n r t n2 s2 (ps ++ more)) (c + 3) pt' ∧ TGo w gr w' gr') ∧ Rec 110 w' w.heap.size (enC n r i g (some ⟨q, 0, none⟩))) := Lib.hid (fun v4 w4 ho4 hg4 hv4 => by
    have hF4 : Fr (fun y => (Value.slice PA ps.length pc).ownBlock = some y) w3.drew w4 := Fr.grown hg4 (fun y hy => hy)
    have G4 := G3.puts EP.ok (w' := w4) (v' := v4) hmE (fun y hy e => by have := (own_geB G3.ow e).1; omega) (by rw [hml]; exact ho4) hg4 hv4
    obtain ⟨A4, c4, e4, _, _, hR⟩ := G4.rowsO EP.ok
    rw [List.length_append, hml] at e4 hR
    have vz : ∀ y, (Value.slice PA ps.length pc).ownBlock = some y → gr3 y = 0 := fun y hy => by
      have hy1 := (own_geB hG2.ow hy)
      exact hG3.gr0 (hz y (by omega)) hy1.2
    have h4 := h3d.kept hF4 (fun y hy e => hy (vz y e))
    have hB4 : Below w.heap.size w3.drew w4 := hF4.toBelow (fun y hy => by have := (own_geB hG2.ow hy).1; omega) (Nat.le_trans (Nat.le_of_lt (by omega)) (Nat.le_trans hs2' hG3.fr.size))
    have c4e := hF4.block w.heap.size (show w.heap.size < w3.heap.size from r3.lt) (fun e => by have := (own_geB hG2.ow e).1; omega)
    refine ⟨A4, c4, e4, ⟨(World.cell?_of_block (w := w3.drew) (a := ⟨w.heap.size, 2, none⟩) c4e).trans (r3.at_ 2), (World.cell?_of_block (w := w3.drew) (a := ⟨w.heap.size, 3, none⟩) c4e).trans (r3.at_ 3)⟩, ?_⟩
    have hG4 : TGo w gr w4 gr3 := ⟨(hG03.fr.trans (Fr.drew _ w3)).trans' hF4 (fun y hy => .inr (by have := (own_geB hG2.ow hy).1; omega)), hG03.own⟩
    have hT4 : TabN N w4 := hT.low (hG4.toBelow h.lo h.Nle)
    refine (eadd_any h4 hT4 (by omega) hw hn2 (s := s2) hs2 hsl hsub hks hR (fun y hy => ?_) (by omega) c4).mono ?_
    · rcases hy with (hy | hy) | hy
      · exact hG3.gr0 (hz y (by have := hD2 y hy; omega)) (hG2.dx y hy).1
      · exact hG03.gr0 (hK y hy.1.1) hy.1.2
      · rcases hv4 with e | e
        · exact vz y (e ▸ hy)
        · rw [e] at hy
          injection hy with hy
          refine Classical.byContradiction fun hn => ?_
          have := h3.dom y hn
          rw [← hy] at this
          exact Nat.lt_irrefl _ this
    · rintro e w' ⟨rfl, gr', pt', h', hG'⟩
      exact ⟨rfl, ⟨gr', pt', h', hG4.trans hG'⟩, (Rec.block r3 c4e).tgo hG' (hG3.gr0 (hz _ (Nat.le_refl _)) R2.out.lt)⟩)
  have S3' := Lib.hid s3
  clear r1 hb1 hg0 hs1 h hw hn ht hr hmo hT hc hn2 hs2 hsl hsub hks hS hmn hm hK hpl hpl64 hG2 hD2 hb2 h3 hG3 hs2' hG03 hz r3 G3 h3d hmV hmE hml
  refine wp_region_noPanic ?_
  refine wp_region_held_drew (S := fun W => W.cell? ⟨w.heap.size, 2, none⟩ = some (.int .i64 i) ∧ W.cell? ⟨w.heap.size, 3, none⟩ = some (.int .i64 g)) (by kernel_rfl) s3 (fun hHeld => ?_)
  refine wpAnyH_take (i := 0) (oi := { dst := some 22, op := Op.move (Operand.tmp 0), type := 30, pos := "ecs.go:255", after := #[], guard := none }) (v := ?_) rfl (by kernel_rfl) (by kernel_rfl) (by kernel_rfl) (fun _ _ _ h => h) (Or.inl ⟨by rfl, ?_⟩) (by assumption) ?_
  rotate_left 1
  · intro w' hSw; (try dsimp only at hSw); go_simp; (try with_reducible rfl)
  simp only [Act.put, List.setIfInBounds_toArray, List.set_cons_zero, List.set_cons_succ]
  refine wpAnyH_take (i := 1) (oi := { dst := some 23, op := Op.fieldAddr 110 (Operand.tmp 5) 1, type := 0, pos := "ecs.go:255", after := #[], guard := none }) (v := ?_) rfl (by kernel_rfl) (by kernel_rfl) (by kernel_rfl) (fun _ _ _ h => h) (Or.inl ⟨by rfl, ?_⟩) (by assumption) ?_
  rotate_left 1
  · intro w' hSw; (try dsimp only at hSw); go_simp; (try with_reducible rfl)
  simp only [Act.put, List.setIfInBounds_toArray, List.set_cons_zero, List.set_cons_succ]
  refine wpAnyH_take (i := 2) (oi := { dst := some 24, op := Op.load 39 (Operand.tmp 23), type := 39, pos := "ecs.go:255", after := #[{ on := 1, ground := Ground.data }], guard := none }) (v := ?_) rfl (by kernel_rfl) (by kernel_rfl) (by kernel_rfl) (fun _ _ _ h => h) (Or.inl ⟨by rfl, ?_⟩) (by assumption) ?_
  rotate_left 1
  · intro w' hSw; (try dsimp only at hSw); go_simp; (try with_reducible rfl)
  simp only [Act.put, List.setIfInBounds_toArray, List.set_cons_zero, List.set_cons_succ]
  refine wpAnyH_take (i := 3) (oi := { dst := some 25, op := Op.move (Operand.tmp 2), type := 3, pos := "ecs.go:255", after := #[], guard := none }) (v := ?_) rfl (by kernel_rfl) (by kernel_rfl) (by kernel_rfl) (fun _ _ _ h => h) (Or.inl ⟨by rfl, ?_⟩) (by assumption) ?_
  rotate_left 1
  · intro w' hSw; (try dsimp only at hSw); go_simp; (try with_reducible rfl)
  simp only [Act.put, List.setIfInBounds_toArray, List.set_cons_zero, List.set_cons_succ]
  refine wpAnyH_take (i := 4) (oi := { dst := some 26, op := Op.move (Operand.tmp 8), type := 101, pos := "ecs.go:255", after := #[], guard := none }) (v := ?_) rfl (by kernel_rfl) (by kernel_rfl) (by kernel_rfl) (fun _ _ _ h => h) (Or.inl ⟨by rfl, ?_⟩) (by assumption) ?_
  rotate_left 1
  · intro w' hSw; (try dsimp only at hSw); go_simp; (try with_reducible rfl)
  simp only [Act.put, List.setIfInBounds_toArray, List.set_cons_zero, List.set_cons_succ]
  refine wpAnyH_take (i := 5) (oi := { dst := some 27, op := Op.move (Operand.tmp 3), type := 101, pos := "ecs.go:255", after := #[], guard := none }) (v := ?_) rfl (by kernel_rfl) (by kernel_rfl) (by kernel_rfl) (fun _ _ _ h => h) (Or.inl ⟨by rfl, ?_⟩) (by assumption) ?_
  rotate_left 1
  · intro w' hSw; (try dsimp only at hSw); go_simp; (try with_reducible rfl)
  simp only [Act.put, List.setIfInBounds_toArray, List.set_cons_zero, List.set_cons_succ]
  refine wpAnyH_ready (rs := [6]) (by kernel_rfl) (by simp) ?_
  refine AllReadyH.cons (o := { dst := some 28, op := Op.call { callee := Callee.builtin Builtin.append, args := #[Operand.tmp 26, Operand.tmp 27], argTypes := #[101, 101] }, type := 101, pos := "ecs.go:255", after := #[{ on := 4, ground := Ground.data }, { on := 5, ground := Ground.data }], guard := none }) rfl (fun K' hK => ?_) AllReadyH.nil
  refine step_appX partsTP rfl (.tmp 26) (.tmp 27) rfl w1.heap.size (.slice PA ps.length pc) ps.length vs rfl HG.out.ow MA mn mc ms rfl HV.out.1 (HV.out.2.1.one (fun y r hr => EP.one hr)) (by have := HP.out.2.2.2; have := HP.out.2.2.1; have := HM.out.2.2.2.2.2.2; omega) (by decide) HG.out.Bw ?_
  intro v4 w4 ho4 hg4 hv4
  obtain ⟨A4, c4, rfl, s4, CA⟩ := HO.out v4 w4 ho4 hg4 hv4
  have CA := Lib.hid CA
  clear ho4 hg4 hv4
  refine hK.out _ _ s4 (fun hHeld => ?_)
  clear hK K'
  try simp only [Act.put, List.setIfInBounds_toArray, List.set_cons_zero, List.set_cons_succ]
  refine wpAnyH_ready (rs := [7]) (by kernel_rfl) (by simp) ?_
  refine AllReadyH.cons (o := { dst := some 29, op := Op.call { callee := Callee.value (Operand.func 77), args := #[Operand.tmp 22, Operand.tmp 24, Operand.tmp 25, Operand.tmp 28], argTypes := #[30, 39, 3, 101] }, type := 0, pos := "ecs.go:255", after := #[{ on := 0, ground := Ground.data }, { on := 2, ground := Ground.data }, { on := 3, ground := Ground.data }, { on := 6, ground := Ground.data }, { on := 6, ground := Ground.chain }], guard := none }) rfl (fun K' hK => ?_) AllReadyH.nil
  go_simp
  go_at_call 77; refine CA.out.mono ?_; rintro e w5 ⟨rfl, ⟨gr5, pt5, h5, hG5⟩, r5⟩
  have s5 : w5.cell? ⟨w.heap.size, 2, none⟩ = some (.int .i64 i) ∧ w5.cell? ⟨w.heap.size, 3, none⟩ = some (.int .i64 g) := ⟨r5.at_ 2, r5.at_ 3⟩
  have H5 := Lib.hid (And.intro h5 hG5)
  clear h5 hG5 r5
  refine hK.out _ _ s5 (fun hHeld => ?_)
  clear hK K'
  try simp only [Act.put]
  refine wpAnyH_done (by kernel_rfl) ?_ _
  refine NoPanic.normal ?_
  clear s3 s4 s5 hHeld
  obtain ⟨h5, hG5⟩ := H5.out
  obtain ⟨sv, ed, b, _, hGA⟩ := h5.gph (by decide)
  have CL := Lib.hid (Len_any hGA)
  have c6 := h5.c6
  have hS : (k.move x (i, g) n r t n2 s2 (ps ++ more)).S.length ≤ 4096 := HM.out.2.2.2.2.2.1
  have d1 : decide (4096 < ((k.move x (i, g) n r t n2 s2 (ps ++ more)).S.length : Int)) = false := decide_eq_false (by omega)
  have d2 : decide (4096 < (k.move x (i, g) n r t n2 s2 (ps ++ more)).S.length) = false := decide_eq_false (by omega)
  obtain ⟨ln, hln⟩ : ∃ ln : Nat, ln = (k.move x (i, g) n r t n2 s2 (ps ++ more)).S.length := ⟨_, rfl⟩
  rw [← hln] at CL d1 d2
  clear h5 hG5 hGA hS hln
  go_wp2_with (go_at_call 139; refine CL.out.mono ?_; rintro e w' ⟨rfl, rfl⟩)
  go_end0
  exact ⟨rfl, gr5, pt5, H5.out⟩
end
end Go.Proofs.YtddiadpbkjdomaaGreatDoor
namespace Go.Proofs.YtddiadpbkjdomaaGreatDoor
open Go.RowKit

/-- The names of all are no longer than a text may be. -/
def Lens (ks : List Kd) : Prop := ∀ k ∈ ks, k.1.size ≤ 9223372036854775807
theorem Lens.at_ {ks : List Kd} (h : Lens ks) {j : Nat} {s : ByteArray} {z : Int} (hl : j < ks.length) (hk : ks[j] = (s, z)) : s.size ≤ 9223372036854775807 := by
  have := h _ (List.getElem_mem hl)
  rw [hk] at this
  exact this
end Go.Proofs.YtddiadpbkjdomaaGreatDoor
namespace Go.Proofs.YtddiadpbkjdomaaGreatDoor
open Go.RowKit

theorem within_any (n lo hi : Int) (w : World) :
    Calls Tryz.prog 86 #[.int .i64 n, .int .i64 lo, .int .i64 hi] w fun e w' => e = .returned (.bool (decide (lo ≤ n ∧ n ≤ hi))) ∧ w = w' := by
  by_cases h1 : lo ≤ n
  · by_cases h2 : n ≤ hi
    all_goals
      go_enter Tryz.func86, Tryz.ntmps86
      go_wp2
      go_ret
      exact ⟨ret_bool (by simp <;> omega), rfl⟩
  · go_enter Tryz.func86, Tryz.ntmps86
    go_wp2
    go_ret
    exact ⟨ret_bool (by simp <;> omega), rfl⟩

theorem plain_any (b : UInt8) (w : World) :
    Calls Tryz.prog 173 #[.int .u8 (b.toNat : Int)] w fun e w' => e = .returned (.bool (plainN b)) ∧ w = w' := by
  unfold plainN
  obtain ⟨x, hx⟩ : ∃ x, x = b.toNat := ⟨_, rfl⟩
  rw [← hx]
  clear hx
  by_cases h1 : 97 ≤ x <;> by_cases h2 : x ≤ 122 <;> by_cases h3 : 48 ≤ x <;> by_cases h4 : x ≤ 57 <;> by_cases h5 : x = 95 <;> first
  | omega
  | (go_enter Tryz.func173, Tryz.ntmps173
     go_wp2
     go_ret
     exact ⟨ret_bool (by first | rfl | (rw [Bool.eq_iff_iff]; simp <;> omega)), rfl⟩)

end Go.Proofs.YtddiadpbkjdomaaGreatDoor
namespace Go.Proofs.YtddiadpbkjdomaaGreatDoor
open Go.RowKit

theorem bytes_at (s : ByteArray) (j : Nat) (h : j < s.size) : s.data.toList.take (j + 1) = s.data.toList.take j ++ [s[j]] := by
  have hl : j < s.data.toList.length := by simpa using h
  rw [List.take_succ_eq_append_getElem hl]
  rfl
theorem allP (s : ByteArray) (j : Nat) (h : j < s.size) : (s.data.toList.take (j + 1)).all plainN = ((s.data.toList.take j).all plainN && plainN s[j]) := by
  rw [bytes_at s j h, List.all_append]
  simp
theorem all_of_take (s : ByteArray) (j : Nat) (h : (s.data.toList.take j).all plainN = false) : s.data.toList.all plainN = false := by
  rw [List.all_eq_false] at h ⊢
  obtain ⟨x, hx, hp⟩ := h
  exact ⟨x, List.mem_of_mem_take hx, hp⟩

theorem CName_any (s : ByteArray) (w : World) (hs : s.size ≤ 9223372036854775807) :
    Calls Tryz.prog 143 #[.string s] w fun e w' => e = .returned (.bool (nameB s)) ∧ w = w' := by
  by_cases h : 1 ≤ s.size ∧ s.size ≤ 16
  · have hd : decide ((1 : Int) ≤ (s.size : Int) ∧ (s.size : Int) ≤ 16) = true := by simp; omega
    have hn : nameB s = s.data.toList.all plainN := by simp [nameB, h]
    have HN := Lib.hid hn
    have HD := Lib.hid hd
    clear hn hd
    go_enter Tryz.func143, Tryz.ntmps143
    go_wp2_with (go_at_call 86; refine (within_any _ _ _ _).mono ?_; rintro e w' ⟨rfl, rfl⟩; rw [HD.out])
    go_loop [10, 3] (fun i _ => ∃ j : Nat, j ≤ s.size ∧ i = .int .i64 j ∧ (s.data.toList.take j).all plainN = true) (fun i _ => s.size - (intOf i).toNat)
    case atStart => exact ⟨0, Nat.zero_le _, rfl, rfl⟩
    case round =>
      obtain ⟨j, hj, rfl, hall⟩ := hrel
      by_cases hlt : j < s.size
      · have hp := allP s j hlt
        rw [hall, Bool.true_and] at hp
        have HA := Lib.hid hall
        clear hall
        cases hpl : plainN s[j]
        · rw [hpl] at hp
          have HP := Lib.hid (all_of_take s _ hp)
          have HL := Lib.hid hpl
          clear hp hpl
          go_wp2_with (go_at_call 173; refine (plain_any s[j] _).mono ?_; rintro e w' ⟨rfl, rfl⟩; rw [HL.out])
          go_ret
          exact ⟨ret_bool (by rw [HN.out, HP.out]), rfl⟩
        · rw [hpl] at hp
          have HP := Lib.hid hp
          have HL := Lib.hid hpl
          clear hp hpl
          go_wp2_with (go_at_call 173; refine (plain_any s[j] _).mono ?_; rintro e w' ⟨rfl, rfl⟩; rw [HL.out])
          go_round
          case rel => exact ⟨j + 1, hlt, by go_num, HP.out⟩
          case measure => simp [intOf]; omega
      · go_wp2
        go_ret
        refine ⟨ret_bool ?_, rfl⟩
        rw [HN.out, ← hall, List.take_of_length_le (by simp; omega)]
  · have hd : decide ((1 : Int) ≤ (s.size : Int) ∧ (s.size : Int) ≤ 16) = false := by simp; omega
    have hn : nameB s = false := by simp [nameB]; omega
    rw [hn]
    clear hn h
    go_enter Tryz.func143, Tryz.ntmps143
    go_wp2_with (go_at_call 86; refine (within_any _ _ _ _).mono ?_; rintro e w' ⟨rfl, rfl⟩; rw [hd])
    go_ret
    exact ⟨rfl, rfl⟩

theorem RName_any (s : ByteArray) (w : World) (hs : s.size ≤ 9223372036854775807) :
    Calls Tryz.prog 38 #[.string s] w fun e w' => e = .returned (.bool (nameB s)) ∧ ∃ n, w' = w.drewN n := by
  go_enter Tryz.func38, Tryz.ntmps38
  go_wp2
  go_loopw [3] (fun i wr => ∃ j n : Nat, j ≤ s.size ∧ i = .int .i64 j ∧ (s.data.toList.take j).all plainN = true ∧ wr = w.drewN n) (fun i _ => s.size - (intOf i).toNat)
  case atStart => exact ⟨0, 0, Nat.zero_le _, rfl, rfl, rfl⟩
  case round =>
    obtain ⟨j, n, hj, rfl, hall, rfl⟩ := hrel
    by_cases hlt : j < s.size
    · have hp := allP s j hlt
      rw [hall, Bool.true_and] at hp
      have HA := Lib.hid hall
      clear hall
      have hlt' : (j : Int) < (s.size : Int) := by omega
      have hpl : plainN s[j] = (decide (97 ≤ s[j].toNat ∧ s[j].toNat ≤ 122) || decide (48 ≤ s[j].toNat ∧ s[j].toNat ≤ 57) || decide (s[j].toNat = 95)) := rfl
      by_cases h1 : (97 : Int) ≤ (s[j].toNat : Int) <;> by_cases h2 : (s[j].toNat : Int) ≤ 122 <;> by_cases h3 : (48 : Int) ≤ (s[j].toNat : Int) <;> by_cases h4 : (s[j].toNat : Int) ≤ 57 <;> by_cases h5 : (s[j].toNat : Int) = 95 <;> first
      | (exfalso; omega)
      | (have hv : plainN s[j] = true := by rw [hpl]; simp; omega
         (first | have e1 : decide ((97 : Int) ≤ (s[j].toNat : Int)) = true := decide_eq_true h1 | (have e1 : decide ((97 : Int) ≤ (s[j].toNat : Int)) = false := decide_eq_false h1; clear h1))
         (first | have e2 : decide ((s[j].toNat : Int) ≤ 122) = true := decide_eq_true h2 | (have e2 : decide ((s[j].toNat : Int) ≤ 122) = false := decide_eq_false h2; clear h2))
         (first | have e3 : decide ((48 : Int) ≤ (s[j].toNat : Int)) = true := decide_eq_true h3 | (have e3 : decide ((48 : Int) ≤ (s[j].toNat : Int)) = false := decide_eq_false h3; clear h3))
         (first | have e4 : decide ((s[j].toNat : Int) ≤ 57) = true := decide_eq_true h4 | (have e4 : decide ((s[j].toNat : Int) ≤ 57) = false := decide_eq_false h4; clear h4))
         (first | have e5 : decide ((s[j].toNat : Int) = 95) = true := decide_eq_true h5 | (have e5 : decide ((s[j].toNat : Int) = 95) = false := decide_eq_false h5; have g5 : ((s[j].toNat : Int) != 95) = true := bne_iff_ne.2 h5; clear h5))
         rw [hv] at hp
         have HP := Lib.hid hp
         clear hp hpl hv
         go_wp2
         go_quiet (fail)
         go_wp2
         go_roundw
         case rel => exact ⟨j + 1, _, hlt, by go_num, HP.out, rfl⟩
         case measure => simp [intOf]; omega)
      | (have hv : plainN s[j] = false := by rw [hpl]; simp; omega
         (first | have e1 : decide ((97 : Int) ≤ (s[j].toNat : Int)) = true := decide_eq_true h1 | (have e1 : decide ((97 : Int) ≤ (s[j].toNat : Int)) = false := decide_eq_false h1; clear h1))
         (first | have e2 : decide ((s[j].toNat : Int) ≤ 122) = true := decide_eq_true h2 | (have e2 : decide ((s[j].toNat : Int) ≤ 122) = false := decide_eq_false h2; clear h2))
         (first | have e3 : decide ((48 : Int) ≤ (s[j].toNat : Int)) = true := decide_eq_true h3 | (have e3 : decide ((48 : Int) ≤ (s[j].toNat : Int)) = false := decide_eq_false h3; clear h3))
         (first | have e4 : decide ((s[j].toNat : Int) ≤ 57) = true := decide_eq_true h4 | (have e4 : decide ((s[j].toNat : Int) ≤ 57) = false := decide_eq_false h4; clear h4))
         (first | have e5 : decide ((s[j].toNat : Int) = 95) = true := decide_eq_true h5 | (have e5 : decide ((s[j].toNat : Int) = 95) = false := decide_eq_false h5; have g5 : ((s[j].toNat : Int) != 95) = true := bne_iff_ne.2 h5; clear h5))
         rw [hv] at hp
         have HP := Lib.hid (all_of_take s _ hp)
         clear hp hpl hv
         go_wp2
         go_quiet (fail)
         go_wp2
         go_ret
         exact ⟨ret_bool (by simp [nameB, HP.out]), _, rfl⟩)
    · have hn : nameB s = decide (1 ≤ s.size ∧ s.size ≤ 16) := by
        rw [List.take_of_length_le (by simp; omega)] at hall
        simp [nameB, hall]
      have HN := Lib.hid hn
      clear hn hall
      by_cases h1 : 1 ≤ s.size
      · have e1 : decide ((1 : Int) ≤ (s.size : Int)) = true := by simp; omega
        go_wp2
        go_ret
        exact ⟨ret_bool (by rw [HN.out, Bool.eq_iff_iff]; simp <;> omega), _, rfl⟩
      · have e1 : decide ((1 : Int) ≤ (s.size : Int)) = false := by simp; omega
        go_wp2
        go_ret
        exact ⟨ret_bool (by rw [HN.out, Bool.eq_iff_iff]; simp <;> omega), _, rfl⟩
end Go.Proofs.YtddiadpbkjdomaaGreatDoor
namespace Go.Proofs.YtddiadpbkjdomaaGreatDoor
open Go.RowKit

theorem named_any (A : Option Addr) (n c : Nat) (ks : List Kd) (w : World) (h : KRd w A n ks) (hn : n ≤ 1000000) (hs : Lens ks) :
    Calls Tryz.prog 87 #[.slice A n c] w fun e w' => e = .returned (.bool (decide (Named ks))) ∧ Below w.heap.size w w' := by
  have H := Lib.hid h
  have HS := Lib.hid hs
  clear h hs
  go_enter Tryz.func87, Tryz.ntmps87
  go_wp2
  go_loopw [7] (fun i wr => ∃ j : Nat, j ≤ n ∧ i = .int .i64 j ∧ Named (ks.take j) ∧ Below w.heap.size w wr) (fun i _ => n - (intOf i).toNat)
  case atStart => exact ⟨0, Nat.zero_le _, rfl, Named.nil, Below.refl _ _⟩
  case round =>
    obtain ⟨j, hj, rfl, hall, hb⟩ := hrel
    by_cases hlt : j < n
    · obtain ⟨b, o, s, z, rfl, _, k0, k1, hl, hk⟩ := (H.out.below hb).at_ hlt
      have hsn := named_snoc hl
      have hsz := HS.out.at_ hl hk
      rw [hk] at hsn
      have HA := Lib.hid hall
      have HB := Lib.hid hb
      have HSN := Lib.hid hsn
      clear hall hb hsn hk
      go_wp2_with (go_at_call 143; refine (CName_any s _ hsz).mono ?_; rintro e w' ⟨rfl, rfl⟩)
      · go_ret
        refine ⟨ret_bool (decide_eq_false fun hN => ?_).symm, HB.out.alloc HB.out.size _⟩
        have := (HSN.out.1 (named_take hN _)).2
        simp_all
      · go_roundw
        case rel => exact ⟨j + 1, hlt, by go_num, HSN.out.2 ⟨HA.out, by simp_all⟩, HB.out.alloc HB.out.size _⟩
        case measure => simp [intOf]; omega
    · go_wp2
      go_ret
      refine ⟨ret_bool (decide_eq_true ?_).symm, hb⟩
      rwa [List.take_of_length_le (by rw [H.out.1]; omega)] at hall

theorem sized_any (A : Option Addr) (n c : Nat) (ks : List Kd) (w : World) (h : KRd w A n ks) (hn : n ≤ 1000000) :
    Calls Tryz.prog 89 #[.slice A n c] w fun e w' => e = .returned (.bool (decide (Sized ks))) ∧ Below w.heap.size w w' := by
  have H := Lib.hid h
  clear h
  go_enter Tryz.func89, Tryz.ntmps89
  go_wp2
  go_loopw [7] (fun i wr => ∃ j : Nat, j ≤ n ∧ i = .int .i64 j ∧ Sized (ks.take j) ∧ Below w.heap.size w wr) (fun i _ => n - (intOf i).toNat)
  case atStart => exact ⟨0, Nat.zero_le _, rfl, Sized.nil, Below.refl _ _⟩
  case round =>
    obtain ⟨j, hj, rfl, hall, hb⟩ := hrel
    by_cases hlt : j < n
    · obtain ⟨b, o, s, z, rfl, _, k0, k1, hl, hk⟩ := (H.out.below hb).at_ hlt
      have hsn := sized_snoc hl
      rw [hk] at hsn
      have HA := Lib.hid hall
      have HB := Lib.hid hb
      have HSN := Lib.hid hsn
      clear hall hb hsn hk
      by_cases hz : 0 ≤ z ∧ z ≤ 64
      · have hd := decide_eq_true hz
        have HZ := Lib.hid hz
        clear hz
        go_wp2_with (go_at_call 86; refine (within_any _ _ _ _).mono ?_; rintro e w' ⟨rfl, rfl⟩; rw [hd])
        go_roundw
        case rel => exact ⟨j + 1, hlt, by go_num, HSN.out.2 ⟨HA.out, HZ.out⟩, HB.out.alloc HB.out.size _⟩
        case measure => simp [intOf]; omega
      · have hd : decide (0 ≤ z ∧ z ≤ 64) = false := decide_eq_false hz
        have HZ := Lib.hid hz
        clear hz
        go_wp2_with (go_at_call 86; refine (within_any _ _ _ _).mono ?_; rintro e w' ⟨rfl, rfl⟩; rw [hd])
        go_ret
        exact ⟨ret_bool (decide_eq_false fun hN => HZ.out (HSN.out.1 (sized_take hN _)).2).symm, HB.out.alloc HB.out.size _⟩
    · go_wp2
      go_ret
      refine ⟨ret_bool (decide_eq_true ?_).symm, hb⟩
      rwa [List.take_of_length_le (by rw [H.out.1]; omega)] at hall

theorem toList_inj {a b : ByteArray} : (a.toList == b.toList) = decide (a = b) := by
  rw [Bool.eq_iff_iff, beq_iff_eq, decide_eq_true_eq, ByteArray.toList_eq, ByteArray.toList_eq]
  refine ⟨fun h => ?_, fun h => by rw [h]⟩
  exact ByteArray.ext (Array.ext' h)

theorem apart_any (A : Option Addr) (n c : Nat) (ks : List Kd) (w : World) (h : KRd w A n ks) (hn : n ≤ 1000000) :
    Calls Tryz.prog 88 #[.slice A n c] w fun e w' => e = .returned (.bool (decide (Apart ks))) ∧ Below w.heap.size w w' := by
  have H := Lib.hid h
  clear h
  go_enter Tryz.func88, Tryz.ntmps88
  go_wp2
  go_step3
  go_wp2
  go_step3
  go_wp2
  go_loopg [9] n (fun g i wr => ∃ j : Nat, j + g = n ∧ i = .int .i64 j ∧ Apart (ks.take j) ∧ Below w.heap.size w wr)
  case atStart => exact ⟨0, by omega, rfl, Apart.nil, Below.refl _ _⟩
  case round =>
    obtain ⟨j, hj, rfl, hall, hb⟩ := hrel
    cases gk with
    | zero =>
      have hjz : ¬ ((j : Int) < (n : Int)) := by omega
      go_wp2
      try rw [Exit.noGoto_ret]
      go_ret
      refine ⟨ret_bool (decide_eq_true ?_).symm, hb⟩
      rwa [List.take_of_length_le (by rw [H.out.1]; omega)] at hall
    | succ g =>
      have hjz : (j : Int) < (n : Int) := by omega
      obtain ⟨b, o, s, z, rfl, _, k0, k1, hl, hk⟩ := (H.out.below hb).at_ (show j < n by omega)
      have hsn := apart_snoc hl
      rw [hk] at hsn
      have HA := Lib.hid hall
      have HB := Lib.hid hb
      have HSN := Lib.hid hsn
      clear hall hb hsn hk
      go_wp2
      obtain ⟨p, hp⟩ : ∃ p, p = wr.heap.size := ⟨_, rfl⟩
      obtain ⟨w1, hw1⟩ : ∃ w1, w1 = wr.alloc (.cells #[.string s, .int .i64 z] 72) := ⟨_, rfl⟩
      have hB1 : Below w.heap.size w w1 := by rw [hw1]; exact HB.out.alloc HB.out.size _
      have q0 : w1.cell? ⟨p, 0, none⟩ = some (.string s) := by rw [hw1, hp]; simp
      have hlt1 : p < w1.heap.size := by rw [hw1, hp]; simp
      rw [← hw1, ← hp]
      clear hw1 hp
      have HB1 := Lib.hid hB1
      clear hB1
      go_loopg [16] (n - 1) (fun g2 i2 wy => ∃ m : Nat, m + g2 = n - 1 ∧ m ≤ j ∧ i2 = .int .i64 m ∧ First ks s m ∧ Below w1.heap.size w1 wy)
      case atStart => exact ⟨0, by omega, Nat.zero_le _, rfl, First.zero _ _, Below.refl _ _⟩
      case round =>
        obtain ⟨m, hmg, hmj, rfl, hf, hb2⟩ := hrel
        have hmn : (m : Int) < (n : Int) := by omega
        have Q0 : wr.cell? ⟨p, 0, none⟩ = some (.string s) := (hb2.cell (p := ⟨p, 0, none⟩) hlt1).trans q0
        have hB2 := HB1.out.trans (hb2.mono HB1.out.size)
        obtain ⟨b', o', s', z', hA', _, k0', k1', hl', hk'⟩ := (H.out.below hB2).at_ (show m < n by omega)
        obtain ⟨rfl, rfl⟩ : b = b' ∧ o = o' := by simpa using hA'
        have hsn' := First.succ (s := s) hl'
        rw [hk'] at hsn'
        have Q1 : (wr.alloc (.cells #[.string s', .int .i64 z'] 72)).cell? ⟨p, 0, none⟩ = some (.string s) := (((Below.refl wr.heap.size wr).alloc (Nat.le_refl _) _).cell (p := ⟨p, 0, none⟩) (by have := hb2.size; simp; omega)).trans Q0
        have HB2 := Lib.hid hB2
        have Hb2 := Lib.hid hb2
        have HF := Lib.hid hf
        have HSN' := Lib.hid hsn'
        clear hB2 hb2 hf hsn' hA' hk'
        by_cases hmj' : m = j
        · subst hmj'
          go_wp2
          go_roundg g
          case measure => omega
          case rel => exact ⟨m + 1, by omega, by go_num, HSN.out.2 ⟨HA.out, HF.out⟩, HB2.out.alloc HB2.out.size _⟩
        · have hne : ((m : Int) == (j : Int)) = false := by simp; omega
          by_cases hss : s' = s
          · subst hss
            go_wp2
            go_ret
            exact ⟨ret_bool (decide_eq_false fun hN => (by
              have h1 := (HSN.out.1 (apart_take hN _)).2
              have h2 : First ks s' (m + 1) := fun k hk => h1 k ((List.take_subset_take_left ks (show m + 1 ≤ j by omega)) hk)
              exact (HSN'.out.1 h2).2 rfl)).symm, HB2.out.alloc HB2.out.size _⟩
          · have hbe : (s'.toList == s.toList) = false := by rw [toList_inj]; exact decide_eq_false hss
            cases gk with
            | zero => omega
            | succ g2 =>
              have HSS := Lib.hid hss
              clear hss
              go_wp2
              go_roundg g2
              case measure => omega
              case rel => exact ⟨m + 1, by omega, by omega, by go_num, HSN'.out.2 ⟨HF.out, HSS.out⟩, Hb2.out.alloc Hb2.out.size _⟩
end Go.Proofs.YtddiadpbkjdomaaGreatDoor
namespace Go.Proofs.YtddiadpbkjdomaaGreatDoor
open Go.RowKit
set_option linter.unusedVariables false

section
variable (lg pg en gn : Int) (A : Option Addr) (n cap : Nat) (ks : List Kd) (w : World)

theorem Check_0 (h : KRd w A n ks) (hn : n ≤ 1000000) (hs : Lens ks) (d0 : decide (2 ≤ lg ∧ lg ≤ 1024) = false) :
    Calls Tryz.prog 33 #[cv lg pg en gn A n cap] w fun e w' => e = .returned (.int .i64 1) ∧ Below w.heap.size w w' := by
  obtain ⟨w1, hw1⟩ : ∃ w1, w1 = w.alloc (.cells (cc lg pg en gn A n cap) 24) := ⟨_, rfl⟩
  have C1 := CAt.new h lg pg en gn cap
  rw [← hw1] at C1
  obtain ⟨g, hg⟩ : ∃ g, g = w.heap.size := ⟨_, rfl⟩
  rw [← hg] at C1
  have HG := Lib.hid hg
  clear h hg
  have c0 := C1.c0
  have c1 := C1.c1
  have c2 := C1.c2
  have c3 := C1.c3
  have c4 := C1.c4
  have K1 := Lib.hid C1
  clear C1
  go_enter Tryz.func33, Tryz.ntmps33
  go_wp2_with (first
    | (rw [← hw1, ← HG.out]; clear hw1)
    | (go_at_call 86; refine (within_any _ _ _ _).mono ?_; rintro e w' ⟨rfl, rfl⟩; (first | rw [d0])))
  go_ret
  exact ⟨rfl, K1.out.bel⟩

theorem Check_1 (h : KRd w A n ks) (hn : n ≤ 1000000) (hs : Lens ks) (d0 : decide (2 ≤ lg ∧ lg ≤ 1024) = true) (d1 : decide (4 ≤ pg ∧ pg ≤ 1024) = false) :
    Calls Tryz.prog 33 #[cv lg pg en gn A n cap] w fun e w' => e = .returned (.int .i64 1) ∧ Below w.heap.size w w' := by
  obtain ⟨w1, hw1⟩ : ∃ w1, w1 = w.alloc (.cells (cc lg pg en gn A n cap) 24) := ⟨_, rfl⟩
  have C1 := CAt.new h lg pg en gn cap
  rw [← hw1] at C1
  obtain ⟨g, hg⟩ : ∃ g, g = w.heap.size := ⟨_, rfl⟩
  rw [← hg] at C1
  have HG := Lib.hid hg
  clear h hg
  have c0 := C1.c0
  have c1 := C1.c1
  have c2 := C1.c2
  have c3 := C1.c3
  have c4 := C1.c4
  have K1 := Lib.hid C1
  clear C1
  go_enter Tryz.func33, Tryz.ntmps33
  go_wp2_with (first
    | (rw [← hw1, ← HG.out]; clear hw1)
    | (go_at_call 86; refine (within_any _ _ _ _).mono ?_; rintro e w' ⟨rfl, rfl⟩; (first | rw [d0] | rw [d1])))
  go_ret
  exact ⟨rfl, K1.out.bel⟩

theorem Check_2 (h : KRd w A n ks) (hn : n ≤ 1000000) (hs : Lens ks) (d0 : decide (2 ≤ lg ∧ lg ≤ 1024) = true) (d1 : decide (4 ≤ pg ∧ pg ≤ 1024) = true) (d2 : decide (1 ≤ en ∧ en ≤ 1024) = false) :
    Calls Tryz.prog 33 #[cv lg pg en gn A n cap] w fun e w' => e = .returned (.int .i64 1) ∧ Below w.heap.size w w' := by
  obtain ⟨w1, hw1⟩ : ∃ w1, w1 = w.alloc (.cells (cc lg pg en gn A n cap) 24) := ⟨_, rfl⟩
  have C1 := CAt.new h lg pg en gn cap
  rw [← hw1] at C1
  obtain ⟨g, hg⟩ : ∃ g, g = w.heap.size := ⟨_, rfl⟩
  rw [← hg] at C1
  have HG := Lib.hid hg
  clear h hg
  have c0 := C1.c0
  have c1 := C1.c1
  have c2 := C1.c2
  have c3 := C1.c3
  have c4 := C1.c4
  have K1 := Lib.hid C1
  clear C1
  go_enter Tryz.func33, Tryz.ntmps33
  go_wp2_with (first
    | (rw [← hw1, ← HG.out]; clear hw1)
    | (go_at_call 86; refine (within_any _ _ _ _).mono ?_; rintro e w' ⟨rfl, rfl⟩; (first | rw [d0] | rw [d1] | rw [d2])))
  go_ret
  exact ⟨rfl, K1.out.bel⟩

theorem Check_3 (h : KRd w A n ks) (hn : n ≤ 1000000) (hs : Lens ks) (d0 : decide (2 ≤ lg ∧ lg ≤ 1024) = true) (d1 : decide (4 ≤ pg ∧ pg ≤ 1024) = true) (d2 : decide (1 ≤ en ∧ en ≤ 1024) = true) (d3 : decide (1 ≤ gn ∧ gn ≤ 1073741824) = false) :
    Calls Tryz.prog 33 #[cv lg pg en gn A n cap] w fun e w' => e = .returned (.int .i64 1) ∧ Below w.heap.size w w' := by
  obtain ⟨w1, hw1⟩ : ∃ w1, w1 = w.alloc (.cells (cc lg pg en gn A n cap) 24) := ⟨_, rfl⟩
  have C1 := CAt.new h lg pg en gn cap
  rw [← hw1] at C1
  obtain ⟨g, hg⟩ : ∃ g, g = w.heap.size := ⟨_, rfl⟩
  rw [← hg] at C1
  have HG := Lib.hid hg
  clear h hg
  have c0 := C1.c0
  have c1 := C1.c1
  have c2 := C1.c2
  have c3 := C1.c3
  have c4 := C1.c4
  have K1 := Lib.hid C1
  clear C1
  go_enter Tryz.func33, Tryz.ntmps33
  go_wp2_with (first
    | (rw [← hw1, ← HG.out]; clear hw1)
    | (go_at_call 86; refine (within_any _ _ _ _).mono ?_; rintro e w' ⟨rfl, rfl⟩; (first | rw [d0] | rw [d1] | rw [d2] | rw [d3])))
  go_ret
  exact ⟨rfl, K1.out.bel⟩

theorem Check_4 (h : KRd w A n ks) (hn : n ≤ 1000000) (hs : Lens ks) (d0 : decide (2 ≤ lg ∧ lg ≤ 1024) = true) (d1 : decide (4 ≤ pg ∧ pg ≤ 1024) = true) (d2 : decide (1 ≤ en ∧ en ≤ 1024) = true) (d3 : decide (1 ≤ gn ∧ gn ≤ 1073741824) = true) (d4 : ¬ n ≤ 32) :
    Calls Tryz.prog 33 #[cv lg pg en gn A n cap] w fun e w' => e = .returned (.int .i64 1) ∧ Below w.heap.size w w' := by
  obtain ⟨w1, hw1⟩ : ∃ w1, w1 = w.alloc (.cells (cc lg pg en gn A n cap) 24) := ⟨_, rfl⟩
  have C1 := CAt.new h lg pg en gn cap
  rw [← hw1] at C1
  obtain ⟨g, hg⟩ : ∃ g, g = w.heap.size := ⟨_, rfl⟩
  rw [← hg] at C1
  have HG := Lib.hid hg
  clear h hg
  have c0 := C1.c0
  have c1 := C1.c1
  have c2 := C1.c2
  have c3 := C1.c3
  have c4 := C1.c4
  have K1 := Lib.hid C1
  clear C1
  have d4' : ¬ (n : Int) ≤ 32 := by omega
  have d4'' : decide ((n : Int) ≤ 32) = false := decide_eq_false d4'
  go_enter Tryz.func33, Tryz.ntmps33
  go_wp2_with (first
    | (rw [← hw1, ← HG.out]; clear hw1)
    | (go_at_call 86; refine (within_any _ _ _ _).mono ?_; rintro e w' ⟨rfl, rfl⟩; (first | rw [d0] | rw [d1] | rw [d2] | rw [d3])))
  go_ret
  exact ⟨rfl, K1.out.bel⟩

theorem Check_5 (h : KRd w A n ks) (hn : n ≤ 1000000) (hs : Lens ks) (d0 : decide (2 ≤ lg ∧ lg ≤ 1024) = true) (d1 : decide (4 ≤ pg ∧ pg ≤ 1024) = true) (d2 : decide (1 ≤ en ∧ en ≤ 1024) = true) (d3 : decide (1 ≤ gn ∧ gn ≤ 1073741824) = true) (d4 : n ≤ 32) (d5 : decide (Named ks) = false) :
    Calls Tryz.prog 33 #[cv lg pg en gn A n cap] w fun e w' => e = .returned (.int .i64 1) ∧ Below w.heap.size w w' := by
  obtain ⟨w1, hw1⟩ : ∃ w1, w1 = w.alloc (.cells (cc lg pg en gn A n cap) 24) := ⟨_, rfl⟩
  have C1 := CAt.new h lg pg en gn cap
  rw [← hw1] at C1
  obtain ⟨g, hg⟩ : ∃ g, g = w.heap.size := ⟨_, rfl⟩
  rw [← hg] at C1
  have HG := Lib.hid hg
  clear h hg
  have c0 := C1.c0
  have c1 := C1.c1
  have c2 := C1.c2
  have c3 := C1.c3
  have c4 := C1.c4
  have K1 := Lib.hid C1
  clear C1
  have d4' : (n : Int) ≤ 32 := by omega
  go_enter Tryz.func33, Tryz.ntmps33
  go_wp2_with (first
    | (rw [← hw1, ← HG.out]; clear hw1)
    | (go_at_call 86; refine (within_any _ _ _ _).mono ?_; rintro e w' ⟨rfl, rfl⟩; (first | rw [d0] | rw [d1] | rw [d2] | rw [d3])))
  refine (named_any A n cap ks _ K1.out.rd hn hs).mono ?_
  rintro e w2 ⟨rfl, hb2⟩
  rw [d5]
  have C2 := K1.out.next hb2
  clear c0 c1 c2 c3 c4 hb2
  have c0 := C2.c0
  have c1 := C2.c1
  have c2 := C2.c2
  have c3 := C2.c3
  have c4 := C2.c4
  have K2 := Lib.hid C2
  clear C2
  go_wp2_with (fail)
  go_ret
  exact ⟨rfl, K2.out.bel⟩

theorem Check_6 (h : KRd w A n ks) (hn : n ≤ 1000000) (hs : Lens ks) (d0 : decide (2 ≤ lg ∧ lg ≤ 1024) = true) (d1 : decide (4 ≤ pg ∧ pg ≤ 1024) = true) (d2 : decide (1 ≤ en ∧ en ≤ 1024) = true) (d3 : decide (1 ≤ gn ∧ gn ≤ 1073741824) = true) (d4 : n ≤ 32) (d5 : decide (Named ks) = true) (d6 : decide (Apart ks) = false) :
    Calls Tryz.prog 33 #[cv lg pg en gn A n cap] w fun e w' => e = .returned (.int .i64 1) ∧ Below w.heap.size w w' := by
  obtain ⟨w1, hw1⟩ : ∃ w1, w1 = w.alloc (.cells (cc lg pg en gn A n cap) 24) := ⟨_, rfl⟩
  have C1 := CAt.new h lg pg en gn cap
  rw [← hw1] at C1
  obtain ⟨g, hg⟩ : ∃ g, g = w.heap.size := ⟨_, rfl⟩
  rw [← hg] at C1
  have HG := Lib.hid hg
  clear h hg
  have c0 := C1.c0
  have c1 := C1.c1
  have c2 := C1.c2
  have c3 := C1.c3
  have c4 := C1.c4
  have K1 := Lib.hid C1
  clear C1
  have d4' : (n : Int) ≤ 32 := by omega
  go_enter Tryz.func33, Tryz.ntmps33
  go_wp2_with (first
    | (rw [← hw1, ← HG.out]; clear hw1)
    | (go_at_call 86; refine (within_any _ _ _ _).mono ?_; rintro e w' ⟨rfl, rfl⟩; (first | rw [d0] | rw [d1] | rw [d2] | rw [d3])))
  refine (named_any A n cap ks _ K1.out.rd hn hs).mono ?_
  rintro e w2 ⟨rfl, hb2⟩
  rw [d5]
  have C2 := K1.out.next hb2
  clear c0 c1 c2 c3 c4 hb2
  have c0 := C2.c0
  have c1 := C2.c1
  have c2 := C2.c2
  have c3 := C2.c3
  have c4 := C2.c4
  have K2 := Lib.hid C2
  clear C2
  go_wp2_with (fail)
  refine (apart_any A n cap ks _ K2.out.rd hn).mono ?_
  rintro e w3 ⟨rfl, hb3⟩
  rw [d6]
  have C3 := K2.out.next hb3
  clear c0 c1 c2 c3 c4 hb3
  have c0 := C3.c0
  have c1 := C3.c1
  have c2 := C3.c2
  have c3 := C3.c3
  have c4 := C3.c4
  have K3 := Lib.hid C3
  clear C3
  go_wp2_with (fail)
  go_ret
  exact ⟨rfl, K3.out.bel⟩

theorem Check_7 (h : KRd w A n ks) (hn : n ≤ 1000000) (hs : Lens ks) (d0 : decide (2 ≤ lg ∧ lg ≤ 1024) = true) (d1 : decide (4 ≤ pg ∧ pg ≤ 1024) = true) (d2 : decide (1 ≤ en ∧ en ≤ 1024) = true) (d3 : decide (1 ≤ gn ∧ gn ≤ 1073741824) = true) (d4 : n ≤ 32) (d5 : decide (Named ks) = true) (d6 : decide (Apart ks) = true) (d7 : decide (Sized ks) = false) :
    Calls Tryz.prog 33 #[cv lg pg en gn A n cap] w fun e w' => e = .returned (.int .i64 1) ∧ Below w.heap.size w w' := by
  obtain ⟨w1, hw1⟩ : ∃ w1, w1 = w.alloc (.cells (cc lg pg en gn A n cap) 24) := ⟨_, rfl⟩
  have C1 := CAt.new h lg pg en gn cap
  rw [← hw1] at C1
  obtain ⟨g, hg⟩ : ∃ g, g = w.heap.size := ⟨_, rfl⟩
  rw [← hg] at C1
  have HG := Lib.hid hg
  clear h hg
  have c0 := C1.c0
  have c1 := C1.c1
  have c2 := C1.c2
  have c3 := C1.c3
  have c4 := C1.c4
  have K1 := Lib.hid C1
  clear C1
  have d4' : (n : Int) ≤ 32 := by omega
  go_enter Tryz.func33, Tryz.ntmps33
  go_wp2_with (first
    | (rw [← hw1, ← HG.out]; clear hw1)
    | (go_at_call 86; refine (within_any _ _ _ _).mono ?_; rintro e w' ⟨rfl, rfl⟩; (first | rw [d0] | rw [d1] | rw [d2] | rw [d3])))
  refine (named_any A n cap ks _ K1.out.rd hn hs).mono ?_
  rintro e w2 ⟨rfl, hb2⟩
  rw [d5]
  have C2 := K1.out.next hb2
  clear c0 c1 c2 c3 c4 hb2
  have c0 := C2.c0
  have c1 := C2.c1
  have c2 := C2.c2
  have c3 := C2.c3
  have c4 := C2.c4
  have K2 := Lib.hid C2
  clear C2
  go_wp2_with (fail)
  refine (apart_any A n cap ks _ K2.out.rd hn).mono ?_
  rintro e w3 ⟨rfl, hb3⟩
  rw [d6]
  have C3 := K2.out.next hb3
  clear c0 c1 c2 c3 c4 hb3
  have c0 := C3.c0
  have c1 := C3.c1
  have c2 := C3.c2
  have c3 := C3.c3
  have c4 := C3.c4
  have K3 := Lib.hid C3
  clear C3
  go_wp2_with (fail)
  refine (sized_any A n cap ks _ K3.out.rd hn).mono ?_
  rintro e w4 ⟨rfl, hb4⟩
  rw [d7]
  have C4 := K3.out.next hb4
  clear c0 c1 c2 c3 c4 hb4
  have c0 := C4.c0
  have c1 := C4.c1
  have c2 := C4.c2
  have c3 := C4.c3
  have c4 := C4.c4
  have K4 := Lib.hid C4
  clear C4
  go_wp2_with (fail)
  go_ret
  exact ⟨rfl, K4.out.bel⟩

theorem Check_8 (h : KRd w A n ks) (hn : n ≤ 1000000) (hs : Lens ks) (d0 : decide (2 ≤ lg ∧ lg ≤ 1024) = true) (d1 : decide (4 ≤ pg ∧ pg ≤ 1024) = true) (d2 : decide (1 ≤ en ∧ en ≤ 1024) = true) (d3 : decide (1 ≤ gn ∧ gn ≤ 1073741824) = true) (d4 : n ≤ 32) (d5 : decide (Named ks) = true) (d6 : decide (Apart ks) = true) (d7 : decide (Sized ks) = true) :
    Calls Tryz.prog 33 #[cv lg pg en gn A n cap] w fun e w' => e = .returned (.int .i64 0) ∧ Below w.heap.size w w' := by
  obtain ⟨w1, hw1⟩ : ∃ w1, w1 = w.alloc (.cells (cc lg pg en gn A n cap) 24) := ⟨_, rfl⟩
  have C1 := CAt.new h lg pg en gn cap
  rw [← hw1] at C1
  obtain ⟨g, hg⟩ : ∃ g, g = w.heap.size := ⟨_, rfl⟩
  rw [← hg] at C1
  have HG := Lib.hid hg
  clear h hg
  have c0 := C1.c0
  have c1 := C1.c1
  have c2 := C1.c2
  have c3 := C1.c3
  have c4 := C1.c4
  have K1 := Lib.hid C1
  clear C1
  have d4' : (n : Int) ≤ 32 := by omega
  go_enter Tryz.func33, Tryz.ntmps33
  go_wp2_with (first
    | (rw [← hw1, ← HG.out]; clear hw1)
    | (go_at_call 86; refine (within_any _ _ _ _).mono ?_; rintro e w' ⟨rfl, rfl⟩; (first | rw [d0] | rw [d1] | rw [d2] | rw [d3])))
  refine (named_any A n cap ks _ K1.out.rd hn hs).mono ?_
  rintro e w2 ⟨rfl, hb2⟩
  rw [d5]
  have C2 := K1.out.next hb2
  clear c0 c1 c2 c3 c4 hb2
  have c0 := C2.c0
  have c1 := C2.c1
  have c2 := C2.c2
  have c3 := C2.c3
  have c4 := C2.c4
  have K2 := Lib.hid C2
  clear C2
  go_wp2_with (fail)
  refine (apart_any A n cap ks _ K2.out.rd hn).mono ?_
  rintro e w3 ⟨rfl, hb3⟩
  rw [d6]
  have C3 := K2.out.next hb3
  clear c0 c1 c2 c3 c4 hb3
  have c0 := C3.c0
  have c1 := C3.c1
  have c2 := C3.c2
  have c3 := C3.c3
  have c4 := C3.c4
  have K3 := Lib.hid C3
  clear C3
  go_wp2_with (fail)
  refine (sized_any A n cap ks _ K3.out.rd hn).mono ?_
  rintro e w4 ⟨rfl, hb4⟩
  rw [d7]
  have C4 := K3.out.next hb4
  clear c0 c1 c2 c3 c4 hb4
  have c0 := C4.c0
  have c1 := C4.c1
  have c2 := C4.c2
  have c3 := C4.c3
  have c4 := C4.c4
  have K4 := Lib.hid C4
  clear C4
  go_wp2_with (fail)
  go_ret
  exact ⟨rfl, K4.out.bel⟩

theorem Check_any (h : KRd w A n ks) (hn : n ≤ 1000000) (hs : Lens ks) :
    Calls Tryz.prog 33 #[cv lg pg en gn A n cap] w fun e w' => e = .returned (.int .i64 (if (Cf.mk lg pg en gn ks).Right then 0 else 1)) ∧ Below w.heap.size w w' := by
  have hl := h.1
  have no : ∀ {P : Prop}, (¬ (Cf.mk lg pg en gn ks).Right) → Calls Tryz.prog 33 #[cv lg pg en gn A n cap] w (fun e w' => e = .returned (.int .i64 1) ∧ Below w.heap.size w w') → Calls Tryz.prog 33 #[cv lg pg en gn A n cap] w fun e w' => e = .returned (.int .i64 (if (Cf.mk lg pg en gn ks).Right then 0 else 1)) ∧ Below w.heap.size w w' :=
    fun hn hc => by rw [if_neg hn]; exact hc
  by_cases h0 : 2 ≤ lg ∧ lg ≤ 1024
  rotate_left 1
  · exact no (P := True) (fun R => h0 R.1.1) (Check_0 lg pg en gn A n cap ks w h hn hs  (decide_eq_false h0))
  by_cases h1 : 4 ≤ pg ∧ pg ≤ 1024
  rotate_left 1
  · exact no (P := True) (fun R => h1 R.1.2.1) (Check_1 lg pg en gn A n cap ks w h hn hs (decide_eq_true h0) (decide_eq_false h1))
  by_cases h2 : 1 ≤ en ∧ en ≤ 1024
  rotate_left 1
  · exact no (P := True) (fun R => h2 R.1.2.2.1) (Check_2 lg pg en gn A n cap ks w h hn hs (decide_eq_true h0) (decide_eq_true h1) (decide_eq_false h2))
  by_cases h3 : 1 ≤ gn ∧ gn ≤ 1073741824
  rotate_left 1
  · exact no (P := True) (fun R => h3 R.1.2.2.2.1) (Check_3 lg pg en gn A n cap ks w h hn hs (decide_eq_true h0) (decide_eq_true h1) (decide_eq_true h2) (decide_eq_false h3))
  by_cases h4 : n ≤ 32
  rotate_left 1
  · exact no (P := True) (fun R => h4 (by have : ks.length ≤ 32 := R.1.2.2.2.2; omega)) (Check_4 lg pg en gn A n cap ks w h hn hs (decide_eq_true h0) (decide_eq_true h1) (decide_eq_true h2) (decide_eq_true h3) h4)
  by_cases h5 : Named ks
  rotate_left 1
  · exact no (P := True) (fun R => h5 R.2.1) (Check_5 lg pg en gn A n cap ks w h hn hs (decide_eq_true h0) (decide_eq_true h1) (decide_eq_true h2) (decide_eq_true h3) h4 (decide_eq_false h5))
  by_cases h6 : Apart ks
  rotate_left 1
  · exact no (P := True) (fun R => h6 R.2.2.1) (Check_6 lg pg en gn A n cap ks w h hn hs (decide_eq_true h0) (decide_eq_true h1) (decide_eq_true h2) (decide_eq_true h3) h4 (decide_eq_true h5) (decide_eq_false h6))
  by_cases h7 : Sized ks
  rotate_left 1
  · exact no (P := True) (fun R => h7 R.2.2.2) (Check_7 lg pg en gn A n cap ks w h hn hs (decide_eq_true h0) (decide_eq_true h1) (decide_eq_true h2) (decide_eq_true h3) h4 (decide_eq_true h5) (decide_eq_true h6) (decide_eq_false h7))
  rw [if_pos ⟨⟨h0, h1, h2, h3, by show ks.length ≤ 32; omega⟩, h5, h6, h7⟩]
  exact Check_8 lg pg en gn A n cap ks w h hn hs (decide_eq_true h0) (decide_eq_true h1) (decide_eq_true h2) (decide_eq_true h3) h4 (decide_eq_true h5) (decide_eq_true h6) (decide_eq_true h7)
end
end Go.Proofs.YtddiadpbkjdomaaGreatDoor
