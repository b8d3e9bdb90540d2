/- TbR2, TbS, OpnF, Opn, TbO, TbG, ClM, MapZ, Cl1 -/
import Derived.Test.YtnjfogeefdmlkaaDoorQl2
import Derived.Deep.Slices
import Derived.Deep.Fields
import Derived.ChangeSame
import Derived.BigQuiet
import Derived.Deep.QuietTactic
namespace Go.Proofs.YtnjfogeefdmlkaaDoor
open Go.RowKit

theorem VB.sl {K : Nat → Prop} {w : World} {u : Value} {l : List UInt8} (h : VB K w u l) : ∃ A m c, u = .slice A m c ∧ Rd w A m l := by obtain ⟨A, m, c, e, hr, _⟩ := h; exact ⟨A, m, c, e, hr⟩
theorem Rd.drewN {w : World} {A : Option Addr} {n : Nat} {l : List UInt8} (h : Rd w A n l) (k : Nat) : Rd (w.drewN k) A n l := h.below (Nat.le_refl _) (below_drewN (Below.refl _ _) k)

set_option maxRecDepth 20000 in
/-- Parts that are the same. -/
theorem SameParts_yes {K K' : Nat → Prop} (A A' : Option Addr) (n c c' : Nat) (xs : List Pt) (w : World) (h : PartsV K w A n xs) (h' : PartsV K' w A' n xs) (hn : n ≤ 1000000) :
    Calls Tryd.prog 43 #[.slice A n c, .slice A' n c'] w fun e w' => e = .returned (.bool true) ∧ Below w.heap.size w w' := by
  have hl := h.len
  have H := Lib.hid h
  have H' := Lib.hid h'
  clear h h'
  go_enter Tryd.func43, Tryd.ntmps43
  go_wp2
  go_loopw [5] (fun iv wr => ∃ j : Nat, j ≤ n ∧ iv = .int .i64 j ∧ Below w.heap.size w wr) (fun iv _ => n - (intOf iv).toNat)
  case atStart => exact ⟨0, Nat.zero_le _, rfl, Below.refl _ _⟩
  case round =>
    obtain ⟨j, hj, rfl, hB⟩ := hrel
    by_cases hjn : j < n
    · obtain ⟨y, hy⟩ : ∃ y, xs[j]? = some y := ⟨_, List.getElem?_eq_getElem (by omega)⟩
      obtain ⟨b, o, u, hA, _, hblt, h0, h1, hu⟩ := H.out.cell hy
      obtain ⟨b', o', u', hA', _, hblt', h0', h1', hu'⟩ := H'.out.cell hy
      subst hA hA'
      obtain ⟨DA, dm, dc, rfl, hr⟩ := hu.sl
      obtain ⟨DA', dm', dc', rfl, hr'⟩ := hu'.sl
      obtain ⟨yi, yd⟩ := y
      simp only at h0 h0' hr hr'
      have k0 := (hB.cell (p := ⟨b, o + j * 2, none⟩) hblt).trans h0
      have k1 := (hB.cell (p := ⟨b, o + j * 2 + 1, none⟩) hblt).trans h1
      have k0' := (hB.cell (p := ⟨b', o' + j * 2, none⟩) hblt').trans h0'
      have k1' := (hB.cell (p := ⟨b', o' + j * 2 + 1, none⟩) hblt').trans h1'
      have CS : ∀ k, Calls Tryd.prog 24 #[.slice DA dm dc, .slice DA' dm' dc'] (wr.drewN k) fun e w' => e = .returned (.bool true) ∧ w' = wr.drewN k := fun k =>
        (Same_yes DA DA' dm dc dm' dc' yd _ ((hr.below (Nat.le_refl _) hB).drewN k) ((hr'.below (Nat.le_refl _) hB).drewN k)).mono fun _ _ ⟨he, hw⟩ => ⟨he, hw.symm⟩
      have CS := Lib.hid CS
      clear h0 h1 h0' h1' hy hu hu' hr hr'
      go_wp2_with fail
      go_quiet ((go_at_call 24; exact Calls.quiet_of_same (CS.out _)))
      go_wp2
      go_roundw
      case rel => exact ⟨j + 1, hjn, by go_num, below_drewN hB _⟩
      case measure => simp [intOf]; omega
    · go_wp2
      go_ret
      exact ⟨rfl, hB⟩

/-- What a step tells, as cells. -/
def tlc (DA : Option Addr) (dn dc : Nat) (PA : Option Addr) (pn pc : Nat) (x : Tl) : Array Value := #[.slice DA dn dc, .slice PA pn pc, .int .i64 x.id.1, .int .i64 x.id.2, .bool x.ok, .int .i64 x.err]
/-- They stand for x. -/
def TlS (K : Nat → Prop) (w : World) (DA : Option Addr) (dn dc : Nat) (PA : Option Addr) (pn : Nat) (x : Tl) : Prop := VB K w (.slice DA dn dc) x.data ∧ PartsV K w PA pn x.parts
theorem TlS.below {K : Nat → Prop} {w w' : World} {DA : Option Addr} {dn dc : Nat} {PA : Option Addr} {pn : Nat} {x : Tl} (h : TlS K w DA dn dc PA pn x) (hb : Below w.heap.size w w') : TlS K w' DA dn dc PA pn x := ⟨h.1.below hb, h.2.below hb⟩
theorem TlS.stays {K : Nat → Prop} {w w' : World} {DA : Option Addr} {dn dc : Nat} {PA : Option Addr} {pn : Nat} {x : Tl} (h : TlS K w DA dn dc PA pn x) (hs : WStays K w w') : TlS K w' DA dn dc PA pn x := ⟨h.1.stays hs, h.2.stays hs⟩
theorem TlS.mono {K K' : Nat → Prop} {w : World} {DA : Option Addr} {dn dc : Nat} {PA : Option Addr} {pn : Nat} {x : Tl} (h : TlS K w DA dn dc PA pn x) (hk : ∀ x, K x → K' x) : TlS K' w DA dn dc PA pn x := ⟨h.1.mono hk, h.2.mono hk⟩

set_option maxRecDepth 20000 in
theorem SameTold_yes {K K' : Nat → Prop} (DA : Option Addr) (dn dc : Nat) (PA : Option Addr) (pn pc : Nat) (DA' : Option Addr) (dn' dc' : Nat) (PA' : Option Addr) (pc' : Nat) (x : Tl) (w : World)
    (h : TlS K w DA dn dc PA pn x) (h' : TlS K' w DA' dn' dc' PA' pn x) (hn : pn ≤ 1000000) :
    Calls Tryd.prog 22 #[.agg (tlc DA dn dc PA pn pc x), .agg (tlc DA' dn' dc' PA' pn pc' x)] w fun e w' => e = .returned (.bool true) ∧ Below w.heap.size w w' := by
  obtain ⟨xd, xp, ⟨xi, xg⟩, xok, xe⟩ := x
  show Calls _ _ #[.agg #[.slice DA dn dc, .slice PA pn pc, .int .i64 xi, .int .i64 xg, .bool xok, .int .i64 xe], .agg #[.slice DA' dn' dc', .slice PA' pn pc', .int .i64 xi, .int .i64 xg, .bool xok, .int .i64 xe]] w _
  obtain ⟨w1, hw1⟩ : ∃ w1, w1 = (w.alloc (.cells #[.slice DA dn dc, .slice PA pn pc, .int .i64 xi, .int .i64 xg, .bool xok, .int .i64 xe] 62)).alloc (.cells #[.slice DA' dn' dc', .slice PA' pn pc', .int .i64 xi, .int .i64 xg, .bool xok, .int .i64 xe] 62) := ⟨_, rfl⟩
  have hB1 : Below w.heap.size w w1 := by rw [hw1]; exact ((Below.refl _ _).alloc (Nat.le_refl _) _).alloc (by simp) _
  have hR1 : Rec 62 w1 w.heap.size #[.slice DA dn dc, .slice PA pn pc, .int .i64 xi, .int .i64 xg, .bool xok, .int .i64 xe] := by rw [hw1]; exact (Rec.new _ _ _).under ((Below.refl _ _).alloc (Nat.le_refl _) _)
  have hR2 : Rec 62 w1 (w.heap.size + 1) #[.slice DA' dn' dc', .slice PA' pn pc', .int .i64 xi, .int .i64 xg, .bool xok, .int .i64 xe] := by
    have := Rec.new (w.alloc (.cells #[.slice DA dn dc, .slice PA pn pc, .int .i64 xi, .int .i64 xg, .bool xok, .int .i64 xe] 62)) 62 #[.slice DA' dn' dc', .slice PA' pn pc', .int .i64 xi, .int .i64 xg, .bool xok, .int .i64 xe]
    rw [World.size_alloc] at this
    rw [hw1]
    exact this
  obtain ⟨_, _, _, e0, hr⟩ := (h.1.below hB1).sl
  obtain ⟨_, _, _, e0', hr'⟩ := (h'.1.below hB1).sl
  injection e0 with e1 e2 e3
  injection e0' with e1' e2' e3'
  subst e1 e2 e3 e1' e2' e3'
  have CS := Lib.hid (Same_yes DA DA' dn dc dn' dc' xd w1 hr hr')
  have CP := Lib.hid (SameParts_yes PA PA' pn pc pc' xp w1 (h.2.below hB1) (h'.2.below hB1) hn)
  have q0 : w1.cell? ⟨w.heap.size, 0, none⟩ = some (.slice DA dn dc) := hR1.at_ 0
  have q1 : w1.cell? ⟨w.heap.size, 1, none⟩ = some (.slice PA pn pc) := hR1.at_ 1
  have r0 : w1.cell? ⟨w.heap.size + 1, 0, none⟩ = some (.slice DA' dn' dc') := hR2.at_ 0
  have r1 : w1.cell? ⟨w.heap.size + 1, 1, none⟩ = some (.slice PA' pn pc') := hR2.at_ 1
  have F : ∀ w2, Below w1.heap.size w1 w2 → (w2.cell? ⟨w.heap.size, 2, none⟩ = some (.int .i64 xi) ∧ w2.cell? ⟨w.heap.size, 3, none⟩ = some (.int .i64 xg) ∧ w2.cell? ⟨w.heap.size, 4, none⟩ = some (.bool xok) ∧ w2.cell? ⟨w.heap.size, 5, none⟩ = some (.int .i64 xe)) ∧
      w2.cell? ⟨w.heap.size + 1, 2, none⟩ = some (.int .i64 xi) ∧ w2.cell? ⟨w.heap.size + 1, 3, none⟩ = some (.int .i64 xg) ∧ w2.cell? ⟨w.heap.size + 1, 4, none⟩ = some (.bool xok) ∧ w2.cell? ⟨w.heap.size + 1, 5, none⟩ = some (.int .i64 xe) := fun w2 hb =>
    ⟨⟨(hR1.under hb).at_ 2, (hR1.under hb).at_ 3, (hR1.under hb).at_ 4, (hR1.under hb).at_ 5⟩, (hR2.under hb).at_ 2, (hR2.under hb).at_ 3, (hR2.under hb).at_ 4, (hR2.under hb).at_ 5⟩
  have F := Lib.hid F
  have HB1 := Lib.hid hB1
  clear h h' hr hr' hR1 hR2 hB1
  go_enter Tryd.func22, Tryd.ntmps22
  go_wp2_with (first
    | (rw [← hw1]; clear hw1)
    | (go_at_call 24; refine CS.out.mono ?_; rintro e w' ⟨rfl, rfl⟩)
    | (go_at_call 43; refine CP.out.mono ?_; rintro e w2 ⟨rfl, hB2⟩; obtain ⟨⟨a2, a3, a4, a5⟩, b2, b3, b4, b5⟩ := F.out w2 hB2; have HB2 := Lib.hid hB2; clear hB2 q0 q1 r0 r1))
  go_ret
  exact ⟨ret_bool (by simp), HB1.out.trans (HB2.out.mono HB1.out.size)⟩
end Go.Proofs.YtnjfogeefdmlkaaDoor
namespace Go.Proofs.YtnjfogeefdmlkaaDoor
open Go.RowKit

/-- The step that Go and add are handed, as it lies in memory. -/
structure Tst where
  d : Int
  i : Int
  g : Int
  pA : Option Addr
  pn : Nat
  pc : Nat
  ps : List Pt
  row : Int
  comp : Int
  bA : Option Addr
  bn : Nat
  bc : Nat
  b : List UInt8
def Tst.cs (x : Tst) : Array Value := #[.int .i64 x.d, .int .i64 x.i, .int .i64 x.g, .slice x.pA x.pn x.pc, .int .i64 x.row, .int .i64 x.comp, .slice x.bA x.bn x.bc]
def Tst.ts (x : Tst) : Ts := ⟨x.d, (x.i, x.g), x.ps, x.row, x.comp, x.b⟩
structure TOk (K : Nat → Prop) (w : World) (x : Tst) : Prop where
  p : PartsV K w x.pA x.pn x.ps
  b : VB K w (.slice x.bA x.bn x.bc) x.b
theorem TOk.below {K : Nat → Prop} {w w' : World} {x : Tst} (h : TOk K w x) (hb : Below w.heap.size w w') : TOk K w' x := ⟨h.p.below hb, h.b.below hb⟩

end Go.Proofs.YtnjfogeefdmlkaaDoor
namespace Go.Proofs.YtnjfogeefdmlkaaDoor
open Go.RowKit Go.ChangeShapes Go.WideShapes Go.Deep

section
variable {H : Type} {enc : TypeId × Value → H} {w : World} {base : Nat} {held : Bool}

/-- One field of a struct whose fields are one cell each. -/
theorem field_at {P : Program} {t : TypeId} {fs : Array Field} {fuel : Nat} {cs : List Value} {x : DataW H × List MemPlace} (ht : P.underlying t = some (.struct fs)) (hone : oneCellFields P fs = true) (hk : P.cellsOf t = fs.size)
    (h : DataW.trod enc P w base (fun _ => true) held fuel t cs = some x) (j : Nat) (f : Field) (hj : fs[j]? = some f) : ∃ v n y, cs[j]? = some v ∧ DataW.trod enc P w base (fun _ => true) held n f.type [v] = some y := by
  obtain ⟨xs, n, _, _, hl, hxl, hf⟩ := DataW.trod_struct ht h
  obtain ⟨ho, h1⟩ := hone_of hone j f hj
  have hlt : j < fs.size := (Array.getElem?_eq_some_iff.1 hj).1
  have e := hf j f hj
  rw [ho, h1, List.drop_eq_getElem_cons (by omega), List.getElem?_eq_getElem (by omega)] at e
  exact ⟨cs[j]'(by omega), n, _, List.getElem?_eq_getElem (by omega), e⟩

/-- A slice of structs of k cells each: its elements' cells, as the reader parts them. -/
theorem elems_at {P : Program} {t e : TypeId} {fuel : Nat} {cs : List Value} {x : DataW H × List MemPlace} (ht : P.underlying t = some (.slice e)) (h : DataW.trod enc P w base (fun _ => true) held fuel t cs = some x) :
    cs = [.slice none 0 0] ∨ ∃ (a : Addr) (len cap : Nat), cs = [.slice (some a) len cap] ∧ len ≤ cap ∧ cap ≤ maxLen ∧
      ∀ i, i < len → ∃ cs' n y, (∀ j, j < P.cellsOf e → w.cell? ((a.add (i * P.cellsOf e)).add j) = cs'[j]?) ∧ DataW.trod enc P w base (fun _ => true) held n e cs' = some y := by
  rcases open_slice ht h with ⟨h0, _⟩ | ⟨a, len, cap, m, n, D, Pl, hcs, _, hl, hm, hmm, _, hi⟩
  · exact .inl h0
  · refine .inr ⟨a, len, cap, hcs, hl, hm, fun i him => ?_⟩
    have hmc : m = cap := by simpa using hmm
    obtain ⟨cs', hc, ht'⟩ := hi i (by omega)
    obtain ⟨_, _, hat⟩ := World.cells?_some hc
    exact ⟨cs', n, _, hat, ht'⟩
end
end Go.Proofs.YtnjfogeefdmlkaaDoor
namespace Go.Proofs.YtnjfogeefdmlkaaDoor
open Go.RowKit Go.ChangeShapes Go.WideShapes Go.Deep

section
variable {H : Type} {enc : TypeId × Value → H} {w : World} {base : Nat} {held : Bool}

theorem open_bytes {fuel : Nat} {cs : List Value} {x : DataW H × List MemPlace} (h : DataW.trod enc Tryd.prog w base (fun _ => true) held fuel 32 cs = some x) :
    ∃ A n c l, cs = [.slice A n c] ∧ Rd w A n l ∧ n ≤ c ∧ c ≤ maxLen := by
  rcases open_ints Tryd.underlying32 Tryd.underlying5 (by kernel_rfl) h with ⟨hcs, _⟩ | ⟨x, l, c, zs, hcs, _, hl, hm, hz, _, hcell, hwz⟩
  · exact ⟨none, 0, 0, [], hcs, Rd.nil _ _, Nat.le_refl _, Nat.zero_le _⟩
  · obtain ⟨L, hr, h1, h2⟩ := rd_of_row (w := w) (a := some x) (len := l) (cap := c) (zs := zs) (.inr ⟨x, rfl, hl, hm, by simpa using hz, hcell, hwz⟩)
    exact ⟨some x, l, c, L, hcs, hr, h1, h2⟩
end
end Go.Proofs.YtnjfogeefdmlkaaDoor
namespace Go.Proofs.YtnjfogeefdmlkaaDoor
open Go.RowKit Go.ChangeShapes Go.WideShapes Go.Deep
set_option maxRecDepth 20000

/-- Rows made of their elements' cells. -/
theorem RowsL.mk {α : Type} {sz : Nat} {E : α → List Value → Prop} {K : Nat → Prop} {w : World} {b o n : Nat} (hsz : 0 < sz) (F : Nat → α) (R : Nat → List Value) (hK : 0 < n → K b ∧ b < w.heap.size)
    (h : ∀ i, i < n → (R i).length = sz ∧ E (F i) (R i) ∧ ∀ r u, (R i)[r]? = some u → w.cell? ⟨b, o + (i * sz + r), none⟩ = some u) : RowsL sz E K w (some ⟨b, o, none⟩) n ((List.range n).map F) := by
  have hl : ∀ r ∈ (List.range n).map R, r.length = sz := fun r hr => by
    obtain ⟨i, hi, rfl⟩ := List.mem_map.1 hr
    exact (h i (List.mem_range.1 hi)).1
  refine ⟨((List.range n).map R).flatten, by simp, ⟨by rw [flatg_len hl]; simp, (fun e => by cases e), fun hp => ⟨b, o, rfl, (hK hp).1, (hK hp).2, fun j u hj => ?_⟩⟩, (List.range n).map R, rfl, by simp, hl, fun j x hx => ?_⟩
  · have hjl := (List.getElem?_eq_some_iff.1 hj).1
    rw [flatg_len hl] at hjl
    simp only [List.length_map, List.length_range] at hjl
    have hi : j / sz < n := Nat.div_lt_of_lt_mul (by rw [Nat.mul_comm]; exact hjl)
    have hr : j % sz < sz := Nat.mod_lt _ hsz
    have e : j = j / sz * sz + j % sz := by rw [Nat.mul_comm]; exact (Nat.div_add_mod j sz).symm
    have hg := flatg_get hl (k := j / sz) (i := j % sz) (r := R (j / sz)) (by rw [List.getElem?_map, List.getElem?_range hi]; rfl) hr
    rw [← e, hj] at hg
    have := (h (j / sz) hi).2.2 (j % sz) u hg.symm
    rw [← e] at this
    exact this
  · rw [List.getElem?_map] at hx
    by_cases hj : j < n
    · rw [List.getElem?_range hj] at hx
      injection hx with hx
      exact ⟨R j, by rw [List.getElem?_map, List.getElem?_range hj]; rfl, hx ▸ (h j hj).2.1⟩
    · rw [List.getElem?_eq_none (by simp; omega)] at hx
      cases hx

section
variable {H : Type} {enc : TypeId × Value → H} {w : World} {base : Nat} {held : Bool}
/-- Bytes, and where they lie. -/
theorem open_vb {fuel : Nat} {cs : List Value} {x : DataW H × List MemPlace} (h : DataW.trod enc Tryd.prog w base (fun _ => true) held fuel 32 cs = some x) :
    ∃ A n c l, cs = [.slice A n c] ∧ VB (· < w.heap.size) w (.slice A n c) l ∧ n ≤ c ∧ c ≤ maxLen := by
  obtain ⟨A, n, c, l, hcs, hr, h1, h2⟩ := open_bytes h
  refine ⟨A, n, c, l, hcs, ⟨_, _, _, rfl, hr, fun b o e hn => ?_⟩, h1, h2⟩
  obtain ⟨b', o', e', hlt, _⟩ := hr.2 hn
  rw [e] at e'
  injection e' with e'
  injection e' with e1 e2
  exact ⟨(show b < w.heap.size by omega), by omega⟩
theorem open_parts {fuel : Nat} {cs : List Value} {x : DataW H × List MemPlace} (h : DataW.trod enc Tryd.prog w base (fun _ => true) held fuel 49 cs = some x) :
    ∃ A n c ps, cs = [.slice A n c] ∧ PartsV (· < w.heap.size) w A n ps ∧ n ≤ c ∧ c ≤ maxLen ∧ ∀ p ∈ ps, p.2.length ≤ maxLen := by
  rcases elems_at Tryd.underlying49 h with h0 | ⟨a, len, cap, hcs, hl, hm, hi⟩
  · exact ⟨none, 0, 0, [], h0, PartsV.nil _ _ _, Nat.le_refl _, Nat.zero_le _, fun _ hx => absurd hx List.not_mem_nil⟩
  have h4 : Tryd.prog.cellsOf 73 = 2 := by kernel_rfl
  rw [h4] at hi
  have key : ∀ i, ∃ x : (Int × List UInt8) × Value, i < len → (w.cell? ((a.add (i * 2)).add 0) = some (.int .i64 x.1.1) ∧ w.cell? ((a.add (i * 2)).add 1) = some x.2) ∧ VB (· < w.heap.size) w x.2 x.1.2 ∧ x.1.2.length ≤ maxLen := fun i => by
    by_cases hil : i < len
    · obtain ⟨cs', n, y, hc, ht⟩ := hi i hil
      obtain ⟨v0, n0, y0, e0, t0⟩ := field_at Tryd.underlying73 (by kernel_rfl) (by kernel_rfl) ht 0 _ rfl
      obtain ⟨v1, n1, y1, e1, t1⟩ := field_at Tryd.underlying73 (by kernel_rfl) (by kernel_rfl) ht 1 _ rfl
      obtain ⟨k, ek, _, _⟩ := DataW.trod_int Tryd.underlying3 t0
      obtain ⟨bA, bn, bc, b, eb, hvb, h1, h2⟩ := open_vb t1
      simp only [List.cons.injEq, and_true] at ek eb
      subst ek eb
      have hbl : b.length = bn := by
        obtain ⟨_, _, _, e, hr, _⟩ := hvb
        injection e with _ e2 _
        rw [e2]; exact hr.1
      exact ⟨((k, b), .slice bA bn bc), fun _ => ⟨⟨(hc 0 (by decide)).trans e0, (hc 1 (by decide)).trans e1⟩, hvb, by simp only; omega⟩⟩
    · exact ⟨((0, []), .slice none 0 0), fun h => absurd h hil⟩
  obtain ⟨F, hF⟩ := Classical.axiomOfChoice key
  rcases Nat.eq_zero_or_pos len with h0 | hpos
  · subst h0
    exact ⟨some a, 0, cap, [], hcs, PartsV.nil _ _ _, hl, hm, fun _ hx => absurd hx List.not_mem_nil⟩
  obtain ⟨b, off, spot⟩ := a
  have hs := (hF 0 hpos).1.1
  have hspot : spot = none := by simpa [Addr.add] using World.cell?_spot hs
  subst hspot
  have hlt : b < w.heap.size := by simpa [Addr.add] using World.block_lt_of_cell? w _ hs
  refine ⟨_, len, cap, (List.range len).map fun i => (F i).1, hcs, RowsL.mk (by decide) (fun i => (F i).1) (fun i => [.int .i64 (F i).1.1, (F i).2]) (fun _ => ⟨hlt, hlt⟩) (fun i hi' => ⟨rfl, ⟨_, rfl, (hF i hi').2.1⟩, fun r u hr => ?_⟩), hl, hm, fun p hp => ?_⟩
  · obtain ⟨⟨c0, c1⟩, _⟩ := hF i hi'
    rw [Addr.add_lit, Addr.add_lit] at c0 c1
    match r, hr with
    | 0, hr => injection hr with hr; rw [← hr]; exact c0
    | 1, hr => injection hr with hr; rw [← hr, ← Nat.add_assoc]; exact c1
  · obtain ⟨i, hi', rfl⟩ := List.mem_map.1 hp
    exact (hF i (List.mem_range.1 hi')).2.2
end

/-- What is known of a step. -/
structure TSOk (K : Nat → Prop) (w : World) (x : Tst) : Prop where
  ok : TOk K w x
  cz : -9223372036854775808 ≤ x.comp ∧ x.comp < 9223372036854775808
  pz : x.pn ≤ maxLen
  bz : x.bn ≤ maxLen
  lz : ∀ p ∈ x.ps, p.2.length ≤ maxLen
def TSRd (K : Nat → Prop) (w : World) (A : Option Addr) (n : Nat) (st : List Tst) : Prop :=
  st.length = n ∧ (0 < n → ∃ b o, A = some ⟨b, o, none⟩ ∧ b < w.heap.size ∧ ∀ j (h : j < st.length) i u, st[j].cs[i]? = some u → w.cell? ⟨b, o + j * 7 + i, none⟩ = some u) ∧ ∀ x ∈ st, TSOk K w x
abbrev TSR (w : World) (A : Option Addr) (n : Nat) (st : List Tst) : Prop := TSRd (· < w.heap.size) w A n st
theorem TSOk.below {K : Nat → Prop} {w w' : World} {x : Tst} (h : TSOk K w x) (hb : Below w.heap.size w w') : TSOk K w' x := ⟨h.ok.below hb, h.cz, h.pz, h.bz, h.lz⟩
theorem TSRd.below {K : Nat → Prop} {w w' : World} {A : Option Addr} {n : Nat} {st : List Tst} (h : TSRd K w A n st) (hb : Below w.heap.size w w') : TSRd K w' A n st := by
  refine ⟨h.1, fun hp => ?_, fun x hx => (h.2.2 x hx).below hb⟩
  obtain ⟨b, o, e, hlt, hc⟩ := h.2.1 hp
  exact ⟨b, o, e, Nat.lt_of_lt_of_le hlt hb.size, fun j hj i u hu => (hb.cell (p := ⟨b, o + j * 7 + i, none⟩) hlt).trans (hc j hj i u hu)⟩

section
variable {H : Type} {enc : TypeId × Value → H} {w : World} {base : Nat} {held : Bool}
theorem open_tstep {n : Nat} {cs : List Value} {y : DataW H × List MemPlace} (h : DataW.trod enc Tryd.prog w base (fun _ => true) held n 65 cs = some y) : ∃ x : Tst, cs = x.cs.toList ∧ TSOk (· < w.heap.size) w x := by
  obtain ⟨xs, n1, _, _, hl, hxl, hf⟩ := DataW.trod_struct Tryd.underlying65 h
  have hc7 : Tryd.prog.cellsOf 65 = 7 := by kernel_rfl
  rw [hc7] at hl
  obtain ⟨v0, v1, v2, v3, v4, v5, v6, rfl⟩ : ∃ a b c d e f g, cs = [a, b, c, d, e, f, g] := by
    match cs, hl with
    | [a, b, c, d, e, f, g], _ => exact ⟨a, b, c, d, e, f, g, rfl⟩
  have hx : xs.length = 6 := hxl
  have hi2 : Tryd.prog.cellsOf 44 = 2 := by kernel_rfl
  have hn1 : Tryd.prog.cellsOf 3 = 1 := by kernel_rfl
  have hp1 : Tryd.prog.cellsOf 49 = 1 := by kernel_rfl
  have hb1 : Tryd.prog.cellsOf 32 = 1 := by kernel_rfl
  have e0 := hf 0 _ rfl
  have e1 := hf 1 _ rfl
  have e2 := hf 2 _ rfl
  have e3 := hf 3 _ rfl
  have e4 := hf 4 _ rfl
  have e5 := hf 5 _ rfl
  rw [List.getElem?_eq_getElem (by omega)] at e0 e1 e2 e3 e4 e5
  have f0 : DataW.trod enc Tryd.prog w base (fun _ => true) held n1 3 [v0] = some xs[0] := by
    have h := e0
    change DataW.trod enc Tryd.prog w base (fun _ => true) held _ 3 (([v0, v1, v2, v3, v4, v5, v6].drop 0).take (Tryd.prog.cellsOf 3)) = _ at h
    rw [hn1] at h
    exact h
  have f1 : DataW.trod enc Tryd.prog w base (fun _ => true) held n1 44 [v1, v2] = some xs[1] := by
    have h := e1
    change DataW.trod enc Tryd.prog w base (fun _ => true) held _ 44 (([v0, v1, v2, v3, v4, v5, v6].drop 1).take (Tryd.prog.cellsOf 44)) = _ at h
    rw [hi2] at h
    exact h
  have f2 : DataW.trod enc Tryd.prog w base (fun _ => true) held n1 49 [v3] = some xs[2] := by
    have h := e2
    change DataW.trod enc Tryd.prog w base (fun _ => true) held _ 49 (([v0, v1, v2, v3, v4, v5, v6].drop 3).take (Tryd.prog.cellsOf 49)) = _ at h
    rw [hp1] at h
    exact h
  have f3 : DataW.trod enc Tryd.prog w base (fun _ => true) held n1 3 [v4] = some xs[3] := by
    have h := e3
    change DataW.trod enc Tryd.prog w base (fun _ => true) held _ 3 (([v0, v1, v2, v3, v4, v5, v6].drop 4).take (Tryd.prog.cellsOf 3)) = _ at h
    rw [hn1] at h
    exact h
  have f4 : DataW.trod enc Tryd.prog w base (fun _ => true) held n1 3 [v5] = some xs[4] := by
    have h := e4
    change DataW.trod enc Tryd.prog w base (fun _ => true) held _ 3 (([v0, v1, v2, v3, v4, v5, v6].drop 5).take (Tryd.prog.cellsOf 3)) = _ at h
    rw [hn1] at h
    exact h
  have f5 : DataW.trod enc Tryd.prog w base (fun _ => true) held n1 32 [v6] = some xs[5] := by
    have h := e5
    change DataW.trod enc Tryd.prog w base (fun _ => true) held _ 32 (([v0, v1, v2, v3, v4, v5, v6].drop 6).take (Tryd.prog.cellsOf 32)) = _ at h
    rw [hb1] at h
    exact h
  obtain ⟨d, q0, _⟩ := DataW.trod_int Tryd.underlying3 f0
  obtain ⟨va, na, ya, ea, ta⟩ := field_at Tryd.underlying44 (by kernel_rfl) (by kernel_rfl) f1 0 _ rfl
  obtain ⟨vb, nb, yb, eb, tb⟩ := field_at Tryd.underlying44 (by kernel_rfl) (by kernel_rfl) f1 1 _ rfl
  obtain ⟨i, qa, _⟩ := DataW.trod_int Tryd.underlying3 ta
  obtain ⟨g, qb, _⟩ := DataW.trod_int Tryd.underlying3 tb
  obtain ⟨pA, pn, pc, ps, q2, hP, hp1', hp2, hp3⟩ := open_parts f2
  obtain ⟨row, q3, _⟩ := DataW.trod_int Tryd.underlying3 f3
  obtain ⟨comp, q4, _, hwc⟩ := DataW.trod_int Tryd.underlying3 f4
  obtain ⟨bA, bn, bc, b, q5, hV, hb1', hb2⟩ := open_vb f5
  simp only [List.cons.injEq, and_true] at q0 qa qb q2 q3 q4 q5
  subst q0 qa qb q2 q3 q4 q5
  have ea' : v1 = .int .i64 i := by simpa using ea
  have eb' : v2 = .int .i64 g := by simpa using eb
  subst ea' eb'
  exact ⟨⟨d, i, g, pA, pn, pc, ps, row, comp, bA, bn, bc, b⟩, rfl, ⟨⟨hP, hV⟩, ⟨(bounds_i64 hwc).1, Int.lt_of_le_of_lt (bounds_i64 hwc).2 (by decide)⟩, Nat.le_trans hp1' hp2, Nat.le_trans hb1' hb2, hp3⟩⟩
theorem open_tsteps {fuel : Nat} {cs : List Value} {x : DataW H × List MemPlace} (h : DataW.trod enc Tryd.prog w base (fun _ => true) held fuel 28 cs = some x) :
    ∃ A n c st, cs = [.slice A n c] ∧ TSRd (· < w.heap.size) w A n st ∧ n ≤ c ∧ c ≤ maxLen := by
  rcases elems_at Tryd.underlying28 h with h0 | ⟨a, len, cap, hcs, hl, hm, hi⟩
  · exact ⟨none, 0, 0, [], h0, ⟨rfl, fun h => absurd h (Nat.lt_irrefl 0), fun _ hx => absurd hx List.not_mem_nil⟩, Nat.le_refl _, Nat.zero_le _⟩
  have h3 : Tryd.prog.cellsOf 65 = 7 := by kernel_rfl
  rw [h3] at hi
  have key : ∀ i, ∃ x : Tst, i < len → (∀ r u, x.cs[r]? = some u → w.cell? ((a.add (i * 7)).add r) = some u) ∧ TSOk (· < w.heap.size) w x := fun i => by
    by_cases hil : i < len
    · obtain ⟨cs', n, y, hc, ht⟩ := hi i hil
      obtain ⟨x, rfl, hx⟩ := open_tstep ht
      refine ⟨x, fun _ => ⟨fun r u hr => ?_, hx⟩⟩
      have hr7 : r < 7 := by
        have := (Array.getElem?_eq_some_iff.1 hr).1
        exact this
      rw [hc r hr7]
      simpa using hr
    · exact ⟨⟨0, 0, 0, none, 0, 0, [], 0, 0, none, 0, 0, []⟩, fun h => absurd h hil⟩
  obtain ⟨F, hF⟩ := Classical.axiomOfChoice key
  refine ⟨some a, len, cap, (List.range len).map F, hcs, ⟨by simp, fun hpos => ?_, fun x hx => ?_⟩, hl, hm⟩
  · obtain ⟨b, off, spot⟩ := a
    have hs := (hF 0 hpos).1 0 _ rfl
    have hspot : spot = none := by simpa [Addr.add] using World.cell?_spot hs
    subst hspot
    refine ⟨b, off, rfl, by simpa [Addr.add] using World.block_lt_of_cell? w _ hs, fun j hj i u hu => ?_⟩
    have hj' : j < len := by simpa using hj
    simp only [List.getElem_map, List.getElem_range] at hu
    have := (hF j hj').1 i u hu
    rw [Addr.add_lit, Addr.add_lit] at this
    exact this
  · obtain ⟨i, hi', rfl⟩ := List.mem_map.1 hx
    exact (hF i (List.mem_range.1 hi')).2
end
end Go.Proofs.YtnjfogeefdmlkaaDoor
namespace Go.Proofs.YtnjfogeefdmlkaaDoor
open Go.RowKit
set_option maxRecDepth 20000

theorem TSRd.at_ {K : Nat → Prop} {w : World} {A : Option Addr} {n : Nat} {st : List Tst} (h : TSRd K w A n st) {j : Nat} (hj : j < n) : ∃ b o x, A = some ⟨b, o, none⟩ ∧ b < w.heap.size ∧ st[j]? = some x ∧ TSOk K w x ∧ ∀ i u, x.cs[i]? = some u → w.cell? ⟨b, o + j * 7 + i, none⟩ = some u := by
  obtain ⟨b, o, e, hlt, hc⟩ := h.2.1 (by omega)
  have hjl : j < st.length := by rw [h.1]; exact hj
  exact ⟨b, o, st[j], e, hlt, List.getElem?_eq_getElem hjl, h.2.2 _ (List.getElem_mem hjl), hc j hjl⟩

def TMuch (n : Nat) (st : List Tst) (w : World) (e : Ending) (w' : World) : Prop := w = w' ∧ ∃ r, e = .returned (.bool r) ∧ (r = false → n ≤ 60 ∧ ∀ (j : Nat) (x : Tst), j < 100 → st[j]? = some x → x.pn ≤ 40)
set_option maxHeartbeats 1000000 in
theorem TMuch_any {K : Nat → Prop} (w : World) (A : Option Addr) (n c : Nat) (st : List Tst) (h : TSRd K w A n st) (hn : n ≤ 9223372036854775807) :
    Calls Tryd.prog 5 #[.slice A n c] w (TMuch n st w) := by
  have H := Lib.hid h
  clear h
  go_enter Tryd.func5, Tryd.ntmps5
  go_wp2
  go_loopw [3] (fun iv wr => ∃ j : Nat, j ≤ n ∧ j ≤ 100 ∧ iv = .int .i64 j ∧ w = wr ∧ ∀ (k : Nat) (x : Tst), k < j → st[k]? = some x → x.pn ≤ 40) (fun iv _ => n - (intOf iv).toNat)
  case atStart => exact ⟨0, Nat.zero_le _, Nat.zero_le _, rfl, rfl, fun k x hk => absurd hk (Nat.not_lt_zero k)⟩
  case round =>
    obtain ⟨j, hj, hj1, rfl, rfl, hno⟩ := hrel
    by_cases hjn : j < n ∧ j < 100
    · obtain ⟨hjn, hj100⟩ := hjn
      obtain ⟨b, o, x, hA, hlt, hx, hok, hc⟩ := H.out.at_ hjn
      have HA := Lib.hid hA
      subst hA
      have k3 : w.cell? ⟨b, o + j * 7 + 3, none⟩ = some (.slice x.pA x.pn x.pc) := hc 3 _ rfl
      have k6 : w.cell? ⟨b, o + j * 7 + 6, none⟩ = some (.slice x.bA x.bn x.bc) := hc 6 _ rfl
      have d100 : decide ((j : Int) < 100) = true := decide_eq_true (by omega)
      have hpz := hok.pz
      have hbz := hok.bz
      unfold maxLen at hpz hbz
      have HLZ := Lib.hid hok.lz
      have HP := Lib.hid hok.ok.p
      have HX := Lib.hid hx
      have HNO := Lib.hid hno
      obtain ⟨pA, pn, pc, hpe⟩ : ∃ pA pn pc, x.pA = pA ∧ x.pn = pn ∧ x.pc = pc := ⟨_, _, _, rfl, rfl, rfl⟩
      obtain ⟨hp1, hp2, hp3⟩ := hpe
      obtain ⟨bA, bn, bc, hbe⟩ : ∃ bA bn bc, x.bA = bA ∧ x.bn = bn ∧ x.bc = bc := ⟨_, _, _, rfl, rfl, rfl⟩
      obtain ⟨hb1, hb2, hb3⟩ := hbe
      rw [hp1, hp2, hp3] at k3
      rw [hb1, hb2, hb3] at k6
      rw [hp2] at hpz
      rw [hb2] at hbz
      rw [hp1, hp2] at HP
      have HP2 := Lib.hid hp2
      clear hc hok hx hno hp1 hp2 hp3 hb1 hb2 hb3
      by_cases h40 : 40 < pn
      · have d40 : decide ((40 : Int) < (pn : Int)) = true := decide_eq_true (by omega)
        go_wp2
        go_ret
        exact ⟨rfl, true, rfl, fun e => by cases e⟩
      · have d40 : decide ((40 : Int) < (pn : Int)) = false := decide_eq_false (by omega)
        go_wp2
        go_loopw [4, 5] (fun nv kv wr => ∃ (k : Nat) (m : Int), k ≤ pn ∧ kv = .int .i64 k ∧ nv = .int .i64 m ∧ w = wr) (fun _ kv _ => pn - (intOf kv).toNat)
        case atStart => exact ⟨0, bn, Nat.zero_le _, rfl, rfl, rfl⟩
        case round =>
          obtain ⟨k, m, hk, rfl, rfl, rfl⟩ := hrel
          by_cases hkp : k < pn
          · have hpl := HP.out.len
            obtain ⟨y, hy⟩ : ∃ y, x.ps[k]? = some y := ⟨_, List.getElem?_eq_getElem (by omega)⟩
            obtain ⟨b2, o2, u, hA2, _, hlt2, _, m1, hu⟩ := HP.out.cell hy
            obtain ⟨DA, dm, dc, rfl, hr, _⟩ := hu
            have HA2 := Lib.hid hA2
            subst hA2
            obtain ⟨m', hm'⟩ : ∃ m', m' = wrap64 (m + (dm : Int)) := ⟨_, rfl⟩
            have em2 : wrap64 (m + (dm : Int)) = m' := hm'.symm
            clear hm' hr hy
            by_cases hbig : 1000 < m'
            · have dbig : decide ((1000 : Int) < m') = true := decide_eq_true hbig
              go_wp2
              go_ret
              exact ⟨rfl, true, rfl, fun e => by cases e⟩
            · have dbig : decide ((1000 : Int) < m') = false := decide_eq_false hbig
              go_wp2
              go_roundw
              case rel => exact ⟨k + 1, m', hkp, by go_num, by rw [em2], by first | rfl | trivial⟩
              case measure => simp [intOf]; omega
          · obtain rfl : k = pn := by omega
            by_cases hbig : 1000 < m
            · have dbig : decide ((1000 : Int) < m) = true := decide_eq_true hbig
              go_wp2
              go_ret
              exact ⟨rfl, true, rfl, fun e => by cases e⟩
            · have dbig : decide ((1000 : Int) < m) = false := decide_eq_false hbig
              go_wp2
              go_roundw
              case rel =>
                refine ⟨j + 1, hjn, by omega, by go_num, by first | rfl | trivial, fun a y ha hy => ?_⟩
                by_cases e : a = j
                · subst e
                  rw [HX.out] at hy
                  injection hy with hy
                  rw [← hy, HP2.out]
                  omega
                · exact HNO.out a y (by omega) hy
              case measure => simp [intOf]; omega
    · by_cases hjn2 : j < n
      · have hj100 : ¬ j < 100 := fun h => hjn ⟨hjn2, h⟩
        have d100 : decide ((j : Int) < 100) = false := decide_eq_false (by omega)
        have d60 : decide ((60 : Int) < (n : Int)) = true := decide_eq_true (by omega)
        clear hjn hno
        go_wp2
        go_ret
        exact ⟨rfl, true, rfl, fun e => by cases e⟩
      · obtain rfl : j = n := by omega
        have HNO := Lib.hid hno
        clear hno hjn
        by_cases h60 : 60 < j
        · have d60 : decide ((60 : Int) < (j : Int)) = true := decide_eq_true (by omega)
          go_wp2
          go_ret
          exact ⟨rfl, true, rfl, fun e => by cases e⟩
        · have d60 : decide ((60 : Int) < (j : Int)) = false := decide_eq_false (by omega)
          go_wp2
          go_ret
          have hl := H.out.1
          exact ⟨rfl, false, rfl, fun _ => ⟨by omega, fun a y ha hy => HNO.out a y (by have := (List.getElem?_eq_some_iff.1 hy).1; omega) hy⟩⟩
end Go.Proofs.YtnjfogeefdmlkaaDoor
namespace Go.Proofs.YtnjfogeefdmlkaaDoor
open Go.RowKit

/-- Rows of one size. -/
structure Co where
  sz : Nat
  rows : List (List UInt8)
def Co.bytes (s : Co) : List UInt8 := s.rows.flatten
structure Co.Ok (s : Co) : Prop where
  z : s.sz ≤ 64
  n : s.rows.length ≤ 1024
  each : ∀ r ∈ s.rows, r.length = s.sz
def Co.new (n : Int) : Co := ⟨(min (max n 0) 64).toNat, []⟩
theorem Co.new_ok (n : Int) : (Co.new n).Ok := ⟨by show (min (max n 0) 64).toNat ≤ 64; omega, by simp [Co.new], fun r hr => by simp [Co.new] at hr⟩

section
variable {z : Nat} {L : List (List UInt8)}
theorem flat_len (h : ∀ r ∈ L, r.length = z) : L.flatten.length = L.length * z := by
  induction L with
  | nil => simp
  | cons a L ih =>
    rw [List.flatten_cons, List.length_append, h a List.mem_cons_self, ih (fun r hr => h r (List.mem_cons_of_mem _ hr)), List.length_cons, Nat.succ_mul]
    omega
theorem flat_take (h : ∀ r ∈ L, r.length = z) (k : Nat) : L.flatten.take (k * z) = (L.take k).flatten := by
  induction L generalizing k with
  | nil => simp
  | cons a L ih =>
    cases k with
    | zero => simp
    | succ k =>
      have ha := h a List.mem_cons_self
      rw [List.flatten_cons, List.take_succ_cons, List.flatten_cons, List.take_append, List.take_of_length_le (by rw [ha, Nat.succ_mul]; omega), ha, show (k + 1) * z - z = k * z by rw [Nat.succ_mul]; omega, ih (fun r hr => h r (List.mem_cons_of_mem _ hr))]
theorem flat_drop (h : ∀ r ∈ L, r.length = z) (k : Nat) : L.flatten.drop (k * z) = (L.drop k).flatten := by
  induction L generalizing k with
  | nil => simp
  | cons a L ih =>
    cases k with
    | zero => simp
    | succ k =>
      have ha := h a List.mem_cons_self
      rw [List.flatten_cons, List.drop_succ_cons, List.drop_append, List.drop_eq_nil_of_le (by rw [ha, Nat.succ_mul]; omega), ha, show (k + 1) * z - z = k * z by rw [Nat.succ_mul]; omega, ih (fun r hr => h r (List.mem_cons_of_mem _ hr)), List.nil_append]
theorem flat_row (h : ∀ r ∈ L, r.length = z) (k : Nat) (hk : k < L.length) : (L.flatten.drop (k * z)).take z = L.getD k [] := by
  rw [flat_drop h, List.drop_eq_getElem_cons hk, List.flatten_cons, List.take_append, List.take_of_length_le (by rw [h _ (List.getElem_mem hk)]; exact Nat.le_refl _), h _ (List.getElem_mem hk), Nat.sub_self, List.take_zero, List.append_nil]
  simp [List.getD, List.getElem?_eq_getElem hk]
theorem flat_set (h : ∀ r ∈ L, r.length = z) (k : Nat) (hk : k < L.length) (b : List UInt8) (hb : b.length = z) : L.flatten.take (k * z) ++ (b ++ L.flatten.drop (k * z + b.length)) = (L.set k b).flatten := by
  rw [flat_take h, hb, show k * z + z = (k + 1) * z by rw [Nat.succ_mul], flat_drop h, List.set_eq_take_append_cons_drop, if_pos hk, List.flatten_append, List.flatten_cons]
end

theorem splice_cells' (l : List UInt8) (p : Nat) (b : List UInt8) : splice (cells l) p (cells b) = cells (l.take p ++ (b ++ l.drop (p + b.length))) := by
  simp [splice, cells_append, cells_take, cells_drop]

section
variable {s : Co}
theorem Co.Ok.len (h : s.Ok) : s.bytes.length = s.rows.length * s.sz := flat_len h.each
theorem Co.Ok.small (h : s.Ok) : s.bytes.length ≤ 65536 := by
  rw [h.len]
  exact Nat.le_trans (Nat.mul_le_mul h.n h.z) (by decide)
theorem Co.Ok.small' (h : s.Ok) : s.rows.length * s.sz ≤ 65536 := h.len ▸ h.small
theorem Co.fit {k : Nat} (hk : k < s.rows.length) : k * s.sz + s.sz ≤ s.rows.length * s.sz := by
  rw [← Nat.succ_mul]
  exact Nat.mul_le_mul_right _ hk
theorem Co.Ok.getD (h : s.Ok) {k : Nat} (hk : k < s.rows.length) : (s.rows.getD k []).length = s.sz := by
  have e : s.rows.getD k [] = s.rows[k] := by simp [List.getD, List.getElem?_eq_getElem hk]
  rw [e]
  exact h.each _ (List.getElem_mem hk)
/-- One row turned. -/
def Co.set (s : Co) (k : Nat) (b : List UInt8) : Co := ⟨s.sz, s.rows.set k b⟩
theorem Co.Ok.set (h : s.Ok) (k : Nat) (b : List UInt8) (hb : b.length = s.sz) : (s.set k b).Ok :=
  ⟨h.z, by simp only [Co.set, List.length_set]; exact h.n, fun r hr => by
    rcases List.mem_or_eq_of_mem_set hr with h1 | h1
    · exact h.each r h1
    · rw [h1]; exact hb⟩
theorem Co.set_bytes (h : s.Ok) (k : Nat) (hk : k < s.rows.length) (b : List UInt8) (hb : b.length = s.sz) : splice (cells s.bytes) (k * s.sz) (cells b) = cells (s.set k b).bytes := by
  rw [splice_cells']
  exact congrArg cells (flat_set h.each k hk b hb)
/-- One row more. -/
def Co.add (s : Co) (b : List UInt8) : Co := ⟨s.sz, s.rows ++ [b]⟩
theorem Co.Ok.add (h : s.Ok) (b : List UInt8) (hb : b.length = s.sz) (hn : s.rows.length ≠ 1024) : (s.add b).Ok :=
  ⟨h.z, by have := h.n; simp only [Co.add, List.length_append, List.length_singleton]; omega, fun r hr => by
    rcases List.mem_append.1 hr with h1 | h1
    · exact h.each r h1
    · rw [List.mem_singleton.1 h1]; exact hb⟩
theorem Co.add_bytes (s : Co) (b : List UInt8) : (s.add b).bytes = s.bytes ++ b := by simp [Co.add, Co.bytes]
/-- The last row left out. -/
def Co.cut (s : Co) : Co := ⟨s.sz, s.rows.take (s.rows.length - 1)⟩
theorem Co.Ok.cut (h : s.Ok) : s.cut.Ok := ⟨h.z, by have := h.n; simp only [Co.cut, List.length_take]; omega, fun r hr => h.each r (List.mem_of_mem_take hr)⟩
theorem Co.cut_bytes (h : s.Ok) : s.bytes.take ((s.rows.length - 1) * s.sz) = s.cut.bytes := flat_take h.each _
/-- The last row at place k, and left out at the end. -/
def Co.drop (s : Co) (k : Nat) : Co := (s.set k (s.rows.getD (s.rows.length - 1) [])).cut
theorem Co.Ok.drop (h : s.Ok) {k : Nat} (hk : k < s.rows.length) : (s.drop k).Ok := (h.set k _ (h.getD (by omega))).cut

/-- One step: what it makes, what is got, the error. -/
def Co.go (s : Co) (d a : Int) (b : List UInt8) : Co × (List UInt8 × Int) :=
  if d = 1 then (if 0 ≤ a ∧ a < s.rows.length then (if b.length = s.sz then (s.set a.toNat b, [], 0) else (s, [], 7)) else (s, [], 2))
  else if d = 2 then (if 0 ≤ a ∧ a < s.rows.length then (s, s.rows.getD a.toNat [], 0) else (s, [], 2))
  else if d = 3 then (if 0 ≤ a ∧ a < s.rows.length then (s.drop a.toNat, [], 0) else (s, [], 2))
  else if b.length = s.sz then (if s.rows.length = 1024 then (s, [], 9) else (s.add b, [], 0)) else (s, [], 7)
theorem Co.Ok.go (h : s.Ok) (d a : Int) (b : List UInt8) : (s.go d a b).1.Ok := by
  unfold Co.go
  split
  · split
    · split
      · exact h.set _ _ (by assumption)
      · exact h
    · exact h
  · split
    · split <;> exact h
    · split
      · split
        · exact h.drop (by omega)
        · exact h
      · split
        · split
          · exact h
          · exact h.add _ (by assumption) (by assumption)
        · exact h
end
end Go.Proofs.YtnjfogeefdmlkaaDoor
namespace Go.Proofs.YtnjfogeefdmlkaaDoor
open Go.RowKit Go.Maps

/-- Block m is a map of integers: at i it has f i; n entries. -/
def MapZ (P : Program) (k : TypeId) (z : Value) (w : World) (m n : Nat) (f : Int → Option Value) : Prop :=
  ∃ D : DataW Value, w.ownsMap P k itself m n D ∧ Maps.size D = n ∧ (∀ i : Int, D.atKey (.int .i64 i) (.held z) = .held ((f i).getD z)) ∧ (∀ i : Int, Maps.has D (.int .i64 i) = (f i).isSome)

section
variable {P : Program} {k e T : TypeId} {z : Value} {w w' : World} {m n : Nat} {f : Int → Option Value}
theorem ownsMap_tight {R : Value → Option (DataW Value × List MemPlace)} {D : DataW Value} (h : w.ownsMap P k R m n D) : w.ownsMap P k R m (Maps.size D) D := by
  obtain ⟨es, clock, hb, F, hs, rfl⟩ := h
  have e1 : Maps.size (DataW.map ((es.toList.map (WideElems.rg P k R)).foldr DataW.insert [])) = es.size := by simp [Maps.size, length_sorted]
  exact ⟨es, clock, hb, F, by rw [e1]; exact Nat.le_refl _, rfl⟩
theorem MapZ.made (P : Program) (k : TypeId) (z : Value) (w : World) : MapZ P k z (w.alloc (.map #[] 0)) w.heap.size 0 (fun _ => none) :=
  ⟨.map [], World.ownsMap_made w P k itself, rfl, fun _ => rfl, fun _ => rfl⟩
theorem MapZ.lt (h : MapZ P k z w m n f) : m < w.heap.size := by obtain ⟨D, ho, _⟩ := h; exact ho.lt
theorem MapZ.block (h : MapZ P k z w m n f) (hb : w'.heap[m]? = w.heap[m]?) : MapZ P k z w' m n f := by
  obtain ⟨D, ⟨es, clock, hm, r⟩, h2⟩ := h
  exact ⟨D, ⟨es, clock, hb.trans hm, r⟩, h2⟩
theorem MapZ.fr {own : Nat → Prop} (h : MapZ P k z w m n f) (hf : Fr own w w') (hn : ¬ own m) : MapZ P k z w' m n f := h.block (hf.block m h.lt hn)
theorem MapZ.below (h : MapZ P k z w m n f) (hb : Below w.heap.size w w') : MapZ P k z w' m n f := h.block (hb.block m h.lt)
theorem MapZ.congr {f' : Int → Option Value} (h : MapZ P k z w m n f) (hf : ∀ i, f i = f' i) : MapZ P k z w m n f' := by
  obtain rfl : f = f' := funext hf
  exact h
theorem key_int (hk : P.underlying k = some (.int .i64)) {i : Int} (hi : -9223372036854775808 ≤ i ∧ i < 9223372036854775808) : keyOf P k (.int .i64 i) = some (.int .i64 i) :=
  keyOf_int_mk hk (WalkArith.wf_i64 (by omega))
theorem int_lit_ne {i j : Int} (h : i ≠ j) : (Lit.int .i64 i) ≠ .int .i64 j := fun e => h (by injection e with _ e)
theorem MapZ.look (h : MapZ P k z w m n f) (hk : P.underlying k = some (.int .i64)) (hT : P.underlying T = some (.map k e)) (hz : (zeroValue e).run P w = .ok z w) {i : Int} (hi : -9223372036854775808 ≤ i ∧ i < 9223372036854775808) :
    (Instr.lookup T (.map (some m)) (.int .i64 i) false).run P w = .ok ((f i).getD z) w := by
  obtain ⟨D, ho, _, hat, _⟩ := h
  obtain ⟨v, ps, hrun, hv⟩ := ho.lookup (int_keyed hk) hT hz (zd := .held z) (zp := []) rfl (key_int hk hi)
  rw [hat i] at hv
  simp only [itself, Option.some.injEq, Prod.mk.injEq, DataW.held.injEq] at hv
  rw [hrun, hv.1]
theorem MapZ.look_ok (h : MapZ P k z w m n f) (hk : P.underlying k = some (.int .i64)) (hT : P.underlying T = some (.map k e)) (hz : (zeroValue e).run P w = .ok z w) {i : Int} (hi : -9223372036854775808 ≤ i ∧ i < 9223372036854775808) :
    (Instr.lookup T (.map (some m)) (.int .i64 i) true).run P w = .ok (.tuple #[(f i).getD z, .bool (f i).isSome]) w := by
  obtain ⟨D, ho, _, hat, hh⟩ := h
  obtain ⟨v, ps, hrun, hv⟩ := ho.look_ok (int_keyed hk) hT hz (zd := .held z) (zp := []) rfl (key_int hk hi)
  rw [hat i] at hv
  simp only [itself, Option.some.injEq, Prod.mk.injEq, DataW.held.injEq] at hv
  rw [hrun, hv.1, hh i]
theorem MapZ.len (h : MapZ P k z w m n f) (hT : P.underlying T = some (.map k e)) (ty : TypeId) : (Builtin.len_ #[T] ty #[.map (some m)]).run P w = .ok (.int .i64 n) w := by
  obtain ⟨D, ho, hs, _⟩ := h
  rw [ho.len hT ty, hs]
theorem MapZ.put (h : MapZ P k z w m n f) (hk : P.underlying k = some (.int .i64)) (hT : P.underlying T = some (.map k e)) (hn : n < maxLen) {i : Int} (hi : -9223372036854775808 ≤ i ∧ i < 9223372036854775808) (v : Value) :
    ∃ w', (Instr.mapUpdate T (.map (some m)) (.int .i64 i) v).run P w = .ok () w' ∧ MapZ P k z w' m (if (f i).isSome = true then n else n + 1) (fun j => if j = i then some v else f j) ∧ w.grownBy w' (some m) := by
  obtain ⟨D, ho, hs, hat, hh⟩ := h
  obtain ⟨w', hrun, ho', hg⟩ := ho.update (int_keyed hk) hT hn (val := v) (d := .held v) (ps := []) (key_int hk hi) rfl
  have hkl := (int_keyed hk).key (key_int hk hi)
  have hsz := Maps.size_put (k := .int .i64 i) (ho.tidy (int_keyed hk)) (.held v)
  rw [hh i, hs] at hsz
  refine ⟨w', hrun, ⟨_, by rw [← hsz]; exact ownsMap_tight ho', hsz, fun j => ?_, fun j => ?_⟩, hg⟩
  · by_cases hj : j = i
    · subst hj
      simp only [if_true]
      exact Maps.atKey_put_same ho.isMap hkl _ _
    · simp only [if_neg hj]
      rw [Maps.atKey_put_other (int_lit_ne hj), hat j]
  · by_cases hj : j = i
    · subst hj
      simp only [if_true]
      exact Maps.has_put_same ho.isMap hkl _
    · simp only [if_neg hj]
      rw [Maps.has_put_other (int_lit_ne hj), hh j]
end

section
variable {P : Program} {ops : Array Oper} {o : Oper} {a : Act} {w : World} {K : Act → World → Prop} {Q : Exit → Act → World → Prop} {E : Prop} {z : Value} {m n : Nat} {f : Int → Option Value}
/-- 'm[i] = v', in a walk. -/
theorem wpList_putZ {k e T : TypeId} {rest : List Oper} (hk : P.underlying k = some (.int .i64)) (hT : P.underlying T = some (.map k e)) (hgd : Region.wanted o (yielded ops a.tmps) = true) (mo x y : Operand) (ho : o.op = Op.mapUpdate T mo x y)
    (h : MapZ P k z w m n f) (hn : n < 1000000000) {i : Int} (hi : -9223372036854775808 ≤ i ∧ i < 9223372036854775808) (v : Value) (hm : a.eval mo = .map (some m)) (hx : a.eval x = .int .i64 i) (hv : a.eval y = v)
    (hK : ∀ w', MapZ P k z w' m (if (f i).isSome = true then n else n + 1) (fun j => if j = i then some v else f j) → w.grownBy w' (some m) → wpList P ops Q rest (a.put o.dst undef) w') : wpList P ops Q (o :: rest) a w :=
  wpList_w hgd fun _ hK' => by
    obtain ⟨w', hrun, r1, r2⟩ := h.put hk hT (by unfold maxLen; omega) hi v
    unfold Oper.wp
    simp [execOp, ho, hm, hx, hv, hrun, Result.andThen]
    exact hK' _ _ (hK w' r1 r2)
/-- The same as a step of a region that draws its order. -/
theorem step_putZ {k e T : TypeId} (hk : P.underlying k = some (.int .i64)) (hT : P.underlying T = some (.map k e)) (hgd : Region.wanted o (yielded ops a.tmps) = true) (mo x y : Operand) (ho : o.op = Op.mapUpdate T mo x y)
    (h : MapZ P k z w m n f) (hn : n < 1000000000) {i : Int} (hi : -9223372036854775808 ≤ i ∧ i < 9223372036854775808) (v : Value) (hm : a.eval mo = .map (some m)) (hx : a.eval x = .int .i64 i) (hv : a.eval y = v)
    (hK : ∀ w', MapZ P k z w' m (if (f i).isSome = true then n else n + 1) (fun j => if j = i then some v else f j) → w.grownBy w' (some m) → K (a.put o.dst undef) w') :
    if Region.wanted o (yielded ops a.tmps) = true then Oper.wp P o a w K Q else E := by
  rw [if_pos hgd]
  obtain ⟨w', hrun, r1, r2⟩ := h.put hk hT (by unfold maxLen; omega) hi v
  unfold Oper.wp
  simp [execOp, ho, hm, hx, hv, hrun, Result.andThen]
  exact hK w' r1 r2
end
end Go.Proofs.YtnjfogeefdmlkaaDoor
namespace Go.Proofs.YtnjfogeefdmlkaaDoor
open Go.RowKit

/-- A column at block p: its rows' bytes in v. -/
structure ClAt (w : World) (own : Nat → Prop) (p : Nat) (v : Value) (s : Co) : Prop where
  blk : Rec 108 w p #[.int .i64 (s.sz : Nat), .int .i64 (s.rows.length : Nat), v]
  row : w.ownsRow 0 5 1 v s.bytes.length (cells s.bytes)
  ownp : own p
  ownv : ∀ x, v.ownBlock = some x → own x
  ne : ∀ x, v.ownBlock = some x → x ≠ p
  ok : s.Ok

/-- What is owned, as the walk wants it. -/
theorem own_opens {w : World} {B e n : Nat} {v : Value} {xs : List Value} (h : w.ownsRow B e 1 v n xs) :
    ∃ A c, v = .slice A n c ∧ n ≤ c ∧ c ≤ maxLen ∧ (A = none → n = 0) ∧ (∀ a, A = some a → ∃ g cur, a = ⟨g, 0, none⟩ ∧ B ≤ g ∧ w.heap[g]? = some (.cells cur e (0, 0)) ∧ cur.size = c ∧ cur.toList.take n = xs) := by
  rcases h.2 with ⟨hv, h0⟩ | ⟨g, cap, cur, rfl, hB, hh, hn, hc, hs, ht⟩
  · exact ⟨none, 0, by rw [hv, h0], by omega, by unfold maxLen; omega, fun _ => h0, fun a e => by cases e⟩
  · exact ⟨_, cap, rfl, hn, hc, (fun e => (by cases e)), fun a e => by
      injection e with e
      exact ⟨g, cur, e.symm, hB, hh, by simpa using hs, by simpa using ht⟩⟩
theorem Rd.of_own' {w : World} {B e n c : Nat} {A : Option Addr} {l : List UInt8} (h : w.ownsRow B e 1 (.slice A n c) n (cells l)) : Rd w A n l := by
  obtain ⟨A', c', e, _, _, hr⟩ := Rd.of_own h rfl
  injection e with e1 e2 e3
  subst e1
  exact hr

section
variable {w w' : World} {own own' : Nat → Prop} {p : Nat} {v : Value} {s : Co}
theorem ClAt.lt (h : ClAt w own p v s) : p < w.heap.size := h.blk.lt
theorem ClAt.c0 (h : ClAt w own p v s) : w.cell? ⟨p, 0, none⟩ = some (.int .i64 (s.sz : Nat)) := h.blk.at_ 0
theorem ClAt.c1 (h : ClAt w own p v s) : w.cell? ⟨p, 1, none⟩ = some (.int .i64 (s.rows.length : Nat)) := h.blk.at_ 1
theorem ClAt.c2 (h : ClAt w own p v s) : w.cell? ⟨p, 2, none⟩ = some v := h.blk.at_ 2
theorem ClAt.fz (h : ClAt w own p v s) (i : Nat) : w.frozen? ⟨p, i, none⟩ = false := h.blk.fz i
theorem ClAt.kept (h : ClAt w own p v s) (hf : Fr own' w w') (hd : ∀ x, own x → ¬ own' x) : ClAt w' own p v s where
  blk := h.blk.fr hf (hd p h.ownp)
  row := own_fr h.row hf (fun x hx => hd x (h.ownv x hx))
  ownp := h.ownp
  ownv := h.ownv
  ne := h.ne
  ok := h.ok
theorem ClAt.below (h : ClAt w own p v s) (hb : Below w.heap.size w w') : ClAt w' own p v s := h.kept (own' := fun _ => False) (Fr.ofBelow _ hb) (fun _ _ hx => hx)
theorem ClAt.mono (h : ClAt w own p v s) (hk : ∀ x, own x → own' x) : ClAt w own' p v s := { h with ownp := hk _ h.ownp, ownv := fun x hx => hk x (h.ownv x hx) }
end

theorem clnear_any (n lo hi : Int) (w : World) : Calls Tryd.prog 58 #[.int .i64 n, .int .i64 lo, .int .i64 hi] w fun e w' => e = .returned (.int .i64 (min (max n lo) hi)) ∧ w = w' := by
  go_enter Tryd.func58, Tryd.ntmps58
  go_wp2
  all_goals go_ret
  all_goals exact ⟨ret_int (by omega), rfl⟩

theorem ClNew_any (n : Int) (w : World) :
    Calls Tryd.prog 46 #[.int .i64 n] w fun e w' => e = .returned (.pointer (some ⟨w.heap.size, 0, none⟩)) ∧ Below w.heap.size w w' ∧ w.heap.size < w'.heap.size ∧ ClAt w' (· = w.heap.size) w.heap.size nilv (Co.new n) := by
  have hE : (((Co.new n).sz : Nat) : Int) = min (max n 0) 64 := by
    show ((min (max n 0) 64).toNat : Int) = _
    omega
  go_enter Tryd.func46, Tryd.ntmps46
  go_wp2_with (go_at_call 58; refine (clnear_any _ _ _ _).mono ?_; rintro e w' ⟨rfl, rfl⟩)
  go_ret
  refine ⟨rfl, (Below.refl _ _).alloc (Nat.le_refl _) _, by simp, ?_⟩
  exact {
    blk := by rw [hE]; exact Rec.new w _ _
    row := World.ownsRow_nil _ _ _ _
    ownp := rfl
    ownv := fun x hx => by cases hx
    ne := fun x hx => by cases hx
    ok := Co.new_ok n }

theorem fresh_any (A : Option Addr) (n c : Nat) (l : List UInt8) (w : World) (hr : Rd w A n l) (hn : n ≤ 1000000000) :
    Calls Tryd.prog 50 #[.slice A n c] w fun e w' => e = .returned (.slice (some ⟨w.heap.size, 0, none⟩) n n) ∧ w'.ownsRow w.heap.size 5 1 (.slice (some ⟨w.heap.size, 0, none⟩) n n) n (cells l) ∧ Below w.heap.size w w' := by
  go_enter Tryd.func50, Tryd.ntmps50
  go_wp2_with (first
    | (at_make; refine wpList_mkn _ bytesT rfl (.tmp 5) (.tmp 5) rfl w.heap.size .i64 .i64 _ _ n rfl rfl rfl rfl (by omega) (by unfold maxLen; omega) (by simp) ?_; intro w1 hown1 hb1)
    | (with_reducible refine wpList_cpy bytesT rfl (.tmp 7) (.tmp 8) rfl w.heap.size w.heap.size n _ rfl hown1 A n c l rfl (hr.below (Nat.le_refl _) hb1) ?_; intro w2 hown2 hb2))
  go_ret
  refine ⟨rfl, ?_, hb1.trans hb2⟩
  have hl := hr.1
  have e2 : splice (madeCells (Value.int .u8 0).cells (n * 1)).toList 0 (cells (l.take n)) = cells l := by
    have h1 := hown1.1
    rw [List.take_of_length_le (by omega)]
    unfold splice
    rw [List.take_zero, List.nil_append, List.drop_eq_nil_of_le (by rw [h1, cells_length]; omega), List.append_nil]
  rw [← e2]
  exact hown2

section
variable {w : World} {own : Nat → Prop} {p : Nat} {v : Value} {s : Co}
theorem check_nil (i : Int) (w : World) : Calls Tryd.prog 53 #[.pointer none, .int .i64 i] w fun e w' => e = .returned (.int .i64 4) ∧ w = w' := by
  go_enter Tryd.func53, Tryd.ntmps53
  go_wp2
  go_ret
  exact ⟨rfl, rfl⟩
theorem check_ok (h : ClAt w own p v s) (i : Int) (hi : 0 ≤ i ∧ i < s.rows.length) : Calls Tryd.prog 53 #[.pointer (some ⟨p, 0, none⟩), .int .i64 i] w fun e w' => e = .returned (.int .i64 0) ∧ w = w' := by
  have c1 := h.c1
  obtain ⟨h0, h1⟩ := hi
  go_enter Tryd.func53, Tryd.ntmps53
  go_wp2
  go_ret
  exact ⟨rfl, rfl⟩
theorem check_no (h : ClAt w own p v s) (i : Int) (hi : ¬ (0 ≤ i ∧ i < s.rows.length)) : Calls Tryd.prog 53 #[.pointer (some ⟨p, 0, none⟩), .int .i64 i] w fun e w' => e = .returned (.int .i64 2) ∧ w = w' := by
  have c1 := h.c1
  by_cases h0 : i < 0
  · go_enter Tryd.func53, Tryd.ntmps53
    go_wp2
    go_ret
    exact ⟨rfl, rfl⟩
  · have h1 : (s.rows.length : Int) ≤ i := by omega
    clear hi
    go_enter Tryd.func53, Tryd.ntmps53
    go_wp2
    go_ret
    exact ⟨rfl, rfl⟩

theorem ret_sl {A : Option Addr} {n m : Nat} (h : n = m) : Ending.returned (.slice A n n) = .returned (.slice A m m) := by rw [h]
/-- Where row i stands. -/
abbrev RowAt (v : Value) (s : Co) (i : Nat) (A : Option Addr) : Prop := 0 < s.sz → ∃ g c, v = .slice (some ⟨g, 0, none⟩) s.bytes.length c ∧ A = some ⟨g, i * s.sz, none⟩
theorem ClAt.rd (h : ClAt w own p v s) (i : Nat) (hi : i < s.rows.length) {A : Option Addr} (hA : RowAt v s i A) : Rd w A s.sz (s.rows.getD i []) := by
  have e := flat_row h.ok.each i hi
  have hf := Co.fit (s := s) hi
  have hl := h.ok.len
  rw [← e]
  refine ⟨by rw [e]; exact h.ok.getD hi, fun hp => ?_⟩
  obtain ⟨g, c, hv, hA'⟩ := hA hp
  have hr := h.row
  rw [hv] at hr
  exact ((Rd.of_own' hr).part (lo := i * s.sz) (m := s.sz) (by omega) A (fun _ b o e1 => by
    injection e1 with e1
    injection e1 with e1 e2
    rw [hA', ← e1, ← e2, Nat.zero_add])).2 hp

theorem row_any (h : ClAt w own p v s) (i : Nat) (hi : i < s.rows.length) : Calls Tryd.prog 54 #[.pointer (some ⟨p, 0, none⟩), .int .i64 i] w fun e w' => (∃ A, e = .returned (.slice A s.sz s.sz) ∧ RowAt v s i A) ∧ Below w.heap.size w w' := by
  have c0 := h.c0
  have hl := h.ok.len
  have hf := Co.fit (s := s) hi
  have hs := h.ok.small'
  have hz := h.ok.z
  have hn := h.ok.n
  obtain ⟨A, c, rfl, hc, hm, hnil, hr⟩ := own_opens h.row
  have c2 : ∀ n, (w.drewN n).cell? ⟨p, 2, none⟩ = some (.slice A s.bytes.length c) := fun n => (h.below (below_drewN (Below.refl _ _) n)).c2
  have e1 : (i : Int) * (s.sz : Int) = ((i * s.sz : Nat) : Int) := by push_cast; rfl
  have e2 : wrap64 (((i : Int) + 1) * (s.sz : Int)) = ((i * s.sz + s.sz : Nat) : Int) := by
    rw [show ((i : Int) + 1) * (s.sz : Int) = ((i * s.sz + s.sz : Nat) : Int) by push_cast; rw [Int.add_mul, Int.one_mul]]
    unfold wrap64; omega
  have E1 := Lib.hid e1
  have E2 := Lib.hid e2
  have C2 := Lib.hid c2
  have HR := Lib.hid hr
  have HNIL := Lib.hid hnil
  clear e1 e2 hr h hnil c2
  go_enter Tryd.func54, Tryd.ntmps54
  go_wp2_with fail
  go_quiet (fail)
  have c2 := C2.out nq
  rw [E1.out, E2.out]
  obtain ⟨x, hx⟩ : ∃ x, x = i * s.sz := ⟨_, rfl⟩
  rw [← hx] at hf ⊢
  go_wp2
  all_goals go_ret
  all_goals refine ⟨⟨_, ret_sl (by omega), fun hp => ?_⟩, below_drewN (Below.refl _ _) _⟩
  all_goals first | (exfalso; omega) | skip
  all_goals
    rcases A with _ | a
    · exfalso
      have := HNIL.out rfl
      have := Nat.le_trans (Nat.le_add_left s.sz (i * s.sz)) (hx ▸ hf)
      omega
    · obtain ⟨g, _, rfl, _⟩ := HR.out a rfl
      exact ⟨g, c, by rw [hl], by rw [Option.map_some, Addr.add_lit, Nat.zero_add]⟩

theorem ClSize_any (h : ClAt w own p v s) : Calls Tryd.prog 27 #[.pointer (some ⟨p, 0, none⟩)] w fun e w' => e = .returned (.int .i64 (s.sz : Nat)) ∧ w = w' := by
  have c0 := h.c0
  go_enter Tryd.func27, Tryd.ntmps27
  go_wp2
  go_ret
  exact ⟨rfl, rfl⟩
theorem ClBytes_any (h : ClAt w own p v s) : Calls Tryd.prog 35 #[.pointer (some ⟨p, 0, none⟩)] w fun e w' => ∃ n, e = .returned (.slice (some ⟨w.heap.size, 0, none⟩) n n) ∧ w'.ownsRow w.heap.size 5 1 (.slice (some ⟨w.heap.size, 0, none⟩) n n) n (cells s.bytes) ∧ n = s.bytes.length ∧ Below w.heap.size w w' := by
  have c2 := h.c2
  have hs := h.ok.small
  have hr := h.row
  obtain ⟨A, c, rfl, hc, hm, hnil, _⟩ := own_opens h.row
  have CF := Lib.hid (fresh_any A s.bytes.length c s.bytes w (Rd.of_own' hr) (by omega))
  clear hr hnil h
  go_enter Tryd.func35, Tryd.ntmps35
  go_wp2_with (go_at_call 50; refine CF.out.mono ?_; rintro e w2 ⟨rfl, hO2, hB2⟩)
  go_ret
  exact ⟨_, rfl, hO2, rfl, hB2⟩
end
end Go.Proofs.YtnjfogeefdmlkaaDoor
