/- TbR1, TbR2, TbS, RowS, TbP7, Num, CmM, CmK, CmA -/
import Derived.Test.YtddiadpbkjdomaaGreatDoorQn8
import Derived.BigQuiet
import Derived.Deep.QuietTactic
import Derived.Deep.MidRow
import Derived.Laws.BitsAllLaws
import Derived.Laws.BitsLemmas
namespace Go.Proofs.YtddiadpbkjdomaaGreatDoor
open Go.RowKit

theorem idsT : El Tryz.prog 52 39 (.agg #[.int .i64 0, .int .i64 0]) 2 16 := ⟨Tryz.underlying52, by kernel_rfl, rfl, by decide⟩
theorem partsT : El Tryz.prog 101 161 (.agg #[.int .i64 0, .slice none 0 0]) 2 32 := ⟨Tryz.underlying101, by kernel_rfl, rfl, by decide⟩
theorem entsT : El Tryz.prog 35 103 (.agg #[.int .i64 0, .int .i64 0, .slice none 0 0]) 3 40 := ⟨Tryz.underlying35, by kernel_rfl, rfl, by decide⟩
theorem rtabT : RT Tryz.prog 146 3 := ⟨⟨_, Tryz.underlying146, rfl⟩, by kernel_rfl⟩

/-- The reference's table as a value. -/
structure Rt where
  CA : Option Addr
  cn : Nat
  cc : Nat
  SA : Option Addr
  sn : Nat
  sc : Nat
  RA : Option Addr
  rn : Nat
  rc : Nat
def Rt.cs (d : Rt) : Array Value := #[.slice d.CA d.cn d.cc, .slice d.SA d.sn d.sc, .slice d.RA d.rn d.rc]
/-- It stands for t. -/
structure RtS (K : Nat → Prop) (w : World) (d : Rt) (t : Tb) : Prop where
  c : IntsV K w d.CA d.cn (t.cs.map (·.1))
  s : IntsV K w d.SA d.sn (t.cs.map fun c => (c.2 : Int))
  r : EntsV K w d.RA d.rn t.rows
section
variable {K K' : Nat → Prop} {w w' : World} {d : Rt} {t : Tb}
theorem RtS.stays (h : RtS K w d t) (hs : WStays K w w') : RtS K w' d t := ⟨h.c.stays hs, h.s.stays hs, h.r.stays hs⟩
theorem RtS.mono (h : RtS K w d t) (hk : ∀ x, K x → K' x) : RtS K' w d t := ⟨h.c.mono hk, h.s.mono hk, h.r.mono hk⟩
theorem RtS.below (h : RtS K w d t) (hb : Below w.heap.size w w') : RtS K w' d t := ⟨h.c.below hb, h.s.below hb, h.r.below hb⟩
theorem RtS.cn (h : RtS K w d t) : d.cn = t.cs.length := by have := h.c.len; simpa using this.symm
theorem RtS.sn (h : RtS K w d t) : d.sn = t.cs.length := by have := h.s.len; simpa using this.symm
theorem RtS.rn (h : RtS K w d t) : d.rn = t.rows.length := h.r.len.symm

end

/-- Names that are the same. -/
theorem SameIDs_yes {K K' : Nat → Prop} (A A' : Option Addr) (n c c' : Nat) (xs : List (Int × Int)) (w : World) (h : IdsV K w A n xs) (h' : IdsV K' w A' n xs) (hn : n ≤ 1000000) :
    Calls Tryz.prog 20 #[.slice A n c, .slice A' n c'] w fun e w' => e = .returned (.bool true) ∧ Below w.heap.size w w' := by
  have hl := h.len
  have H := Lib.hid h
  have H' := Lib.hid h'
  clear h h'
  go_enter Tryz.func20, Tryz.ntmps20
  go_wp2
  go_loopw [5] (fun iv wr => ∃ j : Nat, j ≤ n ∧ iv = .int .i64 j ∧ Below w.heap.size w wr) (fun iv _ => n - (intOf iv).toNat)
  case atStart => exact ⟨0, Nat.zero_le _, rfl, Below.refl _ _⟩
  case round =>
    obtain ⟨j, hj, rfl, hB⟩ := hrel
    by_cases hjn : j < n
    · obtain ⟨y, hy⟩ : ∃ y, xs[j]? = some y := ⟨_, List.getElem?_eq_getElem (by omega)⟩
      obtain ⟨b, o, hA, hblt, h0, h1⟩ := H.out.cell hy
      obtain ⟨b', o', hA', hblt', h0', h1'⟩ := H'.out.cell hy
      subst hA hA'
      obtain ⟨yi, yg⟩ := y
      simp only at h0 h1 h0' h1'
      have k0 := (hB.cell (p := ⟨b, o + j * 2, none⟩) hblt).trans h0
      have k1 := (hB.cell (p := ⟨b, o + j * 2 + 1, none⟩) hblt).trans h1
      have k0' := (hB.cell (p := ⟨b', o' + j * 2, none⟩) hblt').trans h0'
      have k1' := (hB.cell (p := ⟨b', o' + j * 2 + 1, none⟩) hblt').trans h1'
      clear h0 h1 h0' h1' hy
      go_wp2_with fail
      go_quiet (fail)
      go_wp2
      go_roundw
      case rel => exact ⟨j + 1, hjn, by go_num, below_drewN hB _⟩
      case measure => simp [intOf]; omega
    · go_wp2
      go_ret
      exact ⟨rfl, hB⟩
end Go.Proofs.YtddiadpbkjdomaaGreatDoor
namespace Go.Proofs.YtddiadpbkjdomaaGreatDoor
open Go.RowKit

theorem VB.sl {K : Nat → Prop} {w : World} {u : Value} {l : List UInt8} (h : VB K w u l) : ∃ A m c, u = .slice A m c ∧ Rd w A m l := by obtain ⟨A, m, c, e, hr, _⟩ := h; exact ⟨A, m, c, e, hr⟩
theorem Rd.drewN {w : World} {A : Option Addr} {n : Nat} {l : List UInt8} (h : Rd w A n l) (k : Nat) : Rd (w.drewN k) A n l := h.below (Nat.le_refl _) (below_drewN (Below.refl _ _) k)

set_option maxRecDepth 20000 in
/-- Parts that are the same. -/
theorem SameParts_yes {K K' : Nat → Prop} (A A' : Option Addr) (n c c' : Nat) (xs : List Pt) (w : World) (h : PartsV K w A n xs) (h' : PartsV K' w A' n xs) (hn : n ≤ 1000000) :
    Calls Tryz.prog 49 #[.slice A n c, .slice A' n c'] w fun e w' => e = .returned (.bool true) ∧ Below w.heap.size w w' := by
  have hl := h.len
  have H := Lib.hid h
  have H' := Lib.hid h'
  clear h h'
  go_enter Tryz.func49, Tryz.ntmps49
  go_wp2
  go_loopw [5] (fun iv wr => ∃ j : Nat, j ≤ n ∧ iv = .int .i64 j ∧ Below w.heap.size w wr) (fun iv _ => n - (intOf iv).toNat)
  case atStart => exact ⟨0, Nat.zero_le _, rfl, Below.refl _ _⟩
  case round =>
    obtain ⟨j, hj, rfl, hB⟩ := hrel
    by_cases hjn : j < n
    · obtain ⟨y, hy⟩ : ∃ y, xs[j]? = some y := ⟨_, List.getElem?_eq_getElem (by omega)⟩
      obtain ⟨b, o, u, hA, _, hblt, h0, h1, hu⟩ := H.out.cell hy
      obtain ⟨b', o', u', hA', _, hblt', h0', h1', hu'⟩ := H'.out.cell hy
      subst hA hA'
      obtain ⟨DA, dm, dc, rfl, hr⟩ := hu.sl
      obtain ⟨DA', dm', dc', rfl, hr'⟩ := hu'.sl
      obtain ⟨yi, yd⟩ := y
      simp only at h0 h0' hr hr'
      have k0 := (hB.cell (p := ⟨b, o + j * 2, none⟩) hblt).trans h0
      have k1 := (hB.cell (p := ⟨b, o + j * 2 + 1, none⟩) hblt).trans h1
      have k0' := (hB.cell (p := ⟨b', o' + j * 2, none⟩) hblt').trans h0'
      have k1' := (hB.cell (p := ⟨b', o' + j * 2 + 1, none⟩) hblt').trans h1'
      have CS : ∀ k, Calls Tryz.prog 16 #[.slice DA dm dc, .slice DA' dm' dc'] (wr.drewN k) fun e w' => e = .returned (.bool true) ∧ w' = wr.drewN k := fun k =>
        (Same_yes DA DA' dm dc dm' dc' yd _ ((hr.below (Nat.le_refl _) hB).drewN k) ((hr'.below (Nat.le_refl _) hB).drewN k)).mono fun _ _ ⟨he, hw⟩ => ⟨he, hw.symm⟩
      have CS := Lib.hid CS
      clear h0 h1 h0' h1' hy hu hu' hr hr'
      go_wp2_with fail
      go_quiet ((go_at_call 16; exact Calls.quiet_of_same (CS.out _)))
      go_wp2
      go_roundw
      case rel => exact ⟨j + 1, hjn, by go_num, below_drewN hB _⟩
      case measure => simp [intOf]; omega
    · go_wp2
      go_ret
      exact ⟨rfl, hB⟩

/-- What a step tells, as cells. -/
def tlc (DA : Option Addr) (dn dc : Nat) (PA : Option Addr) (pn pc : Nat) (x : Tl) : Array Value := #[.slice DA dn dc, .slice PA pn pc, .int .i64 x.id.1, .int .i64 x.id.2, .bool x.ok, .int .i64 x.err]
/-- They stand for x. -/
def TlS (K : Nat → Prop) (w : World) (DA : Option Addr) (dn dc : Nat) (PA : Option Addr) (pn : Nat) (x : Tl) : Prop := VB K w (.slice DA dn dc) x.data ∧ PartsV K w PA pn x.parts
theorem TlS.below {K : Nat → Prop} {w w' : World} {DA : Option Addr} {dn dc : Nat} {PA : Option Addr} {pn : Nat} {x : Tl} (h : TlS K w DA dn dc PA pn x) (hb : Below w.heap.size w w') : TlS K w' DA dn dc PA pn x := ⟨h.1.below hb, h.2.below hb⟩
theorem TlS.stays {K : Nat → Prop} {w w' : World} {DA : Option Addr} {dn dc : Nat} {PA : Option Addr} {pn : Nat} {x : Tl} (h : TlS K w DA dn dc PA pn x) (hs : WStays K w w') : TlS K w' DA dn dc PA pn x := ⟨h.1.stays hs, h.2.stays hs⟩
theorem TlS.mono {K K' : Nat → Prop} {w : World} {DA : Option Addr} {dn dc : Nat} {PA : Option Addr} {pn : Nat} {x : Tl} (h : TlS K w DA dn dc PA pn x) (hk : ∀ x, K x → K' x) : TlS K' w DA dn dc PA pn x := ⟨h.1.mono hk, h.2.mono hk⟩

end Go.Proofs.YtddiadpbkjdomaaGreatDoor
namespace Go.Proofs.YtddiadpbkjdomaaGreatDoor
open Go.RowKit

/-- The step that Go and add are handed, as it lies in memory. -/
structure Tst where
  d : Int
  i : Int
  g : Int
  pA : Option Addr
  pn : Nat
  pc : Nat
  ps : List Pt
  row : Int
  comp : Int
  bA : Option Addr
  bn : Nat
  bc : Nat
  b : List UInt8
def Tst.cs (x : Tst) : Array Value := #[.int .i64 x.d, .int .i64 x.i, .int .i64 x.g, .slice x.pA x.pn x.pc, .int .i64 x.row, .int .i64 x.comp, .slice x.bA x.bn x.bc]
def Tst.ts (x : Tst) : Ts := ⟨x.d, (x.i, x.g), x.ps, x.row, x.comp, x.b⟩
structure TOk (K : Nat → Prop) (w : World) (x : Tst) : Prop where
  p : PartsV K w x.pA x.pn x.ps
  b : VB K w (.slice x.bA x.bn x.bc) x.b
theorem TOk.below {K : Nat → Prop} {w w' : World} {x : Tst} (h : TOk K w x) (hb : Below w.heap.size w w') : TOk K w' x := ⟨h.p.below hb, h.b.below hb⟩

end Go.Proofs.YtddiadpbkjdomaaGreatDoor
namespace Go.Proofs.YtddiadpbkjdomaaGreatDoor
open Go.RowKit

section
variable {w : World} {B e r n c sz : Nat} {xs : List Value}
theorem own_setC (h : w.ownsRow B e sz (.slice (some ⟨r, 0, none⟩) n c) n xs) (j : Nat) (v : Value) : (w.setCell ⟨r, j, none⟩ v).ownsRow B e sz (.slice (some ⟨r, 0, none⟩) n c) n (xs.set j v) := by
  refine ⟨by rw [List.length_set]; exact h.1, ?_⟩
  rcases h.2 with ⟨h1, _⟩ | ⟨g, cap, cur, h1, hB, hh, hn, hc, hs, ht⟩
  · cases h1
  · injection h1 with h1 h2 h3
    injection h1 with h1
    injection h1 with h1
    subst h1 h3
    refine .inr ⟨r, c, cur.setIfInBounds j v, rfl, hB, heap_setCell_at hh v, hn, hc, by simpa using hs, ?_⟩
    rw [← ht]
    simp [List.take_set]
theorem own_cur (h : w.ownsRow B e sz (.slice (some ⟨r, 0, none⟩) n c) n xs) : ∃ cur, w.heap[r]? = some (.cells cur e (0, 0)) ∧ n ≤ c ∧ cur.size = c * sz := by
  rcases h.2 with ⟨h1, _⟩ | ⟨g, cap, cur, h1, hB, hh, hn, hc, hs, ht⟩
  · cases h1
  · injection h1 with h1 h2 h3
    injection h1 with h1
    injection h1 with h1
    subst h1 h3
    exact ⟨cur, hh, hn, hs⟩
theorem own_there (h : w.ownsRow B e sz (.slice (some ⟨r, 0, none⟩) n c) n xs) {o m : Nat} (hm : o + m ≤ n * sz) : w.there r o m := by
  obtain ⟨cur, hh, hn, hs⟩ := own_cur h
  have := Nat.mul_le_mul_right sz hn
  intro j hj
  refine ⟨?_, frozen_of_row w r _ _ _ hh⟩
  rw [cell_of_row _ _ (o + j) _ _ _ hh, Array.getElem?_eq_getElem (by omega)]
  rfl
/-- A shorter row. -/
theorem own_lessS {A : Option Addr} {m : Nat} (h : w.ownsRow B e sz (.slice A n c) n xs) (hm : m ≤ n) : w.ownsRow B e sz (.slice A m c) m (xs.take (m * sz)) := by
  obtain ⟨hl, hr⟩ := h
  have := Nat.mul_le_mul_right sz hm
  refine ⟨by rw [List.length_take]; omega, ?_⟩
  rcases hr with ⟨h1, h0⟩ | ⟨g', cap, cur', h1, hB, hh, hn, hc, hs, ht⟩
  · injection h1 with h1 h2 h3
    subst h1 h3
    exact .inl ⟨by rw [show m = 0 by omega], by omega⟩
  · injection h1 with h1 h2 h3
    subst h1 h3
    refine .inr ⟨g', c, cur', rfl, hB, hh, by omega, hc, hs, ?_⟩
    rw [← ht, List.take_take, Nat.min_eq_left this]
theorem Fr.setCells (own : Nat → Prop) (b : Nat) (hb : own b) : ∀ (vs : List Value) (o : Nat) (w : World), Fr own w (w.setCells b o vs)
  | [], _, w => Fr.refl _ w
  | v :: vs, o, w => (Fr.setCell w (p := ⟨b, o, none⟩) hb v).trans (Fr.setCells own b hb vs (o + 1) (w.setCell ⟨b, o, none⟩ v))
end
theorem set3_splice {vs : List Value} {p : Nat} (a b c : Value) (h : p + 3 ≤ vs.length) : ((vs.set p a).set (p + 1) b).set (p + 2) c = splice vs p [a, b, c] := by
  unfold splice
  apply List.ext_getElem
  · simp; omega
  intro j h1 h2
  rw [List.getElem_set, List.getElem_set, List.getElem_set]
  by_cases hj : j < p
  · rw [if_neg (by omega), if_neg (by omega), if_neg (by omega), List.getElem_append_left (by simp; omega), List.getElem_take]
  · rw [List.getElem_append_right (by simp; omega)]
    simp only [List.length_take]
    by_cases h0 : j = p
    · subst h0
      rw [if_neg (by omega), if_neg (by omega), if_pos rfl, List.getElem_append_left (by simp; omega)]
      have : j - min j vs.length = 0 := by omega
      simp [this]
    by_cases h1' : j = p + 1
    · subst h1'
      rw [if_neg (by omega), if_pos rfl, List.getElem_append_left (by simp; omega)]
      have : p + 1 - min p vs.length = 1 := by omega
      simp [this]
    by_cases h2' : j = p + 2
    · subst h2'
      rw [if_pos rfl, List.getElem_append_left (by simp; omega)]
      have : p + 2 - min p vs.length = 2 := by omega
      simp [this]
    · rw [if_neg (by omega), if_neg (by omega), if_neg (by omega), List.getElem_append_right (by simp; omega), List.getElem_drop]
      congr 1
      simp
      omega
/-- An element that is put at its own place, or at another's, reads as it did where it stood. -/
theorem splice3_at {vs : List Value} {p q : Nat} {l : List Value} (hl : l.length = 3) (hpq : p = q ∨ p + 3 ≤ q ∨ q + 3 ≤ p) (h : ∀ r, r < 3 → vs[q + r]? = l[r]?) {r : Nat} (hr : r < 3) (hp : p + 3 ≤ vs.length) (hq : q + 3 ≤ vs.length) : (splice vs p l)[q + r]? = l[r]? := by
  unfold splice
  rcases hpq with e | e | e
  · subst e
    rw [List.getElem?_append_right (by simp; omega), List.getElem?_append_left (by simp; omega)]
    congr 1
    simp
    omega
  · rw [List.getElem?_append_right (by simp; omega), List.getElem?_append_right (by simp; omega), List.getElem?_drop, ← h r hr]
    congr 1
    simp
    omega
  · rw [List.getElem?_append_left (by simp; omega), List.getElem?_take, if_pos (by omega)]
    exact h r hr
theorem splice_at {vs : List Value} {p : Nat} {l : List Value} {r : Nat} (hp : p + l.length ≤ vs.length) (hr : r < l.length) : (splice vs p l)[p + r]? = l[r]? := by
  unfold splice
  rw [List.getElem?_append_right (by simp; omega), List.getElem?_append_left (by simp; omega)]
  congr 1
  simp
  omega
theorem res_cTT {P : Program} {w : World} {fn : Func} {p u v : Tmp} {T : TypeId} {tmps : Array Value} {ad : Addr} {x : Value} (h : fn.results = #[.cell p T, .tmp u, .tmp v]) (hp : tmps.getD p undef = .pointer (some ad)) (hl : (loadVar T ad).run P w = .ok x w) :
    (results fn tmps).run P w = .ok (.tuple #[x, tmps.getD u undef, tmps.getD v undef]) w := by
  rw [Array.getD_eq_getD_getElem?] at hp
  simp only [results, h]
  simp [Result.andThen, hp, asAddr, hl]
section
variable {P : Program} {ops : Array Oper} {o : Oper} {a : Act} {w : World} {J : Act → World → Prop} {Q : Exit → Act → World → Prop} {E : Prop}
/-- The store of a struct in the midst of a block, as a step of a region that draws its order. -/
theorem step_stMid (ty : TypeId) (hgd : o.guard = none) (x y : Operand) (ho : o.op = .store ty x y) (b p : Nat) (cells : Array Value) (hx : a.eval x = .pointer (some ⟨b, p, none⟩)) (hy : a.eval y = .agg cells)
    (ht : w.there b p cells.size) (hi : (P.info? ty).map (·.size) = some cells.size) (h1 : cells.all (·.oneCell') = true) (h : J (a.put o.dst undef) (w.setCells b p cells.toList)) :
    if Region.wanted o (yielded ops a.tmps) = true then Oper.wp P o a w J Q else E := by
  have hw : Region.wanted o (yielded ops a.tmps) = true := by simp [Region.wanted, hgd]
  rw [if_pos hw]
  exact wp_store_mid ty x y ho b p cells hx hy ht hi h1 h
end
end Go.Proofs.YtddiadpbkjdomaaGreatDoor
namespace Go.Proofs.YtddiadpbkjdomaaGreatDoor
open Go.RowKit
set_option maxRecDepth 20000

theorem idTT : RT Tryz.prog 39 2 := ⟨⟨_, Tryz.underlying39, rfl⟩, by kernel_rfl⟩
theorem idc_set (l : List (Int × Int)) {k : Nat} (hk : k < l.length) (x : Int × Int) : ((idc l).set (k * 2) (.int .i64 x.1)).set (k * 2 + 1) (.int .i64 x.2) = idc (l.set k x) := by
  have h1 : ∀ r ∈ l.map (fun x : Int × Int => [Value.int .i64 x.1, .int .i64 x.2]), r.length = 2 := fun r hr => by obtain ⟨x, _, rfl⟩ := List.mem_map.1 hr; rfl
  have hg : (l.map (fun x : Int × Int => [Value.int .i64 x.1, .int .i64 x.2]))[k]? = some [Value.int .i64 l[k].1, .int .i64 l[k].2] := by rw [List.getElem?_map, List.getElem?_eq_getElem hk]; rfl
  unfold idc
  have e1 := flatg_set h1 hg (i := 0) (by decide) (.int .i64 x.1)
  rw [Nat.add_zero] at e1
  rw [e1]
  have h2 : ∀ r ∈ (l.map (fun x : Int × Int => [Value.int .i64 x.1, .int .i64 x.2])).set k ([Value.int .i64 l[k].1, .int .i64 l[k].2].set 0 (.int .i64 x.1)), r.length = 2 := fun r hr => by
    rcases List.mem_or_eq_of_mem_set hr with h | h
    · exact h1 r h
    · rw [h]; rfl
  have hg2 : ((l.map (fun x : Int × Int => [Value.int .i64 x.1, .int .i64 x.2])).set k ([Value.int .i64 l[k].1, .int .i64 l[k].2].set 0 (.int .i64 x.1)))[k]? = some ([Value.int .i64 l[k].1, .int .i64 l[k].2].set 0 (.int .i64 x.1)) := List.getElem?_set_self (by simpa using hk)
  rw [flatg_set h2 hg2 (i := 1) (by decide), List.set_set, List.map_set]
  rfl
theorem idc_take (l : List (Int × Int)) (k : Nat) : (idc l).take (k * 2) = idc (l.take k) := by
  unfold idc
  rw [flatg_take (fun r hr => by obtain ⟨x, _, rfl⟩ := List.mem_map.1 hr; rfl), List.map_take]

theorem TGo.more {own' : Nat → Prop} {w w1 w2 : World} {tag tag1 : Nat → Nat} (h : TGo w tag w1 tag1) (k : Fr own' w1 w2) (ho : ∀ x, own' x → tag1 x ≠ 0 ∨ w.heap.size ≤ x) : TGo w tag w2 tag1 :=
  ⟨h.fr.trans' k (fun x hx => by
    rcases ho x hx with h1 | h1
    · exact h.own x h1
    · exact .inr h1), h.own⟩
section
variable {w : World} {N : Nat} {tag : Nat → Nat} {p m : Nat} {v : Value} {q : Nat → Nat} {sg : Nat} {cs : List (Int × Nat)} {l : List (Int × Int)} {co : Nat → Co}
theorem TDrop_nil (i : Int) (w : World) : Calls Tryz.prog 144 #[.pointer none, .int .i64 i] w fun e w' => e = .returned (.tuple #[.agg #[.int .i64 0, .int .i64 0], .bool false, .int .i64 4]) ∧ Below w.heap.size w w' := by
  obtain ⟨w1, hw1⟩ : ∃ w1, w1 = w.alloc (.cells #[.int .i64 0, .int .i64 0] 39) := ⟨_, rfl⟩
  have hb1 : Below w.heap.size w w1 := by rw [hw1]; exact (Below.refl _ _).alloc (Nat.le_refl _) _
  have HR1 := Lib.hid (show Rec 39 w1 w.heap.size #[.int .i64 0, .int .i64 0] by rw [hw1]; exact Rec.new _ _ _)
  go_enter Tryz.func144, Tryz.ntmps144
  go_wp2_with (first
    | (rw [← hw1]; clear hw1)
    | (go_at_call 106; refine (tcheck_nil i w1).mono ?_; rintro e w' ⟨rfl, rfl⟩)
    | (with_reducible refine wpList_stS (cs' := #[.int .i64 0, .int .i64 0]) idTT rfl rfl (by simp [Value.oneCell']) rfl (.tmp 4) (.tmp 16) rfl rfl rfl HR1.out ?_; intro w2 hR2 hF2))
  refine bodyPost_ret (res_cTT rfl rfl (hR2.load idTT rfl)) rfl ?_
  exact ⟨rfl, hb1.trans (hF2.toBelow (fun x hx => Nat.le_of_eq (show x = _ from hx).symm) hb1.size)⟩
theorem TDrop_no (h : TbI w N tag p m v q sg cs l co) (i : Int) (hi : ¬ (0 ≤ i ∧ i < l.length)) : Calls Tryz.prog 144 #[.pointer (some ⟨p, 0, none⟩), .int .i64 i] w fun e w' => e = .returned (.tuple #[.agg #[.int .i64 0, .int .i64 0], .bool false, .int .i64 2]) ∧ Below w.heap.size w w' := by
  obtain ⟨w1, hw1⟩ : ∃ w1, w1 = w.alloc (.cells #[.int .i64 0, .int .i64 0] 39) := ⟨_, rfl⟩
  have hb1 : Below w.heap.size w w1 := by rw [hw1]; exact (Below.refl _ _).alloc (Nat.le_refl _) _
  have HR1 := Lib.hid (show Rec 39 w1 w.heap.size #[.int .i64 0, .int .i64 0] by rw [hw1]; exact Rec.new _ _ _)
  have CF := Lib.hid (tcheck_no (h.below hb1) i hi)
  clear h hi
  go_enter Tryz.func144, Tryz.ntmps144
  go_wp2_with (first
    | (rw [← hw1]; clear hw1)
    | (go_at_call 106; refine CF.out.mono ?_; rintro e w' ⟨rfl, rfl⟩)
    | (with_reducible refine wpList_stS (cs' := #[.int .i64 0, .int .i64 0]) idTT rfl rfl (by simp [Value.oneCell']) rfl (.tmp 4) (.tmp 16) rfl rfl rfl HR1.out ?_; intro w2 hR2 hF2))
  refine bodyPost_ret (res_cTT rfl rfl (hR2.load idTT rfl)) rfl ?_
  exact ⟨rfl, hb1.trans (hF2.toBelow (fun x hx => Nat.le_of_eq (show x = _ from hx).symm) hb1.size)⟩

set_option maxHeartbeats 1000000 in
theorem TDrop_ok (h : TbI w N tag p m v q sg cs l co) (hz : listZ sg = cs.map (·.1)) (hg : sg < 18446744073709551616) (hT : TabAt w) (hcn : cs.length ≤ 64) (hrw : ∀ j, j < cs.length → (co j).rows.length = l.length) (i : Nat) (hi : i < l.length) (hll : l.length ≤ 1024) :
    Calls Tryz.prog 144 #[.pointer (some ⟨p, 0, none⟩), .int .i64 i] w fun e w' =>
      e = .returned (if i = l.length - 1 then .tuple #[.agg #[.int .i64 0, .int .i64 0], .bool false, .int .i64 0] else .tuple #[.agg #[.int .i64 (l.getD (l.length - 1) (0, 0)).1, .int .i64 (l.getD (l.length - 1) (0, 0)).2], .bool true, .int .i64 0]) ∧
      ∃ tag' v', TbI w' N tag' p m v' q sg cs ((l.set i (l.getD (l.length - 1) (0, 0))).take (l.length - 1)) (fun a => (co a).drop i) ∧ TGo w tag w' tag' := by
  obtain ⟨last, hlast⟩ : ∃ last, last = l.length - 1 := ⟨_, rfl⟩
  obtain ⟨mi, mg, hmv⟩ : ∃ mi mg, l.getD (l.length - 1) (0, 0) = (mi, mg) := ⟨_, _, rfl⟩
  have hge : l[last]? = some (mi, mg) := by rw [hlast, List.getElem?_eq_getElem (by omega), ← hmv]; simp [List.getD, List.getElem?_eq_getElem (show l.length - 1 < l.length by omega)]
  rw [hmv, ← hlast]
  have HGE := Lib.hid hge
  have HLA := Lib.hid hlast
  clear hge hmv hlast
  obtain ⟨w1, hw1⟩ : ∃ w1, w1 = w.alloc (.cells #[.int .i64 0, .int .i64 0] 39) := ⟨_, rfl⟩
  have hb1 : Below w.heap.size w w1 := by rw [hw1]; exact (Below.refl _ _).alloc (Nat.le_refl _) _
  have HR1 := Lib.hid (show Rec 39 w1 w.heap.size #[.int .i64 0, .int .i64 0] by rw [hw1]; exact Rec.new _ _ _)
  have h1 := h.below hb1
  have CF := Lib.hid (tcheck_ok h1 (i : Int) ⟨by omega, by omega⟩)
  have c0 := h1.c0
  obtain ⟨nc, hnc⟩ : ∃ nc, nc = cs.length := ⟨_, rfl⟩
  have HNC := Lib.hid hnc
  have CLT := Lib.hid (tlist_any hz hg (hT.below hb1))
  have H1 := Lib.hid h1
  have HB1 := Lib.hid hb1
  have HDm := Lib.hid h.dom
  clear h h1 hT hb1 hnc
  go_enter Tryz.func144, Tryz.ntmps144
  go_wp2_with (first
    | (rw [← hw1]; clear hw1)
    | (go_at_call 106; refine CF.out.mono ?_; rintro e w' ⟨rfl, rfl⟩)
    | (go_at_call 107; refine CLT.out.mono ?_; rintro e w2 ⟨LA, lc, rfl, hI, hb2⟩; rw [← HNC.out] at hI ⊢; have HI := Lib.hid hI; have HB2 := Lib.hid hb2; clear hI hb2 c0))
  have H2 := Lib.hid (H1.out.below HB2.out)
  have HR2 := Lib.hid (HR1.out.under HB2.out)
  have HI2 := Lib.hid (HI.out.mono (K' := fun x => tag x = 0 ∧ x < w2.heap.size) (fun x hx => by
    rcases Nat.eq_zero_or_pos (tag x) with h0 | h0
    · exact ⟨h0, hx.2⟩
    · have := HDm.out x (by omega); have := HB1.out.size; omega))
  have htag : tag w.heap.size = 0 := by
    rcases Nat.eq_zero_or_pos (tag w.heap.size) with h0 | h0
    · exact h0
    · have := HDm.out _ (show tag w.heap.size ≠ 0 by omega); omega
  have HB0 := Lib.hid (HB1.out.trans (HB2.out.mono HB1.out.size))
  have hlt2 := HR2.out.lt
  clear H1 HR1 HI CF CLT HB1 HB2
  go_loopw [24] (fun iv wr => ∃ (j : Nat) (tag' : Nat → Nat), j ≤ nc ∧ iv = .int .i64 j ∧ TbI wr N tag' p m v q sg cs l (fun a => if a < j then (co a).drop i else co a) ∧ TGo w2 tag wr tag') (fun iv _ => nc - (intOf iv).toNat)
  case atStart => exact ⟨0, tag, Nat.zero_le _, rfl, H2.out.congr (fun a _ => by rw [if_neg (Nat.not_lt_zero a)]), TGo.refl _ _⟩
  case round =>
    obtain ⟨j, tag', hj, rfl, hI, hG⟩ := hrel
    have st : WStays (fun x => tag x = 0 ∧ x < w2.heap.size) w2 wr := ⟨hG.fr.size, fun x hx => hG.fr.block x hx.2 (fun h2 => h2 hx.1)⟩
    by_cases hjn : j < nc
    · have hjc : j < cs.length := by rw [← HNC.out]; exact hjn
      obtain ⟨b, o, hLA, hblt, kk⟩ := (HI2.out.stays st).cell (get_fst hjc)
      subst hLA
      have c2 := hI.c2
      have LK := hI.look hjc
      obtain ⟨cu, hcu⟩ := hI.col j hjc
      simp only [if_neg (Nat.lt_irrefl j)] at hcu
      have CD := Lib.hid (Drop_ok (hI.cdom j) hcu i (by rw [hrw j hjc]; exact hi))
      obtain ⟨k, hkk⟩ : ∃ k, k = (cs.getD j (0, 0)).1 := ⟨_, rfl⟩
      rw [← hkk] at kk LK
      have HIr := Lib.hid hI
      have HG := Lib.hid hG
      clear hI hG st hcu hkk
      go_wp2_with (go_at_call 174; refine CD.out.mono ?_; rintro e w5 ⟨rfl, hg5⟩; obtain ⟨tag5, hI5, hG5⟩ := HIr.out.turn hjc hg5; have HI5 := Lib.hid hI5; have HG5 := Lib.hid (HG.out.trans hG5); clear hg5 hI5 hG5)
      go_roundw
      case rel =>
        refine ⟨j + 1, _, hjn, by go_num, HI5.out.congr (fun a _ => ?_), HG5.out⟩
        by_cases ha : a = j
        · subst ha
          rw [if_pos rfl, if_pos (Nat.lt_succ_self _)]
        · rw [if_neg ha]
          by_cases h2 : a < j
          · rw [if_pos h2, if_pos (by omega)]
          · rw [if_neg h2, if_neg (by omega)]
      case measure => simp [intOf]; omega
    · obtain rfl : j = nc := by omega
      have hI' := hI.congr (co' := fun a => (co a).drop i) (fun a ha => by rw [if_pos (by rw [HNC.out]; exact ha)])
      have HRr := Lib.hid (HR2.out.fr hG.fr (fun e => e htag))
      have HTB := Lib.hid (show tag' w.heap.size = 0 by
        rcases Nat.eq_zero_or_pos (tag' w.heap.size) with h0 | h0
        · exact h0
        · rcases hG.own _ (show tag' w.heap.size ≠ 0 by omega) with h1 | h1
          · exact absurd htag h1
          · omega)
      have hids := hI'.ids
      rcases hids.2 with ⟨_, h0⟩ | ⟨ib, ic, cur, hv, _, hh, hnc, hc, hs, _⟩
      · omega
      subst hv
      have c1 := hI'.c1
      obtain ⟨A', c', e', _, _, hIV⟩ := own_rowsL hids (idc_el l) rfl
      injection e' with e1 e2 e3
      subst e1
      clear e2 e3
      obtain ⟨b', o', e', hblt, m0, m1⟩ := IdsV.cell hIV HGE.out
      injection e' with e'
      injection e' with e1 e2
      subst e1 e2
      simp only [Nat.zero_add] at m0 m1
      obtain ⟨n, hn⟩ : ∃ n, n = l.length := ⟨_, rfl⟩
      have hlast := HLA.out
      rw [← hn] at c1 hi hll hnc hlast
      have el : (n : Int) - 1 = (last : Int) := by omega
      have hlt : (last : Int) < (n : Int) := by omega
      have hle : (0 : Int) ≤ (last : Int) := by omega
      have HI' := Lib.hid hI'
      have HG := Lib.hid hG
      have HN := Lib.hid hn
      have HIC := Lib.hid hnc
      have HHH := Lib.hid hh
      clear hI hI' hG st hids hIV hh hs hn hlast hnc
      go_wp2_with (first
        | (with_reducible refine wpList_stS (cs' := #[.int .i64 mi, .int .i64 mg]) idTT rfl rfl (by simp [Value.oneCell']) rfl (.tmp 4) (.tmp 49) rfl rfl rfl HRr.out ?_; intro w6 hR6 hF6; have HR6 := Lib.hid hR6; have HF6 := Lib.hid hF6; clear hR6 hF6))
      have hld : Below w6.heap.size w6 w6.drew := (Below.refl _ _).drew
      have i6 := (HI'.out.kept HF6.out (fun x hx e => by have e' : x = w.heap.size := e; rw [e', HTB.out] at hx; exact hx rfl)).below hld
      have r6 : Rec 39 w6.drew w.heap.size #[.int .i64 mi, .int .i64 mg] := HR6.out.under hld
      have g6 := (((TGo.ofBelow HB0.out).trans HG.out).more HF6.out (fun x hx => .inr (Nat.le_of_eq (show x = w.heap.size from hx).symm))).trans (TGo.ofBelow hld)
      have c1' := i6.c1
      have s6 : w6.drew.cell? ⟨p, 1, none⟩ = some (.slice (some ⟨ib, 0, none⟩) n ic) ∧ w6.drew.cell? ⟨w.heap.size, 0, none⟩ = some (.int .i64 mi) ∧ w6.drew.cell? ⟨w.heap.size, 1, none⟩ = some (.int .i64 mg) := ⟨by rw [c1', HN.out], r6.at_ 0, r6.at_ 1⟩
      have hi0 : (0 : Int) ≤ (i : Int) := by omega
      have hin : (i : Int) < (n : Int) := by omega
      have ids6 := i6.ids
      rw [← HN.out] at ids6
      obtain ⟨w7, hw7⟩ : ∃ w7, w7 = w6.drew.setCells ib (i * 2) [.int .i64 mi, .int .i64 mg] := ⟨_, rfl⟩
      have ids7 : w7.ownsRow 0 39 2 (.slice (some ⟨ib, 0, none⟩) n ic) n (idc (l.set i (mi, mg))) := by
        rw [hw7, ← idc_set l (by rw [← HN.out]; exact hi) (mi, mg)]
        exact own_setC (own_setC ids6 (i * 2) (.int .i64 mi)) (i * 2 + 1) (.int .i64 mg)
      have ht6 : w6.drew.there ib (i * 2) 2 := own_there ids6 (by omega)
      have f7 : Fr (fun x => (Value.slice (some ⟨ib, 0, none⟩) l.length ic).ownBlock = some x) w6.drew w7 := by rw [hw7]; exact Fr.setCells (fun x => (Value.slice (some ⟨ib, 0, none⟩) l.length ic).ownBlock = some x) ib rfl _ _ _
      have hb3 := i6.ti ib rfl
      have r7 : Rec 39 w7 w.heap.size #[.int .i64 mi, .int .i64 mg] := r6.fr f7 (fun e => by injection e with e; have e' : ib = w.heap.size := e; rw [e', HTB.out] at hb3; omega)
      have ids8 := own_lessS ids7 (m := last) (by omega)
      rw [idc_take] at ids8
      have hll8 : ((l.set i (mi, mg)).take last).length = last := by rw [List.length_take, List.length_set, ← HN.out]; omega
      obtain ⟨hR7, tag8, i8, g8⟩ := i6.newids (v' := .slice (some ⟨ib, 0, none⟩) last ic) (l' := (l.set i (mi, mg)).take last) f7 (by rw [hll8]; exact ids8) (fun x hx => .inl hx)
      have s7 : w7.cell? ⟨p, 1, none⟩ = some (.slice (some ⟨ib, 0, none⟩) n ic) ∧ w7.cell? ⟨w.heap.size, 0, none⟩ = some (.int .i64 mi) ∧ w7.cell? ⟨w.heap.size, 1, none⟩ = some (.int .i64 mg) := ⟨by have := hR7.at_ 1; rw [HN.out]; exact this, r7.at_ 0, r7.at_ 1⟩
      have k7 := s7.1
      have z7 := hR7.fz 1
      obtain ⟨w8, hw8⟩ : ∃ w8, w8 = w7.setCell ⟨p, 1, none⟩ (.slice (some ⟨ib, 0, none⟩) last ic) := ⟨_, rfl⟩
      rw [← hw8] at i8 g8
      have htp := i6.tp
      have r8 : Rec 39 w8 w.heap.size #[.int .i64 mi, .int .i64 mg] := by
        rw [hw8]
        exact r7.fr (Fr.setCell (own := (· = p)) w7 (p := ⟨p, 1, none⟩) rfl _) (fun e => by have e' : w.heap.size = p := e; rw [← e', HTB.out] at htp; omega)
      have ht8 : tag8 w.heap.size = 0 := by
        rcases Nat.eq_zero_or_pos (tag8 w.heap.size) with h0 | h0
        · exact h0
        · rcases g8.own _ (show tag8 w.heap.size ≠ 0 by omega) with h1 | h1
          · exact absurd HTB.out h1
          · have := r6.lt; omega
      have I8 := Lib.hid i8
      have G8 := Lib.hid (g6.trans g8)
      have R8 := Lib.hid r8
      have END : ∀ w9, Fr (· = w.heap.size) w8 w9 → ∃ tag' v', TbI w9 N tag' p m v' q sg cs ((l.set i (mi, mg)).take last) (fun a => (co a).drop i) ∧ TGo w tag w9 tag' := fun w9 hF =>
        ⟨tag8, _, I8.out.kept hF (fun x hx e => by have e' : x = w.heap.size := e; rw [e', ht8] at hx; exact hx rfl), G8.out.more hF (fun x hx => .inr (Nat.le_of_eq (show x = w.heap.size from hx).symm))⟩
      have END := Lib.hid END
      have HT6 := Lib.hid ht6
      have S6 := Lib.hid s6
      have S7 := Lib.hid s7
      have HW7 := Lib.hid hw7
      have HW8 := Lib.hid hw8
      have hl8 : (last : Int) ≤ (ic : Int) := by have := HIC.out; omega
      have hn8 : (n : Int) ≤ (ic : Int) := by have := HIC.out; omega
      clear hld i6 r6 g6 c1' ids6 ids7 ht6 f7 hb3 r7 ids8 hll8 hR7 i8 g8 htp r8 ht8 s7 hw7 hw8 c1 m0 m1
-- REGION11
      refine wp_region_noPanic ?_
      refine wp_region_held_drew (S := fun W => W.cell? ⟨p, 1, none⟩ = some (.slice (some ⟨ib, 0, none⟩) n ic) ∧ W.cell? ⟨w.heap.size, 0, none⟩ = some (.int .i64 mi) ∧ W.cell? ⟨w.heap.size, 1, none⟩ = some (.int .i64 mg)) (by kernel_rfl) s6 (fun hHeld => ?_)
      refine wpAnyH_take (i := 0) (oi := { dst := some 50, op := Op.move (Operand.tmp 0), type := 108, pos := "table.go:131", after := #[], guard := none }) (v := ?_) rfl (by kernel_rfl) (by kernel_rfl) (by kernel_rfl) (fun _ _ _ h => h) (Or.inl ⟨by rfl, ?_⟩) (by assumption) ?_
      rotate_left 1
      · intro w' hSw; (try dsimp only at hSw); go_simp; (try with_reducible rfl)
      simp only [Act.put, List.setIfInBounds_toArray, List.set_cons_zero, List.set_cons_succ]
      refine wpAnyH_take (i := 1) (oi := { dst := some 51, op := Op.nilCheck (Operand.tmp 50), type := 0, pos := "table.go:131", after := #[{ on := 0, ground := Ground.data }], guard := none }) (v := ?_) rfl (by kernel_rfl) (by kernel_rfl) (by kernel_rfl) (fun _ _ _ h => h) (Or.inl ⟨by rfl, ?_⟩) (by assumption) ?_
      rotate_left 1
      · intro w' hSw; (try dsimp only at hSw); go_simp; (try with_reducible rfl)
      simp only [Act.put, List.setIfInBounds_toArray, List.set_cons_zero, List.set_cons_succ]
      refine wpAnyH_take (i := 2) (oi := { dst := some 52, op := Op.fieldAddr 185 (Operand.tmp 51) 1, type := 0, pos := "table.go:131", after := #[{ on := 1, ground := Ground.data }], guard := none }) (v := ?_) rfl (by kernel_rfl) (by kernel_rfl) (by kernel_rfl) (fun _ _ _ h => h) (Or.inl ⟨by rfl, ?_⟩) (by assumption) ?_
      rotate_left 1
      · intro w' hSw; (try dsimp only at hSw); go_simp; (try with_reducible rfl)
      simp only [Act.put, List.setIfInBounds_toArray, List.set_cons_zero, List.set_cons_succ]
      refine wpAnyH_take (i := 3) (oi := { dst := some 53, op := Op.load 52 (Operand.tmp 52), type := 52, pos := "table.go:131", after := #[{ on := 2, ground := Ground.data }], guard := none }) (v := ?_) rfl (by kernel_rfl) (by kernel_rfl) (by kernel_rfl) (fun _ _ _ h => h) (Or.inl ⟨by rfl, ?_⟩) (by assumption) ?_
      rotate_left 1
      · intro w' hSw; (try dsimp only at hSw); go_simp; (try with_reducible rfl)
      simp only [Act.put, List.setIfInBounds_toArray, List.set_cons_zero, List.set_cons_succ]
      refine wpAnyH_take (i := 4) (oi := { dst := some 54, op := Op.move (Operand.tmp 1), type := 3, pos := "table.go:131", after := #[], guard := none }) (v := ?_) rfl (by kernel_rfl) (by kernel_rfl) (by kernel_rfl) (fun _ _ _ h => h) (Or.inl ⟨by rfl, ?_⟩) (by assumption) ?_
      rotate_left 1
      · intro w' hSw; (try dsimp only at hSw); go_simp; (try with_reducible rfl)
      simp only [Act.put, List.setIfInBounds_toArray, List.set_cons_zero, List.set_cons_succ]
      refine wpAnyH_take (i := 5) (oi := { dst := some 55, op := Op.load 39 (Operand.tmp 4), type := 39, pos := "table.go:131", after := #[], guard := none }) (v := ?_) rfl (by kernel_rfl) (by kernel_rfl) (by kernel_rfl) (fun _ _ _ h => h) (Or.inl ⟨by rfl, ?_⟩) (by assumption) ?_
      rotate_left 1
      · intro w' hSw; (try dsimp only at hSw); go_simp; (try with_reducible rfl)
      simp only [Act.put, List.setIfInBounds_toArray, List.set_cons_zero, List.set_cons_succ]
      refine wpAnyH_take (i := 6) (oi := { dst := some 56, op := Op.indexAddr 52 (Operand.tmp 53) (Operand.tmp 54), type := 0, pos := "table.go:131", after := #[{ on := 3, ground := Ground.data }, { on := 4, ground := Ground.data }, { on := 0, ground := Ground.phase }, { on := 1, ground := Ground.phase }, { on := 2, ground := Ground.phase }, { on := 3, ground := Ground.phase }, { on := 4, ground := Ground.phase }, { on := 5, ground := Ground.phase }], guard := none }) (v := ?_) rfl (by kernel_rfl) (by kernel_rfl) (by kernel_rfl) (fun _ _ _ h => h) (Or.inl ⟨by rfl, ?_⟩) (by assumption) ?_
      rotate_left 1
      · intro w' hSw; (try dsimp only at hSw); go_simp; (try with_reducible rfl)
      simp only [Act.put, List.setIfInBounds_toArray, List.set_cons_zero, List.set_cons_succ]
      refine wpAnyH_ready (rs := [7]) (by kernel_rfl) (by simp) ?_
      refine AllReadyH.cons (o := { dst := none, op := Op.store 39 (Operand.tmp 56) (Operand.tmp 55), type := 0, pos := "table.go:131", after := #[{ on := 6, ground := Ground.data }, { on := 5, ground := Ground.data }, { on := 0, ground := Ground.phase }, { on := 1, ground := Ground.phase }, { on := 2, ground := Ground.phase }, { on := 3, ground := Ground.phase }, { on := 4, ground := Ground.phase }, { on := 5, ground := Ground.phase }], guard := none }) rfl (fun K' hK => ?_) AllReadyH.nil
      refine step_stMid 39 rfl (.tmp 56) (.tmp 55) rfl ib (i * 2) #[.int .i64 mi, .int .i64 mg] rfl rfl HT6.out (by kernel_rfl) (by simp [Value.oneCell']) ?_
      rw [show w6.drew.setCells ib (i * 2) (#[Value.int .i64 mi, Value.int .i64 mg] : Array Value).toList = w7 from HW7.out.symm]
      refine hK.out _ _ S7.out (fun hHeld => ?_)
      clear hK K'
      try simp only [Act.put]
      refine wpAnyH_done (by kernel_rfl) ?_ _
      refine NoPanic.normal ?_
      clear s6 hHeld
      by_cases hil : i = last
      · subst hil
        go_wp2_with (first
          | (rw [← HW8.out]; clear k7 z7)
          | (with_reducible refine wpList_stS (cs' := #[.int .i64 0, .int .i64 0]) idTT rfl rfl (by simp [Value.oneCell']) rfl (.tmp 4) (.tmp 69) rfl rfl rfl R8.out ?_; intro w9 hR9 hF9))
        refine bodyPost_ret (res_cTT rfl rfl (hR9.load idTT rfl)) rfl ?_
        obtain ⟨t9, v9, h9, g9⟩ := END.out w9 hF9
        exact ⟨rfl, t9, ⟨v9, h9⟩, g9⟩
      · have d1 : decide ((i : Int) = (last : Int)) = false := decide_eq_false (by omega)
        have d2 : decide (i = last) = false := decide_eq_false hil
        go_wp2_with (first
          | (rw [← HW8.out]; clear k7 z7)
          | (with_reducible refine wpList_ldS idTT rfl rfl (.tmp 4) rfl rfl R8.out ?_)
          | (with_reducible refine wpList_stS (cs' := #[.int .i64 mi, .int .i64 mg]) idTT rfl rfl (by simp [Value.oneCell']) rfl (.tmp 4) (.tmp 70) rfl rfl rfl R8.out ?_; intro w9 hR9 hF9))
        refine bodyPost_ret (res_cTT rfl rfl (hR9.load idTT rfl)) rfl ?_
        obtain ⟨t9, v9, h9, g9⟩ := END.out w9 hF9
        exact ⟨rfl, t9, ⟨v9, h9⟩, g9⟩
-- END11
end
end Go.Proofs.YtddiadpbkjdomaaGreatDoor
namespace Go.Proofs.YtddiadpbkjdomaaGreatDoor
open Go.RowKit

/-- Byte i of n. -/
def byteOf (n : Int) (i : Nat) : UInt8 := UInt8.ofNat ((n / 2 ^ (8 * i)) % 256).toNat
/-- The lowest k bytes of n, the lowest first. -/
def numB (k : Nat) (n : Int) : List UInt8 := (List.range k).map (byteOf n)

@[simp] theorem numB_length (k : Nat) (n : Int) : (numB k n).length = k := by simp [numB]
theorem numB_zero (n : Int) : numB 0 n = [] := rfl
theorem numB_succ (k : Nat) (n : Int) : numB (k + 1) n = numB k n ++ [byteOf n k] := by simp [numB, List.range_succ]
theorem byteOf_toNat (n : Int) (i : Nat) : ((byteOf n i).toNat : Int) = (n / 2 ^ (8 * i)) % 256 := by
  have h1 : 0 ≤ (n / 2 ^ (8 * i)) % 256 := Int.emod_nonneg _ (by decide)
  have h2 : (n / 2 ^ (8 * i)) % 256 < 256 := Int.emod_lt_of_pos _ (by decide)
  unfold byteOf
  rw [UInt8.toNat_ofNat']
  omega

/-- A width that may be. -/
def wd (width : Int) : Nat := (min (max width 1) 8).toNat
theorem wd_cast (width : Int) : ((wd width : Nat) : Int) = min (max width 1) 8 := by unfold wd; omega
theorem wd_bd (width : Int) : 1 ≤ wd width ∧ wd width ≤ 8 := by unfold wd; omega

/-- What is left of n behind its j lowest bytes, as a number of 64 bits. -/
def rest64 (n : Int) (j : Nat) : Int := (n % 18446744073709551616) / 2 ^ (8 * j)
theorem rest64_zero (n : Int) : rest64 n 0 = n % 18446744073709551616 := by simp [rest64]
theorem rest64_succ (n : Int) (j : Nat) : rest64 n (j + 1) = rest64 n j / 256 := by
  unfold rest64
  rw [show 8 * (j + 1) = 8 * j + 8 from by omega, Int.pow_add, Int.ediv_ediv_of_nonneg (Int.le_of_lt (Int.pow_pos (by decide)))]
  rfl
theorem rest64_bd (n : Int) (j : Nat) : 0 ≤ rest64 n j ∧ rest64 n j ≤ 18446744073709551615 := by
  have h1 : 0 ≤ n % 18446744073709551616 := Int.emod_nonneg _ (by decide)
  have h2 : n % 18446744073709551616 < 18446744073709551616 := Int.emod_lt_of_pos _ (by decide)
  unfold rest64
  refine ⟨Int.ediv_nonneg h1 (Int.le_of_lt (Int.pow_pos (by decide))), ?_⟩
  have := Int.ediv_le_self (2 ^ (8 * j)) h1
  omega
theorem pow_split (j : Nat) (hj : j < 8) : (18446744073709551616 : Int) = 2 ^ (8 * j) * (256 * 2 ^ (8 * (7 - j))) := by
  rw [show (256 : Int) = 2 ^ 8 from rfl, ← Int.pow_add, ← Int.pow_add, show 8 * j + (8 + 8 * (7 - j)) = 64 from by omega]
  rfl
theorem rest64_byte (n : Int) (j : Nat) (hj : j < 8) : rest64 n j % 256 = ((byteOf n j).toNat : Int) := by
  rw [byteOf_toNat, rest64]
  have e := pow_split j hj
  have h0 : (2 : Int) ^ (8 * j) ≠ 0 := Int.ne_of_gt (Int.pow_pos (by decide))
  have hn := Int.mul_ediv_add_emod n 18446744073709551616
  have h1 : n = (n % 18446744073709551616) + 2 ^ (8 * j) * (256 * (2 ^ (8 * (7 - j)) * (n / 18446744073709551616))) := by
    have : (18446744073709551616 : Int) * (n / 18446744073709551616) = 2 ^ (8 * j) * (256 * (2 ^ (8 * (7 - j)) * (n / 18446744073709551616))) := by
      conv => lhs; rw [e]
      simp only [Int.mul_assoc]
      rw [← e]
    omega
  conv => rhs; rw [h1]
  rw [Int.add_mul_ediv_left _ _ h0]
  omega

/-- The first k bytes of l, and bytes 0, if there are fewer. -/
def cut (k : Nat) (l : List UInt8) : List UInt8 := (List.range k).map fun i => l.getD i 0
@[simp] theorem cut_length (k : Nat) (l : List UInt8) : (cut k l).length = k := by simp [cut]
theorem cut_succ (k : Nat) (l : List UInt8) : cut (k + 1) l = cut k l ++ [l.getD k 0] := by simp [cut, List.range_succ]

theorem cut_made (k : Nat) (l : List UInt8) : splice (madeCells (Value.int .u8 0).cells (k * 1)).toList 0 (cells (l.take k)) = cells (cut k l) := by
  have e : (madeCells (Value.int .u8 0).cells (k * 1)).toList = List.replicate k (Value.int .u8 0) := by
    rw [Nat.mul_one]
    exact toList_madeCells_one (Value.int .u8 0) k
  rw [e]
  apply List.ext_getElem?
  intro j
  have hlen : (cells (l.take k)).length = min k l.length := by simp
  unfold splice
  rw [List.take_zero, List.nil_append, Nat.zero_add, List.getElem?_append, hlen]
  by_cases h1 : j < min k l.length
  · rw [if_pos h1]
    simp [cells, cut, show j < k by omega, show j < l.length by omega]
  · rw [if_neg h1, List.getElem?_drop, List.getElem?_replicate]
    by_cases h2 : j < k
    · rw [if_pos (by omega)]
      simp [cells, cut, h2, List.getElem?_eq_none (show l.length ≤ j by omega)]
    · rw [if_neg (by omega)]
      simp [cells, cut, h2]

/-- The number that bytes are, the lowest first. -/
def leN : List UInt8 → Nat
  | [] => 0
  | b :: l => b.toNat + 256 * leN l
theorem leN_append (l m : List UInt8) : leN (l ++ m) = leN l + 2 ^ (8 * l.length) * leN m := by
  induction l with
  | nil => simp [leN]
  | cons b l ih =>
    simp only [List.cons_append, leN, ih, List.length_cons]
    rw [show 8 * (l.length + 1) = 8 + 8 * l.length from by omega, Nat.pow_add, Nat.mul_add, Nat.add_assoc, Nat.mul_assoc]
theorem leN_lt (l : List UInt8) : leN l < 2 ^ (8 * l.length) := by
  induction l with
  | nil => simp [leN]
  | cons b l ih =>
    simp only [leN, List.length_cons]
    rw [show 8 * (l.length + 1) = 8 + 8 * l.length from by omega, Nat.pow_add]
    have := b.toNat_lt
    omega
theorem leN_take_succ (l : List UInt8) (j : Nat) (h : j < l.length) : leN (l.take (j + 1)) = leN (l.take j) + l[j].toNat * 2 ^ (8 * j) := by
  rw [List.take_succ_eq_append_getElem h, leN_append]
  simp [leN, Nat.min_eq_left (Nat.le_of_lt h), Nat.mul_comm]
theorem leN_drop (l : List UInt8) (j : Nat) (h : j < l.length) : leN (l.drop j) = l[j].toNat + 256 * leN (l.drop (j + 1)) := by
  rw [List.drop_eq_getElem_cons h]
  rfl
theorem leN_take_or (l : List UInt8) (j : Nat) (h : j < l.length) : leN (l.take j) ||| (l[j].toNat * 2 ^ (8 * j)) = leN (l.take (j + 1)) := by
  have hlt : leN (l.take j) < 2 ^ (8 * j) := by
    have := leN_lt (l.take j)
    rwa [List.length_take, Nat.min_eq_left (Nat.le_of_lt h)] at this
  rw [leN_take_succ l j h, ← Nat.shiftLeft_eq, Nat.or_comm, ← Nat.shiftLeft_add_eq_or_of_lt hlt, Nat.add_comm]
/-- What Get tells of bytes that are there. -/
def getV (l : List UInt8) : Int := wrap64 (leN l : Int)
theorem emod_mul_split (n a b : Int) (ha : 0 < a) (hb : 0 < b) : n % (a * b) = n % a + a * (n / a % b) := by
  have h1 := Int.mul_ediv_add_emod n a
  have h2 := Int.mul_ediv_add_emod (n / a) b
  have p1 := Int.emod_nonneg n (Int.ne_of_gt ha)
  have p2 := Int.emod_lt_of_pos n ha
  have p3 := Int.emod_nonneg (n / a) (Int.ne_of_gt hb)
  have p4 := Int.emod_lt_of_pos (n / a) hb
  have e : n = (n % a + a * (n / a % b)) + a * b * (n / a / b) := by
    conv => lhs; rw [← h1, ← h2]
    rw [Int.mul_add, Int.mul_assoc]
    omega
  have q1 : 0 ≤ a * (n / a % b) := Int.mul_nonneg (Int.le_of_lt ha) p3
  have q2 : a * (n / a % b) ≤ a * (b - 1) := Int.mul_le_mul_of_nonneg_left (by omega) (Int.le_of_lt ha)
  rw [Int.mul_sub] at q2
  conv => lhs; rw [e]
  rw [Int.add_mul_emod_self_left]
  exact Int.emod_eq_of_lt (by omega) (by omega)
theorem leN_numB (k : Nat) (n : Int) : (leN (numB k n) : Int) = n % 2 ^ (8 * k) := by
  induction k with
  | zero => simp [numB, leN, Int.emod_one]
  | succ k ih =>
    rw [numB_succ, leN_append, numB_length]
    simp only [leN, Nat.mul_zero, Nat.add_zero]
    have e1 : (((2 : Nat) ^ (8 * k) : Nat) : Int) = (2 : Int) ^ (8 * k) := by simp
    rw [Int.natCast_add, Int.natCast_mul, ih, byteOf_toNat, e1, show 8 * (k + 1) = 8 * k + 8 from by omega, Int.pow_add, show (2 : Int) ^ 8 = 256 from rfl]
    exact (emod_mul_split n _ _ (Int.pow_pos (by decide)) (by decide)).symm

theorem pow_le64 (j : Nat) (h : j ≤ 7) : 2 ^ (8 * j) ≤ 72057594037927936 := by
  have := Nat.pow_le_pow_right (n := 2) (by decide) (show 8 * j ≤ 56 by omega)
  simpa using this
theorem leN_lt64 (l : List UInt8) (h : l.length ≤ 8) : leN l < 18446744073709551616 := by
  have h1 := leN_lt l
  have := Nat.pow_le_pow_right (n := 2) (by decide) (show 8 * l.length ≤ 64 by omega)
  omega
theorem u64_in (n : Nat) (h : n < 18446744073709551616) : IntKind.u64.wrap (n : Int) = n := by
  rw [IntKind.wrap_u64]
  omega
/-- One round of Get. -/
theorem or_step (p : List UInt8) (j : Nat) (h : j < p.length) (hp : p.length ≤ 8) :
    bits BinOp.or IntKind.u64 (↑(leN (List.take j p))) (IntKind.u64.wrap (IntKind.u64.wrap ↑p[j].toNat * 2 ^ (8 * j))) = ↑(leN (List.take (j + 1) p)) := by
  have hb := p[j].toNat_lt
  have h1 := pow_le64 j (by omega)
  have h2 : p[j].toNat * 2 ^ (8 * j) < 18446744073709551616 :=
    Nat.lt_of_lt_of_le (Nat.mul_lt_mul_of_pos_right hb (Nat.pow_pos (by decide))) (by omega)
  have e1 : IntKind.u64.wrap (p[j].toNat : Int) = p[j].toNat := u64_in _ (by omega)
  have e2 : (p[j].toNat : Int) * 2 ^ (8 * j) = ((p[j].toNat * 2 ^ (8 * j) : Nat) : Int) := by simp
  rw [e1, e2, u64_in _ h2, u64_or_nat _ _ (leN_lt64 _ (by simp; omega)) h2, leN_take_or p j h]

theorem drop_step (p : List UInt8) (i : Nat) (h : i < p.length) (hp : p.length ≤ 8) : leN (p.drop (i + 1)) ≤ 72057594037927935 ∧ p[i].toNat < 256 := by
  have h1 := leN_lt (p.drop (i + 1))
  have h2 := pow_le64 (p.length - (i + 1)) (by omega)
  rw [List.length_drop] at h1
  exact ⟨by omega, p[i].toNat_lt⟩

theorem getV_in (l : List UInt8) (h : leN l ≤ 9223372036854775807) : getV l = leN l := IntWalk.wrap64_in _ ⟨by omega, by omega⟩

theorem pow2_le56 (m : Nat) (hm : m ≤ 56) : 1 ≤ 2 ^ m ∧ 2 ^ m ≤ 72057594037927936 := by
  have := Nat.pow_le_pow_right (n := 2) (by decide) hm
  exact ⟨Nat.one_le_two_pow, by simpa using this⟩
/-- The lowest m bits of a number. -/
theorem mask_i64 (k : Int) (m : Nat) (hm : m ≤ 56) : bits BinOp.and IntKind.i64 k (2 ^ m - 1) = k % 2 ^ m := by
  obtain ⟨p1, p2⟩ := pow2_le56 m hm
  have e0 : (2 : Int) ^ m - 1 = ((2 ^ m - 1 : Nat) : Int) := by
    have : ((2 ^ m : Nat) : Int) = (2 : Int) ^ m := by simp
    omega
  rw [e0]
  show IntKind.i64.wrap ((BitVec.ofInt 64 k &&& BitVec.ofInt 64 ((2 ^ m - 1 : Nat) : Int)).toNat : Int) = _
  have e1 : (BitVec.ofInt 64 ((2 ^ m - 1 : Nat) : Int)).toNat = 2 ^ m - 1 := by
    rw [BitVec.ofInt_natCast, BitVec.toNat_ofNat]
    exact Nat.mod_eq_of_lt (by omega)
  rw [BitVec.toNat_and, e1, Nat.and_two_pow_sub_one_eq_mod, BitVec.toNat_ofInt]
  have e2 : (((k % ((2 ^ 64 : Nat) : Int)).toNat % 2 ^ m : Nat) : Int) = k % 2 ^ m := by
    have hd : ((2 : Int) ^ m) ∣ (2 ^ 64 : Int) := ⟨2 ^ (64 - m), by rw [← Int.pow_add, show m + (64 - m) = 64 from by omega]⟩
    have h0 : 0 ≤ k % ((2 ^ 64 : Nat) : Int) := Int.emod_nonneg _ (by decide)
    rw [Int.natCast_emod, Int.toNat_of_nonneg h0]
    have h1 : ((2 ^ m : Nat) : Int) = (2 : Int) ^ m := by simp
    rw [h1]
    exact Int.emod_emod_of_dvd k hd
  rw [e2, IntKind.wrap_i64]
  have h1 : ((2 ^ m : Nat) : Int) = (2 : Int) ^ m := by simp
  have h2 := Int.emod_nonneg k (b := (2 : Int) ^ m) (by omega)
  have h3 := Int.emod_lt_of_pos k (b := (2 : Int) ^ m) (by omega)
  omega
/-- The reference's mask for a width below 8. -/
theorem mask_wd (k width : Int) (h1 : 1 ≤ width) (h8 : width < 8) : bits BinOp.and IntKind.i64 k (wrap64 (wrap64 (2 ^ (8 * width).toNat) - 1)) = wrap64 (k % 2 ^ (8 * wd width)) := by
  have e : (8 * width).toNat = 8 * wd width := by have := wd_cast width; omega
  have hw : wd width ≤ 7 := by have := wd_cast width; omega
  obtain ⟨p1, p2⟩ := pow2_le56 (8 * wd width) (by omega)
  have e1 : ((2 ^ (8 * wd width) : Nat) : Int) = (2 : Int) ^ (8 * wd width) := by simp
  have h2 := Int.emod_nonneg k (b := (2 : Int) ^ (8 * wd width)) (by omega)
  have h3 := Int.emod_lt_of_pos k (b := (2 : Int) ^ (8 * wd width)) (by omega)
  rw [e, IntWalk.wrap64_in ((2 : Int) ^ (8 * wd width)) ⟨by omega, by omega⟩, IntWalk.wrap64_in ((2 : Int) ^ (8 * wd width) - 1) ⟨by omega, by omega⟩, mask_i64 k _ (by omega), IntWalk.wrap64_in (k % 2 ^ (8 * wd width)) ⟨by omega, by omega⟩]
theorem wrap_full (k : Int) (hk : -9223372036854775808 ≤ k ∧ k ≤ 9223372036854775807) (width : Int) (h : 8 ≤ width) : wrap64 (k % 2 ^ (8 * wd width)) = k := by
  have hw : wd width = 8 := by have := wd_cast width; omega
  rw [hw, show (2 : Int) ^ (8 * 8) = 18446744073709551616 from by decide]
  unfold wrap64
  omega

theorem mask_255 (k width : Int) (h : width < 1) : bits BinOp.and IntKind.i64 k 255 = wrap64 (k % 2 ^ (8 * wd width)) := by
  have hw : wd width = 1 := by have := wd_cast width; omega
  have h2 := Int.emod_nonneg k (b := (256 : Int)) (by omega)
  have h3 := Int.emod_lt_of_pos k (b := (256 : Int)) (by omega)
  rw [hw, show (2 : Int) ^ (8 * 1) = 256 from by decide, IntWalk.wrap64_in _ ⟨by omega, by omega⟩]
  exact mask_i64 k 8 (by decide)
end Go.Proofs.YtddiadpbkjdomaaGreatDoor
namespace Go.Proofs.YtddiadpbkjdomaaGreatDoor

/-- A component: its name and its size. -/
abbrev Kd := ByteArray × Int
/-- A byte that a name may have. -/
def plainN (b : UInt8) : Bool := decide (97 ≤ b.toNat ∧ b.toNat ≤ 122) || decide (48 ≤ b.toNat ∧ b.toNat ≤ 57) || decide (b.toNat = 95)
/-- Is s a name? -/
def nameB (s : ByteArray) : Bool := decide (1 ≤ s.size ∧ s.size ≤ 16) && s.data.toList.all plainN
/-- A layout. -/
structure Cf where
  lg : Int
  pg : Int
  en : Int
  gn : Int
  ks : List Kd

def Named (ks : List Kd) : Prop := ∀ k ∈ ks, nameB k.1 = true
def Sized (ks : List Kd) : Prop := ∀ k ∈ ks, 0 ≤ k.2 ∧ k.2 ≤ 64
/-- No name is one ahead. -/
def Apart (ks : List Kd) : Prop := (ks.map Prod.fst).Nodup
instance (ks : List Kd) : Decidable (Named ks) := inferInstanceAs (Decidable (∀ k ∈ ks, nameB k.1 = true))
instance (ks : List Kd) : Decidable (Sized ks) := inferInstanceAs (Decidable (∀ k ∈ ks, 0 ≤ k.2 ∧ k.2 ≤ 64))
instance (ks : List Kd) : Decidable (Apart ks) := inferInstanceAs (Decidable (ks.map Prod.fst).Nodup)
/-- The numbers of a layout may be. -/
def Cf.Nums (c : Cf) : Prop := (2 ≤ c.lg ∧ c.lg ≤ 1024) ∧ (4 ≤ c.pg ∧ c.pg ≤ 1024) ∧ (1 ≤ c.en ∧ c.en ≤ 1024) ∧ (1 ≤ c.gn ∧ c.gn ≤ 1073741824) ∧ c.ks.length ≤ 32
instance (c : Cf) : Decidable c.Nums := by unfold Cf.Nums; infer_instance
/-- A layout that may be. -/
def Cf.Right (c : Cf) : Prop := c.Nums ∧ Named c.ks ∧ Apart c.ks ∧ Sized c.ks
instance (c : Cf) : Decidable c.Right := by unfold Cf.Right; infer_instance

theorem take_snoc {α : Type} {l : List α} {j : Nat} (h : j < l.length) : l.take (j + 1) = l.take j ++ [l[j]] := List.take_succ_eq_append_getElem h
theorem Named.nil : Named [] := fun _ h => by cases h
theorem Sized.nil : Sized [] := fun _ h => by cases h
theorem Apart.nil : Apart [] := List.nodup_nil
theorem named_snoc {ks : List Kd} {j : Nat} (h : j < ks.length) : Named (ks.take (j + 1)) ↔ Named (ks.take j) ∧ nameB ks[j].1 = true := by
  rw [take_snoc h]
  simp only [Named, List.mem_append, List.mem_singleton]
  exact ⟨fun H => ⟨fun k hk => H k (.inl hk), H _ (.inr rfl)⟩, fun ⟨H, h2⟩ k hk => hk.elim (H k) (fun e => e ▸ h2)⟩
theorem sized_snoc {ks : List Kd} {j : Nat} (h : j < ks.length) : Sized (ks.take (j + 1)) ↔ Sized (ks.take j) ∧ (0 ≤ ks[j].2 ∧ ks[j].2 ≤ 64) := by
  rw [take_snoc h]
  simp only [Sized, List.mem_append, List.mem_singleton]
  exact ⟨fun H => ⟨fun k hk => H k (.inl hk), H _ (.inr rfl)⟩, fun ⟨H, h2⟩ k hk => hk.elim (H k) (fun e => e ▸ h2)⟩
/-- No name of those ahead of the place j is that at j. -/
def First (ks : List Kd) (s : ByteArray) (j : Nat) : Prop := ∀ k ∈ ks.take j, k.1 ≠ s
theorem apart_snoc {ks : List Kd} {j : Nat} (h : j < ks.length) : Apart (ks.take (j + 1)) ↔ Apart (ks.take j) ∧ First ks ks[j].1 j := by
  rw [take_snoc h]
  simp only [Apart, First, List.map_append, List.map_cons, List.map_nil, List.nodup_append, List.mem_map, List.mem_singleton, List.nodup_cons, List.not_mem_nil, not_false_iff, List.nodup_nil, true_and]
  refine ⟨fun ⟨a, b⟩ => ⟨a, fun k hk e => b k.1 ⟨k, hk, rfl⟩ _ rfl e⟩, fun ⟨a, b⟩ => ⟨a, ?_⟩⟩
  rintro x ⟨k, hk, rfl⟩ y rfl
  exact b k hk
theorem named_take {ks : List Kd} (h : Named ks) (j : Nat) : Named (ks.take j) := fun k hk => h k (List.mem_of_mem_take hk)
theorem sized_take {ks : List Kd} (h : Sized ks) (j : Nat) : Sized (ks.take j) := fun k hk => h k (List.mem_of_mem_take hk)
theorem apart_take {ks : List Kd} (h : Apart ks) (j : Nat) : Apart (ks.take j) := by
  unfold Apart at h ⊢
  rw [List.map_take]
  exact h.sublist (List.take_sublist _ _)
theorem First.zero (ks : List Kd) (s : ByteArray) : First ks s 0 := fun k hk => by simp at hk
theorem First.succ {ks : List Kd} {s : ByteArray} {j : Nat} (h : j < ks.length) : First ks s (j + 1) ↔ First ks s j ∧ ks[j].1 ≠ s := by
  unfold First
  rw [take_snoc h]
  simp only [List.mem_append, List.mem_singleton]
  exact ⟨fun H => ⟨fun k hk => H k (.inl hk), H _ (.inr rfl)⟩, fun ⟨H, h2⟩ k hk => hk.elim (H k) (fun e => e ▸ h2)⟩

/-- The place of the first of that name. -/
def findK : List Kd → ByteArray → Int × Bool
  | [], _ => (0, false)
  | k :: l, s => if k.1 = s then (0, true) else if (findK l s).2 = true then ((findK l s).1 + 1, true) else (0, false)
theorem findK_yes : ∀ (ks : List Kd) (s : ByteArray) (j : Nat) (h : j < ks.length), First ks s j → ks[j].1 = s → findK ks s = ((j : Int), true)
  | k :: l, s, 0, _, _, e => by
    have e' : k.1 = s := e
    simp [findK, e']
  | k :: l, s, j + 1, h, f, e => by
    have hk : k.1 ≠ s := f k (by simp)
    have ih := findK_yes l s j (by simpa using h) (fun x hx => f x (by simp [hx])) e
    simp [findK, hk, ih]
theorem findK_no : ∀ (ks : List Kd) (s : ByteArray), (∀ k ∈ ks, k.1 ≠ s) → findK ks s = (0, false)
  | [], _, _ => rfl
  | k :: l, s, f => by
    have hk : k.1 ≠ s := f k (by simp)
    have ih := findK_no l s (fun x hx => f x (by simp [hx]))
    simp [findK, hk, ih]
/-- Of one that is there: it is the first, or the first lies ahead. -/
theorem findK_at (ks : List Kd) (j : Nat) (h : j < ks.length) : (First ks ks[j].1 j ∧ (findK ks ks[j].1).1 = j) ∨ (¬ First ks ks[j].1 j ∧ (findK ks ks[j].1).1 ≠ j) := by
  by_cases f : First ks ks[j].1 j
  · exact .inl ⟨f, by rw [findK_yes ks _ j h f rfl]⟩
  · refine .inr ⟨f, ?_⟩
    have key : ∀ i, i ≤ j → ¬ First ks ks[j].1 i → ∃ m, m < i ∧ ∃ hm : m < ks.length, First ks ks[j].1 m ∧ ks[m].1 = ks[j].1 := by
      intro i
      induction i with
      | zero => intro _ hn; exact absurd (First.zero _ _) hn
      | succ i ih =>
        intro hi hn
        have hil : i < ks.length := by omega
        by_cases hf : First ks ks[j].1 i
        · refine ⟨i, by omega, hil, hf, ?_⟩
          exact Classical.byContradiction fun hne => hn ((First.succ hil).2 ⟨hf, hne⟩)
        · obtain ⟨m, hm, r⟩ := ih (by omega) hf
          exact ⟨m, by omega, r⟩
    obtain ⟨m, hm, hml, hf, he⟩ := key j (Nat.le_refl _) f
    rw [findK_yes ks _ m hml hf he]
    show ((m : Nat) : Int) ≠ j
    omega
/-- What the reference asks of the one at the place j. -/
def Good (ks : List Kd) (j : Nat) : Prop := Named (ks.take j) ∧ Apart (ks.take j) ∧ Sized (ks.take j)
theorem Good.zero (ks : List Kd) : Good ks 0 := ⟨by simpa using Named.nil, by simpa using Apart.nil, by simpa using Sized.nil⟩
theorem good_snoc {ks : List Kd} {j : Nat} (h : j < ks.length) : Good ks (j + 1) ↔ Good ks j ∧ First ks ks[j].1 j ∧ nameB ks[j].1 = true ∧ 0 ≤ ks[j].2 ∧ ks[j].2 ≤ 64 := by
  unfold Good
  rw [named_snoc h, apart_snoc h, sized_snoc h]
  constructor
  · rintro ⟨⟨a, b⟩, ⟨c, d⟩, e, f⟩; exact ⟨⟨a, c, e⟩, d, b, f⟩
  · rintro ⟨⟨a, c, e⟩, d, b, f⟩; exact ⟨⟨a, b⟩, ⟨c, d⟩, e, f⟩
theorem good_all (ks : List Kd) : Good ks ks.length ↔ Named ks ∧ Apart ks ∧ Sized ks := by unfold Good; rw [List.take_length]
theorem good_take {ks : List Kd} (h : Named ks ∧ Apart ks ∧ Sized ks) (j : Nat) : Good ks j := ⟨named_take h.1 j, apart_take h.2.1 j, sized_take h.2.2 j⟩
/-- The Size of the one at a place. -/
def sizeK (ks : List Kd) (k : Int) : Int × Bool := if 0 ≤ k ∧ k < ks.length then ((ks.getD k.toNat (.empty, 0)).2, true) else (0, false)
/-- More than is asked. -/
def muchK (ks : List Kd) : Bool := (ks.take 50).any (fun k => decide (100 < k.1.size)) || decide (40 < ks.length)
theorem muchK_no {ks : List Kd} (h : muchK ks = false) : ks.length ≤ 40 ∧ ∀ k ∈ ks, k.1.size ≤ 100 := by
  simp only [muchK, Bool.or_eq_false_iff, List.any_eq_false, decide_eq_true_eq, decide_eq_false_iff_not] at h
  obtain ⟨h1, h2⟩ := h
  refine ⟨by omega, fun k hk => ?_⟩
  rw [List.take_of_length_le (by omega)] at h1
  have := h1 k hk
  omega
end Go.Proofs.YtddiadpbkjdomaaGreatDoor
namespace Go.Proofs.YtddiadpbkjdomaaGreatDoor
open Go.RowKit

/-- A slice of components. -/
def KRd (w : World) (A : Option Addr) (n : Nat) (ks : List Kd) : Prop :=
  ks.length = n ∧ (0 < n → ∃ b o, A = some ⟨b, o, none⟩ ∧ b < w.heap.size ∧ ∀ j (h : j < ks.length), w.cell? ⟨b, o + j * 2, none⟩ = some (.string ks[j].1) ∧ w.cell? ⟨b, o + j * 2 + 1, none⟩ = some (.int .i64 ks[j].2))
theorem KRd.own_below {w w' : World} {A : Option Addr} {n : Nat} {ks : List Kd} (h : KRd w A n ks) {B : Nat} (hB : w.heap.size ≤ B) (hb : Below B w w') : KRd w' A n ks :=
  ⟨h.1, fun hp => by
    obtain ⟨b, o, e, hlt, hc⟩ := h.2 hp
    refine ⟨b, o, e, by have := hb.size; omega, fun j hj => ?_⟩
    obtain ⟨h0, h1⟩ := hc j hj
    exact ⟨(hb.cell (p := ⟨b, o + j * 2, none⟩) (by simp; omega)).trans h0, (hb.cell (p := ⟨b, o + j * 2 + 1, none⟩) (by simp; omega)).trans h1⟩⟩
theorem KRd.below {w w' : World} {A : Option Addr} {n : Nat} {ks : List Kd} (h : KRd w A n ks) (hb : Below w.heap.size w w') : KRd w' A n ks := h.own_below (Nat.le_refl _) hb
theorem KRd.alloc {w : World} {A : Option Addr} {n : Nat} {ks : List Kd} (h : KRd w A n ks) (o : Obj) : KRd (w.alloc o) A n ks := h.below ((Below.refl _ _).alloc (Nat.le_refl _) o)
theorem KRd.nil (w : World) (A : Option Addr) : KRd w A 0 [] := ⟨rfl, fun h => absurd h (Nat.lt_irrefl 0)⟩
theorem KRd.at_ {w : World} {A : Option Addr} {n : Nat} {ks : List Kd} (h : KRd w A n ks) {j : Nat} (hj : j < n) :
    ∃ b o s z, A = some ⟨b, o, none⟩ ∧ b < w.heap.size ∧ w.cell? ⟨b, o + j * 2, none⟩ = some (.string s) ∧ w.cell? ⟨b, o + j * 2 + 1, none⟩ = some (.int .i64 z) ∧ ∃ hl : j < ks.length, ks[j] = (s, z) := by
  obtain ⟨b, o, e, hlt, hc⟩ := h.2 (by omega)
  have hl : j < ks.length := by rw [h.1]; exact hj
  exact ⟨b, o, ks[j].1, ks[j].2, e, hlt, (hc j hl).1, (hc j hl).2, hl, rfl⟩

theorem compT : RT Tryz.prog 72 2 := ⟨⟨_, Tryz.underlying72, rfl⟩, by kernel_rfl⟩
theorem confT : RT Tryz.prog 24 5 := ⟨⟨_, Tryz.underlying24, rfl⟩, by kernel_rfl⟩
theorem compsT : El Tryz.prog 22 72 (.agg #[.string .empty, .int .i64 0]) 2 24 := ⟨Tryz.underlying22, by kernel_rfl, rfl, by decide⟩
end Go.Proofs.YtddiadpbkjdomaaGreatDoor
namespace Go.Proofs.YtddiadpbkjdomaaGreatDoor
open Go.RowKit
set_option linter.unusedVariables false

/-- A layout by value. -/
abbrev cv (lg pg en gn : Int) (A : Option Addr) (n cap : Nat) : Value := .agg #[.int .i64 lg, .int .i64 pg, .int .i64 en, .int .i64 gn, .slice A n cap]
abbrev cc (lg pg en gn : Int) (A : Option Addr) (n cap : Nat) : Array Value := #[.int .i64 lg, .int .i64 pg, .int .i64 en, .int .i64 gn, .slice A n cap]

/-- A layout in a block of its own. -/
structure CAt (w0 w : World) (g : Nat) (lg pg en gn : Int) (A : Option Addr) (n cap : Nat) (ks : List Kd) : Prop where
  bel : Below w0.heap.size w0 w
  ge : w0.heap.size ≤ g
  lt : g < w.heap.size
  c0 : w.cell? ⟨g, 0, none⟩ = some (.int .i64 lg)
  c1 : w.cell? ⟨g, 1, none⟩ = some (.int .i64 pg)
  c2 : w.cell? ⟨g, 2, none⟩ = some (.int .i64 en)
  c3 : w.cell? ⟨g, 3, none⟩ = some (.int .i64 gn)
  c4 : w.cell? ⟨g, 4, none⟩ = some (.slice A n cap)
  rd : KRd w A n ks
theorem CAt.new {w : World} {A : Option Addr} {n : Nat} {ks : List Kd} (h : KRd w A n ks) (lg pg en gn : Int) (cap : Nat) :
    CAt w (w.alloc (.cells (cc lg pg en gn A n cap) 24)) w.heap.size lg pg en gn A n cap ks where
  bel := (Below.refl _ _).alloc (Nat.le_refl _) _
  ge := Nat.le_refl _
  lt := by simp
  c0 := by simp
  c1 := by simp
  c2 := by simp
  c3 := by simp
  c4 := by simp
  rd := h.alloc _
theorem CAt.next {w0 w w' : World} {g : Nat} {lg pg en gn : Int} {A : Option Addr} {n cap : Nat} {ks : List Kd} (h : CAt w0 w g lg pg en gn A n cap ks) (hb : Below w.heap.size w w') : CAt w0 w' g lg pg en gn A n cap ks where
  bel := h.bel.trans (hb.mono h.bel.size)
  ge := h.ge
  lt := Nat.lt_of_lt_of_le h.lt hb.size
  c0 := (hb.cell (p := ⟨g, 0, none⟩) h.lt).trans h.c0
  c1 := (hb.cell (p := ⟨g, 1, none⟩) h.lt).trans h.c1
  c2 := (hb.cell (p := ⟨g, 2, none⟩) h.lt).trans h.c2
  c3 := (hb.cell (p := ⟨g, 3, none⟩) h.lt).trans h.c3
  c4 := (hb.cell (p := ⟨g, 4, none⟩) h.lt).trans h.c4
  rd := h.rd.below hb

theorem sizeK_yes {ks : List Kd} {j : Nat} {s : ByteArray} {z : Int} (h : j < ks.length) (hk : ks[j] = (s, z)) : sizeK ks (j : Int) = (z, true) := by
  unfold sizeK
  rw [if_pos ⟨by omega, by omega⟩, Int.toNat_natCast, List.getD, List.getElem?_eq_getElem h, hk]
  rfl
theorem sizeK_no {ks : List Kd} {k : Int} (h : ¬ (0 ≤ k ∧ k < ks.length)) : sizeK ks k = (0, false) := by
  unfold sizeK
  rw [if_neg h]
end Go.Proofs.YtddiadpbkjdomaaGreatDoor
