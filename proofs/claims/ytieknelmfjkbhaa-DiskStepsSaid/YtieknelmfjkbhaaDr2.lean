/- A block that holds the reference's device; Last, Dirty, Bytes, SameList. -/
import Derived.Test.YtieknelmfjkbhaaDr1
import Derived.Deep.MidRow
import Derived.Deep.WholeRow
namespace Go.Proofs.Ytieknelmfjkbhaa
open Go.RowKit

/-- The cells of the reference's device. -/
structure Rf where
  SA : Option Addr
  sn : Nat
  sc : Nat
  WA : Option Addr
  wn : Nat
  wc : Nat
  fuse : Int
  off : Bool
  rd : Int
  wr : Int
def Rf.v (d : Rf) : Value := rv d.SA d.sn d.sc d.WA d.wn d.wc d.fuse d.off d.rd d.wr
def Rf.l (d : Rf) : List Value := [.slice d.SA d.sn d.sc, .slice d.WA d.wn d.wc, .int .i64 d.fuse, .bool d.off, .int .i64 d.rd, .int .i64 d.wr]
/-- Block g holds such a device. -/
def RAt (w : World) (g : Nat) (d : Rf) : Prop := w.heap[g]? = some (.cells #[.slice d.SA d.sn d.sc, .slice d.WA d.wn d.wc, .int .i64 d.fuse, .bool d.off, .int .i64 d.rd, .int .i64 d.wr] 30 (0, 0))

section
variable {w w' : World} {g : Nat} {d d' : Rf}
theorem RAt.lt (h : RAt w g d) : g < w.heap.size := (Array.getElem?_eq_some_iff.1 h).1
theorem RAt.at_ (h : RAt w g d) (i : Nat) : w.cell? ⟨g, i, none⟩ = (#[.slice d.SA d.sn d.sc, .slice d.WA d.wn d.wc, .int .i64 d.fuse, .bool d.off, .int .i64 d.rd, .int .i64 d.wr] : Array Value)[i]? := cell_of_row _ _ _ _ _ _ h
theorem RAt.h0 (h : RAt w g d) : w.cell? ⟨g, 0, none⟩ = some (.slice d.SA d.sn d.sc) := h.at_ 0
theorem RAt.h1 (h : RAt w g d) : w.cell? ⟨g, 1, none⟩ = some (.slice d.WA d.wn d.wc) := h.at_ 1
theorem RAt.h2 (h : RAt w g d) : w.cell? ⟨g, 2, none⟩ = some (.int .i64 d.fuse) := h.at_ 2
theorem RAt.h3 (h : RAt w g d) : w.cell? ⟨g, 3, none⟩ = some (.bool d.off) := h.at_ 3
theorem RAt.h4 (h : RAt w g d) : w.cell? ⟨g, 4, none⟩ = some (.int .i64 d.rd) := h.at_ 4
theorem RAt.h5 (h : RAt w g d) : w.cell? ⟨g, 5, none⟩ = some (.int .i64 d.wr) := h.at_ 5
theorem RAt.fz (h : RAt w g d) (j : Nat) : w.frozen? ⟨g, j, none⟩ = false := frozen_of_row w g j _ _ h
theorem RAt.below {B : Nat} (h : RAt w g d) (hb : Below B w w') (hB : g < B) : RAt w' g d := (hb.block g hB).trans h
theorem RAt.under (h : RAt w g d) (hb : Below w.heap.size w w') : RAt w' g d := h.below hb h.lt
theorem RAt.new (w : World) (d : Rf) : RAt (w.alloc (.cells #[.slice d.SA d.sn d.sc, .slice d.WA d.wn d.wc, .int .i64 d.fuse, .bool d.off, .int .i64 d.rd, .int .i64 d.wr] 30)) w.heap.size d := heap_alloc_last w _
theorem RAt.load (h : RAt w g d) : (Instr.loadAt 30 (.pointer (some ⟨g, 0, none⟩))).run Try.prog w = .ok d.v w := by
  refine run_loadAt_mid w g 0 30 d.l _ (fun j v hj => ?_) Try.underlying30 rfl (by kernel_rfl)
  rw [Nat.zero_add, h.at_ j, ← hj]
  simp [Rf.l]
theorem RAt.store (h : RAt w g d) (d' : Rf) : ∃ w', (Instr.storeAt 30 (.pointer (some ⟨g, 0, none⟩)) d'.v).run Try.prog w = .ok () w' ∧ RAt w' g d' ∧ Fr (· = g) w w' := by
  refine ⟨w.setRow g #[.slice d'.SA d'.sn d'.sc, .slice d'.WA d'.wn d'.wc, .int .i64 d'.fuse, .bool d'.off, .int .i64 d'.rd, .int .i64 d'.wr], ?_, setRow_heap w g _ _ _ _ h, ⟨rfl, rfl, rfl, by simp [World.setRow], fun k _ hk => setRow_other w g k _ hk⟩⟩
  simp only [Instr.storeAt, Instr.sureAddr, Sem.run_bind, Sem.run_pure, Result.andThen_ok]
  exact run_storeVar_row w g 30 30 _ _ h (by kernel_rfl) rfl (by simp [Value.oneCell'])
theorem wpList_ldR {ops : Array Oper} {rest : List Oper} {o : Oper} {a : Act} {Q : Exit → Act → World → Prop} (hgd : Region.wanted o (yielded ops a.tmps) = true) (x : Operand) (ho : o.op = .load 30 x)
    (hx : a.eval x = .pointer (some ⟨g, 0, none⟩)) (h : RAt w g d) (kk : wpList Try.prog ops Q rest (a.put o.dst d.v) w) : wpList Try.prog ops Q (o :: rest) a w :=
  wpList_w hgd fun _ hK => by
    unfold Oper.wp execOp
    simp only [ho, hx, h.load, Sem.run_bind, Sem.run_pure, Result.andThen_ok]
    exact hK _ _ kk
theorem wpList_stR {ops : Array Oper} {rest : List Oper} {o : Oper} {a : Act} {Q : Exit → Act → World → Prop} (hgd : Region.wanted o (yielded ops a.tmps) = true) (x y : Operand) (ho : o.op = .store 30 x y)
    (hx : a.eval x = .pointer (some ⟨g, 0, none⟩)) (hy : a.eval y = d'.v) (h : RAt w g d)
    (kk : ∀ w', RAt w' g d' → Fr (· = g) w w' → wpList Try.prog ops Q rest (a.put o.dst undef) w') : wpList Try.prog ops Q (o :: rest) a w :=
  wpList_w hgd fun _ hK => by
    obtain ⟨w', hrun, h1, h2⟩ := h.store d'
    unfold Oper.wp execOp
    simp only [ho, hx, hy, hrun, Sem.run_bind, Sem.run_pure, Result.andThen_ok]
    exact hK _ _ (kk w' h1 h2)
theorem res_R {fn : Func} {p : Tmp} (h : fn.results = #[.cell p 30]) {tmps : Array Value} (hp : tmps.getD p undef = .pointer (some ⟨g, 0, none⟩)) (hs : RAt w g d) :
    (results fn tmps).run Try.prog w = .ok d.v w := by
  have h1 := hs.load
  simp only [Instr.loadAt, Instr.sureAddr, Sem.run_bind, Sem.run_pure, Result.andThen_ok] at h1
  rw [Array.getD_eq_getD_getElem?] at hp
  simp only [results, h]
  simp [hp, asAddr, h1]
theorem RAt.set {C : Array Value} {i : Nat} {v : Value} (h : RAt w g d) (hC : #[.slice d.SA d.sn d.sc, .slice d.WA d.wn d.wc, .int .i64 d.fuse, .bool d.off, .int .i64 d.rd, .int .i64 d.wr].setIfInBounds i v = C) : (w.setCell ⟨g, i, none⟩ v).heap[g]? = some (.cells C 30 (0, 0)) := by
  rw [← hC]; exact heap_setCell_at h v
end

/-- What Last answers. -/
def lastR (safe : List (List UInt8)) (wait : List (Nat × List UInt8)) (i : Nat) : List UInt8 := (fl i wait).getLastD (safe.getD i [])

section
variable (d : Rf) (w : World)

set_option maxRecDepth 20000 in
theorem Last_any (i : Nat) (safe : List (List UInt8)) (ls : List (Nat × List UInt8)) (hS : RowsR w d.SA d.sn safe) (hW : WaitR w d.WA d.wn ls) (hwn : d.wn ≤ 1000000) (hsn : d.sn ≤ 4096) (hi : i < d.sn) :
    Calls Try.prog 35 #[d.v, .int .i64 i] w fun e w' => ∃ b o c, e = .returned (.slice (some ⟨b, o, none⟩) 512 c) ∧ 512 ≤ c ∧ c ≤ maxLen ∧ Rd w' (some ⟨b, o, none⟩) 512 (lastR safe ls i) ∧ Below w.heap.size w w' := by
  obtain ⟨SA, sn, sc, WA, wn, wc, fuse, off, rd, wr⟩ := d
  simp only at hS hW hwn hsn hi
  obtain ⟨w1, hw1⟩ : ∃ w1, w1 = w.alloc (.cells #[.slice SA sn sc, .slice WA wn wc, .int .i64 fuse, .bool off, .int .i64 rd, .int .i64 wr] 30) := ⟨_, rfl⟩
  have hB1 : Below w.heap.size w w1 := by rw [hw1]; exact (Below.refl _ _).alloc (Nat.le_refl _) _
  have hR1 : RAt w1 w.heap.size ⟨SA, sn, sc, WA, wn, wc, fuse, off, rd, wr⟩ := by rw [hw1]; exact RAt.new w ⟨SA, sn, sc, WA, wn, wc, fuse, off, rd, wr⟩
  have HS := Lib.hid (hS.below hB1)
  have cO := of_any SA sn sc WA wn wc fuse off rd wr w1 i ls (hW.below hB1) hwn
  have CO := Lib.hid cO
  have HB1 := Lib.hid hB1
  have HR1 := Lib.hid hR1
  clear hS hW hB1 cO hR1
  show Calls Try.prog _ #[.agg #[.slice SA sn sc, .slice WA wn wc, .int .i64 fuse, .bool off, .int .i64 rd, .int .i64 wr], _] w _
  go_enter Try.func35, Try.ntmps35
  go_wp2_with fail
  rw [← hw1]
  clear hw1
  refine CO.out.mono ?_
  rintro e w2 ⟨A, n, c, rfl, hnc, hcm, hnw, hr, hB2⟩
  have hB : Below w.heap.size w w2 := HB1.out.trans (hB2.mono HB1.out.size)
  have q0 := (HR1.out.under hB2).h0
  by_cases h0 : n = 0
  · obtain ⟨b, o, hSA, _, hcS⟩ := (HS.out.below hB2).2 (by omega)
    obtain ⟨b', o', c', k0, hc1, hc2, hr'⟩ := hcS i (by rw [HS.out.1]; exact hi)
    have hfl : fl i ls = [] := List.eq_nil_of_length_eq_zero (by rw [hr.1, h0])
    have hres : lastR safe ls i = safe.getD i [] := by unfold lastR; rw [hfl]; rfl
    rw [← hres] at hr'
    have HR := Lib.hid hr'
    have HB := Lib.hid hB
    subst h0
    clear hr hr' hcS hfl hres hB hB2 hnc
    replace q0 : w2.cell? ⟨w.heap.size, 0, none⟩ = some (.slice (some ⟨b, o, none⟩) sn sc) := by rw [← hSA]; exact q0
    clear hSA
    go_wp2
    go_ret
    exact ⟨b', o', c', rfl, hc1, hc2, HR.out, HB.out⟩
  · obtain ⟨b, o, hA, _, hcS⟩ := hr.2 (by omega)
    obtain ⟨b', o', c', k0, hc1, hc2, hr'⟩ := hcS (n - 1) (by rw [hr.1]; omega)
    have hres : (fl i ls).getD (n - 1) [] = lastR safe ls i := by
      unfold lastR
      rw [List.getLastD_eq_getLast?, List.getLast?_eq_getElem?, hr.1, List.getD, List.getElem?_eq_getElem (by rw [hr.1]; omega)]
      rfl
    rw [hres] at hr'
    have HR := Lib.hid hr'
    have HB := Lib.hid hB
    have g1 : ((n : Int) - 1).toNat = n - 1 := by omega
    have g2 : 0 ≤ (n : Int) - 1 := by omega
    have g3 : (n : Int) - 1 < (n : Int) := by omega
    have g4 : (1 : Int) ≤ (n : Int) := by omega
    have g5 : (0 : Int) < (n : Int) := by omega
    subst hA
    clear hr hr' hcS hres hB hB2
    go_wp2
    go_ret
    exact ⟨b', o', c', rfl, hc1, hc2, HR.out, HB.out⟩
end
end Go.Proofs.Ytieknelmfjkbhaa
