/- A block that holds a struct by value (its fields of one cell each), of any type: load, store, results. Nothing here speaks of one program. -/
import Derived.Test.YtndnmcdbfjgglaaDMem
import Derived.Deep.MidRow
import Derived.Deep.WholeRow
import Derived.Laws.ResultCell
namespace Go.Proofs.Ytndnmcdbfjgglaa
open Go.RowKit

/-- Block g holds a struct of type T: these cells. -/
def Rec (T : TypeId) (w : World) (g : Nat) (cs : Array Value) : Prop := w.heap[g]? = some (.cells cs T (0, 0))
/-- What is asked of the struct's type. -/
structure RT (P : Program) (T : TypeId) (n : Nat) : Prop where
  und : ∃ d, P.underlying T = some d ∧ d.isRow = true
  info : (P.info? T).map (·.size) = some n

section
variable {P : Program} {T : TypeId} {w w' : World} {g : Nat} {cs : Array Value} {n : Nat}
theorem Rec.lt (h : Rec T w g cs) : g < w.heap.size := (Array.getElem?_eq_some_iff.1 h).1
theorem Rec.at_ (h : Rec T w g cs) (i : Nat) : w.cell? ⟨g, i, none⟩ = cs[i]? := cell_of_row _ _ _ _ _ _ h
theorem Rec.fz (h : Rec T w g cs) (i : Nat) : w.frozen? ⟨g, i, none⟩ = false := frozen_of_row w g i _ _ h
theorem Rec.block (h : Rec T w g cs) (hb : w'.heap[g]? = w.heap[g]?) : Rec T w' g cs := hb.trans h
theorem Rec.below {B : Nat} (h : Rec T w g cs) (hb : Below B w w') (hB : g < B) : Rec T w' g cs := (hb.block g hB).trans h
theorem Rec.under (h : Rec T w g cs) (hb : Below w.heap.size w w') : Rec T w' g cs := h.below hb h.lt
theorem Rec.fr {own : Nat → Prop} (h : Rec T w g cs) (hf : Fr own w w') (hn : ¬ own g) : Rec T w' g cs := (hf.block g h.lt hn).trans h
theorem Rec.new (w : World) (T : TypeId) (cs : Array Value) : Rec T (w.alloc (.cells cs T)) w.heap.size cs := heap_alloc_last w _
theorem Rec.set (h : Rec T w g cs) (i : Nat) (v : Value) : Rec T (w.setCell ⟨g, i, none⟩ v) g (cs.setIfInBounds i v) := heap_setCell_at h v
theorem Rec.load (h : Rec T w g cs) (rt : RT P T n) (hn : cs.size = n) : (loadVar T ⟨g, 0, none⟩).run P w = .ok (.agg cs) w := by
  obtain ⟨d, hd, hr⟩ := rt.und
  have := run_loadVar_mid (P := P) w g 0 T cs.toList d (fun j v hj => by rw [Nat.zero_add, h.at_ j, ← hj]; simp) hd hr (by rw [rt.info, ← hn]; simp)
  simpa using this
theorem Rec.loadAt (h : Rec T w g cs) (rt : RT P T n) (hn : cs.size = n) : (Instr.loadAt T (.pointer (some ⟨g, 0, none⟩))).run P w = .ok (.agg cs) w := by
  simp only [Instr.loadAt, Instr.sureAddr, Sem.run_bind, Sem.run_pure, Result.andThen_ok, h.load rt hn]
theorem Rec.store (h : Rec T w g cs) (rt : RT P T n) (hn : cs.size = n) (cs' : Array Value) (hs : cs'.size = n) (h1 : cs'.all (·.oneCell') = true) :
    ∃ w', (Instr.storeAt T (.pointer (some ⟨g, 0, none⟩)) (.agg cs')).run P w = .ok () w' ∧ Rec T w' g cs' ∧ Fr (· = g) w w' := by
  refine ⟨w.setRow g cs', ?_, setRow_heap w g _ _ _ _ h, ⟨rfl, rfl, rfl, by simp [World.setRow], fun k _ hk => setRow_other w g k _ hk⟩⟩
  simp only [Instr.storeAt, Instr.sureAddr, Sem.run_bind, Sem.run_pure, Result.andThen_ok]
  exact run_storeVar_row w g T T _ _ h (by rw [hs]; exact rt.info) (hn.trans hs.symm) h1

variable {ops : Array Oper} {rest : List Oper} {o : Oper} {a : Act} {Q : Exit → Act → World → Prop}
theorem wpList_ldS (rt : RT P T n) (hn : cs.size = n) (hgd : Region.wanted o (yielded ops a.tmps) = true) (x : Operand) (ho : o.op = .load T x)
    (hx : a.eval x = .pointer (some ⟨g, 0, none⟩)) (h : Rec T w g cs) (kk : wpList P ops Q rest (a.put o.dst (.agg cs)) w) : wpList P ops Q (o :: rest) a w :=
  wpList_w hgd fun _ hK => by
    unfold Oper.wp execOp
    simp only [ho, hx, h.loadAt rt hn, Sem.run_bind, Sem.run_pure, Result.andThen_ok]
    exact hK _ _ kk
theorem wpList_stS {cs' : Array Value} (rt : RT P T n) (hn : cs.size = n) (hs : cs'.size = n) (h1 : cs'.all (·.oneCell') = true) (hgd : Region.wanted o (yielded ops a.tmps) = true) (x y : Operand) (ho : o.op = .store T x y)
    (hx : a.eval x = .pointer (some ⟨g, 0, none⟩)) (hy : a.eval y = .agg cs') (h : Rec T w g cs)
    (kk : ∀ w', Rec T w' g cs' → Fr (· = g) w w' → wpList P ops Q rest (a.put o.dst undef) w') : wpList P ops Q (o :: rest) a w :=
  wpList_w hgd fun _ hK => by
    obtain ⟨w', hrun, r1, r2⟩ := h.store rt hn cs' hs h1
    unfold Oper.wp execOp
    simp only [ho, hx, hy, hrun, Sem.run_bind, Sem.run_pure, Result.andThen_ok]
    exact hK _ _ (kk w' r1 r2)
/-- The store of a struct by value, as a step of a region that draws its order. -/
theorem step_stS {J : Act → World → Prop} {E : Prop} {cs' : Array Value} (rt : RT P T n) (hn : cs.size = n) (hs : cs'.size = n) (h1 : cs'.all (·.oneCell') = true) (hgd : o.guard = none) (x y : Operand) (ho : o.op = .store T x y)
    (hx : a.eval x = .pointer (some ⟨g, 0, none⟩)) (hy : a.eval y = .agg cs') (h : Rec T w g cs)
    (kk : ∀ w', Rec T w' g cs' → Fr (· = g) w w' → J (a.put o.dst undef) w') : if Region.wanted o (yielded ops a.tmps) = true then Oper.wp P o a w J Q else E := by
  have hw : Region.wanted o (yielded ops a.tmps) = true := by simp [Region.wanted, hgd]
  rw [if_pos hw]
  obtain ⟨w', hrun, r1, r2⟩ := h.store rt hn cs' hs h1
  unfold Oper.wp execOp
  simp only [ho, hx, hy, hrun, Sem.run_bind, Sem.run_pure, Result.andThen_ok]
  exact kk w' r1 r2

/-! ### results that lie in cells -/
variable {fn : Func} {p q u v : Tmp} {T' : TypeId} {tmps : Array Value} {ad ad' : Addr} {x y : Value}
theorem res_c (h : fn.results = #[.cell p T]) (hp : tmps.getD p undef = .pointer (some ad)) (hl : (loadVar T ad).run P w = .ok x w) : (results fn tmps).run P w = .ok x w := by
  rw [Array.getD_eq_getD_getElem?] at hp
  simp only [results, h]
  simp [hp, asAddr, hl]
theorem res_ct (h : fn.results = #[.cell p T, .tmp u]) (hp : tmps.getD p undef = .pointer (some ad)) (hl : (loadVar T ad).run P w = .ok x w) : (results fn tmps).run P w = .ok (.tuple #[x, tmps.getD u undef]) w := by
  rw [Array.getD_eq_getD_getElem?] at hp
  rw [results_cell_tmp h]
  simp [hp, asAddr, hl, Result.andThen]
theorem res_cct (h : fn.results = #[.cell p T, .cell q T', .tmp u]) (hp : tmps.getD p undef = .pointer (some ad)) (hl : (loadVar T ad).run P w = .ok x w) (hq : tmps.getD q undef = .pointer (some ad')) (hl' : (loadVar T' ad').run P w = .ok y w) :
    (results fn tmps).run P w = .ok (.tuple #[x, y, tmps.getD u undef]) w := by
  rw [Array.getD_eq_getD_getElem?] at hp hq
  simp only [results, h]
  simp [Sem.run_bind, Result.andThen, hp, hq, asAddr, hl, hl']
end
end Go.Proofs.Ytndnmcdbfjgglaa
