/- The contract of seal's sealed. -/
import Derived.Test.YtlafeobiodolbaaSeal2
import Derived.Test.YtlafeobiodolbaaCrc3
import Derived.Laws.ResultCell
namespace Go.Proofs.Ytlafeobiodolbaa
open Go.RowKit

theorem zsec (w : World) : (zeroValue 41).run Try.prog w = .ok (.agg (cells (zeros 512)).toArray) w := (zero_of_info (P := Try.prog) (t := 41) (n := 512) (by kernel_rfl)).1 w

/-- Block g holds a Seal with these fields. -/
def SealAt (w : World) (g : Nat) (e n k : Int) (A : Option Addr) (m c : Nat) : Prop := w.heap[g]? = some (.cells #[.int .i64 e, .int .i64 n, .int .i64 k, .slice A m c] 24 (0, 0))
section
variable {w w' : World} {g : Nat} {e n k : Int} {A : Option Addr} {m c : Nat}
theorem SealAt.h0 (h : SealAt w g e n k A m c) : w.cell? ⟨g, 0, none⟩ = some (.int .i64 e) := by rw [cell_of_row _ _ 0 _ _ _ h]; rfl
theorem SealAt.h1 (h : SealAt w g e n k A m c) : w.cell? ⟨g, 1, none⟩ = some (.int .i64 n) := by rw [cell_of_row _ _ 1 _ _ _ h]; rfl
theorem SealAt.h2 (h : SealAt w g e n k A m c) : w.cell? ⟨g, 2, none⟩ = some (.int .i64 k) := by rw [cell_of_row _ _ 2 _ _ _ h]; rfl
theorem SealAt.h3 (h : SealAt w g e n k A m c) : w.cell? ⟨g, 3, none⟩ = some (.slice A m c) := by rw [cell_of_row _ _ 3 _ _ _ h]; rfl
theorem SealAt.fz (h : SealAt w g e n k A m c) (j : Nat) : w.frozen? ⟨g, j, none⟩ = false := frozen_of_row w g j _ _ h
theorem SealAt.lt (h : SealAt w g e n k A m c) : g < w.heap.size := (Array.getElem?_eq_some_iff.1 h).1
theorem SealAt.below {B : Nat} (h : SealAt w g e n k A m c) (hb : Below B w w') (hB : g < B) : SealAt w' g e n k A m c := (hb.block g hB).trans h
theorem SealAt.alloc (h : SealAt w g e n k A m c) (o : Obj) : SealAt (w.alloc o) g e n k A m c := h.below ((Below.refl w.heap.size w).alloc (Nat.le_refl _) o) h.lt
theorem SealAt.drew (h : SealAt w g e n k A m c) : SealAt w.drew g e n k A m c := h
theorem SealAt.new (w : World) : SealAt (w.alloc (.cells #[.int .i64 e, .int .i64 n, .int .i64 k, .slice A m c] 24)) w.heap.size e n k A m c := heap_alloc_last w _
/-- A Seal, read out of its block. -/
theorem SealAt.load (h : SealAt w g e n k A m c) : (Instr.loadAt 24 (.pointer (some ⟨g, 0, none⟩))).run Try.prog w = .ok (.agg #[.int .i64 e, .int .i64 n, .int .i64 k, .slice A m c]) w := by
  refine run_loadAt_mid w g 0 24 [.int .i64 e, .int .i64 n, .int .i64 k, .slice A m c] _ (fun j v hj => ?_) Try.underlying24 rfl (by kernel_rfl)
  rw [Nat.zero_add, cell_of_row _ g j _ _ _ h, ← hj]
  simp
/-- A Seal, laid into its block. -/
theorem SealAt.store {e' n' k' : Int} {A' : Option Addr} {m' c' : Nat} (h : SealAt w g e n k A m c) : ∃ w', (Instr.storeAt 24 (.pointer (some ⟨g, 0, none⟩)) (.agg #[.int .i64 e', .int .i64 n', .int .i64 k', .slice A' m' c'])).run Try.prog w = .ok () w' ∧ SealAt w' g e' n' k' A' m' c' ∧ Below g w w' ∧ ∀ k, k ≠ g → w'.heap[k]? = w.heap[k]? := by
  refine ⟨w.setRow g #[.int .i64 e', .int .i64 n', .int .i64 k', .slice A' m' c'], ?_, setRow_heap w g _ _ _ _ h, below_setRow (Below.refl g w) (Nat.le_refl g) _, fun k hk => setRow_other w g k _ (by omega)⟩
  simp only [Instr.storeAt, Instr.sureAddr, Sem.run_bind, Sem.run_pure, Result.andThen_ok]
  exact run_storeVar_row w g 24 24 _ _ h (by kernel_rfl) rfl (by simp [Value.oneCell'])
theorem wpList_ldseal {ops : Array Oper} {rest : List Oper} {o : Oper} {a : Act} {Q : Exit → Act → World → Prop} (hgd : Region.wanted o (yielded ops a.tmps) = true) (x : Operand) (ho : o.op = .load 24 x)
    (hx : a.eval x = .pointer (some ⟨g, 0, none⟩)) (h : SealAt w g e n k A m c) (kk : wpList Try.prog ops Q rest (a.put o.dst (.agg #[.int .i64 e, .int .i64 n, .int .i64 k, .slice A m c])) w) : wpList Try.prog ops Q (o :: rest) a w :=
  wpList_w hgd fun _ hK => by
    unfold Oper.wp execOp
    simp only [ho, hx, h.load, Sem.run_bind, Sem.run_pure, Result.andThen_ok]
    exact hK _ _ kk
theorem wpList_stseal {ops : Array Oper} {rest : List Oper} {o : Oper} {a : Act} {Q : Exit → Act → World → Prop} (hgd : Region.wanted o (yielded ops a.tmps) = true) (x y : Operand) (ho : o.op = .store 24 x y)
    {e' n' k' : Int} {A' : Option Addr} {m' c' : Nat} (hx : a.eval x = .pointer (some ⟨g, 0, none⟩)) (hy : a.eval y = .agg #[.int .i64 e', .int .i64 n', .int .i64 k', .slice A' m' c']) (h : SealAt w g e n k A m c)
    (kk : ∀ w', SealAt w' g e' n' k' A' m' c' → Below g w w' → (∀ k, k ≠ g → w'.heap[k]? = w.heap[k]?) → wpList Try.prog ops Q rest (a.put o.dst undef) w') : wpList Try.prog ops Q (o :: rest) a w :=
  wpList_w hgd fun _ hK => by
    obtain ⟨w', hrun, h1, h2, h3⟩ := h.store (e' := e') (n' := n') (k' := k') (A' := A') (m' := m') (c' := c')
    unfold Oper.wp execOp
    simp only [ho, hx, hy, hrun, Sem.run_bind, Sem.run_pure, Result.andThen_ok]
    exact hK _ _ (kk w' h1 h2 h3)
/-- A Seal handed back by value. -/
theorem res_seal {fn : Func} {p : Tmp} (h : fn.results = #[.cell p 24]) {tmps : Array Value} (hp : tmps.getD p undef = .pointer (some ⟨g, 0, none⟩)) (hs : SealAt w g e n k A m c) :
    (results fn tmps).run Try.prog w = .ok (.agg #[.int .i64 e, .int .i64 n, .int .i64 k, .slice A m c]) w := by
  have h1 := hs.load
  simp only [Instr.loadAt, Instr.sureAddr, Sem.run_bind, Sem.run_pure, Result.andThen_ok] at h1
  rw [Array.getD_eq_getD_getElem?] at hp
  simp only [results, h]
  simp [hp, asAddr, h1]
theorem res_seal_tmp {fn : Func} {p u : Tmp} (h : fn.results = #[.cell p 24, .tmp u]) {tmps : Array Value} (hp : tmps.getD p undef = .pointer (some ⟨g, 0, none⟩)) (hs : SealAt w g e n k A m c) :
    (results fn tmps).run Try.prog w = .ok (.tuple #[.agg #[.int .i64 e, .int .i64 n, .int .i64 k, .slice A m c], tmps.getD u undef]) w := by
  have h1 := hs.load
  simp only [Instr.loadAt, Instr.sureAddr, Sem.run_bind, Sem.run_pure, Result.andThen_ok] at h1
  rw [results_cell_tmp h]
  rw [Array.getD_eq_getD_getElem?] at hp
  simp [hp, asAddr, h1, Result.andThen]
end
theorem Sec.new (w : World) (l : List UInt8) (hl : l.length = 512) : Sec (w.alloc (.cells (cells l).toArray 41)) w.heap.size l := ⟨hl, heap_alloc_last w _⟩

theorem Sec.load {w : World} {g : Nat} {l : List UInt8} (h : Sec w g l) : (Instr.loadAt 41 (.pointer (some ⟨g, 0, none⟩))).run Try.prog w = .ok (.agg (cells l).toArray) w := by
  refine run_loadAt_mid w g 0 41 (cells l) _ (fun j v hj => ?_) Try.underlying41 rfl ?_
  · have hj' : j < l.length := by have := (List.getElem?_eq_some_iff.1 hj).1; simpa using this
    rw [Nat.zero_add, h.cell j hj', ← hj, cells_get hj']
  · rw [cells_length, h.1]; kernel_rfl
theorem Sec.store {w : World} {g : Nat} {l l' : List UInt8} (h : Sec w g l) (hl : l'.length = 512) : ∃ w', (Instr.storeAt 41 (.pointer (some ⟨g, 0, none⟩)) (.agg (cells l').toArray)).run Try.prog w = .ok () w' ∧ Sec w' g l' ∧ Below g w w' := by
  refine ⟨w.setRow g (cells l').toArray, ?_, ⟨hl, setRow_heap w g _ _ _ _ h.2⟩, below_setRow (Below.refl g w) (Nat.le_refl g) _⟩
  simp only [Instr.storeAt, Instr.sureAddr, Sem.run_bind, Sem.run_pure, Result.andThen_ok]
  exact run_storeVar_row w g 41 41 _ _ h.2 (by rw [List.size_toArray, cells_length, hl]; kernel_rfl) (by simp [h.1, hl]) (Array.all_eq_true_iff_forall_mem.2 fun v hv => cells_one l' v (by simpa using hv))

theorem wpList_ldsec {ops : Array Oper} {rest : List Oper} {o : Oper} {a : Act} {w : World} {Q : Exit → Act → World → Prop} (hgd : o.guard = none) (x : Operand) (ho : o.op = .load 41 x)
    (g : Nat) (l : List UInt8) (hx : a.eval x = .pointer (some ⟨g, 0, none⟩)) (h : Sec w g l) (k : wpList Try.prog ops Q rest (a.put o.dst (.agg (cells l).toArray)) w) : wpList Try.prog ops Q (o :: rest) a w :=
  wpList_plain hgd fun _ hK => by
    unfold Oper.wp execOp
    simp only [ho, hx, h.load, Sem.run_bind, Sem.run_pure, Result.andThen_ok]
    exact hK _ _ k
theorem wpList_stsec {ops : Array Oper} {rest : List Oper} {o : Oper} {a : Act} {w : World} {Q : Exit → Act → World → Prop} (hgd : o.guard = none) (x y : Operand) (ho : o.op = .store 41 x y)
    (g : Nat) (l l' : List UInt8) (hx : a.eval x = .pointer (some ⟨g, 0, none⟩)) (hy : a.eval y = .agg (cells l').toArray) (h : Sec w g l) (hl : l'.length = 512)
    (k : ∀ w', Sec w' g l' → Below g w w' → wpList Try.prog ops Q rest (a.put o.dst undef) w') : wpList Try.prog ops Q (o :: rest) a w :=
  wpList_plain hgd fun _ hK => by
    obtain ⟨w', hrun, h1, h2⟩ := h.store hl
    unfold Oper.wp execOp
    simp only [ho, hx, hy, hrun, Sem.run_bind, Sem.run_pure, Result.andThen_ok]
    exact hK _ _ (k w' h1 h2)

/-- A sector handed back by value. -/
theorem res_sec {fn : Func} {p : Tmp} (h : fn.results = #[.cell p 41]) {tmps : Array Value} {w : World} {g : Nat} {l : List UInt8} (hp : tmps.getD p undef = .pointer (some ⟨g, 0, none⟩)) (hs : Sec w g l) :
    (results fn tmps).run Try.prog w = .ok (.agg (cells l).toArray) w := by
  have h1 := hs.load
  simp only [Instr.loadAt, Instr.sureAddr, Sem.run_bind, Sem.run_pure, Result.andThen_ok] at h1
  rw [Array.getD_eq_getD_getElem?] at hp
  simp only [results, h]
  simp [hp, asAddr, h1]

section
variable (g : Nat) (l : List UInt8) (x : Nat) (n : Int) (w : World)
theorem put8 (h : Sec w g l) (hx : x + 8 ≤ 512) :
    Calls Try.prog 31 #[.pointer (some ⟨g, 0, none⟩), .int .i64 x, .int .i64 8, .int .i64 n] w fun e w' => e = .returned (.tuple #[]) ∧ Sec w' g (putL l x (numB 8 n)) ∧ Below g w w' := put_any g l x 8 n w h hx
theorem put4 (h : Sec w g l) (hx : x + 4 ≤ 512) :
    Calls Try.prog 31 #[.pointer (some ⟨g, 0, none⟩), .int .i64 x, .int .i64 4, .int .i64 n] w fun e w' => e = .returned (.tuple #[]) ∧ Sec w' g (putL l x (numB 4 n)) ∧ Below g w w' := put_any g l x 4 n w h hx
theorem put2 (h : Sec w g l) (hx : x + 2 ≤ 512) :
    Calls Try.prog 31 #[.pointer (some ⟨g, 0, none⟩), .int .i64 x, .int .i64 2, .int .i64 n] w fun e w' => e = .returned (.tuple #[]) ∧ Sec w' g (putL l x (numB 2 n)) ∧ Below g w w' := put_any g l x 2 n w h hx
theorem put1 (h : Sec w g l) (hx : x + 1 ≤ 512) :
    Calls Try.prog 31 #[.pointer (some ⟨g, 0, none⟩), .int .i64 x, .int .i64 1, .int .i64 n] w fun e w' => e = .returned (.tuple #[]) ∧ Sec w' g (putL l x (numB 1 n)) ∧ Below g w w' := put_any g l x 1 n w h hx
end
theorem wrapEq (x : Int) : IntKind.i64.wrap x = wrap64 x := by simp only [IntKind.wrap_i64, wrap64]
theorem wrap_u32 (s : Nat) (h : s < 4294967296) : IntKind.i64.wrap (s : Int) = s := by
  rw [wrapEq]
  exact IntWalk.wrap64_in _ ⟨by omega, by omega⟩
theorem snearest_nr (n hi : Int) (w : World) :
    Calls Try.prog 30 #[.int .i64 n, .int .i64 0, .int .i64 hi] w fun e w' => e = .returned (.int .i64 (nr n hi)) ∧ w = w' := snearest_any n 0 hi w

theorem sealed_any (e n k : Int) (A : Option Addr) (m c : Nat) (body : List UInt8) (w : World) (hr : Rd w A m body) :
    Calls Try.prog 21 #[.agg #[.int .i64 e, .int .i64 n, .int .i64 k, .slice A m c]] w fun ed w' => ed = .returned (.agg (cells (sectorOf e n k body)).toArray) ∧ Below w.heap.size w w' := by
  have hz := zsec
  obtain ⟨g, hg⟩ : ∃ g, g = w.heap.size := ⟨_, rfl⟩
  obtain ⟨w1, hw1⟩ : ∃ w1, w1 = ((w.alloc (.cells #[.int .i64 e, .int .i64 n, .int .i64 k, .slice A m c] 24)).alloc (.cells (cells (zeros 512)).toArray 41)).alloc (.cells (cells (zeros 512)).toArray 41) := ⟨_, rfl⟩
  have hB1 : Below g w w1 := by
    rw [hw1, hg]
    exact (((Below.refl _ _).alloc (Nat.le_refl _) _).alloc (by simp) _).alloc (by simp; omega) _
  have hS1 : SealAt w1 g e n k A m c := by rw [hw1, hg]; exact ((SealAt.new w).alloc _).alloc _
  have hR1 : Sec w1 (g + 1) (zeros 512) := by
    rw [hw1, hg]
    have := Sec.new (w.alloc (.cells #[.int .i64 e, .int .i64 n, .int .i64 k, .slice A m c] 24)) (zeros 512) (zeros_length _)
    rw [World.size_alloc] at this
    exact this.alloc _
  have hC1 : Sec w1 (g + 1 + 1) (zeros 512) := by
    rw [hw1, hg]
    have := Sec.new ((w.alloc (.cells #[.int .i64 e, .int .i64 n, .int .i64 k, .slice A m c] 24)).alloc (.cells (cells (zeros 512)).toArray 41)) (zeros 512) (zeros_length _)
    rw [World.size_alloc, World.size_alloc] at this
    exact this
  have hr1 : Rd w1 A m body := hr.below (Nat.le_of_eq hg.symm) hB1
  have hgA : 0 < m → ∃ b o, A = some ⟨b, o, none⟩ ∧ b < g + 1 + 1 := fun h0 => by
    obtain ⟨b, o, e1, e2, _⟩ := hr.2 h0
    exact ⟨b, o, e1, by omega⟩
  go_enter Try.func21, Try.ntmps21
  go_wp2
  rw [← hw1, ← hg]
  clear hw1 hz
  have HG := Lib.hid hg
  clear hg
  have k0 := hS1.h0
  have k1 := hS1.h1
  have k2 := hS1.h2
  have k3 := hS1.h3
  clear hS1
  go_region_held3 (fun w' => w'.cell? ⟨g, 0, none⟩ = some (.int .i64 e) ∧ w'.cell? ⟨g, 1, none⟩ = some (.int .i64 n)) (go_keep)
    (first | (go_at_call 30; refine (snearest_nr _ _ _).mono ?_; rintro e w' ⟨rfl, rfl⟩))
  clear k0 k1
  have hB0 : Below (g + 1 + 1) w1 w1.drew := (Below.refl _ _).drew
  go_wp2_with fail
  refine (put8 (g + 1 + 1) _ 0 _ _ hC1.drew (by omega)).mono ?_
  rintro ed w2 ⟨rfl, hC2, hb2⟩
  replace hb2 := hB0.trans hb2
  clear hC1 hB0
  go_wp2_with fail
  refine (put8 (g + 1 + 1) _ 8 _ _ hC2 (by omega)).mono ?_
  rintro ed w3 ⟨rfl, hC3, hb3⟩
  replace hb3 := hb2.trans hb3
  clear hC2 hb2
  have k2' := (hb3.cell (p := ⟨g, 2, none⟩) (by show g < g + 1 + 1; omega)).trans k2
  clear k2
  go_wp2_with (go_at_call 30; refine (snearest_nr _ _ _).mono ?_; rintro e w' ⟨rfl, rfl⟩)
  refine (put1 (g + 1 + 1) _ 20 _ _ hC3 (by omega)).mono ?_
  rintro ed w4 ⟨rfl, hC4, hb4⟩
  replace hb4 := hb3.trans hb4
  clear hC3 hb3 k2'
  have k3' := (hb4.cell (p := ⟨g, 3, none⟩) (by show g < g + 1 + 1; omega)).trans k3
  have hr4 := hr1.below' hb4 hgA
  clear k3 hr1
  go_wp2
  go_region_held3 (fun w' => w'.cell? ⟨g, 3, none⟩ = some (.slice A m c)) (first | exact k6 | exact k5 | exact k3') (first
    | (refine step_cpy_sec rfl (.tmp 20) (.tmp 22) rfl (g + 1 + 1) 24 472 488 _ rfl (by omega) hC4.drew A m c body rfl hr4.drew ?_; intro w5 hC5 hb5; have k5 := (hb5.cell (p := ⟨g, 3, none⟩) (by show g < g + 1 + 1; omega)).trans k3')
    | (go_at_call 31; refine (put2 (g + 1 + 1) _ 22 _ _ hC5 (by omega)).mono ?_; rintro ed w6 ⟨rfl, hC6, hb6⟩; have k6 := (hb6.cell (p := ⟨g, 3, none⟩) (by show g < g + 1 + 1; omega)).trans k5))
  replace hb6 := ((hb4.trans (Below.refl _ _).drew).trans hb5).trans hb6
  clear hC4 hC5 hb4 hb5 hr4 k3' k5 k6
  go_wp2_with fail
  refine (put8 (g + 1 + 1) _ 496 _ _ hC6 (by omega)).mono ?_
  rintro ed w7 ⟨rfl, hC7, hb7⟩
  replace hb7 := hb6.trans hb7
  clear hC6 hb6
  go_wp2_with fail
  refine (put8 (g + 1 + 1) _ 504 _ _ hC7 (by omega)).mono ?_
  rintro ed w8 ⟨rfl, hC8, hb8⟩
  replace hb8 := hb7.trans hb8
  clear hC7 hb7
  have hbl : (min 472 body.length : Nat) = (body.take 472).length := by simp
  rw [hbl, filled _ _ _ _ (b_le body)] at hC8
  clear hbl
  have q1 := hC8.drew.rd (p := 0) (m := 16) (by omega)
  have q2 := hC8.drew.rd (p := 20) (m := 492) (by omega)
  rw [List.drop_zero, unsummed_front] at q1
  rw [unsummed_rest, List.take_of_length_le (by rw [restL_length]; omega)] at q2
  go_wp2
  have hs := sumL_lt (frontL (nr e 281474976710656) (nr n 281474976710656) ++ restL (nr e 281474976710656) (nr n 281474976710656) (nr k 255) (body.take 472))
  obtain ⟨sm, hsm⟩ : ∃ sm, sm = sumL (frontL (nr e 281474976710656) (nr n 281474976710656) ++ restL (nr e 281474976710656) (nr n 281474976710656) (nr k 255) (body.take 472)) := ⟨_, rfl⟩
  have c2 := Of_two _ _ 16 492 512 492 _ _ _ q1 q2 (by omega) (by omega) _ rfl 22 (0, 0)
  rw [← hsm] at hs c2
  have C2 := Lib.hid c2
  have HSM := Lib.hid hsm
  clear c2 hsm
  go_region_held3 (fun _ => True) (trivial) (first
    | (go_at_call 32; refine C2.out.mono ?_; rintro ed w9 ⟨rfl, rfl⟩)
    | (go_at_call 31; refine (put4 (g + 1 + 1) _ 16 _ _ (hC8.drew.alloc _) (by omega)).mono ?_; rintro ed w9 ⟨rfl, hC9, hb9⟩))
  rw [wrap_u32 sm hs, HSM.out, summed] at hC9
  replace hb9 := (((hb8.trans (Below.refl _ _).drew).alloc (Nat.le_of_lt hC8.lt) _)).trans hb9
  clear C2 HSM hs q1 q2 hC8 hb8
  have hR9 := hR1.below hb9 (by omega)
  go_wp2_with (first
    | (refine wpList_ldsec rfl (.tmp 3) rfl (g + 1 + 1) _ rfl hC9 ?_)
    | (refine wpList_stsec rfl (.tmp 2) (.tmp 35) rfl (g + 1) _ _ rfl rfl hR9 hC9.1 ?_; intro w10 hR10 hb10)
    | (refine bodyPost_ret (res_sec rfl rfl hR10) rfl ?_; exact ⟨rfl, HG.out ▸ hB1.trans ((hb9.mono (by omega)).trans (hb10.mono (by omega)))⟩))
end Go.Proofs.Ytlafeobiodolbaa
