/- Mem, Own, DMem, RowV -/
import Derived.Test.YtnjfogeefdmlkaaDoorRows
import Derived.WalkKit
import Derived.ProofKit
import Derived.OpenShut
import Derived.WalkLawsBesides
import Derived.WalkSpells
import Derived.Lib.Hide
import Derived.Lib.AppendStr
import Derived.Laws.BytesArg
import Derived.Laws.IdiomStrings
import Derived.Laws.OwnMore
import Derived.Laws.AppendOwnNone
import Derived.Laws.CopyOwn
import Derived.Maps.AppendAt
import Derived.Deep.AppendLies
import Derived.Deep.Draws
import Derived.RegionTactic
import Derived.Handy
import Derived.OwnWalk
import Derived.Maps.RangeWalk
namespace Go.Proofs.YtnjfogeefdmlkaaDoor
open Go.RowKit

theorem ret_int {k : IntKind} {a b : Int} (h : a = b) : Ending.returned (.int k a) = .returned (.int k b) := by rw [h]
theorem ret_bool {a b : Bool} (h : a = b) : Ending.returned (.bool a) = .returned (.bool b) := by rw [h]

/-- The bytes as cells of memory. -/
def cells (l : List UInt8) : List Value := l.map fun b => Value.int .u8 (b.toNat : Int)

@[simp] theorem cells_length (l : List UInt8) : (cells l).length = l.length := by simp [cells]
theorem cells_append (l m : List UInt8) : cells (l ++ m) = cells l ++ cells m := by simp [cells]
theorem cells_nil : cells [] = [] := rfl
theorem cells_one (l : List UInt8) : ∀ u ∈ cells l, u.oneCell' = true := by
  intro u hu
  obtain ⟨_, _, rfl⟩ := List.mem_map.1 hu
  rfl
theorem cells_get {l : List UInt8} {j : Nat} (h : j < l.length) : (cells l)[j]? = some (.int .u8 (l[j].toNat : Int)) := by
  simp [cells, h]
theorem cells_take (l : List UInt8) (n : Nat) : cells (l.take n) = (cells l).take n := by simp [cells, List.map_take]
theorem cells_drop (l : List UInt8) (n : Nat) : cells (l.drop n) = (cells l).drop n := by simp [cells, List.map_drop]

theorem block_add (a : Addr) (n : Nat) : (a.add n).block = a.block := by unfold Addr.add; split <;> rfl
theorem add_add' (a : Addr) (i j : Nat) : (a.add i).add j = a.add (i + j) := by
  unfold Addr.add
  by_cases hi : i = 0 <;> by_cases hj : j = 0 <;> simp [hi, hj, Nat.add_assoc]

/-- The slice with address A and length n reads as the bytes l. -/
def Rd (w : World) (A : Option Addr) (n : Nat) (l : List UInt8) : Prop :=
  l.length = n ∧ (0 < n → ∃ b o, A = some ⟨b, o, none⟩ ∧ b < w.heap.size ∧ ∀ j (h : j < l.length), w.cell? ⟨b, o + j, none⟩ = some (.int .u8 (l[j].toNat : Int)))

section
variable {w w' : World} {A : Option Addr} {n : Nat} {l : List UInt8}

theorem Rd.len (h : Rd w A n l) : l.length = n := h.1
theorem Rd.nil (w : World) (A : Option Addr) : Rd w A 0 [] := ⟨rfl, fun h => absurd h (by omega)⟩

theorem Rd.below {B : Nat} (h : Rd w A n l) (hB : w.heap.size ≤ B) (hb : Below B w w') : Rd w' A n l :=
  ⟨h.1, fun hn => by
    obtain ⟨b, o, e, hlt, hc⟩ := h.2 hn
    exact ⟨b, o, e, by have := hb.size; omega, fun j hj => (hb.cell (p := ⟨b, o + j, none⟩) (by simp; omega)).trans (hc j hj)⟩⟩
theorem Rd.drew (h : Rd w A n l) : Rd w.drew A n l := h
theorem Rd.alloc (h : Rd w A n l) (o : Obj) : Rd (w.alloc o) A n l := h.below (Nat.le_refl _) ((Below.refl _ _).alloc (Nat.le_refl _) o)
theorem Rd.at_ (h : Rd w A n l) {k : Nat} (hk : k < n) : ∃ b o, A = some ⟨b, o, none⟩ ∧ b < w.heap.size ∧ w.cell? ⟨b, o + k, none⟩ = some (.int .u8 ((l[k]'(by have := h.1; omega)).toNat : Int)) := by
  obtain ⟨b, o, e, hlt, hc⟩ := h.2 (by omega)
  exact ⟨b, o, e, hlt, hc k (by have := h.1; omega)⟩

theorem Rd.of_own {base : Nat} {e : TypeId} {v : Value} {xs : List Value} (h : w.ownsRow base e 1 v n xs) (hx : xs = cells l) : ∃ A c, v = .slice A n c ∧ n ≤ c ∧ c ≤ maxLen ∧ Rd w A n l := by
  subst hx
  have hl : l.length = n := by have := h.1; simpa using this
  rcases h.2 with ⟨rfl, rfl⟩ | ⟨g, cap, cur, rfl, _, hh, hn, hc, _⟩
  · exact ⟨none, 0, rfl, Nat.le_refl _, Nat.zero_le _, hl, fun h => absurd h (by omega)⟩
  · refine ⟨_, cap, rfl, hn, hc, hl, fun _ => ⟨g, 0, rfl, (Array.getElem?_eq_some_iff.1 hh).1, fun j hj => ?_⟩⟩
    have h1 := h.cells (g := g) rfl j _ (cells_get hj)
    rw [Addr.add_lit] at h1
    exact h1

theorem Rd.cells_at {a : Addr} (h : Rd w (some a) n l) : ∀ j u, (cells l)[j]? = some u → w.cell? (a.add j) = some u := by
  intro j u hu
  have hj : j < l.length := by have := (List.getElem?_eq_some_iff.1 hu).1; simpa using this
  obtain ⟨b, o, e, _, hc⟩ := h.2 (by have := h.1; omega)
  injection e with e
  subst e
  rw [Addr.add_lit, hc j hj, ← cells_get hj, hu]

/-- A part of a slice: [lo:lo+m], the model's way to write where it begins. -/
theorem Rd.part {lo m : Nat} (h : Rd w A n l) (hlo : lo + m ≤ n) (A' : Option Addr) (hA : 0 < m → ∀ b o, A = some ⟨b, o, none⟩ → A' = some ⟨b, o + lo, none⟩) : Rd w A' m ((l.drop lo).take m) := by
  have hl := h.1
  refine ⟨by simp; omega, fun hm => ?_⟩
  obtain ⟨b, o, e, hlt, hc⟩ := h.2 (by omega)
  refine ⟨b, o + lo, hA hm b o e, hlt, fun j hj => ?_⟩
  have hj' : j < m := by simp at hj; omega
  rw [Nat.add_assoc, hc (lo + j) (by omega)]
  simp
end

/-- A string of these bytes. -/
def str (l : List UInt8) : ByteArray := ⟨l.toArray⟩

theorem run_to_string {P : Program} (src dst e : TypeId) (hs : P.underlying src = some (.slice e)) (he : P.underlying e = some (.int .u8)) (hd : P.underlying dst = some .string)
    (w : World) (A : Option Addr) (n c : Nat) (l : List UInt8) (h : Rd w A n l) : (convert src dst (.slice A n c)).run P w = .ok (.string (str l)) w := by
  obtain ⟨hl, hr⟩ := h
  subst hl
  by_cases h0 : l = []
  · subst h0
    cases A with
    | none => exact run_convert_bytes_nil w src e hs he 0 c dst hd
    | some a => exact run_convert_bytes_back w src dst e a c [] hs he hd (fun j hj => by simp at hj)
  · have hpos : 0 < l.length := List.length_pos_iff.2 h0
    obtain ⟨b, o, rfl, _, hc⟩ := hr hpos
    exact run_convert_bytes_back w src dst e _ c l hs he hd (fun j hj => by rw [Addr.add_lit]; exact hc j hj)

/-- What the laws on append and make ask of a slice type T and its element type e. -/
structure El (P : Program) (T e : TypeId) (z : Value) (size bytes : Nat) : Prop where
  und : P.underlying T = some (.slice e)
  info : (P.info? e).map (fun i => (i.zero, i.size, i.bytes)) = some (some z, size, bytes)
  zs : z.cells.size = size
  pos : 0 < size

theorem below_own {w w' : World} {B : Nat} {e : TypeId} {size n : Nat} {v : Value} {xs : List Value} (h : w.ownsRow B e size v n xs) (hB : B ≤ w.heap.size) (hg : w.grownBy w' v.ownBlock) : Below B w w' :=
  (Below.refl _ _).grown hg hB (fun k hk => (h.lt k hk).1)

/-- What is owned stays owned where nothing that was there is turned. -/
theorem own_keep {w w' : World} {B : Nat} {e : TypeId} {size n : Nat} {v : Value} {xs : List Value} (h : w.ownsRow B e size v n xs) (hb : Below w.heap.size w w') : w'.ownsRow B e size v n xs :=
  ⟨h.1, h.2.elim .inl fun ⟨g, cap, cur, e1, e2, hh, r⟩ => .inr ⟨g, cap, cur, e1, e2, (hb.block g (Array.getElem?_eq_some_iff.1 hh).1).trans hh, r⟩⟩

/-- An operation that is wanted (it has no guard, or its guard says yes). -/
theorem wpList_w {P : Program} {ops : Array Oper} {Q : Exit → Act → World → Prop} {a : Act} {w : World} {rest : List Oper} {o : Oper} (hw : Region.wanted o (yielded ops a.tmps) = true)
    (h : ∀ K : Act → World → Prop, (∀ a w, wpList P ops Q rest a w → K a w) → o.wp P a w K Q) : wpList P ops Q (o :: rest) a w :=
  wpList_step fun K hK => by rw [if_pos hw]; exact h K hK

section
variable {P : Program} (w : World)

theorem run_app_nil (base : Nat) (t ty e : TypeId) (i : TypeInfo) (size : Nat) (ht : P.underlying t = some (.slice e)) (hi : P.info? e = some i)
    (v : Value) (n : Nat) (xs : List Value) (hown : w.ownsRow base e size v n xs) (c : Nat) : (Builtin.append_ #[t, t] ty #[v, .slice none 0 c]).run P w = .ok v w := by
  rcases hown.2 with ⟨rfl, rfl⟩ | ⟨g, cap, cur, rfl, _, _, hnc, _⟩
  · simp [Builtin.append_, run_underlying ht, sizeOf, typeInfo, hi, Builtin.lenOf, Builtin.firstCells]
  · simp [Builtin.append_, run_underlying ht, sizeOf, typeInfo, hi, Builtin.lenOf, Builtin.firstCells, hnc, storeCells]

/-- 'append(v, x...)': v owned from B on, x any slice of bytes. -/
theorem run_app {T e : TypeId} (el : El P T e (.int .u8 0) 1 1) (ty : TypeId) (B : Nat) (v : Value) (n : Nat) (xs : List Value) (hown : w.ownsRow B e 1 v n xs)
    (A : Option Addr) (m c : Nat) (l : List UInt8) (hr : Rd w A m l) (hb : n + m ≤ 140737488355328) (hB : B ≤ w.heap.size) :
    ∃ v' w', (Builtin.append_ #[T, T] ty #[v, .slice A m c]).run P w = .ok v' w' ∧ w'.ownsRow B e 1 v' (n + m) (xs ++ cells l) ∧ Below B w w' := by
  obtain ⟨i, hi, hz, h1, h2⟩ := info_parts el.info
  rcases A with _ | ad
  · have hm : m = 0 := by
      rcases Nat.eq_zero_or_pos m with h0 | h0
      · exact h0
      · obtain ⟨_, _, h, _⟩ := hr.2 h0
        cases h
    subst hm
    have hn : l = [] := List.eq_nil_of_length_eq_zero hr.1
    subst hn
    exact ⟨v, w, run_app_nil w B T ty e i 1 el.und hi v n xs hown c, by simpa [cells_nil] using hown, Below.refl _ _⟩
  · obtain ⟨v', w', hrun, ho, hg, _⟩ := run_append_own (P := P) w B T ty e i (.int .u8 0) 1 1 el.und hi hz h1 h2 rfl (by decide) v n xs hown ad m c (cells l) (by simp [hr.1]) hr.cells_at (cells_one l)
      (by unfold maxLen; omega) (by omega) hB
    exact ⟨v', w', hrun, ho, below_own hown hB hg⟩

theorem wpList_app {T e : TypeId} (el : El P T e (.int .u8 0) 1 1) {ops : Array Oper} {rest : List Oper} {o : Oper} {a : Act} {Q : Exit → Act → World → Prop} (hgd : Region.wanted o (yielded ops a.tmps) = true) (s x : Operand)
    (ho : o.op = .call { callee := .builtin .append, args := #[s, x], argTypes := #[T, T] })
    (B : Nat) (v : Value) (n : Nat) (xs : List Value) (hs : a.eval s = v) (hown : w.ownsRow B e 1 v n xs)
    (A : Option Addr) (m c : Nat) (l : List UInt8) (hx : a.eval x = .slice A m c) (hr : Rd w A m l) (hb : n + m ≤ 140737488355328) (hB : B ≤ w.heap.size)
    (h : ∀ v' w', w'.ownsRow B e 1 v' (n + m) (xs ++ cells l) → Below B w w' → wpList P ops Q rest (a.put o.dst v') w') : wpList P ops Q (o :: rest) a w :=
  wpList_w hgd fun _ hK => by
    obtain ⟨v', w', hrun, h2, h3⟩ := run_app w el o.type B v n xs hown A m c l hr hb hB
    unfold Oper.wp execOp
    simp only [ho, resolve, invoke, builtin, Sem.run_bind, Sem.run_pure, Result.andThen_ok, List.map_toArray, List.map_cons, List.map_nil, hs, hx, hrun]
    exact hK _ _ (h v' w' h2 h3)
end

/-- 'append(v, s...)': v owned from B on, s a string. -/
theorem wpList_apps {P : Program} (w : World) {T U e : TypeId} (el : El P T e (.int .u8 0) 1 1) (hu : P.underlying U = some .string) {ops : Array Oper} {rest : List Oper} {o : Oper} {a : Act} {Q : Exit → Act → World → Prop} (hgd : Region.wanted o (yielded ops a.tmps) = true) (x y : Operand)
    (ho : o.op = .call { callee := .builtin .append, args := #[x, y], argTypes := #[T, U] })
    (B : Nat) (v : Value) (n : Nat) (xs : List Value) (hs : a.eval x = v) (hown : w.ownsRow B e 1 v n xs)
    (s : ByteArray) (hx : a.eval y = .string s) (hb : n + s.size ≤ 140737488355328) (hB : B ≤ w.heap.size)
    (h : ∀ v' w', w'.ownsRow B e 1 v' (n + s.size) (xs ++ cells s.data.toList) → Below B w w' → wpList P ops Q rest (a.put o.dst v') w') : wpList P ops Q (o :: rest) a w :=
  wpList_w hgd fun _ hK => by
    obtain ⟨i, hi, hz, h1, h2⟩ := info_parts el.info
    obtain ⟨v', w', hrun, h2, h3, _⟩ := Lib.run_append_own_string (P := P) w B T U o.type e i el.und hu hi hz h1 h2 v n xs hown s (by unfold maxLen; omega) hb hB
    unfold Oper.wp execOp
    simp only [ho, resolve, invoke, builtin, Sem.run_bind, Sem.run_pure, Result.andThen_ok, List.map_toArray, List.map_cons, List.map_nil, hs, hx, hrun]
    exact hK _ _ (h v' w' h2 (below_own hown hB h3))

/-- 'make([]T, 0, n)'. -/
theorem wpList_mk {P : Program} (w : World) {T e : TypeId} {z : Value} {size bytes : Nat} (el : El P T e z size bytes) {ops : Array Oper} {rest : List Oper} {o : Oper} {a : Act} {Q : Exit → Act → World → Prop} (hgd : o.guard = none) (x y : Operand)
    (ho : o.op = Op.makeSlice T x y) (B : Nat) (kl kc : IntKind) (C : Int) (n : Nat) (hl : a.eval x = .int kl 0) (hc : a.eval y = .int kc C) (hC : C = (n : Int)) (hb : bytes * n ≤ 281474976710656) (hm : n ≤ maxLen) (hB : B ≤ w.heap.size)
    (h : ∀ v w', w'.ownsRow B e size v 0 [] → Below B w w' → wpList P ops Q rest (a.put o.dst v) w') : wpList P ops Q (o :: rest) a w := by
  obtain ⟨i, hi, hz, h1, h2⟩ := info_parts el.info
  refine wpList_make_own w hgd x y T ho B e i z size el.und hi hz h1 kl kc C n hl hc hC (by rw [h2]; exact hb) hm hB ?_
  intro w' hown hg
  exact h _ w' hown ((Below.refl _ _).grown hg hB (fun k hk => by cases hk))

/-- 'make([]T, n)'. -/
theorem wpList_mkn {P : Program} (w : World) {T e : TypeId} {z : Value} {size bytes : Nat} (el : El P T e z size bytes) {ops : Array Oper} {rest : List Oper} {o : Oper} {a : Act} {Q : Exit → Act → World → Prop} (hgd : o.guard = none) (x y : Operand)
    (ho : o.op = Op.makeSlice T x y) (B : Nat) (kl kc : IntKind) (L C : Int) (n : Nat) (hl : a.eval x = .int kl L) (hc : a.eval y = .int kc C) (hL : L = (n : Int)) (hC : C = (n : Int)) (hb : bytes * n ≤ 281474976710656) (hm : n ≤ maxLen) (hB : B ≤ w.heap.size)
    (h : ∀ w', w'.ownsRow B e size (.slice (some ⟨w.heap.size, 0, none⟩) n n) n (madeCells z.cells (n * size)).toList → Below B w w' → wpList P ops Q rest (a.put o.dst (.slice (some ⟨w.heap.size, 0, none⟩) n n)) w') : wpList P ops Q (o :: rest) a w := by
  obtain ⟨i, hi, hz, h1, h2⟩ := info_parts el.info
  refine wpList_make_full w hgd x y T ho B e i z size el.und hi hz h1 kl kc L C n hl hc hL hC (by rw [h2]; exact hb) hm hB ?_
  intro w' hown hg
  exact h w' hown ((Below.refl _ _).grown hg hB (fun k hk => by cases hk))

/-- A new block of bytes reads as them. -/
theorem Rd.new (w : World) (e : TypeId) (l : List UInt8) (fr : Nat × Nat) : Rd (w.alloc (.cells (cells l).toArray e fr)) (some ⟨w.heap.size, 0, none⟩) l.length l :=
  ⟨rfl, fun _ => ⟨w.heap.size, 0, rfl, by simp, fun j hj => by
    have h : (w.alloc (.cells (cells l).toArray e fr)).heap[w.heap.size]? = some (.cells (cells l).toArray e fr) := by
      show (w.heap.push _)[w.heap.size]? = _
      simp
    rw [cell_of_row _ w.heap.size (0 + j) _ e fr h]
    simpa using cells_get hj⟩⟩

/-- What '[]byte(s)' lays reads as s. -/
theorem Rd.ofString (w : World) (e : TypeId) (s : ByteArray) (cap : Nat) (fr : Nat × Nat) : Rd (w.alloc (.cells (bytesRow s cap) e fr)) (some ⟨w.heap.size, 0, none⟩) s.size s.data.toList :=
  ⟨by simp, fun _ => ⟨w.heap.size, 0, rfl, by simp, fun j hj => by
    have h : (w.alloc (.cells (bytesRow s cap) e fr)).heap[w.heap.size]? = some (.cells (bytesRow s cap) e fr) := by
      show (w.heap.push _)[w.heap.size]? = _
      simp
    rw [cell_of_row _ w.heap.size (0 + j) _ e fr h]
    have hj' : j < s.data.size := by simpa using hj
    rw [bytesRow, Array.getElem?_append_left (by simpa using hj'), Nat.zero_add, Array.getElem?_map, Array.getElem?_eq_getElem hj']
    simp⟩⟩

theorem own_full {w : World} {B : Nat} {e : TypeId} {g k : Nat} {xs : List Value} (h : w.ownsRow B e 1 (.slice (some ⟨g, 0, none⟩) k k) k xs) : B ≤ g ∧ k ≤ maxLen ∧ w.heap[g]? = some (.cells xs.toArray e (0, 0)) := by
  rcases h.2 with ⟨h, _⟩ | ⟨g', cap, cur, hv, hB, hh, hn, hc, hs, ht⟩
  · cases h
  · injection hv with h1 h2 h3
    injection h1 with h1
    injection h1 with h1
    subst h1; subst h3
    refine ⟨hB, hc, ?_⟩
    rw [← ht, List.take_of_length_le (by simp; omega)]
    exact hh
theorem own_of_full {w : World} {B : Nat} {e : TypeId} {g k : Nat} {xs : List Value} (hB : B ≤ g) (hk : k ≤ maxLen) (hx : xs.length = k) (h : w.heap[g]? = some (.cells xs.toArray e (0, 0))) : w.ownsRow B e 1 (.slice (some ⟨g, 0, none⟩) k k) k xs :=
  ⟨by omega, .inr ⟨g, k, xs.toArray, rfl, hB, h, Nat.le_refl _, hk, by simpa using hx, by subst hx; simp⟩⟩

/-- 'copy(out, x)': out a row of k bytes of the call's own, filled up to its capacity; x any slice of bytes. -/
theorem wpList_cpy {P : Program} {w : World} {T e : TypeId} (el : El P T e (.int .u8 0) 1 1) {ops : Array Oper} {rest : List Oper} {o : Oper} {a : Act} {Q : Exit → Act → World → Prop} (hgd : o.guard = none) (x y : Operand)
    (ho : o.op = .call { callee := .builtin .copy, args := #[x, y], argTypes := #[T, T] })
    (B g k : Nat) (xs : List Value) (hs : a.eval x = .slice (some ⟨g, 0, none⟩) k k) (hown : w.ownsRow B e 1 (.slice (some ⟨g, 0, none⟩) k k) k xs)
    (A : Option Addr) (m c : Nat) (l : List UInt8) (hx : a.eval y = .slice A m c) (hr : Rd w A m l)
    (h : ∀ w', w'.ownsRow B e 1 (.slice (some ⟨g, 0, none⟩) k k) k (splice xs 0 (cells (l.take k))) → Below B w w' → wpList P ops Q rest (a.put o.dst (goInt (l.take k).length)) w') : wpList P ops Q (o :: rest) a w := by
  obtain ⟨i, hi, hz, h1, h2⟩ := info_parts el.info
  obtain ⟨hB, hk, hh⟩ := own_full hown
  have hxl : xs.length = k := by have := hown.1; omega
  have hl : (l.take k).length ≤ xs.length := by simp; omega
  have hgoal := h
  refine wpList_copy_splice hgd x y T T ho e el.und (by rw [hi]; simp [h1]) _ A k k m c hs hx g 0 xs e hh (cells (l.take k)) (by have := hr.1; show _ = min m k; simp; omega)
    (fun hpos => ⟨rfl, ?_⟩) (by simpa using hl) (cells_one _) B w (Below.refl _ _) hB ?_
  · have hpos' : 0 < m := by have := hr.1; simp at hpos; omega
    obtain ⟨b, o, rfl, _, hc⟩ := hr.2 hpos'
    refine ⟨_, rfl, fun j v hj => hr.cells_at j v ?_⟩
    rw [cells_take, List.getElem?_take] at hj
    split at hj
    · exact hj
    · cases hj
  · intro w' hH hb
    rw [cells_length]
    refine h w' (own_of_full hB hk ?_ hH.out) hb
    rw [length_splice _ _ _ (by simpa using hl)]
    exact hxl

/-- An argument that is a slice of bytes, as the row's frame tells it. -/
theorem rd_of_row {w : World} {a : Option Addr} {len cap : Nat} {zs : List Int}
    (h : (a = none ∧ len = 0 ∧ cap = 0 ∧ zs = []) ∨ ∃ x, a = some x ∧ len ≤ cap ∧ cap ≤ maxLen ∧ zs.length = cap ∧ (∀ i, i < zs.length → w.cell? (x.add i) = some (.int .u8 (zs.getD i 0))) ∧ ∀ n ∈ zs, (Lit.int .u8 n).wf = true) :
    ∃ l, Rd w a len l ∧ len ≤ cap ∧ cap ≤ maxLen := by
  rcases h with ⟨rfl, rfl, rfl, rfl⟩ | ⟨x, rfl, hl, hm, hz, hc, hw⟩
  · exact ⟨[], Rd.nil _ _, Nat.le_refl _, Nat.zero_le _⟩
  · refine ⟨(zs.take len).map fun n => UInt8.ofNat n.toNat, ⟨by simp; omega, fun hpos => ?_⟩, hl, hm⟩
    have h0 := hc 0 (by omega)
    obtain ⟨b, off, spot⟩ := x
    have hspot : spot = none := by simpa [Addr.add] using World.cell?_spot h0
    subst hspot
    have hlt : ((⟨b, off, none⟩ : Addr).add 0).block < w.heap.size := World.block_lt_of_cell? w _ h0
    refine ⟨b, off, rfl, by simpa [Addr.add] using hlt, fun j hj => ?_⟩
    have hj' : j < len := by simp at hj; omega
    have h1 := hc j (by omega)
    rw [Addr.add_lit] at h1
    rw [h1]
    have hmem : zs[j]'(by omega) ∈ zs := List.getElem_mem _
    have hb := bounds_u8 (hw _ hmem)
    have e : zs.getD j 0 = zs[j]'(by omega) := by simp [List.getD, List.getElem?_eq_getElem (show j < zs.length by omega)]
    rw [e]
    simp
    omega
theorem u8_of {a : Int} (h : (Lit.int .u8 a).wf = true) : ∃ b : UInt8, a = (b.toNat : Int) := by
  have hb := bounds_u8 h
  refine ⟨UInt8.ofNat a.toNat, ?_⟩
  rw [UInt8.toNat_ofNat']
  omega
/-- A block of the call's own that holds no byte. -/
theorem own_empty (w : World) (B : Nat) (e : TypeId) (hB : B ≤ w.heap.size) : (w.alloc (.cells #[] e)).ownsRow B e 1 (.slice (some ⟨w.heap.size, 0, none⟩) 0 0) 0 [] :=
  World.ownsRow_lit w #[] 0 hB (Nat.zero_le _) rfl
end Go.Proofs.YtnjfogeefdmlkaaDoor
namespace Go.Proofs.YtnjfogeefdmlkaaDoor
open Go.RowKit

/-- What lies below B reads as it did. -/
theorem Rd.below' {w w' : World} {A : Option Addr} {n B : Nat} {l : List UInt8} (h : Rd w A n l) (hb : Below B w w') (hB : 0 < n → ∃ b o, A = some ⟨b, o, none⟩ ∧ b < B) : Rd w' A n l :=
  ⟨h.1, fun hn => by
    obtain ⟨b, o, e, hlt, hc⟩ := h.2 hn
    obtain ⟨b', o', e', hB'⟩ := hB hn
    rw [e] at e'
    obtain ⟨rfl, rfl⟩ : b = b' ∧ o = o' := by injection e' with e'; injection e' with e1 e2; exact ⟨e1, e2⟩
    exact ⟨b, o, e, by have := hb.size; omega, fun j hj => (hb.cell (p := ⟨b, o + j, none⟩) hB').trans (hc j hj)⟩⟩
theorem own_block {w : World} {B : Nat} {e : TypeId} {A : Option Addr} {n c b o : Nat} {xs : List Value} (h : w.ownsRow B e 1 (.slice A n c) n xs) (hA : A = some ⟨b, o, none⟩) : B ≤ b := by
  rcases h.2 with ⟨h1, _⟩ | ⟨g, cap, cur, hv, hB, _⟩
  · injection h1 with h1; rw [hA] at h1; cases h1
  · injection hv with h1
    rw [hA] at h1
    injection h1 with h1
    injection h1 with h1
    omega
theorem Rd.block {w w' : World} {A : Option Addr} {n : Nat} {l : List UInt8} (h : Rd w A n l) (hs : w.heap.size ≤ w'.heap.size) (hk : ∀ b o, A = some ⟨b, o, none⟩ → w'.heap[b]? = w.heap[b]?) : Rd w' A n l :=
  ⟨h.1, fun hn => by
    obtain ⟨b, o, e, hlt, hc⟩ := h.2 hn
    exact ⟨b, o, e, by omega, fun j hj => (World.cell?_of_block (w := w) (a := ⟨b, o + j, none⟩) (hk b o e)).trans (hc j hj)⟩⟩
theorem Rd.src {w : World} {A : Option Addr} {n : Nat} {l : List UInt8} (h : Rd w A n l) (m : Nat) (hpos : 0 < (cells (l.take m)).length) : ∃ ad, A = some ad ∧ ∀ j v, (cells (l.take m))[j]? = some v → w.cell? (ad.add j) = some v := by
  have hl := h.1
  obtain ⟨b, o, e, _, hc⟩ := h.2 (by simp at hpos; omega)
  refine ⟨⟨b, o, none⟩, e, fun j v hj => ?_⟩
  have hj1 : j < (l.take m).length := by have := (List.getElem?_eq_some_iff.1 hj).1; simpa using this
  have hj2 : j < l.length := by simp at hj1; omega
  rw [Addr.add_lit, hc j hj2, ← hj, cells_get hj1]
  simp
theorem heap_setCell_at {w : World} {g j : Nat} {C : Array Value} {T : TypeId} {fr : Nat × Nat} (h : w.heap[g]? = some (.cells C T fr)) (v : Value) : (w.setCell ⟨g, j, none⟩ v).heap[g]? = some (.cells (C.setIfInBounds j v) T fr) := by
  simp [World.setCell, Array.getElem?_modify, h]
theorem own_mono {w : World} {B B' : Nat} {e : TypeId} {size n : Nat} {v : Value} {xs : List Value} (h : w.ownsRow B e size v n xs) (hB : B' ≤ B) : w.ownsRow B' e size v n xs :=
  ⟨h.1, h.2.elim .inl fun ⟨g, cap, cur, e1, e2, r⟩ => .inr ⟨g, cap, cur, e1, by omega, r⟩⟩
/-- What is owned from B on stays owned where one block below B was written. -/
theorem own_apart {w w' : World} {B : Nat} {e : TypeId} {n : Nat} {v v' : Value} {xs : List Value} (h : w.ownsRow B e 1 v n xs) (hne : ∀ k, v'.ownBlock = some k → k < B) (hg : w.grownBy w' v'.ownBlock) : w'.ownsRow B e 1 v n xs :=
  ⟨h.1, h.2.elim .inl fun ⟨g, cap, cur, e1, e2, hh, r⟩ => .inr ⟨g, cap, cur, e1, e2, (hg.block g (Array.getElem?_eq_some_iff.1 hh).1 (fun e => by have := hne g e.symm; omega)).trans hh, r⟩⟩

/-- 'append(v, x...)', and what of the memory was written. -/
theorem wpList_appg {P : Program} (w : World) {T e : TypeId} (el : El P T e (.int .u8 0) 1 1) {ops : Array Oper} {rest : List Oper} {o : Oper} {a : Act} {Q : Exit → Act → World → Prop} (hgd : Region.wanted o (yielded ops a.tmps) = true) (s x : Operand)
    (ho : o.op = .call { callee := .builtin .append, args := #[s, x], argTypes := #[T, T] })
    (B : Nat) (v : Value) (n : Nat) (xs : List Value) (hs : a.eval s = v) (hown : w.ownsRow B e 1 v n xs)
    (ad : Addr) (m c : Nat) (l : List UInt8) (hx : a.eval x = .slice (some ad) m c) (hr : Rd w (some ad) m l) (hb : n + m ≤ 140737488355328) (hB : B ≤ w.heap.size)
    (h : ∀ v' w', w'.ownsRow B e 1 v' (n + m) (xs ++ cells l) → w.grownBy w' v.ownBlock → wpList P ops Q rest (a.put o.dst v') w') : wpList P ops Q (o :: rest) a w :=
  wpList_w hgd fun _ hK => by
    obtain ⟨i, hi, hz, h1, h2⟩ := info_parts el.info
    obtain ⟨v', w', hrun, ho', hg, _⟩ := run_append_own (P := P) w B T o.type e i (.int .u8 0) 1 1 el.und hi hz h1 h2 rfl (by decide) v n xs hown ad m c (cells l) (by simp [hr.1]) hr.cells_at (cells_one l)
      (by unfold maxLen; omega) (by omega) hB
    unfold Oper.wp execOp
    simp only [ho, resolve, invoke, builtin, Sem.run_bind, Sem.run_pure, Result.andThen_ok, List.map_toArray, List.map_cons, List.map_nil, hs, hx, hrun]
    exact hK _ _ (h v' w' ho' hg)

theorem run_appg {P : Program} (w : World) {T e : TypeId} (el : El P T e (.int .u8 0) 1 1) (ty : TypeId) (B : Nat) (v : Value) (n : Nat) (xs : List Value) (hown : w.ownsRow B e 1 v n xs)
    (A : Option Addr) (m c : Nat) (l : List UInt8) (hr : Rd w A m l) (hb : n + m ≤ 140737488355328) (hB : B ≤ w.heap.size) :
    ∃ v' w', (Builtin.append_ #[T, T] ty #[v, .slice A m c]).run P w = .ok v' w' ∧ w'.ownsRow B e 1 v' (n + m) (xs ++ cells l) ∧ Below B w w' ∧ w.grownBy w' v.ownBlock := by
  obtain ⟨i, hi, hz, h1, h2⟩ := info_parts el.info
  rcases A with _ | ad
  · have hm : m = 0 := by
      rcases Nat.eq_zero_or_pos m with h0 | h0
      · exact h0
      · obtain ⟨_, _, h, _⟩ := hr.2 h0
        cases h
    subst hm
    have hn : l = [] := List.eq_nil_of_length_eq_zero hr.1
    subst hn
    exact ⟨v, w, run_app_nil w B T ty e i 1 el.und hi v n xs hown c, by simpa [cells_nil] using hown, Below.refl _ _, World.grownBy.refl _ _⟩
  · obtain ⟨v', w', hrun, ho, hg, _⟩ := run_append_own (P := P) w B T ty e i (.int .u8 0) 1 1 el.und hi hz h1 h2 rfl (by decide) v n xs hown ad m c (cells l) (by simp [hr.1]) hr.cells_at (cells_one l)
      (by unfold maxLen; omega) (by omega) hB
    exact ⟨v', w', hrun, ho, below_own hown hB hg, hg⟩

/-- 'append(v, x...)' as a step of a region that draws its order. -/
theorem step_app {P : Program} (w : World) {T e : TypeId} (el : El P T e (.int .u8 0) 1 1) {ops : Array Oper} {o : Oper} {a : Act} {K : Act → World → Prop} {Q : Exit → Act → World → Prop} {E : Prop} (hgd : o.guard = none) (s x : Operand)
    (ho : o.op = .call { callee := .builtin .append, args := #[s, x], argTypes := #[T, T] })
    (B : Nat) (v : Value) (n : Nat) (xs : List Value) (hs : a.eval s = v) (hown : w.ownsRow B e 1 v n xs)
    (A : Option Addr) (m c : Nat) (l : List UInt8) (hx : a.eval x = .slice A m c) (hr : Rd w A m l) (hb : n + m ≤ 140737488355328) (hB : B ≤ w.heap.size)
    (h : ∀ v' w', w'.ownsRow B e 1 v' (n + m) (xs ++ cells l) → Below B w w' → w.grownBy w' v.ownBlock → K (a.put o.dst v') w') :
    if Region.wanted o (yielded ops a.tmps) = true then Oper.wp P o a w K Q else E := by
  have hw : Region.wanted o (yielded ops a.tmps) = true := by simp [Region.wanted, hgd]
  rw [if_pos hw]
  obtain ⟨v', w', hrun, h2, h3, h4⟩ := run_appg w el o.type B v n xs hown A m c l hr hb hB
  unfold Oper.wp execOp
  simp only [ho, resolve, invoke, builtin, Sem.run_bind, Sem.run_pure, Result.andThen_ok, List.map_toArray, List.map_cons, List.map_nil, hs, hx, hrun]
  exact h v' w' h2 h3 h4
end Go.Proofs.YtnjfogeefdmlkaaDoor
namespace Go.Proofs.YtnjfogeefdmlkaaDoor
open Go.RowKit Go.Maps

/-- Of what there was nothing but blocks of own has turned. -/
structure Fr (own : Nat → Prop) (w w' : World) : Prop where
  os : w'.os = w.os
  tape : w'.tape = w.tape
  output : w'.output = w.output
  size : w.heap.size ≤ w'.heap.size
  block : ∀ b, b < w.heap.size → ¬ own b → w'.heap[b]? = w.heap[b]?

section
variable {own own' : Nat → Prop} {a b w w' : World}
theorem Fr.refl (own : Nat → Prop) (w : World) : Fr own w w := ⟨rfl, rfl, rfl, Nat.le_refl _, fun _ _ _ => rfl⟩
theorem Fr.trans' (h : Fr own a w) (k : Fr own' w w') (ho : ∀ x, own' x → own x ∨ a.heap.size ≤ x) : Fr own a w' :=
  ⟨k.os.trans h.os, k.tape.trans h.tape, k.output.trans h.output, Nat.le_trans h.size k.size, fun i hi hn =>
    (k.block i (Nat.lt_of_lt_of_le hi h.size) (fun hx => by
      rcases ho i hx with h1 | h1
      · exact hn h1
      · omega)).trans (h.block i hi hn)⟩
theorem Fr.trans (h : Fr own a w) (k : Fr own w w') : Fr own a w' := h.trans' k (fun _ hx => .inl hx)
theorem Fr.mono (h : Fr own w w') (ho : ∀ x, own x → own' x) : Fr own' w w' := ⟨h.os, h.tape, h.output, h.size, fun i hi hn => h.block i hi (fun hx => hn (ho i hx))⟩
theorem Fr.ofBelow (own : Nat → Prop) (h : Below w.heap.size w w') : Fr own w w' := ⟨h.os, h.tape, h.output, h.size, fun i hi _ => h.block i hi⟩
theorem Fr.toBelow {B : Nat} (h : Fr own w w') (ho : ∀ x, own x → B ≤ x) (hB : B ≤ w.heap.size) : Below B w w' :=
  ⟨h.os, h.tape, h.output, h.size, fun i hi => h.block i (by omega) (fun hx => by have := ho i hx; omega)⟩
theorem Fr.grown {row : Option Nat} (hg : w.grownBy w' row) (ho : ∀ x, row = some x → own x) : Fr own w w' :=
  ⟨hg.os, hg.tape, hg.output, hg.size, fun i hi hn => hg.block i hi (fun e => hn (ho i e.symm))⟩
theorem Fr.setCell (w : World) {p : Addr} (hp : own p.block) (u : Value) : Fr own w (w.setCell p u) :=
  ⟨rfl, rfl, rfl, by simp [World.setCell], fun i _ hn => Below.heap_setCell w p u i (fun e => hn (e ▸ hp))⟩
theorem Fr.alloc (own : Nat → Prop) (w : World) (o : Obj) : Fr own w (w.alloc o) := Fr.ofBelow own ((Below.refl _ _).alloc (Nat.le_refl _) o)
theorem Fr.drew (own : Nat → Prop) (w : World) : Fr own w w.drew := ⟨rfl, rfl, rfl, Nat.le_refl _, fun _ _ _ => rfl⟩
theorem Fr.below {B : Nat} (h : Fr own w w') (hB : ∀ x, own x → B ≤ x) (hw : B ≤ w.heap.size) : Below B w w' := h.toBelow hB hw

theorem Rd.fr {A : Option Addr} {n : Nat} {l : List UInt8} (h : Rd w A n l) (hf : Fr own w w') (hn : ∀ b o, A = some ⟨b, o, none⟩ → 0 < n → ¬ own b) : Rd w' A n l :=
  ⟨h.1, fun hp => by
    obtain ⟨b, o, e, hlt, hc⟩ := h.2 hp
    exact ⟨b, o, e, Nat.lt_of_lt_of_le hlt hf.size, fun j hj => (World.cell?_of_block (w := w) (a := ⟨b, o + j, none⟩) (hf.block b hlt (hn b o e hp))).trans (hc j hj)⟩⟩
theorem own_fr {B : Nat} {e : TypeId} {size n : Nat} {v : Value} {xs : List Value} (h : w.ownsRow B e size v n xs) (hf : Fr own w w') (hn : ∀ x, v.ownBlock = some x → ¬ own x) : w'.ownsRow B e size v n xs :=
  ⟨h.1, h.2.elim .inl fun ⟨g, cap, cur, e1, e2, hh, r⟩ => .inr ⟨g, cap, cur, e1, e2, (hf.block g (Array.getElem?_eq_some_iff.1 hh).1 (hn g (by rw [e1]; rfl))).trans hh, r⟩⟩
end

/-! ### maps -/
abbrev nilv : Value := .slice none 0 0
/-- A value in a map reads as itself. -/
def itself (v : Value) : Option (DataW Value × List MemPlace) := some (.held v, [])

/-- Block m is a map of integers, of at most n entries: at i it has f i (nil where it has none); its keys are those of ks. -/
def MapIs (P : Program) (k : TypeId) (w : World) (m n : Nat) (f : Nat → Value) (ks : Nat → Bool) : Prop :=
  ∃ D : DataW Value, w.ownsMap P k itself m n D ∧ (∀ i : Nat, D.atKey (.int .i64 i) (.held nilv) = .held (f i)) ∧ (∀ i : Nat, Maps.has D (.int .i64 i) = ks i) ∧
    (∀ kl, Maps.has D kl = true → ∃ i : Nat, kl = .int .i64 i)

section
variable {P : Program} {k e T : TypeId} {w w' : World} {m n : Nat} {f : Nat → Value} {ks : Nat → Bool}

theorem MapIs.made (P : Program) (k : TypeId) (w : World) : MapIs P k (w.alloc (.map #[] 0)) w.heap.size 0 (fun _ => nilv) (fun _ => false) :=
  ⟨.map [], World.ownsMap_made w P k itself, fun _ => rfl, fun _ => rfl, fun kl h => by cases h⟩
theorem MapIs.lt (h : MapIs P k w m n f ks) : m < w.heap.size := by obtain ⟨D, ho, _⟩ := h; exact ho.lt
theorem MapIs.block (h : MapIs P k w m n f ks) (hb : w'.heap[m]? = w.heap[m]?) : MapIs P k w' m n f ks := by
  obtain ⟨D, ⟨es, clock, hm, r⟩, h2⟩ := h
  exact ⟨D, ⟨es, clock, hb.trans hm, r⟩, h2⟩
theorem MapIs.fr {own : Nat → Prop} (h : MapIs P k w m n f ks) (hf : Fr own w w') (hn : ¬ own m) : MapIs P k w' m n f ks := h.block (hf.block m h.lt hn)
theorem MapIs.mono {n' : Nat} (h : MapIs P k w m n f ks) (hn : n ≤ n') : MapIs P k w m n' f ks := by
  obtain ⟨D, ho, h2⟩ := h
  exact ⟨D, ho.mono hn, h2⟩
theorem MapIs.congr {f' : Nat → Value} {ks' : Nat → Bool} (h : MapIs P k w m n f ks) (hf : ∀ i, f i = f' i) (hk : ∀ i, ks i = ks' i) : MapIs P k w m n f' ks' := by
  obtain rfl : f = f' := funext hf
  obtain rfl : ks = ks' := funext hk
  exact h

theorem key_mk (hk : P.underlying k = some (.int .i64)) (i : Nat) (hi : i < 9223372036854775808) : keyOf P k (.int .i64 (i : Int)) = some (.int .i64 i) :=
  keyOf_int_mk hk (WalkArith.wf_i64 (by omega))
theorem nat_lit_ne {i j : Nat} (h : i ≠ j) : (Lit.int .i64 (i : Int)) ≠ .int .i64 (j : Int) := fun e => h (by injection e with _ e; omega)

theorem MapIs.look (h : MapIs P k w m n f ks) (hk : P.underlying k = some (.int .i64)) (hT : P.underlying T = some (.map k e)) (hz : (zeroValue e).run P w = .ok nilv w) (i : Nat) (hi : i < 9223372036854775808) :
    (Instr.lookup T (.map (some m)) (.int .i64 (i : Int)) false).run P w = .ok (f i) w := by
  obtain ⟨D, ho, hat, _, _⟩ := h
  obtain ⟨v, ps, hrun, hv⟩ := ho.lookup (int_keyed hk) hT hz (zd := .held nilv) (zp := []) rfl (key_mk hk i hi)
  rw [hat i] at hv
  simp only [itself, Option.some.injEq, Prod.mk.injEq, DataW.held.injEq] at hv
  rw [hrun, hv.1]

theorem MapIs.put (h : MapIs P k w m n f ks) (hk : P.underlying k = some (.int .i64)) (hT : P.underlying T = some (.map k e)) (hn : n < maxLen) (i : Nat) (hi : i < 9223372036854775808) (v : Value) :
    ∃ w', (Instr.mapUpdate T (.map (some m)) (.int .i64 (i : Int)) v).run P w = .ok () w' ∧ MapIs P k w' m (n + 1) (fun j => if j = i then v else f j) (fun j => decide (j = i) || ks j) ∧ w.grownBy w' (some m) := by
  obtain ⟨D, ho, hat, hh, hin⟩ := h
  obtain ⟨w', hrun, ho', hg⟩ := ho.update (int_keyed hk) hT hn (val := v) (d := .held v) (ps := []) (key_mk hk i hi) rfl
  have hkl := (int_keyed hk).key (key_mk hk i hi)
  refine ⟨w', hrun, ⟨_, ho', fun j => ?_, fun j => ?_, fun kl hkl' => ?_⟩, hg⟩
  · by_cases hj : j = i
    · subst hj
      simp only [if_true]
      exact Maps.atKey_put_same ho.isMap hkl _ _
    · simp only [if_neg hj]
      rw [Maps.atKey_put_other (nat_lit_ne hj), hat j]
  · by_cases hj : j = i
    · subst hj
      simp only [decide_true, Bool.true_or]
      exact Maps.has_put_same ho.isMap hkl _
    · simp only [decide_eq_false hj, Bool.false_or]
      rw [Maps.has_put_other (nat_lit_ne hj), hh j]
  · by_cases hj : kl = .int .i64 i
    · exact ⟨i, hj⟩
    · rw [Maps.has_put_other hj] at hkl'
      exact hin kl hkl'

theorem MapIs.wipe (h : MapIs P k w m n f ks) (hT : P.underlying T = some (.map k e)) (ty : TypeId) :
    ∃ w', (Builtin.clear_ #[T] ty #[.map (some m)]).run P w = .ok (.tuple #[]) w' ∧ MapIs P k w' m 0 (fun _ => nilv) (fun _ => false) ∧ w.grownBy w' (some m) := by
  obtain ⟨D, ⟨es, clock, hm, F, hs, _⟩, _⟩ := h
  refine ⟨_, ?_, ⟨.map [], ⟨#[], clock, ChangeMaps.heap_setBlock_same hm _, ⟨by simp, MapKept.stamped_empty clock, by simp⟩, Nat.le_refl _, rfl⟩, fun _ => rfl, fun _ => rfl, fun kl h => by cases h⟩, ?_⟩
  · simp [Builtin.clear_, run_underlying hT, MapKept.run_getObj_map hm, MapKept.run_setObj_map _ hm, Result.andThen]
    rfl
  · exact ⟨rfl, rfl, rfl, by simp [ChangeMaps.setBlock], fun i _ hi => ChangeMaps.heap_setBlock_other hm _ (fun e => hi (by rw [e]))⟩
end

/-! ### steps of a region that draws its order -/
section
variable {P : Program} {ops : Array Oper} {o : Oper} {a : Act} {w : World} {K : Act → World → Prop} {Q : Exit → Act → World → Prop} {E : Prop}

/-- 'append(v, x...)': v a row of one's own, of elements of one cell or more. -/
theorem step_appV {T e : TypeId} {z : Value} {size bytes : Nat} (el : El P T e z size bytes) (hgd : o.guard = none) (s x : Operand)
    (ho : o.op = .call { callee := .builtin .append, args := #[s, x], argTypes := #[T, T] })
    (B : Nat) (v : Value) (n : Nat) (xs : List Value) (hs : a.eval s = v) (hown : w.ownsRow B e size v n xs)
    (ad : Addr) (m c : Nat) (news : List Value) (hx : a.eval x = .slice (some ad) m c) (hl : news.length = m * size) (hnews : ∀ j u, news[j]? = some u → w.cell? (ad.add j) = some u) (h1 : ∀ u ∈ news, u.oneCell' = true)
    (hb : n + m ≤ 1000000000) (hby : bytes ≤ 100) (hB : B ≤ w.heap.size)
    (h : ∀ v' w', w'.ownsRow B e size v' (n + m) (xs ++ news) → w.grownBy w' v.ownBlock → (v'.ownBlock = v.ownBlock ∨ v'.ownBlock = some w.heap.size) → K (a.put o.dst v') w') :
    if Region.wanted o (yielded ops a.tmps) = true then Oper.wp P o a w K Q else E := by
  have hw : Region.wanted o (yielded ops a.tmps) = true := by simp [Region.wanted, hgd]
  rw [if_pos hw]
  obtain ⟨i, hi, hz, h2, h3⟩ := info_parts el.info
  have hbb : (n + m) * bytes ≤ 1000000000 * 100 := Nat.mul_le_mul hb hby
  obtain ⟨v', w', hrun, r1, r2, _, r3⟩ := run_append_own_at (P := P) w B T o.type e i z size bytes el.und hi hz h2 h3 el.zs el.pos v n xs hown ad m c news hl hnews h1 (by unfold maxLen; omega) (by omega) hB
  unfold Oper.wp execOp
  simp only [ho, resolve, invoke, builtin, Sem.run_bind, Sem.run_pure, Result.andThen_ok, List.map_toArray, List.map_cons, List.map_nil, hs, hx, hrun]
  exact h v' w' r1 r2 r3

/-- 'm[i] = v'. -/
theorem step_mapput {k e T : TypeId} (hk : P.underlying k = some (.int .i64)) (hT : P.underlying T = some (.map k e)) (hgd : o.guard = none) (mo x y : Operand) (ho : o.op = Op.mapUpdate T mo x y)
    (b n : Nat) (f : Nat → Value) (ks : Nat → Bool) (hmap : MapIs P k w b n f ks) (hn : n < 1000000000) (i : Nat) (hi : i < 1000000000) (v : Value) (hm : a.eval mo = .map (some b)) (hx : a.eval x = .int .i64 (i : Int)) (hv : a.eval y = v)
    (h : ∀ w', MapIs P k w' b (n + 1) (fun j => if j = i then v else f j) (fun j => decide (j = i) || ks j) → w.grownBy w' (some b) → K (a.put o.dst undef) w') :
    if Region.wanted o (yielded ops a.tmps) = true then Oper.wp P o a w K Q else E := by
  have hw : Region.wanted o (yielded ops a.tmps) = true := by simp [Region.wanted, hgd]
  rw [if_pos hw]
  obtain ⟨w', hrun, r1, r2⟩ := hmap.put hk hT (by unfold maxLen; omega) i (by omega) v
  unfold Oper.wp
  simp [execOp, ho, hm, hx, hv, hrun, Result.andThen]
  exact h w' r1 r2
end
end Go.Proofs.YtnjfogeefdmlkaaDoor
namespace Go.Proofs.YtnjfogeefdmlkaaDoor
open Go.RowKit

/-- Blocks of keep are as they were. -/
def WStays (keep : Nat → Prop) (w w' : World) : Prop := w.heap.size ≤ w'.heap.size ∧ ∀ x, keep x → w'.heap[x]? = w.heap[x]?
/-- A slice of values of sz cells each. -/
def VRow (K : Nat → Prop) (w : World) (A : Option Addr) (n sz : Nat) (vs : List Value) : Prop :=
  vs.length = n * sz ∧ (A = none → n = 0) ∧ (0 < n → ∃ b o, A = some ⟨b, o, none⟩ ∧ K b ∧ b < w.heap.size ∧ ∀ j u, vs[j]? = some u → w.cell? ⟨b, o + j, none⟩ = some u)
/-- A value that is a slice of these bytes. -/
def VB (K : Nat → Prop) (w : World) (u : Value) (l : List UInt8) : Prop :=
  ∃ A m c, u = .slice A m c ∧ Rd w A m l ∧ ∀ b o, A = some ⟨b, o, none⟩ → 0 < m → K b ∧ b < w.heap.size
/-- Values: slices of bytes. -/
def HdV (K : Nat → Prop) (w : World) (vs : List Value) (ls : List (List UInt8)) : Prop :=
  vs.length = ls.length ∧ ∀ j u, vs[j]? = some u → VB K w u (ls.getD j [])
/-- A slice of slices of bytes. -/
def RowsV (K : Nat → Prop) (w : World) (A : Option Addr) (n : Nat) (ls : List (List UInt8)) : Prop := ∃ vs, ls.length = n ∧ VRow K w A n 1 vs ∧ HdV K w vs ls

section
variable {K K' : Nat → Prop} {w w' w'' : World} {A : Option Addr} {n sz : Nat} {vs : List Value} {u : Value} {l : List UInt8} {ls : List (List UInt8)}
theorem WStays.refl (keep : Nat → Prop) (w : World) : WStays keep w w := ⟨Nat.le_refl _, fun _ _ => rfl⟩
theorem WStays.trans (h : WStays K w w') (k : WStays K w' w'') : WStays K w w'' := ⟨Nat.le_trans h.1 k.1, fun x hx => (k.2 x hx).trans (h.2 x hx)⟩
theorem WStays.less (h : WStays K w w') (hk : ∀ x, K' x → K x) : WStays K' w w' := ⟨h.1, fun x hx => h.2 x (hk x hx)⟩
theorem WStays.ofBelow (hb : Below w.heap.size w w') : WStays (fun x => x < w.heap.size) w w' := ⟨hb.size, fun x hx => hb.block x hx⟩
theorem Rd.wstays (h : Rd w A n l) (hs : WStays K w w') (hk : ∀ b o, A = some ⟨b, o, none⟩ → 0 < n → K b) : Rd w' A n l :=
  ⟨h.1, fun hn => by
    obtain ⟨b, o, e, hlt, hc⟩ := h.2 hn
    exact ⟨b, o, e, Nat.lt_of_lt_of_le hlt hs.1, fun j hj => (World.cell?_of_block (w := w) (a := ⟨b, o + j, none⟩) (hs.2 b (hk b o e hn))).trans (hc j hj)⟩⟩
theorem VRow.stays (h : VRow K w A n sz vs) (hs : WStays K w w') : VRow K w' A n sz vs :=
  ⟨h.1, h.2.1, fun hp => by obtain ⟨b, o, e, hk, hlt, hc⟩ := h.2.2 hp; exact ⟨b, o, e, hk, Nat.lt_of_lt_of_le hlt hs.1, fun j u hj => (World.cell?_of_block (a := ⟨b, o + j, none⟩) (hs.2 b hk)).trans (hc j u hj)⟩⟩
theorem VRow.mono (h : VRow K w A n sz vs) (hk : ∀ x, K x → K' x) : VRow K' w A n sz vs :=
  ⟨h.1, h.2.1, fun hp => by obtain ⟨b, o, e, h1, r⟩ := h.2.2 hp; exact ⟨b, o, e, hk b h1, r⟩⟩
theorem VRow.lt (h : VRow K w A n sz vs) : VRow (fun x => K x ∧ x < w.heap.size) w A n sz vs :=
  ⟨h.1, h.2.1, fun hp => by obtain ⟨b, o, e, h1, h2, r⟩ := h.2.2 hp; exact ⟨b, o, e, ⟨h1, h2⟩, h2, r⟩⟩
theorem VRow.below (h : VRow K w A n sz vs) (hb : Below w.heap.size w w') : VRow K w' A n sz vs := (h.lt.stays ⟨hb.size, fun x hx => hb.block x hx.2⟩).mono fun _ hx => hx.1
theorem VB.stays (h : VB K w u l) (hs : WStays K w w') : VB K w' u l := by
  obtain ⟨A, m, c, h1, h2, h3⟩ := h
  exact ⟨A, m, c, h1, h2.wstays hs (fun b o e hm => (h3 b o e hm).1), fun b o e hm => ⟨(h3 b o e hm).1, Nat.lt_of_lt_of_le (h3 b o e hm).2 hs.1⟩⟩
theorem VB.mono (h : VB K w u l) (hk : ∀ x, K x → K' x) : VB K' w u l := by
  obtain ⟨A, m, c, h1, h2, h3⟩ := h
  exact ⟨A, m, c, h1, h2, fun b o e hm => ⟨hk b (h3 b o e hm).1, (h3 b o e hm).2⟩⟩
theorem VB.lt (h : VB K w u l) : VB (fun x => K x ∧ x < w.heap.size) w u l := by
  obtain ⟨A, m, c, h1, h2, h3⟩ := h
  exact ⟨A, m, c, h1, h2, fun b o e hm => ⟨h3 b o e hm, (h3 b o e hm).2⟩⟩
theorem VB.below (h : VB K w u l) (hb : Below w.heap.size w w') : VB K w' u l := (h.lt.stays ⟨hb.size, fun x hx => hb.block x hx.2⟩).mono fun _ hx => hx.1
theorem VB.one (h : VB K w u l) : u.oneCell' = true := by obtain ⟨A, m, c, rfl, _⟩ := h; rfl
theorem HdV.stays (h : HdV K w vs ls) (hs : WStays K w w') : HdV K w' vs ls := ⟨h.1, fun j u hj => (h.2 j u hj).stays hs⟩
theorem HdV.mono (h : HdV K w vs ls) (hk : ∀ x, K x → K' x) : HdV K' w vs ls := ⟨h.1, fun j u hj => (h.2 j u hj).mono hk⟩
theorem HdV.below (h : HdV K w vs ls) (hb : Below w.heap.size w w') : HdV K w' vs ls := ⟨h.1, fun j u hj => (h.2 j u hj).below hb⟩
theorem HdV.one (h : HdV K w vs ls) : ∀ u ∈ vs, u.oneCell' = true := fun u hu => by
  obtain ⟨j, hj, e⟩ := List.getElem_of_mem hu
  exact (h.2 j u (by rw [List.getElem?_eq_getElem hj, e])).one
theorem HdV.set (h : HdV K w vs ls) (k : Nat) (hu : VB K w u l) : HdV K w (vs.set k u) (ls.set k l) := by
  refine ⟨by simp [h.1], fun j x hj => ?_⟩
  rw [List.getElem?_set] at hj
  by_cases hk : k = j
  · rw [if_pos hk] at hj
    split at hj
    · injection hj with hj
      subst hj hk
      have : k < ls.length := by have := h.1; omega
      rw [List.getD_eq_getElem?_getD, List.getElem?_set_self this]
      exact hu
    · cases hj
  · rw [if_neg hk] at hj
    rw [List.getD_eq_getElem?_getD, List.getElem?_set_ne hk, ← List.getD_eq_getElem?_getD]
    exact h.2 j x hj
theorem HdV.snoc (h : HdV K w vs ls) (hu : VB K w u l) : HdV K w (vs ++ [u]) (ls ++ [l]) := by
  refine ⟨by simp [h.1], fun j x hj => ?_⟩
  by_cases hk : j < vs.length
  · rw [List.getElem?_append_left hk] at hj
    rw [List.getD_eq_getElem?_getD, List.getElem?_append_left (by have := h.1; omega), ← List.getD_eq_getElem?_getD]
    exact h.2 j x hj
  · have e : j = vs.length := by
      have := (List.getElem?_eq_some_iff.1 hj).1
      simp at this
      omega
    subst e
    simp at hj
    subst hj
    rw [h.1, List.getD_eq_getElem?_getD, List.getElem?_append_right (Nat.le_refl _), Nat.sub_self]
    exact hu
theorem HdV.take (h : HdV K w vs ls) (m : Nat) : HdV K w (vs.take m) (ls.take m) := by
  refine ⟨by simp [h.1], fun j x hj => ?_⟩
  rw [List.getElem?_take] at hj
  split at hj
  · rename_i hjm
    rw [List.getD_eq_getElem?_getD, List.getElem?_take, if_pos hjm, ← List.getD_eq_getElem?_getD]
    exact h.2 j x hj
  · cases hj
theorem RowsV.stays (h : RowsV K w A n ls) (hs : WStays K w w') : RowsV K w' A n ls := by
  obtain ⟨vs, h1, h2, h3⟩ := h; exact ⟨vs, h1, h2.stays hs, h3.stays hs⟩
theorem RowsV.mono (h : RowsV K w A n ls) (hk : ∀ x, K x → K' x) : RowsV K' w A n ls := by
  obtain ⟨vs, h1, h2, h3⟩ := h; exact ⟨vs, h1, h2.mono hk, h3.mono hk⟩
theorem RowsV.below (h : RowsV K w A n ls) (hb : Below w.heap.size w w') : RowsV K w' A n ls := by
  obtain ⟨vs, h1, h2, h3⟩ := h; exact ⟨vs, h1, h2.below hb, h3.below hb⟩
theorem RowsV.lt (h : RowsV K w A n ls) : RowsV (fun x => K x ∧ x < w.heap.size) w A n ls := by
  obtain ⟨vs, h1, h2, h3⟩ := h
  exact ⟨vs, h1, h2.lt, h3.1, fun j u hj => (h3.2 j u hj).lt⟩
theorem RowsV.nil (K : Nat → Prop) (w : World) (A : Option Addr) : RowsV K w A 0 [] := ⟨[], rfl, ⟨rfl, fun _ => rfl, fun h => absurd h (Nat.lt_irrefl 0)⟩, rfl, fun j u hj => by simp at hj⟩
/-- One of them. -/
theorem RowsV.at_ (h : RowsV K w A n ls) {j : Nat} (hj : j < n) : ∃ b o u, A = some ⟨b, o, none⟩ ∧ b < w.heap.size ∧ w.cell? ⟨b, o + j, none⟩ = some u ∧ VB K w u (ls.getD j []) := by
  obtain ⟨vs, h1, h2, h3⟩ := h
  obtain ⟨b, o, e, _, hlt, hc⟩ := h2.2.2 (by omega)
  have hjl : j < vs.length := by rw [h2.1]; omega
  have hv := List.getElem?_eq_getElem hjl
  exact ⟨b, o, vs[j], e, hlt, hc j _ hv, h3.2 j _ hv⟩
theorem own_vrow {B e : Nat} {v : Value} (ho : w.ownsRow B e sz v n vs) : ∃ A c, v = .slice A n c ∧ n ≤ c ∧ c ≤ maxLen ∧ VRow (fun x => B ≤ x ∧ x < w.heap.size) w A n sz vs := by
  rcases ho.2 with ⟨rfl, rfl⟩ | ⟨g, cap, cur, rfl, hB, hh, hnc, hc, hs, ht⟩
  · exact ⟨none, 0, rfl, Nat.le_refl _, Nat.zero_le _, ho.1, fun _ => rfl, fun h => absurd h (Nat.lt_irrefl 0)⟩
  · have hlt := (Array.getElem?_eq_some_iff.1 hh).1
    refine ⟨_, cap, rfl, hnc, hc, ho.1, (fun e => by cases e), fun _ => ⟨g, 0, rfl, ⟨hB, hlt⟩, hlt, fun j u hj => ?_⟩⟩
    have := ho.cells (g := g) rfl j u hj
    rwa [Addr.add_lit] at this
theorem HdV.rows {B e : Nat} {v : Value} (h : HdV K w vs ls) (ho : w.ownsRow B e 1 v n vs) : ∃ A c, v = .slice A n c ∧ n ≤ c ∧ c ≤ maxLen ∧ RowsV (fun x => K x ∨ (B ≤ x ∧ x < w.heap.size)) w A n ls := by
  obtain ⟨A, c, e1, h1, h2, h3⟩ := own_vrow ho
  exact ⟨A, c, e1, h1, h2, vs, by have := ho.1; have := h.1; omega, h3.mono (fun x hx => .inr hx), h.mono (fun x hx => .inl hx)⟩
end

section
variable {P : Program} {ops : Array Oper} {o : Oper} {a : Act} {w : World} {J : Act → World → Prop} {Q : Exit → Act → World → Prop} {E : Prop} {K : Nat → Prop}
theorem run_appW {T e : TypeId} {z : Value} {size bytes : Nat} (el : El P T e z size bytes) (ty : TypeId) (B : Nat) (v : Value) (n : Nat) (xs : List Value) (hown : w.ownsRow B e size v n xs)
    (A : Option Addr) (m c : Nat) (vs : List Value) (hA : VRow K w A m size vs) (h1 : ∀ u ∈ vs, u.oneCell' = true) (hb : n + m ≤ 1000000000) (hby : bytes ≤ 100) (hB : B ≤ w.heap.size) :
    ∃ v' w', (Builtin.append_ #[T, T] ty #[v, .slice A m c]).run P w = .ok v' w' ∧ w'.ownsRow B e size v' (n + m) (xs ++ vs) ∧ w.grownBy w' v.ownBlock ∧ (v'.ownBlock = v.ownBlock ∨ v'.ownBlock = some w.heap.size) := by
  obtain ⟨i, hi, hz, h2, h3⟩ := info_parts el.info
  have hbb : (n + m) * bytes ≤ 1000000000 * 100 := Nat.mul_le_mul hb hby
  rcases A with _ | ad
  · have hm := hA.2.1 rfl
    subst hm
    have hn : vs = [] := List.eq_nil_of_length_eq_zero (by rw [hA.1, Nat.zero_mul])
    subst hn
    exact ⟨v, w, run_app_nil w B T ty e i size el.und hi v n xs hown c, by simpa using hown, World.grownBy.refl _ _, .inl rfl⟩
  · have hcells : ∀ j u, vs[j]? = some u → w.cell? (ad.add j) = some u := fun j u hj => by
      rcases Nat.eq_zero_or_pos m with h0 | h0
      · subst h0
        have hn : vs = [] := List.eq_nil_of_length_eq_zero (by rw [hA.1, Nat.zero_mul])
        subst hn
        cases hj
      · obtain ⟨b, o', e', _, _, hc⟩ := hA.2.2 h0
        injection e' with e'
        subst e'
        rw [Addr.add_lit]
        exact hc j u hj
    obtain ⟨v', w', hrun, r1, r2, _, r3⟩ := run_append_own_at (P := P) w B T ty e i z size bytes el.und hi hz h2 h3 el.zs el.pos v n xs hown ad m c vs hA.1 hcells h1 (by unfold maxLen; omega) (by omega) hB
    exact ⟨v', w', hrun, r1, r2, r3⟩
/-- 'append(v, x...)', x a row of values, as a step of a region that draws its order; and in a walk. -/
theorem step_appW {T e : TypeId} {z : Value} {size bytes : Nat} (el : El P T e z size bytes) (hgd : o.guard = none) (s x : Operand)
    (ho : o.op = .call { callee := .builtin .append, args := #[s, x], argTypes := #[T, T] })
    (B : Nat) (v : Value) (n : Nat) (xs : List Value) (hs : a.eval s = v) (hown : w.ownsRow B e size v n xs)
    (A : Option Addr) (m c : Nat) (vs : List Value) (hx : a.eval x = .slice A m c) (hA : VRow K w A m size vs) (h1 : ∀ u ∈ vs, u.oneCell' = true)
    (hb : n + m ≤ 1000000000) (hby : bytes ≤ 100) (hB : B ≤ w.heap.size)
    (h : ∀ v' w', w'.ownsRow B e size v' (n + m) (xs ++ vs) → w.grownBy w' v.ownBlock → J (a.put o.dst v') w') :
    if Region.wanted o (yielded ops a.tmps) = true then Oper.wp P o a w J Q else E := by
  have hw : Region.wanted o (yielded ops a.tmps) = true := by simp [Region.wanted, hgd]
  rw [if_pos hw]
  obtain ⟨v', w', hrun, r1, r2, _⟩ := run_appW (P := P) (K := K) el o.type B v n xs hown A m c vs hA h1 hb hby hB
  unfold Oper.wp execOp
  simp only [ho, resolve, invoke, builtin, Sem.run_bind, Sem.run_pure, Result.andThen_ok, List.map_toArray, List.map_cons, List.map_nil, hs, hx, hrun]
  exact h v' w' r1 r2
theorem wpList_appW {T e : TypeId} {z : Value} {size bytes : Nat} (el : El P T e z size bytes) {rest : List Oper} (hgd : Region.wanted o (yielded ops a.tmps) = true) (s x : Operand)
    (ho : o.op = .call { callee := .builtin .append, args := #[s, x], argTypes := #[T, T] })
    (B : Nat) (v : Value) (n : Nat) (xs : List Value) (hs : a.eval s = v) (hown : w.ownsRow B e size v n xs)
    (A : Option Addr) (m c : Nat) (vs : List Value) (hx : a.eval x = .slice A m c) (hA : VRow K w A m size vs) (h1 : ∀ u ∈ vs, u.oneCell' = true)
    (hb : n + m ≤ 1000000000) (hby : bytes ≤ 100) (hB : B ≤ w.heap.size)
    (h : ∀ v' w', w'.ownsRow B e size v' (n + m) (xs ++ vs) → w.grownBy w' v.ownBlock → wpList P ops Q rest (a.put o.dst v') w') : wpList P ops Q (o :: rest) a w :=
  wpList_w hgd fun _ hK => by
    obtain ⟨v', w', hrun, r1, r2, _⟩ := run_appW (P := P) (K := K) el o.type B v n xs hown A m c vs hA h1 hb hby hB
    unfold Oper.wp execOp
    simp only [ho, resolve, invoke, builtin, Sem.run_bind, Sem.run_pure, Result.andThen_ok, List.map_toArray, List.map_cons, List.map_nil, hs, hx, hrun]
    exact hK _ _ (h v' w' r1 r2)
/-- The same, and where the row lies behind it. -/
theorem step_appX {T e : TypeId} {z : Value} {size bytes : Nat} (el : El P T e z size bytes) (hgd : o.guard = none) (s x : Operand)
    (ho : o.op = .call { callee := .builtin .append, args := #[s, x], argTypes := #[T, T] })
    (B : Nat) (v : Value) (n : Nat) (xs : List Value) (hs : a.eval s = v) (hown : w.ownsRow B e size v n xs)
    (A : Option Addr) (m c : Nat) (vs : List Value) (hx : a.eval x = .slice A m c) (hA : VRow K w A m size vs) (h1 : ∀ u ∈ vs, u.oneCell' = true)
    (hb : n + m ≤ 1000000000) (hby : bytes ≤ 100) (hB : B ≤ w.heap.size)
    (h : ∀ v' w', w'.ownsRow B e size v' (n + m) (xs ++ vs) → w.grownBy w' v.ownBlock → (v'.ownBlock = v.ownBlock ∨ v'.ownBlock = some w.heap.size) → J (a.put o.dst v') w') :
    if Region.wanted o (yielded ops a.tmps) = true then Oper.wp P o a w J Q else E := by
  have hw : Region.wanted o (yielded ops a.tmps) = true := by simp [Region.wanted, hgd]
  rw [if_pos hw]
  obtain ⟨v', w', hrun, r1, r2, r3⟩ := run_appW (P := P) (K := K) el o.type B v n xs hown A m c vs hA h1 hb hby hB
  unfold Oper.wp execOp
  simp only [ho, resolve, invoke, builtin, Sem.run_bind, Sem.run_pure, Result.andThen_ok, List.map_toArray, List.map_cons, List.map_nil, hs, hx, hrun]
  exact h v' w' r1 r2 r3
theorem wpList_appX {T e : TypeId} {z : Value} {size bytes : Nat} (el : El P T e z size bytes) {rest : List Oper} (hgd : Region.wanted o (yielded ops a.tmps) = true) (s x : Operand)
    (ho : o.op = .call { callee := .builtin .append, args := #[s, x], argTypes := #[T, T] })
    (B : Nat) (v : Value) (n : Nat) (xs : List Value) (hs : a.eval s = v) (hown : w.ownsRow B e size v n xs)
    (A : Option Addr) (m c : Nat) (vs : List Value) (hx : a.eval x = .slice A m c) (hA : VRow K w A m size vs) (h1 : ∀ u ∈ vs, u.oneCell' = true)
    (hb : n + m ≤ 1000000000) (hby : bytes ≤ 100) (hB : B ≤ w.heap.size)
    (h : ∀ v' w', w'.ownsRow B e size v' (n + m) (xs ++ vs) → w.grownBy w' v.ownBlock → (v'.ownBlock = v.ownBlock ∨ v'.ownBlock = some w.heap.size) → wpList P ops Q rest (a.put o.dst v') w') : wpList P ops Q (o :: rest) a w :=
  wpList_w hgd fun _ hK => by
    obtain ⟨v', w', hrun, r1, r2, r3⟩ := run_appW (P := P) (K := K) el o.type B v n xs hown A m c vs hA h1 hb hby hB
    unfold Oper.wp execOp
    simp only [ho, resolve, invoke, builtin, Sem.run_bind, Sem.run_pure, Result.andThen_ok, List.map_toArray, List.map_cons, List.map_nil, hs, hx, hrun]
    exact hK _ _ (h v' w' r1 r2 r3)
end
end Go.Proofs.YtnjfogeefdmlkaaDoor
