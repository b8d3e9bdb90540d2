/- Words of my own for bytes in memory, and small laws on them; nothing here speaks of one program. -/
import Derived.Test.YtndnmcdbfjgglaaRows
import Derived.WalkKit
import Derived.ProofKit
import Derived.OpenShut
import Derived.WalkLawsBesides
import Derived.WalkSpells
import Derived.Lib.Hide
import Derived.Lib.AppendStr
import Derived.Laws.BytesArg
import Derived.Laws.IdiomStrings
import Derived.Laws.OwnMore
import Derived.Laws.AppendOwnNone
import Derived.Laws.CopyOwn
import Derived.Maps.AppendAt
import Derived.Deep.AppendLies
import Derived.Deep.Draws
import Derived.RegionTactic
import Derived.Handy
namespace Go.Proofs.Ytndnmcdbfjgglaa
open Go.RowKit

theorem ret_int {k : IntKind} {a b : Int} (h : a = b) : Ending.returned (.int k a) = .returned (.int k b) := by rw [h]
theorem ret_bool {a b : Bool} (h : a = b) : Ending.returned (.bool a) = .returned (.bool b) := by rw [h]

/-- The bytes as cells of memory. -/
def cells (l : List UInt8) : List Value := l.map fun b => Value.int .u8 (b.toNat : Int)

@[simp] theorem cells_length (l : List UInt8) : (cells l).length = l.length := by simp [cells]
theorem cells_append (l m : List UInt8) : cells (l ++ m) = cells l ++ cells m := by simp [cells]
theorem cells_nil : cells [] = [] := rfl
theorem cells_one (l : List UInt8) : ∀ u ∈ cells l, u.oneCell' = true := by
  intro u hu
  obtain ⟨_, _, rfl⟩ := List.mem_map.1 hu
  rfl
theorem cells_get {l : List UInt8} {j : Nat} (h : j < l.length) : (cells l)[j]? = some (.int .u8 (l[j].toNat : Int)) := by
  simp [cells, h]
theorem cells_take (l : List UInt8) (n : Nat) : cells (l.take n) = (cells l).take n := by simp [cells, List.map_take]
theorem cells_drop (l : List UInt8) (n : Nat) : cells (l.drop n) = (cells l).drop n := by simp [cells, List.map_drop]

theorem block_add (a : Addr) (n : Nat) : (a.add n).block = a.block := by unfold Addr.add; split <;> rfl
theorem add_add' (a : Addr) (i j : Nat) : (a.add i).add j = a.add (i + j) := by
  unfold Addr.add
  by_cases hi : i = 0 <;> by_cases hj : j = 0 <;> simp [hi, hj, Nat.add_assoc]

/-- The slice with address A and length n reads as the bytes l. -/
def Rd (w : World) (A : Option Addr) (n : Nat) (l : List UInt8) : Prop :=
  l.length = n ∧ (0 < n → ∃ b o, A = some ⟨b, o, none⟩ ∧ b < w.heap.size ∧ ∀ j (h : j < l.length), w.cell? ⟨b, o + j, none⟩ = some (.int .u8 (l[j].toNat : Int)))

section
variable {w w' : World} {A : Option Addr} {n : Nat} {l : List UInt8}

theorem Rd.len (h : Rd w A n l) : l.length = n := h.1
theorem Rd.nil (w : World) (A : Option Addr) : Rd w A 0 [] := ⟨rfl, fun h => absurd h (by omega)⟩

theorem Rd.below {B : Nat} (h : Rd w A n l) (hB : w.heap.size ≤ B) (hb : Below B w w') : Rd w' A n l :=
  ⟨h.1, fun hn => by
    obtain ⟨b, o, e, hlt, hc⟩ := h.2 hn
    exact ⟨b, o, e, by have := hb.size; omega, fun j hj => (hb.cell (p := ⟨b, o + j, none⟩) (by simp; omega)).trans (hc j hj)⟩⟩
theorem Rd.drew (h : Rd w A n l) : Rd w.drew A n l := h
theorem Rd.alloc (h : Rd w A n l) (o : Obj) : Rd (w.alloc o) A n l := h.below (Nat.le_refl _) ((Below.refl _ _).alloc (Nat.le_refl _) o)
theorem Rd.at_ (h : Rd w A n l) {k : Nat} (hk : k < n) : ∃ b o, A = some ⟨b, o, none⟩ ∧ b < w.heap.size ∧ w.cell? ⟨b, o + k, none⟩ = some (.int .u8 ((l[k]'(by have := h.1; omega)).toNat : Int)) := by
  obtain ⟨b, o, e, hlt, hc⟩ := h.2 (by omega)
  exact ⟨b, o, e, hlt, hc k (by have := h.1; omega)⟩

theorem Rd.of_own {base : Nat} {e : TypeId} {v : Value} {xs : List Value} (h : w.ownsRow base e 1 v n xs) (hx : xs = cells l) : ∃ A c, v = .slice A n c ∧ n ≤ c ∧ c ≤ maxLen ∧ Rd w A n l := by
  subst hx
  have hl : l.length = n := by have := h.1; simpa using this
  rcases h.2 with ⟨rfl, rfl⟩ | ⟨g, cap, cur, rfl, _, hh, hn, hc, _⟩
  · exact ⟨none, 0, rfl, Nat.le_refl _, Nat.zero_le _, hl, fun h => absurd h (by omega)⟩
  · refine ⟨_, cap, rfl, hn, hc, hl, fun _ => ⟨g, 0, rfl, (Array.getElem?_eq_some_iff.1 hh).1, fun j hj => ?_⟩⟩
    have h1 := h.cells (g := g) rfl j _ (cells_get hj)
    rw [Addr.add_lit] at h1
    exact h1

theorem Rd.cells_at {a : Addr} (h : Rd w (some a) n l) : ∀ j u, (cells l)[j]? = some u → w.cell? (a.add j) = some u := by
  intro j u hu
  have hj : j < l.length := by have := (List.getElem?_eq_some_iff.1 hu).1; simpa using this
  obtain ⟨b, o, e, _, hc⟩ := h.2 (by have := h.1; omega)
  injection e with e
  subst e
  rw [Addr.add_lit, hc j hj, ← cells_get hj, hu]

/-- A part of a slice: [lo:lo+m], the model's way to write where it begins. -/
theorem Rd.part {lo m : Nat} (h : Rd w A n l) (hlo : lo + m ≤ n) (A' : Option Addr) (hA : 0 < m → ∀ b o, A = some ⟨b, o, none⟩ → A' = some ⟨b, o + lo, none⟩) : Rd w A' m ((l.drop lo).take m) := by
  have hl := h.1
  refine ⟨by simp; omega, fun hm => ?_⟩
  obtain ⟨b, o, e, hlt, hc⟩ := h.2 (by omega)
  refine ⟨b, o + lo, hA hm b o e, hlt, fun j hj => ?_⟩
  have hj' : j < m := by simp at hj; omega
  rw [Nat.add_assoc, hc (lo + j) (by omega)]
  simp
end

/-- A string of these bytes. -/
def str (l : List UInt8) : ByteArray := ⟨l.toArray⟩

theorem run_to_string {P : Program} (src dst e : TypeId) (hs : P.underlying src = some (.slice e)) (he : P.underlying e = some (.int .u8)) (hd : P.underlying dst = some .string)
    (w : World) (A : Option Addr) (n c : Nat) (l : List UInt8) (h : Rd w A n l) : (convert src dst (.slice A n c)).run P w = .ok (.string (str l)) w := by
  obtain ⟨hl, hr⟩ := h
  subst hl
  by_cases h0 : l = []
  · subst h0
    cases A with
    | none => exact run_convert_bytes_nil w src e hs he 0 c dst hd
    | some a => exact run_convert_bytes_back w src dst e a c [] hs he hd (fun j hj => by simp at hj)
  · have hpos : 0 < l.length := List.length_pos_iff.2 h0
    obtain ⟨b, o, rfl, _, hc⟩ := hr hpos
    exact run_convert_bytes_back w src dst e _ c l hs he hd (fun j hj => by rw [Addr.add_lit]; exact hc j hj)

/-- What the laws on append and make ask of a slice type T and its element type e. -/
structure El (P : Program) (T e : TypeId) (z : Value) (size bytes : Nat) : Prop where
  und : P.underlying T = some (.slice e)
  info : (P.info? e).map (fun i => (i.zero, i.size, i.bytes)) = some (some z, size, bytes)
  zs : z.cells.size = size
  pos : 0 < size

theorem below_own {w w' : World} {B : Nat} {e : TypeId} {size n : Nat} {v : Value} {xs : List Value} (h : w.ownsRow B e size v n xs) (hB : B ≤ w.heap.size) (hg : w.grownBy w' v.ownBlock) : Below B w w' :=
  (Below.refl _ _).grown hg hB (fun k hk => (h.lt k hk).1)

/-- What is owned stays owned where nothing that was there is turned. -/
theorem own_keep {w w' : World} {B : Nat} {e : TypeId} {size n : Nat} {v : Value} {xs : List Value} (h : w.ownsRow B e size v n xs) (hb : Below w.heap.size w w') : w'.ownsRow B e size v n xs :=
  ⟨h.1, h.2.elim .inl fun ⟨g, cap, cur, e1, e2, hh, r⟩ => .inr ⟨g, cap, cur, e1, e2, (hb.block g (Array.getElem?_eq_some_iff.1 hh).1).trans hh, r⟩⟩

/-- An operation that is wanted (it has no guard, or its guard says yes). -/
theorem wpList_w {P : Program} {ops : Array Oper} {Q : Exit → Act → World → Prop} {a : Act} {w : World} {rest : List Oper} {o : Oper} (hw : Region.wanted o (yielded ops a.tmps) = true)
    (h : ∀ K : Act → World → Prop, (∀ a w, wpList P ops Q rest a w → K a w) → o.wp P a w K Q) : wpList P ops Q (o :: rest) a w :=
  wpList_step fun K hK => by rw [if_pos hw]; exact h K hK

section
variable {P : Program} (w : World)

theorem run_app_nil (base : Nat) (t ty e : TypeId) (i : TypeInfo) (size : Nat) (ht : P.underlying t = some (.slice e)) (hi : P.info? e = some i)
    (v : Value) (n : Nat) (xs : List Value) (hown : w.ownsRow base e size v n xs) (c : Nat) : (Builtin.append_ #[t, t] ty #[v, .slice none 0 c]).run P w = .ok v w := by
  rcases hown.2 with ⟨rfl, rfl⟩ | ⟨g, cap, cur, rfl, _, _, hnc, _⟩
  · simp [Builtin.append_, run_underlying ht, sizeOf, typeInfo, hi, Builtin.lenOf, Builtin.firstCells]
  · simp [Builtin.append_, run_underlying ht, sizeOf, typeInfo, hi, Builtin.lenOf, Builtin.firstCells, hnc, storeCells]

/-- 'append(v, x...)': v owned from B on, x any slice of bytes. -/
theorem run_app {T e : TypeId} (el : El P T e (.int .u8 0) 1 1) (ty : TypeId) (B : Nat) (v : Value) (n : Nat) (xs : List Value) (hown : w.ownsRow B e 1 v n xs)
    (A : Option Addr) (m c : Nat) (l : List UInt8) (hr : Rd w A m l) (hb : n + m ≤ 140737488355328) (hB : B ≤ w.heap.size) :
    ∃ v' w', (Builtin.append_ #[T, T] ty #[v, .slice A m c]).run P w = .ok v' w' ∧ w'.ownsRow B e 1 v' (n + m) (xs ++ cells l) ∧ Below B w w' := by
  obtain ⟨i, hi, hz, h1, h2⟩ := info_parts el.info
  rcases A with _ | ad
  · have hm : m = 0 := by
      rcases Nat.eq_zero_or_pos m with h0 | h0
      · exact h0
      · obtain ⟨_, _, h, _⟩ := hr.2 h0
        cases h
    subst hm
    have hn : l = [] := List.eq_nil_of_length_eq_zero hr.1
    subst hn
    exact ⟨v, w, run_app_nil w B T ty e i 1 el.und hi v n xs hown c, by simpa [cells_nil] using hown, Below.refl _ _⟩
  · obtain ⟨v', w', hrun, ho, hg, _⟩ := run_append_own (P := P) w B T ty e i (.int .u8 0) 1 1 el.und hi hz h1 h2 rfl (by decide) v n xs hown ad m c (cells l) (by simp [hr.1]) hr.cells_at (cells_one l)
      (by unfold maxLen; omega) (by omega) hB
    exact ⟨v', w', hrun, ho, below_own hown hB hg⟩

theorem wpList_app {T e : TypeId} (el : El P T e (.int .u8 0) 1 1) {ops : Array Oper} {rest : List Oper} {o : Oper} {a : Act} {Q : Exit → Act → World → Prop} (hgd : Region.wanted o (yielded ops a.tmps) = true) (s x : Operand)
    (ho : o.op = .call { callee := .builtin .append, args := #[s, x], argTypes := #[T, T] })
    (B : Nat) (v : Value) (n : Nat) (xs : List Value) (hs : a.eval s = v) (hown : w.ownsRow B e 1 v n xs)
    (A : Option Addr) (m c : Nat) (l : List UInt8) (hx : a.eval x = .slice A m c) (hr : Rd w A m l) (hb : n + m ≤ 140737488355328) (hB : B ≤ w.heap.size)
    (h : ∀ v' w', w'.ownsRow B e 1 v' (n + m) (xs ++ cells l) → Below B w w' → wpList P ops Q rest (a.put o.dst v') w') : wpList P ops Q (o :: rest) a w :=
  wpList_w hgd fun _ hK => by
    obtain ⟨v', w', hrun, h2, h3⟩ := run_app w el o.type B v n xs hown A m c l hr hb hB
    unfold Oper.wp execOp
    simp only [ho, resolve, invoke, builtin, Sem.run_bind, Sem.run_pure, Result.andThen_ok, List.map_toArray, List.map_cons, List.map_nil, hs, hx, hrun]
    exact hK _ _ (h v' w' h2 h3)
end

/-- 'append(v, s...)': v owned from B on, s a string. -/
theorem wpList_apps {P : Program} (w : World) {T U e : TypeId} (el : El P T e (.int .u8 0) 1 1) (hu : P.underlying U = some .string) {ops : Array Oper} {rest : List Oper} {o : Oper} {a : Act} {Q : Exit → Act → World → Prop} (hgd : Region.wanted o (yielded ops a.tmps) = true) (x y : Operand)
    (ho : o.op = .call { callee := .builtin .append, args := #[x, y], argTypes := #[T, U] })
    (B : Nat) (v : Value) (n : Nat) (xs : List Value) (hs : a.eval x = v) (hown : w.ownsRow B e 1 v n xs)
    (s : ByteArray) (hx : a.eval y = .string s) (hb : n + s.size ≤ 140737488355328) (hB : B ≤ w.heap.size)
    (h : ∀ v' w', w'.ownsRow B e 1 v' (n + s.size) (xs ++ cells s.data.toList) → Below B w w' → wpList P ops Q rest (a.put o.dst v') w') : wpList P ops Q (o :: rest) a w :=
  wpList_w hgd fun _ hK => by
    obtain ⟨i, hi, hz, h1, h2⟩ := info_parts el.info
    obtain ⟨v', w', hrun, h2, h3, _⟩ := Lib.run_append_own_string (P := P) w B T U o.type e i el.und hu hi hz h1 h2 v n xs hown s (by unfold maxLen; omega) hb hB
    unfold Oper.wp execOp
    simp only [ho, resolve, invoke, builtin, Sem.run_bind, Sem.run_pure, Result.andThen_ok, List.map_toArray, List.map_cons, List.map_nil, hs, hx, hrun]
    exact hK _ _ (h v' w' h2 (below_own hown hB h3))

/-- 'make([]T, 0, n)'. -/
theorem wpList_mk {P : Program} (w : World) {T e : TypeId} {z : Value} {size bytes : Nat} (el : El P T e z size bytes) {ops : Array Oper} {rest : List Oper} {o : Oper} {a : Act} {Q : Exit → Act → World → Prop} (hgd : o.guard = none) (x y : Operand)
    (ho : o.op = Op.makeSlice T x y) (B : Nat) (kl kc : IntKind) (C : Int) (n : Nat) (hl : a.eval x = .int kl 0) (hc : a.eval y = .int kc C) (hC : C = (n : Int)) (hb : bytes * n ≤ 281474976710656) (hm : n ≤ maxLen) (hB : B ≤ w.heap.size)
    (h : ∀ v w', w'.ownsRow B e size v 0 [] → Below B w w' → wpList P ops Q rest (a.put o.dst v) w') : wpList P ops Q (o :: rest) a w := by
  obtain ⟨i, hi, hz, h1, h2⟩ := info_parts el.info
  refine wpList_make_own w hgd x y T ho B e i z size el.und hi hz h1 kl kc C n hl hc hC (by rw [h2]; exact hb) hm hB ?_
  intro w' hown hg
  exact h _ w' hown ((Below.refl _ _).grown hg hB (fun k hk => by cases hk))

/-- 'make([]T, n)'. -/
theorem wpList_mkn {P : Program} (w : World) {T e : TypeId} {z : Value} {size bytes : Nat} (el : El P T e z size bytes) {ops : Array Oper} {rest : List Oper} {o : Oper} {a : Act} {Q : Exit → Act → World → Prop} (hgd : o.guard = none) (x y : Operand)
    (ho : o.op = Op.makeSlice T x y) (B : Nat) (kl kc : IntKind) (L C : Int) (n : Nat) (hl : a.eval x = .int kl L) (hc : a.eval y = .int kc C) (hL : L = (n : Int)) (hC : C = (n : Int)) (hb : bytes * n ≤ 281474976710656) (hm : n ≤ maxLen) (hB : B ≤ w.heap.size)
    (h : ∀ w', w'.ownsRow B e size (.slice (some ⟨w.heap.size, 0, none⟩) n n) n (madeCells z.cells (n * size)).toList → Below B w w' → wpList P ops Q rest (a.put o.dst (.slice (some ⟨w.heap.size, 0, none⟩) n n)) w') : wpList P ops Q (o :: rest) a w := by
  obtain ⟨i, hi, hz, h1, h2⟩ := info_parts el.info
  refine wpList_make_full w hgd x y T ho B e i z size el.und hi hz h1 kl kc L C n hl hc hL hC (by rw [h2]; exact hb) hm hB ?_
  intro w' hown hg
  exact h w' hown ((Below.refl _ _).grown hg hB (fun k hk => by cases hk))

/-- A new block of bytes reads as them. -/
theorem Rd.new (w : World) (e : TypeId) (l : List UInt8) (fr : Nat × Nat) : Rd (w.alloc (.cells (cells l).toArray e fr)) (some ⟨w.heap.size, 0, none⟩) l.length l :=
  ⟨rfl, fun _ => ⟨w.heap.size, 0, rfl, by simp, fun j hj => by
    have h : (w.alloc (.cells (cells l).toArray e fr)).heap[w.heap.size]? = some (.cells (cells l).toArray e fr) := by
      show (w.heap.push _)[w.heap.size]? = _
      simp
    rw [cell_of_row _ w.heap.size (0 + j) _ e fr h]
    simpa using cells_get hj⟩⟩

/-- What '[]byte(s)' lays reads as s. -/
theorem Rd.ofString (w : World) (e : TypeId) (s : ByteArray) (cap : Nat) (fr : Nat × Nat) : Rd (w.alloc (.cells (bytesRow s cap) e fr)) (some ⟨w.heap.size, 0, none⟩) s.size s.data.toList :=
  ⟨by simp, fun _ => ⟨w.heap.size, 0, rfl, by simp, fun j hj => by
    have h : (w.alloc (.cells (bytesRow s cap) e fr)).heap[w.heap.size]? = some (.cells (bytesRow s cap) e fr) := by
      show (w.heap.push _)[w.heap.size]? = _
      simp
    rw [cell_of_row _ w.heap.size (0 + j) _ e fr h]
    have hj' : j < s.data.size := by simpa using hj
    rw [bytesRow, Array.getElem?_append_left (by simpa using hj'), Nat.zero_add, Array.getElem?_map, Array.getElem?_eq_getElem hj']
    simp⟩⟩

theorem own_full {w : World} {B : Nat} {e : TypeId} {g k : Nat} {xs : List Value} (h : w.ownsRow B e 1 (.slice (some ⟨g, 0, none⟩) k k) k xs) : B ≤ g ∧ k ≤ maxLen ∧ w.heap[g]? = some (.cells xs.toArray e (0, 0)) := by
  rcases h.2 with ⟨h, _⟩ | ⟨g', cap, cur, hv, hB, hh, hn, hc, hs, ht⟩
  · cases h
  · injection hv with h1 h2 h3
    injection h1 with h1
    injection h1 with h1
    subst h1; subst h3
    refine ⟨hB, hc, ?_⟩
    rw [← ht, List.take_of_length_le (by simp; omega)]
    exact hh
theorem own_of_full {w : World} {B : Nat} {e : TypeId} {g k : Nat} {xs : List Value} (hB : B ≤ g) (hk : k ≤ maxLen) (hx : xs.length = k) (h : w.heap[g]? = some (.cells xs.toArray e (0, 0))) : w.ownsRow B e 1 (.slice (some ⟨g, 0, none⟩) k k) k xs :=
  ⟨by omega, .inr ⟨g, k, xs.toArray, rfl, hB, h, Nat.le_refl _, hk, by simpa using hx, by subst hx; simp⟩⟩

/-- 'copy(out, x)': out a row of k bytes of the call's own, filled up to its capacity; x any slice of bytes. -/
theorem wpList_cpy {P : Program} {w : World} {T e : TypeId} (el : El P T e (.int .u8 0) 1 1) {ops : Array Oper} {rest : List Oper} {o : Oper} {a : Act} {Q : Exit → Act → World → Prop} (hgd : o.guard = none) (x y : Operand)
    (ho : o.op = .call { callee := .builtin .copy, args := #[x, y], argTypes := #[T, T] })
    (B g k : Nat) (xs : List Value) (hs : a.eval x = .slice (some ⟨g, 0, none⟩) k k) (hown : w.ownsRow B e 1 (.slice (some ⟨g, 0, none⟩) k k) k xs)
    (A : Option Addr) (m c : Nat) (l : List UInt8) (hx : a.eval y = .slice A m c) (hr : Rd w A m l)
    (h : ∀ w', w'.ownsRow B e 1 (.slice (some ⟨g, 0, none⟩) k k) k (splice xs 0 (cells (l.take k))) → Below B w w' → wpList P ops Q rest (a.put o.dst (goInt (l.take k).length)) w') : wpList P ops Q (o :: rest) a w := by
  obtain ⟨i, hi, hz, h1, h2⟩ := info_parts el.info
  obtain ⟨hB, hk, hh⟩ := own_full hown
  have hxl : xs.length = k := by have := hown.1; omega
  have hl : (l.take k).length ≤ xs.length := by simp; omega
  have hgoal := h
  refine wpList_copy_splice hgd x y T T ho e el.und (by rw [hi]; simp [h1]) _ A k k m c hs hx g 0 xs e hh (cells (l.take k)) (by have := hr.1; show _ = min m k; simp; omega)
    (fun hpos => ⟨rfl, ?_⟩) (by simpa using hl) (cells_one _) B w (Below.refl _ _) hB ?_
  · have hpos' : 0 < m := by have := hr.1; simp at hpos; omega
    obtain ⟨b, o, rfl, _, hc⟩ := hr.2 hpos'
    refine ⟨_, rfl, fun j v hj => hr.cells_at j v ?_⟩
    rw [cells_take, List.getElem?_take] at hj
    split at hj
    · exact hj
    · cases hj
  · intro w' hH hb
    rw [cells_length]
    refine h w' (own_of_full hB hk ?_ hH.out) hb
    rw [length_splice _ _ _ (by simpa using hl)]
    exact hxl

/-- An argument that is a slice of bytes, as the row's frame tells it. -/
theorem rd_of_row {w : World} {a : Option Addr} {len cap : Nat} {zs : List Int}
    (h : (a = none ∧ len = 0 ∧ cap = 0 ∧ zs = []) ∨ ∃ x, a = some x ∧ len ≤ cap ∧ cap ≤ maxLen ∧ zs.length = cap ∧ (∀ i, i < zs.length → w.cell? (x.add i) = some (.int .u8 (zs.getD i 0))) ∧ ∀ n ∈ zs, (Lit.int .u8 n).wf = true) :
    ∃ l, Rd w a len l ∧ len ≤ cap ∧ cap ≤ maxLen := by
  rcases h with ⟨rfl, rfl, rfl, rfl⟩ | ⟨x, rfl, hl, hm, hz, hc, hw⟩
  · exact ⟨[], Rd.nil _ _, Nat.le_refl _, Nat.zero_le _⟩
  · refine ⟨(zs.take len).map fun n => UInt8.ofNat n.toNat, ⟨by simp; omega, fun hpos => ?_⟩, hl, hm⟩
    have h0 := hc 0 (by omega)
    obtain ⟨b, off, spot⟩ := x
    have hspot : spot = none := by simpa [Addr.add] using World.cell?_spot h0
    subst hspot
    have hlt : ((⟨b, off, none⟩ : Addr).add 0).block < w.heap.size := World.block_lt_of_cell? w _ h0
    refine ⟨b, off, rfl, by simpa [Addr.add] using hlt, fun j hj => ?_⟩
    have hj' : j < len := by simp at hj; omega
    have h1 := hc j (by omega)
    rw [Addr.add_lit] at h1
    rw [h1]
    have hmem : zs[j]'(by omega) ∈ zs := List.getElem_mem _
    have hb := bounds_u8 (hw _ hmem)
    have e : zs.getD j 0 = zs[j]'(by omega) := by simp [List.getD, List.getElem?_eq_getElem (show j < zs.length by omega)]
    rw [e]
    simp
    omega
theorem u8_of {a : Int} (h : (Lit.int .u8 a).wf = true) : ∃ b : UInt8, a = (b.toNat : Int) := by
  have hb := bounds_u8 h
  refine ⟨UInt8.ofNat a.toNat, ?_⟩
  rw [UInt8.toNat_ofNat']
  omega
/-- A block of the call's own that holds no byte. -/
theorem own_empty (w : World) (B : Nat) (e : TypeId) (hB : B ≤ w.heap.size) : (w.alloc (.cells #[] e)).ownsRow B e 1 (.slice (some ⟨w.heap.size, 0, none⟩) 0 0) 0 [] :=
  World.ownsRow_lit w #[] 0 hB (Nat.zero_le _) rfl
end Go.Proofs.Ytndnmcdbfjgglaa
