/- Mem, Num, CdM, Own, DMem, Rec, Base -/
import Derived.Test.YtlinafnhhnkjnaaRows
import Derived.WalkKit
import Derived.ProofKit
import Derived.OpenShut
import Derived.WalkLawsBesides
import Derived.WalkSpells
import Derived.Lib.Hide
import Derived.Lib.AppendStr
import Derived.Laws.BytesArg
import Derived.Laws.IdiomStrings
import Derived.Laws.OwnMore
import Derived.Laws.AppendOwnNone
import Derived.Laws.CopyOwn
import Derived.Maps.AppendAt
import Derived.Deep.AppendLies
import Derived.Deep.Draws
import Derived.RegionTactic
import Derived.Handy
import Derived.Laws.BitsAllLaws
import Derived.Laws.BitsLemmas
import Derived.OwnWalk
import Derived.Maps.RangeWalk
import Derived.Deep.MidRow
import Derived.Deep.WholeRow
import Derived.Laws.ResultCell
namespace Go.Proofs.Ytlinafnhhnkjnaa
open Go.RowKit

theorem ret_int {k : IntKind} {a b : Int} (h : a = b) : Ending.returned (.int k a) = .returned (.int k b) := by rw [h]
theorem ret_bool {a b : Bool} (h : a = b) : Ending.returned (.bool a) = .returned (.bool b) := by rw [h]

/-- The bytes as cells of memory. -/
def cells (l : List UInt8) : List Value := l.map fun b => Value.int .u8 (b.toNat : Int)

@[simp] theorem cells_length (l : List UInt8) : (cells l).length = l.length := by simp [cells]
theorem cells_append (l m : List UInt8) : cells (l ++ m) = cells l ++ cells m := by simp [cells]
theorem cells_nil : cells [] = [] := rfl
theorem cells_one (l : List UInt8) : ∀ u ∈ cells l, u.oneCell' = true := by
  intro u hu
  obtain ⟨_, _, rfl⟩ := List.mem_map.1 hu
  rfl
theorem cells_get {l : List UInt8} {j : Nat} (h : j < l.length) : (cells l)[j]? = some (.int .u8 (l[j].toNat : Int)) := by
  simp [cells, h]
theorem cells_take (l : List UInt8) (n : Nat) : cells (l.take n) = (cells l).take n := by simp [cells, List.map_take]
theorem cells_drop (l : List UInt8) (n : Nat) : cells (l.drop n) = (cells l).drop n := by simp [cells, List.map_drop]

theorem block_add (a : Addr) (n : Nat) : (a.add n).block = a.block := by unfold Addr.add; split <;> rfl
theorem add_add' (a : Addr) (i j : Nat) : (a.add i).add j = a.add (i + j) := by
  unfold Addr.add
  by_cases hi : i = 0 <;> by_cases hj : j = 0 <;> simp [hi, hj, Nat.add_assoc]

/-- The slice with address A and length n reads as the bytes l. -/
def Rd (w : World) (A : Option Addr) (n : Nat) (l : List UInt8) : Prop :=
  l.length = n ∧ (0 < n → ∃ b o, A = some ⟨b, o, none⟩ ∧ b < w.heap.size ∧ ∀ j (h : j < l.length), w.cell? ⟨b, o + j, none⟩ = some (.int .u8 (l[j].toNat : Int)))

section
variable {w w' : World} {A : Option Addr} {n : Nat} {l : List UInt8}

theorem Rd.len (h : Rd w A n l) : l.length = n := h.1
theorem Rd.nil (w : World) (A : Option Addr) : Rd w A 0 [] := ⟨rfl, fun h => absurd h (by omega)⟩

theorem Rd.below {B : Nat} (h : Rd w A n l) (hB : w.heap.size ≤ B) (hb : Below B w w') : Rd w' A n l :=
  ⟨h.1, fun hn => by
    obtain ⟨b, o, e, hlt, hc⟩ := h.2 hn
    exact ⟨b, o, e, by have := hb.size; omega, fun j hj => (hb.cell (p := ⟨b, o + j, none⟩) (by simp; omega)).trans (hc j hj)⟩⟩
theorem Rd.drew (h : Rd w A n l) : Rd w.drew A n l := h
theorem Rd.alloc (h : Rd w A n l) (o : Obj) : Rd (w.alloc o) A n l := h.below (Nat.le_refl _) ((Below.refl _ _).alloc (Nat.le_refl _) o)
theorem Rd.at_ (h : Rd w A n l) {k : Nat} (hk : k < n) : ∃ b o, A = some ⟨b, o, none⟩ ∧ b < w.heap.size ∧ w.cell? ⟨b, o + k, none⟩ = some (.int .u8 ((l[k]'(by have := h.1; omega)).toNat : Int)) := by
  obtain ⟨b, o, e, hlt, hc⟩ := h.2 (by omega)
  exact ⟨b, o, e, hlt, hc k (by have := h.1; omega)⟩

theorem Rd.of_own {base : Nat} {e : TypeId} {v : Value} {xs : List Value} (h : w.ownsRow base e 1 v n xs) (hx : xs = cells l) : ∃ A c, v = .slice A n c ∧ n ≤ c ∧ c ≤ maxLen ∧ Rd w A n l := by
  subst hx
  have hl : l.length = n := by have := h.1; simpa using this
  rcases h.2 with ⟨rfl, rfl⟩ | ⟨g, cap, cur, rfl, _, hh, hn, hc, _⟩
  · exact ⟨none, 0, rfl, Nat.le_refl _, Nat.zero_le _, hl, fun h => absurd h (by omega)⟩
  · refine ⟨_, cap, rfl, hn, hc, hl, fun _ => ⟨g, 0, rfl, (Array.getElem?_eq_some_iff.1 hh).1, fun j hj => ?_⟩⟩
    have h1 := h.cells (g := g) rfl j _ (cells_get hj)
    rw [Addr.add_lit] at h1
    exact h1

theorem Rd.cells_at {a : Addr} (h : Rd w (some a) n l) : ∀ j u, (cells l)[j]? = some u → w.cell? (a.add j) = some u := by
  intro j u hu
  have hj : j < l.length := by have := (List.getElem?_eq_some_iff.1 hu).1; simpa using this
  obtain ⟨b, o, e, _, hc⟩ := h.2 (by have := h.1; omega)
  injection e with e
  subst e
  rw [Addr.add_lit, hc j hj, ← cells_get hj, hu]

/-- A part of a slice: [lo:lo+m], the model's way to write where it begins. -/
theorem Rd.part {lo m : Nat} (h : Rd w A n l) (hlo : lo + m ≤ n) (A' : Option Addr) (hA : 0 < m → ∀ b o, A = some ⟨b, o, none⟩ → A' = some ⟨b, o + lo, none⟩) : Rd w A' m ((l.drop lo).take m) := by
  have hl := h.1
  refine ⟨by simp; omega, fun hm => ?_⟩
  obtain ⟨b, o, e, hlt, hc⟩ := h.2 (by omega)
  refine ⟨b, o + lo, hA hm b o e, hlt, fun j hj => ?_⟩
  have hj' : j < m := by simp at hj; omega
  rw [Nat.add_assoc, hc (lo + j) (by omega)]
  simp
end

/-- A string of these bytes. -/
def str (l : List UInt8) : ByteArray := ⟨l.toArray⟩

theorem run_to_string {P : Program} (src dst e : TypeId) (hs : P.underlying src = some (.slice e)) (he : P.underlying e = some (.int .u8)) (hd : P.underlying dst = some .string)
    (w : World) (A : Option Addr) (n c : Nat) (l : List UInt8) (h : Rd w A n l) : (convert src dst (.slice A n c)).run P w = .ok (.string (str l)) w := by
  obtain ⟨hl, hr⟩ := h
  subst hl
  by_cases h0 : l = []
  · subst h0
    cases A with
    | none => exact run_convert_bytes_nil w src e hs he 0 c dst hd
    | some a => exact run_convert_bytes_back w src dst e a c [] hs he hd (fun j hj => by simp at hj)
  · have hpos : 0 < l.length := List.length_pos_iff.2 h0
    obtain ⟨b, o, rfl, _, hc⟩ := hr hpos
    exact run_convert_bytes_back w src dst e _ c l hs he hd (fun j hj => by rw [Addr.add_lit]; exact hc j hj)

/-- What the laws on append and make ask of a slice type T and its element type e. -/
structure El (P : Program) (T e : TypeId) (z : Value) (size bytes : Nat) : Prop where
  und : P.underlying T = some (.slice e)
  info : (P.info? e).map (fun i => (i.zero, i.size, i.bytes)) = some (some z, size, bytes)
  zs : z.cells.size = size
  pos : 0 < size

theorem below_own {w w' : World} {B : Nat} {e : TypeId} {size n : Nat} {v : Value} {xs : List Value} (h : w.ownsRow B e size v n xs) (hB : B ≤ w.heap.size) (hg : w.grownBy w' v.ownBlock) : Below B w w' :=
  (Below.refl _ _).grown hg hB (fun k hk => (h.lt k hk).1)

/-- What is owned stays owned where nothing that was there is turned. -/
theorem own_keep {w w' : World} {B : Nat} {e : TypeId} {size n : Nat} {v : Value} {xs : List Value} (h : w.ownsRow B e size v n xs) (hb : Below w.heap.size w w') : w'.ownsRow B e size v n xs :=
  ⟨h.1, h.2.elim .inl fun ⟨g, cap, cur, e1, e2, hh, r⟩ => .inr ⟨g, cap, cur, e1, e2, (hb.block g (Array.getElem?_eq_some_iff.1 hh).1).trans hh, r⟩⟩

/-- An operation that is wanted (it has no guard, or its guard says yes). -/
theorem wpList_w {P : Program} {ops : Array Oper} {Q : Exit → Act → World → Prop} {a : Act} {w : World} {rest : List Oper} {o : Oper} (hw : Region.wanted o (yielded ops a.tmps) = true)
    (h : ∀ K : Act → World → Prop, (∀ a w, wpList P ops Q rest a w → K a w) → o.wp P a w K Q) : wpList P ops Q (o :: rest) a w :=
  wpList_step fun K hK => by rw [if_pos hw]; exact h K hK

section
variable {P : Program} (w : World)

theorem run_app_nil (base : Nat) (t ty e : TypeId) (i : TypeInfo) (size : Nat) (ht : P.underlying t = some (.slice e)) (hi : P.info? e = some i)
    (v : Value) (n : Nat) (xs : List Value) (hown : w.ownsRow base e size v n xs) (c : Nat) : (Builtin.append_ #[t, t] ty #[v, .slice none 0 c]).run P w = .ok v w := by
  rcases hown.2 with ⟨rfl, rfl⟩ | ⟨g, cap, cur, rfl, _, _, hnc, _⟩
  · simp [Builtin.append_, run_underlying ht, sizeOf, typeInfo, hi, Builtin.lenOf, Builtin.firstCells]
  · simp [Builtin.append_, run_underlying ht, sizeOf, typeInfo, hi, Builtin.lenOf, Builtin.firstCells, hnc, storeCells]

/-- 'append(v, x...)': v owned from B on, x any slice of bytes. -/
theorem run_app {T e : TypeId} (el : El P T e (.int .u8 0) 1 1) (ty : TypeId) (B : Nat) (v : Value) (n : Nat) (xs : List Value) (hown : w.ownsRow B e 1 v n xs)
    (A : Option Addr) (m c : Nat) (l : List UInt8) (hr : Rd w A m l) (hb : n + m ≤ 140737488355328) (hB : B ≤ w.heap.size) :
    ∃ v' w', (Builtin.append_ #[T, T] ty #[v, .slice A m c]).run P w = .ok v' w' ∧ w'.ownsRow B e 1 v' (n + m) (xs ++ cells l) ∧ Below B w w' := by
  obtain ⟨i, hi, hz, h1, h2⟩ := info_parts el.info
  rcases A with _ | ad
  · have hm : m = 0 := by
      rcases Nat.eq_zero_or_pos m with h0 | h0
      · exact h0
      · obtain ⟨_, _, h, _⟩ := hr.2 h0
        cases h
    subst hm
    have hn : l = [] := List.eq_nil_of_length_eq_zero hr.1
    subst hn
    exact ⟨v, w, run_app_nil w B T ty e i 1 el.und hi v n xs hown c, by simpa [cells_nil] using hown, Below.refl _ _⟩
  · obtain ⟨v', w', hrun, ho, hg, _⟩ := run_append_own (P := P) w B T ty e i (.int .u8 0) 1 1 el.und hi hz h1 h2 rfl (by decide) v n xs hown ad m c (cells l) (by simp [hr.1]) hr.cells_at (cells_one l)
      (by unfold maxLen; omega) (by omega) hB
    exact ⟨v', w', hrun, ho, below_own hown hB hg⟩

theorem wpList_app {T e : TypeId} (el : El P T e (.int .u8 0) 1 1) {ops : Array Oper} {rest : List Oper} {o : Oper} {a : Act} {Q : Exit → Act → World → Prop} (hgd : Region.wanted o (yielded ops a.tmps) = true) (s x : Operand)
    (ho : o.op = .call { callee := .builtin .append, args := #[s, x], argTypes := #[T, T] })
    (B : Nat) (v : Value) (n : Nat) (xs : List Value) (hs : a.eval s = v) (hown : w.ownsRow B e 1 v n xs)
    (A : Option Addr) (m c : Nat) (l : List UInt8) (hx : a.eval x = .slice A m c) (hr : Rd w A m l) (hb : n + m ≤ 140737488355328) (hB : B ≤ w.heap.size)
    (h : ∀ v' w', w'.ownsRow B e 1 v' (n + m) (xs ++ cells l) → Below B w w' → wpList P ops Q rest (a.put o.dst v') w') : wpList P ops Q (o :: rest) a w :=
  wpList_w hgd fun _ hK => by
    obtain ⟨v', w', hrun, h2, h3⟩ := run_app w el o.type B v n xs hown A m c l hr hb hB
    unfold Oper.wp execOp
    simp only [ho, resolve, invoke, builtin, Sem.run_bind, Sem.run_pure, Result.andThen_ok, List.map_toArray, List.map_cons, List.map_nil, hs, hx, hrun]
    exact hK _ _ (h v' w' h2 h3)
end

/-- 'append(v, s...)': v owned from B on, s a string. -/
theorem wpList_apps {P : Program} (w : World) {T U e : TypeId} (el : El P T e (.int .u8 0) 1 1) (hu : P.underlying U = some .string) {ops : Array Oper} {rest : List Oper} {o : Oper} {a : Act} {Q : Exit → Act → World → Prop} (hgd : Region.wanted o (yielded ops a.tmps) = true) (x y : Operand)
    (ho : o.op = .call { callee := .builtin .append, args := #[x, y], argTypes := #[T, U] })
    (B : Nat) (v : Value) (n : Nat) (xs : List Value) (hs : a.eval x = v) (hown : w.ownsRow B e 1 v n xs)
    (s : ByteArray) (hx : a.eval y = .string s) (hb : n + s.size ≤ 140737488355328) (hB : B ≤ w.heap.size)
    (h : ∀ v' w', w'.ownsRow B e 1 v' (n + s.size) (xs ++ cells s.data.toList) → Below B w w' → wpList P ops Q rest (a.put o.dst v') w') : wpList P ops Q (o :: rest) a w :=
  wpList_w hgd fun _ hK => by
    obtain ⟨i, hi, hz, h1, h2⟩ := info_parts el.info
    obtain ⟨v', w', hrun, h2, h3, _⟩ := Lib.run_append_own_string (P := P) w B T U o.type e i el.und hu hi hz h1 h2 v n xs hown s (by unfold maxLen; omega) hb hB
    unfold Oper.wp execOp
    simp only [ho, resolve, invoke, builtin, Sem.run_bind, Sem.run_pure, Result.andThen_ok, List.map_toArray, List.map_cons, List.map_nil, hs, hx, hrun]
    exact hK _ _ (h v' w' h2 (below_own hown hB h3))

/-- 'make([]T, 0, n)'. -/
theorem wpList_mk {P : Program} (w : World) {T e : TypeId} {z : Value} {size bytes : Nat} (el : El P T e z size bytes) {ops : Array Oper} {rest : List Oper} {o : Oper} {a : Act} {Q : Exit → Act → World → Prop} (hgd : o.guard = none) (x y : Operand)
    (ho : o.op = Op.makeSlice T x y) (B : Nat) (kl kc : IntKind) (C : Int) (n : Nat) (hl : a.eval x = .int kl 0) (hc : a.eval y = .int kc C) (hC : C = (n : Int)) (hb : bytes * n ≤ 281474976710656) (hm : n ≤ maxLen) (hB : B ≤ w.heap.size)
    (h : ∀ v w', w'.ownsRow B e size v 0 [] → Below B w w' → wpList P ops Q rest (a.put o.dst v) w') : wpList P ops Q (o :: rest) a w := by
  obtain ⟨i, hi, hz, h1, h2⟩ := info_parts el.info
  refine wpList_make_own w hgd x y T ho B e i z size el.und hi hz h1 kl kc C n hl hc hC (by rw [h2]; exact hb) hm hB ?_
  intro w' hown hg
  exact h _ w' hown ((Below.refl _ _).grown hg hB (fun k hk => by cases hk))

/-- 'make([]T, n)'. -/
theorem wpList_mkn {P : Program} (w : World) {T e : TypeId} {z : Value} {size bytes : Nat} (el : El P T e z size bytes) {ops : Array Oper} {rest : List Oper} {o : Oper} {a : Act} {Q : Exit → Act → World → Prop} (hgd : o.guard = none) (x y : Operand)
    (ho : o.op = Op.makeSlice T x y) (B : Nat) (kl kc : IntKind) (L C : Int) (n : Nat) (hl : a.eval x = .int kl L) (hc : a.eval y = .int kc C) (hL : L = (n : Int)) (hC : C = (n : Int)) (hb : bytes * n ≤ 281474976710656) (hm : n ≤ maxLen) (hB : B ≤ w.heap.size)
    (h : ∀ w', w'.ownsRow B e size (.slice (some ⟨w.heap.size, 0, none⟩) n n) n (madeCells z.cells (n * size)).toList → Below B w w' → wpList P ops Q rest (a.put o.dst (.slice (some ⟨w.heap.size, 0, none⟩) n n)) w') : wpList P ops Q (o :: rest) a w := by
  obtain ⟨i, hi, hz, h1, h2⟩ := info_parts el.info
  refine wpList_make_full w hgd x y T ho B e i z size el.und hi hz h1 kl kc L C n hl hc hL hC (by rw [h2]; exact hb) hm hB ?_
  intro w' hown hg
  exact h w' hown ((Below.refl _ _).grown hg hB (fun k hk => by cases hk))

/-- A new block of bytes reads as them. -/
theorem Rd.new (w : World) (e : TypeId) (l : List UInt8) (fr : Nat × Nat) : Rd (w.alloc (.cells (cells l).toArray e fr)) (some ⟨w.heap.size, 0, none⟩) l.length l :=
  ⟨rfl, fun _ => ⟨w.heap.size, 0, rfl, by simp, fun j hj => by
    have h : (w.alloc (.cells (cells l).toArray e fr)).heap[w.heap.size]? = some (.cells (cells l).toArray e fr) := by
      show (w.heap.push _)[w.heap.size]? = _
      simp
    rw [cell_of_row _ w.heap.size (0 + j) _ e fr h]
    simpa using cells_get hj⟩⟩

/-- What '[]byte(s)' lays reads as s. -/
theorem Rd.ofString (w : World) (e : TypeId) (s : ByteArray) (cap : Nat) (fr : Nat × Nat) : Rd (w.alloc (.cells (bytesRow s cap) e fr)) (some ⟨w.heap.size, 0, none⟩) s.size s.data.toList :=
  ⟨by simp, fun _ => ⟨w.heap.size, 0, rfl, by simp, fun j hj => by
    have h : (w.alloc (.cells (bytesRow s cap) e fr)).heap[w.heap.size]? = some (.cells (bytesRow s cap) e fr) := by
      show (w.heap.push _)[w.heap.size]? = _
      simp
    rw [cell_of_row _ w.heap.size (0 + j) _ e fr h]
    have hj' : j < s.data.size := by simpa using hj
    rw [bytesRow, Array.getElem?_append_left (by simpa using hj'), Nat.zero_add, Array.getElem?_map, Array.getElem?_eq_getElem hj']
    simp⟩⟩

theorem own_full {w : World} {B : Nat} {e : TypeId} {g k : Nat} {xs : List Value} (h : w.ownsRow B e 1 (.slice (some ⟨g, 0, none⟩) k k) k xs) : B ≤ g ∧ k ≤ maxLen ∧ w.heap[g]? = some (.cells xs.toArray e (0, 0)) := by
  rcases h.2 with ⟨h, _⟩ | ⟨g', cap, cur, hv, hB, hh, hn, hc, hs, ht⟩
  · cases h
  · injection hv with h1 h2 h3
    injection h1 with h1
    injection h1 with h1
    subst h1; subst h3
    refine ⟨hB, hc, ?_⟩
    rw [← ht, List.take_of_length_le (by simp; omega)]
    exact hh
theorem own_of_full {w : World} {B : Nat} {e : TypeId} {g k : Nat} {xs : List Value} (hB : B ≤ g) (hk : k ≤ maxLen) (hx : xs.length = k) (h : w.heap[g]? = some (.cells xs.toArray e (0, 0))) : w.ownsRow B e 1 (.slice (some ⟨g, 0, none⟩) k k) k xs :=
  ⟨by omega, .inr ⟨g, k, xs.toArray, rfl, hB, h, Nat.le_refl _, hk, by simpa using hx, by subst hx; simp⟩⟩

/-- 'copy(out, x)': out a row of k bytes of the call's own, filled up to its capacity; x any slice of bytes. -/
theorem wpList_cpy {P : Program} {w : World} {T e : TypeId} (el : El P T e (.int .u8 0) 1 1) {ops : Array Oper} {rest : List Oper} {o : Oper} {a : Act} {Q : Exit → Act → World → Prop} (hgd : o.guard = none) (x y : Operand)
    (ho : o.op = .call { callee := .builtin .copy, args := #[x, y], argTypes := #[T, T] })
    (B g k : Nat) (xs : List Value) (hs : a.eval x = .slice (some ⟨g, 0, none⟩) k k) (hown : w.ownsRow B e 1 (.slice (some ⟨g, 0, none⟩) k k) k xs)
    (A : Option Addr) (m c : Nat) (l : List UInt8) (hx : a.eval y = .slice A m c) (hr : Rd w A m l)
    (h : ∀ w', w'.ownsRow B e 1 (.slice (some ⟨g, 0, none⟩) k k) k (splice xs 0 (cells (l.take k))) → Below B w w' → wpList P ops Q rest (a.put o.dst (goInt (l.take k).length)) w') : wpList P ops Q (o :: rest) a w := by
  obtain ⟨i, hi, hz, h1, h2⟩ := info_parts el.info
  obtain ⟨hB, hk, hh⟩ := own_full hown
  have hxl : xs.length = k := by have := hown.1; omega
  have hl : (l.take k).length ≤ xs.length := by simp; omega
  have hgoal := h
  refine wpList_copy_splice hgd x y T T ho e el.und (by rw [hi]; simp [h1]) _ A k k m c hs hx g 0 xs e hh (cells (l.take k)) (by have := hr.1; show _ = min m k; simp; omega)
    (fun hpos => ⟨rfl, ?_⟩) (by simpa using hl) (cells_one _) B w (Below.refl _ _) hB ?_
  · have hpos' : 0 < m := by have := hr.1; simp at hpos; omega
    obtain ⟨b, o, rfl, _, hc⟩ := hr.2 hpos'
    refine ⟨_, rfl, fun j v hj => hr.cells_at j v ?_⟩
    rw [cells_take, List.getElem?_take] at hj
    split at hj
    · exact hj
    · cases hj
  · intro w' hH hb
    rw [cells_length]
    refine h w' (own_of_full hB hk ?_ hH.out) hb
    rw [length_splice _ _ _ (by simpa using hl)]
    exact hxl

/-- An argument that is a slice of bytes, as the row's frame tells it. -/
theorem rd_of_row {w : World} {a : Option Addr} {len cap : Nat} {zs : List Int}
    (h : (a = none ∧ len = 0 ∧ cap = 0 ∧ zs = []) ∨ ∃ x, a = some x ∧ len ≤ cap ∧ cap ≤ maxLen ∧ zs.length = cap ∧ (∀ i, i < zs.length → w.cell? (x.add i) = some (.int .u8 (zs.getD i 0))) ∧ ∀ n ∈ zs, (Lit.int .u8 n).wf = true) :
    ∃ l, Rd w a len l ∧ len ≤ cap ∧ cap ≤ maxLen := by
  rcases h with ⟨rfl, rfl, rfl, rfl⟩ | ⟨x, rfl, hl, hm, hz, hc, hw⟩
  · exact ⟨[], Rd.nil _ _, Nat.le_refl _, Nat.zero_le _⟩
  · refine ⟨(zs.take len).map fun n => UInt8.ofNat n.toNat, ⟨by simp; omega, fun hpos => ?_⟩, hl, hm⟩
    have h0 := hc 0 (by omega)
    obtain ⟨b, off, spot⟩ := x
    have hspot : spot = none := by simpa [Addr.add] using World.cell?_spot h0
    subst hspot
    have hlt : ((⟨b, off, none⟩ : Addr).add 0).block < w.heap.size := World.block_lt_of_cell? w _ h0
    refine ⟨b, off, rfl, by simpa [Addr.add] using hlt, fun j hj => ?_⟩
    have hj' : j < len := by simp at hj; omega
    have h1 := hc j (by omega)
    rw [Addr.add_lit] at h1
    rw [h1]
    have hmem : zs[j]'(by omega) ∈ zs := List.getElem_mem _
    have hb := bounds_u8 (hw _ hmem)
    have e : zs.getD j 0 = zs[j]'(by omega) := by simp [List.getD, List.getElem?_eq_getElem (show j < zs.length by omega)]
    rw [e]
    simp
    omega
theorem u8_of {a : Int} (h : (Lit.int .u8 a).wf = true) : ∃ b : UInt8, a = (b.toNat : Int) := by
  have hb := bounds_u8 h
  refine ⟨UInt8.ofNat a.toNat, ?_⟩
  rw [UInt8.toNat_ofNat']
  omega
/-- A block of the call's own that holds no byte. -/
theorem own_empty (w : World) (B : Nat) (e : TypeId) (hB : B ≤ w.heap.size) : (w.alloc (.cells #[] e)).ownsRow B e 1 (.slice (some ⟨w.heap.size, 0, none⟩) 0 0) 0 [] :=
  World.ownsRow_lit w #[] 0 hB (Nat.zero_le _) rfl
end Go.Proofs.Ytlinafnhhnkjnaa
namespace Go.Proofs.Ytlinafnhhnkjnaa
open Go.RowKit

/-- Byte i of n. -/
def byteOf (n : Int) (i : Nat) : UInt8 := UInt8.ofNat ((n / 2 ^ (8 * i)) % 256).toNat
/-- The lowest k bytes of n, the lowest first. -/
def numB (k : Nat) (n : Int) : List UInt8 := (List.range k).map (byteOf n)

@[simp] theorem numB_length (k : Nat) (n : Int) : (numB k n).length = k := by simp [numB]
theorem numB_zero (n : Int) : numB 0 n = [] := rfl
theorem numB_succ (k : Nat) (n : Int) : numB (k + 1) n = numB k n ++ [byteOf n k] := by simp [numB, List.range_succ]
theorem byteOf_toNat (n : Int) (i : Nat) : ((byteOf n i).toNat : Int) = (n / 2 ^ (8 * i)) % 256 := by
  have h1 : 0 ≤ (n / 2 ^ (8 * i)) % 256 := Int.emod_nonneg _ (by decide)
  have h2 : (n / 2 ^ (8 * i)) % 256 < 256 := Int.emod_lt_of_pos _ (by decide)
  unfold byteOf
  rw [UInt8.toNat_ofNat']
  omega

/-- A width that may be. -/
def wd (width : Int) : Nat := (min (max width 1) 8).toNat
theorem wd_cast (width : Int) : ((wd width : Nat) : Int) = min (max width 1) 8 := by unfold wd; omega
theorem wd_bd (width : Int) : 1 ≤ wd width ∧ wd width ≤ 8 := by unfold wd; omega

/-- What is left of n behind its j lowest bytes, as a number of 64 bits. -/
def rest64 (n : Int) (j : Nat) : Int := (n % 18446744073709551616) / 2 ^ (8 * j)
theorem rest64_zero (n : Int) : rest64 n 0 = n % 18446744073709551616 := by simp [rest64]
theorem rest64_succ (n : Int) (j : Nat) : rest64 n (j + 1) = rest64 n j / 256 := by
  unfold rest64
  rw [show 8 * (j + 1) = 8 * j + 8 from by omega, Int.pow_add, Int.ediv_ediv_of_nonneg (Int.le_of_lt (Int.pow_pos (by decide)))]
  rfl
theorem rest64_bd (n : Int) (j : Nat) : 0 ≤ rest64 n j ∧ rest64 n j ≤ 18446744073709551615 := by
  have h1 : 0 ≤ n % 18446744073709551616 := Int.emod_nonneg _ (by decide)
  have h2 : n % 18446744073709551616 < 18446744073709551616 := Int.emod_lt_of_pos _ (by decide)
  unfold rest64
  refine ⟨Int.ediv_nonneg h1 (Int.le_of_lt (Int.pow_pos (by decide))), ?_⟩
  have := Int.ediv_le_self (2 ^ (8 * j)) h1
  omega
theorem pow_split (j : Nat) (hj : j < 8) : (18446744073709551616 : Int) = 2 ^ (8 * j) * (256 * 2 ^ (8 * (7 - j))) := by
  rw [show (256 : Int) = 2 ^ 8 from rfl, ← Int.pow_add, ← Int.pow_add, show 8 * j + (8 + 8 * (7 - j)) = 64 from by omega]
  rfl
theorem rest64_byte (n : Int) (j : Nat) (hj : j < 8) : rest64 n j % 256 = ((byteOf n j).toNat : Int) := by
  rw [byteOf_toNat, rest64]
  have e := pow_split j hj
  have h0 : (2 : Int) ^ (8 * j) ≠ 0 := Int.ne_of_gt (Int.pow_pos (by decide))
  have hn := Int.mul_ediv_add_emod n 18446744073709551616
  have h1 : n = (n % 18446744073709551616) + 2 ^ (8 * j) * (256 * (2 ^ (8 * (7 - j)) * (n / 18446744073709551616))) := by
    have : (18446744073709551616 : Int) * (n / 18446744073709551616) = 2 ^ (8 * j) * (256 * (2 ^ (8 * (7 - j)) * (n / 18446744073709551616))) := by
      conv => lhs; rw [e]
      simp only [Int.mul_assoc]
      rw [← e]
    omega
  conv => rhs; rw [h1]
  rw [Int.add_mul_ediv_left _ _ h0]
  omega

/-- The first k bytes of l, and bytes 0, if there are fewer. -/
def cut (k : Nat) (l : List UInt8) : List UInt8 := (List.range k).map fun i => l.getD i 0
@[simp] theorem cut_length (k : Nat) (l : List UInt8) : (cut k l).length = k := by simp [cut]
theorem cut_succ (k : Nat) (l : List UInt8) : cut (k + 1) l = cut k l ++ [l.getD k 0] := by simp [cut, List.range_succ]

theorem cut_made (k : Nat) (l : List UInt8) : splice (madeCells (Value.int .u8 0).cells (k * 1)).toList 0 (cells (l.take k)) = cells (cut k l) := by
  have e : (madeCells (Value.int .u8 0).cells (k * 1)).toList = List.replicate k (Value.int .u8 0) := by
    rw [Nat.mul_one]
    exact toList_madeCells_one (Value.int .u8 0) k
  rw [e]
  apply List.ext_getElem?
  intro j
  have hlen : (cells (l.take k)).length = min k l.length := by simp
  unfold splice
  rw [List.take_zero, List.nil_append, Nat.zero_add, List.getElem?_append, hlen]
  by_cases h1 : j < min k l.length
  · rw [if_pos h1]
    simp [cells, cut, show j < k by omega, show j < l.length by omega]
  · rw [if_neg h1, List.getElem?_drop, List.getElem?_replicate]
    by_cases h2 : j < k
    · rw [if_pos (by omega)]
      simp [cells, cut, h2, List.getElem?_eq_none (show l.length ≤ j by omega)]
    · rw [if_neg (by omega)]
      simp [cells, cut, h2]

/-- The number that bytes are, the lowest first. -/
def leN : List UInt8 → Nat
  | [] => 0
  | b :: l => b.toNat + 256 * leN l
theorem leN_append (l m : List UInt8) : leN (l ++ m) = leN l + 2 ^ (8 * l.length) * leN m := by
  induction l with
  | nil => simp [leN]
  | cons b l ih =>
    simp only [List.cons_append, leN, ih, List.length_cons]
    rw [show 8 * (l.length + 1) = 8 + 8 * l.length from by omega, Nat.pow_add, Nat.mul_add, Nat.add_assoc, Nat.mul_assoc]
theorem leN_lt (l : List UInt8) : leN l < 2 ^ (8 * l.length) := by
  induction l with
  | nil => simp [leN]
  | cons b l ih =>
    simp only [leN, List.length_cons]
    rw [show 8 * (l.length + 1) = 8 + 8 * l.length from by omega, Nat.pow_add]
    have := b.toNat_lt
    omega
theorem leN_take_succ (l : List UInt8) (j : Nat) (h : j < l.length) : leN (l.take (j + 1)) = leN (l.take j) + l[j].toNat * 2 ^ (8 * j) := by
  rw [List.take_succ_eq_append_getElem h, leN_append]
  simp [leN, Nat.min_eq_left (Nat.le_of_lt h), Nat.mul_comm]
theorem leN_drop (l : List UInt8) (j : Nat) (h : j < l.length) : leN (l.drop j) = l[j].toNat + 256 * leN (l.drop (j + 1)) := by
  rw [List.drop_eq_getElem_cons h]
  rfl
theorem leN_take_or (l : List UInt8) (j : Nat) (h : j < l.length) : leN (l.take j) ||| (l[j].toNat * 2 ^ (8 * j)) = leN (l.take (j + 1)) := by
  have hlt : leN (l.take j) < 2 ^ (8 * j) := by
    have := leN_lt (l.take j)
    rwa [List.length_take, Nat.min_eq_left (Nat.le_of_lt h)] at this
  rw [leN_take_succ l j h, ← Nat.shiftLeft_eq, Nat.or_comm, ← Nat.shiftLeft_add_eq_or_of_lt hlt, Nat.add_comm]
/-- What Get tells of bytes that are there. -/
def getV (l : List UInt8) : Int := wrap64 (leN l : Int)
theorem emod_mul_split (n a b : Int) (ha : 0 < a) (hb : 0 < b) : n % (a * b) = n % a + a * (n / a % b) := by
  have h1 := Int.mul_ediv_add_emod n a
  have h2 := Int.mul_ediv_add_emod (n / a) b
  have p1 := Int.emod_nonneg n (Int.ne_of_gt ha)
  have p2 := Int.emod_lt_of_pos n ha
  have p3 := Int.emod_nonneg (n / a) (Int.ne_of_gt hb)
  have p4 := Int.emod_lt_of_pos (n / a) hb
  have e : n = (n % a + a * (n / a % b)) + a * b * (n / a / b) := by
    conv => lhs; rw [← h1, ← h2]
    rw [Int.mul_add, Int.mul_assoc]
    omega
  have q1 : 0 ≤ a * (n / a % b) := Int.mul_nonneg (Int.le_of_lt ha) p3
  have q2 : a * (n / a % b) ≤ a * (b - 1) := Int.mul_le_mul_of_nonneg_left (by omega) (Int.le_of_lt ha)
  rw [Int.mul_sub] at q2
  conv => lhs; rw [e]
  rw [Int.add_mul_emod_self_left]
  exact Int.emod_eq_of_lt (by omega) (by omega)
theorem leN_numB (k : Nat) (n : Int) : (leN (numB k n) : Int) = n % 2 ^ (8 * k) := by
  induction k with
  | zero => simp [numB, leN, Int.emod_one]
  | succ k ih =>
    rw [numB_succ, leN_append, numB_length]
    simp only [leN, Nat.mul_zero, Nat.add_zero]
    have e1 : (((2 : Nat) ^ (8 * k) : Nat) : Int) = (2 : Int) ^ (8 * k) := by simp
    rw [Int.natCast_add, Int.natCast_mul, ih, byteOf_toNat, e1, show 8 * (k + 1) = 8 * k + 8 from by omega, Int.pow_add, show (2 : Int) ^ 8 = 256 from rfl]
    exact (emod_mul_split n _ _ (Int.pow_pos (by decide)) (by decide)).symm

theorem pow_le64 (j : Nat) (h : j ≤ 7) : 2 ^ (8 * j) ≤ 72057594037927936 := by
  have := Nat.pow_le_pow_right (n := 2) (by decide) (show 8 * j ≤ 56 by omega)
  simpa using this
theorem leN_lt64 (l : List UInt8) (h : l.length ≤ 8) : leN l < 18446744073709551616 := by
  have h1 := leN_lt l
  have := Nat.pow_le_pow_right (n := 2) (by decide) (show 8 * l.length ≤ 64 by omega)
  omega
theorem u64_in (n : Nat) (h : n < 18446744073709551616) : IntKind.u64.wrap (n : Int) = n := by
  rw [IntKind.wrap_u64]
  omega
/-- One round of Get. -/
theorem or_step (p : List UInt8) (j : Nat) (h : j < p.length) (hp : p.length ≤ 8) :
    bits BinOp.or IntKind.u64 (↑(leN (List.take j p))) (IntKind.u64.wrap (IntKind.u64.wrap ↑p[j].toNat * 2 ^ (8 * j))) = ↑(leN (List.take (j + 1) p)) := by
  have hb := p[j].toNat_lt
  have h1 := pow_le64 j (by omega)
  have h2 : p[j].toNat * 2 ^ (8 * j) < 18446744073709551616 :=
    Nat.lt_of_lt_of_le (Nat.mul_lt_mul_of_pos_right hb (Nat.pow_pos (by decide))) (by omega)
  have e1 : IntKind.u64.wrap (p[j].toNat : Int) = p[j].toNat := u64_in _ (by omega)
  have e2 : (p[j].toNat : Int) * 2 ^ (8 * j) = ((p[j].toNat * 2 ^ (8 * j) : Nat) : Int) := by simp
  rw [e1, e2, u64_in _ h2, u64_or_nat _ _ (leN_lt64 _ (by simp; omega)) h2, leN_take_or p j h]

theorem drop_step (p : List UInt8) (i : Nat) (h : i < p.length) (hp : p.length ≤ 8) : leN (p.drop (i + 1)) ≤ 72057594037927935 ∧ p[i].toNat < 256 := by
  have h1 := leN_lt (p.drop (i + 1))
  have h2 := pow_le64 (p.length - (i + 1)) (by omega)
  rw [List.length_drop] at h1
  exact ⟨by omega, p[i].toNat_lt⟩

theorem getV_in (l : List UInt8) (h : leN l ≤ 9223372036854775807) : getV l = leN l := IntWalk.wrap64_in _ ⟨by omega, by omega⟩

theorem pow2_le56 (m : Nat) (hm : m ≤ 56) : 1 ≤ 2 ^ m ∧ 2 ^ m ≤ 72057594037927936 := by
  have := Nat.pow_le_pow_right (n := 2) (by decide) hm
  exact ⟨Nat.one_le_two_pow, by simpa using this⟩
/-- The lowest m bits of a number. -/
theorem mask_i64 (k : Int) (m : Nat) (hm : m ≤ 56) : bits BinOp.and IntKind.i64 k (2 ^ m - 1) = k % 2 ^ m := by
  obtain ⟨p1, p2⟩ := pow2_le56 m hm
  have e0 : (2 : Int) ^ m - 1 = ((2 ^ m - 1 : Nat) : Int) := by
    have : ((2 ^ m : Nat) : Int) = (2 : Int) ^ m := by simp
    omega
  rw [e0]
  show IntKind.i64.wrap ((BitVec.ofInt 64 k &&& BitVec.ofInt 64 ((2 ^ m - 1 : Nat) : Int)).toNat : Int) = _
  have e1 : (BitVec.ofInt 64 ((2 ^ m - 1 : Nat) : Int)).toNat = 2 ^ m - 1 := by
    rw [BitVec.ofInt_natCast, BitVec.toNat_ofNat]
    exact Nat.mod_eq_of_lt (by omega)
  rw [BitVec.toNat_and, e1, Nat.and_two_pow_sub_one_eq_mod, BitVec.toNat_ofInt]
  have e2 : (((k % ((2 ^ 64 : Nat) : Int)).toNat % 2 ^ m : Nat) : Int) = k % 2 ^ m := by
    have hd : ((2 : Int) ^ m) ∣ (2 ^ 64 : Int) := ⟨2 ^ (64 - m), by rw [← Int.pow_add, show m + (64 - m) = 64 from by omega]⟩
    have h0 : 0 ≤ k % ((2 ^ 64 : Nat) : Int) := Int.emod_nonneg _ (by decide)
    rw [Int.natCast_emod, Int.toNat_of_nonneg h0]
    have h1 : ((2 ^ m : Nat) : Int) = (2 : Int) ^ m := by simp
    rw [h1]
    exact Int.emod_emod_of_dvd k hd
  rw [e2, IntKind.wrap_i64]
  have h1 : ((2 ^ m : Nat) : Int) = (2 : Int) ^ m := by simp
  have h2 := Int.emod_nonneg k (b := (2 : Int) ^ m) (by omega)
  have h3 := Int.emod_lt_of_pos k (b := (2 : Int) ^ m) (by omega)
  omega
/-- The reference's mask for a width below 8. -/
theorem mask_wd (k width : Int) (h1 : 1 ≤ width) (h8 : width < 8) : bits BinOp.and IntKind.i64 k (wrap64 (wrap64 (2 ^ (8 * width).toNat) - 1)) = wrap64 (k % 2 ^ (8 * wd width)) := by
  have e : (8 * width).toNat = 8 * wd width := by have := wd_cast width; omega
  have hw : wd width ≤ 7 := by have := wd_cast width; omega
  obtain ⟨p1, p2⟩ := pow2_le56 (8 * wd width) (by omega)
  have e1 : ((2 ^ (8 * wd width) : Nat) : Int) = (2 : Int) ^ (8 * wd width) := by simp
  have h2 := Int.emod_nonneg k (b := (2 : Int) ^ (8 * wd width)) (by omega)
  have h3 := Int.emod_lt_of_pos k (b := (2 : Int) ^ (8 * wd width)) (by omega)
  rw [e, IntWalk.wrap64_in ((2 : Int) ^ (8 * wd width)) ⟨by omega, by omega⟩, IntWalk.wrap64_in ((2 : Int) ^ (8 * wd width) - 1) ⟨by omega, by omega⟩, mask_i64 k _ (by omega), IntWalk.wrap64_in (k % 2 ^ (8 * wd width)) ⟨by omega, by omega⟩]
theorem wrap_full (k : Int) (hk : -9223372036854775808 ≤ k ∧ k ≤ 9223372036854775807) (width : Int) (h : 8 ≤ width) : wrap64 (k % 2 ^ (8 * wd width)) = k := by
  have hw : wd width = 8 := by have := wd_cast width; omega
  rw [hw, show (2 : Int) ^ (8 * 8) = 18446744073709551616 from by decide]
  unfold wrap64
  omega

theorem mask_255 (k width : Int) (h : width < 1) : bits BinOp.and IntKind.i64 k 255 = wrap64 (k % 2 ^ (8 * wd width)) := by
  have hw : wd width = 1 := by have := wd_cast width; omega
  have h2 := Int.emod_nonneg k (b := (256 : Int)) (by omega)
  have h3 := Int.emod_lt_of_pos k (b := (256 : Int)) (by omega)
  rw [hw, show (2 : Int) ^ (8 * 1) = 256 from by decide, IntWalk.wrap64_in _ ⟨by omega, by omega⟩]
  exact mask_i64 k 8 (by decide)
end Go.Proofs.Ytlinafnhhnkjnaa
namespace Go.Proofs.Ytlinafnhhnkjnaa
open Go.RowKit

/-- A command. -/
structure Cd where
  d : Int
  lc : Bool
  ix : Int
  gn : Int
  cp : Int
  dt : List UInt8
abbrev Cd.zero : Cd := ⟨0, false, 0, 0, 0, []⟩
/-- Its cells; the data lie at A. -/
abbrev Cd.cs (x : Cd) (A : Option Addr) (n c : Nat) : Array Value := #[.int .i64 x.d, .bool x.lc, .int .i64 x.ix, .int .i64 x.gn, .int .i64 x.cp, .slice A n c]
theorem Cd.cs_size (x : Cd) (A : Option Addr) (n c : Nat) : (x.cs A n c).size = 6 := rfl
theorem Cd.cs_one (x : Cd) (A : Option Addr) (n c : Nat) : (x.cs A n c).all (·.oneCell') = true := by simp [Value.oneCell']
/-- Is it one of the four, and what has it? -/
def Cd.ok (x : Cd) : Prop := 0 ≤ x.d ∧ x.d ≤ 3
/-- P13.1: what counts of it. -/
def Cd.plain (x : Cd) : Cd :=
  if x.d = 0 then ⟨0, false, 0, 0, 0, []⟩
  else if x.d = 1 then ⟨1, x.lc, x.ix, if x.lc then 0 else x.gn, 0, []⟩
  else if x.d = 2 then ⟨2, x.lc, x.ix, if x.lc then 0 else x.gn, x.cp, x.dt⟩
  else if x.d = 3 then ⟨3, x.lc, x.ix, if x.lc then 0 else x.gn, x.cp, []⟩
  else x
/-- P13.1: Check. -/
def Cd.check (x : Cd) : Int := if 0 ≤ x.d ∧ x.d ≤ 3 then (if x.dt.length ≤ 64 then 0 else 13) else 1
/-- Whom it is done to, as bytes. -/
def Cd.tgt (x : Cd) : List UInt8 := if x.lc then numB 1 1 ++ numB 8 x.ix else numB 1 0 ++ numB 8 x.ix ++ numB 8 x.gn
/-- P13.2: its bytes. -/
def Cd.bytes (x : Cd) : List UInt8 :=
  if x.d = 0 then numB 1 0
  else if x.d = 1 then numB 1 1 ++ x.tgt
  else if x.d = 2 then numB 1 2 ++ x.tgt ++ numB 8 x.cp ++ numB 2 x.dt.length ++ x.dt
  else if x.d = 3 then numB 1 3 ++ x.tgt ++ numB 8 x.cp
  else [255]

theorem cd_cases (d : Int) : d = 0 ∨ d = 1 ∨ d = 2 ∨ d = 3 ∨ (d < 0 ∨ 3 < d) := by omega
theorem Cd.plain_plain (x : Cd) : x.plain.plain = x.plain := by
  obtain ⟨d, lc, ix, gn, cp, dt⟩ := x
  rcases cd_cases d with rfl | rfl | rfl | rfl | h
  · rfl
  · cases lc <;> rfl
  · cases lc <;> rfl
  · cases lc <;> rfl
  · have h0 : ¬ d = 0 := by omega
    have h1 : ¬ d = 1 := by omega
    have h2 : ¬ d = 2 := by omega
    have h3 : ¬ d = 3 := by omega
    simp [Cd.plain, h0, h1, h2, h3]
/-- Are all fields the same? -/
def Cd.eqB (x y : Cd) : Bool := decide (x.d = y.d) && decide (x.lc = y.lc) && decide (x.ix = y.ix ∧ x.gn = y.gn) && decide (x.cp = y.cp) && decide (x.dt = y.dt)
theorem Cd.eqB_iff (x y : Cd) : x.eqB y = true ↔ x = y := by
  obtain ⟨d, lc, ix, gn, cp, dt⟩ := x
  obtain ⟨d', lc', ix', gn', cp', dt'⟩ := y
  simp only [Cd.eqB, Bool.and_eq_true, decide_eq_true_eq, Cd.mk.injEq]
  constructor
  · rintro ⟨⟨⟨⟨h1, h2⟩, h3, h4⟩, h5⟩, h6⟩
    exact ⟨h1, h2, h3, h4, h5, h6⟩
  · rintro ⟨h1, h2, h3, h4, h5, h6⟩
    exact ⟨⟨⟨⟨h1, h2⟩, h3, h4⟩, h5⟩, h6⟩
theorem Cd.eqB_self (x : Cd) : x.eqB x = true := (Cd.eqB_iff x x).2 rfl
theorem Cd.tgt_len (x : Cd) : x.tgt.length ≤ 17 := by unfold Cd.tgt; split <;> simp
theorem Cd.bytes_len (x : Cd) : x.bytes.length ≤ 28 + x.dt.length := by
  have := x.tgt_len
  unfold Cd.bytes
  repeat' split
  all_goals (simp; try omega)
theorem Cd.plain_dt (x : Cd) : x.plain.dt.length ≤ x.dt.length := by
  unfold Cd.plain
  repeat' split
  all_goals simp
end Go.Proofs.Ytlinafnhhnkjnaa
namespace Go.Proofs.Ytlinafnhhnkjnaa
open Go.RowKit

/-- What lies below B reads as it did. -/
theorem Rd.below' {w w' : World} {A : Option Addr} {n B : Nat} {l : List UInt8} (h : Rd w A n l) (hb : Below B w w') (hB : 0 < n → ∃ b o, A = some ⟨b, o, none⟩ ∧ b < B) : Rd w' A n l :=
  ⟨h.1, fun hn => by
    obtain ⟨b, o, e, hlt, hc⟩ := h.2 hn
    obtain ⟨b', o', e', hB'⟩ := hB hn
    rw [e] at e'
    obtain ⟨rfl, rfl⟩ : b = b' ∧ o = o' := by injection e' with e'; injection e' with e1 e2; exact ⟨e1, e2⟩
    exact ⟨b, o, e, by have := hb.size; omega, fun j hj => (hb.cell (p := ⟨b, o + j, none⟩) hB').trans (hc j hj)⟩⟩
theorem own_block {w : World} {B : Nat} {e : TypeId} {A : Option Addr} {n c b o : Nat} {xs : List Value} (h : w.ownsRow B e 1 (.slice A n c) n xs) (hA : A = some ⟨b, o, none⟩) : B ≤ b := by
  rcases h.2 with ⟨h1, _⟩ | ⟨g, cap, cur, hv, hB, _⟩
  · injection h1 with h1; rw [hA] at h1; cases h1
  · injection hv with h1
    rw [hA] at h1
    injection h1 with h1
    injection h1 with h1
    omega
theorem Rd.block {w w' : World} {A : Option Addr} {n : Nat} {l : List UInt8} (h : Rd w A n l) (hs : w.heap.size ≤ w'.heap.size) (hk : ∀ b o, A = some ⟨b, o, none⟩ → w'.heap[b]? = w.heap[b]?) : Rd w' A n l :=
  ⟨h.1, fun hn => by
    obtain ⟨b, o, e, hlt, hc⟩ := h.2 hn
    exact ⟨b, o, e, by omega, fun j hj => (World.cell?_of_block (w := w) (a := ⟨b, o + j, none⟩) (hk b o e)).trans (hc j hj)⟩⟩
theorem Rd.src {w : World} {A : Option Addr} {n : Nat} {l : List UInt8} (h : Rd w A n l) (m : Nat) (hpos : 0 < (cells (l.take m)).length) : ∃ ad, A = some ad ∧ ∀ j v, (cells (l.take m))[j]? = some v → w.cell? (ad.add j) = some v := by
  have hl := h.1
  obtain ⟨b, o, e, _, hc⟩ := h.2 (by simp at hpos; omega)
  refine ⟨⟨b, o, none⟩, e, fun j v hj => ?_⟩
  have hj1 : j < (l.take m).length := by have := (List.getElem?_eq_some_iff.1 hj).1; simpa using this
  have hj2 : j < l.length := by simp at hj1; omega
  rw [Addr.add_lit, hc j hj2, ← hj, cells_get hj1]
  simp
theorem heap_setCell_at {w : World} {g j : Nat} {C : Array Value} {T : TypeId} {fr : Nat × Nat} (h : w.heap[g]? = some (.cells C T fr)) (v : Value) : (w.setCell ⟨g, j, none⟩ v).heap[g]? = some (.cells (C.setIfInBounds j v) T fr) := by
  simp [World.setCell, Array.getElem?_modify, h]
theorem own_mono {w : World} {B B' : Nat} {e : TypeId} {size n : Nat} {v : Value} {xs : List Value} (h : w.ownsRow B e size v n xs) (hB : B' ≤ B) : w.ownsRow B' e size v n xs :=
  ⟨h.1, h.2.elim .inl fun ⟨g, cap, cur, e1, e2, r⟩ => .inr ⟨g, cap, cur, e1, by omega, r⟩⟩
/-- What is owned from B on stays owned where one block below B was written. -/
theorem own_apart {w w' : World} {B : Nat} {e : TypeId} {n : Nat} {v v' : Value} {xs : List Value} (h : w.ownsRow B e 1 v n xs) (hne : ∀ k, v'.ownBlock = some k → k < B) (hg : w.grownBy w' v'.ownBlock) : w'.ownsRow B e 1 v n xs :=
  ⟨h.1, h.2.elim .inl fun ⟨g, cap, cur, e1, e2, hh, r⟩ => .inr ⟨g, cap, cur, e1, e2, (hg.block g (Array.getElem?_eq_some_iff.1 hh).1 (fun e => by have := hne g e.symm; omega)).trans hh, r⟩⟩

/-- 'append(v, x...)', and what of the memory was written. -/
theorem wpList_appg {P : Program} (w : World) {T e : TypeId} (el : El P T e (.int .u8 0) 1 1) {ops : Array Oper} {rest : List Oper} {o : Oper} {a : Act} {Q : Exit → Act → World → Prop} (hgd : Region.wanted o (yielded ops a.tmps) = true) (s x : Operand)
    (ho : o.op = .call { callee := .builtin .append, args := #[s, x], argTypes := #[T, T] })
    (B : Nat) (v : Value) (n : Nat) (xs : List Value) (hs : a.eval s = v) (hown : w.ownsRow B e 1 v n xs)
    (ad : Addr) (m c : Nat) (l : List UInt8) (hx : a.eval x = .slice (some ad) m c) (hr : Rd w (some ad) m l) (hb : n + m ≤ 140737488355328) (hB : B ≤ w.heap.size)
    (h : ∀ v' w', w'.ownsRow B e 1 v' (n + m) (xs ++ cells l) → w.grownBy w' v.ownBlock → wpList P ops Q rest (a.put o.dst v') w') : wpList P ops Q (o :: rest) a w :=
  wpList_w hgd fun _ hK => by
    obtain ⟨i, hi, hz, h1, h2⟩ := info_parts el.info
    obtain ⟨v', w', hrun, ho', hg, _⟩ := run_append_own (P := P) w B T o.type e i (.int .u8 0) 1 1 el.und hi hz h1 h2 rfl (by decide) v n xs hown ad m c (cells l) (by simp [hr.1]) hr.cells_at (cells_one l)
      (by unfold maxLen; omega) (by omega) hB
    unfold Oper.wp execOp
    simp only [ho, resolve, invoke, builtin, Sem.run_bind, Sem.run_pure, Result.andThen_ok, List.map_toArray, List.map_cons, List.map_nil, hs, hx, hrun]
    exact hK _ _ (h v' w' ho' hg)

theorem run_appg {P : Program} (w : World) {T e : TypeId} (el : El P T e (.int .u8 0) 1 1) (ty : TypeId) (B : Nat) (v : Value) (n : Nat) (xs : List Value) (hown : w.ownsRow B e 1 v n xs)
    (A : Option Addr) (m c : Nat) (l : List UInt8) (hr : Rd w A m l) (hb : n + m ≤ 140737488355328) (hB : B ≤ w.heap.size) :
    ∃ v' w', (Builtin.append_ #[T, T] ty #[v, .slice A m c]).run P w = .ok v' w' ∧ w'.ownsRow B e 1 v' (n + m) (xs ++ cells l) ∧ Below B w w' ∧ w.grownBy w' v.ownBlock := by
  obtain ⟨i, hi, hz, h1, h2⟩ := info_parts el.info
  rcases A with _ | ad
  · have hm : m = 0 := by
      rcases Nat.eq_zero_or_pos m with h0 | h0
      · exact h0
      · obtain ⟨_, _, h, _⟩ := hr.2 h0
        cases h
    subst hm
    have hn : l = [] := List.eq_nil_of_length_eq_zero hr.1
    subst hn
    exact ⟨v, w, run_app_nil w B T ty e i 1 el.und hi v n xs hown c, by simpa [cells_nil] using hown, Below.refl _ _, World.grownBy.refl _ _⟩
  · obtain ⟨v', w', hrun, ho, hg, _⟩ := run_append_own (P := P) w B T ty e i (.int .u8 0) 1 1 el.und hi hz h1 h2 rfl (by decide) v n xs hown ad m c (cells l) (by simp [hr.1]) hr.cells_at (cells_one l)
      (by unfold maxLen; omega) (by omega) hB
    exact ⟨v', w', hrun, ho, below_own hown hB hg, hg⟩

/-- 'append(v, x...)' as a step of a region that draws its order. -/
theorem step_app {P : Program} (w : World) {T e : TypeId} (el : El P T e (.int .u8 0) 1 1) {ops : Array Oper} {o : Oper} {a : Act} {K : Act → World → Prop} {Q : Exit → Act → World → Prop} {E : Prop} (hgd : o.guard = none) (s x : Operand)
    (ho : o.op = .call { callee := .builtin .append, args := #[s, x], argTypes := #[T, T] })
    (B : Nat) (v : Value) (n : Nat) (xs : List Value) (hs : a.eval s = v) (hown : w.ownsRow B e 1 v n xs)
    (A : Option Addr) (m c : Nat) (l : List UInt8) (hx : a.eval x = .slice A m c) (hr : Rd w A m l) (hb : n + m ≤ 140737488355328) (hB : B ≤ w.heap.size)
    (h : ∀ v' w', w'.ownsRow B e 1 v' (n + m) (xs ++ cells l) → Below B w w' → w.grownBy w' v.ownBlock → K (a.put o.dst v') w') :
    if Region.wanted o (yielded ops a.tmps) = true then Oper.wp P o a w K Q else E := by
  have hw : Region.wanted o (yielded ops a.tmps) = true := by simp [Region.wanted, hgd]
  rw [if_pos hw]
  obtain ⟨v', w', hrun, h2, h3, h4⟩ := run_appg w el o.type B v n xs hown A m c l hr hb hB
  unfold Oper.wp execOp
  simp only [ho, resolve, invoke, builtin, Sem.run_bind, Sem.run_pure, Result.andThen_ok, List.map_toArray, List.map_cons, List.map_nil, hs, hx, hrun]
  exact h v' w' h2 h3 h4
end Go.Proofs.Ytlinafnhhnkjnaa
namespace Go.Proofs.Ytlinafnhhnkjnaa
open Go.RowKit Go.Maps

/-- Of what there was nothing but blocks of own has turned. -/
structure Fr (own : Nat → Prop) (w w' : World) : Prop where
  os : w'.os = w.os
  tape : w'.tape = w.tape
  output : w'.output = w.output
  size : w.heap.size ≤ w'.heap.size
  block : ∀ b, b < w.heap.size → ¬ own b → w'.heap[b]? = w.heap[b]?

section
variable {own own' : Nat → Prop} {a b w w' : World}
theorem Fr.refl (own : Nat → Prop) (w : World) : Fr own w w := ⟨rfl, rfl, rfl, Nat.le_refl _, fun _ _ _ => rfl⟩
theorem Fr.trans' (h : Fr own a w) (k : Fr own' w w') (ho : ∀ x, own' x → own x ∨ a.heap.size ≤ x) : Fr own a w' :=
  ⟨k.os.trans h.os, k.tape.trans h.tape, k.output.trans h.output, Nat.le_trans h.size k.size, fun i hi hn =>
    (k.block i (Nat.lt_of_lt_of_le hi h.size) (fun hx => by
      rcases ho i hx with h1 | h1
      · exact hn h1
      · omega)).trans (h.block i hi hn)⟩
theorem Fr.trans (h : Fr own a w) (k : Fr own w w') : Fr own a w' := h.trans' k (fun _ hx => .inl hx)
theorem Fr.mono (h : Fr own w w') (ho : ∀ x, own x → own' x) : Fr own' w w' := ⟨h.os, h.tape, h.output, h.size, fun i hi hn => h.block i hi (fun hx => hn (ho i hx))⟩
theorem Fr.ofBelow (own : Nat → Prop) (h : Below w.heap.size w w') : Fr own w w' := ⟨h.os, h.tape, h.output, h.size, fun i hi _ => h.block i hi⟩
theorem Fr.toBelow {B : Nat} (h : Fr own w w') (ho : ∀ x, own x → B ≤ x) (hB : B ≤ w.heap.size) : Below B w w' :=
  ⟨h.os, h.tape, h.output, h.size, fun i hi => h.block i (by omega) (fun hx => by have := ho i hx; omega)⟩
theorem Fr.grown {row : Option Nat} (hg : w.grownBy w' row) (ho : ∀ x, row = some x → own x) : Fr own w w' :=
  ⟨hg.os, hg.tape, hg.output, hg.size, fun i hi hn => hg.block i hi (fun e => hn (ho i e.symm))⟩
theorem Fr.setCell (w : World) {p : Addr} (hp : own p.block) (u : Value) : Fr own w (w.setCell p u) :=
  ⟨rfl, rfl, rfl, by simp [World.setCell], fun i _ hn => Below.heap_setCell w p u i (fun e => hn (e ▸ hp))⟩
theorem Fr.alloc (own : Nat → Prop) (w : World) (o : Obj) : Fr own w (w.alloc o) := Fr.ofBelow own ((Below.refl _ _).alloc (Nat.le_refl _) o)
theorem Fr.drew (own : Nat → Prop) (w : World) : Fr own w w.drew := ⟨rfl, rfl, rfl, Nat.le_refl _, fun _ _ _ => rfl⟩
theorem Fr.below {B : Nat} (h : Fr own w w') (hB : ∀ x, own x → B ≤ x) (hw : B ≤ w.heap.size) : Below B w w' := h.toBelow hB hw

theorem Rd.fr {A : Option Addr} {n : Nat} {l : List UInt8} (h : Rd w A n l) (hf : Fr own w w') (hn : ∀ b o, A = some ⟨b, o, none⟩ → 0 < n → ¬ own b) : Rd w' A n l :=
  ⟨h.1, fun hp => by
    obtain ⟨b, o, e, hlt, hc⟩ := h.2 hp
    exact ⟨b, o, e, Nat.lt_of_lt_of_le hlt hf.size, fun j hj => (World.cell?_of_block (w := w) (a := ⟨b, o + j, none⟩) (hf.block b hlt (hn b o e hp))).trans (hc j hj)⟩⟩
theorem own_fr {B : Nat} {e : TypeId} {size n : Nat} {v : Value} {xs : List Value} (h : w.ownsRow B e size v n xs) (hf : Fr own w w') (hn : ∀ x, v.ownBlock = some x → ¬ own x) : w'.ownsRow B e size v n xs :=
  ⟨h.1, h.2.elim .inl fun ⟨g, cap, cur, e1, e2, hh, r⟩ => .inr ⟨g, cap, cur, e1, e2, (hf.block g (Array.getElem?_eq_some_iff.1 hh).1 (hn g (by rw [e1]; rfl))).trans hh, r⟩⟩
end

/-! ### maps -/
abbrev nilv : Value := .slice none 0 0
/-- A value in a map reads as itself. -/
def itself (v : Value) : Option (DataW Value × List MemPlace) := some (.held v, [])

/-- Block m is a map of integers, of at most n entries: at i it has f i (nil where it has none); its keys are those of ks. -/
def MapIs (P : Program) (k : TypeId) (w : World) (m n : Nat) (f : Nat → Value) (ks : Nat → Bool) : Prop :=
  ∃ D : DataW Value, w.ownsMap P k itself m n D ∧ (∀ i : Nat, D.atKey (.int .i64 i) (.held nilv) = .held (f i)) ∧ (∀ i : Nat, Maps.has D (.int .i64 i) = ks i) ∧
    (∀ kl, Maps.has D kl = true → ∃ i : Nat, kl = .int .i64 i)

section
variable {P : Program} {k e T : TypeId} {w w' : World} {m n : Nat} {f : Nat → Value} {ks : Nat → Bool}

theorem MapIs.made (P : Program) (k : TypeId) (w : World) : MapIs P k (w.alloc (.map #[] 0)) w.heap.size 0 (fun _ => nilv) (fun _ => false) :=
  ⟨.map [], World.ownsMap_made w P k itself, fun _ => rfl, fun _ => rfl, fun kl h => by cases h⟩
theorem MapIs.lt (h : MapIs P k w m n f ks) : m < w.heap.size := by obtain ⟨D, ho, _⟩ := h; exact ho.lt
theorem MapIs.block (h : MapIs P k w m n f ks) (hb : w'.heap[m]? = w.heap[m]?) : MapIs P k w' m n f ks := by
  obtain ⟨D, ⟨es, clock, hm, r⟩, h2⟩ := h
  exact ⟨D, ⟨es, clock, hb.trans hm, r⟩, h2⟩
theorem MapIs.fr {own : Nat → Prop} (h : MapIs P k w m n f ks) (hf : Fr own w w') (hn : ¬ own m) : MapIs P k w' m n f ks := h.block (hf.block m h.lt hn)
theorem MapIs.mono {n' : Nat} (h : MapIs P k w m n f ks) (hn : n ≤ n') : MapIs P k w m n' f ks := by
  obtain ⟨D, ho, h2⟩ := h
  exact ⟨D, ho.mono hn, h2⟩
theorem MapIs.congr {f' : Nat → Value} {ks' : Nat → Bool} (h : MapIs P k w m n f ks) (hf : ∀ i, f i = f' i) (hk : ∀ i, ks i = ks' i) : MapIs P k w m n f' ks' := by
  obtain rfl : f = f' := funext hf
  obtain rfl : ks = ks' := funext hk
  exact h

theorem key_mk (hk : P.underlying k = some (.int .i64)) (i : Nat) (hi : i < 9223372036854775808) : keyOf P k (.int .i64 (i : Int)) = some (.int .i64 i) :=
  keyOf_int_mk hk (WalkArith.wf_i64 (by omega))
theorem nat_lit_ne {i j : Nat} (h : i ≠ j) : (Lit.int .i64 (i : Int)) ≠ .int .i64 (j : Int) := fun e => h (by injection e with _ e; omega)

theorem MapIs.look (h : MapIs P k w m n f ks) (hk : P.underlying k = some (.int .i64)) (hT : P.underlying T = some (.map k e)) (hz : (zeroValue e).run P w = .ok nilv w) (i : Nat) (hi : i < 9223372036854775808) :
    (Instr.lookup T (.map (some m)) (.int .i64 (i : Int)) false).run P w = .ok (f i) w := by
  obtain ⟨D, ho, hat, _, _⟩ := h
  obtain ⟨v, ps, hrun, hv⟩ := ho.lookup (int_keyed hk) hT hz (zd := .held nilv) (zp := []) rfl (key_mk hk i hi)
  rw [hat i] at hv
  simp only [itself, Option.some.injEq, Prod.mk.injEq, DataW.held.injEq] at hv
  rw [hrun, hv.1]

theorem MapIs.put (h : MapIs P k w m n f ks) (hk : P.underlying k = some (.int .i64)) (hT : P.underlying T = some (.map k e)) (hn : n < maxLen) (i : Nat) (hi : i < 9223372036854775808) (v : Value) :
    ∃ w', (Instr.mapUpdate T (.map (some m)) (.int .i64 (i : Int)) v).run P w = .ok () w' ∧ MapIs P k w' m (n + 1) (fun j => if j = i then v else f j) (fun j => decide (j = i) || ks j) ∧ w.grownBy w' (some m) := by
  obtain ⟨D, ho, hat, hh, hin⟩ := h
  obtain ⟨w', hrun, ho', hg⟩ := ho.update (int_keyed hk) hT hn (val := v) (d := .held v) (ps := []) (key_mk hk i hi) rfl
  have hkl := (int_keyed hk).key (key_mk hk i hi)
  refine ⟨w', hrun, ⟨_, ho', fun j => ?_, fun j => ?_, fun kl hkl' => ?_⟩, hg⟩
  · by_cases hj : j = i
    · subst hj
      simp only [if_true]
      exact Maps.atKey_put_same ho.isMap hkl _ _
    · simp only [if_neg hj]
      rw [Maps.atKey_put_other (nat_lit_ne hj), hat j]
  · by_cases hj : j = i
    · subst hj
      simp only [decide_true, Bool.true_or]
      exact Maps.has_put_same ho.isMap hkl _
    · simp only [decide_eq_false hj, Bool.false_or]
      rw [Maps.has_put_other (nat_lit_ne hj), hh j]
  · by_cases hj : kl = .int .i64 i
    · exact ⟨i, hj⟩
    · rw [Maps.has_put_other hj] at hkl'
      exact hin kl hkl'

theorem MapIs.wipe (h : MapIs P k w m n f ks) (hT : P.underlying T = some (.map k e)) (ty : TypeId) :
    ∃ w', (Builtin.clear_ #[T] ty #[.map (some m)]).run P w = .ok (.tuple #[]) w' ∧ MapIs P k w' m 0 (fun _ => nilv) (fun _ => false) ∧ w.grownBy w' (some m) := by
  obtain ⟨D, ⟨es, clock, hm, F, hs, _⟩, _⟩ := h
  refine ⟨_, ?_, ⟨.map [], ⟨#[], clock, ChangeMaps.heap_setBlock_same hm _, ⟨by simp, MapKept.stamped_empty clock, by simp⟩, Nat.le_refl _, rfl⟩, fun _ => rfl, fun _ => rfl, fun kl h => by cases h⟩, ?_⟩
  · simp [Builtin.clear_, run_underlying hT, MapKept.run_getObj_map hm, MapKept.run_setObj_map _ hm, Result.andThen]
    rfl
  · exact ⟨rfl, rfl, rfl, by simp [ChangeMaps.setBlock], fun i _ hi => ChangeMaps.heap_setBlock_other hm _ (fun e => hi (by rw [e]))⟩
end

/-! ### steps of a region that draws its order -/
section
variable {P : Program} {ops : Array Oper} {o : Oper} {a : Act} {w : World} {K : Act → World → Prop} {Q : Exit → Act → World → Prop} {E : Prop}

/-- 'append(v, x...)': v a row of one's own, of elements of one cell or more. -/
theorem step_appV {T e : TypeId} {z : Value} {size bytes : Nat} (el : El P T e z size bytes) (hgd : o.guard = none) (s x : Operand)
    (ho : o.op = .call { callee := .builtin .append, args := #[s, x], argTypes := #[T, T] })
    (B : Nat) (v : Value) (n : Nat) (xs : List Value) (hs : a.eval s = v) (hown : w.ownsRow B e size v n xs)
    (ad : Addr) (m c : Nat) (news : List Value) (hx : a.eval x = .slice (some ad) m c) (hl : news.length = m * size) (hnews : ∀ j u, news[j]? = some u → w.cell? (ad.add j) = some u) (h1 : ∀ u ∈ news, u.oneCell' = true)
    (hb : n + m ≤ 1000000000) (hby : bytes ≤ 100) (hB : B ≤ w.heap.size)
    (h : ∀ v' w', w'.ownsRow B e size v' (n + m) (xs ++ news) → w.grownBy w' v.ownBlock → (v'.ownBlock = v.ownBlock ∨ v'.ownBlock = some w.heap.size) → K (a.put o.dst v') w') :
    if Region.wanted o (yielded ops a.tmps) = true then Oper.wp P o a w K Q else E := by
  have hw : Region.wanted o (yielded ops a.tmps) = true := by simp [Region.wanted, hgd]
  rw [if_pos hw]
  obtain ⟨i, hi, hz, h2, h3⟩ := info_parts el.info
  have hbb : (n + m) * bytes ≤ 1000000000 * 100 := Nat.mul_le_mul hb hby
  obtain ⟨v', w', hrun, r1, r2, _, r3⟩ := run_append_own_at (P := P) w B T o.type e i z size bytes el.und hi hz h2 h3 el.zs el.pos v n xs hown ad m c news hl hnews h1 (by unfold maxLen; omega) (by omega) hB
  unfold Oper.wp execOp
  simp only [ho, resolve, invoke, builtin, Sem.run_bind, Sem.run_pure, Result.andThen_ok, List.map_toArray, List.map_cons, List.map_nil, hs, hx, hrun]
  exact h v' w' r1 r2 r3

/-- 'm[i] = v'. -/
theorem step_mapput {k e T : TypeId} (hk : P.underlying k = some (.int .i64)) (hT : P.underlying T = some (.map k e)) (hgd : o.guard = none) (mo x y : Operand) (ho : o.op = Op.mapUpdate T mo x y)
    (b n : Nat) (f : Nat → Value) (ks : Nat → Bool) (hmap : MapIs P k w b n f ks) (hn : n < 1000000000) (i : Nat) (hi : i < 1000000000) (v : Value) (hm : a.eval mo = .map (some b)) (hx : a.eval x = .int .i64 (i : Int)) (hv : a.eval y = v)
    (h : ∀ w', MapIs P k w' b (n + 1) (fun j => if j = i then v else f j) (fun j => decide (j = i) || ks j) → w.grownBy w' (some b) → K (a.put o.dst undef) w') :
    if Region.wanted o (yielded ops a.tmps) = true then Oper.wp P o a w K Q else E := by
  have hw : Region.wanted o (yielded ops a.tmps) = true := by simp [Region.wanted, hgd]
  rw [if_pos hw]
  obtain ⟨w', hrun, r1, r2⟩ := hmap.put hk hT (by unfold maxLen; omega) i (by omega) v
  unfold Oper.wp
  simp [execOp, ho, hm, hx, hv, hrun, Result.andThen]
  exact h w' r1 r2
end
end Go.Proofs.Ytlinafnhhnkjnaa
namespace Go.Proofs.Ytlinafnhhnkjnaa
open Go.RowKit

/-- Block g holds a struct of type T: these cells. -/
def Rec (T : TypeId) (w : World) (g : Nat) (cs : Array Value) : Prop := w.heap[g]? = some (.cells cs T (0, 0))
/-- What is asked of the struct's type. -/
structure RT (P : Program) (T : TypeId) (n : Nat) : Prop where
  und : ∃ d, P.underlying T = some d ∧ d.isRow = true
  info : (P.info? T).map (·.size) = some n

section
variable {P : Program} {T : TypeId} {w w' : World} {g : Nat} {cs : Array Value} {n : Nat}
theorem Rec.lt (h : Rec T w g cs) : g < w.heap.size := (Array.getElem?_eq_some_iff.1 h).1
theorem Rec.at_ (h : Rec T w g cs) (i : Nat) : w.cell? ⟨g, i, none⟩ = cs[i]? := cell_of_row _ _ _ _ _ _ h
theorem Rec.fz (h : Rec T w g cs) (i : Nat) : w.frozen? ⟨g, i, none⟩ = false := frozen_of_row w g i _ _ h
theorem Rec.block (h : Rec T w g cs) (hb : w'.heap[g]? = w.heap[g]?) : Rec T w' g cs := hb.trans h
theorem Rec.below {B : Nat} (h : Rec T w g cs) (hb : Below B w w') (hB : g < B) : Rec T w' g cs := (hb.block g hB).trans h
theorem Rec.under (h : Rec T w g cs) (hb : Below w.heap.size w w') : Rec T w' g cs := h.below hb h.lt
theorem Rec.fr {own : Nat → Prop} (h : Rec T w g cs) (hf : Fr own w w') (hn : ¬ own g) : Rec T w' g cs := (hf.block g h.lt hn).trans h
theorem Rec.new (w : World) (T : TypeId) (cs : Array Value) : Rec T (w.alloc (.cells cs T)) w.heap.size cs := heap_alloc_last w _
theorem Rec.set (h : Rec T w g cs) (i : Nat) (v : Value) : Rec T (w.setCell ⟨g, i, none⟩ v) g (cs.setIfInBounds i v) := heap_setCell_at h v
theorem Rec.load (h : Rec T w g cs) (rt : RT P T n) (hn : cs.size = n) : (loadVar T ⟨g, 0, none⟩).run P w = .ok (.agg cs) w := by
  obtain ⟨d, hd, hr⟩ := rt.und
  have := run_loadVar_mid (P := P) w g 0 T cs.toList d (fun j v hj => by rw [Nat.zero_add, h.at_ j, ← hj]; simp) hd hr (by rw [rt.info, ← hn]; simp)
  simpa using this
theorem Rec.loadAt (h : Rec T w g cs) (rt : RT P T n) (hn : cs.size = n) : (Instr.loadAt T (.pointer (some ⟨g, 0, none⟩))).run P w = .ok (.agg cs) w := by
  simp only [Instr.loadAt, Instr.sureAddr, Sem.run_bind, Sem.run_pure, Result.andThen_ok, h.load rt hn]
theorem Rec.store (h : Rec T w g cs) (rt : RT P T n) (hn : cs.size = n) (cs' : Array Value) (hs : cs'.size = n) (h1 : cs'.all (·.oneCell') = true) :
    ∃ w', (Instr.storeAt T (.pointer (some ⟨g, 0, none⟩)) (.agg cs')).run P w = .ok () w' ∧ Rec T w' g cs' ∧ Fr (· = g) w w' := by
  refine ⟨w.setRow g cs', ?_, setRow_heap w g _ _ _ _ h, ⟨rfl, rfl, rfl, by simp [World.setRow], fun k _ hk => setRow_other w g k _ hk⟩⟩
  simp only [Instr.storeAt, Instr.sureAddr, Sem.run_bind, Sem.run_pure, Result.andThen_ok]
  exact run_storeVar_row w g T T _ _ h (by rw [hs]; exact rt.info) (hn.trans hs.symm) h1

variable {ops : Array Oper} {rest : List Oper} {o : Oper} {a : Act} {Q : Exit → Act → World → Prop}
theorem wpList_ldS (rt : RT P T n) (hn : cs.size = n) (hgd : Region.wanted o (yielded ops a.tmps) = true) (x : Operand) (ho : o.op = .load T x)
    (hx : a.eval x = .pointer (some ⟨g, 0, none⟩)) (h : Rec T w g cs) (kk : wpList P ops Q rest (a.put o.dst (.agg cs)) w) : wpList P ops Q (o :: rest) a w :=
  wpList_w hgd fun _ hK => by
    unfold Oper.wp execOp
    simp only [ho, hx, h.loadAt rt hn, Sem.run_bind, Sem.run_pure, Result.andThen_ok]
    exact hK _ _ kk
theorem wpList_stS {cs' : Array Value} (rt : RT P T n) (hn : cs.size = n) (hs : cs'.size = n) (h1 : cs'.all (·.oneCell') = true) (hgd : Region.wanted o (yielded ops a.tmps) = true) (x y : Operand) (ho : o.op = .store T x y)
    (hx : a.eval x = .pointer (some ⟨g, 0, none⟩)) (hy : a.eval y = .agg cs') (h : Rec T w g cs)
    (kk : ∀ w', Rec T w' g cs' → Fr (· = g) w w' → wpList P ops Q rest (a.put o.dst undef) w') : wpList P ops Q (o :: rest) a w :=
  wpList_w hgd fun _ hK => by
    obtain ⟨w', hrun, r1, r2⟩ := h.store rt hn cs' hs h1
    unfold Oper.wp execOp
    simp only [ho, hx, hy, hrun, Sem.run_bind, Sem.run_pure, Result.andThen_ok]
    exact hK _ _ (kk w' r1 r2)
/-- The store of a struct by value, as a step of a region that draws its order. -/
theorem step_stS {J : Act → World → Prop} {E : Prop} {cs' : Array Value} (rt : RT P T n) (hn : cs.size = n) (hs : cs'.size = n) (h1 : cs'.all (·.oneCell') = true) (hgd : o.guard = none) (x y : Operand) (ho : o.op = .store T x y)
    (hx : a.eval x = .pointer (some ⟨g, 0, none⟩)) (hy : a.eval y = .agg cs') (h : Rec T w g cs)
    (kk : ∀ w', Rec T w' g cs' → Fr (· = g) w w' → J (a.put o.dst undef) w') : if Region.wanted o (yielded ops a.tmps) = true then Oper.wp P o a w J Q else E := by
  have hw : Region.wanted o (yielded ops a.tmps) = true := by simp [Region.wanted, hgd]
  rw [if_pos hw]
  obtain ⟨w', hrun, r1, r2⟩ := h.store rt hn cs' hs h1
  unfold Oper.wp execOp
  simp only [ho, hx, hy, hrun, Sem.run_bind, Sem.run_pure, Result.andThen_ok]
  exact kk w' r1 r2

/-! ### results that lie in cells -/
variable {fn : Func} {p q u v : Tmp} {T' : TypeId} {tmps : Array Value} {ad ad' : Addr} {x y : Value}
theorem res_c (h : fn.results = #[.cell p T]) (hp : tmps.getD p undef = .pointer (some ad)) (hl : (loadVar T ad).run P w = .ok x w) : (results fn tmps).run P w = .ok x w := by
  rw [Array.getD_eq_getD_getElem?] at hp
  simp only [results, h]
  simp [hp, asAddr, hl]
theorem res_ct (h : fn.results = #[.cell p T, .tmp u]) (hp : tmps.getD p undef = .pointer (some ad)) (hl : (loadVar T ad).run P w = .ok x w) : (results fn tmps).run P w = .ok (.tuple #[x, tmps.getD u undef]) w := by
  rw [Array.getD_eq_getD_getElem?] at hp
  rw [results_cell_tmp h]
  simp [hp, asAddr, hl, Result.andThen]
theorem res_cct (h : fn.results = #[.cell p T, .cell q T', .tmp u]) (hp : tmps.getD p undef = .pointer (some ad)) (hl : (loadVar T ad).run P w = .ok x w) (hq : tmps.getD q undef = .pointer (some ad')) (hl' : (loadVar T' ad').run P w = .ok y w) :
    (results fn tmps).run P w = .ok (.tuple #[x, y, tmps.getD u undef]) w := by
  rw [Array.getD_eq_getD_getElem?] at hp hq
  simp only [results, h]
  simp [Sem.run_bind, Result.andThen, hp, hq, asAddr, hl, hl']
end
end Go.Proofs.Ytlinafnhhnkjnaa
namespace Go.Proofs.Ytlinafnhhnkjnaa
open Go.RowKit
theorem bytesT : El Try.prog 25 5 (.int .u8 0) 1 1 := ⟨Try.underlying25, by kernel_rfl, rfl, by decide⟩
end Go.Proofs.Ytlinafnhhnkjnaa
