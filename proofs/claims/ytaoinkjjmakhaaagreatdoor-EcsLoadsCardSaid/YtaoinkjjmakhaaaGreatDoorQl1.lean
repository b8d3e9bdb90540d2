/- Mem, Tk, Own, DMem, RowV, RowL, Ints, Rec, Base, Le4s -/
import Derived.Test.YtaoinkjjmakhaaaGreatDoorRows
import Derived.WalkKit
import Derived.ProofKit
import Derived.OpenShut
import Derived.WalkLawsBesides
import Derived.WalkSpells
import Derived.Lib.Hide
import Derived.Lib.AppendStr
import Derived.Laws.BytesArg
import Derived.Laws.IdiomStrings
import Derived.Laws.OwnMore
import Derived.Laws.AppendOwnNone
import Derived.Laws.CopyOwn
import Derived.Maps.AppendAt
import Derived.Deep.AppendLies
import Derived.Deep.Draws
import Derived.RegionTactic
import Derived.Handy
import Derived.Deep.RegionHeld
import Derived.OrdersHeld
import Derived.KernelRfl
import Derived.OwnWalk
import Derived.Maps.RangeWalk
import Derived.Deep.MidRow
import Derived.Deep.WholeRow
import Derived.Laws.ResultCell
namespace Go.Proofs.YtaoinkjjmakhaaaGreatDoor
theorem sA_ {α : Type} (l : List α) (i : Nat) (a : α) : l.toArray.setIfInBounds i a = (l.set i a).toArray := List.setIfInBounds_toArray ..
theorem sB_ {α : Type} (a : α) (l : List α) (b : α) : (a :: l).set 0 b = b :: l := rfl
theorem sC_ {α : Type} (a : α) (l : List α) (n : Nat) (b : α) : (a :: l).set (n + 1) b = a :: l.set n b := rfl
theorem hi_ {p : Prop} (h : p) : RowKit.Hid p := Lib.hid h
open Go Go.RowKit
section
variable {P : Program} {ops : Array Oper} {Q : Exit → Act → World → Prop} {md : Region.Mode} {S : World → Prop} {oi : Oper} {v : Value} {fuel : Nat} {listed : Array Bool} {a : Act} {w : World}
theorem tk_ (i : Nat) (oi : Oper) (hS : S w) (h : wpAnyH P md ops Q S fuel (listed.setIfInBounds i true) (a.put oi.dst v) w)
    (hi : ops[i]? = some oi := by rfl) (hs : Region.noSelect ops = true := by kernel_rfl) (hf : Region.free md ops listed i = true := by kernel_rfl) (hr : (Region.ready md ops listed).contains i = true := by kernel_rfl)
    (hQ : ∀ c a w, Q (.panic c) (a.put oi.dst v) w → Q (.panic c) a w := by exact fun _ _ _ h => h)
    (hw : Region.wanted oi (yielded ops a.tmps) = true := by rfl)
    (hy : ∀ w, S w → (execOp a.eval oi).run P w = .ok (.value v) w := by (intro w' hSw; (try dsimp only at hSw); go_simp; (try with_reducible rfl))) : wpAnyH P md ops Q S (fuel + 1) listed a w :=
  wpAnyH_take hi hs hf hr hQ (.inl ⟨hw, hy⟩) hS h
theorem sk_ (i : Nat) (oi : Oper) (hS : S w) (h : wpAnyH P md ops Q S fuel (listed.setIfInBounds i true) (a.put oi.dst undef) w)
    (hi : ops[i]? = some oi := by rfl) (hs : Region.noSelect ops = true := by kernel_rfl) (hf : Region.free md ops listed i = true := by kernel_rfl) (hr : (Region.ready md ops listed).contains i = true := by kernel_rfl)
    (hQ : ∀ c a w, Q (.panic c) (a.put oi.dst undef) w → Q (.panic c) a w := by exact fun _ _ _ h => h)
    (hw : Region.wanted oi (yielded ops a.tmps) = false := by rfl) : wpAnyH P md ops Q S (fuel + 1) listed a w :=
  wpAnyH_take hi hs hf hr hQ (.inr ⟨hw, rfl⟩) hS h
end
end Go.Proofs.YtaoinkjjmakhaaaGreatDoor
namespace Go.Proofs.YtaoinkjjmakhaaaGreatDoor
open Go.RowKit
theorem ret_int {k : IntKind} {a b : Int} (h : a = b) : Ending.returned (.int k a) = .returned (.int k b) := by rw [h]
theorem ret_bool {a b : Bool} (h : a = b) : Ending.returned (.bool a) = .returned (.bool b) := by rw [h]
def cells (l : List UInt8) : List Value := l.map fun b => Value.int .u8 (b.toNat : Int)
@[simp] theorem cells_length (l : List UInt8) : (cells l).length = l.length := by simp [cells]
theorem cells_append (l m : List UInt8) : cells (l ++ m) = cells l ++ cells m := by simp [cells]
theorem cells_nil : cells [] = [] := rfl
theorem cells_one (l : List UInt8) : ∀ u ∈ cells l, u.oneCell' = true := by
 intro u hu
 obtain ⟨_, _, rfl⟩ := List.mem_map.1 hu
 rfl
theorem cells_get {l : List UInt8} {j : Nat} (h : j < l.length) : (cells l)[j]? = some (.int .u8 (l[j].toNat : Int)) := by
 simp [cells, h]
theorem cells_take (l : List UInt8) (n : Nat) : cells (l.take n) = (cells l).take n := by simp [cells, List.map_take]
theorem cells_drop (l : List UInt8) (n : Nat) : cells (l.drop n) = (cells l).drop n := by simp [cells, List.map_drop]
def Rd (w : World) (A : Option Addr) (n : Nat) (l : List UInt8) : Prop :=
 l.length = n /\ (0 < n -> ∃ b o, A = some ⟨b, o, none⟩ /\ b < w.heap.size /\ ∀ j (h : j < l.length), w.cell? ⟨b, o + j, none⟩ = some (.int .u8 (l[j].toNat : Int)))
section
variable {w w' : World} {A : Option Addr} {n : Nat} {l : List UInt8}
theorem Rd.nil (w : World) (A : Option Addr) : Rd w A 0 [] := ⟨rfl, fun h => absurd h (by omega)⟩
theorem Rd.below {B : Nat} (h : Rd w A n l) (hB : w.heap.size <= B) (hb : Below B w w') : Rd w' A n l :=
 ⟨h.1, fun hn => by
  obtain ⟨b, o, e, hlt, hc⟩ := h.2 hn
  exact ⟨b, o, e, by have := hb.size; omega, fun j hj => (hb.cell (p := ⟨b, o + j, none⟩) (by simp; omega)).trans (hc j hj)⟩⟩
theorem Rd.of_own {base : Nat} {e : TypeId} {v : Value} {xs : List Value} (h : w.ownsRow base e 1 v n xs) (hx : xs = cells l) : ∃ A c, v = .slice A n c /\ n <= c /\ c <= maxLen /\ Rd w A n l := by
 subst hx
 have hl : l.length = n := by have := h.1; simpa using this
 rcases h.2 with ⟨rfl, rfl⟩ | ⟨g, cap, cur, rfl, _, hh, hn, hc, _⟩
 ·exact ⟨none, 0, rfl, Nat.le_refl _, Nat.zero_le _, hl, fun h => absurd h (by omega)⟩
 ·refine ⟨_, cap, rfl, hn, hc, hl, fun _ => ⟨g, 0, rfl, (Array.getElem?_eq_some_iff.1 hh).1, fun j hj => ?_⟩⟩
  have h1 := h.cells (g := g) rfl j _ (cells_get hj)
  rw [Addr.add_lit] at h1
  exact h1
theorem Rd.cells_at {a : Addr} (h : Rd w (some a) n l) : ∀ j u, (cells l)[j]? = some u -> w.cell? (a.add j) = some u := by
 intro j u hu
 have hj : j < l.length := by have := (List.getElem?_eq_some_iff.1 hu).1; simpa using this
 obtain ⟨b, o, e, _, hc⟩ := h.2 (by have := h.1; omega)
 injection e with e
 subst e
 rw [Addr.add_lit, hc j hj, <- cells_get hj, hu]
theorem Rd.part {lo m : Nat} (h : Rd w A n l) (hlo : lo + m <= n) (A' : Option Addr) (hA : 0 < m -> ∀ b o, A = some ⟨b, o, none⟩ -> A' = some ⟨b, o + lo, none⟩) : Rd w A' m ((l.drop lo).take m) := by
 have hl := h.1
 refine ⟨by simp; omega, fun hm => ?_⟩
 obtain ⟨b, o, e, hlt, hc⟩ := h.2 (by omega)
 refine ⟨b, o + lo, hA hm b o e, hlt, fun j hj => ?_⟩
 have hj' : j < m := by simp at hj; omega
 rw [Nat.add_assoc, hc (lo + j) (by omega)]
 simp
end
def str (l : List UInt8) : ByteArray := ⟨l.toArray⟩
theorem run_to_string {P : Program} (src dst e : TypeId) (hs : P.underlying src = some (.slice e)) (he : P.underlying e = some (.int .u8)) (hd : P.underlying dst = some .string)
  (w : World) (A : Option Addr) (n c : Nat) (l : List UInt8) (h : Rd w A n l) : (convert src dst (.slice A n c)).run P w = .ok (.string (str l)) w := by
 obtain ⟨hl, hr⟩ := h
 subst hl
 by_cases h0 : l = []
 ·subst h0
  cases A with
  | none => exact run_convert_bytes_nil w src e hs he 0 c dst hd
  | some a => exact run_convert_bytes_back w src dst e a c [] hs he hd (fun j hj => by simp at hj)
 ·have hpos : 0 < l.length := List.length_pos_iff.2 h0
  obtain ⟨b, o, rfl, _, hc⟩ := hr hpos
  exact run_convert_bytes_back w src dst e _ c l hs he hd (fun j hj => by rw [Addr.add_lit]; exact hc j hj)
structure El (P : Program) (T e : TypeId) (z : Value) (size bytes : Nat) : Prop where
 und : P.underlying T = some (.slice e)
 info : (P.info? e).map (fun i => (i.zero, i.size, i.bytes)) = some (some z, size, bytes)
 zs : z.cells.size = size
 pos : 0 < size
theorem own_keep {w w' : World} {B : Nat} {e : TypeId} {size n : Nat} {v : Value} {xs : List Value} (h : w.ownsRow B e size v n xs) (hb : Below w.heap.size w w') : w'.ownsRow B e size v n xs :=
 ⟨h.1, h.2.elim .inl fun ⟨g, cap, cur, e1, e2, hh, r⟩ => .inr ⟨g, cap, cur, e1, e2, (hb.block g (Array.getElem?_eq_some_iff.1 hh).1).trans hh, r⟩⟩
theorem wpList_w {P : Program} {ops : Array Oper} {Q : Exit -> Act -> World -> Prop} {a : Act} {w : World} {rest : List Oper} {o : Oper} (hw : Region.wanted o (yielded ops a.tmps) = true)
  (h : ∀ K : Act -> World -> Prop, (∀ a w, wpList P ops Q rest a w -> K a w) -> o.wp P a w K Q) : wpList P ops Q (o :: rest) a w :=
 wpList_step fun K hK => by rw [if_pos hw]; exact h K hK
section
variable {P : Program} (w : World)
theorem run_app_nil (base : Nat) (t ty e : TypeId) (i : TypeInfo) (size : Nat) (ht : P.underlying t = some (.slice e)) (hi : P.info? e = some i)
  (v : Value) (n : Nat) (xs : List Value) (hown : w.ownsRow base e size v n xs) (c : Nat) : (Builtin.append_ #[t, t] ty #[v, .slice none 0 c]).run P w = .ok v w := by
 rcases hown.2 with ⟨rfl, rfl⟩ | ⟨g, cap, cur, rfl, _, _, hnc, _⟩
 ·simp [Builtin.append_, run_underlying ht, sizeOf, typeInfo, hi, Builtin.lenOf, Builtin.firstCells]
 ·simp [Builtin.append_, run_underlying ht, sizeOf, typeInfo, hi, Builtin.lenOf, Builtin.firstCells, hnc, storeCells]
end
theorem wpList_mk {P : Program} (w : World) {T e : TypeId} {z : Value} {size bytes : Nat} (el : El P T e z size bytes) {ops : Array Oper} {rest : List Oper} {o : Oper} {a : Act} {Q : Exit -> Act -> World -> Prop} (hgd : o.guard = none) (x y : Operand)
  (ho : o.op = Op.makeSlice T x y) (B : Nat) (kl kc : IntKind) (C : Int) (n : Nat) (hl : a.eval x = .int kl 0) (hc : a.eval y = .int kc C) (hC : C = (n : Int)) (hb : bytes * n <= 281474976710656) (hm : n <= maxLen) (hB : B <= w.heap.size)
  (h : ∀ v w', w'.ownsRow B e size v 0 [] -> Below B w w' -> wpList P ops Q rest (a.put o.dst v) w') : wpList P ops Q (o :: rest) a w := by
 obtain ⟨i, hi, hz, h1, h2⟩ := info_parts el.info
 refine wpList_make_own w hgd x y T ho B e i z size el.und hi hz h1 kl kc C n hl hc hC (by rw [h2]; exact hb) hm hB ?_
 intro w' hown hg
 exact h _ w' hown ((Below.refl _ _).grown hg hB (fun k hk => by cases hk))
theorem wpList_mkn {P : Program} (w : World) {T e : TypeId} {z : Value} {size bytes : Nat} (el : El P T e z size bytes) {ops : Array Oper} {rest : List Oper} {o : Oper} {a : Act} {Q : Exit -> Act -> World -> Prop} (hgd : o.guard = none) (x y : Operand)
  (ho : o.op = Op.makeSlice T x y) (B : Nat) (kl kc : IntKind) (L C : Int) (n : Nat) (hl : a.eval x = .int kl L) (hc : a.eval y = .int kc C) (hL : L = (n : Int)) (hC : C = (n : Int)) (hb : bytes * n <= 281474976710656) (hm : n <= maxLen) (hB : B <= w.heap.size)
  (h : ∀ w', w'.ownsRow B e size (.slice (some ⟨w.heap.size, 0, none⟩) n n) n (madeCells z.cells (n * size)).toList -> Below B w w' -> wpList P ops Q rest (a.put o.dst (.slice (some ⟨w.heap.size, 0, none⟩) n n)) w') : wpList P ops Q (o :: rest) a w := by
 obtain ⟨i, hi, hz, h1, h2⟩ := info_parts el.info
 refine wpList_make_full w hgd x y T ho B e i z size el.und hi hz h1 kl kc L C n hl hc hL hC (by rw [h2]; exact hb) hm hB ?_
 intro w' hown hg
 exact h w' hown ((Below.refl _ _).grown hg hB (fun k hk => by cases hk))
theorem Rd.new (w : World) (e : TypeId) (l : List UInt8) (fr : Nat × Nat) : Rd (w.alloc (.cells (cells l).toArray e fr)) (some ⟨w.heap.size, 0, none⟩) l.length l :=
 ⟨rfl, fun _ => ⟨w.heap.size, 0, rfl, by simp, fun j hj => by
  have h : (w.alloc (.cells (cells l).toArray e fr)).heap[w.heap.size]? = some (.cells (cells l).toArray e fr) := by
   show (w.heap.push _)[w.heap.size]? = _
   simp
  rw [cell_of_row _ w.heap.size (0 + j) _ e fr h]
  simpa using cells_get hj⟩⟩
theorem own_full {w : World} {B : Nat} {e : TypeId} {g k : Nat} {xs : List Value} (h : w.ownsRow B e 1 (.slice (some ⟨g, 0, none⟩) k k) k xs) : B <= g /\ k <= maxLen /\ w.heap[g]? = some (.cells xs.toArray e (0, 0)) := by
 rcases h.2 with ⟨h, _⟩ | ⟨g', cap, cur, hv, hB, hh, hn, hc, hs, ht⟩
 ·cases h
 ·injection hv with h1 h2 h3
  injection h1 with h1
  injection h1 with h1
  subst h1; subst h3
  refine ⟨hB, hc, ?_⟩
  rw [<- ht, List.take_of_length_le (by simp; omega)]
  exact hh
theorem own_of_full {w : World} {B : Nat} {e : TypeId} {g k : Nat} {xs : List Value} (hB : B <= g) (hk : k <= maxLen) (hx : xs.length = k) (h : w.heap[g]? = some (.cells xs.toArray e (0, 0))) : w.ownsRow B e 1 (.slice (some ⟨g, 0, none⟩) k k) k xs :=
 ⟨by omega, .inr ⟨g, k, xs.toArray, rfl, hB, h, Nat.le_refl _, hk, by simpa using hx, by subst hx; simp⟩⟩
theorem wpList_cpy {P : Program} {w : World} {T e : TypeId} (el : El P T e (.int .u8 0) 1 1) {ops : Array Oper} {rest : List Oper} {o : Oper} {a : Act} {Q : Exit -> Act -> World -> Prop} (hgd : o.guard = none) (x y : Operand)
  (ho : o.op = .call { callee := .builtin .copy, args := #[x, y], argTypes := #[T, T] })
  (B g k : Nat) (xs : List Value) (hs : a.eval x = .slice (some ⟨g, 0, none⟩) k k) (hown : w.ownsRow B e 1 (.slice (some ⟨g, 0, none⟩) k k) k xs)
  (A : Option Addr) (m c : Nat) (l : List UInt8) (hx : a.eval y = .slice A m c) (hr : Rd w A m l)
  (h : ∀ w', w'.ownsRow B e 1 (.slice (some ⟨g, 0, none⟩) k k) k (splice xs 0 (cells (l.take k))) -> Below B w w' -> wpList P ops Q rest (a.put o.dst (goInt (l.take k).length)) w') : wpList P ops Q (o :: rest) a w := by
 obtain ⟨i, hi, hz, h1, h2⟩ := info_parts el.info
 obtain ⟨hB, hk, hh⟩ := own_full hown
 have hxl : xs.length = k := by have := hown.1; omega
 have hl : (l.take k).length <= xs.length := by simp; omega
 have hgoal := h
 refine wpList_copy_splice hgd x y T T ho e el.und (by rw [hi]; simp [h1]) _ A k k m c hs hx g 0 xs e hh (cells (l.take k)) (by have := hr.1; show _ = min m k; simp; omega)
  (fun hpos => ⟨rfl, ?_⟩) (by simpa using hl) (cells_one _) B w (Below.refl _ _) hB ?_
 ·have hpos' : 0 < m := by have := hr.1; simp at hpos; omega
  obtain ⟨b, o, rfl, _, hc⟩ := hr.2 hpos'
  refine ⟨_, rfl, fun j v hj => hr.cells_at j v ?_⟩
  rw [cells_take, List.getElem?_take] at hj
  split at hj
  ·exact hj
  ·cases hj
 ·intro w' hH hb
  rw [cells_length]
  refine h w' (own_of_full hB hk ?_ hH.out) hb
  rw [length_splice _ _ _ (by simpa using hl)]
  exact hxl
theorem rd_of_row {w : World} {a : Option Addr} {len cap : Nat} {zs : List Int}
  (h : (a = none /\ len = 0 /\ cap = 0 /\ zs = []) \/ ∃ x, a = some x /\ len <= cap /\ cap <= maxLen /\ zs.length = cap /\ (∀ i, i < zs.length -> w.cell? (x.add i) = some (.int .u8 (zs.getD i 0))) /\ ∀ n ∈ zs, (Lit.int .u8 n).wf = true) :
  ∃ l, Rd w a len l /\ len <= cap /\ cap <= maxLen := by
 rcases h with ⟨rfl, rfl, rfl, rfl⟩ | ⟨x, rfl, hl, hm, hz, hc, hw⟩
 ·exact ⟨[], Rd.nil _ _, Nat.le_refl _, Nat.zero_le _⟩
 ·refine ⟨(zs.take len).map fun n => UInt8.ofNat n.toNat, ⟨by simp; omega, fun hpos => ?_⟩, hl, hm⟩
  have h0 := hc 0 (by omega)
  obtain ⟨b, off, spot⟩ := x
  have hspot : spot = none := by simpa [Addr.add] using World.cell?_spot h0
  subst hspot
  have hlt : ((⟨b, off, none⟩ : Addr).add 0).block < w.heap.size := World.block_lt_of_cell? w _ h0
  refine ⟨b, off, rfl, by simpa [Addr.add] using hlt, fun j hj => ?_⟩
  have hj' : j < len := by simp at hj; omega
  have h1 := hc j (by omega)
  rw [Addr.add_lit] at h1
  rw [h1]
  have hmem : zs[j]'(by omega) ∈ zs := List.getElem_mem _
  have hb := bounds_u8 (hw _ hmem)
  have e : zs.getD j 0 = zs[j]'(by omega) := by simp [List.getD, List.getElem?_eq_getElem (show j < zs.length by omega)]
  rw [e]
  simp
  omega
theorem own_empty (w : World) (B : Nat) (e : TypeId) (hB : B <= w.heap.size) : (w.alloc (.cells #[] e)).ownsRow B e 1 (.slice (some ⟨w.heap.size, 0, none⟩) 0 0) 0 [] :=
 World.ownsRow_lit w #[] 0 hB (Nat.zero_le _) rfl
end Go.Proofs.YtaoinkjjmakhaaaGreatDoor
namespace Go.Proofs.YtaoinkjjmakhaaaGreatDoor
open Go Go.RowKit
section
variable {P : Program} {ops : Array Oper} {Q : Exit -> Act -> World -> Prop} {md : Region.Mode} {S : World -> Prop} {oi : Oper} {v : Value} {fuel : Nat} {listed : Array Bool} {a : Act} {w : World}
theorem tk (i : Nat) (oi : Oper) (hS : S w) (h : wpAnyH P md ops Q S fuel (listed.setIfInBounds i true) (a.put oi.dst v) w)
  (hi : ops[i]? = some oi := by rfl) (hs : Region.noSelect ops = true := by kernel_rfl) (hf : Region.free md ops listed i = true := by kernel_rfl) (hr : (Region.ready md ops listed).contains i = true := by kernel_rfl)
  (hQ : ∀ c a w, Q (.panic c) (a.put oi.dst v) w -> Q (.panic c) a w := by exact fun _ _ _ h => h)
  (hw : Region.wanted oi (yielded ops a.tmps) = true := by rfl)
  (hy : ∀ w, S w -> (execOp a.eval oi).run P w = .ok (.value v) w := by (intro w' hSw; (try dsimp only at hSw); go_simp; (try with_reducible rfl))) : wpAnyH P md ops Q S (fuel + 1) listed a w :=
 wpAnyH_take hi hs hf hr hQ (.inl ⟨hw, hy⟩) hS h
theorem sk (i : Nat) (oi : Oper) (hS : S w) (h : wpAnyH P md ops Q S fuel (listed.setIfInBounds i true) (a.put oi.dst undef) w)
  (hi : ops[i]? = some oi := by rfl) (hs : Region.noSelect ops = true := by kernel_rfl) (hf : Region.free md ops listed i = true := by kernel_rfl) (hr : (Region.ready md ops listed).contains i = true := by kernel_rfl)
  (hQ : ∀ c a w, Q (.panic c) (a.put oi.dst undef) w -> Q (.panic c) a w := by exact fun _ _ _ h => h)
  (hw : Region.wanted oi (yielded ops a.tmps) = false := by rfl) : wpAnyH P md ops Q S (fuel + 1) listed a w :=
 wpAnyH_take hi hs hf hr hQ (.inr ⟨hw, rfl⟩) hS h
end
end Go.Proofs.YtaoinkjjmakhaaaGreatDoor
namespace Go.Proofs.YtaoinkjjmakhaaaGreatDoor
open Go.RowKit
theorem heap_setCell_at {w : World} {g j : Nat} {C : Array Value} {T : TypeId} {fr : Nat × Nat} (h : w.heap[g]? = some (.cells C T fr)) (v : Value) : (w.setCell ⟨g, j, none⟩ v).heap[g]? = some (.cells (C.setIfInBounds j v) T fr) := by
 simp [World.setCell, Array.getElem?_modify, h]
theorem own_mono {w : World} {B B' : Nat} {e : TypeId} {size n : Nat} {v : Value} {xs : List Value} (h : w.ownsRow B e size v n xs) (hB : B' <= B) : w.ownsRow B' e size v n xs :=
 ⟨h.1, h.2.elim .inl fun ⟨g, cap, cur, e1, e2, r⟩ => .inr ⟨g, cap, cur, e1, by omega, r⟩⟩
end Go.Proofs.YtaoinkjjmakhaaaGreatDoor
namespace Go.Proofs.YtaoinkjjmakhaaaGreatDoor
open Go.RowKit Go.Maps
structure Fr (own : Nat -> Prop) (w w' : World) : Prop where
 os : w'.os = w.os
 tape : w'.tape = w.tape
 output : w'.output = w.output
 size : w.heap.size <= w'.heap.size
 block : ∀ b, b < w.heap.size -> ¬ own b -> w'.heap[b]? = w.heap[b]?
section
variable {own own' : Nat -> Prop} {a b w w' : World}
theorem Fr.refl (own : Nat -> Prop) (w : World) : Fr own w w := ⟨rfl, rfl, rfl, Nat.le_refl _, fun _ _ _ => rfl⟩
theorem Fr.trans' (h : Fr own a w) (k : Fr own' w w') (ho : ∀ x, own' x -> own x \/ a.heap.size <= x) : Fr own a w' :=
 ⟨k.os.trans h.os, k.tape.trans h.tape, k.output.trans h.output, Nat.le_trans h.size k.size, fun i hi hn =>
  (k.block i (Nat.lt_of_lt_of_le hi h.size) (fun hx => by
   rcases ho i hx with h1 | h1
   ·exact hn h1
   ·omega)).trans (h.block i hi hn)⟩
theorem Fr.trans (h : Fr own a w) (k : Fr own w w') : Fr own a w' := h.trans' k (fun _ hx => .inl hx)
theorem Fr.mono (h : Fr own w w') (ho : ∀ x, own x -> own' x) : Fr own' w w' := ⟨h.os, h.tape, h.output, h.size, fun i hi hn => h.block i hi (fun hx => hn (ho i hx))⟩
theorem Fr.ofBelow (own : Nat -> Prop) (h : Below w.heap.size w w') : Fr own w w' := ⟨h.os, h.tape, h.output, h.size, fun i hi _ => h.block i hi⟩
theorem Fr.toBelow {B : Nat} (h : Fr own w w') (ho : ∀ x, own x -> B <= x) (hB : B <= w.heap.size) : Below B w w' :=
 ⟨h.os, h.tape, h.output, h.size, fun i hi => h.block i (by omega) (fun hx => by have := ho i hx; omega)⟩
theorem Fr.grown {row : Option Nat} (hg : w.grownBy w' row) (ho : ∀ x, row = some x -> own x) : Fr own w w' :=
 ⟨hg.os, hg.tape, hg.output, hg.size, fun i hi hn => hg.block i hi (fun e => hn (ho i e.symm))⟩
theorem Fr.setCell (w : World) {p : Addr} (hp : own p.block) (u : Value) : Fr own w (w.setCell p u) :=
 ⟨rfl, rfl, rfl, by simp [World.setCell], fun i _ hn => Below.heap_setCell w p u i (fun e => hn (e ▸ hp))⟩
theorem Fr.drew (own : Nat -> Prop) (w : World) : Fr own w w.drew := ⟨rfl, rfl, rfl, Nat.le_refl _, fun _ _ _ => rfl⟩
theorem own_fr {B : Nat} {e : TypeId} {size n : Nat} {v : Value} {xs : List Value} (h : w.ownsRow B e size v n xs) (hf : Fr own w w') (hn : ∀ x, v.ownBlock = some x -> ¬ own x) : w'.ownsRow B e size v n xs :=
 ⟨h.1, h.2.elim .inl fun ⟨g, cap, cur, e1, e2, hh, r⟩ => .inr ⟨g, cap, cur, e1, e2, (hf.block g (Array.getElem?_eq_some_iff.1 hh).1 (hn g (by rw [e1]; rfl))).trans hh, r⟩⟩
end
abbrev nilv : Value := .slice none 0 0
def itself (v : Value) : Option (DataW Value × List MemPlace) := some (.held v, [])
section
variable {P : Program} {k e T : TypeId} {w w' : World} {m n : Nat} {f : Nat -> Value} {ks : Nat -> Bool}
end
section
variable {P : Program} {ops : Array Oper} {o : Oper} {a : Act} {w : World} {K : Act -> World -> Prop} {Q : Exit -> Act -> World -> Prop} {E : Prop}
theorem step_appV {T e : TypeId} {z : Value} {size bytes : Nat} (el : El P T e z size bytes) (hgd : o.guard = none) (s x : Operand)
  (ho : o.op = .call { callee := .builtin .append, args := #[s, x], argTypes := #[T, T] })
  (B : Nat) (v : Value) (n : Nat) (xs : List Value) (hs : a.eval s = v) (hown : w.ownsRow B e size v n xs)
  (ad : Addr) (m c : Nat) (news : List Value) (hx : a.eval x = .slice (some ad) m c) (hl : news.length = m * size) (hnews : ∀ j u, news[j]? = some u -> w.cell? (ad.add j) = some u) (h1 : ∀ u ∈ news, u.oneCell' = true)
  (hb : n + m <= 1000000000) (hby : bytes <= 100) (hB : B <= w.heap.size)
  (h : ∀ v' w', w'.ownsRow B e size v' (n + m) (xs ++ news) -> w.grownBy w' v.ownBlock -> (v'.ownBlock = v.ownBlock \/ v'.ownBlock = some w.heap.size) -> K (a.put o.dst v') w') :
  if Region.wanted o (yielded ops a.tmps) = true then Oper.wp P o a w K Q else E := by
 have hw : Region.wanted o (yielded ops a.tmps) = true := by simp [Region.wanted, hgd]
 rw [if_pos hw]
 obtain ⟨i, hi, hz, h2, h3⟩ := info_parts el.info
 have hbb : (n + m) * bytes <= 1000000000 * 100 := Nat.mul_le_mul hb hby
 obtain ⟨v', w', hrun, r1, r2, _, r3⟩ := run_append_own_at (P := P) w B T o.type e i z size bytes el.und hi hz h2 h3 el.zs el.pos v n xs hown ad m c news hl hnews h1 (by unfold maxLen; omega) (by omega) hB
 unfold Oper.wp execOp
 simp only [ho, resolve, invoke, builtin, Sem.run_bind, Sem.run_pure, Result.andThen_ok, List.map_toArray, List.map_cons, List.map_nil, hs, hx, hrun]
 exact h v' w' r1 r2 r3
end
end Go.Proofs.YtaoinkjjmakhaaaGreatDoor
namespace Go.Proofs.YtaoinkjjmakhaaaGreatDoor
open Go.RowKit
def WStays (keep : Nat -> Prop) (w w' : World) : Prop := w.heap.size <= w'.heap.size /\ ∀ x, keep x -> w'.heap[x]? = w.heap[x]?
def VRow (K : Nat -> Prop) (w : World) (A : Option Addr) (n sz : Nat) (vs : List Value) : Prop :=
 vs.length = n * sz /\ (A = none -> n = 0) /\ (0 < n -> ∃ b o, A = some ⟨b, o, none⟩ /\ K b /\ b < w.heap.size /\ ∀ j u, vs[j]? = some u -> w.cell? ⟨b, o + j, none⟩ = some u)
def VB (K : Nat -> Prop) (w : World) (u : Value) (l : List UInt8) : Prop :=
 ∃ A m c, u = .slice A m c /\ Rd w A m l /\ ∀ b o, A = some ⟨b, o, none⟩ -> 0 < m -> K b /\ b < w.heap.size
def HdV (K : Nat -> Prop) (w : World) (vs : List Value) (ls : List (List UInt8)) : Prop :=
 vs.length = ls.length /\ ∀ j u, vs[j]? = some u -> VB K w u (ls.getD j [])
def RowsV (K : Nat -> Prop) (w : World) (A : Option Addr) (n : Nat) (ls : List (List UInt8)) : Prop := ∃ vs, ls.length = n /\ VRow K w A n 1 vs /\ HdV K w vs ls
section
variable {K K' : Nat -> Prop} {w w' w'' : World} {A : Option Addr} {n sz : Nat} {vs : List Value} {u : Value} {l : List UInt8} {ls : List (List UInt8)}
theorem Rd.wstays (h : Rd w A n l) (hs : WStays K w w') (hk : ∀ b o, A = some ⟨b, o, none⟩ -> 0 < n -> K b) : Rd w' A n l :=
 ⟨h.1, fun hn => by
  obtain ⟨b, o, e, hlt, hc⟩ := h.2 hn
  exact ⟨b, o, e, Nat.lt_of_lt_of_le hlt hs.1, fun j hj => (World.cell?_of_block (w := w) (a := ⟨b, o + j, none⟩) (hs.2 b (hk b o e hn))).trans (hc j hj)⟩⟩
theorem VRow.stays (h : VRow K w A n sz vs) (hs : WStays K w w') : VRow K w' A n sz vs :=
 ⟨h.1, h.2.1, fun hp => by obtain ⟨b, o, e, hk, hlt, hc⟩ := h.2.2 hp; exact ⟨b, o, e, hk, Nat.lt_of_lt_of_le hlt hs.1, fun j u hj => (World.cell?_of_block (a := ⟨b, o + j, none⟩) (hs.2 b hk)).trans (hc j u hj)⟩⟩
theorem VRow.mono (h : VRow K w A n sz vs) (hk : ∀ x, K x -> K' x) : VRow K' w A n sz vs :=
 ⟨h.1, h.2.1, fun hp => by obtain ⟨b, o, e, h1, r⟩ := h.2.2 hp; exact ⟨b, o, e, hk b h1, r⟩⟩
theorem VRow.lt (h : VRow K w A n sz vs) : VRow (fun x => K x /\ x < w.heap.size) w A n sz vs :=
 ⟨h.1, h.2.1, fun hp => by obtain ⟨b, o, e, h1, h2, r⟩ := h.2.2 hp; exact ⟨b, o, e, ⟨h1, h2⟩, h2, r⟩⟩
theorem VRow.below (h : VRow K w A n sz vs) (hb : Below w.heap.size w w') : VRow K w' A n sz vs := (h.lt.stays ⟨hb.size, fun x hx => hb.block x hx.2⟩).mono fun _ hx => hx.1
theorem VB.stays (h : VB K w u l) (hs : WStays K w w') : VB K w' u l := by
 obtain ⟨A, m, c, h1, h2, h3⟩ := h
 exact ⟨A, m, c, h1, h2.wstays hs (fun b o e hm => (h3 b o e hm).1), fun b o e hm => ⟨(h3 b o e hm).1, Nat.lt_of_lt_of_le (h3 b o e hm).2 hs.1⟩⟩
theorem VB.mono (h : VB K w u l) (hk : ∀ x, K x -> K' x) : VB K' w u l := by
 obtain ⟨A, m, c, h1, h2, h3⟩ := h
 exact ⟨A, m, c, h1, h2, fun b o e hm => ⟨hk b (h3 b o e hm).1, (h3 b o e hm).2⟩⟩
theorem VB.lt (h : VB K w u l) : VB (fun x => K x /\ x < w.heap.size) w u l := by
 obtain ⟨A, m, c, h1, h2, h3⟩ := h
 exact ⟨A, m, c, h1, h2, fun b o e hm => ⟨h3 b o e hm, (h3 b o e hm).2⟩⟩
theorem VB.below (h : VB K w u l) (hb : Below w.heap.size w w') : VB K w' u l := (h.lt.stays ⟨hb.size, fun x hx => hb.block x hx.2⟩).mono fun _ hx => hx.1
theorem VB.one (h : VB K w u l) : u.oneCell' = true := by obtain ⟨A, m, c, rfl, _⟩ := h; rfl
theorem HdV.stays (h : HdV K w vs ls) (hs : WStays K w w') : HdV K w' vs ls := ⟨h.1, fun j u hj => (h.2 j u hj).stays hs⟩
theorem HdV.mono (h : HdV K w vs ls) (hk : ∀ x, K x -> K' x) : HdV K' w vs ls := ⟨h.1, fun j u hj => (h.2 j u hj).mono hk⟩
theorem HdV.below (h : HdV K w vs ls) (hb : Below w.heap.size w w') : HdV K w' vs ls := ⟨h.1, fun j u hj => (h.2 j u hj).below hb⟩
theorem RowsV.stays (h : RowsV K w A n ls) (hs : WStays K w w') : RowsV K w' A n ls := by
 obtain ⟨vs, h1, h2, h3⟩ := h; exact ⟨vs, h1, h2.stays hs, h3.stays hs⟩
theorem RowsV.mono (h : RowsV K w A n ls) (hk : ∀ x, K x -> K' x) : RowsV K' w A n ls := by
 obtain ⟨vs, h1, h2, h3⟩ := h; exact ⟨vs, h1, h2.mono hk, h3.mono hk⟩
theorem RowsV.below (h : RowsV K w A n ls) (hb : Below w.heap.size w w') : RowsV K w' A n ls := by
 obtain ⟨vs, h1, h2, h3⟩ := h; exact ⟨vs, h1, h2.below hb, h3.below hb⟩
theorem RowsV.lt (h : RowsV K w A n ls) : RowsV (fun x => K x /\ x < w.heap.size) w A n ls := by
 obtain ⟨vs, h1, h2, h3⟩ := h
 exact ⟨vs, h1, h2.lt, h3.1, fun j u hj => (h3.2 j u hj).lt⟩
theorem RowsV.at_ (h : RowsV K w A n ls) {j : Nat} (hj : j < n) : ∃ b o u, A = some ⟨b, o, none⟩ /\ b < w.heap.size /\ w.cell? ⟨b, o + j, none⟩ = some u /\ VB K w u (ls.getD j []) := by
 obtain ⟨vs, h1, h2, h3⟩ := h
 obtain ⟨b, o, e, _, hlt, hc⟩ := h2.2.2 (by omega)
 have hjl : j < vs.length := by rw [h2.1]; omega
 have hv := List.getElem?_eq_getElem hjl
 exact ⟨b, o, vs[j], e, hlt, hc j _ hv, h3.2 j _ hv⟩
theorem own_vrow {B e : Nat} {v : Value} (ho : w.ownsRow B e sz v n vs) : ∃ A c, v = .slice A n c /\ n <= c /\ c <= maxLen /\ VRow (fun x => B <= x /\ x < w.heap.size) w A n sz vs := by
 rcases ho.2 with ⟨rfl, rfl⟩ | ⟨g, cap, cur, rfl, hB, hh, hnc, hc, hs, ht⟩
 ·exact ⟨none, 0, rfl, Nat.le_refl _, Nat.zero_le _, ho.1, fun _ => rfl, fun h => absurd h (Nat.lt_irrefl 0)⟩
 ·have hlt := (Array.getElem?_eq_some_iff.1 hh).1
  refine ⟨_, cap, rfl, hnc, hc, ho.1, (fun e => by cases e), fun _ => ⟨g, 0, rfl, ⟨hB, hlt⟩, hlt, fun j u hj => ?_⟩⟩
  have := ho.cells (g := g) rfl j u hj
  rwa [Addr.add_lit] at this
end
section
variable {P : Program} {ops : Array Oper} {o : Oper} {a : Act} {w : World} {J : Act -> World -> Prop} {Q : Exit -> Act -> World -> Prop} {E : Prop} {K : Nat -> Prop}
theorem run_appW {T e : TypeId} {z : Value} {size bytes : Nat} (el : El P T e z size bytes) (ty : TypeId) (B : Nat) (v : Value) (n : Nat) (xs : List Value) (hown : w.ownsRow B e size v n xs)
  (A : Option Addr) (m c : Nat) (vs : List Value) (hA : VRow K w A m size vs) (h1 : ∀ u ∈ vs, u.oneCell' = true) (hb : n + m <= 1000000000) (hby : bytes <= 100) (hB : B <= w.heap.size) :
  ∃ v' w', (Builtin.append_ #[T, T] ty #[v, .slice A m c]).run P w = .ok v' w' /\ w'.ownsRow B e size v' (n + m) (xs ++ vs) /\ w.grownBy w' v.ownBlock /\ (v'.ownBlock = v.ownBlock \/ v'.ownBlock = some w.heap.size) := by
 obtain ⟨i, hi, hz, h2, h3⟩ := info_parts el.info
 have hbb : (n + m) * bytes <= 1000000000 * 100 := Nat.mul_le_mul hb hby
 rcases A with _ | ad
 ·have hm := hA.2.1 rfl
  subst hm
  have hn : vs = [] := List.eq_nil_of_length_eq_zero (by rw [hA.1, Nat.zero_mul])
  subst hn
  exact ⟨v, w, run_app_nil w B T ty e i size el.und hi v n xs hown c, by simpa using hown, World.grownBy.refl _ _, .inl rfl⟩
 ·have hcells : ∀ j u, vs[j]? = some u -> w.cell? (ad.add j) = some u := fun j u hj => by
   rcases Nat.eq_zero_or_pos m with h0 | h0
   ·subst h0
    have hn : vs = [] := List.eq_nil_of_length_eq_zero (by rw [hA.1, Nat.zero_mul])
    subst hn
    cases hj
   ·obtain ⟨b, o', e', _, _, hc⟩ := hA.2.2 h0
    injection e' with e'
    subst e'
    rw [Addr.add_lit]
    exact hc j u hj
  obtain ⟨v', w', hrun, r1, r2, _, r3⟩ := run_append_own_at (P := P) w B T ty e i z size bytes el.und hi hz h2 h3 el.zs el.pos v n xs hown ad m c vs hA.1 hcells h1 (by unfold maxLen; omega) (by omega) hB
  exact ⟨v', w', hrun, r1, r2, r3⟩
theorem wpList_appW {T e : TypeId} {z : Value} {size bytes : Nat} (el : El P T e z size bytes) {rest : List Oper} (hgd : Region.wanted o (yielded ops a.tmps) = true) (s x : Operand)
  (ho : o.op = .call { callee := .builtin .append, args := #[s, x], argTypes := #[T, T] })
  (B : Nat) (v : Value) (n : Nat) (xs : List Value) (hs : a.eval s = v) (hown : w.ownsRow B e size v n xs)
  (A : Option Addr) (m c : Nat) (vs : List Value) (hx : a.eval x = .slice A m c) (hA : VRow K w A m size vs) (h1 : ∀ u ∈ vs, u.oneCell' = true)
  (hb : n + m <= 1000000000) (hby : bytes <= 100) (hB : B <= w.heap.size)
  (h : ∀ v' w', w'.ownsRow B e size v' (n + m) (xs ++ vs) -> w.grownBy w' v.ownBlock -> wpList P ops Q rest (a.put o.dst v') w') : wpList P ops Q (o :: rest) a w :=
 wpList_w hgd fun _ hK => by
  obtain ⟨v', w', hrun, r1, r2, _⟩ := run_appW (P := P) (K := K) el o.type B v n xs hown A m c vs hA h1 hb hby hB
  unfold Oper.wp execOp
  simp only [ho, resolve, invoke, builtin, Sem.run_bind, Sem.run_pure, Result.andThen_ok, List.map_toArray, List.map_cons, List.map_nil, hs, hx, hrun]
  exact hK _ _ (h v' w' r1 r2)
theorem step_appX {T e : TypeId} {z : Value} {size bytes : Nat} (el : El P T e z size bytes) (hgd : o.guard = none) (s x : Operand)
  (ho : o.op = .call { callee := .builtin .append, args := #[s, x], argTypes := #[T, T] })
  (B : Nat) (v : Value) (n : Nat) (xs : List Value) (hs : a.eval s = v) (hown : w.ownsRow B e size v n xs)
  (A : Option Addr) (m c : Nat) (vs : List Value) (hx : a.eval x = .slice A m c) (hA : VRow K w A m size vs) (h1 : ∀ u ∈ vs, u.oneCell' = true)
  (hb : n + m <= 1000000000) (hby : bytes <= 100) (hB : B <= w.heap.size)
  (h : ∀ v' w', w'.ownsRow B e size v' (n + m) (xs ++ vs) -> w.grownBy w' v.ownBlock -> (v'.ownBlock = v.ownBlock \/ v'.ownBlock = some w.heap.size) -> J (a.put o.dst v') w') :
  if Region.wanted o (yielded ops a.tmps) = true then Oper.wp P o a w J Q else E := by
 have hw : Region.wanted o (yielded ops a.tmps) = true := by simp [Region.wanted, hgd]
 rw [if_pos hw]
 obtain ⟨v', w', hrun, r1, r2, r3⟩ := run_appW (P := P) (K := K) el o.type B v n xs hown A m c vs hA h1 hb hby hB
 unfold Oper.wp execOp
 simp only [ho, resolve, invoke, builtin, Sem.run_bind, Sem.run_pure, Result.andThen_ok, List.map_toArray, List.map_cons, List.map_nil, hs, hx, hrun]
 exact h v' w' r1 r2 r3
theorem wpList_appX {T e : TypeId} {z : Value} {size bytes : Nat} (el : El P T e z size bytes) {rest : List Oper} (hgd : Region.wanted o (yielded ops a.tmps) = true) (s x : Operand)
  (ho : o.op = .call { callee := .builtin .append, args := #[s, x], argTypes := #[T, T] })
  (B : Nat) (v : Value) (n : Nat) (xs : List Value) (hs : a.eval s = v) (hown : w.ownsRow B e size v n xs)
  (A : Option Addr) (m c : Nat) (vs : List Value) (hx : a.eval x = .slice A m c) (hA : VRow K w A m size vs) (h1 : ∀ u ∈ vs, u.oneCell' = true)
  (hb : n + m <= 1000000000) (hby : bytes <= 100) (hB : B <= w.heap.size)
  (h : ∀ v' w', w'.ownsRow B e size v' (n + m) (xs ++ vs) -> w.grownBy w' v.ownBlock -> (v'.ownBlock = v.ownBlock \/ v'.ownBlock = some w.heap.size) -> wpList P ops Q rest (a.put o.dst v') w') : wpList P ops Q (o :: rest) a w :=
 wpList_w hgd fun _ hK => by
  obtain ⟨v', w', hrun, r1, r2, r3⟩ := run_appW (P := P) (K := K) el o.type B v n xs hown A m c vs hA h1 hb hby hB
  unfold Oper.wp execOp
  simp only [ho, resolve, invoke, builtin, Sem.run_bind, Sem.run_pure, Result.andThen_ok, List.map_toArray, List.map_cons, List.map_nil, hs, hx, hrun]
  exact hK _ _ (h v' w' r1 r2 r3)
end
end Go.Proofs.YtaoinkjjmakhaaaGreatDoor
namespace Go.Proofs.YtaoinkjjmakhaaaGreatDoor
open Go.RowKit
section
variable {α : Type} {z : Nat} {L : List (List α)}
theorem flatg_len (h : ∀ r ∈ L, r.length = z) : L.flatten.length = L.length * z := by
 induction L with
 | nil => simp
 | cons a L ih =>
  rw [List.flatten_cons, List.length_append, h a List.mem_cons_self, ih (fun r hr => h r (List.mem_cons_of_mem _ hr)), List.length_cons, Nat.succ_mul]
  omega
theorem flatg_take (h : ∀ r ∈ L, r.length = z) (k : Nat) : L.flatten.take (k * z) = (L.take k).flatten := by
 induction L generalizing k with
 | nil => simp
 | cons a L ih =>
  cases k with
  | zero => simp
  | succ k =>
   have ha := h a List.mem_cons_self
   rw [List.flatten_cons, List.take_succ_cons, List.flatten_cons, List.take_append, List.take_of_length_le (by rw [ha, Nat.succ_mul]; omega), ha, show (k + 1) * z - z = k * z by rw [Nat.succ_mul]; omega, ih (fun r hr => h r (List.mem_cons_of_mem _ hr))]
theorem flatg_drop (h : ∀ r ∈ L, r.length = z) (k : Nat) : L.flatten.drop (k * z) = (L.drop k).flatten := by
 induction L generalizing k with
 | nil => simp
 | cons a L ih =>
  cases k with
  | zero => simp
  | succ k =>
   have ha := h a List.mem_cons_self
   rw [List.flatten_cons, List.drop_succ_cons, List.drop_append, List.drop_eq_nil_of_le (by rw [ha, Nat.succ_mul]; omega), ha, show (k + 1) * z - z = k * z by rw [Nat.succ_mul]; omega, ih (fun r hr => h r (List.mem_cons_of_mem _ hr)), List.nil_append]
theorem flatg_get (h : ∀ r ∈ L, r.length = z) {k i : Nat} {r : List α} (hk : L[k]? = some r) (hi : i < z) : L.flatten[k * z + i]? = r[i]? := by
 have hlt := (List.getElem?_eq_some_iff.1 hk).1
 have he := (List.getElem?_eq_some_iff.1 hk).2
 have hr : r.length = z := he ▸ h _ (List.getElem_mem hlt)
 rw [<- List.getElem?_drop, flatg_drop h, List.drop_eq_getElem_cons hlt, he, List.flatten_cons, List.getElem?_append_left (by omega)]
theorem flatg_set (h : ∀ r ∈ L, r.length = z) {k i : Nat} {r : List α} (hk : L[k]? = some r) (hi : i < z) (u : α) : L.flatten.set (k * z + i) u = (L.set k (r.set i u)).flatten := by
 have hlt := (List.getElem?_eq_some_iff.1 hk).1
 have he := (List.getElem?_eq_some_iff.1 hk).2
 have hr : r.length = z := he ▸ h _ (List.getElem_mem hlt)
 have e1 : L.flatten = (L.take k).flatten ++ (r ++ (L.drop (k + 1)).flatten) := by
  rw [<- List.flatten_cons, <- he, <- List.drop_eq_getElem_cons hlt, <- List.flatten_append, List.take_append_drop]
 have e2 : (L.set k (r.set i u)).flatten = (L.take k).flatten ++ (r.set i u ++ (L.drop (k + 1)).flatten) := by
  rw [List.set_eq_take_append_cons_drop, if_pos hlt, List.flatten_append, List.flatten_cons]
 have hl : (L.take k).flatten.length = k * z := by
  rw [flatg_len (fun x hx => h x (List.mem_of_mem_take hx)), List.length_take, Nat.min_eq_left (by omega)]
 rw [e1, e2, List.set_append_right _ _ (by omega), hl, Nat.add_sub_cancel_left, List.set_append_left _ _ (by omega)]
end
def HdL {α : Type} (sz : Nat) (E : α -> List Value -> Prop) (vs : List Value) (xs : List α) : Prop :=
 ∃ ch : List (List Value), vs = ch.flatten /\ ch.length = xs.length /\ (∀ r ∈ ch, r.length = sz) /\ ∀ (j : Nat) (x : α), xs[j]? = some x -> ∃ r, ch[j]? = some r /\ E x r
section
variable {α : Type} {sz : Nat} {E E' : α -> List Value -> Prop} {vs : List Value} {xs : List α}
theorem HdL.imp (h : HdL sz E vs xs) (hi : ∀ x r, E x r -> E' x r) : HdL sz E' vs xs := by
 obtain ⟨ch, h1, h2, h3, h4⟩ := h
 exact ⟨ch, h1, h2, h3, fun j x hx => by obtain ⟨r, hr, he⟩ := h4 j x hx; exact ⟨r, hr, hi _ _ he⟩⟩
theorem HdL.len (h : HdL sz E vs xs) : vs.length = xs.length * sz := by
 obtain ⟨ch, rfl, h2, h3, _⟩ := h
 rw [flatg_len h3, h2]
theorem HdL.nil (sz : Nat) (E : α -> List Value -> Prop) : HdL sz E [] [] := ⟨[], rfl, rfl, fun _ h => absurd h List.not_mem_nil, fun j x h => by simp at h⟩
theorem HdL.at_ (h : HdL sz E vs xs) {j : Nat} {x : α} (hj : xs[j]? = some x) : ∃ r, r.length = sz /\ E x r /\ ∀ i, i < sz -> vs[j * sz + i]? = r[i]? := by
 obtain ⟨ch, rfl, h2, h3, h4⟩ := h
 obtain ⟨r, hr, he⟩ := h4 j x hj
 refine ⟨r, ?_, he, fun i hi => flatg_get h3 hr hi⟩
 obtain ⟨hlt, e⟩ := List.getElem?_eq_some_iff.1 hr
 exact e ▸ h3 _ (List.getElem_mem hlt)
theorem HdL.snoc (h : HdL sz E vs xs) {x : α} {r : List Value} (hr : r.length = sz) (he : E x r) : HdL sz E (vs ++ r) (xs ++ [x]) := by
 obtain ⟨ch, rfl, h2, h3, h4⟩ := h
 refine ⟨ch ++ [r], by simp, by simp [h2], fun q hq => ?_, fun j y hy => ?_⟩
 ·rcases List.mem_append.1 hq with h | h
  ·exact h3 q h
  ·rw [List.mem_singleton.1 h]; exact hr
 ·by_cases hj : j < xs.length
  ·rw [List.getElem?_append_left hj] at hy
   obtain ⟨q, hq, hE⟩ := h4 j y hy
   exact ⟨q, by rw [List.getElem?_append_left (by omega)]; exact hq, hE⟩
  ·have e : j = xs.length := by
    have := (List.getElem?_eq_some_iff.1 hy).1
    simp at this
    omega
   subst e
   simp at hy
   subst hy
   exact ⟨r, by rw [<- h2]; simp, he⟩
theorem HdL.one (h : HdL sz E vs xs) (he : ∀ x r, E x r -> ∀ u ∈ r, u.oneCell' = true) : ∀ u ∈ vs, u.oneCell' = true := by
 obtain ⟨ch, rfl, h2, h3, h4⟩ := h
 intro u hu
 obtain ⟨r, hr, hur⟩ := List.mem_flatten.1 hu
 obtain ⟨j, hj, e⟩ := List.getElem_of_mem hr
 obtain ⟨q, hq, hE⟩ := h4 j xs[j] (List.getElem?_eq_getElem (by omega))
 rw [List.getElem?_eq_getElem hj, e] at hq
 injection hq with hq
 exact he _ _ hE u (hq ▸ hur)
end
def RowsL {α : Type} (sz : Nat) (E : α -> List Value -> Prop) (K : Nat -> Prop) (w : World) (A : Option Addr) (n : Nat) (xs : List α) : Prop := ∃ vs, xs.length = n /\ VRow K w A n sz vs /\ HdL sz E vs xs
theorem RowsL.cells {α : Type} {sz : Nat} {E : α -> List Value -> Prop} {K : Nat -> Prop} {w : World} {A : Option Addr} {n : Nat} {xs : List α} (h : RowsL sz E K w A n xs) {j : Nat} {x : α} (hj : xs[j]? = some x) :
  ∃ b o r, A = some ⟨b, o, none⟩ /\ K b /\ b < w.heap.size /\ r.length = sz /\ E x r /\ ∀ i u, i < sz -> r[i]? = some u -> w.cell? ⟨b, o + (j * sz + i), none⟩ = some u := by
 obtain ⟨vs, h1, h2, h3⟩ := h
 have hjl := (List.getElem?_eq_some_iff.1 hj).1
 obtain ⟨r, hr, he, hc⟩ := h3.at_ hj
 obtain ⟨b, o, e, hk, hlt, hcell⟩ := h2.2.2 (by omega)
 exact ⟨b, o, r, e, hk, hlt, hr, he, fun i u hi hu => hcell _ u (by rw [hc i hi]; exact hu)⟩
def EP (K : Nat -> Prop) (w : World) (x : Int × List UInt8) (r : List Value) : Prop := ∃ u, r = [.int .i64 x.1, u] /\ VB K w u x.2
def PartsV (K : Nat -> Prop) (w : World) (A : Option Addr) (n : Nat) (ps : List (Int × List UInt8)) : Prop := RowsL 2 (EP K w) K w A n ps
def EE (K : Nat -> Prop) (w : World) (x : (Int × Int) × List (Int × List UInt8)) (r : List Value) : Prop := ∃ A n c, r = [.int .i64 x.1.1, .int .i64 x.1.2, .slice A n c] /\ PartsV K w A n x.2
def EntsV (K : Nat -> Prop) (w : World) (A : Option Addr) (n : Nat) (xs : List ((Int × Int) × List (Int × List UInt8))) : Prop := RowsL 3 (EE K w) K w A n xs
def EI (x : Int) (r : List Value) : Prop := r = [.int .i64 x]
def IntsV (K : Nat -> Prop) (w : World) (A : Option Addr) (n : Nat) (xs : List Int) : Prop := RowsL 1 EI K w A n xs
def ED (x : Int × Int) (r : List Value) : Prop := r = [.int .i64 x.1, .int .i64 x.2]
def IdsV (K : Nat -> Prop) (w : World) (A : Option Addr) (n : Nat) (xs : List (Int × Int)) : Prop := RowsL 2 ED K w A n xs
section
variable {K K' : Nat -> Prop} {w w' : World} {A : Option Addr} {n : Nat}
theorem EP.one {x : Int × List UInt8} {r : List Value} (h : EP K w x r) : ∀ u ∈ r, u.oneCell' = true := by
 obtain ⟨u, rfl, hu⟩ := h
 intro v hv
 simp at hv
 rcases hv with rfl | rfl
 ·rfl
 ·exact hu.one
theorem EE.one {x : (Int × Int) × List (Int × List UInt8)} {r : List Value} (h : EE K w x r) : ∀ u ∈ r, u.oneCell' = true := by
 obtain ⟨A, n, c, rfl, _⟩ := h
 intro v hv
 simp at hv
 rcases hv with rfl | rfl | rfl <;> rfl
theorem ED.one {x : Int × Int} {r : List Value} (h : ED x r) : ∀ u ∈ r, u.oneCell' = true := by
 unfold ED at h
 subst h
 intro v hv
 simp at hv
 rcases hv with rfl | rfl <;> rfl
theorem PartsV.stays {ps : List (Int × List UInt8)} (h : PartsV K w A n ps) (hs : WStays K w w') : PartsV K w' A n ps := by
 obtain ⟨vs, h1, h2, h3⟩ := h
 exact ⟨vs, h1, h2.stays hs, h3.imp fun x r ⟨u, e, hu⟩ => ⟨u, e, hu.stays hs⟩⟩
theorem PartsV.mono {ps : List (Int × List UInt8)} (h : PartsV K w A n ps) (hk : ∀ x, K x -> K' x) : PartsV K' w A n ps := by
 obtain ⟨vs, h1, h2, h3⟩ := h
 exact ⟨vs, h1, h2.mono hk, h3.imp fun x r ⟨u, e, hu⟩ => ⟨u, e, hu.mono hk⟩⟩
theorem PartsV.lt {ps : List (Int × List UInt8)} (h : PartsV K w A n ps) : PartsV (fun x => K x /\ x < w.heap.size) w A n ps := by
 obtain ⟨vs, h1, h2, h3⟩ := h
 exact ⟨vs, h1, h2.lt, h3.imp fun x r ⟨u, e, hu⟩ => ⟨u, e, hu.lt⟩⟩
theorem PartsV.below {ps : List (Int × List UInt8)} (h : PartsV K w A n ps) (hb : Below w.heap.size w w') : PartsV K w' A n ps := (h.lt.stays ⟨hb.size, fun x hx => hb.block x hx.2⟩).mono fun _ hx => hx.1
theorem PartsV.nil (K : Nat -> Prop) (w : World) (A : Option Addr) : PartsV K w A 0 [] := ⟨[], rfl, ⟨rfl, fun _ => rfl, fun h => absurd h (Nat.lt_irrefl 0)⟩, HdL.nil _ _⟩
theorem PartsV.len {ps : List (Int × List UInt8)} (h : PartsV K w A n ps) : ps.length = n := by obtain ⟨_, h1, _⟩ := h; exact h1
theorem EntsV.stays {xs : List ((Int × Int) × List (Int × List UInt8))} (h : EntsV K w A n xs) (hs : WStays K w w') : EntsV K w' A n xs := by
 obtain ⟨vs, h1, h2, h3⟩ := h
 exact ⟨vs, h1, h2.stays hs, h3.imp fun x r ⟨A, n, c, e, hu⟩ => ⟨A, n, c, e, hu.stays hs⟩⟩
theorem EntsV.mono {xs : List ((Int × Int) × List (Int × List UInt8))} (h : EntsV K w A n xs) (hk : ∀ x, K x -> K' x) : EntsV K' w A n xs := by
 obtain ⟨vs, h1, h2, h3⟩ := h
 exact ⟨vs, h1, h2.mono hk, h3.imp fun x r ⟨A, n, c, e, hu⟩ => ⟨A, n, c, e, hu.mono hk⟩⟩
theorem EntsV.lt {xs : List ((Int × Int) × List (Int × List UInt8))} (h : EntsV K w A n xs) : EntsV (fun x => K x /\ x < w.heap.size) w A n xs := by
 obtain ⟨vs, h1, h2, h3⟩ := h
 exact ⟨vs, h1, h2.lt, h3.imp fun x r ⟨A, n, c, e, hu⟩ => ⟨A, n, c, e, hu.lt⟩⟩
theorem EntsV.below {xs : List ((Int × Int) × List (Int × List UInt8))} (h : EntsV K w A n xs) (hb : Below w.heap.size w w') : EntsV K w' A n xs := (h.lt.stays ⟨hb.size, fun x hx => hb.block x hx.2⟩).mono fun _ hx => hx.1
theorem EntsV.len {xs : List ((Int × Int) × List (Int × List UInt8))} (h : EntsV K w A n xs) : xs.length = n := by obtain ⟨_, h1, _⟩ := h; exact h1
theorem EntsV.nil (K : Nat -> Prop) (w : World) (A : Option Addr) : EntsV K w A 0 [] := ⟨[], rfl, ⟨rfl, fun _ => rfl, fun h => absurd h (Nat.lt_irrefl 0)⟩, HdL.nil _ _⟩
theorem IntsV.stays {xs : List Int} (h : IntsV K w A n xs) (hs : WStays K w w') : IntsV K w' A n xs := by
 obtain ⟨vs, h1, h2, h3⟩ := h
 exact ⟨vs, h1, h2.stays hs, h3⟩
theorem IntsV.mono {xs : List Int} (h : IntsV K w A n xs) (hk : ∀ x, K x -> K' x) : IntsV K' w A n xs := by
 obtain ⟨vs, h1, h2, h3⟩ := h
 exact ⟨vs, h1, h2.mono hk, h3⟩
theorem IntsV.below {xs : List Int} (h : IntsV K w A n xs) (hb : Below w.heap.size w w') : IntsV K w' A n xs := by
 obtain ⟨vs, h1, h2, h3⟩ := h
 exact ⟨vs, h1, h2.below hb, h3⟩
theorem IntsV.len {xs : List Int} (h : IntsV K w A n xs) : xs.length = n := by obtain ⟨_, h1, _⟩ := h; exact h1
theorem IntsV.cell {xs : List Int} (h : IntsV K w A n xs) {j : Nat} {x : Int} (hj : xs[j]? = some x) : ∃ b o, A = some ⟨b, o, none⟩ /\ b < w.heap.size /\ w.cell? ⟨b, o + j, none⟩ = some (.int .i64 x) := by
 obtain ⟨b, o, r, e, _, hlt, _, hE, hc⟩ := RowsL.cells h hj
 unfold EI at hE
 subst hE
 have := hc 0 _ Nat.one_pos rfl
 rw [Nat.mul_one, Nat.add_zero] at this
 exact ⟨b, o, e, hlt, this⟩
theorem IdsV.stays {xs : List (Int × Int)} (h : IdsV K w A n xs) (hs : WStays K w w') : IdsV K w' A n xs := by
 obtain ⟨vs, h1, h2, h3⟩ := h
 exact ⟨vs, h1, h2.stays hs, h3⟩
theorem IdsV.mono {xs : List (Int × Int)} (h : IdsV K w A n xs) (hk : ∀ x, K x -> K' x) : IdsV K' w A n xs := by
 obtain ⟨vs, h1, h2, h3⟩ := h
 exact ⟨vs, h1, h2.mono hk, h3⟩
theorem IdsV.below {xs : List (Int × Int)} (h : IdsV K w A n xs) (hb : Below w.heap.size w w') : IdsV K w' A n xs := by
 obtain ⟨vs, h1, h2, h3⟩ := h
 exact ⟨vs, h1, h2.below hb, h3⟩
theorem IdsV.len {xs : List (Int × Int)} (h : IdsV K w A n xs) : xs.length = n := by obtain ⟨_, h1, _⟩ := h; exact h1
theorem IdsV.cell {xs : List (Int × Int)} (h : IdsV K w A n xs) {j : Nat} {x : Int × Int} (hj : xs[j]? = some x) : ∃ b o, A = some ⟨b, o, none⟩ /\ b < w.heap.size /\ w.cell? ⟨b, o + j * 2, none⟩ = some (.int .i64 x.1) /\ w.cell? ⟨b, o + j * 2 + 1, none⟩ = some (.int .i64 x.2) := by
 obtain ⟨b, o, r, e, _, hlt, _, hE, hc⟩ := RowsL.cells h hj
 unfold ED at hE
 subst hE
 have h0 := hc 0 _ (by decide) rfl
 have h1 := hc 1 _ (by decide) rfl
 rw [Nat.add_zero] at h0
 rw [<- Nat.add_assoc] at h1
 exact ⟨b, o, e, hlt, h0, h1⟩
theorem PartsV.cell {ps : List (Int × List UInt8)} (h : PartsV K w A n ps) {j : Nat} {x : Int × List UInt8} (hj : ps[j]? = some x) :
  ∃ b o u, A = some ⟨b, o, none⟩ /\ K b /\ b < w.heap.size /\ w.cell? ⟨b, o + j * 2, none⟩ = some (.int .i64 x.1) /\ w.cell? ⟨b, o + j * 2 + 1, none⟩ = some u /\ VB K w u x.2 := by
 obtain ⟨b, o, r, e, hk, hlt, _, ⟨u, hr, hu⟩, hc⟩ := RowsL.cells h hj
 subst hr
 have h0 := hc 0 _ (by decide) rfl
 have h1 := hc 1 _ (by decide) rfl
 rw [Nat.add_zero] at h0
 rw [<- Nat.add_assoc] at h1
 exact ⟨b, o, u, e, hk, hlt, h0, h1, hu⟩
theorem EntsV.cell {xs : List ((Int × Int) × List (Int × List UInt8))} (h : EntsV K w A n xs) {j : Nat} {x : (Int × Int) × List (Int × List UInt8)} (hj : xs[j]? = some x) :
  ∃ b o PA pn pc, A = some ⟨b, o, none⟩ /\ K b /\ b < w.heap.size /\ w.cell? ⟨b, o + j * 3, none⟩ = some (.int .i64 x.1.1) /\ w.cell? ⟨b, o + j * 3 + 1, none⟩ = some (.int .i64 x.1.2) /\ w.cell? ⟨b, o + j * 3 + 2, none⟩ = some (.slice PA pn pc) /\ PartsV K w PA pn x.2 := by
 obtain ⟨b, o, r, e, hk, hlt, _, ⟨PA, pn, pc, hr, hu⟩, hc⟩ := RowsL.cells h hj
 subst hr
 have h0 := hc 0 _ (by decide) rfl
 have h1 := hc 1 _ (by decide) rfl
 have h2 := hc 2 _ (by decide) rfl
 rw [Nat.add_zero] at h0
 rw [<- Nat.add_assoc] at h1 h2
 exact ⟨b, o, PA, pn, pc, e, hk, hlt, h0, h1, h2, hu⟩
end
theorem VRow.new (w : World) (C : Array Value) (e n sz : Nat) (h : C.size = n * sz) : VRow (fun x => w.heap.size <= x) (w.alloc (.cells C e)) (some ⟨w.heap.size, 0, none⟩) n sz C.toList :=
 ⟨by simpa using h, (fun e => by cases e), fun _ => ⟨w.heap.size, 0, rfl, Nat.le_refl _, by simp, fun j u hj => by
  rw [Nat.zero_add, cell_of_row _ _ j _ _ _ (heap_alloc_last w _)]
  simpa using hj⟩⟩
theorem HdL.one1 {α : Type} {sz : Nat} {E : α -> List Value -> Prop} {x : α} {r : List Value} (hr : r.length = sz) (he : E x r) : HdL sz E r [x] := by
 have := (HdL.nil sz E).snoc hr he
 simpa using this
theorem own_rowsL {α : Type} {sz : Nat} {E : α -> List Value -> Prop} {w : World} {B e n : Nat} {v : Value} {vs : List Value} {xs : List α} (ho : w.ownsRow B e sz v n vs) (h : HdL sz E vs xs) (hn : xs.length = n) :
  ∃ A c, v = .slice A n c /\ n <= c /\ c <= maxLen /\ RowsL sz E (fun x => B <= x /\ x < w.heap.size) w A n xs := by
 obtain ⟨A, c, e1, h1, h2, h3⟩ := own_vrow ho
 exact ⟨A, c, e1, h1, h2, vs, hn, h3, h⟩
end Go.Proofs.YtaoinkjjmakhaaaGreatDoor
namespace Go.Proofs.YtaoinkjjmakhaaaGreatDoor
open Go.RowKit
theorem intT : El Tryz.prog 38 3 (.int .i64 0) 1 8 := ⟨Tryz.underlying38, by kernel_rfl, rfl, by decide⟩
def IRd (w : World) (A : Option Addr) (n : Nat) (zs : List Int) : Prop :=
 zs.length = n /\ (0 < n -> ∃ b o, A = some ⟨b, o, none⟩ /\ b < w.heap.size /\ ∀ j (_ : j < zs.length), w.cell? ⟨b, o + j, none⟩ = some (.int .i64 (zs.getD j 0)))
theorem IRd.below {w w' : World} {A : Option Addr} {n : Nat} {zs : List Int} (h : IRd w A n zs) (hb : Below w.heap.size w w') : IRd w' A n zs :=
 ⟨h.1, fun hp => by
  obtain ⟨b, o, e, hlt, hc⟩ := h.2 hp
  exact ⟨b, o, e, Nat.lt_of_lt_of_le hlt hb.size, fun j hj => (hb.cell (p := ⟨b, o + j, none⟩) hlt).trans (hc j hj)⟩⟩
theorem IRd.of_own {w : World} {B : Nat} {v : Value} {n : Nat} {zs : List Int} (h : w.ownsRow B 3 1 v n (zs.map (Value.int .i64))) : ∃ A c, v = .slice A n c /\ IRd w A n zs := by
 have hl : zs.length = n := by have := h.1; simpa using this
 rcases h.2 with ⟨rfl, rfl⟩ | ⟨g, cap, cur, rfl, _, hh, _⟩
 ·exact ⟨none, 0, rfl, hl, fun h => absurd h (Nat.lt_irrefl 0)⟩
 ·refine ⟨_, cap, rfl, hl, fun _ => ⟨g, 0, rfl, (Array.getElem?_eq_some_iff.1 hh).1, fun j hj => ?_⟩⟩
  have := h.cells (g := g) rfl j (.int .i64 (zs.getD j 0)) (by simp [List.getD, List.getElem?_eq_getElem hj])
  rw [Addr.add_lit] at this
  exact this
theorem IRd.own_below {w w' : World} {A : Option Addr} {n : Nat} {zs : List Int} (h : IRd w A n zs) {B : Nat} (hB : w.heap.size <= B) (hb : Below B w w') : IRd w' A n zs :=
 ⟨h.1, fun hp => by
  obtain ⟨b, o, e, hlt, hc⟩ := h.2 hp
  exact ⟨b, o, e, by have := hb.size; omega, fun j hj => (hb.cell (p := ⟨b, o + j, none⟩) (by simp; omega)).trans (hc j hj)⟩⟩
theorem ird_of_row {w : World} {a : Option Addr} {len cap : Nat} {zs : List Int}
  (h : (a = none /\ len = 0 /\ cap = 0 /\ zs = []) \/ ∃ x, a = some x /\ len <= cap /\ cap <= maxLen /\ zs.length = cap /\ (∀ i, i < zs.length -> w.cell? (x.add i) = some (.int .i64 (zs.getD i 0))) /\ ∀ n ∈ zs, (Lit.int .i64 n).wf = true) :
  IRd w a len (zs.take len) /\ len <= cap /\ cap <= maxLen /\ ∀ n ∈ zs, (Lit.int .i64 n).wf = true := by
 rcases h with ⟨rfl, rfl, rfl, rfl⟩ | ⟨x, rfl, hl, hm, hz, hc, hw⟩
 ·exact ⟨⟨rfl, fun h => absurd h (Nat.lt_irrefl 0)⟩, Nat.le_refl _, Nat.zero_le _, fun n hn => by cases hn⟩
 ·refine ⟨⟨by simp; omega, fun hpos => ?_⟩, hl, hm, hw⟩
  have h0 := hc 0 (by omega)
  obtain ⟨b, off, spot⟩ := x
  have hspot : spot = none := by simpa [Addr.add] using World.cell?_spot h0
  subst hspot
  have hlt : ((⟨b, off, none⟩ : Addr).add 0).block < w.heap.size := World.block_lt_of_cell? w _ h0
  refine ⟨b, off, rfl, by simpa [Addr.add] using hlt, fun j hj => ?_⟩
  have hj' : j < len := by simp at hj; omega
  have h1 := hc j (by omega)
  rw [Addr.add_lit] at h1
  rw [h1]
  simp [List.getD, hj']
end Go.Proofs.YtaoinkjjmakhaaaGreatDoor
namespace Go.Proofs.YtaoinkjjmakhaaaGreatDoor
open Go.RowKit
def Rec (T : TypeId) (w : World) (g : Nat) (cs : Array Value) : Prop := w.heap[g]? = some (.cells cs T (0, 0))
structure RT (P : Program) (T : TypeId) (n : Nat) : Prop where
 und : ∃ d, P.underlying T = some d /\ d.isRow = true
 info : (P.info? T).map (·.size) = some n
section
variable {P : Program} {T : TypeId} {w w' : World} {g : Nat} {cs : Array Value} {n : Nat}
theorem Rec.lt (h : Rec T w g cs) : g < w.heap.size := (Array.getElem?_eq_some_iff.1 h).1
theorem Rec.at_ (h : Rec T w g cs) (i : Nat) : w.cell? ⟨g, i, none⟩ = cs[i]? := cell_of_row _ _ _ _ _ _ h
theorem Rec.fz (h : Rec T w g cs) (i : Nat) : w.frozen? ⟨g, i, none⟩ = false := frozen_of_row w g i _ _ h
theorem Rec.block (h : Rec T w g cs) (hb : w'.heap[g]? = w.heap[g]?) : Rec T w' g cs := hb.trans h
theorem Rec.below {B : Nat} (h : Rec T w g cs) (hb : Below B w w') (hB : g < B) : Rec T w' g cs := (hb.block g hB).trans h
theorem Rec.under (h : Rec T w g cs) (hb : Below w.heap.size w w') : Rec T w' g cs := h.below hb h.lt
theorem Rec.fr {own : Nat -> Prop} (h : Rec T w g cs) (hf : Fr own w w') (hn : ¬ own g) : Rec T w' g cs := (hf.block g h.lt hn).trans h
theorem Rec.new (w : World) (T : TypeId) (cs : Array Value) : Rec T (w.alloc (.cells cs T)) w.heap.size cs := heap_alloc_last w _
theorem Rec.set (h : Rec T w g cs) (i : Nat) (v : Value) : Rec T (w.setCell ⟨g, i, none⟩ v) g (cs.setIfInBounds i v) := heap_setCell_at h v
theorem Rec.load (h : Rec T w g cs) (rt : RT P T n) (hn : cs.size = n) : (loadVar T ⟨g, 0, none⟩).run P w = .ok (.agg cs) w := by
 obtain ⟨d, hd, hr⟩ := rt.und
 have := run_loadVar_mid (P := P) w g 0 T cs.toList d (fun j v hj => by rw [Nat.zero_add, h.at_ j, <- hj]; simp) hd hr (by rw [rt.info, <- hn]; simp)
 simpa using this
theorem Rec.loadAt (h : Rec T w g cs) (rt : RT P T n) (hn : cs.size = n) : (Instr.loadAt T (.pointer (some ⟨g, 0, none⟩))).run P w = .ok (.agg cs) w := by
 simp only [Instr.loadAt, Instr.sureAddr, Sem.run_bind, Sem.run_pure, Result.andThen_ok, h.load rt hn]
theorem Rec.store (h : Rec T w g cs) (rt : RT P T n) (hn : cs.size = n) (cs' : Array Value) (hs : cs'.size = n) (h1 : cs'.all (·.oneCell') = true) :
  ∃ w', (Instr.storeAt T (.pointer (some ⟨g, 0, none⟩)) (.agg cs')).run P w = .ok () w' /\ Rec T w' g cs' /\ Fr (· = g) w w' := by
 refine ⟨w.setRow g cs', ?_, setRow_heap w g _ _ _ _ h, ⟨rfl, rfl, rfl, by simp [World.setRow], fun k _ hk => setRow_other w g k _ hk⟩⟩
 simp only [Instr.storeAt, Instr.sureAddr, Sem.run_bind, Sem.run_pure, Result.andThen_ok]
 exact run_storeVar_row w g T T _ _ h (by rw [hs]; exact rt.info) (hn.trans hs.symm) h1
variable {ops : Array Oper} {rest : List Oper} {o : Oper} {a : Act} {Q : Exit -> Act -> World -> Prop}
theorem wpList_ldS (rt : RT P T n) (hn : cs.size = n) (hgd : Region.wanted o (yielded ops a.tmps) = true) (x : Operand) (ho : o.op = .load T x)
  (hx : a.eval x = .pointer (some ⟨g, 0, none⟩)) (h : Rec T w g cs) (kk : wpList P ops Q rest (a.put o.dst (.agg cs)) w) : wpList P ops Q (o :: rest) a w :=
 wpList_w hgd fun _ hK => by
  unfold Oper.wp execOp
  simp only [ho, hx, h.loadAt rt hn, Sem.run_bind, Sem.run_pure, Result.andThen_ok]
  exact hK _ _ kk
theorem wpList_stS {cs' : Array Value} (rt : RT P T n) (hn : cs.size = n) (hs : cs'.size = n) (h1 : cs'.all (·.oneCell') = true) (hgd : Region.wanted o (yielded ops a.tmps) = true) (x y : Operand) (ho : o.op = .store T x y)
  (hx : a.eval x = .pointer (some ⟨g, 0, none⟩)) (hy : a.eval y = .agg cs') (h : Rec T w g cs)
  (kk : ∀ w', Rec T w' g cs' -> Fr (· = g) w w' -> wpList P ops Q rest (a.put o.dst undef) w') : wpList P ops Q (o :: rest) a w :=
 wpList_w hgd fun _ hK => by
  obtain ⟨w', hrun, r1, r2⟩ := h.store rt hn cs' hs h1
  unfold Oper.wp execOp
  simp only [ho, hx, hy, hrun, Sem.run_bind, Sem.run_pure, Result.andThen_ok]
  exact hK _ _ (kk w' r1 r2)
theorem step_stS {J : Act -> World -> Prop} {E : Prop} {cs' : Array Value} (rt : RT P T n) (hn : cs.size = n) (hs : cs'.size = n) (h1 : cs'.all (·.oneCell') = true) (hgd : o.guard = none) (x y : Operand) (ho : o.op = .store T x y)
  (hx : a.eval x = .pointer (some ⟨g, 0, none⟩)) (hy : a.eval y = .agg cs') (h : Rec T w g cs)
  (kk : ∀ w', Rec T w' g cs' -> Fr (· = g) w w' -> J (a.put o.dst undef) w') : if Region.wanted o (yielded ops a.tmps) = true then Oper.wp P o a w J Q else E := by
 have hw : Region.wanted o (yielded ops a.tmps) = true := by simp [Region.wanted, hgd]
 rw [if_pos hw]
 obtain ⟨w', hrun, r1, r2⟩ := h.store rt hn cs' hs h1
 unfold Oper.wp execOp
 simp only [ho, hx, hy, hrun, Sem.run_bind, Sem.run_pure, Result.andThen_ok]
 exact kk w' r1 r2
variable {fn : Func} {p q u v : Tmp} {T' : TypeId} {tmps : Array Value} {ad ad' : Addr} {x y : Value}
theorem res_c (h : fn.results = #[.cell p T]) (hp : tmps.getD p undef = .pointer (some ad)) (hl : (loadVar T ad).run P w = .ok x w) : (results fn tmps).run P w = .ok x w := by
 rw [Array.getD_eq_getD_getElem?] at hp
 simp only [results, h]
 simp [hp, asAddr, hl]
theorem res_ct (h : fn.results = #[.cell p T, .tmp u]) (hp : tmps.getD p undef = .pointer (some ad)) (hl : (loadVar T ad).run P w = .ok x w) : (results fn tmps).run P w = .ok (.tuple #[x, tmps.getD u undef]) w := by
 rw [Array.getD_eq_getD_getElem?] at hp
 rw [results_cell_tmp h]
 simp [hp, asAddr, hl, Result.andThen]
end
end Go.Proofs.YtaoinkjjmakhaaaGreatDoor
namespace Go.Proofs.YtaoinkjjmakhaaaGreatDoor
open Go.RowKit
theorem bytesT : El Tryz.prog 33 5 (.int .u8 0) 1 1 := ⟨Tryz.underlying33, by kernel_rfl, rfl, by decide⟩
end Go.Proofs.YtaoinkjjmakhaaaGreatDoor
namespace Go.Proofs.YtaoinkjjmakhaaaGreatDoor
open Go.RowKit
theorem Same_yes (A A' : Option Addr) (n c n' c' : Nat) (l : List UInt8) (w : World) (h1 : Rd w A n l) (h2 : Rd w A' n' l) :
  Calls Tryz.prog 18 #[.slice A n c, .slice A' n' c'] w fun e w' => e = .returned (.bool true) /\ w = w' := by
 have k1 := run_to_string 33 9 5 Tryz.underlying33 Tryz.underlying5 Tryz.underlying9 w A n c l h1
 have k2 := run_to_string 33 9 5 Tryz.underlying33 Tryz.underlying5 Tryz.underlying9 w A' n' c' l h2
 clear h1 h2
 go_enter Tryz.func18, Tryz.ntmps18
 go_wp2
 go_ret
 exact ⟨ret_bool (by simp), rfl⟩
end Go.Proofs.YtaoinkjjmakhaaaGreatDoor
