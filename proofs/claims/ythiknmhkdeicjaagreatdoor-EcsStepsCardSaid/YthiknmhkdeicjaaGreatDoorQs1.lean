/- Mem, Ints, Own, DMem, Rec, IdM, IdA, IdB -/
import Derived.Test.YthiknmhkdeicjaaGreatDoorRows
import Derived.WalkKit
import Derived.ProofKit
import Derived.OpenShut
import Derived.WalkLawsBesides
import Derived.WalkSpells
import Derived.Lib.Hide
import Derived.Lib.AppendStr
import Derived.Laws.BytesArg
import Derived.Laws.IdiomStrings
import Derived.Laws.OwnMore
import Derived.Laws.AppendOwnNone
import Derived.Laws.CopyOwn
import Derived.Maps.AppendAt
import Derived.Deep.AppendLies
import Derived.Deep.Draws
import Derived.RegionTactic
import Derived.Handy
import Derived.OwnWalk
import Derived.Maps.RangeWalk
import Derived.Deep.MidRow
import Derived.Deep.WholeRow
import Derived.Laws.ResultCell
import Derived.BigQuiet
import Derived.Deep.QuietTactic
import Derived.Carry
import Derived.Lib.SliceRun
namespace Go.Proofs.YthiknmhkdeicjaaGreatDoor
theorem sA_ {α : Type} (l : List α) (i : Nat) (a : α) : l.toArray.setIfInBounds i a = (l.set i a).toArray := List.setIfInBounds_toArray ..
theorem sB_ {α : Type} (a : α) (l : List α) (b : α) : (a :: l).set 0 b = b :: l := rfl
theorem sC_ {α : Type} (a : α) (l : List α) (n : Nat) (b : α) : (a :: l).set (n + 1) b = a :: l.set n b := rfl
theorem hi_ {p : Prop} (h : p) : RowKit.Hid p := Lib.hid h
end Go.Proofs.YthiknmhkdeicjaaGreatDoor
namespace Go.Proofs.YthiknmhkdeicjaaGreatDoor
open Go.RowKit
theorem ret_int {k : IntKind} {a b : Int} (h : a = b) : Ending.returned (.int k a) = .returned (.int k b) := by rw [h]
theorem ret_bool {a b : Bool} (h : a = b) : Ending.returned (.bool a) = .returned (.bool b) := by rw [h]
def cells (l : List UInt8) : List Value := l.map fun b => Value.int .u8 (b.toNat : Int)
@[simp] theorem cells_length (l : List UInt8) : (cells l).length = l.length := by simp [cells]
theorem cells_append (l m : List UInt8) : cells (l ++ m) = cells l ++ cells m := by simp [cells]
theorem cells_nil : cells [] = [] := rfl
theorem cells_one (l : List UInt8) : ∀ u ∈ cells l, u.oneCell' = true := by
 intro u hu
 obtain ⟨_, _, rfl⟩ := List.mem_map.1 hu
 rfl
theorem cells_get {l : List UInt8} {j : Nat} (h : j < l.length) : (cells l)[j]? = some (.int .u8 (l[j].toNat : Int)) := by
 simp [cells, h]
theorem cells_take (l : List UInt8) (n : Nat) : cells (l.take n) = (cells l).take n := by simp [cells, List.map_take]
theorem cells_drop (l : List UInt8) (n : Nat) : cells (l.drop n) = (cells l).drop n := by simp [cells, List.map_drop]
def Rd (w : World) (A : Option Addr) (n : Nat) (l : List UInt8) : Prop :=
 l.length = n /\ (0 < n -> ∃ b o, A = some ⟨b, o, none⟩ /\ b < w.heap.size /\ ∀ j (h : j < l.length), w.cell? ⟨b, o + j, none⟩ = some (.int .u8 (l[j].toNat : Int)))
section
variable {w w' : World} {A : Option Addr} {n : Nat} {l : List UInt8}
theorem Rd.nil (w : World) (A : Option Addr) : Rd w A 0 [] := ⟨rfl, fun h => absurd h (by omega)⟩
theorem Rd.below {B : Nat} (h : Rd w A n l) (hB : w.heap.size <= B) (hb : Below B w w') : Rd w' A n l :=
 ⟨h.1, fun hn => by
  obtain ⟨b, o, e, hlt, hc⟩ := h.2 hn
  exact ⟨b, o, e, by have := hb.size; omega, fun j hj => (hb.cell (p := ⟨b, o + j, none⟩) (by simp; omega)).trans (hc j hj)⟩⟩
theorem Rd.of_own {base : Nat} {e : TypeId} {v : Value} {xs : List Value} (h : w.ownsRow base e 1 v n xs) (hx : xs = cells l) : ∃ A c, v = .slice A n c /\ n <= c /\ c <= maxLen /\ Rd w A n l := by
 subst hx
 have hl : l.length = n := by have := h.1; simpa using this
 rcases h.2 with ⟨rfl, rfl⟩ | ⟨g, cap, cur, rfl, _, hh, hn, hc, _⟩
 ·exact ⟨none, 0, rfl, Nat.le_refl _, Nat.zero_le _, hl, fun h => absurd h (by omega)⟩
 ·refine ⟨_, cap, rfl, hn, hc, hl, fun _ => ⟨g, 0, rfl, (Array.getElem?_eq_some_iff.1 hh).1, fun j hj => ?_⟩⟩
  have h1 := h.cells (g := g) rfl j _ (cells_get hj)
  rw [Addr.add_lit] at h1
  exact h1
theorem Rd.cells_at {a : Addr} (h : Rd w (some a) n l) : ∀ j u, (cells l)[j]? = some u -> w.cell? (a.add j) = some u := by
 intro j u hu
 have hj : j < l.length := by have := (List.getElem?_eq_some_iff.1 hu).1; simpa using this
 obtain ⟨b, o, e, _, hc⟩ := h.2 (by have := h.1; omega)
 injection e with e
 subst e
 rw [Addr.add_lit, hc j hj, <- cells_get hj, hu]
theorem Rd.part {lo m : Nat} (h : Rd w A n l) (hlo : lo + m <= n) (A' : Option Addr) (hA : 0 < m -> ∀ b o, A = some ⟨b, o, none⟩ -> A' = some ⟨b, o + lo, none⟩) : Rd w A' m ((l.drop lo).take m) := by
 have hl := h.1
 refine ⟨by simp; omega, fun hm => ?_⟩
 obtain ⟨b, o, e, hlt, hc⟩ := h.2 (by omega)
 refine ⟨b, o + lo, hA hm b o e, hlt, fun j hj => ?_⟩
 have hj' : j < m := by simp at hj; omega
 rw [Nat.add_assoc, hc (lo + j) (by omega)]
 simp
end
def str (l : List UInt8) : ByteArray := ⟨l.toArray⟩
theorem run_to_string {P : Program} (src dst e : TypeId) (hs : P.underlying src = some (.slice e)) (he : P.underlying e = some (.int .u8)) (hd : P.underlying dst = some .string)
  (w : World) (A : Option Addr) (n c : Nat) (l : List UInt8) (h : Rd w A n l) : (convert src dst (.slice A n c)).run P w = .ok (.string (str l)) w := by
 obtain ⟨hl, hr⟩ := h
 subst hl
 by_cases h0 : l = []
 ·subst h0
  cases A with
  | none => exact run_convert_bytes_nil w src e hs he 0 c dst hd
  | some a => exact run_convert_bytes_back w src dst e a c [] hs he hd (fun j hj => by simp at hj)
 ·have hpos : 0 < l.length := List.length_pos_iff.2 h0
  obtain ⟨b, o, rfl, _, hc⟩ := hr hpos
  exact run_convert_bytes_back w src dst e _ c l hs he hd (fun j hj => by rw [Addr.add_lit]; exact hc j hj)
structure El (P : Program) (T e : TypeId) (z : Value) (size bytes : Nat) : Prop where
 und : P.underlying T = some (.slice e)
 info : (P.info? e).map (fun i => (i.zero, i.size, i.bytes)) = some (some z, size, bytes)
 zs : z.cells.size = size
 pos : 0 < size
theorem below_own {w w' : World} {B : Nat} {e : TypeId} {size n : Nat} {v : Value} {xs : List Value} (h : w.ownsRow B e size v n xs) (hB : B <= w.heap.size) (hg : w.grownBy w' v.ownBlock) : Below B w w' :=
 (Below.refl _ _).grown hg hB (fun k hk => (h.lt k hk).1)
theorem own_keep {w w' : World} {B : Nat} {e : TypeId} {size n : Nat} {v : Value} {xs : List Value} (h : w.ownsRow B e size v n xs) (hb : Below w.heap.size w w') : w'.ownsRow B e size v n xs :=
 ⟨h.1, h.2.elim .inl fun ⟨g, cap, cur, e1, e2, hh, r⟩ => .inr ⟨g, cap, cur, e1, e2, (hb.block g (Array.getElem?_eq_some_iff.1 hh).1).trans hh, r⟩⟩
theorem wpList_w {P : Program} {ops : Array Oper} {Q : Exit -> Act -> World -> Prop} {a : Act} {w : World} {rest : List Oper} {o : Oper} (hw : Region.wanted o (yielded ops a.tmps) = true)
  (h : ∀ K : Act -> World -> Prop, (∀ a w, wpList P ops Q rest a w -> K a w) -> o.wp P a w K Q) : wpList P ops Q (o :: rest) a w :=
 wpList_step fun K hK => by rw [if_pos hw]; exact h K hK
section
variable {P : Program} (w : World)
theorem run_app_nil (base : Nat) (t ty e : TypeId) (i : TypeInfo) (size : Nat) (ht : P.underlying t = some (.slice e)) (hi : P.info? e = some i)
  (v : Value) (n : Nat) (xs : List Value) (hown : w.ownsRow base e size v n xs) (c : Nat) : (Builtin.append_ #[t, t] ty #[v, .slice none 0 c]).run P w = .ok v w := by
 rcases hown.2 with ⟨rfl, rfl⟩ | ⟨g, cap, cur, rfl, _, _, hnc, _⟩
 ·simp [Builtin.append_, run_underlying ht, sizeOf, typeInfo, hi, Builtin.lenOf, Builtin.firstCells]
 ·simp [Builtin.append_, run_underlying ht, sizeOf, typeInfo, hi, Builtin.lenOf, Builtin.firstCells, hnc, storeCells]
end
theorem wpList_mk {P : Program} (w : World) {T e : TypeId} {z : Value} {size bytes : Nat} (el : El P T e z size bytes) {ops : Array Oper} {rest : List Oper} {o : Oper} {a : Act} {Q : Exit -> Act -> World -> Prop} (hgd : o.guard = none) (x y : Operand)
  (ho : o.op = Op.makeSlice T x y) (B : Nat) (kl kc : IntKind) (C : Int) (n : Nat) (hl : a.eval x = .int kl 0) (hc : a.eval y = .int kc C) (hC : C = (n : Int)) (hb : bytes * n <= 281474976710656) (hm : n <= maxLen) (hB : B <= w.heap.size)
  (h : ∀ v w', w'.ownsRow B e size v 0 [] -> Below B w w' -> wpList P ops Q rest (a.put o.dst v) w') : wpList P ops Q (o :: rest) a w := by
 obtain ⟨i, hi, hz, h1, h2⟩ := info_parts el.info
 refine wpList_make_own w hgd x y T ho B e i z size el.und hi hz h1 kl kc C n hl hc hC (by rw [h2]; exact hb) hm hB ?_
 intro w' hown hg
 exact h _ w' hown ((Below.refl _ _).grown hg hB (fun k hk => by cases hk))
theorem wpList_mkn {P : Program} (w : World) {T e : TypeId} {z : Value} {size bytes : Nat} (el : El P T e z size bytes) {ops : Array Oper} {rest : List Oper} {o : Oper} {a : Act} {Q : Exit -> Act -> World -> Prop} (hgd : o.guard = none) (x y : Operand)
  (ho : o.op = Op.makeSlice T x y) (B : Nat) (kl kc : IntKind) (L C : Int) (n : Nat) (hl : a.eval x = .int kl L) (hc : a.eval y = .int kc C) (hL : L = (n : Int)) (hC : C = (n : Int)) (hb : bytes * n <= 281474976710656) (hm : n <= maxLen) (hB : B <= w.heap.size)
  (h : ∀ w', w'.ownsRow B e size (.slice (some ⟨w.heap.size, 0, none⟩) n n) n (madeCells z.cells (n * size)).toList -> Below B w w' -> wpList P ops Q rest (a.put o.dst (.slice (some ⟨w.heap.size, 0, none⟩) n n)) w') : wpList P ops Q (o :: rest) a w := by
 obtain ⟨i, hi, hz, h1, h2⟩ := info_parts el.info
 refine wpList_make_full w hgd x y T ho B e i z size el.und hi hz h1 kl kc L C n hl hc hL hC (by rw [h2]; exact hb) hm hB ?_
 intro w' hown hg
 exact h w' hown ((Below.refl _ _).grown hg hB (fun k hk => by cases hk))
theorem Rd.new (w : World) (e : TypeId) (l : List UInt8) (fr : Nat × Nat) : Rd (w.alloc (.cells (cells l).toArray e fr)) (some ⟨w.heap.size, 0, none⟩) l.length l :=
 ⟨rfl, fun _ => ⟨w.heap.size, 0, rfl, by simp, fun j hj => by
  have h : (w.alloc (.cells (cells l).toArray e fr)).heap[w.heap.size]? = some (.cells (cells l).toArray e fr) := by
   show (w.heap.push _)[w.heap.size]? = _
   simp
  rw [cell_of_row _ w.heap.size (0 + j) _ e fr h]
  simpa using cells_get hj⟩⟩
theorem own_full {w : World} {B : Nat} {e : TypeId} {g k : Nat} {xs : List Value} (h : w.ownsRow B e 1 (.slice (some ⟨g, 0, none⟩) k k) k xs) : B <= g /\ k <= maxLen /\ w.heap[g]? = some (.cells xs.toArray e (0, 0)) := by
 rcases h.2 with ⟨h, _⟩ | ⟨g', cap, cur, hv, hB, hh, hn, hc, hs, ht⟩
 ·cases h
 ·injection hv with h1 h2 h3
  injection h1 with h1
  injection h1 with h1
  subst h1; subst h3
  refine ⟨hB, hc, ?_⟩
  rw [<- ht, List.take_of_length_le (by simp; omega)]
  exact hh
theorem own_of_full {w : World} {B : Nat} {e : TypeId} {g k : Nat} {xs : List Value} (hB : B <= g) (hk : k <= maxLen) (hx : xs.length = k) (h : w.heap[g]? = some (.cells xs.toArray e (0, 0))) : w.ownsRow B e 1 (.slice (some ⟨g, 0, none⟩) k k) k xs :=
 ⟨by omega, .inr ⟨g, k, xs.toArray, rfl, hB, h, Nat.le_refl _, hk, by simpa using hx, by subst hx; simp⟩⟩
theorem wpList_cpy {P : Program} {w : World} {T e : TypeId} (el : El P T e (.int .u8 0) 1 1) {ops : Array Oper} {rest : List Oper} {o : Oper} {a : Act} {Q : Exit -> Act -> World -> Prop} (hgd : o.guard = none) (x y : Operand)
  (ho : o.op = .call { callee := .builtin .copy, args := #[x, y], argTypes := #[T, T] })
  (B g k : Nat) (xs : List Value) (hs : a.eval x = .slice (some ⟨g, 0, none⟩) k k) (hown : w.ownsRow B e 1 (.slice (some ⟨g, 0, none⟩) k k) k xs)
  (A : Option Addr) (m c : Nat) (l : List UInt8) (hx : a.eval y = .slice A m c) (hr : Rd w A m l)
  (h : ∀ w', w'.ownsRow B e 1 (.slice (some ⟨g, 0, none⟩) k k) k (splice xs 0 (cells (l.take k))) -> Below B w w' -> wpList P ops Q rest (a.put o.dst (goInt (l.take k).length)) w') : wpList P ops Q (o :: rest) a w := by
 obtain ⟨i, hi, hz, h1, h2⟩ := info_parts el.info
 obtain ⟨hB, hk, hh⟩ := own_full hown
 have hxl : xs.length = k := by have := hown.1; omega
 have hl : (l.take k).length <= xs.length := by simp; omega
 have hgoal := h
 refine wpList_copy_splice hgd x y T T ho e el.und (by rw [hi]; simp [h1]) _ A k k m c hs hx g 0 xs e hh (cells (l.take k)) (by have := hr.1; show _ = min m k; simp; omega)
  (fun hpos => ⟨rfl, ?_⟩) (by simpa using hl) (cells_one _) B w (Below.refl _ _) hB ?_
 ·have hpos' : 0 < m := by have := hr.1; simp at hpos; omega
  obtain ⟨b, o, rfl, _, hc⟩ := hr.2 hpos'
  refine ⟨_, rfl, fun j v hj => hr.cells_at j v ?_⟩
  rw [cells_take, List.getElem?_take] at hj
  split at hj
  ·exact hj
  ·cases hj
 ·intro w' hH hb
  rw [cells_length]
  refine h w' (own_of_full hB hk ?_ hH.out) hb
  rw [length_splice _ _ _ (by simpa using hl)]
  exact hxl
theorem rd_of_row {w : World} {a : Option Addr} {len cap : Nat} {zs : List Int}
  (h : (a = none /\ len = 0 /\ cap = 0 /\ zs = []) \/ ∃ x, a = some x /\ len <= cap /\ cap <= maxLen /\ zs.length = cap /\ (∀ i, i < zs.length -> w.cell? (x.add i) = some (.int .u8 (zs.getD i 0))) /\ ∀ n ∈ zs, (Lit.int .u8 n).wf = true) :
  ∃ l, Rd w a len l /\ len <= cap /\ cap <= maxLen := by
 rcases h with ⟨rfl, rfl, rfl, rfl⟩ | ⟨x, rfl, hl, hm, hz, hc, hw⟩
 ·exact ⟨[], Rd.nil _ _, Nat.le_refl _, Nat.zero_le _⟩
 ·refine ⟨(zs.take len).map fun n => UInt8.ofNat n.toNat, ⟨by simp; omega, fun hpos => ?_⟩, hl, hm⟩
  have h0 := hc 0 (by omega)
  obtain ⟨b, off, spot⟩ := x
  have hspot : spot = none := by simpa [Addr.add] using World.cell?_spot h0
  subst hspot
  have hlt : ((⟨b, off, none⟩ : Addr).add 0).block < w.heap.size := World.block_lt_of_cell? w _ h0
  refine ⟨b, off, rfl, by simpa [Addr.add] using hlt, fun j hj => ?_⟩
  have hj' : j < len := by simp at hj; omega
  have h1 := hc j (by omega)
  rw [Addr.add_lit] at h1
  rw [h1]
  have hmem : zs[j]'(by omega) ∈ zs := List.getElem_mem _
  have hb := bounds_u8 (hw _ hmem)
  have e : zs.getD j 0 = zs[j]'(by omega) := by simp [List.getD, List.getElem?_eq_getElem (show j < zs.length by omega)]
  rw [e]
  simp
  omega
theorem own_empty (w : World) (B : Nat) (e : TypeId) (hB : B <= w.heap.size) : (w.alloc (.cells #[] e)).ownsRow B e 1 (.slice (some ⟨w.heap.size, 0, none⟩) 0 0) 0 [] :=
 World.ownsRow_lit w #[] 0 hB (Nat.zero_le _) rfl
end Go.Proofs.YthiknmhkdeicjaaGreatDoor
namespace Go.Proofs.YthiknmhkdeicjaaGreatDoor
open Go.RowKit
theorem intT : El Tryz.prog 34 3 (.int .i64 0) 1 8 := ⟨Tryz.underlying34, by kernel_rfl, rfl, by decide⟩
def IRd (w : World) (A : Option Addr) (n : Nat) (zs : List Int) : Prop :=
 zs.length = n /\ (0 < n -> ∃ b o, A = some ⟨b, o, none⟩ /\ b < w.heap.size /\ ∀ j (_ : j < zs.length), w.cell? ⟨b, o + j, none⟩ = some (.int .i64 (zs.getD j 0)))
theorem IRd.below {w w' : World} {A : Option Addr} {n : Nat} {zs : List Int} (h : IRd w A n zs) (hb : Below w.heap.size w w') : IRd w' A n zs :=
 ⟨h.1, fun hp => by
  obtain ⟨b, o, e, hlt, hc⟩ := h.2 hp
  exact ⟨b, o, e, Nat.lt_of_lt_of_le hlt hb.size, fun j hj => (hb.cell (p := ⟨b, o + j, none⟩) hlt).trans (hc j hj)⟩⟩
theorem IRd.of_own {w : World} {B : Nat} {v : Value} {n : Nat} {zs : List Int} (h : w.ownsRow B 3 1 v n (zs.map (Value.int .i64))) : ∃ A c, v = .slice A n c /\ IRd w A n zs := by
 have hl : zs.length = n := by have := h.1; simpa using this
 rcases h.2 with ⟨rfl, rfl⟩ | ⟨g, cap, cur, rfl, _, hh, _⟩
 ·exact ⟨none, 0, rfl, hl, fun h => absurd h (Nat.lt_irrefl 0)⟩
 ·refine ⟨_, cap, rfl, hl, fun _ => ⟨g, 0, rfl, (Array.getElem?_eq_some_iff.1 hh).1, fun j hj => ?_⟩⟩
  have := h.cells (g := g) rfl j (.int .i64 (zs.getD j 0)) (by simp [List.getD, List.getElem?_eq_getElem hj])
  rw [Addr.add_lit] at this
  exact this
end Go.Proofs.YthiknmhkdeicjaaGreatDoor
namespace Go.Proofs.YthiknmhkdeicjaaGreatDoor
open Go.RowKit
theorem heap_setCell_at {w : World} {g j : Nat} {C : Array Value} {T : TypeId} {fr : Nat × Nat} (h : w.heap[g]? = some (.cells C T fr)) (v : Value) : (w.setCell ⟨g, j, none⟩ v).heap[g]? = some (.cells (C.setIfInBounds j v) T fr) := by
 simp [World.setCell, Array.getElem?_modify, h]
end Go.Proofs.YthiknmhkdeicjaaGreatDoor
namespace Go.Proofs.YthiknmhkdeicjaaGreatDoor
open Go.RowKit Go.Maps
structure Fr (own : Nat -> Prop) (w w' : World) : Prop where
 os : w'.os = w.os
 tape : w'.tape = w.tape
 output : w'.output = w.output
 size : w.heap.size <= w'.heap.size
 block : ∀ b, b < w.heap.size -> ¬ own b -> w'.heap[b]? = w.heap[b]?
section
variable {own own' : Nat -> Prop} {a b w w' : World}
theorem Fr.refl (own : Nat -> Prop) (w : World) : Fr own w w := ⟨rfl, rfl, rfl, Nat.le_refl _, fun _ _ _ => rfl⟩
theorem Fr.trans' (h : Fr own a w) (k : Fr own' w w') (ho : ∀ x, own' x -> own x \/ a.heap.size <= x) : Fr own a w' :=
 ⟨k.os.trans h.os, k.tape.trans h.tape, k.output.trans h.output, Nat.le_trans h.size k.size, fun i hi hn =>
  (k.block i (Nat.lt_of_lt_of_le hi h.size) (fun hx => by
   rcases ho i hx with h1 | h1
   ·exact hn h1
   ·omega)).trans (h.block i hi hn)⟩
theorem Fr.trans (h : Fr own a w) (k : Fr own w w') : Fr own a w' := h.trans' k (fun _ hx => .inl hx)
theorem Fr.mono (h : Fr own w w') (ho : ∀ x, own x -> own' x) : Fr own' w w' := ⟨h.os, h.tape, h.output, h.size, fun i hi hn => h.block i hi (fun hx => hn (ho i hx))⟩
theorem Fr.ofBelow (own : Nat -> Prop) (h : Below w.heap.size w w') : Fr own w w' := ⟨h.os, h.tape, h.output, h.size, fun i hi _ => h.block i hi⟩
theorem Fr.toBelow {B : Nat} (h : Fr own w w') (ho : ∀ x, own x -> B <= x) (hB : B <= w.heap.size) : Below B w w' :=
 ⟨h.os, h.tape, h.output, h.size, fun i hi => h.block i (by omega) (fun hx => by have := ho i hx; omega)⟩
theorem Fr.grown {row : Option Nat} (hg : w.grownBy w' row) (ho : ∀ x, row = some x -> own x) : Fr own w w' :=
 ⟨hg.os, hg.tape, hg.output, hg.size, fun i hi hn => hg.block i hi (fun e => hn (ho i e.symm))⟩
theorem Fr.setCell (w : World) {p : Addr} (hp : own p.block) (u : Value) : Fr own w (w.setCell p u) :=
 ⟨rfl, rfl, rfl, by simp [World.setCell], fun i _ hn => Below.heap_setCell w p u i (fun e => hn (e ▸ hp))⟩
theorem Fr.drew (own : Nat -> Prop) (w : World) : Fr own w w.drew := ⟨rfl, rfl, rfl, Nat.le_refl _, fun _ _ _ => rfl⟩
theorem own_fr {B : Nat} {e : TypeId} {size n : Nat} {v : Value} {xs : List Value} (h : w.ownsRow B e size v n xs) (hf : Fr own w w') (hn : ∀ x, v.ownBlock = some x -> ¬ own x) : w'.ownsRow B e size v n xs :=
 ⟨h.1, h.2.elim .inl fun ⟨g, cap, cur, e1, e2, hh, r⟩ => .inr ⟨g, cap, cur, e1, e2, (hf.block g (Array.getElem?_eq_some_iff.1 hh).1 (hn g (by rw [e1]; rfl))).trans hh, r⟩⟩
end
abbrev nilv : Value := .slice none 0 0
def itself (v : Value) : Option (DataW Value × List MemPlace) := some (.held v, [])
section
variable {P : Program} {k e T : TypeId} {w w' : World} {m n : Nat} {f : Nat -> Value} {ks : Nat -> Bool}
end
section
variable {P : Program} {ops : Array Oper} {o : Oper} {a : Act} {w : World} {K : Act -> World -> Prop} {Q : Exit -> Act -> World -> Prop} {E : Prop}
theorem step_appV {T e : TypeId} {z : Value} {size bytes : Nat} (el : El P T e z size bytes) (hgd : o.guard = none) (s x : Operand)
  (ho : o.op = .call { callee := .builtin .append, args := #[s, x], argTypes := #[T, T] })
  (B : Nat) (v : Value) (n : Nat) (xs : List Value) (hs : a.eval s = v) (hown : w.ownsRow B e size v n xs)
  (ad : Addr) (m c : Nat) (news : List Value) (hx : a.eval x = .slice (some ad) m c) (hl : news.length = m * size) (hnews : ∀ j u, news[j]? = some u -> w.cell? (ad.add j) = some u) (h1 : ∀ u ∈ news, u.oneCell' = true)
  (hb : n + m <= 1000000000) (hby : bytes <= 100) (hB : B <= w.heap.size)
  (h : ∀ v' w', w'.ownsRow B e size v' (n + m) (xs ++ news) -> w.grownBy w' v.ownBlock -> (v'.ownBlock = v.ownBlock \/ v'.ownBlock = some w.heap.size) -> K (a.put o.dst v') w') :
  if Region.wanted o (yielded ops a.tmps) = true then Oper.wp P o a w K Q else E := by
 have hw : Region.wanted o (yielded ops a.tmps) = true := by simp [Region.wanted, hgd]
 rw [if_pos hw]
 obtain ⟨i, hi, hz, h2, h3⟩ := info_parts el.info
 have hbb : (n + m) * bytes <= 1000000000 * 100 := Nat.mul_le_mul hb hby
 obtain ⟨v', w', hrun, r1, r2, _, r3⟩ := run_append_own_at (P := P) w B T o.type e i z size bytes el.und hi hz h2 h3 el.zs el.pos v n xs hown ad m c news hl hnews h1 (by unfold maxLen; omega) (by omega) hB
 unfold Oper.wp execOp
 simp only [ho, resolve, invoke, builtin, Sem.run_bind, Sem.run_pure, Result.andThen_ok, List.map_toArray, List.map_cons, List.map_nil, hs, hx, hrun]
 exact h v' w' r1 r2 r3
end
end Go.Proofs.YthiknmhkdeicjaaGreatDoor
namespace Go.Proofs.YthiknmhkdeicjaaGreatDoor
open Go.RowKit
def Rec (T : TypeId) (w : World) (g : Nat) (cs : Array Value) : Prop := w.heap[g]? = some (.cells cs T (0, 0))
structure RT (P : Program) (T : TypeId) (n : Nat) : Prop where
 und : ∃ d, P.underlying T = some d /\ d.isRow = true
 info : (P.info? T).map (·.size) = some n
section
variable {P : Program} {T : TypeId} {w w' : World} {g : Nat} {cs : Array Value} {n : Nat}
theorem Rec.lt (h : Rec T w g cs) : g < w.heap.size := (Array.getElem?_eq_some_iff.1 h).1
theorem Rec.at_ (h : Rec T w g cs) (i : Nat) : w.cell? ⟨g, i, none⟩ = cs[i]? := cell_of_row _ _ _ _ _ _ h
theorem Rec.fz (h : Rec T w g cs) (i : Nat) : w.frozen? ⟨g, i, none⟩ = false := frozen_of_row w g i _ _ h
theorem Rec.block (h : Rec T w g cs) (hb : w'.heap[g]? = w.heap[g]?) : Rec T w' g cs := hb.trans h
theorem Rec.below {B : Nat} (h : Rec T w g cs) (hb : Below B w w') (hB : g < B) : Rec T w' g cs := (hb.block g hB).trans h
theorem Rec.under (h : Rec T w g cs) (hb : Below w.heap.size w w') : Rec T w' g cs := h.below hb h.lt
theorem Rec.fr {own : Nat -> Prop} (h : Rec T w g cs) (hf : Fr own w w') (hn : ¬ own g) : Rec T w' g cs := (hf.block g h.lt hn).trans h
theorem Rec.new (w : World) (T : TypeId) (cs : Array Value) : Rec T (w.alloc (.cells cs T)) w.heap.size cs := heap_alloc_last w _
theorem Rec.set (h : Rec T w g cs) (i : Nat) (v : Value) : Rec T (w.setCell ⟨g, i, none⟩ v) g (cs.setIfInBounds i v) := heap_setCell_at h v
theorem Rec.load (h : Rec T w g cs) (rt : RT P T n) (hn : cs.size = n) : (loadVar T ⟨g, 0, none⟩).run P w = .ok (.agg cs) w := by
 obtain ⟨d, hd, hr⟩ := rt.und
 have := run_loadVar_mid (P := P) w g 0 T cs.toList d (fun j v hj => by rw [Nat.zero_add, h.at_ j, <- hj]; simp) hd hr (by rw [rt.info, <- hn]; simp)
 simpa using this
theorem Rec.loadAt (h : Rec T w g cs) (rt : RT P T n) (hn : cs.size = n) : (Instr.loadAt T (.pointer (some ⟨g, 0, none⟩))).run P w = .ok (.agg cs) w := by
 simp only [Instr.loadAt, Instr.sureAddr, Sem.run_bind, Sem.run_pure, Result.andThen_ok, h.load rt hn]
theorem Rec.store (h : Rec T w g cs) (rt : RT P T n) (hn : cs.size = n) (cs' : Array Value) (hs : cs'.size = n) (h1 : cs'.all (·.oneCell') = true) :
  ∃ w', (Instr.storeAt T (.pointer (some ⟨g, 0, none⟩)) (.agg cs')).run P w = .ok () w' /\ Rec T w' g cs' /\ Fr (· = g) w w' := by
 refine ⟨w.setRow g cs', ?_, setRow_heap w g _ _ _ _ h, ⟨rfl, rfl, rfl, by simp [World.setRow], fun k _ hk => setRow_other w g k _ hk⟩⟩
 simp only [Instr.storeAt, Instr.sureAddr, Sem.run_bind, Sem.run_pure, Result.andThen_ok]
 exact run_storeVar_row w g T T _ _ h (by rw [hs]; exact rt.info) (hn.trans hs.symm) h1
variable {ops : Array Oper} {rest : List Oper} {o : Oper} {a : Act} {Q : Exit -> Act -> World -> Prop}
theorem wpList_ldS (rt : RT P T n) (hn : cs.size = n) (hgd : Region.wanted o (yielded ops a.tmps) = true) (x : Operand) (ho : o.op = .load T x)
  (hx : a.eval x = .pointer (some ⟨g, 0, none⟩)) (h : Rec T w g cs) (kk : wpList P ops Q rest (a.put o.dst (.agg cs)) w) : wpList P ops Q (o :: rest) a w :=
 wpList_w hgd fun _ hK => by
  unfold Oper.wp execOp
  simp only [ho, hx, h.loadAt rt hn, Sem.run_bind, Sem.run_pure, Result.andThen_ok]
  exact hK _ _ kk
theorem wpList_stS {cs' : Array Value} (rt : RT P T n) (hn : cs.size = n) (hs : cs'.size = n) (h1 : cs'.all (·.oneCell') = true) (hgd : Region.wanted o (yielded ops a.tmps) = true) (x y : Operand) (ho : o.op = .store T x y)
  (hx : a.eval x = .pointer (some ⟨g, 0, none⟩)) (hy : a.eval y = .agg cs') (h : Rec T w g cs)
  (kk : ∀ w', Rec T w' g cs' -> Fr (· = g) w w' -> wpList P ops Q rest (a.put o.dst undef) w') : wpList P ops Q (o :: rest) a w :=
 wpList_w hgd fun _ hK => by
  obtain ⟨w', hrun, r1, r2⟩ := h.store rt hn cs' hs h1
  unfold Oper.wp execOp
  simp only [ho, hx, hy, hrun, Sem.run_bind, Sem.run_pure, Result.andThen_ok]
  exact hK _ _ (kk w' r1 r2)
theorem step_stS {J : Act -> World -> Prop} {E : Prop} {cs' : Array Value} (rt : RT P T n) (hn : cs.size = n) (hs : cs'.size = n) (h1 : cs'.all (·.oneCell') = true) (hgd : o.guard = none) (x y : Operand) (ho : o.op = .store T x y)
  (hx : a.eval x = .pointer (some ⟨g, 0, none⟩)) (hy : a.eval y = .agg cs') (h : Rec T w g cs)
  (kk : ∀ w', Rec T w' g cs' -> Fr (· = g) w w' -> J (a.put o.dst undef) w') : if Region.wanted o (yielded ops a.tmps) = true then Oper.wp P o a w J Q else E := by
 have hw : Region.wanted o (yielded ops a.tmps) = true := by simp [Region.wanted, hgd]
 rw [if_pos hw]
 obtain ⟨w', hrun, r1, r2⟩ := h.store rt hn cs' hs h1
 unfold Oper.wp execOp
 simp only [ho, hx, hy, hrun, Sem.run_bind, Sem.run_pure, Result.andThen_ok]
 exact kk w' r1 r2
variable {fn : Func} {p q u v : Tmp} {T' : TypeId} {tmps : Array Value} {ad ad' : Addr} {x y : Value}
theorem res_c (h : fn.results = #[.cell p T]) (hp : tmps.getD p undef = .pointer (some ad)) (hl : (loadVar T ad).run P w = .ok x w) : (results fn tmps).run P w = .ok x w := by
 rw [Array.getD_eq_getD_getElem?] at hp
 simp only [results, h]
 simp [hp, asAddr, hl]
theorem res_ct (h : fn.results = #[.cell p T, .tmp u]) (hp : tmps.getD p undef = .pointer (some ad)) (hl : (loadVar T ad).run P w = .ok x w) : (results fn tmps).run P w = .ok (.tuple #[x, tmps.getD u undef]) w := by
 rw [Array.getD_eq_getD_getElem?] at hp
 rw [results_cell_tmp h]
 simp [hp, asAddr, hl, Result.andThen]
theorem res_cct (h : fn.results = #[.cell p T, .cell q T', .tmp u]) (hp : tmps.getD p undef = .pointer (some ad)) (hl : (loadVar T ad).run P w = .ok x w) (hq : tmps.getD q undef = .pointer (some ad')) (hl' : (loadVar T' ad').run P w = .ok y w) :
  (results fn tmps).run P w = .ok (.tuple #[x, y, tmps.getD u undef]) w := by
 rw [Array.getD_eq_getD_getElem?] at hp hq
 simp only [results, h]
 simp [Sem.run_bind, Result.andThen, hp, hq, asAddr, hl, hl']
end
end Go.Proofs.YthiknmhkdeicjaaGreatDoor
namespace Go.Proofs.YthiknmhkdeicjaaGreatDoor
structure NS where
 E : Nat
 L : Int
 g : List Int
 fr : List Int
def NS.live (s : NS) (k : Int) : Bool := decide (0 <= k /\ k < s.g.length /\ k ∉ s.fr /\ s.g.getD k.toNat 0 < s.L)
def NS.at_ (s : NS) (k : Int) : (Int × Int) × Bool := if s.live k = true then ((k, s.g.getD k.toNat 0), true) else ((0, 0), false)
def NS.alive (s : NS) (i gen : Int) : Bool := s.live i && decide (s.g.getD i.toNat 0 = gen)
def NS.liveL (s : NS) : List Bool := (List.range s.g.length).map fun (i : Nat) => s.live i
def NS.cnt (s : NS) (n : Nat) : Nat := ((List.range n).filter fun (i : Nat) => s.live i).length
structure NS.Ok (s : NS) : Prop where
 E1 : 1 <= s.E
 E2 : s.E <= 1024
 L1 : 1 <= s.L
 L2 : s.L <= 1073741824
 len : s.g.length <= s.E
 gz : ∀ x ∈ s.g, 0 <= x /\ x <= s.L
 fz : ∀ k ∈ s.fr, 0 <= k /\ k < s.g.length /\ 1 <= s.g.getD k.toNat 0 /\ s.g.getD k.toNat 0 < s.L
 nd : s.fr.Nodup
def nears (n : Int) (high : Int) : Int := min (max n 1) high
def NS.new (entities gens : Int) : NS := ⟨(nears entities 1024).toNat, nears gens 1073741824, [], []⟩
def NS.take (s : NS) : NS × (Int × Int) × Int :=
 if s.fr = [] then
  if s.g.length = s.E then (s, (0, 0), 9) else ({ s with g := s.g ++ [0] }, (s.g.length, 0), 0)
 else ({ s with fr := s.fr.dropLast }, (s.fr.getLastD 0, s.g.getD (s.fr.getLastD 0).toNat 0), 0)
def NS.give (s : NS) (i gen : Int) : NS × Int :=
 if s.alive i gen = true then ({ s with g := s.g.set i.toNat (gen + 1), fr := if gen + 1 < s.L then s.fr ++ [i] else s.fr }, 0) else (s, 5)
theorem nears_bounds (n high : Int) (h : 1 <= high) : 1 <= nears n high /\ nears n high <= high := by unfold nears; omega
section
variable {s : NS}
theorem NS.live_iff {k : Int} : s.live k = true ↔ 0 <= k /\ k < s.g.length /\ k ∉ s.fr /\ s.g.getD k.toNat 0 < s.L := by simp [NS.live]
theorem NS.liveL_len (s : NS) : s.liveL.length = s.g.length := by simp [NS.liveL]
theorem NS.liveL_get (s : NS) {j : Nat} (h : j < s.liveL.length) : s.liveL[j] = s.live j := by simp [NS.liveL]
theorem NS.Ok.gD (h : s.Ok) (j : Nat) : 0 <= s.g.getD j 0 /\ s.g.getD j 0 <= s.L := by
 by_cases hj : j < s.g.length
 ·have := h.gz (s.g[j]) (List.getElem_mem hj)
  simpa [List.getD, List.getElem?_eq_getElem hj] using this
 ·have := h.L1
  simp [List.getD, List.getElem?_eq_none (Nat.not_lt.1 hj)]
  omega
theorem NS.new_ok (entities gens : Int) : (NS.new entities gens).Ok := by
 have h1 := nears_bounds entities 1024 (by decide)
 have h2 := nears_bounds gens 1073741824 (by decide)
 refine ⟨?_, ?_, h2.1, h2.2, ?_, fun x hx => absurd hx List.not_mem_nil, fun x hx => absurd hx List.not_mem_nil, List.nodup_nil⟩
 ·show 1 <= (nears entities 1024).toNat; omega
 ·show (nears entities 1024).toNat <= 1024; omega
 ·show (0 : Nat) <= _; exact Nat.zero_le _
theorem NS.cnt_succ (s : NS) (n : Nat) : s.cnt (n + 1) = s.cnt n + (if s.live n = true then 1 else 0) := by
 unfold NS.cnt
 rw [List.range_succ, List.filter_append, List.length_append]
 by_cases h : s.live n = true <;> simp [h]
theorem NS.cnt_le (s : NS) (n : Nat) : s.cnt n <= n := by
 unfold NS.cnt
 have := List.length_filter_le (fun (i : Nat) => s.live i) (List.range n)
 rw [List.length_range] at this
 exact this
theorem NS.fr_last (h : s.fr ≠ []) : s.fr = s.fr.dropLast ++ [s.fr.getLastD 0] := by
 have := (List.dropLast_concat_getLast h).symm
 rw [List.getLastD_eq_getLast?, List.getLast?_eq_some_getLast h]
 exact this
theorem NS.last_mem (h : s.fr ≠ []) : s.fr.getLastD 0 ∈ s.fr := by
 rw [List.getLastD_eq_getLast?, List.getLast?_eq_some_getLast h]
 exact List.getLast_mem h
theorem NS.take_free (h : s.fr ≠ []) : s.take = ({ s with fr := s.fr.dropLast }, (s.fr.getLastD 0, s.g.getD (s.fr.getLastD 0).toNat 0), 0) := by unfold NS.take; rw [if_neg h]
theorem NS.take_full (h : s.fr = []) (hf : s.g.length = s.E) : s.take = (s, (0, 0), 9) := by unfold NS.take; rw [if_pos h, if_pos hf]
theorem NS.take_next (h : s.fr = []) (hf : s.g.length ≠ s.E) : s.take = ({ s with g := s.g ++ [0] }, ((s.g.length : Int), 0), 0) := by unfold NS.take; rw [if_pos h, if_neg hf]
theorem NS.take_ok (h : s.Ok) : s.take.1.Ok := by
 by_cases hf : s.fr = []
 ·by_cases he : s.g.length = s.E
  ·rw [NS.take_full hf he]; exact h
  ·rw [NS.take_next hf he]
   have hl := h.len
   have hL1 := h.L1
   refine ⟨h.E1, h.E2, h.L1, h.L2, ?_, ?_, ?_, ?_⟩
   ·simp only [List.length_append, List.length_singleton]; omega
   ·intro x hx
    rcases List.mem_append.1 hx with hx | hx
    ·exact h.gz x hx
    ·rw [List.mem_singleton.1 hx]; exact ⟨by decide, by show (0 : Int) <= s.L; omega⟩
   ·intro k hk; rw [show ({ s with g := s.g ++ [0] } : NS).fr = s.fr from rfl, hf] at hk; exact absurd hk List.not_mem_nil
   ·exact h.nd
 ·rw [NS.take_free hf]
  refine ⟨h.E1, h.E2, h.L1, h.L2, h.len, h.gz, ?_, ?_⟩
  ·intro k hk
   exact h.fz k (List.dropLast_subset _ hk)
  ·exact h.nd.sublist (List.dropLast_sublist _)
theorem NS.liveL_free (h : s.Ok) (hf : s.fr ≠ []) : s.take.1.liveL = s.liveL.set (s.fr.getLastD 0).toNat true := by
 rw [NS.take_free hf]
 obtain ⟨k0, k1, k2, k3⟩ := h.fz _ (NS.last_mem hf)
 have e := NS.fr_last hf
 have nd := h.nd
 rw [e] at nd
 obtain ⟨k, hk⟩ : ∃ k, k = s.fr.getLastD 0 := ⟨_, rfl⟩
 obtain ⟨f, hf'⟩ : ∃ f, f = s.fr.dropLast := ⟨_, rfl⟩
 rw [<- hk] at k0 k1 k2 k3 e nd ⊢
 rw [<- hf'] at e nd ⊢
 have hkf : k ∉ f := fun hm => (List.nodup_append.1 nd).2.2 k hm k (List.mem_singleton.2 rfl) rfl
 apply List.ext_getElem
 ·simp [NS.liveL]
 ·intro j h1 h2
  have hj : j < s.g.length := by simpa [NS.liveL] using h1
  rw [NS.liveL_get, List.getElem_set]
  by_cases hjk : k.toNat = j
  ·rw [if_pos hjk]
   refine NS.live_iff.2 ⟨Int.natCast_nonneg _, Int.ofNat_lt.2 hj, ?_, ?_⟩
   ·rw [show (j : Int) = k by omega]; exact hkf
   ·show s.g.getD (j : Int).toNat 0 < s.L
    rw [show (j : Int).toNat = k.toNat by omega]; exact k3
  ·rw [if_neg hjk, NS.liveL_get]
   unfold NS.live
   apply decide_eq_decide.2
   have : (j : Int) ≠ k := by omega
   simp only
   rw [e]
   simp [this]
def NS.push (s : NS) (gen : Int) : NS := { s with g := s.g ++ [gen] }
theorem NS.push_ok (h : s.Ok) {gen : Int} (hl : s.g.length < s.E) (hg : 0 <= gen /\ gen <= s.L) : (s.push gen).Ok := by
 refine ⟨h.E1, h.E2, h.L1, h.L2, ?_, ?_, ?_, h.nd⟩
 ·show (s.g ++ [gen]).length <= s.E; simp; omega
 ·intro x hx
  rcases List.mem_append.1 hx with hx | hx
  ·exact h.gz x hx
  ·rw [List.mem_singleton.1 hx]; exact hg
 ·intro k hk
  obtain ⟨k0, k1, k2, k3⟩ := h.fz k hk
  have e : (s.g ++ [gen]).getD k.toNat 0 = s.g.getD k.toNat 0 := by
   rw [List.getD_eq_getElem?_getD, List.getElem?_append_left (by omega), <- List.getD_eq_getElem?_getD]
  show 0 <= k /\ k < ((s.g ++ [gen]).length : Nat) /\ 1 <= (s.g ++ [gen]).getD k.toNat 0 /\ (s.g ++ [gen]).getD k.toNat 0 < s.L
  rw [e]
  refine ⟨k0, ?_, k2, k3⟩
  simp
  omega
theorem NS.liveL_push (h : s.Ok) (gen : Int) : (s.push gen).liveL = s.liveL ++ [decide (gen < s.L)] := by
 apply List.ext_getElem
 ·simp [NS.liveL, NS.push]
 ·intro j h1 h2
  rw [NS.liveL_get]
  have hj : j < s.g.length + 1 := by simpa [NS.liveL, NS.push] using h1
  by_cases hjl : j < s.g.length
  ·rw [List.getElem_append_left (by simpa [NS.liveL] using hjl), NS.liveL_get]
   unfold NS.live NS.push
   apply decide_eq_decide.2
   simp only [Int.toNat_natCast]
   rw [List.getD_eq_getElem?_getD, List.getElem?_append_left hjl, <- List.getD_eq_getElem?_getD]
   simp
   omega
  ·obtain rfl : j = s.g.length := by omega
   rw [List.getElem_append_right (by simp [NS.liveL])]
   simp only [NS.liveL_len, Nat.sub_self, List.getElem_cons_zero]
   unfold NS.live NS.push
   apply decide_eq_decide.2
   have hm : (s.g.length : Int) ∉ s.fr := fun e => by have := h.fz _ e; omega
   simp only [Int.toNat_natCast]
   rw [List.getD_eq_getElem?_getD, List.getElem?_append_right (Nat.le_refl _)]
   simp [hm]
   omega
theorem NS.take_push (hf : s.fr = []) (he : s.g.length ≠ s.E) : s.take = (s.push 0, ((s.g.length : Int), 0), 0) := NS.take_next hf he
theorem NS.give_no {i gen : Int} (h : s.alive i gen = false) : s.give i gen = (s, 5) := by unfold NS.give; rw [if_neg (by simp [h])]
theorem NS.give_yes {i gen : Int} (h : s.alive i gen = true) : s.give i gen = ({ s with g := s.g.set i.toNat (gen + 1), fr := if gen + 1 < s.L then s.fr ++ [i] else s.fr }, 0) := by unfold NS.give; rw [if_pos h]
theorem NS.alive_iff {i gen : Int} : s.alive i gen = true ↔ (0 <= i /\ i < s.g.length /\ i ∉ s.fr /\ s.g.getD i.toNat 0 < s.L) /\ s.g.getD i.toNat 0 = gen := by simp [NS.alive, NS.live_iff]
theorem getD_set {l : List Int} {j k : Nat} {v : Int} : (l.set j v).getD k 0 = if j = k /\ k < l.length then v else l.getD k 0 := by
 rw [List.getD_eq_getElem?_getD, List.getD_eq_getElem?_getD, List.getElem?_set]
 by_cases h : j = k
 ·subst h
  by_cases h2 : j < l.length
  ·simp [h2]
  ·simp [h2]
 ·simp [h]
theorem NS.give_ok (h : s.Ok) (i gen : Int) : (s.give i gen).1.Ok := by
 by_cases ha : s.alive i gen = true
 ·rw [NS.give_yes ha]
  obtain ⟨⟨h0, h1, h2, h3⟩, h4⟩ := NS.alive_iff.1 ha
  have hg := h.gD i.toNat
  rw [h4] at hg h3
  refine ⟨h.E1, h.E2, h.L1, h.L2, by simpa using h.len, ?_, ?_, ?_⟩
  ·intro x hx
   rcases List.mem_or_eq_of_mem_set hx with hx | hx
   ·exact h.gz x hx
   ·rw [hx]; exact ⟨by omega, by show gen + 1 <= s.L; omega⟩
  ·intro k hk
   have hk' : k ∈ s.fr \/ (k = i /\ gen + 1 < s.L) := by
    by_cases hl : gen + 1 < s.L
    ·simp only [if_pos hl] at hk
     rcases List.mem_append.1 hk with hk | hk
     ·exact .inl hk
     ·exact .inr ⟨List.mem_singleton.1 hk, hl⟩
    ·simp only [if_neg hl] at hk
     exact .inl hk
   simp only [List.length_set, getD_set]
   rcases hk' with hk' | ⟨rfl, hl⟩
   ·have := h.fz k hk'
    have hne : ¬ (i.toNat = k.toNat /\ k.toNat < s.g.length) := fun e => h2 (by rw [show i = k by omega]; exact hk')
    rw [if_neg hne]
    exact this
   ·rw [if_pos ⟨rfl, by omega⟩]
    exact ⟨h0, h1, by omega, hl⟩
  ·by_cases hl : gen + 1 < s.L
   ·simp only [if_pos hl]
    refine List.nodup_append.2 ⟨h.nd, by simp, fun a ha b hb e => ?_⟩
    rw [List.mem_singleton.1 hb] at e
    exact h2 (e ▸ ha)
   ·simp only [if_neg hl]
    exact h.nd
 ·rw [NS.give_no (by simpa using ha)]; exact h
theorem NS.liveL_give {i gen : Int} (ha : s.alive i gen = true) : (s.give i gen).1.liveL = s.liveL.set i.toNat false := by
 rw [NS.give_yes ha]
 obtain ⟨⟨h0, h1, h2, h3⟩, h4⟩ := NS.alive_iff.1 ha
 apply List.ext_getElem
 ·simp [NS.liveL]
 ·intro j p1 p2
  have hj : j < s.g.length := by simpa [NS.liveL] using p1
  rw [NS.liveL_get, List.getElem_set]
  by_cases hij : i.toNat = j
  ·rw [if_pos hij]
   apply Bool.eq_false_iff.2
   intro hl
   obtain ⟨_, _, l3, l4⟩ := NS.live_iff.1 hl
   have e : (j : Int) = i := by omega
   rw [e] at l3 l4
   simp only [getD_set] at l4
   rw [if_pos ⟨trivial, by omega⟩] at l4
   simp only [if_pos l4] at l3
   exact l3 (List.mem_append.2 (.inr (List.mem_singleton.2 rfl)))
  ·rw [if_neg hij, NS.liveL_get]
   unfold NS.live
   apply decide_eq_decide.2
   simp only [List.length_set, getD_set, Int.toNat_natCast]
   have hne : (j : Int) ≠ i := by omega
   have hnn : ¬ (i.toNat = j /\ j < s.g.length) := fun e => hij e.1
   simp only [if_neg hnn]
   have hm : (j : Int) ∈ (if gen + 1 < s.L then s.fr ++ [i] else s.fr) ↔ (j : Int) ∈ s.fr := by
    by_cases hl : gen + 1 < s.L
    ·rw [if_pos hl]; simp [hne]
    ·rw [if_neg hl]
   rw [hm]
end
end Go.Proofs.YthiknmhkdeicjaaGreatDoor
namespace Go.Proofs.YthiknmhkdeicjaaGreatDoor
set_option maxRecDepth 20000
open Go.RowKit
theorem boolT : El Tryz.prog 165 4 (.bool false) 1 1 := ⟨Tryz.underlying165, by kernel_rfl, rfl, by decide⟩
theorem idT : RT Tryz.prog 39 2 := ⟨⟨_, Tryz.underlying39, rfl⟩, by kernel_rfl⟩
section
variable {ops : Array Oper} {rest : List Oper} {o : Oper} {a : Act} {w : World} {Q : Exit -> Act -> World -> Prop} {g : Nat} {x0 y0 x1 y1 : Int}
theorem wpList_ldP (hgd : Region.wanted o (yielded ops a.tmps) = true) (x : Operand) (ho : o.op = .load 39 x)
  (hx : a.eval x = .pointer (some ⟨g, 0, none⟩)) (h : Rec 39 w g #[.int .i64 x0, .int .i64 y0]) (kk : wpList Tryz.prog ops Q rest (a.put o.dst (.agg #[.int .i64 x0, .int .i64 y0])) w) : wpList Tryz.prog ops Q (o :: rest) a w :=
 wpList_ldS idT rfl hgd x ho hx h kk
theorem wpList_stP (hgd : Region.wanted o (yielded ops a.tmps) = true) (x y : Operand) (ho : o.op = .store 39 x y)
  (hx : a.eval x = .pointer (some ⟨g, 0, none⟩)) (hy : a.eval y = .agg #[.int .i64 x1, .int .i64 y1]) (h : Rec 39 w g #[.int .i64 x0, .int .i64 y0])
  (kk : ∀ w', Rec 39 w' g #[.int .i64 x1, .int .i64 y1] -> Fr (· = g) w w' -> wpList Tryz.prog ops Q rest (a.put o.dst undef) w') : wpList Tryz.prog ops Q (o :: rest) a w :=
 wpList_stS idT rfl rfl (by simp [Value.oneCell']) hgd x y ho hx hy h kk
end
theorem pigeon : ∀ (n : Nat) (l : List Int), l.Nodup -> (∀ k ∈ l, 0 <= k /\ k < n) -> l.length <= n
 | 0, l, _, h => by
  cases l with
  | nil => exact Nat.le_refl _
  | cons a l => have := h a List.mem_cons_self; omega
 | n + 1, l, nd, h => by
  by_cases hm : (n : Int) ∈ l
  ·have h1 := pigeon n (l.erase (n : Int)) (nd.erase _) (fun k hk => by
    obtain ⟨hne, hk'⟩ := nd.mem_erase_iff.1 hk
    have := h k hk'
    omega)
   rw [List.length_erase_of_mem hm] at h1
   omega
  ·have h1 := pigeon n l nd (fun k hk => by
    have := h k hk
    have : k ≠ (n : Int) := fun e => hm (e ▸ hk)
    omega)
   omega
theorem NS.Ok.few {s : NS} (h : s.Ok) : s.fr.length <= 1024 := by
 have := pigeon s.g.length s.fr h.nd (fun k hk => ⟨(h.fz k hk).1, (h.fz k hk).2.1⟩)
 have := h.len
 have := h.E2
 omega
structure IAt (w : World) (own : Nat -> Prop) (p : Nat) (gv av fv : Value) (s : NS) : Prop where
 blk : w.heap[p]? = some (.cells #[.int .i64 s.E, .int .i64 s.L, gv, av, fv] 167 (0, 0))
 gens : w.ownsRow 0 3 1 gv s.g.length (s.g.map (Value.int .i64))
 ali : w.ownsRow 0 4 1 av s.g.length (s.liveL.map Value.bool)
 free : w.ownsRow 0 3 1 fv s.fr.length (s.fr.map (Value.int .i64))
 apart : ∀ x, gv.ownBlock = some x -> fv.ownBlock ≠ some x
 ownp : own p
 owng : ∀ x, gv.ownBlock = some x -> own x
 owna : ∀ x, av.ownBlock = some x -> own x
 ownf : ∀ x, fv.ownBlock = some x -> own x
 ok : s.Ok
theorem own_tagI {w : World} {B e n : Nat} {v : Value} {xs : List Value} (h : w.ownsRow B e 1 v n xs) {x : Nat} (hx : v.ownBlock = some x) : ∃ C, w.heap[x]? = some (.cells C e (0, 0)) := by
 rcases h.2 with ⟨rfl, _⟩ | ⟨g, cap, cur, rfl, _, hh, _⟩
 ·cases hx
 ·simp [Value.ownBlock] at hx
  subst hx
  exact ⟨_, hh⟩
theorem own_open {w : World} {B e n : Nat} {v : Value} {xs : List Value} (h : w.ownsRow B e 1 v n xs) :
  ∃ A c, v = .slice A n c /\ n <= c /\ c <= maxLen /\ (0 < n -> ∃ g, A = some ⟨g, 0, none⟩ /\ g < w.heap.size /\ (∀ j, j < n -> w.cell? ⟨g, j, none⟩ = xs[j]?) /\ (∀ j, w.frozen? ⟨g, j, none⟩ = false)) := by
 have h' := h
 rcases h.2 with ⟨hv, h0⟩ | ⟨g, cap, cur, rfl, _, hh, hn, hc, _, _⟩
 ·exact ⟨none, 0, by rw [hv, h0], by omega, by unfold maxLen; omega, fun hp => by omega⟩
 ·exact ⟨_, cap, rfl, hn, hc, fun _ => ⟨g, rfl, (Array.getElem?_eq_some_iff.1 hh).1, fun j hj => h'.cellAt j (by omega), fun j => h'.frozenAt j⟩⟩
section
variable {w w' : World} {own own' : Nat -> Prop} {p : Nat} {gv av fv : Value} {s : NS}
theorem IAt.lt (h : IAt w own p gv av fv s) : p < w.heap.size := (Array.getElem?_eq_some_iff.1 h.blk).1
theorem IAt.cell (h : IAt w own p gv av fv s) (i : Nat) : w.cell? ⟨p, i, none⟩ = (#[.int .i64 s.E, .int .i64 s.L, gv, av, fv] : Array Value)[i]? := cell_of_row _ _ _ _ _ _ h.blk
theorem IAt.c0 (h : IAt w own p gv av fv s) : w.cell? ⟨p, 0, none⟩ = some (.int .i64 s.E) := h.cell 0
theorem IAt.c2 (h : IAt w own p gv av fv s) : w.cell? ⟨p, 2, none⟩ = some gv := h.cell 2
theorem IAt.c3 (h : IAt w own p gv av fv s) : w.cell? ⟨p, 3, none⟩ = some av := h.cell 3
theorem IAt.c4 (h : IAt w own p gv av fv s) : w.cell? ⟨p, 4, none⟩ = some fv := h.cell 4
theorem IAt.fz (h : IAt w own p gv av fv s) (i : Nat) : w.frozen? ⟨p, i, none⟩ = false := frozen_of_row w p i _ _ h.blk
theorem IAt.kept (h : IAt w own p gv av fv s) (hf : Fr own' w w') (hd : ∀ x, own x -> ¬ own' x) : IAt w' own p gv av fv s where
 blk := (hf.block p h.lt (hd p h.ownp)).trans h.blk
 gens := own_fr h.gens hf (fun x hx => hd x (h.owng x hx))
 ali := own_fr h.ali hf (fun x hx => hd x (h.owna x hx))
 free := own_fr h.free hf (fun x hx => hd x (h.ownf x hx))
 apart := h.apart
 ownp := h.ownp
 owng := h.owng
 owna := h.owna
 ownf := h.ownf
 ok := h.ok
theorem IAt.below (h : IAt w own p gv av fv s) (hb : Below w.heap.size w w') : IAt w' own p gv av fv s := h.kept (own' := fun _ => False) (Fr.ofBelow _ hb) (fun _ _ hx => hx)
theorem IAt.mono (h : IAt w own p gv av fv s) (hk : ∀ x, own x -> own' x) : IAt w own' p gv av fv s := { h with ownp := hk _ h.ownp, owng := fun x hx => hk x (h.owng x hx), owna := fun x hx => hk x (h.owna x hx), ownf := fun x hx => hk x (h.ownf x hx) }
end
theorem inear_any (n lo hi : Int) (w : World) : Calls Tryz.prog 89 #[.int .i64 n, .int .i64 lo, .int .i64 hi] w fun e w' => e = .returned (.int .i64 (min (max n lo) hi)) /\ w = w' := by
 go_enter Tryz.func89, Tryz.ntmps89
 go_wp2
 all_goals go_ret
 all_goals exact ⟨ret_int (by omega), rfl⟩
theorem INew_any (entities gens : Int) (w : World) :
  Calls Tryz.prog 34 #[.int .i64 entities, .int .i64 gens] w fun e w' => e = .returned (.pointer (some ⟨w.heap.size, 0, none⟩)) /\ Below w.heap.size w w' /\ w.heap.size < w'.heap.size /\ IAt w' (· = w.heap.size) w.heap.size nilv nilv nilv (NS.new entities gens) := by
 have h1 := nears_bounds entities 1024 (by decide)
 have hE : (((NS.new entities gens).E : Nat) : Int) = min (max entities 1) 1024 := by
  show ((nears entities 1024).toNat : Int) = _
  unfold nears at h1 ⊢
  omega
 have hL : (NS.new entities gens).L = min (max gens 1) 1073741824 := rfl
 clear h1
 go_enter Tryz.func34, Tryz.ntmps34
 go_wp2_with (go_at_call 89; refine (inear_any _ _ _ _).mono ?_; rintro e w' ⟨rfl, rfl⟩)
 go_ret
 refine ⟨rfl, (Below.refl _ _).alloc (Nat.le_refl _) _, by simp, ?_⟩
 exact {
  blk := by rw [hE, hL]; exact heap_alloc_new w _
  gens := World.ownsRow_nil _ _ _ _
  ali := World.ownsRow_nil _ _ _ _
  free := World.ownsRow_nil _ _ _ _
  apart := fun x hx => by cases hx
  ownp := rfl
  owng := fun x hx => by cases hx
  owna := fun x hx => by cases hx
  ownf := fun x hx => by cases hx
  ok := NS.new_ok entities gens }
section
variable {w : World} {own : Nat -> Prop} {p : Nat} {gv av fv : Value} {s : NS}
theorem lives_any (h : IAt w own p gv av fv s) (k : Int) :
  Calls Tryz.prog 101 #[.pointer (some ⟨p, 0, none⟩), .int .i64 k] w fun e w' => e = .returned (.bool (s.live k)) /\ w = w' := by
 obtain ⟨A, c, rfl, hc, hm, hr⟩ := own_open h.ali
 have c3 := h.c3
 by_cases hk0 : 0 <= k
 ·by_cases hk1 : k < s.g.length
  ·obtain ⟨j, rfl⟩ : ∃ j : Nat, k = (j : Int) := ⟨k.toNat, by omega⟩
   have hj : j < s.g.length := by omega
   obtain ⟨g, rfl, hg, hcell, _⟩ := hr (by omega)
   have c := hcell j hj
   have hjl : j < s.liveL.length := by rw [s.liveL_len]; exact hj
   rw [List.getElem?_map, List.getElem?_eq_getElem hjl, s.liveL_get] at c
   simp only [Option.map_some] at c
   obtain ⟨b, hb⟩ : ∃ b, b = s.live j := ⟨_, rfl⟩
   rw [<- hb] at c ⊢
   clear hb hr hcell h
   go_enter Tryz.func101, Tryz.ntmps101
   go_wp2
   go_ret
   exact ⟨rfl, rfl⟩
  ·have hl : s.live k = false := Bool.eq_false_iff.2 fun e => hk1 (NS.live_iff.1 e).2.1
   rw [hl]
   clear hl hr h
   go_enter Tryz.func101, Tryz.ntmps101
   go_wp2
   go_ret
   exact ⟨rfl, rfl⟩
 ·have hl : s.live k = false := Bool.eq_false_iff.2 fun e => hk0 (NS.live_iff.1 e).1
  rw [hl]
  clear hl hr h
  go_enter Tryz.func101, Tryz.ntmps101
  go_wp2
  go_ret
  exact ⟨rfl, rfl⟩
theorem id_any (h : IAt w own p gv av fv s) (j : Nat) (hj : j < s.g.length) :
  Calls Tryz.prog 129 #[.pointer (some ⟨p, 0, none⟩), .int .i64 j] w fun e w' => e = .returned (.agg #[.int .i64 j, .int .i64 (s.g.getD j 0)]) /\ Below w.heap.size w w' := by
 obtain ⟨A, c, rfl, hc, hm, hr⟩ := own_open h.gens
 have c2 := h.c2
 obtain ⟨g, rfl, hg, hcell, _⟩ := hr (by omega)
 have c := hcell j hj
 rw [List.getElem?_map, List.getElem?_eq_getElem hj] at c
 simp only [Option.map_some] at c
 have hz : s.g.getD j 0 = s.g[j] := by simp [List.getD, List.getElem?_eq_getElem hj]
 obtain ⟨z, hz'⟩ : ∃ z, z = s.g.getD j 0 := ⟨_, rfl⟩
 rw [<- hz, <- hz'] at c
 rw [<- hz']
 have hlt := h.lt
 clear hz hz' hr hcell h
 go_enter Tryz.func129, Tryz.ntmps129
 go_wp2
 refine bodyPost_ret (res_c rfl rfl ((Rec.new w 39 #[.int .i64 j, .int .i64 z]).load idT rfl)) rfl ?_
 exact ⟨rfl, (Below.refl _ _).alloc (Nat.le_refl _) _⟩
def idv (x : Int × Int) : Value := .agg #[.int .i64 x.1, .int .i64 x.2]
theorem At_any (h : IAt w own p gv av fv s) (k : Int) :
  Calls Tryz.prog 166 #[.pointer (some ⟨p, 0, none⟩), .int .i64 k] w fun e w' => e = .returned (.tuple #[idv (s.at_ k).1, .bool (s.at_ k).2]) /\ Below w.heap.size w w' := by
 have hb : Below w.heap.size w (w.alloc (.cells #[.int .i64 0, .int .i64 0] 39)) := (Below.refl _ _).alloc (Nat.le_refl _) _
 have CL := hi_ (lives_any (h.below hb) k)
 by_cases hl : s.live k = true
 ·have ha : s.at_ k = ((k, s.g.getD k.toNat 0), true) := by unfold NS.at_; rw [if_pos hl]
  obtain ⟨h0, h1, _⟩ := NS.live_iff.1 hl
  obtain ⟨j, rfl⟩ : ∃ j : Nat, k = (j : Int) := ⟨k.toNat, by omega⟩
  have CI := hi_ (id_any (h.below hb) j (by omega))
  rw [hl] at CL
  rw [ha, Int.toNat_natCast]
  obtain ⟨w1, hw1⟩ : ∃ w1, w1 = w.alloc (.cells #[.int .i64 0, .int .i64 0] 39) := ⟨_, rfl⟩
  have hR1 : Rec 39 w1 w.heap.size #[.int .i64 0, .int .i64 0] := by rw [hw1]; exact Rec.new _ _ _
  rw [<- hw1] at hb CL CI
  have HB := hi_ hb
  have HR := hi_ hR1
  clear hl ha h0 h1 h hb hR1
  go_enter Tryz.func166, Tryz.ntmps166
  go_wp2_with (first
   | (rw [<- hw1]; clear hw1)
   | (go_at_call 101; refine CL.out.mono ?_; rintro e w' ⟨rfl, rfl⟩)
   | (go_at_call 129; refine CI.out.mono ?_; rintro e w2 ⟨rfl, hB2⟩; have HR2 := hi_ (HR.out.under hB2); have HB2 := hi_ (HB.out.trans (hB2.mono HB.out.size)); clear hB2)
   | (with_reducible refine wpList_stP (x1 := j) (y1 := s.g.getD j 0) rfl (.tmp 4) (.tmp 13) rfl rfl rfl HR2.out ?_; intro w5 hR5 hF5))
  refine bodyPost_ret (res_ct rfl rfl (hR5.load idT rfl)) rfl ?_
  exact ⟨rfl, HB2.out.trans (hF5.toBelow (fun x hx => by rw [show x = w.heap.size from hx]; exact Nat.le_refl _) HB2.out.size)⟩
 ·have hl : s.live k = false := by simpa using hl
  have ha : s.at_ k = ((0, 0), false) := by unfold NS.at_; rw [if_neg (by simp [hl])]
  rw [hl] at CL
  rw [ha]
  clear hl ha h hb
  go_enter Tryz.func166, Tryz.ntmps166
  go_wp2_with (go_at_call 101; refine CL.out.mono ?_; rintro e w' ⟨rfl, rfl⟩)
  refine bodyPost_ret (res_ct rfl rfl ((Rec.new w 39 #[.int .i64 0, .int .i64 0]).load idT rfl)) rfl ?_
  exact ⟨rfl, (Below.refl _ _).alloc (Nat.le_refl _) _⟩
end
end Go.Proofs.YthiknmhkdeicjaaGreatDoor
namespace Go.Proofs.YthiknmhkdeicjaaGreatDoor
set_option maxRecDepth 20000
open Go.RowKit
section
variable {w : World} {own : Nat -> Prop} {p : Nat} {gv av fv : Value} {s : NS}
theorem Alive_any (h : IAt w own p gv av fv s) (i gen : Int) :
  Calls Tryz.prog 125 #[.pointer (some ⟨p, 0, none⟩), idv (i, gen)] w fun e w' => e = .returned (.bool (s.alive i gen)) /\ Below w.heap.size w w' := by
 show Calls _ _ #[.pointer (some ⟨p, 0, none⟩), .agg #[.int .i64 i, .int .i64 gen]] w _
 obtain ⟨w1, hw1⟩ : ∃ w1, w1 = w.alloc (.cells #[.int .i64 i, .int .i64 gen] 39) := ⟨_, rfl⟩
 have hb : Below w.heap.size w w1 := by rw [hw1]; exact (Below.refl _ _).alloc (Nat.le_refl _) _
 have hR1 : Rec 39 w1 w.heap.size #[.int .i64 i, .int .i64 gen] := by rw [hw1]; exact Rec.new _ _ _
 have c0 : w1.cell? ⟨w.heap.size, 0, none⟩ = some (.int .i64 i) := hR1.at_ 0
 have CA := At_any (h.below hb) i
 obtain ⟨z, hz⟩ : ∃ z, z = s.g.getD i.toNat 0 := ⟨_, rfl⟩
 by_cases hl : s.live i = true
 ·have ha : s.at_ i = ((i, s.g.getD i.toNat 0), true) := by unfold NS.at_; rw [if_pos hl]
  have hal : s.alive i gen = decide (z = gen) := by unfold NS.alive; rw [hl, hz]; rfl
  rw [ha, <- hz] at CA
  rw [hal]
  have HB := hi_ hb
  have HR := hi_ hR1
  have CB := hi_ CA
  clear CA hb hR1 ha hal hz hl h
  go_enter Tryz.func125, Tryz.ntmps125
  go_wp2_with (first
   | (rw [<- hw1]; clear hw1)
   | (go_at_call 166; refine CB.out.mono ?_; rintro e w2 ⟨rfl, hB2⟩; have hR2 := HR.out.under hB2; have k0 := hR2.at_ 0; have k1 := hR2.at_ 1; simp only [List.getElem?_toArray, List.getElem?_cons_zero, List.getElem?_cons_succ] at k0 k1; have HB2 := hi_ (HB.out.trans (hB2.mono HB.out.size)); have hlt2 := hR2.lt; clear hB2 hR2; simp only [idv]))
  all_goals go_ret
  all_goals exact ⟨rfl, HB2.out.trans ((Below.refl _ _).alloc HB2.out.size _)⟩
 ·have hl : s.live i = false := by simpa using hl
  have ha : s.at_ i = ((0, 0), false) := by unfold NS.at_; rw [if_neg (by simp [hl])]
  have hal : s.alive i gen = false := by unfold NS.alive; rw [hl]; rfl
  rw [ha] at CA
  rw [hal]
  have HB := hi_ hb
  have CB := hi_ CA
  clear CA hb hR1 ha hal hz hl h
  go_enter Tryz.func125, Tryz.ntmps125
  go_wp2_with (first
   | (rw [<- hw1]; clear hw1)
   | (go_at_call 166; refine CB.out.mono ?_; rintro e w2 ⟨rfl, hB2⟩; have HB2 := hi_ (HB.out.trans (hB2.mono HB.out.size)); clear hB2; simp only [idv]))
  go_ret
  exact ⟨rfl, HB2.out.trans ((Below.refl _ _).alloc HB2.out.size _)⟩
end
theorem intsl_nil_eq (w : World) (a : Option Addr) (n c n' c' : Nat) : (binOp .eql 34 (.slice a n c) (.slice none n' c')).run Tryz.prog w = .ok (.bool a.isNone) w := Lib.run_eql_slice_nil w _ _ a n c n' c' Tryz.underlying34
theorem iclone_any (A : Option Addr) (n c : Nat) (zs : List Int) (w : World) (hr : IRd w A n zs) (hn : Hid (n <= 1000000000)) :
  Calls Tryz.prog 102 #[.slice A n c] w fun e w' => ∃ v, e = .returned v /\ w'.ownsRow w.heap.size 3 1 v n (zs.map (Value.int .i64)) /\ Below w.heap.size w w' := by
 obtain ⟨i0, hi0, hz0, hz1, hz2⟩ := info_parts intT.info
 rcases A with _ | ad
 ·have h0 : n = 0 := by
   rcases Nat.eq_zero_or_pos n with h0 | h0
   ·exact h0
   ·obtain ⟨_, _, e, _⟩ := hr.2 h0
    cases e
  subst h0
  have hl : zs = [] := List.eq_nil_of_length_eq_zero hr.1
  subst hl
  clear hr
  have q := intsl_nil_eq
  go_enter Tryz.func102, Tryz.ntmps102
  go_wp2
  go_ret
  exact ⟨_, rfl, World.ownsRow_nil _ _ _ _, Below.refl _ _⟩
 ·have ho := own_empty w w.heap.size 3 (Nat.le_refl _)
  have hr1 := hr.below ((Below.refl _ _).alloc (Nat.le_refl _) (.cells #[] 3))
  have hcells : ∀ j u, (zs.map (Value.int .i64))[j]? = some u -> (w.alloc (.cells #[] 3)).cell? (ad.add j) = some u := fun j u hj => by
   have hjl : j < zs.length := by have := (List.getElem?_eq_some_iff.1 hj).1; simpa using this
   obtain ⟨b, o, e, _, hc⟩ := hr1.2 (by have := hr1.1; omega)
   injection e with e
   subst e
   rw [Addr.add_lit, hc j hjl, <- hj]
   simp [List.getD, List.getElem?_eq_getElem hjl]
  have hlen := hr.1
  clear hr hr1
  have q := intsl_nil_eq
  go_enter Tryz.func102, Tryz.ntmps102
  go_wp2_with (at_builtin; refine wpList_append_own_at _ rfl (.tmp 5) (.tmp 6) 34 rfl w.heap.size 3 i0 (.int .i64 0) 1 8 Tryz.underlying34 hi0 hz0 hz1 hz2 rfl (by decide) _ 0 [] rfl ho ad n c (zs.map (Value.int .i64)) rfl (by simp; omega) hcells (fun u hu => by obtain ⟨_, _, rfl⟩ := List.mem_map.1 hu; rfl) (by have := hn.out; unfold maxLen; omega) (by have := hn.out; omega) (by simp) ?_; intro v2 w2 ho2 hg2 _ _; rw [Nat.zero_add, List.nil_append] at ho2)
  go_ret
  exact ⟨_, rfl, ho2, ((Below.refl _ _).alloc (Nat.le_refl _) _).grown hg2 (by simp) (fun q hq => (ho.lt q hq).1)⟩
section
variable {w : World} {own : Nat -> Prop} {p : Nat} {gv av fv : Value} {s : NS}
theorem Gens_any (h : IAt w own p gv av fv s) :
  Calls Tryz.prog 48 #[.pointer (some ⟨p, 0, none⟩)] w fun e w' => ∃ A c, e = .returned (.slice A s.g.length c) /\ IRd w' A s.g.length s.g /\ Below w.heap.size w w' := by
 obtain ⟨A, c, rfl, hr⟩ := IRd.of_own h.gens
 have c2 := h.c2
 have hlen := h.ok.len
 have hE := h.ok.E2
 have CC := hi_ (iclone_any A s.g.length c s.g w hr (hi_ (by omega)))
 clear h hr hlen hE
 go_enter Tryz.func48, Tryz.ntmps48
 go_wp2_with (go_at_call 102; refine CC.out.mono ?_; rintro e w1 ⟨v, rfl, ho1, hb1⟩; obtain ⟨A1, c1, rfl, hr1⟩ := IRd.of_own ho1)
 go_ret
 exact ⟨_, _, rfl, hr1, hb1⟩
theorem Free_any (h : IAt w own p gv av fv s) :
  Calls Tryz.prog 49 #[.pointer (some ⟨p, 0, none⟩)] w fun e w' => ∃ A c, e = .returned (.slice A s.fr.length c) /\ IRd w' A s.fr.length s.fr /\ Below w.heap.size w w' := by
 obtain ⟨A, c, rfl, hr⟩ := IRd.of_own h.free
 have c4 := h.c4
 have hE := h.ok.few
 have CC := hi_ (iclone_any A s.fr.length c s.fr w hr (hi_ (by omega)))
 clear h hr hE
 go_enter Tryz.func49, Tryz.ntmps49
 go_wp2_with (go_at_call 102; refine CC.out.mono ?_; rintro e w1 ⟨v, rfl, ho1, hb1⟩; obtain ⟨A1, c1, rfl, hr1⟩ := IRd.of_own ho1)
 go_ret
 exact ⟨_, _, rfl, hr1, hb1⟩
theorem count_any (h : IAt w own p gv av fv s) (n : Nat) (hn : n <= 1024) :
  Calls Tryz.prog 100 #[.int .i64 n, .func (.func 101) #[.pointer (some ⟨p, 0, none⟩)] #[]] w fun e w' => e = .returned (.int .i64 (s.cnt n)) /\ w = w' := by
 have CL : ∀ k : Int, Calls Tryz.prog 101 #[.pointer (some ⟨p, 0, none⟩), .int .i64 k] w fun e w' => e = .returned (.bool (s.live k)) /\ w = w' := lives_any h
 have CK := hi_ CL
 clear CL h
 go_enter Tryz.func100, Tryz.ntmps100
 go_wp2
 go_loopw [5, 8] (fun v iv wr => ∃ j : Nat, j <= n /\ iv = .int .i64 j /\ v = .int .i64 (s.cnt j) /\ wr = w) (fun _ iv _ => n - (intOf iv).toNat)
 case atStart => exact ⟨0, Nat.zero_le _, rfl, rfl, rfl⟩
 case round =>
  obtain ⟨j, hj, rfl, rfl, rfl⟩ := hrel
  have hcl := s.cnt_le j
  have hcs := s.cnt_succ j
  obtain ⟨m, hm⟩ : ∃ m, m = s.cnt j := ⟨_, rfl⟩
  rw [<- hm] at hcl hcs ⊢
  by_cases hjn : j < n
  ·have C := hi_ (CK.out (j : Int))
   obtain ⟨b, hb⟩ : ∃ b, b = s.live (j : Int) := ⟨_, rfl⟩
   rw [<- hb] at C hcs
   clear hb hm
   cases b
   ·rw [if_neg (by decide)] at hcs
    have HCS := hi_ hcs
    clear hcs
    go_wp2_with (go_at_call 101; refine C.out.mono ?_; rintro e w' ⟨rfl, rfl⟩)
    go_roundw
    case rel => exact ⟨j + 1, hjn, by go_num, by rw [HCS.out]; rfl, by first | rfl | trivial⟩
    case measure => simp [intOf]; omega
   ·rw [if_pos rfl] at hcs
    have HCS := hi_ hcs
    clear hcs
    go_wp2_with (go_at_call 101; refine C.out.mono ?_; rintro e w' ⟨rfl, rfl⟩)
    go_roundw
    case rel => exact ⟨j + 1, hjn, by go_num, by rw [HCS.out]; go_num, by first | rfl | trivial⟩
    case measure => simp [intOf]; omega
  ·obtain rfl : j = n := by omega
   clear hcs
   go_wp2
   go_ret
   exact ⟨by rw [<- hm]; rfl, rfl⟩
theorem Count_any (h : IAt w own p gv av fv s) :
  Calls Tryz.prog 45 #[.pointer (some ⟨p, 0, none⟩)] w fun e w' => e = .returned (.int .i64 (s.cnt s.g.length)) /\ w = w' := by
 obtain ⟨A, c, rfl, _⟩ := IRd.of_own h.gens
 have c2 := h.c2
 have hmf : ∀ (fn : Fn) (first cap : Array Value) (w : World), (Instr.makeFunc fn first cap).run Tryz.prog w = .ok (.func fn first cap) w := fun _ _ _ _ => rfl
 have hlen := h.ok.len
 have hE := h.ok.E2
 have CC := hi_ (count_any h s.g.length (by omega))
 clear h hlen hE
 go_enter Tryz.func45, Tryz.ntmps45
 go_wp2_with (go_at_call 100; refine CC.out.mono ?_; rintro e w' ⟨rfl, rfl⟩)
 go_ret
 exact ⟨rfl, rfl⟩
end
end Go.Proofs.YthiknmhkdeicjaaGreatDoor
