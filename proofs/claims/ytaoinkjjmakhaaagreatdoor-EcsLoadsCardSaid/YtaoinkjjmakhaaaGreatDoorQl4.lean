/- TbR5, MapZ, ClM, Cl1, Cl2, Cl3, Cl4 -/
import Derived.Test.YtaoinkjjmakhaaaGreatDoorQl1
import Derived.Test.YtaoinkjjmakhaaaGreatDoorQl3
import Derived.BigQuiet
import Derived.Deep.QuietTactic
namespace Go.Proofs.YtaoinkjjmakhaaaGreatDoor
open Go.RowKit
abbrev zT : Array Value := #[.slice none 0 0, .slice none 0 0, .slice none 0 0]
structure AddI (w0 w : World) (B r : Nat) (i g : Int) (pv : Value) (vs : List Value) (D : Nat -> Prop) (ps : List Pt) : Prop where
 Bw : B <= w.heap.size
 gB : r < B
 blk : Rec 95 w r #[.int .i64 i, .int .i64 g, pv]
 ow : w.ownsRow B 143 2 pv ps.length vs
 hd : HdL 2 (EP D w) vs ps
 dx : ∀ x, D x -> x < w.heap.size /\ x ≠ r /\ pv.ownBlock ≠ some x
section
variable {w0 w w' : World} {B r : Nat} {i g : Int} {pv : Value} {vs : List Value} {D E : Nat -> Prop} {ps : List Pt}
theorem AddI.below (h : AddI w0 w B r i g pv vs D ps) (hb : Below w.heap.size w w') : AddI w0 w' B r i g pv vs D ps :=
 ⟨Nat.le_trans h.Bw hb.size, h.gB, h.blk.under hb, own_keep h.ow hb, h.hd.imp fun _ _ ⟨u, e, hu⟩ => ⟨u, e, hu.below hb⟩, fun x hx => ⟨Nat.lt_of_lt_of_le (h.dx x hx).1 hb.size, (h.dx x hx).2⟩⟩
theorem AddI.fr {w4 : World} (h : AddI w0 w B r i g pv vs D ps) (hF : Fr (fun x => x = r \/ B <= x) w4 w) (hg : w.grownBy w' pv.ownBlock) : Fr (fun x => x = r \/ B <= x) w4 w' := hF.trans (Fr.grown hg (fun _ hy => .inr (own_ge h.ow hy).1))
theorem AddI.put (h : AddI w0 w B r i g pv vs D ps) {pv' u : Value} {c : Int} {l : List UInt8} (hu : VB E w u l) (hE : ∀ x, E x -> x ≠ r /\ pv.ownBlock ≠ some x)
  (ho : w'.ownsRow B 143 2 pv' (ps.length + 1) (vs ++ [.int .i64 c, u])) (hg : w.grownBy w' pv.ownBlock) (hv : pv'.ownBlock = pv.ownBlock \/ pv'.ownBlock = some w.heap.size) :
  Rec 95 w' r #[.int .i64 i, .int .i64 g, pv] /\ AddI w0 (w'.setCell ⟨r, 2, none⟩ pv') B r i g pv' (vs ++ [.int .i64 c, u]) (fun x => D x \/ (E x /\ x < w.heap.size)) (ps ++ [(c, l)]) := by
 have hF : Fr (fun y => pv.ownBlock = some y) w w' := Fr.grown hg (fun y hy => hy)
 have hr : Rec 95 w' r #[.int .i64 i, .int .i64 g, pv] := h.blk.fr hF (fun e => by have := (own_ge h.ow e).1; have := h.gB; omega)
 have hS : Fr (· = r) w' (w'.setCell ⟨r, 2, none⟩ pv') := Fr.setCell (own := (· = r)) w' (p := ⟨r, 2, none⟩) rfl _
 have hs1 := hF.size
 have hs2 := hS.size
 have hall : ∀ x, (D x \/ (E x /\ x < w.heap.size)) -> x < w.heap.size /\ x ≠ r /\ pv.ownBlock ≠ some x := fun x hx => by
  rcases hx with h1 | h1
  ·exact h.dx x h1
  ·exact ⟨h1.2, hE x h1.1⟩
 have st : WStays (fun x => D x \/ (E x /\ x < w.heap.size)) w (w'.setCell ⟨r, 2, none⟩ pv') := ⟨by omega, fun x hx => by
  obtain ⟨h1, h2, h3⟩ := hall x hx
  exact (hS.block x (by omega) h2).trans (hF.block x h1 h3)⟩
 refine ⟨hr, by have := h.Bw; omega, h.gB, hr.set 2 pv', ?_, ?_, fun x hx => ?_⟩
 ·have := own_fr ho hS (fun y hy e => by have := (own_ge ho hy).1; have := h.gB; have e' : y = r := e; omega)
  rw [List.length_append, List.length_singleton]
  exact this
 ·exact ((h.hd.imp fun _ _ ⟨v, e, hv⟩ => ⟨v, e, (hv.mono (fun _ hx => .inl hx)).stays st⟩)).snoc rfl ⟨u, rfl, (hu.lt.mono (fun _ hx => .inr hx)).stays st⟩
 ·obtain ⟨h1, h2, h3⟩ := hall x hx
  refine ⟨by omega, h2, fun e => ?_⟩
  rcases hv with hv | hv
  ·exact h3 (hv ▸ e)
  ·rw [hv] at e
   injection e with e
   omega
end
end Go.Proofs.YtaoinkjjmakhaaaGreatDoor
namespace Go.Proofs.YtaoinkjjmakhaaaGreatDoor
open Go.RowKit Go.Maps
def MapZ (P : Program) (k : TypeId) (z : Value) (w : World) (m n : Nat) (f : Int -> Option Value) : Prop :=
 ∃ D : DataW Value, w.ownsMap P k itself m n D /\ Maps.size D = n /\ (∀ i : Int, D.atKey (.int .i64 i) (.held z) = .held ((f i).getD z)) /\ (∀ i : Int, Maps.has D (.int .i64 i) = (f i).isSome)
section
variable {P : Program} {k e T : TypeId} {z : Value} {w w' : World} {m n : Nat} {f : Int -> Option Value}
theorem ownsMap_tight {R : Value -> Option (DataW Value × List MemPlace)} {D : DataW Value} (h : w.ownsMap P k R m n D) : w.ownsMap P k R m (Maps.size D) D := by
 obtain ⟨es, clock, hb, F, hs, rfl⟩ := h
 have e1 : Maps.size (DataW.map ((es.toList.map (WideElems.rg P k R)).foldr DataW.insert [])) = es.size := by simp [Maps.size, length_sorted]
 exact ⟨es, clock, hb, F, by rw [e1]; exact Nat.le_refl _, rfl⟩
theorem MapZ.made (P : Program) (k : TypeId) (z : Value) (w : World) : MapZ P k z (w.alloc (.map #[] 0)) w.heap.size 0 (fun _ => none) :=
 ⟨.map [], World.ownsMap_made w P k itself, rfl, fun _ => rfl, fun _ => rfl⟩
theorem MapZ.lt (h : MapZ P k z w m n f) : m < w.heap.size := by obtain ⟨D, ho, _⟩ := h; exact ho.lt
theorem MapZ.block (h : MapZ P k z w m n f) (hb : w'.heap[m]? = w.heap[m]?) : MapZ P k z w' m n f := by
 obtain ⟨D, ⟨es, clock, hm, r⟩, h2⟩ := h
 exact ⟨D, ⟨es, clock, hb.trans hm, r⟩, h2⟩
theorem MapZ.fr {own : Nat -> Prop} (h : MapZ P k z w m n f) (hf : Fr own w w') (hn : ¬ own m) : MapZ P k z w' m n f := h.block (hf.block m h.lt hn)
theorem MapZ.below (h : MapZ P k z w m n f) (hb : Below w.heap.size w w') : MapZ P k z w' m n f := h.block (hb.block m h.lt)
theorem MapZ.congr {f' : Int -> Option Value} (h : MapZ P k z w m n f) (hf : ∀ i, f i = f' i) : MapZ P k z w m n f' := by
 obtain rfl : f = f' := funext hf
 exact h
theorem key_int (hk : P.underlying k = some (.int .i64)) {i : Int} (hi : -9223372036854775808 <= i /\ i < 9223372036854775808) : keyOf P k (.int .i64 i) = some (.int .i64 i) :=
 keyOf_int_mk hk (WalkArith.wf_i64 (by omega))
theorem int_lit_ne {i j : Int} (h : i ≠ j) : (Lit.int .i64 i) ≠ .int .i64 j := fun e => h (by injection e with _ e)
theorem MapZ.look (h : MapZ P k z w m n f) (hk : P.underlying k = some (.int .i64)) (hT : P.underlying T = some (.map k e)) (hz : (zeroValue e).run P w = .ok z w) {i : Int} (hi : -9223372036854775808 <= i /\ i < 9223372036854775808) :
  (Instr.lookup T (.map (some m)) (.int .i64 i) false).run P w = .ok ((f i).getD z) w := by
 obtain ⟨D, ho, _, hat, _⟩ := h
 obtain ⟨v, ps, hrun, hv⟩ := ho.lookup (int_keyed hk) hT hz (zd := .held z) (zp := []) rfl (key_int hk hi)
 rw [hat i] at hv
 simp only [itself, Option.some.injEq, Prod.mk.injEq, DataW.held.injEq] at hv
 rw [hrun, hv.1]
theorem MapZ.look_ok (h : MapZ P k z w m n f) (hk : P.underlying k = some (.int .i64)) (hT : P.underlying T = some (.map k e)) (hz : (zeroValue e).run P w = .ok z w) {i : Int} (hi : -9223372036854775808 <= i /\ i < 9223372036854775808) :
  (Instr.lookup T (.map (some m)) (.int .i64 i) true).run P w = .ok (.tuple #[(f i).getD z, .bool (f i).isSome]) w := by
 obtain ⟨D, ho, _, hat, hh⟩ := h
 obtain ⟨v, ps, hrun, hv⟩ := ho.look_ok (int_keyed hk) hT hz (zd := .held z) (zp := []) rfl (key_int hk hi)
 rw [hat i] at hv
 simp only [itself, Option.some.injEq, Prod.mk.injEq, DataW.held.injEq] at hv
 rw [hrun, hv.1, hh i]
theorem MapZ.len (h : MapZ P k z w m n f) (hT : P.underlying T = some (.map k e)) (ty : TypeId) : (Builtin.len_ #[T] ty #[.map (some m)]).run P w = .ok (.int .i64 n) w := by
 obtain ⟨D, ho, hs, _⟩ := h
 rw [ho.len hT ty, hs]
theorem MapZ.put (h : MapZ P k z w m n f) (hk : P.underlying k = some (.int .i64)) (hT : P.underlying T = some (.map k e)) (hn : n < maxLen) {i : Int} (hi : -9223372036854775808 <= i /\ i < 9223372036854775808) (v : Value) :
  ∃ w', (Instr.mapUpdate T (.map (some m)) (.int .i64 i) v).run P w = .ok () w' /\ MapZ P k z w' m (if (f i).isSome = true then n else n + 1) (fun j => if j = i then some v else f j) /\ w.grownBy w' (some m) := by
 obtain ⟨D, ho, hs, hat, hh⟩ := h
 obtain ⟨w', hrun, ho', hg⟩ := ho.update (int_keyed hk) hT hn (val := v) (d := .held v) (ps := []) (key_int hk hi) rfl
 have hkl := (int_keyed hk).key (key_int hk hi)
 have hsz := Maps.size_put (k := .int .i64 i) (ho.tidy (int_keyed hk)) (.held v)
 rw [hh i, hs] at hsz
 refine ⟨w', hrun, ⟨_, by rw [<- hsz]; exact ownsMap_tight ho', hsz, fun j => ?_, fun j => ?_⟩, hg⟩
 ·by_cases hj : j = i
  ·subst hj
   simp only [if_true]
   exact Maps.atKey_put_same ho.isMap hkl _ _
  ·simp only [if_neg hj]
   rw [Maps.atKey_put_other (int_lit_ne hj), hat j]
 ·by_cases hj : j = i
  ·subst hj
   simp only [if_true]
   exact Maps.has_put_same ho.isMap hkl _
  ·simp only [if_neg hj]
   rw [Maps.has_put_other (int_lit_ne hj), hh j]
end
section
variable {P : Program} {ops : Array Oper} {o : Oper} {a : Act} {w : World} {K : Act -> World -> Prop} {Q : Exit -> Act -> World -> Prop} {E : Prop} {z : Value} {m n : Nat} {f : Int -> Option Value}
theorem wpList_putZ {k e T : TypeId} {rest : List Oper} (hk : P.underlying k = some (.int .i64)) (hT : P.underlying T = some (.map k e)) (hgd : Region.wanted o (yielded ops a.tmps) = true) (mo x y : Operand) (ho : o.op = Op.mapUpdate T mo x y)
  (h : MapZ P k z w m n f) (hn : n < 1000000000) {i : Int} (hi : -9223372036854775808 <= i /\ i < 9223372036854775808) (v : Value) (hm : a.eval mo = .map (some m)) (hx : a.eval x = .int .i64 i) (hv : a.eval y = v)
  (hK : ∀ w', MapZ P k z w' m (if (f i).isSome = true then n else n + 1) (fun j => if j = i then some v else f j) -> w.grownBy w' (some m) -> wpList P ops Q rest (a.put o.dst undef) w') : wpList P ops Q (o :: rest) a w :=
 wpList_w hgd fun _ hK' => by
  obtain ⟨w', hrun, r1, r2⟩ := h.put hk hT (by unfold maxLen; omega) hi v
  unfold Oper.wp
  simp [execOp, ho, hm, hx, hv, hrun, Result.andThen]
  exact hK' _ _ (hK w' r1 r2)
theorem step_putZ {k e T : TypeId} (hk : P.underlying k = some (.int .i64)) (hT : P.underlying T = some (.map k e)) (hgd : Region.wanted o (yielded ops a.tmps) = true) (mo x y : Operand) (ho : o.op = Op.mapUpdate T mo x y)
  (h : MapZ P k z w m n f) (hn : n < 1000000000) {i : Int} (hi : -9223372036854775808 <= i /\ i < 9223372036854775808) (v : Value) (hm : a.eval mo = .map (some m)) (hx : a.eval x = .int .i64 i) (hv : a.eval y = v)
  (hK : ∀ w', MapZ P k z w' m (if (f i).isSome = true then n else n + 1) (fun j => if j = i then some v else f j) -> w.grownBy w' (some m) -> K (a.put o.dst undef) w') :
  if Region.wanted o (yielded ops a.tmps) = true then Oper.wp P o a w K Q else E := by
 rw [if_pos hgd]
 obtain ⟨w', hrun, r1, r2⟩ := h.put hk hT (by unfold maxLen; omega) hi v
 unfold Oper.wp
 simp [execOp, ho, hm, hx, hv, hrun, Result.andThen]
 exact hK w' r1 r2
end
end Go.Proofs.YtaoinkjjmakhaaaGreatDoor
namespace Go.Proofs.YtaoinkjjmakhaaaGreatDoor
open Go.RowKit
structure Co where
 sz : Nat
 rows : List (List UInt8)
def Co.bytes (s : Co) : List UInt8 := s.rows.flatten
structure Co.Ok (s : Co) : Prop where
 z : s.sz <= 64
 n : s.rows.length <= 1024
 each : ∀ r ∈ s.rows, r.length = s.sz
def Co.new (n : Int) : Co := ⟨(min (max n 0) 64).toNat, []⟩
theorem Co.new_ok (n : Int) : (Co.new n).Ok := ⟨by show (min (max n 0) 64).toNat <= 64; omega, by simp [Co.new], fun r hr => by simp [Co.new] at hr⟩
section
variable {z : Nat} {L : List (List UInt8)}
theorem flat_len (h : ∀ r ∈ L, r.length = z) : L.flatten.length = L.length * z := by
 induction L with
 | nil => simp
 | cons a L ih =>
  rw [List.flatten_cons, List.length_append, h a List.mem_cons_self, ih (fun r hr => h r (List.mem_cons_of_mem _ hr)), List.length_cons, Nat.succ_mul]
  omega
theorem flat_take (h : ∀ r ∈ L, r.length = z) (k : Nat) : L.flatten.take (k * z) = (L.take k).flatten := by
 induction L generalizing k with
 | nil => simp
 | cons a L ih =>
  cases k with
  | zero => simp
  | succ k =>
   have ha := h a List.mem_cons_self
   rw [List.flatten_cons, List.take_succ_cons, List.flatten_cons, List.take_append, List.take_of_length_le (by rw [ha, Nat.succ_mul]; omega), ha, show (k + 1) * z - z = k * z by rw [Nat.succ_mul]; omega, ih (fun r hr => h r (List.mem_cons_of_mem _ hr))]
theorem flat_drop (h : ∀ r ∈ L, r.length = z) (k : Nat) : L.flatten.drop (k * z) = (L.drop k).flatten := by
 induction L generalizing k with
 | nil => simp
 | cons a L ih =>
  cases k with
  | zero => simp
  | succ k =>
   have ha := h a List.mem_cons_self
   rw [List.flatten_cons, List.drop_succ_cons, List.drop_append, List.drop_eq_nil_of_le (by rw [ha, Nat.succ_mul]; omega), ha, show (k + 1) * z - z = k * z by rw [Nat.succ_mul]; omega, ih (fun r hr => h r (List.mem_cons_of_mem _ hr)), List.nil_append]
theorem flat_row (h : ∀ r ∈ L, r.length = z) (k : Nat) (hk : k < L.length) : (L.flatten.drop (k * z)).take z = L.getD k [] := by
 rw [flat_drop h, List.drop_eq_getElem_cons hk, List.flatten_cons, List.take_append, List.take_of_length_le (by rw [h _ (List.getElem_mem hk)]; exact Nat.le_refl _), h _ (List.getElem_mem hk), Nat.sub_self, List.take_zero, List.append_nil]
 simp [List.getD, List.getElem?_eq_getElem hk]
theorem flat_set (h : ∀ r ∈ L, r.length = z) (k : Nat) (hk : k < L.length) (b : List UInt8) (hb : b.length = z) : L.flatten.take (k * z) ++ (b ++ L.flatten.drop (k * z + b.length)) = (L.set k b).flatten := by
 rw [flat_take h, hb, show k * z + z = (k + 1) * z by rw [Nat.succ_mul], flat_drop h, List.set_eq_take_append_cons_drop, if_pos hk, List.flatten_append, List.flatten_cons]
end
theorem splice_cells' (l : List UInt8) (p : Nat) (b : List UInt8) : splice (cells l) p (cells b) = cells (l.take p ++ (b ++ l.drop (p + b.length))) := by
 simp [splice, cells_append, cells_take, cells_drop]
section
variable {s : Co}
theorem Co.Ok.len (h : s.Ok) : s.bytes.length = s.rows.length * s.sz := flat_len h.each
theorem Co.Ok.small (h : s.Ok) : s.bytes.length <= 65536 := by
 rw [h.len]
 exact Nat.le_trans (Nat.mul_le_mul h.n h.z) (by decide)
theorem Co.Ok.small' (h : s.Ok) : s.rows.length * s.sz <= 65536 := h.len ▸ h.small
theorem Co.fit {k : Nat} (hk : k < s.rows.length) : k * s.sz + s.sz <= s.rows.length * s.sz := by
 rw [<- Nat.succ_mul]
 exact Nat.mul_le_mul_right _ hk
theorem Co.Ok.getD (h : s.Ok) {k : Nat} (hk : k < s.rows.length) : (s.rows.getD k []).length = s.sz := by
 have e : s.rows.getD k [] = s.rows[k] := by simp [List.getD, List.getElem?_eq_getElem hk]
 rw [e]
 exact h.each _ (List.getElem_mem hk)
def Co.set (s : Co) (k : Nat) (b : List UInt8) : Co := ⟨s.sz, s.rows.set k b⟩
theorem Co.Ok.set (h : s.Ok) (k : Nat) (b : List UInt8) (hb : b.length = s.sz) : (s.set k b).Ok :=
 ⟨h.z, by simp only [Co.set, List.length_set]; exact h.n, fun r hr => by
  rcases List.mem_or_eq_of_mem_set hr with h1 | h1
  ·exact h.each r h1
  ·rw [h1]; exact hb⟩
theorem Co.set_bytes (h : s.Ok) (k : Nat) (hk : k < s.rows.length) (b : List UInt8) (hb : b.length = s.sz) : splice (cells s.bytes) (k * s.sz) (cells b) = cells (s.set k b).bytes := by
 rw [splice_cells']
 exact congrArg cells (flat_set h.each k hk b hb)
def Co.add (s : Co) (b : List UInt8) : Co := ⟨s.sz, s.rows ++ [b]⟩
theorem Co.Ok.add (h : s.Ok) (b : List UInt8) (hb : b.length = s.sz) (hn : s.rows.length ≠ 1024) : (s.add b).Ok :=
 ⟨h.z, by have := h.n; simp only [Co.add, List.length_append, List.length_singleton]; omega, fun r hr => by
  rcases List.mem_append.1 hr with h1 | h1
  ·exact h.each r h1
  ·rw [List.mem_singleton.1 h1]; exact hb⟩
theorem Co.add_bytes (s : Co) (b : List UInt8) : (s.add b).bytes = s.bytes ++ b := by simp [Co.add, Co.bytes]
def Co.cut (s : Co) : Co := ⟨s.sz, s.rows.take (s.rows.length - 1)⟩
theorem Co.Ok.cut (h : s.Ok) : s.cut.Ok := ⟨h.z, by have := h.n; simp only [Co.cut, List.length_take]; omega, fun r hr => h.each r (List.mem_of_mem_take hr)⟩
theorem Co.cut_bytes (h : s.Ok) : s.bytes.take ((s.rows.length - 1) * s.sz) = s.cut.bytes := flat_take h.each _
def Co.drop (s : Co) (k : Nat) : Co := (s.set k (s.rows.getD (s.rows.length - 1) [])).cut
def Co.go (s : Co) (d a : Int) (b : List UInt8) : Co × (List UInt8 × Int) :=
 if d = 1 then (if 0 <= a /\ a < s.rows.length then (if b.length = s.sz then (s.set a.toNat b, [], 0) else (s, [], 7)) else (s, [], 2))
 else if d = 2 then (if 0 <= a /\ a < s.rows.length then (s, s.rows.getD a.toNat [], 0) else (s, [], 2))
 else if d = 3 then (if 0 <= a /\ a < s.rows.length then (s.drop a.toNat, [], 0) else (s, [], 2))
 else if b.length = s.sz then (if s.rows.length = 1024 then (s, [], 9) else (s.add b, [], 0)) else (s, [], 7)
end
end Go.Proofs.YtaoinkjjmakhaaaGreatDoor
namespace Go.Proofs.YtaoinkjjmakhaaaGreatDoor
open Go.RowKit
structure ClAt (w : World) (own : Nat -> Prop) (p : Nat) (v : Value) (s : Co) : Prop where
 blk : Rec 229 w p #[.int .i64 (s.sz : Nat), .int .i64 (s.rows.length : Nat), v]
 row : w.ownsRow 0 5 1 v s.bytes.length (cells s.bytes)
 ownp : own p
 ownv : ∀ x, v.ownBlock = some x -> own x
 ne : ∀ x, v.ownBlock = some x -> x ≠ p
 ok : s.Ok
theorem own_opens {w : World} {B e n : Nat} {v : Value} {xs : List Value} (h : w.ownsRow B e 1 v n xs) :
  ∃ A c, v = .slice A n c /\ n <= c /\ c <= maxLen /\ (A = none -> n = 0) /\ (∀ a, A = some a -> ∃ g cur, a = ⟨g, 0, none⟩ /\ B <= g /\ w.heap[g]? = some (.cells cur e (0, 0)) /\ cur.size = c /\ cur.toList.take n = xs) := by
 rcases h.2 with ⟨hv, h0⟩ | ⟨g, cap, cur, rfl, hB, hh, hn, hc, hs, ht⟩
 ·exact ⟨none, 0, by rw [hv, h0], by omega, by unfold maxLen; omega, fun _ => h0, fun a e => by cases e⟩
 ·exact ⟨_, cap, rfl, hn, hc, (fun e => (by cases e)), fun a e => by
   injection e with e
   exact ⟨g, cur, e.symm, hB, hh, by simpa using hs, by simpa using ht⟩⟩
theorem Rd.of_own' {w : World} {B e n c : Nat} {A : Option Addr} {l : List UInt8} (h : w.ownsRow B e 1 (.slice A n c) n (cells l)) : Rd w A n l := by
 obtain ⟨A', c', e, _, _, hr⟩ := Rd.of_own h rfl
 injection e with e1 e2 e3
 subst e1
 exact hr
section
variable {w w' : World} {own own' : Nat -> Prop} {p : Nat} {v : Value} {s : Co}
theorem ClAt.lt (h : ClAt w own p v s) : p < w.heap.size := h.blk.lt
theorem ClAt.c0 (h : ClAt w own p v s) : w.cell? ⟨p, 0, none⟩ = some (.int .i64 (s.sz : Nat)) := h.blk.at_ 0
theorem ClAt.c1 (h : ClAt w own p v s) : w.cell? ⟨p, 1, none⟩ = some (.int .i64 (s.rows.length : Nat)) := h.blk.at_ 1
theorem ClAt.c2 (h : ClAt w own p v s) : w.cell? ⟨p, 2, none⟩ = some v := h.blk.at_ 2
theorem ClAt.fz (h : ClAt w own p v s) (i : Nat) : w.frozen? ⟨p, i, none⟩ = false := h.blk.fz i
theorem ClAt.kept (h : ClAt w own p v s) (hf : Fr own' w w') (hd : ∀ x, own x -> ¬ own' x) : ClAt w' own p v s where
 blk := h.blk.fr hf (hd p h.ownp)
 row := own_fr h.row hf (fun x hx => hd x (h.ownv x hx))
 ownp := h.ownp
 ownv := h.ownv
 ne := h.ne
 ok := h.ok
theorem ClAt.below (h : ClAt w own p v s) (hb : Below w.heap.size w w') : ClAt w' own p v s := h.kept (own' := fun _ => False) (Fr.ofBelow _ hb) (fun _ _ hx => hx)
theorem ClAt.mono (h : ClAt w own p v s) (hk : ∀ x, own x -> own' x) : ClAt w own' p v s := { h with ownp := hk _ h.ownp, ownv := fun x hx => hk x (h.ownv x hx) }
end
theorem clnear_any (n lo hi : Int) (w : World) : Calls Tryz.prog 171 #[.int .i64 n, .int .i64 lo, .int .i64 hi] w fun e w' => e = .returned (.int .i64 (min (max n lo) hi)) /\ w = w' := by
 go_enter Tryz.func171, Tryz.ntmps171
 go_wp2
 all_goals go_ret
 all_goals exact ⟨ret_int (by omega), rfl⟩
theorem ClNew_any (n : Int) (w : World) :
  Calls Tryz.prog 148 #[.int .i64 n] w fun e w' => e = .returned (.pointer (some ⟨w.heap.size, 0, none⟩)) /\ Below w.heap.size w w' /\ w.heap.size < w'.heap.size /\ ClAt w' (· = w.heap.size) w.heap.size nilv (Co.new n) := by
 have hE : (((Co.new n).sz : Nat) : Int) = min (max n 0) 64 := by
  show ((min (max n 0) 64).toNat : Int) = _
  omega
 go_enter Tryz.func148, Tryz.ntmps148
 go_wp2_with (go_at_call 171; refine (clnear_any _ _ _ _).mono ?_; rintro e w' ⟨rfl, rfl⟩)
 go_ret
 refine ⟨rfl, (Below.refl _ _).alloc (Nat.le_refl _) _, by simp, ?_⟩
 exact {
  blk := by rw [hE]; exact Rec.new w _ _
  row := World.ownsRow_nil _ _ _ _
  ownp := rfl
  ownv := fun x hx => by cases hx
  ne := fun x hx => by cases hx
  ok := Co.new_ok n }
theorem fresh_any (A : Option Addr) (n c : Nat) (l : List UInt8) (w : World) (hr : Rd w A n l) (hn : n <= 1000000000) :
  Calls Tryz.prog 133 #[.slice A n c] w fun e w' => e = .returned (.slice (some ⟨w.heap.size, 0, none⟩) n n) /\ w'.ownsRow w.heap.size 5 1 (.slice (some ⟨w.heap.size, 0, none⟩) n n) n (cells l) /\ Below w.heap.size w w' := by
 go_enter Tryz.func133, Tryz.ntmps133
 go_wp2_with (first
  | (at_make; refine wpList_mkn _ bytesT rfl (.tmp 5) (.tmp 5) rfl w.heap.size .i64 .i64 _ _ n rfl rfl rfl rfl (by omega) (by unfold maxLen; omega) (by simp) ?_; intro w1 hown1 hb1)
  | (with_reducible refine wpList_cpy bytesT rfl (.tmp 7) (.tmp 8) rfl w.heap.size w.heap.size n _ rfl hown1 A n c l rfl (hr.below (Nat.le_refl _) hb1) ?_; intro w2 hown2 hb2))
 go_ret
 refine ⟨rfl, ?_, hb1.trans hb2⟩
 have hl := hr.1
 have e2 : splice (madeCells (Value.int .u8 0).cells (n * 1)).toList 0 (cells (l.take n)) = cells l := by
  have h1 := hown1.1
  rw [List.take_of_length_le (by omega)]
  unfold splice
  rw [List.take_zero, List.nil_append, List.drop_eq_nil_of_le (by rw [h1, cells_length]; omega), List.append_nil]
 rw [<- e2]
 exact hown2
section
variable {w : World} {own : Nat -> Prop} {p : Nat} {v : Value} {s : Co}
theorem check_ok (h : ClAt w own p v s) (i : Int) (hi : 0 <= i /\ i < s.rows.length) : Calls Tryz.prog 132 #[.pointer (some ⟨p, 0, none⟩), .int .i64 i] w fun e w' => e = .returned (.int .i64 0) /\ w = w' := by
 have c1 := h.c1
 obtain ⟨h0, h1⟩ := hi
 go_enter Tryz.func132, Tryz.ntmps132
 go_wp2
 go_ret
 exact ⟨rfl, rfl⟩
theorem check_no (h : ClAt w own p v s) (i : Int) (hi : ¬ (0 <= i /\ i < s.rows.length)) : Calls Tryz.prog 132 #[.pointer (some ⟨p, 0, none⟩), .int .i64 i] w fun e w' => e = .returned (.int .i64 2) /\ w = w' := by
 have c1 := h.c1
 by_cases h0 : i < 0
 ·go_enter Tryz.func132, Tryz.ntmps132
  go_wp2
  go_ret
  exact ⟨rfl, rfl⟩
 ·have h1 : (s.rows.length : Int) <= i := by omega
  clear hi
  go_enter Tryz.func132, Tryz.ntmps132
  go_wp2
  go_ret
  exact ⟨rfl, rfl⟩
theorem ret_sl {A : Option Addr} {n m : Nat} (h : n = m) : Ending.returned (.slice A n n) = .returned (.slice A m m) := by rw [h]
abbrev RowAt (v : Value) (s : Co) (i : Nat) (A : Option Addr) : Prop := 0 < s.sz -> ∃ g c, v = .slice (some ⟨g, 0, none⟩) s.bytes.length c /\ A = some ⟨g, i * s.sz, none⟩
theorem ClAt.rd (h : ClAt w own p v s) (i : Nat) (hi : i < s.rows.length) {A : Option Addr} (hA : RowAt v s i A) : Rd w A s.sz (s.rows.getD i []) := by
 have e := flat_row h.ok.each i hi
 have hf := Co.fit (s := s) hi
 have hl := h.ok.len
 rw [<- e]
 refine ⟨by rw [e]; exact h.ok.getD hi, fun hp => ?_⟩
 obtain ⟨g, c, hv, hA'⟩ := hA hp
 have hr := h.row
 rw [hv] at hr
 exact ((Rd.of_own' hr).part (lo := i * s.sz) (m := s.sz) (by omega) A (fun _ b o e1 => by
  injection e1 with e1
  injection e1 with e1 e2
  rw [hA', <- e1, <- e2, Nat.zero_add])).2 hp
theorem row_any (h : ClAt w own p v s) (i : Nat) (hi : i < s.rows.length) : Calls Tryz.prog 134 #[.pointer (some ⟨p, 0, none⟩), .int .i64 i] w fun e w' => (∃ A, e = .returned (.slice A s.sz s.sz) /\ RowAt v s i A) /\ Below w.heap.size w w' := by
 have c0 := h.c0
 have hl := h.ok.len
 have hf := Co.fit (s := s) hi
 have hs := h.ok.small'
 have hz := h.ok.z
 have hn := h.ok.n
 obtain ⟨A, c, rfl, hc, hm, hnil, hr⟩ := own_opens h.row
 have c2 : ∀ n, (w.drewN n).cell? ⟨p, 2, none⟩ = some (.slice A s.bytes.length c) := fun n => (h.below (below_drewN (Below.refl _ _) n)).c2
 have e1 : (i : Int) * (s.sz : Int) = ((i * s.sz : Nat) : Int) := by push_cast; rfl
 have e2 : wrap64 (((i : Int) + 1) * (s.sz : Int)) = ((i * s.sz + s.sz : Nat) : Int) := by
  rw [show ((i : Int) + 1) * (s.sz : Int) = ((i * s.sz + s.sz : Nat) : Int) by push_cast; rw [Int.add_mul, Int.one_mul]]
  unfold wrap64; omega
 have E1 := hi_ e1
 have E2 := hi_ e2
 have C2 := hi_ c2
 have HR := hi_ hr
 have HNIL := hi_ hnil
 clear e1 e2 hr h hnil c2
 go_enter Tryz.func134, Tryz.ntmps134
 go_wp2_with fail
 go_quiet (fail)
 have c2 := C2.out nq
 rw [E1.out, E2.out]
 obtain ⟨x, hx⟩ : ∃ x, x = i * s.sz := ⟨_, rfl⟩
 rw [<- hx] at hf ⊢
 go_wp2
 all_goals go_ret
 all_goals refine ⟨⟨_, ret_sl (by omega), fun hp => ?_⟩, below_drewN (Below.refl _ _) _⟩
 all_goals first | (exfalso; omega) | skip
 all_goals
  rcases A with _ | a
  ·exfalso
   have := HNIL.out rfl
   have := Nat.le_trans (Nat.le_add_left s.sz (i * s.sz)) (hx ▸ hf)
   omega
  ·obtain ⟨g, _, rfl, _⟩ := HR.out a rfl
   exact ⟨g, c, by rw [hl], by rw [Option.map_some, Addr.add_lit, Nat.zero_add]⟩
theorem ClSize_any (h : ClAt w own p v s) : Calls Tryz.prog 104 #[.pointer (some ⟨p, 0, none⟩)] w fun e w' => e = .returned (.int .i64 (s.sz : Nat)) /\ w = w' := by
 have c0 := h.c0
 go_enter Tryz.func104, Tryz.ntmps104
 go_wp2
 go_ret
 exact ⟨rfl, rfl⟩
theorem ClBytes_any (h : ClAt w own p v s) : Calls Tryz.prog 139 #[.pointer (some ⟨p, 0, none⟩)] w fun e w' => ∃ n, e = .returned (.slice (some ⟨w.heap.size, 0, none⟩) n n) /\ w'.ownsRow w.heap.size 5 1 (.slice (some ⟨w.heap.size, 0, none⟩) n n) n (cells s.bytes) /\ n = s.bytes.length /\ Below w.heap.size w w' := by
 have c2 := h.c2
 have hs := h.ok.small
 have hr := h.row
 obtain ⟨A, c, rfl, hc, hm, hnil, _⟩ := own_opens h.row
 have CF := hi_ (fresh_any A s.bytes.length c s.bytes w (Rd.of_own' hr) (by omega))
 clear hr hnil h
 go_enter Tryz.func139, Tryz.ntmps139
 go_wp2_with (go_at_call 133; refine CF.out.mono ?_; rintro e w2 ⟨rfl, hO2, hB2⟩)
 go_ret
 exact ⟨_, rfl, hO2, rfl, hB2⟩
end
end Go.Proofs.YtaoinkjjmakhaaaGreatDoor
namespace Go.Proofs.YtaoinkjjmakhaaaGreatDoor
open Go.RowKit
section
variable {P : Program} {w : World} {T e : TypeId}
theorem own_splice {B n : Nat} {v : Value} {xs cs : List Value} (h : w.ownsRow B e 1 v n xs) {g off c : Nat} (hv : v = .slice (some ⟨g, 0, none⟩) n c) (hfit : off + cs.length <= n) {cur : Array Value} (hcur : w.heap[g]? = some (.cells cur e (0, 0))) :
  (w.setRow g (cur.toList.take off ++ (cs ++ cur.toList.drop (off + cs.length))).toArray).ownsRow B e 1 v n (splice xs off cs) := by
 obtain ⟨hl, hr⟩ := h
 rcases hr with ⟨h1, _⟩ | ⟨g', cap, cur', h1, hB, hh, hn, hc, hs, ht⟩
 ·rw [hv] at h1; cases h1
 rw [hv] at h1
 injection h1 with h1 h2 h3
 injection h1 with h1
 injection h1 with h1
 subst h1 h3
 rw [hcur] at hh
 injection hh with hh
 injection hh with hh
 subst hh
 have hcl : cur.toList.length = c := by simpa using hs
 rw [Nat.mul_one] at ht
 refine ⟨by rw [length_splice _ _ _ (by omega)]; exact hl, .inr ⟨g, c, _, hv, hB, setRow_heap w g _ _ _ _ hcur, hn, hc, ?_, ?_⟩⟩
 ·simp
  omega
 ·rw [Nat.mul_one, <- ht]
  unfold splice
  rw [List.take_append, List.length_take, List.take_append, List.take_take, List.take_take, List.drop_take, Nat.min_eq_left (show off <= cur.toList.length by omega), Nat.min_eq_left (show off <= n by omega), Nat.min_eq_right (show off <= n by omega), List.take_of_length_le (l := cs) (show cs.length <= n - off by omega)]
  rw [show n - off - cs.length = n - (off + cs.length) by omega]
theorem own_less {B n m c : Nat} {A : Option Addr} {xs : List Value} (h : w.ownsRow B e 1 (.slice A n c) n xs) (hm : m <= n) : w.ownsRow B e 1 (.slice A m c) m (xs.take m) := by
 obtain ⟨hl, hr⟩ := h
 refine ⟨by rw [List.length_take]; omega, ?_⟩
 rcases hr with ⟨h1, h0⟩ | ⟨g', cap, cur', h1, hB, hh, hn, hc, hs, ht⟩
 ·injection h1 with h1 h2 h3
  subst h1 h3
  exact .inl ⟨by rw [show m = 0 by omega], by omega⟩
 ·injection h1 with h1 h2 h3
  subst h1 h3
  refine .inr ⟨g', c, cur', rfl, hB, hh, by omega, hc, hs, ?_⟩
  rw [<- ht, List.take_take, Nat.mul_one, Nat.mul_one, Nat.min_eq_left hm]
variable {ops : Array Oper} {rest : List Oper} {o : Oper} {a : Act} {Q : Exit -> Act -> World -> Prop}
theorem wpList_cpo (el : El P T e (.int .u8 0) 1 1) (hgd : o.guard = none) (x y : Operand)
  (ho : o.op = .call { callee := .builtin .copy, args := #[x, y], argTypes := #[T, T] })
  {B n : Nat} {v : Value} {xs : List Value} (hown : w.ownsRow B e 1 v n xs) (k off kc : Nat) (A' : Option Addr) (hA : 0 < k -> ∃ g c, v = .slice (some ⟨g, 0, none⟩) n c /\ A' = some ⟨g, off, none⟩) (hfit : off + k <= n)
  (hs : a.eval x = .slice A' k kc) (A : Option Addr) (c : Nat) (b : List UInt8) (hx : a.eval y = .slice A k c) (hr : Rd w A k b)
  (h : ∀ w', w'.ownsRow B e 1 v n (splice xs off (cells b)) -> Fr (fun x => v.ownBlock = some x) w w' -> wpList P ops Q rest (a.put o.dst (goInt k)) w') : wpList P ops Q (o :: rest) a w := by
 obtain ⟨i, hi, hz, h1, h2⟩ := info_parts el.info
 have hbl := hr.1
 rcases Nat.eq_zero_or_pos k with h0 | hp
 ·subst h0
  have hb : b = [] := List.eq_nil_of_length_eq_zero hbl
  subst hb
  refine wpList_copy_nothing hgd x y T T ho e el.und (by rw [hi]; simp [h1]) A' A 0 kc 0 c hs hx rfl ?_
  exact h w (by simpa [splice, cells_nil] using hown) (Fr.refl _ _)
 ·obtain ⟨g, cap, hv, hA'⟩ := hA hp
  obtain ⟨ad, hAd⟩ : ∃ ad, A = some ad := by obtain ⟨b', o', e', _⟩ := hr.2 hp; exact ⟨_, e'⟩
  subst hAd
  obtain ⟨cur, hcur, hcs⟩ : ∃ cur, w.heap[g]? = some (.cells cur e (0, 0)) /\ n <= cur.size := by
   rcases hown.2 with ⟨h1, _⟩ | ⟨g', cap', cur', h1, hB, hh, hn, hc, hs, ht⟩
   ·rw [hv] at h1; cases h1
   ·rw [hv] at h1
    injection h1 with h1
    injection h1 with h1
    injection h1 with h1
    subst h1
    exact ⟨cur', hh, by omega⟩
  have hcl : (cells b).length = k := by rw [cells_length]; exact hbl
  refine wpList_copy_own hgd x y T T ho e el.und (by rw [hi]; simp [h1]) g off k kc ad k c (by rw [hs, hA']) hx cur e hcur (cells b) (by rw [hcl]; exact (Nat.min_self k).symm) hr.cells_at (by omega) (cells_one b) ?_
  rw [hcl]
  have := h _ (own_splice hown (off := off) (cs := cells b) hv (by omega) hcur) ⟨rfl, rfl, rfl, by simp [World.setRow], fun q _ hq => setRow_other w g q _ (fun e => hq (by rw [hv, e]; rfl))⟩
  rw [hcl] at this
  exact this
theorem run_appo (el : El P T e (.int .u8 0) 1 1) (ty : TypeId) (B : Nat) (v : Value) (n : Nat) (xs : List Value) (hown : w.ownsRow B e 1 v n xs)
  (A : Option Addr) (m c : Nat) (l : List UInt8) (hr : Rd w A m l) (hb : n + m <= 1000000000) (hB : B <= w.heap.size) :
  ∃ v' w', (Builtin.append_ #[T, T] ty #[v, .slice A m c]).run P w = .ok v' w' /\ w'.ownsRow B e 1 v' (n + m) (xs ++ cells l) /\ w.grownBy w' v.ownBlock /\ (v'.ownBlock = v.ownBlock \/ v'.ownBlock = some w.heap.size) := by
 obtain ⟨i, hi, hz, h1, h2⟩ := info_parts el.info
 rcases A with _ | ad
 ·have hm : m = 0 := by
   rcases Nat.eq_zero_or_pos m with h0 | h0
   ·exact h0
   ·obtain ⟨_, _, h, _⟩ := hr.2 h0
    cases h
  subst hm
  have hn : l = [] := List.eq_nil_of_length_eq_zero hr.1
  subst hn
  exact ⟨v, w, run_app_nil w B T ty e i 1 el.und hi v n xs hown c, by simpa [cells_nil] using hown, World.grownBy.refl _ _, .inl rfl⟩
 ·obtain ⟨v', w', hrun, r1, r2, _, r3⟩ := run_append_own_at (P := P) w B T ty e i (.int .u8 0) 1 1 el.und hi hz h1 h2 rfl (by decide) v n xs hown ad m c (cells l) (by simp [hr.1]) hr.cells_at (cells_one l) (by unfold maxLen; omega) (by omega) hB
  exact ⟨v', w', hrun, r1, r2, r3⟩
theorem wpList_appo (el : El P T e (.int .u8 0) 1 1) (hgd : Region.wanted o (yielded ops a.tmps) = true) (s x : Operand)
  (ho : o.op = .call { callee := .builtin .append, args := #[s, x], argTypes := #[T, T] })
  (B : Nat) (v : Value) (n : Nat) (xs : List Value) (hs : a.eval s = v) (hown : w.ownsRow B e 1 v n xs)
  (A : Option Addr) (m c : Nat) (l : List UInt8) (hx : a.eval x = .slice A m c) (hr : Rd w A m l) (hb : n + m <= 1000000000) (hB : B <= w.heap.size)
  (h : ∀ v' w', w'.ownsRow B e 1 v' (n + m) (xs ++ cells l) -> w.grownBy w' v.ownBlock -> (v'.ownBlock = v.ownBlock \/ v'.ownBlock = some w.heap.size) -> wpList P ops Q rest (a.put o.dst v') w') : wpList P ops Q (o :: rest) a w :=
 wpList_w hgd fun _ hK => by
  obtain ⟨v', w', hrun, h2, h3, h4⟩ := run_appo el o.type B v n xs hown A m c l hr hb hB
  unfold Oper.wp execOp
  simp only [ho, resolve, invoke, builtin, Sem.run_bind, Sem.run_pure, Result.andThen_ok, List.map_toArray, List.map_cons, List.map_nil, hs, hx, hrun]
  exact hK _ _ (h v' w' h2 h3 h4)
end
def ClGoes (w : World) (own : Nat -> Prop) (p : Nat) (s : Co) (w' : World) : Prop :=
 Fr own w w' /\ ∃ own', (∀ x, own' x -> own x \/ w.heap.size <= x) /\ (∀ x, own' x -> x < w'.heap.size) /\ ∃ v, ClAt w' own' p v s
section
variable {w w1 w' : World} {own : Nat -> Prop} {p : Nat} {v : Value} {s : Co}
theorem ClGoes.of (dom : ∀ x, own x -> x < w.heap.size) {v' : Value} {s' : Co} (hf : Fr own w w') (h : ClAt w' own p v' s') : ClGoes w own p s' w' :=
 ⟨hf, own, fun _ hx => .inl hx, fun x hx => Nat.lt_of_lt_of_le (dom x hx) hf.size, v', h⟩
theorem ClGoes.still (dom : ∀ x, own x -> x < w.heap.size) (h : ClAt w own p v s) (hb : Below w.heap.size w w') : ClGoes w own p s w' :=
 .of dom (Fr.ofBelow own hb) (h.below hb)
theorem ClGoes.pre {s' : Co} (hb : Below w.heap.size w w1) (h : ClGoes w1 own p s' w') : ClGoes w own p s' w' := by
 obtain ⟨hf, own', h1, h2⟩ := h
 exact ⟨(Fr.ofBelow own hb).trans hf, own', fun y hy => (h1 y hy).imp id (fun h => Nat.le_trans hb.size h), h2⟩
theorem ClAt.turned (h : ClAt w own p v s) {k : Nat} {b : List UInt8} (hk : k < s.rows.length) (hb : b.length = s.sz) (hf : Fr (fun x => v.ownBlock = some x) w w') (hr : w'.ownsRow 0 5 1 v s.bytes.length (splice (cells s.bytes) (k * s.sz) (cells b))) : ClAt w' own p v (s.set k b) := by
 have e := Co.set_bytes h.ok k hk b hb
 have hl : (s.set k b).rows.length = s.rows.length := by simp [Co.set]
 have hl2 : (s.set k b).bytes.length = s.bytes.length := by rw [(h.ok.set k b hb).len, h.ok.len, hl]; rfl
 exact {
  blk := by rw [hl]; exact h.blk.fr hf (fun e => h.ne p e rfl)
  row := by rw [hl2, <- e]; exact hr
  ownp := h.ownp
  ownv := h.ownv
  ne := h.ne
  ok := h.ok.set k b hb }
theorem Set_no (dom : ∀ x, own x -> x < w.heap.size) (h : ClAt w own p v s) (i : Int) (hi : ¬ (0 <= i /\ i < s.rows.length)) (A : Option Addr) (n c : Nat) :
  Calls Tryz.prog 118 #[.pointer (some ⟨p, 0, none⟩), .int .i64 i, .slice A n c] w fun e w' => e = .returned (.int .i64 2) /\ ClGoes w own p s w' := by
 have CK := hi_ (check_no h i hi)
 have HG := hi_ (ClGoes.still dom h (Below.refl _ _))
 clear h hi
 go_enter Tryz.func118, Tryz.ntmps118
 go_wp2_with (go_at_call 132; refine CK.out.mono ?_; rintro e w' ⟨rfl, rfl⟩)
 go_ret
 exact ⟨rfl, HG.out⟩
theorem Set_size (dom : ∀ x, own x -> x < w.heap.size) (h : ClAt w own p v s) (i : Int) (hi : 0 <= i /\ i < s.rows.length) (A : Option Addr) (n c : Nat) (hn : n ≠ s.sz) :
  Calls Tryz.prog 118 #[.pointer (some ⟨p, 0, none⟩), .int .i64 i, .slice A n c] w fun e w' => e = .returned (.int .i64 7) /\ ClGoes w own p s w' := by
 have CK := hi_ (check_ok h i hi)
 have HG := hi_ (ClGoes.still dom h (Below.refl _ _))
 have c0 := h.c0
 have hn' : ¬ ((n : Int) = (s.sz : Int)) := by omega
 clear h hi
 go_enter Tryz.func118, Tryz.ntmps118
 go_wp2_with (go_at_call 132; refine CK.out.mono ?_; rintro e w' ⟨rfl, rfl⟩)
 go_ret
 exact ⟨rfl, HG.out⟩
theorem Set_ok (dom : ∀ x, own x -> x < w.heap.size) (h : ClAt w own p v s) (k : Nat) (hk : k < s.rows.length) (A : Option Addr) (c : Nat) (b : List UInt8) (hb : Rd w A s.sz b) :
  Calls Tryz.prog 118 #[.pointer (some ⟨p, 0, none⟩), .int .i64 k, .slice A s.sz c] w fun e w' => e = .returned (.int .i64 0) /\ ClGoes w own p (s.set k b) w' := by
 have CK := hi_ (check_ok h (k : Int) ⟨by omega, by omega⟩)
 have CR := hi_ (row_any h k hk)
 have c0 := h.c0
 have hf := Co.fit (s := s) hk
 rw [<- h.ok.len] at hf
 have HF := hi_ hf
 have H := hi_ h
 have HB := hi_ hb
 have DOM := hi_ dom
 clear h hb dom hf
 go_enter Tryz.func118, Tryz.ntmps118
 go_wp2_with (first
  | (go_at_call 132; refine CK.out.mono ?_; rintro e w' ⟨rfl, rfl⟩)
  | (go_at_call 134; refine CR.out.mono ?_; rintro e w1 ⟨⟨A1, rfl, hA1⟩, hB1⟩; have HA1 := hi_ hA1; have HB1 := hi_ hB1; clear hA1 hB1)
  | (with_reducible refine wpList_cpo bytesT rfl (.tmp 23) (.tmp 24) rfl (H.out.below HB1.out).row s.sz (k * s.sz) s.sz A1 HA1.out HF.out rfl A c b rfl (HB.out.below (Nat.le_refl _) HB1.out) ?_; intro w2 hO2 hF2; have HO2 := hi_ hO2; have HF2 := hi_ hF2; clear hO2 hF2))
 go_ret
 exact ⟨rfl, ClGoes.pre HB1.out (ClGoes.of (fun x hx => Nat.lt_of_lt_of_le (DOM.out x hx) HB1.out.size) (HF2.out.mono (fun x hx => H.out.ownv x hx)) ((H.out.below HB1.out).turned hk HB.out.1 HF2.out HO2.out))⟩
theorem Get_ok (h : ClAt w own p v s) (k : Nat) (hk : k < s.rows.length) :
  Calls Tryz.prog 86 #[.pointer (some ⟨p, 0, none⟩), .int .i64 k] w fun e w' => ∃ g, e = .returned (.tuple #[.slice (some ⟨g, 0, none⟩) s.sz s.sz, .int .i64 0]) /\ w.heap.size <= g /\ w'.ownsRow g 5 1 (.slice (some ⟨g, 0, none⟩) s.sz s.sz) s.sz (cells (s.rows.getD k [])) /\ Below w.heap.size w w' := by
 have CK := hi_ (check_ok h (k : Int) ⟨by omega, by omega⟩)
 have CR := hi_ (row_any h k hk)
 have hz := h.ok.z
 have H := hi_ h
 clear h
 go_enter Tryz.func86, Tryz.ntmps86
 go_wp2_with (first
  | (go_at_call 132; refine CK.out.mono ?_; rintro e w' ⟨rfl, rfl⟩)
  | (go_at_call 134; refine CR.out.mono ?_; rintro e w1 ⟨⟨A1, rfl, hA1⟩, hB1⟩; have HA1 := hi_ hA1; have HB1 := hi_ hB1; clear hA1 hB1)
  | (go_at_call 133; refine (fresh_any A1 s.sz s.sz _ w1 ((H.out.below HB1.out).rd k hk HA1.out) (by omega)).mono ?_; rintro e w2 ⟨rfl, hO2, hB2⟩))
 go_ret2
 exact ⟨_, rfl, HB1.out.size, hO2, HB1.out.trans (hB2.mono HB1.out.size)⟩
end
end Go.Proofs.YtaoinkjjmakhaaaGreatDoor
namespace Go.Proofs.YtaoinkjjmakhaaaGreatDoor
open Go.RowKit
section
variable {w w1 w' : World} {own : Nat -> Prop} {p : Nat} {v : Value} {s : Co}
theorem ob_len (A : Option Addr) (n m c : Nat) : (Value.slice A n c).ownBlock = (Value.slice A m c).ownBlock := by cases A <;> rfl
theorem Add_ok (dom : ∀ x, own x -> x < w.heap.size) (h : ClAt w own p v s) (A : Option Addr) (n c : Nat) (b : List UInt8) (hb : Rd w A n b) (hn : n = s.sz) (hf : s.rows.length ≠ 1024) :
  Calls Tryz.prog 153 #[.pointer (some ⟨p, 0, none⟩), .slice A n c] w fun e w' => e = .returned (.int .i64 0) /\ ClGoes w own p (s.add b) w' := by
 subst hn
 have c0 := h.c0
 have c1 := h.c1
 have c2 := h.c2
 have f1 := h.fz 1
 have f2 := h.fz 2
 have hn := h.ok.n
 have hz := h.ok.z
 have hs := h.ok.small
 have hf' : ¬ ((s.rows.length : Int) = 1024) := by omega
 have hfr : Fr own w w := Fr.refl _ _
 have H := hi_ h
 have HB := hi_ hb
 have DOM := hi_ dom
 have HF := hi_ hf
 clear h hb dom hf
 go_enter Tryz.func153, Tryz.ntmps153
 go_wp2_with (at_builtin; refine wpList_appo bytesT rfl (.tmp 23) (.tmp 24) rfl 0 v _ _ rfl H.out.row A s.sz c b rfl HB.out (by omega) (Nat.zero_le _) ?_; intro v2 w2 ho2 hg2 hv2; have hR2 := H.out.blk.fr (Fr.grown hg2 (own := fun x => v.ownBlock = some x) (fun x hx => hx)) (fun e => H.out.ne p e rfl); have k2 : w2.cell? ⟨p, 2, none⟩ = some v := hR2.at_ 2; have k1 : w2.cell? ⟨p, 1, none⟩ = some (.int .i64 (s.rows.length : Nat)) := hR2.at_ 1; have e2 := hR2.fz 2; have e1 := hR2.fz 1; obtain ⟨A2, c2, rfl, _, _, _, _⟩ := own_opens ho2; have HO2 := hi_ ho2; have HG2 := hi_ hg2; have HV2 := hi_ hv2; have HR2 := hi_ hR2; clear ho2 hg2 hv2 hR2)
 go_ret
 have hG := HG2.out
 have hne : ∀ x, (Value.slice A2 (s.bytes.length + s.sz) c2).ownBlock = some x -> x ≠ p := fun x hx => by
  rcases HV2.out with h1 | h1
  ·exact H.out.ne x (h1 ▸ hx)
  ·have := H.out.lt
   rw [h1] at hx
   injection hx with hx
   omega
 have hs1 : Fr (· = p) w2 (w2.setCell ⟨p, 2, none⟩ (.slice A2 (s.bytes.length + s.sz) c2)) := Fr.setCell (own := (· = p)) w2 (p := ⟨p, 2, none⟩) rfl _
 have hs2 : Fr (· = p) (w2.setCell ⟨p, 2, none⟩ (.slice A2 (s.bytes.length + s.sz) c2)) ((w2.setCell ⟨p, 2, none⟩ (.slice A2 (s.bytes.length + s.sz) c2)).setCell ⟨p, 1, none⟩ (.int .i64 ((s.rows.length : Int) + 1))) := Fr.setCell (own := (· = p)) _ (p := ⟨p, 1, none⟩) rfl _
 have hF : Fr own w _ := ((Fr.grown hG (own := own) (fun x hx => H.out.ownv x hx)).trans (hs1.mono (fun x hx => by rw [show x = p from hx]; exact H.out.ownp))).trans (hs2.mono (fun x hx => by rw [show x = p from hx]; exact H.out.ownp))
 have hadd : ((s.add b).rows.length : Nat) = s.rows.length + 1 := by simp [Co.add]
 have hlen : (s.add b).bytes.length = s.bytes.length + s.sz := by rw [Co.add_bytes, List.length_append, HB.out.1]
 refine ⟨rfl, hF, fun x => own x \/ (w.heap.size <= x /\ x < ((w2.setCell ⟨p, 2, none⟩ (.slice A2 (s.bytes.length + s.sz) c2)).setCell ⟨p, 1, none⟩ (.int .i64 ((s.rows.length : Int) + 1))).heap.size), fun x hx => hx.imp id (fun h => h.1), fun x hx => ?_, .slice A2 (s.bytes.length + s.sz) c2, ?_⟩
 ·rcases hx with h | h
  ·exact Nat.lt_of_lt_of_le (DOM.out x h) hF.size
  ·exact h.2
 ·exact {
   blk := by
    have := (HR2.out.set 2 (.slice A2 (s.bytes.length + s.sz) c2)).set 1 (.int .i64 ((s.rows.length : Int) + 1))
    rw [hadd]
    exact this
   row := by
    rw [hlen, Co.add_bytes, cells_append]
    exact own_fr (own_fr HO2.out hs1 (fun x hx => hne x hx)) hs2 (fun x hx => hne x hx)
   ownp := .inl H.out.ownp
   ownv := fun x hx => by
    rcases HV2.out with h1 | h1
    ·exact .inl (H.out.ownv x (h1 ▸ hx))
    ·refine .inr ⟨?_, Nat.lt_of_lt_of_le ?_ (Nat.le_trans hs1.size hs2.size)⟩
     ·rw [h1] at hx
      injection hx with hx
      omega
     ·rcases HO2.out.2 with ⟨hn, _⟩ | ⟨g, cap, cur, hv, _, hh, _⟩
      ·rw [hn] at hx; cases hx
      ·rw [hv] at hx
       injection hx with hx
       exact hx ▸ (Array.getElem?_eq_some_iff.1 hh).1
   ne := hne
   ok := H.out.ok.add b HB.out.1 HF.out }
theorem Drop_ok (dom : ∀ x, own x -> x < w.heap.size) (h : ClAt w own p v s) (k : Nat) (hk : k < s.rows.length) :
  Calls Tryz.prog 166 #[.pointer (some ⟨p, 0, none⟩), .int .i64 k] w fun e w' => e = .returned (.int .i64 0) /\ ClGoes w own p (s.drop k) w' := by
 have CK := hi_ (check_ok h (k : Int) ⟨by omega, by omega⟩)
 have CR := hi_ (row_any h k hk)
 have c1 := h.c1
 have hf := Co.fit (s := s) hk
 rw [<- h.ok.len] at hf
 have hla : s.rows.length - 1 < s.rows.length := by omega
 have hcut := Co.fit (s := s) hla
 rw [<- h.ok.len] at hcut
 have hn := h.ok.n
 have hz := h.ok.z
 have hs := h.ok.small
 obtain ⟨A, c, rfl, hc, hm, _, _⟩ := own_opens h.row
 obtain ⟨L, hL⟩ : ∃ L, L = s.rows.length - 1 := ⟨_, rfl⟩
 have e1 : (s.rows.length : Int) - 1 = (L : Int) := by omega
 have HC := hi_ hcut
 have E1 := hi_ e1
 have HL := hi_ hL
 have HF := hi_ hf
 have H := hi_ h
 have DOM := hi_ dom
 rw [<- hL] at hla hcut
 have HLA := hi_ hla
 obtain ⟨lr, hlr⟩ : ∃ lr, lr = s.rows.getD L [] := ⟨_, rfl⟩
 have hll : lr.length = s.sz := by rw [hlr]; exact h.ok.getD hla
 have e3 : (L : Int) * (s.sz : Int) = ((L * s.sz : Nat) : Int) := by push_cast; rfl
 have hdr : s.drop k = (s.set k lr).cut := by unfold Co.drop; rw [hlr, hL]
 have HDR := hi_ hdr
 have HLR := hi_ hlr
 have HK := hi_ hk
 have HLL := hi_ hll
 have E3 := hi_ e3
 clear h dom hf hcut hL e1 hla hlr e3 hdr hk hll
 go_enter Tryz.func166, Tryz.ntmps166
 go_wp2_with (first
  | (rw [E1.out])
  | (go_at_call 132; refine CK.out.mono ?_; rintro e w' ⟨rfl, rfl⟩)
  | (go_at_call 134; refine CR.out.mono ?_; clear CR; rintro e w1 ⟨⟨A1, rfl, hA1⟩, hB1⟩; have HA1 := hi_ hA1; have HB1 := hi_ hB1; have H1 := hi_ (H.out.below hB1); clear hA1 hB1)
  | (go_at_call 134; refine (row_any H1.out L HLA.out).mono ?_; rintro e w2 ⟨⟨A2, rfl, hA2⟩, hB2⟩; have HR2 := hi_ (((H1.out.below hB2).rd L HLA.out hA2)); have HB2 := hi_ (HB1.out.trans (hB2.mono HB1.out.size)); have H2 := hi_ (H1.out.below hB2); rw [<- HLR.out] at HR2; clear hA2 hB2)
  | (with_reducible refine wpList_cpo bytesT rfl (.tmp 20) (.tmp 23) rfl H2.out.row s.sz (k * s.sz) s.sz A1 HA1.out HF.out rfl A2 s.sz lr rfl HR2.out ?_; intro w3 hO3 hF3))
 have H3 := (H2.out.turned HK.out HLL.out hF3 hO3)
 have q0 : w3.drew.cell? ⟨p, 0, none⟩ = some (.int .i64 (s.sz : Nat)) := H3.c0
 have q2 : w3.drew.cell? ⟨p, 2, none⟩ = some (.slice A s.bytes.length c) := H3.c2
 have f2 : w3.drew.frozen? ⟨p, 2, none⟩ = false := H3.fz 2
 have f1 : w3.drew.frozen? ⟨p, 1, none⟩ = false := H3.fz 1
 obtain ⟨M, hM⟩ : ∃ M, M = L * s.sz := ⟨_, rfl⟩
 have e4 : IntKind.i64.wrap ((L : Int) * (s.sz : Int)) = (M : Int) := by
  have h1 := HC.out
  rw [<- HL.out, <- hM] at h1
  rw [E3.out, <- hM, IntKind.wrap_i64]
  omega
 have hMc : (M : Int) <= (c : Int) := by have := HC.out; have := HL.out; rw [<- HL.out, <- hM] at *; omega
 have hM0 : (0 : Int) <= (M : Int) := by omega
 have HMM := hi_ hM
 clear hM
 obtain ⟨w4, hw4⟩ : ∃ w4, w4 = (w3.setCell ⟨p, 2, none⟩ (.slice A M c)).drew := ⟨_, rfl⟩
 have hs1 : Fr (· = p) w3 w4 := by rw [hw4]; exact (Fr.setCell (own := (· = p)) w3 (p := ⟨p, 2, none⟩) rfl _).trans (Fr.drew _ _)
 have hB4 : Rec 229 w4 p #[.int .i64 (s.sz : Nat), .int .i64 ((s.set k lr).rows.length : Nat), .slice A M c] := by
  rw [hw4]
  exact (H3.blk.set 2 (.slice A M c)).block rfl
 have e1 : w4.frozen? ⟨p, 1, none⟩ = false := hB4.fz 1
 have d1 : w4.cell? ⟨p, 1, none⟩ = some (.int .i64 ((s.set k lr).rows.length : Nat)) := hB4.at_ 1
 have HB4 := hi_ hB4
 have HS1 := hi_ hs1
 have HW4 := hi_ hw4
 clear hw4 hB4 hs1
 have HH3 := hi_ H3
 have HF3 := hi_ hF3
 clear H3 hF3 hO3 H2 HR2 HA1 H1 CK c1
 go_region
 all_goals
  rw [<- HW4.out]
  go_wp2
  go_ret
  have hok := H.out.ok.set k lr HLL.out
  have hb : (s.set k lr).bytes.length = s.bytes.length := by rw [hok.len, H.out.ok.len]; simp [Co.set]
  have hrl : (s.set k lr).rows.length - 1 = L := by rw [HL.out]; simp [Co.set]
  have hcl : (s.set k lr).cut.rows.length = L := by simp only [Co.cut, List.length_take]; omega
  have hcb : (cells (s.set k lr).bytes).take M = cells (s.set k lr).cut.bytes := by
   rw [<- cells_take, HMM.out, <- hrl]
   exact congrArg cells (Co.cut_bytes hok)
  have hr := HH3.out.row
  rw [hb] at hr
  have hr2 := own_less hr (m := M) (by have := HC.out; rw [<- HL.out, <- HMM.out] at this; omega)
  rw [hcb] at hr2
  have hne := HH3.out.ne
  have hs2 : Fr (· = p) w4 (w4.setCell ⟨p, 1, none⟩ (.int .i64 (L : Int))) := Fr.setCell (own := (· = p)) _ (p := ⟨p, 1, none⟩) rfl _
  have hs := HS1.out.trans hs2
  have hrow := own_fr hr2 hs (fun x hx e => hne x ((ob_len A M s.bytes.length c).symm ▸ hx) e)
  rw [HDR.out]
  refine ⟨rfl, ClGoes.pre HB2.out (ClGoes.of (fun x hx => Nat.lt_of_lt_of_le (DOM.out x hx) HB2.out.size) ((HF3.out.mono (fun x hx => H.out.ownv x hx)).trans (hs.mono (fun x hx => by rw [show x = p from hx]; exact H.out.ownp))) (v' := .slice A M c) ?_)⟩
  exact {
   blk := by
    have := HB4.out.set 1 (.int .i64 (L : Int))
    rw [hcl]
    exact this
   row := by
    have hl2 := hr2.1
    rw [cells_length, Nat.mul_one] at hl2
    rw [hl2]
    exact hrow
   ownp := H.out.ownp
   ownv := fun x hx => H.out.ownv x ((ob_len A M s.bytes.length c).symm ▸ hx)
   ne := fun x hx => hne x ((ob_len A M s.bytes.length c).symm ▸ hx)
   ok := hok.cut }
end
end Go.Proofs.YtaoinkjjmakhaaaGreatDoor
namespace Go.Proofs.YtaoinkjjmakhaaaGreatDoor
open Go.RowKit
section
variable {w w1 w' : World} {own : Nat -> Prop} {p : Nat} {v : Value} {s : Co}
theorem Set_any (dom : ∀ x, own x -> x < w.heap.size) (h : ClAt w own p v s) (i : Int) (A : Option Addr) (n c : Nat) (b : List UInt8) (hb : Rd w A n b) :
  Calls Tryz.prog 118 #[.pointer (some ⟨p, 0, none⟩), .int .i64 i, .slice A n c] w fun e w' => e = .returned (.int .i64 (s.go 1 i b).2.2) /\ ClGoes w own p (s.go 1 i b).1 w' := by
 have hbl := hb.1
 by_cases hi : 0 <= i /\ i < s.rows.length
 ·by_cases hn : b.length = s.sz
  ·have e : s.go 1 i b = (s.set i.toNat b, [], 0) := by unfold Co.go; rw [if_pos rfl, if_pos hi, if_pos hn]
   rw [e]
   obtain ⟨k, rfl⟩ : ∃ k : Nat, i = (k : Int) := ⟨i.toNat, by omega⟩
   obtain rfl : n = s.sz := by omega
   exact Set_ok dom h k (by omega) A c b hb
  ·have e : s.go 1 i b = (s, [], 7) := by unfold Co.go; rw [if_pos rfl, if_pos hi, if_neg hn]
   rw [e]
   exact Set_size dom h i hi A n c (by omega)
 ·have e : s.go 1 i b = (s, [], 2) := by unfold Co.go; rw [if_pos rfl, if_neg hi]
  rw [e]
  exact Set_no dom h i hi A n c
end
section
variable {w : World} {own : Nat -> Prop} {p : Nat} {v : Value} {s : Co}
theorem Load_ok (size : Int) (t : Co) (ht : t.Ok) (hz : t.sz = (Co.new size).sz) (A : Option Addr) (n c : Nat) (hr : Rd w A n t.bytes) :
  Calls Tryz.prog 103 #[.int .i64 size, .int .i64 (t.rows.length : Nat), .slice A n c] w fun e w' => e = .returned (.tuple #[.pointer (some ⟨w.heap.size, 0, none⟩), .int .i64 0]) /\ Below w.heap.size w w' /\ ∃ v, ClAt w' (fun x => w.heap.size <= x /\ x < w'.heap.size) w.heap.size v t := by
 have CN := hi_ (ClNew_any size w)
 have hl := ht.len
 have hs := ht.small
 have hn1 := ht.n
 have hz1 := ht.z
 have hnl := hr.1
 have e1 : wrap64 ((t.rows.length : Int) * (t.sz : Int)) = (n : Int) := by
  rw [show (t.rows.length : Int) * (t.sz : Int) = ((t.rows.length * t.sz : Nat) : Int) by push_cast; rfl]
  unfold wrap64; omega
 have hp : (t.rows.length : Int) * (t.sz : Int) = (n : Int) := by
  rw [show (t.rows.length : Int) * (t.sz : Int) = ((t.rows.length * t.sz : Nat) : Int) by push_cast; rfl]
  omega
 obtain ⟨L, hL⟩ : ∃ L, L = t.rows.length := ⟨_, rfl⟩
 rw [<- hL] at hn1 hp ⊢
 have HT := hi_ ht
 have HL := hi_ hL
 have HR := hi_ hr
 have HZ := hi_ hz
 clear ht hL hr hz e1 hl
 go_enter Tryz.func103, Tryz.ntmps103
 go_wp2_with (first
  | (go_at_call 148; refine CN.out.mono ?_; rintro e w1 ⟨rfl, hB1, hlt1, hC1⟩; have c0 := hC1.c0; rw [<- HZ.out] at c0; have f1 := hC1.fz 1; have k1 := hC1.c1; have HC1 := hi_ hC1; have HB1 := hi_ hB1; clear hC1 hB1))
 obtain ⟨w2, hw2⟩ : ∃ w2, w2 = w1.setCell ⟨w.heap.size, 1, none⟩ (.int .i64 (L : Int)) := ⟨_, rfl⟩
 have hB2 : Below w.heap.size w w2 := by rw [hw2]; exact HB1.out.setCell (p := ⟨w.heap.size, 1, none⟩) (Nat.le_refl _) _
 have hR2 : Rec 229 w2 w.heap.size #[.int .i64 (t.sz : Nat), .int .i64 (L : Nat), nilv] := by
  rw [hw2, HZ.out]
  exact HC1.out.blk.set 1 _
 rw [<- hw2]
 clear hw2 c0 f1 k1
 refine (fresh_any A n c t.bytes w2 (HR.out.below (Nat.le_refl _) hB2) (by omega)).mono ?_
 rintro e w3 ⟨rfl, hO3, hB3⟩
 have hR3 := hR2.under hB3
 have f2 := hR3.fz 2
 have k2 : w3.cell? ⟨w.heap.size, 2, none⟩ = some nilv := hR3.at_ 2
 have HR3 := hi_ hR3
 have HO3 := hi_ hO3
 have HB3 := hi_ (hB2.trans (hB3.mono hB2.size))
 have HLT := hi_ hR2.lt
 clear hR3 hO3 hB3 hR2 hB2
 go_wp2
 go_ret2
 have hs2 : Fr (· = w.heap.size) w3 (w3.setCell ⟨w.heap.size, 2, none⟩ (.slice (some ⟨w2.heap.size, 0, none⟩) n n)) := Fr.setCell (own := (· = w.heap.size)) w3 (p := ⟨w.heap.size, 2, none⟩) rfl _
 have hx2 : w2.heap.size < w3.heap.size := by
  rcases HO3.out.2 with ⟨hn, _⟩ | ⟨g, cap, cur, hv, _, hh, _⟩
  ·cases hn
  ·injection hv with hv
   injection hv with hv
   injection hv with hv
   rw [hv]
   exact (Array.getElem?_eq_some_iff.1 hh).1
 have hlt := HLT.out
 have hsz := hs2.size
 refine ⟨rfl, HB3.out.setCell (p := ⟨w.heap.size, 2, none⟩) (Nat.le_refl _) _, .slice (some ⟨w2.heap.size, 0, none⟩) n n, ?_⟩
 exact {
  blk := by
   rw [<- HL.out]
   exact HR3.out.set 2 _
  row := by
   rw [hnl]
   exact own_mono (own_fr HO3.out hs2 (fun x hx e => by injection hx with hx; have hx' : w2.heap.size = x := hx; have e' : x = w.heap.size := e; omega)) (Nat.zero_le _)
  ownp := ⟨Nat.le_refl _, by omega⟩
  ownv := fun x hx => by injection hx with hx; have hx' : w2.heap.size = x := hx; exact ⟨by omega, by omega⟩
  ne := fun x hx => by injection hx with hx; have hx' : w2.heap.size = x := hx; omega
  ok := HT.out }
end
end Go.Proofs.YtaoinkjjmakhaaaGreatDoor
