/- Mem, Tk, Num, Le1, Le1w, Base, Le2, Le3, Le4s, Le5, CrcM, SealM, Seal1n, Seal1, NumB, CmM, GmM -/
import Derived.Test.YthabmlbmlncbmaaGreatRows
import Derived.WalkKit
import Derived.ProofKit
import Derived.OpenShut
import Derived.WalkLawsBesides
import Derived.WalkSpells
import Derived.Lib.Hide
import Derived.Lib.AppendStr
import Derived.Laws.BytesArg
import Derived.Laws.IdiomStrings
import Derived.Laws.OwnMore
import Derived.Laws.AppendOwnNone
import Derived.Laws.CopyOwn
import Derived.Maps.AppendAt
import Derived.Deep.AppendLies
import Derived.Deep.Draws
import Derived.RegionTactic
import Derived.Handy
import Derived.Deep.RegionHeld
import Derived.OrdersHeld
import Derived.KernelRfl
import Derived.Laws.BitsAllLaws
import Derived.Laws.BitsLemmas
namespace Go.Proofs.YthabmlbmlncbmaaGreat
theorem sA_ {α : Type} (l : List α) (i : Nat) (a : α) : l.toArray.setIfInBounds i a = (l.set i a).toArray := List.setIfInBounds_toArray ..
theorem sB_ {α : Type} (a : α) (l : List α) (b : α) : (a :: l).set 0 b = b :: l := rfl
theorem sC_ {α : Type} (a : α) (l : List α) (n : Nat) (b : α) : (a :: l).set (n + 1) b = a :: l.set n b := rfl
theorem hi_ {p : Prop} (h : p) : RowKit.Hid p := Lib.hid h
open Go Go.RowKit
section
variable {P : Program} {ops : Array Oper} {Q : Exit → Act → World → Prop} {md : Region.Mode} {S : World → Prop} {oi : Oper} {v : Value} {fuel : Nat} {listed : Array Bool} {a : Act} {w : World}
theorem tk_ (i : Nat) (oi : Oper) (hS : S w) (h : wpAnyH P md ops Q S fuel (listed.setIfInBounds i true) (a.put oi.dst v) w)
    (hi : ops[i]? = some oi := by rfl) (hs : Region.noSelect ops = true := by kernel_rfl) (hf : Region.free md ops listed i = true := by kernel_rfl) (hr : (Region.ready md ops listed).contains i = true := by kernel_rfl)
    (hQ : ∀ c a w, Q (.panic c) (a.put oi.dst v) w → Q (.panic c) a w := by exact fun _ _ _ h => h)
    (hw : Region.wanted oi (yielded ops a.tmps) = true := by rfl)
    (hy : ∀ w, S w → (execOp a.eval oi).run P w = .ok (.value v) w := by (intro w' hSw; (try dsimp only at hSw); go_simp; (try with_reducible rfl))) : wpAnyH P md ops Q S (fuel + 1) listed a w :=
  wpAnyH_take hi hs hf hr hQ (.inl ⟨hw, hy⟩) hS h
theorem sk_ (i : Nat) (oi : Oper) (hS : S w) (h : wpAnyH P md ops Q S fuel (listed.setIfInBounds i true) (a.put oi.dst undef) w)
    (hi : ops[i]? = some oi := by rfl) (hs : Region.noSelect ops = true := by kernel_rfl) (hf : Region.free md ops listed i = true := by kernel_rfl) (hr : (Region.ready md ops listed).contains i = true := by kernel_rfl)
    (hQ : ∀ c a w, Q (.panic c) (a.put oi.dst undef) w → Q (.panic c) a w := by exact fun _ _ _ h => h)
    (hw : Region.wanted oi (yielded ops a.tmps) = false := by rfl) : wpAnyH P md ops Q S (fuel + 1) listed a w :=
  wpAnyH_take hi hs hf hr hQ (.inr ⟨hw, rfl⟩) hS h
/-- The same, the frame behind it laid open too. -/
theorem tj_ {a' : Act} (i : Nat) (oi : Oper) (hS : S w)
    (hi : ops[i]? = some oi := by rfl) (hs : Region.noSelect ops = true := by kernel_rfl) (hf : Region.free md ops listed i = true := by kernel_rfl) (hr : (Region.ready md ops listed).contains i = true := by kernel_rfl)
    (hw : Region.wanted oi (yielded ops a.tmps) = true := by rfl)
    (hy : ∀ w, S w → (execOp a.eval oi).run P w = .ok (.value v) w := by (intro w' hSw; (try dsimp only at hSw); go_simp; (try with_reducible rfl)))
    (he : a.put oi.dst v = a' := by (simp only [Act.put, List.setIfInBounds_toArray, List.set_cons_zero, List.set_cons_succ]; (try with_reducible rfl)))
    (hQ : ∀ c a w, Q (.panic c) (a.put oi.dst v) w → Q (.panic c) a w := by exact fun _ _ _ h => h)
    (h : wpAnyH P md ops Q S fuel (listed.setIfInBounds i true) a' w) : wpAnyH P md ops Q S (fuel + 1) listed a w :=
  wpAnyH_take hi hs hf hr hQ (.inl ⟨hw, hy⟩) hS (he ▸ h)
theorem sj_ {a' : Act} (i : Nat) (oi : Oper) (hS : S w)
    (hi : ops[i]? = some oi := by rfl) (hs : Region.noSelect ops = true := by kernel_rfl) (hf : Region.free md ops listed i = true := by kernel_rfl) (hr : (Region.ready md ops listed).contains i = true := by kernel_rfl)
    (hw : Region.wanted oi (yielded ops a.tmps) = false := by rfl)
    (he : a.put oi.dst undef = a' := by (simp only [Act.put, List.setIfInBounds_toArray, List.set_cons_zero, List.set_cons_succ]; (try with_reducible rfl)))
    (hQ : ∀ c a w, Q (.panic c) (a.put oi.dst undef) w → Q (.panic c) a w := by exact fun _ _ _ h => h)
    (h : wpAnyH P md ops Q S fuel (listed.setIfInBounds i true) a' w) : wpAnyH P md ops Q S (fuel + 1) listed a w :=
  wpAnyH_take hi hs hf hr hQ (.inr ⟨hw, rfl⟩) hS (he ▸ h)
end
end Go.Proofs.YthabmlbmlncbmaaGreat
namespace Go.Proofs.YthabmlbmlncbmaaGreat
open Go.RowKit
theorem ret_int {k : IntKind} {a b : Int} (h : a = b) : Ending.returned (.int k a) = .returned (.int k b) := by rw [h]
theorem ret_bool {a b : Bool} (h : a = b) : Ending.returned (.bool a) = .returned (.bool b) := by rw [h]
def cells (l : List UInt8) : List Value := l.map fun b => Value.int .u8 (b.toNat : Int)
@[simp] theorem cells_length (l : List UInt8) : (cells l).length = l.length := by simp [cells]
theorem cells_append (l m : List UInt8) : cells (l ++ m) = cells l ++ cells m := by simp [cells]
theorem cells_nil : cells [] = [] := rfl
theorem cells_one (l : List UInt8) : ∀ u ∈ cells l, u.oneCell' = true := by
  intro u hu
  obtain ⟨_, _, rfl⟩ := List.mem_map.1 hu
  rfl
theorem cells_get {l : List UInt8} {j : Nat} (h : j < l.length) : (cells l)[j]? = some (.int .u8 (l[j].toNat : Int)) := by
  simp [cells, h]
theorem cells_take (l : List UInt8) (n : Nat) : cells (l.take n) = (cells l).take n := by simp [cells, List.map_take]
theorem cells_drop (l : List UInt8) (n : Nat) : cells (l.drop n) = (cells l).drop n := by simp [cells, List.map_drop]
theorem block_add (a : Addr) (n : Nat) : (a.add n).block = a.block := by unfold Addr.add; split <;> rfl
def Rd (w : World) (A : Option Addr) (n : Nat) (l : List UInt8) : Prop :=
  l.length = n /\ (0 < n -> ∃ b o, A = some ⟨b, o, none⟩ /\ b < w.heap.size /\ ∀ j (h : j < l.length), w.cell? ⟨b, o + j, none⟩ = some (.int .u8 (l[j].toNat : Int)))
section
variable {w w' : World} {A : Option Addr} {n : Nat} {l : List UInt8}
theorem Rd.nil (w : World) (A : Option Addr) : Rd w A 0 [] := ⟨rfl, fun h => absurd h (by omega)⟩
theorem Rd.below {B : Nat} (h : Rd w A n l) (hB : w.heap.size <= B) (hb : Below B w w') : Rd w' A n l :=
  ⟨h.1, fun hn => by
    obtain ⟨b, o, e, hlt, hc⟩ := h.2 hn
    exact ⟨b, o, e, by have := hb.size; omega, fun j hj => (hb.cell (p := ⟨b, o + j, none⟩) (by simp; omega)).trans (hc j hj)⟩⟩
theorem Rd.drew (h : Rd w A n l) : Rd w.drew A n l := h
theorem Rd.alloc (h : Rd w A n l) (o : Obj) : Rd (w.alloc o) A n l := h.below (Nat.le_refl _) ((Below.refl _ _).alloc (Nat.le_refl _) o)
theorem Rd.at_ (h : Rd w A n l) {k : Nat} (hk : k < n) : ∃ b o, A = some ⟨b, o, none⟩ /\ b < w.heap.size /\ w.cell? ⟨b, o + k, none⟩ = some (.int .u8 ((l[k]'(by have := h.1; omega)).toNat : Int)) := by
  obtain ⟨b, o, e, hlt, hc⟩ := h.2 (by omega)
  exact ⟨b, o, e, hlt, hc k (by have := h.1; omega)⟩
theorem Rd.of_own {base : Nat} {e : TypeId} {v : Value} {xs : List Value} (h : w.ownsRow base e 1 v n xs) (hx : xs = cells l) : ∃ A c, v = .slice A n c /\ n <= c /\ c <= maxLen /\ Rd w A n l := by
  subst hx
  have hl : l.length = n := by have := h.1; simpa using this
  rcases h.2 with ⟨rfl, rfl⟩ | ⟨g, cap, cur, rfl, _, hh, hn, hc, _⟩
  · exact ⟨none, 0, rfl, Nat.le_refl _, Nat.zero_le _, hl, fun h => absurd h (by omega)⟩
  · refine ⟨_, cap, rfl, hn, hc, hl, fun _ => ⟨g, 0, rfl, (Array.getElem?_eq_some_iff.1 hh).1, fun j hj => ?_⟩⟩
    have h1 := h.cells (g := g) rfl j _ (cells_get hj)
    rw [Addr.add_lit] at h1
    exact h1
theorem Rd.cells_at {a : Addr} (h : Rd w (some a) n l) : ∀ j u, (cells l)[j]? = some u -> w.cell? (a.add j) = some u := by
  intro j u hu
  have hj : j < l.length := by have := (List.getElem?_eq_some_iff.1 hu).1; simpa using this
  obtain ⟨b, o, e, _, hc⟩ := h.2 (by have := h.1; omega)
  injection e with e
  subst e
  rw [Addr.add_lit, hc j hj, <- cells_get hj, hu]
theorem Rd.part {lo m : Nat} (h : Rd w A n l) (hlo : lo + m <= n) (A' : Option Addr) (hA : 0 < m -> ∀ b o, A = some ⟨b, o, none⟩ -> A' = some ⟨b, o + lo, none⟩) : Rd w A' m ((l.drop lo).take m) := by
  have hl := h.1
  refine ⟨by simp; omega, fun hm => ?_⟩
  obtain ⟨b, o, e, hlt, hc⟩ := h.2 (by omega)
  refine ⟨b, o + lo, hA hm b o e, hlt, fun j hj => ?_⟩
  have hj' : j < m := by simp at hj; omega
  rw [Nat.add_assoc, hc (lo + j) (by omega)]
  simp
end
def str (l : List UInt8) : ByteArray := ⟨l.toArray⟩
theorem run_to_string {P : Program} (src dst e : TypeId) (hs : P.underlying src = some (.slice e)) (he : P.underlying e = some (.int .u8)) (hd : P.underlying dst = some .string)
    (w : World) (A : Option Addr) (n c : Nat) (l : List UInt8) (h : Rd w A n l) : (convert src dst (.slice A n c)).run P w = .ok (.string (str l)) w := by
  obtain ⟨hl, hr⟩ := h
  subst hl
  by_cases h0 : l = []
  · subst h0
    cases A with
    | none => exact run_convert_bytes_nil w src e hs he 0 c dst hd
    | some a => exact run_convert_bytes_back w src dst e a c [] hs he hd (fun j hj => by simp at hj)
  · have hpos : 0 < l.length := List.length_pos_iff.2 h0
    obtain ⟨b, o, rfl, _, hc⟩ := hr hpos
    exact run_convert_bytes_back w src dst e _ c l hs he hd (fun j hj => by rw [Addr.add_lit]; exact hc j hj)
structure El (P : Program) (T e : TypeId) (z : Value) (size bytes : Nat) : Prop where
  und : P.underlying T = some (.slice e)
  info : (P.info? e).map (fun i => (i.zero, i.size, i.bytes)) = some (some z, size, bytes)
  zs : z.cells.size = size
  pos : 0 < size
theorem below_own {w w' : World} {B : Nat} {e : TypeId} {size n : Nat} {v : Value} {xs : List Value} (h : w.ownsRow B e size v n xs) (hB : B <= w.heap.size) (hg : w.grownBy w' v.ownBlock) : Below B w w' :=
  (Below.refl _ _).grown hg hB (fun k hk => (h.lt k hk).1)
theorem own_keep {w w' : World} {B : Nat} {e : TypeId} {size n : Nat} {v : Value} {xs : List Value} (h : w.ownsRow B e size v n xs) (hb : Below w.heap.size w w') : w'.ownsRow B e size v n xs :=
  ⟨h.1, h.2.elim .inl fun ⟨g, cap, cur, e1, e2, hh, r⟩ => .inr ⟨g, cap, cur, e1, e2, (hb.block g (Array.getElem?_eq_some_iff.1 hh).1).trans hh, r⟩⟩
theorem wpList_w {P : Program} {ops : Array Oper} {Q : Exit -> Act -> World -> Prop} {a : Act} {w : World} {rest : List Oper} {o : Oper} (hw : Region.wanted o (yielded ops a.tmps) = true)
    (h : ∀ K : Act -> World -> Prop, (∀ a w, wpList P ops Q rest a w -> K a w) -> o.wp P a w K Q) : wpList P ops Q (o :: rest) a w :=
  wpList_step fun K hK => by rw [if_pos hw]; exact h K hK
section
variable {P : Program} (w : World)
theorem run_app_nil (base : Nat) (t ty e : TypeId) (i : TypeInfo) (size : Nat) (ht : P.underlying t = some (.slice e)) (hi : P.info? e = some i)
    (v : Value) (n : Nat) (xs : List Value) (hown : w.ownsRow base e size v n xs) (c : Nat) : (Builtin.append_ #[t, t] ty #[v, .slice none 0 c]).run P w = .ok v w := by
  rcases hown.2 with ⟨rfl, rfl⟩ | ⟨g, cap, cur, rfl, _, _, hnc, _⟩
  · simp [Builtin.append_, run_underlying ht, sizeOf, typeInfo, hi, Builtin.lenOf, Builtin.firstCells]
  · simp [Builtin.append_, run_underlying ht, sizeOf, typeInfo, hi, Builtin.lenOf, Builtin.firstCells, hnc, storeCells]
theorem run_app {T e : TypeId} (el : El P T e (.int .u8 0) 1 1) (ty : TypeId) (B : Nat) (v : Value) (n : Nat) (xs : List Value) (hown : w.ownsRow B e 1 v n xs)
    (A : Option Addr) (m c : Nat) (l : List UInt8) (hr : Rd w A m l) (hb : n + m <= 140737488355328) (hB : B <= w.heap.size) :
    ∃ v' w', (Builtin.append_ #[T, T] ty #[v, .slice A m c]).run P w = .ok v' w' /\ w'.ownsRow B e 1 v' (n + m) (xs ++ cells l) /\ Below B w w' := by
  obtain ⟨i, hi, hz, h1, h2⟩ := info_parts el.info
  rcases A with _ | ad
  · have hm : m = 0 := by
      rcases Nat.eq_zero_or_pos m with h0 | h0
      · exact h0
      · obtain ⟨_, _, h, _⟩ := hr.2 h0
        cases h
    subst hm
    have hn : l = [] := List.eq_nil_of_length_eq_zero hr.1
    subst hn
    exact ⟨v, w, run_app_nil w B T ty e i 1 el.und hi v n xs hown c, by simpa [cells_nil] using hown, Below.refl _ _⟩
  · obtain ⟨v', w', hrun, ho, hg, _⟩ := run_append_own (P := P) w B T ty e i (.int .u8 0) 1 1 el.und hi hz h1 h2 rfl (by decide) v n xs hown ad m c (cells l) (by simp [hr.1]) hr.cells_at (cells_one l)
      (by unfold maxLen; omega) (by omega) hB
    exact ⟨v', w', hrun, ho, below_own hown hB hg⟩
theorem wpList_app {T e : TypeId} (el : El P T e (.int .u8 0) 1 1) {ops : Array Oper} {rest : List Oper} {o : Oper} {a : Act} {Q : Exit -> Act -> World -> Prop} (hgd : Region.wanted o (yielded ops a.tmps) = true) (s x : Operand)
    (ho : o.op = .call { callee := .builtin .append, args := #[s, x], argTypes := #[T, T] })
    (B : Nat) (v : Value) (n : Nat) (xs : List Value) (hs : a.eval s = v) (hown : w.ownsRow B e 1 v n xs)
    (A : Option Addr) (m c : Nat) (l : List UInt8) (hx : a.eval x = .slice A m c) (hr : Rd w A m l) (hb : n + m <= 140737488355328) (hB : B <= w.heap.size)
    (h : ∀ v' w', w'.ownsRow B e 1 v' (n + m) (xs ++ cells l) -> Below B w w' -> wpList P ops Q rest (a.put o.dst v') w') : wpList P ops Q (o :: rest) a w :=
  wpList_w hgd fun _ hK => by
    obtain ⟨v', w', hrun, h2, h3⟩ := run_app w el o.type B v n xs hown A m c l hr hb hB
    unfold Oper.wp execOp
    simp only [ho, resolve, invoke, builtin, Sem.run_bind, Sem.run_pure, Result.andThen_ok, List.map_toArray, List.map_cons, List.map_nil, hs, hx, hrun]
    exact hK _ _ (h v' w' h2 h3)
end
theorem wpList_mk {P : Program} (w : World) {T e : TypeId} {z : Value} {size bytes : Nat} (el : El P T e z size bytes) {ops : Array Oper} {rest : List Oper} {o : Oper} {a : Act} {Q : Exit -> Act -> World -> Prop} (hgd : o.guard = none) (x y : Operand)
    (ho : o.op = Op.makeSlice T x y) (B : Nat) (kl kc : IntKind) (C : Int) (n : Nat) (hl : a.eval x = .int kl 0) (hc : a.eval y = .int kc C) (hC : C = (n : Int)) (hb : bytes * n <= 281474976710656) (hm : n <= maxLen) (hB : B <= w.heap.size)
    (h : ∀ v w', w'.ownsRow B e size v 0 [] -> Below B w w' -> wpList P ops Q rest (a.put o.dst v) w') : wpList P ops Q (o :: rest) a w := by
  obtain ⟨i, hi, hz, h1, h2⟩ := info_parts el.info
  refine wpList_make_own w hgd x y T ho B e i z size el.und hi hz h1 kl kc C n hl hc hC (by rw [h2]; exact hb) hm hB ?_
  intro w' hown hg
  exact h _ w' hown ((Below.refl _ _).grown hg hB (fun k hk => by cases hk))
theorem wpList_mkn {P : Program} (w : World) {T e : TypeId} {z : Value} {size bytes : Nat} (el : El P T e z size bytes) {ops : Array Oper} {rest : List Oper} {o : Oper} {a : Act} {Q : Exit -> Act -> World -> Prop} (hgd : o.guard = none) (x y : Operand)
    (ho : o.op = Op.makeSlice T x y) (B : Nat) (kl kc : IntKind) (L C : Int) (n : Nat) (hl : a.eval x = .int kl L) (hc : a.eval y = .int kc C) (hL : L = (n : Int)) (hC : C = (n : Int)) (hb : bytes * n <= 281474976710656) (hm : n <= maxLen) (hB : B <= w.heap.size)
    (h : ∀ w', w'.ownsRow B e size (.slice (some ⟨w.heap.size, 0, none⟩) n n) n (madeCells z.cells (n * size)).toList -> Below B w w' -> wpList P ops Q rest (a.put o.dst (.slice (some ⟨w.heap.size, 0, none⟩) n n)) w') : wpList P ops Q (o :: rest) a w := by
  obtain ⟨i, hi, hz, h1, h2⟩ := info_parts el.info
  refine wpList_make_full w hgd x y T ho B e i z size el.und hi hz h1 kl kc L C n hl hc hL hC (by rw [h2]; exact hb) hm hB ?_
  intro w' hown hg
  exact h w' hown ((Below.refl _ _).grown hg hB (fun k hk => by cases hk))
theorem Rd.new (w : World) (e : TypeId) (l : List UInt8) (fr : Nat × Nat) : Rd (w.alloc (.cells (cells l).toArray e fr)) (some ⟨w.heap.size, 0, none⟩) l.length l :=
  ⟨rfl, fun _ => ⟨w.heap.size, 0, rfl, by simp, fun j hj => by
    have h : (w.alloc (.cells (cells l).toArray e fr)).heap[w.heap.size]? = some (.cells (cells l).toArray e fr) := by
      show (w.heap.push _)[w.heap.size]? = _
      simp
    rw [cell_of_row _ w.heap.size (0 + j) _ e fr h]
    simpa using cells_get hj⟩⟩
theorem own_full {w : World} {B : Nat} {e : TypeId} {g k : Nat} {xs : List Value} (h : w.ownsRow B e 1 (.slice (some ⟨g, 0, none⟩) k k) k xs) : B <= g /\ k <= maxLen /\ w.heap[g]? = some (.cells xs.toArray e (0, 0)) := by
  rcases h.2 with ⟨h, _⟩ | ⟨g', cap, cur, hv, hB, hh, hn, hc, hs, ht⟩
  · cases h
  · injection hv with h1 h2 h3
    injection h1 with h1
    injection h1 with h1
    subst h1; subst h3
    refine ⟨hB, hc, ?_⟩
    rw [<- ht, List.take_of_length_le (by simp; omega)]
    exact hh
theorem own_of_full {w : World} {B : Nat} {e : TypeId} {g k : Nat} {xs : List Value} (hB : B <= g) (hk : k <= maxLen) (hx : xs.length = k) (h : w.heap[g]? = some (.cells xs.toArray e (0, 0))) : w.ownsRow B e 1 (.slice (some ⟨g, 0, none⟩) k k) k xs :=
  ⟨by omega, .inr ⟨g, k, xs.toArray, rfl, hB, h, Nat.le_refl _, hk, by simpa using hx, by subst hx; simp⟩⟩
theorem wpList_cpy {P : Program} {w : World} {T e : TypeId} (el : El P T e (.int .u8 0) 1 1) {ops : Array Oper} {rest : List Oper} {o : Oper} {a : Act} {Q : Exit -> Act -> World -> Prop} (hgd : o.guard = none) (x y : Operand)
    (ho : o.op = .call { callee := .builtin .copy, args := #[x, y], argTypes := #[T, T] })
    (B g k : Nat) (xs : List Value) (hs : a.eval x = .slice (some ⟨g, 0, none⟩) k k) (hown : w.ownsRow B e 1 (.slice (some ⟨g, 0, none⟩) k k) k xs)
    (A : Option Addr) (m c : Nat) (l : List UInt8) (hx : a.eval y = .slice A m c) (hr : Rd w A m l)
    (h : ∀ w', w'.ownsRow B e 1 (.slice (some ⟨g, 0, none⟩) k k) k (splice xs 0 (cells (l.take k))) -> Below B w w' -> wpList P ops Q rest (a.put o.dst (goInt (l.take k).length)) w') : wpList P ops Q (o :: rest) a w := by
  obtain ⟨i, hi, hz, h1, h2⟩ := info_parts el.info
  obtain ⟨hB, hk, hh⟩ := own_full hown
  have hxl : xs.length = k := by have := hown.1; omega
  have hl : (l.take k).length <= xs.length := by simp; omega
  have hgoal := h
  refine wpList_copy_splice hgd x y T T ho e el.und (by rw [hi]; simp [h1]) _ A k k m c hs hx g 0 xs e hh (cells (l.take k)) (by have := hr.1; show _ = min m k; simp; omega)
    (fun hpos => ⟨rfl, ?_⟩) (by simpa using hl) (cells_one _) B w (Below.refl _ _) hB ?_
  · have hpos' : 0 < m := by have := hr.1; simp at hpos; omega
    obtain ⟨b, o, rfl, _, hc⟩ := hr.2 hpos'
    refine ⟨_, rfl, fun j v hj => hr.cells_at j v ?_⟩
    rw [cells_take, List.getElem?_take] at hj
    split at hj
    · exact hj
    · cases hj
  · intro w' hH hb
    rw [cells_length]
    refine h w' (own_of_full hB hk ?_ hH.out) hb
    rw [length_splice _ _ _ (by simpa using hl)]
    exact hxl
theorem rd_of_row {w : World} {a : Option Addr} {len cap : Nat} {zs : List Int}
    (h : (a = none /\ len = 0 /\ cap = 0 /\ zs = []) \/ ∃ x, a = some x /\ len <= cap /\ cap <= maxLen /\ zs.length = cap /\ (∀ i, i < zs.length -> w.cell? (x.add i) = some (.int .u8 (zs.getD i 0))) /\ ∀ n ∈ zs, (Lit.int .u8 n).wf = true) :
    ∃ l, Rd w a len l /\ len <= cap /\ cap <= maxLen := by
  rcases h with ⟨rfl, rfl, rfl, rfl⟩ | ⟨x, rfl, hl, hm, hz, hc, hw⟩
  · exact ⟨[], Rd.nil _ _, Nat.le_refl _, Nat.zero_le _⟩
  · refine ⟨(zs.take len).map fun n => UInt8.ofNat n.toNat, ⟨by simp; omega, fun hpos => ?_⟩, hl, hm⟩
    have h0 := hc 0 (by omega)
    obtain ⟨b, off, spot⟩ := x
    have hspot : spot = none := by simpa [Addr.add] using World.cell?_spot h0
    subst hspot
    have hlt : ((⟨b, off, none⟩ : Addr).add 0).block < w.heap.size := World.block_lt_of_cell? w _ h0
    refine ⟨b, off, rfl, by simpa [Addr.add] using hlt, fun j hj => ?_⟩
    have hj' : j < len := by simp at hj; omega
    have h1 := hc j (by omega)
    rw [Addr.add_lit] at h1
    rw [h1]
    have hmem : zs[j]'(by omega) ∈ zs := List.getElem_mem _
    have hb := bounds_u8 (hw _ hmem)
    have e : zs.getD j 0 = zs[j]'(by omega) := by simp [List.getD, List.getElem?_eq_getElem (show j < zs.length by omega)]
    rw [e]
    simp
    omega
theorem own_empty (w : World) (B : Nat) (e : TypeId) (hB : B <= w.heap.size) : (w.alloc (.cells #[] e)).ownsRow B e 1 (.slice (some ⟨w.heap.size, 0, none⟩) 0 0) 0 [] :=
  World.ownsRow_lit w #[] 0 hB (Nat.zero_le _) rfl
end Go.Proofs.YthabmlbmlncbmaaGreat
namespace Go.Proofs.YthabmlbmlncbmaaGreat
open Go Go.RowKit
section
variable {P : Program} {ops : Array Oper} {Q : Exit -> Act -> World -> Prop} {md : Region.Mode} {S : World -> Prop} {oi : Oper} {v : Value} {fuel : Nat} {listed : Array Bool} {a : Act} {w : World}
theorem tj {a' : Act} (i : Nat) (oi : Oper) (hS : S w)
    (hi : ops[i]? = some oi := by rfl) (hs : Region.noSelect ops = true := by kernel_rfl) (hf : Region.free md ops listed i = true := by kernel_rfl) (hr : (Region.ready md ops listed).contains i = true := by kernel_rfl)
    (hw : Region.wanted oi (yielded ops a.tmps) = true := by rfl)
    (hy : ∀ w, S w -> (execOp a.eval oi).run P w = .ok (.value v) w := by (intro w' hSw; (try dsimp only at hSw); go_simp; (try with_reducible rfl)))
    (he : a.put oi.dst v = a' := by (simp only [Act.put, sA_, sB_, sC_]; (try with_reducible rfl)))
    (hQ : ∀ c a w, Q (.panic c) (a.put oi.dst v) w -> Q (.panic c) a w := by exact fun _ _ _ h => h)
    (h : wpAnyH P md ops Q S fuel (listed.setIfInBounds i true) a' w) : wpAnyH P md ops Q S (fuel + 1) listed a w :=
  wpAnyH_take hi hs hf hr hQ (.inl ⟨hw, hy⟩) hS (he ▸ h)
theorem sj {a' : Act} (i : Nat) (oi : Oper) (hS : S w)
    (hi : ops[i]? = some oi := by rfl) (hs : Region.noSelect ops = true := by kernel_rfl) (hf : Region.free md ops listed i = true := by kernel_rfl) (hr : (Region.ready md ops listed).contains i = true := by kernel_rfl)
    (hw : Region.wanted oi (yielded ops a.tmps) = false := by rfl)
    (he : a.put oi.dst undef = a' := by (simp only [Act.put, sA_, sB_, sC_]; (try with_reducible rfl)))
    (hQ : ∀ c a w, Q (.panic c) (a.put oi.dst undef) w -> Q (.panic c) a w := by exact fun _ _ _ h => h)
    (h : wpAnyH P md ops Q S fuel (listed.setIfInBounds i true) a' w) : wpAnyH P md ops Q S (fuel + 1) listed a w :=
  wpAnyH_take hi hs hf hr hQ (.inr ⟨hw, rfl⟩) hS (he ▸ h)
end
end Go.Proofs.YthabmlbmlncbmaaGreat
namespace Go.Proofs.YthabmlbmlncbmaaGreat
open Go.RowKit
def byteOf (n : Int) (i : Nat) : UInt8 := UInt8.ofNat ((n / 2 ^ (8 * i)) % 256).toNat
def numB (k : Nat) (n : Int) : List UInt8 := (List.range k).map (byteOf n)
@[simp] theorem numB_length (k : Nat) (n : Int) : (numB k n).length = k := by simp [numB]
theorem numB_zero (n : Int) : numB 0 n = [] := rfl
theorem numB_succ (k : Nat) (n : Int) : numB (k + 1) n = numB k n ++ [byteOf n k] := by simp [numB, List.range_succ]
theorem byteOf_toNat (n : Int) (i : Nat) : ((byteOf n i).toNat : Int) = (n / 2 ^ (8 * i)) % 256 := by
  have h1 : 0 <= (n / 2 ^ (8 * i)) % 256 := Int.emod_nonneg _ (by decide)
  have h2 : (n / 2 ^ (8 * i)) % 256 < 256 := Int.emod_lt_of_pos _ (by decide)
  unfold byteOf
  rw [UInt8.toNat_ofNat']
  omega
def wd (width : Int) : Nat := (min (max width 1) 8).toNat
theorem wd_cast (width : Int) : ((wd width : Nat) : Int) = min (max width 1) 8 := by unfold wd; omega
theorem wd_bd (width : Int) : 1 <= wd width /\ wd width <= 8 := by unfold wd; omega
def rest64 (n : Int) (j : Nat) : Int := (n % 18446744073709551616) / 2 ^ (8 * j)
theorem rest64_zero (n : Int) : rest64 n 0 = n % 18446744073709551616 := by simp [rest64]
theorem rest64_succ (n : Int) (j : Nat) : rest64 n (j + 1) = rest64 n j / 256 := by
  unfold rest64
  rw [show 8 * (j + 1) = 8 * j + 8 from by omega, Int.pow_add, Int.ediv_ediv_of_nonneg (Int.le_of_lt (Int.pow_pos (by decide)))]
  rfl
theorem rest64_bd (n : Int) (j : Nat) : 0 <= rest64 n j /\ rest64 n j <= 18446744073709551615 := by
  have h1 : 0 <= n % 18446744073709551616 := Int.emod_nonneg _ (by decide)
  have h2 : n % 18446744073709551616 < 18446744073709551616 := Int.emod_lt_of_pos _ (by decide)
  unfold rest64
  refine ⟨Int.ediv_nonneg h1 (Int.le_of_lt (Int.pow_pos (by decide))), ?_⟩
  have := Int.ediv_le_self (2 ^ (8 * j)) h1
  omega
theorem pow_split (j : Nat) (hj : j < 8) : (18446744073709551616 : Int) = 2 ^ (8 * j) * (256 * 2 ^ (8 * (7 - j))) := by
  rw [show (256 : Int) = 2 ^ 8 from rfl, <- Int.pow_add, <- Int.pow_add, show 8 * j + (8 + 8 * (7 - j)) = 64 from by omega]
  rfl
theorem rest64_byte (n : Int) (j : Nat) (hj : j < 8) : rest64 n j % 256 = ((byteOf n j).toNat : Int) := by
  rw [byteOf_toNat, rest64]
  have e := pow_split j hj
  have h0 : (2 : Int) ^ (8 * j) ≠ 0 := Int.ne_of_gt (Int.pow_pos (by decide))
  have hn := Int.mul_ediv_add_emod n 18446744073709551616
  have h1 : n = (n % 18446744073709551616) + 2 ^ (8 * j) * (256 * (2 ^ (8 * (7 - j)) * (n / 18446744073709551616))) := by
    have : (18446744073709551616 : Int) * (n / 18446744073709551616) = 2 ^ (8 * j) * (256 * (2 ^ (8 * (7 - j)) * (n / 18446744073709551616))) := by
      conv => lhs; rw [e]
      simp only [Int.mul_assoc]
      rw [<- e]
    omega
  conv => rhs; rw [h1]
  rw [Int.add_mul_ediv_left _ _ h0]
  omega
def cut (k : Nat) (l : List UInt8) : List UInt8 := (List.range k).map fun i => l.getD i 0
@[simp] theorem cut_length (k : Nat) (l : List UInt8) : (cut k l).length = k := by simp [cut]
theorem cut_succ (k : Nat) (l : List UInt8) : cut (k + 1) l = cut k l ++ [l.getD k 0] := by simp [cut, List.range_succ]
theorem cut_made (k : Nat) (l : List UInt8) : splice (madeCells (Value.int .u8 0).cells (k * 1)).toList 0 (cells (l.take k)) = cells (cut k l) := by
  have e : (madeCells (Value.int .u8 0).cells (k * 1)).toList = List.replicate k (Value.int .u8 0) := by
    rw [Nat.mul_one]
    exact toList_madeCells_one (Value.int .u8 0) k
  rw [e]
  apply List.ext_getElem?
  intro j
  have hlen : (cells (l.take k)).length = min k l.length := by simp
  unfold splice
  rw [List.take_zero, List.nil_append, Nat.zero_add, List.getElem?_append, hlen]
  by_cases h1 : j < min k l.length
  · rw [if_pos h1]
    simp [cells, cut, show j < k by omega, show j < l.length by omega]
  · rw [if_neg h1, List.getElem?_drop, List.getElem?_replicate]
    by_cases h2 : j < k
    · rw [if_pos (by omega)]
      simp [cells, cut, h2, List.getElem?_eq_none (show l.length <= j by omega)]
    · rw [if_neg (by omega)]
      simp [cells, cut, h2]
def leN : List UInt8 -> Nat
  | [] => 0
  | b :: l => b.toNat + 256 * leN l
theorem leN_append (l m : List UInt8) : leN (l ++ m) = leN l + 2 ^ (8 * l.length) * leN m := by
  induction l with
  | nil => simp [leN]
  | cons b l ih =>
    simp only [List.cons_append, leN, ih, List.length_cons]
    rw [show 8 * (l.length + 1) = 8 + 8 * l.length from by omega, Nat.pow_add, Nat.mul_add, Nat.add_assoc, Nat.mul_assoc]
theorem leN_lt (l : List UInt8) : leN l < 2 ^ (8 * l.length) := by
  induction l with
  | nil => simp [leN]
  | cons b l ih =>
    simp only [leN, List.length_cons]
    rw [show 8 * (l.length + 1) = 8 + 8 * l.length from by omega, Nat.pow_add]
    have := b.toNat_lt
    omega
theorem leN_take_succ (l : List UInt8) (j : Nat) (h : j < l.length) : leN (l.take (j + 1)) = leN (l.take j) + l[j].toNat * 2 ^ (8 * j) := by
  rw [List.take_succ_eq_append_getElem h, leN_append]
  simp [leN, Nat.min_eq_left (Nat.le_of_lt h), Nat.mul_comm]
theorem leN_drop (l : List UInt8) (j : Nat) (h : j < l.length) : leN (l.drop j) = l[j].toNat + 256 * leN (l.drop (j + 1)) := by
  rw [List.drop_eq_getElem_cons h]
  rfl
theorem leN_take_or (l : List UInt8) (j : Nat) (h : j < l.length) : leN (l.take j) ||| (l[j].toNat * 2 ^ (8 * j)) = leN (l.take (j + 1)) := by
  have hlt : leN (l.take j) < 2 ^ (8 * j) := by
    have := leN_lt (l.take j)
    rwa [List.length_take, Nat.min_eq_left (Nat.le_of_lt h)] at this
  rw [leN_take_succ l j h, <- Nat.shiftLeft_eq, Nat.or_comm, <- Nat.shiftLeft_add_eq_or_of_lt hlt, Nat.add_comm]
def getV (l : List UInt8) : Int := wrap64 (leN l : Int)
theorem emod_mul_split (n a b : Int) (ha : 0 < a) (hb : 0 < b) : n % (a * b) = n % a + a * (n / a % b) := by
  have h1 := Int.mul_ediv_add_emod n a
  have h2 := Int.mul_ediv_add_emod (n / a) b
  have p1 := Int.emod_nonneg n (Int.ne_of_gt ha)
  have p2 := Int.emod_lt_of_pos n ha
  have p3 := Int.emod_nonneg (n / a) (Int.ne_of_gt hb)
  have p4 := Int.emod_lt_of_pos (n / a) hb
  have e : n = (n % a + a * (n / a % b)) + a * b * (n / a / b) := by
    conv => lhs; rw [<- h1, <- h2]
    rw [Int.mul_add, Int.mul_assoc]
    omega
  have q1 : 0 <= a * (n / a % b) := Int.mul_nonneg (Int.le_of_lt ha) p3
  have q2 : a * (n / a % b) <= a * (b - 1) := Int.mul_le_mul_of_nonneg_left (by omega) (Int.le_of_lt ha)
  rw [Int.mul_sub] at q2
  conv => lhs; rw [e]
  rw [Int.add_mul_emod_self_left]
  exact Int.emod_eq_of_lt (by omega) (by omega)
theorem leN_numB (k : Nat) (n : Int) : (leN (numB k n) : Int) = n % 2 ^ (8 * k) := by
  induction k with
  | zero => simp [numB, leN, Int.emod_one]
  | succ k ih =>
    rw [numB_succ, leN_append, numB_length]
    simp only [leN, Nat.mul_zero, Nat.add_zero]
    have e1 : (((2 : Nat) ^ (8 * k) : Nat) : Int) = (2 : Int) ^ (8 * k) := by simp
    rw [Int.natCast_add, Int.natCast_mul, ih, byteOf_toNat, e1, show 8 * (k + 1) = 8 * k + 8 from by omega, Int.pow_add, show (2 : Int) ^ 8 = 256 from rfl]
    exact (emod_mul_split n _ _ (Int.pow_pos (by decide)) (by decide)).symm
theorem pow_le64 (j : Nat) (h : j <= 7) : 2 ^ (8 * j) <= 72057594037927936 := by
  have := Nat.pow_le_pow_right (n := 2) (by decide) (show 8 * j <= 56 by omega)
  simpa using this
theorem leN_lt64 (l : List UInt8) (h : l.length <= 8) : leN l < 18446744073709551616 := by
  have h1 := leN_lt l
  have := Nat.pow_le_pow_right (n := 2) (by decide) (show 8 * l.length <= 64 by omega)
  omega
theorem u64_in (n : Nat) (h : n < 18446744073709551616) : IntKind.u64.wrap (n : Int) = n := by
  rw [IntKind.wrap_u64]
  omega
theorem or_step (p : List UInt8) (j : Nat) (h : j < p.length) (hp : p.length <= 8) :
    bits BinOp.or IntKind.u64 (↑(leN (List.take j p))) (IntKind.u64.wrap (IntKind.u64.wrap ↑p[j].toNat * 2 ^ (8 * j))) = ↑(leN (List.take (j + 1) p)) := by
  have hb := p[j].toNat_lt
  have h1 := pow_le64 j (by omega)
  have h2 : p[j].toNat * 2 ^ (8 * j) < 18446744073709551616 :=
    Nat.lt_of_lt_of_le (Nat.mul_lt_mul_of_pos_right hb (Nat.pow_pos (by decide))) (by omega)
  have e1 : IntKind.u64.wrap (p[j].toNat : Int) = p[j].toNat := u64_in _ (by omega)
  have e2 : (p[j].toNat : Int) * 2 ^ (8 * j) = ((p[j].toNat * 2 ^ (8 * j) : Nat) : Int) := by simp
  rw [e1, e2, u64_in _ h2, u64_or_nat _ _ (leN_lt64 _ (by simp; omega)) h2, leN_take_or p j h]
theorem drop_step (p : List UInt8) (i : Nat) (h : i < p.length) (hp : p.length <= 8) : leN (p.drop (i + 1)) <= 72057594037927935 /\ p[i].toNat < 256 := by
  have h1 := leN_lt (p.drop (i + 1))
  have h2 := pow_le64 (p.length - (i + 1)) (by omega)
  rw [List.length_drop] at h1
  exact ⟨by omega, p[i].toNat_lt⟩
theorem getV_in (l : List UInt8) (h : leN l <= 9223372036854775807) : getV l = leN l := IntWalk.wrap64_in _ ⟨by omega, by omega⟩
end Go.Proofs.YthabmlbmlncbmaaGreat
namespace Go.Proofs.YthabmlbmlncbmaaGreat
open Go.RowKit
theorem nearest_any (n lo hi : Int) (w : World) :
    Calls Tryz.prog 76 #[.int .i64 n, .int .i64 lo, .int .i64 hi] w fun e w' => e = .returned (.int .i64 (min (max n lo) hi)) /\ w = w' := by
  go_enter Tryz.func76, Tryz.ntmps76
  go_wp2
  all_goals go_ret
  all_goals exact ⟨ret_int (by omega), rfl⟩
end Go.Proofs.YthabmlbmlncbmaaGreat
namespace Go.Proofs.YthabmlbmlncbmaaGreat
open Go.RowKit
theorem wide_any (n : Int) (w : World) :
    Calls Tryz.prog 45 #[.int .i64 n] w fun e w' => e = .returned (.int .i64 (min (max n 1) 8)) /\ w = w' := by
  go_enter Tryz.func45, Tryz.ntmps45
  go_wp2
  all_goals go_ret
  all_goals exact ⟨ret_int (by omega), rfl⟩
theorem nearest_wd (n : Int) (w : World) : Calls Tryz.prog 76 #[.int .i64 n, .int .i64 1, .int .i64 8] w fun e w' => e = .returned (.int .i64 (wd n : Nat)) /\ w = w' :=
  (nearest_any n 1 8 w).mono fun _ _ h => by rw [wd_cast]; exact h
theorem wide_wd (n : Int) (w : World) : Calls Tryz.prog 45 #[.int .i64 n] w fun e w' => e = .returned (.int .i64 (wd n : Nat)) /\ w = w' :=
  (wide_any n w).mono fun _ _ h => by rw [wd_cast]; exact h
end Go.Proofs.YthabmlbmlncbmaaGreat
namespace Go.Proofs.YthabmlbmlncbmaaGreat
open Go.RowKit
theorem bytesT : El Tryz.prog 42 5 (.int .u8 0) 1 1 := ⟨Tryz.underlying42, by kernel_rfl, rfl, by decide⟩
end Go.Proofs.YthabmlbmlncbmaaGreat
namespace Go.Proofs.YthabmlbmlncbmaaGreat
open Go.RowKit
theorem addNum_any (B : Nat) (v : Value) (m : Nat) (xs : List Value) (k : Nat) (n : Int) (w : World) (hB : B <= w.heap.size) (hown : w.ownsRow B 5 1 v m xs) (hk : k <= 8) (hm : m <= 1099511627776) :
    Calls Tryz.prog 89 #[v, .int .i64 k, .int .i64 n] w fun e w' => ∃ v', e = .returned v' /\ w'.ownsRow B 5 1 v' (m + k) (xs ++ cells (numB k n)) /\ Below B w w' := by
  go_enter Tryz.func89, Tryz.ntmps89
  go_wp2
  go_loopw [0, 9] (fun v i wr => ∃ j : Nat, j <= k /\ i = .int .i64 j /\ wr.ownsRow B 5 1 v (m + j) (xs ++ cells (numB j n)) /\ Below B w wr) (fun _ i _ => k - (intOf i).toNat)
  case atStart => exact ⟨0, Nat.zero_le _, rfl, by simpa [numB_zero, cells_nil] using hown, Below.refl _ _⟩
  case round =>
    obtain ⟨j, hj, rfl, hown1, hb1⟩ := hrel
    by_cases hlt : j < k
    · have hR : Rd (wr.alloc (.cells #[.int .u8 (n / 2 ^ (8 * j) % 256)] 5)) (some ⟨wr.heap.size, 0, none⟩) 1 [byteOf n j] := by
        have := Rd.new wr 5 [byteOf n j] (0, 0)
        simpa [cells, byteOf_toNat] using this
      have hs := hb1.size
      go_wp2_with (at_builtin; refine wpList_app _ bytesT rfl (.tmp 12) (.tmp 18) rfl B _ (m + j) _ rfl (hown1.alloc _) _ 1 1 [byteOf n j] rfl hR (by omega) (by simp; omega) ?_; intro v2 w2 hown2 hb2)
      go_roundw
      case rel => exact ⟨j + 1, hlt, by go_num, by rw [numB_succ, cells_append, <- List.append_assoc]; exact hown2, (hb1.alloc (by omega) _).trans hb2⟩
      case measure => simp [intOf]; omega
    · go_wp2
      go_ret
      have : j = k := by omega
      subst this
      exact ⟨_, rfl, hown1, hb1⟩
end Go.Proofs.YthabmlbmlncbmaaGreat
namespace Go.Proofs.YthabmlbmlncbmaaGreat
open Go.RowKit
theorem roomy_any (A : Option Addr) (n c : Nat) (l : List UInt8) (more : Int) (w : World) (hr : Rd w A n l) (h0 : 0 <= more) (h1 : more <= 1099511627776) (hn : n <= 1099511627776) :
    Calls Tryz.prog 90 #[.slice A n c, .int .i64 more] w fun e w' => ∃ v, e = .returned v /\ w'.ownsRow w.heap.size 5 1 v n (cells l) /\ Below w.heap.size w w' := by
  go_enter Tryz.func90, Tryz.ntmps90
  go_wp2_with (first
    | (at_make; refine wpList_mk _ bytesT rfl (.const (.int .i64 0)) (.tmp 8) rfl w.heap.size .i64 .i64 _ (n + more.toNat) rfl rfl (by omega) (by omega) (by unfold maxLen; omega) (by simp) ?_; intro v1 w1 hown1 hb1)
    | (at_builtin; refine wpList_app _ bytesT rfl (.tmp 9) (.tmp 10) rfl w.heap.size v1 0 [] rfl hown1 A n c l rfl (hr.below (Nat.le_refl _) hb1) (by omega) hb1.size ?_; intro v2 w2 hown2 hb2))
  go_ret
  exact ⟨_, rfl, by simpa using hown2, hb1.trans hb2⟩
theorem Put_any (A : Option Addr) (n c : Nat) (l : List UInt8) (width x : Int) (w : World) (hr : Rd w A n l) (hn : n <= 1073741824) :
    Calls Tryz.prog 80 #[.slice A n c, .int .i64 width, .int .i64 x] w fun e w' => ∃ v, e = .returned v /\ w'.ownsRow w.heap.size 5 1 v (n + wd width) (cells (l ++ numB (wd width) x)) /\ Below w.heap.size w w' := by
  have hw := wd_bd width
  go_enter Tryz.func80, Tryz.ntmps80
  go_wp2_with (first
    | (go_at_call 76; refine (nearest_wd _ _).mono ?_; rintro e w' ⟨rfl, rfl⟩)
    | (go_at_call 90; refine (roomy_any A n c l _ _ hr (by omega) (by omega) (by omega)).mono ?_; rintro e w1 ⟨v1, rfl, hown1, hb1⟩)
    | (go_at_call 89; refine (addNum_any w.heap.size v1 n (cells l) _ _ _ hb1.size hown1 (by omega) (by omega)).mono ?_; rintro e w2 ⟨v2, rfl, hown2, hb2⟩))
  go_ret
  exact ⟨_, rfl, by rw [cells_append]; exact hown2, hb1.trans hb2⟩
theorem Num_any (width x : Int) (w : World) :
    Calls Tryz.prog 29 #[.int .i64 width, .int .i64 x] w fun e w' => ∃ v, e = .returned v /\ w'.ownsRow w.heap.size 5 1 v (wd width) (cells (numB (wd width) x)) /\ Below w.heap.size w w' := by
  have hw := wd_bd width
  have h0 := rest64_bd x 0
  have e0 : IntKind.u64.wrap x = rest64 x 0 := by rw [rest64_zero, IntKind.wrap_u64]
  have E0 := hi_ e0
  clear e0
  go_enter Tryz.func29, Tryz.ntmps29
  go_wp2
  go_loopw [5, 6, 7] (fun v u i wr => ∃ j : Nat, j <= wd width /\ i = .int .i64 j /\ u = .int .u64 (rest64 x j) /\ wr.ownsRow w.heap.size 5 1 v j (cells (numB j x)) /\ Below w.heap.size w wr) (fun _ _ i _ => wd width - (intOf i).toNat)
  case atStart => exact ⟨0, Nat.zero_le _, rfl, by rw [<- E0.out], World.ownsRow_nil _ _ _ _, Below.refl _ _⟩
  case round =>
    obtain ⟨j, hj, rfl, rfl, hown1, hb1⟩ := hrel
    have hs := hb1.size
    have hu := rest64_bd x j
    by_cases hlt : j < wd width
    · have hby := rest64_byte x j (by omega)
      have hR : Rd (wr.alloc (.cells #[.int .u8 (rest64 x j % 256)] 5)) (some ⟨wr.heap.size, 0, none⟩) 1 [byteOf x j] := by
        have := Rd.new wr 5 [byteOf x j] (0, 0)
        rw [hby]
        simpa [cells] using this
      have Hby := hi_ hby
      clear hby
      go_wp2_with (first
        | (go_at_call 45; refine (wide_wd _ _).mono ?_; rintro e w' ⟨rfl, rfl⟩)
        | (at_builtin; refine wpList_app _ bytesT rfl (.tmp 16) (.tmp 20) rfl w.heap.size _ j _ rfl (hown1.alloc _) _ 1 1 [byteOf x j] rfl hR (by omega) (by simp; omega) ?_; intro v2 w2 hown2 hb2))
      go_roundw
      case rel => exact ⟨j + 1, hlt, by go_num, by rw [rest64_succ], by rw [numB_succ, cells_append]; exact hown2, (hb1.alloc (by omega) _).trans hb2⟩
      case measure => simp [intOf]; omega
    · go_wp2_with (go_at_call 45; refine (wide_wd _ _).mono ?_; rintro e w' ⟨rfl, rfl⟩)
      go_ret
      have : j = wd width := by omega
      subst this
      exact ⟨_, rfl, hown1, hb1⟩
end Go.Proofs.YthabmlbmlncbmaaGreat
namespace Go.Proofs.YthabmlbmlncbmaaGreat
open Go.RowKit
theorem str_toList (l : List UInt8) : (str l).toList = l := by rw [ByteArray.toList_eq]; rfl
theorem Same_any (A A' : Option Addr) (n c n' c' : Nat) (l l' : List UInt8) (w : World) (h1 : Rd w A n l) (h2 : Rd w A' n' l') :
    Calls Tryz.prog 24 #[.slice A n c, .slice A' n' c'] w fun e w' => e = .returned (.bool (decide (l = l'))) /\ w = w' := by
  have k1 := run_to_string 42 9 5 Tryz.underlying42 Tryz.underlying5 Tryz.underlying9 w A n c l h1
  have k2 := run_to_string 42 9 5 Tryz.underlying42 Tryz.underlying5 Tryz.underlying9 w A' n' c' l' h2
  clear h1 h2
  go_enter Tryz.func24, Tryz.ntmps24
  go_wp2
  go_ret
  exact ⟨ret_bool (by rw [str_toList, str_toList]; by_cases h : l = l' <;> simp [h]), rfl⟩
end Go.Proofs.YthabmlbmlncbmaaGreat
namespace Go.Proofs.YthabmlbmlncbmaaGreat
open Go.RowKit
theorem part_low (A : Option Addr) (n c : Nat) (x : Int) (k : Nat) (w : World) (hx : x < 0) :
    Calls Tryz.prog 75 #[.slice A n c, .int .i64 x, .int .i64 k] w fun e w' => e = .returned (.tuple #[.slice none 0 0, .bool false]) /\ w = w' := by
  go_enter Tryz.func75, Tryz.ntmps75
  go_wp2
  go_ret2
  exact ⟨rfl, rfl⟩
theorem part_high (A : Option Addr) (n c : Nat) (x : Int) (k : Nat) (w : World) (hx : 0 <= x) (hk : k <= 1073741824) (hn : n <= 1073741824) (h : (n : Int) - k < x) :
    Calls Tryz.prog 75 #[.slice A n c, .int .i64 x, .int .i64 k] w fun e w' => e = .returned (.tuple #[.slice none 0 0, .bool false]) /\ w = w' := by
  go_enter Tryz.func75, Tryz.ntmps75
  go_wp2
  go_ret2
  exact ⟨rfl, rfl⟩
theorem part_yes (A : Option Addr) (n c : Nat) (l : List UInt8) (x : Nat) (k : Nat) (w : World) (hr : Rd w A n l) (hc : n <= c) (h1 : 1 <= k) (hk : k <= 1073741824) (hn : n <= 1073741824) (h : x + k <= n) :
    Calls Tryz.prog 75 #[.slice A n c, .int .i64 x, .int .i64 k] w fun e w' => ∃ A', e = .returned (.tuple #[.slice A' k k, .bool true]) /\ Rd w A' k ((l.drop x).take k) /\ w = w' := by
  have h0 : ¬ k = 0 := by omega
  go_enter Tryz.func75, Tryz.ntmps75
  go_wp2
  go_ret2
  refine ⟨A.map fun a => a.add x, ?_, hr.part h _ (fun _ b o e => ?_), rfl⟩
  · show Ending.returned (.tuple #[.slice _ (x + k - x) (x + k - x), .bool true]) = _
    rw [Nat.add_sub_cancel_left]
  · rw [e]
    simp [Addr.add_lit]
theorem Get_yes (A : Option Addr) (n c : Nat) (l : List UInt8) (x : Nat) (width : Int) (w : World) (hr : Rd w A n l) (hc : n <= c) (hn : n <= 1073741824) (h : x + wd width <= n) :
    Calls Tryz.prog 63 #[.slice A n c, .int .i64 x, .int .i64 width] w fun e w' => e = .returned (.tuple #[.int .i64 (getV ((l.drop x).take (wd width))), .bool true]) /\ w = w' := by
  have hw := wd_bd width
  go_enter Tryz.func63, Tryz.ntmps63
  go_wp2_with (first
    | (go_at_call 76; refine (nearest_wd _ _).mono ?_; rintro e w' ⟨rfl, rfl⟩)
    | (go_at_call 75; refine (part_yes A n c l x (wd width) _ hr hc (by omega) (by omega) hn h).mono ?_; rintro e w' ⟨A2, rfl, hp, rfl⟩))
  obtain ⟨p, hpe⟩ : ∃ p, p = (l.drop x).take (wd width) := ⟨_, rfl⟩
  rw [<- hpe] at hp
  have HPE := hi_ hpe
  clear hpe
  have hpl := hp.1
  have h9 : leN p < 2 ^ (8 * p.length) := leN_lt p
  go_loop [9, 23] (fun u i => ∃ j : Nat, j <= wd width /\ i = .int .i64 j /\ u = .int .u64 (leN (p.take j) : Nat)) (fun _ i => wd width - (intOf i).toNat)
  case atStart => exact ⟨0, Nat.zero_le _, rfl, rfl⟩
  case round =>
    obtain ⟨j, hj, rfl, rfl⟩ := hrel
    by_cases hlt : j < wd width
    · obtain ⟨b, o, rfl, _, hcell⟩ := hp.at_ hlt
      go_wp2
      go_round
      case rel =>
        refine ⟨j + 1, hlt, by go_num, ?_⟩
        rw [or_step p j (by omega) (by omega)]
      case measure => simp [intOf]; omega
    · go_wp2
      go_ret2
      have : j = wd width := by omega
      subst this
      refine ⟨?_, rfl⟩
      rw [<- HPE.out, List.take_of_length_le (by omega)]
      rfl
theorem Get_no (A : Option Addr) (n c : Nat) (x : Int) (width : Int) (w : World) (hn : n <= 1073741824) (h : x < 0 \/ (n : Int) - wd width < x) :
    Calls Tryz.prog 63 #[.slice A n c, .int .i64 x, .int .i64 width] w fun e w' => e = .returned (.tuple #[.int .i64 0, .bool false]) /\ w = w' := by
  have hw := wd_bd width
  by_cases hx : x < 0
  · clear h
    go_enter Tryz.func63, Tryz.ntmps63
    go_wp2_with (first
      | (go_at_call 76; refine (nearest_wd _ _).mono ?_; rintro e w' ⟨rfl, rfl⟩)
      | (go_at_call 75; refine (part_low A n c x (wd width) _ hx).mono ?_; rintro e w' ⟨rfl, rfl⟩))
    go_ret2
    exact ⟨rfl, rfl⟩
  · have h' : (n : Int) - wd width < x := by omega
    clear h
    go_enter Tryz.func63, Tryz.ntmps63
    go_wp2_with (first
      | (go_at_call 76; refine (nearest_wd _ _).mono ?_; rintro e w' ⟨rfl, rfl⟩)
      | (go_at_call 75; refine (part_high A n c x (wd width) _ (by omega) (by omega) hn h').mono ?_; rintro e w' ⟨rfl, rfl⟩))
    go_ret2
    exact ⟨rfl, rfl⟩
theorem RGet_no (A : Option Addr) (n c : Nat) (x : Int) (width : Int) (w : World) (hn : n <= 1073741824) (h : x < 0 \/ (n : Int) - wd width < x) :
    Calls Tryz.prog 50 #[.slice A n c, .int .i64 x, .int .i64 width] w fun e w' => e = .returned (.tuple #[.int .i64 0, .bool false]) /\ w = w' := by
  have hw := wd_bd width
  by_cases hx : x < 0
  · clear h
    go_enter Tryz.func50, Tryz.ntmps50
    go_wp2_with (go_at_call 45; refine (wide_wd _ _).mono ?_; rintro e w' ⟨rfl, rfl⟩)
    go_ret2
    exact ⟨rfl, rfl⟩
  · have h' : (n : Int) - wd width < x := by omega
    clear h
    go_enter Tryz.func50, Tryz.ntmps50
    go_wp2_with (go_at_call 45; refine (wide_wd _ _).mono ?_; rintro e w' ⟨rfl, rfl⟩)
    go_ret2
    exact ⟨rfl, rfl⟩
theorem RGet_yes (A : Option Addr) (n c : Nat) (l : List UInt8) (x : Nat) (width : Int) (w : World) (hr : Rd w A n l) (hn : n <= 1073741824) (h : x + wd width <= n) :
    Calls Tryz.prog 50 #[.slice A n c, .int .i64 x, .int .i64 width] w fun e w' => e = .returned (.tuple #[.int .i64 (getV ((l.drop x).take (wd width))), .bool true]) /\ w = w' := by
  have hw := wd_bd width
  have hl := hr.1
  go_enter Tryz.func50, Tryz.ntmps50
  go_wp2_with (go_at_call 45; refine (wide_wd _ _).mono ?_; rintro e w' ⟨rfl, rfl⟩)
  obtain ⟨p, hpe⟩ : ∃ p, p = (l.drop x).take (wd width) := ⟨_, rfl⟩
  have hpl : p.length = wd width := by rw [hpe]; simp; omega
  have hpg : ∀ j (hj : j < wd width), p[j]'(by omega) = l[x + j]'(by omega) := by intro j hj; subst hpe; simp
  have HPE := hi_ hpe
  clear hpe
  have HPG := hi_ hpg
  clear hpg
  go_loop [9, 10] (fun u i => ∃ j : Nat, j <= wd width /\ i = .int .i64 ((j : Int) - 1) /\ u = .int .u64 (leN (p.drop j) : Nat)) (fun _ i => (intOf i + 1).toNat)
  case atStart => exact ⟨wd width, Nat.le_refl _, rfl, by rw [List.drop_of_length_le (by omega)]; rfl⟩
  case round =>
    obtain ⟨j, hj, rfl, rfl⟩ := hrel
    by_cases hlt : 0 < j
    · obtain ⟨i, rfl⟩ : ∃ i, j = i + 1 := ⟨j - 1, by omega⟩
      obtain ⟨b, o, rfl, _, hcell⟩ := hr.at_ (show x + i < n by omega)
      rw [<- HPG.out i (by omega)] at hcell
      have hu := drop_step p i (by omega) (by omega)
      go_wp2
      go_round
      case rel =>
        refine ⟨i, by omega, by go_num, ?_⟩
        rw [leN_drop p i (by omega)]
        congr 1
        omega
      case measure => simp [intOf]
    · obtain rfl : j = 0 := by omega
      go_wp2
      go_ret2
      refine ⟨?_, rfl⟩
      rw [<- HPE.out]
      rfl
end Go.Proofs.YthabmlbmlncbmaaGreat
namespace Go.Proofs.YthabmlbmlncbmaaGreat
open Go.RowKit
def bst (s : Nat) : Nat := s / 2 ^^^ (if s % 2 = 1 then 3988292384 else 0)
def bstN : Nat -> Nat -> Nat
  | 0, s => s
  | n + 1, s => bstN n (bst s)
def runB : Nat -> Nat -> Nat -> Nat
  | 0, s, _ => s
  | n + 1, s, W => runB n (bst (s ^^^ W % 2)) (W / 2)
def addB (s : Nat) (c : UInt8) : Nat := runB 8 s c.toNat
def addL (s : Nat) (l : List UInt8) : Nat := l.foldl addB s
def sumL (l : List UInt8) : Nat := addL 4294967295 l ^^^ 4294967295
theorem bst_lt {s : Nat} (h : s < 4294967296) : bst s < 4294967296 := by
  unfold bst
  have h1 : s / 2 < 2 ^ 32 := by omega
  split
  · exact Nat.xor_lt_two_pow (n := 32) h1 (by decide)
  · exact Nat.xor_lt_two_pow (n := 32) h1 (by decide)
theorem xor_lt {a b : Nat} (h : a < 4294967296) (h' : b < 4294967296) : a ^^^ b < 4294967296 := Nat.xor_lt_two_pow (n := 32) h h'
theorem runB_lt (n : Nat) : ∀ {s W : Nat}, s < 4294967296 -> runB n s W < 4294967296 := by
  induction n with
  | zero => exact fun h => h
  | succ n ih => exact fun h => ih (bst_lt (xor_lt h (by omega)))
theorem addB_lt {s : Nat} (h : s < 4294967296) (c : UInt8) : addB s c < 4294967296 := runB_lt 8 h
theorem addL_lt (l : List UInt8) : ∀ {s : Nat}, s < 4294967296 -> addL s l < 4294967296 := by
  induction l with
  | nil => exact fun h => h
  | cons c l ih => exact fun h => ih (addB_lt h c)
theorem addL_append (s : Nat) (l m : List UInt8) : addL s (l ++ m) = addL (addL s l) m := by simp [addL, List.foldl_append]
theorem addL_snoc (s : Nat) (l : List UInt8) (c : UInt8) : addL s (l ++ [c]) = addB (addL s l) c := by simp [addL]
theorem sumL_lt (l : List UInt8) : sumL l < 4294967296 := xor_lt (addL_lt l (by decide)) (by decide)
theorem xor_half (a b : Nat) : (a ^^^ b) / 2 = a / 2 ^^^ b / 2 := Nat.xor_div_two
theorem xor_mod2 (a b : Nat) : (a ^^^ b) % 2 = (a + b) % 2 := by
  have h := Nat.testBit_xor a b 0
  simp only [Nat.testBit_zero] at h
  have := Nat.mod_two_eq_zero_or_one a
  have := Nat.mod_two_eq_zero_or_one b
  have := Nat.mod_two_eq_zero_or_one (a ^^^ b)
  rcases Nat.mod_two_eq_zero_or_one a with h1 | h1 <;> rcases Nat.mod_two_eq_zero_or_one b with h2 | h2 <;> rcases Nat.mod_two_eq_zero_or_one (a ^^^ b) with h3 | h3 <;> simp [h1, h2, h3] at h <;> omega
theorem bst_xor (a b : Nat) : bst (a ^^^ b) = bst a ^^^ bst b := by
  unfold bst
  rw [xor_half]
  have h := xor_mod2 a b
  by_cases h1 : a % 2 = 1 <;> by_cases h2 : b % 2 = 1
  · rw [if_pos h1, if_pos h2, if_neg (by omega)]
    rw [show a / 2 ^^^ 3988292384 ^^^ (b / 2 ^^^ 3988292384) = a / 2 ^^^ b / 2 ^^^ (3988292384 ^^^ 3988292384) from by ac_rfl, Nat.xor_self]
  · rw [if_pos h1, if_neg h2, if_pos (by omega), Nat.xor_zero]
    ac_rfl
  · rw [if_neg h1, if_pos h2, if_pos (by omega), Nat.xor_zero]
    ac_rfl
  · rw [if_neg h1, if_neg h2, if_neg (by omega)]
    simp
theorem bst_even (a : Nat) (h : a % 2 = 0) : bst a = a / 2 := by
  unfold bst
  rw [if_neg (by omega), Nat.xor_zero]
theorem low_xor (W : Nat) : W = W % 2 ^^^ (W / 2 * 2) := by
  apply Nat.eq_of_testBit_eq
  intro i
  rw [Nat.testBit_xor]
  cases i with
  | zero => simp [Nat.testBit_zero]
  | succ i => simp [Nat.testBit_succ, show W % 2 / 2 = 0 from by omega]
theorem bst_low (s W : Nat) : bst (s ^^^ W) = bst (s ^^^ W % 2) ^^^ W / 2 := by
  conv => lhs; rw [low_xor W]
  rw [<- Nat.xor_assoc, bst_xor, bst_even (W / 2 * 2) (by omega), Nat.mul_div_cancel _ (by decide)]
theorem bstN_eq (n : Nat) : ∀ s W : Nat, bstN n (s ^^^ W) = runB n s W ^^^ W / 2 ^ n := by
  induction n with
  | zero => intro s W; simp [bstN, runB]
  | succ n ih =>
    intro s W
    show bstN n (bst (s ^^^ W)) = runB n (bst (s ^^^ W % 2)) (W / 2) ^^^ _
    rw [bst_low, ih, Nat.div_div_eq_div_mul, Nat.pow_succ, Nat.mul_comm 2]
theorem bstN_byte (s : Nat) (c : UInt8) : bstN 8 (s ^^^ c.toNat) = addB s c := by
  rw [bstN_eq, show c.toNat / 2 ^ 8 = 0 from Nat.div_eq_of_lt c.toNat_lt, Nat.xor_zero]
  rfl
theorem bst_spread (s : Nat) : s / 2 ^^^ (3988292384 &&& ((4294967296 - s % 2) % 4294967296)) = bst s := by
  unfold bst
  rcases Nat.mod_two_eq_zero_or_one s with h | h
  · rw [h]; rfl
  · rw [h]; rfl
def Rev (r s : Nat) : Prop := r < 4294967296 /\ s < 4294967296 /\ ∀ i, i < 32 -> r.testBit i = s.testBit (31 - i)
theorem Rev.all : Rev 4294967295 4294967295 := ⟨by decide, by decide, by decide⟩
theorem Rev.top {r s : Nat} (h : Rev r s) : r / 2147483648 = s % 2 := by
  have h1 := h.2.2 31 (by decide)
  have h2 := h.1
  rw [Nat.testBit_eq_decide_div_mod_eq, Nat.testBit_eq_decide_div_mod_eq, decide_eq_decide] at h1
  have : r / 2147483648 < 2 := by omega
  simp at h1
  omega
theorem lt_of_bits {r : Nat} {n : Nat} (h : r < 2 ^ n) {i : Nat} (hi : n <= i) : r.testBit i = false :=
  Nat.testBit_lt_two_pow (Nat.lt_of_lt_of_le h (Nat.pow_le_pow_right (by decide) hi))
theorem Rev.half {r s : Nat} (h : Rev r s) : Rev (r * 2 % 4294967296) (s / 2) := by
  refine ⟨by omega, by have := h.2.1; omega, fun i hi => ?_⟩
  rw [show (4294967296 : Nat) = 2 ^ 32 from rfl, Nat.testBit_mod_two_pow]
  cases i with
  | zero =>
    rw [Nat.testBit_zero, show s / 2 = s / 2 ^ 1 from rfl, Nat.testBit_div_two_pow]
    rw [lt_of_bits (n := 32) h.2.1 (by decide)]
    simp
  | succ i =>
    rw [Nat.testBit_succ, Nat.mul_div_cancel _ (by decide), show s / 2 = s / 2 ^ 1 from rfl, Nat.testBit_div_two_pow, h.2.2 i (by omega)]
    simp [hi]
    congr 1
    omega
theorem Rev.xor_poly {r s : Nat} (h : Rev r s) : Rev (r ^^^ 79764919) (s ^^^ 3988292384) := by
  refine ⟨xor_lt h.1 (by decide), xor_lt h.2.1 (by decide), fun i hi => ?_⟩
  rw [Nat.testBit_xor, Nat.testBit_xor, h.2.2 i hi]
  congr 1
  have : ∀ i, i < 32 -> Nat.testBit 79764919 i = Nat.testBit 3988292384 (31 - i) := by decide
  exact this i hi
theorem Rev.like {r s c : Nat} (h : Rev r s) (hc : r / 2147483648 = c % 2) : Rev (r * 2 % 4294967296) (bst (s ^^^ c % 2)) := by
  have e : bst (s ^^^ c % 2) = s / 2 := by
    have h1 := h.top
    have h2 := xor_mod2 s (c % 2)
    unfold bst
    rw [xor_half, show c % 2 / 2 = 0 from by omega, if_neg (by omega), Nat.xor_zero, Nat.xor_zero]
  rw [e]
  exact h.half
theorem Rev.unlike {r s c : Nat} (h : Rev r s) (hc : ¬ r / 2147483648 = c % 2) : Rev (r * 2 % 4294967296 ^^^ 79764919) (bst (s ^^^ c % 2)) := by
  have e : bst (s ^^^ c % 2) = s / 2 ^^^ 3988292384 := by
    have h1 := h.top
    have h2 := xor_mod2 s (c % 2)
    unfold bst
    rw [xor_half, show c % 2 / 2 = 0 from by omega, if_pos (by omega), Nat.xor_zero]
  rw [e]
  exact h.half.xor_poly
theorem Rev.bit {r s j : Nat} (h : Rev r s) (hj : j < 32) : r / 2 ^ j % 2 = s / 2 ^ (31 - j) % 2 := by
  have h1 := h.2.2 j hj
  rw [Nat.testBit_eq_decide_div_mod_eq, Nat.testBit_eq_decide_div_mod_eq, decide_eq_decide] at h1
  omega
theorem Rev.step {r s j : Nat} (h : Rev r s) (hj : j < 32) : s / 2 ^ (32 - j) * 2 + r / 2 ^ j % 2 = s / 2 ^ (32 - (j + 1)) := by
  rw [h.bit hj, show 32 - j = (31 - j) + 1 from by omega, show 32 - (j + 1) = 31 - j from by omega, Nat.pow_succ, <- Nat.div_div_eq_div_mul]
  omega
theorem turn_all {s : Nat} (h : s < 4294967296) : s ^^^ 4294967295 = 4294967295 - s := by
  apply Nat.eq_of_testBit_eq
  intro i
  rw [Nat.testBit_xor, show 4294967295 - s = 2 ^ 32 - (s + 1) from by omega, Nat.testBit_two_pow_sub_succ h]
  by_cases hi : i < 32
  · have : ∀ i, i < 32 -> Nat.testBit 4294967295 i = true := by decide
    simp [hi, this i hi]
  · rw [lt_of_bits (n := 32) h (by omega), lt_of_bits (n := 32) (r := 4294967295) (by decide) (by omega)]
    simp [hi]
end Go.Proofs.YthabmlbmlncbmaaGreat
namespace Go.Proofs.YthabmlbmlncbmaaGreat
open Go.RowKit
def nr (n hi : Int) : Int := min (max n 0) hi
theorem nr_bd (n hi : Int) (h : 0 <= hi) : 0 <= nr n hi /\ nr n hi <= hi := by unfold nr; omega
theorem nr_self {n hi : Int} (h0 : 0 <= n) (h1 : n <= hi) : nr n hi = n := by unfold nr; omega
def putL (l : List UInt8) (p : Nat) (b : List UInt8) : List UInt8 := l.take p ++ (b ++ l.drop (p + b.length))
theorem putL_length {l : List UInt8} {p : Nat} {b : List UInt8} (h : p + b.length <= l.length) : (putL l p b).length = l.length := by simp [putL]; omega
theorem splice_cells (l : List UInt8) (p : Nat) (b : List UInt8) : splice (cells l) p (cells b) = cells (putL l p b) := by
  simp [splice, putL, cells_append, cells_take, cells_drop]
theorem putL_mid {X M Y b : List UInt8} {p : Nat} (hp : X.length = p) (hb : M.length = b.length) : putL (X ++ (M ++ Y)) p b = X ++ (b ++ Y) := by
  subst hp
  simp only [putL, <- hb]
  rw [List.take_left' rfl, <- List.append_assoc X M Y, List.drop_left' (by simp)]
def frontL (e n : Int) : List UInt8 := numB 8 e ++ numB 8 n
def restL (e n k : Int) (b : List UInt8) : List UInt8 := numB 1 k ++ ([0] ++ (numB 2 (b.length : Int) ++ (cut 472 b ++ (numB 8 n ++ numB 8 e))))
def sealL (e n k : Int) (b : List UInt8) : List UInt8 := frontL e n ++ (numB 4 ((sumL (frontL e n ++ restL e n k b) : Nat) : Int) ++ restL e n k b)
def sectorOf (e n k : Int) (b : List UInt8) : List UInt8 := sealL (nr e 281474976710656) (nr n 281474976710656) (nr k 255) (b.take 472)
theorem frontL_length (e n : Int) : (frontL e n).length = 16 := by simp [frontL]
theorem restL_length (e n k : Int) (b : List UInt8) : (restL e n k b).length = 492 := by simp [restL, cut_length]
theorem sealL_length (e n k : Int) (b : List UInt8) : (sealL e n k b).length = 512 := by simp [sealL, frontL_length, restL_length]
theorem sectorOf_length (e n k : Int) (b : List UInt8) : (sectorOf e n k b).length = 512 := sealL_length _ _ _ _
theorem cut_short {k : Nat} {b : List UInt8} (h : b.length <= k) : cut k b = b ++ List.replicate (k - b.length) 0 := by
  apply List.ext_getElem
  · simp [cut_length]; omega
  · intro i h1 h2
    simp only [cut_length] at h1
    simp only [cut, List.getElem_map, List.getElem_range]
    by_cases hi : i < b.length
    · rw [List.getElem_append_left hi]; simp [List.getD, hi]
    · rw [List.getElem_append_right (by omega)]; simp [List.getD, List.getElem?_eq_none (show b.length <= i by omega)]
theorem cut_long {k : Nat} {b : List UInt8} (h : k <= b.length) : cut k b = b.take k := by
  apply List.ext_getElem
  · simp [cut_length]; omega
  · intro i h1 h2
    simp only [cut_length] at h1
    simp [cut, List.getD, List.getElem?_eq_getElem (show i < b.length by omega)]
def zeros (n : Nat) : List UInt8 := List.replicate n 0
theorem zeros_length (n : Nat) : (zeros n).length = n := by simp [zeros]
theorem zeros_add (n m : Nat) : zeros (n + m) = zeros n ++ zeros m := by simp [zeros, List.replicate_append_replicate]
def unsummed (e n k : Int) (b : List UInt8) : List UInt8 := frontL e n ++ (zeros 4 ++ restL e n k b)
theorem filled (e n k : Int) (b : List UInt8) (hb : b.length <= 472) :
    putL (putL (putL (putL (putL (putL (putL (zeros 512) 0 (numB 8 e)) 8 (numB 8 n)) 20 (numB 1 k)) 24 b) 22 (numB 2 (b.length : Int))) 496 (numB 8 n)) 504 (numB 8 e) = unsummed e n k b := by
  have z : zeros 512 = [] ++ (zeros 8 ++ (zeros 8 ++ (zeros 4 ++ (zeros 1 ++ (zeros 1 ++ (zeros 2 ++ (zeros b.length ++ (zeros (472 - b.length) ++ (zeros 8 ++ (zeros 8 ++ [])))))))))) := by
    simp only [List.nil_append, List.append_nil, <- zeros_add]
    congr 1
    omega
  have hc := cut_short hb
  rw [z, putL_mid (by rfl) (by simp [zeros_length]), List.nil_append]
  rw [putL_mid (X := numB 8 e) (by simp) (by simp [zeros_length])]
  rw [show numB 8 e ++ (numB 8 n ++ (zeros 4 ++ (zeros 1 ++ (zeros 1 ++ (zeros 2 ++ (zeros b.length ++ (zeros (472 - b.length) ++ (zeros 8 ++ (zeros 8 ++ []))))))))) = (numB 8 e ++ numB 8 n ++ zeros 4) ++ (zeros 1 ++ (zeros 1 ++ (zeros 2 ++ (zeros b.length ++ (zeros (472 - b.length) ++ (zeros 8 ++ (zeros 8 ++ []))))))) from by simp only [List.append_assoc]]
  rw [putL_mid (by simp [zeros_length]) (by simp [zeros_length])]
  rw [show (numB 8 e ++ numB 8 n ++ zeros 4) ++ (numB 1 k ++ (zeros 1 ++ (zeros 2 ++ (zeros b.length ++ (zeros (472 - b.length) ++ (zeros 8 ++ (zeros 8 ++ []))))))) = (numB 8 e ++ numB 8 n ++ zeros 4 ++ numB 1 k ++ zeros 1 ++ zeros 2) ++ (zeros b.length ++ (zeros (472 - b.length) ++ (zeros 8 ++ (zeros 8 ++ [])))) from by simp only [List.append_assoc]]
  rw [putL_mid (by simp [zeros_length]) (by simp [zeros_length])]
  rw [show (numB 8 e ++ numB 8 n ++ zeros 4 ++ numB 1 k ++ zeros 1 ++ zeros 2) ++ (b ++ (zeros (472 - b.length) ++ (zeros 8 ++ (zeros 8 ++ [])))) = (numB 8 e ++ numB 8 n ++ zeros 4 ++ numB 1 k ++ zeros 1) ++ (zeros 2 ++ (b ++ (zeros (472 - b.length) ++ (zeros 8 ++ (zeros 8 ++ []))))) from by simp only [List.append_assoc]]
  rw [putL_mid (by simp [zeros_length]) (by simp [zeros_length])]
  rw [show (numB 8 e ++ numB 8 n ++ zeros 4 ++ numB 1 k ++ zeros 1) ++ (numB 2 (b.length : Int) ++ (b ++ (zeros (472 - b.length) ++ (zeros 8 ++ (zeros 8 ++ []))))) = (numB 8 e ++ numB 8 n ++ zeros 4 ++ numB 1 k ++ zeros 1 ++ numB 2 (b.length : Int) ++ b ++ zeros (472 - b.length)) ++ (zeros 8 ++ (zeros 8 ++ [])) from by simp only [List.append_assoc]]
  rw [putL_mid (by simp [zeros_length]; omega) (by simp [zeros_length])]
  rw [show (numB 8 e ++ numB 8 n ++ zeros 4 ++ numB 1 k ++ zeros 1 ++ numB 2 (b.length : Int) ++ b ++ zeros (472 - b.length)) ++ (numB 8 n ++ (zeros 8 ++ [])) = (numB 8 e ++ numB 8 n ++ zeros 4 ++ numB 1 k ++ zeros 1 ++ numB 2 (b.length : Int) ++ b ++ zeros (472 - b.length) ++ numB 8 n) ++ (zeros 8 ++ []) from by simp only [List.append_assoc]]
  rw [putL_mid (by simp [zeros_length]; omega) (by simp [zeros_length])]
  have hz : ([0] : List UInt8) = zeros 1 := rfl
  simp only [unsummed, frontL, restL, hc, List.append_assoc, List.append_nil, hz]
  rfl
theorem unsummed_front (e n k : Int) (b : List UInt8) : (unsummed e n k b).take 16 = frontL e n := List.take_left' (frontL_length e n)
theorem unsummed_rest (e n k : Int) (b : List UInt8) : (unsummed e n k b).drop 20 = restL e n k b := by
  rw [unsummed, <- List.append_assoc, List.drop_left' (by simp [frontL_length, zeros_length])]
theorem summed (e n k : Int) (b : List UInt8) : putL (unsummed e n k b) 16 (numB 4 ((sumL (frontL e n ++ restL e n k b) : Nat) : Int)) = sealL e n k b := by
  rw [unsummed, putL_mid (frontL_length e n) (by simp [zeros_length])]
  rfl
theorem drop_of {X Y : List UInt8} {p : Nat} (h : X.length = p) : (X ++ Y).drop p = Y := List.drop_left' h
theorem take_of {X Y : List UInt8} {p : Nat} (h : X.length = p) : (X ++ Y).take p = X := List.take_left' h
theorem sealL_0 (e n k : Int) (b : List UInt8) : (sealL e n k b).take 8 = numB 8 e := by
  rw [sealL, frontL, List.append_assoc, take_of (by simp)]
theorem sealL_8 (e n k : Int) (b : List UInt8) : ((sealL e n k b).drop 8).take 8 = numB 8 n := by
  rw [sealL, frontL, List.append_assoc, drop_of (by simp), take_of (by simp)]
theorem sealL_20 (e n k : Int) (b : List UInt8) : (sealL e n k b).drop 20 = restL e n k b := by
  rw [sealL, <- List.append_assoc, drop_of (by simp [frontL_length])]
theorem sealL_k (e n k : Int) (b : List UInt8) : ((sealL e n k b).drop 20).take 1 = numB 1 k := by
  rw [sealL_20, restL, take_of (by simp)]
theorem sealL_22 (e n k : Int) (b : List UInt8) : (sealL e n k b).drop 22 = numB 2 (b.length : Int) ++ (cut 472 b ++ (numB 8 n ++ numB 8 e)) := by
  rw [show (22 : Nat) = 20 + 2 from rfl, <- List.drop_drop, sealL_20, restL, <- List.append_assoc, drop_of (by simp)]
theorem sealL_long (e n k : Int) (b : List UInt8) : ((sealL e n k b).drop 22).take 2 = numB 2 (b.length : Int) := by
  rw [sealL_22, take_of (by simp)]
theorem sealL_24 (e n k : Int) (b : List UInt8) : (sealL e n k b).drop 24 = cut 472 b ++ (numB 8 n ++ numB 8 e) := by
  rw [show (24 : Nat) = 22 + 2 from rfl, <- List.drop_drop, sealL_22, drop_of (by simp)]
theorem sealL_496 (e n k : Int) (b : List UInt8) : (sealL e n k b).drop 496 = numB 8 n ++ numB 8 e := by
  rw [show (496 : Nat) = 24 + 472 from rfl, <- List.drop_drop, sealL_24, drop_of (by simp [cut_length])]
theorem sealL_504 (e n k : Int) (b : List UInt8) : (sealL e n k b).drop 504 = numB 8 e := by
  rw [show (504 : Nat) = 496 + 8 from rfl, <- List.drop_drop, sealL_496, drop_of (by simp)]
theorem sealL_496' (e n k : Int) (b : List UInt8) : ((sealL e n k b).drop 496).take 8 = numB 8 n := by
  rw [sealL_496, take_of (by simp)]
theorem getV_numBs (k : Nat) (n : Int) (h0 : 0 <= n) (h1 : n < 2 ^ (8 * k)) (h2 : n <= 9223372036854775807) : getV (numB k n) = n := by
  have h := leN_numB k n
  rw [Int.emod_eq_of_lt h0 h1] at h
  rw [getV_in _ (by omega), h]
def cE (l : List UInt8) : Int := getV (l.take 8)
def cN (l : List UInt8) : Int := getV ((l.drop 8).take 8)
def cK (l : List UInt8) : Int := getV ((l.drop 20).take 1)
def cL (l : List UInt8) : Int := getV ((l.drop 22).take 2)
def cB (l : List UInt8) : List UInt8 := cut (min (cL l) 472).toNat (l.drop 24)
def okL (l : List UInt8) : Prop := l = sectorOf (cE l) (cN l) (cK l) (cB l)
instance (l : List UInt8) : Decidable (okL l) := inferInstanceAs (Decidable (l = _))
theorem getV_short (p : List UInt8) (h : p.length <= 2) : 0 <= getV p /\ getV p <= 65535 := by
  have h1 := leN_lt p
  have h2 : 2 ^ (8 * p.length) <= 2 ^ 16 := Nat.pow_le_pow_right (by decide) (by omega)
  rw [getV_in _ (by omega)]
  omega
theorem cE_sealL (e n k : Int) (b : List UInt8) (h0 : 0 <= e) (h1 : e <= 281474976710656) : cE (sealL e n k b) = e := by
  rw [cE, sealL_0, getV_numBs 8 e h0 (by omega) (by omega)]
theorem cN_sealL (e n k : Int) (b : List UInt8) (h0 : 0 <= n) (h1 : n <= 281474976710656) : cN (sealL e n k b) = n := by
  rw [cN, sealL_8, getV_numBs 8 n h0 (by omega) (by omega)]
theorem cK_sealL (e n k : Int) (b : List UInt8) (h0 : 0 <= k) (h1 : k <= 255) : cK (sealL e n k b) = k := by
  rw [cK, sealL_k, getV_numBs 1 k h0 (by omega) (by omega)]
theorem cL_sealL (e n k : Int) (b : List UInt8) (h1 : b.length <= 472) : cL (sealL e n k b) = b.length := by
  rw [cL, sealL_long, getV_numBs 2 _ (by omega) (by omega) (by omega)]
theorem cB_sealL (e n k : Int) (b : List UInt8) (h1 : b.length <= 472) : cB (sealL e n k b) = b := by
  rw [cB, cL_sealL _ _ _ _ h1, sealL_24, show (min (b.length : Int) 472).toNat = b.length from by omega, cut_long (by simp [cut_length]; omega), cut_short h1, List.append_assoc, take_of rfl]
section
variable (e n k : Int) (b : List UInt8)
theorem b_le : (b.take 472).length <= 472 := by simp; omega
theorem cE_sector : cE (sectorOf e n k b) = nr e 281474976710656 := cE_sealL _ _ _ _ (nr_bd _ _ (by decide)).1 (nr_bd _ _ (by decide)).2
theorem cN_sector : cN (sectorOf e n k b) = nr n 281474976710656 := cN_sealL _ _ _ _ (nr_bd _ _ (by decide)).1 (nr_bd _ _ (by decide)).2
theorem cK_sector : cK (sectorOf e n k b) = nr k 255 := cK_sealL _ _ _ _ (nr_bd _ _ (by decide)).1 (nr_bd _ _ (by decide)).2
theorem cB_sector : cB (sectorOf e n k b) = b.take 472 := cB_sealL _ _ _ _ (b_le b)
theorem nr_nr (n hi : Int) (h : 0 <= hi) : nr (nr n hi) hi = nr n hi := nr_self (nr_bd n hi h).1 (nr_bd n hi h).2
theorem okL_sector : okL (sectorOf e n k b) := by
  unfold okL
  rw [cE_sector, cN_sector, cK_sector, cB_sector]
  unfold sectorOf
  rw [nr_nr _ _ (by decide), nr_nr _ _ (by decide), nr_nr _ _ (by decide), List.take_take, Nat.min_self]
end
theorem okL_len {l : List UInt8} (h : okL l) : l.length = 512 := by rw [h, sectorOf_length]
theorem okL_long {l : List UInt8} (h : okL l) : cL l <= 472 := by
  rw [h]; unfold sectorOf; rw [cL_sealL _ _ _ _ (b_le _)]; have := b_le (cB l); omega
theorem cK_at (l : List UInt8) (h : 20 < l.length) : cK l = (l[20].toNat : Int) := by
  have e : (l.drop 20).take 1 = [l[20]] := by
    rw [List.drop_eq_getElem_cons h, List.take_succ_cons, List.take_zero]
  have hb := (l[20]).toNat_lt
  rw [cK, e, getV_in _ (by simp [leN]; omega)]
  simp [leN]
theorem cB_take (l : List UInt8) (hl : l.length = 512) (h : cL l <= 472) : cB l = (l.drop 24).take (cL l).toNat := by
  rw [cB, show min (cL l) 472 = cL l from by omega, cut_long (by simp; omega)]
theorem cL_bd (l : List UInt8) : 0 <= cL l /\ cL l <= 65535 := getV_short _ (by simp; omega)
def tearL (a b : List UInt8) (k : Int) : List UInt8 :=
  if 0 <= k then b.take (8 * (min k 64).toNat) ++ a.drop (8 * (min k 64).toNat) else a.take (512 - 8 * (min (-k) 64).toNat) ++ b.drop (512 - 8 * (min (-k) 64).toNat)
theorem tearL_length {a b : List UInt8} (ha : a.length = 512) (hb : b.length = 512) (k : Int) : (tearL a b k).length = 512 := by
  unfold tearL
  split <;> simp <;> omega
theorem tear_word {a b : List UInt8} (ha : a.length = 512) (hb : b.length = 512) (k : Int) (j : Nat) (hj : j < 64) : ((tearL a b k).drop (8 * j)).take 8 = (((if 0 < k /\ (j : Int) < k \/ k < 0 /\ k <= (j : Int) - 64 then b else a).drop (8 * j)).take 8) := by
  unfold tearL
  by_cases h : 0 <= k
  · rw [if_pos h]
    by_cases h2 : (j : Int) < k
    · rw [if_pos (.inl ⟨by omega, h2⟩), List.drop_append_of_le_length (by simp; omega), List.take_append_of_le_length (by simp; omega), List.drop_take, List.take_take, Nat.min_eq_left (by omega)]
    · rw [if_neg (by omega), List.drop_append, List.drop_of_length_le (by simp; omega), List.nil_append, List.drop_drop, List.length_take]
      congr 2
      omega
  · rw [if_neg h]
    by_cases h2 : k <= (j : Int) - 64
    · rw [if_pos (.inr ⟨by omega, h2⟩), List.drop_append, List.drop_of_length_le (by simp; omega), List.nil_append, List.drop_drop, List.length_take]
      congr 2
      omega
    · rw [if_neg (by omega), List.drop_append_of_le_length (by simp; omega), List.take_append_of_le_length (by simp; omega), List.drop_take, List.take_take, Nat.min_eq_left (by omega)]
theorem take_words (l : List UInt8) (j : Nat) : l.take (8 * (j + 1)) = l.take (8 * j) ++ (l.drop (8 * j)).take 8 := by
  rw [Nat.mul_add, Nat.mul_one, List.take_add]
end Go.Proofs.YthabmlbmlncbmaaGreat
namespace Go.Proofs.YthabmlbmlncbmaaGreat
open Go.RowKit
theorem snearest_any (n lo hi : Int) (w : World) :
    Calls Tryz.prog 87 #[.int .i64 n, .int .i64 lo, .int .i64 hi] w fun e w' => e = .returned (.int .i64 (min (max n lo) hi)) /\ w = w' := by
  go_enter Tryz.func87, Tryz.ntmps87
  go_wp2
  all_goals go_ret
  all_goals exact ⟨ret_int (by omega), rfl⟩
end Go.Proofs.YthabmlbmlncbmaaGreat
namespace Go.Proofs.YthabmlbmlncbmaaGreat
open Go.RowKit
theorem near_any (n hi : Int) (w : World) (h : 0 <= hi) :
    Calls Tryz.prog 48 #[.int .i64 n, .int .i64 hi] w fun e w' => e = .returned (.int .i64 (nr n hi)) /\ w = w' := by
  go_enter Tryz.func48, Tryz.ntmps48
  go_wp2
  all_goals go_ret
  all_goals exact ⟨ret_int (by unfold nr; omega), rfl⟩
def ep (v : Int) : Int := if 0 <= v /\ v <= 281474976710656 then v else -1
theorem Get8 (A : Option Addr) (n c : Nat) (l : List UInt8) (x : Nat) (w : World) (hr : Rd w A n l) (hc : n <= c) (hn : n <= 1073741824) (h : x + 8 <= n) :
    Calls Tryz.prog 63 #[.slice A n c, .int .i64 x, .int .i64 8] w fun e w' => e = .returned (.tuple #[.int .i64 (getV ((l.drop x).take 8)), .bool true]) /\ w = w' :=
  Get_yes A n c l x 8 w hr hc hn (by rw [show wd 8 = 8 from by decide]; omega)
theorem RGet8 (A : Option Addr) (n c : Nat) (l : List UInt8) (x : Nat) (w : World) (hr : Rd w A n l) (hn : n <= 1073741824) (h : x + 8 <= n) :
    Calls Tryz.prog 50 #[.slice A n c, .int .i64 x, .int .i64 8] w fun e w' => e = .returned (.tuple #[.int .i64 (getV ((l.drop x).take 8)), .bool true]) /\ w = w' :=
  RGet_yes A n c l x 8 w hr hn (by rw [show wd 8 = 8 from by decide]; omega)
theorem RGet2 (A : Option Addr) (n c : Nat) (l : List UInt8) (x : Nat) (w : World) (hr : Rd w A n l) (hn : n <= 1073741824) (h : x + 2 <= n) :
    Calls Tryz.prog 50 #[.slice A n c, .int .i64 x, .int .i64 2] w fun e w' => e = .returned (.tuple #[.int .i64 (getV ((l.drop x).take 2)), .bool true]) /\ w = w' :=
  RGet_yes A n c l x 2 w hr hn (by rw [show wd 2 = 2 from by decide]; omega)
theorem epochIn_any (A : Option Addr) (n c : Nat) (l : List UInt8) (x : Nat) (w : World) (hr : Rd w A n l) (hc : n <= c) (hn : n <= 1073741824) (h : x + 8 <= n) :
    Calls Tryz.prog 58 #[.slice A n c, .int .i64 x] w fun e w' => e = .returned (.int .i64 (ep (getV ((l.drop x).take 8)))) /\ w = w' := by
  obtain ⟨v, hv⟩ : ∃ v, v = getV ((l.drop x).take 8) := ⟨_, rfl⟩
  have hG := Get8 A n c l x w hr hc hn h
  rw [<- hv] at hG ⊢
  clear hv
  have HG := hi_ hG
  clear hG
  unfold ep
  by_cases h0 : v < 0
  · rw [if_neg (by omega)]
    go_enter Tryz.func58, Tryz.ntmps58
    go_wp2_with (go_at_call 63; refine HG.out.mono ?_; rintro e w' ⟨rfl, rfl⟩)
    go_ret
    exact ⟨rfl, rfl⟩
  · by_cases h1 : 281474976710656 < v
    · rw [if_neg (by omega)]
      go_enter Tryz.func58, Tryz.ntmps58
      go_wp2_with (go_at_call 63; refine HG.out.mono ?_; rintro e w' ⟨rfl, rfl⟩)
      go_ret
      exact ⟨rfl, rfl⟩
    · rw [if_pos (by omega)]
      go_enter Tryz.func58, Tryz.ntmps58
      go_wp2_with (go_at_call 63; refine HG.out.mono ?_; rintro e w' ⟨rfl, rfl⟩)
      go_ret
      exact ⟨rfl, rfl⟩
def epF (l : List UInt8) : Int := if l.length = 512 then ep (getV (l.take 8)) else -1
def epB (l : List UInt8) : Int := if l.length = 512 then ep (getV ((l.drop 504).take 8)) else -1
def topL (l : List UInt8) : Int := max (max (epF l) (epB l)) 0
theorem Epochs_any (A : Option Addr) (n c : Nat) (l : List UInt8) (w : World) (hr : Rd w A n l) (hc : n <= c) (hn : n <= 1073741824) :
    Calls Tryz.prog 44 #[.slice A n c] w fun e w' => e = .returned (.tuple #[.int .i64 (epF l), .int .i64 (epB l)]) /\ w = w' := by
  have hl := hr.1
  by_cases h : n = 512
  · subst h
    have e1 : epF l = ep (getV ((l.drop 0).take 8)) := by simp [epF, hl]
    have e2 : epB l = ep (getV ((l.drop 504).take 8)) := by simp [epB, hl]
    have c1 := fun w hr => epochIn_any A 512 c l 0 w hr hc hn (by omega)
    have c2 := fun w hr => epochIn_any A 512 c l 504 w hr hc hn (by omega)
    rw [<- e1] at c1
    rw [<- e2] at c2
    have C1 := hi_ c1
    have C2 := hi_ c2
    clear c1 c2 e1 e2
    go_enter Tryz.func44, Tryz.ntmps44
    go_wp2_with (first
      | (go_at_call_of 58 (Value.int .i64 0); refine (C1.out _ hr).mono ?_; rintro e w' ⟨rfl, rfl⟩)
      | (go_at_call_of 58 (Value.int .i64 504); refine (C2.out _ hr).mono ?_; rintro e w' ⟨rfl, rfl⟩))
    go_ret2
    exact ⟨rfl, rfl⟩
  · have e1 : epF l = -1 := by simp [epF, hl, h]
    have e2 : epB l = -1 := by simp [epB, hl, h]
    rw [e1, e2]
    clear e1 e2
    go_enter Tryz.func44, Tryz.ntmps44
    go_wp2
    go_ret2
    exact ⟨rfl, rfl⟩
theorem Top_any (A : Option Addr) (n c : Nat) (l : List UInt8) (w : World) (hr : Rd w A n l) (hc : n <= c) (hn : n <= 1073741824) :
    Calls Tryz.prog 27 #[.slice A n c] w fun e w' => e = .returned (.int .i64 (topL l)) /\ w = w' := by
  go_enter Tryz.func27, Tryz.ntmps27
  go_wp2_with (go_at_call 44; refine (Epochs_any A n c l _ hr hc hn).mono ?_; rintro e w' ⟨rfl, rfl⟩)
  all_goals go_ret
  all_goals exact ⟨ret_int (by unfold topL; omega), rfl⟩
theorem ep_nr (v : Int) : ep v = if v = nr v 281474976710656 then v else -1 := by
  unfold ep nr
  split <;> split <;> omega
theorem REpochs_any (A : Option Addr) (n c : Nat) (l : List UInt8) (w : World) (hr : Rd w A n l) (hn : n <= 1073741824) :
    Calls Tryz.prog 36 #[.slice A n c] w fun e w' => e = .returned (.tuple #[.int .i64 (epF l), .int .i64 (epB l)]) /\ w = w' := by
  have hl := hr.1
  by_cases h : n = 512
  · subst h
    obtain ⟨u, hu⟩ : ∃ u, u = getV ((l.drop 0).take 8) := ⟨_, rfl⟩
    obtain ⟨v, hv⟩ : ∃ v, v = getV ((l.drop 504).take 8) := ⟨_, rfl⟩
    have e1 : epF l = ep u := by rw [hu]; simp [epF, hl]
    have e2 : epB l = ep v := by rw [hv]; simp [epB, hl]
    have c1 := fun w hr => RGet8 A 512 c l 0 w hr hn (by omega)
    have c2 := fun w hr => RGet8 A 512 c l 504 w hr hn (by omega)
    rw [<- hu] at c1
    rw [<- hv] at c2
    rw [e1, e2, ep_nr, ep_nr]
    have C1 := hi_ c1
    have C2 := hi_ c2
    clear c1 c2 e1 e2 hu hv
    by_cases h1 : u = nr u 281474976710656 <;> by_cases h2 : v = nr v 281474976710656
    all_goals first | (rw [if_pos h1]; replace h1 := h1.symm) | rw [if_neg h1]
    all_goals first | (rw [if_pos h2]; replace h2 := h2.symm) | rw [if_neg h2]
    all_goals go_enter Tryz.func36, Tryz.ntmps36
    all_goals go_wp2_with (first
      | (go_at_call_of 50 (Value.int .i64 0); refine (C1.out _ hr).mono ?_; rintro e w' ⟨rfl, rfl⟩)
      | (go_at_call_of 50 (Value.int .i64 504); refine (C2.out _ hr).mono ?_; rintro e w' ⟨rfl, rfl⟩)
      | (go_at_call 48; refine (near_any _ _ _ (by decide)).mono ?_; rintro e w' ⟨rfl, rfl⟩))
    all_goals go_ret2
    all_goals exact ⟨rfl, rfl⟩
  · have e1 : epF l = -1 := by simp [epF, hl, h]
    have e2 : epB l = -1 := by simp [epB, hl, h]
    rw [e1, e2]
    clear e1 e2
    go_enter Tryz.func36, Tryz.ntmps36
    go_wp2
    go_ret2
    exact ⟨rfl, rfl⟩
theorem RTop_any (A : Option Addr) (n c : Nat) (l : List UInt8) (w : World) (hr : Rd w A n l) (hn : n <= 1073741824) :
    Calls Tryz.prog 23 #[.slice A n c] w fun e w' => e = .returned (.int .i64 (topL l)) /\ w = w' := by
  go_enter Tryz.func23, Tryz.ntmps23
  go_wp2_with (go_at_call 36; refine (REpochs_any A n c l _ hr hn).mono ?_; rintro e w' ⟨rfl, rfl⟩)
  all_goals go_ret
  all_goals exact ⟨ret_int (by unfold topL; omega), rfl⟩
end Go.Proofs.YthabmlbmlncbmaaGreat
namespace Go.Proofs.YthabmlbmlncbmaaGreat
open Go.RowKit
theorem numB_leN (b : List UInt8) : numB b.length (leN b : Nat) = b := by
  apply List.ext_getElem
  · simp
  · intro i h1 h2
    have hb : (numB b.length (leN b : Nat))[i] = byteOf (leN b : Nat) i := by simp [numB]
    rw [hb]
    apply UInt8.toNat_inj.1
    have e := byteOf_toNat (leN b : Nat) i
    have hs : leN b = leN (b.take i) + 2 ^ (8 * i) * leN (b.drop i) := by
      have := leN_append (b.take i) (b.drop i)
      rw [List.take_append_drop, List.length_take, Nat.min_eq_left (Nat.le_of_lt h2)] at this
      exact this
    have hlt : leN (b.take i) < 2 ^ (8 * i) := by
      have := leN_lt (b.take i)
      rwa [List.length_take, Nat.min_eq_left (Nat.le_of_lt h2)] at this
    have hd := leN_drop b i h2
    have hdiv : leN b / 2 ^ (8 * i) = leN (b.drop i) := by
      rw [hs, Nat.add_mul_div_left _ _ (Nat.pow_pos (by decide)), Nat.div_eq_of_lt hlt, Nat.zero_add]
    have h256 := b[i].toNat_lt
    have e2 : ((leN b : Nat) : Int) / 2 ^ (8 * i) % 256 = ((leN b / 2 ^ (8 * i) % 256 : Nat) : Int) := by simp
    rw [e2, hdiv, hd] at e
    omega
theorem numB_getV {b : List UInt8} {k : Nat} (h : b.length = k) (hk : k <= 7) : numB k (getV b) = b := by
  have h1 := leN_lt b
  have h2 : 2 ^ (8 * b.length) <= 2 ^ 56 := Nat.pow_le_pow_right (by decide) (by omega)
  rw [getV_in _ (by omega), <- h]
  exact numB_leN b
theorem getV_numB {x : Int} {k : Nat} (hk : k <= 7) (h0 : 0 <= x) (hx : x < 2 ^ (8 * k)) : getV (numB k x) = x := by
  have h1 := leN_lt (numB k x)
  rw [numB_length] at h1
  have h2 : 2 ^ (8 * k) <= 2 ^ 56 := Nat.pow_le_pow_right (by decide) (by omega)
  rw [getV_in _ (by omega), leN_numB, Int.emod_eq_of_lt h0 hx]
theorem wrap64_mod (n : Int) : wrap64 n % 18446744073709551616 = n % 18446744073709551616 := by unfold wrap64; omega
theorem numB8_wrap (n : Nat) : numB 8 (wrap64 (n : Int)) = numB 8 (n : Int) := by
  apply List.ext_getElem
  · simp
  · intro i h1 h2
    have hi : i < 8 := by simpa using h2
    simp only [numB, List.getElem_map, List.getElem_range]
    apply UInt8.toNat_inj.1
    have r1 := rest64_byte (wrap64 (n : Int)) i hi
    have r2 := rest64_byte (n : Int) i hi
    have r : rest64 (wrap64 (n : Int)) i = rest64 (n : Int) i := by unfold rest64; rw [wrap64_mod]
    rw [r] at r1
    exact Int.ofNat.inj (r1.symm.trans r2)
theorem numB8_getV {b : List UInt8} (h : b.length = 8) : numB 8 (getV b) = b := by
  unfold getV
  rw [numB8_wrap, <- h]
  exact numB_leN b
theorem getV_numB8 {x : Int} (hx : (Lit.int .i64 x).wf = true) : getV (numB 8 x) = x := by
  have hb := bounds_i64 hx
  unfold getV
  rw [leN_numB, show (2 : Int) ^ (8 * 8) = 18446744073709551616 from by decide]
  unfold wrap64
  omega
end Go.Proofs.YthabmlbmlncbmaaGreat
namespace Go.Proofs.YthabmlbmlncbmaaGreat
abbrev Kd := ByteArray × Int
def plainN (b : UInt8) : Bool := decide (97 <= b.toNat /\ b.toNat <= 122) || decide (48 <= b.toNat /\ b.toNat <= 57) || decide (b.toNat = 95)
def nameB (s : ByteArray) : Bool := decide (1 <= s.size /\ s.size <= 16) && s.data.toList.all plainN
structure Cf where
  lg : Int
  pg : Int
  en : Int
  gn : Int
  ks : List Kd
def Named (ks : List Kd) : Prop := ∀ k ∈ ks, nameB k.1 = true
def Sized (ks : List Kd) : Prop := ∀ k ∈ ks, 0 <= k.2 /\ k.2 <= 64
def Apart (ks : List Kd) : Prop := (ks.map Prod.fst).Nodup
instance (ks : List Kd) : Decidable (Named ks) := inferInstanceAs (Decidable (∀ k ∈ ks, nameB k.1 = true))
instance (ks : List Kd) : Decidable (Sized ks) := inferInstanceAs (Decidable (∀ k ∈ ks, 0 <= k.2 /\ k.2 <= 64))
instance (ks : List Kd) : Decidable (Apart ks) := inferInstanceAs (Decidable (ks.map Prod.fst).Nodup)
def Cf.Nums (c : Cf) : Prop := (2 <= c.lg /\ c.lg <= 1024) /\ (4 <= c.pg /\ c.pg <= 1024) /\ (1 <= c.en /\ c.en <= 1024) /\ (1 <= c.gn /\ c.gn <= 1073741824) /\ c.ks.length <= 32
instance (c : Cf) : Decidable c.Nums := by unfold Cf.Nums; infer_instance
def Cf.Right (c : Cf) : Prop := c.Nums /\ Named c.ks /\ Apart c.ks /\ Sized c.ks
instance (c : Cf) : Decidable c.Right := by unfold Cf.Right; infer_instance
theorem take_snoc {α : Type} {l : List α} {j : Nat} (h : j < l.length) : l.take (j + 1) = l.take j ++ [l[j]] := List.take_succ_eq_append_getElem h
theorem Named.nil : Named [] := fun _ h => by cases h
theorem Sized.nil : Sized [] := fun _ h => by cases h
theorem Apart.nil : Apart [] := List.nodup_nil
theorem named_snoc {ks : List Kd} {j : Nat} (h : j < ks.length) : Named (ks.take (j + 1)) ↔ Named (ks.take j) /\ nameB ks[j].1 = true := by
  rw [take_snoc h]
  simp only [Named, List.mem_append, List.mem_singleton]
  exact ⟨fun H => ⟨fun k hk => H k (.inl hk), H _ (.inr rfl)⟩, fun ⟨H, h2⟩ k hk => hk.elim (H k) (fun e => e ▸ h2)⟩
theorem sized_snoc {ks : List Kd} {j : Nat} (h : j < ks.length) : Sized (ks.take (j + 1)) ↔ Sized (ks.take j) /\ (0 <= ks[j].2 /\ ks[j].2 <= 64) := by
  rw [take_snoc h]
  simp only [Sized, List.mem_append, List.mem_singleton]
  exact ⟨fun H => ⟨fun k hk => H k (.inl hk), H _ (.inr rfl)⟩, fun ⟨H, h2⟩ k hk => hk.elim (H k) (fun e => e ▸ h2)⟩
def First (ks : List Kd) (s : ByteArray) (j : Nat) : Prop := ∀ k ∈ ks.take j, k.1 ≠ s
theorem apart_snoc {ks : List Kd} {j : Nat} (h : j < ks.length) : Apart (ks.take (j + 1)) ↔ Apart (ks.take j) /\ First ks ks[j].1 j := by
  rw [take_snoc h]
  simp only [Apart, First, List.map_append, List.map_cons, List.map_nil, List.nodup_append, List.mem_map, List.mem_singleton, List.nodup_cons, List.not_mem_nil, not_false_iff, List.nodup_nil, true_and]
  refine ⟨fun ⟨a, b⟩ => ⟨a, fun k hk e => b k.1 ⟨k, hk, rfl⟩ _ rfl e⟩, fun ⟨a, b⟩ => ⟨a, ?_⟩⟩
  rintro x ⟨k, hk, rfl⟩ y rfl
  exact b k hk
theorem named_take {ks : List Kd} (h : Named ks) (j : Nat) : Named (ks.take j) := fun k hk => h k (List.mem_of_mem_take hk)
theorem sized_take {ks : List Kd} (h : Sized ks) (j : Nat) : Sized (ks.take j) := fun k hk => h k (List.mem_of_mem_take hk)
theorem apart_take {ks : List Kd} (h : Apart ks) (j : Nat) : Apart (ks.take j) := by
  unfold Apart at h ⊢
  rw [List.map_take]
  exact h.sublist (List.take_sublist _ _)
theorem First.zero (ks : List Kd) (s : ByteArray) : First ks s 0 := fun k hk => by simp at hk
theorem First.succ {ks : List Kd} {s : ByteArray} {j : Nat} (h : j < ks.length) : First ks s (j + 1) ↔ First ks s j /\ ks[j].1 ≠ s := by
  unfold First
  rw [take_snoc h]
  simp only [List.mem_append, List.mem_singleton]
  exact ⟨fun H => ⟨fun k hk => H k (.inl hk), H _ (.inr rfl)⟩, fun ⟨H, h2⟩ k hk => hk.elim (H k) (fun e => e ▸ h2)⟩
def findK : List Kd -> ByteArray -> Int × Bool
  | [], _ => (0, false)
  | k :: l, s => if k.1 = s then (0, true) else if (findK l s).2 = true then ((findK l s).1 + 1, true) else (0, false)
theorem findK_yes : ∀ (ks : List Kd) (s : ByteArray) (j : Nat) (h : j < ks.length), First ks s j -> ks[j].1 = s -> findK ks s = ((j : Int), true)
  | k :: l, s, 0, _, _, e => by
    have e' : k.1 = s := e
    simp [findK, e']
  | k :: l, s, j + 1, h, f, e => by
    have hk : k.1 ≠ s := f k (by simp)
    have ih := findK_yes l s j (by simpa using h) (fun x hx => f x (by simp [hx])) e
    simp [findK, hk, ih]
theorem findK_no : ∀ (ks : List Kd) (s : ByteArray), (∀ k ∈ ks, k.1 ≠ s) -> findK ks s = (0, false)
  | [], _, _ => rfl
  | k :: l, s, f => by
    have hk : k.1 ≠ s := f k (by simp)
    have ih := findK_no l s (fun x hx => f x (by simp [hx]))
    simp [findK, hk, ih]
theorem findK_at (ks : List Kd) (j : Nat) (h : j < ks.length) : (First ks ks[j].1 j /\ (findK ks ks[j].1).1 = j) \/ (¬ First ks ks[j].1 j /\ (findK ks ks[j].1).1 ≠ j) := by
  by_cases f : First ks ks[j].1 j
  · exact .inl ⟨f, by rw [findK_yes ks _ j h f rfl]⟩
  · refine .inr ⟨f, ?_⟩
    have key : ∀ i, i <= j -> ¬ First ks ks[j].1 i -> ∃ m, m < i /\ ∃ hm : m < ks.length, First ks ks[j].1 m /\ ks[m].1 = ks[j].1 := by
      intro i
      induction i with
      | zero => intro _ hn; exact absurd (First.zero _ _) hn
      | succ i ih =>
        intro hi hn
        have hil : i < ks.length := by omega
        by_cases hf : First ks ks[j].1 i
        · refine ⟨i, by omega, hil, hf, ?_⟩
          exact Classical.byContradiction fun hne => hn ((First.succ hil).2 ⟨hf, hne⟩)
        · obtain ⟨m, hm, r⟩ := ih (by omega) hf
          exact ⟨m, by omega, r⟩
    obtain ⟨m, hm, hml, hf, he⟩ := key j (Nat.le_refl _) f
    rw [findK_yes ks _ m hml hf he]
    show ((m : Nat) : Int) ≠ j
    omega
def Good (ks : List Kd) (j : Nat) : Prop := Named (ks.take j) /\ Apart (ks.take j) /\ Sized (ks.take j)
theorem Good.zero (ks : List Kd) : Good ks 0 := ⟨by simpa using Named.nil, by simpa using Apart.nil, by simpa using Sized.nil⟩
theorem good_snoc {ks : List Kd} {j : Nat} (h : j < ks.length) : Good ks (j + 1) ↔ Good ks j /\ First ks ks[j].1 j /\ nameB ks[j].1 = true /\ 0 <= ks[j].2 /\ ks[j].2 <= 64 := by
  unfold Good
  rw [named_snoc h, apart_snoc h, sized_snoc h]
  constructor
  · rintro ⟨⟨a, b⟩, ⟨c, d⟩, e, f⟩; exact ⟨⟨a, c, e⟩, d, b, f⟩
  · rintro ⟨⟨a, c, e⟩, d, b, f⟩; exact ⟨⟨a, b⟩, ⟨c, d⟩, e, f⟩
theorem good_all (ks : List Kd) : Good ks ks.length ↔ Named ks /\ Apart ks /\ Sized ks := by unfold Good; rw [List.take_length]
theorem good_take {ks : List Kd} (h : Named ks /\ Apart ks /\ Sized ks) (j : Nat) : Good ks j := ⟨named_take h.1 j, apart_take h.2.1 j, sized_take h.2.2 j⟩
def muchK (ks : List Kd) : Bool := (ks.take 50).any (fun k => decide (100 < k.1.size)) || decide (40 < ks.length)
theorem muchK_no {ks : List Kd} (h : muchK ks = false) : ks.length <= 40 /\ ∀ k ∈ ks, k.1.size <= 100 := by
  simp only [muchK, Bool.or_eq_false_iff, List.any_eq_false, decide_eq_true_eq, decide_eq_false_iff_not] at h
  obtain ⟨h1, h2⟩ := h
  refine ⟨by omega, fun k hk => ?_⟩
  rw [List.take_of_length_le (by omega)] at h1
  have := h1 k hk
  omega
end Go.Proofs.YthabmlbmlncbmaaGreat
namespace Go.Proofs.YthabmlbmlncbmaaGreat
def Plc (n : Int) : Prop := 0 <= n /\ n <= 281474976710656
instance (n : Int) : Decidable (Plc n) := by unfold Plc; infer_instance
def logZ (R : Bool) (lg n : Int) : Int := if R = true /\ Plc n then 2 + n.tmod lg else -1
def roomZ (R : Bool) (lg h t : Int) : Int := if R = true /\ 0 <= h /\ h <= t /\ t <= 281474976710656 /\ t - h <= lg then lg - (t - h) else -1
def needZ (n : Int) : Int := if n <= 460 then 1 else (n - 1).tdiv 460 + 1
def InZ (R : Bool) (lg pg s : Int) : Prop := R = true /\ 0 <= s /\ s <= lg + pg + 1
instance (R : Bool) (lg pg s : Int) : Decidable (InZ R lg pg s) := by unfold InZ; infer_instance
theorem needZ_eq (n : Int) : needZ n = if n < 1 then 1 else n.tdiv 460 + (if 0 < n.tmod 460 then 1 else 0) := by
  unfold needZ
  by_cases h : n < 1
  · rw [if_pos h, if_pos (by omega)]
  · have e1 : n.tdiv 460 = n / 460 := Int.tdiv_eq_ediv_of_nonneg (by omega)
    have e2 : n.tmod 460 = n % 460 := Int.tmod_eq_emod_of_nonneg (by omega)
    have e3 : (n - 1).tdiv 460 = (n - 1) / 460 := Int.tdiv_eq_ediv_of_nonneg (by omega)
    rw [if_neg h, e1, e2, e3]
    split <;> split <;> omega
theorem tmod_of (n lg : Int) : n.tmod lg = n - n.tdiv lg * lg := by
  have := Int.tmod_add_mul_tdiv n lg
  have hc : lg * n.tdiv lg = n.tdiv lg * lg := Int.mul_comm _ _
  omega
theorem tmod_in (n lg : Int) (h : 0 <= n) (hl : 2 <= lg) : 0 <= n.tmod lg /\ n.tmod lg < lg := by
  rw [Int.tmod_eq_emod_of_nonneg h]
  exact ⟨Int.emod_nonneg _ (by omega), Int.emod_lt_of_pos _ (by omega)⟩
end Go.Proofs.YthabmlbmlncbmaaGreat
