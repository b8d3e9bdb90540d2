/- CmM, CmK, CmA, Grow, EcRa, Shelf, IdE, IdF -/
import Derived.Test.YthiknmhkdeicjaaGreatDoorQs1
import Derived.Test.YthiknmhkdeicjaaGreatDoorQs2
import Derived.Test.YthiknmhkdeicjaaGreatDoorQs3
import Derived.BigQuiet
import Derived.Deep.QuietTactic
import Derived.Shelf.SlGeneric
import Derived.Shelf.SlSortCmp.WholeK
import Derived.Ground.SlsfProg
import Derived.Test.YthiknmhkdeicjaaGreatDoorProg
namespace Go.Proofs.YthiknmhkdeicjaaGreatDoor
abbrev Kd := ByteArray × Int
def plainN (b : UInt8) : Bool := decide (97 <= b.toNat /\ b.toNat <= 122) || decide (48 <= b.toNat /\ b.toNat <= 57) || decide (b.toNat = 95)
def nameB (s : ByteArray) : Bool := decide (1 <= s.size /\ s.size <= 16) && s.data.toList.all plainN
structure Cf where
 lg : Int
 pg : Int
 en : Int
 gn : Int
 ks : List Kd
def Named (ks : List Kd) : Prop := ∀ k ∈ ks, nameB k.1 = true
def Sized (ks : List Kd) : Prop := ∀ k ∈ ks, 0 <= k.2 /\ k.2 <= 64
def Apart (ks : List Kd) : Prop := (ks.map Prod.fst).Nodup
instance (ks : List Kd) : Decidable (Named ks) := inferInstanceAs (Decidable (∀ k ∈ ks, nameB k.1 = true))
instance (ks : List Kd) : Decidable (Sized ks) := inferInstanceAs (Decidable (∀ k ∈ ks, 0 <= k.2 /\ k.2 <= 64))
instance (ks : List Kd) : Decidable (Apart ks) := inferInstanceAs (Decidable (ks.map Prod.fst).Nodup)
def Cf.Nums (c : Cf) : Prop := (2 <= c.lg /\ c.lg <= 1024) /\ (4 <= c.pg /\ c.pg <= 1024) /\ (1 <= c.en /\ c.en <= 1024) /\ (1 <= c.gn /\ c.gn <= 1073741824) /\ c.ks.length <= 32
instance (c : Cf) : Decidable c.Nums := by unfold Cf.Nums; infer_instance
def Cf.Right (c : Cf) : Prop := c.Nums /\ Named c.ks /\ Apart c.ks /\ Sized c.ks
instance (c : Cf) : Decidable c.Right := by unfold Cf.Right; infer_instance
theorem take_snoc {α : Type} {l : List α} {j : Nat} (h : j < l.length) : l.take (j + 1) = l.take j ++ [l[j]] := List.take_succ_eq_append_getElem h
theorem Named.nil : Named [] := fun _ h => by cases h
theorem Sized.nil : Sized [] := fun _ h => by cases h
theorem Apart.nil : Apart [] := List.nodup_nil
theorem named_snoc {ks : List Kd} {j : Nat} (h : j < ks.length) : Named (ks.take (j + 1)) ↔ Named (ks.take j) /\ nameB ks[j].1 = true := by
 rw [take_snoc h]
 simp only [Named, List.mem_append, List.mem_singleton]
 exact ⟨fun H => ⟨fun k hk => H k (.inl hk), H _ (.inr rfl)⟩, fun ⟨H, h2⟩ k hk => hk.elim (H k) (fun e => e ▸ h2)⟩
theorem sized_snoc {ks : List Kd} {j : Nat} (h : j < ks.length) : Sized (ks.take (j + 1)) ↔ Sized (ks.take j) /\ (0 <= ks[j].2 /\ ks[j].2 <= 64) := by
 rw [take_snoc h]
 simp only [Sized, List.mem_append, List.mem_singleton]
 exact ⟨fun H => ⟨fun k hk => H k (.inl hk), H _ (.inr rfl)⟩, fun ⟨H, h2⟩ k hk => hk.elim (H k) (fun e => e ▸ h2)⟩
def First (ks : List Kd) (s : ByteArray) (j : Nat) : Prop := ∀ k ∈ ks.take j, k.1 ≠ s
theorem apart_snoc {ks : List Kd} {j : Nat} (h : j < ks.length) : Apart (ks.take (j + 1)) ↔ Apart (ks.take j) /\ First ks ks[j].1 j := by
 rw [take_snoc h]
 simp only [Apart, First, List.map_append, List.map_cons, List.map_nil, List.nodup_append, List.mem_map, List.mem_singleton, List.nodup_cons, List.not_mem_nil, not_false_iff, List.nodup_nil, true_and]
 refine ⟨fun ⟨a, b⟩ => ⟨a, fun k hk e => b k.1 ⟨k, hk, rfl⟩ _ rfl e⟩, fun ⟨a, b⟩ => ⟨a, ?_⟩⟩
 rintro x ⟨k, hk, rfl⟩ y rfl
 exact b k hk
theorem named_take {ks : List Kd} (h : Named ks) (j : Nat) : Named (ks.take j) := fun k hk => h k (List.mem_of_mem_take hk)
theorem sized_take {ks : List Kd} (h : Sized ks) (j : Nat) : Sized (ks.take j) := fun k hk => h k (List.mem_of_mem_take hk)
theorem apart_take {ks : List Kd} (h : Apart ks) (j : Nat) : Apart (ks.take j) := by
 unfold Apart at h ⊢
 rw [List.map_take]
 exact h.sublist (List.take_sublist _ _)
theorem First.zero (ks : List Kd) (s : ByteArray) : First ks s 0 := fun k hk => by simp at hk
theorem First.succ {ks : List Kd} {s : ByteArray} {j : Nat} (h : j < ks.length) : First ks s (j + 1) ↔ First ks s j /\ ks[j].1 ≠ s := by
 unfold First
 rw [take_snoc h]
 simp only [List.mem_append, List.mem_singleton]
 exact ⟨fun H => ⟨fun k hk => H k (.inl hk), H _ (.inr rfl)⟩, fun ⟨H, h2⟩ k hk => hk.elim (H k) (fun e => e ▸ h2)⟩
def findK : List Kd -> ByteArray -> Int × Bool
 | [], _ => (0, false)
 | k :: l, s => if k.1 = s then (0, true) else if (findK l s).2 = true then ((findK l s).1 + 1, true) else (0, false)
theorem findK_yes : ∀ (ks : List Kd) (s : ByteArray) (j : Nat) (h : j < ks.length), First ks s j -> ks[j].1 = s -> findK ks s = ((j : Int), true)
 | k :: l, s, 0, _, _, e => by
  have e' : k.1 = s := e
  simp [findK, e']
 | k :: l, s, j + 1, h, f, e => by
  have hk : k.1 ≠ s := f k (by simp)
  have ih := findK_yes l s j (by simpa using h) (fun x hx => f x (by simp [hx])) e
  simp [findK, hk, ih]
theorem findK_no : ∀ (ks : List Kd) (s : ByteArray), (∀ k ∈ ks, k.1 ≠ s) -> findK ks s = (0, false)
 | [], _, _ => rfl
 | k :: l, s, f => by
  have hk : k.1 ≠ s := f k (by simp)
  have ih := findK_no l s (fun x hx => f x (by simp [hx]))
  simp [findK, hk, ih]
theorem findK_at (ks : List Kd) (j : Nat) (h : j < ks.length) : (First ks ks[j].1 j /\ (findK ks ks[j].1).1 = j) \/ (¬ First ks ks[j].1 j /\ (findK ks ks[j].1).1 ≠ j) := by
 by_cases f : First ks ks[j].1 j
 ·exact .inl ⟨f, by rw [findK_yes ks _ j h f rfl]⟩
 ·refine .inr ⟨f, ?_⟩
  have key : ∀ i, i <= j -> ¬ First ks ks[j].1 i -> ∃ m, m < i /\ ∃ hm : m < ks.length, First ks ks[j].1 m /\ ks[m].1 = ks[j].1 := by
   intro i
   induction i with
   | zero => intro _ hn; exact absurd (First.zero _ _) hn
   | succ i ih =>
    intro hi hn
    have hil : i < ks.length := by omega
    by_cases hf : First ks ks[j].1 i
    ·refine ⟨i, by omega, hil, hf, ?_⟩
     exact Classical.byContradiction fun hne => hn ((First.succ hil).2 ⟨hf, hne⟩)
    ·obtain ⟨m, hm, r⟩ := ih (by omega) hf
     exact ⟨m, by omega, r⟩
  obtain ⟨m, hm, hml, hf, he⟩ := key j (Nat.le_refl _) f
  rw [findK_yes ks _ m hml hf he]
  show ((m : Nat) : Int) ≠ j
  omega
def Good (ks : List Kd) (j : Nat) : Prop := Named (ks.take j) /\ Apart (ks.take j) /\ Sized (ks.take j)
theorem Good.zero (ks : List Kd) : Good ks 0 := ⟨by simpa using Named.nil, by simpa using Apart.nil, by simpa using Sized.nil⟩
theorem good_snoc {ks : List Kd} {j : Nat} (h : j < ks.length) : Good ks (j + 1) ↔ Good ks j /\ First ks ks[j].1 j /\ nameB ks[j].1 = true /\ 0 <= ks[j].2 /\ ks[j].2 <= 64 := by
 unfold Good
 rw [named_snoc h, apart_snoc h, sized_snoc h]
 constructor
 ·rintro ⟨⟨a, b⟩, ⟨c, d⟩, e, f⟩; exact ⟨⟨a, c, e⟩, d, b, f⟩
 ·rintro ⟨⟨a, c, e⟩, d, b, f⟩; exact ⟨⟨a, b⟩, ⟨c, d⟩, e, f⟩
theorem good_all (ks : List Kd) : Good ks ks.length ↔ Named ks /\ Apart ks /\ Sized ks := by unfold Good; rw [List.take_length]
theorem good_take {ks : List Kd} (h : Named ks /\ Apart ks /\ Sized ks) (j : Nat) : Good ks j := ⟨named_take h.1 j, apart_take h.2.1 j, sized_take h.2.2 j⟩
def sizeK (ks : List Kd) (k : Int) : Int × Bool := if 0 <= k /\ k < ks.length then ((ks.getD k.toNat (.empty, 0)).2, true) else (0, false)
def muchK (ks : List Kd) : Bool := (ks.take 50).any (fun k => decide (100 < k.1.size)) || decide (40 < ks.length)
theorem muchK_no {ks : List Kd} (h : muchK ks = false) : ks.length <= 40 /\ ∀ k ∈ ks, k.1.size <= 100 := by
 simp only [muchK, Bool.or_eq_false_iff, List.any_eq_false, decide_eq_true_eq, decide_eq_false_iff_not] at h
 obtain ⟨h1, h2⟩ := h
 refine ⟨by omega, fun k hk => ?_⟩
 rw [List.take_of_length_le (by omega)] at h1
 have := h1 k hk
 omega
end Go.Proofs.YthiknmhkdeicjaaGreatDoor
namespace Go.Proofs.YthiknmhkdeicjaaGreatDoor
open Go.RowKit
def KRd (w : World) (A : Option Addr) (n : Nat) (ks : List Kd) : Prop :=
 ks.length = n /\ (0 < n -> ∃ b o, A = some ⟨b, o, none⟩ /\ b < w.heap.size /\ ∀ j (h : j < ks.length), w.cell? ⟨b, o + j * 2, none⟩ = some (.string ks[j].1) /\ w.cell? ⟨b, o + j * 2 + 1, none⟩ = some (.int .i64 ks[j].2))
theorem KRd.own_below {w w' : World} {A : Option Addr} {n : Nat} {ks : List Kd} (h : KRd w A n ks) {B : Nat} (hB : w.heap.size <= B) (hb : Below B w w') : KRd w' A n ks :=
 ⟨h.1, fun hp => by
  obtain ⟨b, o, e, hlt, hc⟩ := h.2 hp
  refine ⟨b, o, e, by have := hb.size; omega, fun j hj => ?_⟩
  obtain ⟨h0, h1⟩ := hc j hj
  exact ⟨(hb.cell (p := ⟨b, o + j * 2, none⟩) (by simp; omega)).trans h0, (hb.cell (p := ⟨b, o + j * 2 + 1, none⟩) (by simp; omega)).trans h1⟩⟩
theorem KRd.below {w w' : World} {A : Option Addr} {n : Nat} {ks : List Kd} (h : KRd w A n ks) (hb : Below w.heap.size w w') : KRd w' A n ks := h.own_below (Nat.le_refl _) hb
theorem KRd.alloc {w : World} {A : Option Addr} {n : Nat} {ks : List Kd} (h : KRd w A n ks) (o : Obj) : KRd (w.alloc o) A n ks := h.below ((Below.refl _ _).alloc (Nat.le_refl _) o)
theorem KRd.nil (w : World) (A : Option Addr) : KRd w A 0 [] := ⟨rfl, fun h => absurd h (Nat.lt_irrefl 0)⟩
theorem KRd.at_ {w : World} {A : Option Addr} {n : Nat} {ks : List Kd} (h : KRd w A n ks) {j : Nat} (hj : j < n) :
  ∃ b o s z, A = some ⟨b, o, none⟩ /\ b < w.heap.size /\ w.cell? ⟨b, o + j * 2, none⟩ = some (.string s) /\ w.cell? ⟨b, o + j * 2 + 1, none⟩ = some (.int .i64 z) /\ ∃ hl : j < ks.length, ks[j] = (s, z) := by
 obtain ⟨b, o, e, hlt, hc⟩ := h.2 (by omega)
 have hl : j < ks.length := by rw [h.1]; exact hj
 exact ⟨b, o, ks[j].1, ks[j].2, e, hlt, (hc j hl).1, (hc j hl).2, hl, rfl⟩
theorem confT : RT Tryz.prog 24 5 := ⟨⟨_, Tryz.underlying24, rfl⟩, by kernel_rfl⟩
theorem compsT : El Tryz.prog 22 70 (.agg #[.string .empty, .int .i64 0]) 2 24 := ⟨Tryz.underlying22, by kernel_rfl, rfl, by decide⟩
end Go.Proofs.YthiknmhkdeicjaaGreatDoor
namespace Go.Proofs.YthiknmhkdeicjaaGreatDoor
open Go.RowKit
set_option linter.unusedVariables false
abbrev cv (lg pg en gn : Int) (A : Option Addr) (n cap : Nat) : Value := .agg #[.int .i64 lg, .int .i64 pg, .int .i64 en, .int .i64 gn, .slice A n cap]
abbrev cc (lg pg en gn : Int) (A : Option Addr) (n cap : Nat) : Array Value := #[.int .i64 lg, .int .i64 pg, .int .i64 en, .int .i64 gn, .slice A n cap]
structure CAt (w0 w : World) (g : Nat) (lg pg en gn : Int) (A : Option Addr) (n cap : Nat) (ks : List Kd) : Prop where
 bel : Below w0.heap.size w0 w
 ge : w0.heap.size <= g
 lt : g < w.heap.size
 c0 : w.cell? ⟨g, 0, none⟩ = some (.int .i64 lg)
 c1 : w.cell? ⟨g, 1, none⟩ = some (.int .i64 pg)
 c2 : w.cell? ⟨g, 2, none⟩ = some (.int .i64 en)
 c3 : w.cell? ⟨g, 3, none⟩ = some (.int .i64 gn)
 c4 : w.cell? ⟨g, 4, none⟩ = some (.slice A n cap)
 rd : KRd w A n ks
theorem CAt.new {w : World} {A : Option Addr} {n : Nat} {ks : List Kd} (h : KRd w A n ks) (lg pg en gn : Int) (cap : Nat) :
  CAt w (w.alloc (.cells (cc lg pg en gn A n cap) 24)) w.heap.size lg pg en gn A n cap ks where
 bel := (Below.refl _ _).alloc (Nat.le_refl _) _
 ge := Nat.le_refl _
 lt := by simp
 c0 := by simp
 c1 := by simp
 c2 := by simp
 c3 := by simp
 c4 := by simp
 rd := h.alloc _
theorem CAt.next {w0 w w' : World} {g : Nat} {lg pg en gn : Int} {A : Option Addr} {n cap : Nat} {ks : List Kd} (h : CAt w0 w g lg pg en gn A n cap ks) (hb : Below w.heap.size w w') : CAt w0 w' g lg pg en gn A n cap ks where
 bel := h.bel.trans (hb.mono h.bel.size)
 ge := h.ge
 lt := Nat.lt_of_lt_of_le h.lt hb.size
 c0 := (hb.cell (p := ⟨g, 0, none⟩) h.lt).trans h.c0
 c1 := (hb.cell (p := ⟨g, 1, none⟩) h.lt).trans h.c1
 c2 := (hb.cell (p := ⟨g, 2, none⟩) h.lt).trans h.c2
 c3 := (hb.cell (p := ⟨g, 3, none⟩) h.lt).trans h.c3
 c4 := (hb.cell (p := ⟨g, 4, none⟩) h.lt).trans h.c4
 rd := h.rd.below hb
theorem sizeK_yes {ks : List Kd} {j : Nat} {s : ByteArray} {z : Int} (h : j < ks.length) (hk : ks[j] = (s, z)) : sizeK ks (j : Int) = (z, true) := by
 unfold sizeK
 rw [if_pos ⟨by omega, by omega⟩, Int.toNat_natCast, List.getD, List.getElem?_eq_getElem h, hk]
 rfl
theorem sizeK_no {ks : List Kd} {k : Int} (h : ¬ (0 <= k /\ k < ks.length)) : sizeK ks k = (0, false) := by
 unfold sizeK
 rw [if_neg h]
end Go.Proofs.YthiknmhkdeicjaaGreatDoor
namespace Go.Proofs.YthiknmhkdeicjaaGreatDoor
open Go.RowKit
structure EOk {α : Type} (E : (Nat -> Prop) -> World -> α -> List Value -> Prop) : Prop where
 stays : ∀ {K : Nat -> Prop} {w w' : World} {x : α} {r : List Value}, E K w x r -> WStays K w w' -> E K w' x r
 mono : ∀ {K K' : Nat -> Prop} {w : World} {x : α} {r : List Value}, E K w x r -> (∀ y, K y -> K' y) -> E K' w x r
 lt : ∀ {K : Nat -> Prop} {w : World} {x : α} {r : List Value}, E K w x r -> E (fun y => K y /\ y < w.heap.size) w x r
theorem EOk.below {α : Type} {E : (Nat -> Prop) -> World -> α -> List Value -> Prop} (ok : EOk E) {K : Nat -> Prop} {w w' : World} {x : α} {r : List Value} (h : E K w x r) (hb : Below w.heap.size w w') : E K w' x r :=
 ok.mono (ok.stays (ok.lt h) ⟨hb.size, fun y hy => hb.block y hy.2⟩) (fun _ hy => hy.1)
structure Gr {α : Type} (E : (Nat -> Prop) -> World -> α -> List Value -> Prop) (e : TypeId) (sz : Nat) (w : World) (B : Nat) (v : Value) (vs : List Value) (D : Nat -> Prop) (xs : List α) : Prop where
 Bw : B <= w.heap.size
 ow : w.ownsRow B e sz v xs.length vs
 hd : HdL sz (E D w) vs xs
 dx : ∀ x, D x -> x < w.heap.size /\ v.ownBlock ≠ some x
section
variable {α : Type} {E : (Nat -> Prop) -> World -> α -> List Value -> Prop} {e : TypeId} {sz : Nat} {w w' : World} {B : Nat} {v : Value} {vs : List Value} {D K : Nat -> Prop} {xs : List α}
theorem own_geB {e size n : Nat} {xs : List Value} (h : w.ownsRow B e size v n xs) {x : Nat} (hx : v.ownBlock = some x) : B <= x /\ x < w.heap.size := by
 rcases h.2 with ⟨rfl, _⟩ | ⟨g, cap, cur, rfl, hB, hh, _⟩
 ·cases hx
 ·injection hx with hx
  have hx' : g = x := hx
  rw [<- hx']
  exact ⟨hB, (Array.getElem?_eq_some_iff.1 hh).1⟩
theorem Gr.start (h : w.ownsRow B e sz v 0 []) (hB : B <= w.heap.size) : Gr E e sz w B v [] (fun _ => False) ([] : List α) := ⟨hB, h, HdL.nil _ _, fun _ hx => hx.elim⟩
theorem Gr.below (ok : EOk E) (h : Gr E e sz w B v vs D xs) (hb : Below w.heap.size w w') : Gr E e sz w' B v vs D xs :=
 ⟨Nat.le_trans h.Bw hb.size, own_keep h.ow hb, h.hd.imp fun _ _ hx => ok.below hx hb, fun x hx => ⟨Nat.lt_of_lt_of_le (h.dx x hx).1 hb.size, (h.dx x hx).2⟩⟩
theorem Gr.put (ok : EOk E) (h : Gr E e sz w B v vs D xs) {v' : Value} {x : α} {r : List Value} (hr : r.length = sz) (hE : E K w x r) (hK : ∀ y, K y -> v.ownBlock ≠ some y)
  (ho : w'.ownsRow B e sz v' (xs.length + 1) (vs ++ r)) (hg : w.grownBy w' v.ownBlock) (hv : v'.ownBlock = v.ownBlock \/ v'.ownBlock = some w.heap.size) :
  Gr E e sz w' B v' (vs ++ r) (fun y => D y \/ (K y /\ y < w.heap.size)) (xs ++ [x]) := by
 have hF : Fr (fun y => v.ownBlock = some y) w w' := Fr.grown hg (fun y hy => hy)
 have hs := hF.size
 have hall : ∀ y, (D y \/ (K y /\ y < w.heap.size)) -> y < w.heap.size /\ v.ownBlock ≠ some y := fun y hy => by
  rcases hy with h1 | h1
  ·exact h.dx y h1
  ·exact ⟨h1.2, hK y h1.1⟩
 have st : WStays (fun y => D y \/ (K y /\ y < w.heap.size)) w w' := ⟨hs, fun y hy => hF.block y (hall y hy).1 (hall y hy).2⟩
 refine ⟨Nat.le_trans h.Bw hs, by rw [List.length_append, List.length_singleton]; exact ho, ?_, fun y hy => ?_⟩
 ·exact (h.hd.imp fun _ _ hx => ok.stays (ok.mono hx (fun _ hy => .inl hy)) st).snoc hr (ok.stays (ok.mono (ok.lt hE) (fun _ hy => .inr hy)) st)
 ·obtain ⟨h1, h2⟩ := hall y hy
  refine ⟨by omega, fun e => ?_⟩
  rcases hv with hv | hv
  ·exact h2 (hv ▸ e)
  ·rw [hv] at e
   injection e with e
   omega
theorem Gr.rows (ok : EOk E) (h : Gr E e sz w B v vs D xs) : ∃ A c, v = .slice A xs.length c /\ xs.length <= c /\ c <= maxLen /\ RowsL sz (E (fun x => D x \/ (B <= x /\ x < w.heap.size)) w) (fun x => D x \/ (B <= x /\ x < w.heap.size)) w A xs.length xs := by
 obtain ⟨A, c, e1, h1, h2, h3⟩ := own_vrow h.ow
 exact ⟨A, c, e1, h1, h2, vs, rfl, h3.mono (fun x hx => .inr hx), h.hd.imp fun _ _ hx => ok.mono hx (fun _ hy => .inl hy)⟩
end
def EB (K : Nat -> Prop) (w : World) (x : List UInt8) (r : List Value) : Prop := ∃ u, r = [u] /\ VB K w u x
theorem EB.ok : EOk EB where
 stays := fun ⟨u, e, hu⟩ hs => ⟨u, e, hu.stays hs⟩
 mono := fun ⟨u, e, hu⟩ hk => ⟨u, e, hu.mono hk⟩
 lt := fun ⟨u, e, hu⟩ => ⟨u, e, hu.lt⟩
theorem EP.ok : EOk EP where
 stays := fun ⟨u, e, hu⟩ hs => ⟨u, e, hu.stays hs⟩
 mono := fun ⟨u, e, hu⟩ hk => ⟨u, e, hu.mono hk⟩
 lt := fun ⟨u, e, hu⟩ => ⟨u, e, hu.lt⟩
theorem EB.rows {K : Nat -> Prop} {w : World} {A : Option Addr} {n : Nat} {ls : List (List UInt8)} (h : RowsL 1 (EB K w) K w A n ls) : RowsV K w A n ls := by
 obtain ⟨vs, h1, h2, ch, rfl, h4, h5, h6⟩ := h
 have hl : ch.flatten.length = n := by rw [h2.1, Nat.mul_one]
 refine ⟨_, h1, h2, by omega, fun j u hj => ?_⟩
 have hjl : j < ls.length := by have := (List.getElem?_eq_some_iff.1 hj).1; omega
 obtain ⟨r, hr, u', e, hu'⟩ := h6 j ls[j] (List.getElem?_eq_getElem hjl)
 have hg := flatg_get h5 hr (i := 0) (by decide)
 rw [Nat.mul_one, Nat.add_zero, hj, e] at hg
 injection hg with hg
 rw [List.getD_eq_getElem?_getD, List.getElem?_eq_getElem hjl, hg]
 exact hu'
theorem RowsV.atK {K : Nat -> Prop} {w : World} {A : Option Addr} {n : Nat} {ls : List (List UInt8)} (h : RowsV K w A n ls) {j : Nat} (hj : j < n) : ∃ b o u, A = some ⟨b, o, none⟩ /\ K b /\ b < w.heap.size /\ w.cell? ⟨b, o + j, none⟩ = some u /\ VB K w u (ls.getD j []) := by
 obtain ⟨vs, h1, h2, h3⟩ := h
 obtain ⟨b, o, e, hk, hlt, hc⟩ := h2.2.2 (by omega)
 have hjl : j < vs.length := by rw [h2.1]; omega
 have hv := List.getElem?_eq_getElem hjl
 exact ⟨b, o, vs[j], e, hk, hlt, hc j _ hv, h3.2 j _ hv⟩
theorem ints_hd (xs : List Int) : HdL 1 EI (xs.map (Value.int .i64)) xs := by
 refine ⟨xs.map fun x => [.int .i64 x], ?_, by simp, fun r hr => ?_, fun j x hx => ⟨[.int .i64 x], by simp [hx], rfl⟩⟩
 ·induction xs with
  | nil => rfl
  | cons a xs ih => simp at ih ⊢; exact ih
 ·obtain ⟨x, _, rfl⟩ := List.mem_map.1 hr
  rfl
def Two (a b c : Nat) (x : Nat) : Prop := (a <= x /\ x < b) \/ c <= x
end Go.Proofs.YthiknmhkdeicjaaGreatDoor
namespace Go.Proofs.YthiknmhkdeicjaaGreatDoor
open Go.RowKit
set_option maxRecDepth 20000
section
variable {α : Type} {E : (Nat -> Prop) -> World -> α -> List Value -> Prop} {sz : Nat} {K K' : Nat -> Prop} {w w' : World} {A : Option Addr} {n : Nat} {xs : List α}
theorem RowsE.stays (ok : EOk E) (h : RowsL sz (E K w) K w A n xs) (hs : WStays K w w') : RowsL sz (E K w') K w' A n xs := by
 obtain ⟨vs, h1, h2, h3⟩ := h
 exact ⟨vs, h1, h2.stays hs, h3.imp fun x r h => ok.stays h hs⟩
theorem RowsE.mono (ok : EOk E) (h : RowsL sz (E K w) K w A n xs) (hk : ∀ x, K x -> K' x) : RowsL sz (E K' w) K' w A n xs := by
 obtain ⟨vs, h1, h2, h3⟩ := h
 exact ⟨vs, h1, h2.mono hk, h3.imp fun x r h => ok.mono h hk⟩
theorem RowsE.lt (ok : EOk E) (h : RowsL sz (E K w) K w A n xs) : RowsL sz (E (fun x => K x /\ x < w.heap.size) w) (fun x => K x /\ x < w.heap.size) w A n xs := by
 obtain ⟨vs, h1, h2, h3⟩ := h
 exact ⟨vs, h1, h2.lt, h3.imp fun x r h => ok.lt h⟩
theorem RowsE.below (ok : EOk E) (h : RowsL sz (E K w) K w A n xs) (hb : Below w.heap.size w w') : RowsL sz (E K w') K w' A n xs :=
 RowsE.mono ok (RowsE.stays ok (RowsE.lt ok h) ⟨hb.size, fun x hx => hb.block x hx.2⟩) fun _ hx => hx.1
end
def EEc (K : Nat -> Prop) (w : World) (x : (Int × Int) × List (Int × List UInt8)) (r : List Value) : Prop := EE K w x r /\ ∃ (u v : Value) (A : Option Addr) (n c : Nat), r = [u, v, .slice A n c] /\ n <= c /\ c <= maxLen
theorem EEc.ok : EOk EEc where
 stays := fun ⟨⟨A, n, c, e, hp⟩, h2⟩ hs => ⟨⟨A, n, c, e, hp.stays hs⟩, h2⟩
 mono := fun ⟨⟨A, n, c, e, hp⟩, h2⟩ hk => ⟨⟨A, n, c, e, hp.mono hk⟩, h2⟩
 lt := fun ⟨⟨A, n, c, e, hp⟩, h2⟩ => ⟨⟨A, n, c, e, hp.lt⟩, h2⟩
def EntsC (K : Nat -> Prop) (w : World) (A : Option Addr) (n : Nat) (xs : List En) : Prop := RowsL 3 (EEc K w) K w A n xs
theorem EntsC.ents {K : Nat -> Prop} {w : World} {A : Option Addr} {n : Nat} {xs : List En} (h : EntsC K w A n xs) : EntsV K w A n xs := by
 obtain ⟨vs, h1, h2, h3⟩ := h
 exact ⟨vs, h1, h2, h3.imp fun _ _ h => h.1⟩
theorem EntsC.cell {K : Nat -> Prop} {w : World} {A : Option Addr} {n : Nat} {xs : List En} (h : EntsC K w A n xs) {j : Nat} {x : En} (hj : xs[j]? = some x) :
  ∃ b o PA pn pc, A = some ⟨b, o, none⟩ /\ K b /\ b < w.heap.size /\ w.cell? ⟨b, o + j * 3, none⟩ = some (.int .i64 x.1.1) /\ w.cell? ⟨b, o + j * 3 + 1, none⟩ = some (.int .i64 x.1.2) /\ w.cell? ⟨b, o + j * 3 + 2, none⟩ = some (.slice PA pn pc) /\ PartsV K w PA pn x.2 /\ pn <= pc /\ pc <= maxLen := by
 obtain ⟨b, o, r, hA, hk, hlt, _, ⟨⟨PA, pn, pc, rfl, hP⟩, u, v, A', n', c', e, h1, h2⟩, hc⟩ := RowsL.cells h hj
 injection e with _ e
 injection e with _ e
 injection e with e _
 injection e with e1 e2 e3
 subst e1 e2 e3
 exact ⟨b, o, PA, pn, pc, hA, hk, hlt, hc 0 _ (by decide) rfl, hc 1 _ (by decide) rfl, hc 2 _ (by decide) rfl, hP, h1, h2⟩
structure Rst where
 GA : Option Addr
 gn : Nat
 gc : Nat
 FA : Option Addr
 fn : Nat
 fc : Nat
 EA : Option Addr
 en : Nat
 ec : Nat
abbrev Rst.cs (d : Rst) : Array Value := stC d.GA d.gn d.gc d.FA d.fn d.fc d.EA d.en d.ec
def Rst.z : Rst := ⟨none, 0, 0, none, 0, 0, none, 0, 0⟩
structure RSt (K : Nat -> Prop) (w : World) (d : Rst) (s : Es) : Prop where
 gn : d.gn = s.ns.g.length
 fn : d.fn = s.ns.fr.length
 en : d.en = s.ents.length
 g : IRk K w d.GA d.gn s.ns.g
 f : IRk K w d.FA d.fn s.ns.fr
 e : EntsC K w d.EA d.en s.ents
 gc : d.gn <= d.gc
 fc : d.fn <= d.fc
 ec : d.en <= d.ec
 ecm : d.ec <= maxLen
section
variable {K K' : Nat -> Prop} {w w' : World} {d : Rst} {s : Es}
theorem RSt.mono (h : RSt K w d s) (hk : ∀ x, K x -> K' x) : RSt K' w d s := { h with g := h.g.mono hk, f := h.f.mono hk, e := RowsE.mono EEc.ok h.e hk }
theorem RSt.below (h : RSt K w d s) (hb : Below w.heap.size w w') : RSt K w' d s := { h with g := h.g.below hb, f := h.f.below hb, e := RowsE.below EEc.ok h.e hb }
theorem RSt.lt (h : RSt K w d s) : RSt (fun x => K x /\ x < w.heap.size) w d s := { h with g := h.g.lt, f := h.f.lt, e := RowsE.lt EEc.ok h.e }
theorem RSt.stays (h : RSt K w d s) (hs : WStays K w w') : RSt K w' d s := { h with g := h.g.stays hs, f := h.f.stays hs, e := RowsE.stays EEc.ok h.e hs }
theorem RSt.zero (K : Nat -> Prop) (w : World) (s : NS) (h0 : s.g = []) (h1 : s.fr = []) : RSt K w Rst.z ⟨s, []⟩ where
 gn := by rw [h0]; rfl
 fn := by rw [h1]; rfl
 en := rfl
 g := ⟨⟨by rw [h0]; rfl, fun h => absurd h (Nat.lt_irrefl 0)⟩, fun h => absurd h (Nat.lt_irrefl 0)⟩
 f := ⟨⟨by rw [h1]; rfl, fun h => absurd h (Nat.lt_irrefl 0)⟩, fun h => absurd h (Nat.lt_irrefl 0)⟩
 e := ⟨[], rfl, ⟨rfl, fun _ => rfl, fun h => absurd h (Nat.lt_irrefl 0)⟩, HdL.nil _ _⟩
 gc := Nat.le_refl _
 fc := Nat.le_refl _
 ec := Nat.le_refl _
 ecm := Nat.zero_le _
end
def placeN (o : Option Nat) : Int := match o with | some i => (i : Int) | none => -1
theorem findIdx_first {α : Type} {p : α -> Bool} {l : List α} {j : Nat} {y : α} (hy : l[j]? = some y) (hp : p y = true) (hno : ∀ k z, k < j -> l[k]? = some z -> p z = false) : l.findIdx? p = some j := by
 obtain ⟨hj, hg⟩ := List.getElem?_eq_some_iff.1 hy
 rw [List.findIdx?_eq_some_iff_getElem]
 refine ⟨hj, by rw [hg]; exact hp, fun k hk => ?_⟩
 rw [hno k _ hk (List.getElem?_eq_getElem (by omega))]
 decide
theorem findIdx_not {α : Type} {p : α -> Bool} {l : List α} (hno : ∀ (k : Nat) (z : α), l[k]? = some z -> p z = false) : l.findIdx? p = none := by
 rw [List.findIdx?_eq_none_iff]
 intro z hz
 obtain ⟨k, hk⟩ := List.mem_iff_getElem?.1 hz
 exact hno k z hk
set_option maxHeartbeats 1000000 in
theorem RPart_any {K : Nat -> Prop} (w : World) (PA : Option Addr) (pn pc : Nat) (ps : List Pt) (kk : Int) (h : PartsV K w PA pn ps) (hn : pn <= 1000000) :
  Calls Tryz.prog 98 #[.slice PA pn pc, .int .i64 kk] w fun e w' => e = .returned (.int .i64 (placeN (pAt ps kk))) /\ w = w' := by
 have H := hi_ h
 have hl := h.len
 clear h
 go_enter Tryz.func98, Tryz.ntmps98
 go_wp2
 go_loopw [5] (fun iv wr => ∃ j : Nat, j <= pn /\ iv = .int .i64 j /\ w = wr /\ ∀ (a : Nat) (y : Pt), a < j -> ps[a]? = some y -> decide (y.1 = kk) = false) (fun iv _ => pn - (intOf iv).toNat)
 case atStart => exact ⟨0, Nat.zero_le _, rfl, rfl, fun a y ha => absurd ha (Nat.not_lt_zero a)⟩
 case round =>
  obtain ⟨j, hj, rfl, rfl, hno⟩ := hrel
  by_cases hjn : j < pn
  ·obtain ⟨y, hy⟩ : ∃ y, ps[j]? = some y := ⟨_, List.getElem?_eq_getElem (by omega)⟩
   obtain ⟨b, o, u, hA, _, hblt, h0, _, _⟩ := H.out.cell hy
   subst hA
   obtain ⟨yk, yb⟩ := y
   simp only at h0
   have HY := hi_ hy
   have HNO := hi_ hno
   clear hy hno
   by_cases e : yk = kk
   ·subst e
    have hfi : pAt ps yk = some j := findIdx_first (p := fun p : Pt => decide (p.1 = yk)) HY.out (decide_eq_true rfl) (fun k z hk hz => HNO.out k z hk hz)
    have HFI := hi_ hfi
    clear hfi
    go_wp2
    go_ret
    exact ⟨by rw [HFI.out]; rfl, rfl⟩
   ·have de : decide (yk = kk) = false := decide_eq_false e
    go_wp2
    go_roundw
    case rel =>
     refine ⟨j + 1, hjn, by go_num, by first | rfl | trivial, fun a y ha hy => ?_⟩
     by_cases e' : a = j
     ·subst e'
      rw [HY.out] at hy
      injection hy with hy
      rw [<- hy]
      exact de
     ·exact HNO.out a y (by omega) hy
    case measure => simp [intOf]; omega
  ·have HNO := hi_ hno
   clear hno
   go_wp2
   go_ret
   refine ⟨?_, rfl⟩
   have : pAt ps kk = none := findIdx_not (p := fun p : Pt => decide (p.1 = kk)) fun a y hy => HNO.out a y (by have := (List.getElem?_eq_some_iff.1 hy).1; omega) hy
   rw [this]
   rfl
theorem names_start (w : World) (lg pg en gn : Int) (A : Option Addr) (n cap : Nat) (d : Rst) : ∃ w1, w1 = ((w.alloc (.cells (cc lg pg en gn A n cap) 24)).alloc (.cells d.cs 37)).alloc (.cells #[.int .i64 0, .int .i64 0, .slice none 0 0, .slice none 0 0] 140) /\ Below w.heap.size w w1 /\ Rec 24 w1 w.heap.size (cc lg pg en gn A n cap) /\ Rec 37 w1 (w.heap.size + 1) d.cs /\ Rec 140 w1 (w.heap.size + 2) #[.int .i64 0, .int .i64 0, .slice none 0 0, .slice none 0 0] := by
 obtain ⟨wa, hwa⟩ : ∃ wa, wa = w.alloc (.cells (cc lg pg en gn A n cap) 24) := ⟨_, rfl⟩
 obtain ⟨wb, hwb⟩ : ∃ wb, wb = wa.alloc (.cells d.cs 37) := ⟨_, rfl⟩
 have sa : wa.heap.size = w.heap.size + 1 := by rw [hwa]; simp
 have sb : wb.heap.size = w.heap.size + 2 := by rw [hwb]; simp [sa]
 have ba : Below w.heap.size w wa := by rw [hwa]; exact (Below.refl _ _).alloc (Nat.le_refl _) _
 have bb : Below wa.heap.size wa wb := by rw [hwb]; exact (Below.refl _ _).alloc (Nat.le_refl _) _
 have bc : Below wb.heap.size wb (wb.alloc (.cells #[.int .i64 0, .int .i64 0, .slice none 0 0, .slice none 0 0] 140)) := (Below.refl _ _).alloc (Nat.le_refl _) _
 have ra : Rec 24 wa w.heap.size (cc lg pg en gn A n cap) := by rw [hwa]; exact Rec.new w _ _
 have rb : Rec 37 wb (w.heap.size + 1) d.cs := by rw [hwb, <- sa]; exact Rec.new wa _ _
 refine ⟨wb.alloc (.cells #[.int .i64 0, .int .i64 0, .slice none 0 0, .slice none 0 0] 140), by rw [hwb, hwa], ?_, ?_, ?_, ?_⟩
 ·exact (ba.trans (bb.mono ba.size)).trans (bc.mono (Nat.le_trans ba.size bb.size))
 ·exact (ra.under bb).under bc
 ·exact rb.under bc
 ·have := Rec.new wb 140 #[.int .i64 0, .int .i64 0, .slice none 0 0, .slice none 0 0]
  rwa [sb] at this
theorem idsT6 : RT Tryz.prog 140 4 := ⟨⟨_, Tryz.underlying140, rfl⟩, by kernel_rfl⟩
theorem RNames_any (w : World) (lg pg en gn : Int) (A : Option Addr) (n cap : Nat) (d : Rst) :
  Calls Tryz.prog 95 #[cv lg pg en gn A n cap, .agg d.cs] w fun e w' => e = .returned (Rv.v ⟨en, gn, d.GA, d.gn, d.gc, d.FA, d.fn, d.fc⟩) /\ Below w.heap.size w w' := by
 obtain ⟨w1, hw1, hb1, r1, r2, r3⟩ := names_start w lg pg en gn A n cap d
 have k2 := r1.at_ 2
 have k3 := r1.at_ 3
 have m0 := r2.at_ 0
 have m1 := r2.at_ 1
 have R3 := hi_ r3
 have HB := hi_ hb1
 obtain ⟨GA, gn', gc, FA, fn, fc, EA, en', ec⟩ := d
 clear r1 r2 r3 hb1
 go_enter Tryz.func95, Tryz.ntmps95
 go_wp2_with (first
  | (rw [<- hw1]; clear hw1)
  | ((with_reducible refine wpList_stS (cs' := #[.int .i64 en, .int .i64 gn, .slice GA gn' gc, .slice FA fn fc]) idsT6 rfl rfl (by simp [Value.oneCell']) rfl (.tmp 4) (.tmp 13) rfl rfl rfl R3.out ?_); intro w5 hR5 hF5))
 refine bodyPost_ret (res_c rfl rfl (hR5.load idsT6 rfl)) rfl ?_
 exact ⟨rfl, HB.out.trans (hF5.toBelow (fun y hy => by rw [show y = w.heap.size + 2 from hy]; omega) HB.out.size)⟩
theorem place_start (w : World) (d : Rst) (i g : Int) : ∃ w1, w1 = (w.alloc (.cells d.cs 37)).alloc (.cells #[.int .i64 i, .int .i64 g] 39) /\ Below w.heap.size w w1 /\ Rec 37 w1 w.heap.size d.cs /\ Rec 39 w1 (w.heap.size + 1) #[.int .i64 i, .int .i64 g] := by
 refine ⟨_, rfl, ((Below.refl _ _).alloc (Nat.le_refl _) _).alloc (by simp) _, (Rec.new w _ _).under ((Below.refl _ _).alloc (Nat.le_refl _) _), ?_⟩
 have := Rec.new (w.alloc (.cells d.cs 37)) 39 #[.int .i64 i, .int .i64 g]
 rw [World.size_alloc] at this
 exact this
set_option maxHeartbeats 1000000 in
theorem RPlace_any {K : Nat -> Prop} (w : World) (d : Rst) (s : Es) (h : RSt K w d s) (hn : d.en <= 1000000) (i g : Int) :
  Calls Tryz.prog 61 #[.agg d.cs, .agg #[.int .i64 i, .int .i64 g]] w fun e w' => e = .returned (.int .i64 (placeN (ePlace s.ents (i, g)))) /\ Below w.heap.size w w' := by
 obtain ⟨w1, hw1, hb1, r1, r2⟩ := place_start w d i g
 obtain ⟨es, hes⟩ : ∃ es, es = s.ents := ⟨_, rfl⟩
 have H := hi_ (show EntsV K w d.EA d.en es by rw [hes]; exact h.e.ents)
 have hl := h.en
 rw [<- hes] at hl ⊢
 obtain ⟨GA, gn, gc, FA, fn, fc, EA, n, ec⟩ := d
 simp only at hl hn H
 have HL := hi_ hl
 clear hl
 have k2 := r1.at_ 2
 have HR := hi_ (And.intro r1 (And.intro r2 hb1))
 clear h hb1 r1 r2 hes
 go_enter Tryz.func61, Tryz.ntmps61
 go_wp2_with (rw [<- hw1]; clear hw1)
 go_loopw [5] (fun iv wr => ∃ j : Nat, j <= n /\ iv = .int .i64 j /\ Below w1.heap.size w1 wr /\ ∀ (a : Nat) (y : En), a < j -> es[a]? = some y -> decide (y.1 = (i, g)) = false) (fun iv _ => n - (intOf iv).toNat)
 case atStart => exact ⟨0, Nat.zero_le _, rfl, Below.refl _ _, fun a y ha => absurd ha (Nat.not_lt_zero a)⟩
 case round =>
  clear k2
  obtain ⟨j, hj, rfl, hB, hno⟩ := hrel
  have HBw := hi_ (HR.out.2.2.trans (hB.mono HR.out.2.2.size))
  have k2 := (HR.out.1.under hB).at_ 2
  have m0 := (HR.out.2.1.under hB).at_ 0
  have m1 := (HR.out.2.1.under hB).at_ 1
  have HB := hi_ hB
  have HNO := hi_ hno
  clear hB hno
  by_cases hjn : j < n
  ·obtain ⟨y, hy⟩ : ∃ y, es[j]? = some y := ⟨_, List.getElem?_eq_getElem (by have := HL.out; omega)⟩
   obtain ⟨b, o, PA, pn, pc, hA, _, hblt, h0, h1, _, _⟩ := H.out.cell hy
   subst hA
   obtain ⟨⟨yi, yg⟩, yp⟩ := y
   simp only at h0 h1
   have HY := hi_ hy
   have n0 : wr.cell? ⟨b, o + j * 3, none⟩ = some (.int .i64 yi) := (HBw.out.cell (p := ⟨b, o + j * 3, none⟩) hblt).trans h0
   have n1 : wr.cell? ⟨b, o + j * 3 + 1, none⟩ = some (.int .i64 yg) := (HBw.out.cell (p := ⟨b, o + j * 3 + 1, none⟩) hblt).trans h1
   have s1 : wr.drew.cell? ⟨w.heap.size, 2, none⟩ = some (.slice (some ⟨b, o, none⟩) n ec) /\ (wr.drew.cell? ⟨b, o + j * 3, none⟩ = some (.int .i64 yi) /\ wr.drew.cell? ⟨b, o + j * 3 + 1, none⟩ = some (.int .i64 yg)) /\ wr.drew.cell? ⟨w.heap.size + 1, 0, none⟩ = some (.int .i64 i) /\ wr.drew.cell? ⟨w.heap.size + 1, 1, none⟩ = some (.int .i64 g) := ⟨k2, ⟨n0, n1⟩, m0, m1⟩
   clear hy h0 h1 hblt
   go_upto_region 4 with fail
   clear k2 n0 n1 m0 m1
   by_cases hi : yi = i
   ·subst hi
    by_cases hg : yg = g
    ·subst hg
     have HFI := hi_ (show ePlace es (yi, yg) = some j from findIdx_first (p := fun e : En => decide (e.1 = (yi, yg))) HY.out (decide_eq_true rfl) (fun k z hk hz => HNO.out k z hk hz))
     refine wp_region_noPanic ?_
     refine wp_region_held_drew (S := fun W => W.cell? ⟨w.heap.size, 2, none⟩ = some (.slice (some ⟨b, o, none⟩) n ec) /\ (W.cell? ⟨b, o + j * 3, none⟩ = some (.int .i64 yi) /\ W.cell? ⟨b, o + j * 3 + 1, none⟩ = some (.int .i64 yg)) /\ W.cell? ⟨w.heap.size + 1, 0, none⟩ = some (.int .i64 yi) /\ W.cell? ⟨w.heap.size + 1, 1, none⟩ = some (.int .i64 yg)) (by kernel_rfl) s1 (fun hHeld => ?_)
     refine wpAnyH_take (i := 0) (oi := ⟨some 13, .fieldAddr 37 (.tmp 2) 2, 0, "ref.go:23", #[], none⟩) (v := ?_) rfl (by kernel_rfl) (by kernel_rfl) (by kernel_rfl) (fun _ _ _ h => h) (Or.inl ⟨by rfl, ?_⟩) (by assumption) ?_
     rotate_left 1
     ·intro w' hSw; (try dsimp only at hSw); go_simp; (try with_reducible rfl)
     simp only [Act.put, sA_, sB_, sC_]
     refine wpAnyH_take (i := 1) (oi := ⟨some 14, .load 35 (.tmp 13), 35, "ref.go:23", #[⟨0, .data⟩], none⟩) (v := ?_) rfl (by kernel_rfl) (by kernel_rfl) (by kernel_rfl) (fun _ _ _ h => h) (Or.inl ⟨by rfl, ?_⟩) (by assumption) ?_
     rotate_left 1
     ·intro w' hSw; (try dsimp only at hSw); go_simp; (try with_reducible rfl)
     simp only [Act.put, sA_, sB_, sC_]
     refine wpAnyH_take (i := 2) (oi := ⟨some 15, .move (.tmp 5), 3, "ref.go:23", #[], none⟩) (v := ?_) rfl (by kernel_rfl) (by kernel_rfl) (by kernel_rfl) (fun _ _ _ h => h) (Or.inl ⟨by rfl, ?_⟩) (by assumption) ?_
     rotate_left 1
     ·intro w' hSw; (try dsimp only at hSw); go_simp; (try with_reducible rfl)
     simp only [Act.put, sA_, sB_, sC_]
     refine wpAnyH_take (i := 3) (oi := ⟨some 16, .indexAddr 35 (.tmp 14) (.tmp 15), 0, "ref.go:23", #[⟨1, .data⟩, ⟨2, .data⟩], none⟩) (v := ?_) rfl (by kernel_rfl) (by kernel_rfl) (by kernel_rfl) (fun _ _ _ h => h) (Or.inl ⟨by rfl, ?_⟩) (by assumption) ?_
     rotate_left 1
     ·intro w' hSw; (try dsimp only at hSw); go_simp; (try with_reducible rfl)
     simp only [Act.put, sA_, sB_, sC_]
     refine wpAnyH_take (i := 4) (oi := ⟨some 17, .fieldAddr 101 (.tmp 16) 0, 0, "ref.go:23", #[⟨3, .data⟩], none⟩) (v := ?_) rfl (by kernel_rfl) (by kernel_rfl) (by kernel_rfl) (fun _ _ _ h => h) (Or.inl ⟨by rfl, ?_⟩) (by assumption) ?_
     rotate_left 1
     ·intro w' hSw; (try dsimp only at hSw); go_simp; (try with_reducible rfl)
     simp only [Act.put, sA_, sB_, sC_]
     refine wpAnyH_take (i := 5) (oi := ⟨some 18, .load 39 (.tmp 17), 39, "ref.go:23", #[⟨4, .data⟩], none⟩) (v := ?_) rfl (by kernel_rfl) (by kernel_rfl) (by kernel_rfl) (fun _ _ _ h => h) (Or.inl ⟨by rfl, ?_⟩) (by assumption) ?_
     rotate_left 1
     ·intro w' hSw; (try dsimp only at hSw); go_simp; (try with_reducible rfl)
     simp only [Act.put, sA_, sB_, sC_]
     refine wpAnyH_take (i := 6) (oi := ⟨some 19, .load 39 (.tmp 3), 39, "ref.go:23", #[], none⟩) (v := ?_) rfl (by kernel_rfl) (by kernel_rfl) (by kernel_rfl) (fun _ _ _ h => h) (Or.inl ⟨by rfl, ?_⟩) (by assumption) ?_
     rotate_left 1
     ·intro w' hSw; (try dsimp only at hSw); go_simp; (try with_reducible rfl)
     simp only [Act.put, sA_, sB_, sC_]
     refine wpAnyH_take (i := 7) (oi := ⟨some 20, .binOp .eql 39 (.tmp 18) (.tmp 19) 39, 4, "ref.go:23", #[⟨5, .data⟩, ⟨6, .data⟩], none⟩) (v := ?_) rfl (by kernel_rfl) (by kernel_rfl) (by kernel_rfl) (fun _ _ _ h => h) (Or.inl ⟨by rfl, ?_⟩) (by assumption) ?_
     rotate_left 1
     ·intro w' hSw; (try dsimp only at hSw); go_simp; (try with_reducible rfl)
     simp only [Act.put, sA_, sB_, sC_]
     refine wpAnyH_done (by kernel_rfl) ?_ _
     refine NoPanic.normal ?_
     clear hHeld s1
     go_wp2
     go_ret
     exact ⟨by rw [HFI.out]; rfl, HBw.out.drew⟩
    ·have hne := hg
     refine wp_region_noPanic ?_
     refine wp_region_held_drew (S := fun W => W.cell? ⟨w.heap.size, 2, none⟩ = some (.slice (some ⟨b, o, none⟩) n ec) /\ (W.cell? ⟨b, o + j * 3, none⟩ = some (.int .i64 yi) /\ W.cell? ⟨b, o + j * 3 + 1, none⟩ = some (.int .i64 yg)) /\ W.cell? ⟨w.heap.size + 1, 0, none⟩ = some (.int .i64 yi) /\ W.cell? ⟨w.heap.size + 1, 1, none⟩ = some (.int .i64 g)) (by kernel_rfl) s1 (fun hHeld => ?_)
     refine wpAnyH_take (i := 0) (oi := ⟨some 13, .fieldAddr 37 (.tmp 2) 2, 0, "ref.go:23", #[], none⟩) (v := ?_) rfl (by kernel_rfl) (by kernel_rfl) (by kernel_rfl) (fun _ _ _ h => h) (Or.inl ⟨by rfl, ?_⟩) (by assumption) ?_
     rotate_left 1
     ·intro w' hSw; (try dsimp only at hSw); go_simp; (try with_reducible rfl)
     simp only [Act.put, sA_, sB_, sC_]
     refine wpAnyH_take (i := 1) (oi := ⟨some 14, .load 35 (.tmp 13), 35, "ref.go:23", #[⟨0, .data⟩], none⟩) (v := ?_) rfl (by kernel_rfl) (by kernel_rfl) (by kernel_rfl) (fun _ _ _ h => h) (Or.inl ⟨by rfl, ?_⟩) (by assumption) ?_
     rotate_left 1
     ·intro w' hSw; (try dsimp only at hSw); go_simp; (try with_reducible rfl)
     simp only [Act.put, sA_, sB_, sC_]
     refine wpAnyH_take (i := 2) (oi := ⟨some 15, .move (.tmp 5), 3, "ref.go:23", #[], none⟩) (v := ?_) rfl (by kernel_rfl) (by kernel_rfl) (by kernel_rfl) (fun _ _ _ h => h) (Or.inl ⟨by rfl, ?_⟩) (by assumption) ?_
     rotate_left 1
     ·intro w' hSw; (try dsimp only at hSw); go_simp; (try with_reducible rfl)
     simp only [Act.put, sA_, sB_, sC_]
     refine wpAnyH_take (i := 3) (oi := ⟨some 16, .indexAddr 35 (.tmp 14) (.tmp 15), 0, "ref.go:23", #[⟨1, .data⟩, ⟨2, .data⟩], none⟩) (v := ?_) rfl (by kernel_rfl) (by kernel_rfl) (by kernel_rfl) (fun _ _ _ h => h) (Or.inl ⟨by rfl, ?_⟩) (by assumption) ?_
     rotate_left 1
     ·intro w' hSw; (try dsimp only at hSw); go_simp; (try with_reducible rfl)
     simp only [Act.put, sA_, sB_, sC_]
     refine wpAnyH_take (i := 4) (oi := ⟨some 17, .fieldAddr 101 (.tmp 16) 0, 0, "ref.go:23", #[⟨3, .data⟩], none⟩) (v := ?_) rfl (by kernel_rfl) (by kernel_rfl) (by kernel_rfl) (fun _ _ _ h => h) (Or.inl ⟨by rfl, ?_⟩) (by assumption) ?_
     rotate_left 1
     ·intro w' hSw; (try dsimp only at hSw); go_simp; (try with_reducible rfl)
     simp only [Act.put, sA_, sB_, sC_]
     refine wpAnyH_take (i := 5) (oi := ⟨some 18, .load 39 (.tmp 17), 39, "ref.go:23", #[⟨4, .data⟩], none⟩) (v := ?_) rfl (by kernel_rfl) (by kernel_rfl) (by kernel_rfl) (fun _ _ _ h => h) (Or.inl ⟨by rfl, ?_⟩) (by assumption) ?_
     rotate_left 1
     ·intro w' hSw; (try dsimp only at hSw); go_simp; (try with_reducible rfl)
     simp only [Act.put, sA_, sB_, sC_]
     refine wpAnyH_take (i := 6) (oi := ⟨some 19, .load 39 (.tmp 3), 39, "ref.go:23", #[], none⟩) (v := ?_) rfl (by kernel_rfl) (by kernel_rfl) (by kernel_rfl) (fun _ _ _ h => h) (Or.inl ⟨by rfl, ?_⟩) (by assumption) ?_
     rotate_left 1
     ·intro w' hSw; (try dsimp only at hSw); go_simp; (try with_reducible rfl)
     simp only [Act.put, sA_, sB_, sC_]
     refine wpAnyH_take (i := 7) (oi := ⟨some 20, .binOp .eql 39 (.tmp 18) (.tmp 19) 39, 4, "ref.go:23", #[⟨5, .data⟩, ⟨6, .data⟩], none⟩) (v := ?_) rfl (by kernel_rfl) (by kernel_rfl) (by kernel_rfl) (fun _ _ _ h => h) (Or.inl ⟨by rfl, ?_⟩) (by assumption) ?_
     rotate_left 1
     ·intro w' hSw; (try dsimp only at hSw); go_simp; (try rw [if_neg hne]); (try with_reducible rfl)
     simp only [Act.put, sA_, sB_, sC_]
     refine wpAnyH_done (by kernel_rfl) ?_ _
     refine NoPanic.normal ?_
     clear hHeld s1
     go_wp2
     go_roundw
     case rel =>
      refine ⟨j + 1, hjn, by go_num, HB.out.drew, fun a y ha hy => ?_⟩
      by_cases e' : a = j
      ·subst e'
       rw [HY.out] at hy
       injection hy with hy
       rw [<- hy]
       exact decide_eq_false fun e => hne (by injection e)
      ·exact HNO.out a y (by omega) hy
     case measure => simp [intOf]; omega
   ·have hne := hi
    refine wp_region_noPanic ?_
    refine wp_region_held_drew (S := fun W => W.cell? ⟨w.heap.size, 2, none⟩ = some (.slice (some ⟨b, o, none⟩) n ec) /\ (W.cell? ⟨b, o + j * 3, none⟩ = some (.int .i64 yi) /\ W.cell? ⟨b, o + j * 3 + 1, none⟩ = some (.int .i64 yg)) /\ W.cell? ⟨w.heap.size + 1, 0, none⟩ = some (.int .i64 i) /\ W.cell? ⟨w.heap.size + 1, 1, none⟩ = some (.int .i64 g)) (by kernel_rfl) s1 (fun hHeld => ?_)
    refine wpAnyH_take (i := 0) (oi := ⟨some 13, .fieldAddr 37 (.tmp 2) 2, 0, "ref.go:23", #[], none⟩) (v := ?_) rfl (by kernel_rfl) (by kernel_rfl) (by kernel_rfl) (fun _ _ _ h => h) (Or.inl ⟨by rfl, ?_⟩) (by assumption) ?_
    rotate_left 1
    ·intro w' hSw; (try dsimp only at hSw); go_simp; (try with_reducible rfl)
    simp only [Act.put, sA_, sB_, sC_]
    refine wpAnyH_take (i := 1) (oi := ⟨some 14, .load 35 (.tmp 13), 35, "ref.go:23", #[⟨0, .data⟩], none⟩) (v := ?_) rfl (by kernel_rfl) (by kernel_rfl) (by kernel_rfl) (fun _ _ _ h => h) (Or.inl ⟨by rfl, ?_⟩) (by assumption) ?_
    rotate_left 1
    ·intro w' hSw; (try dsimp only at hSw); go_simp; (try with_reducible rfl)
    simp only [Act.put, sA_, sB_, sC_]
    refine wpAnyH_take (i := 2) (oi := ⟨some 15, .move (.tmp 5), 3, "ref.go:23", #[], none⟩) (v := ?_) rfl (by kernel_rfl) (by kernel_rfl) (by kernel_rfl) (fun _ _ _ h => h) (Or.inl ⟨by rfl, ?_⟩) (by assumption) ?_
    rotate_left 1
    ·intro w' hSw; (try dsimp only at hSw); go_simp; (try with_reducible rfl)
    simp only [Act.put, sA_, sB_, sC_]
    refine wpAnyH_take (i := 3) (oi := ⟨some 16, .indexAddr 35 (.tmp 14) (.tmp 15), 0, "ref.go:23", #[⟨1, .data⟩, ⟨2, .data⟩], none⟩) (v := ?_) rfl (by kernel_rfl) (by kernel_rfl) (by kernel_rfl) (fun _ _ _ h => h) (Or.inl ⟨by rfl, ?_⟩) (by assumption) ?_
    rotate_left 1
    ·intro w' hSw; (try dsimp only at hSw); go_simp; (try with_reducible rfl)
    simp only [Act.put, sA_, sB_, sC_]
    refine wpAnyH_take (i := 4) (oi := ⟨some 17, .fieldAddr 101 (.tmp 16) 0, 0, "ref.go:23", #[⟨3, .data⟩], none⟩) (v := ?_) rfl (by kernel_rfl) (by kernel_rfl) (by kernel_rfl) (fun _ _ _ h => h) (Or.inl ⟨by rfl, ?_⟩) (by assumption) ?_
    rotate_left 1
    ·intro w' hSw; (try dsimp only at hSw); go_simp; (try with_reducible rfl)
    simp only [Act.put, sA_, sB_, sC_]
    refine wpAnyH_take (i := 5) (oi := ⟨some 18, .load 39 (.tmp 17), 39, "ref.go:23", #[⟨4, .data⟩], none⟩) (v := ?_) rfl (by kernel_rfl) (by kernel_rfl) (by kernel_rfl) (fun _ _ _ h => h) (Or.inl ⟨by rfl, ?_⟩) (by assumption) ?_
    rotate_left 1
    ·intro w' hSw; (try dsimp only at hSw); go_simp; (try with_reducible rfl)
    simp only [Act.put, sA_, sB_, sC_]
    refine wpAnyH_take (i := 6) (oi := ⟨some 19, .load 39 (.tmp 3), 39, "ref.go:23", #[], none⟩) (v := ?_) rfl (by kernel_rfl) (by kernel_rfl) (by kernel_rfl) (fun _ _ _ h => h) (Or.inl ⟨by rfl, ?_⟩) (by assumption) ?_
    rotate_left 1
    ·intro w' hSw; (try dsimp only at hSw); go_simp; (try with_reducible rfl)
    simp only [Act.put, sA_, sB_, sC_]
    refine wpAnyH_take (i := 7) (oi := ⟨some 20, .binOp .eql 39 (.tmp 18) (.tmp 19) 39, 4, "ref.go:23", #[⟨5, .data⟩, ⟨6, .data⟩], none⟩) (v := ?_) rfl (by kernel_rfl) (by kernel_rfl) (by kernel_rfl) (fun _ _ _ h => h) (Or.inl ⟨by rfl, ?_⟩) (by assumption) ?_
    rotate_left 1
    ·intro w' hSw; (try dsimp only at hSw); go_simp; (try rw [if_neg hne]); (try with_reducible rfl)
    simp only [Act.put, sA_, sB_, sC_]
    refine wpAnyH_done (by kernel_rfl) ?_ _
    refine NoPanic.normal ?_
    clear hHeld s1
    go_wp2
    go_roundw
    case rel =>
     refine ⟨j + 1, hjn, by go_num, HB.out.drew, fun a y ha hy => ?_⟩
     by_cases e' : a = j
     ·subst e'
      rw [HY.out] at hy
      injection hy with hy
      rw [<- hy]
      exact decide_eq_false fun e => hne (by injection e)
     ·exact HNO.out a y (by omega) hy
    case measure => simp [intOf]; omega
  ·go_wp2
   go_ret
   refine ⟨?_, HBw.out⟩
   have : ePlace es (i, g) = none := findIdx_not (p := fun e : En => decide (e.1 = (i, g))) fun a y hy => HNO.out a y (by have := (List.getElem?_eq_some_iff.1 hy).1; have := HL.out; omega) hy
   rw [this]
   rfl
end Go.Proofs.YthiknmhkdeicjaaGreatDoor
namespace Go.Proofs
open Go.Shelf
def Tryz.sortD_ren : Go.Shelf.Ren := ⟨fun | 6 => 54 | 15 => 110 | 14 => 109 | 28 => 157 | 29 => 158 | 20 => 149 | 21 => 150 | 22 => 151 | 23 => 152 | 24 => 153 | 25 => 154 | 26 => 155 | 27 => 156 | 46 => 174 | 47 => 175 | 48 => 176 | 49 => 177 | 50 => 178 | 57 => 183 | n => n, fun | 22 => 52 | 24 => 39 | 25 => 117 | 3 => 3 | 39 => 195 | 0 => 0 | 53 => 236 | 55 => 26 | 4 => 4 | 46 => 230 | 45 => 229 | 50 => 79 | 5 => 5 | 9 => 9 | 66 => 255 | 70 => 258 | 76 => 263 | 77 => 264 | n => n, fun | n => n⟩
theorem Tryz.sortD : Go.Proofs.SlLaysF0.n6 Tryz.prog Tryz.sortD_ren := {
 mixed := by kernel_rfl
 f6 := ⟨Tryz.f54.name, by decide, Tryz.func54.trans (congrArg some (by kernel_rfl))⟩
 f14 := ⟨Tryz.f109.name, by decide, Tryz.func109.trans (congrArg some (by kernel_rfl))⟩
 f15 := Tryz.func110.trans (congrArg some (by kernel_rfl))
 f20 := ⟨Tryz.f149.name, by decide, Tryz.func149.trans (congrArg some (by kernel_rfl))⟩
 f21 := ⟨Tryz.f150.name, by decide, Tryz.func150.trans (congrArg some (by kernel_rfl))⟩
 f22 := ⟨Tryz.f151.name, by decide, Tryz.func151.trans (congrArg some (by kernel_rfl))⟩
 f23 := ⟨Tryz.f152.name, by decide, Tryz.func152.trans (congrArg some (by kernel_rfl))⟩
 f24 := ⟨Tryz.f153.name, by decide, Tryz.func153.trans (congrArg some (by kernel_rfl))⟩
 f25 := ⟨Tryz.f154.name, by decide, Tryz.func154.trans (congrArg some (by kernel_rfl))⟩
 f26 := ⟨Tryz.f155.name, by decide, Tryz.func155.trans (congrArg some (by kernel_rfl))⟩
 f27 := ⟨Tryz.f156.name, by decide, Tryz.func156.trans (congrArg some (by kernel_rfl))⟩
 f28 := Tryz.func157.trans (congrArg some (by kernel_rfl))
 f29 := Tryz.func158.trans (congrArg some (by kernel_rfl))
 f46 := ⟨Tryz.f174.name, by decide, Tryz.func174.trans (congrArg some (by kernel_rfl))⟩
 f47 := Tryz.func175.trans (congrArg some (by kernel_rfl))
 f48 := Tryz.func176.trans (congrArg some (by kernel_rfl))
 f49 := ⟨Tryz.f177.name, by decide, Tryz.func177.trans (congrArg some (by kernel_rfl))⟩
 f50 := ⟨Tryz.f178.name, by decide, Tryz.func178.trans (congrArg some (by kernel_rfl))⟩
 f57 := ⟨Tryz.f183.name, by decide, Tryz.func183.trans (congrArg some (by kernel_rfl))⟩
 t0 := Tryz.underlying0
 a0 := Tryz.isAgg0
 z0 := Tryz.sizeOf0
 v0 := Tryz.zeroValue0
 t3 := Tryz.underlying3
 a3 := Tryz.isAgg3
 z3 := Tryz.sizeOf3
 v3 := Tryz.zeroValue3
 t4 := Tryz.underlying4
 a4 := Tryz.isAgg4
 z4 := Tryz.sizeOf4
 v4 := Tryz.zeroValue4
 t5 := Tryz.underlying5
 a5 := Tryz.isAgg5
 z5 := Tryz.sizeOf5
 v5 := Tryz.zeroValue5
 t9 := Tryz.underlying9
 a9 := Tryz.isAgg9
 z9 := Tryz.sizeOf9
 v9 := Tryz.zeroValue9
 t22 := Tryz.underlying52
 a22 := Tryz.isAgg52
 z22 := Tryz.sizeOf52
 v22 := Tryz.zeroValue52
 t25 := Tryz.underlying117
 a25 := Tryz.isAgg117
 z25 := Tryz.sizeOf117
 v25 := Tryz.zeroValue117
 t39 := Tryz.underlying195
 a39 := Tryz.isAgg195
 z39 := Tryz.sizeOf195
 v39 := Tryz.zeroValue195
 t45 := Tryz.underlying229
 a45 := Tryz.isAgg229
 z45 := Tryz.sizeOf229
 v45 := Tryz.zeroValue229
 t46 := Tryz.underlying230
 a46 := Tryz.isAgg230
 z46 := Tryz.sizeOf230
 v46 := Tryz.zeroValue230
 t50 := Tryz.underlying79
 a50 := Tryz.isAgg79
 z50 := Tryz.sizeOf79
 v50 := Tryz.zeroValue79
 t53 := Tryz.underlying236
 a53 := Tryz.isAgg236
 z53 := Tryz.sizeOf236
 v53 := Tryz.zeroValue236
 t55 := Tryz.underlying26
 a55 := Tryz.isAgg26
 z55 := Tryz.sizeOf26
 v55 := Tryz.zeroValue26
 t66 := Tryz.underlying255
 a66 := Tryz.isAgg255
 z66 := Tryz.sizeOf255
 v66 := Tryz.zeroValue255
 t70 := Tryz.underlying258
 a70 := Tryz.isAgg258
 z70 := Tryz.sizeOf258
 v70 := Tryz.zeroValue258
 t76 := Tryz.underlying263
 a76 := Tryz.isAgg263
 z76 := Tryz.sizeOf263
 v76 := Tryz.zeroValue263
 t77 := Tryz.underlying264
 a77 := Tryz.isAgg264
 z77 := Tryz.sizeOf264
 v77 := Tryz.zeroValue264 }
end Go.Proofs
namespace Go.Proofs.YthiknmhkdeicjaaGreatDoor
set_option maxRecDepth 20000
open Go.RowKit
section
variable {w : World} {own : Nat -> Prop} {p : Nat} {gv av fv : Value} {s : NS}
theorem IGoes.preF {w1 w2 : World} (hf : Fr own w w1) (h : IGoes w1 own p s w2) : IGoes w own p s w2 := by
 obtain ⟨hf', own', ho, hd⟩ := h
 exact ⟨hf.trans hf', own', fun x hx => (ho x hx).imp id (fun h => Nat.le_trans hf.size h), hd⟩
theorem Give_no (dom : ∀ x, own x -> x < w.heap.size) (h : IAt w own p gv av fv s) (i gen : Int) (ha : s.alive i gen = false) :
  Calls Tryz.prog 91 #[.pointer (some ⟨p, 0, none⟩), idv (i, gen)] w fun e w' => e = .returned (.int .i64 5) /\ IGoes w own p s w' := by
 show Calls _ _ #[.pointer (some ⟨p, 0, none⟩), .agg #[.int .i64 i, .int .i64 gen]] w _
 obtain ⟨w1, hw1⟩ : ∃ w1, w1 = w.alloc (.cells #[.int .i64 i, .int .i64 gen] 39) := ⟨_, rfl⟩
 have hb : Below w.heap.size w w1 := by rw [hw1]; exact (Below.refl _ _).alloc (Nat.le_refl _) _
 have hR1 : Rec 39 w1 w.heap.size #[.int .i64 i, .int .i64 gen] := by rw [hw1]; exact Rec.new _ _ _
 have CA := Alive_any (h.below hb) i gen
 rw [ha] at CA
 have CB := hi_ CA
 have HR := hi_ hR1
 have HG := hi_ (IGoes.still dom h hb)
 clear h ha hb hR1 CA
 go_enter Tryz.func91, Tryz.ntmps91
 go_wp2_with (first
  | (rw [<- hw1]; clear hw1)
  | (with_reducible refine wpList_ldP (x0 := i) (y0 := gen) rfl (.tmp 3) rfl rfl HR.out ?_)
  | (go_at_call 125; refine CB.out.mono ?_; rintro e w2 ⟨rfl, hB2⟩))
 go_ret
 exact ⟨rfl, HG.out.below hB2⟩
set_option maxHeartbeats 1000000 in
theorem Give_yes (dom : ∀ x, own x -> x < w.heap.size) (h : IAt w own p gv av fv s) (i gen : Int) (ha : s.alive i gen = true) :
  Calls Tryz.prog 91 #[.pointer (some ⟨p, 0, none⟩), idv (i, gen)] w fun e w' => e = .returned (.int .i64 0) /\ IGoes w own p (s.give i gen).1 w' := by
 show Calls _ _ #[.pointer (some ⟨p, 0, none⟩), .agg #[.int .i64 i, .int .i64 gen]] w _
 have hgv := NS.give_yes ha
 have hok := NS.give_ok h.ok i gen
 have hll := NS.liveL_give ha
 obtain ⟨⟨q0, q1, q2, q3⟩, q4⟩ := NS.alive_iff.1 ha
 obtain ⟨j, rfl⟩ : ∃ j : Nat, i = (j : Int) := ⟨i.toNat, by omega⟩
 rw [Int.toNat_natCast] at hgv hll q3 q4
 have hj : j < s.g.length := by omega
 have hgz := h.ok.gD j
 rw [q4] at hgz q3
 have hL2 := h.ok.L2
 have hz0 : (0 : Int) <= gen := hgz.1
 have hz1 : gen < 1073741824 := by omega
 obtain ⟨w1, hw1⟩ : ∃ w1, w1 = w.alloc (.cells #[.int .i64 j, .int .i64 gen] 39) := ⟨_, rfl⟩
 have hb : Below w.heap.size w w1 := by rw [hw1]; exact (Below.refl _ _).alloc (Nat.le_refl _) _
 have hR1 : Rec 39 w1 w.heap.size #[.int .i64 j, .int .i64 gen] := by rw [hw1]; exact Rec.new _ _ _
 have CA := Alive_any (h.below hb) j gen
 rw [ha] at CA
 have CB := hi_ CA
 have HR := hi_ hR1
 have HB := hi_ hb
 have H := hi_ h
 have HL := hi_ hll
 have HOK := hi_ hok
 have HGV := hi_ hgv
 have Q4 := hi_ q4
 clear h ha hb hR1 CA hll hok hgv q4
 go_enter Tryz.func91, Tryz.ntmps91
 go_wp2_with (first
  | (rw [<- hw1]; clear hw1)
  | (with_reducible refine wpList_ldP (x0 := j) (y0 := gen) rfl (.tmp 3) rfl rfl HR.out ?_)
  | (go_at_call 125; refine CB.out.mono ?_; rintro e w2 ⟨rfl, hB2⟩; have hR2 := HR.out.under hB2; have HB2 := hi_ (HB.out.trans (hB2.mono HB.out.size)); clear hB2))
 have I2 := H.out.below HB2.out
 have t0 : w2.cell? ⟨w.heap.size, 0, none⟩ = some (.int .i64 j) := hR2.at_ 0
 obtain ⟨A, c, rfl, hc, _, hrg⟩ := own_open I2.gens
 obtain ⟨g2, rfl, hg2, hcell2, hfz2⟩ := hrg (by omega)
 have k2 := I2.c2
 have d2 := hcell2 j hj
 rw [List.getElem?_map, List.getElem?_eq_getElem hj] at d2
 simp only [Option.map_some] at d2
 have e2 : s.g[j] = gen := by rw [<- Q4.out]; simp [List.getD, List.getElem?_eq_getElem hj]
 rw [e2] at d2
 have f2 := hfz2 j
 have t0d : w2.drew.cell? ⟨w.heap.size, 0, none⟩ = some (.int .i64 j) := t0
 have k2d : w2.drew.cell? ⟨p, 2, none⟩ = some (.slice (some ⟨g2, 0, none⟩) s.g.length c) := k2
 have d2d : w2.drew.cell? ⟨g2, j, none⟩ = some (.int .i64 gen) := d2
 have f2d : w2.drew.frozen? ⟨g2, j, none⟩ = false := f2
 obtain ⟨w3, hw3⟩ : ∃ w3, w3 = (w2.setCell ⟨g2, j, none⟩ (.int .i64 (gen + 1))).drew := ⟨_, rfl⟩
 have x3 : w2.drew.setCell ⟨g2, j, none⟩ (.int .i64 (gen + 1)) = w3 := by rw [hw3]; rfl
 have I2d := I2.below (Below.refl _ _).drew
 have hst := I2d.gens.stored j (.int .i64 (gen + 1))
 rw [x3] at hst
 clear x3
 obtain ⟨o3, hgr3⟩ := hst
 rw [<- List.map_set] at o3
 have hne : g2 ≠ p := fun e => own_not I2d.gens I2d.mem (by decide) (by rw [<- e]; rfl)
 have hr3 := rec_kept I2d.mem hgr3 (fun e => hne (by injection e))
 have l3 := own_kept I2d.ali hgr3 (fun x hx e => by
  obtain ⟨C, hC⟩ := own_tagI I2d.gens (x := x) (by rw [<- hx]; rfl)
  exact own_not I2d.ali hC (by decide) e)
 have f3 := own_kept I2d.free hgr3 (fun x hx e => H.out.apart x (by rw [<- hx]; rfl) e)
 have hF3 : Fr own w w3 := (Fr.ofBelow own HB2.out).trans ((Fr.drew own w2).trans (Fr.grown hgr3 (fun x hx => H.out.owng x (by rw [<- hx]; rfl))))
 have hR3 : Rec 39 w3 w.heap.size #[.int .i64 j, .int .i64 gen] := (hR2.under (Below.refl _ _).drew).fr (Fr.grown hgr3 (own := own) (fun x hx => H.out.owng x (by rw [<- hx]; rfl))) (fun hx => by have := dom _ hx; omega)
 have dom3 : ∀ x, own x -> x < w3.heap.size := fun x hx => Nat.lt_of_lt_of_le (dom x hx) hF3.size
 have k23 : w3.cell? ⟨p, 2, none⟩ = some (.slice (some ⟨g2, 0, none⟩) s.g.length c) := hr3.at_ 2
 have k13 : w3.cell? ⟨p, 1, none⟩ = some (.int .i64 s.L) := hr3.at_ 1
 have t03 : w3.cell? ⟨w.heap.size, 0, none⟩ = some (.int .i64 j) := hR3.at_ 0
 have d23 : w3.cell? ⟨g2, j, none⟩ = some (.int .i64 (gen + 1)) := by
  rw [o3.cellAt j (by omega), List.getElem?_map, List.getElem?_set_self hj]
  rfl
 have HW3 := hi_ hw3
 have HO3 := hi_ o3
 have HR3 := hi_ hr3
 have HP3 := hi_ hR3
 have HL3 := hi_ l3
 have HFR3 := hi_ f3
 have HF3 := hi_ hF3
 have HA := hi_ H.out.apart
 clear hw3 o3 hr3 hR3 l3 f3 hF3 hgr3 I2 I2d hrg hcell2 hfz2 HB2 hR2 HR e2
 go_region
 all_goals
  rw [<- HW3.out]
  go_wp2_with fail
  go_quiet (fail)
  obtain ⟨w4, hw4⟩ : ∃ w4, w4 = w3.drewN nq := ⟨_, rfl⟩
  have b4 : Below w3.heap.size w3 w4 := by rw [hw4]; exact below_drewNi _ _
  rw [<- hw4]
  clear hw4
  have hr4 := HR3.out.under b4
  have o4 := own_keep HO3.out b4
  have l4 := own_keep HL3.out b4
  have f4 := own_keep HFR3.out b4
  have hF4 : Fr own w w4 := HF3.out.trans (Fr.ofBelow own b4)
  have dom4 : ∀ x, own x -> x < w4.heap.size := fun x hx => Nat.lt_of_lt_of_le (dom x hx) hF4.size
  have t04 : w4.cell? ⟨w.heap.size, 0, none⟩ = some (.int .i64 j) := (HP3.out.under b4).at_ 0
  have hE' : (s.give j gen).1.E = s.E := by rw [HGV.out]
  have hL' : (s.give j gen).1.L = s.L := by rw [HGV.out]
  have hgl' : (s.give j gen).1.g.length = s.g.length := by rw [HGV.out]; simp
  have hg' : (s.give j gen).1.g = s.g.set j (gen + 1) := by rw [HGV.out]
  by_cases hlt : gen + 1 < s.L
  ·have hfr' : (s.give j gen).1.fr = s.fr ++ [(j : Int)] := by rw [HGV.out]; simp [hlt]
   have CR := hi_ (release_any dom4 j (s.give j gen).1 hj hE' hL' hgl' HL.out hfr' HOK.out hr4 (by rw [hgl', hg']; exact o4) l4 f4 HA.out H.out.ownp H.out.owng H.out.owna H.out.ownf H.out.ok.few)
   clear hr4 o4 l4 f4 hE' hL' hgl' hg' hfr'
   go_wp2_with (go_at_call 121; refine CR.out.mono ?_; rintro e w5 ⟨rfl, hG5⟩)
   go_ret
   exact ⟨rfl, IGoes.preF hF4 hG5⟩
  ·have hfr' : (s.give j gen).1.fr = s.fr := by rw [HGV.out]; simp [hlt]
   obtain ⟨A3, c3', rfl, _, _, hr3⟩ := own_open l4
   obtain ⟨g3, rfl, hg3, hcell3, hfz3⟩ := hr3 (by omega)
   have k34 : w4.cell? ⟨p, 3, none⟩ = some (.slice (some ⟨g3, 0, none⟩) s.g.length c3') := hr4.at_ 3
   have d34 := hcell3 j hj
   rw [List.getElem?_map, List.getElem?_eq_getElem (by rw [s.liveL_len]; exact hj)] at d34
   simp only [Option.map_some] at d34
   have z34 := hfz3 j
   obtain ⟨w5, hw5⟩ : ∃ w5, w5 = (w4.setCell ⟨g3, j, none⟩ (.bool false)).drew := ⟨_, rfl⟩
   have x5 : w4.drew.setCell ⟨g3, j, none⟩ (.bool false) = w5 := by rw [hw5]; rfl
   have hst := l4.drew.stored j (.bool false)
   rw [x5] at hst
   clear x5
   obtain ⟨l5, hgr5⟩ := hst
   have hne5 : g3 ≠ p := fun e => own_not l4 hr4 (by decide) (by rw [<- e]; rfl)
   have hr5 := rec_kept (hr4.under (Below.refl _ _).drew) hgr5 (fun e => hne5 (by injection e))
   have o5 := own_kept o4.drew hgr5 (fun x hx e => by
    obtain ⟨C, hC⟩ := own_tagI l4 (x := x) (by rw [<- hx]; rfl)
    exact own_not o4 hC (by decide) e)
   have f5 := own_kept f4.drew hgr5 (fun x hx e => by
    obtain ⟨C, hC⟩ := own_tagI l4 (x := x) (by rw [<- hx]; rfl)
    exact own_not f4 hC (by decide) e)
   have hF5 : Fr own w w5 := hF4.trans ((Fr.drew own w4).trans (Fr.grown hgr5 (fun x hx => H.out.owna x (by rw [<- hx]; rfl))))
   have I5 : IAt w5 own p (.slice (some ⟨g2, 0, none⟩) s.g.length c) (.slice (some ⟨g3, 0, none⟩) s.g.length c3') fv (s.give j gen).1 := {
    blk := by rw [hE', hL']; exact hr5
    gens := by rw [hgl', hg']; exact o5
    ali := by rw [hgl', HL.out, List.map_set]; exact l5
    free := by rw [hfr']; exact f5
    apart := HA.out
    ownp := H.out.ownp
    owng := H.out.owng
    owna := H.out.owna
    ownf := H.out.ownf
    ok := HOK.out }
   have HW5 := hi_ hw5
   have HG5 := hi_ (IGoes.of dom hF5 I5)
   clear hw5 hr5 o5 f5 l5 hgr5 hF5 I5 hr4 o4 l4 f4 hE' hL' hgl' hg' hfr' hr3 hcell3 hfz3 hne5
   go_wp2_with fail
   go_region
   all_goals
    rw [<- HW5.out]
    go_wp2
    go_ret
    exact ⟨rfl, HG5.out⟩
end
end Go.Proofs.YthiknmhkdeicjaaGreatDoor
namespace Go.Proofs.YthiknmhkdeicjaaGreatDoor
set_option maxRecDepth 20000
open Go.RowKit
section
variable {w : World} {own : Nat -> Prop} {p : Nat} {gv av fv : Value} {s : NS}
theorem Give_any (dom : ∀ x, own x -> x < w.heap.size) (h : IAt w own p gv av fv s) (i gen : Int) :
  Calls Tryz.prog 91 #[.pointer (some ⟨p, 0, none⟩), idv (i, gen)] w fun e w' => e = .returned (.int .i64 (s.give i gen).2) /\ IGoes w own p (s.give i gen).1 w' := by
 cases ha : s.alive i gen
 ·have := Give_no dom h i gen ha
  rw [NS.give_no ha]
  exact this
 ·have := Give_yes dom h i gen ha
  rw [show (s.give i gen).2 = 0 by rw [NS.give_yes ha]]
  exact this
end
end Go.Proofs.YthiknmhkdeicjaaGreatDoor
