/- EcR, EcSm, EcGo, EcHs -/
import Derived.Test.YthiknmhkdeicjaaGreatDoorQs1
import Derived.Test.YthiknmhkdeicjaaGreatDoorQs17
import Derived.Test.YthiknmhkdeicjaaGreatDoorQs18
namespace Go.Proofs.YthiknmhkdeicjaaGreatDoor
set_option maxRecDepth 20000
theorem key_uniq {α : Type} {f : α -> Int} {l : List α} (hu : l.Pairwise fun a b => f a < f b) {a b : α} (ha : a ∈ l) (hb : b ∈ l) (e : f a = f b) : a = b := by
 obtain ⟨i, hi, rfl⟩ := List.getElem_of_mem ha
 obtain ⟨j, hj, rfl⟩ := List.getElem_of_mem hb
 rcases Nat.lt_trichotomy i j with h | h | h
 ·have := List.pairwise_iff_getElem.1 hu i j hi hj h; omega
 ·subst h; rfl
 ·have := List.pairwise_iff_getElem.1 hu j i hj hi h; omega
theorem key_nodup {α : Type} {f : α -> Int} {l : List α} (hu : l.Pairwise fun a b => f a < f b) : l.Nodup := hu.imp fun h e => by rw [e] at h; omega
theorem key_eq {α : Type} {f : α -> Int} {l l' : List α} (hu : l.Pairwise fun a b => f a < f b) (hu' : l'.Pairwise fun a b => f a < f b) (hm : ∀ p, p ∈ l ↔ p ∈ l') : l = l' :=
 List.Perm.eq_of_pairwise (le := fun a b => f a < f b) (fun a b _ _ h1 h2 => by omega) hu hu' ((List.perm_ext_iff_of_nodup (key_nodup hu) (key_nodup hu')).2 hm)
theorem mem_listZi {s : Nat} {c : Int} : c ∈ listZ s ↔ 0 <= c /\ c < 64 /\ s.testBit c.toNat = true := by
 constructor
 ·intro h
  obtain ⟨i, hi, rfl⟩ := List.mem_map.1 h
  obtain ⟨h1, h2⟩ := mem_listN.1 hi
  exact ⟨Int.natCast_nonneg _, by show (i : Int) < 64; omega, by show s.testBit ((i : Int)).toNat = true; rw [Int.toNat_natCast]; exact h2⟩
 ·rintro ⟨h1, h2, h3⟩
  have e : c = ((c.toNat : Nat) : Int) := by omega
  rw [e]
  exact mem_listZ.2 ⟨by omega, h3⟩
theorem listZ_up (s : Nat) : (listZ s).Pairwise fun a b => a < b := by
 unfold listZ listN
 refine List.pairwise_map.2 (List.Pairwise.filter _ ?_)
 exact List.pairwise_lt_range.imp fun h => by show (Int.ofNat _) < Int.ofNat _; simp only [Int.ofNat_eq_natCast]; omega
theorem chg_t {s : Nat} {kk c : Int} (h0 : 0 <= kk) (h1 : kk < 64) : c ∈ listZ (chg true s kk) ↔ c = kk \/ c ∈ listZ s := by
 rw [mem_listZi, mem_listZi]
 unfold chg
 rw [if_pos rfl, Nat.testBit_or, orL_bit]
 simp only [Bool.or_eq_true, decide_eq_true_eq, List.mem_singleton]
 constructor
 ·rintro ⟨a, b, h | h⟩
  ·exact .inr ⟨a, b, h⟩
  ·exact .inl (by omega)
 ·rintro (h | ⟨a, b, h⟩)
  ·exact ⟨by omega, by omega, .inr ⟨by omega, by omega⟩⟩
  ·exact ⟨a, b, .inl h⟩
theorem chg_f {s : Nat} {kk c : Int} : c ∈ listZ (chg false s kk) ↔ c ≠ kk /\ c ∈ listZ s := by
 rw [mem_listZi, mem_listZi]
 unfold chg
 rw [if_neg (by decide)]
 constructor
 ·rintro ⟨a, b, h⟩
  rw [butN_bit' _ _ _ (orL_lt _) (by omega), orL_bit] at h
  simp only [Bool.and_eq_true, Bool.not_eq_true', decide_eq_false_iff_not, List.mem_singleton] at h
  exact ⟨fun e => h.2 ⟨by omega, by omega⟩, a, b, h.1⟩
 ·rintro ⟨e, a, b, h⟩
  refine ⟨a, b, ?_⟩
  rw [butN_bit' _ _ _ (orL_lt _) (by omega), orL_bit]
  simp only [Bool.and_eq_true, Bool.not_eq_true', decide_eq_false_iff_not, List.mem_singleton]
  exact ⟨h, fun hh => e (by omega)⟩
theorem and_of_sub {s f : Nat} (h : ∀ i, s.testBit i = true -> f.testBit i = true) : s &&& f = s := by
 refine Nat.eq_of_testBit_eq fun i => ?_
 rw [Nat.testBit_and]
 cases hs : s.testBit i with
 | false => rfl
 | true => rw [h i hs]; rfl
structure XR (x : Fx) : Prop where
 n : x.n = x.ks.length
 le : x.n <= 32
 sz : Sized x.ks
def szX (ks : List Kd) : Szs := ks.map fun k => k.2.toNat
theorem szX_at (ks : List Kd) (c : Int) : szAt (szX ks) c = if 0 <= c /\ c < ks.length then some (zsK ks c.toNat).toNat else none := by
 unfold szAt szX zsK
 rw [List.length_map]
 by_cases h : 0 <= c /\ c < ks.length
 ·rw [if_pos h, if_pos h, List.getD_eq_getElem?_getD, List.getD_eq_getElem?_getD, List.getElem?_map, List.getElem?_eq_getElem (show c.toNat < ks.length by omega)]
  rfl
 ·rw [if_neg h, if_neg h]
theorem zsK_le {ks : List Kd} (hz : Sized ks) {i : Nat} (h : i < ks.length) : 0 <= zsK ks i /\ zsK ks i <= 64 := by
 unfold zsK
 rw [List.getD_eq_getElem?_getD, List.getElem?_eq_getElem h]
 exact hz _ (List.getElem_mem h)
section
variable {x : Fx}
theorem full_bit (hx : XR x) (i : Nat) : (fullX x).testBit i = decide (i < x.n) := by
 unfold fullX
 rw [ofL_bit]
 have := hx.le
 by_cases h : i < x.n
 ·simp only [h, decide_true, decide_eq_true_eq]
  exact ⟨by omega, List.mem_map.2 ⟨i, List.mem_range.2 h, rfl⟩⟩
 ·simp only [h, decide_false, decide_eq_false_iff_not]
  rintro ⟨_, hm⟩
  obtain ⟨j, hj, e⟩ := List.mem_map.1 hm
  have e' : (j : Int) = (i : Int) := e
  exact h (by have := List.mem_range.1 hj; omega)
theorem full_lt (hx : XR x) {s : Nat} (hf : s &&& fullX x = s) {i : Nat} (h : s.testBit i = true) : i < x.n := by
 rw [<- hf, Nat.testBit_and, full_bit hx] at h
 simp only [Bool.and_eq_true, decide_eq_true_eq] at h
 exact h.2
theorem full_chg (hx : XR x) {s : Nat} (hf : s &&& fullX x = s) {kk : Int} (h0 : 0 <= kk) (h1 : kk < x.n) (b : Bool) : chg b s kk &&& fullX x = chg b s kk := by
 have hle := hx.le
 refine and_of_sub fun i hi => ?_
 rw [full_bit hx]
 refine decide_eq_true ?_
 have hb : i < 64 := Classical.byContradiction fun hh => by
  unfold chg at hi
  cases b with
  | true =>
   rw [if_pos rfl, Nat.testBit_or, orL_bit] at hi
   simp only [Bool.or_eq_true, decide_eq_true_eq] at hi
   rcases hi with hi | hi
   ·have := full_lt hx hf hi; omega
   ·omega
  | false =>
   rw [if_neg (by decide)] at hi
   unfold butN at hi
   rw [Nat.testBit_and] at hi
   simp only [Bool.and_eq_true] at hi
   have := full_lt hx hf hi.1
   omega
 have hm : (i : Int) ∈ listZ (chg b s kk) := mem_listZ.2 ⟨hb, hi⟩
 cases b with
 | true =>
  rcases (chg_t h0 (by omega)).1 hm with e | e
  ·omega
  ·exact full_lt hx hf (mem_listZ.1 e).2
 | false => exact full_lt hx hf (mem_listZ.1 (chg_f.1 hm).2).2
theorem cs_of (hx : XR x) {s : Nat} (hf : s &&& fullX x = s) : (Tb.new x.n (zsK x.ks) s).cs = (listZ s).map fun c => (c, (szAt (szX x.ks) c).getD 0) := by
 show ((listN s).filter fun (k : Nat) => decide (k < x.n)).map (fun (k : Nat) => ((k : Int), (min (max (zsK x.ks k) 0) 64).toNat)) = _
 have hlt : ∀ k ∈ listN s, k < x.n := fun k hk => full_lt hx hf (mem_listN.1 hk).2
 rw [List.filter_eq_self.2 (fun k hk => decide_eq_true (hlt k hk))]
 unfold listZ
 rw [List.map_map]
 refine List.map_congr_left fun k hk => ?_
 have h1 := hlt k hk
 have h2 := hx.n
 have h3 := zsK_le hx.sz (i := k) (by omega)
 show ((k : Int), _) = ((k : Int), (szAt (szX x.ks) (k : Int)).getD 0)
 rw [szX_at, if_pos ⟨Int.natCast_nonneg _, by omega⟩, Int.toNat_natCast]
 simp only [Option.getD_some, Prod.mk.injEq, true_and]
 omega
theorem rowOk_of (hx : XR x) {s : Nat} (hf : s &&& fullX x = s) {l : List Pt} (hP : POk (szX x.ks) l) (hk : l.map (·.1) = listZ s) : RowOk (Tb.new x.n (zsK x.ks) s).cs l := by
 unfold RowOk
 rw [cs_of hx hf, <- hk, List.map_map]
 refine List.map_congr_left fun p hp => ?_
 show (p.1, p.2.length) = (p.1, (szAt (szX x.ks) p.1).getD 0)
 rw [hP.sz p hp]
 rfl
theorem keys_of (hx : XR x) {s : Nat} (hf : s &&& fullX x = s) {l : List Pt} (h : RowOk (Tb.new x.n (zsK x.ks) s).cs l) : l.map (·.1) = listZ s := by
 have := congrArg (List.map (·.1)) h
 rw [cs_of hx hf, List.map_map, List.map_map] at this
 have e1 : (fun p : Int × Nat => p.1) ∘ (fun p : Pt => (p.1, p.2.length)) = (fun p : Pt => p.1) := rfl
 have e2 : ((fun p : Int × Nat => p.1) ∘ fun c : Int => (c, (szAt (szX x.ks) c).getD 0)) = _root_.id := rfl
 rw [e1, e2, List.map_id] at this
 exact this
theorem keys_eq {l : List Pt} (hu : l.Pairwise fun a b => a.1 < b.1) {s : Nat} (hm : ∀ c, c ∈ l.map (·.1) ↔ c ∈ listZ s) : l.map (·.1) = listZ s :=
 key_eq (f := fun c : Int => c) (List.pairwise_map.2 hu) (listZ_up s) hm
end
theorem pick_mem {ps : List Pt} (hn : ∀ p ∈ ps, ∀ q ∈ ps, p.1 = q.1 -> p = q) {p : Pt} (hp : p ∈ ps) (z : Nat) : pick ps (p.1, z) = p.2 := by
 unfold pick
 cases hq : ps.find? (fun q => decide (q.1 = (p.1, z).1)) with
 | none =>
  have := List.find?_eq_none.1 hq p hp
  simp at this
 | some q =>
  have h1 := List.find?_some hq
  have h2 := List.mem_of_find?_eq_some hq
  rw [hn q h2 p hp (of_decide_eq_true h1)]
theorem picks_eq {cs : List (Int × Nat)} {l ps : List Pt} (hR : RowOk cs l) (hn : ∀ p ∈ ps, ∀ q ∈ ps, p.1 = q.1 -> p = q) (hs : ∀ p ∈ l, p ∈ ps) : picks ps cs = l /\ fits ps cs = true := by
 rw [<- show _ = cs from hR]
 constructor
 ·unfold picks
  rw [List.map_map]
  conv => rhs; rw [<- List.map_id l]
  refine List.map_congr_left fun p hp => ?_
  show (p.1, pick ps (p.1, p.2.length)) = p
  rw [pick_mem hn (hs p hp)]
 ·unfold fits
  rw [List.all_eq_true]
  intro c hc
  obtain ⟨p, hp, rfl⟩ := List.mem_map.1 hc
  rw [pick_mem hn (hs p hp)]
  simp
theorem mem_pSet {k : Int} {b : List UInt8} {p : Pt} : ∀ {l : List Pt}, p ∈ pSet k b false l ↔ p = (k, b) \/ (p ∈ l /\ p.1 ≠ k)
 | [] => by simp [pSet]
 | x :: l => by
  unfold pSet
  by_cases hx : k <= x.1
  ·rw [if_pos ⟨rfl, hx⟩, show (false || decide (k <= x.1)) = true by simp [hx], pSet_true]
   by_cases e : x.1 = k
   ·rw [if_pos e]
    simp only [List.append_nil, List.cons_append, List.nil_append, List.mem_cons, List.mem_filter, decide_eq_true_eq]
    constructor
    ·rintro (h | ⟨h1, h2⟩)
     ·exact .inl h
     ·exact .inr ⟨.inr h1, h2⟩
    ·rintro (h | ⟨h1 | h1, h2⟩)
     ·exact .inl h
     ·exact absurd (h1 ▸ e) h2
     ·exact .inr ⟨h1, h2⟩
   ·rw [if_neg e]
    simp only [List.cons_append, List.nil_append, List.mem_cons, List.mem_filter, decide_eq_true_eq]
    constructor
    ·rintro (h | h | ⟨h1, h2⟩)
     ·exact .inl h
     ·exact .inr ⟨.inl h, by rw [h]; exact e⟩
     ·exact .inr ⟨.inr h1, h2⟩
    ·rintro (h | ⟨h1 | h1, h2⟩)
     ·exact .inl h
     ·exact .inr (.inl h1)
     ·exact .inr (.inr ⟨h1, h2⟩)
  ·have e : ¬ x.1 = k := by omega
   rw [if_neg (fun hh => hx hh.2), if_neg e, show (false || decide (k <= x.1)) = false by simp [hx]]
   simp only [List.nil_append, List.cons_append, List.mem_cons, mem_pSet (l := l)]
   constructor
   ·rintro (h | h | ⟨h1, h2⟩)
    ·exact .inr ⟨.inl h, by rw [h]; exact e⟩
    ·exact .inl h
    ·exact .inr ⟨.inr h1, h2⟩
   ·rintro (h | ⟨h1 | h1, h2⟩)
    ·exact .inr (.inl h)
    ·exact .inl h1
    ·exact .inr (.inr ⟨h1, h2⟩)
theorem mem_set_key {α : Type} {f : α -> Int} {l : List α} (hu : l.Pairwise fun a b => f a < f b) {q : Nat} (hq : q < l.length) {y : α} (hy : f y = f l[q]) {p : α} : p ∈ l.set q y ↔ p = y \/ (p ∈ l /\ f p ≠ f y) := by
 constructor
 ·intro h
  obtain ⟨i, hi, rfl⟩ := List.getElem_of_mem h
  rw [List.length_set] at hi
  by_cases e : q = i
  ·subst e; exact .inl (by rw [List.getElem_set_self])
  ·right
   rw [List.getElem_set_ne e]
   refine ⟨List.getElem_mem hi, fun hh => ?_⟩
   rw [hy] at hh
   rcases Nat.lt_trichotomy i q with h | h | h
   ·have := List.pairwise_iff_getElem.1 hu i q hi hq h; omega
   ·exact e h.symm
   ·have := List.pairwise_iff_getElem.1 hu q i hq hi h; omega
 ·rintro (rfl | ⟨h, hne⟩)
  ·exact List.mem_iff_getElem.2 ⟨q, by rw [List.length_set]; exact hq, List.getElem_set_self _⟩
  ·obtain ⟨i, hi, rfl⟩ := List.getElem_of_mem h
   have e : q ≠ i := fun e => by subst e; exact hne hy.symm
   exact List.mem_iff_getElem.2 ⟨i, by rw [List.length_set]; exact hi, List.getElem_set_ne e _⟩
theorem set_up {α : Type} {f : α -> Int} {l : List α} (hu : l.Pairwise fun a b => f a < f b) {q : Nat} (hq : q < l.length) {y : α} (hy : f y = f l[q]) : (l.set q y).Pairwise fun a b => f a < f b := by
 have h1 : ((l.set q y).map f).Pairwise (fun a b => a < b) := by
  have : (l.set q y).map f = l.map f := by
   rw [List.map_set, hy]
   refine List.ext_getElem (by simp) fun i h1 h2 => ?_
   rw [List.getElem_set]
   split
   ·rename_i e; subst e; simp
   ·rfl
  rw [this]
  exact List.pairwise_map.2 hu
 exact List.pairwise_map.1 h1
theorem mem_erase_key {α : Type} {f : α -> Int} {l : List α} (hu : l.Pairwise fun a b => f a < f b) {q : Nat} (hq : q < l.length) {p : α} : p ∈ l.eraseIdx q ↔ p ∈ l /\ f p ≠ f l[q] := by
 constructor
 ·intro h
  obtain ⟨j, hj, e⟩ := List.mem_eraseIdx_iff_getElem?.1 h
  obtain ⟨hjl, rfl⟩ := List.getElem?_eq_some_iff.1 e
  refine ⟨List.getElem_mem hjl, fun hh => ?_⟩
  rcases Nat.lt_trichotomy j q with h | h | h
  ·have := List.pairwise_iff_getElem.1 hu j q hjl hq h; omega
  ·exact hj h
  ·have := List.pairwise_iff_getElem.1 hu q j hq hjl h; omega
 ·rintro ⟨h, hne⟩
  obtain ⟨j, hjl, rfl⟩ := List.getElem_of_mem h
  exact List.mem_eraseIdx_iff_getElem?.2 ⟨j, fun e => by subst e; exact hne rfl, List.getElem?_eq_getElem hjl⟩
theorem pSet_at {l : List Pt} (hu : l.Pairwise fun a b => a.1 < b.1) {z : Szs} (hP : POk z l) {q : Nat} (hq : q < l.length) {k : Int} (hk : l[q].1 = k) {b : List UInt8} (hz : szAt z k = some b.length) : pSet k b false l = l.set q (k, b) :=
 key_eq (f := fun p : Pt => p.1) (pSet_ok hP hz).up (set_up (f := fun p : Pt => p.1) hu hq hk.symm) fun p => by
  rw [mem_pSet, mem_set_key (f := fun p : Pt => p.1) hu hq hk.symm]
end Go.Proofs.YthiknmhkdeicjaaGreatDoor
namespace Go.Proofs.YthiknmhkdeicjaaGreatDoor
set_option maxRecDepth 20000
def pmOf (es : List En) (id : Int × Int) : Option (List Pt) := (es.find? fun e => decide (e.1 = id)).map (·.2)
section
variable {es : List En}
theorem pmOf_iff (hu : es.Pairwise fun a b => a.1.1 < b.1.1) {id : Int × Int} {ps : List Pt} : pmOf es id = some ps ↔ (id, ps) ∈ es := by
 unfold pmOf
 constructor
 ·intro h
  cases hf : es.find? (fun e => decide (e.1 = id)) with
  | none => rw [hf] at h; cases h
  | some e =>
   rw [hf] at h
   injection h with h
   have h1 : e.1 = id := by simpa using List.find?_some hf
   have h2 := List.mem_of_find?_eq_some hf
   rw [<- h1, <- h]
   exact h2
 ·intro h
  cases hf : es.find? (fun e => decide (e.1 = id)) with
  | none =>
   have := List.find?_eq_none.1 hf _ h
   simp at this
  | some e =>
   have h1 : e.1 = id := by simpa using List.find?_some hf
   have h2 := List.mem_of_find?_eq_some hf
   have h3 := key_uniq (f := fun e : En => e.1.1) hu h2 h (by rw [h1])
   rw [h3]
   rfl
theorem pmOf_none (hu : es.Pairwise fun a b => a.1.1 < b.1.1) {id : Int × Int} : pmOf es id = none ↔ ∀ ps, (id, ps) ∉ es := by
 constructor
 ·intro h ps hm
  rw [(pmOf_iff hu).2 hm] at h
  cases h
 ·intro h
  cases hp : pmOf es id with
  | none => rfl
  | some ps => exact absurd ((pmOf_iff hu).1 hp) (h ps)
theorem opt_ext {α : Type} {a b : Option α} (h : ∀ x, a = some x ↔ b = some x) : a = b := by
 cases a with
 | none =>
  cases b with
  | none => rfl
  | some y => exact (h y).2 rfl
 | some y => exact ((h y).1 rfl).symm
theorem pmOf_place {id : Int × Int} {i : Nat} (hu : es.Pairwise fun a b => a.1.1 < b.1.1) (h : ePlace es id = some i) : ∃ hi : i < es.length, es[i] = (id, (es.getD i noEn).2) /\ pmOf es id = some (es.getD i noEn).2 := by
 obtain ⟨hi, e⟩ := ePlace_some h
 have e2 : es[i] = (id, (es.getD i noEn).2) := by
  rw [List.getD_eq_getElem?_getD, List.getElem?_eq_getElem hi]
  exact Prod.ext e rfl
 exact ⟨hi, e2, (pmOf_iff hu).2 (e2 ▸ List.getElem_mem hi)⟩
theorem pmOf_noPlace {id : Int × Int} (hu : es.Pairwise fun a b => a.1.1 < b.1.1) (h : ePlace es id = none) : pmOf es id = none :=
 (pmOf_none hu).2 fun _ hm => ePlace_none h _ hm rfl
theorem pmOf_ins (hu : es.Pairwise fun a b => a.1.1 < b.1.1) {id : Int × Int} {ps : List Pt} (hne : ∀ e ∈ es, e.1.1 ≠ id.1) : pmOf (eIns (id, ps) es) = pmPut (pmOf es) id ps := by
 funext j
 refine opt_ext fun qs => ?_
 rw [pmOf_iff (eIns_up hu hne), eIns_mem]
 unfold pmPut
 by_cases e : j = id
 ·subst e
  rw [if_pos rfl]
  constructor
  ·rintro (h | h)
   ·injection h with _ h; rw [h]
   ·exact absurd rfl (hne _ h)
  ·intro h
   injection h with h
   exact .inl (by rw [h])
 ·rw [if_neg e, pmOf_iff hu]
  constructor
  ·rintro (h | h)
   ·injection h with h _; exact absurd h e
   ·exact h
  ·exact .inr
theorem pmOf_erase (hu : es.Pairwise fun a b => a.1.1 < b.1.1) {id : Int × Int} {i : Nat} (h : ePlace es id = some i) : pmOf (es.eraseIdx i) = pmDel (pmOf es) id := by
 obtain ⟨hi, e2, _⟩ := pmOf_place hu h
 funext j
 refine opt_ext fun qs => ?_
 rw [pmOf_iff (hu.sublist (List.eraseIdx_sublist _ _)), mem_erase_key (f := fun e : En => e.1.1) hu hi]
 unfold pmDel
 by_cases e : j = id
 ·subst e
  rw [if_pos rfl]
  constructor
  ·rintro ⟨_, h2⟩
   rw [e2] at h2
   exact absurd rfl h2
  ·intro h; cases h
 ·rw [if_neg e, pmOf_iff hu]
  constructor
  ·exact fun h => h.1
  ·intro h1
   refine ⟨h1, fun h2 => e ?_⟩
   have := key_uniq (f := fun e : En => e.1.1) hu h1 (List.getElem_mem hi) h2
   rw [e2] at this
   injection this
theorem pmOf_set (hu : es.Pairwise fun a b => a.1.1 < b.1.1) {id : Int × Int} {i : Nat} (h : ePlace es id = some i) (l : List Pt) : pmOf (es.set i (id, l)) = pmPut (pmOf es) id l := by
 obtain ⟨hi, e2, _⟩ := pmOf_place hu h
 have hy : (fun e : En => e.1.1) (id, l) = (fun e : En => e.1.1) es[i] := by rw [e2]
 funext j
 refine opt_ext fun qs => ?_
 rw [pmOf_iff (set_up (f := fun e : En => e.1.1) hu hi hy), mem_set_key (f := fun e : En => e.1.1) hu hi hy]
 unfold pmPut
 by_cases e : j = id
 ·subst e
  rw [if_pos rfl]
  constructor
  ·rintro (h | ⟨_, h⟩)
   ·injection h with _ h; rw [h]
   ·exact absurd rfl h
  ·intro h
   injection h with h
   exact .inl (by rw [h])
 ·rw [if_neg e, pmOf_iff hu]
  constructor
  ·rintro (h | h)
   ·injection h with h _; exact absurd h e
   ·exact h.1
  ·intro h1
   refine .inr ⟨h1, fun h2 => e ?_⟩
   have := key_uniq (f := fun e : En => e.1.1) hu h1 (List.getElem_mem hi) (h2.trans hy)
   rw [e2] at this
   injection this
theorem pmPut_del (pm : Int × Int -> Option (List Pt)) (id : Int × Int) (l : List Pt) : pmPut (pmDel pm id) id l = pmPut pm id l := by
 funext j
 unfold pmPut pmDel
 by_cases e : j = id <;> simp [e]
end
section
variable {x : Fx} {k : Ks} {es : List En}
theorem TS.rows_le (h : TS x k (pmOf es)) (hu : es.Pairwise fun a b => a.1.1 < b.1.1) {n : Nat} {t : Tb} (ht : k.tb n = some t) : t.rows.length <= es.length := by
 have hnd : (t.rows.map (·.1)).Nodup := by
  refine List.pairwise_iff_getElem.2 fun i j hi hj hij e => ?_
  rw [List.length_map] at hi hj
  rw [List.getElem_map, List.getElem_map] at e
  have h1 := (h.pl t.rows[i].1 n i).2 ⟨t, _, ht, List.getElem?_eq_getElem hi, rfl⟩
  have h2 := (h.pl t.rows[i].1 n j).2 ⟨t, _, ht, List.getElem?_eq_getElem hj, e.symm⟩
  rw [h1] at h2
  injection h2 with h2
  injection h2 with _ h2
  omega
 have hs : t.rows.map (·.1) ⊆ es.map (·.1) := fun id hid => by
  obtain ⟨e, he, rfl⟩ := List.mem_map.1 hid
  exact List.mem_map.2 ⟨_, (pmOf_iff hu).1 (h.row n t e ht he), rfl⟩
 have := List.Nodup.length_le_of_subset hnd hs
 rwa [List.length_map, List.length_map] at this
theorem TS.tab_le (h : TS x k (pmOf es)) (hu : es.Pairwise fun a b => a.1.1 < b.1.1) (n s : Nat) : (k.tab x n s).rows.length <= es.length := by
 unfold Ks.tab
 cases ht : k.tb n with
 | none => exact Nat.zero_le _
 | some t => exact h.rows_le hu ht
theorem TS.okN (h : TS x k (pmOf es)) (hS : k.S.length <= 5000) {n : Nat} {t : Tb} (ht : k.tb n = some t) : okN n := by
 obtain ⟨_, s, hs, _⟩ := h.tb n t ht
 have := (List.getElem?_eq_some_iff.1 hs).1
 unfold Go.Proofs.YthiknmhkdeicjaaGreatDoor.okN
 omega
end
theorem Es.Ok.okE {z : Szs} {s : Es} (h : s.Ok z) {e : En} (he : e ∈ s.ents) : okE e.1 := by
 have ha := h.on e he
 obtain ⟨a1, a2⟩ := NS.alive_live ha
 obtain ⟨b0, b1, _, b3⟩ := NS.live_iff.1 a1
 have c1 := h.ns.len
 have c2 := h.ns.E2
 have c3 := h.ns.gD e.1.1.toNat
 have c4 := h.ns.L2
 rw [a2] at c3 b3
 exact ⟨WalkArith.wf_i64 (by omega), WalkArith.wf_i64 (by omega)⟩
structure Sim (x : Fx) (k : Ks) (s : Es) : Prop where
 ns : k.ns = s.ns
 ok : s.Ok (szX x.ks)
 ts : TS x k (pmOf s.ents)
section
variable {x : Fx} {k : Ks} {s : Es}
theorem Sim.start (entities gens : Int) : Sim x (ks0 (NS.new entities gens)) ⟨NS.new entities gens, []⟩ := ⟨rfl, Es.new_ok entities gens, TS.start _⟩
theorem Sim.find (h : Sim x k s) (hS : k.S.length <= 5000) {id : Int × Int} {i : Nat} (hp : ePlace s.ents id = some i) :
  ∃ n r t s0, Go.Proofs.YthiknmhkdeicjaaGreatDoor.okE id /\ k.pl id = some (n, r) /\ k.tb n = some t /\ okN n /\ r < t.rows.length /\ t.rows[r]? = some (id, (s.ents.getD i noEn).2) /\ (t.rows.getD r noEn).2 = (s.ents.getD i noEn).2 /\ k.S[n]? = some s0 /\ s0 &&& fullX x = s0 /\ t.cs = (Tb.new x.n (zsK x.ks) s0).cs /\ Go.Proofs.YthiknmhkdeicjaaGreatDoor.okE t.lastR.1 := by
 obtain ⟨hi, e2, hpm⟩ := pmOf_place h.ok.up hp
 obtain ⟨n, r, hpl⟩ := h.ts.all id _ hpm
 obtain ⟨t, ps, ht, hr, hrow, hget, hpm'⟩ := h.ts.at_ hpl
 rw [hpm] at hpm'
 injection hpm' with hpm'
 subst hpm'
 obtain ⟨_, s0, hs0, hf, hcs⟩ := h.ts.tb n t ht
 have hl := h.ts.row n t t.lastR ht (List.mem_of_getElem? (t.lastR_at (by omega)))
 exact ⟨n, r, t, s0, by have := h.ok.okE (List.getElem_mem hi); rw [e2] at this; exact this, hpl, ht, h.ts.okN hS ht, hr, hrow, hget, hs0, hf, hcs, h.ok.okE ((pmOf_iff h.ok.up).1 hl)⟩
theorem Sim.no (h : Sim x k s) {id : Int × Int} (hp : ePlace s.ents id = none) : k.pl id = none := h.ts.none_ (pmOf_noPlace h.ok.up hp)
theorem Sim.spawn_no (h : Sim x k s) (he : k.ns.take.2.2 ≠ 0) : Sim x { k with ns := k.ns.take.1 } s.spawn.1 := by
 have e1 : k.ns.take.1 = k.ns := by
  by_cases hf : k.ns.fr = []
  ·by_cases hg : k.ns.g.length = k.ns.E
   ·rw [NS.take_full hf hg]
   ·rw [NS.take_next hf hg] at he; exact absurd rfl he
  ·rw [NS.take_free hf] at he; exact absurd rfl he
 have e2 : s.spawn.1 = s := by unfold Es.spawn; rw [if_neg (by rw [<- h.ns]; exact he)]
 rw [e1, e2]
 exact h
theorem Sim.spawn (h : Sim x k s) (hl : s.ents.length < 1024) (he : k.ns.take.2.2 = 0) : Sim x (k.spawn x) s.spawn.1 := by
 have he' : s.ns.take.2.2 = 0 := by rw [<- h.ns]; exact he
 have e2 : s.spawn.1 = ⟨s.ns.take.1, eIns (s.ns.take.2.1, []) s.ents⟩ := by unfold Es.spawn; rw [if_pos he']
 have hok := h.ok.spawn
 rw [e2] at hok ⊢
 have hne := h.ok.fresh he'
 refine ⟨by show k.ns.take.1 = s.ns.take.1; rw [h.ns], hok, ?_⟩
 have hm := h.ts.more k.ns.take.1 (h.ts.S.node (s := 0) (by decide)) (fun i t hi => gNode_keeps 0 hi) (by have := (gNode_len k.S 0).2; have := h.ts.pos; omega)
 have hid : pmOf s.ents k.ns.take.2.1 = none := by
  rw [h.ns]
  exact (pmOf_none h.ok.up).2 fun ps hmem => hne _ hmem rfl
 have hcs : (Tb.new x.n (zsK x.ks) 0).cs = [] := by
  have e0 : listN 0 = [] := by decide
  unfold Tb.new
  simp only [e0, List.filter_nil, List.map_nil]
 have := hm.put hid (n := (gNode k.S 0).2) (s := 0) (gNode_at k.S 0) (Nat.zero_and _) (ps := []) (Nat.lt_of_le_of_lt (hm.tab_le h.ok.up _ _) hl) (by rw [hcs]; rfl)
 rw [hcs] at this
 rw [pmOf_ins h.ok.up hne, <- h.ns]
 exact this
theorem Sim.despawn (h : Sim x k s) {id : Int × Int} {i : Nat} (hp : ePlace s.ents id = some i) {n r : Nat} {t : Tb} (hpl : k.pl id = some (n, r)) (ht : k.tb n = some t) :
  Sim x { k.drop id n r t with ns := (k.ns.give id.1 id.2).1 } (s.despawn id).1 /\ (k.ns.give id.1 id.2).2 = 0 /\ (s.despawn id).2 = 0 := by
 have e2 : s.despawn id = (⟨(s.ns.give id.1 id.2).1, s.ents.eraseIdx i⟩, 0) := by unfold Es.despawn; rw [hp]
 have hok := h.ok.despawn id
 rw [e2] at hok ⊢
 obtain ⟨hi, e3, _⟩ := pmOf_place h.ok.up hp
 have ha : k.ns.alive id.1 id.2 = true := by
  rw [h.ns]
  have := h.ok.on _ (List.getElem_mem hi)
  rw [e3] at this
  exact this
 refine ⟨⟨by show (k.ns.give id.1 id.2).1 = _; rw [h.ns], hok, ?_⟩, by rw [NS.give_yes ha], rfl⟩
 have := (h.ts.drop hpl ht).more (k.ns.give id.1 id.2).1 h.ts.S (fun _ _ h => h) h.ts.pos
 show TS x _ (pmOf (s.ents.eraseIdx i))
 rw [pmOf_erase h.ok.up hp]
 exact this
theorem Sim.move (h : Sim x k s) (hx : XR x) {id : Int × Int} {i : Nat} (hp : ePlace s.ents id = some i) {n r : Nat} {t : Tb} (hpl : k.pl id = some (n, r)) (ht : k.tb n = some t) {s2 : Nat} (h2 : s2 < 18446744073709551616) (hf : s2 &&& fullX x = s2) {ps l : List Pt}
  (hP : POk (szX x.ks) l) (hk : l.map (·.1) = listZ s2) (hn : ∀ p ∈ ps, ∀ q ∈ ps, p.1 = q.1 -> p = q) (hs : ∀ p ∈ l, p ∈ ps) (hl : s.ents.length <= 1024) :
  Sim x (({ k with S := (gNode k.S s2).1 } : Ks).move x id n r t (gNode k.S s2).2 s2 ps) ⟨s.ns, s.ents.set i (id, l)⟩ := by
 obtain ⟨hi, e3, hpm⟩ := pmOf_place h.ok.up hp
 refine ⟨h.ns, h.ok.turn hp hP, ?_⟩
 have hm := h.ts.more k.ns (h.ts.S.node h2) (fun i t hi => gNode_keeps s2 hi) (by have := (gNode_len k.S s2).2; have := h.ts.pos; omega)
 have hd := hm.drop hpl ht
 have hd' := hd
 rw [<- pmOf_erase h.ok.up hp] at hd'
 have hr := rowOk_of hx hf hP hk
 obtain ⟨q1, q2⟩ := picks_eq hr hn hs
 have hle := hd'.tab_le (h.ok.up.sublist (List.eraseIdx_sublist _ _)) (gNode k.S s2).2 s2
 rw [List.length_eraseIdx, if_pos hi] at hle
 have := hd.put (id := id) (by unfold pmDel; rw [if_pos rfl]) (n := (gNode k.S s2).2) (s := s2) (gNode_at k.S s2) hf (ps := ps) (by omega) q2
 rw [q1, pmPut_del, <- pmOf_set h.ok.up hp] at this
 exact this
end
end Go.Proofs.YthiknmhkdeicjaaGreatDoor
namespace Go.Proofs.YthiknmhkdeicjaaGreatDoor
open Go.RowKit
set_option maxRecDepth 20000
theorem sizeK_some {ks : List Kd} (hz : Sized ks) {kk : Int} {n : Nat} (h : szAt (szX ks) kk = some n) : sizeK ks kk = ((n : Int), true) /\ 0 <= kk /\ kk < ks.length := by
 rw [szX_at] at h
 split at h
 ·rename_i hh
  injection h with h
  have h3 := zsK_le hz (i := kk.toNat) (by omega)
  unfold sizeK
  rw [if_pos hh]
  refine ⟨?_, hh⟩
  unfold zsK at h h3
  rw [<- h]
  simp only [Prod.mk.injEq, and_true]
  omega
 ·cases h
theorem sizeK_none {ks : List Kd} {kk : Int} (h : szAt (szX ks) kk = none) : (sizeK ks kk).2 = false := by
 rw [szX_at] at h
 split at h
 ·cases h
 ·rename_i hh
  unfold sizeK
  rw [if_neg hh]
theorem at_pAt {cs : List (Int × Nat)} {rows : List En} {l : List Pt} (hR : RowOk cs l) (kk : Int) : (⟨cs, rows⟩ : Tb).at_ kk = pAt l kk := by
 unfold Tb.at_ pAt
 rw [<- show _ = cs from hR, List.findIdx?_map]
 rfl
theorem pAt_some {l : List Pt} {kk : Int} {q : Nat} (h : pAt l kk = some q) : ∃ hq : q < l.length, l[q].1 = kk := by
 unfold pAt at h
 rw [List.findIdx?_eq_some_iff_getElem] at h
 obtain ⟨hq, h1, _⟩ := h
 exact ⟨hq, of_decide_eq_true h1⟩
theorem pAt_none {l : List Pt} {kk : Int} (h : pAt l kk = none) : ∀ p ∈ l, p.1 ≠ kk := fun p hp e => by
 unfold pAt at h
 rw [List.findIdx?_eq_none_iff] at h
 have := h p hp
 simp [e] at this
section
variable {w : World} {N : Nat} {gr : Nat -> Nat} {x : Fx} {k : Ks} {c : Nat} {pt : Nat -> Nat} {s : Es}
theorem CoJ.tok (h : CoJ 0 w N gr x k c pt) {n : Nat} {t : Tb} (ht : k.tb n = some t) : t.Ok := by
 obtain ⟨s, tag, m, v, q, hs, hA, hg⟩ := h.tab n t (by omega) ht
 exact hA.ok
theorem CoJ.S_lt (_h : CoJ 0 w N gr x k c pt) {pm : Int × Int -> Option (List Pt)} (hts : TS x k pm) {n s0 : Nat} (hs0 : k.S[n]? = some s0) : s0 < 18446744073709551616 := hts.S.at_lt hs0
def DoP (w : World) (N : Nat) (gr : Nat -> Nat) (x : Fx) (k : Ks) (c : Nat) (s' : Es) (W : World) : Prop :=
 ∃ k' gr' pt', CoJ 0 W N gr' x k' (c + 4) pt' /\ Sim x k' s' /\ TGo w gr W gr' /\ gr' (w.heap.size + 1) = 0 /\ k'.S.length <= k.S.length + 1
theorem DoP.stb (s' : Es) : Stb (w.heap.size + 1) (DoP w N gr x k c s') where
 more := fun w1 w2 ⟨k', gr', pt', h, hs, hG, hz, hl⟩ hb => ⟨k', gr', pt', h.below hb, hs, hG.trans (TGo.ofBelow hb), hz, hl⟩
 put := fun w1 w2 ⟨k', gr', pt', h, hs, hG, hz, hl⟩ hF => ⟨k', gr', pt', h.kept hF (fun y hy e => hy (by rw [show y = w.heap.size + 1 from e]; exact hz)), hs, hG.more hF (fun y e => .inr (by rw [show y = w.heap.size + 1 from e]; omega)), hz, hl⟩
theorem DoP.same (h : CoJ 0 w N gr x k c pt) (hs : Sim x k s) {W W' : World} (hW : Below w.heap.size w W) (hb : Below W.heap.size W W') : DoP w N gr x k c s W' :=
 ⟨k, gr, pt, (h.below (hW.trans (hb.mono hW.size))).more (by omega), hs, TGo.ofBelow (hW.trans (hb.mono hW.size)), Classical.byContradiction fun hh => by have := h.dom _ hh; omega, by omega⟩
theorem DoP.of (h : CoJ 0 w N gr x k c pt) {W W' : World} (hW : Below w.heap.size w W) (hs2 : w.heap.size + 2 <= W.heap.size) {k' : Ks} {gr' pt' : Nat -> Nat} {c' : Nat} {s' : Es} (hC : CoJ 0 W' N gr' x k' c' pt') (hc : c' <= c + 4) (hs : Sim x k' s') (hG : TGo W gr W' gr') (hl : k'.S.length <= k.S.length + 1) :
  DoP w N gr x k c s' W' /\ Kp w.heap.size W W' :=
 ⟨⟨k', gr', pt', hC.more hc, hs, (TGo.ofBelow hW).trans hG, hG.gr0 (Classical.byContradiction fun hh => by have := h.dom _ hh; omega) (by omega), hl⟩,
  Kp.ofTGo hG (fun b h1 _ => Classical.byContradiction fun hh => by have := h.dom _ hh; omega)⟩
theorem Sim.turn (h : Sim x k s) {id : Int × Int} {i : Nat} (hp : ePlace s.ents id = some i) {n r : Nat} {t : Tb} (hpl : k.pl id = some (n, r)) (ht : k.tb n = some t) (hr : r < t.rows.length) (hrow : t.rows[r]? = some (id, (s.ents.getD i noEn).2)) (hok : t.Ok)
  {kk : Int} {q : Nat} (hq : pAt (s.ents.getD i noEn).2 kk = some q) {b : List UInt8} (hz : szAt (szX x.ks) kk = some b.length) :
  Sim x { k with tb := upd k.tb n (some (t.go ⟨1, (0, 0), [], (r : Int), kk, b⟩).1) } ⟨s.ns, s.ents.set i (id, pSet kk b false (s.ents.getD i noEn).2)⟩ /\ (t.go ⟨1, (0, 0), [], (r : Int), kk, b⟩).2.err = 0 := by
 obtain ⟨hi, e3, _⟩ := pmOf_place h.ok.up hp
 obtain ⟨old, ho⟩ : ∃ old, old = (s.ents.getD i noEn).2 := ⟨_, rfl⟩
 rw [<- ho] at hrow hq ⊢
 have hget : t.rows.getD r noEn = (id, old) := by rw [List.getD_eq_getElem?_getD, hrow]; rfl
 have hR : RowOk t.cs old := by have := hok.getD hr; rw [hget] at this; exact this
 have hat : t.at_ kk = some q := (at_pAt (rows := t.rows) hR kk).trans hq
 obtain ⟨hql, hqk⟩ := pAt_some hq
 have hP : POk (szX x.ks) old := by rw [ho]; exact h.ok.at_parts hi
 have hgq : old.getD q (0, []) = old[q] := by rw [List.getD_eq_getElem?_getD, List.getElem?_eq_getElem hql]; rfl
 have hb : b.length = (t.cs.getD q (0, 0)).2 := by
  have h1 := (hR.at_ (Tb.at_lt hat).1).2
  have h2 := hP.sz _ (List.getElem_mem hql)
  rw [hqk, hz] at h2
  injection h2 with h2
  rw [<- h1, hgq, h2]
 have hgo : t.go ⟨1, (0, 0), [], (r : Int), kk, b⟩ = (⟨t.cs, t.rows.set r (id, pSet kk b false old)⟩, .e 0) := by
  unfold Tb.go
  simp only
  rw [if_neg (by decide), if_pos ⟨Int.natCast_nonneg _, by omega⟩, if_neg (by decide), if_neg (by decide), hat]
  simp only [Int.toNat_natCast]
  rw [if_neg (by decide), hget, if_pos hb, pSet_at hP.up hP hql hqk hz]
  simp only [hgq, hqk]
 rw [hgo]
 refine ⟨⟨h.ns, h.ok.turn hp (pSet_ok hP hz), ?_⟩, rfl⟩
 have := h.ts.turn hpl ht (pSet kk b false old)
 rw [<- pmOf_set h.ok.up hp] at this
 exact this
theorem Sim.get (_h : Sim x k s) {id : Int × Int} {i : Nat} (hp : ePlace s.ents id = some i) {r : Nat} {t : Tb} (hr : r < t.rows.length) (hrow : t.rows[r]? = some (id, (s.ents.getD i noEn).2)) (hok : t.Ok)
  {kk : Int} {n : Nat} (hz : szAt (szX x.ks) kk = some n) : (t.go ⟨2, (0, 0), [], (r : Int), kk, []⟩).2.data = (s.get (szX x.ks) id kk).1 /\ (t.go ⟨2, (0, 0), [], (r : Int), kk, []⟩).2.err = (s.get (szX x.ks) id kk).2 := by
 obtain ⟨old, ho⟩ : ∃ old, old = (s.ents.getD i noEn).2 := ⟨_, rfl⟩
 rw [<- ho] at hrow
 have hget : t.rows.getD r noEn = (id, old) := by rw [List.getD_eq_getElem?_getD, hrow]; rfl
 have hR : RowOk t.cs old := by have := hok.getD hr; rw [hget] at this; exact this
 have hat : t.at_ kk = pAt old kk := at_pAt (rows := t.rows) hR kk
 have hG : s.get (szX x.ks) id kk = match pAt old kk with | none => ([], 8) | some j => ((old.getD j (0, [])).2, 0) := by
  unfold Es.get
  rw [hp]
  simp only
  rw [hz, <- ho]
  cases pAt old kk <;> rfl
 rw [hG]
 unfold Tb.go
 simp only
 rw [if_neg (by decide), if_pos ⟨Int.natCast_nonneg _, by omega⟩, if_neg (by decide), if_neg (by decide), hat]
 cases hq : pAt old kk with
 | none => exact ⟨rfl, rfl⟩
 | some q =>
  simp only [Int.toNat_natCast]
  rw [if_pos trivial, hget]
  exact ⟨rfl, rfl⟩
def DoSaid (w : World) (N : Nat) (gr : Nat -> Nat) (x : Fx) (k : Ks) (c : Nat) (o : Es × (Int × Int) × List UInt8 × Int) (e : Ending) (w' : World) : Prop :=
 ∃ A m cc, e = .returned (.tuple #[.agg #[.int .i64 o.2.1.1, .int .i64 o.2.1.2], .slice A m cc, .int .i64 o.2.2.2]) /\ VB (fun y => w.heap.size <= y) w' (.slice A m cc) o.2.2.1 /\ DoP w N gr x k c o.1 w'
theorem VB.nil (K : Nat -> Prop) (w : World) (c : Nat) : VB K w (.slice none 0 c) [] := ⟨none, 0, c, rfl, Rd.nil _ _, fun b o e => by cases e⟩
theorem edo_any (h : CoJ 0 w N gr x k c pt) (hs : Sim x k s) (hx : XR x) (hT : TabN N w) (hc : c <= 70000) (hS : k.S.length <= 4000) (hl : s.ents.length <= 1000) (d i g kk : Int) (DA : Option Addr) (dn dc : Nat) {K : Nat -> Prop} {b : List UInt8} (hE : EstOk K w ⟨d, i, g, kk, DA, dn, dc, b⟩) (hK : ∀ y, K y -> gr y = 0) :
  Calls Tryz.prog 13 #[.pointer (some ⟨x.p, 0, none⟩), .agg (seC d i g kk DA dn dc)] w (DoSaid w N gr x k c (s.go (szX x.ks) ⟨d, (i, g), kk, b⟩)) := by
 have hxn := hx.n
 have hx32 := hx.le
 have hdn : b.length = dn := by obtain ⟨_, _, _, e, hr, _⟩ := hE.v; injection e with _ e _; have e' : dn = _ := e; rw [e']; exact hr.1
 have hkz : In64 kk := ⟨(bounds_i64 hE.kz).1, by have := (bounds_i64 hE.kz).2; have e : (⟨d, i, g, kk, DA, dn, dc, b⟩ : Est).kk = kk := rfl; omega⟩
 have hTW : ∀ W, Below w.heap.size w W -> TabN N W := fun W hW => hT.below h hW
 have hdW : ∀ W, Below w.heap.size w W -> VB (fun y => gr y = 0) W (.slice DA dn dc) b := fun W hW => (hE.v.below hW).mono hK
 by_cases h1 : d = 1
 ·subst h1
  have eo : s.go (szX x.ks) ⟨1, (i, g), kk, b⟩ = ((s.despawn (i, g)).1, (0, 0), [], (s.despawn (i, g)).2) := rfl
  rw [eo]
  have fin : ∀ z : Int, z = (s.despawn (i, g)).2 -> (Hid (∀ W, Below w.heap.size w W -> w.heap.size + 2 <= W.heap.size -> Calls Tryz.prog 37 #[.pointer (some ⟨x.p, 0, none⟩), .agg #[.int .i64 i, .int .i64 g]] W fun e w' => e = .returned (.int .i64 z) /\ DoP w N gr x k c (s.despawn (i, g)).1 w' /\ Kp w.heap.size W w')) ->
    Calls Tryz.prog 13 #[.pointer (some ⟨x.p, 0, none⟩), .agg (seC 1 i g kk DA dn dc)] w (DoSaid w N gr x k c ((s.despawn (i, g)).1, (0, 0), [], (s.despawn (i, g)).2)) := fun z hz C => by
   refine (do_1 (.pointer (some ⟨x.p, 0, none⟩)) i g kk DA dn dc z w (DoP.stb _) C).mono ?_
   rintro e w' ⟨rfl, hP⟩
   exact ⟨none, 0, 0, by rw [hz], VB.nil _ _ _, hP⟩
  cases hp : ePlace s.ents (i, g) with
  | none =>
   have e2 : s.despawn (i, g) = (s, 5) := by unfold Es.despawn; rw [hp]
   rw [e2] at fin ⊢
   exact fin 5 rfl (hi_ fun W hW _ => (edespawn_err (.pointer (some ⟨x.p, 0, none⟩)) i g 5 (by decide) W (hi_ fun W' hW' => efind_no (h.below (hW.trans (hW'.mono hW.size))) hE.ok (hs.no hp))).mono fun e w' hh => ⟨hh.1, DoP.same h hs hW hh.2, Kp.ofBelow hh.2⟩)
  | some j =>
   obtain ⟨n, r, t, s0, hok, hpl, ht, hn, hr, hrow, hget, hs0, hf, hcs, hlo⟩ := hs.find (by omega) hp
   obtain ⟨q1, q2, q3⟩ := hs.despawn hp hpl ht
   refine fin 0 q3.symm (hi_ fun W hW hs2 => (edespawn_yes (h.below hW) hok hpl ht hn (hTW W hW) (by omega) hr hlo).mono ?_)
   rintro e w' ⟨rfl, gr', hC, hG⟩
   rw [q2]
   exact ⟨rfl, DoP.of h hW hs2 hC (by omega) q1 hG (by show k.S.length <= _; omega)⟩
 by_cases h2 : d = 2
 ·subst h2
  have eo : s.go (szX x.ks) ⟨2, (i, g), kk, b⟩ = ((s.set (szX x.ks) (i, g) kk b).1, (0, 0), [], (s.set (szX x.ks) (i, g) kk b).2) := rfl
  rw [eo]
  have fin : ∀ z : Int, z = (s.set (szX x.ks) (i, g) kk b).2 -> (Hid (∀ W, Below w.heap.size w W -> w.heap.size + 2 <= W.heap.size -> Calls Tryz.prog 30 #[.pointer (some ⟨x.p, 0, none⟩), .agg #[.int .i64 i, .int .i64 g], .int .i64 kk, .slice DA dn dc] W fun e w' => e = .returned (.int .i64 z) /\ DoP w N gr x k c (s.set (szX x.ks) (i, g) kk b).1 w' /\ Kp w.heap.size W w')) ->
    Calls Tryz.prog 13 #[.pointer (some ⟨x.p, 0, none⟩), .agg (seC 2 i g kk DA dn dc)] w (DoSaid w N gr x k c ((s.set (szX x.ks) (i, g) kk b).1, (0, 0), [], (s.set (szX x.ks) (i, g) kk b).2)) := fun z hz C => by
   refine (do_2 (.pointer (some ⟨x.p, 0, none⟩)) i g kk DA dn dc z w (DoP.stb _) C).mono ?_
   rintro e w' ⟨rfl, hP⟩
   exact ⟨none, 0, 0, by rw [hz], VB.nil _ _ _, hP⟩
  cases hp : ePlace s.ents (i, g) with
  | none =>
   have e2 : s.set (szX x.ks) (i, g) kk b = (s, 5) := by unfold Es.set; rw [hp]
   rw [e2] at fin ⊢
   exact fin 5 rfl (hi_ fun W hW _ => (eset_err (.pointer (some ⟨x.p, 0, none⟩)) i g kk 5 (by decide) _ W (hi_ fun W' hW' => eask_no (h.below (hW.trans (hW'.mono hW.size))) hE.ok (hs.no hp) kk)).mono fun e w' hh => ⟨hh.1, DoP.same h hs hW hh.2, Kp.ofBelow hh.2⟩)
  | some j =>
   obtain ⟨n, r, t, s0, hok, hpl, ht, hn, hr, hrow, hget, hs0, hf, hcs, hlo⟩ := hs.find (by omega) hp
   cases hz : szAt (szX x.ks) kk with
   | none =>
    have e2 : s.set (szX x.ks) (i, g) kk b = (s, 6) := by unfold Es.set; rw [hp]; simp only; rw [hz]
    rw [e2] at fin ⊢
    exact fin 6 rfl (hi_ fun W hW _ => (eset_err (.pointer (some ⟨x.p, 0, none⟩)) i g kk 6 (by decide) _ W (hi_ fun W' hW' => by
     have := eask_yes (h.below (hW.trans (hW'.mono hW.size))) hok hpl ht hn kk (by omega) false (sizeK_none hz)
     rw [if_neg (by decide)] at this
     exact this)).mono fun e w' hh => ⟨hh.1, DoP.same h hs hW hh.2, Kp.ofBelow hh.2⟩)
   | some z =>
    obtain ⟨hsz, hk0, hk1⟩ := sizeK_some hx.sz hz
    by_cases hbl : b.length = z
    ·have e2 : s.set (szX x.ks) (i, g) kk b = (⟨s.ns, s.ents.set j ((i, g), pSet kk b false (s.ents.getD j noEn).2)⟩, 0) := by unfold Es.set; rw [hp]; simp only; rw [hz]; simp only; rw [if_pos hbl]
     rw [e2] at fin ⊢
     have hz' : szAt (szX x.ks) kk = some b.length := by rw [hz, hbl]
     have hsz' : sizeK x.ks kk = ((dn : Int), true) := by rw [hsz, <- hbl, hdn]
     have hR : RowOk (Tb.new x.n (zsK x.ks) s0).cs (s.ents.getD j noEn).2 := by have := (h.tok ht).getD hr; rw [hget, hcs] at this; exact this
     have hkeys := keys_of hx hf hR
     obtain ⟨hi, _, _⟩ := pmOf_place hs.ok.up hp
     have hPk := hs.ok.at_parts hi
     cases hq : pAt (s.ents.getD j noEn).2 kk with
     | some q =>
      obtain ⟨hql, hqk⟩ := pAt_some hq
      have hmem : kk ∈ listZ s0 := by rw [<- hkeys]; exact List.mem_map.2 ⟨_, List.getElem_mem hql, hqk⟩
      obtain ⟨q1, q2⟩ := hs.turn hp hpl ht hr hrow (h.tok ht) hq hz'
      refine fin 0 rfl (hi_ fun W hW hs2 => (eset_has (h.below hW) hok hpl ht hn (by omega) (hTW W hW) DA dn dc hsz' (hdW W hW) hkz hs0 (decide_eq_true (mem_listZi.1 hmem))).mono ?_)
      rintro e w' ⟨rfl, gr', hC, hG⟩
      rw [q2]
      exact ⟨rfl, DoP.of h hW hs2 hC (by omega) q1 hG (by show k.S.length <= _; omega)⟩
     | none =>
      have hno := pAt_none hq
      have hmem : kk ∉ listZ s0 := fun hm => by
       rw [<- hkeys] at hm
       obtain ⟨p, hp', e⟩ := List.mem_map.1 hm
       exact hno p hp' e
      have hs0l := h.S_lt hs.ts hs0
      have q1 := hs.move hx hp hpl ht (chg_lt true kk hs0l) (full_chg hx hf hk0 (by omega) true) (ps := (s.ents.getD j noEn).2 ++ [(kk, b)]) (pSet_ok hPk hz') (keys_eq (pSet_ok hPk hz').up fun c => by
        rw [chg_t hk0 (by omega), <- hkeys]
        constructor
        ·intro hm
         obtain ⟨p, hp', rfl⟩ := List.mem_map.1 hm
         rcases mem_pSet.1 hp' with rfl | hp'
         ·exact .inl rfl
         ·exact .inr (List.mem_map.2 ⟨p, hp'.1, rfl⟩)
        ·rintro (rfl | hm)
         ·exact List.mem_map.2 ⟨(c, b), mem_pSet.2 (.inl rfl), rfl⟩
         ·obtain ⟨p, hp', rfl⟩ := List.mem_map.1 hm
          exact List.mem_map.2 ⟨p, mem_pSet.2 (.inr ⟨hp', hno p hp'⟩), rfl⟩)
       (fun p hp' q hq' e => by
        rcases List.mem_append.1 hp' with hp' | hp' <;> rcases List.mem_append.1 hq' with hq' | hq'
        ·exact key_uniq (f := fun p : Pt => p.1) hPk.up hp' hq' e
        ·rw [List.mem_singleton.1 hq'] at e; exact absurd e (hno p hp')
        ·rw [List.mem_singleton.1 hp'] at e; exact absurd e.symm (hno q hq')
        ·rw [List.mem_singleton.1 hp', List.mem_singleton.1 hq'])
       (fun p hp' => by
        rcases mem_pSet.1 hp' with rfl | hp'
        ·exact List.mem_append.2 (.inr (List.mem_singleton.2 rfl))
        ·exact List.mem_append.2 (.inl hp'.1)) (by omega)
      refine fin 0 rfl (hi_ fun W hW hs2 => (eset_lacks (h.below hW) hok hpl ht hn (by omega) (hTW W hW) (by omega) hr hlo (by omega) DA dn dc hsz' (hdW W hW) hs0 (decide_eq_false fun hh => hmem (mem_listZi.2 hh)) (chg_lt true kk hs0l) (full_chg hx hf hk0 (by omega) true)).mono ?_)
      rintro e w' ⟨rfl, gr', pt', hC, hG⟩
      rw [hget] at hC
      exact ⟨rfl, DoP.of h hW hs2 hC (by omega) q1 hG (by show (gNode k.S _).1.length <= _; exact (gNode_len _ _).1)⟩
    ·have e2 : s.set (szX x.ks) (i, g) kk b = (s, 7) := by unfold Es.set; rw [hp]; simp only; rw [hz]; simp only; rw [if_neg hbl]
     rw [e2] at fin ⊢
     exact fin 7 rfl (hi_ fun W hW _ => (eset_size (h.below hW) hok hpl ht hn (by omega) hsz DA dn dc (by omega)).mono fun e w' hh => ⟨hh.1, DoP.same h hs hW hh.2, Kp.ofBelow hh.2⟩)
 by_cases h3 : d = 3
 ·subst h3
  have eo : s.go (szX x.ks) ⟨3, (i, g), kk, b⟩ = ((s.remove (szX x.ks) (i, g) kk).1, (0, 0), [], (s.remove (szX x.ks) (i, g) kk).2) := rfl
  rw [eo]
  have fin : ∀ z : Int, z = (s.remove (szX x.ks) (i, g) kk).2 -> (Hid (∀ W, Below w.heap.size w W -> w.heap.size + 2 <= W.heap.size -> Calls Tryz.prog 38 #[.pointer (some ⟨x.p, 0, none⟩), .agg #[.int .i64 i, .int .i64 g], .int .i64 kk] W fun e w' => e = .returned (.int .i64 z) /\ DoP w N gr x k c (s.remove (szX x.ks) (i, g) kk).1 w' /\ Kp w.heap.size W w')) ->
    Calls Tryz.prog 13 #[.pointer (some ⟨x.p, 0, none⟩), .agg (seC 3 i g kk DA dn dc)] w (DoSaid w N gr x k c ((s.remove (szX x.ks) (i, g) kk).1, (0, 0), [], (s.remove (szX x.ks) (i, g) kk).2)) := fun z hz C => by
   refine (do_3 (.pointer (some ⟨x.p, 0, none⟩)) i g kk DA dn dc z w (DoP.stb _) C).mono ?_
   rintro e w' ⟨rfl, hP⟩
   exact ⟨none, 0, 0, by rw [hz], VB.nil _ _ _, hP⟩
  cases hp : ePlace s.ents (i, g) with
  | none =>
   have e2 : s.remove (szX x.ks) (i, g) kk = (s, 5) := by unfold Es.remove; rw [hp]
   rw [e2] at fin ⊢
   exact fin 5 rfl (hi_ fun W hW _ => (eremove_err (.pointer (some ⟨x.p, 0, none⟩)) i g kk 5 (by decide) W (hi_ fun W' hW' => eask_no (h.below (hW.trans (hW'.mono hW.size))) hE.ok (hs.no hp) kk)).mono fun e w' hh => ⟨hh.1, DoP.same h hs hW hh.2, Kp.ofBelow hh.2⟩)
  | some j =>
   obtain ⟨n, r, t, s0, hok, hpl, ht, hn, hr, hrow, hget, hs0, hf, hcs, hlo⟩ := hs.find (by omega) hp
   cases hz : szAt (szX x.ks) kk with
   | none =>
    have e2 : s.remove (szX x.ks) (i, g) kk = (s, 6) := by unfold Es.remove; rw [hp]; simp only; rw [hz]
    rw [e2] at fin ⊢
    exact fin 6 rfl (hi_ fun W hW _ => (eremove_err (.pointer (some ⟨x.p, 0, none⟩)) i g kk 6 (by decide) W (hi_ fun W' hW' => by
     have := eask_yes (h.below (hW.trans (hW'.mono hW.size))) hok hpl ht hn kk (by omega) false (sizeK_none hz)
     rw [if_neg (by decide)] at this
     exact this)).mono fun e w' hh => ⟨hh.1, DoP.same h hs hW hh.2, Kp.ofBelow hh.2⟩)
   | some z =>
    obtain ⟨hsz, hk0, hk1⟩ := sizeK_some hx.sz hz
    have hR : RowOk (Tb.new x.n (zsK x.ks) s0).cs (s.ents.getD j noEn).2 := by have := (h.tok ht).getD hr; rw [hget, hcs] at this; exact this
    have hkeys := keys_of hx hf hR
    obtain ⟨hi, _, _⟩ := pmOf_place hs.ok.up hp
    have hPk := hs.ok.at_parts hi
    cases hq : pAt (s.ents.getD j noEn).2 kk with
    | none =>
     have hno := pAt_none hq
     have hmem : kk ∉ listZ s0 := fun hm => by
      rw [<- hkeys] at hm
      obtain ⟨p, hp', e⟩ := List.mem_map.1 hm
      exact hno p hp' e
     have e2 : s.remove (szX x.ks) (i, g) kk = (s, 8) := by unfold Es.remove; rw [hp]; simp only; rw [hz]; simp only; rw [hq]
     rw [e2] at fin ⊢
     exact fin 8 rfl (hi_ fun W hW _ => (eremove_no (h.below hW) hok hpl ht hn (by omega) hsz hs0 (decide_eq_false fun hh => hmem (mem_listZi.2 hh))).mono fun e w' hh => ⟨hh.1, DoP.same h hs hW hh.2, Kp.ofBelow hh.2⟩)
    | some q =>
     obtain ⟨hql, hqk⟩ := pAt_some hq
     have hmem : kk ∈ listZ s0 := by rw [<- hkeys]; exact List.mem_map.2 ⟨_, List.getElem_mem hql, hqk⟩
     have e2 : s.remove (szX x.ks) (i, g) kk = (⟨s.ns, s.ents.set j ((i, g), (s.ents.getD j noEn).2.eraseIdx q)⟩, 0) := by unfold Es.remove; rw [hp]; simp only; rw [hz]; simp only; rw [hq]
     rw [e2] at fin ⊢
     have hs0l := h.S_lt hs.ts hs0
     have q1 := hs.move hx hp hpl ht (chg_lt false kk hs0l) (full_chg hx hf hk0 (by omega) false) (ps := (s.ents.getD j noEn).2 ++ []) (hPk.erase q) (keys_eq (hPk.erase q).up fun c => by
       rw [chg_f, <- hkeys]
       constructor
       ·intro hm
        obtain ⟨p, hp', rfl⟩ := List.mem_map.1 hm
        obtain ⟨p1, p2⟩ := (mem_erase_key (f := fun p : Pt => p.1) hPk.up hql).1 hp'
        exact ⟨fun e => p2 (e.trans hqk.symm), List.mem_map.2 ⟨p, p1, rfl⟩⟩
       ·rintro ⟨hne, hm⟩
        obtain ⟨p, hp', rfl⟩ := List.mem_map.1 hm
        exact List.mem_map.2 ⟨p, (mem_erase_key (f := fun p : Pt => p.1) hPk.up hql).2 ⟨hp', fun e => hne (e.trans hqk)⟩, rfl⟩)
      (fun p hp' q hq' e => by
       rw [List.append_nil] at hp' hq'
       exact key_uniq (f := fun p : Pt => p.1) hPk.up hp' hq' e)
      (fun p hp' => by
       rw [List.append_nil]
       exact ((mem_erase_key (f := fun p : Pt => p.1) hPk.up hql).1 hp').1) (by omega)
     refine fin 0 rfl (hi_ fun W hW hs2 => (eremove_has (h.below hW) hok hpl ht hn (by omega) (hTW W hW) (by omega) hr hlo (by omega) hsz hs0 (decide_eq_true (mem_listZi.1 hmem)) (chg_lt false kk hs0l) (full_chg hx hf hk0 (by omega) false)).mono ?_)
     rintro e w' ⟨rfl, gr', pt', hC, hG⟩
     rw [hget] at hC
     exact ⟨rfl, DoP.of h hW hs2 hC (by omega) q1 hG (by show (gNode k.S _).1.length <= _; exact (gNode_len _ _).1)⟩
 by_cases h4 : d = 4
 ·subst h4
  have eo : s.go (szX x.ks) ⟨4, (i, g), kk, b⟩ = (s, (0, 0), (s.get (szX x.ks) (i, g) kk).1, (s.get (szX x.ks) (i, g) kk).2) := rfl
  rw [eo]
  have fin : ∀ z : Int, z = (s.get (szX x.ks) (i, g) kk).2 -> (Hid (∀ W, Below w.heap.size w W -> w.heap.size + 2 <= W.heap.size -> Calls Tryz.prog 39 #[.pointer (some ⟨x.p, 0, none⟩), .agg #[.int .i64 i, .int .i64 g], .int .i64 kk] W fun e w' => ∃ A m cc, e = .returned (.tuple #[.slice A m cc, .int .i64 z]) /\ VB (fun y => w.heap.size + 2 <= y) w' (.slice A m cc) (s.get (szX x.ks) (i, g) kk).1 /\ Below W.heap.size W w')) ->
    Calls Tryz.prog 13 #[.pointer (some ⟨x.p, 0, none⟩), .agg (seC 4 i g kk DA dn dc)] w (DoSaid w N gr x k c (s, (0, 0), (s.get (szX x.ks) (i, g) kk).1, (s.get (szX x.ks) (i, g) kk).2)) := fun z hz C => by
   refine (do_4 (.pointer (some ⟨x.p, 0, none⟩)) i g kk DA dn dc z w (Φ := fun A m cc W => DoP w N gr x k c s W /\ VB (fun y => w.heap.size + 2 <= y) W (.slice A m cc) (s.get (szX x.ks) (i, g) kk).1) (fun A m cc => ⟨fun w1 w2 hh hb => ⟨(DoP.stb s).more _ _ hh.1 hb, hh.2.below hb⟩, fun w1 w2 hh hF => ⟨(DoP.stb s).put _ _ hh.1 hF, (hh.2.lt.stays ⟨hF.size, fun y hy => hF.block y hy.2 (fun e => by have e' : y = w.heap.size + 1 := e; have := hy.1; omega)⟩).mono (fun y hy => hy.1)⟩⟩)
    (hi_ fun W hW hs2 => (C.out W hW hs2).mono fun e w' ⟨A, m, cc, he, hV, hb⟩ => ⟨A, m, cc, he, ⟨DoP.same h hs hW hb, hV⟩, Kp.ofBelow hb⟩)).mono ?_
   rintro e w' ⟨A, m, cc, rfl, hP, hV⟩
   exact ⟨A, m, cc, by rw [hz], hV.mono (fun y hy => by omega), hP⟩
  cases hp : ePlace s.ents (i, g) with
  | none =>
   have e2 : s.get (szX x.ks) (i, g) kk = ([], 5) := by unfold Es.get; rw [hp]
   rw [e2] at fin ⊢
   exact fin 5 rfl (hi_ fun W hW _ => (eget_err (.pointer (some ⟨x.p, 0, none⟩)) i g kk 5 (by decide) W (hi_ fun W' hW' => eask_no (h.below (hW.trans (hW'.mono hW.size))) hE.ok (hs.no hp) kk)).mono fun e w' hh => ⟨none, 0, 0, hh.1, VB.nil _ _ _, hh.2⟩)
  | some j =>
   obtain ⟨n, r, t, s0, hok, hpl, ht, hn, hr, hrow, hget, hs0, hf, hcs, hlo⟩ := hs.find (by omega) hp
   cases hz : szAt (szX x.ks) kk with
   | none =>
    have e2 : s.get (szX x.ks) (i, g) kk = ([], 6) := by unfold Es.get; rw [hp]; simp only; rw [hz]
    rw [e2] at fin ⊢
    exact fin 6 rfl (hi_ fun W hW _ => (eget_err (.pointer (some ⟨x.p, 0, none⟩)) i g kk 6 (by decide) W (hi_ fun W' hW' => by
     have := eask_yes (h.below (hW.trans (hW'.mono hW.size))) hok hpl ht hn kk (by omega) false (sizeK_none hz)
     rw [if_neg (by decide)] at this
     exact this)).mono fun e w' hh => ⟨none, 0, 0, hh.1, VB.nil _ _ _, hh.2⟩)
   | some z =>
    obtain ⟨hsz, hk0, hk1⟩ := sizeK_some hx.sz hz
    obtain ⟨q1, q2⟩ := hs.get hp hr hrow (h.tok ht) hz
    refine fin _ rfl (hi_ fun W hW hs2 => (eget_yes (h.below hW) hok hpl ht hn (by omega) hsz hkz).mono ?_)
    rintro e w' ⟨⟨A, m, cc, rfl, hV⟩, hb⟩
    rw [q1] at hV
    rw [q2]
    exact ⟨A, m, cc, rfl, hV.mono (fun y hy => Nat.le_trans hs2 hy), hb⟩
 have eo : s.go (szX x.ks) ⟨d, (i, g), kk, b⟩ = (s.spawn.1, s.spawn.2.1, [], s.spawn.2.2) := by
  unfold Es.go
  rw [if_neg h1, if_neg h2, if_neg h3, if_neg h4]
 rw [eo]
 by_cases he : k.ns.take.2.2 = 0
 ·have he' : s.ns.take.2.2 = 0 := by rw [<- hs.ns]; exact he
  have e2 : s.spawn = (⟨s.ns.take.1, eIns (s.ns.take.2.1, []) s.ents⟩, s.ns.take.2.1, 0) := by unfold Es.spawn; rw [if_pos he']
  have q1 := hs.spawn (by omega) he
  have hnm : okE k.ns.take.2.1 := by
   have := (hs.ok.spawn).okE (e := (s.ns.take.2.1, [])) (by rw [e2]; exact eIns_mem.2 (.inl rfl))
   rw [hs.ns]
   exact this
  refine (do_0 (.pointer (some ⟨x.p, 0, none⟩)) i g kk DA dn dc 0 w d h1 h2 h3 h4 k.ns.take.2.1.1 k.ns.take.2.1.2 (DoP.stb (k := k) (x := x) (N := N) (gr := gr) (c := c) s.spawn.1) (hi_ fun W hW hs2 => (espawn_yes (h.below hW) (hTW W hW) (by omega) (by omega) hs.ts.pos (by omega) he hnm).mono ?_)).mono ?_
  ·rintro e w' ⟨rfl, gr', pt', hC, hG⟩
   exact ⟨rfl, DoP.of h hW hs2 hC (by omega) q1 hG (by show (gNode k.S 0).1.length <= _; exact (gNode_len _ _).1)⟩
  ·rintro e w' ⟨rfl, hP⟩
   exact ⟨none, 0, 0, by rw [e2, hs.ns], VB.nil _ _ _, hP⟩
 ·have he' : ¬ s.ns.take.2.2 = 0 := by rw [<- hs.ns]; exact he
  have e2 : s.spawn = (s, (0, 0), s.ns.take.2.2) := by unfold Es.spawn; rw [if_neg he']
  have q1 := hs.spawn_no he
  refine (do_0 (.pointer (some ⟨x.p, 0, none⟩)) i g kk DA dn dc k.ns.take.2.2 w d h1 h2 h3 h4 0 0 (DoP.stb (k := k) (x := x) (N := N) (gr := gr) (c := c) s.spawn.1) (hi_ fun W hW hs2 => (espawn_no (h.below hW) he).mono ?_)).mono ?_
  ·rintro e w' ⟨rfl, gr', pt', hC, hG⟩
   exact ⟨rfl, DoP.of h hW hs2 hC (by omega) q1 hG (by show k.S.length <= _; omega)⟩
  ·rintro e w' ⟨rfl, hP⟩
   exact ⟨none, 0, 0, by rw [e2, hs.ns], VB.nil _ _ _, hP⟩
end
end Go.Proofs.YthiknmhkdeicjaaGreatDoor
namespace Go.Proofs.YthiknmhkdeicjaaGreatDoor
set_option maxRecDepth 20000
theorem mem_sigsL {S : List Nat} {wi wo n : Nat} : ∀ {m : Nat}, n ∈ sigsL S wi wo m ↔ n < m /\ fitG wi wo (S.getD n 0) = true
 | 0 => by simp [sigsL]
 | m + 1 => by
  unfold sigsL
  rw [List.mem_append, mem_sigsL (m := m)]
  constructor
  ·rintro (⟨h1, h2⟩ | h)
   ·exact ⟨by omega, h2⟩
   ·split at h
    ·rename_i hf
     rw [List.mem_singleton.1 h]
     exact ⟨by omega, hf⟩
    ·exact absurd h List.not_mem_nil
  ·rintro ⟨h1, h2⟩
   by_cases e : n = m
   ·subst e
    rw [if_pos h2]
    exact .inr (List.mem_singleton.2 rfl)
   ·exact .inl ⟨by omega, h2⟩
theorem sigsL_nd (S : List Nat) (wi wo : Nat) : ∀ m, (sigsL S wi wo m).Nodup
 | 0 => List.nodup_nil
 | m + 1 => by
  unfold sigsL
  refine List.nodup_append.2 ⟨sigsL_nd S wi wo m, by split <;> simp, fun a ha b hb e => ?_⟩
  have h1 := sigsL_lt S wi wo m a ha
  split at hb
  ·rw [List.mem_singleton.1 hb] at e; omega
  ·exact absurd hb List.not_mem_nil
theorem orL_listZ {s : Nat} (h : s < 18446744073709551616) : orL (listZ s) = s :=
 eq_of_bits (orL_lt _) h fun i hi => by
  rw [orL_bit, Bool.eq_iff_iff, decide_eq_true_eq]
  exact ⟨fun hh => (mem_listZ.1 hh.2).2, fun hh => ⟨hi, mem_listZ.2 ⟨hi, hh⟩⟩⟩
def sigE (e : En) : Nat := orL (e.2.map (·.1))
def fitE (wi wo : Nat) (e : En) : Bool := fitG wi wo (sigE e)
theorem mem_idsOf {k : Ks} {l : List Nat} {id : Int × Int} : id ∈ k.idsOf l ↔ ∃ n ∈ l, ∃ t, k.tb n = some t /\ id ∈ t.ids := by
 unfold Ks.idsOf
 rw [List.mem_flatten]
 constructor
 ·rintro ⟨y, hy, hid⟩
  obtain ⟨n, hn, rfl⟩ := List.mem_map.1 hy
  unfold Ks.at_ at hid
  cases ht : k.tb n with
  | none => rw [ht] at hid; exact absurd hid List.not_mem_nil
  | some t => rw [ht] at hid; exact ⟨n, hn, t, ht, hid⟩
 ·rintro ⟨n, hn, t, ht, hid⟩
  exact ⟨k.at_ n, List.mem_map.2 ⟨n, hn, rfl⟩, by unfold Ks.at_; rw [ht]; exact hid⟩
section
variable {x : Fx} {k : Ks} {s : Es}
theorem TS.ids_pl {pm : Int × Int -> Option (List Pt)} (h : TS x k pm) {n : Nat} {t : Tb} (ht : k.tb n = some t) {id : Int × Int} : id ∈ t.ids ↔ ∃ r, k.pl id = some (n, r) := by
 constructor
 ·intro hid
  obtain ⟨e, he, rfl⟩ := List.mem_map.1 hid
  obtain ⟨r, hr⟩ := List.mem_iff_getElem?.1 he
  exact ⟨r, (h.pl e.1 n r).2 ⟨t, e, ht, hr, rfl⟩⟩
 ·rintro ⟨r, hr⟩
  obtain ⟨t', e, ht', hr', rfl⟩ := (h.pl id n r).1 hr
  rw [ht] at ht'
  injection ht' with ht'
  subst ht'
  exact List.mem_map.2 ⟨e, List.mem_of_getElem? hr', rfl⟩
theorem TS.ids_nd {pm : Int × Int -> Option (List Pt)} (h : TS x k pm) {l : List Nat} (hl : l.Nodup) : (k.idsOf l).Nodup := by
 unfold Ks.idsOf
 refine List.pairwise_flatten.2 ⟨fun y hy => ?_, ?_⟩
 ·obtain ⟨n, hn, rfl⟩ := List.mem_map.1 hy
  unfold Ks.at_
  cases ht : k.tb n with
  | none => exact List.nodup_nil
  | some t =>
   refine List.pairwise_iff_getElem.2 fun i j hi hj hij e => ?_
   simp only [Tb.ids, List.length_map] at hi hj
   simp only [Tb.ids, List.getElem_map] at e
   have h1 := (h.pl t.rows[i].1 n i).2 ⟨t, _, ht, List.getElem?_eq_getElem hi, rfl⟩
   have h2 := (h.pl t.rows[i].1 n j).2 ⟨t, _, ht, List.getElem?_eq_getElem hj, e.symm⟩
   rw [h1] at h2
   injection h2 with h2
   injection h2 with _ h2
   omega
 ·refine List.pairwise_map.2 (hl.imp fun {a b} hab u hu v hv e => ?_)
  subst e
  unfold Ks.at_ at hu hv
  cases ht : k.tb a with
  | none => rw [ht] at hu; exact absurd hu List.not_mem_nil
  | some t =>
   cases ht' : k.tb b with
   | none => rw [ht'] at hv; exact absurd hv List.not_mem_nil
   | some t' =>
    rw [ht] at hu
    rw [ht'] at hv
    obtain ⟨r, h1⟩ := (h.ids_pl ht).1 hu
    obtain ⟨r', h2⟩ := (h.ids_pl ht').1 hv
    rw [h1] at h2
    injection h2 with h2
    injection h2 with h2 _
    exact hab h2
theorem Sim.sig (h : Sim x k s) (hx : XR x) (tok : ∀ n t, k.tb n = some t -> t.Ok) {n s0 : Nat} {t : Tb} {e : En} (ht : k.tb n = some t) (he : e ∈ t.rows) (hs0 : k.S[n]? = some s0) : sigE e = s0 /\ e ∈ s.ents := by
 obtain ⟨_, s1, hs1, hf, hcs⟩ := h.ts.tb n t ht
 rw [hs0] at hs1
 injection hs1 with hs1
 subst hs1
 have hR : RowOk (Tb.new x.n (zsK x.ks) s0).cs e.2 := by rw [<- hcs]; exact (tok n t ht).row e he
 exact ⟨by unfold sigE; rw [keys_of hx hf hR, orL_listZ (h.ts.S.at_lt hs0)], (pmOf_iff h.ok.up).1 (h.ts.row n t e ht he)⟩
theorem Sim.per (h : Sim x k s) (hx : XR x) (tok : ∀ n t, k.tb n = some t -> t.Ok) (wi wo : Nat) : (k.idsOf (sigsL k.S wi wo k.S.length)).Perm ((s.ents.filter (fitE wi wo)).map (·.1)) := by
 have hnd : ((s.ents.filter (fitE wi wo)).map (·.1)).Nodup := by
  refine List.pairwise_map.2 ((h.ok.up.filter _).imp fun {a b} hab e => ?_)
  rw [e] at hab
  omega
 refine (List.perm_ext_iff_of_nodup (h.ts.ids_nd (sigsL_nd _ _ _ _)) hnd).2 fun id => ?_
 rw [mem_idsOf, List.mem_map]
 constructor
 ·rintro ⟨n, hn, t, ht, hid⟩
  obtain ⟨hlt, hfit⟩ := mem_sigsL.1 hn
  obtain ⟨e, he, rfl⟩ := List.mem_map.1 hid
  have hs0 : k.S[n]? = some (k.S.getD n 0) := by rw [List.getD_eq_getElem?_getD, List.getElem?_eq_getElem hlt]; rfl
  obtain ⟨h1, h2⟩ := h.sig hx tok ht he hs0
  exact ⟨e, List.mem_filter.2 ⟨h2, by unfold fitE; rw [h1]; exact hfit⟩, rfl⟩
 ·rintro ⟨e, he, rfl⟩
  obtain ⟨h1, h2⟩ := List.mem_filter.1 he
  obtain ⟨n, r, hpl⟩ := h.ts.all e.1 e.2 ((pmOf_iff h.ok.up).2 h1)
  obtain ⟨t, ps, ht, hr, hrow, _, hpm⟩ := h.ts.at_ hpl
  have hps : ps = e.2 := by
   rw [(pmOf_iff h.ok.up).2 h1] at hpm
   injection hpm with hpm
   exact hpm.symm
  subst hps
  obtain ⟨_, s0, hs0, _⟩ := h.ts.tb n t ht
  obtain ⟨hlt, hg⟩ := List.getElem?_eq_some_iff.1 hs0
  have hm := List.mem_of_getElem? hrow
  obtain ⟨q1, _⟩ := h.sig hx tok ht hm hs0
  refine ⟨n, mem_sigsL.2 ⟨hlt, ?_⟩, t, ht, List.mem_map.2 ⟨_, hm, rfl⟩⟩
  rw [List.getD_eq_getElem?_getD, hs0]
  show fitG wi wo s0 = true
  rw [<- q1]
  exact h2
theorem fit0 (s : Nat) : fitG 0 0 s = true := by
 unfold fitG butN
 simp
theorem Sim.has (h : Sim x k s) (hx : XR x) (tok : ∀ n t, k.tb n = some t -> t.Ok) (hS : k.S.length <= 5000) : k.Has s.ents where
 per := by
  have := h.per hx tok 0 0
  rwa [show s.ents.filter (fitE 0 0) = s.ents from List.filter_eq_self.2 (fun e _ => fit0 _)] at this
 up := h.ok.up
 on e he := by
  obtain ⟨n, r, hpl⟩ := h.ts.all e.1 e.2 ((pmOf_iff h.ok.up).2 he)
  obtain ⟨t, ps, ht, hr, hrow, hget, hpm⟩ := h.ts.at_ hpl
  rw [(pmOf_iff h.ok.up).2 he] at hpm
  injection hpm with hpm
  exact ⟨h.ok.okE he, n, r, t, hpl, ht, h.ts.okN hS ht, hr, by rw [hget, hpm]⟩
theorem Sim.query (h : Sim x k s) (hx : XR x) (tok : ∀ n t, k.tb n = some t -> t.Ok) {wi wo : Nat} {ys : List (Int × Int)} (hp : ys.Perm (k.idsOf (sigsL k.S wi wo k.S.length))) (hu : ys.Pairwise (fun a b => a.1 <= b.1)) : ys = (s.ents.filter (fitE wi wo)).map (·.1) := by
 have hpp := hp.trans (h.per hx tok wi wo)
 have hlt : ((s.ents.filter (fitE wi wo)).map (·.1)).Pairwise (fun a b : Int × Int => a.1 < b.1) := List.pairwise_map.2 (h.ok.up.filter _)
 refine List.Perm.eq_of_pairwise (le := fun a b : Int × Int => a.1 <= b.1) (fun a b ha hb h1 h2 => ?_) hu (hlt.imp fun h => Int.le_of_lt h) hpp
 exact key_uniq (f := fun a : Int × Int => a.1) hlt (hpp.subset ha) hb (Int.le_antisymm h1 h2)
theorem Es.Ok.cnt {z : Szs} {s : Es} (h : s.Ok z) : s.ns.cnt s.ns.g.length = s.ents.length := by
 unfold NS.cnt
 have hnd : (s.ents.map fun e => e.1.1).Nodup := List.pairwise_map.2 (h.up.imp fun {a b} hab e => by rw [e] at hab; omega)
 have hp : (((List.range s.ns.g.length).filter fun (i : Nat) => s.ns.live i).map Int.ofNat).Perm (s.ents.map fun e => e.1.1) := by
  refine (List.perm_ext_iff_of_nodup (List.pairwise_map.2 ((List.nodup_range.filter _).imp fun {a b} hab e => hab (by injection e))) hnd).2 fun i => ?_
  rw [List.mem_map, List.mem_map]
  constructor
  ·rintro ⟨j, hj, rfl⟩
   obtain ⟨_, h2⟩ := List.mem_filter.1 hj
   obtain ⟨e, he, h3⟩ := h.all _ h2
   exact ⟨e, he, h3⟩
  ·rintro ⟨e, he, rfl⟩
   obtain ⟨a1, _⟩ := NS.alive_live (h.on e he)
   obtain ⟨b0, b1, _⟩ := NS.live_iff.1 a1
   refine ⟨e.1.1.toNat, List.mem_filter.2 ⟨List.mem_range.2 (by omega), ?_⟩, by show ((e.1.1.toNat : Nat) : Int) = _; omega⟩
   rw [show ((e.1.1.toNat : Nat) : Int) = e.1.1 by omega]
   exact a1
 have := hp.length_eq
 rwa [List.length_map, List.length_map] at this
end
end Go.Proofs.YthiknmhkdeicjaaGreatDoor
