/- EcVq, EcVr, EcRa, GrRF, EcRb, IdR2, IdT, Cm5 -/
import Derived.Test.YtaoinkjjmakhaaaGreatDoorQl1
import Derived.Test.YtaoinkjjmakhaaaGreatDoorQl2
import Derived.Test.YtaoinkjjmakhaaaGreatDoorQl5
import Derived.Test.YtaoinkjjmakhaaaGreatDoorQl7
import Derived.Test.YtaoinkjjmakhaaaGreatDoorQl8
import Derived.Test.YtaoinkjjmakhaaaGreatDoorQl11
import Derived.Test.YtaoinkjjmakhaaaGreatDoorQl15
import Derived.Test.YtaoinkjjmakhaaaGreatDoorQl17
import Derived.Test.YtaoinkjjmakhaaaGreatDoorQl19
import Derived.Test.YtaoinkjjmakhaaaGreatDoorQl20
namespace Go.Proofs.YtaoinkjjmakhaaaGreatDoor
open Go.RowKit
set_option maxRecDepth 20000
set_option linter.unusedVariables false
structure LdIn (x : Fx) (xs : List Rw) (j : Nat) (k : Ks) : Prop where
 ts : TS x k (pmOf (entsTo x.n (zsK x.ks) xs j))
 tb : ∀ m t, k.tb m = some t -> ∃ i r, i < j /\ xs[i]? = some r /\ k.S[m]? = some r.1 /\ t = rowT x.n (zsK x.ks) r
 at_ : ∀ i r, i < j -> xs[i]? = some r -> ∃ m, k.S[m]? = some r.1 /\ k.tb m = some (rowT x.n (zsK x.ks) r)
 up : ∀ i r i' r', i < i' -> i' < j -> xs[i]? = some r -> xs[i']? = some r' -> r.1 < r'.1
section
variable {x : Fx} {s : NS} {xs : List Rw}
theorem entsTo_nd {n : Nat} {zs : Nat -> Int} {j : Nat} {k : Ks} (h : LdTo n zs s xs j k) : ((entsTo n zs xs j).map (·.1)).Nodup := by
 rw [entsTo_ids]
 exact (LdTo.names h).1
theorem LdTo.ldin (hs : ∀ r ∈ xs, r.1 < 18446744073709551616) : ∀ {j : Nat} {k : Ks}, LdTo x.n (zsK x.ks) s xs j k -> LdIn x xs j k
 | 0, k, h => by
  rw [show k = ks0 s from h]
  refine ⟨?_, fun m t h => (by cases h), fun i r hi => absurd hi (Nat.not_lt_zero _), fun i r i' r' _ hi => absurd hi (Nat.not_lt_zero _)⟩
  have : pmOf (entsTo x.n (zsK x.ks) xs 0) = fun _ => none := by funext id; rfl
  rw [this]
  exact TS.start s
 | j + 1, k', hk' => by
  have hnd := entsTo_nd hk'
  obtain ⟨r, k, hr, hb, h1, h2, t, ht, q, hq, hk⟩ := hk'
  have h := LdTo.ldin hs hb
  have hnd0 := entsTo_nd hb
  rw [entsTo_succ hr] at hnd
  obtain ⟨rfl, hfit⟩ := TLd_iff.1 ht
  have hids : (rowT x.n (zsK x.ks) r).ids = r.2.1 := rowT_ids r
  rw [hids] at hq
  have hlt : ∀ i r0, i < j -> xs[i]? = some r0 -> r0.1 < r.1 := fun i r0 hi h0 => by
   match j, hi, h, h1 with
   | j + 1, hi, h, h1 =>
    obtain ⟨rp, hrp⟩ : ∃ rp, xs[j]? = some rp := ⟨_, List.getElem?_eq_getElem (by have := (List.getElem?_eq_some_iff.1 hr).1; omega)⟩
    have hp := h1 rp.1 (show (xs[j]?).map (·.1) = some rp.1 by rw [hrp]; rfl)
    by_cases e : i = j
    ·subst e
     rw [hrp] at h0
     injection h0 with h0
     subst h0
     exact hp
    ·exact Nat.lt_trans (h.up i r0 j rp (by omega) (Nat.lt_succ_self _) h0 hrp) hp
  have hne : ∀ m t, k.tb m = some t -> m ≠ (gNode k.S r.1).2 := fun m t hm e => by
   obtain ⟨i, r0, hi, h0, hS, _⟩ := h.tb m t hm
   have h5 := gNode_keeps r.1 hS
   rw [e, gNode_at] at h5
   injection h5 with h5
   have := hlt i r0 hi h0
   omega
  have hsaid := layP_said _ _ _ _ _ _ hq
  have hat := layP_at _ _ _ _ _ _ hq
  subst hk
  refine ⟨⟨h.ts.S.node (hs r (List.mem_of_getElem? hr)), by have := (gNode_len k.S r.1).2; have := h.ts.pos; show 0 < (gNode k.S r.1).1.length; omega, fun m t hm => ?_, fun id m i => ?_, fun m t e hm he => ?_, fun id ps hp => ?_⟩, fun m t hm => ?_, fun i r0 hi h0 => ?_, fun i r0 i' r0' hii hi' h0 h0' => ?_⟩
  ·by_cases e : m = (gNode k.S r.1).2
   ·subst e
    simp only [upd, if_true] at hm
    injection hm with hm
    subst hm
    refine ⟨fun e => h2 ?_, r.1, gNode_at _ _, hfit.1, rfl⟩
    have := hids
    unfold Tb.ids at this
    rw [e] at this
    exact this.symm
   ·simp only [upd, if_neg e] at hm
    obtain ⟨a1, s0, a2, a3, a4⟩ := h.ts.tb m t hm
    exact ⟨a1, s0, gNode_keeps _ a2, a3, a4⟩
  ·show q id = some (m, i) ↔ _
   rw [hat id m i]
   constructor
   ·rintro (⟨rfl, _, hi⟩ | ⟨_, hp⟩)
    ·rw [Nat.sub_zero, <- hids] at hi
     unfold Tb.ids at hi
     rw [List.getElem?_map] at hi
     obtain ⟨e, he, hee⟩ := Option.map_eq_some_iff.1 hi
     exact ⟨_, e, by simp [upd], he, hee⟩
    ·obtain ⟨t, e, h3, h4, h5⟩ := (h.ts.pl id m i).1 hp
     exact ⟨t, e, by simp only [upd, if_neg (hne m t h3)]; exact h3, h4, h5⟩
   ·rintro ⟨t, e, h3, h4, h5⟩
    by_cases em : m = (gNode k.S r.1).2
    ·subst em
     simp only [upd, if_true] at h3
     injection h3 with h3
     subst h3
     refine .inl ⟨rfl, Nat.zero_le _, ?_⟩
     rw [Nat.sub_zero, <- hids]
     unfold Tb.ids
     rw [List.getElem?_map, h4, <- h5]
     rfl
    ·simp only [upd, if_neg em] at h3
     have hp := (h.ts.pl id m i).2 ⟨t, e, h3, h4, h5⟩
     exact .inr ⟨fun hin => (by rw [(hsaid.2.1 id hin).1] at hp; cases hp), hp⟩
  ·rw [entsTo_succ hr]
   refine (pmN_iff hnd).2 (List.mem_append.2 ?_)
   by_cases em : m = (gNode k.S r.1).2
   ·subst em
    simp only [upd, if_true] at hm
    injection hm with hm
    subst hm
    exact .inr he
   ·simp only [upd, if_neg em] at hm
    exact .inl ((pmN_iff hnd0).1 (h.ts.row m t e hm he))
  ·rw [entsTo_succ hr] at hp
   rcases List.mem_append.1 ((pmN_iff hnd).1 hp) with h3 | h3
   ·obtain ⟨m, i, h4⟩ := h.ts.all id ps ((pmN_iff hnd0).2 h3)
    obtain ⟨t, e, h5, h6, h7⟩ := (h.ts.pl id m i).1 h4
    refine ⟨m, i, (hat id m i).2 (.inr ⟨fun hin => (by rw [(hsaid.2.1 id hin).1] at h4; cases h4), h4⟩)⟩
   ·obtain ⟨i, hi, he⟩ := List.getElem_of_mem h3
    refine ⟨_, i, (hat id _ i).2 (.inl ⟨rfl, Nat.zero_le _, ?_⟩)⟩
    rw [Nat.sub_zero, <- hids]
    unfold Tb.ids
    rw [List.getElem?_map, List.getElem?_eq_getElem hi, he]
    rfl
  ·by_cases em : m = (gNode k.S r.1).2
   ·subst em
    simp only [upd, if_true] at hm
    injection hm with hm
    subst hm
    exact ⟨j, r, Nat.lt_succ_self _, hr, gNode_at _ _, rfl⟩
   ·simp only [upd, if_neg em] at hm
    obtain ⟨i, r0, a1, a2, a3, a4⟩ := h.tb m t hm
    exact ⟨i, r0, Nat.lt_succ_of_lt a1, a2, gNode_keeps _ a3, a4⟩
  ·by_cases e : i = j
   ·subst e
    rw [hr] at h0
    injection h0 with h0
    subst h0
    exact ⟨_, gNode_at _ _, by simp [upd]⟩
   ·obtain ⟨m, a1, a2⟩ := h.at_ i r0 (by omega) h0
    exact ⟨m, gNode_keeps _ a1, by simp only [upd, if_neg (hne m _ a2)]; exact a2⟩
  ·by_cases e : i' = j
   ·subst e
    rw [hr] at h0'
    injection h0' with h0'
    subst h0'
    exact hlt i r0 hii h0
   ·exact h.up i r0 i' r0' hii (by omega) h0 h0'
end
def entsBy (gl : Nat) (es : List En) : List En := (List.range gl).flatMap fun (i : Nat) => es.filter fun e => decide (e.1.1 = (i : Int))
section
variable {es : List En} {gl : Nat}
theorem entsBy_succ (gl : Nat) (es : List En) : entsBy (gl + 1) es = entsBy gl es ++ es.filter fun e => decide (e.1.1 = (gl : Int)) := by
 unfold entsBy
 rw [List.range_succ, List.flatMap_append]
 simp
theorem mem_entsBy {e : En} : e ∈ entsBy gl es ↔ e ∈ es /\ 0 <= e.1.1 /\ e.1.1 < gl := by
 unfold entsBy
 simp only [List.mem_flatMap, List.mem_range, List.mem_filter, decide_eq_true_eq]
 constructor
 ·rintro ⟨i, hi, h1, h2⟩
  exact ⟨h1, by omega, by omega⟩
 ·rintro ⟨h1, h2, h3⟩
  exact ⟨e.1.1.toNat, by omega, h1, by omega⟩
theorem entsBy_le : ∀ gl : Nat, (entsBy gl es).Pairwise fun a b => a.1.1 <= b.1.1
 | 0 => List.Pairwise.nil
 | gl + 1 => by
  rw [entsBy_succ]
  refine List.pairwise_append.2 ⟨entsBy_le gl, ?_, fun a ha b hb => ?_⟩
  ·refine List.Pairwise.imp_of_mem (R := fun _ _ => True) (fun ha hb _ => ?_) (List.pairwise_of_forall (fun _ _ => trivial))
   have h1 := (List.mem_filter.1 ha).2
   have h2 := (List.mem_filter.1 hb).2
   simp only [decide_eq_true_eq] at h1 h2
   omega
  ·have h1 := mem_entsBy.1 ha
   have h2 := (List.mem_filter.1 hb).2
   simp only [decide_eq_true_eq] at h2
   omega
theorem filt_perm (gl : Nat) (es : List En) : ((es.filter fun e => decide (0 <= e.1.1 /\ e.1.1 < (gl : Int))) ++ es.filter fun e => decide (e.1.1 = (gl : Int))).Perm (es.filter fun e => decide (0 <= e.1.1 /\ e.1.1 < ((gl + 1 : Nat) : Int))) := by
 induction es with
 | nil => exact List.Perm.nil
 | cons e es ih =>
  simp only [List.filter_cons]
  by_cases h1 : 0 <= e.1.1 /\ e.1.1 < (gl : Int)
  ·have h2 : ¬ e.1.1 = (gl : Int) := by omega
   have h3 : 0 <= e.1.1 /\ e.1.1 < ((gl + 1 : Nat) : Int) := by omega
   rw [if_pos (decide_eq_true h1), if_neg (by simpa using h2), if_pos (decide_eq_true h3)]
   exact List.Perm.cons e ih
  ·by_cases h2 : e.1.1 = (gl : Int)
   ·have h3 : 0 <= e.1.1 /\ e.1.1 < ((gl + 1 : Nat) : Int) := by omega
    rw [if_neg (by simpa using h1), if_pos (decide_eq_true h2), if_pos (decide_eq_true h3)]
    exact List.perm_middle.trans (List.Perm.cons e ih)
   ·have h3 : ¬ (0 <= e.1.1 /\ e.1.1 < ((gl + 1 : Nat) : Int)) := by omega
    rw [if_neg (by simpa using h1), if_neg (by simpa using h2), if_neg (by simpa using h3)]
    exact ih
theorem entsBy_perm : ∀ gl : Nat, (entsBy gl es).Perm (es.filter fun e => decide (0 <= e.1.1 /\ e.1.1 < (gl : Int)))
 | 0 => by
  have : (es.filter fun e => decide (0 <= e.1.1 /\ e.1.1 < ((0 : Nat) : Int))) = [] := List.filter_eq_nil_iff.2 fun e _ h => by have := of_decide_eq_true h; omega
  rw [this]
  exact List.Perm.nil
 | gl + 1 => by
  rw [entsBy_succ]
  exact ((entsBy_perm gl).append_right _).trans (filt_perm gl es)
theorem entsBy_all : (entsBy gl es).length = es.length ↔ ∀ e ∈ es, 0 <= e.1.1 /\ e.1.1 < gl := by
 rw [(entsBy_perm gl).length_eq, List.length_filter_eq_length_iff]
 simp
theorem entsBy_up (hne : ∀ j a b, (entsBy gl es)[j]? = some a -> (entsBy gl es)[j + 1]? = some b -> a.1.1 ≠ b.1.1) : (entsBy gl es).Pairwise fun a b => a.1.1 < b.1.1 := by
 have hle := entsBy_le (es := es) gl
 obtain ⟨l, hl⟩ : ∃ l, l = entsBy gl es := ⟨_, rfl⟩
 rw [<- hl] at hne hle ⊢
 clear hl
 induction l with
 | nil => exact List.Pairwise.nil
 | cons a l ih =>
  rw [List.pairwise_cons] at hle ⊢
  refine ⟨fun b hb => ?_, ih hle.2 (fun j a b h1 h2 => hne (j + 1) a b (by simpa using h1) (by simpa using h2))⟩
  match l, hle, hne, hb with
  | c :: l, hle, hne, hb =>
   have h1 := hne 0 a c rfl rfl
   have h2 := hle.1 c List.mem_cons_self
   rcases List.mem_cons.1 hb with rfl | hb
   ·omega
   ·have h3 := (List.pairwise_cons.1 hle.2).1 b hb
    omega
end
end Go.Proofs.YtaoinkjjmakhaaaGreatDoor
namespace Go.Proofs.YtaoinkjjmakhaaaGreatDoor
open Go.RowKit
set_option maxRecDepth 20000
set_option linter.unusedVariables false
structure RLdOk (n : Nat) (zs : Nat -> Int) (s : NS) (xs : List Rw) : Prop where
 rows : ∀ j r, xs[j]? = some r -> RowIn n zs xs j r
 ok : ∀ e ∈ entsTo n zs xs xs.length, 0 <= e.1.1 -> e.1.1 < s.g.length -> s.alive e.1.1 e.1.2 = true
 len : (entsBy s.g.length (entsTo n zs xs xs.length)).length = (entsTo n zs xs xs.length).length
 cnt : (entsTo n zs xs xs.length).length = s.cnt s.g.length
 ne : ∀ j a b, (entsBy s.g.length (entsTo n zs xs xs.length))[j]? = some a -> (entsBy s.g.length (entsTo n zs xs xs.length))[j + 1]? = some b -> a.1.1 ≠ b.1.1
theorem sub_of_len {α : Type} [DecidableEq α] : ∀ {a b : List α}, a.Nodup -> (∀ x ∈ a, x ∈ b) -> b.length <= a.length -> ∀ y ∈ b, y ∈ a
 | [], b, _, _, hl, y, hy => by
  have : b = [] := List.eq_nil_of_length_eq_zero (by simpa using hl)
  rw [this] at hy
  exact hy
 | x :: a, b, hn, hs, hl, y, hy => by
  by_cases e : y = x
  ·rw [e]; exact List.mem_cons_self
  ·have hx := hs x List.mem_cons_self
   refine List.mem_cons_of_mem _ (sub_of_len (b := b.erase x) (List.nodup_cons.1 hn).2 (fun z hz => ?_) ?_ y ((List.mem_erase_of_ne e).2 hy))
   ·have hzx : z ≠ x := fun e => (List.nodup_cons.1 hn).1 (e ▸ hz)
    exact (List.mem_erase_of_ne hzx).2 (hs z (List.mem_cons_of_mem _ hz))
   ·rw [List.length_erase_of_mem hx]
    rw [List.length_cons] at hl
    omega
theorem nodup_inj {α : Type} {l : List α} (h : l.Nodup) {i j : Nat} (hi : i < l.length) (hj : j < l.length) (e : l[i] = l[j]) : i = j := by
 rcases Nat.lt_trichotomy i j with h1 | h1 | h1
 ·exact absurd e (List.pairwise_iff_getElem.1 h i j hi hj h1)
 ·exact h1
 ·exact absurd e.symm (List.pairwise_iff_getElem.1 h j i hj hi h1)
theorem NS.alive_gen {s : NS} {i g : Int} (h : s.alive i g = true) : s.live i = true /\ s.g.getD i.toNat 0 = g := by
 unfold NS.alive at h
 simpa using h
section
variable {n : Nat} {zs : Nat -> Int} {s : NS} {xs : List Rw}
theorem rld_iff : RLdOk n zs s xs ↔ ∃ k, LdTo n zs s xs xs.length k /\ (namesTo xs xs.length).length = s.cnt s.g.length := by
 have hlen : (namesTo xs xs.length).length = (entsTo n zs xs xs.length).length := by rw [<- entsTo_ids (n := n) (zs := zs), List.length_map]
 constructor
 ·intro h
  have hin := entsBy_all.1 h.len
  have hal : ∀ id ∈ namesTo xs xs.length, s.alive id.1 id.2 = true := fun id hid => by
   rw [<- entsTo_ids (n := n) (zs := zs)] at hid
   obtain ⟨e, he, rfl⟩ := List.mem_map.1 hid
   exact h.ok e he (hin e he).1 (hin e he).2
  have hp : (entsBy s.g.length (entsTo n zs xs xs.length)).Perm (entsTo n zs xs xs.length) := by
   have := entsBy_perm (es := entsTo n zs xs xs.length) s.g.length
   rwa [List.filter_eq_self.2 (fun e he => by simpa using hin e he)] at this
  have hnd : (namesTo xs xs.length).Nodup := by
   rw [<- entsTo_ids (n := n) (zs := zs)]
   refine (hp.map (·.1)).nodup_iff.1 ?_
   exact List.pairwise_map.2 ((entsBy_up h.ne).imp fun h e => by rw [e] at h; omega)
  obtain ⟨k, hk⟩ := LdTo.make (n := n) (zs := zs) (s := s) (xs := xs) xs.length (Nat.le_refl _) (fun j r _ => h.rows j r) hnd hal
  exact ⟨k, hk, by rw [hlen]; exact h.cnt⟩
 ·rintro ⟨k, hk, hc⟩
  obtain ⟨h1, h2, h3⟩ := LdTo.names hk
  have hal : ∀ e ∈ entsTo n zs xs xs.length, s.alive e.1.1 e.1.2 = true := fun e he => h3 e.1 (by rw [<- entsTo_ids (n := n) (zs := zs)]; exact List.mem_map_of_mem he)
  have hin : ∀ e ∈ entsTo n zs xs xs.length, 0 <= e.1.1 /\ e.1.1 < s.g.length := fun e he => by
   have := NS.live_iff.1 (NS.alive_gen (hal e he)).1
   exact ⟨this.1, this.2.1⟩
  have hp : (entsBy s.g.length (entsTo n zs xs xs.length)).Perm (entsTo n zs xs xs.length) := by
   have := entsBy_perm (es := entsTo n zs xs xs.length) s.g.length
   rwa [List.filter_eq_self.2 (fun e he => by simpa using hin e he)] at this
  refine ⟨fun j r hr => LdTo.rows hk j r (List.getElem?_eq_some_iff.1 hr).1 hr, fun e he _ _ => hal e he, hp.length_eq, by rw [<- hlen]; exact hc, fun j a b ha hb e => ?_⟩
  have hnd : ((entsBy s.g.length (entsTo n zs xs xs.length)).map (·.1)).Nodup := (hp.map (·.1)).nodup_iff.2 (by rw [entsTo_ids]; exact h1)
  obtain ⟨hj, rfl⟩ := List.getElem?_eq_some_iff.1 ha
  obtain ⟨hj1, rfl⟩ := List.getElem?_eq_some_iff.1 hb
  have a1 := NS.alive_gen (hal _ (hp.subset (List.getElem_mem hj)))
  have b1 := NS.alive_gen (hal _ (hp.subset (List.getElem_mem hj1)))
  have hlt := List.pairwise_iff_getElem.1 hnd j (j + 1) (by simpa using hj) (by simpa using hj1) (Nat.lt_succ_self _)
  rw [List.getElem_map, List.getElem_map] at hlt
  exact hlt (Prod.ext e (by rw [<- a1.2, <- b1.2, e]))
end
section
variable {x : Fx} {s : NS} {xs : List Rw} {k : Ks}
theorem rowT_ok {n : Nat} {zs : Nat -> Int} {r : Rw} (h : RowFit n zs r) : (rowT n zs r).Ok := loaded_ok rfl h.2.2.1 h.2.2.2
theorem row_pok (hx : XR x) {r : Rw} (h : RowFit x.n (zsK x.ks) r) {e : En} (he : e ∈ (rowT x.n (zsK x.ks) r).rows) : POk (szX x.ks) e.2 := by
 have hR := (rowT_ok h).row e he
 have hk := keys_of hx h.1 hR
 refine ⟨?_, fun p hp => ?_⟩
 ·have := listZ_up r.1
  rw [<- hk] at this
  exact List.pairwise_map.1 this
 ·have h1 : (p.1, p.2.length) ∈ (Tb.new x.n (zsK x.ks) r.1).cs := by
   have h2 : e.2.map (fun p => (p.1, p.2.length)) = (Tb.new x.n (zsK x.ks) r.1).cs := hR
   rw [<- h2]
   exact List.mem_map_of_mem (f := fun p : Pt => (p.1, p.2.length)) hp
  rw [cs_of hx h.1] at h1
  obtain ⟨c, hc, hce⟩ := List.mem_map.1 h1
  injection hce with e1 e2
  subst e1
  obtain ⟨c0, c1, c2⟩ := mem_listZi.1 hc
  have hlt := full_lt hx h.1 c2
  have hn := hx.n
  have hs : szAt (szX x.ks) p.1 = some (zsK x.ks p.1.toNat).toNat := by rw [szX_at, if_pos ⟨c0, by omega⟩]
  rw [hs] at e2 ⊢
  rw [<- e2]
  rfl
theorem LdTo.sim (hx : XR x) (hs : s.Ok) (hr : ∀ r ∈ xs, r.1 < 18446744073709551616) (hk : LdTo x.n (zsK x.ks) s xs xs.length k) (hc : (namesTo xs xs.length).length = s.cnt s.g.length) : Sim x k ⟨s, entsBy s.g.length (entsTo x.n (zsK x.ks) xs xs.length)⟩ := by
 have hR := rld_iff.2 ⟨k, hk, hc⟩
 have hin := entsBy_all.1 hR.len
 have hup := entsBy_up hR.ne
 have hal : ∀ e ∈ entsTo x.n (zsK x.ks) xs xs.length, s.alive e.1.1 e.1.2 = true := fun e he => hR.ok e he (hin e he).1 (hin e he).2
 have I := LdTo.ldin hr hk
 have hnd := entsTo_nd hk
 refine ⟨LdTo.ns hk, ⟨hs, hup, fun e he => hal e (mem_entsBy.1 he).1, fun c hc => ?_, fun e he => ?_⟩, ?_⟩
 ·have hc' : s.live c = true := hc
  have hl := NS.live_iff.1 hc'
  have hb : c ∈ ((List.range s.g.length).filter fun (i : Nat) => s.live i).map Int.ofNat := List.mem_map.2 ⟨c.toNat, List.mem_filter.2 ⟨List.mem_range.2 (by omega), by rw [Int.toNat_of_nonneg hl.1]; exact hc'⟩, Int.toNat_of_nonneg hl.1⟩
  have hsub := sub_of_len (a := (entsBy s.g.length (entsTo x.n (zsK x.ks) xs xs.length)).map (·.1.1)) (List.pairwise_map.2 (hup.imp fun h e => by omega)) (fun c' hc' => ?_) (by
   rw [List.length_map, List.length_map, hR.len, hR.cnt]
   exact Nat.le_refl _) c hb
  ·obtain ⟨e, he, h⟩ := List.mem_map.1 hsub
   exact ⟨e, he, h⟩
  ·obtain ⟨e, he, rfl⟩ := List.mem_map.1 hc'
   have h1 := mem_entsBy.1 he
   exact List.mem_map.2 ⟨e.1.1.toNat, List.mem_filter.2 ⟨List.mem_range.2 (by omega), by rw [Int.toNat_of_nonneg h1.2.1]; exact (NS.alive_gen (hal e h1.1)).1⟩, Int.toNat_of_nonneg h1.2.1⟩
 ·have h1 := (mem_entsBy.1 he).1
  unfold entsTo at h1
  rw [List.take_length] at h1
  obtain ⟨l, hl, hel⟩ := List.mem_flatten.1 h1
  obtain ⟨r, hr', rfl⟩ := List.mem_map.1 hl
  obtain ⟨j, hj, hjr⟩ := List.getElem_of_mem hr'
  exact row_pok hx (hR.rows j r (by rw [List.getElem?_eq_getElem hj, hjr])).2.2 hel
 ·have : pmOf (entsBy s.g.length (entsTo x.n (zsK x.ks) xs xs.length)) = pmOf (entsTo x.n (zsK x.ks) xs xs.length) := by
   funext id
   refine opt_ext fun ps => ?_
   rw [pmOf_iff hup, pmN_iff hnd, mem_entsBy]
   exact ⟨fun h => h.1, fun h => ⟨h, hin _ h⟩⟩
  rw [this]
  exact I.ts
theorem flat_chunks : ∀ (m z : Nat) (l : List UInt8), l.length = m * z -> ((List.range m).map fun i => (l.drop (i * z)).take z).flatten = l
 | 0, z, l, h => by
  have : l = [] := List.eq_nil_of_length_eq_zero (by simpa using h)
  rw [this]
  rfl
 | m + 1, z, l, h => by
  rw [List.range_succ_eq_map, List.map_cons, List.flatten_cons, List.map_map]
  rw [Nat.succ_mul] at h
  have := flat_chunks m z (l.drop z) (by rw [List.length_drop]; omega)
  rw [Nat.zero_mul, List.drop_zero]
  have e : ((List.range m).map ((fun i => (l.drop (i * z)).take z) ∘ Nat.succ)) = (List.range m).map fun i => ((l.drop z).drop (i * z)).take z := List.map_congr_left fun i _ => by
   simp only [Function.comp_apply, List.drop_drop]
   rw [Nat.succ_mul, Nat.add_comm]
  rw [e, this, List.take_append_drop]
theorem rowT_colsB {n : Nat} {zs : Nat -> Int} {r : Rw} (h : RowFit n zs r) : (rowT n zs r).colsB = r.2.2 := by
 apply List.ext_getElem (by rw [Tb.colsB_len]; exact h.2.1.symm)
 intro j h1 h2
 have hj : j < (rowT n zs r).cs.length := by rw [Tb.colsB_len] at h1; exact h1
 have hj' : j < (Tb.new n zs r.1).cs.length := hj
 have e := Tb.colsB_at (rowT n zs r) hj
 rw [List.getElem?_eq_getElem h1] at e
 injection e with e
 rw [e]
 unfold Tb.co Co.bytes rowT ldRows
 simp only [List.map_map]
 have hf := h.2.2.2 j hj'
 have hg : r.2.2.getD j [] = r.2.2[j] := by simp [List.getD, List.getElem?_eq_getElem h2]
 rw [hg] at hf
 rw [<- flat_chunks r.2.1.length _ r.2.2[j] hf]
 congr 1
 refine List.map_congr_left fun i _ => ?_
 simp only [Function.comp_apply, ldRow_getD (Tb.new n zs r.1).cs r.2.2 i _ j hj', hg]
theorem LdTo.rws (hr : ∀ r ∈ xs, r.1 < 18446744073709551616) (hk : LdTo x.n (zsK x.ks) s xs xs.length k) {ns : List Nat} (hn : ns.Nodup) (hm : ∀ n, n ∈ ns ↔ (k.tb n).isSome = true) (hp : ns.Pairwise fun a b => k.sg a <= k.sg b) : ns.map k.rw = xs := by
 have I := LdTo.ldin hr hk
 have hrw : ∀ m i r, xs[i]? = some r -> k.S[m]? = some r.1 -> k.tb m = some (rowT x.n (zsK x.ks) r) -> k.rw m = r := fun m i r hi hS ht => by
  have hf := (LdTo.rows hk i r (List.getElem?_eq_some_iff.1 hi).1 hi).2.2
  unfold Ks.rw Ks.sg
  rw [ht, hS]
  simp only [Option.getD_some, rowT_colsB hf]
  show (r.1, (rowT x.n (zsK x.ks) r).ids, r.2.2) = r
  rw [show (rowT x.n (zsK x.ks) r).ids = r.2.1 from rowT_ids r]
 have hone : ∀ m ∈ ns, ∃ i r, xs[i]? = some r /\ k.S[m]? = some r.1 /\ k.rw m = r := fun m h => by
  obtain ⟨t, ht⟩ := Option.isSome_iff_exists.1 ((hm m).1 h)
  obtain ⟨i, r, _, a2, a3, rfl⟩ := I.tb m t ht
  exact ⟨i, r, a2, a3, hrw m i r a2 a3 ht⟩
 have hlt : ∀ i j (hi : i < ns.length) (hj : j < ns.length), i < j -> k.sg ns[i] < k.sg ns[j] := fun i j hi hj hij => by
  have h1 := List.pairwise_iff_getElem.1 hp i j hi hj hij
  have h2 := List.pairwise_iff_getElem.1 hn i j hi hj hij
  refine Nat.lt_of_le_of_ne h1 fun e => h2 ?_
  obtain ⟨_, r, _, a3, _⟩ := hone _ (List.getElem_mem hi)
  obtain ⟨_, r', _, b3, _⟩ := hone _ (List.getElem_mem hj)
  unfold Ks.sg at e
  rw [a3, b3] at e
  simp only [Option.getD_some] at e
  obtain ⟨la, ea⟩ := List.getElem?_eq_some_iff.1 a3
  obtain ⟨lb, eb⟩ := List.getElem?_eq_some_iff.1 b3
  exact nodup_inj I.ts.S.nd la lb (by rw [ea, eb, e])
 refine key_eq (f := fun r : Rw => (r.1 : Int)) ?_ ?_ fun r => ?_
 ·refine List.pairwise_map.2 (List.pairwise_iff_getElem.2 fun i j hi hj hij => ?_)
  obtain ⟨_, r, _, a3, a4⟩ := hone _ (List.getElem_mem hi)
  obtain ⟨_, r', _, b3, b4⟩ := hone _ (List.getElem_mem hj)
  have h1 := hlt i j hi hj hij
  unfold Ks.sg at h1
  rw [a3, b3] at h1
  simp only [Option.getD_some] at h1
  rw [a4, b4]
  omega
 ·refine List.pairwise_iff_getElem.2 fun i j hi hj hij => ?_
  have := I.up i _ j _ hij hj (List.getElem?_eq_getElem hi) (List.getElem?_eq_getElem hj)
  omega
 ·rw [List.mem_map]
  constructor
  ·rintro ⟨m, h1, rfl⟩
   obtain ⟨i, r, a2, _, a4⟩ := hone m h1
   rw [a4]
   exact List.mem_of_getElem? a2
  ·intro h
   obtain ⟨i, hi, rfl⟩ := List.getElem_of_mem h
   obtain ⟨m, a1, a2⟩ := I.at_ i _ hi (List.getElem?_eq_getElem hi)
   exact ⟨m, (hm m).2 (by rw [a2]; rfl), hrw m i _ (List.getElem?_eq_getElem hi) a1 a2⟩
end
end Go.Proofs.YtaoinkjjmakhaaaGreatDoor
namespace Go.Proofs.YtaoinkjjmakhaaaGreatDoor
open Go.RowKit
set_option maxRecDepth 20000
section
variable {α : Type} {E : (Nat -> Prop) -> World -> α -> List Value -> Prop} {sz : Nat} {K K' : Nat -> Prop} {w w' : World} {A : Option Addr} {n : Nat} {xs : List α}
end
structure Rst where
 GA : Option Addr
 gn : Nat
 gc : Nat
 FA : Option Addr
 fn : Nat
 fc : Nat
 EA : Option Addr
 en : Nat
 ec : Nat
section
variable {K K' : Nat -> Prop} {w w' : World} {d : Rst} {s : Es}
end
theorem idsT6 : RT Tryz.prog 123 4 := ⟨⟨_, Tryz.underlying123, rfl⟩, by kernel_rfl⟩
end Go.Proofs.YtaoinkjjmakhaaaGreatDoor
namespace Go.Proofs.YtaoinkjjmakhaaaGreatDoor
open Go.RowKit
set_option maxRecDepth 20000
end Go.Proofs.YtaoinkjjmakhaaaGreatDoor
namespace Go.Proofs.YtaoinkjjmakhaaaGreatDoor
open Go.RowKit
set_option maxRecDepth 20000
end Go.Proofs.YtaoinkjjmakhaaaGreatDoor
namespace Go.Proofs.YtaoinkjjmakhaaaGreatDoor
open Go.RowKit
section
variable {K : Nat -> Prop} {w : World} {d : Rv} {s : NS}
theorem RAt_neg (h : RS K w d s) (hf : s.fr.length <= 1000000) (k : Int) (hk : k < 0) :
  Calls Tryz.prog 55 #[d.v, .int .i64 k] w fun e w' => e = .returned (.tuple #[idv (0, 0), .bool false]) /\ Below w.heap.size w w' := by
 obtain ⟨E, L, GA, gn, gc, FA, fn, fc⟩ := d
 obtain ⟨hE, hL, hgn, hfn, hg, hfr, hgc, hfc⟩ := h
 simp only at hE hL hgn hfn hg hfr hgc hfc
 subst hE hL hgn hfn
 have hd0 : decide (k < 0) = true := decide_eq_true hk
 show Calls _ _ #[.agg #[.int .i64 s.E, .int .i64 s.L, .slice GA s.g.length gc, .slice FA s.fr.length fc], .int .i64 _] w _
 obtain ⟨w1, hw1⟩ : ∃ w1, w1 = (w.alloc (.cells #[.int .i64 s.E, .int .i64 s.L, .slice GA s.g.length gc, .slice FA s.fr.length fc] 123)).alloc (.cells #[.int .i64 0, .int .i64 0] 32) := ⟨_, rfl⟩
 have hb : Below w.heap.size w w1 := by rw [hw1]; exact ((Below.refl _ _).alloc (Nat.le_refl _) _).alloc (by simp) _
 have hS1 : Rec 123 w1 w.heap.size #[.int .i64 s.E, .int .i64 s.L, .slice GA s.g.length gc, .slice FA s.fr.length fc] := by rw [hw1]; exact (Rec.new w _ _).under ((Below.refl _ _).alloc (Nat.le_refl _) _)
 have hR1 : Rec 32 w1 (w.heap.size + 1) #[.int .i64 0, .int .i64 0] := by
  have := Rec.new (w.alloc (.cells #[.int .i64 s.E, .int .i64 s.L, .slice GA s.g.length gc, .slice FA s.fr.length fc] 123)) 32 #[.int .i64 0, .int .i64 0]
  rw [World.size_alloc] at this
  rw [hw1]; exact this
 have c1 : w1.cell? ⟨w.heap.size, 1, none⟩ = some (.int .i64 s.L) := hS1.at_ 1
 have c2 : w1.cell? ⟨w.heap.size, 2, none⟩ = some (.slice GA s.g.length gc) := hS1.at_ 2
 have c3 : w1.cell? ⟨w.heap.size, 3, none⟩ = some (.slice FA s.fr.length fc) := hS1.at_ 3
 have HRN : ∀ n, Rec 32 (w1.drewN n) (w.heap.size + 1) #[.int .i64 0, .int .i64 0] := fun n => hR1.under (below_drewNi _ _)
 have CH : ∀ n, Calls Tryz.prog 109 #[.slice FA s.fr.length fc, .int .i64 k] (w1.drewN n) fun e w' => e = .returned (.bool (decide (k ∈ s.fr))) /\ w' = w1.drewN n := fun n => IHas_any FA _ fc s.fr _ _ ((hfr.1.below hb).below (below_drewNi _ _)) hf
 have HRN := hi_ HRN
 have HB := hi_ hb
 have CK := hi_ CH
 have HR := hi_ hR1
 clear hb CH hR1 hS1 hg hfr
 go_enter Tryz.func55, Tryz.ntmps55
 go_wp2_with (first | (rw [<- hw1]; clear hw1))
 go_quiet ((go_at_call 109; exact Calls.quiet_of_same (CK.out _)))
 go_wp2_with (with_reducible refine wpList_stP (x1 := 0) (y1 := 0) rfl (.tmp 4) (.tmp 31) rfl rfl rfl (HRN.out _) ?_; intro w5 hR5 hF5)
 refine bodyPost_ret (res_ct rfl rfl (hR5.load idT rfl)) rfl ?_
 exact ⟨rfl, (HB.out.trans ((below_drewNi _ _).mono HB.out.size)).trans (hF5.toBelow (fun x hx => by rw [show x = w.heap.size + 1 from hx]; omega) (by have := HB.out.size; simpa using this))⟩
theorem RAt_big (h : RS K w d s) (hf : s.fr.length <= 1000000) (k : Int) (hk : 0 <= k) (hk2 : (s.g.length : Int) <= k) :
  Calls Tryz.prog 55 #[d.v, .int .i64 k] w fun e w' => e = .returned (.tuple #[idv (0, 0), .bool false]) /\ Below w.heap.size w w' := by
 obtain ⟨E, L, GA, gn, gc, FA, fn, fc⟩ := d
 obtain ⟨hE, hL, hgn, hfn, hg, hfr, hgc, hfc⟩ := h
 simp only at hE hL hgn hfn hg hfr hgc hfc
 subst hE hL hgn hfn
 obtain ⟨j, rfl⟩ : ∃ j : Nat, k = (j : Int) := ⟨k.toNat, by omega⟩
 have hd0 : decide ((j : Int) < 0) = false := decide_eq_false (by omega)
 have hd1 : decide ((s.g.length : Int) <= (j : Int)) = true := decide_eq_true hk2
 have hd1n : decide (s.g.length <= j) = true := decide_eq_true (by omega)
 show Calls _ _ #[.agg #[.int .i64 s.E, .int .i64 s.L, .slice GA s.g.length gc, .slice FA s.fr.length fc], .int .i64 _] w _
 obtain ⟨w1, hw1⟩ : ∃ w1, w1 = (w.alloc (.cells #[.int .i64 s.E, .int .i64 s.L, .slice GA s.g.length gc, .slice FA s.fr.length fc] 123)).alloc (.cells #[.int .i64 0, .int .i64 0] 32) := ⟨_, rfl⟩
 have hb : Below w.heap.size w w1 := by rw [hw1]; exact ((Below.refl _ _).alloc (Nat.le_refl _) _).alloc (by simp) _
 have hS1 : Rec 123 w1 w.heap.size #[.int .i64 s.E, .int .i64 s.L, .slice GA s.g.length gc, .slice FA s.fr.length fc] := by rw [hw1]; exact (Rec.new w _ _).under ((Below.refl _ _).alloc (Nat.le_refl _) _)
 have hR1 : Rec 32 w1 (w.heap.size + 1) #[.int .i64 0, .int .i64 0] := by
  have := Rec.new (w.alloc (.cells #[.int .i64 s.E, .int .i64 s.L, .slice GA s.g.length gc, .slice FA s.fr.length fc] 123)) 32 #[.int .i64 0, .int .i64 0]
  rw [World.size_alloc] at this
  rw [hw1]; exact this
 have c1 : w1.cell? ⟨w.heap.size, 1, none⟩ = some (.int .i64 s.L) := hS1.at_ 1
 have c2 : w1.cell? ⟨w.heap.size, 2, none⟩ = some (.slice GA s.g.length gc) := hS1.at_ 2
 have c3 : w1.cell? ⟨w.heap.size, 3, none⟩ = some (.slice FA s.fr.length fc) := hS1.at_ 3
 have HRN : ∀ n, Rec 32 (w1.drewN n) (w.heap.size + 1) #[.int .i64 0, .int .i64 0] := fun n => hR1.under (below_drewNi _ _)
 have CH : ∀ n, Calls Tryz.prog 109 #[.slice FA s.fr.length fc, .int .i64 (j : Int)] (w1.drewN n) fun e w' => e = .returned (.bool (decide ((j : Int) ∈ s.fr))) /\ w' = w1.drewN n := fun n => IHas_any FA _ fc s.fr _ _ ((hfr.1.below hb).below (below_drewNi _ _)) hf
 have HRN := hi_ HRN
 have HB := hi_ hb
 have CK := hi_ CH
 have HR := hi_ hR1
 clear hb CH hR1 hS1 hg hfr
 go_enter Tryz.func55, Tryz.ntmps55
 go_wp2_with (first | (rw [<- hw1]; clear hw1))
 go_quiet ((go_at_call 109; exact Calls.quiet_of_same (CK.out _)))
 go_wp2_with (with_reducible refine wpList_stP (x1 := 0) (y1 := 0) rfl (.tmp 4) (.tmp 31) rfl rfl rfl (HRN.out _) ?_; intro w5 hR5 hF5)
 refine bodyPost_ret (res_ct rfl rfl (hR5.load idT rfl)) rfl ?_
 exact ⟨rfl, (HB.out.trans ((below_drewNi _ _).mono HB.out.size)).trans (hF5.toBelow (fun x hx => by rw [show x = w.heap.size + 1 from hx]; omega) (by have := HB.out.size; simpa using this))⟩
theorem RAt_free (h : RS K w d s) (hf : s.fr.length <= 1000000) (k : Int) (hk : 0 <= k) (hk2 : k < s.g.length) (hm : k ∈ s.fr) :
  Calls Tryz.prog 55 #[d.v, .int .i64 k] w fun e w' => e = .returned (.tuple #[idv (0, 0), .bool false]) /\ Below w.heap.size w w' := by
 obtain ⟨E, L, GA, gn, gc, FA, fn, fc⟩ := d
 obtain ⟨hE, hL, hgn, hfn, hg, hfr, hgc, hfc⟩ := h
 simp only at hE hL hgn hfn hg hfr hgc hfc
 subst hE hL hgn hfn
 obtain ⟨j, rfl⟩ : ∃ j : Nat, k = (j : Int) := ⟨k.toNat, by omega⟩
 have hj : j < s.g.length := by omega
 have hd0 : decide ((j : Int) < 0) = false := decide_eq_false (by omega)
 have hd1 : decide ((s.g.length : Int) <= (j : Int)) = false := decide_eq_false (by omega)
 have hd1n : decide (s.g.length <= j) = false := decide_eq_false (by omega)
 show Calls _ _ #[.agg #[.int .i64 s.E, .int .i64 s.L, .slice GA s.g.length gc, .slice FA s.fr.length fc], .int .i64 _] w _
 obtain ⟨w1, hw1⟩ : ∃ w1, w1 = (w.alloc (.cells #[.int .i64 s.E, .int .i64 s.L, .slice GA s.g.length gc, .slice FA s.fr.length fc] 123)).alloc (.cells #[.int .i64 0, .int .i64 0] 32) := ⟨_, rfl⟩
 have hb : Below w.heap.size w w1 := by rw [hw1]; exact ((Below.refl _ _).alloc (Nat.le_refl _) _).alloc (by simp) _
 have hS1 : Rec 123 w1 w.heap.size #[.int .i64 s.E, .int .i64 s.L, .slice GA s.g.length gc, .slice FA s.fr.length fc] := by rw [hw1]; exact (Rec.new w _ _).under ((Below.refl _ _).alloc (Nat.le_refl _) _)
 have hR1 : Rec 32 w1 (w.heap.size + 1) #[.int .i64 0, .int .i64 0] := by
  have := Rec.new (w.alloc (.cells #[.int .i64 s.E, .int .i64 s.L, .slice GA s.g.length gc, .slice FA s.fr.length fc] 123)) 32 #[.int .i64 0, .int .i64 0]
  rw [World.size_alloc] at this
  rw [hw1]; exact this
 have c1 : w1.cell? ⟨w.heap.size, 1, none⟩ = some (.int .i64 s.L) := hS1.at_ 1
 have c2 : w1.cell? ⟨w.heap.size, 2, none⟩ = some (.slice GA s.g.length gc) := hS1.at_ 2
 have c3 : w1.cell? ⟨w.heap.size, 3, none⟩ = some (.slice FA s.fr.length fc) := hS1.at_ 3
 have HRN : ∀ n, Rec 32 (w1.drewN n) (w.heap.size + 1) #[.int .i64 0, .int .i64 0] := fun n => hR1.under (below_drewNi _ _)
 have CH : ∀ n, Calls Tryz.prog 109 #[.slice FA s.fr.length fc, .int .i64 (j : Int)] (w1.drewN n) fun e w' => e = .returned (.bool (decide ((j : Int) ∈ s.fr))) /\ w' = w1.drewN n := fun n => IHas_any FA _ fc s.fr _ _ ((hfr.1.below hb).below (below_drewNi _ _)) hf
 have CH : ∀ n, Calls Tryz.prog 109 #[.slice FA s.fr.length fc, .int .i64 (j : Int)] (w1.drewN n) fun e w' => e = .returned (.bool true) /\ w' = w1.drewN n := by simpa only [decide_eq_true hm] using CH
 clear hm
 have HRN := hi_ HRN
 have HB := hi_ hb
 have CK := hi_ CH
 have HR := hi_ hR1
 clear hb CH hR1 hS1 hg hfr
 go_enter Tryz.func55, Tryz.ntmps55
 go_wp2_with (first | (rw [<- hw1]; clear hw1))
 go_quiet ((go_at_call 109; exact Calls.quiet_of_same (CK.out _)))
 go_wp2_with (with_reducible refine wpList_stP (x1 := 0) (y1 := 0) rfl (.tmp 4) (.tmp 31) rfl rfl rfl (HRN.out _) ?_; intro w5 hR5 hF5)
 refine bodyPost_ret (res_ct rfl rfl (hR5.load idT rfl)) rfl ?_
 exact ⟨rfl, (HB.out.trans ((below_drewNi _ _).mono HB.out.size)).trans (hF5.toBelow (fun x hx => by rw [show x = w.heap.size + 1 from hx]; omega) (by have := HB.out.size; simpa using this))⟩
theorem RAt_old (h : RS K w d s) (hf : s.fr.length <= 1000000) (k : Int) (hk : 0 <= k) (hk2 : k < s.g.length) (hm : k ∉ s.fr) (z : Int) (hz : s.g.getD k.toNat 0 = z) (hz2 : s.L <= z) :
  Calls Tryz.prog 55 #[d.v, .int .i64 k] w fun e w' => e = .returned (.tuple #[idv (0, 0), .bool false]) /\ Below w.heap.size w w' := by
 obtain ⟨E, L, GA, gn, gc, FA, fn, fc⟩ := d
 obtain ⟨hE, hL, hgn, hfn, hg, hfr, hgc, hfc⟩ := h
 simp only at hE hL hgn hfn hg hfr hgc hfc
 subst hE hL hgn hfn
 obtain ⟨j, rfl⟩ : ∃ j : Nat, k = (j : Int) := ⟨k.toNat, by omega⟩
 rw [Int.toNat_natCast] at hz
 have hj : j < s.g.length := by omega
 have hd0 : decide ((j : Int) < 0) = false := decide_eq_false (by omega)
 have hd1 : decide ((s.g.length : Int) <= (j : Int)) = false := decide_eq_false (by omega)
 have hd1n : decide (s.g.length <= j) = false := decide_eq_false (by omega)
 have hd2 : decide (s.L <= z) = true := decide_eq_true hz2
 show Calls _ _ #[.agg #[.int .i64 s.E, .int .i64 s.L, .slice GA s.g.length gc, .slice FA s.fr.length fc], .int .i64 _] w _
 obtain ⟨w1, hw1⟩ : ∃ w1, w1 = (w.alloc (.cells #[.int .i64 s.E, .int .i64 s.L, .slice GA s.g.length gc, .slice FA s.fr.length fc] 123)).alloc (.cells #[.int .i64 0, .int .i64 0] 32) := ⟨_, rfl⟩
 have hb : Below w.heap.size w w1 := by rw [hw1]; exact ((Below.refl _ _).alloc (Nat.le_refl _) _).alloc (by simp) _
 have hS1 : Rec 123 w1 w.heap.size #[.int .i64 s.E, .int .i64 s.L, .slice GA s.g.length gc, .slice FA s.fr.length fc] := by rw [hw1]; exact (Rec.new w _ _).under ((Below.refl _ _).alloc (Nat.le_refl _) _)
 have hR1 : Rec 32 w1 (w.heap.size + 1) #[.int .i64 0, .int .i64 0] := by
  have := Rec.new (w.alloc (.cells #[.int .i64 s.E, .int .i64 s.L, .slice GA s.g.length gc, .slice FA s.fr.length fc] 123)) 32 #[.int .i64 0, .int .i64 0]
  rw [World.size_alloc] at this
  rw [hw1]; exact this
 have c1 : w1.cell? ⟨w.heap.size, 1, none⟩ = some (.int .i64 s.L) := hS1.at_ 1
 have c2 : w1.cell? ⟨w.heap.size, 2, none⟩ = some (.slice GA s.g.length gc) := hS1.at_ 2
 have c3 : w1.cell? ⟨w.heap.size, 3, none⟩ = some (.slice FA s.fr.length fc) := hS1.at_ 3
 have HRN : ∀ n, Rec 32 (w1.drewN n) (w.heap.size + 1) #[.int .i64 0, .int .i64 0] := fun n => hR1.under (below_drewNi _ _)
 have CH : ∀ n, Calls Tryz.prog 109 #[.slice FA s.fr.length fc, .int .i64 (j : Int)] (w1.drewN n) fun e w' => e = .returned (.bool (decide ((j : Int) ∈ s.fr))) /\ w' = w1.drewN n := fun n => IHas_any FA _ fc s.fr _ _ ((hfr.1.below hb).below (below_drewNi _ _)) hf
 have CH : ∀ n, Calls Tryz.prog 109 #[.slice FA s.fr.length fc, .int .i64 (j : Int)] (w1.drewN n) fun e w' => e = .returned (.bool false) /\ w' = w1.drewN n := by simpa only [decide_eq_false hm] using CH
 obtain ⟨b, o, hGA, _, hc⟩ := (hg.1.below hb).2 (by omega)
 have k0 := hc j hj
 subst hGA
 rw [hz] at k0
 clear hm hz hc
 have HRN := hi_ HRN
 have HB := hi_ hb
 have CK := hi_ CH
 have HR := hi_ hR1
 clear hb CH hR1 hS1 hg hfr
 go_enter Tryz.func55, Tryz.ntmps55
 go_wp2_with (first | (rw [<- hw1]; clear hw1))
 go_quiet ((go_at_call 109; exact Calls.quiet_of_same (CK.out _)))
 go_wp2_with (with_reducible refine wpList_stP (x1 := 0) (y1 := 0) rfl (.tmp 4) (.tmp 31) rfl rfl rfl (HRN.out _) ?_; intro w5 hR5 hF5)
 refine bodyPost_ret (res_ct rfl rfl (hR5.load idT rfl)) rfl ?_
 exact ⟨rfl, (HB.out.trans ((below_drewNi _ _).mono HB.out.size)).trans (hF5.toBelow (fun x hx => by rw [show x = w.heap.size + 1 from hx]; omega) (by have := HB.out.size; simpa using this))⟩
theorem RAt_live (h : RS K w d s) (hf : s.fr.length <= 1000000) (k : Int) (hk : 0 <= k) (hk2 : k < s.g.length) (hm : k ∉ s.fr) (z : Int) (hz : s.g.getD k.toNat 0 = z) (hz2 : z < s.L) :
  Calls Tryz.prog 55 #[d.v, .int .i64 k] w fun e w' => e = .returned (.tuple #[idv (k, z), .bool true]) /\ Below w.heap.size w w' := by
 obtain ⟨E, L, GA, gn, gc, FA, fn, fc⟩ := d
 obtain ⟨hE, hL, hgn, hfn, hg, hfr, hgc, hfc⟩ := h
 simp only at hE hL hgn hfn hg hfr hgc hfc
 subst hE hL hgn hfn
 obtain ⟨j, rfl⟩ : ∃ j : Nat, k = (j : Int) := ⟨k.toNat, by omega⟩
 rw [Int.toNat_natCast] at hz
 have hj : j < s.g.length := by omega
 have hd0 : decide ((j : Int) < 0) = false := decide_eq_false (by omega)
 have hd1 : decide ((s.g.length : Int) <= (j : Int)) = false := decide_eq_false (by omega)
 have hd1n : decide (s.g.length <= j) = false := decide_eq_false (by omega)
 have hd2 : decide (s.L <= z) = false := decide_eq_false (by omega)
 show Calls _ _ #[.agg #[.int .i64 s.E, .int .i64 s.L, .slice GA s.g.length gc, .slice FA s.fr.length fc], .int .i64 _] w _
 obtain ⟨w1, hw1⟩ : ∃ w1, w1 = (w.alloc (.cells #[.int .i64 s.E, .int .i64 s.L, .slice GA s.g.length gc, .slice FA s.fr.length fc] 123)).alloc (.cells #[.int .i64 0, .int .i64 0] 32) := ⟨_, rfl⟩
 have hb : Below w.heap.size w w1 := by rw [hw1]; exact ((Below.refl _ _).alloc (Nat.le_refl _) _).alloc (by simp) _
 have hS1 : Rec 123 w1 w.heap.size #[.int .i64 s.E, .int .i64 s.L, .slice GA s.g.length gc, .slice FA s.fr.length fc] := by rw [hw1]; exact (Rec.new w _ _).under ((Below.refl _ _).alloc (Nat.le_refl _) _)
 have hR1 : Rec 32 w1 (w.heap.size + 1) #[.int .i64 0, .int .i64 0] := by
  have := Rec.new (w.alloc (.cells #[.int .i64 s.E, .int .i64 s.L, .slice GA s.g.length gc, .slice FA s.fr.length fc] 123)) 32 #[.int .i64 0, .int .i64 0]
  rw [World.size_alloc] at this
  rw [hw1]; exact this
 have c1 : w1.cell? ⟨w.heap.size, 1, none⟩ = some (.int .i64 s.L) := hS1.at_ 1
 have c2 : w1.cell? ⟨w.heap.size, 2, none⟩ = some (.slice GA s.g.length gc) := hS1.at_ 2
 have c3 : w1.cell? ⟨w.heap.size, 3, none⟩ = some (.slice FA s.fr.length fc) := hS1.at_ 3
 have HRN : ∀ n, Rec 32 (w1.drewN n) (w.heap.size + 1) #[.int .i64 0, .int .i64 0] := fun n => hR1.under (below_drewNi _ _)
 have CH : ∀ n, Calls Tryz.prog 109 #[.slice FA s.fr.length fc, .int .i64 (j : Int)] (w1.drewN n) fun e w' => e = .returned (.bool (decide ((j : Int) ∈ s.fr))) /\ w' = w1.drewN n := fun n => IHas_any FA _ fc s.fr _ _ ((hfr.1.below hb).below (below_drewNi _ _)) hf
 have CH : ∀ n, Calls Tryz.prog 109 #[.slice FA s.fr.length fc, .int .i64 (j : Int)] (w1.drewN n) fun e w' => e = .returned (.bool false) /\ w' = w1.drewN n := by simpa only [decide_eq_false hm] using CH
 obtain ⟨b, o, hGA, _, hc⟩ := (hg.1.below hb).2 (by omega)
 have k0 := hc j hj
 subst hGA
 rw [hz] at k0
 clear hm hz hc
 have HRN := hi_ HRN
 have HB := hi_ hb
 have CK := hi_ CH
 have HR := hi_ hR1
 clear hb CH hR1 hS1 hg hfr
 go_enter Tryz.func55, Tryz.ntmps55
 go_wp2_with (first | (rw [<- hw1]; clear hw1))
 go_quiet ((go_at_call 109; exact Calls.quiet_of_same (CK.out _)))
 go_wp2_with (with_reducible refine wpList_stP (x1 := j) (y1 := z) rfl (.tmp 4) (.tmp 38) rfl rfl rfl (HRN.out _) ?_; intro w5 hR5 hF5)
 refine bodyPost_ret (res_ct rfl rfl (hR5.load idT rfl)) rfl ?_
 exact ⟨rfl, (HB.out.trans ((below_drewNi _ _).mono HB.out.size)).trans (hF5.toBelow (fun x hx => by rw [show x = w.heap.size + 1 from hx]; omega) (by have := HB.out.size; simpa using this))⟩
theorem RAt_any (h : RS K w d s) (hf : s.fr.length <= 1000000) (k : Int) :
  Calls Tryz.prog 55 #[d.v, .int .i64 k] w fun e w' => e = .returned (.tuple #[idv (s.at_ k).1, .bool (s.at_ k).2]) /\ Below w.heap.size w w' := by
 by_cases hl : s.live k = true
 ·obtain ⟨q0, q1, q2, q3⟩ := NS.live_iff.1 hl
  have := RAt_live h hf k q0 q1 q2 _ rfl q3
  unfold NS.at_
  rw [if_pos hl]
  exact this
 ·have ha : s.at_ k = ((0, 0), false) := by unfold NS.at_; rw [if_neg hl]
  rw [ha]
  by_cases q0 : 0 <= k
  ·by_cases q1 : k < s.g.length
   ·by_cases q2 : k ∈ s.fr
    ·exact RAt_free h hf k q0 q1 q2
    ·by_cases q3 : s.g.getD k.toNat 0 < s.L
     ·exact absurd (NS.live_iff.2 ⟨q0, q1, q2, q3⟩) hl
     ·exact RAt_old h hf k q0 q1 q2 _ rfl (by omega)
   ·exact RAt_big h hf k q0 (by omega)
  ·exact RAt_neg h hf k (by omega)
end
end Go.Proofs.YtaoinkjjmakhaaaGreatDoor
namespace Go.Proofs.YtaoinkjjmakhaaaGreatDoor
open Go.RowKit
def RLdSaid (w : World) (s : NS) (d : Rv) (e : Ending) (w' : World) : Prop :=
 (LdOk s /\ e = .returned (.tuple #[d.v, .int .i64 0]) /\ Below w.heap.size w w') \/ (¬ LdOk s /\ e = .returned (.tuple #[Rv.v ⟨0, 0, none, 0, 0, none, 0, 0⟩, .int .i64 11]) /\ Below w.heap.size w w')
theorem IRd.pre {w : World} {A : Option Addr} {n : Nat} {zs : List Int} (h : IRd w A n zs) {i : Nat} (hi : i <= n) : IRd w A i (zs.take i) :=
 ⟨by rw [List.length_take, h.1]; omega, fun hp => by
  obtain ⟨b, o, e, hlt, hc⟩ := h.2 (by omega)
  refine ⟨b, o, e, hlt, fun j hj => ?_⟩
  have hj' : j < i := by rw [List.length_take] at hj; omega
  rw [hc j (by rw [h.1]; omega)]
  rw [List.getD_eq_getElem?_getD, List.getD_eq_getElem?_getD, List.getElem?_take, if_pos hj']⟩
set_option maxRecDepth 20000 in
set_option maxHeartbeats 8000000 in
theorem RLoad_any (nE nG : Int) (GA : Option Addr) (gn gc : Nat) (gs : List Int) (FA : Option Addr) (fn fc : Nat) (fs : List Int) (w : World) (hg : IRd w GA gn gs) (hf : IRd w FA fn fs) (hgn : gn <= 1100) (hfn : fn <= 100) (hfc : fn <= fc) :
  Calls Tryz.prog 53 #[.int .i64 nE, .int .i64 nG, .slice GA gn gc, .slice FA fn fc] w (RLdSaid w ⟨(nears nE 1024).toNat, nears nG 1073741824, gs, fs⟩ ⟨nears nE 1024, nears nG 1073741824, GA, gn, gc, FA, fn, fc⟩) := by
 have hbE := nears_bounds nE 1024 (by decide)
 have hbL := nears_bounds nG 1073741824 (by decide)
 obtain ⟨E, hE⟩ : ∃ E : Nat, nears nE 1024 = (E : Int) := ⟨(nears nE 1024).toNat, by omega⟩
 obtain ⟨L, hL⟩ : ∃ L, nears nG 1073741824 = L := ⟨_, rfl⟩
 have CN : ∀ W, Calls Tryz.prog 108 #[.int .i64 nE, .int .i64 nG] W fun e w' => e = .returned (.agg #[.int .i64 E, .int .i64 L, .slice none 0 0, .slice none 0 0]) /\ Below W.heap.size W w' := fun W => by
  have := RNew_any nE nG W
  rw [hE, hL] at this
  exact this
 rw [hE, hL, Int.toNat_natCast]
 rw [hE] at hbE
 rw [hL] at hbL
 have CN' := hi_ CN
 obtain ⟨w1, hw1⟩ : ∃ w1, w1 = w.alloc (.cells #[.int .i64 0, .int .i64 0, .slice none 0 0, .slice none 0 0] 123) := ⟨_, rfl⟩
 have hb1 : Below w.heap.size w w1 := by rw [hw1]; exact (Below.refl _ _).alloc (Nat.le_refl _) _
 have hT1 : Rec 123 w1 w.heap.size #[.int .i64 0, .int .i64 0, .slice none 0 0, .slice none 0 0] := by rw [hw1]; exact Rec.new _ _ _
 have HT1 := hi_ hT1
 have HB1 := hi_ hb1
 have HG := hi_ hg
 have HF := hi_ hf
 clear CN hE hL hg hf hb1 hT1
 go_enter Tryz.func53, Tryz.ntmps53
 go_wp2_with (first | (rw [<- hw1]; clear hw1))
 refine (CN'.out w1).mono ?_
 rintro e w2 ⟨rfl, hB2⟩
 obtain ⟨w3, hw3⟩ : ∃ w3, w3 = w2.alloc (.cells #[.int .i64 E, .int .i64 L, .slice none 0 0, .slice none 0 0] 123) := ⟨_, rfl⟩
 have b3 : Below w2.heap.size w2 w3 := by rw [hw3]; exact (Below.refl _ _).alloc (Nat.le_refl _) _
 have hT3 : Rec 123 w3 w2.heap.size #[.int .i64 E, .int .i64 L, .slice none 0 0, .slice none 0 0] := by rw [hw3]; exact Rec.new _ _ _
 have HT13 := hi_ ((HT1.out.under hB2).under b3)
 have HB3 := hi_ (HB1.out.trans ((hB2.trans (b3.mono hB2.size)).mono HB1.out.size))
 obtain ⟨q, hq⟩ : ∃ q, q = w2.heap.size := ⟨_, rfl⟩
 rw [<- hq] at hT3
 have hqw : w.heap.size < q := by rw [hq]; exact (HT1.out.under hB2).lt
 have HT3 := hi_ hT3
 have HW3 := hi_ hw3
 have HQ := hi_ hq
 have e0 : w3.cell? ⟨q, 0, none⟩ = some (.int .i64 E) := hT3.at_ 0
 clear hw3 b3 hT3 hB2 hq CN'
 -- how it ends where it may not be loaded
 have FIN : ∀ (W w5 : World), Below w3.heap.size w3 W -> Fr (· = w.heap.size) W w5 -> Below w.heap.size w w5 := fun W w5 hW hF => by
  have h1 := HB3.out.trans (hW.mono HB3.out.size)
  exact h1.trans (hF.toBelow (fun x hx => by rw [show x = w.heap.size from hx]; exact Nat.le_refl _) h1.size)
 have FIN := hi_ FIN
 have HTW : ∀ W, Below w3.heap.size w3 W -> Rec 123 W w.heap.size #[.int .i64 0, .int .i64 0, .slice none 0 0, .slice none 0 0] := fun W hW => HT13.out.under hW
 have HTW := hi_ HTW
 by_cases hle : gn <= E
 case neg =>
  have hd : decide (E < gn) = true := decide_eq_true (by omega)
  have hd' : decide ((E : Int) < gn) = true := decide_eq_true (by omega)
  have HR := hi_ (HTW.out w3 (Below.refl _ _))
  go_wp2_with (first
   | (rw [<- HW3.out, <- HQ.out])
   | (with_reducible refine wpList_stQ (E' := 0) (L' := 0) (GA' := none) (gn' := 0) (gc' := 0) (FA' := none) (fn' := 0) (fc' := 0) rfl (.tmp 8) (.tmp 22) rfl rfl rfl HR.out ?_; intro w5 hR5 hF5))
  refine bodyPost_ret (res_ct rfl rfl (hR5.load rsT rfl)) rfl ?_
  exact .inr ⟨fun hh => hle (by have := hh.1; have := HG.out.1; simp only at *; omega), rfl, FIN.out w3 w5 (Below.refl _ _) hF5⟩
 have hd : decide (E < gn) = false := decide_eq_false (by omega)
 have hd' : decide ((E : Int) < gn) = false := decide_eq_false (by omega)
 go_wp2_with (first
  | (rw [<- HW3.out, <- HQ.out]))
 go_loopw [11] (fun iv wr => ∃ j : Nat, j <= gn /\ iv = .int .i64 j /\ (∀ x ∈ gs.take j, 0 <= x /\ x <= L) /\ Below w3.heap.size w3 wr) (fun iv _ => gn - (intOf iv).toNat)
 case atStart => exact ⟨0, Nat.zero_le _, rfl, fun x hx => absurd hx (by simp), Below.refl _ _⟩
 case round =>
  obtain ⟨j, hj, rfl, hgood, hB⟩ := hrel
  by_cases hjn : j < gn
  ·have hjl : j < gs.length := by rw [HG.out.1]; exact hjn
   obtain ⟨b, o, hA, hbw, hc⟩ := HG.out.2 (by omega)
   have hU := HB3.out.trans (hB.mono HB3.out.size)
   have c0 := (hU.cell (p := ⟨b, o + j, none⟩) hbw).trans (hc j hjl)
   have k1 : wr.cell? ⟨q, 1, none⟩ = some (.int .i64 L) := (HT3.out.under hB).at_ 1
   obtain ⟨z, hz⟩ : ∃ z, z = gs.getD j 0 := ⟨_, rfl⟩
   rw [<- hz] at c0
   have hzj : gs[j] = z := by rw [hz]; simp [List.getD, List.getElem?_eq_getElem hjl]
   have hzm : z ∈ gs := by rw [<- hzj]; exact List.getElem_mem hjl
   have htk : gs.take (j + 1) = gs.take j ++ [z] := by rw [List.take_succ_eq_append_getElem hjl, hzj]
   have HBW := hi_ hB
   have HRW : Hid (∀ n, Rec 123 (wr.drewN n) w.heap.size #[.int .i64 0, .int .i64 0, .slice none 0 0, .slice none 0 0]) := hi_ (fun n => HTW.out _ (hB.trans ((below_drewNi _ _).mono hB.size)))
   subst hA
   by_cases hzz : 0 <= z /\ z <= L
   ·have HGD := hi_ hgood
    have HTK := hi_ htk
    obtain ⟨hz0, hz1⟩ := hzz
    have hd0 : decide (z < 0) = false := decide_eq_false (by omega)
    have hd1 : decide (L < z) = false := decide_eq_false (by omega)
    clear hc hz hzj hzm htk hB hgood hU
    go_wp2_with fail
    go_quiet (fail)
    go_wp2
    go_roundw
    case rel =>
     refine ⟨j + 1, hjn, by go_num, fun x hx => ?_, HBW.out.trans ((below_drewNi _ _).mono HBW.out.size)⟩
     rw [HTK.out] at hx
     rcases List.mem_append.1 hx with hx | hx
     ·exact HGD.out x hx
     ·rw [List.mem_singleton.1 hx]; exact ⟨hz0, hz1⟩
    case measure => simp [intOf]; omega
   ·have HN : Hid (¬ LdOk ⟨E, L, gs, fs⟩) := hi_ (fun hh => hzz (hh.2.1 z hzm))
    clear hc hz hzj hzm htk hB hgood hU
    by_cases hz0 : 0 <= z
    ·have hz1 : L < z := by omega
     have hd0 : decide (z < 0) = false := decide_eq_false (by omega)
     have hd1 : decide (L < z) = true := decide_eq_true hz1
     go_wp2_with fail
     go_quiet (fail)
     go_wp2_with (with_reducible refine wpList_stQ (E' := 0) (L' := 0) (GA' := none) (gn' := 0) (gc' := 0) (FA' := none) (fn' := 0) (fc' := 0) rfl (.tmp 8) (.tmp 43) rfl rfl rfl (HRW.out _) ?_; intro w5 hR5 hF5)
     refine bodyPost_ret (res_ct rfl rfl (hR5.load rsT rfl)) rfl ?_
     exact .inr ⟨HN.out, rfl, FIN.out _ w5 (HBW.out.trans ((below_drewNi _ _).mono HBW.out.size)) hF5⟩
    ·have hd0 : decide (z < 0) = true := decide_eq_true (by omega)
     go_wp2_with fail
     go_quiet (fail)
     go_wp2_with (with_reducible refine wpList_stQ (E' := 0) (L' := 0) (GA' := none) (gn' := 0) (gc' := 0) (FA' := none) (fn' := 0) (fc' := 0) rfl (.tmp 8) (.tmp 43) rfl rfl rfl (HRW.out _) ?_; intro w5 hR5 hF5)
     refine bodyPost_ret (res_ct rfl rfl (hR5.load rsT rfl)) rfl ?_
     exact .inr ⟨HN.out, rfl, FIN.out _ w5 (HBW.out.trans ((below_drewNi _ _).mono HBW.out.size)) hF5⟩
  ·obtain rfl : gn = j := by omega
   have htk : gs.take gn = gs := List.take_of_length_le (by rw [HG.out.1]; exact Nat.le_refl _)
   rw [htk] at hgood
   have HBJ := hi_ hB
   have HGD := hi_ hgood
   clear hB hgood htk
   go_wp2_with fail
   go_loopw [12] (fun iv wr => ∃ i : Nat, i <= fn /\ iv = .int .i64 i /\ (∀ u, u < i -> (NS.pre ⟨E, L, gs, fs⟩ u).live (fs.getD u 0) = true /\ gs.getD (fs.getD u 0).toNat 0 ≠ 0) /\ Below w3.heap.size w3 wr) (fun iv _ => fn - (intOf iv).toNat)
   case atStart => exact ⟨0, Nat.zero_le _, rfl, fun u hu => absurd hu (Nat.not_lt_zero u), HBJ.out⟩
   case round =>
    obtain ⟨i, hi, rfl, hgd, hB⟩ := hrel
    by_cases hin : i < fn
    ·have hil : i < fs.length := by rw [HF.out.1]; exact hin
     obtain ⟨b, o, hA, hbw, hc⟩ := HF.out.2 (by omega)
     have hU := HB3.out.trans (hB.mono HB3.out.size)
     have c0 := (hU.cell (p := ⟨b, o + i, none⟩) hbw).trans (hc i hil)
     have k1 : wr.cell? ⟨q, 1, none⟩ = some (.int .i64 L) := (HT3.out.under hB).at_ 1
     have hrp := (HF.out.own_below (Nat.le_refl _) hU).pre (i := i) (by omega)
     obtain ⟨k, hk⟩ : ∃ k, k = fs.getD i 0 := ⟨_, rfl⟩
     rw [<- hk] at c0
     have HBW := hi_ hB
     have HRW : Hid (∀ n, Rec 123 (wr.drewN n) w.heap.size #[.int .i64 0, .int .i64 0, .slice none 0 0, .slice none 0 0]) := hi_ (fun n => HTW.out _ (hB.trans ((below_drewNi _ _).mono hB.size)))
     have HGQ := hi_ hgd
     have HU := hi_ hU
     have elive : (NS.pre ⟨E, L, gs, fs⟩ i).live k = true ↔ 0 <= k /\ k < gs.length /\ k ∉ fs.take i /\ gs.getD k.toNat 0 < L := NS.live_iff
     have hno : ((NS.pre ⟨E, L, gs, fs⟩ i).live k = true /\ gs.getD k.toNat 0 ≠ 0 -> False) -> ¬ LdOk ⟨E, L, gs, fs⟩ := fun hx hh => by
      have := hh.2.2 i hil
      simp only at this
      rw [<- hk] at this
      exact hx this
     have hgl := HG.out.1
     have hg0 : decide ((i : Int) < 0) = false := decide_eq_false (by omega)
     rw [hgl] at elive
     by_cases hk0 : 0 <= k
     case neg =>
      have HN := hi_ (hno (fun hx => hk0 (elive.1 hx.1).1))
      have hd0 : decide (k < 0) = true := decide_eq_true (by omega)
      subst hA
      clear hc hk hgd hB hil hU hrp elive hno hgl
      go_wp2_with fail
      go_quiet (fail)
      go_wp2_with (with_reducible refine wpList_stQ (E' := 0) (L' := 0) (GA' := none) (gn' := 0) (gc' := 0) (FA' := none) (fn' := 0) (fc' := 0) rfl (.tmp 8) (.tmp 85) rfl rfl rfl (HRW.out _) ?_; intro w5 hR5 hF5)
      refine bodyPost_ret (res_ct rfl rfl (hR5.load rsT rfl)) rfl ?_
      exact .inr ⟨HN.out, rfl, FIN.out _ w5 (HBW.out.trans ((below_drewNi _ _).mono HBW.out.size)) hF5⟩
     obtain ⟨m, rfl⟩ : ∃ m : Nat, k = (m : Int) := ⟨k.toNat, by omega⟩
     have hd0 : decide ((m : Int) < 0) = false := decide_eq_false (by omega)
     by_cases hk1 : m < gn
     case neg =>
      have HN := hi_ (hno (fun hx => hk1 (by have := (elive.1 hx.1).2.1; omega)))
      have hd1 : decide ((gn : Int) <= (m : Int)) = true := decide_eq_true (by omega)
      have hd1n : decide (gn <= m) = true := decide_eq_true (by omega)
      subst hA
      clear hc hk hgd hB hil hU hrp elive hno hgl
      go_wp2_with fail
      go_quiet (fail)
      go_wp2_with (with_reducible refine wpList_stQ (E' := 0) (L' := 0) (GA' := none) (gn' := 0) (gc' := 0) (FA' := none) (fn' := 0) (fc' := 0) rfl (.tmp 8) (.tmp 85) rfl rfl rfl (HRW.out _) ?_; intro w5 hR5 hF5)
      refine bodyPost_ret (res_ct rfl rfl (hR5.load rsT rfl)) rfl ?_
      exact .inr ⟨HN.out, rfl, FIN.out _ w5 (HBW.out.trans ((below_drewNi _ _).mono HBW.out.size)) hF5⟩
     have hd1 : decide ((gn : Int) <= (m : Int)) = false := decide_eq_false (by omega)
     have hd1n : decide (gn <= m) = false := decide_eq_false (by omega)
     have CHA : ∀ n, Calls Tryz.prog 109 #[.slice FA i fc, .int .i64 (m : Int)] (wr.drewN n) fun e w' => e = .returned (.bool (decide ((m : Int) ∈ fs.take i))) /\ w' = wr.drewN n := fun n => IHas_any FA i fc (fs.take i) _ _ (hrp.below (below_drewNi _ _)) (by omega)
     obtain ⟨b2, o2, hA2, hbw2, hc2⟩ := HG.out.2 (by omega)
     have c2 := (hU.cell (p := ⟨b2, o2 + m, none⟩) hbw2).trans (hc2 m (by omega))
     obtain ⟨z, hz⟩ : ∃ z, z = gs.getD m 0 := ⟨_, rfl⟩
     rw [Int.toNat_natCast, <- hz] at elive hno
     rw [<- hz] at c2
     by_cases hk2 : (m : Int) ∈ fs.take i
     case pos =>
      have HN := hi_ (hno (fun hx => (elive.1 hx.1).2.2.1 hk2))
      have CH : Hid (∀ n, Calls Tryz.prog 109 #[.slice FA i fc, .int .i64 (m : Int)] (wr.drewN n) fun e w' => e = .returned (.bool true) /\ w' = wr.drewN n) := hi_ (by simpa only [decide_eq_true hk2] using CHA)
      subst hA hA2
      clear hc hc2 hk hgd hB hil hU hrp elive hno hgl CHA hk2 hz
      go_wp2_with fail
      go_quiet (((go_at_call 109; exact Calls.quiet_of_same (CH.out _))))
      go_wp2_with (with_reducible refine wpList_stQ (E' := 0) (L' := 0) (GA' := none) (gn' := 0) (gc' := 0) (FA' := none) (fn' := 0) (fc' := 0) rfl (.tmp 8) (.tmp 85) rfl rfl rfl (HRW.out _) ?_; intro w5 hR5 hF5)
      refine bodyPost_ret (res_ct rfl rfl (hR5.load rsT rfl)) rfl ?_
      exact .inr ⟨HN.out, rfl, FIN.out _ w5 (HBW.out.trans ((below_drewNi _ _).mono HBW.out.size)) hF5⟩
     have CH : Hid (∀ n, Calls Tryz.prog 109 #[.slice FA i fc, .int .i64 (m : Int)] (wr.drewN n) fun e w' => e = .returned (.bool false) /\ w' = wr.drewN n) := hi_ (by simpa only [decide_eq_false hk2] using CHA)
     clear CHA
     by_cases hz0 : z = 0
     case pos =>
      have HN := hi_ (hno (fun hx => hx.2 hz0))
      subst hA hA2 hz0
      clear hc hc2 hk hgd hB hil hU hrp elive hno hgl hk2 hz
      go_wp2_with fail
      go_quiet (((go_at_call 109; exact Calls.quiet_of_same (CH.out _))))
      go_wp2_with (with_reducible refine wpList_stQ (E' := 0) (L' := 0) (GA' := none) (gn' := 0) (gc' := 0) (FA' := none) (fn' := 0) (fc' := 0) rfl (.tmp 8) (.tmp 85) rfl rfl rfl (HRW.out _) ?_; intro w5 hR5 hF5)
      refine bodyPost_ret (res_ct rfl rfl (hR5.load rsT rfl)) rfl ?_
      exact .inr ⟨HN.out, rfl, FIN.out _ w5 (HBW.out.trans ((below_drewNi _ _).mono HBW.out.size)) hF5⟩
     have hz1 : (z == 0) = false := by simpa using hz0
     have hz2 : decide (z = 0) = false := decide_eq_false hz0
     by_cases hzL : z < L
     case neg =>
      have HN := hi_ (hno (fun hx => hzL (elive.1 hx.1).2.2.2))
      have hd3 : decide (L <= z) = true := decide_eq_true (by omega)
      subst hA hA2
      clear hc hc2 hk hgd hB hil hU hrp elive hno hgl hk2 hz
      go_wp2_with fail
      go_quiet (((go_at_call 109; exact Calls.quiet_of_same (CH.out _))))
      go_wp2_with (with_reducible refine wpList_stQ (E' := 0) (L' := 0) (GA' := none) (gn' := 0) (gc' := 0) (FA' := none) (fn' := 0) (fc' := 0) rfl (.tmp 8) (.tmp 85) rfl rfl rfl (HRW.out _) ?_; intro w5 hR5 hF5)
      refine bodyPost_ret (res_ct rfl rfl (hR5.load rsT rfl)) rfl ?_
      exact .inr ⟨HN.out, rfl, FIN.out _ w5 (HBW.out.trans ((below_drewNi _ _).mono HBW.out.size)) hF5⟩
     have hd3 : decide (L <= z) = false := decide_eq_false (by omega)
     have HLV := hi_ (elive.2 ⟨Int.natCast_nonneg _, by omega, hk2, hzL⟩)
     have HK := hi_ hk
     have HZ := hi_ hz
     subst hA hA2
     clear hc hc2 hk hgd hB hil hU hrp elive hno hgl hk2 hz
     go_wp2_with fail
     go_quiet (((go_at_call 109; exact Calls.quiet_of_same (CH.out _))))
     go_wp2
     go_roundw
     case rel =>
      refine ⟨i + 1, hin, by go_num, fun u hu => ?_, HBW.out.trans ((below_drewNi _ _).mono HBW.out.size)⟩
      by_cases hui : u = i
      ·subst hui
       rw [<- HK.out, Int.toNat_natCast, <- HZ.out]
       exact ⟨HLV.out, hz0⟩
      ·exact HGQ.out u (by omega)
     case measure => simp [intOf]; omega
    ·obtain rfl : i = fn := by omega
     have HY : Hid (LdOk ⟨E, L, gs, fs⟩) := hi_ ⟨by show gs.length <= E; rw [HG.out.1]; exact hle, HGD.out, fun u hu => hgd u (by rw [<- HF.out.1]; exact hu)⟩
     have hT := HT3.out.under hB
     have HBW := hi_ hB
     have r2 : wr.cell? ⟨q, 2, none⟩ = some (.slice none 0 0) := hT.at_ 2
     have f2 := hT.fz 2
     obtain ⟨w4, hw4⟩ : ∃ w4, w4 = wr.setCell ⟨q, 2, none⟩ (.slice GA gn gc) := ⟨_, rfl⟩
     have hT4 : Rec 123 w4 q #[.int .i64 E, .int .i64 L, .slice GA gn gc, .slice none 0 0] := by rw [hw4]; exact hT.set 2 _
     have r3 : w4.cell? ⟨q, 3, none⟩ = some (.slice none 0 0) := hT4.at_ 3
     have f3 := hT4.fz 3
     obtain ⟨w5, hw5⟩ : ∃ w5, w5 = w4.setCell ⟨q, 3, none⟩ (.slice FA i fc) := ⟨_, rfl⟩
     have hT5 : Rec 123 w5 q #[.int .i64 E, .int .i64 L, .slice GA gn gc, .slice FA i fc] := by rw [hw5]; exact hT4.set 3 _
     have hF5 : Fr (· = q) wr w5 := (show Fr (· = q) wr w4 by rw [hw4]; exact Fr.setCell (own := (· = q)) wr (p := ⟨q, 2, none⟩) rfl _).trans (by rw [hw5]; exact Fr.setCell (own := (· = q)) w4 (p := ⟨q, 3, none⟩) rfl _)
     have HR5 := hi_ ((HTW.out wr hB).fr hF5 (fun e => by have e' : w.heap.size = q := e; omega))
     have HT5 := hi_ hT5
     have HF5 := hi_ hF5
     have HW4 := hi_ hw4
     have HW5 := hi_ hw5
     clear hgd hB hT hw4 hw5 hT4 hT5 hF5
     go_wp2_with (first
      | (rw [<- HW4.out])
      | (rw [<- HW5.out])
      | (with_reducible refine wpList_ldQ rfl (.tmp 10) rfl rfl HT5.out ?_)
      | (with_reducible refine wpList_stQ (E' := E) (L' := L) (GA' := GA) (gn' := gn) (gc' := gc) (FA' := FA) (fn' := i) (fc' := fc) rfl (.tmp 8) (.tmp 90) rfl rfl rfl HR5.out ?_; intro w6 hR6 hF6))
     refine bodyPost_ret (res_ct rfl rfl (hR6.load rsT rfl)) rfl ?_
     have hU := HB3.out.trans (HBW.out.mono HB3.out.size)
     have hU5 := hU.trans (HF5.out.toBelow (B := w.heap.size) (fun x hx => by rw [show x = q from hx]; omega) hU.size)
     exact .inl ⟨HY.out, rfl, hU5.trans (hF6.toBelow (fun x hx => by rw [show x = w.heap.size from hx]; exact Nat.le_refl _) hU5.size)⟩
end Go.Proofs.YtaoinkjjmakhaaaGreatDoor
namespace Go.Proofs.YtaoinkjjmakhaaaGreatDoor
open Go.RowKit
set_option linter.unusedVariables false
section
variable (lg pg en gn : Int) (A : Option Addr) (n cap : Nat) (ks : List Kd) (w : World)
theorem RFind_any (h : KRd w A n ks) (hn : n <= 1000000) (s : ByteArray) :
  Calls Tryz.prog 21 #[cv lg pg en gn A n cap, .string s] w fun e w' => e = .returned (.tuple #[.int .i64 (findK ks s).1, .bool (findK ks s).2]) /\ Below w.heap.size w w' := by
 obtain ⟨w1, hw1⟩ : ∃ w1, w1 = w.alloc (.cells (cc lg pg en gn A n cap) 24) := ⟨_, rfl⟩
 have C1 := CAt.new h lg pg en gn cap
 rw [<- hw1] at C1
 obtain ⟨g, hg⟩ : ∃ g, g = w.heap.size := ⟨_, rfl⟩
 rw [<- hg] at C1
 have c4 := C1.c4
 have hl := h.1
 have K1 := hi_ C1
 have HG := hi_ hg
 clear h hg C1
 go_enter Tryz.func21, Tryz.ntmps21
 go_wp2_with (rw [<- hw1, <- HG.out]; clear hw1)
 go_loop [6] (fun i => ∃ j : Nat, j <= n /\ i = .int .i64 j /\ First ks s j) (fun i => n - (intOf i).toNat)
 case atStart => exact ⟨0, Nat.zero_le _, rfl, First.zero _ _⟩
 case round =>
  obtain ⟨j, hj, rfl, hf⟩ := hrel
  by_cases hlt : j < n
  ·obtain ⟨b, o, s', z, rfl, _, k0, k1, hl', hk⟩ := K1.out.rd.at_ hlt
   have hsn := First.succ (s := s) hl'
   rw [hk] at hsn
   by_cases hss : s' = s
   ·subst hss
    have hfy := findK_yes ks s' j hl' hf (by rw [hk])
    have HFY := hi_ hfy
    clear hsn hk hf hfy
    go_wp2
    go_ret2
    rw [HFY.out]
    exact ⟨rfl, K1.out.bel⟩
   ·have hbe : (s'.toList == s.toList) = false := by rw [toList_inj]; exact decide_eq_false hss
    have HF := hi_ (hsn.2 ⟨hf, hss⟩)
    clear hsn hk hf hss
    go_wp2
    go_round
    case rel => exact ⟨j + 1, hlt, by go_num, HF.out⟩
    case measure => simp [intOf]; omega
  ·have hfn := findK_no ks s (fun k hk => hf k (by rw [List.take_of_length_le (by omega)]; exact hk))
   have HFN := hi_ hfn
   clear hf hfn
   go_wp2
   go_ret2
   rw [HFN.out]
   exact ⟨rfl, K1.out.bel⟩
end
end Go.Proofs.YtaoinkjjmakhaaaGreatDoor
