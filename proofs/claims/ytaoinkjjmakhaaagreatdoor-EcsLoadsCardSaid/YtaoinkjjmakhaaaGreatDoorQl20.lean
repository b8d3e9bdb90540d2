/- EcP, EcR, EcSm, EcGo, EcHs, EcVp, EcLa, TbLO, EcLO, EcVh, EcVo -/
import Derived.Test.YtaoinkjjmakhaaaGreatDoorQl1
import Derived.Test.YtaoinkjjmakhaaaGreatDoorQl2
import Derived.Test.YtaoinkjjmakhaaaGreatDoorQl7
import Derived.Test.YtaoinkjjmakhaaaGreatDoorQl9
import Derived.Test.YtaoinkjjmakhaaaGreatDoorQl17
import Derived.Test.YtaoinkjjmakhaaaGreatDoorQl18
import Derived.Test.YtaoinkjjmakhaaaGreatDoorQl19
namespace Go.Proofs.YtaoinkjjmakhaaaGreatDoor
set_option maxRecDepth 20000
def fullX (x : Fx) : Nat := ofL (idxs x.n) 64
structure TS (x : Fx) (k : Ks) (pm : Int × Int -> Option (List Pt)) : Prop where
 S : SOk k.S
 pos : 0 < k.S.length
 tb : ∀ n t, k.tb n = some t -> t.rows ≠ [] /\ ∃ s, k.S[n]? = some s /\ s &&& fullX x = s /\ t.cs = (Tb.new x.n (zsK x.ks) s).cs
 pl : ∀ id n r, k.pl id = some (n, r) ↔ ∃ t e, k.tb n = some t /\ t.rows[r]? = some e /\ e.1 = id
 row : ∀ n t e, k.tb n = some t -> e ∈ t.rows -> pm e.1 = some e.2
 all : ∀ id ps, pm id = some ps -> ∃ n r, k.pl id = some (n, r)
section
variable {x : Fx} {k : Ks} {pm : Int × Int -> Option (List Pt)}
theorem TS.at_ (h : TS x k pm) {id : Int × Int} {n r : Nat} (hp : k.pl id = some (n, r)) : ∃ t ps, k.tb n = some t /\ r < t.rows.length /\ t.rows[r]? = some (id, ps) /\ (t.rows.getD r noEn).2 = ps /\ pm id = some ps := by
 obtain ⟨t, e, ht, hr, rfl⟩ := (h.pl id n r).1 hp
 have hl := (List.getElem?_eq_some_iff.1 hr).1
 exact ⟨t, e.2, ht, hl, hr, by rw [List.getD_eq_getElem?_getD, hr]; rfl, h.row n t e ht (List.mem_of_getElem? hr)⟩
theorem TS.start (s : NS) : TS x (ks0 s) (fun _ => none) where
 S := SOk.one
 pos := Nat.one_pos
 tb n t h := by cases h
 pl id n r := ⟨(fun h => by cases h), (fun ⟨t, e, h, _⟩ => by cases h)⟩
 row n t e h := by cases h
 all id ps h := by cases h
end
end Go.Proofs.YtaoinkjjmakhaaaGreatDoor
namespace Go.Proofs.YtaoinkjjmakhaaaGreatDoor
set_option maxRecDepth 20000
theorem key_uniq {α : Type} {f : α -> Int} {l : List α} (hu : l.Pairwise fun a b => f a < f b) {a b : α} (ha : a ∈ l) (hb : b ∈ l) (e : f a = f b) : a = b := by
 obtain ⟨i, hi, rfl⟩ := List.getElem_of_mem ha
 obtain ⟨j, hj, rfl⟩ := List.getElem_of_mem hb
 rcases Nat.lt_trichotomy i j with h | h | h
 ·have := List.pairwise_iff_getElem.1 hu i j hi hj h; omega
 ·subst h; rfl
 ·have := List.pairwise_iff_getElem.1 hu j i hj hi h; omega
theorem key_nodup {α : Type} {f : α -> Int} {l : List α} (hu : l.Pairwise fun a b => f a < f b) : l.Nodup := hu.imp fun h e => by rw [e] at h; omega
theorem key_eq {α : Type} {f : α -> Int} {l l' : List α} (hu : l.Pairwise fun a b => f a < f b) (hu' : l'.Pairwise fun a b => f a < f b) (hm : ∀ p, p ∈ l ↔ p ∈ l') : l = l' :=
 List.Perm.eq_of_pairwise (le := fun a b => f a < f b) (fun a b _ _ h1 h2 => by omega) hu hu' ((List.perm_ext_iff_of_nodup (key_nodup hu) (key_nodup hu')).2 hm)
theorem mem_listZi {s : Nat} {c : Int} : c ∈ listZ s ↔ 0 <= c /\ c < 64 /\ s.testBit c.toNat = true := by
 constructor
 ·intro h
  obtain ⟨i, hi, rfl⟩ := List.mem_map.1 h
  obtain ⟨h1, h2⟩ := mem_listN.1 hi
  exact ⟨Int.natCast_nonneg _, by show (i : Int) < 64; omega, by show s.testBit ((i : Int)).toNat = true; rw [Int.toNat_natCast]; exact h2⟩
 ·rintro ⟨h1, h2, h3⟩
  have e : c = ((c.toNat : Nat) : Int) := by omega
  rw [e]
  exact mem_listZ.2 ⟨by omega, h3⟩
theorem listZ_up (s : Nat) : (listZ s).Pairwise fun a b => a < b := by
 unfold listZ listN
 refine List.pairwise_map.2 (List.Pairwise.filter _ ?_)
 exact List.pairwise_lt_range.imp fun h => by show (Int.ofNat _) < Int.ofNat _; simp only [Int.ofNat_eq_natCast]; omega
theorem chg_f {s : Nat} {kk c : Int} : c ∈ listZ (chg false s kk) ↔ c ≠ kk /\ c ∈ listZ s := by
 rw [mem_listZi, mem_listZi]
 unfold chg
 rw [if_neg (by decide)]
 constructor
 ·rintro ⟨a, b, h⟩
  rw [butN_bit' _ _ _ (orL_lt _) (by omega), orL_bit] at h
  simp only [Bool.and_eq_true, Bool.not_eq_true', decide_eq_false_iff_not, List.mem_singleton] at h
  exact ⟨fun e => h.2 ⟨by omega, by omega⟩, a, b, h.1⟩
 ·rintro ⟨e, a, b, h⟩
  refine ⟨a, b, ?_⟩
  rw [butN_bit' _ _ _ (orL_lt _) (by omega), orL_bit]
  simp only [Bool.and_eq_true, Bool.not_eq_true', decide_eq_false_iff_not, List.mem_singleton]
  exact ⟨h, fun hh => e (by omega)⟩
structure XR (x : Fx) : Prop where
 n : x.n = x.ks.length
 le : x.n <= 32
 sz : Sized x.ks
def szX (ks : List Kd) : Szs := ks.map fun k => k.2.toNat
theorem szX_at (ks : List Kd) (c : Int) : szAt (szX ks) c = if 0 <= c /\ c < ks.length then some (zsK ks c.toNat).toNat else none := by
 unfold szAt szX zsK
 rw [List.length_map]
 by_cases h : 0 <= c /\ c < ks.length
 ·rw [if_pos h, if_pos h, List.getD_eq_getElem?_getD, List.getD_eq_getElem?_getD, List.getElem?_map, List.getElem?_eq_getElem (show c.toNat < ks.length by omega)]
  rfl
 ·rw [if_neg h, if_neg h]
theorem zsK_le {ks : List Kd} (hz : Sized ks) {i : Nat} (h : i < ks.length) : 0 <= zsK ks i /\ zsK ks i <= 64 := by
 unfold zsK
 rw [List.getD_eq_getElem?_getD, List.getElem?_eq_getElem h]
 exact hz _ (List.getElem_mem h)
section
variable {x : Fx}
theorem full_bit (hx : XR x) (i : Nat) : (fullX x).testBit i = decide (i < x.n) := by
 unfold fullX
 rw [ofL_bit]
 have := hx.le
 by_cases h : i < x.n
 ·simp only [h, decide_true, decide_eq_true_eq]
  exact ⟨by omega, List.mem_map.2 ⟨i, List.mem_range.2 h, rfl⟩⟩
 ·simp only [h, decide_false, decide_eq_false_iff_not]
  rintro ⟨_, hm⟩
  obtain ⟨j, hj, e⟩ := List.mem_map.1 hm
  have e' : (j : Int) = (i : Int) := e
  exact h (by have := List.mem_range.1 hj; omega)
theorem full_lt (hx : XR x) {s : Nat} (hf : s &&& fullX x = s) {i : Nat} (h : s.testBit i = true) : i < x.n := by
 rw [<- hf, Nat.testBit_and, full_bit hx] at h
 simp only [Bool.and_eq_true, decide_eq_true_eq] at h
 exact h.2
theorem cs_of (hx : XR x) {s : Nat} (hf : s &&& fullX x = s) : (Tb.new x.n (zsK x.ks) s).cs = (listZ s).map fun c => (c, (szAt (szX x.ks) c).getD 0) := by
 show ((listN s).filter fun (k : Nat) => decide (k < x.n)).map (fun (k : Nat) => ((k : Int), (min (max (zsK x.ks k) 0) 64).toNat)) = _
 have hlt : ∀ k ∈ listN s, k < x.n := fun k hk => full_lt hx hf (mem_listN.1 hk).2
 rw [List.filter_eq_self.2 (fun k hk => decide_eq_true (hlt k hk))]
 unfold listZ
 rw [List.map_map]
 refine List.map_congr_left fun k hk => ?_
 have h1 := hlt k hk
 have h2 := hx.n
 have h3 := zsK_le hx.sz (i := k) (by omega)
 show ((k : Int), _) = ((k : Int), (szAt (szX x.ks) (k : Int)).getD 0)
 rw [szX_at, if_pos ⟨Int.natCast_nonneg _, by omega⟩, Int.toNat_natCast]
 simp only [Option.getD_some, Prod.mk.injEq, true_and]
 omega
theorem keys_of (hx : XR x) {s : Nat} (hf : s &&& fullX x = s) {l : List Pt} (h : RowOk (Tb.new x.n (zsK x.ks) s).cs l) : l.map (·.1) = listZ s := by
 have := congrArg (List.map (·.1)) h
 rw [cs_of hx hf, List.map_map, List.map_map] at this
 have e1 : (fun p : Int × Nat => p.1) ∘ (fun p : Pt => (p.1, p.2.length)) = (fun p : Pt => p.1) := rfl
 have e2 : ((fun p : Int × Nat => p.1) ∘ fun c : Int => (c, (szAt (szX x.ks) c).getD 0)) = _root_.id := rfl
 rw [e1, e2, List.map_id] at this
 exact this
end
end Go.Proofs.YtaoinkjjmakhaaaGreatDoor
namespace Go.Proofs.YtaoinkjjmakhaaaGreatDoor
set_option maxRecDepth 20000
def pmOf (es : List En) (id : Int × Int) : Option (List Pt) := (es.find? fun e => decide (e.1 = id)).map (·.2)
section
variable {es : List En}
theorem pmOf_iff (hu : es.Pairwise fun a b => a.1.1 < b.1.1) {id : Int × Int} {ps : List Pt} : pmOf es id = some ps ↔ (id, ps) ∈ es := by
 unfold pmOf
 constructor
 ·intro h
  cases hf : es.find? (fun e => decide (e.1 = id)) with
  | none => rw [hf] at h; cases h
  | some e =>
   rw [hf] at h
   injection h with h
   have h1 : e.1 = id := by simpa using List.find?_some hf
   have h2 := List.mem_of_find?_eq_some hf
   rw [<- h1, <- h]
   exact h2
 ·intro h
  cases hf : es.find? (fun e => decide (e.1 = id)) with
  | none =>
   have := List.find?_eq_none.1 hf _ h
   simp at this
  | some e =>
   have h1 : e.1 = id := by simpa using List.find?_some hf
   have h2 := List.mem_of_find?_eq_some hf
   have h3 := key_uniq (f := fun e : En => e.1.1) hu h2 h (by rw [h1])
   rw [h3]
   rfl
theorem opt_ext {α : Type} {a b : Option α} (h : ∀ x, a = some x ↔ b = some x) : a = b := by
 cases a with
 | none =>
  cases b with
  | none => rfl
  | some y => exact (h y).2 rfl
 | some y => exact ((h y).1 rfl).symm
end
section
variable {x : Fx} {k : Ks} {es : List En}
theorem TS.okN (h : TS x k (pmOf es)) (hS : k.S.length <= 5000) {n : Nat} {t : Tb} (ht : k.tb n = some t) : okN n := by
 obtain ⟨_, s, hs, _⟩ := h.tb n t ht
 have := (List.getElem?_eq_some_iff.1 hs).1
 unfold Go.Proofs.YtaoinkjjmakhaaaGreatDoor.okN
 omega
end
theorem Es.Ok.okE {z : Szs} {s : Es} (h : s.Ok z) {e : En} (he : e ∈ s.ents) : okE e.1 := by
 have ha := h.on e he
 obtain ⟨a1, a2⟩ := NS.alive_live ha
 obtain ⟨b0, b1, _, b3⟩ := NS.live_iff.1 a1
 have c1 := h.ns.len
 have c2 := h.ns.E2
 have c3 := h.ns.gD e.1.1.toNat
 have c4 := h.ns.L2
 rw [a2] at c3 b3
 exact ⟨WalkArith.wf_i64 (by omega), WalkArith.wf_i64 (by omega)⟩
structure Sim (x : Fx) (k : Ks) (s : Es) : Prop where
 ns : k.ns = s.ns
 ok : s.Ok (szX x.ks)
 ts : TS x k (pmOf s.ents)
section
variable {x : Fx} {k : Ks} {s : Es}
end
end Go.Proofs.YtaoinkjjmakhaaaGreatDoor
namespace Go.Proofs.YtaoinkjjmakhaaaGreatDoor
open Go.RowKit
set_option maxRecDepth 20000
section
variable {w : World} {N : Nat} {gr : Nat -> Nat} {x : Fx} {k : Ks} {c : Nat} {pt : Nat -> Nat} {s : Es}
theorem CoJ.tok (h : CoJ 0 w N gr x k c pt) {n : Nat} {t : Tb} (ht : k.tb n = some t) : t.Ok := by
 obtain ⟨s, tag, m, v, q, hs, hA, hg⟩ := h.tab n t (by omega) ht
 exact hA.ok
end
end Go.Proofs.YtaoinkjjmakhaaaGreatDoor
namespace Go.Proofs.YtaoinkjjmakhaaaGreatDoor
set_option maxRecDepth 20000
theorem mem_sigsL {S : List Nat} {wi wo n : Nat} : ∀ {m : Nat}, n ∈ sigsL S wi wo m ↔ n < m /\ fitG wi wo (S.getD n 0) = true
 | 0 => by simp [sigsL]
 | m + 1 => by
  unfold sigsL
  rw [List.mem_append, mem_sigsL (m := m)]
  constructor
  ·rintro (⟨h1, h2⟩ | h)
   ·exact ⟨by omega, h2⟩
   ·split at h
    ·rename_i hf
     rw [List.mem_singleton.1 h]
     exact ⟨by omega, hf⟩
    ·exact absurd h List.not_mem_nil
  ·rintro ⟨h1, h2⟩
   by_cases e : n = m
   ·subst e
    rw [if_pos h2]
    exact .inr (List.mem_singleton.2 rfl)
   ·exact .inl ⟨by omega, h2⟩
theorem sigsL_nd (S : List Nat) (wi wo : Nat) : ∀ m, (sigsL S wi wo m).Nodup
 | 0 => List.nodup_nil
 | m + 1 => by
  unfold sigsL
  refine List.nodup_append.2 ⟨sigsL_nd S wi wo m, by split <;> simp, fun a ha b hb e => ?_⟩
  have h1 := sigsL_lt S wi wo m a ha
  split at hb
  ·rw [List.mem_singleton.1 hb] at e; omega
  ·exact absurd hb List.not_mem_nil
theorem orL_listZ {s : Nat} (h : s < 18446744073709551616) : orL (listZ s) = s :=
 eq_of_bits (orL_lt _) h fun i hi => by
  rw [orL_bit, Bool.eq_iff_iff, decide_eq_true_eq]
  exact ⟨fun hh => (mem_listZ.1 hh.2).2, fun hh => ⟨hi, mem_listZ.2 ⟨hi, hh⟩⟩⟩
def sigE (e : En) : Nat := orL (e.2.map (·.1))
def fitE (wi wo : Nat) (e : En) : Bool := fitG wi wo (sigE e)
theorem mem_idsOf {k : Ks} {l : List Nat} {id : Int × Int} : id ∈ k.idsOf l ↔ ∃ n ∈ l, ∃ t, k.tb n = some t /\ id ∈ t.ids := by
 unfold Ks.idsOf
 rw [List.mem_flatten]
 constructor
 ·rintro ⟨y, hy, hid⟩
  obtain ⟨n, hn, rfl⟩ := List.mem_map.1 hy
  unfold Ks.at_ at hid
  cases ht : k.tb n with
  | none => rw [ht] at hid; exact absurd hid List.not_mem_nil
  | some t => rw [ht] at hid; exact ⟨n, hn, t, ht, hid⟩
 ·rintro ⟨n, hn, t, ht, hid⟩
  exact ⟨k.at_ n, List.mem_map.2 ⟨n, hn, rfl⟩, by unfold Ks.at_; rw [ht]; exact hid⟩
section
variable {x : Fx} {k : Ks} {s : Es}
theorem TS.ids_pl {pm : Int × Int -> Option (List Pt)} (h : TS x k pm) {n : Nat} {t : Tb} (ht : k.tb n = some t) {id : Int × Int} : id ∈ t.ids ↔ ∃ r, k.pl id = some (n, r) := by
 constructor
 ·intro hid
  obtain ⟨e, he, rfl⟩ := List.mem_map.1 hid
  obtain ⟨r, hr⟩ := List.mem_iff_getElem?.1 he
  exact ⟨r, (h.pl e.1 n r).2 ⟨t, e, ht, hr, rfl⟩⟩
 ·rintro ⟨r, hr⟩
  obtain ⟨t', e, ht', hr', rfl⟩ := (h.pl id n r).1 hr
  rw [ht] at ht'
  injection ht' with ht'
  subst ht'
  exact List.mem_map.2 ⟨e, List.mem_of_getElem? hr', rfl⟩
theorem TS.ids_nd {pm : Int × Int -> Option (List Pt)} (h : TS x k pm) {l : List Nat} (hl : l.Nodup) : (k.idsOf l).Nodup := by
 unfold Ks.idsOf
 refine List.pairwise_flatten.2 ⟨fun y hy => ?_, ?_⟩
 ·obtain ⟨n, hn, rfl⟩ := List.mem_map.1 hy
  unfold Ks.at_
  cases ht : k.tb n with
  | none => exact List.nodup_nil
  | some t =>
   refine List.pairwise_iff_getElem.2 fun i j hi hj hij e => ?_
   simp only [Tb.ids, List.length_map] at hi hj
   simp only [Tb.ids, List.getElem_map] at e
   have h1 := (h.pl t.rows[i].1 n i).2 ⟨t, _, ht, List.getElem?_eq_getElem hi, rfl⟩
   have h2 := (h.pl t.rows[i].1 n j).2 ⟨t, _, ht, List.getElem?_eq_getElem hj, e.symm⟩
   rw [h1] at h2
   injection h2 with h2
   injection h2 with _ h2
   omega
 ·refine List.pairwise_map.2 (hl.imp fun {a b} hab u hu v hv e => ?_)
  subst e
  unfold Ks.at_ at hu hv
  cases ht : k.tb a with
  | none => rw [ht] at hu; exact absurd hu List.not_mem_nil
  | some t =>
   cases ht' : k.tb b with
   | none => rw [ht'] at hv; exact absurd hv List.not_mem_nil
   | some t' =>
    rw [ht] at hu
    rw [ht'] at hv
    obtain ⟨r, h1⟩ := (h.ids_pl ht).1 hu
    obtain ⟨r', h2⟩ := (h.ids_pl ht').1 hv
    rw [h1] at h2
    injection h2 with h2
    injection h2 with h2 _
    exact hab h2
theorem Sim.sig (h : Sim x k s) (hx : XR x) (tok : ∀ n t, k.tb n = some t -> t.Ok) {n s0 : Nat} {t : Tb} {e : En} (ht : k.tb n = some t) (he : e ∈ t.rows) (hs0 : k.S[n]? = some s0) : sigE e = s0 /\ e ∈ s.ents := by
 obtain ⟨_, s1, hs1, hf, hcs⟩ := h.ts.tb n t ht
 rw [hs0] at hs1
 injection hs1 with hs1
 subst hs1
 have hR : RowOk (Tb.new x.n (zsK x.ks) s0).cs e.2 := by rw [<- hcs]; exact (tok n t ht).row e he
 exact ⟨by unfold sigE; rw [keys_of hx hf hR, orL_listZ (h.ts.S.at_lt hs0)], (pmOf_iff h.ok.up).1 (h.ts.row n t e ht he)⟩
theorem Sim.per (h : Sim x k s) (hx : XR x) (tok : ∀ n t, k.tb n = some t -> t.Ok) (wi wo : Nat) : (k.idsOf (sigsL k.S wi wo k.S.length)).Perm ((s.ents.filter (fitE wi wo)).map (·.1)) := by
 have hnd : ((s.ents.filter (fitE wi wo)).map (·.1)).Nodup := by
  refine List.pairwise_map.2 ((h.ok.up.filter _).imp fun {a b} hab e => ?_)
  rw [e] at hab
  omega
 refine (List.perm_ext_iff_of_nodup (h.ts.ids_nd (sigsL_nd _ _ _ _)) hnd).2 fun id => ?_
 rw [mem_idsOf, List.mem_map]
 constructor
 ·rintro ⟨n, hn, t, ht, hid⟩
  obtain ⟨hlt, hfit⟩ := mem_sigsL.1 hn
  obtain ⟨e, he, rfl⟩ := List.mem_map.1 hid
  have hs0 : k.S[n]? = some (k.S.getD n 0) := by rw [List.getD_eq_getElem?_getD, List.getElem?_eq_getElem hlt]; rfl
  obtain ⟨h1, h2⟩ := h.sig hx tok ht he hs0
  exact ⟨e, List.mem_filter.2 ⟨h2, by unfold fitE; rw [h1]; exact hfit⟩, rfl⟩
 ·rintro ⟨e, he, rfl⟩
  obtain ⟨h1, h2⟩ := List.mem_filter.1 he
  obtain ⟨n, r, hpl⟩ := h.ts.all e.1 e.2 ((pmOf_iff h.ok.up).2 h1)
  obtain ⟨t, ps, ht, hr, hrow, _, hpm⟩ := h.ts.at_ hpl
  have hps : ps = e.2 := by
   rw [(pmOf_iff h.ok.up).2 h1] at hpm
   injection hpm with hpm
   exact hpm.symm
  subst hps
  obtain ⟨_, s0, hs0, _⟩ := h.ts.tb n t ht
  obtain ⟨hlt, hg⟩ := List.getElem?_eq_some_iff.1 hs0
  have hm := List.mem_of_getElem? hrow
  obtain ⟨q1, _⟩ := h.sig hx tok ht hm hs0
  refine ⟨n, mem_sigsL.2 ⟨hlt, ?_⟩, t, ht, List.mem_map.2 ⟨_, hm, rfl⟩⟩
  rw [List.getD_eq_getElem?_getD, hs0]
  show fitG wi wo s0 = true
  rw [<- q1]
  exact h2
theorem fit0 (s : Nat) : fitG 0 0 s = true := by
 unfold fitG butN
 simp
theorem Sim.has (h : Sim x k s) (hx : XR x) (tok : ∀ n t, k.tb n = some t -> t.Ok) (hS : k.S.length <= 5000) : k.Has s.ents where
 per := by
  have := h.per hx tok 0 0
  rwa [show s.ents.filter (fitE 0 0) = s.ents from List.filter_eq_self.2 (fun e _ => fit0 _)] at this
 up := h.ok.up
 on e he := by
  obtain ⟨n, r, hpl⟩ := h.ts.all e.1 e.2 ((pmOf_iff h.ok.up).2 he)
  obtain ⟨t, ps, ht, hr, hrow, hget, hpm⟩ := h.ts.at_ hpl
  rw [(pmOf_iff h.ok.up).2 he] at hpm
  injection hpm with hpm
  exact ⟨h.ok.okE he, n, r, t, hpl, ht, h.ts.okN hS ht, hr, by rw [hget, hpm]⟩
end
end Go.Proofs.YtaoinkjjmakhaaaGreatDoor
namespace Go.Proofs.YtaoinkjjmakhaaaGreatDoor
open Go.RowKit
set_option maxRecDepth 20000
set_option linter.unusedVariables false
def rowT (n : Nat) (zs : Nat -> Int) (r : Rw) : Tb := ⟨(Tb.new n zs r.1).cs, ldRows (Tb.new n zs r.1).cs r.2.1 r.2.2 r.2.1.length⟩
def RowFit (n : Nat) (zs : Nat -> Int) (r : Rw) : Prop := r.1 &&& ofL (idxs n) 64 = r.1 /\ r.2.2.length = (Tb.new n zs r.1).cs.length /\ r.2.1.length <= 1024 /\ colsFit (Tb.new n zs r.1).cs r.2.1.length r.2.2 (Tb.new n zs r.1).cs.length
theorem TLd_iff {n : Nat} {zs : Nat -> Int} {r : Rw} {t : Tb} : TLd n zs r t ↔ t = rowT n zs r /\ RowFit n zs r := Iff.rfl
def RowIn (n : Nat) (zs : Nat -> Int) (xs : List Rw) (j : Nat) (r : Rw) : Prop := (∀ s', prevS xs j = some s' -> s' < r.1) /\ r.2.1 ≠ [] /\ RowFit n zs r
def entsTo (n : Nat) (zs : Nat -> Int) (xs : List Rw) (j : Nat) : List En := ((xs.take j).map fun r => (rowT n zs r).rows).flatten
section
variable {n : Nat} {zs : Nat -> Int} {s : NS} {xs : List Rw}
theorem rowT_ids (r : Rw) : (rowT n zs r).rows.map (·.1) = r.2.1 := ldRows_ids _ _ _
theorem entsTo_succ {j : Nat} {r : Rw} (h : xs[j]? = some r) : entsTo n zs xs (j + 1) = entsTo n zs xs j ++ (rowT n zs r).rows := by
 unfold entsTo
 rw [List.take_add_one, h]
 simp
theorem entsTo_ids (j : Nat) : (entsTo n zs xs j).map (·.1) = namesTo xs j := by
 unfold entsTo namesTo
 rw [List.map_flatten, List.map_map]
 congr 1
 exact List.map_congr_left fun r _ => rowT_ids r
theorem layP_ok (al : Int × Int -> Bool) (n : Nat) : ∀ (l : List (Int × Int)) (r : Nat) (pl : Int × Int -> Option (Nat × Nat)), l.Nodup -> (∀ id ∈ l, pl id = none /\ al id = true) -> ∃ q, layP al n r l pl = some q
 | [], r, pl, _, _ => ⟨pl, rfl⟩
 | a :: l, r, pl, hn, h => by
  obtain ⟨h1, h2⟩ := h a List.mem_cons_self
  rw [layP, h1, h2, if_neg (by simp)]
  refine layP_ok al n l (r + 1) _ (List.nodup_cons.1 hn).2 fun id hid => ?_
  have hne : id ≠ a := fun e => (List.nodup_cons.1 hn).1 (e ▸ hid)
  rw [if_neg hne]
  exact h id (List.mem_cons_of_mem _ hid)
theorem layP_at (al : Int × Int -> Bool) (n : Nat) : ∀ (l : List (Int × Int)) (r : Nat) (pl q : Int × Int -> Option (Nat × Nat)), layP al n r l pl = some q -> ∀ id m i, q id = some (m, i) ↔ (m = n /\ r <= i /\ l[i - r]? = some id) \/ (id ∉ l /\ pl id = some (m, i))
 | [], r, pl, q, h, id, m, i => by
  injection h with h
  subst h
  simp
 | a :: l, r, pl, q, h, id, m, i => by
  have hs := layP_said al n (a :: l) r pl q h
  rw [layP] at h
  by_cases h2 : ((pl a).isSome || !al a) = true
  ·rw [if_pos h2] at h; cases h
  rw [if_neg h2] at h
  rw [layP_at al n l (r + 1) _ q h id m i]
  have ha : a ∉ l := (List.nodup_cons.1 hs.1).1
  by_cases e : id = a
  ·subst e
   rw [if_pos rfl]
   constructor
   ·rintro (⟨h3, h4, h5⟩ | ⟨_, h3⟩)
    ·exact absurd (List.mem_of_getElem? h5) ha
    ·injection h3 with h3
     injection h3 with h4 h5
     subst h4 h5
     exact .inl ⟨rfl, Nat.le_refl _, by simp⟩
   ·rintro (⟨h3, h4, h5⟩ | ⟨h3, _⟩)
    ·by_cases hir : i = r
     ·subst hir; subst h3; exact .inr ⟨ha, rfl⟩
     ·rw [show i - r = (i - (r + 1)) + 1 by omega, List.getElem?_cons_succ] at h5
      exact absurd (List.mem_of_getElem? h5) ha
    ·exact absurd List.mem_cons_self h3
  ·rw [if_neg e]
   constructor
   ·rintro (⟨h3, h4, h5⟩ | ⟨h3, h4⟩)
    ·exact .inl ⟨h3, by omega, by rw [show i - r = (i - (r + 1)) + 1 by omega, List.getElem?_cons_succ]; exact h5⟩
    ·exact .inr ⟨fun h5 => by rcases List.mem_cons.1 h5 with h5 | h5; exact e h5; exact h3 h5, h4⟩
   ·rintro (⟨h3, h4, h5⟩ | ⟨h3, h4⟩)
    ·by_cases hir : i = r
     ·subst hir
      rw [Nat.sub_self, List.getElem?_cons_zero] at h5
      injection h5 with h5
      exact absurd h5.symm e
     ·exact .inl ⟨h3, by omega, by rw [show i - r = (i - (r + 1)) + 1 by omega, List.getElem?_cons_succ] at h5; exact h5⟩
    ·exact .inr ⟨fun h5 => h3 (List.mem_cons_of_mem _ h5), h4⟩
theorem LdTo.rows : ∀ {m : Nat} {k : Ks}, LdTo n zs s xs m k -> ∀ j r, j < m -> xs[j]? = some r -> RowIn n zs xs j r
 | 0, _, _, _, _, hj, _ => absurd hj (Nat.not_lt_zero _)
 | m + 1, _, ⟨r', q, hr', hb, h1, h2, t, ht, _⟩, j, r, hj, hr => by
  by_cases e : j = m
  ·subst e
   rw [hr'] at hr
   injection hr with hr
   subst hr
   exact ⟨h1, h2, (TLd_iff.1 ht).2⟩
  ·exact LdTo.rows hb j r (by omega) hr
theorem LdTo.make : ∀ (m : Nat), m <= xs.length -> (∀ j r, j < m -> xs[j]? = some r -> RowIn n zs xs j r) -> (namesTo xs m).Nodup -> (∀ id ∈ namesTo xs m, s.alive id.1 id.2 = true) -> ∃ k, LdTo n zs s xs m k
 | 0, _, _, _, _ => ⟨ks0 s, rfl⟩
 | m + 1, hm, hr, hn, ha => by
  obtain ⟨r, hrm⟩ : ∃ r, xs[m]? = some r := ⟨_, List.getElem?_eq_getElem (by omega)⟩
  rw [namesTo_succ hrm] at hn ha
  have hn' := List.nodup_append.1 hn
  obtain ⟨k, hk⟩ := LdTo.make m (by omega) (fun j r hj => hr j r (by omega)) hn'.1 (fun id h => ha id (List.mem_append_left _ h))
  obtain ⟨h1, h2, h3⟩ := hr m r (by omega) hrm
  obtain ⟨l1, l2, l3⟩ := LdTo.names hk
  obtain ⟨q, hq⟩ := layP_ok (fun id => k.ns.alive id.1 id.2) (gNode k.S r.1).2 (rowT n zs r).ids 0 k.pl (by unfold Tb.ids; rw [rowT_ids]; exact hn'.2.1) (fun id hid => by
   unfold Tb.ids at hid
   rw [rowT_ids] at hid
   refine ⟨?_, by rw [LdTo.ns hk]; exact ha id (List.mem_append_right _ hid)⟩
   cases hp : k.pl id with
   | none => rfl
   | some v => exact absurd rfl (hn'.2.2 id ((l2 id).1 (by rw [hp]; rfl)) id hid))
  exact ⟨_, r, k, hrm, hk, h1, h2, rowT n zs r, TLd_iff.2 ⟨rfl, h3⟩, q, hq, rfl⟩
theorem pmN_iff {es : List En} (h : (es.map (·.1)).Nodup) {id : Int × Int} {ps : List Pt} : pmOf es id = some ps ↔ (id, ps) ∈ es := by
 induction es with
 | nil => simp [pmOf]
 | cons e es ih =>
  rw [List.map_cons, List.nodup_cons] at h
  unfold pmOf at ih ⊢
  by_cases he : e.1 = id
  ·rw [List.find?_cons_of_pos (by simp [he])]
   simp only [Option.map_some, Option.some.injEq, List.mem_cons]
   constructor
   ·rintro rfl
    exact .inl (by rw [<- he])
   ·rintro (h1 | h1)
    ·rw [<- h1]
    ·exact absurd (List.mem_map.2 ⟨_, h1, he.symm⟩) h.1
  ·rw [List.find?_cons_of_neg (by simp [he]), ih h.2, List.mem_cons]
   constructor
   ·exact .inr
   ·rintro (h1 | h1)
    ·exact absurd (by rw [<- h1]) he
    ·exact h1
end
end Go.Proofs.YtaoinkjjmakhaaaGreatDoor
namespace Go.Proofs.YtaoinkjjmakhaaaGreatDoor
open Go.RowKit
set_option maxRecDepth 20000
set_option linter.unusedVariables false
section
variable (lg pg en gn : Int) (A : Option Addr) (n cap : Nat) (ks : List Kd) (w : World)
def RTLd (K : Nat -> Prop) (n : Nat) (ks : List Kd) (r : Rw) (w : World) (e : Ending) (w' : World) : Prop := Below w.heap.size w w' /\
 ((RowFit n (zsK ks) r /\ ∃ d : Rt, e = .returned (.tuple #[.agg d.cs, .int .i64 0]) /\ RtS (fun y => K y \/ (w.heap.size <= y /\ y < w'.heap.size)) w' d (rowT n (zsK ks) r)) \/
 (¬ RowFit n (zsK ks) r /\ e = .returned (.tuple #[.agg #[.slice none 0 0, .slice none 0 0, .slice none 0 0], .int .i64 11])))
theorem RTLoad_go {K : Nat -> Prop} (h : KRd w A n ks) (hn : n <= 1000000) (r : Rw) (hs : r.1 < 18446744073709551616) (IA : Option Addr) (ic : Nat) (CA : Option Addr) (cx : Nat) (hi : IdsV K w IA r.2.1.length r.2.1) (hc : RowsV K w CA r.2.2.length r.2.2) (hm : r.2.1.length <= 1000000) (hcn : r.2.2.length <= 1000000)
  (hcap : ∀ k uA un uc b o, CA = some ⟨b, o, none⟩ -> k < r.2.2.length -> w.cell? ⟨b, o + k, none⟩ = some (.slice uA un uc) -> un <= uc /\ uc <= maxLen) (hlen : ∀ l ∈ r.2.2, l.length <= 1000) :
  Calls Tryz.prog 54 #[cv lg pg en gn A n cap, .int .u64 (r.1 : Nat), .slice IA r.2.1.length ic, .slice CA r.2.2.length cx] w (RTLd K n ks r w) := by
 by_cases hg : r.1 &&& ofL (idxs n) 64 = r.1 /\ r.2.2.length = (Tb.new n (zsK ks) r.1).cs.length /\ r.2.1.length <= 1024
 ·obtain ⟨g1, g2, g3⟩ := hg
  rw [g2] at hc hcap ⊢
  refine (RLoad_some lg pg en gn A n cap ks w h hn r.1 hs IA ic r.2.1 CA cx r.2.2 _ rfl hi hc g1 g3 hcap (fun j hj => ?_)).mono ?_
  ·rw [List.getD_eq_getElem?_getD, List.getElem?_eq_getElem (by rw [g2]; exact hj)]
   exact Nat.le_trans (hlen _ (List.getElem_mem _)) (by decide)
  ·rintro e w' ⟨hb, ⟨hf, d, rfl, hd⟩ | ⟨hf, rfl⟩⟩
   ·exact ⟨hb, .inl ⟨⟨g1, g2, g3, hf⟩, d, rfl, hd⟩⟩
   ·exact ⟨hb, .inr ⟨fun h => hf h.2.2.2, rfl⟩⟩
 ·refine (RLoad_no lg pg en gn A n cap ks w h hn r.1 hs IA _ ic CA _ cx hm hcn hg).mono ?_
  rintro e w' ⟨rfl, hb⟩
  exact ⟨hb, .inr ⟨fun h => hg ⟨h.1, h.2.1, h.2.2.1⟩, rfl⟩⟩
end
end Go.Proofs.YtaoinkjjmakhaaaGreatDoor
namespace Go.Proofs.YtaoinkjjmakhaaaGreatDoor
open Go.RowKit Go.ChangeShapes Go.WideShapes Go.Deep
set_option maxRecDepth 20000
abbrev IdsRd (w : World) (A : Option Addr) (n : Nat) (xs : List (Int × Int)) : Prop := xs.length = n /\ IdsV (· < w.heap.size) w A n xs
def ColsRd (w : World) (A : Option Addr) (n : Nat) (ls : List (List UInt8)) : Prop :=
 ls.length = n /\ RowsV (· < w.heap.size) w A n ls /\ (∀ k uA un uc b o, A = some ⟨b, o, none⟩ -> k < n -> w.cell? ⟨b, o + k, none⟩ = some (.slice uA un uc) -> un <= uc /\ uc <= maxLen) /\
  (0 < n -> ∃ b o, A = some ⟨b, o, none⟩ /\ b < w.heap.size /\ ∀ k, k < n -> ∃ uA un uc, w.cell? ⟨b, o + k, none⟩ = some (.slice uA un uc) /\ (ls.getD k []).length = un /\ un <= maxLen)
section
variable {H : Type} {enc : TypeId × Value -> H} {w : World} {base : Nat} {held : Bool}
theorem open_idsW {fuel : Nat} {cs : List Value} {x : DataW H × List MemPlace} (h : DataW.trod enc Tryz.prog w base (fun _ => true) held fuel 66 cs = some x) :
  ∃ A n c xs, cs = [.slice A n c] /\ (IdsRd w A n xs /\ ∀ x ∈ xs, (Lit.int .i64 x.1).wf = true /\ (Lit.int .i64 x.2).wf = true) /\ n <= c /\ c <= maxLen := by
 have nil : ∀ A : Option Addr, IdsRd w A 0 [] := fun A => ⟨rfl, ⟨[], rfl, ⟨rfl, fun _ => rfl, fun h => absurd h (Nat.lt_irrefl 0)⟩, ⟨[], rfl, rfl, fun _ h => absurd h List.not_mem_nil, fun _ _ h => by cases h⟩⟩⟩
 rcases elems_at Tryz.underlying66 h with h0 | ⟨a, len, cap, hcs, hl, hm, hi⟩
 ·exact ⟨none, 0, 0, [], h0, ⟨nil _, fun _ h => absurd h List.not_mem_nil⟩, Nat.le_refl _, Nat.zero_le _⟩
 have h4 : Tryz.prog.cellsOf 32 = 2 := by kernel_rfl
 rw [h4] at hi
 have key : ∀ i, ∃ x : Int × Int, i < len -> (w.cell? ((a.add (i * 2)).add 0) = some (.int .i64 x.1) /\ w.cell? ((a.add (i * 2)).add 1) = some (.int .i64 x.2)) /\ (Lit.int .i64 x.1).wf = true /\ (Lit.int .i64 x.2).wf = true := fun i => by
  by_cases hil : i < len
  ·obtain ⟨cs', n, y, hc, ht⟩ := hi i hil
   obtain ⟨v0, n0, y0, e0, t0⟩ := field_at Tryz.underlying32 (by kernel_rfl) (by kernel_rfl) ht 0 _ rfl
   obtain ⟨v1, n1, y1, e1, t1⟩ := field_at Tryz.underlying32 (by kernel_rfl) (by kernel_rfl) ht 1 _ rfl
   obtain ⟨k, ek, _, wk⟩ := DataW.trod_int Tryz.underlying3 t0
   obtain ⟨m, em, _, wm⟩ := DataW.trod_int Tryz.underlying3 t1
   simp only [List.cons.injEq, and_true] at ek em
   subst ek em
   exact ⟨(k, m), fun _ => ⟨⟨(hc 0 (by decide)).trans e0, (hc 1 (by decide)).trans e1⟩, wk, wm⟩⟩
  ·exact ⟨(0, 0), fun h => absurd h hil⟩
 obtain ⟨F, hF⟩ := Classical.axiomOfChoice key
 rcases Nat.eq_zero_or_pos len with h0 | hpos
 ·subst h0
  exact ⟨some a, 0, cap, [], hcs, ⟨nil _, fun _ h => absurd h List.not_mem_nil⟩, hl, hm⟩
 obtain ⟨b, off, spot⟩ := a
 have hs := (hF 0 hpos).1.1
 have hspot : spot = none := by simpa [Addr.add] using World.cell?_spot hs
 subst hspot
 have hlt : b < w.heap.size := by simpa [Addr.add] using World.block_lt_of_cell? w _ hs
 refine ⟨_, len, cap, (List.range len).map F, hcs, ⟨⟨by simp, RowsL.mk (by decide) F (fun i => [.int .i64 (F i).1, .int .i64 (F i).2]) (fun _ => ⟨hlt, hlt⟩) (fun i hi' => ⟨rfl, rfl, fun r u hr => ?_⟩)⟩, fun x hx => ?_⟩, hl, hm⟩
 rotate_left 1
 ·obtain ⟨i, hi', rfl⟩ := List.mem_map.1 hx
  exact (hF i (List.mem_range.1 hi')).2
 obtain ⟨c0, c1⟩ := (hF i hi').1
 rw [Addr.add_lit, Addr.add_lit] at c0 c1
 match r, hr with
 | 0, hr => injection hr with hr; rw [<- hr]; exact c0
 | 1, hr => injection hr with hr; rw [<- hr, <- Nat.add_assoc]; exact c1
theorem open_cols {fuel : Nat} {cs : List Value} {x : DataW H × List MemPlace} (h : DataW.trod enc Tryz.prog w base (fun _ => true) held fuel 98 cs = some x) :
  ∃ A n c ls, cs = [.slice A n c] /\ ColsRd w A n ls /\ n <= c /\ c <= maxLen := by
 have nil : ∀ A : Option Addr, ColsRd w A 0 [] := fun A => ⟨rfl, ⟨[], rfl, ⟨rfl, fun _ => rfl, fun h => absurd h (Nat.lt_irrefl 0)⟩, rfl, fun _ _ h => by cases h⟩, fun _ _ _ _ _ _ _ hk => absurd hk (Nat.not_lt_zero _), fun h => absurd h (Nat.lt_irrefl 0)⟩
 rcases elems_at Tryz.underlying98 h with h0 | ⟨a, len, cap, hcs, hl, hm, hi⟩
 ·exact ⟨none, 0, 0, [], h0, nil _, Nat.le_refl _, Nat.zero_le _⟩
 have h4 : Tryz.prog.cellsOf 33 = 1 := by kernel_rfl
 rw [h4] at hi
 have key : ∀ i, ∃ x : List UInt8 × Option Addr × Nat × Nat, i < len -> (w.cell? ((a.add (i * 1)).add 0) = some (.slice x.2.1 x.2.2.1 x.2.2.2) /\ VB (· < w.heap.size) w (.slice x.2.1 x.2.2.1 x.2.2.2) x.1 /\ x.2.2.1 <= x.2.2.2 /\ x.2.2.2 <= maxLen) := fun i => by
  by_cases hil : i < len
  ·obtain ⟨cs', n, y, hc, ht⟩ := hi i hil
   obtain ⟨bA, bn, bc, b, eb, hvb, h1, h2⟩ := open_vb ht
   subst eb
   exact ⟨(b, bA, bn, bc), fun _ => ⟨hc 0 (by decide), hvb, h1, h2⟩⟩
  ·exact ⟨([], none, 0, 0), fun h => absurd h hil⟩
 obtain ⟨F, hF⟩ := Classical.axiomOfChoice key
 rcases Nat.eq_zero_or_pos len with h0 | hpos
 ·subst h0
  exact ⟨some a, 0, cap, [], hcs, nil _, hl, hm⟩
 obtain ⟨b, off, spot⟩ := a
 have hs := (hF 0 hpos).1
 have hspot : spot = none := by simpa [Addr.add] using World.cell?_spot hs
 subst hspot
 have hlt : b < w.heap.size := by simpa [Addr.add] using World.block_lt_of_cell? w _ hs
 have hcell : ∀ k, k < len -> w.cell? ⟨b, off + k, none⟩ = some (.slice (F k).2.1 (F k).2.2.1 (F k).2.2.2) := fun k hk => by
  have := (hF k hk).1
  rw [Addr.add_lit, Addr.add_lit, Nat.mul_one] at this
  exact this
 have hget : ∀ k, k < len -> ((List.range len).map fun i => (F i).1).getD k [] = (F k).1 := fun k hk => by
  rw [List.getD_eq_getElem?_getD, List.getElem?_map, List.getElem?_range hk]
  rfl
 refine ⟨_, len, cap, (List.range len).map fun i => (F i).1, hcs, ⟨by simp, ⟨(List.range len).map fun i => .slice (F i).2.1 (F i).2.2.1 (F i).2.2.2, by simp, ⟨by simp, (fun e => by cases e), fun _ => ⟨b, off, rfl, hlt, hlt, fun j u hj => ?_⟩⟩, by simp, fun j u hj => ?_⟩, fun k uA un uc b' o' e hk hc => ?_, fun _ => ⟨b, off, rfl, hlt, fun k hk => ⟨_, _, _, hcell k hk, ?_, Nat.le_trans (hF k hk).2.2.1 (hF k hk).2.2.2⟩⟩⟩, hl, hm⟩
 ·have hjl : j < len := by have := (List.getElem?_eq_some_iff.1 hj).1; simpa using this
  rw [List.getElem?_map, List.getElem?_range hjl] at hj
  injection hj with hj
  rw [<- hj]
  exact hcell j hjl
 ·have hjl : j < len := by have := (List.getElem?_eq_some_iff.1 hj).1; simpa using this
  rw [List.getElem?_map, List.getElem?_range hjl] at hj
  injection hj with hj
  rw [<- hj, hget j hjl]
  exact (hF j hjl).2.1
 ·injection e with e
  injection e with e1 e2
  subst e1 e2
  rw [hcell k hk] at hc
  injection hc with hc
  injection hc with c1 c2 c3
  subst c2 c3
  exact (hF k hk).2.2
 ·rw [hget k hk]
  obtain ⟨A', m', c', e, hr, _⟩ := (hF k hk).2.1
  injection e with e1 e2 e3
  rw [e2]
  exact hr.1
end
end Go.Proofs.YtaoinkjjmakhaaaGreatDoor
namespace Go.Proofs.YtaoinkjjmakhaaaGreatDoor
open Go.RowKit Go.ChangeShapes Go.WideShapes Go.Deep
set_option maxRecDepth 20000
structure RwL (w : World) (b o : Nat) (r : Rw) (IA : Option Addr) (ic : Nat) (CA : Option Addr) (cc : Nat) : Prop where
 c0 : w.cell? ⟨b, o, none⟩ = some (.int .u64 r.1)
 c1 : w.cell? ⟨b, o + 1, none⟩ = some (.slice IA r.2.1.length ic)
 c2 : w.cell? ⟨b, o + 2, none⟩ = some (.slice CA r.2.2.length cc)
 i : IdsRd w IA r.2.1.length r.2.1 /\ r.2.1.length <= ic /\ ic <= maxLen
 c : ColsRd w CA r.2.2.length r.2.2 /\ r.2.2.length <= cc /\ cc <= maxLen
def Rw.wf (r : Rw) : Prop := r.1 < 18446744073709551616 /\ ∀ x ∈ r.2.1, (Lit.int .i64 x.1).wf = true /\ (Lit.int .i64 x.2).wf = true
def RowsRd (w : World) (A : Option Addr) (n : Nat) (xs : List Rw) : Prop :=
 xs.length = n /\ RwsV (· < w.heap.size) w A n xs /\ (∀ r ∈ xs, r.wf) /\ ∀ (b o k : Nat) (r : Rw), A = some ⟨b, o, none⟩ -> xs[k]? = some r -> ∃ IA ic CA cc, RwL w b (o + k * 3) r IA ic CA cc
section
variable {H : Type} {enc : TypeId × Value -> H} {w : World} {base : Nat} {held : Bool}
theorem open_rw {fuel : Nat} {cs : List Value} {y : DataW H × List MemPlace} (h : DataW.trod enc Tryz.prog w base (fun _ => true) held fuel 100 cs = some y) :
  ∃ (r : Rw) (IA : Option Addr) (ic : Nat) (CA : Option Addr) (cc : Nat), (cs[0]? = some (.int .u64 r.1) /\ cs[1]? = some (.slice IA r.2.1.length ic) /\ cs[2]? = some (.slice CA r.2.2.length cc)) /\ r.wf /\
   (IdsRd w IA r.2.1.length r.2.1 /\ r.2.1.length <= ic /\ ic <= maxLen) /\ (ColsRd w CA r.2.2.length r.2.2 /\ r.2.2.length <= cc /\ cc <= maxLen) := by
 obtain ⟨v0, n0, y0, e0, t0⟩ := field_at Tryz.underlying100 (by kernel_rfl) (by kernel_rfl) h 0 _ rfl
 obtain ⟨v1, n1, y1, e1, t1⟩ := field_at Tryz.underlying100 (by kernel_rfl) (by kernel_rfl) h 1 _ rfl
 obtain ⟨v2, n2, y2, e2, t2⟩ := field_at Tryz.underlying100 (by kernel_rfl) (by kernel_rfl) h 2 _ rfl
 obtain ⟨s, es, _, ws⟩ := DataW.trod_int Tryz.underlying68 t0
 obtain ⟨IA, m, ic, ids, ei, ⟨hi, hwi⟩, hi1, hi2⟩ := open_idsW t1
 obtain ⟨CA, k, cc, cols, ec, hc, hc1, hc2⟩ := open_cols t2
 have hbs := bounds_u64 ws
 obtain ⟨sg, rfl⟩ : ∃ b : Nat, s = (b : Int) := ⟨s.toNat, by omega⟩
 simp only [List.cons.injEq, and_true] at es ei ec
 have hm := hi.1
 have hk := hc.1
 subst hm hk es ei ec
 exact ⟨(sg, ids, cols), IA, ic, CA, cc, ⟨e0, e1, e2⟩, ⟨(show sg < 18446744073709551616 by omega), hwi⟩, ⟨hi, hi1, hi2⟩, hc, hc1, hc2⟩
theorem ColsRd.l {A : Option Addr} {n : Nat} {ls : List (List UInt8)} (h : ColsRd w A n ls) : RowsL 1 (EB (· < w.heap.size) w) (· < w.heap.size) w A n ls := by
 obtain ⟨hl, hv, _⟩ := h
 exact RowsV.l hv
theorem open_rws {fuel : Nat} {cs : List Value} {x : DataW H × List MemPlace} (h : DataW.trod enc Tryz.prog w base (fun _ => true) held fuel 43 cs = some x) :
  ∃ A n c xs, cs = [.slice A n c] /\ RowsRd w A n xs /\ n <= c /\ c <= maxLen := by
 have nil : ∀ A : Option Addr, RowsRd w A 0 [] := fun A => ⟨rfl, ⟨[], rfl, ⟨rfl, fun _ => rfl, fun h => absurd h (Nat.lt_irrefl 0)⟩, HdL.nil _ _⟩, fun _ h => absurd h List.not_mem_nil, fun _ _ _ _ _ h => by cases h⟩
 rcases elems_at Tryz.underlying43 h with h0 | ⟨a, len, cap, hcs, hl, hm, hi⟩
 ·exact ⟨none, 0, 0, [], h0, nil _, Nat.le_refl _, Nat.zero_le _⟩
 have h4 : Tryz.prog.cellsOf 100 = 3 := by kernel_rfl
 rw [h4] at hi
 have key : ∀ i, ∃ x : Rw × Option Addr × Nat × Option Addr × Nat, i < len -> (w.cell? ((a.add (i * 3)).add 0) = some (.int .u64 x.1.1) /\ w.cell? ((a.add (i * 3)).add 1) = some (.slice x.2.1 x.1.2.1.length x.2.2.1) /\ w.cell? ((a.add (i * 3)).add 2) = some (.slice x.2.2.2.1 x.1.2.2.length x.2.2.2.2)) /\ x.1.wf /\
   (IdsRd w x.2.1 x.1.2.1.length x.1.2.1 /\ x.1.2.1.length <= x.2.2.1 /\ x.2.2.1 <= maxLen) /\ (ColsRd w x.2.2.2.1 x.1.2.2.length x.1.2.2 /\ x.1.2.2.length <= x.2.2.2.2 /\ x.2.2.2.2 <= maxLen) := fun i => by
  by_cases hil : i < len
  ·obtain ⟨cs', n, y, hc, ht⟩ := hi i hil
   obtain ⟨r, IA, ic, CA, cc, ⟨q0, q1, q2⟩, hw, h1, h2⟩ := open_rw ht
   exact ⟨(r, IA, ic, CA, cc), fun _ => ⟨⟨(hc 0 (by decide)).trans q0, (hc 1 (by decide)).trans q1, (hc 2 (by decide)).trans q2⟩, hw, h1, h2⟩⟩
  ·exact ⟨((0, [], []), none, 0, none, 0), fun h => absurd h hil⟩
 obtain ⟨F, hF⟩ := Classical.axiomOfChoice key
 rcases Nat.eq_zero_or_pos len with h0 | hpos
 ·subst h0
  exact ⟨some a, 0, cap, [], hcs, nil _, hl, hm⟩
 obtain ⟨b, off, spot⟩ := a
 have hs := (hF 0 hpos).1.1
 have hspot : spot = none := by simpa [Addr.add] using World.cell?_spot hs
 subst hspot
 have hlt : b < w.heap.size := by simpa [Addr.add] using World.block_lt_of_cell? w _ hs
 have hcell : ∀ i, i < len -> RwL w b (off + i * 3) (F i).1 (F i).2.1 (F i).2.2.1 (F i).2.2.2.1 (F i).2.2.2.2 := fun i hi' => by
  obtain ⟨⟨q0, q1, q2⟩, _, h1, h2⟩ := hF i hi'
  rw [Addr.add_lit, Addr.add_lit] at q0 q1 q2
  rw [Nat.add_zero] at q0
  exact ⟨q0, q1, q2, h1, h2⟩
 refine ⟨_, len, cap, (List.range len).map fun i => (F i).1, hcs, ⟨by simp, RowsL.mk (by decide) (fun i => (F i).1) (fun i => [.int .u64 (F i).1.1, .slice (F i).2.1 (F i).1.2.1.length (F i).2.2.1, .slice (F i).2.2.2.1 (F i).1.2.2.length (F i).2.2.2.2]) (fun _ => ⟨hlt, hlt⟩)
  (fun i hi' => ⟨rfl, ⟨_, _, _, _, rfl, (hF i hi').2.2.1.1.2, (hF i hi').2.2.2.1.l⟩, fun r u hr => ?_⟩), fun r hr => ?_, fun b' o' k r e hk => ?_⟩, hl, hm⟩
 ·have C := hcell i hi'
  rw [<- Nat.add_assoc]
  match r, hr with
  | 0, hr => injection hr with hr; rw [<- hr]; exact C.c0
  | 1, hr => injection hr with hr; rw [<- hr]; exact C.c1
  | 2, hr => injection hr with hr; rw [<- hr]; exact C.c2
 ·obtain ⟨i, hi', rfl⟩ := List.mem_map.1 hr
  exact (hF i (List.mem_range.1 hi')).2.1
 ·injection e with e
  injection e with e1 e2
  subst e1 e2
  have hkl : k < len := by have := (List.getElem?_eq_some_iff.1 hk).1; simpa using this
  rw [List.getElem?_map, List.getElem?_range hkl] at hk
  injection hk with hk
  subst hk
  exact ⟨_, _, _, _, hcell k hkl⟩
end
end Go.Proofs.YtaoinkjjmakhaaaGreatDoor
namespace Go.Proofs.YtaoinkjjmakhaaaGreatDoor
open Go.RowKit
set_option maxRecDepth 20000
theorem VB.read {K : Nat -> Prop} {w : World} {A : Option Addr} {n c : Nat} {l : List UInt8} (h : VB K w (.slice A n c) l) : Rd w A n l := by
 obtain ⟨A', n', c', e, hr, _⟩ := h
 injection e with e1 e2 e3
 subst e1 e2
 exact hr
theorem RwsV.cell {K : Nat -> Prop} {w : World} {A : Option Addr} {n : Nat} {xs : List Rw} (h : RwsV K w A n xs) {j : Nat} {x : Rw} (hj : xs[j]? = some x) : ∃ b o IA ic CA cc, A = some ⟨b, o, none⟩ /\ b < w.heap.size /\ w.cell? ⟨b, o + j * 3, none⟩ = some (.int .u64 x.1) /\
  w.cell? ⟨b, o + j * 3 + 1, none⟩ = some (.slice IA x.2.1.length ic) /\ w.cell? ⟨b, o + j * 3 + 2, none⟩ = some (.slice CA x.2.2.length cc) /\ IdsV K w IA x.2.1.length x.2.1 /\ ColsL K w CA x.2.2.length x.2.2 := by
 obtain ⟨b, o, r, e, _, hlt, _, ⟨IA, ic, CA, cc, rfl, hI, hC⟩, hc⟩ := RowsL.cells h hj
 exact ⟨b, o, IA, ic, CA, cc, e, hlt, by have := hc 0 _ (by decide) rfl; rw [Nat.add_zero] at this; exact this, by have := hc 1 _ (by decide) rfl; rw [<- Nat.add_assoc] at this; exact this, by have := hc 2 _ (by decide) rfl; rw [<- Nat.add_assoc] at this; exact this, hI, hC⟩
theorem ColsL.cell {K : Nat -> Prop} {w : World} {A : Option Addr} {n : Nat} {ls : List (List UInt8)} (h : ColsL K w A n ls) {k : Nat} {l : List UInt8} (hk : ls[k]? = some l) : ∃ b o QA qn qc, A = some ⟨b, o, none⟩ /\ b < w.heap.size /\ w.cell? ⟨b, o + k, none⟩ = some (.slice QA qn qc) /\ VB K w (.slice QA qn qc) l := by
 obtain ⟨b, o, r, e, _, hlt, _, ⟨u, rfl, hV⟩, hc⟩ := RowsL.cells h hk
 obtain ⟨QA, qn, qc, rfl, hr⟩ := hV
 exact ⟨b, o, QA, qn, qc, e, hlt, by have := hc 0 _ (by decide) rfl; rw [Nat.add_zero, Nat.mul_one] at this; exact this, ⟨QA, qn, qc, rfl, hr⟩⟩
set_option maxHeartbeats 2000000 in
theorem RSameRows_yes {K K' : Nat -> Prop} (A A' : Option Addr) (n c c' : Nat) (xs : List Rw) (w : World) (h : RwsV K w A n xs) (h' : RwsV K' w A' n xs) (hn : n <= 1000000) (hx : ∀ x ∈ xs, x.2.1.length <= 1000000 /\ x.2.2.length <= 1000000) :
  Calls Tryz.prog 13 #[.slice A n c, .slice A' n c'] w fun e w' => e = .returned (.bool true) /\ Below w.heap.size w w' := by
 have HL : Hid (xs.length = n) := hi_ (by obtain ⟨_, h1, _⟩ := h; exact h1)
 have H := hi_ (And.intro h (And.intro h' hx))
 clear h h' hx
 go_enter Tryz.func13, Tryz.ntmps13
 go_wp2
 go_loopw [5] (fun iv wr => ∃ j : Nat, j <= n /\ iv = .int .i64 j /\ Below w.heap.size w wr) (fun iv _ => n - (intOf iv).toNat)
 case atStart => exact ⟨0, Nat.zero_le _, rfl, Below.refl _ _⟩
 case round =>
  obtain ⟨j, hj, rfl, hB⟩ := hrel
  obtain ⟨wo, hwo⟩ : ∃ v, v = wr := ⟨_, rfl⟩
  subst hwo
  by_cases hjn : j < n
  ·obtain ⟨y, hy⟩ : ∃ y, xs[j]? = some y := ⟨_, List.getElem?_eq_getElem (by rw [HL.out]; exact hjn)⟩
   obtain ⟨b, o, IA, ic, CA, cc, hA, hblt, h0, h1, h2, hI, hC⟩ := H.out.1.cell hy
   obtain ⟨b', o', IA', ic', CA', cc', hA', hblt', h0', h1', h2', hI', hC'⟩ := H.out.2.1.cell hy
   subst hA hA'
   have hyl := H.out.2.2 y (List.mem_of_getElem? hy)
   obtain ⟨sg, ids, cols⟩ := y
   simp only at h0 h1 h2 h0' h1' h2' hI hC hI' hC' hyl
   obtain ⟨m, hm⟩ : ∃ m, m = ids.length := ⟨_, rfl⟩
   obtain ⟨q, hq⟩ : ∃ q, q = cols.length := ⟨_, rfl⟩
   rw [<- hm] at h1 h1' hI hI' hyl
   rw [<- hq] at h2 h2' hC hC' hyl
   have HX : Hid (∀ W, Below wo.heap.size wo W -> ((W.cell? ⟨b, o + j * 3, none⟩ = some (.int .u64 sg) /\ W.cell? ⟨b, o + j * 3 + 1, none⟩ = some (.slice IA m ic) /\ W.cell? ⟨b, o + j * 3 + 2, none⟩ = some (.slice CA q cc)) /\ (W.cell? ⟨b', o' + j * 3, none⟩ = some (.int .u64 sg) /\ W.cell? ⟨b', o' + j * 3 + 1, none⟩ = some (.slice IA' m ic') /\ W.cell? ⟨b', o' + j * 3 + 2, none⟩ = some (.slice CA' q cc')))) := hi_ (fun W hW => by
    have hwW := hB.trans (hW.mono hB.size)
    exact ⟨⟨(hwW.cell (p := ⟨b, o + j * 3, none⟩) hblt).trans h0, (hwW.cell (p := ⟨b, o + j * 3 + 1, none⟩) hblt).trans h1, (hwW.cell (p := ⟨b, o + j * 3 + 2, none⟩) hblt).trans h2⟩,
     (hwW.cell (p := ⟨b', o' + j * 3, none⟩) hblt').trans h0', (hwW.cell (p := ⟨b', o' + j * 3 + 1, none⟩) hblt').trans h1', (hwW.cell (p := ⟨b', o' + j * 3 + 2, none⟩) hblt').trans h2'⟩)
   have CP : Hid (Calls Tryz.prog 39 #[.slice IA m ic, .slice IA' m ic'] wo.drew fun e w' => e = .returned (.bool true) /\ Below wo.drew.heap.size wo.drew w') := hi_ (by
    have hwd : Below w.heap.size w wo.drew := hB.drew
    exact SameIDs_yes IA IA' m ic ic' ids wo.drew (hI.below hwd) (hI'.below hwd) hyl.1)
   have hq1 := hyl.2
   have HQ := hi_ hq
   have HC := hi_ (And.intro hC hC')
   have s1 := HX.out wo.drew (Below.refl _ _).drew
   have HB := hi_ hB
   clear h0 h1 h2 h0' h1' h2' hI hI' hC hC' hy hyl hm hq hblt hblt' hB
   go_upto_region 6 with fail
   refine wp_region_noPanic ?_
   refine wp_region_held_drew (S := fun W => ((W.cell? ⟨b, o + j * 3, none⟩ = some (.int .u64 sg) /\ W.cell? ⟨b, o + j * 3 + 1, none⟩ = some (.slice IA m ic) /\ W.cell? ⟨b, o + j * 3 + 2, none⟩ = some (.slice CA q cc)) /\ (W.cell? ⟨b', o' + j * 3, none⟩ = some (.int .u64 sg) /\ W.cell? ⟨b', o' + j * 3 + 1, none⟩ = some (.slice IA' m ic') /\ W.cell? ⟨b', o' + j * 3 + 2, none⟩ = some (.slice CA' q cc')))) (by kernel_rfl) s1 (fun hHeld => ?_)
   refine tk_ 0 ⟨some 18, .move (.tmp 0), 43, "ref.go:321", #[], none⟩ hHeld ?_
   simp only [Act.put, sA_, sB_, sC_]
   refine tk_ 1 ⟨some 19, .move (.tmp 5), 3, "ref.go:321", #[], none⟩ hHeld ?_
   simp only [Act.put, sA_, sB_, sC_]
   refine tk_ 2 ⟨some 20, .indexAddr 43 (.tmp 18) (.tmp 19), 0, "ref.go:321", #[⟨0, .data⟩, ⟨1, .data⟩], none⟩ hHeld ?_
   simp only [Act.put, sA_, sB_, sC_]
   refine tk_ 3 ⟨some 21, .fieldAddr 100 (.tmp 20) 0, 0, "ref.go:321", #[⟨2, .data⟩], none⟩ hHeld ?_
   simp only [Act.put, sA_, sB_, sC_]
   refine tk_ 4 ⟨some 22, .load 68 (.tmp 21), 68, "ref.go:321", #[⟨3, .data⟩], none⟩ hHeld ?_
   simp only [Act.put, sA_, sB_, sC_]
   refine tk_ 5 ⟨some 23, .move (.tmp 1), 43, "ref.go:321", #[], none⟩ hHeld ?_
   simp only [Act.put, sA_, sB_, sC_]
   refine tk_ 6 ⟨some 24, .move (.tmp 5), 3, "ref.go:321", #[], none⟩ hHeld ?_
   simp only [Act.put, sA_, sB_, sC_]
   refine tk_ 7 ⟨some 25, .indexAddr 43 (.tmp 23) (.tmp 24), 0, "ref.go:321", #[⟨5, .data⟩, ⟨6, .data⟩], none⟩ hHeld ?_
   simp only [Act.put, sA_, sB_, sC_]
   refine tk_ 8 ⟨some 26, .fieldAddr 100 (.tmp 25) 0, 0, "ref.go:321", #[⟨7, .data⟩], none⟩ hHeld ?_
   simp only [Act.put, sA_, sB_, sC_]
   refine tk_ 9 ⟨some 27, .load 68 (.tmp 26), 68, "ref.go:321", #[⟨8, .data⟩], none⟩ hHeld ?_
   simp only [Act.put, sA_, sB_, sC_]
   refine tk_ 10 ⟨some 28, .binOp .neq 68 (.tmp 22) (.tmp 27) 68, 4, "ref.go:321", #[⟨4, .data⟩, ⟨9, .data⟩], none⟩ hHeld ?_
   simp only [Act.put, sA_, sB_, sC_]
   refine tk_ 11 ⟨some 29, .move (.tmp 28), 4, "ref.go:321", #[⟨10, .data⟩], none⟩ hHeld ?_
   simp only [Act.put, sA_, sB_, sC_]
   refine tk_ 12 ⟨some 30, .move (.tmp 0), 43, "ref.go:321", #[⟨11, .guard⟩], some (11, false)⟩ hHeld ?_
   simp only [Act.put, sA_, sB_, sC_]
   refine tk_ 13 ⟨some 31, .move (.tmp 5), 3, "ref.go:321", #[⟨11, .guard⟩], some (11, false)⟩ hHeld ?_
   simp only [Act.put, sA_, sB_, sC_]
   refine tk_ 14 ⟨some 32, .indexAddr 43 (.tmp 30) (.tmp 31), 0, "ref.go:321", #[⟨12, .data⟩, ⟨13, .data⟩, ⟨11, .guard⟩], some (11, false)⟩ hHeld ?_
   simp only [Act.put, sA_, sB_, sC_]
   refine tk_ 15 ⟨some 33, .fieldAddr 100 (.tmp 32) 1, 0, "ref.go:321", #[⟨14, .data⟩, ⟨11, .guard⟩], some (11, false)⟩ hHeld ?_
   simp only [Act.put, sA_, sB_, sC_]
   refine tk_ 16 ⟨some 34, .load 66 (.tmp 33), 66, "ref.go:321", #[⟨15, .data⟩, ⟨11, .guard⟩], some (11, false)⟩ hHeld ?_
   simp only [Act.put, sA_, sB_, sC_]
   refine tk_ 17 ⟨some 35, .move (.tmp 1), 43, "ref.go:321", #[⟨11, .guard⟩], some (11, false)⟩ hHeld ?_
   simp only [Act.put, sA_, sB_, sC_]
   refine tk_ 18 ⟨some 36, .move (.tmp 5), 3, "ref.go:321", #[⟨11, .guard⟩], some (11, false)⟩ hHeld ?_
   simp only [Act.put, sA_, sB_, sC_]
   refine tk_ 19 ⟨some 37, .indexAddr 43 (.tmp 35) (.tmp 36), 0, "ref.go:321", #[⟨17, .data⟩, ⟨18, .data⟩, ⟨11, .guard⟩], some (11, false)⟩ hHeld ?_
   simp only [Act.put, sA_, sB_, sC_]
   refine tk_ 20 ⟨some 38, .fieldAddr 100 (.tmp 37) 1, 0, "ref.go:321", #[⟨19, .data⟩, ⟨11, .guard⟩], some (11, false)⟩ hHeld ?_
   simp only [Act.put, sA_, sB_, sC_]
   refine tk_ 21 ⟨some 39, .load 66 (.tmp 38), 66, "ref.go:321", #[⟨20, .data⟩, ⟨11, .guard⟩], some (11, false)⟩ hHeld ?_
   simp only [Act.put, sA_, sB_, sC_]
   refine wpAnyH_ready (rs := [22]) (by kernel_rfl) (by simp) ?_
   refine AllReadyH.cons (o := ⟨some 40, .call { callee := .value (.func 39), args := #[.tmp 34, .tmp 39], argTypes := #[66, 66] }, 4, "ref.go:321", #[⟨16, .data⟩, ⟨21, .data⟩, ⟨11, .chain⟩, ⟨11, .guard⟩], some (11, false)⟩) rfl (fun K' hK => ?_) AllReadyH.nil
   go_simp
   go_at_call 39; refine CP.out.mono ?_; rintro e w5 ⟨rfl, hb5⟩
   have hb5' : Below wo.heap.size wo w5 := (show Below wo.heap.size wo wo.drew from (Below.refl _ _).drew).trans hb5
   have s2 := HX.out w5 hb5'
   have HB5 := hi_ hb5'
   clear hb5 hb5'
   refine hK.out _ _ s2 (fun hHeld => ?_)
   clear hK K'
   try simp only [Act.put, sA_, sB_, sC_]
   refine tk_ 23 ⟨some 41, .unOp .not 4 (.tmp 40), 4, "ref.go:321", #[⟨22, .data⟩, ⟨11, .guard⟩], some (11, false)⟩ hHeld ?_
   simp only [Act.put, sA_, sB_, sC_]
   refine tk_ 24 ⟨some 42, .pick (.tmp 29) (.const (.bool true)) (.tmp 41), 4, "ref.go:321", #[⟨11, .data⟩, ⟨23, .data⟩], none⟩ hHeld ?_
   simp only [Act.put, sA_, sB_, sC_]
   refine tk_ 25 ⟨some 43, .move (.tmp 42), 4, "ref.go:321", #[⟨24, .data⟩, ⟨22, .chain⟩], none⟩ hHeld ?_
   simp only [Act.put, sA_, sB_, sC_]
   refine tk_ 26 ⟨some 44, .move (.tmp 0), 43, "ref.go:321", #[⟨25, .guard⟩], some (25, false)⟩ hHeld ?_
   simp only [Act.put, sA_, sB_, sC_]
   refine tk_ 27 ⟨some 45, .move (.tmp 5), 3, "ref.go:321", #[⟨25, .guard⟩], some (25, false)⟩ hHeld ?_
   simp only [Act.put, sA_, sB_, sC_]
   refine tk_ 28 ⟨some 46, .indexAddr 43 (.tmp 44) (.tmp 45), 0, "ref.go:321", #[⟨26, .data⟩, ⟨27, .data⟩, ⟨25, .guard⟩], some (25, false)⟩ hHeld ?_
   simp only [Act.put, sA_, sB_, sC_]
   refine tk_ 29 ⟨some 47, .fieldAddr 100 (.tmp 46) 2, 0, "ref.go:321", #[⟨28, .data⟩, ⟨25, .guard⟩], some (25, false)⟩ hHeld ?_
   simp only [Act.put, sA_, sB_, sC_]
   refine tk_ 30 ⟨some 48, .load 98 (.tmp 47), 98, "ref.go:321", #[⟨29, .data⟩, ⟨25, .guard⟩], some (25, false)⟩ hHeld ?_
   simp only [Act.put, sA_, sB_, sC_]
   refine tk_ 31 ⟨some 49, .call { callee := .builtin .len, args := #[.tmp 48], argTypes := #[98] }, 3, "ref.go:321", #[⟨30, .data⟩, ⟨25, .guard⟩], some (25, false)⟩ hHeld ?_
   simp only [Act.put, sA_, sB_, sC_]
   refine tk_ 32 ⟨some 50, .move (.tmp 1), 43, "ref.go:321", #[⟨25, .guard⟩], some (25, false)⟩ hHeld ?_
   simp only [Act.put, sA_, sB_, sC_]
   refine tk_ 33 ⟨some 51, .move (.tmp 5), 3, "ref.go:321", #[⟨25, .guard⟩], some (25, false)⟩ hHeld ?_
   simp only [Act.put, sA_, sB_, sC_]
   refine tk_ 34 ⟨some 52, .indexAddr 43 (.tmp 50) (.tmp 51), 0, "ref.go:321", #[⟨32, .data⟩, ⟨33, .data⟩, ⟨25, .guard⟩], some (25, false)⟩ hHeld ?_
   simp only [Act.put, sA_, sB_, sC_]
   refine tk_ 35 ⟨some 53, .fieldAddr 100 (.tmp 52) 2, 0, "ref.go:321", #[⟨34, .data⟩, ⟨25, .guard⟩], some (25, false)⟩ hHeld ?_
   simp only [Act.put, sA_, sB_, sC_]
   refine tk_ 36 ⟨some 54, .load 98 (.tmp 53), 98, "ref.go:321", #[⟨35, .data⟩, ⟨25, .guard⟩], some (25, false)⟩ hHeld ?_
   simp only [Act.put, sA_, sB_, sC_]
   refine tk_ 37 ⟨some 55, .call { callee := .builtin .len, args := #[.tmp 54], argTypes := #[98] }, 3, "ref.go:321", #[⟨36, .data⟩, ⟨25, .guard⟩], some (25, false)⟩ hHeld ?_
   simp only [Act.put, sA_, sB_, sC_]
   refine tk_ 38 ⟨some 56, .binOp .neq 3 (.tmp 49) (.tmp 55) 3, 4, "ref.go:321", #[⟨31, .data⟩, ⟨37, .data⟩, ⟨25, .guard⟩], some (25, false)⟩ hHeld ?_
   simp only [Act.put, sA_, sB_, sC_]
   refine tk_ 39 ⟨some 57, .pick (.tmp 43) (.const (.bool true)) (.tmp 56), 4, "ref.go:321", #[⟨25, .data⟩, ⟨38, .data⟩], none⟩ hHeld ?_
   simp only [Act.put, sA_, sB_, sC_]
   refine wpAnyH_done (by kernel_rfl) ?_ _
   refine NoPanic.normal ?_
   clear hHeld s1 s2
   go_wp2
   go_loopw [6] (fun kv wr => ∃ k : Nat, k <= q /\ kv = .int .i64 k /\ Below w5.heap.size w5 wr) (fun kv _ => q - (intOf kv).toNat)
   case atStart => exact ⟨0, Nat.zero_le _, rfl, Below.refl _ _⟩
   case round =>
    obtain ⟨k, hk, rfl, hBk⟩ := hrel
    have hBw : Below wo.heap.size wo wr := HB5.out.trans (hBk.mono HB5.out.size)
    have hBz : Below w.heap.size w wr := HB.out.trans (hBw.mono HB.out.size)
    have k2 := (HX.out wr hBw).1.2.2
    by_cases hkq : k < q
    ·have k2' := (HX.out wr hBw).2.2.2
     obtain ⟨l, hl⟩ : ∃ l, cols[k]? = some l := ⟨_, List.getElem?_eq_getElem (by rw [<- HQ.out]; exact hkq)⟩
     obtain ⟨cb, co, QA, qn, qc, hCA, hclt, hcc, hV⟩ := ColsL.cell HC.out.1 hl
     obtain ⟨cb', co', QA', qn', qc', hCA', hclt', hcc', hV'⟩ := ColsL.cell HC.out.2 hl
     subst hCA hCA'
     have HY : Hid (∀ W, Below wr.heap.size wr W -> ((W.cell? ⟨b, o + j * 3 + 2, none⟩ = some (.slice (some ⟨cb, co, none⟩) q cc) /\ W.cell? ⟨cb, co + k, none⟩ = some (.slice QA qn qc)) /\ (W.cell? ⟨b', o' + j * 3 + 2, none⟩ = some (.slice (some ⟨cb', co', none⟩) q cc') /\ W.cell? ⟨cb', co' + k, none⟩ = some (.slice QA' qn' qc')))) := hi_ (fun W hW => by
      have h6 := HX.out W (hBw.trans (hW.mono hBw.size))
      have hwW := hBz.trans (hW.mono hBz.size)
      exact ⟨⟨h6.1.2.2, (hwW.cell (p := ⟨cb, co + k, none⟩) hclt).trans hcc⟩, h6.2.2.2, (hwW.cell (p := ⟨cb', co' + k, none⟩) hclt').trans hcc'⟩)
     have CS : Hid (Calls Tryz.prog 18 #[.slice QA qn qc, .slice QA' qn' qc'] wr.drew fun e w' => e = .returned (.bool true) /\ wr.drew = w') := hi_ (by
      have hwd : Below w.heap.size w wr.drew := hBz.drew
      exact Same_yes QA QA' qn qc qn' qc' l wr.drew (hV.below hwd).read (hV'.below hwd).read)
     have s1 := HY.out wr.drew (Below.refl _ _).drew
     have HBk := hi_ hBk
     clear hl hcc hV hcc' hV' hclt hclt' hBw hBz hBk k2'
     go_upto_region 11 with fail
     clear k2
     refine wp_region_noPanic ?_
     refine wp_region_held_drew (S := fun W => ((W.cell? ⟨b, o + j * 3 + 2, none⟩ = some (.slice (some ⟨cb, co, none⟩) q cc) /\ W.cell? ⟨cb, co + k, none⟩ = some (.slice QA qn qc)) /\ (W.cell? ⟨b', o' + j * 3 + 2, none⟩ = some (.slice (some ⟨cb', co', none⟩) q cc') /\ W.cell? ⟨cb', co' + k, none⟩ = some (.slice QA' qn' qc')))) (by kernel_rfl) s1 (fun hHeld => ?_)
     refine tk_ 0 ⟨some 68, .move (.tmp 0), 43, "ref.go:325", #[], none⟩ hHeld ?_
     simp only [Act.put, sA_, sB_, sC_]
     refine tk_ 1 ⟨some 69, .move (.tmp 5), 3, "ref.go:325", #[], none⟩ hHeld ?_
     simp only [Act.put, sA_, sB_, sC_]
     refine tk_ 2 ⟨some 70, .indexAddr 43 (.tmp 68) (.tmp 69), 0, "ref.go:325", #[⟨0, .data⟩, ⟨1, .data⟩], none⟩ hHeld ?_
     simp only [Act.put, sA_, sB_, sC_]
     refine tk_ 3 ⟨some 71, .fieldAddr 100 (.tmp 70) 2, 0, "ref.go:325", #[⟨2, .data⟩], none⟩ hHeld ?_
     simp only [Act.put, sA_, sB_, sC_]
     refine tk_ 4 ⟨some 72, .load 98 (.tmp 71), 98, "ref.go:325", #[⟨3, .data⟩], none⟩ hHeld ?_
     simp only [Act.put, sA_, sB_, sC_]
     refine tk_ 5 ⟨some 73, .move (.tmp 6), 3, "ref.go:325", #[], none⟩ hHeld ?_
     simp only [Act.put, sA_, sB_, sC_]
     refine tk_ 6 ⟨some 74, .indexAddr 98 (.tmp 72) (.tmp 73), 0, "ref.go:325", #[⟨4, .data⟩, ⟨5, .data⟩], none⟩ hHeld ?_
     simp only [Act.put, sA_, sB_, sC_]
     refine tk_ 7 ⟨some 75, .load 33 (.tmp 74), 33, "ref.go:325", #[⟨6, .data⟩], none⟩ hHeld ?_
     simp only [Act.put, sA_, sB_, sC_]
     refine tk_ 8 ⟨some 76, .move (.tmp 1), 43, "ref.go:325", #[], none⟩ hHeld ?_
     simp only [Act.put, sA_, sB_, sC_]
     refine tk_ 9 ⟨some 77, .move (.tmp 5), 3, "ref.go:325", #[], none⟩ hHeld ?_
     simp only [Act.put, sA_, sB_, sC_]
     refine tk_ 10 ⟨some 78, .indexAddr 43 (.tmp 76) (.tmp 77), 0, "ref.go:325", #[⟨8, .data⟩, ⟨9, .data⟩], none⟩ hHeld ?_
     simp only [Act.put, sA_, sB_, sC_]
     refine tk_ 11 ⟨some 79, .fieldAddr 100 (.tmp 78) 2, 0, "ref.go:325", #[⟨10, .data⟩], none⟩ hHeld ?_
     simp only [Act.put, sA_, sB_, sC_]
     refine tk_ 12 ⟨some 80, .load 98 (.tmp 79), 98, "ref.go:325", #[⟨11, .data⟩], none⟩ hHeld ?_
     simp only [Act.put, sA_, sB_, sC_]
     refine tk_ 13 ⟨some 81, .move (.tmp 6), 3, "ref.go:325", #[], none⟩ hHeld ?_
     simp only [Act.put, sA_, sB_, sC_]
     refine tk_ 14 ⟨some 82, .indexAddr 98 (.tmp 80) (.tmp 81), 0, "ref.go:325", #[⟨12, .data⟩, ⟨13, .data⟩], none⟩ hHeld ?_
     simp only [Act.put, sA_, sB_, sC_]
     refine tk_ 15 ⟨some 83, .load 33 (.tmp 82), 33, "ref.go:325", #[⟨14, .data⟩], none⟩ hHeld ?_
     simp only [Act.put, sA_, sB_, sC_]
     refine wpAnyH_ready (rs := [16]) (by kernel_rfl) (by simp) ?_
     refine AllReadyH.cons (o := ⟨some 84, .call { callee := .value (.func 18), args := #[.tmp 75, .tmp 83], argTypes := #[33, 33] }, 4, "ref.go:325", #[⟨7, .data⟩, ⟨15, .data⟩], none⟩) rfl (fun K' hK => ?_) AllReadyH.nil
     go_simp
     go_at_call 18; refine CS.out.mono ?_; rintro e w6 ⟨rfl, rfl⟩
     refine hK.out _ _ s1 (fun hHeld => ?_)
     clear hK K'
     try simp only [Act.put, sA_, sB_, sC_]
     refine tk_ 17 ⟨some 85, .unOp .not 4 (.tmp 84), 4, "ref.go:325", #[⟨16, .data⟩], none⟩ hHeld ?_
     simp only [Act.put, sA_, sB_, sC_]
     refine wpAnyH_done (by kernel_rfl) ?_ _
     refine NoPanic.normal ?_
     clear hHeld s1
     go_wp2
     go_roundw
     case rel => exact ⟨k + 1, hkq, by go_num, HBk.out.drew⟩
     case measure => simp [intOf]; omega
    ·obtain rfl : k = q := by omega
     have HBz := hi_ hBz
     clear hBw hBk hBz
     go_wp2
     go_roundw
     case rel => exact ⟨j + 1, hjn, by go_num, HBz.out⟩
     case measure => simp [intOf]; omega
  ·obtain rfl : j = n := by omega
   go_wp2
   go_ret
   exact ⟨rfl, hB⟩
end Go.Proofs.YtaoinkjjmakhaaaGreatDoor
namespace Go.Proofs.YtaoinkjjmakhaaaGreatDoor
open Go.RowKit
set_option maxRecDepth 20000
def RwFew (r : Rw) : Prop := r.2.1.length <= 60 /\ r.2.2.length <= 40 /\ ∀ l ∈ r.2.2, l.length <= 1000
def RwMuch (n : Nat) (xs : List Rw) (w : World) (e : Ending) (w' : World) : Prop := w = w' /\ ∃ b, e = .returned (.bool b) /\ (b = false -> n <= 40 /\ ∀ r ∈ xs, RwFew r)
set_option maxHeartbeats 1000000 in
theorem RMuchRows_any {K : Nat -> Prop} (w : World) (A : Option Addr) (n c : Nat) (xs : List Rw) (h : RwsV K w A n xs) (hn : n <= 9223372036854775807) :
  Calls Tryz.prog 19 #[.slice A n c] w (RwMuch n xs w) := by
 have HL : Hid (xs.length = n) := hi_ (by obtain ⟨_, h1, _⟩ := h; exact h1)
 have H := hi_ h
 clear h
 go_enter Tryz.func19, Tryz.ntmps19
 go_wp2
 go_loopw [3] (fun iv wr => ∃ j : Nat, j <= n /\ j <= 50 /\ iv = .int .i64 j /\ w = wr /\ ∀ (k : Nat) (x : Rw), k < j -> xs[k]? = some x -> RwFew x) (fun iv _ => n - (intOf iv).toNat)
 case atStart => exact ⟨0, Nat.zero_le _, Nat.zero_le _, rfl, rfl, fun k x hk => absurd hk (Nat.not_lt_zero k)⟩
 case round =>
  obtain ⟨j, hj, hj1, rfl, rfl, hno⟩ := hrel
  by_cases hjn : j < n /\ j < 50
  ·obtain ⟨hjn, hj50⟩ := hjn
   obtain ⟨y, hy⟩ : ∃ y, xs[j]? = some y := ⟨_, List.getElem?_eq_getElem (by rw [HL.out]; exact hjn)⟩
   obtain ⟨b, o, IA, ic, CA, cc, hA, hblt, h0, h1, h2, hI, hC⟩ := RwsV.cell H.out hy
   have HA := hi_ hA
   subst hA
   obtain ⟨sg, ids, cols⟩ := y
   simp only at h0 h1 h2 hI hC
   obtain ⟨m, hm⟩ : ∃ m, m = ids.length := ⟨_, rfl⟩
   obtain ⟨q, hq⟩ : ∃ q, q = cols.length := ⟨_, rfl⟩
   rw [<- hm] at h1 hI
   rw [<- hq] at h2 hC
   have d50 : decide ((j : Int) < 50) = true := decide_eq_true (by omega)
   have HMQ := hi_ (And.intro hm hq)
   have HX := hi_ (And.intro hy (And.intro hno hC))
   clear hI hC hy hno hm hq h0 hblt
   by_cases h60 : 60 < m
   ·have d1 : decide ((60 : Int) < (m : Int)) = true := decide_eq_true (by omega)
    have d1' : decide (60 < m) = true := decide_eq_true h60
    go_wp2
    go_ret
    exact ⟨rfl, true, rfl, fun e => by cases e⟩
   ·have d1 : decide ((60 : Int) < (m : Int)) = false := decide_eq_false (by omega)
    have d1' : decide (60 < m) = false := decide_eq_false h60
    by_cases h40 : 40 < q
    ·have d2 : decide ((40 : Int) < (q : Int)) = true := decide_eq_true (by omega)
     have d2' : decide (40 < q) = true := decide_eq_true h40
     go_wp2
     go_ret
     exact ⟨rfl, true, rfl, fun e => by cases e⟩
    ·have d2 : decide ((40 : Int) < (q : Int)) = false := decide_eq_false (by omega)
     have d2' : decide (40 < q) = false := decide_eq_false h40
     go_wp2
     go_loopw [4] (fun kv wr => ∃ k : Nat, k <= q /\ kv = .int .i64 k /\ w = wr /\ ∀ (a : Nat) (l : List UInt8), a < k -> cols[a]? = some l -> l.length <= 1000) (fun kv _ => q - (intOf kv).toNat)
     case atStart => exact ⟨0, Nat.zero_le _, rfl, rfl, fun a l ha => absurd ha (Nat.not_lt_zero a)⟩
     case round =>
      obtain ⟨k, hk, rfl, rfl, hls⟩ := hrel
      by_cases hkq : k < q
      ·obtain ⟨l, hl⟩ : ∃ l, cols[k]? = some l := ⟨_, List.getElem?_eq_getElem (by rw [<- HMQ.out.2]; exact hkq)⟩
       obtain ⟨cb, co, QA, qn, qc, hCA, hclt, hcc, hV⟩ := ColsL.cell HX.out.2.2 hl
       have HCA := hi_ hCA
       subst hCA
       have hqn : Hid (l.length = qn) := hi_ hV.read.1
       have HLS := hi_ (And.intro hl hls)
       clear hV hl hls hclt
       by_cases h1k : 1000 < qn
       ·have d3 : decide ((1000 : Int) < (qn : Int)) = true := decide_eq_true (by omega)
        have d3' : decide (1000 < qn) = true := decide_eq_true h1k
        go_wp2
        go_ret
        exact ⟨rfl, true, rfl, fun e => by cases e⟩
       ·have d3 : decide ((1000 : Int) < (qn : Int)) = false := decide_eq_false (by omega)
        have d3' : decide (1000 < qn) = false := decide_eq_false h1k
        go_wp2
        go_roundw
        case rel =>
         refine ⟨k + 1, hkq, by go_num, by first | rfl | trivial, fun a l' ha hl' => ?_⟩
         by_cases e : a = k
         ·subst e
          rw [HLS.out.1] at hl'
          injection hl' with hl'
          rw [<- hl', hqn.out]
          omega
         ·exact HLS.out.2 a l' (by omega) hl'
        case measure => simp [intOf]; omega
      ·obtain rfl : k = q := by omega
       have HLS := hi_ hls
       clear hls
       go_wp2
       go_roundw
       case rel =>
        refine ⟨j + 1, hjn, by omega, by go_num, by first | rfl | trivial, fun a y ha hy => ?_⟩
        by_cases e : a = j
        ·subst e
         rw [HX.out.1] at hy
         injection hy with hy
         rw [<- hy]
         refine ⟨by show ids.length <= 60; rw [<- HMQ.out.1]; omega, by show cols.length <= 40; rw [<- HMQ.out.2]; omega, fun l hl => ?_⟩
         obtain ⟨i, hi, e⟩ := List.getElem_of_mem hl
         exact HLS.out i l (by rw [HMQ.out.2]; exact hi) (by rw [List.getElem?_eq_getElem hi, e])
        ·exact HX.out.2.1 a y (by omega) hy
       case measure => simp [intOf]; omega
  ·have HNO := hi_ hno
   clear hno
   by_cases h50 : j < 50
   ·obtain rfl : j = n := by omega
    go_wp2
    go_ret
    refine ⟨rfl, _, rfl, fun e => ⟨by simp at e; omega, fun r hr => ?_⟩⟩
    obtain ⟨i, hi, e⟩ := List.getElem_of_mem hr
    exact HNO.out i r (by rw [HL.out] at hi; exact hi) (by rw [List.getElem?_eq_getElem hi, e])
   ·have d50 : decide ((j : Int) < 50) = false := decide_eq_false (by omega)
    have d50' : decide (j < 50) = false := decide_eq_false (by omega)
    have d40 : decide ((40 : Int) < (n : Int)) = true := decide_eq_true (by omega)
    have d40' : decide (40 < n) = true := decide_eq_true (by omega)
    by_cases hjn2 : j < n
    ·go_wp2
     go_ret
     exact ⟨rfl, true, rfl, fun e => by cases e⟩
    ·obtain rfl : j = n := by omega
     go_wp2
     go_ret
     exact ⟨rfl, true, rfl, fun e => by cases e⟩
end Go.Proofs.YtaoinkjjmakhaaaGreatDoor
