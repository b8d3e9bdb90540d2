/- BitsM, TbM, TbR1, Num, CmM, CmK, CmA, TbZ, CmSR, BitsRH, AppI, BitsRL -/
import Derived.Test.YtaoinkjjmakhaaaGreatDoorQl1
import Derived.Lib.TrailingZeros
import Derived.BigQuiet
import Derived.Deep.QuietTactic
import Derived.Laws.BitsAllLaws
import Derived.Laws.BitsLemmas
import Derived.Laws.Bits128
import Derived.Deep.WholeRow
namespace Go.Proofs.YtaoinkjjmakhaaaGreatDoor
def listN (s : Nat) : List Nat := (List.range 64).filter fun i => s.testBit i
theorem testBit_big {a i : Nat} (ha : a < 18446744073709551616) (hi : ¬ i < 64) : a.testBit i = false :=
 Nat.testBit_lt_two_pow (Nat.lt_of_lt_of_le ha (show 2 ^ 64 <= 2 ^ i from Nat.pow_le_pow_right (by decide) (by omega)))
theorem eq_of_bits {a b : Nat} (ha : a < 18446744073709551616) (hb : b < 18446744073709551616) (h : ∀ i, i < 64 -> a.testBit i = b.testBit i) : a = b :=
 Nat.eq_of_testBit_eq fun i => by
  by_cases hi : i < 64
  ·exact h i hi
  ·rw [testBit_big ha hi, testBit_big hb hi]
theorem mem_listN {s i : Nat} : i ∈ listN s ↔ i < 64 /\ s.testBit i = true := by simp [listN]
def ofL (l : List Int) : Nat -> Nat
 | 0 => 0
 | c + 1 => ofL l c + if (c : Int) ∈ l then 2 ^ c else 0
theorem ofL_lt (l : List Int) : ∀ c, ofL l c < 2 ^ c
 | 0 => Nat.one_pos
 | c + 1 => by
  have := ofL_lt l c
  rw [Nat.pow_succ]
  unfold ofL
  split <;> omega
theorem ofL_bit (l : List Int) : ∀ c i, (ofL l c).testBit i = decide (i < c /\ (i : Int) ∈ l)
 | 0, i => by simp [ofL]
 | c + 1, i => by
  have ih := ofL_bit l c i
  have hlt := ofL_lt l c
  unfold ofL
  by_cases hc : (c : Int) ∈ l
  ·rw [if_pos hc, <- Nat.or_two_pow_eq_add_of_lt hlt, Nat.testBit_or, ih, Nat.testBit_two_pow]
   by_cases e : i = c
   ·subst e
    simp [hc]
   ·have h1 : i < c ↔ i < c + 1 := by omega
    have h2 : ¬ c = i := fun e' => e e'.symm
    simp [h1, h2]
  ·rw [if_neg hc, Nat.add_zero, ih]
   by_cases e : i = c
   ·subst e
    simp [hc]
   ·have : i < c ↔ i < c + 1 := by omega
    simp [this]
def orL (l : List Int) : Nat := l.foldl (fun s c => if 0 <= c /\ c < 64 then s ||| 2 ^ c.toNat else s) 0
theorem orL_snoc (l : List Int) (c : Int) : orL (l ++ [c]) = if 0 <= c /\ c < 64 then orL l ||| 2 ^ c.toNat else orL l := by simp [orL]
theorem orL_one (c : Int) : orL [c] = if 0 <= c /\ c < 64 then 2 ^ c.toNat else 0 := by simp [orL]
theorem orF_bit (l : List Int) (i : Nat) : ∀ s : Nat, (l.foldl (fun (s : Nat) (c : Int) => if 0 <= c /\ c < 64 then s ||| 2 ^ c.toNat else s) s).testBit i = (s.testBit i || decide (i < 64 /\ (i : Int) ∈ l)) := by
 induction l with
 | nil => intro s; simp
 | cons c l ih =>
  intro s
  rw [List.foldl_cons, ih]
  by_cases hc : 0 <= c /\ c < 64
  ·rw [if_pos hc, Nat.testBit_or, Nat.testBit_two_pow]
   by_cases e : (i : Int) = c
   ·have h1 : c.toNat = i := by omega
    have h2 : i < 64 := by omega
    simp [h1, e, h2]
   ·have h1 : ¬ c.toNat = i := by omega
    simp [h1, e]
  ·rw [if_neg hc]
   by_cases e : (i : Int) = c
   ·have h2 : ¬ i < 64 := by omega
    simp [h2]
   ·simp [e]
theorem orL_bit (l : List Int) (i : Nat) : (orL l).testBit i = decide (i < 64 /\ (i : Int) ∈ l) := by
 unfold orL
 rw [orF_bit]
 simp
theorem orL_lt (l : List Int) : orL l < 18446744073709551616 :=
 Nat.lt_pow_two_of_testBit (n := 64) _ fun i hi => by
  rw [orL_bit]
  have : ¬ i < 64 := by omega
  simp [this]
theorem orL_eq (l : List Int) : orL l = ofL l 64 := eq_of_bits (orL_lt l) (ofL_lt l 64) fun i _ => by rw [orL_bit, ofL_bit]
theorem two_lt {c : Nat} (h : c < 64) : 2 ^ c < 18446744073709551616 := Nat.pow_lt_pow_right (a := 2) (by decide) (show c < 64 from h)
def butN (s o : Nat) : Nat := s &&& (18446744073709551615 - o)
theorem butN_bit' (s o i : Nat) (ho : o < 18446744073709551616) (h : i < 64) : (butN s o).testBit i = (s.testBit i && !o.testBit i) := by
 unfold butN
 rw [Nat.testBit_and, show 18446744073709551615 - o = 2 ^ 64 - (o + 1) from by omega, Nat.testBit_two_pow_sub_succ ho]
 simp [h]
theorem butN_lt {s o : Nat} (h : s < 18446744073709551616) : butN s o < 18446744073709551616 := Nat.lt_of_le_of_lt Nat.and_le_left h
def listZ (s : Nat) : List Int := (listN s).map Int.ofNat
theorem mem_listZ {s : Nat} {i : Nat} : (i : Int) ∈ listZ s ↔ i < 64 /\ s.testBit i = true := by
 unfold listZ
 rw [List.mem_map]
 constructor
 ·rintro ⟨a, ha, e⟩
  have : a = i := by have e' : (a : Int) = i := e; omega
  subst this
  exact mem_listN.1 ha
 ·exact fun h => ⟨i, mem_listN.2 h, rfl⟩
theorem hasN (s : Nat) (c : Int) : (s &&& orL [c] == 0) = !decide (0 <= c /\ c < 64 /\ s.testBit c.toNat = true) := by
 rw [orL_one]
 by_cases hc : 0 <= c /\ c < 64
 ·rw [if_pos hc]
  by_cases hb : s.testBit c.toNat = true
  ·have h0 : ¬ s &&& 2 ^ c.toNat = 0 := fun e => by
    have := congrArg (fun x => Nat.testBit x c.toNat) e
    simp [hb] at this
   simp [hc.1, hc.2, hb, h0]
  ·have h0 : s &&& 2 ^ c.toNat = 0 := Nat.eq_of_testBit_eq fun i => by
    rw [Nat.testBit_and, Nat.testBit_two_pow]
    by_cases e : c.toNat = i
    ·subst e; simp [hb]
    ·simp [e]
   simp [hb, h0]
 ·rw [if_neg hc]
  have : ¬ (0 <= c /\ c < 64 /\ s.testBit c.toNat = true) := fun h => hc ⟨h.1, h.2.1⟩
  simp only [this, Nat.and_zero, decide_false]
  rfl
theorem lowN (s : Nat) (h0 : s ≠ 0) (hs : s < 18446744073709551616) : Lib.ctz 64 s < 64 /\ listN s = Lib.ctz 64 s :: listN (butN s (orL [(Lib.ctz 64 s : Nat)])) := by
 obtain ⟨m, hm, hk⟩ := Lib.ctzFrom_spec 64 s (Nat.pos_of_ne_zero h0) hs
 have hc : Lib.ctz 64 s = Lib.ctzFrom 64 s := by unfold Lib.ctz; rw [if_neg h0]
 rw [<- hc] at hm hk
 obtain ⟨k, hk'⟩ : ∃ k, k = Lib.ctz 64 s := ⟨_, rfl⟩
 rw [<- hk'] at hm hk ⊢
 clear hc hk'
 refine ⟨hk, ?_⟩
 have hb : ∀ i, s.testBit i = (decide (k <= i) && (2 * m + 1).testBit (i - k)) := fun i => by rw [hm, Nat.testBit_two_pow_mul]
 have hkk : s.testBit k = true := by rw [hb]; simp [Nat.testBit_zero]
 have hlow : ∀ i, i < k -> s.testBit i = false := fun i hi => by
  rw [hb]
  have : ¬ k <= i := by omega
  simp [this]
 have hoth : ∀ i, i < 64 -> i ≠ k -> (butN s (orL [(k : Int)])).testBit i = s.testBit i := fun i hi hne => by
  rw [butN_bit' _ _ _ (orL_lt _) hi, orL_bit]
  have : ¬ (i : Int) = k := by omega
  simp [this]
 have hsame : (butN s (orL [(k : Int)])).testBit k = false := by
  rw [butN_bit' _ _ _ (orL_lt _) hk, orL_bit]
  simp [hk]
 unfold listN
 obtain ⟨d, hd⟩ : ∃ d, 64 = k + 1 + d := ⟨63 - k, by omega⟩
 have hr : List.range 64 = List.range k ++ ([k] ++ (List.range d).map (k + 1 + ·)) := by
  rw [hd, List.range_add, List.range_succ, List.append_assoc]
 have e1 : (List.range k).filter (fun i => s.testBit i) = [] := List.filter_eq_nil_iff.2 fun i hi => by
  rw [hlow i (List.mem_range.1 hi)]; simp
 have e2 : (List.range k).filter (fun i => (butN s (orL [(k : Int)])).testBit i) = [] := List.filter_eq_nil_iff.2 fun i hi => by
  have := List.mem_range.1 hi
  rw [hoth i (by omega) (by omega), hlow i this]; simp
 have e3 : ((List.range d).map (k + 1 + ·)).filter (fun i => (butN s (orL [(k : Int)])).testBit i) = ((List.range d).map (k + 1 + ·)).filter (fun i => s.testBit i) := List.filter_congr fun i hi => by
  obtain ⟨j, hj, rfl⟩ := List.mem_map.1 hi
  have := List.mem_range.1 hj
  exact hoth _ (by omega) (by omega)
 rw [hr, List.filter_append, List.filter_append, List.filter_append, List.filter_append, e1, e2, e3]
 simp [hkk, hsame]
theorem listN_zero : listN 0 = [] := by decide
end Go.Proofs.YtaoinkjjmakhaaaGreatDoor
namespace Go.Proofs.YtaoinkjjmakhaaaGreatDoor
abbrev Pt := Int × List UInt8
abbrev En := (Int × Int) × List Pt
structure Tb where
 cs : List (Int × Nat)
 rows : List En
structure Tl where
 data : List UInt8
 parts : List Pt
 id : Int × Int
 ok : Bool
 err : Int
def Tl.e (n : Int) : Tl := ⟨[], [], (0, 0), false, n⟩
structure Ts where
 d : Int
 id : Int × Int
 ps : List Pt
 row : Int
 comp : Int
 b : List UInt8
def RowOk (cs : List (Int × Nat)) (ps : List Pt) : Prop := ps.map (fun p => (p.1, p.2.length)) = cs
structure Tb.Ok (t : Tb) : Prop where
 n : t.rows.length <= 1024
 cn : t.cs.length <= 64
 z : ∀ x ∈ t.cs, x.2 <= 64
 row : ∀ r ∈ t.rows, RowOk t.cs r.2
 cz : ∀ x ∈ t.cs, 0 <= x.1 /\ x.1 < 64
 nd : (t.cs.map (·.1)).Nodup
def pick (ps : List Pt) (c : Int × Nat) : List UInt8 :=
 match ps.find? fun p => decide (p.1 = c.1) with
 | some p => p.2
 | none => List.replicate c.2 0
def picks (ps : List Pt) (cs : List (Int × Nat)) : List Pt := cs.map fun c => (c.1, pick ps c)
def fits (ps : List Pt) (cs : List (Int × Nat)) : Bool := cs.all fun c => decide ((pick ps c).length = c.2)
theorem picks_ok {ps : List Pt} {cs : List (Int × Nat)} (h : fits ps cs = true) : RowOk cs (picks ps cs) := by
 unfold RowOk picks
 rw [List.map_map]
 unfold fits at h
 rw [List.all_eq_true] at h
 conv => rhs; rw [<- List.map_id cs]
 refine List.map_congr_left fun c hc => ?_
 have := of_decide_eq_true (h c hc)
 show (c.1, (pick ps c).length) = c
 rw [this]
def Tb.add (t : Tb) (id : Int × Int) (ps : List Pt) : Tb × Tl :=
 if t.rows.length = 1024 then (t, .e 9)
 else if fits ps t.cs then (⟨t.cs, t.rows ++ [(id, picks ps t.cs)]⟩, .e 0) else (t, .e 7)
def Tb.at_ (t : Tb) (comp : Int) : Option Nat := t.cs.findIdx? fun c => decide (c.1 = comp)
def noEn : En := ((0, 0), [])
def Tb.go (t : Tb) (x : Ts) : Tb × Tl :=
 if x.d < 1 \/ 4 < x.d then t.add x.id x.ps
 else if 0 <= x.row /\ x.row < t.rows.length then
  (if x.d = 3 then (t, { Tl.e 0 with parts := (t.rows.getD x.row.toNat noEn).2 })
  else if x.d = 4 then
   (let last := t.rows.length - 1
    let moved := t.rows.getD last noEn
    (⟨t.cs, (t.rows.set x.row.toNat moved).take last⟩, if x.row.toNat = last then .e 0 else { Tl.e 0 with id := moved.1, ok := true }))
  else match t.at_ x.comp with
   | none => (t, .e 8)
   | some k =>
    let r := t.rows.getD x.row.toNat noEn
    if x.d = 2 then (t, { Tl.e 0 with data := (r.2.getD k (0, [])).2 })
    else if x.b.length = (t.cs.getD k (0, 0)).2 then (⟨t.cs, t.rows.set x.row.toNat (r.1, r.2.set k ((r.2.getD k (0, [])).1, x.b))⟩, .e 0)
    else (t, .e 7))
 else (t, .e 2)
section
variable {t : Tb}
theorem RowOk.len {cs : List (Int × Nat)} {ps : List Pt} (h : RowOk cs ps) : ps.length = cs.length := by
 have := congrArg List.length h
 simpa using this
theorem RowOk.at_ {cs : List (Int × Nat)} {ps : List Pt} (h : RowOk cs ps) {k : Nat} (hk : k < cs.length) : (ps.getD k (0, [])).1 = (cs.getD k (0, 0)).1 /\ (ps.getD k (0, [])).2.length = (cs.getD k (0, 0)).2 := by
 have hl := h.len
 have e : cs.getD k (0, 0) = ((ps.getD k (0, [])).1, (ps.getD k (0, [])).2.length) := by
  rw [<- show _ = cs from h]
  simp [List.getD, List.getElem?_eq_getElem (show k < ps.length by omega)]
 rw [e]
 exact ⟨rfl, rfl⟩
theorem RowOk.set {cs : List (Int × Nat)} {ps : List Pt} (h : RowOk cs ps) {k : Nat} (hk : k < cs.length) {b : List UInt8} (hb : b.length = (cs.getD k (0, 0)).2) : RowOk cs (ps.set k ((ps.getD k (0, [])).1, b)) := by
 have hl := h.len
 unfold RowOk
 rw [List.map_set]
 have e := h.at_ hk
 have : ((ps.getD k (0, [])).1, b.length) = (ps.map fun p => (p.1, p.2.length)).getD k (0, 0) := by
  rw [show _ = cs from h]
  rw [e.1, hb]
 rw [this, show _ = cs from h]
 apply List.ext_getElem (by simp)
 intro j h1 h2
 rw [List.getElem_set]
 split
 ·rename_i e
  subst e
  simp [List.getD, List.getElem?_eq_getElem hk]
 ·rfl
theorem Tb.at_lt {comp : Int} {k : Nat} (h : t.at_ comp = some k) : k < t.cs.length /\ (t.cs.getD k (0, 0)).1 = comp := by
 unfold Tb.at_ at h
 rw [List.findIdx?_eq_some_iff_getElem] at h
 obtain ⟨hk, h1, _⟩ := h
 exact ⟨hk, by rw [List.getD_eq_getElem?_getD, List.getElem?_eq_getElem hk]; exact of_decide_eq_true h1⟩
theorem Tb.Ok.add (h : t.Ok) (id : Int × Int) (ps : List Pt) : (t.add id ps).1.Ok := by
 unfold Tb.add
 split
 ·exact h
 ·split
  ·rename_i h1 h2
   exact ⟨by have := h.n; simp; omega, h.cn, h.z, fun r hr => by
    rcases List.mem_append.1 hr with hr | hr
    ·exact h.row r hr
    ·rw [List.mem_singleton.1 hr]; exact picks_ok h2, h.cz, h.nd⟩
  ·exact h
theorem Tb.Ok.getD (h : t.Ok) {k : Nat} (hk : k < t.rows.length) : RowOk t.cs (t.rows.getD k noEn).2 := by
 rw [List.getD_eq_getElem?_getD, List.getElem?_eq_getElem hk]
 exact h.row _ (List.getElem_mem hk)
theorem Tb.Ok.go (h : t.Ok) (x : Ts) : (t.go x).1.Ok := by
 unfold Tb.go
 split
 ·exact h.add _ _
 ·split
  ·rename_i _ hr
   split
   ·exact h
   ·split
    ·refine ⟨by have := h.n; simp; omega, h.cn, h.z, fun r hr' => ?_, h.cz, h.nd⟩
     rcases List.mem_or_eq_of_mem_set (List.mem_of_mem_take hr') with h1 | h1
     ·exact h.row r h1
     ·rw [h1]; exact h.getD (by omega)
    ·split
     ·exact h
     ·rename_i k hk
      split
      ·exact h
      ·split
       ·rename_i hb
        refine ⟨by have := h.n; simp only [List.length_set]; exact this, h.cn, h.z, fun r hr' => ?_, h.cz, h.nd⟩
        rcases List.mem_or_eq_of_mem_set hr' with h1 | h1
        ·exact h.row r h1
        ·rw [h1]; exact (h.getD (by omega)).set (Tb.at_lt hk).1 hb
       ·exact h
  ·exact h
def Tb.new (m : Nat) (zs : Nat -> Int) (sig : Nat) : Tb := ⟨((listN sig).filter fun (k : Nat) => decide (k < m)).map fun (k : Nat) => ((k : Int), (min (max (zs k) 0) 64).toNat), []⟩
theorem Tb.new_ok (m : Nat) (zs : Nat -> Int) (sig : Nat) : (Tb.new m zs sig).Ok := by
 have hl : (listN sig).length <= 64 := by
  unfold listN
  exact Nat.le_trans (List.length_filter_le _ _) (by simp)
 have hn : (listN sig).Nodup := by
  unfold listN
  exact List.Pairwise.filter _ List.nodup_range
 refine ⟨Nat.zero_le _, ?_, fun x hx => ?_, fun r hr => absurd hr List.not_mem_nil, fun x hx => ?_, ?_⟩
 ·show (((listN sig).filter _).map _).length <= 64
  rw [List.length_map]
  exact Nat.le_trans (List.length_filter_le _ _) hl
 ·obtain ⟨k, _, rfl⟩ := List.mem_map.1 hx
  show (min (max (zs k) 0) 64).toNat <= 64
  omega
 ·obtain ⟨k, hk, rfl⟩ := List.mem_map.1 hx
  have := (mem_listN.1 (List.mem_filter.1 hk).1).1
  exact ⟨by omega, by omega⟩
 ·show ((((listN sig).filter _).map _).map _).Nodup
  rw [List.map_map]
  exact List.Pairwise.map (R := (· ≠ ·)) _ (fun a b h e => h (by have e' : (a : Int) = (b : Int) := e; omega)) (List.Pairwise.filter _ hn)
def Tb.col (t : Tb) (comp : Int) : List UInt8 × Bool :=
 match t.at_ comp with
 | none => ([], false)
 | some k => ((t.rows.map fun r => (r.2.getD k (0, [])).2).flatten, true)
end
end Go.Proofs.YtaoinkjjmakhaaaGreatDoor
namespace Go.Proofs.YtaoinkjjmakhaaaGreatDoor
open Go.RowKit
theorem partsT : El Tryz.prog 91 143 (.agg #[.int .i64 0, .slice none 0 0]) 2 32 := ⟨Tryz.underlying91, by kernel_rfl, rfl, by decide⟩
theorem entsT : El Tryz.prog 39 95 (.agg #[.int .i64 0, .int .i64 0, .slice none 0 0]) 3 40 := ⟨Tryz.underlying39, by kernel_rfl, rfl, by decide⟩
theorem rtabT : RT Tryz.prog 127 3 := ⟨⟨_, Tryz.underlying127, rfl⟩, by kernel_rfl⟩
structure Rt where
 CA : Option Addr
 cn : Nat
 cc : Nat
 SA : Option Addr
 sn : Nat
 sc : Nat
 RA : Option Addr
 rn : Nat
 rc : Nat
def Rt.cs (d : Rt) : Array Value := #[.slice d.CA d.cn d.cc, .slice d.SA d.sn d.sc, .slice d.RA d.rn d.rc]
structure RtS (K : Nat -> Prop) (w : World) (d : Rt) (t : Tb) : Prop where
 c : IntsV K w d.CA d.cn (t.cs.map (·.1))
 s : IntsV K w d.SA d.sn (t.cs.map fun c => (c.2 : Int))
 r : EntsV K w d.RA d.rn t.rows
section
variable {K K' : Nat -> Prop} {w w' : World} {d : Rt} {t : Tb}
theorem RtS.below (h : RtS K w d t) (hb : Below w.heap.size w w') : RtS K w' d t := ⟨h.c.below hb, h.s.below hb, h.r.below hb⟩
theorem RtS.cn (h : RtS K w d t) : d.cn = t.cs.length := by have := h.c.len; simpa using this.symm
theorem RtS.sn (h : RtS K w d t) : d.sn = t.cs.length := by have := h.s.len; simpa using this.symm
theorem RtS.rn (h : RtS K w d t) : d.rn = t.rows.length := h.r.len.symm
end
theorem SameIDs_yes {K K' : Nat -> Prop} (A A' : Option Addr) (n c c' : Nat) (xs : List (Int × Int)) (w : World) (h : IdsV K w A n xs) (h' : IdsV K' w A' n xs) (hn : n <= 1000000) :
  Calls Tryz.prog 39 #[.slice A n c, .slice A' n c'] w fun e w' => e = .returned (.bool true) /\ Below w.heap.size w w' := by
 have hl := h.len
 have H := hi_ h
 have H' := hi_ h'
 clear h h'
 go_enter Tryz.func39, Tryz.ntmps39
 go_wp2
 go_loopw [5] (fun iv wr => ∃ j : Nat, j <= n /\ iv = .int .i64 j /\ Below w.heap.size w wr) (fun iv _ => n - (intOf iv).toNat)
 case atStart => exact ⟨0, Nat.zero_le _, rfl, Below.refl _ _⟩
 case round =>
  obtain ⟨j, hj, rfl, hB⟩ := hrel
  by_cases hjn : j < n
  ·obtain ⟨y, hy⟩ : ∃ y, xs[j]? = some y := ⟨_, List.getElem?_eq_getElem (by omega)⟩
   obtain ⟨b, o, hA, hblt, h0, h1⟩ := H.out.cell hy
   obtain ⟨b', o', hA', hblt', h0', h1'⟩ := H'.out.cell hy
   subst hA hA'
   obtain ⟨yi, yg⟩ := y
   simp only at h0 h1 h0' h1'
   have k0 := (hB.cell (p := ⟨b, o + j * 2, none⟩) hblt).trans h0
   have k1 := (hB.cell (p := ⟨b, o + j * 2 + 1, none⟩) hblt).trans h1
   have k0' := (hB.cell (p := ⟨b', o' + j * 2, none⟩) hblt').trans h0'
   have k1' := (hB.cell (p := ⟨b', o' + j * 2 + 1, none⟩) hblt').trans h1'
   clear h0 h1 h0' h1' hy
   go_wp2_with fail
   go_quiet (fail)
   go_wp2
   go_roundw
   case rel => exact ⟨j + 1, hjn, by go_num, below_drewN hB _⟩
   case measure => simp [intOf]; omega
  ·go_wp2
   go_ret
   exact ⟨rfl, hB⟩
end Go.Proofs.YtaoinkjjmakhaaaGreatDoor
namespace Go.Proofs.YtaoinkjjmakhaaaGreatDoor
open Go.RowKit
def cut (k : Nat) (l : List UInt8) : List UInt8 := (List.range k).map fun i => l.getD i 0
end Go.Proofs.YtaoinkjjmakhaaaGreatDoor
namespace Go.Proofs.YtaoinkjjmakhaaaGreatDoor
abbrev Kd := ByteArray × Int
def plainN (b : UInt8) : Bool := decide (97 <= b.toNat /\ b.toNat <= 122) || decide (48 <= b.toNat /\ b.toNat <= 57) || decide (b.toNat = 95)
def nameB (s : ByteArray) : Bool := decide (1 <= s.size /\ s.size <= 16) && s.data.toList.all plainN
structure Cf where
 lg : Int
 pg : Int
 en : Int
 gn : Int
 ks : List Kd
def Named (ks : List Kd) : Prop := ∀ k ∈ ks, nameB k.1 = true
def Sized (ks : List Kd) : Prop := ∀ k ∈ ks, 0 <= k.2 /\ k.2 <= 64
def Apart (ks : List Kd) : Prop := (ks.map Prod.fst).Nodup
instance (ks : List Kd) : Decidable (Named ks) := inferInstanceAs (Decidable (∀ k ∈ ks, nameB k.1 = true))
instance (ks : List Kd) : Decidable (Sized ks) := inferInstanceAs (Decidable (∀ k ∈ ks, 0 <= k.2 /\ k.2 <= 64))
instance (ks : List Kd) : Decidable (Apart ks) := inferInstanceAs (Decidable (ks.map Prod.fst).Nodup)
def Cf.Nums (c : Cf) : Prop := (2 <= c.lg /\ c.lg <= 1024) /\ (4 <= c.pg /\ c.pg <= 1024) /\ (1 <= c.en /\ c.en <= 1024) /\ (1 <= c.gn /\ c.gn <= 1073741824) /\ c.ks.length <= 32
instance (c : Cf) : Decidable c.Nums := by unfold Cf.Nums; infer_instance
def Cf.Right (c : Cf) : Prop := c.Nums /\ Named c.ks /\ Apart c.ks /\ Sized c.ks
instance (c : Cf) : Decidable c.Right := by unfold Cf.Right; infer_instance
theorem take_snoc {α : Type} {l : List α} {j : Nat} (h : j < l.length) : l.take (j + 1) = l.take j ++ [l[j]] := List.take_succ_eq_append_getElem h
theorem Named.nil : Named [] := fun _ h => by cases h
theorem Sized.nil : Sized [] := fun _ h => by cases h
theorem Apart.nil : Apart [] := List.nodup_nil
theorem named_snoc {ks : List Kd} {j : Nat} (h : j < ks.length) : Named (ks.take (j + 1)) ↔ Named (ks.take j) /\ nameB ks[j].1 = true := by
 rw [take_snoc h]
 simp only [Named, List.mem_append, List.mem_singleton]
 exact ⟨fun H => ⟨fun k hk => H k (.inl hk), H _ (.inr rfl)⟩, fun ⟨H, h2⟩ k hk => hk.elim (H k) (fun e => e ▸ h2)⟩
theorem sized_snoc {ks : List Kd} {j : Nat} (h : j < ks.length) : Sized (ks.take (j + 1)) ↔ Sized (ks.take j) /\ (0 <= ks[j].2 /\ ks[j].2 <= 64) := by
 rw [take_snoc h]
 simp only [Sized, List.mem_append, List.mem_singleton]
 exact ⟨fun H => ⟨fun k hk => H k (.inl hk), H _ (.inr rfl)⟩, fun ⟨H, h2⟩ k hk => hk.elim (H k) (fun e => e ▸ h2)⟩
def First (ks : List Kd) (s : ByteArray) (j : Nat) : Prop := ∀ k ∈ ks.take j, k.1 ≠ s
theorem apart_snoc {ks : List Kd} {j : Nat} (h : j < ks.length) : Apart (ks.take (j + 1)) ↔ Apart (ks.take j) /\ First ks ks[j].1 j := by
 rw [take_snoc h]
 simp only [Apart, First, List.map_append, List.map_cons, List.map_nil, List.nodup_append, List.mem_map, List.mem_singleton, List.nodup_cons, List.not_mem_nil, not_false_iff, List.nodup_nil, true_and]
 refine ⟨fun ⟨a, b⟩ => ⟨a, fun k hk e => b k.1 ⟨k, hk, rfl⟩ _ rfl e⟩, fun ⟨a, b⟩ => ⟨a, ?_⟩⟩
 rintro x ⟨k, hk, rfl⟩ y rfl
 exact b k hk
theorem named_take {ks : List Kd} (h : Named ks) (j : Nat) : Named (ks.take j) := fun k hk => h k (List.mem_of_mem_take hk)
theorem sized_take {ks : List Kd} (h : Sized ks) (j : Nat) : Sized (ks.take j) := fun k hk => h k (List.mem_of_mem_take hk)
theorem apart_take {ks : List Kd} (h : Apart ks) (j : Nat) : Apart (ks.take j) := by
 unfold Apart at h ⊢
 rw [List.map_take]
 exact h.sublist (List.take_sublist _ _)
theorem First.zero (ks : List Kd) (s : ByteArray) : First ks s 0 := fun k hk => by simp at hk
theorem First.succ {ks : List Kd} {s : ByteArray} {j : Nat} (h : j < ks.length) : First ks s (j + 1) ↔ First ks s j /\ ks[j].1 ≠ s := by
 unfold First
 rw [take_snoc h]
 simp only [List.mem_append, List.mem_singleton]
 exact ⟨fun H => ⟨fun k hk => H k (.inl hk), H _ (.inr rfl)⟩, fun ⟨H, h2⟩ k hk => hk.elim (H k) (fun e => e ▸ h2)⟩
def findK : List Kd -> ByteArray -> Int × Bool
 | [], _ => (0, false)
 | k :: l, s => if k.1 = s then (0, true) else if (findK l s).2 = true then ((findK l s).1 + 1, true) else (0, false)
theorem findK_yes : ∀ (ks : List Kd) (s : ByteArray) (j : Nat) (h : j < ks.length), First ks s j -> ks[j].1 = s -> findK ks s = ((j : Int), true)
 | k :: l, s, 0, _, _, e => by
  have e' : k.1 = s := e
  simp [findK, e']
 | k :: l, s, j + 1, h, f, e => by
  have hk : k.1 ≠ s := f k (by simp)
  have ih := findK_yes l s j (by simpa using h) (fun x hx => f x (by simp [hx])) e
  simp [findK, hk, ih]
theorem findK_no : ∀ (ks : List Kd) (s : ByteArray), (∀ k ∈ ks, k.1 ≠ s) -> findK ks s = (0, false)
 | [], _, _ => rfl
 | k :: l, s, f => by
  have hk : k.1 ≠ s := f k (by simp)
  have ih := findK_no l s (fun x hx => f x (by simp [hx]))
  simp [findK, hk, ih]
theorem findK_at (ks : List Kd) (j : Nat) (h : j < ks.length) : (First ks ks[j].1 j /\ (findK ks ks[j].1).1 = j) \/ (¬ First ks ks[j].1 j /\ (findK ks ks[j].1).1 ≠ j) := by
 by_cases f : First ks ks[j].1 j
 ·exact .inl ⟨f, by rw [findK_yes ks _ j h f rfl]⟩
 ·refine .inr ⟨f, ?_⟩
  have key : ∀ i, i <= j -> ¬ First ks ks[j].1 i -> ∃ m, m < i /\ ∃ hm : m < ks.length, First ks ks[j].1 m /\ ks[m].1 = ks[j].1 := by
   intro i
   induction i with
   | zero => intro _ hn; exact absurd (First.zero _ _) hn
   | succ i ih =>
    intro hi hn
    have hil : i < ks.length := by omega
    by_cases hf : First ks ks[j].1 i
    ·refine ⟨i, by omega, hil, hf, ?_⟩
     exact Classical.byContradiction fun hne => hn ((First.succ hil).2 ⟨hf, hne⟩)
    ·obtain ⟨m, hm, r⟩ := ih (by omega) hf
     exact ⟨m, by omega, r⟩
  obtain ⟨m, hm, hml, hf, he⟩ := key j (Nat.le_refl _) f
  rw [findK_yes ks _ m hml hf he]
  show ((m : Nat) : Int) ≠ j
  omega
def Good (ks : List Kd) (j : Nat) : Prop := Named (ks.take j) /\ Apart (ks.take j) /\ Sized (ks.take j)
theorem Good.zero (ks : List Kd) : Good ks 0 := ⟨by simpa using Named.nil, by simpa using Apart.nil, by simpa using Sized.nil⟩
theorem good_snoc {ks : List Kd} {j : Nat} (h : j < ks.length) : Good ks (j + 1) ↔ Good ks j /\ First ks ks[j].1 j /\ nameB ks[j].1 = true /\ 0 <= ks[j].2 /\ ks[j].2 <= 64 := by
 unfold Good
 rw [named_snoc h, apart_snoc h, sized_snoc h]
 constructor
 ·rintro ⟨⟨a, b⟩, ⟨c, d⟩, e, f⟩; exact ⟨⟨a, c, e⟩, d, b, f⟩
 ·rintro ⟨⟨a, c, e⟩, d, b, f⟩; exact ⟨⟨a, b⟩, ⟨c, d⟩, e, f⟩
theorem good_all (ks : List Kd) : Good ks ks.length ↔ Named ks /\ Apart ks /\ Sized ks := by unfold Good; rw [List.take_length]
theorem good_take {ks : List Kd} (h : Named ks /\ Apart ks /\ Sized ks) (j : Nat) : Good ks j := ⟨named_take h.1 j, apart_take h.2.1 j, sized_take h.2.2 j⟩
def sizeK (ks : List Kd) (k : Int) : Int × Bool := if 0 <= k /\ k < ks.length then ((ks.getD k.toNat (.empty, 0)).2, true) else (0, false)
def muchK (ks : List Kd) : Bool := (ks.take 50).any (fun k => decide (100 < k.1.size)) || decide (40 < ks.length)
theorem muchK_no {ks : List Kd} (h : muchK ks = false) : ks.length <= 40 /\ ∀ k ∈ ks, k.1.size <= 100 := by
 simp only [muchK, Bool.or_eq_false_iff, List.any_eq_false, decide_eq_true_eq, decide_eq_false_iff_not] at h
 obtain ⟨h1, h2⟩ := h
 refine ⟨by omega, fun k hk => ?_⟩
 rw [List.take_of_length_le (by omega)] at h1
 have := h1 k hk
 omega
end Go.Proofs.YtaoinkjjmakhaaaGreatDoor
namespace Go.Proofs.YtaoinkjjmakhaaaGreatDoor
open Go.RowKit
def KRd (w : World) (A : Option Addr) (n : Nat) (ks : List Kd) : Prop :=
 ks.length = n /\ (0 < n -> ∃ b o, A = some ⟨b, o, none⟩ /\ b < w.heap.size /\ ∀ j (h : j < ks.length), w.cell? ⟨b, o + j * 2, none⟩ = some (.string ks[j].1) /\ w.cell? ⟨b, o + j * 2 + 1, none⟩ = some (.int .i64 ks[j].2))
theorem KRd.own_below {w w' : World} {A : Option Addr} {n : Nat} {ks : List Kd} (h : KRd w A n ks) {B : Nat} (hB : w.heap.size <= B) (hb : Below B w w') : KRd w' A n ks :=
 ⟨h.1, fun hp => by
  obtain ⟨b, o, e, hlt, hc⟩ := h.2 hp
  refine ⟨b, o, e, by have := hb.size; omega, fun j hj => ?_⟩
  obtain ⟨h0, h1⟩ := hc j hj
  exact ⟨(hb.cell (p := ⟨b, o + j * 2, none⟩) (by simp; omega)).trans h0, (hb.cell (p := ⟨b, o + j * 2 + 1, none⟩) (by simp; omega)).trans h1⟩⟩
theorem KRd.below {w w' : World} {A : Option Addr} {n : Nat} {ks : List Kd} (h : KRd w A n ks) (hb : Below w.heap.size w w') : KRd w' A n ks := h.own_below (Nat.le_refl _) hb
theorem KRd.alloc {w : World} {A : Option Addr} {n : Nat} {ks : List Kd} (h : KRd w A n ks) (o : Obj) : KRd (w.alloc o) A n ks := h.below ((Below.refl _ _).alloc (Nat.le_refl _) o)
theorem KRd.nil (w : World) (A : Option Addr) : KRd w A 0 [] := ⟨rfl, fun h => absurd h (Nat.lt_irrefl 0)⟩
theorem KRd.at_ {w : World} {A : Option Addr} {n : Nat} {ks : List Kd} (h : KRd w A n ks) {j : Nat} (hj : j < n) :
  ∃ b o s z, A = some ⟨b, o, none⟩ /\ b < w.heap.size /\ w.cell? ⟨b, o + j * 2, none⟩ = some (.string s) /\ w.cell? ⟨b, o + j * 2 + 1, none⟩ = some (.int .i64 z) /\ ∃ hl : j < ks.length, ks[j] = (s, z) := by
 obtain ⟨b, o, e, hlt, hc⟩ := h.2 (by omega)
 have hl : j < ks.length := by rw [h.1]; exact hj
 exact ⟨b, o, ks[j].1, ks[j].2, e, hlt, (hc j hl).1, (hc j hl).2, hl, rfl⟩
theorem confT : RT Tryz.prog 24 5 := ⟨⟨_, Tryz.underlying24, rfl⟩, by kernel_rfl⟩
theorem compsT : El Tryz.prog 22 59 (.agg #[.string .empty, .int .i64 0]) 2 24 := ⟨Tryz.underlying22, by kernel_rfl, rfl, by decide⟩
end Go.Proofs.YtaoinkjjmakhaaaGreatDoor
namespace Go.Proofs.YtaoinkjjmakhaaaGreatDoor
open Go.RowKit
set_option linter.unusedVariables false
abbrev cv (lg pg en gn : Int) (A : Option Addr) (n cap : Nat) : Value := .agg #[.int .i64 lg, .int .i64 pg, .int .i64 en, .int .i64 gn, .slice A n cap]
abbrev cc (lg pg en gn : Int) (A : Option Addr) (n cap : Nat) : Array Value := #[.int .i64 lg, .int .i64 pg, .int .i64 en, .int .i64 gn, .slice A n cap]
structure CAt (w0 w : World) (g : Nat) (lg pg en gn : Int) (A : Option Addr) (n cap : Nat) (ks : List Kd) : Prop where
 bel : Below w0.heap.size w0 w
 ge : w0.heap.size <= g
 lt : g < w.heap.size
 c0 : w.cell? ⟨g, 0, none⟩ = some (.int .i64 lg)
 c1 : w.cell? ⟨g, 1, none⟩ = some (.int .i64 pg)
 c2 : w.cell? ⟨g, 2, none⟩ = some (.int .i64 en)
 c3 : w.cell? ⟨g, 3, none⟩ = some (.int .i64 gn)
 c4 : w.cell? ⟨g, 4, none⟩ = some (.slice A n cap)
 rd : KRd w A n ks
theorem CAt.new {w : World} {A : Option Addr} {n : Nat} {ks : List Kd} (h : KRd w A n ks) (lg pg en gn : Int) (cap : Nat) :
  CAt w (w.alloc (.cells (cc lg pg en gn A n cap) 24)) w.heap.size lg pg en gn A n cap ks where
 bel := (Below.refl _ _).alloc (Nat.le_refl _) _
 ge := Nat.le_refl _
 lt := by simp
 c0 := by simp
 c1 := by simp
 c2 := by simp
 c3 := by simp
 c4 := by simp
 rd := h.alloc _
theorem CAt.next {w0 w w' : World} {g : Nat} {lg pg en gn : Int} {A : Option Addr} {n cap : Nat} {ks : List Kd} (h : CAt w0 w g lg pg en gn A n cap ks) (hb : Below w.heap.size w w') : CAt w0 w' g lg pg en gn A n cap ks where
 bel := h.bel.trans (hb.mono h.bel.size)
 ge := h.ge
 lt := Nat.lt_of_lt_of_le h.lt hb.size
 c0 := (hb.cell (p := ⟨g, 0, none⟩) h.lt).trans h.c0
 c1 := (hb.cell (p := ⟨g, 1, none⟩) h.lt).trans h.c1
 c2 := (hb.cell (p := ⟨g, 2, none⟩) h.lt).trans h.c2
 c3 := (hb.cell (p := ⟨g, 3, none⟩) h.lt).trans h.c3
 c4 := (hb.cell (p := ⟨g, 4, none⟩) h.lt).trans h.c4
 rd := h.rd.below hb
theorem sizeK_yes {ks : List Kd} {j : Nat} {s : ByteArray} {z : Int} (h : j < ks.length) (hk : ks[j] = (s, z)) : sizeK ks (j : Int) = (z, true) := by
 unfold sizeK
 rw [if_pos ⟨by omega, by omega⟩, Int.toNat_natCast, List.getD, List.getElem?_eq_getElem h, hk]
 rfl
theorem sizeK_no {ks : List Kd} {k : Int} (h : ¬ (0 <= k /\ k < ks.length)) : sizeK ks k = (0, false) := by
 unfold sizeK
 rw [if_neg h]
end Go.Proofs.YtaoinkjjmakhaaaGreatDoor
namespace Go.Proofs.YtaoinkjjmakhaaaGreatDoor
def zsK (ks : List Kd) (k : Nat) : Int := (ks.getD k (.empty, 0)).2
theorem sizeK_at {ks : List Kd} {k : Nat} (h : k < ks.length) : sizeK ks (k : Int) = (zsK ks k, true) := by
 rw [sizeK_yes h (s := ks[k].1) (z := ks[k].2) rfl]
 unfold zsK
 rw [List.getD_eq_getElem?_getD, List.getElem?_eq_getElem h]
 rfl
end Go.Proofs.YtaoinkjjmakhaaaGreatDoor
namespace Go.Proofs.YtaoinkjjmakhaaaGreatDoor
open Go.RowKit
set_option linter.unusedVariables false
section
variable (lg pg en gn : Int) (A : Option Addr) (n cap : Nat) (ks : List Kd) (w : World)
theorem RSize_any (h : KRd w A n ks) (hn : n <= 1000000) (k : Int) :
  Calls Tryz.prog 142 #[cv lg pg en gn A n cap, .int .i64 k] w fun e w' => e = .returned (.tuple #[.int .i64 (sizeK ks k).1, .bool (sizeK ks k).2]) /\ Below w.heap.size w w' := by
 obtain ⟨w1, hw1⟩ : ∃ w1, w1 = w.alloc (.cells (cc lg pg en gn A n cap) 24) := ⟨_, rfl⟩
 have C1 := CAt.new h lg pg en gn cap
 rw [<- hw1] at C1
 obtain ⟨g, hg⟩ : ∃ g, g = w.heap.size := ⟨_, rfl⟩
 rw [<- hg] at C1
 have c4 := C1.c4
 have hl := h.1
 have K1 := hi_ C1
 have HG := hi_ hg
 clear h hg C1
 by_cases hk0 : k < 0
 ·have e1 : sizeK ks k = (0, false) := sizeK_no (by omega)
  rw [e1]
  clear e1
  go_enter Tryz.func142, Tryz.ntmps142
  go_wp2_with (rw [<- hw1, <- HG.out]; clear hw1)
  go_ret2
  exact ⟨rfl, K1.out.bel⟩
 ·by_cases hk1 : k < n
  ·obtain ⟨j, rfl⟩ : ∃ j : Nat, k = (j : Int) := ⟨k.toNat, by omega⟩
   obtain ⟨b, o, s', z, rfl, _, k0, k1, hl', hk⟩ := K1.out.rd.at_ (show j < n by omega)
   rw [sizeK_yes hl' hk]
   clear hk
   go_enter Tryz.func142, Tryz.ntmps142
   go_wp2_with (rw [<- hw1, <- HG.out]; clear hw1)
   go_ret2
   exact ⟨rfl, K1.out.bel⟩
  ·have e1 : sizeK ks k = (0, false) := sizeK_no (by omega)
   rw [e1]
   clear e1
   go_enter Tryz.func142, Tryz.ntmps142
   go_wp2_with (rw [<- hw1, <- HG.out]; clear hw1)
   go_ret2
   exact ⟨rfl, K1.out.bel⟩
end
end Go.Proofs.YtaoinkjjmakhaaaGreatDoor
namespace Go.Proofs.YtaoinkjjmakhaaaGreatDoor
open Go.RowKit
theorem RHas_any (s : Nat) (c : Int) (w : World) (hs : s < 18446744073709551616) :
  Calls Tryz.prog 146 #[.int .u64 s, .int .i64 c] w fun e w' => e = .returned (.bool (decide (0 <= c /\ c < 64 /\ s.testBit c.toNat = true))) /\ w = w' := by
 by_cases h0 : 0 <= c
 ·by_cases h1 : c < 64
  ·obtain ⟨k, hk⟩ : ∃ k : Nat, c = (k : Int) := ⟨c.toNat, by omega⟩
   subst hk
   have hk : k <= 63 := by omega
   clear h0 h1
   have hb : decide (0 <= (k : Int) /\ (k : Int) < 64 /\ s.testBit ((k : Int)).toNat = true) = decide (s / 2 ^ k % 2 = 1) := by
    have h1 : (k : Int) < 64 := by omega
    rw [Nat.testBit_eq_decide_div_mod_eq]
    simp [h1]
   rw [hb]
   clear hb
   go_enter Tryz.func146, Tryz.ntmps146
   go_wp2
   go_loop [0, 5] (fun v i => ∃ j : Nat, j <= k /\ i = .int .i64 j /\ v = .int .u64 (s / 2 ^ j : Nat)) (fun _ i => k - (intOf i).toNat)
   case atStart => exact ⟨0, Nat.zero_le _, rfl, by simp⟩
   case round =>
    obtain ⟨j, hj, rfl, rfl⟩ := hrel
    obtain ⟨t, ht⟩ : ∃ t, t = s / 2 ^ j := ⟨_, rfl⟩
    have htl : t < 18446744073709551616 := by rw [ht]; exact Nat.lt_of_le_of_lt (Nat.div_le_self _ _) hs
    rw [<- ht]
    by_cases hjk : j < k
    ·have h2 : s / 2 ^ (j + 1) = t / 2 := by rw [Nat.pow_succ, <- Nat.div_div_eq_div_mul, <- ht]
     clear ht
     go_wp2
     go_round
     case rel => exact ⟨j + 1, hjk, by go_num, by rw [h2]; rfl⟩
     case measure => simp [intOf]; omega
    ·have e : j = k := by omega
     subst e
     have HT := hi_ ht
     clear ht
     go_wp2
     go_ret
     exact ⟨ret_bool (by rw [<- HT.out, Bool.eq_iff_iff]; simp; omega), rfl⟩
  ·have hb : decide (0 <= c /\ c < 64 /\ s.testBit c.toNat = true) = false := by simp; omega
   rw [hb]
   clear hb
   go_enter Tryz.func146, Tryz.ntmps146
   go_wp2
   go_ret
   exact ⟨rfl, rfl⟩
 ·have hb : decide (0 <= c /\ c < 64 /\ s.testBit c.toNat = true) = false := by simp; omega
  rw [hb]
  clear hb
  go_enter Tryz.func146, Tryz.ntmps146
  go_wp2
  go_ret
  exact ⟨rfl, rfl⟩
end Go.Proofs.YtaoinkjjmakhaaaGreatDoor
namespace Go.Proofs.YtaoinkjjmakhaaaGreatDoor
open Go.RowKit
section
variable {P : Program} (w : World) {T e : TypeId} {ops : Array Oper} {rest : List Oper} {o : Oper} {a : Act} {Q : Exit -> Act -> World -> Prop} {J : Act -> World -> Prop} {E : Prop}
end
end Go.Proofs.YtaoinkjjmakhaaaGreatDoor
namespace Go.Proofs.YtaoinkjjmakhaaaGreatDoor
open Go.RowKit
set_option maxRecDepth 20000
theorem listR_snoc (s j : Nat) : ((List.range (j + 1)).filter fun i => s.testBit i) = ((List.range j).filter fun i => s.testBit i) ++ (if s.testBit j = true then [j] else []) := by
 rw [List.range_succ, List.filter_append]
 by_cases h : s.testBit j = true <;> simp [h]
theorem RList_any (s : Nat) (w : World) (hs : s < 18446744073709551616) :
  Calls Tryz.prog 98 #[.int .u64 s] w fun e w' => ∃ v, e = .returned v /\ w'.ownsRow w.heap.size 3 1 v (listN s).length ((listZ s).map (Value.int .i64)) /\ Below w.heap.size w w' := by
 obtain ⟨i0, hi0, hz0, hz1, hz2⟩ := info_parts intT.info
 go_enter Tryz.func98, Tryz.ntmps98
 go_wp2
 go_loopw [3, 4] (fun v iv wr => ∃ (j : Nat) (pre : List Nat), j <= 64 /\ iv = .int .i64 j /\ pre = ((List.range j).filter fun i => s.testBit i) /\ wr.ownsRow w.heap.size 3 1 v pre.length ((pre.map Int.ofNat).map (Value.int .i64)) /\ Below w.heap.size w wr) (fun _ iv _ => 64 - (intOf iv).toNat)
 case atStart => exact ⟨0, [], Nat.zero_le _, rfl, rfl, World.ownsRow_nil _ _ _ _, Below.refl _ _⟩
 case round =>
  obtain ⟨j, pre, hj, rfl, hp, ho, hB⟩ := hrel
  have hbs := hB.size
  have HB := hi_ hB
  by_cases hj6 : j < 64
  ·have H := hi_ (RHas_any s (j : Int) wr hs)
   have hsn := listR_snoc s j
   rw [<- hp] at hsn
   have hpl : pre.length <= 64 := by
    have := List.length_filter_le (fun i => s.testBit i) (List.range j)
    rw [List.length_range, <- hp] at this
    omega
   have hd : decide (0 <= (j : Int) /\ (j : Int) < 64 /\ s.testBit ((j : Int)).toNat = true) = s.testBit j := by
    have h1 : (j : Int) < 64 := by omega
    simp [h1]
   rw [hd] at H
   clear hB hp hd
   by_cases hb : s.testBit j = true
   ·rw [if_pos hb] at hsn
    rw [hb] at H
    have HSN := hi_ hsn
    clear hsn hb
    go_wp2_with fail
    refine H.out.mono ?_
    rintro e w' ⟨rfl, rfl⟩
    go_wp2_with (at_builtin; refine wpList_append_own_at _ rfl _ _ 38 rfl w.heap.size 3 i0 (.int .i64 0) 1 8 Tryz.underlying38 hi0 hz0 hz1 hz2 rfl (by decide) _ _ _ rfl (ho.alloc _) ⟨wr.heap.size, 0, none⟩ 1 1 [.int .i64 j] rfl rfl (cell_one_new _ _ _) (fun u hu => by rw [List.mem_singleton.1 hu]; rfl) (by unfold maxLen; omega) (by omega) (by simp; omega) ?_; intro v' w4 ho4 hg4 _ _; try go_frame)
    go_roundw
    case rel =>
     refine ⟨j + 1, pre ++ [j], hj6, by go_num, HSN.out.symm, ?_, (HB.out.alloc hbs _).grown hg4 (by simp; omega) (fun q hq => (ho.lt q hq).1)⟩
     simpa using ho4
    case measure => simp [intOf]; omega
   ·rw [if_neg hb, List.append_nil] at hsn
    have hb : s.testBit j = false := by simpa using hb
    rw [hb] at H
    have HSN := hi_ hsn
    clear hsn hb
    go_wp2_with fail
    refine H.out.mono ?_
    rintro e w' ⟨rfl, rfl⟩
    go_wp2
    go_roundw
    case rel => exact ⟨j + 1, pre, hj6, by go_num, HSN.out.symm, ho, HB.out⟩
    case measure => simp [intOf]; omega
  ·obtain rfl : j = 64 := by omega
   clear hB
   have HP := hi_ hp
   clear hp
   go_wp2
   go_ret
   have e : pre = listN s := HP.out
   subst e
   exact ⟨_, rfl, ho, HB.out⟩
end Go.Proofs.YtaoinkjjmakhaaaGreatDoor
