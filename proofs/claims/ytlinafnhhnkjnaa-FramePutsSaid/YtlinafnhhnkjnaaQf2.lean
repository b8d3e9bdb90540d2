/- CdA, RowV, RowL, Grow, FrA, ByC, CdB -/
import Derived.Test.YtlinafnhhnkjnaaQf1
import Derived.Deep.MidRow
import Derived.Deep.WholeRow
import Derived.Carry
import Derived.Lib.SliceRun
import Derived.Deep.RegionHeld3
import Derived.Deep.DeepCutAuto
namespace Go.Proofs.Ytlinafnhhnkjnaa
open Go.RowKit
set_option linter.unusedVariables false

theorem cdT : RT Try.prog 47 6 := ⟨⟨_, Try.underlying47, rfl⟩, by kernel_rfl⟩
theorem trT : RT Try.prog 73 3 := ⟨⟨_, Try.underlying73, rfl⟩, by kernel_rfl⟩
/-- A command that is boxed at g. -/
structure CdAt (w0 w : World) (g : Nat) (x : Cd) (A : Option Addr) (n c : Nat) : Prop where
  r : Rec 47 w g (x.cs A n c)
  rd : Rd w A n x.dt
  bel : Below w0.heap.size w0 w
  hg : w0.heap.size ≤ g
section
variable {w0 w w' : World} {g : Nat} {x : Cd} {A : Option Addr} {n c : Nat}
theorem CdAt.new (w : World) (x : Cd) (A : Option Addr) (n c : Nat) (h : Rd w A n x.dt) : CdAt w (w.alloc (.cells (x.cs A n c) 47)) w.heap.size x A n c :=
  ⟨Rec.new w _ _, h.alloc _, (Below.refl _ _).alloc (Nat.le_refl _) _, Nat.le_refl _⟩
theorem CdAt.next (h : CdAt w0 w g x A n c) (hb : Below w.heap.size w w') : CdAt w0 w' g x A n c := ⟨h.r.under hb, h.rd.below (Nat.le_refl _) hb, h.bel.trans (hb.mono h.bel.size), h.hg⟩
theorem CdAt.c0 (h : CdAt w0 w g x A n c) : w.cell? ⟨g, 0, none⟩ = some (.int .i64 x.d) := h.r.at_ 0
theorem CdAt.c1 (h : CdAt w0 w g x A n c) : w.cell? ⟨g, 1, none⟩ = some (.bool x.lc) := h.r.at_ 1
theorem CdAt.c2 (h : CdAt w0 w g x A n c) : w.cell? ⟨g, 2, none⟩ = some (.int .i64 x.ix) := h.r.at_ 2
theorem CdAt.c3 (h : CdAt w0 w g x A n c) : w.cell? ⟨g, 3, none⟩ = some (.int .i64 x.gn) := h.r.at_ 3
theorem CdAt.c4 (h : CdAt w0 w g x A n c) : w.cell? ⟨g, 4, none⟩ = some (.int .i64 x.cp) := h.r.at_ 4
theorem CdAt.c5 (h : CdAt w0 w g x A n c) : w.cell? ⟨g, 5, none⟩ = some (.slice A n c) := h.r.at_ 5
end

/-- What has tells: what a command of this Do has. -/
def hasV (d : Int) : Value := .agg #[.bool (decide (1 ≤ d ∧ d ≤ 3)), .bool (decide (2 ≤ d ∧ d ≤ 3)), .bool (decide (d = 2))]
def hasB (d : Int) : Bool := decide (0 ≤ d ∧ d ≤ 3)
def HasP (d : Int) (w : World) (e : Ending) (w' : World) : Prop := e = .returned (.tuple #[hasV d, .bool (hasB d)]) ∧ Below w.heap.size w w'
theorem has_any (d : Int) (w : World) : Calls Try.prog 40 #[.int .i64 d] w (HasP d w) := by
  rcases cd_cases d with rfl | rfl | rfl | rfl | h
  · go_enter Try.func40, Try.ntmps40
    go_wp2
    exact bodyPost_ret (v := .tuple #[.agg #[.bool false, .bool false, .bool false], .bool true]) (by simp [results, Try.results40, go_sem]) rfl ⟨rfl, (Below.refl _ _).alloc (Nat.le_refl _) _⟩
  · go_enter Try.func40, Try.ntmps40
    go_wp2
    exact bodyPost_ret (v := .tuple #[.agg #[.bool true, .bool false, .bool false], .bool true]) (by simp [results, Try.results40, go_sem]) rfl ⟨rfl, (Below.refl _ _).alloc (Nat.le_refl _) _⟩
  · go_enter Try.func40, Try.ntmps40
    go_wp2
    exact bodyPost_ret (v := .tuple #[.agg #[.bool true, .bool true, .bool true], .bool true]) (by simp [results, Try.results40, go_sem]) rfl ⟨rfl, (Below.refl _ _).alloc (Nat.le_refl _) _⟩
  · go_enter Try.func40, Try.ntmps40
    go_wp2
    exact bodyPost_ret (v := .tuple #[.agg #[.bool true, .bool true, .bool false], .bool true]) (by simp [results, Try.results40, go_sem]) rfl ⟨rfl, (Below.refl _ _).alloc (Nat.le_refl _) _⟩
  · have h0 : ¬ d = 0 := by omega
    have h1 : ¬ d = 1 := by omega
    have h2 : ¬ d = 2 := by omega
    have h3 : ¬ d = 3 := by omega
    have q : hasV d = .agg #[.bool false, .bool false, .bool false] := by
      unfold hasV
      rw [decide_eq_false (show ¬ (1 ≤ d ∧ d ≤ 3) by omega), decide_eq_false (show ¬ (2 ≤ d ∧ d ≤ 3) by omega), decide_eq_false h2]
    have q2 : hasB d = false := decide_eq_false (by omega)
    have Q := Lib.hid (And.intro q q2)
    clear h q q2
    go_enter Try.func40, Try.ntmps40
    go_wp2
    exact bodyPost_ret (v := .tuple #[.agg #[.bool false, .bool false, .bool false], .bool false]) (by simp [results, Try.results40, go_sem]) rfl ⟨by rw [Q.out.1, Q.out.2], (Below.refl _ _).alloc (Nat.le_refl _) _⟩

section
variable (x : Cd) (A : Option Addr) (n c : Nat) (w : World)
theorem Check_any (h : Rd w A n x.dt) (hn : n ≤ 9223372036854775807) :
    Calls Try.prog 25 #[.agg (x.cs A n c)] w fun e w' => e = .returned (.int .i64 x.check) ∧ Below w.heap.size w w' := by
  obtain ⟨w1, hw1⟩ : ∃ w1, w1 = w.alloc (.cells (x.cs A n c) 47) := ⟨_, rfl⟩
  have C1 := CdAt.new w x A n c h
  rw [← hw1] at C1
  have c0 := C1.c0
  have hl := h.1
  have hv := has_any x.d w1
  have hck : x.check = if hasB x.d = true then (if n ≤ 64 then 0 else 13) else 1 := by unfold Cd.check hasB; rw [hl]; simp
  have K1 := Lib.hid C1
  have HV := Lib.hid hv
  have HK := Lib.hid hck
  obtain ⟨b, hb⟩ : ∃ b, b = hasB x.d := ⟨_, rfl⟩
  obtain ⟨a1, a2, a3, ha⟩ : ∃ a1 a2 a3, hasV x.d = .agg #[.bool a1, .bool a2, .bool a3] := ⟨_, _, _, rfl⟩
  have HB := Lib.hid hb
  have HA := Lib.hid ha
  clear C1 hv hck hl h hb ha
  have hr : ∀ b' e w2, HasP x.d w1 e w2 → hasB x.d = b' → e = .returned (.tuple #[.agg #[.bool a1, .bool a2, .bool a3], .bool b']) ∧ Below w1.heap.size w1 w2 := fun b' e w2 h e' => by rw [← e', ← HA.out]; exact h
  have HR := Lib.hid hr
  clear hr
  cases b
  · go_enter Try.func25, Try.ntmps25
    go_wp2_with (first
      | (rw [← hw1]; clear hw1)
      | (go_at_call 40; refine HV.out.mono ?_; intro e w2 hp; obtain ⟨rfl, hb2⟩ := HR.out false e w2 hp HB.out.symm; have K2 := Lib.hid (K1.out.next hb2); clear hb2 hp))
    go_ret
    refine ⟨ret_int ?_, K2.out.bel.alloc K2.out.bel.size _⟩
    rw [HK.out, ← HB.out]
    rfl
  · by_cases h64 : n ≤ 64
    all_goals
      go_enter Try.func25, Try.ntmps25
      go_wp2_with (first
        | (rw [← hw1]; clear hw1)
        | (go_at_call 40; refine HV.out.mono ?_; intro e w2 hp; obtain ⟨rfl, hb2⟩ := HR.out true e w2 hp HB.out.symm; have K2 := Lib.hid (K1.out.next hb2); have c5 := K2.out.c5; have g5 := K2.out.r.lt; clear hb2 hp))
      go_ret
      refine ⟨ret_int ?_, K2.out.bel.alloc K2.out.bel.size _⟩
      rw [HK.out, ← HB.out]
      simp [h64]

theorem RCheck_any (h : Rd w A n x.dt) (hn : n ≤ 9223372036854775807) :
    Calls Try.prog 24 #[.agg (x.cs A n c)] w fun e w' => e = .returned (.int .i64 x.check) ∧ Below w.heap.size w w' := by
  obtain ⟨w1, hw1⟩ : ∃ w1, w1 = w.alloc (.cells (x.cs A n c) 47) := ⟨_, rfl⟩
  have C1 := CdAt.new w x A n c h
  rw [← hw1] at C1
  have c0 := C1.c0
  have c5 := C1.c5
  have hl := h.1
  have hck : x.check = if 0 ≤ x.d ∧ x.d ≤ 3 then (if n ≤ 64 then 0 else 13) else 1 := by unfold Cd.check; rw [hl]
  have K1 := Lib.hid C1
  have HK := Lib.hid hck
  obtain ⟨d, hd⟩ : ∃ d, d = x.d := ⟨_, rfl⟩
  rw [← hd] at c0
  have HD := Lib.hid hd
  clear C1 hck hl h hd
  by_cases h0 : d < 0
  · go_enter Try.func24, Try.ntmps24
    go_wp2_with (rw [← hw1]; clear hw1)
    go_ret
    refine ⟨ret_int ?_, K1.out.bel⟩
    rw [HK.out, ← HD.out, if_neg (by omega)]
  · by_cases h3 : 3 < d
    · go_enter Try.func24, Try.ntmps24
      go_wp2_with (rw [← hw1]; clear hw1)
      go_ret
      refine ⟨ret_int ?_, K1.out.bel⟩
      rw [HK.out, ← HD.out, if_neg (by omega)]
    · by_cases h64 : n ≤ 64
      all_goals
        go_enter Try.func24, Try.ntmps24
        go_wp2_with (rw [← hw1]; clear hw1)
        go_ret
        refine ⟨ret_int ?_, K1.out.bel⟩
        rw [HK.out, ← HD.out, if_pos (by omega)]
        simp [h64]
end
end Go.Proofs.Ytlinafnhhnkjnaa
namespace Go.Proofs.Ytlinafnhhnkjnaa
open Go.RowKit

/-- Blocks of keep are as they were. -/
def WStays (keep : Nat → Prop) (w w' : World) : Prop := w.heap.size ≤ w'.heap.size ∧ ∀ x, keep x → w'.heap[x]? = w.heap[x]?
/-- A slice of values of sz cells each. -/
def VRow (K : Nat → Prop) (w : World) (A : Option Addr) (n sz : Nat) (vs : List Value) : Prop :=
  vs.length = n * sz ∧ (A = none → n = 0) ∧ (0 < n → ∃ b o, A = some ⟨b, o, none⟩ ∧ K b ∧ b < w.heap.size ∧ ∀ j u, vs[j]? = some u → w.cell? ⟨b, o + j, none⟩ = some u)
/-- A value that is a slice of these bytes. -/
def VB (K : Nat → Prop) (w : World) (u : Value) (l : List UInt8) : Prop :=
  ∃ A m c, u = .slice A m c ∧ Rd w A m l ∧ ∀ b o, A = some ⟨b, o, none⟩ → 0 < m → K b ∧ b < w.heap.size
/-- Values: slices of bytes. -/
def HdV (K : Nat → Prop) (w : World) (vs : List Value) (ls : List (List UInt8)) : Prop :=
  vs.length = ls.length ∧ ∀ j u, vs[j]? = some u → VB K w u (ls.getD j [])
/-- A slice of slices of bytes. -/
def RowsV (K : Nat → Prop) (w : World) (A : Option Addr) (n : Nat) (ls : List (List UInt8)) : Prop := ∃ vs, ls.length = n ∧ VRow K w A n 1 vs ∧ HdV K w vs ls

section
variable {K K' : Nat → Prop} {w w' w'' : World} {A : Option Addr} {n sz : Nat} {vs : List Value} {u : Value} {l : List UInt8} {ls : List (List UInt8)}
theorem WStays.refl (keep : Nat → Prop) (w : World) : WStays keep w w := ⟨Nat.le_refl _, fun _ _ => rfl⟩
theorem WStays.trans (h : WStays K w w') (k : WStays K w' w'') : WStays K w w'' := ⟨Nat.le_trans h.1 k.1, fun x hx => (k.2 x hx).trans (h.2 x hx)⟩
theorem WStays.less (h : WStays K w w') (hk : ∀ x, K' x → K x) : WStays K' w w' := ⟨h.1, fun x hx => h.2 x (hk x hx)⟩
theorem WStays.ofBelow (hb : Below w.heap.size w w') : WStays (fun x => x < w.heap.size) w w' := ⟨hb.size, fun x hx => hb.block x hx⟩
theorem Rd.wstays (h : Rd w A n l) (hs : WStays K w w') (hk : ∀ b o, A = some ⟨b, o, none⟩ → 0 < n → K b) : Rd w' A n l :=
  ⟨h.1, fun hn => by
    obtain ⟨b, o, e, hlt, hc⟩ := h.2 hn
    exact ⟨b, o, e, Nat.lt_of_lt_of_le hlt hs.1, fun j hj => (World.cell?_of_block (w := w) (a := ⟨b, o + j, none⟩) (hs.2 b (hk b o e hn))).trans (hc j hj)⟩⟩
theorem VRow.stays (h : VRow K w A n sz vs) (hs : WStays K w w') : VRow K w' A n sz vs :=
  ⟨h.1, h.2.1, fun hp => by obtain ⟨b, o, e, hk, hlt, hc⟩ := h.2.2 hp; exact ⟨b, o, e, hk, Nat.lt_of_lt_of_le hlt hs.1, fun j u hj => (World.cell?_of_block (a := ⟨b, o + j, none⟩) (hs.2 b hk)).trans (hc j u hj)⟩⟩
theorem VRow.mono (h : VRow K w A n sz vs) (hk : ∀ x, K x → K' x) : VRow K' w A n sz vs :=
  ⟨h.1, h.2.1, fun hp => by obtain ⟨b, o, e, h1, r⟩ := h.2.2 hp; exact ⟨b, o, e, hk b h1, r⟩⟩
theorem VRow.lt (h : VRow K w A n sz vs) : VRow (fun x => K x ∧ x < w.heap.size) w A n sz vs :=
  ⟨h.1, h.2.1, fun hp => by obtain ⟨b, o, e, h1, h2, r⟩ := h.2.2 hp; exact ⟨b, o, e, ⟨h1, h2⟩, h2, r⟩⟩
theorem VRow.below (h : VRow K w A n sz vs) (hb : Below w.heap.size w w') : VRow K w' A n sz vs := (h.lt.stays ⟨hb.size, fun x hx => hb.block x hx.2⟩).mono fun _ hx => hx.1
theorem VB.stays (h : VB K w u l) (hs : WStays K w w') : VB K w' u l := by
  obtain ⟨A, m, c, h1, h2, h3⟩ := h
  exact ⟨A, m, c, h1, h2.wstays hs (fun b o e hm => (h3 b o e hm).1), fun b o e hm => ⟨(h3 b o e hm).1, Nat.lt_of_lt_of_le (h3 b o e hm).2 hs.1⟩⟩
theorem VB.mono (h : VB K w u l) (hk : ∀ x, K x → K' x) : VB K' w u l := by
  obtain ⟨A, m, c, h1, h2, h3⟩ := h
  exact ⟨A, m, c, h1, h2, fun b o e hm => ⟨hk b (h3 b o e hm).1, (h3 b o e hm).2⟩⟩
theorem VB.lt (h : VB K w u l) : VB (fun x => K x ∧ x < w.heap.size) w u l := by
  obtain ⟨A, m, c, h1, h2, h3⟩ := h
  exact ⟨A, m, c, h1, h2, fun b o e hm => ⟨h3 b o e hm, (h3 b o e hm).2⟩⟩
theorem VB.below (h : VB K w u l) (hb : Below w.heap.size w w') : VB K w' u l := (h.lt.stays ⟨hb.size, fun x hx => hb.block x hx.2⟩).mono fun _ hx => hx.1
theorem VB.one (h : VB K w u l) : u.oneCell' = true := by obtain ⟨A, m, c, rfl, _⟩ := h; rfl
theorem HdV.stays (h : HdV K w vs ls) (hs : WStays K w w') : HdV K w' vs ls := ⟨h.1, fun j u hj => (h.2 j u hj).stays hs⟩
theorem HdV.mono (h : HdV K w vs ls) (hk : ∀ x, K x → K' x) : HdV K' w vs ls := ⟨h.1, fun j u hj => (h.2 j u hj).mono hk⟩
theorem HdV.below (h : HdV K w vs ls) (hb : Below w.heap.size w w') : HdV K w' vs ls := ⟨h.1, fun j u hj => (h.2 j u hj).below hb⟩
theorem HdV.one (h : HdV K w vs ls) : ∀ u ∈ vs, u.oneCell' = true := fun u hu => by
  obtain ⟨j, hj, e⟩ := List.getElem_of_mem hu
  exact (h.2 j u (by rw [List.getElem?_eq_getElem hj, e])).one
theorem HdV.set (h : HdV K w vs ls) (k : Nat) (hu : VB K w u l) : HdV K w (vs.set k u) (ls.set k l) := by
  refine ⟨by simp [h.1], fun j x hj => ?_⟩
  rw [List.getElem?_set] at hj
  by_cases hk : k = j
  · rw [if_pos hk] at hj
    split at hj
    · injection hj with hj
      subst hj hk
      have : k < ls.length := by have := h.1; omega
      rw [List.getD_eq_getElem?_getD, List.getElem?_set_self this]
      exact hu
    · cases hj
  · rw [if_neg hk] at hj
    rw [List.getD_eq_getElem?_getD, List.getElem?_set_ne hk, ← List.getD_eq_getElem?_getD]
    exact h.2 j x hj
theorem HdV.snoc (h : HdV K w vs ls) (hu : VB K w u l) : HdV K w (vs ++ [u]) (ls ++ [l]) := by
  refine ⟨by simp [h.1], fun j x hj => ?_⟩
  by_cases hk : j < vs.length
  · rw [List.getElem?_append_left hk] at hj
    rw [List.getD_eq_getElem?_getD, List.getElem?_append_left (by have := h.1; omega), ← List.getD_eq_getElem?_getD]
    exact h.2 j x hj
  · have e : j = vs.length := by
      have := (List.getElem?_eq_some_iff.1 hj).1
      simp at this
      omega
    subst e
    simp at hj
    subst hj
    rw [h.1, List.getD_eq_getElem?_getD, List.getElem?_append_right (Nat.le_refl _), Nat.sub_self]
    exact hu
theorem HdV.take (h : HdV K w vs ls) (m : Nat) : HdV K w (vs.take m) (ls.take m) := by
  refine ⟨by simp [h.1], fun j x hj => ?_⟩
  rw [List.getElem?_take] at hj
  split at hj
  · rename_i hjm
    rw [List.getD_eq_getElem?_getD, List.getElem?_take, if_pos hjm, ← List.getD_eq_getElem?_getD]
    exact h.2 j x hj
  · cases hj
theorem RowsV.stays (h : RowsV K w A n ls) (hs : WStays K w w') : RowsV K w' A n ls := by
  obtain ⟨vs, h1, h2, h3⟩ := h; exact ⟨vs, h1, h2.stays hs, h3.stays hs⟩
theorem RowsV.mono (h : RowsV K w A n ls) (hk : ∀ x, K x → K' x) : RowsV K' w A n ls := by
  obtain ⟨vs, h1, h2, h3⟩ := h; exact ⟨vs, h1, h2.mono hk, h3.mono hk⟩
theorem RowsV.below (h : RowsV K w A n ls) (hb : Below w.heap.size w w') : RowsV K w' A n ls := by
  obtain ⟨vs, h1, h2, h3⟩ := h; exact ⟨vs, h1, h2.below hb, h3.below hb⟩
theorem RowsV.lt (h : RowsV K w A n ls) : RowsV (fun x => K x ∧ x < w.heap.size) w A n ls := by
  obtain ⟨vs, h1, h2, h3⟩ := h
  exact ⟨vs, h1, h2.lt, h3.1, fun j u hj => (h3.2 j u hj).lt⟩
theorem RowsV.nil (K : Nat → Prop) (w : World) (A : Option Addr) : RowsV K w A 0 [] := ⟨[], rfl, ⟨rfl, fun _ => rfl, fun h => absurd h (Nat.lt_irrefl 0)⟩, rfl, fun j u hj => by simp at hj⟩
/-- One of them. -/
theorem RowsV.at_ (h : RowsV K w A n ls) {j : Nat} (hj : j < n) : ∃ b o u, A = some ⟨b, o, none⟩ ∧ b < w.heap.size ∧ w.cell? ⟨b, o + j, none⟩ = some u ∧ VB K w u (ls.getD j []) := by
  obtain ⟨vs, h1, h2, h3⟩ := h
  obtain ⟨b, o, e, _, hlt, hc⟩ := h2.2.2 (by omega)
  have hjl : j < vs.length := by rw [h2.1]; omega
  have hv := List.getElem?_eq_getElem hjl
  exact ⟨b, o, vs[j], e, hlt, hc j _ hv, h3.2 j _ hv⟩
theorem own_vrow {B e : Nat} {v : Value} (ho : w.ownsRow B e sz v n vs) : ∃ A c, v = .slice A n c ∧ n ≤ c ∧ c ≤ maxLen ∧ VRow (fun x => B ≤ x ∧ x < w.heap.size) w A n sz vs := by
  rcases ho.2 with ⟨rfl, rfl⟩ | ⟨g, cap, cur, rfl, hB, hh, hnc, hc, hs, ht⟩
  · exact ⟨none, 0, rfl, Nat.le_refl _, Nat.zero_le _, ho.1, fun _ => rfl, fun h => absurd h (Nat.lt_irrefl 0)⟩
  · have hlt := (Array.getElem?_eq_some_iff.1 hh).1
    refine ⟨_, cap, rfl, hnc, hc, ho.1, (fun e => by cases e), fun _ => ⟨g, 0, rfl, ⟨hB, hlt⟩, hlt, fun j u hj => ?_⟩⟩
    have := ho.cells (g := g) rfl j u hj
    rwa [Addr.add_lit] at this
theorem HdV.rows {B e : Nat} {v : Value} (h : HdV K w vs ls) (ho : w.ownsRow B e 1 v n vs) : ∃ A c, v = .slice A n c ∧ n ≤ c ∧ c ≤ maxLen ∧ RowsV (fun x => K x ∨ (B ≤ x ∧ x < w.heap.size)) w A n ls := by
  obtain ⟨A, c, e1, h1, h2, h3⟩ := own_vrow ho
  exact ⟨A, c, e1, h1, h2, vs, by have := ho.1; have := h.1; omega, h3.mono (fun x hx => .inr hx), h.mono (fun x hx => .inl hx)⟩
end

section
variable {P : Program} {ops : Array Oper} {o : Oper} {a : Act} {w : World} {J : Act → World → Prop} {Q : Exit → Act → World → Prop} {E : Prop} {K : Nat → Prop}
theorem run_appW {T e : TypeId} {z : Value} {size bytes : Nat} (el : El P T e z size bytes) (ty : TypeId) (B : Nat) (v : Value) (n : Nat) (xs : List Value) (hown : w.ownsRow B e size v n xs)
    (A : Option Addr) (m c : Nat) (vs : List Value) (hA : VRow K w A m size vs) (h1 : ∀ u ∈ vs, u.oneCell' = true) (hb : n + m ≤ 1000000000) (hby : bytes ≤ 100) (hB : B ≤ w.heap.size) :
    ∃ v' w', (Builtin.append_ #[T, T] ty #[v, .slice A m c]).run P w = .ok v' w' ∧ w'.ownsRow B e size v' (n + m) (xs ++ vs) ∧ w.grownBy w' v.ownBlock ∧ (v'.ownBlock = v.ownBlock ∨ v'.ownBlock = some w.heap.size) := by
  obtain ⟨i, hi, hz, h2, h3⟩ := info_parts el.info
  have hbb : (n + m) * bytes ≤ 1000000000 * 100 := Nat.mul_le_mul hb hby
  rcases A with _ | ad
  · have hm := hA.2.1 rfl
    subst hm
    have hn : vs = [] := List.eq_nil_of_length_eq_zero (by rw [hA.1, Nat.zero_mul])
    subst hn
    exact ⟨v, w, run_app_nil w B T ty e i size el.und hi v n xs hown c, by simpa using hown, World.grownBy.refl _ _, .inl rfl⟩
  · have hcells : ∀ j u, vs[j]? = some u → w.cell? (ad.add j) = some u := fun j u hj => by
      rcases Nat.eq_zero_or_pos m with h0 | h0
      · subst h0
        have hn : vs = [] := List.eq_nil_of_length_eq_zero (by rw [hA.1, Nat.zero_mul])
        subst hn
        cases hj
      · obtain ⟨b, o', e', _, _, hc⟩ := hA.2.2 h0
        injection e' with e'
        subst e'
        rw [Addr.add_lit]
        exact hc j u hj
    obtain ⟨v', w', hrun, r1, r2, _, r3⟩ := run_append_own_at (P := P) w B T ty e i z size bytes el.und hi hz h2 h3 el.zs el.pos v n xs hown ad m c vs hA.1 hcells h1 (by unfold maxLen; omega) (by omega) hB
    exact ⟨v', w', hrun, r1, r2, r3⟩
/-- 'append(v, x...)', x a row of values, as a step of a region that draws its order; and in a walk. -/
theorem step_appW {T e : TypeId} {z : Value} {size bytes : Nat} (el : El P T e z size bytes) (hgd : o.guard = none) (s x : Operand)
    (ho : o.op = .call { callee := .builtin .append, args := #[s, x], argTypes := #[T, T] })
    (B : Nat) (v : Value) (n : Nat) (xs : List Value) (hs : a.eval s = v) (hown : w.ownsRow B e size v n xs)
    (A : Option Addr) (m c : Nat) (vs : List Value) (hx : a.eval x = .slice A m c) (hA : VRow K w A m size vs) (h1 : ∀ u ∈ vs, u.oneCell' = true)
    (hb : n + m ≤ 1000000000) (hby : bytes ≤ 100) (hB : B ≤ w.heap.size)
    (h : ∀ v' w', w'.ownsRow B e size v' (n + m) (xs ++ vs) → w.grownBy w' v.ownBlock → J (a.put o.dst v') w') :
    if Region.wanted o (yielded ops a.tmps) = true then Oper.wp P o a w J Q else E := by
  have hw : Region.wanted o (yielded ops a.tmps) = true := by simp [Region.wanted, hgd]
  rw [if_pos hw]
  obtain ⟨v', w', hrun, r1, r2, _⟩ := run_appW (P := P) (K := K) el o.type B v n xs hown A m c vs hA h1 hb hby hB
  unfold Oper.wp execOp
  simp only [ho, resolve, invoke, builtin, Sem.run_bind, Sem.run_pure, Result.andThen_ok, List.map_toArray, List.map_cons, List.map_nil, hs, hx, hrun]
  exact h v' w' r1 r2
theorem wpList_appW {T e : TypeId} {z : Value} {size bytes : Nat} (el : El P T e z size bytes) {rest : List Oper} (hgd : Region.wanted o (yielded ops a.tmps) = true) (s x : Operand)
    (ho : o.op = .call { callee := .builtin .append, args := #[s, x], argTypes := #[T, T] })
    (B : Nat) (v : Value) (n : Nat) (xs : List Value) (hs : a.eval s = v) (hown : w.ownsRow B e size v n xs)
    (A : Option Addr) (m c : Nat) (vs : List Value) (hx : a.eval x = .slice A m c) (hA : VRow K w A m size vs) (h1 : ∀ u ∈ vs, u.oneCell' = true)
    (hb : n + m ≤ 1000000000) (hby : bytes ≤ 100) (hB : B ≤ w.heap.size)
    (h : ∀ v' w', w'.ownsRow B e size v' (n + m) (xs ++ vs) → w.grownBy w' v.ownBlock → wpList P ops Q rest (a.put o.dst v') w') : wpList P ops Q (o :: rest) a w :=
  wpList_w hgd fun _ hK => by
    obtain ⟨v', w', hrun, r1, r2, _⟩ := run_appW (P := P) (K := K) el o.type B v n xs hown A m c vs hA h1 hb hby hB
    unfold Oper.wp execOp
    simp only [ho, resolve, invoke, builtin, Sem.run_bind, Sem.run_pure, Result.andThen_ok, List.map_toArray, List.map_cons, List.map_nil, hs, hx, hrun]
    exact hK _ _ (h v' w' r1 r2)
/-- The same, and where the row lies behind it. -/
theorem step_appX {T e : TypeId} {z : Value} {size bytes : Nat} (el : El P T e z size bytes) (hgd : o.guard = none) (s x : Operand)
    (ho : o.op = .call { callee := .builtin .append, args := #[s, x], argTypes := #[T, T] })
    (B : Nat) (v : Value) (n : Nat) (xs : List Value) (hs : a.eval s = v) (hown : w.ownsRow B e size v n xs)
    (A : Option Addr) (m c : Nat) (vs : List Value) (hx : a.eval x = .slice A m c) (hA : VRow K w A m size vs) (h1 : ∀ u ∈ vs, u.oneCell' = true)
    (hb : n + m ≤ 1000000000) (hby : bytes ≤ 100) (hB : B ≤ w.heap.size)
    (h : ∀ v' w', w'.ownsRow B e size v' (n + m) (xs ++ vs) → w.grownBy w' v.ownBlock → (v'.ownBlock = v.ownBlock ∨ v'.ownBlock = some w.heap.size) → J (a.put o.dst v') w') :
    if Region.wanted o (yielded ops a.tmps) = true then Oper.wp P o a w J Q else E := by
  have hw : Region.wanted o (yielded ops a.tmps) = true := by simp [Region.wanted, hgd]
  rw [if_pos hw]
  obtain ⟨v', w', hrun, r1, r2, r3⟩ := run_appW (P := P) (K := K) el o.type B v n xs hown A m c vs hA h1 hb hby hB
  unfold Oper.wp execOp
  simp only [ho, resolve, invoke, builtin, Sem.run_bind, Sem.run_pure, Result.andThen_ok, List.map_toArray, List.map_cons, List.map_nil, hs, hx, hrun]
  exact h v' w' r1 r2 r3
theorem wpList_appX {T e : TypeId} {z : Value} {size bytes : Nat} (el : El P T e z size bytes) {rest : List Oper} (hgd : Region.wanted o (yielded ops a.tmps) = true) (s x : Operand)
    (ho : o.op = .call { callee := .builtin .append, args := #[s, x], argTypes := #[T, T] })
    (B : Nat) (v : Value) (n : Nat) (xs : List Value) (hs : a.eval s = v) (hown : w.ownsRow B e size v n xs)
    (A : Option Addr) (m c : Nat) (vs : List Value) (hx : a.eval x = .slice A m c) (hA : VRow K w A m size vs) (h1 : ∀ u ∈ vs, u.oneCell' = true)
    (hb : n + m ≤ 1000000000) (hby : bytes ≤ 100) (hB : B ≤ w.heap.size)
    (h : ∀ v' w', w'.ownsRow B e size v' (n + m) (xs ++ vs) → w.grownBy w' v.ownBlock → (v'.ownBlock = v.ownBlock ∨ v'.ownBlock = some w.heap.size) → wpList P ops Q rest (a.put o.dst v') w') : wpList P ops Q (o :: rest) a w :=
  wpList_w hgd fun _ hK => by
    obtain ⟨v', w', hrun, r1, r2, r3⟩ := run_appW (P := P) (K := K) el o.type B v n xs hown A m c vs hA h1 hb hby hB
    unfold Oper.wp execOp
    simp only [ho, resolve, invoke, builtin, Sem.run_bind, Sem.run_pure, Result.andThen_ok, List.map_toArray, List.map_cons, List.map_nil, hs, hx, hrun]
    exact hK _ _ (h v' w' r1 r2 r3)
end
end Go.Proofs.Ytlinafnhhnkjnaa
namespace Go.Proofs.Ytlinafnhhnkjnaa
open Go.RowKit

section
variable {α : Type} {z : Nat} {L : List (List α)}
theorem flatg_len (h : ∀ r ∈ L, r.length = z) : L.flatten.length = L.length * z := by
  induction L with
  | nil => simp
  | cons a L ih =>
    rw [List.flatten_cons, List.length_append, h a List.mem_cons_self, ih (fun r hr => h r (List.mem_cons_of_mem _ hr)), List.length_cons, Nat.succ_mul]
    omega
theorem flatg_take (h : ∀ r ∈ L, r.length = z) (k : Nat) : L.flatten.take (k * z) = (L.take k).flatten := by
  induction L generalizing k with
  | nil => simp
  | cons a L ih =>
    cases k with
    | zero => simp
    | succ k =>
      have ha := h a List.mem_cons_self
      rw [List.flatten_cons, List.take_succ_cons, List.flatten_cons, List.take_append, List.take_of_length_le (by rw [ha, Nat.succ_mul]; omega), ha, show (k + 1) * z - z = k * z by rw [Nat.succ_mul]; omega, ih (fun r hr => h r (List.mem_cons_of_mem _ hr))]
theorem flatg_drop (h : ∀ r ∈ L, r.length = z) (k : Nat) : L.flatten.drop (k * z) = (L.drop k).flatten := by
  induction L generalizing k with
  | nil => simp
  | cons a L ih =>
    cases k with
    | zero => simp
    | succ k =>
      have ha := h a List.mem_cons_self
      rw [List.flatten_cons, List.drop_succ_cons, List.drop_append, List.drop_eq_nil_of_le (by rw [ha, Nat.succ_mul]; omega), ha, show (k + 1) * z - z = k * z by rw [Nat.succ_mul]; omega, ih (fun r hr => h r (List.mem_cons_of_mem _ hr)), List.nil_append]
/-- One cell of one element. -/
theorem flatg_get (h : ∀ r ∈ L, r.length = z) {k i : Nat} {r : List α} (hk : L[k]? = some r) (hi : i < z) : L.flatten[k * z + i]? = r[i]? := by
  have hlt := (List.getElem?_eq_some_iff.1 hk).1
  have he := (List.getElem?_eq_some_iff.1 hk).2
  have hr : r.length = z := he ▸ h _ (List.getElem_mem hlt)
  rw [← List.getElem?_drop, flatg_drop h, List.drop_eq_getElem_cons hlt, he, List.flatten_cons, List.getElem?_append_left (by omega)]
theorem flatg_set (h : ∀ r ∈ L, r.length = z) {k i : Nat} {r : List α} (hk : L[k]? = some r) (hi : i < z) (u : α) : L.flatten.set (k * z + i) u = (L.set k (r.set i u)).flatten := by
  have hlt := (List.getElem?_eq_some_iff.1 hk).1
  have he := (List.getElem?_eq_some_iff.1 hk).2
  have hr : r.length = z := he ▸ h _ (List.getElem_mem hlt)
  have e1 : L.flatten = (L.take k).flatten ++ (r ++ (L.drop (k + 1)).flatten) := by
    rw [← List.flatten_cons, ← he, ← List.drop_eq_getElem_cons hlt, ← List.flatten_append, List.take_append_drop]
  have e2 : (L.set k (r.set i u)).flatten = (L.take k).flatten ++ (r.set i u ++ (L.drop (k + 1)).flatten) := by
    rw [List.set_eq_take_append_cons_drop, if_pos hlt, List.flatten_append, List.flatten_cons]
  have hl : (L.take k).flatten.length = k * z := by
    rw [flatg_len (fun x hx => h x (List.mem_of_mem_take hx)), List.length_take, Nat.min_eq_left (by omega)]
  rw [e1, e2, List.set_append_right _ _ (by omega), hl, Nat.add_sub_cancel_left, List.set_append_left _ _ (by omega)]
end

/-- Cells vs: of each of xs sz cells, of which E speaks. -/
def HdL {α : Type} (sz : Nat) (E : α → List Value → Prop) (vs : List Value) (xs : List α) : Prop :=
  ∃ ch : List (List Value), vs = ch.flatten ∧ ch.length = xs.length ∧ (∀ r ∈ ch, r.length = sz) ∧ ∀ (j : Nat) (x : α), xs[j]? = some x → ∃ r, ch[j]? = some r ∧ E x r
section
variable {α : Type} {sz : Nat} {E E' : α → List Value → Prop} {vs : List Value} {xs : List α}
theorem HdL.imp (h : HdL sz E vs xs) (hi : ∀ x r, E x r → E' x r) : HdL sz E' vs xs := by
  obtain ⟨ch, h1, h2, h3, h4⟩ := h
  exact ⟨ch, h1, h2, h3, fun j x hx => by obtain ⟨r, hr, he⟩ := h4 j x hx; exact ⟨r, hr, hi _ _ he⟩⟩
theorem HdL.len (h : HdL sz E vs xs) : vs.length = xs.length * sz := by
  obtain ⟨ch, rfl, h2, h3, _⟩ := h
  rw [flatg_len h3, h2]
theorem HdL.nil (sz : Nat) (E : α → List Value → Prop) : HdL sz E [] [] := ⟨[], rfl, rfl, fun _ h => absurd h List.not_mem_nil, fun j x h => by simp at h⟩
theorem HdL.at_ (h : HdL sz E vs xs) {j : Nat} {x : α} (hj : xs[j]? = some x) : ∃ r, r.length = sz ∧ E x r ∧ ∀ i, i < sz → vs[j * sz + i]? = r[i]? := by
  obtain ⟨ch, rfl, h2, h3, h4⟩ := h
  obtain ⟨r, hr, he⟩ := h4 j x hj
  refine ⟨r, ?_, he, fun i hi => flatg_get h3 hr hi⟩
  obtain ⟨hlt, e⟩ := List.getElem?_eq_some_iff.1 hr
  exact e ▸ h3 _ (List.getElem_mem hlt)
theorem HdL.snoc (h : HdL sz E vs xs) {x : α} {r : List Value} (hr : r.length = sz) (he : E x r) : HdL sz E (vs ++ r) (xs ++ [x]) := by
  obtain ⟨ch, rfl, h2, h3, h4⟩ := h
  refine ⟨ch ++ [r], by simp, by simp [h2], fun q hq => ?_, fun j y hy => ?_⟩
  · rcases List.mem_append.1 hq with h | h
    · exact h3 q h
    · rw [List.mem_singleton.1 h]; exact hr
  · by_cases hj : j < xs.length
    · rw [List.getElem?_append_left hj] at hy
      obtain ⟨q, hq, hE⟩ := h4 j y hy
      exact ⟨q, by rw [List.getElem?_append_left (by omega)]; exact hq, hE⟩
    · have e : j = xs.length := by
        have := (List.getElem?_eq_some_iff.1 hy).1
        simp at this
        omega
      subst e
      simp at hy
      subst hy
      exact ⟨r, by rw [← h2]; simp, he⟩
theorem HdL.take (h : HdL sz E vs xs) (m : Nat) : HdL sz E (vs.take (m * sz)) (xs.take m) := by
  obtain ⟨ch, rfl, h2, h3, h4⟩ := h
  refine ⟨ch.take m, flatg_take h3 m, by simp [h2], fun q hq => h3 q (List.mem_of_mem_take hq), fun j y hy => ?_⟩
  rw [List.getElem?_take] at hy
  split at hy
  · rename_i hjm
    obtain ⟨q, hq, hE⟩ := h4 j y hy
    exact ⟨q, by rw [List.getElem?_take, if_pos hjm]; exact hq, hE⟩
  · cases hy
/-- One cell turned. -/
theorem HdL.set1 (h : HdL sz E vs xs) {k i : Nat} {x y : α} (hk : xs[k]? = some x) (hi : i < sz) (u : Value) (he : ∀ r, r.length = sz → E x r → E y (r.set i u)) : HdL sz E (vs.set (k * sz + i) u) (xs.set k y) := by
  obtain ⟨ch, rfl, h2, h3, h4⟩ := h
  obtain ⟨r, hr, hE⟩ := h4 k x hk
  have hlen : r.length = sz := by
    obtain ⟨hlt, e⟩ := List.getElem?_eq_some_iff.1 hr
    exact e ▸ h3 _ (List.getElem_mem hlt)
  refine ⟨ch.set k (r.set i u), flatg_set h3 hr hi u, by simp [h2], fun q hq => ?_, fun j y' hy => ?_⟩
  · rcases List.mem_or_eq_of_mem_set hq with h | h
    · exact h3 q h
    · rw [h, List.length_set]; exact hlen
  · rw [List.getElem?_set] at hy ⊢
    by_cases hkj : k = j
    · subst hkj
      rw [if_pos rfl] at hy
      split at hy
      · injection hy with hy
        subst hy
        refine ⟨r.set i u, by rw [if_pos rfl, if_pos (by omega)], he r hlen hE⟩
      · cases hy
    · rw [if_neg hkj] at hy
      obtain ⟨q, hq, hE'⟩ := h4 j y' hy
      exact ⟨q, by rw [if_neg hkj]; exact hq, hE'⟩
/-- One element put in another's place. -/
theorem HdL.setx (h : HdL sz E vs xs) {k : Nat} (hk : k < xs.length) {y : α} {r : List Value} (hr : r.length = sz) (he : E y r) : HdL sz E (splice vs (k * sz) r) (xs.set k y) := by
  obtain ⟨ch, rfl, h2, h3, h4⟩ := h
  refine ⟨ch.set k r, ?_, by simp [h2], fun q hq => ?_, fun j y' hy => ?_⟩
  · unfold splice
    rw [hr, show k * sz + sz = (k + 1) * sz by rw [Nat.succ_mul], flatg_take h3, flatg_drop h3, List.set_eq_take_append_cons_drop, if_pos (by omega), List.flatten_append, List.flatten_cons]
  · rcases List.mem_or_eq_of_mem_set hq with h | h
    · exact h3 q h
    · rw [h]; exact hr
  · rw [List.getElem?_set] at hy ⊢
    by_cases hkj : k = j
    · subst hkj
      rw [if_pos rfl, if_pos hk] at hy
      injection hy with hy
      subst hy
      exact ⟨r, by rw [if_pos rfl, if_pos (by omega)], he⟩
    · rw [if_neg hkj] at hy
      obtain ⟨q, hq, hE'⟩ := h4 j y' hy
      exact ⟨q, by rw [if_neg hkj]; exact hq, hE'⟩
theorem HdL.one (h : HdL sz E vs xs) (he : ∀ x r, E x r → ∀ u ∈ r, u.oneCell' = true) : ∀ u ∈ vs, u.oneCell' = true := by
  obtain ⟨ch, rfl, h2, h3, h4⟩ := h
  intro u hu
  obtain ⟨r, hr, hur⟩ := List.mem_flatten.1 hu
  obtain ⟨j, hj, e⟩ := List.getElem_of_mem hr
  obtain ⟨q, hq, hE⟩ := h4 j xs[j] (List.getElem?_eq_getElem (by omega))
  rw [List.getElem?_eq_getElem hj, e] at hq
  injection hq with hq
  exact he _ _ hE u (hq ▸ hur)
end

/-- A slice of elements of sz cells each. -/
def RowsL {α : Type} (sz : Nat) (E : α → List Value → Prop) (K : Nat → Prop) (w : World) (A : Option Addr) (n : Nat) (xs : List α) : Prop := ∃ vs, xs.length = n ∧ VRow K w A n sz vs ∧ HdL sz E vs xs
theorem RowsL.cells {α : Type} {sz : Nat} {E : α → List Value → Prop} {K : Nat → Prop} {w : World} {A : Option Addr} {n : Nat} {xs : List α} (h : RowsL sz E K w A n xs) {j : Nat} {x : α} (hj : xs[j]? = some x) :
    ∃ b o r, A = some ⟨b, o, none⟩ ∧ K b ∧ b < w.heap.size ∧ r.length = sz ∧ E x r ∧ ∀ i u, i < sz → r[i]? = some u → w.cell? ⟨b, o + (j * sz + i), none⟩ = some u := by
  obtain ⟨vs, h1, h2, h3⟩ := h
  have hjl := (List.getElem?_eq_some_iff.1 hj).1
  obtain ⟨r, hr, he, hc⟩ := h3.at_ hj
  obtain ⟨b, o, e, hk, hlt, hcell⟩ := h2.2.2 (by omega)
  exact ⟨b, o, r, e, hk, hlt, hr, he, fun i u hi hu => hcell _ u (by rw [hc i hi]; exact hu)⟩

/-! ### parts, entities -/
/-- A part's cells. -/
def EP (K : Nat → Prop) (w : World) (x : Int × List UInt8) (r : List Value) : Prop := ∃ u, r = [.int .i64 x.1, u] ∧ VB K w u x.2
def PartsV (K : Nat → Prop) (w : World) (A : Option Addr) (n : Nat) (ps : List (Int × List UInt8)) : Prop := RowsL 2 (EP K w) K w A n ps
/-- An entity's cells. -/
def EE (K : Nat → Prop) (w : World) (x : (Int × Int) × List (Int × List UInt8)) (r : List Value) : Prop := ∃ A n c, r = [.int .i64 x.1.1, .int .i64 x.1.2, .slice A n c] ∧ PartsV K w A n x.2
def EntsV (K : Nat → Prop) (w : World) (A : Option Addr) (n : Nat) (xs : List ((Int × Int) × List (Int × List UInt8))) : Prop := RowsL 3 (EE K w) K w A n xs
/-- A slice of numbers. -/
def EI (x : Int) (r : List Value) : Prop := r = [.int .i64 x]
def IntsV (K : Nat → Prop) (w : World) (A : Option Addr) (n : Nat) (xs : List Int) : Prop := RowsL 1 EI K w A n xs
/-- A slice of names. -/
def ED (x : Int × Int) (r : List Value) : Prop := r = [.int .i64 x.1, .int .i64 x.2]
def IdsV (K : Nat → Prop) (w : World) (A : Option Addr) (n : Nat) (xs : List (Int × Int)) : Prop := RowsL 2 ED K w A n xs

section
variable {K K' : Nat → Prop} {w w' : World} {A : Option Addr} {n : Nat}
theorem EP.one {x : Int × List UInt8} {r : List Value} (h : EP K w x r) : ∀ u ∈ r, u.oneCell' = true := by
  obtain ⟨u, rfl, hu⟩ := h
  intro v hv
  simp at hv
  rcases hv with rfl | rfl
  · rfl
  · exact hu.one
theorem EE.one {x : (Int × Int) × List (Int × List UInt8)} {r : List Value} (h : EE K w x r) : ∀ u ∈ r, u.oneCell' = true := by
  obtain ⟨A, n, c, rfl, _⟩ := h
  intro v hv
  simp at hv
  rcases hv with rfl | rfl | rfl <;> rfl
theorem EI.one {x : Int} {r : List Value} (h : EI x r) : ∀ u ∈ r, u.oneCell' = true := by
  unfold EI at h
  subst h
  intro v hv
  simp at hv
  rw [hv]; rfl
theorem ED.one {x : Int × Int} {r : List Value} (h : ED x r) : ∀ u ∈ r, u.oneCell' = true := by
  unfold ED at h
  subst h
  intro v hv
  simp at hv
  rcases hv with rfl | rfl <;> rfl
theorem PartsV.stays {ps : List (Int × List UInt8)} (h : PartsV K w A n ps) (hs : WStays K w w') : PartsV K w' A n ps := by
  obtain ⟨vs, h1, h2, h3⟩ := h
  exact ⟨vs, h1, h2.stays hs, h3.imp fun x r ⟨u, e, hu⟩ => ⟨u, e, hu.stays hs⟩⟩
theorem PartsV.mono {ps : List (Int × List UInt8)} (h : PartsV K w A n ps) (hk : ∀ x, K x → K' x) : PartsV K' w A n ps := by
  obtain ⟨vs, h1, h2, h3⟩ := h
  exact ⟨vs, h1, h2.mono hk, h3.imp fun x r ⟨u, e, hu⟩ => ⟨u, e, hu.mono hk⟩⟩
theorem PartsV.lt {ps : List (Int × List UInt8)} (h : PartsV K w A n ps) : PartsV (fun x => K x ∧ x < w.heap.size) w A n ps := by
  obtain ⟨vs, h1, h2, h3⟩ := h
  exact ⟨vs, h1, h2.lt, h3.imp fun x r ⟨u, e, hu⟩ => ⟨u, e, hu.lt⟩⟩
theorem PartsV.below {ps : List (Int × List UInt8)} (h : PartsV K w A n ps) (hb : Below w.heap.size w w') : PartsV K w' A n ps := (h.lt.stays ⟨hb.size, fun x hx => hb.block x hx.2⟩).mono fun _ hx => hx.1
theorem PartsV.nil (K : Nat → Prop) (w : World) (A : Option Addr) : PartsV K w A 0 [] := ⟨[], rfl, ⟨rfl, fun _ => rfl, fun h => absurd h (Nat.lt_irrefl 0)⟩, HdL.nil _ _⟩
theorem PartsV.len {ps : List (Int × List UInt8)} (h : PartsV K w A n ps) : ps.length = n := by obtain ⟨_, h1, _⟩ := h; exact h1
theorem EntsV.stays {xs : List ((Int × Int) × List (Int × List UInt8))} (h : EntsV K w A n xs) (hs : WStays K w w') : EntsV K w' A n xs := by
  obtain ⟨vs, h1, h2, h3⟩ := h
  exact ⟨vs, h1, h2.stays hs, h3.imp fun x r ⟨A, n, c, e, hu⟩ => ⟨A, n, c, e, hu.stays hs⟩⟩
theorem EntsV.mono {xs : List ((Int × Int) × List (Int × List UInt8))} (h : EntsV K w A n xs) (hk : ∀ x, K x → K' x) : EntsV K' w A n xs := by
  obtain ⟨vs, h1, h2, h3⟩ := h
  exact ⟨vs, h1, h2.mono hk, h3.imp fun x r ⟨A, n, c, e, hu⟩ => ⟨A, n, c, e, hu.mono hk⟩⟩
theorem EntsV.lt {xs : List ((Int × Int) × List (Int × List UInt8))} (h : EntsV K w A n xs) : EntsV (fun x => K x ∧ x < w.heap.size) w A n xs := by
  obtain ⟨vs, h1, h2, h3⟩ := h
  exact ⟨vs, h1, h2.lt, h3.imp fun x r ⟨A, n, c, e, hu⟩ => ⟨A, n, c, e, hu.lt⟩⟩
theorem EntsV.below {xs : List ((Int × Int) × List (Int × List UInt8))} (h : EntsV K w A n xs) (hb : Below w.heap.size w w') : EntsV K w' A n xs := (h.lt.stays ⟨hb.size, fun x hx => hb.block x hx.2⟩).mono fun _ hx => hx.1
theorem EntsV.len {xs : List ((Int × Int) × List (Int × List UInt8))} (h : EntsV K w A n xs) : xs.length = n := by obtain ⟨_, h1, _⟩ := h; exact h1
theorem EntsV.nil (K : Nat → Prop) (w : World) (A : Option Addr) : EntsV K w A 0 [] := ⟨[], rfl, ⟨rfl, fun _ => rfl, fun h => absurd h (Nat.lt_irrefl 0)⟩, HdL.nil _ _⟩
theorem IntsV.stays {xs : List Int} (h : IntsV K w A n xs) (hs : WStays K w w') : IntsV K w' A n xs := by
  obtain ⟨vs, h1, h2, h3⟩ := h
  exact ⟨vs, h1, h2.stays hs, h3⟩
theorem IntsV.mono {xs : List Int} (h : IntsV K w A n xs) (hk : ∀ x, K x → K' x) : IntsV K' w A n xs := by
  obtain ⟨vs, h1, h2, h3⟩ := h
  exact ⟨vs, h1, h2.mono hk, h3⟩
theorem IntsV.below {xs : List Int} (h : IntsV K w A n xs) (hb : Below w.heap.size w w') : IntsV K w' A n xs := by
  obtain ⟨vs, h1, h2, h3⟩ := h
  exact ⟨vs, h1, h2.below hb, h3⟩
theorem IntsV.len {xs : List Int} (h : IntsV K w A n xs) : xs.length = n := by obtain ⟨_, h1, _⟩ := h; exact h1
theorem IntsV.cell {xs : List Int} (h : IntsV K w A n xs) {j : Nat} {x : Int} (hj : xs[j]? = some x) : ∃ b o, A = some ⟨b, o, none⟩ ∧ b < w.heap.size ∧ w.cell? ⟨b, o + j, none⟩ = some (.int .i64 x) := by
  obtain ⟨b, o, r, e, _, hlt, _, hE, hc⟩ := RowsL.cells h hj
  unfold EI at hE
  subst hE
  have := hc 0 _ Nat.one_pos rfl
  rw [Nat.mul_one, Nat.add_zero] at this
  exact ⟨b, o, e, hlt, this⟩
theorem IdsV.stays {xs : List (Int × Int)} (h : IdsV K w A n xs) (hs : WStays K w w') : IdsV K w' A n xs := by
  obtain ⟨vs, h1, h2, h3⟩ := h
  exact ⟨vs, h1, h2.stays hs, h3⟩
theorem IdsV.mono {xs : List (Int × Int)} (h : IdsV K w A n xs) (hk : ∀ x, K x → K' x) : IdsV K' w A n xs := by
  obtain ⟨vs, h1, h2, h3⟩ := h
  exact ⟨vs, h1, h2.mono hk, h3⟩
theorem IdsV.below {xs : List (Int × Int)} (h : IdsV K w A n xs) (hb : Below w.heap.size w w') : IdsV K w' A n xs := by
  obtain ⟨vs, h1, h2, h3⟩ := h
  exact ⟨vs, h1, h2.below hb, h3⟩
theorem IdsV.len {xs : List (Int × Int)} (h : IdsV K w A n xs) : xs.length = n := by obtain ⟨_, h1, _⟩ := h; exact h1
theorem IdsV.cell {xs : List (Int × Int)} (h : IdsV K w A n xs) {j : Nat} {x : Int × Int} (hj : xs[j]? = some x) : ∃ b o, A = some ⟨b, o, none⟩ ∧ b < w.heap.size ∧ w.cell? ⟨b, o + j * 2, none⟩ = some (.int .i64 x.1) ∧ w.cell? ⟨b, o + j * 2 + 1, none⟩ = some (.int .i64 x.2) := by
  obtain ⟨b, o, r, e, _, hlt, _, hE, hc⟩ := RowsL.cells h hj
  unfold ED at hE
  subst hE
  have h0 := hc 0 _ (by decide) rfl
  have h1 := hc 1 _ (by decide) rfl
  rw [Nat.add_zero] at h0
  rw [← Nat.add_assoc] at h1
  exact ⟨b, o, e, hlt, h0, h1⟩
theorem PartsV.cell {ps : List (Int × List UInt8)} (h : PartsV K w A n ps) {j : Nat} {x : Int × List UInt8} (hj : ps[j]? = some x) :
    ∃ b o u, A = some ⟨b, o, none⟩ ∧ K b ∧ b < w.heap.size ∧ w.cell? ⟨b, o + j * 2, none⟩ = some (.int .i64 x.1) ∧ w.cell? ⟨b, o + j * 2 + 1, none⟩ = some u ∧ VB K w u x.2 := by
  obtain ⟨b, o, r, e, hk, hlt, _, ⟨u, hr, hu⟩, hc⟩ := RowsL.cells h hj
  subst hr
  have h0 := hc 0 _ (by decide) rfl
  have h1 := hc 1 _ (by decide) rfl
  rw [Nat.add_zero] at h0
  rw [← Nat.add_assoc] at h1
  exact ⟨b, o, u, e, hk, hlt, h0, h1, hu⟩
theorem EntsV.cell {xs : List ((Int × Int) × List (Int × List UInt8))} (h : EntsV K w A n xs) {j : Nat} {x : (Int × Int) × List (Int × List UInt8)} (hj : xs[j]? = some x) :
    ∃ b o PA pn pc, A = some ⟨b, o, none⟩ ∧ K b ∧ b < w.heap.size ∧ w.cell? ⟨b, o + j * 3, none⟩ = some (.int .i64 x.1.1) ∧ w.cell? ⟨b, o + j * 3 + 1, none⟩ = some (.int .i64 x.1.2) ∧ w.cell? ⟨b, o + j * 3 + 2, none⟩ = some (.slice PA pn pc) ∧ PartsV K w PA pn x.2 := by
  obtain ⟨b, o, r, e, hk, hlt, _, ⟨PA, pn, pc, hr, hu⟩, hc⟩ := RowsL.cells h hj
  subst hr
  have h0 := hc 0 _ (by decide) rfl
  have h1 := hc 1 _ (by decide) rfl
  have h2 := hc 2 _ (by decide) rfl
  rw [Nat.add_zero] at h0
  rw [← Nat.add_assoc] at h1 h2
  exact ⟨b, o, PA, pn, pc, e, hk, hlt, h0, h1, h2, hu⟩
end

/-! ### rows made -/
theorem VRow.new (w : World) (C : Array Value) (e n sz : Nat) (h : C.size = n * sz) : VRow (fun x => w.heap.size ≤ x) (w.alloc (.cells C e)) (some ⟨w.heap.size, 0, none⟩) n sz C.toList :=
  ⟨by simpa using h, (fun e => by cases e), fun _ => ⟨w.heap.size, 0, rfl, Nat.le_refl _, by simp, fun j u hj => by
    rw [Nat.zero_add, cell_of_row _ _ j _ _ _ (heap_alloc_last w _)]
    simpa using hj⟩⟩
theorem HdL.one1 {α : Type} {sz : Nat} {E : α → List Value → Prop} {x : α} {r : List Value} (hr : r.length = sz) (he : E x r) : HdL sz E r [x] := by
  have := (HdL.nil sz E).snoc hr he
  simpa using this
theorem own_rowsL {α : Type} {sz : Nat} {E : α → List Value → Prop} {w : World} {B e n : Nat} {v : Value} {vs : List Value} {xs : List α} (ho : w.ownsRow B e sz v n vs) (h : HdL sz E vs xs) (hn : xs.length = n) :
    ∃ A c, v = .slice A n c ∧ n ≤ c ∧ c ≤ maxLen ∧ RowsL sz E (fun x => B ≤ x ∧ x < w.heap.size) w A n xs := by
  obtain ⟨A, c, e1, h1, h2, h3⟩ := own_vrow ho
  exact ⟨A, c, e1, h1, h2, vs, hn, h3, h⟩
end Go.Proofs.Ytlinafnhhnkjnaa
namespace Go.Proofs.Ytlinafnhhnkjnaa
open Go.RowKit

/-- How an element's cells are read. -/
structure EOk {α : Type} (E : (Nat → Prop) → World → α → List Value → Prop) : Prop where
  stays : ∀ {K : Nat → Prop} {w w' : World} {x : α} {r : List Value}, E K w x r → WStays K w w' → E K w' x r
  mono : ∀ {K K' : Nat → Prop} {w : World} {x : α} {r : List Value}, E K w x r → (∀ y, K y → K' y) → E K' w x r
  lt : ∀ {K : Nat → Prop} {w : World} {x : α} {r : List Value}, E K w x r → E (fun y => K y ∧ y < w.heap.size) w x r
theorem EOk.below {α : Type} {E : (Nat → Prop) → World → α → List Value → Prop} (ok : EOk E) {K : Nat → Prop} {w w' : World} {x : α} {r : List Value} (h : E K w x r) (hb : Below w.heap.size w w') : E K w' x r :=
  ok.mono (ok.stays (ok.lt h) ⟨hb.size, fun y hy => hb.block y hy.2⟩) (fun _ hy => hy.1)

/-- A row of one's own, from block B on; its elements lead to blocks of D. -/
structure Gr {α : Type} (E : (Nat → Prop) → World → α → List Value → Prop) (e : TypeId) (sz : Nat) (w : World) (B : Nat) (v : Value) (vs : List Value) (D : Nat → Prop) (xs : List α) : Prop where
  Bw : B ≤ w.heap.size
  ow : w.ownsRow B e sz v xs.length vs
  hd : HdL sz (E D w) vs xs
  dx : ∀ x, D x → x < w.heap.size ∧ v.ownBlock ≠ some x

section
variable {α : Type} {E : (Nat → Prop) → World → α → List Value → Prop} {e : TypeId} {sz : Nat} {w w' : World} {B : Nat} {v : Value} {vs : List Value} {D K : Nat → Prop} {xs : List α}
theorem own_geB {e size n : Nat} {xs : List Value} (h : w.ownsRow B e size v n xs) {x : Nat} (hx : v.ownBlock = some x) : B ≤ x ∧ x < w.heap.size := by
  rcases h.2 with ⟨rfl, _⟩ | ⟨g, cap, cur, rfl, hB, hh, _⟩
  · cases hx
  · injection hx with hx
    have hx' : g = x := hx
    rw [← hx']
    exact ⟨hB, (Array.getElem?_eq_some_iff.1 hh).1⟩
theorem Gr.start (h : w.ownsRow B e sz v 0 []) (hB : B ≤ w.heap.size) : Gr E e sz w B v [] (fun _ => False) ([] : List α) := ⟨hB, h, HdL.nil _ _, fun _ hx => hx.elim⟩
theorem Gr.below (ok : EOk E) (h : Gr E e sz w B v vs D xs) (hb : Below w.heap.size w w') : Gr E e sz w' B v vs D xs :=
  ⟨Nat.le_trans h.Bw hb.size, own_keep h.ow hb, h.hd.imp fun _ _ hx => ok.below hx hb, fun x hx => ⟨Nat.lt_of_lt_of_le (h.dx x hx).1 hb.size, (h.dx x hx).2⟩⟩
/-- One element more. -/
theorem Gr.put (ok : EOk E) (h : Gr E e sz w B v vs D xs) {v' : Value} {x : α} {r : List Value} (hr : r.length = sz) (hE : E K w x r) (hK : ∀ y, K y → v.ownBlock ≠ some y)
    (ho : w'.ownsRow B e sz v' (xs.length + 1) (vs ++ r)) (hg : w.grownBy w' v.ownBlock) (hv : v'.ownBlock = v.ownBlock ∨ v'.ownBlock = some w.heap.size) :
    Gr E e sz w' B v' (vs ++ r) (fun y => D y ∨ (K y ∧ y < w.heap.size)) (xs ++ [x]) := by
  have hF : Fr (fun y => v.ownBlock = some y) w w' := Fr.grown hg (fun y hy => hy)
  have hs := hF.size
  have hall : ∀ y, (D y ∨ (K y ∧ y < w.heap.size)) → y < w.heap.size ∧ v.ownBlock ≠ some y := fun y hy => by
    rcases hy with h1 | h1
    · exact h.dx y h1
    · exact ⟨h1.2, hK y h1.1⟩
  have st : WStays (fun y => D y ∨ (K y ∧ y < w.heap.size)) w w' := ⟨hs, fun y hy => hF.block y (hall y hy).1 (hall y hy).2⟩
  refine ⟨Nat.le_trans h.Bw hs, by rw [List.length_append, List.length_singleton]; exact ho, ?_, fun y hy => ?_⟩
  · exact (h.hd.imp fun _ _ hx => ok.stays (ok.mono hx (fun _ hy => .inl hy)) st).snoc hr (ok.stays (ok.mono (ok.lt hE) (fun _ hy => .inr hy)) st)
  · obtain ⟨h1, h2⟩ := hall y hy
    refine ⟨by omega, fun e => ?_⟩
    rcases hv with hv | hv
    · exact h2 (hv ▸ e)
    · rw [hv] at e
      injection e with e
      omega
/-- What it is in the end. -/
theorem Gr.rows (ok : EOk E) (h : Gr E e sz w B v vs D xs) : ∃ A c, v = .slice A xs.length c ∧ xs.length ≤ c ∧ c ≤ maxLen ∧ RowsL sz (E (fun x => D x ∨ (B ≤ x ∧ x < w.heap.size)) w) (fun x => D x ∨ (B ≤ x ∧ x < w.heap.size)) w A xs.length xs := by
  obtain ⟨A, c, e1, h1, h2, h3⟩ := own_vrow h.ow
  exact ⟨A, c, e1, h1, h2, vs, rfl, h3.mono (fun x hx => .inr hx), h.hd.imp fun _ _ hx => ok.mono hx (fun _ hy => .inl hy)⟩
end

/-- An element that is a slice of bytes. -/
def EB (K : Nat → Prop) (w : World) (x : List UInt8) (r : List Value) : Prop := ∃ u, r = [u] ∧ VB K w u x
theorem EB.ok : EOk EB where
  stays := fun ⟨u, e, hu⟩ hs => ⟨u, e, hu.stays hs⟩
  mono := fun ⟨u, e, hu⟩ hk => ⟨u, e, hu.mono hk⟩
  lt := fun ⟨u, e, hu⟩ => ⟨u, e, hu.lt⟩
theorem EP.ok : EOk EP where
  stays := fun ⟨u, e, hu⟩ hs => ⟨u, e, hu.stays hs⟩
  mono := fun ⟨u, e, hu⟩ hk => ⟨u, e, hu.mono hk⟩
  lt := fun ⟨u, e, hu⟩ => ⟨u, e, hu.lt⟩
theorem EB.rows {K : Nat → Prop} {w : World} {A : Option Addr} {n : Nat} {ls : List (List UInt8)} (h : RowsL 1 (EB K w) K w A n ls) : RowsV K w A n ls := by
  obtain ⟨vs, h1, h2, ch, rfl, h4, h5, h6⟩ := h
  have hl : ch.flatten.length = n := by rw [h2.1, Nat.mul_one]
  refine ⟨_, h1, h2, by omega, fun j u hj => ?_⟩
  have hjl : j < ls.length := by have := (List.getElem?_eq_some_iff.1 hj).1; omega
  obtain ⟨r, hr, u', e, hu'⟩ := h6 j ls[j] (List.getElem?_eq_getElem hjl)
  have hg := flatg_get h5 hr (i := 0) (by decide)
  rw [Nat.mul_one, Nat.add_zero, hj, e] at hg
  injection hg with hg
  rw [List.getD_eq_getElem?_getD, List.getElem?_eq_getElem hjl, hg]
  exact hu'
theorem RowsV.atK {K : Nat → Prop} {w : World} {A : Option Addr} {n : Nat} {ls : List (List UInt8)} (h : RowsV K w A n ls) {j : Nat} (hj : j < n) : ∃ b o u, A = some ⟨b, o, none⟩ ∧ K b ∧ b < w.heap.size ∧ w.cell? ⟨b, o + j, none⟩ = some u ∧ VB K w u (ls.getD j []) := by
  obtain ⟨vs, h1, h2, h3⟩ := h
  obtain ⟨b, o, e, hk, hlt, hc⟩ := h2.2.2 (by omega)
  have hjl : j < vs.length := by rw [h2.1]; omega
  have hv := List.getElem?_eq_getElem hjl
  exact ⟨b, o, vs[j], e, hk, hlt, hc j _ hv, h3.2 j _ hv⟩
/-- Numbers in cells. -/
theorem ints_hd (xs : List Int) : HdL 1 EI (xs.map (Value.int .i64)) xs := by
  refine ⟨xs.map fun x => [.int .i64 x], ?_, by simp, fun r hr => ?_, fun j x hx => ⟨[.int .i64 x], by simp [hx], rfl⟩⟩
  · induction xs with
    | nil => rfl
    | cons a xs ih => simp at ih ⊢; exact ih
  · obtain ⟨x, _, rfl⟩ := List.mem_map.1 hr
    rfl
/-- From a to b, or from c on. -/
def Two (a b c : Nat) (x : Nat) : Prop := (a ≤ x ∧ x < b) ∨ c ≤ x
end Go.Proofs.Ytlinafnhhnkjnaa
namespace Go.Proofs.Ytlinafnhhnkjnaa
open Go.RowKit
set_option linter.unusedVariables false
set_option maxRecDepth 20000

/-- A command's cells, among others. -/
def ECd (K : Nat → Prop) (w : World) (x : Cd) (r : List Value) : Prop := ∃ A n c, r = (x.cs A n c).toList ∧ VB K w (.slice A n c) x.dt ∧ n ≤ c
theorem ECd.ok : EOk ECd where
  stays := fun ⟨A, n, c, e, hu, hc⟩ hs => ⟨A, n, c, e, hu.stays hs, hc⟩
  mono := fun ⟨A, n, c, e, hu, hc⟩ hk => ⟨A, n, c, e, hu.mono hk, hc⟩
  lt := fun ⟨A, n, c, e, hu, hc⟩ => ⟨A, n, c, e, hu.lt, hc⟩
theorem ECd.one {K : Nat → Prop} {w : World} {x : Cd} {r : List Value} (h : ECd K w x r) : ∀ u ∈ r, u.oneCell' = true := by
  obtain ⟨A, n, c, rfl, _⟩ := h
  intro v hv
  simp at hv
  rcases hv with rfl | rfl | rfl | rfl | rfl | rfl <;> rfl
abbrev CdsV (K : Nat → Prop) (w : World) (A : Option Addr) (n : Nat) (xs : List Cd) : Prop := RowsL 6 (ECd K w) K w A n xs
section
variable {K K' : Nat → Prop} {w w' : World} {A : Option Addr} {n : Nat} {xs : List Cd}
theorem CdsV.stays (h : CdsV K w A n xs) (hs : WStays K w w') : CdsV K w' A n xs := by
  obtain ⟨vs, h1, h2, h3⟩ := h
  exact ⟨vs, h1, h2.stays hs, h3.imp fun x r hx => ECd.ok.stays hx hs⟩
theorem CdsV.mono (h : CdsV K w A n xs) (hk : ∀ x, K x → K' x) : CdsV K' w A n xs := by
  obtain ⟨vs, h1, h2, h3⟩ := h
  exact ⟨vs, h1, h2.mono hk, h3.imp fun x r hx => ECd.ok.mono hx hk⟩
theorem CdsV.lt (h : CdsV K w A n xs) : CdsV (fun x => K x ∧ x < w.heap.size) w A n xs := by
  obtain ⟨vs, h1, h2, h3⟩ := h
  exact ⟨vs, h1, h2.lt, h3.imp fun x r hx => ECd.ok.lt hx⟩
theorem CdsV.below (h : CdsV K w A n xs) (hb : Below w.heap.size w w') : CdsV K w' A n xs := (h.lt.stays ⟨hb.size, fun x hx => hb.block x hx.2⟩).mono fun _ hx => hx.1
theorem CdsV.len (h : CdsV K w A n xs) : xs.length = n := by obtain ⟨_, h1, _⟩ := h; exact h1
theorem CdsV.nil (K : Nat → Prop) (w : World) (A : Option Addr) : CdsV K w A 0 [] := ⟨[], rfl, ⟨rfl, fun _ => rfl, fun h => absurd h (Nat.lt_irrefl 0)⟩, HdL.nil _ _⟩
/-- A command that lies at a place. -/
structure CdL (w : World) (b o : Nat) (x : Cd) (A : Option Addr) (n c : Nat) : Prop where
  c0 : w.cell? ⟨b, o, none⟩ = some (.int .i64 x.d)
  c1 : w.cell? ⟨b, o + 1, none⟩ = some (.bool x.lc)
  c2 : w.cell? ⟨b, o + 2, none⟩ = some (.int .i64 x.ix)
  c3 : w.cell? ⟨b, o + 3, none⟩ = some (.int .i64 x.gn)
  c4 : w.cell? ⟨b, o + 4, none⟩ = some (.int .i64 x.cp)
  c5 : w.cell? ⟨b, o + 5, none⟩ = some (.slice A n c)
theorem CdsV.cell (h : CdsV K w A n xs) {j : Nat} {x : Cd} (hj : xs[j]? = some x) :
    ∃ b o A' m c, A = some ⟨b, o, none⟩ ∧ b < w.heap.size ∧ CdL w b (o + j * 6) x A' m c ∧ Rd w A' m x.dt ∧ m ≤ c := by
  obtain ⟨b, o, r, e, hk, hlt, _, ⟨A', m, c, hr, hv, hmc⟩, hc⟩ := RowsL.cells h hj
  subst hr
  have h0 := hc 0 _ (by decide) rfl
  have h1 := hc 1 _ (by decide) rfl
  have h2 := hc 2 _ (by decide) rfl
  have h3 := hc 3 _ (by decide) rfl
  have h4 := hc 4 _ (by decide) rfl
  have h5 := hc 5 _ (by decide) rfl
  rw [Nat.add_zero] at h0
  rw [← Nat.add_assoc] at h1 h2 h3 h4 h5
  obtain ⟨A2, m2, c2, e2, hr2, _⟩ := hv
  injection e2 with e3 e4 e5
  subst e3 e4 e5
  exact ⟨b, o, A', m, c, e, hlt, ⟨h0, h1, h2, h3, h4, h5⟩, hr2, hmc⟩
theorem CdL.below {b o : Nat} {x : Cd} {A : Option Addr} {n c : Nat} (h : CdL w b o x A n c) (hb : Below w.heap.size w w') (hlt : b < w.heap.size) : CdL w' b o x A n c :=
  ⟨(hb.cell (p := ⟨b, o, none⟩) hlt).trans h.c0, (hb.cell (p := ⟨b, o + 1, none⟩) hlt).trans h.c1, (hb.cell (p := ⟨b, o + 2, none⟩) hlt).trans h.c2, (hb.cell (p := ⟨b, o + 3, none⟩) hlt).trans h.c3, (hb.cell (p := ⟨b, o + 4, none⟩) hlt).trans h.c4, (hb.cell (p := ⟨b, o + 5, none⟩) hlt).trans h.c5⟩
theorem CdL.load {b o : Nat} {x : Cd} {A : Option Addr} {n c : Nat} (h : CdL w b o x A n c) : (Instr.loadAt 47 (.pointer (some ⟨b, o, none⟩))).run Try.prog w = .ok (.agg (x.cs A n c)) w := by
  obtain ⟨d, hd, hr⟩ := cdT.und
  have := run_loadVar_mid (P := Try.prog) w b o 47 (x.cs A n c).toList d (fun j v hj => by
    match j, hj with
    | 0, hj => injection hj with hj; rw [← hj]; exact h.c0
    | 1, hj => injection hj with hj; rw [← hj]; exact h.c1
    | 2, hj => injection hj with hj; rw [← hj]; exact h.c2
    | 3, hj => injection hj with hj; rw [← hj]; exact h.c3
    | 4, hj => injection hj with hj; rw [← hj]; exact h.c4
    | 5, hj => injection hj with hj; rw [← hj]; exact h.c5) hd hr (by rw [cdT.info]; rfl)
  simp only [Instr.loadAt, Instr.sureAddr, Sem.run_bind, Sem.run_pure, Result.andThen_ok, this]
/-- The load of one of them. -/
theorem wpList_ldCd {ops : Array Oper} {rest : List Oper} {o : Oper} {a : Act} {Q : Exit → Act → World → Prop} {b off : Nat} {x : Cd} {A : Option Addr} {n c : Nat} (hgd : Region.wanted o (yielded ops a.tmps) = true) (y : Operand) (ho : o.op = .load 47 y)
    (hx : a.eval y = .pointer (some ⟨b, off, none⟩)) (h : CdL w b off x A n c) (kk : wpList Try.prog ops Q rest (a.put o.dst (.agg (x.cs A n c))) w) : wpList Try.prog ops Q (o :: rest) a w :=
  wpList_w hgd fun _ hK => by
    unfold Oper.wp execOp
    simp only [ho, hx, h.load, Sem.run_bind, Sem.run_pure, Result.andThen_ok]
    exact hK _ _ kk
end
end Go.Proofs.Ytlinafnhhnkjnaa
namespace Go.Proofs.Ytlinafnhhnkjnaa
open Go.RowKit

theorem sl_nil_eq (w : World) (a : Option Addr) (n c n' c' : Nat) : (binOp .eql 25 (.slice a n c) (.slice none n' c')).run Try.prog w = .ok (.bool a.isNone) w := Lib.run_eql_slice_nil w _ _ a n c n' c' Try.underlying25

end Go.Proofs.Ytlinafnhhnkjnaa
namespace Go.Proofs.Ytlinafnhhnkjnaa
open Go.RowKit
set_option linter.unusedVariables false
set_option maxRecDepth 20000

/-- While what counts of a command is laid together: the command's box, the answer's block, what has told (if it was asked), the answer so far. -/
structure PS (w0 W : World) (x : Cd) (A : Option Addr) (n c g3 g5 : Nat) (tv : Option (Array Value)) (cs : Array Value) : Prop where
  k : CdAt w0 W w0.heap.size x A n c
  r2 : Rec 47 W (w0.heap.size + 1) (Cd.zero.cs none 0 0)
  r3 : ∀ t, tv = some t → Rec 73 W g3 t
  r5 : Rec 47 W g5 cs
  h3 : w0.heap.size + 1 < g5
  n3 : tv ≠ none → g3 ≠ g5
section
variable {w0 W W' : World} {x : Cd} {A : Option Addr} {n c g3 g5 : Nat} {tv : Option (Array Value)} {cs : Array Value}
theorem PS.below (h : PS w0 W x A n c g3 g5 tv cs) (hb : Below W.heap.size W W') : PS w0 W' x A n c g3 g5 tv cs := ⟨h.k.next hb, h.r2.under hb, fun t e => (h.r3 t e).under hb, h.r5.under hb, h.h3, h.n3⟩
theorem PS.fr (h : PS w0 W x A n c g3 g5 tv cs) (hA : ∀ b o, A = some ⟨b, o, none⟩ → 0 < n → b < w0.heap.size) (hf : Fr (· = g5) W W') {cs' : Array Value} (hr : Rec 47 W' g5 cs') : PS w0 W' x A n c g3 g5 tv cs' :=
  have h3 := h.h3
  ⟨⟨h.k.r.fr hf (fun e => by omega), h.k.rd.fr hf (fun b o e hp e' => by have := hA b o e hp; omega), h.k.bel.trans (hf.toBelow (fun y hy => by have : y = g5 := hy; omega) h.k.bel.size), h.k.hg⟩,
   h.r2.fr hf (fun e => by omega), fun t e => (h.r3 t e).fr hf (h.n3 (by rw [e]; simp)), hr, h.h3, h.n3⟩
theorem PS.set (h : PS w0 W x A n c g3 g5 tv cs) (hA : ∀ b o, A = some ⟨b, o, none⟩ → 0 < n → b < w0.heap.size) (i : Nat) (v : Value) : PS w0 (W.setCell ⟨g5, i, none⟩ v) x A n c g3 g5 tv (cs.setIfInBounds i v) :=
  h.fr hA (Fr.setCell W (own := (· = g5)) (p := ⟨g5, i, none⟩) rfl v) (h.r5.set i v)
/-- What counts of x. -/
def PlainP (x : Cd) (w : World) (e : Ending) (w' : World) : Prop := ∃ A n c, e = .returned (.agg (x.plain.cs A n c)) ∧ Rd w' A n x.plain.dt ∧ n ≤ c ∧ Below w.heap.size w w'
theorem PS.done (h : PS w0 W x A n c g3 g5 tv cs) (hf : Fr (· = w0.heap.size + 1) W W') : Below w0.heap.size w0 W' := h.k.bel.trans (hf.toBelow (fun y hy => by have : y = w0.heap.size + 1 := hy; omega) h.k.bel.size)
theorem Rd.lo {w : World} {A : Option Addr} {n : Nat} {l : List UInt8} (h : Rd w A n l) (b o : Nat) (e : A = some ⟨b, o, none⟩) (hp : 0 < n) : b < w.heap.size := by
  obtain ⟨b', o', e', hlt, _⟩ := h.2 hp
  rw [e] at e'
  injection e' with e'
  injection e' with e1 e2
  omega
end
theorem own_lo' {w : World} {B : Nat} {e : TypeId} {n m c : Nat} {A : Option Addr} {xs : List Value} (h : w.ownsRow B e 1 (.slice A m c) n xs) (b o : Nat) (hA : A = some ⟨b, o, none⟩) : B ≤ b := by
  rcases h.2 with ⟨h1, _⟩ | ⟨g, cap, cur, hv, hB, _⟩
  · injection h1 with h1; rw [hA] at h1; cases h1
  · injection hv with h1
    rw [hA] at h1
    injection h1 with h1
    injection h1 with h1
    omega








end Go.Proofs.Ytlinafnhhnkjnaa
