/- EcWa -/
import Derived.Test.YthiknmhkdeicjaaGreatDoorQs1
import Derived.Test.YthiknmhkdeicjaaGreatDoorQs17
import Derived.Test.YthiknmhkdeicjaaGreatDoorQs18
import Derived.Test.YthiknmhkdeicjaaGreatDoorQs26
namespace Go.Proofs.YthiknmhkdeicjaaGreatDoor
open Go.RowKit
set_option maxRecDepth 20000
theorem NS.take_EL (s : NS) : s.take.1.E = s.E /\ s.take.1.L = s.L := by
 unfold NS.take
 split
 ·split <;> exact ⟨rfl, rfl⟩
 ·exact ⟨rfl, rfl⟩
theorem NS.give_EL (s : NS) (i g : Int) : (s.give i g).1.E = s.E /\ (s.give i g).1.L = s.L := by
 unfold NS.give
 split <;> exact ⟨rfl, rfl⟩
theorem eIns_len (e : En) : ∀ l : List En, (eIns e l).length = l.length + 1
 | [] => rfl
 | x :: l => by
  unfold eIns
  split
  ·rfl
  ·simp [eIns_len e l]
theorem Es.go_keep (s : Es) (z : Szs) (x : Esp) : (s.go z x).1.ns.E = s.ns.E /\ (s.go z x).1.ns.L = s.ns.L /\ (s.go z x).1.ents.length <= s.ents.length + 1 := by
 unfold Es.go
 split
 ·unfold Es.despawn
  cases ePlace s.ents x.id with
  | none => exact ⟨rfl, rfl, Nat.le_succ _⟩
  | some i => exact ⟨(NS.give_EL _ _ _).1, (NS.give_EL _ _ _).2, Nat.le_trans (List.length_eraseIdx_le _ _) (Nat.le_succ _)⟩
 ·split
  ·unfold Es.set
   cases ePlace s.ents x.id with
   | none => exact ⟨rfl, rfl, Nat.le_succ _⟩
   | some i =>
    simp only
    cases szAt z x.k with
    | none => exact ⟨rfl, rfl, Nat.le_succ _⟩
    | some n =>
     simp only
     split
     ·exact ⟨rfl, rfl, by simp⟩
     ·exact ⟨rfl, rfl, Nat.le_succ _⟩
  ·split
   ·unfold Es.remove
    cases ePlace s.ents x.id with
    | none => exact ⟨rfl, rfl, Nat.le_succ _⟩
    | some i =>
     simp only
     cases szAt z x.k with
     | none => exact ⟨rfl, rfl, Nat.le_succ _⟩
     | some n =>
      simp only
      cases pAt (s.ents.getD i noEn).2 x.k with
      | none => exact ⟨rfl, rfl, Nat.le_succ _⟩
      | some q => exact ⟨rfl, rfl, by simp⟩
   ·split
    ·exact ⟨rfl, rfl, Nat.le_succ _⟩
    ·unfold Es.spawn
     split
     ·exact ⟨(NS.take_EL _).1, (NS.take_EL _).2, by rw [eIns_len]; exact Nat.le_refl _⟩
     ·exact ⟨rfl, rfl, Nat.le_succ _⟩
theorem RSt.stv {K : Nat -> Prop} {w : World} {d : Rst} {s : Es} (h : RSt K w d s) : StV K w d.GA d.gn d.FA d.fn d.EA d.en s.ns.g s.ns.fr s.ents := ⟨h.g.1, h.f.1, h.e.ents⟩
structure Dg (K0 : Nat -> Prop) (W0 W : World) (gG gA gB : Bool) (d : Rst) (s : Es) (DA : Option Addr) (dn dc : Nat) (data : List UInt8) (ga gb : Nat) : Prop where
 b : Below W0.heap.size W0 W
 g : gG = true -> RSt (fun y => K0 y \/ (W0.heap.size <= y /\ y < W.heap.size /\ (gA = true -> y ≠ ga) /\ (gB = true -> y ≠ gb))) W d s /\ VB K0 W (.slice DA dn dc) data
 a : gA = true -> Rec 37 W ga stZ /\ W0.heap.size <= ga
 bb : gB = true -> Rec 39 W gb #[.int .i64 0, .int .i64 0] /\ W0.heap.size <= gb
 ab : gA = true -> gB = true -> ga ≠ gb
section
variable {K0 : Nat -> Prop} {W0 W W' W'' : World} {gG gA gB : Bool} {d : Rst} {s : Es} {DA : Option Addr} {dn dc : Nat} {data : List UInt8} {ga gb : Nat}
theorem Dg.start (W : World) (K0 : Nat -> Prop) (s : Es) (data : List UInt8) : Dg K0 W W.drew false false false Rst.z s none 0 0 data 0 0 := ⟨(Below.refl _ _).drew, (fun h => by cases h), (fun h => by cases h), (fun h => by cases h), (fun h => by cases h)⟩
theorem Dg.G {d' : Rst} {DA' : Option Addr} {dn' dc' : Nat} (h : Dg K0 W0 W false gA gB d s DA dn dc data ga gb) (hb : Below W.heap.size W W') (hg : RSt (fun y => K0 y \/ W.heap.size <= y) W' d' s) (hv : VB K0 W' (.slice DA' dn' dc') data) : Dg K0 W0 W' true gA gB d' s DA' dn' dc' data ga gb :=
 ⟨h.b.trans (hb.mono h.b.size), fun _ => ⟨hg.lt.mono (fun y hy => by
  rcases hy.1 with h1 | h1
  ·exact .inl h1
  ·exact .inr ⟨Nat.le_trans h.b.size h1, hy.2, fun e he => by have := (h.a e).1.lt; omega, fun e he => by have := (h.bb e).1.lt; omega⟩), hv⟩, fun e => ⟨(h.a e).1.under hb, (h.a e).2⟩, fun e => ⟨(h.bb e).1.under hb, (h.bb e).2⟩, h.ab⟩
theorem Dg.A (h : Dg K0 W0 W gG false gB d s DA dn dc data ga gb) : Dg K0 W0 (W.alloc (.cells stZ 37)) gG true gB d s DA dn dc data W.heap.size gb :=
 have hb : Below W.heap.size W (W.alloc (.cells stZ 37)) := (Below.refl _ _).alloc (Nat.le_refl _) _
 ⟨h.b.trans (hb.mono h.b.size), fun e => ⟨((h.g e).1.below hb).mono (fun y hy => by
  rcases hy with hy | hy
  ·exact .inl hy
  ·exact .inr ⟨hy.1, Nat.lt_of_lt_of_le hy.2.1 hb.size, fun _ he => by have := hy.2.1; omega, hy.2.2.2⟩), (h.g e).2.below hb⟩, fun _ => ⟨Rec.new W _ _, h.b.size⟩, fun e => ⟨(h.bb e).1.under hb, (h.bb e).2⟩, fun _ e he => by have := (h.bb e).1.lt; omega⟩
theorem Dg.B (h : Dg K0 W0 W gG gA false d s DA dn dc data ga gb) : Dg K0 W0 (W.alloc (.cells #[.int .i64 0, .int .i64 0] 39)) gG gA true d s DA dn dc data ga W.heap.size :=
 have hb : Below W.heap.size W (W.alloc (.cells #[.int .i64 0, .int .i64 0] 39)) := (Below.refl _ _).alloc (Nat.le_refl _) _
 ⟨h.b.trans (hb.mono h.b.size), fun e => ⟨((h.g e).1.below hb).mono (fun y hy => by
  rcases hy with hy | hy
  ·exact .inl hy
  ·exact .inr ⟨hy.1, Nat.lt_of_lt_of_le hy.2.1 hb.size, hy.2.2.1, fun _ he => by have := hy.2.1; omega⟩), (h.g e).2.below hb⟩, fun e => ⟨(h.a e).1.under hb, (h.a e).2⟩, fun _ => ⟨Rec.new W _ _, h.b.size⟩, fun e _ he => by have := (h.a e).1.lt; omega⟩
structure Dz (K0 : Nat -> Prop) (W0 W : World) (d : Rst) (s : Es) (DA : Option Addr) (dn dc : Nat) (data : List UInt8) (i2 g2 : Int) (ga gb : Nat) : Prop where
 b : Below W0.heap.size W0 W
 g : RSt (fun y => K0 y \/ (W0.heap.size <= y /\ y ≠ ga /\ y ≠ gb)) W d s
 v : VB K0 W (.slice DA dn dc) data
 ra : Rec 37 W ga d.cs
 rb : Rec 39 W gb #[.int .i64 i2, .int .i64 g2]
 la : W0.heap.size <= ga
 lb : W0.heap.size <= gb
theorem Dg.X (h : Dg K0 W0 W true true true d s DA dn dc data ga gb) (hF : Fr (· = ga) W W') : Rec 39 W' gb #[.int .i64 0, .int .i64 0] :=
 (h.bb rfl).1.fr hF (fun e => h.ab rfl rfl (show gb = ga from e).symm)
theorem Dg.Y {i2 g2 : Int} (h : Dg K0 W0 W true true true d s DA dn dc data ga gb) (h0 : ∀ y, K0 y -> y < W0.heap.size) (hR : Rec 37 W' ga d.cs) (hF : Fr (· = ga) W W') (hR' : Rec 39 W'' gb #[.int .i64 i2, .int .i64 g2]) (hF' : Fr (· = gb) W' W'') : Dz K0 W0 W'' d s DA dn dc data i2 g2 ga gb := by
 obtain ⟨a1, a2⟩ := h.a rfl
 obtain ⟨b1, b2⟩ := h.bb rfl
 have hab := h.ab rfl rfl
 have hFF : Fr (fun y => y = ga \/ y = gb) W W'' := (hF.mono (fun y hy => .inl hy)).trans (hF'.mono (fun y hy => .inr hy))
 refine ⟨h.b.trans (hFF.toBelow (fun y hy => by rcases hy with hy | hy <;> omega) h.b.size), ?_, ?_, hR.fr hF' (fun e => hab e), hR', a2, b2⟩
 ·refine ((h.g rfl).1.stays ⟨hFF.size, fun y hy => hFF.block y ?_ ?_⟩).mono (fun y hy => ?_)
  ·rcases hy with hy | hy
   ·exact Nat.lt_of_lt_of_le (h0 y hy) h.b.size
   ·exact hy.2.1
  ·intro e
   rcases hy with hy | hy
   ·have := h0 y hy
    rcases e with e | e <;> omega
   ·rcases e with e | e
    ·exact hy.2.2.1 rfl e
    ·exact hy.2.2.2 rfl e
  ·rcases hy with hy | hy
   ·exact .inl hy
   ·exact .inr ⟨hy.1, hy.2.2.1 rfl, hy.2.2.2 rfl⟩
 ·refine (h.g rfl).2.stays ⟨hFF.size, fun y hy => hFF.block y (Nat.lt_of_lt_of_le (h0 y hy) h.b.size) (fun e => ?_)⟩
  have := h0 y hy
  rcases e with e | e <;> omega
end
theorem wpList_ldStp {ops : Array Oper} {rest : List Oper} {o : Oper} {a : Act} {w : World} {Q : Exit -> Act -> World -> Prop} {b off : Nat} {cs : List Value} (hn : cs.length = 5) (hgd : Region.wanted o (yielded ops a.tmps) = true) (x : Operand) (ho : o.op = .load 44 x)
  (hx : a.eval x = .pointer (some ⟨b, off, none⟩)) (hc : ∀ j v, cs[j]? = some v -> w.cell? ⟨b, off + j, none⟩ = some v)
  (kk : wpList Tryz.prog ops Q rest (a.put o.dst (.agg cs.toArray)) w) : wpList Tryz.prog ops Q (o :: rest) a w :=
 wpList_w hgd fun _ hK => by
  obtain ⟨d, hd, hr⟩ := stepT.und
  have := run_loadVar_mid (P := Tryz.prog) w b off 44 cs d hc hd hr (by rw [stepT.info, hn])
  have h3 : (Instr.loadAt 44 (.pointer (some ⟨b, off, none⟩))).run Tryz.prog w = .ok (.agg cs.toArray) w := by
   simp only [Instr.loadAt, Instr.sureAddr, Sem.run_bind, Sem.run_pure, Result.andThen_ok, this]
  unfold Oper.wp execOp
  simp only [ho, hx, h3, Sem.run_bind, Sem.run_pure, Result.andThen_ok]
  exact hK _ _ kk
structure LI (w0 : World) (N : Nat) (x : Fx) (g10 j : Nat) (k : Ks) (gr pt : Nat -> Nat) (c : Nat) (s : Es) (d : Rst) (W : World) : Prop where
 co : CoJ 0 W N gr x k c pt
 sim : Sim x k s
 st : RSt (fun y => gr y = 0 /\ y ≠ g10) W d s
 r10 : Rec 37 W g10 d.cs
 g0 : gr g10 = 0
 c4 : c <= 4 * j
 S1 : k.S.length <= j + 1
 el : s.ents.length <= j
 b : Below N w0 W
end Go.Proofs.YthiknmhkdeicjaaGreatDoor
