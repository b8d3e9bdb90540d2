/- IdB, IdC, IdD, IdE, IdF, MapF, GrM -/
import Derived.Test.YtaoinkjjmakhaaaGreatDoorQl1
import Derived.Test.YtaoinkjjmakhaaaGreatDoorQl2
import Derived.Test.YtaoinkjjmakhaaaGreatDoorQl4
import Derived.Test.YtaoinkjjmakhaaaGreatDoorQl9
import Derived.Carry
import Derived.Lib.SliceRun
import Derived.Deep.RegionLawGrows
import Derived.WalkSmall
import Derived.DeepKeys4
import Derived.Maps.OwnSet
namespace Go.Proofs.YtaoinkjjmakhaaaGreatDoor
set_option maxRecDepth 20000
open Go.RowKit
section
variable {w : World} {own : Nat -> Prop} {p : Nat} {gv av fv : Value} {s : NS}
theorem Alive_any (h : IAt w own p gv av fv s) (i gen : Int) :
  Calls Tryz.prog 106 #[.pointer (some ⟨p, 0, none⟩), idv (i, gen)] w fun e w' => e = .returned (.bool (s.alive i gen)) /\ Below w.heap.size w w' := by
 show Calls _ _ #[.pointer (some ⟨p, 0, none⟩), .agg #[.int .i64 i, .int .i64 gen]] w _
 obtain ⟨w1, hw1⟩ : ∃ w1, w1 = w.alloc (.cells #[.int .i64 i, .int .i64 gen] 32) := ⟨_, rfl⟩
 have hb : Below w.heap.size w w1 := by rw [hw1]; exact (Below.refl _ _).alloc (Nat.le_refl _) _
 have hR1 : Rec 32 w1 w.heap.size #[.int .i64 i, .int .i64 gen] := by rw [hw1]; exact Rec.new _ _ _
 have c0 : w1.cell? ⟨w.heap.size, 0, none⟩ = some (.int .i64 i) := hR1.at_ 0
 have CA := At_any (h.below hb) i
 obtain ⟨z, hz⟩ : ∃ z, z = s.g.getD i.toNat 0 := ⟨_, rfl⟩
 by_cases hl : s.live i = true
 ·have ha : s.at_ i = ((i, s.g.getD i.toNat 0), true) := by unfold NS.at_; rw [if_pos hl]
  have hal : s.alive i gen = decide (z = gen) := by unfold NS.alive; rw [hl, hz]; rfl
  rw [ha, <- hz] at CA
  rw [hal]
  have HB := hi_ hb
  have HR := hi_ hR1
  have CB := hi_ CA
  clear CA hb hR1 ha hal hz hl h
  go_enter Tryz.func106, Tryz.ntmps106
  go_wp2_with (first
   | (rw [<- hw1]; clear hw1)
   | (go_at_call 149; refine CB.out.mono ?_; rintro e w2 ⟨rfl, hB2⟩; have hR2 := HR.out.under hB2; have k0 := hR2.at_ 0; have k1 := hR2.at_ 1; simp only [List.getElem?_toArray, List.getElem?_cons_zero, List.getElem?_cons_succ] at k0 k1; have HB2 := hi_ (HB.out.trans (hB2.mono HB.out.size)); have hlt2 := hR2.lt; clear hB2 hR2; simp only [idv]))
  all_goals go_ret
  all_goals exact ⟨rfl, HB2.out.trans ((Below.refl _ _).alloc HB2.out.size _)⟩
 ·have hl : s.live i = false := by simpa using hl
  have ha : s.at_ i = ((0, 0), false) := by unfold NS.at_; rw [if_neg (by simp [hl])]
  have hal : s.alive i gen = false := by unfold NS.alive; rw [hl]; rfl
  rw [ha] at CA
  rw [hal]
  have HB := hi_ hb
  have CB := hi_ CA
  clear CA hb hR1 ha hal hz hl h
  go_enter Tryz.func106, Tryz.ntmps106
  go_wp2_with (first
   | (rw [<- hw1]; clear hw1)
   | (go_at_call 149; refine CB.out.mono ?_; rintro e w2 ⟨rfl, hB2⟩; have HB2 := hi_ (HB.out.trans (hB2.mono HB.out.size)); clear hB2; simp only [idv]))
  go_ret
  exact ⟨rfl, HB2.out.trans ((Below.refl _ _).alloc HB2.out.size _)⟩
end
theorem intsl_nil_eq (w : World) (a : Option Addr) (n c n' c' : Nat) : (binOp .eql 38 (.slice a n c) (.slice none n' c')).run Tryz.prog w = .ok (.bool a.isNone) w := Lib.run_eql_slice_nil w _ _ a n c n' c' Tryz.underlying38
theorem iclone_any (A : Option Addr) (n c : Nat) (zs : List Int) (w : World) (hr : IRd w A n zs) (hn : Hid (n <= 1000000000)) :
  Calls Tryz.prog 83 #[.slice A n c] w fun e w' => ∃ v, e = .returned v /\ w'.ownsRow w.heap.size 3 1 v n (zs.map (Value.int .i64)) /\ Below w.heap.size w w' := by
 obtain ⟨i0, hi0, hz0, hz1, hz2⟩ := info_parts intT.info
 rcases A with _ | ad
 ·have h0 : n = 0 := by
   rcases Nat.eq_zero_or_pos n with h0 | h0
   ·exact h0
   ·obtain ⟨_, _, e, _⟩ := hr.2 h0
    cases e
  subst h0
  have hl : zs = [] := List.eq_nil_of_length_eq_zero hr.1
  subst hl
  clear hr
  have q := intsl_nil_eq
  go_enter Tryz.func83, Tryz.ntmps83
  go_wp2
  go_ret
  exact ⟨_, rfl, World.ownsRow_nil _ _ _ _, Below.refl _ _⟩
 ·have ho := own_empty w w.heap.size 3 (Nat.le_refl _)
  have hr1 := hr.below ((Below.refl _ _).alloc (Nat.le_refl _) (.cells #[] 3))
  have hcells : ∀ j u, (zs.map (Value.int .i64))[j]? = some u -> (w.alloc (.cells #[] 3)).cell? (ad.add j) = some u := fun j u hj => by
   have hjl : j < zs.length := by have := (List.getElem?_eq_some_iff.1 hj).1; simpa using this
   obtain ⟨b, o, e, _, hc⟩ := hr1.2 (by have := hr1.1; omega)
   injection e with e
   subst e
   rw [Addr.add_lit, hc j hjl, <- hj]
   simp [List.getD, List.getElem?_eq_getElem hjl]
  have hlen := hr.1
  clear hr hr1
  have q := intsl_nil_eq
  go_enter Tryz.func83, Tryz.ntmps83
  go_wp2_with (at_builtin; refine wpList_append_own_at _ rfl (.tmp 5) (.tmp 6) 38 rfl w.heap.size 3 i0 (.int .i64 0) 1 8 Tryz.underlying38 hi0 hz0 hz1 hz2 rfl (by decide) _ 0 [] rfl ho ad n c (zs.map (Value.int .i64)) rfl (by simp; omega) hcells (fun u hu => by obtain ⟨_, _, rfl⟩ := List.mem_map.1 hu; rfl) (by have := hn.out; unfold maxLen; omega) (by have := hn.out; omega) (by simp) ?_; intro v2 w2 ho2 hg2 _ _; rw [Nat.zero_add, List.nil_append] at ho2)
  go_ret
  exact ⟨_, rfl, ho2, ((Below.refl _ _).alloc (Nat.le_refl _) _).grown hg2 (by simp) (fun q hq => (ho.lt q hq).1)⟩
section
variable {w : World} {own : Nat -> Prop} {p : Nat} {gv av fv : Value} {s : NS}
theorem Gens_any (h : IAt w own p gv av fv s) :
  Calls Tryz.prog 33 #[.pointer (some ⟨p, 0, none⟩)] w fun e w' => ∃ A c, e = .returned (.slice A s.g.length c) /\ IRd w' A s.g.length s.g /\ Below w.heap.size w w' := by
 obtain ⟨A, c, rfl, hr⟩ := IRd.of_own h.gens
 have c2 := h.c2
 have hlen := h.ok.len
 have hE := h.ok.E2
 have CC := hi_ (iclone_any A s.g.length c s.g w hr (hi_ (by omega)))
 clear h hr hlen hE
 go_enter Tryz.func33, Tryz.ntmps33
 go_wp2_with (go_at_call 83; refine CC.out.mono ?_; rintro e w1 ⟨v, rfl, ho1, hb1⟩; obtain ⟨A1, c1, rfl, hr1⟩ := IRd.of_own ho1)
 go_ret
 exact ⟨_, _, rfl, hr1, hb1⟩
theorem Free_any (h : IAt w own p gv av fv s) :
  Calls Tryz.prog 34 #[.pointer (some ⟨p, 0, none⟩)] w fun e w' => ∃ A c, e = .returned (.slice A s.fr.length c) /\ IRd w' A s.fr.length s.fr /\ Below w.heap.size w w' := by
 obtain ⟨A, c, rfl, hr⟩ := IRd.of_own h.free
 have c4 := h.c4
 have hE := h.ok.few
 have CC := hi_ (iclone_any A s.fr.length c s.fr w hr (hi_ (by omega)))
 clear h hr hE
 go_enter Tryz.func34, Tryz.ntmps34
 go_wp2_with (go_at_call 83; refine CC.out.mono ?_; rintro e w1 ⟨v, rfl, ho1, hb1⟩; obtain ⟨A1, c1, rfl, hr1⟩ := IRd.of_own ho1)
 go_ret
 exact ⟨_, _, rfl, hr1, hb1⟩
theorem count_any (h : IAt w own p gv av fv s) (n : Nat) (hn : n <= 1024) :
  Calls Tryz.prog 150 #[.int .i64 n, .func (.func 100) #[.pointer (some ⟨p, 0, none⟩)] #[]] w fun e w' => e = .returned (.int .i64 (s.cnt n)) /\ w = w' := by
 have CL : ∀ k : Int, Calls Tryz.prog 100 #[.pointer (some ⟨p, 0, none⟩), .int .i64 k] w fun e w' => e = .returned (.bool (s.live k)) /\ w = w' := lives_any h
 have CK := hi_ CL
 clear CL h
 go_enter Tryz.func150, Tryz.ntmps150
 go_wp2
 go_loopw [5, 8] (fun v iv wr => ∃ j : Nat, j <= n /\ iv = .int .i64 j /\ v = .int .i64 (s.cnt j) /\ wr = w) (fun _ iv _ => n - (intOf iv).toNat)
 case atStart => exact ⟨0, Nat.zero_le _, rfl, rfl, rfl⟩
 case round =>
  obtain ⟨j, hj, rfl, rfl, rfl⟩ := hrel
  have hcl := s.cnt_le j
  have hcs := s.cnt_succ j
  obtain ⟨m, hm⟩ : ∃ m, m = s.cnt j := ⟨_, rfl⟩
  rw [<- hm] at hcl hcs ⊢
  by_cases hjn : j < n
  ·have C := hi_ (CK.out (j : Int))
   obtain ⟨b, hb⟩ : ∃ b, b = s.live (j : Int) := ⟨_, rfl⟩
   rw [<- hb] at C hcs
   clear hb hm
   cases b
   ·rw [if_neg (by decide)] at hcs
    have HCS := hi_ hcs
    clear hcs
    go_wp2_with (go_at_call 100; refine C.out.mono ?_; rintro e w' ⟨rfl, rfl⟩)
    go_roundw
    case rel => exact ⟨j + 1, hjn, by go_num, by rw [HCS.out]; rfl, by first | rfl | trivial⟩
    case measure => simp [intOf]; omega
   ·rw [if_pos rfl] at hcs
    have HCS := hi_ hcs
    clear hcs
    go_wp2_with (go_at_call 100; refine C.out.mono ?_; rintro e w' ⟨rfl, rfl⟩)
    go_roundw
    case rel => exact ⟨j + 1, hjn, by go_num, by rw [HCS.out]; go_num, by first | rfl | trivial⟩
    case measure => simp [intOf]; omega
  ·obtain rfl : j = n := by omega
   clear hcs
   go_wp2
   go_ret
   exact ⟨by rw [<- hm]; rfl, rfl⟩
theorem Count_any (h : IAt w own p gv av fv s) :
  Calls Tryz.prog 107 #[.pointer (some ⟨p, 0, none⟩)] w fun e w' => e = .returned (.int .i64 (s.cnt s.g.length)) /\ w = w' := by
 obtain ⟨A, c, rfl, _⟩ := IRd.of_own h.gens
 have c2 := h.c2
 have hmf : ∀ (fn : Fn) (first cap : Array Value) (w : World), (Instr.makeFunc fn first cap).run Tryz.prog w = .ok (.func fn first cap) w := fun _ _ _ _ => rfl
 have hlen := h.ok.len
 have hE := h.ok.E2
 have CC := hi_ (count_any h s.g.length (by omega))
 clear h hlen hE
 go_enter Tryz.func107, Tryz.ntmps107
 go_wp2_with (go_at_call 150; refine CC.out.mono ?_; rintro e w' ⟨rfl, rfl⟩)
 go_ret
 exact ⟨rfl, rfl⟩
end
end Go.Proofs.YtaoinkjjmakhaaaGreatDoor
namespace Go.Proofs.YtaoinkjjmakhaaaGreatDoor
set_option maxRecDepth 20000
open Go.RowKit
def IDv (w : World) (own : Nat -> Prop) (p : Nat) (s : NS) : Prop := (∀ x, own x -> x < w.heap.size) /\ ∃ gv av fv, IAt w own p gv av fv s
def IGoes (w : World) (own : Nat -> Prop) (p : Nat) (s : NS) (w' : World) : Prop := Fr own w w' /\ ∃ own', (∀ x, own' x -> own x \/ w.heap.size <= x) /\ IDv w' own' p s
theorem own_not {w : World} {B e n q : Nat} {T : TypeId} {C : Array Value} {v : Value} {xs : List Value} (h : w.ownsRow B e 1 v n xs) (hq : w.heap[q]? = some (.cells C T (0, 0))) (hne : T ≠ e) : v.ownBlock ≠ some q := fun hx => by
 obtain ⟨D, hD⟩ := own_tagI h hx
 rw [hq] at hD
 injection hD with hD
 injection hD with _ h2
 exact hne h2
theorem own_set {w : World} {B e n q i : Nat} {v u : Value} {xs : List Value} (h : w.ownsRow B e 1 v n xs) (hne : v.ownBlock ≠ some q) : (w.setCell ⟨q, i, none⟩ u).ownsRow B e 1 v n xs :=
 own_fr h (Fr.setCell (own := (· = q)) w (p := ⟨q, i, none⟩) rfl u) (fun x hx e => hne (by rw [hx, show x = q from e]))
theorem own_kept {w w' : World} {B e n : Nat} {v : Value} {xs : List Value} {row : Option Nat} (h : w.ownsRow B e 1 v n xs) (hg : w.grownBy w' row) (hne : ∀ x, row = some x -> v.ownBlock ≠ some x) : w'.ownsRow B e 1 v n xs := by
 refine h.kept hg ?_
 cases hv : v.ownBlock with
 | none => exact .inl rfl
 | some y => exact .inr (fun e => hne y e.symm hv)
theorem rec_kept {w w' : World} {T p : Nat} {cs : Array Value} {row : Option Nat} (h : Rec T w p cs) (hg : w.grownBy w' row) (hne : row ≠ some p) : Rec T w' p cs := (hg.block p h.lt (fun e => hne e.symm)).trans h
section
variable {w : World} {own : Nat -> Prop} {p : Nat} {gv av fv : Value} {s : NS}
theorem IAt.mem (h : IAt w own p gv av fv s) : Rec 155 w p #[.int .i64 s.E, .int .i64 s.L, gv, av, fv] := h.blk
theorem own_sl {w : World} {B e n : Nat} {v : Value} {xs : List Value} (h : w.ownsRow B e 1 v n xs) : ∃ A c, v = .slice A n c := by
 obtain ⟨A, c, e, _⟩ := own_open h
 exact ⟨A, c, e⟩
set_option maxHeartbeats 1000000 in
theorem use_any (dom : ∀ x, own x -> x < w.heap.size) (h : IAt w own p gv av fv s) (gen : Int) (hlen : s.g.length < s.E) (hg : 0 <= gen /\ gen <= s.L) :
  Calls Tryz.prog 99 #[.pointer (some ⟨p, 0, none⟩), .int .i64 gen] w fun e w' => e = .returned (.tuple #[]) /\ IGoes w own p (s.push gen) w' := by
 obtain ⟨i0, hi0, hz0, hz1, hz2⟩ := info_parts intT.info
 obtain ⟨A, c, rfl⟩ := own_sl h.gens
 obtain ⟨A3, c3', rfl⟩ := own_sl h.ali
 obtain ⟨A4, c4', rfl⟩ := own_sl h.free
 have c2 := h.c2
 have hE := h.ok.E2
 have H := hi_ h
 have hplt := h.lt
 have hone : ∀ u ∈ [Value.int .i64 gen], u.oneCell' = true := fun u hu => by rw [List.mem_singleton.1 hu]; rfl
 have hone2 : ∀ u ∈ [Value.bool (decide (gen < s.L))], u.oneCell' = true := fun u hu => by rw [List.mem_singleton.1 hu]; rfl
 -- the rows and the struct, the new element's block laid
 obtain ⟨wa, hwa⟩ : ∃ wa, wa = w.alloc (.cells #[.int .i64 gen] 3) := ⟨_, rfl⟩
 have ba : Below w.heap.size w wa := by rw [hwa]; exact (Below.refl _ _).alloc (Nat.le_refl _) _
 have hsza : wa.heap.size = w.heap.size + 1 := by rw [hwa]; simp
 have hra := h.mem.under ba
 have hga := own_keep h.gens ba
 have hla := own_keep h.ali ba
 have hfa := own_keep h.free ba
 have hone1 : ∀ j u, [Value.int .i64 gen][j]? = some u -> wa.cell? ((⟨w.heap.size, 0, none⟩ : Addr).add j) = some u := by rw [hwa]; exact cell_one_new _ _ _
 clear h
 have HW := hi_ hwa
 clear hwa
 go_enter Tryz.func99, Tryz.ntmps99
 go_wp2_with (first
  | (rw [<- HW.out])
  | (at_builtin; refine wpList_append_own_at _ rfl (.tmp 8) (.tmp 10) 38 rfl 0 3 i0 (.int .i64 0) 1 8 Tryz.underlying38 hi0 hz0 hz1 hz2 rfl (by decide) (.slice A s.g.length c) s.g.length (s.g.map (Value.int .i64)) rfl hga ⟨w.heap.size, 0, none⟩ 1 1 [.int .i64 gen] rfl rfl hone1 hone (by unfold maxLen; omega) (by omega) (Nat.zero_le _) ?_))
 intro v1 w1 ho1 hg1 _ he1
 obtain ⟨A1, c1, rfl⟩ := own_sl ho1
 have hr1 := rec_kept hra hg1 (own_not hga hra (by decide))
 have hl1 := own_kept hla hg1 (fun x hx e => by
  obtain ⟨C, hC⟩ := own_tagI hga hx
  exact own_not hla hC (by decide) e)
 have hf1 := own_kept hfa hg1 (fun x hx e => H.out.apart x hx e)
 have k2 : w1.cell? ⟨p, 2, none⟩ = some (.slice A s.g.length c) := hr1.at_ 2
 have f2 := hr1.fz 2
 have hF1 : Fr own w w1 := (Fr.ofBelow own ba).trans' (Fr.grown hg1 (own := own) (fun x hx => H.out.owng x hx)) (fun x hx => .inl hx)
 obtain ⟨w2, hw2⟩ : ∃ w2, w2 = w1.setCell ⟨p, 2, none⟩ (.slice A1 (s.g.length + 1) c1) := ⟨_, rfl⟩
 have hF2 : Fr own w w2 := hF1.trans (by rw [hw2]; exact Fr.setCell w1 (p := ⟨p, 2, none⟩) H.out.ownp _)
 have hr2 : Rec 155 w2 p #[.int .i64 s.E, .int .i64 s.L, .slice A1 (s.g.length + 1) c1, .slice A3 s.g.length c3', .slice A4 s.fr.length c4'] := by rw [hw2]; exact hr1.set 2 _
 have ho2 : w2.ownsRow 0 3 1 (.slice A1 (s.g.length + 1) c1) (s.g.length + 1) (s.g.map (Value.int .i64) ++ [.int .i64 gen]) := by rw [hw2]; exact own_set ho1 (own_not ho1 hr1 (by decide))
 have hl2 := own_set (i := 2) (u := .slice A1 (s.g.length + 1) c1) hl1 (own_not hl1 hr1 (by decide))
 have hf2 := own_set (i := 2) (u := .slice A1 (s.g.length + 1) c1) hf1 (own_not hf1 hr1 (by decide))
 rw [<- hw2] at hl2 hf2
 have hs2 : w.heap.size + 1 <= w2.heap.size := by have := hg1.size; rw [hw2]; simp [World.setCell]; omega
 -- and with the second new element's block
 obtain ⟨wb, hwb⟩ : ∃ wb, wb = w2.alloc (.cells #[.bool (decide (gen < s.L))] 4) := ⟨_, rfl⟩
 have bb : Below w2.heap.size w2 wb := by rw [hwb]; exact (Below.refl _ _).alloc (Nat.le_refl _) _
 have hrb := hr2.under bb
 have hob := own_keep ho2 bb
 have hlb := own_keep hl2 bb
 have hfb := own_keep hf2 bb
 have hnew : ∀ j u, [Value.bool (decide (gen < s.L))][j]? = some u -> wb.cell? ((⟨w2.heap.size, 0, none⟩ : Addr).add j) = some u := by rw [hwb]; exact cell_one_new _ _ _
 have q1 : w2.cell? ⟨p, 1, none⟩ = some (.int .i64 s.L) := hr2.at_ 1
 have q3 : w2.cell? ⟨p, 3, none⟩ = some (.slice A3 s.g.length c3') := hr2.at_ 3
 have q3b : (w2.alloc (.cells #[.bool (decide (gen < s.L))] 4)).cell? ⟨p, 3, none⟩ = some (.slice A3 s.g.length c3') := by rw [<- hwb]; exact hrb.at_ 3
 have q1d : w2.drew.cell? ⟨p, 1, none⟩ = some (.int .i64 s.L) := q1
 have q3d : w2.drew.cell? ⟨p, 3, none⟩ = some (.slice A3 s.g.length c3') := q3
 have q3bd : (w2.alloc (.cells #[.bool (decide (gen < s.L))] 4)).drew.cell? ⟨p, 3, none⟩ = some (.slice A3 s.g.length c3') := q3b
 have hlbd : (w2.alloc (.cells #[.bool (decide (gen < s.L))] 4)).drew.ownsRow 0 4 1 (.slice A3 s.g.length c3') s.g.length (s.liveL.map Value.bool) := by rw [<- hwb]; exact hlb
 have hnewd : ∀ j u, [Value.bool (decide (gen < s.L))][j]? = some u -> (w2.alloc (.cells #[.bool (decide (gen < s.L))] 4)).drew.cell? ((⟨w2.heap.size, 0, none⟩ : Addr).add j) = some u := by rw [<- hwb]; exact hnew
 have hrbd : Rec 155 (w2.alloc (.cells #[.bool (decide (gen < s.L))] 4)).drew p #[.int .i64 s.E, .int .i64 s.L, .slice A1 (s.g.length + 1) c1, .slice A3 s.g.length c3', .slice A4 s.fr.length c4'] := by rw [<- hwb]; exact hrb
 have hobd : (w2.alloc (.cells #[.bool (decide (gen < s.L))] 4)).drew.ownsRow 0 3 1 (.slice A1 (s.g.length + 1) c1) (s.g.length + 1) (s.g.map (Value.int .i64) ++ [.int .i64 gen]) := by rw [<- hwb]; exact hob
 have hfbd : (w2.alloc (.cells #[.bool (decide (gen < s.L))] 4)).drew.ownsRow 0 3 1 (.slice A4 s.fr.length c4') s.fr.length (s.fr.map (Value.int .i64)) := by rw [<- hwb]; exact hfb
 have bbd : Below w2.heap.size w2 (w2.alloc (.cells #[.bool (decide (gen < s.L))] 4)).drew := by rw [<- hwb]; exact bb.trans (Below.refl _ _).drew
 have hszb : (w2.alloc (.cells #[.bool (decide (gen < s.L))] 4)).drew.heap.size = w2.heap.size + 1 := by show (w2.heap.push _).size = _; simp
 have HB := hi_ hszb
 have HLBD := hi_ hlbd
 have HND := hi_ hnewd
 have HRB := hi_ hrbd
 have HOB := hi_ hobd
 have HFB := hi_ hfbd
 have BB := hi_ bbd
 have HF2 := hi_ hF2
 have HW2 := hi_ hw2
 have HE1 := hi_ he1
 have HS2 := hi_ hs2
 have HONE2 := hi_ hone2
 have HSZA := hi_ hsza
 clear hwb hlbd hnewd hrb hob hlb hfb bb hrbd hobd hfbd bbd hszb hF2 hw2 he1 hs2 hr1 hl1 hf1 hF1 hr2 ho2 hl2 hf2 ho1 hg1 hone hone2 hone1 hra hga hla hfa ba hsza HW c2 hnew
 go_wp2_with (first | (rw [<- HW2.out]))
 go_region_law (first
  | (refine step_appV boolT rfl (.tmp 18) (.tmp 25) rfl 0 _ s.g.length (s.liveL.map Value.bool) rfl HLBD.out ⟨w2.heap.size, 0, none⟩ 1 1 [.bool (decide (gen < s.L))] rfl rfl HND.out HONE2.out (by omega) (by decide) (Nat.zero_le _) ?_; intro v3 w3 ho3 hg3 he3; obtain ⟨A5, c5, rfl⟩ := own_sl ho3; have hr3 := rec_kept HRB.out hg3 (own_not HLBD.out HRB.out (by decide)); have k3 : w3.cell? ⟨p, 3, none⟩ = some (.slice A3 s.g.length c3') := hr3.at_ 3; have f3 := hr3.fz 3))
 all_goals
  go_wp2
  go_end0
  have o3 := own_kept HOB.out hg3 (fun x hx e => by
   obtain ⟨C, hC⟩ := own_tagI HLBD.out hx
   exact own_not HOB.out hC (by decide) e)
  have g3 := own_kept HFB.out hg3 (fun x hx e => by
   obtain ⟨C, hC⟩ := own_tagI HLBD.out hx
   exact own_not HFB.out hC (by decide) e)
  have hF3 : Fr own w w3 := (HF2.out.trans (Fr.ofBelow own BB.out)).trans (Fr.grown hg3 (own := own) (fun x hx => H.out.owna x hx))
  have hF4 := hF3.trans (Fr.setCell (own := own) w3 (p := ⟨p, 3, none⟩) H.out.ownp (.slice A5 (s.g.length + 1) c5))
  have hs3 := hg3.size
  have hs4 : (w3.setCell ⟨p, 3, none⟩ (.slice A5 (s.g.length + 1) c5)).heap.size = w3.heap.size := by simp [World.setCell]
  have hs2 := HS2.out
  have hszb := HB.out
  have hsza := HSZA.out
  have a1 : ∀ x, (Value.slice A1 (s.g.length + 1) c1).ownBlock = some x -> (Value.slice A s.g.length c).ownBlock = some x \/ x = w.heap.size + 1 := fun x hx => by
   rcases HE1.out with e | e
   ·exact .inl (e ▸ hx)
   ·rw [hx] at e; injection e with e; exact .inr (by omega)
  have a5 : ∀ x, (Value.slice A5 (s.g.length + 1) c5).ownBlock = some x -> own x \/ x = w2.heap.size + 1 := fun x hx => by
   rcases he3 with e | e
   ·exact .inl (H.out.owna x (e ▸ hx))
   ·rw [hx] at e; injection e with e; exact .inr (by omega)
  refine ⟨rfl, hF4, fun x => own x \/ (w.heap.size <= x /\ x < w3.heap.size), fun x hx => hx.imp id And.left, fun x hx => ?_, .slice A1 (s.g.length + 1) c1, .slice A5 (s.g.length + 1) c5, .slice A4 s.fr.length c4', ?_⟩
  ·rw [hs4]
   rcases hx with hx | hx
   ·have := dom x hx; omega
   ·exact hx.2
  ·have hgl : (s.push gen).g.length = s.g.length + 1 := by simp [NS.push]
   exact {
    blk := hr3.set 3 _
    gens := by
     rw [hgl, show (s.push gen).g.map (Value.int .i64) = s.g.map (Value.int .i64) ++ [.int .i64 gen] by simp [NS.push]]
     exact own_set o3 (own_not o3 hr3 (by decide))
    ali := by
     rw [hgl, NS.liveL_push H.out.ok gen, List.map_append]
     exact own_set ho3 (own_not ho3 hr3 (by decide))
    free := own_set g3 (own_not g3 hr3 (by decide))
    apart := fun x hx e => by
     rcases a1 x hx with h1 | h1
     ·exact H.out.apart x h1 e
     ·have := dom x (H.out.ownf x e); omega
    ownp := .inl H.out.ownp
    owng := fun x hx => by
     rcases a1 x hx with h1 | h1
     ·exact .inl (H.out.owng x h1)
     ·have := (o3.lt x hx).2
      exact .inr ⟨by omega, by omega⟩
    owna := fun x hx => by
     rcases a5 x hx with h1 | h1
     ·exact .inl h1
     ·have := (ho3.lt x hx).2
      exact .inr ⟨by omega, by omega⟩
    ownf := fun x hx => .inl (H.out.ownf x hx)
    ok := NS.push_ok H.out.ok hlen hg }
set_option maxHeartbeats 1000000 in
theorem release_any (dom : ∀ x, own x -> x < w.heap.size) (j : Nat) (s' : NS) (hj : j < s.g.length) (hE : s'.E = s.E) (hL : s'.L = s.L) (hgl : s'.g.length = s.g.length) (hll : s'.liveL = s.liveL.set j false) (hfr : s'.fr = s.fr ++ [(j : Int)]) (ok : s'.Ok)
  (hb : w.heap[p]? = some (.cells #[.int .i64 s.E, .int .i64 s.L, gv, av, fv] 155 (0, 0))) (hgens : w.ownsRow 0 3 1 gv s'.g.length (s'.g.map (Value.int .i64))) (hali : w.ownsRow 0 4 1 av s.g.length (s.liveL.map Value.bool))
  (hfree : w.ownsRow 0 3 1 fv s.fr.length (s.fr.map (Value.int .i64))) (apart : ∀ x, gv.ownBlock = some x -> fv.ownBlock ≠ some x) (ownp : own p) (owng : ∀ x, gv.ownBlock = some x -> own x) (owna : ∀ x, av.ownBlock = some x -> own x) (ownf : ∀ x, fv.ownBlock = some x -> own x) (hfew : s.fr.length <= 1024) :
  Calls Tryz.prog 101 #[.pointer (some ⟨p, 0, none⟩), .int .i64 j] w fun e w' => e = .returned (.tuple #[]) /\ IGoes w own p s' w' := by
 obtain ⟨i0, hi0, hz0, hz1, hz2⟩ := info_parts intT.info
 obtain ⟨A, c, rfl⟩ := own_sl hgens
 obtain ⟨A3, c3', rfl, hc3, hm3, hr3⟩ := own_open hali
 obtain ⟨A4, c4', rfl⟩ := own_sl hfree
 obtain ⟨g3, rfl, hg3, hcell3, hfz3⟩ := hr3 (by omega)
 have hr : Rec 155 w p #[.int .i64 s.E, .int .i64 s.L, .slice A s'.g.length c, .slice (some ⟨g3, 0, none⟩) s.g.length c3', .slice A4 s.fr.length c4'] := hb
 have c3 : w.cell? ⟨p, 3, none⟩ = some (.slice (some ⟨g3, 0, none⟩) s.g.length c3') := hr.at_ 3
 have d3 := hcell3 j hj
 rw [List.getElem?_map, List.getElem?_eq_getElem (by rw [s.liveL_len]; exact hj)] at d3
 simp only [Option.map_some] at d3
 have e3 := hfz3 j
 have hone : ∀ u ∈ [Value.int .i64 j], u.oneCell' = true := fun u hu => by rw [List.mem_singleton.1 hu]; rfl
 obtain ⟨w1, hw1⟩ : ∃ w1, w1 = w.setCell ⟨g3, j, none⟩ (.bool false) := ⟨_, rfl⟩
 have hst := hali.stored j (.bool false)
 rw [<- hw1] at hst
 obtain ⟨hali1, hgr1⟩ := hst
 have hp3 : g3 ≠ p := fun e => own_not hali hr (by decide) (by rw [<- e]; rfl)
 have hr1 := rec_kept hr hgr1 (fun e => hp3 (by injection e))
 have hgens1 := own_kept hgens hgr1 (fun x hx e => by
  obtain ⟨C, hC⟩ := own_tagI hali (x := x) (by rw [<- hx]; rfl)
  exact own_not hgens hC (by decide) e)
 have hfree1 := own_kept hfree hgr1 (fun x hx e => by
  obtain ⟨C, hC⟩ := own_tagI hali (x := x) (by rw [<- hx]; rfl)
  exact own_not hfree hC (by decide) e)
 have hF1 : Fr own w w1 := Fr.grown hgr1 (fun x hx => owna x (by rw [<- hx]; rfl))
 have hs1 : w1.heap.size = w.heap.size := by rw [hw1]; simp [World.setCell]
 have hset : (s.liveL.map Value.bool).set j (.bool false) = s'.liveL.map Value.bool := by rw [hll, List.map_set]
 rw [hset] at hali1
 obtain ⟨wa, hwa⟩ : ∃ wa, wa = w1.alloc (.cells #[.int .i64 j] 3) := ⟨_, rfl⟩
 have ba : Below w1.heap.size w1 wa := by rw [hwa]; exact (Below.refl _ _).alloc (Nat.le_refl _) _
 have hsza : wa.heap.size = w1.heap.size + 1 := by rw [hwa]; simp
 have hra := hr1.under ba
 have hga := own_keep hgens1 ba
 have hla := own_keep hali1 ba
 have hfa := own_keep hfree1 ba
 have hone1 : ∀ k u, [Value.int .i64 j][k]? = some u -> wa.cell? ((⟨w1.heap.size, 0, none⟩ : Addr).add k) = some u := by rw [hwa]; exact cell_one_new _ _ _
 have k4 : w1.cell? ⟨p, 4, none⟩ = some (.slice A4 s.fr.length c4') := hr1.at_ 4
 have HW := hi_ hwa
 have HW1 := hi_ hw1
 have HF1 := hi_ hF1
 have BA := hi_ ba
 have HLL := hi_ hll
 have HGA := hi_ hga
 have HLA := hi_ hla
 have HRA := hi_ hra
 have HS1 := hi_ hs1
 have HSZA := hi_ hsza
 have OK := hi_ ok
 have HFR := hi_ hfr
 have HE := hi_ hE
 have HL := hi_ hL
 clear hwa hw1 hF1 ba hll hga hla hra hs1 hsza ok hfr hE hL hset hali hgens hfree hb hr hr1 hgr1 hali1 hgens1 hfree1 hcell3 hfz3 hr3
 go_enter Tryz.func101, Tryz.ntmps101
 go_wp2_with (first
  | (rw [<- HW1.out])
  | (rw [<- HW.out])
  | (at_builtin; refine wpList_append_own_at _ rfl (.tmp 14) (.tmp 16) 38 rfl 0 3 i0 (.int .i64 0) 1 8 Tryz.underlying38 hi0 hz0 hz1 hz2 rfl (by decide) (.slice A4 s.fr.length c4') s.fr.length (s.fr.map (Value.int .i64)) rfl hfa ⟨w1.heap.size, 0, none⟩ 1 1 [.int .i64 j] rfl rfl hone1 hone (by unfold maxLen; omega) (by omega) (Nat.zero_le _) ?_))
 intro v2 w2 ho2 hg2 _ he2
 obtain ⟨A2, c2, rfl⟩ := own_sl ho2
 have hr2 := rec_kept HRA.out hg2 (own_not hfa HRA.out (by decide))
 have q4 : w2.cell? ⟨p, 4, none⟩ = some (.slice A4 s.fr.length c4') := hr2.at_ 4
 have f4 := hr2.fz 4
 go_wp2
 go_end0
 have o2 := own_kept HGA.out hg2 (fun x hx e => apart x e hx)
 have l2 := own_kept HLA.out hg2 (fun x hx e => by
  obtain ⟨C, hC⟩ := own_tagI hfa hx
  exact own_not HLA.out hC (by decide) e)
 have hF2 : Fr own w w2 := (HF1.out.trans (Fr.ofBelow own BA.out)).trans (Fr.grown hg2 (own := own) (fun x hx => ownf x hx))
 have hF3 := hF2.trans (Fr.setCell (own := own) w2 (p := ⟨p, 4, none⟩) ownp (.slice A2 (s.fr.length + 1) c2))
 have hs3 : (w2.setCell ⟨p, 4, none⟩ (.slice A2 (s.fr.length + 1) c2)).heap.size = w2.heap.size := by simp [World.setCell]
 have hs2 := hg2.size
 have hs1 := HS1.out
 have hsza := HSZA.out
 have a2 : ∀ x, (Value.slice A2 (s.fr.length + 1) c2).ownBlock = some x -> (Value.slice A4 s.fr.length c4').ownBlock = some x \/ x = w.heap.size + 1 := fun x hx => by
  rcases he2 with e | e
  ·exact .inl (e ▸ hx)
  ·rw [hx] at e; injection e with e; exact .inr (by omega)
 refine ⟨rfl, hF3, fun x => own x \/ (w.heap.size <= x /\ x < w2.heap.size), fun x hx => hx.imp id And.left, fun x hx => ?_, .slice A s'.g.length c, .slice (some ⟨g3, 0, none⟩) s.g.length c3', .slice A2 (s.fr.length + 1) c2, ?_⟩
 ·rw [hs3]
  rcases hx with hx | hx
  ·have := dom x hx; omega
  ·exact hx.2
 ·have hfl : s'.fr.length = s.fr.length + 1 := by rw [HFR.out]; simp
  exact {
   blk := by rw [HE.out, HL.out]; exact hr2.set 4 _
   gens := own_set o2 (own_not o2 hr2 (by decide))
   ali := by
    rw [hgl]
    exact own_set l2 (own_not l2 hr2 (by decide))
   free := by
    rw [hfl, HFR.out, List.map_append]
    exact own_set ho2 (own_not ho2 hr2 (by decide))
   apart := fun x hx e => by
    rcases a2 x e with h1 | h1
    ·exact apart x hx h1
    ·have := dom x (owng x hx); omega
   ownp := .inl ownp
   owng := fun x hx => .inl (owng x hx)
   owna := fun x hx => .inl (owna x (by rw [<- hx]))
   ownf := fun x hx => by
    rcases a2 x hx with h1 | h1
    ·exact .inl (ownf x h1)
    ·have := (ho2.lt x hx).2
     exact .inr ⟨by omega, by omega⟩
   ok := OK.out }
end
end Go.Proofs.YtaoinkjjmakhaaaGreatDoor
namespace Go.Proofs.YtaoinkjjmakhaaaGreatDoor
set_option maxRecDepth 20000
open Go.RowKit
section
variable {w w1 w2 w3 : World} {own : Nat -> Prop} {p : Nat} {gv av fv : Value} {s : NS}
theorem IGoes.of (dom : ∀ x, own x -> x < w.heap.size) (hf : Fr own w w1) (h : IAt w1 own p gv av fv s) : IGoes w own p s w1 :=
 ⟨hf, own, fun _ hx => .inl hx, fun x hx => Nat.lt_of_lt_of_le (dom x hx) hf.size, gv, av, fv, h⟩
theorem IGoes.still (dom : ∀ x, own x -> x < w.heap.size) (h : IAt w own p gv av fv s) (hb : Below w.heap.size w w1) : IGoes w own p s w1 := IGoes.of dom (Fr.ofBelow own hb) (h.below hb)
theorem IGoes.pre (hb : Below w.heap.size w w1) (h : IGoes w1 own p s w2) : IGoes w own p s w2 := by
 obtain ⟨hf, own', ho, hd⟩ := h
 exact ⟨(Fr.ofBelow own hb).trans hf, own', fun x hx => (ho x hx).imp id (fun h => Nat.le_trans hb.size h), hd⟩
theorem IGoes.below (h : IGoes w own p s w1) (hb : Below w1.heap.size w1 w2) : IGoes w own p s w2 := by
 obtain ⟨hf, own', ho, hd, gv, av, fv, I⟩ := h
 exact ⟨hf.trans (Fr.ofBelow own hb), own', ho, fun x hx => Nat.lt_of_lt_of_le (hd x hx) hb.size, gv, av, fv, I.below hb⟩
theorem IGoes.res (dom : ∀ x, own x -> x < w.heap.size) (hb : Below w.heap.size w w1) {g : Nat} (hg0 : w.heap.size <= g) (hg : g < w1.heap.size) (h : IGoes w1 own p s w2) (hF : Fr (· = g) w2 w3) : IGoes w own p s w3 := by
 obtain ⟨hf, own', ho, hd, gv, av, fv, I⟩ := h
 refine ⟨((Fr.ofBelow own hb).trans hf).trans' hF (fun x hx => .inr (by rw [show x = g from hx]; exact hg0)), own', fun x hx => (ho x hx).imp id (fun h => Nat.le_trans hb.size h), fun x hx => Nat.lt_of_lt_of_le (hd x hx) hF.size, gv, av, fv, I.kept hF (fun x hx e => ?_)⟩
 have e' : x = g := e
 rcases ho x hx with h | h
 ·have := dom x h; omega
 ·omega
theorem IGoes.rec_ {T g : Nat} {cs : Array Value} (dom : ∀ x, own x -> x < w.heap.size) (hR : Rec T w1 g cs) (hg0 : w.heap.size <= g) (h : IGoes w1 own p s w2) : Rec T w2 g cs := hR.fr h.1 (fun hx => by have := dom g hx; omega)
theorem below_drewNi (w : World) (n : Nat) : Below w.heap.size w (w.drewN n) := ⟨rfl, rfl, rfl, Nat.le_refl _, fun _ _ => rfl⟩
theorem Take_full (dom : ∀ x, own x -> x < w.heap.size) (h : IAt w own p gv av fv s) (hf : s.fr = []) (he : s.g.length = s.E) :
  Calls Tryz.prog 57 #[.pointer (some ⟨p, 0, none⟩)] w fun e w' => e = .returned (.tuple #[idv (0, 0), .int .i64 9]) /\ IGoes w own p s w' := by
 obtain ⟨A, c, rfl⟩ := own_sl h.gens
 obtain ⟨A4, c4', rfl⟩ := own_sl h.free
 obtain ⟨w1, hw1⟩ : ∃ w1, w1 = w.alloc (.cells #[.int .i64 0, .int .i64 0] 32) := ⟨_, rfl⟩
 have hb : Below w.heap.size w w1 := by rw [hw1]; exact (Below.refl _ _).alloc (Nat.le_refl _) _
 have hR1 : Rec 32 w1 w.heap.size #[.int .i64 0, .int .i64 0] := by rw [hw1]; exact Rec.new _ _ _
 have hfl : s.fr.length = 0 := by rw [hf]; rfl
 have h1 := h.below hb
 have c0 := h1.c0
 have c2 := h1.c2
 have c4 := h1.c4
 have hE := h.ok.E2
 rw [hfl] at c4
 rw [he] at c2
 have HRN : ∀ n, Rec 32 (w1.drewN n) w.heap.size #[.int .i64 0, .int .i64 0] := fun n => hR1.under (below_drewNi _ _)
 have HG : ∀ n, IGoes w own p s (w1.drewN n) := fun n => (IGoes.still dom h hb).below (below_drewNi _ _)
 have HRN := hi_ HRN
 have HG := hi_ HG
 have HB := hi_ hb
 have HR := hi_ hR1
 have HI := hi_ h1
 clear h h1 hb hf hfl he hR1
 go_enter Tryz.func57, Tryz.ntmps57
 go_wp2_with (first | (rw [<- hw1]; clear hw1))
 go_quiet (fail)
 go_wp2_with (with_reducible refine wpList_stP (x1 := 0) (y1 := 0) rfl (.tmp 2) (.tmp 52) rfl rfl rfl (HRN.out _) ?_; intro w5 hR5 hF5)
 refine bodyPost_ret (res_ct rfl rfl (hR5.load idT rfl)) rfl ?_
 refine ⟨rfl, IGoes.res dom HB.out (Nat.le_refl _) HR.out.lt (IGoes.still (fun x hx => Nat.lt_of_lt_of_le (dom x hx) HB.out.size) HI.out (below_drewNi _ _)) hF5⟩
theorem Take_next (dom : ∀ x, own x -> x < w.heap.size) (h : IAt w own p gv av fv s) (hf : s.fr = []) (he : s.g.length ≠ s.E) :
  Calls Tryz.prog 57 #[.pointer (some ⟨p, 0, none⟩)] w fun e w' => e = .returned (.tuple #[idv ((s.g.length : Int), 0), .int .i64 0]) /\ IGoes w own p (s.push 0) w' := by
 obtain ⟨A, c, rfl⟩ := own_sl h.gens
 obtain ⟨A4, c4', rfl⟩ := own_sl h.free
 obtain ⟨w1, hw1⟩ : ∃ w1, w1 = w.alloc (.cells #[.int .i64 0, .int .i64 0] 32) := ⟨_, rfl⟩
 have hb : Below w.heap.size w w1 := by rw [hw1]; exact (Below.refl _ _).alloc (Nat.le_refl _) _
 have hR1 : Rec 32 w1 w.heap.size #[.int .i64 0, .int .i64 0] := by rw [hw1]; exact Rec.new _ _ _
 have hfl : s.fr.length = 0 := by rw [hf]; rfl
 have h1 := h.below hb
 have c0 := h1.c0
 have c2 := h1.c2
 have c4 := h1.c4
 have hE := h.ok.E2
 have hl := h.ok.len
 have hne : ¬ ((s.g.length : Int) = s.E) := by omega
 rw [hfl] at c4
 have CU : ∀ n, Calls Tryz.prog 99 #[.pointer (some ⟨p, 0, none⟩), .int .i64 0] (w1.drewN n) fun e w' => e = .returned (.tuple #[]) /\ IGoes (w1.drewN n) own p (s.push 0) w' := fun n =>
  use_any (w := w1.drewN n) (fun x hx => Nat.lt_of_lt_of_le (dom x hx) hb.size) (h1.below (below_drewNi _ _)) 0 (by omega) ⟨Int.le_refl _, by have := h.ok.L1; omega⟩
 have CU := hi_ CU
 have hgl : (s.push 0).g.length = s.g.length + 1 := by simp [NS.push]
 have hg0 : (s.push 0).g.getD s.g.length 0 = 0 := by simp [NS.push, List.getD_eq_getElem?_getD]
 obtain ⟨n, hn⟩ : ∃ n, n = s.g.length := ⟨_, rfl⟩
 rw [<- hn] at hne hgl hg0 c2 hl ⊢
 have HB := hi_ hb
 have HR := hi_ hR1
 have HN := hi_ hn
 have HG0 := hi_ hg0
 have HGL := hi_ hgl
 clear h h1 hb hf hfl he hn hR1 hg0 hgl
 go_enter Tryz.func57, Tryz.ntmps57
 go_wp2_with (first | (rw [<- hw1]; clear hw1))
 go_quiet (fail)
 go_wp2_with fail
 refine (CU.out _).mono ?_
 rintro e w2 ⟨rfl, hG⟩
 replace hG := IGoes.pre (below_drewNi _ _) hG
 have hR2 := IGoes.rec_ (w := w) dom HR.out (Nat.le_refl _) hG
 have hG' := hG
 obtain ⟨_, own', _, _, gv', av', fv', I2⟩ := hG'
 obtain ⟨A2, c2', rfl⟩ := own_sl I2.gens
 have k2 := I2.c2
 rw [HGL.out] at k2
 have CI := id_any I2 n (by rw [HGL.out]; omega)
 rw [HG0.out] at CI
 have CI := hi_ CI
 have HG := hi_ hG
 have HR2 := hi_ hR2
 clear hG hR2 I2 c0 c2 c4
 go_wp2_with (first
  | (go_at_call 111; refine CI.out.mono ?_; rintro e w3 ⟨rfl, hB3⟩; have HR3 := hi_ (HR2.out.under hB3); have HG3 := hi_ (HG.out.below hB3); clear hB3)
  | (with_reducible refine wpList_stP (x1 := n) (y1 := 0) rfl (.tmp 2) (.tmp 62) rfl rfl rfl HR3.out ?_; intro w5 hR5 hF5))
 refine bodyPost_ret (res_ct rfl rfl (hR5.load idT rfl)) rfl ?_
 exact ⟨rfl, IGoes.res dom HB.out (Nat.le_refl _) HR.out.lt HG3.out hF5⟩
theorem Take_free (dom : ∀ x, own x -> x < w.heap.size) (h : IAt w own p gv av fv s) (hf : s.fr ≠ []) :
  Calls Tryz.prog 57 #[.pointer (some ⟨p, 0, none⟩)] w fun e w' => e = .returned (.tuple #[idv (s.fr.getLastD 0, s.g.getD (s.fr.getLastD 0).toNat 0), .int .i64 0]) /\ IGoes w own p s.take.1 w' := by
 have htk := NS.take_free hf
 have hll := NS.liveL_free h.ok hf
 have hok := NS.take_ok h.ok
 obtain ⟨q0, q1, q2, q3⟩ := h.ok.fz _ (NS.last_mem hf)
 have hsp := NS.fr_last hf
 obtain ⟨m, hm⟩ : ∃ m, m = s.fr.dropLast.length := ⟨_, rfl⟩
 have hlen : s.fr.length = m + 1 := by rw [hsp, hm]; simp
 obtain ⟨j, hj⟩ : ∃ j : Nat, s.fr.getLastD 0 = (j : Int) := ⟨(s.fr.getLastD 0).toNat, by omega⟩
 rw [hj] at htk hll q1 hsp ⊢
 rw [Int.toNat_natCast] at hll htk ⊢
 have hjl : j < s.g.length := by omega
 have hm1 : m <= 1024 := by have := h.ok.few; omega
 obtain ⟨A, c, rfl⟩ := own_sl h.gens
 obtain ⟨A3, c3', rfl, _, _, hr3⟩ := own_open h.ali
 obtain ⟨g3, rfl, hg3, hcell3, hfz3⟩ := hr3 (by omega)
 obtain ⟨A4, c4', rfl, hc4, _, hr4⟩ := own_open h.free
 obtain ⟨g4, rfl, hg4, hcell4, hfz4⟩ := hr4 (by omega)
 obtain ⟨w1, hw1⟩ : ∃ w1, w1 = w.alloc (.cells #[.int .i64 0, .int .i64 0] 32) := ⟨_, rfl⟩
 have hb : Below w.heap.size w w1 := by rw [hw1]; exact (Below.refl _ _).alloc (Nat.le_refl _) _
 have hR1 : Rec 32 w1 w.heap.size #[.int .i64 0, .int .i64 0] := by rw [hw1]; exact Rec.new _ _ _
 have h1 := h.below hb
 have c4 := h1.c4
 have z4 := h1.fz 4
 rw [hlen] at c4 hc4 hcell4
 have d4 := (hb.cell (p := ⟨g4, m, none⟩) hg4).trans (hcell4 m (by omega))
 have e4 : (s.fr.map (Value.int .i64))[m]? = some (.int .i64 j) := by
  rw [hsp, List.map_append, List.getElem?_append_right (by simp [hm])]
  simp [hm]
 rw [e4] at d4
 -- the free row shorter by one
 obtain ⟨w2, hw2⟩ : ∃ w2, w2 = w1.setCell ⟨p, 4, none⟩ (.slice (some ⟨g4, 0, none⟩) m c4') := ⟨_, rfl⟩
 have hp2 : Fr own w w2 := (Fr.ofBelow own hb).trans (by rw [hw2]; exact Fr.setCell w1 (p := ⟨p, 4, none⟩) h.ownp _)
 have hr2 : Rec 155 w2 p #[.int .i64 s.E, .int .i64 s.L, .slice A s.g.length c, .slice (some ⟨g3, 0, none⟩) s.g.length c3', .slice (some ⟨g4, 0, none⟩) m c4'] := by rw [hw2]; exact h1.mem.set 4 _
 have o2 := own_set (i := 4) (u := .slice (some ⟨g4, 0, none⟩) m c4') h1.gens (own_not h1.gens h1.mem (by decide))
 have l2 := own_set (i := 4) (u := .slice (some ⟨g4, 0, none⟩) m c4') h1.ali (own_not h1.ali h1.mem (by decide))
 have f2 := own_set (i := 4) (u := .slice (some ⟨g4, 0, none⟩) m c4') h1.free (own_not h1.free h1.mem (by decide))
 rw [<- hw2] at o2 l2 f2
 have f2' : w2.ownsRow 0 3 1 (.slice (some ⟨g4, 0, none⟩) m c4') m (s.fr.dropLast.map (Value.int .i64)) := by
  rw [hlen] at f2
  rw [hsp, List.map_append] at f2
  exact ownsRow_pop (by simp [hm]) f2
 have k3 : w2.cell? ⟨p, 3, none⟩ = some (.slice (some ⟨g3, 0, none⟩) s.g.length c3') := hr2.at_ 3
 have d3 := l2.cellAt j (by omega)
 rw [List.getElem?_map, List.getElem?_eq_getElem (by rw [s.liveL_len]; exact hjl)] at d3
 simp only [Option.map_some] at d3
 have z3 := l2.frozenAt j
 -- and the index alive
 obtain ⟨w3, hw3⟩ : ∃ w3, w3 = w2.setCell ⟨g3, j, none⟩ (.bool true) := ⟨_, rfl⟩
 have hst := l2.stored j (.bool true)
 rw [<- hw3] at hst
 obtain ⟨l3, hgr3⟩ := hst
 have hset : (s.liveL.map Value.bool).set j (.bool true) = s.take.1.liveL.map Value.bool := by rw [hll, List.map_set]
 rw [hset] at l3
 have hp3 : g3 ≠ p := fun e => own_not l2 hr2 (by decide) (by rw [<- e]; rfl)
 have hr3' := rec_kept hr2 hgr3 (fun e => hp3 (by injection e))
 have o3 := own_kept o2 hgr3 (fun x hx e => by
  obtain ⟨C, hC⟩ := own_tagI l2 (x := x) (by rw [<- hx]; rfl)
  exact own_not o2 hC (by decide) e)
 have f3 := own_kept f2' hgr3 (fun x hx e => by
  obtain ⟨C, hC⟩ := own_tagI l2 (x := x) (by rw [<- hx]; rfl)
  exact own_not f2' hC (by decide) e)
 have hF3 : Fr own w1 w3 := (show Fr own w1 w2 by rw [hw2]; exact Fr.setCell w1 (p := ⟨p, 4, none⟩) h.ownp _).trans (Fr.grown hgr3 (fun x hx => h.owna x (by rw [<- hx]; rfl)))
 have I3 : IAt w3 own p (.slice A s.g.length c) (.slice (some ⟨g3, 0, none⟩) s.g.length c3') (.slice (some ⟨g4, 0, none⟩) m c4') s.take.1 := {
  blk := by rw [htk]; exact hr3'
  gens := by rw [htk]; exact o3
  ali := by rw [show s.take.1.g.length = s.g.length by rw [htk]]; exact l3
  free := by rw [show s.take.1.fr = s.fr.dropLast by rw [htk], <- hm]; exact f3
  apart := fun x hx e => h.apart x hx (by rw [<- e]; rfl)
  ownp := h.ownp
  owng := h.owng
  owna := h.owna
  ownf := fun x hx => h.ownf x (by rw [<- hx]; rfl)
  ok := hok }
 have dom1 : ∀ x, own x -> x < w1.heap.size := fun x hx => Nat.lt_of_lt_of_le (dom x hx) hb.size
 have hG3 : IGoes w1 own p s.take.1 w3 := IGoes.of dom1 hF3 I3
 have CI := id_any I3 j (by rw [show s.take.1.g.length = s.g.length by rw [htk]]; exact hjl)
 rw [show s.take.1.g = s.g by rw [htk]] at CI
 obtain ⟨z, hz⟩ : ∃ z, z = s.g.getD j 0 := ⟨_, rfl⟩
 rw [<- hz] at CI ⊢
 clear hz
 have hR3 := IGoes.rec_ (w := w) dom hR1 (Nat.le_refl _) hG3
 have CJ := hi_ CI
 clear CI
 have HG3 := hi_ hG3
 have HR3 := hi_ hR3
 have HB := hi_ hb
 have HR := hi_ hR1
 have HW1 := hi_ hw1
 have HW2 := hi_ hw2
 have HW3 := hi_ hw3
 have hc4' : m + 1 <= c4' := hc4
 clear h h1 hb hR1 hw1 hw2 hw3 hp2 hr2 o2 l2 f2 f2' hset hgr3 hr3' o3 f3 hF3 I3 hG3 hR3 l3 hll hok htk hsp hm hlen hj e4 hcell3 hcell4 hfz3 hfz4 hr3 hr4 q0 q1 q2 q3 hp3 dom1 hf
 go_enter Tryz.func57, Tryz.ntmps57
 go_wp2_with (first
  | (rw [<- HW1.out])
  | (rw [<- HW2.out])
  | (rw [<- HW3.out])
  | (go_at_call 111; refine CJ.out.mono ?_; rintro e w4 ⟨rfl, hB4⟩; have HR4 := hi_ (HR3.out.under hB4); have HG4 := hi_ (HG3.out.below hB4); clear hB4)
  | (with_reducible refine wpList_stP (x1 := j) (y1 := z) rfl (.tmp 2) (.tmp 41) rfl rfl rfl HR4.out ?_; intro w5 hR5 hF5))
 refine bodyPost_ret (res_ct rfl rfl (hR5.load idT rfl)) rfl ?_
 exact ⟨rfl, IGoes.res dom HB.out (Nat.le_refl _) HR.out.lt HG4.out hF5⟩
theorem Take_any (dom : ∀ x, own x -> x < w.heap.size) (h : IAt w own p gv av fv s) :
  Calls Tryz.prog 57 #[.pointer (some ⟨p, 0, none⟩)] w fun e w' => e = .returned (.tuple #[idv s.take.2.1, .int .i64 s.take.2.2]) /\ IGoes w own p s.take.1 w' := by
 by_cases hf : s.fr = []
 ·by_cases he : s.g.length = s.E
  ·rw [NS.take_full hf he]; exact Take_full dom h hf he
  ·rw [NS.take_push hf he]; exact Take_next dom h hf he
 ·have := Take_free dom h hf
  rw [NS.take_free hf] at this ⊢
  exact this
end
end Go.Proofs.YtaoinkjjmakhaaaGreatDoor
namespace Go.Proofs.YtaoinkjjmakhaaaGreatDoor
set_option maxRecDepth 20000
open Go.RowKit
section
variable {w : World} {own : Nat -> Prop} {p : Nat} {gv av fv : Value} {s : NS}
end
end Go.Proofs.YtaoinkjjmakhaaaGreatDoor
namespace Go.Proofs.YtaoinkjjmakhaaaGreatDoor
set_option maxRecDepth 20000
open Go.RowKit
section
variable {w : World} {own : Nat -> Prop} {p : Nat} {gv av fv : Value} {s : NS}
end
end Go.Proofs.YtaoinkjjmakhaaaGreatDoor
namespace Go.Proofs.YtaoinkjjmakhaaaGreatDoor
open Go.RowKit Go.Maps
structure Kf (P : Program) (k : TypeId) {ι : Type} (val : ι -> Value) (lit : ι -> Lit) (ok : ι -> Prop) : Prop where
 law : Keyed P k
 key : ∀ {i}, ok i -> keyOf P k (val i) = some (lit i)
 inj : ∀ {i j}, ok i -> ok j -> lit i = lit j -> i = j
def MapF (P : Program) (k : TypeId) {ι : Type} (lit : ι -> Lit) (ok : ι -> Prop) (z : Value) (w : World) (m n : Nat) (f : ι -> Option Value) : Prop :=
 ∃ D : DataW Value, w.ownsMap P k itself m n D /\ (∀ i, ok i -> D.atKey (lit i) (.held z) = .held ((f i).getD z)) /\ (∀ i, ok i -> Maps.has D (lit i) = (f i).isSome)
section
variable {P : Program} {k e T : TypeId} {ι : Type} {val : ι -> Value} {lit : ι -> Lit} {ok : ι -> Prop} {z : Value} {w w' : World} {m n : Nat} {f : ι -> Option Value}
theorem MapF.made (P : Program) (k : TypeId) (lit : ι -> Lit) (ok : ι -> Prop) (z : Value) (w : World) : MapF P k lit ok z (w.alloc (.map #[] 0)) w.heap.size 0 (fun _ => none) :=
 ⟨.map [], World.ownsMap_made w P k itself, fun _ _ => rfl, fun _ _ => rfl⟩
theorem MapF.lt (h : MapF P k lit ok z w m n f) : m < w.heap.size := by obtain ⟨D, ho, _⟩ := h; exact ho.lt
theorem MapF.block (h : MapF P k lit ok z w m n f) (hb : w'.heap[m]? = w.heap[m]?) : MapF P k lit ok z w' m n f := by
 obtain ⟨D, ⟨es, clock, hm, r⟩, h2⟩ := h
 exact ⟨D, ⟨es, clock, hb.trans hm, r⟩, h2⟩
theorem MapF.map_at (h : MapF P k lit ok z w m n f) : ∃ es clock, w.heap[m]? = some (.map es clock) := by
 obtain ⟨D, ⟨es, clock, hm, r⟩, h2⟩ := h
 exact ⟨es, clock, hm⟩
theorem MapF.fr {own : Nat -> Prop} (h : MapF P k lit ok z w m n f) (hf : Fr own w w') (hn : ¬ own m) : MapF P k lit ok z w' m n f := h.block (hf.block m h.lt hn)
theorem MapF.below (h : MapF P k lit ok z w m n f) (hb : Below w.heap.size w w') : MapF P k lit ok z w' m n f := h.block (hb.block m h.lt)
theorem MapF.congr {f' : ι -> Option Value} (h : MapF P k lit ok z w m n f) (hf : ∀ i, ok i -> f i = f' i) : MapF P k lit ok z w m n f' := by
 obtain ⟨D, ho, h1, h2⟩ := h
 exact ⟨D, ho, fun i hi => by rw [h1 i hi, hf i hi], fun i hi => by rw [h2 i hi, hf i hi]⟩
theorem MapF.mono {n' : Nat} (h : MapF P k lit ok z w m n f) (hn : n <= n') : MapF P k lit ok z w m n' f := by
 obtain ⟨D, ho, h2⟩ := h
 exact ⟨D, ho.mono hn, h2⟩
theorem MapF.look_ok (K : Kf P k val lit ok) (h : MapF P k lit ok z w m n f) (hT : P.underlying T = some (.map k e)) (hz : (zeroValue e).run P w = .ok z w) {i : ι} (hi : ok i) :
  (Instr.lookup T (.map (some m)) (val i) true).run P w = .ok (.tuple #[(f i).getD z, .bool (f i).isSome]) w := by
 obtain ⟨D, ho, hat, hh⟩ := h
 obtain ⟨v, ps, hrun, hv⟩ := ho.look_ok K.law hT hz (zd := .held z) (zp := []) rfl (K.key hi)
 rw [hat i hi] at hv
 simp only [itself, Option.some.injEq, Prod.mk.injEq, DataW.held.injEq] at hv
 rw [hrun, hv.1, hh i hi]
theorem look_none (K : Kf P k val lit ok) (hT : P.underlying T = some (.map k e)) (hz : (zeroValue e).run P w = .ok z w) {i : ι} (hi : ok i) :
  (Instr.lookup T (.map none) (val i) true).run P w = .ok (.tuple #[z, .bool false]) w := Maps.look_nil true K.law hT hz (K.key hi)
theorem MapF.put [DecidableEq ι] (K : Kf P k val lit ok) (h : MapF P k lit ok z w m n f) (hT : P.underlying T = some (.map k e)) (hn : n < maxLen) {i : ι} (hi : ok i) (v : Value) :
  ∃ w', (Instr.mapUpdate T (.map (some m)) (val i) v).run P w = .ok () w' /\ MapF P k lit ok z w' m (n + 1) (fun j => if j = i then some v else f j) /\ w.grownBy w' (some m) := by
 obtain ⟨D, ho, hat, hh⟩ := h
 obtain ⟨w', hrun, ho', hg⟩ := ho.update K.law hT hn (val := v) (d := .held v) (ps := []) (K.key hi) rfl
 have hkl := K.law.key (K.key hi)
 refine ⟨w', hrun, ⟨_, ho', fun j hj => ?_, fun j hj => ?_⟩, hg⟩
 ·by_cases e : j = i
  ·subst e
   simp only [if_true]
   exact Maps.atKey_put_same ho.isMap hkl _ _
  ·simp only [if_neg e]
   rw [Maps.atKey_put_other (fun h => e (K.inj hj hi h)), hat j hj]
 ·by_cases e : j = i
  ·subst e
   simp only [if_true]
   exact Maps.has_put_same ho.isMap hkl _
  ·simp only [if_neg e]
   rw [Maps.has_put_other (fun h => e (K.inj hj hi h)), hh j hj]
end
section
variable {P : Program} {ops : Array Oper} {o : Oper} {a : Act} {w : World} {K : Act -> World -> Prop} {Q : Exit -> Act -> World -> Prop} {E : Prop} {z : Value} {m n : Nat}
variable {ι : Type} {val : ι -> Value} {lit : ι -> Lit} {ok : ι -> Prop} {f : ι -> Option Value}
theorem wpList_putF [DecidableEq ι] {k e T : TypeId} {rest : List Oper} (KF : Kf P k val lit ok) (hT : P.underlying T = some (.map k e)) (hgd : Region.wanted o (yielded ops a.tmps) = true) (mo x y : Operand) (ho : o.op = Op.mapUpdate T mo x y)
  (h : MapF P k lit ok z w m n f) (hn : n < 1000000000) (i : ι) (hi : ok i) (v : Value) (hm : a.eval mo = .map (some m)) (hx : a.eval x = val i) (hv : a.eval y = v)
  (hK : ∀ w', MapF P k lit ok z w' m (n + 1) (fun j => if j = i then some v else f j) -> w.grownBy w' (some m) -> wpList P ops Q rest (a.put o.dst undef) w') : wpList P ops Q (o :: rest) a w :=
 wpList_w hgd fun _ hK' => by
  obtain ⟨w', hrun, r1, r2⟩ := h.put KF hT (by unfold maxLen; omega) hi v
  unfold Oper.wp
  simp [execOp, ho, hm, hx, hv, hrun, Result.andThen]
  exact hK' _ _ (hK w' r1 r2)
end
def litU (s : Nat) : Lit := .int .u64 s
def okU (s : Nat) : Prop := s < 18446744073709551616
theorem kfU {P : Program} {k : TypeId} (hk : P.underlying k = some (.int .u64)) : Kf P k (fun s : Nat => .int .u64 (s : Int)) litU okU where
 law := int_keyed hk
 key h := keyOf_int_mk hk (WalkArith.wf_u64 (by unfold okU at h; omega))
 inj _ _ e := by unfold litU at e; injection e with _ e; omega
end Go.Proofs.YtaoinkjjmakhaaaGreatDoor
namespace Go.Proofs.YtaoinkjjmakhaaaGreatDoor
def ixS : List Nat -> Nat -> Option Nat
 | [], _ => none
 | t :: S, s => if t = s then some 0 else (ixS S s).map (· + 1)
theorem ixS_lt : ∀ {S : List Nat} {s i : Nat}, ixS S s = some i -> i < S.length /\ S[i]? = some s
 | [], _, _, h => by cases h
 | t :: S, s, i, h => by
  unfold ixS at h
  by_cases e : t = s
  ·rw [if_pos e] at h
   injection h with h
   subst h
   simp [e]
  ·rw [if_neg e] at h
   cases hx : ixS S s with
   | none => rw [hx] at h; cases h
   | some j =>
    rw [hx] at h
    injection h with h
    subst h
    have := ixS_lt hx
    simpa using this
theorem ixS_none : ∀ {S : List Nat} {s : Nat}, ixS S s = none -> s ∉ S
 | [], _, _ => List.not_mem_nil
 | t :: S, s, h => by
  unfold ixS at h
  by_cases e : t = s
  ·rw [if_pos e] at h; cases h
  ·rw [if_neg e] at h
   have := ixS_none (S := S) (s := s) (by cases hx : ixS S s with | none => rfl | some j => rw [hx] at h; cases h)
   simp [this, Ne.symm e]
theorem ixS_first : ∀ {S : List Nat} {s i : Nat}, ixS S s = some i -> ∀ j, j < i -> S[j]? ≠ some s
 | [], _, _, h => by cases h
 | t :: S, s, i, h => by
  unfold ixS at h
  by_cases e : t = s
  ·rw [if_pos e] at h
   injection h with h
   subst h
   intro j hj
   omega
  ·rw [if_neg e] at h
   cases hx : ixS S s with
   | none => rw [hx] at h; cases h
   | some k =>
    rw [hx] at h
    have h : k + 1 = i := by simpa using h
    subst h
    intro j hj
    cases j with
    | zero => simpa using e
    | succ j => simpa using ixS_first hx j (by omega)
theorem ixS_of_first {S : List Nat} {s i : Nat} (hi : S[i]? = some s) (hf : ∀ j, j < i -> S[j]? ≠ some s) : ixS S s = some i := by
 cases h : ixS S s with
 | none => exact absurd (List.mem_of_getElem? hi) (ixS_none h)
 | some j =>
  have h1 := ixS_lt h
  have h2 := ixS_first h
  by_cases e : j = i
  ·rw [e]
  ·rcases Nat.lt_or_gt_of_ne e with h3 | h3
   ·exact absurd h1.2 (hf j h3)
   ·exact absurd hi (h2 i h3)
theorem ixS_of_at {S : List Nat} (nd : S.Nodup) {s i : Nat} (hi : S[i]? = some s) : ixS S s = some i := by
 refine ixS_of_first hi (fun j hj e => ?_)
 obtain ⟨h1, h2⟩ := List.getElem?_eq_some_iff.1 hi
 obtain ⟨h3, h4⟩ := List.getElem?_eq_some_iff.1 e
 exact List.pairwise_iff_getElem.1 nd j i h3 h1 hj (h4.trans h2.symm)
theorem ixS_of_not {S : List Nat} {s : Nat} (h : s ∉ S) : ixS S s = none := by
 cases hx : ixS S s with
 | none => rfl
 | some j => exact absurd (List.mem_of_getElem? (ixS_lt hx).2) h
theorem ixS_snoc {S : List Nat} {t : Nat} (h : ixS S t = none) (s : Nat) : ixS (S ++ [t]) s = if s = t then some S.length else ixS S s := by
 by_cases e : s = t
 ·subst e
  rw [if_pos rfl]
  refine ixS_of_first (by simp) (fun j hj e => ?_)
  rw [List.getElem?_append_left hj] at e
  exact ixS_none h (List.mem_of_getElem? e)
 ·rw [if_neg e]
  cases hx : ixS S s with
  | none =>
   refine ixS_of_not fun hm => ?_
   rcases List.mem_append.1 hm with hm | hm
   ·exact ixS_none hx hm
   ·exact e (List.mem_singleton.1 hm)
  | some j =>
   have h1 := ixS_lt hx
   refine ixS_of_first (by rw [List.getElem?_append_left h1.1]; exact h1.2) (fun i hi => ?_)
   rw [List.getElem?_append_left (by omega)]
   exact ixS_first hx i hi
def gNode (S : List Nat) (s : Nat) : List Nat × Nat := match ixS S s with | some i => (S, i) | none => (S ++ [s], S.length)
theorem gNode_some {S : List Nat} {s i : Nat} (h : ixS S s = some i) : gNode S s = (S, i) := by unfold gNode; rw [h]
theorem gNode_none {S : List Nat} {s : Nat} (h : ixS S s = none) : gNode S s = (S ++ [s], S.length) := by unfold gNode; rw [h]
theorem gNode_at (S : List Nat) (s : Nat) : (gNode S s).1[(gNode S s).2]? = some s := by
 cases h : ixS S s with
 | some i => rw [gNode_some h]; exact (ixS_lt h).2
 | none => rw [gNode_none h]; simp
theorem gNode_len (S : List Nat) (s : Nat) : (gNode S s).1.length <= S.length + 1 /\ S.length <= (gNode S s).1.length := by
 cases h : ixS S s with
 | some i => rw [gNode_some h]; exact ⟨Nat.le_succ _, Nat.le_refl _⟩
 | none => rw [gNode_none h]; simp
theorem gNode_keeps {S : List Nat} (s : Nat) {i t : Nat} (h : S[i]? = some t) : (gNode S s).1[i]? = some t := by
 cases hx : ixS S s with
 | some j => rw [gNode_some hx]; exact h
 | none =>
  rw [gNode_none hx]
  show (S ++ [s])[i]? = _
  rw [List.getElem?_append_left (List.getElem?_eq_some_iff.1 h).1]
  exact h
structure SOk (S : List Nat) : Prop where
 nd : S.Nodup
 lt : ∀ s ∈ S, s < 18446744073709551616
theorem SOk.at_lt {S : List Nat} (h : SOk S) {i s : Nat} (hi : S[i]? = some s) : s < 18446744073709551616 := h.lt s (List.mem_of_getElem? hi)
theorem SOk.one : SOk [0] := ⟨by simp, fun _ hs => by rw [List.mem_singleton.1 hs]; decide⟩
theorem SOk.nil : SOk [] := ⟨List.nodup_nil, fun _ hs => absurd hs List.not_mem_nil⟩
theorem SOk.snoc {S : List Nat} (h : SOk S) {s : Nat} (hs : s < 18446744073709551616) (hx : ixS S s = none) : SOk (S ++ [s]) where
 nd := List.nodup_append.2 ⟨h.nd, by simp, fun a ha b hb e => ixS_none hx (by rw [<- List.mem_singleton.1 hb, <- e]; exact ha)⟩
 lt t ht := by
  rcases List.mem_append.1 ht with ht | ht
  ·exact h.lt t ht
  ·rw [List.mem_singleton.1 ht]; exact hs
theorem SOk.node {S : List Nat} (h : SOk S) {s : Nat} (hs : s < 18446744073709551616) : SOk (gNode S s).1 := by
 cases hx : ixS S s with
 | some i => rw [gNode_some hx]; exact h
 | none => rw [gNode_none hx]; exact h.snoc hs hx
def chg (b : Bool) (s : Nat) (c : Int) : Nat := if b = true then s ||| orL [c] else butN s (orL [c])
theorem chg_lt (b : Bool) {s : Nat} (c : Int) (h : s < 18446744073709551616) : chg b s c < 18446744073709551616 := by
 unfold chg
 split
 ·exact Nat.or_lt_two_pow (n := 64) h (orL_lt _)
 ·exact butN_lt h
def gMove (S : List Nat) (b : Bool) (n c : Int) : List Nat × Int :=
 if 0 <= n /\ n < S.length then ((gNode S (chg b (S.getD n.toNat 0) c)).1, ((gNode S (chg b (S.getD n.toNat 0) c)).2 : Int)) else (S, -1)
def Beside (s t : Nat) (c : Int) : Prop := s ≠ t /\ 0 <= c /\ c < 64 /\ ∀ i : Nat, i < 64 -> (i : Int) ≠ c -> s.testBit i = t.testBit i
theorem Beside.symm {s t : Nat} {c : Int} (h : Beside s t c) : Beside t s c := ⟨h.1.symm, h.2.1, h.2.2.1, fun i hi hc => (h.2.2.2 i hi hc).symm⟩
theorem Beside.same {s t t' : Nat} {c : Int} (hs : s < 18446744073709551616) (ht : t < 18446744073709551616) (ht' : t' < 18446744073709551616) (h : Beside s t c) (h' : Beside s t' c) : t = t' := by
 obtain ⟨e1, c0, c1, h2⟩ := h
 obtain ⟨e1', _, _, h2'⟩ := h'
 refine eq_of_bits ht ht' fun i hi => ?_
 by_cases hc : (i : Int) = c
 ·have d1 : s.testBit i ≠ t.testBit i := fun e => e1 (eq_of_bits hs ht fun j hj => by
   by_cases hj2 : (j : Int) = c
   ·have : j = i := by omega
    rw [this]; exact e
   ·exact h2 j hj hj2)
  have d2 : s.testBit i ≠ t'.testBit i := fun e => e1' (eq_of_bits hs ht' fun j hj => by
   by_cases hj2 : (j : Int) = c
   ·have : j = i := by omega
    rw [this]; exact e
   ·exact h2' j hj hj2)
  generalize s.testBit i = a at *
  generalize t.testBit i = b at *
  generalize t'.testBit i = d at *
  cases a <;> cases b <;> cases d <;> simp_all
 ·rw [<- h2 i hi hc, <- h2' i hi hc]
theorem chg_beside (b : Bool) {s : Nat} {c : Int} (hs : s < 18446744073709551616) (h : chg b s c ≠ s) : Beside s (chg b s c) c := by
 have hc : 0 <= c /\ c < 64 := by
  by_cases hc : 0 <= c /\ c < 64
  ·exact hc
  ·refine absurd ?_ h
   have h0 : orL [c] = 0 := by rw [orL_one, if_neg hc]
   unfold chg
   rw [h0]
   cases b
   ·simp only [Bool.false_eq_true, if_false]
    exact eq_of_bits (butN_lt hs) hs fun i hi => by rw [butN_bit' _ _ _ (by decide) hi]; simp
   ·simp
 refine ⟨fun e => h e.symm, hc.1, hc.2, fun i hi hne => ?_⟩
 have hb : (orL [c]).testBit i = false := by rw [orL_bit]; simp [hne]
 unfold chg
 cases b
 ·simp only [Bool.false_eq_true, if_false]
  rw [butN_bit' _ _ _ (orL_lt _) hi, hb]
  simp
 ·simp only [if_true]
  rw [Nat.testBit_or, hb]
  simp
end Go.Proofs.YtaoinkjjmakhaaaGreatDoor
