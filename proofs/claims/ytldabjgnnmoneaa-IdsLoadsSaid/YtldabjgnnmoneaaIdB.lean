/- The contracts of Alive, slices.Clone, Gens, Free, count, Count. -/
import Derived.Test.YtldabjgnnmoneaaIdA
import Derived.Carry
import Derived.Lib.SliceRun
namespace Go.Proofs.Ytldabjgnnmoneaa
open Go.RowKit

section
variable {w : World} {own : Nat → Prop} {p : Nat} {gv av fv : Value} {s : NS}

theorem Alive_any (h : IAt w own p gv av fv s) (i gen : Int) :
    Calls Try.prog 12 #[.pointer (some ⟨p, 0, none⟩), idv (i, gen)] w fun e w' => e = .returned (.bool (s.alive i gen)) ∧ Below w.heap.size w w' := by
  show Calls _ _ #[.pointer (some ⟨p, 0, none⟩), .agg #[.int .i64 i, .int .i64 gen]] w _
  obtain ⟨w1, hw1⟩ : ∃ w1, w1 = w.alloc (.cells #[.int .i64 i, .int .i64 gen] 24) := ⟨_, rfl⟩
  have hb : Below w.heap.size w w1 := by rw [hw1]; exact (Below.refl _ _).alloc (Nat.le_refl _) _
  have hR1 : Rec 24 w1 w.heap.size #[.int .i64 i, .int .i64 gen] := by rw [hw1]; exact Rec.new _ _ _
  have c0 : w1.cell? ⟨w.heap.size, 0, none⟩ = some (.int .i64 i) := hR1.at_ 0
  have CA := At_any (h.below hb) i
  obtain ⟨z, hz⟩ : ∃ z, z = s.g.getD i.toNat 0 := ⟨_, rfl⟩
  by_cases hl : s.live i = true
  · have ha : s.at_ i = ((i, s.g.getD i.toNat 0), true) := by unfold NS.at_; rw [if_pos hl]
    have hal : s.alive i gen = decide (z = gen) := by unfold NS.alive; rw [hl, hz]; rfl
    rw [ha, ← hz] at CA
    rw [hal]
    have HB := Lib.hid hb
    have HR := Lib.hid hR1
    have CB := Lib.hid CA
    clear CA hb hR1 ha hal hz hl h
    go_enter Try.func12, Try.ntmps12
    go_wp2_with (first
      | (rw [← hw1]; clear hw1)
      | (go_at_call 25; refine CB.out.mono ?_; rintro e w2 ⟨rfl, hB2⟩; have hR2 := HR.out.under hB2; have k0 := hR2.at_ 0; have k1 := hR2.at_ 1; simp only [List.getElem?_toArray, List.getElem?_cons_zero, List.getElem?_cons_succ] at k0 k1; have HB2 := Lib.hid (HB.out.trans (hB2.mono HB.out.size)); have hlt2 := hR2.lt; clear hB2 hR2; simp only [idv]))
    all_goals go_ret
    all_goals exact ⟨rfl, HB2.out.trans ((Below.refl _ _).alloc HB2.out.size _)⟩
  · have hl : s.live i = false := by simpa using hl
    have ha : s.at_ i = ((0, 0), false) := by unfold NS.at_; rw [if_neg (by simp [hl])]
    have hal : s.alive i gen = false := by unfold NS.alive; rw [hl]; rfl
    rw [ha] at CA
    rw [hal]
    have HB := Lib.hid hb
    have CB := Lib.hid CA
    clear CA hb hR1 ha hal hz hl h
    go_enter Try.func12, Try.ntmps12
    go_wp2_with (first
      | (rw [← hw1]; clear hw1)
      | (go_at_call 25; refine CB.out.mono ?_; rintro e w2 ⟨rfl, hB2⟩; have HB2 := Lib.hid (HB.out.trans (hB2.mono HB.out.size)); clear hB2; simp only [idv]))
    go_ret
    exact ⟨rfl, HB2.out.trans ((Below.refl _ _).alloc HB2.out.size _)⟩
end

theorem intsl_nil_eq (w : World) (a : Option Addr) (n c n' c' : Nat) : (binOp .eql 28 (.slice a n c) (.slice none n' c')).run Try.prog w = .ok (.bool a.isNone) w := Lib.run_eql_slice_nil w _ _ a n c n' c' Try.underlying28

/-- slices.Clone of ints. -/
theorem iclone_any (A : Option Addr) (n c : Nat) (zs : List Int) (w : World) (hr : IRd w A n zs) (hn : Hid (n ≤ 1000000000)) :
    Calls Try.prog 36 #[.slice A n c] w fun e w' => ∃ v, e = .returned v ∧ w'.ownsRow w.heap.size 3 1 v n (zs.map (Value.int .i64)) ∧ Below w.heap.size w w' := by
  obtain ⟨i0, hi0, hz0, hz1, hz2⟩ := info_parts intT.info
  rcases A with _ | ad
  · have h0 : n = 0 := by
      rcases Nat.eq_zero_or_pos n with h0 | h0
      · exact h0
      · obtain ⟨_, _, e, _⟩ := hr.2 h0
        cases e
    subst h0
    have hl : zs = [] := List.eq_nil_of_length_eq_zero hr.1
    subst hl
    clear hr
    have q := intsl_nil_eq
    go_enter Try.func36, Try.ntmps36
    go_wp2
    go_ret
    exact ⟨_, rfl, World.ownsRow_nil _ _ _ _, Below.refl _ _⟩
  · have ho := own_empty w w.heap.size 3 (Nat.le_refl _)
    have hr1 := hr.below ((Below.refl _ _).alloc (Nat.le_refl _) (.cells #[] 3))
    have hcells : ∀ j u, (zs.map (Value.int .i64))[j]? = some u → (w.alloc (.cells #[] 3)).cell? (ad.add j) = some u := fun j u hj => by
      have hjl : j < zs.length := by have := (List.getElem?_eq_some_iff.1 hj).1; simpa using this
      obtain ⟨b, o, e, _, hc⟩ := hr1.2 (by have := hr1.1; omega)
      injection e with e
      subst e
      rw [Addr.add_lit, hc j hjl, ← hj]
      simp [List.getD, List.getElem?_eq_getElem hjl]
    have hlen := hr.1
    clear hr hr1
    have q := intsl_nil_eq
    go_enter Try.func36, Try.ntmps36
    go_wp2_with (at_builtin; refine wpList_append_own_at _ rfl (.tmp 5) (.tmp 6) 28 rfl w.heap.size 3 i0 (.int .i64 0) 1 8 Try.underlying28 hi0 hz0 hz1 hz2 rfl (by decide) _ 0 [] rfl ho ad n c (zs.map (Value.int .i64)) rfl (by simp; omega) hcells (fun u hu => by obtain ⟨_, _, rfl⟩ := List.mem_map.1 hu; rfl) (by have := hn.out; unfold maxLen; omega) (by have := hn.out; omega) (by simp) ?_; intro v2 w2 ho2 hg2 _ _; rw [Nat.zero_add, List.nil_append] at ho2)
    go_ret
    exact ⟨_, rfl, ho2, ((Below.refl _ _).alloc (Nat.le_refl _) _).grown hg2 (by simp) (fun q hq => (ho.lt q hq).1)⟩

section
variable {w : World} {own : Nat → Prop} {p : Nat} {gv av fv : Value} {s : NS}

theorem Gens_any (h : IAt w own p gv av fv s) :
    Calls Try.prog 19 #[.pointer (some ⟨p, 0, none⟩)] w fun e w' => ∃ A c, e = .returned (.slice A s.g.length c) ∧ IRd w' A s.g.length s.g ∧ Below w.heap.size w w' := by
  obtain ⟨A, c, rfl, hr⟩ := IRd.of_own h.gens
  have c2 := h.c2
  have hlen := h.ok.len
  have hE := h.ok.E2
  have CC := Lib.hid (iclone_any A s.g.length c s.g w hr (Lib.hid (by omega)))
  clear h hr hlen hE
  go_enter Try.func19, Try.ntmps19
  go_wp2_with (go_at_call 36; refine CC.out.mono ?_; rintro e w1 ⟨v, rfl, ho1, hb1⟩; obtain ⟨A1, c1, rfl, hr1⟩ := IRd.of_own ho1)
  go_ret
  exact ⟨_, _, rfl, hr1, hb1⟩
theorem Free_any (h : IAt w own p gv av fv s) :
    Calls Try.prog 20 #[.pointer (some ⟨p, 0, none⟩)] w fun e w' => ∃ A c, e = .returned (.slice A s.fr.length c) ∧ IRd w' A s.fr.length s.fr ∧ Below w.heap.size w w' := by
  obtain ⟨A, c, rfl, hr⟩ := IRd.of_own h.free
  have c4 := h.c4
  have hE := h.ok.few
  have CC := Lib.hid (iclone_any A s.fr.length c s.fr w hr (Lib.hid (by omega)))
  clear h hr hE
  go_enter Try.func20, Try.ntmps20
  go_wp2_with (go_at_call 36; refine CC.out.mono ?_; rintro e w1 ⟨v, rfl, ho1, hb1⟩; obtain ⟨A1, c1, rfl, hr1⟩ := IRd.of_own ho1)
  go_ret
  exact ⟨_, _, rfl, hr1, hb1⟩
theorem Gens_nil (w : World) : Calls Try.prog 19 #[.pointer none] w fun e w' => e = .returned (.slice none 0 0) ∧ w = w' := by
  go_enter Try.func19, Try.ntmps19
  go_wp2
  go_ret
  exact ⟨rfl, rfl⟩
theorem Free_nil (w : World) : Calls Try.prog 20 #[.pointer none] w fun e w' => e = .returned (.slice none 0 0) ∧ w = w' := by
  go_enter Try.func20, Try.ntmps20
  go_wp2
  go_ret
  exact ⟨rfl, rfl⟩

/-- How many of the first n are alive: count, handed the method value. -/
theorem count_any (h : IAt w own p gv av fv s) (n : Nat) (hn : n ≤ 1024) :
    Calls Try.prog 35 #[.int .i64 n, .func (.func 31) #[.pointer (some ⟨p, 0, none⟩)] #[]] w fun e w' => e = .returned (.int .i64 (s.cnt n)) ∧ w = w' := by
  have CL : ∀ k : Int, Calls Try.prog 31 #[.pointer (some ⟨p, 0, none⟩), .int .i64 k] w fun e w' => e = .returned (.bool (s.live k)) ∧ w = w' := lives_any h
  have CK := Lib.hid CL
  clear CL h
  go_enter Try.func35, Try.ntmps35
  go_wp2
  go_loopw [5, 8] (fun v iv wr => ∃ j : Nat, j ≤ n ∧ iv = .int .i64 j ∧ v = .int .i64 (s.cnt j) ∧ wr = w) (fun _ iv _ => n - (intOf iv).toNat)
  case atStart => exact ⟨0, Nat.zero_le _, rfl, rfl, rfl⟩
  case round =>
    obtain ⟨j, hj, rfl, rfl, rfl⟩ := hrel
    have hcl := s.cnt_le j
    have hcs := s.cnt_succ j
    obtain ⟨m, hm⟩ : ∃ m, m = s.cnt j := ⟨_, rfl⟩
    rw [← hm] at hcl hcs ⊢
    by_cases hjn : j < n
    · have C := Lib.hid (CK.out (j : Int))
      obtain ⟨b, hb⟩ : ∃ b, b = s.live (j : Int) := ⟨_, rfl⟩
      rw [← hb] at C hcs
      clear hb hm
      cases b
      · rw [if_neg (by decide)] at hcs
        have HCS := Lib.hid hcs
        clear hcs
        go_wp2_with (go_at_call 31; refine C.out.mono ?_; rintro e w' ⟨rfl, rfl⟩)
        go_roundw
        case rel => exact ⟨j + 1, hjn, by go_num, by rw [HCS.out]; rfl, by first | rfl | trivial⟩
        case measure => simp [intOf]; omega
      · rw [if_pos rfl] at hcs
        have HCS := Lib.hid hcs
        clear hcs
        go_wp2_with (go_at_call 31; refine C.out.mono ?_; rintro e w' ⟨rfl, rfl⟩)
        go_roundw
        case rel => exact ⟨j + 1, hjn, by go_num, by rw [HCS.out]; go_num, by first | rfl | trivial⟩
        case measure => simp [intOf]; omega
    · obtain rfl : j = n := by omega
      clear hcs
      go_wp2
      go_ret
      exact ⟨by rw [← hm]; rfl, rfl⟩
theorem Count_any (h : IAt w own p gv av fv s) :
    Calls Try.prog 18 #[.pointer (some ⟨p, 0, none⟩)] w fun e w' => e = .returned (.int .i64 (s.cnt s.g.length)) ∧ w = w' := by
  obtain ⟨A, c, rfl, _⟩ := IRd.of_own h.gens
  have c2 := h.c2
  have hmf : ∀ (fn : Fn) (first cap : Array Value) (w : World), (Instr.makeFunc fn first cap).run Try.prog w = .ok (.func fn first cap) w := fun _ _ _ _ => rfl
  have hlen := h.ok.len
  have hE := h.ok.E2
  have CC := Lib.hid (count_any h s.g.length (by omega))
  clear h hlen hE
  go_enter Try.func18, Try.ntmps18
  go_wp2_with (go_at_call 35; refine CC.out.mono ?_; rintro e w' ⟨rfl, rfl⟩)
  go_ret
  exact ⟨rfl, rfl⟩
theorem Count_nil (w : World) : Calls Try.prog 18 #[.pointer none] w fun e w' => e = .returned (.int .i64 0) ∧ w = w' := by
  go_enter Try.func18, Try.ntmps18
  go_wp2
  go_ret
  exact ⟨rfl, rfl⟩
end
end Go.Proofs.Ytldabjgnnmoneaa
