/- The contract of Write. -/
import Derived.Test.YtieknelmfjkbhaaDk3
import Derived.Deep.RegionHeld3
namespace Go.Proofs.Ytieknelmfjkbhaa
open Go.RowKit Go.Maps

theorem listT : El Try.prog 27 32 nilv 1 24 := ⟨Try.underlying27, by kernel_rfl, rfl, by decide⟩

def St.push (s : St) (i : Nat) (b : List UInt8) : St := { s with wait := fun j => if j = i then s.wait i ++ [b] else s.wait j }

section
variable {w w4 w5 w6 : World} {own : Nat → Prop} {N p m : Nat} {sv : Value} {f : Nat → Value} {s : St}

theorem DAt.push (h : DAt w4 own N p m sv f s) (i g : Nat) (L : List UInt8) (dom : ∀ x, own x → x < w4.heap.size ∧ x ≠ g) (hg : w4.heap[g]? = some (.cells (cells L).toArray 5 (0, 0))) (hL : L.length = 512) (hi : i < s.k)
    (vs : List Value) (hel : ∀ j (h : j < (s.wait i).length), ∃ g, vs[j]? = some (.slice (some ⟨g, 0, none⟩) 512 512) ∧ own g ∧ some g ≠ sv.ownBlock ∧ w4.heap[g]? = some (.cells (cells (s.wait i)[j]).toArray 5 (0, 0)) ∧ (s.wait i)[j].length = 512)
    (hvl : vs.length = (s.wait i).length)
    (h5 : w4.grownBy w5 (f i).ownBlock) (v5 : Value) (ho5 : w5.ownsRow 0 32 1 v5 ((s.wait i).length + 1) (vs ++ [.slice (some ⟨g, 0, none⟩) 512 512])) (hat : v5.ownBlock = (f i).ownBlock ∨ v5.ownBlock = some w4.heap.size)
    (h6 : w5.grownBy w6 (some m)) (hm6 : MapIs Try.prog 3 w6 m (N + 1) (fun j => if j = i then v5 else f j) (fun j => decide (j = i) || !(s.wait j).isEmpty)) (hN : N + 1 ≤ 1000000) :
    DAt w6 (fun x => own x ∨ x = g ∨ v5.ownBlock = some x) (N + 1) p m sv (fun j => if j = i then v5 else f j) (s.push i L) := by
  have hF : Fr (fun x => (f i).ownBlock = some x ∨ x = m) w4 w6 := (Fr.grown h5 (fun x e => .inl e)).trans (Fr.grown h6 (fun x e => .inr (by injection e with e; exact e.symm)))
  have hmap : ∃ es clock, w4.heap[m]? = some (.map es clock) := by obtain ⟨D, ⟨es, clock, hm, _⟩, _⟩ := h.map; exact ⟨es, clock, hm⟩
  obtain ⟨es, clock, hmm⟩ := hmap
  have nq : ∀ x C e, w4.heap[x]? = some (.cells C e (0, 0)) → e ≠ 32 → ¬ ((f i).ownBlock = some x ∨ x = m) := by
    rintro x C e hC he (hx | hx)
    · obtain ⟨C', hC'⟩ := (h.rows i).tag hx
      rw [hC] at hC'
      injection hC' with hC'
      injection hC' with _ h2
      exact he h2
    · subst hx
      rw [hmm] at hC
      cases hC
  have rowq : ∀ j x, (f j).ownBlock = some x → j ≠ i → ¬ ((f i).ownBlock = some x ∨ x = m) := by
    rintro j x hx hj (h1 | h1)
    · exact h.apart j i x hj hx h1
    · obtain ⟨C', hC'⟩ := (h.rows j).tag hx
      subst h1
      rw [hmm] at hC'
      cases hC'
  have hm5 : w5.heap[m]? = some (.map es clock) := (h5.block m (Array.getElem?_eq_some_iff.1 hmm).1 (fun e => by
    obtain ⟨C', hC'⟩ := (h.rows i).tag e.symm
    rw [hmm] at hC'
    cases hC')).trans hmm
  have hv5 : ∀ x, v5.ownBlock = some x → x ≠ m := fun x hx e => by
    obtain ⟨C', hC'⟩ := own_tag ho5 hx
    subst e
    rw [hm5] at hC'
    cases hC'
  have hfi : ∀ j x, (f j).ownBlock = some x → own x := fun j x hx => by obtain ⟨_, _, h2, _⟩ := h.rows j; exact h2 x hx
  exact {
    blk := (hF.block p h.lt (nq p _ _ h.blk (by decide))).trans h.blk
    safe := own_fr h.safe hF (fun x hx => by
      obtain ⟨C, hC⟩ := own_tag h.safe hx
      exact nq x C _ hC (by decide))
    map := hm6.congr (fun _ => rfl) (fun j => by
      simp only [St.push]
      by_cases hj : j = i
      · subst hj; simp
      · simp [hj])
    rows := fun j => by
      by_cases hj : j = i
      · subst hj
        simp only [St.push, if_true]
        refine ⟨vs ++ [.slice (some ⟨g, 0, none⟩) 512 512], ?_, fun x hx => ?_, fun q hq => ?_⟩
        · rw [List.length_append]
          exact own_fr ho5 (Fr.grown h6 (own := (· = m)) (fun x e => by injection e with e; exact e.symm)) (fun x hx e => hv5 x hx e)
        · exact .inr (.inr hx)
        · by_cases hq' : q < (s.wait j).length
          · obtain ⟨g', a, b, c, d, e⟩ := hel q hq'
            refine ⟨g', by rw [List.getElem?_append_left (by omega)]; exact a, .inl b, c, ?_, ?_⟩
            · rw [List.getElem_append_left hq']
              exact (hF.block g' (Array.getElem?_eq_some_iff.1 d).1 (nq g' _ _ d (by decide))).trans d
            · rw [List.getElem_append_left hq']; exact e
          · have hq2 : q = (s.wait j).length := by simp at hq; omega
            subst hq2
            refine ⟨g, by rw [List.getElem?_append_right (by omega)]; simp [hvl], .inr (.inl rfl), fun e => (dom g (h.owns g e.symm)).2 rfl, ?_, ?_⟩
            · simp
              exact (hF.block g (Array.getElem?_eq_some_iff.1 hg).1 (nq g _ _ hg (by decide))).trans hg
            · simpa using hL
      · simp only [St.push, if_neg hj]
        exact ((h.rows j).kept hF (fun x hx => rowq j x hx hj) (fun x _ _ ⟨C, hC⟩ => nq x C _ hC (by decide))).mono (fun x hx => .inl hx)
    apart := fun i1 j1 x hne h1 h2 => by
      have key : ∀ j, j ≠ i → v5.ownBlock = some x → (f j).ownBlock = some x → False := fun j hj e1 e2 => by
        rcases hat with e | e
        · rw [e] at e1; exact h.apart i j x (fun e => hj e.symm) e1 e2
        · rw [e] at e1; injection e1 with e1; have := (dom x (hfi j x e2)).1; omega
      by_cases hi1 : i1 = i
      · by_cases hj1 : j1 = i
        · exact hne (hi1.trans hj1.symm)
        · rw [if_pos hi1] at h1; rw [if_neg hj1] at h2
          exact key j1 hj1 h1 h2
      · by_cases hj1 : j1 = i
        · rw [if_neg hi1] at h1; rw [if_pos hj1] at h2
          exact key i1 hi1 h2 h1
        · rw [if_neg hi1] at h1; rw [if_neg hj1] at h2
          exact h.apart i1 j1 x hne h1 h2
    inside := fun j hj => by
      simp only [St.push] at hj ⊢
      by_cases e : j = i
      · omega
      · rw [if_neg e] at hj; exact h.inside j hj
    few := fun j => by
      simp only [St.push]
      have := h.few j
      have := h.few i
      by_cases e : j = i
      · rw [if_pos e]; simp; omega
      · rw [if_neg e]; omega
    ownp := .inl h.ownp
    ownm := .inl h.ownm
    owns := fun x hx => .inl (h.owns x hx)
    kle := h.kle
    nle := hN
    fz := h.fz
    rz := by have := h.rz; simp only [St.push]; omega
    wz := by have := h.wz; simp only [St.push]; omega }

theorem Write_no (h : DAt w own N p m sv f s) (i : Int) (hi : i < 0 ∨ (s.k : Int) ≤ i) (A : Option Addr) (n c : Nat) :
    Calls Try.prog 29 #[.pointer (some ⟨p, 0, none⟩), .int .i64 i, .slice A n c] w fun e w' => e = .returned (.int .i64 2) ∧ w = w' := by
  have CB := Lib.hid (begin_no h i hi)
  clear h hi
  go_enter Try.func29, Try.ntmps29
  go_wp2_with (go_at_call 43; refine CB.out.mono ?_; rintro e w' ⟨rfl, rfl⟩)
  go_ret
  exact ⟨rfl, rfl⟩
theorem Write_off (h : DAt w own N p m sv f s) (i : Nat) (hi : i < s.k) (hok : s.ok = false) (A : Option Addr) (n c : Nat) :
    Calls Try.prog 29 #[.pointer (some ⟨p, 0, none⟩), .int .i64 i, .slice A n c] w fun e w' => e = .returned (.int .i64 3) ∧ Fr (· = p) w w' ∧ DAt w' own N p m sv f s.burn := by
  have cB := begin_any h i hi
  rw [hok] at cB
  have CB := Lib.hid cB
  clear h hi hok cB
  go_enter Try.func29, Try.ntmps29
  go_wp2_with (go_at_call 43; refine CB.out.mono ?_; rintro e w' ⟨rfl, hf, hD⟩)
  go_ret
  exact ⟨rfl, hf, hD⟩

set_option maxHeartbeats 1600000 in
set_option maxRecDepth 20000 in
theorem Write_ok (dom : ∀ x, own x → x < w.heap.size) (h : DAt w own N p m sv f s) (i : Nat) (hi : i < s.k) (hok : s.ok = true) (hN : N + 2 ≤ 1000000) (A : Option Addr) (n c : Nat) (l : List UInt8) (hr : Rd w A n l) (hA : ∀ b o, A = some ⟨b, o, none⟩ → 0 < n → ¬ own b) :
    Calls Try.prog 29 #[.pointer (some ⟨p, 0, none⟩), .int .i64 i, .slice A n c] w fun e w' => e = .returned (.int .i64 0) ∧ Goes w own (N + 2) p ({ s.burn with wr := s.wr + 1 }.push i (cut 512 l)) w' := by
  have cB := begin_any h i hi
  rw [hok] at cB
  have CB := Lib.hid cB
  have hrd := h.rz
  have hwr := h.wz
  have HW := Lib.hid hrd
  have hi' : i < s.burn.k := hi
  have hp := h.ownp
  have hk := h.kle
  have HA := Lib.hid hA
  have DOM := Lib.hid dom
  clear h hok cB hrd hA dom
  go_enter Try.func29, Try.ntmps29
  go_wp2_with fail
  refine CB.out.mono ?_
  rintro e w1 ⟨rfl, hf1, hD1⟩
  have c5 : w1.cell? ⟨p, 5, none⟩ = some (.int .i64 s.wr) := hD1.c5
  have f5 := hD1.fr0 5
  obtain ⟨w2, hw2⟩ : ∃ w2, w2 = w1.setCell ⟨p, 5, none⟩ (.int .i64 (s.wr + 1)) := ⟨_, rfl⟩
  have D2 : DAt w2 own (N + 1) p m sv f { s.burn with wr := s.wr + 1 } := by
    rw [hw2]
    exact hD1.field (N' := N + 1) s.burn.fuse s.rd (s.wr + 1) s.burn.off (heap_setCell_at hD1.blk _) (fr_p _ _ _ _) (by omega) (by omega) hD1.fz (by have := HW.out; omega) (by omega)
  have F2 : Fr (· = p) w w2 := by rw [hw2]; exact hf1.trans (fr_p w1 p 5 (.int .i64 (s.wr + 1)))
  go_wp2_with fail
  rw [← hw2]
  have hs2 : w2.heap.size = w1.heap.size := by rw [hw2]; simp [World.setCell]
  have hlt2 : ∀ x, own x → x < w2.heap.size := fun x hx => by have := DOM.out x hx; have := F2.size; omega
  clear hw2 c5 f5 hD1 hf1 hs2 CB
  have hr2 := hr.fr F2 (fun b o e hn hb => HA.out b o e hn (by subst hb; exact hp))
  have D2d := D2.drew
  have c1 := D2.c1
  have hl2 := D2.look i hi'
  have c1d := D2d.c1
  have hl2d := D2d.look i hi'
  have PM : some (⟨p, 1, none⟩ : Addr).block ≠ some m := fun e => by
    injection e with e
    obtain ⟨D, ⟨es, clock, hm, _⟩, _⟩ := D2.map
    rw [← e, D2.blk] at hm
    cases hm
  have LT2 := Lib.hid hlt2
  have FF2 := Lib.hid F2
  have DD2 := Lib.hid D2
  clear hlt2 F2 hr D2
  go_region_held3 (fun w' => w'.cell? ⟨p, 1, none⟩ = some (.map (some m))) (first
      | with_reducible exact c1
      | with_reducible exact c1d
      | with_reducible exact c13
      | with_reducible exact c14
      | with_reducible exact c15
      | with_reducible exact c16) (first
    | (go_at_call 44; refine (Cut_full A n c l 512 _ hr2.drew (by decide)).mono ?_; rintro e w3 ⟨rfl, ho3, hB3⟩; have D3 := D2d.below hB3; have c13 := D3.c1; have hl3 := D3.look i hi'; have D4 := D3.below ((Below.refl _ _).alloc (Nat.le_refl _) (.cells #[.slice (some ⟨w2.heap.size, 0, none⟩) 512 512] 32)); have c14 := D4.c1; have hl4 := D4.look i hi'; obtain ⟨vs, r1, r2, r3⟩ : Wr _ own sv.ownBlock (f i) (s.wait i) := D4.rows i; have hfew : (s.wait i).length ≤ N + 1 := D4.few i; have hone : ∀ u ∈ [Value.slice (some ⟨w2.heap.size, 0, none⟩) 512 512], u.oneCell' = true := fun u hu => by rw [List.mem_singleton.1 hu]; rfl)
    | (refine step_appV listT rfl (.tmp 31) (.tmp 34) rfl 0 (f i) _ vs rfl r1 ⟨w3.heap.size, 0, none⟩ 1 1 [.slice (some ⟨w2.heap.size, 0, none⟩) 512 512] rfl rfl (cell_one_new _ _ _) hone (by omega) (by decide) (Nat.zero_le _) ?_; intro v5 w5 ho5 hg5 hat5; have c15 := hg5.cell c14 (D4.p_ne i); have hm5 : MapIs Try.prog 3 w5 m (N + 1) f (fun i => !(s.wait i).isEmpty) := D4.map.block (hg5.block m D4.map.lt (D4.m_ne i)); obtain ⟨w6, hrun6, hm6, hg6⟩ := hm5.put (T := 72) Try.underlying3 Try.underlying72 (by unfold maxLen; omega) i (by omega) v5; have c16 := hg6.cell c15 PM))
  all_goals
    go_wp2
    go_ret
    refine ⟨rfl, ?_⟩
    obtain ⟨w4, hw4⟩ : ∃ w4, w4 = w3.alloc (.cells #[.slice (some ⟨w2.heap.size, 0, none⟩) 512 512] 32) := ⟨_, rfl⟩
    have hB4 : Below w2.heap.size w2 w4 := by rw [hw4]; exact (((Below.refl _ _).drew).trans hB3).alloc (hB3.size) _
    have hg4 : w4.heap[w2.heap.size]? = some (.cells (cells (cut 512 l)).toArray 5 (0, 0)) := by
      obtain ⟨_, _, hh⟩ := own_full ho3
      rw [hw4]
      exact (Below.heap_alloc _ _ _ (Array.getElem?_eq_some_iff.1 hh).1).trans hh
    rw [← hw4] at D4 r1 r3 hg5 hat5
    have hlt := LT2.out
    have h4 : w2.heap.size < w4.heap.size := (Array.getElem?_eq_some_iff.1 hg4).1
    have hvl : vs.length = (s.wait i).length := by have := r1.1; omega
    have D6 := D4.push i w2.heap.size (cut 512 l) (fun x hx => ⟨by have := hlt x hx; omega, by have := hlt x hx; omega⟩) hg4 (cut_length _ _) hi' vs r3 hvl hg5 v5 ho5 hat5 hg6 hm6 (by omega)
    have hs5 := hg5.size
    have hs6 := hg6.size
    have FA : Fr own w w4 := (FF2.out.mono (fun x hx => by rw [hx]; exact hp)).trans (Fr.ofBelow own hB4)
    have FB : Fr own w w6 := (FA.trans (Fr.grown hg5 (fun x hx => r2 x hx))).trans (Fr.grown hg6 (fun x hx => by injection hx with hx; rw [← hx]; exact D4.ownm))
    have h02 := FF2.out.size
    refine ⟨FB, _, fun x hx => ?_, fun x hx => ?_, m, sv, _, D6⟩
    · rcases hx with hx | hx | hx
      · exact .inl hx
      · exact .inr (by omega)
      · rcases hat5 with e | e
        · rw [e] at hx; exact .inl (r2 x hx)
        · rw [e] at hx; injection hx with hx; exact .inr (by omega)
    · rcases hx with hx | hx | hx
      · have := hlt x hx; omega
      · omega
      · obtain ⟨C, hC⟩ := own_tag ho5 hx
        have := (Array.getElem?_eq_some_iff.1 hC).1
        omega
end
end Go.Proofs.Ytieknelmfjkbhaa
