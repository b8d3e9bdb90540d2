/- The reference's Alive, Count, Take. -/
import Derived.Test.YtldabjgnnmoneaaIdR2
import Derived.Deep.RegionLaw
namespace Go.Proofs.Ytldabjgnnmoneaa
open Go.RowKit

/-- Two blocks laid one behind the other: the struct that came in, and one more. -/
theorem two_new (w : World) (T U : TypeId) (cs ds : Array Value) :
    Below w.heap.size w ((w.alloc (.cells cs T)).alloc (.cells ds U)) ∧ Rec T ((w.alloc (.cells cs T)).alloc (.cells ds U)) w.heap.size cs ∧ Rec U ((w.alloc (.cells cs T)).alloc (.cells ds U)) (w.heap.size + 1) ds := by
  refine ⟨((Below.refl _ _).alloc (Nat.le_refl _) _).alloc (by simp) _, (Rec.new w _ _).under ((Below.refl _ _).alloc (Nat.le_refl _) _), ?_⟩
  have := Rec.new (w.alloc (.cells cs T)) U ds
  rw [World.size_alloc] at this
  exact this
theorem three_new (w : World) (T U V : TypeId) (cs ds es : Array Value) :
    Below w.heap.size w (((w.alloc (.cells cs T)).alloc (.cells ds U)).alloc (.cells es V)) ∧ Rec T (((w.alloc (.cells cs T)).alloc (.cells ds U)).alloc (.cells es V)) w.heap.size cs ∧ Rec U (((w.alloc (.cells cs T)).alloc (.cells ds U)).alloc (.cells es V)) (w.heap.size + 1) ds ∧
      Rec V (((w.alloc (.cells cs T)).alloc (.cells ds U)).alloc (.cells es V)) (w.heap.size + 2) es := by
  obtain ⟨h1, h2, h3⟩ := two_new w T U cs ds
  have hb : Below ((w.alloc (.cells cs T)).alloc (.cells ds U)).heap.size ((w.alloc (.cells cs T)).alloc (.cells ds U)) (((w.alloc (.cells cs T)).alloc (.cells ds U)).alloc (.cells es V)) := (Below.refl _ _).alloc (Nat.le_refl _) _
  refine ⟨h1.trans (hb.mono h1.size), h2.under hb, h3.under hb, ?_⟩
  have := Rec.new ((w.alloc (.cells cs T)).alloc (.cells ds U)) V es
  rw [World.size_alloc, World.size_alloc] at this
  exact this

section
variable {K : Nat → Prop} {w : World} {d : Rv} {s : NS}

theorem RAlive_any (h : RS K w d s) (hf : s.fr.length ≤ 1000000) (i gen : Int) :
    Calls Try.prog 29 #[d.v, idv (i, gen)] w fun e w' => e = .returned (.bool (s.alive i gen)) ∧ Below w.heap.size w w' := by
  obtain ⟨E, L, GA, gn, gc, FA, fn, fc⟩ := d
  show Calls _ _ #[.agg #[.int .i64 E, .int .i64 L, .slice GA gn gc, .slice FA fn fc], .agg #[.int .i64 i, .int .i64 gen]] w _
  obtain ⟨hb, hS1, hR1⟩ := two_new w 30 24 #[.int .i64 E, .int .i64 L, .slice GA gn gc, .slice FA fn fc] #[.int .i64 i, .int .i64 gen]
  obtain ⟨w1, hw1⟩ : ∃ w1, w1 = (w.alloc (.cells #[.int .i64 E, .int .i64 L, .slice GA gn gc, .slice FA fn fc] 30)).alloc (.cells #[.int .i64 i, .int .i64 gen] 24) := ⟨_, rfl⟩
  rw [← hw1] at hb hS1 hR1
  have c0 : w1.cell? ⟨w.heap.size + 1, 0, none⟩ = some (.int .i64 i) := hR1.at_ 0
  have CA := RAt_any (h.below hb) hf i
  simp only [Rv.v] at CA
  obtain ⟨z, hz⟩ : ∃ z, z = s.g.getD i.toNat 0 := ⟨_, rfl⟩
  have HS := Lib.hid hS1
  have HB := Lib.hid hb
  have HR := Lib.hid hR1
  cases hl : s.live i
  · have ha : s.at_ i = ((0, 0), false) := by unfold NS.at_; rw [if_neg (by simp [hl])]
    have hal : s.alive i gen = false := by unfold NS.alive; rw [hl]; rfl
    rw [ha] at CA
    rw [hal]
    have CB := Lib.hid CA
    clear CA hb hS1 hR1 ha hal hz hl h
    go_enter Try.func29, Try.ntmps29
    go_wp2_with (first
      | (rw [← hw1]; clear hw1)
      | (with_reducible refine wpList_ldQ rfl (.tmp 2) rfl rfl HS.out ?_)
      | (go_at_call 26; refine CB.out.mono ?_; rintro e w2 ⟨rfl, hB2⟩; have HB2 := Lib.hid (HB.out.trans (hB2.mono HB.out.size)); clear hB2; simp only [idv]))
    go_ret
    exact ⟨rfl, HB2.out.trans ((Below.refl _ _).alloc HB2.out.size _)⟩
  · have ha : s.at_ i = ((i, z), true) := by unfold NS.at_; rw [if_pos hl, hz]
    have hal : s.alive i gen = decide (z = gen) := by unfold NS.alive; rw [hl, hz]; rfl
    rw [ha] at CA
    rw [hal]
    have CB := Lib.hid CA
    clear CA hb hS1 hR1 ha hal hz hl h
    go_enter Try.func29, Try.ntmps29
    go_wp2_with (first
      | (rw [← hw1]; clear hw1)
      | (with_reducible refine wpList_ldQ rfl (.tmp 2) rfl rfl HS.out ?_)
      | (go_at_call 26; refine CB.out.mono ?_; rintro e w2 ⟨rfl, hB2⟩; have hR2 := HR.out.under hB2; have k1 : w2.cell? ⟨w.heap.size + 1, 1, none⟩ = some (.int .i64 gen) := hR2.at_ 1; have HB2 := Lib.hid (HB.out.trans (hB2.mono HB.out.size)); have hlt2 := hR2.lt; clear hB2 hR2; simp only [idv]))
    all_goals go_ret
    all_goals exact ⟨rfl, HB2.out.trans ((Below.refl _ _).alloc HB2.out.size _)⟩

theorem RCount_any (h : RS K w d s) (hf : s.fr.length ≤ 1000000) (hg : s.g.length ≤ 1024) :
    Calls Try.prog 28 #[d.v] w fun e w' => e = .returned (.int .i64 (s.cnt s.g.length)) ∧ Below w.heap.size w w' := by
  obtain ⟨E, L, GA, gn, gc, FA, fn, fc⟩ := d
  have hgn := h.gn
  simp only at hgn
  subst hgn
  have H := Lib.hid h
  clear h
  show Calls _ _ #[.agg #[.int .i64 E, .int .i64 L, .slice GA s.g.length gc, .slice FA fn fc]] w _
  obtain ⟨w1, hw1⟩ : ∃ w1, w1 = w.alloc (.cells #[.int .i64 E, .int .i64 L, .slice GA s.g.length gc, .slice FA fn fc] 30) := ⟨_, rfl⟩
  have hb : Below w.heap.size w w1 := by rw [hw1]; exact (Below.refl _ _).alloc (Nat.le_refl _) _
  have hS1 : Rec 30 w1 w.heap.size #[.int .i64 E, .int .i64 L, .slice GA s.g.length gc, .slice FA fn fc] := by rw [hw1]; exact Rec.new _ _ _
  have HB := Lib.hid hb
  have HS := Lib.hid hS1
  clear hb hS1
  obtain ⟨n, hn⟩ : ∃ n, n = s.g.length := ⟨_, rfl⟩
  rw [← hn] at HS hw1 H hg ⊢
  clear hn
  go_enter Try.func28, Try.ntmps28
  go_wp2_with (first | (rw [← hw1]; clear hw1))
  go_loopw [3, 4] (fun v iv wr => ∃ j : Nat, j ≤ n ∧ iv = .int .i64 j ∧ v = .int .i64 (s.cnt j) ∧ Below w1.heap.size w1 wr) (fun _ iv _ => n - (intOf iv).toNat)
  case atStart => exact ⟨0, Nat.zero_le _, rfl, rfl, Below.refl _ _⟩
  case round =>
    obtain ⟨j, hj, rfl, rfl, hB⟩ := hrel
    have hcl := s.cnt_le j
    have hcs := s.cnt_succ j
    obtain ⟨m, hm⟩ : ∃ m, m = s.cnt j := ⟨_, rfl⟩
    rw [← hm] at hcl hcs ⊢
    have hS := HS.out.under hB
    have c2 : wr.cell? ⟨w.heap.size, 2, none⟩ = some (.slice GA n gc) := hS.at_ 2
    have HSR := Lib.hid hS
    have HBR := Lib.hid hB
    by_cases hjn : j < n
    · have CA := RAt_any (H.out.below (HB.out.trans (hB.mono HB.out.size))) hf (j : Int)
      simp only [Rv.v] at CA
      have hs2 : (s.at_ (j : Int)).2 = s.live (j : Int) := by unfold NS.at_; cases hl : s.live (j : Int) <;> simp
      rw [hs2] at CA
      obtain ⟨b, hb⟩ : ∃ b, b = s.live (j : Int) := ⟨_, rfl⟩
      obtain ⟨a1, ha1⟩ : ∃ a1, a1 = (s.at_ (j : Int)).1.1 := ⟨_, rfl⟩
      obtain ⟨a2, ha2⟩ : ∃ a2, a2 = (s.at_ (j : Int)).1.2 := ⟨_, rfl⟩
      simp only [idv] at CA
      rw [← hb, ← ha1, ← ha2] at CA
      rw [← hb] at hcs
      have CB := Lib.hid CA
      clear hb hm hs2 ha1 ha2 CA hS hB
      cases b
      · rw [if_neg (by decide)] at hcs
        have HCS := Lib.hid hcs
        clear hcs
        go_wp2_with (first
          | (with_reducible refine wpList_ldQ rfl (.tmp 1) rfl rfl HSR.out ?_)
          | (go_at_call 26; refine CB.out.mono ?_; rintro e w2 ⟨rfl, hB2⟩; have HB2 := Lib.hid (HBR.out.trans (hB2.mono HBR.out.size)); clear hB2))
        go_roundw
        case rel => exact ⟨j + 1, hjn, by go_num, by rw [HCS.out]; rfl, HB2.out.alloc HB2.out.size _⟩
        case measure => simp [intOf]; omega
      · rw [if_pos rfl] at hcs
        have HCS := Lib.hid hcs
        clear hcs
        go_wp2_with (first
          | (with_reducible refine wpList_ldQ rfl (.tmp 1) rfl rfl HSR.out ?_)
          | (go_at_call 26; refine CB.out.mono ?_; rintro e w2 ⟨rfl, hB2⟩; have HB2 := Lib.hid (HBR.out.trans (hB2.mono HBR.out.size)); clear hB2))
        go_roundw
        case rel => exact ⟨j + 1, hjn, by go_num, by rw [HCS.out]; go_num, HB2.out.alloc HB2.out.size _⟩
        case measure => simp [intOf]; omega
    · obtain rfl : j = n := by omega
      clear hcs hS hB
      go_wp2
      go_ret
      exact ⟨by rw [← hm]; rfl, HB.out.trans (HBR.out.mono HB.out.size)⟩
end
end Go.Proofs.Ytldabjgnnmoneaa
