/- The law's same: what is told by both is the same. -/
import Derived.Test.YtldabjgnnmoneaaIdR9
import Derived.Test.YtldabjgnnmoneaaSameL
import Derived.Deep.RegionHeld3
namespace Go.Proofs.Ytldabjgnnmoneaa
open Go.RowKit

section
variable {w : World} {own K : Nat → Prop} {p : Nat} {gv av fv : Value} {s : NS} {d : Rv}

set_option maxRecDepth 100000 in
set_option maxHeartbeats 2000000 in
theorem same_any (h : IAt w own p gv av fv s) (hr : RS K w d s) (i gen : Int) :
    Calls Try.prog 11 #[.pointer (some ⟨p, 0, none⟩), d.v, idv (i, gen)] w fun e w' => e = .returned (.bool true) ∧ Below w.heap.size w w' := by
  obtain ⟨E, L, GA, gn, gc, FA, fn, fc⟩ := d
  have hgn := hr.gn
  have hfn := hr.fn
  simp only at hgn hfn
  have hfew := h.ok.few
  have hlen : s.g.length ≤ 1024 := Nat.le_trans h.ok.len h.ok.E2
  show Calls _ _ #[_, .agg #[.int .i64 E, .int .i64 L, .slice GA gn gc, .slice FA fn fc], .agg #[.int .i64 i, .int .i64 gen]] w _
  obtain ⟨hb, hA1, hB1⟩ := two_new w 30 24 #[.int .i64 E, .int .i64 L, .slice GA gn gc, .slice FA fn fc] #[.int .i64 i, .int .i64 gen]
  obtain ⟨w1, hw1⟩ : ∃ w1, w1 = (w.alloc (.cells #[.int .i64 E, .int .i64 L, .slice GA gn gc, .slice FA fn fc] 30)).alloc (.cells #[.int .i64 i, .int .i64 gen] 24) := ⟨_, rfl⟩
  rw [← hw1] at hb hA1 hB1
  have c0 : w1.cell? ⟨w.heap.size + 1, 0, none⟩ = some (.int .i64 i) := hB1.at_ 0
  have h1 := h.below hb
  have hr1 := hr.below hb
  have CA := At_any h1 i
  obtain ⟨a, ha⟩ : ∃ a, a = s.at_ i := ⟨_, rfl⟩
  rw [← ha] at CA
  obtain ⟨⟨a1, a2⟩, a3⟩ := a
  simp only [idv] at CA
  have CAT := Lib.hid CA
  have CR : ∀ W, Below w1.heap.size w1 W → Calls Try.prog 26 #[.agg #[.int .i64 E, .int .i64 L, .slice GA gn gc, .slice FA fn fc], .int .i64 i] W fun e w' => e = .returned (.tuple #[.agg #[.int .i64 a1, .int .i64 a2], .bool a3]) ∧ Below W.heap.size W w' := fun W hW => by
    have := RAt_any (hr1.below hW) (by omega) i
    rw [← ha] at this
    exact this
  have DR := Lib.hid CR
  have CGE : ∀ W, Below w1.heap.size w1 W → Calls Try.prog 19 #[.pointer (some ⟨p, 0, none⟩)] W fun e w' => ∃ A c, e = .returned (.slice A gn c) ∧ IRd w' A gn s.g ∧ Below W.heap.size W w' := fun W hW => by rw [hgn]; exact Gens_any (h1.below hW)
  have CFR : ∀ W, Below w1.heap.size w1 W → Calls Try.prog 20 #[.pointer (some ⟨p, 0, none⟩)] W fun e w' => ∃ A c, e = .returned (.slice A fn c) ∧ IRd w' A fn s.fr ∧ Below W.heap.size W w' := fun W hW => by rw [hfn]; exact Free_any (h1.below hW)
  have CCO : ∀ W, Below w1.heap.size w1 W → Calls Try.prog 18 #[.pointer (some ⟨p, 0, none⟩)] W fun e w' => e = .returned (.int .i64 (s.cnt s.g.length)) ∧ W = w' := fun W hW => Count_any (h1.below hW)
  have hf6 : s.fr.length ≤ 1000000 := by omega
  have CRC : ∀ W, Below w1.heap.size w1 W → Calls Try.prog 28 #[.agg #[.int .i64 E, .int .i64 L, .slice GA gn gc, .slice FA fn fc]] W fun e w' => e = .returned (.int .i64 (s.cnt s.g.length)) ∧ Below W.heap.size W w' := fun W hW => by
    have := RCount_any (hr1.below hW) hf6 hlen
    exact this
  have CAL : ∀ W, Below w1.heap.size w1 W → Calls Try.prog 12 #[.pointer (some ⟨p, 0, none⟩), .agg #[.int .i64 i, .int .i64 gen]] W fun e w' => e = .returned (.bool (s.alive i gen)) ∧ Below W.heap.size W w' := fun W hW => by
    have := Alive_any (h1.below hW) i gen
    exact this
  have CRA : ∀ W, Below w1.heap.size w1 W → Calls Try.prog 29 #[.agg #[.int .i64 E, .int .i64 L, .slice GA gn gc, .slice FA fn fc], .agg #[.int .i64 i, .int .i64 gen]] W fun e w' => e = .returned (.bool (s.alive i gen)) ∧ Below W.heap.size W w' := fun W hW => by
    have := RAlive_any (hr1.below hW) hf6 i gen
    exact this
  obtain ⟨al, hal⟩ : ∃ al, al = s.alive i gen := ⟨_, rfl⟩
  obtain ⟨ct, hct⟩ : ∃ ct, ct = s.cnt s.g.length := ⟨_, rfl⟩
  rw [← hal] at CAL CRA
  rw [← hct] at CCO CRC
  have DGE := Lib.hid CGE
  have DFR := Lib.hid CFR
  have DCO := Lib.hid CCO
  have DRC := Lib.hid CRC
  have DAL := Lib.hid CAL
  have DRA := Lib.hid CRA
  have HGL := Lib.hid (show IRd w1 GA gn s.g ∧ IRd w1 FA fn s.fr from ⟨hr1.g.1, hr1.f.1⟩)
  have h2n : gn ≤ 1000000 := by omega
  have h2f : fn ≤ 1000000 := by omega
  have HA1 := Lib.hid hA1
  have HB1 := Lib.hid hB1
  have HB := Lib.hid hb
  clear CA CR CGE CFR CCO CRC CAL CRA hb hA1 hB1 h hr h1 hr1 ha hgn hfn hal hct hlen hfew hf6
  go_enter Try.func11, Try.ntmps11
  go_wp2_with (first
    | (rw [← hw1]; clear hw1)
    | (go_at_call 25; refine CAT.out.mono ?_; rintro e w2 ⟨rfl, hB2⟩; have b3 : Below w2.heap.size w2 (w2.alloc (.cells #[.int .i64 a1, .int .i64 a2] 24)) := (Below.refl _ _).alloc (Nat.le_refl _) _; have hT3 := Rec.new w2 24 #[.int .i64 a1, .int .i64 a2]; obtain ⟨w3, hw3⟩ : ∃ w3, w3 = w2.alloc (.cells #[.int .i64 a1, .int .i64 a2] 24) := ⟨_, rfl⟩; rw [← hw3] at b3 hT3; have HT3 := Lib.hid hT3; have B3 := Lib.hid (hB2.trans (b3.mono hB2.size)); have HW3 := Lib.hid hw3; have HA3 := Lib.hid (HA1.out.under B3.out); have c3 : w3.cell? ⟨w.heap.size + 1, 0, none⟩ = some (.int .i64 i) := (HB1.out.under B3.out).at_ 0; have CR3 := Lib.hid (DR.out w3 B3.out); clear hw3 b3 hT3 hB2)
    | (rw [← HW3.out])
    | (with_reducible refine wpList_ldQ rfl (.tmp 4) rfl rfl HA3.out ?_)
    | (go_at_call 26; refine CR3.out.mono ?_; rintro e w4 ⟨rfl, hB4⟩; have b5 : Below w4.heap.size w4 (w4.alloc (.cells #[.int .i64 a1, .int .i64 a2] 24)) := (Below.refl _ _).alloc (Nat.le_refl _) _; have hT5 := Rec.new w4 24 #[.int .i64 a1, .int .i64 a2]; obtain ⟨w5, hw5⟩ : ∃ w5, w5 = w4.alloc (.cells #[.int .i64 a1, .int .i64 a2] 24) := ⟨_, rfl⟩; rw [← hw5] at b5 hT5; have HT5 := Lib.hid hT5; have B35 := Lib.hid (hB4.trans (b5.mono hB4.size)); have HW5 := Lib.hid hw5; clear hw5 b5 hT5 hB4)
    | (rw [← HW5.out]))
  have b15 : Below w1.heap.size w1 w5 := B3.out.trans (B35.out.mono B3.out.size)
  have SS : ∀ W, Below w5.heap.size w5 W → (W.cell? ⟨w.heap.size, 0, none⟩ = some (.int .i64 E) ∧ W.cell? ⟨w.heap.size, 1, none⟩ = some (.int .i64 L) ∧ W.cell? ⟨w.heap.size, 2, none⟩ = some (.slice GA gn gc) ∧ W.cell? ⟨w.heap.size, 3, none⟩ = some (.slice FA fn fc) ∧ W.cell? ⟨w.heap.size + 1, 0, none⟩ = some (.int .i64 i) ∧ W.cell? ⟨w.heap.size + 1, 1, none⟩ = some (.int .i64 gen) ∧ W.cell? ⟨w2.heap.size, 0, none⟩ = some (.int .i64 a1) ∧ W.cell? ⟨w2.heap.size, 1, none⟩ = some (.int .i64 a2) ∧ W.cell? ⟨w4.heap.size, 0, none⟩ = some (.int .i64 a1) ∧ W.cell? ⟨w4.heap.size, 1, none⟩ = some (.int .i64 a2)) := fun W hW => by
    have x1 := (HA1.out.under b15).under hW
    have x2 := (HB1.out.under b15).under hW
    have x3 := (HT3.out.under B35.out).under hW
    have x4 := HT5.out.under hW
    exact ⟨x1.at_ 0, x1.at_ 1, x1.at_ 2, x1.at_ 3, x2.at_ 0, x2.at_ 1, x3.at_ 0, x3.at_ 1, x4.at_ 0, x4.at_ 1⟩
  have bd : Below w5.heap.size w5 w5.drew := (Below.refl _ _).drew
  have HS := Lib.hid SS
  have s5d := HS.out _ bd
  have HBD := Lib.hid (b15.trans (bd.mono b15.size))
  have HSW : Hid (∀ W, Below w1.heap.size w1 W → w5.heap.size ≤ W.heap.size → Below w5.heap.size w5 W → True) := Lib.hid (fun _ _ _ _ => trivial)
  have HB5 := Lib.hid b15
  have HD5 := Lib.hid bd
  clear SS bd b15 CAT DR HA1 HB1 HT3 HT5 B3 B35 HA3 CR3 HW3 HW5 c0 c3 HSW
  go_region_held3 (fun W => W.cell? ⟨w.heap.size, 0, none⟩ = some (.int .i64 E) ∧ W.cell? ⟨w.heap.size, 1, none⟩ = some (.int .i64 L) ∧ W.cell? ⟨w.heap.size, 2, none⟩ = some (.slice GA gn gc) ∧ W.cell? ⟨w.heap.size, 3, none⟩ = some (.slice FA fn fc) ∧ W.cell? ⟨w.heap.size + 1, 0, none⟩ = some (.int .i64 i) ∧ W.cell? ⟨w.heap.size + 1, 1, none⟩ = some (.int .i64 gen) ∧ W.cell? ⟨w2.heap.size, 0, none⟩ = some (.int .i64 a1) ∧ W.cell? ⟨w2.heap.size, 1, none⟩ = some (.int .i64 a2) ∧ W.cell? ⟨w4.heap.size, 0, none⟩ = some (.int .i64 a1) ∧ W.cell? ⟨w4.heap.size, 1, none⟩ = some (.int .i64 a2)) (first
      | with_reducible exact s5d
      | with_reducible exact s6
      | with_reducible exact s7
      | with_reducible exact s8
      | with_reducible exact s9
      | with_reducible exact s10
      | with_reducible exact s11
      | with_reducible exact s12) (first
    | (go_at_call 19; refine (DGE.out _ HBD.out).mono ?_; rintro e w6 ⟨A6, c6, rfl, hI6, hB6⟩; have hb6 := HD5.out.trans hB6; have hx6 := HB5.out.trans (hb6.mono HB5.out.size); have s6 := HS.out w6 hb6; have CS6 := Lib.hid (SameList_yes w6 A6 GA gn c6 gc s.g hI6 (HGL.out.1.below hx6) h2n); have HB6 := Lib.hid hb6; clear hI6 hB6 hb6 hx6)
    | (go_at_call 27; refine CS6.out.mono ?_; rintro e w7 ⟨rfl, hB7⟩; have hb7 := HB6.out.trans (hB7.mono HB6.out.size); have s7 := HS.out w7 hb7; have CF7 := Lib.hid (DFR.out w7 (HB5.out.trans (hb7.mono HB5.out.size))); have HB7 := Lib.hid hb7; clear hB7 hb7 CS6)
    | (go_at_call 20; refine CF7.out.mono ?_; rintro e w8 ⟨A8, c8, rfl, hI8, hB8⟩; have hb8 := HB7.out.trans (hB8.mono HB7.out.size); have s8 := HS.out w8 hb8; have CS8 := Lib.hid (SameList_yes w8 A8 FA fn c8 fc s.fr hI8 (HGL.out.2.below (HB5.out.trans (hb8.mono HB5.out.size))) h2f); have HB8 := Lib.hid hb8; clear hI8 hB8 hb8)
    | (go_at_call 27; refine CS8.out.mono ?_; rintro e w9 ⟨rfl, hB9⟩; have hb9 := HB8.out.trans (hB9.mono HB8.out.size); have s9 := HS.out w9 hb9; have CC9 := Lib.hid (DCO.out w9 (HB5.out.trans (hb9.mono HB5.out.size))); have CR9 := Lib.hid (DRC.out w9 (HB5.out.trans (hb9.mono HB5.out.size))); have HB9 := Lib.hid hb9; clear hB9 hb9 CS8)
    | (go_at_call 18; refine CC9.out.mono ?_; rintro e w' ⟨rfl, rfl⟩)
    | (go_at_call 28; refine CR9.out.mono ?_; rintro e w10 ⟨rfl, hB10⟩; have hb10 := HB9.out.trans (hB10.mono HB9.out.size); have s10 := HS.out w10 hb10; have CA10 := Lib.hid (DAL.out w10 (HB5.out.trans (hb10.mono HB5.out.size))); have HB10 := Lib.hid hb10; clear hB10 hb10)
    | (go_at_call 12; refine CA10.out.mono ?_; rintro e w11 ⟨rfl, hB11⟩; have hb11 := HB10.out.trans (hB11.mono HB10.out.size); have s11 := HS.out w11 hb11; have CA11 := Lib.hid (DRA.out w11 (HB5.out.trans (hb11.mono HB5.out.size))); have HB11 := Lib.hid hb11; clear hB11 hb11)
    | (go_at_call 29; refine CA11.out.mono ?_; rintro e w12 ⟨rfl, hB12⟩; have hb12 := HB11.out.trans (hB12.mono HB11.out.size); have s12 := HS.out w12 hb12; have HB12 := Lib.hid hb12; clear hB12 hb12))
  go_wp2
  go_ret
  exact ⟨rfl, HB.out.trans ((HB5.out.trans (HB12.out.mono HB5.out.size)).mono HB.out.size)⟩
end
end Go.Proofs.Ytldabjgnnmoneaa
