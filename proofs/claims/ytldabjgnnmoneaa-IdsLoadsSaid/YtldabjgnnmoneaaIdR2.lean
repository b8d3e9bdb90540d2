/- The reference's At, Alive, Count. -/
import Derived.Test.YtldabjgnnmoneaaIdR1
namespace Go.Proofs.Ytldabjgnnmoneaa
open Go.RowKit

section
variable {K : Nat → Prop} {w : World} {d : Rv} {s : NS}
theorem RAt_neg (h : RS K w d s) (hf : s.fr.length ≤ 1000000) (k : Int) (hk : k < 0) :
    Calls Try.prog 26 #[d.v, .int .i64 k] w fun e w' => e = .returned (.tuple #[idv (0, 0), .bool false]) ∧ Below w.heap.size w w' := by
  obtain ⟨E, L, GA, gn, gc, FA, fn, fc⟩ := d
  obtain ⟨hE, hL, hgn, hfn, hg, hfr, hgc, hfc⟩ := h
  simp only at hE hL hgn hfn hg hfr hgc hfc
  subst hE hL hgn hfn
  have hd0 : decide (k < 0) = true := decide_eq_true hk
  show Calls _ _ #[.agg #[.int .i64 s.E, .int .i64 s.L, .slice GA s.g.length gc, .slice FA s.fr.length fc], .int .i64 _] w _
  obtain ⟨w1, hw1⟩ : ∃ w1, w1 = (w.alloc (.cells #[.int .i64 s.E, .int .i64 s.L, .slice GA s.g.length gc, .slice FA s.fr.length fc] 30)).alloc (.cells #[.int .i64 0, .int .i64 0] 24) := ⟨_, rfl⟩
  have hb : Below w.heap.size w w1 := by rw [hw1]; exact ((Below.refl _ _).alloc (Nat.le_refl _) _).alloc (by simp) _
  have hS1 : Rec 30 w1 w.heap.size #[.int .i64 s.E, .int .i64 s.L, .slice GA s.g.length gc, .slice FA s.fr.length fc] := by rw [hw1]; exact (Rec.new w _ _).under ((Below.refl _ _).alloc (Nat.le_refl _) _)
  have hR1 : Rec 24 w1 (w.heap.size + 1) #[.int .i64 0, .int .i64 0] := by
    have := Rec.new (w.alloc (.cells #[.int .i64 s.E, .int .i64 s.L, .slice GA s.g.length gc, .slice FA s.fr.length fc] 30)) 24 #[.int .i64 0, .int .i64 0]
    rw [World.size_alloc] at this
    rw [hw1]; exact this
  have c1 : w1.cell? ⟨w.heap.size, 1, none⟩ = some (.int .i64 s.L) := hS1.at_ 1
  have c2 : w1.cell? ⟨w.heap.size, 2, none⟩ = some (.slice GA s.g.length gc) := hS1.at_ 2
  have c3 : w1.cell? ⟨w.heap.size, 3, none⟩ = some (.slice FA s.fr.length fc) := hS1.at_ 3
  have HRN : ∀ n, Rec 24 (w1.drewN n) (w.heap.size + 1) #[.int .i64 0, .int .i64 0] := fun n => hR1.under (below_drewN _ _)
  have CH : ∀ n, Calls Try.prog 33 #[.slice FA s.fr.length fc, .int .i64 k] (w1.drewN n) fun e w' => e = .returned (.bool (decide (k ∈ s.fr))) ∧ w' = w1.drewN n := fun n => Has_any FA _ fc s.fr _ _ ((hfr.1.below hb).below (below_drewN _ _)) hf
  have HRN := Lib.hid HRN
  have HB := Lib.hid hb
  have CK := Lib.hid CH
  have HR := Lib.hid hR1
  clear hb CH hR1 hS1 hg hfr
  go_enter Try.func26, Try.ntmps26
  go_wp2_with (first | (rw [← hw1]; clear hw1))
  go_quiet ((go_at_call 33; exact Calls.quiet_of_same (CK.out _)))
  go_wp2_with (with_reducible refine wpList_stP (x1 := 0) (y1 := 0) rfl (.tmp 4) (.tmp 31) rfl rfl rfl (HRN.out _) ?_; intro w5 hR5 hF5)
  refine bodyPost_ret (res_ct rfl rfl (hR5.load idT rfl)) rfl ?_
  exact ⟨rfl, (HB.out.trans ((below_drewN _ _).mono HB.out.size)).trans (hF5.toBelow (fun x hx => by rw [show x = w.heap.size + 1 from hx]; omega) (by have := HB.out.size; simpa using this))⟩
theorem RAt_big (h : RS K w d s) (hf : s.fr.length ≤ 1000000) (k : Int) (hk : 0 ≤ k) (hk2 : (s.g.length : Int) ≤ k) :
    Calls Try.prog 26 #[d.v, .int .i64 k] w fun e w' => e = .returned (.tuple #[idv (0, 0), .bool false]) ∧ Below w.heap.size w w' := by
  obtain ⟨E, L, GA, gn, gc, FA, fn, fc⟩ := d
  obtain ⟨hE, hL, hgn, hfn, hg, hfr, hgc, hfc⟩ := h
  simp only at hE hL hgn hfn hg hfr hgc hfc
  subst hE hL hgn hfn
  obtain ⟨j, rfl⟩ : ∃ j : Nat, k = (j : Int) := ⟨k.toNat, by omega⟩
  have hd0 : decide ((j : Int) < 0) = false := decide_eq_false (by omega)
  have hd1 : decide ((s.g.length : Int) ≤ (j : Int)) = true := decide_eq_true hk2
  have hd1n : decide (s.g.length ≤ j) = true := decide_eq_true (by omega)
  show Calls _ _ #[.agg #[.int .i64 s.E, .int .i64 s.L, .slice GA s.g.length gc, .slice FA s.fr.length fc], .int .i64 _] w _
  obtain ⟨w1, hw1⟩ : ∃ w1, w1 = (w.alloc (.cells #[.int .i64 s.E, .int .i64 s.L, .slice GA s.g.length gc, .slice FA s.fr.length fc] 30)).alloc (.cells #[.int .i64 0, .int .i64 0] 24) := ⟨_, rfl⟩
  have hb : Below w.heap.size w w1 := by rw [hw1]; exact ((Below.refl _ _).alloc (Nat.le_refl _) _).alloc (by simp) _
  have hS1 : Rec 30 w1 w.heap.size #[.int .i64 s.E, .int .i64 s.L, .slice GA s.g.length gc, .slice FA s.fr.length fc] := by rw [hw1]; exact (Rec.new w _ _).under ((Below.refl _ _).alloc (Nat.le_refl _) _)
  have hR1 : Rec 24 w1 (w.heap.size + 1) #[.int .i64 0, .int .i64 0] := by
    have := Rec.new (w.alloc (.cells #[.int .i64 s.E, .int .i64 s.L, .slice GA s.g.length gc, .slice FA s.fr.length fc] 30)) 24 #[.int .i64 0, .int .i64 0]
    rw [World.size_alloc] at this
    rw [hw1]; exact this
  have c1 : w1.cell? ⟨w.heap.size, 1, none⟩ = some (.int .i64 s.L) := hS1.at_ 1
  have c2 : w1.cell? ⟨w.heap.size, 2, none⟩ = some (.slice GA s.g.length gc) := hS1.at_ 2
  have c3 : w1.cell? ⟨w.heap.size, 3, none⟩ = some (.slice FA s.fr.length fc) := hS1.at_ 3
  have HRN : ∀ n, Rec 24 (w1.drewN n) (w.heap.size + 1) #[.int .i64 0, .int .i64 0] := fun n => hR1.under (below_drewN _ _)
  have CH : ∀ n, Calls Try.prog 33 #[.slice FA s.fr.length fc, .int .i64 (j : Int)] (w1.drewN n) fun e w' => e = .returned (.bool (decide ((j : Int) ∈ s.fr))) ∧ w' = w1.drewN n := fun n => Has_any FA _ fc s.fr _ _ ((hfr.1.below hb).below (below_drewN _ _)) hf
  have HRN := Lib.hid HRN
  have HB := Lib.hid hb
  have CK := Lib.hid CH
  have HR := Lib.hid hR1
  clear hb CH hR1 hS1 hg hfr
  go_enter Try.func26, Try.ntmps26
  go_wp2_with (first | (rw [← hw1]; clear hw1))
  go_quiet ((go_at_call 33; exact Calls.quiet_of_same (CK.out _)))
  go_wp2_with (with_reducible refine wpList_stP (x1 := 0) (y1 := 0) rfl (.tmp 4) (.tmp 31) rfl rfl rfl (HRN.out _) ?_; intro w5 hR5 hF5)
  refine bodyPost_ret (res_ct rfl rfl (hR5.load idT rfl)) rfl ?_
  exact ⟨rfl, (HB.out.trans ((below_drewN _ _).mono HB.out.size)).trans (hF5.toBelow (fun x hx => by rw [show x = w.heap.size + 1 from hx]; omega) (by have := HB.out.size; simpa using this))⟩
theorem RAt_free (h : RS K w d s) (hf : s.fr.length ≤ 1000000) (k : Int) (hk : 0 ≤ k) (hk2 : k < s.g.length) (hm : k ∈ s.fr) :
    Calls Try.prog 26 #[d.v, .int .i64 k] w fun e w' => e = .returned (.tuple #[idv (0, 0), .bool false]) ∧ Below w.heap.size w w' := by
  obtain ⟨E, L, GA, gn, gc, FA, fn, fc⟩ := d
  obtain ⟨hE, hL, hgn, hfn, hg, hfr, hgc, hfc⟩ := h
  simp only at hE hL hgn hfn hg hfr hgc hfc
  subst hE hL hgn hfn
  obtain ⟨j, rfl⟩ : ∃ j : Nat, k = (j : Int) := ⟨k.toNat, by omega⟩
  have hj : j < s.g.length := by omega
  have hd0 : decide ((j : Int) < 0) = false := decide_eq_false (by omega)
  have hd1 : decide ((s.g.length : Int) ≤ (j : Int)) = false := decide_eq_false (by omega)
  have hd1n : decide (s.g.length ≤ j) = false := decide_eq_false (by omega)
  show Calls _ _ #[.agg #[.int .i64 s.E, .int .i64 s.L, .slice GA s.g.length gc, .slice FA s.fr.length fc], .int .i64 _] w _
  obtain ⟨w1, hw1⟩ : ∃ w1, w1 = (w.alloc (.cells #[.int .i64 s.E, .int .i64 s.L, .slice GA s.g.length gc, .slice FA s.fr.length fc] 30)).alloc (.cells #[.int .i64 0, .int .i64 0] 24) := ⟨_, rfl⟩
  have hb : Below w.heap.size w w1 := by rw [hw1]; exact ((Below.refl _ _).alloc (Nat.le_refl _) _).alloc (by simp) _
  have hS1 : Rec 30 w1 w.heap.size #[.int .i64 s.E, .int .i64 s.L, .slice GA s.g.length gc, .slice FA s.fr.length fc] := by rw [hw1]; exact (Rec.new w _ _).under ((Below.refl _ _).alloc (Nat.le_refl _) _)
  have hR1 : Rec 24 w1 (w.heap.size + 1) #[.int .i64 0, .int .i64 0] := by
    have := Rec.new (w.alloc (.cells #[.int .i64 s.E, .int .i64 s.L, .slice GA s.g.length gc, .slice FA s.fr.length fc] 30)) 24 #[.int .i64 0, .int .i64 0]
    rw [World.size_alloc] at this
    rw [hw1]; exact this
  have c1 : w1.cell? ⟨w.heap.size, 1, none⟩ = some (.int .i64 s.L) := hS1.at_ 1
  have c2 : w1.cell? ⟨w.heap.size, 2, none⟩ = some (.slice GA s.g.length gc) := hS1.at_ 2
  have c3 : w1.cell? ⟨w.heap.size, 3, none⟩ = some (.slice FA s.fr.length fc) := hS1.at_ 3
  have HRN : ∀ n, Rec 24 (w1.drewN n) (w.heap.size + 1) #[.int .i64 0, .int .i64 0] := fun n => hR1.under (below_drewN _ _)
  have CH : ∀ n, Calls Try.prog 33 #[.slice FA s.fr.length fc, .int .i64 (j : Int)] (w1.drewN n) fun e w' => e = .returned (.bool (decide ((j : Int) ∈ s.fr))) ∧ w' = w1.drewN n := fun n => Has_any FA _ fc s.fr _ _ ((hfr.1.below hb).below (below_drewN _ _)) hf
  have CH : ∀ n, Calls Try.prog 33 #[.slice FA s.fr.length fc, .int .i64 (j : Int)] (w1.drewN n) fun e w' => e = .returned (.bool true) ∧ w' = w1.drewN n := by simpa only [decide_eq_true hm] using CH
  clear hm
  have HRN := Lib.hid HRN
  have HB := Lib.hid hb
  have CK := Lib.hid CH
  have HR := Lib.hid hR1
  clear hb CH hR1 hS1 hg hfr
  go_enter Try.func26, Try.ntmps26
  go_wp2_with (first | (rw [← hw1]; clear hw1))
  go_quiet ((go_at_call 33; exact Calls.quiet_of_same (CK.out _)))
  go_wp2_with (with_reducible refine wpList_stP (x1 := 0) (y1 := 0) rfl (.tmp 4) (.tmp 31) rfl rfl rfl (HRN.out _) ?_; intro w5 hR5 hF5)
  refine bodyPost_ret (res_ct rfl rfl (hR5.load idT rfl)) rfl ?_
  exact ⟨rfl, (HB.out.trans ((below_drewN _ _).mono HB.out.size)).trans (hF5.toBelow (fun x hx => by rw [show x = w.heap.size + 1 from hx]; omega) (by have := HB.out.size; simpa using this))⟩
theorem RAt_old (h : RS K w d s) (hf : s.fr.length ≤ 1000000) (k : Int) (hk : 0 ≤ k) (hk2 : k < s.g.length) (hm : k ∉ s.fr) (z : Int) (hz : s.g.getD k.toNat 0 = z) (hz2 : s.L ≤ z) :
    Calls Try.prog 26 #[d.v, .int .i64 k] w fun e w' => e = .returned (.tuple #[idv (0, 0), .bool false]) ∧ Below w.heap.size w w' := by
  obtain ⟨E, L, GA, gn, gc, FA, fn, fc⟩ := d
  obtain ⟨hE, hL, hgn, hfn, hg, hfr, hgc, hfc⟩ := h
  simp only at hE hL hgn hfn hg hfr hgc hfc
  subst hE hL hgn hfn
  obtain ⟨j, rfl⟩ : ∃ j : Nat, k = (j : Int) := ⟨k.toNat, by omega⟩
  rw [Int.toNat_natCast] at hz
  have hj : j < s.g.length := by omega
  have hd0 : decide ((j : Int) < 0) = false := decide_eq_false (by omega)
  have hd1 : decide ((s.g.length : Int) ≤ (j : Int)) = false := decide_eq_false (by omega)
  have hd1n : decide (s.g.length ≤ j) = false := decide_eq_false (by omega)
  have hd2 : decide (s.L ≤ z) = true := decide_eq_true hz2
  show Calls _ _ #[.agg #[.int .i64 s.E, .int .i64 s.L, .slice GA s.g.length gc, .slice FA s.fr.length fc], .int .i64 _] w _
  obtain ⟨w1, hw1⟩ : ∃ w1, w1 = (w.alloc (.cells #[.int .i64 s.E, .int .i64 s.L, .slice GA s.g.length gc, .slice FA s.fr.length fc] 30)).alloc (.cells #[.int .i64 0, .int .i64 0] 24) := ⟨_, rfl⟩
  have hb : Below w.heap.size w w1 := by rw [hw1]; exact ((Below.refl _ _).alloc (Nat.le_refl _) _).alloc (by simp) _
  have hS1 : Rec 30 w1 w.heap.size #[.int .i64 s.E, .int .i64 s.L, .slice GA s.g.length gc, .slice FA s.fr.length fc] := by rw [hw1]; exact (Rec.new w _ _).under ((Below.refl _ _).alloc (Nat.le_refl _) _)
  have hR1 : Rec 24 w1 (w.heap.size + 1) #[.int .i64 0, .int .i64 0] := by
    have := Rec.new (w.alloc (.cells #[.int .i64 s.E, .int .i64 s.L, .slice GA s.g.length gc, .slice FA s.fr.length fc] 30)) 24 #[.int .i64 0, .int .i64 0]
    rw [World.size_alloc] at this
    rw [hw1]; exact this
  have c1 : w1.cell? ⟨w.heap.size, 1, none⟩ = some (.int .i64 s.L) := hS1.at_ 1
  have c2 : w1.cell? ⟨w.heap.size, 2, none⟩ = some (.slice GA s.g.length gc) := hS1.at_ 2
  have c3 : w1.cell? ⟨w.heap.size, 3, none⟩ = some (.slice FA s.fr.length fc) := hS1.at_ 3
  have HRN : ∀ n, Rec 24 (w1.drewN n) (w.heap.size + 1) #[.int .i64 0, .int .i64 0] := fun n => hR1.under (below_drewN _ _)
  have CH : ∀ n, Calls Try.prog 33 #[.slice FA s.fr.length fc, .int .i64 (j : Int)] (w1.drewN n) fun e w' => e = .returned (.bool (decide ((j : Int) ∈ s.fr))) ∧ w' = w1.drewN n := fun n => Has_any FA _ fc s.fr _ _ ((hfr.1.below hb).below (below_drewN _ _)) hf
  have CH : ∀ n, Calls Try.prog 33 #[.slice FA s.fr.length fc, .int .i64 (j : Int)] (w1.drewN n) fun e w' => e = .returned (.bool false) ∧ w' = w1.drewN n := by simpa only [decide_eq_false hm] using CH
  obtain ⟨b, o, hGA, _, hc⟩ := (hg.1.below hb).2 (by omega)
  have k0 := hc j hj
  subst hGA
  rw [hz] at k0
  clear hm hz hc
  have HRN := Lib.hid HRN
  have HB := Lib.hid hb
  have CK := Lib.hid CH
  have HR := Lib.hid hR1
  clear hb CH hR1 hS1 hg hfr
  go_enter Try.func26, Try.ntmps26
  go_wp2_with (first | (rw [← hw1]; clear hw1))
  go_quiet ((go_at_call 33; exact Calls.quiet_of_same (CK.out _)))
  go_wp2_with (with_reducible refine wpList_stP (x1 := 0) (y1 := 0) rfl (.tmp 4) (.tmp 31) rfl rfl rfl (HRN.out _) ?_; intro w5 hR5 hF5)
  refine bodyPost_ret (res_ct rfl rfl (hR5.load idT rfl)) rfl ?_
  exact ⟨rfl, (HB.out.trans ((below_drewN _ _).mono HB.out.size)).trans (hF5.toBelow (fun x hx => by rw [show x = w.heap.size + 1 from hx]; omega) (by have := HB.out.size; simpa using this))⟩
theorem RAt_live (h : RS K w d s) (hf : s.fr.length ≤ 1000000) (k : Int) (hk : 0 ≤ k) (hk2 : k < s.g.length) (hm : k ∉ s.fr) (z : Int) (hz : s.g.getD k.toNat 0 = z) (hz2 : z < s.L) :
    Calls Try.prog 26 #[d.v, .int .i64 k] w fun e w' => e = .returned (.tuple #[idv (k, z), .bool true]) ∧ Below w.heap.size w w' := by
  obtain ⟨E, L, GA, gn, gc, FA, fn, fc⟩ := d
  obtain ⟨hE, hL, hgn, hfn, hg, hfr, hgc, hfc⟩ := h
  simp only at hE hL hgn hfn hg hfr hgc hfc
  subst hE hL hgn hfn
  obtain ⟨j, rfl⟩ : ∃ j : Nat, k = (j : Int) := ⟨k.toNat, by omega⟩
  rw [Int.toNat_natCast] at hz
  have hj : j < s.g.length := by omega
  have hd0 : decide ((j : Int) < 0) = false := decide_eq_false (by omega)
  have hd1 : decide ((s.g.length : Int) ≤ (j : Int)) = false := decide_eq_false (by omega)
  have hd1n : decide (s.g.length ≤ j) = false := decide_eq_false (by omega)
  have hd2 : decide (s.L ≤ z) = false := decide_eq_false (by omega)
  show Calls _ _ #[.agg #[.int .i64 s.E, .int .i64 s.L, .slice GA s.g.length gc, .slice FA s.fr.length fc], .int .i64 _] w _
  obtain ⟨w1, hw1⟩ : ∃ w1, w1 = (w.alloc (.cells #[.int .i64 s.E, .int .i64 s.L, .slice GA s.g.length gc, .slice FA s.fr.length fc] 30)).alloc (.cells #[.int .i64 0, .int .i64 0] 24) := ⟨_, rfl⟩
  have hb : Below w.heap.size w w1 := by rw [hw1]; exact ((Below.refl _ _).alloc (Nat.le_refl _) _).alloc (by simp) _
  have hS1 : Rec 30 w1 w.heap.size #[.int .i64 s.E, .int .i64 s.L, .slice GA s.g.length gc, .slice FA s.fr.length fc] := by rw [hw1]; exact (Rec.new w _ _).under ((Below.refl _ _).alloc (Nat.le_refl _) _)
  have hR1 : Rec 24 w1 (w.heap.size + 1) #[.int .i64 0, .int .i64 0] := by
    have := Rec.new (w.alloc (.cells #[.int .i64 s.E, .int .i64 s.L, .slice GA s.g.length gc, .slice FA s.fr.length fc] 30)) 24 #[.int .i64 0, .int .i64 0]
    rw [World.size_alloc] at this
    rw [hw1]; exact this
  have c1 : w1.cell? ⟨w.heap.size, 1, none⟩ = some (.int .i64 s.L) := hS1.at_ 1
  have c2 : w1.cell? ⟨w.heap.size, 2, none⟩ = some (.slice GA s.g.length gc) := hS1.at_ 2
  have c3 : w1.cell? ⟨w.heap.size, 3, none⟩ = some (.slice FA s.fr.length fc) := hS1.at_ 3
  have HRN : ∀ n, Rec 24 (w1.drewN n) (w.heap.size + 1) #[.int .i64 0, .int .i64 0] := fun n => hR1.under (below_drewN _ _)
  have CH : ∀ n, Calls Try.prog 33 #[.slice FA s.fr.length fc, .int .i64 (j : Int)] (w1.drewN n) fun e w' => e = .returned (.bool (decide ((j : Int) ∈ s.fr))) ∧ w' = w1.drewN n := fun n => Has_any FA _ fc s.fr _ _ ((hfr.1.below hb).below (below_drewN _ _)) hf
  have CH : ∀ n, Calls Try.prog 33 #[.slice FA s.fr.length fc, .int .i64 (j : Int)] (w1.drewN n) fun e w' => e = .returned (.bool false) ∧ w' = w1.drewN n := by simpa only [decide_eq_false hm] using CH
  obtain ⟨b, o, hGA, _, hc⟩ := (hg.1.below hb).2 (by omega)
  have k0 := hc j hj
  subst hGA
  rw [hz] at k0
  clear hm hz hc
  have HRN := Lib.hid HRN
  have HB := Lib.hid hb
  have CK := Lib.hid CH
  have HR := Lib.hid hR1
  clear hb CH hR1 hS1 hg hfr
  go_enter Try.func26, Try.ntmps26
  go_wp2_with (first | (rw [← hw1]; clear hw1))
  go_quiet ((go_at_call 33; exact Calls.quiet_of_same (CK.out _)))
  go_wp2_with (with_reducible refine wpList_stP (x1 := j) (y1 := z) rfl (.tmp 4) (.tmp 38) rfl rfl rfl (HRN.out _) ?_; intro w5 hR5 hF5)
  refine bodyPost_ret (res_ct rfl rfl (hR5.load idT rfl)) rfl ?_
  exact ⟨rfl, (HB.out.trans ((below_drewN _ _).mono HB.out.size)).trans (hF5.toBelow (fun x hx => by rw [show x = w.heap.size + 1 from hx]; omega) (by have := HB.out.size; simpa using this))⟩

theorem RAt_any (h : RS K w d s) (hf : s.fr.length ≤ 1000000) (k : Int) :
    Calls Try.prog 26 #[d.v, .int .i64 k] w fun e w' => e = .returned (.tuple #[idv (s.at_ k).1, .bool (s.at_ k).2]) ∧ Below w.heap.size w w' := by
  by_cases hl : s.live k = true
  · obtain ⟨q0, q1, q2, q3⟩ := NS.live_iff.1 hl
    have := RAt_live h hf k q0 q1 q2 _ rfl q3
    unfold NS.at_
    rw [if_pos hl]
    exact this
  · have ha : s.at_ k = ((0, 0), false) := by unfold NS.at_; rw [if_neg hl]
    rw [ha]
    by_cases q0 : 0 ≤ k
    · by_cases q1 : k < s.g.length
      · by_cases q2 : k ∈ s.fr
        · exact RAt_free h hf k q0 q1 q2
        · by_cases q3 : s.g.getD k.toNat 0 < s.L
          · exact absurd (NS.live_iff.2 ⟨q0, q1, q2, q3⟩) hl
          · exact RAt_old h hf k q0 q1 q2 _ rfl (by omega)
      · exact RAt_big h hf k q0 (by omega)
    · exact RAt_neg h hf k (by omega)
end
end Go.Proofs.Ytldabjgnnmoneaa
