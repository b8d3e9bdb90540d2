/- IdR2, IdR3, IdR4, IdR5, IdR6, IdR7 -/
import Derived.Test.YthiknmhkdeicjaaGreatDoorQs1
import Derived.Test.YthiknmhkdeicjaaGreatDoorQs2
import Derived.Test.YthiknmhkdeicjaaGreatDoorQs20
import Derived.Deep.RegionLaw
namespace Go.Proofs.YthiknmhkdeicjaaGreatDoor
open Go.RowKit
section
variable {K : Nat -> Prop} {w : World} {d : Rv} {s : NS}
theorem RAt_neg (h : RS K w d s) (hf : s.fr.length <= 1000000) (k : Int) (hk : k < 0) :
  Calls Tryz.prog 71 #[d.v, .int .i64 k] w fun e w' => e = .returned (.tuple #[idv (0, 0), .bool false]) /\ Below w.heap.size w w' := by
 obtain ⟨E, L, GA, gn, gc, FA, fn, fc⟩ := d
 obtain ⟨hE, hL, hgn, hfn, hg, hfr, hgc, hfc⟩ := h
 simp only at hE hL hgn hfn hg hfr hgc hfc
 subst hE hL hgn hfn
 have hd0 : decide (k < 0) = true := decide_eq_true hk
 show Calls _ _ #[.agg #[.int .i64 s.E, .int .i64 s.L, .slice GA s.g.length gc, .slice FA s.fr.length fc], .int .i64 _] w _
 obtain ⟨w1, hw1⟩ : ∃ w1, w1 = (w.alloc (.cells #[.int .i64 s.E, .int .i64 s.L, .slice GA s.g.length gc, .slice FA s.fr.length fc] 140)).alloc (.cells #[.int .i64 0, .int .i64 0] 39) := ⟨_, rfl⟩
 have hb : Below w.heap.size w w1 := by rw [hw1]; exact ((Below.refl _ _).alloc (Nat.le_refl _) _).alloc (by simp) _
 have hS1 : Rec 140 w1 w.heap.size #[.int .i64 s.E, .int .i64 s.L, .slice GA s.g.length gc, .slice FA s.fr.length fc] := by rw [hw1]; exact (Rec.new w _ _).under ((Below.refl _ _).alloc (Nat.le_refl _) _)
 have hR1 : Rec 39 w1 (w.heap.size + 1) #[.int .i64 0, .int .i64 0] := by
  have := Rec.new (w.alloc (.cells #[.int .i64 s.E, .int .i64 s.L, .slice GA s.g.length gc, .slice FA s.fr.length fc] 140)) 39 #[.int .i64 0, .int .i64 0]
  rw [World.size_alloc] at this
  rw [hw1]; exact this
 have c1 : w1.cell? ⟨w.heap.size, 1, none⟩ = some (.int .i64 s.L) := hS1.at_ 1
 have c2 : w1.cell? ⟨w.heap.size, 2, none⟩ = some (.slice GA s.g.length gc) := hS1.at_ 2
 have c3 : w1.cell? ⟨w.heap.size, 3, none⟩ = some (.slice FA s.fr.length fc) := hS1.at_ 3
 have HRN : ∀ n, Rec 39 (w1.drewN n) (w.heap.size + 1) #[.int .i64 0, .int .i64 0] := fun n => hR1.under (below_drewNi _ _)
 have CH : ∀ n, Calls Tryz.prog 127 #[.slice FA s.fr.length fc, .int .i64 k] (w1.drewN n) fun e w' => e = .returned (.bool (decide (k ∈ s.fr))) /\ w' = w1.drewN n := fun n => IHas_any FA _ fc s.fr _ _ ((hfr.1.below hb).below (below_drewNi _ _)) hf
 have HRN := hi_ HRN
 have HB := hi_ hb
 have CK := hi_ CH
 have HR := hi_ hR1
 clear hb CH hR1 hS1 hg hfr
 go_enter Tryz.func71, Tryz.ntmps71
 go_wp2_with (first | (rw [<- hw1]; clear hw1))
 go_quiet ((go_at_call 127; exact Calls.quiet_of_same (CK.out _)))
 go_wp2_with (with_reducible refine wpList_stP (x1 := 0) (y1 := 0) rfl (.tmp 4) (.tmp 31) rfl rfl rfl (HRN.out _) ?_; intro w5 hR5 hF5)
 refine bodyPost_ret (res_ct rfl rfl (hR5.load idT rfl)) rfl ?_
 exact ⟨rfl, (HB.out.trans ((below_drewNi _ _).mono HB.out.size)).trans (hF5.toBelow (fun x hx => by rw [show x = w.heap.size + 1 from hx]; omega) (by have := HB.out.size; simpa using this))⟩
theorem RAt_big (h : RS K w d s) (hf : s.fr.length <= 1000000) (k : Int) (hk : 0 <= k) (hk2 : (s.g.length : Int) <= k) :
  Calls Tryz.prog 71 #[d.v, .int .i64 k] w fun e w' => e = .returned (.tuple #[idv (0, 0), .bool false]) /\ Below w.heap.size w w' := by
 obtain ⟨E, L, GA, gn, gc, FA, fn, fc⟩ := d
 obtain ⟨hE, hL, hgn, hfn, hg, hfr, hgc, hfc⟩ := h
 simp only at hE hL hgn hfn hg hfr hgc hfc
 subst hE hL hgn hfn
 obtain ⟨j, rfl⟩ : ∃ j : Nat, k = (j : Int) := ⟨k.toNat, by omega⟩
 have hd0 : decide ((j : Int) < 0) = false := decide_eq_false (by omega)
 have hd1 : decide ((s.g.length : Int) <= (j : Int)) = true := decide_eq_true hk2
 have hd1n : decide (s.g.length <= j) = true := decide_eq_true (by omega)
 show Calls _ _ #[.agg #[.int .i64 s.E, .int .i64 s.L, .slice GA s.g.length gc, .slice FA s.fr.length fc], .int .i64 _] w _
 obtain ⟨w1, hw1⟩ : ∃ w1, w1 = (w.alloc (.cells #[.int .i64 s.E, .int .i64 s.L, .slice GA s.g.length gc, .slice FA s.fr.length fc] 140)).alloc (.cells #[.int .i64 0, .int .i64 0] 39) := ⟨_, rfl⟩
 have hb : Below w.heap.size w w1 := by rw [hw1]; exact ((Below.refl _ _).alloc (Nat.le_refl _) _).alloc (by simp) _
 have hS1 : Rec 140 w1 w.heap.size #[.int .i64 s.E, .int .i64 s.L, .slice GA s.g.length gc, .slice FA s.fr.length fc] := by rw [hw1]; exact (Rec.new w _ _).under ((Below.refl _ _).alloc (Nat.le_refl _) _)
 have hR1 : Rec 39 w1 (w.heap.size + 1) #[.int .i64 0, .int .i64 0] := by
  have := Rec.new (w.alloc (.cells #[.int .i64 s.E, .int .i64 s.L, .slice GA s.g.length gc, .slice FA s.fr.length fc] 140)) 39 #[.int .i64 0, .int .i64 0]
  rw [World.size_alloc] at this
  rw [hw1]; exact this
 have c1 : w1.cell? ⟨w.heap.size, 1, none⟩ = some (.int .i64 s.L) := hS1.at_ 1
 have c2 : w1.cell? ⟨w.heap.size, 2, none⟩ = some (.slice GA s.g.length gc) := hS1.at_ 2
 have c3 : w1.cell? ⟨w.heap.size, 3, none⟩ = some (.slice FA s.fr.length fc) := hS1.at_ 3
 have HRN : ∀ n, Rec 39 (w1.drewN n) (w.heap.size + 1) #[.int .i64 0, .int .i64 0] := fun n => hR1.under (below_drewNi _ _)
 have CH : ∀ n, Calls Tryz.prog 127 #[.slice FA s.fr.length fc, .int .i64 (j : Int)] (w1.drewN n) fun e w' => e = .returned (.bool (decide ((j : Int) ∈ s.fr))) /\ w' = w1.drewN n := fun n => IHas_any FA _ fc s.fr _ _ ((hfr.1.below hb).below (below_drewNi _ _)) hf
 have HRN := hi_ HRN
 have HB := hi_ hb
 have CK := hi_ CH
 have HR := hi_ hR1
 clear hb CH hR1 hS1 hg hfr
 go_enter Tryz.func71, Tryz.ntmps71
 go_wp2_with (first | (rw [<- hw1]; clear hw1))
 go_quiet ((go_at_call 127; exact Calls.quiet_of_same (CK.out _)))
 go_wp2_with (with_reducible refine wpList_stP (x1 := 0) (y1 := 0) rfl (.tmp 4) (.tmp 31) rfl rfl rfl (HRN.out _) ?_; intro w5 hR5 hF5)
 refine bodyPost_ret (res_ct rfl rfl (hR5.load idT rfl)) rfl ?_
 exact ⟨rfl, (HB.out.trans ((below_drewNi _ _).mono HB.out.size)).trans (hF5.toBelow (fun x hx => by rw [show x = w.heap.size + 1 from hx]; omega) (by have := HB.out.size; simpa using this))⟩
theorem RAt_free (h : RS K w d s) (hf : s.fr.length <= 1000000) (k : Int) (hk : 0 <= k) (hk2 : k < s.g.length) (hm : k ∈ s.fr) :
  Calls Tryz.prog 71 #[d.v, .int .i64 k] w fun e w' => e = .returned (.tuple #[idv (0, 0), .bool false]) /\ Below w.heap.size w w' := by
 obtain ⟨E, L, GA, gn, gc, FA, fn, fc⟩ := d
 obtain ⟨hE, hL, hgn, hfn, hg, hfr, hgc, hfc⟩ := h
 simp only at hE hL hgn hfn hg hfr hgc hfc
 subst hE hL hgn hfn
 obtain ⟨j, rfl⟩ : ∃ j : Nat, k = (j : Int) := ⟨k.toNat, by omega⟩
 have hj : j < s.g.length := by omega
 have hd0 : decide ((j : Int) < 0) = false := decide_eq_false (by omega)
 have hd1 : decide ((s.g.length : Int) <= (j : Int)) = false := decide_eq_false (by omega)
 have hd1n : decide (s.g.length <= j) = false := decide_eq_false (by omega)
 show Calls _ _ #[.agg #[.int .i64 s.E, .int .i64 s.L, .slice GA s.g.length gc, .slice FA s.fr.length fc], .int .i64 _] w _
 obtain ⟨w1, hw1⟩ : ∃ w1, w1 = (w.alloc (.cells #[.int .i64 s.E, .int .i64 s.L, .slice GA s.g.length gc, .slice FA s.fr.length fc] 140)).alloc (.cells #[.int .i64 0, .int .i64 0] 39) := ⟨_, rfl⟩
 have hb : Below w.heap.size w w1 := by rw [hw1]; exact ((Below.refl _ _).alloc (Nat.le_refl _) _).alloc (by simp) _
 have hS1 : Rec 140 w1 w.heap.size #[.int .i64 s.E, .int .i64 s.L, .slice GA s.g.length gc, .slice FA s.fr.length fc] := by rw [hw1]; exact (Rec.new w _ _).under ((Below.refl _ _).alloc (Nat.le_refl _) _)
 have hR1 : Rec 39 w1 (w.heap.size + 1) #[.int .i64 0, .int .i64 0] := by
  have := Rec.new (w.alloc (.cells #[.int .i64 s.E, .int .i64 s.L, .slice GA s.g.length gc, .slice FA s.fr.length fc] 140)) 39 #[.int .i64 0, .int .i64 0]
  rw [World.size_alloc] at this
  rw [hw1]; exact this
 have c1 : w1.cell? ⟨w.heap.size, 1, none⟩ = some (.int .i64 s.L) := hS1.at_ 1
 have c2 : w1.cell? ⟨w.heap.size, 2, none⟩ = some (.slice GA s.g.length gc) := hS1.at_ 2
 have c3 : w1.cell? ⟨w.heap.size, 3, none⟩ = some (.slice FA s.fr.length fc) := hS1.at_ 3
 have HRN : ∀ n, Rec 39 (w1.drewN n) (w.heap.size + 1) #[.int .i64 0, .int .i64 0] := fun n => hR1.under (below_drewNi _ _)
 have CH : ∀ n, Calls Tryz.prog 127 #[.slice FA s.fr.length fc, .int .i64 (j : Int)] (w1.drewN n) fun e w' => e = .returned (.bool (decide ((j : Int) ∈ s.fr))) /\ w' = w1.drewN n := fun n => IHas_any FA _ fc s.fr _ _ ((hfr.1.below hb).below (below_drewNi _ _)) hf
 have CH : ∀ n, Calls Tryz.prog 127 #[.slice FA s.fr.length fc, .int .i64 (j : Int)] (w1.drewN n) fun e w' => e = .returned (.bool true) /\ w' = w1.drewN n := by simpa only [decide_eq_true hm] using CH
 clear hm
 have HRN := hi_ HRN
 have HB := hi_ hb
 have CK := hi_ CH
 have HR := hi_ hR1
 clear hb CH hR1 hS1 hg hfr
 go_enter Tryz.func71, Tryz.ntmps71
 go_wp2_with (first | (rw [<- hw1]; clear hw1))
 go_quiet ((go_at_call 127; exact Calls.quiet_of_same (CK.out _)))
 go_wp2_with (with_reducible refine wpList_stP (x1 := 0) (y1 := 0) rfl (.tmp 4) (.tmp 31) rfl rfl rfl (HRN.out _) ?_; intro w5 hR5 hF5)
 refine bodyPost_ret (res_ct rfl rfl (hR5.load idT rfl)) rfl ?_
 exact ⟨rfl, (HB.out.trans ((below_drewNi _ _).mono HB.out.size)).trans (hF5.toBelow (fun x hx => by rw [show x = w.heap.size + 1 from hx]; omega) (by have := HB.out.size; simpa using this))⟩
theorem RAt_old (h : RS K w d s) (hf : s.fr.length <= 1000000) (k : Int) (hk : 0 <= k) (hk2 : k < s.g.length) (hm : k ∉ s.fr) (z : Int) (hz : s.g.getD k.toNat 0 = z) (hz2 : s.L <= z) :
  Calls Tryz.prog 71 #[d.v, .int .i64 k] w fun e w' => e = .returned (.tuple #[idv (0, 0), .bool false]) /\ Below w.heap.size w w' := by
 obtain ⟨E, L, GA, gn, gc, FA, fn, fc⟩ := d
 obtain ⟨hE, hL, hgn, hfn, hg, hfr, hgc, hfc⟩ := h
 simp only at hE hL hgn hfn hg hfr hgc hfc
 subst hE hL hgn hfn
 obtain ⟨j, rfl⟩ : ∃ j : Nat, k = (j : Int) := ⟨k.toNat, by omega⟩
 rw [Int.toNat_natCast] at hz
 have hj : j < s.g.length := by omega
 have hd0 : decide ((j : Int) < 0) = false := decide_eq_false (by omega)
 have hd1 : decide ((s.g.length : Int) <= (j : Int)) = false := decide_eq_false (by omega)
 have hd1n : decide (s.g.length <= j) = false := decide_eq_false (by omega)
 have hd2 : decide (s.L <= z) = true := decide_eq_true hz2
 show Calls _ _ #[.agg #[.int .i64 s.E, .int .i64 s.L, .slice GA s.g.length gc, .slice FA s.fr.length fc], .int .i64 _] w _
 obtain ⟨w1, hw1⟩ : ∃ w1, w1 = (w.alloc (.cells #[.int .i64 s.E, .int .i64 s.L, .slice GA s.g.length gc, .slice FA s.fr.length fc] 140)).alloc (.cells #[.int .i64 0, .int .i64 0] 39) := ⟨_, rfl⟩
 have hb : Below w.heap.size w w1 := by rw [hw1]; exact ((Below.refl _ _).alloc (Nat.le_refl _) _).alloc (by simp) _
 have hS1 : Rec 140 w1 w.heap.size #[.int .i64 s.E, .int .i64 s.L, .slice GA s.g.length gc, .slice FA s.fr.length fc] := by rw [hw1]; exact (Rec.new w _ _).under ((Below.refl _ _).alloc (Nat.le_refl _) _)
 have hR1 : Rec 39 w1 (w.heap.size + 1) #[.int .i64 0, .int .i64 0] := by
  have := Rec.new (w.alloc (.cells #[.int .i64 s.E, .int .i64 s.L, .slice GA s.g.length gc, .slice FA s.fr.length fc] 140)) 39 #[.int .i64 0, .int .i64 0]
  rw [World.size_alloc] at this
  rw [hw1]; exact this
 have c1 : w1.cell? ⟨w.heap.size, 1, none⟩ = some (.int .i64 s.L) := hS1.at_ 1
 have c2 : w1.cell? ⟨w.heap.size, 2, none⟩ = some (.slice GA s.g.length gc) := hS1.at_ 2
 have c3 : w1.cell? ⟨w.heap.size, 3, none⟩ = some (.slice FA s.fr.length fc) := hS1.at_ 3
 have HRN : ∀ n, Rec 39 (w1.drewN n) (w.heap.size + 1) #[.int .i64 0, .int .i64 0] := fun n => hR1.under (below_drewNi _ _)
 have CH : ∀ n, Calls Tryz.prog 127 #[.slice FA s.fr.length fc, .int .i64 (j : Int)] (w1.drewN n) fun e w' => e = .returned (.bool (decide ((j : Int) ∈ s.fr))) /\ w' = w1.drewN n := fun n => IHas_any FA _ fc s.fr _ _ ((hfr.1.below hb).below (below_drewNi _ _)) hf
 have CH : ∀ n, Calls Tryz.prog 127 #[.slice FA s.fr.length fc, .int .i64 (j : Int)] (w1.drewN n) fun e w' => e = .returned (.bool false) /\ w' = w1.drewN n := by simpa only [decide_eq_false hm] using CH
 obtain ⟨b, o, hGA, _, hc⟩ := (hg.1.below hb).2 (by omega)
 have k0 := hc j hj
 subst hGA
 rw [hz] at k0
 clear hm hz hc
 have HRN := hi_ HRN
 have HB := hi_ hb
 have CK := hi_ CH
 have HR := hi_ hR1
 clear hb CH hR1 hS1 hg hfr
 go_enter Tryz.func71, Tryz.ntmps71
 go_wp2_with (first | (rw [<- hw1]; clear hw1))
 go_quiet ((go_at_call 127; exact Calls.quiet_of_same (CK.out _)))
 go_wp2_with (with_reducible refine wpList_stP (x1 := 0) (y1 := 0) rfl (.tmp 4) (.tmp 31) rfl rfl rfl (HRN.out _) ?_; intro w5 hR5 hF5)
 refine bodyPost_ret (res_ct rfl rfl (hR5.load idT rfl)) rfl ?_
 exact ⟨rfl, (HB.out.trans ((below_drewNi _ _).mono HB.out.size)).trans (hF5.toBelow (fun x hx => by rw [show x = w.heap.size + 1 from hx]; omega) (by have := HB.out.size; simpa using this))⟩
theorem RAt_live (h : RS K w d s) (hf : s.fr.length <= 1000000) (k : Int) (hk : 0 <= k) (hk2 : k < s.g.length) (hm : k ∉ s.fr) (z : Int) (hz : s.g.getD k.toNat 0 = z) (hz2 : z < s.L) :
  Calls Tryz.prog 71 #[d.v, .int .i64 k] w fun e w' => e = .returned (.tuple #[idv (k, z), .bool true]) /\ Below w.heap.size w w' := by
 obtain ⟨E, L, GA, gn, gc, FA, fn, fc⟩ := d
 obtain ⟨hE, hL, hgn, hfn, hg, hfr, hgc, hfc⟩ := h
 simp only at hE hL hgn hfn hg hfr hgc hfc
 subst hE hL hgn hfn
 obtain ⟨j, rfl⟩ : ∃ j : Nat, k = (j : Int) := ⟨k.toNat, by omega⟩
 rw [Int.toNat_natCast] at hz
 have hj : j < s.g.length := by omega
 have hd0 : decide ((j : Int) < 0) = false := decide_eq_false (by omega)
 have hd1 : decide ((s.g.length : Int) <= (j : Int)) = false := decide_eq_false (by omega)
 have hd1n : decide (s.g.length <= j) = false := decide_eq_false (by omega)
 have hd2 : decide (s.L <= z) = false := decide_eq_false (by omega)
 show Calls _ _ #[.agg #[.int .i64 s.E, .int .i64 s.L, .slice GA s.g.length gc, .slice FA s.fr.length fc], .int .i64 _] w _
 obtain ⟨w1, hw1⟩ : ∃ w1, w1 = (w.alloc (.cells #[.int .i64 s.E, .int .i64 s.L, .slice GA s.g.length gc, .slice FA s.fr.length fc] 140)).alloc (.cells #[.int .i64 0, .int .i64 0] 39) := ⟨_, rfl⟩
 have hb : Below w.heap.size w w1 := by rw [hw1]; exact ((Below.refl _ _).alloc (Nat.le_refl _) _).alloc (by simp) _
 have hS1 : Rec 140 w1 w.heap.size #[.int .i64 s.E, .int .i64 s.L, .slice GA s.g.length gc, .slice FA s.fr.length fc] := by rw [hw1]; exact (Rec.new w _ _).under ((Below.refl _ _).alloc (Nat.le_refl _) _)
 have hR1 : Rec 39 w1 (w.heap.size + 1) #[.int .i64 0, .int .i64 0] := by
  have := Rec.new (w.alloc (.cells #[.int .i64 s.E, .int .i64 s.L, .slice GA s.g.length gc, .slice FA s.fr.length fc] 140)) 39 #[.int .i64 0, .int .i64 0]
  rw [World.size_alloc] at this
  rw [hw1]; exact this
 have c1 : w1.cell? ⟨w.heap.size, 1, none⟩ = some (.int .i64 s.L) := hS1.at_ 1
 have c2 : w1.cell? ⟨w.heap.size, 2, none⟩ = some (.slice GA s.g.length gc) := hS1.at_ 2
 have c3 : w1.cell? ⟨w.heap.size, 3, none⟩ = some (.slice FA s.fr.length fc) := hS1.at_ 3
 have HRN : ∀ n, Rec 39 (w1.drewN n) (w.heap.size + 1) #[.int .i64 0, .int .i64 0] := fun n => hR1.under (below_drewNi _ _)
 have CH : ∀ n, Calls Tryz.prog 127 #[.slice FA s.fr.length fc, .int .i64 (j : Int)] (w1.drewN n) fun e w' => e = .returned (.bool (decide ((j : Int) ∈ s.fr))) /\ w' = w1.drewN n := fun n => IHas_any FA _ fc s.fr _ _ ((hfr.1.below hb).below (below_drewNi _ _)) hf
 have CH : ∀ n, Calls Tryz.prog 127 #[.slice FA s.fr.length fc, .int .i64 (j : Int)] (w1.drewN n) fun e w' => e = .returned (.bool false) /\ w' = w1.drewN n := by simpa only [decide_eq_false hm] using CH
 obtain ⟨b, o, hGA, _, hc⟩ := (hg.1.below hb).2 (by omega)
 have k0 := hc j hj
 subst hGA
 rw [hz] at k0
 clear hm hz hc
 have HRN := hi_ HRN
 have HB := hi_ hb
 have CK := hi_ CH
 have HR := hi_ hR1
 clear hb CH hR1 hS1 hg hfr
 go_enter Tryz.func71, Tryz.ntmps71
 go_wp2_with (first | (rw [<- hw1]; clear hw1))
 go_quiet ((go_at_call 127; exact Calls.quiet_of_same (CK.out _)))
 go_wp2_with (with_reducible refine wpList_stP (x1 := j) (y1 := z) rfl (.tmp 4) (.tmp 38) rfl rfl rfl (HRN.out _) ?_; intro w5 hR5 hF5)
 refine bodyPost_ret (res_ct rfl rfl (hR5.load idT rfl)) rfl ?_
 exact ⟨rfl, (HB.out.trans ((below_drewNi _ _).mono HB.out.size)).trans (hF5.toBelow (fun x hx => by rw [show x = w.heap.size + 1 from hx]; omega) (by have := HB.out.size; simpa using this))⟩
theorem RAt_any (h : RS K w d s) (hf : s.fr.length <= 1000000) (k : Int) :
  Calls Tryz.prog 71 #[d.v, .int .i64 k] w fun e w' => e = .returned (.tuple #[idv (s.at_ k).1, .bool (s.at_ k).2]) /\ Below w.heap.size w w' := by
 by_cases hl : s.live k = true
 ·obtain ⟨q0, q1, q2, q3⟩ := NS.live_iff.1 hl
  have := RAt_live h hf k q0 q1 q2 _ rfl q3
  unfold NS.at_
  rw [if_pos hl]
  exact this
 ·have ha : s.at_ k = ((0, 0), false) := by unfold NS.at_; rw [if_neg hl]
  rw [ha]
  by_cases q0 : 0 <= k
  ·by_cases q1 : k < s.g.length
   ·by_cases q2 : k ∈ s.fr
    ·exact RAt_free h hf k q0 q1 q2
    ·by_cases q3 : s.g.getD k.toNat 0 < s.L
     ·exact absurd (NS.live_iff.2 ⟨q0, q1, q2, q3⟩) hl
     ·exact RAt_old h hf k q0 q1 q2 _ rfl (by omega)
   ·exact RAt_big h hf k q0 (by omega)
  ·exact RAt_neg h hf k (by omega)
end
end Go.Proofs.YthiknmhkdeicjaaGreatDoor
namespace Go.Proofs.YthiknmhkdeicjaaGreatDoor
open Go.RowKit
theorem two_new (w : World) (T U : TypeId) (cs ds : Array Value) :
  Below w.heap.size w ((w.alloc (.cells cs T)).alloc (.cells ds U)) /\ Rec T ((w.alloc (.cells cs T)).alloc (.cells ds U)) w.heap.size cs /\ Rec U ((w.alloc (.cells cs T)).alloc (.cells ds U)) (w.heap.size + 1) ds := by
 refine ⟨((Below.refl _ _).alloc (Nat.le_refl _) _).alloc (by simp) _, (Rec.new w _ _).under ((Below.refl _ _).alloc (Nat.le_refl _) _), ?_⟩
 have := Rec.new (w.alloc (.cells cs T)) U ds
 rw [World.size_alloc] at this
 exact this
theorem three_new (w : World) (T U V : TypeId) (cs ds es : Array Value) :
  Below w.heap.size w (((w.alloc (.cells cs T)).alloc (.cells ds U)).alloc (.cells es V)) /\ Rec T (((w.alloc (.cells cs T)).alloc (.cells ds U)).alloc (.cells es V)) w.heap.size cs /\ Rec U (((w.alloc (.cells cs T)).alloc (.cells ds U)).alloc (.cells es V)) (w.heap.size + 1) ds /\
   Rec V (((w.alloc (.cells cs T)).alloc (.cells ds U)).alloc (.cells es V)) (w.heap.size + 2) es := by
 obtain ⟨h1, h2, h3⟩ := two_new w T U cs ds
 have hb : Below ((w.alloc (.cells cs T)).alloc (.cells ds U)).heap.size ((w.alloc (.cells cs T)).alloc (.cells ds U)) (((w.alloc (.cells cs T)).alloc (.cells ds U)).alloc (.cells es V)) := (Below.refl _ _).alloc (Nat.le_refl _) _
 refine ⟨h1.trans (hb.mono h1.size), h2.under hb, h3.under hb, ?_⟩
 have := Rec.new ((w.alloc (.cells cs T)).alloc (.cells ds U)) V es
 rw [World.size_alloc, World.size_alloc] at this
 exact this
section
variable {K : Nat -> Prop} {w : World} {d : Rv} {s : NS}
theorem RAlive_any (h : RS K w d s) (hf : s.fr.length <= 1000000) (i gen : Int) :
  Calls Tryz.prog 143 #[d.v, idv (i, gen)] w fun e w' => e = .returned (.bool (s.alive i gen)) /\ Below w.heap.size w w' := by
 obtain ⟨E, L, GA, gn, gc, FA, fn, fc⟩ := d
 show Calls _ _ #[.agg #[.int .i64 E, .int .i64 L, .slice GA gn gc, .slice FA fn fc], .agg #[.int .i64 i, .int .i64 gen]] w _
 obtain ⟨hb, hS1, hR1⟩ := two_new w 140 39 #[.int .i64 E, .int .i64 L, .slice GA gn gc, .slice FA fn fc] #[.int .i64 i, .int .i64 gen]
 obtain ⟨w1, hw1⟩ : ∃ w1, w1 = (w.alloc (.cells #[.int .i64 E, .int .i64 L, .slice GA gn gc, .slice FA fn fc] 140)).alloc (.cells #[.int .i64 i, .int .i64 gen] 39) := ⟨_, rfl⟩
 rw [<- hw1] at hb hS1 hR1
 have c0 : w1.cell? ⟨w.heap.size + 1, 0, none⟩ = some (.int .i64 i) := hR1.at_ 0
 have CA := RAt_any (h.below hb) hf i
 simp only [Rv.v] at CA
 obtain ⟨z, hz⟩ : ∃ z, z = s.g.getD i.toNat 0 := ⟨_, rfl⟩
 have HS := hi_ hS1
 have HB := hi_ hb
 have HR := hi_ hR1
 cases hl : s.live i
 ·have ha : s.at_ i = ((0, 0), false) := by unfold NS.at_; rw [if_neg (by simp [hl])]
  have hal : s.alive i gen = false := by unfold NS.alive; rw [hl]; rfl
  rw [ha] at CA
  rw [hal]
  have CB := hi_ CA
  clear CA hb hS1 hR1 ha hal hz hl h
  go_enter Tryz.func143, Tryz.ntmps143
  go_wp2_with (first
   | (rw [<- hw1]; clear hw1)
   | (with_reducible refine wpList_ldQ rfl (.tmp 2) rfl rfl HS.out ?_)
   | (go_at_call 71; refine CB.out.mono ?_; rintro e w2 ⟨rfl, hB2⟩; have HB2 := hi_ (HB.out.trans (hB2.mono HB.out.size)); clear hB2; simp only [idv]))
  go_ret
  exact ⟨rfl, HB2.out.trans ((Below.refl _ _).alloc HB2.out.size _)⟩
 ·have ha : s.at_ i = ((i, z), true) := by unfold NS.at_; rw [if_pos hl, hz]
  have hal : s.alive i gen = decide (z = gen) := by unfold NS.alive; rw [hl, hz]; rfl
  rw [ha] at CA
  rw [hal]
  have CB := hi_ CA
  clear CA hb hS1 hR1 ha hal hz hl h
  go_enter Tryz.func143, Tryz.ntmps143
  go_wp2_with (first
   | (rw [<- hw1]; clear hw1)
   | (with_reducible refine wpList_ldQ rfl (.tmp 2) rfl rfl HS.out ?_)
   | (go_at_call 71; refine CB.out.mono ?_; rintro e w2 ⟨rfl, hB2⟩; have hR2 := HR.out.under hB2; have k1 : w2.cell? ⟨w.heap.size + 1, 1, none⟩ = some (.int .i64 gen) := hR2.at_ 1; have HB2 := hi_ (HB.out.trans (hB2.mono HB.out.size)); have hlt2 := hR2.lt; clear hB2 hR2; simp only [idv]))
  all_goals go_ret
  all_goals exact ⟨rfl, HB2.out.trans ((Below.refl _ _).alloc HB2.out.size _)⟩
end
end Go.Proofs.YthiknmhkdeicjaaGreatDoor
namespace Go.Proofs.YthiknmhkdeicjaaGreatDoor
open Go.RowKit
theorem stores_two {w : World} {T U g h : Nat} {a0 a1 a2 a3 b0 b1 a0' a1' a2' a3' b0' b1' : Value} (hT : Rec T w g #[a0', a1', a2', a3']) (hU : Rec U w h #[b0', b1']) (hne : g ≠ h) :
  Rec T (((((((w.setCell ⟨g, 0, none⟩ a0).setCell ⟨g, 1, none⟩ a1).setCell ⟨g, 2, none⟩ a2).setCell ⟨g, 3, none⟩ a3).setCell ⟨h, 0, none⟩ b0).setCell ⟨h, 1, none⟩ b1).drew) g #[a0, a1, a2, a3] /\
  Rec U (((((((w.setCell ⟨g, 0, none⟩ a0).setCell ⟨g, 1, none⟩ a1).setCell ⟨g, 2, none⟩ a2).setCell ⟨g, 3, none⟩ a3).setCell ⟨h, 0, none⟩ b0).setCell ⟨h, 1, none⟩ b1).drew) h #[b0, b1] /\
  Fr (fun x => x = g \/ x = h) w (((((((w.setCell ⟨g, 0, none⟩ a0).setCell ⟨g, 1, none⟩ a1).setCell ⟨g, 2, none⟩ a2).setCell ⟨g, 3, none⟩ a3).setCell ⟨h, 0, none⟩ b0).setCell ⟨h, 1, none⟩ b1).drew) := by
 have f1 : ∀ (W : World) (i : Nat) (u : Value), Fr (· = g) W (W.setCell ⟨g, i, none⟩ u) := fun W i u => Fr.setCell (own := (· = g)) W (p := ⟨g, i, none⟩) rfl u
 have f2 : ∀ (W : World) (i : Nat) (u : Value), Fr (· = h) W (W.setCell ⟨h, i, none⟩ u) := fun W i u => Fr.setCell (own := (· = h)) W (p := ⟨h, i, none⟩) rfl u
 have F1 : Fr (· = g) w ((((w.setCell ⟨g, 0, none⟩ a0).setCell ⟨g, 1, none⟩ a1).setCell ⟨g, 2, none⟩ a2).setCell ⟨g, 3, none⟩ a3) := (((f1 _ _ _).trans (f1 _ _ _)).trans (f1 _ _ _)).trans (f1 _ _ _)
 have R1 : Rec T ((((w.setCell ⟨g, 0, none⟩ a0).setCell ⟨g, 1, none⟩ a1).setCell ⟨g, 2, none⟩ a2).setCell ⟨g, 3, none⟩ a3) g #[a0, a1, a2, a3] := (((hT.set 0 _).set 1 _).set 2 _).set 3 _
 have U1 := hU.fr F1 (fun e => hne (show h = g from e).symm)
 obtain ⟨w1, hw1⟩ : ∃ w1, w1 = ((((w.setCell ⟨g, 0, none⟩ a0).setCell ⟨g, 1, none⟩ a1).setCell ⟨g, 2, none⟩ a2).setCell ⟨g, 3, none⟩ a3) := ⟨_, rfl⟩
 rw [<- hw1] at F1 R1 U1 ⊢
 have F2 : Fr (· = h) w1 ((w1.setCell ⟨h, 0, none⟩ b0).setCell ⟨h, 1, none⟩ b1).drew := ((f2 _ _ _).trans (f2 _ _ _)).trans (Fr.drew _ _)
 refine ⟨R1.fr F2 (fun e => hne e), (U1.set 0 _).set 1 _, (F1.mono fun x hx => .inl hx).trans (F2.mono fun x hx => .inr hx)⟩
def RLeft (K : Nat -> Prop) (w : World) (s : NS) (x : Int × Int) (cd : Int) (e : Ending) (w' : World) : Prop :=
 ∃ d' : Rv, e = .returned (.tuple #[d'.v, idv x, .int .i64 cd]) /\ RS (fun y => K y \/ (w.heap.size <= y /\ y < w'.heap.size)) w' d' s /\ Below w.heap.size w w'
section
variable {K : Nat -> Prop} {w : World} {d : Rv} {s : NS}
theorem RTake_full (h : RS K w d s) (ok : s.Ok) (hf : s.fr = []) (he : s.g.length = s.E) :
  Calls Tryz.prog 99 #[d.v] w (RLeft K w s (0, 0) 9) := by
 obtain ⟨E, L, GA, gn, gc, FA, fn, fc⟩ := d
 have hgn := h.gn
 have hfn := h.fn
 have hE := h.E
 simp only at hgn hfn hE
 rw [hf] at hfn
 have hfn0 : fn = 0 := by simpa using hfn
 subst hfn0
 have hEg : E = (gn : Int) := by rw [hE, hgn, he]
 subst hEg
 have hE2 := ok.E2
 have hg2 : gn <= 1024 := by omega
 have H := hi_ h
 clear h hgn hfn hE he hE2 hf
 show Calls _ _ #[.agg #[.int .i64 gn, .int .i64 L, .slice GA gn gc, .slice FA 0 fc]] w _
 obtain ⟨hb, hA1, hB1, hC1⟩ := three_new w 140 140 39 #[.int .i64 gn, .int .i64 L, .slice GA gn gc, .slice FA 0 fc] #[.int .i64 0, .int .i64 0, .slice none 0 0, .slice none 0 0] #[.int .i64 0, .int .i64 0]
 obtain ⟨w1, hw1⟩ : ∃ w1, w1 = ((w.alloc (.cells #[.int .i64 gn, .int .i64 L, .slice GA gn gc, .slice FA 0 fc] 140)).alloc (.cells #[.int .i64 0, .int .i64 0, .slice none 0 0, .slice none 0 0] 140)).alloc (.cells #[.int .i64 0, .int .i64 0] 39) := ⟨_, rfl⟩
 rw [<- hw1] at hb hA1 hB1 hC1
 have c0 : w1.cell? ⟨w.heap.size, 0, none⟩ = some (.int .i64 gn) := hA1.at_ 0
 have c2 : w1.cell? ⟨w.heap.size, 2, none⟩ = some (.slice GA gn gc) := hA1.at_ 2
 have c3 : w1.cell? ⟨w.heap.size, 3, none⟩ = some (.slice FA 0 fc) := hA1.at_ 3
 have HB := hi_ hb
 have HA1 := hi_ hA1
 have HB1 := hi_ hB1
 have HC1 := hi_ hC1
 clear hb hA1 hB1 hC1
 go_enter Tryz.func99, Tryz.ntmps99
 go_wp2_with (first
  | (rw [<- hw1]; clear hw1)
  | (with_reducible refine wpList_ldQ rfl (.tmp 1) rfl rfl HA1.out ?_)
  | (with_reducible refine wpList_stQ (E' := gn) (L' := L) (GA' := GA) (gn' := gn) (gc' := gc) (FA' := FA) (fn' := 0) (fc' := fc) rfl (.tmp 2) (.tmp 38) rfl rfl rfl HB1.out ?_; intro w2 hR2 hF2; have HR2 := hi_ hR2; have HC2 := hi_ (HC1.out.fr hF2 (fun e => by have e' : w.heap.size + 2 = w.heap.size + 1 := e; omega)); have HF2 := hi_ hF2; clear hR2 hF2)
  | (with_reducible refine wpList_stP (x1 := 0) (y1 := 0) rfl (.tmp 3) (.tmp 39) rfl rfl rfl HC2.out ?_; intro w3 hR3 hF3; have HR3 := hi_ hR3; have HT3 := hi_ (HR2.out.fr hF3 (fun e => by have e' : w.heap.size + 1 = w.heap.size + 2 := e; omega)); have HF3 := hi_ hF3; clear hR3 hF3))
 refine bodyPost_ret (res_cct rfl rfl (HT3.out.load rsT rfl) rfl (HR3.out.load idT rfl)) rfl ?_
 have hB : Below w.heap.size w w3 := (HB.out.trans (HF2.out.toBelow (fun x hx => by rw [show x = w.heap.size + 1 from hx]; omega) HB.out.size)).trans (HF3.out.toBelow (fun x hx => by rw [show x = w.heap.size + 2 from hx]; omega) (by have := HB.out.size; have := HF2.out.size; omega))
 exact ⟨⟨gn, L, GA, gn, gc, FA, 0, fc⟩, rfl, (H.out.below hB).mono (fun x hx => .inl hx), hB⟩
end
end Go.Proofs.YthiknmhkdeicjaaGreatDoor
namespace Go.Proofs.YthiknmhkdeicjaaGreatDoor
open Go.RowKit
theorem getD_dropLast (l : List Int) (i : Nat) (h : i < l.dropLast.length) : l.dropLast.getD i 0 = l.getD i 0 := by
 rw [List.getD_eq_getElem?_getD, List.getD_eq_getElem?_getD, List.getElem?_dropLast, if_pos (by simpa using h)]
section
variable {K : Nat -> Prop} {w : World} {d : Rv} {s : NS}
set_option maxHeartbeats 1000000 in
theorem RTake_free (h : RS K w d s) (ok : s.Ok) (hf : s.fr ≠ []) :
  Calls Tryz.prog 99 #[d.v] w (RLeft K w s.take.1 s.take.2.1 s.take.2.2) := by
 have htk := NS.take_free hf
 obtain ⟨q0, q1, q2, q3⟩ := ok.fz _ (NS.last_mem hf)
 have hsp := NS.fr_last hf
 obtain ⟨m, hm⟩ : ∃ m, m = s.fr.dropLast.length := ⟨_, rfl⟩
 have hlen : s.fr.length = m + 1 := by rw [hsp, hm]; simp
 have hm1 : m <= 1024 := by have := ok.few; omega
 obtain ⟨j, hj⟩ : ∃ j : Nat, s.fr.getLastD 0 = (j : Int) := ⟨(s.fr.getLastD 0).toNat, by omega⟩
 rw [hj] at htk q1 hsp
 rw [Int.toNat_natCast] at htk
 have hjl : j < s.g.length := by omega
 obtain ⟨E, L, GA, gn, gc, FA, fn, fc⟩ := d
 have hgn := h.gn
 have hfn := h.fn
 simp only at hgn hfn
 rw [hlen] at hfn
 subst hfn
 obtain ⟨b, o, hFA, hbw, hc⟩ := h.f.1.2 (Nat.succ_pos m)
 obtain ⟨b2, o2, hGA, hbw2, hc2⟩ := h.g.1.2 (by simp only; omega)
 simp only at hFA hGA
 subst hFA hGA
 have d0 := hc m (by omega)
 have e0 : s.fr.getD m 0 = (j : Int) := by
  rw [hsp, List.getD_eq_getElem?_getD, List.getElem?_append_right (by omega)]
  simp [hm]
 rw [e0] at d0
 have d2 := hc2 j hjl
 obtain ⟨z, hz⟩ : ∃ z, z = s.g.getD j 0 := ⟨_, rfl⟩
 rw [<- hz] at d2 htk
 have hfc := h.fc
 simp only at hfc
 have hjg : j < gn := by omega
 rw [htk]
 have H := hi_ h
 have HS := hi_ hlen
 have HM := hi_ hm
 have HGN := hi_ hgn
 clear h hgn hc hc2 hsp hm e0 hz htk hlen hj q0 q1 q2 q3 hf hjl
 show Calls _ _ #[.agg #[.int .i64 E, .int .i64 L, .slice (some ⟨b2, o2, none⟩) gn gc, .slice (some ⟨b, o, none⟩) (m + 1) fc]] w _
 obtain ⟨hb, hA1, hB1, hC1⟩ := three_new w 140 140 39 #[.int .i64 E, .int .i64 L, .slice (some ⟨b2, o2, none⟩) gn gc, .slice (some ⟨b, o, none⟩) (m + 1) fc] #[.int .i64 0, .int .i64 0, .slice none 0 0, .slice none 0 0] #[.int .i64 0, .int .i64 0]
 obtain ⟨w1, hw1⟩ : ∃ w1, w1 = ((w.alloc (.cells #[.int .i64 E, .int .i64 L, .slice (some ⟨b2, o2, none⟩) gn gc, .slice (some ⟨b, o, none⟩) (m + 1) fc] 140)).alloc (.cells #[.int .i64 0, .int .i64 0, .slice none 0 0, .slice none 0 0] 140)).alloc (.cells #[.int .i64 0, .int .i64 0] 39) := ⟨_, rfl⟩
 rw [<- hw1] at hb hA1 hB1 hC1
 have c3 : w1.cell? ⟨w.heap.size, 3, none⟩ = some (.slice (some ⟨b, o, none⟩) (m + 1) fc) := hA1.at_ 3
 have z3 := hA1.fz 3
 have d1 := (hb.cell (p := ⟨b, o + m, none⟩) hbw).trans d0
 obtain ⟨w2, hw2⟩ : ∃ w2, w2 = w1.setCell ⟨w.heap.size, 3, none⟩ (.slice (some ⟨b, o, none⟩) m fc) := ⟨_, rfl⟩
 have hF2 : Fr (· = w.heap.size) w1 w2 := by rw [hw2]; exact Fr.setCell (own := (· = w.heap.size)) w1 (p := ⟨w.heap.size, 3, none⟩) rfl _
 have hA2 : Rec 140 w2 w.heap.size #[.int .i64 E, .int .i64 L, .slice (some ⟨b2, o2, none⟩) gn gc, .slice (some ⟨b, o, none⟩) m fc] := by rw [hw2]; exact hA1.set 3 _
 have hB2 := hB1.fr hF2 (fun e => by have e' : w.heap.size + 1 = w.heap.size := e; omega)
 have hC2 := hC1.fr hF2 (fun e => by have e' : w.heap.size + 2 = w.heap.size := e; omega)
 have bw2 : Below w.heap.size w w2 := hb.trans (hF2.toBelow (fun x hx => by rw [show x = w.heap.size from hx]; exact Nat.le_refl _) hb.size)
 have k2 := (bw2.cell (p := ⟨b2, o2 + j, none⟩) hbw2).trans d2
 have a0 : w2.cell? ⟨w.heap.size, 0, none⟩ = some (.int .i64 E) := hA2.at_ 0
 have a1 : w2.cell? ⟨w.heap.size, 1, none⟩ = some (.int .i64 L) := hA2.at_ 1
 have a2 : w2.cell? ⟨w.heap.size, 2, none⟩ = some (.slice (some ⟨b2, o2, none⟩) gn gc) := hA2.at_ 2
 have a3 : w2.cell? ⟨w.heap.size, 3, none⟩ = some (.slice (some ⟨b, o, none⟩) m fc) := hA2.at_ 3
 have p0 : w2.cell? ⟨w.heap.size + 1, 0, none⟩ = some (.int .i64 0) := hB2.at_ 0
 have p1 : w2.cell? ⟨w.heap.size + 1, 1, none⟩ = some (.int .i64 0) := hB2.at_ 1
 have p2 : w2.cell? ⟨w.heap.size + 1, 2, none⟩ = some (.slice none 0 0) := hB2.at_ 2
 have p3 : w2.cell? ⟨w.heap.size + 1, 3, none⟩ = some (.slice none 0 0) := hB2.at_ 3
 have f0 := hB2.fz 0
 have f1 := hB2.fz 1
 have f2 := hB2.fz 2
 have f3 := hB2.fz 3
 have t0 : w2.cell? ⟨w.heap.size + 2, 0, none⟩ = some (.int .i64 0) := hC2.at_ 0
 have t1 : w2.cell? ⟨w.heap.size + 2, 1, none⟩ = some (.int .i64 0) := hC2.at_ 1
 have u0 := hC2.fz 0
 have u1 := hC2.fz 1
 obtain ⟨s1, s2, s3⟩ := stores_two (a0 := .int .i64 E) (a1 := .int .i64 L) (a2 := .slice (some ⟨b2, o2, none⟩) gn gc) (a3 := .slice (some ⟨b, o, none⟩) m fc) (b0 := .int .i64 j) (b1 := .int .i64 z) hB2 hC2 (by omega)
 have S1 := hi_ s1
 have S2 := hi_ s2
 have S3 := hi_ s3
 have BW2 := hi_ bw2
 have HW1 := hi_ hw1
 have HW2 := hi_ hw2
 clear hb hA1 hB1 hC1 hw1 hw2 hF2 hA2 hB2 hC2 bw2 s1 s2 s3 d0 d2
 go_enter Tryz.func99, Tryz.ntmps99
 go_wp2_with (first
  | (rw [<- HW1.out])
  | (rw [<- HW2.out]))
 go_region
 all_goals go_wp2
 all_goals refine bodyPost_ret (res_cct rfl rfl (S1.out.load rsT rfl) rfl (S2.out.load idT rfl)) rfl ?_
 all_goals
  have hB := BW2.out.trans (S3.out.toBelow (fun x hx => by rcases hx with h | h <;> (rw [h]; omega)) BW2.out.size)
  have hR := H.out.below hB
  refine ⟨⟨E, L, some ⟨b2, o2, none⟩, gn, gc, some ⟨b, o, none⟩, m, fc⟩, rfl, ?_, hB⟩
  refine { E := hR.E, L := hR.L, gn := hR.gn, fn := HM.out, g := hR.g.mono (fun x hx => .inl hx), gc := hR.gc, fc := by have := hR.fc; simp only at this ⊢; omega, f := ⟨⟨HM.out.symm, fun hp => ?_⟩, fun _ b' o' e => ?_⟩ }
  ·obtain ⟨b', o', e, hlt, hc⟩ := hR.f.1.2 (Nat.succ_pos m)
   refine ⟨b', o', e, hlt, fun i hi => ?_⟩
   have hi' : i < s.fr.dropLast.length := hi
   have h1 := hc i (by have := HM.out; have := HS.out; omega)
   rw [h1, getD_dropLast _ _ hi']
  ·exact .inl (hR.f.2 (Nat.succ_pos m) b' o' e)
end
end Go.Proofs.YthiknmhkdeicjaaGreatDoor
namespace Go.Proofs.YthiknmhkdeicjaaGreatDoor
set_option maxRecDepth 200000
open Go.RowKit
section
variable {K : Nat -> Prop} {w : World} {d : Rv} {s : NS}
set_option maxHeartbeats 1000000 in
theorem RTake_next (h : RS K w d s) (ok : s.Ok) (hf : s.fr = []) (he : s.g.length ≠ s.E) :
  Calls Tryz.prog 99 #[d.v] w (RLeft K w (s.push 0) ((s.g.length : Int), 0) 0) := by
 obtain ⟨i0, hi0, hz0, hz1, hz2⟩ := info_parts intT.info
 obtain ⟨E, L, GA, gn, gc, FA, fn, fc⟩ := d
 have hgn := h.gn
 have hfn := h.fn
 have hE := h.E
 simp only at hgn hfn hE
 rw [hf] at hfn
 have hfn0 : fn = 0 := by simpa using hfn
 subst hfn0
 have hE2 := ok.E2
 have hl := ok.len
 have hne : ¬ ((gn : Int) = E) := by omega
 have hg2 : gn <= 1024 := by omega
 have hgr := h.g.1
 simp only at hgr
 rw [<- hgn]
 have H := hi_ h
 have HGN := hi_ hgn
 have HF := hi_ hf
 clear h hfn hE he hE2 hl hf
 show Calls _ _ #[.agg #[.int .i64 E, .int .i64 L, .slice GA gn gc, .slice FA 0 fc]] w _
 obtain ⟨hb, hA1, hB1, hC1⟩ := three_new w 140 140 39 #[.int .i64 E, .int .i64 L, .slice GA gn gc, .slice FA 0 fc] #[.int .i64 0, .int .i64 0, .slice none 0 0, .slice none 0 0] #[.int .i64 0, .int .i64 0]
 obtain ⟨w1, hw1⟩ : ∃ w1, w1 = ((w.alloc (.cells #[.int .i64 E, .int .i64 L, .slice GA gn gc, .slice FA 0 fc] 140)).alloc (.cells #[.int .i64 0, .int .i64 0, .slice none 0 0, .slice none 0 0] 140)).alloc (.cells #[.int .i64 0, .int .i64 0] 39) := ⟨_, rfl⟩
 rw [<- hw1] at hb hA1 hB1 hC1
 have hs1 : w.heap.size + 3 = w1.heap.size := by rw [hw1]; simp
 have c0 : w1.cell? ⟨w.heap.size, 0, none⟩ = some (.int .i64 E) := hA1.at_ 0
 have c2 : w1.cell? ⟨w.heap.size, 2, none⟩ = some (.slice GA gn gc) := hA1.at_ 2
 have c3 : w1.cell? ⟨w.heap.size, 3, none⟩ = some (.slice FA 0 fc) := hA1.at_ 3
 -- the empty row laid
 obtain ⟨wa, hwa⟩ : ∃ wa, wa = w1.alloc (.cells #[] 3) := ⟨_, rfl⟩
 have ba : Below w1.heap.size w1 wa := by rw [hwa]; exact (Below.refl _ _).alloc (Nat.le_refl _) _
 have hoa : wa.ownsRow w1.heap.size 3 1 (.slice (some ⟨w1.heap.size, 0, none⟩) 0 0) 0 [] := by rw [hwa]; exact own_empty w1 w1.heap.size 3 (Nat.le_refl _)
 have hra := (hgr.below hb).below ba
 have a2 : wa.cell? ⟨w.heap.size, 2, none⟩ = some (.slice GA gn gc) := (hA1.under ba).at_ 2
 have hA1a := hA1.under ba
 have hB1a := hB1.under ba
 have hC1a := hC1.under ba
 have HW1 := hi_ hw1
 have HWA := hi_ hwa
 have HB := hi_ hb
 have HS1 := hi_ hs1
 have HA1 := hi_ hA1a
 have HB1 := hi_ hB1a
 have HC1 := hi_ hC1a
 have BA := hi_ ba
 clear hw1 hwa hb hs1 hA1 hB1 hC1 hA1a hB1a hC1a ba hgr hgn
 go_enter Tryz.func99, Tryz.ntmps99
 go_wp2_with (first
  | (rw [<- HW1.out])
  | (rw [<- HWA.out])
  | (at_builtin; refine wpList_appI _ intT rfl (.tmp 40) (.tmp 42) rfl w1.heap.size _ 0 [] rfl hoa GA gn gc s.g rfl hra (by omega) BA.out.size ?_))
 intro v2 w2 ho2 hg2'
 try rw [List.nil_append, Nat.zero_add] at ho2
 obtain ⟨A2, c2', rfl⟩ := own_sl ho2
 have b2 : Below w1.heap.size w1 w2 := BA.out.trans (below_own hoa BA.out.size hg2')
 have hA2 := (HA1.out.below (below_own hoa BA.out.size hg2') (by have := HS1.out; omega))
 have hB2 := (HB1.out.below (below_own hoa BA.out.size hg2') (by have := HS1.out; omega))
 have hC2 := (HC1.out.below (below_own hoa BA.out.size hg2') (by have := HS1.out; omega))
 -- and the new one's block
 obtain ⟨wb, hwb⟩ : ∃ wb, wb = w2.alloc (.cells #[.int .i64 0] 3) := ⟨_, rfl⟩
 have bb : Below w2.heap.size w2 wb := by rw [hwb]; exact (Below.refl _ _).alloc (Nat.le_refl _) _
 have hob := own_keep ho2 bb
 have hnew : ∀ k u, [Value.int .i64 0][k]? = some u -> wb.cell? ((⟨w2.heap.size, 0, none⟩ : Addr).add k) = some u := by rw [hwb]; exact cell_one_new _ _ _
 have hone : ∀ u ∈ [Value.int .i64 0], u.oneCell' = true := fun u hu => by rw [List.mem_singleton.1 hu]; rfl
 have hsb : w1.heap.size <= wb.heap.size := Nat.le_trans b2.size bb.size
 have HWB := hi_ hwb
 have HAB := hi_ (hA2.under bb)
 have HBB := hi_ (hB2.under bb)
 have HCB := hi_ (hC2.under bb)
 have B2 := hi_ b2
 have BB := hi_ bb
 clear hwb b2 bb hA2 hB2 hC2 ho2 hg2' hoa hra
 go_wp2_with (first
  | (rw [<- HWB.out])
  | (at_builtin; refine wpList_append_own_at _ rfl (.tmp 43) (.tmp 44) 34 rfl w1.heap.size 3 i0 (.int .i64 0) 1 8 Tryz.underlying34 hi0 hz0 hz1 hz2 rfl (by decide) (.slice A2 gn c2') gn (s.g.map (Value.int .i64)) rfl hob ⟨w2.heap.size, 0, none⟩ 1 1 [.int .i64 0] rfl rfl hnew hone (by unfold maxLen; omega) (by omega) hsb ?_))
 intro v3 w3 ho3 hg3 _ _
 obtain ⟨A3, c3', rfl⟩ := own_sl ho3
 have bg3 := below_own hob hsb hg3
 have hA3 := HAB.out.below bg3 (by have := HS1.out; omega)
 have hB3 := HBB.out.below bg3 (by have := HS1.out; omega)
 have hC3 := HCB.out.below bg3 (by have := HS1.out; omega)
 have k2 : w3.cell? ⟨w.heap.size, 2, none⟩ = some (.slice GA gn gc) := hA3.at_ 2
 have z2 := hA3.fz 2
 obtain ⟨w4, hw4⟩ : ∃ w4, w4 = w3.setCell ⟨w.heap.size, 2, none⟩ (.slice A3 (gn + 1) c3') := ⟨_, rfl⟩
 have hF4 : Fr (· = w.heap.size) w3 w4 := by rw [hw4]; exact Fr.setCell (own := (· = w.heap.size)) w3 (p := ⟨w.heap.size, 2, none⟩) rfl _
 have hA4 : Rec 140 w4 w.heap.size #[.int .i64 E, .int .i64 L, .slice A3 (gn + 1) c3', .slice FA 0 fc] := by rw [hw4]; exact hA3.set 2 _
 have hB4 := hB3.fr hF4 (fun e => by have e' : w.heap.size + 1 = w.heap.size := e; omega)
 have hC4 := hC3.fr hF4 (fun e => by have e' : w.heap.size + 2 = w.heap.size := e; omega)
 have b3 : Below w.heap.size w w3 := HB.out.trans (((B2.out.trans (BB.out.mono B2.out.size)).trans bg3).mono HB.out.size)
 have b4 : Below w.heap.size w w4 := b3.trans (hF4.toBelow (fun x hx => by rw [show x = w.heap.size from hx]; exact Nat.le_refl _) b3.size)
 have ho4 := own_fr ho3 hF4 (fun x hx e => by have := (ho3.lt x hx).1; have e' : x = w.heap.size := e; have := HS1.out; omega)
 have a0 : w4.cell? ⟨w.heap.size, 0, none⟩ = some (.int .i64 E) := hA4.at_ 0
 have a1 : w4.cell? ⟨w.heap.size, 1, none⟩ = some (.int .i64 L) := hA4.at_ 1
 have a2' : w4.cell? ⟨w.heap.size, 2, none⟩ = some (.slice A3 (gn + 1) c3') := hA4.at_ 2
 have a3 : w4.cell? ⟨w.heap.size, 3, none⟩ = some (.slice FA 0 fc) := hA4.at_ 3
 have p0 : w4.cell? ⟨w.heap.size + 1, 0, none⟩ = some (.int .i64 0) := hB4.at_ 0
 have p1 : w4.cell? ⟨w.heap.size + 1, 1, none⟩ = some (.int .i64 0) := hB4.at_ 1
 have p2 : w4.cell? ⟨w.heap.size + 1, 2, none⟩ = some (.slice none 0 0) := hB4.at_ 2
 have p3 : w4.cell? ⟨w.heap.size + 1, 3, none⟩ = some (.slice none 0 0) := hB4.at_ 3
 have f0 := hB4.fz 0
 have f1 := hB4.fz 1
 have f2 := hB4.fz 2
 have f3 := hB4.fz 3
 have t0 : w4.cell? ⟨w.heap.size + 2, 0, none⟩ = some (.int .i64 0) := hC4.at_ 0
 have t1 : w4.cell? ⟨w.heap.size + 2, 1, none⟩ = some (.int .i64 0) := hC4.at_ 1
 have u0 := hC4.fz 0
 have u1 := hC4.fz 1
 obtain ⟨s1, s2, s3⟩ := stores_two (a0 := .int .i64 E) (a1 := .int .i64 L) (a2 := .slice A3 (gn + 1) c3') (a3 := .slice FA 0 fc) (b0 := .int .i64 gn) (b1 := .int .i64 0) hB4 hC4 (by omega)
 have S1 := hi_ s1
 have S2 := hi_ s2
 have S3 := hi_ s3
 have B4 := hi_ b4
 have HO4 := hi_ ho4
 have HW4 := hi_ hw4
 clear hA3 hB3 hC3 hw4 hF4 hA4 hB4 hC4 b3 b4 ho3 ho4 s1 s2 s3 hg3 bg3 hob hnew hone
 go_wp2_with (first | (rw [<- HW4.out]))
 go_region
 all_goals go_wp2
 all_goals refine bodyPost_ret (res_cct rfl rfl (S1.out.load rsT rfl) rfl (S2.out.load idT rfl)) rfl ?_
 all_goals
  have bS3 := S3.out.toBelow (B := w.heap.size) (fun x hx => by rcases hx with h | h <;> (rw [h]; omega)) B4.out.size
  have hB := B4.out.trans bS3
  have hR := H.out.below hB
  have ho5 : _ := own_fr HO4.out S3.out (fun x hx e => by have := (HO4.out.lt x hx).1; have := HS1.out; rcases e with e | e <;> omega)
  have hmap : s.g.map (Value.int .i64) ++ [.int .i64 0] = (s.push 0).g.map (Value.int .i64) := by simp [NS.push]
  rw [hmap] at ho5
  obtain ⟨A', c', e', hc', hm', hk'⟩ := IRk.of_own ho5
  cases e'
  have hs1 := HS1.out
  exact ⟨⟨E, L, A3, gn + 1, c3', FA, 0, fc⟩, rfl, { E := hR.E, L := hR.L, gn := (by show gn + 1 = (s.push 0).g.length; rw [HGN.out]; simp [NS.push]), fn := hR.fn, g := hk'.mono (fun x hx => .inr ⟨by omega, hx.2⟩), f := hR.f.mono (fun x hx => .inl hx), gc := hc', fc := hR.fc }, hB⟩
theorem RTake_any (h : RS K w d s) (ok : s.Ok) : Calls Tryz.prog 99 #[d.v] w (RLeft K w s.take.1 s.take.2.1 s.take.2.2) := by
 by_cases hf : s.fr = []
 ·by_cases he : s.g.length = s.E
  ·rw [NS.take_full hf he]; exact RTake_full h ok hf he
  ·rw [NS.take_push hf he]; exact RTake_next h ok hf he
 ·exact RTake_free h ok hf
end
end Go.Proofs.YthiknmhkdeicjaaGreatDoor
namespace Go.Proofs.YthiknmhkdeicjaaGreatDoor
set_option maxRecDepth 200000
open Go.RowKit
def GLeft (K : Nat -> Prop) (w : World) (s : NS) (cd : Int) (e : Ending) (w' : World) : Prop :=
 ∃ d' : Rv, e = .returned (.tuple #[d'.v, .int .i64 cd]) /\ RS (fun y => K y \/ (w.heap.size <= y /\ y < w'.heap.size)) w' d' s /\ Below w.heap.size w w'
section
variable {K : Nat -> Prop} {w : World} {d : Rv} {s : NS}
theorem RGive_no (h : RS K w d s) (hf : s.fr.length <= 1000000) (i gen : Int) (ha : s.alive i gen = false) :
  Calls Tryz.prog 94 #[d.v, idv (i, gen)] w (GLeft K w s 5) := by
 obtain ⟨E, L, GA, gn, gc, FA, fn, fc⟩ := d
 have H := hi_ h
 show Calls _ _ #[.agg #[.int .i64 E, .int .i64 L, .slice GA gn gc, .slice FA fn fc], .agg #[.int .i64 i, .int .i64 gen]] w _
 obtain ⟨hb, hA1, hB1, hC1⟩ := three_new w 140 39 140 #[.int .i64 E, .int .i64 L, .slice GA gn gc, .slice FA fn fc] #[.int .i64 i, .int .i64 gen] #[.int .i64 0, .int .i64 0, .slice none 0 0, .slice none 0 0]
 obtain ⟨w1, hw1⟩ : ∃ w1, w1 = ((w.alloc (.cells #[.int .i64 E, .int .i64 L, .slice GA gn gc, .slice FA fn fc] 140)).alloc (.cells #[.int .i64 i, .int .i64 gen] 39)).alloc (.cells #[.int .i64 0, .int .i64 0, .slice none 0 0, .slice none 0 0] 140) := ⟨_, rfl⟩
 rw [<- hw1] at hb hA1 hB1 hC1
 have CA := RAlive_any (h.below hb) hf i gen
 rw [ha] at CA
 simp only [Rv.v, idv] at CA
 have CB := hi_ CA
 have HB := hi_ hb
 have HA1 := hi_ hA1
 have HB1 := hi_ hB1
 have HC1 := hi_ hC1
 clear CA hb hA1 hB1 hC1 h ha
 go_enter Tryz.func94, Tryz.ntmps94
 go_wp2_with (first
  | (rw [<- hw1]; clear hw1)
  | (with_reducible refine wpList_ldQ rfl (.tmp 2) rfl rfl HA1.out ?_)
  | (with_reducible refine wpList_ldP rfl (.tmp 3) rfl rfl HB1.out ?_)
  | (go_at_call 143; refine CB.out.mono ?_; rintro e w2 ⟨rfl, hB2⟩; have HA2 := hi_ (HA1.out.under hB2); have HC2 := hi_ (HC1.out.under hB2); have HB2 := hi_ (HB.out.trans (hB2.mono HB.out.size)); clear hB2)
  | (with_reducible refine wpList_ldQ rfl (.tmp 2) rfl rfl HA2.out ?_)
  | (with_reducible refine wpList_stQ (E' := E) (L' := L) (GA' := GA) (gn' := gn) (gc' := gc) (FA' := FA) (fn' := fn) (fc' := fc) rfl (.tmp 4) (.tmp 10) rfl rfl rfl HC2.out ?_; intro w3 hR3 hF3))
 refine bodyPost_ret (res_ct rfl rfl (hR3.load rsT rfl)) rfl ?_
 have hB : Below w.heap.size w w3 := HB2.out.trans (hF3.toBelow (fun x hx => by rw [show x = w.heap.size + 2 from hx]; omega) HB2.out.size)
 exact ⟨⟨E, L, GA, gn, gc, FA, fn, fc⟩, rfl, (H.out.below hB).mono (fun x hx => .inl hx), hB⟩
set_option maxHeartbeats 4000000 in
theorem RGive_old (h : RS K w d s) (ok : s.Ok) (i gen : Int) (ha : s.alive i gen = true) (hlt : ¬ gen + 1 < s.L) :
  Calls Tryz.prog 94 #[d.v, idv (i, gen)] w (GLeft K w (s.give i gen).1 0) := by
 obtain ⟨i0, hi0, hz0, hz1, hz2⟩ := info_parts intT.info
 have hgv := NS.give_yes ha
 obtain ⟨⟨q0, q1, q2, q3⟩, q4⟩ := NS.alive_iff.1 ha
 obtain ⟨j, rfl⟩ : ∃ j : Nat, i = (j : Int) := ⟨i.toNat, by omega⟩
 rw [Int.toNat_natCast] at hgv q3 q4
 have hjg : j < s.g.length := by omega
 have hgz := ok.gD j
 rw [q4] at hgz q3
 have hL2 := ok.L2
 have hg0 : (0 : Int) <= gen := hgz.1
 have hg1 : gen < 1073741824 := by omega
 have hfew := ok.few
 obtain ⟨E, L, GA, gn, gc, FA, fn, fc⟩ := d
 have hgn := h.gn
 have hfn := h.fn
 have hL := h.L
 simp only at hgn hfn hL
 have hj : j < gn := by omega
 have hfn1 : fn <= 1024 := by omega
 have hgn1 : gn <= 1024 := by have := ok.len; have := ok.E2; omega
 have hdec : decide (gen + 1 < L) = false := by rw [hL]; exact decide_eq_false hlt
 have hgr := h.g.1
 have hfr := h.f.1
 simp only at hgr hfr
 have H := hi_ h
 have HGV := hi_ hgv
 have HGN := hi_ hgn
 have HFN := hi_ hfn
 have HQ4 := hi_ q4
 have HJ := hi_ hjg
 have HLT := hi_ hlt
 show Calls _ _ #[.agg #[.int .i64 E, .int .i64 L, .slice GA gn gc, .slice FA fn fc], .agg #[.int .i64 j, .int .i64 gen]] w _
 obtain ⟨hb, hA1, hB1, hC1⟩ := three_new w 140 39 140 #[.int .i64 E, .int .i64 L, .slice GA gn gc, .slice FA fn fc] #[.int .i64 j, .int .i64 gen] #[.int .i64 0, .int .i64 0, .slice none 0 0, .slice none 0 0]
 obtain ⟨w1, hw1⟩ : ∃ w1, w1 = ((w.alloc (.cells #[.int .i64 E, .int .i64 L, .slice GA gn gc, .slice FA fn fc] 140)).alloc (.cells #[.int .i64 j, .int .i64 gen] 39)).alloc (.cells #[.int .i64 0, .int .i64 0, .slice none 0 0, .slice none 0 0] 140) := ⟨_, rfl⟩
 rw [<- hw1] at hb hA1 hB1 hC1
 have hs1 : w.heap.size + 3 = w1.heap.size := by rw [hw1]; simp
 have CA := RAlive_any (h.below hb) (by omega) (j : Int) gen
 rw [ha] at CA
 simp only [Rv.v, idv] at CA
 have CB := hi_ CA
 have HB := hi_ hb
 have HA1 := hi_ hA1
 have HB1 := hi_ hB1
 have HC1 := hi_ hC1
 have HGR := hi_ hgr
 have HFR := hi_ hfr
 clear CA hb hA1 hB1 hC1 h ha hgv hgn hfn q4 hjg hgr hfr q0 q1 q2 q3 hgz hL2 hL hlt
 go_enter Tryz.func94, Tryz.ntmps94
 go_wp2_with (first
  | (rw [<- hw1]; clear hw1)
  | (with_reducible refine wpList_ldQ rfl (.tmp 2) rfl rfl HA1.out ?_)
  | (with_reducible refine wpList_ldP rfl (.tmp 3) rfl rfl HB1.out ?_)
  | (go_at_call 143; refine CB.out.mono ?_; rintro e w2 ⟨rfl, hB2⟩; have HA2 := hi_ (HA1.out.under hB2); have HD2 := hi_ (HB1.out.under hB2); have HC2 := hi_ (HC1.out.under hB2); have hs2 := hB2.size; have HB2 := hi_ (HB.out.trans (hB2.mono HB.out.size)); have a2 : w2.cell? ⟨w.heap.size, 2, none⟩ = some (.slice GA gn gc) := HA2.out.at_ 2; have a2a : (w2.alloc (.cells #[] 3)).cell? ⟨w.heap.size, 2, none⟩ = some (.slice GA gn gc) := (HA2.out.under ((Below.refl _ _).alloc (Nat.le_refl _) _)).at_ 2; have hoa := own_empty w2 w2.heap.size 3 (Nat.le_refl _); have hra := (HGR.out.below HB2.out).below ((Below.refl _ _).alloc (Nat.le_refl _) (.cells #[] 3)); clear hB2)
  | (at_builtin; refine wpList_appI _ intT rfl (.tmp 11) (.tmp 13) rfl w2.heap.size _ 0 [] rfl hoa GA gn gc s.g rfl hra (by omega) (by simp) ?_))
 intro v3 w3 ho3 hg3
 try rw [List.nil_append, Nat.zero_add] at ho3
 obtain ⟨A3, c3', rfl, hc3, hm3, hr3⟩ := own_open ho3
 obtain ⟨g3, rfl, hg3l, hcell3, hfz3⟩ := hr3 (by omega)
 have b3 : Below w2.heap.size w2 w3 := ((Below.refl _ _).alloc (Nat.le_refl _) _).trans (below_own hoa (by simp) hg3)
 have hA3 := HA2.out.under b3
 have hD3 := HD2.out.under b3
 have hC3 := HC2.out.under b3
 have hgb := (ho3.lt g3 rfl).1
 have k2 : w3.cell? ⟨w.heap.size, 2, none⟩ = some (.slice GA gn gc) := hA3.at_ 2
 have f2 := hA3.fz 2
 -- the new row stored; then one of its cells
 obtain ⟨w4, hw4⟩ : ∃ w4, w4 = w3.setCell ⟨w.heap.size, 2, none⟩ (.slice (some ⟨g3, 0, none⟩) gn c3') := ⟨_, rfl⟩
 have hF4 : Fr (· = w.heap.size) w3 w4 := by rw [hw4]; exact Fr.setCell (own := (· = w.heap.size)) w3 (p := ⟨w.heap.size, 2, none⟩) rfl _
 have hA4 : Rec 140 w4 w.heap.size #[.int .i64 E, .int .i64 L, .slice (some ⟨g3, 0, none⟩) gn c3', .slice FA fn fc] := by rw [hw4]; exact hA3.set 2 _
 have hD4 := hD3.fr hF4 (fun e => by have e' : w.heap.size + 1 = w.heap.size := e; omega)
 have hC4 := hC3.fr hF4 (fun e => by have e' : w.heap.size + 2 = w.heap.size := e; omega)
 have ho4 := own_fr ho3 hF4 (fun x hx e => by have := (ho3.lt x hx).1; have e' : x = w.heap.size := e; omega)
 have d4 : w4.cell? ⟨g3, j, none⟩ = some (.int .i64 gen) := by
  rw [ho4.cellAt j (by omega), List.getElem?_map, List.getElem?_eq_getElem HJ.out]
  rw [<- HQ4.out]
  simp [List.getD, List.getElem?_eq_getElem HJ.out]
 have z4 := ho4.frozenAt j
 have a4 : w4.cell? ⟨w.heap.size, 2, none⟩ = some (.slice (some ⟨g3, 0, none⟩) gn c3') := hA4.at_ 2
 have t4 : w4.cell? ⟨w.heap.size + 1, 0, none⟩ = some (.int .i64 j) := hD4.at_ 0
 obtain ⟨w5, hw5⟩ : ∃ w5, w5 = w4.setCell ⟨g3, j, none⟩ (.int .i64 (gen + 1)) := ⟨_, rfl⟩
 have hst := ho4.stored j (.int .i64 (gen + 1))
 rw [<- hw5] at hst
 obtain ⟨ho5, hgr5⟩ := hst
 rw [<- List.map_set] at ho5
 have hF5 : Fr (· = g3) w4 w5 := Fr.grown hgr5 (fun x hx => by injection hx with hx; exact hx.symm)
 have hA5 := hA4.fr hF5 (fun e => by have e' : w.heap.size = g3 := e; omega)
 have hD5 := hD4.fr hF5 (fun e => by have e' : w.heap.size + 1 = g3 := e; omega)
 have hC5 := hC4.fr hF5 (fun e => by have e' : w.heap.size + 2 = g3 := e; omega)
 have b4 : Below w.heap.size w w4 := (HB2.out.trans (b3.mono HB2.out.size)).trans (hF4.toBelow (fun x hx => by rw [show x = w.heap.size from hx]; exact Nat.le_refl _) (by have := HB2.out.size; have := b3.size; omega))
 have b5 : Below w.heap.size w w5 := b4.trans (hF5.toBelow (fun x hx => by rw [show x = g3 from hx]; omega) b4.size)
 have a52 : w5.cell? ⟨w.heap.size, 2, none⟩ = some (.slice (some ⟨g3, 0, none⟩) gn c3') := hA5.at_ 2
 have a51 : w5.cell? ⟨w.heap.size, 1, none⟩ = some (.int .i64 L) := hA5.at_ 1
 have t5 : w5.cell? ⟨w.heap.size + 1, 0, none⟩ = some (.int .i64 j) := hD5.at_ 0
 have d5 : w5.cell? ⟨g3, j, none⟩ = some (.int .i64 (gen + 1)) := by
  rw [ho5.cellAt j (by omega), List.getElem?_map, List.getElem?_set_self HJ.out]
  rfl
 have HW4 := hi_ hw4
 have HW5 := hi_ hw5
 have HA5 := hi_ hA5
 have HD5 := hi_ hD5
 have HC5 := hi_ hC5
 have HO5 := hi_ ho5
 have B5 := hi_ b5
 have HGB := hi_ hgb
 clear hw4 hw5 hA3 hD3 hC3 hA4 hD4 hC4 hF4 hF5 ho3 ho4 ho5 hgr5 hg3 b3 b4 b5 hr3 hcell3 hfz3 hA5 hD5 hC5 hoa hra a2 a2a
 go_wp2_with (first
  | (rw [<- HW4.out])
  | (rw [<- HW5.out]))
 go_quiet (fail)
 obtain ⟨w6, hw6⟩ : ∃ w6, w6 = w5.drewN nq := ⟨_, rfl⟩
 have b6 : Below w5.heap.size w5 w6 := by rw [hw6]; exact below_drewNi _ _
 rw [<- hw6]
 clear hw6
 have HA6 := hi_ (HA5.out.under b6)
 have HD6 := hi_ (HD5.out.under b6)
 have HC6 := hi_ (HC5.out.under b6)
 have HO6 := hi_ (own_keep HO5.out b6)
 have B6 := hi_ (B5.out.trans (b6.mono B5.out.size))
 clear b6 HA5 HD5 HC5 HO5 B5 HA1 HB1 HC1 HA2 HC2 HD2 a4 t4 d4 z4 k2 f2
 go_wp2_with (first
  | (with_reducible refine wpList_ldQ rfl (.tmp 2) rfl rfl HA6.out ?_)
  | (with_reducible refine wpList_stQ (E' := E) (L' := L) (GA' := some ⟨g3, 0, none⟩) (gn' := gn) (gc' := c3') (FA' := FA) (fn' := fn) (fc' := fc) rfl (.tmp 4) (.tmp 42) rfl rfl rfl HC6.out ?_; intro w7 hR7 hF7))
 refine bodyPost_ret (res_ct rfl rfl (hR7.load rsT rfl)) rfl ?_
 have hB : Below w.heap.size w w7 := B6.out.trans (hF7.toBelow (fun x hx => by rw [show x = w.heap.size + 2 from hx]; omega) B6.out.size)
 have hR := H.out.below hB
 have ho7 := own_fr HO6.out hF7 (fun x hx e => by have := (HO6.out.lt x hx).1; have e' : x = w.heap.size + 2 := e; have := HB.out.size; omega)
 obtain ⟨A', c', e', hc', hm', hk'⟩ := IRk.of_own ho7
 cases e'
 have hg' : (s.give j gen).1.g = s.g.set j (gen + 1) := by rw [HGV.out]
 have hf' : (s.give j gen).1.fr = s.fr := by rw [HGV.out]; simp [HLT.out]
 exact ⟨⟨E, L, some ⟨g3, 0, none⟩, gn, c3', FA, fn, fc⟩, rfl, { E := by rw [HGV.out]; exact hR.E, L := by rw [HGV.out]; exact hR.L, gn := by rw [hg']; simpa using HGN.out, fn := by rw [hf']; exact HFN.out, g := by rw [hg']; exact hk'.mono (fun x hx => .inr ⟨by have := HB.out.size; omega, hx.2⟩), f := by rw [hf']; exact hR.f.mono (fun x hx => .inl hx), gc := hc', fc := hR.fc }, hB⟩
end
end Go.Proofs.YthiknmhkdeicjaaGreatDoor
