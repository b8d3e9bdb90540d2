/- TbL1 -/
import Derived.Test.YtnjfogeefdmlkaaDoorQl15
namespace Go.Proofs.YtnjfogeefdmlkaaDoor
open Go.RowKit
set_option maxRecDepth 20000
set_option linter.unusedSimpArgs false
set_option linter.unusedVariables false

section
variable (lg pg en gn : Int) (A : Option Addr) (n cap : Nat) (ks : List Kd) (w : World)
theorem wpList_stZ {w : World} {g : Nat} {ops : Array Oper} {rest : List Oper} {o : Oper} {a : Act} {Q : Exit → Act → World → Prop} (d' : Rt) (hgd : Region.wanted o (yielded ops a.tmps) = true) (x y : Operand) (ho : o.op = .store 40 x y) (hx : a.eval x = .pointer (some ⟨g, 0, none⟩)) (hy : a.eval y = .agg d'.cs) (h : Rec 40 w g zT)
    (kk : ∀ w', Rec 40 w' g d'.cs → Fr (· = g) w w' → wpList Tryd.prog ops Q rest (a.put o.dst undef) w') : wpList Tryd.prog ops Q (o :: rest) a w := wpList_stS rtabT rfl rfl (by simp [Rt.cs, Value.oneCell']) hgd x y ho hx hy h kk
/-- What Load answers where it refuses. -/
def RLBad (w : World) (e : Ending) (w' : World) : Prop := e = .returned (.tuple #[.agg #[.slice none 0 0, .slice none 0 0, .slice none 0 0], .int .i64 11]) ∧ Below w.heap.size w w'
set_option maxHeartbeats 2000000 in
theorem RLoad_no (h : KRd w A n ks) (hn : n ≤ 1000000) (s : Nat) (hs : s < 18446744073709551616) (IA : Option Addr) (m ic : Nat) (CA : Option Addr) (cn cx : Nat) (hm : m ≤ 1000000) (hc : cn ≤ 1000000)
    (hbad : ¬ (s &&& ofL (idxs n) 64 = s ∧ cn = (Tb.new n (zsK ks) s).cs.length ∧ m ≤ 1024)) :
    Calls Tryd.prog 8 #[cv lg pg en gn A n cap, .int .u64 (s : Nat), .slice IA m ic, .slice CA cn cx] w (RLBad w) := by
  obtain ⟨w1, hw1⟩ : ∃ w1, w1 = (w.alloc (.cells (cc lg pg en gn A n cap) 24)).alloc (.cells #[.slice none 0 0, .slice none 0 0, .slice none 0 0] 40) := ⟨_, rfl⟩
  have hb1 : Below w.heap.size w w1 := by rw [hw1]; exact ((Below.refl _ _).alloc (Nat.le_refl _) _).alloc (by simp) _
  have HR1 := Lib.hid (show Rec 24 w1 w.heap.size (cc lg pg en gn A n cap) by rw [hw1]; exact (Rec.new _ _ _).under ((Below.refl _ _).alloc (Nat.le_refl _) _))
  have HZ1 := Lib.hid (show Rec 40 w1 (w.heap.size + 1) zT by
    have := Rec.new (w.alloc (.cells (cc lg pg en gn A n cap) 24)) 40 zT
    rw [World.size_alloc] at this
    rw [hw1]
    exact this)
  have hz := (Tb.new_ok n (zsK ks) s).cn
  have CN := RTNew_any lg pg en gn A n cap ks w1 (h.below hb1) hn s hs
  obtain ⟨sg, hsg⟩ : ∃ sg, sg = s &&& ofL (idxs n) 64 := ⟨_, rfl⟩
  have hof : ofL ((Tb.new n (zsK ks) s).cs.map (·.1)) 64 = sg := by
    have e := new_cs n (zsK ks) s
    have := ofL_listZ (and_lt64 s (ofL (idxs n) 64) hs)
    rw [e] at this
    rw [hsg]
    exact this
  obtain ⟨t0, ht0⟩ : ∃ t0, t0 = Tb.new n (zsK ks) s := ⟨_, rfl⟩
  rw [← ht0] at CN hbad hof hz
  rw [← hsg] at hbad
  have CN := Lib.hid CN
  have HB1 := Lib.hid hb1
  have HOF := Lib.hid hof
  have HZ := Lib.hid hz
  have hsz : w1.heap.size = w.heap.size + 2 := by rw [hw1]; simp
  have HSZ := Lib.hid hsz
  clear h hb1 hof hsg ht0 hz hs hsz
  obtain ⟨nc, hnc⟩ : ∃ nc, nc = t0.cs.length := ⟨_, rfl⟩
  rw [← hnc] at hbad
  have HNC := Lib.hid hnc
  clear hnc
  by_cases h1 : sg = s
  · subst h1
    by_cases h2 : cn = nc
    · have h2 := h2.symm
      subst h2
      have h3 : ¬ m ≤ 1024 := fun h => hbad ⟨rfl, rfl, h⟩
      have d3 : decide ((1024 : Int) < (m : Int)) = true := decide_eq_true (by omega)
      have d4 : decide (1024 < m) = true := decide_eq_true (by omega)
      clear hbad
      go_enter Tryd.func8, Tryd.ntmps8
      go_wp2_with (first
        | (rw [← hw1]; clear hw1)
        | (with_reducible refine wpList_ldS confT rfl rfl (.tmp 4) rfl rfl HR1.out ?_)
        | (go_at_call 29; refine CN.out.mono ?_; rintro e w2 ⟨d, rfl, hR, hb2⟩; have hcn := hR.cn; rw [← HNC.out] at hcn; have HRd := Lib.hid hR; have HB2 := Lib.hid hb2; clear hR hb2; obtain ⟨w3, hw3⟩ : ∃ w3, w3 = w2.alloc (.cells #[.slice none 0 0, .slice none 0 0, .slice none 0 0] 40) := ⟨_, rfl⟩; have HW3 := Lib.hid hw3; have HR3 := Lib.hid (show Rec 40 w3 w2.heap.size zT from (by rw [hw3]; exact Rec.new _ _ _)); have HB3 := Lib.hid (show Below w2.heap.size w2 w3 from (by rw [hw3]; exact (Below.refl _ _).alloc (Nat.le_refl _) _)); have HCN := Lib.hid hcn; clear hw3 hcn)
        | (rw [← HW3.out]; clear HW3)
        | ((with_reducible refine wpList_stZ d rfl (.tmp 10) (.tmp 18) rfl rfl rfl HR3.out ?_); intro w4 hR4 hF4; have HB4 := Lib.hid (HB3.out.trans (hF4.toBelow (fun x hx => (by rw [show x = w2.heap.size from hx]; exact Nat.le_refl _)) HB3.out.size)); have c0 : w4.cell? ⟨w2.heap.size, 0, none⟩ = some (.slice d.CA nc d.cc) := (by rw [← HCN.out]; exact hR4.at_ 0); have HZ4 := Lib.hid (HZ1.out.under (HB2.out.trans (HB4.out.mono HB2.out.size))); have hrf := ROf_any d.CA nc d.cc (t0.cs.map (·.1)) w4 (by have := IntsV.ird (HRd.out.below HB4.out).c; rw [HCN.out] at this; exact this) (by have := HZ.out; have := HNC.out; omega); rw [HOF.out] at hrf; have HRf := Lib.hid hrf; clear hrf; clear hR4 hF4)
        | (go_at_call 30; refine HRf.out.mono ?_; rintro e w' ⟨rfl, rfl⟩)
        | ((with_reducible refine wpList_stS (cs' := #[.slice none 0 0, .slice none 0 0, .slice none 0 0]) rtabT rfl rfl (by simp [Value.oneCell']) rfl (.tmp 8) (.tmp 37) rfl rfl rfl HZ4.out ?_); intro w5 hR5 hF5))
      refine bodyPost_ret (res_ct rfl rfl (hR5.load rtabT rfl)) rfl ?_
      have hb4 := HB1.out.trans ((HB2.out.trans (HB4.out.mono HB2.out.size)).mono HB1.out.size)
      exact ⟨rfl, hb4.trans (hF5.toBelow (fun x hx => by rw [show x = w.heap.size + 1 from hx]; omega) hb4.size)⟩
    · have d3 : decide ((cn : Int) = (nc : Int)) = false := decide_eq_false (by omega)
      have d4 : decide (cn = nc) = false := decide_eq_false h2
      have d5 : ((cn : Int) != (nc : Int)) = true := bne_iff_ne.2 (by omega)
      clear hbad
      go_enter Tryd.func8, Tryd.ntmps8
      go_wp2_with (first
        | (rw [← hw1]; clear hw1)
        | (with_reducible refine wpList_ldS confT rfl rfl (.tmp 4) rfl rfl HR1.out ?_)
        | (go_at_call 29; refine CN.out.mono ?_; rintro e w2 ⟨d, rfl, hR, hb2⟩; have hcn := hR.cn; rw [← HNC.out] at hcn; have HRd := Lib.hid hR; have HB2 := Lib.hid hb2; clear hR hb2; obtain ⟨w3, hw3⟩ : ∃ w3, w3 = w2.alloc (.cells #[.slice none 0 0, .slice none 0 0, .slice none 0 0] 40) := ⟨_, rfl⟩; have HW3 := Lib.hid hw3; have HR3 := Lib.hid (show Rec 40 w3 w2.heap.size zT from (by rw [hw3]; exact Rec.new _ _ _)); have HB3 := Lib.hid (show Below w2.heap.size w2 w3 from (by rw [hw3]; exact (Below.refl _ _).alloc (Nat.le_refl _) _)); have HCN := Lib.hid hcn; clear hw3 hcn)
        | (rw [← HW3.out]; clear HW3)
        | ((with_reducible refine wpList_stZ d rfl (.tmp 10) (.tmp 18) rfl rfl rfl HR3.out ?_); intro w4 hR4 hF4; have HB4 := Lib.hid (HB3.out.trans (hF4.toBelow (fun x hx => (by rw [show x = w2.heap.size from hx]; exact Nat.le_refl _)) HB3.out.size)); have c0 : w4.cell? ⟨w2.heap.size, 0, none⟩ = some (.slice d.CA nc d.cc) := (by rw [← HCN.out]; exact hR4.at_ 0); have HZ4 := Lib.hid (HZ1.out.under (HB2.out.trans (HB4.out.mono HB2.out.size))); have hrf := ROf_any d.CA nc d.cc (t0.cs.map (·.1)) w4 (by have := IntsV.ird (HRd.out.below HB4.out).c; rw [HCN.out] at this; exact this) (by have := HZ.out; have := HNC.out; omega); rw [HOF.out] at hrf; have HRf := Lib.hid hrf; clear hrf; clear hR4 hF4)
        | (go_at_call 30; refine HRf.out.mono ?_; rintro e w' ⟨rfl, rfl⟩)
        | ((with_reducible refine wpList_stS (cs' := #[.slice none 0 0, .slice none 0 0, .slice none 0 0]) rtabT rfl rfl (by simp [Value.oneCell']) rfl (.tmp 8) (.tmp 37) rfl rfl rfl HZ4.out ?_); intro w5 hR5 hF5))
      refine bodyPost_ret (res_ct rfl rfl (hR5.load rtabT rfl)) rfl ?_
      have hb4 := HB1.out.trans ((HB2.out.trans (HB4.out.mono HB2.out.size)).mono HB1.out.size)
      exact ⟨rfl, hb4.trans (hF5.toBelow (fun x hx => by rw [show x = w.heap.size + 1 from hx]; omega) hb4.size)⟩
  · have d3 : decide ((sg : Int) = (s : Int)) = false := decide_eq_false (by omega)
    have d4 : decide (sg = s) = false := decide_eq_false h1
    have d5 : ((sg : Int) != (s : Int)) = true := bne_iff_ne.2 (by omega)
    clear hbad
    go_enter Tryd.func8, Tryd.ntmps8
    go_wp2_with (first
      | (rw [← hw1]; clear hw1)
      | (with_reducible refine wpList_ldS confT rfl rfl (.tmp 4) rfl rfl HR1.out ?_)
      | (go_at_call 29; refine CN.out.mono ?_; rintro e w2 ⟨d, rfl, hR, hb2⟩; have hcn := hR.cn; rw [← HNC.out] at hcn; have HRd := Lib.hid hR; have HB2 := Lib.hid hb2; clear hR hb2; obtain ⟨w3, hw3⟩ : ∃ w3, w3 = w2.alloc (.cells #[.slice none 0 0, .slice none 0 0, .slice none 0 0] 40) := ⟨_, rfl⟩; have HW3 := Lib.hid hw3; have HR3 := Lib.hid (show Rec 40 w3 w2.heap.size zT from (by rw [hw3]; exact Rec.new _ _ _)); have HB3 := Lib.hid (show Below w2.heap.size w2 w3 from (by rw [hw3]; exact (Below.refl _ _).alloc (Nat.le_refl _) _)); have HCN := Lib.hid hcn; clear hw3 hcn)
      | (rw [← HW3.out]; clear HW3)
      | ((with_reducible refine wpList_stZ d rfl (.tmp 10) (.tmp 18) rfl rfl rfl HR3.out ?_); intro w4 hR4 hF4; have HB4 := Lib.hid (HB3.out.trans (hF4.toBelow (fun x hx => (by rw [show x = w2.heap.size from hx]; exact Nat.le_refl _)) HB3.out.size)); have c0 : w4.cell? ⟨w2.heap.size, 0, none⟩ = some (.slice d.CA nc d.cc) := (by rw [← HCN.out]; exact hR4.at_ 0); have HZ4 := Lib.hid (HZ1.out.under (HB2.out.trans (HB4.out.mono HB2.out.size))); have hrf := ROf_any d.CA nc d.cc (t0.cs.map (·.1)) w4 (by have := IntsV.ird (HRd.out.below HB4.out).c; rw [HCN.out] at this; exact this) (by have := HZ.out; have := HNC.out; omega); rw [HOF.out] at hrf; have HRf := Lib.hid hrf; clear hrf; clear hR4 hF4)
      | (go_at_call 30; refine HRf.out.mono ?_; rintro e w' ⟨rfl, rfl⟩)
      | ((with_reducible refine wpList_stS (cs' := #[.slice none 0 0, .slice none 0 0, .slice none 0 0]) rtabT rfl rfl (by simp [Value.oneCell']) rfl (.tmp 8) (.tmp 37) rfl rfl rfl HZ4.out ?_); intro w5 hR5 hF5))
    refine bodyPost_ret (res_ct rfl rfl (hR5.load rtabT rfl)) rfl ?_
    have hb4 := HB1.out.trans ((HB2.out.trans (HB4.out.mono HB2.out.size)).mono HB1.out.size)
    exact ⟨rfl, hb4.trans (hF5.toBelow (fun x hx => by rw [show x = w.heap.size + 1 from hx]; omega) hb4.size)⟩
end
end Go.Proofs.YtnjfogeefdmlkaaDoor
