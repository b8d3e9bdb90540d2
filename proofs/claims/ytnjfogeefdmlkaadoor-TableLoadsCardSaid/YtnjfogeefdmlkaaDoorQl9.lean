/- TbE, TbF, CmL, CmMu, BitsRH, AppI, BitsRL, TbH, TbR3, BitsR -/
import Derived.Test.YtnjfogeefdmlkaaDoorQl8
import Derived.Deep.RegionHeld3
import Derived.Laws.BitsAllLaws
import Derived.Laws.Bits128
import Derived.Deep.WholeRow
import Derived.BigQuiet
import Derived.Deep.QuietTactic
namespace Go.Proofs.YtnjfogeefdmlkaaDoor
open Go.RowKit
set_option maxRecDepth 20000

theorem tcode_any (n : Int) (w : World) : Calls Tryd.prog 13 #[.int .i64 n] w fun e w' => e = .returned (.int .i64 n) ∧ w = w' := by
  go_enter Tryd.func13, Tryd.ntmps13
  go_wp2
  go_ret
  exact ⟨rfl, rfl⟩
abbrev zt : Array Value := #[nilv, nilv, .int .i64 0, .int .i64 0, .bool false, .int .i64 0]

section
variable {w w1 w2 w3 : World} {N : Nat} {tag : Nat → Nat} {p m : Nat} {v : Value} {q : Nat → Nat} {sg : Nat} {t t' : Tb}
/-- Blocks that are not the table's stay; behind a store into one of them. -/
theorem TStep.rec_ (h : TStep w1 N tag p m q sg t' w2) {T : TypeId} {b : Nat} {cs : Array Value} (hb : tag b = 0) (hR : Rec T w1 b cs) : Rec T w2 b cs := by
  obtain ⟨_, _, _, g⟩ := h
  exact hR.fr g.fr (fun e => e hb)
theorem TStep.fin (h : TStep w1 N tag p m q sg t' w2) (hb : Below w.heap.size w w1) (dom : ∀ x, tag x ≠ 0 → x < w.heap.size) {b : Nat} (h0 : w.heap.size ≤ b) (h1 : b < w1.heap.size) (hF : Fr (· = b) w2 w3) : TStep w N tag p m q sg t' w3 := by
  obtain ⟨tag', v', a, g⟩ := h
  have ht : tag' b = 0 := by
    rcases Nat.eq_zero_or_pos (tag' b) with h2 | h2
    · exact h2
    · rcases g.own b (by omega) with h3 | h3
      · have := dom b h3; omega
      · omega
  exact ⟨tag', v', a.kept hF (fun x hx e => by have e' : x = b := e; rw [e', ht] at hx; exact hx rfl), ((TGo.ofBelow hb).trans g).more hF (fun x hx => .inr (by have e' : x = b := hx; omega))⟩

theorem TStep.more (h : TStep w1 N tag p m q sg t' w2) (hb : Below w2.heap.size w2 w3) : TStep w1 N tag p m q sg t' w3 := by
  obtain ⟨tag', v', a, g⟩ := h
  exact ⟨tag', v', a.below hb, g.trans (TGo.ofBelow hb)⟩
/-- What do leaves. -/
def DoR (w : World) (N : Nat) (tag : Nat → Nat) (p m : Nat) (q : Nat → Nat) (sg : Nat) (r : Tb × Tl) (e : Ending) (w' : World) : Prop :=
  ∃ DA dn dc PA pn pc, e = .returned (.agg (tlc DA dn dc PA pn pc r.2)) ∧ TlS (fun y => w.heap.size ≤ y) w' DA dn dc PA pn r.2 ∧ TStep w N tag p m q sg r.1 w'

variable (xd xi xg : Int) (pA : Option Addr) (pn pc : Nat) (ps : List Pt) (row comp : Int) (bA : Option Addr) (bn bc : Nat) (b : List UInt8)
abbrev sc (xd xi xg : Int) (pA : Option Addr) (pn pc : Nat) (row comp : Int) (bA : Option Addr) (bn bc : Nat) : Array Value := #[.int .i64 xd, .int .i64 xi, .int .i64 xg, .slice pA pn pc, .int .i64 row, .int .i64 comp, .slice bA bn bc]
theorem do1 (h : TbA w N tag p m v q sg t) (hk : In64 comp) (hb : Rd w bA bn b) :
    Calls Tryd.prog 20 #[.pointer (some ⟨p, 0, none⟩), .agg (sc 1 xi xg pA pn pc row comp bA bn bc)] w (DoR w N tag p m q sg (t.go ⟨1, (xi, xg), ps, row, comp, b⟩)) := by
  obtain ⟨w0, hw0⟩ : ∃ w0, w0 = w.alloc (.cells (sc 1 xi xg pA pn pc row comp bA bn bc) 65) := ⟨_, rfl⟩
  obtain ⟨w1, hw1⟩ : ∃ w1, w1 = w0.alloc (.cells zt 62) := ⟨_, rfl⟩
  have b0 : Below w.heap.size w w0 := by rw [hw0]; exact (Below.refl _ _).alloc (Nat.le_refl _) _
  have b01 : Below w0.heap.size w0 w1 := by rw [hw1]; exact (Below.refl _ _).alloc (Nat.le_refl _) _
  have b1 := b0.trans (b01.mono b0.size)
  have hS : Rec 65 w1 w.heap.size (sc 1 xi xg pA pn pc row comp bA bn bc) := (by rw [hw0]; exact Rec.new _ _ _ : Rec 65 w0 w.heap.size _).under b01
  have hT : Rec 62 w1 w0.heap.size zt := by rw [hw1]; exact Rec.new _ _ _
  have s0 : w0.heap.size = w.heap.size + 1 := by rw [hw0]; simp
  have k0 : w1.cell? ⟨w.heap.size, 0, none⟩ = some (.int .i64 1) := hS.at_ 0
  have k4 : w1.cell? ⟨w.heap.size, 4, none⟩ = some (.int .i64 row) := hS.at_ 4
  have k5 : w1.cell? ⟨w.heap.size, 5, none⟩ = some (.int .i64 comp) := hS.at_ 5
  have k6 : w1.cell? ⟨w.heap.size, 6, none⟩ = some (.slice bA bn bc) := hS.at_ 6
  have CS := Lib.hid (TSet_go (h.below b1) (xi, xg) ps row comp hk bA bn bc b (hb.below (Nat.le_refl _) b1))
  obtain ⟨r, hr⟩ : ∃ r, r = t.go ⟨1, (xi, xg), ps, row, comp, b⟩ := ⟨_, rfl⟩
  have hre : r.2 = Tl.e r.2.err := by rw [hr]; exact go1_e t _ _ _ _ _
  rw [← hr] at CS ⊢
  rw [s0] at hT
  have HT := Lib.hid hT
  have HB1 := Lib.hid b1
  have HRE := Lib.hid hre
  have HDm := Lib.hid h.i.dom
  have hw : w1 = (w.alloc (.cells (sc 1 xi xg pA pn pc row comp bA bn bc) 65)).alloc (.cells zt 62) := by rw [hw1, hw0]
  have HW := Lib.hid hw
  clear h hb b0 b01 b1 hS hT hr hre hw0 hw1 s0 hw
  go_enter Tryd.func20, Tryd.ntmps20
  go_wp2_with (first
    | (rw [← HW.out]; clear HW)
    | (go_at_call 15; refine CS.out.mono ?_; rintro e w2 ⟨rfl, hs⟩; have HS := Lib.hid hs; have HT2 := Lib.hid (hs.rec_ (by rcases Nat.eq_zero_or_pos (tag (w.heap.size + 1)) with h0 | h0; exact h0; have := HDm.out _ (show tag (w.heap.size + 1) ≠ 0 by omega); omega) HT.out); clear hs)
    | (go_at_call 13; refine (tcode_any _ _).mono ?_; rintro e w3 ⟨rfl, rfl⟩)
    | (with_reducible refine wpList_stS (cs' := tlc none 0 0 none 0 0 (Tl.e r.2.err)) toldT rfl rfl (by simp [tlc, Value.oneCell']) rfl (.tmp 4) (.tmp 24) rfl rfl rfl HT2.out ?_; intro w4 hR4 hF4))
  refine bodyPost_ret (res_c rfl rfl (hR4.load toldT rfl)) rfl ?_
  have := HT.out.lt
  refine ⟨none, 0, 0, none, 0, 0, by rw [HRE.out]; rfl, by rw [HRE.out]; exact ⟨VB.non _ _, PartsV.nil _ _ _⟩, HS.out.fin HB1.out HDm.out (Nat.le_succ _) this hF4⟩
theorem do2 (h : TbA w N tag p m v q sg t) (hk : In64 comp) :
    Calls Tryd.prog 20 #[.pointer (some ⟨p, 0, none⟩), .agg (sc 2 xi xg pA pn pc row comp bA bn bc)] w (DoR w N tag p m q sg (t.go ⟨2, (xi, xg), ps, row, comp, b⟩)) := by
  obtain ⟨w0, hw0⟩ : ∃ w0, w0 = w.alloc (.cells (sc 2 xi xg pA pn pc row comp bA bn bc) 65) := ⟨_, rfl⟩
  obtain ⟨w1, hw1⟩ : ∃ w1, w1 = w0.alloc (.cells zt 62) := ⟨_, rfl⟩
  have b0 : Below w.heap.size w w0 := by rw [hw0]; exact (Below.refl _ _).alloc (Nat.le_refl _) _
  have b01 : Below w0.heap.size w0 w1 := by rw [hw1]; exact (Below.refl _ _).alloc (Nat.le_refl _) _
  have b1 := b0.trans (b01.mono b0.size)
  have hS : Rec 65 w1 w.heap.size (sc 2 xi xg pA pn pc row comp bA bn bc) := (by rw [hw0]; exact Rec.new _ _ _ : Rec 65 w0 w.heap.size _).under b01
  have hT : Rec 62 w1 w0.heap.size zt := by rw [hw1]; exact Rec.new _ _ _
  have s0 : w0.heap.size = w.heap.size + 1 := by rw [hw0]; simp
  have k0 : w1.cell? ⟨w.heap.size, 0, none⟩ = some (.int .i64 2) := hS.at_ 0
  have k4 : w1.cell? ⟨w.heap.size, 4, none⟩ = some (.int .i64 row) := hS.at_ 4
  have k5 : w1.cell? ⟨w.heap.size, 5, none⟩ = some (.int .i64 comp) := hS.at_ 5
  have CG := Lib.hid (TGet_go (h.below b1) (xi, xg) ps row comp hk b)
  obtain ⟨r, hr⟩ : ∃ r, r = t.go ⟨2, (xi, xg), ps, row, comp, b⟩ := ⟨_, rfl⟩
  rw [← hr] at CG ⊢
  rw [s0] at hT
  have HT := Lib.hid hT
  have HB1 := Lib.hid b1
  have HDm := Lib.hid h.i.dom
  have hw : w1 = (w.alloc (.cells (sc 2 xi xg pA pn pc row comp bA bn bc) 65)).alloc (.cells zt 62) := by rw [hw1, hw0]
  have HW := Lib.hid hw
  have HH := Lib.hid (h.below b1)
  clear h b0 b01 b1 hS hT hr hw0 hw1 s0 hw
  go_enter Tryd.func20, Tryd.ntmps20
  go_wp2_with (first
    | (rw [← HW.out]; clear HW)
    | (go_at_call 10; refine CG.out.mono ?_; rintro e w2 ⟨⟨GA, gn, gc, rfl, hre, hV⟩, hrt, hB2⟩; have HS := Lib.hid (HH.out.still hB2); have HT2 := Lib.hid (HT.out.under hB2); have HRE := Lib.hid hre; have HV := Lib.hid hV; have HRT := Lib.hid hrt; have HSZ := Lib.hid hB2.size; clear hre hV hrt hB2)
    | (go_at_call 13; refine (tcode_any _ _).mono ?_; rintro e w3 ⟨rfl, rfl⟩)
    | (with_reducible refine wpList_stS (cs' := tlc GA gn gc none 0 0 (Tl.e r.2.err)) toldT rfl rfl (by simp [tlc, Value.oneCell']) rfl (.tmp 4) (.tmp 40) rfl rfl rfl HT2.out ?_; intro w4 hR4 hF4))
  refine bodyPost_ret (res_c rfl rfl (hR4.load toldT rfl)) rfl ?_
  have hlt := HT.out.lt
  have hs1 := HB1.out.size
  have hV4 : VB (fun y => w.heap.size ≤ y) w4 (.slice GA gn gc) r.2.data := (HV.out.lt.stays ⟨hF4.size, fun x hx => hF4.block x hx.2 (fun e => by have e' : x = w.heap.size + 1 := e; have := hx.1; omega)⟩).mono (fun x hx => Nat.le_trans hs1 hx.1)
  refine ⟨GA, gn, gc, none, 0, 0, by rw [HRE.out]; rfl, by rw [HRE.out]; exact ⟨hV4, PartsV.nil _ _ _⟩, by rw [HRT.out]; exact HS.out.fin HB1.out HDm.out (Nat.le_succ _) hlt hF4⟩
theorem do3 (h : TbA w N tag p m v q sg t) (hT : TabAt w) :
    Calls Tryd.prog 20 #[.pointer (some ⟨p, 0, none⟩), .agg (sc 3 xi xg pA pn pc row comp bA bn bc)] w (DoR w N tag p m q sg (t.go ⟨3, (xi, xg), ps, row, comp, b⟩)) := by
  obtain ⟨w0, hw0⟩ : ∃ w0, w0 = w.alloc (.cells (sc 3 xi xg pA pn pc row comp bA bn bc) 65) := ⟨_, rfl⟩
  obtain ⟨w1, hw1⟩ : ∃ w1, w1 = w0.alloc (.cells zt 62) := ⟨_, rfl⟩
  have b0 : Below w.heap.size w w0 := by rw [hw0]; exact (Below.refl _ _).alloc (Nat.le_refl _) _
  have b01 : Below w0.heap.size w0 w1 := by rw [hw1]; exact (Below.refl _ _).alloc (Nat.le_refl _) _
  have b1 := b0.trans (b01.mono b0.size)
  have hS : Rec 65 w1 w.heap.size (sc 3 xi xg pA pn pc row comp bA bn bc) := (by rw [hw0]; exact Rec.new _ _ _ : Rec 65 w0 w.heap.size _).under b01
  have hTt : Rec 62 w1 w0.heap.size zt := by rw [hw1]; exact Rec.new _ _ _
  have s0 : w0.heap.size = w.heap.size + 1 := by rw [hw0]; simp
  have k0 : w1.cell? ⟨w.heap.size, 0, none⟩ = some (.int .i64 3) := hS.at_ 0
  have k4 : w1.cell? ⟨w.heap.size, 4, none⟩ = some (.int .i64 row) := hS.at_ 4
  have CG := Lib.hid (TParts_go (h.below b1) (hT.below b1) (xi, xg) ps row comp b)
  obtain ⟨r, hr⟩ : ∃ r, r = t.go ⟨3, (xi, xg), ps, row, comp, b⟩ := ⟨_, rfl⟩
  rw [← hr] at CG ⊢
  rw [s0] at hTt
  have HT := Lib.hid hTt
  have HB1 := Lib.hid b1
  have HDm := Lib.hid h.i.dom
  have hw : w1 = (w.alloc (.cells (sc 3 xi xg pA pn pc row comp bA bn bc) 65)).alloc (.cells zt 62) := by rw [hw1, hw0]
  have HW := Lib.hid hw
  have HH := Lib.hid (h.below b1)
  clear h b0 b01 b1 hS hT hTt hr hw0 hw1 s0 hw
  go_enter Tryd.func20, Tryd.ntmps20
  go_wp2_with (first
    | (rw [← HW.out]; clear HW)
    | (go_at_call 11; refine CG.out.mono ?_; rintro e w2 ⟨⟨GA, gn, gc, rfl, hre, hV⟩, hrt, hB2⟩; have HS := Lib.hid (HH.out.still hB2); have HT2 := Lib.hid (HT.out.under hB2); have HRE := Lib.hid hre; have HV := Lib.hid hV; have HRT := Lib.hid hrt; clear hre hV hrt hB2)
    | (go_at_call 13; refine (tcode_any _ _).mono ?_; rintro e w3 ⟨rfl, rfl⟩)
    | (with_reducible refine wpList_stS (cs' := tlc none 0 0 GA gn gc (Tl.e r.2.err)) toldT rfl rfl (by simp [tlc, Value.oneCell']) rfl (.tmp 4) (.tmp 54) rfl rfl rfl HT2.out ?_; intro w4 hR4 hF4))
  refine bodyPost_ret (res_c rfl rfl (hR4.load toldT rfl)) rfl ?_
  have hlt := HT.out.lt
  have hs1 := HB1.out.size
  have hV4 : PartsV (fun y => w.heap.size ≤ y) w4 GA gn r.2.parts := (HV.out.lt.stays ⟨hF4.size, fun x hx => hF4.block x hx.2 (fun e => by have e' : x = w.heap.size + 1 := e; have := hx.1; omega)⟩).mono (fun x hx => Nat.le_trans hs1 hx.1)
  refine ⟨none, 0, 0, GA, gn, gc, by rw [HRE.out]; rfl, by rw [HRE.out]; exact ⟨VB.non _ _, hV4⟩, by rw [HRT.out]; exact HS.out.fin HB1.out HDm.out (Nat.le_succ _) hlt hF4⟩
theorem do0 {K : Nat → Prop} (hd : xd < 1 ∨ 4 < xd) (h : TbA w N tag p m v q sg t) (hT : TabAt w) (hp : PartsV K w pA pn ps) (hK : ∀ x, K x → tag x = 0) (hn : pn ≤ 1000000) :
    Calls Tryd.prog 20 #[.pointer (some ⟨p, 0, none⟩), .agg (sc xd xi xg pA pn pc row comp bA bn bc)] w (DoR w N tag p m q sg (t.go ⟨xd, (xi, xg), ps, row, comp, b⟩)) := by
  obtain ⟨w0, hw0⟩ : ∃ w0, w0 = w.alloc (.cells (sc xd xi xg pA pn pc row comp bA bn bc) 65) := ⟨_, rfl⟩
  obtain ⟨w1, hw1⟩ : ∃ w1, w1 = w0.alloc (.cells zt 62) := ⟨_, rfl⟩
  have b0 : Below w.heap.size w w0 := by rw [hw0]; exact (Below.refl _ _).alloc (Nat.le_refl _) _
  have b01 : Below w0.heap.size w0 w1 := by rw [hw1]; exact (Below.refl _ _).alloc (Nat.le_refl _) _
  have b1 := b0.trans (b01.mono b0.size)
  have hS : Rec 65 w1 w.heap.size (sc xd xi xg pA pn pc row comp bA bn bc) := (by rw [hw0]; exact Rec.new _ _ _ : Rec 65 w0 w.heap.size _).under b01
  have hTt : Rec 62 w1 w0.heap.size zt := by rw [hw1]; exact Rec.new _ _ _
  have s0 : w0.heap.size = w.heap.size + 1 := by rw [hw0]; simp
  have k0 : w1.cell? ⟨w.heap.size, 0, none⟩ = some (.int .i64 xd) := hS.at_ 0
  have k1 : w1.cell? ⟨w.heap.size, 1, none⟩ = some (.int .i64 xi) := hS.at_ 1
  have k2 : w1.cell? ⟨w.heap.size, 2, none⟩ = some (.int .i64 xg) := hS.at_ 2
  have k3 : w1.cell? ⟨w.heap.size, 3, none⟩ = some (.slice pA pn pc) := hS.at_ 3
  have CG := Lib.hid (TAdd_go (h.below b1) (hT.below b1) (hp.below b1) hK hn pc xi xg)
  have hgo : t.go ⟨xd, (xi, xg), ps, row, comp, b⟩ = t.add (xi, xg) ps := by
    unfold Tb.go
    simp only
    rw [if_pos hd]
  rw [hgo]
  obtain ⟨r, hr⟩ : ∃ r, r = t.add (xi, xg) ps := ⟨_, rfl⟩
  rw [← hr] at CG ⊢
  have d1 : decide (xd = 1) = false := decide_eq_false (by omega)
  have d2 : decide (xd = 2) = false := decide_eq_false (by omega)
  have d3 : decide (xd = 3) = false := decide_eq_false (by omega)
  have d4 : decide (xd = 4) = false := decide_eq_false (by omega)
  rw [s0] at hTt
  have HT := Lib.hid hTt
  have HB1 := Lib.hid b1
  have HDm := Lib.hid h.i.dom
  have hw : w1 = (w.alloc (.cells (sc xd xi xg pA pn pc row comp bA bn bc) 65)).alloc (.cells zt 62) := by rw [hw1, hw0]
  have HW := Lib.hid hw
  clear h b0 b01 b1 hS hT hTt hr hw0 hw1 s0 hw hgo hp hK
  go_enter Tryd.func20, Tryd.ntmps20
  go_wp2_with (first
    | (rw [← HW.out]; clear HW)
    | (go_at_call 14; refine CG.out.mono ?_; rintro e w2 ⟨z, hre, rfl, hs⟩; have HS := Lib.hid hs; have HT2 := Lib.hid (hs.rec_ (by rcases Nat.eq_zero_or_pos (tag (w.heap.size + 1)) with h0 | h0; exact h0; have := HDm.out _ (show tag (w.heap.size + 1) ≠ 0 by omega); omega) HT.out); have HRE := Lib.hid hre; clear hs hre)
    | (go_at_call 13; refine (tcode_any _ _).mono ?_; rintro e w3 ⟨rfl, rfl⟩)
    | (with_reducible refine wpList_stS (cs' := tlc none 0 0 none 0 0 (Tl.e z)) toldT rfl rfl (by simp [tlc, Value.oneCell']) rfl (.tmp 4) (.tmp 78) rfl rfl rfl HT2.out ?_; intro w4 hR4 hF4))
  refine bodyPost_ret (res_c rfl rfl (hR4.load toldT rfl)) rfl ?_
  have := HT.out.lt
  refine ⟨none, 0, 0, none, 0, 0, by rw [HRE.out], by rw [HRE.out]; exact ⟨VB.non _ _, PartsV.nil _ _ _⟩, HS.out.fin HB1.out HDm.out (Nat.le_succ _) this hF4⟩
theorem do4 (h : TbA w N tag p m v q sg t) (hT : TabAt w) :
    Calls Tryd.prog 20 #[.pointer (some ⟨p, 0, none⟩), .agg (sc 4 xi xg pA pn pc row comp bA bn bc)] w (DoR w N tag p m q sg (t.go ⟨4, (xi, xg), ps, row, comp, b⟩)) := by
  obtain ⟨w0, hw0⟩ : ∃ w0, w0 = w.alloc (.cells (sc 4 xi xg pA pn pc row comp bA bn bc) 65) := ⟨_, rfl⟩
  obtain ⟨w1, hw1⟩ : ∃ w1, w1 = w0.alloc (.cells zt 62) := ⟨_, rfl⟩
  have b0 : Below w.heap.size w w0 := by rw [hw0]; exact (Below.refl _ _).alloc (Nat.le_refl _) _
  have b01 : Below w0.heap.size w0 w1 := by rw [hw1]; exact (Below.refl _ _).alloc (Nat.le_refl _) _
  have b1 := b0.trans (b01.mono b0.size)
  have hS : Rec 65 w1 w.heap.size (sc 4 xi xg pA pn pc row comp bA bn bc) := (by rw [hw0]; exact Rec.new _ _ _ : Rec 65 w0 w.heap.size _).under b01
  have hTt : Rec 62 w1 w0.heap.size zt := by rw [hw1]; exact Rec.new _ _ _
  have s0 : w0.heap.size = w.heap.size + 1 := by rw [hw0]; simp
  have k0 : w1.cell? ⟨w.heap.size, 0, none⟩ = some (.int .i64 4) := hS.at_ 0
  have k4 : w1.cell? ⟨w.heap.size, 4, none⟩ = some (.int .i64 row) := hS.at_ 4
  have CG := Lib.hid (TDrop_go (h.below b1) (hT.below b1) (xi, xg) ps row comp b)
  obtain ⟨r, hr⟩ : ∃ r, r = t.go ⟨4, (xi, xg), ps, row, comp, b⟩ := ⟨_, rfl⟩
  rw [← hr] at CG ⊢
  rw [s0] at hTt
  have HT := Lib.hid hTt
  have HB1 := Lib.hid b1
  have HDm := Lib.hid h.i.dom
  have hw : w1 = (w.alloc (.cells (sc 4 xi xg pA pn pc row comp bA bn bc) 65)).alloc (.cells zt 62) := by rw [hw1, hw0]
  have HW := Lib.hid hw
  clear h b0 b01 b1 hS hT hTt hr hw0 hw1 s0 hw
  go_enter Tryd.func20, Tryd.ntmps20
  go_wp2_with (first
    | (rw [← HW.out]; clear HW)
    | (go_at_call 9; refine CG.out.mono ?_; rintro e w2 ⟨x, hre, hx1, hx2, rfl, hs⟩; obtain ⟨xdt, xpt, ⟨mi, mg⟩, mok, mer⟩ := x; simp only at hx1 hx2; subst hx1 hx2; have HT2 := Lib.hid (hs.rec_ (by rcases Nat.eq_zero_or_pos (tag (w.heap.size + 1)) with h0 | h0; exact h0; have := HDm.out _ (show tag (w.heap.size + 1) ≠ 0 by omega); omega) HT.out); have HS := Lib.hid hs; have HRE := Lib.hid hre; clear hs hre))
  obtain ⟨w3, hw3⟩ : ∃ w3, w3 = w2.alloc (.cells #[.int .i64 mi, .int .i64 mg] 44) := ⟨_, rfl⟩
  have hb3 : Below w2.heap.size w2 w3 := by rw [hw3]; exact (Below.refl _ _).alloc (Nat.le_refl _) _
  have hr3 : Rec 44 w3 w2.heap.size #[.int .i64 mi, .int .i64 mg] := by rw [hw3]; exact Rec.new _ _ _
  have hld : Below w3.heap.size w3 w3.drew := (Below.refl _ _).drew
  have hb2d : Below w2.heap.size w2 w3.drew := hb3.trans (hld.mono hb3.size)
  have hr3d := hr3.under hld
  have s3 : w3.drew.cell? ⟨w2.heap.size, 0, none⟩ = some (.int .i64 mi) ∧ w3.drew.cell? ⟨w2.heap.size, 1, none⟩ = some (.int .i64 mg) := ⟨hr3d.at_ 0, hr3d.at_ 1⟩
  have hne := HT2.out.lt
  have HT3 := Lib.hid (HT2.out.under hb2d)
  have HR3 := Lib.hid hr3d
  have HB3 := Lib.hid hb2d
  rw [← hw3]
  clear hw3 hb3 hr3 hld hb2d hr3d
-- REGION11
  refine wp_region_noPanic ?_
  refine wp_region_held_drew (S := fun W => W.cell? ⟨w2.heap.size, 0, none⟩ = some (.int .i64 mi) ∧ W.cell? ⟨w2.heap.size, 1, none⟩ = some (.int .i64 mg)) (by kernel_rfl) s3 (fun hHeld => ?_)
  refine wpAnyH_take (i := 0) (oi := { dst := some 66, op := Op.load 44 (Operand.tmp 9), type := 44, pos := "law.go:41", after := #[], guard := none }) (v := ?_) rfl (by kernel_rfl) (by kernel_rfl) (by kernel_rfl) (fun _ _ _ h => h) (Or.inl ⟨by rfl, ?_⟩) (by assumption) ?_
  rotate_left 1
  · intro w' hSw; (try dsimp only at hSw); go_simp; (try with_reducible rfl)
  simp only [Act.put, List.setIfInBounds_toArray, List.set_cons_zero, List.set_cons_succ]
  refine wpAnyH_take (i := 1) (oi := { dst := some 67, op := Op.move (Operand.tmp 10), type := 4, pos := "law.go:41", after := #[], guard := none }) (v := ?_) rfl (by kernel_rfl) (by kernel_rfl) (by kernel_rfl) (fun _ _ _ h => h) (Or.inl ⟨by rfl, ?_⟩) (by assumption) ?_
  rotate_left 1
  · intro w' hSw; (try dsimp only at hSw); go_simp; (try with_reducible rfl)
  simp only [Act.put, List.setIfInBounds_toArray, List.set_cons_zero, List.set_cons_succ]
  refine wpAnyH_take (i := 2) (oi := { dst := some 68, op := Op.move (Operand.tmp 11), type := 34, pos := "law.go:41", after := #[], guard := none }) (v := ?_) rfl (by kernel_rfl) (by kernel_rfl) (by kernel_rfl) (fun _ _ _ h => h) (Or.inl ⟨by rfl, ?_⟩) (by assumption) ?_
  rotate_left 1
  · intro w' hSw; (try dsimp only at hSw); go_simp; (try with_reducible rfl)
  simp only [Act.put, List.setIfInBounds_toArray, List.set_cons_zero, List.set_cons_succ]
  refine wpAnyH_ready (rs := [3]) (by kernel_rfl) (by simp) ?_
  refine AllReadyH.cons (o := { dst := some 69, op := Op.call { callee := Callee.value (Operand.func 13), args := #[Operand.tmp 68], argTypes := #[34] }, type := 3, pos := "law.go:41", after := #[{ on := 2, ground := Ground.data }], guard := none }) rfl (fun K' hK => ?_) AllReadyH.nil
  go_simp
  go_at_call 13; refine (tcode_any _ _).mono ?_; rintro e w4 ⟨rfl, rfl⟩
  refine hK.out _ _ s3 (fun hHeld => ?_)
  clear hK K'
  try simp only [Act.put, List.setIfInBounds_toArray, List.set_cons_zero, List.set_cons_succ]
  refine wpAnyH_take (i := 4) (oi := { dst := some 70, op := Op.build 62 #[(2, Operand.tmp 66), (3, Operand.tmp 67), (4, Operand.tmp 69)], type := 62, pos := "law.go:41", after := #[{ on := 0, ground := Ground.data }, { on := 1, ground := Ground.data }, { on := 3, ground := Ground.data }], guard := none }) (v := ?_) rfl (by kernel_rfl) (by kernel_rfl) (by kernel_rfl) (fun _ _ _ h => h) (Or.inl ⟨by rfl, ?_⟩) (by assumption) ?_
  rotate_left 1
  · intro w' hSw; (try dsimp only at hSw); go_simp; (try with_reducible rfl)
  simp only [Act.put, List.setIfInBounds_toArray, List.set_cons_zero, List.set_cons_succ]
  refine wpAnyH_ready (rs := [5]) (by kernel_rfl) (by simp) ?_
  refine AllReadyH.cons (o := { dst := none, op := Op.store 62 (Operand.tmp 4) (Operand.tmp 70), type := 0, pos := "law.go:41", after := #[{ on := 4, ground := Ground.data }, { on := 3, ground := Ground.chain }, { on := 0, ground := Ground.phase }, { on := 1, ground := Ground.phase }, { on := 2, ground := Ground.phase }, { on := 3, ground := Ground.phase }, { on := 4, ground := Ground.phase }], guard := none }) rfl (fun K' hK => ?_) AllReadyH.nil
  refine step_stS (cs' := tlc none 0 0 none 0 0 ⟨[], [], (mi, mg), mok, mer⟩) toldT rfl rfl (by simp [tlc, Value.oneCell']) rfl (.tmp 4) (.tmp 70) rfl rfl rfl HT3.out ?_
  intro w4 hR4 hF4
  have r4 := HR3.out.fr hF4 (fun e => by have e' : w2.heap.size = w.heap.size + 1 := e; omega)
  have s4 : w4.cell? ⟨w2.heap.size, 0, none⟩ = some (.int .i64 mi) ∧ w4.cell? ⟨w2.heap.size, 1, none⟩ = some (.int .i64 mg) := ⟨r4.at_ 0, r4.at_ 1⟩
  clear r4
  refine hK.out _ _ s4 (fun hHeld => ?_)
  clear hK K'
  try simp only [Act.put]
  refine wpAnyH_done (by kernel_rfl) ?_ _
  refine NoPanic.normal ?_
  clear s3 s4 hHeld
  go_wp2
  refine bodyPost_ret (res_c rfl rfl (hR4.load toldT rfl)) rfl ?_
  have := HT.out.lt
  refine ⟨none, 0, 0, none, 0, 0, by rw [HRE.out], by rw [HRE.out]; exact ⟨VB.non _ _, PartsV.nil _ _ _⟩, (HS.out.more HB3.out).fin HB1.out HDm.out (Nat.le_succ _) this hF4⟩
-- END11
end
end Go.Proofs.YtnjfogeefdmlkaaDoor
namespace Go.Proofs.YtnjfogeefdmlkaaDoor
open Go.RowKit
set_option maxRecDepth 20000

section
variable {w : World} {N : Nat} {tag : Nat → Nat} {p m : Nat} {v : Value} {q : Nat → Nat} {sg : Nat} {t : Tb}
theorem tdo_any {K : Nat → Prop} (h : TbA w N tag p m v q sg t) (hT : TabAt w) (x : Tst) (hx : TOk K w x) (hK : ∀ y, K y → tag y = 0) (hk : In64 x.comp) (hn : x.pn ≤ 1000000) :
    Calls Tryd.prog 20 #[.pointer (some ⟨p, 0, none⟩), .agg x.cs] w (DoR w N tag p m q sg (t.go x.ts)) := by
  obtain ⟨d, i, g, pA, pn, pc, ps, row, comp, bA, bn, bc, b⟩ := x
  simp only at hk hn
  obtain ⟨_, _, _, e, hr, _⟩ := hx.b
  injection e with e1 e2 e3
  subst e1 e2 e3
  by_cases h1 : d = 1
  · subst h1
    exact do1 i g pA pn pc ps row comp bA bn bc b h hk hr
  by_cases h2 : d = 2
  · subst h2
    exact do2 i g pA pn pc ps row comp bA bn bc b h hk
  by_cases h3 : d = 3
  · subst h3
    exact do3 i g pA pn pc ps row comp bA bn bc b h hT
  by_cases h4 : d = 4
  · subst h4
    exact do4 i g pA pn pc ps row comp bA bn bc b h hT
  exact do0 d i g pA pn pc ps row comp bA bn bc b (by omega) h hT hx.p hK hn
end

theorem TbA.new {w' : World} {N : Nat} {tag : Nat → Nat} {p m : Nat} {q : Nat → Nat} {n : Nat} {zs : Nat → Int} {s : Nat} (hs : s < 18446744073709551616) (hI : TbI w' N tag p m nilv q (s &&& ofL (idxs n) 64) (Tb.new n zs s).cs [] (noCo (Tb.new n zs s).cs)) :
    TbA w' N tag p m nilv q (s &&& ofL (idxs n) 64) (Tb.new n zs s) :=
  ⟨hI.congr (fun _ _ => rfl), Tb.new_ok n zs s, new_cs n zs s, and_lt64 _ _ hs⟩
theorem live_parts (w2 w3 w4 : World) (hw3 : w3 = w2.alloc (.cells #[.int .u8 1] 5)) (hw4 : w4 = w3.alloc (.cells #[.int .i64 0, .slice (some ⟨w2.heap.size, 0, none⟩) 1 1] 73)) :
    PartsV (fun x => w2.heap.size ≤ x) w4 (some ⟨w3.heap.size, 0, none⟩) 1 [(0, [1])] := by
  have hr : Rd w3 (some ⟨w2.heap.size, 0, none⟩) 1 [1] := by rw [hw3]; exact Rd.new w2 5 [1] (0, 0)
  have hs3 : w3.heap.size = w2.heap.size + 1 := by rw [hw3]; simp
  have hb4 : Below w3.heap.size w3 w4 := by rw [hw4]; exact (Below.refl _ _).alloc (Nat.le_refl _) _
  have hu : VB (fun x => w2.heap.size ≤ x) w4 (.slice (some ⟨w2.heap.size, 0, none⟩) 1 1) [1] := ⟨_, _, _, rfl, hr.below (Nat.le_refl _) hb4, fun b o e _ => by
    injection e with e; injection e with e1 e2
    have := hb4.size
    exact ⟨(show w2.heap.size ≤ b by omega), by omega⟩⟩
  refine ⟨[.int .i64 0, .slice (some ⟨w2.heap.size, 0, none⟩) 1 1], rfl, (by rw [hw4]; exact VRow.new w3 #[.int .i64 0, .slice (some ⟨w2.heap.size, 0, none⟩) 1 1] _ 1 2 rfl : VRow (fun x => w3.heap.size ≤ x) w4 (some ⟨w3.heap.size, 0, none⟩) 1 2 _).mono (fun x hx => by omega), HdL.one1 rfl ⟨_, rfl, hu⟩⟩
/-- The page's example. -/
def liveK : List Kd := [(⟨#[97]⟩, 1), (⟨#[98]⟩, 2)]
theorem live_new : Tb.new 2 (zsK liveK) 2 = ⟨[(1, 2)], []⟩ := by kernel_rfl
theorem live_add : Tb.add ⟨[(1, 2)], []⟩ (7, 0) [(0, [1])] = (⟨[(1, 2)], [((7, 0), [(1, [0, 0])])]⟩, .e 0) := by kernel_rfl
theorem live_get : Tb.go ⟨[(1, 2)], [((7, 0), [(1, [0, 0])])]⟩ ⟨2, (0, 0), [], 0, 1, []⟩ = (⟨[(1, 2)], [((7, 0), [(1, [0, 0])])]⟩, { Tl.e 0 with data := [0, 0] }) := by kernel_rfl
theorem live_and : 2 &&& ofL (idxs 2) 64 = 2 := by kernel_rfl
theorem live_list : listZ 2 = [(1 : Int)] := by kernel_rfl
theorem tlive_any (w : World) (hT : TabAt w) : Calls Tryd.prog 6 #[] w fun e w' => e = .returned (.bool true) ∧ Below w.heap.size w w' := by
  obtain ⟨w1, hw1⟩ : ∃ w1, w1 = w.alloc (.cells #[.string ⟨#[97]⟩, .int .i64 1, .string ⟨#[98]⟩, .int .i64 2] 71) := ⟨_, rfl⟩
  have hb1 : Below w.heap.size w w1 := by rw [hw1]; exact (Below.refl _ _).alloc (Nat.le_refl _) _
  have hK : KRd w1 (some ⟨w.heap.size, 0, none⟩) 2 liveK := ⟨rfl, fun _ => ⟨w.heap.size, 0, rfl, by rw [hw1]; simp, fun j hj => by
    have hj' : j < 2 := hj
    rcases (by omega : j = 0 ∨ j = 1) with rfl | rfl
    · rw [hw1]; simp [liveK]
    · rw [hw1]; simp [liveK]⟩⟩
  have CN : Calls Tryd.prog 23 #[cv 0 0 0 0 (some ⟨w.heap.size, 0, none⟩) 2 2, .int .u64 2] w1 fun e w' => ∃ p m q tag, e = .returned (.pointer (some ⟨p, 0, none⟩)) ∧ TbA w' w1.heap.size tag p m nilv q 2 ⟨[(1, 2)], []⟩ ∧ Below w1.heap.size w1 w' := by
    refine (TNew_any 0 0 0 0 (some ⟨w.heap.size, 0, none⟩) 2 2 liveK w1 hK (by decide) 2 (by decide) (hT.below hb1)).mono ?_
    rintro e w' ⟨p, m, q, tag, rfl, hI, hB⟩
    have hA := TbA.new (by decide) hI
    rw [live_new, live_and] at hA
    exact ⟨p, m, q, tag, rfl, hA, hB⟩
  have CN' := Lib.hid CN
  have HB1 := Lib.hid hb1
  have HT := Lib.hid hT
  have HW := Lib.hid hw1
  clear hT hK hb1 hw1 CN
  go_enter Tryd.func6, Tryd.ntmps6
  go_wp2_with (first
    | (rw [← HW.out]; clear HW)
    | (go_at_call 23; refine CN'.out.mono ?_; rintro e w2 ⟨p, m, q, tag, rfl, hA, hb2⟩; obtain ⟨w3, hw3⟩ : ∃ w3, w3 = w2.alloc (.cells #[.int .u8 1] 5) := ⟨_, rfl⟩; obtain ⟨w4, hw4⟩ : ∃ w4, w4 = w3.alloc (.cells #[.int .i64 0, .slice (some ⟨w2.heap.size, 0, none⟩) 1 1] 73) := ⟨_, rfl⟩; have hb3 : Below w2.heap.size w2 w3 := (by rw [hw3]; exact (Below.refl _ _).alloc (Nat.le_refl _) _); have hb4 : Below w3.heap.size w3 w4 := (by rw [hw4]; exact (Below.refl _ _).alloc (Nat.le_refl _) _); have hs3 : w3.heap.size = w2.heap.size + 1 := (by rw [hw3]; simp); have hpp : PartsV (fun x => w2.heap.size ≤ x) w4 (some ⟨w3.heap.size, 0, none⟩) 1 [(0, [1])] := live_parts w2 w3 w4 hw3 hw4; have HPP := Lib.hid hpp; have HB24 := Lib.hid (hb3.trans (hb4.mono hb3.size)); have HA4 := Lib.hid (hA.below (hb3.trans (hb4.mono hb3.size))); have HDm := Lib.hid hA.i.dom; have HB2 := Lib.hid (HB1.out.trans (hb2.mono HB1.out.size)); have HW4 := Lib.hid (show w4 = (w2.alloc (.cells #[.int .u8 1] 5)).alloc (.cells #[.int .i64 0, .slice (some ⟨w2.heap.size, 0, none⟩) 1 1] 73) by rw [hw4, hw3]); rw [hs3] at HPP; clear hA hb2 hb3 hb4 hpp hw3 hw4 hs3)
    | (rw [← HW4.out]; clear HW4)
    | (go_at_call 14; refine (TAdd_go HA4.out (HT.out.below (HB2.out.trans (HB24.out.mono HB2.out.size))) HPP.out (fun x hx => by rcases Nat.eq_zero_or_pos (tag x) with h0 | h0; exact h0; have := HDm.out x (by omega); omega) (by decide) 1 7 0).mono ?_; rintro e w5 ⟨z, hz, rfl, hs⟩; rw [live_add] at hz hs; obtain rfl : z = 0 := (congrArg Tl.err hz).symm; obtain ⟨tag5, v5, hA5, hG5⟩ := hs; have CG := TGet_go hA5 (0, 0) [] 0 1 (by decide) []; rw [live_get] at CG; have HCG := Lib.hid CG; have HA5 := Lib.hid hA5; have HB5 := Lib.hid (hG5.toBelow HA4.out.i.lo HA4.out.i.Nle); clear hA5 hG5 CG hz)
    | (go_at_call 10; refine HCG.out.mono ?_; rintro e w6 ⟨⟨GA, gn, gc, rfl, _, hV⟩, _, hb6⟩; obtain ⟨w7, hw7⟩ : ∃ w7, w7 = w6.alloc (.cells #[.int .u8 0, .int .u8 0] 5) := ⟨_, rfl⟩; have hb7 : Below w6.heap.size w6 w7 := (by rw [hw7]; exact (Below.refl _ _).alloc (Nat.le_refl _) _); have hr7 : Rd w7 (some ⟨w6.heap.size, 0, none⟩) 2 [0, 0] := (by rw [hw7]; exact Rd.new w6 5 [0, 0] (0, 0)); obtain ⟨_, _, _, e1, hr6, _⟩ := hV; injection e1 with e1 e2 e3; subst e1 e2 e3; have CSM := Lib.hid (Same_yes GA (some ⟨w6.heap.size, 0, none⟩) gn gc 2 2 [0, 0] w7 (hr6.below (Nat.le_refl _) hb7) hr7); have CLN := tlen_any (HA5.out.i.below (hb6.trans (hb7.mono hb6.size))); have CLN' := Lib.hid (show Calls Tryd.prog 16 #[.pointer (some ⟨p, 0, none⟩)] w7 fun e w' => e = .returned (.int .i64 1) ∧ w7 = w' from CLN); have HB7 := Lib.hid (hb6.trans (hb7.mono hb6.size)); have HW7 := Lib.hid hw7; clear hw7 hb7 hr7 hr6 hb6 CLN)
    | (rw [← HW7.out]; clear HW7)
    | (go_at_call 13; refine (tcode_any _ _).mono ?_; rintro e w8 ⟨rfl, rfl⟩)
    | (go_at_call 24; refine CSM.out.mono ?_; rintro e w8 ⟨rfl, rfl⟩)
    | (go_at_call 16; refine CLN'.out.mono ?_; rintro e w8 ⟨rfl, rfl⟩))
  go_ret
  have b4 := HB2.out.trans (HB24.out.mono HB2.out.size)
  have b5 := b4.trans (HB5.out.mono HB1.out.size)
  exact ⟨rfl, b5.trans (HB7.out.mono b5.size)⟩
end Go.Proofs.YtnjfogeefdmlkaaDoor
namespace Go.Proofs.YtnjfogeefdmlkaaDoor
open Go.RowKit

/-- The names of all are no longer than a text may be. -/
def Lens (ks : List Kd) : Prop := ∀ k ∈ ks, k.1.size ≤ 9223372036854775807
theorem Lens.at_ {ks : List Kd} (h : Lens ks) {j : Nat} {s : ByteArray} {z : Int} (hl : j < ks.length) (hk : ks[j] = (s, z)) : s.size ≤ 9223372036854775807 := by
  have := h _ (List.getElem_mem hl)
  rw [hk] at this
  exact this
end Go.Proofs.YtnjfogeefdmlkaaDoor
namespace Go.Proofs.YtnjfogeefdmlkaaDoor
open Go.RowKit
set_option linter.unusedVariables false

section
variable (lg pg en gn : Int) (A : Option Addr) (n cap : Nat) (ks : List Kd) (w : World)

theorem any_snoc {ks : List Kd} {j : Nat} (h : j < ks.length) : (ks.take (j + 1)).any (fun k => decide (100 < k.1.size)) = ((ks.take j).any (fun k => decide (100 < k.1.size)) || decide (100 < ks[j].1.size)) := by
  rw [take_snoc h, List.any_append]
  simp
theorem any_of_take {ks : List Kd} {j : Nat} (hj : j ≤ 50) (h : (ks.take j).any (fun k => decide (100 < k.1.size)) = true) : muchK ks = true := by
  rw [List.any_eq_true] at h
  obtain ⟨x, hx, hp⟩ := h
  unfold muchK
  rw [Bool.or_eq_true]
  exact .inl (List.any_eq_true.2 ⟨x, List.take_subset_take_left ks hj hx, hp⟩)

theorem Much_any (h : KRd w A n ks) (hn : n ≤ 9223372036854775807) (hs : Lens ks) :
    Calls Tryd.prog 4 #[cv lg pg en gn A n cap] w fun e w' => e = .returned (.bool (muchK ks)) ∧ Below w.heap.size w w' := by
  obtain ⟨w1, hw1⟩ : ∃ w1, w1 = w.alloc (.cells (cc lg pg en gn A n cap) 24) := ⟨_, rfl⟩
  have C1 := CAt.new h lg pg en gn cap
  rw [← hw1] at C1
  obtain ⟨g, hg⟩ : ∃ g, g = w.heap.size := ⟨_, rfl⟩
  rw [← hg] at C1
  have c4 := C1.c4
  have hl := h.1
  have K1 := Lib.hid C1
  have HG := Lib.hid hg
  have HS := Lib.hid hs
  clear h hg C1 hs
  go_enter Tryd.func4, Tryd.ntmps4
  go_wp2_with (rw [← hw1, ← HG.out]; clear hw1)
  go_loop [3] (fun i => ∃ j : Nat, j ≤ n ∧ j ≤ 50 ∧ i = .int .i64 j ∧ (ks.take j).any (fun k => decide (100 < k.1.size)) = false) (fun i => n - (intOf i).toNat)
  case atStart => exact ⟨0, Nat.zero_le _, Nat.zero_le _, rfl, rfl⟩
  case round =>
    obtain ⟨j, hj, hj5, rfl, hf⟩ := hrel
    by_cases hlt : j < n
    · by_cases hlt5 : j < 50
      · obtain ⟨b, o, s', z, rfl, _, k0, k1, hl', hk⟩ := K1.out.rd.at_ hlt
        have hsn := any_snoc hl'
        rw [hk, hf, Bool.false_or] at hsn
        have hsz := HS.out.at_ hl' hk
        by_cases h1 : 100 < s'.size
        · rw [decide_eq_true h1] at hsn
          have HM := Lib.hid (any_of_take (by omega) hsn)
          clear hsn hk hf
          go_wp2
          go_ret
          rw [HM.out]
          exact ⟨rfl, K1.out.bel⟩
        · have HSN := Lib.hid (hsn.trans (decide_eq_false h1))
          clear hsn hk hf
          go_wp2
          go_round
          case rel => exact ⟨j + 1, hlt, hlt5, by go_num, HSN.out⟩
          case measure => simp [intOf]; omega
      · obtain rfl : j = 50 := by omega
        have e1 : muchK ks = true := by unfold muchK; rw [Bool.or_eq_true]; exact .inr (decide_eq_true (by omega))
        have E1 := Lib.hid e1
        clear hf e1
        go_wp2
        go_ret
        rw [E1.out]
        exact ⟨ret_bool (a := decide ((40 : Int) < (n : Int))) (decide_eq_true (by omega)), K1.out.bel⟩
    · have e1 : muchK ks = decide (40 < n) := by
        unfold muchK
        rw [show ks.take 50 = ks.take j by rw [List.take_of_length_le (by omega), List.take_of_length_le (by omega)], hf, Bool.false_or, hl]
      have E1 := Lib.hid e1
      clear hf e1
      go_wp2
      go_ret
      rw [E1.out]
      exact ⟨ret_bool (a := decide ((40 : Int) < (n : Int))) (by rw [Bool.eq_iff_iff]; simp <;> omega), K1.out.bel⟩
end
end Go.Proofs.YtnjfogeefdmlkaaDoor
namespace Go.Proofs.YtnjfogeefdmlkaaDoor
open Go.RowKit

/-- The document's Has. -/
theorem RHas_any (s : Nat) (c : Int) (w : World) (hs : s < 18446744073709551616) :
    Calls Tryd.prog 61 #[.int .u64 s, .int .i64 c] w fun e w' => e = .returned (.bool (decide (0 ≤ c ∧ c < 64 ∧ s.testBit c.toNat = true))) ∧ w = w' := by
  by_cases h0 : 0 ≤ c
  · by_cases h1 : c < 64
    · obtain ⟨k, hk⟩ : ∃ k : Nat, c = (k : Int) := ⟨c.toNat, by omega⟩
      subst hk
      have hk : k ≤ 63 := by omega
      clear h0 h1
      have hb : decide (0 ≤ (k : Int) ∧ (k : Int) < 64 ∧ s.testBit ((k : Int)).toNat = true) = decide (s / 2 ^ k % 2 = 1) := by
        have h1 : (k : Int) < 64 := by omega
        rw [Nat.testBit_eq_decide_div_mod_eq]
        simp [h1]
      rw [hb]
      clear hb
      go_enter Tryd.func61, Tryd.ntmps61
      go_wp2
      go_loop [0, 5] (fun v i => ∃ j : Nat, j ≤ k ∧ i = .int .i64 j ∧ v = .int .u64 (s / 2 ^ j : Nat)) (fun _ i => k - (intOf i).toNat)
      case atStart => exact ⟨0, Nat.zero_le _, rfl, by simp⟩
      case round =>
        obtain ⟨j, hj, rfl, rfl⟩ := hrel
        obtain ⟨t, ht⟩ : ∃ t, t = s / 2 ^ j := ⟨_, rfl⟩
        have htl : t < 18446744073709551616 := by rw [ht]; exact Nat.lt_of_le_of_lt (Nat.div_le_self _ _) hs
        rw [← ht]
        by_cases hjk : j < k
        · have h2 : s / 2 ^ (j + 1) = t / 2 := by rw [Nat.pow_succ, ← Nat.div_div_eq_div_mul, ← ht]
          clear ht
          go_wp2
          go_round
          case rel => exact ⟨j + 1, hjk, by go_num, by rw [h2]; rfl⟩
          case measure => simp [intOf]; omega
        · have e : j = k := by omega
          subst e
          have HT := Lib.hid ht
          clear ht
          go_wp2
          go_ret
          exact ⟨ret_bool (by rw [← HT.out, Bool.eq_iff_iff]; simp; omega), rfl⟩
    · have hb : decide (0 ≤ c ∧ c < 64 ∧ s.testBit c.toNat = true) = false := by simp; omega
      rw [hb]
      clear hb
      go_enter Tryd.func61, Tryd.ntmps61
      go_wp2
      go_ret
      exact ⟨rfl, rfl⟩
  · have hb : decide (0 ≤ c ∧ c < 64 ∧ s.testBit c.toNat = true) = false := by simp; omega
    rw [hb]
    clear hb
    go_enter Tryd.func61, Tryd.ntmps61
    go_wp2
    go_ret
    exact ⟨rfl, rfl⟩
end Go.Proofs.YtnjfogeefdmlkaaDoor
namespace Go.Proofs.YtnjfogeefdmlkaaDoor
open Go.RowKit

theorem run_appI {P : Program} (w : World) {T e : TypeId} (el : El P T e (.int .i64 0) 1 8) (ty : TypeId) (B : Nat) (v : Value) (n : Nat) (xs : List Value) (hown : w.ownsRow B e 1 v n xs)
    (A : Option Addr) (m c : Nat) (zs : List Int) (hr : IRd w A m zs) (hb : n + m ≤ 1000000000) (hB : B ≤ w.heap.size) :
    ∃ v' w', (Builtin.append_ #[T, T] ty #[v, .slice A m c]).run P w = .ok v' w' ∧ w'.ownsRow B e 1 v' (n + m) (xs ++ zs.map (Value.int .i64)) ∧ w.grownBy w' v.ownBlock := by
  obtain ⟨i, hi, hz, h1, h2⟩ := info_parts el.info
  rcases A with _ | ad
  · have hm : m = 0 := by
      rcases Nat.eq_zero_or_pos m with h0 | h0
      · exact h0
      · obtain ⟨_, _, h, _⟩ := hr.2 h0
        cases h
    subst hm
    have hn : zs = [] := List.eq_nil_of_length_eq_zero hr.1
    subst hn
    exact ⟨v, w, run_app_nil w B T ty e i 1 el.und hi v n xs hown c, by simpa using hown, World.grownBy.refl _ _⟩
  · have hcells : ∀ j u, (zs.map (Value.int .i64))[j]? = some u → w.cell? (ad.add j) = some u := fun j u hj => by
      have hjl : j < zs.length := by have := (List.getElem?_eq_some_iff.1 hj).1; simpa using this
      obtain ⟨b, o, e, _, hc⟩ := hr.2 (by have := hr.1; omega)
      injection e with e
      subst e
      rw [Addr.add_lit, hc j hjl, ← hj]
      simp [List.getD, List.getElem?_eq_getElem hjl]
    obtain ⟨v', w', hrun, ho, hg, _⟩ := run_append_own (P := P) w B T ty e i (.int .i64 0) 1 8 el.und hi hz h1 h2 rfl (by decide) v n xs hown ad m c (zs.map (Value.int .i64)) (by simp [hr.1]) hcells (fun u hu => by obtain ⟨_, _, rfl⟩ := List.mem_map.1 hu; rfl)
      (by unfold maxLen; omega) (by omega) hB
    exact ⟨v', w', hrun, ho, hg⟩

section
variable {P : Program} (w : World) {T e : TypeId} {ops : Array Oper} {rest : List Oper} {o : Oper} {a : Act} {Q : Exit → Act → World → Prop} {J : Act → World → Prop} {E : Prop}
/-- 'append(v, x...)': v a row of ints of one's own, x any slice of ints. -/
theorem wpList_appI (el : El P T e (.int .i64 0) 1 8) (hgd : Region.wanted o (yielded ops a.tmps) = true) (s x : Operand)
    (ho : o.op = .call { callee := .builtin .append, args := #[s, x], argTypes := #[T, T] })
    (B : Nat) (v : Value) (n : Nat) (xs : List Value) (hs : a.eval s = v) (hown : w.ownsRow B e 1 v n xs)
    (A : Option Addr) (m c : Nat) (zs : List Int) (hx : a.eval x = .slice A m c) (hr : IRd w A m zs) (hb : n + m ≤ 1000000000) (hB : B ≤ w.heap.size)
    (h : ∀ v' w', w'.ownsRow B e 1 v' (n + m) (xs ++ zs.map (Value.int .i64)) → w.grownBy w' v.ownBlock → wpList P ops Q rest (a.put o.dst v') w') : wpList P ops Q (o :: rest) a w :=
  wpList_w hgd fun _ hK => by
    obtain ⟨v', w', hrun, h2, h3⟩ := run_appI w el o.type B v n xs hown A m c zs hr hb hB
    unfold Oper.wp execOp
    simp only [ho, resolve, invoke, builtin, Sem.run_bind, Sem.run_pure, Result.andThen_ok, List.map_toArray, List.map_cons, List.map_nil, hs, hx, hrun]
    exact hK _ _ (h v' w' h2 h3)
theorem step_appI (el : El P T e (.int .i64 0) 1 8) (hgd : o.guard = none) (s x : Operand)
    (ho : o.op = .call { callee := .builtin .append, args := #[s, x], argTypes := #[T, T] })
    (B : Nat) (v : Value) (n : Nat) (xs : List Value) (hs : a.eval s = v) (hown : w.ownsRow B e 1 v n xs)
    (A : Option Addr) (m c : Nat) (zs : List Int) (hx : a.eval x = .slice A m c) (hr : IRd w A m zs) (hb : n + m ≤ 1000000000) (hB : B ≤ w.heap.size)
    (h : ∀ v' w', w'.ownsRow B e 1 v' (n + m) (xs ++ zs.map (Value.int .i64)) → w.grownBy w' v.ownBlock → J (a.put o.dst v') w') : if Region.wanted o (yielded ops a.tmps) = true then Oper.wp P o a w J Q else E := by
  have hw : Region.wanted o (yielded ops a.tmps) = true := by simp [Region.wanted, hgd]
  rw [if_pos hw]
  obtain ⟨v', w', hrun, h2, h3⟩ := run_appI w el o.type B v n xs hown A m c zs hr hb hB
  unfold Oper.wp execOp
  simp only [ho, resolve, invoke, builtin, Sem.run_bind, Sem.run_pure, Result.andThen_ok, List.map_toArray, List.map_cons, List.map_nil, hs, hx, hrun]
  exact h v' w' h2 h3
end

end Go.Proofs.YtnjfogeefdmlkaaDoor
namespace Go.Proofs.YtnjfogeefdmlkaaDoor
open Go.RowKit
set_option maxRecDepth 20000

theorem listR_snoc (s j : Nat) : ((List.range (j + 1)).filter fun i => s.testBit i) = ((List.range j).filter fun i => s.testBit i) ++ (if s.testBit j = true then [j] else []) := by
  rw [List.range_succ, List.filter_append]
  by_cases h : s.testBit j = true <;> simp [h]

theorem RList_any (s : Nat) (w : World) (hs : s < 18446744073709551616) :
    Calls Tryd.prog 51 #[.int .u64 s] w fun e w' => ∃ v, e = .returned v ∧ w'.ownsRow w.heap.size 3 1 v (listN s).length ((listZ s).map (Value.int .i64)) ∧ Below w.heap.size w w' := by
  obtain ⟨i0, hi0, hz0, hz1, hz2⟩ := info_parts intT.info
  go_enter Tryd.func51, Tryd.ntmps51
  go_wp2
  go_loopw [3, 4] (fun v iv wr => ∃ (j : Nat) (pre : List Nat), j ≤ 64 ∧ iv = .int .i64 j ∧ pre = ((List.range j).filter fun i => s.testBit i) ∧ wr.ownsRow w.heap.size 3 1 v pre.length ((pre.map Int.ofNat).map (Value.int .i64)) ∧ Below w.heap.size w wr) (fun _ iv _ => 64 - (intOf iv).toNat)
  case atStart => exact ⟨0, [], Nat.zero_le _, rfl, rfl, World.ownsRow_nil _ _ _ _, Below.refl _ _⟩
  case round =>
    obtain ⟨j, pre, hj, rfl, hp, ho, hB⟩ := hrel
    have hbs := hB.size
    have HB := Lib.hid hB
    by_cases hj6 : j < 64
    · have H := Lib.hid (RHas_any s (j : Int) wr hs)
      have hsn := listR_snoc s j
      rw [← hp] at hsn
      have hpl : pre.length ≤ 64 := by
        have := List.length_filter_le (fun i => s.testBit i) (List.range j)
        rw [List.length_range, ← hp] at this
        omega
      have hd : decide (0 ≤ (j : Int) ∧ (j : Int) < 64 ∧ s.testBit ((j : Int)).toNat = true) = s.testBit j := by
        have h1 : (j : Int) < 64 := by omega
        simp [h1]
      rw [hd] at H
      clear hB hp hd
      by_cases hb : s.testBit j = true
      · rw [if_pos hb] at hsn
        rw [hb] at H
        have HSN := Lib.hid hsn
        clear hsn hb
        go_wp2_with fail
        refine H.out.mono ?_
        rintro e w' ⟨rfl, rfl⟩
        go_wp2_with (at_builtin; refine wpList_append_own_at _ rfl _ _ 37 rfl w.heap.size 3 i0 (.int .i64 0) 1 8 Tryd.underlying37 hi0 hz0 hz1 hz2 rfl (by decide) _ _ _ rfl (ho.alloc _) ⟨wr.heap.size, 0, none⟩ 1 1 [.int .i64 j] rfl rfl (cell_one_new _ _ _) (fun u hu => by rw [List.mem_singleton.1 hu]; rfl) (by unfold maxLen; omega) (by omega) (by simp; omega) ?_; intro v' w4 ho4 hg4 _ _; try go_frame)
        go_roundw
        case rel =>
          refine ⟨j + 1, pre ++ [j], hj6, by go_num, HSN.out.symm, ?_, (HB.out.alloc hbs _).grown hg4 (by simp; omega) (fun q hq => (ho.lt q hq).1)⟩
          simpa using ho4
        case measure => simp [intOf]; omega
      · rw [if_neg hb, List.append_nil] at hsn
        have hb : s.testBit j = false := by simpa using hb
        rw [hb] at H
        have HSN := Lib.hid hsn
        clear hsn hb
        go_wp2_with fail
        refine H.out.mono ?_
        rintro e w' ⟨rfl, rfl⟩
        go_wp2
        go_roundw
        case rel => exact ⟨j + 1, pre, hj6, by go_num, HSN.out.symm, ho, HB.out⟩
        case measure => simp [intOf]; omega
    · obtain rfl : j = 64 := by omega
      clear hB
      have HP := Lib.hid hp
      clear hp
      go_wp2
      go_ret
      have e : pre = listN s := HP.out
      subst e
      exact ⟨_, rfl, ho, HB.out⟩

theorem listN_le (s : Nat) : (listN s).length ≤ 64 := by
  have := List.length_filter_le (fun i => s.testBit i) (List.range 64)
  rw [List.length_range] at this
  exact this
theorem listZ_len (s : Nat) : (listZ s).length = (listN s).length := by unfold listZ; rw [List.length_map]
end Go.Proofs.YtnjfogeefdmlkaaDoor
namespace Go.Proofs.YtnjfogeefdmlkaaDoor
open Go.RowKit
set_option maxRecDepth 20000

section
variable {w : World} {N : Nat} {tag : Nat → Nat} {p m : Nat} {v : Value} {q : Nat → Nat} {sg : Nat} {t : Tb}
theorem TCol_go (h : TbA w N tag p m v q sg t) {comp : Int} (hk : In64 comp) : Calls Tryd.prog 12 #[.pointer (some ⟨p, 0, none⟩), .int .i64 comp] w fun e w' =>
    ∃ A n c, e = .returned (.tuple #[.slice A n c, .bool (t.col comp).2]) ∧ VB (fun x => w.heap.size ≤ x) w' (.slice A n c) (t.col comp).1 ∧ Below w.heap.size w w' := by
  cases hat : t.at_ comp with
  | none =>
    have e : t.col comp = ([], false) := by unfold Tb.col; rw [hat]
    rw [e]
    refine (TCol_no h.i hk hat).mono ?_
    rintro e w' ⟨rfl, rfl⟩
    exact ⟨_, _, _, rfl, VB.non _ _, Below.refl _ _⟩
  | some k =>
    have e : t.col comp = ((t.co k).bytes, true) := by unfold Tb.col; rw [hat]; rfl
    rw [e]
    refine (TCol_ok h.i hk hat).mono ?_
    rintro e w' ⟨A, n, c, rfl, hV, hB⟩
    exact ⟨A, n, c, rfl, hV, hB⟩
end

theorem Tb.col_at {t : Tb} (ok : t.Ok) {k : Nat} (hk : k < t.cs.length) : t.col (t.cs.getD k (0, 0)).1 = ((t.co k).bytes, true) := by
  have hat : t.at_ (t.cs.getD k (0, 0)).1 = some k := findIdx_at ok.nd hk
  unfold Tb.col
  rw [hat]
  rfl
theorem Tb.comp_in {t : Tb} (ok : t.Ok) {k : Nat} (hk : k < t.cs.length) : In64 (t.cs.getD k (0, 0)).1 := by
  rw [getD_at hk]
  have := ok.cz _ (List.getElem_mem hk)
  exact ⟨by omega, by omega⟩
theorem parts_le {t : Tb} (ok : t.Ok) {row : Int} {r : Tl} (hr : r = (t.go ⟨3, (0, 0), [], row, 0, []⟩).2) {n : Nat} (hn : r.parts.length = n) : n ≤ 1000000 := by
  subst hr
  unfold Tb.go at hn
  simp only at hn
  rw [if_neg (by decide)] at hn
  split at hn
  · rename_i hrow
    rw [if_pos trivial] at hn
    simp only at hn
    have h1 := (ok.getD (k := row.toNat) (by omega)).len
    have h2 := ok.cn
    omega
  · simp [Tl.e] at hn
    omega
theorem and_twice (s a : Nat) : (s &&& a) &&& a = s &&& a := by rw [Nat.and_assoc, Nat.and_self]
/-- The columns' bytes in a row. -/
def Tb.colsL (t : Tb) (n : Nat) : List (List UInt8) := (List.range n).map fun j => (t.co j).bytes
theorem Tb.colsL_succ (t : Tb) (n : Nat) : t.colsL (n + 1) = t.colsL n ++ [(t.co n).bytes] := by
  unfold Tb.colsL
  rw [List.range_succ, List.map_append]
  rfl
theorem Tb.colsL_len (t : Tb) (n : Nat) : (t.colsL n).length = n := by unfold Tb.colsL; simp
theorem Tb.colsL_at (t : Tb) {n j : Nat} (h : j < n) : (t.colsL n).getD j [] = (t.co j).bytes := by
  unfold Tb.colsL
  rw [getD_at (by simpa using h)]
  simp
theorem Tb.co_each {t : Tb} (ok : t.Ok) {j : Nat} (hj : j < t.cs.length) : ∀ r ∈ (t.co j).rows, r.length = (t.cs.getD j (0, 0)).2 := fun r hr => by
  obtain ⟨x, hx, rfl⟩ := List.mem_map.1 hr
  exact ((ok.row x hx).at_ hj).2
theorem Tb.co_blen {t : Tb} (ok : t.Ok) {j : Nat} (hj : j < t.cs.length) : (t.co j).bytes.length = t.ids.length * (t.cs.getD j (0, 0)).2 := by
  have := flat_len (Tb.co_each ok hj)
  rw [t.co_len] at this
  rw [t.ids_len]
  exact this
theorem Tb.colsFit_ {t : Tb} (ok : t.Ok) : colsFit t.cs t.ids.length (t.colsL t.cs.length) t.cs.length := fun i hi => by
  rw [t.colsL_at hi]
  exact Tb.co_blen ok hi
theorem Tb.coOf_ {t : Tb} (ok : t.Ok) {j : Nat} (hj : j < t.cs.length) : coOf t.cs t.ids.length (t.colsL t.cs.length) j = t.co j := by
  unfold coOf
  rw [t.colsL_at hj]
  show (⟨(t.cs.getD j (0, 0)).2, chunks t.ids.length (t.cs.getD j (0, 0)).2 (t.co j).bytes⟩ : Co) = ⟨(t.cs.getD j (0, 0)).2, (t.co j).rows⟩
  congr 1
  have he := Tb.co_each ok hj
  have hl := t.co_len j
  unfold chunks
  rw [t.ids_len]
  apply List.ext_getElem (by rw [List.length_map, List.length_range, hl])
  intro i h1 h2
  rw [List.getElem_map, List.getElem_range]
  have := flat_row he i h2
  rw [getD_at h2] at this
  exact this
theorem new_again (n : Nat) (zs : Nat → Int) (s : Nat) : Tb.new n zs (s &&& ofL (idxs n) 64) = Tb.new n zs s := by
  have e : listN (s &&& ofL (idxs n) 64) = (listN s).filter fun (k : Nat) => decide (k < n) := by
    have := new_cs n zs s
    show _
    have h2 : (listN (s &&& ofL (idxs n) 64)).map Int.ofNat = ((listN s).filter fun (k : Nat) => decide (k < n)).map Int.ofNat := by
      have h3 : listZ (s &&& ofL (idxs n) 64) = _ := this
      unfold listZ at h3
      rw [h3]
      show (((listN s).filter _).map _).map _ = _
      rw [List.map_map]
      rfl
    exact (List.map_inj_right (fun a b h => by injection h)).1 h2
  unfold Tb.new
  rw [e, List.filter_filter]
  simp
theorem much_le {ks : List Kd} (h : muchK ks = false) : ks.length ≤ 50 := by
  unfold muchK at h
  rw [Bool.or_eq_false_iff] at h
  have := of_decide_eq_false h.2
  omega
end Go.Proofs.YtnjfogeefdmlkaaDoor
namespace Go.Proofs.YtnjfogeefdmlkaaDoor
open Go.RowKit

theorem IntsV.at_ {K : Nat → Prop} {w : World} {A : Option Addr} {n : Nat} {xs : List Int} (h : IntsV K w A n xs) {j : Nat} (hj : j < n) : ∃ b o, A = some ⟨b, o, none⟩ ∧ b < w.heap.size ∧ w.cell? ⟨b, o + j, none⟩ = some (.int .i64 (xs.getD j 0)) := by
  have hl := h.len
  have := h.cell (List.getElem?_eq_getElem (show j < xs.length by omega))
  rwa [show xs[j] = xs.getD j 0 by simp [List.getD, List.getElem?_eq_getElem (show j < xs.length by omega)]] at this
theorem getD_map {α β : Type} (f : α → β) (l : List α) (j : Nat) (a : α) (hj : j < l.length) : (l.map f).getD j (f a) = f (l.getD j a) := by
  simp [List.getD, List.getElem?_eq_getElem hj]
theorem at_none {t : Tb} {comp : Int} (h : ∀ j, j < t.cs.length → (t.cs.getD j (0, 0)).1 ≠ comp) : t.at_ comp = none := by
  unfold Tb.at_
  rw [List.findIdx?_eq_none_iff]
  intro x hx
  obtain ⟨j, hj, e⟩ := List.getElem_of_mem hx
  have := h j hj
  rw [List.getD_eq_getElem?_getD, List.getElem?_eq_getElem hj, e] at this
  exact decide_eq_false this
theorem at_some {t : Tb} {comp : Int} {k : Nat} (hk : k < t.cs.length) (h : ∀ j, j < k → (t.cs.getD j (0, 0)).1 ≠ comp) (he : (t.cs.getD k (0, 0)).1 = comp) : t.at_ comp = some k := by
  unfold Tb.at_
  rw [List.findIdx?_eq_some_iff_getElem]
  rw [List.getD_eq_getElem?_getD, List.getElem?_eq_getElem hk] at he
  refine ⟨hk, decide_eq_true he, fun j hj => ?_⟩
  have := h j hj
  rw [List.getD_eq_getElem?_getD, List.getElem?_eq_getElem (by omega)] at this
  simpa using this

section
variable {K : Nat → Prop} {w : World} {d : Rt} {t : Tb}
set_option maxRecDepth 20000 in
set_option maxHeartbeats 1000000 in
theorem RCol_any (h : RtS K w d t) (ok : t.Ok) (comp : Int) :
    Calls Tryd.prog 39 #[.agg d.cs, .int .i64 comp] w fun e w' => ∃ A n c, e = .returned (.tuple #[.slice A n c, .bool (t.col comp).2]) ∧ Rd w' A n (t.col comp).1 ∧ Below w.heap.size w w' := by
  obtain ⟨CA, cn, cc, SA, sn, sc, RA, rn, rc⟩ := d
  have hrn := h.rn
  have hcn := h.cn
  simp only at hrn hcn
  subst hrn hcn
  show Calls _ _ #[.agg #[.slice CA t.cs.length cc, .slice SA sn sc, .slice RA t.rows.length rc], .int .i64 comp] w _
  obtain ⟨w1, hw1⟩ : ∃ w1, w1 = w.alloc (.cells #[.slice CA t.cs.length cc, .slice SA sn sc, .slice RA t.rows.length rc] 40) := ⟨_, rfl⟩
  have hB1 : Below w.heap.size w w1 := by rw [hw1]; exact (Below.refl _ _).alloc (Nat.le_refl _) _
  have hR1 : Rec 40 w1 w.heap.size #[.slice CA t.cs.length cc, .slice SA sn sc, .slice RA t.rows.length rc] := by rw [hw1]; exact Rec.new _ _ _
  have q0 : w1.cell? ⟨w.heap.size, 0, none⟩ = some (.slice CA t.cs.length cc) := hR1.at_ 0
  have q2 : w1.cell? ⟨w.heap.size, 2, none⟩ = some (.slice RA t.rows.length rc) := hR1.at_ 2
  have hlt : w.heap.size < w1.heap.size := hR1.lt
  have hE := (h.below hB1).r
  have hC := (h.below hB1).c
  simp only at hE hC
  have HE := Lib.hid hE
  have HC := Lib.hid hC
  have HB1 := Lib.hid hB1
  have HOK := Lib.hid ok
  have hn := ok.n
  have hcn := ok.cn
  clear h hB1 hR1 hE hC ok
  obtain ⟨n, hN⟩ : ∃ n, n = t.rows.length := ⟨_, rfl⟩
  obtain ⟨m, hM⟩ : ∃ m, m = t.cs.length := ⟨_, rfl⟩
  rw [← hN] at hn q2 HE hw1 ⊢
  rw [← hM] at hcn q0 HC hw1 ⊢
  have HN := Lib.hid hN
  have HM := Lib.hid hM
  clear hN hM
  go_enter Tryd.func39, Tryd.ntmps39
  go_wp2
  rw [← hw1]
  clear hw1
  go_loopw [6, 7] (fun v iv wr => ∃ k : Nat, k ≤ m ∧ iv = .int .i64 k ∧ v = .slice none 0 0 ∧ w1 = wr ∧ ∀ j, j < k → (t.cs.getD j (0, 0)).1 ≠ comp) (fun _ iv _ => m - (intOf iv).toNat)
  case atStart => exact ⟨0, Nat.zero_le _, rfl, rfl, rfl, fun j hj => absurd hj (Nat.not_lt_zero j)⟩
  case round =>
    obtain ⟨k, hk, rfl, rfl, rfl, hno⟩ := hrel
    by_cases hkm : k < m
    · obtain ⟨b, o, hA, hblt, k0⟩ := HC.out.at_ hkm
      subst hA
      obtain ⟨x, hx⟩ : ∃ x, x = (t.cs.getD k (0, 0)).1 := ⟨_, rfl⟩
      rw [getD_map (·.1) t.cs k (0, 0) (by rw [← HM.out]; exact hkm), ← hx] at k0
      have HX := Lib.hid hx
      have HNO := Lib.hid hno
      clear hno hx
      by_cases hxc : x = comp
      · subst hxc
        have hat := at_some (t := t) (by rw [← HM.out]; exact hkm) HNO.out HX.out.symm
        have hcol : t.col x = ((t.rows.map fun r => (r.2.getD k (0, [])).2).flatten, true) := by unfold Tb.col; rw [hat]
        have HCOL := Lib.hid hcol
        have HK := Lib.hid (Tb.at_lt hat).1
        clear hcol hat
        go_wp2
        go_loopw [6, 8] (fun v iv wr' => ∃ (j q : Nat), j ≤ n ∧ q ≤ j * 64 ∧ iv = .int .i64 j ∧ wr'.ownsRow w1.heap.size 5 1 v q (cells ((t.rows.take j).map fun r => (r.2.getD k (0, [])).2).flatten) ∧ Below w1.heap.size w1 wr') (fun _ iv _ => n - (intOf iv).toNat)
        case atStart => exact ⟨0, 0, Nat.zero_le _, Nat.zero_le _, rfl, World.ownsRow_nil _ _ _ _, Below.refl _ _⟩
        case round =>
          obtain ⟨j, q, hj, hq, rfl, ho, hB⟩ := hrel
          have q2' := (hB.cell (p := ⟨w.heap.size, 2, none⟩) hlt).trans q2
          have hs := hB.size
          by_cases hjn : j < n
          · have hjl : j < t.rows.length := by rw [← HN.out]; exact hjn
            have hrow := HOK.out.row t.rows[j] (List.getElem_mem hjl)
            obtain ⟨b2, o2, PA, pn, pc, hA2, _, hblt2, _, _, h2, hP⟩ := HE.out.cell (List.getElem?_eq_getElem hjl)
            have hpl := hP.len
            have hrl := hrow.len
            have hkp : k < t.rows[j].2.length := by have := HK.out; omega
            obtain ⟨b3, o3, u3, hA3, _, hblt3, _, h31, hu3⟩ := hP.cell (List.getElem?_eq_getElem hkp)
            obtain ⟨DA, dm, dc, rfl, hr⟩ := hu3.sl
            subst hA2 hA3
            have e3 : t.rows[j].2[k] = t.rows[j].2.getD k (0, []) := by simp [List.getD, List.getElem?_eq_getElem hkp]
            rw [e3] at hr
            have hdm : dm ≤ 64 := by
              rw [← hr.1, (hrow.at_ HK.out).2]
              have := HOK.out.z (t.cs.getD k (0, 0)) (by rw [List.getD_eq_getElem?_getD, List.getElem?_eq_getElem HK.out]; exact List.getElem_mem HK.out)
              exact this
            have s2 := (hB.cell (p := ⟨b2, o2 + j * 3 + 2, none⟩) hblt2).trans h2
            have s3 := (hB.cell (p := ⟨b3, o3 + k * 2 + 1, none⟩) hblt3).trans h31
            have hkpn : k < pn := by omega
            have htk : (t.rows.take (j + 1)).map (fun r => (r.2.getD k (0, [])).2) = (t.rows.take j).map (fun r => (r.2.getD k (0, [])).2) ++ [(t.rows[j].2.getD k (0, [])).2] := by
              rw [List.take_succ_eq_append_getElem hjl, List.map_append]
              rfl
            have HTK := Lib.hid htk
            have HR := Lib.hid (hr.below (Nat.le_refl _) hB)
            clear h2 h31 htk hr hu3 hP hrow e3 hpl hrl
            go_wp2_with (at_builtin; refine wpList_app _ bytesT rfl (.tmp 30) (.tmp 40) rfl w1.heap.size _ q _ rfl ho DA dm dc _ rfl HR.out (by omega) hs ?_; intro v5 w5 hO5 hB5)
            go_roundw
            case rel => exact ⟨j + 1, q + dm, hjn, by omega, by go_num, by rw [HTK.out, List.flatten_append, List.flatten_cons, List.flatten_nil, List.append_nil, cells_append]; exact hO5, hB.trans hB5⟩
            case measure => simp [intOf]; omega
          · have e : j = n := by omega
            subst e
            have HO := Lib.hid ho
            clear ho
            go_wp2
            have hO := HO.out
            rw [List.take_of_length_le (by rw [← HN.out]; exact Nat.le_refl _)] at hO
            obtain ⟨A5, c5, rfl, _, _, hr5⟩ := Rd.of_own hO rfl
            go_ret2
            rw [HCOL.out]
            exact ⟨A5, q, c5, rfl, hr5, HB1.out.trans (hB.mono HB1.out.size)⟩
      · go_wp2
        go_roundw
        case rel => exact ⟨k + 1, hkm, by go_num, by first | rfl | trivial, by first | rfl | trivial, fun j hj => by
          by_cases e : j = k
          · subst e; rw [← HX.out]; exact hxc
          · exact HNO.out j (by omega)⟩
        case measure => simp [intOf]; omega
    · have e : k = m := by omega
      subst e
      have hat := at_none (t := t) (fun j hj => hno j (by rw [HM.out]; exact hj))
      have hcol : t.col comp = ([], false) := by unfold Tb.col; rw [hat]
      have HCOL := Lib.hid hcol
      clear hcol hat hno
      go_wp2
      go_ret2
      rw [HCOL.out]
      exact ⟨none, 0, 0, rfl, Rd.nil _ _, HB1.out⟩
end
end Go.Proofs.YtnjfogeefdmlkaaDoor
namespace Go.Proofs.YtnjfogeefdmlkaaDoor
open Go.RowKit

theorem ofL_snoc (l : List Int) (c : Nat) : ofL l (c + 1) = ofL l c + if (c : Int) ∈ l then 2 ^ c else 0 := rfl
theorem ROf_any (A : Option Addr) (n c : Nat) (zs : List Int) (w : World) (h : IRd w A n zs) (hn : n ≤ 1099511627776) :
    Calls Tryd.prog 30 #[.slice A n c] w fun e w' => e = .returned (.int .u64 (ofL zs 64 : Nat)) ∧ w = w' := by
  have H := Lib.hid h
  clear h
  go_enter Tryd.func30, Tryd.ntmps30
  go_wp2
  go_loop [3, 4, 5] (fun sv bv cv => ∃ (j b : Nat), j ≤ 64 ∧ cv = .int .i64 j ∧ b = 2 ^ j % 18446744073709551616 ∧ bv = .int .u64 b ∧ sv = .int .u64 (ofL zs j : Nat)) (fun _ _ cv => 64 - (intOf cv).toNat)
  case atStart => exact ⟨0, 1, Nat.zero_le _, rfl, rfl, rfl, rfl⟩
  case round =>
    obtain ⟨j, b, hj, rfl, hb, rfl, rfl⟩ := hrel
    by_cases hj6 : j < 64
    · have hlt := ofL_lt zs j
      have hsn := ofL_snoc zs j
      have h2 := two_lt hj6
      have hb0 : b = 2 ^ j := by rw [hb, Nat.mod_eq_of_lt h2]
      have hb1 : b * 2 % 18446744073709551616 = 2 ^ (j + 1) % 18446744073709551616 := by rw [hb0, Nat.pow_succ]
      have hlt2 := ofL_lt zs (j + 1)
      have h264 : 2 ^ (j + 1) ≤ 18446744073709551616 := show 2 ^ (j + 1) ≤ 2 ^ 64 from Nat.pow_le_pow_right (by omega) (by omega)
      obtain ⟨s, hs⟩ : ∃ s, s = ofL zs j := ⟨_, rfl⟩
      obtain ⟨s2, hs2⟩ : ∃ s2, s2 = ofL zs (j + 1) := ⟨_, rfl⟩
      rw [← hs] at hlt hsn ⊢
      rw [← hs2] at hlt2 hsn
      rw [← hb0] at hlt h2 hsn
      have hs2l : s2 < 18446744073709551616 := Nat.lt_of_lt_of_le hlt2 h264
      clear hb hs hb0 hlt2 h264
      have HB1 := Lib.hid hb1
      have HSN := Lib.hid hsn
      have HS2 := Lib.hid hs2
      clear hb1 hsn hs2
      go_wp2
      go_loop [3, 6] (fun sv iv => ∃ i : Nat, i ≤ n ∧ iv = .int .i64 i ∧ sv = .int .u64 s ∧ ¬ (j : Int) ∈ zs.take i) (fun _ iv => n - (intOf iv).toNat)
      case atStart => exact ⟨0, Nat.zero_le _, rfl, rfl, by simp⟩
      case round =>
        obtain ⟨i, hi, rfl, rfl, hni⟩ := hrel
        by_cases hin : i < n
        · obtain ⟨bb, o, hA, _, hc⟩ := H.out.2 (by omega)
          have hil : i < zs.length := by rw [H.out.1]; exact hin
          have k0 := hc i hil
          obtain ⟨z, hz⟩ : ∃ z, z = zs.getD i 0 := ⟨_, rfl⟩
          rw [← hz] at k0
          have hz' : z = zs[i] := by rw [hz, List.getD, List.getElem?_eq_getElem hil]; rfl
          subst hA
          clear hc hz
          have HZ := Lib.hid hz'
          have HNI := Lib.hid hni
          clear hz' hni
          by_cases hzj : z = (j : Int)
          · have hm : (j : Int) ∈ zs := by rw [← hzj, HZ.out]; exact List.getElem_mem hil
            have e := HSN.out
            rw [if_pos hm] at e
            subst hzj
            have E := Lib.hid e
            clear hm
            go_wp2
            go_round
            case rel => exact ⟨j + 1, b * 2 % 18446744073709551616, hj6, by go_num, HB1.out, by go_num, by rw [← HS2.out]; go_num⟩
            case measure => simp [intOf]; omega
          · go_wp2
            go_round
            case rel =>
              refine ⟨i + 1, hin, by go_num, rfl, ?_⟩
              rw [List.take_succ_eq_append_getElem hil, List.mem_append]
              rintro (h1 | h1)
              · exact HNI.out h1
              · rw [List.mem_singleton, ← HZ.out] at h1
                exact hzj h1.symm
            case measure => simp [intOf]; omega
        · obtain rfl : i = n := by omega
          rw [List.take_of_length_le (by rw [H.out.1]; exact Nat.le_refl _)] at hni
          have e := HSN.out
          rw [if_neg hni, Nat.add_zero] at e
          have E := Lib.hid e
          clear e hni
          go_wp2
          go_round
          case rel => exact ⟨j + 1, b * 2 % 18446744073709551616, hj6, by go_num, HB1.out, by go_num, by rw [← HS2.out, E.out]⟩
          case measure => simp [intOf]; omega
    · obtain rfl : j = 64 := by omega
      clear hb
      go_wp2
      go_ret
      exact ⟨rfl, rfl⟩

end Go.Proofs.YtnjfogeefdmlkaaDoor
