/- The reference's Go: a read that is done. -/
import Derived.Test.YtieknelmfjkbhaaDr6
namespace Go.Proofs.Ytieknelmfjkbhaa
open Go.RowKit

theorem RAt.no_byte {w : World} {g : Nat} {d : Rf} (h : RAt w g d) (i : Nat) (z : Int) (hc : w.cell? ⟨g, i, none⟩ = some (.int .u8 z)) : False := by
  rw [h.at_ i] at hc
  rcases i with _ | _ | _ | _ | _ | _ | i <;> simp at hc
/-- Bytes do not lie in a block that holds a device. -/
theorem Rd.not_R {w : World} {g b o n : Nat} {l : List UInt8} {d : Rf} (h : Rd w (some ⟨b, o, none⟩) n l) (hn : 0 < n) (hR : RAt w g d) : ¬ b = g := fun e => by
  subst e
  obtain ⟨b', o', e', _, hc⟩ := h.2 hn
  injection e' with e'
  injection e' with e1 e2
  subst e1; subst e2
  exact hR.no_byte _ _ (hc 0 (by have := h.1; omega))

section
variable (d : Rf) (dd a : Int) (bA : Option Addr) (bn bc : Nat) (fA : Option Addr) (fn fc : Nat) (w : World)

set_option maxRecDepth 100000 in
set_option maxHeartbeats 2000000 in
theorem Go_read (hd : dd ≠ 3 ∧ dd ≠ 4 ∧ dd ≠ 2 ∧ dd ≠ 1) (i : Nat) (ha : a = (i : Int)) (hi : i < d.sn) (ho : d.off = false ∧ d.fuse ≠ 0) (hfz : -9223372036854775808 ≤ d.fuse ∧ d.fuse ≤ 9223372036854775807) (hrd : 0 ≤ d.rd ∧ d.rd ≤ 1000000)
    (safe : List (List UInt8)) (ls : List (Nat × List UInt8)) (hS : RowsR w d.SA d.sn safe) (hW : WaitR w d.WA d.wn ls) (hwn : d.wn ≤ 1000000) (hsn : d.sn ≤ 4096) :
    Calls Try.prog 11 #[d.v, stv dd a bA bn bc fA fn fc] w fun e w' => ∃ b o c, e = .returned (.tuple #[Rf.v { d with fuse := if 0 < d.fuse then d.fuse - 1 else d.fuse, rd := d.rd + 1 }, .slice (some ⟨b, o, none⟩) 512 c, .int .i64 0]) ∧ 512 ≤ c ∧ c ≤ maxLen ∧ Rd w' (some ⟨b, o, none⟩) 512 (lastR safe ls i) ∧ Below w.heap.size w w' := by
  obtain ⟨SA, sn, sc, WA, wn, wc, fuse, off, rdd, wrr⟩ := d
  simp only at hi ho hfz hrd hS hW hwn hsn
  have hL := laid_new w ⟨SA, sn, sc, WA, wn, wc, fuse, off, rdd, wrr⟩ dd a bA bn bc fA fn fc
  obtain ⟨w1, hw1⟩ : ∃ w1, w1 = ((w.alloc (.cells #[.slice SA sn sc, .slice WA wn wc, .int .i64 fuse, .bool off, .int .i64 rdd, .int .i64 wrr] 30)).alloc (.cells #[.int .i64 dd, .int .i64 a, .slice bA bn bc, .slice fA fn fc] 37)).alloc (.cells #[.slice none 0 0, .slice none 0 0, .int .i64 0, .bool false, .int .i64 0, .int .i64 0] 30) := ⟨_, rfl⟩
  have hB1 : Below w.heap.size w w1 := by rw [hw1]; exact (((Below.refl _ _).alloc (Nat.le_refl _) _).alloc (by simp) _).alloc (by simp; omega) _
  rw [← hw1] at hL
  have k0 : w1.cell? ⟨w.heap.size + 1, 0, none⟩ = some (.int .i64 dd) := cell_of_row _ _ 0 _ _ _ hL.st
  have k1 : w1.cell? ⟨w.heap.size + 1, 1, none⟩ = some (.int .i64 a) := cell_of_row _ _ 1 _ _ _ hL.st
  have q0 := hL.r0.h0
  have HL := Lib.hid hL
  have HB1 := Lib.hid hB1
  clear hL hB1
  show Calls Try.prog _ #[.agg #[.slice SA sn sc, .slice WA wn wc, .int .i64 fuse, .bool off, .int .i64 rdd, .int .i64 wrr], .agg #[.int .i64 dd, .int .i64 a, .slice bA bn bc, .slice fA fn fc]] w _
  obtain ⟨h3, h4, h2, h1⟩ := hd
  obtain ⟨rfl, hf0⟩ := ho
  subst ha
  obtain ⟨f', hf'⟩ : ∃ f' : Int, f' = if 0 < fuse then fuse - 1 else fuse := ⟨_, rfl⟩
  have cB := burn_yes SA sn sc WA wn wc fuse rdd wrr w1 hf0 hfz
  rw [← hf'] at cB ⊢
  have CB := Lib.hid cB
  have hi0 : (0 : Int) ≤ (i : Int) := by omega
  have hi1 : (i : Int) < (sn : Int) := by omega
  have HS0 := Lib.hid hS
  have HW0 := Lib.hid hW
  clear cB hf' hf0 hfz hS hW
  go_enter Try.func11, Try.ntmps11
  go_wp2_with (first
    | (rw [← hw1]; clear hw1)
    | (with_reducible refine wpList_ldR rfl (.tmp 2) rfl rfl HL.out.r0 ?_))
  refine CB.out.mono ?_
  rintro e w2 ⟨rfl, hB2⟩
  have R0 := Lib.hid (HL.out.r0.under hB2)
  have R2 := Lib.hid (HL.out.r2.under hB2)
  have hst2 : w2.heap[w.heap.size + 1]? = _ := (hB2.block (w.heap.size + 1) (Array.getElem?_eq_some_iff.1 HL.out.st).1).trans HL.out.st
  have ST2 := Lib.hid hst2
  have HB2 := Lib.hid (HB1.out.trans (hB2.mono HB1.out.size))
  clear hB2 k0 k1 q0 hst2
  go_wp2_with (first
    | (refine wpList_stR (d' := ⟨SA, sn, sc, WA, wn, wc, f', false, rdd, wrr⟩) rfl (.tmp 2) (.tmp 48) rfl rfl rfl R0.out ?_; intro w3 hR3 hF3; have hR23 : RAt w3 (w.heap.size + 2) zeroR := (hF3.block (w.heap.size + 2) R2.out.lt (fun e => by have e' : w.heap.size + 2 = w.heap.size := e; omega)).trans R2.out; have hst3 : w3.heap[w.heap.size + 1]? = some (.cells #[.int .i64 dd, .int .i64 (i : Int), .slice bA bn bc, .slice fA fn fc] 37 (0, 0)) := (hF3.block (w.heap.size + 1) (Array.getElem?_eq_some_iff.1 ST2.out).1 (fun e => by have e' : w.heap.size + 1 = w.heap.size := e; omega)).trans ST2.out; have k0 : w3.cell? ⟨w.heap.size + 1, 0, none⟩ = some (.int .i64 dd) := cell_of_row _ _ 0 _ _ _ hst3; have q4 : w3.cell? ⟨w.heap.size, 4, none⟩ = some (.int .i64 rdd) := hR3.h4; have z4 := hR3.fz 4))
  have hR4 : RAt (w3.setCell ⟨w.heap.size, 4, none⟩ (.int .i64 (rdd + 1))) w.heap.size ⟨SA, sn, sc, WA, wn, wc, f', false, rdd + 1, wrr⟩ := heap_setCell_at hR3 _
  obtain ⟨w4, hw4⟩ : ∃ w4, w4 = w3.setCell ⟨w.heap.size, 4, none⟩ (.int .i64 (rdd + 1)) := ⟨_, rfl⟩
  have hF4 : Fr (· = w.heap.size) w3 w4 := by rw [hw4]; exact Fr.setCell (own := (· = w.heap.size)) w3 (p := ⟨w.heap.size, 4, none⟩) rfl _
  rw [← hw4] at hR4 ⊢
  have hR24 : RAt w4 (w.heap.size + 2) zeroR := (hF4.block (w.heap.size + 2) hR23.lt (fun e => by have e' : w.heap.size + 2 = w.heap.size := e; omega)).trans hR23
  have hst4 : w4.heap[w.heap.size + 1]? = _ := (hF4.block (w.heap.size + 1) (Array.getElem?_eq_some_iff.1 hst3).1 (fun e => by have e' : w.heap.size + 1 = w.heap.size := e; omega)).trans hst3
  have hF24 : Fr (· = w.heap.size) w2 w4 := hF3.trans hF4
  have hS4 : RowsR w4 SA sn safe := HS0.out.below (HB2.out.trans (hF24.toBelow (fun x hx => by rw [show x = w.heap.size from hx]; exact Nat.le_refl _) HB2.out.size))
  have hW4 : WaitR w4 WA wn ls := HW0.out.below (HB2.out.trans (hF24.toBelow (fun x hx => by rw [show x = w.heap.size from hx]; exact Nat.le_refl _) HB2.out.size))
  have HB4 := Lib.hid (HB2.out.trans (hF24.toBelow (fun x hx => by rw [show x = w.heap.size from hx]; exact Nat.le_refl _) HB2.out.size))
  have cL := Last_any ⟨SA, sn, sc, WA, wn, wc, f', false, rdd + 1, wrr⟩ w4.drew i safe ls (hS4.below (Below.refl _ _).drew) (hW4.below (Below.refl _ _).drew) hwn hsn hi
  simp only [Rf.v, rv] at cL
  have CL := Lib.hid cL
  have hR4d : RAt w4.drew w.heap.size ⟨SA, sn, sc, WA, wn, wc, f', false, rdd + 1, wrr⟩ := hR4
  have hk : w4.cell? ⟨w.heap.size + 1, 1, none⟩ = some (.int .i64 (i : Int)) := cell_of_row _ _ 1 _ _ _ hst4
  have c0 : w4.cell? ⟨w.heap.size, 0, none⟩ = some (.slice SA sn sc) := hR4.h0
  have c1 : w4.cell? ⟨w.heap.size, 1, none⟩ = some (.slice WA wn wc) := hR4.h1
  have c2 : w4.cell? ⟨w.heap.size, 2, none⟩ = some (.int .i64 f') := hR4.h2
  have c3 : w4.cell? ⟨w.heap.size, 3, none⟩ = some (.bool false) := hR4.h3
  have c4 : w4.cell? ⟨w.heap.size, 4, none⟩ = some (.int .i64 (rdd + 1)) := hR4.h4
  have c5 : w4.cell? ⟨w.heap.size, 5, none⟩ = some (.int .i64 wrr) := hR4.h5
  obtain ⟨SS, hSS⟩ : ∃ SS : World → Prop, SS = fun w' => (w'.cell? ⟨w.heap.size, 0, none⟩ = some (.slice SA sn sc) ∧ w'.cell? ⟨w.heap.size, 1, none⟩ = some (.slice WA wn wc) ∧ w'.cell? ⟨w.heap.size, 2, none⟩ = some (.int .i64 f') ∧ w'.cell? ⟨w.heap.size, 3, none⟩ = some (.bool false) ∧ w'.cell? ⟨w.heap.size, 4, none⟩ = some (.int .i64 (rdd + 1)) ∧ w'.cell? ⟨w.heap.size, 5, none⟩ = some (.int .i64 wrr)) ∧ w'.cell? ⟨w.heap.size + 1, 1, none⟩ = some (.int .i64 (i : Int)) := ⟨_, rfl⟩
  have ST4 := Lib.hid hst4
  have RR4 := Lib.hid hR4
  have RR24 := Lib.hid hR24
  have s4 : (w4.cell? ⟨w.heap.size, 0, none⟩ = some (.slice SA sn sc) ∧ w4.cell? ⟨w.heap.size, 1, none⟩ = some (.slice WA wn wc) ∧ w4.cell? ⟨w.heap.size, 2, none⟩ = some (.int .i64 f') ∧ w4.cell? ⟨w.heap.size, 3, none⟩ = some (.bool false) ∧ w4.cell? ⟨w.heap.size, 4, none⟩ = some (.int .i64 (rdd + 1)) ∧ w4.cell? ⟨w.heap.size, 5, none⟩ = some (.int .i64 wrr)) ∧ w4.cell? ⟨w.heap.size + 1, 1, none⟩ = some (.int .i64 (i : Int)) := ⟨⟨c0, c1, c2, c3, c4, c5⟩, hk⟩
  have s4d : (w4.drew.cell? ⟨w.heap.size, 0, none⟩ = some (.slice SA sn sc) ∧ w4.drew.cell? ⟨w.heap.size, 1, none⟩ = some (.slice WA wn wc) ∧ w4.drew.cell? ⟨w.heap.size, 2, none⟩ = some (.int .i64 f') ∧ w4.drew.cell? ⟨w.heap.size, 3, none⟩ = some (.bool false) ∧ w4.drew.cell? ⟨w.heap.size, 4, none⟩ = some (.int .i64 (rdd + 1)) ∧ w4.drew.cell? ⟨w.heap.size, 5, none⟩ = some (.int .i64 wrr)) ∧ w4.drew.cell? ⟨w.heap.size + 1, 1, none⟩ = some (.int .i64 (i : Int)) := s4
  clear hSS hst4 hR4 hR24 hR4d cL hw4 hF4 hF3 hR3 hR23 hst3 k0 q4 z4 hF24 hS4 hW4 c0 c1 c2 c3 c4 c5 hk CB
  go_region_held3 (fun w' => (w'.cell? ⟨w.heap.size, 0, none⟩ = some (.slice SA sn sc) ∧ w'.cell? ⟨w.heap.size, 1, none⟩ = some (.slice WA wn wc) ∧ w'.cell? ⟨w.heap.size, 2, none⟩ = some (.int .i64 f') ∧ w'.cell? ⟨w.heap.size, 3, none⟩ = some (.bool false) ∧ w'.cell? ⟨w.heap.size, 4, none⟩ = some (.int .i64 (rdd + 1)) ∧ w'.cell? ⟨w.heap.size, 5, none⟩ = some (.int .i64 wrr)) ∧ w'.cell? ⟨w.heap.size + 1, 1, none⟩ = some (.int .i64 (i : Int))) (first
      | with_reducible exact s4
      | with_reducible exact s4d
      | with_reducible exact s5
      | exact s6) (first
    | (go_at_call 35; refine CL.out.mono ?_; rintro e w5 ⟨b5, o5, c5', rfl, hc5, hm5, hr5, hB5⟩; have hB5' : Below w4.heap.size w4 w5 := ((Below.refl _ _).drew).trans hB5; have R5 := RR4.out.under hB5'; have R25 : RAt w5 (w.heap.size + 1 + 1) zeroR := RR24.out.under hB5'; have hst5 := (hB5'.block (w.heap.size + 1) (Array.getElem?_eq_some_iff.1 ST4.out).1).trans ST4.out; have s5 : (w5.cell? ⟨w.heap.size, 0, none⟩ = some (.slice SA sn sc) ∧ w5.cell? ⟨w.heap.size, 1, none⟩ = some (.slice WA wn wc) ∧ w5.cell? ⟨w.heap.size, 2, none⟩ = some (.int .i64 f') ∧ w5.cell? ⟨w.heap.size, 3, none⟩ = some (.bool false) ∧ w5.cell? ⟨w.heap.size, 4, none⟩ = some (.int .i64 (rdd + 1)) ∧ w5.cell? ⟨w.heap.size, 5, none⟩ = some (.int .i64 wrr)) ∧ w5.cell? ⟨w.heap.size + 1, 1, none⟩ = some (.int .i64 (i : Int)) := ⟨⟨R5.h0, R5.h1, R5.h2, R5.h3, R5.h4, R5.h5⟩, cell_of_row _ _ 1 _ _ _ hst5⟩; have z0 : w5.cell? ⟨w.heap.size + 1 + 1, 0, none⟩ = some (.slice none 0 0) := R25.h0; have z1 : w5.cell? ⟨w.heap.size + 1 + 1, 1, none⟩ = some (.slice none 0 0) := R25.h1; have z2 : w5.cell? ⟨w.heap.size + 1 + 1, 2, none⟩ = some (.int .i64 0) := R25.h2; have z3 : w5.cell? ⟨w.heap.size + 1 + 1, 3, none⟩ = some (.bool false) := R25.h3; have z4 : w5.cell? ⟨w.heap.size + 1 + 1, 4, none⟩ = some (.int .i64 0) := R25.h4; have z5 : w5.cell? ⟨w.heap.size + 1 + 1, 5, none⟩ = some (.int .i64 0) := R25.h5; have y0 := R25.fz 0; have y1 := R25.fz 1; have y2 := R25.fz 2; have y3 := R25.fz 3; have y4 := R25.fz 4; have y5 := R25.fz 5; obtain ⟨R6, F6⟩ := R25.set6 ⟨SA, sn, sc, WA, wn, wc, f', false, rdd + 1, wrr⟩; have hR06 := (F6.block w.heap.size R5.lt (fun e => by have e' : w.heap.size = w.heap.size + 1 + 1 := e; omega)).trans R5; have hst6 := (F6.block (w.heap.size + 1) (Array.getElem?_eq_some_iff.1 hst5).1 (fun e => by have e' : w.heap.size + 1 = w.heap.size + 1 + 1 := e; omega)).trans hst5; have s6 := And.intro (And.intro (RAt.h0 hR06) (And.intro (RAt.h1 hR06) (And.intro (RAt.h2 hR06) (And.intro (RAt.h3 hR06) (And.intro (RAt.h4 hR06) (RAt.h5 hR06)))))) (cell_of_row _ _ 1 _ _ _ hst6)))
  all_goals
    go_wp2
    refine bodyPost_ret (res_R3 rfl rfl R6) rfl ?_
    exact ⟨b5, o5, c5', rfl, hc5, hm5, hr5.fr F6 (fun b o e _ hx => by injection e with e; injection e with e1 _; exact hr5.not_R (by decide) R25 (e1.trans hx)), (HB4.out.trans (hB5'.mono HB4.out.size)).trans (F6.toBelow (fun x hx => by rw [show x = w.heap.size + 1 + 1 from hx]; omega) (by have := HB4.out.size; have := hB5'.size; omega))⟩
end
end Go.Proofs.Ytieknelmfjkbhaa
