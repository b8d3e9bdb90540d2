/- The contract of comp's Get. -/
import Derived.Test.YtdaenkfkiijlkaaCmR3
namespace Go.Proofs.Ytdaenkfkiijlkaa
open Go.RowKit
set_option linter.unusedVariables false

/-- No layout. -/
def Cf.none0 : Cf := ⟨0, 0, 0, 0, []⟩
/-- Which layout any bytes are. -/
def getC (l : List UInt8) : Cf × Int :=
  if (rdConf (l, false)).2.2 = true then (Cf.none0, 12) else if 0 < (rdConf (l, false)).2.1.length then (Cf.none0, 11) else if (rdConf (l, false)).1.Right then ((rdConf (l, false)).1, 0) else (Cf.none0, 1)
theorem rdConf_lens (st : RS) : Lens (rdConf st).1.ks := fun k hk => by
  have := rdKs_lens _ _ k hk
  omega

theorem KRd.fr {w w' : World} {A : Option Addr} {n : Nat} {ks : List Kd} {own : Nat → Prop} (h : KRd w A n ks) (hf : Fr own w w') (hn : ∀ b o, A = some ⟨b, o, none⟩ → 0 < n → ¬ own b) : KRd w' A n ks :=
  ⟨h.1, fun hp => by
    obtain ⟨b, o, e, hlt, hc⟩ := h.2 hp
    have hb := hf.block b hlt (hn b o e hp)
    exact ⟨b, o, e, Nat.lt_of_lt_of_le hlt hf.size, fun j hj => ⟨(World.cell?_of_block (w := w) (a := ⟨b, o + j * 2, none⟩) hb).trans (hc j hj).1, (World.cell?_of_block (w := w) (a := ⟨b, o + j * 2 + 1, none⟩) hb).trans (hc j hj).2⟩⟩⟩
/-- A block that holds the empty layout holds no components. -/
theorem KRd.ne {w : World} {A : Option Addr} {n g : Nat} {ks : List Kd} (h : KRd w A n ks) (hz : Rec 24 w g (cc 0 0 0 0 none 0 0)) (b o : Nat) (e : A = some ⟨b, o, none⟩) (hp : 0 < n) : b ≠ g := by
  rintro rfl
  obtain ⟨b', o', e', _, hc⟩ := h.2 hp
  rw [e] at e'
  obtain ⟨rfl, rfl⟩ : b = b' ∧ o = o' := by simpa using e'
  have h0 := (hc 0 (by rw [h.1]; exact hp)).1
  rw [Nat.zero_mul, Nat.add_zero, hz.at_ o] at h0
  match o, h0 with
  | 0, h0 => simp at h0
  | 1, h0 => simp at h0
  | 2, h0 => simp at h0
  | 3, h0 => simp at h0
  | 4, h0 => simp at h0
  | _ + 5, h0 => simp at h0
theorem belowz {w w4 wz : World} {g : Nat} (hb : Below w.heap.size w w4) (hf : Fr (· = g) w4 wz) (hg : g = w.heap.size) : Below w.heap.size w wz :=
  hb.trans (hf.toBelow (fun x hx => by have : x = g := hx; omega) hb.size)

set_option maxHeartbeats 2000000 in
theorem CGet_any (A : Option Addr) (n c : Nat) (l : List UInt8) (w : World) (hr : Rd w A n l) (hn : n ≤ 100000) :
    Calls Try.prog 20 #[.slice A n c] w fun e w' => ∃ A' n' cap', e = .returned (.tuple #[cv (getC l).1.lg (getC l).1.pg (getC l).1.en (getC l).1.gn A' n' cap', .int .i64 (getC l).2]) ∧ KRd w' A' n' (getC l).1.ks ∧ n' ≤ 255 ∧ Below w.heap.size w w' := by
  obtain ⟨w1, hw1⟩ : ∃ w1, w1 = w.alloc (.cells #[.int .i64 0, .int .i64 0, .int .i64 0, .int .i64 0, .slice none 0 0] 24) := ⟨_, rfl⟩
  have hB1 : Below w.heap.size w w1 := by rw [hw1]; exact (Below.refl _ _).alloc (Nat.le_refl _) _
  have hZ : Rec 24 w1 w.heap.size (cc 0 0 0 0 none 0 0) := by rw [hw1]; exact Rec.new w _ _
  obtain ⟨g, hg⟩ : ∃ g, g = w.heap.size := ⟨_, rfl⟩
  rw [← hg] at hZ
  have HR := Lib.hid (hr.below (Nat.le_refl _) hB1)
  have HB1 := Lib.hid hB1
  have HZ := Lib.hid hZ
  have HG := Lib.hid hg
  clear hr hB1 hZ hg
  go_enter Try.func20, Try.ntmps20
  go_wp2_with (rw [← hw1, ← HG.out]; clear hw1)
  refine (RRead_any A n c l w1 HR.out (by omega)).mono ?_
  rintro e w2 ⟨p, rfl, hp, hr2, hb2⟩
  have R2 := Lib.hid hr2
  have Z2 := Lib.hid (HZ.out.under hb2)
  have B2 := Lib.hid (HB1.out.trans (hb2.mono HB1.out.size))
  have hpw : w1.heap.size ≤ p := hp
  clear hr2 hb2 hp HR
  go_wp2_with fail
  have cR := read_any p w2.heap.size (l, false) w2 R2.out (Nat.le_refl _)
  have hL := rdConf_lens (l, false)
  have hgc : getC l = if (rdConf (l, false)).2.2 = true then (Cf.none0, 12) else if 0 < (rdConf (l, false)).2.1.length then (Cf.none0, 11) else if (rdConf (l, false)).1.Right then ((rdConf (l, false)).1, 0) else (Cf.none0, 1) := rfl
  obtain ⟨⟨⟨lg, pg, en, gn, ks⟩, l3, m3⟩, hrc⟩ : ∃ x, x = rdConf (l, false) := ⟨_, rfl⟩
  rw [← hrc] at cR hL hgc
  simp only at cR hL hgc
  have HGC := Lib.hid hgc
  have HL := Lib.hid hL
  refine cR.mono ?_
  clear cR hrc hgc hL
  rintro e w3 ⟨A3, n3, cap3, rfl, hk3, hnc3, hn3, hr3, hf3⟩
  have hgp : g < p := by have := HZ.out.lt; omega
  have Z3 := Lib.hid (Z2.out.fr hf3 (fun e => by have : g = p := e; omega))
  have B3 := Lib.hid (B2.out.trans (hf3.toBelow (B := w.heap.size) (fun x hx => by have : x = p := hx; have := HG.out; omega) B2.out.size))
  have R3 := Lib.hid hr3
  have KK3 := Lib.hid hk3
  clear hr3 hk3 hf3
  obtain ⟨w4, hw4⟩ : ∃ w4, w4 = w3.alloc (.cells (cc lg pg en gn A3 n3 cap3) 24) := ⟨_, rfl⟩
  have hb4 : Below w3.heap.size w3 w4 := by rw [hw4]; exact (Below.refl _ _).alloc (Nat.le_refl _) _
  have C4 : Hid (Rec 24 w4 w3.heap.size (cc lg pg en gn A3 n3 cap3)) := Lib.hid (by rw [hw4]; exact Rec.new w3 _ _)
  have Z4 := Lib.hid (Z3.out.under hb4)
  have B4 := Lib.hid (B3.out.trans (hb4.mono B3.out.size))
  have R4 := Lib.hid (R3.out.below hb4)
  have K4 := Lib.hid (KK3.out.below hb4)
  obtain ⟨g3, hg3⟩ : ∃ g3, g3 = w3.heap.size := ⟨_, rfl⟩
  rw [← hg3] at C4
  have HG3 := Lib.hid hg3
  clear hb4 hg3 Z3 B3 R3 KK3 Z2 R2
  cases m3
  · have hd : decide ((0 : Int) < (l3.length : Int)) = decide (0 < l3.length) := by simp
    by_cases hl3 : 0 < l3.length
    · have hdN := decide_eq_true hl3
      rw [hdN] at hd
      have E1 := Lib.hid (show getC l = (Cf.none0, 11) by rw [HGC.out]; simp [hl3])
      clear HGC hl3
      go_wp2_with (first
        | (rw [← hw4, ← HG3.out]; clear hw4)
        | (go_at_call 37; refine (OK_any R4.out).mono ?_; rintro e w' ⟨rfl, rfl⟩)
        | (go_at_call 38; refine (Left_any R4.out).mono ?_; rintro e w' ⟨rfl, rfl⟩)
        | (with_reducible refine wpList_stC (lg := 0) (pg := 0) (en := 0) (gn := 0) (A := none) (n := 0) (cap := 0) (lg' := 0) (pg' := 0) (en' := 0) (gn' := 0) (A' := none) (n' := 0) (cap' := 0) rfl (.tmp 2) (.tmp 18) rfl rfl rfl Z4.out ?_; intro wz hRz hFz))
      refine bodyPost_ret (res_ct rfl rfl (hRz.load confT rfl)) rfl ?_
      rw [E1.out]
      exact ⟨none, 0, 0, rfl, KRd.nil _ _, by omega, belowz B4.out hFz HG.out⟩
    · have hdN : decide (0 < l3.length) = false := decide_eq_false hl3
      rw [hdN] at hd
      have cK := Check_any lg pg en gn A3 n3 cap3 ks w4 K4.out (by omega) HL.out
      by_cases hR : (Cf.mk lg pg en gn ks).Right
      · rw [if_pos hR] at cK
        have CK := Lib.hid cK
        have E1 := Lib.hid (show getC l = (⟨lg, pg, en, gn, ks⟩, 0) by rw [HGC.out]; simp [hl3, hR])
        clear HGC hl3 hR cK
        go_wp2_with (first
          | (rw [← hw4, ← HG3.out]; clear hw4)
          | (go_at_call 37; refine (OK_any R4.out).mono ?_; rintro e w' ⟨rfl, rfl⟩)
          | (go_at_call 38; refine (Left_any R4.out).mono ?_; rintro e w' ⟨rfl, rfl⟩)
          | (with_reducible refine wpList_ldC (lg := lg) (pg := pg) (en := en) (gn := gn) (A := A3) (n := n3) (cap := cap3) rfl (.tmp 5) rfl rfl C4.out ?_)
          | (go_at_call 8; refine CK.out.mono ?_; rintro e w5 ⟨rfl, hb5⟩; have C5 := Lib.hid (C4.out.under hb5); have Z5 := Lib.hid (Z4.out.under hb5); have B5 := Lib.hid (B4.out.trans (hb5.mono B4.out.size)); have K5 := Lib.hid (K4.out.below hb5); clear hb5)
          | (with_reducible refine wpList_ldC (lg := lg) (pg := pg) (en := en) (gn := gn) (A := A3) (n := n3) (cap := cap3) rfl (.tmp 5) rfl rfl C5.out ?_)
          | (with_reducible refine wpList_stC (lg := 0) (pg := 0) (en := 0) (gn := 0) (A := none) (n := 0) (cap := 0) (lg' := lg) (pg' := pg) (en' := en) (gn' := gn) (A' := A3) (n' := n3) (cap' := cap3) rfl (.tmp 2) (.tmp 25) rfl rfl rfl Z5.out ?_; intro wz hRz hFz))
        refine bodyPost_ret (res_ct rfl rfl (hRz.load confT rfl)) rfl ?_
        rw [E1.out]
        have hgz : Below g w5 wz := hFz.toBelow (fun x hx => by have : x = g := hx; omega) (Nat.le_of_lt Z5.out.lt)
        refine ⟨A3, n3, cap3, rfl, ?_, hn3, belowz B5.out hFz HG.out⟩
        exact K5.out.fr hFz (fun b o e hp hb => K5.out.ne Z5.out b o e hp hb)
      · rw [if_neg hR] at cK
        have CK := Lib.hid cK
        have E1 := Lib.hid (show getC l = (Cf.none0, 1) by rw [HGC.out]; simp [hl3, hR])
        clear HGC hl3 hR cK
        go_wp2_with (first
          | (rw [← hw4, ← HG3.out]; clear hw4)
          | (go_at_call 37; refine (OK_any R4.out).mono ?_; rintro e w' ⟨rfl, rfl⟩)
          | (go_at_call 38; refine (Left_any R4.out).mono ?_; rintro e w' ⟨rfl, rfl⟩)
          | (with_reducible refine wpList_ldC (lg := lg) (pg := pg) (en := en) (gn := gn) (A := A3) (n := n3) (cap := cap3) rfl (.tmp 5) rfl rfl C4.out ?_)
          | (go_at_call 8; refine CK.out.mono ?_; rintro e w5 ⟨rfl, hb5⟩; have Z5 := Lib.hid (Z4.out.under hb5); have B5 := Lib.hid (B4.out.trans (hb5.mono B4.out.size)); clear hb5)
          | (with_reducible refine wpList_stC (lg := 0) (pg := 0) (en := 0) (gn := 0) (A := none) (n := 0) (cap := 0) (lg' := 0) (pg' := 0) (en' := 0) (gn' := 0) (A' := none) (n' := 0) (cap' := 0) rfl (.tmp 2) (.tmp 23) rfl rfl rfl Z5.out ?_; intro wz hRz hFz))
        refine bodyPost_ret (res_ct rfl rfl (hRz.load confT rfl)) rfl ?_
        rw [E1.out]
        exact ⟨none, 0, 0, rfl, KRd.nil _ _, by omega, belowz B5.out hFz HG.out⟩
  · have E1 := Lib.hid (show getC l = (Cf.none0, 12) by rw [HGC.out]; simp)
    clear HGC
    go_wp2_with (first
      | (rw [← hw4, ← HG3.out]; clear hw4)
      | (go_at_call 37; refine (OK_any R4.out).mono ?_; rintro e w' ⟨rfl, rfl⟩)
      | (with_reducible refine wpList_stC (lg := 0) (pg := 0) (en := 0) (gn := 0) (A := none) (n := 0) (cap := 0) (lg' := 0) (pg' := 0) (en' := 0) (gn' := 0) (A' := none) (n' := 0) (cap' := 0) rfl (.tmp 2) (.tmp 14) rfl rfl rfl Z4.out ?_; intro wz hRz hFz))
    refine bodyPost_ret (res_ct rfl rfl (hRz.load confT rfl)) rfl ?_
    rw [E1.out]
    exact ⟨none, 0, 0, rfl, KRd.nil _ _, by omega, belowz B4.out hFz HG.out⟩
end Go.Proofs.Ytdaenkfkiijlkaa
