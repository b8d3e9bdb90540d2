/- A column: Add, Drop. -/
import Derived.Test.YtlblbhndfclhnaaCl2
namespace Go.Proofs.Ytlblbhndfclhnaa
open Go.RowKit

section
variable {w w1 w' : World} {own : Nat → Prop} {p : Nat} {v : Value} {s : Co}

theorem ob_len (A : Option Addr) (n m c : Nat) : (Value.slice A n c).ownBlock = (Value.slice A m c).ownBlock := by cases A <;> rfl
theorem Add_size (dom : ∀ x, own x → x < w.heap.size) (h : ClAt w own p v s) (A : Option Addr) (n c : Nat) (hn : n ≠ s.sz) :
    Calls Try.prog 17 #[.pointer (some ⟨p, 0, none⟩), .slice A n c] w fun e w' => e = .returned (.int .i64 7) ∧ ClGoes w own p s w' := by
  have HG := Lib.hid (ClGoes.still dom h (Below.refl _ _))
  have c0 := h.c0
  have hn' : ¬ ((n : Int) = (s.sz : Int)) := by omega
  clear h
  go_enter Try.func17, Try.ntmps17
  go_wp2
  go_ret
  exact ⟨rfl, HG.out⟩
theorem Add_full (dom : ∀ x, own x → x < w.heap.size) (h : ClAt w own p v s) (A : Option Addr) (n c : Nat) (hn : n = s.sz) (hf : s.rows.length = 1024) :
    Calls Try.prog 17 #[.pointer (some ⟨p, 0, none⟩), .slice A n c] w fun e w' => e = .returned (.int .i64 9) ∧ ClGoes w own p s w' := by
  have HG := Lib.hid (ClGoes.still dom h (Below.refl _ _))
  have c0 := h.c0
  have c1 := h.c1
  rw [hf] at c1
  subst hn
  clear h
  go_enter Try.func17, Try.ntmps17
  go_wp2
  go_ret
  exact ⟨rfl, HG.out⟩
theorem Add_ok (dom : ∀ x, own x → x < w.heap.size) (h : ClAt w own p v s) (A : Option Addr) (n c : Nat) (b : List UInt8) (hb : Rd w A n b) (hn : n = s.sz) (hf : s.rows.length ≠ 1024) :
    Calls Try.prog 17 #[.pointer (some ⟨p, 0, none⟩), .slice A n c] w fun e w' => e = .returned (.int .i64 0) ∧ ClGoes w own p (s.add b) w' := by
  subst hn
  have c0 := h.c0
  have c1 := h.c1
  have c2 := h.c2
  have f1 := h.fz 1
  have f2 := h.fz 2
  have hn := h.ok.n
  have hz := h.ok.z
  have hs := h.ok.small
  have hf' : ¬ ((s.rows.length : Int) = 1024) := by omega
  have hfr : Fr own w w := Fr.refl _ _
  have H := Lib.hid h
  have HB := Lib.hid hb
  have DOM := Lib.hid dom
  have HF := Lib.hid hf
  clear h hb dom hf
  go_enter Try.func17, Try.ntmps17
  go_wp2_with (at_builtin; refine wpList_appo bytesT rfl (.tmp 23) (.tmp 24) rfl 0 v _ _ rfl H.out.row A s.sz c b rfl HB.out (by omega) (Nat.zero_le _) ?_; intro v2 w2 ho2 hg2 hv2; have hR2 := H.out.blk.fr (Fr.grown hg2 (own := fun x => v.ownBlock = some x) (fun x hx => hx)) (fun e => H.out.ne p e rfl); have k2 : w2.cell? ⟨p, 2, none⟩ = some v := hR2.at_ 2; have k1 : w2.cell? ⟨p, 1, none⟩ = some (.int .i64 (s.rows.length : Nat)) := hR2.at_ 1; have e2 := hR2.fz 2; have e1 := hR2.fz 1; obtain ⟨A2, c2, rfl, _, _, _, _⟩ := own_opens ho2; have HO2 := Lib.hid ho2; have HG2 := Lib.hid hg2; have HV2 := Lib.hid hv2; have HR2 := Lib.hid hR2; clear ho2 hg2 hv2 hR2)
  go_ret
  have hG := HG2.out
  have hne : ∀ x, (Value.slice A2 (s.bytes.length + s.sz) c2).ownBlock = some x → x ≠ p := fun x hx => by
    rcases HV2.out with h1 | h1
    · exact H.out.ne x (h1 ▸ hx)
    · have := H.out.lt
      rw [h1] at hx
      injection hx with hx
      omega
  have hs1 : Fr (· = p) w2 (w2.setCell ⟨p, 2, none⟩ (.slice A2 (s.bytes.length + s.sz) c2)) := Fr.setCell (own := (· = p)) w2 (p := ⟨p, 2, none⟩) rfl _
  have hs2 : Fr (· = p) (w2.setCell ⟨p, 2, none⟩ (.slice A2 (s.bytes.length + s.sz) c2)) ((w2.setCell ⟨p, 2, none⟩ (.slice A2 (s.bytes.length + s.sz) c2)).setCell ⟨p, 1, none⟩ (.int .i64 ((s.rows.length : Int) + 1))) := Fr.setCell (own := (· = p)) _ (p := ⟨p, 1, none⟩) rfl _
  have hF : Fr own w _ := ((Fr.grown hG (own := own) (fun x hx => H.out.ownv x hx)).trans (hs1.mono (fun x hx => by rw [show x = p from hx]; exact H.out.ownp))).trans (hs2.mono (fun x hx => by rw [show x = p from hx]; exact H.out.ownp))
  have hadd : ((s.add b).rows.length : Nat) = s.rows.length + 1 := by simp [Co.add]
  have hlen : (s.add b).bytes.length = s.bytes.length + s.sz := by rw [Co.add_bytes, List.length_append, HB.out.1]
  refine ⟨rfl, hF, fun x => own x ∨ (w.heap.size ≤ x ∧ x < ((w2.setCell ⟨p, 2, none⟩ (.slice A2 (s.bytes.length + s.sz) c2)).setCell ⟨p, 1, none⟩ (.int .i64 ((s.rows.length : Int) + 1))).heap.size), fun x hx => hx.imp id (fun h => h.1), fun x hx => ?_, .slice A2 (s.bytes.length + s.sz) c2, ?_⟩
  · rcases hx with h | h
    · exact Nat.lt_of_lt_of_le (DOM.out x h) hF.size
    · exact h.2
  · exact {
      blk := by
        have := (HR2.out.set 2 (.slice A2 (s.bytes.length + s.sz) c2)).set 1 (.int .i64 ((s.rows.length : Int) + 1))
        rw [hadd]
        exact this
      row := by
        rw [hlen, Co.add_bytes, cells_append]
        exact own_fr (own_fr HO2.out hs1 (fun x hx => hne x hx)) hs2 (fun x hx => hne x hx)
      ownp := .inl H.out.ownp
      ownv := fun x hx => by
        rcases HV2.out with h1 | h1
        · exact .inl (H.out.ownv x (h1 ▸ hx))
        · refine .inr ⟨?_, Nat.lt_of_lt_of_le ?_ (Nat.le_trans hs1.size hs2.size)⟩
          · rw [h1] at hx
            injection hx with hx
            omega
          · rcases HO2.out.2 with ⟨hn, _⟩ | ⟨g, cap, cur, hv, _, hh, _⟩
            · rw [hn] at hx; cases hx
            · rw [hv] at hx
              injection hx with hx
              exact hx ▸ (Array.getElem?_eq_some_iff.1 hh).1
      ne := hne
      ok := H.out.ok.add b HB.out.1 HF.out }

theorem Drop_no (dom : ∀ x, own x → x < w.heap.size) (h : ClAt w own p v s) (i : Int) (hi : ¬ (0 ≤ i ∧ i < s.rows.length)) :
    Calls Try.prog 21 #[.pointer (some ⟨p, 0, none⟩), .int .i64 i] w fun e w' => e = .returned (.int .i64 2) ∧ ClGoes w own p s w' := by
  have CK := Lib.hid (check_no h i hi)
  have HG := Lib.hid (ClGoes.still dom h (Below.refl _ _))
  clear h hi
  go_enter Try.func21, Try.ntmps21
  go_wp2_with (go_at_call 25; refine CK.out.mono ?_; rintro e w' ⟨rfl, rfl⟩)
  go_ret
  exact ⟨rfl, HG.out⟩
theorem Drop_ok (dom : ∀ x, own x → x < w.heap.size) (h : ClAt w own p v s) (k : Nat) (hk : k < s.rows.length) :
    Calls Try.prog 21 #[.pointer (some ⟨p, 0, none⟩), .int .i64 k] w fun e w' => e = .returned (.int .i64 0) ∧ ClGoes w own p (s.drop k) w' := by
  have CK := Lib.hid (check_ok h (k : Int) ⟨by omega, by omega⟩)
  have CR := Lib.hid (row_any h k hk)
  have c1 := h.c1
  have hf := Co.fit (s := s) hk
  rw [← h.ok.len] at hf
  have hla : s.rows.length - 1 < s.rows.length := by omega
  have hcut := Co.fit (s := s) hla
  rw [← h.ok.len] at hcut
  have hn := h.ok.n
  have hz := h.ok.z
  have hs := h.ok.small
  obtain ⟨A, c, rfl, hc, hm, _, _⟩ := own_opens h.row
  obtain ⟨L, hL⟩ : ∃ L, L = s.rows.length - 1 := ⟨_, rfl⟩
  have e1 : (s.rows.length : Int) - 1 = (L : Int) := by omega
  have HC := Lib.hid hcut
  have E1 := Lib.hid e1
  have HL := Lib.hid hL
  have HF := Lib.hid hf
  have H := Lib.hid h
  have DOM := Lib.hid dom
  rw [← hL] at hla hcut
  have HLA := Lib.hid hla
  obtain ⟨lr, hlr⟩ : ∃ lr, lr = s.rows.getD L [] := ⟨_, rfl⟩
  have hll : lr.length = s.sz := by rw [hlr]; exact h.ok.getD hla
  have e3 : (L : Int) * (s.sz : Int) = ((L * s.sz : Nat) : Int) := by push_cast; rfl
  have hdr : s.drop k = (s.set k lr).cut := by unfold Co.drop; rw [hlr, hL]
  have HDR := Lib.hid hdr
  have HLR := Lib.hid hlr
  have HK := Lib.hid hk
  have HLL := Lib.hid hll
  have E3 := Lib.hid e3
  clear h dom hf hcut hL e1 hla hlr e3 hdr hk hll
  go_enter Try.func21, Try.ntmps21
  go_wp2_with (first
    | (rw [E1.out])
    | (go_at_call 25; refine CK.out.mono ?_; rintro e w' ⟨rfl, rfl⟩)
    | (go_at_call 26; refine CR.out.mono ?_; clear CR; rintro e w1 ⟨⟨A1, rfl, hA1⟩, hB1⟩; have HA1 := Lib.hid hA1; have HB1 := Lib.hid hB1; have H1 := Lib.hid (H.out.below hB1); clear hA1 hB1)
    | (go_at_call 26; refine (row_any H1.out L HLA.out).mono ?_; rintro e w2 ⟨⟨A2, rfl, hA2⟩, hB2⟩; have HR2 := Lib.hid (((H1.out.below hB2).rd L HLA.out hA2)); have HB2 := Lib.hid (HB1.out.trans (hB2.mono HB1.out.size)); have H2 := Lib.hid (H1.out.below hB2); rw [← HLR.out] at HR2; clear hA2 hB2)
    | (with_reducible refine wpList_cpo bytesT rfl (.tmp 20) (.tmp 23) rfl H2.out.row s.sz (k * s.sz) s.sz A1 HA1.out HF.out rfl A2 s.sz lr rfl HR2.out ?_; intro w3 hO3 hF3))
  have H3 := (H2.out.turned HK.out HLL.out hF3 hO3)
  have q0 : w3.drew.cell? ⟨p, 0, none⟩ = some (.int .i64 (s.sz : Nat)) := H3.c0
  have q2 : w3.drew.cell? ⟨p, 2, none⟩ = some (.slice A s.bytes.length c) := H3.c2
  have f2 : w3.drew.frozen? ⟨p, 2, none⟩ = false := H3.fz 2
  have f1 : w3.drew.frozen? ⟨p, 1, none⟩ = false := H3.fz 1
  obtain ⟨M, hM⟩ : ∃ M, M = L * s.sz := ⟨_, rfl⟩
  have e4 : IntKind.i64.wrap ((L : Int) * (s.sz : Int)) = (M : Int) := by
    have h1 := HC.out
    rw [← HL.out, ← hM] at h1
    rw [E3.out, ← hM, IntKind.wrap_i64]
    omega
  have hMc : (M : Int) ≤ (c : Int) := by have := HC.out; have := HL.out; rw [← HL.out, ← hM] at *; omega
  have hM0 : (0 : Int) ≤ (M : Int) := by omega
  have HMM := Lib.hid hM
  clear hM
  obtain ⟨w4, hw4⟩ : ∃ w4, w4 = (w3.setCell ⟨p, 2, none⟩ (.slice A M c)).drew := ⟨_, rfl⟩
  have hs1 : Fr (· = p) w3 w4 := by rw [hw4]; exact (Fr.setCell (own := (· = p)) w3 (p := ⟨p, 2, none⟩) rfl _).trans (Fr.drew _ _)
  have hB4 : Rec 55 w4 p #[.int .i64 (s.sz : Nat), .int .i64 ((s.set k lr).rows.length : Nat), .slice A M c] := by
    rw [hw4]
    exact (H3.blk.set 2 (.slice A M c)).block rfl
  have e1 : w4.frozen? ⟨p, 1, none⟩ = false := hB4.fz 1
  have d1 : w4.cell? ⟨p, 1, none⟩ = some (.int .i64 ((s.set k lr).rows.length : Nat)) := hB4.at_ 1
  have HB4 := Lib.hid hB4
  have HS1 := Lib.hid hs1
  have HW4 := Lib.hid hw4
  clear hw4 hB4 hs1
  have HH3 := Lib.hid H3
  have HF3 := Lib.hid hF3
  clear H3 hF3 hO3 H2 HR2 HA1 H1 CK c1
  go_region
  all_goals
    rw [← HW4.out]
    go_wp2
    go_ret
    have hok := H.out.ok.set k lr HLL.out
    have hb : (s.set k lr).bytes.length = s.bytes.length := by rw [hok.len, H.out.ok.len]; simp [Co.set]
    have hrl : (s.set k lr).rows.length - 1 = L := by rw [HL.out]; simp [Co.set]
    have hcl : (s.set k lr).cut.rows.length = L := by simp only [Co.cut, List.length_take]; omega
    have hcb : (cells (s.set k lr).bytes).take M = cells (s.set k lr).cut.bytes := by
      rw [← cells_take, HMM.out, ← hrl]
      exact congrArg cells (Co.cut_bytes hok)
    have hr := HH3.out.row
    rw [hb] at hr
    have hr2 := own_less hr (m := M) (by have := HC.out; rw [← HL.out, ← HMM.out] at this; omega)
    rw [hcb] at hr2
    have hne := HH3.out.ne
    have hs2 : Fr (· = p) w4 (w4.setCell ⟨p, 1, none⟩ (.int .i64 (L : Int))) := Fr.setCell (own := (· = p)) _ (p := ⟨p, 1, none⟩) rfl _
    have hs := HS1.out.trans hs2
    have hrow := own_fr hr2 hs (fun x hx e => hne x ((ob_len A M s.bytes.length c).symm ▸ hx) e)
    rw [HDR.out]
    refine ⟨rfl, ClGoes.pre HB2.out (ClGoes.of (fun x hx => Nat.lt_of_lt_of_le (DOM.out x hx) HB2.out.size) ((HF3.out.mono (fun x hx => H.out.ownv x hx)).trans (hs.mono (fun x hx => by rw [show x = p from hx]; exact H.out.ownp))) (v' := .slice A M c) ?_)⟩
    exact {
      blk := by
        have := HB4.out.set 1 (.int .i64 (L : Int))
        rw [hcl]
        exact this
      row := by
        have hl2 := hr2.1
        rw [cells_length, Nat.mul_one] at hl2
        rw [hl2]
        exact hrow
      ownp := H.out.ownp
      ownv := fun x hx => H.out.ownv x ((ob_len A M s.bytes.length c).symm ▸ hx)
      ne := fun x hx => hne x ((ob_len A M s.bytes.length c).symm ▸ hx)
      ok := hok.cut }
end
end Go.Proofs.Ytlblbhndfclhnaa
