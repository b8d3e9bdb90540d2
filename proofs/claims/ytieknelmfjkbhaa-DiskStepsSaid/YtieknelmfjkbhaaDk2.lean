/- The contracts of the device's quiet functions, and of those that answer a number. -/
import Derived.Test.YtieknelmfjkbhaaDk1
namespace Go.Proofs.Ytieknelmfjkbhaa
open Go.RowKit Go.Maps

section
variable {w : World} {own : Nat → Prop} {N p m : Nat} {sv : Value} {f : Nat → Value} {s : St}

theorem DAt.shape (h : DAt w own N p m sv f s) : ∃ A c, sv = .slice A (512 * s.k) c ∧ 512 * s.k ≤ c ∧ c ≤ maxLen ∧ Rd w A (512 * s.k) s.safe ∧ (0 < s.k → ∃ b, A = some ⟨b, 0, none⟩) := by
  rcases h.safe.2 with ⟨h1, h2⟩ | ⟨g, cap, cur, rfl, _, hh, hn, hc, _⟩
  · refine ⟨none, 0, by rw [h1, h2], by omega, by unfold maxLen; omega, ?_, fun hk => by omega⟩
    have := h.safe.1
    simp at this
    rw [h2] at this ⊢
    rw [List.eq_nil_of_length_eq_zero this]
    exact Rd.nil _ _
  · obtain ⟨A, c, e1, _, _, hr⟩ := Rd.of_own h.safe rfl
    cases e1
    exact ⟨_, cap, rfl, hn, hc, hr, fun _ => ⟨g, rfl⟩⟩
theorem DAt.slen (h : DAt w own N p m sv f s) : s.safe.length = 512 * s.k := by have := h.safe.1; simpa using this

theorem Size_any (h : DAt w own N p m sv f s) : Calls Try.prog 21 #[.pointer (some ⟨p, 0, none⟩)] w fun e w' => e = .returned (.int .i64 s.k) ∧ w = w' := by
  obtain ⟨A, c, rfl, hc, hcm, _, _⟩ := h.shape
  have c0 := h.c0
  have hk := h.kle
  clear h
  go_enter Try.func21, Try.ntmps21
  go_wp2
  go_ret
  exact ⟨ret_int (by omega), rfl⟩
theorem Off_any (h : DAt w own N p m sv f s) : Calls Try.prog 13 #[.pointer (some ⟨p, 0, none⟩)] w fun e w' => e = .returned (.bool s.off) ∧ w = w' := by
  have c3 := h.c3
  clear h
  go_enter Try.func13, Try.ntmps13
  go_wp2
  go_ret
  exact ⟨rfl, rfl⟩
theorem Reads_any (h : DAt w own N p m sv f s) : Calls Try.prog 14 #[.pointer (some ⟨p, 0, none⟩)] w fun e w' => e = .returned (.int .i64 s.rd) ∧ w = w' := by
  have c4 := h.c4
  clear h
  go_enter Try.func14, Try.ntmps14
  go_wp2
  go_ret
  exact ⟨rfl, rfl⟩
theorem Writes_any (h : DAt w own N p m sv f s) : Calls Try.prog 15 #[.pointer (some ⟨p, 0, none⟩)] w fun e w' => e = .returned (.int .i64 s.wr) ∧ w = w' := by
  have c5 := h.c5
  clear h
  go_enter Try.func15, Try.ntmps15
  go_wp2
  go_ret
  exact ⟨rfl, rfl⟩
theorem dcode_any (n : Int) (w : World) : Calls Try.prog 23 #[.int .i64 n] w fun e w' => e = .returned (.int .i64 n) ∧ w = w' := by
  go_enter Try.func23, Try.ntmps23
  go_wp2
  go_ret
  exact ⟨rfl, rfl⟩

/-- Sector i of the safe bytes. -/
theorem sector_any (h : DAt w own N p m sv f s) (i : Nat) (hi : i < s.k) :
    Calls Try.prog 41 #[.pointer (some ⟨p, 0, none⟩), .int .i64 i] w fun e w' => ∃ b c, sv.ownBlock = some b ∧ e = .returned (.slice (some ⟨b, 512 * i, none⟩) 512 c) ∧ 512 ≤ c ∧ Rd w (some ⟨b, 512 * i, none⟩) 512 (s.sec i) ∧ w = w' := by
  obtain ⟨A, c, rfl, hc, hcm, hr, hA⟩ := h.shape
  obtain ⟨b, rfl⟩ := hA (by omega)
  have c0 := h.c0
  have hk := h.kle
  unfold maxLen at hcm
  have hq := hr.part (lo := 512 * i) (m := 512) (by omega) (some ⟨b, 512 * i, none⟩) (fun _ b' o e => by injection e with e; injection e with e1 e2; subst e1; subst e2; simp)
  have HQ := Lib.hid hq
  clear h hr hA hq
  have g0 : (0 : Int) ≤ (i : Int) * 512 := by omega
  have g1 : (i : Int) * 512 ≤ ((i : Int) + 1) * 512 := by omega
  have g2 : ((i : Int) + 1) * 512 ≤ (c : Int) := by omega
  have g4 : ¬ c = 512 * i := by omega
  have g6 : ((i : Int) * 512).toNat = 512 * i := by omega
  have g7 : (((i : Int) + 1) * 512).toNat = 512 * i + 512 := by omega
  have g8 : 512 * i + 512 - 512 * i = 512 := by omega
  go_enter Try.func41, Try.ntmps41
  go_wp2
  go_ret
  exact ⟨b, c - 512 * i, rfl, rfl, by omega, HQ.out, rfl⟩
end

theorem zeroW (w : World) : (zeroValue 27).run Try.prog w = .ok nilv w := by kernel_rfl

section
variable {w : World} {own : Nat → Prop} {N p m : Nat} {sv : Value} {f : Nat → Value} {s : St}
theorem DAt.look (h : DAt w own N p m sv f s) (i : Nat) (hi : i < s.k) : (Instr.lookup 72 (.map (some m)) (.int .i64 (i : Int)) false).run Try.prog w = .ok (f i) w :=
  h.map.look Try.underlying3 Try.underlying72 (zeroW w) i (by have := h.kle; omega)

/-- What sector i was written last. -/
theorem dlast_any (h : DAt w own N p m sv f s) (i : Nat) (hi : i < s.k) :
    Calls Try.prog 42 #[.pointer (some ⟨p, 0, none⟩), .int .i64 i] w fun e w' => ∃ b o c, e = .returned (.slice (some ⟨b, o, none⟩) 512 c) ∧ 512 ≤ c ∧ own b ∧ Rd w (some ⟨b, o, none⟩) 512 (s.last i) ∧ (s.wait i ≠ [] → some b ≠ sv.ownBlock) ∧ w = w' := by
  have hl := h.look i hi
  have c1 := h.c1
  obtain ⟨A, c, hv, hc, hcm, hx⟩ := (h.rows i).shape
  rw [hv] at hl
  unfold maxLen at hcm
  by_cases h0 : s.wait i = []
  · have e1 : (s.wait i).length = 0 := by rw [h0]; rfl
    rw [e1] at hl
    have cS := sector_any h i hi
    have hw := h.owns
    have CS := Lib.hid cS
    have HW := Lib.hid hw
    have H0 := Lib.hid h0
    clear h hv hc hx e1 cS hw h0
    go_enter Try.func42, Try.ntmps42
    go_wp2_with (go_at_call 41; refine CS.out.mono ?_; rintro e w' ⟨b, c', hb, rfl, hc', hr, rfl⟩)
    go_ret
    exact ⟨b, _, c', rfl, hc', HW.out b hb, by unfold St.last; rw [H0.out]; exact hr, fun hne => absurd H0.out hne, rfl⟩
  · have e1 : 0 < (s.wait i).length := List.length_pos_iff.2 h0
    obtain ⟨r, g, rfl, hcell, hr, hog, hsb⟩ := hx ((s.wait i).length - 1) (by omega)
    have hfew := h.few i
    have hn := h.nle
    have e2 : (s.wait i)[(s.wait i).length - 1]'(by omega) = s.last i := by
      unfold St.last
      rw [List.getLastD_eq_getLast?, List.getLast?_eq_getElem?, List.getElem?_eq_getElem (by omega)]
      rfl
    rw [e2] at hr
    obtain ⟨L, hL⟩ : ∃ L, L = (s.wait i).length := ⟨_, rfl⟩
    rw [← hL] at hl hcell e1 hfew hc
    have HR := Lib.hid hr
    have g1 : ((L : Int) - 1).toNat = L - 1 := by omega
    have g2 : 0 ≤ (L : Int) - 1 := by omega
    have g3 : (L : Int) - 1 < (L : Int) := by omega
    have g4 : (1 : Int) ≤ (L : Int) := by omega
    have g5 : (0 : Int) < (L : Int) := by omega
    have HSB := Lib.hid hsb
    clear h hv hx e2 hr hL h0 hsb
    go_enter Try.func42, Try.ntmps42
    go_wp2
    go_ret
    exact ⟨g, 0, 512, rfl, by omega, hog, HR.out, fun _ => HSB.out, rfl⟩

/-- Whether something can be done with sector i. -/
theorem begin_no (h : DAt w own N p m sv f s) (i : Int) (hi : i < 0 ∨ (s.k : Int) ≤ i) :
    Calls Try.prog 43 #[.pointer (some ⟨p, 0, none⟩), .int .i64 i] w fun e w' => e = .returned (.int .i64 2) ∧ w = w' := by
  have cS := Size_any h
  have CS := Lib.hid cS
  clear h cS
  by_cases h0 : i < 0
  · clear hi
    go_enter Try.func43, Try.ntmps43
    go_wp2
    go_ret
    exact ⟨rfl, rfl⟩
  · have h1 : (s.k : Int) ≤ i := by omega
    clear hi
    go_enter Try.func43, Try.ntmps43
    go_wp2_with (go_at_call 21; refine CS.out.mono ?_; rintro e w' ⟨rfl, rfl⟩)
    go_ret
    exact ⟨rfl, rfl⟩
theorem begin_any (h : DAt w own N p m sv f s) (i : Nat) (hi : i < s.k) :
    Calls Try.prog 43 #[.pointer (some ⟨p, 0, none⟩), .int .i64 i] w fun e w' => e = .returned (.int .i64 (if s.ok then 0 else 3)) ∧ Fr (· = p) w w' ∧ DAt w' own N p m sv f s.burn := by
  have cS := Size_any h
  have cP := powered_any h
  have CS := Lib.hid cS
  have h1 : ¬ (s.k : Int) ≤ i := by omega
  have h2 : ¬ (i : Int) < 0 := by omega
  have h3 : ¬ s.k ≤ i := by omega
  cases hok : s.ok
  · rw [hok] at cP
    have CP := Lib.hid cP
    clear h cS cP hok hi
    go_enter Try.func43, Try.ntmps43
    go_wp2_with (first | (go_at_call 21; refine CS.out.mono ?_; rintro e w' ⟨rfl, rfl⟩) | (go_at_call 40; refine CP.out.mono ?_; rintro e w' ⟨rfl, hf, hD⟩))
    go_ret
    exact ⟨rfl, hf, hD⟩
  · rw [hok] at cP
    have CP := Lib.hid cP
    clear h cS cP hok hi
    go_enter Try.func43, Try.ntmps43
    go_wp2_with (first | (go_at_call 21; refine CS.out.mono ?_; rintro e w' ⟨rfl, rfl⟩) | (go_at_call 40; refine CP.out.mono ?_; rintro e w' ⟨rfl, hf, hD⟩))
    go_ret
    exact ⟨rfl, hf, hD⟩

/-- The fuse is set. -/
theorem Fuse_any (h : DAt w own N p m sv f s) (n : Int) (hn : -9223372036854775808 ≤ n ∧ n ≤ 9223372036854775807) :
    Calls Try.prog 28 #[.pointer (some ⟨p, 0, none⟩), .int .i64 n] w fun e w' => e = .returned (.tuple #[]) ∧ Fr (· = p) w w' ∧ DAt w' own N p m sv f { s with fuse := n } := by
  have c2 := h.c2
  have f2 := h.fr0 2
  have HB := Lib.hid h.blk
  have H := Lib.hid h
  clear h
  go_enter Try.func28, Try.ntmps28
  go_wp2
  go_end0
  exact ⟨rfl, fr_p _ _ _ _, H.out.field n s.rd s.wr s.off (heap_setCell_at HB.out _) (fr_p _ _ _ _) (Nat.le_refl _) H.out.nle hn H.out.rz H.out.wz⟩
end
end Go.Proofs.Ytieknelmfjkbhaa
