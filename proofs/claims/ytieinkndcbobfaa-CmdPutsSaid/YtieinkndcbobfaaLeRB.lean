/- le's Reader: the contract of Bytes. -/
import Derived.Test.YtieinkndcbobfaaLeR
namespace Go.Proofs.Ytieinkndcbobfaa
open Go.RowKit
set_option linter.unusedVariables false

/-- The next k bytes, and what they leave. -/
def rdBytes (k : Nat) (st : RS) : List UInt8 × RS :=
  if st.2 = true then ([], st) else if st.1.length < k then ([], (st.1, true)) else (st.1.take k, (st.1.drop k, false))

section
variable {w w' : World} {p N : Nat} {st : RS}
theorem part_zero (A : Option Addr) (n c : Nat) (w : World) (hc : n ≤ c) (hn : n ≤ 1073741824) :
    Calls Try.prog 41 #[.slice A n c, .int .i64 0, .int .i64 0] w fun e w' => e = .returned (.tuple #[.slice A 0 0, .bool true]) ∧ w = w' := by
  go_enter Try.func41, Try.ntmps41
  go_wp2
  go_ret2
  exact ⟨rfl, rfl⟩
theorem take_zero (l : List UInt8) (h : RdrIs N w p (l, false)) :
    Calls Try.prog 40 #[.pointer (some ⟨p, 0, none⟩), .int .i64 0] w fun e w' => ∃ A, e = .returned (.slice A 0 0) ∧ RdrIs N w' p (l, false) ∧ Fr (· = p) w w' := by
  have H := Lib.hid h
  obtain ⟨A, n, c, h1, h2, h3, h4, h5, hpN, h6⟩ := h
  have c0 : w.cell? ⟨p, 0, none⟩ = some (.slice A n c) := cell_of_row _ _ 0 _ _ _ h1
  have f0 : w.frozen? ⟨p, 0, none⟩ = false := frozen_of_row w p 0 _ _ h1
  simp only at h1 h2
  have hset : (w.setCell ⟨p, 0, none⟩ (.slice A n c)).heap[p]? = some (.cells #[.slice A n c, .bool false] 63 (0, 0)) := by
    have := heap_setCell_at (j := 0) h1 (.slice A n c)
    simpa using this
  have hfr : Fr (· = p) w (w.setCell ⟨p, 0, none⟩ (.slice A n c)) := Fr.setCell w (own := (· = p)) rfl _
  have hR : RdrIs N (w.setCell ⟨p, 0, none⟩ (.slice A n c)) p (l, false) := ⟨A, n, c, hset, h2.fr hfr (fun b o e _ => (h6 _ e).1), h3, h4, h5, hpN, h6⟩
  have HR := Lib.hid hR
  have HFR := Lib.hid hfr
  clear h1 h2 h6 hset hfr hR
  by_cases hc0 : c = 0
  · subst hc0
    obtain rfl : n = 0 := by omega
    go_enter Try.func40, Try.ntmps40
    go_wp2_with (first
      | (go_at_call 36; refine (OK_any H.out).mono ?_; rintro e w' ⟨rfl, rfl⟩)
      | (go_at_call 41; refine (part_zero A 0 0 w h3 h5).mono ?_; rintro e w' ⟨rfl, rfl⟩))
    go_ret
    exact ⟨A, rfl, HR.out, HFR.out⟩
  · go_enter Try.func40, Try.ntmps40
    go_wp2_with (first
      | (go_at_call 36; refine (OK_any H.out).mono ?_; rintro e w' ⟨rfl, rfl⟩)
      | (go_at_call 41; refine (part_zero A n c w h3 h5).mono ?_; rintro e w' ⟨rfl, rfl⟩))
    go_ret
    exact ⟨A, rfl, HR.out, HFR.out⟩

/-- What Bytes leaves. -/
def GotB (N p k : Nat) (st : RS) (w : World) (e : Ending) (w' : World) : Prop :=
  ∃ A n c, e = .returned (.slice A n c) ∧ Rd w' A n (rdBytes k st).1 ∧ (∀ b o, A = some ⟨b, o, none⟩ → 0 < n → w.heap.size ≤ b) ∧ n ≤ c ∧ RdrIs N w' p (rdBytes k st).2 ∧ Fr (· = p) w w'
theorem own_lo {w : World} {B : Nat} {e : TypeId} {v : Value} {n : Nat} {xs : List Value} (h : w.ownsRow B e 1 v n xs) {A : Option Addr} {m c : Nat} (hv : v = .slice A m c) (b o : Nat) (hA : A = some ⟨b, o, none⟩) : B ≤ b := by
  subst hv
  rcases h.2 with ⟨h1, _⟩ | ⟨g, cap, cur, hv, hB, _⟩
  · injection h1 with h1; rw [hA] at h1; cases h1
  · injection hv with h1
    rw [hA] at h1
    injection h1 with h1
    injection h1 with h1
    omega
theorem RBytes_any (h : RdrIs N w p st) (k : Nat) (hk : k ≤ 65535) :
    Calls Try.prog 35 #[.pointer (some ⟨p, 0, none⟩), .int .i64 k] w (GotB N p k st w) := by
  obtain ⟨l, m⟩ := st
  cases m
  · by_cases hs : l.length < k
    · have e1 : rdBytes k (l, false) = ([], (l, true)) := by simp [rdBytes, hs]
      unfold GotB
      rw [e1]
      have cT := Lib.hid (take_short l h k (by omega) hs)
      clear h e1
      go_enter Try.func35, Try.ntmps35
      go_wp2_with (first
        | (go_at_call 40; refine cT.out.mono ?_; rintro e w2 ⟨rfl, hr2, hf2⟩)
        | (at_builtin; refine wpList_app _ bytesT rfl (.const (.slice none 0 0)) (.tmp 8) rfl w2.heap.size _ 0 [] rfl (World.ownsRow_nil _ _ _ _) none 0 0 [] rfl (Rd.nil _ _) (by omega) (Nat.le_refl _) ?_; intro v3 w3 ho3 hb3; rw [Nat.zero_add, List.nil_append] at ho3))
      obtain ⟨A3, c3, rfl, hn3, _, hr3⟩ := Rd.of_own ho3 rfl
      go_ret
      exact ⟨A3, 0, c3, rfl, hr3, fun b o e h0 => absurd h0 (Nat.lt_irrefl 0), hn3, hr2.below hb3, hf2.trans (Fr.ofBelow _ hb3)⟩
    · have e1 : rdBytes k (l, false) = (l.take k, (l.drop k, false)) := by simp [rdBytes, hs]
      unfold GotB
      rw [e1]
      by_cases hk0 : k = 0
      · subst hk0
        have cT := Lib.hid (take_zero l h)
        clear h e1
        go_enter Try.func35, Try.ntmps35
        go_wp2_with (first
          | (go_at_call 40; refine cT.out.mono ?_; rintro e w2 ⟨A2, rfl, hr2, hf2⟩)
          | (at_builtin; refine wpList_app _ bytesT rfl (.const (.slice none 0 0)) (.tmp 8) rfl w2.heap.size _ 0 [] rfl (World.ownsRow_nil _ _ _ _) A2 0 0 [] rfl (Rd.nil _ _) (by omega) (Nat.le_refl _) ?_; intro v3 w3 ho3 hb3; rw [Nat.zero_add, List.nil_append] at ho3))
        obtain ⟨A3, c3, rfl, hn3, _, hr3⟩ := Rd.of_own ho3 rfl
        go_ret
        exact ⟨A3, 0, c3, rfl, hr3, fun b o e h0 => absurd h0 (Nat.lt_irrefl 0), hn3, hr2.below hb3, hf2.trans (Fr.ofBelow _ hb3)⟩
      · have cT := Lib.hid (take_yes l h k (by omega) (by omega) (by omega))
        clear h e1
        go_enter Try.func35, Try.ntmps35
        go_wp2_with (first
          | (go_at_call 40; refine cT.out.mono ?_; rintro e w2 ⟨A2, rfl, hR2, hr2, hf2⟩)
          | (at_builtin; refine wpList_app _ bytesT rfl (.const (.slice none 0 0)) (.tmp 8) rfl w2.heap.size _ 0 [] rfl (World.ownsRow_nil _ _ _ _) A2 k k _ rfl hR2 (by omega) (Nat.le_refl _) ?_; intro v3 w3 ho3 hb3; rw [Nat.zero_add, List.nil_append] at ho3))
        obtain ⟨A3, c3, rfl, hn3, _, hr3⟩ := Rd.of_own ho3 rfl
        have hlo := own_lo ho3 rfl
        go_ret
        exact ⟨A3, k, c3, rfl, hr3, fun b o e h0 => Nat.le_trans hf2.size (hlo b o e), hn3, hr2.below hb3, hf2.trans (Fr.ofBelow _ hb3)⟩
  · have e1 : rdBytes k (l, true) = ([], (l, true)) := by simp [rdBytes]
    unfold GotB
    rw [e1]
    have H := Lib.hid h
    have cT := Lib.hid (take_off l h k)
    clear h e1
    go_enter Try.func35, Try.ntmps35
    go_wp2_with (first
      | (go_at_call 40; refine cT.out.mono ?_; rintro e w' ⟨rfl, rfl⟩)
      | (at_builtin; refine wpList_app _ bytesT rfl (.const (.slice none 0 0)) (.tmp 8) rfl w.heap.size _ 0 [] rfl (World.ownsRow_nil _ _ _ _) none 0 0 [] rfl (Rd.nil _ _) (by omega) (Nat.le_refl _) ?_; intro v3 w3 ho3 hb3; rw [Nat.zero_add, List.nil_append] at ho3))
    obtain ⟨A3, c3, rfl, hn3, _, hr3⟩ := Rd.of_own ho3 rfl
    go_ret
    exact ⟨A3, 0, c3, rfl, hr3, fun b o e h0 => absurd h0 (Nat.lt_irrefl 0), hn3, H.out.below hb3, Fr.ofBelow _ hb3⟩
end
end Go.Proofs.Ytieinkndcbobfaa
