/- The contract of the reference's Get, whole (written by gen_cdu.py). -/
import Derived.Test.YtieinkndcbobfaaCdT1
import Derived.Test.YtieinkndcbobfaaCdT3
import Derived.Test.YtieinkndcbobfaaCdT2f
import Derived.Test.YtieinkndcbobfaaCdT2g
import Derived.Test.YtieinkndcbobfaaCdT2t
import Derived.Test.YtieinkndcbobfaaCdT2u
import Derived.Test.YtieinkndcbobfaaCdT2v
namespace Go.Proofs.Ytieinkndcbobfaa
open Go.RowKit
set_option linter.unusedVariables false
set_option maxRecDepth 20000

theorem gv_in {L : List UInt8} {x k : Nat} (h : x + k ≤ L.length) : gv L x k = getV ((L.drop x).take k) := by unfold gv; rw [if_pos h]
theorem RGetC_any (A : Option Addr) (n c : Nat) (l : List UInt8) (w : World) (a : Int) (hr : Rd w A n l) (hn : n ≤ 1000) (hnc : n ≤ c) : Calls Try.prog 17 #[.slice A n c, .int .i64 a] w (GetE w (getAt l a)) := by
  have hl := hr.1
  by_cases ha : a < 0 ∨ (n : Int) < a
  · have e : getAt l a = (Cd.zero, 0, 2) := by unfold getAt; rw [if_pos (by omega)]
    rw [e]
    exact RG_bad n c w A a (by omega) ha
  obtain ⟨k, rfl⟩ : ∃ k : Nat, a = (k : Int) := ⟨a.toNat, by omega⟩
  have e : getAt l k = ((getCd (l.drop k)).1, if (getCd (l.drop k)).2.2 = 0 then (k : Int) + (getCd (l.drop k)).2.1 else 0, (getCd (l.drop k)).2.2) := by unfold getAt; rw [if_neg (by omega), Int.toNat_natCast]
  rw [e]
  have hkn : k ≤ n := by omega
  have hL : (l.drop k).length = n - k := by simp; omega
  by_cases h0 : n = k
  · subst h0
    have g : getCd (l.drop n) = (Cd.zero, 0, 12) := by unfold getCd; rw [if_pos (by omega)]
    rw [g]
    exact RG_none n c w A n rfl (by omega) hnc
  obtain ⟨b, o, rfl, hlt, hcell⟩ := hr.2 (by omega)
  have h0c := hcell k (by omega)
  obtain ⟨d, hd⟩ : ∃ d, d = ((l.drop k).getD 0 0).toNat := ⟨_, rfl⟩
  have hd' : (l[k]'(by omega)).toNat = d := by rw [hd, drop_getD, Nat.add_zero, List.getD_eq_getElem?_getD, List.getElem?_eq_getElem (by omega)]; rfl
  rw [hd'] at h0c
  have hd2 : d < 256 := by rw [hd]; exact UInt8.toNat_lt _
  by_cases h3 : 3 < d
  · have g : getCd (l.drop k) = (Cd.zero, 0, 11) := by unfold getCd; rw [if_neg (by omega), ← hd, if_pos h3]
    rw [g]
    exact RG_do n c l w b o k hr hlt hn hnc d (by omega) h0c h3 hd2
  by_cases hd0 : d = 0
  · have g : getCd (l.drop k) = (⟨0, false, 0, 0, 0, []⟩, 1, 0) := by unfold getCd; rw [if_neg (by omega), ← hd, if_neg h3, if_pos hd0]
    rw [g]
    subst hd0
    exact RG_zero n c l w b o k hr hlt hn hnc (by omega) h0c
  have hd3 : d = 1 ∨ d = 2 ∨ d = 3 := by omega
  by_cases h1 : n = k + 1
  · have g : getCd (l.drop k) = (Cd.zero, 0, 12) := by unfold getCd; rw [if_neg (by omega), ← hd, if_neg h3, if_neg hd0, if_pos (by omega)]
    rw [g]
    rcases hd3 with rfl | rfl | rfl
    · exact RG_one1 n c l w b o k hr hlt hn hnc h1 h0c
    · exact RG_one2 n c l w b o k hr hlt hn hnc h1 h0c
    · exact RG_one3 n c l w b o k hr hlt hn hnc h1 h0c
  have h1c := hcell (k + 1) (by omega)
  obtain ⟨e1, he1⟩ : ∃ e, e = ((l.drop k).getD 1 0).toNat := ⟨_, rfl⟩
  have he' : (l[k + 1]'(by omega)).toNat = e1 := by rw [he1, drop_getD, List.getD_eq_getElem?_getD, List.getElem?_eq_getElem (by omega)]; rfl
  rw [he', ← Nat.add_assoc] at h1c
  have he2 : e1 < 256 := by rw [he1]; exact UInt8.toNat_lt _
  by_cases hb : 1 < e1
  · have g : getCd (l.drop k) = (Cd.zero, 0, 11) := by unfold getCd; rw [if_neg (by omega), ← hd, if_neg h3, if_neg hd0, if_neg (by omega), ← he1, if_pos hb]
    rw [g]
    rcases hd3 with rfl | rfl | rfl
    · exact RG_loc1 n c l w b o k hr hlt hn hnc e1 (by omega) h0c h1c hb he2
    · exact RG_loc2 n c l w b o k hr hlt hn hnc e1 (by omega) h0c h1c hb he2
    · exact RG_loc3 n c l w b o k hr hlt hn hnc e1 (by omega) h0c h1c hb he2
  have hk2 : k + 2 ≤ n := by omega
  -- what getCd tells behind the first two bytes
  have G : getCd (l.drop k) = (let e0 := if e1 = 1 then 10 else 18
      let gn := if e1 = 1 then 0 else getV (((l.drop k).drop 10).take 8)
      if d = 1 then (if (l.drop k).length < e0 then (Cd.zero, 0, 12) else (⟨1, decide (e1 = 1), getV (((l.drop k).drop 2).take 8), gn, 0, []⟩, e0, 0))
      else if d = 3 then (if (l.drop k).length < e0 + 8 then (Cd.zero, 0, 12) else (⟨3, decide (e1 = 1), getV (((l.drop k).drop 2).take 8), gn, getV (((l.drop k).drop e0).take 8), []⟩, e0 + 8, 0))
      else if (l.drop k).length < e0 + 10 then (Cd.zero, 0, 12)
      else if 64 < leN (((l.drop k).drop (e0 + 8)).take 2) then (Cd.zero, 0, 13)
      else if (l.drop k).length < e0 + 10 + leN (((l.drop k).drop (e0 + 8)).take 2) then (Cd.zero, 0, 12)
      else (⟨2, decide (e1 = 1), getV (((l.drop k).drop 2).take 8), gn, getV (((l.drop k).drop e0).take 8), ((l.drop k).drop (e0 + 10)).take (leN (((l.drop k).drop (e0 + 8)).take 2))⟩, e0 + 10 + leN (((l.drop k).drop (e0 + 8)).take 2), 0)) := by
    conv => lhs; unfold getCd
    rw [if_neg (by omega), ← hd, if_neg h3, if_neg hd0, if_neg (by omega), ← he1, if_neg hb]
  obtain ⟨L, hLL⟩ : ∃ L, L = l.drop k := ⟨_, rfl⟩
  rw [← hLL] at G hL ⊢
  have he01 : e1 = 0 ∨ e1 = 1 := by omega
  clear hd he1 hd' he' e hl hcell
  rcases he01 with rfl | rfl
  · simp only [show ¬ (0 : Nat) = 1 by decide, if_false, decide_false] at G
    rcases hd3 with rfl | rfl | rfl
    · simp only [if_true] at G
      by_cases hs : n < k + 18
      · rw [if_pos (by omega)] at G
        rw [G]
        exact RG_1f_short n c l w b o k hr hlt hn hnc hk2 h0c h1c hs
      · rw [if_neg (by omega)] at G
        rw [← gv_in (L := L) (x := 2) (k := 8) (by omega), ← gv_in (L := L) (x := 10) (k := 8) (by omega)] at G
        rw [G, hLL]
        exact RG_1f_ok n c l w b o k hr hlt hn hnc hk2 h0c h1c (by omega)
    · simp only [show ¬ (2 : Nat) = 1 by decide, show ¬ (2 : Nat) = 3 by decide, if_false] at G
      by_cases hs : n < k + 28
      · rw [if_pos (by omega)] at G
        rw [G]
        exact RG_2f_none n c l w b o k hr hlt hn hnc hk2 h0c h1c hs
      rw [if_neg (by omega)] at G
      obtain ⟨q, hq⟩ : ∃ q, q = leN ((L.drop 26).take 2) := ⟨_, rfl⟩
      have hgq : gv (l.drop k) 26 2 = (q : Int) := by rw [← hLL, gv_in (by omega), hq]; exact getV2 _ (by simp; omega)
      simp only [← hq] at G
      by_cases h64 : 64 < q
      · rw [if_pos h64] at G
        rw [G]
        exact RG_2f_long n c l w b o k hr hlt hn hnc hk2 h0c h1c (by omega) q hgq h64
      rw [if_neg h64] at G
      by_cases hs2 : n < k + 28 + q
      · rw [if_pos (by omega)] at G
        rw [G]
        exact RG_2f_short n c l w b o k hr hlt hn hnc hk2 h0c h1c (by omega) q hgq (by omega) hs2
      rw [if_neg (by omega)] at G
      rw [← gv_in (L := L) (x := 2) (k := 8) (by omega), ← gv_in (L := L) (x := 10) (k := 8) (by omega), ← gv_in (L := L) (x := 18) (k := 8) (by omega)] at G
      rw [G, hLL]
      by_cases hcap : c = k + 28
      · obtain rfl : q = 0 := by omega
        obtain rfl : n = k + 28 := by omega
        subst hcap
        have hgq0 : gv (l.drop k) 26 2 = 0 := hgq
        simpa using RG_2f_okc l w b o k hr hlt hn h0c h1c hgq0
      · exact RG_2f_ok n c l w b o k hr hlt hn hnc hk2 h0c h1c (by omega) q hgq (by omega) (by omega) (by omega)
    · simp only [show ¬ (3 : Nat) = 1 by decide, if_true, if_false] at G
      by_cases hs : n < k + 26
      · rw [if_pos (by omega)] at G
        rw [G]
        exact RG_3f_short n c l w b o k hr hlt hn hnc hk2 h0c h1c hs
      · rw [if_neg (by omega)] at G
        rw [← gv_in (L := L) (x := 2) (k := 8) (by omega), ← gv_in (L := L) (x := 10) (k := 8) (by omega), ← gv_in (L := L) (x := 18) (k := 8) (by omega)] at G
        rw [G, hLL]
        exact RG_3f_ok n c l w b o k hr hlt hn hnc hk2 h0c h1c (by omega)
  · simp only [if_true, decide_true] at G
    rcases hd3 with rfl | rfl | rfl
    · simp only [if_true] at G
      by_cases hs : n < k + 10
      · rw [if_pos (by omega)] at G
        rw [G]
        exact RG_1t_short n c l w b o k hr hlt hn hnc hk2 h0c h1c hs
      · rw [if_neg (by omega)] at G
        rw [← gv_in (L := L) (x := 2) (k := 8) (by omega)] at G
        rw [G, hLL]
        exact RG_1t_ok n c l w b o k hr hlt hn hnc hk2 h0c h1c (by omega)
    · simp only [show ¬ (2 : Nat) = 1 by decide, show ¬ (2 : Nat) = 3 by decide, if_false] at G
      by_cases hs : n < k + 20
      · rw [if_pos (by omega)] at G
        rw [G]
        exact RG_2t_none n c l w b o k hr hlt hn hnc hk2 h0c h1c hs
      rw [if_neg (by omega)] at G
      obtain ⟨q, hq⟩ : ∃ q, q = leN ((L.drop 18).take 2) := ⟨_, rfl⟩
      have hgq : gv (l.drop k) 18 2 = (q : Int) := by rw [← hLL, gv_in (by omega), hq]; exact getV2 _ (by simp; omega)
      simp only [← hq] at G
      by_cases h64 : 64 < q
      · rw [if_pos h64] at G
        rw [G]
        exact RG_2t_long n c l w b o k hr hlt hn hnc hk2 h0c h1c (by omega) q hgq h64
      rw [if_neg h64] at G
      by_cases hs2 : n < k + 20 + q
      · rw [if_pos (by omega)] at G
        rw [G]
        exact RG_2t_short n c l w b o k hr hlt hn hnc hk2 h0c h1c (by omega) q hgq (by omega) hs2
      rw [if_neg (by omega)] at G
      rw [← gv_in (L := L) (x := 2) (k := 8) (by omega), ← gv_in (L := L) (x := 10) (k := 8) (by omega)] at G
      rw [G, hLL]
      by_cases hcap : c = k + 20
      · obtain rfl : q = 0 := by omega
        obtain rfl : n = k + 20 := by omega
        subst hcap
        have hgq0 : gv (l.drop k) 18 2 = 0 := hgq
        simpa using RG_2t_okc l w b o k hr hlt hn h0c h1c hgq0
      · exact RG_2t_ok n c l w b o k hr hlt hn hnc hk2 h0c h1c (by omega) q hgq (by omega) (by omega) (by omega)
    · simp only [show ¬ (3 : Nat) = 1 by decide, if_true, if_false] at G
      by_cases hs : n < k + 18
      · rw [if_pos (by omega)] at G
        rw [G]
        exact RG_3t_short n c l w b o k hr hlt hn hnc hk2 h0c h1c hs
      · rw [if_neg (by omega)] at G
        rw [← gv_in (L := L) (x := 2) (k := 8) (by omega), ← gv_in (L := L) (x := 10) (k := 8) (by omega)] at G
        rw [G, hLL]
        exact RG_3t_ok n c l w b o k hr hlt hn hnc hk2 h0c h1c (by omega)
end Go.Proofs.Ytieinkndcbobfaa
