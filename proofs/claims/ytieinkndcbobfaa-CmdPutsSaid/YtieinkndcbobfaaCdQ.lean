/- Commands as bytes, there and back: plain. -/
import Derived.Test.YtieinkndcbobfaaCdP
import Derived.Test.YtieinkndcbobfaaNumB
import Derived.Test.YtieinkndcbobfaaCdO
import Derived.Test.YtieinkndcbobfaaCdG
namespace Go.Proofs.Ytieinkndcbobfaa
open Go.RowKit
set_option linter.unusedVariables false

theorem td (l : List UInt8) (i j : Nat) (h : i + j ≤ 92) : ((l.take 92).drop i).take j = (l.drop i).take j := by
  rw [List.drop_take, List.take_take, Nat.min_eq_left (by omega)]
/-- What lies behind 92 bytes is none of a command's. -/
theorem getCd_take (l : List UInt8) : getCd (l.take 92) = getCd l := by
  by_cases h : l.length ≤ 92
  · rw [List.take_of_length_le h]
  have hl : (l.take 92).length = 92 := by simp; omega
  have h0 := take_getD l 92 0 (by decide)
  have h1 := take_getD l 92 1 (by decide)
  have t2 := td l 2 8 (by decide)
  have t10 := td l 10 8 (by decide)
  unfold getCd
  rw [h0, h1, hl, t2, t10]
  obtain ⟨e0, he0⟩ : ∃ e0, e0 = if (l.getD 1 0).toNat = 1 then 10 else 18 := ⟨_, rfl⟩
  have hb : e0 ≤ 18 := by rw [he0]; split <;> omega
  simp only [← he0]
  have t3 := td l e0 8 (by omega)
  have t4 := td l (e0 + 8) 2 (by omega)
  rw [t3, t4]
  obtain ⟨m, hm⟩ : ∃ m, m = leN ((l.drop (e0 + 8)).take 2) := ⟨_, rfl⟩
  have f1 : (92 = 0) = False := eq_false (by decide)
  have f2 : (l.length = 0) = False := eq_false (by omega)
  have f3 : (92 = 1) = False := eq_false (by decide)
  have f4 : (l.length = 1) = False := eq_false (by omega)
  have f5 : (92 < e0) = False := eq_false (by omega)
  have f6 : (l.length < e0) = False := eq_false (by omega)
  have f7 : (92 < e0 + 8) = False := eq_false (by omega)
  have f8 : (l.length < e0 + 8) = False := eq_false (by omega)
  have f9 : (92 < e0 + 10) = False := eq_false (by omega)
  have f10 : (l.length < e0 + 10) = False := eq_false (by omega)
  simp only [← hm, f1, f2, f3, f4, f5, f6, f7, f8, f9, f10, if_false]
  by_cases h64 : 64 < m
  · simp only [if_pos h64]
  · have t5 := td l (e0 + 10) m (by omega)
    have f11 : (92 < e0 + 10 + m) = False := eq_false (by omega)
    have f12 : (l.length < e0 + 10 + m) = False := eq_false (by omega)
    simp only [if_neg h64, f11, f12, if_false, t5]

theorem numB_0 (d : Nat) (h : d ≤ 255) : numB 1 (d : Int) = [UInt8.ofNat d] := by
  simp only [numB, List.range_succ, List.range_zero, List.nil_append, List.map_cons, List.map_nil, byteOf, Nat.mul_zero, Int.pow_zero, Int.ediv_one, List.cons.injEq, and_true]
  congr 1
  omega
theorem leN_numB2 (n : Nat) (h : n ≤ 65535) : leN (numB 2 (n : Int)) = n := by
  have := leN_numB 2 (n : Int)
  rw [Int.emod_eq_of_lt (by omega) (by omega)] at this
  exact Int.ofNat.inj this
theorem dl {α : Type} {l m : List α} {n : Nat} (h : l.length = n) (k : Nat) : (l ++ m).drop (n + k) = m.drop k := by
  rw [← h, List.drop_append, Nat.add_sub_cancel_left, List.drop_of_length_le (by omega), List.nil_append]
theorem tl {α : Type} {l m : List α} {n : Nat} (h : l.length = n) : (l ++ m).take n = l := List.take_left' h

/-- P13.4: what is put is got again. -/
theorem getCd_put (x : Cd) (hd : 0 ≤ x.d ∧ x.d ≤ 3) (hl : x.dt.length ≤ 64) (hw : x.wf) : getCd x.bytes = (x.plain, x.bytes.length, 0) := by
  obtain ⟨d, lc, ix, gn, cp, dt⟩ := x
  obtain ⟨w1, w2, w3⟩ := hw
  simp only at hd hl w1 w2 w3
  have v1 := getV_numB8 w1
  have v2 := getV_numB8 w2
  have v3 := getV_numB8 w3
  have lm := leN_numB2 dt.length (by omega)
  have L8 : ∀ y, (numB 8 y).length = 8 := numB_length 8
  have L2 : ∀ y, (numB 2 y).length = 2 := numB_length 2
  have b0 : numB 1 0 = [0] := by decide
  have b1 : numB 1 1 = [1] := by decide
  have b2 : numB 1 2 = [2] := by decide
  have b3 : numB 1 3 = [3] := by decide
  rcases cd_cases d with rfl | rfl | rfl | rfl | h
  · rfl
  · cases lc
    · have e : (Cd.mk 1 false ix gn cp dt).bytes = 1 :: 0 :: (numB 8 ix ++ numB 8 gn) := by simp [Cd.bytes, Cd.tgt, b0, b1]
      have p : (Cd.mk 1 false ix gn cp dt).plain = ⟨1, false, ix, gn, 0, []⟩ := rfl
      have d1 : (numB 8 ix ++ numB 8 gn).drop 8 = numB 8 gn := List.drop_left' (L8 _)
      rw [e, p]
      simp [getCd, d1, tl (L8 _), v1, v2, List.take_of_length_le (Nat.le_of_eq (L8 _))]
    · have e : (Cd.mk 1 true ix gn cp dt).bytes = 1 :: 1 :: numB 8 ix := by simp [Cd.bytes, Cd.tgt, b1]
      have p : (Cd.mk 1 true ix gn cp dt).plain = ⟨1, true, ix, 0, 0, []⟩ := rfl
      rw [e, p]
      simp [getCd, v1, List.take_of_length_le (Nat.le_of_eq (L8 _))]
  · cases lc
    · have e : (Cd.mk 2 false ix gn cp dt).bytes = 2 :: 0 :: (numB 8 ix ++ (numB 8 gn ++ (numB 8 cp ++ (numB 2 dt.length ++ dt)))) := by simp [Cd.bytes, Cd.tgt, b0, b2]
      have p : (Cd.mk 2 false ix gn cp dt).plain = ⟨2, false, ix, gn, cp, dt⟩ := rfl
      have d1 : (numB 8 ix ++ (numB 8 gn ++ (numB 8 cp ++ (numB 2 dt.length ++ dt)))).drop 8 = numB 8 gn ++ (numB 8 cp ++ (numB 2 dt.length ++ dt)) := List.drop_left' (L8 _)
      have d2 : (numB 8 ix ++ (numB 8 gn ++ (numB 8 cp ++ (numB 2 dt.length ++ dt)))).drop 16 = numB 8 cp ++ (numB 2 dt.length ++ dt) := by rw [dl (L8 _) 8]; exact List.drop_left' (L8 _)
      have d3 : (numB 8 ix ++ (numB 8 gn ++ (numB 8 cp ++ (numB 2 dt.length ++ dt)))).drop 24 = numB 2 dt.length ++ dt := by rw [dl (L8 _) 16, dl (L8 _) 8]; exact List.drop_left' (L8 _)
      have d4 : (numB 8 ix ++ (numB 8 gn ++ (numB 8 cp ++ (numB 2 dt.length ++ dt)))).drop 26 = dt := by rw [dl (L8 _) 18, dl (L8 _) 10, dl (L8 _) 2]; exact List.drop_left' (L2 _)
      rw [e, p]
      simp [getCd, d1, d2, d3, d4, tl (L8 _), tl (L2 _), v1, v2, v3, lm]
      rw [if_neg (by omega), if_neg (by omega), if_neg (by omega)]
      simp only [Prod.mk.injEq, and_true, true_and]
      omega
    · have e : (Cd.mk 2 true ix gn cp dt).bytes = 2 :: 1 :: (numB 8 ix ++ (numB 8 cp ++ (numB 2 dt.length ++ dt))) := by simp [Cd.bytes, Cd.tgt, b1, b2]
      have p : (Cd.mk 2 true ix gn cp dt).plain = ⟨2, true, ix, 0, cp, dt⟩ := rfl
      have d2 : (numB 8 ix ++ (numB 8 cp ++ (numB 2 dt.length ++ dt))).drop 8 = numB 8 cp ++ (numB 2 dt.length ++ dt) := List.drop_left' (L8 _)
      have d3 : (numB 8 ix ++ (numB 8 cp ++ (numB 2 dt.length ++ dt))).drop 16 = numB 2 dt.length ++ dt := by rw [dl (L8 _) 8]; exact List.drop_left' (L8 _)
      have d4 : (numB 8 ix ++ (numB 8 cp ++ (numB 2 dt.length ++ dt))).drop 18 = dt := by rw [dl (L8 _) 10, dl (L8 _) 2]; exact List.drop_left' (L2 _)
      rw [e, p]
      simp [getCd, d2, d3, d4, tl (L8 _), tl (L2 _), v1, v3, lm]
      rw [if_neg (by omega), if_neg (by omega), if_neg (by omega)]
      simp only [Prod.mk.injEq, and_true, true_and]
      omega
  · cases lc
    · have e : (Cd.mk 3 false ix gn cp dt).bytes = 3 :: 0 :: (numB 8 ix ++ (numB 8 gn ++ numB 8 cp)) := by simp [Cd.bytes, Cd.tgt, b0, b3]
      have p : (Cd.mk 3 false ix gn cp dt).plain = ⟨3, false, ix, gn, cp, []⟩ := rfl
      have d1 : (numB 8 ix ++ (numB 8 gn ++ numB 8 cp)).drop 8 = numB 8 gn ++ numB 8 cp := List.drop_left' (L8 _)
      have d2 : (numB 8 ix ++ (numB 8 gn ++ numB 8 cp)).drop 16 = numB 8 cp := by rw [dl (L8 _) 8]; exact List.drop_left' (L8 _)
      rw [e, p]
      simp [getCd, d1, d2, tl (L8 _), v1, v2, v3, List.take_of_length_le (Nat.le_of_eq (L8 _))]
    · have e : (Cd.mk 3 true ix gn cp dt).bytes = 3 :: 1 :: (numB 8 ix ++ numB 8 cp) := by simp [Cd.bytes, Cd.tgt, b1, b3]
      have p : (Cd.mk 3 true ix gn cp dt).plain = ⟨3, true, ix, 0, cp, []⟩ := rfl
      have d2 : (numB 8 ix ++ numB 8 cp).drop 8 = numB 8 cp := List.drop_left' (L8 _)
      rw [e, p]
      simp [getCd, d2, tl (L8 _), v1, v3, List.take_of_length_le (Nat.le_of_eq (L8 _))]
  · omega
theorem two_back (l : List UInt8) (h : 2 ≤ l.length) : l = [l.getD 0 0, l.getD 1 0] ++ l.drop 2 := by
  match l, h with
  | a :: b :: t, _ => rfl
theorem split_at (l : List UInt8) (i j : Nat) (h : i + j ≤ l.length) : l.drop i = (l.drop i).take j ++ l.drop (i + j) := by
  conv => lhs; rw [← List.take_append_drop j (l.drop i), List.drop_drop]
theorem len_at (l : List UInt8) (i j : Nat) (h : i + j ≤ l.length) : ((l.drop i).take j).length = j := by simp; omega
theorem byte_eq {b : UInt8} {n : Nat} (h : b.toNat = n) : b = UInt8.ofNat n := by
  subst h
  simp
/-- P13.4: bytes that are got are those that are put. -/
theorem getCd_back (l : List UInt8) (h : (getCd l).2.2 = 0) : (getCd l).1.bytes ++ l.drop (getCd l).2.1 = l ∧ (getCd l).2.1 ≤ l.length ∧ (getCd l).1.dt.length ≤ 64 := by
  have b0 : numB 1 0 = [0] := by decide
  have b1 : numB 1 1 = [1] := by decide
  have b2 : numB 1 2 = [2] := by decide
  have b3 : numB 1 3 = [3] := by decide
  unfold getCd at h ⊢
  by_cases h0 : l.length = 0
  · rw [if_pos h0] at h; exact absurd h (by decide)
  rw [if_neg h0] at h ⊢
  by_cases h3 : 3 < (l.getD 0 0).toNat
  · rw [if_pos h3] at h; exact absurd h (by decide)
  rw [if_neg h3] at h ⊢
  by_cases hz : (l.getD 0 0).toNat = 0
  · rw [if_pos hz] at h ⊢
    refine ⟨?_, by show 1 ≤ l.length; omega, by simp⟩
    match l, h0 with
    | a :: t, _ =>
      have : a = 0 := byte_eq hz
      subst this
      rfl
  rw [if_neg hz] at h ⊢
  by_cases h1 : l.length = 1
  · rw [if_pos h1] at h; exact absurd h (by decide)
  rw [if_neg h1] at h ⊢
  by_cases hb : 1 < (l.getD 1 0).toNat
  · rw [if_pos hb] at h; exact absurd h (by decide)
  rw [if_neg hb] at h ⊢
  have hl2 := two_back l (by omega)
  obtain ⟨d, hd⟩ : ∃ d, d = (l.getD 0 0).toNat := ⟨_, rfl⟩
  obtain ⟨b, hbb⟩ : ∃ b, b = (l.getD 1 0).toNat := ⟨_, rfl⟩
  rw [byte_eq hd.symm, byte_eq hbb.symm] at hl2
  rw [← hd] at hz h3
  rw [← hbb] at hb
  simp only [← hd, ← hbb] at h ⊢
  clear hd hbb
  -- the target
  obtain ⟨e0, he0⟩ : ∃ e0, e0 = if b = 1 then 10 else 18 := ⟨_, rfl⟩
  simp only [← he0] at h ⊢
  have htgt : ∀ dd cp dt, e0 ≤ l.length → [UInt8.ofNat b] ++ l.drop 2 = (Cd.mk dd (decide (b = 1)) (getV ((l.drop 2).take 8)) (if b = 1 then 0 else getV ((l.drop 10).take 8)) cp dt).tgt ++ l.drop e0 := by
    intro dd cp dt he
    by_cases hb1 : b = 1
    · subst hb1
      rw [if_pos rfl] at he0
      subst he0
      have s2 := split_at l 2 8 (by omega)
      simp only [Cd.tgt, decide_true, if_true, b1]
      rw [numB8_getV (len_at l 2 8 (by omega)), List.append_assoc, ← s2]
      rfl
    · have hb0 : b = 0 := by omega
      subst hb0
      rw [if_neg hb1] at he0
      subst he0
      have s2 := split_at l 2 8 (by omega)
      have s10 := split_at l 10 8 (by omega)
      simp only [Cd.tgt, hb1, decide_false, if_false, b0, Bool.false_eq_true]
      rw [numB8_getV (len_at l 2 8 (by omega)), numB8_getV (len_at l 10 8 (by omega)), List.append_assoc, ← s10, List.append_assoc, ← s2]
      rfl
  by_cases hd1 : d = 1
  · subst hd1
    rw [if_pos rfl] at h ⊢
    by_cases hs : l.length < e0
    · rw [if_pos hs] at h; exact absurd h (by decide)
    rw [if_neg hs] at h ⊢
    refine ⟨?_, by show e0 ≤ l.length; omega, by simp⟩
    simp only [Cd.bytes, show ¬ (1 : Int) = 0 by decide, if_false, if_true, b1]
    rw [List.append_assoc, ← htgt 1 0 [] (by omega)]
    exact hl2.symm
  rw [if_neg hd1] at h ⊢
  by_cases hd3 : d = 3
  · subst hd3
    rw [if_pos rfl] at h ⊢
    by_cases hs : l.length < e0 + 8
    · rw [if_pos hs] at h; exact absurd h (by decide)
    rw [if_neg hs] at h ⊢
    refine ⟨?_, by show e0 + 8 ≤ l.length; omega, by simp⟩
    have s := split_at l e0 8 (by omega)
    simp only [Cd.bytes, show ¬ (3 : Int) = 0 by decide, show ¬ (3 : Int) = 1 by decide, show ¬ (3 : Int) = 2 by decide, if_false, if_true, b3]
    rw [numB8_getV (len_at l e0 8 (by omega)), List.append_assoc, ← s, List.append_assoc, ← htgt 3 (getV ((l.drop e0).take 8)) [] (by omega)]
    exact hl2.symm
  rw [if_neg hd3] at h ⊢
  have hd2 : d = 2 := by omega
  subst hd2
  by_cases hs : l.length < e0 + 10
  · rw [if_pos hs] at h; exact absurd h (by decide)
  rw [if_neg hs] at h ⊢
  obtain ⟨m, hm⟩ : ∃ m, m = leN ((l.drop (e0 + 8)).take 2) := ⟨_, rfl⟩
  simp only [← hm] at h ⊢
  by_cases h64 : 64 < m
  · rw [if_pos h64] at h; exact absurd h (by decide)
  rw [if_neg h64] at h ⊢
  by_cases hs2 : l.length < e0 + 10 + m
  · rw [if_pos hs2] at h; exact absurd h (by decide)
  rw [if_neg hs2] at h ⊢
  have hdl : ((l.drop (e0 + 10)).take m).length = m := len_at l (e0 + 10) m (by omega)
  refine ⟨?_, by show e0 + 10 + m ≤ l.length; omega, by show ((l.drop (e0 + 10)).take m).length ≤ 64; omega⟩
  have s1 := split_at l e0 8 (by omega)
  have s2 := split_at l (e0 + 8) 2 (by omega)
  have s3 := split_at l (e0 + 10) m (by omega)
  have e2 : numB 2 (m : Int) = (l.drop (e0 + 8)).take 2 := by
    have q := numB_leN ((l.drop (e0 + 8)).take 2)
    rw [len_at l (e0 + 8) 2 (by omega), ← hm] at q
    exact q
  simp only [Cd.bytes, show ¬ (2 : Int) = 0 by decide, show ¬ (2 : Int) = 1 by decide, if_false, if_true, b2]
  rw [numB8_getV (len_at l e0 8 (by omega)), hdl, e2]
  have e3 : (l.drop (e0 + 10)).take m ++ l.drop (e0 + 10 + m) = l.drop (e0 + 10) := s3.symm
  rw [List.append_assoc, e3, List.append_assoc, show e0 + 10 = e0 + 8 + 2 from rfl, ← s2, List.append_assoc, ← s1, List.append_assoc, ← htgt 2 (getV ((l.drop e0).take 8)) ((l.drop (e0 + 10)).take m) (by omega)]
  exact hl2.symm
end Go.Proofs.Ytieinkndcbobfaa
