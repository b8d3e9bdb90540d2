/- What bytes are read as, and what layouts are put as: there and back; plain mathematics. -/
import Derived.Test.YtdaenkfkiijlkaaCmR4
import Derived.Test.YtdaenkfkiijlkaaCmB
namespace Go.Proofs.Ytdaenkfkiijlkaa

theorem rdNum_off {k : Nat} {st : RS} (h : st.2 = true) : rdNum k st = (0, st) := by unfold rdNum; rw [if_pos h]
theorem rdNum_short {k : Nat} {l : List UInt8} (h : l.length < k) : rdNum k (l, false) = (0, (l, true)) := by simp [rdNum, h]
theorem rdNum_yes {k : Nat} {l : List UInt8} (h : k ≤ l.length) : rdNum k (l, false) = (getV (l.take k), (l.drop k, false)) := by
  have : ¬ l.length < k := by omega
  simp [rdNum, this]
theorem rdText_off {st : RS} (h : st.2 = true) : rdText st = (.empty, st) := by unfold rdText; rw [if_pos h]
theorem rdText_short {l : List UInt8} (h : l.length < 2 + lenT l) : rdText (l, false) = (.empty, (l, true)) := by simp [rdText, h]
theorem rdText_yes {l : List UInt8} (h : 2 + lenT l ≤ l.length) : rdText (l, false) = (str ((l.drop 2).take (lenT l)), (l.drop (2 + lenT l), false)) := by
  have : ¬ l.length < 2 + lenT l := by omega
  simp [rdText, this]
theorem rdNum_miss {k : Nat} {st : RS} (h : st.2 = true) : (rdNum k st).2.2 = true := by rw [rdNum_off h]; exact h
theorem rdText_miss {st : RS} (h : st.2 = true) : (rdText st).2.2 = true := by rw [rdText_off h]; exact h
theorem rdKs_miss {st : RS} (h : st.2 = true) : ∀ n, (rdKs n st).2.2 = true
  | 0 => h
  | n + 1 => rdNum_miss (rdText_miss (rdKs_miss h n))
theorem rdKs_more {st : RS} {i : Nat} (h : (rdKs i st).2.2 = true) : ∀ d, (rdKs (i + d) st).2.2 = true
  | 0 => h
  | d + 1 => rdNum_miss (rdText_miss (rdKs_more h d))
/-- Fewer bytes than a layout's numbers take. -/
theorem rdConf_miss {l : List UInt8} (h : l.length < 17) : (rdConf (l, false)).2.2 = true := by
  show (rdKs _ (rdNum 1 (rdNum 4 (rdNum 4 (rdNum 4 (rdNum 4 (l, false)).2).2).2).2).2).2.2 = true
  refine rdKs_miss ?_ _
  by_cases h1 : l.length < 4
  · rw [rdNum_short h1]
    exact rdNum_miss (rdNum_miss (rdNum_miss (rdNum_miss rfl)))
  rw [rdNum_yes (k := 4) (by omega)]
  by_cases h2 : (l.drop 4).length < 4
  · rw [rdNum_short h2]
    exact rdNum_miss (rdNum_miss (rdNum_miss rfl))
  rw [rdNum_yes (k := 4) (by omega)]
  by_cases h3 : ((l.drop 4).drop 4).length < 4
  · rw [rdNum_short h3]
    exact rdNum_miss (rdNum_miss rfl)
  rw [rdNum_yes (k := 4) (by omega)]
  by_cases h4 : (((l.drop 4).drop 4).drop 4).length < 4
  · rw [rdNum_short h4]
    exact rdNum_miss rfl
  rw [rdNum_yes (k := 4) (by omega)]
  rw [rdNum_short (by simp at h1 h2 h3 h4 ⊢; omega)]
/-- A layout's numbers, where they are there. -/
theorem rdConf_head {l : List UInt8} (h : 17 ≤ l.length) : rdConf (l, false) = (⟨getV (l.take 4), getV ((l.drop 4).take 4), getV ((l.drop 8).take 4), getV ((l.drop 12).take 4), (rdKs (getV ((l.drop 16).take 1)).toNat (l.drop 17, false)).1⟩, (rdKs (getV ((l.drop 16).take 1)).toNat (l.drop 17, false)).2) := by
  have e1 := rdNum_yes (k := 4) (l := l) (by omega)
  have e2 := rdNum_yes (k := 4) (l := l.drop 4) (by simp; omega)
  have e3 := rdNum_yes (k := 4) (l := l.drop 8) (by simp; omega)
  have e4 := rdNum_yes (k := 4) (l := l.drop 12) (by simp; omega)
  have e5 := rdNum_yes (k := 1) (l := l.drop 16) (by simp; omega)
  rw [List.drop_drop] at e2 e3 e4 e5
  unfold rdConf
  simp only [e1, e2, e3, e4, e5]
/-- One component more, where it is there. -/
theorem rdK_yes {l : List UInt8} (h : lenT l + 3 ≤ l.length) :
    (rdText (l, false)).1 = str ((l.drop 2).take (lenT l)) ∧ (rdNum 1 (rdText (l, false)).2).1 = getV ((l.drop (2 + lenT l)).take 1) ∧ (rdNum 1 (rdText (l, false)).2).2 = (l.drop (3 + lenT l), false) := by
  have e1 := rdText_yes (l := l) (by omega)
  have e2 := rdNum_yes (k := 1) (l := l.drop (2 + lenT l)) (by simp; omega)
  rw [List.drop_drop, show 2 + lenT l + 1 = 3 + lenT l by omega] at e2
  rw [e1]
  simp only [e2, and_self]
theorem rdK_miss {l : List UInt8} (h : l.length < 2 ∨ l.length < lenT l + 3) : (rdNum 1 (rdText (l, false)).2).2.2 = true := by
  by_cases h1 : l.length < 2 + lenT l
  · rw [rdText_short h1]
    exact rdNum_miss rfl
  · rw [rdText_yes (by omega), rdNum_short (by simp; omega)]

/-! ### there and back -/
theorem numB_leN (b : List UInt8) : numB b.length (leN b : Nat) = b := by
  apply List.ext_getElem
  · simp
  · intro i h1 h2
    have hb : (numB b.length (leN b : Nat))[i] = byteOf (leN b : Nat) i := by simp [numB]
    rw [hb]
    apply UInt8.toNat_inj.1
    have e := byteOf_toNat (leN b : Nat) i
    have hs : leN b = leN (b.take i) + 2 ^ (8 * i) * leN (b.drop i) := by
      have := leN_append (b.take i) (b.drop i)
      rw [List.take_append_drop, List.length_take, Nat.min_eq_left (Nat.le_of_lt h2)] at this
      exact this
    have hlt : leN (b.take i) < 2 ^ (8 * i) := by
      have := leN_lt (b.take i)
      rwa [List.length_take, Nat.min_eq_left (Nat.le_of_lt h2)] at this
    have hd := leN_drop b i h2
    have hdiv : leN b / 2 ^ (8 * i) = leN (b.drop i) := by
      rw [hs, Nat.add_mul_div_left _ _ (Nat.pow_pos (by decide)), Nat.div_eq_of_lt hlt, Nat.zero_add]
    have h256 := b[i].toNat_lt
    have e2 : ((leN b : Nat) : Int) / 2 ^ (8 * i) % 256 = ((leN b / 2 ^ (8 * i) % 256 : Nat) : Int) := by simp
    rw [e2, hdiv, hd] at e
    omega
theorem numB_getV {b : List UInt8} {k : Nat} (h : b.length = k) (hk : k ≤ 7) : numB k (getV b) = b := by
  have h1 := leN_lt b
  have h2 : 2 ^ (8 * b.length) ≤ 2 ^ 56 := Nat.pow_le_pow_right (by decide) (by omega)
  rw [getV_in _ (by omega), ← h]
  exact numB_leN b
theorem getV_numB {x : Int} {k : Nat} (hk : k ≤ 7) (h0 : 0 ≤ x) (hx : x < 2 ^ (8 * k)) : getV (numB k x) = x := by
  have h1 := leN_lt (numB k x)
  rw [numB_length] at h1
  have h2 : 2 ^ (8 * k) ≤ 2 ^ 56 := Nat.pow_le_pow_right (by decide) (by omega)
  rw [getV_in _ (by omega), leN_numB, Int.emod_eq_of_lt h0 hx]
theorem rdNum_put {x : Int} {k : Nat} (hk : k ≤ 7) (h0 : 0 ≤ x) (hx : x < 2 ^ (8 * k)) (t : List UInt8) : rdNum k (numB k x ++ t, false) = (x, (t, false)) := by
  rw [rdNum_yes (by simp), List.take_left' (numB_length k x), List.drop_left' (numB_length k x), getV_numB hk h0 hx]
theorem str_data (s : ByteArray) : str s.data.toList = s := by
  unfold str
  simp
theorem rdText_put (s : ByteArray) (hs : s.size ≤ 65535) (t : List UInt8) : rdText (numB 2 s.size ++ s.data.toList ++ t, false) = (s, (t, false)) := by
  have hl : s.data.toList.length = s.size := by simp
  have hg : leN (numB 2 s.size) = s.size := by
    have := leN_numB 2 s.size
    rw [Int.emod_eq_of_lt (by omega) (by omega)] at this
    exact Int.ofNat.inj this
  have e : lenT (numB 2 s.size ++ s.data.toList ++ t) = s.size := by
    unfold lenT
    rw [if_neg (by simp <;> omega), List.append_assoc, List.take_left' (numB_length 2 _), hg]
  have e2 : (numB 2 (s.size : Int) ++ s.data.toList ++ t).drop 2 = s.data.toList ++ t := by rw [List.append_assoc, List.drop_left' (numB_length 2 _)]
  rw [rdText_yes (by rw [e]; simp <;> omega), e, e2, List.take_left' hl, str_data, show 2 + s.size = (numB 2 (s.size : Int) ++ s.data.toList).length by simp <;> omega, List.drop_left' rfl]
theorem rdKs_put (ks : List Kd) (h : ∀ k ∈ ks, k.1.size ≤ 65535 ∧ 0 ≤ k.2 ∧ k.2 < 256) (t : List UInt8) : ∀ j, j ≤ ks.length → rdKs j (rowsB ks ++ t, false) = (ks.take j, (rowsB (ks.drop j) ++ t, false))
  | 0, _ => by simp [rdKs]
  | j + 1, hj => by
    have ih := rdKs_put ks h t j (by omega)
    have hjl : j < ks.length := by omega
    obtain ⟨h1, h2, h3⟩ := h _ (List.getElem_mem hjl)
    have hd : ks.drop j = ks[j] :: ks.drop (j + 1) := List.drop_eq_getElem_cons hjl
    have er : rowsB (ks.drop j) ++ t = numB 2 ks[j].1.size ++ ks[j].1.data.toList ++ (numB 1 ks[j].2 ++ (rowsB (ks.drop (j + 1)) ++ t)) := by
      unfold rowsB
      rw [hd, List.flatMap_cons]
      simp [kdB]
    simp only [rdKs]
    rw [ih, er, rdText_put _ h1, rdNum_put (by omega) h2 (by omega), take_snoc hjl]
theorem Cf.Right.bounds {c : Cf} (h : c.Right) : (2 ≤ c.lg ∧ c.lg ≤ 1024) ∧ (4 ≤ c.pg ∧ c.pg ≤ 1024) ∧ (1 ≤ c.en ∧ c.en ≤ 1024) ∧ (1 ≤ c.gn ∧ c.gn ≤ 1073741824) ∧ c.ks.length ≤ 32 ∧ ∀ k ∈ c.ks, k.1.size ≤ 16 ∧ 0 ≤ k.2 ∧ k.2 ≤ 64 := by
  obtain ⟨⟨a, b, d, e, f⟩, hn, _, hs⟩ := h
  refine ⟨a, b, d, e, f, fun k hk => ?_⟩
  have h1 := hn k hk
  have h2 := hs k hk
  simp only [nameB, Bool.and_eq_true, decide_eq_true_eq] at h1
  exact ⟨h1.1.2, h2⟩
theorem getC_put (lg pg en gn : Int) (ks : List Kd) (h : (Cf.mk lg pg en gn ks).Right) : getC (confB lg pg en gn ks) = (⟨lg, pg, en, gn, ks⟩, 0) := by
  obtain ⟨h1, h2, h3, h4, h5, h6⟩ := h.bounds
  simp only at h1 h2 h3 h4 h5 h6
  have eC : rdConf (confB lg pg en gn ks, false) = (⟨lg, pg, en, gn, ks⟩, ([], false)) := by
    have e0 : confB lg pg en gn ks = numB 4 lg ++ (numB 4 pg ++ (numB 4 en ++ (numB 4 gn ++ (numB 1 ks.length ++ (rowsB ks ++ []))))) := by simp [confB, numsB]
    have eK := rdKs_put ks (fun k hk => by have := h6 k hk; omega) [] ks.length (Nat.le_refl _)
    rw [List.take_length, List.drop_length] at eK
    unfold rdConf
    rw [e0, rdNum_put (by omega) (by omega) (by omega)]
    simp only []
    rw [rdNum_put (by omega) (by omega) (by omega)]
    simp only []
    rw [rdNum_put (by omega) (by omega) (by omega)]
    simp only []
    rw [rdNum_put (by omega) (by omega) (by omega)]
    simp only []
    rw [rdNum_put (by omega) (by omega) (by omega)]
    simp only [Int.toNat_natCast]
    rw [eK]
    rfl
  unfold getC
  rw [eC]
  simp [h]
theorem rdNum_back {k : Nat} {l l2 : List UInt8} {x : Int} (hk : k ≤ 7) (h : rdNum k (l, false) = (x, (l2, false))) : l = numB k x ++ l2 := by
  by_cases hl : l.length < k
  · rw [rdNum_short hl] at h
    simp at h
  · rw [rdNum_yes (by omega)] at h
    simp only [Prod.mk.injEq, and_true] at h
    obtain ⟨rfl, rfl⟩ := h
    rw [numB_getV (by simp; omega) hk, List.take_append_drop]
theorem rdText_back {l l2 : List UInt8} {s : ByteArray} (h : rdText (l, false) = (s, (l2, false))) : l = numB 2 s.size ++ s.data.toList ++ l2 := by
  by_cases hl : l.length < 2 + lenT l
  · rw [rdText_short hl] at h
    simp at h
  · rw [rdText_yes (by omega)] at h
    simp only [Prod.mk.injEq, and_true] at h
    obtain ⟨rfl, rfl⟩ := h
    have h2 : 2 ≤ l.length := by omega
    have e1 : (str ((l.drop 2).take (lenT l))).size = lenT l := by
      show ((l.drop 2).take (lenT l)).length = _
      rw [List.length_take, List.length_drop]
      omega
    have e2 : (str ((l.drop 2).take (lenT l))).data.toList = (l.drop 2).take (lenT l) := rfl
    have e3 : numB 2 (lenT l : Nat) = l.take 2 := by
      have : lenT l = leN (l.take 2) := by unfold lenT; rw [if_neg (by omega)]
      rw [this]
      have e := numB_leN (l.take 2)
      rwa [List.length_take, Nat.min_eq_left h2] at e
    rw [e1, e2, e3, List.append_assoc, show l.drop (2 + lenT l) = (l.drop 2).drop (lenT l) by rw [List.drop_drop], List.take_append_drop, List.take_append_drop]
theorem rdKs_back : ∀ (n : Nat) (l l2 : List UInt8) (ks : List Kd), rdKs n (l, false) = (ks, (l2, false)) → l = rowsB ks ++ l2
  | 0, l, l2, ks, h => by
    simp only [rdKs, Prod.mk.injEq, and_true] at h
    obtain ⟨rfl, rfl⟩ := h
    rfl
  | n + 1, l, l2, ks, h => by
    obtain ⟨ks1, ⟨l1, m1⟩, h1⟩ : ∃ a b, rdKs n (l, false) = (a, b) := ⟨_, _, rfl⟩
    obtain ⟨s, ⟨l3, m3⟩, h3⟩ : ∃ a b, rdText (l1, m1) = (a, b) := ⟨_, _, rfl⟩
    obtain ⟨z, ⟨l4, m4⟩, h4⟩ : ∃ a b, rdNum 1 (l3, m3) = (a, b) := ⟨_, _, rfl⟩
    simp only [rdKs, h1, h3, h4, Prod.mk.injEq] at h
    obtain ⟨rfl, rfl, rfl⟩ := h
    obtain rfl : m3 = false := by
      cases m3
      · rfl
      · rw [rdNum_off rfl] at h4; simp at h4
    obtain rfl : m1 = false := by
      cases m1
      · rfl
      · rw [rdText_off rfl] at h3; simp at h3
    have a1 := rdKs_back n l l1 ks1 h1
    have a2 := rdText_back h3
    have a3 := rdNum_back (by omega) h4
    rw [a1, a2, a3]
    simp [rowsB, kdB]
theorem getC_back {l : List UInt8} {c : Cf} (h : getC l = (c, 0)) : c.Right ∧ l = confB c.lg c.pg c.en c.gn c.ks := by
  unfold getC at h
  split at h
  · simp at h
  · split at h
    · simp at h
    · split at h
      · rename_i h1 h2 h3
        simp only [Prod.mk.injEq, and_true] at h
        subst h
        refine ⟨h3, ?_⟩
        obtain ⟨lg, ⟨l1, m1⟩, e1⟩ : ∃ a b, rdNum 4 (l, false) = (a, b) := ⟨_, _, rfl⟩
        obtain ⟨pg, ⟨l2, m2⟩, e2⟩ : ∃ a b, rdNum 4 (l1, m1) = (a, b) := ⟨_, _, rfl⟩
        obtain ⟨en, ⟨l3, m3⟩, e3⟩ : ∃ a b, rdNum 4 (l2, m2) = (a, b) := ⟨_, _, rfl⟩
        obtain ⟨gn, ⟨l4, m4⟩, e4⟩ : ∃ a b, rdNum 4 (l3, m3) = (a, b) := ⟨_, _, rfl⟩
        obtain ⟨m, hm, hm2⟩ := rdNum1 (l4, m4)
        obtain ⟨⟨l5, m5⟩, e5⟩ : ∃ b, rdNum 1 (l4, m4) = ((m : Int), b) := ⟨_, by rw [← hm]⟩
        obtain ⟨ks, ⟨l6, m6⟩, e6⟩ : ∃ a b, rdKs m (l5, m5) = (a, b) := ⟨_, _, rfl⟩
        have eC : rdConf (l, false) = (⟨lg, pg, en, gn, ks⟩, (l6, m6)) := by
          unfold rdConf
          simp only [e1, e2, e3, e4, e5, Int.toNat_natCast, e6]
        rw [eC] at h1 h2 ⊢
        simp only at h1 h2 ⊢
        obtain rfl : m6 = false := by simpa using h1
        obtain rfl : l6 = [] := List.eq_nil_of_length_eq_zero (by omega)
        have off : ∀ {k : Nat} {a b : List UInt8} {m : Bool} {x : Int}, rdNum k (a, m) = (x, (b, false)) → m = false := fun {k a b m x} e => by
          cases m
          · rfl
          · rw [rdNum_off rfl] at e; simp at e
        obtain rfl : m5 = false := by
          cases m5
          · rfl
          · have := rdKs_miss (st := (l5, true)) rfl m
            rw [e6] at this
            simp at this
        obtain rfl := off e5
        obtain rfl := off e4
        obtain rfl := off e3
        obtain rfl := off e2
        have a1 := rdNum_back (by omega) e1
        have a2 := rdNum_back (by omega) e2
        have a3 := rdNum_back (by omega) e3
        have a4 := rdNum_back (by omega) e4
        have a5 := rdNum_back (by omega) e5
        have a6 := rdKs_back m l5 [] ks e6
        have hlen : ks.length = m := by
          have := rdKs_len (l5, false) m
          rw [e6] at this
          exact this
        rw [a1, a2, a3, a4, a5, a6, ← hlen]
        simp [confB, numsB]
      · simp at h
end Go.Proofs.Ytdaenkfkiijlkaa
