/- CdQ, FrA, CdB, CdC, CdD, FrB, FrC, FrM, FrV, FrW1, FrE, CdFM, RfM, FrF -/
import Derived.Test.YthabmlbmlncbmaaQs1
import Derived.Test.YthabmlbmlncbmaaQs2
import Derived.Test.YthabmlbmlncbmaaQs6
import Derived.Deep.RegionHeld3
import Derived.Deep.DeepCutAuto
import Derived.RangeFuncNested
import Derived.RangeFuncBox
import Derived.RangeFuncCalls
import Derived.RangeFuncLeaves
import Derived.OrdersIn
import Derived.OwnWalkIn
import Derived.TacticsInMore
import Derived.LoopNIn
import Derived.LoopIn
namespace Go.Proofs.Ythabmlbmlncbmaa
open Go.RowKit
set_option linter.unusedVariables false
theorem td (l : List UInt8) (i j : Nat) (h : i + j <= 92) : ((l.take 92).drop i).take j = (l.drop i).take j := by
  rw [List.drop_take, List.take_take, Nat.min_eq_left (by omega)]
theorem getCd_take (l : List UInt8) : getCd (l.take 92) = getCd l := by
  by_cases h : l.length <= 92
  · rw [List.take_of_length_le h]
  have hl : (l.take 92).length = 92 := by simp; omega
  have h0 := take_getD l 92 0 (by decide)
  have h1 := take_getD l 92 1 (by decide)
  have t2 := td l 2 8 (by decide)
  have t10 := td l 10 8 (by decide)
  unfold getCd
  rw [h0, h1, hl, t2, t10]
  obtain ⟨e0, he0⟩ : ∃ e0, e0 = if (l.getD 1 0).toNat = 1 then 10 else 18 := ⟨_, rfl⟩
  have hb : e0 <= 18 := by rw [he0]; split <;> omega
  simp only [<- he0]
  have t3 := td l e0 8 (by omega)
  have t4 := td l (e0 + 8) 2 (by omega)
  rw [t3, t4]
  obtain ⟨m, hm⟩ : ∃ m, m = leN ((l.drop (e0 + 8)).take 2) := ⟨_, rfl⟩
  have f1 : (92 = 0) = False := eq_false (by decide)
  have f2 : (l.length = 0) = False := eq_false (by omega)
  have f3 : (92 = 1) = False := eq_false (by decide)
  have f4 : (l.length = 1) = False := eq_false (by omega)
  have f5 : (92 < e0) = False := eq_false (by omega)
  have f6 : (l.length < e0) = False := eq_false (by omega)
  have f7 : (92 < e0 + 8) = False := eq_false (by omega)
  have f8 : (l.length < e0 + 8) = False := eq_false (by omega)
  have f9 : (92 < e0 + 10) = False := eq_false (by omega)
  have f10 : (l.length < e0 + 10) = False := eq_false (by omega)
  simp only [<- hm, f1, f2, f3, f4, f5, f6, f7, f8, f9, f10, if_false]
  by_cases h64 : 64 < m
  · simp only [if_pos h64]
  · have t5 := td l (e0 + 10) m (by omega)
    have f11 : (92 < e0 + 10 + m) = False := eq_false (by omega)
    have f12 : (l.length < e0 + 10 + m) = False := eq_false (by omega)
    simp only [if_neg h64, f11, f12, if_false, t5]
theorem numB_0 (d : Nat) (h : d <= 255) : numB 1 (d : Int) = [UInt8.ofNat d] := by
  simp only [numB, List.range_succ, List.range_zero, List.nil_append, List.map_cons, List.map_nil, byteOf, Nat.mul_zero, Int.pow_zero, Int.ediv_one, List.cons.injEq, and_true]
  congr 1
  omega
theorem leN_numB2 (n : Nat) (h : n <= 65535) : leN (numB 2 (n : Int)) = n := by
  have := leN_numB 2 (n : Int)
  rw [Int.emod_eq_of_lt (by omega) (by omega)] at this
  exact Int.ofNat.inj this
theorem dl {α : Type} {l m : List α} {n : Nat} (h : l.length = n) (k : Nat) : (l ++ m).drop (n + k) = m.drop k := by
  rw [<- h, List.drop_append, Nat.add_sub_cancel_left, List.drop_of_length_le (by omega), List.nil_append]
theorem tl {α : Type} {l m : List α} {n : Nat} (h : l.length = n) : (l ++ m).take n = l := List.take_left' h
theorem getCd_put (x : Cd) (hd : 0 <= x.d /\ x.d <= 3) (hl : x.dt.length <= 64) (hw : x.wf) : getCd x.bytes = (x.plain, x.bytes.length, 0) := by
  obtain ⟨d, lc, ix, gn, cp, dt⟩ := x
  obtain ⟨w1, w2, w3⟩ := hw
  simp only at hd hl w1 w2 w3
  have v1 := getV_numB8 w1
  have v2 := getV_numB8 w2
  have v3 := getV_numB8 w3
  have lm := leN_numB2 dt.length (by omega)
  have L8 : ∀ y, (numB 8 y).length = 8 := numB_length 8
  have L2 : ∀ y, (numB 2 y).length = 2 := numB_length 2
  have b0 : numB 1 0 = [0] := by decide
  have b1 : numB 1 1 = [1] := by decide
  have b2 : numB 1 2 = [2] := by decide
  have b3 : numB 1 3 = [3] := by decide
  rcases cd_cases d with rfl | rfl | rfl | rfl | h
  · rfl
  · cases lc
    · have e : (Cd.mk 1 false ix gn cp dt).bytes = 1 :: 0 :: (numB 8 ix ++ numB 8 gn) := by simp [Cd.bytes, Cd.tgt, b0, b1]
      have p : (Cd.mk 1 false ix gn cp dt).plain = ⟨1, false, ix, gn, 0, []⟩ := rfl
      have d1 : (numB 8 ix ++ numB 8 gn).drop 8 = numB 8 gn := List.drop_left' (L8 _)
      rw [e, p]
      simp [getCd, d1, tl (L8 _), v1, v2, List.take_of_length_le (Nat.le_of_eq (L8 _))]
    · have e : (Cd.mk 1 true ix gn cp dt).bytes = 1 :: 1 :: numB 8 ix := by simp [Cd.bytes, Cd.tgt, b1]
      have p : (Cd.mk 1 true ix gn cp dt).plain = ⟨1, true, ix, 0, 0, []⟩ := rfl
      rw [e, p]
      simp [getCd, v1, List.take_of_length_le (Nat.le_of_eq (L8 _))]
  · cases lc
    · have e : (Cd.mk 2 false ix gn cp dt).bytes = 2 :: 0 :: (numB 8 ix ++ (numB 8 gn ++ (numB 8 cp ++ (numB 2 dt.length ++ dt)))) := by simp [Cd.bytes, Cd.tgt, b0, b2]
      have p : (Cd.mk 2 false ix gn cp dt).plain = ⟨2, false, ix, gn, cp, dt⟩ := rfl
      have d1 : (numB 8 ix ++ (numB 8 gn ++ (numB 8 cp ++ (numB 2 dt.length ++ dt)))).drop 8 = numB 8 gn ++ (numB 8 cp ++ (numB 2 dt.length ++ dt)) := List.drop_left' (L8 _)
      have d2 : (numB 8 ix ++ (numB 8 gn ++ (numB 8 cp ++ (numB 2 dt.length ++ dt)))).drop 16 = numB 8 cp ++ (numB 2 dt.length ++ dt) := by rw [dl (L8 _) 8]; exact List.drop_left' (L8 _)
      have d3 : (numB 8 ix ++ (numB 8 gn ++ (numB 8 cp ++ (numB 2 dt.length ++ dt)))).drop 24 = numB 2 dt.length ++ dt := by rw [dl (L8 _) 16, dl (L8 _) 8]; exact List.drop_left' (L8 _)
      have d4 : (numB 8 ix ++ (numB 8 gn ++ (numB 8 cp ++ (numB 2 dt.length ++ dt)))).drop 26 = dt := by rw [dl (L8 _) 18, dl (L8 _) 10, dl (L8 _) 2]; exact List.drop_left' (L2 _)
      rw [e, p]
      simp [getCd, d1, d2, d3, d4, tl (L8 _), tl (L2 _), v1, v2, v3, lm]
      rw [if_neg (by omega), if_neg (by omega), if_neg (by omega)]
      simp only [Prod.mk.injEq, and_true, true_and]
      omega
    · have e : (Cd.mk 2 true ix gn cp dt).bytes = 2 :: 1 :: (numB 8 ix ++ (numB 8 cp ++ (numB 2 dt.length ++ dt))) := by simp [Cd.bytes, Cd.tgt, b1, b2]
      have p : (Cd.mk 2 true ix gn cp dt).plain = ⟨2, true, ix, 0, cp, dt⟩ := rfl
      have d2 : (numB 8 ix ++ (numB 8 cp ++ (numB 2 dt.length ++ dt))).drop 8 = numB 8 cp ++ (numB 2 dt.length ++ dt) := List.drop_left' (L8 _)
      have d3 : (numB 8 ix ++ (numB 8 cp ++ (numB 2 dt.length ++ dt))).drop 16 = numB 2 dt.length ++ dt := by rw [dl (L8 _) 8]; exact List.drop_left' (L8 _)
      have d4 : (numB 8 ix ++ (numB 8 cp ++ (numB 2 dt.length ++ dt))).drop 18 = dt := by rw [dl (L8 _) 10, dl (L8 _) 2]; exact List.drop_left' (L2 _)
      rw [e, p]
      simp [getCd, d2, d3, d4, tl (L8 _), tl (L2 _), v1, v3, lm]
      rw [if_neg (by omega), if_neg (by omega), if_neg (by omega)]
      simp only [Prod.mk.injEq, and_true, true_and]
      omega
  · cases lc
    · have e : (Cd.mk 3 false ix gn cp dt).bytes = 3 :: 0 :: (numB 8 ix ++ (numB 8 gn ++ numB 8 cp)) := by simp [Cd.bytes, Cd.tgt, b0, b3]
      have p : (Cd.mk 3 false ix gn cp dt).plain = ⟨3, false, ix, gn, cp, []⟩ := rfl
      have d1 : (numB 8 ix ++ (numB 8 gn ++ numB 8 cp)).drop 8 = numB 8 gn ++ numB 8 cp := List.drop_left' (L8 _)
      have d2 : (numB 8 ix ++ (numB 8 gn ++ numB 8 cp)).drop 16 = numB 8 cp := by rw [dl (L8 _) 8]; exact List.drop_left' (L8 _)
      rw [e, p]
      simp [getCd, d1, d2, tl (L8 _), v1, v2, v3, List.take_of_length_le (Nat.le_of_eq (L8 _))]
    · have e : (Cd.mk 3 true ix gn cp dt).bytes = 3 :: 1 :: (numB 8 ix ++ numB 8 cp) := by simp [Cd.bytes, Cd.tgt, b1, b3]
      have p : (Cd.mk 3 true ix gn cp dt).plain = ⟨3, true, ix, 0, cp, []⟩ := rfl
      have d2 : (numB 8 ix ++ numB 8 cp).drop 8 = numB 8 cp := List.drop_left' (L8 _)
      rw [e, p]
      simp [getCd, d2, tl (L8 _), v1, v3, List.take_of_length_le (Nat.le_of_eq (L8 _))]
  · omega
theorem two_back (l : List UInt8) (h : 2 <= l.length) : l = [l.getD 0 0, l.getD 1 0] ++ l.drop 2 := by
  match l, h with
  | a :: b :: t, _ => rfl
theorem split_at (l : List UInt8) (i j : Nat) (h : i + j <= l.length) : l.drop i = (l.drop i).take j ++ l.drop (i + j) := by
  conv => lhs; rw [<- List.take_append_drop j (l.drop i), List.drop_drop]
theorem len_at (l : List UInt8) (i j : Nat) (h : i + j <= l.length) : ((l.drop i).take j).length = j := by simp; omega
theorem byte_eq {b : UInt8} {n : Nat} (h : b.toNat = n) : b = UInt8.ofNat n := by
  subst h
  simp
theorem getCd_back (l : List UInt8) (h : (getCd l).2.2 = 0) : (getCd l).1.bytes ++ l.drop (getCd l).2.1 = l /\ (getCd l).2.1 <= l.length /\ (getCd l).1.dt.length <= 64 := by
  have b0 : numB 1 0 = [0] := by decide
  have b1 : numB 1 1 = [1] := by decide
  have b2 : numB 1 2 = [2] := by decide
  have b3 : numB 1 3 = [3] := by decide
  unfold getCd at h ⊢
  by_cases h0 : l.length = 0
  · rw [if_pos h0] at h; exact absurd h (by decide)
  rw [if_neg h0] at h ⊢
  by_cases h3 : 3 < (l.getD 0 0).toNat
  · rw [if_pos h3] at h; exact absurd h (by decide)
  rw [if_neg h3] at h ⊢
  by_cases hz : (l.getD 0 0).toNat = 0
  · rw [if_pos hz] at h ⊢
    refine ⟨?_, by show 1 <= l.length; omega, by simp⟩
    match l, h0 with
    | a :: t, _ =>
      have : a = 0 := byte_eq hz
      subst this
      rfl
  rw [if_neg hz] at h ⊢
  by_cases h1 : l.length = 1
  · rw [if_pos h1] at h; exact absurd h (by decide)
  rw [if_neg h1] at h ⊢
  by_cases hb : 1 < (l.getD 1 0).toNat
  · rw [if_pos hb] at h; exact absurd h (by decide)
  rw [if_neg hb] at h ⊢
  have hl2 := two_back l (by omega)
  obtain ⟨d, hd⟩ : ∃ d, d = (l.getD 0 0).toNat := ⟨_, rfl⟩
  obtain ⟨b, hbb⟩ : ∃ b, b = (l.getD 1 0).toNat := ⟨_, rfl⟩
  rw [byte_eq hd.symm, byte_eq hbb.symm] at hl2
  rw [<- hd] at hz h3
  rw [<- hbb] at hb
  simp only [<- hd, <- hbb] at h ⊢
  clear hd hbb
  -- the target
  obtain ⟨e0, he0⟩ : ∃ e0, e0 = if b = 1 then 10 else 18 := ⟨_, rfl⟩
  simp only [<- he0] at h ⊢
  have htgt : ∀ dd cp dt, e0 <= l.length -> [UInt8.ofNat b] ++ l.drop 2 = (Cd.mk dd (decide (b = 1)) (getV ((l.drop 2).take 8)) (if b = 1 then 0 else getV ((l.drop 10).take 8)) cp dt).tgt ++ l.drop e0 := by
    intro dd cp dt he
    by_cases hb1 : b = 1
    · subst hb1
      rw [if_pos rfl] at he0
      subst he0
      have s2 := split_at l 2 8 (by omega)
      simp only [Cd.tgt, decide_true, if_true, b1]
      rw [numB8_getV (len_at l 2 8 (by omega)), List.append_assoc, <- s2]
      rfl
    · have hb0 : b = 0 := by omega
      subst hb0
      rw [if_neg hb1] at he0
      subst he0
      have s2 := split_at l 2 8 (by omega)
      have s10 := split_at l 10 8 (by omega)
      simp only [Cd.tgt, hb1, decide_false, if_false, b0, Bool.false_eq_true]
      rw [numB8_getV (len_at l 2 8 (by omega)), numB8_getV (len_at l 10 8 (by omega)), List.append_assoc, <- s10, List.append_assoc, <- s2]
      rfl
  by_cases hd1 : d = 1
  · subst hd1
    rw [if_pos rfl] at h ⊢
    by_cases hs : l.length < e0
    · rw [if_pos hs] at h; exact absurd h (by decide)
    rw [if_neg hs] at h ⊢
    refine ⟨?_, by show e0 <= l.length; omega, by simp⟩
    simp only [Cd.bytes, show ¬ (1 : Int) = 0 by decide, if_false, if_true, b1]
    rw [List.append_assoc, <- htgt 1 0 [] (by omega)]
    exact hl2.symm
  rw [if_neg hd1] at h ⊢
  by_cases hd3 : d = 3
  · subst hd3
    rw [if_pos rfl] at h ⊢
    by_cases hs : l.length < e0 + 8
    · rw [if_pos hs] at h; exact absurd h (by decide)
    rw [if_neg hs] at h ⊢
    refine ⟨?_, by show e0 + 8 <= l.length; omega, by simp⟩
    have s := split_at l e0 8 (by omega)
    simp only [Cd.bytes, show ¬ (3 : Int) = 0 by decide, show ¬ (3 : Int) = 1 by decide, show ¬ (3 : Int) = 2 by decide, if_false, if_true, b3]
    rw [numB8_getV (len_at l e0 8 (by omega)), List.append_assoc, <- s, List.append_assoc, <- htgt 3 (getV ((l.drop e0).take 8)) [] (by omega)]
    exact hl2.symm
  rw [if_neg hd3] at h ⊢
  have hd2 : d = 2 := by omega
  subst hd2
  by_cases hs : l.length < e0 + 10
  · rw [if_pos hs] at h; exact absurd h (by decide)
  rw [if_neg hs] at h ⊢
  obtain ⟨m, hm⟩ : ∃ m, m = leN ((l.drop (e0 + 8)).take 2) := ⟨_, rfl⟩
  simp only [<- hm] at h ⊢
  by_cases h64 : 64 < m
  · rw [if_pos h64] at h; exact absurd h (by decide)
  rw [if_neg h64] at h ⊢
  by_cases hs2 : l.length < e0 + 10 + m
  · rw [if_pos hs2] at h; exact absurd h (by decide)
  rw [if_neg hs2] at h ⊢
  have hdl : ((l.drop (e0 + 10)).take m).length = m := len_at l (e0 + 10) m (by omega)
  refine ⟨?_, by show e0 + 10 + m <= l.length; omega, by show ((l.drop (e0 + 10)).take m).length <= 64; omega⟩
  have s1 := split_at l e0 8 (by omega)
  have s2 := split_at l (e0 + 8) 2 (by omega)
  have s3 := split_at l (e0 + 10) m (by omega)
  have e2 : numB 2 (m : Int) = (l.drop (e0 + 8)).take 2 := by
    have q := numB_leN ((l.drop (e0 + 8)).take 2)
    rw [len_at l (e0 + 8) 2 (by omega), <- hm] at q
    exact q
  simp only [Cd.bytes, show ¬ (2 : Int) = 0 by decide, show ¬ (2 : Int) = 1 by decide, if_false, if_true, b2]
  rw [numB8_getV (len_at l e0 8 (by omega)), hdl, e2]
  have e3 : (l.drop (e0 + 10)).take m ++ l.drop (e0 + 10 + m) = l.drop (e0 + 10) := s3.symm
  rw [List.append_assoc, e3, List.append_assoc, show e0 + 10 = e0 + 8 + 2 from rfl, <- s2, List.append_assoc, <- s1, List.append_assoc, <- htgt 2 (getV ((l.drop e0).take 8)) ((l.drop (e0 + 10)).take m) (by omega)]
  exact hl2.symm
end Go.Proofs.Ythabmlbmlncbmaa
namespace Go.Proofs.Ythabmlbmlncbmaa
open Go.RowKit
set_option linter.unusedVariables false
set_option maxRecDepth 20000
def ECd (K : Nat -> Prop) (w : World) (x : Cd) (r : List Value) : Prop := ∃ A n c, r = (x.cs A n c).toList /\ VB K w (.slice A n c) x.dt /\ n <= c
theorem ECd.ok : EOk ECd where
  stays := fun ⟨A, n, c, e, hu, hc⟩ hs => ⟨A, n, c, e, hu.stays hs, hc⟩
  mono := fun ⟨A, n, c, e, hu, hc⟩ hk => ⟨A, n, c, e, hu.mono hk, hc⟩
  lt := fun ⟨A, n, c, e, hu, hc⟩ => ⟨A, n, c, e, hu.lt, hc⟩
abbrev CdsV (K : Nat -> Prop) (w : World) (A : Option Addr) (n : Nat) (xs : List Cd) : Prop := RowsL 6 (ECd K w) K w A n xs
section
variable {K K' : Nat -> Prop} {w w' : World} {A : Option Addr} {n : Nat} {xs : List Cd}
theorem CdsV.stays (h : CdsV K w A n xs) (hs : WStays K w w') : CdsV K w' A n xs := by
  obtain ⟨vs, h1, h2, h3⟩ := h
  exact ⟨vs, h1, h2.stays hs, h3.imp fun x r hx => ECd.ok.stays hx hs⟩
theorem CdsV.mono (h : CdsV K w A n xs) (hk : ∀ x, K x -> K' x) : CdsV K' w A n xs := by
  obtain ⟨vs, h1, h2, h3⟩ := h
  exact ⟨vs, h1, h2.mono hk, h3.imp fun x r hx => ECd.ok.mono hx hk⟩
theorem CdsV.lt (h : CdsV K w A n xs) : CdsV (fun x => K x /\ x < w.heap.size) w A n xs := by
  obtain ⟨vs, h1, h2, h3⟩ := h
  exact ⟨vs, h1, h2.lt, h3.imp fun x r hx => ECd.ok.lt hx⟩
theorem CdsV.below (h : CdsV K w A n xs) (hb : Below w.heap.size w w') : CdsV K w' A n xs := (h.lt.stays ⟨hb.size, fun x hx => hb.block x hx.2⟩).mono fun _ hx => hx.1
theorem CdsV.len (h : CdsV K w A n xs) : xs.length = n := by obtain ⟨_, h1, _⟩ := h; exact h1
theorem CdsV.nil (K : Nat -> Prop) (w : World) (A : Option Addr) : CdsV K w A 0 [] := ⟨[], rfl, ⟨rfl, fun _ => rfl, fun h => absurd h (Nat.lt_irrefl 0)⟩, HdL.nil _ _⟩
structure CdL (w : World) (b o : Nat) (x : Cd) (A : Option Addr) (n c : Nat) : Prop where
  c0 : w.cell? ⟨b, o, none⟩ = some (.int .i64 x.d)
  c1 : w.cell? ⟨b, o + 1, none⟩ = some (.bool x.lc)
  c2 : w.cell? ⟨b, o + 2, none⟩ = some (.int .i64 x.ix)
  c3 : w.cell? ⟨b, o + 3, none⟩ = some (.int .i64 x.gn)
  c4 : w.cell? ⟨b, o + 4, none⟩ = some (.int .i64 x.cp)
  c5 : w.cell? ⟨b, o + 5, none⟩ = some (.slice A n c)
theorem CdsV.cell (h : CdsV K w A n xs) {j : Nat} {x : Cd} (hj : xs[j]? = some x) :
    ∃ b o A' m c, A = some ⟨b, o, none⟩ /\ b < w.heap.size /\ CdL w b (o + j * 6) x A' m c /\ Rd w A' m x.dt /\ m <= c := by
  obtain ⟨b, o, r, e, hk, hlt, _, ⟨A', m, c, hr, hv, hmc⟩, hc⟩ := RowsL.cells h hj
  subst hr
  have h0 := hc 0 _ (by decide) rfl
  have h1 := hc 1 _ (by decide) rfl
  have h2 := hc 2 _ (by decide) rfl
  have h3 := hc 3 _ (by decide) rfl
  have h4 := hc 4 _ (by decide) rfl
  have h5 := hc 5 _ (by decide) rfl
  rw [Nat.add_zero] at h0
  rw [<- Nat.add_assoc] at h1 h2 h3 h4 h5
  obtain ⟨A2, m2, c2, e2, hr2, _⟩ := hv
  injection e2 with e3 e4 e5
  subst e3 e4 e5
  exact ⟨b, o, A', m, c, e, hlt, ⟨h0, h1, h2, h3, h4, h5⟩, hr2, hmc⟩
theorem CdL.load {b o : Nat} {x : Cd} {A : Option Addr} {n c : Nat} (h : CdL w b o x A n c) : (Instr.loadAt 85 (.pointer (some ⟨b, o, none⟩))).run Try.prog w = .ok (.agg (x.cs A n c)) w := by
  obtain ⟨d, hd, hr⟩ := cdT.und
  have := run_loadVar_mid (P := Try.prog) w b o 85 (x.cs A n c).toList d (fun j v hj => by
    match j, hj with
    | 0, hj => injection hj with hj; rw [<- hj]; exact h.c0
    | 1, hj => injection hj with hj; rw [<- hj]; exact h.c1
    | 2, hj => injection hj with hj; rw [<- hj]; exact h.c2
    | 3, hj => injection hj with hj; rw [<- hj]; exact h.c3
    | 4, hj => injection hj with hj; rw [<- hj]; exact h.c4
    | 5, hj => injection hj with hj; rw [<- hj]; exact h.c5) hd hr (by rw [cdT.info]; rfl)
  simp only [Instr.loadAt, Instr.sureAddr, Sem.run_bind, Sem.run_pure, Result.andThen_ok, this]
theorem wpList_ldCd {ops : Array Oper} {rest : List Oper} {o : Oper} {a : Act} {Q : Exit -> Act -> World -> Prop} {b off : Nat} {x : Cd} {A : Option Addr} {n c : Nat} (hgd : Region.wanted o (yielded ops a.tmps) = true) (y : Operand) (ho : o.op = .load 85 y)
    (hx : a.eval y = .pointer (some ⟨b, off, none⟩)) (h : CdL w b off x A n c) (kk : wpList Try.prog ops Q rest (a.put o.dst (.agg (x.cs A n c))) w) : wpList Try.prog ops Q (o :: rest) a w :=
  wpList_w hgd fun _ hK => by
    unfold Oper.wp execOp
    simp only [ho, hx, h.load, Sem.run_bind, Sem.run_pure, Result.andThen_ok]
    exact hK _ _ kk
end
end Go.Proofs.Ythabmlbmlncbmaa
namespace Go.Proofs.Ythabmlbmlncbmaa
open Go.RowKit
set_option linter.unusedVariables false
set_option maxRecDepth 20000
structure PS (w0 W : World) (x : Cd) (A : Option Addr) (n c g3 g5 : Nat) (tv : Option (Array Value)) (cs : Array Value) : Prop where
  k : CdAt w0 W w0.heap.size x A n c
  r2 : Rec 85 W (w0.heap.size + 1) (Cd.zero.cs none 0 0)
  r3 : ∀ t, tv = some t -> Rec 141 W g3 t
  r5 : Rec 85 W g5 cs
  h3 : w0.heap.size + 1 < g5
  n3 : tv ≠ none -> g3 ≠ g5
section
variable {w0 W W' : World} {x : Cd} {A : Option Addr} {n c g3 g5 : Nat} {tv : Option (Array Value)} {cs : Array Value}
end
end Go.Proofs.Ythabmlbmlncbmaa
namespace Go.Proofs.Ythabmlbmlncbmaa
open Go.RowKit
set_option linter.unusedVariables false
set_option maxRecDepth 20000
end Go.Proofs.Ythabmlbmlncbmaa
namespace Go.Proofs.Ythabmlbmlncbmaa
open Go.RowKit
set_option linter.unusedVariables false
set_option maxRecDepth 20000
end Go.Proofs.Ythabmlbmlncbmaa
namespace Go.Proofs.Ythabmlbmlncbmaa
open Go.RowKit
set_option linter.unusedVariables false
set_option maxRecDepth 20000
section
variable {K : Nat -> Prop} (A : Option Addr) (n c : Nat) (xs : List Cd) (w : World)
theorem cdsT : El Try.prog 50 85 (.agg #[.int .i64 0, .bool false, .int .i64 0, .int .i64 0, .int .i64 0, .slice none 0 0]) 6 64 := ⟨Try.underlying50, by kernel_rfl, rfl, by decide⟩
theorem cs_one (x : Cd) (A : Option Addr) (n c : Nat) : ∀ u ∈ [Value.int .i64 x.d, .bool x.lc, .int .i64 x.ix, .int .i64 x.gn, .int .i64 x.cp, .slice A n c], u.oneCell' = true := by
  intro u hu
  simp at hu
  rcases hu with rfl | rfl | rfl | rfl | rfl | rfl <;> rfl
end
end Go.Proofs.Ythabmlbmlncbmaa
namespace Go.Proofs.Ythabmlbmlncbmaa
open Go.RowKit
set_option linter.unusedVariables false
set_option maxRecDepth 20000
section
def frBody (xs : List Cd) : List UInt8 := numB 1 xs.length ++ (xs.map Cd.bytes).flatten
def frBytes (xs : List Cd) : List UInt8 := frBody xs ++ numB 4 ((sumL (frBody xs) : Nat) : Int)
theorem flat_len (xs : List Cd) (hd : ∀ x ∈ xs, x.dt.length <= 1000) : (xs.map Cd.bytes).flatten.length <= xs.length * 1100 := by
  induction xs with
  | nil => simp
  | cons x xs ih =>
    have h1 := x.bytes_len
    have h2 := hd x List.mem_cons_self
    have h3 := ih (fun y hy => hd y (List.mem_cons_of_mem _ hy))
    simp only [List.map_cons, List.flatten_cons, List.length_append, List.length_cons]
    omega
theorem flat_take (xs : List Cd) (j : Nat) (x : Cd) (hx : xs[j]? = some x) : ((xs.take (j + 1)).map Cd.bytes).flatten = ((xs.take j).map Cd.bytes).flatten ++ x.bytes := by
  rw [List.take_add_one, hx]
  simp
set_option maxHeartbeats 2000000 in
theorem RFBytes_any {K : Nat -> Prop} (A : Option Addr) (n c : Nat) (xs : List Cd) (w : World) (h : CdsV K w A n xs) (hn : n <= 1000) (hd : ∀ x ∈ xs, x.dt.length <= 1000) :
    Calls Try.prog 25 #[.slice A n c] w (GotS w (frBytes xs)) := by
  have H := hi_ h
  have HL := hi_ h.len
  have HD := hi_ hd
  have C1 := hi_ (RNumS_any 1 (by decide) (by decide) n w)
  clear h hd
  go_enter Try.func25, Try.ntmps25
  go_wp2_with (go_at_call 47; have _t := C1; refine C1.out.mono ?_; rintro e w1 ⟨v1, rfl, ho1, hb1⟩; have O1 := hi_ (And.intro ho1 hb1); clear ho1 hb1 C1)
  go_loopw [3, 4] (fun bv iv wr => ∃ (j k : Nat) (ys : List UInt8), j <= n /\ iv = .int .i64 j /\ Hid (ys = numB 1 (n : Int) ++ ((xs.take j).map Cd.bytes).flatten /\ k = ys.length) /\ wr.ownsRow w.heap.size 5 1 bv k (cells ys) /\ Below w.heap.size w wr) (fun _ iv _ => n - (intOf iv).toNat)
  case atStart => exact ⟨0, 1, numB 1 n, Nat.zero_le _, rfl, hi_ ⟨by simp, by simp⟩, O1.out.1, O1.out.2⟩
  case round =>
    obtain ⟨j, k, ys, hj, rfl, hys, ho, hb⟩ := hrel
    have HBw := hi_ hb
    have HO := hi_ ho
    have hkb : k <= 1 + n * 1100 := by
      have h1 := flat_len (xs.take j) (fun x hx => HD.out x (List.mem_of_mem_take hx))
      have h2 := hys.out.2
      rw [hys.out.1] at h2
      simp only [List.length_append, numB_length, List.length_take] at h1 h2
      have h3 : min j xs.length * 1100 <= n * 1100 := Nat.mul_le_mul_right _ (by omega)
      omega
    by_cases hjn : j < n
    · obtain ⟨x, hx⟩ : ∃ x, xs[j]? = some x := ⟨_, List.getElem?_eq_getElem (by rw [HL.out]; exact hjn)⟩
      obtain ⟨b, o, PA, m, cc, hA, hlt, hc, hr, hmc⟩ := (H.out.below hb).cell hx
      have hm := HD.out x (List.mem_of_getElem? hx)
      have hm2 := hr.1
      have CB := hi_ (RBytesC_any x PA m cc wr hr (by omega))
      have H0 := hi_ hc
      have HX := hi_ (And.intro hx hm)
      subst hA
      clear hx hm hm2 hr hc hmc ho hb
      go_wp2_with (first
        | ((with_reducible refine wpList_ldCd (b := b) (off := o + j * 6) rfl (.tmp 17) rfl rfl H0.out ?_))
        | (go_at_call 48; refine CB.out.mono ?_; rintro e w2 ⟨A2, n2, c2, rfl, hr2, hc2, hb2⟩
           have R2 := hi_ (And.intro hr2 (And.intro hb2 (own_keep HO.out hb2)))
           have hn2 : n2 <= 1100 := by have := hr2.1; have := x.bytes_len; have := HX.out.2; omega
           clear hr2 hc2 hb2)
        | (at_builtin; refine wpList_app _ bytesT rfl (.tmp 14) (.tmp 19) rfl w.heap.size _ k _ rfl R2.out.2.2 A2 n2 c2 _ rfl R2.out.1 (by omega) (Nat.le_trans HBw.out.size R2.out.2.1.size) ?_; intro v3 w3 ho3 hb3
           rw [<- cells_append] at ho3
           have HO3 := hi_ ho3
           have HB3 := hi_ ((HBw.out.trans (R2.out.2.1.mono HBw.out.size)).trans hb3)
           clear ho3 hb3))
      go_roundw
      case rel => exact ⟨j + 1, _, _, hjn, by go_num, hi_ ⟨by rw [flat_take xs j x HX.out.1, <- List.append_assoc, <- hys.out.1], by have := R2.out.1.1; have := hys.out.2; rw [List.length_append]; omega⟩, HO3.out, HB3.out⟩
      case measure => simp [intOf]; omega
    · obtain rfl : j = n := Nat.le_antisymm hj (Nat.le_of_not_lt hjn)
      have hfin : ys = frBody xs := by rw [hys.out.1, List.take_of_length_le (Nat.le_of_eq HL.out)]; unfold frBody; rw [HL.out]
      have HF := hi_ hfin
      obtain ⟨B1, d1, rfl, _, _, hrd⟩ := Rd.of_own ho rfl
      have CO := hi_ (ROf_any B1 k d1 ys wr hrd (by omega))
      have CN := hi_ (RNumS_any 4 (by decide) (by decide) ((sumL ys : Nat) : Int) wr)
      have hsum : sumL ys < 4294967296 := sumL_lt ys
      obtain ⟨sm, hsm⟩ : ∃ q, q = sumL ys := ⟨_, rfl⟩
      rw [<- hsm] at CO CN hsum
      have HSM := hi_ hsm
      have hcv : IntKind.i64.wrap (sm : Int) = sm := IntWalk.i64_in _ (by omega)
      clear hfin hrd hsm hb ho
      go_wp2_with (first
        | (go_at_call 49; refine CO.out.mono ?_; rintro e w' ⟨rfl, rfl⟩)
        | (go_at_call 47; refine CN.out.mono ?_; rintro e w2 ⟨v2, rfl, ho2, hb2⟩
           obtain ⟨A2, c2, rfl, _, _, hr2⟩ := Rd.of_own ho2 rfl
           have R2 := hi_ (And.intro hr2 (And.intro hb2 (own_keep HO.out hb2)))
           clear hr2 ho2 hb2)
        | (at_builtin; refine wpList_app _ bytesT rfl (.tmp 21) (.tmp 25) rfl w.heap.size _ k _ rfl R2.out.2.2 A2 4 c2 _ rfl R2.out.1 (by omega) (Nat.le_trans HBw.out.size R2.out.2.1.size) ?_; intro v3 w3 ho3 hb3
           rw [<- cells_append] at ho3
           have HO3 := hi_ ho3
           have HB3 := hi_ ((HBw.out.trans (R2.out.2.1.mono HBw.out.size)).trans hb3)
           clear ho3 hb3))
      go_ret
      have hO := HO3.out
      rw [HSM.out, HF.out] at hO
      exact GotS.own hO HB3.out
end
end Go.Proofs.Ythabmlbmlncbmaa
namespace Go.Proofs.Ythabmlbmlncbmaa
open Go.RowKit
set_option linter.unusedVariables false
def getsL (inp : List UInt8) : Nat -> Nat -> List Cd × Int × Nat
  | 0, a => ([], 0, a)
  | k + 1, a => if (getCd (inp.drop a)).2.2 ≠ 0 then ([], (getCd (inp.drop a)).2.2, a)
    else ((getCd (inp.drop a)).1 :: (getsL inp k (a + (getCd (inp.drop a)).2.1)).1, (getsL inp k (a + (getCd (inp.drop a)).2.1)).2.1, (getsL inp k (a + (getCd (inp.drop a)).2.1)).2.2)
def frGet (l : List UInt8) : List Cd × Int :=
  if l.length < 5 then ([], 12)
  else if numB 4 ((sumL (l.take (l.length - 4)) : Nat) : Int) ≠ l.drop (l.length - 4) then ([], 11)
  else if 64 < (l.getD 0 0).toNat then ([], 13)
  else if (getsL (l.take (l.length - 4)) (l.getD 0 0).toNat 1).2.1 ≠ 0 then ([], (getsL (l.take (l.length - 4)) (l.getD 0 0).toNat 1).2.1)
  else if (getsL (l.take (l.length - 4)) (l.getD 0 0).toNat 1).2.2 < l.length - 4 then ([], 11)
  else ((getsL (l.take (l.length - 4)) (l.getD 0 0).toNat 1).1, 0)
theorem getCd_le (l : List UInt8) (h : (getCd l).2.2 = 0) : (getCd l).2.1 <= l.length := (getCd_back l h).2.1
theorem getCd_ext (l t : List UInt8) (h : (getCd l).2.2 = 0) : getCd (l ++ t) = getCd l := by
  unfold getCd at h ⊢
  have hL : (l ++ t).length = l.length + t.length := List.length_append
  by_cases h0 : l.length = 0
  · rw [if_pos h0] at h; exact absurd h (by decide)
  have hd0 : (l ++ t).getD 0 0 = l.getD 0 0 := by simp only [List.getD_eq_getElem?_getD, List.getElem?_append_left (show 0 < l.length by omega)]
  have P : ∀ i j, i + j <= l.length -> ((l ++ t).drop i).take j = (l.drop i).take j := fun i j hij => by
    rw [List.drop_append_of_le_length (by omega), List.take_append_of_le_length (by simp; omega)]
  have g0 : ¬ l.length + t.length = 0 := by omega
  rw [hd0, hL]
  simp only [if_neg h0, if_neg g0] at h ⊢
  by_cases h1 : 3 < (l.getD 0 0).toNat
  · rw [if_pos h1] at h; exact absurd h (by decide)
  simp only [if_neg h1] at h ⊢
  by_cases h2 : (l.getD 0 0).toNat = 0
  · simp only [if_pos h2]
  simp only [if_neg h2] at h ⊢
  by_cases h3 : l.length = 1
  · rw [if_pos h3] at h; exact absurd h (by decide)
  have g3 : ¬ l.length + t.length = 1 := by omega
  have hd1 : (l ++ t).getD 1 0 = l.getD 1 0 := by simp only [List.getD_eq_getElem?_getD, List.getElem?_append_left (show 1 < l.length by omega)]
  simp only [if_neg h3, if_neg g3, hd1] at h ⊢
  by_cases h4 : 1 < (l.getD 1 0).toNat
  · rw [if_pos h4] at h; exact absurd h (by decide)
  simp only [if_neg h4] at h ⊢
  obtain ⟨e0, he0⟩ : ∃ e0, e0 = if (l.getD 1 0).toNat = 1 then 10 else 18 := ⟨_, rfl⟩
  simp only [<- he0] at h ⊢
  have he10 : 10 <= e0 := by rw [he0]; split <;> omega
  have gn : e0 <= l.length -> (if (l.getD 1 0).toNat = 1 then (0 : Int) else getV (((l ++ t).drop 10).take 8)) = (if (l.getD 1 0).toNat = 1 then 0 else getV ((l.drop 10).take 8)) := fun hle => by
    by_cases hb : (l.getD 1 0).toNat = 1
    · rw [if_pos hb, if_pos hb]
    · rw [if_neg hb] at he0
      rw [if_neg hb, if_neg hb, P 10 8 (by omega)]
  by_cases h5 : (l.getD 0 0).toNat = 1
  · simp only [if_pos h5] at h ⊢
    by_cases h6 : l.length < e0
    · rw [if_pos h6] at h; exact absurd h (by decide)
    · rw [if_neg h6, if_neg (show ¬ l.length + t.length < e0 by omega), gn (by omega), P 2 8 (by omega)]
  simp only [if_neg h5] at h ⊢
  by_cases h7 : (l.getD 0 0).toNat = 3
  · simp only [if_pos h7] at h ⊢
    by_cases h6 : l.length < e0 + 8
    · rw [if_pos h6] at h; exact absurd h (by decide)
    · rw [if_neg h6, if_neg (show ¬ l.length + t.length < e0 + 8 by omega), gn (by omega), P 2 8 (by omega), P e0 8 (by omega)]
  simp only [if_neg h7] at h ⊢
  by_cases h8 : l.length < e0 + 10
  · rw [if_pos h8] at h; exact absurd h (by decide)
  have g8 : ¬ l.length + t.length < e0 + 10 := by omega
  rw [gn (by omega), P 2 8 (by omega), P e0 8 (by omega), P (e0 + 8) 2 (by omega)]
  simp only [if_neg h8, if_neg g8] at h ⊢
  obtain ⟨m, hm⟩ : ∃ m, m = leN ((l.drop (e0 + 8)).take 2) := ⟨_, rfl⟩
  simp only [<- hm] at h ⊢
  by_cases h9 : 64 < m
  · rw [if_pos h9] at h; exact absurd h (by decide)
  simp only [if_neg h9] at h ⊢
  by_cases h10 : l.length < e0 + 10 + m
  · rw [if_pos h10] at h; exact absurd h (by decide)
  · rw [if_neg h10, if_neg (show ¬ l.length + t.length < e0 + 10 + m by omega), P (e0 + 10) m (by omega)]
theorem getCd_pre (x : Cd) (t : List UInt8) (hg : getCd x.bytes = (x.plain, x.bytes.length, 0)) : getCd (x.bytes ++ t) = (x.plain, x.bytes.length, 0) := by
  rw [getCd_ext x.bytes t (by rw [hg]), hg]
theorem getsL_put (inp : List UInt8) : ∀ (xs : List Cd) (a : Nat) (t : List UInt8), inp.drop a = (xs.map Cd.bytes).flatten ++ t -> (∀ x ∈ xs, x.check = 0 /\ x.wf) -> a <= inp.length ->
    getsL inp xs.length a = (xs.map Cd.plain, 0, a + ((xs.map Cd.bytes).flatten).length)
  | [], a, t, h, hx, ha => by simp [getsL]
  | x :: xs, a, t, h, hx, ha => by
    obtain ⟨hc, hw⟩ := hx x List.mem_cons_self
    have hd : 0 <= x.d /\ x.d <= 3 := Classical.byContradiction fun h => by unfold Cd.check at hc; rw [if_neg h] at hc; exact absurd hc (by decide)
    have hl : x.dt.length <= 64 := Classical.byContradiction fun h => by unfold Cd.check at hc; rw [if_pos hd, if_neg h] at hc; exact absurd hc (by decide)
    have hg := getCd_put x hd hl hw
    simp only [List.map_cons, List.flatten_cons, List.append_assoc] at h
    have hg2 : getCd (inp.drop a) = (x.plain, x.bytes.length, 0) := by rw [h]; exact getCd_pre x _ hg
    have hlen : (inp.drop a).length = x.bytes.length + ((xs.map Cd.bytes).flatten ++ t).length := by rw [h, List.length_append]
    rw [List.length_drop] at hlen
    have ih := getsL_put inp xs (a + x.bytes.length) t (by rw [<- List.drop_drop, h, List.drop_left' rfl]) (fun y hy => hx y (List.mem_cons_of_mem _ hy)) (by omega)
    rw [List.length_cons]
    unfold getsL
    rw [hg2]
    simp only [ne_eq, not_true_eq_false, if_false, ih, List.map_cons, List.flatten_cons, List.length_append, Prod.mk.injEq, true_and]
    omega
theorem frGet_put (xs : List Cd) (h64 : xs.length <= 64) (hx : ∀ x ∈ xs, x.check = 0 /\ x.wf) : frGet (frBytes xs) = (xs.map Cd.plain, 0) := by
  have hbl : (frBytes xs).length = (frBody xs).length + 4 := by unfold frBytes; simp
  have hb0 : (frBody xs).length = 1 + ((xs.map Cd.bytes).flatten).length := by unfold frBody; simp
  have ht : (frBytes xs).take ((frBytes xs).length - 4) = frBody xs := by rw [hbl]; unfold frBytes; exact List.take_left' (by omega)
  have hdr : (frBytes xs).drop ((frBytes xs).length - 4) = numB 4 ((sumL (frBody xs) : Nat) : Int) := by rw [hbl]; unfold frBytes; exact List.drop_left' (by omega)
  have h0 : ((frBytes xs).getD 0 0).toNat = xs.length := by
    unfold frBytes frBody
    rw [numB_0 _ (by omega)]
    simp
    omega
  have hd1 : (frBody xs).drop 1 = (xs.map Cd.bytes).flatten ++ [] := by
    unfold frBody
    rw [List.drop_left' (by simp), List.append_nil]
  have hg := getsL_put (frBody xs) xs 1 [] hd1 hx (by omega)
  unfold frGet
  rw [if_neg (by omega), ht, hdr, if_neg (by simp), h0, if_neg (by omega), hg]
  simp only [ne_eq, not_true_eq_false, if_false]
  rw [if_neg (by omega)]
end Go.Proofs.Ythabmlbmlncbmaa
namespace Go.Proofs.Ythabmlbmlncbmaa
open Go.RowKit
set_option linter.unusedVariables false
set_option linter.unusedSimpArgs false
set_option maxRecDepth 20000
end Go.Proofs.Ythabmlbmlncbmaa
namespace Go.Proofs.Ythabmlbmlncbmaa
open Go.RowKit
set_option linter.unusedVariables false
set_option linter.unusedSimpArgs false
set_option maxRecDepth 20000
def FGotP (r : List Cd × Int) (w : World) (e : Ending) (w' : World) : Prop := ∃ A n c, e = .returned (.tuple #[.slice A n c, .int .i64 r.2]) /\ CdsV (fun _ => True) w' A n r.1 /\ n <= c /\ Below w.heap.size w w'
def FGetC : Prop := ∀ (A : Option Addr) (n c : Nat) (l : List UInt8) (w : World), Rd w A n l -> n <= 100000 -> n <= c -> c <= maxLen -> Calls Try.prog 57 #[.slice A n c] w (FGotP (frGet l) w)
section
variable (A : Option Addr) (n c : Nat) (xs : List Cd) (w : World)
end
end Go.Proofs.Ythabmlbmlncbmaa
namespace Go.Proofs.Ythabmlbmlncbmaa
open Go.RowKit
set_option linter.unusedVariables false
set_option maxRecDepth 20000
theorem CdL.new (w : World) (x : Cd) (A : Option Addr) (n c : Nat) : CdL (w.alloc (.cells (x.cs A n c) 85)) w.heap.size 0 x A n c := by
  have h := CdAt.c0 (w0 := w) (w := w.alloc (.cells (x.cs A n c) 85)) (g := w.heap.size) (x := x) (A := A) (n := n) (c := c)
  have r : Rec 85 (w.alloc (.cells (x.cs A n c) 85)) w.heap.size (x.cs A n c) := Rec.new w _ _
  exact ⟨r.at_ 0, r.at_ 1, r.at_ 2, r.at_ 3, r.at_ 4, r.at_ 5⟩
section
variable {K : Nat -> Prop} (A : Option Addr) (n c : Nat) (xs : List Cd) (w : World)
end
theorem fsum_any (A : Option Addr) (n c : Nat) (l : List UInt8) (w : World) (h : Rd w A n l) (hn : n <= 1099511627776) :
    Calls Try.prog 77 #[.slice A n c] w fun e w' => ∃ v, e = .returned v /\ w'.ownsRow w.heap.size 5 1 v 4 (cells (numB 4 ((sumL l : Nat) : Int))) /\ Below w.heap.size w w' := by
  have hsum := sumL_lt l
  obtain ⟨w1, hw1⟩ : ∃ w1, w1 = w.alloc (.cells #[.slice A n c] 35) := ⟨_, rfl⟩
  have CO := Of_one A n c l w h hn w.heap.size rfl 35 (0, 0)
  rw [<- hw1] at CO
  obtain ⟨sm, hsm⟩ : ∃ s, s = sumL l := ⟨_, rfl⟩
  rw [<- hsm] at CO hsum ⊢
  have CO2 := hi_ CO
  have hcv : IntKind.i64.wrap (sm : Int) = sm := IntWalk.i64_in _ (by omega)
  have hb1 : Below w.heap.size w w1 := by rw [hw1]; exact (Below.refl _ _).alloc (Nat.le_refl _) _
  have CP := hi_ (Put_any none 0 0 [] 4 (sm : Int) w1 (Rd.nil w1 none) (by decide))
  have HB1 := hi_ hb1
  clear CO hsm h hb1
  go_enter Try.func77, Try.ntmps77
  go_wp2_with (first
    | (rw [<- hw1]; clear hw1)
    | (go_at_call 84; refine CO2.out.mono ?_; rintro e w' ⟨rfl, hw'⟩; subst hw')
    | (go_at_call 90; refine CP.out.mono ?_; rintro e w2 ⟨v, rfl, ho, hb2⟩))
  go_ret
  rw [show wd 4 = 4 from rfl, Nat.zero_add, List.nil_append] at ho
  exact ⟨_, rfl, own_mono ho HB1.out.size, HB1.out.trans (hb2.mono HB1.out.size)⟩
end Go.Proofs.Ythabmlbmlncbmaa
namespace Go.Proofs.Ythabmlbmlncbmaa
open Go.RowKit
set_option linter.unusedVariables false
set_option maxRecDepth 20000
end Go.Proofs.Ythabmlbmlncbmaa
namespace Go.Proofs.Ythabmlbmlncbmaa
open Go.RowKit
set_option linter.unusedVariables false
def Grows {β : Type} (J : β -> World -> Prop) : Prop := ∀ s X Y, J s X -> Below X.heap.size X Y -> J s Y
def SeqMem {α : Type} (P : Program) (gf : Nat) (lb : Array Value) (encs : α -> Array Value) (Kp : Nat -> Prop) (Px : List α × α -> Nat -> World -> Prop) (S Sp : List α -> Prop) (W : World) : Prop :=
  ∀ (l : Nat) (J Jx : List α -> World -> Prop), Grows J -> Grows Jx ->
    (∀ pre x W0 W1, J pre W0 -> Below W0.heap.size W0 W1 -> Px (pre, x) W0.heap.size W1 -> YieldAt Fence.wide 0 P l (encs x) W1 fun e W2 => (e = .returned (.bool true) /\ J (pre ++ [x]) W2 /\ WStays Kp W1 W2) \/ (e = .returned (.bool false) /\ Jx (pre ++ [x]) W2)) ->
    J [] W -> CallsIn Fence.wide 0 P gf (#[.func (.yield l) #[] #[]] ++ lb) W fun e W2 => (∃ v, e = .returned v) /\ ((∃ xs, S xs /\ J xs W2) \/ (∃ pre, Sp pre /\ Jx pre W2))
def LeftBy {α : Type} (B : Nat) (Kp : Nat -> Prop) (I : List α -> World -> Prop) (Ix : Code -> List α -> World -> Prop) (ys : List α) (W : World) : Exit -> Act -> World -> Prop
  | .normal, _, W2 => KeepsFrom B W W2 /\ WStays Kp W W2 /\ I ys W2
  | .ret, _, W2 => KeepsFrom B W W2 /\ Ix .ret ys W2
  | .exit k, _, W2 => KeepsFrom B W W2 /\ Ix (.exit k) ys W2
  | .goto k, _, W2 => KeepsFrom B W W2 /\ Ix (.goto k) ys W2
  | .panic _, _, _ => False
  | .outgrown, _, _ => False
theorem below_row {X Y : World} (h : Below X.heap.size X Y) : X.grownBy Y none := ⟨h.os, h.tape, h.output, h.size, fun k hk _ => h.block k hk⟩
theorem below_at {X Y : World} (h : Below X.heap.size X Y) {k : Nat} {o : Obj} (hk : X.heap[k]? = some o) : Y.heap[k]? = some o := (h.block k (Array.getElem?_eq_some_iff.1 hk).1).trans hk
theorem own_more {β : Type} {B : Nat} {I : β -> World -> Prop} (h : OwnFrom B I) : Grows I := fun s X Y hs hb => h s X Y none hs (below_row hb) (fun _ e => by cases e)
theorem wpIn_rangeFunc_memA {P : Program} {α : Type} {g : Operand} {ps : Array Tmp} {assign body : Code} {Q : Exit -> Act -> World -> Prop} {a : Act} {w : World} {gf : Nat} {lb : Array Value}
    (hg : a.eval g = .func (.func gf) #[] lb) (eg : ∀ args w, (callFunc gf args).run P w = .ok (.enter gf args) w) {encs : α -> Array Value} (hps : ∀ x, (encs x).size = ps.size)
    {Px : List α × α -> Nat -> World -> Prop} (hPx : ∀ N, OwnFrom w.heap.size (fun s => Px s N)) {S Sp : List α -> Prop} {Kp : Nat -> Prop} (hU : ∀ k, Kp k -> k < w.heap.size) (hseq : ∀ W, Below w.heap.size w W -> SeqMem P gf lb encs Kp Px S Sp W)
    (I : List α -> World -> Prop) (Ix : Code -> List α -> World -> Prop) (hI : OwnFrom w.heap.size I) (hIx : ∀ c, OwnFrom w.heap.size (Ix c)) (h0 : I [] w) {Ax : α × Act -> World -> Prop} (hAx : OwnFrom w.heap.size Ax)
    (hassign : ∀ (l : Nat) (x : α) (W : World) (K : Act -> World -> Prop), (∀ b W2, Below W.heap.size W W2 -> Ax (x, b) W2 -> K b W2) ->
      assign.wpIn (Fence.wide.inRound l) 0 P (Exit.then K (fun _ _ _ => False)) { tmps := (ps.zip (encs x)).foldl (fun t (p, v) => t.setIfInBounds p v) a.tmps, defers := [] } W)
    (hbody : ∀ (l : Nat) (pre : List α) (x : α) (b : Act) (W0 W : World), Ax (x, b) W -> I pre W0 -> W0.heap.size <= W.heap.size -> (∀ (k : Nat) (o : Obj), W0.heap[k]? = some o -> o.isCells = true -> W.heap[k]? = some o) -> Px (pre, x) W0.heap.size W -> I pre W -> body.wpIn (Fence.wide.inRound l) 0 P (LeftBy w.heap.size Kp I Ix (pre ++ [x]) W) b W)
    (hdone : ∀ (D : Nat) (xs : List α) (W : World), w.heap.size <= D -> S xs -> I xs W -> W.heap[D]? = some (.deferred (some [])) -> Q .normal { a with defers := { target := .collected D, args := #[] } :: a.defers } W)
    (hstop : ∀ (D : Nat) (c : Code) (pre : List α) (W : World), w.heap.size <= D -> Sp pre -> Ix c pre W -> W.heap[D]? = some (.deferred (some [])) -> c.wpIn Fence.wide 0 P Q { a with defers := { target := .collected D, args := #[] } :: a.defers } W) :
    (Code.rangeFunc g ps assign body).wpIn Fence.wide 0 P Q a w := by
  refine wpIn_rangeFunc fun fn hfn => ?_
  obtain ⟨B, hB⟩ : ∃ B, B = w.heap.size := ⟨_, rfl⟩
  rw [<- hB] at hseq hPx hI hIx hbody hdone hstop hU hAx
  let R : LoopState -> Option Code -> Obj := fun s p => .loop { state := s, pending := p, fn := fn, tmps := a.tmps, params := ps, assign := assign, body := body, defers := B }
  obtain ⟨V, hV⟩ : ∃ V, V = (w.alloc (.deferred (some []))).alloc (R .ready none) := ⟨_, rfl⟩
  have sV : V.heap.size = B + 2 := by rw [hV]; simp; omega
  have rV : V.heap[B + 1]? = some (R .ready none) := by
    have h := World.alloc_heap_new (w.alloc (.deferred (some []))) (R .ready none)
    rwa [World.size_alloc, <- hB, <- hV] at h
  have dV : V.heap[B]? = some (.deferred (some [])) := by
    rw [hV, hB]
    exact (Below.heap_alloc _ _ _ (by simp)).trans (World.alloc_heap_new w _)
  have iV : I [] V := by rw [hV]; exact hI.alloc _ (hI.alloc _ h0)
  have bV : Below B w V := by
    rw [hV, hB]
    exact ((Below.refl _ w).alloc (Nat.le_refl _) _).alloc (by simp) _
  have hU2 := hU
  -- what the record and the block of deferred calls are while the iterator goes on
  let J : List α -> World -> Prop := fun pre W => I pre W /\ W.heap[B + 1]? = some (R .ready none) /\ W.heap[B]? = some (.deferred (some []))
  let Jx : List α -> World -> Prop := fun pre W => ∃ c, Ix c pre W /\ W.heap[B + 1]? = some (R .done (some c)) /\ W.heap[B]? = some (.deferred (some []))
  have gJ : Grows J := fun s X Y h hb => ⟨own_more hI s X Y h.1 hb, below_at hb h.2.1, below_at hb h.2.2⟩
  have gX : Grows Jx := fun s X Y h hb => by
    obtain ⟨c, h1, h2, h3⟩ := h
    exact ⟨c, own_more (hIx c) s X Y h1 hb, below_at hb h2, below_at hb h3⟩
  -- a turn of the record
  have turn : ∀ (X : World) (o o' : Obj), X.heap[B + 1]? = some o -> o.isCells = false -> WStays Kp X (X.putObj (B + 1) o') := fun X o o' ho _ =>
    ⟨by simp, fun k hk => World.putObj_heap_other (by have := hU k hk; omega)⟩
  refine ⟨B + 1, [{ target := .collected B, args := #[] }], V, { target := .fn (.func gf) lb, args := #[.func (.yield (B + 1)) #[] #[]] }, V, gf, #[.func (.yield (B + 1)) #[] #[]] ++ lb, V, ?_, ?_, ?_, ?_, fun h => (by cases h), ?_⟩
  · subst hB
    rw [hV]
    exact run_enterLoop_outer _ _ _ _ _
  · simp only [resolve, hg]
    simp [go_sem]
  · intro f _
    trivial
  · simp [invoke, go_sem, eg]
  refine (hseq V bV (B + 1) J Jx gJ gX ?_ ⟨iV, rV, dV⟩).mono ?_
  · rintro pre x W0 V1 hj hb1 hp1
    have hr1 : V1.heap[B + 1]? = some (R .ready none) := (gJ pre W0 V1 hj hb1).2.1
    refine ⟨fn, _, assign, body, run_yield hr1 (hps x), roundIn_of_wpIn hfn (hassign (B + 1) x V1 _ fun b W hb2 hax => ?_)⟩
    have hb : Below W0.heap.size W0 W := hb1.trans (hb2.mono hb1.size)
    have hp : Px (pre, x) W0.heap.size W := own_more (hPx _) (pre, x) V1 W hp1 hb2
    obtain ⟨hi, hr, hd⟩ := gJ pre W0 W hj hb
    have hlt := (Array.getElem?_eq_some_iff.1 hr).1
    obtain ⟨U, hU⟩ : ∃ U, U = W.putObj (B + 1) (R .busy none) := ⟨_, rfl⟩
    have rU : U.heap[B + 1]? = some (R .busy none) := by rw [hU]; exact World.putObj_heap_same hlt
    have dU : U.heap[B]? = some (.deferred (some [])) := by rw [hU]; exact (World.putObj_heap_other (by omega)).trans hd
    have iU : I pre U := by rw [hU]; exact hI.putObj _ hi (by omega) hr rfl
    have pU : Px (pre, x) W0.heap.size U := by rw [hU]; exact (hPx _).putObj (s := (pre, x)) _ hp (by omega) hr rfl
    have cU : ∀ (k : Nat) (o : Obj), W0.heap[k]? = some o -> o.isCells = true -> U.heap[k]? = some o := fun k o hk ho => by
      have h1 := below_at hb hk
      have h2 : k ≠ B + 1 := fun e => by rw [e, hr] at h1; injection h1 with h1; rw [<- h1] at ho; cases ho
      rw [hU]; exact (World.putObj_heap_other h2).trans h1
    have aU : Ax (x, b) U := by rw [hU]; exact hAx.putObj (s := (x, b)) _ hax (by omega) hr rfl
    have bU : WStays Kp V1 U := (show WStays Kp V1 W from ⟨hb2.size, fun k hk => hb2.block k (by have h1 := hU2 k hk; have h2 := (Array.getElem?_eq_some_iff.1 hr1).1; omega)⟩).trans <| by rw [hU]; exact turn W _ _ hr rfl
    refine ⟨U, by rw [hU]; exact run_beginRound hr rfl, ?_⟩
    -- the round's end: the record is ready again, or done
    have fin : ∀ (j : Option Code) (X : World), KeepsFrom B U X ->
        (Instr.endRound (B + 1) j).run P X = .ok (.bool j.isNone) (X.putObj (B + 1) (R (if j.isNone then .ready else .done) j)) /\ X.heap[B + 1]? = some (R .busy none) /\
        (X.putObj (B + 1) (R (if j.isNone then .ready else .done) j)).heap[B + 1]? = some (R (if j.isNone then .ready else .done) j) /\ (X.putObj (B + 1) (R (if j.isNone then .ready else .done) j)).heap[B]? = some (.deferred (some [])) := fun j X hk => by
      have hX : X.heap[B + 1]? = some (R .busy none) := hk.same _ _ (by omega) rU rfl
      exact ⟨run_endRound j hX, hX, World.putObj_heap_same (Array.getElem?_eq_some_iff.1 hX).1, (World.putObj_heap_other (by omega)).trans (hk.same _ _ (Nat.le_refl _) dU rfl)⟩
    have out : ∀ (c : Code) (X : World), KeepsFrom B U X -> Ix c (pre ++ [x]) X -> ∃ v X2, (Instr.endRound (B + 1) (some c)).run P X = .ok v X2 /\ ((Ending.returned v = .returned (.bool true) /\ J (pre ++ [x]) X2 /\ WStays Kp V1 X2) \/ (Ending.returned v = .returned (.bool false) /\ Jx (pre ++ [x]) X2)) := fun c X hk hx => by
      obtain ⟨h1, h2, h3, h4⟩ := fin (some c) X hk
      exact ⟨_, _, h1, .inr ⟨rfl, c, (hIx c).putObj _ hx (by omega) h2 rfl, h3, h4⟩⟩
    refine wpIn_mono (hbody (B + 1) pre x b W0 U aU hj.1 (by rw [hU]; simpa using hb.size) cU pU iU) fun e _ X hX => ?_
    cases e with
    | normal =>
      obtain ⟨hk, hb, hi2⟩ := hX
      obtain ⟨h1, h2, h3, h4⟩ := fin none X hk
      exact ⟨_, _, h1, .inl ⟨rfl, ⟨hI.putObj _ hi2 (by omega) h2 rfl, h3, h4⟩, (bU.trans hb).trans (turn X _ _ h2 rfl)⟩⟩
    | ret => exact out .ret X hX.1 hX.2
    | exit k => exact out (.exit k) X hX.1 hX.2
    | goto k => exact out (.goto k) X hX.1 hX.2
    | panic c => exact hX.elim
    | outgrown => exact hX.elim
  · rintro e X ⟨⟨v, rfl⟩, h⟩
    rcases h with ⟨xs, hS, hi, hr, hd⟩ | ⟨pre, hS, c, hi, hr, hd⟩
    · exact ⟨none, _, run_endLoop hr (by simp), hdone B xs _ (by omega) hS (hI.putObj _ hi (by omega) hr rfl) ((World.putObj_heap_other (by omega)).trans hd)⟩
    · exact ⟨some c, _, run_endLoop hr (by simp), hstop B c pre _ (by omega) hS ((hIx c).putObj _ hi (by omega) hr rfl) ((World.putObj_heap_other (by omega)).trans hd)⟩
theorem wp_rangeFunc_memA {P : Program} {α : Type} {g : Operand} {ps : Array Tmp} {assign body : Code} {Q : Exit -> Act -> World -> Prop} {a : Act} {w : World} {gf : Nat} {lb : Array Value}
    (hg : a.eval g = .func (.func gf) #[] lb) (eg : ∀ args w, (callFunc gf args).run P w = .ok (.enter gf args) w) {encs : α -> Array Value} (hps : ∀ x, (encs x).size = ps.size)
    {Px : List α × α -> Nat -> World -> Prop} (hPx : ∀ N, OwnFrom w.heap.size (fun s => Px s N)) {S Sp : List α -> Prop} {Kp : Nat -> Prop} (hU : ∀ k, Kp k -> k < w.heap.size) (hseq : ∀ W, Below w.heap.size w W -> SeqMem P gf lb encs Kp Px S Sp W)
    (I : List α -> World -> Prop) (Ix : Code -> List α -> World -> Prop) (hI : OwnFrom w.heap.size I) (hIx : ∀ c, OwnFrom w.heap.size (Ix c)) (h0 : I [] w) {Ax : α × Act -> World -> Prop} (hAx : OwnFrom w.heap.size Ax)
    (hassign : ∀ (l : Nat) (x : α) (W : World) (K : Act -> World -> Prop), (∀ b W2, Below W.heap.size W W2 -> Ax (x, b) W2 -> K b W2) ->
      assign.wpIn (Fence.wide.inRound l) 0 P (Exit.then K (fun _ _ _ => False)) { tmps := (ps.zip (encs x)).foldl (fun t (p, v) => t.setIfInBounds p v) a.tmps, defers := [] } W)
    (hbody : ∀ (l : Nat) (pre : List α) (x : α) (b : Act) (W0 W : World), Ax (x, b) W -> I pre W0 -> W0.heap.size <= W.heap.size -> (∀ (k : Nat) (o : Obj), W0.heap[k]? = some o -> o.isCells = true -> W.heap[k]? = some o) -> Px (pre, x) W0.heap.size W -> I pre W -> body.wpIn (Fence.wide.inRound l) 0 P (LeftBy w.heap.size Kp I Ix (pre ++ [x]) W) b W)
    (hdone : ∀ (D : Nat) (xs : List α) (W : World), w.heap.size <= D -> S xs -> I xs W -> W.heap[D]? = some (.deferred (some [])) -> Q .normal { a with defers := { target := .collected D, args := #[] } :: a.defers } W)
    (hstop : ∀ (D : Nat) (c : Code) (pre : List α) (W : World), w.heap.size <= D -> Sp pre -> Ix c pre W -> W.heap[D]? = some (.deferred (some [])) -> c.wp P Q { a with defers := { target := .collected D, args := #[] } :: a.defers } W) :
    (Code.rangeFunc g ps assign body).wp P Q a w :=
  wpIn_wide.1 (wpIn_rangeFunc_memA hg eg hps hPx hU hseq I Ix hI hIx h0 hAx hassign hbody hdone fun D c pre W h1 h2 h3 h4 => wpIn_wide.2 (hstop D c pre W h1 h2 h3 h4))
theorem calls_of_wp_marks {P : Program} {f : FuncId} {fn : Func} {c : Code} {args : Array Value} {w : World} {R : Ending -> World -> Prop} (hf : P.funcs[f]? = some fn) (hb : fn.body = some c)
    (h : c.wp P (bodyPostM Fence.wide 0 P fn R) { tmps := args ++ Array.replicate (fn.ntmps - args.size) undef, defers := [] } w) : Calls P f args w R :=
  (callsIn_wide (n := 0)).1 (callsIn_of_wp_marks hf hb trivial (wpIn_wide.2 h) rfl)
def Calm (Q : Exit -> Act -> World -> Prop) : Exit -> Act -> World -> Prop
  | .panic _, _, _ => False
  | .outgrown, _, _ => False
  | e, a, w => Q e a w
theorem Calm.normal {Q : Exit -> Act -> World -> Prop} {a : Act} {w : World} (h : Q .normal a w) : Calm Q .normal a w := h
section
variable {P : Program} {l n : Nat} {o : Oper} {ops : Array Oper} {a : Act} {w : World} {K K' : Act -> World -> Prop} {Q : Exit -> Act -> World -> Prop}
theorem wp_round (hd : ∀ c, o.op ≠ .defer c) (hK : ∀ a w, K a w -> K' a w) (h : o.wp P a w K (Calm Q)) : o.wpIn (Fence.wide.inRound l) n P a w K' Q := by
  unfold Oper.wp at h
  unfold Oper.wpIn
  refine ⟨fun f _ => trivial, ?_⟩
  rw [Oper.semAt_eq _ _ _ hd]
  generalize (execOp a.eval o).run P w = r at h
  cases r with
  | ok x w1 =>
    cases x with
    | value v => exact hK _ _ h
    | skip => exact hK _ _ h
    | defer d => exact hK _ _ h
    | enter f args =>
      refine ⟨fun e => (by cases e), CallsIn.inRound l (callsIn_wide.2 (Calls.mono h ?_))⟩
      rintro (v | c | _) w2 h2
      · exact hK _ _ h2
      · exact h2.elim
      · obtain ⟨_, _, h3⟩ := h2
        exact h3.elim
    | row r args =>
      refine ⟨fun e => (by cases e), fun c cs _ => ?_⟩
      obtain ⟨v, w2, r1, s1⟩ := h c cs
      exact ⟨v, w2, hK _ _ r1, stepsIn_wide.2 s1⟩
    | _ => exact h.elim
  | halt x w1 =>
    cases x <;> exact h.elim
theorem wpOp_round (hd : ∀ (i : Nat) (o : Oper), ops[i]? = some o -> ∀ c, o.op ≠ .defer c) (i : Nat) (hK : ∀ a w, K a w -> K' a w) (h : wpOp P ops (Calm Q) i K a w) : wpOpIn (Fence.wide.inRound l) n P ops Q i K' a w := by
  unfold wpOp at h
  unfold wpOpIn
  cases hi : ops[i]? with
  | none => rw [hi] at h; exact hK _ _ h
  | some o =>
    rw [hi] at h
    simp only at h ⊢
    by_cases hw : Region.wanted o (yielded ops a.tmps) = true
    · rw [if_pos hw] at h ⊢
      rcases h with h | ⟨_, _, _, h⟩
      · exact wp_round (hd i o hi) hK h
      · exact h.elim
    · rw [if_neg hw] at h ⊢
      exact ⟨fun _ _ => trivial, hK _ _ h⟩
theorem wpAny_round (hd : ∀ (i : Nat) (o : Oper), ops[i]? = some o -> ∀ c, o.op ≠ .defer c) (md : Region.Mode) : ∀ (fuel : Nat) (listed : Array Bool) (a : Act) (w : World), wpAny P md ops (Calm Q) fuel listed a w -> wpAnyIn (Fence.wide.inRound l) n P md ops Q fuel listed a w
  | 0, _, _, _, h => h
  | fuel + 1, listed, a, w, h => ⟨h.1, fun i hi => wpOp_round hd i (fun a w h => wpAny_round hd md fuel _ a w h) (h.2 i hi)⟩
def noDefer (ops : Array Oper) : Bool := ops.all fun o => match o.op with
  | .defer _ => false
  | _ => true
theorem noDefer.out (h : noDefer ops = true) (i : Nat) (o : Oper) (ho : ops[i]? = some o) (c : Call) : o.op ≠ .defer c := fun e => by
  obtain ⟨hi, e2⟩ := Array.getElem?_eq_some_iff.1 ho
  unfold noDefer at h
  have h2 := (Array.all_eq_true.1 h) i hi
  rw [e2] at h2
  simp only [e] at h2
  cases h2
theorem region_round {id : Nat} {S : World -> Prop} (hm : P.follows .mixedOrders = true) (hd : noDefer ops = true) (hS : S w.drew)
    (h : S w.drew -> wpAnyH P .any ops (Calm Q) S ops.size (Array.replicate ops.size false) a w.drew) : (Code.region id ops true).wpIn (Fence.wide.inRound l) n P Q a w :=
  wpIn_region_any hm (wpAny_round (noDefer.out hd) _ _ _ _ _ (wpAny_of_held _ _ _ _ (h hS)))
end
end Go.Proofs.Ythabmlbmlncbmaa
namespace Go.Proofs.Ythabmlbmlncbmaa
open Go.RowKit
set_option linter.unusedVariables false
set_option maxRecDepth 20000
attribute [local go_sem] Oper.semAt_some
theorem rd_kept {W W' : World} {A : Option Addr} {n : Nat} {l : List UInt8} {row : Option Nat} (h : Rd W A n l) (hg : W.grownBy W' row) (hr : ∀ r, row = some r -> ∃ o : Obj, W.heap[r]? = some o /\ o.isCells = false) : Rd W' A n l := by
  refine ⟨h.1, fun hn => ?_⟩
  obtain ⟨b, o, hA, hlt, hc⟩ := h.2 hn
  have h0 := hc 0 (by rw [h.1]; exact hn)
  have hne : some b ≠ row := fun e => by
    obtain ⟨ob, h1, h2⟩ := hr b e.symm
    simp only [World.cell?] at h0
    rw [show W.heap[(⟨b, o + 0, none⟩ : Addr).block]? = some ob from h1] at h0
    cases ob <;> simp_all [Obj.isCells]
  exact ⟨b, o, hA, Nat.lt_of_lt_of_le hlt hg.size, fun i hi => by
    have := hg.block b hlt hne
    have h2 := hc i hi
    simp only [World.cell?] at h2 ⊢
    rw [this]
    exact h2⟩
theorem own_turn {W w1 : World} {n₀ : Nat} {e : TypeId} {size : Nat} {v : Value} {k : Nat} {xs : List Value} (hrow : W.ownsRow n₀ e size v k xs) (hg : W.grownBy w1 v.ownBlock) : KeepsOthers W w1 :=
  KeepsOthers.of_grownBy hg fun j o ej hj => by
    rcases hrow.2 with ⟨rfl, _⟩ | ⟨g, cap, cur, rfl, _, hgb, _⟩
    · simp [Value.ownBlock] at ej
    · obtain rfl : g = j := by simpa [Value.ownBlock] using ej
      rw [hgb] at hj; cases hj; rfl
theorem wpListIn_ldCd {F : Fence} {k : Nat} {w : World} {ops : Array Oper} {rest : List Oper} {o : Oper} {a : Act} {Q : Exit -> Act -> World -> Prop} {b off : Nat} {x : Cd} {A : Option Addr} {n c : Nat} (hgd : o.guard = none) (y : Operand) (ho : o.op = .load 85 y)
    (hx : a.eval y = .pointer (some ⟨b, off, none⟩)) (h : CdL w b off x A n c) (kk : wpListIn F k Try.prog ops Q rest (a.put o.dst (.agg (x.cs A n c))) w) : wpListIn F k Try.prog ops Q (o :: rest) a w :=
  wpListIn_plain hgd fun _ hK => by
    unfold Oper.wpIn
    refine ⟨?_, ?_⟩
    · simp [Oper.about, ho]
    · rw [Oper.semAt_plain F _ _ (by rw [ho]; intro c hc'; cases hc')]
      unfold execOp
      simp only [ho, hx, h.load, Sem.run_bind, Sem.run_pure, Result.andThen_ok]
      exact hK _ _ kk
end Go.Proofs.Ythabmlbmlncbmaa
