/- Pieces of records: plain. -/
import Derived.Test.YtndnmcdbfjgglaaNumB
import Derived.Test.YtndnmcdbfjgglaaGmM
namespace Go.Proofs.Ytndnmcdbfjgglaa
open Go.RowKit
set_option linter.unusedVariables false

/-- How many pieces a record of m bytes takes. -/
def needN (m : Nat) : Nat := if m ≤ 460 then 1 else (m - 1) / 460 + 1
theorem needN_cast (m : Nat) : needZ (m : Int) = (needN m : Nat) := by
  unfold needZ needN
  by_cases h : m ≤ 460
  · rw [if_pos h, if_pos (by omega)]; rfl
  · rw [if_neg h, if_neg (by omega), Int.tdiv_eq_ediv_of_nonneg (by omega)]
    omega
theorem needN_bd (m : Nat) : 1 ≤ needN m ∧ m ≤ 460 * needN m ∧ (460 * (needN m - 1) < m ∨ needN m = 1) := by
  unfold needN
  split <;> omega
def clampS (s : Int) : Int := min (max s 0) 281474976710656
theorem clampS_bd (s : Int) : 0 ≤ clampS s ∧ clampS s ≤ 281474976710656 := by unfold clampS; omega
theorem clampS_id {s : Int} (h : 0 ≤ s ∧ s ≤ 281474976710656) : clampS s = s := by unfold clampS; omega
def pcHead (i n : Nat) (s : Int) : List UInt8 := numB 2 (i : Int) ++ numB 2 (n : Int) ++ numB 8 s
def pcOwn (b : List UInt8) (i : Nat) : List UInt8 := (b.drop (i * 460)).take 460
def piece (n : Nat) (s : Int) (b : List UInt8) (i : Nat) : List UInt8 := pcHead i n s ++ pcOwn b i
def pcs (n : Nat) (s : Int) (b : List UInt8) (j : Nat) : List (List UInt8) := (List.range j).map (piece n s b)
/-- P17.1: the pieces of a record. -/
def splitL (s : Int) (b : List UInt8) : List (List UInt8) := if 1024 < needN b.length then [] else pcs (needN b.length) (clampS s) b (needN b.length)
theorem pcHead_len (i n : Nat) (s : Int) : (pcHead i n s).length = 12 := by simp [pcHead]
theorem pcOwn_len (b : List UInt8) (i : Nat) : (pcOwn b i).length = min 460 (b.length - i * 460) := by simp [pcOwn]
theorem piece_len (n : Nat) (s : Int) (b : List UInt8) (i : Nat) : (piece n s b i).length = 12 + min 460 (b.length - i * 460) := by rw [piece, List.length_append, pcHead_len, pcOwn_len]
theorem pcs_len (n : Nat) (s : Int) (b : List UInt8) (j : Nat) : (pcs n s b j).length = j := by simp [pcs]
theorem pcs_succ (n : Nat) (s : Int) (b : List UInt8) (j : Nat) : pcs n s b (j + 1) = pcs n s b j ++ [piece n s b j] := by simp [pcs, List.range_succ]
theorem pcs_get {n : Nat} {s : Int} {b : List UInt8} {j i : Nat} (h : i < j) : (pcs n s b j)[i]? = some (piece n s b i) := by simp [pcs, h]
theorem pcs_some {n : Nat} {s : Int} {b : List UInt8} {j i : Nat} {x : List UInt8} (h : (pcs n s b j)[i]? = some x) : i < j ∧ x = piece n s b i := by
  have hl := (List.getElem?_eq_some_iff.1 h).1
  rw [pcs_len] at hl
  rw [pcs_get hl] at h
  exact ⟨hl, (Option.some.inj h).symm⟩
/-- How long the first j pieces are, one behind the other. -/
theorem flat_pcs (n : Nat) (s : Int) (b : List UInt8) (j : Nat) : (pcs n s b j).flatten.length = 12 * j + min (j * 460) b.length := by
  induction j with
  | zero => simp [pcs]
  | succ j ih =>
    rw [pcs_succ, List.flatten_append, List.length_append, ih]
    simp only [List.flatten_cons, List.flatten_nil, List.append_nil, piece_len]
    omega
theorem owns_take (b : List UInt8) (j : Nat) : ((List.range j).map (pcOwn b)).flatten = b.take (j * 460) := by
  induction j with
  | zero => simp
  | succ j ih =>
    rw [List.range_succ, List.map_append, List.flatten_append, ih]
    simp only [List.map_cons, List.map_nil, List.flatten_cons, List.flatten_nil, List.append_nil, pcOwn]
    rw [Nat.succ_mul, List.take_add]
/-- Where one of them lies. -/
theorem flat_at {n : Nat} {s : Int} {b : List UInt8} {j i : Nat} (h : i < j) : ((pcs n s b j).flatten.drop (pcs n s b i).flatten.length).take (piece n s b i).length = piece n s b i := by
  have e : pcs n s b j = pcs n s b i ++ piece n s b i :: ((List.range (j - (i + 1))).map fun k => piece n s b (i + 1 + k)) := by
    have h1 : List.range j = List.range i ++ i :: (List.range (j - (i + 1))).map fun k => i + 1 + k := by
      have h2 : j = (i + 1) + (j - (i + 1)) := by omega
      rw [h2, List.range_add, List.range_succ, List.append_assoc, ← h2]
      simp [Nat.add_comm, Nat.add_left_comm]
    unfold pcs
    rw [h1, List.map_append, List.map_cons, List.map_map]
    rfl
  rw [e, List.flatten_append, List.drop_left, List.flatten_cons, List.take_left]

/-- What stands ahead in a piece. -/
def plc (l : List UInt8) : Int := getV (l.take 2)
def cnt (l : List UInt8) : Int := getV ((l.drop 2).take 2)
def sqn (l : List UInt8) : Int := getV ((l.drop 4).take 8)
def HdOk (l : List UInt8) : Prop := (12 ≤ l.length ∧ l.length ≤ 472) ∧ (1 ≤ cnt l ∧ cnt l ≤ 1024) ∧ plc l < cnt l ∧ (0 ≤ sqn l ∧ sqn l ≤ 281474976710656)
instance (l : List UInt8) : Decidable (HdOk l) := by unfold HdOk; infer_instance
theorem get2_bd {p : List UInt8} (h : p.length ≤ 2) : 0 ≤ getV p ∧ getV p ≤ 65535 := by
  have h1 := leN_lt p
  have h2 : 2 ^ (8 * p.length) ≤ 2 ^ 16 := Nat.pow_le_pow_right (by decide) (by omega)
  rw [getV_in _ (by omega)]
  omega
theorem plc_bd (l : List UInt8) : 0 ≤ plc l ∧ plc l ≤ 65535 := get2_bd (by simp; omega)
theorem cnt_bd (l : List UInt8) : 0 ≤ cnt l ∧ cnt l ≤ 65535 := get2_bd (by simp; omega)
theorem plc_piece (n : Nat) (s : Int) (b : List UInt8) (i : Nat) (hi : i < 65536) : plc (piece n s b i) = i := by
  unfold plc piece pcHead
  rw [List.append_assoc, List.append_assoc, List.take_append_of_le_length (by simp), List.take_of_length_le (by simp)]
  exact getV_numB (by decide) (by omega) (by omega)
theorem cnt_piece (n : Nat) (s : Int) (b : List UInt8) (i : Nat) (hn : n < 65536) : cnt (piece n s b i) = n := by
  unfold cnt piece pcHead
  rw [List.append_assoc, List.append_assoc, List.drop_append_of_le_length (by simp), List.drop_of_length_le (by simp), List.nil_append, List.take_append_of_le_length (by simp), List.take_of_length_le (by simp)]
  exact getV_numB (by decide) (by omega) (by omega)
theorem sqn_piece (n : Nat) (s : Int) (b : List UInt8) (i : Nat) (hs : 0 ≤ s ∧ s ≤ 281474976710656) : sqn (piece n s b i) = s := by
  unfold sqn piece pcHead
  rw [List.append_assoc, List.drop_append_of_le_length (by simp), List.drop_of_length_le (by simp), List.nil_append, List.take_append_of_le_length (by simp), List.take_of_length_le (by simp)]
  unfold getV
  rw [leN_numB, show (2 : Int) ^ (8 * 8) = 18446744073709551616 from by decide]
  unfold wrap64
  omega
theorem drop_piece (n : Nat) (s : Int) (b : List UInt8) (i : Nat) : (piece n s b i).drop 12 = pcOwn b i := by
  unfold piece
  exact List.drop_left' (pcHead_len i n s)
/-- A piece out of what it tells. -/
theorem piece_made {l : List UInt8} (h : 12 ≤ l.length) : numB 2 (plc l) ++ numB 2 (cnt l) ++ numB 8 (sqn l) ++ l.drop 12 = l := by
  unfold plc cnt sqn
  rw [numB_getV (by simp; omega) (by decide), numB_getV (by simp; omega) (by decide), numB8_getV (by simp; omega)]
  have e1 : l = l.take 2 ++ (l.drop 2) := (List.take_append_drop 2 l).symm
  have e2 : l.drop 2 = (l.drop 2).take 2 ++ l.drop 4 := by have := (List.take_append_drop 2 (l.drop 2)).symm; rwa [List.drop_drop] at this
  have e3 : l.drop 4 = (l.drop 4).take 8 ++ l.drop 12 := by have := (List.take_append_drop 8 (l.drop 4)).symm; rwa [List.drop_drop] at this
  rw [List.append_assoc, List.append_assoc, ← e3, ← e2, ← e1]

def tails (xs : List (List UInt8)) : List UInt8 := (xs.map (List.drop 12)).flatten
theorem tails_snoc (xs : List (List UInt8)) (x : List UInt8) : tails (xs ++ [x]) = tails xs ++ x.drop 12 := by simp [tails]
/-- The number that the j-th piece told; 0 ahead of the first. -/
def seqAt (xs : List (List UInt8)) (j : Nat) : Int := if j = 0 then 0 else sqn (xs.getD (j - 1) [])
/-- All pieces of one record, in order: as the document says it, piece by piece. -/
def GoodP (xs : List (List UInt8)) (s : Int) : Prop :=
  xs ≠ [] ∧ ∀ (i : Nat) (x : List UInt8), xs[i]? = some x → HdOk x ∧ plc x = i ∧ cnt x = xs.length ∧ sqn x = s ∧ (i + 1 ≠ xs.length → x.length = 472) ∧ (i + 1 = xs.length → 0 < i → x.length ≠ 12)
theorem splitL_ok {s : Int} {b : List UInt8} (h : needN b.length ≤ 1024) : splitL s b = pcs (needN b.length) (clampS s) b (needN b.length) := by unfold splitL; rw [if_neg (by omega)]
theorem tails_pcs (n : Nat) (s : Int) (b : List UInt8) (j : Nat) : tails (pcs n s b j) = b.take (j * 460) := by
  unfold tails pcs
  rw [List.map_map, ← owns_take]
  exact congrArg List.flatten (List.map_congr_left fun i _ => drop_piece n s b i)
theorem split_tails {s : Int} {b : List UInt8} (h : needN b.length ≤ 1024) : tails (splitL s b) = b := by
  rw [splitL_ok h, tails_pcs]
  have := needN_bd b.length
  exact List.take_of_length_le (by omega)
theorem split_good {s : Int} {b : List UInt8} (h : needN b.length ≤ 1024) : GoodP (splitL s b) (clampS s) := by
  have hb := needN_bd b.length
  have hs := clampS_bd s
  rw [splitL_ok h]
  refine ⟨fun e => ?_, fun i x hx => ?_⟩
  · have := congrArg List.length e
    rw [pcs_len] at this
    simp at this
    omega
  · obtain ⟨hi, rfl⟩ := pcs_some hx
    rw [pcs_len, plc_piece _ _ _ _ (by omega), cnt_piece _ _ _ _ (by omega), sqn_piece _ _ _ _ hs]
    refine ⟨⟨?_, ?_, ?_, ?_⟩, rfl, rfl, rfl, fun h1 => ?_, fun h1 h2 => ?_⟩
    · rw [piece_len]; omega
    · rw [cnt_piece _ _ _ _ (by omega)]; omega
    · rw [plc_piece _ _ _ _ (by omega), cnt_piece _ _ _ _ (by omega)]; omega
    · rw [sqn_piece _ _ _ _ hs]; exact hs
    · rw [piece_len]; omega
    · rw [piece_len]; omega
theorem tails_len {xs : List (List UInt8)} {s : Int} (hg : GoodP xs s) : ∀ j, j ≤ xs.length → (tails (xs.take j)).length = (if j = xs.length then (j - 1) * 460 + ((xs.getD (j - 1) []).length - 12) else j * 460) := by
  intro j
  have hpos : 0 < xs.length := List.length_pos_iff.2 hg.1
  induction j with
  | zero => intro _; rw [if_neg (by omega)]; simp [tails]
  | succ j ih =>
    intro hj
    have hx : xs[j]? = some xs[j] := List.getElem?_eq_getElem (by omega)
    have hq := hg.2 j _ hx
    have e : xs.take (j + 1) = xs.take j ++ [xs[j]] := by rw [List.take_add_one, hx]; rfl
    have i1 := ih (by omega)
    rw [if_neg (by omega)] at i1
    rw [e, tails_snoc, List.length_append, i1, List.length_drop]
    by_cases hl : j + 1 = xs.length
    · rw [if_pos hl]
      simp only [Nat.add_sub_cancel, List.getD_eq_getElem?_getD, hx, Option.getD_some]
    · rw [if_neg hl, hq.2.2.2.2.1 hl]
      omega
theorem cut_at {α : Type} (xs : List α) (i : Nat) (h : i < xs.length) : xs = xs.take i ++ xs[i] :: xs.drop (i + 1) := by
  have := List.take_append_drop i xs
  rw [List.drop_eq_getElem_cons h] at this
  exact this.symm
theorem tails_app (xs ys : List (List UInt8)) : tails (xs ++ ys) = tails xs ++ tails ys := by simp [tails]
theorem tails_cut (xs : List (List UInt8)) (i : Nat) (h : i < xs.length) : tails xs = tails (xs.take i) ++ ((xs[i]).drop 12 ++ tails (xs.drop (i + 1))) := by
  have e := congrArg tails (cut_at xs i h)
  rw [tails_app] at e
  exact e
theorem own_mid {T a r q : List UInt8} {i : Nat} (h : T = a ++ (r ++ q)) (ha : a.length = i * 460) (hr : r.length = 460) : pcOwn T i = r := by
  unfold pcOwn
  rw [← ha, h, List.drop_left, ← hr, List.take_left]
theorem own_last {T a r q : List UInt8} {i : Nat} (h : T = a ++ (r ++ q)) (ha : a.length = i * 460) (hq : q = []) (hr : r.length ≤ 460) : pcOwn T i = r := by
  unfold pcOwn
  rw [← ha, h, List.drop_left, hq, List.append_nil, List.take_of_length_le hr]
/-- Pieces of one record are what it is split into. -/
theorem good_split {xs : List (List UInt8)} {s : Int} (hg : GoodP xs s) : xs = splitL s (tails xs) ∧ needN (tails xs).length = xs.length ∧ xs.length ≤ 1024 ∧ (0 ≤ s ∧ s ≤ 281474976710656) := by
  have hpos : 0 < xs.length := List.length_pos_iff.2 hg.1
  have hx0 : xs[0]? = some xs[0] := List.getElem?_eq_getElem hpos
  have h0 := hg.2 0 _ hx0
  have hn : xs.length ≤ 1024 := by have := h0.1.2.1; have := h0.2.2.1; omega
  have hs : 0 ≤ s ∧ s ≤ 281474976710656 := by have := h0.1.2.2.2; rwa [h0.2.2.2.1] at this
  have hL := tails_len hg xs.length (Nat.le_refl _)
  rw [if_pos rfl, List.take_length] at hL
  have hxl : xs[xs.length - 1]? = some xs[xs.length - 1] := List.getElem?_eq_getElem (by omega)
  have hl := hg.2 _ _ hxl
  have hgd : xs.getD (xs.length - 1) [] = xs[xs.length - 1] := by rw [List.getD_eq_getElem?_getD, hxl]; rfl
  rw [hgd] at hL
  have hneed : needN (tails xs).length = xs.length := by
    have h1 := hl.1.1
    have h2 := hl.2.2.2.2.2 (by omega)
    have h3 := needN_bd (tails xs).length
    omega
  refine ⟨?_, hneed, hn, hs⟩
  rw [splitL_ok (by omega), hneed, clampS_id hs]
  apply List.ext_getElem?
  intro i
  by_cases hi : i < xs.length
  · rw [pcs_get hi]
    have hxi : xs[i]? = some xs[i] := List.getElem?_eq_getElem hi
    have hq := hg.2 i _ hxi
    rw [hxi]
    congr 1
    rw [← piece_made hq.1.1.1]
    unfold piece pcHead
    rw [hq.2.1, hq.2.2.1, hq.2.2.2.1]
    congr 1
    have hi1 := tails_len hg i (Nat.le_of_lt hi)
    rw [if_neg (Nat.ne_of_lt hi)] at hi1
    have hT := tails_cut xs i hi
    have hq1 := hq.1.1.2
    have hq2 := hq.2.2.2.2.1
    clear hq h0 hl hL hneed hgd hxl hx0
    by_cases hlast : i + 1 = xs.length
    · refine (own_last hT hi1 ?_ ?_).symm
      · rw [hlast, List.drop_length]; rfl
      · rw [List.length_drop]; omega
    · exact (own_mid hT hi1 (by rw [List.length_drop, hq2 hlast])).symm
  · rw [List.getElem?_eq_none (by omega), List.getElem?_eq_none (by rw [pcs_len]; omega)]
/-- What the program asks: all heads are, and the pieces are what their bytes are split into. -/
theorem good_iff (xs : List (List UInt8)) : ((∀ x ∈ xs, HdOk x) ∧ xs = splitL (seqAt xs xs.length) (tails xs)) ↔ GoodP xs (seqAt xs xs.length) := by
  constructor
  · rintro ⟨h1, h2⟩
    have hneed : needN (tails xs).length ≤ 1024 := by
      by_cases h : needN (tails xs).length ≤ 1024
      · exact h
      · have e : xs = [] := by rw [h2]; unfold splitL; rw [if_pos (by omega)]
        subst e
        exact absurd (by decide) h
    have hg := split_good (s := seqAt xs xs.length) hneed
    rw [← h2] at hg
    have hpos : 0 < xs.length := List.length_pos_iff.2 hg.1
    have hxl : xs[xs.length - 1]? = some xs[xs.length - 1] := List.getElem?_eq_getElem (by omega)
    have e : seqAt xs xs.length = clampS (seqAt xs xs.length) := by
      have := (hg.2 _ _ hxl).2.2.2.1
      conv => lhs; unfold seqAt
      rw [if_neg (by omega), List.getD_eq_getElem?_getD, hxl]
      exact this
    rwa [← e] at hg
  · intro hg
    refine ⟨fun x hx => ?_, (good_split hg).1⟩
    obtain ⟨i, hi, e⟩ := List.getElem_of_mem hx
    exact (hg.2 i x (by rw [List.getElem?_eq_getElem hi, e])).1
theorem good_seq {xs : List (List UInt8)} {s : Int} (hg : GoodP xs s) : seqAt xs xs.length = s ∧ sqn (xs.getD 0 []) = s := by
  have hpos : 0 < xs.length := List.length_pos_iff.2 hg.1
  have hxl : xs[xs.length - 1]? = some xs[xs.length - 1] := List.getElem?_eq_getElem (by omega)
  have hx0 : xs[0]? = some xs[0] := List.getElem?_eq_getElem hpos
  refine ⟨?_, ?_⟩
  · unfold seqAt
    rw [if_neg (by omega), List.getD_eq_getElem?_getD, hxl]
    exact (hg.2 _ _ hxl).2.2.2.1
  · rw [List.getD_eq_getElem?_getD, hx0]
    exact (hg.2 _ _ hx0).2.2.2.1
open Classical in
/-- P17.2: what pieces are joined to. -/
noncomputable def joinL (xs : List (List UInt8)) : Int × List UInt8 × Bool := if GoodP xs (seqAt xs xs.length) then (seqAt xs xs.length, tails xs, true) else (0, [], false)
theorem joinL_yes {xs : List (List UInt8)} {s : Int} (h : GoodP xs s) : joinL xs = (s, tails xs, true) := by
  have e := (good_seq h).1
  unfold joinL
  rw [e, if_pos h]
theorem joinL_no {xs : List (List UInt8)} (h : ∀ s, ¬ GoodP xs s) : joinL xs = (0, [], false) := by
  unfold joinL
  rw [if_neg (h _)]
theorem joinL_split {s : Int} {b : List UInt8} (h : needN b.length ≤ 1024) : joinL (splitL s b) = (clampS s, b, true) := by rw [joinL_yes (split_good h), split_tails h]
end Go.Proofs.Ytndnmcdbfjgglaa
