/- PtM, GmN, Own, DMem, RowV, RowL, Grow, PtA, ScA, ScM, ScM2, Seal2 -/
import Derived.Test.YthabmlbmlncbmaaGreatQa1
import Derived.OwnWalk
import Derived.Maps.RangeWalk
import Derived.Deep.MidRow
import Derived.Deep.WholeRow
import Derived.Deep.RegionHeld3
import Derived.Deep.RegionWith
namespace Go.Proofs.YthabmlbmlncbmaaGreat
open Go.RowKit
set_option linter.unusedVariables false
def needN (m : Nat) : Nat := if m <= 460 then 1 else (m - 1) / 460 + 1
theorem needN_cast (m : Nat) : needZ (m : Int) = (needN m : Nat) := by
  unfold needZ needN
  by_cases h : m <= 460
  · rw [if_pos h, if_pos (by omega)]; rfl
  · rw [if_neg h, if_neg (by omega), Int.tdiv_eq_ediv_of_nonneg (by omega)]
    omega
theorem needN_bd (m : Nat) : 1 <= needN m /\ m <= 460 * needN m /\ (460 * (needN m - 1) < m \/ needN m = 1) := by
  unfold needN
  split <;> omega
def clampS (s : Int) : Int := min (max s 0) 281474976710656
theorem clampS_bd (s : Int) : 0 <= clampS s /\ clampS s <= 281474976710656 := by unfold clampS; omega
theorem clampS_id {s : Int} (h : 0 <= s /\ s <= 281474976710656) : clampS s = s := by unfold clampS; omega
def pcHead (i n : Nat) (s : Int) : List UInt8 := numB 2 (i : Int) ++ numB 2 (n : Int) ++ numB 8 s
def pcOwn (b : List UInt8) (i : Nat) : List UInt8 := (b.drop (i * 460)).take 460
def piece (n : Nat) (s : Int) (b : List UInt8) (i : Nat) : List UInt8 := pcHead i n s ++ pcOwn b i
def pcs (n : Nat) (s : Int) (b : List UInt8) (j : Nat) : List (List UInt8) := (List.range j).map (piece n s b)
def splitL (s : Int) (b : List UInt8) : List (List UInt8) := if 1024 < needN b.length then [] else pcs (needN b.length) (clampS s) b (needN b.length)
theorem pcHead_len (i n : Nat) (s : Int) : (pcHead i n s).length = 12 := by simp [pcHead]
theorem pcOwn_len (b : List UInt8) (i : Nat) : (pcOwn b i).length = min 460 (b.length - i * 460) := by simp [pcOwn]
theorem piece_len (n : Nat) (s : Int) (b : List UInt8) (i : Nat) : (piece n s b i).length = 12 + min 460 (b.length - i * 460) := by rw [piece, List.length_append, pcHead_len, pcOwn_len]
theorem pcs_len (n : Nat) (s : Int) (b : List UInt8) (j : Nat) : (pcs n s b j).length = j := by simp [pcs]
theorem pcs_succ (n : Nat) (s : Int) (b : List UInt8) (j : Nat) : pcs n s b (j + 1) = pcs n s b j ++ [piece n s b j] := by simp [pcs, List.range_succ]
theorem pcs_get {n : Nat} {s : Int} {b : List UInt8} {j i : Nat} (h : i < j) : (pcs n s b j)[i]? = some (piece n s b i) := by simp [pcs, h]
theorem pcs_some {n : Nat} {s : Int} {b : List UInt8} {j i : Nat} {x : List UInt8} (h : (pcs n s b j)[i]? = some x) : i < j /\ x = piece n s b i := by
  have hl := (List.getElem?_eq_some_iff.1 h).1
  rw [pcs_len] at hl
  rw [pcs_get hl] at h
  exact ⟨hl, (Option.some.inj h).symm⟩
theorem flat_pcs (n : Nat) (s : Int) (b : List UInt8) (j : Nat) : (pcs n s b j).flatten.length = 12 * j + min (j * 460) b.length := by
  induction j with
  | zero => simp [pcs]
  | succ j ih =>
    rw [pcs_succ, List.flatten_append, List.length_append, ih]
    simp only [List.flatten_cons, List.flatten_nil, List.append_nil, piece_len]
    omega
theorem owns_take (b : List UInt8) (j : Nat) : ((List.range j).map (pcOwn b)).flatten = b.take (j * 460) := by
  induction j with
  | zero => simp
  | succ j ih =>
    rw [List.range_succ, List.map_append, List.flatten_append, ih]
    simp only [List.map_cons, List.map_nil, List.flatten_cons, List.flatten_nil, List.append_nil, pcOwn]
    rw [Nat.succ_mul, List.take_add]
theorem flat_at {n : Nat} {s : Int} {b : List UInt8} {j i : Nat} (h : i < j) : ((pcs n s b j).flatten.drop (pcs n s b i).flatten.length).take (piece n s b i).length = piece n s b i := by
  have e : pcs n s b j = pcs n s b i ++ piece n s b i :: ((List.range (j - (i + 1))).map fun k => piece n s b (i + 1 + k)) := by
    have h1 : List.range j = List.range i ++ i :: (List.range (j - (i + 1))).map fun k => i + 1 + k := by
      have h2 : j = (i + 1) + (j - (i + 1)) := by omega
      rw [h2, List.range_add, List.range_succ, List.append_assoc, <- h2]
      simp [Nat.add_comm, Nat.add_left_comm]
    unfold pcs
    rw [h1, List.map_append, List.map_cons, List.map_map]
    rfl
  rw [e, List.flatten_append, List.drop_left, List.flatten_cons, List.take_left]
def plc (l : List UInt8) : Int := getV (l.take 2)
def cnt (l : List UInt8) : Int := getV ((l.drop 2).take 2)
def sqn (l : List UInt8) : Int := getV ((l.drop 4).take 8)
def HdOk (l : List UInt8) : Prop := (12 <= l.length /\ l.length <= 472) /\ (1 <= cnt l /\ cnt l <= 1024) /\ plc l < cnt l /\ (0 <= sqn l /\ sqn l <= 281474976710656)
instance (l : List UInt8) : Decidable (HdOk l) := by unfold HdOk; infer_instance
theorem plc_piece (n : Nat) (s : Int) (b : List UInt8) (i : Nat) (hi : i < 65536) : plc (piece n s b i) = i := by
  unfold plc piece pcHead
  rw [List.append_assoc, List.append_assoc, List.take_append_of_le_length (by simp), List.take_of_length_le (by simp)]
  exact getV_numB (by decide) (by omega) (by omega)
theorem cnt_piece (n : Nat) (s : Int) (b : List UInt8) (i : Nat) (hn : n < 65536) : cnt (piece n s b i) = n := by
  unfold cnt piece pcHead
  rw [List.append_assoc, List.append_assoc, List.drop_append_of_le_length (by simp), List.drop_of_length_le (by simp), List.nil_append, List.take_append_of_le_length (by simp), List.take_of_length_le (by simp)]
  exact getV_numB (by decide) (by omega) (by omega)
theorem sqn_piece (n : Nat) (s : Int) (b : List UInt8) (i : Nat) (hs : 0 <= s /\ s <= 281474976710656) : sqn (piece n s b i) = s := by
  unfold sqn piece pcHead
  rw [List.append_assoc, List.drop_append_of_le_length (by simp), List.drop_of_length_le (by simp), List.nil_append, List.take_append_of_le_length (by simp), List.take_of_length_le (by simp)]
  unfold getV
  rw [leN_numB, show (2 : Int) ^ (8 * 8) = 18446744073709551616 from by decide]
  unfold wrap64
  omega
theorem drop_piece (n : Nat) (s : Int) (b : List UInt8) (i : Nat) : (piece n s b i).drop 12 = pcOwn b i := by
  unfold piece
  exact List.drop_left' (pcHead_len i n s)
theorem piece_made {l : List UInt8} (h : 12 <= l.length) : numB 2 (plc l) ++ numB 2 (cnt l) ++ numB 8 (sqn l) ++ l.drop 12 = l := by
  unfold plc cnt sqn
  rw [numB_getV (by simp; omega) (by decide), numB_getV (by simp; omega) (by decide), numB8_getV (by simp; omega)]
  have e1 : l = l.take 2 ++ (l.drop 2) := (List.take_append_drop 2 l).symm
  have e2 : l.drop 2 = (l.drop 2).take 2 ++ l.drop 4 := by have := (List.take_append_drop 2 (l.drop 2)).symm; rwa [List.drop_drop] at this
  have e3 : l.drop 4 = (l.drop 4).take 8 ++ l.drop 12 := by have := (List.take_append_drop 8 (l.drop 4)).symm; rwa [List.drop_drop] at this
  rw [List.append_assoc, List.append_assoc, <- e3, <- e2, <- e1]
def tails (xs : List (List UInt8)) : List UInt8 := (xs.map (List.drop 12)).flatten
theorem tails_snoc (xs : List (List UInt8)) (x : List UInt8) : tails (xs ++ [x]) = tails xs ++ x.drop 12 := by simp [tails]
def seqAt (xs : List (List UInt8)) (j : Nat) : Int := if j = 0 then 0 else sqn (xs.getD (j - 1) [])
def GoodP (xs : List (List UInt8)) (s : Int) : Prop :=
  xs ≠ [] /\ ∀ (i : Nat) (x : List UInt8), xs[i]? = some x -> HdOk x /\ plc x = i /\ cnt x = xs.length /\ sqn x = s /\ (i + 1 ≠ xs.length -> x.length = 472) /\ (i + 1 = xs.length -> 0 < i -> x.length ≠ 12)
theorem splitL_ok {s : Int} {b : List UInt8} (h : needN b.length <= 1024) : splitL s b = pcs (needN b.length) (clampS s) b (needN b.length) := by unfold splitL; rw [if_neg (by omega)]
theorem tails_pcs (n : Nat) (s : Int) (b : List UInt8) (j : Nat) : tails (pcs n s b j) = b.take (j * 460) := by
  unfold tails pcs
  rw [List.map_map, <- owns_take]
  exact congrArg List.flatten (List.map_congr_left fun i _ => drop_piece n s b i)
theorem split_tails {s : Int} {b : List UInt8} (h : needN b.length <= 1024) : tails (splitL s b) = b := by
  rw [splitL_ok h, tails_pcs]
  have := needN_bd b.length
  exact List.take_of_length_le (by omega)
theorem split_good {s : Int} {b : List UInt8} (h : needN b.length <= 1024) : GoodP (splitL s b) (clampS s) := by
  have hb := needN_bd b.length
  have hs := clampS_bd s
  rw [splitL_ok h]
  refine ⟨fun e => ?_, fun i x hx => ?_⟩
  · have := congrArg List.length e
    rw [pcs_len] at this
    simp at this
    omega
  · obtain ⟨hi, rfl⟩ := pcs_some hx
    rw [pcs_len, plc_piece _ _ _ _ (by omega), cnt_piece _ _ _ _ (by omega), sqn_piece _ _ _ _ hs]
    refine ⟨⟨?_, ?_, ?_, ?_⟩, rfl, rfl, rfl, fun h1 => ?_, fun h1 h2 => ?_⟩
    · rw [piece_len]; omega
    · rw [cnt_piece _ _ _ _ (by omega)]; omega
    · rw [plc_piece _ _ _ _ (by omega), cnt_piece _ _ _ _ (by omega)]; omega
    · rw [sqn_piece _ _ _ _ hs]; exact hs
    · rw [piece_len]; omega
    · rw [piece_len]; omega
theorem tails_len {xs : List (List UInt8)} {s : Int} (hg : GoodP xs s) : ∀ j, j <= xs.length -> (tails (xs.take j)).length = (if j = xs.length then (j - 1) * 460 + ((xs.getD (j - 1) []).length - 12) else j * 460) := by
  intro j
  have hpos : 0 < xs.length := List.length_pos_iff.2 hg.1
  induction j with
  | zero => intro _; rw [if_neg (by omega)]; simp [tails]
  | succ j ih =>
    intro hj
    have hx : xs[j]? = some xs[j] := List.getElem?_eq_getElem (by omega)
    have hq := hg.2 j _ hx
    have e : xs.take (j + 1) = xs.take j ++ [xs[j]] := by rw [List.take_add_one, hx]; rfl
    have i1 := ih (by omega)
    rw [if_neg (by omega)] at i1
    rw [e, tails_snoc, List.length_append, i1, List.length_drop]
    by_cases hl : j + 1 = xs.length
    · rw [if_pos hl]
      simp only [Nat.add_sub_cancel, List.getD_eq_getElem?_getD, hx, Option.getD_some]
    · rw [if_neg hl, hq.2.2.2.2.1 hl]
      omega
theorem cut_at {α : Type} (xs : List α) (i : Nat) (h : i < xs.length) : xs = xs.take i ++ xs[i] :: xs.drop (i + 1) := by
  have := List.take_append_drop i xs
  rw [List.drop_eq_getElem_cons h] at this
  exact this.symm
theorem tails_app (xs ys : List (List UInt8)) : tails (xs ++ ys) = tails xs ++ tails ys := by simp [tails]
theorem tails_cut (xs : List (List UInt8)) (i : Nat) (h : i < xs.length) : tails xs = tails (xs.take i) ++ ((xs[i]).drop 12 ++ tails (xs.drop (i + 1))) := by
  have e := congrArg tails (cut_at xs i h)
  rw [tails_app] at e
  exact e
theorem own_mid {T a r q : List UInt8} {i : Nat} (h : T = a ++ (r ++ q)) (ha : a.length = i * 460) (hr : r.length = 460) : pcOwn T i = r := by
  unfold pcOwn
  rw [<- ha, h, List.drop_left, <- hr, List.take_left]
theorem own_last {T a r q : List UInt8} {i : Nat} (h : T = a ++ (r ++ q)) (ha : a.length = i * 460) (hq : q = []) (hr : r.length <= 460) : pcOwn T i = r := by
  unfold pcOwn
  rw [<- ha, h, List.drop_left, hq, List.append_nil, List.take_of_length_le hr]
theorem good_split {xs : List (List UInt8)} {s : Int} (hg : GoodP xs s) : xs = splitL s (tails xs) /\ needN (tails xs).length = xs.length /\ xs.length <= 1024 /\ (0 <= s /\ s <= 281474976710656) := by
  have hpos : 0 < xs.length := List.length_pos_iff.2 hg.1
  have hx0 : xs[0]? = some xs[0] := List.getElem?_eq_getElem hpos
  have h0 := hg.2 0 _ hx0
  have hn : xs.length <= 1024 := by have := h0.1.2.1; have := h0.2.2.1; omega
  have hs : 0 <= s /\ s <= 281474976710656 := by have := h0.1.2.2.2; rwa [h0.2.2.2.1] at this
  have hL := tails_len hg xs.length (Nat.le_refl _)
  rw [if_pos rfl, List.take_length] at hL
  have hxl : xs[xs.length - 1]? = some xs[xs.length - 1] := List.getElem?_eq_getElem (by omega)
  have hl := hg.2 _ _ hxl
  have hgd : xs.getD (xs.length - 1) [] = xs[xs.length - 1] := by rw [List.getD_eq_getElem?_getD, hxl]; rfl
  rw [hgd] at hL
  have hneed : needN (tails xs).length = xs.length := by
    have h1 := hl.1.1
    have h2 := hl.2.2.2.2.2 (by omega)
    have h3 := needN_bd (tails xs).length
    omega
  refine ⟨?_, hneed, hn, hs⟩
  rw [splitL_ok (by omega), hneed, clampS_id hs]
  apply List.ext_getElem?
  intro i
  by_cases hi : i < xs.length
  · rw [pcs_get hi]
    have hxi : xs[i]? = some xs[i] := List.getElem?_eq_getElem hi
    have hq := hg.2 i _ hxi
    rw [hxi]
    congr 1
    rw [<- piece_made hq.1.1.1]
    unfold piece pcHead
    rw [hq.2.1, hq.2.2.1, hq.2.2.2.1]
    congr 1
    have hi1 := tails_len hg i (Nat.le_of_lt hi)
    rw [if_neg (Nat.ne_of_lt hi)] at hi1
    have hT := tails_cut xs i hi
    have hq1 := hq.1.1.2
    have hq2 := hq.2.2.2.2.1
    clear hq h0 hl hL hneed hgd hxl hx0
    by_cases hlast : i + 1 = xs.length
    · refine (own_last hT hi1 ?_ ?_).symm
      · rw [hlast, List.drop_length]; rfl
      · rw [List.length_drop]; omega
    · exact (own_mid hT hi1 (by rw [List.length_drop, hq2 hlast])).symm
  · rw [List.getElem?_eq_none (by omega), List.getElem?_eq_none (by rw [pcs_len]; omega)]
theorem good_iff (xs : List (List UInt8)) : ((∀ x ∈ xs, HdOk x) /\ xs = splitL (seqAt xs xs.length) (tails xs)) ↔ GoodP xs (seqAt xs xs.length) := by
  constructor
  · rintro ⟨h1, h2⟩
    have hneed : needN (tails xs).length <= 1024 := by
      by_cases h : needN (tails xs).length <= 1024
      · exact h
      · have e : xs = [] := by rw [h2]; unfold splitL; rw [if_pos (by omega)]
        subst e
        exact absurd (by decide) h
    have hg := split_good (s := seqAt xs xs.length) hneed
    rw [<- h2] at hg
    have hpos : 0 < xs.length := List.length_pos_iff.2 hg.1
    have hxl : xs[xs.length - 1]? = some xs[xs.length - 1] := List.getElem?_eq_getElem (by omega)
    have e : seqAt xs xs.length = clampS (seqAt xs xs.length) := by
      have := (hg.2 _ _ hxl).2.2.2.1
      conv => lhs; unfold seqAt
      rw [if_neg (by omega), List.getD_eq_getElem?_getD, hxl]
      exact this
    rwa [<- e] at hg
  · intro hg
    refine ⟨fun x hx => ?_, (good_split hg).1⟩
    obtain ⟨i, hi, e⟩ := List.getElem_of_mem hx
    exact (hg.2 i x (by rw [List.getElem?_eq_getElem hi, e])).1
theorem good_seq {xs : List (List UInt8)} {s : Int} (hg : GoodP xs s) : seqAt xs xs.length = s /\ sqn (xs.getD 0 []) = s := by
  have hpos : 0 < xs.length := List.length_pos_iff.2 hg.1
  have hxl : xs[xs.length - 1]? = some xs[xs.length - 1] := List.getElem?_eq_getElem (by omega)
  have hx0 : xs[0]? = some xs[0] := List.getElem?_eq_getElem hpos
  refine ⟨?_, ?_⟩
  · unfold seqAt
    rw [if_neg (by omega), List.getD_eq_getElem?_getD, hxl]
    exact (hg.2 _ _ hxl).2.2.2.1
  · rw [List.getD_eq_getElem?_getD, hx0]
    exact (hg.2 _ _ hx0).2.2.2.1
open Classical in
noncomputable def joinL (xs : List (List UInt8)) : Int × List UInt8 × Bool := if GoodP xs (seqAt xs xs.length) then (seqAt xs xs.length, tails xs, true) else (0, [], false)
theorem joinL_yes {xs : List (List UInt8)} {s : Int} (h : GoodP xs s) : joinL xs = (s, tails xs, true) := by
  have e := (good_seq h).1
  unfold joinL
  rw [e, if_pos h]
theorem joinL_no {xs : List (List UInt8)} (h : ∀ s, ¬ GoodP xs s) : joinL xs = (0, [], false) := by
  unfold joinL
  rw [if_neg (h _)]
end Go.Proofs.YthabmlbmlncbmaaGreat
namespace Go.Proofs.YthabmlbmlncbmaaGreat
open Go.RowKit
set_option linter.unusedVariables false
theorem Place_yes (n : Int) (w : World) :
    Calls Tryz.prog 34 #[.int .i64 n] w fun e w' => e = .returned (.bool (decide (Plc n))) /\ w = w' := by
  by_cases h1 : 0 <= n
  · by_cases h2 : n <= 281474976710656
    all_goals
      go_enter Tryz.func34, Tryz.ntmps34
      go_wp2
      go_ret
      exact ⟨ret_bool (by rw [Bool.eq_iff_iff, decide_eq_true_iff]; unfold Plc; simp <;> omega), rfl⟩
  · go_enter Tryz.func34, Tryz.ntmps34
    go_wp2
    go_ret
    exact ⟨ret_bool (by rw [Bool.eq_iff_iff, decide_eq_true_iff]; unfold Plc; simp <;> omega), rfl⟩
theorem GNeed_any (n : Int) (w : World) (hr : -9223372036854775808 <= n /\ n <= 9223372036854775807) :
    Calls Tryz.prog 77 #[.int .i64 n] w fun e w' => e = .returned (.int .i64 (needZ n)) /\ w = w' := by
  unfold needZ
  by_cases h1 : n <= 460
  · rw [if_pos h1]
    go_enter Tryz.func77, Tryz.ntmps77
    go_wp2
    go_ret
    exact ⟨rfl, rfl⟩
  · rw [if_neg h1]
    have e1 : (n - 1).tdiv 460 = (n - 1) / 460 := Int.tdiv_eq_ediv_of_nonneg (by omega)
    go_enter Tryz.func77, Tryz.ntmps77
    go_wp2
    go_ret
    exact ⟨by first | rfl | exact ret_int (by rw [e1]; go_num), rfl⟩
theorem RNeed_any (n : Int) (w : World) (hr : -9223372036854775808 <= n /\ n <= 9223372036854775807) :
    Calls Tryz.prog 47 #[.int .i64 n] w fun e w' => e = .returned (.int .i64 (needZ n)) /\ w = w' := by
  rw [needZ_eq]
  by_cases h1 : n < 1
  · rw [if_pos h1]
    go_enter Tryz.func47, Tryz.ntmps47
    go_wp2
    go_ret
    exact ⟨rfl, rfl⟩
  · rw [if_neg h1]
    have e1 : n.tdiv 460 = n / 460 := Int.tdiv_eq_ediv_of_nonneg (by omega)
    have e2 : n.tmod 460 = n % 460 := Int.tmod_eq_emod_of_nonneg (by omega)
    by_cases h2 : 0 < n.tmod 460
    · rw [if_pos h2]
      go_enter Tryz.func47, Tryz.ntmps47
      go_wp2
      go_ret
      exact ⟨by first | rfl | exact ret_int (by rw [e1]; go_num), rfl⟩
    · rw [if_neg h2, Int.add_zero]
      go_enter Tryz.func47, Tryz.ntmps47
      go_wp2
      go_ret
      exact ⟨by first | rfl | exact ret_int (by rw [e1]; go_num), rfl⟩
end Go.Proofs.YthabmlbmlncbmaaGreat
namespace Go.Proofs.YthabmlbmlncbmaaGreat
open Go.RowKit
theorem Rd.below' {w w' : World} {A : Option Addr} {n B : Nat} {l : List UInt8} (h : Rd w A n l) (hb : Below B w w') (hB : 0 < n -> ∃ b o, A = some ⟨b, o, none⟩ /\ b < B) : Rd w' A n l :=
  ⟨h.1, fun hn => by
    obtain ⟨b, o, e, hlt, hc⟩ := h.2 hn
    obtain ⟨b', o', e', hB'⟩ := hB hn
    rw [e] at e'
    obtain ⟨rfl, rfl⟩ : b = b' /\ o = o' := by injection e' with e'; injection e' with e1 e2; exact ⟨e1, e2⟩
    exact ⟨b, o, e, by have := hb.size; omega, fun j hj => (hb.cell (p := ⟨b, o + j, none⟩) hB').trans (hc j hj)⟩⟩
theorem own_block {w : World} {B : Nat} {e : TypeId} {A : Option Addr} {n c b o : Nat} {xs : List Value} (h : w.ownsRow B e 1 (.slice A n c) n xs) (hA : A = some ⟨b, o, none⟩) : B <= b := by
  rcases h.2 with ⟨h1, _⟩ | ⟨g, cap, cur, hv, hB, _⟩
  · injection h1 with h1; rw [hA] at h1; cases h1
  · injection hv with h1
    rw [hA] at h1
    injection h1 with h1
    injection h1 with h1
    omega
theorem Rd.block {w w' : World} {A : Option Addr} {n : Nat} {l : List UInt8} (h : Rd w A n l) (hs : w.heap.size <= w'.heap.size) (hk : ∀ b o, A = some ⟨b, o, none⟩ -> w'.heap[b]? = w.heap[b]?) : Rd w' A n l :=
  ⟨h.1, fun hn => by
    obtain ⟨b, o, e, hlt, hc⟩ := h.2 hn
    exact ⟨b, o, e, by omega, fun j hj => (World.cell?_of_block (w := w) (a := ⟨b, o + j, none⟩) (hk b o e)).trans (hc j hj)⟩⟩
theorem Rd.src {w : World} {A : Option Addr} {n : Nat} {l : List UInt8} (h : Rd w A n l) (m : Nat) (hpos : 0 < (cells (l.take m)).length) : ∃ ad, A = some ad /\ ∀ j v, (cells (l.take m))[j]? = some v -> w.cell? (ad.add j) = some v := by
  have hl := h.1
  obtain ⟨b, o, e, _, hc⟩ := h.2 (by simp at hpos; omega)
  refine ⟨⟨b, o, none⟩, e, fun j v hj => ?_⟩
  have hj1 : j < (l.take m).length := by have := (List.getElem?_eq_some_iff.1 hj).1; simpa using this
  have hj2 : j < l.length := by simp at hj1; omega
  rw [Addr.add_lit, hc j hj2, <- hj, cells_get hj1]
  simp
theorem heap_setCell_at {w : World} {g j : Nat} {C : Array Value} {T : TypeId} {fr : Nat × Nat} (h : w.heap[g]? = some (.cells C T fr)) (v : Value) : (w.setCell ⟨g, j, none⟩ v).heap[g]? = some (.cells (C.setIfInBounds j v) T fr) := by
  simp [World.setCell, Array.getElem?_modify, h]
theorem own_mono {w : World} {B B' : Nat} {e : TypeId} {size n : Nat} {v : Value} {xs : List Value} (h : w.ownsRow B e size v n xs) (hB : B' <= B) : w.ownsRow B' e size v n xs :=
  ⟨h.1, h.2.elim .inl fun ⟨g, cap, cur, e1, e2, r⟩ => .inr ⟨g, cap, cur, e1, by omega, r⟩⟩
theorem own_apart {w w' : World} {B : Nat} {e : TypeId} {n : Nat} {v v' : Value} {xs : List Value} (h : w.ownsRow B e 1 v n xs) (hne : ∀ k, v'.ownBlock = some k -> k < B) (hg : w.grownBy w' v'.ownBlock) : w'.ownsRow B e 1 v n xs :=
  ⟨h.1, h.2.elim .inl fun ⟨g, cap, cur, e1, e2, hh, r⟩ => .inr ⟨g, cap, cur, e1, e2, (hg.block g (Array.getElem?_eq_some_iff.1 hh).1 (fun e => by have := hne g e.symm; omega)).trans hh, r⟩⟩
theorem wpList_appg {P : Program} (w : World) {T e : TypeId} (el : El P T e (.int .u8 0) 1 1) {ops : Array Oper} {rest : List Oper} {o : Oper} {a : Act} {Q : Exit -> Act -> World -> Prop} (hgd : Region.wanted o (yielded ops a.tmps) = true) (s x : Operand)
    (ho : o.op = .call { callee := .builtin .append, args := #[s, x], argTypes := #[T, T] })
    (B : Nat) (v : Value) (n : Nat) (xs : List Value) (hs : a.eval s = v) (hown : w.ownsRow B e 1 v n xs)
    (ad : Addr) (m c : Nat) (l : List UInt8) (hx : a.eval x = .slice (some ad) m c) (hr : Rd w (some ad) m l) (hb : n + m <= 140737488355328) (hB : B <= w.heap.size)
    (h : ∀ v' w', w'.ownsRow B e 1 v' (n + m) (xs ++ cells l) -> w.grownBy w' v.ownBlock -> wpList P ops Q rest (a.put o.dst v') w') : wpList P ops Q (o :: rest) a w :=
  wpList_w hgd fun _ hK => by
    obtain ⟨i, hi, hz, h1, h2⟩ := info_parts el.info
    obtain ⟨v', w', hrun, ho', hg, _⟩ := run_append_own (P := P) w B T o.type e i (.int .u8 0) 1 1 el.und hi hz h1 h2 rfl (by decide) v n xs hown ad m c (cells l) (by simp [hr.1]) hr.cells_at (cells_one l)
      (by unfold maxLen; omega) (by omega) hB
    unfold Oper.wp execOp
    simp only [ho, resolve, invoke, builtin, Sem.run_bind, Sem.run_pure, Result.andThen_ok, List.map_toArray, List.map_cons, List.map_nil, hs, hx, hrun]
    exact hK _ _ (h v' w' ho' hg)
theorem run_appg {P : Program} (w : World) {T e : TypeId} (el : El P T e (.int .u8 0) 1 1) (ty : TypeId) (B : Nat) (v : Value) (n : Nat) (xs : List Value) (hown : w.ownsRow B e 1 v n xs)
    (A : Option Addr) (m c : Nat) (l : List UInt8) (hr : Rd w A m l) (hb : n + m <= 140737488355328) (hB : B <= w.heap.size) :
    ∃ v' w', (Builtin.append_ #[T, T] ty #[v, .slice A m c]).run P w = .ok v' w' /\ w'.ownsRow B e 1 v' (n + m) (xs ++ cells l) /\ Below B w w' /\ w.grownBy w' v.ownBlock := by
  obtain ⟨i, hi, hz, h1, h2⟩ := info_parts el.info
  rcases A with _ | ad
  · have hm : m = 0 := by
      rcases Nat.eq_zero_or_pos m with h0 | h0
      · exact h0
      · obtain ⟨_, _, h, _⟩ := hr.2 h0
        cases h
    subst hm
    have hn : l = [] := List.eq_nil_of_length_eq_zero hr.1
    subst hn
    exact ⟨v, w, run_app_nil w B T ty e i 1 el.und hi v n xs hown c, by simpa [cells_nil] using hown, Below.refl _ _, World.grownBy.refl _ _⟩
  · obtain ⟨v', w', hrun, ho, hg, _⟩ := run_append_own (P := P) w B T ty e i (.int .u8 0) 1 1 el.und hi hz h1 h2 rfl (by decide) v n xs hown ad m c (cells l) (by simp [hr.1]) hr.cells_at (cells_one l)
      (by unfold maxLen; omega) (by omega) hB
    exact ⟨v', w', hrun, ho, below_own hown hB hg, hg⟩
theorem step_app {P : Program} (w : World) {T e : TypeId} (el : El P T e (.int .u8 0) 1 1) {ops : Array Oper} {o : Oper} {a : Act} {K : Act -> World -> Prop} {Q : Exit -> Act -> World -> Prop} {E : Prop} (hgd : o.guard = none) (s x : Operand)
    (ho : o.op = .call { callee := .builtin .append, args := #[s, x], argTypes := #[T, T] })
    (B : Nat) (v : Value) (n : Nat) (xs : List Value) (hs : a.eval s = v) (hown : w.ownsRow B e 1 v n xs)
    (A : Option Addr) (m c : Nat) (l : List UInt8) (hx : a.eval x = .slice A m c) (hr : Rd w A m l) (hb : n + m <= 140737488355328) (hB : B <= w.heap.size)
    (h : ∀ v' w', w'.ownsRow B e 1 v' (n + m) (xs ++ cells l) -> Below B w w' -> w.grownBy w' v.ownBlock -> K (a.put o.dst v') w') :
    if Region.wanted o (yielded ops a.tmps) = true then Oper.wp P o a w K Q else E := by
  have hw : Region.wanted o (yielded ops a.tmps) = true := by simp [Region.wanted, hgd]
  rw [if_pos hw]
  obtain ⟨v', w', hrun, h2, h3, h4⟩ := run_appg w el o.type B v n xs hown A m c l hr hb hB
  unfold Oper.wp execOp
  simp only [ho, resolve, invoke, builtin, Sem.run_bind, Sem.run_pure, Result.andThen_ok, List.map_toArray, List.map_cons, List.map_nil, hs, hx, hrun]
  exact h v' w' h2 h3 h4
end Go.Proofs.YthabmlbmlncbmaaGreat
namespace Go.Proofs.YthabmlbmlncbmaaGreat
open Go.RowKit Go.Maps
structure Fr (own : Nat -> Prop) (w w' : World) : Prop where
  os : w'.os = w.os
  tape : w'.tape = w.tape
  output : w'.output = w.output
  size : w.heap.size <= w'.heap.size
  block : ∀ b, b < w.heap.size -> ¬ own b -> w'.heap[b]? = w.heap[b]?
section
variable {own own' : Nat -> Prop} {a b w w' : World}
theorem Fr.refl (own : Nat -> Prop) (w : World) : Fr own w w := ⟨rfl, rfl, rfl, Nat.le_refl _, fun _ _ _ => rfl⟩
theorem Fr.trans' (h : Fr own a w) (k : Fr own' w w') (ho : ∀ x, own' x -> own x \/ a.heap.size <= x) : Fr own a w' :=
  ⟨k.os.trans h.os, k.tape.trans h.tape, k.output.trans h.output, Nat.le_trans h.size k.size, fun i hi hn =>
    (k.block i (Nat.lt_of_lt_of_le hi h.size) (fun hx => by
      rcases ho i hx with h1 | h1
      · exact hn h1
      · omega)).trans (h.block i hi hn)⟩
theorem Fr.trans (h : Fr own a w) (k : Fr own w w') : Fr own a w' := h.trans' k (fun _ hx => .inl hx)
theorem Fr.ofBelow (own : Nat -> Prop) (h : Below w.heap.size w w') : Fr own w w' := ⟨h.os, h.tape, h.output, h.size, fun i hi _ => h.block i hi⟩
theorem Fr.toBelow {B : Nat} (h : Fr own w w') (ho : ∀ x, own x -> B <= x) (hB : B <= w.heap.size) : Below B w w' :=
  ⟨h.os, h.tape, h.output, h.size, fun i hi => h.block i (by omega) (fun hx => by have := ho i hx; omega)⟩
theorem Fr.grown {row : Option Nat} (hg : w.grownBy w' row) (ho : ∀ x, row = some x -> own x) : Fr own w w' :=
  ⟨hg.os, hg.tape, hg.output, hg.size, fun i hi hn => hg.block i hi (fun e => hn (ho i e.symm))⟩
theorem Fr.setCell (w : World) {p : Addr} (hp : own p.block) (u : Value) : Fr own w (w.setCell p u) :=
  ⟨rfl, rfl, rfl, by simp [World.setCell], fun i _ hn => Below.heap_setCell w p u i (fun e => hn (e ▸ hp))⟩
theorem Rd.fr {A : Option Addr} {n : Nat} {l : List UInt8} (h : Rd w A n l) (hf : Fr own w w') (hn : ∀ b o, A = some ⟨b, o, none⟩ -> 0 < n -> ¬ own b) : Rd w' A n l :=
  ⟨h.1, fun hp => by
    obtain ⟨b, o, e, hlt, hc⟩ := h.2 hp
    exact ⟨b, o, e, Nat.lt_of_lt_of_le hlt hf.size, fun j hj => (World.cell?_of_block (w := w) (a := ⟨b, o + j, none⟩) (hf.block b hlt (hn b o e hp))).trans (hc j hj)⟩⟩
end
section
variable {P : Program} {k e T : TypeId} {w w' : World} {m n : Nat} {f : Nat -> Value} {ks : Nat -> Bool}
end
section
variable {P : Program} {ops : Array Oper} {o : Oper} {a : Act} {w : World} {K : Act -> World -> Prop} {Q : Exit -> Act -> World -> Prop} {E : Prop}
end
end Go.Proofs.YthabmlbmlncbmaaGreat
namespace Go.Proofs.YthabmlbmlncbmaaGreat
open Go.RowKit
def WStays (keep : Nat -> Prop) (w w' : World) : Prop := w.heap.size <= w'.heap.size /\ ∀ x, keep x -> w'.heap[x]? = w.heap[x]?
def VRow (K : Nat -> Prop) (w : World) (A : Option Addr) (n sz : Nat) (vs : List Value) : Prop :=
  vs.length = n * sz /\ (A = none -> n = 0) /\ (0 < n -> ∃ b o, A = some ⟨b, o, none⟩ /\ K b /\ b < w.heap.size /\ ∀ j u, vs[j]? = some u -> w.cell? ⟨b, o + j, none⟩ = some u)
def VB (K : Nat -> Prop) (w : World) (u : Value) (l : List UInt8) : Prop :=
  ∃ A m c, u = .slice A m c /\ Rd w A m l /\ ∀ b o, A = some ⟨b, o, none⟩ -> 0 < m -> K b /\ b < w.heap.size
section
variable {K K' : Nat -> Prop} {w w' w'' : World} {A : Option Addr} {n sz : Nat} {vs : List Value} {u : Value} {l : List UInt8} {ls : List (List UInt8)}
theorem WStays.trans (h : WStays K w w') (k : WStays K w' w'') : WStays K w w'' := ⟨Nat.le_trans h.1 k.1, fun x hx => (k.2 x hx).trans (h.2 x hx)⟩
theorem Rd.wstays (h : Rd w A n l) (hs : WStays K w w') (hk : ∀ b o, A = some ⟨b, o, none⟩ -> 0 < n -> K b) : Rd w' A n l :=
  ⟨h.1, fun hn => by
    obtain ⟨b, o, e, hlt, hc⟩ := h.2 hn
    exact ⟨b, o, e, Nat.lt_of_lt_of_le hlt hs.1, fun j hj => (World.cell?_of_block (w := w) (a := ⟨b, o + j, none⟩) (hs.2 b (hk b o e hn))).trans (hc j hj)⟩⟩
theorem VRow.stays (h : VRow K w A n sz vs) (hs : WStays K w w') : VRow K w' A n sz vs :=
  ⟨h.1, h.2.1, fun hp => by obtain ⟨b, o, e, hk, hlt, hc⟩ := h.2.2 hp; exact ⟨b, o, e, hk, Nat.lt_of_lt_of_le hlt hs.1, fun j u hj => (World.cell?_of_block (a := ⟨b, o + j, none⟩) (hs.2 b hk)).trans (hc j u hj)⟩⟩
theorem VRow.mono (h : VRow K w A n sz vs) (hk : ∀ x, K x -> K' x) : VRow K' w A n sz vs :=
  ⟨h.1, h.2.1, fun hp => by obtain ⟨b, o, e, h1, r⟩ := h.2.2 hp; exact ⟨b, o, e, hk b h1, r⟩⟩
theorem VRow.lt (h : VRow K w A n sz vs) : VRow (fun x => K x /\ x < w.heap.size) w A n sz vs :=
  ⟨h.1, h.2.1, fun hp => by obtain ⟨b, o, e, h1, h2, r⟩ := h.2.2 hp; exact ⟨b, o, e, ⟨h1, h2⟩, h2, r⟩⟩
theorem VRow.below (h : VRow K w A n sz vs) (hb : Below w.heap.size w w') : VRow K w' A n sz vs := (h.lt.stays ⟨hb.size, fun x hx => hb.block x hx.2⟩).mono fun _ hx => hx.1
theorem VB.stays (h : VB K w u l) (hs : WStays K w w') : VB K w' u l := by
  obtain ⟨A, m, c, h1, h2, h3⟩ := h
  exact ⟨A, m, c, h1, h2.wstays hs (fun b o e hm => (h3 b o e hm).1), fun b o e hm => ⟨(h3 b o e hm).1, Nat.lt_of_lt_of_le (h3 b o e hm).2 hs.1⟩⟩
theorem VB.mono (h : VB K w u l) (hk : ∀ x, K x -> K' x) : VB K' w u l := by
  obtain ⟨A, m, c, h1, h2, h3⟩ := h
  exact ⟨A, m, c, h1, h2, fun b o e hm => ⟨hk b (h3 b o e hm).1, (h3 b o e hm).2⟩⟩
theorem VB.lt (h : VB K w u l) : VB (fun x => K x /\ x < w.heap.size) w u l := by
  obtain ⟨A, m, c, h1, h2, h3⟩ := h
  exact ⟨A, m, c, h1, h2, fun b o e hm => ⟨h3 b o e hm, (h3 b o e hm).2⟩⟩
theorem own_vrow {B e : Nat} {v : Value} (ho : w.ownsRow B e sz v n vs) : ∃ A c, v = .slice A n c /\ n <= c /\ c <= maxLen /\ VRow (fun x => B <= x /\ x < w.heap.size) w A n sz vs := by
  rcases ho.2 with ⟨rfl, rfl⟩ | ⟨g, cap, cur, rfl, hB, hh, hnc, hc, hs, ht⟩
  · exact ⟨none, 0, rfl, Nat.le_refl _, Nat.zero_le _, ho.1, fun _ => rfl, fun h => absurd h (Nat.lt_irrefl 0)⟩
  · have hlt := (Array.getElem?_eq_some_iff.1 hh).1
    refine ⟨_, cap, rfl, hnc, hc, ho.1, (fun e => by cases e), fun _ => ⟨g, 0, rfl, ⟨hB, hlt⟩, hlt, fun j u hj => ?_⟩⟩
    have := ho.cells (g := g) rfl j u hj
    rwa [Addr.add_lit] at this
end
section
variable {P : Program} {ops : Array Oper} {o : Oper} {a : Act} {w : World} {J : Act -> World -> Prop} {Q : Exit -> Act -> World -> Prop} {E : Prop} {K : Nat -> Prop}
theorem run_appW {T e : TypeId} {z : Value} {size bytes : Nat} (el : El P T e z size bytes) (ty : TypeId) (B : Nat) (v : Value) (n : Nat) (xs : List Value) (hown : w.ownsRow B e size v n xs)
    (A : Option Addr) (m c : Nat) (vs : List Value) (hA : VRow K w A m size vs) (h1 : ∀ u ∈ vs, u.oneCell' = true) (hb : n + m <= 1000000000) (hby : bytes <= 100) (hB : B <= w.heap.size) :
    ∃ v' w', (Builtin.append_ #[T, T] ty #[v, .slice A m c]).run P w = .ok v' w' /\ w'.ownsRow B e size v' (n + m) (xs ++ vs) /\ w.grownBy w' v.ownBlock /\ (v'.ownBlock = v.ownBlock \/ v'.ownBlock = some w.heap.size) := by
  obtain ⟨i, hi, hz, h2, h3⟩ := info_parts el.info
  have hbb : (n + m) * bytes <= 1000000000 * 100 := Nat.mul_le_mul hb hby
  rcases A with _ | ad
  · have hm := hA.2.1 rfl
    subst hm
    have hn : vs = [] := List.eq_nil_of_length_eq_zero (by rw [hA.1, Nat.zero_mul])
    subst hn
    exact ⟨v, w, run_app_nil w B T ty e i size el.und hi v n xs hown c, by simpa using hown, World.grownBy.refl _ _, .inl rfl⟩
  · have hcells : ∀ j u, vs[j]? = some u -> w.cell? (ad.add j) = some u := fun j u hj => by
      rcases Nat.eq_zero_or_pos m with h0 | h0
      · subst h0
        have hn : vs = [] := List.eq_nil_of_length_eq_zero (by rw [hA.1, Nat.zero_mul])
        subst hn
        cases hj
      · obtain ⟨b, o', e', _, _, hc⟩ := hA.2.2 h0
        injection e' with e'
        subst e'
        rw [Addr.add_lit]
        exact hc j u hj
    obtain ⟨v', w', hrun, r1, r2, _, r3⟩ := run_append_own_at (P := P) w B T ty e i z size bytes el.und hi hz h2 h3 el.zs el.pos v n xs hown ad m c vs hA.1 hcells h1 (by unfold maxLen; omega) (by omega) hB
    exact ⟨v', w', hrun, r1, r2, r3⟩
theorem step_appX {T e : TypeId} {z : Value} {size bytes : Nat} (el : El P T e z size bytes) (hgd : o.guard = none) (s x : Operand)
    (ho : o.op = .call { callee := .builtin .append, args := #[s, x], argTypes := #[T, T] })
    (B : Nat) (v : Value) (n : Nat) (xs : List Value) (hs : a.eval s = v) (hown : w.ownsRow B e size v n xs)
    (A : Option Addr) (m c : Nat) (vs : List Value) (hx : a.eval x = .slice A m c) (hA : VRow K w A m size vs) (h1 : ∀ u ∈ vs, u.oneCell' = true)
    (hb : n + m <= 1000000000) (hby : bytes <= 100) (hB : B <= w.heap.size)
    (h : ∀ v' w', w'.ownsRow B e size v' (n + m) (xs ++ vs) -> w.grownBy w' v.ownBlock -> (v'.ownBlock = v.ownBlock \/ v'.ownBlock = some w.heap.size) -> J (a.put o.dst v') w') :
    if Region.wanted o (yielded ops a.tmps) = true then Oper.wp P o a w J Q else E := by
  have hw : Region.wanted o (yielded ops a.tmps) = true := by simp [Region.wanted, hgd]
  rw [if_pos hw]
  obtain ⟨v', w', hrun, r1, r2, r3⟩ := run_appW (P := P) (K := K) el o.type B v n xs hown A m c vs hA h1 hb hby hB
  unfold Oper.wp execOp
  simp only [ho, resolve, invoke, builtin, Sem.run_bind, Sem.run_pure, Result.andThen_ok, List.map_toArray, List.map_cons, List.map_nil, hs, hx, hrun]
  exact h v' w' r1 r2 r3
theorem wpList_appX {T e : TypeId} {z : Value} {size bytes : Nat} (el : El P T e z size bytes) {rest : List Oper} (hgd : Region.wanted o (yielded ops a.tmps) = true) (s x : Operand)
    (ho : o.op = .call { callee := .builtin .append, args := #[s, x], argTypes := #[T, T] })
    (B : Nat) (v : Value) (n : Nat) (xs : List Value) (hs : a.eval s = v) (hown : w.ownsRow B e size v n xs)
    (A : Option Addr) (m c : Nat) (vs : List Value) (hx : a.eval x = .slice A m c) (hA : VRow K w A m size vs) (h1 : ∀ u ∈ vs, u.oneCell' = true)
    (hb : n + m <= 1000000000) (hby : bytes <= 100) (hB : B <= w.heap.size)
    (h : ∀ v' w', w'.ownsRow B e size v' (n + m) (xs ++ vs) -> w.grownBy w' v.ownBlock -> (v'.ownBlock = v.ownBlock \/ v'.ownBlock = some w.heap.size) -> wpList P ops Q rest (a.put o.dst v') w') : wpList P ops Q (o :: rest) a w :=
  wpList_w hgd fun _ hK => by
    obtain ⟨v', w', hrun, r1, r2, r3⟩ := run_appW (P := P) (K := K) el o.type B v n xs hown A m c vs hA h1 hb hby hB
    unfold Oper.wp execOp
    simp only [ho, resolve, invoke, builtin, Sem.run_bind, Sem.run_pure, Result.andThen_ok, List.map_toArray, List.map_cons, List.map_nil, hs, hx, hrun]
    exact hK _ _ (h v' w' r1 r2 r3)
end
end Go.Proofs.YthabmlbmlncbmaaGreat
namespace Go.Proofs.YthabmlbmlncbmaaGreat
open Go.RowKit
section
variable {α : Type} {z : Nat} {L : List (List α)}
theorem flatg_len (h : ∀ r ∈ L, r.length = z) : L.flatten.length = L.length * z := by
  induction L with
  | nil => simp
  | cons a L ih =>
    rw [List.flatten_cons, List.length_append, h a List.mem_cons_self, ih (fun r hr => h r (List.mem_cons_of_mem _ hr)), List.length_cons, Nat.succ_mul]
    omega
theorem flatg_take (h : ∀ r ∈ L, r.length = z) (k : Nat) : L.flatten.take (k * z) = (L.take k).flatten := by
  induction L generalizing k with
  | nil => simp
  | cons a L ih =>
    cases k with
    | zero => simp
    | succ k =>
      have ha := h a List.mem_cons_self
      rw [List.flatten_cons, List.take_succ_cons, List.flatten_cons, List.take_append, List.take_of_length_le (by rw [ha, Nat.succ_mul]; omega), ha, show (k + 1) * z - z = k * z by rw [Nat.succ_mul]; omega, ih (fun r hr => h r (List.mem_cons_of_mem _ hr))]
theorem flatg_drop (h : ∀ r ∈ L, r.length = z) (k : Nat) : L.flatten.drop (k * z) = (L.drop k).flatten := by
  induction L generalizing k with
  | nil => simp
  | cons a L ih =>
    cases k with
    | zero => simp
    | succ k =>
      have ha := h a List.mem_cons_self
      rw [List.flatten_cons, List.drop_succ_cons, List.drop_append, List.drop_eq_nil_of_le (by rw [ha, Nat.succ_mul]; omega), ha, show (k + 1) * z - z = k * z by rw [Nat.succ_mul]; omega, ih (fun r hr => h r (List.mem_cons_of_mem _ hr)), List.nil_append]
theorem flatg_get (h : ∀ r ∈ L, r.length = z) {k i : Nat} {r : List α} (hk : L[k]? = some r) (hi : i < z) : L.flatten[k * z + i]? = r[i]? := by
  have hlt := (List.getElem?_eq_some_iff.1 hk).1
  have he := (List.getElem?_eq_some_iff.1 hk).2
  have hr : r.length = z := he ▸ h _ (List.getElem_mem hlt)
  rw [<- List.getElem?_drop, flatg_drop h, List.drop_eq_getElem_cons hlt, he, List.flatten_cons, List.getElem?_append_left (by omega)]
theorem flatg_set (h : ∀ r ∈ L, r.length = z) {k i : Nat} {r : List α} (hk : L[k]? = some r) (hi : i < z) (u : α) : L.flatten.set (k * z + i) u = (L.set k (r.set i u)).flatten := by
  have hlt := (List.getElem?_eq_some_iff.1 hk).1
  have he := (List.getElem?_eq_some_iff.1 hk).2
  have hr : r.length = z := he ▸ h _ (List.getElem_mem hlt)
  have e1 : L.flatten = (L.take k).flatten ++ (r ++ (L.drop (k + 1)).flatten) := by
    rw [<- List.flatten_cons, <- he, <- List.drop_eq_getElem_cons hlt, <- List.flatten_append, List.take_append_drop]
  have e2 : (L.set k (r.set i u)).flatten = (L.take k).flatten ++ (r.set i u ++ (L.drop (k + 1)).flatten) := by
    rw [List.set_eq_take_append_cons_drop, if_pos hlt, List.flatten_append, List.flatten_cons]
  have hl : (L.take k).flatten.length = k * z := by
    rw [flatg_len (fun x hx => h x (List.mem_of_mem_take hx)), List.length_take, Nat.min_eq_left (by omega)]
  rw [e1, e2, List.set_append_right _ _ (by omega), hl, Nat.add_sub_cancel_left, List.set_append_left _ _ (by omega)]
end
def HdL {α : Type} (sz : Nat) (E : α -> List Value -> Prop) (vs : List Value) (xs : List α) : Prop :=
  ∃ ch : List (List Value), vs = ch.flatten /\ ch.length = xs.length /\ (∀ r ∈ ch, r.length = sz) /\ ∀ (j : Nat) (x : α), xs[j]? = some x -> ∃ r, ch[j]? = some r /\ E x r
section
variable {α : Type} {sz : Nat} {E E' : α -> List Value -> Prop} {vs : List Value} {xs : List α}
theorem HdL.imp (h : HdL sz E vs xs) (hi : ∀ x r, E x r -> E' x r) : HdL sz E' vs xs := by
  obtain ⟨ch, h1, h2, h3, h4⟩ := h
  exact ⟨ch, h1, h2, h3, fun j x hx => by obtain ⟨r, hr, he⟩ := h4 j x hx; exact ⟨r, hr, hi _ _ he⟩⟩
theorem HdL.nil (sz : Nat) (E : α -> List Value -> Prop) : HdL sz E [] [] := ⟨[], rfl, rfl, fun _ h => absurd h List.not_mem_nil, fun j x h => by simp at h⟩
theorem HdL.at_ (h : HdL sz E vs xs) {j : Nat} {x : α} (hj : xs[j]? = some x) : ∃ r, r.length = sz /\ E x r /\ ∀ i, i < sz -> vs[j * sz + i]? = r[i]? := by
  obtain ⟨ch, rfl, h2, h3, h4⟩ := h
  obtain ⟨r, hr, he⟩ := h4 j x hj
  refine ⟨r, ?_, he, fun i hi => flatg_get h3 hr hi⟩
  obtain ⟨hlt, e⟩ := List.getElem?_eq_some_iff.1 hr
  exact e ▸ h3 _ (List.getElem_mem hlt)
theorem HdL.snoc (h : HdL sz E vs xs) {x : α} {r : List Value} (hr : r.length = sz) (he : E x r) : HdL sz E (vs ++ r) (xs ++ [x]) := by
  obtain ⟨ch, rfl, h2, h3, h4⟩ := h
  refine ⟨ch ++ [r], by simp, by simp [h2], fun q hq => ?_, fun j y hy => ?_⟩
  · rcases List.mem_append.1 hq with h | h
    · exact h3 q h
    · rw [List.mem_singleton.1 h]; exact hr
  · by_cases hj : j < xs.length
    · rw [List.getElem?_append_left hj] at hy
      obtain ⟨q, hq, hE⟩ := h4 j y hy
      exact ⟨q, by rw [List.getElem?_append_left (by omega)]; exact hq, hE⟩
    · have e : j = xs.length := by
        have := (List.getElem?_eq_some_iff.1 hy).1
        simp at this
        omega
      subst e
      simp at hy
      subst hy
      exact ⟨r, by rw [<- h2]; simp, he⟩
theorem HdL.take (h : HdL sz E vs xs) (m : Nat) : HdL sz E (vs.take (m * sz)) (xs.take m) := by
  obtain ⟨ch, rfl, h2, h3, h4⟩ := h
  refine ⟨ch.take m, flatg_take h3 m, by simp [h2], fun q hq => h3 q (List.mem_of_mem_take hq), fun j y hy => ?_⟩
  rw [List.getElem?_take] at hy
  split at hy
  · rename_i hjm
    obtain ⟨q, hq, hE⟩ := h4 j y hy
    exact ⟨q, by rw [List.getElem?_take, if_pos hjm]; exact hq, hE⟩
  · cases hy
theorem HdL.set1 (h : HdL sz E vs xs) {k i : Nat} {x y : α} (hk : xs[k]? = some x) (hi : i < sz) (u : Value) (he : ∀ r, r.length = sz -> E x r -> E y (r.set i u)) : HdL sz E (vs.set (k * sz + i) u) (xs.set k y) := by
  obtain ⟨ch, rfl, h2, h3, h4⟩ := h
  obtain ⟨r, hr, hE⟩ := h4 k x hk
  have hlen : r.length = sz := by
    obtain ⟨hlt, e⟩ := List.getElem?_eq_some_iff.1 hr
    exact e ▸ h3 _ (List.getElem_mem hlt)
  refine ⟨ch.set k (r.set i u), flatg_set h3 hr hi u, by simp [h2], fun q hq => ?_, fun j y' hy => ?_⟩
  · rcases List.mem_or_eq_of_mem_set hq with h | h
    · exact h3 q h
    · rw [h, List.length_set]; exact hlen
  · rw [List.getElem?_set] at hy ⊢
    by_cases hkj : k = j
    · subst hkj
      rw [if_pos rfl] at hy
      split at hy
      · injection hy with hy
        subst hy
        refine ⟨r.set i u, by rw [if_pos rfl, if_pos (by omega)], he r hlen hE⟩
      · cases hy
    · rw [if_neg hkj] at hy
      obtain ⟨q, hq, hE'⟩ := h4 j y' hy
      exact ⟨q, by rw [if_neg hkj]; exact hq, hE'⟩
theorem HdL.one (h : HdL sz E vs xs) (he : ∀ x r, E x r -> ∀ u ∈ r, u.oneCell' = true) : ∀ u ∈ vs, u.oneCell' = true := by
  obtain ⟨ch, rfl, h2, h3, h4⟩ := h
  intro u hu
  obtain ⟨r, hr, hur⟩ := List.mem_flatten.1 hu
  obtain ⟨j, hj, e⟩ := List.getElem_of_mem hr
  obtain ⟨q, hq, hE⟩ := h4 j xs[j] (List.getElem?_eq_getElem (by omega))
  rw [List.getElem?_eq_getElem hj, e] at hq
  injection hq with hq
  exact he _ _ hE u (hq ▸ hur)
end
def RowsL {α : Type} (sz : Nat) (E : α -> List Value -> Prop) (K : Nat -> Prop) (w : World) (A : Option Addr) (n : Nat) (xs : List α) : Prop := ∃ vs, xs.length = n /\ VRow K w A n sz vs /\ HdL sz E vs xs
theorem RowsL.cells {α : Type} {sz : Nat} {E : α -> List Value -> Prop} {K : Nat -> Prop} {w : World} {A : Option Addr} {n : Nat} {xs : List α} (h : RowsL sz E K w A n xs) {j : Nat} {x : α} (hj : xs[j]? = some x) :
    ∃ b o r, A = some ⟨b, o, none⟩ /\ K b /\ b < w.heap.size /\ r.length = sz /\ E x r /\ ∀ i u, i < sz -> r[i]? = some u -> w.cell? ⟨b, o + (j * sz + i), none⟩ = some u := by
  obtain ⟨vs, h1, h2, h3⟩ := h
  have hjl := (List.getElem?_eq_some_iff.1 hj).1
  obtain ⟨r, hr, he, hc⟩ := h3.at_ hj
  obtain ⟨b, o, e, hk, hlt, hcell⟩ := h2.2.2 (by omega)
  exact ⟨b, o, r, e, hk, hlt, hr, he, fun i u hi hu => hcell _ u (by rw [hc i hi]; exact hu)⟩
def EP (K : Nat -> Prop) (w : World) (x : Int × List UInt8) (r : List Value) : Prop := ∃ u, r = [.int .i64 x.1, u] /\ VB K w u x.2
def PartsV (K : Nat -> Prop) (w : World) (A : Option Addr) (n : Nat) (ps : List (Int × List UInt8)) : Prop := RowsL 2 (EP K w) K w A n ps
def EE (K : Nat -> Prop) (w : World) (x : (Int × Int) × List (Int × List UInt8)) (r : List Value) : Prop := ∃ A n c, r = [.int .i64 x.1.1, .int .i64 x.1.2, .slice A n c] /\ PartsV K w A n x.2
section
variable {K K' : Nat -> Prop} {w w' : World} {A : Option Addr} {n : Nat}
end
theorem VRow.new (w : World) (C : Array Value) (e n sz : Nat) (h : C.size = n * sz) : VRow (fun x => w.heap.size <= x) (w.alloc (.cells C e)) (some ⟨w.heap.size, 0, none⟩) n sz C.toList :=
  ⟨by simpa using h, (fun e => by cases e), fun _ => ⟨w.heap.size, 0, rfl, Nat.le_refl _, by simp, fun j u hj => by
    rw [Nat.zero_add, cell_of_row _ _ j _ _ _ (heap_alloc_last w _)]
    simpa using hj⟩⟩
theorem own_rowsL {α : Type} {sz : Nat} {E : α -> List Value -> Prop} {w : World} {B e n : Nat} {v : Value} {vs : List Value} {xs : List α} (ho : w.ownsRow B e sz v n vs) (h : HdL sz E vs xs) (hn : xs.length = n) :
    ∃ A c, v = .slice A n c /\ n <= c /\ c <= maxLen /\ RowsL sz E (fun x => B <= x /\ x < w.heap.size) w A n xs := by
  obtain ⟨A, c, e1, h1, h2, h3⟩ := own_vrow ho
  exact ⟨A, c, e1, h1, h2, vs, hn, h3, h⟩
end Go.Proofs.YthabmlbmlncbmaaGreat
namespace Go.Proofs.YthabmlbmlncbmaaGreat
open Go.RowKit
structure EOk {α : Type} (E : (Nat -> Prop) -> World -> α -> List Value -> Prop) : Prop where
  stays : ∀ {K : Nat -> Prop} {w w' : World} {x : α} {r : List Value}, E K w x r -> WStays K w w' -> E K w' x r
  mono : ∀ {K K' : Nat -> Prop} {w : World} {x : α} {r : List Value}, E K w x r -> (∀ y, K y -> K' y) -> E K' w x r
  lt : ∀ {K : Nat -> Prop} {w : World} {x : α} {r : List Value}, E K w x r -> E (fun y => K y /\ y < w.heap.size) w x r
theorem EOk.below {α : Type} {E : (Nat -> Prop) -> World -> α -> List Value -> Prop} (ok : EOk E) {K : Nat -> Prop} {w w' : World} {x : α} {r : List Value} (h : E K w x r) (hb : Below w.heap.size w w') : E K w' x r :=
  ok.mono (ok.stays (ok.lt h) ⟨hb.size, fun y hy => hb.block y hy.2⟩) (fun _ hy => hy.1)
structure Gr {α : Type} (E : (Nat -> Prop) -> World -> α -> List Value -> Prop) (e : TypeId) (sz : Nat) (w : World) (B : Nat) (v : Value) (vs : List Value) (D : Nat -> Prop) (xs : List α) : Prop where
  Bw : B <= w.heap.size
  ow : w.ownsRow B e sz v xs.length vs
  hd : HdL sz (E D w) vs xs
  dx : ∀ x, D x -> x < w.heap.size /\ v.ownBlock ≠ some x
section
variable {α : Type} {E : (Nat -> Prop) -> World -> α -> List Value -> Prop} {e : TypeId} {sz : Nat} {w w' : World} {B : Nat} {v : Value} {vs : List Value} {D K : Nat -> Prop} {xs : List α}
theorem own_geB {e size n : Nat} {xs : List Value} (h : w.ownsRow B e size v n xs) {x : Nat} (hx : v.ownBlock = some x) : B <= x /\ x < w.heap.size := by
  rcases h.2 with ⟨rfl, _⟩ | ⟨g, cap, cur, rfl, hB, hh, _⟩
  · cases hx
  · injection hx with hx
    have hx' : g = x := hx
    rw [<- hx']
    exact ⟨hB, (Array.getElem?_eq_some_iff.1 hh).1⟩
theorem Gr.start (h : w.ownsRow B e sz v 0 []) (hB : B <= w.heap.size) : Gr E e sz w B v [] (fun _ => False) ([] : List α) := ⟨hB, h, HdL.nil _ _, fun _ hx => hx.elim⟩
theorem Gr.below (ok : EOk E) (h : Gr E e sz w B v vs D xs) (hb : Below w.heap.size w w') : Gr E e sz w' B v vs D xs :=
  ⟨Nat.le_trans h.Bw hb.size, own_keep h.ow hb, h.hd.imp fun _ _ hx => ok.below hx hb, fun x hx => ⟨Nat.lt_of_lt_of_le (h.dx x hx).1 hb.size, (h.dx x hx).2⟩⟩
theorem Gr.put (ok : EOk E) (h : Gr E e sz w B v vs D xs) {v' : Value} {x : α} {r : List Value} (hr : r.length = sz) (hE : E K w x r) (hK : ∀ y, K y -> v.ownBlock ≠ some y)
    (ho : w'.ownsRow B e sz v' (xs.length + 1) (vs ++ r)) (hg : w.grownBy w' v.ownBlock) (hv : v'.ownBlock = v.ownBlock \/ v'.ownBlock = some w.heap.size) :
    Gr E e sz w' B v' (vs ++ r) (fun y => D y \/ (K y /\ y < w.heap.size)) (xs ++ [x]) := by
  have hF : Fr (fun y => v.ownBlock = some y) w w' := Fr.grown hg (fun y hy => hy)
  have hs := hF.size
  have hall : ∀ y, (D y \/ (K y /\ y < w.heap.size)) -> y < w.heap.size /\ v.ownBlock ≠ some y := fun y hy => by
    rcases hy with h1 | h1
    · exact h.dx y h1
    · exact ⟨h1.2, hK y h1.1⟩
  have st : WStays (fun y => D y \/ (K y /\ y < w.heap.size)) w w' := ⟨hs, fun y hy => hF.block y (hall y hy).1 (hall y hy).2⟩
  refine ⟨Nat.le_trans h.Bw hs, by rw [List.length_append, List.length_singleton]; exact ho, ?_, fun y hy => ?_⟩
  · exact (h.hd.imp fun _ _ hx => ok.stays (ok.mono hx (fun _ hy => .inl hy)) st).snoc hr (ok.stays (ok.mono (ok.lt hE) (fun _ hy => .inr hy)) st)
  · obtain ⟨h1, h2⟩ := hall y hy
    refine ⟨by omega, fun e => ?_⟩
    rcases hv with hv | hv
    · exact h2 (hv ▸ e)
    · rw [hv] at e
      injection e with e
      omega
theorem Gr.rows (ok : EOk E) (h : Gr E e sz w B v vs D xs) : ∃ A c, v = .slice A xs.length c /\ xs.length <= c /\ c <= maxLen /\ RowsL sz (E (fun x => D x \/ (B <= x /\ x < w.heap.size)) w) (fun x => D x \/ (B <= x /\ x < w.heap.size)) w A xs.length xs := by
  obtain ⟨A, c, e1, h1, h2, h3⟩ := own_vrow h.ow
  exact ⟨A, c, e1, h1, h2, vs, rfl, h3.mono (fun x hx => .inr hx), h.hd.imp fun _ _ hx => ok.mono hx (fun _ hy => .inl hy)⟩
end
def Two (a b c : Nat) (x : Nat) : Prop := (a <= x /\ x < b) \/ c <= x
end Go.Proofs.YthabmlbmlncbmaaGreat
namespace Go.Proofs.YthabmlbmlncbmaaGreat
open Go.RowKit
set_option linter.unusedVariables false
set_option maxRecDepth 20000
def EPc (K : Nat -> Prop) (w : World) (x : List UInt8) (r : List Value) : Prop := ∃ A n c, r = [.slice A n c] /\ VB K w (.slice A n c) x /\ n <= c
theorem EPc.ok : EOk EPc where
  stays := fun ⟨A, n, c, e, hu, hc⟩ hs => ⟨A, n, c, e, hu.stays hs, hc⟩
  mono := fun ⟨A, n, c, e, hu, hc⟩ hk => ⟨A, n, c, e, hu.mono hk, hc⟩
  lt := fun ⟨A, n, c, e, hu, hc⟩ => ⟨A, n, c, e, hu.lt, hc⟩
theorem EPc.one {K : Nat -> Prop} {w : World} {x : List UInt8} {r : List Value} (h : EPc K w x r) : ∀ u ∈ r, u.oneCell' = true := by
  obtain ⟨A, n, c, rfl, _⟩ := h
  intro v hv
  simp at hv
  rw [hv]
  rfl
abbrev PcsV (K : Nat -> Prop) (w : World) (A : Option Addr) (n : Nat) (xs : List (List UInt8)) : Prop := RowsL 1 (EPc K w) K w A n xs
section
variable {K K' : Nat -> Prop} {w w' : World} {A : Option Addr} {n : Nat} {xs : List (List UInt8)}
theorem PcsV.stays (h : PcsV K w A n xs) (hs : WStays K w w') : PcsV K w' A n xs := by
  obtain ⟨vs, h1, h2, h3⟩ := h
  exact ⟨vs, h1, h2.stays hs, h3.imp fun x r hx => EPc.ok.stays hx hs⟩
theorem PcsV.mono (h : PcsV K w A n xs) (hk : ∀ x, K x -> K' x) : PcsV K' w A n xs := by
  obtain ⟨vs, h1, h2, h3⟩ := h
  exact ⟨vs, h1, h2.mono hk, h3.imp fun x r hx => EPc.ok.mono hx hk⟩
theorem PcsV.lt (h : PcsV K w A n xs) : PcsV (fun x => K x /\ x < w.heap.size) w A n xs := by
  obtain ⟨vs, h1, h2, h3⟩ := h
  exact ⟨vs, h1, h2.lt, h3.imp fun x r hx => EPc.ok.lt hx⟩
theorem PcsV.below (h : PcsV K w A n xs) (hb : Below w.heap.size w w') : PcsV K w' A n xs := (h.lt.stays ⟨hb.size, fun x hx => hb.block x hx.2⟩).mono fun _ hx => hx.1
theorem PcsV.len (h : PcsV K w A n xs) : xs.length = n := by obtain ⟨_, h1, _⟩ := h; exact h1
theorem PcsV.nil (K : Nat -> Prop) (w : World) (A : Option Addr) : PcsV K w A 0 [] := ⟨[], rfl, ⟨rfl, fun _ => rfl, fun h => absurd h (Nat.lt_irrefl 0)⟩, HdL.nil _ _⟩
theorem PcsV.cell (h : PcsV K w A n xs) {j : Nat} {x : List UInt8} (hj : xs[j]? = some x) :
    ∃ b o A' m c, A = some ⟨b, o, none⟩ /\ b < w.heap.size /\ w.cell? ⟨b, o + j, none⟩ = some (.slice A' m c) /\ Rd w A' m x /\ m <= c /\ VB K w (.slice A' m c) x := by
  obtain ⟨b, o, r, e, hk, hlt, _, ⟨A', m, c, hr, hv, hmc⟩, hc⟩ := RowsL.cells h hj
  subst hr
  have h0 := hc 0 _ (by decide) rfl
  rw [Nat.mul_one, Nat.add_zero] at h0
  have hv' := hv
  obtain ⟨A2, m2, c2, e2, hr2, _⟩ := hv
  injection e2 with e3 e4 e5
  subst e3 e4 e5
  exact ⟨b, o, A', m, c, e, hlt, h0, hr2, hmc, hv'⟩
end
theorem HdL.of1 {α : Type} {E : α -> List Value -> Prop} {vs : List Value} {xs : List α} (hl : vs.length = xs.length) (h : ∀ (j : Nat) (x : α), xs[j]? = some x -> ∃ v, vs[j]? = some v /\ E x [v]) : HdL 1 E vs xs := by
  refine ⟨vs.map fun v => [v], ?_, by simp [hl], fun r hr => ?_, fun j x hx => ?_⟩
  · clear hl h
    induction vs with
    | nil => rfl
    | cons a r ih => rw [List.map_cons, List.flatten_cons, <- ih]; rfl
  · obtain ⟨v, _, rfl⟩ := List.mem_map.1 hr
    rfl
  · obtain ⟨v, hv, he⟩ := h j x hx
    exact ⟨[v], by rw [List.getElem?_map, hv]; rfl, he⟩
theorem rowsT : El Tryz.prog 25 42 (.slice none 0 0) 1 24 := ⟨Tryz.underlying25, by kernel_rfl, rfl, by decide⟩
theorem pwithin_any (n lo hi : Int) (w : World) :
    Calls Tryz.prog 62 #[.int .i64 n, .int .i64 lo, .int .i64 hi] w fun e w' => e = .returned (.bool (decide (lo <= n /\ n <= hi))) /\ w = w' := by
  by_cases h1 : lo <= n
  · by_cases h2 : n <= hi
    all_goals
      go_enter Tryz.func62, Tryz.ntmps62
      go_wp2
      go_ret
      exact ⟨ret_bool (by simp <;> omega), rfl⟩
  · go_enter Tryz.func62, Tryz.ntmps62
    go_wp2
    go_ret
    exact ⟨ret_bool (by simp <;> omega), rfl⟩
theorem phead_any (i n : Nat) (s : Int) (w : World) :
    Calls Tryz.prog 78 #[.int .i64 (i : Nat), .int .i64 (n : Nat), .int .i64 s] w fun e w' => ∃ A c, e = .returned (.slice A 12 c) /\ Rd w' A 12 (pcHead i n s) /\ Below w.heap.size w w' := by
  have C1 := hi_ (Put_any none 0 0 [] 2 (i : Nat) w (Rd.nil w none) (by decide))
  go_enter Tryz.func78, Tryz.ntmps78
  go_wp2_with (first
    | (go_at_call 80; have _t := C1; refine C1.out.mono ?_; rintro e w1 ⟨v1, rfl, ho1, hb1⟩
       obtain ⟨A1, c1, rfl, _, _, hr1⟩ := Rd.of_own ho1 rfl
       have C2 := hi_ (Put_any A1 2 c1 _ 2 (n : Nat) w1 hr1 (by decide))
       have B1 := hi_ hb1
       clear ho1 hr1 hb1 C1)
    | (go_at_call 80; have _t := C2; refine C2.out.mono ?_; rintro e w2 ⟨v2, rfl, ho2, hb2⟩
       obtain ⟨A2, c2, rfl, _, _, hr2⟩ := Rd.of_own ho2 rfl
       have C3 := hi_ (Put_any A2 4 c2 _ 8 s w2 hr2 (by decide))
       have B2 := hi_ (B1.out.trans (hb2.mono B1.out.size))
       clear ho2 hr2 hb2 C2)
    | (go_at_call 80; have _t := C3; refine C3.out.mono ?_; rintro e w3 ⟨v3, rfl, ho3, hb3⟩
       obtain ⟨A3, c3, rfl, _, _, hr3⟩ := Rd.of_own ho3 rfl
       have B3 := hi_ (B2.out.trans (hb3.mono B2.out.size))
       have R3 := hi_ hr3
       clear ho3 hr3 hb3 C3))
  go_ret
  exact ⟨A3, c3, rfl, R3.out, B3.out⟩
theorem pown_any (A : Option Addr) (n c : Nat) (b : List UInt8) (i : Nat) (w : World) (hr : Rd w A n b) (hc : n <= c) (hn : n <= 1000000) (hi : i * 460 <= n) :
    Calls Tryz.prog 79 #[.slice A n c, .int .i64 (i : Nat)] w fun e w' => ∃ A' c', e = .returned (.slice A' (min 460 (n - i * 460)) c') /\ Rd w' A' (min 460 (n - i * 460)) (pcOwn b i) /\ w = w' := by
  have hp : ∀ m, m = min 460 (n - i * 460) -> Rd w (A.map fun x => x.add (i * 460)) m (pcOwn b i) := by
    rintro m rfl
    have := hr.part (lo := i * 460) (m := min 460 (n - i * 460)) (by omega) (A.map fun x => x.add (i * 460)) (fun _ b o e => by rw [e]; simp [Addr.add_lit])
    have hl := hr.1
    have e : (b.drop (i * 460)).take (min 460 (n - i * 460)) = pcOwn b i := by
      unfold pcOwn
      rw [List.take_eq_take_iff, List.length_drop]
      omega
    rwa [e] at this
  have HP := hi_ hp
  clear hp hr
  by_cases h : i * 460 + 460 <= n
  · go_enter Tryz.func79, Tryz.ntmps79
    go_wp2
    go_ret
    have e : i * 460 + 460 - i * 460 = min 460 (n - i * 460) := by omega
    exact ⟨A.map fun x => x.add (i * 460), c - i * 460, by rw [<- e]; rfl, HP.out _ rfl, rfl⟩
  · go_enter Tryz.func79, Tryz.ntmps79
    go_wp2
    all_goals go_ret
    all_goals have e : n - i * 460 = min 460 (n - i * 460) := by omega
    · exact ⟨A, ⟨0, by rw [<- e]; rfl⟩, ⟨(HP.out _ rfl).1, fun h0 => by omega⟩, rfl⟩
    · exact ⟨A.map fun x => x.add (i * 460), ⟨c - i * 460, by rw [<- e]; rfl⟩, HP.out _ rfl, rfl⟩
theorem results_tmp4 {fn : Func} {t u v x : Tmp} (h : fn.results = #[.tmp t, .tmp u, .tmp v, .tmp x]) (tmps : Array Value) (P : Program) (w : World) :
    (results fn tmps).run P w = .ok (.tuple #[tmps.getD t undef, tmps.getD u undef, tmps.getD v undef, tmps.getD x undef]) w := by
  simp [results, h]
def hdT (l : List UInt8) : Value := if HdOk l then .tuple #[.int .i64 (plc l), .int .i64 (cnt l), .int .i64 (sqn l), .bool true] else .tuple #[.int .i64 0, .int .i64 0, .int .i64 0, .bool false]
section
variable (A : Option Addr) (n c : Nat) (l : List UInt8) (w : World)
theorem wd_2 : wd 2 = 2 := rfl
theorem wd_8 : wd 8 = 8 := rfl
theorem pget0 (hr : Rd w A n l) (hc : n <= c) (hn : n <= 1000000) (h : 12 <= n) :
    Calls Tryz.prog 63 #[.slice A n c, .int .i64 0, .int .i64 2] w fun e w' => e = .returned (.tuple #[.int .i64 (plc l), .bool true]) /\ w = w' := by
  have := Get_yes A n c l 0 2 w hr hc (by omega) (by rw [wd_2]; omega)
  rw [wd_2] at this
  exact this
theorem pget2 (hr : Rd w A n l) (hc : n <= c) (hn : n <= 1000000) (h : 12 <= n) :
    Calls Tryz.prog 63 #[.slice A n c, .int .i64 2, .int .i64 2] w fun e w' => e = .returned (.tuple #[.int .i64 (cnt l), .bool true]) /\ w = w' := by
  have := Get_yes A n c l 2 2 w hr hc (by omega) (by rw [wd_2]; omega)
  rw [wd_2] at this
  exact this
theorem pget4 (hr : Rd w A n l) (hc : n <= c) (hn : n <= 1000000) (h : 12 <= n) :
    Calls Tryz.prog 63 #[.slice A n c, .int .i64 4, .int .i64 8] w fun e w' => e = .returned (.tuple #[.int .i64 (sqn l), .bool true]) /\ w = w' := by
  have := Get_yes A n c l 4 8 w hr hc (by omega) (by rw [wd_8]; omega)
  rw [wd_8] at this
  exact this
theorem rget0 (hr : Rd w A n l) (hn : n <= 1000000) (h : 12 <= n) :
    Calls Tryz.prog 50 #[.slice A n c, .int .i64 0, .int .i64 2] w fun e w' => e = .returned (.tuple #[.int .i64 (plc l), .bool true]) /\ w = w' := by
  have := RGet_yes A n c l 0 2 w hr (by omega) (by rw [wd_2]; omega)
  rw [wd_2] at this
  exact this
theorem rget2 (hr : Rd w A n l) (hn : n <= 1000000) (h : 12 <= n) :
    Calls Tryz.prog 50 #[.slice A n c, .int .i64 2, .int .i64 2] w fun e w' => e = .returned (.tuple #[.int .i64 (cnt l), .bool true]) /\ w = w' := by
  have := RGet_yes A n c l 2 2 w hr (by omega) (by rw [wd_2]; omega)
  rw [wd_2] at this
  exact this
theorem rget4 (hr : Rd w A n l) (hn : n <= 1000000) (h : 12 <= n) :
    Calls Tryz.prog 50 #[.slice A n c, .int .i64 4, .int .i64 8] w fun e w' => e = .returned (.tuple #[.int .i64 (sqn l), .bool true]) /\ w = w' := by
  have := RGet_yes A n c l 4 8 w hr (by omega) (by rw [wd_8]; omega)
  rw [wd_8] at this
  exact this
end
end Go.Proofs.YthabmlbmlncbmaaGreat
namespace Go.Proofs.YthabmlbmlncbmaaGreat
open Go.RowKit
set_option linter.unusedVariables false
set_option maxRecDepth 20000
def topA (xs : List (List UInt8)) : Int := xs.foldl (fun t x => max t (topL x)) 0
theorem topA_snoc (xs : List (List UInt8)) (x : List UInt8) : topA (xs ++ [x]) = max (topA xs) (topL x) := by simp [topA]
theorem topA_take {xs : List (List UInt8)} {j : Nat} {x : List UInt8} (h : xs[j]? = some x) : topA (xs.take (j + 1)) = max (topA (xs.take j)) (topL x) := by rw [List.take_add_one, h, Option.toList_some, topA_snoc]
theorem topA_ge (xs : List (List UInt8)) : ∀ x ∈ xs, topL x <= topA xs := by
  have h : ∀ (xs : List (List UInt8)) (t : Int), t <= xs.foldl (fun t x => max t (topL x)) t /\ ∀ x ∈ xs, topL x <= xs.foldl (fun t x => max t (topL x)) t := by
    intro xs
    induction xs with
    | nil => exact fun t => ⟨Int.le_refl _, fun _ h => absurd h List.not_mem_nil⟩
    | cons y ys ih =>
      intro t
      obtain ⟨h1, h2⟩ := ih (max t (topL y))
      refine ⟨?_, fun x hx => ?_⟩
      · exact Int.le_trans (Int.le_max_left _ _) h1
      · rcases List.mem_cons.1 hx with rfl | hx
        · exact Int.le_trans (Int.le_max_right _ _) h1
        · exact h2 x hx
  exact (h xs 0).2
def MuchS (xs : List (List UInt8)) : Prop := (∃ i x, i < 50 /\ xs[i]? = some x /\ 600 < x.length) \/ 20 < xs.length
def MuchQ (xs : List (List UInt8)) (w : World) (e : Ending) (w' : World) : Prop := ∃ q : Bool, e = .returned (.bool q) /\ (q = true ↔ MuchS xs) /\ w = w'
section
variable {K : Nat -> Prop} (A : Option Addr) (n c : Nat) (xs : List (List UInt8)) (w : World)
theorem RTopA_any (h : PcsV K w A n xs) (hn : n <= 9223372036854775807) (hs : ∀ x ∈ xs, x.length <= 1000000) :
    Calls Tryz.prog 7 #[.slice A n c] w fun e w' => e = .returned (.int .i64 (topA xs)) /\ w = w' := by
  have H := hi_ h
  have HL := hi_ h.len
  have HS := hi_ hs
  clear h hs
  go_enter Tryz.func7, Tryz.ntmps7
  go_wp2
  go_loop [3, 4] (fun tv iv => ∃ j : Nat, j <= n /\ iv = .int .i64 j /\ tv = .int .i64 (topA (xs.take j))) (fun _ iv => n - (intOf iv).toNat)
  case atStart => exact ⟨0, Nat.zero_le _, rfl, rfl⟩
  case round =>
    obtain ⟨j, hj, rfl, rfl⟩ := hrel
    by_cases hjn : j < n
    · obtain ⟨x, hx⟩ : ∃ x, xs[j]? = some x := ⟨_, List.getElem?_eq_getElem (by rw [HL.out]; exact hjn)⟩
      obtain ⟨b, o, PA, m, cc, rfl, hlt, hc, hr, hmc, _⟩ := H.out.cell hx
      have CT := hi_ (RTop_any PA m cc x w hr (by have := hr.1; have := HS.out x (List.mem_of_getElem? hx); omega))
      have HX := hi_ (topA_take hx)
      clear hx hr hmc hlt
      obtain ⟨t, ht⟩ : ∃ t, t = topA (xs.take j) := ⟨_, rfl⟩
      obtain ⟨u, hu⟩ : ∃ u, u = topL x := ⟨_, rfl⟩
      rw [<- ht, <- hu] at HX
      rw [<- hu] at CT
      rw [<- ht]
      clear ht hu
      by_cases hut : t < u
      · go_wp2_with (go_at_call 23; refine CT.out.mono ?_; rintro e w2 ⟨rfl, rfl⟩)
        go_round
        case rel => exact ⟨j + 1, hjn, by go_num, by rw [HX.out, Int.max_eq_right (by omega)]⟩
        case measure => simp [intOf]; omega
      · go_wp2_with (go_at_call 23; refine CT.out.mono ?_; rintro e w2 ⟨rfl, rfl⟩)
        go_round
        case rel => exact ⟨j + 1, hjn, by go_num, by rw [HX.out, Int.max_eq_left (by omega)]⟩
        case measure => simp [intOf]; omega
    · obtain rfl : j = n := by omega
      go_wp2
      go_ret
      exact ⟨by rw [List.take_of_length_le (Nat.le_of_eq HL.out)]; rfl, rfl⟩
end
end Go.Proofs.YthabmlbmlncbmaaGreat
namespace Go.Proofs.YthabmlbmlncbmaaGreat
open Go.RowKit
set_option linter.unusedVariables false
def secAt (l : List (List UInt8)) (n : Int) : List UInt8 := l.getD (n % (l.length : Int)).toNat []
def HasQ (l : List (List UInt8)) (n : Int) : Prop := (0 <= n /\ n <= 281474976710656) /\ okL (secAt l n) /\ cK (secAt l n) = 1 /\ cN (secAt l n) = n
def bodies (l : List (List UInt8)) (n : Int) (m : Nat) : List (List UInt8) := (List.range m).map fun i => cB (secAt l (n + (i : Nat)))
structure OneP (okF : List UInt8 -> Prop) (l : List (List UInt8)) (n e s most : Int) (b : List UInt8) (m : Nat) (o : Int) : Prop where
  has : HasQ l n
  hd : HdOk (cB (secAt l n))
  ep : e <= o
  pl : plc (cB (secAt l n)) = 0
  sq : sqn (cB (secAt l n)) = s
  ct : cnt (cB (secAt l n)) = (m : Int)
  mo : (m : Int) <= most
  ow : o = cE (secAt l n)
  all : ∀ i : Nat, i < m -> HasQ l (n + i) /\ cE (secAt l (n + i)) = o
  jn : ∃ z, joinL (bodies l n m) = (z, b, true)
  fr : okF b
inductive Scn (okF : List UInt8 -> Prop) (l : List (List UInt8)) (til : Int) : Int -> Int -> Int -> List (List UInt8) -> Int -> Int -> Int -> Prop
  | stop {n e s : Int} (h : ∀ b m o, ¬ OneP okF l n e s (til - n) b m o) : Scn okF l til n e s [] n e s
  | go {n e s : Int} {b : List UInt8} {m : Nat} {o : Int} {bs : List (List UInt8)} {n' e' s' : Int} (h : OneP okF l n e s (til - n) b m o) (t : Scn okF l til (n + m) o (s + 1) bs n' e' s') : Scn okF l til n e s (b :: bs) n' e' s'
section
variable {okF : List UInt8 -> Prop} {l g : List (List UInt8)} {n e s most til : Int} {b : List UInt8} {m : Nat} {o : Int}
theorem OneP.pos (h : OneP okF l n e s most b m o) : 1 <= m := by have := h.hd.2.1.1; rw [h.ct] at this; omega
theorem OneP.one {b' : List UInt8} {m' : Nat} {o' : Int} (h : OneP okF l n e s most b m o) (h' : OneP okF l n e s most b' m' o') : b = b' /\ m = m' /\ o = o' := by
  have e1 : m = m' := by have := h.ct.symm.trans h'.ct; omega
  subst e1
  obtain ⟨z, hz⟩ := h.jn
  obtain ⟨z', hz'⟩ := h'.jn
  rw [hz] at hz'
  injection hz' with _ h2
  injection h2 with h3 _
  exact ⟨h3, rfl, h.ow.trans h'.ow.symm⟩
theorem OneP.same (h : OneP okF l n e s most b m o) (hs : ∀ i : Nat, i < m -> secAt g (n + i) = secAt l (n + i)) : OneP okF g n e s most b m o := by
  have h0 : secAt g n = secAt l n := by have := hs 0 h.pos; simpa using this
  have hb : bodies g n m = bodies l n m := List.map_congr_left fun i hi => by rw [hs i (List.mem_range.1 hi)]
  have hh : ∀ i : Nat, i < m -> HasQ l (n + i) -> HasQ g (n + i) := fun i hi hq => by unfold HasQ at hq ⊢; rwa [hs i hi]
  refine ⟨?_, ?_, h.ep, ?_, ?_, ?_, h.mo, ?_, fun i hi => ⟨hh i hi (h.all i hi).1, ?_⟩, ?_, h.fr⟩
  · unfold HasQ; rw [h0]; exact h.has
  · rw [h0]; exact h.hd
  · rw [h0]; exact h.pl
  · rw [h0]; exact h.sq
  · rw [h0]; exact h.ct
  · rw [h0]; exact h.ow
  · rw [hs i hi]; exact (h.all i hi).2
  · rw [hb]; exact h.jn
theorem Scn.det {bs : List (List UInt8)} {n' e' s' : Int} (h : Scn okF l til n e s bs n' e' s') : ∀ {bs' : List (List UInt8)} {n'' e'' s'' : Int}, Scn okF l til n e s bs' n'' e'' s'' -> bs = bs' /\ n' = n'' /\ e' = e'' /\ s' = s'' := by
  induction h with
  | stop h =>
    intro bs' n'' e'' s'' k
    cases k with
    | stop _ => exact ⟨rfl, rfl, rfl, rfl⟩
    | go k _ => exact absurd k (h _ _ _)
  | go h t ih =>
    intro bs' n'' e'' s'' k
    cases k with
    | stop k => exact absurd h (k _ _ _)
    | go k t' =>
      obtain ⟨rfl, rfl, rfl⟩ := h.one k
      obtain ⟨rfl, h2, h3, h4⟩ := ih t'
      exact ⟨rfl, h2, h3, h4⟩
theorem Scn.le {bs : List (List UInt8)} {n' e' s' : Int} (h : Scn okF l til n e s bs n' e' s') : n <= n' /\ e <= e' /\ s' = s + bs.length := by
  induction h with
  | stop h => exact ⟨Int.le_refl _, Int.le_refl _, by simp⟩
  | go h t ih => exact ⟨by omega, Int.le_trans h.ep ih.2.1, by rw [ih.2.2]; simp; omega⟩
theorem Scn.nil {n' e' s' : Int} (h : Scn okF l til n e s [] n' e' s') : e' = e := by cases h; rfl
theorem Scn.upto {bs : List (List UInt8)} {n' e' s' : Int} (h : Scn okF l til n e s bs n' e' s') (hn : n <= til) : n' <= til := by
  induction h with
  | stop h => exact hn
  | go h t ih => exact ih (by have := h.mo; omega)
theorem Scn.none {bs : List (List UInt8)} {n' e' s' : Int} (h : Scn okF l til n e s bs n' e' s') : ∀ b m o, ¬ OneP okF l n' e' s' (til - n') b m o := by
  induction h with
  | stop h => exact h
  | go h t ih => exact ih
theorem Scn.moved {bs : List (List UInt8)} {n' e' s' : Int} (h : Scn okF l til n e s bs n' e' s') (hs : ∀ x, n <= x -> x < n' -> secAt g x = secAt l x) {cs : List (List UInt8)} {n'' e'' s'' : Int}
    (hg : Scn okF g til n' e' s' cs n'' e'' s'') : Scn okF g til n e s (bs ++ cs) n'' e'' s'' := by
  induction h with
  | stop h => exact hg
  | go h t ih =>
    have hle := t.le.1
    exact .go (h.same fun i hi => hs _ (by omega) (by omega)) (ih (fun x h1 h2 => hs x (by omega) h2) hg)
def Fate (a y new : List UInt8) : Prop := y = a \/ y = new \/ ¬ okL y
def sealedL (more n s : Int) (b : List UInt8) : List (List UInt8) := (List.range (needN b.length)).map fun i => sectorOf more (n + (i : Nat)) 1 (piece (needN b.length) s b i)
def secsOf (more : Int) : Int -> Int -> List (List UInt8) -> List (List UInt8)
  | _, _, [] => []
  | n, s, b :: bs => sealedL more n s b ++ secsOf more (n + (needN b.length : Nat)) (s + 1) bs
def CameB (g : List (List UInt8)) (more n s : Int) (b : List UInt8) : Prop := ∀ i, i < needN b.length -> secAt g (n + (i : Nat)) = sectorOf more (n + (i : Nat)) 1 (piece (needN b.length) s b i)
open Classical in
noncomputable def cameL (g : List (List UInt8)) (more : Int) : Int -> Int -> List (List UInt8) -> Nat
  | _, _, [] => 0
  | n, s, b :: bs => if CameB g more n s b then 1 + cameL g more (n + (needN b.length : Nat)) (s + 1) bs else 0
theorem cameL_yes {g : List (List UInt8)} {more n s : Int} {b : List UInt8} {bs : List (List UInt8)} (h : CameB g more n s b) : cameL g more n s (b :: bs) = 1 + cameL g more (n + (needN b.length : Nat)) (s + 1) bs := by rw [cameL, if_pos h]
theorem cameL_no {g : List (List UInt8)} {more n s : Int} {b : List UInt8} {bs : List (List UInt8)} (h : ¬ CameB g more n s b) : cameL g more n s (b :: bs) = 0 := by rw [cameL, if_neg h]
theorem sealedL_len (more n s : Int) (b : List UInt8) : (sealedL more n s b).length = needN b.length := by simp [sealedL]
theorem sealedL_at {more n s : Int} {b : List UInt8} {i : Nat} (h : i < needN b.length) (t : List (List UInt8)) : (sealedL more n s b ++ t)[i]? = some (sectorOf more (n + (i : Nat)) 1 (piece (needN b.length) s b i)) := by
  rw [List.getElem?_append_left (by rw [sealedL_len]; exact h)]
  simp [sealedL, h]
theorem sealedL_behind {more n s : Int} {b : List UInt8} (t : List (List UInt8)) (i : Nat) : (sealedL more n s b ++ t)[needN b.length + i]? = t[i]? := by
  rw [List.getElem?_append_right (by rw [sealedL_len]; omega), sealedL_len, Nat.add_sub_cancel_left]
theorem new_seal {more n s : Int} {b : List UInt8} {i : Nat} (hm : 0 <= more /\ more <= 281474976710656) (hn : 0 <= n /\ n <= 281474976710656) :
    okL (sectorOf more n 1 (piece (needN b.length) s b i)) /\ cE (sectorOf more n 1 (piece (needN b.length) s b i)) = more /\ cN (sectorOf more n 1 (piece (needN b.length) s b i)) = n /\ cK (sectorOf more n 1 (piece (needN b.length) s b i)) = 1 /\
      cB (sectorOf more n 1 (piece (needN b.length) s b i)) = piece (needN b.length) s b i := by
  refine ⟨okL_sector _ _ _ _, ?_, ?_, ?_, ?_⟩
  · rw [cE_sector]; exact nr_self hm.1 hm.2
  · rw [cN_sector]; exact nr_self hn.1 hn.2
  · rw [cK_sector]; rfl
  · rw [cB_sector]; exact List.take_of_length_le (by rw [piece_len]; omega)
section
variable {more : Int} {rest : List (List UInt8)}
structure Gro (l g : List (List UInt8)) (til more n : Int) (secs : List (List UInt8)) : Prop where
  fate : ∀ (i : Nat) (x : List UInt8), secs[i]? = some x -> Fate (secAt l (n + i)) (secAt g (n + i)) x
  newE : ∀ (i : Nat) (x : List UInt8), secs[i]? = some x -> cE x = more
  rest : ∀ x, n + secs.length <= x -> x < til -> secAt g x = secAt l x
  old : ∀ x, okL (secAt l x) -> cE (secAt l x) < more
theorem Gro.one {secs : List (List UInt8)} (G : Gro l g til more n secs) (h : OneP okF g n e s (til - n) b m o) :
    (o = more /\ ∀ i : Nat, i < m -> ∃ x, secs[i]? = some x /\ secAt g (n + i) = x) \/ (o < more /\ OneP okF l n e s (til - n) b m o) := by
  have hmo := h.mo
  by_cases ho : o = more
  · refine .inl ⟨ho, fun i hi => ?_⟩
    obtain ⟨⟨_, hok, _⟩, hE⟩ := h.all i hi
    by_cases hl : i < secs.length
    · have hx : secs[i]? = some secs[i] := List.getElem?_eq_getElem hl
      refine ⟨_, hx, ?_⟩
      rcases G.fate i _ hx with q | q | q
      · have := G.old (n + i) (by rw [<- q]; exact hok)
        rw [<- q, hE] at this
        omega
      · exact q
      · exact absurd hok q
    · have q := G.rest (n + i) (by omega) (by omega)
      have := G.old (n + i) (by rw [<- q]; exact hok)
      rw [<- q, hE] at this
      omega
  · have hs : ∀ i : Nat, i < m -> secAt l (n + i) = secAt g (n + i) := fun i hi => by
      obtain ⟨⟨_, hok, _⟩, hE⟩ := h.all i hi
      by_cases hl : i < secs.length
      · have hx : secs[i]? = some secs[i] := List.getElem?_eq_getElem hl
        rcases G.fate i _ hx with q | q | q
        · exact q.symm
        · rw [q, G.newE i _ hx] at hE
          exact absurd hE.symm ho
        · exact absurd hok q
      · exact (G.rest (n + i) (by omega) (by omega)).symm
    have h' := h.same hs
    refine .inr ⟨?_, h'⟩
    rw [h'.ow]
    exact G.old n h'.has.2.1
theorem secs_newE (hm : 0 <= more /\ more <= 281474976710656) : ∀ (rest : List (List UInt8)) (n s : Int) (i : Nat) (x : List UInt8), (secsOf more n s rest)[i]? = some x -> cE x = more
  | [], n, s, i, x, h => by simp [secsOf] at h
  | b :: bs, n, s, i, x, h => by
    unfold secsOf at h
    by_cases hi : i < needN b.length
    · rw [sealedL_at hi] at h
      rw [<- Option.some.inj h, cE_sector]
      exact nr_self hm.1 hm.2
    · obtain ⟨k, rfl⟩ : ∃ k, i = needN b.length + k := ⟨i - needN b.length, by omega⟩
      rw [sealedL_behind] at h
      exact secs_newE hm bs _ _ k x h
theorem split_facts {s : Int} {b : List UInt8} (hs : 0 <= s /\ s <= 281474976710656) (hneed : needN b.length <= 1024) :
    splitL s b = pcs (needN b.length) s b (needN b.length) /\ GoodP (splitL s b) s /\ (splitL s b).length = needN b.length /\ (HdOk (piece (needN b.length) s b 0) /\ plc (piece (needN b.length) s b 0) = 0 /\ cnt (piece (needN b.length) s b 0) = (needN b.length : Nat) /\ sqn (piece (needN b.length) s b 0) = s) := by
  have hsp : splitL s b = pcs (needN b.length) s b (needN b.length) := by rw [splitL_ok hneed, clampS_id hs]
  have hgood : GoodP (splitL s b) s := by have := split_good (s := s) hneed; rwa [clampS_id hs] at this
  have hl : (splitL s b).length = needN b.length := by rw [hsp, pcs_len]
  have g0 := hgood.2 0 (piece (needN b.length) s b 0) (by rw [hsp, pcs_get (by have := needN_bd b.length; omega)])
  refine ⟨hsp, hgood, hl, g0.1, g0.2.1, ?_, g0.2.2.2.1⟩
  rw [g0.2.2.1, hl]
theorem new_one (hm : 0 <= more /\ more <= 281474976710656) (hn : 0 <= n) (hr : n + (needN b.length : Nat) <= til) (htil : til <= 281474976710656) (hs : 0 <= s /\ s <= 281474976710656) (hneed : needN b.length <= 1024) (hf : okF b) (he : e <= more)
    (hc : ∀ i, i < needN b.length -> secAt g (n + (i : Nat)) = sectorOf more (n + (i : Nat)) 1 (piece (needN b.length) s b i)) : OneP okF g n e s (til - n) b (needN b.length) more := by
  have hmo : ((needN b.length : Nat) : Int) <= til - n := by omega
  have hbd : ∀ i : Nat, i < needN b.length -> 0 <= n + (i : Nat) /\ n + (i : Nat) <= 281474976710656 := fun i hi => ⟨by omega, by omega⟩
  have hpos := (needN_bd b.length).1
  obtain ⟨hsp, hgood, hl, f1, f2, f3, f4⟩ := split_facts hs hneed
  have hsec : ∀ i, i < needN b.length -> okL (secAt g (n + (i : Nat))) /\ cE (secAt g (n + (i : Nat))) = more /\ cN (secAt g (n + (i : Nat))) = n + (i : Nat) /\ cK (secAt g (n + (i : Nat))) = 1 /\ cB (secAt g (n + (i : Nat))) = piece (needN b.length) s b i := fun i hi => by
    rw [hc i hi]
    exact new_seal hm (hbd i hi)
  have hhas : ∀ i : Nat, i < needN b.length -> HasQ g (n + i) := fun i hi => ⟨hbd i hi, (hsec i hi).1, (hsec i hi).2.2.2.1, (hsec i hi).2.2.1⟩
  have h0 := hsec 0 hpos
  rw [Int.natCast_zero, Int.add_zero] at h0
  have hh := hhas 0 hpos
  rw [Int.natCast_zero, Int.add_zero] at hh
  have hbod : bodies g n (needN b.length) = splitL s b := by
    rw [hsp]
    exact List.map_congr_left fun i hi => (hsec i (List.mem_range.1 hi)).2.2.2.2
  exact {
    has := hh
    hd := by rw [h0.2.2.2.2]; exact f1
    ep := he
    pl := by rw [h0.2.2.2.2]; exact f2
    sq := by rw [h0.2.2.2.2]; exact f4
    ct := by rw [h0.2.2.2.2]; exact f3
    mo := hmo
    ow := h0.2.1.symm
    all := fun i hi => ⟨hhas i hi, (hsec i hi).2.1⟩
    jn := ⟨s, by rw [hbod, joinL_yes hgood, split_tails hneed]⟩
    fr := hf }
theorem new_all {t : List (List UInt8)} {b' : List UInt8} (hm : 0 <= more /\ more <= 281474976710656) (hn : 0 <= n /\ n <= 281474976710656) (hs : 0 <= s /\ s <= 281474976710656) (hneed : needN b.length <= 1024)
    (h : OneP okF g n e s most b' m o) (q : ∀ i : Nat, i < m -> ∃ x, (sealedL more n s b ++ t)[i]? = some x /\ secAt g (n + i) = x) (i : Nat) (hi : i < needN b.length) : secAt g (n + (i : Nat)) = sectorOf more (n + (i : Nat)) 1 (piece (needN b.length) s b i) := by
  obtain ⟨_, _, _, f1, f2, f3, f4⟩ := split_facts hs hneed
  have hpos := (needN_bd b.length).1
  obtain ⟨x, hx, hgx⟩ := q 0 h.pos
  rw [sealedL_at hpos] at hx
  have hxe := Option.some.inj hx
  rw [Int.natCast_zero, Int.add_zero] at hgx hxe
  have hbody : cB (secAt g n) = piece (needN b.length) s b 0 := by rw [hgx, <- hxe]; exact (new_seal hm hn).2.2.2.2
  have hct := h.ct
  rw [hbody, f3] at hct
  obtain ⟨y, hy, hgy⟩ := q i (by omega)
  rw [sealedL_at hi] at hy
  rw [hgy, <- Option.some.inj hy]
theorem grown_new (hm : 0 <= more /\ more <= 281474976710656) (htil : til <= 281474976710656) : ∀ (rest : List (List UInt8)) (n e s : Int), Gro l g til more n (secsOf more n s rest) -> n + (secsOf more n s rest).length <= til ->
    0 <= n -> 0 <= s -> s + rest.length <= 281474976710656 -> (∀ b ∈ rest, okF b /\ needN b.length <= 1024) -> e <= more -> (e = more \/ ∀ b m o, ¬ OneP okF l n e s (til - n) b m o) ->
    ∃ T' E', Scn okF g til n e s (rest.take (cameL g more n s rest)) T' E' (s + (cameL g more n s rest : Nat)) /\ (0 < cameL g more n s rest -> E' = more)
  | [], n, e, s, G, hr, hn, hs, hsl, hok, he, hno => by
    refine ⟨n, e, ?_, fun h => absurd h (Nat.lt_irrefl 0)⟩
    have : Scn okF g til n e s [] n e s := .stop fun b m o h => by
      rcases G.one h with ⟨_, q⟩ | ⟨ho, q⟩
      · obtain ⟨x, hx, _⟩ := q 0 h.pos
        simp [secsOf] at hx
      · rcases hno with hno | hno
        · have := q.ep; omega
        · exact hno b m o q
    simpa [cameL] using this
  | b :: bs, n, e, s, G, hr, hn, hs, hsl, hok, he, hno => by
    have hb := needN_bd b.length
    obtain ⟨hf, hneed⟩ := hok b List.mem_cons_self
    have hlen : (secsOf more n s (b :: bs)).length = needN b.length + (secsOf more (n + (needN b.length : Nat)) (s + 1) bs).length := by
      simp only [secsOf, List.length_append, sealedL_len]
    have hs2 : 0 <= s /\ s <= 281474976710656 := by rw [List.length_cons] at hsl; omega
    have hsl2 : s + 1 + (bs.length : Nat) <= 281474976710656 := by rw [List.length_cons] at hsl; omega
    have hr2 : n + (needN b.length : Nat) + ((secsOf more (n + (needN b.length : Nat)) (s + 1) bs).length : Nat) <= til := by rw [hlen] at hr; omega
    have hn2 : 0 <= n /\ n <= 281474976710656 := by omega
    by_cases hc : CameB g more n s b
    · -- it came through
      have hcame : cameL g more n s (b :: bs) = 1 + cameL g more (n + (needN b.length : Nat)) (s + 1) bs := cameL_yes hc
      have G' : Gro l g til more (n + (needN b.length : Nat)) (secsOf more (n + (needN b.length : Nat)) (s + 1) bs) := by
        refine ⟨fun i x hx => ?_, fun i x hx => secs_newE hm bs _ _ i x hx, fun x h1 h2 => G.rest x (by rw [hlen]; omega) h2, G.old⟩
        have := G.fate (needN b.length + i) x (by unfold secsOf; rw [sealedL_behind]; exact hx)
        have e1 : n + ((needN b.length + i : Nat) : Int) = n + (needN b.length : Nat) + (i : Nat) := by omega
        rwa [e1] at this
      obtain ⟨T', E', ht, hE⟩ := grown_new hm htil bs (n + (needN b.length : Nat)) more (s + 1) G' hr2 (by omega) (by omega) hsl2 (fun x hx => hok x (List.mem_cons_of_mem _ hx)) (Int.le_refl _) (.inl rfl)
      have hone : OneP okF g n e s (til - n) b (needN b.length) more := new_one hm hn (by omega) htil hs2 hneed hf he hc
      refine ⟨T', E', ?_, fun _ => ?_⟩
      · rw [hcame, Nat.add_comm 1, List.take_succ_cons]
        have e2 : s + ((cameL g more (n + (needN b.length : Nat)) (s + 1) bs + 1 : Nat) : Int) = s + 1 + (cameL g more (n + (needN b.length : Nat)) (s + 1) bs : Nat) := by omega
        rw [e2]
        exact .go hone ht
      · have := ht.le.2.1
        by_cases h1 : 0 < cameL g more (n + (needN b.length : Nat)) (s + 1) bs
        · exact hE h1
        · have h2 : cameL g more (n + (needN b.length : Nat)) (s + 1) bs = 0 := by omega
          rw [h2, List.take_zero] at ht
          exact ht.nil
    · have hcame : cameL g more n s (b :: bs) = 0 := cameL_no hc
      refine ⟨n, e, ?_, fun h => by rw [hcame] at h; exact absurd h (Nat.lt_irrefl 0)⟩
      have hst : Scn okF g til n e s [] n e s := .stop fun b' m o h => by
        rcases G.one h with ⟨ho, q⟩ | ⟨ho, q⟩
        · exact hc fun i hi => new_all hm hn2 hs2 hneed h q i hi
        · rcases hno with hno | hno
          · have := q.ep; omega
          · exact hno b' m o q
      rw [hcame]
      simpa using hst
end
end
end Go.Proofs.YthabmlbmlncbmaaGreat
namespace Go.Proofs.YthabmlbmlncbmaaGreat
open Go.RowKit
set_option linter.unusedVariables false
theorem idx_inj {N a b : Int} (h : a % N = b % N) (h1 : a <= b) (h2 : b < a + N) : a = b := by
  have h3 : (b - a) % N = 0 := Int.emod_eq_emod_iff_emod_sub_eq_zero.1 h.symm
  rw [Int.emod_eq_of_lt (by omega) (by omega)] at h3
  omega
theorem idx_lt {N : Nat} (a : Int) (hN : 0 < N) : (a % (N : Int)).toNat < N := by
  have h1 := Int.emod_nonneg a (show (N : Int) ≠ 0 by omega)
  have h2 := Int.emod_lt_of_pos a (show (0 : Int) < N by omega)
  omega
theorem idx_eq {N : Nat} {a b : Int} (hN : 0 < N) (h : (a % (N : Int)).toNat = (b % (N : Int)).toNat) : a % (N : Int) = b % (N : Int) := by
  have h1 := Int.emod_nonneg a (show (N : Int) ≠ 0 by omega)
  have h2 := Int.emod_nonneg b (show (N : Int) ≠ 0 by omega)
  omega
theorem secAt_set {l : List (List UInt8)} {a b : Int} {x : List UInt8} (hN : 0 < l.length) (h : a % (l.length : Int) = b % (l.length : Int)) : secAt (l.set (a % (l.length : Int)).toNat x) b = x := by
  unfold secAt
  rw [List.length_set, <- h, List.getD_eq_getElem?_getD, List.getElem?_set_self (idx_lt a hN)]
  rfl
theorem secAt_set_ne {l : List (List UInt8)} {a b : Int} {x : List UInt8} (hN : 0 < l.length) (h : a % (l.length : Int) ≠ b % (l.length : Int)) : secAt (l.set (a % (l.length : Int)).toNat x) b = secAt l b := by
  unfold secAt
  rw [List.length_set, List.getD_eq_getElem?_getD, List.getElem?_set_ne (fun e => h (idx_eq hN e)), <- List.getD_eq_getElem?_getD]
section
variable (tr : List UInt8 -> List UInt8 -> Int -> List UInt8) (n : Int) (ks : List Int)
def laidL : Nat -> List (List UInt8) -> List (List UInt8) -> List (List UInt8)
  | _, [], out => out
  | i, x :: xs, out => laidL (i + 1) xs (out.set ((n + (i : Nat)) % (out.length : Int)).toNat (tr (secAt out (n + (i : Nat))) x (ks.getD i 64)))
theorem laidL_len : ∀ (i : Nat) (xs out : List (List UInt8)), (laidL tr n ks i xs out).length = out.length
  | _, [], _ => rfl
  | i, x :: xs, out => by rw [laidL, laidL_len (i + 1) xs _, List.length_set]
theorem laidL_other : ∀ (i : Nat) (xs out : List (List UInt8)) (m : Int), 0 < out.length -> (∀ r : Nat, r < xs.length -> (n + ((i + r : Nat) : Int)) % (out.length : Int) ≠ m % (out.length : Int)) -> secAt (laidL tr n ks i xs out) m = secAt out m
  | _, [], _, _, _, _ => rfl
  | i, x :: xs, out, m, hN, h => by
    have h0 := h 0 (by simp)
    rw [Nat.add_zero] at h0
    rw [laidL, laidL_other (i + 1) xs _ m (by rw [List.length_set]; exact hN) (fun r hr => by
      rw [List.length_set]
      have := h (r + 1) (by simp; omega)
      rwa [show i + (r + 1) = i + 1 + r by omega] at this), secAt_set_ne hN h0]
theorem laidL_at : ∀ (i : Nat) (xs out : List (List UInt8)) (r : Nat) (x : List UInt8), xs.length <= out.length -> xs[r]? = some x -> secAt (laidL tr n ks i xs out) (n + ((i + r : Nat) : Int)) = tr (secAt out (n + ((i + r : Nat) : Int))) x (ks.getD (i + r) 64)
  | _, [], _, _, _, _, h => by simp at h
  | i, y :: xs, out, 0, x, hl, h => by
    have hN : 0 < out.length := by simp at hl; omega
    simp only [List.getElem?_cons_zero, Option.some.injEq] at h
    subst h
    rw [Nat.add_zero, laidL, laidL_other tr n ks (i + 1) xs _ _ (by rw [List.length_set]; exact hN) (fun r hr e => by
      rw [List.length_set] at e
      have hl' : xs.length + 1 <= out.length := by simpa using hl
      have := idx_inj e.symm (by omega) (by omega)
      omega), secAt_set hN rfl]
  | i, y :: xs, out, r + 1, x, hl, h => by
    have hN : 0 < out.length := by simp at hl; omega
    have hl' : xs.length + 1 <= out.length := by simpa using hl
    have hr : r < xs.length := by have := (List.getElem?_eq_some_iff.1 h).1; simpa using this
    have e1 : i + (r + 1) = i + 1 + r := by omega
    rw [e1, laidL, laidL_at (i + 1) xs _ r x (by rw [List.length_set]; omega) (by simpa using h), secAt_set_ne hN (fun e => by
      have := idx_inj e (by omega) (by omega)
      omega)]
end
section
variable {okF : List UInt8 -> Prop} {l : List (List UInt8)} {tr : List UInt8 -> List UInt8 -> Int -> List UInt8} {ks : List Int} {head e s T E Q more : Int} {bs rest : List (List UInt8)}
theorem laid_gro (hl : 0 < l.length) (hm : 0 <= more /\ more <= 281474976710656) (hT : head <= T) (hr : T + ((secsOf more T Q rest).length : Nat) <= head + l.length)
    (hold : ∀ x, okL (secAt l x) -> cE (secAt l x) < more) (hf : ∀ (a x : List UInt8) (k : Int), (∃ m, a = secAt l m) -> x ∈ secsOf more T Q rest -> Fate a (tr a x k) x) :
    Gro l (laidL tr T ks 0 (secsOf more T Q rest) l) (head + l.length) more T (secsOf more T Q rest) /\ ∀ x, head <= x -> x < T -> secAt (laidL tr T ks 0 (secsOf more T Q rest) l) x = secAt l x := by
  have hlen : (secsOf more T Q rest).length <= l.length := by omega
  refine ⟨⟨fun i x hx => ?_, fun i x hx => secs_newE hm rest T Q i x hx, fun x h1 h2 => ?_, hold⟩, fun x h1 h2 => ?_⟩
  · have := laidL_at tr T ks 0 (secsOf more T Q rest) l i x hlen hx
    rw [Nat.zero_add] at this
    rw [this]
    exact hf _ x _ ⟨_, rfl⟩ (List.mem_of_getElem? hx)
  · exact laidL_other tr T ks 0 _ l x hl fun r hr' e2 => by
      rw [Nat.zero_add] at e2
      have := idx_inj e2 (by omega) (by omega)
      omega
  · exact laidL_other tr T ks 0 _ l x hl fun r hr' e2 => by
      rw [Nat.zero_add] at e2
      have := idx_inj e2.symm (by omega) (by omega)
      omega
theorem grow18 (hs : Scn okF l (head + l.length) head e s bs T E Q) (hl : 0 < l.length) (hm : 0 <= more /\ more <= 281474976710656) (hhead : 0 <= head /\ head + l.length <= 281474976710656) (hQ : 0 <= Q /\ Q + (rest.length : Nat) <= 281474976710656)
    (hE : E <= more) (hr : T + ((secsOf more T Q rest).length : Nat) <= head + l.length) (hok : ∀ b ∈ rest, okF b /\ needN b.length <= 1024)
    (hold : ∀ x, okL (secAt l x) -> cE (secAt l x) < more) (hf : ∀ (a x : List UInt8) (k : Int), (∃ m, a = secAt l m) -> x ∈ secsOf more T Q rest -> Fate a (tr a x k) x) :
    ∃ T' E', Scn okF (laidL tr T ks 0 (secsOf more T Q rest) l) (head + l.length) head e s (bs ++ rest.take (cameL (laidL tr T ks 0 (secsOf more T Q rest) l) more T Q rest)) T' E' (Q + (cameL (laidL tr T ks 0 (secsOf more T Q rest) l) more T Q rest : Nat)) /\
      (0 < cameL (laidL tr T ks 0 (secsOf more T Q rest) l) more T Q rest -> E' = more) := by
  have hT := hs.le.1
  obtain ⟨G, hk⟩ := laid_gro (tr := tr) (ks := ks) hl hm hT hr hold hf
  obtain ⟨T', E', h1, h2⟩ := grown_new (okF := okF) hm hhead.2 rest T E Q G hr (by omega) hQ.1 hQ.2 hok hE (.inr hs.none)
  exact ⟨T', E', hs.moved hk h1, h2⟩
end
end Go.Proofs.YthabmlbmlncbmaaGreat
namespace Go.Proofs.YthabmlbmlncbmaaGreat
set_option maxRecDepth 20000
open Go.RowKit
def Sec (w : World) (g : Nat) (l : List UInt8) : Prop := l.length = 512 /\ w.heap[g]? = some (.cells (cells l).toArray 114 (0, 0))
section
variable {w w' : World} {g : Nat} {l : List UInt8}
theorem Sec.lt (h : Sec w g l) : g < w.heap.size := (Array.getElem?_eq_some_iff.1 h.2).1
theorem Sec.below {B : Nat} (h : Sec w g l) (hb : Below B w w') (hB : g < B) : Sec w' g l := ⟨h.1, (hb.block g hB).trans h.2⟩
theorem Sec.alloc (h : Sec w g l) (o : Obj) : Sec (w.alloc o) g l := h.below ((Below.refl w.heap.size w).alloc (Nat.le_refl _) o) h.lt
theorem Sec.drew (h : Sec w g l) : Sec w.drew g l := h
theorem Sec.cell (h : Sec w g l) (j : Nat) (hj : j < l.length) : w.cell? ⟨g, j, none⟩ = some (.int .u8 (l[j].toNat : Int)) := by
  rw [cell_of_row _ g j _ _ _ h.2]
  simpa using cells_get hj
theorem Sec.rd (h : Sec w g l) {p m : Nat} (hp : p + m <= 512) : Rd w (some ⟨g, p, none⟩) m ((l.drop p).take m) :=
  ⟨by have := h.1; simp; omega, fun hm => ⟨g, p, rfl, h.lt, fun j hj => by
    have := h.1
    have hj' : j < m := by simp at hj; omega
    rw [h.cell (p + j) (by omega)]
    simp⟩⟩
theorem Sec.rd_all (h : Sec w g l) : Rd w (some ⟨g, 0, none⟩) 512 l := by
  have := h.rd (p := 0) (m := 512) (by omega)
  rw [List.drop_zero, List.take_of_length_le (by rw [h.1]; omega)] at this
  exact this
end
theorem num_any (g : Nat) (l : List UInt8) (x : Nat) (width : Int) (w : World) (h : Sec w g l) (hx : x + wd width <= 512) :
    Calls Tryz.prog 85 #[.pointer (some ⟨g, 0, none⟩), .int .i64 x, .int .i64 width] w fun e w' => e = .returned (.int .i64 (getV ((l.drop x).take (wd width)))) /\ w = w' := by
  have hG := Get_yes (some ⟨g, 0, none⟩) 512 512 l x width w h.rd_all (by omega) (by omega) hx
  have HG := hi_ hG
  clear hG
  have hu := Tryz.underlying113
  go_enter Tryz.func85, Tryz.ntmps85
  go_wp2_with (go_at_call 63; refine HG.out.mono ?_; rintro e w' ⟨rfl, rfl⟩)
  go_ret
  exact ⟨rfl, rfl⟩
theorem step_cpy_sec {ops : Array Oper} {o : Oper} {a : Act} {w : World} {K : Act -> World -> Prop} {Q : Exit -> Act -> World -> Prop} {E : Prop} (hgd : o.guard = none) (d s : Operand)
    (ho : o.op = .call { callee := .builtin .copy, args := #[d, s], argTypes := #[42, 42] })
    (g p dl dc : Nat) (L : List UInt8) (hd : a.eval d = .slice (some ⟨g, p, none⟩) dl dc) (hp : p + dl <= 512) (hL : Sec w g L)
    (A : Option Addr) (n c : Nat) (l : List UInt8) (hs : a.eval s = .slice A n c) (hr : Rd w A n l)
    (h : ∀ w', Sec w' g (putL L p (l.take dl)) -> Below g w w' -> K (a.put o.dst (goInt (l.take dl).length)) w') :
    if Region.wanted o (yielded ops a.tmps) = true then Oper.wp Tryz.prog o a w K Q else E := by
  have hl := hr.1
  have hL1 := hL.1
  have hm : (l.take dl).length = min dl n := by simp; omega
  refine step_copy_splice hgd d s _ _ ho 5 Tryz.underlying42 (by kernel_rfl) (some ⟨g, p, none⟩) A dl dc n c hd hs g p (cells L) 114 hL.2 (cells (l.take dl)) (by rw [cells_length, hm]; show min dl n = min n dl; omega) (fun hpos => ⟨rfl, hr.src dl hpos⟩) (by rw [cells_length, cells_length]; omega) (cells_one _) g w (Below.refl _ _) (Nat.le_refl _) ?_
  intro w' hw' hb
  rw [cells_length]
  refine h w' ⟨?_, ?_⟩ hb
  · rw [putL_length (by omega), hL1]
  · rw [<- splice_cells]; exact hw'.out
theorem sput_any (g : Nat) (l : List UInt8) (x : Nat) (width n : Int) (w : World) (h : Sec w g l) (hx : x + wd width <= 512) :
    Calls Tryz.prog 88 #[.pointer (some ⟨g, 0, none⟩), .int .i64 x, .int .i64 width, .int .i64 n] w fun e w' => e = .returned (.tuple #[]) /\ Sec w' g (putL l x (numB (wd width) n)) /\ Below g w w' := by
  have hw := wd_bd width
  have hne : ¬ 512 = x := by omega
  have hx0 : (0 : Int) <= (x : Int) := Int.natCast_nonneg _
  have hx1 : (x : Int) <= 512 := by omega
  have hl := h.1
  have hlt := h.lt
  go_enter Tryz.func88, Tryz.ntmps88
  go_wp2
  go_region_held3 (fun _ => True) (trivial) (first
    | (go_at_call 80; refine (Put_any none 0 0 [] width n _ (Rd.nil _ _) (by omega)).mono ?_; rintro e w1 ⟨v1, rfl, hown1, hb1⟩; rw [List.nil_append, Nat.zero_add] at hown1; obtain ⟨A1, c1, rfl, _, _, hr1⟩ := Rd.of_own hown1 rfl)
    | (refine step_cpy_sec rfl (.tmp 11) (.tmp 14) rfl g x (512 - x) (512 - x) l rfl (by omega) (h.drew.below hb1 hlt) A1 _ c1 (numB (wd width) n) rfl hr1 ?_; intro w2 hs2 hb2))
  rw [List.take_of_length_le (by simp; omega)] at hs2
  go_end0
  exact ⟨rfl, hs2, ((Below.refl g w).drew.trans (hb1.mono (Nat.le_of_lt hlt))).trans hb2⟩
end Go.Proofs.YthabmlbmlncbmaaGreat
