/- PtM, GmN, Own, DMem, RowV, RowL, Grow, PtA, ScA, ScM, ScM2, Seal2, Crc1, Crc2, Crc3 -/
import Derived.Test.YthabmlbmlncbmaaQs1
import Derived.OwnWalk
import Derived.Maps.RangeWalk
import Derived.Deep.MidRow
import Derived.Deep.WholeRow
import Derived.Deep.RegionHeld3
import Derived.Deep.RegionWith
namespace Go.Proofs.Ythabmlbmlncbmaa
open Go.RowKit
set_option linter.unusedVariables false
def needN (m : Nat) : Nat := if m <= 460 then 1 else (m - 1) / 460 + 1
theorem needN_cast (m : Nat) : needZ (m : Int) = (needN m : Nat) := by
  unfold needZ needN
  by_cases h : m <= 460
  · rw [if_pos h, if_pos (by omega)]; rfl
  · rw [if_neg h, if_neg (by omega), Int.tdiv_eq_ediv_of_nonneg (by omega)]
    omega
theorem needN_bd (m : Nat) : 1 <= needN m /\ m <= 460 * needN m /\ (460 * (needN m - 1) < m \/ needN m = 1) := by
  unfold needN
  split <;> omega
def clampS (s : Int) : Int := min (max s 0) 281474976710656
theorem clampS_bd (s : Int) : 0 <= clampS s /\ clampS s <= 281474976710656 := by unfold clampS; omega
theorem clampS_id {s : Int} (h : 0 <= s /\ s <= 281474976710656) : clampS s = s := by unfold clampS; omega
def pcHead (i n : Nat) (s : Int) : List UInt8 := numB 2 (i : Int) ++ numB 2 (n : Int) ++ numB 8 s
def pcOwn (b : List UInt8) (i : Nat) : List UInt8 := (b.drop (i * 460)).take 460
def piece (n : Nat) (s : Int) (b : List UInt8) (i : Nat) : List UInt8 := pcHead i n s ++ pcOwn b i
def pcs (n : Nat) (s : Int) (b : List UInt8) (j : Nat) : List (List UInt8) := (List.range j).map (piece n s b)
def splitL (s : Int) (b : List UInt8) : List (List UInt8) := if 1024 < needN b.length then [] else pcs (needN b.length) (clampS s) b (needN b.length)
theorem pcHead_len (i n : Nat) (s : Int) : (pcHead i n s).length = 12 := by simp [pcHead]
theorem pcOwn_len (b : List UInt8) (i : Nat) : (pcOwn b i).length = min 460 (b.length - i * 460) := by simp [pcOwn]
theorem piece_len (n : Nat) (s : Int) (b : List UInt8) (i : Nat) : (piece n s b i).length = 12 + min 460 (b.length - i * 460) := by rw [piece, List.length_append, pcHead_len, pcOwn_len]
theorem pcs_len (n : Nat) (s : Int) (b : List UInt8) (j : Nat) : (pcs n s b j).length = j := by simp [pcs]
theorem pcs_succ (n : Nat) (s : Int) (b : List UInt8) (j : Nat) : pcs n s b (j + 1) = pcs n s b j ++ [piece n s b j] := by simp [pcs, List.range_succ]
theorem pcs_get {n : Nat} {s : Int} {b : List UInt8} {j i : Nat} (h : i < j) : (pcs n s b j)[i]? = some (piece n s b i) := by simp [pcs, h]
theorem pcs_some {n : Nat} {s : Int} {b : List UInt8} {j i : Nat} {x : List UInt8} (h : (pcs n s b j)[i]? = some x) : i < j /\ x = piece n s b i := by
  have hl := (List.getElem?_eq_some_iff.1 h).1
  rw [pcs_len] at hl
  rw [pcs_get hl] at h
  exact ⟨hl, (Option.some.inj h).symm⟩
theorem flat_pcs (n : Nat) (s : Int) (b : List UInt8) (j : Nat) : (pcs n s b j).flatten.length = 12 * j + min (j * 460) b.length := by
  induction j with
  | zero => simp [pcs]
  | succ j ih =>
    rw [pcs_succ, List.flatten_append, List.length_append, ih]
    simp only [List.flatten_cons, List.flatten_nil, List.append_nil, piece_len]
    omega
theorem owns_take (b : List UInt8) (j : Nat) : ((List.range j).map (pcOwn b)).flatten = b.take (j * 460) := by
  induction j with
  | zero => simp
  | succ j ih =>
    rw [List.range_succ, List.map_append, List.flatten_append, ih]
    simp only [List.map_cons, List.map_nil, List.flatten_cons, List.flatten_nil, List.append_nil, pcOwn]
    rw [Nat.succ_mul, List.take_add]
theorem flat_at {n : Nat} {s : Int} {b : List UInt8} {j i : Nat} (h : i < j) : ((pcs n s b j).flatten.drop (pcs n s b i).flatten.length).take (piece n s b i).length = piece n s b i := by
  have e : pcs n s b j = pcs n s b i ++ piece n s b i :: ((List.range (j - (i + 1))).map fun k => piece n s b (i + 1 + k)) := by
    have h1 : List.range j = List.range i ++ i :: (List.range (j - (i + 1))).map fun k => i + 1 + k := by
      have h2 : j = (i + 1) + (j - (i + 1)) := by omega
      rw [h2, List.range_add, List.range_succ, List.append_assoc, <- h2]
      simp [Nat.add_comm, Nat.add_left_comm]
    unfold pcs
    rw [h1, List.map_append, List.map_cons, List.map_map]
    rfl
  rw [e, List.flatten_append, List.drop_left, List.flatten_cons, List.take_left]
def plc (l : List UInt8) : Int := getV (l.take 2)
def cnt (l : List UInt8) : Int := getV ((l.drop 2).take 2)
def sqn (l : List UInt8) : Int := getV ((l.drop 4).take 8)
def HdOk (l : List UInt8) : Prop := (12 <= l.length /\ l.length <= 472) /\ (1 <= cnt l /\ cnt l <= 1024) /\ plc l < cnt l /\ (0 <= sqn l /\ sqn l <= 281474976710656)
instance (l : List UInt8) : Decidable (HdOk l) := by unfold HdOk; infer_instance
theorem plc_piece (n : Nat) (s : Int) (b : List UInt8) (i : Nat) (hi : i < 65536) : plc (piece n s b i) = i := by
  unfold plc piece pcHead
  rw [List.append_assoc, List.append_assoc, List.take_append_of_le_length (by simp), List.take_of_length_le (by simp)]
  exact getV_numB (by decide) (by omega) (by omega)
theorem cnt_piece (n : Nat) (s : Int) (b : List UInt8) (i : Nat) (hn : n < 65536) : cnt (piece n s b i) = n := by
  unfold cnt piece pcHead
  rw [List.append_assoc, List.append_assoc, List.drop_append_of_le_length (by simp), List.drop_of_length_le (by simp), List.nil_append, List.take_append_of_le_length (by simp), List.take_of_length_le (by simp)]
  exact getV_numB (by decide) (by omega) (by omega)
theorem sqn_piece (n : Nat) (s : Int) (b : List UInt8) (i : Nat) (hs : 0 <= s /\ s <= 281474976710656) : sqn (piece n s b i) = s := by
  unfold sqn piece pcHead
  rw [List.append_assoc, List.drop_append_of_le_length (by simp), List.drop_of_length_le (by simp), List.nil_append, List.take_append_of_le_length (by simp), List.take_of_length_le (by simp)]
  unfold getV
  rw [leN_numB, show (2 : Int) ^ (8 * 8) = 18446744073709551616 from by decide]
  unfold wrap64
  omega
theorem drop_piece (n : Nat) (s : Int) (b : List UInt8) (i : Nat) : (piece n s b i).drop 12 = pcOwn b i := by
  unfold piece
  exact List.drop_left' (pcHead_len i n s)
theorem piece_made {l : List UInt8} (h : 12 <= l.length) : numB 2 (plc l) ++ numB 2 (cnt l) ++ numB 8 (sqn l) ++ l.drop 12 = l := by
  unfold plc cnt sqn
  rw [numB_getV (by simp; omega) (by decide), numB_getV (by simp; omega) (by decide), numB8_getV (by simp; omega)]
  have e1 : l = l.take 2 ++ (l.drop 2) := (List.take_append_drop 2 l).symm
  have e2 : l.drop 2 = (l.drop 2).take 2 ++ l.drop 4 := by have := (List.take_append_drop 2 (l.drop 2)).symm; rwa [List.drop_drop] at this
  have e3 : l.drop 4 = (l.drop 4).take 8 ++ l.drop 12 := by have := (List.take_append_drop 8 (l.drop 4)).symm; rwa [List.drop_drop] at this
  rw [List.append_assoc, List.append_assoc, <- e3, <- e2, <- e1]
def tails (xs : List (List UInt8)) : List UInt8 := (xs.map (List.drop 12)).flatten
theorem tails_snoc (xs : List (List UInt8)) (x : List UInt8) : tails (xs ++ [x]) = tails xs ++ x.drop 12 := by simp [tails]
def seqAt (xs : List (List UInt8)) (j : Nat) : Int := if j = 0 then 0 else sqn (xs.getD (j - 1) [])
def GoodP (xs : List (List UInt8)) (s : Int) : Prop :=
  xs ≠ [] /\ ∀ (i : Nat) (x : List UInt8), xs[i]? = some x -> HdOk x /\ plc x = i /\ cnt x = xs.length /\ sqn x = s /\ (i + 1 ≠ xs.length -> x.length = 472) /\ (i + 1 = xs.length -> 0 < i -> x.length ≠ 12)
theorem splitL_ok {s : Int} {b : List UInt8} (h : needN b.length <= 1024) : splitL s b = pcs (needN b.length) (clampS s) b (needN b.length) := by unfold splitL; rw [if_neg (by omega)]
theorem tails_pcs (n : Nat) (s : Int) (b : List UInt8) (j : Nat) : tails (pcs n s b j) = b.take (j * 460) := by
  unfold tails pcs
  rw [List.map_map, <- owns_take]
  exact congrArg List.flatten (List.map_congr_left fun i _ => drop_piece n s b i)
theorem split_tails {s : Int} {b : List UInt8} (h : needN b.length <= 1024) : tails (splitL s b) = b := by
  rw [splitL_ok h, tails_pcs]
  have := needN_bd b.length
  exact List.take_of_length_le (by omega)
theorem split_good {s : Int} {b : List UInt8} (h : needN b.length <= 1024) : GoodP (splitL s b) (clampS s) := by
  have hb := needN_bd b.length
  have hs := clampS_bd s
  rw [splitL_ok h]
  refine ⟨fun e => ?_, fun i x hx => ?_⟩
  · have := congrArg List.length e
    rw [pcs_len] at this
    simp at this
    omega
  · obtain ⟨hi, rfl⟩ := pcs_some hx
    rw [pcs_len, plc_piece _ _ _ _ (by omega), cnt_piece _ _ _ _ (by omega), sqn_piece _ _ _ _ hs]
    refine ⟨⟨?_, ?_, ?_, ?_⟩, rfl, rfl, rfl, fun h1 => ?_, fun h1 h2 => ?_⟩
    · rw [piece_len]; omega
    · rw [cnt_piece _ _ _ _ (by omega)]; omega
    · rw [plc_piece _ _ _ _ (by omega), cnt_piece _ _ _ _ (by omega)]; omega
    · rw [sqn_piece _ _ _ _ hs]; exact hs
    · rw [piece_len]; omega
    · rw [piece_len]; omega
theorem tails_len {xs : List (List UInt8)} {s : Int} (hg : GoodP xs s) : ∀ j, j <= xs.length -> (tails (xs.take j)).length = (if j = xs.length then (j - 1) * 460 + ((xs.getD (j - 1) []).length - 12) else j * 460) := by
  intro j
  have hpos : 0 < xs.length := List.length_pos_iff.2 hg.1
  induction j with
  | zero => intro _; rw [if_neg (by omega)]; simp [tails]
  | succ j ih =>
    intro hj
    have hx : xs[j]? = some xs[j] := List.getElem?_eq_getElem (by omega)
    have hq := hg.2 j _ hx
    have e : xs.take (j + 1) = xs.take j ++ [xs[j]] := by rw [List.take_add_one, hx]; rfl
    have i1 := ih (by omega)
    rw [if_neg (by omega)] at i1
    rw [e, tails_snoc, List.length_append, i1, List.length_drop]
    by_cases hl : j + 1 = xs.length
    · rw [if_pos hl]
      simp only [Nat.add_sub_cancel, List.getD_eq_getElem?_getD, hx, Option.getD_some]
    · rw [if_neg hl, hq.2.2.2.2.1 hl]
      omega
theorem cut_at {α : Type} (xs : List α) (i : Nat) (h : i < xs.length) : xs = xs.take i ++ xs[i] :: xs.drop (i + 1) := by
  have := List.take_append_drop i xs
  rw [List.drop_eq_getElem_cons h] at this
  exact this.symm
theorem tails_app (xs ys : List (List UInt8)) : tails (xs ++ ys) = tails xs ++ tails ys := by simp [tails]
theorem tails_cut (xs : List (List UInt8)) (i : Nat) (h : i < xs.length) : tails xs = tails (xs.take i) ++ ((xs[i]).drop 12 ++ tails (xs.drop (i + 1))) := by
  have e := congrArg tails (cut_at xs i h)
  rw [tails_app] at e
  exact e
theorem own_mid {T a r q : List UInt8} {i : Nat} (h : T = a ++ (r ++ q)) (ha : a.length = i * 460) (hr : r.length = 460) : pcOwn T i = r := by
  unfold pcOwn
  rw [<- ha, h, List.drop_left, <- hr, List.take_left]
theorem own_last {T a r q : List UInt8} {i : Nat} (h : T = a ++ (r ++ q)) (ha : a.length = i * 460) (hq : q = []) (hr : r.length <= 460) : pcOwn T i = r := by
  unfold pcOwn
  rw [<- ha, h, List.drop_left, hq, List.append_nil, List.take_of_length_le hr]
theorem good_split {xs : List (List UInt8)} {s : Int} (hg : GoodP xs s) : xs = splitL s (tails xs) /\ needN (tails xs).length = xs.length /\ xs.length <= 1024 /\ (0 <= s /\ s <= 281474976710656) := by
  have hpos : 0 < xs.length := List.length_pos_iff.2 hg.1
  have hx0 : xs[0]? = some xs[0] := List.getElem?_eq_getElem hpos
  have h0 := hg.2 0 _ hx0
  have hn : xs.length <= 1024 := by have := h0.1.2.1; have := h0.2.2.1; omega
  have hs : 0 <= s /\ s <= 281474976710656 := by have := h0.1.2.2.2; rwa [h0.2.2.2.1] at this
  have hL := tails_len hg xs.length (Nat.le_refl _)
  rw [if_pos rfl, List.take_length] at hL
  have hxl : xs[xs.length - 1]? = some xs[xs.length - 1] := List.getElem?_eq_getElem (by omega)
  have hl := hg.2 _ _ hxl
  have hgd : xs.getD (xs.length - 1) [] = xs[xs.length - 1] := by rw [List.getD_eq_getElem?_getD, hxl]; rfl
  rw [hgd] at hL
  have hneed : needN (tails xs).length = xs.length := by
    have h1 := hl.1.1
    have h2 := hl.2.2.2.2.2 (by omega)
    have h3 := needN_bd (tails xs).length
    omega
  refine ⟨?_, hneed, hn, hs⟩
  rw [splitL_ok (by omega), hneed, clampS_id hs]
  apply List.ext_getElem?
  intro i
  by_cases hi : i < xs.length
  · rw [pcs_get hi]
    have hxi : xs[i]? = some xs[i] := List.getElem?_eq_getElem hi
    have hq := hg.2 i _ hxi
    rw [hxi]
    congr 1
    rw [<- piece_made hq.1.1.1]
    unfold piece pcHead
    rw [hq.2.1, hq.2.2.1, hq.2.2.2.1]
    congr 1
    have hi1 := tails_len hg i (Nat.le_of_lt hi)
    rw [if_neg (Nat.ne_of_lt hi)] at hi1
    have hT := tails_cut xs i hi
    have hq1 := hq.1.1.2
    have hq2 := hq.2.2.2.2.1
    clear hq h0 hl hL hneed hgd hxl hx0
    by_cases hlast : i + 1 = xs.length
    · refine (own_last hT hi1 ?_ ?_).symm
      · rw [hlast, List.drop_length]; rfl
      · rw [List.length_drop]; omega
    · exact (own_mid hT hi1 (by rw [List.length_drop, hq2 hlast])).symm
  · rw [List.getElem?_eq_none (by omega), List.getElem?_eq_none (by rw [pcs_len]; omega)]
theorem good_iff (xs : List (List UInt8)) : ((∀ x ∈ xs, HdOk x) /\ xs = splitL (seqAt xs xs.length) (tails xs)) ↔ GoodP xs (seqAt xs xs.length) := by
  constructor
  · rintro ⟨h1, h2⟩
    have hneed : needN (tails xs).length <= 1024 := by
      by_cases h : needN (tails xs).length <= 1024
      · exact h
      · have e : xs = [] := by rw [h2]; unfold splitL; rw [if_pos (by omega)]
        subst e
        exact absurd (by decide) h
    have hg := split_good (s := seqAt xs xs.length) hneed
    rw [<- h2] at hg
    have hpos : 0 < xs.length := List.length_pos_iff.2 hg.1
    have hxl : xs[xs.length - 1]? = some xs[xs.length - 1] := List.getElem?_eq_getElem (by omega)
    have e : seqAt xs xs.length = clampS (seqAt xs xs.length) := by
      have := (hg.2 _ _ hxl).2.2.2.1
      conv => lhs; unfold seqAt
      rw [if_neg (by omega), List.getD_eq_getElem?_getD, hxl]
      exact this
    rwa [<- e] at hg
  · intro hg
    refine ⟨fun x hx => ?_, (good_split hg).1⟩
    obtain ⟨i, hi, e⟩ := List.getElem_of_mem hx
    exact (hg.2 i x (by rw [List.getElem?_eq_getElem hi, e])).1
theorem good_seq {xs : List (List UInt8)} {s : Int} (hg : GoodP xs s) : seqAt xs xs.length = s /\ sqn (xs.getD 0 []) = s := by
  have hpos : 0 < xs.length := List.length_pos_iff.2 hg.1
  have hxl : xs[xs.length - 1]? = some xs[xs.length - 1] := List.getElem?_eq_getElem (by omega)
  have hx0 : xs[0]? = some xs[0] := List.getElem?_eq_getElem hpos
  refine ⟨?_, ?_⟩
  · unfold seqAt
    rw [if_neg (by omega), List.getD_eq_getElem?_getD, hxl]
    exact (hg.2 _ _ hxl).2.2.2.1
  · rw [List.getD_eq_getElem?_getD, hx0]
    exact (hg.2 _ _ hx0).2.2.2.1
open Classical in
noncomputable def joinL (xs : List (List UInt8)) : Int × List UInt8 × Bool := if GoodP xs (seqAt xs xs.length) then (seqAt xs xs.length, tails xs, true) else (0, [], false)
theorem joinL_yes {xs : List (List UInt8)} {s : Int} (h : GoodP xs s) : joinL xs = (s, tails xs, true) := by
  have e := (good_seq h).1
  unfold joinL
  rw [e, if_pos h]
theorem joinL_no {xs : List (List UInt8)} (h : ∀ s, ¬ GoodP xs s) : joinL xs = (0, [], false) := by
  unfold joinL
  rw [if_neg (h _)]
end Go.Proofs.Ythabmlbmlncbmaa
namespace Go.Proofs.Ythabmlbmlncbmaa
open Go.RowKit
set_option linter.unusedVariables false
theorem Place_yes (n : Int) (w : World) :
    Calls Try.prog 22 #[.int .i64 n] w fun e w' => e = .returned (.bool (decide (Plc n))) /\ w = w' := by
  by_cases h1 : 0 <= n
  · by_cases h2 : n <= 281474976710656
    all_goals
      go_enter Try.func22, Try.ntmps22
      go_wp2
      go_ret
      exact ⟨ret_bool (by rw [Bool.eq_iff_iff, decide_eq_true_iff]; unfold Plc; simp <;> omega), rfl⟩
  · go_enter Try.func22, Try.ntmps22
    go_wp2
    go_ret
    exact ⟨ret_bool (by rw [Bool.eq_iff_iff, decide_eq_true_iff]; unfold Plc; simp <;> omega), rfl⟩
theorem GNeed_any (n : Int) (w : World) (hr : -9223372036854775808 <= n /\ n <= 9223372036854775807) :
    Calls Try.prog 87 #[.int .i64 n] w fun e w' => e = .returned (.int .i64 (needZ n)) /\ w = w' := by
  unfold needZ
  by_cases h1 : n <= 460
  · rw [if_pos h1]
    go_enter Try.func87, Try.ntmps87
    go_wp2
    go_ret
    exact ⟨rfl, rfl⟩
  · rw [if_neg h1]
    have e1 : (n - 1).tdiv 460 = (n - 1) / 460 := Int.tdiv_eq_ediv_of_nonneg (by omega)
    go_enter Try.func87, Try.ntmps87
    go_wp2
    go_ret
    exact ⟨by first | rfl | exact ret_int (by rw [e1]; go_num), rfl⟩
theorem RNeed_any (n : Int) (w : World) (hr : -9223372036854775808 <= n /\ n <= 9223372036854775807) :
    Calls Try.prog 68 #[.int .i64 n] w fun e w' => e = .returned (.int .i64 (needZ n)) /\ w = w' := by
  rw [needZ_eq]
  by_cases h1 : n < 1
  · rw [if_pos h1]
    go_enter Try.func68, Try.ntmps68
    go_wp2
    go_ret
    exact ⟨rfl, rfl⟩
  · rw [if_neg h1]
    have e1 : n.tdiv 460 = n / 460 := Int.tdiv_eq_ediv_of_nonneg (by omega)
    have e2 : n.tmod 460 = n % 460 := Int.tmod_eq_emod_of_nonneg (by omega)
    by_cases h2 : 0 < n.tmod 460
    · rw [if_pos h2]
      go_enter Try.func68, Try.ntmps68
      go_wp2
      go_ret
      exact ⟨by first | rfl | exact ret_int (by rw [e1]; go_num), rfl⟩
    · rw [if_neg h2, Int.add_zero]
      go_enter Try.func68, Try.ntmps68
      go_wp2
      go_ret
      exact ⟨by first | rfl | exact ret_int (by rw [e1]; go_num), rfl⟩
end Go.Proofs.Ythabmlbmlncbmaa
namespace Go.Proofs.Ythabmlbmlncbmaa
open Go.RowKit
theorem Rd.below' {w w' : World} {A : Option Addr} {n B : Nat} {l : List UInt8} (h : Rd w A n l) (hb : Below B w w') (hB : 0 < n -> ∃ b o, A = some ⟨b, o, none⟩ /\ b < B) : Rd w' A n l :=
  ⟨h.1, fun hn => by
    obtain ⟨b, o, e, hlt, hc⟩ := h.2 hn
    obtain ⟨b', o', e', hB'⟩ := hB hn
    rw [e] at e'
    obtain ⟨rfl, rfl⟩ : b = b' /\ o = o' := by injection e' with e'; injection e' with e1 e2; exact ⟨e1, e2⟩
    exact ⟨b, o, e, by have := hb.size; omega, fun j hj => (hb.cell (p := ⟨b, o + j, none⟩) hB').trans (hc j hj)⟩⟩
theorem own_block {w : World} {B : Nat} {e : TypeId} {A : Option Addr} {n c b o : Nat} {xs : List Value} (h : w.ownsRow B e 1 (.slice A n c) n xs) (hA : A = some ⟨b, o, none⟩) : B <= b := by
  rcases h.2 with ⟨h1, _⟩ | ⟨g, cap, cur, hv, hB, _⟩
  · injection h1 with h1; rw [hA] at h1; cases h1
  · injection hv with h1
    rw [hA] at h1
    injection h1 with h1
    injection h1 with h1
    omega
theorem Rd.block {w w' : World} {A : Option Addr} {n : Nat} {l : List UInt8} (h : Rd w A n l) (hs : w.heap.size <= w'.heap.size) (hk : ∀ b o, A = some ⟨b, o, none⟩ -> w'.heap[b]? = w.heap[b]?) : Rd w' A n l :=
  ⟨h.1, fun hn => by
    obtain ⟨b, o, e, hlt, hc⟩ := h.2 hn
    exact ⟨b, o, e, by omega, fun j hj => (World.cell?_of_block (w := w) (a := ⟨b, o + j, none⟩) (hk b o e)).trans (hc j hj)⟩⟩
theorem Rd.src {w : World} {A : Option Addr} {n : Nat} {l : List UInt8} (h : Rd w A n l) (m : Nat) (hpos : 0 < (cells (l.take m)).length) : ∃ ad, A = some ad /\ ∀ j v, (cells (l.take m))[j]? = some v -> w.cell? (ad.add j) = some v := by
  have hl := h.1
  obtain ⟨b, o, e, _, hc⟩ := h.2 (by simp at hpos; omega)
  refine ⟨⟨b, o, none⟩, e, fun j v hj => ?_⟩
  have hj1 : j < (l.take m).length := by have := (List.getElem?_eq_some_iff.1 hj).1; simpa using this
  have hj2 : j < l.length := by simp at hj1; omega
  rw [Addr.add_lit, hc j hj2, <- hj, cells_get hj1]
  simp
theorem heap_setCell_at {w : World} {g j : Nat} {C : Array Value} {T : TypeId} {fr : Nat × Nat} (h : w.heap[g]? = some (.cells C T fr)) (v : Value) : (w.setCell ⟨g, j, none⟩ v).heap[g]? = some (.cells (C.setIfInBounds j v) T fr) := by
  simp [World.setCell, Array.getElem?_modify, h]
theorem own_mono {w : World} {B B' : Nat} {e : TypeId} {size n : Nat} {v : Value} {xs : List Value} (h : w.ownsRow B e size v n xs) (hB : B' <= B) : w.ownsRow B' e size v n xs :=
  ⟨h.1, h.2.elim .inl fun ⟨g, cap, cur, e1, e2, r⟩ => .inr ⟨g, cap, cur, e1, by omega, r⟩⟩
theorem own_apart {w w' : World} {B : Nat} {e : TypeId} {n : Nat} {v v' : Value} {xs : List Value} (h : w.ownsRow B e 1 v n xs) (hne : ∀ k, v'.ownBlock = some k -> k < B) (hg : w.grownBy w' v'.ownBlock) : w'.ownsRow B e 1 v n xs :=
  ⟨h.1, h.2.elim .inl fun ⟨g, cap, cur, e1, e2, hh, r⟩ => .inr ⟨g, cap, cur, e1, e2, (hg.block g (Array.getElem?_eq_some_iff.1 hh).1 (fun e => by have := hne g e.symm; omega)).trans hh, r⟩⟩
theorem wpList_appg {P : Program} (w : World) {T e : TypeId} (el : El P T e (.int .u8 0) 1 1) {ops : Array Oper} {rest : List Oper} {o : Oper} {a : Act} {Q : Exit -> Act -> World -> Prop} (hgd : Region.wanted o (yielded ops a.tmps) = true) (s x : Operand)
    (ho : o.op = .call { callee := .builtin .append, args := #[s, x], argTypes := #[T, T] })
    (B : Nat) (v : Value) (n : Nat) (xs : List Value) (hs : a.eval s = v) (hown : w.ownsRow B e 1 v n xs)
    (ad : Addr) (m c : Nat) (l : List UInt8) (hx : a.eval x = .slice (some ad) m c) (hr : Rd w (some ad) m l) (hb : n + m <= 140737488355328) (hB : B <= w.heap.size)
    (h : ∀ v' w', w'.ownsRow B e 1 v' (n + m) (xs ++ cells l) -> w.grownBy w' v.ownBlock -> wpList P ops Q rest (a.put o.dst v') w') : wpList P ops Q (o :: rest) a w :=
  wpList_w hgd fun _ hK => by
    obtain ⟨i, hi, hz, h1, h2⟩ := info_parts el.info
    obtain ⟨v', w', hrun, ho', hg, _⟩ := run_append_own (P := P) w B T o.type e i (.int .u8 0) 1 1 el.und hi hz h1 h2 rfl (by decide) v n xs hown ad m c (cells l) (by simp [hr.1]) hr.cells_at (cells_one l)
      (by unfold maxLen; omega) (by omega) hB
    unfold Oper.wp execOp
    simp only [ho, resolve, invoke, builtin, Sem.run_bind, Sem.run_pure, Result.andThen_ok, List.map_toArray, List.map_cons, List.map_nil, hs, hx, hrun]
    exact hK _ _ (h v' w' ho' hg)
theorem run_appg {P : Program} (w : World) {T e : TypeId} (el : El P T e (.int .u8 0) 1 1) (ty : TypeId) (B : Nat) (v : Value) (n : Nat) (xs : List Value) (hown : w.ownsRow B e 1 v n xs)
    (A : Option Addr) (m c : Nat) (l : List UInt8) (hr : Rd w A m l) (hb : n + m <= 140737488355328) (hB : B <= w.heap.size) :
    ∃ v' w', (Builtin.append_ #[T, T] ty #[v, .slice A m c]).run P w = .ok v' w' /\ w'.ownsRow B e 1 v' (n + m) (xs ++ cells l) /\ Below B w w' /\ w.grownBy w' v.ownBlock := by
  obtain ⟨i, hi, hz, h1, h2⟩ := info_parts el.info
  rcases A with _ | ad
  · have hm : m = 0 := by
      rcases Nat.eq_zero_or_pos m with h0 | h0
      · exact h0
      · obtain ⟨_, _, h, _⟩ := hr.2 h0
        cases h
    subst hm
    have hn : l = [] := List.eq_nil_of_length_eq_zero hr.1
    subst hn
    exact ⟨v, w, run_app_nil w B T ty e i 1 el.und hi v n xs hown c, by simpa [cells_nil] using hown, Below.refl _ _, World.grownBy.refl _ _⟩
  · obtain ⟨v', w', hrun, ho, hg, _⟩ := run_append_own (P := P) w B T ty e i (.int .u8 0) 1 1 el.und hi hz h1 h2 rfl (by decide) v n xs hown ad m c (cells l) (by simp [hr.1]) hr.cells_at (cells_one l)
      (by unfold maxLen; omega) (by omega) hB
    exact ⟨v', w', hrun, ho, below_own hown hB hg, hg⟩
theorem step_app {P : Program} (w : World) {T e : TypeId} (el : El P T e (.int .u8 0) 1 1) {ops : Array Oper} {o : Oper} {a : Act} {K : Act -> World -> Prop} {Q : Exit -> Act -> World -> Prop} {E : Prop} (hgd : o.guard = none) (s x : Operand)
    (ho : o.op = .call { callee := .builtin .append, args := #[s, x], argTypes := #[T, T] })
    (B : Nat) (v : Value) (n : Nat) (xs : List Value) (hs : a.eval s = v) (hown : w.ownsRow B e 1 v n xs)
    (A : Option Addr) (m c : Nat) (l : List UInt8) (hx : a.eval x = .slice A m c) (hr : Rd w A m l) (hb : n + m <= 140737488355328) (hB : B <= w.heap.size)
    (h : ∀ v' w', w'.ownsRow B e 1 v' (n + m) (xs ++ cells l) -> Below B w w' -> w.grownBy w' v.ownBlock -> K (a.put o.dst v') w') :
    if Region.wanted o (yielded ops a.tmps) = true then Oper.wp P o a w K Q else E := by
  have hw : Region.wanted o (yielded ops a.tmps) = true := by simp [Region.wanted, hgd]
  rw [if_pos hw]
  obtain ⟨v', w', hrun, h2, h3, h4⟩ := run_appg w el o.type B v n xs hown A m c l hr hb hB
  unfold Oper.wp execOp
  simp only [ho, resolve, invoke, builtin, Sem.run_bind, Sem.run_pure, Result.andThen_ok, List.map_toArray, List.map_cons, List.map_nil, hs, hx, hrun]
  exact h v' w' h2 h3 h4
end Go.Proofs.Ythabmlbmlncbmaa
namespace Go.Proofs.Ythabmlbmlncbmaa
open Go.RowKit Go.Maps
structure Fr (own : Nat -> Prop) (w w' : World) : Prop where
  os : w'.os = w.os
  tape : w'.tape = w.tape
  output : w'.output = w.output
  size : w.heap.size <= w'.heap.size
  block : ∀ b, b < w.heap.size -> ¬ own b -> w'.heap[b]? = w.heap[b]?
section
variable {own own' : Nat -> Prop} {a b w w' : World}
theorem Fr.refl (own : Nat -> Prop) (w : World) : Fr own w w := ⟨rfl, rfl, rfl, Nat.le_refl _, fun _ _ _ => rfl⟩
theorem Fr.trans' (h : Fr own a w) (k : Fr own' w w') (ho : ∀ x, own' x -> own x \/ a.heap.size <= x) : Fr own a w' :=
  ⟨k.os.trans h.os, k.tape.trans h.tape, k.output.trans h.output, Nat.le_trans h.size k.size, fun i hi hn =>
    (k.block i (Nat.lt_of_lt_of_le hi h.size) (fun hx => by
      rcases ho i hx with h1 | h1
      · exact hn h1
      · omega)).trans (h.block i hi hn)⟩
theorem Fr.trans (h : Fr own a w) (k : Fr own w w') : Fr own a w' := h.trans' k (fun _ hx => .inl hx)
theorem Fr.ofBelow (own : Nat -> Prop) (h : Below w.heap.size w w') : Fr own w w' := ⟨h.os, h.tape, h.output, h.size, fun i hi _ => h.block i hi⟩
theorem Fr.toBelow {B : Nat} (h : Fr own w w') (ho : ∀ x, own x -> B <= x) (hB : B <= w.heap.size) : Below B w w' :=
  ⟨h.os, h.tape, h.output, h.size, fun i hi => h.block i (by omega) (fun hx => by have := ho i hx; omega)⟩
theorem Fr.grown {row : Option Nat} (hg : w.grownBy w' row) (ho : ∀ x, row = some x -> own x) : Fr own w w' :=
  ⟨hg.os, hg.tape, hg.output, hg.size, fun i hi hn => hg.block i hi (fun e => hn (ho i e.symm))⟩
theorem Fr.setCell (w : World) {p : Addr} (hp : own p.block) (u : Value) : Fr own w (w.setCell p u) :=
  ⟨rfl, rfl, rfl, by simp [World.setCell], fun i _ hn => Below.heap_setCell w p u i (fun e => hn (e ▸ hp))⟩
theorem Rd.fr {A : Option Addr} {n : Nat} {l : List UInt8} (h : Rd w A n l) (hf : Fr own w w') (hn : ∀ b o, A = some ⟨b, o, none⟩ -> 0 < n -> ¬ own b) : Rd w' A n l :=
  ⟨h.1, fun hp => by
    obtain ⟨b, o, e, hlt, hc⟩ := h.2 hp
    exact ⟨b, o, e, Nat.lt_of_lt_of_le hlt hf.size, fun j hj => (World.cell?_of_block (w := w) (a := ⟨b, o + j, none⟩) (hf.block b hlt (hn b o e hp))).trans (hc j hj)⟩⟩
end
section
variable {P : Program} {k e T : TypeId} {w w' : World} {m n : Nat} {f : Nat -> Value} {ks : Nat -> Bool}
end
section
variable {P : Program} {ops : Array Oper} {o : Oper} {a : Act} {w : World} {K : Act -> World -> Prop} {Q : Exit -> Act -> World -> Prop} {E : Prop}
end
end Go.Proofs.Ythabmlbmlncbmaa
namespace Go.Proofs.Ythabmlbmlncbmaa
open Go.RowKit
def WStays (keep : Nat -> Prop) (w w' : World) : Prop := w.heap.size <= w'.heap.size /\ ∀ x, keep x -> w'.heap[x]? = w.heap[x]?
def VRow (K : Nat -> Prop) (w : World) (A : Option Addr) (n sz : Nat) (vs : List Value) : Prop :=
  vs.length = n * sz /\ (A = none -> n = 0) /\ (0 < n -> ∃ b o, A = some ⟨b, o, none⟩ /\ K b /\ b < w.heap.size /\ ∀ j u, vs[j]? = some u -> w.cell? ⟨b, o + j, none⟩ = some u)
def VB (K : Nat -> Prop) (w : World) (u : Value) (l : List UInt8) : Prop :=
  ∃ A m c, u = .slice A m c /\ Rd w A m l /\ ∀ b o, A = some ⟨b, o, none⟩ -> 0 < m -> K b /\ b < w.heap.size
section
variable {K K' : Nat -> Prop} {w w' w'' : World} {A : Option Addr} {n sz : Nat} {vs : List Value} {u : Value} {l : List UInt8} {ls : List (List UInt8)}
theorem WStays.trans (h : WStays K w w') (k : WStays K w' w'') : WStays K w w'' := ⟨Nat.le_trans h.1 k.1, fun x hx => (k.2 x hx).trans (h.2 x hx)⟩
theorem Rd.wstays (h : Rd w A n l) (hs : WStays K w w') (hk : ∀ b o, A = some ⟨b, o, none⟩ -> 0 < n -> K b) : Rd w' A n l :=
  ⟨h.1, fun hn => by
    obtain ⟨b, o, e, hlt, hc⟩ := h.2 hn
    exact ⟨b, o, e, Nat.lt_of_lt_of_le hlt hs.1, fun j hj => (World.cell?_of_block (w := w) (a := ⟨b, o + j, none⟩) (hs.2 b (hk b o e hn))).trans (hc j hj)⟩⟩
theorem VRow.stays (h : VRow K w A n sz vs) (hs : WStays K w w') : VRow K w' A n sz vs :=
  ⟨h.1, h.2.1, fun hp => by obtain ⟨b, o, e, hk, hlt, hc⟩ := h.2.2 hp; exact ⟨b, o, e, hk, Nat.lt_of_lt_of_le hlt hs.1, fun j u hj => (World.cell?_of_block (a := ⟨b, o + j, none⟩) (hs.2 b hk)).trans (hc j u hj)⟩⟩
theorem VRow.mono (h : VRow K w A n sz vs) (hk : ∀ x, K x -> K' x) : VRow K' w A n sz vs :=
  ⟨h.1, h.2.1, fun hp => by obtain ⟨b, o, e, h1, r⟩ := h.2.2 hp; exact ⟨b, o, e, hk b h1, r⟩⟩
theorem VRow.lt (h : VRow K w A n sz vs) : VRow (fun x => K x /\ x < w.heap.size) w A n sz vs :=
  ⟨h.1, h.2.1, fun hp => by obtain ⟨b, o, e, h1, h2, r⟩ := h.2.2 hp; exact ⟨b, o, e, ⟨h1, h2⟩, h2, r⟩⟩
theorem VRow.below (h : VRow K w A n sz vs) (hb : Below w.heap.size w w') : VRow K w' A n sz vs := (h.lt.stays ⟨hb.size, fun x hx => hb.block x hx.2⟩).mono fun _ hx => hx.1
theorem VB.stays (h : VB K w u l) (hs : WStays K w w') : VB K w' u l := by
  obtain ⟨A, m, c, h1, h2, h3⟩ := h
  exact ⟨A, m, c, h1, h2.wstays hs (fun b o e hm => (h3 b o e hm).1), fun b o e hm => ⟨(h3 b o e hm).1, Nat.lt_of_lt_of_le (h3 b o e hm).2 hs.1⟩⟩
theorem VB.mono (h : VB K w u l) (hk : ∀ x, K x -> K' x) : VB K' w u l := by
  obtain ⟨A, m, c, h1, h2, h3⟩ := h
  exact ⟨A, m, c, h1, h2, fun b o e hm => ⟨hk b (h3 b o e hm).1, (h3 b o e hm).2⟩⟩
theorem VB.lt (h : VB K w u l) : VB (fun x => K x /\ x < w.heap.size) w u l := by
  obtain ⟨A, m, c, h1, h2, h3⟩ := h
  exact ⟨A, m, c, h1, h2, fun b o e hm => ⟨h3 b o e hm, (h3 b o e hm).2⟩⟩
theorem own_vrow {B e : Nat} {v : Value} (ho : w.ownsRow B e sz v n vs) : ∃ A c, v = .slice A n c /\ n <= c /\ c <= maxLen /\ VRow (fun x => B <= x /\ x < w.heap.size) w A n sz vs := by
  rcases ho.2 with ⟨rfl, rfl⟩ | ⟨g, cap, cur, rfl, hB, hh, hnc, hc, hs, ht⟩
  · exact ⟨none, 0, rfl, Nat.le_refl _, Nat.zero_le _, ho.1, fun _ => rfl, fun h => absurd h (Nat.lt_irrefl 0)⟩
  · have hlt := (Array.getElem?_eq_some_iff.1 hh).1
    refine ⟨_, cap, rfl, hnc, hc, ho.1, (fun e => by cases e), fun _ => ⟨g, 0, rfl, ⟨hB, hlt⟩, hlt, fun j u hj => ?_⟩⟩
    have := ho.cells (g := g) rfl j u hj
    rwa [Addr.add_lit] at this
end
section
variable {P : Program} {ops : Array Oper} {o : Oper} {a : Act} {w : World} {J : Act -> World -> Prop} {Q : Exit -> Act -> World -> Prop} {E : Prop} {K : Nat -> Prop}
theorem run_appW {T e : TypeId} {z : Value} {size bytes : Nat} (el : El P T e z size bytes) (ty : TypeId) (B : Nat) (v : Value) (n : Nat) (xs : List Value) (hown : w.ownsRow B e size v n xs)
    (A : Option Addr) (m c : Nat) (vs : List Value) (hA : VRow K w A m size vs) (h1 : ∀ u ∈ vs, u.oneCell' = true) (hb : n + m <= 1000000000) (hby : bytes <= 100) (hB : B <= w.heap.size) :
    ∃ v' w', (Builtin.append_ #[T, T] ty #[v, .slice A m c]).run P w = .ok v' w' /\ w'.ownsRow B e size v' (n + m) (xs ++ vs) /\ w.grownBy w' v.ownBlock /\ (v'.ownBlock = v.ownBlock \/ v'.ownBlock = some w.heap.size) := by
  obtain ⟨i, hi, hz, h2, h3⟩ := info_parts el.info
  have hbb : (n + m) * bytes <= 1000000000 * 100 := Nat.mul_le_mul hb hby
  rcases A with _ | ad
  · have hm := hA.2.1 rfl
    subst hm
    have hn : vs = [] := List.eq_nil_of_length_eq_zero (by rw [hA.1, Nat.zero_mul])
    subst hn
    exact ⟨v, w, run_app_nil w B T ty e i size el.und hi v n xs hown c, by simpa using hown, World.grownBy.refl _ _, .inl rfl⟩
  · have hcells : ∀ j u, vs[j]? = some u -> w.cell? (ad.add j) = some u := fun j u hj => by
      rcases Nat.eq_zero_or_pos m with h0 | h0
      · subst h0
        have hn : vs = [] := List.eq_nil_of_length_eq_zero (by rw [hA.1, Nat.zero_mul])
        subst hn
        cases hj
      · obtain ⟨b, o', e', _, _, hc⟩ := hA.2.2 h0
        injection e' with e'
        subst e'
        rw [Addr.add_lit]
        exact hc j u hj
    obtain ⟨v', w', hrun, r1, r2, _, r3⟩ := run_append_own_at (P := P) w B T ty e i z size bytes el.und hi hz h2 h3 el.zs el.pos v n xs hown ad m c vs hA.1 hcells h1 (by unfold maxLen; omega) (by omega) hB
    exact ⟨v', w', hrun, r1, r2, r3⟩
theorem step_appX {T e : TypeId} {z : Value} {size bytes : Nat} (el : El P T e z size bytes) (hgd : o.guard = none) (s x : Operand)
    (ho : o.op = .call { callee := .builtin .append, args := #[s, x], argTypes := #[T, T] })
    (B : Nat) (v : Value) (n : Nat) (xs : List Value) (hs : a.eval s = v) (hown : w.ownsRow B e size v n xs)
    (A : Option Addr) (m c : Nat) (vs : List Value) (hx : a.eval x = .slice A m c) (hA : VRow K w A m size vs) (h1 : ∀ u ∈ vs, u.oneCell' = true)
    (hb : n + m <= 1000000000) (hby : bytes <= 100) (hB : B <= w.heap.size)
    (h : ∀ v' w', w'.ownsRow B e size v' (n + m) (xs ++ vs) -> w.grownBy w' v.ownBlock -> (v'.ownBlock = v.ownBlock \/ v'.ownBlock = some w.heap.size) -> J (a.put o.dst v') w') :
    if Region.wanted o (yielded ops a.tmps) = true then Oper.wp P o a w J Q else E := by
  have hw : Region.wanted o (yielded ops a.tmps) = true := by simp [Region.wanted, hgd]
  rw [if_pos hw]
  obtain ⟨v', w', hrun, r1, r2, r3⟩ := run_appW (P := P) (K := K) el o.type B v n xs hown A m c vs hA h1 hb hby hB
  unfold Oper.wp execOp
  simp only [ho, resolve, invoke, builtin, Sem.run_bind, Sem.run_pure, Result.andThen_ok, List.map_toArray, List.map_cons, List.map_nil, hs, hx, hrun]
  exact h v' w' r1 r2 r3
theorem wpList_appX {T e : TypeId} {z : Value} {size bytes : Nat} (el : El P T e z size bytes) {rest : List Oper} (hgd : Region.wanted o (yielded ops a.tmps) = true) (s x : Operand)
    (ho : o.op = .call { callee := .builtin .append, args := #[s, x], argTypes := #[T, T] })
    (B : Nat) (v : Value) (n : Nat) (xs : List Value) (hs : a.eval s = v) (hown : w.ownsRow B e size v n xs)
    (A : Option Addr) (m c : Nat) (vs : List Value) (hx : a.eval x = .slice A m c) (hA : VRow K w A m size vs) (h1 : ∀ u ∈ vs, u.oneCell' = true)
    (hb : n + m <= 1000000000) (hby : bytes <= 100) (hB : B <= w.heap.size)
    (h : ∀ v' w', w'.ownsRow B e size v' (n + m) (xs ++ vs) -> w.grownBy w' v.ownBlock -> (v'.ownBlock = v.ownBlock \/ v'.ownBlock = some w.heap.size) -> wpList P ops Q rest (a.put o.dst v') w') : wpList P ops Q (o :: rest) a w :=
  wpList_w hgd fun _ hK => by
    obtain ⟨v', w', hrun, r1, r2, r3⟩ := run_appW (P := P) (K := K) el o.type B v n xs hown A m c vs hA h1 hb hby hB
    unfold Oper.wp execOp
    simp only [ho, resolve, invoke, builtin, Sem.run_bind, Sem.run_pure, Result.andThen_ok, List.map_toArray, List.map_cons, List.map_nil, hs, hx, hrun]
    exact hK _ _ (h v' w' r1 r2 r3)
end
end Go.Proofs.Ythabmlbmlncbmaa
namespace Go.Proofs.Ythabmlbmlncbmaa
open Go.RowKit
section
variable {α : Type} {z : Nat} {L : List (List α)}
theorem flatg_len (h : ∀ r ∈ L, r.length = z) : L.flatten.length = L.length * z := by
  induction L with
  | nil => simp
  | cons a L ih =>
    rw [List.flatten_cons, List.length_append, h a List.mem_cons_self, ih (fun r hr => h r (List.mem_cons_of_mem _ hr)), List.length_cons, Nat.succ_mul]
    omega
theorem flatg_take (h : ∀ r ∈ L, r.length = z) (k : Nat) : L.flatten.take (k * z) = (L.take k).flatten := by
  induction L generalizing k with
  | nil => simp
  | cons a L ih =>
    cases k with
    | zero => simp
    | succ k =>
      have ha := h a List.mem_cons_self
      rw [List.flatten_cons, List.take_succ_cons, List.flatten_cons, List.take_append, List.take_of_length_le (by rw [ha, Nat.succ_mul]; omega), ha, show (k + 1) * z - z = k * z by rw [Nat.succ_mul]; omega, ih (fun r hr => h r (List.mem_cons_of_mem _ hr))]
theorem flatg_drop (h : ∀ r ∈ L, r.length = z) (k : Nat) : L.flatten.drop (k * z) = (L.drop k).flatten := by
  induction L generalizing k with
  | nil => simp
  | cons a L ih =>
    cases k with
    | zero => simp
    | succ k =>
      have ha := h a List.mem_cons_self
      rw [List.flatten_cons, List.drop_succ_cons, List.drop_append, List.drop_eq_nil_of_le (by rw [ha, Nat.succ_mul]; omega), ha, show (k + 1) * z - z = k * z by rw [Nat.succ_mul]; omega, ih (fun r hr => h r (List.mem_cons_of_mem _ hr)), List.nil_append]
theorem flatg_get (h : ∀ r ∈ L, r.length = z) {k i : Nat} {r : List α} (hk : L[k]? = some r) (hi : i < z) : L.flatten[k * z + i]? = r[i]? := by
  have hlt := (List.getElem?_eq_some_iff.1 hk).1
  have he := (List.getElem?_eq_some_iff.1 hk).2
  have hr : r.length = z := he ▸ h _ (List.getElem_mem hlt)
  rw [<- List.getElem?_drop, flatg_drop h, List.drop_eq_getElem_cons hlt, he, List.flatten_cons, List.getElem?_append_left (by omega)]
end
def HdL {α : Type} (sz : Nat) (E : α -> List Value -> Prop) (vs : List Value) (xs : List α) : Prop :=
  ∃ ch : List (List Value), vs = ch.flatten /\ ch.length = xs.length /\ (∀ r ∈ ch, r.length = sz) /\ ∀ (j : Nat) (x : α), xs[j]? = some x -> ∃ r, ch[j]? = some r /\ E x r
section
variable {α : Type} {sz : Nat} {E E' : α -> List Value -> Prop} {vs : List Value} {xs : List α}
theorem HdL.imp (h : HdL sz E vs xs) (hi : ∀ x r, E x r -> E' x r) : HdL sz E' vs xs := by
  obtain ⟨ch, h1, h2, h3, h4⟩ := h
  exact ⟨ch, h1, h2, h3, fun j x hx => by obtain ⟨r, hr, he⟩ := h4 j x hx; exact ⟨r, hr, hi _ _ he⟩⟩
theorem HdL.nil (sz : Nat) (E : α -> List Value -> Prop) : HdL sz E [] [] := ⟨[], rfl, rfl, fun _ h => absurd h List.not_mem_nil, fun j x h => by simp at h⟩
theorem HdL.at_ (h : HdL sz E vs xs) {j : Nat} {x : α} (hj : xs[j]? = some x) : ∃ r, r.length = sz /\ E x r /\ ∀ i, i < sz -> vs[j * sz + i]? = r[i]? := by
  obtain ⟨ch, rfl, h2, h3, h4⟩ := h
  obtain ⟨r, hr, he⟩ := h4 j x hj
  refine ⟨r, ?_, he, fun i hi => flatg_get h3 hr hi⟩
  obtain ⟨hlt, e⟩ := List.getElem?_eq_some_iff.1 hr
  exact e ▸ h3 _ (List.getElem_mem hlt)
theorem HdL.snoc (h : HdL sz E vs xs) {x : α} {r : List Value} (hr : r.length = sz) (he : E x r) : HdL sz E (vs ++ r) (xs ++ [x]) := by
  obtain ⟨ch, rfl, h2, h3, h4⟩ := h
  refine ⟨ch ++ [r], by simp, by simp [h2], fun q hq => ?_, fun j y hy => ?_⟩
  · rcases List.mem_append.1 hq with h | h
    · exact h3 q h
    · rw [List.mem_singleton.1 h]; exact hr
  · by_cases hj : j < xs.length
    · rw [List.getElem?_append_left hj] at hy
      obtain ⟨q, hq, hE⟩ := h4 j y hy
      exact ⟨q, by rw [List.getElem?_append_left (by omega)]; exact hq, hE⟩
    · have e : j = xs.length := by
        have := (List.getElem?_eq_some_iff.1 hy).1
        simp at this
        omega
      subst e
      simp at hy
      subst hy
      exact ⟨r, by rw [<- h2]; simp, he⟩
end
def RowsL {α : Type} (sz : Nat) (E : α -> List Value -> Prop) (K : Nat -> Prop) (w : World) (A : Option Addr) (n : Nat) (xs : List α) : Prop := ∃ vs, xs.length = n /\ VRow K w A n sz vs /\ HdL sz E vs xs
theorem RowsL.cells {α : Type} {sz : Nat} {E : α -> List Value -> Prop} {K : Nat -> Prop} {w : World} {A : Option Addr} {n : Nat} {xs : List α} (h : RowsL sz E K w A n xs) {j : Nat} {x : α} (hj : xs[j]? = some x) :
    ∃ b o r, A = some ⟨b, o, none⟩ /\ K b /\ b < w.heap.size /\ r.length = sz /\ E x r /\ ∀ i u, i < sz -> r[i]? = some u -> w.cell? ⟨b, o + (j * sz + i), none⟩ = some u := by
  obtain ⟨vs, h1, h2, h3⟩ := h
  have hjl := (List.getElem?_eq_some_iff.1 hj).1
  obtain ⟨r, hr, he, hc⟩ := h3.at_ hj
  obtain ⟨b, o, e, hk, hlt, hcell⟩ := h2.2.2 (by omega)
  exact ⟨b, o, r, e, hk, hlt, hr, he, fun i u hi hu => hcell _ u (by rw [hc i hi]; exact hu)⟩
def EP (K : Nat -> Prop) (w : World) (x : Int × List UInt8) (r : List Value) : Prop := ∃ u, r = [.int .i64 x.1, u] /\ VB K w u x.2
def PartsV (K : Nat -> Prop) (w : World) (A : Option Addr) (n : Nat) (ps : List (Int × List UInt8)) : Prop := RowsL 2 (EP K w) K w A n ps
def EE (K : Nat -> Prop) (w : World) (x : (Int × Int) × List (Int × List UInt8)) (r : List Value) : Prop := ∃ A n c, r = [.int .i64 x.1.1, .int .i64 x.1.2, .slice A n c] /\ PartsV K w A n x.2
section
variable {K K' : Nat -> Prop} {w w' : World} {A : Option Addr} {n : Nat}
end
theorem VRow.new (w : World) (C : Array Value) (e n sz : Nat) (h : C.size = n * sz) : VRow (fun x => w.heap.size <= x) (w.alloc (.cells C e)) (some ⟨w.heap.size, 0, none⟩) n sz C.toList :=
  ⟨by simpa using h, (fun e => by cases e), fun _ => ⟨w.heap.size, 0, rfl, Nat.le_refl _, by simp, fun j u hj => by
    rw [Nat.zero_add, cell_of_row _ _ j _ _ _ (heap_alloc_last w _)]
    simpa using hj⟩⟩
theorem own_rowsL {α : Type} {sz : Nat} {E : α -> List Value -> Prop} {w : World} {B e n : Nat} {v : Value} {vs : List Value} {xs : List α} (ho : w.ownsRow B e sz v n vs) (h : HdL sz E vs xs) (hn : xs.length = n) :
    ∃ A c, v = .slice A n c /\ n <= c /\ c <= maxLen /\ RowsL sz E (fun x => B <= x /\ x < w.heap.size) w A n xs := by
  obtain ⟨A, c, e1, h1, h2, h3⟩ := own_vrow ho
  exact ⟨A, c, e1, h1, h2, vs, hn, h3, h⟩
end Go.Proofs.Ythabmlbmlncbmaa
namespace Go.Proofs.Ythabmlbmlncbmaa
open Go.RowKit
structure EOk {α : Type} (E : (Nat -> Prop) -> World -> α -> List Value -> Prop) : Prop where
  stays : ∀ {K : Nat -> Prop} {w w' : World} {x : α} {r : List Value}, E K w x r -> WStays K w w' -> E K w' x r
  mono : ∀ {K K' : Nat -> Prop} {w : World} {x : α} {r : List Value}, E K w x r -> (∀ y, K y -> K' y) -> E K' w x r
  lt : ∀ {K : Nat -> Prop} {w : World} {x : α} {r : List Value}, E K w x r -> E (fun y => K y /\ y < w.heap.size) w x r
theorem EOk.below {α : Type} {E : (Nat -> Prop) -> World -> α -> List Value -> Prop} (ok : EOk E) {K : Nat -> Prop} {w w' : World} {x : α} {r : List Value} (h : E K w x r) (hb : Below w.heap.size w w') : E K w' x r :=
  ok.mono (ok.stays (ok.lt h) ⟨hb.size, fun y hy => hb.block y hy.2⟩) (fun _ hy => hy.1)
structure Gr {α : Type} (E : (Nat -> Prop) -> World -> α -> List Value -> Prop) (e : TypeId) (sz : Nat) (w : World) (B : Nat) (v : Value) (vs : List Value) (D : Nat -> Prop) (xs : List α) : Prop where
  Bw : B <= w.heap.size
  ow : w.ownsRow B e sz v xs.length vs
  hd : HdL sz (E D w) vs xs
  dx : ∀ x, D x -> x < w.heap.size /\ v.ownBlock ≠ some x
section
variable {α : Type} {E : (Nat -> Prop) -> World -> α -> List Value -> Prop} {e : TypeId} {sz : Nat} {w w' : World} {B : Nat} {v : Value} {vs : List Value} {D K : Nat -> Prop} {xs : List α}
theorem own_geB {e size n : Nat} {xs : List Value} (h : w.ownsRow B e size v n xs) {x : Nat} (hx : v.ownBlock = some x) : B <= x /\ x < w.heap.size := by
  rcases h.2 with ⟨rfl, _⟩ | ⟨g, cap, cur, rfl, hB, hh, _⟩
  · cases hx
  · injection hx with hx
    have hx' : g = x := hx
    rw [<- hx']
    exact ⟨hB, (Array.getElem?_eq_some_iff.1 hh).1⟩
theorem Gr.start (h : w.ownsRow B e sz v 0 []) (hB : B <= w.heap.size) : Gr E e sz w B v [] (fun _ => False) ([] : List α) := ⟨hB, h, HdL.nil _ _, fun _ hx => hx.elim⟩
theorem Gr.below (ok : EOk E) (h : Gr E e sz w B v vs D xs) (hb : Below w.heap.size w w') : Gr E e sz w' B v vs D xs :=
  ⟨Nat.le_trans h.Bw hb.size, own_keep h.ow hb, h.hd.imp fun _ _ hx => ok.below hx hb, fun x hx => ⟨Nat.lt_of_lt_of_le (h.dx x hx).1 hb.size, (h.dx x hx).2⟩⟩
theorem Gr.put (ok : EOk E) (h : Gr E e sz w B v vs D xs) {v' : Value} {x : α} {r : List Value} (hr : r.length = sz) (hE : E K w x r) (hK : ∀ y, K y -> v.ownBlock ≠ some y)
    (ho : w'.ownsRow B e sz v' (xs.length + 1) (vs ++ r)) (hg : w.grownBy w' v.ownBlock) (hv : v'.ownBlock = v.ownBlock \/ v'.ownBlock = some w.heap.size) :
    Gr E e sz w' B v' (vs ++ r) (fun y => D y \/ (K y /\ y < w.heap.size)) (xs ++ [x]) := by
  have hF : Fr (fun y => v.ownBlock = some y) w w' := Fr.grown hg (fun y hy => hy)
  have hs := hF.size
  have hall : ∀ y, (D y \/ (K y /\ y < w.heap.size)) -> y < w.heap.size /\ v.ownBlock ≠ some y := fun y hy => by
    rcases hy with h1 | h1
    · exact h.dx y h1
    · exact ⟨h1.2, hK y h1.1⟩
  have st : WStays (fun y => D y \/ (K y /\ y < w.heap.size)) w w' := ⟨hs, fun y hy => hF.block y (hall y hy).1 (hall y hy).2⟩
  refine ⟨Nat.le_trans h.Bw hs, by rw [List.length_append, List.length_singleton]; exact ho, ?_, fun y hy => ?_⟩
  · exact (h.hd.imp fun _ _ hx => ok.stays (ok.mono hx (fun _ hy => .inl hy)) st).snoc hr (ok.stays (ok.mono (ok.lt hE) (fun _ hy => .inr hy)) st)
  · obtain ⟨h1, h2⟩ := hall y hy
    refine ⟨by omega, fun e => ?_⟩
    rcases hv with hv | hv
    · exact h2 (hv ▸ e)
    · rw [hv] at e
      injection e with e
      omega
theorem Gr.rows (ok : EOk E) (h : Gr E e sz w B v vs D xs) : ∃ A c, v = .slice A xs.length c /\ xs.length <= c /\ c <= maxLen /\ RowsL sz (E (fun x => D x \/ (B <= x /\ x < w.heap.size)) w) (fun x => D x \/ (B <= x /\ x < w.heap.size)) w A xs.length xs := by
  obtain ⟨A, c, e1, h1, h2, h3⟩ := own_vrow h.ow
  exact ⟨A, c, e1, h1, h2, vs, rfl, h3.mono (fun x hx => .inr hx), h.hd.imp fun _ _ hx => ok.mono hx (fun _ hy => .inl hy)⟩
end
def Two (a b c : Nat) (x : Nat) : Prop := (a <= x /\ x < b) \/ c <= x
end Go.Proofs.Ythabmlbmlncbmaa
namespace Go.Proofs.Ythabmlbmlncbmaa
open Go.RowKit
set_option linter.unusedVariables false
set_option maxRecDepth 20000
def EPc (K : Nat -> Prop) (w : World) (x : List UInt8) (r : List Value) : Prop := ∃ A n c, r = [.slice A n c] /\ VB K w (.slice A n c) x /\ n <= c
theorem EPc.ok : EOk EPc where
  stays := fun ⟨A, n, c, e, hu, hc⟩ hs => ⟨A, n, c, e, hu.stays hs, hc⟩
  mono := fun ⟨A, n, c, e, hu, hc⟩ hk => ⟨A, n, c, e, hu.mono hk, hc⟩
  lt := fun ⟨A, n, c, e, hu, hc⟩ => ⟨A, n, c, e, hu.lt, hc⟩
abbrev PcsV (K : Nat -> Prop) (w : World) (A : Option Addr) (n : Nat) (xs : List (List UInt8)) : Prop := RowsL 1 (EPc K w) K w A n xs
section
variable {K K' : Nat -> Prop} {w w' : World} {A : Option Addr} {n : Nat} {xs : List (List UInt8)}
theorem PcsV.stays (h : PcsV K w A n xs) (hs : WStays K w w') : PcsV K w' A n xs := by
  obtain ⟨vs, h1, h2, h3⟩ := h
  exact ⟨vs, h1, h2.stays hs, h3.imp fun x r hx => EPc.ok.stays hx hs⟩
theorem PcsV.mono (h : PcsV K w A n xs) (hk : ∀ x, K x -> K' x) : PcsV K' w A n xs := by
  obtain ⟨vs, h1, h2, h3⟩ := h
  exact ⟨vs, h1, h2.mono hk, h3.imp fun x r hx => EPc.ok.mono hx hk⟩
theorem PcsV.lt (h : PcsV K w A n xs) : PcsV (fun x => K x /\ x < w.heap.size) w A n xs := by
  obtain ⟨vs, h1, h2, h3⟩ := h
  exact ⟨vs, h1, h2.lt, h3.imp fun x r hx => EPc.ok.lt hx⟩
theorem PcsV.below (h : PcsV K w A n xs) (hb : Below w.heap.size w w') : PcsV K w' A n xs := (h.lt.stays ⟨hb.size, fun x hx => hb.block x hx.2⟩).mono fun _ hx => hx.1
theorem PcsV.len (h : PcsV K w A n xs) : xs.length = n := by obtain ⟨_, h1, _⟩ := h; exact h1
theorem PcsV.nil (K : Nat -> Prop) (w : World) (A : Option Addr) : PcsV K w A 0 [] := ⟨[], rfl, ⟨rfl, fun _ => rfl, fun h => absurd h (Nat.lt_irrefl 0)⟩, HdL.nil _ _⟩
theorem PcsV.cell (h : PcsV K w A n xs) {j : Nat} {x : List UInt8} (hj : xs[j]? = some x) :
    ∃ b o A' m c, A = some ⟨b, o, none⟩ /\ b < w.heap.size /\ w.cell? ⟨b, o + j, none⟩ = some (.slice A' m c) /\ Rd w A' m x /\ m <= c /\ VB K w (.slice A' m c) x := by
  obtain ⟨b, o, r, e, hk, hlt, _, ⟨A', m, c, hr, hv, hmc⟩, hc⟩ := RowsL.cells h hj
  subst hr
  have h0 := hc 0 _ (by decide) rfl
  rw [Nat.mul_one, Nat.add_zero] at h0
  have hv' := hv
  obtain ⟨A2, m2, c2, e2, hr2, _⟩ := hv
  injection e2 with e3 e4 e5
  subst e3 e4 e5
  exact ⟨b, o, A', m, c, e, hlt, h0, hr2, hmc, hv'⟩
end
theorem HdL.of1 {α : Type} {E : α -> List Value -> Prop} {vs : List Value} {xs : List α} (hl : vs.length = xs.length) (h : ∀ (j : Nat) (x : α), xs[j]? = some x -> ∃ v, vs[j]? = some v /\ E x [v]) : HdL 1 E vs xs := by
  refine ⟨vs.map fun v => [v], ?_, by simp [hl], fun r hr => ?_, fun j x hx => ?_⟩
  · clear hl h
    induction vs with
    | nil => rfl
    | cons a r ih => rw [List.map_cons, List.flatten_cons, <- ih]; rfl
  · obtain ⟨v, _, rfl⟩ := List.mem_map.1 hr
    rfl
  · obtain ⟨v, hv, he⟩ := h j x hx
    exact ⟨[v], by rw [List.getElem?_map, hv]; rfl, he⟩
theorem rowsT : El Try.prog 25 35 (.slice none 0 0) 1 24 := ⟨Try.underlying25, by kernel_rfl, rfl, by decide⟩
theorem pwithin_any (n lo hi : Int) (w : World) :
    Calls Try.prog 72 #[.int .i64 n, .int .i64 lo, .int .i64 hi] w fun e w' => e = .returned (.bool (decide (lo <= n /\ n <= hi))) /\ w = w' := by
  by_cases h1 : lo <= n
  · by_cases h2 : n <= hi
    all_goals
      go_enter Try.func72, Try.ntmps72
      go_wp2
      go_ret
      exact ⟨ret_bool (by simp <;> omega), rfl⟩
  · go_enter Try.func72, Try.ntmps72
    go_wp2
    go_ret
    exact ⟨ret_bool (by simp <;> omega), rfl⟩
theorem phead_any (i n : Nat) (s : Int) (w : World) :
    Calls Try.prog 88 #[.int .i64 (i : Nat), .int .i64 (n : Nat), .int .i64 s] w fun e w' => ∃ A c, e = .returned (.slice A 12 c) /\ Rd w' A 12 (pcHead i n s) /\ Below w.heap.size w w' := by
  have C1 := hi_ (Put_any none 0 0 [] 2 (i : Nat) w (Rd.nil w none) (by decide))
  go_enter Try.func88, Try.ntmps88
  go_wp2_with (first
    | (go_at_call 90; have _t := C1; refine C1.out.mono ?_; rintro e w1 ⟨v1, rfl, ho1, hb1⟩
       obtain ⟨A1, c1, rfl, _, _, hr1⟩ := Rd.of_own ho1 rfl
       have C2 := hi_ (Put_any A1 2 c1 _ 2 (n : Nat) w1 hr1 (by decide))
       have B1 := hi_ hb1
       clear ho1 hr1 hb1 C1)
    | (go_at_call 90; have _t := C2; refine C2.out.mono ?_; rintro e w2 ⟨v2, rfl, ho2, hb2⟩
       obtain ⟨A2, c2, rfl, _, _, hr2⟩ := Rd.of_own ho2 rfl
       have C3 := hi_ (Put_any A2 4 c2 _ 8 s w2 hr2 (by decide))
       have B2 := hi_ (B1.out.trans (hb2.mono B1.out.size))
       clear ho2 hr2 hb2 C2)
    | (go_at_call 90; have _t := C3; refine C3.out.mono ?_; rintro e w3 ⟨v3, rfl, ho3, hb3⟩
       obtain ⟨A3, c3, rfl, _, _, hr3⟩ := Rd.of_own ho3 rfl
       have B3 := hi_ (B2.out.trans (hb3.mono B2.out.size))
       have R3 := hi_ hr3
       clear ho3 hr3 hb3 C3))
  go_ret
  exact ⟨A3, c3, rfl, R3.out, B3.out⟩
theorem pown_any (A : Option Addr) (n c : Nat) (b : List UInt8) (i : Nat) (w : World) (hr : Rd w A n b) (hc : n <= c) (hn : n <= 1000000) (hi : i * 460 <= n) :
    Calls Try.prog 89 #[.slice A n c, .int .i64 (i : Nat)] w fun e w' => ∃ A' c', e = .returned (.slice A' (min 460 (n - i * 460)) c') /\ Rd w' A' (min 460 (n - i * 460)) (pcOwn b i) /\ w = w' := by
  have hp : ∀ m, m = min 460 (n - i * 460) -> Rd w (A.map fun x => x.add (i * 460)) m (pcOwn b i) := by
    rintro m rfl
    have := hr.part (lo := i * 460) (m := min 460 (n - i * 460)) (by omega) (A.map fun x => x.add (i * 460)) (fun _ b o e => by rw [e]; simp [Addr.add_lit])
    have hl := hr.1
    have e : (b.drop (i * 460)).take (min 460 (n - i * 460)) = pcOwn b i := by
      unfold pcOwn
      rw [List.take_eq_take_iff, List.length_drop]
      omega
    rwa [e] at this
  have HP := hi_ hp
  clear hp hr
  by_cases h : i * 460 + 460 <= n
  · go_enter Try.func89, Try.ntmps89
    go_wp2
    go_ret
    have e : i * 460 + 460 - i * 460 = min 460 (n - i * 460) := by omega
    exact ⟨A.map fun x => x.add (i * 460), c - i * 460, by rw [<- e]; rfl, HP.out _ rfl, rfl⟩
  · go_enter Try.func89, Try.ntmps89
    go_wp2
    all_goals go_ret
    all_goals have e : n - i * 460 = min 460 (n - i * 460) := by omega
    · exact ⟨A, ⟨0, by rw [<- e]; rfl⟩, ⟨(HP.out _ rfl).1, fun h0 => by omega⟩, rfl⟩
    · exact ⟨A.map fun x => x.add (i * 460), ⟨c - i * 460, by rw [<- e]; rfl⟩, HP.out _ rfl, rfl⟩
theorem results_tmp4 {fn : Func} {t u v x : Tmp} (h : fn.results = #[.tmp t, .tmp u, .tmp v, .tmp x]) (tmps : Array Value) (P : Program) (w : World) :
    (results fn tmps).run P w = .ok (.tuple #[tmps.getD t undef, tmps.getD u undef, tmps.getD v undef, tmps.getD x undef]) w := by
  simp [results, h]
def hdT (l : List UInt8) : Value := if HdOk l then .tuple #[.int .i64 (plc l), .int .i64 (cnt l), .int .i64 (sqn l), .bool true] else .tuple #[.int .i64 0, .int .i64 0, .int .i64 0, .bool false]
section
variable (A : Option Addr) (n c : Nat) (l : List UInt8) (w : World)
theorem wd_2 : wd 2 = 2 := rfl
theorem wd_8 : wd 8 = 8 := rfl
theorem pget0 (hr : Rd w A n l) (hc : n <= c) (hn : n <= 1000000) (h : 12 <= n) :
    Calls Try.prog 73 #[.slice A n c, .int .i64 0, .int .i64 2] w fun e w' => e = .returned (.tuple #[.int .i64 (plc l), .bool true]) /\ w = w' := by
  have := Get_yes A n c l 0 2 w hr hc (by omega) (by rw [wd_2]; omega)
  rw [wd_2] at this
  exact this
theorem pget2 (hr : Rd w A n l) (hc : n <= c) (hn : n <= 1000000) (h : 12 <= n) :
    Calls Try.prog 73 #[.slice A n c, .int .i64 2, .int .i64 2] w fun e w' => e = .returned (.tuple #[.int .i64 (cnt l), .bool true]) /\ w = w' := by
  have := Get_yes A n c l 2 2 w hr hc (by omega) (by rw [wd_2]; omega)
  rw [wd_2] at this
  exact this
theorem pget4 (hr : Rd w A n l) (hc : n <= c) (hn : n <= 1000000) (h : 12 <= n) :
    Calls Try.prog 73 #[.slice A n c, .int .i64 4, .int .i64 8] w fun e w' => e = .returned (.tuple #[.int .i64 (sqn l), .bool true]) /\ w = w' := by
  have := Get_yes A n c l 4 8 w hr hc (by omega) (by rw [wd_8]; omega)
  rw [wd_8] at this
  exact this
theorem rget0 (hr : Rd w A n l) (hn : n <= 1000000) (h : 12 <= n) :
    Calls Try.prog 58 #[.slice A n c, .int .i64 0, .int .i64 2] w fun e w' => e = .returned (.tuple #[.int .i64 (plc l), .bool true]) /\ w = w' := by
  have := RGet_yes A n c l 0 2 w hr (by omega) (by rw [wd_2]; omega)
  rw [wd_2] at this
  exact this
theorem rget2 (hr : Rd w A n l) (hn : n <= 1000000) (h : 12 <= n) :
    Calls Try.prog 58 #[.slice A n c, .int .i64 2, .int .i64 2] w fun e w' => e = .returned (.tuple #[.int .i64 (cnt l), .bool true]) /\ w = w' := by
  have := RGet_yes A n c l 2 2 w hr (by omega) (by rw [wd_2]; omega)
  rw [wd_2] at this
  exact this
theorem rget4 (hr : Rd w A n l) (hn : n <= 1000000) (h : 12 <= n) :
    Calls Try.prog 58 #[.slice A n c, .int .i64 4, .int .i64 8] w fun e w' => e = .returned (.tuple #[.int .i64 (sqn l), .bool true]) /\ w = w' := by
  have := RGet_yes A n c l 4 8 w hr (by omega) (by rw [wd_8]; omega)
  rw [wd_8] at this
  exact this
end
end Go.Proofs.Ythabmlbmlncbmaa
namespace Go.Proofs.Ythabmlbmlncbmaa
open Go.RowKit
set_option linter.unusedVariables false
set_option maxRecDepth 20000
def topA (xs : List (List UInt8)) : Int := xs.foldl (fun t x => max t (topL x)) 0
theorem topA_snoc (xs : List (List UInt8)) (x : List UInt8) : topA (xs ++ [x]) = max (topA xs) (topL x) := by simp [topA]
theorem topA_take {xs : List (List UInt8)} {j : Nat} {x : List UInt8} (h : xs[j]? = some x) : topA (xs.take (j + 1)) = max (topA (xs.take j)) (topL x) := by rw [List.take_add_one, h, Option.toList_some, topA_snoc]
def MuchS (xs : List (List UInt8)) : Prop := (∃ i x, i < 50 /\ xs[i]? = some x /\ 600 < x.length) \/ 20 < xs.length
def MuchQ (xs : List (List UInt8)) (w : World) (e : Ending) (w' : World) : Prop := ∃ q : Bool, e = .returned (.bool q) /\ (q = true ↔ MuchS xs) /\ w = w'
section
variable {K : Nat -> Prop} (A : Option Addr) (n c : Nat) (xs : List (List UInt8)) (w : World)
theorem RTopA_any (h : PcsV K w A n xs) (hn : n <= 9223372036854775807) (hs : ∀ x ∈ xs, x.length <= 1000000) :
    Calls Try.prog 13 #[.slice A n c] w fun e w' => e = .returned (.int .i64 (topA xs)) /\ w = w' := by
  have H := hi_ h
  have HL := hi_ h.len
  have HS := hi_ hs
  clear h hs
  go_enter Try.func13, Try.ntmps13
  go_wp2
  go_loop [3, 4] (fun tv iv => ∃ j : Nat, j <= n /\ iv = .int .i64 j /\ tv = .int .i64 (topA (xs.take j))) (fun _ iv => n - (intOf iv).toNat)
  case atStart => exact ⟨0, Nat.zero_le _, rfl, rfl⟩
  case round =>
    obtain ⟨j, hj, rfl, rfl⟩ := hrel
    by_cases hjn : j < n
    · obtain ⟨x, hx⟩ : ∃ x, xs[j]? = some x := ⟨_, List.getElem?_eq_getElem (by rw [HL.out]; exact hjn)⟩
      obtain ⟨b, o, PA, m, cc, rfl, hlt, hc, hr, hmc, _⟩ := H.out.cell hx
      have CT := hi_ (RTop_any PA m cc x w hr (by have := hr.1; have := HS.out x (List.mem_of_getElem? hx); omega))
      have HX := hi_ (topA_take hx)
      clear hx hr hmc hlt
      obtain ⟨t, ht⟩ : ∃ t, t = topA (xs.take j) := ⟨_, rfl⟩
      obtain ⟨u, hu⟩ : ∃ u, u = topL x := ⟨_, rfl⟩
      rw [<- ht, <- hu] at HX
      rw [<- hu] at CT
      rw [<- ht]
      clear ht hu
      by_cases hut : t < u
      · go_wp2_with (go_at_call 32; refine CT.out.mono ?_; rintro e w2 ⟨rfl, rfl⟩)
        go_round
        case rel => exact ⟨j + 1, hjn, by go_num, by rw [HX.out, Int.max_eq_right (by omega)]⟩
        case measure => simp [intOf]; omega
      · go_wp2_with (go_at_call 32; refine CT.out.mono ?_; rintro e w2 ⟨rfl, rfl⟩)
        go_round
        case rel => exact ⟨j + 1, hjn, by go_num, by rw [HX.out, Int.max_eq_left (by omega)]⟩
        case measure => simp [intOf]; omega
    · obtain rfl : j = n := by omega
      go_wp2
      go_ret
      exact ⟨by rw [List.take_of_length_le (Nat.le_of_eq HL.out)]; rfl, rfl⟩
theorem RMuchS_any (h : PcsV K w A n xs) (hn : n <= 9223372036854775807) (hx : ∀ x ∈ xs, x.length <= 9223372036854775807) :
    Calls Try.prog 7 #[.slice A n c] w (MuchQ xs w) := by
  have H := hi_ h
  have HL := hi_ h.len
  have HS := hi_ hx
  clear h hx
  go_enter Try.func7, Try.ntmps7
  go_wp2
  go_loop [3] (fun iv => ∃ j : Nat, j <= n /\ j <= 50 /\ iv = .int .i64 j /\ Hid (∀ i x, i < j -> xs[i]? = some x -> x.length <= 600)) (fun iv => n - (intOf iv).toNat)
  case atStart => exact ⟨0, Nat.zero_le _, Nat.zero_le _, rfl, hi_ (fun i x hi => absurd hi (Nat.not_lt_zero _))⟩
  case round =>
    obtain ⟨j, hj, hj50, rfl, HI⟩ := hrel
    by_cases hjn : j < n /\ j < 50
    · obtain ⟨hjn, hjm⟩ := hjn
      obtain ⟨x, hx⟩ : ∃ x, xs[j]? = some x := ⟨_, List.getElem?_eq_getElem (by rw [HL.out]; exact hjn)⟩
      obtain ⟨b, o, PA, m, cc, rfl, hlt, hc, hr, hmc, _⟩ := H.out.cell hx
      have hm := hr.1
      have hxl := HS.out x (List.mem_of_getElem? hx)
      have HX := hi_ (And.intro hx hm)
      have hml : m <= 9223372036854775807 := by omega
      have e1 : decide ((j : Int) < (n : Int)) = true := decide_eq_true (by omega)
      have e1' : decide (j < n) = true := decide_eq_true hjn
      have e2 : decide ((j : Int) < 50) = true := decide_eq_true (by omega)
      clear hx hr hlt hmc hm hxl
      by_cases hmb : 600 < m
      · go_wp2
        go_ret
        exact ⟨true, rfl, ⟨fun _ => .inl ⟨j, x, hjm, HX.out.1, by rw [HX.out.2]; exact hmb⟩, fun _ => rfl⟩, rfl⟩
      · go_wp2
        go_round
        case rel =>
          refine ⟨j + 1, hjn, hjm, by go_num, hi_ (fun i y hi hy => ?_)⟩
          by_cases hij : i = j
          · subst hij
            rw [HX.out.1] at hy
            rw [<- Option.some.inj hy, HX.out.2]
            omega
          · exact HI.out i y (by omega) hy
        case measure => simp [intOf]; omega
    · have hstop : n <= j \/ 50 <= j := by omega
      have hno : ¬ ∃ i x, i < 50 /\ xs[i]? = some x /\ 600 < x.length := by
        rintro ⟨i, x, hi, hx, hl⟩
        have hin := (List.getElem?_eq_some_iff.1 hx).1
        have := HI.out i x (by have := HL.out; omega) hx
        omega
      have HN := hi_ hno
      clear hno
      have e1 : decide ((j : Int) < (n : Int)) = decide (j < n) := by simp
      rcases Nat.lt_or_ge j n with h1 | h1
      · have e1' : decide (j < n) = true := decide_eq_true h1
        have e2 : decide ((j : Int) < 50) = false := decide_eq_false (by omega)
        have hn20 : 20 < n := by omega
        clear hjn hstop
        go_wp2
        go_ret
        exact ⟨_, rfl, ⟨fun _ => .inr (by rw [HL.out]; exact hn20), fun _ => by first | rfl | (simp; omega)⟩, rfl⟩
      · obtain rfl : j = n := by omega
        clear hjn hstop e1 h1
        go_wp2
        go_ret
        refine ⟨decide ((20 : Int) < (j : Int)), by first | rfl | (apply ret_bool; simp), ⟨fun h => .inr (by rw [HL.out]; have := of_decide_eq_true h; omega), fun h => ?_⟩, rfl⟩
        rcases h with h | h
        · exact absurd h HN.out
        · rw [HL.out] at h
          exact decide_eq_true (by omega)
end
end Go.Proofs.Ythabmlbmlncbmaa
namespace Go.Proofs.Ythabmlbmlncbmaa
open Go.RowKit
set_option linter.unusedVariables false
def secAt (l : List (List UInt8)) (n : Int) : List UInt8 := l.getD (n % (l.length : Int)).toNat []
def HasQ (l : List (List UInt8)) (n : Int) : Prop := (0 <= n /\ n <= 281474976710656) /\ okL (secAt l n) /\ cK (secAt l n) = 1 /\ cN (secAt l n) = n
def bodies (l : List (List UInt8)) (n : Int) (m : Nat) : List (List UInt8) := (List.range m).map fun i => cB (secAt l (n + (i : Nat)))
structure OneP (okF : List UInt8 -> Prop) (l : List (List UInt8)) (n e s most : Int) (b : List UInt8) (m : Nat) (o : Int) : Prop where
  has : HasQ l n
  hd : HdOk (cB (secAt l n))
  ep : e <= o
  pl : plc (cB (secAt l n)) = 0
  sq : sqn (cB (secAt l n)) = s
  ct : cnt (cB (secAt l n)) = (m : Int)
  mo : (m : Int) <= most
  ow : o = cE (secAt l n)
  all : ∀ i : Nat, i < m -> HasQ l (n + i) /\ cE (secAt l (n + i)) = o
  jn : ∃ z, joinL (bodies l n m) = (z, b, true)
  fr : okF b
inductive Scn (okF : List UInt8 -> Prop) (l : List (List UInt8)) (til : Int) : Int -> Int -> Int -> List (List UInt8) -> Int -> Int -> Int -> Prop
  | stop {n e s : Int} (h : ∀ b m o, ¬ OneP okF l n e s (til - n) b m o) : Scn okF l til n e s [] n e s
  | go {n e s : Int} {b : List UInt8} {m : Nat} {o : Int} {bs : List (List UInt8)} {n' e' s' : Int} (h : OneP okF l n e s (til - n) b m o) (t : Scn okF l til (n + m) o (s + 1) bs n' e' s') : Scn okF l til n e s (b :: bs) n' e' s'
section
variable {okF : List UInt8 -> Prop} {l g : List (List UInt8)} {n e s most til : Int} {b : List UInt8} {m : Nat} {o : Int}
theorem OneP.pos (h : OneP okF l n e s most b m o) : 1 <= m := by have := h.hd.2.1.1; rw [h.ct] at this; omega
theorem OneP.one {b' : List UInt8} {m' : Nat} {o' : Int} (h : OneP okF l n e s most b m o) (h' : OneP okF l n e s most b' m' o') : b = b' /\ m = m' /\ o = o' := by
  have e1 : m = m' := by have := h.ct.symm.trans h'.ct; omega
  subst e1
  obtain ⟨z, hz⟩ := h.jn
  obtain ⟨z', hz'⟩ := h'.jn
  rw [hz] at hz'
  injection hz' with _ h2
  injection h2 with h3 _
  exact ⟨h3, rfl, h.ow.trans h'.ow.symm⟩
theorem Scn.det {bs : List (List UInt8)} {n' e' s' : Int} (h : Scn okF l til n e s bs n' e' s') : ∀ {bs' : List (List UInt8)} {n'' e'' s'' : Int}, Scn okF l til n e s bs' n'' e'' s'' -> bs = bs' /\ n' = n'' /\ e' = e'' /\ s' = s'' := by
  induction h with
  | stop h =>
    intro bs' n'' e'' s'' k
    cases k with
    | stop _ => exact ⟨rfl, rfl, rfl, rfl⟩
    | go k _ => exact absurd k (h _ _ _)
  | go h t ih =>
    intro bs' n'' e'' s'' k
    cases k with
    | stop k => exact absurd h (k _ _ _)
    | go k t' =>
      obtain ⟨rfl, rfl, rfl⟩ := h.one k
      obtain ⟨rfl, h2, h3, h4⟩ := ih t'
      exact ⟨rfl, h2, h3, h4⟩
def sealedL (more n s : Int) (b : List UInt8) : List (List UInt8) := (List.range (needN b.length)).map fun i => sectorOf more (n + (i : Nat)) 1 (piece (needN b.length) s b i)
open Classical in
theorem new_seal {more n s : Int} {b : List UInt8} {i : Nat} (hm : 0 <= more /\ more <= 281474976710656) (hn : 0 <= n /\ n <= 281474976710656) :
    okL (sectorOf more n 1 (piece (needN b.length) s b i)) /\ cE (sectorOf more n 1 (piece (needN b.length) s b i)) = more /\ cN (sectorOf more n 1 (piece (needN b.length) s b i)) = n /\ cK (sectorOf more n 1 (piece (needN b.length) s b i)) = 1 /\
      cB (sectorOf more n 1 (piece (needN b.length) s b i)) = piece (needN b.length) s b i := by
  refine ⟨okL_sector _ _ _ _, ?_, ?_, ?_, ?_⟩
  · rw [cE_sector]; exact nr_self hm.1 hm.2
  · rw [cN_sector]; exact nr_self hn.1 hn.2
  · rw [cK_sector]; rfl
  · rw [cB_sector]; exact List.take_of_length_le (by rw [piece_len]; omega)
section
variable {more : Int} {rest : List (List UInt8)}
theorem split_facts {s : Int} {b : List UInt8} (hs : 0 <= s /\ s <= 281474976710656) (hneed : needN b.length <= 1024) :
    splitL s b = pcs (needN b.length) s b (needN b.length) /\ GoodP (splitL s b) s /\ (splitL s b).length = needN b.length /\ (HdOk (piece (needN b.length) s b 0) /\ plc (piece (needN b.length) s b 0) = 0 /\ cnt (piece (needN b.length) s b 0) = (needN b.length : Nat) /\ sqn (piece (needN b.length) s b 0) = s) := by
  have hsp : splitL s b = pcs (needN b.length) s b (needN b.length) := by rw [splitL_ok hneed, clampS_id hs]
  have hgood : GoodP (splitL s b) s := by have := split_good (s := s) hneed; rwa [clampS_id hs] at this
  have hl : (splitL s b).length = needN b.length := by rw [hsp, pcs_len]
  have g0 := hgood.2 0 (piece (needN b.length) s b 0) (by rw [hsp, pcs_get (by have := needN_bd b.length; omega)])
  refine ⟨hsp, hgood, hl, g0.1, g0.2.1, ?_, g0.2.2.2.1⟩
  rw [g0.2.2.1, hl]
theorem new_one (hm : 0 <= more /\ more <= 281474976710656) (hn : 0 <= n) (hr : n + (needN b.length : Nat) <= til) (htil : til <= 281474976710656) (hs : 0 <= s /\ s <= 281474976710656) (hneed : needN b.length <= 1024) (hf : okF b) (he : e <= more)
    (hc : ∀ i, i < needN b.length -> secAt g (n + (i : Nat)) = sectorOf more (n + (i : Nat)) 1 (piece (needN b.length) s b i)) : OneP okF g n e s (til - n) b (needN b.length) more := by
  have hmo : ((needN b.length : Nat) : Int) <= til - n := by omega
  have hbd : ∀ i : Nat, i < needN b.length -> 0 <= n + (i : Nat) /\ n + (i : Nat) <= 281474976710656 := fun i hi => ⟨by omega, by omega⟩
  have hpos := (needN_bd b.length).1
  obtain ⟨hsp, hgood, hl, f1, f2, f3, f4⟩ := split_facts hs hneed
  have hsec : ∀ i, i < needN b.length -> okL (secAt g (n + (i : Nat))) /\ cE (secAt g (n + (i : Nat))) = more /\ cN (secAt g (n + (i : Nat))) = n + (i : Nat) /\ cK (secAt g (n + (i : Nat))) = 1 /\ cB (secAt g (n + (i : Nat))) = piece (needN b.length) s b i := fun i hi => by
    rw [hc i hi]
    exact new_seal hm (hbd i hi)
  have hhas : ∀ i : Nat, i < needN b.length -> HasQ g (n + i) := fun i hi => ⟨hbd i hi, (hsec i hi).1, (hsec i hi).2.2.2.1, (hsec i hi).2.2.1⟩
  have h0 := hsec 0 hpos
  rw [Int.natCast_zero, Int.add_zero] at h0
  have hh := hhas 0 hpos
  rw [Int.natCast_zero, Int.add_zero] at hh
  have hbod : bodies g n (needN b.length) = splitL s b := by
    rw [hsp]
    exact List.map_congr_left fun i hi => (hsec i (List.mem_range.1 hi)).2.2.2.2
  exact {
    has := hh
    hd := by rw [h0.2.2.2.2]; exact f1
    ep := he
    pl := by rw [h0.2.2.2.2]; exact f2
    sq := by rw [h0.2.2.2.2]; exact f4
    ct := by rw [h0.2.2.2.2]; exact f3
    mo := hmo
    ow := h0.2.1.symm
    all := fun i hi => ⟨hhas i hi, (hsec i hi).2.1⟩
    jn := ⟨s, by rw [hbod, joinL_yes hgood, split_tails hneed]⟩
    fr := hf }
end
end
end Go.Proofs.Ythabmlbmlncbmaa
namespace Go.Proofs.Ythabmlbmlncbmaa
open Go.RowKit
set_option linter.unusedVariables false
section
variable (tr : List UInt8 -> List UInt8 -> Int -> List UInt8) (n : Int) (ks : List Int)
end
section
variable {okF : List UInt8 -> Prop} {l : List (List UInt8)} {tr : List UInt8 -> List UInt8 -> Int -> List UInt8} {ks : List Int} {head e s T E Q more : Int} {bs rest : List (List UInt8)}
end
end Go.Proofs.Ythabmlbmlncbmaa
namespace Go.Proofs.Ythabmlbmlncbmaa
set_option maxRecDepth 20000
open Go.RowKit
def Sec (w : World) (g : Nat) (l : List UInt8) : Prop := l.length = 512 /\ w.heap[g]? = some (.cells (cells l).toArray 103 (0, 0))
section
variable {w w' : World} {g : Nat} {l : List UInt8}
theorem Sec.lt (h : Sec w g l) : g < w.heap.size := (Array.getElem?_eq_some_iff.1 h.2).1
theorem Sec.below {B : Nat} (h : Sec w g l) (hb : Below B w w') (hB : g < B) : Sec w' g l := ⟨h.1, (hb.block g hB).trans h.2⟩
theorem Sec.alloc (h : Sec w g l) (o : Obj) : Sec (w.alloc o) g l := h.below ((Below.refl w.heap.size w).alloc (Nat.le_refl _) o) h.lt
theorem Sec.drew (h : Sec w g l) : Sec w.drew g l := h
theorem Sec.cell (h : Sec w g l) (j : Nat) (hj : j < l.length) : w.cell? ⟨g, j, none⟩ = some (.int .u8 (l[j].toNat : Int)) := by
  rw [cell_of_row _ g j _ _ _ h.2]
  simpa using cells_get hj
theorem Sec.rd (h : Sec w g l) {p m : Nat} (hp : p + m <= 512) : Rd w (some ⟨g, p, none⟩) m ((l.drop p).take m) :=
  ⟨by have := h.1; simp; omega, fun hm => ⟨g, p, rfl, h.lt, fun j hj => by
    have := h.1
    have hj' : j < m := by simp at hj; omega
    rw [h.cell (p + j) (by omega)]
    simp⟩⟩
theorem Sec.rd_all (h : Sec w g l) : Rd w (some ⟨g, 0, none⟩) 512 l := by
  have := h.rd (p := 0) (m := 512) (by omega)
  rw [List.drop_zero, List.take_of_length_le (by rw [h.1]; omega)] at this
  exact this
end
theorem num_any (g : Nat) (l : List UInt8) (x : Nat) (width : Int) (w : World) (h : Sec w g l) (hx : x + wd width <= 512) :
    Calls Try.prog 80 #[.pointer (some ⟨g, 0, none⟩), .int .i64 x, .int .i64 width] w fun e w' => e = .returned (.int .i64 (getV ((l.drop x).take (wd width)))) /\ w = w' := by
  have hG := Get_yes (some ⟨g, 0, none⟩) 512 512 l x width w h.rd_all (by omega) (by omega) hx
  have HG := hi_ hG
  clear hG
  have hu := Try.underlying102
  go_enter Try.func80, Try.ntmps80
  go_wp2_with (go_at_call 73; refine HG.out.mono ?_; rintro e w' ⟨rfl, rfl⟩)
  go_ret
  exact ⟨rfl, rfl⟩
theorem step_cpy_sec {ops : Array Oper} {o : Oper} {a : Act} {w : World} {K : Act -> World -> Prop} {Q : Exit -> Act -> World -> Prop} {E : Prop} (hgd : o.guard = none) (d s : Operand)
    (ho : o.op = .call { callee := .builtin .copy, args := #[d, s], argTypes := #[35, 35] })
    (g p dl dc : Nat) (L : List UInt8) (hd : a.eval d = .slice (some ⟨g, p, none⟩) dl dc) (hp : p + dl <= 512) (hL : Sec w g L)
    (A : Option Addr) (n c : Nat) (l : List UInt8) (hs : a.eval s = .slice A n c) (hr : Rd w A n l)
    (h : ∀ w', Sec w' g (putL L p (l.take dl)) -> Below g w w' -> K (a.put o.dst (goInt (l.take dl).length)) w') :
    if Region.wanted o (yielded ops a.tmps) = true then Oper.wp Try.prog o a w K Q else E := by
  have hl := hr.1
  have hL1 := hL.1
  have hm : (l.take dl).length = min dl n := by simp; omega
  refine step_copy_splice hgd d s _ _ ho 5 Try.underlying35 (by kernel_rfl) (some ⟨g, p, none⟩) A dl dc n c hd hs g p (cells L) 103 hL.2 (cells (l.take dl)) (by rw [cells_length, hm]; show min dl n = min n dl; omega) (fun hpos => ⟨rfl, hr.src dl hpos⟩) (by rw [cells_length, cells_length]; omega) (cells_one _) g w (Below.refl _ _) (Nat.le_refl _) ?_
  intro w' hw' hb
  rw [cells_length]
  refine h w' ⟨?_, ?_⟩ hb
  · rw [putL_length (by omega), hL1]
  · rw [<- splice_cells]; exact hw'.out
theorem sput_any (g : Nat) (l : List UInt8) (x : Nat) (width n : Int) (w : World) (h : Sec w g l) (hx : x + wd width <= 512) :
    Calls Try.prog 83 #[.pointer (some ⟨g, 0, none⟩), .int .i64 x, .int .i64 width, .int .i64 n] w fun e w' => e = .returned (.tuple #[]) /\ Sec w' g (putL l x (numB (wd width) n)) /\ Below g w w' := by
  have hw := wd_bd width
  have hne : ¬ 512 = x := by omega
  have hx0 : (0 : Int) <= (x : Int) := Int.natCast_nonneg _
  have hx1 : (x : Int) <= 512 := by omega
  have hl := h.1
  have hlt := h.lt
  go_enter Try.func83, Try.ntmps83
  go_wp2
  go_region_held3 (fun _ => True) (trivial) (first
    | (go_at_call 90; refine (Put_any none 0 0 [] width n _ (Rd.nil _ _) (by omega)).mono ?_; rintro e w1 ⟨v1, rfl, hown1, hb1⟩; rw [List.nil_append, Nat.zero_add] at hown1; obtain ⟨A1, c1, rfl, _, _, hr1⟩ := Rd.of_own hown1 rfl)
    | (refine step_cpy_sec rfl (.tmp 11) (.tmp 14) rfl g x (512 - x) (512 - x) l rfl (by omega) (h.drew.below hb1 hlt) A1 _ c1 (numB (wd width) n) rfl hr1 ?_; intro w2 hs2 hb2))
  rw [List.take_of_length_le (by simp; omega)] at hs2
  go_end0
  exact ⟨rfl, hs2, ((Below.refl g w).drew.trans (hb1.mono (Nat.le_of_lt hlt))).trans hb2⟩
end Go.Proofs.Ythabmlbmlncbmaa
namespace Go.Proofs.Ythabmlbmlncbmaa
open Go.RowKit
theorem spread32 (t : Nat) (ht : t < 4294967296) : bits .xor .u32 ((t : Int) / 2) (bits .and .u32 3988292384 (-bits .and .u32 (t : Int) 1 % 4294967296)) = (bst t : Nat) := by
  have e1 : bits .and .u32 (t : Int) 1 = ((t % 2 : Nat) : Int) := by
    have h := u32_and_nat t 1 ht (by decide)
    rw [nat_mask1] at h
    exact h
  have e2 : (-((t % 2 : Nat) : Int)) % 4294967296 = (((4294967296 - t % 2) % 4294967296 : Nat) : Int) := by omega
  have e3 := u32_and_nat 3988292384 ((4294967296 - t % 2) % 4294967296) (by decide) (Nat.mod_lt _ (by decide))
  have e4 := u32_xor_nat (t / 2) (3988292384 &&& ((4294967296 - t % 2) % 4294967296)) (by omega) (Nat.lt_of_le_of_lt Nat.and_le_left (by decide))
  rw [bst_spread, <- e3] at e4
  rw [e1, e2]
  exact e4
theorem addByte_any (s : Nat) (c : UInt8) (w : World) (hs : s < 4294967296) :
    Calls Try.prog 102 #[.int .u32 s, .int .u8 (c.toNat : Int)] w fun e w' => e = .returned (.int .u32 (addB s c : Nat)) /\ w = w' := by
  go_enter Try.func102, Try.ntmps102
  go_wp2
  go_loop [0, 10] (fun v i => ∃ j t : Nat, j <= 8 /\ t < 4294967296 /\ bstN (8 - j) t = addB s c /\ i = .int .i64 j /\ v = .int .u32 t) (fun _ i => 8 - (intOf i).toNat)
  case atStart =>
    have hc := c.toNat_lt
    refine ⟨0, s ^^^ c.toNat, by omega, xor_lt hs (by omega), bstN_byte s c, rfl, ?_⟩
    rw [show ((c.toNat : Int) % 4294967296) = (c.toNat : Int) from by omega, u32_xor_nat _ _ hs (by omega)]
  case round =>
    obtain ⟨j, t, hj, ht, he, rfl, rfl⟩ := hrel
    have HE := hi_ he
    clear he
    by_cases hlt : j < 8
    · go_wp2
      go_round
      case rel =>
        refine ⟨j + 1, bst t, by omega, bst_lt ht, ?_, by go_num, by rw [spread32 t ht]⟩
        rw [<- HE.out, show 8 - j = (8 - (j + 1)) + 1 from by omega]
        rfl
      case measure => simp [intOf]; omega
    · go_wp2
      go_ret
      obtain rfl : j = 8 := by omega
      exact ⟨ret_int (by rw [<- HE.out]; rfl), rfl⟩
theorem Start_any (w : World) : Calls Try.prog 94 #[] w fun e w' => e = .returned (.int .u32 4294967295) /\ w = w' := by
  go_enter Try.func94, Try.ntmps94
  go_wp2
  go_ret
  exact ⟨rfl, rfl⟩
theorem End_any (s : Nat) (w : World) (hs : s < 4294967296) : Calls Try.prog 96 #[.int .u32 s] w fun e w' => e = .returned (.int .u32 (s ^^^ 4294967295 : Nat)) /\ w = w' := by
  go_enter Try.func96, Try.ntmps96
  go_wp2
  go_ret
  exact ⟨ret_int (u32_xor_nat s 4294967295 hs (by decide)), rfl⟩
theorem take_snoc' {α : Type} (l : List α) (j : Nat) (h : j < l.length) : l.take (j + 1) = l.take j ++ [l[j]] := by
  rw [List.take_succ_eq_append_getElem h]
theorem Add_any (s : Nat) (A : Option Addr) (n c : Nat) (l : List UInt8) (w : World) (hs : s < 4294967296) (hr : Rd w A n l) (hn : n <= 1099511627776) :
    Calls Try.prog 95 #[.int .u32 s, .slice A n c] w fun e w' => e = .returned (.int .u32 (addL s l : Nat)) /\ w = w' := by
  go_enter Try.func95, Try.ntmps95
  go_wp2
  go_loop [0, 9] (fun v i => ∃ j : Nat, j <= n /\ i = .int .i64 j /\ v = .int .u32 (addL s (l.take j) : Nat)) (fun _ i => n - (intOf i).toNat)
  case atStart => exact ⟨0, Nat.zero_le _, rfl, rfl⟩
  case round =>
    obtain ⟨j, hj, rfl, rfl⟩ := hrel
    by_cases hlt : j < n
    · obtain ⟨b, o, rfl, _, hcell⟩ := hr.at_ hlt
      have hsn := take_snoc' l j (by have := hr.1; omega)
      have HS := hi_ hsn
      clear hsn
      have ha := addL_lt (l.take j) hs
      go_wp2_with (go_at_call 102; refine (addByte_any _ _ _ ha).mono ?_; rintro e w' ⟨rfl, rfl⟩)
      go_round
      case rel => exact ⟨j + 1, hlt, by go_num, by rw [HS.out, addL_snoc]⟩
      case measure => simp [intOf]; omega
    · go_wp2
      go_ret
      exact ⟨ret_int (by rw [List.take_of_length_le (by have := hr.1; omega)]), rfl⟩
end Go.Proofs.Ythabmlbmlncbmaa
namespace Go.Proofs.Ythabmlbmlncbmaa
open Go.RowKit
theorem turned_any (r s : Nat) (w : World) (h : Rev r s) :
    Calls Try.prog 67 #[.int .u32 r] w fun e w' => e = .returned (.int .u32 s) /\ w = w' := by
  have hr := h.1
  have hs := h.2.1
  go_enter Try.func67, Try.ntmps67
  go_wp2
  go_loop [0, 3, 4] (fun n o i => ∃ j x y : Nat, j <= 32 /\ x = r / 2 ^ j /\ y = s / 2 ^ (32 - j) /\ i = .int .i64 j /\ n = .int .u32 x /\ o = .int .u32 y) (fun _ _ i => 32 - (intOf i).toNat)
  case atStart => exact ⟨0, r, 0, by omega, by simp, (Nat.div_eq_of_lt hs).symm, rfl, rfl, rfl⟩
  case round =>
    obtain ⟨j, x, y, hj, hx, hy, rfl, rfl, rfl⟩ := hrel
    have hx1 : x < 4294967296 := by rw [hx]; exact Nat.lt_of_le_of_lt (Nat.div_le_self _ _) hr
    by_cases hlt : j < 32
    · have hy1 : y <= 2147483647 := by
        rw [hy, show 32 - j = 31 - j + 1 from by omega, Nat.pow_succ, Nat.mul_comm, <- Nat.div_div_eq_div_mul]
        exact Nat.le_trans (Nat.div_le_self _ _) (by omega)
      have hst := h.step hlt
      have HX := hi_ hx
      have HY := hi_ hy
      have HS := hi_ hst
      have HR := hi_ h
      clear hx hy hst h
      go_wp2
      go_round
      case rel =>
        refine ⟨j + 1, x / 2, y * 2 + x % 2, by omega, ?_, ?_, by go_num, by go_num, by go_num⟩
        · rw [HX.out, Nat.pow_succ, Nat.div_div_eq_div_mul]
        · rw [HX.out, HY.out, HS.out]
      case measure => simp [intOf]; omega
    · have HX := hi_ hx
      have HY := hi_ hy
      have HR := hi_ h
      clear hx hy h
      go_wp2
      go_ret
      obtain rfl : j = 32 := by omega
      exact ⟨ret_int (by rw [HY.out]; simp), rfl⟩
theorem ROf_any (A : Option Addr) (n c : Nat) (l : List UInt8) (w : World) (hr : Rd w A n l) (hn : n <= 1099511627776) :
    Calls Try.prog 49 #[.slice A n c] w fun e w' => e = .returned (.int .u32 (sumL l : Nat)) /\ w = w' := by
  go_enter Try.func49, Try.ntmps49
  go_wp2
  go_loop [3, 4] (fun v i => ∃ j r s : Nat, j <= n /\ Rev r s /\ s = addL 4294967295 (l.take j) /\ i = .int .i64 j /\ v = .int .u32 r) (fun _ i => n - (intOf i).toNat)
  case atStart => exact ⟨0, 4294967295, 4294967295, Nat.zero_le _, Rev.all, rfl, rfl, rfl⟩
  case round =>
    obtain ⟨j, r, s, hj, hrev, hs, rfl, rfl⟩ := hrel
    have HS := hi_ hs
    have HR := hi_ hrev
    clear hs hrev
    by_cases hlt : j < n
    · obtain ⟨b, o, rfl, _, hcell⟩ := hr.at_ hlt
      have hsn := take_snoc' l j (by have := hr.1; omega)
      have HN := hi_ hsn
      clear hsn
      obtain ⟨ch, hch⟩ : ∃ ch, ch = l[j]'(by have := hr.1; omega) := ⟨_, rfl⟩
      rw [<- hch] at hcell
      have HC := hi_ hch
      clear hch
      have hcl := ch.toNat_lt
      go_wp2
      go_loop [3, 5, 6, 7] (fun v x i u => ∃ k r' t y : Nat, k <= 8 /\ Rev r' t /\ y = ch.toNat / 2 ^ k /\ runB (8 - k) t y = addB s ch /\ i = .int .i64 k /\ v = .int .u32 r' /\ x = .int .u32 y) (fun _ _ i _ => 8 - (intOf i).toNat)
      case atStart => exact ⟨0, r, s, ch.toNat, by omega, HR.out, by simp, rfl, rfl, rfl, by go_num⟩
      case round =>
        obtain ⟨k, r', t, y, hk, hrev, hy, hrun, rfl, rfl, rfl⟩ := hrel
        have hy1 : y < 256 := by rw [hy]; exact Nat.lt_of_le_of_lt (Nat.div_le_self _ _) hcl
        have hr1 := hrev.1
        have HT := hi_ hrev
        have HY := hi_ hy
        have HU := hi_ hrun
        clear hrev hy hrun
        by_cases hlt2 : k < 8
        · by_cases hu : r' / 2147483648 = y % 2
          · have e2 := HT.out.like hu
            have E2 := hi_ e2
            clear e2
            go_wp2
            go_round
            case rel =>
              refine ⟨k + 1, r' * 2 % 4294967296, bst (t ^^^ y % 2), y / 2, by omega, E2.out, by rw [HY.out, Nat.pow_succ, Nat.div_div_eq_div_mul], ?_, by go_num, by go_num, by go_num⟩
              rw [<- HU.out, show 8 - k = (8 - (k + 1)) + 1 from by omega]
              rfl
            case measure => simp [intOf]; omega
          · have e2 := HT.out.unlike hu
            have E2 := hi_ e2
            clear e2
            go_wp2
            go_round
            case rel =>
              refine ⟨k + 1, r' * 2 % 4294967296 ^^^ 79764919, bst (t ^^^ y % 2), y / 2, by omega, E2.out, by rw [HY.out, Nat.pow_succ, Nat.div_div_eq_div_mul], ?_, by go_num, ?_, by go_num⟩
              · rw [<- HU.out, show 8 - k = (8 - (k + 1)) + 1 from by omega]
                rfl
              · rw [<- u32_xor_nat _ 79764919 (Nat.mod_lt _ (by decide)) (by decide)]
                go_num
            case measure => simp [intOf]; omega
        · go_wp2
          go_round
          case rel =>
            obtain rfl : k = 8 := by omega
            refine ⟨j + 1, r', t, hlt, HT.out, ?_, by go_num, rfl⟩
            rw [HN.out, addL_snoc, <- HC.out, <- HS.out, <- HU.out]
            rfl
          case measure => simp [intOf]; omega
    · go_wp2_with (go_at_call 67; refine (turned_any _ _ _ HR.out).mono ?_; rintro e w' ⟨rfl, rfl⟩)
      go_ret
      have hs1 := HR.out.2.1
      refine ⟨ret_int ?_, rfl⟩
      have e1 : l.take j = l := List.take_of_length_le (by have := hr.1; omega)
      have e2 : sumL l = 4294967295 - s := by
        unfold sumL
        rw [<- turn_all hs1, HS.out, e1]
      rw [e2]
      omega
end Go.Proofs.Ythabmlbmlncbmaa
namespace Go.Proofs.Ythabmlbmlncbmaa
open Go.RowKit
def Rds (w : World) (A : Option Addr) (k : Nat) (ls : List (List UInt8)) : Prop :=
  ls.length = k /\ ∀ j (hj : j < ls.length), ∃ b o A' n c, A = some ⟨b, o, none⟩ /\ n <= 1099511627776 /\ w.cell? ⟨b, o + j, none⟩ = some (.slice A' n c) /\ Rd w A' n (ls[j])
theorem Of_any (A : Option Addr) (k c : Nat) (ls : List (List UInt8)) (w : World) (hr : Rds w A k ls) (hk : k <= 1099511627776) :
    Calls Try.prog 84 #[.slice A k c] w fun e w' => e = .returned (.int .u32 (sumL ls.flatten : Nat)) /\ w = w' := by
  go_enter Try.func84, Try.ntmps84
  go_wp2_with (go_at_call 94; refine (Start_any _).mono ?_; rintro e w' ⟨rfl, rfl⟩)
  go_loop [3, 9] (fun v i => ∃ j : Nat, j <= k /\ i = .int .i64 j /\ v = .int .u32 (addL 4294967295 (ls.take j).flatten : Nat)) (fun _ i => k - (intOf i).toNat)
  case atStart => exact ⟨0, Nat.zero_le _, rfl, rfl⟩
  case round =>
    obtain ⟨j, hj, rfl, rfl⟩ := hrel
    have ha := addL_lt (ls.take j).flatten (s := 4294967295) (by decide)
    by_cases hlt : j < k
    · obtain ⟨b, o, A', n, c', rfl, hn, hcell, hR⟩ := hr.2 j (by have := hr.1; omega)
      have hsn := take_snoc' ls j (by have := hr.1; omega)
      have HS := hi_ hsn
      clear hsn
      go_wp2_with (go_at_call 95; refine (Add_any _ _ _ _ _ _ ha hR hn).mono ?_; rintro e w' ⟨rfl, rfl⟩)
      go_round
      case rel => exact ⟨j + 1, hlt, by go_num, by rw [HS.out, List.flatten_append, addL_append]; simp⟩
      case measure => simp [intOf]; omega
    · go_wp2_with (go_at_call 96; refine (End_any _ _ ha).mono ?_; rintro e w' ⟨rfl, rfl⟩)
      go_ret
      exact ⟨ret_int (by rw [List.take_of_length_le (by have := hr.1; omega)]; rfl), rfl⟩
theorem Rds.one (w : World) (A : Option Addr) (n c : Nat) (l : List UInt8) (h : Rd w A n l) (hn : n <= 1099511627776) (T : TypeId) (fr : Nat × Nat) :
    Rds (w.alloc (.cells #[.slice A n c] T fr)) (some ⟨w.heap.size, 0, none⟩) 1 [l] :=
  ⟨rfl, fun j hj => by
    obtain rfl : j = 0 := by simp at hj; omega
    refine ⟨_, _, A, n, c, rfl, hn, ?_, h.alloc _⟩
    have h0 : (w.alloc (.cells #[.slice A n c] T fr)).heap[w.heap.size]? = some (.cells #[.slice A n c] T fr) := by
      show (w.heap.push _)[w.heap.size]? = _
      simp
    rw [cell_of_row _ w.heap.size (0 + 0) _ T fr h0]
    rfl⟩
theorem Rds.two (w : World) (A A' : Option Addr) (n n' c c' : Nat) (l l' : List UInt8) (h : Rd w A n l) (h' : Rd w A' n' l') (hn : n <= 1099511627776) (hn' : n' <= 1099511627776) (T : TypeId) (fr : Nat × Nat) :
    Rds (w.alloc (.cells #[.slice A n c, .slice A' n' c'] T fr)) (some ⟨w.heap.size, 0, none⟩) 2 [l, l'] := by
  have h0 : (w.alloc (.cells #[.slice A n c, .slice A' n' c'] T fr)).heap[w.heap.size]? = some (.cells #[.slice A n c, .slice A' n' c'] T fr) := by
    show (w.heap.push _)[w.heap.size]? = _
    simp
  refine ⟨rfl, fun j hj => ?_⟩
  obtain rfl | rfl : j = 0 \/ j = 1 := by simp at hj; omega
  · exact ⟨_, _, A, n, c, rfl, hn, by rw [cell_of_row _ w.heap.size (0 + 0) _ T fr h0]; rfl, h.alloc _⟩
  · exact ⟨_, _, A', n', c', rfl, hn', by rw [cell_of_row _ w.heap.size (0 + 1) _ T fr h0]; rfl, h'.alloc _⟩
theorem Of_one (A : Option Addr) (n c : Nat) (l : List UInt8) (w : World) (h : Rd w A n l) (hn : n <= 1099511627776) (g : Nat) (hg : g = w.heap.size) (T : TypeId) (fr : Nat × Nat) :
    Calls Try.prog 84 #[.slice (some ⟨g, 0, none⟩) 1 1] (w.alloc (.cells #[.slice A n c] T fr)) fun e w' => e = .returned (.int .u32 (sumL l : Nat)) /\ w.alloc (.cells #[.slice A n c] T fr) = w' := by
  subst hg
  exact (Of_any _ 1 1 [l] _ (Rds.one w A n c l h hn T fr) (by decide)).mono fun _ _ hh => by simpa using hh
theorem Of_two (A A' : Option Addr) (n n' c c' : Nat) (l l' : List UInt8) (w : World) (h : Rd w A n l) (h' : Rd w A' n' l') (hn : n <= 1099511627776) (hn' : n' <= 1099511627776) (g : Nat) (hg : g = w.heap.size) (T : TypeId) (fr : Nat × Nat) :
    Calls Try.prog 84 #[.slice (some ⟨g, 0, none⟩) 2 2] (w.alloc (.cells #[.slice A n c, .slice A' n' c'] T fr)) fun e w' => e = .returned (.int .u32 (sumL (l ++ l') : Nat)) /\ w.alloc (.cells #[.slice A n c, .slice A' n' c'] T fr) = w' := by
  subst hg
  exact (Of_any _ 2 2 [l, l'] _ (Rds.two w A A' n n' c c' l l' h h' hn hn' T fr) (by decide)).mono fun _ _ hh => by simpa using hh
end Go.Proofs.Ythabmlbmlncbmaa
