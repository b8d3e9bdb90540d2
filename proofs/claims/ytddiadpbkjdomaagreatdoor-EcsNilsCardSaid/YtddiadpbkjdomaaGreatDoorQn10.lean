/- TbZ, CmAl, CmS, TbP8, TbP9, TbPA, TbPB -/
import Derived.Test.YtddiadpbkjdomaaGreatDoorQn9
import Derived.Deep.RegionHeld3
namespace Go.Proofs.YtddiadpbkjdomaaGreatDoor
def zsK (ks : List Kd) (k : Nat) : Int := (ks.getD k (.empty, 0)).2
theorem sizeK_at {ks : List Kd} {k : Nat} (h : k < ks.length) : sizeK ks (k : Int) = (zsK ks k, true) := by
  rw [sizeK_yes h (s := ks[k].1) (z := ks[k].2) rfl]
  unfold zsK
  rw [List.getD_eq_getElem?_getD, List.getElem?_eq_getElem h]
  rfl
end Go.Proofs.YtddiadpbkjdomaaGreatDoor
namespace Go.Proofs.YtddiadpbkjdomaaGreatDoor
open Go.RowKit
set_option linter.unusedVariables false

section
variable (lg pg en gn : Int) (A : Option Addr) (n cap : Nat) (ks : List Kd) (w : World)

/-- The places of n components. -/
def idxs (n : Nat) : List Int := (List.range n).map Int.ofNat
theorem idxs_succ (n : Nat) : idxs (n + 1) = idxs n ++ [(n : Int)] := by simp [idxs, List.range_succ]
theorem orL_more (l : List Int) (c : Int) : orL l ||| orL [c] = orL (l ++ [c]) := by
  rw [orL_snoc, orL_one]
  split
  · rfl
  · exact Nat.or_zero _

theorem All_any (h : KRd w A n ks) (hn : n ≤ 1000000) :
    Calls Tryz.prog 167 #[cv lg pg en gn A n cap] w fun e w' => e = .returned (.int .u64 (ofL (idxs n) 64 : Nat)) ∧ Below w.heap.size w w' := by
  obtain ⟨w1, hw1⟩ : ∃ w1, w1 = w.alloc (.cells (cc lg pg en gn A n cap) 24) := ⟨_, rfl⟩
  have C1 := CAt.new h lg pg en gn cap
  rw [← hw1] at C1
  obtain ⟨g, hg⟩ : ∃ g, g = w.heap.size := ⟨_, rfl⟩
  rw [← hg] at C1
  have c4 := C1.c4
  have K1 := Lib.hid C1
  have HG := Lib.hid hg
  clear h hg C1
  go_enter Tryz.func167, Tryz.ntmps167
  go_wp2_with (rw [← hw1, ← HG.out]; clear hw1)
  go_loopw [3, 8] (fun v i wr => ∃ j : Nat, j ≤ n ∧ i = .int .i64 j ∧ v = .int .u64 (orL (idxs j) : Nat) ∧ Below w.heap.size w wr) (fun _ i _ => n - (intOf i).toNat)
  case atStart => exact ⟨0, Nat.zero_le _, rfl, rfl, K1.out.bel⟩
  case round =>
    obtain ⟨j, hj, rfl, rfl, hb⟩ := hrel
    by_cases hlt : j < n
    · have HB := Lib.hid hb
      have hlo := orL_lt (idxs j)
      have hmo := orL_more (idxs j) j
      obtain ⟨s, hs⟩ : ∃ s, s = orL (idxs j) := ⟨_, rfl⟩
      rw [← hs] at hlo hmo ⊢
      have cW := With_any s j wr hlo
      rw [hmo, ← idxs_succ] at cW
      have CW := Lib.hid cW
      clear hb hlo hmo hs cW
      go_wp2_with (go_at_call 142; refine CW.out.mono ?_; rintro e w2 ⟨rfl, hb2⟩; have HB2 := Lib.hid hb2; clear hb2)
      go_roundw
      case rel => exact ⟨j + 1, hlt, by go_num, rfl, HB.out.trans (HB2.out.mono HB.out.size)⟩
      case measure => simp [intOf]; omega
    · obtain rfl : j = n := by omega
      rw [orL_eq]
      have HB := Lib.hid hb
      clear hb
      go_wp2
      go_ret
      exact ⟨rfl, HB.out⟩
end
end Go.Proofs.YtddiadpbkjdomaaGreatDoor
namespace Go.Proofs.YtddiadpbkjdomaaGreatDoor
open Go.RowKit
set_option linter.unusedVariables false

section
variable (lg pg en gn : Int) (A : Option Addr) (n cap : Nat) (ks : List Kd) (w : World)

theorem Size_any (h : KRd w A n ks) (hn : n ≤ 1000000) (k : Int) :
    Calls Tryz.prog 80 #[cv lg pg en gn A n cap, .int .i64 k] w fun e w' => e = .returned (.tuple #[.int .i64 (sizeK ks k).1, .bool (sizeK ks k).2]) ∧ Below w.heap.size w w' := by
  obtain ⟨w1, hw1⟩ : ∃ w1, w1 = w.alloc (.cells (cc lg pg en gn A n cap) 24) := ⟨_, rfl⟩
  have C1 := CAt.new h lg pg en gn cap
  rw [← hw1] at C1
  obtain ⟨g, hg⟩ : ∃ g, g = w.heap.size := ⟨_, rfl⟩
  rw [← hg] at C1
  have c4 := C1.c4
  have hl := h.1
  have K1 := Lib.hid C1
  have HG := Lib.hid hg
  clear h hg C1
  by_cases hk0 : k < 0
  · have e1 : sizeK ks k = (0, false) := sizeK_no (by omega)
    rw [e1]
    clear e1
    go_enter Tryz.func80, Tryz.ntmps80
    go_wp2_with (rw [← hw1, ← HG.out]; clear hw1)
    go_ret2
    exact ⟨rfl, K1.out.bel⟩
  · by_cases hk1 : k < n
    · obtain ⟨j, rfl⟩ : ∃ j : Nat, k = (j : Int) := ⟨k.toNat, by omega⟩
      obtain ⟨b, o, s', z, rfl, _, k0, k1, hl', hk⟩ := K1.out.rd.at_ (show j < n by omega)
      rw [sizeK_yes hl' hk]
      clear hk
      go_enter Tryz.func80, Tryz.ntmps80
      go_wp2_with (rw [← hw1, ← HG.out]; clear hw1)
      go_ret2
      exact ⟨rfl, K1.out.bel⟩
    · have e1 : sizeK ks k = (0, false) := sizeK_no (by omega)
      rw [e1]
      clear e1
      go_enter Tryz.func80, Tryz.ntmps80
      go_wp2_with (rw [← hw1, ← HG.out]; clear hw1)
      go_ret2
      exact ⟨rfl, K1.out.bel⟩
end
end Go.Proofs.YtddiadpbkjdomaaGreatDoor
namespace Go.Proofs.YtddiadpbkjdomaaGreatDoor
open Go.RowKit
set_option maxRecDepth 20000

/-- Columns without rows. -/
def noCo (cs : List (Int × Nat)) (j : Nat) : Co := ⟨(cs.getD j (0, 0)).2, []⟩
theorem new_cs (n : Nat) (zs : Nat → Int) (s : Nat) : listZ (s &&& ofL (idxs n) 64) = (Tb.new n zs s).cs.map (·.1) := by
  show (listN _).map Int.ofNat = (((listN s).filter _).map _).map _
  rw [List.map_map]
  have e : listN (s &&& ofL (idxs n) 64) = (listN s).filter fun (k : Nat) => decide (k < n) := by
    unfold listN
    rw [List.filter_filter]
    refine List.filter_congr fun k hk => ?_
    have hk := List.mem_range.1 hk
    rw [Nat.testBit_and, ofL_bit, Bool.and_comm]
    congr 1
    refine decide_eq_decide.2 ⟨fun h => ?_, fun h => ⟨hk, ?_⟩⟩
    · obtain ⟨_, h⟩ := h
      unfold idxs at h
      obtain ⟨a, ha, e⟩ := List.mem_map.1 h
      have := List.mem_range.1 ha
      have e' : (a : Int) = (k : Int) := e
      omega
    · unfold idxs
      exact List.mem_map.2 ⟨k, List.mem_range.2 h, rfl⟩
  rw [e]
  rfl
theorem and_lt64 (s t : Nat) (h : s < 18446744073709551616) : s &&& t < 18446744073709551616 := Nat.lt_of_le_of_lt Nat.and_le_left h
theorem colAt_snoc {cs : List (Int × Nat)} {q : Nat → Nat} {b : Nat} {k : Int} {z : Nat} (hk : k ∉ cs.map (·.1)) (i : Int) :
    (if i = k then some (Value.pointer (some ⟨b, 0, none⟩)) else colAt cs q i) = colAt (cs ++ [(k, z)]) (fun a => if a = cs.length then b else q a) i := by
  unfold colAt
  rw [List.findIdx?_append]
  by_cases hi : i = k
  · subst hi
    have h0 : (cs.findIdx? fun c => decide (c.1 = i)) = none := by
      rw [List.findIdx?_eq_none_iff]
      intro x hx
      exact decide_eq_false fun e => hk (List.mem_map.2 ⟨x, hx, e⟩)
    rw [h0]
    simp
  · rw [if_neg hi]
    cases hf : cs.findIdx? fun c => decide (c.1 = i) with
    | none =>
      have : ¬ k = i := fun e => hi e.symm
      simp [this]
    | some j =>
      rw [List.findIdx?_eq_some_iff_getElem] at hf
      obtain ⟨hj, _⟩ := hf
      simp [Nat.ne_of_lt hj]

section
variable {w w6 w7 : World} {N : Nat} {tag : Nat → Nat} {p m : Nat} {v : Value} {q : Nat → Nat} {sg : Nat} {cs : List (Int × Nat)} {l : List (Int × Int)} {co : Nat → Co}
/-- One column more. -/
theorem TbI.more (h : TbI w N tag p m v q sg cs l co) (hb : Below w.heap.size w w6) {s : Co} (hlt : w.heap.size < w6.heap.size) (hc : ClAt w6 (· = w.heap.size) w.heap.size nilv s) {k : Int} {z : Nat} (hk : k ∉ cs.map (·.1)) (hk0 : 0 ≤ k ∧ k < 64) {nm : Nat} (hnm : nm = cs.length + 1)
    (hm : MapZ Tryz.prog 3 (.pointer none) w7 m nm (fun i => if i = k then some (.pointer (some ⟨w.heap.size, 0, none⟩)) else colAt cs q i)) (hg : w6.grownBy w7 (some m)) :
    ∃ tag', TbI w7 N tag' p m v (fun a => if a = cs.length then w.heap.size else q a) sg (cs ++ [(k, z)]) l (fun a => if a = cs.length then s else co a) ∧ (∀ x, tag' x ≠ 0 → tag x ≠ 0 ∨ w.heap.size ≤ x) := by
  have h6 := h.below hb
  have hF : Fr (· = m) w6 w7 := Fr.grown hg (fun x hx => by injection hx with hx; exact hx.symm)
  have hN := h.Nle
  have tb : tag w.heap.size = 0 := by
    rcases Nat.eq_zero_or_pos (tag w.heap.size) with h0 | h0
    · exact h0
    · have := h.dom _ (show tag w.heap.size ≠ 0 by omega); omega
  have ne : ∀ x, tag x ≠ 0 → x ≠ w.heap.size := fun x hx e => hx (e ▸ tb)
  have kp : ∀ x, tag x ≠ 0 → (if x = w.heap.size then cs.length + 4 else tag x) = tag x := fun x hx => if_neg (ne x hx)
  have hmlt := h.mp.lt
  refine ⟨fun x => if x = w.heap.size then cs.length + 4 else tag x, ⟨h6.blk.fr hF (fun e => by have := h.tp; rw [show p = m from e, h.tm] at this; omega), own_fr h6.ids hF (fun x hx e => by have := h.ti x hx; rw [show x = m from e, h.tm] at this; omega), ?_, fun j hj => ?_, ?_, ?_, fun x hx => ?_, fun x hx => ?_, fun x hx => ?_, ?_, ?_⟩, fun x hx => ?_⟩
  · rw [List.length_append, List.length_singleton, ← hnm]
    exact hm.congr fun i => colAt_snoc hk i
  · by_cases hjl : j = cs.length
    · subst hjl
      simp only [if_true]
      exact ⟨_, (hc.kept hF (fun x hx e => by have e1 : x = w.heap.size := hx; have e2 : x = m := e; omega)).mono fun x hx => by
        show (if x = w.heap.size then cs.length + 4 else tag x) = cs.length + 4
        rw [if_pos hx]⟩
    · simp only [if_neg hjl]
      rw [List.length_append, List.length_singleton] at hj
      obtain ⟨u, hu⟩ := h6.col j (by omega)
      exact ⟨u, (hu.kept hF (fun x hx e => by have e' : x = m := e; rw [e', h.tm] at hx; omega)).mono fun x hx => by
        show (if x = w.heap.size then cs.length + 4 else tag x) = j + 4
        rw [kp x (by rw [hx]; omega), hx]⟩
  · show (if p = w.heap.size then _ else tag p) = 1
    rw [kp p (by rw [h.tp]; decide), h.tp]
  · show (if m = w.heap.size then _ else tag m) = 2
    rw [kp m (by rw [h.tm]; decide), h.tm]
  · show (if x = w.heap.size then _ else tag x) = 3
    rw [kp x (by rw [h.ti x hx]; decide), h.ti x hx]
  · have hx' : (if x = w.heap.size then cs.length + 4 else tag x) ≠ 0 := hx
    have := hF.size
    split at hx'
    · omega
    · exact Nat.lt_of_lt_of_le (h6.dom x hx') this
  · have hx' : (if x = w.heap.size then cs.length + 4 else tag x) ≠ 0 := hx
    split at hx'
    · omega
    · exact h.lo x hx'
  · intro x hx
    rcases List.mem_append.1 hx with hx | hx
    · exact h.cz x hx
    · rw [List.mem_singleton.1 hx]; exact hk0
  · rw [List.map_append, List.nodup_append]
    refine ⟨h.nd, by simp, fun a ha b hb e => ?_⟩
    simp at hb
    exact hk (by rw [← hb, ← e]; exact ha)
  · have hx' : (if x = w.heap.size then cs.length + 4 else tag x) ≠ 0 := hx
    split at hx'
    · exact .inr (by omega)
    · exact .inl hx'
end
end Go.Proofs.YtddiadpbkjdomaaGreatDoor
namespace Go.Proofs.YtddiadpbkjdomaaGreatDoor
open Go.RowKit
set_option maxRecDepth 20000

theorem nodup_take {α : Type} {l : List α} (h : l.Nodup) {j : Nat} {x : α} (hx : l[j]? = some x) : x ∉ l.take j := fun hm => by
  obtain ⟨hj, e⟩ := List.getElem?_eq_some_iff.1 hx
  obtain ⟨i, hi, e'⟩ := List.getElem_of_mem hm
  rw [List.length_take] at hi
  rw [List.getElem_take] at e'
  exact List.pairwise_iff_getElem.1 h i j (by omega) hj (by omega) (by rw [e', e])
theorem colAt_none {cs : List (Int × Nat)} {q : Nat → Nat} {k : Int} (hk : k ∉ cs.map (·.1)) : colAt cs q k = none := by
  unfold colAt
  have h0 : (cs.findIdx? fun c => decide (c.1 = k)) = none := by
    rw [List.findIdx?_eq_none_iff]
    intro x hx
    exact decide_eq_false fun e => hk (List.mem_map.2 ⟨x, hx, e⟩)
  rw [h0]
  rfl
/-- A table that has nothing yet. -/
theorem TbI.start {w : World} {N : Nat} (hN : N ≤ w.heap.size) (sg : Nat) (q : Nat → Nat) (co : Nat → Co) :
    TbI ((w.alloc (.map #[] 0)).alloc (.cells #[.int .u64 sg, nilv, .map (some w.heap.size)] 185)) N (fun x => if x = w.heap.size then 2 else if x = w.heap.size + 1 then 1 else 0) (w.heap.size + 1) w.heap.size nilv q sg [] [] co where
  blk := by
    have := Rec.new (w.alloc (.map #[] 0)) 185 #[.int .u64 sg, nilv, .map (some w.heap.size)]
    rw [World.size_alloc] at this
    exact this
  ids := World.ownsRow_nil _ _ _ _
  mp := ((MapZ.made Tryz.prog 3 (.pointer none) w).below ((Below.refl _ _).alloc (Nat.le_refl _) _)).congr fun i => rfl
  col := fun j hj => absurd hj (Nat.not_lt_zero j)
  tp := by simp
  tm := by simp
  ti := fun x hx => by cases hx
  dom := fun x hx => by
    simp at hx ⊢
    by_cases h1 : x = w.heap.size
    · omega
    · rw [if_neg h1] at hx
      by_cases h2 : x = w.heap.size + 1
      · omega
      · rw [if_neg h2] at hx; exact absurd rfl hx
  lo := fun x hx => by
    by_cases h1 : x = w.heap.size
    · omega
    · simp only [if_neg h1] at hx
      by_cases h2 : x = w.heap.size + 1
      · omega
      · rw [if_neg h2] at hx; exact absurd rfl hx
  cz := fun x hx => absurd hx List.not_mem_nil
  nd := List.nodup_nil

section
variable (lg pg en gn : Int) (A : Option Addr) (n cap : Nat) (ks : List Kd) (w : World)
theorem TNew_any (h : KRd w A n ks) (hn : n ≤ 1000000) (s : Nat) (hs : s < 18446744073709551616) (hT : TabAt w) :
    Calls Tryz.prog 125 #[cv lg pg en gn A n cap, .int .u64 (s : Nat)] w fun e w' => ∃ p m q tag, e = .returned (.pointer (some ⟨p, 0, none⟩)) ∧ TbI w' w.heap.size tag p m nilv q (s &&& ofL (idxs n) 64) (Tb.new n (zsK ks) s).cs [] (noCo (Tb.new n (zsK ks) s).cs) ∧ Below w.heap.size w w' := by
  have hnl := h.1
  have hnew := Tb.new_ok n (zsK ks) s
  have hcs := new_cs n (zsK ks) s
  obtain ⟨cs, hcse⟩ : ∃ cs, cs = (Tb.new n (zsK ks) s).cs := ⟨_, rfl⟩
  rw [← hcse] at hcs ⊢
  have hcz : ∀ x ∈ cs, 0 ≤ x.1 ∧ x.1 < 64 := by rw [hcse]; exact hnew.cz
  have hcn : cs.length ≤ 64 := by rw [hcse]; exact hnew.cn
  have hnd : (cs.map (·.1)).Nodup := by rw [hcse]; exact hnew.nd
  have hat : ∀ j, j < cs.length → ∃ k : Nat, k < n ∧ cs.getD j (0, 0) = ((k : Int), (min (max (zsK ks k) 0) 64).toNat) := fun j hj => by
    have hm : cs[j] ∈ (Tb.new n (zsK ks) s).cs := hcse ▸ List.getElem_mem hj
    obtain ⟨k, hk, e⟩ := List.mem_map.1 hm
    refine ⟨k, of_decide_eq_true (List.mem_filter.1 hk).2, ?_⟩
    rw [List.getD_eq_getElem?_getD, List.getElem?_eq_getElem hj]
    exact e.symm
  obtain ⟨sg, hsg⟩ : ∃ sg, sg = s &&& ofL (idxs n) 64 := ⟨_, rfl⟩
  have hsl : sg < 18446744073709551616 := by rw [hsg]; exact and_lt64 _ _ hs
  rw [← hsg] at hcs ⊢
  have eand : bits BinOp.and IntKind.u64 (s : Int) ((ofL (idxs n) 64 : Nat) : Int) = (sg : Int) := by rw [hsg]; exact u64_and_nat s (ofL (idxs n) 64) hs (ofL_lt _ 64)
  obtain ⟨al, hal⟩ : ∃ al, al = ofL (idxs n) 64 := ⟨_, rfl⟩
  rw [← hal] at eand
  obtain ⟨w1, hw1⟩ : ∃ w1, w1 = w.alloc (.cells (cc lg pg en gn A n cap) 24) := ⟨_, rfl⟩
  have hb1 : Below w.heap.size w w1 := by rw [hw1]; exact (Below.refl _ _).alloc (Nat.le_refl _) _
  have hR1 : Rec 24 w1 w.heap.size (cc lg pg en gn A n cap) := by rw [hw1]; exact Rec.new _ _ _
  have CAL := All_any lg pg en gn A n cap ks w1 (h.below hb1) hn
  rw [← hal] at CAL
  obtain ⟨nc, hnc⟩ : ∃ nc, nc = cs.length := ⟨_, rfl⟩
  rw [← hnc] at hcn
  have HNC := Lib.hid hnc
  have CAL := Lib.hid CAL
  have HB1 := Lib.hid hb1
  have HR1 := Lib.hid hR1
  have HT := Lib.hid hT
  have H := Lib.hid h
  have HCZ := Lib.hid hcz
  have HND := Lib.hid hnd
  have HAT := Lib.hid hat
  have HNL := Lib.hid hnl
  clear h hT hb1 hR1 hnc hnew hcse hcz hnd hat hsg hal hnl
  have hmm := @run_makeMap Tryz.prog
  go_enter Tryz.func125, Tryz.ntmps125
  go_wp2_with (first
    | (rw [← hw1]; clear hw1)
    | (with_reducible refine wpList_ldS confT rfl rfl (.tmp 2) rfl rfl HR1.out ?_)
    | (go_at_call 167; refine CAL.out.mono ?_; rintro e w2 ⟨rfl, hb2⟩; have hlt2 := (HR1.out.under hb2).lt; have hst := TbI.start (HB1.out.trans (hb2.mono HB1.out.size)).size sg (fun _ => 0) (noCo cs); obtain ⟨w3, hw3⟩ : ∃ w3, w3 = (w2.alloc (.map #[] 0)).alloc (.cells #[.int .u64 sg, nilv, .map (some w2.heap.size)] 185) := ⟨_, rfl⟩; rw [← hw3] at hst; have hb3 : Below w2.heap.size w2 w3 := (by rw [hw3]; exact ((Below.refl _ _).alloc (Nat.le_refl _) _).alloc (by simp) _); have k0 := hst.c0; have HB3 := Lib.hid ((HB1.out.trans (hb2.mono HB1.out.size)).trans (hb3.mono (HB1.out.trans (hb2.mono HB1.out.size)).size)); have HR3 := Lib.hid ((HR1.out.under hb2).under hb3); have HST := Lib.hid hst; have HW3 := Lib.hid hw3; have HB23 := Lib.hid (HB1.out.trans (hb2.mono HB1.out.size)); clear hb2 hst hb3 hw3)
    | (rw [← HW3.out])
    | (go_at_call 107; refine (tlist_any hcs hsl (HT.out.below HB3.out)).mono ?_; rintro e w4 ⟨LA, lc, rfl, hI, hb4⟩; rw [← HNC.out] at hI ⊢; have HI := Lib.hid hI; have HB4 := Lib.hid hb4; clear hI hb4 k0))
  have H4 := Lib.hid (HST.out.below HB4.out)
  have HR4 := Lib.hid (HR3.out.under HB4.out)
  have HBw := Lib.hid (HB3.out.trans (HB4.out.mono HB3.out.size))
  have hs23 := HB23.out.size
  have hs34 := HB4.out.size
  have hp3 : w2.heap.size + 1 < w3.heap.size := HST.out.blk.lt
  have HW := Lib.hid (show ∀ x, (fun x => if x = w2.heap.size then 2 else if x = w2.heap.size + 1 then 1 else 0) x ≠ 0 → x = w2.heap.size ∨ x = w2.heap.size + 1 from fun x hx => by
    by_cases h1 : x = w2.heap.size
    · exact .inl h1
    · simp only [if_neg h1] at hx
      by_cases h2 : x = w2.heap.size + 1
      · exact .inr h2
      · rw [if_neg h2] at hx; exact absurd rfl hx)
  clear HST HR1 HR3 HB1 HB3 CAL
  go_loopw [23] (fun iv wr => ∃ (j : Nat) (q tag : Nat → Nat), j ≤ nc ∧ iv = .int .i64 j ∧ TbI wr w.heap.size tag (w2.heap.size + 1) w2.heap.size nilv q sg (cs.take j) [] (noCo cs) ∧ Fr (Two w2.heap.size (w2.heap.size + 2) w4.heap.size) w4 wr ∧ (∀ x, tag x ≠ 0 → Two w2.heap.size (w2.heap.size + 2) w4.heap.size x)) (fun iv _ => nc - (intOf iv).toNat)
  case atStart => exact ⟨0, _, _, Nat.zero_le _, rfl, H4.out, Fr.refl _ _, fun x hx => .inl (by have := HW.out x hx; omega)⟩
  case round =>
    obtain ⟨j, q, tag, hj, rfl, hI, hF, hTw⟩ := hrel
    have hss := hF.size
    by_cases hjn : j < nc
    · have hjc : j < cs.length := by rw [← HNC.out]; exact hjn
      have hIj := HI.out.stays (w' := wr) ⟨hss, fun x hx => hF.block x hx.2 (fun h2 => by rcases h2 with h2 | h2 <;> omega)⟩
      obtain ⟨b, o, hLA, hblt, kk⟩ := hIj.cell (get_fst hjc)
      have HLA := Lib.hid hLA
      subst hLA
      obtain ⟨k, hkn, hkc⟩ := HAT.out j hjc
      have hBr : Below w.heap.size w wr := HBw.out.trans (hF.toBelow (fun x hx => by rcases hx with hx | hx <;> omega) (by omega))
      have hRr := HR4.out.fr hF (fun e => by rcases e with e | e <;> omega)
      have CSZ := Size_any lg pg en gn A n cap ks wr (H.out.below hBr) hn (k : Int)
      rw [sizeK_at (by rw [HNL.out]; exact hkn)] at CSZ
      obtain ⟨z, hz⟩ : ∃ z, z = zsK ks k := ⟨_, rfl⟩
      rw [← hz] at CSZ hkc
      rw [hkc] at kk
      simp only at kk
      have HKC := Lib.hid hkc
      have HRr := Lib.hid hRr
      have CSZ := Lib.hid CSZ
      have HIr := Lib.hid hI
      have HFr := Lib.hid hF
      have HTw := Lib.hid hTw
      clear hI hF hTw hIj hBr hRr hkc hz
      go_wp2_with (first
        | (with_reducible refine wpList_ldS confT rfl rfl (.tmp 2) rfl rfl HRr.out ?_)
        | (go_at_call 80; refine CSZ.out.mono ?_; rintro e w5 ⟨rfl, hb5⟩; have I5 := Lib.hid (HIr.out.below hb5); have HB5 := Lib.hid hb5; have c2 := I5.out.c2; clear hb5))
      have hld : Below w5.heap.size w5 w5.drew := (Below.refl _ _).drew
      have I5d := Lib.hid (I5.out.below hld)
      have s5 : w5.drew.cell? ⟨w2.heap.size + 1, 2, none⟩ = some (.map (some w2.heap.size)) := I5d.out.c2
      have hlj : (cs.take j).length = j := by rw [List.length_take]; omega
      have hnk : (k : Int) ∉ (cs.take j).map (·.1) := by
        have hg := get_fst hjc
        rw [HKC.out] at hg
        have := nodup_take HND.out hg
        rwa [List.map_take]
      have hk64 : 0 ≤ (k : Int) ∧ (k : Int) < 64 := by
        have := HCZ.out cs[j] (List.getElem_mem hjc)
        have e : cs.getD j (0, 0) = cs[j] := by simp [List.getD, List.getElem?_eq_getElem hjc]
        rw [← e, HKC.out] at this
        exact this
      have htk : cs.take (j + 1) = cs.take j ++ [((k : Int), (min (max z 0) 64).toNat)] := by rw [getD_take hjc, HKC.out]
      have hco : ∀ a, (if a = (cs.take j).length then Co.new z else noCo cs a) = noCo cs a := fun a => by
        rw [hlj]
        by_cases ha : a = j
        · subst ha
          rw [if_pos rfl]
          unfold noCo
          rw [HKC.out]
          rfl
        · rw [if_neg ha]
      have HLJ := Lib.hid hlj
      have HNK := Lib.hid hnk
      have HK64 := Lib.hid hk64
      have HTK := Lib.hid htk
      have HCO := Lib.hid hco
      clear hlj hnk hk64 htk hco c2 hld
-- REGION6
      refine wp_region_noPanic ?_
      refine wp_region_held_drew (S := fun W => W.cell? ⟨w2.heap.size + 1, 2, none⟩ = some (.map (some w2.heap.size))) (by kernel_rfl) s5 (fun hHeld => ?_)
      refine wpAnyH_take (i := 0) (oi := { dst := some 33, op := Op.move (Operand.tmp 5), type := 108, pos := "table.go:25", after := #[], guard := none }) (v := ?_) rfl (by kernel_rfl) (by kernel_rfl) (by kernel_rfl) (fun _ _ _ h => h) (Or.inl ⟨by rfl, ?_⟩) (by assumption) ?_
      rotate_left 1
      · intro w' hSw; (try dsimp only at hSw); go_simp; (try with_reducible rfl)
      simp only [Act.put, List.setIfInBounds_toArray, List.set_cons_zero, List.set_cons_succ]
      refine wpAnyH_take (i := 1) (oi := { dst := some 34, op := Op.nilCheck (Operand.tmp 33), type := 0, pos := "table.go:25", after := #[{ on := 0, ground := Ground.data }], guard := none }) (v := ?_) rfl (by kernel_rfl) (by kernel_rfl) (by kernel_rfl) (fun _ _ _ h => h) (Or.inl ⟨by rfl, ?_⟩) (by assumption) ?_
      rotate_left 1
      · intro w' hSw; (try dsimp only at hSw); go_simp; (try with_reducible rfl)
      simp only [Act.put, List.setIfInBounds_toArray, List.set_cons_zero, List.set_cons_succ]
      refine wpAnyH_take (i := 2) (oi := { dst := some 35, op := Op.fieldAddr 185 (Operand.tmp 34) 2, type := 0, pos := "table.go:25", after := #[{ on := 1, ground := Ground.data }], guard := none }) (v := ?_) rfl (by kernel_rfl) (by kernel_rfl) (by kernel_rfl) (fun _ _ _ h => h) (Or.inl ⟨by rfl, ?_⟩) (by assumption) ?_
      rotate_left 1
      · intro w' hSw; (try dsimp only at hSw); go_simp; (try with_reducible rfl)
      simp only [Act.put, List.setIfInBounds_toArray, List.set_cons_zero, List.set_cons_succ]
      refine wpAnyH_take (i := 3) (oi := { dst := some 36, op := Op.load 183 (Operand.tmp 35), type := 183, pos := "table.go:25", after := #[{ on := 2, ground := Ground.data }], guard := none }) (v := ?_) rfl (by kernel_rfl) (by kernel_rfl) (by kernel_rfl) (fun _ _ _ h => h) (Or.inl ⟨by rfl, ?_⟩) (by assumption) ?_
      rotate_left 1
      · intro w' hSw; (try dsimp only at hSw); go_simp; (try with_reducible rfl)
      simp only [Act.put, List.setIfInBounds_toArray, List.set_cons_zero, List.set_cons_succ]
      refine wpAnyH_take (i := 4) (oi := { dst := some 37, op := Op.move (Operand.tmp 7), type := 3, pos := "table.go:25", after := #[], guard := none }) (v := ?_) rfl (by kernel_rfl) (by kernel_rfl) (by kernel_rfl) (fun _ _ _ h => h) (Or.inl ⟨by rfl, ?_⟩) (by assumption) ?_
      rotate_left 1
      · intro w' hSw; (try dsimp only at hSw); go_simp; (try with_reducible rfl)
      simp only [Act.put, List.setIfInBounds_toArray, List.set_cons_zero, List.set_cons_succ]
      refine wpAnyH_take (i := 5) (oi := { dst := some 38, op := Op.move (Operand.tmp 8), type := 3, pos := "table.go:25", after := #[], guard := none }) (v := ?_) rfl (by kernel_rfl) (by kernel_rfl) (by kernel_rfl) (fun _ _ _ h => h) (Or.inl ⟨by rfl, ?_⟩) (by assumption) ?_
      rotate_left 1
      · intro w' hSw; (try dsimp only at hSw); go_simp; (try with_reducible rfl)
      simp only [Act.put, List.setIfInBounds_toArray, List.set_cons_zero, List.set_cons_succ]
      refine wpAnyH_ready (rs := [6]) (by kernel_rfl) (by simp) ?_
      refine AllReadyH.cons (o := { dst := some 39, op := Op.call { callee := Callee.value (Operand.func 168), args := #[Operand.tmp 38], argTypes := #[3] }, type := 187, pos := "table.go:25", after := #[{ on := 5, ground := Ground.data }], guard := none }) rfl (fun K' hK => ?_) AllReadyH.nil
      go_simp
      go_at_call 168; refine (ClNew_any z w5.drew).mono ?_; rintro e w6 ⟨rfl, hb6, hlt6, hc6⟩
      have I6 := Lib.hid (I5d.out.below hb6)
      have s6 := I6.out.c2
      have HB6 := Lib.hid hb6
      have HC6 := Lib.hid hc6
      clear hb6 hc6
      refine hK.out _ _ s6 (fun hHeld => ?_)
      clear hK K'
      try simp only [Act.put, List.setIfInBounds_toArray, List.set_cons_zero, List.set_cons_succ]
      refine wpAnyH_ready (rs := [7]) (by kernel_rfl) (by simp) ?_
      refine AllReadyH.cons (o := { dst := none, op := Op.mapUpdate 183 (Operand.tmp 36) (Operand.tmp 37) (Operand.tmp 39), type := 0, pos := "table.go:25", after := #[{ on := 3, ground := Ground.data }, { on := 4, ground := Ground.data }, { on := 6, ground := Ground.data }, { on := 6, ground := Ground.chain }, { on := 0, ground := Ground.phase }, { on := 1, ground := Ground.phase }, { on := 2, ground := Ground.phase }, { on := 3, ground := Ground.phase }, { on := 4, ground := Ground.phase }, { on := 5, ground := Ground.phase }, { on := 6, ground := Ground.phase }], guard := none }) rfl (fun K' hK => ?_) AllReadyH.nil
      refine step_putZ (z := .pointer none) (m := w2.heap.size) (n := (cs.take j).length) (f := colAt (cs.take j) q) Tryz.underlying3 Tryz.underlying183 (by rfl) (.tmp 36) (.tmp 37) (.tmp 39) rfl I6.out.mp (by rw [HLJ.out]; omega) (i := (k : Int)) (by have := HK64.out; omega) (.pointer (some ⟨w5.heap.size, 0, none⟩)) rfl rfl rfl ?_
      intro w7 hm7 hg7
      obtain ⟨tag7, hI7, hT7⟩ := I5d.out.more (z := (min (max z 0) 64).toNat) HB6.out hlt6 HC6.out HNK.out HK64.out (by rw [colAt_none HNK.out]; rfl) hm7 hg7
      have s7 := hI7.c2
      rw [← HTK.out] at hI7
      have I7 := Lib.hid (hI7.congr (co' := noCo cs) (fun a _ => HCO.out a))
      have F7 := Lib.hid ((HFr.out.trans (Fr.ofBelow _ (HB5.out.trans (((Below.refl _ _).drew.trans HB6.out).mono HB5.out.size)))).trans (Fr.grown hg7 (fun x hx => by injection hx with hx; exact .inl ⟨Nat.le_of_eq hx, by omega⟩)))
      have T7 := Lib.hid (show ∀ x, tag7 x ≠ 0 → Two w2.heap.size (w2.heap.size + 2) w4.heap.size x from fun x hx => by rcases hT7 x hx with h1 | h1; exact HTw.out x h1; have := HB5.out.size; exact .inr (Nat.le_trans hss (Nat.le_trans this h1)))
      clear hm7 hg7 hI7 hT7
      refine hK.out _ _ s7 (fun hHeld => ?_)
      clear hK K'
      try simp only [Act.put]
      refine wpAnyH_done (by kernel_rfl) ?_ _
      refine NoPanic.normal ?_
      clear s5 s6 s7 hHeld
-- END6
      go_wp2
      go_roundw
      case rel => exact ⟨j + 1, _, _, hjn, by go_num, I7.out, F7.out, T7.out⟩
      case measure => simp [intOf]; omega
    · obtain rfl : j = nc := by omega
      have e1 : cs.take j = cs := List.take_of_length_le (by rw [← HNC.out]; exact Nat.le_refl _)
      rw [e1] at hI
      have HBr := Lib.hid (HBw.out.trans (hF.toBelow (fun x hx => by rcases hx with hx | hx <;> omega) (by omega)))
      have HIr := Lib.hid hI
      clear hI hF hTw e1
      go_wp2
      go_ret
      exact ⟨_, rfl, ⟨_, _, _, HIr.out⟩, HBr.out⟩
end
end Go.Proofs.YtddiadpbkjdomaaGreatDoor
namespace Go.Proofs.YtddiadpbkjdomaaGreatDoor
open Go.RowKit
set_option maxRecDepth 20000

/-- Bytes that are not as many as all rows have. -/
theorem ClLoad_no (z r : Nat) (hz : z ≤ 64) (hr : r ≤ 1024) (A : Option Addr) (n c : Nat) (hn : n ≠ r * z) (w : World) :
    Calls Tryz.prog 126 #[.int .i64 z, .int .i64 r, .slice A n c] w fun e w' => e = .returned (.tuple #[.pointer none, .int .i64 11]) ∧ Below w.heap.size w w' := by
  obtain ⟨pz, hpz⟩ : ∃ pz, pz = r * z := ⟨_, rfl⟩
  have hps : pz ≤ 65536 := by rw [hpz]; exact Nat.le_trans (Nat.mul_le_mul hr hz) (by decide)
  rw [← hpz] at hn
  have hp : (r : Int) * (z : Int) = (pz : Int) := by rw [hpz]; push_cast; rfl
  have e1 : (Co.new (z : Int)).sz = z := by show (min (max (z : Int) 0) 64).toNat = z; omega
  have d1 : decide ((n : Int) = (pz : Int)) = false := decide_eq_false (by omega)
  have d2 : decide (n = pz) = false := decide_eq_false hn
  have d5 : ((n : Int) != (pz : Int)) = true := bne_iff_ne.2 (by omega)
  have d6 : decide ((r : Int) < 0) = false := decide_eq_false (by omega)
  have d7 : decide ((1024 : Int) < (r : Int)) = false := decide_eq_false (by omega)
  clear hpz
  go_enter Tryz.func126, Tryz.ntmps126
  go_wp2_with (first
    | (go_at_call 168; refine (ClNew_any (z : Int) w).mono ?_; rintro e w1 ⟨rfl, hB1, hlt1, hC1⟩; have c0 := hC1.c0; rw [e1] at c0; have HB1 := Lib.hid hB1; clear hB1 hC1))
  go_ret2
  exact ⟨rfl, HB1.out⟩

theorem colAt_swap {cs : List (Int × Nat)} {q : Nat → Nat} {b j : Nat} (nd : (cs.map (·.1)).Nodup) (hj : j < cs.length) (i : Int) :
    (if i = (cs.getD j (0, 0)).1 then some (Value.pointer (some ⟨b, 0, none⟩)) else colAt cs q i) = colAt cs (fun a => if a = j then b else q a) i := by
  by_cases hi : i = (cs.getD j (0, 0)).1
  · subst hi
    rw [if_pos rfl, colAt_at nd hj, if_pos rfl]
  · rw [if_neg hi]
    unfold colAt
    cases hf : cs.findIdx? fun c => decide (c.1 = i) with
    | none => rfl
    | some a =>
      have ha := Tb.at_lt (t := ⟨cs, []⟩) (comp := i) (k := a) hf
      have hne : a ≠ j := fun e => hi (by rw [← ha.2, e])
      simp [hne]
section
variable {w w6 w7 : World} {N : Nat} {tag : Nat → Nat} {p m : Nat} {v : Value} {q : Nat → Nat} {sg : Nat} {cs : List (Int × Nat)} {l : List (Int × Int)} {co : Nat → Co}
/-- One column is another. -/
theorem TbI.swap (h : TbI w N tag p m v q sg cs l co) {j : Nat} (hj : j < cs.length) (hb : Below w.heap.size w w6) {s : Co} {b : Nat} {u : Value} (hc : ClAt w6 (fun x => w.heap.size ≤ x ∧ x < w6.heap.size) b u s) {nm : Nat} (hnm : nm = cs.length)
    (hm : MapZ Tryz.prog 3 (.pointer none) w7 m nm (fun i => if i = (cs.getD j (0, 0)).1 then some (.pointer (some ⟨b, 0, none⟩)) else colAt cs q i)) (hg : w6.grownBy w7 (some m)) :
    ∃ tag', TbI w7 N tag' p m v (fun a => if a = j then b else q a) sg cs l (fun a => if a = j then s else co a) ∧ (∀ x, tag' x ≠ 0 → tag x ≠ 0 ∨ w.heap.size ≤ x) := by
  have h6 := h.below hb
  have hF : Fr (· = m) w6 w7 := Fr.grown hg (fun x hx => by injection hx with hx; exact hx.symm)
  have hs7 := hF.size
  have hN := h.Nle
  have kp : ∀ x, tag x ≠ 0 → (if x < w.heap.size then tag x else if x < w6.heap.size then j + 4 else 0) = tag x := fun x hx => if_pos (h.dom x hx)
  have hmlt := h.mp.lt
  refine ⟨fun x => if x < w.heap.size then tag x else if x < w6.heap.size then j + 4 else 0, ⟨h6.blk.fr hF (fun e => by have := h.tp; rw [show p = m from e, h.tm] at this; omega), own_fr h6.ids hF (fun x hx e => by have := h.ti x hx; rw [show x = m from e, h.tm] at this; omega), ?_, fun i hi => ?_, ?_, ?_, fun x hx => ?_, fun x hx => ?_, fun x hx => ?_, h.cz, h.nd⟩, fun x hx => ?_⟩
  · rw [← hnm]
    exact hm.congr fun i => colAt_swap h.nd hj i
  · by_cases hij : i = j
    · subst hij
      simp only [if_true]
      refine ⟨u, (hc.kept hF (fun x hx e => by have e1 : x = m := e; omega)).mono fun x hx => ?_⟩
      show (if x < w.heap.size then tag x else if x < w6.heap.size then i + 4 else 0) = i + 4
      rw [if_neg (by omega), if_pos hx.2]
    · simp only [if_neg hij]
      obtain ⟨u', hu'⟩ := h6.col i hi
      refine ⟨u', (hu'.kept hF (fun x hx e => by have e' : x = m := e; rw [e', h.tm] at hx; omega)).mono fun x hx => ?_⟩
      show (if x < w.heap.size then tag x else if x < w6.heap.size then j + 4 else 0) = i + 4
      rw [kp x (by rw [hx]; omega), hx]
  · show (if p < w.heap.size then tag p else _) = 1
    rw [if_pos h.blk.lt, h.tp]
  · show (if m < w.heap.size then tag m else _) = 2
    rw [if_pos hmlt, h.tm]
  · show (if x < w.heap.size then tag x else _) = 3
    rw [if_pos (h.dom x (by rw [h.ti x hx]; decide)), h.ti x hx]
  · have hx' : (if x < w.heap.size then tag x else if x < w6.heap.size then j + 4 else 0) ≠ 0 := hx
    have := hb.size
    split at hx'
    · omega
    · split at hx'
      · omega
      · exact absurd rfl hx'
  · have hx' : (if x < w.heap.size then tag x else if x < w6.heap.size then j + 4 else 0) ≠ 0 := hx
    split at hx'
    · exact h.lo x hx'
    · omega
  · have hx' : (if x < w.heap.size then tag x else if x < w6.heap.size then j + 4 else 0) ≠ 0 := hx
    split at hx'
    · exact .inl hx'
    · exact .inr (by omega)
end

section
variable (lg pg en gn : Int) (A : Option Addr) (n cap : Nat) (ks : List Kd) (w : World)
/-- What may not be loaded by its outer form. -/
theorem TLoad_no (h : KRd w A n ks) (hn : n ≤ 1000000) (s : Nat) (hs : s < 18446744073709551616) (hT : TabAt w) (IA : Option Addr) (m ic : Nat) (CA : Option Addr) (cn cx : Nat) (hm : m ≤ 1000000) (hc : cn ≤ 1000000)
    (hbad : ¬ (s &&& ofL (idxs n) 64 = s ∧ cn = (Tb.new n (zsK ks) s).cs.length ∧ m ≤ 1024)) :
    Calls Tryz.prog 69 #[cv lg pg en gn A n cap, .int .u64 (s : Nat), .slice IA m ic, .slice CA cn cx] w fun e w' => e = .returned (.tuple #[.pointer none, .int .i64 11]) ∧ Below w.heap.size w w' := by
  obtain ⟨w1, hw1⟩ : ∃ w1, w1 = w.alloc (.cells (cc lg pg en gn A n cap) 24) := ⟨_, rfl⟩
  have hb1 : Below w.heap.size w w1 := by rw [hw1]; exact (Below.refl _ _).alloc (Nat.le_refl _) _
  have HR1 := Lib.hid (show Rec 24 w1 w.heap.size (cc lg pg en gn A n cap) by rw [hw1]; exact Rec.new _ _ _)
  have CN := TNew_any lg pg en gn A n cap ks w1 (h.below hb1) hn s hs (hT.below hb1)
  obtain ⟨sg, hsg⟩ : ∃ sg, sg = s &&& ofL (idxs n) 64 := ⟨_, rfl⟩
  obtain ⟨cs, hcs⟩ : ∃ cs, cs = (Tb.new n (zsK ks) s).cs := ⟨_, rfl⟩
  rw [← hsg, ← hcs] at CN hbad
  have CN := Lib.hid CN
  have HB1 := Lib.hid hb1
  clear h hT hb1 hsg hcs hs
  by_cases h1 : sg = s
  · subst h1
    by_cases h2 : cn = cs.length
    · subst h2
      have h3 : ¬ m ≤ 1024 := fun h => hbad ⟨rfl, rfl, h⟩
      have d3 : decide ((1024 : Int) < (m : Int)) = true := decide_eq_true (by omega)
      have d4 : decide (1024 < m) = true := decide_eq_true (by omega)
      obtain ⟨nc, hnc⟩ : ∃ nc, nc = cs.length := ⟨_, rfl⟩
      rw [← hnc] at hc ⊢
      have HNC := Lib.hid hnc
      clear hbad hnc
      go_enter Tryz.func69, Tryz.ntmps69
      go_wp2_with (first
        | (rw [← hw1]; clear hw1)
        | (with_reducible refine wpList_ldS confT rfl rfl (.tmp 4) rfl rfl HR1.out ?_)
        | (go_at_call 125; refine CN.out.mono ?_; rintro e w2 ⟨p, mm, q, tag, rfl, hI, hb2⟩; have c0 := hI.c0; have c2 := hI.c2; have CL := hI.clen 3; rw [← HNC.out] at CL; have HB2 := Lib.hid hb2; clear hI hb2))
      go_ret2
      exact ⟨rfl, HB1.out.trans (HB2.out.mono HB1.out.size)⟩
    · obtain ⟨nc, hnc⟩ : ∃ nc, nc = cs.length := ⟨_, rfl⟩
      rw [← hnc] at h2
      have HNC := Lib.hid hnc
      have d3 : decide ((cn : Int) = (nc : Int)) = false := decide_eq_false (by omega)
      have d4 : decide (cn = nc) = false := decide_eq_false h2
      clear hbad hnc
      go_enter Tryz.func69, Tryz.ntmps69
      go_wp2_with (first
        | (rw [← hw1]; clear hw1)
        | (with_reducible refine wpList_ldS confT rfl rfl (.tmp 4) rfl rfl HR1.out ?_)
        | (go_at_call 125; refine CN.out.mono ?_; rintro e w2 ⟨p, mm, q, tag, rfl, hI, hb2⟩; have c0 := hI.c0; have c2 := hI.c2; have CL := hI.clen 3; rw [← HNC.out] at CL; have HB2 := Lib.hid hb2; clear hI hb2))
      go_ret2
      exact ⟨rfl, HB1.out.trans (HB2.out.mono HB1.out.size)⟩
  · have d3 : decide ((sg : Int) = (s : Int)) = false := decide_eq_false (by omega)
    have d4 : decide (sg = s) = false := decide_eq_false h1
    clear hbad
    go_enter Tryz.func69, Tryz.ntmps69
    go_wp2_with (first
      | (rw [← hw1]; clear hw1)
      | (with_reducible refine wpList_ldS confT rfl rfl (.tmp 4) rfl rfl HR1.out ?_)
      | (go_at_call 125; refine CN.out.mono ?_; rintro e w2 ⟨p, mm, q, tag, rfl, hI, hb2⟩; have c0 := hI.c0; have HB2 := Lib.hid hb2; clear hI hb2))
    go_ret2
    exact ⟨rfl, HB1.out.trans (HB2.out.mono HB1.out.size)⟩
end
end Go.Proofs.YtddiadpbkjdomaaGreatDoor
namespace Go.Proofs.YtddiadpbkjdomaaGreatDoor
open Go.RowKit
set_option maxRecDepth 20000

/-- m rows of z bytes out of b. -/
def chunks (m z : Nat) (b : List UInt8) : List (List UInt8) := (List.range m).map fun i => (b.drop (i * z)).take z
/-- The columns that these bytes make. -/
def coOf (cs : List (Int × Nat)) (m : Nat) (cols : List (List UInt8)) (j : Nat) : Co := ⟨(cs.getD j (0, 0)).2, chunks m (cs.getD j (0, 0)).2 (cols.getD j [])⟩
theorem chunks_len {m z : Nat} {b : List UInt8} (h : b.length = m * z) : ∀ r ∈ chunks m z b, r.length = z := by
  intro r hr
  obtain ⟨i, hi, rfl⟩ := List.mem_map.1 hr
  have hi := List.mem_range.1 hi
  rw [List.length_take, List.length_drop, h]
  have : (i + 1) * z ≤ m * z := Nat.mul_le_mul_right z hi
  rw [Nat.succ_mul] at this
  omega
theorem chunks_flat : ∀ (m z : Nat) (b : List UInt8), b.length = m * z → (chunks m z b).flatten = b
  | 0, z, b, h => by rw [Nat.zero_mul] at h; rw [List.eq_nil_of_length_eq_zero h]; rfl
  | m + 1, z, b, h => by
    have hb : (b.take (m * z)).length = m * z := by rw [List.length_take, h, Nat.succ_mul]; omega
    have ih := chunks_flat m z (b.take (m * z)) hb
    have e : chunks m z (b.take (m * z)) = chunks m z b := by
      unfold chunks
      refine List.map_congr_left fun i hi => ?_
      have hi := List.mem_range.1 hi
      have : (i + 1) * z ≤ m * z := Nat.mul_le_mul_right z hi
      rw [Nat.succ_mul] at this
      rw [List.drop_take, List.take_take, Nat.min_eq_left (by omega)]
    rw [e] at ih
    unfold chunks at ih ⊢
    rw [List.range_succ, List.map_append, List.flatten_append, ih]
    simp only [List.map_cons, List.map_nil, List.flatten_cons, List.flatten_nil, List.append_nil]
    rw [List.take_of_length_le (l := b.drop (m * z)) (by rw [List.length_drop, h, Nat.succ_mul]; omega), List.take_append_drop]
theorem coOf_ok {cs : List (Int × Nat)} {m : Nat} {cols : List (List UInt8)} {j : Nat} (hz : (cs.getD j (0, 0)).2 ≤ 64) (hm : m ≤ 1024) (h : (cols.getD j []).length = m * (cs.getD j (0, 0)).2) : (coOf cs m cols j).Ok where
  z := hz
  n := by show (chunks _ _ _).length ≤ 1024; unfold chunks; simp; exact hm
  each := chunks_len h
theorem coOf_bytes {cs : List (Int × Nat)} {m : Nat} {cols : List (List UInt8)} {j : Nat} (h : (cols.getD j []).length = m * (cs.getD j (0, 0)).2) : (coOf cs m cols j).bytes = cols.getD j [] := chunks_flat _ _ _ h
theorem coOf_rows (cs : List (Int × Nat)) (m : Nat) (cols : List (List UInt8)) (j : Nat) : (coOf cs m cols j).rows.length = m := by show (chunks _ _ _).length = m; unfold chunks; simp
/-- As many bytes as all rows have. -/
def colsFit (cs : List (Int × Nat)) (m : Nat) (cols : List (List UInt8)) (j : Nat) : Prop := ∀ i, i < j → (cols.getD i []).length = m * (cs.getD i (0, 0)).2

section
variable (lg pg en gn : Int) (A : Option Addr) (n cap : Nat) (ks : List Kd) (w : World)
theorem TLoad_any {K K' : Nat → Prop} (h : KRd w A n ks) (hn : n ≤ 1000000) (s : Nat) (hs : s < 18446744073709551616) (hT : TabAt w) (IA : Option Addr) (ic : Nat) (ids : List (Int × Int)) (CA : Option Addr) (cx : Nat) (cols : List (List UInt8))
    (cs : List (Int × Nat)) (hcs : cs = (Tb.new n (zsK ks) s).cs) (hi : IdsV K w IA ids.length ids) (hc : RowsV K' w CA cs.length cols) (hs1 : s &&& ofL (idxs n) 64 = s) (hm : ids.length ≤ 1024) :
    Calls Tryz.prog 69 #[cv lg pg en gn A n cap, .int .u64 (s : Nat), .slice IA ids.length ic, .slice CA cs.length cx] w fun e w' => Below w.heap.size w w' ∧
      ((colsFit cs ids.length cols cs.length ∧ ∃ p m v q tag, e = .returned (.tuple #[.pointer (some ⟨p, 0, none⟩), .int .i64 0]) ∧ TbI w' w.heap.size tag p m v q s cs ids (coOf cs ids.length cols)) ∨
       (¬ colsFit cs ids.length cols cs.length ∧ e = .returned (.tuple #[.pointer none, .int .i64 11]))) := by
  have hcnew := Tb.new_ok n (zsK ks) s
  have hcl : cs.length ≤ 64 := by rw [hcs]; exact hcnew.cn
  have hz64 : ∀ j, j < cs.length → (cs.getD j (0, 0)).2 ≤ 64 := fun j hj => by
    have e : cs.getD j (0, 0) = cs[j] := by simp [List.getD, List.getElem?_eq_getElem hj]
    rw [e]
    refine hcnew.z _ ?_
    rw [← hcs]
    exact List.getElem_mem hj
  have hzs := new_cs n (zsK ks) s
  rw [hs1, ← hcs] at hzs
  obtain ⟨w1, hw1⟩ : ∃ w1, w1 = w.alloc (.cells (cc lg pg en gn A n cap) 24) := ⟨_, rfl⟩
  have hb1 : Below w.heap.size w w1 := by rw [hw1]; exact (Below.refl _ _).alloc (Nat.le_refl _) _
  have HR1 := Lib.hid (show Rec 24 w1 w.heap.size (cc lg pg en gn A n cap) by rw [hw1]; exact Rec.new _ _ _)
  have CN := TNew_any lg pg en gn A n cap ks w1 (h.below hb1) hn s hs (hT.below hb1)
  rw [hs1, ← hcs] at CN
  have CN := Lib.hid CN
  have HB1 := Lib.hid hb1
  have HT := Lib.hid hT
  have HIds := Lib.hid hi
  have HC := Lib.hid hc
  have HZ64 := Lib.hid hz64
  obtain ⟨nc, hnc⟩ : ∃ nc, nc = cs.length := ⟨_, rfl⟩
  obtain ⟨m, hmm⟩ : ∃ m, m = ids.length := ⟨_, rfl⟩
  rw [← hnc] at hcl ⊢
  rw [← hmm] at hm ⊢
  have HNC := Lib.hid hnc
  have HM := Lib.hid hmm
  have d3 : decide ((1024 : Int) < (m : Int)) = false := decide_eq_false (by omega)
  have d4 : decide (1024 < m) = false := decide_eq_false (by omega)
  clear h hT hb1 hs1 hi hc hz64 hnc hmm hcs hcnew
  go_enter Tryz.func69, Tryz.ntmps69
  go_wp2_with (first
    | (rw [← hw1]; clear hw1)
    | (with_reducible refine wpList_ldS confT rfl rfl (.tmp 4) rfl rfl HR1.out ?_)
    | (go_at_call 125; refine CN.out.mono ?_; rintro e w2 ⟨p, mm, q, tag, rfl, hI, hb2⟩; have c0 := hI.c0; have c2 := hI.c2; have CL := hI.clen 3; rw [← HNC.out] at CL; have HB2 := Lib.hid hb2; have HI2 := Lib.hid hI; clear hI hb2)
    | (go_at_call 107; refine (tlist_any hzs hs (HT.out.below (HB1.out.trans (HB2.out.mono HB1.out.size)))).mono ?_; rintro e w3 ⟨LA, lc, rfl, hLI, hb3⟩; rw [← HNC.out] at hLI ⊢; have HLI := Lib.hid hLI; have HB3 := Lib.hid hb3; clear hLI hb3 c0 c2 CL))
  have hs1 := HB1.out.size
  have hs2 := HB2.out.size
  have hs3 := HB3.out.size
  have HB0 := Lib.hid (HB1.out.trans ((HB2.out.trans (HB3.out.mono HB2.out.size)).mono HB1.out.size))
  have H3 := Lib.hid ({ HI2.out.below HB3.out with lo := fun x hx => Nat.le_trans hs1 (HI2.out.lo x hx) } : TbI w3 w.heap.size tag p mm nilv q s cs [] (noCo cs))
  have HT3 := Lib.hid (show ∀ x, tag x ≠ 0 → Two w.heap.size w2.heap.size w3.heap.size x from fun x hx => .inl ⟨Nat.le_trans hs1 (HI2.out.lo x hx), HI2.out.dom x hx⟩)
  clear HI2 HB1 HB2 HB3 CN HR1
  go_loopw [42] (fun iv wr => ∃ (j : Nat) (q' tag' : Nat → Nat), j ≤ nc ∧ iv = .int .i64 j ∧ TbI wr w.heap.size tag' p mm nilv q' s cs [] (fun a => if a < j then coOf cs m cols a else noCo cs a) ∧ colsFit cs m cols j ∧ Fr (Two w.heap.size w2.heap.size w3.heap.size) w3 wr ∧ (∀ x, tag' x ≠ 0 → Two w.heap.size w2.heap.size w3.heap.size x)) (fun iv _ => nc - (intOf iv).toNat)
  case atStart => exact ⟨0, q, tag, Nat.zero_le _, rfl, H3.out.congr (fun a _ => by rw [if_neg (Nat.not_lt_zero a)]), fun i hi => absurd hi (Nat.not_lt_zero i), Fr.refl _ _, HT3.out⟩
  case round =>
    obtain ⟨j, q', tag', hj, rfl, hI, hfit, hF, hTw⟩ := hrel
    have hss := hF.size
    have hBw : Below w.heap.size w wr := HB0.out.trans (hF.toBelow (fun x hx => by rcases hx with hx | hx <;> omega) (by omega))
    by_cases hjn : j < nc
    · have hjc : j < cs.length := by rw [← HNC.out]; exact hjn
      have hIj := HLI.out.stays (w' := wr) ⟨hss, fun x hx => hF.block x hx.2 (fun h2 => by rcases h2 with h2 | h2 <;> omega)⟩
      obtain ⟨b, o, hLA, hblt, kk⟩ := hIj.cell (get_fst hjc)
      have HLA := Lib.hid hLA
      subst hLA
      have hrv := HC.out.below hBw
      rw [← HNC.out] at hrv
      obtain ⟨b2, o2, u, hCA, _, hb2lt, k2, hu⟩ := hrv.atK hjn
      have HCA := Lib.hid hCA
      subst hCA
      have hld : Below wr.heap.size wr wr.drew := (Below.refl _ _).drew
      have hId := hI.below hld
      have c2 := hId.c2
      have LK := hId.look hjc
      obtain ⟨cu, hcu⟩ := hId.col j hjc
      simp only [if_neg (Nat.lt_irrefl j)] at hcu
      have CS := ClSize_any hcu
      have hzz := HZ64.out j hjc
      obtain ⟨DA, dm, dc, rfl, hr, _⟩ := id (hu.below hld)
      have hdl := hr.1
      obtain ⟨k, hkk⟩ : ∃ k, k = (cs.getD j (0, 0)).1 := ⟨_, rfl⟩
      obtain ⟨z, hz⟩ : ∃ z, z = (cs.getD j (0, 0)).2 := ⟨_, rfl⟩
      have CS : Calls Tryz.prog 127 #[.pointer (some ⟨q' j, 0, none⟩)] wr.drew fun e w' => e = .returned (.int .i64 (z : Nat)) ∧ wr.drew = w' := by rw [hz]; exact CS
      rw [← hkk] at kk LK
      rw [← hz] at hzz
      have kd := (hld.cell (p := ⟨b2, o2 + j, none⟩) hb2lt).trans k2
      have S0 : wr.drew.cell? ⟨p, 2, none⟩ = some (.map (some mm)) ∧ (Instr.lookup 183 (.map (some mm)) (.int .i64 k) false).run Tryz.prog wr.drew = .ok (.pointer (some ⟨q' j, 0, none⟩)) wr.drew ∧ wr.drew.cell? ⟨b2, o2 + j, none⟩ = some (.slice DA dm dc) := ⟨c2, LK, kd⟩
      have CS := Lib.hid CS
      have HId := Lib.hid hId
      have HF := Lib.hid hF
      have HTw := Lib.hid hTw
      have HKK := Lib.hid hkk
      have HFIT := Lib.hid hfit
      have HBw := Lib.hid hBw
      by_cases hf : (cols.getD j []).length = m * z
      · have hlo : ∀ (_ : True), Calls Tryz.prog 126 #[.int .i64 (z : Nat), .int .i64 (m : Nat), .slice DA dm dc] wr.drew fun e w' => e = .returned (.tuple #[.pointer (some ⟨wr.drew.heap.size, 0, none⟩), .int .i64 0]) ∧ Below wr.drew.heap.size wr.drew w' ∧ ∃ v, ClAt w' (fun x => wr.drew.heap.size ≤ x ∧ x < w'.heap.size) wr.drew.heap.size v (coOf cs m cols j) := fun _ => by
          have hf' : (cols.getD j []).length = m * (cs.getD j (0, 0)).2 := by rw [← hz]; exact hf
          have := Load_ok (z : Int) (coOf cs m cols j) (coOf_ok (by rw [← hz]; exact hzz) hm hf') (by show (cs.getD j (0, 0)).2 = (min (max (z : Int) 0) 64).toNat; rw [← hz]; omega) DA dm dc (by rw [coOf_bytes hf']; exact hr)
          rw [coOf_rows] at this
          exact this
        have CLO := Lib.hid (hlo trivial)
        have hfit' : colsFit cs m cols (j + 1) := fun i hi => by
          by_cases e : i = j
          · subst e; rw [← hz]; exact hf
          · exact hfit i (by omega)
        have HFIT' := Lib.hid hfit'
        have hcn0 : colAt cs q' k = some (.pointer (some ⟨q' j, 0, none⟩)) := by rw [hkk]; exact colAt_at hId.nd hjc
        have HCN := Lib.hid hcn0
        have hk64 : 0 ≤ k ∧ k < 64 := by
          have e : cs.getD j (0, 0) = cs[j] := by simp [List.getD, List.getElem?_eq_getElem hjc]
          rw [hkk, e]
          exact hId.cz _ (List.getElem_mem hjc)
        have HK64 := Lib.hid hk64
        clear hI hF hTw hIj hrv hu hld hcu hr hkk hz hfit hlo hfit' hcn0 hk64 hId c2 LK hdl hf hBw
        go_wp2
        go_region_held3 (fun W => W.cell? ⟨p, 2, none⟩ = some (.map (some mm)) ∧ (Instr.lookup 183 (.map (some mm)) (.int .i64 k) false).run Tryz.prog W = .ok (.pointer (some ⟨q' j, 0, none⟩)) W ∧ W.cell? ⟨b2, o2 + j, none⟩ = some (.slice DA dm dc)) (first | exact S0 | exact S5)
          ((first
            | (go_at_call 127; refine CS.out.mono ?_; rintro e w5 ⟨rfl, rfl⟩)
            | (go_at_call 126; refine CLO.out.mono ?_; rintro e w5 ⟨rfl, hb5, cv5, hc5⟩; have I5 := HId.out.below hb5; have L5 := I5.look hjc; rw [← HKK.out] at L5; have S5 : w5.cell? ⟨p, 2, none⟩ = some (.map (some mm)) ∧ (Instr.lookup 183 (.map (some mm)) (.int .i64 k) false).run Tryz.prog w5 = .ok (.pointer (some ⟨q' j, 0, none⟩)) w5 ∧ w5.cell? ⟨b2, o2 + j, none⟩ = some (.slice DA dm dc) := ⟨I5.c2, L5, (hb5.cell (p := ⟨b2, o2 + j, none⟩) hb2lt).trans kd⟩; have HB5 := Lib.hid hb5; have HC5 := Lib.hid hc5; have HI5 := Lib.hid I5; clear hb5 hc5 I5 L5)))
        have c5 := S5.1
        clear S0 S5 kd k2 kk
        go_wp2_with (first
          | (at_mapUpdate; refine wpList_putZ (z := .pointer none) (m := mm) (n := cs.length) (f := colAt cs q') Tryz.underlying3 Tryz.underlying183 (by rfl) (.tmp 70) (.tmp 71) (.tmp 72) rfl HI5.out.mp (by rw [← HNC.out]; omega) (i := k) (by have := HK64.out; omega) (.pointer (some ⟨wr.heap.size, 0, none⟩)) rfl rfl rfl ?_; intro w7 hm7 hg7; rw [HCN.out] at hm7; rw [HKK.out] at hm7; obtain ⟨tag7, hI7, hT7⟩ := HId.out.swap hjc HB5.out HC5.out (by simp) hm7 hg7; have I7 := Lib.hid hI7; have F7 := Lib.hid ((HF.out.trans (Fr.ofBelow _ ((Below.refl _ _).drew.trans HB5.out))).trans (Fr.grown hg7 (fun x hx => by injection hx with hx; rw [← hx]; exact HTw.out mm (by rw [HId.out.tm]; decide)))); have T7 := Lib.hid (show ∀ x, tag7 x ≠ 0 → Two w.heap.size w2.heap.size w3.heap.size x from fun x hx => by rcases hT7 x hx with h1 | h1; exact HTw.out x h1; exact .inr (Nat.le_trans hss h1)); clear hm7 hg7 hI7 hT7))
        go_roundw
        case rel =>
          refine ⟨j + 1, _, _, hjn, by go_num, I7.out.congr (fun a _ => ?_), HFIT'.out, F7.out, T7.out⟩
          by_cases ha : a = j
          · subst ha
            rw [if_pos rfl, if_pos (Nat.lt_succ_self _)]
          · rw [if_neg ha]
            by_cases h2 : a < j
            · rw [if_pos h2, if_pos (by omega)]
            · rw [if_neg h2, if_neg (by omega)]
        case measure => simp [intOf]; omega
      · have CLO := Lib.hid (ClLoad_no z m hzz hm DA dm dc (by rw [← hdl]; exact hf) wr.drew)
        have hbad : ¬ colsFit cs m cols nc := fun h => hf (by rw [hz]; exact h j hjn)
        have HBAD := Lib.hid hbad
        clear hI hF hTw hIj hrv hu hld hcu hr hkk hz hfit hId c2 LK hdl hf hBw hbad
        go_wp2
        go_region_held3 (fun W => W.cell? ⟨p, 2, none⟩ = some (.map (some mm)) ∧ (Instr.lookup 183 (.map (some mm)) (.int .i64 k) false).run Tryz.prog W = .ok (.pointer (some ⟨q' j, 0, none⟩)) W ∧ W.cell? ⟨b2, o2 + j, none⟩ = some (.slice DA dm dc)) (first | exact S0 | exact S5)
          ((first
            | (go_at_call 127; refine CS.out.mono ?_; rintro e w5 ⟨rfl, rfl⟩)
            | (go_at_call 126; refine CLO.out.mono ?_; rintro e w5 ⟨rfl, hb5⟩; have I5 := HId.out.below hb5; have L5 := I5.look hjc; rw [← HKK.out] at L5; have S5 : w5.cell? ⟨p, 2, none⟩ = some (.map (some mm)) ∧ (Instr.lookup 183 (.map (some mm)) (.int .i64 k) false).run Tryz.prog w5 = .ok (.pointer (some ⟨q' j, 0, none⟩)) w5 ∧ w5.cell? ⟨b2, o2 + j, none⟩ = some (.slice DA dm dc) := ⟨I5.c2, L5, (hb5.cell (p := ⟨b2, o2 + j, none⟩) hb2lt).trans kd⟩; have HB5 := Lib.hid hb5; clear hb5 I5 L5)))
        clear S0 S5 kd k2 kk
        go_wp2
        go_ret2
        exact ⟨HBw.out.trans (((Below.refl _ _).drew.trans HB5.out).mono HBw.out.size), .inr ⟨HBAD.out, rfl⟩⟩
    · obtain rfl : j = nc := by omega
      have hI' := hI.congr (co' := coOf cs m cols) (fun a ha => by rw [if_pos (by rw [HNC.out]; exact ha)])
      have hids := HIds.out.below hBw
      rw [← HM.out] at hids
      have CC := Lib.hid (clone_any IA m ic ids hids (by omega))
      have HIr := Lib.hid hI'
      have HBw := Lib.hid hBw
      have HFIT := Lib.hid hfit
      clear hI hI' hF hTw hids hBw hfit
      go_wp2_with (first
        | (go_at_call 111; refine CC.out.mono ?_; rintro e w6 ⟨v6, rfl, ho6, hb6⟩; obtain ⟨hR6, tag6, hI6, hG6⟩ := HIr.out.newids (l' := ids) (v' := v6) (Fr.ofBelow _ hb6) (by rw [← HM.out]; exact own_mono ho6 (Nat.zero_le _)) (fun x hx => .inr (own_geB ho6 hx).1); have k6 : w6.cell? ⟨p, 1, none⟩ = some nilv := hR6.at_ 1; have z6 := hR6.fz 1; have HI6 := Lib.hid hI6; have HG6 := Lib.hid hG6; obtain ⟨IA6, ic6, hv6, _⟩ := own_vrow ho6; subst hv6; clear hR6 hI6 hG6 ho6 hb6))
      go_ret2
      exact ⟨HBw.out.trans (HG6.out.toBelow HIr.out.lo HBw.out.size), .inl ⟨HFIT.out, _, _, _, _, _, rfl, HI6.out⟩⟩
end
end Go.Proofs.YtddiadpbkjdomaaGreatDoor
