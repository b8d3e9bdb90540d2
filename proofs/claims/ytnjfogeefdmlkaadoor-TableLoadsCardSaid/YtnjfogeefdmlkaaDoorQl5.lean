/- BitsLi, TbP1, TbP2, Grow, TbP3 -/
import Derived.Test.YtnjfogeefdmlkaaDoorQl4
import Derived.BigQuiet
import Derived.Deep.QuietTactic
namespace Go.Proofs.YtnjfogeefdmlkaaDoor
open Go.RowKit
set_option maxRecDepth 20000

theorem List_any (s : Nat) (w : World) (hs : s < 18446744073709551616) (hT : TabAt w) :
    Calls Tryd.prog 25 #[.int .u64 s] w fun e w' => ∃ v, e = .returned v ∧ w'.ownsRow w.heap.size 3 1 v (listN s).length ((listZ s).map (Value.int .i64)) ∧ Below w.heap.size w w' := by
  have C := Lib.hid (Count_any s w hs)
  have hll : (listN s).length ≤ 64 := by
    have := List.length_filter_le (fun i => s.testBit i) (List.range 64)
    rw [List.length_range] at this
    exact this
  obtain ⟨i0, hi0, hz0, hz1, hz2⟩ := info_parts intT.info
  have HT := Lib.hid hT
  clear hT
  go_enter Tryd.func25, Tryd.ntmps25
  go_wp2_with fail
  refine C.out.mono ?_
  rintro e w' ⟨rfl, rfl⟩
  go_wp2_with (at_make; refine wpList_mk _ intT rfl (.const (.int .i64 0)) (.tmp 7) rfl w.heap.size .i64 .i64 _ (listN s).length rfl rfl rfl (by omega) (by unfold maxLen; omega) (Nat.le_refl _) ?_; intro v1 w1 hown1 hb1)
  go_loopw [3, 4] (fun v rv wr => ∃ (t : Nat) (pre : List Nat), t < 18446744073709551616 ∧ rv = .int .u64 t ∧ listN s = pre ++ listN t ∧ wr.ownsRow w.heap.size 3 1 v pre.length ((pre.map Int.ofNat).map (Value.int .i64)) ∧ Below w.heap.size w wr) (fun _ rv _ => (listN (intOf rv).toNat).length)
  case atStart => exact ⟨s, [], hs, rfl, rfl, hown1, hb1⟩
  case round =>
    obtain ⟨t, pre, ht, rfl, hl, ho, hB⟩ := hrel
    have hbs := hB.size
    by_cases h0 : t = 0
    · subst h0
      have HB := Lib.hid hB
      have HL := Lib.hid hl
      clear hB hl
      go_wp2
      go_ret
      have e : pre = listN s := by rw [HL.out, listN_zero, List.append_nil]
      subst e
      exact ⟨_, rfl, ho, HB.out⟩
    · obtain ⟨hk, hlow⟩ := lowN t h0 ht
      have TZ := Lib.hid (tz_any t wr h0 ht (HT.out.below hB))
      obtain ⟨k, hk'⟩ : ∃ k, k = Lib.ctz 64 t := ⟨_, rfl⟩
      rw [← hk'] at hk hlow TZ
      have hlen := congrArg List.length hl
      rw [List.length_append] at hlen
      have HLow := Lib.hid hlow
      have HL := Lib.hid hl
      have HB := Lib.hid hB
      have HK := Lib.hid hlen
      have hpl : pre.length ≤ 64 := by omega
      clear hlow hl hB hk' hlen
      go_wp2_with fail
      refine TZ.out.mono ?_
      rintro e w' ⟨rfl, rfl⟩
      go_wp2_with (at_builtin; refine wpList_append_own_at _ rfl _ _ 37 rfl w.heap.size 3 i0 (.int .i64 0) 1 8 Tryd.underlying37 hi0 hz0 hz1 hz2 rfl (by decide) _ _ _ rfl (ho.alloc _) ⟨wr.heap.size, 0, none⟩ 1 1 [.int .i64 k] rfl rfl (cell_one_new _ _ _) (fun u hu => by rw [List.mem_singleton.1 hu]; rfl) (by unfold maxLen; omega) (by omega) (by simp; omega) ?_; intro v' w4 ho4 hg4 _ _; try go_frame)
      have hB4 : Below w.heap.size w w4 := (HB.out.alloc hbs _).grown hg4 (by simp; omega) (fun q hq => (ho.lt q hq).1)
      have W := Lib.hid (Without_any t (k : Int) w4 ht)
      have hs4 := hB4.size
      have HB4 := Lib.hid hB4
      have HO4 := Lib.hid ho4
      clear hB4 ho4 hg4 ho
      go_wp2_with fail
      refine W.out.mono ?_
      rintro e w5 ⟨rfl, hB5⟩
      have HB5 := Lib.hid hB5
      have HO5 := Lib.hid (own_keep HO4.out hB5)
      have hbl := butN_lt (o := orL [(k : Int)]) ht
      clear hB5
      obtain ⟨t', ht'⟩ : ∃ t', t' = butN t (orL [(k : Int)]) := ⟨_, rfl⟩
      rw [← ht'] at HLow hbl ⊢
      clear ht'
      go_wp2
      go_roundw
      case rel =>
        refine ⟨t', pre ++ [k], hbl, rfl, ?_, ?_, HB4.out.trans (HB5.out.mono hs4)⟩
        · rw [HL.out, HLow.out]; simp
        · have := HO5.out
          simpa using this
      case measure =>
        rw [show (intOf (.int .u64 (t' : Int))).toNat = t' from rfl, show (intOf (.int .u64 (t : Int))).toNat = t from rfl, HLow.out]
        simp
end Go.Proofs.YtnjfogeefdmlkaaDoor
namespace Go.Proofs.YtnjfogeefdmlkaaDoor
open Go.RowKit

theorem tabT : RT Tryd.prog 78 3 := ⟨⟨_, Tryd.underlying78, rfl⟩, by kernel_rfl⟩
theorem zeroP (w : World) : (zeroValue 80).run Tryd.prog w = .ok (.pointer none) w := by kernel_rfl

/-- Where the column of k stands. -/
def colAt (cs : List (Int × Nat)) (q : Nat → Nat) (k : Int) : Option Value := (cs.findIdx? fun c => decide (c.1 = k)).map fun j => .pointer (some ⟨q j, 0, none⟩)
theorem findIdx_at {cs : List (Int × Nat)} (nd : (cs.map (·.1)).Nodup) {j : Nat} (hj : j < cs.length) : (cs.findIdx? fun c => decide (c.1 = (cs.getD j (0, 0)).1)) = some j := by
  have e : cs.getD j (0, 0) = cs[j] := by simp [List.getD, List.getElem?_eq_getElem hj]
  rw [List.findIdx?_eq_some_iff_getElem]
  refine ⟨hj, by rw [e]; exact decide_eq_true rfl, fun i hi => ?_⟩
  have hp := List.pairwise_iff_getElem.1 nd i j (by simp; omega) (by simpa using hj) hi
  rw [List.getElem_map, List.getElem_map] at hp
  rw [e]
  simpa using hp
theorem colAt_at {cs : List (Int × Nat)} {q : Nat → Nat} (nd : (cs.map (·.1)).Nodup) {j : Nat} (hj : j < cs.length) : colAt cs q (cs.getD j (0, 0)).1 = some (.pointer (some ⟨q j, 0, none⟩)) := by
  unfold colAt
  rw [findIdx_at nd hj]
  rfl

/-- The cells of names. -/
def idc (l : List (Int × Int)) : List Value := (l.map fun x => [Value.int .i64 x.1, .int .i64 x.2]).flatten
theorem idc_el (l : List (Int × Int)) : HdL 2 ED (idc l) l :=
  ⟨l.map fun x => [Value.int .i64 x.1, .int .i64 x.2], rfl, by simp, fun r hr => by obtain ⟨x, _, rfl⟩ := List.mem_map.1 hr; rfl, fun j x hx => ⟨[Value.int .i64 x.1, .int .i64 x.2], by simp [hx], rfl⟩⟩
theorem idc_len (l : List (Int × Int)) : (idc l).length = l.length * 2 := (idc_el l).len
theorem idc_snoc (l : List (Int × Int)) (x : Int × Int) : idc (l ++ [x]) = idc l ++ [.int .i64 x.1, .int .i64 x.2] := by simp [idc]

/-- A table at block p: its names in v, its map in block m, the columns of cs in the blocks q; tag tells whose a block is. -/
structure TbI (w : World) (N : Nat) (tag : Nat → Nat) (p m : Nat) (v : Value) (q : Nat → Nat) (sg : Nat) (cs : List (Int × Nat)) (l : List (Int × Int)) (co : Nat → Co) : Prop where
  blk : Rec 78 w p #[.int .u64 sg, v, .map (some m)]
  ids : w.ownsRow 0 44 2 v l.length (idc l)
  mp : MapZ Tryd.prog 3 (.pointer none) w m cs.length (colAt cs q)
  col : ∀ j, j < cs.length → ∃ u, ClAt w (fun x => tag x = j + 4) (q j) u (co j)
  tp : tag p = 1
  tm : tag m = 2
  ti : ∀ x, v.ownBlock = some x → tag x = 3
  dom : ∀ x, tag x ≠ 0 → x < w.heap.size
  lo : ∀ x, tag x ≠ 0 → N ≤ x
  cz : ∀ x ∈ cs, 0 ≤ x.1 ∧ x.1 < 64
  nd : (cs.map (·.1)).Nodup
/-- What a call does to the memory. -/
structure TGo (w : World) (tag : Nat → Nat) (w' : World) (tag' : Nat → Nat) : Prop where
  fr : Fr (fun x => tag x ≠ 0) w w'
  own : ∀ x, tag' x ≠ 0 → tag x ≠ 0 ∨ w.heap.size ≤ x

section
variable {w w' w'' : World} {N : Nat} {tag tag' tag'' : Nat → Nat} {p m : Nat} {v : Value} {q : Nat → Nat} {sg : Nat} {cs : List (Int × Nat)} {l : List (Int × Int)} {co : Nat → Co}
theorem TGo.refl (w : World) (tag : Nat → Nat) : TGo w tag w tag := ⟨Fr.refl _ _, fun _ h => .inl h⟩
theorem TGo.trans (h : TGo w tag w' tag') (k : TGo w' tag' w'' tag'') : TGo w tag w'' tag'' :=
  ⟨h.fr.trans' k.fr (fun x hx => h.own x hx), fun x hx => by
    rcases k.own x hx with h1 | h1
    · exact h.own x h1
    · exact .inr (Nat.le_trans h.fr.size h1)⟩
theorem TGo.ofBelow (h : Below w.heap.size w w') : TGo w tag w' tag := ⟨Fr.ofBelow _ h, fun _ hx => .inl hx⟩
theorem TGo.toBelow (h : TGo w tag w' tag') (lo : ∀ x, tag x ≠ 0 → N ≤ x) (hN : N ≤ w.heap.size) : Below N w w' := h.fr.toBelow lo hN
theorem TbI.Nle (h : TbI w N tag p m v q sg cs l co) : N ≤ w.heap.size := Nat.le_of_lt (Nat.lt_of_le_of_lt (h.lo p (by rw [h.tp]; decide)) h.blk.lt)
theorem TbI.kept {own' : Nat → Prop} (h : TbI w N tag p m v q sg cs l co) (hf : Fr own' w w') (hd : ∀ x, tag x ≠ 0 → ¬ own' x) : TbI w' N tag p m v q sg cs l co where
  blk := h.blk.fr hf (hd p (by rw [h.tp]; decide))
  ids := own_fr h.ids hf (fun x hx => hd x (by rw [h.ti x hx]; decide))
  mp := h.mp.fr hf (hd m (by rw [h.tm]; decide))
  col := fun j hj => by
    obtain ⟨u, hu⟩ := h.col j hj
    exact ⟨u, hu.kept hf (fun x hx => hd x (by rw [hx]; omega))⟩
  tp := h.tp
  tm := h.tm
  ti := h.ti
  dom := fun x hx => Nat.lt_of_lt_of_le (h.dom x hx) hf.size
  lo := h.lo
  cz := h.cz
  nd := h.nd
theorem TbI.below (h : TbI w N tag p m v q sg cs l co) (hb : Below w.heap.size w w') : TbI w' N tag p m v q sg cs l co := h.kept (own' := fun _ => False) (Fr.ofBelow _ hb) (fun _ _ hx => hx)
theorem TbI.congr {co' : Nat → Co} (h : TbI w N tag p m v q sg cs l co) (he : ∀ j, j < cs.length → co j = co' j) : TbI w N tag p m v q sg cs l co' :=
  { h with col := fun j hj => by rw [← he j hj]; exact h.col j hj }
theorem TbI.cdom (h : TbI w N tag p m v q sg cs l co) (j : Nat) : ∀ x, tag x = j + 4 → x < w.heap.size := fun x hx => h.dom x (by rw [hx]; omega)
/-- One column turned. -/
theorem TbI.turn (h : TbI w N tag p m v q sg cs l co) {j : Nat} (hj : j < cs.length) {s : Co} (g : ClGoes w (fun x => tag x = j + 4) (q j) s w') :
    ∃ tag', TbI w' N tag' p m v q sg cs l (fun i => if i = j then s else co i) ∧ TGo w tag w' tag' := by
  obtain ⟨hf, own', h1, h2, u, hu⟩ := g
  have hN := h.Nle
  refine ⟨fun x => if x < w.heap.size then tag x else if x < w'.heap.size then j + 4 else 0, ?_, ?_⟩
  · have kp : ∀ x, tag x ≠ 0 → (if x < w.heap.size then tag x else if x < w'.heap.size then j + 4 else 0) = tag x := fun x hx => if_pos (h.dom x hx)
    refine ⟨h.blk.fr hf (by rw [h.tp]; omega), own_fr h.ids hf (fun x hx => by rw [h.ti x hx]; omega), h.mp.fr hf (by rw [h.tm]; omega), fun i hi => ?_, ?_, ?_, fun x hx => ?_, fun x hx => ?_, fun x hx => ?_, h.cz, h.nd⟩
    · by_cases hij : i = j
      · subst hij
        simp only [if_true]
        refine ⟨u, hu.mono fun x hx => ?_⟩
        show (if x < w.heap.size then tag x else if x < w'.heap.size then i + 4 else 0) = i + 4
        rcases h1 x hx with h3 | h3
        · rw [kp x (by rw [h3]; omega), h3]
        · rw [if_neg (by omega), if_pos (h2 x hx)]
      · simp only [if_neg hij]
        obtain ⟨u', hu'⟩ := h.col i hi
        refine ⟨u', (hu'.kept hf (fun x hx => by rw [hx]; omega)).mono fun x hx => ?_⟩
        show (if x < w.heap.size then tag x else if x < w'.heap.size then j + 4 else 0) = i + 4
        rw [kp x (by rw [hx]; omega), hx]
    · show (if p < w.heap.size then tag p else _) = 1
      rw [if_pos h.blk.lt, h.tp]
    · show (if m < w.heap.size then tag m else _) = 2
      rw [if_pos h.mp.lt, h.tm]
    · show (if x < w.heap.size then tag x else _) = 3
      rw [if_pos (h.dom x (by rw [h.ti x hx]; decide)), h.ti x hx]
    · have hx' : (if x < w.heap.size then tag x else if x < w'.heap.size then j + 4 else 0) ≠ 0 := hx
      have := hf.size
      split at hx'
      · omega
      · split at hx'
        · assumption
        · exact absurd rfl hx'
    · have hx' : (if x < w.heap.size then tag x else if x < w'.heap.size then j + 4 else 0) ≠ 0 := hx
      split at hx'
      · exact h.lo x hx'
      · omega
  · refine ⟨hf.mono fun x hx => by rw [hx]; omega, fun x hx => ?_⟩
    have hx' : (if x < w.heap.size then tag x else if x < w'.heap.size then j + 4 else 0) ≠ 0 := hx
    split at hx'
    · exact .inl hx'
    · exact .inr (by omega)

theorem TbI.c0 (h : TbI w N tag p m v q sg cs l co) : w.cell? ⟨p, 0, none⟩ = some (.int .u64 sg) := h.blk.at_ 0
theorem TbI.c1 (h : TbI w N tag p m v q sg cs l co) : w.cell? ⟨p, 1, none⟩ = some v := h.blk.at_ 1
theorem TbI.c2 (h : TbI w N tag p m v q sg cs l co) : w.cell? ⟨p, 2, none⟩ = some (.map (some m)) := h.blk.at_ 2
theorem TbI.sl (h : TbI w N tag p m v q sg cs l co) : ∃ A c, v = .slice A l.length c ∧ l.length ≤ c ∧ c ≤ maxLen := by
  obtain ⟨A, c, e, h1, h2, _⟩ := own_vrow h.ids
  exact ⟨A, c, e, h1, h2⟩
theorem TbI.look (h : TbI w N tag p m v q sg cs l co) {j : Nat} (hj : j < cs.length) : (Instr.lookup 76 (.map (some m)) (.int .i64 (cs.getD j (0, 0)).1) false).run Tryd.prog w = .ok (.pointer (some ⟨q j, 0, none⟩)) w := by
  have hr : 0 ≤ (cs.getD j (0, 0)).1 ∧ (cs.getD j (0, 0)).1 < 64 := by
    have e : cs.getD j (0, 0) = cs[j] := by simp [List.getD, List.getElem?_eq_getElem hj]
    rw [e]
    exact h.cz _ (List.getElem_mem hj)
  have := h.mp.look Tryd.underlying3 Tryd.underlying76 (zeroP w) (i := (cs.getD j (0, 0)).1) (by omega)
  rw [colAt_at h.nd hj] at this
  exact this
theorem TbI.look_yes (h : TbI w N tag p m v q sg cs l co) {k : Int} (hk : -9223372036854775808 ≤ k ∧ k < 9223372036854775808) {j : Nat} (hj : (cs.findIdx? fun c => decide (c.1 = k)) = some j) :
    (Instr.lookup 76 (.map (some m)) (.int .i64 k) true).run Tryd.prog w = .ok (.tuple #[.pointer (some ⟨q j, 0, none⟩), .bool true]) w := by
  have := h.mp.look_ok Tryd.underlying3 Tryd.underlying76 (zeroP w) (i := k) hk
  unfold colAt at this
  rw [hj] at this
  exact this
theorem TbI.look_no (h : TbI w N tag p m v q sg cs l co) {k : Int} (hk : -9223372036854775808 ≤ k ∧ k < 9223372036854775808) (hj : (cs.findIdx? fun c => decide (c.1 = k)) = none) :
    (Instr.lookup 76 (.map (some m)) (.int .i64 k) true).run Tryd.prog w = .ok (.tuple #[.pointer none, .bool false]) w := by
  have := h.mp.look_ok Tryd.underlying3 Tryd.underlying76 (zeroP w) (i := k) hk
  unfold colAt at this
  rw [hj] at this
  exact this
theorem TbI.clen (h : TbI w N tag p m v q sg cs l co) (ty : TypeId) : (Builtin.len_ #[76] ty #[.map (some m)]).run Tryd.prog w = .ok (.int .i64 cs.length) w := h.mp.len Tryd.underlying76 ty

/-! ### check, find, Sig, Len -/
theorem tcheck_nil (i : Int) (w : World) : Calls Tryd.prog 31 #[.pointer none, .int .i64 i] w fun e w' => e = .returned (.int .i64 4) ∧ w = w' := by
  go_enter Tryd.func31, Tryd.ntmps31
  go_wp2
  go_ret
  exact ⟨rfl, rfl⟩
theorem tcheck_ok (h : TbI w N tag p m v q sg cs l co) (i : Int) (hi : 0 ≤ i ∧ i < l.length) : Calls Tryd.prog 31 #[.pointer (some ⟨p, 0, none⟩), .int .i64 i] w fun e w' => e = .returned (.int .i64 0) ∧ w = w' := by
  have c1 := h.c1
  obtain ⟨A, c, rfl, _, _⟩ := h.sl
  obtain ⟨h0, h1⟩ := hi
  go_enter Tryd.func31, Tryd.ntmps31
  go_wp2
  go_ret
  exact ⟨rfl, rfl⟩
theorem tcheck_no (h : TbI w N tag p m v q sg cs l co) (i : Int) (hi : ¬ (0 ≤ i ∧ i < l.length)) : Calls Tryd.prog 31 #[.pointer (some ⟨p, 0, none⟩), .int .i64 i] w fun e w' => e = .returned (.int .i64 2) ∧ w = w' := by
  have c1 := h.c1
  obtain ⟨A, c, rfl, _, _⟩ := h.sl
  by_cases h0 : i < 0
  · go_enter Tryd.func31, Tryd.ntmps31
    go_wp2
    go_ret
    exact ⟨rfl, rfl⟩
  · have h1 : (l.length : Int) ≤ i := by omega
    clear hi
    go_enter Tryd.func31, Tryd.ntmps31
    go_wp2
    go_ret
    exact ⟨rfl, rfl⟩
theorem find_nil (i k : Int) (w : World) : Calls Tryd.prog 33 #[.pointer none, .int .i64 i, .int .i64 k] w fun e w' => e = .returned (.tuple #[.pointer none, .int .i64 4]) ∧ w = w' := by
  go_enter Tryd.func33, Tryd.ntmps33
  go_wp2_with (go_at_call 31; refine (tcheck_nil i w).mono ?_; rintro e w' ⟨rfl, rfl⟩)
  go_ret2
  exact ⟨rfl, rfl⟩
theorem find_no (h : TbI w N tag p m v q sg cs l co) (i : Int) (hi : ¬ (0 ≤ i ∧ i < l.length)) (k : Int) : Calls Tryd.prog 33 #[.pointer (some ⟨p, 0, none⟩), .int .i64 i, .int .i64 k] w fun e w' => e = .returned (.tuple #[.pointer none, .int .i64 2]) ∧ w = w' := by
  have CK := Lib.hid (tcheck_no h i hi)
  clear h hi
  go_enter Tryd.func33, Tryd.ntmps33
  go_wp2_with (go_at_call 31; refine CK.out.mono ?_; rintro e w' ⟨rfl, rfl⟩)
  go_ret2
  exact ⟨rfl, rfl⟩
theorem find_lacks (h : TbI w N tag p m v q sg cs l co) (i : Int) (hi : 0 ≤ i ∧ i < l.length) {k : Int} (hk : -9223372036854775808 ≤ k ∧ k < 9223372036854775808) (hj : (cs.findIdx? fun c => decide (c.1 = k)) = none) :
    Calls Tryd.prog 33 #[.pointer (some ⟨p, 0, none⟩), .int .i64 i, .int .i64 k] w fun e w' => e = .returned (.tuple #[.pointer none, .int .i64 8]) ∧ w = w' := by
  have CK := Lib.hid (tcheck_ok h i hi)
  have c2 := h.c2
  have L := h.look_no hk hj
  clear h hi hk hj
  go_enter Tryd.func33, Tryd.ntmps33
  go_wp2_with (go_at_call 31; refine CK.out.mono ?_; rintro e w' ⟨rfl, rfl⟩)
  go_ret2
  exact ⟨rfl, rfl⟩
theorem find_ok (h : TbI w N tag p m v q sg cs l co) (i : Int) (hi : 0 ≤ i ∧ i < l.length) {k : Int} (hk : -9223372036854775808 ≤ k ∧ k < 9223372036854775808) {j : Nat} (hj : (cs.findIdx? fun c => decide (c.1 = k)) = some j) :
    Calls Tryd.prog 33 #[.pointer (some ⟨p, 0, none⟩), .int .i64 i, .int .i64 k] w fun e w' => e = .returned (.tuple #[.pointer (some ⟨q j, 0, none⟩), .int .i64 0]) ∧ w = w' := by
  have CK := Lib.hid (tcheck_ok h i hi)
  have c2 := h.c2
  have L := h.look_yes hk hj
  clear h hi hk hj
  go_enter Tryd.func33, Tryd.ntmps33
  go_wp2_with (go_at_call 31; refine CK.out.mono ?_; rintro e w' ⟨rfl, rfl⟩)
  go_ret2
  exact ⟨rfl, rfl⟩
theorem tsig_nil (w : World) : Calls Tryd.prog 18 #[.pointer none] w fun e w' => e = .returned (.int .u64 0) ∧ w = w' := by
  go_enter Tryd.func18, Tryd.ntmps18
  go_wp2
  go_ret
  exact ⟨rfl, rfl⟩
theorem tsig_any (h : TbI w N tag p m v q sg cs l co) : Calls Tryd.prog 18 #[.pointer (some ⟨p, 0, none⟩)] w fun e w' => e = .returned (.int .u64 sg) ∧ w = w' := by
  have c0 := h.c0
  go_enter Tryd.func18, Tryd.ntmps18
  go_wp2
  go_ret
  exact ⟨rfl, rfl⟩
theorem tlen_nil (w : World) : Calls Tryd.prog 16 #[.pointer none] w fun e w' => e = .returned (.int .i64 0) ∧ w = w' := by
  go_enter Tryd.func16, Tryd.ntmps16
  go_wp2
  go_ret
  exact ⟨rfl, rfl⟩
theorem tlen_any (h : TbI w N tag p m v q sg cs l co) : Calls Tryd.prog 16 #[.pointer (some ⟨p, 0, none⟩)] w fun e w' => e = .returned (.int .i64 l.length) ∧ w = w' := by
  have c1 := h.c1
  obtain ⟨A, c, rfl, _, _⟩ := h.sl
  go_enter Tryd.func16, Tryd.ntmps16
  go_wp2
  go_ret
  exact ⟨rfl, rfl⟩
end
end Go.Proofs.YtnjfogeefdmlkaaDoor
namespace Go.Proofs.YtnjfogeefdmlkaaDoor
open Go.RowKit

/-- None of the first j is of component k. -/
def NoneOf (ps : List Pt) (k : Int) (j : Nat) : Prop := ∀ i x, i < j → ps[i]? = some x → x.1 ≠ k
theorem NoneOf.more {ps : List Pt} {k : Int} {j : Nat} (h : NoneOf ps k j) {x : Pt} (hx : ps[j]? = some x) (hne : x.1 ≠ k) : NoneOf ps k (j + 1) := fun i y hi hy => by
  by_cases e : i = j
  · subst e
    rw [hx] at hy
    injection hy with hy
    exact hy ▸ hne
  · exact h i y (by omega) hy
theorem NoneOf.find {ps : List Pt} {k : Int} {j : Nat} (h : NoneOf ps k j) {x : Pt} (hx : ps[j]? = some x) (he : x.1 = k) : ps.find? (fun p => decide (p.1 = k)) = some x := by
  rw [List.find?_eq_some_iff_getElem]
  obtain ⟨hj, e⟩ := List.getElem?_eq_some_iff.1 hx
  refine ⟨decide_eq_true he, j, hj, e, fun i hi => ?_⟩
  have := h i ps[i] hi (List.getElem?_eq_getElem (by omega))
  simpa using this
theorem NoneOf.none_ {ps : List Pt} {k : Int} (h : NoneOf ps k ps.length) : ps.find? (fun p => decide (p.1 = k)) = none := by
  rw [List.find?_eq_none]
  intro x hx
  obtain ⟨i, hi, e⟩ := List.getElem_of_mem hx
  have := h i ps[i] hi (List.getElem?_eq_getElem hi)
  rw [e] at this
  simpa using this

section
variable {K : Nat → Prop} {w : World} {A : Option Addr} {n : Nat} {ps : List Pt}
set_option maxRecDepth 20000 in
theorem first_any (h : PartsV K w A n ps) (hn : n ≤ 1000000) (c : Nat) (k : Int) :
    Calls Tryd.prog 55 #[.slice A n c, .int .i64 k] w fun e w' => Below w.heap.size w w' ∧
      ((∃ x u, ps.find? (fun p => decide (p.1 = k)) = some x ∧ e = .returned (.tuple #[u, .bool true]) ∧ VB K w' u x.2) ∨ (ps.find? (fun p => decide (p.1 = k)) = none ∧ e = .returned (.tuple #[nilv, .bool false]))) := by
  have hl := h.len
  have H := Lib.hid h
  clear h
  go_enter Tryd.func55, Tryd.ntmps55
  go_wp2
  go_loopw [10] (fun iv wr => ∃ j : Nat, j ≤ n ∧ iv = .int .i64 j ∧ NoneOf ps k j ∧ Below w.heap.size w wr) (fun iv _ => n - (intOf iv).toNat)
  case atStart => exact ⟨0, Nat.zero_le _, rfl, fun i x hi => absurd hi (Nat.not_lt_zero _), Below.refl _ _⟩
  case round =>
    obtain ⟨j, hj, rfl, hno, hB⟩ := hrel
    by_cases hjn : j < n
    · obtain ⟨y, hy⟩ : ∃ y, ps[j]? = some y := ⟨_, List.getElem?_eq_getElem (by omega)⟩
      obtain ⟨b, o, u, hA, _, hblt, h0, h1, hu⟩ := H.out.cell hy
      subst hA
      have k0 := (hB.cell (p := ⟨b, o + j * 2, none⟩) hblt).trans h0
      have k1 := (hB.cell (p := ⟨b, o + j * 2 + 1, none⟩) hblt).trans h1
      obtain ⟨DA, dm, dc, rfl, _, _⟩ := id hu
      have HU := Lib.hid hu
      have HY := Lib.hid hy
      have HNO := Lib.hid hno
      obtain ⟨yi, yd⟩ := y
      simp only at k0
      have hb3 := hB.trans ((Below.refl _ _).alloc (hB.size) (.cells #[.int .i64 yi, .slice DA dm dc] 73))
      have HB3 := Lib.hid hb3
      clear h0 h1 hu hy hno hb3
      by_cases he : yi = k
      · subst he
        go_wp2
        go_ret2
        exact ⟨HB3.out, .inl ⟨_, _, HNO.out.find HY.out rfl, _, rfl, (HU.out.below (hB.trans ((Below.refl _ _).alloc hB.size _)))⟩⟩
      · have d1 : decide (yi = k) = false := decide_eq_false he
        go_wp2
        go_roundw
        case rel => exact ⟨j + 1, hjn, by go_num, HNO.out.more HY.out he, HB3.out⟩
        case measure => simp [intOf]; omega
    · obtain rfl : j = n := by omega
      have HNO := Lib.hid hno
      clear hno
      go_wp2
      go_ret2
      exact ⟨hB, .inr ⟨NoneOf.none_ (by rw [hl]; exact HNO.out), rfl⟩⟩
end
end Go.Proofs.YtnjfogeefdmlkaaDoor
namespace Go.Proofs.YtnjfogeefdmlkaaDoor
open Go.RowKit

/-- How an element's cells are read. -/
structure EOk {α : Type} (E : (Nat → Prop) → World → α → List Value → Prop) : Prop where
  stays : ∀ {K : Nat → Prop} {w w' : World} {x : α} {r : List Value}, E K w x r → WStays K w w' → E K w' x r
  mono : ∀ {K K' : Nat → Prop} {w : World} {x : α} {r : List Value}, E K w x r → (∀ y, K y → K' y) → E K' w x r
  lt : ∀ {K : Nat → Prop} {w : World} {x : α} {r : List Value}, E K w x r → E (fun y => K y ∧ y < w.heap.size) w x r
theorem EOk.below {α : Type} {E : (Nat → Prop) → World → α → List Value → Prop} (ok : EOk E) {K : Nat → Prop} {w w' : World} {x : α} {r : List Value} (h : E K w x r) (hb : Below w.heap.size w w') : E K w' x r :=
  ok.mono (ok.stays (ok.lt h) ⟨hb.size, fun y hy => hb.block y hy.2⟩) (fun _ hy => hy.1)

/-- A row of one's own, from block B on; its elements lead to blocks of D. -/
structure Gr {α : Type} (E : (Nat → Prop) → World → α → List Value → Prop) (e : TypeId) (sz : Nat) (w : World) (B : Nat) (v : Value) (vs : List Value) (D : Nat → Prop) (xs : List α) : Prop where
  Bw : B ≤ w.heap.size
  ow : w.ownsRow B e sz v xs.length vs
  hd : HdL sz (E D w) vs xs
  dx : ∀ x, D x → x < w.heap.size ∧ v.ownBlock ≠ some x

section
variable {α : Type} {E : (Nat → Prop) → World → α → List Value → Prop} {e : TypeId} {sz : Nat} {w w' : World} {B : Nat} {v : Value} {vs : List Value} {D K : Nat → Prop} {xs : List α}
theorem own_geB {e size n : Nat} {xs : List Value} (h : w.ownsRow B e size v n xs) {x : Nat} (hx : v.ownBlock = some x) : B ≤ x ∧ x < w.heap.size := by
  rcases h.2 with ⟨rfl, _⟩ | ⟨g, cap, cur, rfl, hB, hh, _⟩
  · cases hx
  · injection hx with hx
    have hx' : g = x := hx
    rw [← hx']
    exact ⟨hB, (Array.getElem?_eq_some_iff.1 hh).1⟩
theorem Gr.start (h : w.ownsRow B e sz v 0 []) (hB : B ≤ w.heap.size) : Gr E e sz w B v [] (fun _ => False) ([] : List α) := ⟨hB, h, HdL.nil _ _, fun _ hx => hx.elim⟩
theorem Gr.below (ok : EOk E) (h : Gr E e sz w B v vs D xs) (hb : Below w.heap.size w w') : Gr E e sz w' B v vs D xs :=
  ⟨Nat.le_trans h.Bw hb.size, own_keep h.ow hb, h.hd.imp fun _ _ hx => ok.below hx hb, fun x hx => ⟨Nat.lt_of_lt_of_le (h.dx x hx).1 hb.size, (h.dx x hx).2⟩⟩
/-- One element more. -/
theorem Gr.put (ok : EOk E) (h : Gr E e sz w B v vs D xs) {v' : Value} {x : α} {r : List Value} (hr : r.length = sz) (hE : E K w x r) (hK : ∀ y, K y → v.ownBlock ≠ some y)
    (ho : w'.ownsRow B e sz v' (xs.length + 1) (vs ++ r)) (hg : w.grownBy w' v.ownBlock) (hv : v'.ownBlock = v.ownBlock ∨ v'.ownBlock = some w.heap.size) :
    Gr E e sz w' B v' (vs ++ r) (fun y => D y ∨ (K y ∧ y < w.heap.size)) (xs ++ [x]) := by
  have hF : Fr (fun y => v.ownBlock = some y) w w' := Fr.grown hg (fun y hy => hy)
  have hs := hF.size
  have hall : ∀ y, (D y ∨ (K y ∧ y < w.heap.size)) → y < w.heap.size ∧ v.ownBlock ≠ some y := fun y hy => by
    rcases hy with h1 | h1
    · exact h.dx y h1
    · exact ⟨h1.2, hK y h1.1⟩
  have st : WStays (fun y => D y ∨ (K y ∧ y < w.heap.size)) w w' := ⟨hs, fun y hy => hF.block y (hall y hy).1 (hall y hy).2⟩
  refine ⟨Nat.le_trans h.Bw hs, by rw [List.length_append, List.length_singleton]; exact ho, ?_, fun y hy => ?_⟩
  · exact (h.hd.imp fun _ _ hx => ok.stays (ok.mono hx (fun _ hy => .inl hy)) st).snoc hr (ok.stays (ok.mono (ok.lt hE) (fun _ hy => .inr hy)) st)
  · obtain ⟨h1, h2⟩ := hall y hy
    refine ⟨by omega, fun e => ?_⟩
    rcases hv with hv | hv
    · exact h2 (hv ▸ e)
    · rw [hv] at e
      injection e with e
      omega
/-- What it is in the end. -/
theorem Gr.rows (ok : EOk E) (h : Gr E e sz w B v vs D xs) : ∃ A c, v = .slice A xs.length c ∧ xs.length ≤ c ∧ c ≤ maxLen ∧ RowsL sz (E (fun x => D x ∨ (B ≤ x ∧ x < w.heap.size)) w) (fun x => D x ∨ (B ≤ x ∧ x < w.heap.size)) w A xs.length xs := by
  obtain ⟨A, c, e1, h1, h2, h3⟩ := own_vrow h.ow
  exact ⟨A, c, e1, h1, h2, vs, rfl, h3.mono (fun x hx => .inr hx), h.hd.imp fun _ _ hx => ok.mono hx (fun _ hy => .inl hy)⟩
end

/-- An element that is a slice of bytes. -/
def EB (K : Nat → Prop) (w : World) (x : List UInt8) (r : List Value) : Prop := ∃ u, r = [u] ∧ VB K w u x
theorem EB.ok : EOk EB where
  stays := fun ⟨u, e, hu⟩ hs => ⟨u, e, hu.stays hs⟩
  mono := fun ⟨u, e, hu⟩ hk => ⟨u, e, hu.mono hk⟩
  lt := fun ⟨u, e, hu⟩ => ⟨u, e, hu.lt⟩
theorem EP.ok : EOk EP where
  stays := fun ⟨u, e, hu⟩ hs => ⟨u, e, hu.stays hs⟩
  mono := fun ⟨u, e, hu⟩ hk => ⟨u, e, hu.mono hk⟩
  lt := fun ⟨u, e, hu⟩ => ⟨u, e, hu.lt⟩
theorem EB.rows {K : Nat → Prop} {w : World} {A : Option Addr} {n : Nat} {ls : List (List UInt8)} (h : RowsL 1 (EB K w) K w A n ls) : RowsV K w A n ls := by
  obtain ⟨vs, h1, h2, ch, rfl, h4, h5, h6⟩ := h
  have hl : ch.flatten.length = n := by rw [h2.1, Nat.mul_one]
  refine ⟨_, h1, h2, by omega, fun j u hj => ?_⟩
  have hjl : j < ls.length := by have := (List.getElem?_eq_some_iff.1 hj).1; omega
  obtain ⟨r, hr, u', e, hu'⟩ := h6 j ls[j] (List.getElem?_eq_getElem hjl)
  have hg := flatg_get h5 hr (i := 0) (by decide)
  rw [Nat.mul_one, Nat.add_zero, hj, e] at hg
  injection hg with hg
  rw [List.getD_eq_getElem?_getD, List.getElem?_eq_getElem hjl, hg]
  exact hu'
theorem RowsV.atK {K : Nat → Prop} {w : World} {A : Option Addr} {n : Nat} {ls : List (List UInt8)} (h : RowsV K w A n ls) {j : Nat} (hj : j < n) : ∃ b o u, A = some ⟨b, o, none⟩ ∧ K b ∧ b < w.heap.size ∧ w.cell? ⟨b, o + j, none⟩ = some u ∧ VB K w u (ls.getD j []) := by
  obtain ⟨vs, h1, h2, h3⟩ := h
  obtain ⟨b, o, e, hk, hlt, hc⟩ := h2.2.2 (by omega)
  have hjl : j < vs.length := by rw [h2.1]; omega
  have hv := List.getElem?_eq_getElem hjl
  exact ⟨b, o, vs[j], e, hk, hlt, hc j _ hv, h3.2 j _ hv⟩
/-- Numbers in cells. -/
theorem ints_hd (xs : List Int) : HdL 1 EI (xs.map (Value.int .i64)) xs := by
  refine ⟨xs.map fun x => [.int .i64 x], ?_, by simp, fun r hr => ?_, fun j x hx => ⟨[.int .i64 x], by simp [hx], rfl⟩⟩
  · induction xs with
    | nil => rfl
    | cons a xs ih => simp at ih ⊢; exact ih
  · obtain ⟨x, _, rfl⟩ := List.mem_map.1 hr
    rfl
/-- From a to b, or from c on. -/
def Two (a b c : Nat) (x : Nat) : Prop := (a ≤ x ∧ x < b) ∨ c ≤ x
end Go.Proofs.YtnjfogeefdmlkaaDoor
namespace Go.Proofs.YtnjfogeefdmlkaaDoor
open Go.RowKit

theorem bbT : El Tryd.prog 27 32 (.slice none 0 0) 1 24 := ⟨Tryd.underlying27, by kernel_rfl, rfl, by decide⟩
theorem getD_fst (cs : List (Int × Nat)) (j : Nat) : (cs.map (·.1)).getD j 0 = (cs.getD j (0, 0)).1 := by
  rw [List.getD_eq_getElem?_getD, List.getD_eq_getElem?_getD, List.getElem?_map]
  cases cs[j]? <;> rfl
theorem get_fst {cs : List (Int × Nat)} {j : Nat} (hj : j < cs.length) : (cs.map (·.1))[j]? = some (cs.getD j (0, 0)).1 := by
  rw [List.getD_eq_getElem?_getD, List.getElem?_map, List.getElem?_eq_getElem hj]
  rfl
theorem getD_take {cs : List (Int × Nat)} {j : Nat} (hj : j < cs.length) : cs.take (j + 1) = cs.take j ++ [cs.getD j (0, 0)] := by
  rw [List.take_add_one, List.getD_eq_getElem?_getD, List.getElem?_eq_getElem hj]
  rfl
theorem fits_snoc (ps : List Pt) {cs : List (Int × Nat)} {j : Nat} (hj : j < cs.length) : fits ps (cs.take (j + 1)) = (fits ps (cs.take j) && decide ((pick ps (cs.getD j (0, 0))).length = (cs.getD j (0, 0)).2)) := by
  rw [getD_take hj]
  unfold fits
  rw [List.all_append]
  simp
theorem fits_no (ps : List Pt) {cs : List (Int × Nat)} {j : Nat} (hj : j < cs.length) (h : (pick ps (cs.getD j (0, 0))).length ≠ (cs.getD j (0, 0)).2) : fits ps cs = false := by
  unfold fits
  rw [List.all_eq_false]
  refine ⟨cs.getD j (0, 0), ?_, by simpa using h⟩
  rw [List.getD_eq_getElem?_getD, List.getElem?_eq_getElem hj]
  exact List.getElem_mem hj
theorem pick_some {ps : List Pt} {c : Int × Nat} {x : Pt} (h : ps.find? (fun p => decide (p.1 = c.1)) = some x) : pick ps c = x.2 := by unfold pick; rw [h]
theorem pick_none {ps : List Pt} {c : Int × Nat} (h : ps.find? (fun p => decide (p.1 = c.1)) = none) : pick ps c = List.replicate c.2 0 := by unfold pick; rw [h]
theorem made_bytes (n : Nat) : (madeCells (Value.int .u8 0).cells (n * 1)).toList = cells (List.replicate n 0) := by
  rw [Nat.mul_one]
  refine (toList_madeCells_one (Value.int .u8 0) n).trans ?_
  unfold cells
  rw [List.map_replicate]
  rfl

section
variable {K : Nat → Prop} {w : World} {A : Option Addr} {n : Nat} {ps : List Pt}
theorem first_some (h : PartsV K w A n ps) (hn : n ≤ 1000000) (c : Nat) (k : Int) {x : Pt} (hx : ps.find? (fun p => decide (p.1 = k)) = some x) :
    Calls Tryd.prog 55 #[.slice A n c, .int .i64 k] w fun e w' => (∃ u, e = .returned (.tuple #[u, .bool true]) ∧ VB K w' u x.2) ∧ Below w.heap.size w w' := by
  refine (first_any h hn c k).mono ?_
  rintro e w' ⟨hB, ⟨y, u, hy, rfl, hu⟩ | ⟨hy, _⟩⟩
  · rw [hx] at hy
    injection hy with hy
    subst hy
    exact ⟨⟨u, rfl, hu⟩, hB⟩
  · rw [hx] at hy; cases hy
theorem first_none (h : PartsV K w A n ps) (hn : n ≤ 1000000) (c : Nat) (k : Int) (hx : ps.find? (fun p => decide (p.1 = k)) = none) :
    Calls Tryd.prog 55 #[.slice A n c, .int .i64 k] w fun e w' => e = .returned (.tuple #[nilv, .bool false]) ∧ Below w.heap.size w w' := by
  refine (first_any h hn c k).mono ?_
  rintro e w' ⟨hB, ⟨y, u, hy, _, _⟩ | ⟨_, rfl⟩⟩
  · rw [hx] at hy; cases hy
  · exact ⟨rfl, hB⟩
end

section
variable {w : World} {N : Nat} {tag : Nat → Nat} {p m : Nat} {v : Value} {q : Nat → Nat} {sg : Nat} {cs : List (Int × Nat)} {l : List (Int × Int)} {co : Nat → Co}
theorem tlist_any (hz : listZ sg = cs.map (·.1)) (hg : sg < 18446744073709551616) (hT : TabAt w) :
    Calls Tryd.prog 25 #[.int .u64 sg] w fun e w' => ∃ LA lc, e = .returned (.slice LA cs.length lc) ∧ IntsV (fun x => w.heap.size ≤ x ∧ x < w'.heap.size) w' LA cs.length (cs.map (·.1)) ∧ Below w.heap.size w w' := by
  have hl : (listN sg).length = cs.length := by
    have := congrArg List.length hz
    unfold listZ at this
    simpa using this
  refine (List_any sg w hg hT).mono ?_
  rintro e w' ⟨v, rfl, ho, hB⟩
  rw [hz, hl] at ho
  obtain ⟨LA, lc, rfl, _, _, hI⟩ := own_rowsL ho (ints_hd _) (by simp)
  exact ⟨LA, lc, rfl, hI, hB⟩

set_option maxRecDepth 20000 in
theorem lay_any {K : Nat → Prop} {A : Option Addr} {n : Nat} {ps : List Pt} (h : TbI w N tag p m v q sg cs l co) (hz : listZ sg = cs.map (·.1)) (hg : sg < 18446744073709551616) (hT : TabAt w) (hcn : cs.length ≤ 64)
    (hsz : ∀ j, j < cs.length → (co j).sz = (cs.getD j (0, 0)).2) (h64 : ∀ j, j < cs.length → (cs.getD j (0, 0)).2 ≤ 64) (hp : PartsV K w A n ps) (hn : n ≤ 1000000) (c : Nat) :
    Calls Tryd.prog 36 #[.pointer (some ⟨p, 0, none⟩), .slice A n c] w fun e w' => Below w.heap.size w w' ∧
      ((fits ps cs = true ∧ ∃ RA rc, e = .returned (.tuple #[.slice RA cs.length rc, .int .i64 0]) ∧ RowsV (fun x => (K x ∧ x < w.heap.size) ∨ w.heap.size ≤ x) w' RA cs.length (cs.map (pick ps))) ∨
       (fits ps cs = false ∧ e = .returned (.tuple #[nilv, .int .i64 7]))) := by
  have c2 := h.c2
  have CL := h.clen 3
  obtain ⟨nc, hnc⟩ : ∃ nc, nc = cs.length := ⟨_, rfl⟩
  rw [← hnc] at CL hcn ⊢
  have H := Lib.hid h
  have HDm := Lib.hid h.dom
  have HP := Lib.hid hp.lt
  have HT := Lib.hid hT
  have HNC := Lib.hid hnc
  clear h hp hT hnc
  go_enter Tryd.func36, Tryd.ntmps36
  go_wp2_with (first
    | (at_make; refine wpList_mk _ bbT rfl (.const (.int .i64 0)) (.tmp 16) rfl w.heap.size .i64 .i64 _ nc rfl rfl rfl (by omega) (by unfold maxLen; omega) (Nat.le_refl _) ?_; intro v1 w1 hown1 hb1; have H1 := Lib.hid (H.out.below hb1); have k0 := H1.out.c0; have HB1 := Lib.hid hb1; have HO1 := Lib.hid hown1; clear hb1 hown1)
    | (go_at_call 25; refine (tlist_any hz hg (HT.out.below HB1.out)).mono ?_; rintro e w2 ⟨LA, lc, rfl, hI, hb2⟩; rw [← HNC.out] at hI ⊢; have HI := Lib.hid hI; have HB2 := Lib.hid hb2; clear hI hb2 k0))
  have HB0 := Lib.hid (HB1.out.trans (HB2.out.mono HB1.out.size))
  have G0 := Lib.hid (Gr.start (E := EB) (α := List UInt8) (own_keep HO1.out HB2.out) (by have := HB1.out.size; have := HB2.out.size; omega : w.heap.size ≤ w2.heap.size))
  have H2 := Lib.hid (H1.out.below HB2.out)
  have HOB := Lib.hid (show ∀ x, v1.ownBlock = some x → Two w.heap.size w1.heap.size w2.heap.size x from fun x hx => .inl (own_geB HO1.out hx))
  have hs1 := HB1.out.size
  have hs2 := HB2.out.size
  clear H HO1 HB1 HB2 H1 c2 CL
  go_loopw [6, 24] (fun ov iv wr => ∃ (j : Nat) (vs : List Value) (D : Nat → Prop), j ≤ nc ∧ iv = .int .i64 j ∧ Gr EB 32 1 wr w.heap.size ov vs D ((cs.take j).map (pick ps)) ∧ (∀ x, D x → (K x ∧ x < w.heap.size) ∨ w.heap.size ≤ x) ∧ (∀ x, ov.ownBlock = some x → Two w.heap.size w1.heap.size w2.heap.size x) ∧ fits ps (cs.take j) = true ∧ Fr (Two w.heap.size w1.heap.size w2.heap.size) w2 wr) (fun _ iv _ => nc - (intOf iv).toNat)
  case atStart => exact ⟨0, [], _, Nat.zero_le _, rfl, G0.out, fun x hx => hx.elim, HOB.out, rfl, Fr.refl _ _⟩
  case round =>
    obtain ⟨j, vs, D, hj, rfl, hG, hD, hob, hfit, hF⟩ := hrel
    by_cases hjn : j < nc
    · have hjc : j < cs.length := by rw [← HNC.out]; exact hjn
      have hss := hF.size
      have hI := HI.out.stays (w' := wr) ⟨hss, fun x hx => hF.block x hx.2 (fun h2 => by rcases h2 with h2 | h2 <;> omega)⟩
      obtain ⟨b, o, hLA, hblt, kk⟩ := hI.cell (get_fst hjc)
      have HLA := Lib.hid hLA
      subst hLA
      have HR := Lib.hid (H2.out.kept hF (fun x hx h2 => by have := HDm.out x hx; rcases h2 with h2 | h2 <;> omega))
      have c2 := HR.out.c2
      have LK := HR.out.look hjc
      obtain ⟨cu, hcu⟩ := HR.out.col j hjc
      have CS := ClSize_any hcu
      rw [hsz j hjc] at CS
      have hzz := h64 j hjc
      obtain ⟨k, hkk⟩ : ∃ k, k = (cs.getD j (0, 0)).1 := ⟨_, rfl⟩
      obtain ⟨z, hzz'⟩ : ∃ z, z = (cs.getD j (0, 0)).2 := ⟨_, rfl⟩
      have hsn := fits_snoc ps hjc
      have hfn := fits_no ps hjc
      have hpk : (cs.take (j + 1)).map (pick ps) = (cs.take j).map (pick ps) ++ [pick ps (cs.getD j (0, 0))] := by rw [getD_take hjc, List.map_append]; rfl
      have hps : ∀ x, ps.find? (fun p => decide (p.1 = k)) = some x → pick ps (cs.getD j (0, 0)) = x.2 := fun x hx => pick_some (by rw [← hkk]; exact hx)
      have hpn : ps.find? (fun p => decide (p.1 = k)) = none → pick ps (cs.getD j (0, 0)) = List.replicate z 0 := fun hx => by rw [hzz']; exact pick_none (by rw [← hkk]; exact hx)
      rw [hfit, Bool.true_and] at hsn
      obtain ⟨pk, hpk'⟩ : ∃ pk, pk = pick ps (cs.getD j (0, 0)) := ⟨_, rfl⟩
      rw [← hpk'] at hsn hfn hpk hps hpn
      rw [← hkk] at kk LK
      rw [← hzz'] at CS hzz hsn hfn
      have hlj : ((cs.take j).map (pick ps)).length = j := by rw [List.length_map, List.length_take]; omega
      have hBw : Below w.heap.size w wr := HB0.out.trans (hF.toBelow (fun x hx => by rcases hx with hx | hx <;> omega) (by omega))
      have HSN := Lib.hid hsn
      have HPK := Lib.hid hpk
      have HFN := Lib.hid hfn
      have HG := Lib.hid hG
      have HD := Lib.hid hD
      have HF := Lib.hid hF
      have HOB := Lib.hid hob
      have HLJ := Lib.hid hlj
      have CS := Lib.hid CS
      have HBw := Lib.hid hBw
      have HPr := Lib.hid (HP.out.below HBw.out)
      clear hsn hpk hfn hkk hzz' hpk' hcu hG hD hF hob hfit hI hlj hBw
      cases hfd : ps.find? (fun p => decide (p.1 = k)) with
      | some x =>
        have hpx := hps x hfd
        have CF := Lib.hid (first_some HPr.out hn c k hfd)
        obtain ⟨xi, xd⟩ := x
        simp only at hpx
        subst hpx
        clear hps hpn hfd
        by_cases hlen : pk.length = z
        · subst hlen
          go_wp2_with (first
            | (go_at_call 27; refine CS.out.mono ?_; rintro e w3 ⟨rfl, rfl⟩)
            | (go_at_call 55; refine CF.out.mono ?_; rintro e w3 ⟨⟨u, rfl, hu⟩, hb3⟩; obtain ⟨DA, dm, dc, rfl, hr, _⟩ := id hu; obtain rfl : dm = pk.length := hr.1.symm; obtain ⟨w4, hw4⟩ : ∃ w4, w4 = w3.alloc (.cells #[.slice DA pk.length dc] 32) := ⟨_, rfl⟩; have hb4 : Below w3.heap.size w3 w4 := (by rw [hw4]; exact (Below.refl _ _).alloc (Nat.le_refl _) _); have hv4 : VRow (fun x => w3.heap.size ≤ x) w4 (some ⟨w3.heap.size, 0, none⟩) 1 1 [.slice DA pk.length dc] := (by rw [hw4]; exact VRow.new w3 #[.slice DA pk.length dc] _ 1 1 rfl); have HU := Lib.hid (hu.below hb4); have HB4 := Lib.hid (hb3.trans (hb4.mono hb3.size)); have HV4 := Lib.hid hv4; have HW4 := Lib.hid hw4; clear hr hu hb3 hb4 hv4 hw4)
            | (rw [← HW4.out])
            | (at_builtin; have G4 := HG.out.below EB.ok HB4.out; refine wpList_appX bbT rfl (.tmp 49) (.tmp 51) rfl w.heap.size _ j vs rfl (by have := G4.ow; rw [HLJ.out] at this; exact this) _ 1 1 _ rfl HV4.out (fun u hu => by rw [List.mem_singleton.1 hu]; rfl) (by omega) (by decide) G4.Bw ?_; intro v5 w5 ho5 hg5 hv5; have G5 := Lib.hid (G4.put EB.ok rfl ⟨_, rfl, HU.out⟩ (fun y hy e => by have := (own_geB G4.ow e).1; omega) (by rw [HLJ.out]; exact ho5) hg5 hv5); have F5 := Lib.hid ((HF.out.trans (Fr.ofBelow _ HB4.out)).trans (Fr.grown hg5 HOB.out)); have OB5 := Lib.hid (show ∀ x, v5.ownBlock = some x → Two w.heap.size w1.heap.size w2.heap.size x from fun x hx => by (rcases hv5 with hv5 | hv5; exact HOB.out x (hv5 ▸ hx); rw [hv5] at hx; injection hx with hx; have := HF.out.size; have := HB4.out.size; exact .inr (by omega))); clear G4 ho5 hg5 hv5))
          go_roundw
          case rel =>
            refine ⟨j + 1, _, _, hjn, by go_num, (by rw [HPK.out]; exact G5.out), ?_, OB5.out, (by rw [HSN.out]; simp), F5.out⟩
            intro x hx
            rcases hx with h2 | h2
            · exact HD.out x h2
            · exact .inl h2.1
          case measure => simp [intOf]; omega
        · have d1 : decide ((pk.length : Int) = (z : Int)) = false := decide_eq_false (by omega)
          have hfn := HFN.out hlen
          have HFN := Lib.hid hfn
          clear hfn
          go_wp2_with (first
            | (go_at_call 27; refine CS.out.mono ?_; rintro e w3 ⟨rfl, rfl⟩)
            | (go_at_call 55; refine CF.out.mono ?_; rintro e w3 ⟨⟨u, rfl, hu⟩, hb3⟩; obtain ⟨DA, dm, dc, rfl, hr, _⟩ := id hu; obtain rfl : dm = pk.length := hr.1.symm; have HB3 := Lib.hid hb3; clear hr hu hb3))
          go_ret2
          exact ⟨HBw.out.trans (HB3.out.mono HBw.out.size), .inr ⟨HFN.out, rfl⟩⟩
      | none =>
        have hpx := hpn hfd
        have CF := Lib.hid (first_none HPr.out hn c k hfd)
        clear hps hpn hfd HFN
        go_wp2_with (first
          | (go_at_call 27; refine CS.out.mono ?_; rintro e w3 ⟨rfl, rfl⟩)
          | (go_at_call 55; refine CF.out.mono ?_; rintro e w3 ⟨rfl, hb3⟩; have HB3 := Lib.hid hb3; clear hb3)
          | (at_make; refine wpList_mkn _ bytesT rfl (.tmp 43) (.tmp 43) rfl w3.heap.size .i64 .i64 _ _ z rfl rfl rfl rfl (by omega) (by unfold maxLen; omega) (Nat.le_refl _) ?_; intro w6 ho6 hb6; rw [made_bytes, ← hpx] at ho6; have hr6 : Rd w6 (some ⟨w3.heap.size, 0, none⟩) z pk := Rd.of_own' ho6; have hlt6 : w3.heap.size < w6.heap.size := (own_geB ho6 rfl).2; have hu : VB (fun x => w3.heap.size ≤ x) w6 (.slice (some ⟨w3.heap.size, 0, none⟩) z z) pk := ⟨_, _, _, rfl, hr6, fun b o e _ => by (injection e with e; injection e with e1 e2; omega)⟩; obtain ⟨w4, hw4⟩ : ∃ w4, w4 = w6.alloc (.cells #[.slice (some ⟨w3.heap.size, 0, none⟩) z z] 32) := ⟨_, rfl⟩; have hb4 : Below w6.heap.size w6 w4 := (by rw [hw4]; exact (Below.refl _ _).alloc (Nat.le_refl _) _); have hv4 : VRow (fun x => w6.heap.size ≤ x) w4 (some ⟨w6.heap.size, 0, none⟩) 1 1 [.slice (some ⟨w3.heap.size, 0, none⟩) z z] := (by rw [hw4]; exact VRow.new w6 #[.slice (some ⟨w3.heap.size, 0, none⟩) z z] _ 1 1 rfl); have HU := Lib.hid (hu.below hb4); have HB4 := Lib.hid (HB3.out.trans ((hb6.trans (hb4.mono hb6.size)).mono HB3.out.size)); have HV4 := Lib.hid hv4; have HW4 := Lib.hid hw4; clear hu hr6 ho6 hb4 hv4 hw4 hb6)
          | (rw [← HW4.out])
          | (at_builtin; have G4 := HG.out.below EB.ok HB4.out; refine wpList_appX bbT rfl (.tmp 49) (.tmp 51) rfl w.heap.size _ j vs rfl (by have := G4.ow; rw [HLJ.out] at this; exact this) _ 1 1 _ rfl HV4.out (fun u hu => by rw [List.mem_singleton.1 hu]; rfl) (by omega) (by decide) G4.Bw ?_; intro v5 w5 ho5 hg5 hv5; have G5 := Lib.hid (G4.put EB.ok rfl ⟨_, rfl, HU.out⟩ (fun y hy e => by have := (own_geB HG.out.ow e).2; have := HB3.out.size; omega) (by rw [HLJ.out]; exact ho5) hg5 hv5); have F5 := Lib.hid ((HF.out.trans (Fr.ofBelow _ HB4.out)).trans (Fr.grown hg5 HOB.out)); have OB5 := Lib.hid (show ∀ x, v5.ownBlock = some x → Two w.heap.size w1.heap.size w2.heap.size x from fun x hx => by (rcases hv5 with hv5 | hv5; exact HOB.out x (hv5 ▸ hx); rw [hv5] at hx; injection hx with hx; have := HF.out.size; have := HB4.out.size; exact .inr (by omega))); clear G4 ho5 hg5 hv5))
        go_roundw
        case rel =>
          refine ⟨j + 1, _, _, hjn, by go_num, (by rw [HPK.out]; exact G5.out), ?_, OB5.out, (by rw [HSN.out, hpx]; exact decide_eq_true (by simp)), F5.out⟩
          intro x hx
          rcases hx with h2 | h2
          · exact HD.out x h2
          · exact .inr (by have := h2.1; have := HB3.out.size; have := HF.out.size; omega)
        case measure => simp [intOf]; omega
    · obtain rfl : j = nc := by omega
      have hBw : Below w.heap.size w wr := HB0.out.trans (hF.toBelow (fun x hx => by rcases hx with hx | hx <;> omega) (by omega))
      have e1 : cs.take j = cs := List.take_of_length_le (by rw [← HNC.out]; exact Nat.le_refl _)
      rw [e1] at hG hfit
      obtain ⟨RA, rc, hov, _, _, hR⟩ := hG.rows EB.ok
      have hl : (cs.map (pick ps)).length = j := by rw [List.length_map]; exact HNC.out.symm
      rw [hl] at hov hR
      subst hov
      have HR := Lib.hid hR
      have HBw := Lib.hid hBw
      have HD := Lib.hid hD
      have HFT := Lib.hid hfit
      clear hR hBw hD hfit hG hF hob e1 hl
      go_wp2
      go_ret2
      exact ⟨HBw.out, .inl ⟨HFT.out, _, _, rfl, (EB.rows HR.out).mono (fun x hx => by rcases hx with h2 | h2; exact HD.out x h2; exact .inr h2.1)⟩⟩
end
end Go.Proofs.YtnjfogeefdmlkaaDoor
