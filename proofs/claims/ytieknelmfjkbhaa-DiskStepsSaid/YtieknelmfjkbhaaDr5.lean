/- The reference's Of. -/
import Derived.Test.YtieknelmfjkbhaaDr4
import Derived.IntWalk
namespace Go.Proofs.Ytieknelmfjkbhaa
open Go.RowKit

theorem own_set {w : World} {B e r n c : Nat} {xs : List Value} (h : w.ownsRow B e 1 (.slice (some ⟨r, 0, none⟩) n c) n xs) (j : Nat) (v : Value) : (w.setCell ⟨r, j, none⟩ v).ownsRow B e 1 (.slice (some ⟨r, 0, none⟩) n c) n (xs.set j v) := by
  refine ⟨by rw [List.length_set]; exact h.1, ?_⟩
  rcases h.2 with ⟨h1, _⟩ | ⟨g, cap, cur, hv, hB, hh, hn, hc, hs, ht⟩
  · cases h1
  · injection hv with h1 h2 h3
    injection h1 with h1
    injection h1 with h1
    subst h1
    refine .inr ⟨r, cap, cur.setIfInBounds j v, by rw [h3], hB, heap_setCell_at hh v, hn, hc, by simpa using hs, ?_⟩
    rw [← ht, Array.toList_setIfInBounds, List.take_set]
theorem Ho.set {Bq : Nat} {w : World} {vs : List Value} {ls : List (List UInt8)} (h : Ho Bq w vs ls) (j b c : Nat) (l : List UInt8) (ho : w.ownsRow Bq 5 1 (.slice (some ⟨b, 0, none⟩) 512 c) 512 (cells l)) : Ho Bq w (vs.set j (.slice (some ⟨b, 0, none⟩) 512 c)) (ls.set j l) := by
  refine ⟨by simp [h.1], fun i hi => ?_⟩
  rw [List.length_set] at hi
  by_cases e : j = i
  · subst e
    refine ⟨b, c, by rw [List.getElem?_set_self (by have := h.1; omega)], ?_⟩
    rw [List.getD, List.getElem?_set_self hi]
    exact ho
  · obtain ⟨b', c', h1, h2⟩ := h.2 i hi
    refine ⟨b', c', by rw [List.getElem?_set_ne e]; exact h1, ?_⟩
    rw [List.getD, List.getElem?_set_ne e, ← List.getD]
    exact h2

def secL (l : List UInt8) (i : Nat) : List UInt8 := (l.drop (512 * i)).take 512
/-- The first j sectors of l, and bytes 0, k in all. -/
def ofL (l : List UInt8) (k j : Nat) : List (List UInt8) := (List.range k).map fun i => if i < j then secL l i else zero512
theorem ofL_zero (l : List UInt8) (k : Nat) : ofL l k 0 = List.replicate k zero512 := by
  unfold ofL
  simp only [Nat.not_lt_zero, if_false]
  rw [List.map_const', List.length_range]
theorem ofL_set (l : List UInt8) (k j : Nat) : (ofL l k j).set j (secL l j) = ofL l k (j + 1) := by
  unfold ofL
  apply List.ext_getElem
  · simp
  · intro i h1 h2
    rw [List.getElem_set]
    simp only [List.getElem_map, List.getElem_range]
    by_cases e : j = i
    · subst e; simp
    · rw [if_neg e]
      by_cases h : i < j
      · rw [if_pos h, if_pos (by omega)]
      · rw [if_neg h, if_neg (by omega)]
theorem ofL_all (l : List UInt8) (k : Nat) : ofL l k k = (List.range k).map (secL l) := by
  unfold ofL
  apply List.map_congr_left
  intro i hi
  rw [if_pos (List.mem_range.1 hi)]

set_option maxRecDepth 20000 in
set_option maxHeartbeats 1000000 in
theorem ROf_any (B : Option Addr) (n cb k : Nat) (l : List UInt8) (w : World) (hr : Rd w B n l) (hn : n ≤ 4000) (hcb : n ≤ cb) (hcm : cb ≤ maxLen) (hk : n / 512 = k) :
    Calls Try.prog 26 #[.slice B n cb] w fun e w' => ∃ A c, e = .returned (rv A k c none 0 0 (-1) false 0 0) ∧ (∀ w'', w'.heap.size ≤ w''.heap.size → (∀ x, w.heap.size ≤ x → x < w'.heap.size → w''.heap[x]? = w'.heap[x]?) → RowsR w'' A k ((List.range k).map (secL l))) ∧ k ≤ c ∧ c ≤ maxLen ∧ Below w.heap.size w w' := by
  have hk7 : k ≤ 7 := by omega
  have hkn : 512 * k ≤ n := by omega
  have g1 : (n : Int) / 512 = (k : Int) := by omega
  obtain ⟨w1, hw1⟩ : ∃ w1, w1 = w.alloc (.cells #[.slice none 0 0, .slice none 0 0, .int .i64 0, .bool false, .int .i64 0, .int .i64 0] 30) := ⟨_, rfl⟩
  have hB1 : Below w.heap.size w w1 := by rw [hw1]; exact (Below.refl _ _).alloc (Nat.le_refl _) _
  have hRa : RAt w1 w.heap.size ⟨none, 0, 0, none, 0, 0, 0, false, 0, 0⟩ := by rw [hw1]; exact RAt.new w ⟨none, 0, 0, none, 0, 0, 0, false, 0, 0⟩
  have HB1 := Lib.hid hB1
  have HRA := Lib.hid hRa
  have HRB := Lib.hid hr
  have HK := Lib.hid hk
  unfold maxLen at hcm
  clear hB1 hRa hr hk
  go_enter Try.func26, Try.ntmps26
  go_wp2_with fail
  rw [← hw1]
  clear hw1
  refine (RNew_any k w1 hk7).mono ?_
  rintro e w2 ⟨A, c, vs, rfl, ho2, hH2, hB2⟩
  unfold rv
  obtain ⟨w3, hw3⟩ : ∃ w3, w3 = w2.alloc (.cells #[.slice A k c, .slice none 0 0, .int .i64 (-1), .bool false, .int .i64 0, .int .i64 0] 30) := ⟨_, rfl⟩
  have hB3 : Below w2.heap.size w2 w3 := by rw [hw3]; exact (Below.refl _ _).alloc (Nat.le_refl _) _
  have hR3 : RAt w3 w2.heap.size ⟨A, k, c, none, 0, 0, -1, false, 0, 0⟩ := by rw [hw3]; exact RAt.new w2 ⟨A, k, c, none, 0, 0, -1, false, 0, 0⟩
  have HRA3 := Lib.hid ((HRA.out.under hB2).under hB3)
  have HB3 := Lib.hid (HB1.out.trans ((hB2.trans (hB3.mono hB2.size)).mono HB1.out.size))
  have HR3 := Lib.hid hR3
  have HO3 := Lib.hid (own_keep ho2 hB3)
  have HH3 := Lib.hid (hH2.below hB3)
  have S12 := Lib.hid (Nat.le_trans HB1.out.size hB2.size)
  have S13 := Lib.hid (Nat.le_trans hB2.size hB3.size)
  have hlt1 : w.heap.size < w1.heap.size := HRA.out.lt
  have HLT1 := Lib.hid hlt1
  clear hB2 hB3 hR3 ho2 hH2 hlt1
  go_wp2
  try rw [← hw3]
  clear hw3
  go_loopw [4] (fun iv wr => ∃ (j : Nat) (vs : List Value), j ≤ k ∧ iv = .int .i64 j ∧ wr.ownsRow w1.heap.size 32 1 (.slice A k c) k vs ∧ Ho w1.heap.size wr vs (ofL l k j) ∧ Fr (fun x => (Value.slice A k c).ownBlock = some x) w3 wr) (fun iv _ => k - (intOf iv).toNat)
  case atStart => exact ⟨0, vs, Nat.zero_le _, rfl, HO3.out, by rw [ofL_zero]; exact HH3.out, Fr.refl _ _⟩
  case round =>
    obtain ⟨j, vs', hj, rfl, ho, hH, hF⟩ := hrel
    have hgne : ∀ x, (Value.slice A k c).ownBlock = some x → ¬ w2.heap.size = x := fun x hx e => by
      obtain ⟨C, hC⟩ := own_tag HO3.out hx
      rw [← e, show w3.heap[w2.heap.size]? = _ from HR3.out] at hC
      injection hC with hC
      injection hC with _ h2
      exact absurd h2 (by decide)
    have hRq : RAt wr w2.heap.size ⟨A, k, c, none, 0, 0, -1, false, 0, 0⟩ := (hF.block _ HR3.out.lt (fun e => hgne _ e rfl)).trans HR3.out
    by_cases hjn : j < k
    · obtain ⟨r, hA⟩ : ∃ r, A = some ⟨r, 0, none⟩ := by
        rcases ho.2 with ⟨h1, h2⟩ | ⟨g, cap, cur, h1, _⟩
        · omega
        · injection h1 with h1
          exact ⟨g, h1⟩
      subst hA
      have hgr : ¬ w2.heap.size = r := hgne r rfl
      have q0 : wr.cell? ⟨w2.heap.size, 0, none⟩ = some (.slice (some ⟨r, 0, none⟩) k c) := hRq.h0
      have q0d : wr.drew.cell? ⟨w2.heap.size, 0, none⟩ = some (.slice (some ⟨r, 0, none⟩) k c) := q0
      obtain ⟨wa, hwa⟩ : ∃ wa, wa = wr.alloc (.cells #[] 5) := ⟨_, rfl⟩
      have hBa : Below wr.heap.size wr wa := by rw [hwa]; exact (Below.refl _ _).alloc (Nat.le_refl _) _
      have q0a : (wr.alloc (.cells #[] 5)).cell? ⟨w2.heap.size, 0, none⟩ = some (.slice (some ⟨r, 0, none⟩) k c) := by rw [← hwa]; exact (hRq.under hBa).h0
      have q0ad : (wr.alloc (.cells #[] 5)).drew.cell? ⟨w2.heap.size, 0, none⟩ = some (.slice (some ⟨r, 0, none⟩) k c) := q0a
      have hoA : (wr.alloc (.cells #[] 5)).drew.ownsRow wr.heap.size 5 1 (.slice (some ⟨wr.heap.size, 0, none⟩) 0 0) 0 [] := (own_empty wr _ _ (Nat.le_refl _)).drew
      have hBr : Below w.heap.size w wr := HB3.out.trans (hF.toBelow (fun x hx => by have := (HO3.out.lt x hx).1; have := HB1.out.size; omega) HB3.out.size)
      obtain ⟨b0, o0, hB0, _, _⟩ := (HRB.out.below (Nat.le_refl _) hBr).2 (by omega)
      have hq : Rd (wr.alloc (.cells #[] 5)).drew (some ⟨b0, o0 + 512 * j, none⟩) 512 (secL l j) := by
        have := (HRB.out.below (Nat.le_refl _) hBr).part (lo := 512 * j) (m := 512) (by omega) (some ⟨b0, o0 + 512 * j, none⟩) (fun _ x y e => by rw [hB0] at e; injection e with e; injection e with e1 e2; subst e1; subst e2; rfl)
        exact (this.alloc _).drew
      subst hB0
      have hvl : j < vs'.length := by have := ho.1; omega
      have hold : ∃ v, vs'[j]? = some v := ⟨_, List.getElem?_eq_getElem hvl⟩
      obtain ⟨vold, hold⟩ := hold
      have HO := Lib.hid ho
      have HH := Lib.hid hH
      have HF := Lib.hid hF
      have HOLD := Lib.hid hold
      have hone : (0 : Int) ≤ 512 * (j : Int) := by omega
      have g2 : 512 * (j : Int) ≤ 512 * (j : Int) + 512 := by omega
      have g3 : 512 * (j : Int) + 512 ≤ (cb : Int) := by omega
      have g4 : ¬ cb = 512 * j := by omega
      have g6 : (512 * (j : Int)).toNat = 512 * j := by omega
      have g7 : (512 * (j : Int) + 512).toNat = 512 * j + 512 := by omega
      have g8 : 512 * j + 512 - 512 * j = 512 := by omega
      have g9 : IntKind.i64.wrap (512 * (j : Int)) = 512 * (j : Int) := IntWalk.i64_in _ ⟨by omega, by omega⟩
      have g10 : IntKind.i64.wrap (512 * (j : Int) + 512) = 512 * (j : Int) + 512 := IntWalk.i64_in _ ⟨by omega, by omega⟩
      have g11 : (0 : Int) ≤ (j : Int) := by omega
      have g12 : (j : Int) < (k : Int) := by omega
      clear ho hH hF hRq hwa hBa hold hvl hgne hBr
      go_wp2_with fail
      go_region_held3 (fun w' => w'.cell? ⟨w2.heap.size, 0, none⟩ = some (.slice (some ⟨r, 0, none⟩) k c)) (first
          | with_reducible exact q0
          | with_reducible exact q0d
          | with_reducible exact q0a
          | with_reducible exact q0ad
          | with_reducible exact q05
          | with_reducible exact q06) (first
        | (refine step_app _ bytesT rfl (.tmp 19) (.tmp 26) rfl wr.heap.size _ 0 [] rfl hoA _ 512 (cb - 512 * j) _ rfl hq (by decide) (by simp) ?_; intro v5 w5 ho5 hb5 hg5; rw [List.nil_append, Nat.zero_add] at ho5; obtain ⟨b5, c5, rfl⟩ : ∃ b5 c5, v5 = .slice (some ⟨b5, 0, none⟩) 512 c5 := (by rcases ho5.2 with ⟨h1, h2⟩ | ⟨g, cap, cur, h1, _⟩; exact absurd h2 (by decide); exact ⟨g, cap, h1⟩); have hB5 : Below wr.heap.size wr w5 := (((Below.refl _ _).alloc (Nat.le_refl _) _).drew).trans hb5; have q05 := (hB5.cell (p := ⟨w2.heap.size, 0, none⟩) (World.block_lt_of_cell? _ _ q0)).trans q0; have hrow5 := own_keep HO.out hB5; have k5 := hrow5.cells (g := r) rfl j _ HOLD.out; rw [Addr.add_lit, Nat.zero_add] at k5; have fz5 : w5.frozen? ⟨r, j, none⟩ = false := (by obtain ⟨C, hC⟩ := own_tag hrow5 (x := r) rfl; simp [World.frozen?, hC]); have q06 : (w5.setCell ⟨r, j, none⟩ (.slice (some ⟨b5, 0, none⟩) 512 c5)).cell? ⟨w2.heap.size, 0, none⟩ = some (.slice (some ⟨r, 0, none⟩) k c) := (by rw [World.cell?_of_block (w := w5) (a := ⟨w2.heap.size, 0, none⟩) (Below.heap_setCell w5 ⟨r, j, none⟩ _ _ hgr)]; exact q05)))
      all_goals
        obtain ⟨hd, hhd⟩ : ∃ hd, hd = Value.slice (some ⟨b5, 0, none⟩) 512 c5 := ⟨_, rfl⟩
        have htag : ∀ x, (∃ C, w5.heap[x]? = some (.cells C 5 (0, 0))) → ¬ x = r := fun x hx e => by
          obtain ⟨C, hC⟩ := hx
          obtain ⟨C', hC'⟩ := own_tag hrow5 (x := r) rfl
          rw [e, hC'] at hC
          injection hC with hC
          injection hC with _ h2
          exact absurd h2 (by decide)
        have hFs : Fr (· = r) w5 (w5.setCell ⟨r, j, none⟩ (.slice (some ⟨b5, 0, none⟩) 512 c5)) := Fr.setCell (own := (· = r)) w5 (p := ⟨r, j, none⟩) rfl _
        have hH6 := ((HH.out.below hB5).fr hFs htag).set j b5 c5 (secL l j) (own_mono (own_fr ho5 hFs (fun x hx => htag x (own_tag ho5 hx))) (Nat.le_trans S13.out HF.out.size))
        rw [ofL_set] at hH6
        have ho6 := own_set hrow5 j (.slice (some ⟨b5, 0, none⟩) 512 c5)
        have hF6 := (HF.out.trans (Fr.ofBelow _ hB5)).trans (hFs.mono (fun x hx => by rw [show x = r from hx]; rfl))
        have K6 := Lib.hid hH6
        have O6 := Lib.hid ho6
        have F6 := Lib.hid hF6
        clear hhd htag hFs hH6 ho6 hF6 ho5 hb5 hg5 hB5 q05 hrow5 k5 fz5 q06 q0 q0d q0a q0ad g6 g7 g8 g9 g10
        go_wp2
        go_roundw
        case rel => exact ⟨j + 1, _, hjn, by go_num, O6.out, K6.out, F6.out⟩
        case measure => simp [intOf]; omega
    · have e : j = k := by omega
      subst e
      have hown3 : ∀ x, (Value.slice A j c).ownBlock = some x → w1.heap.size ≤ x := fun x hx => (HO3.out.lt x hx).1
      have hRa : RAt wr w.heap.size ⟨none, 0, 0, none, 0, 0, 0, false, 0, 0⟩ := (hF.block w.heap.size HRA3.out.lt (fun e => by have := hown3 _ e; have := HLT1.out; omega)).trans HRA3.out
      have q0 := hRq.h0
      have HR := Lib.hid hRq
      have HO := Lib.hid ho
      have HH := Lib.hid hH
      have HF := Lib.hid hF
      have HRa := Lib.hid hRa
      have HW3 := Lib.hid hown3
      clear hRq ho hH hF hRa hgne hown3
      go_wp2_with (first
        | (refine wpList_ldR rfl (.tmp 3) rfl rfl HR.out ?_)
        | (refine wpList_stR rfl (.tmp 2) (.tmp 29) rfl rfl rfl HRa.out ?_; intro w5 hR5 hF5))
      refine bodyPost_ret (res_R rfl rfl hR5) rfl ?_
      have hB : Below w.heap.size w w5 := (HB3.out.trans (HF.out.toBelow (fun x hx => by have := HW3.out x hx; have := HLT1.out; omega) HB3.out.size)).trans (hF5.toBelow (fun x hx => by rw [show x = w.heap.size from hx]; exact Nat.le_refl _) (by have := HB3.out.size; have := HF.out.size; omega))
      have ho5 := own_fr HO.out hF5 (fun x hx e => by
        obtain ⟨C, hC⟩ := own_tag HO.out hx
        rw [show x = w.heap.size from e, show wr.heap[w.heap.size]? = _ from HRa.out] at hC
        injection hC with hC
        injection hC with _ h2
        exact absurd h2 (by decide))
      have hH5 := HH.out.fr hF5 (fun x hx e => by
        obtain ⟨C, hC⟩ := hx
        rw [show x = w.heap.size from e, show wr.heap[w.heap.size]? = _ from HRa.out] at hC
        injection hC with hC
        injection hC with _ h2
        exact absurd h2 (by decide))
      rw [ofL_all] at hH5
      obtain ⟨A6, c6, e6, h1, h2, h3⟩ := hH5.hd.rows ho5
      cases e6
      refine ⟨A, c, rfl, fun w'' hs hk => ?_, h1, h2, hB⟩
      have hk' : ∀ x, w1.heap.size ≤ x → x < w5.heap.size → w''.heap[x]? = w5.heap[x]? := fun x hx hx' => hk x (by have := HB1.out.size; omega) hx'
      obtain ⟨A7, c7, e7, _, _, h7⟩ := (hH5.from_ hk').hd.rows (own_from ho5 hk')
      cases e7
      exact h7
end Go.Proofs.Ytieknelmfjkbhaa
