/- The reference's New and Of. -/
import Derived.Test.YtieknelmfjkbhaaDr3
import Derived.Deep.RegionHeld3
namespace Go.Proofs.Ytieknelmfjkbhaa
open Go.RowKit

/-- Values that are slices of 512 bytes in blocks of bytes. -/
def Ho (Bq : Nat) (w : World) (vs : List Value) (ls : List (List UInt8)) : Prop :=
  vs.length = ls.length ∧ ∀ j (_ : j < ls.length), ∃ b' c', vs[j]? = some (.slice (some ⟨b', 0, none⟩) 512 c') ∧ w.ownsRow Bq 5 1 (.slice (some ⟨b', 0, none⟩) 512 c') 512 (cells (ls.getD j []))
theorem Ho.hd {Bq : Nat} {w : World} {vs : List Value} {ls : List (List UInt8)} (h : Ho Bq w vs ls) : Hd w vs ls :=
  ⟨h.1, fun j hj => by
    obtain ⟨b', c', h1, h2⟩ := h.2 j hj
    obtain ⟨A, c, e, hc, hm, hr⟩ := Rd.of_own h2 rfl
    cases e
    exact ⟨b', 0, c', h1, hc, hm, hr⟩⟩
theorem Ho.fr {Bq : Nat} {w w' : World} {q : Nat → Prop} {vs : List Value} {ls : List (List UInt8)} (h : Ho Bq w vs ls) (hf : Fr q w w') (hq : ∀ x, (∃ C, w.heap[x]? = some (.cells C 5 (0, 0))) → ¬ q x) : Ho Bq w' vs ls :=
  ⟨h.1, fun j hj => by
    obtain ⟨b', c', h1, h2⟩ := h.2 j hj
    exact ⟨b', c', h1, own_fr h2 hf (fun x hx => hq x (own_tag h2 hx))⟩⟩
theorem Ho.below {Bq : Nat} {w w' : World} {vs : List Value} {ls : List (List UInt8)} (h : Ho Bq w vs ls) (hb : Below w.heap.size w w') : Ho Bq w' vs ls := h.fr (Fr.ofBelow (fun _ => False) hb) (fun _ _ hx => hx)
theorem Ho.snoc {Bq : Nat} {w : World} {vs : List Value} {ls : List (List UInt8)} (h : Ho Bq w vs ls) (b c : Nat) (l : List UInt8) (ho : w.ownsRow Bq 5 1 (.slice (some ⟨b, 0, none⟩) 512 c) 512 (cells l)) : Ho Bq w (vs ++ [.slice (some ⟨b, 0, none⟩) 512 c]) (ls ++ [l]) := by
  refine ⟨by simp [h.1], fun j hj => ?_⟩
  by_cases hj' : j < ls.length
  · obtain ⟨b', c', h1, h2⟩ := h.2 j hj'
    refine ⟨b', c', by rw [List.getElem?_append_left (by have := h.1; omega)]; exact h1, ?_⟩
    rw [List.getD, List.getElem?_append_left hj', ← List.getD]; exact h2
  · have e : j = ls.length := by simp at hj; omega
    subst e
    refine ⟨b, c, by rw [← h.1]; simp, ?_⟩
    simpa [List.getD] using ho

/-- What is owned from B on stays where all blocks from B on do. -/
theorem own_from {w w' : World} {B : Nat} {e : TypeId} {n : Nat} {v : Value} {xs : List Value} (h : w.ownsRow B e 1 v n xs) (hk : ∀ x, B ≤ x → x < w.heap.size → w'.heap[x]? = w.heap[x]?) : w'.ownsRow B e 1 v n xs :=
  ⟨h.1, h.2.elim .inl fun ⟨g, cap, cur, e1, e2, hh, r⟩ => .inr ⟨g, cap, cur, e1, e2, (hk g e2 (Array.getElem?_eq_some_iff.1 hh).1).trans hh, r⟩⟩
theorem Ho.from_ {Bq : Nat} {w w' : World} {vs : List Value} {ls : List (List UInt8)} (h : Ho Bq w vs ls) (hk : ∀ x, Bq ≤ x → x < w.heap.size → w'.heap[x]? = w.heap[x]?) : Ho Bq w' vs ls :=
  ⟨h.1, fun j hj => by obtain ⟨b', c', h1, h2⟩ := h.2 j hj; exact ⟨b', c', h1, own_from h2 hk⟩⟩
theorem Ho.mono {Bq Bq' : Nat} {w : World} {vs : List Value} {ls : List (List UInt8)} (h : Ho Bq w vs ls) (hB : Bq' ≤ Bq) : Ho Bq' w vs ls :=
  ⟨h.1, fun j hj => by obtain ⟨b', c', h1, h2⟩ := h.2 j hj; exact ⟨b', c', h1, own_mono h2 hB⟩⟩

theorem RCut_own (A : Option Addr) (n c : Nat) (l : List UInt8) (w : World) (hr : Rd w A n l) :
    Calls Try.prog 32 #[.slice A n c, .int .i64 512] w fun e w' => ∃ b c1, e = .returned (.slice (some ⟨b, 0, none⟩) 512 c1) ∧ w'.ownsRow w.heap.size 5 1 (.slice (some ⟨b, 0, none⟩) 512 c1) 512 (cells (cut 512 l)) ∧ Below w.heap.size w w' :=
  (RCut_any A n c l 512 w hr (by decide)).mono fun _ _ ⟨v, he, ho, hb⟩ => by
    rcases ho.2 with ⟨_, h2⟩ | ⟨g, cap, cur, rfl, _⟩
    · cases h2
    · exact ⟨g, cap, he, ho, hb⟩

def zero512 : List UInt8 := cut 512 []
theorem zero512_len : zero512.length = 512 := cut_length _ _

set_option maxRecDepth 20000 in
set_option maxHeartbeats 1000000 in
theorem RNew_any (k : Nat) (w : World) (hk : k ≤ 7) :
    Calls Try.prog 9 #[.int .i64 k] w fun e w' => ∃ A c vs, e = .returned (rv A k c none 0 0 (-1) false 0 0) ∧ w'.ownsRow w.heap.size 32 1 (.slice A k c) k vs ∧ Ho w.heap.size w' vs (List.replicate k zero512) ∧ Below w.heap.size w w' := by
  obtain ⟨w1, hw1⟩ : ∃ w1, w1 = (w.alloc (.cells #[.slice none 0 0, .slice none 0 0, .int .i64 0, .bool false, .int .i64 0, .int .i64 0] 30)).alloc (.cells #[.slice none 0 0, .slice none 0 0, .int .i64 (-1), .bool false, .int .i64 0, .int .i64 0] 30) := ⟨_, rfl⟩
  have hB1 : Below w.heap.size w w1 := by rw [hw1]; exact ((Below.refl _ _).alloc (Nat.le_refl _) _).alloc (by simp) _
  have hRa : RAt w1 w.heap.size ⟨none, 0, 0, none, 0, 0, 0, false, 0, 0⟩ := by rw [hw1]; exact (RAt.new w ⟨none, 0, 0, none, 0, 0, 0, false, 0, 0⟩).under ((Below.refl _ _).alloc (Nat.le_refl _) _)
  have hRb : RAt w1 (w.heap.size + 1) ⟨none, 0, 0, none, 0, 0, -1, false, 0, 0⟩ := by
    have := RAt.new (w.alloc (.cells #[.slice none 0 0, .slice none 0 0, .int .i64 0, .bool false, .int .i64 0, .int .i64 0] 30)) ⟨none, 0, 0, none, 0, 0, -1, false, 0, 0⟩
    rw [World.size_alloc] at this
    rw [hw1]; exact this
  have hs1 : w1.heap.size = w.heap.size + 2 := by rw [hw1]; simp
  have HB1 := Lib.hid hB1
  have HRA := Lib.hid hRa
  have HRB := Lib.hid hRb
  have HS1 := Lib.hid hs1
  clear hB1 hRa hRb hs1
  go_enter Try.func9, Try.ntmps9
  go_wp2
  rw [← hw1]
  clear hw1
  go_loopw [4] (fun iv wr => ∃ (j : Nat) (A : Option Addr) (c : Nat) (vs : List Value), j ≤ k ∧ iv = .int .i64 j ∧ RAt wr (w.heap.size + 1) ⟨A, j, c, none, 0, 0, -1, false, 0, 0⟩ ∧ wr.ownsRow w1.heap.size 32 1 (.slice A j c) j vs ∧ Ho w.heap.size wr vs (List.replicate j zero512) ∧ Fr (· = w.heap.size + 1) w1 wr) (fun iv _ => k - (intOf iv).toNat)
  case atStart => exact ⟨0, none, 0, [], Nat.zero_le _, rfl, HRB.out, World.ownsRow_nil _ _ _ _, ⟨rfl, fun j hj => absurd hj (Nat.not_lt_zero j)⟩, Fr.refl _ _⟩
  case round =>
    obtain ⟨j, A, c, vs, hj, rfl, hR, ho, hH, hF⟩ := hrel
    by_cases hjn : j < k
    · have q0 : wr.cell? ⟨w.heap.size + 1, 0, none⟩ = some (.slice A j c) := hR.h0
      have q0d : wr.drew.cell? ⟨w.heap.size + 1, 0, none⟩ = some (.slice A j c) := q0
      have HR := Lib.hid hR
      have HO := Lib.hid ho
      have HH := Lib.hid hH
      have HF := Lib.hid hF
      clear hR ho hH hF
      go_wp2_with fail
      go_region_law (first
        | (go_simp; go_at_call 32; refine (RCut_own none 0 0 [] _ (Rd.nil _ _)).mono ?_; rintro e w3 ⟨b3, c3, rfl, ho3, hB3⟩; have hR3 := HR.out.under (w' := w3) (((Below.refl _ _).drew).trans hB3); have q03 := hR3.h0; have hB4 : Below w3.heap.size w3 (w3.alloc (.cells #[.slice (some ⟨b3, 0, none⟩) 512 c3] 32)) := (Below.refl _ _).alloc (Nat.le_refl _) _; have hR4 := hR3.under hB4; have q04 := hR4.h0; have ho4 : (w3.alloc (.cells #[.slice (some ⟨b3, 0, none⟩) 512 c3] 32)).ownsRow w1.heap.size 32 1 (.slice A j c) j vs := own_keep (own_keep HO.out (((Below.refl _ _).drew).trans hB3)) hB4; have hone : ∀ u ∈ [Value.slice (some ⟨b3, 0, none⟩) 512 c3], u.oneCell' = true := fun u hu => by rw [List.mem_singleton.1 hu]; rfl)
        | (refine step_appV listT rfl (.tmp 16) (.tmp 18) rfl w1.heap.size _ j vs rfl ho4 ⟨w3.heap.size, 0, none⟩ 1 1 [.slice (some ⟨b3, 0, none⟩) 512 c3] rfl rfl (cell_one_new _ _ _) hone (by omega) (by decide) (by have := HF.out.size; have := hB3.size; simp at *; omega) ?_; intro v5 w5 ho5 hg5 _; obtain ⟨A5, c5, rfl, _, _⟩ : ∃ A c, v5 = .slice A (j + 1) c ∧ True ∧ True := (by rcases ho5.2 with ⟨h1, h2⟩ | ⟨g, cap, cur, h1, _⟩; exact absurd h2 (by omega); exact ⟨_, _, h1, trivial, trivial⟩); have hne5 : some (w.heap.size + 1) ≠ (Value.slice A j c).ownBlock := (fun e => by obtain ⟨C, hC⟩ := own_tag ho4 e.symm; rw [show (w3.alloc _).heap[w.heap.size + 1]? = _ from hR4] at hC; injection hC with hC; injection hC with _ h2; exact absurd h2 (by decide)); have hR5 : RAt w5 (w.heap.size + 1) ⟨A, j, c, none, 0, 0, -1, false, 0, 0⟩ := (hg5.block _ hR4.lt hne5).trans hR4; have q05 := hR5.h0; have f05 := hR5.fz 0))
      all_goals
        have hgR : (w3.alloc (.cells #[.slice (some ⟨b3, 0, none⟩) 512 c3] 32)).heap[w.heap.size + 1]? = some (.cells _ 30 (0, 0)) := hR4
        have hB34 : Below wr.heap.size wr (w3.alloc (.cells #[.slice (some ⟨b3, 0, none⟩) 512 c3] 32)) := (((Below.refl _ _).drew).trans hB3).trans (hB4.mono (by have := hB3.size; simpa using this))
        have hH4 : Ho w.heap.size (w3.alloc (.cells #[.slice (some ⟨b3, 0, none⟩) 512 c3] 32)) (vs ++ [.slice (some ⟨b3, 0, none⟩) 512 c3]) (List.replicate (j + 1) zero512) := by
          rw [List.replicate_succ']
          exact (HH.out.below hB34).snoc b3 c3 _ (own_keep (own_mono ho3 (by have := HB1.out.size; have := HF.out.size; simp; omega)) hB4)
        have hH5 := hH4.fr (Fr.grown hg5 (own := fun x => (Value.slice A j c).ownBlock = some x) (fun x e => e)) (fun x hx e => by
          obtain ⟨C, hC⟩ := hx
          obtain ⟨C', hC'⟩ := own_tag ho4 e
          rw [hC] at hC'
          injection hC' with hC'
          injection hC' with _ h2
          exact absurd h2 (by decide))
        have hH6 := hH5.fr (Fr.setCell (own := (· = w.heap.size + 1)) w5 (p := ⟨w.heap.size + 1, 0, none⟩) rfl (.slice A5 (j + 1) c5)) (fun x hx e => by
          obtain ⟨C, hC⟩ := hx
          rw [show x = w.heap.size + 1 from e, show w5.heap[w.heap.size + 1]? = _ from hR5] at hC
          injection hC with hC
          injection hC with _ h2
          exact absurd h2 (by decide))
        have ho6 := own_fr ho5 (Fr.setCell (own := (· = w.heap.size + 1)) w5 (p := ⟨w.heap.size + 1, 0, none⟩) rfl (.slice A5 (j + 1) c5)) (fun x hx e => by
          obtain ⟨C, hC⟩ := own_tag ho5 hx
          rw [show x = w.heap.size + 1 from e, show w5.heap[w.heap.size + 1]? = _ from hR5] at hC
          injection hC with hC
          injection hC with _ h2
          exact absurd h2 (by decide))
        have hR6 : RAt (w5.setCell ⟨w.heap.size + 1, 0, none⟩ (.slice A5 (j + 1) c5)) (w.heap.size + 1) ⟨A5, j + 1, c5, none, 0, 0, -1, false, 0, 0⟩ := heap_setCell_at hR5 _
        have hF6 : Fr (· = w.heap.size + 1) w1 (w5.setCell ⟨w.heap.size + 1, 0, none⟩ (.slice A5 (j + 1) c5)) := ((HF.out.trans (Fr.ofBelow _ hB34)).trans' (Fr.grown hg5 (own := fun x => (Value.slice A j c).ownBlock = some x) (fun x e => e)) (fun x hx => .inr (HO.out.lt x hx).1)).trans (Fr.setCell (own := (· = w.heap.size + 1)) w5 (p := ⟨w.heap.size + 1, 0, none⟩) rfl _)
        have K6 := Lib.hid hH6
        have O6 := Lib.hid ho6
        have R6 := Lib.hid hR6
        have F6 := Lib.hid hF6
        clear hgR hB34 hH4 hH5 hH6 ho6 hR6 hF6 ho3 hB3 hR3 q03 hB4 hR4 q04 ho4 hone ho5 hg5 hne5 hR5 q05 f05 HR HO HH HF q0 q0d
        go_wp2
        go_roundw
        case rel => exact ⟨j + 1, A5, c5, _, hjn, by go_num, R6.out, O6.out, K6.out, F6.out⟩
        case measure => simp [intOf]; omega
    · have e : j = k := by omega
      subst e
      have hRa : RAt wr w.heap.size ⟨none, 0, 0, none, 0, 0, 0, false, 0, 0⟩ := (hF.block w.heap.size HRA.out.lt (fun e => by have e' : w.heap.size = w.heap.size + 1 := e; omega)).trans HRA.out
      have HR := Lib.hid hR
      have HO := Lib.hid ho
      have HH := Lib.hid hH
      have HF := Lib.hid hF
      have HRa := Lib.hid hRa
      clear hR ho hH hF hRa
      go_wp2_with (first
        | (refine wpList_ldR rfl (.tmp 3) rfl rfl HR.out ?_)
        | (refine wpList_stR rfl (.tmp 2) (.tmp 21) rfl rfl rfl HRa.out ?_; intro w5 hR5 hF5))
      refine bodyPost_ret (res_R rfl rfl hR5) rfl ?_
      have hB : Below w.heap.size w w5 := (HB1.out.trans (HF.out.toBelow (fun x hx => by rw [show x = w.heap.size + 1 from hx]; omega) (by have := HS1.out; omega))).trans (hF5.toBelow (fun x hx => by rw [show x = w.heap.size from hx]; exact Nat.le_refl _) (by have := HB1.out.size; have := HF.out.size; omega))
      refine ⟨A, c, vs, rfl, own_mono (own_fr HO.out hF5 (fun x hx e => by
        obtain ⟨C, hC⟩ := own_tag HO.out hx
        rw [show x = w.heap.size from e, show wr.heap[w.heap.size]? = _ from HRa.out] at hC
        injection hC with hC
        injection hC with _ h2
        exact absurd h2 (by decide))) HB1.out.size, HH.out.fr hF5 (fun x hx e => by
        obtain ⟨C, hC⟩ := hx
        rw [show x = w.heap.size from e, show wr.heap[w.heap.size]? = _ from HRa.out] at hC
        injection hC with hC
        injection hC with _ h2
        exact absurd h2 (by decide)), hB⟩
end Go.Proofs.Ytieknelmfjkbhaa
