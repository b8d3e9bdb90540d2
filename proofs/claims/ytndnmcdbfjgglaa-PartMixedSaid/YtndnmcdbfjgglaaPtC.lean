/- The contract of the document's Split. -/
import Derived.Test.YtndnmcdbfjgglaaPtB
namespace Go.Proofs.Ytndnmcdbfjgglaa
open Go.RowKit
set_option linter.unusedVariables false
set_option maxRecDepth 20000

/-- Bytes of one's own as an element. -/
theorem EPc.of_own {w : World} {B e : Nat} {v : Value} {m : Nat} {l : List UInt8} (h : w.ownsRow B e 1 v m (cells l)) : EPc (fun y => B ≤ y) w l [v] := by
  obtain ⟨A, c, rfl, hmc, _, hr⟩ := Rd.of_own h rfl
  refine ⟨A, m, c, rfl, ⟨A, m, c, rfl, hr, fun b o e hm => ⟨own_block h e, ?_⟩⟩, hmc⟩
  obtain ⟨b', o', e', hlt, _⟩ := hr.2 hm
  rw [e] at e'
  injection e' with e'
  injection e' with e1 e2
  rw [e1]
  exact hlt
/-- What the document's Split has between two rounds. -/
structure RsI (w wr : World) (lv : Value) (q : Nat) (s : Int) (b : List UInt8) (j : Nat) (vs : List Value) (D : Nat → Prop) : Prop where
  gr : Gr EPc 22 1 wr w.heap.size lv vs D (pcs q s b j)
  dd : ∀ y, D y → w.heap.size ≤ y
  bel : Below w.heap.size w wr
theorem RsI.next {w wr w2 w3 : World} {lv lv' : Value} {q : Nat} {s : Int} {b : List UInt8} {j : Nat} {vs : List Value} {D : Nat → Prop} (h : RsI w wr lv q s b j vs D) (hb2 : Below wr.heap.size wr w2) {x : Value}
    (hx : EPc (fun y => wr.heap.size ≤ y) w2 (piece q s b j) [x]) (ho : w3.ownsRow w.heap.size 22 1 lv' (j + 1) (vs ++ [x])) (hg : w2.grownBy w3 lv.ownBlock) (hv : lv'.ownBlock = lv.ownBlock ∨ lv'.ownBlock = some w2.heap.size) :
    ∃ vs' D', RsI w w3 lv' q s b (j + 1) vs' D' := by
  have g2 := h.gr.below EPc.ok hb2
  have hlen : (pcs q s b j).length = j := pcs_len q s b j
  have g3 := g2.put EPc.ok (K := fun y => wr.heap.size ≤ y) (r := [x]) rfl hx (fun y hy e => by have := (own_geB h.gr.ow e).2; omega) (by rw [hlen]; exact ho) hg hv
  rw [← pcs_succ] at g3
  refine ⟨_, _, g3, fun y hy => ?_, ?_⟩
  · rcases hy with hy | ⟨hy, _⟩
    · exact h.dd y hy
    · exact Nat.le_trans h.bel.size hy
  · have b2 : Below w.heap.size w w2 := h.bel.trans (hb2.mono h.bel.size)
    exact b2.grown hg b2.size (fun k hk => (own_geB h.gr.ow hk).1)
theorem RsI.next8 {w wr w8 w9 : World} {lv lv' : Value} {q : Nat} {s : Int} {b : List UInt8} {j m : Nat} {vs : List Value} {D : Nat → Prop} (h : RsI w wr lv q s b j vs D) {x : Value} {t : TypeId} (hb : Below wr.heap.size wr w8)
    (ho8 : w8.ownsRow wr.heap.size 5 1 x m (cells (numB 2 (j : Int)) ++ cells (numB 2 (q : Int)) ++ cells (numB 8 s) ++ cells (pcOwn b j))) (ho : w9.ownsRow w.heap.size 22 1 lv' (j + 1) (vs ++ [x]))
    (hg : (w8.alloc (.cells #[x] t)).grownBy w9 lv.ownBlock) (hv : lv'.ownBlock = lv.ownBlock ∨ lv'.ownBlock = some (w8.alloc (.cells #[x] t)).heap.size) :
    ∃ vs' D', RsI w w9 lv' q s b (j + 1) vs' D' := by
  have e : cells (numB 2 (j : Int)) ++ cells (numB 2 (q : Int)) ++ cells (numB 8 s) ++ cells (pcOwn b j) = cells (piece q s b j) := by simp [piece, pcHead, cells_append]
  rw [e] at ho8
  have ho8' := own_keep ho8 ((Below.refl _ w8).alloc (Nat.le_refl _) (.cells #[x] t))
  exact h.next (hb.trans ((Below.refl _ w8).alloc hb.size (.cells #[x] t))) (EPc.of_own ho8') ho hg hv
theorem RsI.own8 {w wr w8 : World} {lv : Value} {q : Nat} {s : Int} {b : List UInt8} {j : Nat} {vs : List Value} {D : Nat → Prop} {cs : Array Value} {t : TypeId} (h : RsI w wr lv q s b j vs D) (hb : Below wr.heap.size wr w8) : (w8.alloc (.cells cs t)).ownsRow w.heap.size 22 1 lv j vs := by
  have := h.gr.ow
  rw [pcs_len] at this
  exact (own_keep this hb).alloc _
theorem RsI.done {w wr : World} {lv : Value} {q : Nat} {s : Int} {b : List UInt8} {vs : List Value} {D : Nat → Prop} (h : RsI w wr lv q s b q vs D) : SplitP w (pcs q s b q) (.returned lv) wr := by
  obtain ⟨A, c, rfl, h1, _, h2⟩ := h.gr.rows EPc.ok
  refine ⟨A, _, c, rfl, h1, ?_, h.bel⟩
  exact PcsV.mono (K := fun x => D x ∨ (w.heap.size ≤ x ∧ x < wr.heap.size)) h2 (fun y hy => hy.elim (h.dd y) (fun k => k.1))
set_option maxHeartbeats 2000000 in
theorem RSplit_pos (A : Option Addr) (n c : Nat) (b : List UInt8) (s : Int) (w : World) (hr : Rd w A n b) (hc : n ≤ c) (hn : n ≤ 100000) (hcp : 0 < c) :
    Calls Try.prog 9 #[.int .i64 s, .slice A n c] w (SplitP w (splitL s b)) := by
  have hl := hr.1
  obtain ⟨q, hq⟩ : ∃ q, q = needN n := ⟨_, rfl⟩
  have hqb := needN_bd n
  rw [← hq] at hqb
  have hq2 : q ≤ 1024 := by omega
  have hS : splitL s b = pcs q (clampS s) b q := by rw [splitL_ok (by rw [hl, ← hq]; omega), hl, ← hq]
  rw [hS]
  have CN := Lib.hid (RNeed_any (n : Int) w (by omega))
  rw [needN_cast, ← hq] at CN
  have HR := Lib.hid hr
  have HL := Lib.hid hl
  have HQ := Lib.hid hqb
  have hzz : (s < 0 ∧ clampS s = 0) ∨ ((0 ≤ s ∧ s ≤ 281474976710656) ∧ clampS s = s) ∨ (281474976710656 < s ∧ clampS s = 281474976710656) := by unfold clampS; omega
  obtain ⟨z, hz⟩ : ∃ z, z = clampS s := ⟨_, rfl⟩
  rw [← hz] at hzz ⊢
  clear hr hl hq hqb hS hz
  rcases hzz with ⟨hs, hv⟩ | ⟨hs, hv⟩ | ⟨hs, hv⟩
  all_goals
    have HV := Lib.hid hv
    clear hv
    go_enter Try.func9, Try.ntmps9
    go_wp2_with (go_at_call 18; refine CN.out.mono ?_; rintro e w' ⟨rfl, rfl⟩)
    have I0 : Hid (RsI w w (.slice none 0 0) q z b 0 [] (fun _ => False)) := Lib.hid ⟨Gr.start (World.ownsRow_nil _ _ _ _) (Nat.le_refl _), fun _ h => h.elim, Below.refl _ _⟩
    clear hs
    go_loopw [6, 7] (fun lv iv wr => ∃ (j : Nat) (vs : List Value) (D : Nat → Prop), j ≤ q ∧ iv = .int .i64 j ∧ Hid (RsI w wr lv q z b j vs D)) (fun _ iv _ => q - (intOf iv).toNat)
    case atStart => exact ⟨0, [], _, Nat.zero_le _, rfl, I0⟩
    case round =>
      obtain ⟨j, vs, D, hj, rfl, HI⟩ := hrel
      by_cases hjq : j < q
      · have hjn : 460 * j ≤ n := by have := HQ.out; omega
        have N1 := Lib.hid (Num_any 2 (j : Int) wr)
        rw [wd_2] at N1
        have HB := Lib.hid HI.out.bel.size
        have HPW : Hid (∀ W, Below w.heap.size w W → ∀ (A' : Option Addr) (m : Nat), (0 < m → A' = A.map fun x => x.add (460 * j)) → m = min 460 (n - 460 * j) → Rd W A' m (pcOwn b j)) := Lib.hid (by
          rintro W hW A' m hA rfl
          have h1 := (HR.out.below (Nat.le_refl _) hW).part (lo := 460 * j) (m := min 460 (n - 460 * j)) (by omega) A' (fun h b' o' e => by rw [hA h, e]; simp [Addr.add_lit])
          have e : (b.drop (460 * j)).take (min 460 (n - 460 * j)) = pcOwn b j := by
            unfold pcOwn
            rw [Nat.mul_comm j 460, List.take_eq_take_iff, List.length_drop, HL.out]
            omega
          rwa [e] at h1)
        have hcj : 460 * j < c := by have := HQ.out; omega
        have hcase : 460 < n - 460 * j ∨ ¬ 460 < n - 460 * j := by omega
        rcases hcase with hbig | hbig
        all_goals
          go_wp2_with (first
            | (go_at_call 19; have _t := N1; refine N1.out.mono ?_; rintro e w3 ⟨v3, rfl, ho3, hb3⟩
               have N2 := Lib.hid (Num_any 2 (q : Int) w3)
               rw [wd_2] at N2
               have O3 := Lib.hid (And.intro ho3 hb3)
               clear ho3 hb3 N1)
            | (go_at_call 19; have _t := N2; refine N2.out.mono ?_; rintro e w4 ⟨v4, rfl, ho4, hb4⟩
               obtain ⟨A4, c4, rfl, _, _, hr4⟩ := Rd.of_own ho4 rfl
               have R4 := Lib.hid (And.intro hr4 (And.intro (own_keep O3.out.1 hb4) (O3.out.2.trans (hb4.mono O3.out.2.size))))
               clear ho4 hb4 hr4 N2)
            | (at_builtin; have _t := R4; refine wpList_app _ bytesT rfl (.tmp 34) (.tmp 36) rfl wr.heap.size v3 2 _ rfl R4.out.2.1 A4 2 c4 _ rfl R4.out.1 (by omega) R4.out.2.2.size ?_; intro v5 w5 ho5 hb5
               have N3 := Lib.hid (Num_any 8 z w5)
               rw [wd_8, HV.out] at N3
               have O5 := Lib.hid (And.intro ho5 (R4.out.2.2.trans hb5))
               clear ho5 hb5 R4)
            | (go_at_call 19; have _t := N3; refine N3.out.mono ?_; rintro e w6 ⟨v6, rfl, ho6, hb6⟩
               obtain ⟨A6, c6, rfl, _, _, hr6⟩ := Rd.of_own ho6 rfl
               rw [← HV.out] at hr6
               have R6 := Lib.hid (And.intro hr6 (And.intro (own_keep O5.out.1 hb6) (O5.out.2.trans (hb6.mono O5.out.2.size))))
               clear ho6 hb6 hr6 N3)
            | (at_builtin; have _t := R6; refine wpList_app _ bytesT rfl (.tmp 38) (.tmp 40) rfl wr.heap.size v5 4 _ rfl R6.out.2.1 A6 8 c6 _ rfl R6.out.1 (by omega) R6.out.2.2.size ?_; intro v7 w7 ho7 hb7
               have O7 := Lib.hid (And.intro ho7 (R6.out.2.2.trans hb7))
               have RP := Lib.hid (fun A' m h1 h2 => HPW.out w7 (HI.out.bel.trans (O7.out.2.mono HB.out)) A' m h1 h2)
               clear ho7 hb7 R6)
            | (at_builtin; have _t := RP; refine wpList_app _ bytesT rfl (.tmp 43) (.tmp 44) rfl wr.heap.size v7 12 _ rfl O7.out.1 _ _ _ (pcOwn b j) rfl (RP.out _ _ (fun h => by first | rfl | omega) (by omega)) (by omega) O7.out.2.size ?_; intro v8 w8 ho8 hb8
               obtain ⟨g8, c8, rfl, _, _⟩ := ho8.form (by omega)
               have O8 := Lib.hid (And.intro ho8 (O7.out.2.trans hb8))
               clear ho8 hb8 RP)
            | (at_builtin; have _t := O8; refine wpList_appX (K := fun y => w8.heap.size ≤ y) rowsT rfl (.tmp 42) (.tmp 46) rfl w.heap.size _ j vs rfl (HI.out.own8 O8.out.2) (some ⟨w8.heap.size, 0, none⟩) 1 1 [_] rfl (VRow.new w8 #[_] _ 1 1 rfl) (fun u hu => by simp at hu; rw [hu]; rfl) (by omega) (by decide) (by simp; exact Nat.le_succ_of_le (HI.out.bel.trans (O8.out.2.mono HB.out)).size) ?_; intro v9 w9 ho9 hg9 hv9
               have O9 := Lib.hid (And.intro ho9 (And.intro hg9 hv9))
               clear ho9 hg9 hv9))
          go_roundw
          case rel =>
            obtain ⟨vs', D', h'⟩ := HI.out.next8 O8.out.2 O8.out.1 O9.out.1 O9.out.2.1 O9.out.2.2
            exact ⟨j + 1, vs', D', hjq, by go_num, Lib.hid h'⟩
          case measure => simp [intOf]; omega
      · obtain rfl : j = q := by omega
        go_wp2
        go_ret
        exact HI.out.done
set_option maxHeartbeats 2000000 in
theorem RSplit_zero (A : Option Addr) (b : List UInt8) (s : Int) (w : World) (hr : Rd w A 0 b) :
    Calls Try.prog 9 #[.int .i64 s, .slice A 0 0] w (SplitP w (splitL s b)) := by
  have hl := hr.1
  obtain ⟨q, hq⟩ : ∃ q, q = needN 0 := ⟨_, rfl⟩
  have hqb := needN_bd 0
  rw [← hq] at hqb
  have hq2 : q ≤ 1024 := by omega
  have hS : splitL s b = pcs q (clampS s) b q := by rw [splitL_ok (by rw [hl, ← hq]; omega), hl, ← hq]
  rw [hS]
  have CN := Lib.hid (RNeed_any ((0 : Nat) : Int) w (by omega))
  rw [needN_cast, ← hq] at CN
  have HR := Lib.hid hr
  have HL := Lib.hid hl
  have HQ := Lib.hid hqb
  have hzz : (s < 0 ∧ clampS s = 0) ∨ ((0 ≤ s ∧ s ≤ 281474976710656) ∧ clampS s = s) ∨ (281474976710656 < s ∧ clampS s = 281474976710656) := by unfold clampS; omega
  obtain ⟨z, hz⟩ : ∃ z, z = clampS s := ⟨_, rfl⟩
  rw [← hz] at hzz ⊢
  clear hr hl hq hqb hS hz
  rcases hzz with ⟨hs, hv⟩ | ⟨hs, hv⟩ | ⟨hs, hv⟩
  all_goals
    have HV := Lib.hid hv
    clear hv
    go_enter Try.func9, Try.ntmps9
    go_wp2_with (go_at_call 18; refine CN.out.mono ?_; rintro e w' ⟨rfl, rfl⟩)
    have I0 : Hid (RsI w w (.slice none 0 0) q z b 0 [] (fun _ => False)) := Lib.hid ⟨Gr.start (World.ownsRow_nil _ _ _ _) (Nat.le_refl _), fun _ h => h.elim, Below.refl _ _⟩
    clear hs
    go_loopw [6, 7] (fun lv iv wr => ∃ (j : Nat) (vs : List Value) (D : Nat → Prop), j ≤ q ∧ iv = .int .i64 j ∧ Hid (RsI w wr lv q z b j vs D)) (fun _ iv _ => q - (intOf iv).toNat)
    case atStart => exact ⟨0, [], _, Nat.zero_le _, rfl, I0⟩
    case round =>
      obtain ⟨j, vs, D, hj, rfl, HI⟩ := hrel
      by_cases hjq : j < q
      · have hjn : 460 * j ≤ 0 := by have := HQ.out; omega
        have N1 := Lib.hid (Num_any 2 0 wr)
        rw [wd_2] at N1
        have HB := Lib.hid HI.out.bel.size
        have HPW : Hid (∀ W, Below w.heap.size w W → ∀ (A' : Option Addr) (m : Nat), (0 < m → A' = A.map fun x => x.add (460 * j)) → m = min 460 (0 - 460 * j) → Rd W A' m (pcOwn b j)) := Lib.hid (by
          rintro W hW A' m hA rfl
          have h1 := (HR.out.below (Nat.le_refl _) hW).part (lo := 460 * j) (m := min 460 (0 - 460 * j)) (by omega) A' (fun h b' o' e => by rw [hA h, e]; simp [Addr.add_lit])
          have e : (b.drop (460 * j)).take (min 460 (0 - 460 * j)) = pcOwn b j := by
            unfold pcOwn
            rw [Nat.mul_comm j 460, List.take_eq_take_iff, List.length_drop, HL.out]
            omega
          rwa [e] at h1)
        obtain rfl : j = 0 := by have := HQ.out; omega
        all_goals
          go_wp2_with (first
            | (go_at_call 19; have _t := N1; refine N1.out.mono ?_; rintro e w3 ⟨v3, rfl, ho3, hb3⟩
               have N2 := Lib.hid (Num_any 2 (q : Int) w3)
               rw [wd_2] at N2
               have O3 := Lib.hid (And.intro ho3 hb3)
               clear ho3 hb3 N1)
            | (go_at_call 19; have _t := N2; refine N2.out.mono ?_; rintro e w4 ⟨v4, rfl, ho4, hb4⟩
               obtain ⟨A4, c4, rfl, _, _, hr4⟩ := Rd.of_own ho4 rfl
               have R4 := Lib.hid (And.intro hr4 (And.intro (own_keep O3.out.1 hb4) (O3.out.2.trans (hb4.mono O3.out.2.size))))
               clear ho4 hb4 hr4 N2)
            | (at_builtin; have _t := R4; refine wpList_app _ bytesT rfl (.tmp 34) (.tmp 36) rfl wr.heap.size v3 2 _ rfl R4.out.2.1 A4 2 c4 _ rfl R4.out.1 (by omega) R4.out.2.2.size ?_; intro v5 w5 ho5 hb5
               have N3 := Lib.hid (Num_any 8 z w5)
               rw [wd_8, HV.out] at N3
               have O5 := Lib.hid (And.intro ho5 (R4.out.2.2.trans hb5))
               clear ho5 hb5 R4)
            | (go_at_call 19; have _t := N3; refine N3.out.mono ?_; rintro e w6 ⟨v6, rfl, ho6, hb6⟩
               obtain ⟨A6, c6, rfl, _, _, hr6⟩ := Rd.of_own ho6 rfl
               rw [← HV.out] at hr6
               have R6 := Lib.hid (And.intro hr6 (And.intro (own_keep O5.out.1 hb6) (O5.out.2.trans (hb6.mono O5.out.2.size))))
               clear ho6 hb6 hr6 N3)
            | (at_builtin; have _t := R6; refine wpList_app _ bytesT rfl (.tmp 38) (.tmp 40) rfl wr.heap.size v5 4 _ rfl R6.out.2.1 A6 8 c6 _ rfl R6.out.1 (by omega) R6.out.2.2.size ?_; intro v7 w7 ho7 hb7
               have O7 := Lib.hid (And.intro ho7 (R6.out.2.2.trans hb7))
               have RP := Lib.hid (fun A' m h1 h2 => HPW.out w7 (HI.out.bel.trans (O7.out.2.mono HB.out)) A' m h1 h2)
               clear ho7 hb7 R6)
            | (at_builtin; have _t := RP; refine wpList_app _ bytesT rfl (.tmp 43) (.tmp 44) rfl wr.heap.size v7 12 _ rfl O7.out.1 _ _ _ (pcOwn b 0) rfl (RP.out _ _ (fun h => by first | rfl | omega) (by omega)) (by omega) O7.out.2.size ?_; intro v8 w8 ho8 hb8
               obtain ⟨g8, c8, rfl, _, _⟩ := ho8.form (by omega)
               have O8 := Lib.hid (And.intro ho8 (O7.out.2.trans hb8))
               clear ho8 hb8 RP)
            | (at_builtin; have _t := O8; refine wpList_appX (K := fun y => w8.heap.size ≤ y) rowsT rfl (.tmp 42) (.tmp 46) rfl w.heap.size _ 0 vs rfl (HI.out.own8 O8.out.2) (some ⟨w8.heap.size, 0, none⟩) 1 1 [_] rfl (VRow.new w8 #[_] _ 1 1 rfl) (fun u hu => by simp at hu; rw [hu]; rfl) (by omega) (by decide) (by simp; exact Nat.le_succ_of_le (HI.out.bel.trans (O8.out.2.mono HB.out)).size) ?_; intro v9 w9 ho9 hg9 hv9
               have O9 := Lib.hid (And.intro ho9 (And.intro hg9 hv9))
               clear ho9 hg9 hv9))
          go_roundw
          case rel =>
            obtain ⟨vs', D', h'⟩ := HI.out.next8 O8.out.2 O8.out.1 O9.out.1 O9.out.2.1 O9.out.2.2
            exact ⟨1, vs', D', hjq, by go_num, Lib.hid h'⟩
          case measure => simp [intOf]; omega
      · obtain rfl : j = q := by omega
        go_wp2
        go_ret
        exact HI.out.done
theorem RSplit_any (A : Option Addr) (n c : Nat) (b : List UInt8) (s : Int) (w : World) (hr : Rd w A n b) (hc : n ≤ c) (hn : n ≤ 100000) :
    Calls Try.prog 9 #[.int .i64 s, .slice A n c] w (SplitP w (splitL s b)) := by
  rcases Nat.eq_zero_or_pos c with h0 | h0
  · subst h0
    obtain rfl : n = 0 := by omega
    exact RSplit_zero A b s w hr
  · exact RSplit_pos A n c b s w hr hc hn h0
end Go.Proofs.Ytndnmcdbfjgglaa
