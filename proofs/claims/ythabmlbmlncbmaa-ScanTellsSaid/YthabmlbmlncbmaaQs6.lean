/- PtC, CdM, LeR, LeRB, LeRP, CdP, CdA, OpnF, Opn, CdO, Cat, ByC, CdF, CdG -/
import Derived.Test.YthabmlbmlncbmaaQs1
import Derived.Test.YthabmlbmlncbmaaQs2
import Derived.Test.YthabmlbmlncbmaaQs4
import Derived.Test.YthabmlbmlncbmaaQs5
import Derived.BigQuiet
import Derived.Deep.QuietTactic
import Derived.Deep.Slices
import Derived.Deep.Fields
import Derived.ChangeSame
import Derived.Lib.SmallJoins
import Derived.Lib.AppendZeros
import Derived.Deep.WholeRow
import Derived.Carry
import Derived.Lib.SliceRun
import Derived.Deep.RegionHeld3
import Derived.Deep.DeepCutAuto
namespace Go.Proofs.Ythabmlbmlncbmaa
open Go.RowKit
set_option linter.unusedVariables false
set_option maxRecDepth 20000
theorem EPc.of_own {w : World} {B e : Nat} {v : Value} {m : Nat} {l : List UInt8} (h : w.ownsRow B e 1 v m (cells l)) : EPc (fun y => B <= y) w l [v] := by
  obtain ⟨A, c, rfl, hmc, _, hr⟩ := Rd.of_own h rfl
  refine ⟨A, m, c, rfl, ⟨A, m, c, rfl, hr, fun b o e hm => ⟨own_block h e, ?_⟩⟩, hmc⟩
  obtain ⟨b', o', e', hlt, _⟩ := hr.2 hm
  rw [e] at e'
  injection e' with e'
  injection e' with e1 e2
  rw [e1]
  exact hlt
structure RsI (w wr : World) (lv : Value) (q : Nat) (s : Int) (b : List UInt8) (j : Nat) (vs : List Value) (D : Nat -> Prop) : Prop where
  gr : Gr EPc 35 1 wr w.heap.size lv vs D (pcs q s b j)
  dd : ∀ y, D y -> w.heap.size <= y
  bel : Below w.heap.size w wr
theorem RsI.next {w wr w2 w3 : World} {lv lv' : Value} {q : Nat} {s : Int} {b : List UInt8} {j : Nat} {vs : List Value} {D : Nat -> Prop} (h : RsI w wr lv q s b j vs D) (hb2 : Below wr.heap.size wr w2) {x : Value}
    (hx : EPc (fun y => wr.heap.size <= y) w2 (piece q s b j) [x]) (ho : w3.ownsRow w.heap.size 35 1 lv' (j + 1) (vs ++ [x])) (hg : w2.grownBy w3 lv.ownBlock) (hv : lv'.ownBlock = lv.ownBlock \/ lv'.ownBlock = some w2.heap.size) :
    ∃ vs' D', RsI w w3 lv' q s b (j + 1) vs' D' := by
  have g2 := h.gr.below EPc.ok hb2
  have hlen : (pcs q s b j).length = j := pcs_len q s b j
  have g3 := g2.put EPc.ok (K := fun y => wr.heap.size <= y) (r := [x]) rfl hx (fun y hy e => by have := (own_geB h.gr.ow e).2; omega) (by rw [hlen]; exact ho) hg hv
  rw [<- pcs_succ] at g3
  refine ⟨_, _, g3, fun y hy => ?_, ?_⟩
  · rcases hy with hy | ⟨hy, _⟩
    · exact h.dd y hy
    · exact Nat.le_trans h.bel.size hy
  · have b2 : Below w.heap.size w w2 := h.bel.trans (hb2.mono h.bel.size)
    exact b2.grown hg b2.size (fun k hk => (own_geB h.gr.ow hk).1)
theorem RsI.next8 {w wr w8 w9 : World} {lv lv' : Value} {q : Nat} {s : Int} {b : List UInt8} {j m : Nat} {vs : List Value} {D : Nat -> Prop} (h : RsI w wr lv q s b j vs D) {x : Value} {t : TypeId} (hb : Below wr.heap.size wr w8)
    (ho8 : w8.ownsRow wr.heap.size 5 1 x m (cells (numB 2 (j : Int)) ++ cells (numB 2 (q : Int)) ++ cells (numB 8 s) ++ cells (pcOwn b j))) (ho : w9.ownsRow w.heap.size 35 1 lv' (j + 1) (vs ++ [x]))
    (hg : (w8.alloc (.cells #[x] t)).grownBy w9 lv.ownBlock) (hv : lv'.ownBlock = lv.ownBlock \/ lv'.ownBlock = some (w8.alloc (.cells #[x] t)).heap.size) :
    ∃ vs' D', RsI w w9 lv' q s b (j + 1) vs' D' := by
  have e : cells (numB 2 (j : Int)) ++ cells (numB 2 (q : Int)) ++ cells (numB 8 s) ++ cells (pcOwn b j) = cells (piece q s b j) := by simp [piece, pcHead, cells_append]
  rw [e] at ho8
  have ho8' := own_keep ho8 ((Below.refl _ w8).alloc (Nat.le_refl _) (.cells #[x] t))
  exact h.next (hb.trans ((Below.refl _ w8).alloc hb.size (.cells #[x] t))) (EPc.of_own ho8') ho hg hv
theorem RsI.own8 {w wr w8 : World} {lv : Value} {q : Nat} {s : Int} {b : List UInt8} {j : Nat} {vs : List Value} {D : Nat -> Prop} {cs : Array Value} {t : TypeId} (h : RsI w wr lv q s b j vs D) (hb : Below wr.heap.size wr w8) : (w8.alloc (.cells cs t)).ownsRow w.heap.size 35 1 lv j vs := by
  have := h.gr.ow
  rw [pcs_len] at this
  exact (own_keep this hb).alloc _
theorem RsI.done {w wr : World} {lv : Value} {q : Nat} {s : Int} {b : List UInt8} {vs : List Value} {D : Nat -> Prop} (h : RsI w wr lv q s b q vs D) : SplitP w (pcs q s b q) (.returned lv) wr := by
  obtain ⟨A, c, rfl, h1, _, h2⟩ := h.gr.rows EPc.ok
  refine ⟨A, _, c, rfl, h1, ?_, h.bel⟩
  exact PcsV.mono (K := fun x => D x \/ (w.heap.size <= x /\ x < wr.heap.size)) h2 (fun y hy => hy.elim (h.dd y) (fun k => k.1))
set_option maxHeartbeats 2000000 in
theorem RSplit_pos (A : Option Addr) (n c : Nat) (b : List UInt8) (s : Int) (w : World) (hr : Rd w A n b) (hc : n <= c) (hn : n <= 100000) (hcp : 0 < c) :
    Calls Try.prog 50 #[.int .i64 s, .slice A n c] w (SplitP w (splitL s b)) := by
  have hl := hr.1
  obtain ⟨q, hq⟩ : ∃ q, q = needN n := ⟨_, rfl⟩
  have hqb := needN_bd n
  rw [<- hq] at hqb
  have hq2 : q <= 1024 := by omega
  have hS : splitL s b = pcs q (clampS s) b q := by rw [splitL_ok (by rw [hl, <- hq]; omega), hl, <- hq]
  rw [hS]
  have CN := hi_ (RNeed_any (n : Int) w (by omega))
  rw [needN_cast, <- hq] at CN
  have HR := hi_ hr
  have HL := hi_ hl
  have HQ := hi_ hqb
  have hzz : (s < 0 /\ clampS s = 0) \/ ((0 <= s /\ s <= 281474976710656) /\ clampS s = s) \/ (281474976710656 < s /\ clampS s = 281474976710656) := by unfold clampS; omega
  obtain ⟨z, hz⟩ : ∃ z, z = clampS s := ⟨_, rfl⟩
  rw [<- hz] at hzz ⊢
  clear hr hl hq hqb hS hz
  rcases hzz with ⟨hs, hv⟩ | ⟨hs, hv⟩ | ⟨hs, hv⟩
  all_goals
    have HV := hi_ hv
    clear hv
    go_enter Try.func50, Try.ntmps50
    go_wp2_with (go_at_call 68; refine CN.out.mono ?_; rintro e w' ⟨rfl, rfl⟩)
    have I0 : Hid (RsI w w (.slice none 0 0) q z b 0 [] (fun _ => False)) := hi_ ⟨Gr.start (World.ownsRow_nil _ _ _ _) (Nat.le_refl _), fun _ h => h.elim, Below.refl _ _⟩
    clear hs
    go_loopw [6, 7] (fun lv iv wr => ∃ (j : Nat) (vs : List Value) (D : Nat -> Prop), j <= q /\ iv = .int .i64 j /\ Hid (RsI w wr lv q z b j vs D)) (fun _ iv _ => q - (intOf iv).toNat)
    case atStart => exact ⟨0, [], _, Nat.zero_le _, rfl, I0⟩
    case round =>
      obtain ⟨j, vs, D, hj, rfl, HI⟩ := hrel
      by_cases hjq : j < q
      · have hjn : 460 * j <= n := by have := HQ.out; omega
        have N1 := hi_ (Num_any 2 (j : Int) wr)
        rw [wd_2] at N1
        have HB := hi_ HI.out.bel.size
        have HPW : Hid (∀ W, Below w.heap.size w W -> ∀ (A' : Option Addr) (m : Nat), (0 < m -> A' = A.map fun x => x.add (460 * j)) -> m = min 460 (n - 460 * j) -> Rd W A' m (pcOwn b j)) := hi_ (by
          rintro W hW A' m hA rfl
          have h1 := (HR.out.below (Nat.le_refl _) hW).part (lo := 460 * j) (m := min 460 (n - 460 * j)) (by omega) A' (fun h b' o' e => by rw [hA h, e]; simp [Addr.add_lit])
          have e : (b.drop (460 * j)).take (min 460 (n - 460 * j)) = pcOwn b j := by
            unfold pcOwn
            rw [Nat.mul_comm j 460, List.take_eq_take_iff, List.length_drop, HL.out]
            omega
          rwa [e] at h1)
        have hcj : 460 * j < c := by have := HQ.out; omega
        have hcase : 460 < n - 460 * j \/ ¬ 460 < n - 460 * j := by omega
        rcases hcase with hbig | hbig
        all_goals
          go_wp2_with (first
            | (go_at_call 47; have _t := N1; refine N1.out.mono ?_; rintro e w3 ⟨v3, rfl, ho3, hb3⟩
               have N2 := hi_ (Num_any 2 (q : Int) w3)
               rw [wd_2] at N2
               have O3 := hi_ (And.intro ho3 hb3)
               clear ho3 hb3 N1)
            | (go_at_call 47; have _t := N2; refine N2.out.mono ?_; rintro e w4 ⟨v4, rfl, ho4, hb4⟩
               obtain ⟨A4, c4, rfl, _, _, hr4⟩ := Rd.of_own ho4 rfl
               have R4 := hi_ (And.intro hr4 (And.intro (own_keep O3.out.1 hb4) (O3.out.2.trans (hb4.mono O3.out.2.size))))
               clear ho4 hb4 hr4 N2)
            | (at_builtin; have _t := R4; refine wpList_app _ bytesT rfl (.tmp 34) (.tmp 36) rfl wr.heap.size v3 2 _ rfl R4.out.2.1 A4 2 c4 _ rfl R4.out.1 (by omega) R4.out.2.2.size ?_; intro v5 w5 ho5 hb5
               have N3 := hi_ (Num_any 8 z w5)
               rw [wd_8, HV.out] at N3
               have O5 := hi_ (And.intro ho5 (R4.out.2.2.trans hb5))
               clear ho5 hb5 R4)
            | (go_at_call 47; have _t := N3; refine N3.out.mono ?_; rintro e w6 ⟨v6, rfl, ho6, hb6⟩
               obtain ⟨A6, c6, rfl, _, _, hr6⟩ := Rd.of_own ho6 rfl
               rw [<- HV.out] at hr6
               have R6 := hi_ (And.intro hr6 (And.intro (own_keep O5.out.1 hb6) (O5.out.2.trans (hb6.mono O5.out.2.size))))
               clear ho6 hb6 hr6 N3)
            | (at_builtin; have _t := R6; refine wpList_app _ bytesT rfl (.tmp 38) (.tmp 40) rfl wr.heap.size v5 4 _ rfl R6.out.2.1 A6 8 c6 _ rfl R6.out.1 (by omega) R6.out.2.2.size ?_; intro v7 w7 ho7 hb7
               have O7 := hi_ (And.intro ho7 (R6.out.2.2.trans hb7))
               have RP := hi_ (fun A' m h1 h2 => HPW.out w7 (HI.out.bel.trans (O7.out.2.mono HB.out)) A' m h1 h2)
               clear ho7 hb7 R6)
            | (at_builtin; have _t := RP; refine wpList_app _ bytesT rfl (.tmp 43) (.tmp 44) rfl wr.heap.size v7 12 _ rfl O7.out.1 _ _ _ (pcOwn b j) rfl (RP.out _ _ (fun h => by first | rfl | omega) (by omega)) (by omega) O7.out.2.size ?_; intro v8 w8 ho8 hb8
               obtain ⟨g8, c8, rfl, _, _⟩ := ho8.form (by omega)
               have O8 := hi_ (And.intro ho8 (O7.out.2.trans hb8))
               clear ho8 hb8 RP)
            | (at_builtin; have _t := O8; refine wpList_appX (K := fun y => w8.heap.size <= y) rowsT rfl (.tmp 42) (.tmp 46) rfl w.heap.size _ j vs rfl (HI.out.own8 O8.out.2) (some ⟨w8.heap.size, 0, none⟩) 1 1 [_] rfl (VRow.new w8 #[_] _ 1 1 rfl) (fun u hu => by simp at hu; rw [hu]; rfl) (by omega) (by decide) (by simp; exact Nat.le_succ_of_le (HI.out.bel.trans (O8.out.2.mono HB.out)).size) ?_; intro v9 w9 ho9 hg9 hv9
               have O9 := hi_ (And.intro ho9 (And.intro hg9 hv9))
               clear ho9 hg9 hv9))
          go_roundw
          case rel =>
            obtain ⟨vs', D', h'⟩ := HI.out.next8 O8.out.2 O8.out.1 O9.out.1 O9.out.2.1 O9.out.2.2
            exact ⟨j + 1, vs', D', hjq, by go_num, hi_ h'⟩
          case measure => simp [intOf]; omega
      · obtain rfl : j = q := by omega
        go_wp2
        go_ret
        exact HI.out.done
set_option maxHeartbeats 2000000 in
theorem RSplit_zero (A : Option Addr) (b : List UInt8) (s : Int) (w : World) (hr : Rd w A 0 b) :
    Calls Try.prog 50 #[.int .i64 s, .slice A 0 0] w (SplitP w (splitL s b)) := by
  have hl := hr.1
  obtain ⟨q, hq⟩ : ∃ q, q = needN 0 := ⟨_, rfl⟩
  have hqb := needN_bd 0
  rw [<- hq] at hqb
  have hq2 : q <= 1024 := by omega
  have hS : splitL s b = pcs q (clampS s) b q := by rw [splitL_ok (by rw [hl, <- hq]; omega), hl, <- hq]
  rw [hS]
  have CN := hi_ (RNeed_any ((0 : Nat) : Int) w (by omega))
  rw [needN_cast, <- hq] at CN
  have HR := hi_ hr
  have HL := hi_ hl
  have HQ := hi_ hqb
  have hzz : (s < 0 /\ clampS s = 0) \/ ((0 <= s /\ s <= 281474976710656) /\ clampS s = s) \/ (281474976710656 < s /\ clampS s = 281474976710656) := by unfold clampS; omega
  obtain ⟨z, hz⟩ : ∃ z, z = clampS s := ⟨_, rfl⟩
  rw [<- hz] at hzz ⊢
  clear hr hl hq hqb hS hz
  rcases hzz with ⟨hs, hv⟩ | ⟨hs, hv⟩ | ⟨hs, hv⟩
  all_goals
    have HV := hi_ hv
    clear hv
    go_enter Try.func50, Try.ntmps50
    go_wp2_with (go_at_call 68; refine CN.out.mono ?_; rintro e w' ⟨rfl, rfl⟩)
    have I0 : Hid (RsI w w (.slice none 0 0) q z b 0 [] (fun _ => False)) := hi_ ⟨Gr.start (World.ownsRow_nil _ _ _ _) (Nat.le_refl _), fun _ h => h.elim, Below.refl _ _⟩
    clear hs
    go_loopw [6, 7] (fun lv iv wr => ∃ (j : Nat) (vs : List Value) (D : Nat -> Prop), j <= q /\ iv = .int .i64 j /\ Hid (RsI w wr lv q z b j vs D)) (fun _ iv _ => q - (intOf iv).toNat)
    case atStart => exact ⟨0, [], _, Nat.zero_le _, rfl, I0⟩
    case round =>
      obtain ⟨j, vs, D, hj, rfl, HI⟩ := hrel
      by_cases hjq : j < q
      · have hjn : 460 * j <= 0 := by have := HQ.out; omega
        have N1 := hi_ (Num_any 2 0 wr)
        rw [wd_2] at N1
        have HB := hi_ HI.out.bel.size
        have HPW : Hid (∀ W, Below w.heap.size w W -> ∀ (A' : Option Addr) (m : Nat), (0 < m -> A' = A.map fun x => x.add (460 * j)) -> m = min 460 (0 - 460 * j) -> Rd W A' m (pcOwn b j)) := hi_ (by
          rintro W hW A' m hA rfl
          have h1 := (HR.out.below (Nat.le_refl _) hW).part (lo := 460 * j) (m := min 460 (0 - 460 * j)) (by omega) A' (fun h b' o' e => by rw [hA h, e]; simp [Addr.add_lit])
          have e : (b.drop (460 * j)).take (min 460 (0 - 460 * j)) = pcOwn b j := by
            unfold pcOwn
            rw [Nat.mul_comm j 460, List.take_eq_take_iff, List.length_drop, HL.out]
            omega
          rwa [e] at h1)
        obtain rfl : j = 0 := by have := HQ.out; omega
        all_goals
          go_wp2_with (first
            | (go_at_call 47; have _t := N1; refine N1.out.mono ?_; rintro e w3 ⟨v3, rfl, ho3, hb3⟩
               have N2 := hi_ (Num_any 2 (q : Int) w3)
               rw [wd_2] at N2
               have O3 := hi_ (And.intro ho3 hb3)
               clear ho3 hb3 N1)
            | (go_at_call 47; have _t := N2; refine N2.out.mono ?_; rintro e w4 ⟨v4, rfl, ho4, hb4⟩
               obtain ⟨A4, c4, rfl, _, _, hr4⟩ := Rd.of_own ho4 rfl
               have R4 := hi_ (And.intro hr4 (And.intro (own_keep O3.out.1 hb4) (O3.out.2.trans (hb4.mono O3.out.2.size))))
               clear ho4 hb4 hr4 N2)
            | (at_builtin; have _t := R4; refine wpList_app _ bytesT rfl (.tmp 34) (.tmp 36) rfl wr.heap.size v3 2 _ rfl R4.out.2.1 A4 2 c4 _ rfl R4.out.1 (by omega) R4.out.2.2.size ?_; intro v5 w5 ho5 hb5
               have N3 := hi_ (Num_any 8 z w5)
               rw [wd_8, HV.out] at N3
               have O5 := hi_ (And.intro ho5 (R4.out.2.2.trans hb5))
               clear ho5 hb5 R4)
            | (go_at_call 47; have _t := N3; refine N3.out.mono ?_; rintro e w6 ⟨v6, rfl, ho6, hb6⟩
               obtain ⟨A6, c6, rfl, _, _, hr6⟩ := Rd.of_own ho6 rfl
               rw [<- HV.out] at hr6
               have R6 := hi_ (And.intro hr6 (And.intro (own_keep O5.out.1 hb6) (O5.out.2.trans (hb6.mono O5.out.2.size))))
               clear ho6 hb6 hr6 N3)
            | (at_builtin; have _t := R6; refine wpList_app _ bytesT rfl (.tmp 38) (.tmp 40) rfl wr.heap.size v5 4 _ rfl R6.out.2.1 A6 8 c6 _ rfl R6.out.1 (by omega) R6.out.2.2.size ?_; intro v7 w7 ho7 hb7
               have O7 := hi_ (And.intro ho7 (R6.out.2.2.trans hb7))
               have RP := hi_ (fun A' m h1 h2 => HPW.out w7 (HI.out.bel.trans (O7.out.2.mono HB.out)) A' m h1 h2)
               clear ho7 hb7 R6)
            | (at_builtin; have _t := RP; refine wpList_app _ bytesT rfl (.tmp 43) (.tmp 44) rfl wr.heap.size v7 12 _ rfl O7.out.1 _ _ _ (pcOwn b 0) rfl (RP.out _ _ (fun h => by first | rfl | omega) (by omega)) (by omega) O7.out.2.size ?_; intro v8 w8 ho8 hb8
               obtain ⟨g8, c8, rfl, _, _⟩ := ho8.form (by omega)
               have O8 := hi_ (And.intro ho8 (O7.out.2.trans hb8))
               clear ho8 hb8 RP)
            | (at_builtin; have _t := O8; refine wpList_appX (K := fun y => w8.heap.size <= y) rowsT rfl (.tmp 42) (.tmp 46) rfl w.heap.size _ 0 vs rfl (HI.out.own8 O8.out.2) (some ⟨w8.heap.size, 0, none⟩) 1 1 [_] rfl (VRow.new w8 #[_] _ 1 1 rfl) (fun u hu => by simp at hu; rw [hu]; rfl) (by omega) (by decide) (by simp; exact Nat.le_succ_of_le (HI.out.bel.trans (O8.out.2.mono HB.out)).size) ?_; intro v9 w9 ho9 hg9 hv9
               have O9 := hi_ (And.intro ho9 (And.intro hg9 hv9))
               clear ho9 hg9 hv9))
          go_roundw
          case rel =>
            obtain ⟨vs', D', h'⟩ := HI.out.next8 O8.out.2 O8.out.1 O9.out.1 O9.out.2.1 O9.out.2.2
            exact ⟨1, vs', D', hjq, by go_num, hi_ h'⟩
          case measure => simp [intOf]; omega
      · obtain rfl : j = q := by omega
        go_wp2
        go_ret
        exact HI.out.done
theorem RSplit_any (A : Option Addr) (n c : Nat) (b : List UInt8) (s : Int) (w : World) (hr : Rd w A n b) (hc : n <= c) (hn : n <= 100000) :
    Calls Try.prog 50 #[.int .i64 s, .slice A n c] w (SplitP w (splitL s b)) := by
  rcases Nat.eq_zero_or_pos c with h0 | h0
  · subst h0
    obtain rfl : n = 0 := by omega
    exact RSplit_zero A b s w hr
  · exact RSplit_pos A n c b s w hr hc hn h0
end Go.Proofs.Ythabmlbmlncbmaa
namespace Go.Proofs.Ythabmlbmlncbmaa
open Go.RowKit
structure Cd where
  d : Int
  lc : Bool
  ix : Int
  gn : Int
  cp : Int
  dt : List UInt8
abbrev Cd.zero : Cd := ⟨0, false, 0, 0, 0, []⟩
abbrev Cd.cs (x : Cd) (A : Option Addr) (n c : Nat) : Array Value := #[.int .i64 x.d, .bool x.lc, .int .i64 x.ix, .int .i64 x.gn, .int .i64 x.cp, .slice A n c]
def Cd.plain (x : Cd) : Cd :=
  if x.d = 0 then ⟨0, false, 0, 0, 0, []⟩
  else if x.d = 1 then ⟨1, x.lc, x.ix, if x.lc then 0 else x.gn, 0, []⟩
  else if x.d = 2 then ⟨2, x.lc, x.ix, if x.lc then 0 else x.gn, x.cp, x.dt⟩
  else if x.d = 3 then ⟨3, x.lc, x.ix, if x.lc then 0 else x.gn, x.cp, []⟩
  else x
def Cd.check (x : Cd) : Int := if 0 <= x.d /\ x.d <= 3 then (if x.dt.length <= 64 then 0 else 13) else 1
def Cd.tgt (x : Cd) : List UInt8 := if x.lc then numB 1 1 ++ numB 8 x.ix else numB 1 0 ++ numB 8 x.ix ++ numB 8 x.gn
def Cd.bytes (x : Cd) : List UInt8 :=
  if x.d = 0 then numB 1 0
  else if x.d = 1 then numB 1 1 ++ x.tgt
  else if x.d = 2 then numB 1 2 ++ x.tgt ++ numB 8 x.cp ++ numB 2 x.dt.length ++ x.dt
  else if x.d = 3 then numB 1 3 ++ x.tgt ++ numB 8 x.cp
  else [255]
theorem cd_cases (d : Int) : d = 0 \/ d = 1 \/ d = 2 \/ d = 3 \/ (d < 0 \/ 3 < d) := by omega
theorem Cd.tgt_len (x : Cd) : x.tgt.length <= 17 := by unfold Cd.tgt; split <;> simp
theorem Cd.bytes_len (x : Cd) : x.bytes.length <= 28 + x.dt.length := by
  have := x.tgt_len
  unfold Cd.bytes
  repeat' split
  all_goals (simp; try omega)
end Go.Proofs.Ythabmlbmlncbmaa
namespace Go.Proofs.Ythabmlbmlncbmaa
open Go.RowKit
set_option linter.unusedVariables false
abbrev RS := List UInt8 × Bool
def rdNum (k : Nat) (st : RS) : Int × RS :=
  if st.2 = true then (0, st) else if st.1.length < k then (0, (st.1, true)) else (getV (st.1.take k), (st.1.drop k, false))
def RdrIs (N : Nat) (w : World) (p : Nat) (st : RS) : Prop :=
  ∃ A n c, w.heap[p]? = some (.cells #[.slice A n c, .bool st.2] 139 (0, 0)) /\ Rd w A n st.1 /\ n <= c /\ c <= maxLen /\ n <= 1073741824 /\ p < N /\ ∀ a, A = some a -> a.block ≠ p /\ a.block < N
section
variable {w w' : World} {p N : Nat} {st : RS}
theorem RdrIs.below (h : RdrIs N w p st) (hb : Below w.heap.size w w') : RdrIs N w' p st := by
  obtain ⟨A, n, c, h1, h2, h3, h4, h5, hpN, h6⟩ := h
  exact ⟨A, n, c, (hb.block p (Array.getElem?_eq_some_iff.1 h1).1).trans h1, h2.below (Nat.le_refl _) hb, h3, h4, h5, hpN, h6⟩
theorem RdrIs.stay (h : RdrIs N w p st) {B : Nat} (hN : N <= B) (hb : Below B w w') : RdrIs N w' p st := by
  obtain ⟨A, n, c, h1, h2, h3, h4, h5, hp, h6⟩ := h
  exact ⟨A, n, c, (hb.block p (by omega)).trans h1, h2.below' hb (fun hn => by
    obtain ⟨b, o, e, _, _⟩ := h2.2 hn
    have := (h6 _ e).2
    exact ⟨b, o, e, Nat.lt_of_lt_of_le this hN⟩), h3, h4, h5, hp, h6⟩
theorem OK_any (h : RdrIs N w p st) : Calls Try.prog 106 #[.pointer (some ⟨p, 0, none⟩)] w fun e w' => e = .returned (.bool (!st.2)) /\ w = w' := by
  obtain ⟨A, n, c, h1, h2, h3, h4, h5, hpN, h6⟩ := h
  have c1 : w.cell? ⟨p, 1, none⟩ = some (.bool st.2) := cell_of_row _ _ 1 _ _ _ h1
  clear h1 h2 h6
  go_enter Try.func106, Try.ntmps106
  go_wp2
  go_ret
  exact ⟨rfl, rfl⟩
theorem Left_any (h : RdrIs N w p st) : Calls Try.prog 101 #[.pointer (some ⟨p, 0, none⟩)] w fun e w' => e = .returned (.int .i64 (st.1.length : Nat)) /\ w = w' := by
  obtain ⟨A, n, c, h1, h2, h3, h4, h5, hpN, h6⟩ := h
  have c0 : w.cell? ⟨p, 0, none⟩ = some (.slice A n c) := cell_of_row _ _ 0 _ _ _ h1
  have hl := h2.1
  clear h1 h2 h6
  go_enter Try.func101, Try.ntmps101
  go_wp2
  go_ret
  exact ⟨ret_int (by rw [hl]), rfl⟩
theorem take_off (l : List UInt8) (h : RdrIs N w p (l, true)) (k : Nat) :
    Calls Try.prog 107 #[.pointer (some ⟨p, 0, none⟩), .int .i64 k] w fun e w' => e = .returned (.slice none 0 0) /\ w = w' := by
  have H := hi_ h
  clear h
  go_enter Try.func107, Try.ntmps107
  go_wp2_with (go_at_call 106; refine (OK_any H.out).mono ?_; rintro e w' ⟨rfl, rfl⟩)
  go_ret
  exact ⟨rfl, rfl⟩
theorem take_short (l : List UInt8) (h : RdrIs N w p (l, false)) (k : Nat) (hk : k <= 1073741824) (hs : l.length < k) :
    Calls Try.prog 107 #[.pointer (some ⟨p, 0, none⟩), .int .i64 k] w fun e w' => e = .returned (.slice none 0 0) /\ RdrIs N w' p (l, true) /\ Fr (· = p) w w' := by
  have H := hi_ h
  obtain ⟨A, n, c, h1, h2, h3, h4, h5, hpN, h6⟩ := h
  have c0 : w.cell? ⟨p, 0, none⟩ = some (.slice A n c) := cell_of_row _ _ 0 _ _ _ h1
  have f1 : w.frozen? ⟨p, 1, none⟩ = false := frozen_of_row w p 1 _ _ h1
  have c1 : w.cell? ⟨p, 1, none⟩ = some (.bool false) := cell_of_row _ _ 1 _ _ _ h1
  have hl := h2.1
  have hR : RdrIs N (w.setCell ⟨p, 1, none⟩ (.bool true)) p (l, true) := by
    refine ⟨A, n, c, ?_, h2.fr (Fr.setCell w (own := (· = p)) rfl _) (fun b o e _ => (h6 _ e).1), h3, h4, h5, hpN, h6⟩
    have := heap_setCell_at (j := 1) h1 (.bool true)
    simpa using this
  have HR := hi_ hR
  clear h1 h2 h6 hR
  go_enter Try.func107, Try.ntmps107
  go_wp2_with (first
    | (go_at_call 106; refine (OK_any H.out).mono ?_; rintro e w' ⟨rfl, rfl⟩)
    | (go_at_call 85; refine (part_high A n c 0 k w (by omega) hk h5 (by omega)).mono ?_; rintro e w' ⟨rfl, rfl⟩))
  go_ret
  exact ⟨rfl, HR.out, Fr.setCell w (own := (· = p)) rfl _⟩
theorem part_at (A : Option Addr) (n c : Nat) (k : Nat) (w : World) (hc : n <= c) (h1 : 1 <= k) (hk : k <= 1073741824) (hn : n <= 1073741824) (h : k <= n) :
    Calls Try.prog 85 #[.slice A n c, .int .i64 0, .int .i64 k] w fun e w' => e = .returned (.tuple #[.slice A k k, .bool true]) /\ w = w' := by
  have h0 : ¬ k = 0 := by omega
  go_enter Try.func85, Try.ntmps85
  go_wp2
  go_ret2
  exact ⟨rfl, rfl⟩
theorem take_yes (l : List UInt8) (h : RdrIs N w p (l, false)) (k : Nat) (hk1 : 1 <= k) (hk : k <= 1073741824) (hs : k <= l.length) :
    Calls Try.prog 107 #[.pointer (some ⟨p, 0, none⟩), .int .i64 k] w fun e w' => ∃ A, e = .returned (.slice A k k) /\ Rd w' A k (l.take k) /\ RdrIs N w' p (l.drop k, false) /\ Fr (· = p) w w' := by
  have H := hi_ h
  obtain ⟨A, n, c, h1, h2, h3, h4, h5, hpN, h6⟩ := h
  have c0 : w.cell? ⟨p, 0, none⟩ = some (.slice A n c) := cell_of_row _ _ 0 _ _ _ h1
  have f0 : w.frozen? ⟨p, 0, none⟩ = false := frozen_of_row w p 0 _ _ h1
  have hl := h2.1
  simp only at h1 h2 hl
  have H1 := hi_ h1
  have H2 := hi_ h2
  have H6 := hi_ h6
  have hkn : k <= n := by omega
  have hset : ∀ v, (w.setCell ⟨p, 0, none⟩ v).heap[p]? = some (.cells #[v, .bool false] 139 (0, 0)) := fun v => by
    have := heap_setCell_at (j := 0) h1 v
    simpa using this
  have hfr : ∀ v, Fr (· = p) w (w.setCell ⟨p, 0, none⟩ v) := fun v => Fr.setCell w (own := (· = p)) rfl v
  have hA : ∀ v, Rd (w.setCell ⟨p, 0, none⟩ v) A k (l.take k) := fun v => by
    have h := (h2.part (lo := 0) (m := k) (by omega) A (fun _ b o e => by rw [e]; rfl)).fr (hfr v) (fun b o e _ => (h6 _ e).1)
    rw [List.drop_zero] at h
    exact h
  have HSET := hi_ hset
  have HFR := hi_ hfr
  have HA := hi_ hA
  clear h1 h2 h6 hs hset hfr hA
  by_cases hck : c = k
  · subst hck
    obtain rfl : n = c := by omega
    go_enter Try.func107, Try.ntmps107
    go_wp2_with (first
      | (go_at_call 106; refine (OK_any H.out).mono ?_; rintro e w' ⟨rfl, rfl⟩)
      | (go_at_call 85; refine (part_at A n n n w h3 hk1 hk h5 hkn).mono ?_; rintro e w' ⟨rfl, rfl⟩))
    go_ret
    refine ⟨A, rfl, HA.out _, ⟨A, 0, 0, HSET.out _, ?_, Nat.le_refl _, Nat.zero_le _, Nat.zero_le _, hpN, H6.out⟩, HFR.out _⟩
    rw [List.drop_of_length_le (by omega)]
    exact Rd.nil _ _
  · have hkc : k < c := by omega
    go_enter Try.func107, Try.ntmps107
    go_wp2_with (first
      | (go_at_call 106; refine (OK_any H.out).mono ?_; rintro e w' ⟨rfl, rfl⟩)
      | (go_at_call 85; refine (part_at A n c k w h3 hk1 hk h5 hkn).mono ?_; rintro e w' ⟨rfl, rfl⟩))
    go_ret
    have hb : ∀ a, (A.map fun x => x.add k) = some a -> a.block ≠ p /\ a.block < N := fun a e => by
      cases A with
      | none => cases e
      | some a' =>
        simp only [Option.map_some, Option.some.injEq] at e
        rw [<- e, block_add]
        exact H6.out a' rfl
    refine ⟨A, rfl, HA.out _, ⟨A.map fun x => x.add k, n - k, c - k, HSET.out _, ?_, by omega, by omega, by omega, hpN, hb⟩, HFR.out _⟩
    have h := (H2.out.part (lo := k) (m := n - k) (by omega) (A.map fun x => x.add k) (fun _ b o e => by rw [e]; simp [Addr.add_lit])).fr (HFR.out (.slice (A.map fun x => x.add k) (n - k) (c - k))) (fun b o e _ => (hb _ e).1)
    rw [List.take_of_length_le (by simp; omega)] at h
    exact h
theorem RNumK_any (h : RdrIs N w p st) (k : Nat) (hk : 1 <= k /\ k <= 8) :
    Calls Try.prog 103 #[.pointer (some ⟨p, 0, none⟩), .int .i64 k] w fun e w' => e = .returned (.int .i64 (rdNum k st).1) /\ RdrIs N w' p (rdNum k st).2 /\ Fr (· = p) w w' := by
  obtain ⟨l, m⟩ := st
  have hwd : wd (k : Int) = k := by have := wd_cast (k : Int); omega
  have hn := nearest_wd (k : Int) w
  rw [hwd] at hn
  have HN := hi_ hn
  clear hn
  cases m
  · by_cases hs : l.length < k
    · have e1 : rdNum k (l, false) = (0, (l, true)) := by simp [rdNum, hs]
      rw [e1]
      have cT := hi_ (take_short l h k (by omega) hs)
      clear h e1
      go_enter Try.func103, Try.ntmps103
      go_wp2_with (first
        | (go_at_call 86; refine HN.out.mono ?_; rintro e w' ⟨rfl, rfl⟩)
        | (go_at_call 107; refine cT.out.mono ?_; rintro e w2 ⟨rfl, hr2, hf2⟩)
        | (go_at_call 73; refine (Get_no none 0 0 0 k w2 (by omega) (by rw [hwd]; omega)).mono ?_; rintro e w' ⟨rfl, rfl⟩))
      go_ret
      exact ⟨rfl, hr2, hf2⟩
    · have e1 : rdNum k (l, false) = (getV (l.take k), (l.drop k, false)) := by simp [rdNum, hs]
      rw [e1]
      have cT := hi_ (take_yes l h k (by omega) (by omega) (by omega))
      have hlk : (l.take k).length = k := by simp; omega
      have cG : ∀ A W, Rd W A k (l.take k) -> Calls Try.prog 73 #[.slice A k k, .int .i64 0, .int .i64 k] W fun e w' => e = .returned (.tuple #[.int .i64 (getV (l.take k)), .bool true]) /\ W = w' := fun A W hr => by
        have c := Get_yes A k k (l.take k) 0 k W hr (Nat.le_refl _) (by omega) (by rw [hwd]; omega)
        rw [hwd, List.drop_zero, List.take_take, Nat.min_self] at c
        exact c
      have CG := hi_ cG
      clear h e1 cG
      go_enter Try.func103, Try.ntmps103
      go_wp2_with (first
        | (go_at_call 86; refine HN.out.mono ?_; rintro e w' ⟨rfl, rfl⟩)
        | (go_at_call 107; refine cT.out.mono ?_; rintro e w2 ⟨A2, rfl, hR2, hr2, hf2⟩)
        | (go_at_call 73; refine (CG.out A2 w2 hR2).mono ?_; rintro e w' ⟨rfl, rfl⟩))
      go_ret
      exact ⟨rfl, hr2, hf2⟩
  · have e1 : rdNum k (l, true) = (0, (l, true)) := by simp [rdNum]
    rw [e1]
    have H := hi_ h
    have cT := hi_ (take_off l h k)
    clear h e1
    go_enter Try.func103, Try.ntmps103
    go_wp2_with (first
      | (go_at_call 86; refine HN.out.mono ?_; rintro e w' ⟨rfl, rfl⟩)
      | (go_at_call 107; refine cT.out.mono ?_; rintro e w' ⟨rfl, rfl⟩)
      | (go_at_call 73; refine (Get_no none 0 0 0 k w (by omega) (by rw [hwd]; omega)).mono ?_; rintro e w' ⟨rfl, rfl⟩))
    go_ret
    exact ⟨rfl, H.out, Fr.refl _ _⟩
theorem RRead_any (A : Option Addr) (n c : Nat) (l : List UInt8) (w : World) (hr : Rd w A n l) (hn : n <= 1000000) :
    Calls Try.prog 99 #[.slice A n c] w fun e w' => ∃ p, e = .returned (.pointer (some ⟨p, 0, none⟩)) /\ w.heap.size <= p /\ RdrIs w'.heap.size w' p (l, false) /\ Below w.heap.size w w' := by
  go_enter Try.func99, Try.ntmps99
  go_wp2_with (go_at_call 98; refine (roomy_any A n c l 0 w hr (by omega) (by omega) (by omega)).mono ?_; rintro e w1 ⟨v1, rfl, ho1, hb1⟩; obtain ⟨A1, c1, rfl, hc1, hm1, hr1⟩ := Rd.of_own ho1 rfl)
  go_ret
  have hB := hb1.alloc hb1.size (.cells #[.slice A1 n c1, .bool false] 139)
  refine ⟨w1.heap.size, rfl, hb1.size, ⟨A1, n, c1, heap_alloc_new w1 _, hr1.alloc _, hc1, hm1, by omega, by simp, fun a e => ?_⟩, hB⟩
  have hlt : a.block < w1.heap.size := by
    rcases ho1.2 with ⟨h0, _⟩ | ⟨g, cap, cur, hv, _, hh, _⟩
    · rw [e] at h0; cases h0
    · injection hv with h1
      rw [e] at h1
      injection h1 with h1
      rw [h1]
      exact (Array.getElem?_eq_some_iff.1 hh).1
  exact ⟨by omega, by simp; omega⟩
end
end Go.Proofs.Ythabmlbmlncbmaa
namespace Go.Proofs.Ythabmlbmlncbmaa
open Go.RowKit
set_option linter.unusedVariables false
def rdBytes (k : Nat) (st : RS) : List UInt8 × RS :=
  if st.2 = true then ([], st) else if st.1.length < k then ([], (st.1, true)) else (st.1.take k, (st.1.drop k, false))
section
variable {w w' : World} {p N : Nat} {st : RS}
theorem part_zero (A : Option Addr) (n c : Nat) (w : World) (hc : n <= c) (hn : n <= 1073741824) :
    Calls Try.prog 85 #[.slice A n c, .int .i64 0, .int .i64 0] w fun e w' => e = .returned (.tuple #[.slice A 0 0, .bool true]) /\ w = w' := by
  go_enter Try.func85, Try.ntmps85
  go_wp2
  go_ret2
  exact ⟨rfl, rfl⟩
theorem take_zero (l : List UInt8) (h : RdrIs N w p (l, false)) :
    Calls Try.prog 107 #[.pointer (some ⟨p, 0, none⟩), .int .i64 0] w fun e w' => ∃ A, e = .returned (.slice A 0 0) /\ RdrIs N w' p (l, false) /\ Fr (· = p) w w' := by
  have H := hi_ h
  obtain ⟨A, n, c, h1, h2, h3, h4, h5, hpN, h6⟩ := h
  have c0 : w.cell? ⟨p, 0, none⟩ = some (.slice A n c) := cell_of_row _ _ 0 _ _ _ h1
  have f0 : w.frozen? ⟨p, 0, none⟩ = false := frozen_of_row w p 0 _ _ h1
  simp only at h1 h2
  have hset : (w.setCell ⟨p, 0, none⟩ (.slice A n c)).heap[p]? = some (.cells #[.slice A n c, .bool false] 139 (0, 0)) := by
    have := heap_setCell_at (j := 0) h1 (.slice A n c)
    simpa using this
  have hfr : Fr (· = p) w (w.setCell ⟨p, 0, none⟩ (.slice A n c)) := Fr.setCell w (own := (· = p)) rfl _
  have hR : RdrIs N (w.setCell ⟨p, 0, none⟩ (.slice A n c)) p (l, false) := ⟨A, n, c, hset, h2.fr hfr (fun b o e _ => (h6 _ e).1), h3, h4, h5, hpN, h6⟩
  have HR := hi_ hR
  have HFR := hi_ hfr
  clear h1 h2 h6 hset hfr hR
  by_cases hc0 : c = 0
  · subst hc0
    obtain rfl : n = 0 := by omega
    go_enter Try.func107, Try.ntmps107
    go_wp2_with (first
      | (go_at_call 106; refine (OK_any H.out).mono ?_; rintro e w' ⟨rfl, rfl⟩)
      | (go_at_call 85; refine (part_zero A 0 0 w h3 h5).mono ?_; rintro e w' ⟨rfl, rfl⟩))
    go_ret
    exact ⟨A, rfl, HR.out, HFR.out⟩
  · go_enter Try.func107, Try.ntmps107
    go_wp2_with (first
      | (go_at_call 106; refine (OK_any H.out).mono ?_; rintro e w' ⟨rfl, rfl⟩)
      | (go_at_call 85; refine (part_zero A n c w h3 h5).mono ?_; rintro e w' ⟨rfl, rfl⟩))
    go_ret
    exact ⟨A, rfl, HR.out, HFR.out⟩
def GotB (N p k : Nat) (st : RS) (w : World) (e : Ending) (w' : World) : Prop :=
  ∃ A n c, e = .returned (.slice A n c) /\ Rd w' A n (rdBytes k st).1 /\ (∀ b o, A = some ⟨b, o, none⟩ -> 0 < n -> w.heap.size <= b) /\ n <= c /\ RdrIs N w' p (rdBytes k st).2 /\ Fr (· = p) w w'
theorem own_lo {w : World} {B : Nat} {e : TypeId} {v : Value} {n : Nat} {xs : List Value} (h : w.ownsRow B e 1 v n xs) {A : Option Addr} {m c : Nat} (hv : v = .slice A m c) (b o : Nat) (hA : A = some ⟨b, o, none⟩) : B <= b := by
  subst hv
  rcases h.2 with ⟨h1, _⟩ | ⟨g, cap, cur, hv, hB, _⟩
  · injection h1 with h1; rw [hA] at h1; cases h1
  · injection hv with h1
    rw [hA] at h1
    injection h1 with h1
    injection h1 with h1
    omega
theorem RBytes_any (h : RdrIs N w p st) (k : Nat) (hk : k <= 65535) :
    Calls Try.prog 105 #[.pointer (some ⟨p, 0, none⟩), .int .i64 k] w (GotB N p k st w) := by
  obtain ⟨l, m⟩ := st
  cases m
  · by_cases hs : l.length < k
    · have e1 : rdBytes k (l, false) = ([], (l, true)) := by simp [rdBytes, hs]
      unfold GotB
      rw [e1]
      have cT := hi_ (take_short l h k (by omega) hs)
      clear h e1
      go_enter Try.func105, Try.ntmps105
      go_wp2_with (first
        | (go_at_call 107; refine cT.out.mono ?_; rintro e w2 ⟨rfl, hr2, hf2⟩)
        | (at_builtin; refine wpList_app _ bytesT rfl (.const (.slice none 0 0)) (.tmp 8) rfl w2.heap.size _ 0 [] rfl (World.ownsRow_nil _ _ _ _) none 0 0 [] rfl (Rd.nil _ _) (by omega) (Nat.le_refl _) ?_; intro v3 w3 ho3 hb3; rw [Nat.zero_add, List.nil_append] at ho3))
      obtain ⟨A3, c3, rfl, hn3, _, hr3⟩ := Rd.of_own ho3 rfl
      go_ret
      exact ⟨A3, 0, c3, rfl, hr3, fun b o e h0 => absurd h0 (Nat.lt_irrefl 0), hn3, hr2.below hb3, hf2.trans (Fr.ofBelow _ hb3)⟩
    · have e1 : rdBytes k (l, false) = (l.take k, (l.drop k, false)) := by simp [rdBytes, hs]
      unfold GotB
      rw [e1]
      by_cases hk0 : k = 0
      · subst hk0
        have cT := hi_ (take_zero l h)
        clear h e1
        go_enter Try.func105, Try.ntmps105
        go_wp2_with (first
          | (go_at_call 107; refine cT.out.mono ?_; rintro e w2 ⟨A2, rfl, hr2, hf2⟩)
          | (at_builtin; refine wpList_app _ bytesT rfl (.const (.slice none 0 0)) (.tmp 8) rfl w2.heap.size _ 0 [] rfl (World.ownsRow_nil _ _ _ _) A2 0 0 [] rfl (Rd.nil _ _) (by omega) (Nat.le_refl _) ?_; intro v3 w3 ho3 hb3; rw [Nat.zero_add, List.nil_append] at ho3))
        obtain ⟨A3, c3, rfl, hn3, _, hr3⟩ := Rd.of_own ho3 rfl
        go_ret
        exact ⟨A3, 0, c3, rfl, hr3, fun b o e h0 => absurd h0 (Nat.lt_irrefl 0), hn3, hr2.below hb3, hf2.trans (Fr.ofBelow _ hb3)⟩
      · have cT := hi_ (take_yes l h k (by omega) (by omega) (by omega))
        clear h e1
        go_enter Try.func105, Try.ntmps105
        go_wp2_with (first
          | (go_at_call 107; refine cT.out.mono ?_; rintro e w2 ⟨A2, rfl, hR2, hr2, hf2⟩)
          | (at_builtin; refine wpList_app _ bytesT rfl (.const (.slice none 0 0)) (.tmp 8) rfl w2.heap.size _ 0 [] rfl (World.ownsRow_nil _ _ _ _) A2 k k _ rfl hR2 (by omega) (Nat.le_refl _) ?_; intro v3 w3 ho3 hb3; rw [Nat.zero_add, List.nil_append] at ho3))
        obtain ⟨A3, c3, rfl, hn3, _, hr3⟩ := Rd.of_own ho3 rfl
        have hlo := own_lo ho3 rfl
        go_ret
        exact ⟨A3, k, c3, rfl, hr3, fun b o e h0 => Nat.le_trans hf2.size (hlo b o e), hn3, hr2.below hb3, hf2.trans (Fr.ofBelow _ hb3)⟩
  · have e1 : rdBytes k (l, true) = ([], (l, true)) := by simp [rdBytes]
    unfold GotB
    rw [e1]
    have H := hi_ h
    have cT := hi_ (take_off l h k)
    clear h e1
    go_enter Try.func105, Try.ntmps105
    go_wp2_with (first
      | (go_at_call 107; refine cT.out.mono ?_; rintro e w' ⟨rfl, rfl⟩)
      | (at_builtin; refine wpList_app _ bytesT rfl (.const (.slice none 0 0)) (.tmp 8) rfl w.heap.size _ 0 [] rfl (World.ownsRow_nil _ _ _ _) none 0 0 [] rfl (Rd.nil _ _) (by omega) (Nat.le_refl _) ?_; intro v3 w3 ho3 hb3; rw [Nat.zero_add, List.nil_append] at ho3))
    obtain ⟨A3, c3, rfl, hn3, _, hr3⟩ := Rd.of_own ho3 rfl
    go_ret
    exact ⟨A3, 0, c3, rfl, hr3, fun b o e h0 => absurd h0 (Nat.lt_irrefl 0), hn3, H.out.below hb3, Fr.ofBelow _ hb3⟩
end
end Go.Proofs.Ythabmlbmlncbmaa
namespace Go.Proofs.Ythabmlbmlncbmaa
open Go.RowKit
theorem rdNum_off {k : Nat} {st : RS} (h : st.2 = true) : rdNum k st = (0, st) := by unfold rdNum; rw [if_pos h]
theorem rdNum_short {k : Nat} {l : List UInt8} (h : l.length < k) : rdNum k (l, false) = (0, (l, true)) := by simp [rdNum, h]
theorem rdNum_yes {k : Nat} {l : List UInt8} (h : k <= l.length) : rdNum k (l, false) = (getV (l.take k), (l.drop k, false)) := by
  have : ¬ l.length < k := by omega
  simp [rdNum, this]
end Go.Proofs.Ythabmlbmlncbmaa
namespace Go.Proofs.Ythabmlbmlncbmaa
open Go.RowKit
set_option linter.unusedVariables false
def rdFin (x : Cd) (st : RS) : Cd × Int × RS := if st.2 = true then (Cd.zero, 12, st) else (x, 0, st)
def rdCmd (st : RS) : Cd × Int × RS :=
  if (rdNum 1 st).1 < 0 \/ 3 < (rdNum 1 st).1 then (Cd.zero, 11, (rdNum 1 st).2)
  else if (rdNum 1 st).1 = 0 then rdFin ⟨0, false, 0, 0, 0, []⟩ (rdNum 1 st).2
  else
    let b := rdNum 1 (rdNum 1 st).2
    if 1 < b.1 then (Cd.zero, 11, b.2)
    else
      let c := rdNum 8 b.2
      let g := if b.1 = 1 then (0, c.2) else rdNum 8 c.2
      if (rdNum 1 st).1 = 1 then rdFin ⟨1, decide (b.1 = 1), c.1, g.1, 0, []⟩ g.2
      else
        let k := rdNum 8 g.2
        if (rdNum 1 st).1 = 3 then rdFin ⟨3, decide (b.1 = 1), c.1, g.1, k.1, []⟩ k.2
        else
          let m := rdNum 2 k.2
          if 64 < m.1 then (Cd.zero, 13, m.2)
          else rdFin ⟨2, decide (b.1 = 1), c.1, g.1, k.1, (rdBytes m.1.toNat m.2).1⟩ (rdBytes m.1.toNat m.2).2
def getCd (l : List UInt8) : Cd × Nat × Int :=
  if l.length = 0 then (Cd.zero, 0, 12)
  else if 3 < (l.getD 0 0).toNat then (Cd.zero, 0, 11)
  else if (l.getD 0 0).toNat = 0 then (⟨0, false, 0, 0, 0, []⟩, 1, 0)
  else if l.length = 1 then (Cd.zero, 0, 12)
  else if 1 < (l.getD 1 0).toNat then (Cd.zero, 0, 11)
  else
    let lc : Bool := decide ((l.getD 1 0).toNat = 1)
    let e0 := if (l.getD 1 0).toNat = 1 then 10 else 18
    let gn := if (l.getD 1 0).toNat = 1 then 0 else getV ((l.drop 10).take 8)
    if (l.getD 0 0).toNat = 1 then (if l.length < e0 then (Cd.zero, 0, 12) else (⟨1, lc, getV ((l.drop 2).take 8), gn, 0, []⟩, e0, 0))
    else if (l.getD 0 0).toNat = 3 then (if l.length < e0 + 8 then (Cd.zero, 0, 12) else (⟨3, lc, getV ((l.drop 2).take 8), gn, getV ((l.drop e0).take 8), []⟩, e0 + 8, 0))
    else if l.length < e0 + 10 then (Cd.zero, 0, 12)
    else if 64 < leN ((l.drop (e0 + 8)).take 2) then (Cd.zero, 0, 13)
    else if l.length < e0 + 10 + leN ((l.drop (e0 + 8)).take 2) then (Cd.zero, 0, 12)
    else (⟨2, lc, getV ((l.drop 2).take 8), gn, getV ((l.drop e0).take 8), (l.drop (e0 + 10)).take (leN ((l.drop (e0 + 8)).take 2))⟩, e0 + 10 + leN ((l.drop (e0 + 8)).take 2), 0)
def getAt (l : List UInt8) (at_ : Int) : Cd × Int × Int :=
  if at_ < 0 \/ (l.length : Int) < at_ then (Cd.zero, 0, 2)
  else ((getCd (l.drop at_.toNat)).1, if (getCd (l.drop at_.toNat)).2.2 = 0 then at_ + (getCd (l.drop at_.toNat)).2.1 else 0, (getCd (l.drop at_.toNat)).2.2)
theorem getV1 (l : List UInt8) (h : l.length = 1) : getV l = (l.getD 0 0).toNat := by
  obtain ⟨a, rfl⟩ := List.length_eq_one_iff.1 h
  have := a.toNat_lt
  rw [getV_in _ (by simp [leN]; omega)]
  simp [leN]
theorem rdNum_offL (k : Nat) (l : List UInt8) : rdNum k (l, true) = (0, (l, true)) := rdNum_off rfl
theorem rdBytes_off (k : Nat) (l : List UInt8) : rdBytes k (l, true) = ([], (l, true)) := by simp [rdBytes]
theorem rdBytes_short {k : Nat} {l : List UInt8} (h : l.length < k) : rdBytes k (l, false) = ([], (l, true)) := by simp [rdBytes, h]
theorem rdBytes_yes {k : Nat} {l : List UInt8} (h : k <= l.length) : rdBytes k (l, false) = (l.take k, (l.drop k, false)) := by simp [rdBytes, show ¬ l.length < k by omega]
theorem rdFin_off (x : Cd) (l : List UInt8) : rdFin x (l, true) = (Cd.zero, 12, (l, true)) := by simp [rdFin]
theorem rdFin_on (x : Cd) (l : List UInt8) : rdFin x (l, false) = (x, 0, (l, false)) := by simp [rdFin]
def SameG (r : Cd × Int × RS) (g : Cd × Nat × Int) (n : Nat) : Prop := r.1 = g.1 /\ r.2.1 = g.2.2 /\ (g.2.2 = 0 -> n - r.2.2.1.length = g.2.1 /\ g.2.1 <= n)
theorem SameG.fault {r : Cd × Int × RS} {g : Cd × Nat × Int} {n : Nat} {e : Int} (h1 : r.1 = Cd.zero) (h2 : r.2.1 = e) (h3 : g = (Cd.zero, 0, e)) (he : e ≠ 0) : SameG r g n := by
  subst h3
  exact ⟨h1, h2, fun h => absurd h he⟩
theorem take_getD (l : List UInt8) (k i : Nat) (h : i < k) : (l.take k).getD i 0 = l.getD i 0 := by
  simp [List.getD_eq_getElem?_getD, h]
theorem drop_getD (l : List UInt8) (k i : Nat) : (l.drop k).getD i 0 = l.getD (k + i) 0 := by
  simp [List.getD_eq_getElem?_getD, List.getElem?_drop]
def rdTail (d : Nat) (b : Nat) (st : RS) : Cd × Int × RS :=
  let c := rdNum 8 st
  let g := if b = 1 then (0, c.2) else rdNum 8 c.2
  if d = 1 then rdFin ⟨1, decide (b = 1), c.1, g.1, 0, []⟩ g.2
  else
    let k := rdNum 8 g.2
    if d = 3 then rdFin ⟨3, decide (b = 1), c.1, g.1, k.1, []⟩ k.2
    else
      let m := rdNum 2 k.2
      if 64 < m.1 then (Cd.zero, 13, m.2)
      else rdFin ⟨2, decide (b = 1), c.1, g.1, k.1, (rdBytes m.1.toNat m.2).1⟩ (rdBytes m.1.toNat m.2).2
theorem rdTail_off (d b : Nat) (l : List UInt8) : (rdTail d b (l, true)).1 = Cd.zero /\ (rdTail d b (l, true)).2.1 = 12 := by
  unfold rdTail
  simp only [rdNum_offL]
  by_cases hb : b = 1
  all_goals
    simp only [hb, if_true, if_false, rdNum_offL, rdBytes_off, rdFin_off, Int.toNat_zero, show ¬ (64 : Int) < 0 by decide]
    repeat' split
    all_goals exact ⟨rfl, rfl⟩
theorem rdCmd_tail {st : RS} {d b : Nat} {st1 st2 : RS} (h1 : rdNum 1 st = ((d : Int), st1)) (hd : 1 <= d /\ d <= 3) (h2 : rdNum 1 st1 = ((b : Int), st2)) (hb : b <= 1) : rdCmd st = rdTail d b st2 := by
  unfold rdCmd rdTail
  simp only [h1, h2]
  rw [if_neg (by omega), if_neg (by omega), if_neg (by omega)]
  have e1 : ((b : Int) = 1) = (b = 1) := by simp; omega
  have e2 : ((d : Int) = 1) = (d = 1) := by simp; omega
  have e3 : ((d : Int) = 3) = (d = 3) := by simp; omega
  simp only [e1, e2, e3]
theorem getV2 (l : List UInt8) (h : l.length <= 2) : getV l = (leN l : Int) := by
  have h1 := leN_lt l
  have h2 : 2 ^ (8 * l.length) <= 2 ^ 16 := Nat.pow_le_pow_right (by decide) (by omega)
  exact getV_in _ (by omega)
theorem num1 (l : List UInt8) (h : 1 <= l.length) : rdNum 1 (l, false) = ((((l.getD 0 0).toNat : Nat) : Int), (l.drop 1, false)) := by
  rw [rdNum_yes h, getV1 _ (by simp; omega), take_getD _ _ _ (by decide)]
theorem rdTail_get (l : List UInt8) (d b : Nat) (hd : 1 <= d /\ d <= 3) (hb : b <= 1) (hd0 : (l.getD 0 0).toNat = d) (hb0 : (l.getD 1 0).toNat = b) (h2 : 2 <= l.length) :
    SameG (rdTail d b (l.drop 2, false)) (getCd l) l.length := by
  have g0 : ¬ l.length = 0 := by omega
  have g1 : ¬ l.length = 1 := by omega
  have g3 : ¬ 3 < d := by omega
  have g4 : ¬ d = 0 := by omega
  have g5 : ¬ 1 < b := by omega
  unfold getCd
  rw [hd0, hb0, if_neg g0, if_neg g3, if_neg g4, if_neg g1, if_neg g5]
  obtain ⟨e0, he0⟩ : ∃ e0, e0 = if b = 1 then 10 else 18 := ⟨_, rfl⟩
  simp only [<- he0]
  -- the state behind the target
  have key : ∀ (X : Prop), (l.length < e0 -> (rdTail d b (l.drop 2, false)).1 = Cd.zero /\ (rdTail d b (l.drop 2, false)).2.1 = 12 -> X) -> (e0 <= l.length -> rdTail d b (l.drop 2, false) = (let g := (if b = 1 then (0, ((l.drop e0, false) : RS)) else (getV ((l.drop 10).take 8), (l.drop e0, false)))
      if d = 1 then rdFin ⟨1, decide (b = 1), getV ((l.drop 2).take 8), g.1, 0, []⟩ g.2
      else
        let k := rdNum 8 g.2
        if d = 3 then rdFin ⟨3, decide (b = 1), getV ((l.drop 2).take 8), g.1, k.1, []⟩ k.2
        else
          let m := rdNum 2 k.2
          if 64 < m.1 then (Cd.zero, 13, m.2)
          else rdFin ⟨2, decide (b = 1), getV ((l.drop 2).take 8), g.1, k.1, (rdBytes m.1.toNat m.2).1⟩ (rdBytes m.1.toNat m.2).2) -> X) -> X := by
    intro X hshort hyes
    by_cases h10 : l.length < 10
    · have q := rdNum_short (k := 8) (l := l.drop 2) (by simp; omega)
      have : rdTail d b (l.drop 2, false) = rdTail d b (l.drop 2, true) := by unfold rdTail; rw [q, rdNum_offL]
      exact hshort (by rw [he0]; split <;> omega) (by rw [this]; exact rdTail_off d b _)
    · have q := rdNum_yes (k := 8) (l := l.drop 2) (by simp; omega)
      rw [List.drop_drop] at q
      by_cases hb1 : b = 1
      · have e10 : e0 = 10 := by rw [he0, if_pos hb1]
        refine hyes (by omega) ?_
        unfold rdTail
        rw [q, e10]
        simp only [hb1, if_true]
      · have e18 : e0 = 18 := by rw [he0, if_neg hb1]
        by_cases h18 : l.length < 18
        · have q2 := rdNum_short (k := 8) (l := l.drop (2 + 8)) (by simp; omega)
          refine hshort (by omega) ?_
          unfold rdTail
          rw [q]
          simp only [hb1, if_false, q2, rdNum_offL, rdBytes_off, rdFin_off, Int.toNat_zero, show ¬ (64 : Int) < 0 by decide]
          repeat' split
          all_goals exact ⟨rfl, rfl⟩
        · have q2 := rdNum_yes (k := 8) (l := l.drop (2 + 8)) (by simp; omega)
          rw [List.drop_drop] at q2
          refine hyes (by omega) ?_
          unfold rdTail
          rw [q, e18]
          simp only [hb1, if_false, q2]
  refine key _ (fun hs hz => ?_) (fun hs hq => ?_)
  · refine SameG.fault hz.1 hz.2 ?_ (by decide)
    by_cases hd1 : d = 1
    · rw [if_pos hd1, if_pos hs]
    · rw [if_neg hd1]
      by_cases hd3 : d = 3
      · rw [if_pos hd3, if_pos (by omega)]
      · rw [if_neg hd3, if_pos (by omega)]
  · rw [hq]
    clear hq key
    obtain ⟨g, hg⟩ : ∃ g, g = (if b = 1 then (0 : Int) else getV ((l.drop 10).take 8)) := ⟨_, rfl⟩
    have e : (if b = 1 then ((0 : Int), ((l.drop e0, false) : RS)) else (getV ((l.drop 10).take 8), (l.drop e0, false))) = (g, (l.drop e0, false)) := by rw [hg]; split <;> rfl
    simp only [e, <- hg]
    by_cases hd1 : d = 1
    · simp only [hd1, if_true, rdFin_on, if_neg (show ¬ l.length < e0 by omega)]
      exact ⟨rfl, rfl, fun _ => ⟨by simp; omega, by omega⟩⟩
    · simp only [hd1, if_false]
      by_cases h8 : l.length < e0 + 8
      · have q := rdNum_short (k := 8) (l := l.drop e0) (by simp; omega)
        simp only [q, rdNum_offL, rdBytes_off, rdFin_off, Int.toNat_zero, show ¬ (64 : Int) < 0 by decide, if_false, if_pos h8, if_pos (show l.length < e0 + 10 by omega)]
        by_cases hd3 : d = 3
        · simp only [hd3, if_true]; exact ⟨rfl, rfl, fun h => absurd h (by decide)⟩
        · simp only [hd3, if_false]; exact ⟨rfl, rfl, fun h => absurd h (by decide)⟩
      · have q := rdNum_yes (k := 8) (l := l.drop e0) (by simp; omega)
        rw [List.drop_drop] at q
        simp only [q, if_neg h8]
        by_cases hd3 : d = 3
        · simp only [hd3, if_true, rdFin_on]
          exact ⟨rfl, rfl, fun _ => ⟨by simp; omega, by show e0 + 8 <= l.length; omega⟩⟩
        · simp only [hd3, if_false]
          by_cases h10 : l.length < e0 + 10
          · have q2 := rdNum_short (k := 2) (l := l.drop (e0 + 8)) (by simp; omega)
            simp only [q2, rdBytes_off, rdFin_off, Int.toNat_zero, show ¬ (64 : Int) < 0 by decide, if_false, if_pos h10]
            exact ⟨rfl, rfl, fun h => absurd h (by decide)⟩
          · have q2 := rdNum_yes (k := 2) (l := l.drop (e0 + 8)) (by simp; omega)
            rw [List.drop_drop, getV2 _ (by simp; omega)] at q2
            obtain ⟨m, hm⟩ : ∃ m, m = leN ((l.drop (e0 + 8)).take 2) := ⟨_, rfl⟩
            rw [<- hm] at q2
            simp only [q2, <- hm, if_neg h10]
            by_cases h64 : 64 < m
            · rw [if_pos (by omega), if_pos h64]
              exact ⟨rfl, rfl, fun h => absurd h (by decide)⟩
            · rw [if_neg (by omega), if_neg h64, Int.toNat_natCast]
              by_cases hm2 : l.length < e0 + 10 + m
              · have q3 := rdBytes_short (k := m) (l := l.drop (e0 + 8 + 2)) (by simp; omega)
                simp only [q3, rdFin_off, if_pos hm2]
                exact ⟨rfl, rfl, fun h => absurd h (by decide)⟩
              · have q3 := rdBytes_yes (k := m) (l := l.drop (e0 + 8 + 2)) (by simp; omega)
                simp only [q3, rdFin_on, if_neg hm2]
                exact ⟨rfl, rfl, fun _ => ⟨by simp; omega, by show e0 + 10 + m <= l.length; omega⟩⟩
theorem rd_getCd (l : List UInt8) : SameG (rdCmd (l, false)) (getCd l) l.length := by
  by_cases h0 : l.length = 0
  · obtain rfl : l = [] := List.eq_nil_of_length_eq_zero h0
    refine SameG.fault (e := 12) ?_ ?_ (by simp [getCd]) (by decide)
    all_goals simp [rdCmd, rdNum_short, rdFin_off]
  have n1 := num1 l (by omega)
  obtain ⟨d, hd⟩ : ∃ d, d = (l.getD 0 0).toNat := ⟨_, rfl⟩
  rw [<- hd] at n1
  by_cases h3 : 3 < d
  · refine SameG.fault (e := 11) ?_ ?_ (by unfold getCd; rw [if_neg h0, <- hd, if_pos h3]) (by decide)
    all_goals
      unfold rdCmd
      rw [n1]
      simp only
      rw [if_pos (by omega)]
  by_cases hd0 : d = 0
  · have e : rdCmd (l, false) = rdFin ⟨0, false, 0, 0, 0, []⟩ (l.drop 1, false) := by
      unfold rdCmd
      rw [n1]
      simp only
      rw [if_neg (by omega), if_pos (by omega)]
    rw [e, rdFin_on]
    unfold getCd
    rw [if_neg h0, <- hd, if_neg h3, if_pos hd0]
    exact ⟨rfl, rfl, fun _ => ⟨by simp; omega, by simp; omega⟩⟩
  by_cases h1 : l.length = 1
  · have q := rdNum_short (k := 1) (l := l.drop 1) (by simp; omega)
    have e := rdCmd_tail (b := 0) n1 (by omega) q (by decide)
    have z := rdTail_off d 0 (l.drop 1)
    rw [e]
    exact SameG.fault z.1 z.2 (by unfold getCd; rw [if_neg h0, <- hd, if_neg h3, if_neg hd0, if_pos h1]) (by decide)
  have n2 := num1 (l.drop 1) (by simp; omega)
  rw [drop_getD, List.drop_drop] at n2
  obtain ⟨b, hb⟩ : ∃ b, b = (l.getD 1 0).toNat := ⟨_, rfl⟩
  rw [show 1 + 0 = 1 from rfl, <- hb] at n2
  by_cases hb1 : 1 < b
  · refine SameG.fault (e := 11) ?_ ?_ (by unfold getCd; rw [if_neg h0, <- hd, if_neg h3, if_neg hd0, if_neg h1, <- hb, if_pos hb1]) (by decide)
    all_goals
      unfold rdCmd
      rw [n1]
      simp only
      rw [if_neg (by omega), if_neg (by omega), n2]
      simp only
      rw [if_pos (by omega)]
  rw [rdCmd_tail n1 (by omega) n2 (by omega)]
  exact rdTail_get l d b (by omega) (by omega) hd.symm hb.symm (by omega)
end Go.Proofs.Ythabmlbmlncbmaa
namespace Go.Proofs.Ythabmlbmlncbmaa
open Go.RowKit
set_option linter.unusedVariables false
theorem cdT : RT Try.prog 85 6 := ⟨⟨_, Try.underlying85, rfl⟩, by kernel_rfl⟩
theorem trT : RT Try.prog 141 3 := ⟨⟨_, Try.underlying141, rfl⟩, by kernel_rfl⟩
structure CdAt (w0 w : World) (g : Nat) (x : Cd) (A : Option Addr) (n c : Nat) : Prop where
  r : Rec 85 w g (x.cs A n c)
  rd : Rd w A n x.dt
  bel : Below w0.heap.size w0 w
  hg : w0.heap.size <= g
section
variable {w0 w w' : World} {g : Nat} {x : Cd} {A : Option Addr} {n c : Nat}
theorem CdAt.new (w : World) (x : Cd) (A : Option Addr) (n c : Nat) (h : Rd w A n x.dt) : CdAt w (w.alloc (.cells (x.cs A n c) 85)) w.heap.size x A n c :=
  ⟨Rec.new w _ _, h.alloc _, (Below.refl _ _).alloc (Nat.le_refl _) _, Nat.le_refl _⟩
theorem CdAt.next (h : CdAt w0 w g x A n c) (hb : Below w.heap.size w w') : CdAt w0 w' g x A n c := ⟨h.r.under hb, h.rd.below (Nat.le_refl _) hb, h.bel.trans (hb.mono h.bel.size), h.hg⟩
theorem CdAt.c0 (h : CdAt w0 w g x A n c) : w.cell? ⟨g, 0, none⟩ = some (.int .i64 x.d) := h.r.at_ 0
theorem CdAt.c1 (h : CdAt w0 w g x A n c) : w.cell? ⟨g, 1, none⟩ = some (.bool x.lc) := h.r.at_ 1
theorem CdAt.c2 (h : CdAt w0 w g x A n c) : w.cell? ⟨g, 2, none⟩ = some (.int .i64 x.ix) := h.r.at_ 2
theorem CdAt.c3 (h : CdAt w0 w g x A n c) : w.cell? ⟨g, 3, none⟩ = some (.int .i64 x.gn) := h.r.at_ 3
theorem CdAt.c4 (h : CdAt w0 w g x A n c) : w.cell? ⟨g, 4, none⟩ = some (.int .i64 x.cp) := h.r.at_ 4
theorem CdAt.c5 (h : CdAt w0 w g x A n c) : w.cell? ⟨g, 5, none⟩ = some (.slice A n c) := h.r.at_ 5
end
def hasV (d : Int) : Value := .agg #[.bool (decide (1 <= d /\ d <= 3)), .bool (decide (2 <= d /\ d <= 3)), .bool (decide (d = 2))]
def hasB (d : Int) : Bool := decide (0 <= d /\ d <= 3)
def HasP (d : Int) (w : World) (e : Ending) (w' : World) : Prop := e = .returned (.tuple #[hasV d, .bool (hasB d)]) /\ Below w.heap.size w w'
theorem has_any (d : Int) (w : World) : Calls Try.prog 104 #[.int .i64 d] w (HasP d w) := by
  rcases cd_cases d with rfl | rfl | rfl | rfl | h
  · go_enter Try.func104, Try.ntmps104
    go_wp2
    exact bodyPost_ret (v := .tuple #[.agg #[.bool false, .bool false, .bool false], .bool true]) (by simp [results, Try.results104, go_sem]) rfl ⟨rfl, (Below.refl _ _).alloc (Nat.le_refl _) _⟩
  · go_enter Try.func104, Try.ntmps104
    go_wp2
    exact bodyPost_ret (v := .tuple #[.agg #[.bool true, .bool false, .bool false], .bool true]) (by simp [results, Try.results104, go_sem]) rfl ⟨rfl, (Below.refl _ _).alloc (Nat.le_refl _) _⟩
  · go_enter Try.func104, Try.ntmps104
    go_wp2
    exact bodyPost_ret (v := .tuple #[.agg #[.bool true, .bool true, .bool true], .bool true]) (by simp [results, Try.results104, go_sem]) rfl ⟨rfl, (Below.refl _ _).alloc (Nat.le_refl _) _⟩
  · go_enter Try.func104, Try.ntmps104
    go_wp2
    exact bodyPost_ret (v := .tuple #[.agg #[.bool true, .bool true, .bool false], .bool true]) (by simp [results, Try.results104, go_sem]) rfl ⟨rfl, (Below.refl _ _).alloc (Nat.le_refl _) _⟩
  · have h0 : ¬ d = 0 := by omega
    have h1 : ¬ d = 1 := by omega
    have h2 : ¬ d = 2 := by omega
    have h3 : ¬ d = 3 := by omega
    have q : hasV d = .agg #[.bool false, .bool false, .bool false] := by
      unfold hasV
      rw [decide_eq_false (show ¬ (1 <= d /\ d <= 3) by omega), decide_eq_false (show ¬ (2 <= d /\ d <= 3) by omega), decide_eq_false h2]
    have q2 : hasB d = false := decide_eq_false (by omega)
    have Q := hi_ (And.intro q q2)
    clear h q q2
    go_enter Try.func104, Try.ntmps104
    go_wp2
    exact bodyPost_ret (v := .tuple #[.agg #[.bool false, .bool false, .bool false], .bool false]) (by simp [results, Try.results104, go_sem]) rfl ⟨by rw [Q.out.1, Q.out.2], (Below.refl _ _).alloc (Nat.le_refl _) _⟩
section
variable (x : Cd) (A : Option Addr) (n c : Nat) (w : World)
end
end Go.Proofs.Ythabmlbmlncbmaa
namespace Go.Proofs.Ythabmlbmlncbmaa
open Go.RowKit Go.ChangeShapes Go.WideShapes Go.Deep
section
variable {H : Type} {enc : TypeId × Value -> H} {w : World} {base : Nat} {held : Bool}
theorem elems_at {P : Program} {t e : TypeId} {fuel : Nat} {cs : List Value} {x : DataW H × List MemPlace} (ht : P.underlying t = some (.slice e)) (h : DataW.trod enc P w base (fun _ => true) held fuel t cs = some x) :
    cs = [.slice none 0 0] \/ ∃ (a : Addr) (len cap : Nat), cs = [.slice (some a) len cap] /\ len <= cap /\ cap <= maxLen /\
      ∀ i, i < len -> ∃ cs' n y, (∀ j, j < P.cellsOf e -> w.cell? ((a.add (i * P.cellsOf e)).add j) = cs'[j]?) /\ DataW.trod enc P w base (fun _ => true) held n e cs' = some y := by
  rcases open_slice ht h with ⟨h0, _⟩ | ⟨a, len, cap, m, n, D, Pl, hcs, _, hl, hm, hmm, _, hi⟩
  · exact .inl h0
  · refine .inr ⟨a, len, cap, hcs, hl, hm, fun i him => ?_⟩
    have hmc : m = cap := by simpa using hmm
    obtain ⟨cs', hc, ht'⟩ := hi i (by omega)
    obtain ⟨_, _, hat⟩ := World.cells?_some hc
    exact ⟨cs', n, _, hat, ht'⟩
end
end Go.Proofs.Ythabmlbmlncbmaa
namespace Go.Proofs.Ythabmlbmlncbmaa
open Go.RowKit Go.ChangeShapes Go.WideShapes Go.Deep
section
variable {H : Type} {enc : TypeId × Value -> H} {w : World} {base : Nat} {held : Bool}
theorem open_bytes {fuel : Nat} {cs : List Value} {x : DataW H × List MemPlace} (h : DataW.trod enc Try.prog w base (fun _ => true) held fuel 35 cs = some x) :
    ∃ A n c l, cs = [.slice A n c] /\ Rd w A n l /\ n <= c /\ c <= maxLen := by
  rcases open_ints Try.underlying35 Try.underlying5 (by kernel_rfl) h with ⟨hcs, _⟩ | ⟨x, l, c, zs, hcs, _, hl, hm, hz, _, hcell, hwz⟩
  · exact ⟨none, 0, 0, [], hcs, Rd.nil _ _, Nat.le_refl _, Nat.zero_le _⟩
  · obtain ⟨L, hr, h1, h2⟩ := rd_of_row (w := w) (a := some x) (len := l) (cap := c) (zs := zs) (.inr ⟨x, rfl, hl, hm, by simpa using hz, hcell, hwz⟩)
    exact ⟨some x, l, c, L, hcs, hr, h1, h2⟩
end
end Go.Proofs.Ythabmlbmlncbmaa
namespace Go.Proofs.Ythabmlbmlncbmaa
open Go.RowKit Go.ChangeShapes Go.WideShapes Go.Deep Go.Joins
set_option maxRecDepth 20000
def Cd.wf (x : Cd) : Prop := (Lit.int .i64 x.ix).wf = true /\ (Lit.int .i64 x.gn).wf = true /\ (Lit.int .i64 x.cp).wf = true
section
variable {H : Type} {enc : TypeId × Value -> H} {w : World} {base : Nat} {held : Bool}
end
end Go.Proofs.Ythabmlbmlncbmaa
namespace Go.Proofs.Ythabmlbmlncbmaa
open Go.RowKit
set_option linter.unusedVariables false
end Go.Proofs.Ythabmlbmlncbmaa
namespace Go.Proofs.Ythabmlbmlncbmaa
open Go.RowKit
end Go.Proofs.Ythabmlbmlncbmaa
namespace Go.Proofs.Ythabmlbmlncbmaa
open Go.RowKit
set_option linter.unusedVariables false
set_option maxRecDepth 20000
def GotS (w : World) (l : List UInt8) (e : Ending) (w' : World) : Prop := ∃ A n c, e = .returned (.slice A n c) /\ Rd w' A n l /\ n <= c /\ Below w.heap.size w w'
theorem GotS.own {w w' : World} {v : Value} {n : Nat} {l : List UInt8} (ho : w'.ownsRow w.heap.size 5 1 v n (cells l)) (hb : Below w.heap.size w w') : GotS w l (.returned v) w' := by
  obtain ⟨A, c, rfl, h1, _, h2⟩ := Rd.of_own ho rfl
  exact ⟨A, n, c, rfl, h2, h1, hb⟩
end Go.Proofs.Ythabmlbmlncbmaa
namespace Go.Proofs.Ythabmlbmlncbmaa
open Go.RowKit
set_option linter.unusedVariables false
set_option maxRecDepth 20000
theorem numB_11 : numB 1 1 = [1] := by decide
theorem numB_10 : numB 1 0 = [0] := by decide
theorem CdAt.low {w0 w w' : World} {g : Nat} {x : Cd} {A : Option Addr} {n c B : Nat} (h : CdAt w0 w g x A n c) (hb : Below B w w') (hgB : g < B) (hw : w0.heap.size <= B) (hA : ∀ b o, A = some ⟨b, o, none⟩ -> 0 < n -> b < B) : CdAt w0 w' g x A n c :=
  ⟨h.r.below hb hgB, h.rd.below' hb (fun hn => by obtain ⟨b, o, e, _⟩ := h.rd.2 hn; exact ⟨b, o, e, hA b o e hn⟩), h.bel.trans (hb.mono hw), h.hg⟩
theorem RNumS_any (width : Nat) (h1 : 1 <= width) (h8 : width <= 8) (x : Int) (w : World) : Calls Try.prog 47 #[.int .i64 width, .int .i64 x] w fun e w' => ∃ v, e = .returned v /\ w'.ownsRow w.heap.size 5 1 v width (cells (numB width x)) /\ Below w.heap.size w w' := by
  have hw : wd (width : Int) = width := by have := wd_cast (width : Int); omega
  have h := Num_any width x w
  rw [hw] at h
  exact h
theorem Rd.lo' {w : World} {A : Option Addr} {n : Nat} {l : List UInt8} (h : Rd w A n l) (b o : Nat) (e : A = some ⟨b, o, none⟩) (hp : 0 < n) : b < w.heap.size := by
  obtain ⟨b', o', e', hlt, _⟩ := h.2 hp
  rw [e] at e'
  injection e' with e'
  injection e' with e1 e2
  omega
theorem RBytes_o (x : Cd) (hd : x.d < 0 \/ 3 < x.d) (A : Option Addr) (n c : Nat) (w : World) (h : Rd w A n x.dt) :
    Calls Try.prog 48 #[.agg (x.cs A n c)] w (GotS w x.bytes) := by
  obtain ⟨w1, hw1⟩ : ∃ w1, w1 = w.alloc (.cells (x.cs A n c) 85) := ⟨_, rfl⟩
  have K1 : CdAt w w1 w.heap.size x A n c := by rw [hw1]; exact CdAt.new w x A n c h
  have HX := hi_ (show x.bytes = [255] by simp [Cd.bytes, show ¬ x.d = 0 by omega, show ¬ x.d = 1 by omega, show ¬ x.d = 2 by omega, show ¬ x.d = 3 by omega])
  have c0 := K1.c0
  have HK := hi_ K1
  obtain ⟨d, e⟩ : ∃ d, d = x.d := ⟨_, rfl⟩
  rw [<- e] at c0 hd
  clear h K1 e
  rcases hd with hd | hd
  all_goals
    go_enter Try.func48, Try.ntmps48
    go_wp2_with (rw [<- hw1]; clear hw1)
    go_ret
    rw [HX.out]
    exact ⟨_, _, _, rfl, Rd.new w1 5 [255] (0, 0), Nat.le_refl _, HK.out.bel.alloc HK.out.bel.size _⟩
set_option maxHeartbeats 2000000 in
theorem RBytes_0f (ix gn cp : Int) (dt : List UInt8) (A : Option Addr) (n c : Nat) (w : World) (h : Rd w A n dt) (hn : n <= 1000000) :
    Calls Try.prog 48 #[.agg (Cd.cs ⟨0, false, ix, gn, cp, dt⟩ A n c)] w (GotS w (Cd.mk 0 false ix gn cp dt).bytes) := by
  obtain ⟨w1, hw1⟩ : ∃ w1, w1 = w.alloc (.cells (Cd.cs ⟨0, false, ix, gn, cp, dt⟩ A n c) 85) := ⟨_, rfl⟩
  have K1 : CdAt w w1 w.heap.size ⟨0, false, ix, gn, cp, dt⟩ A n c := by rw [hw1]; exact CdAt.new w ⟨0, false, ix, gn, cp, dt⟩ A n c h
  have HA := hi_ (fun b o (e : A = some ⟨b, o, none⟩) hp => Nat.lt_trans (h.lo' b o e hp) K1.r.lt)
  have HLT := hi_ (And.intro K1.r.lt K1.bel.size)
  have c0 := K1.c0
  have CN1 := hi_ (RNumS_any 1 (by decide) (by decide) 0 w1)
  have HX := hi_ (show (Cd.mk 0 false ix gn cp dt).bytes = numB 1 0 by rfl)
  have HK1 := hi_ K1
  clear h K1
  go_enter Try.func48, Try.ntmps48
  go_wp2_with (first
    | (rw [<- hw1]; clear hw1)
    | (go_at_call 47; have _t := CN1; refine CN1.out.mono ?_; rintro e w2 ⟨v2, rfl, ho2, hb2⟩
       have K2 := HK1.out.next hb2
       have q0 := K2.c0
       have HK2 := hi_ K2
       have HO2 := hi_ (And.intro ho2 hb2.size)
       clear K2 ho2 hb2 CN1 c0))
  go_ret
  rw [HX.out]
  exact GotS.own (own_mono HO2.out.1 HLT.out.2) HK2.out.bel
set_option maxHeartbeats 2000000 in
theorem RBytes_0t (ix gn cp : Int) (dt : List UInt8) (A : Option Addr) (n c : Nat) (w : World) (h : Rd w A n dt) (hn : n <= 1000000) :
    Calls Try.prog 48 #[.agg (Cd.cs ⟨0, true, ix, gn, cp, dt⟩ A n c)] w (GotS w (Cd.mk 0 true ix gn cp dt).bytes) := by
  obtain ⟨w1, hw1⟩ : ∃ w1, w1 = w.alloc (.cells (Cd.cs ⟨0, true, ix, gn, cp, dt⟩ A n c) 85) := ⟨_, rfl⟩
  have K1 : CdAt w w1 w.heap.size ⟨0, true, ix, gn, cp, dt⟩ A n c := by rw [hw1]; exact CdAt.new w ⟨0, true, ix, gn, cp, dt⟩ A n c h
  have HA := hi_ (fun b o (e : A = some ⟨b, o, none⟩) hp => Nat.lt_trans (h.lo' b o e hp) K1.r.lt)
  have HLT := hi_ (And.intro K1.r.lt K1.bel.size)
  have c0 := K1.c0
  have CN1 := hi_ (RNumS_any 1 (by decide) (by decide) 0 w1)
  have HX := hi_ (show (Cd.mk 0 true ix gn cp dt).bytes = numB 1 0 by rfl)
  have HK1 := hi_ K1
  clear h K1
  go_enter Try.func48, Try.ntmps48
  go_wp2_with (first
    | (rw [<- hw1]; clear hw1)
    | (go_at_call 47; have _t := CN1; refine CN1.out.mono ?_; rintro e w2 ⟨v2, rfl, ho2, hb2⟩
       have K2 := HK1.out.next hb2
       have q0 := K2.c0
       have HK2 := hi_ K2
       have HO2 := hi_ (And.intro ho2 hb2.size)
       clear K2 ho2 hb2 CN1 c0))
  go_ret
  rw [HX.out]
  exact GotS.own (own_mono HO2.out.1 HLT.out.2) HK2.out.bel
set_option maxHeartbeats 2000000 in
theorem RBytes_1f (ix gn cp : Int) (dt : List UInt8) (A : Option Addr) (n c : Nat) (w : World) (h : Rd w A n dt) (hn : n <= 1000000) :
    Calls Try.prog 48 #[.agg (Cd.cs ⟨1, false, ix, gn, cp, dt⟩ A n c)] w (GotS w (Cd.mk 1 false ix gn cp dt).bytes) := by
  obtain ⟨w1, hw1⟩ : ∃ w1, w1 = w.alloc (.cells (Cd.cs ⟨1, false, ix, gn, cp, dt⟩ A n c) 85) := ⟨_, rfl⟩
  have K1 : CdAt w w1 w.heap.size ⟨1, false, ix, gn, cp, dt⟩ A n c := by rw [hw1]; exact CdAt.new w ⟨1, false, ix, gn, cp, dt⟩ A n c h
  have HA := hi_ (fun b o (e : A = some ⟨b, o, none⟩) hp => Nat.lt_trans (h.lo' b o e hp) K1.r.lt)
  have HLT := hi_ (And.intro K1.r.lt K1.bel.size)
  have c0 := K1.c0
  have c1 := K1.c1
  have CN1 := hi_ (RNumS_any 1 (by decide) (by decide) 1 w1)
  have HX := hi_ (show (Cd.mk 1 false ix gn cp dt).bytes = numB 1 1 ++ [0] ++ numB 8 ix ++ numB 8 gn by simp [Cd.bytes, Cd.tgt, numB_10])
  have HK1 := hi_ K1
  clear h K1
  go_enter Try.func48, Try.ntmps48
  go_wp2_with (first
    | (rw [<- hw1]; clear hw1)
    | (go_at_call 47; have _t := CN1; refine CN1.out.mono ?_; rintro e w2 ⟨v2, rfl, ho2, hb2⟩
       have K2 := HK1.out.next hb2
       have q0 := K2.c0; have q1 := K2.c1; have q2 := K2.c2; have q3 := K2.c3; have q4 := K2.c4; have q5 := K2.c5
       have HK2 := hi_ K2
       have HO2 := hi_ (And.intro ho2 hb2.size)
       clear K2 ho2 hb2 CN1 c0 c1)
    | (at_builtin; have _t := HO2; refine wpList_app _ bytesT rfl (.tmp 31) (.tmp 32) rfl w1.heap.size v2 _ _ rfl (own_keep HO2.out.1 ((Below.refl _ _).alloc (Nat.le_refl _) _)) _ 1 1 [0] rfl (Rd.new w2 5 [0] (0, 0)) (by omega) (by have := HO2.out.2; simp; omega) ?_; intro v3 w3 ho3 hb3
       rw [<- cells_append] at ho3
       have hal : Below w2.heap.size w2 (w2.alloc (.cells #[.int .u8 0] 5)) := (Below.refl _ _).alloc (Nat.le_refl _) _
       have K3 := (HK2.out.next hal).low hb3 HLT.out.1 HLT.out.2 HA.out
       have q0 := K3.c0; have q1 := K3.c1; have q2 := K3.c2; have q3 := K3.c3; have q4 := K3.c4; have q5 := K3.c5
       have HK3 := hi_ K3
       have HO3 := hi_ (And.intro ho3 (Nat.le_trans HO2.out.2 (Nat.le_trans hal.size hb3.size)))
       have CN3 := hi_ (RNumS_any 8 (by decide) (by decide) ix w3)
       clear K3 ho3 hb3 hal HO2)
    | (go_at_call 47; have _t := CN3; refine CN3.out.mono ?_; rintro e w4 ⟨v4, rfl, ho4, hb4⟩
       obtain ⟨A4, cc4, rfl, _, _, hr4⟩ := Rd.of_own ho4 rfl
       have HK4 := hi_ (HK3.out.next hb4)
       have HO4 := hi_ (And.intro (own_keep HO3.out.1 hb4) (Nat.le_trans HO3.out.2 hb4.size))
       have HR4 := hi_ hr4
       clear hr4 ho4 hb4 CN3)
    | (at_builtin; have _t := HR4; refine wpList_app _ bytesT rfl (.tmp 34) (.tmp 38) rfl w1.heap.size v3 _ _ rfl HO4.out.1 A4 8 cc4 _ rfl HR4.out (by omega) HO4.out.2 ?_; intro v5 w5 ho5 hb5
       rw [<- cells_append] at ho5
       have K5 := HK4.out.low hb5 HLT.out.1 HLT.out.2 HA.out
       have q0 := K5.c0; have q1 := K5.c1; have q2 := K5.c2; have q3 := K5.c3; have q4 := K5.c4; have q5 := K5.c5
       have HK5 := hi_ K5
       have HO5 := hi_ (And.intro ho5 (Nat.le_trans HO4.out.2 hb5.size))
       have CN5 := hi_ (RNumS_any 8 (by decide) (by decide) gn w5)
       clear K5 ho5 hb5 HR4)
    | (go_at_call 47; have _t := CN5; refine CN5.out.mono ?_; rintro e w6 ⟨v6, rfl, ho6, hb6⟩
       obtain ⟨A6, cc6, rfl, _, _, hr6⟩ := Rd.of_own ho6 rfl
       have HK6 := hi_ (HK5.out.next hb6)
       have HO6 := hi_ (And.intro (own_keep HO5.out.1 hb6) (Nat.le_trans HO5.out.2 hb6.size))
       have HR6 := hi_ hr6
       clear hr6 ho6 hb6 CN5)
    | (at_builtin; have _t := HR6; refine wpList_app _ bytesT rfl (.tmp 40) (.tmp 44) rfl w1.heap.size v5 _ _ rfl HO6.out.1 A6 8 cc6 _ rfl HR6.out (by omega) HO6.out.2 ?_; intro v7 w7 ho7 hb7
       rw [<- cells_append] at ho7
       have K7 := HK6.out.low hb7 HLT.out.1 HLT.out.2 HA.out
       have q0 := K7.c0; have q1 := K7.c1; have q2 := K7.c2; have q3 := K7.c3; have q4 := K7.c4; have q5 := K7.c5
       have HK7 := hi_ K7
       have HO7 := hi_ (And.intro ho7 (Nat.le_trans HO6.out.2 hb7.size))
       clear K7 ho7 hb7 HR6))
  go_ret
  rw [HX.out]
  exact GotS.own (own_mono HO7.out.1 HLT.out.2) HK7.out.bel
set_option maxHeartbeats 2000000 in
theorem RBytes_1t (ix gn cp : Int) (dt : List UInt8) (A : Option Addr) (n c : Nat) (w : World) (h : Rd w A n dt) (hn : n <= 1000000) :
    Calls Try.prog 48 #[.agg (Cd.cs ⟨1, true, ix, gn, cp, dt⟩ A n c)] w (GotS w (Cd.mk 1 true ix gn cp dt).bytes) := by
  obtain ⟨w1, hw1⟩ : ∃ w1, w1 = w.alloc (.cells (Cd.cs ⟨1, true, ix, gn, cp, dt⟩ A n c) 85) := ⟨_, rfl⟩
  have K1 : CdAt w w1 w.heap.size ⟨1, true, ix, gn, cp, dt⟩ A n c := by rw [hw1]; exact CdAt.new w ⟨1, true, ix, gn, cp, dt⟩ A n c h
  have HA := hi_ (fun b o (e : A = some ⟨b, o, none⟩) hp => Nat.lt_trans (h.lo' b o e hp) K1.r.lt)
  have HLT := hi_ (And.intro K1.r.lt K1.bel.size)
  have c0 := K1.c0
  have c1 := K1.c1
  have CN1 := hi_ (RNumS_any 1 (by decide) (by decide) 1 w1)
  have HX := hi_ (show (Cd.mk 1 true ix gn cp dt).bytes = numB 1 1 ++ [1] ++ numB 8 ix by simp [Cd.bytes, Cd.tgt, numB_11])
  have HK1 := hi_ K1
  clear h K1
  go_enter Try.func48, Try.ntmps48
  go_wp2_with (first
    | (rw [<- hw1]; clear hw1)
    | (go_at_call 47; have _t := CN1; refine CN1.out.mono ?_; rintro e w2 ⟨v2, rfl, ho2, hb2⟩
       have K2 := HK1.out.next hb2
       have q0 := K2.c0; have q1 := K2.c1; have q2 := K2.c2; have q3 := K2.c3; have q4 := K2.c4; have q5 := K2.c5
       have HK2 := hi_ K2
       have HO2 := hi_ (And.intro ho2 hb2.size)
       clear K2 ho2 hb2 CN1 c0 c1)
    | (at_builtin; have _t := HO2; refine wpList_app _ bytesT rfl (.tmp 22) (.tmp 23) rfl w1.heap.size v2 _ _ rfl (own_keep HO2.out.1 ((Below.refl _ _).alloc (Nat.le_refl _) _)) _ 1 1 [1] rfl (Rd.new w2 5 [1] (0, 0)) (by omega) (by have := HO2.out.2; simp; omega) ?_; intro v3 w3 ho3 hb3
       rw [<- cells_append] at ho3
       have hal : Below w2.heap.size w2 (w2.alloc (.cells #[.int .u8 1] 5)) := (Below.refl _ _).alloc (Nat.le_refl _) _
       have K3 := (HK2.out.next hal).low hb3 HLT.out.1 HLT.out.2 HA.out
       have q0 := K3.c0; have q1 := K3.c1; have q2 := K3.c2; have q3 := K3.c3; have q4 := K3.c4; have q5 := K3.c5
       have HK3 := hi_ K3
       have HO3 := hi_ (And.intro ho3 (Nat.le_trans HO2.out.2 (Nat.le_trans hal.size hb3.size)))
       have CN3 := hi_ (RNumS_any 8 (by decide) (by decide) ix w3)
       clear K3 ho3 hb3 hal HO2)
    | (go_at_call 47; have _t := CN3; refine CN3.out.mono ?_; rintro e w4 ⟨v4, rfl, ho4, hb4⟩
       obtain ⟨A4, cc4, rfl, _, _, hr4⟩ := Rd.of_own ho4 rfl
       have HK4 := hi_ (HK3.out.next hb4)
       have HO4 := hi_ (And.intro (own_keep HO3.out.1 hb4) (Nat.le_trans HO3.out.2 hb4.size))
       have HR4 := hi_ hr4
       clear hr4 ho4 hb4 CN3)
    | (at_builtin; have _t := HR4; refine wpList_app _ bytesT rfl (.tmp 25) (.tmp 29) rfl w1.heap.size v3 _ _ rfl HO4.out.1 A4 8 cc4 _ rfl HR4.out (by omega) HO4.out.2 ?_; intro v5 w5 ho5 hb5
       rw [<- cells_append] at ho5
       have K5 := HK4.out.low hb5 HLT.out.1 HLT.out.2 HA.out
       have q0 := K5.c0; have q1 := K5.c1; have q2 := K5.c2; have q3 := K5.c3; have q4 := K5.c4; have q5 := K5.c5
       have HK5 := hi_ K5
       have HO5 := hi_ (And.intro ho5 (Nat.le_trans HO4.out.2 hb5.size))
       clear K5 ho5 hb5 HR4))
  go_ret
  rw [HX.out]
  exact GotS.own (own_mono HO5.out.1 HLT.out.2) HK5.out.bel
set_option maxHeartbeats 2000000 in
theorem RBytes_2f (ix gn cp : Int) (dt : List UInt8) (A : Option Addr) (n c : Nat) (w : World) (h : Rd w A n dt) (hn : n <= 1000000) :
    Calls Try.prog 48 #[.agg (Cd.cs ⟨2, false, ix, gn, cp, dt⟩ A n c)] w (GotS w (Cd.mk 2 false ix gn cp dt).bytes) := by
  obtain ⟨w1, hw1⟩ : ∃ w1, w1 = w.alloc (.cells (Cd.cs ⟨2, false, ix, gn, cp, dt⟩ A n c) 85) := ⟨_, rfl⟩
  have K1 : CdAt w w1 w.heap.size ⟨2, false, ix, gn, cp, dt⟩ A n c := by rw [hw1]; exact CdAt.new w ⟨2, false, ix, gn, cp, dt⟩ A n c h
  have HA := hi_ (fun b o (e : A = some ⟨b, o, none⟩) hp => Nat.lt_trans (h.lo' b o e hp) K1.r.lt)
  have HLT := hi_ (And.intro K1.r.lt K1.bel.size)
  have c0 := K1.c0
  have c1 := K1.c1
  have CN1 := hi_ (RNumS_any 1 (by decide) (by decide) 2 w1)
  have HX := hi_ (show (Cd.mk 2 false ix gn cp dt).bytes = numB 1 2 ++ [0] ++ numB 8 ix ++ numB 8 gn ++ numB 8 cp ++ numB 2 n ++ dt by have e : (n : Int) = (dt.length : Nat) := (by rw [h.1]); rw [e]; simp [Cd.bytes, Cd.tgt, numB_10])
  have HK1 := hi_ K1
  clear h K1
  go_enter Try.func48, Try.ntmps48
  go_wp2_with (first
    | (rw [<- hw1]; clear hw1)
    | (go_at_call 47; have _t := CN1; refine CN1.out.mono ?_; rintro e w2 ⟨v2, rfl, ho2, hb2⟩
       have K2 := HK1.out.next hb2
       have q0 := K2.c0; have q1 := K2.c1; have q2 := K2.c2; have q3 := K2.c3; have q4 := K2.c4; have q5 := K2.c5
       have HK2 := hi_ K2
       have HO2 := hi_ (And.intro ho2 hb2.size)
       clear K2 ho2 hb2 CN1 c0 c1)
    | (at_builtin; have _t := HO2; refine wpList_app _ bytesT rfl (.tmp 31) (.tmp 32) rfl w1.heap.size v2 _ _ rfl (own_keep HO2.out.1 ((Below.refl _ _).alloc (Nat.le_refl _) _)) _ 1 1 [0] rfl (Rd.new w2 5 [0] (0, 0)) (by omega) (by have := HO2.out.2; simp; omega) ?_; intro v3 w3 ho3 hb3
       rw [<- cells_append] at ho3
       have hal : Below w2.heap.size w2 (w2.alloc (.cells #[.int .u8 0] 5)) := (Below.refl _ _).alloc (Nat.le_refl _) _
       have K3 := (HK2.out.next hal).low hb3 HLT.out.1 HLT.out.2 HA.out
       have q0 := K3.c0; have q1 := K3.c1; have q2 := K3.c2; have q3 := K3.c3; have q4 := K3.c4; have q5 := K3.c5
       have HK3 := hi_ K3
       have HO3 := hi_ (And.intro ho3 (Nat.le_trans HO2.out.2 (Nat.le_trans hal.size hb3.size)))
       have CN3 := hi_ (RNumS_any 8 (by decide) (by decide) ix w3)
       clear K3 ho3 hb3 hal HO2)
    | (go_at_call 47; have _t := CN3; refine CN3.out.mono ?_; rintro e w4 ⟨v4, rfl, ho4, hb4⟩
       obtain ⟨A4, cc4, rfl, _, _, hr4⟩ := Rd.of_own ho4 rfl
       have HK4 := hi_ (HK3.out.next hb4)
       have HO4 := hi_ (And.intro (own_keep HO3.out.1 hb4) (Nat.le_trans HO3.out.2 hb4.size))
       have HR4 := hi_ hr4
       clear hr4 ho4 hb4 CN3)
    | (at_builtin; have _t := HR4; refine wpList_app _ bytesT rfl (.tmp 34) (.tmp 38) rfl w1.heap.size v3 _ _ rfl HO4.out.1 A4 8 cc4 _ rfl HR4.out (by omega) HO4.out.2 ?_; intro v5 w5 ho5 hb5
       rw [<- cells_append] at ho5
       have K5 := HK4.out.low hb5 HLT.out.1 HLT.out.2 HA.out
       have q0 := K5.c0; have q1 := K5.c1; have q2 := K5.c2; have q3 := K5.c3; have q4 := K5.c4; have q5 := K5.c5
       have HK5 := hi_ K5
       have HO5 := hi_ (And.intro ho5 (Nat.le_trans HO4.out.2 hb5.size))
       have CN5 := hi_ (RNumS_any 8 (by decide) (by decide) gn w5)
       clear K5 ho5 hb5 HR4)
    | (go_at_call 47; have _t := CN5; refine CN5.out.mono ?_; rintro e w6 ⟨v6, rfl, ho6, hb6⟩
       obtain ⟨A6, cc6, rfl, _, _, hr6⟩ := Rd.of_own ho6 rfl
       have HK6 := hi_ (HK5.out.next hb6)
       have HO6 := hi_ (And.intro (own_keep HO5.out.1 hb6) (Nat.le_trans HO5.out.2 hb6.size))
       have HR6 := hi_ hr6
       clear hr6 ho6 hb6 CN5)
    | (at_builtin; have _t := HR6; refine wpList_app _ bytesT rfl (.tmp 40) (.tmp 44) rfl w1.heap.size v5 _ _ rfl HO6.out.1 A6 8 cc6 _ rfl HR6.out (by omega) HO6.out.2 ?_; intro v7 w7 ho7 hb7
       rw [<- cells_append] at ho7
       have K7 := HK6.out.low hb7 HLT.out.1 HLT.out.2 HA.out
       have q0 := K7.c0; have q1 := K7.c1; have q2 := K7.c2; have q3 := K7.c3; have q4 := K7.c4; have q5 := K7.c5
       have HK7 := hi_ K7
       have HO7 := hi_ (And.intro ho7 (Nat.le_trans HO6.out.2 hb7.size))
       have CN7 := hi_ (RNumS_any 8 (by decide) (by decide) cp w7)
       clear K7 ho7 hb7 HR6)
    | (go_at_call 47; have _t := CN7; refine CN7.out.mono ?_; rintro e w8 ⟨v8, rfl, ho8, hb8⟩
       obtain ⟨A8, cc8, rfl, _, _, hr8⟩ := Rd.of_own ho8 rfl
       have HK8 := hi_ (HK7.out.next hb8)
       have HO8 := hi_ (And.intro (own_keep HO7.out.1 hb8) (Nat.le_trans HO7.out.2 hb8.size))
       have HR8 := hi_ hr8
       clear hr8 ho8 hb8 CN7)
    | (at_builtin; have _t := HR8; refine wpList_app _ bytesT rfl (.tmp 49) (.tmp 52) rfl w1.heap.size v7 _ _ rfl HO8.out.1 A8 8 cc8 _ rfl HR8.out (by omega) HO8.out.2 ?_; intro v9 w9 ho9 hb9
       rw [<- cells_append] at ho9
       have K9 := HK8.out.low hb9 HLT.out.1 HLT.out.2 HA.out
       have q0 := K9.c0; have q1 := K9.c1; have q2 := K9.c2; have q3 := K9.c3; have q4 := K9.c4; have q5 := K9.c5
       have HK9 := hi_ K9
       have HO9 := hi_ (And.intro ho9 (Nat.le_trans HO8.out.2 hb9.size))
       have CN9 := hi_ (RNumS_any 2 (by decide) (by decide) n w9)
       clear K9 ho9 hb9 HR8)
    | (go_at_call 47; have _t := CN9; refine CN9.out.mono ?_; rintro e w10 ⟨v10, rfl, ho10, hb10⟩
       obtain ⟨A10, cc10, rfl, _, _, hr10⟩ := Rd.of_own ho10 rfl
       have HK10 := hi_ (HK9.out.next hb10)
       have HO10 := hi_ (And.intro (own_keep HO9.out.1 hb10) (Nat.le_trans HO9.out.2 hb10.size))
       have HR10 := hi_ hr10
       clear hr10 ho10 hb10 CN9)
    | (at_builtin; have _t := HR10; refine wpList_app _ bytesT rfl (.tmp 57) (.tmp 61) rfl w1.heap.size v9 _ _ rfl HO10.out.1 A10 2 cc10 _ rfl HR10.out (by omega) HO10.out.2 ?_; intro v11 w11 ho11 hb11
       rw [<- cells_append] at ho11
       have K11 := HK10.out.low hb11 HLT.out.1 HLT.out.2 HA.out
       have q0 := K11.c0; have q1 := K11.c1; have q2 := K11.c2; have q3 := K11.c3; have q4 := K11.c4; have q5 := K11.c5
       have HK11 := hi_ K11
       have HO11 := hi_ (And.intro ho11 (Nat.le_trans HO10.out.2 hb11.size))
       clear K11 ho11 hb11 HR10)
    | (at_builtin; have _t := HO11; refine wpList_app _ bytesT rfl (.tmp 63) (.tmp 65) rfl w1.heap.size v11 _ _ rfl HO11.out.1 A n c dt rfl HK11.out.rd (by omega) HO11.out.2 ?_; intro v12 w12 ho12 hb12
       rw [<- cells_append] at ho12
       have HK12 := hi_ (HK11.out.low hb12 HLT.out.1 HLT.out.2 HA.out)
       have HO12 := hi_ (And.intro ho12 (Nat.le_trans HO11.out.2 hb12.size))
       clear ho12 hb12))
  go_ret
  rw [HX.out]
  exact GotS.own (own_mono HO12.out.1 HLT.out.2) HK12.out.bel
set_option maxHeartbeats 2000000 in
theorem RBytes_2t (ix gn cp : Int) (dt : List UInt8) (A : Option Addr) (n c : Nat) (w : World) (h : Rd w A n dt) (hn : n <= 1000000) :
    Calls Try.prog 48 #[.agg (Cd.cs ⟨2, true, ix, gn, cp, dt⟩ A n c)] w (GotS w (Cd.mk 2 true ix gn cp dt).bytes) := by
  obtain ⟨w1, hw1⟩ : ∃ w1, w1 = w.alloc (.cells (Cd.cs ⟨2, true, ix, gn, cp, dt⟩ A n c) 85) := ⟨_, rfl⟩
  have K1 : CdAt w w1 w.heap.size ⟨2, true, ix, gn, cp, dt⟩ A n c := by rw [hw1]; exact CdAt.new w ⟨2, true, ix, gn, cp, dt⟩ A n c h
  have HA := hi_ (fun b o (e : A = some ⟨b, o, none⟩) hp => Nat.lt_trans (h.lo' b o e hp) K1.r.lt)
  have HLT := hi_ (And.intro K1.r.lt K1.bel.size)
  have c0 := K1.c0
  have c1 := K1.c1
  have CN1 := hi_ (RNumS_any 1 (by decide) (by decide) 2 w1)
  have HX := hi_ (show (Cd.mk 2 true ix gn cp dt).bytes = numB 1 2 ++ [1] ++ numB 8 ix ++ numB 8 cp ++ numB 2 n ++ dt by have e : (n : Int) = (dt.length : Nat) := (by rw [h.1]); rw [e]; simp [Cd.bytes, Cd.tgt, numB_11])
  have HK1 := hi_ K1
  clear h K1
  go_enter Try.func48, Try.ntmps48
  go_wp2_with (first
    | (rw [<- hw1]; clear hw1)
    | (go_at_call 47; have _t := CN1; refine CN1.out.mono ?_; rintro e w2 ⟨v2, rfl, ho2, hb2⟩
       have K2 := HK1.out.next hb2
       have q0 := K2.c0; have q1 := K2.c1; have q2 := K2.c2; have q3 := K2.c3; have q4 := K2.c4; have q5 := K2.c5
       have HK2 := hi_ K2
       have HO2 := hi_ (And.intro ho2 hb2.size)
       clear K2 ho2 hb2 CN1 c0 c1)
    | (at_builtin; have _t := HO2; refine wpList_app _ bytesT rfl (.tmp 22) (.tmp 23) rfl w1.heap.size v2 _ _ rfl (own_keep HO2.out.1 ((Below.refl _ _).alloc (Nat.le_refl _) _)) _ 1 1 [1] rfl (Rd.new w2 5 [1] (0, 0)) (by omega) (by have := HO2.out.2; simp; omega) ?_; intro v3 w3 ho3 hb3
       rw [<- cells_append] at ho3
       have hal : Below w2.heap.size w2 (w2.alloc (.cells #[.int .u8 1] 5)) := (Below.refl _ _).alloc (Nat.le_refl _) _
       have K3 := (HK2.out.next hal).low hb3 HLT.out.1 HLT.out.2 HA.out
       have q0 := K3.c0; have q1 := K3.c1; have q2 := K3.c2; have q3 := K3.c3; have q4 := K3.c4; have q5 := K3.c5
       have HK3 := hi_ K3
       have HO3 := hi_ (And.intro ho3 (Nat.le_trans HO2.out.2 (Nat.le_trans hal.size hb3.size)))
       have CN3 := hi_ (RNumS_any 8 (by decide) (by decide) ix w3)
       clear K3 ho3 hb3 hal HO2)
    | (go_at_call 47; have _t := CN3; refine CN3.out.mono ?_; rintro e w4 ⟨v4, rfl, ho4, hb4⟩
       obtain ⟨A4, cc4, rfl, _, _, hr4⟩ := Rd.of_own ho4 rfl
       have HK4 := hi_ (HK3.out.next hb4)
       have HO4 := hi_ (And.intro (own_keep HO3.out.1 hb4) (Nat.le_trans HO3.out.2 hb4.size))
       have HR4 := hi_ hr4
       clear hr4 ho4 hb4 CN3)
    | (at_builtin; have _t := HR4; refine wpList_app _ bytesT rfl (.tmp 25) (.tmp 29) rfl w1.heap.size v3 _ _ rfl HO4.out.1 A4 8 cc4 _ rfl HR4.out (by omega) HO4.out.2 ?_; intro v5 w5 ho5 hb5
       rw [<- cells_append] at ho5
       have K5 := HK4.out.low hb5 HLT.out.1 HLT.out.2 HA.out
       have q0 := K5.c0; have q1 := K5.c1; have q2 := K5.c2; have q3 := K5.c3; have q4 := K5.c4; have q5 := K5.c5
       have HK5 := hi_ K5
       have HO5 := hi_ (And.intro ho5 (Nat.le_trans HO4.out.2 hb5.size))
       have CN5 := hi_ (RNumS_any 8 (by decide) (by decide) cp w5)
       clear K5 ho5 hb5 HR4)
    | (go_at_call 47; have _t := CN5; refine CN5.out.mono ?_; rintro e w6 ⟨v6, rfl, ho6, hb6⟩
       obtain ⟨A6, cc6, rfl, _, _, hr6⟩ := Rd.of_own ho6 rfl
       have HK6 := hi_ (HK5.out.next hb6)
       have HO6 := hi_ (And.intro (own_keep HO5.out.1 hb6) (Nat.le_trans HO5.out.2 hb6.size))
       have HR6 := hi_ hr6
       clear hr6 ho6 hb6 CN5)
    | (at_builtin; have _t := HR6; refine wpList_app _ bytesT rfl (.tmp 49) (.tmp 52) rfl w1.heap.size v5 _ _ rfl HO6.out.1 A6 8 cc6 _ rfl HR6.out (by omega) HO6.out.2 ?_; intro v7 w7 ho7 hb7
       rw [<- cells_append] at ho7
       have K7 := HK6.out.low hb7 HLT.out.1 HLT.out.2 HA.out
       have q0 := K7.c0; have q1 := K7.c1; have q2 := K7.c2; have q3 := K7.c3; have q4 := K7.c4; have q5 := K7.c5
       have HK7 := hi_ K7
       have HO7 := hi_ (And.intro ho7 (Nat.le_trans HO6.out.2 hb7.size))
       have CN7 := hi_ (RNumS_any 2 (by decide) (by decide) n w7)
       clear K7 ho7 hb7 HR6)
    | (go_at_call 47; have _t := CN7; refine CN7.out.mono ?_; rintro e w8 ⟨v8, rfl, ho8, hb8⟩
       obtain ⟨A8, cc8, rfl, _, _, hr8⟩ := Rd.of_own ho8 rfl
       have HK8 := hi_ (HK7.out.next hb8)
       have HO8 := hi_ (And.intro (own_keep HO7.out.1 hb8) (Nat.le_trans HO7.out.2 hb8.size))
       have HR8 := hi_ hr8
       clear hr8 ho8 hb8 CN7)
    | (at_builtin; have _t := HR8; refine wpList_app _ bytesT rfl (.tmp 57) (.tmp 61) rfl w1.heap.size v7 _ _ rfl HO8.out.1 A8 2 cc8 _ rfl HR8.out (by omega) HO8.out.2 ?_; intro v9 w9 ho9 hb9
       rw [<- cells_append] at ho9
       have K9 := HK8.out.low hb9 HLT.out.1 HLT.out.2 HA.out
       have q0 := K9.c0; have q1 := K9.c1; have q2 := K9.c2; have q3 := K9.c3; have q4 := K9.c4; have q5 := K9.c5
       have HK9 := hi_ K9
       have HO9 := hi_ (And.intro ho9 (Nat.le_trans HO8.out.2 hb9.size))
       clear K9 ho9 hb9 HR8)
    | (at_builtin; have _t := HO9; refine wpList_app _ bytesT rfl (.tmp 63) (.tmp 65) rfl w1.heap.size v9 _ _ rfl HO9.out.1 A n c dt rfl HK9.out.rd (by omega) HO9.out.2 ?_; intro v10 w10 ho10 hb10
       rw [<- cells_append] at ho10
       have HK10 := hi_ (HK9.out.low hb10 HLT.out.1 HLT.out.2 HA.out)
       have HO10 := hi_ (And.intro ho10 (Nat.le_trans HO9.out.2 hb10.size))
       clear ho10 hb10))
  go_ret
  rw [HX.out]
  exact GotS.own (own_mono HO10.out.1 HLT.out.2) HK10.out.bel
set_option maxHeartbeats 2000000 in
theorem RBytes_3f (ix gn cp : Int) (dt : List UInt8) (A : Option Addr) (n c : Nat) (w : World) (h : Rd w A n dt) (hn : n <= 1000000) :
    Calls Try.prog 48 #[.agg (Cd.cs ⟨3, false, ix, gn, cp, dt⟩ A n c)] w (GotS w (Cd.mk 3 false ix gn cp dt).bytes) := by
  obtain ⟨w1, hw1⟩ : ∃ w1, w1 = w.alloc (.cells (Cd.cs ⟨3, false, ix, gn, cp, dt⟩ A n c) 85) := ⟨_, rfl⟩
  have K1 : CdAt w w1 w.heap.size ⟨3, false, ix, gn, cp, dt⟩ A n c := by rw [hw1]; exact CdAt.new w ⟨3, false, ix, gn, cp, dt⟩ A n c h
  have HA := hi_ (fun b o (e : A = some ⟨b, o, none⟩) hp => Nat.lt_trans (h.lo' b o e hp) K1.r.lt)
  have HLT := hi_ (And.intro K1.r.lt K1.bel.size)
  have c0 := K1.c0
  have c1 := K1.c1
  have CN1 := hi_ (RNumS_any 1 (by decide) (by decide) 3 w1)
  have HX := hi_ (show (Cd.mk 3 false ix gn cp dt).bytes = numB 1 3 ++ [0] ++ numB 8 ix ++ numB 8 gn ++ numB 8 cp by simp [Cd.bytes, Cd.tgt, numB_10])
  have HK1 := hi_ K1
  clear h K1
  go_enter Try.func48, Try.ntmps48
  go_wp2_with (first
    | (rw [<- hw1]; clear hw1)
    | (go_at_call 47; have _t := CN1; refine CN1.out.mono ?_; rintro e w2 ⟨v2, rfl, ho2, hb2⟩
       have K2 := HK1.out.next hb2
       have q0 := K2.c0; have q1 := K2.c1; have q2 := K2.c2; have q3 := K2.c3; have q4 := K2.c4; have q5 := K2.c5
       have HK2 := hi_ K2
       have HO2 := hi_ (And.intro ho2 hb2.size)
       clear K2 ho2 hb2 CN1 c0 c1)
    | (at_builtin; have _t := HO2; refine wpList_app _ bytesT rfl (.tmp 31) (.tmp 32) rfl w1.heap.size v2 _ _ rfl (own_keep HO2.out.1 ((Below.refl _ _).alloc (Nat.le_refl _) _)) _ 1 1 [0] rfl (Rd.new w2 5 [0] (0, 0)) (by omega) (by have := HO2.out.2; simp; omega) ?_; intro v3 w3 ho3 hb3
       rw [<- cells_append] at ho3
       have hal : Below w2.heap.size w2 (w2.alloc (.cells #[.int .u8 0] 5)) := (Below.refl _ _).alloc (Nat.le_refl _) _
       have K3 := (HK2.out.next hal).low hb3 HLT.out.1 HLT.out.2 HA.out
       have q0 := K3.c0; have q1 := K3.c1; have q2 := K3.c2; have q3 := K3.c3; have q4 := K3.c4; have q5 := K3.c5
       have HK3 := hi_ K3
       have HO3 := hi_ (And.intro ho3 (Nat.le_trans HO2.out.2 (Nat.le_trans hal.size hb3.size)))
       have CN3 := hi_ (RNumS_any 8 (by decide) (by decide) ix w3)
       clear K3 ho3 hb3 hal HO2)
    | (go_at_call 47; have _t := CN3; refine CN3.out.mono ?_; rintro e w4 ⟨v4, rfl, ho4, hb4⟩
       obtain ⟨A4, cc4, rfl, _, _, hr4⟩ := Rd.of_own ho4 rfl
       have HK4 := hi_ (HK3.out.next hb4)
       have HO4 := hi_ (And.intro (own_keep HO3.out.1 hb4) (Nat.le_trans HO3.out.2 hb4.size))
       have HR4 := hi_ hr4
       clear hr4 ho4 hb4 CN3)
    | (at_builtin; have _t := HR4; refine wpList_app _ bytesT rfl (.tmp 34) (.tmp 38) rfl w1.heap.size v3 _ _ rfl HO4.out.1 A4 8 cc4 _ rfl HR4.out (by omega) HO4.out.2 ?_; intro v5 w5 ho5 hb5
       rw [<- cells_append] at ho5
       have K5 := HK4.out.low hb5 HLT.out.1 HLT.out.2 HA.out
       have q0 := K5.c0; have q1 := K5.c1; have q2 := K5.c2; have q3 := K5.c3; have q4 := K5.c4; have q5 := K5.c5
       have HK5 := hi_ K5
       have HO5 := hi_ (And.intro ho5 (Nat.le_trans HO4.out.2 hb5.size))
       have CN5 := hi_ (RNumS_any 8 (by decide) (by decide) gn w5)
       clear K5 ho5 hb5 HR4)
    | (go_at_call 47; have _t := CN5; refine CN5.out.mono ?_; rintro e w6 ⟨v6, rfl, ho6, hb6⟩
       obtain ⟨A6, cc6, rfl, _, _, hr6⟩ := Rd.of_own ho6 rfl
       have HK6 := hi_ (HK5.out.next hb6)
       have HO6 := hi_ (And.intro (own_keep HO5.out.1 hb6) (Nat.le_trans HO5.out.2 hb6.size))
       have HR6 := hi_ hr6
       clear hr6 ho6 hb6 CN5)
    | (at_builtin; have _t := HR6; refine wpList_app _ bytesT rfl (.tmp 40) (.tmp 44) rfl w1.heap.size v5 _ _ rfl HO6.out.1 A6 8 cc6 _ rfl HR6.out (by omega) HO6.out.2 ?_; intro v7 w7 ho7 hb7
       rw [<- cells_append] at ho7
       have K7 := HK6.out.low hb7 HLT.out.1 HLT.out.2 HA.out
       have q0 := K7.c0; have q1 := K7.c1; have q2 := K7.c2; have q3 := K7.c3; have q4 := K7.c4; have q5 := K7.c5
       have HK7 := hi_ K7
       have HO7 := hi_ (And.intro ho7 (Nat.le_trans HO6.out.2 hb7.size))
       have CN7 := hi_ (RNumS_any 8 (by decide) (by decide) cp w7)
       clear K7 ho7 hb7 HR6)
    | (go_at_call 47; have _t := CN7; refine CN7.out.mono ?_; rintro e w8 ⟨v8, rfl, ho8, hb8⟩
       obtain ⟨A8, cc8, rfl, _, _, hr8⟩ := Rd.of_own ho8 rfl
       have HK8 := hi_ (HK7.out.next hb8)
       have HO8 := hi_ (And.intro (own_keep HO7.out.1 hb8) (Nat.le_trans HO7.out.2 hb8.size))
       have HR8 := hi_ hr8
       clear hr8 ho8 hb8 CN7)
    | (at_builtin; have _t := HR8; refine wpList_app _ bytesT rfl (.tmp 49) (.tmp 52) rfl w1.heap.size v7 _ _ rfl HO8.out.1 A8 8 cc8 _ rfl HR8.out (by omega) HO8.out.2 ?_; intro v9 w9 ho9 hb9
       rw [<- cells_append] at ho9
       have K9 := HK8.out.low hb9 HLT.out.1 HLT.out.2 HA.out
       have q0 := K9.c0; have q1 := K9.c1; have q2 := K9.c2; have q3 := K9.c3; have q4 := K9.c4; have q5 := K9.c5
       have HK9 := hi_ K9
       have HO9 := hi_ (And.intro ho9 (Nat.le_trans HO8.out.2 hb9.size))
       clear K9 ho9 hb9 HR8))
  go_ret
  rw [HX.out]
  exact GotS.own (own_mono HO9.out.1 HLT.out.2) HK9.out.bel
set_option maxHeartbeats 2000000 in
theorem RBytes_3t (ix gn cp : Int) (dt : List UInt8) (A : Option Addr) (n c : Nat) (w : World) (h : Rd w A n dt) (hn : n <= 1000000) :
    Calls Try.prog 48 #[.agg (Cd.cs ⟨3, true, ix, gn, cp, dt⟩ A n c)] w (GotS w (Cd.mk 3 true ix gn cp dt).bytes) := by
  obtain ⟨w1, hw1⟩ : ∃ w1, w1 = w.alloc (.cells (Cd.cs ⟨3, true, ix, gn, cp, dt⟩ A n c) 85) := ⟨_, rfl⟩
  have K1 : CdAt w w1 w.heap.size ⟨3, true, ix, gn, cp, dt⟩ A n c := by rw [hw1]; exact CdAt.new w ⟨3, true, ix, gn, cp, dt⟩ A n c h
  have HA := hi_ (fun b o (e : A = some ⟨b, o, none⟩) hp => Nat.lt_trans (h.lo' b o e hp) K1.r.lt)
  have HLT := hi_ (And.intro K1.r.lt K1.bel.size)
  have c0 := K1.c0
  have c1 := K1.c1
  have CN1 := hi_ (RNumS_any 1 (by decide) (by decide) 3 w1)
  have HX := hi_ (show (Cd.mk 3 true ix gn cp dt).bytes = numB 1 3 ++ [1] ++ numB 8 ix ++ numB 8 cp by simp [Cd.bytes, Cd.tgt, numB_11])
  have HK1 := hi_ K1
  clear h K1
  go_enter Try.func48, Try.ntmps48
  go_wp2_with (first
    | (rw [<- hw1]; clear hw1)
    | (go_at_call 47; have _t := CN1; refine CN1.out.mono ?_; rintro e w2 ⟨v2, rfl, ho2, hb2⟩
       have K2 := HK1.out.next hb2
       have q0 := K2.c0; have q1 := K2.c1; have q2 := K2.c2; have q3 := K2.c3; have q4 := K2.c4; have q5 := K2.c5
       have HK2 := hi_ K2
       have HO2 := hi_ (And.intro ho2 hb2.size)
       clear K2 ho2 hb2 CN1 c0 c1)
    | (at_builtin; have _t := HO2; refine wpList_app _ bytesT rfl (.tmp 22) (.tmp 23) rfl w1.heap.size v2 _ _ rfl (own_keep HO2.out.1 ((Below.refl _ _).alloc (Nat.le_refl _) _)) _ 1 1 [1] rfl (Rd.new w2 5 [1] (0, 0)) (by omega) (by have := HO2.out.2; simp; omega) ?_; intro v3 w3 ho3 hb3
       rw [<- cells_append] at ho3
       have hal : Below w2.heap.size w2 (w2.alloc (.cells #[.int .u8 1] 5)) := (Below.refl _ _).alloc (Nat.le_refl _) _
       have K3 := (HK2.out.next hal).low hb3 HLT.out.1 HLT.out.2 HA.out
       have q0 := K3.c0; have q1 := K3.c1; have q2 := K3.c2; have q3 := K3.c3; have q4 := K3.c4; have q5 := K3.c5
       have HK3 := hi_ K3
       have HO3 := hi_ (And.intro ho3 (Nat.le_trans HO2.out.2 (Nat.le_trans hal.size hb3.size)))
       have CN3 := hi_ (RNumS_any 8 (by decide) (by decide) ix w3)
       clear K3 ho3 hb3 hal HO2)
    | (go_at_call 47; have _t := CN3; refine CN3.out.mono ?_; rintro e w4 ⟨v4, rfl, ho4, hb4⟩
       obtain ⟨A4, cc4, rfl, _, _, hr4⟩ := Rd.of_own ho4 rfl
       have HK4 := hi_ (HK3.out.next hb4)
       have HO4 := hi_ (And.intro (own_keep HO3.out.1 hb4) (Nat.le_trans HO3.out.2 hb4.size))
       have HR4 := hi_ hr4
       clear hr4 ho4 hb4 CN3)
    | (at_builtin; have _t := HR4; refine wpList_app _ bytesT rfl (.tmp 25) (.tmp 29) rfl w1.heap.size v3 _ _ rfl HO4.out.1 A4 8 cc4 _ rfl HR4.out (by omega) HO4.out.2 ?_; intro v5 w5 ho5 hb5
       rw [<- cells_append] at ho5
       have K5 := HK4.out.low hb5 HLT.out.1 HLT.out.2 HA.out
       have q0 := K5.c0; have q1 := K5.c1; have q2 := K5.c2; have q3 := K5.c3; have q4 := K5.c4; have q5 := K5.c5
       have HK5 := hi_ K5
       have HO5 := hi_ (And.intro ho5 (Nat.le_trans HO4.out.2 hb5.size))
       have CN5 := hi_ (RNumS_any 8 (by decide) (by decide) cp w5)
       clear K5 ho5 hb5 HR4)
    | (go_at_call 47; have _t := CN5; refine CN5.out.mono ?_; rintro e w6 ⟨v6, rfl, ho6, hb6⟩
       obtain ⟨A6, cc6, rfl, _, _, hr6⟩ := Rd.of_own ho6 rfl
       have HK6 := hi_ (HK5.out.next hb6)
       have HO6 := hi_ (And.intro (own_keep HO5.out.1 hb6) (Nat.le_trans HO5.out.2 hb6.size))
       have HR6 := hi_ hr6
       clear hr6 ho6 hb6 CN5)
    | (at_builtin; have _t := HR6; refine wpList_app _ bytesT rfl (.tmp 49) (.tmp 52) rfl w1.heap.size v5 _ _ rfl HO6.out.1 A6 8 cc6 _ rfl HR6.out (by omega) HO6.out.2 ?_; intro v7 w7 ho7 hb7
       rw [<- cells_append] at ho7
       have K7 := HK6.out.low hb7 HLT.out.1 HLT.out.2 HA.out
       have q0 := K7.c0; have q1 := K7.c1; have q2 := K7.c2; have q3 := K7.c3; have q4 := K7.c4; have q5 := K7.c5
       have HK7 := hi_ K7
       have HO7 := hi_ (And.intro ho7 (Nat.le_trans HO6.out.2 hb7.size))
       clear K7 ho7 hb7 HR6))
  go_ret
  rw [HX.out]
  exact GotS.own (own_mono HO7.out.1 HLT.out.2) HK7.out.bel
theorem RBytesC_any (x : Cd) (A : Option Addr) (n c : Nat) (w : World) (h : Rd w A n x.dt) (hn : n <= 1000000) : Calls Try.prog 48 #[.agg (x.cs A n c)] w (GotS w x.bytes) := by
  by_cases ho : x.d < 0 \/ 3 < x.d
  · exact RBytes_o x ho A n c w h
  obtain ⟨d, lc, ix, gn, cp, dt⟩ := x
  rcases cd_cases d with rfl | rfl | rfl | rfl | hd
  · cases lc
    · exact RBytes_0f ix gn cp dt A n c w h hn
    · exact RBytes_0t ix gn cp dt A n c w h hn
  · cases lc
    · exact RBytes_1f ix gn cp dt A n c w h hn
    · exact RBytes_1t ix gn cp dt A n c w h hn
  · cases lc
    · exact RBytes_2f ix gn cp dt A n c w h hn
    · exact RBytes_2t ix gn cp dt A n c w h hn
  · cases lc
    · exact RBytes_3f ix gn cp dt A n c w h hn
    · exact RBytes_3t ix gn cp dt A n c w h hn
  · exact absurd hd ho
end Go.Proofs.Ythabmlbmlncbmaa
