/- AppI, BitsR, BitsRH, GrRF, EcRb, CmSR, EcRc, EcRd -/
import Derived.Test.YthiknmhkdeicjaaGreatDoorQs1
import Derived.Test.YthiknmhkdeicjaaGreatDoorQs3
import Derived.Test.YthiknmhkdeicjaaGreatDoorQs4
import Derived.Test.YthiknmhkdeicjaaGreatDoorQs6
import Derived.Test.YthiknmhkdeicjaaGreatDoorQs8
import Derived.Test.YthiknmhkdeicjaaGreatDoorQs19
import Derived.Laws.BitsAllLaws
import Derived.Laws.Bits128
import Derived.Deep.WholeRow
namespace Go.Proofs.YthiknmhkdeicjaaGreatDoor
open Go.RowKit
theorem run_appI {P : Program} (w : World) {T e : TypeId} (el : El P T e (.int .i64 0) 1 8) (ty : TypeId) (B : Nat) (v : Value) (n : Nat) (xs : List Value) (hown : w.ownsRow B e 1 v n xs)
  (A : Option Addr) (m c : Nat) (zs : List Int) (hr : IRd w A m zs) (hb : n + m <= 1000000000) (hB : B <= w.heap.size) :
  ∃ v' w', (Builtin.append_ #[T, T] ty #[v, .slice A m c]).run P w = .ok v' w' /\ w'.ownsRow B e 1 v' (n + m) (xs ++ zs.map (Value.int .i64)) /\ w.grownBy w' v.ownBlock := by
 obtain ⟨i, hi, hz, h1, h2⟩ := info_parts el.info
 rcases A with _ | ad
 ·have hm : m = 0 := by
   rcases Nat.eq_zero_or_pos m with h0 | h0
   ·exact h0
   ·obtain ⟨_, _, h, _⟩ := hr.2 h0
    cases h
  subst hm
  have hn : zs = [] := List.eq_nil_of_length_eq_zero hr.1
  subst hn
  exact ⟨v, w, run_app_nil w B T ty e i 1 el.und hi v n xs hown c, by simpa using hown, World.grownBy.refl _ _⟩
 ·have hcells : ∀ j u, (zs.map (Value.int .i64))[j]? = some u -> w.cell? (ad.add j) = some u := fun j u hj => by
   have hjl : j < zs.length := by have := (List.getElem?_eq_some_iff.1 hj).1; simpa using this
   obtain ⟨b, o, e, _, hc⟩ := hr.2 (by have := hr.1; omega)
   injection e with e
   subst e
   rw [Addr.add_lit, hc j hjl, <- hj]
   simp [List.getD, List.getElem?_eq_getElem hjl]
  obtain ⟨v', w', hrun, ho, hg, _⟩ := run_append_own (P := P) w B T ty e i (.int .i64 0) 1 8 el.und hi hz h1 h2 rfl (by decide) v n xs hown ad m c (zs.map (Value.int .i64)) (by simp [hr.1]) hcells (fun u hu => by obtain ⟨_, _, rfl⟩ := List.mem_map.1 hu; rfl)
   (by unfold maxLen; omega) (by omega) hB
  exact ⟨v', w', hrun, ho, hg⟩
section
variable {P : Program} (w : World) {T e : TypeId} {ops : Array Oper} {rest : List Oper} {o : Oper} {a : Act} {Q : Exit -> Act -> World -> Prop} {J : Act -> World -> Prop} {E : Prop}
theorem wpList_appI (el : El P T e (.int .i64 0) 1 8) (hgd : Region.wanted o (yielded ops a.tmps) = true) (s x : Operand)
  (ho : o.op = .call { callee := .builtin .append, args := #[s, x], argTypes := #[T, T] })
  (B : Nat) (v : Value) (n : Nat) (xs : List Value) (hs : a.eval s = v) (hown : w.ownsRow B e 1 v n xs)
  (A : Option Addr) (m c : Nat) (zs : List Int) (hx : a.eval x = .slice A m c) (hr : IRd w A m zs) (hb : n + m <= 1000000000) (hB : B <= w.heap.size)
  (h : ∀ v' w', w'.ownsRow B e 1 v' (n + m) (xs ++ zs.map (Value.int .i64)) -> w.grownBy w' v.ownBlock -> wpList P ops Q rest (a.put o.dst v') w') : wpList P ops Q (o :: rest) a w :=
 wpList_w hgd fun _ hK => by
  obtain ⟨v', w', hrun, h2, h3⟩ := run_appI w el o.type B v n xs hown A m c zs hr hb hB
  unfold Oper.wp execOp
  simp only [ho, resolve, invoke, builtin, Sem.run_bind, Sem.run_pure, Result.andThen_ok, List.map_toArray, List.map_cons, List.map_nil, hs, hx, hrun]
  exact hK _ _ (h v' w' h2 h3)
theorem step_appI (el : El P T e (.int .i64 0) 1 8) (hgd : o.guard = none) (s x : Operand)
  (ho : o.op = .call { callee := .builtin .append, args := #[s, x], argTypes := #[T, T] })
  (B : Nat) (v : Value) (n : Nat) (xs : List Value) (hs : a.eval s = v) (hown : w.ownsRow B e 1 v n xs)
  (A : Option Addr) (m c : Nat) (zs : List Int) (hx : a.eval x = .slice A m c) (hr : IRd w A m zs) (hb : n + m <= 1000000000) (hB : B <= w.heap.size)
  (h : ∀ v' w', w'.ownsRow B e 1 v' (n + m) (xs ++ zs.map (Value.int .i64)) -> w.grownBy w' v.ownBlock -> J (a.put o.dst v') w') : if Region.wanted o (yielded ops a.tmps) = true then Oper.wp P o a w J Q else E := by
 have hw : Region.wanted o (yielded ops a.tmps) = true := by simp [Region.wanted, hgd]
 rw [if_pos hw]
 obtain ⟨v', w', hrun, h2, h3⟩ := run_appI w el o.type B v n xs hown A m c zs hr hb hB
 unfold Oper.wp execOp
 simp only [ho, resolve, invoke, builtin, Sem.run_bind, Sem.run_pure, Result.andThen_ok, List.map_toArray, List.map_cons, List.map_nil, hs, hx, hrun]
 exact h v' w' h2 h3
end
end Go.Proofs.YthiknmhkdeicjaaGreatDoor
namespace Go.Proofs.YthiknmhkdeicjaaGreatDoor
open Go.RowKit
theorem ofL_snoc (l : List Int) (c : Nat) : ofL l (c + 1) = ofL l c + if (c : Int) ∈ l then 2 ^ c else 0 := rfl
theorem ROf_any (A : Option Addr) (n c : Nat) (zs : List Int) (w : World) (h : IRd w A n zs) (hn : n <= 1099511627776) :
  Calls Tryz.prog 113 #[.slice A n c] w fun e w' => e = .returned (.int .u64 (ofL zs 64 : Nat)) /\ w = w' := by
 have H := hi_ h
 clear h
 go_enter Tryz.func113, Tryz.ntmps113
 go_wp2
 go_loop [3, 4, 5] (fun sv bv cv => ∃ (j b : Nat), j <= 64 /\ cv = .int .i64 j /\ b = 2 ^ j % 18446744073709551616 /\ bv = .int .u64 b /\ sv = .int .u64 (ofL zs j : Nat)) (fun _ _ cv => 64 - (intOf cv).toNat)
 case atStart => exact ⟨0, 1, Nat.zero_le _, rfl, rfl, rfl, rfl⟩
 case round =>
  obtain ⟨j, b, hj, rfl, hb, rfl, rfl⟩ := hrel
  by_cases hj6 : j < 64
  ·have hlt := ofL_lt zs j
   have hsn := ofL_snoc zs j
   have h2 := two_lt hj6
   have hb0 : b = 2 ^ j := by rw [hb, Nat.mod_eq_of_lt h2]
   have hb1 : b * 2 % 18446744073709551616 = 2 ^ (j + 1) % 18446744073709551616 := by rw [hb0, Nat.pow_succ]
   have hlt2 := ofL_lt zs (j + 1)
   have h264 : 2 ^ (j + 1) <= 18446744073709551616 := show 2 ^ (j + 1) <= 2 ^ 64 from Nat.pow_le_pow_right (by omega) (by omega)
   obtain ⟨s, hs⟩ : ∃ s, s = ofL zs j := ⟨_, rfl⟩
   obtain ⟨s2, hs2⟩ : ∃ s2, s2 = ofL zs (j + 1) := ⟨_, rfl⟩
   rw [<- hs] at hlt hsn ⊢
   rw [<- hs2] at hlt2 hsn
   rw [<- hb0] at hlt h2 hsn
   have hs2l : s2 < 18446744073709551616 := Nat.lt_of_lt_of_le hlt2 h264
   clear hb hs hb0 hlt2 h264
   have HB1 := hi_ hb1
   have HSN := hi_ hsn
   have HS2 := hi_ hs2
   clear hb1 hsn hs2
   go_wp2
   go_loop [3, 6] (fun sv iv => ∃ i : Nat, i <= n /\ iv = .int .i64 i /\ sv = .int .u64 s /\ ¬ (j : Int) ∈ zs.take i) (fun _ iv => n - (intOf iv).toNat)
   case atStart => exact ⟨0, Nat.zero_le _, rfl, rfl, by simp⟩
   case round =>
    obtain ⟨i, hi, rfl, rfl, hni⟩ := hrel
    by_cases hin : i < n
    ·obtain ⟨bb, o, hA, _, hc⟩ := H.out.2 (by omega)
     have hil : i < zs.length := by rw [H.out.1]; exact hin
     have k0 := hc i hil
     obtain ⟨z, hz⟩ : ∃ z, z = zs.getD i 0 := ⟨_, rfl⟩
     rw [<- hz] at k0
     have hz' : z = zs[i] := by rw [hz, List.getD, List.getElem?_eq_getElem hil]; rfl
     subst hA
     clear hc hz
     have HZ := hi_ hz'
     have HNI := hi_ hni
     clear hz' hni
     by_cases hzj : z = (j : Int)
     ·have hm : (j : Int) ∈ zs := by rw [<- hzj, HZ.out]; exact List.getElem_mem hil
      have e := HSN.out
      rw [if_pos hm] at e
      subst hzj
      have E := hi_ e
      clear hm
      go_wp2
      go_round
      case rel => exact ⟨j + 1, b * 2 % 18446744073709551616, hj6, by go_num, HB1.out, by go_num, by rw [<- HS2.out]; go_num⟩
      case measure => simp [intOf]; omega
     ·go_wp2
      go_round
      case rel =>
       refine ⟨i + 1, hin, by go_num, rfl, ?_⟩
       rw [List.take_succ_eq_append_getElem hil, List.mem_append]
       rintro (h1 | h1)
       ·exact HNI.out h1
       ·rw [List.mem_singleton, <- HZ.out] at h1
        exact hzj h1.symm
      case measure => simp [intOf]; omega
    ·obtain rfl : i = n := by omega
     rw [List.take_of_length_le (by rw [H.out.1]; exact Nat.le_refl _)] at hni
     have e := HSN.out
     rw [if_neg hni, Nat.add_zero] at e
     have E := hi_ e
     clear e hni
     go_wp2
     go_round
     case rel => exact ⟨j + 1, b * 2 % 18446744073709551616, hj6, by go_num, HB1.out, by go_num, by rw [<- HS2.out, E.out]⟩
     case measure => simp [intOf]; omega
  ·obtain rfl : j = 64 := by omega
   clear hb
   go_wp2
   go_ret
   exact ⟨rfl, rfl⟩
end Go.Proofs.YthiknmhkdeicjaaGreatDoor
namespace Go.Proofs.YthiknmhkdeicjaaGreatDoor
open Go.RowKit
theorem RHas_any (s : Nat) (c : Int) (w : World) (hs : s < 18446744073709551616) :
  Calls Tryz.prog 112 #[.int .u64 s, .int .i64 c] w fun e w' => e = .returned (.bool (decide (0 <= c /\ c < 64 /\ s.testBit c.toNat = true))) /\ w = w' := by
 by_cases h0 : 0 <= c
 ·by_cases h1 : c < 64
  ·obtain ⟨k, hk⟩ : ∃ k : Nat, c = (k : Int) := ⟨c.toNat, by omega⟩
   subst hk
   have hk : k <= 63 := by omega
   clear h0 h1
   have hb : decide (0 <= (k : Int) /\ (k : Int) < 64 /\ s.testBit ((k : Int)).toNat = true) = decide (s / 2 ^ k % 2 = 1) := by
    have h1 : (k : Int) < 64 := by omega
    rw [Nat.testBit_eq_decide_div_mod_eq]
    simp [h1]
   rw [hb]
   clear hb
   go_enter Tryz.func112, Tryz.ntmps112
   go_wp2
   go_loop [0, 5] (fun v i => ∃ j : Nat, j <= k /\ i = .int .i64 j /\ v = .int .u64 (s / 2 ^ j : Nat)) (fun _ i => k - (intOf i).toNat)
   case atStart => exact ⟨0, Nat.zero_le _, rfl, by simp⟩
   case round =>
    obtain ⟨j, hj, rfl, rfl⟩ := hrel
    obtain ⟨t, ht⟩ : ∃ t, t = s / 2 ^ j := ⟨_, rfl⟩
    have htl : t < 18446744073709551616 := by rw [ht]; exact Nat.lt_of_le_of_lt (Nat.div_le_self _ _) hs
    rw [<- ht]
    by_cases hjk : j < k
    ·have h2 : s / 2 ^ (j + 1) = t / 2 := by rw [Nat.pow_succ, <- Nat.div_div_eq_div_mul, <- ht]
     clear ht
     go_wp2
     go_round
     case rel => exact ⟨j + 1, hjk, by go_num, by rw [h2]; rfl⟩
     case measure => simp [intOf]; omega
    ·have e : j = k := by omega
     subst e
     have HT := hi_ ht
     clear ht
     go_wp2
     go_ret
     exact ⟨ret_bool (by rw [<- HT.out, Bool.eq_iff_iff]; simp; omega), rfl⟩
  ·have hb : decide (0 <= c /\ c < 64 /\ s.testBit c.toNat = true) = false := by simp; omega
   rw [hb]
   clear hb
   go_enter Tryz.func112, Tryz.ntmps112
   go_wp2
   go_ret
   exact ⟨rfl, rfl⟩
 ·have hb : decide (0 <= c /\ c < 64 /\ s.testBit c.toNat = true) = false := by simp; omega
  rw [hb]
  clear hb
  go_enter Tryz.func112, Tryz.ntmps112
  go_wp2
  go_ret
  exact ⟨rfl, rfl⟩
end Go.Proofs.YthiknmhkdeicjaaGreatDoor
namespace Go.Proofs.YthiknmhkdeicjaaGreatDoor
open Go.RowKit
set_option maxRecDepth 20000
theorem fitG_iff {wi wo s : Nat} (hwi : wi < 18446744073709551616) (hwo : wo < 18446744073709551616) (hs : s < 18446744073709551616) :
    fitG wi wo s = true ↔ ∀ i, i < 64 -> (wi.testBit i = true -> s.testBit i = true) /\ ¬ (wo.testBit i = true /\ s.testBit i = true) := by
  unfold fitG
  rw [Bool.and_eq_true, beq_iff_eq, beq_iff_eq]
  constructor
  · rintro ⟨h1, h2⟩ i hi
    refine ⟨fun hw => ?_, fun hw => ?_⟩
    · have := congrArg (fun x => Nat.testBit x i) h1
      simp only [butN_bit' _ _ _ hs hi, hw, Nat.zero_testBit, Bool.true_and] at this
      simpa using this
    · have := congrArg (fun x => Nat.testBit x i) h2
      simp only [Nat.testBit_and, hw.1, hw.2, Nat.zero_testBit] at this
      cases this
  · intro h
    refine ⟨eq_of_bits (butN_lt hwi) (by decide) fun i hi => ?_, eq_of_bits (Nat.lt_of_le_of_lt Nat.and_le_left hwo) (by decide) fun i hi => ?_⟩
    · rw [butN_bit' _ _ _ hs hi, Nat.zero_testBit]
      have := (h i hi).1
      cases hw : wi.testBit i <;> simp_all
    · rw [Nat.testBit_and, Nat.zero_testBit]
      have := (h i hi).2
      cases hw : wo.testBit i <;> cases hs : s.testBit i <;> simp_all
theorem RHas_bit (s j : Nat) (w : World) (hs : s < 18446744073709551616) (hj : j < 64) :
    Calls Tryz.prog 112 #[.int .u64 s, .int .i64 j] w fun e w' => e = .returned (.bool (s.testBit j)) /\ w = w' := by
  have H := RHas_any s (j : Int) w hs
  have hd : decide (0 <= (j : Int) /\ (j : Int) < 64 /\ s.testBit ((j : Int)).toNat = true) = s.testBit j := by
    have h1 : (j : Int) < 64 := by omega
    simp [h1]
  rw [hd] at H
  exact H
set_option maxHeartbeats 1000000 in
theorem RFits_any (s wi wo : Nat) (w : World) (hs : s < 18446744073709551616) (hwi : wi < 18446744073709551616) (hwo : wo < 18446744073709551616) :
    Calls Tryz.prog 57 #[.int .u64 s, .int .u64 wi, .int .u64 wo] w fun e w' => e = .returned (.bool (fitG wi wo s)) /\ w = w' := by
  have HI := hi_ (fitG_iff hwi hwo hs)
  go_enter Tryz.func57, Tryz.ntmps57
  go_wp2
  go_loop [7] (fun iv => ∃ j : Nat, j <= 64 /\ iv = .int .i64 j /\ ∀ i, i < j -> (wi.testBit i = true -> s.testBit i = true) /\ ¬ (wo.testBit i = true /\ s.testBit i = true)) (fun iv => 64 - (intOf iv).toNat)
  case atStart => exact ⟨0, Nat.zero_le _, rfl, fun i hi => absurd hi (Nat.not_lt_zero i)⟩
  case round =>
    obtain ⟨j, hj, rfl, hno⟩ := hrel
    by_cases hj6 : j < 64
    · have C1 := RHas_bit wi j w hwi hj6
      have C2 := RHas_bit s j w hs hj6
      have C3 := RHas_bit wo j w hwo hj6
      obtain ⟨b1, e1⟩ : ∃ x, x = wi.testBit j := ⟨_, rfl⟩
      obtain ⟨b2, e2⟩ : ∃ x, x = s.testBit j := ⟨_, rfl⟩
      obtain ⟨b3, e3⟩ : ∃ x, x = wo.testBit j := ⟨_, rfl⟩
      rw [<- e1] at C1
      rw [<- e2] at C2
      rw [<- e3] at C3
      have C1 := hi_ C1
      have C2 := hi_ C2
      have C3 := hi_ C3
      by_cases hb : (b1 = true -> b2 = true) /\ ¬ (b3 = true /\ b2 = true)
      · have HN : Hid (∀ i, i < j + 1 -> (wi.testBit i = true -> s.testBit i = true) /\ ¬ (wo.testBit i = true /\ s.testBit i = true)) := hi_ (fun i hi => by
          by_cases e : i = j
          · subst e
            rw [<- e1, <- e2, <- e3]
            exact hb
          · exact hno i (by omega))
        clear hno e1 e2 e3
        cases b1 <;> cases b2 <;> cases b3 <;> first
          | (exact absurd hb (by decide))
          | (clear hb
             go_wp2_with (go_at_call 112; first
               | ((with_reducible refine C1.out.mono ?_); rintro e w' ⟨rfl, rfl⟩)
               | ((with_reducible refine C2.out.mono ?_); rintro e w' ⟨rfl, rfl⟩)
               | ((with_reducible refine C3.out.mono ?_); rintro e w' ⟨rfl, rfl⟩))
             go_round
             case rel => exact ⟨j + 1, hj6, by go_num, HN.out⟩
             case measure => simp [intOf]; omega)
      · have HF : fitG wi wo s = false := by
          cases hf : fitG wi wo s with
          | false => rfl
          | true =>
            have := HI.out.1 hf j hj6
            rw [<- e1, <- e2, <- e3] at this
            exact absurd this hb
        have HF := hi_ HF
        clear hno e1 e2 e3
        cases b1 <;> cases b2 <;> cases b3 <;> first
          | (exact absurd (by decide) hb)
          | (clear hb
             go_wp2_with (go_at_call 112; first
               | ((with_reducible refine C1.out.mono ?_); rintro e w' ⟨rfl, rfl⟩)
               | ((with_reducible refine C2.out.mono ?_); rintro e w' ⟨rfl, rfl⟩)
               | ((with_reducible refine C3.out.mono ?_); rintro e w' ⟨rfl, rfl⟩))
             go_ret
             rw [HF.out]
             exact ⟨rfl, rfl⟩)
    · obtain rfl : j = 64 := by omega
      have HF := hi_ (HI.out.2 hno)
      clear hno
      go_wp2
      go_ret
      rw [HF.out]
      exact ⟨rfl, rfl⟩
end Go.Proofs.YthiknmhkdeicjaaGreatDoor
namespace Go.Proofs.YthiknmhkdeicjaaGreatDoor
open Go.RowKit
set_option maxRecDepth 20000
theorem entT3 : RT Tryz.prog 101 3 := ⟨⟨_, Tryz.underlying101, rfl⟩, by kernel_rfl⟩
set_option maxHeartbeats 1000000 in
theorem RSig_any {K : Nat -> Prop} (w : World) (i g : Int) (PA : Option Addr) (pn pc : Nat) (ps : List Pt) (h : PartsV K w PA pn ps) (hn : pn <= 1000000) :
  Calls Tryz.prog 58 #[.agg #[.int .i64 i, .int .i64 g, .slice PA pn pc]] w fun e w' => e = .returned (.int .u64 (sigE ((i, g), ps) : Nat)) /\ Below w.heap.size w w' := by
 obtain ⟨w1, hw1⟩ : ∃ w1, w1 = w.alloc (.cells #[.int .i64 i, .int .i64 g, .slice PA pn pc] 101) := ⟨_, rfl⟩
 have hb1 : Below w.heap.size w w1 := by rw [hw1]; exact (Below.refl _ _).alloc (Nat.le_refl _) _
 have r1 : Rec 101 w1 w.heap.size #[.int .i64 i, .int .i64 g, .slice PA pn pc] := by rw [hw1]; exact Rec.new w _ _
 have H := hi_ (h.below hb1)
 have HL := hi_ h.len
 have HR := hi_ (And.intro r1 hb1)
 have k2 := r1.at_ 2
 clear h hb1 r1
 go_enter Tryz.func58, Tryz.ntmps58
 go_wp2_with (rw [<- hw1]; clear hw1)
 clear k2
 go_loopw [3, 4] (fun lv iv wr => ∃ j : Nat, j <= pn /\ iv = .int .i64 j /\ wr.ownsRow w1.heap.size 3 1 lv j (((ps.take j).map (·.1)).map (Value.int .i64)) /\ Below w1.heap.size w1 wr) (fun _ iv _ => pn - (intOf iv).toNat)
 case atStart => exact ⟨0, Nat.zero_le _, rfl, World.ownsRow_nil _ _ _ _, Below.refl _ _⟩
 case round =>
  obtain ⟨j, hj, rfl, ho, hB⟩ := hrel
  have k2 := (HR.out.1.under hB).at_ 2
  have HBw := hi_ (HR.out.2.trans (hB.mono HR.out.2.size))
  have HB := hi_ hB
  have HO := hi_ ho
  clear hB ho
  by_cases hjn : j < pn
  ·obtain ⟨y, hy⟩ : ∃ y, ps[j]? = some y := ⟨_, List.getElem?_eq_getElem (by have := HL.out; omega)⟩
   obtain ⟨b, o, u, hA, _, hblt, h0, _, _⟩ := H.out.cell hy
   subst hA
   obtain ⟨yk, yb⟩ := y
   simp only at h0
   have m0 : wr.cell? ⟨b, o + j * 2, none⟩ = some (.int .i64 yk) := (HB.out.cell (p := ⟨b, o + j * 2, none⟩) hblt).trans h0
   have HY := hi_ hy
   obtain ⟨w5, hw5⟩ : ∃ w5, w5 = wr.alloc (.cells #[.int .i64 yk] 3) := ⟨_, rfl⟩
   have HI5 := hi_ (show IRd w5 (some ⟨wr.heap.size, 0, none⟩) 1 [yk] by rw [hw5]; exact one_ird wr yk)
   have HB5 := hi_ (show Below wr.heap.size wr w5 by rw [hw5]; exact (Below.refl _ _).alloc (Nat.le_refl _) _)
   clear hy h0 hblt
   go_wp2_with (first
    | (rw [<- hw5]; clear hw5)
    | (at_builtin; refine wpList_appI w5 intT rfl (.tmp 12) (.tmp 19) rfl w1.heap.size _ j _ rfl (own_keep HO.out HB5.out) (some ⟨wr.heap.size, 0, none⟩) 1 1 [yk] rfl HI5.out (by omega) (Nat.le_trans HB.out.size HB5.out.size) ?_; intro v6 w6 ho6 hg6; have HO6 := hi_ (And.intro ho6 hg6); clear ho6 hg6 k2 m0))
   go_roundw
   case rel =>
    refine ⟨j + 1, hjn, by go_num, ?_, (HB.out.trans (HB5.out.mono HB.out.size)).grown HO6.out.2 (Nat.le_trans HB.out.size HB5.out.size) (fun y hy => (own_geB HO.out hy).1)⟩
    have h6 := HO6.out.1
    rw [List.take_add_one, HY.out, List.map_append, List.map_append]
    exact h6
   case measure => simp [intOf]; omega
  ·obtain rfl : j = pn := by omega
   obtain ⟨A, c, rfl, hr⟩ := IRd.of_own (zs := (ps.take j).map (·.1)) HO.out
   have CO := hi_ (ROf_any A j c _ wr hr (by omega))
   have hps : ps.take j = ps := List.take_of_length_le (Nat.le_of_eq HL.out)
   rw [hps] at CO
   clear hr hps
   go_wp2_with (go_at_call 113; refine CO.out.mono ?_; rintro e w' ⟨rfl, rfl⟩)
   go_ret
   refine ⟨?_, HBw.out⟩
   unfold sigE
   rw [orL_eq]
   rfl
theorem wpList_ldEn {ops : Array Oper} {rest : List Oper} {o : Oper} {a : Act} {w : World} {Q : Exit -> Act -> World -> Prop} {b off : Nat} {i g : Int} {PA : Option Addr} {pn pc : Nat} (hgd : Region.wanted o (yielded ops a.tmps) = true) (x : Operand) (ho : o.op = .load 101 x)
  (hx : a.eval x = .pointer (some ⟨b, off, none⟩)) (h0 : w.cell? ⟨b, off, none⟩ = some (.int .i64 i)) (h1 : w.cell? ⟨b, off + 1, none⟩ = some (.int .i64 g)) (h2 : w.cell? ⟨b, off + 2, none⟩ = some (.slice PA pn pc))
  (kk : wpList Tryz.prog ops Q rest (a.put o.dst (.agg #[.int .i64 i, .int .i64 g, .slice PA pn pc])) w) : wpList Tryz.prog ops Q (o :: rest) a w :=
 wpList_w hgd fun _ hK => by
  obtain ⟨d, hd, hr⟩ := entT3.und
  have := run_loadVar_mid (P := Tryz.prog) w b off 101 [.int .i64 i, .int .i64 g, .slice PA pn pc] d (fun j v hj => by
   match j, hj with
   | 0, hj => injection hj with hj; rw [<- hj]; exact h0
   | 1, hj => injection hj with hj; rw [<- hj]; exact h1
   | 2, hj => injection hj with hj; rw [<- hj]; exact h2) hd hr (by rw [entT3.info]; rfl)
  have h3 : (Instr.loadAt 101 (.pointer (some ⟨b, off, none⟩))).run Tryz.prog w = .ok (.agg #[.int .i64 i, .int .i64 g, .slice PA pn pc]) w := by
   simp only [Instr.loadAt, Instr.sureAddr, Sem.run_bind, Sem.run_pure, Result.andThen_ok, this]
  unfold Oper.wp execOp
  simp only [ho, hx, h3, Sem.run_bind, Sem.run_pure, Result.andThen_ok]
  exact hK _ _ kk
set_option maxHeartbeats 1000000 in
theorem RQuery_any {K : Nat -> Prop} (w : World) (d : Rst) (s : Es) (h : RSt K w d s) (hn : d.en <= 1000000) (hps : ∀ e ∈ s.ents, e.2.length <= 1000000) (wi wo : Nat) (hwi : wi < 18446744073709551616) (hwo : wo < 18446744073709551616) :
  Calls Tryz.prog 21 #[.agg d.cs, .int .u64 wi, .int .u64 wo] w fun e w' => ∃ A c, e = .returned (.slice A ((s.ents.filter (fitE wi wo)).map (·.1)).length c) /\ IdsV (fun y => w.heap.size <= y) w' A ((s.ents.filter (fitE wi wo)).map (·.1)).length ((s.ents.filter (fitE wi wo)).map (·.1)) /\ Below w.heap.size w w' := by
 obtain ⟨w1, hw1⟩ : ∃ w1, w1 = w.alloc (.cells d.cs 37) := ⟨_, rfl⟩
 have hb1 : Below w.heap.size w w1 := by rw [hw1]; exact (Below.refl _ _).alloc (Nat.le_refl _) _
 have r1 : Rec 37 w1 w.heap.size d.cs := by rw [hw1]; exact Rec.new w _ _
 obtain ⟨es, hes⟩ : ∃ es, es = s.ents := ⟨_, rfl⟩
 have H := hi_ (show EntsV K w d.EA d.en es by rw [hes]; exact h.e.ents)
 have hl := h.en
 rw [<- hes] at hl hps ⊢
 obtain ⟨GA, gn, gc, FA, fn, fc, EA, n, ec⟩ := d
 simp only at hl hn H
 have HL := hi_ (And.intro hl hps)
 have HR := hi_ (And.intro r1 hb1)
 have k2 := r1.at_ 2
 clear h hb1 r1 hes hl hps
 go_enter Tryz.func21, Tryz.ntmps21
 go_wp2_with (rw [<- hw1]; clear hw1)
 clear k2
 go_loopw [7, 8] (fun lv iv wr => ∃ (j : Nat) (xs : List (Int × Int)), j <= n /\ iv = .int .i64 j /\ xs = ((es.take j).filter (fitE wi wo)).map (·.1) /\ xs.length <= j /\ wr.ownsRow w1.heap.size 39 2 lv xs.length (idc xs) /\ Below w1.heap.size w1 wr) (fun _ iv _ => n - (intOf iv).toNat)
 case atStart => exact ⟨0, [], Nat.zero_le _, rfl, rfl, Nat.le_refl _, World.ownsRow_nil _ _ _ _, Below.refl _ _⟩
 case round =>
  obtain ⟨j, xs, hj, rfl, hxs, hxl, ho, hB⟩ := hrel
  have k2 := (HR.out.1.under hB).at_ 2
  have HBw := hi_ (HR.out.2.trans (hB.mono HR.out.2.size))
  have HB := hi_ hB
  have HO := hi_ ho
  have HX := hi_ hxs
  clear hB ho hxs
  by_cases hjn : j < n
  ·obtain ⟨y, hy⟩ : ∃ y, es[j]? = some y := ⟨_, List.getElem?_eq_getElem (by have := HL.out.1; omega)⟩
   obtain ⟨b, o, PA, pn, pc, hA, _, hblt, h0, h1, h2, hP⟩ := H.out.cell hy
   subst hA
   have hyl := HL.out.2 y (List.mem_of_getElem? hy)
   obtain ⟨⟨yi, yg⟩, yp⟩ := y
   simp only at h0 h1 h2 hP hyl
   have n0 : wr.cell? ⟨b, o + j * 3, none⟩ = some (.int .i64 yi) := (HBw.out.cell (p := ⟨b, o + j * 3, none⟩) hblt).trans h0
   have n1 : wr.cell? ⟨b, o + j * 3 + 1, none⟩ = some (.int .i64 yg) := (HBw.out.cell (p := ⟨b, o + j * 3 + 1, none⟩) hblt).trans h1
   have n2 : wr.cell? ⟨b, o + j * 3 + 2, none⟩ = some (.slice PA pn pc) := (HBw.out.cell (p := ⟨b, o + j * 3 + 2, none⟩) hblt).trans h2
   have HY := hi_ hy
   have CS := hi_ (RSig_any wr yi yg PA pn pc yp (hP.below HBw.out) (by rw [<- hP.len]; exact hyl))
   obtain ⟨sg, hsg⟩ : ∃ sg, sg = sigE ((yi, yg), yp) := ⟨_, rfl⟩
   have hsl : sg < 18446744073709551616 := by rw [hsg]; exact orL_lt _
   rw [<- hsg] at CS
   obtain ⟨fb, hfb⟩ : ∃ fb, fb = fitG wi wo sg := ⟨_, rfl⟩
   have CF : Hid (∀ W, Calls Tryz.prog 57 #[.int .u64 sg, .int .u64 wi, .int .u64 wo] W fun e w' => e = .returned (.bool fb) /\ W = w') := hi_ fun W => by rw [hfb]; exact RFits_any sg wi wo W hsl hwi hwo
   have HFB := hi_ (show fitE wi wo ((yi, yg), yp) = fb by rw [hfb, hsg]; rfl)
   have HBL := hi_ hblt
   have HKS := hi_ (show es.take (j + 1) = es.take j ++ [((yi, yg), yp)] by rw [List.take_add_one, HY.out]; rfl)
   clear hy h0 h1 h2 hP hyl hsg hsl hfb hblt
   cases fb with
   | false =>
    go_wp2_with (first
     | ((with_reducible refine wpList_ldEn rfl (.tmp 19) rfl rfl n0 n1 n2 ?_))
     | (go_at_call 58; refine CS.out.mono ?_; rintro e w5 ⟨rfl, hb5⟩; have HB5 := hi_ hb5; clear hb5 k2 n0 n1 n2)
     | (go_at_call 57; refine (CF.out w5).mono ?_; rintro e w' ⟨rfl, rfl⟩))
    go_roundw
    case rel =>
     refine ⟨j + 1, xs, hjn, by go_num, ?_, by omega, own_keep HO.out HB5.out, HB.out.trans (HB5.out.mono HB.out.size)⟩
     rw [HKS.out, List.filter_append, HX.out]
     simp [HFB.out]
    case measure => simp [intOf]; omega
   | true =>
    go_wp2_with (first
     | ((with_reducible refine wpList_ldEn rfl (.tmp 19) rfl rfl n0 n1 n2 ?_))
     | (go_at_call 58; refine CS.out.mono ?_; rintro e w5 ⟨rfl, hb5⟩; have HB5 := hi_ hb5; have k2' := (HR.out.1.under (HB.out.trans (hb5.mono HB.out.size))).at_ 2; have p0 : w5.cell? ⟨b, o + j * 3, none⟩ = some (.int .i64 yi) := (hb5.cell (p := ⟨b, o + j * 3, none⟩) (Nat.lt_of_lt_of_le HBL.out HBw.out.size)).trans n0; have p1 : w5.cell? ⟨b, o + j * 3 + 1, none⟩ = some (.int .i64 yg) := (hb5.cell (p := ⟨b, o + j * 3 + 1, none⟩) (Nat.lt_of_lt_of_le HBL.out HBw.out.size)).trans n1; obtain ⟨w6, hw6⟩ : ∃ w6, w6 = w5.alloc (.cells #[.int .i64 yi, .int .i64 yg] 39) := ⟨_, rfl⟩; have HV6 : Hid (VRow (fun x => w5.heap.size <= x) w6 (some ⟨w5.heap.size, 0, none⟩) 1 2 [.int .i64 yi, .int .i64 yg]) := hi_ (by rw [hw6]; exact VRow.new w5 #[.int .i64 yi, .int .i64 yg] _ 1 2 rfl); have HB6 := hi_ (hb5.trans (show Below wr.heap.size w5 w6 by rw [hw6]; exact (Below.refl _ _).alloc hb5.size _)); clear hb5 k2 n0 n1 n2)
     | (go_at_call 57; refine (CF.out w5).mono ?_; rintro e w' ⟨rfl, rfl⟩)
     | (rw [<- hw6]; clear hw6)
     | (at_builtin; refine wpList_appW idsTP rfl (.tmp 25) (.tmp 32) rfl w1.heap.size _ xs.length (idc xs) rfl (own_keep HO.out HB6.out) (some ⟨w5.heap.size, 0, none⟩) 1 1 [.int .i64 yi, .int .i64 yg] rfl HV6.out (fun u hu => by simp at hu; rcases hu with rfl | rfl <;> rfl) (by omega) (by decide) (Nat.le_trans HB.out.size HB6.out.size) ?_; intro v7 w7 ho7 hg7; have HO7 := hi_ (And.intro ho7 hg7); clear ho7 hg7))
    go_roundw
    case rel =>
     refine ⟨j + 1, xs ++ [(yi, yg)], hjn, by go_num, ?_, by simp; omega, ?_, (HB.out.trans (HB6.out.mono HB.out.size)).grown HO7.out.2 (Nat.le_trans HB.out.size HB6.out.size) (fun y hy => (own_geB HO.out hy).1)⟩
     ·rw [HKS.out, List.filter_append, HX.out]
      simp [HFB.out]
     ·rw [List.length_append, idc_append]
      exact HO7.out.1
    case measure => simp [intOf]; omega
  ·obtain rfl : j = n := by omega
   have hes : es.take j = es := List.take_of_length_le (Nat.le_of_eq HL.out.1.symm)
   have hx := HX.out
   rw [hes] at hx
   have HXF := hi_ hx
   obtain ⟨A, c, rfl, _, _, hr⟩ := own_rowsL HO.out (show HdL 2 ED (idc xs) xs from idc_el xs) rfl
   have HRW := hi_ hr
   clear hx hr hes
   go_wp2
   go_ret
   rw [<- HXF.out]
   exact ⟨A, c, rfl, IdsV.mono HRW.out (fun y hy => Nat.le_trans HR.out.2.size hy.1), HBw.out⟩
end Go.Proofs.YthiknmhkdeicjaaGreatDoor
namespace Go.Proofs.YthiknmhkdeicjaaGreatDoor
open Go.RowKit
set_option linter.unusedVariables false
section
variable (lg pg en gn : Int) (A : Option Addr) (n cap : Nat) (ks : List Kd) (w : World)
theorem RSize_any (h : KRd w A n ks) (hn : n <= 1000000) (k : Int) :
  Calls Tryz.prog 96 #[cv lg pg en gn A n cap, .int .i64 k] w fun e w' => e = .returned (.tuple #[.int .i64 (sizeK ks k).1, .bool (sizeK ks k).2]) /\ Below w.heap.size w w' := by
 obtain ⟨w1, hw1⟩ : ∃ w1, w1 = w.alloc (.cells (cc lg pg en gn A n cap) 24) := ⟨_, rfl⟩
 have C1 := CAt.new h lg pg en gn cap
 rw [<- hw1] at C1
 obtain ⟨g, hg⟩ : ∃ g, g = w.heap.size := ⟨_, rfl⟩
 rw [<- hg] at C1
 have c4 := C1.c4
 have hl := h.1
 have K1 := hi_ C1
 have HG := hi_ hg
 clear h hg C1
 by_cases hk0 : k < 0
 ·have e1 : sizeK ks k = (0, false) := sizeK_no (by omega)
  rw [e1]
  clear e1
  go_enter Tryz.func96, Tryz.ntmps96
  go_wp2_with (rw [<- hw1, <- HG.out]; clear hw1)
  go_ret2
  exact ⟨rfl, K1.out.bel⟩
 ·by_cases hk1 : k < n
  ·obtain ⟨j, rfl⟩ : ∃ j : Nat, k = (j : Int) := ⟨k.toNat, by omega⟩
   obtain ⟨b, o, s', z, rfl, _, k0, k1, hl', hk⟩ := K1.out.rd.at_ (show j < n by omega)
   rw [sizeK_yes hl' hk]
   clear hk
   go_enter Tryz.func96, Tryz.ntmps96
   go_wp2_with (rw [<- hw1, <- HG.out]; clear hw1)
   go_ret2
   exact ⟨rfl, K1.out.bel⟩
  ·have e1 : sizeK ks k = (0, false) := sizeK_no (by omega)
   rw [e1]
   clear e1
   go_enter Tryz.func96, Tryz.ntmps96
   go_wp2_with (rw [<- hw1, <- HG.out]; clear hw1)
   go_ret2
   exact ⟨rfl, K1.out.bel⟩
end
end Go.Proofs.YthiknmhkdeicjaaGreatDoor
namespace Go.Proofs.YthiknmhkdeicjaaGreatDoor
open Go.RowKit
set_option maxRecDepth 20000
theorem three_start (w : World) (lg pg en gn : Int) (A : Option Addr) (n cap : Nat) (d : Rst) (i g : Int) : ∃ w1, w1 = ((w.alloc (.cells (cc lg pg en gn A n cap) 24)).alloc (.cells d.cs 37)).alloc (.cells #[.int .i64 i, .int .i64 g] 39) /\ Below w.heap.size w w1 /\ Rec 24 w1 w.heap.size (cc lg pg en gn A n cap) /\ Rec 37 w1 (w.heap.size + 1) d.cs /\ Rec 39 w1 (w.heap.size + 2) #[.int .i64 i, .int .i64 g] /\ w1.heap.size = w.heap.size + 3 := by
 obtain ⟨wa, hwa⟩ : ∃ wa, wa = w.alloc (.cells (cc lg pg en gn A n cap) 24) := ⟨_, rfl⟩
 obtain ⟨wb, hwb⟩ : ∃ wb, wb = wa.alloc (.cells d.cs 37) := ⟨_, rfl⟩
 have sa : wa.heap.size = w.heap.size + 1 := by rw [hwa]; simp
 have sb : wb.heap.size = w.heap.size + 2 := by rw [hwb]; simp [sa]
 have ba : Below w.heap.size w wa := by rw [hwa]; exact (Below.refl _ _).alloc (Nat.le_refl _) _
 have bb : Below wa.heap.size wa wb := by rw [hwb]; exact (Below.refl _ _).alloc (Nat.le_refl _) _
 have bc : Below wb.heap.size wb (wb.alloc (.cells #[.int .i64 i, .int .i64 g] 39)) := (Below.refl _ _).alloc (Nat.le_refl _) _
 have ra : Rec 24 wa w.heap.size (cc lg pg en gn A n cap) := by rw [hwa]; exact Rec.new w _ _
 have rb : Rec 37 wb (w.heap.size + 1) d.cs := by rw [hwb, <- sa]; exact Rec.new wa _ _
 refine ⟨wb.alloc (.cells #[.int .i64 i, .int .i64 g] 39), by rw [hwb, hwa], ?_, ?_, ?_, ?_, ?_⟩
 ·exact (ba.trans (bb.mono ba.size)).trans (bc.mono (Nat.le_trans ba.size bb.size))
 ·exact (ra.under bb).under bc
 ·exact rb.under bc
 ·have := Rec.new wb 39 #[.int .i64 i, .int .i64 g]
  rwa [sb] at this
 ·simp [sb]
section
variable {K : Nat -> Prop} {w : World} {d : Rst} {s : Es} {A : Option Addr} {n cap : Nat} {ks : List Kd}
theorem szAt_of_size {kk : Int} (hz : Sized ks) : (sizeK ks kk).2 = (szAt (szX ks) kk).isSome /\ ∀ z, szAt (szX ks) kk = some z -> sizeK ks kk = ((z : Int), true) := by
 refine ⟨?_, fun z h => (sizeK_some hz h).1⟩
 cases h : szAt (szX ks) kk with
 | none => exact sizeK_none h
 | some z => rw [(sizeK_some hz h).1]; rfl
set_option maxHeartbeats 2000000 in
theorem RGet_any (h : RSt K w d s) (hn : d.en <= 1000000) (hps : ∀ e ∈ s.ents, e.2.length <= 1000000) (hk : KRd w A n ks) (hkn : n <= 1000000) (hz : Sized ks) (lg pg en gn i g kk : Int) :
  Calls Tryz.prog 43 #[cv lg pg en gn A n cap, .agg d.cs, .agg #[.int .i64 i, .int .i64 g], .int .i64 kk] w fun e w' => (∃ DA dn dc, e = .returned (.tuple #[.slice DA dn dc, .int .i64 (s.get (szX ks) (i, g) kk).2]) /\ VB K w' (.slice DA dn dc) (s.get (szX ks) (i, g) kk).1) /\ Below w.heap.size w w' := by
 obtain ⟨w1, hw1, hb1, r0, r1, r2, hs1⟩ := three_start w lg pg en gn A n cap d i g
 have CPL : Hid (Calls Tryz.prog 61 #[.agg d.cs, .agg #[.int .i64 i, .int .i64 g]] w1 fun e w' => e = .returned (.int .i64 (placeN (ePlace s.ents (i, g)))) /\ Below w1.heap.size w1 w') := hi_ (RPlace_any w1 d s (h.below hb1) hn i g)
 have CSZ : Hid (∀ W, Below w.heap.size w W -> Calls Tryz.prog 96 #[cv lg pg en gn A n cap, .int .i64 kk] W fun e w' => e = .returned (.tuple #[.int .i64 (sizeK ks kk).1, .bool (sizeK ks kk).2]) /\ Below W.heap.size W w') := hi_ fun W hW => RSize_any lg pg en gn A n cap ks W (hk.below hW) hkn kk
 have m0 := r2.at_ 0
 have m1 := r2.at_ 1
 have HE := hi_ h.e.ents
 have hel := h.en
 obtain ⟨GA, gn', gc, FA, fn, fc, EA, en', ec⟩ := d
 simp only at hel HE hn
 have HR := hi_ (And.intro r0 (And.intro r1 (And.intro hb1 hs1)))
 have HL := hi_ (And.intro hel hps)
 clear h hk r0 r1 r2 hb1 hel hps hs1
 cases hp : ePlace s.ents (i, g) with
 | none =>
  have e2 : s.get (szX ks) (i, g) kk = ([], 5) := by unfold Es.get; rw [hp]
  rw [hp] at CPL
  rw [e2]
  clear hp e2 CSZ
  simp only [placeN] at CPL
  go_enter Tryz.func43, Tryz.ntmps43
  go_wp2_with (first
   | (rw [<- hw1]; clear hw1)
   | ((with_reducible refine wpList_ldS stT rfl rfl (.tmp 5) rfl rfl HR.out.2.1 ?_))
   | (go_at_call 61; refine CPL.out.mono ?_; rintro e w2 ⟨rfl, hb2⟩; have HB2 := hi_ hb2; clear hb2 m0 m1))
  go_ret2
  exact ⟨⟨none, 0, 0, rfl, VB.nil _ _ _⟩, HR.out.2.2.1.trans (HB2.out.mono HR.out.2.2.1.size)⟩
 | some j =>
  obtain ⟨hj, hje⟩ := ePlace_some hp
  rw [hp] at CPL
  simp only [placeN] at CPL
  have dj : decide ((j : Int) < 0) = false := decide_eq_false (by omega)
  obtain ⟨q1, q2⟩ := szAt_of_size (kk := kk) hz
  cases hzz : szAt (szX ks) kk with
  | none =>
   have e2 : s.get (szX ks) (i, g) kk = ([], 6) := by unfold Es.get; rw [hp]; simp only; rw [hzz]
   rw [hzz] at q1
   rw [e2]
   obtain ⟨sz1, hsz1⟩ : ∃ z, z = (sizeK ks kk).1 := ⟨_, rfl⟩
   rw [q1, <- hsz1] at CSZ
   simp only [Option.isSome_none] at CSZ
   clear hp e2 q1 q2 hzz hsz1 hje
   go_enter Tryz.func43, Tryz.ntmps43
   go_wp2_with (first
    | (rw [<- hw1]; clear hw1)
    | ((with_reducible refine wpList_ldS stT rfl rfl (.tmp 5) rfl rfl HR.out.2.1 ?_))
    | (go_at_call 61; refine CPL.out.mono ?_; rintro e w2 ⟨rfl, hb2⟩; have HB2 := hi_ (HR.out.2.2.1.trans (hb2.mono HR.out.2.2.1.size)); have R2 := hi_ (HR.out.1.under hb2); clear hb2 m0 m1)
    | ((with_reducible refine wpList_ldS confT rfl rfl (.tmp 4) rfl rfl R2.out ?_))
    | (go_at_call 96; refine (CSZ.out w2 HB2.out).mono ?_; rintro e w3 ⟨rfl, hb3⟩; have HB3 := hi_ (HB2.out.trans (hb3.mono HB2.out.size)); clear hb3))
   go_ret2
   exact ⟨⟨none, 0, 0, rfl, VB.nil _ _ _⟩, HB3.out⟩
  | some z =>
   have e2 : s.get (szX ks) (i, g) kk = match pAt (s.ents.getD j noEn).2 kk with | none => ([], 8) | some q => (((s.ents.getD j noEn).2.getD q (0, [])).2, 0) := by
    unfold Es.get
    rw [hp]
    simp only
    rw [hzz]
    cases pAt (s.ents.getD j noEn).2 kk <;> rfl
   rw [q2 z hzz] at CSZ
   obtain ⟨e, he⟩ : ∃ e, s.ents[j]? = some e := ⟨_, List.getElem?_eq_getElem hj⟩
   have hg : s.ents.getD j noEn = e := by rw [List.getD_eq_getElem?_getD, he]; rfl
   rw [hg] at e2
   obtain ⟨b, o, PA, pn, pc, hEA, _, hblt, _, _, h2, hP⟩ := HE.out.cell he
   subst hEA
   have hyl := HL.out.2 e (List.mem_of_getElem? he)
   have hjn : j < en' := by rw [HL.out.1]; exact hj
   have CPA : Hid (∀ W, Below w.heap.size w W -> Calls Tryz.prog 98 #[.slice PA pn pc, .int .i64 kk] W fun e' w' => e' = .returned (.int .i64 (placeN (pAt e.2 kk))) /\ W = w') := hi_ fun W hW => RPart_any W PA pn pc e.2 kk (hP.below hW) (by rw [<- hP.len]; exact hyl)
   have FK : Hid (∀ W, Below w.heap.size w W -> W.cell? ⟨b, o + j * 3 + 2, none⟩ = some (.slice PA pn pc)) := hi_ fun W hW => (hW.cell (p := ⟨b, o + j * 3 + 2, none⟩) hblt).trans h2
   have HP := hi_ hP
   have HZ := hi_ hz
   cases hq : pAt e.2 kk with
   | none =>
    rw [hq] at CPA e2
    simp only [placeN] at CPA
    simp only at e2
    rw [e2]
    clear hp e2 q1 q2 hzz hje hg he hq h2 hP hyl hblt hz
    go_enter Tryz.func43, Tryz.ntmps43
    go_wp2_with (first
     | (rw [<- hw1]; clear hw1)
     | ((with_reducible refine wpList_ldS stT rfl rfl (.tmp 5) rfl rfl HR.out.2.1 ?_))
     | (go_at_call 61; refine CPL.out.mono ?_; rintro e w2 ⟨rfl, hb2⟩; have HB2 := hi_ (HR.out.2.2.1.trans (hb2.mono HR.out.2.2.1.size)); have R2 := hi_ (And.intro (HR.out.1.under hb2) (HR.out.2.1.under hb2)); clear hb2 m0 m1)
     | ((with_reducible refine wpList_ldS confT rfl rfl (.tmp 4) rfl rfl R2.out.1 ?_))
     | (go_at_call 96; refine (CSZ.out w2 HB2.out).mono ?_; rintro e w3 ⟨rfl, hb3⟩; have HB3 := hi_ (HB2.out.trans (hb3.mono HB2.out.size)); have k2 := (R2.out.2.under hb3).at_ 2; have k5 := FK.out w3 HB3.out; clear hb3)
     | (go_at_call 98; refine (CPA.out w3 HB3.out).mono ?_; rintro e w' ⟨rfl, rfl⟩))
    go_ret2
    exact ⟨⟨none, 0, 0, rfl, VB.nil _ _ _⟩, HB3.out⟩
   | some q =>
    rw [hq] at CPA e2
    simp only [placeN] at CPA
    simp only at e2
    obtain ⟨hql, _⟩ := pAt_some hq
    have dq : decide ((q : Int) < 0) = false := decide_eq_false (by omega)
    obtain ⟨pb, po, u, hPA, _, hplt, _, u1, hV⟩ := HP.out.cell (j := q) (x := e.2[q]) (List.getElem?_eq_getElem hql)
    subst hPA
    obtain ⟨DA, dn, dc, rfl, hrd, hvk⟩ := hV
    have hqn : q < pn := by rw [<- HP.out.len]; exact hql
    have hgq : (e.2.getD q (0, [])).2 = e.2[q].2 := by rw [List.getD_eq_getElem?_getD, List.getElem?_eq_getElem hql]; rfl
    rw [e2, hgq]
    have FU : Hid (∀ W, Below w.heap.size w W -> W.cell? ⟨pb, po + q * 2 + 1, none⟩ = some (.slice DA dn dc)) := hi_ fun W hW => (hW.cell (p := ⟨pb, po + q * 2 + 1, none⟩) hplt).trans u1
    have HV : Hid (VB K w (.slice DA dn dc) e.2[q].2) := hi_ ⟨DA, dn, dc, rfl, hrd, hvk⟩
    obtain ⟨dat, hdat⟩ : ∃ x, x = e.2[q].2 := ⟨_, rfl⟩
    rw [<- hdat] at HV ⊢
    clear hp e2 q1 q2 hzz hje hg he hq h2 hP hyl hblt hz hrd hvk u1 hplt hgq hdat
    go_enter Tryz.func43, Tryz.ntmps43
    go_wp2_with (first
     | (rw [<- hw1]; clear hw1)
     | ((with_reducible refine wpList_ldS stT rfl rfl (.tmp 5) rfl rfl HR.out.2.1 ?_))
     | (go_at_call 61; refine CPL.out.mono ?_; rintro e w2 ⟨rfl, hb2⟩; have HB2 := hi_ (HR.out.2.2.1.trans (hb2.mono HR.out.2.2.1.size)); have R2 := hi_ (And.intro (HR.out.1.under hb2) (HR.out.2.1.under hb2)); clear hb2 m0 m1)
     | ((with_reducible refine wpList_ldS confT rfl rfl (.tmp 4) rfl rfl R2.out.1 ?_))
     | (go_at_call 96; refine (CSZ.out w2 HB2.out).mono ?_; rintro e w3 ⟨rfl, hb3⟩; have HB3 := hi_ (HB2.out.trans (hb3.mono HB2.out.size)); have k2 := (R2.out.2.under hb3).at_ 2; have k5 := FK.out w3 HB3.out; have k6 := FU.out w3 HB3.out; clear hb3)
     | (go_at_call 98; refine (CPA.out w3 HB3.out).mono ?_; rintro e w' ⟨rfl, rfl⟩))
    go_ret2
    exact ⟨⟨DA, dn, dc, rfl, HV.out.below HB3.out⟩, HB3.out⟩
end
end Go.Proofs.YthiknmhkdeicjaaGreatDoor
namespace Go.Proofs.YthiknmhkdeicjaaGreatDoor
open Go.RowKit
set_option maxRecDepth 20000
theorem wpList_stEn {ops : Array Oper} {rest : List Oper} {o : Oper} {a : Act} {w : World} {Q : Exit -> Act -> World -> Prop} {b off : Nat} (i g : Int) (PA : Option Addr) (pn pc : Nat) (hgd : Region.wanted o (yielded ops a.tmps) = true) (x y : Operand) (ho : o.op = .store 101 x y)
  (hx : a.eval x = .pointer (some ⟨b, off, none⟩)) (hy : a.eval y = .agg #[.int .i64 i, .int .i64 g, .slice PA pn pc]) (hT : w.there b off 3)
  (kk : ∀ w', w' = w.setCells b off [.int .i64 i, .int .i64 g, .slice PA pn pc] -> wpList Tryz.prog ops Q rest (a.put o.dst undef) w') : wpList Tryz.prog ops Q (o :: rest) a w :=
 wpList_w hgd fun _ hK => by
  have h3 : (Instr.storeAt 101 (.pointer (some ⟨b, off, none⟩)) (.agg #[.int .i64 i, .int .i64 g, .slice PA pn pc])).run Tryz.prog w = .ok () (w.setCells b off [.int .i64 i, .int .i64 g, .slice PA pn pc]) :=
   run_storeAt_mid (P := Tryz.prog) w b off 101 #[.int .i64 i, .int .i64 g, .slice PA pn pc] hT (by rw [entT3.info]; rfl) (by simp [Value.oneCell'])
  unfold Oper.wp execOp
  simp only [ho, hx, hy, h3, Sem.run_bind, Sem.run_pure, Result.andThen_ok]
  exact hK _ _ (kk _ rfl)
theorem with_start (w : World) (d : Rst) (i g : Int) (PA : Option Addr) (pn pc : Nat) : ∃ w1, w1 = ((w.alloc (.cells d.cs 37)).alloc (.cells #[.int .i64 i, .int .i64 g, .slice PA pn pc] 101)).alloc (.cells stZ 37) /\ Below w.heap.size w w1 /\ Rec 37 w1 w.heap.size d.cs /\ Rec 101 w1 (w.heap.size + 1) #[.int .i64 i, .int .i64 g, .slice PA pn pc] /\ Rec 37 w1 (w.heap.size + 2) stZ /\ w1.heap.size = w.heap.size + 3 := by
 obtain ⟨wa, hwa⟩ : ∃ wa, wa = w.alloc (.cells d.cs 37) := ⟨_, rfl⟩
 obtain ⟨wb, hwb⟩ : ∃ wb, wb = wa.alloc (.cells #[.int .i64 i, .int .i64 g, .slice PA pn pc] 101) := ⟨_, rfl⟩
 have sa : wa.heap.size = w.heap.size + 1 := by rw [hwa]; simp
 have sb : wb.heap.size = w.heap.size + 2 := by rw [hwb]; simp [sa]
 have ba : Below w.heap.size w wa := by rw [hwa]; exact (Below.refl _ _).alloc (Nat.le_refl _) _
 have bb : Below wa.heap.size wa wb := by rw [hwb]; exact (Below.refl _ _).alloc (Nat.le_refl _) _
 have bc : Below wb.heap.size wb (wb.alloc (.cells stZ 37)) := (Below.refl _ _).alloc (Nat.le_refl _) _
 have ra : Rec 37 wa w.heap.size d.cs := by rw [hwa]; exact Rec.new w _ _
 have rb : Rec 101 wb (w.heap.size + 1) #[.int .i64 i, .int .i64 g, .slice PA pn pc] := by rw [hwb, <- sa]; exact Rec.new wa _ _
 refine ⟨wb.alloc (.cells stZ 37), by rw [hwb, hwa], ?_, ?_, ?_, ?_, ?_⟩
 ·exact (ba.trans (bb.mono ba.size)).trans (bc.mono (Nat.le_trans ba.size bb.size))
 ·exact (ra.under bb).under bc
 ·exact rb.under bc
 ·have := Rec.new wb 37 stZ
  rwa [sb] at this
 ·simp [sb]
section
variable {K : Nat -> Prop} {w : World} {d : Rst} {s : Es}
set_option maxHeartbeats 400000 in
theorem RWith_any (h : RSt K w d s) (hn : d.en <= 1000000) {j : Nat} (hj : j < s.ents.length) (i g : Int) {PA : Option Addr} {pn : Nat} (pc : Nat) {ps : List Pt} (hP : PartsV K w PA pn ps) (hpc : pn <= pc) (hpm : pc <= maxLen) :
  Calls Tryz.prog 97 #[.agg d.cs, .int .i64 (j : Int), .agg #[.int .i64 i, .int .i64 g, .slice PA pn pc]] w fun e w' => ∃ d' : Rst, e = .returned (.agg d'.cs) /\ RSt (fun y => K y \/ w.heap.size <= y) w' d' ⟨s.ns, s.ents.set j ((i, g), ps)⟩ /\ Below w.heap.size w w' := by
 obtain ⟨w1, hw1, hb1, r0, r1, r2, hs1⟩ := with_start w d i g PA pn pc
 have hjn : j < d.en := by rw [h.en]; exact hj
 have h' := hi_ h
 obtain ⟨evs, hel, hvr, hhd⟩ := h.e
 obtain ⟨GA, gn', gc, FA, fn, fc, EA, en', ec⟩ := d
 simp only at hjn hn hvr
 have k2 := r0.at_ 2
 obtain ⟨wE, hwE⟩ : ∃ wE, wE = w1.alloc (.cells #[] 101) := ⟨_, rfl⟩
 have hbE : Below w1.heap.size w1 wE := by rw [hwE]; exact (Below.refl _ _).alloc (Nat.le_refl _) _
 have HOE : Hid (wE.ownsRow w1.heap.size 101 3 (.slice (some ⟨w1.heap.size, 0, none⟩) 0 0) 0 []) := hi_ (by rw [hwE]; exact World.ownsRow_lit w1 #[] 0 (Nat.le_refl _) (Nat.zero_le _) rfl)
 have kE : wE.cell? ⟨w.heap.size, 2, none⟩ = some (.slice EA en' ec) := (r0.under hbE).at_ 2
 have HV : Hid (VRow K wE EA en' 3 evs) := hi_ ((hvr.below hb1).below hbE)
 have HONE := hi_ (hhd.one (fun _ _ hx => EE.one hx.1))
 have HH := hi_ (And.intro hhd (And.intro hP (And.intro hj (And.intro hpc hpm))))
 have HR := hi_ (And.intro (r0.under hbE) (And.intro (r1.under hbE) (And.intro (r2.under hbE) (And.intro (hb1.trans (hbE.mono hb1.size)) (And.intro hs1 hbE.size)))))
 have HEL := hi_ hel
 clear h hel hvr hhd r0 r1 r2 hb1 hs1 hbE hP hj hpc hpm
 have e0 : (0 : Int) <= (j : Int) := by omega
 have e1 : (j : Int) < (en' : Int) := by omega
 go_enter Tryz.func97, Tryz.ntmps97
 go_upto_region 2 with (first
  | (rw [<- hw1]; clear hw1)
  | (rw [<- hwE]; clear hwE)
  | (at_builtin; refine wpList_appW entsT rfl (.tmp 8) (.tmp 10) rfl w1.heap.size (.slice (some ⟨w1.heap.size, 0, none⟩) 0 0) 0 [] rfl HOE.out EA en' ec evs rfl HV.out HONE.out (by omega) (by decide) (by have := HR.out.2.2.2.2.2; omega) ?_; intro vR w3 ho3 hg3; rw [List.nil_append, Nat.zero_add] at ho3; have hF3 := Fr.grown hg3 (own := fun y => w1.heap.size <= y) (fun x hx => (own_geB HOE.out hx).1); obtain ⟨AR, gcap, rfl, hng, hgm, _⟩ := own_vrow ho3; have H3 := hi_ (And.intro ho3 (And.intro hF3 (And.intro hng hgm))); clear ho3 hg3 hF3 hng hgm kE k2))
 obtain ⟨ho3, hF3, hng, hgm⟩ := H3.out
 have hop := ho3
 rcases hop.2 with ⟨_, h0⟩ | ⟨gb, cap, cur, hv, hgB, hh, hnc, hcm, hs, _⟩
 ·omega
 injection hv with e1' e2' e3'
 subst e1' e3'
 obtain ⟨R0, R1, R2, hbw, hs1, hsE⟩ := HR.out
 have q0 := R0.fr hF3 (fun e => by have e' : w1.heap.size <= w.heap.size := e; omega)
 have q1 := R1.fr hF3 (fun e => by have e' : w1.heap.size <= w.heap.size + 1 := e; omega)
 have q2 := R2.fr hF3 (fun e => by have e' : w1.heap.size <= w.heap.size + 2 := e; omega)
 have hT := own_there ho3 (o := j * 3) (m := 3) (by omega)
 obtain ⟨w4, hw4⟩ : ∃ w4, w4 = w3.setCells gb (j * 3) [.int .i64 i, .int .i64 g, .slice PA pn pc] := ⟨_, rfl⟩
 have hev : evs.length = en' * 3 := ho3.1
 have ho4 : w4.ownsRow w1.heap.size 101 3 (.slice (some ⟨gb, 0, none⟩) en' gcap) en' (splice evs (j * 3) [.int .i64 i, .int .i64 g, .slice PA pn pc]) := by
  rw [hw4, <- set3_splice _ _ _ (by omega)]
  exact own_setC (own_setC (own_setC ho3 (j * 3) _) (j * 3 + 1) _) (j * 3 + 2) _
 have hF4 : Fr (· = gb) w3 w4 := by rw [hw4]; exact Fr.setCells (· = gb) gb rfl _ _ _
 have p0 := q0.fr hF4 (fun e => by have e' : w.heap.size = gb := e; omega)
 have p2 := q2.fr hF4 (fun e => by have e' : w.heap.size + 2 = gb := e; omega)
 have k4 := p0.at_ 2
 have f4 := p0.fz 2
 obtain ⟨w5, hw5⟩ : ∃ w5, w5 = w4.setCell ⟨w.heap.size, 2, none⟩ (.slice (some ⟨gb, 0, none⟩) en' gcap) := ⟨_, rfl⟩
 have hF5 : Fr (· = w.heap.size) w4 w5 := by rw [hw5]; exact Fr.setCell (own := (· = w.heap.size)) w4 (p := ⟨w.heap.size, 2, none⟩) rfl _
 have R5 : Rec 37 w5 w.heap.size (stC GA gn' gc FA fn fc (some ⟨gb, 0, none⟩) en' gcap) := by rw [hw5]; exact p0.set 2 _
 have R25 := p2.fr hF5 (fun e => by have e' : w.heap.size + 2 = w.heap.size := e; omega)
 have HT := hi_ hT
 have HQ1 := hi_ q1
 have H4 := hi_ (And.intro ho4 (And.intro hF4 hF5))
 have HR5 := hi_ (And.intro R5 R25)
 have HS := hi_ (And.intro hbw (And.intro hs1 (And.intro hsE hgB)))
 clear ho3 hF3 hop hgB hh hnc hcm hs R0 R1 R2 hbw hs1 hsE q0 q1 q2 hT hev ho4 hF4 p0 p2 hF5 R5 R25 hng hgm
 go_upto_region 3 with (first
  | ((with_reducible refine wpList_ldS entT3 rfl rfl (.tmp 5) rfl rfl HQ1.out ?_))
  | ((with_reducible refine wpList_stEn i g PA pn pc rfl (.tmp 15) (.tmp 14) rfl rfl rfl HT.out ?_); intro wx hwx; rw [<- hw4] at hwx; subst hwx))
 clear hw4 HT HQ1 HV HONE HOE
 go_upto_region 4 with fail
 rw [<- hw5]
 clear hw5 k4 f4
 go_wp2_with (first
  | ((with_reducible refine wpList_ldS stT rfl rfl (.tmp 3) rfl rfl HR5.out.1 ?_))
  | ((with_reducible refine wpList_stSt GA gn' gc FA fn fc (some ⟨gb, 0, none⟩) en' gcap rfl rfl (.tmp 6) (.tmp 18) rfl rfl rfl HR5.out.2 ?_); intro w6 hR6 hF6))
 refine bodyPost_ret (res_c rfl rfl (hR6.load stT rfl)) rfl ?_
 obtain ⟨ho4, hF4, hF5⟩ := H4.out
 obtain ⟨hbw, hs1, hsE, hgB⟩ := HS.out
 obtain ⟨ho3, hF3, hng, hgm⟩ := H3.out
 obtain ⟨hhd, hP, hj, hpc, hpm⟩ := HH.out
 have hb : Below w.heap.size w w6 := by
  have b3 := hbw.trans (hF3.toBelow (fun y hy => by have hy' : w1.heap.size <= y := hy; omega) hbw.size)
  have b4 := b3.trans (hF4.toBelow (fun y hy => by have hy' : y = gb := hy; omega) b3.size)
  have b5 := b4.trans (hF5.toBelow (fun y hy => by rw [show y = w.heap.size from hy]; exact Nat.le_refl _) b4.size)
  exact b5.trans (hF6.toBelow (fun y hy => by rw [show y = w.heap.size + 2 from hy]; omega) b5.size)
 refine ⟨⟨GA, gn', gc, FA, fn, fc, some ⟨gb, 0, none⟩, en', gcap⟩, rfl, ?_, hb⟩
 have hen : s.ents.length = en' := HEL.out
 refine ⟨h'.out.gn, h'.out.fn, by show en' = (s.ents.set j _).length; rw [List.length_set]; exact hen.symm, (h'.out.g.below hb).mono (fun _ hy => .inl hy), (h'.out.f.below hb).mono (fun _ hy => .inl hy), ?_, h'.out.gc, h'.out.fc, hng, hgm⟩
 obtain ⟨_, _, e, _, _, hvr⟩ := own_vrow ho4
 injection e with e1 _ _
 subst e1
 have hv6 := hvr.stays (w' := w6) ⟨Nat.le_trans hF5.size hF6.size, fun y hy => (hF6.block y (Nat.lt_of_lt_of_le hy.2 hF5.size) (fun e => by have e' : y = w.heap.size + 2 := e; omega)).trans (hF5.block y hy.2 (fun e => by have e' : y = w.heap.size := e; omega))⟩
 have hd6 := hhd.setx (k := j) hj (y := ((i, g), ps)) (r := [.int .i64 i, .int .i64 g, .slice PA pn pc]) rfl ⟨⟨PA, pn, pc, rfl, hP⟩, _, _, PA, pn, pc, rfl, hpc, hpm⟩
 exact ⟨_, by rw [List.length_set]; exact hen, hv6.mono (fun y hy => .inr (by omega)), hd6.imp (fun y r hy => EEc.ok.mono (EEc.ok.below hy hb) (fun _ hz => .inl hz))⟩
end
end Go.Proofs.YthiknmhkdeicjaaGreatDoor
