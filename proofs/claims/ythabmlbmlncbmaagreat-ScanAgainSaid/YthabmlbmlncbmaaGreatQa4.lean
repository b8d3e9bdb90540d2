/- Seal8, SealTear, Seal9, Rec, CmK, CmL, Cm1, Cm2, Cm3, CmA, Cm4, CmSe, Gm1, CmS, CmSR, CmMu, Cm5, CmSa -/
import Derived.Test.YthabmlbmlncbmaaGreatQa1
import Derived.Test.YthabmlbmlncbmaaGreatQa2
import Derived.Test.YthabmlbmlncbmaaGreatQa3
import Derived.Deep.RegionHeld3
import Derived.Deep.WholeRow
import Derived.Deep.MidRow
import Derived.Laws.ResultCell
import Derived.BigQuiet
import Derived.Deep.QuietTactic
import Derived.Deep.LoopGhost
namespace Go.Proofs.YthabmlbmlncbmaaGreat
set_option maxRecDepth 20000
open Go.RowKit
theorem RGet_wrong (A : Option Addr) (n c : Nat) (w : World) (hn : n ≠ 512) :
    Calls Tryz.prog 51 #[.slice A n c] w fun ed w' => ed = .returned (.tuple #[.agg #[.int .i64 0, .int .i64 0, .int .i64 0, .slice none 0 0], .bool false]) /\ Below w.heap.size w w' := by
  obtain ⟨w1, hw1⟩ : ∃ w1, w1 = w.alloc (.cells #[.int .i64 0, .int .i64 0, .int .i64 0, .slice none 0 0] 70) := ⟨_, rfl⟩
  have hB1 : Below w.heap.size w w1 := by rw [hw1]; exact (Below.refl _ _).alloc (Nat.le_refl _) _
  have hS1 : SealAt w1 w.heap.size 0 0 0 none 0 0 := by rw [hw1]; exact SealAt.new w
  go_enter Tryz.func51, Tryz.ntmps51
  go_wp2_with (first
    | (rw [<- hw1]; clear hw1)
    | (refine wpList_stseal rfl (.tmp 2) (.tmp 14) rfl rfl rfl hS1 ?_; intro w2 hS2 hB2 _)
    | (refine bodyPost_ret (res_seal_tmp rfl rfl hS2) rfl ?_; exact ⟨rfl, hB1.trans hB2⟩))
section
variable (A : Option Addr) (c : Nat) (l : List UInt8) (w : World) (hr : Rd w A 512 l)
include hr
theorem rgetE : Calls Tryz.prog 50 #[.slice A 512 c, .int .i64 0, .int .i64 8] w fun e w' => e = .returned (.tuple #[.int .i64 (cE l), .bool true]) /\ w = w' := RGet8 A 512 c l 0 w hr (by decide) (by decide)
theorem rgetN : Calls Tryz.prog 50 #[.slice A 512 c, .int .i64 8, .int .i64 8] w fun e w' => e = .returned (.tuple #[.int .i64 (cN l), .bool true]) /\ w = w' := RGet8 A 512 c l 8 w hr (by decide) (by decide)
theorem rgetL : Calls Tryz.prog 50 #[.slice A 512 c, .int .i64 22, .int .i64 2] w fun e w' => e = .returned (.tuple #[.int .i64 (cL l), .bool true]) /\ w = w' := RGet2 A 512 c l 22 w hr (by decide) (by decide)
end
theorem RGet_long (A : Option Addr) (c : Nat) (l : List UInt8) (w : World) (hr : Rd w A 512 l) (hlong : 472 < cL l) :
    Calls Tryz.prog 51 #[.slice A 512 c] w fun ed w' => ed = .returned (.tuple #[.agg #[.int .i64 0, .int .i64 0, .int .i64 0, .slice none 0 0], .bool false]) /\ Below w.heap.size w w' := by
  obtain ⟨w1, hw1⟩ : ∃ w1, w1 = w.alloc (.cells #[.int .i64 0, .int .i64 0, .int .i64 0, .slice none 0 0] 70) := ⟨_, rfl⟩
  have hB1 : Below w.heap.size w w1 := by rw [hw1]; exact (Below.refl _ _).alloc (Nat.le_refl _) _
  have hS1 : SealAt w1 w.heap.size 0 0 0 none 0 0 := by rw [hw1]; exact SealAt.new w
  have hr1 := hr.below (Nat.le_refl _) hB1
  clear hr
  go_enter Tryz.func51, Tryz.ntmps51
  go_wp2_with (first
    | (rw [<- hw1]; clear hw1)
    | (go_at_call_of 50 (Value.int .i64 0); refine (rgetE A c l _ hr1).mono ?_; rintro ed w' ⟨rfl, rfl⟩)
    | (go_at_call_of 50 (Value.int .i64 22); refine (rgetL A c l _ hr1).mono ?_; rintro ed w' ⟨rfl, rfl⟩)
    | (go_at_call 50; refine (rgetN A c l _ hr1).mono ?_; rintro ed w' ⟨rfl, rfl⟩)
    | (refine wpList_stseal rfl (.tmp 2) (.tmp 32) rfl rfl rfl hS1 ?_; intro w2 hS2 hB2 _)
    | (refine bodyPost_ret (res_seal_tmp rfl rfl hS2) rfl ?_; exact ⟨rfl, hB1.trans hB2⟩))
theorem own_ne {w : World} {B g : Nat} {A : Option Addr} {n c b o : Nat} {xs : List Value} {e n' k : Int} {A' : Option Addr} {m' c' : Nat} (h : w.ownsRow B 5 1 (.slice A n c) n xs) (hS : SealAt w g e n' k A' m' c') (hA : A = some ⟨b, o, none⟩) : b ≠ g := by
  rintro rfl
  rcases h.2 with ⟨h1, _⟩ | ⟨g, cap, cur, hv, _, hh, _⟩
  · injection h1 with h1; rw [hA] at h1; cases h1
  · injection hv with h1
    rw [hA] at h1
    injection h1 with h1
    injection h1 with h1
    subst h1
    have := hh.symm.trans hS
    injection this with this
    injection this with _ h2
    exact absurd h2 (by decide)
set_option maxHeartbeats 1600000 in
theorem RGet_right (A : Option Addr) (c : Nat) (l : List UInt8) (w : World) (hr : Rd w A 512 l) (hc : 512 <= c) (hs : cL l <= 472) :
    Calls Tryz.prog 51 #[.slice A 512 c] w fun ed w' => ∃ A' m' c', ed = .returned (.tuple #[.agg #[.int .i64 (gE l), .int .i64 (gN l), .int .i64 (gK l), .slice A' m' c'], .bool (decide (okL l))]) /\ Rd w' A' m' (gB l) /\ (m' <= 472 /\ m' <= c' /\ ∀ b o, A' = some ⟨b, o, none⟩ -> 0 < m' -> w.heap.size <= b) /\ Below w.heap.size w w' := by
  obtain ⟨w1, hw1⟩ : ∃ w1, w1 = w.alloc (.cells #[.int .i64 0, .int .i64 0, .int .i64 0, .slice none 0 0] 70) := ⟨_, rfl⟩
  have hB1 : Below w.heap.size w w1 := by rw [hw1]; exact (Below.refl _ _).alloc (Nat.le_refl _) _
  have hS1 : SealAt w1 w.heap.size 0 0 0 none 0 0 := by rw [hw1]; exact SealAt.new w
  have hr1 := hr.below (Nat.le_refl _) hB1
  have hl := hr.1
  clear hr
  go_enter Tryz.func51, Tryz.ntmps51
  go_wp2_with (first
    | (rw [<- hw1]; clear hw1)
    | (go_at_call_of 50 (Value.int .i64 0); refine (rgetE A c l _ hr1).mono ?_; rintro ed w' ⟨rfl, rfl⟩)
    | (go_at_call_of 50 (Value.int .i64 22); refine (rgetL A c l _ hr1).mono ?_; rintro ed w' ⟨rfl, rfl⟩)
    | (go_at_call 50; refine (rgetN A c l _ hr1).mono ?_; rintro ed w' ⟨rfl, rfl⟩))
  obtain ⟨b, o, rfl, hb1, _⟩ := hr1.2 (by decide)
  obtain ⟨L, hL⟩ : ∃ L : Nat, cL l = L := ⟨(cL l).toNat, by have := cL_bd l; omega⟩
  have hbody : cB l = (l.drop 24).take L := by rw [cB_take l hl hs, hL]; rfl
  rw [hL] at hs ⊢
  have hL0 : (0 : Int) <= (L : Int) := Int.natCast_nonneg _
  have hL1 : IntKind.i64.wrap (24 + (L : Int)) = 24 + (L : Int) := by rw [wrapEq, IntWalk.wrap64_in _ ⟨by omega, by omega⟩]
  have hL2 : (24 : Int) <= 24 + (L : Int) := by omega
  have hL3 : 24 + (L : Int) <= (c : Int) := by omega
  have hL4 : (0 : Int) <= 24 + (L : Int) := by omega
  have hL5 : (24 + (L : Int)).toNat = 24 + L := by omega
  have hc24 : ¬ c = 24 := by omega
  have hz20 := cK_at l (by omega)
  obtain ⟨z, hz⟩ : ∃ z, z = (l[20]'(by omega)).toNat := ⟨_, rfl⟩
  have kz : w1.cell? ⟨b, o + 20, none⟩ = some (.int .u8 (z : Int)) := by
    obtain ⟨b', o', e, _, hc'⟩ := hr1.at_ (k := 20) (by decide)
    injection e with e
    injection e with e1 e2
    subst e1; subst e2
    rw [hz]; exact hc'
  have hz256 : z < 256 := by rw [hz]; exact (l[20]'(by omega)).toNat_lt
  have hzw : IntKind.i64.wrap (z : Int) = z := by rw [wrapEq]; exact IntWalk.wrap64_in _ ⟨by omega, by omega⟩
  have ne0 : ¬ w1.heap.size = b := by omega
  have ne1 : ¬ w1.heap.size + 1 = b := by omega
  rw [<- hz] at hz20
  have HZ := hi_ hz20
  have HL := hi_ hL
  have HBODY := hi_ hbody
  clear hz hz20 hL hbody
  have kzA : ∀ o1, (w1.alloc o1).cell? ⟨b, o + 20, none⟩ = some (.int .u8 (z : Int)) := fun o1 => by rw [World.cell?_alloc_lt _ _ _ hb1]; exact kz
  have kzB : ∀ o1 o2, ((w1.alloc o1).alloc o2).cell? ⟨b, o + 20, none⟩ = some (.int .u8 (z : Int)) := fun o1 o2 => by rw [World.cell?_alloc_lt _ _ _ (by rw [World.size_alloc]; exact Nat.lt_succ_of_lt hb1)]; exact kzA o1
  have hq : Rd w1 (some ⟨b, o + 24, none⟩) L ((l.drop 24).take L) := hr1.part (by omega) _ (fun _ b' o' e => by injection e with e; injection e with e1 e2; subst e1; subst e2; rfl)
  have hoA : (w1.alloc (.cells #[] 5)).ownsRow w1.heap.size 5 1 (.slice (some ⟨w1.heap.size, 0, none⟩) 0 0) 0 [] := own_empty w1 _ _ (Nat.le_refl _)
  have hoA2 := hoA.alloc (.cells #[.int .i64 0, .int .i64 0, .int .i64 0, .slice none 0 0] 70)
  have hoB : ((w1.alloc (.cells #[.int .i64 0, .int .i64 0, .int .i64 0, .slice none 0 0] 70)).alloc (.cells #[] 5)).ownsRow w1.heap.size 5 1 (.slice (some ⟨w1.heap.size + 1, 0, none⟩) 0 0) 0 [] := by
    have := own_empty (w1.alloc (.cells #[.int .i64 0, .int .i64 0, .int .i64 0, .slice none 0 0] 70)) w1.heap.size 5 (by simp)
    rw [World.size_alloc] at this
    exact this
  have gA2 : SealAt ((w1.alloc (.cells #[] 5)).alloc (.cells #[.int .i64 0, .int .i64 0, .int .i64 0, .slice none 0 0] 70)) (w1.heap.size + 1) 0 0 0 none 0 0 := by
    have := SealAt.new (e := 0) (n := 0) (k := 0) (A := none) (m := 0) (c := 0) (w1.alloc (.cells #[] 5))
    rw [World.size_alloc] at this
    exact this
  have sgB : SealAt ((w1.alloc (.cells #[.int .i64 0, .int .i64 0, .int .i64 0, .slice none 0 0] 70)).alloc (.cells #[] 5)) w1.heap.size 0 0 0 none 0 0 := (SealAt.new w1).alloc _
  have s1 := hS1.lt
  have hsame : sectorOf (cE l) (cN l) (z : Int) ((l.drop 24).take L) = sectorOf (cE l) (cN l) (cK l) (cB l) := by rw [HBODY.out, HZ.out]
  have c5m : ∀ c5 : Nat, c5 <= maxLen -> (c5 : Int) <= 9223372036854775807 := fun c5 h => by unfold maxLen at h; omega
  have hdec : decide (sectorOf (cE l) (cN l) (z : Int) ((l.drop 24).take L) = l) = decide (okL l) := by
    rw [hsame]
    by_cases h : okL l
    · rw [decide_eq_true h, decide_eq_true (Eq.symm h)]
    · rw [decide_eq_false h, decide_eq_false (fun e => h (Eq.symm e))]
  by_cases hok : okL l
  · rw [decide_eq_true hok] at hdec
    have csame : ∀ W A7 c7, Rd W A7 512 (sectorOf (cE l) (cN l) (z : Int) ((l.drop 24).take L)) -> Rd W (some ⟨b, o, none⟩) 512 l -> Calls Tryz.prog 24 #[.slice A7 512 c7, .slice (some ⟨b, o, none⟩) 512 c] W fun e w' => e = .returned (.bool true) /\ W = w' := fun W A7 c7 h1 h2 => by
      have := Same_any A7 (some ⟨b, o, none⟩) 512 c7 512 c _ _ W h1 h2
      rw [hdec] at this
      exact this
    have CSAME := hi_ csame
    have e0 : gE l = cE l /\ gN l = cN l /\ gK l = (z : Int) /\ gB l = (l.drop 24).take L /\ decide (okL l) = true := by simp only [gE, gN, gK, gB, if_pos hok, HZ.out, HBODY.out, decide_eq_true hok, and_self]
    have E0 := hi_ e0
    clear csame e0 hok hdec hsame
    go_region_held3 (fun w' => w'.cell? ⟨b, o + 20, none⟩ = some (.int .u8 (z : Int))) (first | with_reducible exact kz | with_reducible exact kzA _ | with_reducible exact kzB _ _ | with_reducible exact kz5 | with_reducible exact kz5' _ | (rw [World.cell?_drew]; first | with_reducible exact kz | with_reducible exact kzA _ | with_reducible exact kzB _ _) | go_keep) (first
      | (refine step_app _ bytesT rfl (.tmp 39) (.tmp 43) rfl w1.heap.size _ 0 [] rfl hoA.drew _ L (c - 24) _ rfl (hq.alloc _).drew (by omega) (by simp) ?_; intro v5 w5 ho5 hb5 hg5; rw [List.nil_append, Nat.zero_add] at ho5; obtain ⟨A5, c5, rfl, hc5, hc5m0, hr5⟩ := Rd.of_own ho5 rfl; have kz5 := (hb5.cell (p := ⟨b, o + 20, none⟩) hb1).trans (kzA _); have ne5 : ¬ w5.heap.size = b := World.new_ne w5 _ kz5; have kz5' : ∀ o1, (w5.alloc o1).cell? ⟨b, o + 20, none⟩ = some (.int .u8 (z : Int)) := fun o1 => by rw [World.cell?_alloc_lt _ _ _ (World.block_lt_of_cell? w5 _ kz5)]; exact kz5)
      | (refine step_app _ bytesT rfl (.tmp 39) (.tmp 43) rfl w1.heap.size _ 0 [] rfl hoA2.drew _ L (c - 24) _ rfl ((hq.alloc _).alloc _).drew (by omega) (by simp <;> omega) ?_; intro v5 w5 ho5 hb5 hg5; rw [List.nil_append, Nat.zero_add] at ho5; obtain ⟨A5, c5, rfl, hc5, hc5m0, hr5⟩ := Rd.of_own ho5 rfl; have kz5 := (hb5.cell (p := ⟨b, o + 20, none⟩) hb1).trans (kzB _ _); replace hg5 : World.grownBy _ w5 (some w1.heap.size) := hg5; have hS5 : SealAt w5 (w1.heap.size + 1) 0 0 0 none 0 0 := (hg5.block (w1.heap.size + 1) gA2.lt (by simp)).trans gA2; have k0 := hS5.h0; have k1 := hS5.h1; have k2 := hS5.h2; have k3 := hS5.h3; have f0 := hS5.fz 0; have f1 := hS5.fz 1; have f2 := hS5.fz 2; have f3 := hS5.fz 3)
      | (refine step_app _ bytesT rfl (.tmp 39) (.tmp 43) rfl w1.heap.size _ 0 [] rfl hoB.drew _ L (c - 24) _ rfl ((hq.alloc _).alloc _).drew (by omega) (by simp <;> omega) ?_; intro v5 w5 ho5 hb5 hg5; rw [List.nil_append, Nat.zero_add] at ho5; obtain ⟨A5, c5, rfl, hc5, hc5m0, hr5⟩ := Rd.of_own ho5 rfl; have kz5 := (hb5.cell (p := ⟨b, o + 20, none⟩) hb1).trans (kzB _ _); replace hg5 : World.grownBy _ w5 (some (w1.heap.size + 1)) := hg5; have hS5 : SealAt w5 w1.heap.size 0 0 0 none 0 0 := (hg5.block w1.heap.size sgB.lt (by simp)).trans sgB; have k0 := hS5.h0; have k1 := hS5.h1; have k2 := hS5.h2; have k3 := hS5.h3; have f0 := hS5.fz 0; have f1 := hS5.fz 1; have f2 := hS5.fz 2; have f3 := hS5.fz 3))
    · obtain ⟨w6, hw6⟩ : ∃ w6, w6 = w5.alloc (.cells #[.int .i64 (cE l), .int .i64 (cN l), .int .i64 (z : Int), .slice A5 L c5] 70) := ⟨_, rfl⟩
      have hS6 : SealAt w6 w5.heap.size (cE l) (cN l) (z : Int) A5 L c5 := by rw [hw6]; exact SealAt.new w5
      have hr6 : Rd w6 A5 L ((l.drop 24).take L) := by rw [hw6]; exact hr5.alloc _
      have hB6 : Below w1.heap.size w1 w6 := by rw [hw6]; exact (((((Below.refl _ _).alloc (Nat.le_refl _) _).drew).trans hb5).alloc (by have := hb5.size; simp at this; omega) _)
      rw [<- hw6]
      clear hw6 kz5 kz5' ne5 hg5 hb5
      have hc5m := c5m c5 hc5m0
      clear kz kzA kzB hoA hoA2 hoB gA2 sgB hq c5m
      have hz6 := hS1.below hB6 s1
      have hl6 := hr1.below (Nat.le_refl _) hB6
      go_wp2_with (first
        | (refine wpList_ldseal rfl (.tmp 10) rfl rfl hS6 ?_)
        | (go_at_call 33; refine (RPut_any _ _ _ _ _ _ _ w6 hr6 hc5 hc5m).mono ?_; rintro ed w7 ⟨v7, rfl, ho7, hB7⟩; obtain ⟨A7, c7, rfl, _, _, hr7⟩ := Rd.of_own ho7 rfl; have hl7 := hl6.below (Nat.le_refl _) hB7; have hS7 := hS6.below hB7 hS6.lt; have hz7 := hz6.below hB7 hz6.lt; have hb7 := hr6.below (Nat.le_refl _) hB7)
        | (go_at_call 24; refine (CSAME.out _ _ _ hr7 hl7).mono ?_; rintro ed w' ⟨rfl, rfl⟩)
        | (refine wpList_ldseal rfl (.tmp 10) rfl rfl hS7 ?_)
        | (refine wpList_stseal rfl (.tmp 2) (.tmp 52) rfl rfl rfl hz7 ?_; intro w8 hS8 hB8 hE8)
        | (refine bodyPost_ret (res_seal_tmp rfl rfl hS8) rfl ?_; refine ⟨A5, L, c5, ?_, ?_, ⟨by omega, by omega, fun b' o' e _ => by have := own_block ho5 e; omega⟩, ((hB1.trans (hB6.mono (Nat.le_of_lt s1))).trans (hB7.mono (Nat.le_trans (Nat.le_of_lt s1) hB6.size))).trans hB8⟩; · rw [E0.out.1, E0.out.2.1, E0.out.2.2.1, E0.out.2.2.2.2]; rfl
           · rw [E0.out.2.2.2.1]; exact hb7.block hB8.size fun b' o' e => hE8 b' (by have := own_block ho5 e; omega)))
    · obtain ⟨hS6, hB6⟩ := hS5.set4 (e' := cE l) (n' := cN l) (k' := (z : Int)) (A' := A5) (m' := L) (c' := c5)
      have hne5 : ∀ b' o', A5 = some ⟨b', o', none⟩ -> b' ≠ (w1.heap.size + 1) := fun b' o' e => own_ne ho5 hS5 e
      have hE6 : ∀ k, k ≠ (w1.heap.size + 1) -> ((((w5.setCell ⟨(w1.heap.size + 1), 0, none⟩ (.int .i64 (cE l))).setCell ⟨(w1.heap.size + 1), 1, none⟩ (.int .i64 (cN l))).setCell ⟨(w1.heap.size + 1), 2, none⟩ (.int .i64 (z : Int))).setCell ⟨(w1.heap.size + 1), 3, none⟩ (.slice A5 L c5)).heap[k]? = w5.heap[k]? := fun k hk => set4_else hk
      obtain ⟨w6, hw6⟩ : ∃ w6, w6 = (((w5.setCell ⟨(w1.heap.size + 1), 0, none⟩ (.int .i64 (cE l))).setCell ⟨(w1.heap.size + 1), 1, none⟩ (.int .i64 (cN l))).setCell ⟨(w1.heap.size + 1), 2, none⟩ (.int .i64 (z : Int))).setCell ⟨(w1.heap.size + 1), 3, none⟩ (.slice A5 L c5) := ⟨_, rfl⟩
      rw [<- hw6] at hS6 hB6 hE6 ⊢
      have hr6 : Rd w6 A5 L ((l.drop 24).take L) := hr5.block hB6.size fun b' o' e => hE6 b' (hne5 b' o' e)
      replace hB6 : Below w1.heap.size w1 w6 := (((((Below.refl _ _).alloc (Nat.le_refl _) _).alloc (by simp) _).drew).trans hb5).trans (hB6.mono (by omega))
      clear hw6 kz5 k0 k1 k2 k3 f0 f1 f2 f3 hS5 hg5 hb5 hE6 hne5
      have hc5m := c5m c5 hc5m0
      clear kz kzA kzB hoA hoA2 hoB gA2 sgB hq c5m
      have hz6 := hS1.below hB6 s1
      have hl6 := hr1.below (Nat.le_refl _) hB6
      go_wp2_with (first
        | (refine wpList_ldseal rfl (.tmp 10) rfl rfl hS6 ?_)
        | (go_at_call 33; refine (RPut_any _ _ _ _ _ _ _ w6 hr6 hc5 hc5m).mono ?_; rintro ed w7 ⟨v7, rfl, ho7, hB7⟩; obtain ⟨A7, c7, rfl, _, _, hr7⟩ := Rd.of_own ho7 rfl; have hl7 := hl6.below (Nat.le_refl _) hB7; have hS7 := hS6.below hB7 hS6.lt; have hz7 := hz6.below hB7 hz6.lt; have hb7 := hr6.below (Nat.le_refl _) hB7)
        | (go_at_call 24; refine (CSAME.out _ _ _ hr7 hl7).mono ?_; rintro ed w' ⟨rfl, rfl⟩)
        | (refine wpList_ldseal rfl (.tmp 10) rfl rfl hS7 ?_)
        | (refine wpList_stseal rfl (.tmp 2) (.tmp 52) rfl rfl rfl hz7 ?_; intro w8 hS8 hB8 hE8)
        | (refine bodyPost_ret (res_seal_tmp rfl rfl hS8) rfl ?_; refine ⟨A5, L, c5, ?_, ?_, ⟨by omega, by omega, fun b' o' e _ => by have := own_block ho5 e; omega⟩, ((hB1.trans (hB6.mono (Nat.le_of_lt s1))).trans (hB7.mono (Nat.le_trans (Nat.le_of_lt s1) hB6.size))).trans hB8⟩; · rw [E0.out.1, E0.out.2.1, E0.out.2.2.1, E0.out.2.2.2.2]; rfl
           · rw [E0.out.2.2.2.1]; exact hb7.block hB8.size fun b' o' e => hE8 b' (by have := own_block ho5 e; omega)))
    · obtain ⟨hS6, hB6⟩ := hS5.set4 (e' := cE l) (n' := cN l) (k' := (z : Int)) (A' := A5) (m' := L) (c' := c5)
      have hne5 : ∀ b' o', A5 = some ⟨b', o', none⟩ -> b' ≠ w1.heap.size := fun b' o' e => own_ne ho5 hS5 e
      have hE6 : ∀ k, k ≠ w1.heap.size -> ((((w5.setCell ⟨w1.heap.size, 0, none⟩ (.int .i64 (cE l))).setCell ⟨w1.heap.size, 1, none⟩ (.int .i64 (cN l))).setCell ⟨w1.heap.size, 2, none⟩ (.int .i64 (z : Int))).setCell ⟨w1.heap.size, 3, none⟩ (.slice A5 L c5)).heap[k]? = w5.heap[k]? := fun k hk => set4_else hk
      obtain ⟨w6, hw6⟩ : ∃ w6, w6 = (((w5.setCell ⟨w1.heap.size, 0, none⟩ (.int .i64 (cE l))).setCell ⟨w1.heap.size, 1, none⟩ (.int .i64 (cN l))).setCell ⟨w1.heap.size, 2, none⟩ (.int .i64 (z : Int))).setCell ⟨w1.heap.size, 3, none⟩ (.slice A5 L c5) := ⟨_, rfl⟩
      rw [<- hw6] at hS6 hB6 hE6 ⊢
      have hr6 : Rd w6 A5 L ((l.drop 24).take L) := hr5.block hB6.size fun b' o' e => hE6 b' (hne5 b' o' e)
      replace hB6 : Below w1.heap.size w1 w6 := (((((Below.refl _ _).alloc (Nat.le_refl _) _).alloc (by simp) _).drew).trans hb5).trans (hB6.mono (by omega))
      clear hw6 kz5 k0 k1 k2 k3 f0 f1 f2 f3 hS5 hg5 hb5 hE6 hne5
      have hc5m := c5m c5 hc5m0
      clear kz kzA kzB hoA hoA2 hoB gA2 sgB hq c5m
      have hz6 := hS1.below hB6 s1
      have hl6 := hr1.below (Nat.le_refl _) hB6
      go_wp2_with (first
        | (refine wpList_ldseal rfl (.tmp 10) rfl rfl hS6 ?_)
        | (go_at_call 33; refine (RPut_any _ _ _ _ _ _ _ w6 hr6 hc5 hc5m).mono ?_; rintro ed w7 ⟨v7, rfl, ho7, hB7⟩; obtain ⟨A7, c7, rfl, _, _, hr7⟩ := Rd.of_own ho7 rfl; have hl7 := hl6.below (Nat.le_refl _) hB7; have hS7 := hS6.below hB7 hS6.lt; have hz7 := hz6.below hB7 hz6.lt; have hb7 := hr6.below (Nat.le_refl _) hB7)
        | (go_at_call 24; refine (CSAME.out _ _ _ hr7 hl7).mono ?_; rintro ed w' ⟨rfl, rfl⟩)
        | (refine wpList_ldseal rfl (.tmp 10) rfl rfl hS7 ?_)
        | (refine wpList_stseal rfl (.tmp 2) (.tmp 52) rfl rfl rfl hz7 ?_; intro w8 hS8 hB8 hE8)
        | (refine bodyPost_ret (res_seal_tmp rfl rfl hS8) rfl ?_; refine ⟨A5, L, c5, ?_, ?_, ⟨by omega, by omega, fun b' o' e _ => by have := own_block ho5 e; omega⟩, ((hB1.trans (hB6.mono (Nat.le_of_lt s1))).trans (hB7.mono (Nat.le_trans (Nat.le_of_lt s1) hB6.size))).trans hB8⟩; · rw [E0.out.1, E0.out.2.1, E0.out.2.2.1, E0.out.2.2.2.2]; rfl
           · rw [E0.out.2.2.2.1]; exact hb7.block hB8.size fun b' o' e => hE8 b' (by have := own_block ho5 e; omega)))
  · rw [decide_eq_false hok] at hdec
    have csame : ∀ W A7 c7, Rd W A7 512 (sectorOf (cE l) (cN l) (z : Int) ((l.drop 24).take L)) -> Rd W (some ⟨b, o, none⟩) 512 l -> Calls Tryz.prog 24 #[.slice A7 512 c7, .slice (some ⟨b, o, none⟩) 512 c] W fun e w' => e = .returned (.bool false) /\ W = w' := fun W A7 c7 h1 h2 => by
      have := Same_any A7 (some ⟨b, o, none⟩) 512 c7 512 c _ _ W h1 h2
      rw [hdec] at this
      exact this
    have CSAME := hi_ csame
    have e0 : gE l = 0 /\ gN l = 0 /\ gK l = 0 /\ gB l = [] /\ decide (okL l) = false := by simp only [gE, gN, gK, gB, if_neg hok, decide_eq_false hok, and_self]
    have E0 := hi_ e0
    clear csame e0 hok hdec hsame
    go_region_held3 (fun w' => w'.cell? ⟨b, o + 20, none⟩ = some (.int .u8 (z : Int))) (first | with_reducible exact kz | with_reducible exact kzA _ | with_reducible exact kzB _ _ | with_reducible exact kz5 | with_reducible exact kz5' _ | (rw [World.cell?_drew]; first | with_reducible exact kz | with_reducible exact kzA _ | with_reducible exact kzB _ _) | go_keep) (first
      | (refine step_app _ bytesT rfl (.tmp 39) (.tmp 43) rfl w1.heap.size _ 0 [] rfl hoA.drew _ L (c - 24) _ rfl (hq.alloc _).drew (by omega) (by simp) ?_; intro v5 w5 ho5 hb5 hg5; rw [List.nil_append, Nat.zero_add] at ho5; obtain ⟨A5, c5, rfl, hc5, hc5m0, hr5⟩ := Rd.of_own ho5 rfl; have kz5 := (hb5.cell (p := ⟨b, o + 20, none⟩) hb1).trans (kzA _); have ne5 : ¬ w5.heap.size = b := World.new_ne w5 _ kz5; have kz5' : ∀ o1, (w5.alloc o1).cell? ⟨b, o + 20, none⟩ = some (.int .u8 (z : Int)) := fun o1 => by rw [World.cell?_alloc_lt _ _ _ (World.block_lt_of_cell? w5 _ kz5)]; exact kz5)
      | (refine step_app _ bytesT rfl (.tmp 39) (.tmp 43) rfl w1.heap.size _ 0 [] rfl hoA2.drew _ L (c - 24) _ rfl ((hq.alloc _).alloc _).drew (by omega) (by simp <;> omega) ?_; intro v5 w5 ho5 hb5 hg5; rw [List.nil_append, Nat.zero_add] at ho5; obtain ⟨A5, c5, rfl, hc5, hc5m0, hr5⟩ := Rd.of_own ho5 rfl; have kz5 := (hb5.cell (p := ⟨b, o + 20, none⟩) hb1).trans (kzB _ _); replace hg5 : World.grownBy _ w5 (some w1.heap.size) := hg5; have hS5 : SealAt w5 (w1.heap.size + 1) 0 0 0 none 0 0 := (hg5.block (w1.heap.size + 1) gA2.lt (by simp)).trans gA2; have k0 := hS5.h0; have k1 := hS5.h1; have k2 := hS5.h2; have k3 := hS5.h3; have f0 := hS5.fz 0; have f1 := hS5.fz 1; have f2 := hS5.fz 2; have f3 := hS5.fz 3)
      | (refine step_app _ bytesT rfl (.tmp 39) (.tmp 43) rfl w1.heap.size _ 0 [] rfl hoB.drew _ L (c - 24) _ rfl ((hq.alloc _).alloc _).drew (by omega) (by simp <;> omega) ?_; intro v5 w5 ho5 hb5 hg5; rw [List.nil_append, Nat.zero_add] at ho5; obtain ⟨A5, c5, rfl, hc5, hc5m0, hr5⟩ := Rd.of_own ho5 rfl; have kz5 := (hb5.cell (p := ⟨b, o + 20, none⟩) hb1).trans (kzB _ _); replace hg5 : World.grownBy _ w5 (some (w1.heap.size + 1)) := hg5; have hS5 : SealAt w5 w1.heap.size 0 0 0 none 0 0 := (hg5.block w1.heap.size sgB.lt (by simp)).trans sgB; have k0 := hS5.h0; have k1 := hS5.h1; have k2 := hS5.h2; have k3 := hS5.h3; have f0 := hS5.fz 0; have f1 := hS5.fz 1; have f2 := hS5.fz 2; have f3 := hS5.fz 3))
    · obtain ⟨w6, hw6⟩ : ∃ w6, w6 = w5.alloc (.cells #[.int .i64 (cE l), .int .i64 (cN l), .int .i64 (z : Int), .slice A5 L c5] 70) := ⟨_, rfl⟩
      have hS6 : SealAt w6 w5.heap.size (cE l) (cN l) (z : Int) A5 L c5 := by rw [hw6]; exact SealAt.new w5
      have hr6 : Rd w6 A5 L ((l.drop 24).take L) := by rw [hw6]; exact hr5.alloc _
      have hB6 : Below w1.heap.size w1 w6 := by rw [hw6]; exact (((((Below.refl _ _).alloc (Nat.le_refl _) _).drew).trans hb5).alloc (by have := hb5.size; simp at this; omega) _)
      rw [<- hw6]
      clear hw6 kz5 kz5' ne5 hg5 hb5
      have hc5m := c5m c5 hc5m0
      clear kz kzA kzB hoA hoA2 hoB gA2 sgB hq c5m
      have hz6 := hS1.below hB6 s1
      have hl6 := hr1.below (Nat.le_refl _) hB6
      go_wp2_with (first
        | (refine wpList_ldseal rfl (.tmp 10) rfl rfl hS6 ?_)
        | (go_at_call 33; refine (RPut_any _ _ _ _ _ _ _ w6 hr6 hc5 hc5m).mono ?_; rintro ed w7 ⟨v7, rfl, ho7, hB7⟩; obtain ⟨A7, c7, rfl, _, _, hr7⟩ := Rd.of_own ho7 rfl; have hl7 := hl6.below (Nat.le_refl _) hB7; have hS7 := hS6.below hB7 hS6.lt; have hz7 := hz6.below hB7 hz6.lt; have hb7 := hr6.below (Nat.le_refl _) hB7)
        | (go_at_call 24; refine (CSAME.out _ _ _ hr7 hl7).mono ?_; rintro ed w' ⟨rfl, rfl⟩)
        | (refine wpList_ldseal rfl (.tmp 10) rfl rfl hS7 ?_)
        | (refine wpList_stseal rfl (.tmp 2) (.tmp 51) rfl rfl rfl hz7 ?_; intro w8 hS8 hB8 hE8)
        | (refine bodyPost_ret (res_seal_tmp rfl rfl hS8) rfl ?_; refine ⟨none, 0, 0, ?_, ?_, ⟨by omega, by omega, fun _ _ e => by cases e⟩, ((hB1.trans (hB6.mono (Nat.le_of_lt s1))).trans (hB7.mono (Nat.le_trans (Nat.le_of_lt s1) hB6.size))).trans hB8⟩; · rw [E0.out.1, E0.out.2.1, E0.out.2.2.1, E0.out.2.2.2.2]; rfl
           · rw [E0.out.2.2.2.1]; exact Rd.nil _ _))
    · obtain ⟨hS6, hB6⟩ := hS5.set4 (e' := cE l) (n' := cN l) (k' := (z : Int)) (A' := A5) (m' := L) (c' := c5)
      have hne5 : ∀ b' o', A5 = some ⟨b', o', none⟩ -> b' ≠ (w1.heap.size + 1) := fun b' o' e => own_ne ho5 hS5 e
      have hE6 : ∀ k, k ≠ (w1.heap.size + 1) -> ((((w5.setCell ⟨(w1.heap.size + 1), 0, none⟩ (.int .i64 (cE l))).setCell ⟨(w1.heap.size + 1), 1, none⟩ (.int .i64 (cN l))).setCell ⟨(w1.heap.size + 1), 2, none⟩ (.int .i64 (z : Int))).setCell ⟨(w1.heap.size + 1), 3, none⟩ (.slice A5 L c5)).heap[k]? = w5.heap[k]? := fun k hk => set4_else hk
      obtain ⟨w6, hw6⟩ : ∃ w6, w6 = (((w5.setCell ⟨(w1.heap.size + 1), 0, none⟩ (.int .i64 (cE l))).setCell ⟨(w1.heap.size + 1), 1, none⟩ (.int .i64 (cN l))).setCell ⟨(w1.heap.size + 1), 2, none⟩ (.int .i64 (z : Int))).setCell ⟨(w1.heap.size + 1), 3, none⟩ (.slice A5 L c5) := ⟨_, rfl⟩
      rw [<- hw6] at hS6 hB6 hE6 ⊢
      have hr6 : Rd w6 A5 L ((l.drop 24).take L) := hr5.block hB6.size fun b' o' e => hE6 b' (hne5 b' o' e)
      replace hB6 : Below w1.heap.size w1 w6 := (((((Below.refl _ _).alloc (Nat.le_refl _) _).alloc (by simp) _).drew).trans hb5).trans (hB6.mono (by omega))
      clear hw6 kz5 k0 k1 k2 k3 f0 f1 f2 f3 hS5 hg5 hb5 hE6 hne5
      have hc5m := c5m c5 hc5m0
      clear kz kzA kzB hoA hoA2 hoB gA2 sgB hq c5m
      have hz6 := hS1.below hB6 s1
      have hl6 := hr1.below (Nat.le_refl _) hB6
      go_wp2_with (first
        | (refine wpList_ldseal rfl (.tmp 10) rfl rfl hS6 ?_)
        | (go_at_call 33; refine (RPut_any _ _ _ _ _ _ _ w6 hr6 hc5 hc5m).mono ?_; rintro ed w7 ⟨v7, rfl, ho7, hB7⟩; obtain ⟨A7, c7, rfl, _, _, hr7⟩ := Rd.of_own ho7 rfl; have hl7 := hl6.below (Nat.le_refl _) hB7; have hS7 := hS6.below hB7 hS6.lt; have hz7 := hz6.below hB7 hz6.lt; have hb7 := hr6.below (Nat.le_refl _) hB7)
        | (go_at_call 24; refine (CSAME.out _ _ _ hr7 hl7).mono ?_; rintro ed w' ⟨rfl, rfl⟩)
        | (refine wpList_ldseal rfl (.tmp 10) rfl rfl hS7 ?_)
        | (refine wpList_stseal rfl (.tmp 2) (.tmp 51) rfl rfl rfl hz7 ?_; intro w8 hS8 hB8 hE8)
        | (refine bodyPost_ret (res_seal_tmp rfl rfl hS8) rfl ?_; refine ⟨none, 0, 0, ?_, ?_, ⟨by omega, by omega, fun _ _ e => by cases e⟩, ((hB1.trans (hB6.mono (Nat.le_of_lt s1))).trans (hB7.mono (Nat.le_trans (Nat.le_of_lt s1) hB6.size))).trans hB8⟩; · rw [E0.out.1, E0.out.2.1, E0.out.2.2.1, E0.out.2.2.2.2]; rfl
           · rw [E0.out.2.2.2.1]; exact Rd.nil _ _))
    · obtain ⟨hS6, hB6⟩ := hS5.set4 (e' := cE l) (n' := cN l) (k' := (z : Int)) (A' := A5) (m' := L) (c' := c5)
      have hne5 : ∀ b' o', A5 = some ⟨b', o', none⟩ -> b' ≠ w1.heap.size := fun b' o' e => own_ne ho5 hS5 e
      have hE6 : ∀ k, k ≠ w1.heap.size -> ((((w5.setCell ⟨w1.heap.size, 0, none⟩ (.int .i64 (cE l))).setCell ⟨w1.heap.size, 1, none⟩ (.int .i64 (cN l))).setCell ⟨w1.heap.size, 2, none⟩ (.int .i64 (z : Int))).setCell ⟨w1.heap.size, 3, none⟩ (.slice A5 L c5)).heap[k]? = w5.heap[k]? := fun k hk => set4_else hk
      obtain ⟨w6, hw6⟩ : ∃ w6, w6 = (((w5.setCell ⟨w1.heap.size, 0, none⟩ (.int .i64 (cE l))).setCell ⟨w1.heap.size, 1, none⟩ (.int .i64 (cN l))).setCell ⟨w1.heap.size, 2, none⟩ (.int .i64 (z : Int))).setCell ⟨w1.heap.size, 3, none⟩ (.slice A5 L c5) := ⟨_, rfl⟩
      rw [<- hw6] at hS6 hB6 hE6 ⊢
      have hr6 : Rd w6 A5 L ((l.drop 24).take L) := hr5.block hB6.size fun b' o' e => hE6 b' (hne5 b' o' e)
      replace hB6 : Below w1.heap.size w1 w6 := (((((Below.refl _ _).alloc (Nat.le_refl _) _).alloc (by simp) _).drew).trans hb5).trans (hB6.mono (by omega))
      clear hw6 kz5 k0 k1 k2 k3 f0 f1 f2 f3 hS5 hg5 hb5 hE6 hne5
      have hc5m := c5m c5 hc5m0
      clear kz kzA kzB hoA hoA2 hoB gA2 sgB hq c5m
      have hz6 := hS1.below hB6 s1
      have hl6 := hr1.below (Nat.le_refl _) hB6
      go_wp2_with (first
        | (refine wpList_ldseal rfl (.tmp 10) rfl rfl hS6 ?_)
        | (go_at_call 33; refine (RPut_any _ _ _ _ _ _ _ w6 hr6 hc5 hc5m).mono ?_; rintro ed w7 ⟨v7, rfl, ho7, hB7⟩; obtain ⟨A7, c7, rfl, _, _, hr7⟩ := Rd.of_own ho7 rfl; have hl7 := hl6.below (Nat.le_refl _) hB7; have hS7 := hS6.below hB7 hS6.lt; have hz7 := hz6.below hB7 hz6.lt; have hb7 := hr6.below (Nat.le_refl _) hB7)
        | (go_at_call 24; refine (CSAME.out _ _ _ hr7 hl7).mono ?_; rintro ed w' ⟨rfl, rfl⟩)
        | (refine wpList_ldseal rfl (.tmp 10) rfl rfl hS7 ?_)
        | (refine wpList_stseal rfl (.tmp 2) (.tmp 51) rfl rfl rfl hz7 ?_; intro w8 hS8 hB8 hE8)
        | (refine bodyPost_ret (res_seal_tmp rfl rfl hS8) rfl ?_; refine ⟨none, 0, 0, ?_, ?_, ⟨by omega, by omega, fun _ _ e => by cases e⟩, ((hB1.trans (hB6.mono (Nat.le_of_lt s1))).trans (hB7.mono (Nat.le_trans (Nat.le_of_lt s1) hB6.size))).trans hB8⟩; · rw [E0.out.1, E0.out.2.1, E0.out.2.2.1, E0.out.2.2.2.2]; rfl
           · rw [E0.out.2.2.2.1]; exact Rd.nil _ _))
end Go.Proofs.YthabmlbmlncbmaaGreat
namespace Go.Proofs.YthabmlbmlncbmaaGreat
set_option maxRecDepth 20000
open Go.RowKit
theorem RCut512 (A : Option Addr) (n c : Nat) (l : List UInt8) (w : World) (hr : Rd w A n l) :
    Calls Tryz.prog 49 #[.slice A n c, .int .i64 512] w fun e w' => ∃ b o c1, e = .returned (.slice (some ⟨b, o, none⟩) 512 c1) /\ 512 <= c1 /\ Rd w' (some ⟨b, o, none⟩) 512 (cut 512 l) /\ Below w.heap.size w w' :=
  (RCut_any A n c l 512 w hr (by decide)).mono fun _ _ ⟨v, he, ho, hb⟩ => by
    obtain ⟨A1, c1, rfl, hc1, _, hr1⟩ := Rd.of_own (n := 512) ho rfl
    obtain ⟨b, o, rfl, _⟩ := hr1.2 (by decide)
    exact ⟨b, o, c1, he, hc1, hr1, hb⟩
theorem RTear_any (A A' : Option Addr) (n c n' c' : Nat) (l l' : List UInt8) (k : Int) (w : World) (hr : Rd w A n l) (hr' : Rd w A' n' l') (hk : -9223372036854775808 <= k /\ k <= 9223372036854775807) :
    Calls Tryz.prog 35 #[.slice A n c, .slice A' n' c', .int .i64 k] w fun e w' => ∃ v, e = .returned v /\ w'.ownsRow w.heap.size 5 1 v 512 (cells (tearL (cut 512 l) (cut 512 l') k)) /\ Below w.heap.size w w' := by
  go_enter Tryz.func35, Tryz.ntmps35
  go_wp2_with fail
  refine (RCut512 A n c l _ hr).mono ?_
  rintro e w1 ⟨b, o, c1, rfl, hc1, hr1, hB1⟩
  have s1 := hB1.size
  go_wp2_with fail
  refine (RCut512 A' n' c' l' _ (hr'.below (Nat.le_refl _) hB1)).mono ?_
  rintro e w2 ⟨b', o', c2, rfl, hc2, hr2, hB2⟩
  have s2 := hB2.size
  replace hr1 := hr1.below (Nat.le_refl _) hB2
  have hB : Below w.heap.size w w2 := hB1.trans (hB2.mono s1)
  have hla := cut_length 512 l
  have hlb := cut_length 512 l'
  obtain ⟨a, ha⟩ : ∃ a, a = cut 512 l := ⟨_, rfl⟩
  obtain ⟨d, hd⟩ : ∃ d, d = cut 512 l' := ⟨_, rfl⟩
  rw [<- ha] at hr1 hla
  rw [<- hd] at hr2 hlb
  have HA := hi_ ha
  have HD := hi_ hd
  clear ha hd hr hr' hB1 hB2
  go_wp2
  go_loopw [9, 10] (fun v i wr => ∃ j : Nat, j <= 64 /\ i = .int .i64 j /\ wr.ownsRow w2.heap.size 5 1 v (8 * j) (cells ((tearL a d k).take (8 * j))) /\ Below w2.heap.size w2 wr) (fun _ i _ => 64 - (intOf i).toNat)
  case atStart => exact ⟨0, Nat.zero_le _, rfl, by simpa [cells_nil] using World.ownsRow_nil _ _ _ _, Below.refl _ _⟩
  case round =>
    obtain ⟨j, hj, rfl, ho1, hb1⟩ := hrel
    have hs := hb1.size
    have hr1' := hr1.below (Nat.le_refl _) hb1
    have hr2' := hr2.below (Nat.le_refl _) hb1
    by_cases hlt : j < 64
    · have hq1 := hr1'.part (lo := 8 * j) (m := 8) (by omega) (some ⟨b, o + 8 * j, none⟩) (fun _ x y e => by injection e with e; injection e with e1 e2; subst e1; subst e2; rfl)
      have hq2 := hr2'.part (lo := 8 * j) (m := 8) (by omega) (some ⟨b', o' + 8 * j, none⟩) (fun _ x y e => by injection e with e; injection e with e1 e2; subst e1; subst e2; rfl)
      have g0 : (0 : Int) <= 8 * (j : Int) := by omega
      have g1 : 8 * (j : Int) <= 8 * (j : Int) + 8 := by omega
      have g2 : 8 * (j : Int) + 8 <= (c1 : Int) := by omega
      have g3 : 8 * (j : Int) + 8 <= (c2 : Int) := by omega
      have g4 : ¬ c1 = 8 * j := by omega
      have g5 : ¬ c2 = 8 * j := by omega
      have g6 : (8 * (j : Int)).toNat = 8 * j := by omega
      have g7 : (8 * (j : Int) + 8).toNat = 8 * j + 8 := by omega
      have g8 : 8 * j + 8 - 8 * j = 8 := by omega
      by_cases p1 : 0 < k
      · by_cases p2 : (j : Int) < k
        · clear hq1 g2 g4
          have hw := tear_word hla hlb k j hlt
          rw [if_pos (show (0 < k /\ (j : Int) < k \/ k < 0 /\ k <= (j : Int) - 64) from by omega)] at hw
          rw [<- hw] at hq2
          have HW := hi_ hw
          clear hw
          go_wp2_with (at_builtin; refine wpList_app _ bytesT rfl (.tmp 39) (.tmp 46) rfl w2.heap.size _ (8 * j) _ rfl ho1 _ 8 (c2 - 8 * j) _ rfl hq2 (by omega) hs ?_; intro v2 w3 ho3 hb3; rw [<- cells_append, <- take_words] at ho3)
          go_roundw
          case rel => exact ⟨j + 1, hlt, by go_num, ho3, hb1.trans hb3⟩
          case measure => simp [intOf]; omega
        · clear hq2 g3 g5
          have hw := tear_word hla hlb k j hlt
          rw [if_neg (show ¬ (0 < k /\ (j : Int) < k \/ k < 0 /\ k <= (j : Int) - 64) from by omega)] at hw
          rw [<- hw] at hq1
          have HW := hi_ hw
          clear hw
          go_wp2_with (at_builtin; refine wpList_app _ bytesT rfl (.tmp 39) (.tmp 46) rfl w2.heap.size _ (8 * j) _ rfl ho1 _ 8 (c1 - 8 * j) _ rfl hq1 (by omega) hs ?_; intro v2 w3 ho3 hb3; rw [<- cells_append, <- take_words] at ho3)
          go_roundw
          case rel => exact ⟨j + 1, hlt, by go_num, ho3, hb1.trans hb3⟩
          case measure => simp [intOf]; omega
      · by_cases p3 : k < 0
        · by_cases p4 : k <= (j : Int) - 64
          · clear hq1 g2 g4
            have hw := tear_word hla hlb k j hlt
            rw [if_pos (show (0 < k /\ (j : Int) < k \/ k < 0 /\ k <= (j : Int) - 64) from by omega)] at hw
            rw [<- hw] at hq2
            have HW := hi_ hw
            clear hw
            go_wp2_with (at_builtin; refine wpList_app _ bytesT rfl (.tmp 39) (.tmp 46) rfl w2.heap.size _ (8 * j) _ rfl ho1 _ 8 (c2 - 8 * j) _ rfl hq2 (by omega) hs ?_; intro v2 w3 ho3 hb3; rw [<- cells_append, <- take_words] at ho3)
            go_roundw
            case rel => exact ⟨j + 1, hlt, by go_num, ho3, hb1.trans hb3⟩
            case measure => simp [intOf]; omega
          · clear hq2 g3 g5
            have hw := tear_word hla hlb k j hlt
            rw [if_neg (show ¬ (0 < k /\ (j : Int) < k \/ k < 0 /\ k <= (j : Int) - 64) from by omega)] at hw
            rw [<- hw] at hq1
            have HW := hi_ hw
            clear hw
            go_wp2_with (at_builtin; refine wpList_app _ bytesT rfl (.tmp 39) (.tmp 46) rfl w2.heap.size _ (8 * j) _ rfl ho1 _ 8 (c1 - 8 * j) _ rfl hq1 (by omega) hs ?_; intro v2 w3 ho3 hb3; rw [<- cells_append, <- take_words] at ho3)
            go_roundw
            case rel => exact ⟨j + 1, hlt, by go_num, ho3, hb1.trans hb3⟩
            case measure => simp [intOf]; omega
        · clear hq2 g3 g5
          have hw := tear_word hla hlb k j hlt
          rw [if_neg (show ¬ (0 < k /\ (j : Int) < k \/ k < 0 /\ k <= (j : Int) - 64) from by omega)] at hw
          rw [<- hw] at hq1
          have HW := hi_ hw
          clear hw
          go_wp2_with (at_builtin; refine wpList_app _ bytesT rfl (.tmp 39) (.tmp 46) rfl w2.heap.size _ (8 * j) _ rfl ho1 _ 8 (c1 - 8 * j) _ rfl hq1 (by omega) hs ?_; intro v2 w3 ho3 hb3; rw [<- cells_append, <- take_words] at ho3)
          go_roundw
          case rel => exact ⟨j + 1, hlt, by go_num, ho3, hb1.trans hb3⟩
          case measure => simp [intOf]; omega
    · go_wp2
      go_ret
      obtain rfl : j = 64 := by omega
      refine ⟨_, rfl, ?_, hB.trans (hb1.mono (by omega))⟩
      rw [List.take_of_length_le (by rw [tearL_length hla hlb]; omega)] at ho1
      rw [<- HA.out, <- HD.out]
      exact own_mono ho1 (by omega)
end Go.Proofs.YthabmlbmlncbmaaGreat
namespace Go.Proofs.YthabmlbmlncbmaaGreat
set_option maxRecDepth 20000
open Go.RowKit
theorem Get_any (A : Option Addr) (n c : Nat) (l : List UInt8) (w : World) (hr : Rd w A n l) :
    Calls Tryz.prog 61 #[.slice A n c] w fun ed w' => ∃ A' m' c', ed = .returned (.tuple #[.agg #[.int .i64 (gE l), .int .i64 (gN l), .int .i64 (gK l), .slice A' m' c'], .bool (decide (okL l))]) /\ Rd w' A' m' (gB l) /\ (m' <= 472 /\ m' <= c' /\ ∀ b o, A' = some ⟨b, o, none⟩ -> 0 < m' -> w.heap.size <= b) /\ Below w.heap.size w w' := by
  by_cases h : n = 512
  · subst h
    exact Get_right A c l w hr
  · have hno : ¬ okL l := fun ho => h (by rw [<- hr.1]; exact okL_len ho)
    refine (Get_wrong A n c w h).mono ?_
    rintro ed w' ⟨rfl, hb⟩
    exact ⟨none, 0, 0, by simp only [gE, gN, gK, if_neg hno, decide_eq_false hno], by simp only [gB, if_neg hno]; exact Rd.nil _ _, ⟨by omega, by omega, fun _ _ e => by cases e⟩, hb⟩
theorem RGet_any (A : Option Addr) (n c : Nat) (l : List UInt8) (w : World) (hr : Rd w A n l) (hc : n <= c) :
    Calls Tryz.prog 51 #[.slice A n c] w fun ed w' => ∃ A' m' c', ed = .returned (.tuple #[.agg #[.int .i64 (gE l), .int .i64 (gN l), .int .i64 (gK l), .slice A' m' c'], .bool (decide (okL l))]) /\ Rd w' A' m' (gB l) /\ (m' <= 472 /\ m' <= c' /\ ∀ b o, A' = some ⟨b, o, none⟩ -> 0 < m' -> w.heap.size <= b) /\ Below w.heap.size w w' := by
  by_cases h : n = 512
  · subst h
    by_cases h2 : cL l <= 472
    · exact RGet_right A c l w hr hc h2
    · have hno : ¬ okL l := fun ho => h2 (okL_long ho)
      refine (RGet_long A c l w hr (by omega)).mono ?_
      rintro ed w' ⟨rfl, hb⟩
      exact ⟨none, 0, 0, by simp only [gE, gN, gK, if_neg hno, decide_eq_false hno], by simp only [gB, if_neg hno]; exact Rd.nil _ _, ⟨by omega, by omega, fun _ _ e => by cases e⟩, hb⟩
  · have hno : ¬ okL l := fun ho => h (by rw [<- hr.1]; exact okL_len ho)
    refine (RGet_wrong A n c w h).mono ?_
    rintro ed w' ⟨rfl, hb⟩
    exact ⟨none, 0, 0, by simp only [gE, gN, gK, if_neg hno, decide_eq_false hno], by simp only [gB, if_neg hno]; exact Rd.nil _ _, ⟨by omega, by omega, fun _ _ e => by cases e⟩, hb⟩
end Go.Proofs.YthabmlbmlncbmaaGreat
namespace Go.Proofs.YthabmlbmlncbmaaGreat
open Go.RowKit
def Rec (T : TypeId) (w : World) (g : Nat) (cs : Array Value) : Prop := w.heap[g]? = some (.cells cs T (0, 0))
structure RT (P : Program) (T : TypeId) (n : Nat) : Prop where
  und : ∃ d, P.underlying T = some d /\ d.isRow = true
  info : (P.info? T).map (·.size) = some n
section
variable {P : Program} {T : TypeId} {w w' : World} {g : Nat} {cs : Array Value} {n : Nat}
theorem Rec.lt (h : Rec T w g cs) : g < w.heap.size := (Array.getElem?_eq_some_iff.1 h).1
theorem Rec.at_ (h : Rec T w g cs) (i : Nat) : w.cell? ⟨g, i, none⟩ = cs[i]? := cell_of_row _ _ _ _ _ _ h
theorem Rec.fz (h : Rec T w g cs) (i : Nat) : w.frozen? ⟨g, i, none⟩ = false := frozen_of_row w g i _ _ h
theorem Rec.block (h : Rec T w g cs) (hb : w'.heap[g]? = w.heap[g]?) : Rec T w' g cs := hb.trans h
theorem Rec.below {B : Nat} (h : Rec T w g cs) (hb : Below B w w') (hB : g < B) : Rec T w' g cs := (hb.block g hB).trans h
theorem Rec.under (h : Rec T w g cs) (hb : Below w.heap.size w w') : Rec T w' g cs := h.below hb h.lt
theorem Rec.fr {own : Nat -> Prop} (h : Rec T w g cs) (hf : Fr own w w') (hn : ¬ own g) : Rec T w' g cs := (hf.block g h.lt hn).trans h
theorem Rec.new (w : World) (T : TypeId) (cs : Array Value) : Rec T (w.alloc (.cells cs T)) w.heap.size cs := heap_alloc_last w _
theorem Rec.set (h : Rec T w g cs) (i : Nat) (v : Value) : Rec T (w.setCell ⟨g, i, none⟩ v) g (cs.setIfInBounds i v) := heap_setCell_at h v
theorem Rec.load (h : Rec T w g cs) (rt : RT P T n) (hn : cs.size = n) : (loadVar T ⟨g, 0, none⟩).run P w = .ok (.agg cs) w := by
  obtain ⟨d, hd, hr⟩ := rt.und
  have := run_loadVar_mid (P := P) w g 0 T cs.toList d (fun j v hj => by rw [Nat.zero_add, h.at_ j, <- hj]; simp) hd hr (by rw [rt.info, <- hn]; simp)
  simpa using this
theorem Rec.loadAt (h : Rec T w g cs) (rt : RT P T n) (hn : cs.size = n) : (Instr.loadAt T (.pointer (some ⟨g, 0, none⟩))).run P w = .ok (.agg cs) w := by
  simp only [Instr.loadAt, Instr.sureAddr, Sem.run_bind, Sem.run_pure, Result.andThen_ok, h.load rt hn]
theorem Rec.store (h : Rec T w g cs) (rt : RT P T n) (hn : cs.size = n) (cs' : Array Value) (hs : cs'.size = n) (h1 : cs'.all (·.oneCell') = true) :
    ∃ w', (Instr.storeAt T (.pointer (some ⟨g, 0, none⟩)) (.agg cs')).run P w = .ok () w' /\ Rec T w' g cs' /\ Fr (· = g) w w' := by
  refine ⟨w.setRow g cs', ?_, setRow_heap w g _ _ _ _ h, ⟨rfl, rfl, rfl, by simp [World.setRow], fun k _ hk => setRow_other w g k _ hk⟩⟩
  simp only [Instr.storeAt, Instr.sureAddr, Sem.run_bind, Sem.run_pure, Result.andThen_ok]
  exact run_storeVar_row w g T T _ _ h (by rw [hs]; exact rt.info) (hn.trans hs.symm) h1
variable {ops : Array Oper} {rest : List Oper} {o : Oper} {a : Act} {Q : Exit -> Act -> World -> Prop}
theorem wpList_ldS (rt : RT P T n) (hn : cs.size = n) (hgd : Region.wanted o (yielded ops a.tmps) = true) (x : Operand) (ho : o.op = .load T x)
    (hx : a.eval x = .pointer (some ⟨g, 0, none⟩)) (h : Rec T w g cs) (kk : wpList P ops Q rest (a.put o.dst (.agg cs)) w) : wpList P ops Q (o :: rest) a w :=
  wpList_w hgd fun _ hK => by
    unfold Oper.wp execOp
    simp only [ho, hx, h.loadAt rt hn, Sem.run_bind, Sem.run_pure, Result.andThen_ok]
    exact hK _ _ kk
theorem wpList_stS {cs' : Array Value} (rt : RT P T n) (hn : cs.size = n) (hs : cs'.size = n) (h1 : cs'.all (·.oneCell') = true) (hgd : Region.wanted o (yielded ops a.tmps) = true) (x y : Operand) (ho : o.op = .store T x y)
    (hx : a.eval x = .pointer (some ⟨g, 0, none⟩)) (hy : a.eval y = .agg cs') (h : Rec T w g cs)
    (kk : ∀ w', Rec T w' g cs' -> Fr (· = g) w w' -> wpList P ops Q rest (a.put o.dst undef) w') : wpList P ops Q (o :: rest) a w :=
  wpList_w hgd fun _ hK => by
    obtain ⟨w', hrun, r1, r2⟩ := h.store rt hn cs' hs h1
    unfold Oper.wp execOp
    simp only [ho, hx, hy, hrun, Sem.run_bind, Sem.run_pure, Result.andThen_ok]
    exact hK _ _ (kk w' r1 r2)
theorem step_stS {J : Act -> World -> Prop} {E : Prop} {cs' : Array Value} (rt : RT P T n) (hn : cs.size = n) (hs : cs'.size = n) (h1 : cs'.all (·.oneCell') = true) (hgd : o.guard = none) (x y : Operand) (ho : o.op = .store T x y)
    (hx : a.eval x = .pointer (some ⟨g, 0, none⟩)) (hy : a.eval y = .agg cs') (h : Rec T w g cs)
    (kk : ∀ w', Rec T w' g cs' -> Fr (· = g) w w' -> J (a.put o.dst undef) w') : if Region.wanted o (yielded ops a.tmps) = true then Oper.wp P o a w J Q else E := by
  have hw : Region.wanted o (yielded ops a.tmps) = true := by simp [Region.wanted, hgd]
  rw [if_pos hw]
  obtain ⟨w', hrun, r1, r2⟩ := h.store rt hn cs' hs h1
  unfold Oper.wp execOp
  simp only [ho, hx, hy, hrun, Sem.run_bind, Sem.run_pure, Result.andThen_ok]
  exact kk w' r1 r2
variable {fn : Func} {p q u v : Tmp} {T' : TypeId} {tmps : Array Value} {ad ad' : Addr} {x y : Value}
theorem res_c (h : fn.results = #[.cell p T]) (hp : tmps.getD p undef = .pointer (some ad)) (hl : (loadVar T ad).run P w = .ok x w) : (results fn tmps).run P w = .ok x w := by
  rw [Array.getD_eq_getD_getElem?] at hp
  simp only [results, h]
  simp [hp, asAddr, hl]
theorem res_ct (h : fn.results = #[.cell p T, .tmp u]) (hp : tmps.getD p undef = .pointer (some ad)) (hl : (loadVar T ad).run P w = .ok x w) : (results fn tmps).run P w = .ok (.tuple #[x, tmps.getD u undef]) w := by
  rw [Array.getD_eq_getD_getElem?] at hp
  rw [results_cell_tmp h]
  simp [hp, asAddr, hl, Result.andThen]
end
end Go.Proofs.YthabmlbmlncbmaaGreat
namespace Go.Proofs.YthabmlbmlncbmaaGreat
open Go.RowKit
def KRd (w : World) (A : Option Addr) (n : Nat) (ks : List Kd) : Prop :=
  ks.length = n /\ (0 < n -> ∃ b o, A = some ⟨b, o, none⟩ /\ b < w.heap.size /\ ∀ j (h : j < ks.length), w.cell? ⟨b, o + j * 2, none⟩ = some (.string ks[j].1) /\ w.cell? ⟨b, o + j * 2 + 1, none⟩ = some (.int .i64 ks[j].2))
theorem KRd.own_below {w w' : World} {A : Option Addr} {n : Nat} {ks : List Kd} (h : KRd w A n ks) {B : Nat} (hB : w.heap.size <= B) (hb : Below B w w') : KRd w' A n ks :=
  ⟨h.1, fun hp => by
    obtain ⟨b, o, e, hlt, hc⟩ := h.2 hp
    refine ⟨b, o, e, by have := hb.size; omega, fun j hj => ?_⟩
    obtain ⟨h0, h1⟩ := hc j hj
    exact ⟨(hb.cell (p := ⟨b, o + j * 2, none⟩) (by simp; omega)).trans h0, (hb.cell (p := ⟨b, o + j * 2 + 1, none⟩) (by simp; omega)).trans h1⟩⟩
theorem KRd.below {w w' : World} {A : Option Addr} {n : Nat} {ks : List Kd} (h : KRd w A n ks) (hb : Below w.heap.size w w') : KRd w' A n ks := h.own_below (Nat.le_refl _) hb
theorem KRd.alloc {w : World} {A : Option Addr} {n : Nat} {ks : List Kd} (h : KRd w A n ks) (o : Obj) : KRd (w.alloc o) A n ks := h.below ((Below.refl _ _).alloc (Nat.le_refl _) o)
theorem KRd.nil (w : World) (A : Option Addr) : KRd w A 0 [] := ⟨rfl, fun h => absurd h (Nat.lt_irrefl 0)⟩
theorem KRd.at_ {w : World} {A : Option Addr} {n : Nat} {ks : List Kd} (h : KRd w A n ks) {j : Nat} (hj : j < n) :
    ∃ b o s z, A = some ⟨b, o, none⟩ /\ b < w.heap.size /\ w.cell? ⟨b, o + j * 2, none⟩ = some (.string s) /\ w.cell? ⟨b, o + j * 2 + 1, none⟩ = some (.int .i64 z) /\ ∃ hl : j < ks.length, ks[j] = (s, z) := by
  obtain ⟨b, o, e, hlt, hc⟩ := h.2 (by omega)
  have hl : j < ks.length := by rw [h.1]; exact hj
  exact ⟨b, o, ks[j].1, ks[j].2, e, hlt, (hc j hl).1, (hc j hl).2, hl, rfl⟩
theorem confT : RT Tryz.prog 24 5 := ⟨⟨_, Tryz.underlying24, rfl⟩, by kernel_rfl⟩
end Go.Proofs.YthabmlbmlncbmaaGreat
namespace Go.Proofs.YthabmlbmlncbmaaGreat
open Go.RowKit
def Lens (ks : List Kd) : Prop := ∀ k ∈ ks, k.1.size <= 9223372036854775807
theorem Lens.at_ {ks : List Kd} (h : Lens ks) {j : Nat} {s : ByteArray} {z : Int} (hl : j < ks.length) (hk : ks[j] = (s, z)) : s.size <= 9223372036854775807 := by
  have := h _ (List.getElem_mem hl)
  rw [hk] at this
  exact this
end Go.Proofs.YthabmlbmlncbmaaGreat
namespace Go.Proofs.YthabmlbmlncbmaaGreat
open Go.RowKit
theorem within_any (n lo hi : Int) (w : World) :
    Calls Tryz.prog 69 #[.int .i64 n, .int .i64 lo, .int .i64 hi] w fun e w' => e = .returned (.bool (decide (lo <= n /\ n <= hi))) /\ w = w' := by
  by_cases h1 : lo <= n
  · by_cases h2 : n <= hi
    all_goals
      go_enter Tryz.func69, Tryz.ntmps69
      go_wp2
      go_ret
      exact ⟨ret_bool (by simp <;> omega), rfl⟩
  · go_enter Tryz.func69, Tryz.ntmps69
    go_wp2
    go_ret
    exact ⟨ret_bool (by simp <;> omega), rfl⟩
theorem plain_any (b : UInt8) (w : World) :
    Calls Tryz.prog 97 #[.int .u8 (b.toNat : Int)] w fun e w' => e = .returned (.bool (plainN b)) /\ w = w' := by
  unfold plainN
  obtain ⟨x, hx⟩ : ∃ x, x = b.toNat := ⟨_, rfl⟩
  rw [<- hx]
  clear hx
  by_cases h1 : 97 <= x <;> by_cases h2 : x <= 122 <;> by_cases h3 : 48 <= x <;> by_cases h4 : x <= 57 <;> by_cases h5 : x = 95 <;> first
  | omega
  | (go_enter Tryz.func97, Tryz.ntmps97
     go_wp2
     go_ret
     exact ⟨ret_bool (by first | rfl | (rw [Bool.eq_iff_iff]; simp <;> omega)), rfl⟩)
end Go.Proofs.YthabmlbmlncbmaaGreat
namespace Go.Proofs.YthabmlbmlncbmaaGreat
open Go.RowKit
theorem bytes_at (s : ByteArray) (j : Nat) (h : j < s.size) : s.data.toList.take (j + 1) = s.data.toList.take j ++ [s[j]] := by
  have hl : j < s.data.toList.length := by simpa using h
  rw [List.take_succ_eq_append_getElem hl]
  rfl
theorem allP (s : ByteArray) (j : Nat) (h : j < s.size) : (s.data.toList.take (j + 1)).all plainN = ((s.data.toList.take j).all plainN && plainN s[j]) := by
  rw [bytes_at s j h, List.all_append]
  simp
theorem all_of_take (s : ByteArray) (j : Nat) (h : (s.data.toList.take j).all plainN = false) : s.data.toList.all plainN = false := by
  rw [List.all_eq_false] at h ⊢
  obtain ⟨x, hx, hp⟩ := h
  exact ⟨x, List.mem_of_mem_take hx, hp⟩
theorem CName_any (s : ByteArray) (w : World) (hs : s.size <= 9223372036854775807) :
    Calls Tryz.prog 84 #[.string s] w fun e w' => e = .returned (.bool (nameB s)) /\ w = w' := by
  by_cases h : 1 <= s.size /\ s.size <= 16
  · have hd : decide ((1 : Int) <= (s.size : Int) /\ (s.size : Int) <= 16) = true := by simp; omega
    have hn : nameB s = s.data.toList.all plainN := by simp [nameB, h]
    have HN := hi_ hn
    have HD := hi_ hd
    clear hn hd
    go_enter Tryz.func84, Tryz.ntmps84
    go_wp2_with (go_at_call 69; refine (within_any _ _ _ _).mono ?_; rintro e w' ⟨rfl, rfl⟩; rw [HD.out])
    go_loop [10, 3] (fun i _ => ∃ j : Nat, j <= s.size /\ i = .int .i64 j /\ (s.data.toList.take j).all plainN = true) (fun i _ => s.size - (intOf i).toNat)
    case atStart => exact ⟨0, Nat.zero_le _, rfl, rfl⟩
    case round =>
      obtain ⟨j, hj, rfl, hall⟩ := hrel
      by_cases hlt : j < s.size
      · have hp := allP s j hlt
        rw [hall, Bool.true_and] at hp
        have HA := hi_ hall
        clear hall
        cases hpl : plainN s[j]
        · rw [hpl] at hp
          have HP := hi_ (all_of_take s _ hp)
          have HL := hi_ hpl
          clear hp hpl
          go_wp2_with (go_at_call 97; refine (plain_any s[j] _).mono ?_; rintro e w' ⟨rfl, rfl⟩; rw [HL.out])
          go_ret
          exact ⟨ret_bool (by rw [HN.out, HP.out]), rfl⟩
        · rw [hpl] at hp
          have HP := hi_ hp
          have HL := hi_ hpl
          clear hp hpl
          go_wp2_with (go_at_call 97; refine (plain_any s[j] _).mono ?_; rintro e w' ⟨rfl, rfl⟩; rw [HL.out])
          go_round
          case rel => exact ⟨j + 1, hlt, by go_num, HP.out⟩
          case measure => simp [intOf]; omega
      · go_wp2
        go_ret
        refine ⟨ret_bool ?_, rfl⟩
        rw [HN.out, <- hall, List.take_of_length_le (by simp; omega)]
  · have hd : decide ((1 : Int) <= (s.size : Int) /\ (s.size : Int) <= 16) = false := by simp; omega
    have hn : nameB s = false := by simp [nameB]; omega
    rw [hn]
    clear hn h
    go_enter Tryz.func84, Tryz.ntmps84
    go_wp2_with (go_at_call 69; refine (within_any _ _ _ _).mono ?_; rintro e w' ⟨rfl, rfl⟩; rw [hd])
    go_ret
    exact ⟨rfl, rfl⟩
theorem RName_any (s : ByteArray) (w : World) (hs : s.size <= 9223372036854775807) :
    Calls Tryz.prog 22 #[.string s] w fun e w' => e = .returned (.bool (nameB s)) /\ ∃ n, w' = w.drewN n := by
  go_enter Tryz.func22, Tryz.ntmps22
  go_wp2
  go_loopw [3] (fun i wr => ∃ j n : Nat, j <= s.size /\ i = .int .i64 j /\ (s.data.toList.take j).all plainN = true /\ wr = w.drewN n) (fun i _ => s.size - (intOf i).toNat)
  case atStart => exact ⟨0, 0, Nat.zero_le _, rfl, rfl, rfl⟩
  case round =>
    obtain ⟨j, n, hj, rfl, hall, rfl⟩ := hrel
    by_cases hlt : j < s.size
    · have hp := allP s j hlt
      rw [hall, Bool.true_and] at hp
      have HA := hi_ hall
      clear hall
      have hlt' : (j : Int) < (s.size : Int) := by omega
      have hpl : plainN s[j] = (decide (97 <= s[j].toNat /\ s[j].toNat <= 122) || decide (48 <= s[j].toNat /\ s[j].toNat <= 57) || decide (s[j].toNat = 95)) := rfl
      by_cases h1 : (97 : Int) <= (s[j].toNat : Int) <;> by_cases h2 : (s[j].toNat : Int) <= 122 <;> by_cases h3 : (48 : Int) <= (s[j].toNat : Int) <;> by_cases h4 : (s[j].toNat : Int) <= 57 <;> by_cases h5 : (s[j].toNat : Int) = 95 <;> first
      | (exfalso; omega)
      | (have hv : plainN s[j] = true := by rw [hpl]; simp; omega
         (first | have e1 : decide ((97 : Int) <= (s[j].toNat : Int)) = true := decide_eq_true h1 | (have e1 : decide ((97 : Int) <= (s[j].toNat : Int)) = false := decide_eq_false h1; clear h1))
         (first | have e2 : decide ((s[j].toNat : Int) <= 122) = true := decide_eq_true h2 | (have e2 : decide ((s[j].toNat : Int) <= 122) = false := decide_eq_false h2; clear h2))
         (first | have e3 : decide ((48 : Int) <= (s[j].toNat : Int)) = true := decide_eq_true h3 | (have e3 : decide ((48 : Int) <= (s[j].toNat : Int)) = false := decide_eq_false h3; clear h3))
         (first | have e4 : decide ((s[j].toNat : Int) <= 57) = true := decide_eq_true h4 | (have e4 : decide ((s[j].toNat : Int) <= 57) = false := decide_eq_false h4; clear h4))
         (first | have e5 : decide ((s[j].toNat : Int) = 95) = true := decide_eq_true h5 | (have e5 : decide ((s[j].toNat : Int) = 95) = false := decide_eq_false h5; have g5 : ((s[j].toNat : Int) != 95) = true := bne_iff_ne.2 h5; clear h5))
         rw [hv] at hp
         have HP := hi_ hp
         clear hp hpl hv
         go_wp2
         go_quiet (fail)
         go_wp2
         go_roundw
         case rel => exact ⟨j + 1, _, hlt, by go_num, HP.out, rfl⟩
         case measure => simp [intOf]; omega)
      | (have hv : plainN s[j] = false := by rw [hpl]; simp; omega
         (first | have e1 : decide ((97 : Int) <= (s[j].toNat : Int)) = true := decide_eq_true h1 | (have e1 : decide ((97 : Int) <= (s[j].toNat : Int)) = false := decide_eq_false h1; clear h1))
         (first | have e2 : decide ((s[j].toNat : Int) <= 122) = true := decide_eq_true h2 | (have e2 : decide ((s[j].toNat : Int) <= 122) = false := decide_eq_false h2; clear h2))
         (first | have e3 : decide ((48 : Int) <= (s[j].toNat : Int)) = true := decide_eq_true h3 | (have e3 : decide ((48 : Int) <= (s[j].toNat : Int)) = false := decide_eq_false h3; clear h3))
         (first | have e4 : decide ((s[j].toNat : Int) <= 57) = true := decide_eq_true h4 | (have e4 : decide ((s[j].toNat : Int) <= 57) = false := decide_eq_false h4; clear h4))
         (first | have e5 : decide ((s[j].toNat : Int) = 95) = true := decide_eq_true h5 | (have e5 : decide ((s[j].toNat : Int) = 95) = false := decide_eq_false h5; have g5 : ((s[j].toNat : Int) != 95) = true := bne_iff_ne.2 h5; clear h5))
         rw [hv] at hp
         have HP := hi_ (all_of_take s _ hp)
         clear hp hpl hv
         go_wp2
         go_quiet (fail)
         go_wp2
         go_ret
         exact ⟨ret_bool (by simp [nameB, HP.out]), _, rfl⟩)
    · have hn : nameB s = decide (1 <= s.size /\ s.size <= 16) := by
        rw [List.take_of_length_le (by simp; omega)] at hall
        simp [nameB, hall]
      have HN := hi_ hn
      clear hn hall
      by_cases h1 : 1 <= s.size
      · have e1 : decide ((1 : Int) <= (s.size : Int)) = true := by simp; omega
        go_wp2
        go_ret
        exact ⟨ret_bool (by rw [HN.out, Bool.eq_iff_iff]; simp <;> omega), _, rfl⟩
      · have e1 : decide ((1 : Int) <= (s.size : Int)) = false := by simp; omega
        go_wp2
        go_ret
        exact ⟨ret_bool (by rw [HN.out, Bool.eq_iff_iff]; simp <;> omega), _, rfl⟩
end Go.Proofs.YthabmlbmlncbmaaGreat
namespace Go.Proofs.YthabmlbmlncbmaaGreat
open Go.RowKit
theorem named_any (A : Option Addr) (n c : Nat) (ks : List Kd) (w : World) (h : KRd w A n ks) (hn : n <= 1000000) (hs : Lens ks) :
    Calls Tryz.prog 70 #[.slice A n c] w fun e w' => e = .returned (.bool (decide (Named ks))) /\ Below w.heap.size w w' := by
  have H := hi_ h
  have HS := hi_ hs
  clear h hs
  go_enter Tryz.func70, Tryz.ntmps70
  go_wp2
  go_loopw [7] (fun i wr => ∃ j : Nat, j <= n /\ i = .int .i64 j /\ Named (ks.take j) /\ Below w.heap.size w wr) (fun i _ => n - (intOf i).toNat)
  case atStart => exact ⟨0, Nat.zero_le _, rfl, Named.nil, Below.refl _ _⟩
  case round =>
    obtain ⟨j, hj, rfl, hall, hb⟩ := hrel
    by_cases hlt : j < n
    · obtain ⟨b, o, s, z, rfl, _, k0, k1, hl, hk⟩ := (H.out.below hb).at_ hlt
      have hsn := named_snoc hl
      have hsz := HS.out.at_ hl hk
      rw [hk] at hsn
      have HA := hi_ hall
      have HB := hi_ hb
      have HSN := hi_ hsn
      clear hall hb hsn hk
      go_wp2_with (go_at_call 84; refine (CName_any s _ hsz).mono ?_; rintro e w' ⟨rfl, rfl⟩)
      · go_ret
        refine ⟨ret_bool (decide_eq_false fun hN => ?_).symm, HB.out.alloc HB.out.size _⟩
        have := (HSN.out.1 (named_take hN _)).2
        simp_all
      · go_roundw
        case rel => exact ⟨j + 1, hlt, by go_num, HSN.out.2 ⟨HA.out, by simp_all⟩, HB.out.alloc HB.out.size _⟩
        case measure => simp [intOf]; omega
    · go_wp2
      go_ret
      refine ⟨ret_bool (decide_eq_true ?_).symm, hb⟩
      rwa [List.take_of_length_le (by rw [H.out.1]; omega)] at hall
theorem sized_any (A : Option Addr) (n c : Nat) (ks : List Kd) (w : World) (h : KRd w A n ks) (hn : n <= 1000000) :
    Calls Tryz.prog 72 #[.slice A n c] w fun e w' => e = .returned (.bool (decide (Sized ks))) /\ Below w.heap.size w w' := by
  have H := hi_ h
  clear h
  go_enter Tryz.func72, Tryz.ntmps72
  go_wp2
  go_loopw [7] (fun i wr => ∃ j : Nat, j <= n /\ i = .int .i64 j /\ Sized (ks.take j) /\ Below w.heap.size w wr) (fun i _ => n - (intOf i).toNat)
  case atStart => exact ⟨0, Nat.zero_le _, rfl, Sized.nil, Below.refl _ _⟩
  case round =>
    obtain ⟨j, hj, rfl, hall, hb⟩ := hrel
    by_cases hlt : j < n
    · obtain ⟨b, o, s, z, rfl, _, k0, k1, hl, hk⟩ := (H.out.below hb).at_ hlt
      have hsn := sized_snoc hl
      rw [hk] at hsn
      have HA := hi_ hall
      have HB := hi_ hb
      have HSN := hi_ hsn
      clear hall hb hsn hk
      by_cases hz : 0 <= z /\ z <= 64
      · have hd := decide_eq_true hz
        have HZ := hi_ hz
        clear hz
        go_wp2_with (go_at_call 69; refine (within_any _ _ _ _).mono ?_; rintro e w' ⟨rfl, rfl⟩; rw [hd])
        go_roundw
        case rel => exact ⟨j + 1, hlt, by go_num, HSN.out.2 ⟨HA.out, HZ.out⟩, HB.out.alloc HB.out.size _⟩
        case measure => simp [intOf]; omega
      · have hd : decide (0 <= z /\ z <= 64) = false := decide_eq_false hz
        have HZ := hi_ hz
        clear hz
        go_wp2_with (go_at_call 69; refine (within_any _ _ _ _).mono ?_; rintro e w' ⟨rfl, rfl⟩; rw [hd])
        go_ret
        exact ⟨ret_bool (decide_eq_false fun hN => HZ.out (HSN.out.1 (sized_take hN _)).2).symm, HB.out.alloc HB.out.size _⟩
    · go_wp2
      go_ret
      refine ⟨ret_bool (decide_eq_true ?_).symm, hb⟩
      rwa [List.take_of_length_le (by rw [H.out.1]; omega)] at hall
theorem toList_inj {a b : ByteArray} : (a.toList == b.toList) = decide (a = b) := by
  rw [Bool.eq_iff_iff, beq_iff_eq, decide_eq_true_eq, ByteArray.toList_eq, ByteArray.toList_eq]
  refine ⟨fun h => ?_, fun h => by rw [h]⟩
  exact ByteArray.ext (Array.ext' h)
theorem apart_any (A : Option Addr) (n c : Nat) (ks : List Kd) (w : World) (h : KRd w A n ks) (hn : n <= 1000000) :
    Calls Tryz.prog 71 #[.slice A n c] w fun e w' => e = .returned (.bool (decide (Apart ks))) /\ Below w.heap.size w w' := by
  have H := hi_ h
  clear h
  go_enter Tryz.func71, Tryz.ntmps71
  go_wp2
  go_step3
  go_wp2
  go_step3
  go_wp2
  go_loopg [9] n (fun g i wr => ∃ j : Nat, j + g = n /\ i = .int .i64 j /\ Apart (ks.take j) /\ Below w.heap.size w wr)
  case atStart => exact ⟨0, by omega, rfl, Apart.nil, Below.refl _ _⟩
  case round =>
    obtain ⟨j, hj, rfl, hall, hb⟩ := hrel
    cases gk with
    | zero =>
      have hjz : ¬ ((j : Int) < (n : Int)) := by omega
      go_wp2
      try rw [Exit.noGoto_ret]
      go_ret
      refine ⟨ret_bool (decide_eq_true ?_).symm, hb⟩
      rwa [List.take_of_length_le (by rw [H.out.1]; omega)] at hall
    | succ g =>
      have hjz : (j : Int) < (n : Int) := by omega
      obtain ⟨b, o, s, z, rfl, _, k0, k1, hl, hk⟩ := (H.out.below hb).at_ (show j < n by omega)
      have hsn := apart_snoc hl
      rw [hk] at hsn
      have HA := hi_ hall
      have HB := hi_ hb
      have HSN := hi_ hsn
      clear hall hb hsn hk
      go_wp2
      obtain ⟨p, hp⟩ : ∃ p, p = wr.heap.size := ⟨_, rfl⟩
      obtain ⟨w1, hw1⟩ : ∃ w1, w1 = wr.alloc (.cells #[.string s, .int .i64 z] 50) := ⟨_, rfl⟩
      have hB1 : Below w.heap.size w w1 := by rw [hw1]; exact HB.out.alloc HB.out.size _
      have q0 : w1.cell? ⟨p, 0, none⟩ = some (.string s) := by rw [hw1, hp]; simp
      have hlt1 : p < w1.heap.size := by rw [hw1, hp]; simp
      rw [<- hw1, <- hp]
      clear hw1 hp
      have HB1 := hi_ hB1
      clear hB1
      go_loopg [16] (n - 1) (fun g2 i2 wy => ∃ m : Nat, m + g2 = n - 1 /\ m <= j /\ i2 = .int .i64 m /\ First ks s m /\ Below w1.heap.size w1 wy)
      case atStart => exact ⟨0, by omega, Nat.zero_le _, rfl, First.zero _ _, Below.refl _ _⟩
      case round =>
        obtain ⟨m, hmg, hmj, rfl, hf, hb2⟩ := hrel
        have hmn : (m : Int) < (n : Int) := by omega
        have Q0 : wr.cell? ⟨p, 0, none⟩ = some (.string s) := (hb2.cell (p := ⟨p, 0, none⟩) hlt1).trans q0
        have hB2 := HB1.out.trans (hb2.mono HB1.out.size)
        obtain ⟨b', o', s', z', hA', _, k0', k1', hl', hk'⟩ := (H.out.below hB2).at_ (show m < n by omega)
        obtain ⟨rfl, rfl⟩ : b = b' /\ o = o' := by simpa using hA'
        have hsn' := First.succ (s := s) hl'
        rw [hk'] at hsn'
        have Q1 : (wr.alloc (.cells #[.string s', .int .i64 z'] 50)).cell? ⟨p, 0, none⟩ = some (.string s) := (((Below.refl wr.heap.size wr).alloc (Nat.le_refl _) _).cell (p := ⟨p, 0, none⟩) (by have := hb2.size; simp; omega)).trans Q0
        have HB2 := hi_ hB2
        have Hb2 := hi_ hb2
        have HF := hi_ hf
        have HSN' := hi_ hsn'
        clear hB2 hb2 hf hsn' hA' hk'
        by_cases hmj' : m = j
        · subst hmj'
          go_wp2
          go_roundg g
          case measure => omega
          case rel => exact ⟨m + 1, by omega, by go_num, HSN.out.2 ⟨HA.out, HF.out⟩, HB2.out.alloc HB2.out.size _⟩
        · have hne : ((m : Int) == (j : Int)) = false := by simp; omega
          by_cases hss : s' = s
          · subst hss
            go_wp2
            go_ret
            exact ⟨ret_bool (decide_eq_false fun hN => (by
              have h1 := (HSN.out.1 (apart_take hN _)).2
              have h2 : First ks s' (m + 1) := fun k hk => h1 k ((List.take_subset_take_left ks (show m + 1 <= j by omega)) hk)
              exact (HSN'.out.1 h2).2 rfl)).symm, HB2.out.alloc HB2.out.size _⟩
          · have hbe : (s'.toList == s.toList) = false := by rw [toList_inj]; exact decide_eq_false hss
            cases gk with
            | zero => omega
            | succ g2 =>
              have HSS := hi_ hss
              clear hss
              go_wp2
              go_roundg g2
              case measure => omega
              case rel => exact ⟨m + 1, by omega, by omega, by go_num, HSN'.out.2 ⟨HF.out, HSS.out⟩, Hb2.out.alloc Hb2.out.size _⟩
end Go.Proofs.YthabmlbmlncbmaaGreat
namespace Go.Proofs.YthabmlbmlncbmaaGreat
open Go.RowKit
set_option linter.unusedVariables false
abbrev cv (lg pg en gn : Int) (A : Option Addr) (n cap : Nat) : Value := .agg #[.int .i64 lg, .int .i64 pg, .int .i64 en, .int .i64 gn, .slice A n cap]
abbrev cc (lg pg en gn : Int) (A : Option Addr) (n cap : Nat) : Array Value := #[.int .i64 lg, .int .i64 pg, .int .i64 en, .int .i64 gn, .slice A n cap]
structure CAt (w0 w : World) (g : Nat) (lg pg en gn : Int) (A : Option Addr) (n cap : Nat) (ks : List Kd) : Prop where
  bel : Below w0.heap.size w0 w
  ge : w0.heap.size <= g
  lt : g < w.heap.size
  c0 : w.cell? ⟨g, 0, none⟩ = some (.int .i64 lg)
  c1 : w.cell? ⟨g, 1, none⟩ = some (.int .i64 pg)
  c2 : w.cell? ⟨g, 2, none⟩ = some (.int .i64 en)
  c3 : w.cell? ⟨g, 3, none⟩ = some (.int .i64 gn)
  c4 : w.cell? ⟨g, 4, none⟩ = some (.slice A n cap)
  rd : KRd w A n ks
theorem CAt.new {w : World} {A : Option Addr} {n : Nat} {ks : List Kd} (h : KRd w A n ks) (lg pg en gn : Int) (cap : Nat) :
    CAt w (w.alloc (.cells (cc lg pg en gn A n cap) 24)) w.heap.size lg pg en gn A n cap ks where
  bel := (Below.refl _ _).alloc (Nat.le_refl _) _
  ge := Nat.le_refl _
  lt := by simp
  c0 := by simp
  c1 := by simp
  c2 := by simp
  c3 := by simp
  c4 := by simp
  rd := h.alloc _
theorem CAt.next {w0 w w' : World} {g : Nat} {lg pg en gn : Int} {A : Option Addr} {n cap : Nat} {ks : List Kd} (h : CAt w0 w g lg pg en gn A n cap ks) (hb : Below w.heap.size w w') : CAt w0 w' g lg pg en gn A n cap ks where
  bel := h.bel.trans (hb.mono h.bel.size)
  ge := h.ge
  lt := Nat.lt_of_lt_of_le h.lt hb.size
  c0 := (hb.cell (p := ⟨g, 0, none⟩) h.lt).trans h.c0
  c1 := (hb.cell (p := ⟨g, 1, none⟩) h.lt).trans h.c1
  c2 := (hb.cell (p := ⟨g, 2, none⟩) h.lt).trans h.c2
  c3 := (hb.cell (p := ⟨g, 3, none⟩) h.lt).trans h.c3
  c4 := (hb.cell (p := ⟨g, 4, none⟩) h.lt).trans h.c4
  rd := h.rd.below hb
end Go.Proofs.YthabmlbmlncbmaaGreat
namespace Go.Proofs.YthabmlbmlncbmaaGreat
open Go.RowKit
set_option linter.unusedVariables false
section
variable (lg pg en gn : Int) (A : Option Addr) (n cap : Nat) (ks : List Kd) (w : World)
theorem Check_0 (h : KRd w A n ks) (hn : n <= 1000000) (hs : Lens ks) (d0 : decide (2 <= lg /\ lg <= 1024) = false) :
    Calls Tryz.prog 59 #[cv lg pg en gn A n cap] w fun e w' => e = .returned (.int .i64 1) /\ Below w.heap.size w w' := by
  obtain ⟨w1, hw1⟩ : ∃ w1, w1 = w.alloc (.cells (cc lg pg en gn A n cap) 24) := ⟨_, rfl⟩
  have C1 := CAt.new h lg pg en gn cap
  rw [<- hw1] at C1
  obtain ⟨g, hg⟩ : ∃ g, g = w.heap.size := ⟨_, rfl⟩
  rw [<- hg] at C1
  have HG := hi_ hg
  clear h hg
  have c0 := C1.c0
  have c1 := C1.c1
  have c2 := C1.c2
  have c3 := C1.c3
  have c4 := C1.c4
  have K1 := hi_ C1
  clear C1
  go_enter Tryz.func59, Tryz.ntmps59
  go_wp2_with (first
    | (rw [<- hw1, <- HG.out]; clear hw1)
    | (go_at_call 69; refine (within_any _ _ _ _).mono ?_; rintro e w' ⟨rfl, rfl⟩; (first | rw [d0])))
  go_ret
  exact ⟨rfl, K1.out.bel⟩
theorem Check_1 (h : KRd w A n ks) (hn : n <= 1000000) (hs : Lens ks) (d0 : decide (2 <= lg /\ lg <= 1024) = true) (d1 : decide (4 <= pg /\ pg <= 1024) = false) :
    Calls Tryz.prog 59 #[cv lg pg en gn A n cap] w fun e w' => e = .returned (.int .i64 1) /\ Below w.heap.size w w' := by
  obtain ⟨w1, hw1⟩ : ∃ w1, w1 = w.alloc (.cells (cc lg pg en gn A n cap) 24) := ⟨_, rfl⟩
  have C1 := CAt.new h lg pg en gn cap
  rw [<- hw1] at C1
  obtain ⟨g, hg⟩ : ∃ g, g = w.heap.size := ⟨_, rfl⟩
  rw [<- hg] at C1
  have HG := hi_ hg
  clear h hg
  have c0 := C1.c0
  have c1 := C1.c1
  have c2 := C1.c2
  have c3 := C1.c3
  have c4 := C1.c4
  have K1 := hi_ C1
  clear C1
  go_enter Tryz.func59, Tryz.ntmps59
  go_wp2_with (first
    | (rw [<- hw1, <- HG.out]; clear hw1)
    | (go_at_call 69; refine (within_any _ _ _ _).mono ?_; rintro e w' ⟨rfl, rfl⟩; (first | rw [d0] | rw [d1])))
  go_ret
  exact ⟨rfl, K1.out.bel⟩
theorem Check_2 (h : KRd w A n ks) (hn : n <= 1000000) (hs : Lens ks) (d0 : decide (2 <= lg /\ lg <= 1024) = true) (d1 : decide (4 <= pg /\ pg <= 1024) = true) (d2 : decide (1 <= en /\ en <= 1024) = false) :
    Calls Tryz.prog 59 #[cv lg pg en gn A n cap] w fun e w' => e = .returned (.int .i64 1) /\ Below w.heap.size w w' := by
  obtain ⟨w1, hw1⟩ : ∃ w1, w1 = w.alloc (.cells (cc lg pg en gn A n cap) 24) := ⟨_, rfl⟩
  have C1 := CAt.new h lg pg en gn cap
  rw [<- hw1] at C1
  obtain ⟨g, hg⟩ : ∃ g, g = w.heap.size := ⟨_, rfl⟩
  rw [<- hg] at C1
  have HG := hi_ hg
  clear h hg
  have c0 := C1.c0
  have c1 := C1.c1
  have c2 := C1.c2
  have c3 := C1.c3
  have c4 := C1.c4
  have K1 := hi_ C1
  clear C1
  go_enter Tryz.func59, Tryz.ntmps59
  go_wp2_with (first
    | (rw [<- hw1, <- HG.out]; clear hw1)
    | (go_at_call 69; refine (within_any _ _ _ _).mono ?_; rintro e w' ⟨rfl, rfl⟩; (first | rw [d0] | rw [d1] | rw [d2])))
  go_ret
  exact ⟨rfl, K1.out.bel⟩
theorem Check_3 (h : KRd w A n ks) (hn : n <= 1000000) (hs : Lens ks) (d0 : decide (2 <= lg /\ lg <= 1024) = true) (d1 : decide (4 <= pg /\ pg <= 1024) = true) (d2 : decide (1 <= en /\ en <= 1024) = true) (d3 : decide (1 <= gn /\ gn <= 1073741824) = false) :
    Calls Tryz.prog 59 #[cv lg pg en gn A n cap] w fun e w' => e = .returned (.int .i64 1) /\ Below w.heap.size w w' := by
  obtain ⟨w1, hw1⟩ : ∃ w1, w1 = w.alloc (.cells (cc lg pg en gn A n cap) 24) := ⟨_, rfl⟩
  have C1 := CAt.new h lg pg en gn cap
  rw [<- hw1] at C1
  obtain ⟨g, hg⟩ : ∃ g, g = w.heap.size := ⟨_, rfl⟩
  rw [<- hg] at C1
  have HG := hi_ hg
  clear h hg
  have c0 := C1.c0
  have c1 := C1.c1
  have c2 := C1.c2
  have c3 := C1.c3
  have c4 := C1.c4
  have K1 := hi_ C1
  clear C1
  go_enter Tryz.func59, Tryz.ntmps59
  go_wp2_with (first
    | (rw [<- hw1, <- HG.out]; clear hw1)
    | (go_at_call 69; refine (within_any _ _ _ _).mono ?_; rintro e w' ⟨rfl, rfl⟩; (first | rw [d0] | rw [d1] | rw [d2] | rw [d3])))
  go_ret
  exact ⟨rfl, K1.out.bel⟩
theorem Check_4 (h : KRd w A n ks) (hn : n <= 1000000) (hs : Lens ks) (d0 : decide (2 <= lg /\ lg <= 1024) = true) (d1 : decide (4 <= pg /\ pg <= 1024) = true) (d2 : decide (1 <= en /\ en <= 1024) = true) (d3 : decide (1 <= gn /\ gn <= 1073741824) = true) (d4 : ¬ n <= 32) :
    Calls Tryz.prog 59 #[cv lg pg en gn A n cap] w fun e w' => e = .returned (.int .i64 1) /\ Below w.heap.size w w' := by
  obtain ⟨w1, hw1⟩ : ∃ w1, w1 = w.alloc (.cells (cc lg pg en gn A n cap) 24) := ⟨_, rfl⟩
  have C1 := CAt.new h lg pg en gn cap
  rw [<- hw1] at C1
  obtain ⟨g, hg⟩ : ∃ g, g = w.heap.size := ⟨_, rfl⟩
  rw [<- hg] at C1
  have HG := hi_ hg
  clear h hg
  have c0 := C1.c0
  have c1 := C1.c1
  have c2 := C1.c2
  have c3 := C1.c3
  have c4 := C1.c4
  have K1 := hi_ C1
  clear C1
  have d4' : ¬ (n : Int) <= 32 := by omega
  have d4'' : decide ((n : Int) <= 32) = false := decide_eq_false d4'
  go_enter Tryz.func59, Tryz.ntmps59
  go_wp2_with (first
    | (rw [<- hw1, <- HG.out]; clear hw1)
    | (go_at_call 69; refine (within_any _ _ _ _).mono ?_; rintro e w' ⟨rfl, rfl⟩; (first | rw [d0] | rw [d1] | rw [d2] | rw [d3])))
  go_ret
  exact ⟨rfl, K1.out.bel⟩
theorem Check_5 (h : KRd w A n ks) (hn : n <= 1000000) (hs : Lens ks) (d0 : decide (2 <= lg /\ lg <= 1024) = true) (d1 : decide (4 <= pg /\ pg <= 1024) = true) (d2 : decide (1 <= en /\ en <= 1024) = true) (d3 : decide (1 <= gn /\ gn <= 1073741824) = true) (d4 : n <= 32) (d5 : decide (Named ks) = false) :
    Calls Tryz.prog 59 #[cv lg pg en gn A n cap] w fun e w' => e = .returned (.int .i64 1) /\ Below w.heap.size w w' := by
  obtain ⟨w1, hw1⟩ : ∃ w1, w1 = w.alloc (.cells (cc lg pg en gn A n cap) 24) := ⟨_, rfl⟩
  have C1 := CAt.new h lg pg en gn cap
  rw [<- hw1] at C1
  obtain ⟨g, hg⟩ : ∃ g, g = w.heap.size := ⟨_, rfl⟩
  rw [<- hg] at C1
  have HG := hi_ hg
  clear h hg
  have c0 := C1.c0
  have c1 := C1.c1
  have c2 := C1.c2
  have c3 := C1.c3
  have c4 := C1.c4
  have K1 := hi_ C1
  clear C1
  have d4' : (n : Int) <= 32 := by omega
  go_enter Tryz.func59, Tryz.ntmps59
  go_wp2_with (first
    | (rw [<- hw1, <- HG.out]; clear hw1)
    | (go_at_call 69; refine (within_any _ _ _ _).mono ?_; rintro e w' ⟨rfl, rfl⟩; (first | rw [d0] | rw [d1] | rw [d2] | rw [d3])))
  refine (named_any A n cap ks _ K1.out.rd hn hs).mono ?_
  rintro e w2 ⟨rfl, hb2⟩
  rw [d5]
  have C2 := K1.out.next hb2
  clear c0 c1 c2 c3 c4 hb2
  have c0 := C2.c0
  have c1 := C2.c1
  have c2 := C2.c2
  have c3 := C2.c3
  have c4 := C2.c4
  have K2 := hi_ C2
  clear C2
  go_wp2_with (fail)
  go_ret
  exact ⟨rfl, K2.out.bel⟩
theorem Check_6 (h : KRd w A n ks) (hn : n <= 1000000) (hs : Lens ks) (d0 : decide (2 <= lg /\ lg <= 1024) = true) (d1 : decide (4 <= pg /\ pg <= 1024) = true) (d2 : decide (1 <= en /\ en <= 1024) = true) (d3 : decide (1 <= gn /\ gn <= 1073741824) = true) (d4 : n <= 32) (d5 : decide (Named ks) = true) (d6 : decide (Apart ks) = false) :
    Calls Tryz.prog 59 #[cv lg pg en gn A n cap] w fun e w' => e = .returned (.int .i64 1) /\ Below w.heap.size w w' := by
  obtain ⟨w1, hw1⟩ : ∃ w1, w1 = w.alloc (.cells (cc lg pg en gn A n cap) 24) := ⟨_, rfl⟩
  have C1 := CAt.new h lg pg en gn cap
  rw [<- hw1] at C1
  obtain ⟨g, hg⟩ : ∃ g, g = w.heap.size := ⟨_, rfl⟩
  rw [<- hg] at C1
  have HG := hi_ hg
  clear h hg
  have c0 := C1.c0
  have c1 := C1.c1
  have c2 := C1.c2
  have c3 := C1.c3
  have c4 := C1.c4
  have K1 := hi_ C1
  clear C1
  have d4' : (n : Int) <= 32 := by omega
  go_enter Tryz.func59, Tryz.ntmps59
  go_wp2_with (first
    | (rw [<- hw1, <- HG.out]; clear hw1)
    | (go_at_call 69; refine (within_any _ _ _ _).mono ?_; rintro e w' ⟨rfl, rfl⟩; (first | rw [d0] | rw [d1] | rw [d2] | rw [d3])))
  refine (named_any A n cap ks _ K1.out.rd hn hs).mono ?_
  rintro e w2 ⟨rfl, hb2⟩
  rw [d5]
  have C2 := K1.out.next hb2
  clear c0 c1 c2 c3 c4 hb2
  have c0 := C2.c0
  have c1 := C2.c1
  have c2 := C2.c2
  have c3 := C2.c3
  have c4 := C2.c4
  have K2 := hi_ C2
  clear C2
  go_wp2_with (fail)
  refine (apart_any A n cap ks _ K2.out.rd hn).mono ?_
  rintro e w3 ⟨rfl, hb3⟩
  rw [d6]
  have C3 := K2.out.next hb3
  clear c0 c1 c2 c3 c4 hb3
  have c0 := C3.c0
  have c1 := C3.c1
  have c2 := C3.c2
  have c3 := C3.c3
  have c4 := C3.c4
  have K3 := hi_ C3
  clear C3
  go_wp2_with (fail)
  go_ret
  exact ⟨rfl, K3.out.bel⟩
theorem Check_7 (h : KRd w A n ks) (hn : n <= 1000000) (hs : Lens ks) (d0 : decide (2 <= lg /\ lg <= 1024) = true) (d1 : decide (4 <= pg /\ pg <= 1024) = true) (d2 : decide (1 <= en /\ en <= 1024) = true) (d3 : decide (1 <= gn /\ gn <= 1073741824) = true) (d4 : n <= 32) (d5 : decide (Named ks) = true) (d6 : decide (Apart ks) = true) (d7 : decide (Sized ks) = false) :
    Calls Tryz.prog 59 #[cv lg pg en gn A n cap] w fun e w' => e = .returned (.int .i64 1) /\ Below w.heap.size w w' := by
  obtain ⟨w1, hw1⟩ : ∃ w1, w1 = w.alloc (.cells (cc lg pg en gn A n cap) 24) := ⟨_, rfl⟩
  have C1 := CAt.new h lg pg en gn cap
  rw [<- hw1] at C1
  obtain ⟨g, hg⟩ : ∃ g, g = w.heap.size := ⟨_, rfl⟩
  rw [<- hg] at C1
  have HG := hi_ hg
  clear h hg
  have c0 := C1.c0
  have c1 := C1.c1
  have c2 := C1.c2
  have c3 := C1.c3
  have c4 := C1.c4
  have K1 := hi_ C1
  clear C1
  have d4' : (n : Int) <= 32 := by omega
  go_enter Tryz.func59, Tryz.ntmps59
  go_wp2_with (first
    | (rw [<- hw1, <- HG.out]; clear hw1)
    | (go_at_call 69; refine (within_any _ _ _ _).mono ?_; rintro e w' ⟨rfl, rfl⟩; (first | rw [d0] | rw [d1] | rw [d2] | rw [d3])))
  refine (named_any A n cap ks _ K1.out.rd hn hs).mono ?_
  rintro e w2 ⟨rfl, hb2⟩
  rw [d5]
  have C2 := K1.out.next hb2
  clear c0 c1 c2 c3 c4 hb2
  have c0 := C2.c0
  have c1 := C2.c1
  have c2 := C2.c2
  have c3 := C2.c3
  have c4 := C2.c4
  have K2 := hi_ C2
  clear C2
  go_wp2_with (fail)
  refine (apart_any A n cap ks _ K2.out.rd hn).mono ?_
  rintro e w3 ⟨rfl, hb3⟩
  rw [d6]
  have C3 := K2.out.next hb3
  clear c0 c1 c2 c3 c4 hb3
  have c0 := C3.c0
  have c1 := C3.c1
  have c2 := C3.c2
  have c3 := C3.c3
  have c4 := C3.c4
  have K3 := hi_ C3
  clear C3
  go_wp2_with (fail)
  refine (sized_any A n cap ks _ K3.out.rd hn).mono ?_
  rintro e w4 ⟨rfl, hb4⟩
  rw [d7]
  have C4 := K3.out.next hb4
  clear c0 c1 c2 c3 c4 hb4
  have c0 := C4.c0
  have c1 := C4.c1
  have c2 := C4.c2
  have c3 := C4.c3
  have c4 := C4.c4
  have K4 := hi_ C4
  clear C4
  go_wp2_with (fail)
  go_ret
  exact ⟨rfl, K4.out.bel⟩
theorem Check_8 (h : KRd w A n ks) (hn : n <= 1000000) (hs : Lens ks) (d0 : decide (2 <= lg /\ lg <= 1024) = true) (d1 : decide (4 <= pg /\ pg <= 1024) = true) (d2 : decide (1 <= en /\ en <= 1024) = true) (d3 : decide (1 <= gn /\ gn <= 1073741824) = true) (d4 : n <= 32) (d5 : decide (Named ks) = true) (d6 : decide (Apart ks) = true) (d7 : decide (Sized ks) = true) :
    Calls Tryz.prog 59 #[cv lg pg en gn A n cap] w fun e w' => e = .returned (.int .i64 0) /\ Below w.heap.size w w' := by
  obtain ⟨w1, hw1⟩ : ∃ w1, w1 = w.alloc (.cells (cc lg pg en gn A n cap) 24) := ⟨_, rfl⟩
  have C1 := CAt.new h lg pg en gn cap
  rw [<- hw1] at C1
  obtain ⟨g, hg⟩ : ∃ g, g = w.heap.size := ⟨_, rfl⟩
  rw [<- hg] at C1
  have HG := hi_ hg
  clear h hg
  have c0 := C1.c0
  have c1 := C1.c1
  have c2 := C1.c2
  have c3 := C1.c3
  have c4 := C1.c4
  have K1 := hi_ C1
  clear C1
  have d4' : (n : Int) <= 32 := by omega
  go_enter Tryz.func59, Tryz.ntmps59
  go_wp2_with (first
    | (rw [<- hw1, <- HG.out]; clear hw1)
    | (go_at_call 69; refine (within_any _ _ _ _).mono ?_; rintro e w' ⟨rfl, rfl⟩; (first | rw [d0] | rw [d1] | rw [d2] | rw [d3])))
  refine (named_any A n cap ks _ K1.out.rd hn hs).mono ?_
  rintro e w2 ⟨rfl, hb2⟩
  rw [d5]
  have C2 := K1.out.next hb2
  clear c0 c1 c2 c3 c4 hb2
  have c0 := C2.c0
  have c1 := C2.c1
  have c2 := C2.c2
  have c3 := C2.c3
  have c4 := C2.c4
  have K2 := hi_ C2
  clear C2
  go_wp2_with (fail)
  refine (apart_any A n cap ks _ K2.out.rd hn).mono ?_
  rintro e w3 ⟨rfl, hb3⟩
  rw [d6]
  have C3 := K2.out.next hb3
  clear c0 c1 c2 c3 c4 hb3
  have c0 := C3.c0
  have c1 := C3.c1
  have c2 := C3.c2
  have c3 := C3.c3
  have c4 := C3.c4
  have K3 := hi_ C3
  clear C3
  go_wp2_with (fail)
  refine (sized_any A n cap ks _ K3.out.rd hn).mono ?_
  rintro e w4 ⟨rfl, hb4⟩
  rw [d7]
  have C4 := K3.out.next hb4
  clear c0 c1 c2 c3 c4 hb4
  have c0 := C4.c0
  have c1 := C4.c1
  have c2 := C4.c2
  have c3 := C4.c3
  have c4 := C4.c4
  have K4 := hi_ C4
  clear C4
  go_wp2_with (fail)
  go_ret
  exact ⟨rfl, K4.out.bel⟩
theorem Check_any (h : KRd w A n ks) (hn : n <= 1000000) (hs : Lens ks) :
    Calls Tryz.prog 59 #[cv lg pg en gn A n cap] w fun e w' => e = .returned (.int .i64 (if (Cf.mk lg pg en gn ks).Right then 0 else 1)) /\ Below w.heap.size w w' := by
  have hl := h.1
  have no : ∀ {P : Prop}, (¬ (Cf.mk lg pg en gn ks).Right) -> Calls Tryz.prog 59 #[cv lg pg en gn A n cap] w (fun e w' => e = .returned (.int .i64 1) /\ Below w.heap.size w w') -> Calls Tryz.prog 59 #[cv lg pg en gn A n cap] w fun e w' => e = .returned (.int .i64 (if (Cf.mk lg pg en gn ks).Right then 0 else 1)) /\ Below w.heap.size w w' :=
    fun hn hc => by rw [if_neg hn]; exact hc
  by_cases h0 : 2 <= lg /\ lg <= 1024
  rotate_left 1
  · exact no (P := True) (fun R => h0 R.1.1) (Check_0 lg pg en gn A n cap ks w h hn hs  (decide_eq_false h0))
  by_cases h1 : 4 <= pg /\ pg <= 1024
  rotate_left 1
  · exact no (P := True) (fun R => h1 R.1.2.1) (Check_1 lg pg en gn A n cap ks w h hn hs (decide_eq_true h0) (decide_eq_false h1))
  by_cases h2 : 1 <= en /\ en <= 1024
  rotate_left 1
  · exact no (P := True) (fun R => h2 R.1.2.2.1) (Check_2 lg pg en gn A n cap ks w h hn hs (decide_eq_true h0) (decide_eq_true h1) (decide_eq_false h2))
  by_cases h3 : 1 <= gn /\ gn <= 1073741824
  rotate_left 1
  · exact no (P := True) (fun R => h3 R.1.2.2.2.1) (Check_3 lg pg en gn A n cap ks w h hn hs (decide_eq_true h0) (decide_eq_true h1) (decide_eq_true h2) (decide_eq_false h3))
  by_cases h4 : n <= 32
  rotate_left 1
  · exact no (P := True) (fun R => h4 (by have : ks.length <= 32 := R.1.2.2.2.2; omega)) (Check_4 lg pg en gn A n cap ks w h hn hs (decide_eq_true h0) (decide_eq_true h1) (decide_eq_true h2) (decide_eq_true h3) h4)
  by_cases h5 : Named ks
  rotate_left 1
  · exact no (P := True) (fun R => h5 R.2.1) (Check_5 lg pg en gn A n cap ks w h hn hs (decide_eq_true h0) (decide_eq_true h1) (decide_eq_true h2) (decide_eq_true h3) h4 (decide_eq_false h5))
  by_cases h6 : Apart ks
  rotate_left 1
  · exact no (P := True) (fun R => h6 R.2.2.1) (Check_6 lg pg en gn A n cap ks w h hn hs (decide_eq_true h0) (decide_eq_true h1) (decide_eq_true h2) (decide_eq_true h3) h4 (decide_eq_true h5) (decide_eq_false h6))
  by_cases h7 : Sized ks
  rotate_left 1
  · exact no (P := True) (fun R => h7 R.2.2.2) (Check_7 lg pg en gn A n cap ks w h hn hs (decide_eq_true h0) (decide_eq_true h1) (decide_eq_true h2) (decide_eq_true h3) h4 (decide_eq_true h5) (decide_eq_true h6) (decide_eq_false h7))
  rw [if_pos ⟨⟨h0, h1, h2, h3, by show ks.length <= 32; omega⟩, h5, h6, h7⟩]
  exact Check_8 lg pg en gn A n cap ks w h hn hs (decide_eq_true h0) (decide_eq_true h1) (decide_eq_true h2) (decide_eq_true h3) h4 (decide_eq_true h5) (decide_eq_true h6) (decide_eq_true h7)
end
end Go.Proofs.YthabmlbmlncbmaaGreat
namespace Go.Proofs.YthabmlbmlncbmaaGreat
open Go.RowKit
set_option linter.unusedVariables false
section
variable (lg pg en gn : Int) (A : Option Addr) (n cap : Nat) (ks : List Kd) (w : World)
end
end Go.Proofs.YthabmlbmlncbmaaGreat
namespace Go.Proofs.YthabmlbmlncbmaaGreat
open Go.RowKit
set_option linter.unusedVariables false
end Go.Proofs.YthabmlbmlncbmaaGreat
namespace Go.Proofs.YthabmlbmlncbmaaGreat
open Go.RowKit
set_option linter.unusedVariables false
section
variable (lg pg en gn : Int) (A : Option Addr) (n cap : Nat) (ks : List Kd) (w : World)
end
end Go.Proofs.YthabmlbmlncbmaaGreat
namespace Go.Proofs.YthabmlbmlncbmaaGreat
open Go.RowKit
set_option linter.unusedVariables false
section
variable (lg pg en gn : Int) (A : Option Addr) (n cap : Nat) (ks : List Kd) (w : World)
end
end Go.Proofs.YthabmlbmlncbmaaGreat
namespace Go.Proofs.YthabmlbmlncbmaaGreat
open Go.RowKit
set_option linter.unusedVariables false
section
variable (lg pg en gn : Int) (A : Option Addr) (n cap : Nat) (ks : List Kd) (w : World)
theorem any_snoc {ks : List Kd} {j : Nat} (h : j < ks.length) : (ks.take (j + 1)).any (fun k => decide (100 < k.1.size)) = ((ks.take j).any (fun k => decide (100 < k.1.size)) || decide (100 < ks[j].1.size)) := by
  rw [take_snoc h, List.any_append]
  simp
theorem any_of_take {ks : List Kd} {j : Nat} (hj : j <= 50) (h : (ks.take j).any (fun k => decide (100 < k.1.size)) = true) : muchK ks = true := by
  rw [List.any_eq_true] at h
  obtain ⟨x, hx, hp⟩ := h
  unfold muchK
  rw [Bool.or_eq_true]
  exact .inl (List.any_eq_true.2 ⟨x, List.take_subset_take_left ks hj hx, hp⟩)
theorem Much_any (h : KRd w A n ks) (hn : n <= 9223372036854775807) (hs : Lens ks) :
    Calls Tryz.prog 4 #[cv lg pg en gn A n cap] w fun e w' => e = .returned (.bool (muchK ks)) /\ Below w.heap.size w w' := by
  obtain ⟨w1, hw1⟩ : ∃ w1, w1 = w.alloc (.cells (cc lg pg en gn A n cap) 24) := ⟨_, rfl⟩
  have C1 := CAt.new h lg pg en gn cap
  rw [<- hw1] at C1
  obtain ⟨g, hg⟩ : ∃ g, g = w.heap.size := ⟨_, rfl⟩
  rw [<- hg] at C1
  have c4 := C1.c4
  have hl := h.1
  have K1 := hi_ C1
  have HG := hi_ hg
  have HS := hi_ hs
  clear h hg C1 hs
  go_enter Tryz.func4, Tryz.ntmps4
  go_wp2_with (rw [<- hw1, <- HG.out]; clear hw1)
  go_loop [3] (fun i => ∃ j : Nat, j <= n /\ j <= 50 /\ i = .int .i64 j /\ (ks.take j).any (fun k => decide (100 < k.1.size)) = false) (fun i => n - (intOf i).toNat)
  case atStart => exact ⟨0, Nat.zero_le _, Nat.zero_le _, rfl, rfl⟩
  case round =>
    obtain ⟨j, hj, hj5, rfl, hf⟩ := hrel
    by_cases hlt : j < n
    · by_cases hlt5 : j < 50
      · obtain ⟨b, o, s', z, rfl, _, k0, k1, hl', hk⟩ := K1.out.rd.at_ hlt
        have hsn := any_snoc hl'
        rw [hk, hf, Bool.false_or] at hsn
        have hsz := HS.out.at_ hl' hk
        by_cases h1 : 100 < s'.size
        · rw [decide_eq_true h1] at hsn
          have HM := hi_ (any_of_take (by omega) hsn)
          clear hsn hk hf
          go_wp2
          go_ret
          rw [HM.out]
          exact ⟨rfl, K1.out.bel⟩
        · have HSN := hi_ (hsn.trans (decide_eq_false h1))
          clear hsn hk hf
          go_wp2
          go_round
          case rel => exact ⟨j + 1, hlt, hlt5, by go_num, HSN.out⟩
          case measure => simp [intOf]; omega
      · obtain rfl : j = 50 := by omega
        have e1 : muchK ks = true := by unfold muchK; rw [Bool.or_eq_true]; exact .inr (decide_eq_true (by omega))
        have E1 := hi_ e1
        clear hf e1
        go_wp2
        go_ret
        rw [E1.out]
        exact ⟨ret_bool (a := decide ((40 : Int) < (n : Int))) (decide_eq_true (by omega)), K1.out.bel⟩
    · have e1 : muchK ks = decide (40 < n) := by
        unfold muchK
        rw [show ks.take 50 = ks.take j by rw [List.take_of_length_le (by omega), List.take_of_length_le (by omega)], hf, Bool.false_or, hl]
      have E1 := hi_ e1
      clear hf e1
      go_wp2
      go_ret
      rw [E1.out]
      exact ⟨ret_bool (a := decide ((40 : Int) < (n : Int))) (by rw [Bool.eq_iff_iff]; simp <;> omega), K1.out.bel⟩
end
end Go.Proofs.YthabmlbmlncbmaaGreat
namespace Go.Proofs.YthabmlbmlncbmaaGreat
open Go.RowKit
set_option linter.unusedVariables false
section
variable (lg pg en gn : Int) (A : Option Addr) (n cap : Nat) (ks : List Kd) (w : World)
theorem RFind_any (h : KRd w A n ks) (hn : n <= 1000000) (s : ByteArray) :
    Calls Tryz.prog 21 #[cv lg pg en gn A n cap, .string s] w fun e w' => e = .returned (.tuple #[.int .i64 (findK ks s).1, .bool (findK ks s).2]) /\ Below w.heap.size w w' := by
  obtain ⟨w1, hw1⟩ : ∃ w1, w1 = w.alloc (.cells (cc lg pg en gn A n cap) 24) := ⟨_, rfl⟩
  have C1 := CAt.new h lg pg en gn cap
  rw [<- hw1] at C1
  obtain ⟨g, hg⟩ : ∃ g, g = w.heap.size := ⟨_, rfl⟩
  rw [<- hg] at C1
  have c4 := C1.c4
  have hl := h.1
  have K1 := hi_ C1
  have HG := hi_ hg
  clear h hg C1
  go_enter Tryz.func21, Tryz.ntmps21
  go_wp2_with (rw [<- hw1, <- HG.out]; clear hw1)
  go_loop [6] (fun i => ∃ j : Nat, j <= n /\ i = .int .i64 j /\ First ks s j) (fun i => n - (intOf i).toNat)
  case atStart => exact ⟨0, Nat.zero_le _, rfl, First.zero _ _⟩
  case round =>
    obtain ⟨j, hj, rfl, hf⟩ := hrel
    by_cases hlt : j < n
    · obtain ⟨b, o, s', z, rfl, _, k0, k1, hl', hk⟩ := K1.out.rd.at_ hlt
      have hsn := First.succ (s := s) hl'
      rw [hk] at hsn
      by_cases hss : s' = s
      · subst hss
        have hfy := findK_yes ks s' j hl' hf (by rw [hk])
        have HFY := hi_ hfy
        clear hsn hk hf hfy
        go_wp2
        go_ret2
        rw [HFY.out]
        exact ⟨rfl, K1.out.bel⟩
      · have hbe : (s'.toList == s.toList) = false := by rw [toList_inj]; exact decide_eq_false hss
        have HF := hi_ (hsn.2 ⟨hf, hss⟩)
        clear hsn hk hf hss
        go_wp2
        go_round
        case rel => exact ⟨j + 1, hlt, by go_num, HF.out⟩
        case measure => simp [intOf]; omega
    · have hfn := findK_no ks s (fun k hk => hf k (by rw [List.take_of_length_le (by omega)]; exact hk))
      have HFN := hi_ hfn
      clear hf hfn
      go_wp2
      go_ret2
      rw [HFN.out]
      exact ⟨rfl, K1.out.bel⟩
end
end Go.Proofs.YthabmlbmlncbmaaGreat
namespace Go.Proofs.YthabmlbmlncbmaaGreat
open Go.RowKit
set_option linter.unusedVariables false
set_option maxRecDepth 20000
theorem below_drewNc (w : World) (n : Nat) : Below w.heap.size w (w.drewN n) := by
  induction n with
  | zero => exact Below.refl _ _
  | succ n ih => exact ih.drew
section
variable (lg pg en gn : Int) (A : Option Addr) (n cap : Nat) (ks : List Kd) (w : World)
end
end Go.Proofs.YthabmlbmlncbmaaGreat
