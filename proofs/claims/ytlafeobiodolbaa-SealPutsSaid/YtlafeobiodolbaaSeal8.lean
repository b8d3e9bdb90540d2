/- The contract of the reference's Get. -/
import Derived.Test.YtlafeobiodolbaaSeal7
namespace Go.Proofs.Ytlafeobiodolbaa
open Go.RowKit

theorem RGet_wrong (A : Option Addr) (n c : Nat) (w : World) (hn : n ≠ 512) :
    Calls Try.prog 13 #[.slice A n c] w fun ed w' => ed = .returned (.tuple #[.agg #[.int .i64 0, .int .i64 0, .int .i64 0, .slice none 0 0], .bool false]) ∧ Below w.heap.size w w' := by
  obtain ⟨w1, hw1⟩ : ∃ w1, w1 = w.alloc (.cells #[.int .i64 0, .int .i64 0, .int .i64 0, .slice none 0 0] 24) := ⟨_, rfl⟩
  have hB1 : Below w.heap.size w w1 := by rw [hw1]; exact (Below.refl _ _).alloc (Nat.le_refl _) _
  have hS1 : SealAt w1 w.heap.size 0 0 0 none 0 0 := by rw [hw1]; exact SealAt.new w
  go_enter Try.func13, Try.ntmps13
  go_wp2_with (first
    | (rw [← hw1]; clear hw1)
    | (refine wpList_stseal rfl (.tmp 2) (.tmp 14) rfl rfl rfl hS1 ?_; intro w2 hS2 hB2 _)
    | (refine bodyPost_ret (res_seal_tmp rfl rfl hS2) rfl ?_; exact ⟨rfl, hB1.trans hB2⟩))

section
variable (A : Option Addr) (c : Nat) (l : List UInt8) (w : World) (hr : Rd w A 512 l)
include hr
theorem rgetE : Calls Try.prog 27 #[.slice A 512 c, .int .i64 0, .int .i64 8] w fun e w' => e = .returned (.tuple #[.int .i64 (cE l), .bool true]) ∧ w = w' := RGet8 A 512 c l 0 w hr (by decide) (by decide)
theorem rgetN : Calls Try.prog 27 #[.slice A 512 c, .int .i64 8, .int .i64 8] w fun e w' => e = .returned (.tuple #[.int .i64 (cN l), .bool true]) ∧ w = w' := RGet8 A 512 c l 8 w hr (by decide) (by decide)
theorem rgetL : Calls Try.prog 27 #[.slice A 512 c, .int .i64 22, .int .i64 2] w fun e w' => e = .returned (.tuple #[.int .i64 (cL l), .bool true]) ∧ w = w' := RGet2 A 512 c l 22 w hr (by decide) (by decide)
end

theorem RGet_long (A : Option Addr) (c : Nat) (l : List UInt8) (w : World) (hr : Rd w A 512 l) (hlong : 472 < cL l) :
    Calls Try.prog 13 #[.slice A 512 c] w fun ed w' => ed = .returned (.tuple #[.agg #[.int .i64 0, .int .i64 0, .int .i64 0, .slice none 0 0], .bool false]) ∧ Below w.heap.size w w' := by
  obtain ⟨w1, hw1⟩ : ∃ w1, w1 = w.alloc (.cells #[.int .i64 0, .int .i64 0, .int .i64 0, .slice none 0 0] 24) := ⟨_, rfl⟩
  have hB1 : Below w.heap.size w w1 := by rw [hw1]; exact (Below.refl _ _).alloc (Nat.le_refl _) _
  have hS1 : SealAt w1 w.heap.size 0 0 0 none 0 0 := by rw [hw1]; exact SealAt.new w
  have hr1 := hr.below (Nat.le_refl _) hB1
  clear hr
  go_enter Try.func13, Try.ntmps13
  go_wp2_with (first
    | (rw [← hw1]; clear hw1)
    | (go_at_call_of 27 (Value.int .i64 0); refine (rgetE A c l _ hr1).mono ?_; rintro ed w' ⟨rfl, rfl⟩)
    | (go_at_call_of 27 (Value.int .i64 22); refine (rgetL A c l _ hr1).mono ?_; rintro ed w' ⟨rfl, rfl⟩)
    | (go_at_call 27; refine (rgetN A c l _ hr1).mono ?_; rintro ed w' ⟨rfl, rfl⟩)
    | (refine wpList_stseal rfl (.tmp 2) (.tmp 32) rfl rfl rfl hS1 ?_; intro w2 hS2 hB2 _)
    | (refine bodyPost_ret (res_seal_tmp rfl rfl hS2) rfl ?_; exact ⟨rfl, hB1.trans hB2⟩))

theorem own_ne {w : World} {B g : Nat} {A : Option Addr} {n c b o : Nat} {xs : List Value} {e n' k : Int} {A' : Option Addr} {m' c' : Nat} (h : w.ownsRow B 5 1 (.slice A n c) n xs) (hS : SealAt w g e n' k A' m' c') (hA : A = some ⟨b, o, none⟩) : b ≠ g := by
  rintro rfl
  rcases h.2 with ⟨h1, _⟩ | ⟨g, cap, cur, hv, _, hh, _⟩
  · injection h1 with h1; rw [hA] at h1; cases h1
  · injection hv with h1
    rw [hA] at h1
    injection h1 with h1
    injection h1 with h1
    subst h1
    have := hh.symm.trans hS
    injection this with this
    injection this with _ h2
    exact absurd h2 (by decide)

set_option maxHeartbeats 1600000 in
theorem RGet_right (A : Option Addr) (c : Nat) (l : List UInt8) (w : World) (hr : Rd w A 512 l) (hc : 512 ≤ c) (hs : cL l ≤ 472) :
    Calls Try.prog 13 #[.slice A 512 c] w fun ed w' => ∃ A' m' c', ed = .returned (.tuple #[.agg #[.int .i64 (gE l), .int .i64 (gN l), .int .i64 (gK l), .slice A' m' c'], .bool (decide (okL l))]) ∧ Rd w' A' m' (gB l) ∧ m' ≤ 472 ∧ Below w.heap.size w w' := by
  obtain ⟨w1, hw1⟩ : ∃ w1, w1 = w.alloc (.cells #[.int .i64 0, .int .i64 0, .int .i64 0, .slice none 0 0] 24) := ⟨_, rfl⟩
  have hB1 : Below w.heap.size w w1 := by rw [hw1]; exact (Below.refl _ _).alloc (Nat.le_refl _) _
  have hS1 : SealAt w1 w.heap.size 0 0 0 none 0 0 := by rw [hw1]; exact SealAt.new w
  have hr1 := hr.below (Nat.le_refl _) hB1
  have hl := hr.1
  clear hr
  go_enter Try.func13, Try.ntmps13
  go_wp2_with (first
    | (rw [← hw1]; clear hw1)
    | (go_at_call_of 27 (Value.int .i64 0); refine (rgetE A c l _ hr1).mono ?_; rintro ed w' ⟨rfl, rfl⟩)
    | (go_at_call_of 27 (Value.int .i64 22); refine (rgetL A c l _ hr1).mono ?_; rintro ed w' ⟨rfl, rfl⟩)
    | (go_at_call 27; refine (rgetN A c l _ hr1).mono ?_; rintro ed w' ⟨rfl, rfl⟩))
  obtain ⟨b, o, rfl, hb1, _⟩ := hr1.2 (by decide)
  obtain ⟨L, hL⟩ : ∃ L : Nat, cL l = L := ⟨(cL l).toNat, by have := cL_bd l; omega⟩
  have hbody : cB l = (l.drop 24).take L := by rw [cB_take l hl hs, hL]; rfl
  rw [hL] at hs ⊢
  have hL0 : (0 : Int) ≤ (L : Int) := Int.natCast_nonneg _
  have hL1 : IntKind.i64.wrap (24 + (L : Int)) = 24 + (L : Int) := by rw [wrapEq, IntWalk.wrap64_in _ ⟨by omega, by omega⟩]
  have hL2 : (24 : Int) ≤ 24 + (L : Int) := by omega
  have hL3 : 24 + (L : Int) ≤ (c : Int) := by omega
  have hL4 : (0 : Int) ≤ 24 + (L : Int) := by omega
  have hL5 : (24 + (L : Int)).toNat = 24 + L := by omega
  have hc24 : ¬ c = 24 := by omega
  have hz20 := cK_at l (by omega)
  obtain ⟨z, hz⟩ : ∃ z, z = (l[20]'(by omega)).toNat := ⟨_, rfl⟩
  have kz : w1.cell? ⟨b, o + 20, none⟩ = some (.int .u8 (z : Int)) := by
    obtain ⟨b', o', e, _, hc'⟩ := hr1.at_ (k := 20) (by decide)
    injection e with e
    injection e with e1 e2
    subst e1; subst e2
    rw [hz]; exact hc'
  have hz256 : z < 256 := by rw [hz]; exact (l[20]'(by omega)).toNat_lt
  have hzw : IntKind.i64.wrap (z : Int) = z := by rw [wrapEq]; exact IntWalk.wrap64_in _ ⟨by omega, by omega⟩
  have ne0 : ¬ w1.heap.size = b := by omega
  have ne1 : ¬ w1.heap.size + 1 = b := by omega
  rw [← hz] at hz20
  have HZ := Lib.hid hz20
  have HL := Lib.hid hL
  have HBODY := Lib.hid hbody
  clear hz hz20 hL hbody
  have kzA : ∀ o1, (w1.alloc o1).cell? ⟨b, o + 20, none⟩ = some (.int .u8 (z : Int)) := fun o1 => by rw [World.cell?_alloc_lt _ _ _ hb1]; exact kz
  have kzB : ∀ o1 o2, ((w1.alloc o1).alloc o2).cell? ⟨b, o + 20, none⟩ = some (.int .u8 (z : Int)) := fun o1 o2 => by rw [World.cell?_alloc_lt _ _ _ (by rw [World.size_alloc]; exact Nat.lt_succ_of_lt hb1)]; exact kzA o1
  have hq : Rd w1 (some ⟨b, o + 24, none⟩) L ((l.drop 24).take L) := hr1.part (by omega) _ (fun _ b' o' e => by injection e with e; injection e with e1 e2; subst e1; subst e2; rfl)
  have hoA : (w1.alloc (.cells #[] 5)).ownsRow w1.heap.size 5 1 (.slice (some ⟨w1.heap.size, 0, none⟩) 0 0) 0 [] := own_empty w1 _ _ (Nat.le_refl _)
  have hoA2 := hoA.alloc (.cells #[.int .i64 0, .int .i64 0, .int .i64 0, .slice none 0 0] 24)
  have hoB : ((w1.alloc (.cells #[.int .i64 0, .int .i64 0, .int .i64 0, .slice none 0 0] 24)).alloc (.cells #[] 5)).ownsRow w1.heap.size 5 1 (.slice (some ⟨w1.heap.size + 1, 0, none⟩) 0 0) 0 [] := by
    have := own_empty (w1.alloc (.cells #[.int .i64 0, .int .i64 0, .int .i64 0, .slice none 0 0] 24)) w1.heap.size 5 (by simp)
    rw [World.size_alloc] at this
    exact this
  have gA2 : SealAt ((w1.alloc (.cells #[] 5)).alloc (.cells #[.int .i64 0, .int .i64 0, .int .i64 0, .slice none 0 0] 24)) (w1.heap.size + 1) 0 0 0 none 0 0 := by
    have := SealAt.new (e := 0) (n := 0) (k := 0) (A := none) (m := 0) (c := 0) (w1.alloc (.cells #[] 5))
    rw [World.size_alloc] at this
    exact this
  have sgB : SealAt ((w1.alloc (.cells #[.int .i64 0, .int .i64 0, .int .i64 0, .slice none 0 0] 24)).alloc (.cells #[] 5)) w1.heap.size 0 0 0 none 0 0 := (SealAt.new w1).alloc _
  have s1 := hS1.lt
  have hsame : sectorOf (cE l) (cN l) (z : Int) ((l.drop 24).take L) = sectorOf (cE l) (cN l) (cK l) (cB l) := by rw [HBODY.out, HZ.out]
  have c5m : ∀ c5 : Nat, c5 ≤ maxLen → (c5 : Int) ≤ 9223372036854775807 := fun c5 h => by unfold maxLen at h; omega
  have hdec : decide (sectorOf (cE l) (cN l) (z : Int) ((l.drop 24).take L) = l) = decide (okL l) := by
    rw [hsame]
    by_cases h : okL l
    · rw [decide_eq_true h, decide_eq_true (Eq.symm h)]
    · rw [decide_eq_false h, decide_eq_false (fun e => h (Eq.symm e))]
  by_cases hok : okL l
  · rw [decide_eq_true hok] at hdec
    have csame : ∀ W A7 c7, Rd W A7 512 (sectorOf (cE l) (cN l) (z : Int) ((l.drop 24).take L)) → Rd W (some ⟨b, o, none⟩) 512 l → Calls Try.prog 10 #[.slice A7 512 c7, .slice (some ⟨b, o, none⟩) 512 c] W fun e w' => e = .returned (.bool true) ∧ W = w' := fun W A7 c7 h1 h2 => by
      have := Same_any A7 (some ⟨b, o, none⟩) 512 c7 512 c _ _ W h1 h2
      rw [hdec] at this
      exact this
    have CSAME := Lib.hid csame
    have e0 : gE l = cE l ∧ gN l = cN l ∧ gK l = (z : Int) ∧ gB l = (l.drop 24).take L ∧ decide (okL l) = true := by simp only [gE, gN, gK, gB, if_pos hok, HZ.out, HBODY.out, decide_eq_true hok, and_self]
    have E0 := Lib.hid e0
    clear csame e0 hok hdec hsame
    go_region_held3 (fun w' => w'.cell? ⟨b, o + 20, none⟩ = some (.int .u8 (z : Int))) (first | with_reducible exact kz | with_reducible exact kzA _ | with_reducible exact kzB _ _ | with_reducible exact kz5 | with_reducible exact kz5' _ | (rw [World.cell?_drew]; first | with_reducible exact kz | with_reducible exact kzA _ | with_reducible exact kzB _ _) | go_keep) (first
      | (refine step_app _ bytesT rfl (.tmp 39) (.tmp 43) rfl w1.heap.size _ 0 [] rfl hoA.drew _ L (c - 24) _ rfl (hq.alloc _).drew (by omega) (by simp) ?_; intro v5 w5 ho5 hb5 hg5; rw [List.nil_append, Nat.zero_add] at ho5; obtain ⟨A5, c5, rfl, hc5, hc5m0, hr5⟩ := Rd.of_own ho5 rfl; have kz5 := (hb5.cell (p := ⟨b, o + 20, none⟩) hb1).trans (kzA _); have ne5 : ¬ w5.heap.size = b := World.new_ne w5 _ kz5; have kz5' : ∀ o1, (w5.alloc o1).cell? ⟨b, o + 20, none⟩ = some (.int .u8 (z : Int)) := fun o1 => by rw [World.cell?_alloc_lt _ _ _ (World.block_lt_of_cell? w5 _ kz5)]; exact kz5)
      | (refine step_app _ bytesT rfl (.tmp 39) (.tmp 43) rfl w1.heap.size _ 0 [] rfl hoA2.drew _ L (c - 24) _ rfl ((hq.alloc _).alloc _).drew (by omega) (by simp <;> omega) ?_; intro v5 w5 ho5 hb5 hg5; rw [List.nil_append, Nat.zero_add] at ho5; obtain ⟨A5, c5, rfl, hc5, hc5m0, hr5⟩ := Rd.of_own ho5 rfl; have kz5 := (hb5.cell (p := ⟨b, o + 20, none⟩) hb1).trans (kzB _ _); replace hg5 : World.grownBy _ w5 (some w1.heap.size) := hg5; have hS5 : SealAt w5 (w1.heap.size + 1) 0 0 0 none 0 0 := (hg5.block (w1.heap.size + 1) gA2.lt (by simp)).trans gA2; have k0 := hS5.h0; have k1 := hS5.h1; have k2 := hS5.h2; have k3 := hS5.h3; have f0 := hS5.fz 0; have f1 := hS5.fz 1; have f2 := hS5.fz 2; have f3 := hS5.fz 3)
      | (refine step_app _ bytesT rfl (.tmp 39) (.tmp 43) rfl w1.heap.size _ 0 [] rfl hoB.drew _ L (c - 24) _ rfl ((hq.alloc _).alloc _).drew (by omega) (by simp <;> omega) ?_; intro v5 w5 ho5 hb5 hg5; rw [List.nil_append, Nat.zero_add] at ho5; obtain ⟨A5, c5, rfl, hc5, hc5m0, hr5⟩ := Rd.of_own ho5 rfl; have kz5 := (hb5.cell (p := ⟨b, o + 20, none⟩) hb1).trans (kzB _ _); replace hg5 : World.grownBy _ w5 (some (w1.heap.size + 1)) := hg5; have hS5 : SealAt w5 w1.heap.size 0 0 0 none 0 0 := (hg5.block w1.heap.size sgB.lt (by simp)).trans sgB; have k0 := hS5.h0; have k1 := hS5.h1; have k2 := hS5.h2; have k3 := hS5.h3; have f0 := hS5.fz 0; have f1 := hS5.fz 1; have f2 := hS5.fz 2; have f3 := hS5.fz 3))
    · obtain ⟨w6, hw6⟩ : ∃ w6, w6 = w5.alloc (.cells #[.int .i64 (cE l), .int .i64 (cN l), .int .i64 (z : Int), .slice A5 L c5] 24) := ⟨_, rfl⟩
      have hS6 : SealAt w6 w5.heap.size (cE l) (cN l) (z : Int) A5 L c5 := by rw [hw6]; exact SealAt.new w5
      have hr6 : Rd w6 A5 L ((l.drop 24).take L) := by rw [hw6]; exact hr5.alloc _
      have hB6 : Below w1.heap.size w1 w6 := by rw [hw6]; exact (((((Below.refl _ _).alloc (Nat.le_refl _) _).drew).trans hb5).alloc (by have := hb5.size; simp at this; omega) _)
      rw [← hw6]
      clear hw6 kz5 kz5' ne5 hg5 hb5
      have hc5m := c5m c5 hc5m0
      clear kz kzA kzB hoA hoA2 hoB gA2 sgB hq c5m
      have hz6 := hS1.below hB6 s1
      have hl6 := hr1.below (Nat.le_refl _) hB6
      go_wp2_with (first
        | (refine wpList_ldseal rfl (.tmp 10) rfl rfl hS6 ?_)
        | (go_at_call 11; refine (RPut_any _ _ _ _ _ _ _ w6 hr6 hc5 hc5m).mono ?_; rintro ed w7 ⟨v7, rfl, ho7, hB7⟩; obtain ⟨A7, c7, rfl, _, _, hr7⟩ := Rd.of_own ho7 rfl; have hl7 := hl6.below (Nat.le_refl _) hB7; have hS7 := hS6.below hB7 hS6.lt; have hz7 := hz6.below hB7 hz6.lt; have hb7 := hr6.below (Nat.le_refl _) hB7)
        | (go_at_call 10; refine (CSAME.out _ _ _ hr7 hl7).mono ?_; rintro ed w' ⟨rfl, rfl⟩)
        | (refine wpList_ldseal rfl (.tmp 10) rfl rfl hS7 ?_)
        | (refine wpList_stseal rfl (.tmp 2) (.tmp 52) rfl rfl rfl hz7 ?_; intro w8 hS8 hB8 hE8)
        | (refine bodyPost_ret (res_seal_tmp rfl rfl hS8) rfl ?_; refine ⟨A5, L, c5, ?_, ?_, by omega, ((hB1.trans (hB6.mono (Nat.le_of_lt s1))).trans (hB7.mono (Nat.le_trans (Nat.le_of_lt s1) hB6.size))).trans hB8⟩; · rw [E0.out.1, E0.out.2.1, E0.out.2.2.1, E0.out.2.2.2.2]; rfl
           · rw [E0.out.2.2.2.1]; exact hb7.block hB8.size fun b' o' e => hE8 b' (by have := own_block ho5 e; omega)))
    · obtain ⟨hS6, hB6⟩ := hS5.set4 (e' := cE l) (n' := cN l) (k' := (z : Int)) (A' := A5) (m' := L) (c' := c5)
      have hne5 : ∀ b' o', A5 = some ⟨b', o', none⟩ → b' ≠ (w1.heap.size + 1) := fun b' o' e => own_ne ho5 hS5 e
      have hE6 : ∀ k, k ≠ (w1.heap.size + 1) → ((((w5.setCell ⟨(w1.heap.size + 1), 0, none⟩ (.int .i64 (cE l))).setCell ⟨(w1.heap.size + 1), 1, none⟩ (.int .i64 (cN l))).setCell ⟨(w1.heap.size + 1), 2, none⟩ (.int .i64 (z : Int))).setCell ⟨(w1.heap.size + 1), 3, none⟩ (.slice A5 L c5)).heap[k]? = w5.heap[k]? := fun k hk => set4_else hk
      obtain ⟨w6, hw6⟩ : ∃ w6, w6 = (((w5.setCell ⟨(w1.heap.size + 1), 0, none⟩ (.int .i64 (cE l))).setCell ⟨(w1.heap.size + 1), 1, none⟩ (.int .i64 (cN l))).setCell ⟨(w1.heap.size + 1), 2, none⟩ (.int .i64 (z : Int))).setCell ⟨(w1.heap.size + 1), 3, none⟩ (.slice A5 L c5) := ⟨_, rfl⟩
      rw [← hw6] at hS6 hB6 hE6 ⊢
      have hr6 : Rd w6 A5 L ((l.drop 24).take L) := hr5.block hB6.size fun b' o' e => hE6 b' (hne5 b' o' e)
      replace hB6 : Below w1.heap.size w1 w6 := (((((Below.refl _ _).alloc (Nat.le_refl _) _).alloc (by simp) _).drew).trans hb5).trans (hB6.mono (by omega))
      clear hw6 kz5 k0 k1 k2 k3 f0 f1 f2 f3 hS5 hg5 hb5 hE6 hne5
      have hc5m := c5m c5 hc5m0
      clear kz kzA kzB hoA hoA2 hoB gA2 sgB hq c5m
      have hz6 := hS1.below hB6 s1
      have hl6 := hr1.below (Nat.le_refl _) hB6
      go_wp2_with (first
        | (refine wpList_ldseal rfl (.tmp 10) rfl rfl hS6 ?_)
        | (go_at_call 11; refine (RPut_any _ _ _ _ _ _ _ w6 hr6 hc5 hc5m).mono ?_; rintro ed w7 ⟨v7, rfl, ho7, hB7⟩; obtain ⟨A7, c7, rfl, _, _, hr7⟩ := Rd.of_own ho7 rfl; have hl7 := hl6.below (Nat.le_refl _) hB7; have hS7 := hS6.below hB7 hS6.lt; have hz7 := hz6.below hB7 hz6.lt; have hb7 := hr6.below (Nat.le_refl _) hB7)
        | (go_at_call 10; refine (CSAME.out _ _ _ hr7 hl7).mono ?_; rintro ed w' ⟨rfl, rfl⟩)
        | (refine wpList_ldseal rfl (.tmp 10) rfl rfl hS7 ?_)
        | (refine wpList_stseal rfl (.tmp 2) (.tmp 52) rfl rfl rfl hz7 ?_; intro w8 hS8 hB8 hE8)
        | (refine bodyPost_ret (res_seal_tmp rfl rfl hS8) rfl ?_; refine ⟨A5, L, c5, ?_, ?_, by omega, ((hB1.trans (hB6.mono (Nat.le_of_lt s1))).trans (hB7.mono (Nat.le_trans (Nat.le_of_lt s1) hB6.size))).trans hB8⟩; · rw [E0.out.1, E0.out.2.1, E0.out.2.2.1, E0.out.2.2.2.2]; rfl
           · rw [E0.out.2.2.2.1]; exact hb7.block hB8.size fun b' o' e => hE8 b' (by have := own_block ho5 e; omega)))
    · obtain ⟨hS6, hB6⟩ := hS5.set4 (e' := cE l) (n' := cN l) (k' := (z : Int)) (A' := A5) (m' := L) (c' := c5)
      have hne5 : ∀ b' o', A5 = some ⟨b', o', none⟩ → b' ≠ w1.heap.size := fun b' o' e => own_ne ho5 hS5 e
      have hE6 : ∀ k, k ≠ w1.heap.size → ((((w5.setCell ⟨w1.heap.size, 0, none⟩ (.int .i64 (cE l))).setCell ⟨w1.heap.size, 1, none⟩ (.int .i64 (cN l))).setCell ⟨w1.heap.size, 2, none⟩ (.int .i64 (z : Int))).setCell ⟨w1.heap.size, 3, none⟩ (.slice A5 L c5)).heap[k]? = w5.heap[k]? := fun k hk => set4_else hk
      obtain ⟨w6, hw6⟩ : ∃ w6, w6 = (((w5.setCell ⟨w1.heap.size, 0, none⟩ (.int .i64 (cE l))).setCell ⟨w1.heap.size, 1, none⟩ (.int .i64 (cN l))).setCell ⟨w1.heap.size, 2, none⟩ (.int .i64 (z : Int))).setCell ⟨w1.heap.size, 3, none⟩ (.slice A5 L c5) := ⟨_, rfl⟩
      rw [← hw6] at hS6 hB6 hE6 ⊢
      have hr6 : Rd w6 A5 L ((l.drop 24).take L) := hr5.block hB6.size fun b' o' e => hE6 b' (hne5 b' o' e)
      replace hB6 : Below w1.heap.size w1 w6 := (((((Below.refl _ _).alloc (Nat.le_refl _) _).alloc (by simp) _).drew).trans hb5).trans (hB6.mono (by omega))
      clear hw6 kz5 k0 k1 k2 k3 f0 f1 f2 f3 hS5 hg5 hb5 hE6 hne5
      have hc5m := c5m c5 hc5m0
      clear kz kzA kzB hoA hoA2 hoB gA2 sgB hq c5m
      have hz6 := hS1.below hB6 s1
      have hl6 := hr1.below (Nat.le_refl _) hB6
      go_wp2_with (first
        | (refine wpList_ldseal rfl (.tmp 10) rfl rfl hS6 ?_)
        | (go_at_call 11; refine (RPut_any _ _ _ _ _ _ _ w6 hr6 hc5 hc5m).mono ?_; rintro ed w7 ⟨v7, rfl, ho7, hB7⟩; obtain ⟨A7, c7, rfl, _, _, hr7⟩ := Rd.of_own ho7 rfl; have hl7 := hl6.below (Nat.le_refl _) hB7; have hS7 := hS6.below hB7 hS6.lt; have hz7 := hz6.below hB7 hz6.lt; have hb7 := hr6.below (Nat.le_refl _) hB7)
        | (go_at_call 10; refine (CSAME.out _ _ _ hr7 hl7).mono ?_; rintro ed w' ⟨rfl, rfl⟩)
        | (refine wpList_ldseal rfl (.tmp 10) rfl rfl hS7 ?_)
        | (refine wpList_stseal rfl (.tmp 2) (.tmp 52) rfl rfl rfl hz7 ?_; intro w8 hS8 hB8 hE8)
        | (refine bodyPost_ret (res_seal_tmp rfl rfl hS8) rfl ?_; refine ⟨A5, L, c5, ?_, ?_, by omega, ((hB1.trans (hB6.mono (Nat.le_of_lt s1))).trans (hB7.mono (Nat.le_trans (Nat.le_of_lt s1) hB6.size))).trans hB8⟩; · rw [E0.out.1, E0.out.2.1, E0.out.2.2.1, E0.out.2.2.2.2]; rfl
           · rw [E0.out.2.2.2.1]; exact hb7.block hB8.size fun b' o' e => hE8 b' (by have := own_block ho5 e; omega)))
  · rw [decide_eq_false hok] at hdec
    have csame : ∀ W A7 c7, Rd W A7 512 (sectorOf (cE l) (cN l) (z : Int) ((l.drop 24).take L)) → Rd W (some ⟨b, o, none⟩) 512 l → Calls Try.prog 10 #[.slice A7 512 c7, .slice (some ⟨b, o, none⟩) 512 c] W fun e w' => e = .returned (.bool false) ∧ W = w' := fun W A7 c7 h1 h2 => by
      have := Same_any A7 (some ⟨b, o, none⟩) 512 c7 512 c _ _ W h1 h2
      rw [hdec] at this
      exact this
    have CSAME := Lib.hid csame
    have e0 : gE l = 0 ∧ gN l = 0 ∧ gK l = 0 ∧ gB l = [] ∧ decide (okL l) = false := by simp only [gE, gN, gK, gB, if_neg hok, decide_eq_false hok, and_self]
    have E0 := Lib.hid e0
    clear csame e0 hok hdec hsame
    go_region_held3 (fun w' => w'.cell? ⟨b, o + 20, none⟩ = some (.int .u8 (z : Int))) (first | with_reducible exact kz | with_reducible exact kzA _ | with_reducible exact kzB _ _ | with_reducible exact kz5 | with_reducible exact kz5' _ | (rw [World.cell?_drew]; first | with_reducible exact kz | with_reducible exact kzA _ | with_reducible exact kzB _ _) | go_keep) (first
      | (refine step_app _ bytesT rfl (.tmp 39) (.tmp 43) rfl w1.heap.size _ 0 [] rfl hoA.drew _ L (c - 24) _ rfl (hq.alloc _).drew (by omega) (by simp) ?_; intro v5 w5 ho5 hb5 hg5; rw [List.nil_append, Nat.zero_add] at ho5; obtain ⟨A5, c5, rfl, hc5, hc5m0, hr5⟩ := Rd.of_own ho5 rfl; have kz5 := (hb5.cell (p := ⟨b, o + 20, none⟩) hb1).trans (kzA _); have ne5 : ¬ w5.heap.size = b := World.new_ne w5 _ kz5; have kz5' : ∀ o1, (w5.alloc o1).cell? ⟨b, o + 20, none⟩ = some (.int .u8 (z : Int)) := fun o1 => by rw [World.cell?_alloc_lt _ _ _ (World.block_lt_of_cell? w5 _ kz5)]; exact kz5)
      | (refine step_app _ bytesT rfl (.tmp 39) (.tmp 43) rfl w1.heap.size _ 0 [] rfl hoA2.drew _ L (c - 24) _ rfl ((hq.alloc _).alloc _).drew (by omega) (by simp <;> omega) ?_; intro v5 w5 ho5 hb5 hg5; rw [List.nil_append, Nat.zero_add] at ho5; obtain ⟨A5, c5, rfl, hc5, hc5m0, hr5⟩ := Rd.of_own ho5 rfl; have kz5 := (hb5.cell (p := ⟨b, o + 20, none⟩) hb1).trans (kzB _ _); replace hg5 : World.grownBy _ w5 (some w1.heap.size) := hg5; have hS5 : SealAt w5 (w1.heap.size + 1) 0 0 0 none 0 0 := (hg5.block (w1.heap.size + 1) gA2.lt (by simp)).trans gA2; have k0 := hS5.h0; have k1 := hS5.h1; have k2 := hS5.h2; have k3 := hS5.h3; have f0 := hS5.fz 0; have f1 := hS5.fz 1; have f2 := hS5.fz 2; have f3 := hS5.fz 3)
      | (refine step_app _ bytesT rfl (.tmp 39) (.tmp 43) rfl w1.heap.size _ 0 [] rfl hoB.drew _ L (c - 24) _ rfl ((hq.alloc _).alloc _).drew (by omega) (by simp <;> omega) ?_; intro v5 w5 ho5 hb5 hg5; rw [List.nil_append, Nat.zero_add] at ho5; obtain ⟨A5, c5, rfl, hc5, hc5m0, hr5⟩ := Rd.of_own ho5 rfl; have kz5 := (hb5.cell (p := ⟨b, o + 20, none⟩) hb1).trans (kzB _ _); replace hg5 : World.grownBy _ w5 (some (w1.heap.size + 1)) := hg5; have hS5 : SealAt w5 w1.heap.size 0 0 0 none 0 0 := (hg5.block w1.heap.size sgB.lt (by simp)).trans sgB; have k0 := hS5.h0; have k1 := hS5.h1; have k2 := hS5.h2; have k3 := hS5.h3; have f0 := hS5.fz 0; have f1 := hS5.fz 1; have f2 := hS5.fz 2; have f3 := hS5.fz 3))
    · obtain ⟨w6, hw6⟩ : ∃ w6, w6 = w5.alloc (.cells #[.int .i64 (cE l), .int .i64 (cN l), .int .i64 (z : Int), .slice A5 L c5] 24) := ⟨_, rfl⟩
      have hS6 : SealAt w6 w5.heap.size (cE l) (cN l) (z : Int) A5 L c5 := by rw [hw6]; exact SealAt.new w5
      have hr6 : Rd w6 A5 L ((l.drop 24).take L) := by rw [hw6]; exact hr5.alloc _
      have hB6 : Below w1.heap.size w1 w6 := by rw [hw6]; exact (((((Below.refl _ _).alloc (Nat.le_refl _) _).drew).trans hb5).alloc (by have := hb5.size; simp at this; omega) _)
      rw [← hw6]
      clear hw6 kz5 kz5' ne5 hg5 hb5
      have hc5m := c5m c5 hc5m0
      clear kz kzA kzB hoA hoA2 hoB gA2 sgB hq c5m
      have hz6 := hS1.below hB6 s1
      have hl6 := hr1.below (Nat.le_refl _) hB6
      go_wp2_with (first
        | (refine wpList_ldseal rfl (.tmp 10) rfl rfl hS6 ?_)
        | (go_at_call 11; refine (RPut_any _ _ _ _ _ _ _ w6 hr6 hc5 hc5m).mono ?_; rintro ed w7 ⟨v7, rfl, ho7, hB7⟩; obtain ⟨A7, c7, rfl, _, _, hr7⟩ := Rd.of_own ho7 rfl; have hl7 := hl6.below (Nat.le_refl _) hB7; have hS7 := hS6.below hB7 hS6.lt; have hz7 := hz6.below hB7 hz6.lt; have hb7 := hr6.below (Nat.le_refl _) hB7)
        | (go_at_call 10; refine (CSAME.out _ _ _ hr7 hl7).mono ?_; rintro ed w' ⟨rfl, rfl⟩)
        | (refine wpList_ldseal rfl (.tmp 10) rfl rfl hS7 ?_)
        | (refine wpList_stseal rfl (.tmp 2) (.tmp 51) rfl rfl rfl hz7 ?_; intro w8 hS8 hB8 hE8)
        | (refine bodyPost_ret (res_seal_tmp rfl rfl hS8) rfl ?_; refine ⟨none, 0, 0, ?_, ?_, by omega, ((hB1.trans (hB6.mono (Nat.le_of_lt s1))).trans (hB7.mono (Nat.le_trans (Nat.le_of_lt s1) hB6.size))).trans hB8⟩; · rw [E0.out.1, E0.out.2.1, E0.out.2.2.1, E0.out.2.2.2.2]; rfl
           · rw [E0.out.2.2.2.1]; exact Rd.nil _ _))
    · obtain ⟨hS6, hB6⟩ := hS5.set4 (e' := cE l) (n' := cN l) (k' := (z : Int)) (A' := A5) (m' := L) (c' := c5)
      have hne5 : ∀ b' o', A5 = some ⟨b', o', none⟩ → b' ≠ (w1.heap.size + 1) := fun b' o' e => own_ne ho5 hS5 e
      have hE6 : ∀ k, k ≠ (w1.heap.size + 1) → ((((w5.setCell ⟨(w1.heap.size + 1), 0, none⟩ (.int .i64 (cE l))).setCell ⟨(w1.heap.size + 1), 1, none⟩ (.int .i64 (cN l))).setCell ⟨(w1.heap.size + 1), 2, none⟩ (.int .i64 (z : Int))).setCell ⟨(w1.heap.size + 1), 3, none⟩ (.slice A5 L c5)).heap[k]? = w5.heap[k]? := fun k hk => set4_else hk
      obtain ⟨w6, hw6⟩ : ∃ w6, w6 = (((w5.setCell ⟨(w1.heap.size + 1), 0, none⟩ (.int .i64 (cE l))).setCell ⟨(w1.heap.size + 1), 1, none⟩ (.int .i64 (cN l))).setCell ⟨(w1.heap.size + 1), 2, none⟩ (.int .i64 (z : Int))).setCell ⟨(w1.heap.size + 1), 3, none⟩ (.slice A5 L c5) := ⟨_, rfl⟩
      rw [← hw6] at hS6 hB6 hE6 ⊢
      have hr6 : Rd w6 A5 L ((l.drop 24).take L) := hr5.block hB6.size fun b' o' e => hE6 b' (hne5 b' o' e)
      replace hB6 : Below w1.heap.size w1 w6 := (((((Below.refl _ _).alloc (Nat.le_refl _) _).alloc (by simp) _).drew).trans hb5).trans (hB6.mono (by omega))
      clear hw6 kz5 k0 k1 k2 k3 f0 f1 f2 f3 hS5 hg5 hb5 hE6 hne5
      have hc5m := c5m c5 hc5m0
      clear kz kzA kzB hoA hoA2 hoB gA2 sgB hq c5m
      have hz6 := hS1.below hB6 s1
      have hl6 := hr1.below (Nat.le_refl _) hB6
      go_wp2_with (first
        | (refine wpList_ldseal rfl (.tmp 10) rfl rfl hS6 ?_)
        | (go_at_call 11; refine (RPut_any _ _ _ _ _ _ _ w6 hr6 hc5 hc5m).mono ?_; rintro ed w7 ⟨v7, rfl, ho7, hB7⟩; obtain ⟨A7, c7, rfl, _, _, hr7⟩ := Rd.of_own ho7 rfl; have hl7 := hl6.below (Nat.le_refl _) hB7; have hS7 := hS6.below hB7 hS6.lt; have hz7 := hz6.below hB7 hz6.lt; have hb7 := hr6.below (Nat.le_refl _) hB7)
        | (go_at_call 10; refine (CSAME.out _ _ _ hr7 hl7).mono ?_; rintro ed w' ⟨rfl, rfl⟩)
        | (refine wpList_ldseal rfl (.tmp 10) rfl rfl hS7 ?_)
        | (refine wpList_stseal rfl (.tmp 2) (.tmp 51) rfl rfl rfl hz7 ?_; intro w8 hS8 hB8 hE8)
        | (refine bodyPost_ret (res_seal_tmp rfl rfl hS8) rfl ?_; refine ⟨none, 0, 0, ?_, ?_, by omega, ((hB1.trans (hB6.mono (Nat.le_of_lt s1))).trans (hB7.mono (Nat.le_trans (Nat.le_of_lt s1) hB6.size))).trans hB8⟩; · rw [E0.out.1, E0.out.2.1, E0.out.2.2.1, E0.out.2.2.2.2]; rfl
           · rw [E0.out.2.2.2.1]; exact Rd.nil _ _))
    · obtain ⟨hS6, hB6⟩ := hS5.set4 (e' := cE l) (n' := cN l) (k' := (z : Int)) (A' := A5) (m' := L) (c' := c5)
      have hne5 : ∀ b' o', A5 = some ⟨b', o', none⟩ → b' ≠ w1.heap.size := fun b' o' e => own_ne ho5 hS5 e
      have hE6 : ∀ k, k ≠ w1.heap.size → ((((w5.setCell ⟨w1.heap.size, 0, none⟩ (.int .i64 (cE l))).setCell ⟨w1.heap.size, 1, none⟩ (.int .i64 (cN l))).setCell ⟨w1.heap.size, 2, none⟩ (.int .i64 (z : Int))).setCell ⟨w1.heap.size, 3, none⟩ (.slice A5 L c5)).heap[k]? = w5.heap[k]? := fun k hk => set4_else hk
      obtain ⟨w6, hw6⟩ : ∃ w6, w6 = (((w5.setCell ⟨w1.heap.size, 0, none⟩ (.int .i64 (cE l))).setCell ⟨w1.heap.size, 1, none⟩ (.int .i64 (cN l))).setCell ⟨w1.heap.size, 2, none⟩ (.int .i64 (z : Int))).setCell ⟨w1.heap.size, 3, none⟩ (.slice A5 L c5) := ⟨_, rfl⟩
      rw [← hw6] at hS6 hB6 hE6 ⊢
      have hr6 : Rd w6 A5 L ((l.drop 24).take L) := hr5.block hB6.size fun b' o' e => hE6 b' (hne5 b' o' e)
      replace hB6 : Below w1.heap.size w1 w6 := (((((Below.refl _ _).alloc (Nat.le_refl _) _).alloc (by simp) _).drew).trans hb5).trans (hB6.mono (by omega))
      clear hw6 kz5 k0 k1 k2 k3 f0 f1 f2 f3 hS5 hg5 hb5 hE6 hne5
      have hc5m := c5m c5 hc5m0
      clear kz kzA kzB hoA hoA2 hoB gA2 sgB hq c5m
      have hz6 := hS1.below hB6 s1
      have hl6 := hr1.below (Nat.le_refl _) hB6
      go_wp2_with (first
        | (refine wpList_ldseal rfl (.tmp 10) rfl rfl hS6 ?_)
        | (go_at_call 11; refine (RPut_any _ _ _ _ _ _ _ w6 hr6 hc5 hc5m).mono ?_; rintro ed w7 ⟨v7, rfl, ho7, hB7⟩; obtain ⟨A7, c7, rfl, _, _, hr7⟩ := Rd.of_own ho7 rfl; have hl7 := hl6.below (Nat.le_refl _) hB7; have hS7 := hS6.below hB7 hS6.lt; have hz7 := hz6.below hB7 hz6.lt; have hb7 := hr6.below (Nat.le_refl _) hB7)
        | (go_at_call 10; refine (CSAME.out _ _ _ hr7 hl7).mono ?_; rintro ed w' ⟨rfl, rfl⟩)
        | (refine wpList_ldseal rfl (.tmp 10) rfl rfl hS7 ?_)
        | (refine wpList_stseal rfl (.tmp 2) (.tmp 51) rfl rfl rfl hz7 ?_; intro w8 hS8 hB8 hE8)
        | (refine bodyPost_ret (res_seal_tmp rfl rfl hS8) rfl ?_; refine ⟨none, 0, 0, ?_, ?_, by omega, ((hB1.trans (hB6.mono (Nat.le_of_lt s1))).trans (hB7.mono (Nat.le_trans (Nat.le_of_lt s1) hB6.size))).trans hB8⟩; · rw [E0.out.1, E0.out.2.1, E0.out.2.2.1, E0.out.2.2.2.2]; rfl
           · rw [E0.out.2.2.2.1]; exact Rd.nil _ _))
end Go.Proofs.Ytlafeobiodolbaa
