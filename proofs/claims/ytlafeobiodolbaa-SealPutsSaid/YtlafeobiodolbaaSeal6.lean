/- The contract of the reference's Put. -/
import Derived.Test.YtlafeobiodolbaaSeal3
import Derived.Test.YtlafeobiodolbaaCrc2
namespace Go.Proofs.Ytlafeobiodolbaa
open Go.RowKit

section
variable (x : Int) (w : World)
theorem Num8 : Calls Try.prog 23 #[.int .i64 8, .int .i64 x] w fun e w' => ∃ A c, e = .returned (.slice A 8 c) ∧ w'.ownsRow w.heap.size 5 1 (.slice A 8 c) 8 (cells (numB 8 x)) ∧ Rd w' A 8 (numB 8 x) ∧ Below w.heap.size w w' :=
  (Num_any 8 x w).mono fun _ _ ⟨v, he, ho, hb⟩ => by obtain ⟨A, c, rfl, _, _, hr⟩ := Rd.of_own ho rfl; exact ⟨A, c, he, ho, hr, hb⟩
theorem Num4 : Calls Try.prog 23 #[.int .i64 4, .int .i64 x] w fun e w' => ∃ A c, e = .returned (.slice A 4 c) ∧ w'.ownsRow w.heap.size 5 1 (.slice A 4 c) 4 (cells (numB 4 x)) ∧ Rd w' A 4 (numB 4 x) ∧ Below w.heap.size w w' :=
  (Num_any 4 x w).mono fun _ _ ⟨v, he, ho, hb⟩ => by obtain ⟨A, c, rfl, _, _, hr⟩ := Rd.of_own ho rfl; exact ⟨A, c, he, ho, hr, hb⟩
theorem Num2 : Calls Try.prog 23 #[.int .i64 2, .int .i64 x] w fun e w' => ∃ A c, e = .returned (.slice A 2 c) ∧ w'.ownsRow w.heap.size 5 1 (.slice A 2 c) 2 (cells (numB 2 x)) ∧ Rd w' A 2 (numB 2 x) ∧ Below w.heap.size w w' :=
  (Num_any 2 x w).mono fun _ _ ⟨v, he, ho, hb⟩ => by obtain ⟨A, c, rfl, _, _, hr⟩ := Rd.of_own ho rfl; exact ⟨A, c, he, ho, hr, hb⟩
theorem Num1 : Calls Try.prog 23 #[.int .i64 1, .int .i64 x] w fun e w' => ∃ A c, e = .returned (.slice A 1 c) ∧ w'.ownsRow w.heap.size 5 1 (.slice A 1 c) 1 (cells (numB 1 x)) ∧ Rd w' A 1 (numB 1 x) ∧ Below w.heap.size w w' :=
  (Num_any 1 x w).mono fun _ _ ⟨v, he, ho, hb⟩ => by obtain ⟨A, c, rfl, _, _, hr⟩ := Rd.of_own ho rfl; exact ⟨A, c, he, ho, hr, hb⟩
end

theorem rest_eq (e n k : Int) (b : List UInt8) : numB 1 k ++ [0] ++ numB 2 (b.length : Int) ++ cut (472 : Int).toNat b ++ numB 8 n ++ numB 8 e = restL e n k b := by
  simp only [restL, List.append_assoc]
  rfl

theorem RPut_any (e n k : Int) (A : Option Addr) (m c : Nat) (body : List UInt8) (w : World) (hr : Rd w A m body) (hmc : m ≤ c) (hc : (c : Int) ≤ 9223372036854775807) :
    Calls Try.prog 11 #[.agg #[.int .i64 e, .int .i64 n, .int .i64 k, .slice A m c]] w fun ed w' => ∃ v, ed = .returned v ∧ w'.ownsRow w.heap.size 5 1 v 512 (cells (sectorOf e n k body)) ∧ Below w.heap.size w w' := by
  obtain ⟨w1, hw1⟩ : ∃ w1, w1 = w.alloc (.cells #[.int .i64 e, .int .i64 n, .int .i64 k, .slice A m c] 24) := ⟨_, rfl⟩
  have hB1 : Below w.heap.size w w1 := by rw [hw1]; exact (Below.refl _ _).alloc (Nat.le_refl _) _
  have hS1 : SealAt w1 w.heap.size e n k A m c := by rw [hw1]; exact SealAt.new w
  have hr1 : Rd w1 A m body := hr.below (Nat.le_refl _) hB1
  have s1 := hS1.lt
  have k0 := hS1.h0
  have k1 := hS1.h1
  have k3 := hS1.h3
  have hm0 : (0 : Int) ≤ (m : Int) := Int.natCast_nonneg _
  obtain ⟨E, hE⟩ : ∃ E, E = nr e 281474976710656 := ⟨_, rfl⟩
  obtain ⟨N, hN⟩ : ∃ N, N = nr n 281474976710656 := ⟨_, rfl⟩
  obtain ⟨K, hK⟩ : ∃ K, K = nr k 255 := ⟨_, rfl⟩
  have cE' := fun w => near_any e 281474976710656 w (by decide)
  have cN' := fun w => near_any n 281474976710656 w (by decide)
  have cK' := fun w => near_any k 255 w (by decide)
  rw [← hE] at cE'
  rw [← hN] at cN'
  rw [← hK] at cK'
  have CE := Lib.hid cE'
  have CN := Lib.hid cN'
  have CK := Lib.hid cK'
  have hsec : sectorOf e n k body = sealL E N K (body.take 472) := by rw [hE, hN, hK]; rfl
  have HSEC := Lib.hid hsec
  clear cE' cN' cK' hE hN hK hsec
  have hlen := hr.1
  obtain ⟨B, hBd⟩ : ∃ B, B = body.take 472 := ⟨_, rfl⟩
  obtain ⟨M, hM⟩ : ∃ M, M = min m 472 := ⟨_, rfl⟩
  have hrB : Rd w1 A M B := by
    have := hr1.part (lo := 0) (m := M) (by omega) A (fun _ b o e => by simpa using e)
    rw [List.drop_zero] at this
    rw [hBd]
    have e2 : body.take M = body.take 472 := by
      rw [hM]
      rcases Nat.le_total m 472 with h | h
      · rw [Nat.min_eq_left h, List.take_of_length_le (by omega), List.take_of_length_le (by omega)]
      · rw [Nat.min_eq_right h]
    rw [e2] at this
    exact this
  have hBl : (B.length : Int) = (M : Int) := by rw [hrB.1]
  have hAB : 0 < M → ∃ b o, A = some ⟨b, o, none⟩ ∧ b < w1.heap.size := fun h0 => by
    obtain ⟨b, o, e1, e2, _⟩ := hrB.2 h0
    exact ⟨b, o, e1, e2⟩
  have HBD := Lib.hid hBd
  clear hBd
  by_cases h472 : m ≤ 472
  · obtain rfl : m = M := by rw [hM]; exact (Nat.min_eq_left h472).symm
    clear hM
    go_enter Try.func11, Try.ntmps11
    go_wp2
    rw [← hw1]
    clear hw1
    go_region_held3 (fun w' => w'.cell? ⟨w.heap.size, 0, none⟩ = some (.int .i64 e) ∧ w'.cell? ⟨w.heap.size, 1, none⟩ = some (.int .i64 n)) (exact ⟨k0, k1⟩)
      (first
        | (go_at_call_of 22 (Value.int .i64 e); refine (CE.out _).mono ?_; rintro ed w' ⟨rfl, rfl⟩)
        | (go_at_call 22; refine (CN.out _).mono ?_; rintro ed w' ⟨rfl, rfl⟩))
    clear k0 k1
    go_wp2_with fail
    refine (Num8 E _).mono ?_
    rintro ed w2 ⟨A2, c2, rfl, ho2, hr2, hB2⟩
    replace hB2 : Below w1.heap.size w1 w2 := (Below.refl _ _).drew.trans hB2
    replace ho2 : w2.ownsRow w1.heap.size _ 1 _ 8 _ := ho2
    have s2 := hB2.size
    clear k3
    go_wp2_with fail
    refine (Num8 N _).mono ?_
    rintro ed w3 ⟨A3, c3, rfl, ho3, hr3, hB3⟩
    have s3 := hB3.size
    replace ho2 := own_keep ho2 hB3
    go_wp2_with (at_builtin; refine wpList_app _ bytesT rfl (.tmp 23) (.tmp 25) rfl w1.heap.size _ 8 _ rfl ho2 A3 8 c3 _ rfl hr3 (by omega) (by omega) ?_; intro v4 w4 ho4 hB4; rw [← cells_append] at ho4; have s4 := hB4.size; have s4' : w1.heap.size ≤ w4.heap.size := Nat.le_trans s2 (Nat.le_trans s3 s4); obtain ⟨A4, c4, rfl, _, _, hr4⟩ := Rd.of_own ho4 rfl; replace hB4 := (hB2.trans (hB3.mono s2)).trans hB4; have k2 := (hS1.below hB4 s1).h2)
    refine (CK.out _).mono ?_
    rintro ed w' ⟨rfl, rfl⟩
    clear k2 ho2 hr2 hr3 ho3 hB3
    go_wp2_with fail
    refine (Num1 K _).mono ?_
    rintro ed w5 ⟨A5, c5, rfl, ho5, hr5, D5⟩
    have s5 := D5.size
    go_wp2_with (at_builtin; refine wpList_app _ bytesT rfl (.tmp 30) (.tmp 31) rfl w4.heap.size _ 1 _ rfl (ho5.alloc _) _ 1 1 [0] rfl (Rd.new w5 5 [0] (0, 0)) (by omega) (by simp; omega) ?_; intro v6 w6 ho6 hB6; rw [← cells_append] at ho6; have D6 := (D5.alloc s5 _).trans hB6; have s6 := D6.size)
    clear ho5 hr5 hB6
    refine (Num2 _ _).mono ?_
    rintro ed w7 ⟨A7, c7, rfl, ho7, hr7, hB7⟩
    rw [← hBl] at hr7
    replace ho6 := own_keep ho6 hB7
    have D7 := D6.trans (hB7.mono s6)
    have s7 := D7.size
    clear D5 D6 hB7 ho7
    go_wp2_with (at_builtin; refine wpList_app _ bytesT rfl (.tmp 33) (.tmp 36) rfl w4.heap.size _ 2 _ rfl ho6 A7 2 c7 _ rfl hr7 (by omega) s7 ?_; intro v8 w8 ho8 hB8; rw [← cells_append] at ho8; have D8 := D7.trans hB8; have s8 := D8.size)
    clear ho6 hr7 hB8 D7
    have hr8 := hrB.below' (hB4.trans (D8.mono s4')) hAB
    refine (RCut_any A _ c B 472 _ hr8 (by decide)).mono ?_
    rintro ed w9 ⟨v9, rfl, ho9, hB9⟩
    obtain ⟨A9, c9, rfl, _, _, hr9⟩ := Rd.of_own ho9 rfl
    replace ho8 := own_keep ho8 hB9
    have D9 := D8.trans (hB9.mono s8)
    have s9 := D9.size
    clear D8 hB9 ho9 hr8
    go_wp2_with (at_builtin; refine wpList_app _ bytesT rfl (.tmp 38) (.tmp 40) rfl w4.heap.size _ 4 _ rfl ho8 A9 472 c9 _ rfl hr9 (by omega) s9 ?_; intro v10 w10 ho10 hB10; rw [← cells_append] at ho10; have D10 := D9.trans hB10; have s10 := D10.size)
    clear ho8 hr9 hB10 D9
    refine (Num8 N _).mono ?_
    rintro ed w11 ⟨A11, c11, rfl, ho11, hr11, hB11⟩
    replace ho10 := own_keep ho10 hB11
    have D11 := D10.trans (hB11.mono s10)
    have s11 := D11.size
    clear D10 hB11 ho11
    go_wp2_with (at_builtin; refine wpList_app _ bytesT rfl (.tmp 42) (.tmp 44) rfl w4.heap.size _ 476 _ rfl ho10 A11 8 c11 _ rfl hr11 (by omega) s11 ?_; intro v12 w12 ho12 hB12; rw [← cells_append] at ho12; have D12 := D11.trans hB12; have s12 := D12.size)
    clear ho10 hr11 hB12 D11
    refine (Num8 E _).mono ?_
    rintro ed w13 ⟨A13, c13, rfl, ho13, hr13, hB13⟩
    replace ho12 := own_keep ho12 hB13
    have D13 := D12.trans (hB13.mono s12)
    have s13 := D13.size
    clear D12 hB13 ho13
    go_wp2_with (first
      | (at_builtin; refine wpList_app _ bytesT rfl (.tmp 46) (.tmp 48) rfl w4.heap.size _ 484 _ rfl ho12 A13 8 c13 _ rfl hr13 (by omega) s13 ?_; intro v14 w14 ho14 hB14; rw [← cells_append, rest_eq] at ho14; have D14 := D13.trans hB14; have s14 := D14.size; obtain ⟨A14, c14, rfl, _, _, hr14⟩ := Rd.of_own ho14 rfl; have hF := own_keep ho4 D14; obtain ⟨_, _, hFe, _, _, hrF⟩ := Rd.of_own hF rfl; cases hFe)
      | (at_builtin; refine wpList_app _ bytesT rfl (.tmp 50) (.tmp 51) rfl w14.heap.size _ 0 [] rfl (own_empty w14 _ _ (Nat.le_refl _)) A4 16 c4 _ rfl (hrF.alloc _) (by omega) (by simp) ?_; intro v15 w15 ho15 hB15; replace hB15 : Below w14.heap.size w14 w15 := ((Below.refl _ _).alloc (Nat.le_refl _) _).trans hB15; rw [List.nil_append] at ho15)
      | (at_builtin; refine wpList_app _ bytesT rfl (.tmp 52) (.tmp 53) rfl w14.heap.size _ _ _ rfl ho15 A14 492 c14 _ rfl (hr14.below (Nat.le_refl _) hB15) (by omega) hB15.size ?_; intro v16 w16 ho16 hB16; rw [← cells_append] at ho16; replace hB16 := hB15.trans hB16; obtain ⟨A16, c16, rfl, _, _, hr16⟩ := Rd.of_own ho16 rfl))
    clear ho12 hr13 hB14 D13 hF hB15 ho15
    have hs16 : Below w4.heap.size w4 w16 := D14.trans (hB16.mono s14)
    have hF16 := own_keep ho4 hs16
    obtain ⟨_, _, hFe, _, _, hrF16⟩ := Rd.of_own hF16 rfl
    cases hFe
    have hT16 := own_keep ho14 hB16
    have hsm := sumL_lt (frontL E N ++ restL E N K B)
    have cS := ROf_any A16 508 c16 _ w16 hr16 (by decide)
    obtain ⟨sm, hsmd⟩ : ∃ sm, sm = sumL (frontL E N ++ restL E N K B) := ⟨_, rfl⟩
    rw [show cells (numB 8 E ++ numB 8 N) = cells (frontL E N) from rfl] at hF16
    rw [show numB 8 E ++ numB 8 N ++ restL E N K B = frontL E N ++ restL E N K B from rfl, ← hsmd] at cS
    rw [← hsmd] at hsm
    have hwrap := wrap_u32 sm hsm
    have HSM := Lib.hid hsmd
    clear hsmd
    refine cS.mono ?_
    rintro ed w' ⟨rfl, rfl⟩
    have hFlt := fun k hk => (ho4.lt k hk).2
    clear cS hrF hr14 ho4 ho14
    go_wp2_with fail
    refine (Num4 _ _).mono ?_
    rintro ed w17 ⟨A17, c17, rfl, ho17, hr17, hB17⟩
    have s16 := hs16.size
    have hF17 := own_keep hF16 hB17
    have hT17 := own_keep hT16 hB17
    have D17 := hs16.trans (hB17.mono s16)
    have s17 := D17.size
    obtain ⟨b17, o17, rfl, _⟩ := hr17.2 (by decide)
    have e1 : frontL E N ++ numB 4 (sm : Int) ++ restL E N K B = sectorOf e n k body := by
      rw [HSEC.out, ← HBD.out, HSM.out, sealL, List.append_assoc]
    have E1 := Lib.hid e1
    clear hs16 hF16 hT16 hB17 ho17 e1
    go_wp2_with (first
      | (at_builtin; refine wpList_appg _ bytesT rfl (.tmp 56) (.tmp 59) rfl w1.heap.size _ 16 _ rfl hF17 _ 4 c17 _ rfl hr17 (by decide) (Nat.le_trans s4' s17) ?_; intro v18 w18 ho18 hg18; rw [← cells_append] at ho18; have hT18 := own_apart hT17 hFlt hg18; have hB18 := (hB4.trans (D17.mono s4')).trans (below_own hF17 (Nat.le_trans s4' s17) hg18); obtain ⟨_, _, hTe, _, _, hrT⟩ := Rd.of_own hT18 rfl; cases hTe)
      | (at_builtin; refine wpList_app _ bytesT rfl (.tmp 61) (.tmp 62) rfl w1.heap.size _ 20 _ rfl ho18 A14 492 c14 _ rfl hrT (by decide) hB18.size ?_; intro v19 w19 ho19 hB19; rw [← cells_append, E1.out] at ho19))
    go_ret
    exact ⟨v19, rfl, own_mono ho19 (Nat.le_of_lt s1), hB1.trans ((hB18.trans hB19).mono (Nat.le_of_lt s1))⟩
  · obtain rfl : M = 472 := by rw [hM]; exact Nat.min_eq_right (by omega)
    clear hM
    replace hBl : (B.length : Int) = 472 := hBl
    have hm4 : (472 : Int) < (m : Int) := by omega
    have hc4 : (472 : Int) ≤ (c : Int) := by omega
    go_enter Try.func11, Try.ntmps11
    go_wp2
    rw [← hw1]
    clear hw1
    go_region_held3 (fun w' => w'.cell? ⟨w.heap.size, 0, none⟩ = some (.int .i64 e) ∧ w'.cell? ⟨w.heap.size, 1, none⟩ = some (.int .i64 n)) (exact ⟨k0, k1⟩)
      (first
        | (go_at_call_of 22 (Value.int .i64 e); refine (CE.out _).mono ?_; rintro ed w' ⟨rfl, rfl⟩)
        | (go_at_call 22; refine (CN.out _).mono ?_; rintro ed w' ⟨rfl, rfl⟩))
    clear k0 k1
    go_wp2_with fail
    refine (Num8 E _).mono ?_
    rintro ed w2 ⟨A2, c2, rfl, ho2, hr2, hB2⟩
    replace hB2 : Below w1.heap.size w1 w2 := (Below.refl _ _).drew.trans hB2
    replace ho2 : w2.ownsRow w1.heap.size _ 1 _ 8 _ := ho2
    have s2 := hB2.size
    clear k3
    go_wp2_with fail
    refine (Num8 N _).mono ?_
    rintro ed w3 ⟨A3, c3, rfl, ho3, hr3, hB3⟩
    have s3 := hB3.size
    replace ho2 := own_keep ho2 hB3
    go_wp2_with (at_builtin; refine wpList_app _ bytesT rfl (.tmp 23) (.tmp 25) rfl w1.heap.size _ 8 _ rfl ho2 A3 8 c3 _ rfl hr3 (by omega) (by omega) ?_; intro v4 w4 ho4 hB4; rw [← cells_append] at ho4; have s4 := hB4.size; have s4' : w1.heap.size ≤ w4.heap.size := Nat.le_trans s2 (Nat.le_trans s3 s4); obtain ⟨A4, c4, rfl, _, _, hr4⟩ := Rd.of_own ho4 rfl; replace hB4 := (hB2.trans (hB3.mono s2)).trans hB4; have k2 := (hS1.below hB4 s1).h2)
    refine (CK.out _).mono ?_
    rintro ed w' ⟨rfl, rfl⟩
    clear k2 ho2 hr2 hr3 ho3 hB3
    go_wp2_with fail
    refine (Num1 K _).mono ?_
    rintro ed w5 ⟨A5, c5, rfl, ho5, hr5, D5⟩
    have s5 := D5.size
    go_wp2_with (at_builtin; refine wpList_app _ bytesT rfl (.tmp 30) (.tmp 31) rfl w4.heap.size _ 1 _ rfl (ho5.alloc _) _ 1 1 [0] rfl (Rd.new w5 5 [0] (0, 0)) (by omega) (by simp; omega) ?_; intro v6 w6 ho6 hB6; rw [← cells_append] at ho6; have D6 := (D5.alloc s5 _).trans hB6; have s6 := D6.size)
    clear ho5 hr5 hB6
    refine (Num2 _ _).mono ?_
    rintro ed w7 ⟨A7, c7, rfl, ho7, hr7, hB7⟩
    rw [← hBl] at hr7
    replace ho6 := own_keep ho6 hB7
    have D7 := D6.trans (hB7.mono s6)
    have s7 := D7.size
    clear D5 D6 hB7 ho7
    go_wp2_with (at_builtin; refine wpList_app _ bytesT rfl (.tmp 33) (.tmp 36) rfl w4.heap.size _ 2 _ rfl ho6 A7 2 c7 _ rfl hr7 (by omega) s7 ?_; intro v8 w8 ho8 hB8; rw [← cells_append] at ho8; have D8 := D7.trans hB8; have s8 := D8.size)
    clear ho6 hr7 hB8 D7
    have hr8 := hrB.below' (hB4.trans (D8.mono s4')) hAB
    refine (RCut_any A _ c B 472 _ hr8 (by decide)).mono ?_
    rintro ed w9 ⟨v9, rfl, ho9, hB9⟩
    obtain ⟨A9, c9, rfl, _, _, hr9⟩ := Rd.of_own ho9 rfl
    replace ho8 := own_keep ho8 hB9
    have D9 := D8.trans (hB9.mono s8)
    have s9 := D9.size
    clear D8 hB9 ho9 hr8
    go_wp2_with (at_builtin; refine wpList_app _ bytesT rfl (.tmp 38) (.tmp 40) rfl w4.heap.size _ 4 _ rfl ho8 A9 472 c9 _ rfl hr9 (by omega) s9 ?_; intro v10 w10 ho10 hB10; rw [← cells_append] at ho10; have D10 := D9.trans hB10; have s10 := D10.size)
    clear ho8 hr9 hB10 D9
    refine (Num8 N _).mono ?_
    rintro ed w11 ⟨A11, c11, rfl, ho11, hr11, hB11⟩
    replace ho10 := own_keep ho10 hB11
    have D11 := D10.trans (hB11.mono s10)
    have s11 := D11.size
    clear D10 hB11 ho11
    go_wp2_with (at_builtin; refine wpList_app _ bytesT rfl (.tmp 42) (.tmp 44) rfl w4.heap.size _ 476 _ rfl ho10 A11 8 c11 _ rfl hr11 (by omega) s11 ?_; intro v12 w12 ho12 hB12; rw [← cells_append] at ho12; have D12 := D11.trans hB12; have s12 := D12.size)
    clear ho10 hr11 hB12 D11
    refine (Num8 E _).mono ?_
    rintro ed w13 ⟨A13, c13, rfl, ho13, hr13, hB13⟩
    replace ho12 := own_keep ho12 hB13
    have D13 := D12.trans (hB13.mono s12)
    have s13 := D13.size
    clear D12 hB13 ho13
    go_wp2_with (first
      | (at_builtin; refine wpList_app _ bytesT rfl (.tmp 46) (.tmp 48) rfl w4.heap.size _ 484 _ rfl ho12 A13 8 c13 _ rfl hr13 (by omega) s13 ?_; intro v14 w14 ho14 hB14; rw [← cells_append, rest_eq] at ho14; have D14 := D13.trans hB14; have s14 := D14.size; obtain ⟨A14, c14, rfl, _, _, hr14⟩ := Rd.of_own ho14 rfl; have hF := own_keep ho4 D14; obtain ⟨_, _, hFe, _, _, hrF⟩ := Rd.of_own hF rfl; cases hFe)
      | (at_builtin; refine wpList_app _ bytesT rfl (.tmp 50) (.tmp 51) rfl w14.heap.size _ 0 [] rfl (own_empty w14 _ _ (Nat.le_refl _)) A4 16 c4 _ rfl (hrF.alloc _) (by omega) (by simp) ?_; intro v15 w15 ho15 hB15; replace hB15 : Below w14.heap.size w14 w15 := ((Below.refl _ _).alloc (Nat.le_refl _) _).trans hB15; rw [List.nil_append] at ho15)
      | (at_builtin; refine wpList_app _ bytesT rfl (.tmp 52) (.tmp 53) rfl w14.heap.size _ _ _ rfl ho15 A14 492 c14 _ rfl (hr14.below (Nat.le_refl _) hB15) (by omega) hB15.size ?_; intro v16 w16 ho16 hB16; rw [← cells_append] at ho16; replace hB16 := hB15.trans hB16; obtain ⟨A16, c16, rfl, _, _, hr16⟩ := Rd.of_own ho16 rfl))
    clear ho12 hr13 hB14 D13 hF hB15 ho15
    have hs16 : Below w4.heap.size w4 w16 := D14.trans (hB16.mono s14)
    have hF16 := own_keep ho4 hs16
    obtain ⟨_, _, hFe, _, _, hrF16⟩ := Rd.of_own hF16 rfl
    cases hFe
    have hT16 := own_keep ho14 hB16
    have hsm := sumL_lt (frontL E N ++ restL E N K B)
    have cS := ROf_any A16 508 c16 _ w16 hr16 (by decide)
    obtain ⟨sm, hsmd⟩ : ∃ sm, sm = sumL (frontL E N ++ restL E N K B) := ⟨_, rfl⟩
    rw [show cells (numB 8 E ++ numB 8 N) = cells (frontL E N) from rfl] at hF16
    rw [show numB 8 E ++ numB 8 N ++ restL E N K B = frontL E N ++ restL E N K B from rfl, ← hsmd] at cS
    rw [← hsmd] at hsm
    have hwrap := wrap_u32 sm hsm
    have HSM := Lib.hid hsmd
    clear hsmd
    refine cS.mono ?_
    rintro ed w' ⟨rfl, rfl⟩
    have hFlt := fun k hk => (ho4.lt k hk).2
    clear cS hrF hr14 ho4 ho14
    go_wp2_with fail
    refine (Num4 _ _).mono ?_
    rintro ed w17 ⟨A17, c17, rfl, ho17, hr17, hB17⟩
    have s16 := hs16.size
    have hF17 := own_keep hF16 hB17
    have hT17 := own_keep hT16 hB17
    have D17 := hs16.trans (hB17.mono s16)
    have s17 := D17.size
    obtain ⟨b17, o17, rfl, _⟩ := hr17.2 (by decide)
    have e1 : frontL E N ++ numB 4 (sm : Int) ++ restL E N K B = sectorOf e n k body := by
      rw [HSEC.out, ← HBD.out, HSM.out, sealL, List.append_assoc]
    have E1 := Lib.hid e1
    clear hs16 hF16 hT16 hB17 ho17 e1
    go_wp2_with (first
      | (at_builtin; refine wpList_appg _ bytesT rfl (.tmp 56) (.tmp 59) rfl w1.heap.size _ 16 _ rfl hF17 _ 4 c17 _ rfl hr17 (by decide) (Nat.le_trans s4' s17) ?_; intro v18 w18 ho18 hg18; rw [← cells_append] at ho18; have hT18 := own_apart hT17 hFlt hg18; have hB18 := (hB4.trans (D17.mono s4')).trans (below_own hF17 (Nat.le_trans s4' s17) hg18); obtain ⟨_, _, hTe, _, _, hrT⟩ := Rd.of_own hT18 rfl; cases hTe)
      | (at_builtin; refine wpList_app _ bytesT rfl (.tmp 61) (.tmp 62) rfl w1.heap.size _ 20 _ rfl ho18 A14 492 c14 _ rfl hrT (by decide) hB18.size ?_; intro v19 w19 ho19 hB19; rw [← cells_append, E1.out] at ho19))
    go_ret
    exact ⟨v19, rfl, own_mono ho19 (Nat.le_of_lt s1), hB1.trans ((hB18.trans hB19).mono (Nat.le_of_lt s1))⟩
end Go.Proofs.Ytlafeobiodolbaa
