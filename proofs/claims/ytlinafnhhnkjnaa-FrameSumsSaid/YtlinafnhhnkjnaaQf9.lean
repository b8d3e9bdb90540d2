/- FrW1 -/
import Derived.Test.YtlinafnhhnkjnaaQf8
namespace Go.Proofs.Ytlinafnhhnkjnaa
open Go.RowKit
set_option linter.unusedVariables false
set_option linter.unusedSimpArgs false
set_option maxRecDepth 20000

/-- What Get leaves. -/
def FGotP (r : List Cd × Int) (w : World) (e : Ending) (w' : World) : Prop := ∃ A n c, e = .returned (.tuple #[.slice A n c, .int .i64 r.2]) ∧ CdsV (fun _ => True) w' A n r.1 ∧ n ≤ c ∧ Below w.heap.size w w'
/-- The program's Check, Size and Get keep the document. -/
def FChkC : Prop := ∀ (K : Nat → Prop) (A : Option Addr) (n c : Nat) (xs : List Cd) (w : World), CdsV K w A n xs → n ≤ 70 → n ≤ c → (∀ x ∈ xs, x.dt.length ≤ 200) → Calls Try.prog 11 #[.slice A n c] w fun e w' => e = .returned (.int .i64 (frCheck xs)) ∧ Below w.heap.size w w'
def FSizeC : Prop := ∀ (K : Nat → Prop) (A : Option Addr) (n c : Nat) (xs : List Cd) (w : World), CdsV K w A n xs → n ≤ 70 → n ≤ c → (∀ x ∈ xs, x.dt.length ≤ 200) → Calls Try.prog 12 #[.slice A n c] w fun e w' => e = .returned (.int .i64 (if frCheck xs = 0 then (((frBytes xs).length : Nat) : Int) else 0)) ∧ Below w.heap.size w w'
def FGetC : Prop := ∀ (A : Option Addr) (n c : Nat) (l : List UInt8) (w : World), Rd w A n l → n ≤ 100000 → n ≤ c → c ≤ maxLen → Calls Try.prog 13 #[.slice A n c] w (FGotP (frGet l) w)
theorem chkL_zero : ∀ (xs : List Cd), chkL xs = 0 → ∀ x ∈ xs, x.check = 0
  | [], _, _, h => absurd h List.not_mem_nil
  | x :: xs, h, y, hy => by
    unfold chkL at h
    by_cases hx : x.check = 0
    · rw [if_neg (fun e => e hx)] at h
      rcases List.mem_cons.1 hy with rfl | hy
      · exact hx
      · exact chkL_zero xs h y hy
    · rw [if_pos hx] at h
      exact absurd h hx
theorem frCheck_zero {xs : List Cd} (h : frCheck xs = 0) : xs.length ≤ 64 ∧ ∀ x ∈ xs, x.check = 0 := by
  unfold frCheck at h
  by_cases h64 : 64 < xs.length
  · rw [if_pos h64] at h
    exact absurd h (by decide)
  · rw [if_neg h64] at h
    exact ⟨by omega, chkL_zero xs h⟩
theorem frBytes_len {xs : List Cd} (h : xs.length ≤ 70) (hd : ∀ x ∈ xs, x.dt.length ≤ 200) : (frBytes xs).length ≤ 100000 := by
  have h1 := flat_len xs (fun x hx => Nat.le_trans (hd x hx) (by decide))
  unfold frBytes frBody
  simp only [List.length_append, numB_length]
  omega
section
variable (A : Option Addr) (n c : Nat) (xs : List Cd) (w : World)
set_option maxHeartbeats 4000000 in
theorem FramePuts_walk (HP : FPutC) (HC : FChkC) (HS : FSizeC) (HG : FGetC) (h : CdsV (· < w.heap.size) w A n xs) (hn : n ≤ 9223372036854775807) (hnc : n ≤ c) (hw : ∀ x ∈ xs, x.wf ∧ x.dt.length ≤ 9223372036854775807) :
    Calls Try.prog 3 #[.slice A n c] w fun e w' => e = .returned (.bool true) ∧ Below w.heap.size w w' := by
  have CM := Lib.hid (FMuch_any A n c xs w h hn (fun x hx => (hw x hx).2))
  have H := Lib.hid h
  have HW := Lib.hid hw
  have HPH := Lib.hid HP
  have HCH := Lib.hid HC
  have HSH := Lib.hid HS
  have CG := Lib.hid HG
  clear h hw HP HC HS HG
  go_enter Try.func3, Try.ntmps3
  go_wp2_with fail
  refine CM.out.mono ?_
  rintro e w' ⟨rfl, r, rfl, hsm⟩
  cases r
  case true =>
    go_wp2_with (go_at_call 7; refine (live14_any HPH.out w).mono ?_; rintro e w1 ⟨rfl, hB1⟩)
    go_ret
    exact ⟨rfl, hB1⟩
  obtain ⟨hn, hd⟩ := hsm rfl
  clear hsm CM
  have CP := Lib.hid (HPH.out _ A n c xs w H.out hn hnc hd)
  have CK := Lib.hid (fun w' (hb : Below w.heap.size w w') => HCH.out _ A n c xs w' (H.out.below hb) hn hnc hd)
  have CZ := Lib.hid (fun w' (hb : Below w.heap.size w w') => HSH.out _ A n c xs w' (H.out.below hb) hn hnc hd)
  have CR := Lib.hid (fun w' (hb : Below w.heap.size w w') => RFCheck_any A n c xs w' (H.out.below hb) (by omega) (fun x hx => Nat.le_trans (hd x hx) (by decide)))
  have CB := Lib.hid (fun w' (hb : Below w.heap.size w w') => RFBytes_any A n c xs w' (H.out.below hb) (by omega) (fun x hx => Nat.le_trans (hd x hx) (by decide)))
  have CL := Lib.hid (fun w' (hb : Below w.heap.size w w') => RFPlain_any A n c xs w' (H.out.below hb) (by omega))
  have HXL := Lib.hid H.out.len
  have HBL := Lib.hid (frBytes_len (xs := xs) (by have := H.out.len; omega) hd)
  clear hd HCH HSH
  by_cases hno : frCheck xs ≠ 0
  · have hne : (frCheck xs != 0) = true := bne_iff_ne.2 hno
    obtain ⟨ck, hck⟩ : ∃ q, q = frCheck xs := ⟨_, rfl⟩
    rw [← hck] at hne hno
    have HK := Lib.hid hck
    have HNO := Lib.hid hno
    clear hck hno CG CB CL
    go_wp2_with (first
      | (go_at_call 8; have _t := CP; refine CP.out.mono ?_; rintro e w2 ⟨B, m, d, he, hr2, hmd, hdm, hb2⟩
         rw [← HK.out] at he hr2
         rw [if_neg HNO.out] at hr2
         subst he
         have hm0 : m = 0 := hr2.1.symm
         subst hm0
         have B2 := Lib.hid hb2
         clear CP hr2 hmd hdm hb2)
      | (go_at_call 9; refine (CR.out w2 B2.out).mono ?_; rintro e w3 ⟨he, hb3⟩; rw [← HK.out] at he; subst he; have B3 := Lib.hid (B2.out.trans (hb3.mono B2.out.size)); clear hb3)
      | (go_at_call 11; refine (CK.out w3 B3.out).mono ?_; rintro e w4 ⟨he, hb4⟩; rw [← HK.out] at he; subst he; have B4 := Lib.hid (B3.out.trans (hb4.mono B3.out.size)); clear hb4)
      | (go_at_call 12; refine (CZ.out w4 B4.out).mono ?_; rintro e w5 ⟨he, hb5⟩; rw [← HK.out, if_neg HNO.out] at he; subst he; have B5 := Lib.hid (B4.out.trans (hb5.mono B4.out.size)); clear hb5)
      | (go_at_call 10; refine (code14_any _ _).mono ?_; rintro e w' ⟨rfl, hw'⟩; subst hw')
      | (go_at_call 7; refine (live14_any HPH.out w5).mono ?_; rintro e w6 ⟨rfl, hb6⟩; have B6 := Lib.hid (B5.out.trans (hb6.mono B5.out.size)); clear hb6))
    go_ret
    exact ⟨rfl, B6.out⟩
  have hno : frCheck xs = 0 := Classical.not_not.1 hno
  have hz := frCheck_zero hno
  have HF := Lib.hid (frGet_put xs hz.1 (fun x hx => ⟨hz.2 x hx, (HW.out x hx).1⟩))
  have HNO := Lib.hid hno
  clear hno hz
  go_wp2_with (first
    | (go_at_call 8; have _t := CP; refine CP.out.mono ?_; rintro e w2 ⟨B, m, d, he, hr2, hmd, hdm, hb2⟩
       rw [HNO.out] at he hr2
       rw [if_pos rfl] at hr2
       subst he
       have HML := Lib.hid hr2.1
       have HMD := Lib.hid (And.intro hmd hdm)
       have HR2 := Lib.hid hr2
       have B2 := Lib.hid hb2
       clear CP hr2 hmd hdm hb2)
    | (go_at_call 9; refine (CR.out w2 B2.out).mono ?_; rintro e w3 ⟨he, hb3⟩; rw [HNO.out] at he; subst he; have B3 := Lib.hid (B2.out.trans (hb3.mono B2.out.size)); have HR3 := Lib.hid (HR2.out.below (Nat.le_refl _) hb3); clear hb3)
    | (go_at_call 11; refine (CK.out w3 B3.out).mono ?_; rintro e w4 ⟨he, hb4⟩; rw [HNO.out] at he; subst he; have B4 := Lib.hid (B3.out.trans (hb4.mono B3.out.size)); have HR4 := Lib.hid (HR3.out.below (Nat.le_refl _) hb4); clear hb4)
    | (go_at_call 12; refine (CZ.out w4 B4.out).mono ?_; rintro e w5 ⟨he, hb5⟩; rw [if_pos HNO.out, HML.out] at he; subst he; have B5 := Lib.hid (B4.out.trans (hb5.mono B4.out.size)); have HR5 := Lib.hid (HR4.out.below (Nat.le_refl _) hb5); clear hb5)
    | (go_at_call 13; have _t := HR5; refine (CG.out B m d (frBytes xs) w5 HR5.out (by have := HBL.out; have := HML.out; omega) HMD.out.1 HMD.out.2).mono ?_; intro e w6 hge
       rw [HF.out] at hge
       obtain ⟨A6, n6, c6, rfl, hv6, _, hb6⟩ := hge
       have h6 : n6 = n := by have := hv6.len; have := HXL.out; rw [List.length_map] at *; omega
       subst h6
       have B6 := Lib.hid (B5.out.trans (hb6.mono B5.out.size))
       have HR6 := Lib.hid (HR5.out.below (Nat.le_refl _) hb6)
       have HV6 := Lib.hid hv6
       clear hv6 hb6)
    | (go_at_call 10; refine (code14_any _ _).mono ?_; rintro e w' ⟨rfl, hw'⟩; subst hw')
    | (go_at_call 15; refine (CB.out w6 B6.out).mono ?_; rintro e v1 ⟨A7, n7, c7, rfl, hr7, _, hb7⟩
       have D7 := Lib.hid (And.intro (B6.out.trans (hb7.mono B6.out.size)) (And.intro (HR6.out.below (Nat.le_refl _) hb7) (And.intro (HV6.out.below hb7) hr7)))
       clear hr7 hb7)
    | (go_at_call 14; refine (Same_yes B A7 m d n7 c7 (frBytes xs) v1 D7.out.2.1 D7.out.2.2.2).mono ?_; rintro e w' ⟨rfl, hw'⟩; subst hw')
    | (go_at_call 17; refine (CL.out v1 D7.out.1).mono ?_; rintro e v2 ⟨A8, c8, rfl, hv8, hb8⟩
       have D8 := Lib.hid (And.intro (D7.out.1.trans (hb8.mono D7.out.1.size)) (And.intro (D7.out.2.2.1.below hb8) hv8))
       clear hv8 hb8)
    | (go_at_call 16; refine (RFSame_yes A6 A8 n6 c6 c8 (xs.map Cd.plain) v2 D8.out.2.1 D8.out.2.2 (by omega)).mono ?_; rintro e v3 ⟨rfl, hb9⟩; have D9 := Lib.hid (D8.out.1.trans (hb9.mono D8.out.1.size)); clear hb9)
    | (go_at_call 7; refine (live14_any HPH.out v3).mono ?_; rintro e v4 ⟨rfl, hb10⟩; have D10 := Lib.hid (D9.out.trans (hb10.mono D9.out.size)); clear hb10))
  go_ret
  exact ⟨rfl, D10.out⟩
end
end Go.Proofs.Ytlinafnhhnkjnaa
