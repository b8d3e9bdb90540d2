/- The law DiskSafe, walked. -/
import Derived.Test.YtpppnfflgbncjaaDkV
import Derived.Test.YtpppnfflgbncjaaDkO
import Derived.BigQuiet
import Derived.Deep.QuietTactic
import Derived.IntWalk
namespace Go.Proofs.Ytpppnfflgbncjaa
open Go.RowKit Go.Maps

theorem below_drewN {B : Nat} {a w : World} (h : Below B a w) (n : Nat) : Below B a (w.drewN n) := ⟨h.os, h.tape, h.output, h.size, h.block⟩
theorem Rd.drewN {w : World} {A : Option Addr} {n : Nat} {l : List UInt8} (h : Rd w A n l) (k : Nat) : Rd (w.drewN k) A n l := h.block (Nat.le_refl _) (fun _ _ _ => rfl)
theorem boolT : El Try.prog 50 4 (.bool false) 1 1 := ⟨Try.underlying50, by kernel_rfl, rfl, by decide⟩
def boolsOf (K : Nat) (tl : Nat → Bool) : List Value := (List.range K).map fun i => Value.bool (tl i)
theorem made_bools (K : Nat) : (madeCells (Value.bool false).cells (K * 1)).toList = boolsOf K fun _ => false := by
  rw [Nat.mul_one]
  refine (toList_madeCells_one (Value.bool false) K).trans ?_
  unfold boolsOf
  rw [List.map_const', List.length_range]
theorem bools_get (K : Nat) (tl : Nat → Bool) (i : Nat) (hi : i < K) : (boolsOf K tl).toArray[i]? = some (.bool (tl i)) := by
  simp [boolsOf, hi]
theorem bools_set (K : Nat) (tl : Nat → Bool) (i : Nat) : (boolsOf K tl).toArray.setIfInBounds i (.bool true) = (boolsOf K fun j => tl j || decide (j = i)).toArray := by
  rw [List.setIfInBounds_toArray]
  congr 1
  apply List.ext_getElem
  · simp [boolsOf]
  · intro j h1 h2
    rw [List.getElem_set]
    by_cases e : i = j
    · subst e; simp [boolsOf]
    · rw [if_neg e]
      have : ¬ j = i := fun h => e h.symm
      simp [boolsOf, this]

set_option maxRecDepth 100000 in
set_option maxHeartbeats 2000000 in
theorem DiskSafe_walk (nB : Int) (hB : 0 ≤ nB ∧ nB ≤ 255) (A : Option Addr) (n c : Nat) (st : List Stp) (A' : Option Addr) (n' c' : Nat) (st' : List Stp) (A3 : Option Addr) (n3 c3 : Nat) (fs : List (Int × Int)) (w : World)
    (h : SRd w A n st) (h' : SRd w A' n' st') (h3 : FRd w A3 n3 fs) (hn : (n : Int) ≤ 9223372036854775807) (hn' : (n' : Int) ≤ 9223372036854775807) (hn3 : (n3 : Int) ≤ 9223372036854775807) :
    Calls Try.prog 4 #[.int .u8 nB, .slice A n c, .slice A' n' c', .slice A3 n3 c3] w fun e w' => e = .returned (.bool true) ∧ Below w.heap.size w w' := by
  obtain ⟨K, hK, hK1, hK8⟩ : ∃ K : Nat, nB % 8 + 1 = (K : Int) ∧ 1 ≤ K ∧ K ≤ 8 := ⟨(nB % 8 + 1).toNat, by omega, by omega, by omega⟩
  have HK := Lib.hid hK
  clear hK
  have HL := Lib.hid (live_any w)
  have HM1 := Lib.hid (Much_any w A n c st h hn)
  have HM2 := Lib.hid (Much_any w A' n' c' st' h' hn')
  have H := Lib.hid h
  have H' := Lib.hid h'
  have H3 := Lib.hid h3
  clear h h' h3
  go_enter Try.func4, Try.ntmps4
  go_wp2_with fail
  refine HM1.out.mono ?_
  rintro e w' ⟨rfl, r, rfl, hr⟩
  cases r
  case true =>
    clear hr
    go_wp2_with (go_at_call 7; refine HL.out.mono ?_; rintro e w1 ⟨rfl, hB1⟩)
    go_ret
    exact ⟨rfl, hB1⟩
  have hS1 := hr rfl
  have HS1 := Lib.hid hS1
  clear hr hS1
  go_wp2_with fail
  refine HM2.out.mono ?_
  rintro e w' ⟨rfl, r, rfl, hr⟩
  cases r
  case true =>
    clear hr
    go_wp2_with (go_at_call 7; refine HL.out.mono ?_; rintro e w1 ⟨rfl, hB1⟩)
    go_ret
    exact ⟨rfl, hB1⟩
  have hS2 := hr rfl
  have HS2 := Lib.hid hS2
  clear hr hS2
  by_cases h100 : 100 < n3
  · go_wp2_with (go_at_call 7; refine HL.out.mono ?_; rintro e w1 ⟨rfl, hB1⟩)
    go_ret
    exact ⟨rfl, hB1⟩
  go_wp2_with fail
  rw [HK.out]
  have cN := New_dev (K : Int) w ⟨by omega, by omega⟩
  rw [Int.toNat_natCast] at cN
  refine cN.mono ?_
  rintro e w1 ⟨p, rfl, hD1⟩
  have hD1' : Dev w w1 0 p K (fun _ => False) (fun _ => True) := hD1.imp (fun _ _ _ => trivial)
  clear cN hD1
  go_wp2
  go_loopw [11] (fun i wr => ∃ j : Nat, j ≤ n ∧ i = .int .i64 j ∧ Dev w wr (2 * j) p K (fun _ => False) (fun _ => True)) (fun i _ => n - (intOf i).toNat)
  case atStart => exact ⟨0, Nat.zero_le _, rfl, hD1'⟩
  case round =>
    obtain ⟨j, hj, rfl, hD⟩ := hrel
    by_cases hlt : j < n
    · have hw := H.out.below hD.under
      obtain ⟨b, o, hA, _, hc⟩ := hw.2.1 (by omega)
      have hjl : j < st.length := by have := hw.1; omega
      obtain ⟨k0, k1, k2, k3⟩ := hc j hjl
      obtain ⟨y, hy⟩ : ∃ y, y = st[j] := ⟨_, rfl⟩
      have hym : y ∈ st := by rw [hy]; exact List.getElem_mem hjl
      rw [← hy] at k0 k1 k2 k3
      have hn60 := HS1.out.1
      have hdo := do_dev hD (by omega) y (H.out.2.2 y hym) (by have := (HS1.out.2 y hym).2; omega)
      simp only [Stp.val] at hdo
      have HDO := Lib.hid hdo
      clear hw hc hy hdo hD
      subst hA
      go_wp2_with (go_at_call 10; refine HDO.out.mono ?_; rintro e w2 ⟨A2, n2, c2, cd, rfl, hD2, _⟩)
      have hD2' : Dev w w2 (2 * j + 2) p K (fun _ => False) (fun _ => True) := hD2.imp (fun _ _ _ => trivial)
      clear hD2 HDO k0 k1 k2 k3
      go_roundw
      case rel => exact ⟨j + 1, hlt, by go_num, hD2'⟩
      case measure => simp [intOf]; omega
    · have hjn : j = n := by omega
      subst hjn
      have hn60 := HS1.out.1
      have HDD := Lib.hid hD
      clear hD
      go_wp2_with fail
      refine (Crash_dev HDD.out none 0 0 [] ⟨rfl, fun h => absurd h (by omega)⟩ (by omega)).mono ?_
      rintro e w2 ⟨rfl, hD2, _⟩
      go_wp2_with fail
      refine (Bytes_dev hD2).mono ?_
      rintro e w3 ⟨A4, c4, L4, rfl, hc4, hcm4, hr4, hb4, hD3, _⟩
      have hD3' := hD3.imp (Q := fun s => ∀ i, i < K → Un s i ((L4.drop (512 * i)).take 512)) (fun s _ hs i hi => by
        obtain ⟨⟨t, _, _, _, rfl⟩, rfl⟩ := hs
        exact ⟨rfl, rfl⟩)
      clear hD3 hD2 HDD
      go_wp2_with (at_make; refine wpList_mkn _ boolT rfl (.tmp 58) (.tmp 58) rfl w3.heap.size .i64 .i64 _ _ K rfl rfl rfl rfl (by omega) (by unfold maxLen; omega) (Nat.le_refl _) ?_; intro w4 ho4 hB4; rw [made_bools] at ho4)
      obtain ⟨_, _, hT4⟩ := own_full ho4
      have hD4 := hD3'.more hB4 (fun x => x = w3.heap.size) (fun x hx => by rw [hx]; exact ⟨Nat.le_refl _, (Array.getElem?_eq_some_iff.1 hT4).1⟩)
      obtain ⟨g, hg⟩ : ∃ g, g = w3.heap.size := ⟨_, rfl⟩
      obtain ⟨keep, kk⟩ : ∃ keep : Nat → Prop, keep = fun x => (False ∨ (0 < K ∧ ∃ o, A4 = some ⟨x, o, none⟩)) ∨ x = w3.heap.size := ⟨_, rfl⟩
      have KG : Hid (keep g) := Lib.hid (by rw [kk]; exact .inr hg)
      have KA : Hid (∀ b o, A4 = some ⟨b, o, none⟩ → keep b) := Lib.hid (fun b o e => by rw [kk]; exact .inl (.inr ⟨by omega, o, e⟩))
      have GA : Hid (∀ b o, A4 = some ⟨b, o, none⟩ → b ≠ g) := Lib.hid (fun b o e => by
        obtain ⟨b', o', e', hlt', _⟩ := hr4.2 (by omega)
        rw [e] at e'
        injection e' with e'
        injection e' with e1 _
        omega)
      have KG0 : Hid (w.heap.size ≤ g) := Lib.hid (by rw [hg]; exact hD3'.under.size)
      rw [← kk] at hD4
      have HR4 := Lib.hid (hr4.below (Nat.le_refl _) hB4)
      rw [← hg] at hT4 ⊢
      have HT4 := Lib.hid hT4
      have HD4 := Lib.hid hD4
      clear kk hg ho4 hB4 hD3' hr4 hT4 hD4
      go_loopw [14] (fun i wr => ∃ (j2 : Nat) (tl : Nat → Bool), j2 ≤ n' ∧ i = .int .i64 j2 ∧ Dev w wr (2 * j + 2 * j2) p K keep (fun s => ∀ i, i < K → tl i = false → Un s i ((L4.drop (512 * i)).take 512)) ∧ wr.heap[g]? = some (.cells (boolsOf K tl).toArray 4 (0, 0)) ∧ Stays (fun x => ∃ o, A4 = some ⟨x, o, none⟩) w4 wr) (fun i _ => n' - (intOf i).toNat)
      case atStart => exact ⟨0, fun _ => false, Nat.zero_le _, rfl, HD4.out.imp (fun s _ hs i hi _ => hs i hi), HT4.out, Stays.refl _ _⟩
      case round =>
        obtain ⟨j2, tl, hj2, rfl, hD, hT, hSt⟩ := hrel
        by_cases hlt2 : j2 < n'
        · have hw := H'.out.below hD.under
          obtain ⟨b, o, hA, _, hc⟩ := hw.2.1 (by omega)
          have hjl : j2 < st'.length := by have := hw.1; omega
          obtain ⟨k0, k1, k2, k3⟩ := hc j2 hjl
          obtain ⟨y, hy⟩ : ∃ y, y = st'[j2] := ⟨_, rfl⟩
          have hym : y ∈ st' := by rw [hy]; exact List.getElem_mem hjl
          rw [← hy] at k0 k1 k2 k3
          have hn60' := HS2.out.1
          have hdo := do_dev hD (by omega) y (H'.out.2.2 y hym) (by have := (HS2.out.2 y hym).2; omega)
          simp only [Stp.val] at hdo
          have HDO := Lib.hid hdo
          have hq2 : ∀ W, Below w.heap.size w W → W.cell? ⟨b, o + j2 * 4, none⟩ = some (.int .i64 y.d) ∧ W.cell? ⟨b, o + j2 * 4 + 1, none⟩ = some (.int .i64 y.a) ∧ True := fun W hW => by
            have hw := H'.out.below hW
            obtain ⟨b', o', hA', _, hc'⟩ := hw.2.1 (by omega)
            rw [hA] at hA'
            injection hA' with e
            injection e with e1 e2
            subst e1; subst e2
            obtain ⟨r0, r1, _, _⟩ := hc' j2 hjl
            rw [← hy] at r0 r1
            exact ⟨r0, r1, trivial⟩
          have HQ2 := Lib.hid hq2
          have HY := Lib.hid hy
          have HT := Lib.hid hT
          have HSt := Lib.hid hSt
          clear hw hc hy hdo hD hT hSt hq2
          subst hA
          go_wp2_with fail
          refine HDO.out.mono ?_
          rintro e w5 ⟨A5, n5, c5, cd5, rfl, hD5, hS5⟩
          obtain ⟨q0, q1, _⟩ := HQ2.out w5 hD5.under
          have hT5 := (hS5.2 g KG.out).trans HT.out
          have HSt5 := Lib.hid (HSt.out.trans (hS5.less (fun x hx => by obtain ⟨o, e⟩ := hx; exact KA.out x o e)))
          have HD5 := Lib.hid hD5
          clear HDO k0 k1 k2 k3 hD5 hS5
          by_cases ht : y.d = 1 ∧ 0 ≤ y.a ∧ y.a < K
          · obtain ⟨hd1, ha0, haK⟩ := ht
            obtain ⟨i0, hi0⟩ : ∃ i0 : Nat, y.a = (i0 : Int) := ⟨y.a.toNat, by omega⟩
            rw [hd1] at q0
            rw [hi0] at q1
            have hi0K : i0 < K := by omega
            have hcell : w5.cell? ⟨g, i0, none⟩ = some (.bool (tl i0)) := by
              rw [cell_of_row _ _ _ _ _ _ hT5]
              exact bools_get K tl i0 hi0K
            have hfz : w5.frozen? ⟨g, i0, none⟩ = false := by simp [World.frozen?, hT5]
            have hD6 : Dev w w5 (2 * j + 2 * (j2 + 1)) p K keep (fun s => ∀ i, i < K → (tl i || decide (i = i0)) = false → Un s i ((L4.drop (512 * i)).take 512)) := HD5.out.imp (fun s' _ hs i hi hti => by
              obtain ⟨s, hw, hk, hP, rfl⟩ := hs
              simp only [Bool.or_eq_false_iff, decide_eq_false_iff_not] at hti
              exact go_un hw y i (by omega) _ (hP i hi hti.1) (fun h => hti.2 (by omega)))
            have hT6 : (w5.setCell ⟨g, i0, none⟩ (.bool true)).heap[g]? = some (.cells (boolsOf K fun q => tl q || decide (q = i0)).toArray 4 (0, 0)) := by
              rw [heap_setCell_at hT5, bools_set]
            have hS6 : Stays (fun x => ∃ o, A4 = some ⟨x, o, none⟩) w5 (w5.setCell ⟨g, i0, none⟩ (.bool true)) := ⟨by simp [World.setCell], fun x hx => Below.heap_setCell w5 _ _ x (fun e => by
              obtain ⟨o4, e4⟩ := hx
              exact GA.out x o4 e4 e)⟩
            have HD6 := Lib.hid (hD6.set KG.out KG0.out i0 (.bool true))
            have HT6 := Lib.hid hT6
            have HS6 := Lib.hid hS6
            clear hd1 hi0 hT5 hD6 hT6 hS6 HD5
            go_wp2
            go_roundw
            case rel => exact ⟨j2 + 1, _, hlt2, by go_num, HD6.out, HT6.out, HSt5.out.trans HS6.out⟩
            case measure => simp [intOf]; omega
          · have hD6 : Dev w w5 (2 * j + 2 * (j2 + 1)) p K keep (fun s => ∀ i, i < K → tl i = false → Un s i ((L4.drop (512 * i)).take 512)) := HD5.out.imp (fun s' _ hs i hi hti => by
              obtain ⟨s, hw, hk, hP, rfl⟩ := hs
              exact go_un hw y i (by omega) _ (hP i hi hti) (fun h => ht ⟨h.1, by omega, by omega⟩))
            have HD6 := Lib.hid hD6
            have HT5 := Lib.hid hT5
            clear hD6 hT5 HD5
            by_cases hd1 : y.d = 1
            · rw [hd1] at q0
              by_cases ha0 : 0 ≤ y.a
              · have haK : ¬ y.a < (K : Int) := fun h => ht ⟨hd1, ha0, h⟩
                clear ht hd1
                go_wp2
                go_roundw
                case rel => exact ⟨j2 + 1, tl, hlt2, by go_num, HD6.out, HT5.out, HSt5.out⟩
                case measure => simp [intOf]; omega
              · clear ht hd1
                go_wp2
                go_roundw
                case rel => exact ⟨j2 + 1, tl, hlt2, by go_num, HD6.out, HT5.out, HSt5.out⟩
                case measure => simp [intOf]; omega
            · clear ht
              go_wp2
              go_roundw
              case rel => exact ⟨j2 + 1, tl, hlt2, by go_num, HD6.out, HT5.out, HSt5.out⟩
              case measure => simp [intOf]; omega
        · have hjn2 : j2 = n' := by omega
          subst hjn2
          have HDD := Lib.hid hD
          have HTT := Lib.hid hT
          have HST := Lib.hid hSt
          clear hD hT hSt
          go_wp2_with fail
          refine (Crash_dev HDD.out A3 n3 c3 fs H3.out (by omega)).mono ?_
          rintro e w5 ⟨rfl, hD5, hS5⟩
          have hD5' := hD5.imp (Q := fun s => (∀ i, s.wait i = []) ∧ s.off = false ∧ s.fuse = -1 ∧ ∀ i, i < K → tl i = false → s.sec i = (L4.drop (512 * i)).take 512) (fun s' _ hs => by
            obtain ⟨s, hw, hk, hP, rfl⟩ := hs
            refine ⟨fun _ => rfl, rfl, rfl, fun i hi hti => ?_⟩
            obtain ⟨h1, h2⟩ := hP i hi hti
            exact (crash_clean hw _ i h1).trans h2)
          have hT5 := (hS5.2 g KG.out).trans HTT.out
          have HSt5 := Lib.hid (HST.out.trans (hS5.less (fun x hx => by obtain ⟨o, e⟩ := hx; exact KA.out x o e)))
          clear hD5 hS5 HDD HTT HST
          go_wp2_with fail
          refine (Bytes_dev hD5').mono ?_
          rintro e w6 ⟨A6, c6, L6, rfl, hc6, hcm6, hr6, hb6, hD6, hS6⟩
          have hT6 := (hS6.2 g KG.out).trans hT5
          have hrW := HR4.out.stays (HSt5.out.trans (hS6.less (fun x hx => by obtain ⟨o, e⟩ := hx; exact KA.out x o e))) (fun b o e => ⟨o, e⟩)
          have hLL : ∀ i, i < K → tl i = false → (L6.drop (512 * i)).take 512 = (L4.drop (512 * i)).take 512 := by
            obtain ⟨own, s, _, _, _, _, _, ⟨_, _, _, hP⟩, hs⟩ := hD6
            intro i hi hti
            have := hP i hi hti
            unfold St.sec at this
            rwa [hs] at this
          obtain ⟨b6, o6, hA6, _, _⟩ := hr6.2 (by omega)
          obtain ⟨b4, o4, hA4, _, _⟩ := hrW.2 (by omega)
          unfold maxLen at hcm6 hcm4
          have HR6 := Lib.hid hr6
          have HRW := Lib.hid hrW
          have HD6 := Lib.hid hD6
          have HT6 := Lib.hid hT6
          have HLL := Lib.hid hLL
          have HS5 := Lib.hid hS6
          have HUN : Hid (Below w.heap.size w w6) := Lib.hid hD6.under
          have K6 : Hid (∀ x o, A6 = some ⟨x, o, none⟩ → w.heap.size ≤ x) := Lib.hid hb6
          clear hr6 hrW hD6 hT6 hLL hS6 hT5 hD5' HSt5 HR4 hb6
          subst hA6
          subst hA4
          go_wp2_with (go_at_call 13; refine (Off_dev HD6.out (fun s hs => hs.1.2.1)).mono ?_; rintro e w' ⟨rfl, rfl⟩)
          go_loopw [16] (fun i wr => ∃ j3 : Nat, j3 ≤ K ∧ i = .int .i64 j3 ∧ Below w6.heap.size w6 wr) (fun i _ => K - (intOf i).toNat)
          case atStart => exact ⟨0, Nat.zero_le _, rfl, Below.refl _ _⟩
          case round =>
            obtain ⟨j3, hj3, rfl, hBr⟩ := hrel
            by_cases hlt3 : j3 < K
            · have hcell : wr.cell? ⟨g, j3, none⟩ = some (.bool (tl j3)) := by
                rw [cell_of_row _ _ _ _ _ _ ((hBr.block g (Array.getElem?_eq_some_iff.1 HT6.out).1).trans HT6.out)]
                exact bools_get K tl j3 hlt3
              have hcelld : wr.drew.cell? ⟨g, j3, none⟩ = some (.bool (tl j3)) := hcell
              have hq6 := ((HR6.out.below (Nat.le_refl _) hBr).part (lo := 512 * j3) (m := 512) (by omega) (some ⟨b6, o6 + 512 * j3, none⟩) (fun _ x y e => by injection e with e; injection e with e1 e2; subst e1; subst e2; rfl))
              have hq4 := ((HRW.out.below (Nat.le_refl _) hBr).part (lo := 512 * j3) (m := 512) (by omega) (some ⟨b4, o4 + 512 * j3, none⟩) (fun _ x y e => by injection e with e; injection e with e1 e2; subst e1; subst e2; rfl))
              have HBr := Lib.hid hBr
              clear hBr
              have g0 : (0 : Int) ≤ 512 * (j3 : Int) := by omega
              have g1 : 512 * (j3 : Int) ≤ 512 * (j3 : Int) + 512 := by omega
              have g2 : 512 * (j3 : Int) + 512 ≤ (c6 : Int) := by omega
              have g3 : 512 * (j3 : Int) + 512 ≤ (c4 : Int) := by omega
              have g4 : ¬ c6 = 512 * j3 := by omega
              have g5 : ¬ c4 = 512 * j3 := by omega
              have g6 : (512 * (j3 : Int)).toNat = 512 * j3 := by omega
              have g7 : (512 * (j3 : Int) + 512).toNat = 512 * j3 + 512 := by omega
              have g8 : 512 * j3 + 512 - 512 * j3 = 512 := by omega
              have w1' : IntKind.i64.wrap (512 * (j3 : Int)) = 512 * (j3 : Int) := by exact IntWalk.i64_in _ ⟨by omega, by omega⟩
              have w2' : IntKind.i64.wrap (512 * (j3 : Int) + 512) = 512 * (j3 : Int) + 512 := by exact IntWalk.i64_in _ ⟨by omega, by omega⟩
              cases htl : tl j3
              · rw [htl] at hcell hcelld
                have e := HLL.out j3 hlt3 htl
                rw [e] at hq6
                have HQ6 := Lib.hid hq6
                have HQ4 := Lib.hid hq4
                clear htl e hq6 hq4
                go_wp2_with fail
                go_quiet ((go_at_call 12; exact Calls.quiet_of_same ((Same_yes _ _ 512 _ 512 _ _ _ (HQ6.out.drewN _) (HQ4.out.drewN _)).mono fun _ _ ⟨he, hw⟩ => ⟨he, hw.symm⟩)))
                all_goals
                  clear g6 g7 g8 w1' w2'
                  go_wp2
                  go_roundw
                  case rel => exact ⟨j3 + 1, hlt3, by go_num, below_drewN HBr.out _⟩
                  case measure => simp [intOf]; omega
              · rw [htl] at hcell hcelld
                clear htl hq6 hq4
                go_wp2_with fail
                go_quiet (fail)
                all_goals
                  clear g6 g7 g8 w1' w2'
                  go_wp2
                  go_roundw
                  case rel => exact ⟨j3 + 1, hlt3, by go_num, below_drewN HBr.out _⟩
                  case measure => simp [intOf]; omega
            · have hD7 := HD6.out.below hBr
              have hq6 := HR6.out.below (Nat.le_refl _) hBr
              have HQ6 := Lib.hid hq6
              have HBr := Lib.hid hBr
              have HD7 := Lib.hid hD7
              clear hBr hD7 hq6
              go_wp2_with fail
              refine (Sync_dev HD7.out (fun s hs => by obtain ⟨⟨_, h2, h3, _⟩, _⟩ := hs; unfold St.ok; rw [h2, h3]; rfl)).mono ?_
              rintro e w7 ⟨rfl, hD8, hS8⟩
              have HD8 := Lib.hid (hD8.imp (Q := fun s => (∀ i, s.wait i = []) ∧ s.safe = L6) (fun s' _ hs => by
                obtain ⟨s, hw, hk, ⟨⟨h1, _⟩, h5⟩, rfl⟩ := hs
                have hb : SWf s.burn := ⟨hw.len, hw.w512, hw.inside⟩
                exact ⟨fun _ => rfl, (sync_clean hb h1).trans h5⟩))
              have HS8 := Lib.hid hS8
              clear hD8 hS8
              go_wp2_with (go_at_call 23; refine (dcode_any _ _).mono ?_; rintro e w' ⟨rfl, rfl⟩)
              refine (Crash_dev HD8.out A3 n3 c3 fs H3.out (by omega)).mono ?_
              rintro e w8 ⟨rfl, hD9, hS9⟩
              have hD9' := hD9.imp (Q := fun s => (∀ i, s.wait i = []) ∧ s.safe = L6) (fun s' _ hs => by
                obtain ⟨s, hw, hk, ⟨h1, h5⟩, rfl⟩ := hs
                exact ⟨fun _ => rfl, (crash_nothing _ h1).trans h5⟩)
              have HD9 := Lib.hid hD9'
              have HS9 := Lib.hid hS9
              clear hD9 hD9' hS9
              have hq8 := (HQ6.out.stays HS8.out (fun b o e => .inr ⟨by omega, o, e⟩)).stays HS9.out (fun b o e => .inr ⟨by omega, o, e⟩)
              have HQ8 := Lib.hid hq8
              clear hq8
              go_wp2_with fail
              refine (Bytes_dev HD9.out).mono ?_
              rintro e w9 ⟨A9, c9, L9, rfl, hc9, hcm9, hr9, _, hD10, hS10⟩
              have hL9 : L9 = L6 := by
                obtain ⟨own, s, _, _, _, _, _, ⟨_, h1⟩, h2⟩ := hD10
                exact h2.symm.trans h1
              rw [hL9] at hr9
              have HR9 := Lib.hid hr9
              have HQ9 := Lib.hid (HQ8.out.stays hS10 (fun b o e => .inr ⟨by omega, o, e⟩))
              have HD10 := Lib.hid (hD10.imp (Q := fun s => s.dirty = []) (fun s _ hs => dirty_nil s hs.1.1))
              clear hr9 hL9 hD10 hS10 hcm9
              go_wp2_with fail
              refine (Same_yes _ _ (512 * K) _ (512 * K) _ _ _ HR9.out HQ9.out).mono ?_
              rintro e w' ⟨rfl, rfl⟩
              go_wp2_with fail
              refine (Dirty_dev HD10.out (fun _ hs => hs)).mono ?_
              rintro e w10 ⟨A10, c10, rfl, hB10⟩
              have HB10 := Lib.hid (HD10.out.under.trans (hB10.mono HD10.out.under.size))
              clear hB10
              go_wp2_with fail
              refine (live_any w10).mono ?_
              rintro e w11 ⟨rfl, hB11⟩
              go_wp2
              go_ret
              exact ⟨rfl, HB10.out.trans (hB11.mono HB10.out.size)⟩
end Go.Proofs.Ytpppnfflgbncjaa
