/- TbW2 -/
import Derived.Test.YtnjfogeefdmlkaaDoorQl18
import Derived.Deep.DeepCutAuto
namespace Go.Proofs.YtnjfogeefdmlkaaDoor
open Go.RowKit
set_option maxRecDepth 100000
set_option linter.unusedSimpArgs false
set_option linter.unusedVariables false

/-- Both tables as they are loaded. -/
theorem TI.loaded {w w2 w5 w6 : World} {p m : Nat} {v : Value} {q : Nat → Nat} {s : Nat} {tag : Nat → Nat} {t : Tb} {d : Rt} (hA : TbA w5 w2.heap.size tag p m v q s t) (hR : RtS (fun y => y < w.heap.size ∨ (w5.heap.size ≤ y ∧ y < w6.heap.size)) w6 d t) (hb : Below w5.heap.size w5 w6) (hs : w.heap.size ≤ w2.heap.size) (hs5 : w2.heap.size ≤ w5.heap.size) :
    TI w2.heap.size p m q s t tag v (fun y => y < w.heap.size ∨ (w5.heap.size ≤ y ∧ y < w6.heap.size)) d w6 :=
  ⟨hA.below hb, hR, fun x hx => by
    have := hb.size
    rcases hx with h | h
    · exact ⟨by omega, hA.zero (by omega)⟩
    · exact ⟨h.2, hA.over h.1⟩⟩
/-- .. and the reference's laid in a block of its own. -/
def Laid9 (N : Nat) (p m : Nat) (q : Nat → Nat) (s : Nat) (t : Tb) (tag : Nat → Nat) (v : Value) (K : Nat → Prop) (d : Rt) (g : Nat) (w2 W : World) : Prop :=
  TI N p m q s t tag v K d W ∧ Rec 40 W g d.cs ∧ tag g = 0 ∧ w2.heap.size ≤ g ∧ Below w2.heap.size w2 W
theorem TI.laid {w2 w6 w7 w8 : World} {N p m : Nat} {v : Value} {q : Nat → Nat} {s : Nat} {tag : Nat → Nat} {t : Tb} {d : Rt} {K : Nat → Prop} (h : TI N p m q s t tag v K d w6) (hb : Below w6.heap.size w6 w7) (hF : Fr (· = w6.heap.size) w7 w8) (hR : Rec 40 w8 w6.heap.size d.cs) (h2 : Below w2.heap.size w2 w6) :
    Laid9 N p m q s t tag v K d w6.heap.size w2 w8 := by
  have hz : tag w6.heap.size = 0 := h.a.over (Nat.le_refl _)
  refine ⟨(h.below hb).turn hF hz (fun hx => by have := (h.k _ hx).1; omega), hR, hz, h2.size, (h2.trans (hb.mono h2.size)).trans (hF.toBelow (fun x hx => by rw [show x = w6.heap.size from hx]; exact h2.size) (Nat.le_trans h2.size hb.size))⟩
theorem TI.laidG {w2 w8 w9 : World} {N p m : Nat} {v : Value} {q : Nat → Nat} {s : Nat} {tag : Nat → Nat} {t : Tb} {d : Rt} {K : Nat → Prop} {g : Nat} (h : Laid9 N p m q s t tag v K d g w2 w8) (hb : Below w8.heap.size w8 w9) : Laid9 N p m q s t tag v K d g w2 w9 :=
  ⟨h.1.below hb, h.2.1.under hb, h.2.2.1, h.2.2.2.1, h.2.2.2.2.trans (hb.mono h.2.2.2.2.size)⟩

section
variable (lg pg en gn : Int) (A : Option Addr) (n cap : Nat) (ks : List Kd) (w : World) (s : Nat) (IA : Option Addr) (im ic : Nat) (ids : List (Int × Int)) (CA : Option Addr) (cn cx : Nat) (cols : List (List UInt8)) (LA : Option Addr) (ln lc : Nat) (st : List Tst) (comp : Int)
set_option maxHeartbeats 1000000 in
theorem TableLoads_much (h : KRd w A n ks) (hn : n ≤ 9223372036854775807) (hL : Lens ks) (hT : TabAt w) :
    (muchK ks = true → Calls Tryd.prog 3 #[cv lg pg en gn A n cap, .int .u64 (s : Nat), .slice IA im ic, .slice CA cn cx, .slice LA ln lc, .int .i64 comp] w fun e w' => e = .returned (.bool true) ∧ Below w.heap.size w w') := by
  intro hmu
  obtain ⟨w1, hw1⟩ : ∃ w1, w1 = w.alloc (.cells (cc lg pg en gn A n cap) 24) := ⟨_, rfl⟩
  have hb1 : Below w.heap.size w w1 := by rw [hw1]; exact (Below.refl _ _).alloc (Nat.le_refl _) _
  have HR1 := Lib.hid (show Rec 24 w1 w.heap.size (cc lg pg en gn A n cap) by rw [hw1]; exact Rec.new _ _ _)
  have CM := Much_any lg pg en gn A n cap ks w1 (h.below hb1) hn hL
  rw [hmu] at CM
  have CM := Lib.hid CM
  have HB1 := Lib.hid hb1
  have HT := Lib.hid hT
  clear h hT hb1 hL hmu
  go_enter Tryd.func3, Tryd.ntmps3
  go_wp2_with (first
    | (rw [← hw1]; clear hw1)
    | (with_reducible refine wpList_ldS confT rfl rfl (.tmp 6) rfl rfl HR1.out ?_)
    | (go_at_call 4; refine CM.out.mono ?_; rintro e w2 ⟨rfl, hb2⟩; have HB2 := Lib.hid (HB1.out.trans (hb2.mono HB1.out.size)); clear hb2)
    | (go_at_call 6; refine (tlive_any _ (HT.out.below HB2.out)).mono ?_; rintro e w3 ⟨rfl, hb3⟩; have HB3 := Lib.hid hb3; clear hb3))
  go_ret
  exact ⟨rfl, HB2.out.trans (HB3.out.mono HB2.out.size)⟩

/-- May these be loaded? -/
def LdOk (n : Nat) (zs : Nat → Int) (s im cn : Nat) (cols : List (List UInt8)) : Prop :=
  (s &&& ofL (idxs n) 64 = s ∧ cn = (Tb.new n zs s).cs.length ∧ im ≤ 1024) ∧ colsFit (Tb.new n zs s).cs im cols (Tb.new n zs s).cs.length
theorem LdNo (h : KRd w A n ks) (hn : n ≤ 1000000) (hs : s < 18446744073709551616) (hids : IdsRd w IA im ids) (hcols : ColsRd w CA cn cols) (hT : TabAt w) (him : im ≤ 1000) (hcn : cn ≤ 1000) (hall : ∀ k, k < cn → (cols.getD k []).length ≤ 1000) (hno : ¬ LdOk n (zsK ks) s im cn cols) (W : World) (hW : Below w.heap.size w W) :
    (Calls Tryd.prog 7 #[.agg #[.int .i64 lg, .int .i64 pg, .int .i64 en, .int .i64 gn, .slice A n cap], .int .u64 (s : Nat), .slice IA im ic, .slice CA cn cx] W fun e w' => e = .returned (.tuple #[.pointer none, .int .i64 11]) ∧ Below W.heap.size W w') ∧
    Calls Tryd.prog 8 #[.agg #[.int .i64 lg, .int .i64 pg, .int .i64 en, .int .i64 gn, .slice A n cap], .int .u64 (s : Nat), .slice IA im ic, .slice CA cn cx] W (RLBad W) := by
  by_cases ho : s &&& ofL (idxs n) 64 = s ∧ cn = (Tb.new n (zsK ks) s).cs.length ∧ im ≤ 1024
  · obtain ⟨e1, hiv⟩ := hids
    subst e1
    obtain ⟨h1, h2, h3⟩ := ho
    subst h2
    have hnf : ¬ colsFit (Tb.new n (zsK ks) s).cs ids.length cols (Tb.new n (zsK ks) s).cs.length := fun hf => hno ⟨⟨h1, rfl, h3⟩, hf⟩
    constructor
    · refine (TLoad_any lg pg en gn A n cap ks W (h.below hW) hn s hs (hT.below hW) IA ic ids CA cx cols _ rfl (IdsV.below hiv hW) (hcols.2.1.below hW) h1 h3).mono ?_
      rintro e w' ⟨hB, hh⟩
      rcases hh with ⟨hf, _⟩ | ⟨_, he⟩
      · exact absurd hf hnf
      · exact ⟨he, hB⟩
    · refine (RLoad_some (K := (· < w.heap.size)) lg pg en gn A n cap ks W (h.below hW) hn s hs IA ic ids CA cx cols _ rfl (IdsV.below hiv hW) (hcols.2.1.below hW) h1 h3 ?_ (fun j hj => Nat.le_trans (hall j hj) (by decide))).mono ?_
      · intro k uA un uc b o e hk hc
        obtain ⟨b', o', e', hlt, hx⟩ := hcols.2.2.2 (by omega)
        rw [e] at e'
        injection e' with e'
        injection e' with e1 e2
        subst e1 e2
        exact hcols.2.2.1 k uA un uc b o e hk ((hW.cell (p := ⟨b, o + k, none⟩) hlt).symm.trans hc)
      · rintro e w' ⟨hB, hh⟩
        rcases hh with ⟨hf, _⟩ | ⟨_, he⟩
        · exact absurd hf hnf
        · exact ⟨he, hB⟩
  · constructor
    · exact (TLoad_no lg pg en gn A n cap ks W (h.below hW) hn s hs (hT.below hW) IA im ic CA cn cx (by omega) (by omega) ho).mono fun e w' hh => hh
    · exact RLoad_no lg pg en gn A n cap ks W (h.below hW) hn s hs IA im ic CA cn cx (by omega) (by omega) ho
theorem LdYes (h : KRd w A n ks) (hn : n ≤ 1000000) (hs : s < 18446744073709551616) (hids : IdsRd w IA im ids) (hcols : ColsRd w CA cn cols) (hT : TabAt w) (hall : ∀ k, k < cn → (cols.getD k []).length ≤ 1000) (hok : LdOk n (zsK ks) s im cn cols) (W : World) (hW : Below w.heap.size w W) :
    (Calls Tryd.prog 7 #[.agg #[.int .i64 lg, .int .i64 pg, .int .i64 en, .int .i64 gn, .slice A n cap], .int .u64 (s : Nat), .slice IA im ic, .slice CA cn cx] W fun e w' => ∃ p m v q tag, e = .returned (.tuple #[.pointer (some ⟨p, 0, none⟩), .int .i64 0]) ∧ TbA w' W.heap.size tag p m v q s ⟨(Tb.new n (zsK ks) s).cs, ldRows (Tb.new n (zsK ks) s).cs ids cols ids.length⟩ ∧ Below W.heap.size W w') ∧
    Calls Tryd.prog 8 #[.agg #[.int .i64 lg, .int .i64 pg, .int .i64 en, .int .i64 gn, .slice A n cap], .int .u64 (s : Nat), .slice IA im ic, .slice CA cn cx] W fun e w' => ∃ d : Rt, e = .returned (.tuple #[.agg d.cs, .int .i64 0]) ∧ RtS (fun y => y < w.heap.size ∨ (W.heap.size ≤ y ∧ y < w'.heap.size)) w' d ⟨(Tb.new n (zsK ks) s).cs, ldRows (Tb.new n (zsK ks) s).cs ids cols ids.length⟩ ∧ Below W.heap.size W w' := by
  obtain ⟨⟨h1, h2, h3⟩, hf⟩ := hok
  obtain ⟨e1, hiv⟩ := hids
  subst e1
  subst h2
  constructor
  · refine (TLoad_any lg pg en gn A n cap ks W (h.below hW) hn s hs (hT.below hW) IA ic ids CA cx cols _ rfl (IdsV.below hiv hW) (hcols.2.1.below hW) h1 h3).mono ?_
    rintro e w' ⟨hB, hh⟩
    rcases hh with ⟨_, p, m, v, q, tag, he, hI⟩ | ⟨hnf, _⟩
    · exact ⟨p, m, v, q, tag, he, TbA.loaded hs rfl h1 h3 hf hI, hB⟩
    · exact absurd hf hnf
  · refine (RLoad_some (K := (· < w.heap.size)) lg pg en gn A n cap ks W (h.below hW) hn s hs IA ic ids CA cx cols _ rfl (IdsV.below hiv hW) (hcols.2.1.below hW) h1 h3 ?_ (fun j hj => Nat.le_trans (hall j hj) (by decide))).mono ?_
    · intro k uA un uc b o e hk hc
      obtain ⟨b', o', e', hlt, hx⟩ := hcols.2.2.2 (by omega)
      rw [e] at e'
      injection e' with e'
      injection e' with e1 e2
      subst e1 e2
      exact hcols.2.2.1 k uA un uc b o e hk ((hW.cell (p := ⟨b, o + k, none⟩) hlt).symm.trans hc)
    · rintro e w' ⟨hB, hh⟩
      rcases hh with ⟨_, d, he, hR⟩ | ⟨hnf, _⟩
      · exact ⟨d, he, hR, hB⟩
      · exact absurd hf hnf

set_option maxHeartbeats 8000000 in
theorem TableLoads_walk (h : KRd w A n ks) (hn : n ≤ 9223372036854775807) (hL : Lens ks) (hs : s < 18446744073709551616) (hids : IdsRd w IA im ids) (him : im ≤ 9223372036854775807) (hcols : ColsRd w CA cn cols) (hcn : cn ≤ 9223372036854775807) (hl : TSRd (· < w.heap.size) w LA ln st) (hln : ln ≤ 9223372036854775807) (hk : In64 comp) (hT : TabAt w) :
    Calls Tryd.prog 3 #[cv lg pg en gn A n cap, .int .u64 (s : Nat), .slice IA im ic, .slice CA cn cx, .slice LA ln lc, .int .i64 comp] w fun e w' => e = .returned (.bool true) ∧ Below w.heap.size w w' := by
  cases hmu : muchK ks with
  | true => exact TableLoads_much lg pg en gn A n cap ks w s IA im ic CA cn cx LA ln lc comp h hn hL hT hmu
  | false =>
    have hn50 : n ≤ 1000000 := by have := much_le hmu; have := h.1; omega
    obtain ⟨w1, hw1⟩ : ∃ w1, w1 = w.alloc (.cells (cc lg pg en gn A n cap) 24) := ⟨_, rfl⟩
    have hb1 : Below w.heap.size w w1 := by rw [hw1]; exact (Below.refl _ _).alloc (Nat.le_refl _) _
    have HR1 := Lib.hid (show Rec 24 w1 w.heap.size (cc lg pg en gn A n cap) by rw [hw1]; exact Rec.new _ _ _)
    have CM := Much_any lg pg en gn A n cap ks w1 (h.below hb1) hn hL
    rw [hmu] at CM
    have CM := Lib.hid CM
    have HB1 := Lib.hid hb1
    have HT := Lib.hid hT
    have H := Lib.hid h
    have HL := Lib.hid hl
    have HI := Lib.hid hids
    have HC := Lib.hid hcols
    clear h hT hb1 hL hl hmu hids hcols
    go_enter Tryd.func3, Tryd.ntmps3
    go_wp2_with (first
      | (rw [← hw1]; clear hw1)
      | (with_reducible refine wpList_ldS confT rfl rfl (.tmp 6) rfl rfl HR1.out ?_)
      | (go_at_call 4; refine CM.out.mono ?_; rintro e wm ⟨rfl, hb2⟩; have HRM := Lib.hid (HR1.out.under hb2); have HBM := Lib.hid (HB1.out.trans (hb2.mono HB1.out.size)); clear hb2))
    refine (TMuch_any wm LA ln lc st (HL.out.below HBM.out) hln).mono ?_
    rintro e w3 ⟨rfl, r, rfl, hr⟩
    cases r
    case true =>
      clear hr
      go_wp2_with (go_at_call 6; refine (tlive_any _ (HT.out.below HBM.out)).mono ?_; rintro e w3 ⟨rfl, hb3⟩; have HB3 := Lib.hid hb3; clear hb3)
      go_ret
      exact ⟨rfl, HBM.out.trans (HB3.out.mono HBM.out.size)⟩
    obtain ⟨h60, h40⟩ := hr rfl
    have H40 := Lib.hid h40
    have H60 := Lib.hid h60
    clear hr h40 h60 CM HR1 HB1
    by_cases him100 : im ≤ 100
    case neg =>
      have q1 : decide ((100 : Int) < (im : Int)) = true := decide_eq_true (by omega)
      go_wp2_with (go_at_call 6; refine (tlive_any _ (HT.out.below HBM.out)).mono ?_; rintro e w3 ⟨rfl, hb3⟩; have HB3 := Lib.hid hb3; clear hb3)
      go_ret
      exact ⟨rfl, HBM.out.trans (HB3.out.mono HBM.out.size)⟩
    by_cases hcn70 : cn ≤ 70
    case neg =>
      have q1 : decide ((100 : Int) < (im : Int)) = false := decide_eq_false (by omega)
      have q2 : decide ((70 : Int) < (cn : Int)) = true := decide_eq_true (by omega)
      go_wp2_with (go_at_call 6; refine (tlive_any _ (HT.out.below HBM.out)).mono ?_; rintro e w3 ⟨rfl, hb3⟩; have HB3 := Lib.hid hb3; clear hb3)
      go_ret
      exact ⟨rfl, HBM.out.trans (HB3.out.mono HBM.out.size)⟩
    have q1 : decide ((100 : Int) < (im : Int)) = false := decide_eq_false (by omega)
    have q2 : decide ((70 : Int) < (cn : Int)) = false := decide_eq_false (by omega)
    go_wp2_with fail
    clear q1 q2
    go_loopw [13] (fun iv wr => ∃ j : Nat, j ≤ cn ∧ iv = .int .i64 j ∧ Below wm.heap.size wm wr ∧ ∀ k, k < j → (cols.getD k []).length ≤ 1000) (fun iv _ => cn - (intOf iv).toNat)
    case atStart => exact ⟨0, Nat.zero_le _, rfl, Below.refl _ _, fun k hk => absurd hk (Nat.not_lt_zero k)⟩
    obtain ⟨jc, hjc, rfl, hBr, hall⟩ := hrel
    have HBr := Lib.hid hBr
    have HA := Lib.hid hall
    clear hBr hall
    by_cases hjn : jc < cn
    case pos =>
      obtain ⟨b, o, rfl, hlt, hx⟩ := HC.out.2.2.2 (by omega)
      obtain ⟨uA, un, uc, hcell, hlen, humx⟩ := hx jc hjn
      have k0 := ((HBM.out.trans (HBr.out.mono HBM.out.size)).cell (p := ⟨b, o + jc, none⟩) hlt).trans hcell
      have HLen := Lib.hid hlen
      unfold maxLen at humx
      clear hx hcell hlen
      by_cases hun : un ≤ 1000
      · have q1 : decide ((1000 : Int) < (un : Int)) = false := decide_eq_false (by omega)
        go_wp2_with fail
        go_roundw
        case rel =>
          refine ⟨jc + 1, hjn, by go_num, HBr.out, fun k hk => ?_⟩
          by_cases e : k = jc
          · rw [e, HLen.out]; exact hun
          · exact HA.out k (by omega)
        case measure => simp [intOf]; omega
      · have q1 : decide ((1000 : Int) < (un : Int)) = true := decide_eq_true (by omega)
        have HBw := Lib.hid (HBM.out.trans (HBr.out.mono HBM.out.size))
        go_wp2_with (go_at_call 6; refine (tlive_any _ (HT.out.below HBw.out)).mono ?_; rintro e w3 ⟨rfl, hb3⟩; have HB3 := Lib.hid hb3; clear hb3)
        go_ret
        exact ⟨rfl, HBw.out.trans (HB3.out.mono HBw.out.size)⟩
    obtain rfl : jc = cn := by omega
    clear hjn hjc
    have hR4 := HRM.out.under HBr.out
    have hB2 := HBM.out.trans (HBr.out.mono HBM.out.size)
    obtain ⟨w2, hw2⟩ : ∃ v, v = wr := ⟨_, rfl⟩
    subst hw2
    have HR2 := Lib.hid hR4
    have HB2 := Lib.hid hB2
    have HS2 := Lib.hid hB2.size
    clear hR4 hB2 HBr HRM HBM
    by_cases hgood : LdOk n (zsK ks) s im jc cols
    case neg =>
      have CT0 := fun W (hW : Below w.heap.size w W) => LdNo lg pg en gn A n cap ks w s IA im ic ids CA jc cx cols H.out hn50 hs HI.out HC.out HT.out (by omega) (by omega) HA.out hgood W hW
      have CT := Lib.hid CT0
      clear CT0 hgood H HL H40 H60 HI HC HA
      go_wp2_with (first
        | (go_at_call 7; refine (CT.out _ HB2.out).1.mono ?_; rintro e w5 ⟨rfl, hb5⟩; have HR5 := Lib.hid (HR2.out.under hb5); have HB5 := Lib.hid (HB2.out.trans (hb5.mono HB2.out.size)); clear hb5 HR2)
        | (with_reducible refine wpList_ldS confT rfl rfl (.tmp 6) rfl rfl HR2.out ?_)
        | (with_reducible refine wpList_ldS confT rfl rfl (.tmp 6) rfl rfl HR5.out ?_)
        | (go_at_call 8; refine (CT.out _ HB5.out).2.mono ?_; rintro e w6 ⟨rfl, hb6⟩; obtain ⟨w7, hw7⟩ : ∃ w7, w7 = w6.alloc (.cells #[.slice none 0 0, .slice none 0 0, .slice none 0 0] 40) := ⟨_, rfl⟩; have HW7 := Lib.hid hw7; have HB6 := Lib.hid (HB5.out.trans (hb6.mono HB5.out.size)); have HR7 := Lib.hid (show Rec 40 w7 w6.heap.size zT from (by rw [hw7]; exact Rec.new _ _ _)); have HB67 := Lib.hid (show Below w6.heap.size w6 w7 from (by rw [hw7]; exact (Below.refl _ _).alloc (Nat.le_refl _) _)); clear hw7 hb6)
        | (rw [← HW7.out]; clear HW7)
        | (with_reducible refine wpList_stZ ⟨none, 0, 0, none, 0, 0, none, 0, 0⟩ rfl (.tmp 16) (.tmp 77) rfl rfl rfl HR7.out ?_; intro w8 hR8 hF8; have HB8 := Lib.hid (HB6.out.trans ((HB67.out.trans (hF8.toBelow (fun x hx => by rw [show x = w6.heap.size from hx]; exact Nat.le_refl _) HB67.out.size)).mono HB6.out.size)); clear hR8 hF8)
        | (go_at_call 9; refine (TDrop_nil 0 _).mono ?_; rintro e wd ⟨rfl, hbd⟩; obtain ⟨we, hwe⟩ : ∃ we, we = wd.alloc (.cells #[.int .i64 0, .int .i64 0] 44) := ⟨_, rfl⟩; have HWE := Lib.hid hwe; have HRE := Lib.hid (show Rec 44 we wd.heap.size #[.int .i64 0, .int .i64 0] from (by rw [hwe]; exact Rec.new _ _ _)); have HBE := Lib.hid (show Below w8.heap.size w8 we from (by rw [hwe]; exact hbd.trans (((Below.refl _ _).alloc (Nat.le_refl _) _).mono hbd.size))); have HLE := Lib.hid (show w8.heap.size ≤ wd.heap.size from hbd.size); clear hwe hbd)
        | (rw [← HWE.out]; clear HWE)
        | (with_reducible refine wpList_stS (cs' := #[.int .i64 0, .int .i64 0]) idT rfl rfl (by simp [Value.oneCell']) rfl (.tmp 19) (.tmp 82) rfl rfl rfl HRE.out ?_; intro wf hRf hFf; have HBF := Lib.hid (HBE.out.trans (hFf.toBelow (fun x hx => by rw [show x = wd.heap.size from hx]; exact HLE.out) HBE.out.size)); clear hRf hFf)
        | (go_at_call 10; refine (TGet_nil 0 0 _).mono ?_; rintro e w' ⟨rfl, rfl⟩)
        | (go_at_call 11; refine (TParts_nil 0 _).mono ?_; rintro e w' ⟨rfl, rfl⟩)
        | (go_at_call 12; refine (TCol_nil 0 _).mono ?_; rintro e w' ⟨rfl, rfl⟩)
        | (go_at_call 13; refine (tcode_any _ _).mono ?_; rintro e w' ⟨rfl, rfl⟩)
        | (go_at_call 14; refine (TAdd_nil 0 0 none 0 0 _).mono ?_; rintro e wg ⟨rfl, hbg⟩; have HBG := Lib.hid (HBF.out.trans (hbg.mono HBF.out.size)); clear hbg)
        | (go_at_call 15; refine (TSet_nil 0 0 none 0 0 _).mono ?_; rintro e w' ⟨rfl, rfl⟩)
        | (go_at_call 16; refine (tlen_nil _).mono ?_; rintro e w' ⟨rfl, rfl⟩)
        | (go_at_call 17; refine (TIDs_nil _).mono ?_; rintro e w' ⟨rfl, rfl⟩)
        | (go_at_call 18; refine (tsig_nil _).mono ?_; rintro e w' ⟨rfl, rfl⟩)
        | (go_at_call 6; refine (tlive_any _ (HT.out.below (HB8.out.trans (HBG.out.mono HB8.out.size)))).mono ?_; rintro e w11 ⟨rfl, hb11⟩; have HB11 := Lib.hid hb11; clear hb11))
      go_ret
      have x8 := HB8.out.trans (HBG.out.mono HB8.out.size)
      exact ⟨rfl, x8.trans (HB11.out.mono x8.size)⟩
    have CT0 := fun W (hW : Below w.heap.size w W) => LdYes lg pg en gn A n cap ks w s IA im ic ids CA jc cx cols H.out hn50 hs HI.out HC.out HT.out HA.out hgood W hW
    obtain ⟨t0, ht0⟩ : ∃ t0 : Tb, t0 = ⟨(Tb.new n (zsK ks) s).cs, ldRows (Tb.new n (zsK ks) s).cs ids cols ids.length⟩ := ⟨_, rfl⟩
    rw [← ht0] at CT0
    have CT := Lib.hid CT0
    clear CT0 hgood H HI HC HA ht0
    go_wp2_with (first
      | (go_at_call 7; refine (CT.out _ HB2.out).1.mono ?_; rintro e w5 ⟨p, m, v0, q, tag0, rfl, hA5, hb5⟩; have HR5 := Lib.hid (HR2.out.under hb5); have HB25 := Lib.hid hb5; have HB5 := Lib.hid (HB2.out.trans (hb5.mono HB2.out.size)); have HA5 := Lib.hid hA5; clear hb5 HR2 hA5)
      | (with_reducible refine wpList_ldS confT rfl rfl (.tmp 6) rfl rfl HR2.out ?_)
      | (with_reducible refine wpList_ldS confT rfl rfl (.tmp 6) rfl rfl HR5.out ?_)
      | (go_at_call 8; refine (CT.out _ HB5.out).2.mono ?_; rintro e w6 ⟨d0, rfl, hR6, hb6⟩; have HLD := Lib.hid (TI.loaded HA5.out hR6 hb6 HS2.out HB25.out.size); obtain ⟨w7, hw7⟩ : ∃ w7, w7 = w6.alloc (.cells #[.slice none 0 0, .slice none 0 0, .slice none 0 0] 40) := ⟨_, rfl⟩; have HW7 := Lib.hid hw7; have HB26 := Lib.hid (HB25.out.trans (hb6.mono HB25.out.size)); have HR7 := Lib.hid (show Rec 40 w7 w6.heap.size zT from (by rw [hw7]; exact Rec.new _ _ _)); have HB67 := Lib.hid (show Below w6.heap.size w6 w7 from (by rw [hw7]; exact (Below.refl _ _).alloc (Nat.le_refl _) _)); clear hw7 hR6 hb6)
      | (rw [← HW7.out]; clear HW7)
      | (with_reducible refine wpList_stZ d0 rfl (.tmp 16) (.tmp 77) rfl rfl rfl HR7.out ?_; intro w8 hR8 hF8; have HSA := Lib.hid (TI.laid HLD.out HB67.out hF8 hR8 HB26.out); clear hR8 hF8)
      | (go_at_call 9; refine (TDrop_nil 0 _).mono ?_; rintro e wd ⟨rfl, hbd⟩; obtain ⟨we, hwe⟩ : ∃ we, we = wd.alloc (.cells #[.int .i64 0, .int .i64 0] 44) := ⟨_, rfl⟩; have HWE := Lib.hid hwe; have HRE := Lib.hid (show Rec 44 we wd.heap.size #[.int .i64 0, .int .i64 0] from (by rw [hwe]; exact Rec.new _ _ _)); have HBE := Lib.hid (show Below w8.heap.size w8 we from (by rw [hwe]; exact hbd.trans (((Below.refl _ _).alloc (Nat.le_refl _) _).mono hbd.size))); have HLE := Lib.hid (show w8.heap.size ≤ wd.heap.size from hbd.size); clear hwe hbd)
      | (rw [← HWE.out]; clear HWE)
      | (with_reducible refine wpList_stS (cs' := #[.int .i64 0, .int .i64 0]) idT rfl rfl (by simp [Value.oneCell']) rfl (.tmp 19) (.tmp 82) rfl rfl rfl HRE.out ?_; intro wf hRf hFf; have HBF := Lib.hid (HBE.out.trans (hFf.toBelow (fun x hx => by rw [show x = wd.heap.size from hx]; exact HLE.out) HBE.out.size)); clear hRf hFf)
      | (go_at_call 10; refine (TGet_nil 0 0 _).mono ?_; rintro e w' ⟨rfl, rfl⟩)
      | (go_at_call 11; refine (TParts_nil 0 _).mono ?_; rintro e w' ⟨rfl, rfl⟩)
      | (go_at_call 12; refine (TCol_nil 0 _).mono ?_; rintro e w' ⟨rfl, rfl⟩)
      | (go_at_call 13; refine (tcode_any _ _).mono ?_; rintro e w' ⟨rfl, rfl⟩)
      | (go_at_call 14; refine (TAdd_nil 0 0 none 0 0 _).mono ?_; rintro e wg ⟨rfl, hbg⟩; have HBG := Lib.hid (HBF.out.trans (hbg.mono HBF.out.size)); have HLG := Lib.hid (TI.laidG HSA.out HBG.out); have HR9 := Lib.hid HLG.out.2.1; have CSM := Lib.hid (tsame_any HLG.out.1.a HLG.out.1.r hk); clear hbg)
      | (go_at_call 15; refine (TSet_nil 0 0 none 0 0 _).mono ?_; rintro e w' ⟨rfl, rfl⟩)
      | (go_at_call 16; refine (tlen_nil _).mono ?_; rintro e w' ⟨rfl, rfl⟩)
      | (go_at_call 17; refine (TIDs_nil _).mono ?_; rintro e w' ⟨rfl, rfl⟩)
      | (go_at_call 18; refine (tsig_nil _).mono ?_; rintro e w' ⟨rfl, rfl⟩)
      | (with_reducible refine wpList_ldT (by with_unfolding_all rfl) (.tmp 16) rfl rfl HR9.out ?_)
      | (go_at_call 19; refine CSM.out.mono ?_; rintro e w10 ⟨rfl, hb10⟩; have HSB := Lib.hid (TI.laidG HLG.out hb10); clear hb10))
    obtain ⟨g, hg⟩ : ∃ g, g = w6.heap.size := ⟨_, rfl⟩
    rw [← hg] at HSB
    try rw [← hg]
    obtain ⟨K0, hK0⟩ : ∃ K0 : Nat → Prop, K0 = fun y => y < w.heap.size ∨ (w5.heap.size ≤ y ∧ y < g) := ⟨_, rfl⟩
    rw [← hK0] at HSB
    have HKL := Lib.hid (show ∀ x, x < w.heap.size → K0 x from fun x hx => by rw [hK0]; exact .inl hx)
    have HKG := Lib.hid (show ¬ K0 g from fun hx => by rw [hK0] at hx; have := HSB.out.2.2.2.1; have := HS2.out; rcases hx with h | h <;> omega)
    have HTI := Lib.hid HSB.out.1
    have HRG := Lib.hid HSB.out.2.1
    have HTG := Lib.hid HSB.out.2.2.1
    have HGE := Lib.hid HSB.out.2.2.2.1
    have HB3 := Lib.hid HSB.out.2.2.2.2
    clear hK0 hg HSA HSB HLG HR9 CSM HLD HBG HBF HBE HRE HLE HR7 HB67 HB26 HA5 HB5 HB25 HR5 CT
    go_loopw [29] (fun iv wr => ∃ (j : Nat) (t : Tb) (tag : Nat → Nat) (v : Value) (K : Nat → Prop) (d : Rt), j ≤ ln ∧ iv = .int .i64 j ∧ TI w2.heap.size p m q s t tag v K d wr ∧ Rec 40 wr g d.cs ∧ tag g = 0 ∧ ¬ K g ∧ (∀ x, x < w.heap.size → K x) ∧ Below w2.heap.size w2 wr) (fun iv _ => ln - (intOf iv).toNat)
    case atStart => exact ⟨0, t0, tag0, v0, K0, d0, Nat.zero_le _, rfl, HTI.out, HRG.out, HTG.out, HKG.out, HKL.out, HB3.out⟩
    case round =>
      clear HTI HRG HTG HKG HKL HB3
      obtain ⟨j, t, tag, v, K, d, hj, rfl, hTI, hRg, hTg, hKg, hKw, hB⟩ := hrel
      have HTI := Lib.hid hTI
      have HRG := Lib.hid hRg
      have HTG := Lib.hid hTg
      have HKG := Lib.hid hKg
      have HKW := Lib.hid hKw
      have HB := Lib.hid hB
      clear hTI hRg hTg hKg hKw hB
      by_cases hjn : j < ln
      · obtain ⟨b, o, x, hLA, hlt, hx, hok, hc⟩ := HL.out.at_ hjn
        have HLA := Lib.hid hLA
        subst hLA
        have hBw : Below w.heap.size w wr := HB2.out.trans (HB.out.mono HS2.out)
        have hpn := H40.out j x (by have := H60.out; omega) hx
        have CD := tdo_any HTI.out.a (HT.out.below hBw) x (hok.ok.below hBw) (fun y hy => (HTI.out.k y (HKW.out y hy)).2) hok.cz (by omega)
        obtain ⟨T', tl, hgo⟩ : ∃ T' tl, t.go x.ts = (T', tl) := ⟨_, _, rfl⟩
        have hokT := HTI.out.a.ok
        have hokT' : T'.Ok := by have := hokT.go x.ts; rw [hgo] at this; exact this
        have hpl : tl.parts.length ≤ 64 := by have := Tb.go_parts hokT x.ts; rw [hgo] at this; exact this
        rw [hgo] at CD
        have kc : ∀ i u, x.cs[i]? = some u → wr.cell? ⟨b, o + j * 7 + i, none⟩ = some u := fun i u hu => (hBw.cell (p := ⟨b, o + j * 7 + i, none⟩) hlt).trans (hc i u hu)
        have k0 : wr.cell? ⟨b, o + j * 7, none⟩ = some (.int .i64 x.d) := kc 0 _ rfl
        have k1 : wr.cell? ⟨b, o + j * 7 + 1, none⟩ = some (.int .i64 x.i) := kc 1 _ rfl
        have k2 : wr.cell? ⟨b, o + j * 7 + 2, none⟩ = some (.int .i64 x.g) := kc 2 _ rfl
        have k3 : wr.cell? ⟨b, o + j * 7 + 3, none⟩ = some (.slice x.pA x.pn x.pc) := kc 3 _ rfl
        have k4 : wr.cell? ⟨b, o + j * 7 + 4, none⟩ = some (.int .i64 x.row) := kc 4 _ rfl
        have k5 : wr.cell? ⟨b, o + j * 7 + 5, none⟩ = some (.int .i64 x.comp) := kc 5 _ rfl
        have k6 : wr.cell? ⟨b, o + j * 7 + 6, none⟩ = some (.slice x.bA x.bn x.bc) := kc 6 _ rfl
        have CD' : Calls Tryd.prog 20 #[.pointer (some ⟨p, 0, none⟩), .agg #[.int .i64 x.d, .int .i64 x.i, .int .i64 x.g, .slice x.pA x.pn x.pc, .int .i64 x.row, .int .i64 x.comp, .slice x.bA x.bn x.bc]] wr (DoR wr w2.heap.size tag p m q s (T', tl)) := CD
        have CDH := Lib.hid CD'
        have HKC := Lib.hid kc
        have HLT := Lib.hid hlt
        have HGO := Lib.hid hgo
        have HOK := Lib.hid hok
        have HPN := Lib.hid hpn
        have HPL := Lib.hid hpl
        have HOKT := Lib.hid hokT
        have HBW := Lib.hid hBw
        clear CD CD' kc hc hok hx hpn hBw hgo hpl hokT hokT' hlt
        go_wp2_with (first
          | (go_at_call 20; refine CDH.out.mono ?_; rintro e w5 ⟨DA, dn, dc, PA, pn, pc, rfl, hTl, tag5, v5, hA5, hG5⟩; have HTl := Lib.hid hTl; have HA5 := Lib.hid hA5; have HG5 := Lib.hid hG5; clear hTl hA5 hG5; obtain ⟨w6, hw6⟩ : ∃ w6, w6 = w5.alloc (.cells #[.slice none 0 0, .slice none 0 0, .int .i64 0, .int .i64 0, .bool false, .int .i64 0] 62) := ⟨_, rfl⟩; have HW6 := Lib.hid hw6; have HR6 := Lib.hid (show Rec 62 w6 w5.heap.size zL from (by rw [hw6]; exact Rec.new _ _ _)); have HB6 := Lib.hid (show Below w5.heap.size w5 w6 from (by rw [hw6]; exact (Below.refl _ _).alloc (Nat.le_refl _) _)); clear hw6)
          | (rw [← HW6.out]; clear HW6)
          | (with_reducible refine wpList_stL rfl (.tmp 30) (.tmp 179) rfl rfl rfl HR6.out ?_; intro w7 hR7 hF7; have HRT7 := Lib.hid hR7; have HF7 := Lib.hid hF7; clear hR7 hF7))
        have b57 : Below w5.heap.size w5 w7 := HB6.out.trans (HF7.out.toBelow (fun x hx => by rw [show x = w5.heap.size from hx]; exact Nat.le_refl _) HB6.out.size)
        have hG := HG5.out
        have hgr : g < wr.heap.size := HRG.out.lt
        obtain ⟨hR5, hK5⟩ := HTI.out.step hG
        have hR7 : RtS K w7 d t := hR5.below b57
        have hK7 : ∀ x, K x → x < w7.heap.size ∧ tag5 x = 0 := fun x hx => ⟨Nat.lt_of_lt_of_le (hK5 x hx).1 b57.size, (hK5 x hx).2⟩
        have hRg7 : Rec 40 w7 g d.cs := (HRG.out.fr hG.fr (fun e => e HTG.out)).under b57
        have hg5 : tag5 g = 0 := hG.zero HTG.out hgr
        have hB5 : Below w2.heap.size w2 w5 := HB.out.trans (hG.toBelow HTI.out.a.i.lo HTI.out.a.i.Nle)
        have hB7 := hB5.trans (b57.mono hB5.size)
        have hBW7 : Below w.heap.size w w7 := HB2.out.trans (hB7.mono HS2.out)
        have hTL7 : TlS (fun y => wr.heap.size ≤ y ∧ y < w7.heap.size) w7 DA dn dc PA pn tl := (HTl.out.below b57).lt
        have CG0 : ∀ V, Below w7.heap.size w7 V → Calls Tryd.prog 21 #[.agg #[.slice d.CA d.cn d.cc, .slice d.SA d.sn d.sc, .slice d.RA d.rn d.rc], .agg #[.int .i64 x.d, .int .i64 x.i, .int .i64 x.g, .slice x.pA x.pn x.pc, .int .i64 x.row, .int .i64 x.comp, .slice x.bA x.bn x.bc]] V (TRes (fun y => K y ∧ y < w7.heap.size) V T' tl) := fun V hV => by
          have := RGo_any (hR7.kl hV) HOKT.out x (((HOK.out.ok.below hBW7).mono HKW.out).kl hV) (by have := HPN.out; omega)
          rw [HGO.out] at this
          exact this
        have SS0 : ∀ W, Below w7.heap.size w7 W → ((W.cell? ⟨g, 0, none⟩ = some (.slice d.CA d.cn d.cc) ∧ W.cell? ⟨g, 1, none⟩ = some (.slice d.SA d.sn d.sc) ∧ W.cell? ⟨g, 2, none⟩ = some (.slice d.RA d.rn d.rc)) ∧ W.cell? ⟨b, o + j * 7, none⟩ = some (.int .i64 x.d) ∧ W.cell? ⟨b, o + j * 7 + 1, none⟩ = some (.int .i64 x.i) ∧ W.cell? ⟨b, o + j * 7 + 2, none⟩ = some (.int .i64 x.g) ∧ W.cell? ⟨b, o + j * 7 + 3, none⟩ = some (.slice x.pA x.pn x.pc) ∧ W.cell? ⟨b, o + j * 7 + 4, none⟩ = some (.int .i64 x.row) ∧ W.cell? ⟨b, o + j * 7 + 5, none⟩ = some (.int .i64 x.comp) ∧ W.cell? ⟨b, o + j * 7 + 6, none⟩ = some (.slice x.bA x.bn x.bc)) := fun W hW => by
          have y := hRg7.under hW
          have hU : Below wr.heap.size wr wr := Below.refl _ _
          have hc : ∀ i u, x.cs[i]? = some u → W.cell? ⟨b, o + j * 7 + i, none⟩ = some u := fun i u hu => ((hBW7.trans (hW.mono hBW7.size)).cell (p := ⟨b, o + j * 7 + i, none⟩) HLT.out).trans (((HBW.out.cell (p := ⟨b, o + j * 7 + i, none⟩) HLT.out).symm).trans (HKC.out i u hu))
          exact ⟨⟨y.at_ 0, y.at_ 1, y.at_ 2⟩, hc 0 _ rfl, hc 1 _ rfl, hc 2 _ rfl, hc 3 _ rfl, hc 4 _ rfl, hc 5 _ rfl, hc 6 _ rfl⟩
        have bd : Below w7.heap.size w7 w7.drew := (Below.refl _ _).drew
        have s0d := SS0 _ bd
        have HGT := Lib.hid (show g ≠ w5.heap.size from fun e => by have := hG.fr.size; omega)
        have HGW := Lib.hid hgr
        have HA7 := Lib.hid (HA5.out.below b57)
        have HK7 := Lib.hid hK7
        have HRG7 := Lib.hid hRg7
        have HG5' := HG5
        clear HG5
        have HG5 := Lib.hid hg5
        have HB7 := Lib.hid hB7
        have HBW7 := Lib.hid hBW7
        have HTL := Lib.hid hTL7
        have CG := Lib.hid CG0
        have SS := Lib.hid SS0
        clear b57 hG hgr hR5 hK5 hR7 hK7 hRg7 hg5 hB5 hB7 hBW7 hTL7 CG0 SS0 HG5' CDH HKC HF7 HR6 HB6 HA5 HTl k0 k1 k2 k3 k4 k5 k6
        refine wp_region_noPanic ?_
        refine wp_region_held_drew (S := fun W => (W.cell? ⟨g, 0, none⟩ = some (.slice d.CA d.cn d.cc) ∧ W.cell? ⟨g, 1, none⟩ = some (.slice d.SA d.sn d.sc) ∧ W.cell? ⟨g, 2, none⟩ = some (.slice d.RA d.rn d.rc)) ∧ W.cell? ⟨b, o + j * 7, none⟩ = some (.int .i64 x.d) ∧ W.cell? ⟨b, o + j * 7 + 1, none⟩ = some (.int .i64 x.i) ∧ W.cell? ⟨b, o + j * 7 + 2, none⟩ = some (.int .i64 x.g) ∧ W.cell? ⟨b, o + j * 7 + 3, none⟩ = some (.slice x.pA x.pn x.pc) ∧ W.cell? ⟨b, o + j * 7 + 4, none⟩ = some (.int .i64 x.row) ∧ W.cell? ⟨b, o + j * 7 + 5, none⟩ = some (.int .i64 x.comp) ∧ W.cell? ⟨b, o + j * 7 + 6, none⟩ = some (.slice x.bA x.bn x.bc)) (by kernel_rfl) s0d (fun hHeld => ?_)
        refine wpAnyH_take (i := 0) (oi := { dst := some 181, op := Op.load 40 (Operand.tmp 16), type := 40, pos := "law.go:102", after := #[], guard := none }) (v := ?_) rfl (by kernel_rfl) (by kernel_rfl) (by kernel_rfl) (fun _ _ _ h => h) (Or.inl ⟨by rfl, ?_⟩) (by assumption) ?_
        rotate_left 1
        · intro w' hSw; (try dsimp only at hSw); go_simp; (try with_reducible rfl)
        simp only [Act.put, List.setIfInBounds_toArray, List.set_cons_zero, List.set_cons_succ]
        refine wpAnyH_take (i := 1) (oi := { dst := some 182, op := Op.move (Operand.tmp 4), type := 28, pos := "law.go:102", after := #[], guard := none }) (v := ?_) rfl (by kernel_rfl) (by kernel_rfl) (by kernel_rfl) (fun _ _ _ h => h) (Or.inl ⟨by rfl, ?_⟩) (by assumption) ?_
        rotate_left 1
        · intro w' hSw; (try dsimp only at hSw); go_simp; (try with_reducible rfl)
        simp only [Act.put, List.setIfInBounds_toArray, List.set_cons_zero, List.set_cons_succ]
        refine wpAnyH_take (i := 2) (oi := { dst := some 183, op := Op.move (Operand.tmp 29), type := 3, pos := "law.go:102", after := #[], guard := none }) (v := ?_) rfl (by kernel_rfl) (by kernel_rfl) (by kernel_rfl) (fun _ _ _ h => h) (Or.inl ⟨by rfl, ?_⟩) (by assumption) ?_
        rotate_left 1
        · intro w' hSw; (try dsimp only at hSw); go_simp; (try with_reducible rfl)
        simp only [Act.put, List.setIfInBounds_toArray, List.set_cons_zero, List.set_cons_succ]
        refine wpAnyH_take (i := 3) (oi := { dst := some 184, op := Op.indexAddr 28 (Operand.tmp 182) (Operand.tmp 183), type := 0, pos := "law.go:102", after := #[{ on := 1, ground := Ground.data }, { on := 2, ground := Ground.data }], guard := none }) (v := ?_) rfl (by kernel_rfl) (by kernel_rfl) (by kernel_rfl) (fun _ _ _ h => h) (Or.inl ⟨by rfl, ?_⟩) (by assumption) ?_
        rotate_left 1
        · intro w' hSw; (try dsimp only at hSw); go_simp; (try with_reducible rfl)
        simp only [Act.put, List.setIfInBounds_toArray, List.set_cons_zero, List.set_cons_succ]
        refine wpAnyH_take (i := 4) (oi := { dst := some 185, op := Op.load 65 (Operand.tmp 184), type := 65, pos := "law.go:102", after := #[{ on := 3, ground := Ground.data }], guard := none }) (v := ?_) rfl (by kernel_rfl) (by kernel_rfl) (by kernel_rfl) (fun _ _ _ h => h) (Or.inl ⟨by rfl, ?_⟩) (by assumption) ?_
        rotate_left 1
        · intro w' hSw; (try dsimp only at hSw); go_simp; (try with_reducible rfl)
        simp only [Act.put, List.setIfInBounds_toArray, List.set_cons_zero, List.set_cons_succ]
        refine wpAnyH_ready (rs := [5, 9, 10]) (by kernel_rfl) (by simp) ?_
        refine AllReadyH.cons (o := { dst := some 186, op := Op.call { callee := Callee.value (Operand.func 21), args := #[Operand.tmp 181, Operand.tmp 185], argTypes := #[40, 65] }, type := 66, pos := "law.go:102", after := #[{ on := 0, ground := Ground.data }, { on := 4, ground := Ground.data }], guard := none }) rfl (fun K' hK => ?_) (AllReadyH.cons (o := { dst := some 31, op := Op.alloc 40, type := 0, pos := "law.go:102", after := #[], guard := none }) rfl (fun K' hK => ?_) (AllReadyH.cons (o := { dst := some 32, op := Op.alloc 62, type := 0, pos := "law.go:102", after := #[], guard := none }) rfl (fun K' hK => ?_) AllReadyH.nil))
        · go_simp
          go_at_call 21; refine (CG.out _ bd).mono ?_; rintro e vP ⟨d1, FA, fn, fc, PA', pn', pc', rfl, hR1, hT1, hBP⟩
          have BVP := Lib.hid (bd.trans (hBP.mono bd.size))
          have sP := SS.out _ BVP.out
          have hsW := bd.size
          have RSP := Lib.hid (TTl.mono (K' := fun x => (K x ∧ x < w7.heap.size) ∨ (w7.heap.size ≤ x ∧ x < vP.heap.size)) ⟨hR1, hT1⟩ (fun x hx => by rcases hx with h | h; exact .inl h; exact .inr ⟨by omega, h.2⟩))
          clear hR1 hT1 hBP hsW
          refine hK.out _ _ sP (fun hHeld => ?_)
          clear hK K'
          try simp only [Act.put, List.setIfInBounds_toArray, List.set_cons_zero, List.set_cons_succ]
          refine wpAnyH_take (i := 6) (oi := { dst := some 180, op := Op.move (Operand.tmp 186), type := 66, pos := "law.go:102", after := #[{ on := 5, ground := Ground.data }], guard := none }) (v := ?_) rfl (by kernel_rfl) (by kernel_rfl) (by kernel_rfl) (fun _ _ _ h => h) (Or.inl ⟨by rfl, ?_⟩) (by assumption) ?_
          rotate_left 1
          · intro w' hSw; (try dsimp only at hSw); go_simp; (try with_reducible rfl)
          simp only [Act.put, List.setIfInBounds_toArray, List.set_cons_zero, List.set_cons_succ]
          refine wpAnyH_take (i := 7) (oi := { dst := some 187, op := Op.extract (Operand.tmp 180) 0, type := 40, pos := "law.go:102", after := #[{ on := 6, ground := Ground.data }], guard := none }) (v := ?_) rfl (by kernel_rfl) (by kernel_rfl) (by kernel_rfl) (fun _ _ _ h => h) (Or.inl ⟨by rfl, ?_⟩) (by assumption) ?_
          rotate_left 1
          · intro w' hSw; (try dsimp only at hSw); go_simp; (try with_reducible rfl)
          simp only [Act.put, List.setIfInBounds_toArray, List.set_cons_zero, List.set_cons_succ]
          refine wpAnyH_take (i := 8) (oi := { dst := some 188, op := Op.extract (Operand.tmp 180) 1, type := 62, pos := "law.go:102", after := #[{ on := 6, ground := Ground.data }, { on := 11, ground := Ground.gcOnly Departure.lateStores }], guard := none }) (v := ?_) rfl (by kernel_rfl) (by kernel_rfl) (by kernel_rfl) (fun _ _ _ h => h) (Or.inl ⟨by rfl, ?_⟩) (by assumption) ?_
          rotate_left 1
          · intro w' hSw; (try dsimp only at hSw); go_simp; (try with_reducible rfl)
          simp only [Act.put, List.setIfInBounds_toArray, List.set_cons_zero, List.set_cons_succ]
          refine wpAnyH_ready (rs := [9, 10]) (by kernel_rfl) (by simp) ?_
          refine AllReadyH.cons (o := { dst := some 31, op := Op.alloc 40, type := 0, pos := "law.go:102", after := #[], guard := none }) rfl (fun K' hK => ?_) (AllReadyH.cons (o := { dst := some 32, op := Op.alloc 62, type := 0, pos := "law.go:102", after := #[], guard := none }) rfl (fun K' hK => ?_) AllReadyH.nil)
          · go_simp
            obtain ⟨vPA, hv⟩ : ∃ v, v = vP.alloc (.cells #[.slice none 0 0, .slice none 0 0, .slice none 0 0] 40) := ⟨_, rfl⟩
            have hR : Rec 40 vPA vP.heap.size zT := by rw [hv]; exact Rec.new vP _ _
            have bV : Below vP.heap.size vP vPA := by rw [hv]; exact ((Below.refl _ _).alloc (Nat.le_refl _) _)
            have BVPA := Lib.hid (BVP.out.trans (bV.mono BVP.out.size))
            have sPA := SS.out _ BVPA.out
            have RSPA := Lib.hid ((RSP.out.below bV).mono (K' := fun x => (K x ∧ x < w7.heap.size) ∨ (w7.heap.size ≤ x ∧ x < vPA.heap.size ∧ x ≠ vP.heap.size)) (fun x hx => by have := bV.size; rcases hx with h | h; exact .inl h; exact .inr ⟨h.1, by omega, by omega⟩))
            obtain ⟨gA, hgA⟩ : ∃ g, g = vP.heap.size := ⟨_, rfl⟩
            have leA : w7.heap.size ≤ gA := by rw [hgA]; exact BVP.out.size
            rw [← hgA] at hR RSPA
            try rw [← hv]
            rw [← hgA]
            have RAPA := Lib.hid hR
            have HLEA := Lib.hid leA
            clear hv hR bV hgA leA
            refine hK.out _ _ sPA (fun hHeld => ?_)
            clear hK K'
            try simp only [Act.put, List.setIfInBounds_toArray, List.set_cons_zero, List.set_cons_succ]
            refine wpAnyH_ready (rs := [10]) (by kernel_rfl) (by simp) ?_
            refine AllReadyH.cons (o := { dst := some 32, op := Op.alloc 62, type := 0, pos := "law.go:102", after := #[], guard := none }) rfl (fun K' hK => ?_) AllReadyH.nil
            go_simp
            obtain ⟨vPAB, hv⟩ : ∃ v, v = vPA.alloc (.cells #[.slice none 0 0, .slice none 0 0, .int .i64 0, .int .i64 0, .bool false, .int .i64 0] 62) := ⟨_, rfl⟩
            have hR : Rec 62 vPAB vPA.heap.size zL := by rw [hv]; exact Rec.new vPA _ _
            have bV : Below vPA.heap.size vPA vPAB := by rw [hv]; exact ((Below.refl _ _).alloc (Nat.le_refl _) _)
            have BVPAB := Lib.hid (BVPA.out.trans (bV.mono BVPA.out.size))
            have sPAB := SS.out _ BVPAB.out
            have RAPAB := Lib.hid (RAPA.out.under bV)
            have neA : gA < vPA.heap.size := RAPA.out.lt
            have RSPAB := Lib.hid ((RSPA.out.below bV).mono (K' := fun x => (K x ∧ x < w7.heap.size) ∨ (w7.heap.size ≤ x ∧ x < vPAB.heap.size ∧ x ≠ gA ∧ x ≠ vPA.heap.size)) (fun x hx => by have := bV.size; rcases hx with h | h; exact .inl h; exact .inr ⟨h.1, by omega, by omega, by omega⟩))
            obtain ⟨gB, hgB⟩ : ∃ g, g = vPA.heap.size := ⟨_, rfl⟩
            have leB : w7.heap.size ≤ gB := by rw [hgB]; exact BVPA.out.size
            rw [← hgB] at hR neA RSPAB
            try rw [← hv]
            rw [← hgB]
            have RBPAB := Lib.hid hR
            have HN := Lib.hid neA
            have HLEB := Lib.hid leB
            clear hv hR bV hgB leB neA
            refine hK.out _ _ sPAB (fun hHeld => ?_)
            clear hK K'
            try simp only [Act.put, List.setIfInBounds_toArray, List.set_cons_zero, List.set_cons_succ]
            refine wpAnyH_ready (rs := [11]) (by kernel_rfl) (by simp) ?_
            refine AllReadyH.cons (o := { dst := none, op := Op.store 40 (Operand.tmp 31) (Operand.tmp 187), type := 0, pos := "law.go:102", after := #[{ on := 9, ground := Ground.data }, { on := 7, ground := Ground.data }, { on := 5, ground := Ground.chain }, { on := 0, ground := Ground.phase }, { on := 1, ground := Ground.phase }, { on := 2, ground := Ground.phase }, { on := 3, ground := Ground.phase }, { on := 4, ground := Ground.phase }, { on := 5, ground := Ground.phase }, { on := 6, ground := Ground.phase }, { on := 7, ground := Ground.phase }, { on := 8, ground := Ground.textOnly Departure.lateStores }, { on := 9, ground := Ground.phase }, { on := 10, ground := Ground.phase }], guard := none }) rfl (fun K' hK => ?_) AllReadyH.nil
            refine step_stT d1 rfl (.tmp 31) (.tmp 187) rfl rfl rfl RAPAB.out ?_
            intro vG hRG hFG
            have hne : gA ≠ gB := by have := HN.out; omega
            have BVG := Lib.hid (BVPAB.out.trans (hFG.toBelow (fun x hx => by rw [show x = gA from hx]; exact HLEA.out) BVPAB.out.size))
            have sG := SS.out _ BVG.out
            have RAG := Lib.hid hRG
            have RBG := Lib.hid (RBPAB.out.fr hFG (fun e => hne (show gB = gA from e).symm))
            have RSG := Lib.hid ((RSPAB.out.mono (K' := fun x => (K x ∧ x < w7.heap.size) ∨ (w7.heap.size ≤ x ∧ x < vPAB.heap.size ∧ x ≠ gA ∧ x ≠ gB)) (fun x hx => by rcases hx with h | h; exact .inl h; exact .inr ⟨h.1, h.2.1, by omega, by omega⟩)).stays (w' := vG) ⟨hFG.size, fun x hx => hFG.block x (by have := BVPAB.out.size; rcases hx with h | h <;> omega) (fun e => by have e' : x = gA := e; have := HLEA.out; rcases hx with h | h <;> omega)⟩)
            have hsG := hFG.size
            clear hRG hFG hne
            refine hK.out _ _ sG (fun hHeld => ?_)
            clear hK K'
            try simp only [Act.put]
            refine wpAnyH_ready (rs := [12]) (by kernel_rfl) (by simp) ?_
            refine AllReadyH.cons (o := { dst := none, op := Op.store 62 (Operand.tmp 32) (Operand.tmp 188), type := 0, pos := "law.go:102", after := #[{ on := 10, ground := Ground.data }, { on := 8, ground := Ground.data }, { on := 11, ground := Ground.chain }, { on := 0, ground := Ground.phase }, { on := 1, ground := Ground.phase }, { on := 2, ground := Ground.phase }, { on := 3, ground := Ground.phase }, { on := 4, ground := Ground.phase }, { on := 5, ground := Ground.phase }, { on := 6, ground := Ground.phase }, { on := 7, ground := Ground.phase }, { on := 8, ground := Ground.phase }, { on := 9, ground := Ground.phase }, { on := 10, ground := Ground.phase }, { on := 11, ground := Ground.phase }], guard := none }) rfl (fun K' hK => ?_) AllReadyH.nil
            refine step_stL FA fn fc PA' pn' pc' tl rfl (.tmp 32) (.tmp 188) rfl rfl rfl RBG.out ?_
            intro wF hRF hFF
            have hne : gA ≠ gB := by have := HN.out; omega
            have BF := Lib.hid (BVG.out.trans (hFF.toBelow (fun x hx => by rw [show x = gB from hx]; exact HLEB.out) BVG.out.size))
            have sF := SS.out _ BF.out
            have RBF := Lib.hid hRF
            have RAF := Lib.hid (RAG.out.fr hFF (fun e => hne (show gA = gB from e)))
            have RSF := Lib.hid ((RSG.out.stays (w' := wF) ⟨hFF.size, fun x hx => hFF.block x (by have := BVG.out.size; rcases hx with h | h <;> omega) (fun e => by have e' : x = gB := e; have := HLEB.out; rcases hx with h | h <;> omega)⟩).mono (K' := fun x => (K x ∧ x < w7.heap.size) ∨ (w7.heap.size ≤ x ∧ x < wF.heap.size ∧ x ≠ gA ∧ x ≠ gB)) (fun x hx => by have := hFF.size; rcases hx with h | h; exact .inl h; exact .inr ⟨h.1, by omega, h.2.2.1, h.2.2.2⟩))
            clear hRF hFF hne RAG RBG RSG BVG hsG
            refine hK.out _ _ sF (fun hHeld => ?_)
            clear hK K'
            try simp only [Act.put]
            refine wpAnyH_done (by kernel_rfl) ?_ _
            refine NoPanic.normal ?_
            have hg7 := HRG7.out.lt
            have RG0 := Lib.hid (HRG7.out.under BF.out)
            go_upto_region 28 with (first
              | (with_reducible refine wpList_ldT rfl (.tmp 31) rfl rfl RAF.out ?_)
              | (with_reducible refine wpList_stT d1 rfl (.tmp 16) (.tmp 189) rfl rfl rfl RG0.out ?_; intro w8 hR8 hF8; have HR8 := Lib.hid hR8; have HF8 := Lib.hid hF8; clear hR8 hF8))
            have hF8 := HF8.out
            obtain ⟨K2, hK2⟩ : ∃ K2 : Nat → Prop, K2 = fun x => (K x ∧ x < w7.heap.size) ∨ (w7.heap.size ≤ x ∧ x < wF.heap.size ∧ x ≠ gA ∧ x ≠ gB) := ⟨_, rfl⟩
            have hRS := RSF.out
            rw [← hK2] at hRS
            have hK2x : ∀ x, K2 x → x < wF.heap.size ∧ x ≠ g ∧ tag5 x = 0 := fun x hx => by
              rw [hK2] at hx
              have := BF.out.size
              rcases hx with h | h
              · exact ⟨by omega, fun e => HKG.out (e ▸ h.1), (HK7.out x h.1).2⟩
              · exact ⟨h.2.1, by omega, HA7.out.over h.1⟩
            have hRS8 : TTl K2 w8 d1 T' FA fn fc PA' pn' tl := hRS.stays ⟨hF8.size, fun x hx => hF8.block x (hK2x x hx).1 (hK2x x hx).2.1⟩
            have hTI8 : TI w2.heap.size p m q s T' tag5 v5 K2 d1 w8 := ⟨(HA7.out.below BF.out).kept hF8 (fun x hx e => hx (by rw [show x = g from e]; exact HG5.out)), hRS8.r, fun x hx => ⟨Nat.lt_of_lt_of_le (hK2x x hx).1 hF8.size, (hK2x x hx).2.2⟩⟩
            have hKg2 : ¬ K2 g := fun hx => (hK2x g hx).2.1 rfl
            have hKw2 : ∀ x, x < w.heap.size → K2 x := fun x hx => by
              rw [hK2]
              exact .inl ⟨HKW.out x hx, Nat.lt_of_lt_of_le hx HBW7.out.size⟩
            have hRT8 := (HRT7.out.under BF.out).fr hF8 (fun e => HGT.out (show w5.heap.size = g from e).symm)
            have hRB8 := RBF.out.fr hF8 (fun e => by have e' : gB = g := e; have := HLEB.out; omega)
            have hTL8 : TlS (fun y => wr.heap.size ≤ y ∧ y < w7.heap.size) w8 DA dn dc PA pn tl := (HTL.out.below BF.out).stays ⟨hF8.size, fun x hx => hF8.block x (by have := BF.out.size; omega) (fun e => by have e' : x = g := e; have := HGW.out; omega)⟩
            have hB8 : Below w2.heap.size w2 w8 := (HB7.out.trans (BF.out.mono HB7.out.size)).trans (hF8.toBelow (fun x hx => by rw [show x = g from hx]; exact HGE.out) (HB7.out.trans (BF.out.mono HB7.out.size)).size)
            have epn : pn' = pn := by have h1 := hRS8.t.2.len; have h2 := HTL.out.2.len; omega
            subst epn
            have hst8 : TTl K2 w8 d1 T' FA fn fc PA' pn' tl := hRS8
            have hpn8 : pn' ≤ 1000000 := by have h1 := HPL.out; have h2 := HTL.out.2.len; omega
            have CST0 : ∀ W, Below w8.heap.size w8 W → Calls Tryd.prog 22 #[.agg #[.slice DA dn dc, .slice PA pn' pc, .int .i64 tl.id.1, .int .i64 tl.id.2, .bool tl.ok, .int .i64 tl.err], .agg #[.slice FA fn fc, .slice PA' pn' pc', .int .i64 tl.id.1, .int .i64 tl.id.2, .bool tl.ok, .int .i64 tl.err]] W fun e w' => e = .returned (.bool true) ∧ Below W.heap.size W w' := fun W hW => SameTold_yes DA dn dc PA pn' pc FA fn fc PA' pc' tl W (hTL8.below hW) (hst8.t.below hW) hpn8
            have CST := Lib.hid CST0
            have HRT8 := Lib.hid hRT8
            have HRB8 := Lib.hid hRB8
            have HTI8 := Lib.hid hTI8
            have HKg2 := Lib.hid hKg2
            have HKw2 := Lib.hid hKw2
            have HB8 := Lib.hid hB8
            clear hF8 hRS hK2 hK2x hRS8 hTI8 hKg2 hKw2 hRT8 hRB8 hTL8 hB8 hst8 hpn8 CST0 sF s0d RSF RAF RBF RG0 HF8 hg7 SS CG BF
            go_wp2_with (first
              | (with_reducible refine wpList_ldL rfl (.tmp 30) rfl rfl HRT8.out ?_)
              | (with_reducible refine wpList_ldL rfl (.tmp 32) rfl rfl HRB8.out ?_)
              | (go_at_call 22; refine (CST.out _ (Below.refl _ _)).mono ?_; rintro e w9 ⟨rfl, hb9⟩; have HB9 := Lib.hid hb9; have HR9 := Lib.hid (HR8.out.under hb9); clear hb9))
            go_roundw
            case rel => exact ⟨j + 1, T', tag5, v5, K2, d1, hjn, by go_num, HTI8.out.below HB9.out, HR9.out, HG5.out, HKg2.out, HKw2.out, HB8.out.trans (HB9.out.mono HB8.out.size)⟩
            case measure => simp [intOf]; omega
          · go_simp
            obtain ⟨vPB, hv⟩ : ∃ v, v = vP.alloc (.cells #[.slice none 0 0, .slice none 0 0, .int .i64 0, .int .i64 0, .bool false, .int .i64 0] 62) := ⟨_, rfl⟩
            have hR : Rec 62 vPB vP.heap.size zL := by rw [hv]; exact Rec.new vP _ _
            have bV : Below vP.heap.size vP vPB := by rw [hv]; exact ((Below.refl _ _).alloc (Nat.le_refl _) _)
            have BVPB := Lib.hid (BVP.out.trans (bV.mono BVP.out.size))
            have sPB := SS.out _ BVPB.out
            have RSPB := Lib.hid ((RSP.out.below bV).mono (K' := fun x => (K x ∧ x < w7.heap.size) ∨ (w7.heap.size ≤ x ∧ x < vPB.heap.size ∧ x ≠ vP.heap.size)) (fun x hx => by have := bV.size; rcases hx with h | h; exact .inl h; exact .inr ⟨h.1, by omega, by omega⟩))
            obtain ⟨gB, hgB⟩ : ∃ g, g = vP.heap.size := ⟨_, rfl⟩
            have leB : w7.heap.size ≤ gB := by rw [hgB]; exact BVP.out.size
            rw [← hgB] at hR RSPB
            try rw [← hv]
            rw [← hgB]
            have RBPB := Lib.hid hR
            have HLEB := Lib.hid leB
            clear hv hR bV hgB leB
            refine hK.out _ _ sPB (fun hHeld => ?_)
            clear hK K'
            try simp only [Act.put, List.setIfInBounds_toArray, List.set_cons_zero, List.set_cons_succ]
            refine wpAnyH_ready (rs := [9]) (by kernel_rfl) (by simp) ?_
            refine AllReadyH.cons (o := { dst := some 31, op := Op.alloc 40, type := 0, pos := "law.go:102", after := #[], guard := none }) rfl (fun K' hK => ?_) AllReadyH.nil
            go_simp
            obtain ⟨vPBA, hv⟩ : ∃ v, v = vPB.alloc (.cells #[.slice none 0 0, .slice none 0 0, .slice none 0 0] 40) := ⟨_, rfl⟩
            have hR : Rec 40 vPBA vPB.heap.size zT := by rw [hv]; exact Rec.new vPB _ _
            have bV : Below vPB.heap.size vPB vPBA := by rw [hv]; exact ((Below.refl _ _).alloc (Nat.le_refl _) _)
            have BVPBA := Lib.hid (BVPB.out.trans (bV.mono BVPB.out.size))
            have sPBA := SS.out _ BVPBA.out
            have RBPBA := Lib.hid (RBPB.out.under bV)
            have neB : gB < vPB.heap.size := RBPB.out.lt
            have RSPBA := Lib.hid ((RSPB.out.below bV).mono (K' := fun x => (K x ∧ x < w7.heap.size) ∨ (w7.heap.size ≤ x ∧ x < vPBA.heap.size ∧ x ≠ gB ∧ x ≠ vPB.heap.size)) (fun x hx => by have := bV.size; rcases hx with h | h; exact .inl h; exact .inr ⟨h.1, by omega, by omega, by omega⟩))
            obtain ⟨gA, hgA⟩ : ∃ g, g = vPB.heap.size := ⟨_, rfl⟩
            have leA : w7.heap.size ≤ gA := by rw [hgA]; exact BVPB.out.size
            rw [← hgA] at hR neB RSPBA
            try rw [← hv]
            rw [← hgA]
            have RAPBA := Lib.hid hR
            have HN := Lib.hid neB
            have HLEA := Lib.hid leA
            clear hv hR bV hgA leA neB
            refine hK.out _ _ sPBA (fun hHeld => ?_)
            clear hK K'
            try simp only [Act.put, List.setIfInBounds_toArray, List.set_cons_zero, List.set_cons_succ]
            refine wpAnyH_ready (rs := [11]) (by kernel_rfl) (by simp) ?_
            refine AllReadyH.cons (o := { dst := none, op := Op.store 40 (Operand.tmp 31) (Operand.tmp 187), type := 0, pos := "law.go:102", after := #[{ on := 9, ground := Ground.data }, { on := 7, ground := Ground.data }, { on := 5, ground := Ground.chain }, { on := 0, ground := Ground.phase }, { on := 1, ground := Ground.phase }, { on := 2, ground := Ground.phase }, { on := 3, ground := Ground.phase }, { on := 4, ground := Ground.phase }, { on := 5, ground := Ground.phase }, { on := 6, ground := Ground.phase }, { on := 7, ground := Ground.phase }, { on := 8, ground := Ground.textOnly Departure.lateStores }, { on := 9, ground := Ground.phase }, { on := 10, ground := Ground.phase }], guard := none }) rfl (fun K' hK => ?_) AllReadyH.nil
            refine step_stT d1 rfl (.tmp 31) (.tmp 187) rfl rfl rfl RAPBA.out ?_
            intro vG hRG hFG
            have hne : gA ≠ gB := by have := HN.out; omega
            have BVG := Lib.hid (BVPBA.out.trans (hFG.toBelow (fun x hx => by rw [show x = gA from hx]; exact HLEA.out) BVPBA.out.size))
            have sG := SS.out _ BVG.out
            have RAG := Lib.hid hRG
            have RBG := Lib.hid (RBPBA.out.fr hFG (fun e => hne (show gB = gA from e).symm))
            have RSG := Lib.hid ((RSPBA.out.mono (K' := fun x => (K x ∧ x < w7.heap.size) ∨ (w7.heap.size ≤ x ∧ x < vPBA.heap.size ∧ x ≠ gA ∧ x ≠ gB)) (fun x hx => by rcases hx with h | h; exact .inl h; exact .inr ⟨h.1, h.2.1, by omega, by omega⟩)).stays (w' := vG) ⟨hFG.size, fun x hx => hFG.block x (by have := BVPBA.out.size; rcases hx with h | h <;> omega) (fun e => by have e' : x = gA := e; have := HLEA.out; rcases hx with h | h <;> omega)⟩)
            have hsG := hFG.size
            clear hRG hFG hne
            refine hK.out _ _ sG (fun hHeld => ?_)
            clear hK K'
            try simp only [Act.put]
            refine wpAnyH_ready (rs := [12]) (by kernel_rfl) (by simp) ?_
            refine AllReadyH.cons (o := { dst := none, op := Op.store 62 (Operand.tmp 32) (Operand.tmp 188), type := 0, pos := "law.go:102", after := #[{ on := 10, ground := Ground.data }, { on := 8, ground := Ground.data }, { on := 11, ground := Ground.chain }, { on := 0, ground := Ground.phase }, { on := 1, ground := Ground.phase }, { on := 2, ground := Ground.phase }, { on := 3, ground := Ground.phase }, { on := 4, ground := Ground.phase }, { on := 5, ground := Ground.phase }, { on := 6, ground := Ground.phase }, { on := 7, ground := Ground.phase }, { on := 8, ground := Ground.phase }, { on := 9, ground := Ground.phase }, { on := 10, ground := Ground.phase }, { on := 11, ground := Ground.phase }], guard := none }) rfl (fun K' hK => ?_) AllReadyH.nil
            refine step_stL FA fn fc PA' pn' pc' tl rfl (.tmp 32) (.tmp 188) rfl rfl rfl RBG.out ?_
            intro wF hRF hFF
            have hne : gA ≠ gB := by have := HN.out; omega
            have BF := Lib.hid (BVG.out.trans (hFF.toBelow (fun x hx => by rw [show x = gB from hx]; exact HLEB.out) BVG.out.size))
            have sF := SS.out _ BF.out
            have RBF := Lib.hid hRF
            have RAF := Lib.hid (RAG.out.fr hFF (fun e => hne (show gA = gB from e)))
            have RSF := Lib.hid ((RSG.out.stays (w' := wF) ⟨hFF.size, fun x hx => hFF.block x (by have := BVG.out.size; rcases hx with h | h <;> omega) (fun e => by have e' : x = gB := e; have := HLEB.out; rcases hx with h | h <;> omega)⟩).mono (K' := fun x => (K x ∧ x < w7.heap.size) ∨ (w7.heap.size ≤ x ∧ x < wF.heap.size ∧ x ≠ gA ∧ x ≠ gB)) (fun x hx => by have := hFF.size; rcases hx with h | h; exact .inl h; exact .inr ⟨h.1, by omega, h.2.2.1, h.2.2.2⟩))
            clear hRF hFF hne RAG RBG RSG BVG hsG
            refine hK.out _ _ sF (fun hHeld => ?_)
            clear hK K'
            try simp only [Act.put]
            refine wpAnyH_done (by kernel_rfl) ?_ _
            refine NoPanic.normal ?_
            have hg7 := HRG7.out.lt
            have RG0 := Lib.hid (HRG7.out.under BF.out)
            go_upto_region 28 with (first
              | (with_reducible refine wpList_ldT rfl (.tmp 31) rfl rfl RAF.out ?_)
              | (with_reducible refine wpList_stT d1 rfl (.tmp 16) (.tmp 189) rfl rfl rfl RG0.out ?_; intro w8 hR8 hF8; have HR8 := Lib.hid hR8; have HF8 := Lib.hid hF8; clear hR8 hF8))
            have hF8 := HF8.out
            obtain ⟨K2, hK2⟩ : ∃ K2 : Nat → Prop, K2 = fun x => (K x ∧ x < w7.heap.size) ∨ (w7.heap.size ≤ x ∧ x < wF.heap.size ∧ x ≠ gA ∧ x ≠ gB) := ⟨_, rfl⟩
            have hRS := RSF.out
            rw [← hK2] at hRS
            have hK2x : ∀ x, K2 x → x < wF.heap.size ∧ x ≠ g ∧ tag5 x = 0 := fun x hx => by
              rw [hK2] at hx
              have := BF.out.size
              rcases hx with h | h
              · exact ⟨by omega, fun e => HKG.out (e ▸ h.1), (HK7.out x h.1).2⟩
              · exact ⟨h.2.1, by omega, HA7.out.over h.1⟩
            have hRS8 : TTl K2 w8 d1 T' FA fn fc PA' pn' tl := hRS.stays ⟨hF8.size, fun x hx => hF8.block x (hK2x x hx).1 (hK2x x hx).2.1⟩
            have hTI8 : TI w2.heap.size p m q s T' tag5 v5 K2 d1 w8 := ⟨(HA7.out.below BF.out).kept hF8 (fun x hx e => hx (by rw [show x = g from e]; exact HG5.out)), hRS8.r, fun x hx => ⟨Nat.lt_of_lt_of_le (hK2x x hx).1 hF8.size, (hK2x x hx).2.2⟩⟩
            have hKg2 : ¬ K2 g := fun hx => (hK2x g hx).2.1 rfl
            have hKw2 : ∀ x, x < w.heap.size → K2 x := fun x hx => by
              rw [hK2]
              exact .inl ⟨HKW.out x hx, Nat.lt_of_lt_of_le hx HBW7.out.size⟩
            have hRT8 := (HRT7.out.under BF.out).fr hF8 (fun e => HGT.out (show w5.heap.size = g from e).symm)
            have hRB8 := RBF.out.fr hF8 (fun e => by have e' : gB = g := e; have := HLEB.out; omega)
            have hTL8 : TlS (fun y => wr.heap.size ≤ y ∧ y < w7.heap.size) w8 DA dn dc PA pn tl := (HTL.out.below BF.out).stays ⟨hF8.size, fun x hx => hF8.block x (by have := BF.out.size; omega) (fun e => by have e' : x = g := e; have := HGW.out; omega)⟩
            have hB8 : Below w2.heap.size w2 w8 := (HB7.out.trans (BF.out.mono HB7.out.size)).trans (hF8.toBelow (fun x hx => by rw [show x = g from hx]; exact HGE.out) (HB7.out.trans (BF.out.mono HB7.out.size)).size)
            have epn : pn' = pn := by have h1 := hRS8.t.2.len; have h2 := HTL.out.2.len; omega
            subst epn
            have hst8 : TTl K2 w8 d1 T' FA fn fc PA' pn' tl := hRS8
            have hpn8 : pn' ≤ 1000000 := by have h1 := HPL.out; have h2 := HTL.out.2.len; omega
            have CST0 : ∀ W, Below w8.heap.size w8 W → Calls Tryd.prog 22 #[.agg #[.slice DA dn dc, .slice PA pn' pc, .int .i64 tl.id.1, .int .i64 tl.id.2, .bool tl.ok, .int .i64 tl.err], .agg #[.slice FA fn fc, .slice PA' pn' pc', .int .i64 tl.id.1, .int .i64 tl.id.2, .bool tl.ok, .int .i64 tl.err]] W fun e w' => e = .returned (.bool true) ∧ Below W.heap.size W w' := fun W hW => SameTold_yes DA dn dc PA pn' pc FA fn fc PA' pc' tl W (hTL8.below hW) (hst8.t.below hW) hpn8
            have CST := Lib.hid CST0
            have HRT8 := Lib.hid hRT8
            have HRB8 := Lib.hid hRB8
            have HTI8 := Lib.hid hTI8
            have HKg2 := Lib.hid hKg2
            have HKw2 := Lib.hid hKw2
            have HB8 := Lib.hid hB8
            clear hF8 hRS hK2 hK2x hRS8 hTI8 hKg2 hKw2 hRT8 hRB8 hTL8 hB8 hst8 hpn8 CST0 sF s0d RSF RAF RBF RG0 HF8 hg7 SS CG BF
            go_wp2_with (first
              | (with_reducible refine wpList_ldL rfl (.tmp 30) rfl rfl HRT8.out ?_)
              | (with_reducible refine wpList_ldL rfl (.tmp 32) rfl rfl HRB8.out ?_)
              | (go_at_call 22; refine (CST.out _ (Below.refl _ _)).mono ?_; rintro e w9 ⟨rfl, hb9⟩; have HB9 := Lib.hid hb9; have HR9 := Lib.hid (HR8.out.under hb9); clear hb9))
            go_roundw
            case rel => exact ⟨j + 1, T', tag5, v5, K2, d1, hjn, by go_num, HTI8.out.below HB9.out, HR9.out, HG5.out, HKg2.out, HKw2.out, HB8.out.trans (HB9.out.mono HB8.out.size)⟩
            case measure => simp [intOf]; omega
        · go_simp
          obtain ⟨vA, hv⟩ : ∃ v, v = (w7.alloc (.cells #[.slice none 0 0, .slice none 0 0, .slice none 0 0] 40)).drew := ⟨_, rfl⟩
          have hR : Rec 40 vA w7.heap.size zT := by rw [hv]; exact Rec.new w7 _ _
          have bV : Below w7.heap.size w7 vA := by rw [hv]; exact ((Below.refl _ _).alloc (Nat.le_refl _) _).drew
          have BVA := Lib.hid (bV)
          have sA := SS.out _ BVA.out
          obtain ⟨gA, hgA⟩ : ∃ g, g = w7.heap.size := ⟨_, rfl⟩
          have leA : w7.heap.size ≤ gA := by rw [hgA]; exact Nat.le_refl _
          rw [← hgA] at hR
          try rw [← hv]
          rw [← hgA]
          have RAA := Lib.hid hR
          have HLEA := Lib.hid leA
          clear hv hR bV hgA leA
          refine hK.out _ _ sA (fun hHeld => ?_)
          clear hK K'
          try simp only [Act.put, List.setIfInBounds_toArray, List.set_cons_zero, List.set_cons_succ]
          refine wpAnyH_ready (rs := [5, 10]) (by kernel_rfl) (by simp) ?_
          refine AllReadyH.cons (o := { dst := some 186, op := Op.call { callee := Callee.value (Operand.func 21), args := #[Operand.tmp 181, Operand.tmp 185], argTypes := #[40, 65] }, type := 66, pos := "law.go:102", after := #[{ on := 0, ground := Ground.data }, { on := 4, ground := Ground.data }], guard := none }) rfl (fun K' hK => ?_) (AllReadyH.cons (o := { dst := some 32, op := Op.alloc 62, type := 0, pos := "law.go:102", after := #[], guard := none }) rfl (fun K' hK => ?_) AllReadyH.nil)
          · go_simp
            go_at_call 21; refine (CG.out _ BVA.out).mono ?_; rintro e vAP ⟨d1, FA, fn, fc, PA', pn', pc', rfl, hR1, hT1, hBP⟩
            have BVAP := Lib.hid (BVA.out.trans (hBP.mono BVA.out.size))
            have sAP := SS.out _ BVAP.out
            have RAAP := Lib.hid (RAA.out.under hBP)
            have ltA := RAA.out.lt
            have hsW := BVA.out.size
            have RSAP := Lib.hid (TTl.mono (K' := fun x => (K x ∧ x < w7.heap.size) ∨ (w7.heap.size ≤ x ∧ x < vAP.heap.size ∧ x ≠ gA)) ⟨hR1, hT1⟩ (fun x hx => by rcases hx with h | h; exact .inl h; exact .inr ⟨by omega, h.2, by omega⟩))
            clear hR1 hT1 hBP hsW ltA
            refine hK.out _ _ sAP (fun hHeld => ?_)
            clear hK K'
            try simp only [Act.put, List.setIfInBounds_toArray, List.set_cons_zero, List.set_cons_succ]
            refine wpAnyH_take (i := 6) (oi := { dst := some 180, op := Op.move (Operand.tmp 186), type := 66, pos := "law.go:102", after := #[{ on := 5, ground := Ground.data }], guard := none }) (v := ?_) rfl (by kernel_rfl) (by kernel_rfl) (by kernel_rfl) (fun _ _ _ h => h) (Or.inl ⟨by rfl, ?_⟩) (by assumption) ?_
            rotate_left 1
            · intro w' hSw; (try dsimp only at hSw); go_simp; (try with_reducible rfl)
            simp only [Act.put, List.setIfInBounds_toArray, List.set_cons_zero, List.set_cons_succ]
            refine wpAnyH_take (i := 7) (oi := { dst := some 187, op := Op.extract (Operand.tmp 180) 0, type := 40, pos := "law.go:102", after := #[{ on := 6, ground := Ground.data }], guard := none }) (v := ?_) rfl (by kernel_rfl) (by kernel_rfl) (by kernel_rfl) (fun _ _ _ h => h) (Or.inl ⟨by rfl, ?_⟩) (by assumption) ?_
            rotate_left 1
            · intro w' hSw; (try dsimp only at hSw); go_simp; (try with_reducible rfl)
            simp only [Act.put, List.setIfInBounds_toArray, List.set_cons_zero, List.set_cons_succ]
            refine wpAnyH_take (i := 8) (oi := { dst := some 188, op := Op.extract (Operand.tmp 180) 1, type := 62, pos := "law.go:102", after := #[{ on := 6, ground := Ground.data }, { on := 11, ground := Ground.gcOnly Departure.lateStores }], guard := none }) (v := ?_) rfl (by kernel_rfl) (by kernel_rfl) (by kernel_rfl) (fun _ _ _ h => h) (Or.inl ⟨by rfl, ?_⟩) (by assumption) ?_
            rotate_left 1
            · intro w' hSw; (try dsimp only at hSw); go_simp; (try with_reducible rfl)
            simp only [Act.put, List.setIfInBounds_toArray, List.set_cons_zero, List.set_cons_succ]
            refine wpAnyH_ready (rs := [10]) (by kernel_rfl) (by simp) ?_
            refine AllReadyH.cons (o := { dst := some 32, op := Op.alloc 62, type := 0, pos := "law.go:102", after := #[], guard := none }) rfl (fun K' hK => ?_) AllReadyH.nil
            go_simp
            obtain ⟨vAPB, hv⟩ : ∃ v, v = vAP.alloc (.cells #[.slice none 0 0, .slice none 0 0, .int .i64 0, .int .i64 0, .bool false, .int .i64 0] 62) := ⟨_, rfl⟩
            have hR : Rec 62 vAPB vAP.heap.size zL := by rw [hv]; exact Rec.new vAP _ _
            have bV : Below vAP.heap.size vAP vAPB := by rw [hv]; exact ((Below.refl _ _).alloc (Nat.le_refl _) _)
            have BVAPB := Lib.hid (BVAP.out.trans (bV.mono BVAP.out.size))
            have sAPB := SS.out _ BVAPB.out
            have RAAPB := Lib.hid (RAAP.out.under bV)
            have neA : gA < vAP.heap.size := RAAP.out.lt
            have RSAPB := Lib.hid ((RSAP.out.below bV).mono (K' := fun x => (K x ∧ x < w7.heap.size) ∨ (w7.heap.size ≤ x ∧ x < vAPB.heap.size ∧ x ≠ gA ∧ x ≠ vAP.heap.size)) (fun x hx => by have := bV.size; rcases hx with h | h; exact .inl h; exact .inr ⟨h.1, by omega, by omega, by omega⟩))
            obtain ⟨gB, hgB⟩ : ∃ g, g = vAP.heap.size := ⟨_, rfl⟩
            have leB : w7.heap.size ≤ gB := by rw [hgB]; exact BVAP.out.size
            rw [← hgB] at hR neA RSAPB
            try rw [← hv]
            rw [← hgB]
            have RBAPB := Lib.hid hR
            have HN := Lib.hid neA
            have HLEB := Lib.hid leB
            clear hv hR bV hgB leB neA
            refine hK.out _ _ sAPB (fun hHeld => ?_)
            clear hK K'
            try simp only [Act.put, List.setIfInBounds_toArray, List.set_cons_zero, List.set_cons_succ]
            refine wpAnyH_ready (rs := [11]) (by kernel_rfl) (by simp) ?_
            refine AllReadyH.cons (o := { dst := none, op := Op.store 40 (Operand.tmp 31) (Operand.tmp 187), type := 0, pos := "law.go:102", after := #[{ on := 9, ground := Ground.data }, { on := 7, ground := Ground.data }, { on := 5, ground := Ground.chain }, { on := 0, ground := Ground.phase }, { on := 1, ground := Ground.phase }, { on := 2, ground := Ground.phase }, { on := 3, ground := Ground.phase }, { on := 4, ground := Ground.phase }, { on := 5, ground := Ground.phase }, { on := 6, ground := Ground.phase }, { on := 7, ground := Ground.phase }, { on := 8, ground := Ground.textOnly Departure.lateStores }, { on := 9, ground := Ground.phase }, { on := 10, ground := Ground.phase }], guard := none }) rfl (fun K' hK => ?_) AllReadyH.nil
            refine step_stT d1 rfl (.tmp 31) (.tmp 187) rfl rfl rfl RAAPB.out ?_
            intro vG hRG hFG
            have hne : gA ≠ gB := by have := HN.out; omega
            have BVG := Lib.hid (BVAPB.out.trans (hFG.toBelow (fun x hx => by rw [show x = gA from hx]; exact HLEA.out) BVAPB.out.size))
            have sG := SS.out _ BVG.out
            have RAG := Lib.hid hRG
            have RBG := Lib.hid (RBAPB.out.fr hFG (fun e => hne (show gB = gA from e).symm))
            have RSG := Lib.hid ((RSAPB.out.mono (K' := fun x => (K x ∧ x < w7.heap.size) ∨ (w7.heap.size ≤ x ∧ x < vAPB.heap.size ∧ x ≠ gA ∧ x ≠ gB)) (fun x hx => by rcases hx with h | h; exact .inl h; exact .inr ⟨h.1, h.2.1, by omega, by omega⟩)).stays (w' := vG) ⟨hFG.size, fun x hx => hFG.block x (by have := BVAPB.out.size; rcases hx with h | h <;> omega) (fun e => by have e' : x = gA := e; have := HLEA.out; rcases hx with h | h <;> omega)⟩)
            have hsG := hFG.size
            clear hRG hFG hne
            refine hK.out _ _ sG (fun hHeld => ?_)
            clear hK K'
            try simp only [Act.put]
            refine wpAnyH_ready (rs := [12]) (by kernel_rfl) (by simp) ?_
            refine AllReadyH.cons (o := { dst := none, op := Op.store 62 (Operand.tmp 32) (Operand.tmp 188), type := 0, pos := "law.go:102", after := #[{ on := 10, ground := Ground.data }, { on := 8, ground := Ground.data }, { on := 11, ground := Ground.chain }, { on := 0, ground := Ground.phase }, { on := 1, ground := Ground.phase }, { on := 2, ground := Ground.phase }, { on := 3, ground := Ground.phase }, { on := 4, ground := Ground.phase }, { on := 5, ground := Ground.phase }, { on := 6, ground := Ground.phase }, { on := 7, ground := Ground.phase }, { on := 8, ground := Ground.phase }, { on := 9, ground := Ground.phase }, { on := 10, ground := Ground.phase }, { on := 11, ground := Ground.phase }], guard := none }) rfl (fun K' hK => ?_) AllReadyH.nil
            refine step_stL FA fn fc PA' pn' pc' tl rfl (.tmp 32) (.tmp 188) rfl rfl rfl RBG.out ?_
            intro wF hRF hFF
            have hne : gA ≠ gB := by have := HN.out; omega
            have BF := Lib.hid (BVG.out.trans (hFF.toBelow (fun x hx => by rw [show x = gB from hx]; exact HLEB.out) BVG.out.size))
            have sF := SS.out _ BF.out
            have RBF := Lib.hid hRF
            have RAF := Lib.hid (RAG.out.fr hFF (fun e => hne (show gA = gB from e)))
            have RSF := Lib.hid ((RSG.out.stays (w' := wF) ⟨hFF.size, fun x hx => hFF.block x (by have := BVG.out.size; rcases hx with h | h <;> omega) (fun e => by have e' : x = gB := e; have := HLEB.out; rcases hx with h | h <;> omega)⟩).mono (K' := fun x => (K x ∧ x < w7.heap.size) ∨ (w7.heap.size ≤ x ∧ x < wF.heap.size ∧ x ≠ gA ∧ x ≠ gB)) (fun x hx => by have := hFF.size; rcases hx with h | h; exact .inl h; exact .inr ⟨h.1, by omega, h.2.2.1, h.2.2.2⟩))
            clear hRF hFF hne RAG RBG RSG BVG hsG
            refine hK.out _ _ sF (fun hHeld => ?_)
            clear hK K'
            try simp only [Act.put]
            refine wpAnyH_done (by kernel_rfl) ?_ _
            refine NoPanic.normal ?_
            have hg7 := HRG7.out.lt
            have RG0 := Lib.hid (HRG7.out.under BF.out)
            go_upto_region 28 with (first
              | (with_reducible refine wpList_ldT rfl (.tmp 31) rfl rfl RAF.out ?_)
              | (with_reducible refine wpList_stT d1 rfl (.tmp 16) (.tmp 189) rfl rfl rfl RG0.out ?_; intro w8 hR8 hF8; have HR8 := Lib.hid hR8; have HF8 := Lib.hid hF8; clear hR8 hF8))
            have hF8 := HF8.out
            obtain ⟨K2, hK2⟩ : ∃ K2 : Nat → Prop, K2 = fun x => (K x ∧ x < w7.heap.size) ∨ (w7.heap.size ≤ x ∧ x < wF.heap.size ∧ x ≠ gA ∧ x ≠ gB) := ⟨_, rfl⟩
            have hRS := RSF.out
            rw [← hK2] at hRS
            have hK2x : ∀ x, K2 x → x < wF.heap.size ∧ x ≠ g ∧ tag5 x = 0 := fun x hx => by
              rw [hK2] at hx
              have := BF.out.size
              rcases hx with h | h
              · exact ⟨by omega, fun e => HKG.out (e ▸ h.1), (HK7.out x h.1).2⟩
              · exact ⟨h.2.1, by omega, HA7.out.over h.1⟩
            have hRS8 : TTl K2 w8 d1 T' FA fn fc PA' pn' tl := hRS.stays ⟨hF8.size, fun x hx => hF8.block x (hK2x x hx).1 (hK2x x hx).2.1⟩
            have hTI8 : TI w2.heap.size p m q s T' tag5 v5 K2 d1 w8 := ⟨(HA7.out.below BF.out).kept hF8 (fun x hx e => hx (by rw [show x = g from e]; exact HG5.out)), hRS8.r, fun x hx => ⟨Nat.lt_of_lt_of_le (hK2x x hx).1 hF8.size, (hK2x x hx).2.2⟩⟩
            have hKg2 : ¬ K2 g := fun hx => (hK2x g hx).2.1 rfl
            have hKw2 : ∀ x, x < w.heap.size → K2 x := fun x hx => by
              rw [hK2]
              exact .inl ⟨HKW.out x hx, Nat.lt_of_lt_of_le hx HBW7.out.size⟩
            have hRT8 := (HRT7.out.under BF.out).fr hF8 (fun e => HGT.out (show w5.heap.size = g from e).symm)
            have hRB8 := RBF.out.fr hF8 (fun e => by have e' : gB = g := e; have := HLEB.out; omega)
            have hTL8 : TlS (fun y => wr.heap.size ≤ y ∧ y < w7.heap.size) w8 DA dn dc PA pn tl := (HTL.out.below BF.out).stays ⟨hF8.size, fun x hx => hF8.block x (by have := BF.out.size; omega) (fun e => by have e' : x = g := e; have := HGW.out; omega)⟩
            have hB8 : Below w2.heap.size w2 w8 := (HB7.out.trans (BF.out.mono HB7.out.size)).trans (hF8.toBelow (fun x hx => by rw [show x = g from hx]; exact HGE.out) (HB7.out.trans (BF.out.mono HB7.out.size)).size)
            have epn : pn' = pn := by have h1 := hRS8.t.2.len; have h2 := HTL.out.2.len; omega
            subst epn
            have hst8 : TTl K2 w8 d1 T' FA fn fc PA' pn' tl := hRS8
            have hpn8 : pn' ≤ 1000000 := by have h1 := HPL.out; have h2 := HTL.out.2.len; omega
            have CST0 : ∀ W, Below w8.heap.size w8 W → Calls Tryd.prog 22 #[.agg #[.slice DA dn dc, .slice PA pn' pc, .int .i64 tl.id.1, .int .i64 tl.id.2, .bool tl.ok, .int .i64 tl.err], .agg #[.slice FA fn fc, .slice PA' pn' pc', .int .i64 tl.id.1, .int .i64 tl.id.2, .bool tl.ok, .int .i64 tl.err]] W fun e w' => e = .returned (.bool true) ∧ Below W.heap.size W w' := fun W hW => SameTold_yes DA dn dc PA pn' pc FA fn fc PA' pc' tl W (hTL8.below hW) (hst8.t.below hW) hpn8
            have CST := Lib.hid CST0
            have HRT8 := Lib.hid hRT8
            have HRB8 := Lib.hid hRB8
            have HTI8 := Lib.hid hTI8
            have HKg2 := Lib.hid hKg2
            have HKw2 := Lib.hid hKw2
            have HB8 := Lib.hid hB8
            clear hF8 hRS hK2 hK2x hRS8 hTI8 hKg2 hKw2 hRT8 hRB8 hTL8 hB8 hst8 hpn8 CST0 sF s0d RSF RAF RBF RG0 HF8 hg7 SS CG BF
            go_wp2_with (first
              | (with_reducible refine wpList_ldL rfl (.tmp 30) rfl rfl HRT8.out ?_)
              | (with_reducible refine wpList_ldL rfl (.tmp 32) rfl rfl HRB8.out ?_)
              | (go_at_call 22; refine (CST.out _ (Below.refl _ _)).mono ?_; rintro e w9 ⟨rfl, hb9⟩; have HB9 := Lib.hid hb9; have HR9 := Lib.hid (HR8.out.under hb9); clear hb9))
            go_roundw
            case rel => exact ⟨j + 1, T', tag5, v5, K2, d1, hjn, by go_num, HTI8.out.below HB9.out, HR9.out, HG5.out, HKg2.out, HKw2.out, HB8.out.trans (HB9.out.mono HB8.out.size)⟩
            case measure => simp [intOf]; omega
          · go_simp
            obtain ⟨vAB, hv⟩ : ∃ v, v = vA.alloc (.cells #[.slice none 0 0, .slice none 0 0, .int .i64 0, .int .i64 0, .bool false, .int .i64 0] 62) := ⟨_, rfl⟩
            have hR : Rec 62 vAB vA.heap.size zL := by rw [hv]; exact Rec.new vA _ _
            have bV : Below vA.heap.size vA vAB := by rw [hv]; exact ((Below.refl _ _).alloc (Nat.le_refl _) _)
            have BVAB := Lib.hid (BVA.out.trans (bV.mono BVA.out.size))
            have sAB := SS.out _ BVAB.out
            have RAAB := Lib.hid (RAA.out.under bV)
            have neA : gA < vA.heap.size := RAA.out.lt
            obtain ⟨gB, hgB⟩ : ∃ g, g = vA.heap.size := ⟨_, rfl⟩
            have leB : w7.heap.size ≤ gB := by rw [hgB]; exact BVA.out.size
            rw [← hgB] at hR neA
            try rw [← hv]
            rw [← hgB]
            have RBAB := Lib.hid hR
            have HN := Lib.hid neA
            have HLEB := Lib.hid leB
            clear hv hR bV hgB leB neA
            refine hK.out _ _ sAB (fun hHeld => ?_)
            clear hK K'
            try simp only [Act.put, List.setIfInBounds_toArray, List.set_cons_zero, List.set_cons_succ]
            refine wpAnyH_ready (rs := [5]) (by kernel_rfl) (by simp) ?_
            refine AllReadyH.cons (o := { dst := some 186, op := Op.call { callee := Callee.value (Operand.func 21), args := #[Operand.tmp 181, Operand.tmp 185], argTypes := #[40, 65] }, type := 66, pos := "law.go:102", after := #[{ on := 0, ground := Ground.data }, { on := 4, ground := Ground.data }], guard := none }) rfl (fun K' hK => ?_) AllReadyH.nil
            go_simp
            go_at_call 21; refine (CG.out _ BVAB.out).mono ?_; rintro e vABP ⟨d1, FA, fn, fc, PA', pn', pc', rfl, hR1, hT1, hBP⟩
            have BVABP := Lib.hid (BVAB.out.trans (hBP.mono BVAB.out.size))
            have sABP := SS.out _ BVABP.out
            have RAABP := Lib.hid (RAAB.out.under hBP)
            have RBABP := Lib.hid (RBAB.out.under hBP)
            have ltA := RAAB.out.lt
            have ltB := RBAB.out.lt
            have hsW := BVAB.out.size
            have RSABP := Lib.hid (TTl.mono (K' := fun x => (K x ∧ x < w7.heap.size) ∨ (w7.heap.size ≤ x ∧ x < vABP.heap.size ∧ x ≠ gA ∧ x ≠ gB)) ⟨hR1, hT1⟩ (fun x hx => by rcases hx with h | h; exact .inl h; exact .inr ⟨by omega, h.2, by omega, by omega⟩))
            clear hR1 hT1 hBP hsW ltA ltB
            refine hK.out _ _ sABP (fun hHeld => ?_)
            clear hK K'
            try simp only [Act.put, List.setIfInBounds_toArray, List.set_cons_zero, List.set_cons_succ]
            refine wpAnyH_take (i := 6) (oi := { dst := some 180, op := Op.move (Operand.tmp 186), type := 66, pos := "law.go:102", after := #[{ on := 5, ground := Ground.data }], guard := none }) (v := ?_) rfl (by kernel_rfl) (by kernel_rfl) (by kernel_rfl) (fun _ _ _ h => h) (Or.inl ⟨by rfl, ?_⟩) (by assumption) ?_
            rotate_left 1
            · intro w' hSw; (try dsimp only at hSw); go_simp; (try with_reducible rfl)
            simp only [Act.put, List.setIfInBounds_toArray, List.set_cons_zero, List.set_cons_succ]
            refine wpAnyH_take (i := 7) (oi := { dst := some 187, op := Op.extract (Operand.tmp 180) 0, type := 40, pos := "law.go:102", after := #[{ on := 6, ground := Ground.data }], guard := none }) (v := ?_) rfl (by kernel_rfl) (by kernel_rfl) (by kernel_rfl) (fun _ _ _ h => h) (Or.inl ⟨by rfl, ?_⟩) (by assumption) ?_
            rotate_left 1
            · intro w' hSw; (try dsimp only at hSw); go_simp; (try with_reducible rfl)
            simp only [Act.put, List.setIfInBounds_toArray, List.set_cons_zero, List.set_cons_succ]
            refine wpAnyH_take (i := 8) (oi := { dst := some 188, op := Op.extract (Operand.tmp 180) 1, type := 62, pos := "law.go:102", after := #[{ on := 6, ground := Ground.data }, { on := 11, ground := Ground.gcOnly Departure.lateStores }], guard := none }) (v := ?_) rfl (by kernel_rfl) (by kernel_rfl) (by kernel_rfl) (fun _ _ _ h => h) (Or.inl ⟨by rfl, ?_⟩) (by assumption) ?_
            rotate_left 1
            · intro w' hSw; (try dsimp only at hSw); go_simp; (try with_reducible rfl)
            simp only [Act.put, List.setIfInBounds_toArray, List.set_cons_zero, List.set_cons_succ]
            refine wpAnyH_ready (rs := [11]) (by kernel_rfl) (by simp) ?_
            refine AllReadyH.cons (o := { dst := none, op := Op.store 40 (Operand.tmp 31) (Operand.tmp 187), type := 0, pos := "law.go:102", after := #[{ on := 9, ground := Ground.data }, { on := 7, ground := Ground.data }, { on := 5, ground := Ground.chain }, { on := 0, ground := Ground.phase }, { on := 1, ground := Ground.phase }, { on := 2, ground := Ground.phase }, { on := 3, ground := Ground.phase }, { on := 4, ground := Ground.phase }, { on := 5, ground := Ground.phase }, { on := 6, ground := Ground.phase }, { on := 7, ground := Ground.phase }, { on := 8, ground := Ground.textOnly Departure.lateStores }, { on := 9, ground := Ground.phase }, { on := 10, ground := Ground.phase }], guard := none }) rfl (fun K' hK => ?_) AllReadyH.nil
            refine step_stT d1 rfl (.tmp 31) (.tmp 187) rfl rfl rfl RAABP.out ?_
            intro vG hRG hFG
            have hne : gA ≠ gB := by have := HN.out; omega
            have BVG := Lib.hid (BVABP.out.trans (hFG.toBelow (fun x hx => by rw [show x = gA from hx]; exact HLEA.out) BVABP.out.size))
            have sG := SS.out _ BVG.out
            have RAG := Lib.hid hRG
            have RBG := Lib.hid (RBABP.out.fr hFG (fun e => hne (show gB = gA from e).symm))
            have RSG := Lib.hid ((RSABP.out.mono (K' := fun x => (K x ∧ x < w7.heap.size) ∨ (w7.heap.size ≤ x ∧ x < vABP.heap.size ∧ x ≠ gA ∧ x ≠ gB)) (fun x hx => by rcases hx with h | h; exact .inl h; exact .inr ⟨h.1, h.2.1, by omega, by omega⟩)).stays (w' := vG) ⟨hFG.size, fun x hx => hFG.block x (by have := BVABP.out.size; rcases hx with h | h <;> omega) (fun e => by have e' : x = gA := e; have := HLEA.out; rcases hx with h | h <;> omega)⟩)
            have hsG := hFG.size
            clear hRG hFG hne
            refine hK.out _ _ sG (fun hHeld => ?_)
            clear hK K'
            try simp only [Act.put]
            refine wpAnyH_ready (rs := [12]) (by kernel_rfl) (by simp) ?_
            refine AllReadyH.cons (o := { dst := none, op := Op.store 62 (Operand.tmp 32) (Operand.tmp 188), type := 0, pos := "law.go:102", after := #[{ on := 10, ground := Ground.data }, { on := 8, ground := Ground.data }, { on := 11, ground := Ground.chain }, { on := 0, ground := Ground.phase }, { on := 1, ground := Ground.phase }, { on := 2, ground := Ground.phase }, { on := 3, ground := Ground.phase }, { on := 4, ground := Ground.phase }, { on := 5, ground := Ground.phase }, { on := 6, ground := Ground.phase }, { on := 7, ground := Ground.phase }, { on := 8, ground := Ground.phase }, { on := 9, ground := Ground.phase }, { on := 10, ground := Ground.phase }, { on := 11, ground := Ground.phase }], guard := none }) rfl (fun K' hK => ?_) AllReadyH.nil
            refine step_stL FA fn fc PA' pn' pc' tl rfl (.tmp 32) (.tmp 188) rfl rfl rfl RBG.out ?_
            intro wF hRF hFF
            have hne : gA ≠ gB := by have := HN.out; omega
            have BF := Lib.hid (BVG.out.trans (hFF.toBelow (fun x hx => by rw [show x = gB from hx]; exact HLEB.out) BVG.out.size))
            have sF := SS.out _ BF.out
            have RBF := Lib.hid hRF
            have RAF := Lib.hid (RAG.out.fr hFF (fun e => hne (show gA = gB from e)))
            have RSF := Lib.hid ((RSG.out.stays (w' := wF) ⟨hFF.size, fun x hx => hFF.block x (by have := BVG.out.size; rcases hx with h | h <;> omega) (fun e => by have e' : x = gB := e; have := HLEB.out; rcases hx with h | h <;> omega)⟩).mono (K' := fun x => (K x ∧ x < w7.heap.size) ∨ (w7.heap.size ≤ x ∧ x < wF.heap.size ∧ x ≠ gA ∧ x ≠ gB)) (fun x hx => by have := hFF.size; rcases hx with h | h; exact .inl h; exact .inr ⟨h.1, by omega, h.2.2.1, h.2.2.2⟩))
            clear hRF hFF hne RAG RBG RSG BVG hsG
            refine hK.out _ _ sF (fun hHeld => ?_)
            clear hK K'
            try simp only [Act.put]
            refine wpAnyH_done (by kernel_rfl) ?_ _
            refine NoPanic.normal ?_
            have hg7 := HRG7.out.lt
            have RG0 := Lib.hid (HRG7.out.under BF.out)
            go_upto_region 28 with (first
              | (with_reducible refine wpList_ldT rfl (.tmp 31) rfl rfl RAF.out ?_)
              | (with_reducible refine wpList_stT d1 rfl (.tmp 16) (.tmp 189) rfl rfl rfl RG0.out ?_; intro w8 hR8 hF8; have HR8 := Lib.hid hR8; have HF8 := Lib.hid hF8; clear hR8 hF8))
            have hF8 := HF8.out
            obtain ⟨K2, hK2⟩ : ∃ K2 : Nat → Prop, K2 = fun x => (K x ∧ x < w7.heap.size) ∨ (w7.heap.size ≤ x ∧ x < wF.heap.size ∧ x ≠ gA ∧ x ≠ gB) := ⟨_, rfl⟩
            have hRS := RSF.out
            rw [← hK2] at hRS
            have hK2x : ∀ x, K2 x → x < wF.heap.size ∧ x ≠ g ∧ tag5 x = 0 := fun x hx => by
              rw [hK2] at hx
              have := BF.out.size
              rcases hx with h | h
              · exact ⟨by omega, fun e => HKG.out (e ▸ h.1), (HK7.out x h.1).2⟩
              · exact ⟨h.2.1, by omega, HA7.out.over h.1⟩
            have hRS8 : TTl K2 w8 d1 T' FA fn fc PA' pn' tl := hRS.stays ⟨hF8.size, fun x hx => hF8.block x (hK2x x hx).1 (hK2x x hx).2.1⟩
            have hTI8 : TI w2.heap.size p m q s T' tag5 v5 K2 d1 w8 := ⟨(HA7.out.below BF.out).kept hF8 (fun x hx e => hx (by rw [show x = g from e]; exact HG5.out)), hRS8.r, fun x hx => ⟨Nat.lt_of_lt_of_le (hK2x x hx).1 hF8.size, (hK2x x hx).2.2⟩⟩
            have hKg2 : ¬ K2 g := fun hx => (hK2x g hx).2.1 rfl
            have hKw2 : ∀ x, x < w.heap.size → K2 x := fun x hx => by
              rw [hK2]
              exact .inl ⟨HKW.out x hx, Nat.lt_of_lt_of_le hx HBW7.out.size⟩
            have hRT8 := (HRT7.out.under BF.out).fr hF8 (fun e => HGT.out (show w5.heap.size = g from e).symm)
            have hRB8 := RBF.out.fr hF8 (fun e => by have e' : gB = g := e; have := HLEB.out; omega)
            have hTL8 : TlS (fun y => wr.heap.size ≤ y ∧ y < w7.heap.size) w8 DA dn dc PA pn tl := (HTL.out.below BF.out).stays ⟨hF8.size, fun x hx => hF8.block x (by have := BF.out.size; omega) (fun e => by have e' : x = g := e; have := HGW.out; omega)⟩
            have hB8 : Below w2.heap.size w2 w8 := (HB7.out.trans (BF.out.mono HB7.out.size)).trans (hF8.toBelow (fun x hx => by rw [show x = g from hx]; exact HGE.out) (HB7.out.trans (BF.out.mono HB7.out.size)).size)
            have epn : pn' = pn := by have h1 := hRS8.t.2.len; have h2 := HTL.out.2.len; omega
            subst epn
            have hst8 : TTl K2 w8 d1 T' FA fn fc PA' pn' tl := hRS8
            have hpn8 : pn' ≤ 1000000 := by have h1 := HPL.out; have h2 := HTL.out.2.len; omega
            have CST0 : ∀ W, Below w8.heap.size w8 W → Calls Tryd.prog 22 #[.agg #[.slice DA dn dc, .slice PA pn' pc, .int .i64 tl.id.1, .int .i64 tl.id.2, .bool tl.ok, .int .i64 tl.err], .agg #[.slice FA fn fc, .slice PA' pn' pc', .int .i64 tl.id.1, .int .i64 tl.id.2, .bool tl.ok, .int .i64 tl.err]] W fun e w' => e = .returned (.bool true) ∧ Below W.heap.size W w' := fun W hW => SameTold_yes DA dn dc PA pn' pc FA fn fc PA' pc' tl W (hTL8.below hW) (hst8.t.below hW) hpn8
            have CST := Lib.hid CST0
            have HRT8 := Lib.hid hRT8
            have HRB8 := Lib.hid hRB8
            have HTI8 := Lib.hid hTI8
            have HKg2 := Lib.hid hKg2
            have HKw2 := Lib.hid hKw2
            have HB8 := Lib.hid hB8
            clear hF8 hRS hK2 hK2x hRS8 hTI8 hKg2 hKw2 hRT8 hRB8 hTL8 hB8 hst8 hpn8 CST0 sF s0d RSF RAF RBF RG0 HF8 hg7 SS CG BF
            go_wp2_with (first
              | (with_reducible refine wpList_ldL rfl (.tmp 30) rfl rfl HRT8.out ?_)
              | (with_reducible refine wpList_ldL rfl (.tmp 32) rfl rfl HRB8.out ?_)
              | (go_at_call 22; refine (CST.out _ (Below.refl _ _)).mono ?_; rintro e w9 ⟨rfl, hb9⟩; have HB9 := Lib.hid hb9; have HR9 := Lib.hid (HR8.out.under hb9); clear hb9))
            go_roundw
            case rel => exact ⟨j + 1, T', tag5, v5, K2, d1, hjn, by go_num, HTI8.out.below HB9.out, HR9.out, HG5.out, HKg2.out, HKw2.out, HB8.out.trans (HB9.out.mono HB8.out.size)⟩
            case measure => simp [intOf]; omega
        · go_simp
          obtain ⟨vB, hv⟩ : ∃ v, v = (w7.alloc (.cells #[.slice none 0 0, .slice none 0 0, .int .i64 0, .int .i64 0, .bool false, .int .i64 0] 62)).drew := ⟨_, rfl⟩
          have hR : Rec 62 vB w7.heap.size zL := by rw [hv]; exact Rec.new w7 _ _
          have bV : Below w7.heap.size w7 vB := by rw [hv]; exact ((Below.refl _ _).alloc (Nat.le_refl _) _).drew
          have BVB := Lib.hid (bV)
          have sB := SS.out _ BVB.out
          obtain ⟨gB, hgB⟩ : ∃ g, g = w7.heap.size := ⟨_, rfl⟩
          have leB : w7.heap.size ≤ gB := by rw [hgB]; exact Nat.le_refl _
          rw [← hgB] at hR
          try rw [← hv]
          rw [← hgB]
          have RBB := Lib.hid hR
          have HLEB := Lib.hid leB
          clear hv hR bV hgB leB
          refine hK.out _ _ sB (fun hHeld => ?_)
          clear hK K'
          try simp only [Act.put, List.setIfInBounds_toArray, List.set_cons_zero, List.set_cons_succ]
          refine wpAnyH_ready (rs := [5, 9]) (by kernel_rfl) (by simp) ?_
          refine AllReadyH.cons (o := { dst := some 186, op := Op.call { callee := Callee.value (Operand.func 21), args := #[Operand.tmp 181, Operand.tmp 185], argTypes := #[40, 65] }, type := 66, pos := "law.go:102", after := #[{ on := 0, ground := Ground.data }, { on := 4, ground := Ground.data }], guard := none }) rfl (fun K' hK => ?_) (AllReadyH.cons (o := { dst := some 31, op := Op.alloc 40, type := 0, pos := "law.go:102", after := #[], guard := none }) rfl (fun K' hK => ?_) AllReadyH.nil)
          · go_simp
            go_at_call 21; refine (CG.out _ BVB.out).mono ?_; rintro e vBP ⟨d1, FA, fn, fc, PA', pn', pc', rfl, hR1, hT1, hBP⟩
            have BVBP := Lib.hid (BVB.out.trans (hBP.mono BVB.out.size))
            have sBP := SS.out _ BVBP.out
            have RBBP := Lib.hid (RBB.out.under hBP)
            have ltB := RBB.out.lt
            have hsW := BVB.out.size
            have RSBP := Lib.hid (TTl.mono (K' := fun x => (K x ∧ x < w7.heap.size) ∨ (w7.heap.size ≤ x ∧ x < vBP.heap.size ∧ x ≠ gB)) ⟨hR1, hT1⟩ (fun x hx => by rcases hx with h | h; exact .inl h; exact .inr ⟨by omega, h.2, by omega⟩))
            clear hR1 hT1 hBP hsW ltB
            refine hK.out _ _ sBP (fun hHeld => ?_)
            clear hK K'
            try simp only [Act.put, List.setIfInBounds_toArray, List.set_cons_zero, List.set_cons_succ]
            refine wpAnyH_take (i := 6) (oi := { dst := some 180, op := Op.move (Operand.tmp 186), type := 66, pos := "law.go:102", after := #[{ on := 5, ground := Ground.data }], guard := none }) (v := ?_) rfl (by kernel_rfl) (by kernel_rfl) (by kernel_rfl) (fun _ _ _ h => h) (Or.inl ⟨by rfl, ?_⟩) (by assumption) ?_
            rotate_left 1
            · intro w' hSw; (try dsimp only at hSw); go_simp; (try with_reducible rfl)
            simp only [Act.put, List.setIfInBounds_toArray, List.set_cons_zero, List.set_cons_succ]
            refine wpAnyH_take (i := 7) (oi := { dst := some 187, op := Op.extract (Operand.tmp 180) 0, type := 40, pos := "law.go:102", after := #[{ on := 6, ground := Ground.data }], guard := none }) (v := ?_) rfl (by kernel_rfl) (by kernel_rfl) (by kernel_rfl) (fun _ _ _ h => h) (Or.inl ⟨by rfl, ?_⟩) (by assumption) ?_
            rotate_left 1
            · intro w' hSw; (try dsimp only at hSw); go_simp; (try with_reducible rfl)
            simp only [Act.put, List.setIfInBounds_toArray, List.set_cons_zero, List.set_cons_succ]
            refine wpAnyH_take (i := 8) (oi := { dst := some 188, op := Op.extract (Operand.tmp 180) 1, type := 62, pos := "law.go:102", after := #[{ on := 6, ground := Ground.data }, { on := 11, ground := Ground.gcOnly Departure.lateStores }], guard := none }) (v := ?_) rfl (by kernel_rfl) (by kernel_rfl) (by kernel_rfl) (fun _ _ _ h => h) (Or.inl ⟨by rfl, ?_⟩) (by assumption) ?_
            rotate_left 1
            · intro w' hSw; (try dsimp only at hSw); go_simp; (try with_reducible rfl)
            simp only [Act.put, List.setIfInBounds_toArray, List.set_cons_zero, List.set_cons_succ]
            refine wpAnyH_ready (rs := [9]) (by kernel_rfl) (by simp) ?_
            refine AllReadyH.cons (o := { dst := some 31, op := Op.alloc 40, type := 0, pos := "law.go:102", after := #[], guard := none }) rfl (fun K' hK => ?_) AllReadyH.nil
            go_simp
            obtain ⟨vBPA, hv⟩ : ∃ v, v = vBP.alloc (.cells #[.slice none 0 0, .slice none 0 0, .slice none 0 0] 40) := ⟨_, rfl⟩
            have hR : Rec 40 vBPA vBP.heap.size zT := by rw [hv]; exact Rec.new vBP _ _
            have bV : Below vBP.heap.size vBP vBPA := by rw [hv]; exact ((Below.refl _ _).alloc (Nat.le_refl _) _)
            have BVBPA := Lib.hid (BVBP.out.trans (bV.mono BVBP.out.size))
            have sBPA := SS.out _ BVBPA.out
            have RBBPA := Lib.hid (RBBP.out.under bV)
            have neB : gB < vBP.heap.size := RBBP.out.lt
            have RSBPA := Lib.hid ((RSBP.out.below bV).mono (K' := fun x => (K x ∧ x < w7.heap.size) ∨ (w7.heap.size ≤ x ∧ x < vBPA.heap.size ∧ x ≠ gB ∧ x ≠ vBP.heap.size)) (fun x hx => by have := bV.size; rcases hx with h | h; exact .inl h; exact .inr ⟨h.1, by omega, by omega, by omega⟩))
            obtain ⟨gA, hgA⟩ : ∃ g, g = vBP.heap.size := ⟨_, rfl⟩
            have leA : w7.heap.size ≤ gA := by rw [hgA]; exact BVBP.out.size
            rw [← hgA] at hR neB RSBPA
            try rw [← hv]
            rw [← hgA]
            have RABPA := Lib.hid hR
            have HN := Lib.hid neB
            have HLEA := Lib.hid leA
            clear hv hR bV hgA leA neB
            refine hK.out _ _ sBPA (fun hHeld => ?_)
            clear hK K'
            try simp only [Act.put, List.setIfInBounds_toArray, List.set_cons_zero, List.set_cons_succ]
            refine wpAnyH_ready (rs := [11]) (by kernel_rfl) (by simp) ?_
            refine AllReadyH.cons (o := { dst := none, op := Op.store 40 (Operand.tmp 31) (Operand.tmp 187), type := 0, pos := "law.go:102", after := #[{ on := 9, ground := Ground.data }, { on := 7, ground := Ground.data }, { on := 5, ground := Ground.chain }, { on := 0, ground := Ground.phase }, { on := 1, ground := Ground.phase }, { on := 2, ground := Ground.phase }, { on := 3, ground := Ground.phase }, { on := 4, ground := Ground.phase }, { on := 5, ground := Ground.phase }, { on := 6, ground := Ground.phase }, { on := 7, ground := Ground.phase }, { on := 8, ground := Ground.textOnly Departure.lateStores }, { on := 9, ground := Ground.phase }, { on := 10, ground := Ground.phase }], guard := none }) rfl (fun K' hK => ?_) AllReadyH.nil
            refine step_stT d1 rfl (.tmp 31) (.tmp 187) rfl rfl rfl RABPA.out ?_
            intro vG hRG hFG
            have hne : gA ≠ gB := by have := HN.out; omega
            have BVG := Lib.hid (BVBPA.out.trans (hFG.toBelow (fun x hx => by rw [show x = gA from hx]; exact HLEA.out) BVBPA.out.size))
            have sG := SS.out _ BVG.out
            have RAG := Lib.hid hRG
            have RBG := Lib.hid (RBBPA.out.fr hFG (fun e => hne (show gB = gA from e).symm))
            have RSG := Lib.hid ((RSBPA.out.mono (K' := fun x => (K x ∧ x < w7.heap.size) ∨ (w7.heap.size ≤ x ∧ x < vBPA.heap.size ∧ x ≠ gA ∧ x ≠ gB)) (fun x hx => by rcases hx with h | h; exact .inl h; exact .inr ⟨h.1, h.2.1, by omega, by omega⟩)).stays (w' := vG) ⟨hFG.size, fun x hx => hFG.block x (by have := BVBPA.out.size; rcases hx with h | h <;> omega) (fun e => by have e' : x = gA := e; have := HLEA.out; rcases hx with h | h <;> omega)⟩)
            have hsG := hFG.size
            clear hRG hFG hne
            refine hK.out _ _ sG (fun hHeld => ?_)
            clear hK K'
            try simp only [Act.put]
            refine wpAnyH_ready (rs := [12]) (by kernel_rfl) (by simp) ?_
            refine AllReadyH.cons (o := { dst := none, op := Op.store 62 (Operand.tmp 32) (Operand.tmp 188), type := 0, pos := "law.go:102", after := #[{ on := 10, ground := Ground.data }, { on := 8, ground := Ground.data }, { on := 11, ground := Ground.chain }, { on := 0, ground := Ground.phase }, { on := 1, ground := Ground.phase }, { on := 2, ground := Ground.phase }, { on := 3, ground := Ground.phase }, { on := 4, ground := Ground.phase }, { on := 5, ground := Ground.phase }, { on := 6, ground := Ground.phase }, { on := 7, ground := Ground.phase }, { on := 8, ground := Ground.phase }, { on := 9, ground := Ground.phase }, { on := 10, ground := Ground.phase }, { on := 11, ground := Ground.phase }], guard := none }) rfl (fun K' hK => ?_) AllReadyH.nil
            refine step_stL FA fn fc PA' pn' pc' tl rfl (.tmp 32) (.tmp 188) rfl rfl rfl RBG.out ?_
            intro wF hRF hFF
            have hne : gA ≠ gB := by have := HN.out; omega
            have BF := Lib.hid (BVG.out.trans (hFF.toBelow (fun x hx => by rw [show x = gB from hx]; exact HLEB.out) BVG.out.size))
            have sF := SS.out _ BF.out
            have RBF := Lib.hid hRF
            have RAF := Lib.hid (RAG.out.fr hFF (fun e => hne (show gA = gB from e)))
            have RSF := Lib.hid ((RSG.out.stays (w' := wF) ⟨hFF.size, fun x hx => hFF.block x (by have := BVG.out.size; rcases hx with h | h <;> omega) (fun e => by have e' : x = gB := e; have := HLEB.out; rcases hx with h | h <;> omega)⟩).mono (K' := fun x => (K x ∧ x < w7.heap.size) ∨ (w7.heap.size ≤ x ∧ x < wF.heap.size ∧ x ≠ gA ∧ x ≠ gB)) (fun x hx => by have := hFF.size; rcases hx with h | h; exact .inl h; exact .inr ⟨h.1, by omega, h.2.2.1, h.2.2.2⟩))
            clear hRF hFF hne RAG RBG RSG BVG hsG
            refine hK.out _ _ sF (fun hHeld => ?_)
            clear hK K'
            try simp only [Act.put]
            refine wpAnyH_done (by kernel_rfl) ?_ _
            refine NoPanic.normal ?_
            have hg7 := HRG7.out.lt
            have RG0 := Lib.hid (HRG7.out.under BF.out)
            go_upto_region 28 with (first
              | (with_reducible refine wpList_ldT rfl (.tmp 31) rfl rfl RAF.out ?_)
              | (with_reducible refine wpList_stT d1 rfl (.tmp 16) (.tmp 189) rfl rfl rfl RG0.out ?_; intro w8 hR8 hF8; have HR8 := Lib.hid hR8; have HF8 := Lib.hid hF8; clear hR8 hF8))
            have hF8 := HF8.out
            obtain ⟨K2, hK2⟩ : ∃ K2 : Nat → Prop, K2 = fun x => (K x ∧ x < w7.heap.size) ∨ (w7.heap.size ≤ x ∧ x < wF.heap.size ∧ x ≠ gA ∧ x ≠ gB) := ⟨_, rfl⟩
            have hRS := RSF.out
            rw [← hK2] at hRS
            have hK2x : ∀ x, K2 x → x < wF.heap.size ∧ x ≠ g ∧ tag5 x = 0 := fun x hx => by
              rw [hK2] at hx
              have := BF.out.size
              rcases hx with h | h
              · exact ⟨by omega, fun e => HKG.out (e ▸ h.1), (HK7.out x h.1).2⟩
              · exact ⟨h.2.1, by omega, HA7.out.over h.1⟩
            have hRS8 : TTl K2 w8 d1 T' FA fn fc PA' pn' tl := hRS.stays ⟨hF8.size, fun x hx => hF8.block x (hK2x x hx).1 (hK2x x hx).2.1⟩
            have hTI8 : TI w2.heap.size p m q s T' tag5 v5 K2 d1 w8 := ⟨(HA7.out.below BF.out).kept hF8 (fun x hx e => hx (by rw [show x = g from e]; exact HG5.out)), hRS8.r, fun x hx => ⟨Nat.lt_of_lt_of_le (hK2x x hx).1 hF8.size, (hK2x x hx).2.2⟩⟩
            have hKg2 : ¬ K2 g := fun hx => (hK2x g hx).2.1 rfl
            have hKw2 : ∀ x, x < w.heap.size → K2 x := fun x hx => by
              rw [hK2]
              exact .inl ⟨HKW.out x hx, Nat.lt_of_lt_of_le hx HBW7.out.size⟩
            have hRT8 := (HRT7.out.under BF.out).fr hF8 (fun e => HGT.out (show w5.heap.size = g from e).symm)
            have hRB8 := RBF.out.fr hF8 (fun e => by have e' : gB = g := e; have := HLEB.out; omega)
            have hTL8 : TlS (fun y => wr.heap.size ≤ y ∧ y < w7.heap.size) w8 DA dn dc PA pn tl := (HTL.out.below BF.out).stays ⟨hF8.size, fun x hx => hF8.block x (by have := BF.out.size; omega) (fun e => by have e' : x = g := e; have := HGW.out; omega)⟩
            have hB8 : Below w2.heap.size w2 w8 := (HB7.out.trans (BF.out.mono HB7.out.size)).trans (hF8.toBelow (fun x hx => by rw [show x = g from hx]; exact HGE.out) (HB7.out.trans (BF.out.mono HB7.out.size)).size)
            have epn : pn' = pn := by have h1 := hRS8.t.2.len; have h2 := HTL.out.2.len; omega
            subst epn
            have hst8 : TTl K2 w8 d1 T' FA fn fc PA' pn' tl := hRS8
            have hpn8 : pn' ≤ 1000000 := by have h1 := HPL.out; have h2 := HTL.out.2.len; omega
            have CST0 : ∀ W, Below w8.heap.size w8 W → Calls Tryd.prog 22 #[.agg #[.slice DA dn dc, .slice PA pn' pc, .int .i64 tl.id.1, .int .i64 tl.id.2, .bool tl.ok, .int .i64 tl.err], .agg #[.slice FA fn fc, .slice PA' pn' pc', .int .i64 tl.id.1, .int .i64 tl.id.2, .bool tl.ok, .int .i64 tl.err]] W fun e w' => e = .returned (.bool true) ∧ Below W.heap.size W w' := fun W hW => SameTold_yes DA dn dc PA pn' pc FA fn fc PA' pc' tl W (hTL8.below hW) (hst8.t.below hW) hpn8
            have CST := Lib.hid CST0
            have HRT8 := Lib.hid hRT8
            have HRB8 := Lib.hid hRB8
            have HTI8 := Lib.hid hTI8
            have HKg2 := Lib.hid hKg2
            have HKw2 := Lib.hid hKw2
            have HB8 := Lib.hid hB8
            clear hF8 hRS hK2 hK2x hRS8 hTI8 hKg2 hKw2 hRT8 hRB8 hTL8 hB8 hst8 hpn8 CST0 sF s0d RSF RAF RBF RG0 HF8 hg7 SS CG BF
            go_wp2_with (first
              | (with_reducible refine wpList_ldL rfl (.tmp 30) rfl rfl HRT8.out ?_)
              | (with_reducible refine wpList_ldL rfl (.tmp 32) rfl rfl HRB8.out ?_)
              | (go_at_call 22; refine (CST.out _ (Below.refl _ _)).mono ?_; rintro e w9 ⟨rfl, hb9⟩; have HB9 := Lib.hid hb9; have HR9 := Lib.hid (HR8.out.under hb9); clear hb9))
            go_roundw
            case rel => exact ⟨j + 1, T', tag5, v5, K2, d1, hjn, by go_num, HTI8.out.below HB9.out, HR9.out, HG5.out, HKg2.out, HKw2.out, HB8.out.trans (HB9.out.mono HB8.out.size)⟩
            case measure => simp [intOf]; omega
          · go_simp
            obtain ⟨vBA, hv⟩ : ∃ v, v = vB.alloc (.cells #[.slice none 0 0, .slice none 0 0, .slice none 0 0] 40) := ⟨_, rfl⟩
            have hR : Rec 40 vBA vB.heap.size zT := by rw [hv]; exact Rec.new vB _ _
            have bV : Below vB.heap.size vB vBA := by rw [hv]; exact ((Below.refl _ _).alloc (Nat.le_refl _) _)
            have BVBA := Lib.hid (BVB.out.trans (bV.mono BVB.out.size))
            have sBA := SS.out _ BVBA.out
            have RBBA := Lib.hid (RBB.out.under bV)
            have neB : gB < vB.heap.size := RBB.out.lt
            obtain ⟨gA, hgA⟩ : ∃ g, g = vB.heap.size := ⟨_, rfl⟩
            have leA : w7.heap.size ≤ gA := by rw [hgA]; exact BVB.out.size
            rw [← hgA] at hR neB
            try rw [← hv]
            rw [← hgA]
            have RABA := Lib.hid hR
            have HN := Lib.hid neB
            have HLEA := Lib.hid leA
            clear hv hR bV hgA leA neB
            refine hK.out _ _ sBA (fun hHeld => ?_)
            clear hK K'
            try simp only [Act.put, List.setIfInBounds_toArray, List.set_cons_zero, List.set_cons_succ]
            refine wpAnyH_ready (rs := [5]) (by kernel_rfl) (by simp) ?_
            refine AllReadyH.cons (o := { dst := some 186, op := Op.call { callee := Callee.value (Operand.func 21), args := #[Operand.tmp 181, Operand.tmp 185], argTypes := #[40, 65] }, type := 66, pos := "law.go:102", after := #[{ on := 0, ground := Ground.data }, { on := 4, ground := Ground.data }], guard := none }) rfl (fun K' hK => ?_) AllReadyH.nil
            go_simp
            go_at_call 21; refine (CG.out _ BVBA.out).mono ?_; rintro e vBAP ⟨d1, FA, fn, fc, PA', pn', pc', rfl, hR1, hT1, hBP⟩
            have BVBAP := Lib.hid (BVBA.out.trans (hBP.mono BVBA.out.size))
            have sBAP := SS.out _ BVBAP.out
            have RBBAP := Lib.hid (RBBA.out.under hBP)
            have RABAP := Lib.hid (RABA.out.under hBP)
            have ltB := RBBA.out.lt
            have ltA := RABA.out.lt
            have hsW := BVBA.out.size
            have RSBAP := Lib.hid (TTl.mono (K' := fun x => (K x ∧ x < w7.heap.size) ∨ (w7.heap.size ≤ x ∧ x < vBAP.heap.size ∧ x ≠ gB ∧ x ≠ gA)) ⟨hR1, hT1⟩ (fun x hx => by rcases hx with h | h; exact .inl h; exact .inr ⟨by omega, h.2, by omega, by omega⟩))
            clear hR1 hT1 hBP hsW ltB ltA
            refine hK.out _ _ sBAP (fun hHeld => ?_)
            clear hK K'
            try simp only [Act.put, List.setIfInBounds_toArray, List.set_cons_zero, List.set_cons_succ]
            refine wpAnyH_take (i := 6) (oi := { dst := some 180, op := Op.move (Operand.tmp 186), type := 66, pos := "law.go:102", after := #[{ on := 5, ground := Ground.data }], guard := none }) (v := ?_) rfl (by kernel_rfl) (by kernel_rfl) (by kernel_rfl) (fun _ _ _ h => h) (Or.inl ⟨by rfl, ?_⟩) (by assumption) ?_
            rotate_left 1
            · intro w' hSw; (try dsimp only at hSw); go_simp; (try with_reducible rfl)
            simp only [Act.put, List.setIfInBounds_toArray, List.set_cons_zero, List.set_cons_succ]
            refine wpAnyH_take (i := 7) (oi := { dst := some 187, op := Op.extract (Operand.tmp 180) 0, type := 40, pos := "law.go:102", after := #[{ on := 6, ground := Ground.data }], guard := none }) (v := ?_) rfl (by kernel_rfl) (by kernel_rfl) (by kernel_rfl) (fun _ _ _ h => h) (Or.inl ⟨by rfl, ?_⟩) (by assumption) ?_
            rotate_left 1
            · intro w' hSw; (try dsimp only at hSw); go_simp; (try with_reducible rfl)
            simp only [Act.put, List.setIfInBounds_toArray, List.set_cons_zero, List.set_cons_succ]
            refine wpAnyH_take (i := 8) (oi := { dst := some 188, op := Op.extract (Operand.tmp 180) 1, type := 62, pos := "law.go:102", after := #[{ on := 6, ground := Ground.data }, { on := 11, ground := Ground.gcOnly Departure.lateStores }], guard := none }) (v := ?_) rfl (by kernel_rfl) (by kernel_rfl) (by kernel_rfl) (fun _ _ _ h => h) (Or.inl ⟨by rfl, ?_⟩) (by assumption) ?_
            rotate_left 1
            · intro w' hSw; (try dsimp only at hSw); go_simp; (try with_reducible rfl)
            simp only [Act.put, List.setIfInBounds_toArray, List.set_cons_zero, List.set_cons_succ]
            refine wpAnyH_ready (rs := [11]) (by kernel_rfl) (by simp) ?_
            refine AllReadyH.cons (o := { dst := none, op := Op.store 40 (Operand.tmp 31) (Operand.tmp 187), type := 0, pos := "law.go:102", after := #[{ on := 9, ground := Ground.data }, { on := 7, ground := Ground.data }, { on := 5, ground := Ground.chain }, { on := 0, ground := Ground.phase }, { on := 1, ground := Ground.phase }, { on := 2, ground := Ground.phase }, { on := 3, ground := Ground.phase }, { on := 4, ground := Ground.phase }, { on := 5, ground := Ground.phase }, { on := 6, ground := Ground.phase }, { on := 7, ground := Ground.phase }, { on := 8, ground := Ground.textOnly Departure.lateStores }, { on := 9, ground := Ground.phase }, { on := 10, ground := Ground.phase }], guard := none }) rfl (fun K' hK => ?_) AllReadyH.nil
            refine step_stT d1 rfl (.tmp 31) (.tmp 187) rfl rfl rfl RABAP.out ?_
            intro vG hRG hFG
            have hne : gA ≠ gB := by have := HN.out; omega
            have BVG := Lib.hid (BVBAP.out.trans (hFG.toBelow (fun x hx => by rw [show x = gA from hx]; exact HLEA.out) BVBAP.out.size))
            have sG := SS.out _ BVG.out
            have RAG := Lib.hid hRG
            have RBG := Lib.hid (RBBAP.out.fr hFG (fun e => hne (show gB = gA from e).symm))
            have RSG := Lib.hid ((RSBAP.out.mono (K' := fun x => (K x ∧ x < w7.heap.size) ∨ (w7.heap.size ≤ x ∧ x < vBAP.heap.size ∧ x ≠ gA ∧ x ≠ gB)) (fun x hx => by rcases hx with h | h; exact .inl h; exact .inr ⟨h.1, h.2.1, by omega, by omega⟩)).stays (w' := vG) ⟨hFG.size, fun x hx => hFG.block x (by have := BVBAP.out.size; rcases hx with h | h <;> omega) (fun e => by have e' : x = gA := e; have := HLEA.out; rcases hx with h | h <;> omega)⟩)
            have hsG := hFG.size
            clear hRG hFG hne
            refine hK.out _ _ sG (fun hHeld => ?_)
            clear hK K'
            try simp only [Act.put]
            refine wpAnyH_ready (rs := [12]) (by kernel_rfl) (by simp) ?_
            refine AllReadyH.cons (o := { dst := none, op := Op.store 62 (Operand.tmp 32) (Operand.tmp 188), type := 0, pos := "law.go:102", after := #[{ on := 10, ground := Ground.data }, { on := 8, ground := Ground.data }, { on := 11, ground := Ground.chain }, { on := 0, ground := Ground.phase }, { on := 1, ground := Ground.phase }, { on := 2, ground := Ground.phase }, { on := 3, ground := Ground.phase }, { on := 4, ground := Ground.phase }, { on := 5, ground := Ground.phase }, { on := 6, ground := Ground.phase }, { on := 7, ground := Ground.phase }, { on := 8, ground := Ground.phase }, { on := 9, ground := Ground.phase }, { on := 10, ground := Ground.phase }, { on := 11, ground := Ground.phase }], guard := none }) rfl (fun K' hK => ?_) AllReadyH.nil
            refine step_stL FA fn fc PA' pn' pc' tl rfl (.tmp 32) (.tmp 188) rfl rfl rfl RBG.out ?_
            intro wF hRF hFF
            have hne : gA ≠ gB := by have := HN.out; omega
            have BF := Lib.hid (BVG.out.trans (hFF.toBelow (fun x hx => by rw [show x = gB from hx]; exact HLEB.out) BVG.out.size))
            have sF := SS.out _ BF.out
            have RBF := Lib.hid hRF
            have RAF := Lib.hid (RAG.out.fr hFF (fun e => hne (show gA = gB from e)))
            have RSF := Lib.hid ((RSG.out.stays (w' := wF) ⟨hFF.size, fun x hx => hFF.block x (by have := BVG.out.size; rcases hx with h | h <;> omega) (fun e => by have e' : x = gB := e; have := HLEB.out; rcases hx with h | h <;> omega)⟩).mono (K' := fun x => (K x ∧ x < w7.heap.size) ∨ (w7.heap.size ≤ x ∧ x < wF.heap.size ∧ x ≠ gA ∧ x ≠ gB)) (fun x hx => by have := hFF.size; rcases hx with h | h; exact .inl h; exact .inr ⟨h.1, by omega, h.2.2.1, h.2.2.2⟩))
            clear hRF hFF hne RAG RBG RSG BVG hsG
            refine hK.out _ _ sF (fun hHeld => ?_)
            clear hK K'
            try simp only [Act.put]
            refine wpAnyH_done (by kernel_rfl) ?_ _
            refine NoPanic.normal ?_
            have hg7 := HRG7.out.lt
            have RG0 := Lib.hid (HRG7.out.under BF.out)
            go_upto_region 28 with (first
              | (with_reducible refine wpList_ldT rfl (.tmp 31) rfl rfl RAF.out ?_)
              | (with_reducible refine wpList_stT d1 rfl (.tmp 16) (.tmp 189) rfl rfl rfl RG0.out ?_; intro w8 hR8 hF8; have HR8 := Lib.hid hR8; have HF8 := Lib.hid hF8; clear hR8 hF8))
            have hF8 := HF8.out
            obtain ⟨K2, hK2⟩ : ∃ K2 : Nat → Prop, K2 = fun x => (K x ∧ x < w7.heap.size) ∨ (w7.heap.size ≤ x ∧ x < wF.heap.size ∧ x ≠ gA ∧ x ≠ gB) := ⟨_, rfl⟩
            have hRS := RSF.out
            rw [← hK2] at hRS
            have hK2x : ∀ x, K2 x → x < wF.heap.size ∧ x ≠ g ∧ tag5 x = 0 := fun x hx => by
              rw [hK2] at hx
              have := BF.out.size
              rcases hx with h | h
              · exact ⟨by omega, fun e => HKG.out (e ▸ h.1), (HK7.out x h.1).2⟩
              · exact ⟨h.2.1, by omega, HA7.out.over h.1⟩
            have hRS8 : TTl K2 w8 d1 T' FA fn fc PA' pn' tl := hRS.stays ⟨hF8.size, fun x hx => hF8.block x (hK2x x hx).1 (hK2x x hx).2.1⟩
            have hTI8 : TI w2.heap.size p m q s T' tag5 v5 K2 d1 w8 := ⟨(HA7.out.below BF.out).kept hF8 (fun x hx e => hx (by rw [show x = g from e]; exact HG5.out)), hRS8.r, fun x hx => ⟨Nat.lt_of_lt_of_le (hK2x x hx).1 hF8.size, (hK2x x hx).2.2⟩⟩
            have hKg2 : ¬ K2 g := fun hx => (hK2x g hx).2.1 rfl
            have hKw2 : ∀ x, x < w.heap.size → K2 x := fun x hx => by
              rw [hK2]
              exact .inl ⟨HKW.out x hx, Nat.lt_of_lt_of_le hx HBW7.out.size⟩
            have hRT8 := (HRT7.out.under BF.out).fr hF8 (fun e => HGT.out (show w5.heap.size = g from e).symm)
            have hRB8 := RBF.out.fr hF8 (fun e => by have e' : gB = g := e; have := HLEB.out; omega)
            have hTL8 : TlS (fun y => wr.heap.size ≤ y ∧ y < w7.heap.size) w8 DA dn dc PA pn tl := (HTL.out.below BF.out).stays ⟨hF8.size, fun x hx => hF8.block x (by have := BF.out.size; omega) (fun e => by have e' : x = g := e; have := HGW.out; omega)⟩
            have hB8 : Below w2.heap.size w2 w8 := (HB7.out.trans (BF.out.mono HB7.out.size)).trans (hF8.toBelow (fun x hx => by rw [show x = g from hx]; exact HGE.out) (HB7.out.trans (BF.out.mono HB7.out.size)).size)
            have epn : pn' = pn := by have h1 := hRS8.t.2.len; have h2 := HTL.out.2.len; omega
            subst epn
            have hst8 : TTl K2 w8 d1 T' FA fn fc PA' pn' tl := hRS8
            have hpn8 : pn' ≤ 1000000 := by have h1 := HPL.out; have h2 := HTL.out.2.len; omega
            have CST0 : ∀ W, Below w8.heap.size w8 W → Calls Tryd.prog 22 #[.agg #[.slice DA dn dc, .slice PA pn' pc, .int .i64 tl.id.1, .int .i64 tl.id.2, .bool tl.ok, .int .i64 tl.err], .agg #[.slice FA fn fc, .slice PA' pn' pc', .int .i64 tl.id.1, .int .i64 tl.id.2, .bool tl.ok, .int .i64 tl.err]] W fun e w' => e = .returned (.bool true) ∧ Below W.heap.size W w' := fun W hW => SameTold_yes DA dn dc PA pn' pc FA fn fc PA' pc' tl W (hTL8.below hW) (hst8.t.below hW) hpn8
            have CST := Lib.hid CST0
            have HRT8 := Lib.hid hRT8
            have HRB8 := Lib.hid hRB8
            have HTI8 := Lib.hid hTI8
            have HKg2 := Lib.hid hKg2
            have HKw2 := Lib.hid hKw2
            have HB8 := Lib.hid hB8
            clear hF8 hRS hK2 hK2x hRS8 hTI8 hKg2 hKw2 hRT8 hRB8 hTL8 hB8 hst8 hpn8 CST0 sF s0d RSF RAF RBF RG0 HF8 hg7 SS CG BF
            go_wp2_with (first
              | (with_reducible refine wpList_ldL rfl (.tmp 30) rfl rfl HRT8.out ?_)
              | (with_reducible refine wpList_ldL rfl (.tmp 32) rfl rfl HRB8.out ?_)
              | (go_at_call 22; refine (CST.out _ (Below.refl _ _)).mono ?_; rintro e w9 ⟨rfl, hb9⟩; have HB9 := Lib.hid hb9; have HR9 := Lib.hid (HR8.out.under hb9); clear hb9))
            go_roundw
            case rel => exact ⟨j + 1, T', tag5, v5, K2, d1, hjn, by go_num, HTI8.out.below HB9.out, HR9.out, HG5.out, HKg2.out, HKw2.out, HB8.out.trans (HB9.out.mono HB8.out.size)⟩
            case measure => simp [intOf]; omega
      · obtain rfl : j = ln := by omega
        go_wp2_with (first
          | (with_reducible refine wpList_ldT rfl (.tmp 16) rfl rfl HRG.out ?_)
          | (go_at_call 19; refine (tsame_any HTI.out.a HTI.out.r hk).mono ?_; rintro e w10 ⟨rfl, hb10⟩; have HB10 := Lib.hid (HB2.out.trans ((HB.out.trans (hb10.mono HB.out.size)).mono HS2.out)); clear hb10)
          | (go_at_call 6; refine (tlive_any _ (HT.out.below HB10.out)).mono ?_; rintro e w11 ⟨rfl, hb11⟩; have HB11 := Lib.hid hb11; clear hb11))
        go_ret
        exact ⟨rfl, HB10.out.trans (HB11.out.mono HB10.out.size)⟩
end
end Go.Proofs.YtnjfogeefdmlkaaDoor
