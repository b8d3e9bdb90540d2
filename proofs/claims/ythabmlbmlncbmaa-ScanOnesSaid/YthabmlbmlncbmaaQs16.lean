/- RowM, PtO, ScW1, ScW2 -/
import Derived.Test.YthabmlbmlncbmaaQs1
import Derived.Test.YthabmlbmlncbmaaQs2
import Derived.Test.YthabmlbmlncbmaaQs3
import Derived.Test.YthabmlbmlncbmaaQs4
import Derived.Test.YthabmlbmlncbmaaQs6
import Derived.Test.YthabmlbmlncbmaaQs10
import Derived.Test.YthabmlbmlncbmaaQs15
import Derived.Deep.RegionHeld3
namespace Go.Proofs.Ythabmlbmlncbmaa
set_option maxRecDepth 20000
theorem RowsL.mk {α : Type} {sz : Nat} {E : α -> List Value -> Prop} {K : Nat -> Prop} {w : World} {b o n : Nat} (hsz : 0 < sz) (F : Nat -> α) (R : Nat -> List Value) (hK : 0 < n -> K b /\ b < w.heap.size)
    (h : ∀ i, i < n -> (R i).length = sz /\ E (F i) (R i) /\ ∀ r u, (R i)[r]? = some u -> w.cell? ⟨b, o + (i * sz + r), none⟩ = some u) : RowsL sz E K w (some ⟨b, o, none⟩) n ((List.range n).map F) := by
  have hl : ∀ r ∈ (List.range n).map R, r.length = sz := fun r hr => by
    obtain ⟨i, hi, rfl⟩ := List.mem_map.1 hr
    exact (h i (List.mem_range.1 hi)).1
  refine ⟨((List.range n).map R).flatten, by simp, ⟨by rw [flatg_len hl]; simp, (fun e => by cases e), fun hp => ⟨b, o, rfl, (hK hp).1, (hK hp).2, fun j u hj => ?_⟩⟩, (List.range n).map R, rfl, by simp, hl, fun j x hx => ?_⟩
  · have hjl := (List.getElem?_eq_some_iff.1 hj).1
    rw [flatg_len hl] at hjl
    simp only [List.length_map, List.length_range] at hjl
    have hi : j / sz < n := Nat.div_lt_of_lt_mul (by rw [Nat.mul_comm]; exact hjl)
    have hr : j % sz < sz := Nat.mod_lt _ hsz
    have e : j = j / sz * sz + j % sz := by rw [Nat.mul_comm]; exact (Nat.div_add_mod j sz).symm
    have hg := flatg_get hl (k := j / sz) (i := j % sz) (r := R (j / sz)) (by rw [List.getElem?_map, List.getElem?_range hi]; rfl) hr
    rw [<- e, hj] at hg
    have := (h (j / sz) hi).2.2 (j % sz) u hg.symm
    rw [<- e] at this
    exact this
  · rw [List.getElem?_map] at hx
    by_cases hj : j < n
    · rw [List.getElem?_range hj] at hx
      injection hx with hx
      exact ⟨R j, by rw [List.getElem?_map, List.getElem?_range hj]; rfl, hx ▸ (h j hj).2.1⟩
    · rw [List.getElem?_eq_none (by simp; omega)] at hx
      cases hx
end Go.Proofs.Ythabmlbmlncbmaa
namespace Go.Proofs.Ythabmlbmlncbmaa
open Go.RowKit Go.ChangeShapes Go.WideShapes Go.Deep
set_option maxRecDepth 20000
def PcsRd (w : World) (A : Option Addr) (n : Nat) (xs : List (List UInt8)) : Prop := PcsV (· < w.heap.size) w A n xs /\ ∀ x ∈ xs, x.length <= maxLen
section
variable {H : Type} {enc : TypeId × Value -> H} {w : World} {base : Nat} {held : Bool}
theorem open_pb {fuel : Nat} {cs : List Value} {x : DataW H × List MemPlace} (h : DataW.trod enc Try.prog w base (fun _ => true) held fuel 35 cs = some x) :
    ∃ A n c l, cs = [.slice A n c] /\ VB (· < w.heap.size) w (.slice A n c) l /\ n <= c /\ c <= maxLen := by
  obtain ⟨A, n, c, l, hcs, hr, h1, h2⟩ := open_bytes h
  refine ⟨A, n, c, l, hcs, ⟨_, _, _, rfl, hr, fun b o e hn => ?_⟩, h1, h2⟩
  obtain ⟨b', o', e', hlt, _⟩ := hr.2 hn
  rw [e] at e'
  injection e' with e'
  injection e' with e1 e2
  exact ⟨(show b < w.heap.size by omega), by omega⟩
theorem open_pcs {fuel : Nat} {cs : List Value} {x : DataW H × List MemPlace} (h : DataW.trod enc Try.prog w base (fun _ => true) held fuel 25 cs = some x) :
    ∃ A n c ls, cs = [.slice A n c] /\ PcsRd w A n ls /\ n <= c /\ c <= maxLen := by
  have nil : ∀ A : Option Addr, PcsRd w A 0 [] := fun A => ⟨PcsV.nil _ _ _, fun _ h => absurd h List.not_mem_nil⟩
  rcases elems_at Try.underlying25 h with h0 | ⟨a, len, cap, hcs, hl, hm, hi⟩
  · exact ⟨none, 0, 0, [], h0, nil _, Nat.le_refl _, Nat.zero_le _⟩
  have h4 : Try.prog.cellsOf 35 = 1 := by kernel_rfl
  rw [h4] at hi
  have key : ∀ i, ∃ x : List UInt8 × Option Addr × Nat × Nat, i < len -> (w.cell? ((a.add (i * 1)).add 0) = some (.slice x.2.1 x.2.2.1 x.2.2.2) /\ VB (· < w.heap.size) w (.slice x.2.1 x.2.2.1 x.2.2.2) x.1 /\ x.2.2.1 <= x.2.2.2 /\ x.2.2.2 <= maxLen) := fun i => by
    by_cases hil : i < len
    · obtain ⟨cs', n, y, hc, ht⟩ := hi i hil
      obtain ⟨bA, bn, bc, b, eb, hvb, h1, h2⟩ := open_pb ht
      subst eb
      exact ⟨(b, bA, bn, bc), fun _ => ⟨hc 0 (by decide), hvb, h1, h2⟩⟩
    · exact ⟨([], none, 0, 0), fun h => absurd h hil⟩
  obtain ⟨F, hF⟩ := Classical.axiomOfChoice key
  rcases Nat.eq_zero_or_pos len with h0 | hpos
  · subst h0
    exact ⟨some a, 0, cap, [], hcs, nil _, hl, hm⟩
  obtain ⟨b, off, spot⟩ := a
  have hs := (hF 0 hpos).1
  have hspot : spot = none := by simpa [Addr.add] using World.cell?_spot hs
  subst hspot
  have hlt : b < w.heap.size := by simpa [Addr.add] using World.block_lt_of_cell? w _ hs
  refine ⟨_, len, cap, (List.range len).map fun i => (F i).1, hcs, ⟨RowsL.mk (by decide) (fun i => (F i).1) (fun i => [.slice (F i).2.1 (F i).2.2.1 (F i).2.2.2]) (fun _ => ⟨hlt, hlt⟩) (fun i hi' => ⟨rfl, ⟨_, _, _, rfl, (hF i hi').2.1, (hF i hi').2.2.1⟩, fun r u hr => ?_⟩), fun y hy => ?_⟩, hl, hm⟩
  · have hr1 : r < 1 := (List.getElem?_eq_some_iff.1 hr).1
    obtain rfl : r = 0 := by omega
    have := (hF i hi').1
    rw [Addr.add_lit, Addr.add_lit, Nat.add_assoc] at this
    rw [this]
    exact hr
  · obtain ⟨i, hi', rfl⟩ := List.mem_map.1 hy
    obtain ⟨_, ⟨A', m, c, e, hr, _⟩, h1, h2⟩ := hF i (List.mem_range.1 hi')
    injection e with e1 e2 e3
    have := hr.1
    show (F i).1.length <= maxLen
    omega
end
end Go.Proofs.Ythabmlbmlncbmaa
namespace Go.Proofs.Ythabmlbmlncbmaa
open Go.RowKit
set_option linter.unusedVariables false
set_option maxRecDepth 20000
section
variable (lg pg en gn : Int) (A : Option Addr) (n cap : Nat) (ks : List Kd) {K : Nat -> Prop} (LA : Option Addr) (ln lc : Nat) (xs : List (List UInt8)) (w : World)
theorem ScanTells_much (h : KRd w A n ks) (hn : n <= 9223372036854775807) (hl : Lens ks) (hp : PcsV K w LA ln xs) (hln : ln <= 9223372036854775807) (hx : ∀ x ∈ xs, x.length <= 9223372036854775807) (hm : muchK ks = true) (a1 a2 a3 : Int) :
    Calls Try.prog 3 #[cv lg pg en gn A n cap, .slice LA ln lc, .int .i64 a1, .int .i64 a2, .int .i64 a3] w fun e w' => e = .returned (.bool true) /\ Below w.heap.size w w' := by
  obtain ⟨w1, hw1⟩ : ∃ w1, w1 = w.alloc (.cells (cc lg pg en gn A n cap) 24) := ⟨_, rfl⟩
  have C1 := CAt.new h lg pg en gn cap
  rw [<- hw1] at C1
  obtain ⟨g, hg⟩ : ∃ g, g = w.heap.size := ⟨_, rfl⟩
  rw [<- hg] at C1
  have c0 := C1.c0
  have c1 := C1.c1
  have c2 := C1.c2
  have c3 := C1.c3
  have c4 := C1.c4
  have K1 := hi_ C1
  have HG := hi_ hg
  have LG := hi_ (show Log18 w A n ks K LA ln xs from ⟨h, hp⟩)
  have HL := hi_ hl
  have HM := hi_ hm
  have HN := hi_ hn
  clear h hl hm hn hp hln hx hg C1
  go_enter Try.func3, Try.ntmps3
  go_wp2_with (first
    | (rw [<- hw1, <- HG.out]; clear hw1)
    | (go_at_call 6; refine (Much_any lg pg en gn A n cap ks w1 K1.out.rd HN.out HL.out).mono ?_; rintro e w2 ⟨rfl, hb2⟩; rw [HM.out]; have K2 := hi_ (K1.out.next hb2); have c02 := K2.out.c0; have c12 := K2.out.c1; have c22 := K2.out.c2; have c32 := K2.out.c3; have c42 := K2.out.c4; clear hb2)
    | (go_at_call 8; refine (live18_any w2).mono ?_; rintro e w3 ⟨rfl, hb3⟩; have K3 := hi_ (K2.out.next hb3); have c03 := K3.out.c0; have c13 := K3.out.c1; have c23 := K3.out.c2; have c33 := K3.out.c3; have c43 := K3.out.c4; clear hb3))
  go_ret
  exact ⟨rfl, K3.out.bel⟩
theorem ScanTells_much2 (h : KRd w A n ks) (hn : n <= 9223372036854775807) (hl : Lens ks) (hp : PcsV K w LA ln xs) (hln : ln <= 9223372036854775807) (hx : ∀ x ∈ xs, x.length <= 9223372036854775807) (hm : muchK ks = false) (hms : MuchS xs) (a1 a2 a3 : Int) :
    Calls Try.prog 3 #[cv lg pg en gn A n cap, .slice LA ln lc, .int .i64 a1, .int .i64 a2, .int .i64 a3] w fun e w' => e = .returned (.bool true) /\ Below w.heap.size w w' := by
  obtain ⟨w1, hw1⟩ : ∃ w1, w1 = w.alloc (.cells (cc lg pg en gn A n cap) 24) := ⟨_, rfl⟩
  have C1 := CAt.new h lg pg en gn cap
  rw [<- hw1] at C1
  obtain ⟨g, hg⟩ : ∃ g, g = w.heap.size := ⟨_, rfl⟩
  rw [<- hg] at C1
  have c0 := C1.c0
  have c1 := C1.c1
  have c2 := C1.c2
  have c3 := C1.c3
  have c4 := C1.c4
  have K1 := hi_ C1
  have HG := hi_ hg
  have LG := hi_ (show Log18 w A n ks K LA ln xs from ⟨h, hp⟩)
  have HL := hi_ hl
  have HM := hi_ hm
  have HN := hi_ hn
  have HLN := hi_ hln
  have HX := hi_ hx
  have HMS := hi_ hms
  clear h hl hm hn hp hln hx hms hg C1
  go_enter Try.func3, Try.ntmps3
  go_wp2_with (first
    | (rw [<- hw1, <- HG.out]; clear hw1)
    | (go_at_call 6; refine (Much_any lg pg en gn A n cap ks w1 K1.out.rd HN.out HL.out).mono ?_; rintro e w2 ⟨rfl, hb2⟩; rw [HM.out]; have K2 := hi_ (K1.out.next hb2); have c02 := K2.out.c0; have c12 := K2.out.c1; have c22 := K2.out.c2; have c32 := K2.out.c3; have c42 := K2.out.c4; clear hb2)
    | (go_at_call 7; refine (RMuchS_any LA ln lc xs w2 (LG.out.below K2.out.bel).p HLN.out HX.out).mono ?_; rintro e w' ⟨q, rfl, hq, hw'⟩; subst hw'; obtain rfl : q = true := hq.2 HMS.out)
    | (go_at_call 8; refine (live18_any w2).mono ?_; rintro e w3 ⟨rfl, hb3⟩; have K3 := hi_ (K2.out.next hb3); have c03 := K3.out.c0; have c13 := K3.out.c1; have c23 := K3.out.c2; have c33 := K3.out.c3; have c43 := K3.out.c4; clear hb3))
  go_ret
  exact ⟨rfl, K3.out.bel⟩
set_option maxHeartbeats 2000000 in
theorem ScanTells_yes (h : KRd w A n ks) (hn : n <= 9223372036854775807) (hl : Lens ks) (hp : PcsV K w LA ln xs) (hln : ln <= 9223372036854775807) (hx : ∀ x ∈ xs, x.length <= 9223372036854775807) (hm : muchK ks = false) (hms : ¬ MuchS xs) (a1 a2 a3 : Int) :
    Calls Try.prog 3 #[cv lg pg en gn A n cap, .slice LA ln lc, .int .i64 a1, .int .i64 a2, .int .i64 a3] w fun e w' => e = .returned (.bool true) /\ Below w.heap.size w w' := by
  obtain ⟨w1, hw1⟩ : ∃ w1, w1 = w.alloc (.cells (cc lg pg en gn A n cap) 24) := ⟨_, rfl⟩
  have C1 := CAt.new h lg pg en gn cap
  rw [<- hw1] at C1
  obtain ⟨g, hg⟩ : ∃ g, g = w.heap.size := ⟨_, rfl⟩
  rw [<- hg] at C1
  have c0 := C1.c0
  have c1 := C1.c1
  have c2 := C1.c2
  have c3 := C1.c3
  have c4 := C1.c4
  have K1 := hi_ C1
  have HG := hi_ hg
  have LG := hi_ (show Log18 w A n ks K LA ln xs from ⟨h, hp⟩)
  have hx20 : xs.length <= 20 := Nat.le_of_not_lt fun k => hms (.inr k)
  have hxx : ∀ x ∈ xs, x.length <= 1000000 := fun x hxm => by
    obtain ⟨i, hi, e⟩ := List.getElem_of_mem hxm
    exact Nat.le_of_not_lt fun k => hms (.inl ⟨i, x, by omega, by rw [List.getElem?_eq_getElem hi, e], by omega⟩)
  have hn4 : n <= 1000000 := by have := (muchK_no hm).1; have := h.1; omega
  have HN4 := hi_ hn4
  have HX40 : Hid (xs.length <= 40) := hi_ (by omega)
  have HXX := hi_ hxx
  have HL := hi_ hl
  have HM := hi_ hm
  have HN := hi_ hn
  have HLN := hi_ hln
  have HX := hi_ hx
  have HMS := hi_ hms
  obtain ⟨t, ht⟩ : ∃ t, t = topA xs := ⟨_, rfl⟩
  have HT := hi_ ht
  clear h hl hm hn hp hln hx hms hg C1 hx20 hxx hn4 ht
  go_enter Try.func3, Try.ntmps3
  go_wp2_with (first
    | (rw [<- hw1, <- HG.out]; clear hw1)
    | (go_at_call 6; refine (Much_any lg pg en gn A n cap ks w1 K1.out.rd HN.out HL.out).mono ?_; rintro e w2 ⟨rfl, hb2⟩; rw [HM.out]; have K2 := hi_ (K1.out.next hb2); have c02 := K2.out.c0; have c12 := K2.out.c1; have c22 := K2.out.c2; have c32 := K2.out.c3; have c42 := K2.out.c4; clear hb2)
    | (go_at_call 7; refine (RMuchS_any LA ln lc xs w2 (LG.out.below K2.out.bel).p HLN.out HX.out).mono ?_; rintro e w' ⟨q, rfl, hq, hw'⟩; subst hw'; obtain rfl : q = false := Bool.eq_false_iff.2 (fun k => HMS.out (hq.1 k))))
  go_region_held3 (fun W => W.cell? ⟨g, 0, none⟩ = some (.int .i64 lg) /\ W.cell? ⟨g, 1, none⟩ = some (.int .i64 pg) /\ W.cell? ⟨g, 2, none⟩ = some (.int .i64 en) /\ W.cell? ⟨g, 3, none⟩ = some (.int .i64 gn) /\ W.cell? ⟨g, 4, none⟩ = some (.slice A n cap)) (first
    | with_reducible exact ⟨c02, c12, c22, c32, c42⟩
    | with_reducible exact ⟨c03, c13, c23, c33, c43⟩
    | with_reducible exact ⟨c04, c14, c24, c34, c44⟩
    | with_reducible exact ⟨c05, c15, c25, c35, c45⟩
    | with_reducible exact ⟨c06, c16, c26, c36, c46⟩
    | go_keep) (first
    | (go_at_call 10; refine (LScan_ok lg pg en gn A n cap ks LA ln lc xs HN4.out HL.out HX40.out a1 a2 a3 w2.drew (LG.out.below (K2.out.bel.trans ((show Below w2.heap.size w2 w2.drew from (Below.refl _ _).drew).mono K2.out.bel.size)))).mono ?_; rintro e w3 ⟨bs, TT, EE, QQ, RA, rn, rc, rfl, hsc, hv, hrc, hfew, hb3'⟩
       have hb3 : Below w2.heap.size w2 w3 := ((show Below w2.heap.size w2 w2.drew from (Below.refl _ _).drew)).trans hb3'
       have K3 := hi_ (K2.out.next hb3)
       have c03 := K3.out.c0; have c13 := K3.out.c1; have c23 := K3.out.c2; have c33 := K3.out.c3; have c43 := K3.out.c4
       have V3 := hi_ (And.intro hsc (And.intro hfew hv))
       clear hb3 hb3' hsc hv hfew)
    | (go_at_call 11; refine (RScan_ok lg pg en gn A n cap ks LA ln lc xs HN4.out HL.out HX40.out a1 a2 a3 w3 (LG.out.below K3.out.bel)).mono ?_; rintro e w4 ⟨bs2, TT2, EE2, QQ2, RB, qn, qc, rfl, hsc, hv, _, _, hb4⟩
       obtain ⟨hbs, hT2, hE2, hQ2⟩ := hsc.det V3.out.1
       subst hbs hT2 hE2 hQ2
       have K4 := hi_ (K3.out.next hb4)
       have c04 := K4.out.c0; have c14 := K4.out.c1; have c24 := K4.out.c2; have c34 := K4.out.c3; have c44 := K4.out.c4
       have V4 := hi_ (And.intro (PcsV.below V3.out.2.2 hb4) hv)
       clear hb4 hsc hv)
    | (go_at_call 9; refine (SameTl_yes RA RB rn qn rc qc _ _ _ _ w4 V4.out.1 V4.out.2 (by have h1 := V4.out.1.len; have h2 := V3.out.2.1; omega)).mono ?_; rintro e w5 ⟨rfl, hb5⟩
       have K5 := hi_ (K4.out.next hb5)
       have c05 := K5.out.c0; have c15 := K5.out.c1; have c25 := K5.out.c2; have c35 := K5.out.c3; have c45 := K5.out.c4
       clear hb5)
    | (go_at_call 12; refine (STop_any LA ln lc xs w5 (LG.out.below K5.out.bel).p HLN.out HXX.out).mono ?_; rintro e w' ⟨he, hw'⟩; subst hw'; rw [<- HT.out] at he; subst he)
    | (go_at_call 13; refine (RTopA_any LA ln lc xs w5 (LG.out.below K5.out.bel).p HLN.out HXX.out).mono ?_; rintro e w' ⟨he, hw'⟩; subst hw'; rw [<- HT.out] at he; subst he)
    | (go_at_call 8; refine (live18_any w5).mono ?_; rintro e w6 ⟨rfl, hb6⟩; have K6 := hi_ (K5.out.next hb6); have c06 := K6.out.c0; have c16 := K6.out.c1; have c26 := K6.out.c2; have c36 := K6.out.c3; have c46 := K6.out.c4; clear hb6))
  go_wp2
  go_ret
  exact ⟨rfl, K6.out.bel⟩
theorem ScanTells_any (h : KRd w A n ks) (hn : n <= 9223372036854775807) (hl : Lens ks) (hp : PcsV K w LA ln xs) (hln : ln <= 9223372036854775807) (hx : ∀ x ∈ xs, x.length <= 9223372036854775807) (a1 a2 a3 : Int) :
    Calls Try.prog 3 #[cv lg pg en gn A n cap, .slice LA ln lc, .int .i64 a1, .int .i64 a2, .int .i64 a3] w fun e w' => e = .returned (.bool true) /\ Below w.heap.size w w' := by
  cases hm : muchK ks
  · by_cases hms : MuchS xs
    · exact ScanTells_much2 lg pg en gn A n cap ks LA ln lc xs w h hn hl hp hln hx hm hms a1 a2 a3
    · exact ScanTells_yes lg pg en gn A n cap ks LA ln lc xs w h hn hl hp hln hx hm hms a1 a2 a3
  · exact ScanTells_much lg pg en gn A n cap ks LA ln lc xs w h hn hl hp hln hx hm a1 a2 a3
end
end Go.Proofs.Ythabmlbmlncbmaa
namespace Go.Proofs.Ythabmlbmlncbmaa
open Go.RowKit
set_option linter.unusedVariables false
set_option maxRecDepth 20000
section
variable (lg pg en gn : Int) (A : Option Addr) (n cap : Nat) (ks : List Kd) {K : Nat -> Prop} (LA : Option Addr) (ln lc : Nat) (xs : List (List UInt8)) (w : World)
theorem ScanOnes_much (h : KRd w A n ks) (hn : n <= 9223372036854775807) (hl : Lens ks) (hp : PcsV K w LA ln xs) (hln : ln <= 9223372036854775807) (hx : ∀ x ∈ xs, x.length <= 9223372036854775807) (hm : muchK ks = true) (a1 a2 a3 a4 : Int) :
    Calls Try.prog 4 #[cv lg pg en gn A n cap, .slice LA ln lc, .int .i64 a1, .int .i64 a2, .int .i64 a3, .int .i64 a4] w fun e w' => e = .returned (.bool true) /\ Below w.heap.size w w' := by
  obtain ⟨w1, hw1⟩ : ∃ w1, w1 = w.alloc (.cells (cc lg pg en gn A n cap) 24) := ⟨_, rfl⟩
  have C1 := CAt.new h lg pg en gn cap
  rw [<- hw1] at C1
  obtain ⟨g, hg⟩ : ∃ g, g = w.heap.size := ⟨_, rfl⟩
  rw [<- hg] at C1
  have c0 := C1.c0
  have c1 := C1.c1
  have c2 := C1.c2
  have c3 := C1.c3
  have c4 := C1.c4
  have K1 := hi_ C1
  have HG := hi_ hg
  have LG := hi_ (show Log18 w A n ks K LA ln xs from ⟨h, hp⟩)
  have HL := hi_ hl
  have HM := hi_ hm
  have HN := hi_ hn
  clear h hl hm hn hp hln hx hg C1
  go_enter Try.func4, Try.ntmps4
  go_wp2_with (first
    | (rw [<- hw1, <- HG.out]; clear hw1)
    | (go_at_call 6; refine (Much_any lg pg en gn A n cap ks w1 K1.out.rd HN.out HL.out).mono ?_; rintro e w2 ⟨rfl, hb2⟩; rw [HM.out]; have K2 := hi_ (K1.out.next hb2); have c02 := K2.out.c0; have c12 := K2.out.c1; have c22 := K2.out.c2; have c32 := K2.out.c3; have c42 := K2.out.c4; clear hb2)
    | (go_at_call 8; refine (live18_any w2).mono ?_; rintro e w3 ⟨rfl, hb3⟩; have K3 := hi_ (K2.out.next hb3); have c03 := K3.out.c0; have c13 := K3.out.c1; have c23 := K3.out.c2; have c33 := K3.out.c3; have c43 := K3.out.c4; clear hb3))
  go_ret
  exact ⟨rfl, K3.out.bel⟩
theorem ScanOnes_much2 (h : KRd w A n ks) (hn : n <= 9223372036854775807) (hl : Lens ks) (hp : PcsV K w LA ln xs) (hln : ln <= 9223372036854775807) (hx : ∀ x ∈ xs, x.length <= 9223372036854775807) (hm : muchK ks = false) (hms : MuchS xs) (a1 a2 a3 a4 : Int) :
    Calls Try.prog 4 #[cv lg pg en gn A n cap, .slice LA ln lc, .int .i64 a1, .int .i64 a2, .int .i64 a3, .int .i64 a4] w fun e w' => e = .returned (.bool true) /\ Below w.heap.size w w' := by
  obtain ⟨w1, hw1⟩ : ∃ w1, w1 = w.alloc (.cells (cc lg pg en gn A n cap) 24) := ⟨_, rfl⟩
  have C1 := CAt.new h lg pg en gn cap
  rw [<- hw1] at C1
  obtain ⟨g, hg⟩ : ∃ g, g = w.heap.size := ⟨_, rfl⟩
  rw [<- hg] at C1
  have c0 := C1.c0
  have c1 := C1.c1
  have c2 := C1.c2
  have c3 := C1.c3
  have c4 := C1.c4
  have K1 := hi_ C1
  have HG := hi_ hg
  have LG := hi_ (show Log18 w A n ks K LA ln xs from ⟨h, hp⟩)
  have HL := hi_ hl
  have HM := hi_ hm
  have HN := hi_ hn
  have HLN := hi_ hln
  have HX := hi_ hx
  have HMS := hi_ hms
  clear h hl hm hn hp hln hx hms hg C1
  go_enter Try.func4, Try.ntmps4
  go_wp2_with (first
    | (rw [<- hw1, <- HG.out]; clear hw1)
    | (go_at_call 6; refine (Much_any lg pg en gn A n cap ks w1 K1.out.rd HN.out HL.out).mono ?_; rintro e w2 ⟨rfl, hb2⟩; rw [HM.out]; have K2 := hi_ (K1.out.next hb2); have c02 := K2.out.c0; have c12 := K2.out.c1; have c22 := K2.out.c2; have c32 := K2.out.c3; have c42 := K2.out.c4; clear hb2)
    | (go_at_call 7; refine (RMuchS_any LA ln lc xs w2 (LG.out.below K2.out.bel).p HLN.out HX.out).mono ?_; rintro e w' ⟨q, rfl, hq, hw'⟩; subst hw'; obtain rfl : q = true := hq.2 HMS.out)
    | (go_at_call 8; refine (live18_any w2).mono ?_; rintro e w3 ⟨rfl, hb3⟩; have K3 := hi_ (K2.out.next hb3); have c03 := K3.out.c0; have c13 := K3.out.c1; have c23 := K3.out.c2; have c33 := K3.out.c3; have c43 := K3.out.c4; clear hb3))
  go_ret
  exact ⟨rfl, K3.out.bel⟩
set_option maxHeartbeats 2000000 in
theorem ScanOnes_11 (h : KRd w A n ks) (hn : n <= 9223372036854775807) (hl : Lens ks) (hp : PcsV K w LA ln xs) (hln : ln <= 9223372036854775807) (hx : ∀ x ∈ xs, x.length <= 9223372036854775807) (hm : muchK ks = false) (hms : ¬ MuchS xs) (a1 a2 a3 a4 : Int) {b : List UInt8} {m : Nat} {o : Int} (hO : OneP okF (effR lg pg en gn xs ks) a1 a2 a3 a4 b m o) (hQ : HasQ (effR lg pg en gn xs ks) a1) :
    Calls Try.prog 4 #[cv lg pg en gn A n cap, .slice LA ln lc, .int .i64 a1, .int .i64 a2, .int .i64 a3, .int .i64 a4] w fun e w' => e = .returned (.bool true) /\ Below w.heap.size w w' := by
  obtain ⟨w1, hw1⟩ : ∃ w1, w1 = w.alloc (.cells (cc lg pg en gn A n cap) 24) := ⟨_, rfl⟩
  have C1 := CAt.new h lg pg en gn cap
  rw [<- hw1] at C1
  obtain ⟨g, hg⟩ : ∃ g, g = w.heap.size := ⟨_, rfl⟩
  rw [<- hg] at C1
  have c0 := C1.c0
  have c1 := C1.c1
  have c2 := C1.c2
  have c3 := C1.c3
  have c4 := C1.c4
  have K1 := hi_ C1
  have HG := hi_ hg
  have LG := hi_ (show Log18 w A n ks K LA ln xs from ⟨h, hp⟩)
  have hx20 : xs.length <= 20 := Nat.le_of_not_lt fun k => hms (.inr k)
  have hxx : ∀ x ∈ xs, x.length <= 1000000 := fun x hxm => by
    obtain ⟨i, hi, e⟩ := List.getElem_of_mem hxm
    exact Nat.le_of_not_lt fun k => hms (.inl ⟨i, x, by omega, by rw [List.getElem?_eq_getElem hi, e], by omega⟩)
  have hn4 : n <= 1000000 := by have := (muchK_no hm).1; have := h.1; omega
  have HN4 := hi_ hn4
  have HX40 : Hid (xs.length <= 40) := hi_ (by omega)
  have HXX := hi_ hxx
  have HL := hi_ hl
  have HM := hi_ hm
  have HN := hi_ hn
  have HLN := hi_ hln
  have HX := hi_ hx
  have HMS := hi_ hms
  have HO := hi_ hO
  have HQ := hi_ hQ
  obtain ⟨E, hE⟩ : ∃ E, E = cE (secAt (effR lg pg en gn xs ks) a1) := ⟨_, rfl⟩
  obtain ⟨x, hbx⟩ : ∃ x, x = cB (secAt (effR lg pg en gn xs ks) a1) := ⟨_, rfl⟩
  have HE := hi_ hE
  have HB := hi_ hbx
  clear hE hbx
  clear h hl hm hn hp hln hx hms hg C1 hx20 hxx hn4 hO hQ
  go_enter Try.func4, Try.ntmps4
  go_wp2_with (first
    | (rw [<- hw1, <- HG.out]; clear hw1)
    | (go_at_call 6; refine (Much_any lg pg en gn A n cap ks w1 K1.out.rd HN.out HL.out).mono ?_; rintro e w2 ⟨rfl, hb2⟩; rw [HM.out]; have K2 := hi_ (K1.out.next hb2); have c02 := K2.out.c0; have c12 := K2.out.c1; have c22 := K2.out.c2; have c32 := K2.out.c3; have c42 := K2.out.c4; clear hb2)
    | (go_at_call 7; refine (RMuchS_any LA ln lc xs w2 (LG.out.below K2.out.bel).p HLN.out HX.out).mono ?_; rintro e w' ⟨q, rfl, hq, hw'⟩; subst hw'; obtain rfl : q = false := Bool.eq_false_iff.2 (fun k => HMS.out (hq.1 k)))
    | (go_at_call 14; refine (LOne_ok lg pg en gn A n cap ks LA ln lc xs HN4.out HL.out HX40.out a1 a2 a3 a4 w2 (LG.out.below K2.out.bel)).mono ?_; rintro e w3 hP
       obtain ⟨A3, k3, d3, rfl, hr3, _⟩ := hP.1 b m o HO.out
       have hb3 := hP.2.2
       have K3 := hi_ (K2.out.next hb3)
       have c03 := K3.out.c0; have c13 := K3.out.c1; have c23 := K3.out.c2; have c33 := K3.out.c3; have c43 := K3.out.c4
       have RR3 := hi_ hr3
       clear hP hb3 hr3)
    | (go_at_call 15; refine (ROne_ok lg pg en gn A n cap ks LA ln lc xs HN4.out HL.out HX40.out a1 a2 a3 a4 w3 (LG.out.below K3.out.bel)).mono ?_; rintro e w4 hP
       obtain ⟨A4, k4, d4, rfl, hr4, _⟩ := hP.1 b m o HO.out
       have hb4 := hP.2.2
       have K4 := hi_ (K3.out.next hb4)
       have c04 := K4.out.c0; have c14 := K4.out.c1; have c24 := K4.out.c2; have c34 := K4.out.c3; have c44 := K4.out.c4
       have RR4 := hi_ hr4
       have RR3 := hi_ (RR3.out.below (Nat.le_refl _) hb4)
       clear hP hb4 hr4)
    | (go_at_call 16; refine (LHas_ok lg pg en gn A n cap ks LA ln lc xs HN4.out HL.out a1 w4 (LG.out.below K4.out.bel)).mono ?_; rintro e w5 hP
       obtain ⟨A5, k5, d5, rfl, hr5, hm5⟩ := hP.1 HQ.out
       rw [<- HB.out] at hr5
       rw [<- HE.out]
       have hb5 := hP.2.2
       have K5 := hi_ (K4.out.next hb5)
       have c05 := K5.out.c0; have c15 := K5.out.c1; have c25 := K5.out.c2; have c35 := K5.out.c3; have c45 := K5.out.c4
       have RR5 := hi_ hr5
       have RR3 := hi_ (RR3.out.below (Nat.le_refl _) hb5)
       have RR4 := hi_ (RR4.out.below (Nat.le_refl _) hb5)
       clear hP hr5 hm5 hb5)
    | (refine wpList_stseal rfl (.tmp 21) (.tmp 61) rfl rfl rfl (SealAt.new w5) ?_; intro w6 hS6 hB6 _
       have hb6 : Below w5.heap.size w5 w6 := ((Below.refl _ _).alloc (Nat.le_refl _) _).trans hB6
       have K6 := hi_ (K5.out.next hb6)
       have c06 := K6.out.c0; have c16 := K6.out.c1; have c26 := K6.out.c2; have c36 := K6.out.c3; have c46 := K6.out.c4
       have S6 := hi_ hS6
       have RR3 := hi_ (RR3.out.below (Nat.le_refl _) hb6)
       have RR4 := hi_ (RR4.out.below (Nat.le_refl _) hb6)
       have RR5 := hi_ (RR5.out.below (Nat.le_refl _) hb6)
       clear hB6 hS6 hb6)
    | (go_at_call 17; refine (RHas_ok lg pg en gn A n cap ks LA ln lc xs HN4.out HL.out a1 w6 (LG.out.below K6.out.bel)).mono ?_; rintro e w7 hP
       obtain ⟨A7, k7, d7, rfl, hr7, hm7⟩ := hP.1 HQ.out
       rw [<- HB.out] at hr7
       rw [<- HE.out]
       have hb7 := hP.2.2
       have K7 := hi_ (K6.out.next hb7)
       have c07 := K7.out.c0; have c17 := K7.out.c1; have c27 := K7.out.c2; have c37 := K7.out.c3; have c47 := K7.out.c4
       have RR7 := hi_ hr7
       have S7 := hi_ (S6.out.below hb7 S6.out.lt)
       have RR3 := hi_ (RR3.out.below (Nat.le_refl _) hb7)
       have RR4 := hi_ (RR4.out.below (Nat.le_refl _) hb7)
       have RR5 := hi_ (RR5.out.below (Nat.le_refl _) hb7)
       clear hP hr7 hm7 hb7)
    | (refine wpList_stseal rfl (.tmp 23) (.tmp 68) rfl rfl rfl (SealAt.new w7) ?_; intro w8 hS8 hB8 _
       have hb8 : Below w7.heap.size w7 w8 := ((Below.refl _ _).alloc (Nat.le_refl _) _).trans hB8
       have K8 := hi_ (K7.out.next hb8)
       have c08 := K8.out.c0; have c18 := K8.out.c1; have c28 := K8.out.c2; have c38 := K8.out.c3; have c48 := K8.out.c4
       have S8 := hi_ (S7.out.below hb8 S7.out.lt)
       have U8 := hi_ hS8
       have RR3 := hi_ (RR3.out.below (Nat.le_refl _) hb8)
       have RR4 := hi_ (RR4.out.below (Nat.le_refl _) hb8)
       have RR5 := hi_ (RR5.out.below (Nat.le_refl _) hb8)
       have RR7 := hi_ (RR7.out.below (Nat.le_refl _) hb8)
       clear hB8 hS8 hb8)
    | (go_at_call 18; have CSM := Same_any A3 A4 k3 d3 k4 d4 b b w8 RR3.out RR4.out; rw [decide_eq_true rfl] at CSM; refine CSM.mono ?_; rintro e w' ⟨rfl, hw'⟩; subst hw')
    | (refine wpList_ldseal rfl (.tmp 21) rfl rfl S8.out ?_)
    | (refine wpList_ldseal rfl (.tmp 23) rfl rfl U8.out ?_)
    | (go_at_call 19; have CSS := RSame_any E a1 1 E a1 1 A5 A7 k5 d5 k7 d7 x x w8 RR5.out RR7.out; rw [decide_eq_true ⟨rfl, rfl, rfl, rfl⟩] at CSS; refine CSS.mono ?_; rintro e w9 ⟨rfl, hb9⟩; have K9 := hi_ (K8.out.next hb9); clear hb9)
    | (go_at_call 8; refine (live18_any w9).mono ?_; rintro e w10 ⟨rfl, hb10⟩; have K10 := hi_ (K9.out.next hb10); clear hb10))
  go_ret
  exact ⟨rfl, K10.out.bel⟩
set_option maxHeartbeats 2000000 in
theorem ScanOnes_01 (h : KRd w A n ks) (hn : n <= 9223372036854775807) (hl : Lens ks) (hp : PcsV K w LA ln xs) (hln : ln <= 9223372036854775807) (hx : ∀ x ∈ xs, x.length <= 9223372036854775807) (hm : muchK ks = false) (hms : ¬ MuchS xs) (a1 a2 a3 a4 : Int) (hO : ∀ b m o, ¬ OneP okF (effR lg pg en gn xs ks) a1 a2 a3 a4 b m o) (hQ : HasQ (effR lg pg en gn xs ks) a1) :
    Calls Try.prog 4 #[cv lg pg en gn A n cap, .slice LA ln lc, .int .i64 a1, .int .i64 a2, .int .i64 a3, .int .i64 a4] w fun e w' => e = .returned (.bool true) /\ Below w.heap.size w w' := by
  obtain ⟨w1, hw1⟩ : ∃ w1, w1 = w.alloc (.cells (cc lg pg en gn A n cap) 24) := ⟨_, rfl⟩
  have C1 := CAt.new h lg pg en gn cap
  rw [<- hw1] at C1
  obtain ⟨g, hg⟩ : ∃ g, g = w.heap.size := ⟨_, rfl⟩
  rw [<- hg] at C1
  have c0 := C1.c0
  have c1 := C1.c1
  have c2 := C1.c2
  have c3 := C1.c3
  have c4 := C1.c4
  have K1 := hi_ C1
  have HG := hi_ hg
  have LG := hi_ (show Log18 w A n ks K LA ln xs from ⟨h, hp⟩)
  have hx20 : xs.length <= 20 := Nat.le_of_not_lt fun k => hms (.inr k)
  have hxx : ∀ x ∈ xs, x.length <= 1000000 := fun x hxm => by
    obtain ⟨i, hi, e⟩ := List.getElem_of_mem hxm
    exact Nat.le_of_not_lt fun k => hms (.inl ⟨i, x, by omega, by rw [List.getElem?_eq_getElem hi, e], by omega⟩)
  have hn4 : n <= 1000000 := by have := (muchK_no hm).1; have := h.1; omega
  have HN4 := hi_ hn4
  have HX40 : Hid (xs.length <= 40) := hi_ (by omega)
  have HXX := hi_ hxx
  have HL := hi_ hl
  have HM := hi_ hm
  have HN := hi_ hn
  have HLN := hi_ hln
  have HX := hi_ hx
  have HMS := hi_ hms
  have HO := hi_ hO
  have HQ := hi_ hQ
  obtain ⟨E, hE⟩ : ∃ E, E = cE (secAt (effR lg pg en gn xs ks) a1) := ⟨_, rfl⟩
  obtain ⟨x, hbx⟩ : ∃ x, x = cB (secAt (effR lg pg en gn xs ks) a1) := ⟨_, rfl⟩
  have HE := hi_ hE
  have HB := hi_ hbx
  clear hE hbx
  clear h hl hm hn hp hln hx hms hg C1 hx20 hxx hn4 hO hQ
  go_enter Try.func4, Try.ntmps4
  go_wp2_with (first
    | (rw [<- hw1, <- HG.out]; clear hw1)
    | (go_at_call 6; refine (Much_any lg pg en gn A n cap ks w1 K1.out.rd HN.out HL.out).mono ?_; rintro e w2 ⟨rfl, hb2⟩; rw [HM.out]; have K2 := hi_ (K1.out.next hb2); have c02 := K2.out.c0; have c12 := K2.out.c1; have c22 := K2.out.c2; have c32 := K2.out.c3; have c42 := K2.out.c4; clear hb2)
    | (go_at_call 7; refine (RMuchS_any LA ln lc xs w2 (LG.out.below K2.out.bel).p HLN.out HX.out).mono ?_; rintro e w' ⟨q, rfl, hq, hw'⟩; subst hw'; obtain rfl : q = false := Bool.eq_false_iff.2 (fun k => HMS.out (hq.1 k)))
    | (go_at_call 14; refine (LOne_ok lg pg en gn A n cap ks LA ln lc xs HN4.out HL.out HX40.out a1 a2 a3 a4 w2 (LG.out.below K2.out.bel)).mono ?_; rintro e w3 hP
       obtain rfl := hP.2.1 HO.out
       have hb3 := hP.2.2
       have K3 := hi_ (K2.out.next hb3)
       have c03 := K3.out.c0; have c13 := K3.out.c1; have c23 := K3.out.c2; have c33 := K3.out.c3; have c43 := K3.out.c4
       clear hP hb3)
    | (go_at_call 15; refine (ROne_ok lg pg en gn A n cap ks LA ln lc xs HN4.out HL.out HX40.out a1 a2 a3 a4 w3 (LG.out.below K3.out.bel)).mono ?_; rintro e w4 hP
       obtain rfl := hP.2.1 HO.out
       have hb4 := hP.2.2
       have K4 := hi_ (K3.out.next hb4)
       have c04 := K4.out.c0; have c14 := K4.out.c1; have c24 := K4.out.c2; have c34 := K4.out.c3; have c44 := K4.out.c4
       clear hP hb4)
    | (go_at_call 16; refine (LHas_ok lg pg en gn A n cap ks LA ln lc xs HN4.out HL.out a1 w4 (LG.out.below K4.out.bel)).mono ?_; rintro e w5 hP
       obtain ⟨A5, k5, d5, rfl, hr5, hm5⟩ := hP.1 HQ.out
       rw [<- HB.out] at hr5
       rw [<- HE.out]
       have hb5 := hP.2.2
       have K5 := hi_ (K4.out.next hb5)
       have c05 := K5.out.c0; have c15 := K5.out.c1; have c25 := K5.out.c2; have c35 := K5.out.c3; have c45 := K5.out.c4
       have RR5 := hi_ hr5
       clear hP hr5 hm5 hb5)
    | (refine wpList_stseal rfl (.tmp 21) (.tmp 61) rfl rfl rfl (SealAt.new w5) ?_; intro w6 hS6 hB6 _
       have hb6 : Below w5.heap.size w5 w6 := ((Below.refl _ _).alloc (Nat.le_refl _) _).trans hB6
       have K6 := hi_ (K5.out.next hb6)
       have c06 := K6.out.c0; have c16 := K6.out.c1; have c26 := K6.out.c2; have c36 := K6.out.c3; have c46 := K6.out.c4
       have S6 := hi_ hS6
       have RR5 := hi_ (RR5.out.below (Nat.le_refl _) hb6)
       clear hB6 hS6 hb6)
    | (go_at_call 17; refine (RHas_ok lg pg en gn A n cap ks LA ln lc xs HN4.out HL.out a1 w6 (LG.out.below K6.out.bel)).mono ?_; rintro e w7 hP
       obtain ⟨A7, k7, d7, rfl, hr7, hm7⟩ := hP.1 HQ.out
       rw [<- HB.out] at hr7
       rw [<- HE.out]
       have hb7 := hP.2.2
       have K7 := hi_ (K6.out.next hb7)
       have c07 := K7.out.c0; have c17 := K7.out.c1; have c27 := K7.out.c2; have c37 := K7.out.c3; have c47 := K7.out.c4
       have RR7 := hi_ hr7
       have S7 := hi_ (S6.out.below hb7 S6.out.lt)
       have RR5 := hi_ (RR5.out.below (Nat.le_refl _) hb7)
       clear hP hr7 hm7 hb7)
    | (refine wpList_stseal rfl (.tmp 23) (.tmp 68) rfl rfl rfl (SealAt.new w7) ?_; intro w8 hS8 hB8 _
       have hb8 : Below w7.heap.size w7 w8 := ((Below.refl _ _).alloc (Nat.le_refl _) _).trans hB8
       have K8 := hi_ (K7.out.next hb8)
       have c08 := K8.out.c0; have c18 := K8.out.c1; have c28 := K8.out.c2; have c38 := K8.out.c3; have c48 := K8.out.c4
       have S8 := hi_ (S7.out.below hb8 S7.out.lt)
       have U8 := hi_ hS8
       have RR5 := hi_ (RR5.out.below (Nat.le_refl _) hb8)
       have RR7 := hi_ (RR7.out.below (Nat.le_refl _) hb8)
       clear hB8 hS8 hb8)
    | (go_at_call 18; have CSM := Same_any none none 0 0 0 0 [] [] w8 (Rd.nil _ _) (Rd.nil _ _); rw [decide_eq_true rfl] at CSM; refine CSM.mono ?_; rintro e w' ⟨rfl, hw'⟩; subst hw')
    | (refine wpList_ldseal rfl (.tmp 21) rfl rfl S8.out ?_)
    | (refine wpList_ldseal rfl (.tmp 23) rfl rfl U8.out ?_)
    | (go_at_call 19; have CSS := RSame_any E a1 1 E a1 1 A5 A7 k5 d5 k7 d7 x x w8 RR5.out RR7.out; rw [decide_eq_true ⟨rfl, rfl, rfl, rfl⟩] at CSS; refine CSS.mono ?_; rintro e w9 ⟨rfl, hb9⟩; have K9 := hi_ (K8.out.next hb9); clear hb9)
    | (go_at_call 8; refine (live18_any w9).mono ?_; rintro e w10 ⟨rfl, hb10⟩; have K10 := hi_ (K9.out.next hb10); clear hb10))
  go_ret
  exact ⟨rfl, K10.out.bel⟩
set_option maxHeartbeats 2000000 in
theorem ScanOnes_00 (h : KRd w A n ks) (hn : n <= 9223372036854775807) (hl : Lens ks) (hp : PcsV K w LA ln xs) (hln : ln <= 9223372036854775807) (hx : ∀ x ∈ xs, x.length <= 9223372036854775807) (hm : muchK ks = false) (hms : ¬ MuchS xs) (a1 a2 a3 a4 : Int) (hO : ∀ b m o, ¬ OneP okF (effR lg pg en gn xs ks) a1 a2 a3 a4 b m o) (hQ : ¬ HasQ (effR lg pg en gn xs ks) a1) :
    Calls Try.prog 4 #[cv lg pg en gn A n cap, .slice LA ln lc, .int .i64 a1, .int .i64 a2, .int .i64 a3, .int .i64 a4] w fun e w' => e = .returned (.bool true) /\ Below w.heap.size w w' := by
  obtain ⟨w1, hw1⟩ : ∃ w1, w1 = w.alloc (.cells (cc lg pg en gn A n cap) 24) := ⟨_, rfl⟩
  have C1 := CAt.new h lg pg en gn cap
  rw [<- hw1] at C1
  obtain ⟨g, hg⟩ : ∃ g, g = w.heap.size := ⟨_, rfl⟩
  rw [<- hg] at C1
  have c0 := C1.c0
  have c1 := C1.c1
  have c2 := C1.c2
  have c3 := C1.c3
  have c4 := C1.c4
  have K1 := hi_ C1
  have HG := hi_ hg
  have LG := hi_ (show Log18 w A n ks K LA ln xs from ⟨h, hp⟩)
  have hx20 : xs.length <= 20 := Nat.le_of_not_lt fun k => hms (.inr k)
  have hxx : ∀ x ∈ xs, x.length <= 1000000 := fun x hxm => by
    obtain ⟨i, hi, e⟩ := List.getElem_of_mem hxm
    exact Nat.le_of_not_lt fun k => hms (.inl ⟨i, x, by omega, by rw [List.getElem?_eq_getElem hi, e], by omega⟩)
  have hn4 : n <= 1000000 := by have := (muchK_no hm).1; have := h.1; omega
  have HN4 := hi_ hn4
  have HX40 : Hid (xs.length <= 40) := hi_ (by omega)
  have HXX := hi_ hxx
  have HL := hi_ hl
  have HM := hi_ hm
  have HN := hi_ hn
  have HLN := hi_ hln
  have HX := hi_ hx
  have HMS := hi_ hms
  have HO := hi_ hO
  have HQ := hi_ hQ
  clear h hl hm hn hp hln hx hms hg C1 hx20 hxx hn4 hO hQ
  go_enter Try.func4, Try.ntmps4
  go_wp2_with (first
    | (rw [<- hw1, <- HG.out]; clear hw1)
    | (go_at_call 6; refine (Much_any lg pg en gn A n cap ks w1 K1.out.rd HN.out HL.out).mono ?_; rintro e w2 ⟨rfl, hb2⟩; rw [HM.out]; have K2 := hi_ (K1.out.next hb2); have c02 := K2.out.c0; have c12 := K2.out.c1; have c22 := K2.out.c2; have c32 := K2.out.c3; have c42 := K2.out.c4; clear hb2)
    | (go_at_call 7; refine (RMuchS_any LA ln lc xs w2 (LG.out.below K2.out.bel).p HLN.out HX.out).mono ?_; rintro e w' ⟨q, rfl, hq, hw'⟩; subst hw'; obtain rfl : q = false := Bool.eq_false_iff.2 (fun k => HMS.out (hq.1 k)))
    | (go_at_call 14; refine (LOne_ok lg pg en gn A n cap ks LA ln lc xs HN4.out HL.out HX40.out a1 a2 a3 a4 w2 (LG.out.below K2.out.bel)).mono ?_; rintro e w3 hP
       obtain rfl := hP.2.1 HO.out
       have hb3 := hP.2.2
       have K3 := hi_ (K2.out.next hb3)
       have c03 := K3.out.c0; have c13 := K3.out.c1; have c23 := K3.out.c2; have c33 := K3.out.c3; have c43 := K3.out.c4
       clear hP hb3)
    | (go_at_call 15; refine (ROne_ok lg pg en gn A n cap ks LA ln lc xs HN4.out HL.out HX40.out a1 a2 a3 a4 w3 (LG.out.below K3.out.bel)).mono ?_; rintro e w4 hP
       obtain rfl := hP.2.1 HO.out
       have hb4 := hP.2.2
       have K4 := hi_ (K3.out.next hb4)
       have c04 := K4.out.c0; have c14 := K4.out.c1; have c24 := K4.out.c2; have c34 := K4.out.c3; have c44 := K4.out.c4
       clear hP hb4)
    | (go_at_call 16; refine (LHas_ok lg pg en gn A n cap ks LA ln lc xs HN4.out HL.out a1 w4 (LG.out.below K4.out.bel)).mono ?_; rintro e w5 hP
       obtain rfl := hP.2.1 HQ.out
       have hb5 := hP.2.2
       have K5 := hi_ (K4.out.next hb5)
       have c05 := K5.out.c0; have c15 := K5.out.c1; have c25 := K5.out.c2; have c35 := K5.out.c3; have c45 := K5.out.c4
       clear hP hb5)
    | (refine wpList_stseal rfl (.tmp 21) (.tmp 61) rfl rfl rfl (SealAt.new w5) ?_; intro w6 hS6 hB6 _
       have hb6 : Below w5.heap.size w5 w6 := ((Below.refl _ _).alloc (Nat.le_refl _) _).trans hB6
       have K6 := hi_ (K5.out.next hb6)
       have c06 := K6.out.c0; have c16 := K6.out.c1; have c26 := K6.out.c2; have c36 := K6.out.c3; have c46 := K6.out.c4
       have S6 := hi_ hS6
       clear hB6 hS6 hb6)
    | (go_at_call 17; refine (RHas_ok lg pg en gn A n cap ks LA ln lc xs HN4.out HL.out a1 w6 (LG.out.below K6.out.bel)).mono ?_; rintro e w7 hP
       obtain rfl := hP.2.1 HQ.out
       have hb7 := hP.2.2
       have K7 := hi_ (K6.out.next hb7)
       have c07 := K7.out.c0; have c17 := K7.out.c1; have c27 := K7.out.c2; have c37 := K7.out.c3; have c47 := K7.out.c4
       have S7 := hi_ (S6.out.below hb7 S6.out.lt)
       clear hP hb7)
    | (refine wpList_stseal rfl (.tmp 23) (.tmp 68) rfl rfl rfl (SealAt.new w7) ?_; intro w8 hS8 hB8 _
       have hb8 : Below w7.heap.size w7 w8 := ((Below.refl _ _).alloc (Nat.le_refl _) _).trans hB8
       have K8 := hi_ (K7.out.next hb8)
       have c08 := K8.out.c0; have c18 := K8.out.c1; have c28 := K8.out.c2; have c38 := K8.out.c3; have c48 := K8.out.c4
       have S8 := hi_ (S7.out.below hb8 S7.out.lt)
       have U8 := hi_ hS8
       clear hB8 hS8 hb8)
    | (go_at_call 18; have CSM := Same_any none none 0 0 0 0 [] [] w8 (Rd.nil _ _) (Rd.nil _ _); rw [decide_eq_true rfl] at CSM; refine CSM.mono ?_; rintro e w' ⟨rfl, hw'⟩; subst hw')
    | (refine wpList_ldseal rfl (.tmp 21) rfl rfl S8.out ?_)
    | (refine wpList_ldseal rfl (.tmp 23) rfl rfl U8.out ?_)
    | (go_at_call 19; have CSS := RSame_any 0 0 0 0 0 0 none none 0 0 0 0 [] [] w8 (Rd.nil _ _) (Rd.nil _ _); rw [decide_eq_true ⟨rfl, rfl, rfl, rfl⟩] at CSS; refine CSS.mono ?_; rintro e w9 ⟨rfl, hb9⟩; have K9 := hi_ (K8.out.next hb9); clear hb9)
    | (go_at_call 8; refine (live18_any w9).mono ?_; rintro e w10 ⟨rfl, hb10⟩; have K10 := hi_ (K9.out.next hb10); clear hb10))
  go_ret
  exact ⟨rfl, K10.out.bel⟩
theorem ScanOnes_any (h : KRd w A n ks) (hn : n <= 9223372036854775807) (hl : Lens ks) (hp : PcsV K w LA ln xs) (hln : ln <= 9223372036854775807) (hx : ∀ x ∈ xs, x.length <= 9223372036854775807) (a1 a2 a3 a4 : Int) :
    Calls Try.prog 4 #[cv lg pg en gn A n cap, .slice LA ln lc, .int .i64 a1, .int .i64 a2, .int .i64 a3, .int .i64 a4] w fun e w' => e = .returned (.bool true) /\ Below w.heap.size w w' := by
  cases hm : muchK ks
  · by_cases hms : MuchS xs
    · exact ScanOnes_much2 lg pg en gn A n cap ks LA ln lc xs w h hn hl hp hln hx hm hms a1 a2 a3 a4
    · by_cases hO : ∃ b m o, OneP okF (effR lg pg en gn xs ks) a1 a2 a3 a4 b m o
      · obtain ⟨b, m, o, hO⟩ := hO
        by_cases hQ : HasQ (effR lg pg en gn xs ks) a1
        · exact ScanOnes_11 lg pg en gn A n cap ks LA ln lc xs w h hn hl hp hln hx hm hms a1 a2 a3 a4 hO hQ
        · exact absurd hO.has hQ
      · have hO' : ∀ b m o, ¬ OneP okF (effR lg pg en gn xs ks) a1 a2 a3 a4 b m o := fun b m o k => hO ⟨b, m, o, k⟩
        by_cases hQ : HasQ (effR lg pg en gn xs ks) a1
        · exact ScanOnes_01 lg pg en gn A n cap ks LA ln lc xs w h hn hl hp hln hx hm hms a1 a2 a3 a4 hO' hQ
        · exact ScanOnes_00 lg pg en gn A n cap ks LA ln lc xs w h hn hl hp hln hx hm hms a1 a2 a3 a4 hO' hQ
  · exact ScanOnes_much lg pg en gn A n cap ks LA ln lc xs w h hn hl hp hln hx hm a1 a2 a3 a4
end
end Go.Proofs.Ythabmlbmlncbmaa
