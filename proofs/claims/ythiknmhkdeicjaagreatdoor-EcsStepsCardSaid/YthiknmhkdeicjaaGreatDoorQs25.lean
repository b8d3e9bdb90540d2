/- EcRh -/
import Derived.Test.YthiknmhkdeicjaaGreatDoorQs1
import Derived.Test.YthiknmhkdeicjaaGreatDoorQs24
import Derived.Deep.QuietTactic
import Derived.BigQuiet
namespace Go.Proofs.YthiknmhkdeicjaaGreatDoor
open Go.RowKit
set_option maxRecDepth 20000
theorem eIns_cons (e x : En) (l : List En) : eIns e (x :: l) = if e.1.1 < x.1.1 then e :: x :: l else x :: eIns e l := rfl
theorem PartsV.at_ {K : Nat -> Prop} {w W : World} {B : Nat} {A : Option Addr} {n : Nat} {l : List Pt} (h : PartsV K w A n l) (hb : Below w.heap.size w W) (hB : w.heap.size <= B) : PartsV (fun y => K y /\ y < B) W A n l := (h.lt.below hb).mono fun _ hy => ⟨hy.1, Nat.lt_of_lt_of_le hy.2 hB⟩
theorem EEc.new {K : Nat -> Prop} {w : World} (i g : Int) : EEc K w ((i, g), []) [.int .i64 i, .int .i64 g, .slice none 0 0] := ⟨⟨none, 0, 0, rfl, PartsV.nil _ _ _⟩, _, _, none, 0, 0, rfl, Nat.le_refl _, Nat.zero_le _⟩
theorem EEc.old {K : Nat -> Prop} {w : World} {i g : Int} {PA : Option Addr} {pn pc : Nat} {l : List Pt} (h : PartsV K w PA pn l) (h1 : pn <= pc) (h2 : pc <= maxLen) : EEc K w ((i, g), l) [.int .i64 i, .int .i64 g, .slice PA pn pc] := ⟨⟨PA, pn, pc, rfl, h⟩, _, _, PA, pn, pc, rfl, h1, h2⟩
theorem spawn_start (w : World) (lg pg en gn : Int) (A : Option Addr) (n cap : Nat) (d : Rst) : ∃ w1, w1 = (((w.alloc (.cells (cc lg pg en gn A n cap) 24)).alloc (.cells d.cs 37)).alloc (.cells stZ 37)).alloc (.cells #[.int .i64 0, .int .i64 0] 39) /\ Below w.heap.size w w1 /\ Rec 24 w1 w.heap.size (cc lg pg en gn A n cap) /\ Rec 37 w1 (w.heap.size + 1) d.cs /\ Rec 37 w1 (w.heap.size + 2) stZ /\ Rec 39 w1 (w.heap.size + 3) #[.int .i64 0, .int .i64 0] /\ w1.heap.size = w.heap.size + 4 := by
 obtain ⟨wa, hwa⟩ : ∃ wa, wa = w.alloc (.cells (cc lg pg en gn A n cap) 24) := ⟨_, rfl⟩
 obtain ⟨wb, hwb⟩ : ∃ wb, wb = wa.alloc (.cells d.cs 37) := ⟨_, rfl⟩
 obtain ⟨wc, hwc⟩ : ∃ wc, wc = wb.alloc (.cells stZ 37) := ⟨_, rfl⟩
 have sa : wa.heap.size = w.heap.size + 1 := by rw [hwa]; simp
 have sb : wb.heap.size = w.heap.size + 2 := by rw [hwb]; simp [sa]
 have sc : wc.heap.size = w.heap.size + 3 := by rw [hwc]; simp [sb]
 have ba : Below w.heap.size w wa := by rw [hwa]; exact (Below.refl _ _).alloc (Nat.le_refl _) _
 have bb : Below wa.heap.size wa wb := by rw [hwb]; exact (Below.refl _ _).alloc (Nat.le_refl _) _
 have bc : Below wb.heap.size wb wc := by rw [hwc]; exact (Below.refl _ _).alloc (Nat.le_refl _) _
 have bd : Below wc.heap.size wc (wc.alloc (.cells #[.int .i64 0, .int .i64 0] 39)) := (Below.refl _ _).alloc (Nat.le_refl _) _
 have ra : Rec 24 wa w.heap.size (cc lg pg en gn A n cap) := by rw [hwa]; exact Rec.new w _ _
 have rb : Rec 37 wb (w.heap.size + 1) d.cs := by rw [hwb, <- sa]; exact Rec.new wa _ _
 have rc : Rec 37 wc (w.heap.size + 2) stZ := by rw [hwc, <- sb]; exact Rec.new wb _ _
 refine ⟨wc.alloc (.cells #[.int .i64 0, .int .i64 0] 39), by rw [hwc, hwb, hwa], ?_, ?_, ?_, ?_, ?_, ?_⟩
 ·exact ((ba.trans (bb.mono ba.size)).trans (bc.mono (Nat.le_trans ba.size bb.size))).trans (bd.mono (Nat.le_trans ba.size (Nat.le_trans bb.size bc.size)))
 ·exact ((ra.under bb).under bc).under bd
 ·exact (rb.under bc).under bd
 ·exact rc.under bd
 ·have := Rec.new wc 39 #[.int .i64 0, .int .i64 0]
  rwa [sc] at this
 ·simp [sc]
theorem two_laid (w3 w4 : World) (h : w4 = (w3.alloc (.cells rvZ 140)).alloc (.cells #[.int .i64 0, .int .i64 0] 39)) : Below w3.heap.size w3 w4 /\ Rec 140 w4 w3.heap.size rvZ /\ Rec 39 w4 (w3.heap.size + 1) #[.int .i64 0, .int .i64 0] /\ w4.heap.size = w3.heap.size + 2 := by
 obtain ⟨wa, hwa⟩ : ∃ wa, wa = w3.alloc (.cells rvZ 140) := ⟨_, rfl⟩
 have sa : wa.heap.size = w3.heap.size + 1 := by rw [hwa]; simp
 have ba : Below w3.heap.size w3 wa := by rw [hwa]; exact (Below.refl _ _).alloc (Nat.le_refl _) _
 have bb : Below wa.heap.size wa (wa.alloc (.cells #[.int .i64 0, .int .i64 0] 39)) := (Below.refl _ _).alloc (Nat.le_refl _) _
 have ra : Rec 140 wa w3.heap.size rvZ := by rw [hwa]; exact Rec.new w3 _ _
 rw [<- hwa] at h
 subst h
 refine ⟨ba.trans (bb.mono ba.size), ra.under bb, ?_, by simp [sa]⟩
 have := Rec.new wa 39 #[.int .i64 0, .int .i64 0]
 rwa [sa] at this
def RToldI (K : Nat -> Prop) (w : World) (s' : Es) (id : Int × Int) (z : Int) (e : Ending) (w' : World) : Prop := ∃ d' : Rst, e = .returned (.tuple #[.agg d'.cs, .agg #[.int .i64 id.1, .int .i64 id.2], .int .i64 z]) /\ RSt (fun y => K y \/ w.heap.size <= y) w' d' s' /\ Below w.heap.size w w'
section
variable {K : Nat -> Prop} {w : World} {d : Rst} {s : Es} {A : Option Addr} {n cap : Nat}
set_option maxHeartbeats 1000000 in
theorem RSpawn_no (h : RSt K w d s) (ok : s.ns.Ok) (lg pg en gn : Int) (hE : en = s.ns.E) (hL : gn = s.ns.L) (z : Int) (hz : s.ns.take.2.2 = z) (hz0 : z ≠ 0) :
  Calls Tryz.prog 44 #[cv lg pg en gn A n cap, .agg d.cs] w (RToldI K w s (0, 0) z) := by
 obtain ⟨w1, hw1, hb1, r0, r1, r2, r3, hs1⟩ := spawn_start w lg pg en gn A n cap d
 have HNM := hi_ (And.intro h.names ok)
 have CNM : Hid (Calls Tryz.prog 95 #[cv lg pg en gn A n cap, .agg d.cs] w1 fun e w' => e = .returned (.agg #[.int .i64 s.ns.E, .int .i64 s.ns.L, .slice d.GA d.gn d.gc, .slice d.FA d.fn d.fc]) /\ Below w1.heap.size w1 w') := hi_ (by
  have := RNames_any w1 lg pg en gn A n cap d
  rw [hE, hL] at this ⊢
  exact this)
 have H0 := hi_ h
 obtain ⟨GA, gn', gc, FA, fn, fc, EA, en', ec⟩ := d
 simp only at CNM HNM
 obtain ⟨sE, hsE⟩ : ∃ z : Int, z = s.ns.E := ⟨_, rfl⟩
 obtain ⟨sL, hsL⟩ : ∃ z : Int, z = s.ns.L := ⟨_, rfl⟩
 rw [<- hsE, <- hsL] at CNM HNM
 obtain ⟨ns', hns'⟩ : ∃ z, z = s.ns.take.1 := ⟨_, rfl⟩
 obtain ⟨id, hid⟩ : ∃ z, z = s.ns.take.2.1 := ⟨_, rfl⟩
 have CTK : Hid (∀ W, Below w.heap.size w W -> Calls Tryz.prog 99 #[.agg #[.int .i64 sE, .int .i64 sL, .slice GA gn' gc, .slice FA fn fc]] W (RLeft (fun y => K y /\ y < w.heap.size) W ns' id z)) := hi_ fun W hW => by
  have := RTake_any (HNM.out.1.lt.below hW) HNM.out.2
  rw [<- hns', <- hid, hz] at this
  exact this
 clear hid
 obtain ⟨x1, x2⟩ := id
 have HR := hi_ (And.intro r0 (And.intro r1 (And.intro r2 (And.intro r3 (And.intro hb1 hs1)))))
 have d2 : (z != 0) = true := bne_iff_ne.2 hz0
 have d3 : decide (z = 0) = false := decide_eq_false hz0
 clear h ok r0 r1 r2 r3 hb1 hs1 hsE hsL hE hL hns' hz hz0
 go_enter Tryz.func44, Tryz.ntmps44
 go_wp2_with (first
  | (rw [<- hw1]; clear hw1)
  | ((with_reducible refine wpList_ldS confT rfl rfl (.tmp 2) rfl rfl HR.out.1 ?_))
  | ((with_reducible refine wpList_ldS stT rfl rfl (.tmp 3) rfl rfl HR.out.2.1 ?_))
  | (go_at_call 95; refine CNM.out.mono ?_; rintro e w2 ⟨rfl, hb2⟩; have HB2 := hi_ hb2; clear hb2)
  | (go_at_call 99; refine (CTK.out w2 (HR.out.2.2.2.2.1.trans (HB2.out.mono HR.out.2.2.2.2.1.size))).mono ?_; rintro e w3 ⟨⟨dE, dL, dGA, dgn, dgc, dFA, dfn, dfc⟩, rfl, hRS, hb3⟩; simp only [Rv.v, idv]; obtain ⟨w4, hw4⟩ : ∃ w4, w4 = (w3.alloc (.cells rvZ 140)).alloc (.cells #[.int .i64 0, .int .i64 0] 39) := ⟨_, rfl⟩; have H4 := hi_ (two_laid w3 w4 hw4); have HB3 := hi_ (HB2.out.trans (hb3.mono HB2.out.size)); clear hRS hb3)
  | (rw [<- hw4]; clear hw4)
  | ((with_reducible refine wpList_stS (cs' := #[.int .i64 dE, .int .i64 dL, .slice dGA dgn dgc, .slice dFA dfn dfc]) idsT6 rfl rfl (by simp [Value.oneCell']) rfl (.tmp 7) (.tmp 18) rfl rfl rfl H4.out.2.1 ?_); intro w5 hR5 hF5; have R5 := hi_ (H4.out.2.2.1.fr hF5 (fun e => by have e' : w3.heap.size + 1 = w3.heap.size := e; omega)); have HF5 := hi_ hF5; clear hR5 hF5)
  | ((with_reducible refine wpList_stP rfl (.tmp 8) (.tmp 19) rfl rfl rfl R5.out ?_); intro w6 hR6 hF6; have H6 : Hid (Below w1.heap.size w1 w6) := hi_ (by
    have b4 := HB3.out.trans (H4.out.1.mono HB3.out.size)
    have b5 := b4.trans (HF5.out.toBelow (fun y hy => by rw [show y = w3.heap.size from hy]; exact HB3.out.size) b4.size)
    exact b5.trans (hF6.toBelow (fun y hy => by rw [show y = w3.heap.size + 1 from hy]; have := HB3.out.size; omega) b5.size)); clear hR6 hF6)
  | ((with_reducible refine wpList_ldS stT rfl rfl (.tmp 3) rfl rfl (HR.out.2.1.under H6.out) ?_))
  | ((with_reducible refine wpList_stSt GA gn' gc FA fn fc EA en' ec rfl rfl (.tmp 4) (.tmp 23) rfl rfl rfl (HR.out.2.2.1.under H6.out) ?_); intro w7 hR7 hF7; have R7 := hi_ ((HR.out.2.2.2.1.under H6.out).fr hF7 (fun e => by have e' : w.heap.size + 3 = w.heap.size + 2 := e; omega)); have HR7 := hi_ hR7; have HF7 := hi_ hF7; clear hR7 hF7)
  | ((with_reducible refine wpList_stP rfl (.tmp 5) (.tmp 24) rfl rfl rfl R7.out ?_); intro w8 hR8 hF8))
 refine bodyPost_ret (res_cct rfl rfl ((HR7.out.fr hF8 (fun e => by have e' : w.heap.size + 2 = w.heap.size + 3 := e; omega)).load stT rfl) rfl (hR8.load idT rfl)) rfl ?_
 have hb6 := HR.out.2.2.2.2.1.trans (H6.out.mono HR.out.2.2.2.2.1.size)
 have hb7 := hb6.trans (HF7.out.toBelow (fun y hy => by rw [show y = w.heap.size + 2 from hy]; omega) hb6.size)
 have hb8 : Below w.heap.size w w8 := hb7.trans (hF8.toBelow (fun y hy => by rw [show y = w.heap.size + 3 from hy]; omega) hb7.size)
 exact ⟨⟨GA, gn', gc, FA, fn, fc, EA, en', ec⟩, rfl, (H0.out.below hb8).mono (fun _ hy => .inl hy), hb8⟩
set_option maxHeartbeats 4000000 in
theorem RSpawn_yes (h : RSt K w d s) (ok : s.ns.Ok) (hn : d.en <= 1000000) (lg pg en gn : Int) (hE : en = s.ns.E) (hL : gn = s.ns.L) (hz : s.ns.take.2.2 = 0) :
  Calls Tryz.prog 44 #[cv lg pg en gn A n cap, .agg d.cs] w (RToldI K w ⟨s.ns.take.1, eIns (s.ns.take.2.1, []) s.ents⟩ s.ns.take.2.1 0) := by
 obtain ⟨w1, hw1, hb1, r0, r1, r2, r3, hs1⟩ := spawn_start w lg pg en gn A n cap d
 have HNM := hi_ (And.intro h.names ok)
 have CNM : Hid (Calls Tryz.prog 95 #[cv lg pg en gn A n cap, .agg d.cs] w1 fun e w' => e = .returned (.agg #[.int .i64 s.ns.E, .int .i64 s.ns.L, .slice d.GA d.gn d.gc, .slice d.FA d.fn d.fc]) /\ Below w1.heap.size w1 w') := hi_ (by
  have := RNames_any w1 lg pg en gn A n cap d
  rw [hE, hL] at this ⊢
  exact this)
 obtain ⟨es, hes⟩ : ∃ es, es = s.ents := ⟨_, rfl⟩
 have HE := hi_ h.e
 have hel := h.en
 obtain ⟨GA, gn', gc, FA, fn, fc, EA, en', ec⟩ := d
 simp only at CNM HNM HE hel hn
 rw [<- hes] at HE hel ⊢
 obtain ⟨sE, hsE⟩ : ∃ z : Int, z = s.ns.E := ⟨_, rfl⟩
 obtain ⟨sL, hsL⟩ : ∃ z : Int, z = s.ns.L := ⟨_, rfl⟩
 rw [<- hsE, <- hsL] at CNM HNM
 obtain ⟨ns', hns'⟩ : ∃ z, z = s.ns.take.1 := ⟨_, rfl⟩
 obtain ⟨id, hid⟩ : ∃ z, z = s.ns.take.2.1 := ⟨_, rfl⟩
 rw [<- hns', <- hid]
 obtain ⟨x1, x2⟩ := id
 have CTK : Hid (∀ W, Below w.heap.size w W -> Calls Tryz.prog 99 #[.agg #[.int .i64 sE, .int .i64 sL, .slice GA gn' gc, .slice FA fn fc]] W (RLeft (fun y => K y /\ y < w.heap.size) W ns' (x1, x2) 0)) := hi_ fun W hW => by
  have := RTake_any (HNM.out.1.lt.below hW) HNM.out.2
  rw [<- hns', <- hid, hz] at this
  exact this
 have HR := hi_ (And.intro r0 (And.intro r1 (And.intro r2 (And.intro r3 (And.intro hb1 hs1)))))
 have HEL := hi_ hel
 clear h ok r0 r1 r2 r3 hb1 hs1 hsE hsL hE hL hns' hid hz hes hel
 go_enter Tryz.func44, Tryz.ntmps44
 go_wp2_with (first
  | (rw [<- hw1]; clear hw1)
  | ((with_reducible refine wpList_ldS confT rfl rfl (.tmp 2) rfl rfl HR.out.1 ?_))
  | ((with_reducible refine wpList_ldS stT rfl rfl (.tmp 3) rfl rfl HR.out.2.1 ?_))
  | (go_at_call 95; refine CNM.out.mono ?_; rintro e w2 ⟨rfl, hb2⟩; have HB2 := hi_ hb2; clear hb2)
  | (go_at_call 99; refine (CTK.out w2 (HR.out.2.2.2.2.1.trans (HB2.out.mono HR.out.2.2.2.2.1.size))).mono ?_; rintro e w3 ⟨⟨dE, dL, dGA, dgn, dgc, dFA, dfn, dfc⟩, rfl, hRS, hb3⟩; simp only [Rv.v, idv]; obtain ⟨w4, hw4⟩ : ∃ w4, w4 = (w3.alloc (.cells rvZ 140)).alloc (.cells #[.int .i64 0, .int .i64 0] 39) := ⟨_, rfl⟩; have H4 := hi_ (two_laid w3 w4 hw4); have HB3 := hi_ (HB2.out.trans (hb3.mono HB2.out.size)); have HRS := hi_ hRS; clear hRS hb3)
  | (rw [<- hw4]; clear hw4)
  | ((with_reducible refine wpList_stS (cs' := #[.int .i64 dE, .int .i64 dL, .slice dGA dgn dgc, .slice dFA dfn dfc]) idsT6 rfl rfl (by simp [Value.oneCell']) rfl (.tmp 7) (.tmp 18) rfl rfl rfl H4.out.2.1 ?_); intro w5 hR5 hF5; have R5 := hi_ (And.intro (H4.out.2.2.1.fr hF5 (fun e => by have e' : w3.heap.size + 1 = w3.heap.size := e; omega)) hR5); have HF5 := hi_ hF5; clear hR5 hF5)
  | ((with_reducible refine wpList_stP rfl (.tmp 8) (.tmp 19) rfl rfl rfl R5.out.1 ?_); intro w6 hR6 hF6; have H6 : Hid (Below w3.heap.size w3 w6) := hi_ (by
    have b5 := H4.out.1.trans (HF5.out.toBelow (fun y hy => by rw [show y = w3.heap.size from hy]; exact Nat.le_refl _) H4.out.1.size)
    exact b5.trans (hF6.toBelow (fun y hy => by rw [show y = w3.heap.size + 1 from hy]; omega) b5.size)); have R6 := hi_ (And.intro hR6 (R5.out.2.fr hF6 (fun e => by have e' : w3.heap.size = w3.heap.size + 1 := e; omega))); clear hR6 hF6))
 have HB6 := hi_ (HB3.out.trans (H6.out.mono HB3.out.size))
 have HBW := hi_ (HR.out.2.2.2.2.1.trans (HB6.out.mono HR.out.2.2.2.2.1.size))
 clear CNM CTK
 go_loopw [10, 11, 12] (fun lv dv iv wr => ∃ (jj : Nat) (db : Bool) (xs : List En) (vs : List Value) (D : Nat -> Prop), jj <= en' /\ iv = .int .i64 jj /\ dv = .bool db /\ Gr EEc 101 3 wr w6.heap.size lv vs D xs /\ (∀ y, D y -> K y /\ y < w.heap.size) /\ xs ++ (if db = true then es.drop jj else eIns ((x1, x2), []) (es.drop jj)) = eIns ((x1, x2), []) es /\ xs.length <= 2 * jj /\ Below w6.heap.size w6 wr) (fun _ _ iv _ => en' - (intOf iv).toNat)
 case atStart => exact ⟨0, false, [], [], fun _ => False, Nat.zero_le _, rfl, rfl, Gr.start (World.ownsRow_nil _ _ _ _) (Nat.le_refl _), fun _ hh => hh.elim, rfl, Nat.le_refl _, Below.refl _ _⟩
 case round =>
  obtain ⟨jj, db, xs, vs, D, hjj, rfl, rfl, hG, hD, hX, hxl, hB⟩ := hrel
  have HBw := hi_ (HBW.out.trans (hB.mono HBW.out.size))
  have HG := hi_ (And.intro hG (And.intro hD (And.intro hX hB)))
  have k2 := (HR.out.2.1.under (HB6.out.trans (hB.mono HB6.out.size))).at_ 2
  have i0 := (R6.out.1.under hB).at_ 0
  have i1 := (R6.out.1.under hB).at_ 1
  clear hG hD hX hB
  by_cases hjn : jj < en'
  ·obtain ⟨y, hy⟩ : ∃ y, es[jj]? = some y := ⟨_, List.getElem?_eq_getElem (by have := HEL.out; omega)⟩
   obtain ⟨eb, eo, PA, pn, pc, hEA, _, hblt, h0, h1, h2, hP, hpc, hpm⟩ := HE.out.cell hy
   subst hEA
   have hdr : es.drop jj = y :: es.drop (jj + 1) := by
    obtain ⟨hl, he⟩ := List.getElem?_eq_some_iff.1 hy
    rw [List.drop_eq_getElem_cons hl, he]
   obtain ⟨⟨yi, yg⟩, yp⟩ := y
   have HU := hi_ (And.intro hP (And.intro hpc hpm))
   simp only at h0 h1
   have HC : Hid (∀ W, Below w.heap.size w W -> W.cell? ⟨eb, eo + jj * 3, none⟩ = some (.int .i64 yi) /\ W.cell? ⟨eb, eo + jj * 3 + 1, none⟩ = some (.int .i64 yg) /\ W.cell? ⟨eb, eo + jj * 3 + 2, none⟩ = some (.slice PA pn pc)) := hi_ fun W hW => ⟨(hW.cell (p := ⟨eb, eo + jj * 3, none⟩) hblt).trans h0, (hW.cell (p := ⟨eb, eo + jj * 3 + 1, none⟩) hblt).trans h1, (hW.cell (p := ⟨eb, eo + jj * 3 + 2, none⟩) hblt).trans h2⟩
   have HS : Hid (∀ W, Below w6.heap.size w6 W -> W.cell? ⟨w.heap.size + 1, 2, none⟩ = some (.slice (some ⟨eb, eo, none⟩) en' ec)) := hi_ fun W hW => (HR.out.2.1.under (HB6.out.trans (hW.mono HB6.out.size))).at_ 2
   have HX := hi_ hdr
   obtain ⟨n0, n1, n2⟩ := HC.out wr HBw.out
   clear hy hdr hblt h0 h1 h2 hP hpc hpm
   cases db with
   | false =>
    by_cases hle : x1 < yi
    ·have d1 : decide (x1 < yi) = true := decide_eq_true hle
     have d1' : decide (yi > x1) = true := decide_eq_true hle
     go_upto_region 9 with fail
     go_quiet (fail)
     obtain ⟨wq, hwq⟩ : ∃ wq, wq = wr.drewN nq := ⟨_, rfl⟩
     have hBq : Below wr.heap.size wr wq := by rw [hwq]; exact below_drewN (Below.refl _ _) nq
     rw [<- hwq]
     clear hwq
     have HGQ := hi_ (And.intro (Gr.below EEc.ok HG.out.1 hBq) (HG.out.2.2.2.trans (hBq.mono HG.out.2.2.2.size)))
     clear hBq k2 i0 i1 n0 n1 n2
     have k2 := HS.out wq HGQ.out.2
     have i0 := (R6.out.1.under HGQ.out.2).at_ 0
     have i1 := (R6.out.1.under HGQ.out.2).at_ 1
     obtain ⟨n0, n1, n2⟩ := HC.out wq (HBW.out.trans (HGQ.out.2.mono HBW.out.size))
     obtain ⟨w7, hw7⟩ : ∃ w', w' = wq.alloc (.cells #[.int .i64 x1, .int .i64 x2, .slice none 0 0] 101) := ⟨_, rfl⟩
     have hb7 : Below wq.heap.size wq w7 := (by rw [hw7]; exact (Below.refl _ _).alloc (Nat.le_refl _) _)
     have HV7 : Hid (VRow (fun y => wq.heap.size <= y) w7 (some ⟨wq.heap.size, 0, none⟩) 1 3 [.int .i64 x1, .int .i64 x2, .slice none 0 0]) := hi_ (by rw [hw7]; exact VRow.new wq #[.int .i64 x1, .int .i64 x2, .slice none 0 0] _ 1 3 rfl)
     have HG7 := hi_ (And.intro (Gr.below EEc.ok HGQ.out.1 hb7) (HGQ.out.2.trans (hb7.mono HGQ.out.2.size)))
     clear hb7
     have RI := hi_ (R6.out.1.under HG7.out.2)
     go_wp2_with (first
      | ((with_reducible refine wpList_ldP rfl (.tmp 8) rfl rfl RI.out ?_))
      | (rw [<- hw7]; clear hw7)
      | (at_builtin; refine wpList_appX (K := fun y => wq.heap.size <= y) entsT rfl (.tmp 47) (.tmp 50) rfl w6.heap.size _ (xs).length _ rfl HG7.out.1.ow (some ⟨wq.heap.size, 0, none⟩) 1 1 [.int .i64 x1, .int .i64 x2, .slice none 0 0] rfl HV7.out (fun u hu => by simp at hu; rcases hu with rfl | rfl | rfl <;> rfl) (by omega) (by decide) HG7.out.1.Bw ?_; intro v8 w8 ho8 hg8 hv8; have HG8 := hi_ (And.intro (HG7.out.1.put (x := ((x1, x2), [])) (r := [.int .i64 x1, .int .i64 x2, .slice none 0 0]) (K := fun y => K y /\ y < w.heap.size) EEc.ok rfl (EEc.new x1 x2) (fun y hy e => by have h1 := (own_geB HG7.out.1.ow e).1; have h2 := HBW.out.size; have h3 := hy.2; omega) ho8 hg8 hv8) (HG7.out.2.grown hg8 HG7.out.1.Bw (fun y hy => (own_geB HG7.out.1.ow hy).1))); clear ho8 hg8 hv8; have k2' := HS.out w8 HG8.out.2; obtain ⟨n0', n1', n2'⟩ := HC.out w8 (HBW.out.trans (HG8.out.2.mono HBW.out.size)); clear n0 n1 n2 k2 i0 i1; obtain ⟨w9, hw9⟩ : ∃ w', w' = w8.alloc (.cells #[.int .i64 yi, .int .i64 yg, .slice PA pn pc] 101) := ⟨_, rfl⟩; have hb9 : Below w8.heap.size w8 w9 := (by rw [hw9]; exact (Below.refl _ _).alloc (Nat.le_refl _) _); have HV9 : Hid (VRow (fun y => w8.heap.size <= y) w9 (some ⟨w8.heap.size, 0, none⟩) 1 3 [.int .i64 yi, .int .i64 yg, .slice PA pn pc]) := hi_ (by rw [hw9]; exact VRow.new w8 #[.int .i64 yi, .int .i64 yg, .slice PA pn pc] _ 1 3 rfl); have HG9 := hi_ (And.intro (Gr.below EEc.ok HG8.out.1 hb9) (HG8.out.2.trans (hb9.mono HG8.out.2.size))); clear hb9)
      | ((with_reducible refine wpList_ldEn rfl (.tmp 57) rfl rfl n0' n1' n2' ?_))
      | (rw [<- hw9]; clear hw9)
      | (at_builtin; refine wpList_appX (K := fun y => w8.heap.size <= y) entsT rfl (.tmp 52) (.tmp 58) rfl w6.heap.size _ ((xs ++ [((x1, x2), ([] : List Pt))] : List En)).length _ rfl HG9.out.1.ow (some ⟨w8.heap.size, 0, none⟩) 1 1 [.int .i64 yi, .int .i64 yg, .slice PA pn pc] rfl HV9.out (fun u hu => by simp at hu; rcases hu with rfl | rfl | rfl <;> rfl) (by first | omega | (simp; omega)) (by decide) HG9.out.1.Bw ?_; intro v10 w10 ho10 hg10 hv10; have HG10 := hi_ (And.intro (HG9.out.1.put (x := ((yi, yg), yp)) (r := [.int .i64 yi, .int .i64 yg, .slice PA pn pc]) (K := fun y => K y /\ y < w.heap.size) EEc.ok rfl (EEc.old (HU.out.1.at_ (HBW.out.trans (HG9.out.2.mono HBW.out.size)) (Nat.le_refl _)) HU.out.2.1 HU.out.2.2) (fun y hy e => by have h1 := (own_geB HG9.out.1.ow e).1; have h2 := HBW.out.size; have h3 := hy.2; omega) ho10 hg10 hv10) (HG9.out.2.grown hg10 HG9.out.1.Bw (fun y hy => (own_geB HG9.out.1.ow hy).1))); clear ho10 hg10 hv10))
     go_roundw
     case rel =>
      refine ⟨jj + 1, true, xs ++ [((x1, x2), [])] ++ [((yi, yg), yp)], _, _, hjn, by go_num, rfl, HG10.out.1, fun y hy => ?_, ?_, by first | omega | (simp; omega), HG10.out.2⟩
      ·rcases hy with (hy | hy) | hy; exact HG.out.2.1 y hy; exact hy.1; exact hy.1
      ·have hx := HG.out.2.2.1
       rw [<- hx, HX.out]
       simp [eIns_cons, hle]
     case measure => simp [intOf]; omega
    ·have d1 : decide (x1 < yi) = false := decide_eq_false hle
     have d1' : decide (yi > x1) = false := decide_eq_false hle
     go_upto_region 9 with fail
     go_quiet (fail)
     obtain ⟨wq, hwq⟩ : ∃ wq, wq = wr.drewN nq := ⟨_, rfl⟩
     have hBq : Below wr.heap.size wr wq := by rw [hwq]; exact below_drewN (Below.refl _ _) nq
     rw [<- hwq]
     clear hwq
     have HGQ := hi_ (And.intro (Gr.below EEc.ok HG.out.1 hBq) (HG.out.2.2.2.trans (hBq.mono HG.out.2.2.2.size)))
     clear hBq k2 i0 i1 n0 n1 n2
     have k2 := HS.out wq HGQ.out.2
     have i0 := (R6.out.1.under HGQ.out.2).at_ 0
     have i1 := (R6.out.1.under HGQ.out.2).at_ 1
     obtain ⟨n0, n1, n2⟩ := HC.out wq (HBW.out.trans (HGQ.out.2.mono HBW.out.size))
     obtain ⟨w9, hw9⟩ : ∃ w', w' = wq.alloc (.cells #[.int .i64 yi, .int .i64 yg, .slice PA pn pc] 101) := ⟨_, rfl⟩
     have hb9 : Below wq.heap.size wq w9 := (by rw [hw9]; exact (Below.refl _ _).alloc (Nat.le_refl _) _)
     have HV9 : Hid (VRow (fun y => wq.heap.size <= y) w9 (some ⟨wq.heap.size, 0, none⟩) 1 3 [.int .i64 yi, .int .i64 yg, .slice PA pn pc]) := hi_ (by rw [hw9]; exact VRow.new wq #[.int .i64 yi, .int .i64 yg, .slice PA pn pc] _ 1 3 rfl)
     have HG9 := hi_ (And.intro (Gr.below EEc.ok HGQ.out.1 hb9) (HGQ.out.2.trans (hb9.mono HGQ.out.2.size)))
     clear hb9
     go_wp2_with (first
      | ((with_reducible refine wpList_ldEn rfl (.tmp 57) rfl rfl n0 n1 n2 ?_))
      | (rw [<- hw9]; clear hw9)
      | (at_builtin; refine wpList_appX (K := fun y => wq.heap.size <= y) entsT rfl (.tmp 52) (.tmp 58) rfl w6.heap.size _ (xs).length _ rfl HG9.out.1.ow (some ⟨wq.heap.size, 0, none⟩) 1 1 [.int .i64 yi, .int .i64 yg, .slice PA pn pc] rfl HV9.out (fun u hu => by simp at hu; rcases hu with rfl | rfl | rfl <;> rfl) (by omega) (by decide) HG9.out.1.Bw ?_; intro v10 w10 ho10 hg10 hv10; have HG10 := hi_ (And.intro (HG9.out.1.put (x := ((yi, yg), yp)) (r := [.int .i64 yi, .int .i64 yg, .slice PA pn pc]) (K := fun y => K y /\ y < w.heap.size) EEc.ok rfl (EEc.old (HU.out.1.at_ (HBW.out.trans (HG9.out.2.mono HBW.out.size)) (Nat.le_refl _)) HU.out.2.1 HU.out.2.2) (fun y hy e => by have h1 := (own_geB HG9.out.1.ow e).1; have h2 := HBW.out.size; have h3 := hy.2; omega) ho10 hg10 hv10) (HG9.out.2.grown hg10 HG9.out.1.Bw (fun y hy => (own_geB HG9.out.1.ow hy).1))); clear ho10 hg10 hv10; clear n0 n1 n2 k2 i0 i1))
     go_roundw
     case rel =>
      refine ⟨jj + 1, false, xs ++ [((yi, yg), yp)], _, _, hjn, by go_num, rfl, HG10.out.1, fun y hy => ?_, ?_, by first | omega | (simp; omega), HG10.out.2⟩
      ·rcases hy with hy | hy; exact HG.out.2.1 y hy; exact hy.1
      ·have hx := HG.out.2.2.1
       rw [<- hx, HX.out]
       simp [eIns_cons, hle]
     case measure => simp [intOf]; omega
   | true =>
    go_upto_region 9 with fail
    go_quiet (fail)
    obtain ⟨wq, hwq⟩ : ∃ wq, wq = wr.drewN nq := ⟨_, rfl⟩
    have hBq : Below wr.heap.size wr wq := by rw [hwq]; exact below_drewN (Below.refl _ _) nq
    rw [<- hwq]
    clear hwq
    have HGQ := hi_ (And.intro (Gr.below EEc.ok HG.out.1 hBq) (HG.out.2.2.2.trans (hBq.mono HG.out.2.2.2.size)))
    clear hBq k2 i0 i1 n0 n1 n2
    have k2 := HS.out wq HGQ.out.2
    have i0 := (R6.out.1.under HGQ.out.2).at_ 0
    have i1 := (R6.out.1.under HGQ.out.2).at_ 1
    obtain ⟨n0, n1, n2⟩ := HC.out wq (HBW.out.trans (HGQ.out.2.mono HBW.out.size))
    obtain ⟨w9, hw9⟩ : ∃ w', w' = wq.alloc (.cells #[.int .i64 yi, .int .i64 yg, .slice PA pn pc] 101) := ⟨_, rfl⟩
    have hb9 : Below wq.heap.size wq w9 := (by rw [hw9]; exact (Below.refl _ _).alloc (Nat.le_refl _) _)
    have HV9 : Hid (VRow (fun y => wq.heap.size <= y) w9 (some ⟨wq.heap.size, 0, none⟩) 1 3 [.int .i64 yi, .int .i64 yg, .slice PA pn pc]) := hi_ (by rw [hw9]; exact VRow.new wq #[.int .i64 yi, .int .i64 yg, .slice PA pn pc] _ 1 3 rfl)
    have HG9 := hi_ (And.intro (Gr.below EEc.ok HGQ.out.1 hb9) (HGQ.out.2.trans (hb9.mono HGQ.out.2.size)))
    clear hb9
    go_wp2_with (first
     | ((with_reducible refine wpList_ldEn rfl (.tmp 57) rfl rfl n0 n1 n2 ?_))
     | (rw [<- hw9]; clear hw9)
     | (at_builtin; refine wpList_appX (K := fun y => wq.heap.size <= y) entsT rfl (.tmp 52) (.tmp 58) rfl w6.heap.size _ (xs).length _ rfl HG9.out.1.ow (some ⟨wq.heap.size, 0, none⟩) 1 1 [.int .i64 yi, .int .i64 yg, .slice PA pn pc] rfl HV9.out (fun u hu => by simp at hu; rcases hu with rfl | rfl | rfl <;> rfl) (by omega) (by decide) HG9.out.1.Bw ?_; intro v10 w10 ho10 hg10 hv10; have HG10 := hi_ (And.intro (HG9.out.1.put (x := ((yi, yg), yp)) (r := [.int .i64 yi, .int .i64 yg, .slice PA pn pc]) (K := fun y => K y /\ y < w.heap.size) EEc.ok rfl (EEc.old (HU.out.1.at_ (HBW.out.trans (HG9.out.2.mono HBW.out.size)) (Nat.le_refl _)) HU.out.2.1 HU.out.2.2) (fun y hy e => by have h1 := (own_geB HG9.out.1.ow e).1; have h2 := HBW.out.size; have h3 := hy.2; omega) ho10 hg10 hv10) (HG9.out.2.grown hg10 HG9.out.1.Bw (fun y hy => (own_geB HG9.out.1.ow hy).1))); clear ho10 hg10 hv10; clear n0 n1 n2 k2 i0 i1))
    go_roundw
    case rel =>
     refine ⟨jj + 1, true, xs ++ [((yi, yg), yp)], _, _, hjn, by go_num, rfl, HG10.out.1, fun y hy => ?_, ?_, by first | omega | (simp; omega), HG10.out.2⟩
     ·rcases hy with hy | hy; exact HG.out.2.1 y hy; exact hy.1
     ·have hx := HG.out.2.2.1
      rw [<- hx, HX.out]
      simp
    case measure => simp [intOf]; omega
  ·obtain rfl : jj = en' := by omega
   have HXE : Hid (xs ++ (if db = true then [] else [((x1, x2), [])]) = eIns ((x1, x2), []) es) := hi_ (by
    have := HG.out.2.2.1
    rwa [List.drop_of_length_le (Nat.le_of_eq HEL.out.symm)] at this)
   cases db with
   | true =>
    go_upto_region 15 with fail
    clear i0 i1 k2
    obtain ⟨xz, hxz⟩ : ∃ l, l = xs := ⟨_, rfl⟩
    have hgz := HG.out.1
    rw [<- hxz] at hgz
    have HFX : Hid (xz = eIns ((x1, x2), []) es) := hi_ (by rw [hxz]; simpa using HXE.out)
    clear hxz
    obtain ⟨LA, lc, hlv, hlc, hlm, hlr⟩ := hgz.rows EEc.ok
    clear hgz
    subst hlv
    have hbd : Below w6.heap.size w6 wr.drew := Below.drew (HG.out.2.2.2)
    have HL6 : Hid (RowsL 3 (EEc (fun y => (K y /\ y < w.heap.size) \/ w6.heap.size <= y) wr.drew) (fun y => (K y /\ y < w.heap.size) \/ w6.heap.size <= y) wr.drew LA xz.length xz) := hi_ (RowsE.below EEc.ok (RowsE.mono EEc.ok hlr (fun y hy => by rcases hy with hy | hy; exact .inl (HG.out.2.1 y hy); exact .inr hy.1)) (Below.drew (Below.refl _ _)))
    have HZ := hi_ (And.intro ((HR.out.2.2.1.under HB6.out).under hbd) (And.intro ((HR.out.2.2.2.1.under HB6.out).under hbd) (And.intro (R6.out.1.under hbd) (And.intro (R6.out.2.under hbd) hbd))))
    have HLC := hi_ (And.intro hlc hlm)
    have s0 : (wr.drew.cell? ⟨w3.heap.size, 2, none⟩ = some (.slice dGA dgn dgc) /\ wr.drew.cell? ⟨w3.heap.size, 3, none⟩ = some (.slice dFA dfn dfc)) /\ wr.drew.cell? ⟨w3.heap.size + 1, 0, none⟩ = some (.int .i64 x1) /\ wr.drew.cell? ⟨w3.heap.size + 1, 1, none⟩ = some (.int .i64 x2) := ⟨⟨HZ.out.2.2.2.1.at_ 2, HZ.out.2.2.2.1.at_ 3⟩, HZ.out.2.2.1.at_ 0, HZ.out.2.2.1.at_ 1⟩
    have HSP : Hid (∀ W, Fr (fun y => y = w.heap.size + 2 \/ y = w.heap.size + 3) wr.drew W -> ((W.cell? ⟨w3.heap.size, 2, none⟩ = some (.slice dGA dgn dgc) /\ W.cell? ⟨w3.heap.size, 3, none⟩ = some (.slice dFA dfn dfc)) /\ W.cell? ⟨w3.heap.size + 1, 0, none⟩ = some (.int .i64 x1) /\ W.cell? ⟨w3.heap.size + 1, 1, none⟩ = some (.int .i64 x2))) := hi_ fun W hF => (by
     have hs1 := HR.out.2.2.2.2.2
     have hs3 := HB3.out.size
     have t0 := HZ.out.2.2.2.1.fr hF (fun e => by rcases e with e | e <;> omega)
     have t1 := HZ.out.2.2.1.fr hF (fun e => by rcases e with e | e <;> omega)
     exact ⟨⟨t0.at_ 2, t0.at_ 3⟩, t1.at_ 0, t1.at_ 1⟩)
    clear hlc hlm hlr hbd
    refine wp_region_noPanic ?_
    refine wp_region_held_drew (S := fun W => (W.cell? ⟨w3.heap.size, 2, none⟩ = some (.slice dGA dgn dgc) /\ W.cell? ⟨w3.heap.size, 3, none⟩ = some (.slice dFA dfn dfc)) /\ W.cell? ⟨w3.heap.size + 1, 0, none⟩ = some (.int .i64 x1) /\ W.cell? ⟨w3.heap.size + 1, 1, none⟩ = some (.int .i64 x2)) (by kernel_rfl) s0 (fun hHeld => ?_)
    refine wpAnyH_take (i := 0) (oi := ⟨some 67, .fieldAddr 140 (.tmp 7) 2, 0, "ref.go:56", #[], none⟩) (v := ?_) rfl (by kernel_rfl) (by kernel_rfl) (by kernel_rfl) (fun _ _ _ h => h) (Or.inl ⟨by rfl, ?_⟩) (by assumption) ?_
    rotate_left 1
    ·intro w' hSw; (try dsimp only at hSw); go_simp; (try with_reducible rfl)
    simp only [Act.put, sA_, sB_, sC_]
    refine wpAnyH_take (i := 1) (oi := ⟨some 68, .load 34 (.tmp 67), 34, "ref.go:56", #[⟨0, .data⟩], none⟩) (v := ?_) rfl (by kernel_rfl) (by kernel_rfl) (by kernel_rfl) (fun _ _ _ h => h) (Or.inl ⟨by rfl, ?_⟩) (by assumption) ?_
    rotate_left 1
    ·intro w' hSw; (try dsimp only at hSw); go_simp; (try with_reducible rfl)
    simp only [Act.put, sA_, sB_, sC_]
    refine wpAnyH_take (i := 2) (oi := ⟨some 69, .fieldAddr 140 (.tmp 7) 3, 0, "ref.go:56", #[], none⟩) (v := ?_) rfl (by kernel_rfl) (by kernel_rfl) (by kernel_rfl) (fun _ _ _ h => h) (Or.inl ⟨by rfl, ?_⟩) (by assumption) ?_
    rotate_left 1
    ·intro w' hSw; (try dsimp only at hSw); go_simp; (try with_reducible rfl)
    simp only [Act.put, sA_, sB_, sC_]
    refine wpAnyH_take (i := 3) (oi := ⟨some 70, .load 34 (.tmp 69), 34, "ref.go:56", #[⟨2, .data⟩], none⟩) (v := ?_) rfl (by kernel_rfl) (by kernel_rfl) (by kernel_rfl) (fun _ _ _ h => h) (Or.inl ⟨by rfl, ?_⟩) (by assumption) ?_
    rotate_left 1
    ·intro w' hSw; (try dsimp only at hSw); go_simp; (try with_reducible rfl)
    simp only [Act.put, sA_, sB_, sC_]
    refine wpAnyH_take (i := 4) (oi := ⟨some 71, .move (.tmp 10), 35, "ref.go:56", #[], none⟩) (v := ?_) rfl (by kernel_rfl) (by kernel_rfl) (by kernel_rfl) (fun _ _ _ h => h) (Or.inl ⟨by rfl, ?_⟩) (by assumption) ?_
    rotate_left 1
    ·intro w' hSw; (try dsimp only at hSw); go_simp; (try with_reducible rfl)
    simp only [Act.put, sA_, sB_, sC_]
    refine wpAnyH_take (i := 5) (oi := ⟨some 72, .build 37 #[(0, .tmp 68), (1, .tmp 70), (2, .tmp 71)], 37, "ref.go:56", #[⟨1, .data⟩, ⟨3, .data⟩, ⟨4, .data⟩], none⟩) (v := ?_) rfl (by kernel_rfl) (by kernel_rfl) (by kernel_rfl) (fun _ _ _ h => h) (Or.inl ⟨by rfl, ?_⟩) (by assumption) ?_
    rotate_left 1
    ·intro w' hSw; (try dsimp only at hSw); go_simp; (try with_reducible rfl)
    simp only [Act.put, sA_, sB_, sC_]
    refine wpAnyH_take (i := 6) (oi := ⟨some 73, .load 39 (.tmp 8), 39, "ref.go:56", #[⟨7, .gcOnly .lateStores⟩], none⟩) (v := ?_) rfl (by kernel_rfl) (by kernel_rfl) (by kernel_rfl) (fun _ _ _ h => h) (Or.inl ⟨by rfl, ?_⟩) (by assumption) ?_
    rotate_left 1
    ·intro w' hSw; (try dsimp only at hSw); go_simp; (try with_reducible rfl)
    simp only [Act.put, sA_, sB_, sC_]
    refine wpAnyH_ready (rs := [7]) (by kernel_rfl) (by simp) ?_
    refine AllReadyH.cons (o := ⟨none, .store 37 (.tmp 4) (.tmp 72), 0, "ref.go:56", #[⟨5, .data⟩, ⟨0, .phase⟩, ⟨1, .phase⟩, ⟨2, .phase⟩, ⟨3, .phase⟩, ⟨4, .phase⟩, ⟨5, .phase⟩, ⟨6, .textOnly .lateStores⟩], none⟩) rfl (fun K' hK => ?_) AllReadyH.nil
    refine step_stS (cs' := stC dGA dgn dgc dFA dfn dfc LA xz.length lc) stT rfl rfl (by simp [Value.oneCell']) rfl (.tmp 4) (.tmp 72) rfl rfl rfl HZ.out.1 ?_
    intro w11 hR11 hF11
    have s1 := HSP.out w11 (hF11.mono (fun y hy => .inl hy))
    have H11 := hi_ (And.intro hR11 (And.intro hF11 (HZ.out.2.1.fr hF11 (fun e => by have e' : w.heap.size + 3 = w.heap.size + 2 := e; omega))))
    clear hR11 hF11
    refine hK.out _ _ s1 (fun hHeld => ?_)
    clear hK K'
    try simp only [Act.put]
    refine wpAnyH_ready (rs := [8]) (by kernel_rfl) (by simp) ?_
    refine AllReadyH.cons (o := ⟨none, .store 39 (.tmp 5) (.tmp 73), 0, "ref.go:56", #[⟨6, .data⟩, ⟨7, .chain⟩, ⟨0, .phase⟩, ⟨1, .phase⟩, ⟨2, .phase⟩, ⟨3, .phase⟩, ⟨4, .phase⟩, ⟨5, .phase⟩, ⟨6, .phase⟩, ⟨7, .phase⟩], none⟩) rfl (fun K' hK => ?_) AllReadyH.nil
    refine step_stS (cs' := #[.int .i64 x1, .int .i64 x2]) idT rfl rfl (by simp [Value.oneCell']) rfl (.tmp 5) (.tmp 73) rfl rfl rfl H11.out.2.2 ?_
    intro w12 hR12 hF12
    have s2 := HSP.out w12 ((H11.out.2.1.mono (fun y hy => .inl hy)).trans (hF12.mono (fun y hy => .inr hy)))
    have H12 := hi_ (And.intro hR12 hF12)
    clear hR12 hF12
    refine hK.out _ _ s2 (fun hHeld => ?_)
    clear hK K'
    try simp only [Act.put]
    refine wpAnyH_take (i := 9) (oi := ⟨some 6, .assign (.const (.int .i64 0)), 3, "ref.go:56", #[⟨8, .chain⟩, ⟨0, .phase⟩, ⟨1, .phase⟩, ⟨2, .phase⟩, ⟨3, .phase⟩, ⟨4, .phase⟩, ⟨5, .phase⟩, ⟨6, .phase⟩, ⟨7, .phase⟩, ⟨8, .phase⟩], none⟩) (v := ?_) rfl (by kernel_rfl) (by kernel_rfl) (by kernel_rfl) (fun _ _ _ h => h) (Or.inl ⟨by rfl, ?_⟩) (by assumption) ?_
    rotate_left 1
    ·intro w' hSw; (try dsimp only at hSw); go_simp; (try with_reducible rfl)
    simp only [Act.put, sA_, sB_, sC_]
    refine wpAnyH_done (by kernel_rfl) ?_ _
    refine NoPanic.normal ?_
    clear hHeld s0 s1 s2
    go_wp2
    obtain ⟨hR11, hF11, _⟩ := H11.out
    obtain ⟨hR12, hF12⟩ := H12.out
    refine bodyPost_ret (res_cct rfl rfl ((hR11.fr hF12 (fun e => by have e' : w.heap.size + 2 = w.heap.size + 3 := e; omega)).load stT rfl) rfl (hR12.load idT rfl)) rfl ?_
    have hbd := HZ.out.2.2.2.2
    have hbw : Below w.heap.size w wr.drew := HBW.out.trans (hbd.mono HBW.out.size)
    have hF : Fr (fun y => y = w.heap.size + 2 \/ y = w.heap.size + 3) wr.drew w12 := (hF11.mono (fun y hy => .inl hy)).trans (hF12.mono (fun y hy => .inr hy))
    have hb12 : Below w.heap.size w w12 := hbw.trans (hF.toBelow (fun y hy => by rcases hy with hy | hy <;> omega) hbw.size)
    have hs1 := HR.out.2.2.2.2.2
    have hs2 := HB2.out.size
    have hs3 := HB3.out.size
    have hs6 := H6.out.size
    have rs : RS (fun y => (K y /\ y < w.heap.size) \/ (w2.heap.size <= y /\ y < w3.heap.size)) w12 ⟨dE, dL, dGA, dgn, dgc, dFA, dfn, dfc⟩ ns' := ((HRS.out.below (H6.out.trans (hbd.mono H6.out.size))).stays ⟨hF.size, fun y hy => hF.block y (by have := hbd.size; rcases hy with hy | hy <;> omega) (fun e => by rcases hy with hy | hy <;> rcases e with e | e <;> omega)⟩)
    refine ⟨⟨dGA, dgn, dgc, dFA, dfn, dfc, LA, xz.length, lc⟩, rfl, ⟨rs.gn, rs.fn, by rw [<- HFX.out], rs.g.mono (fun y hy => ?_), rs.f.mono (fun y hy => ?_), ?_, rs.gc, rs.fc, HLC.out.1, HLC.out.2⟩, hb12⟩
    ·rcases hy with h | h; exact .inl h.1; exact .inr (by omega)
    ·rcases hy with h | h; exact .inl h.1; exact .inr (by omega)
    ·rw [<- HFX.out]
     have hz := RowsE.stays EEc.ok (RowsE.lt EEc.ok HL6.out) (w' := w12) ⟨hF.size, fun y hy => hF.block y hy.2 (fun e => by rcases hy.1 with hy | hy <;> rcases e with e | e <;> omega)⟩
     exact RowsE.mono EEc.ok hz (fun y hy => by rcases hy.1 with h | h; exact .inl h.1; exact .inr (by omega))
   | false =>
    obtain ⟨w7, hw7⟩ : ∃ w', w' = wr.alloc (.cells #[.int .i64 x1, .int .i64 x2, .slice none 0 0] 101) := ⟨_, rfl⟩
    have hb7 : Below wr.heap.size wr w7 := (by rw [hw7]; exact (Below.refl _ _).alloc (Nat.le_refl _) _)
    have HV7 : Hid (VRow (fun y => wr.heap.size <= y) w7 (some ⟨wr.heap.size, 0, none⟩) 1 3 [.int .i64 x1, .int .i64 x2, .slice none 0 0]) := hi_ (by rw [hw7]; exact VRow.new wr #[.int .i64 x1, .int .i64 x2, .slice none 0 0] _ 1 3 rfl)
    have HG7 := hi_ (And.intro (Gr.below EEc.ok HG.out.1 hb7) (HG.out.2.2.2.trans (hb7.mono HG.out.2.2.2.size)))
    clear hb7
    have RI := hi_ (R6.out.1.under HG7.out.2)
    go_upto_region 15 with (first
     | ((with_reducible refine wpList_ldP rfl (.tmp 8) rfl rfl RI.out ?_))
     | (rw [<- hw7]; clear hw7)
     | (at_builtin; refine wpList_appX (K := fun y => wr.heap.size <= y) entsT rfl (.tmp 62) (.tmp 65) rfl w6.heap.size _ (xs).length _ rfl HG7.out.1.ow (some ⟨wr.heap.size, 0, none⟩) 1 1 [.int .i64 x1, .int .i64 x2, .slice none 0 0] rfl HV7.out (fun u hu => by simp at hu; rcases hu with rfl | rfl | rfl <;> rfl) (by omega) (by decide) HG7.out.1.Bw ?_; intro v8 w8 ho8 hg8 hv8; have HG8 := hi_ (And.intro (HG7.out.1.put (x := ((x1, x2), [])) (r := [.int .i64 x1, .int .i64 x2, .slice none 0 0]) (K := fun y => K y /\ y < w.heap.size) EEc.ok rfl (EEc.new x1 x2) (fun y hy e => by have h1 := (own_geB HG7.out.1.ow e).1; have h2 := HBW.out.size; have h3 := hy.2; omega) ho8 hg8 hv8) (HG7.out.2.grown hg8 HG7.out.1.Bw (fun y hy => (own_geB HG7.out.1.ow hy).1))); clear ho8 hg8 hv8; clear i0 i1 k2))
    obtain ⟨xz, hxz⟩ : ∃ l, l = xs ++ [((x1, x2), [])] := ⟨_, rfl⟩
    have hgz := HG8.out.1
    rw [<- hxz] at hgz
    have HFX : Hid (xz = eIns ((x1, x2), []) es) := hi_ (by rw [hxz]; simpa using HXE.out)
    clear hxz
    obtain ⟨LA, lc, hlv, hlc, hlm, hlr⟩ := hgz.rows EEc.ok
    clear hgz
    subst hlv
    have hbd : Below w6.heap.size w6 w8.drew := Below.drew (HG8.out.2)
    have HL6 : Hid (RowsL 3 (EEc (fun y => (K y /\ y < w.heap.size) \/ w6.heap.size <= y) w8.drew) (fun y => (K y /\ y < w.heap.size) \/ w6.heap.size <= y) w8.drew LA xz.length xz) := hi_ (RowsE.below EEc.ok (RowsE.mono EEc.ok hlr (fun y hy => by rcases hy with hy | hy; exact .inl (by rcases hy with hy | hy; exact HG.out.2.1 y hy; exact hy.1); exact .inr hy.1)) (Below.drew (Below.refl _ _)))
    have HZ := hi_ (And.intro ((HR.out.2.2.1.under HB6.out).under hbd) (And.intro ((HR.out.2.2.2.1.under HB6.out).under hbd) (And.intro (R6.out.1.under hbd) (And.intro (R6.out.2.under hbd) hbd))))
    have HLC := hi_ (And.intro hlc hlm)
    have s0 : (w8.drew.cell? ⟨w3.heap.size, 2, none⟩ = some (.slice dGA dgn dgc) /\ w8.drew.cell? ⟨w3.heap.size, 3, none⟩ = some (.slice dFA dfn dfc)) /\ w8.drew.cell? ⟨w3.heap.size + 1, 0, none⟩ = some (.int .i64 x1) /\ w8.drew.cell? ⟨w3.heap.size + 1, 1, none⟩ = some (.int .i64 x2) := ⟨⟨HZ.out.2.2.2.1.at_ 2, HZ.out.2.2.2.1.at_ 3⟩, HZ.out.2.2.1.at_ 0, HZ.out.2.2.1.at_ 1⟩
    have HSP : Hid (∀ W, Fr (fun y => y = w.heap.size + 2 \/ y = w.heap.size + 3) w8.drew W -> ((W.cell? ⟨w3.heap.size, 2, none⟩ = some (.slice dGA dgn dgc) /\ W.cell? ⟨w3.heap.size, 3, none⟩ = some (.slice dFA dfn dfc)) /\ W.cell? ⟨w3.heap.size + 1, 0, none⟩ = some (.int .i64 x1) /\ W.cell? ⟨w3.heap.size + 1, 1, none⟩ = some (.int .i64 x2))) := hi_ fun W hF => (by
     have hs1 := HR.out.2.2.2.2.2
     have hs3 := HB3.out.size
     have t0 := HZ.out.2.2.2.1.fr hF (fun e => by rcases e with e | e <;> omega)
     have t1 := HZ.out.2.2.1.fr hF (fun e => by rcases e with e | e <;> omega)
     exact ⟨⟨t0.at_ 2, t0.at_ 3⟩, t1.at_ 0, t1.at_ 1⟩)
    clear hlc hlm hlr hbd
    refine wp_region_noPanic ?_
    refine wp_region_held_drew (S := fun W => (W.cell? ⟨w3.heap.size, 2, none⟩ = some (.slice dGA dgn dgc) /\ W.cell? ⟨w3.heap.size, 3, none⟩ = some (.slice dFA dfn dfc)) /\ W.cell? ⟨w3.heap.size + 1, 0, none⟩ = some (.int .i64 x1) /\ W.cell? ⟨w3.heap.size + 1, 1, none⟩ = some (.int .i64 x2)) (by kernel_rfl) s0 (fun hHeld => ?_)
    refine wpAnyH_take (i := 0) (oi := ⟨some 67, .fieldAddr 140 (.tmp 7) 2, 0, "ref.go:56", #[], none⟩) (v := ?_) rfl (by kernel_rfl) (by kernel_rfl) (by kernel_rfl) (fun _ _ _ h => h) (Or.inl ⟨by rfl, ?_⟩) (by assumption) ?_
    rotate_left 1
    ·intro w' hSw; (try dsimp only at hSw); go_simp; (try with_reducible rfl)
    simp only [Act.put, sA_, sB_, sC_]
    refine wpAnyH_take (i := 1) (oi := ⟨some 68, .load 34 (.tmp 67), 34, "ref.go:56", #[⟨0, .data⟩], none⟩) (v := ?_) rfl (by kernel_rfl) (by kernel_rfl) (by kernel_rfl) (fun _ _ _ h => h) (Or.inl ⟨by rfl, ?_⟩) (by assumption) ?_
    rotate_left 1
    ·intro w' hSw; (try dsimp only at hSw); go_simp; (try with_reducible rfl)
    simp only [Act.put, sA_, sB_, sC_]
    refine wpAnyH_take (i := 2) (oi := ⟨some 69, .fieldAddr 140 (.tmp 7) 3, 0, "ref.go:56", #[], none⟩) (v := ?_) rfl (by kernel_rfl) (by kernel_rfl) (by kernel_rfl) (fun _ _ _ h => h) (Or.inl ⟨by rfl, ?_⟩) (by assumption) ?_
    rotate_left 1
    ·intro w' hSw; (try dsimp only at hSw); go_simp; (try with_reducible rfl)
    simp only [Act.put, sA_, sB_, sC_]
    refine wpAnyH_take (i := 3) (oi := ⟨some 70, .load 34 (.tmp 69), 34, "ref.go:56", #[⟨2, .data⟩], none⟩) (v := ?_) rfl (by kernel_rfl) (by kernel_rfl) (by kernel_rfl) (fun _ _ _ h => h) (Or.inl ⟨by rfl, ?_⟩) (by assumption) ?_
    rotate_left 1
    ·intro w' hSw; (try dsimp only at hSw); go_simp; (try with_reducible rfl)
    simp only [Act.put, sA_, sB_, sC_]
    refine wpAnyH_take (i := 4) (oi := ⟨some 71, .move (.tmp 10), 35, "ref.go:56", #[], none⟩) (v := ?_) rfl (by kernel_rfl) (by kernel_rfl) (by kernel_rfl) (fun _ _ _ h => h) (Or.inl ⟨by rfl, ?_⟩) (by assumption) ?_
    rotate_left 1
    ·intro w' hSw; (try dsimp only at hSw); go_simp; (try with_reducible rfl)
    simp only [Act.put, sA_, sB_, sC_]
    refine wpAnyH_take (i := 5) (oi := ⟨some 72, .build 37 #[(0, .tmp 68), (1, .tmp 70), (2, .tmp 71)], 37, "ref.go:56", #[⟨1, .data⟩, ⟨3, .data⟩, ⟨4, .data⟩], none⟩) (v := ?_) rfl (by kernel_rfl) (by kernel_rfl) (by kernel_rfl) (fun _ _ _ h => h) (Or.inl ⟨by rfl, ?_⟩) (by assumption) ?_
    rotate_left 1
    ·intro w' hSw; (try dsimp only at hSw); go_simp; (try with_reducible rfl)
    simp only [Act.put, sA_, sB_, sC_]
    refine wpAnyH_take (i := 6) (oi := ⟨some 73, .load 39 (.tmp 8), 39, "ref.go:56", #[⟨7, .gcOnly .lateStores⟩], none⟩) (v := ?_) rfl (by kernel_rfl) (by kernel_rfl) (by kernel_rfl) (fun _ _ _ h => h) (Or.inl ⟨by rfl, ?_⟩) (by assumption) ?_
    rotate_left 1
    ·intro w' hSw; (try dsimp only at hSw); go_simp; (try with_reducible rfl)
    simp only [Act.put, sA_, sB_, sC_]
    refine wpAnyH_ready (rs := [7]) (by kernel_rfl) (by simp) ?_
    refine AllReadyH.cons (o := ⟨none, .store 37 (.tmp 4) (.tmp 72), 0, "ref.go:56", #[⟨5, .data⟩, ⟨0, .phase⟩, ⟨1, .phase⟩, ⟨2, .phase⟩, ⟨3, .phase⟩, ⟨4, .phase⟩, ⟨5, .phase⟩, ⟨6, .textOnly .lateStores⟩], none⟩) rfl (fun K' hK => ?_) AllReadyH.nil
    refine step_stS (cs' := stC dGA dgn dgc dFA dfn dfc LA xz.length lc) stT rfl rfl (by simp [Value.oneCell']) rfl (.tmp 4) (.tmp 72) rfl rfl rfl HZ.out.1 ?_
    intro w11 hR11 hF11
    have s1 := HSP.out w11 (hF11.mono (fun y hy => .inl hy))
    have H11 := hi_ (And.intro hR11 (And.intro hF11 (HZ.out.2.1.fr hF11 (fun e => by have e' : w.heap.size + 3 = w.heap.size + 2 := e; omega))))
    clear hR11 hF11
    refine hK.out _ _ s1 (fun hHeld => ?_)
    clear hK K'
    try simp only [Act.put]
    refine wpAnyH_ready (rs := [8]) (by kernel_rfl) (by simp) ?_
    refine AllReadyH.cons (o := ⟨none, .store 39 (.tmp 5) (.tmp 73), 0, "ref.go:56", #[⟨6, .data⟩, ⟨7, .chain⟩, ⟨0, .phase⟩, ⟨1, .phase⟩, ⟨2, .phase⟩, ⟨3, .phase⟩, ⟨4, .phase⟩, ⟨5, .phase⟩, ⟨6, .phase⟩, ⟨7, .phase⟩], none⟩) rfl (fun K' hK => ?_) AllReadyH.nil
    refine step_stS (cs' := #[.int .i64 x1, .int .i64 x2]) idT rfl rfl (by simp [Value.oneCell']) rfl (.tmp 5) (.tmp 73) rfl rfl rfl H11.out.2.2 ?_
    intro w12 hR12 hF12
    have s2 := HSP.out w12 ((H11.out.2.1.mono (fun y hy => .inl hy)).trans (hF12.mono (fun y hy => .inr hy)))
    have H12 := hi_ (And.intro hR12 hF12)
    clear hR12 hF12
    refine hK.out _ _ s2 (fun hHeld => ?_)
    clear hK K'
    try simp only [Act.put]
    refine wpAnyH_take (i := 9) (oi := ⟨some 6, .assign (.const (.int .i64 0)), 3, "ref.go:56", #[⟨8, .chain⟩, ⟨0, .phase⟩, ⟨1, .phase⟩, ⟨2, .phase⟩, ⟨3, .phase⟩, ⟨4, .phase⟩, ⟨5, .phase⟩, ⟨6, .phase⟩, ⟨7, .phase⟩, ⟨8, .phase⟩], none⟩) (v := ?_) rfl (by kernel_rfl) (by kernel_rfl) (by kernel_rfl) (fun _ _ _ h => h) (Or.inl ⟨by rfl, ?_⟩) (by assumption) ?_
    rotate_left 1
    ·intro w' hSw; (try dsimp only at hSw); go_simp; (try with_reducible rfl)
    simp only [Act.put, sA_, sB_, sC_]
    refine wpAnyH_done (by kernel_rfl) ?_ _
    refine NoPanic.normal ?_
    clear hHeld s0 s1 s2
    go_wp2
    obtain ⟨hR11, hF11, _⟩ := H11.out
    obtain ⟨hR12, hF12⟩ := H12.out
    refine bodyPost_ret (res_cct rfl rfl ((hR11.fr hF12 (fun e => by have e' : w.heap.size + 2 = w.heap.size + 3 := e; omega)).load stT rfl) rfl (hR12.load idT rfl)) rfl ?_
    have hbd := HZ.out.2.2.2.2
    have hbw : Below w.heap.size w w8.drew := HBW.out.trans (hbd.mono HBW.out.size)
    have hF : Fr (fun y => y = w.heap.size + 2 \/ y = w.heap.size + 3) w8.drew w12 := (hF11.mono (fun y hy => .inl hy)).trans (hF12.mono (fun y hy => .inr hy))
    have hb12 : Below w.heap.size w w12 := hbw.trans (hF.toBelow (fun y hy => by rcases hy with hy | hy <;> omega) hbw.size)
    have hs1 := HR.out.2.2.2.2.2
    have hs2 := HB2.out.size
    have hs3 := HB3.out.size
    have hs6 := H6.out.size
    have rs : RS (fun y => (K y /\ y < w.heap.size) \/ (w2.heap.size <= y /\ y < w3.heap.size)) w12 ⟨dE, dL, dGA, dgn, dgc, dFA, dfn, dfc⟩ ns' := ((HRS.out.below (H6.out.trans (hbd.mono H6.out.size))).stays ⟨hF.size, fun y hy => hF.block y (by have := hbd.size; rcases hy with hy | hy <;> omega) (fun e => by rcases hy with hy | hy <;> rcases e with e | e <;> omega)⟩)
    refine ⟨⟨dGA, dgn, dgc, dFA, dfn, dfc, LA, xz.length, lc⟩, rfl, ⟨rs.gn, rs.fn, by rw [<- HFX.out], rs.g.mono (fun y hy => ?_), rs.f.mono (fun y hy => ?_), ?_, rs.gc, rs.fc, HLC.out.1, HLC.out.2⟩, hb12⟩
    ·rcases hy with h | h; exact .inl h.1; exact .inr (by omega)
    ·rcases hy with h | h; exact .inl h.1; exact .inr (by omega)
    ·rw [<- HFX.out]
     have hz := RowsE.stays EEc.ok (RowsE.lt EEc.ok HL6.out) (w' := w12) ⟨hF.size, fun y hy => hF.block y hy.2 (fun e => by rcases hy.1 with hy | hy <;> rcases e with e | e <;> omega)⟩
     exact RowsE.mono EEc.ok hz (fun y hy => by rcases hy.1 with h | h; exact .inl h.1; exact .inr (by omega))
end
end Go.Proofs.YthiknmhkdeicjaaGreatDoor
