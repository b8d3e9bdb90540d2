/- The reference's crash. -/
import Derived.Test.YtieknelmfjkbhaaDrA
import Derived.Test.YtieknelmfjkbhaaDrB
namespace Go.Proofs.Ytieknelmfjkbhaa
open Go.RowKit

/-- What stands in a sector when n of its writes were laid over it. -/
def wholeL (sec : List UInt8) (l : List (List UInt8)) (n : Nat) : List UInt8 := if n = 0 then sec else l.getD (n - 1) []

section
variable (d : Rf) (fA : Option Addr) (fn fc : Nat) (w : World)

set_option maxRecDepth 100000 in
set_option maxHeartbeats 2000000 in
theorem crash_any (K : Nat → Prop) (fs : List (Int × Int)) (hF : FRd w fA fn fs) (hfn : fn ≤ 1000000) (hfz : ∀ y ∈ fs, -9223372036854775808 ≤ y.2 ∧ y.2 ≤ 9223372036854775807)
    (safe : List (List UInt8)) (ls : List (Nat × List UInt8)) (hS : RowsK K w d.SA d.sn safe) (hW : WaitK K w d.WA d.wn ls) (hls : ∀ x ∈ ls, x.1 < d.sn) (hwn : d.wn ≤ 1000000) (hsn : d.sn ≤ 4096) :
    Calls Try.prog 33 #[d.v, .slice fA fn fc] w fun e w' => ∃ SA' sc', e = .returned (Rf.v ⟨SA', d.sn, sc', none, 0, 0, -1, false, d.rd, d.wr⟩) ∧ RowsK (fun x => K x ∨ (w.heap.size ≤ x ∧ x < w'.heap.size)) w' SA' d.sn (crashL safe ls fun n => fs.getD n (0, 0)) ∧ Below w.heap.size w w' := by
  obtain ⟨SA, sn, sc, WA, wn, wc, fuse, off, rdd, wrr⟩ := d
  simp only at hS hW hls hwn hsn
  obtain ⟨w1, hw1⟩ : ∃ w1, w1 = (w.alloc (.cells #[.slice SA sn sc, .slice WA wn wc, .int .i64 fuse, .bool off, .int .i64 rdd, .int .i64 wrr] 30)).alloc (.cells #[.slice none 0 0, .slice none 0 0, .int .i64 0, .bool false, .int .i64 0, .int .i64 0] 30) := ⟨_, rfl⟩
  have hB1 : Below w.heap.size w w1 := by rw [hw1]; exact ((Below.refl _ _).alloc (Nat.le_refl _) _).alloc (by simp) _
  have hR1 : RAt w1 w.heap.size ⟨SA, sn, sc, WA, wn, wc, fuse, off, rdd, wrr⟩ := by rw [hw1]; exact (RAt.new w ⟨SA, sn, sc, WA, wn, wc, fuse, off, rdd, wrr⟩).under ((Below.refl _ _).alloc (Nat.le_refl _) _)
  have hZ1 : RAt w1 (w.heap.size + 1) zeroR := by
    have := RAt.new (w.alloc (.cells #[.slice SA sn sc, .slice WA wn wc, .int .i64 fuse, .bool off, .int .i64 rdd, .int .i64 wrr] 30)) zeroR
    rw [World.size_alloc] at this
    rw [hw1]; exact this
  have HB1 := Lib.hid hB1
  have HR1 := Lib.hid hR1
  have HZ1 := Lib.hid hZ1
  have hW1 := hW.below hB1
  have cD := RDirty_any ⟨SA, sn, sc, WA, wn, wc, fuse, off, rdd, wrr⟩ w1 ls hW1.wait hwn hsn
  simp only [Rf.v, rv] at cD
  have CD := Lib.hid cD
  have HS := Lib.hid hS
  have HW := Lib.hid hW
  have HF := Lib.hid hF
  have HFZ := Lib.hid hfz
  have HLS := Lib.hid hls
  clear hB1 hR1 hZ1 hW1 cD hS hW hF hfz hls
  show Calls Try.prog _ #[.agg #[.slice SA sn sc, .slice WA wn wc, .int .i64 fuse, .bool off, .int .i64 rdd, .int .i64 wrr], _] w _
  go_enter Try.func33, Try.ntmps33
  go_wp2_with (first
    | (rw [← hw1]; clear hw1)
    | (with_reducible refine wpList_ldR rfl (.tmp 2) rfl rfl HR1.out ?_))
  refine CD.out.mono ?_
  rintro e w2 ⟨A2, c2, rfl, hI2, hB2⟩
  obtain ⟨D, hD⟩ : ∃ D, D = dirtyR sn ls := ⟨_, rfl⟩
  rw [← hD] at hI2
  have R2 := Lib.hid (HR1.out.under hB2)
  have Z2 := Lib.hid (HZ1.out.under hB2)
  have hB2' : Below w.heap.size w w2 := HB1.out.trans (hB2.mono HB1.out.size)
  have hg2 : w.heap.size + 1 < w2.heap.size := Z2.out.lt
  obtain ⟨vs0, hsl, hSA0, hSH0⟩ := HS.out
  have hA2 := hSA0.below hB2'
  have hBa : Below w2.heap.size w2 (w2.alloc (.cells #[] 32)) := (Below.refl _ _).alloc (Nat.le_refl _) _
  have q0a : (w2.alloc (.cells #[] 32)).cell? ⟨w.heap.size, 0, none⟩ = some (.slice SA sn sc) := (R2.out.under hBa).h0
  have hsa := hBa.size
  have HB2 := Lib.hid hB2'
  have HI2 := Lib.hid hI2
  have HD := Lib.hid hD
  have G2 := Lib.hid hg2
  have HSL := Lib.hid hsl
  have HA2 := Lib.hid (hA2.below hBa)
  have HH0 := Lib.hid hSH0
  have hWk : WaitK (fun x => K x ∧ x < w.heap.size) w WA wn ls := by obtain ⟨v, h1, h2, h3⟩ := HW.out; exact ⟨v, h1, h2.lt, h3.lt⟩
  have HWK := Lib.hid hWk
  have HSK := Lib.hid hSH0.lt
  have HSAT := Lib.hid hSA0
  clear hWk
  have HSZ := Lib.hid hsa
  have HBA := Lib.hid hBa
  have HNIL := Lib.hid (fun (e : SA = none) => (show sn = 0 by subst e; exact hSA0.nil0))
  clear hB2 hB2' hI2 hD hg2 hsl hSA0 hSH0 hA2 hBa hsa CD
  rw [← HD.out]
  go_wp2_with (first
    | (at_builtin; refine wpList_appR (K := K) listT rfl (.tmp 15) (.tmp 17) rfl w2.heap.size _ 0 [] rfl (World.ownsRow_lit w2 #[] 0 (Nat.le_refl _) (Nat.zero_le _) rfl) SA sn sc vs0 rfl HA2.out HH0.out.one (by omega) (by decide) HSZ.out HNIL.out ?_; intro v4 w4 ho4 hg4; rw [List.nil_append, Nat.zero_add] at ho4))
  obtain ⟨A8, c8, rfl, hsc, hcm, _⟩ := own_row ho4
  have ho30 : (w2.alloc (.cells #[] 32)).ownsRow w2.heap.size 32 1 (.slice (some ⟨w2.heap.size, 0, none⟩) 0 0) 0 [] := World.ownsRow_lit w2 #[] 0 (Nat.le_refl _) (Nat.zero_le _) rfl
  have hB24 : Below w2.heap.size w2 w4 := HBA.out.trans (below_own ho30 HSZ.out hg4)
  have hB4 : Below w.heap.size w w4 := HB2.out.trans (hB24.mono HB2.out.size)
  have R4 := Lib.hid (R2.out.under hB24)
  have Z4 := Lib.hid (Z2.out.under hB24)
  have HB24 := Lib.hid hB24
  have HB4 := Lib.hid hB4
  have HO4 := Lib.hid ho4
  have S24 := Lib.hid hB24.size
  have hst0 : HdS (fun x => (K x ∧ x < w.heap.size) ∨ w4.heap.size ≤ x) w4 vs0 safe := (HH0.out.lt.below hB4).mono (fun x hx => .inl hx)
  have HST0 := Lib.hid hst0
  clear ho30 ho4 hg4 hB24 hB4 q0a R2 Z2 hst0
  go_loopw [7, 8, 9, 10, 11, 12] (fun v7 v8 v9 v10 v11 v12 wr => ∃ (j : Nat) (vs : List Value), j ≤ D.length ∧ v7 = .int .i64 j ∧ wr.ownsRow w2.heap.size 32 1 (.slice A8 sn c8) sn vs ∧ HdS (fun x => (K x ∧ x < w.heap.size) ∨ w4.heap.size ≤ x) wr vs (crashN safe ls (fun n => fs.getD n (0, 0)) j) ∧ Fr (fun x => (Value.slice A8 sn c8).ownBlock = some x) w4 wr) (fun v7 _ _ _ _ _ _ => D.length - (intOf v7).toNat)
  case atStart => exact ⟨0, vs0, Nat.zero_le _, rfl, HO4.out, HST0.out, Fr.refl _ _⟩
  case round =>
    obtain ⟨j, vs, hj, rfl, ho, hH, hF⟩ := hrel
    have hownlt : ∀ x, (Value.slice A8 sn c8).ownBlock = some x → w2.heap.size ≤ x := fun x hx => (HO4.out.lt x hx).1
    have hRq : RAt wr w.heap.size ⟨SA, sn, sc, WA, wn, wc, fuse, off, rdd, wrr⟩ := (hF.block _ R4.out.lt (fun e => by have := hownlt _ e; have := G2.out; omega)).trans R4.out
    have hZq : RAt wr (w.heap.size + 1) zeroR := (hF.block _ Z4.out.lt (fun e => by have := hownlt _ e; have := G2.out; omega)).trans Z4.out
    have hBr : Below w.heap.size w wr := HB4.out.trans (hF.toBelow (fun x hx => by have := hownlt x hx; have := G2.out; omega) HB4.out.size)
    by_cases hjn : j < D.length
    · obtain ⟨b2, o2, hA2, hb2, hc2⟩ := HI2.out.2 (by omega)
      have hci := hc2 j (by rw [List.length_map]; exact hjn)
      obtain ⟨i, hi⟩ : ∃ i, i = D.getD j 0 := ⟨_, rfl⟩
      have hdi : (D.map fun (i : Nat) => (i : Int)).getD j 0 = (i : Int) := by
        rw [hi, List.getD, List.getD, List.getElem?_map, List.getElem?_eq_getElem hjn]; rfl
      have hisn : i < sn := by
        have hm : i ∈ D := by rw [hi, List.getD, List.getElem?_eq_getElem hjn]; exact List.getElem_mem hjn
        rw [HD.out] at hm
        exact List.mem_range.1 (List.mem_filter.1 hm).1
      rw [hdi] at hci
      obtain ⟨kept, torn, hkt⟩ : ∃ kept torn, fs.getD j (0, 0) = (kept, torn) := ⟨_, _, rfl⟩
      have hB2r : Below w2.heap.size w2 wr := HB24.out.trans (hF.toBelow hownlt S24.out)
      have kd := (hB2r.cell (p := ⟨b2, o2 + j, none⟩) hb2).trans hci
      obtain ⟨W0, hw0⟩ : ∃ W0, W0 = wr.alloc (.cells #[.int .i64 0, .int .i64 0] 63) := ⟨_, rfl⟩
      obtain ⟨W1, hw1'⟩ : ∃ W1, W1 = (W0.setCell ⟨wr.heap.size, 0, none⟩ (.int .i64 0)).setCell ⟨wr.heap.size, 1, none⟩ (.int .i64 0) := ⟨_, rfl⟩
      obtain ⟨wf, hwf⟩ : ∃ wf, wf = if j < fn then (W1.setCell ⟨wr.heap.size, 0, none⟩ (.int .i64 kept)).setCell ⟨wr.heap.size, 1, none⟩ (.int .i64 torn) else W1 := ⟨_, rfl⟩
      have hb0 : W0.heap[wr.heap.size]? = some (.cells #[.int .i64 0, .int .i64 0] 63 (0, 0)) := by rw [hw0]; exact heap_alloc_last wr _
      have hb1 : W1.heap[wr.heap.size]? = some (.cells #[.int .i64 0, .int .i64 0] 63 (0, 0)) := by rw [hw1']; exact heap_setCell_at (heap_setCell_at hb0 _) _
      have hB1 : Below wr.heap.size wr W1 := by rw [hw1', hw0]; exact (((Below.refl _ _).alloc (Nat.le_refl _) _).setCell (p := ⟨wr.heap.size, 0, none⟩) (Nat.le_refl _) _).setCell (p := ⟨wr.heap.size, 1, none⟩) (Nat.le_refl _) _
      have hbf : wf.heap[wr.heap.size]? = some (.cells #[.int .i64 kept, .int .i64 torn] 63 (0, 0)) := by
        rw [hwf]
        by_cases hjf : j < fn
        · rw [if_pos hjf]; exact heap_setCell_at (heap_setCell_at hb1 _) _
        · rw [if_neg hjf]
          rw [List.getD, List.getElem?_eq_none (by have := HF.out.1; omega)] at hkt
          have e : ((0 : Int), (0 : Int)) = (kept, torn) := hkt
          injection e with e1 e2
          rw [← e1, ← e2]; exact hb1
      have hBf : Below wr.heap.size wr wf := by
        rw [hwf]
        by_cases hjf : j < fn
        · rw [if_pos hjf]; exact (hB1.setCell (p := ⟨wr.heap.size, 0, none⟩) (Nat.le_refl _) _).setCell (p := ⟨wr.heap.size, 1, none⟩) (Nat.le_refl _) _
        · rw [if_neg hjf]; exact hB1
      have z00 : W0.cell? ⟨wr.heap.size, 0, none⟩ = some (.int .i64 0) := cell_of_row _ _ 0 _ _ _ hb0
      have z01 : W0.cell? ⟨wr.heap.size, 1, none⟩ = some (.int .i64 0) := cell_of_row _ _ 1 _ _ _ hb0
      have z10 : W1.cell? ⟨wr.heap.size, 0, none⟩ = some (.int .i64 0) := cell_of_row _ _ 0 _ _ _ hb1
      have z11 : W1.cell? ⟨wr.heap.size, 1, none⟩ = some (.int .i64 0) := cell_of_row _ _ 1 _ _ _ hb1
      have y00 := frozen_of_row W0 wr.heap.size 0 _ _ hb0
      have y01 := frozen_of_row W0 wr.heap.size 1 _ _ hb0
      have y10 := frozen_of_row W1 wr.heap.size 0 _ _ hb1
      have y11 := frozen_of_row W1 wr.heap.size 1 _ _ hb1
      have f0 : wf.cell? ⟨wr.heap.size, 0, none⟩ = some (.int .i64 kept) := cell_of_row _ _ 0 _ _ _ hbf
      have f1 : wf.cell? ⟨wr.heap.size, 1, none⟩ = some (.int .i64 torn) := cell_of_row _ _ 1 _ _ _ hbf
      have HB1W := Lib.hid hB1
      clear hb0 hb1 hB1 hbf
      have hBwf : Below w.heap.size w wf := hBr.trans (hBf.mono hBr.size)
      have kdf := (hBf.cell (p := ⟨b2, o2 + j, none⟩) (show b2 < _ by have := hB2r.size; omega)).trans kd
      have hRf := hRq.under hBf
      have htz : -9223372036854775808 ≤ torn ∧ torn ≤ 9223372036854775807 := by
        by_cases hjf : j < fs.length
        · have := HFZ.out fs[j] (List.getElem_mem hjf)
          rw [List.getD, List.getElem?_eq_getElem hjf] at hkt
          have e : fs[j] = (kept, torn) := hkt
          rw [e] at this; exact this
        · rw [List.getD, List.getElem?_eq_none (by omega)] at hkt
          have e : ((0 : Int), (0 : Int)) = (kept, torn) := hkt
          injection e with e1 e2
          subst e2
          decide
      have cO := of_anyK SA sn sc WA wn wc fuse off rdd wrr wf (fun x => K x ∧ x < w.heap.size) i ls (HWK.out.below hBwf) hwn
      have CO := Lib.hid cO
      have HTZ := Lib.hid htz
      have HKT := Lib.hid hkt
      have HBWF := Lib.hid hBwf
      have HRF := Lib.hid hRf
      have HO := Lib.hid ho
      have HH := Lib.hid hH
      have HF2 := Lib.hid hF
      have HBF := Lib.hid hBf
      have HI := Lib.hid hi
      have hjl : (j : Int) < (D.length : Int) := by omega
      have hDl : D.length ≤ 4096 := by
        rw [HD.out]
        have h0 := List.length_filter_le (fun i => !(fl i ls).isEmpty) (List.range sn)
        rw [List.length_range] at h0
        exact Nat.le_trans h0 hsn
      have hj0 : (0 : Int) ≤ (j : Int) := by omega
      have hb2l : b2 < wr.heap.size := by have := hB2r.size; omega
      have HBR := Lib.hid hBr
      have HZQ := Lib.hid hZq
      have HOL := Lib.hid hownlt
      subst hA2
      clear cO htz hBwf hRf ho hH hF hi hRq hZq hBr hownlt hci hdi hc2 hB2r hBf
      by_cases hjf : j < fn
      · obtain ⟨bf, of', hfA, hbf, hcf⟩ := HF.out.2 (by omega)
        have hjfs : j < fs.length := by rw [HF.out.1]; exact hjf
        obtain ⟨y0, y1⟩ := hcf j hjfs
        have hkt := HKT.out
        rw [List.getD, List.getElem?_eq_getElem hjfs] at hkt
        have e : fs[j] = (kept, torn) := hkt
        rw [e] at y0 y1
        have x0 : W1.cell? ⟨bf, of' + j * 2, none⟩ = some (.int .i64 kept) := (HB1W.out.cell (p := ⟨bf, of' + j * 2, none⟩) (show bf < _ by have := HBR.out.size; omega)).trans ((HBR.out.cell (p := ⟨bf, of' + j * 2, none⟩) hbf).trans y0)
        have x1 : W1.cell? ⟨bf, of' + j * 2 + 1, none⟩ = some (.int .i64 torn) := (HB1W.out.cell (p := ⟨bf, of' + j * 2 + 1, none⟩) (show bf < _ by have := HBR.out.size; omega)).trans ((HBR.out.cell (p := ⟨bf, of' + j * 2 + 1, none⟩) hbf).trans y1)
        have hjfI : (j : Int) < (fn : Int) := by omega
        subst hfA
        rw [if_pos hjf] at hwf
        clear hkt e y0 y1 hcf
        go_wp2_with (first
          | (rw [← hw0]; clear hw0)
          | (rw [← hw1']; clear hw1')
          | (rw [← hwf]; clear hwf)
          | (with_reducible refine wpList_ldR rfl (.tmp 2) rfl rfl HRF.out ?_))
        refine CO.out.mono ?_
        rintro e w7 ⟨A10, n10, c10, vs10, rfl, h10c, h10m, h10w, h10n, hA10, hr10, hB7⟩
        have hB7w : Below w.heap.size w w7 := HBWF.out.trans (hB7.mono HBWF.out.size)
        have hBr7 : Below wr.heap.size wr w7 := HBF.out.trans (hB7.mono HBF.out.size)
        have R7 := HRF.out.under hB7
        obtain ⟨bs, os, hSAe, _, hbsl, hcs⟩ := HSAT.out.2 (by omega)
        obtain ⟨b', o', c', ks, hk', hb', hc', hm', hrs⟩ := (HSK.out.below hB7w).2 i (by rw [HSL.out]; exact hisn)
        have ks7 := (hB7w.cell (p := ⟨bs, os + i, none⟩) hbsl).trans (hcs _ _ ks)
        have q07 : w7.cell? ⟨w.heap.size, 0, none⟩ = some (.slice (some ⟨bs, os, none⟩) sn sc) := by rw [← hSAe]; exact R7.h0
        have f07 := (hB7.cell (p := ⟨wr.heap.size, 0, none⟩) (World.block_lt_of_cell? _ _ f0)).trans f0
        have f17 := (hB7.cell (p := ⟨wr.heap.size, 1, none⟩) (World.block_lt_of_cell? _ _ f1)).trans f1
        have hiI : (i : Int) < (sn : Int) := by omega
        have hi0 : (0 : Int) ≤ (i : Int) := by omega
        obtain ⟨r, hA8⟩ : ∃ r, A8 = some ⟨r, 0, none⟩ := by
          rcases HO.out.2 with ⟨_, h2⟩ | ⟨g, cap, cur, h1, _⟩
          · omega
          · injection h1 with h1
            exact ⟨g, h1⟩
        subst hA8
        have ho7 := own_keep HO.out hBr7
        have hrlt := HO4.out.lt r rfl
        have hsv : i < vs.length := by have := ho7.1; omega
        have k5 := ho7.cells (g := r) rfl i _ (List.getElem?_eq_getElem hsv)
        rw [Addr.add_lit, Nat.zero_add] at k5
        have fz5 : w7.frozen? ⟨r, i, none⟩ = false := by obtain ⟨C, hC⟩ := own_tag ho7 (x := r) rfl; simp [World.frozen?, hC]
        have HRLT := Lib.hid hrlt
        have HO7 := Lib.hid ho7
        have HBR7 := Lib.hid hBr7
        have HB7 := Lib.hid hB7
        have HB7W := Lib.hid hB7w
        have HR7 := Lib.hid R7
        have HRS := Lib.hid hrs
        have HA10 := Lib.hid hA10
        have HR10 := Lib.hid hr10
        have H10N := Lib.hid h10n
        have HC' := Lib.hid hc'
        have HM' := Lib.hid hm'
        have HK' := Lib.hid hk'
        have HB' := Lib.hid hb'
        clear hB7 hB7w hBr7 R7 hcs hrs hr10 hA10 hc' hm' hk' hb' hSAe kd kdf f0 f1 z00 z01 z10 z11 y00 y01 y10 y11 ho7 hrlt ks h10n
        go_wp2
        go_loopw [11, 12] (fun v11 v12 wr2 => ∃ (m bq oq cq : Nat), m ≤ n10 ∧ (m : Int) ≤ max kept 0 ∧ v12 = .int .i64 m ∧ v11 = .slice (some ⟨bq, oq, none⟩) 512 cq ∧ (K bq ∧ bq < w.heap.size) ∧ bq < w7.heap.size ∧ 512 ≤ cq ∧ cq ≤ maxLen ∧ Rd w7 (some ⟨bq, oq, none⟩) 512 (wholeL (safe.getD i []) (fl i ls) m) ∧ w7 = wr2) (fun _ v12 _ => n10 - (intOf v12).toNat)
        case atStart => exact ⟨0, b', o', c', Nat.zero_le _, by omega, rfl, rfl, HK'.out, HB'.out, HC'.out, HM'.out, HRS.out, rfl⟩
        case round =>
          obtain ⟨m, bq, oq, cq, hmn, hmk, rfl, rfl, hkq, hbq, hcq, hmq, hrq, rfl⟩ := hrel
          have HKQ := Lib.hid hkq
          have HBQ := Lib.hid hbq
          have HRQ := Lib.hid hrq
          clear hkq hbq hrq
          have g0 : (0 : Int) ≤ (m : Int) := by omega
          by_cases hgo : m < n10 ∧ (m : Int) < kept
          · obtain ⟨bl, ol, hAl, _, hbl, hcl⟩ := HA10.out.2 (by omega)
            obtain ⟨b1', o1', c1', kl, hk1, hb1', hcl1, hcl2, hrl⟩ := HR10.out.2 m (by rw [H10N.out]; exact hgo.1)
            have kl' := hcl m _ kl
            have g1 : (m : Int) < (n10 : Int) := by omega
            have g2 : (m : Int) < kept := hgo.2
            have HRL := Lib.hid hrl
            have HK1 := Lib.hid hk1
            have HB1' := Lib.hid hb1'
            subst hAl
            clear hcl kl hrl hk1 hb1'
            go_wp2
            go_roundw
            case rel => exact ⟨m + 1, b1', o1', c1', hgo.1, by omega, by go_num, rfl, HK1.out, HB1'.out, hcl1, hcl2, by unfold wholeL; rw [if_neg (by omega)]; exact HRL.out, trivial⟩
            case measure => simp [intOf]; omega
          · have hmin : (min (max kept 0) ((fl i ls).length : Int)).toNat = m := by rw [H10N.out]; omega
            have HMIN := Lib.hid hmin
            clear hmin
            have hcr : crashN safe ls (fun n => fs.getD n (0, 0)) (j + 1) = (crashN safe ls (fun n => fs.getD n (0, 0)) j).set i (fatedL (safe.getD i []) (fl i ls) kept torn) := by
              show List.set _ _ _ = _
              simp only [HSL.out, ← HD.out, ← HI.out, HKT.out]
            have HCR := Lib.hid hcr
            clear hcr
            by_cases hlast : m < n10
            · have g1 : (m : Int) < (n10 : Int) := by omega
              have g2 : ¬ (m : Int) < kept := fun h => hgo ⟨hlast, h⟩
              obtain ⟨bl, ol, hAl, _, hbl, hcl⟩ := HA10.out.2 (by omega)
              obtain ⟨b1', o1', c1', kl, _, _, hcl1, hcl2, hrl⟩ := HR10.out.2 m (by rw [H10N.out]; exact hlast)
              have kl' := hcl m _ kl
              subst hAl
              have HRL := Lib.hid hrl
              clear hcl kl hrl
              have s7 : w7.cell? ⟨bl, ol + m, none⟩ = some (.slice (some ⟨b1', o1', none⟩) 512 c1') ∧ w7.cell? ⟨wr.heap.size, 1, none⟩ = some (.int .i64 torn) := ⟨kl', f17⟩
              have s7d : w7.drew.cell? ⟨bl, ol + m, none⟩ = some (.slice (some ⟨b1', o1', none⟩) 512 c1') ∧ w7.drew.cell? ⟨wr.heap.size, 1, none⟩ = some (.int .i64 torn) := ⟨kl', f17⟩
              go_wp2_with fail
              go_region_held3 (fun w' => w'.cell? ⟨bl, ol + m, none⟩ = some (.slice (some ⟨b1', o1', none⟩) 512 c1') ∧ w'.cell? ⟨wr.heap.size, 1, none⟩ = some (.int .i64 torn)) (first
                  | with_reducible exact s7
                  | with_reducible exact s7d
                  | with_reducible exact s8) (first
                | (go_at_call 45; refine (RTear_any _ _ _ _ _ _ _ _ _ w7.drew HRQ.out HRL.out HTZ.out).mono ?_; rintro e w8 ⟨v8, rfl, ho8, hB8⟩; have hB78 : Below w7.heap.size w7 w8 := ((Below.refl _ _).drew).trans hB8; have s8 : w8.cell? ⟨bl, ol + m, none⟩ = some (.slice (some ⟨b1', o1', none⟩) 512 c1') ∧ w8.cell? ⟨wr.heap.size, 1, none⟩ = some (.int .i64 torn) := ⟨(hB78.cell (p := ⟨bl, ol + m, none⟩) hbl).trans kl', (hB78.cell (p := ⟨wr.heap.size, 1, none⟩) (World.block_lt_of_cell? _ _ f17)).trans f17⟩; obtain ⟨b8, c8', rfl⟩ : ∃ b c, v8 = .slice (some ⟨b, 0, none⟩) 512 c := (by rcases ho8.2 with ⟨h1, h2⟩ | ⟨g, cap, cur, h1, _⟩; exact absurd h2 (by decide); exact ⟨g, cap, h1⟩); have k58 := (hB78.cell (p := ⟨r, i, none⟩) (World.block_lt_of_cell? _ _ k5)).trans k5; have ho78 := own_keep HO7.out hB78; have fz58 : w8.frozen? ⟨r, i, none⟩ = false := (by obtain ⟨C, hC⟩ := own_tag ho78 (x := r) rfl; simp [World.frozen?, hC])))
              all_goals
                have HO8 := Lib.hid ho8
                have HO78 := Lib.hid ho78
                have HB78 := Lib.hid hB78
                clear ho8 ho78 hB78 hB8 s7 s7d s8
                go_wp2
                go_roundw
                case rel =>
                  obtain ⟨A7, c7, e7, hc7, hm7, hr7⟩ := Rd.of_own HO8.out rfl
                  cases e7
                  have hb8 := HO8.out.lt b8 rfl
                  have h8 : w7.heap.size ≤ b8 := hb8.1
                  rw [cut_self HRQ.out.1, cut_self HRL.out.1] at hr7
                  have hfat : fatedL (safe.getD i []) (fl i ls) kept torn = tearL (wholeL (safe.getD i []) (fl i ls) m) ((fl i ls).getD m []) torn := by
                    unfold fatedL
                    rw [HMIN.out]
                    simp only
                    rw [if_pos (by rw [H10N.out]; exact hlast)]
                    rfl
                  rw [← hfat] at hr7
                  have hs7 := HBR7.out.size
                  have hs4 := HF2.out.size
                  have h1 := ((HH.out.below HBR7.out).below HB78.out).set i b8 0 _ _ (.inr (by omega)) hb8.2 hc7 hm7 hr7
                  rw [← HCR.out] at h1
                  have hFs : Fr (· = r) w8 (w8.setCell ⟨r, i, none⟩ (.slice (some ⟨b8, 0, none⟩) 512 c8')) := Fr.setCell (own := (· = r)) w8 (p := ⟨r, i, none⟩) rfl _
                  have hr1 := HRLT.out
                  have hg2 := G2.out
                  have h2 := h1.lt.stays (w' := w8.setCell ⟨r, i, none⟩ (.slice (some ⟨b8, 0, none⟩) 512 c8')) ⟨hFs.size, fun x hx => hFs.block x hx.2 (fun e => by have e' : x = r := e; rcases hx.1 with h | h <;> omega)⟩
                  exact ⟨j + 1, _, hjn, by go_num, own_set HO78.out i _, h2.mono (fun x hx => hx.1), ((HF2.out.trans (Fr.ofBelow _ HBR7.out)).trans (Fr.ofBelow _ HB78.out)).trans (hFs.mono (fun x hx => by rw [show x = r from hx]; rfl))⟩
                case measure => simp [intOf]; omega
            · have g1 : ¬ (m : Int) < (n10 : Int) := by omega
              have hfat : fatedL (safe.getD i []) (fl i ls) kept torn = wholeL (safe.getD i []) (fl i ls) m := by
                unfold fatedL
                rw [HMIN.out]
                simp only
                rw [if_neg (by rw [H10N.out]; omega)]
                rfl
              have HFAT := Lib.hid hfat
              clear hfat
              go_wp2
              go_roundw
              case rel =>
                have h1 := (HH.out.below HBR7.out).set i bq oq cq _ (.inl HKQ.out) HBQ.out hcq hmq HRQ.out
                rw [← HFAT.out, ← HCR.out] at h1
                have hFs : Fr (· = r) w7 (w7.setCell ⟨r, i, none⟩ (.slice (some ⟨bq, oq, none⟩) 512 cq)) := Fr.setCell (own := (· = r)) w7 (p := ⟨r, i, none⟩) rfl _
                have hr1 := HRLT.out
                have hg2 := G2.out
                have h2 := h1.lt.stays (w' := w7.setCell ⟨r, i, none⟩ (.slice (some ⟨bq, oq, none⟩) 512 cq)) ⟨hFs.size, fun x hx => hFs.block x hx.2 (fun e => by have e' : x = r := e; rcases hx.1 with h | h <;> omega)⟩
                exact ⟨j + 1, _, hjn, by go_num, own_set HO7.out i _, h2.mono (fun x hx => hx.1), (HF2.out.trans (Fr.ofBelow _ HBR7.out)).trans (hFs.mono (fun x hx => by rw [show x = r from hx]; rfl))⟩
              case measure => simp [intOf]; omega
      · have hkt := HKT.out
        have hfl := HF.out.1
        rw [List.getD, List.getElem?_eq_none (by omega)] at hkt
        have e : ((0 : Int), (0 : Int)) = (kept, torn) := hkt
        injection e with e1 e2
        rw [if_neg hjf] at hwf
        subst e1 e2
        subst hwf
        have hjfI : ¬ ((j : Int) < (fn : Int)) := by omega
        clear hkt hfl
        go_wp2_with (first
          | (rw [← hw0]; clear hw0)
          | (rw [← hw1']; clear hw1')
          | (with_reducible refine wpList_ldR rfl (.tmp 2) rfl rfl HRF.out ?_))
        refine CO.out.mono ?_
        rintro e w7 ⟨A10, n10, c10, vs10, rfl, h10c, h10m, h10w, h10n, hA10, hr10, hB7⟩
        have hB7w : Below w.heap.size w w7 := HBWF.out.trans (hB7.mono HBWF.out.size)
        have hBr7 : Below wr.heap.size wr w7 := HBF.out.trans (hB7.mono HBF.out.size)
        have R7 := HRF.out.under hB7
        obtain ⟨bs, os, hSAe, _, hbsl, hcs⟩ := HSAT.out.2 (by omega)
        obtain ⟨b', o', c', ks, hk', hb', hc', hm', hrs⟩ := (HSK.out.below hB7w).2 i (by rw [HSL.out]; exact hisn)
        have ks7 := (hB7w.cell (p := ⟨bs, os + i, none⟩) hbsl).trans (hcs _ _ ks)
        have q07 : w7.cell? ⟨w.heap.size, 0, none⟩ = some (.slice (some ⟨bs, os, none⟩) sn sc) := by rw [← hSAe]; exact R7.h0
        have f07 := (hB7.cell (p := ⟨wr.heap.size, 0, none⟩) (World.block_lt_of_cell? _ _ f0)).trans f0
        have f17 := (hB7.cell (p := ⟨wr.heap.size, 1, none⟩) (World.block_lt_of_cell? _ _ f1)).trans f1
        have hiI : (i : Int) < (sn : Int) := by omega
        have hi0 : (0 : Int) ≤ (i : Int) := by omega
        obtain ⟨r, hA8⟩ : ∃ r, A8 = some ⟨r, 0, none⟩ := by
          rcases HO.out.2 with ⟨_, h2⟩ | ⟨g, cap, cur, h1, _⟩
          · omega
          · injection h1 with h1
            exact ⟨g, h1⟩
        subst hA8
        have ho7 := own_keep HO.out hBr7
        have hrlt := HO4.out.lt r rfl
        have hsv : i < vs.length := by have := ho7.1; omega
        have k5 := ho7.cells (g := r) rfl i _ (List.getElem?_eq_getElem hsv)
        rw [Addr.add_lit, Nat.zero_add] at k5
        have fz5 : w7.frozen? ⟨r, i, none⟩ = false := by obtain ⟨C, hC⟩ := own_tag ho7 (x := r) rfl; simp [World.frozen?, hC]
        have HRLT := Lib.hid hrlt
        have HO7 := Lib.hid ho7
        have HBR7 := Lib.hid hBr7
        have HB7 := Lib.hid hB7
        have HB7W := Lib.hid hB7w
        have HR7 := Lib.hid R7
        have HRS := Lib.hid hrs
        have HA10 := Lib.hid hA10
        have HR10 := Lib.hid hr10
        have H10N := Lib.hid h10n
        have HC' := Lib.hid hc'
        have HM' := Lib.hid hm'
        have HK' := Lib.hid hk'
        have HB' := Lib.hid hb'
        clear hB7 hB7w hBr7 R7 hcs hrs hr10 hA10 hc' hm' hk' hb' hSAe kd kdf f0 f1 z00 z01 z10 z11 y00 y01 y10 y11 ho7 hrlt ks h10n
        go_wp2
        go_loopw [11, 12] (fun v11 v12 wr2 => ∃ (m bq oq cq : Nat), m ≤ n10 ∧ (m : Int) ≤ max 0 0 ∧ v12 = .int .i64 m ∧ v11 = .slice (some ⟨bq, oq, none⟩) 512 cq ∧ (K bq ∧ bq < w.heap.size) ∧ bq < w7.heap.size ∧ 512 ≤ cq ∧ cq ≤ maxLen ∧ Rd w7 (some ⟨bq, oq, none⟩) 512 (wholeL (safe.getD i []) (fl i ls) m) ∧ w7 = wr2) (fun _ v12 _ => n10 - (intOf v12).toNat)
        case atStart => exact ⟨0, b', o', c', Nat.zero_le _, by omega, rfl, rfl, HK'.out, HB'.out, HC'.out, HM'.out, HRS.out, rfl⟩
        case round =>
          obtain ⟨m, bq, oq, cq, hmn, hmk, rfl, rfl, hkq, hbq, hcq, hmq, hrq, rfl⟩ := hrel
          have HKQ := Lib.hid hkq
          have HBQ := Lib.hid hbq
          have HRQ := Lib.hid hrq
          clear hkq hbq hrq
          have g0 : (0 : Int) ≤ (m : Int) := by omega
          by_cases hgo : m < n10 ∧ (m : Int) < 0
          · exact absurd hgo.2 (by omega)
          · have hmin : (min (max 0 0) ((fl i ls).length : Int)).toNat = m := by rw [H10N.out]; omega
            have HMIN := Lib.hid hmin
            clear hmin
            have hcr : crashN safe ls (fun n => fs.getD n (0, 0)) (j + 1) = (crashN safe ls (fun n => fs.getD n (0, 0)) j).set i (fatedL (safe.getD i []) (fl i ls) 0 0) := by
              show List.set _ _ _ = _
              simp only [HSL.out, ← HD.out, ← HI.out, HKT.out]
            have HCR := Lib.hid hcr
            clear hcr
            by_cases hlast : m < n10
            · have g1 : (m : Int) < (n10 : Int) := by omega
              have g2 : ¬ (m : Int) < 0 := fun h => hgo ⟨hlast, h⟩
              obtain ⟨bl, ol, hAl, _, hbl, hcl⟩ := HA10.out.2 (by omega)
              obtain ⟨b1', o1', c1', kl, _, _, hcl1, hcl2, hrl⟩ := HR10.out.2 m (by rw [H10N.out]; exact hlast)
              have kl' := hcl m _ kl
              subst hAl
              have HRL := Lib.hid hrl
              clear hcl kl hrl
              have s7 : w7.cell? ⟨bl, ol + m, none⟩ = some (.slice (some ⟨b1', o1', none⟩) 512 c1') ∧ w7.cell? ⟨wr.heap.size, 1, none⟩ = some (.int .i64 0) := ⟨kl', f17⟩
              have s7d : w7.drew.cell? ⟨bl, ol + m, none⟩ = some (.slice (some ⟨b1', o1', none⟩) 512 c1') ∧ w7.drew.cell? ⟨wr.heap.size, 1, none⟩ = some (.int .i64 0) := ⟨kl', f17⟩
              go_wp2_with fail
              go_region_held3 (fun w' => w'.cell? ⟨bl, ol + m, none⟩ = some (.slice (some ⟨b1', o1', none⟩) 512 c1') ∧ w'.cell? ⟨wr.heap.size, 1, none⟩ = some (.int .i64 0)) (first
                  | with_reducible exact s7
                  | with_reducible exact s7d
                  | with_reducible exact s8) (first
                | (go_at_call 45; refine (RTear_any _ _ _ _ _ _ _ _ _ w7.drew HRQ.out HRL.out HTZ.out).mono ?_; rintro e w8 ⟨v8, rfl, ho8, hB8⟩; have hB78 : Below w7.heap.size w7 w8 := ((Below.refl _ _).drew).trans hB8; have s8 : w8.cell? ⟨bl, ol + m, none⟩ = some (.slice (some ⟨b1', o1', none⟩) 512 c1') ∧ w8.cell? ⟨wr.heap.size, 1, none⟩ = some (.int .i64 0) := ⟨(hB78.cell (p := ⟨bl, ol + m, none⟩) hbl).trans kl', (hB78.cell (p := ⟨wr.heap.size, 1, none⟩) (World.block_lt_of_cell? _ _ f17)).trans f17⟩; obtain ⟨b8, c8', rfl⟩ : ∃ b c, v8 = .slice (some ⟨b, 0, none⟩) 512 c := (by rcases ho8.2 with ⟨h1, h2⟩ | ⟨g, cap, cur, h1, _⟩; exact absurd h2 (by decide); exact ⟨g, cap, h1⟩); have k58 := (hB78.cell (p := ⟨r, i, none⟩) (World.block_lt_of_cell? _ _ k5)).trans k5; have ho78 := own_keep HO7.out hB78; have fz58 : w8.frozen? ⟨r, i, none⟩ = false := (by obtain ⟨C, hC⟩ := own_tag ho78 (x := r) rfl; simp [World.frozen?, hC])))
              all_goals
                have HO8 := Lib.hid ho8
                have HO78 := Lib.hid ho78
                have HB78 := Lib.hid hB78
                clear ho8 ho78 hB78 hB8 s7 s7d s8
                go_wp2
                go_roundw
                case rel =>
                  obtain ⟨A7, c7, e7, hc7, hm7, hr7⟩ := Rd.of_own HO8.out rfl
                  cases e7
                  have hb8 := HO8.out.lt b8 rfl
                  have h8 : w7.heap.size ≤ b8 := hb8.1
                  rw [cut_self HRQ.out.1, cut_self HRL.out.1] at hr7
                  have hfat : fatedL (safe.getD i []) (fl i ls) 0 0 = tearL (wholeL (safe.getD i []) (fl i ls) m) ((fl i ls).getD m []) 0 := by
                    unfold fatedL
                    rw [HMIN.out]
                    simp only
                    rw [if_pos (by rw [H10N.out]; exact hlast)]
                    rfl
                  rw [← hfat] at hr7
                  have hs7 := HBR7.out.size
                  have hs4 := HF2.out.size
                  have h1 := ((HH.out.below HBR7.out).below HB78.out).set i b8 0 _ _ (.inr (by omega)) hb8.2 hc7 hm7 hr7
                  rw [← HCR.out] at h1
                  have hFs : Fr (· = r) w8 (w8.setCell ⟨r, i, none⟩ (.slice (some ⟨b8, 0, none⟩) 512 c8')) := Fr.setCell (own := (· = r)) w8 (p := ⟨r, i, none⟩) rfl _
                  have hr1 := HRLT.out
                  have hg2 := G2.out
                  have h2 := h1.lt.stays (w' := w8.setCell ⟨r, i, none⟩ (.slice (some ⟨b8, 0, none⟩) 512 c8')) ⟨hFs.size, fun x hx => hFs.block x hx.2 (fun e => by have e' : x = r := e; rcases hx.1 with h | h <;> omega)⟩
                  exact ⟨j + 1, _, hjn, by go_num, own_set HO78.out i _, h2.mono (fun x hx => hx.1), ((HF2.out.trans (Fr.ofBelow _ HBR7.out)).trans (Fr.ofBelow _ HB78.out)).trans (hFs.mono (fun x hx => by rw [show x = r from hx]; rfl))⟩
                case measure => simp [intOf]; omega
            · have g1 : ¬ (m : Int) < (n10 : Int) := by omega
              have hfat : fatedL (safe.getD i []) (fl i ls) 0 0 = wholeL (safe.getD i []) (fl i ls) m := by
                unfold fatedL
                rw [HMIN.out]
                simp only
                rw [if_neg (by rw [H10N.out]; omega)]
                rfl
              have HFAT := Lib.hid hfat
              clear hfat
              go_wp2
              go_roundw
              case rel =>
                have h1 := (HH.out.below HBR7.out).set i bq oq cq _ (.inl HKQ.out) HBQ.out hcq hmq HRQ.out
                rw [← HFAT.out, ← HCR.out] at h1
                have hFs : Fr (· = r) w7 (w7.setCell ⟨r, i, none⟩ (.slice (some ⟨bq, oq, none⟩) 512 cq)) := Fr.setCell (own := (· = r)) w7 (p := ⟨r, i, none⟩) rfl _
                have hr1 := HRLT.out
                have hg2 := G2.out
                have h2 := h1.lt.stays (w' := w7.setCell ⟨r, i, none⟩ (.slice (some ⟨bq, oq, none⟩) 512 cq)) ⟨hFs.size, fun x hx => hFs.block x hx.2 (fun e => by have e' : x = r := e; rcases hx.1 with h | h <;> omega)⟩
                exact ⟨j + 1, _, hjn, by go_num, own_set HO7.out i _, h2.mono (fun x hx => hx.1), (HF2.out.trans (Fr.ofBelow _ HBR7.out)).trans (hFs.mono (fun x hx => by rw [show x = r from hx]; rfl))⟩
              case measure => simp [intOf]; omega
    · have e : j = D.length := by omega
      subst e
      have q4 : wr.cell? ⟨w.heap.size, 4, none⟩ = some (.int .i64 rdd) := hRq.h4
      have q5 : wr.cell? ⟨w.heap.size, 5, none⟩ = some (.int .i64 wrr) := hRq.h5
      have HO := Lib.hid ho
      have HH := Lib.hid hH
      have HBR := Lib.hid hBr
      have HZ := Lib.hid hZq
      have hsr : w2.heap.size ≤ wr.heap.size := Nat.le_trans S24.out hF.size
      have hs4 : w2.heap.size ≤ w4.heap.size := S24.out
      have hB4s := HB4.out.size
      clear ho hH hBr hZq hRq hF hownlt
      go_wp2_with (first
        | (with_reducible refine wpList_stR (d' := ⟨A8, sn, c8, none, 0, 0, -1, false, rdd, wrr⟩) rfl (.tmp 4) (.tmp 83) rfl rfl rfl HZ.out ?_; intro w11 hR11 hF11))
      refine bodyPost_ret (res_R rfl rfl hR11) rfl ?_
      have g2 := G2.out
      have hBf : Below w.heap.size w w11 := HBR.out.trans (hF11.toBelow (fun x hx => by rw [show x = w.heap.size + 1 from hx]; omega) HBR.out.size)
      have k8 := own_fr HO.out hF11 (fun x hx e => by have := (HO.out.lt x hx).1; have e' : x = w.heap.size + 1 := e; omega)
      obtain ⟨A9, c9, e9, _, _, hA9⟩ := own_row k8
      cases e9
      have hH9 : HdS (fun x => (K x ∧ x < w.heap.size) ∨ w4.heap.size ≤ x) w11 vs (crashN safe ls (fun n => fs.getD n (0, 0)) D.length) := (HH.out.lt.stays ⟨hF11.size, fun x hx => hF11.block x hx.2 (fun e => by have e' : x = w.heap.size + 1 := e; rcases hx.1 with h | h <;> omega)⟩).mono (fun x hx => hx.1)
      refine ⟨A8, c8, rfl, ⟨vs, ?_, hA9.mono (fun x hx => .inr ⟨by omega, hx.2⟩), ?_⟩, hBf⟩
      · show (crashN _ _ _ _).length = sn
        rw [crashN_len, HSL.out]
      · show HdS _ _ _ (crashN safe ls _ (dirtyR safe.length ls).length)
        rw [HSL.out, ← HD.out]
        exact hH9.lt.mono (fun x hx => by rcases hx.1 with h | h; exact .inl h.1; exact .inr ⟨by omega, hx.2⟩)
end
end Go.Proofs.Ytieknelmfjkbhaa
