/- ScO, ScP, Seal10, Seal11, Seal12, SealT, ScQ, ScQ2, FrCo, ScR, ScT -/
import Derived.Test.YthabmlbmlncbmaaGreatQa1
import Derived.Test.YthabmlbmlncbmaaGreatQa3
import Derived.Test.YthabmlbmlncbmaaGreatQa4
import Derived.Test.YthabmlbmlncbmaaGreatQa5
import Derived.Test.YthabmlbmlncbmaaGreatQa7
import Derived.Test.YthabmlbmlncbmaaGreatQa11
import Derived.Test.YthabmlbmlncbmaaGreatQa12
import Derived.Test.YthabmlbmlncbmaaGreatQa15
import Derived.Test.YthabmlbmlncbmaaGreatQa16
import Derived.BigQuiet
namespace Go.Proofs.YthabmlbmlncbmaaGreat
open Go.RowKit
set_option linter.unusedVariables false
set_option maxRecDepth 20000
def trC (a x : List UInt8) (k : Int) : List UInt8 := tearL (cut 512 a) (cut 512 x) k
theorem own_some {w : World} {B e sz n : Nat} {v : Value} {vs : List Value} (h : w.ownsRow B e sz v n vs) (hn : 0 < n) : ∃ g c, v = .slice (some ⟨g, 0, none⟩) n c /\ B <= g /\ g < w.heap.size /\ n <= c /\ ∀ i, w.frozen? ⟨g, i, none⟩ = false := by
  rcases h.2 with ⟨_, h0⟩ | ⟨g, cap, cur, rfl, hB, hh, hc, _⟩
  · omega
  · exact ⟨g, cap, rfl, hB, (Array.getElem?_eq_some_iff.1 hh).1, hc, fun i => frozen_of_row _ _ _ _ _ hh⟩
section
variable {w wr w2 : World} {g n c : Nat} {out : List (List UInt8)} {vs : List Value} {D : Nat -> Prop}
theorem PcG.fz (h : PcG w wr (.slice (some ⟨g, 0, none⟩) n c) out vs D) (i : Nat) : wr.frozen? ⟨g, i, none⟩ = false := by
  rcases h.gr.ow.2 with ⟨h1, _⟩ | ⟨g', cap, cur, h1, hB, hh, hc, _⟩
  · cases h1
  · injection h1 with h1
    injection h1 with h1
    injection h1 with h1
    rw [h1]
    exact frozen_of_row _ _ _ _ _ hh
theorem PcG.cell (h : PcG w wr (.slice (some ⟨g, 0, none⟩) n c) out vs D) {k : Nat} {y : List UInt8} (hk : out[k]? = some y) : ∃ PA pm pc, wr.cell? ⟨g, k, none⟩ = some (.slice PA pm pc) /\ Rd wr PA pm y /\ pm <= pc := by
  obtain ⟨r, hr, ⟨PA, pm, pc, e, hv, hc⟩, hcell⟩ := h.gr.hd.at_ hk
  subst e
  have h0 := hcell 0 (by decide)
  rw [Nat.mul_one, Nat.add_zero] at h0
  have h1 := World.ownsRow.cells h.gr.ow (g := g) rfl k (.slice PA pm pc) h0
  rw [Addr.add_lit, Nat.zero_add] at h1
  obtain ⟨A2, m2, c2, e2, hr2, _⟩ := hv
  injection e2 with e3 e4 e5
  subst e3 e4 e5
  exact ⟨PA, pm, pc, h1, hr2, hc⟩
theorem PcG.set (h : PcG w wr (.slice (some ⟨g, 0, none⟩) n c) out vs D) (hb : Below wr.heap.size wr w2) {k : Nat} {x y : List UInt8} {A : Option Addr} {m c' : Nat} (hk : out[k]? = some y) (hr : Rd w2 A m x) (hc : m <= c') (hK : ∀ b o, A = some ⟨b, o, none⟩ -> 0 < m -> wr.heap.size <= b) :
    ∃ vs' D', PcG w (w2.setCell ⟨g, k, none⟩ (.slice A m c')) (.slice (some ⟨g, 0, none⟩) n c) (out.set k x) vs' D' /\ ∀ y, D' y -> D y \/ wr.heap.size <= y := by
  have h2 := h.below hb
  have hg := own_geB h.gr.ow (x := g) rfl
  have hF : Fr (· = g) w2 (w2.setCell ⟨g, k, none⟩ (.slice A m c')) := Fr.setCell (own := (· = g)) w2 (p := ⟨g, k, none⟩) rfl _
  have hst : ∀ y, (D y \/ (wr.heap.size <= y /\ y < w2.heap.size)) -> y < w2.heap.size /\ y ≠ g := fun y hy => by
    rcases hy with q | q
    · exact ⟨(h2.gr.dx y q).1, fun e => (h2.gr.dx y q).2 (by rw [e]; rfl)⟩
    · exact ⟨q.2, by omega⟩
  have st : WStays (fun y => D y \/ (wr.heap.size <= y /\ y < w2.heap.size)) w2 (w2.setCell ⟨g, k, none⟩ (.slice A m c')) := ⟨hF.size, fun y hy => hF.block y (hst y hy).1 (hst y hy).2⟩
  have hx : EPc (fun y => D y \/ (wr.heap.size <= y /\ y < w2.heap.size)) (w2.setCell ⟨g, k, none⟩ (.slice A m c')) x [.slice A m c'] :=
    EPc.ok.stays ⟨A, m, c', rfl, ⟨A, m, c', rfl, hr, fun b o e hm => by
      subst e
      have := rd_lt hr hm
      exact ⟨.inr ⟨hK b o rfl hm, this⟩, this⟩⟩, hc⟩ st
  have hd1 : HdL 1 (EPc (fun y => D y \/ (wr.heap.size <= y /\ y < w2.heap.size)) (w2.setCell ⟨g, k, none⟩ (.slice A m c'))) vs out := h2.gr.hd.imp fun _ _ hx => EPc.ok.stays (EPc.ok.mono hx fun _ hy => .inl hy) st
  have hd2 := hd1.set1 hk (i := 0) (by decide) (.slice A m c') (fun r hr _ => by
    match r, hr with
    | [_], _ => exact hx)
  rw [Nat.mul_one, Nat.add_zero] at hd2
  refine ⟨vs.set k (.slice A m c'), _, ⟨⟨Nat.le_trans h2.gr.Bw hF.size, ?_, hd2, fun y hy => ⟨Nat.lt_of_lt_of_le (hst y hy).1 hF.size, fun e => (hst y hy).2 (by injection e with e; exact e.symm)⟩⟩, h2.bel.trans (hF.toBelow (fun x e => by rw [e]; exact hg.1) h2.bel.size)⟩, fun y hy => hy.imp id (fun q => q.1)⟩
  have ow := h2.gr.ow
  have e : out.length = n := by
    rcases ow.2 with ⟨q1, _⟩ | ⟨g', cap, cur, q1, _⟩
    · cases q1
    · injection q1 with _ q2 _
      exact q2.symm
  rw [List.length_set]
  rw [e] at ow ⊢
  exact own_setC ow k _
end
theorem laidL_step {tr : List UInt8 -> List UInt8 -> Int -> List UInt8} {n : Int} {ks : List Int} {secs out : List (List UInt8)} {j : Nat} {x : List UInt8} (h : secs[j]? = some x) :
    laidL tr n ks j (secs.drop j) out = laidL tr n ks (j + 1) (secs.drop (j + 1)) (out.set ((n + (j : Nat)) % (out.length : Int)).toNat (tr (secAt out (n + (j : Nat))) x (ks.getD j 64))) := by
  have hj := (List.getElem?_eq_some_iff.1 h).1
  have e : secs.drop j = x :: secs.drop (j + 1) := by
    rw [List.drop_eq_getElem_cons hj]
    rw [List.getElem?_eq_getElem hj] at h
    rw [Option.some.inj h]
  rw [e]
  rfl
theorem tmod_idx {q lg : Int} {N k : Nat} (h0 : 0 <= q) (hl : (N : Int) = lg) (hk : q.tmod lg = (k : Int)) : (q % (N : Int)).toNat = k := by
  rw [hl]
  rw [Int.tmod_eq_emod_of_nonneg h0] at hk
  omega
section
variable (lg pg en gn : Int) (A : Option Addr) (n cap : Nat) (ks : List Kd) {K K2 : Nat -> Prop} (LA : Option Addr) (ln lc : Nat) (xs : List (List UInt8)) (SA : Option Addr) (sn sc : Nat) (secs : List (List UInt8)) (TA : Option Addr) (tn tc : Nat) (ts : List Int) (lsn : Int) (w : World)
set_option maxHeartbeats 4000000 in
theorem RLaid_any (hk : KRd w A n ks) (hp : PcsV K w LA ln xs) (hs : PcsV K2 w SA sn secs) (ht : IRdW w TA tn ts) (htn : tn <= 9223372036854775807) (hlg : (ln : Int) = lg) (h2 : 2 <= ln) (h20 : ln <= 1024) (hsn : sn <= 100000) (hl : 0 <= lsn /\ lsn <= 281474976710656) :
    Calls Tryz.prog 19 #[cv lg pg en gn A n cap, .slice LA ln lc, .int .i64 lsn, .slice SA sn sc, .slice TA tn tc] w fun e w' => ∃ A' c, e = .returned (.slice A' ln c) /\ PcsV (fun y => K y \/ w.heap.size <= y) w' A' ln (laidL trC lsn ts 0 secs xs) /\ ln <= c /\ Below w.heap.size w w' := by
  obtain ⟨w1, hw1⟩ : ∃ w1, w1 = w.alloc (.cells (cc lg pg en gn A n cap) 24) := ⟨_, rfl⟩
  have C1 := CAt.new hk lg pg en gn cap
  rw [<- hw1] at C1
  have K1 := hi_ C1
  have S1 := hi_ (hs.below C1.bel)
  have T1 := hi_ (ht.below C1.bel)
  have HXL := hi_ hp.len
  have HSL := hi_ hs.len
  have HTL := hi_ ht.1.1
  have HTR := hi_ ht.2
  have HLG := hi_ hlg
  obtain ⟨vs, _, hrow, hhd⟩ := hp.below C1.bel
  obtain ⟨w2, hw2⟩ : ∃ w2, w2 = w1.alloc (.cells #[] 42) := ⟨_, rfl⟩
  have ho2 : w2.ownsRow w1.heap.size 42 1 (.slice (some ⟨w1.heap.size, 0, none⟩) 0 0) 0 [] := by rw [hw2]; exact World.ownsRow_made w1 #[] 0 (Nat.le_refl _) (Nat.zero_le _) rfl
  have hb2 : Below w1.heap.size w1 w2 := by rw [hw2]; exact (Below.refl _ _).alloc (Nat.le_refl _) _
  have H2 := hi_ (And.intro ho2 hb2)
  have HR := hi_ (hrow.below hb2)
  have HH := hi_ hhd
  have HONE : Hid (∀ u ∈ vs, u.oneCell' = true) := hi_ (hhd.one fun x r hx => EPc.one hx)
  clear hk hp hs ht hlg C1 hrow hhd ho2 hb2
  go_enter Tryz.func19, Tryz.ntmps19
  go_wp2_with (first
    | (rw [<- hw1]; clear hw1)
    | (rw [<- hw2]; clear hw2)
    | (at_builtin; have _t := H2; refine wpList_appX (K := K) rowsT rfl (.tmp 15) (.tmp 16) rfl w1.heap.size (.slice (some ⟨w1.heap.size, 0, none⟩) 0 0) 0 [] rfl H2.out.1 LA ln lc vs rfl HR.out HONE.out (by omega) (by decide) H2.out.2.size ?_; intro v3 w3 ho3 hg3 hv3
       rw [Nat.zero_add, List.nil_append] at ho3
       obtain ⟨g, c3, rfl, hgB, hglt, hgc, _⟩ := own_some ho3 (by omega)
       have hb3 : Below w1.heap.size w1 w3 := H2.out.2.trans (below_own H2.out.1 H2.out.2.size hg3)
       have P3 : Hid (PcG w1 w3 (.slice (some ⟨g, 0, none⟩) ln c3) xs vs (fun y => K y /\ y < w1.heap.size)) := hi_ ⟨⟨hb3.size, by rw [HXL.out]; exact ho3, HH.out.imp fun _ _ hx => EPc.ok.mono (EPc.ok.stays (EPc.ok.lt hx) ⟨hb3.size, fun y hy => hb3.block y hy.2⟩) (fun _ hy => hy), fun y hy => ⟨Nat.lt_of_lt_of_le hy.2 hb3.size, fun e => absurd (show g = y by injection e) (by have := hy.2; omega)⟩⟩, hb3⟩
       have HGB := hi_ (And.intro hgB hgc)
       clear ho3 hg3 hv3 hgB hglt hgc hb3 H2))
  go_loopw [12] (fun iv wr => ∃ (j : Nat) (out : List (List UInt8)) (vs : List Value) (D : Nat -> Prop), j <= sn /\ iv = .int .i64 j /\ Hid (PcG w1 wr (.slice (some ⟨g, 0, none⟩) ln c3) out vs D) /\ Hid (laidL trC lsn ts 0 secs xs = laidL trC lsn ts j (secs.drop j) out /\ out.length = ln) /\ Hid (∀ y, D y -> K y \/ w.heap.size <= y)) (fun iv _ => sn - (intOf iv).toNat)
  case atStart => exact ⟨0, xs, vs, _, Nat.zero_le _, rfl, P3, hi_ ⟨by rw [List.drop_zero], HXL.out⟩, hi_ (fun y hy => .inl hy.1)⟩
  case round =>
    obtain ⟨j, out, vs', D, hj, rfl, HI, HE, HDK⟩ := hrel
    by_cases hjs : j < sn
    · obtain ⟨x, hx⟩ : ∃ x, secs[j]? = some x := ⟨_, List.getElem?_eq_getElem (by rw [HSL.out]; exact hjs)⟩
      obtain ⟨sb, so, QA, qm, qc, rfl, hsb, hscell, hsr, hsc, _⟩ := S1.out.cell hx
      have hscell2 : wr.cell? ⟨sb, so + j, none⟩ = some (.slice QA qm qc) := (HI.out.bel.cell (p := ⟨sb, so + j, none⟩) hsb).trans hscell
      have hsr2 := hsr.below (Nat.le_refl _) HI.out.bel
      have K9 := hi_ (K1.out.next HI.out.bel)
      have kc0 := K9.out.c0
      obtain ⟨qj, hqj⟩ : ∃ qj, qj = lsn + (j : Int) := ⟨_, rfl⟩
      have hqr : 0 <= qj := by omega
      obtain ⟨k, hk, hkl, hok⟩ := secAt_idx (xs := out) (n := qj) (lg := lg) hqr (by rw [HE.out.2]; exact HLG.out) (by have := HLG.out; omega)
      rw [HE.out.2] at hkl
      obtain ⟨PA, pm, pc, hocell, hor, hoc⟩ := HI.out.cell hok
      have hfz := HI.out.fz k
      obtain ⟨kk, hkk⟩ : ∃ kk, kk = qj.tmod lg := ⟨_, rfl⟩
      have t1 : qj.tmod lg = kk := hkk.symm
      have t2 : 0 <= kk := by omega
      have t3 : kk < (ln : Int) := by omega
      have t4 : kk.toNat = k := by omega
      have t5 : lg ≠ 0 := by have := HLG.out; omega
      have q1 : lsn + (j : Int) = qj := hqj.symm
      have q2 : wrap64 qj = qj := by unfold wrap64; omega
      have q3 : IntKind.i64.wrap qj = qj := by rw [wrapEq]; exact q2
      obtain ⟨z, hz⟩ : ∃ z, z = ts.getD j 64 := ⟨_, rfl⟩
      have hzr : -9223372036854775808 <= z /\ z <= 9223372036854775807 := by
        rw [hz, List.getD_eq_getElem?_getD]
        by_cases hjt : j < ts.length
        · rw [List.getElem?_eq_getElem hjt]
          exact HTR.out _ (List.getElem_mem hjt)
        · rw [List.getElem?_eq_none (by omega)]
          simp
      obtain ⟨y, hy⟩ : ∃ y, y = secAt out qj := ⟨_, rfl⟩
      rw [<- hy] at hok hor
      have HST : Hid (laidL trC lsn ts 0 secs xs = laidL trC lsn ts (j + 1) (secs.drop (j + 1)) (out.set k (trC y x z))) := hi_ (by
        rw [HE.out.1, laidL_step hx, <- hqj, <- hy, <- hz, tmod_idx hqr (by rw [HE.out.2]; exact HLG.out) hk])
      have CT := hi_ (RTear_any PA QA pm pc qm qc y x z wr.drew hor.drew hsr2.drew hzr)
      have R9 := hi_ (And.intro hok (And.intro hsb HGB.out.1))
      have s0 : wr.drew.cell? ⟨sb, so + j, none⟩ = some (.slice QA qm qc) := hscell2
      have d0 : wr.drew.cell? ⟨g, k, none⟩ = some (.slice PA pm pc) := hocell
      have HS0 := hi_ s0
      have HD0 := hi_ d0
      have HFZ := hi_ hfz
      have HZ := hi_ hz
      have hOL := hi_ HE.out.2
      clear hx hsb hscell hsr hsc hscell2 hsr2 hqj hok hor hoc hocell hfz hkk hz hzr hy s0 d0 hk
      by_cases hjt : j < tn
      · obtain ⟨tb, tz, rfl, htb, htc⟩ := T1.out.1.2 (by omega)
        have htcell : wr.cell? ⟨tb, tz + j, none⟩ = some (.int .i64 z) := by
          refine ((HI.out.bel.cell (p := ⟨tb, tz + j, none⟩) htb).trans (htc j (by rw [HTL.out]; exact hjt))).trans ?_
          rw [HZ.out, List.getD_eq_getElem?_getD, List.getD_eq_getElem?_getD, List.getElem?_eq_getElem (by rw [HTL.out]; exact hjt)]
          rfl
        clear htc htb
        go_upto_region 9 with fail
        refine wp_region_noPanic ?_
        refine wp_region_held_drew (S := fun W => W.cell? ⟨sb, so + j, none⟩ = some (.slice QA qm qc)) (by kernel_rfl) HS0.out (fun hHeld => ?_)
        have d0 := HD0.out
        refine tj_ 0 ⟨some 38, .move (.tmp 11), 25, "ref.go:93", #[], none⟩ hHeld (h := ?_)
        refine tj_ 1 ⟨some 39, .move (.tmp 14), 3, "ref.go:93", #[], none⟩ hHeld (h := ?_)
        refine tj_ 2 ⟨some 40, .move (.tmp 11), 25, "ref.go:93", #[], none⟩ hHeld (h := ?_)
        refine tj_ 3 ⟨some 41, .move (.tmp 14), 3, "ref.go:93", #[], none⟩ hHeld (h := ?_)
        refine tj_ 4 ⟨some 42, .indexAddr 25 (.tmp 40) (.tmp 41), 0, "ref.go:93", #[⟨2, .data⟩, ⟨3, .data⟩], none⟩ hHeld (h := ?_)
        refine tj_ 6 ⟨some 44, .move (.tmp 3), 25, "ref.go:93", #[], none⟩ hHeld (h := ?_)
        refine tj_ 7 ⟨some 45, .move (.tmp 12), 3, "ref.go:93", #[], none⟩ hHeld (h := ?_)
        refine tj_ 8 ⟨some 46, .indexAddr 25 (.tmp 44) (.tmp 45), 0, "ref.go:93", #[⟨6, .data⟩, ⟨7, .data⟩], none⟩ hHeld (h := ?_)
        refine tj_ 9 ⟨some 47, .load 42 (.tmp 46), 42, "ref.go:93", #[⟨8, .data⟩], none⟩ hHeld (h := ?_)
        refine tj_ 10 ⟨some 48, .move (.tmp 13), 3, "ref.go:93", #[], none⟩ hHeld (h := ?_)
        refine wpAnyH_ready (rs := [5]) (by kernel_rfl) (by simp) ?_
        refine AllReadyH.cons (o := ⟨some 43, .load 42 (.tmp 42), 42, "ref.go:93", #[⟨4, .data⟩], none⟩) rfl (fun K' hK => ?_) AllReadyH.nil
        go_simp
        refine hK.out _ _ HS0.out (fun hHeld => ?_)
        clear hK K'
        try simp only [Act.put, sA_, sB_, sC_]
        refine wpAnyH_ready (rs := [11]) (by kernel_rfl) (by simp) ?_
        refine AllReadyH.cons (o := ⟨some 49, .call { callee := .value (.func 35), args := #[.tmp 43, .tmp 47, .tmp 48], argTypes := #[42, 42, 3] }, 42, "ref.go:93", #[⟨5, .data⟩, ⟨9, .data⟩, ⟨10, .data⟩], none⟩) rfl (fun K' hK => ?_) AllReadyH.nil
        go_simp
        go_at_call 35; refine CT.out.mono ?_; rintro e w5 ⟨v5, rfl, ho5, hb5⟩
        obtain ⟨A5, c5, rfl, hc5, _, hr5⟩ := Rd.of_own ho5 rfl
        have hb5' : Below wr.heap.size wr w5 := (show Below wr.heap.size wr wr.drew from (Below.refl _ _).drew).trans hb5
        have s5 : w5.cell? ⟨sb, so + j, none⟩ = some (.slice QA qm qc) := (hb5'.cell (p := ⟨sb, so + j, none⟩) (by have h1 := R9.out.2.1; have h2 := HI.out.bel.size; show sb < wr.heap.size; omega)).trans HS0.out
        have P5 := hi_ (HI.out.below hb5')
        have f5 : w5.frozen? ⟨g, k, none⟩ = false := P5.out.fz k
        obtain ⟨PA5, pm5, pc5, d5, _, _⟩ := P5.out.cell R9.out.1
        have R5 := hi_ (And.intro hb5' (And.intro hr5 (And.intro hc5 (show ∀ b o, A5 = some ⟨b, o, none⟩ -> 0 < 512 -> wr.heap.size <= b from fun b o e _ => own_block ho5 e))))
        have HS5 := hi_ s5
        clear ho5 hb5 hb5' hr5 hc5 s5
        refine hK.out _ _ HS5.out (fun hHeld => ?_)
        clear hK K'
        try simp only [Act.put, sA_, sB_, sC_]
        refine tj_ 12 ⟨some 50, .indexAddr 25 (.tmp 38) (.tmp 39), 0, "ref.go:93", #[⟨0, .data⟩, ⟨1, .data⟩, ⟨0, .phase⟩, ⟨1, .phase⟩, ⟨2, .phase⟩, ⟨3, .phase⟩, ⟨4, .phase⟩, ⟨5, .phase⟩, ⟨6, .phase⟩, ⟨7, .phase⟩, ⟨8, .phase⟩, ⟨9, .phase⟩, ⟨10, .phase⟩, ⟨11, .phase⟩], none⟩ hHeld (h := ?_)
        refine wpAnyH_ready (rs := [13]) (by kernel_rfl) (by simp) ?_
        refine AllReadyH.cons (o := ⟨none, .store 42 (.tmp 50) (.tmp 49), 0, "ref.go:93", #[⟨12, .data⟩, ⟨11, .data⟩, ⟨11, .chain⟩, ⟨0, .phase⟩, ⟨1, .phase⟩, ⟨2, .phase⟩, ⟨3, .phase⟩, ⟨4, .phase⟩, ⟨5, .phase⟩, ⟨6, .phase⟩, ⟨7, .phase⟩, ⟨8, .phase⟩, ⟨9, .phase⟩, ⟨10, .phase⟩, ⟨11, .phase⟩], none⟩) rfl (fun K' hK => ?_) AllReadyH.nil
        go_simp
        refine hK.out _ _ ((World.cell?_of_block ((Fr.setCell (own := (· = g)) w5 (p := ⟨g, k, none⟩) rfl (.slice A5 512 c5)).block sb (World.block_lt_of_cell? w5 _ HS5.out) (by have h1 := R9.out.2.1; have h2 := R9.out.2.2; omega))).trans HS5.out) (fun hHeld => ?_)
        clear hK K'
        try simp only [Act.put]
        refine wpAnyH_done (by kernel_rfl) ?_ _
        refine NoPanic.normal ?_
        clear hHeld
        obtain ⟨vs9, D9, h9, hD9⟩ := HI.out.set R5.out.1 R9.out.1 R5.out.2.1 R5.out.2.2.1 R5.out.2.2.2
        go_wp2
        go_roundw
        case rel => exact ⟨j + 1, _, vs9, D9, hjs, by go_num, hi_ h9, hi_ ⟨HST.out, by rw [List.length_set]; exact hOL.out⟩, hi_ (fun y hy => (hD9 y hy).elim (HDK.out y) (fun q => .inr (Nat.le_trans K1.out.bel.size (Nat.le_trans HI.out.bel.size q))))⟩
        case measure => simp [intOf]; omega
      · have hz64 : z = 64 := by rw [HZ.out, List.getD_eq_getElem?_getD, List.getElem?_eq_none (by rw [HTL.out]; omega)]; rfl
        subst hz64
        go_upto_region 9 with fail
        refine wp_region_noPanic ?_
        refine wp_region_held_drew (S := fun W => W.cell? ⟨sb, so + j, none⟩ = some (.slice QA qm qc)) (by kernel_rfl) HS0.out (fun hHeld => ?_)
        have d0 := HD0.out
        refine tj_ 0 ⟨some 38, .move (.tmp 11), 25, "ref.go:93", #[], none⟩ hHeld (h := ?_)
        refine tj_ 1 ⟨some 39, .move (.tmp 14), 3, "ref.go:93", #[], none⟩ hHeld (h := ?_)
        refine tj_ 2 ⟨some 40, .move (.tmp 11), 25, "ref.go:93", #[], none⟩ hHeld (h := ?_)
        refine tj_ 3 ⟨some 41, .move (.tmp 14), 3, "ref.go:93", #[], none⟩ hHeld (h := ?_)
        refine tj_ 4 ⟨some 42, .indexAddr 25 (.tmp 40) (.tmp 41), 0, "ref.go:93", #[⟨2, .data⟩, ⟨3, .data⟩], none⟩ hHeld (h := ?_)
        refine tj_ 6 ⟨some 44, .move (.tmp 3), 25, "ref.go:93", #[], none⟩ hHeld (h := ?_)
        refine tj_ 7 ⟨some 45, .move (.tmp 12), 3, "ref.go:93", #[], none⟩ hHeld (h := ?_)
        refine tj_ 8 ⟨some 46, .indexAddr 25 (.tmp 44) (.tmp 45), 0, "ref.go:93", #[⟨6, .data⟩, ⟨7, .data⟩], none⟩ hHeld (h := ?_)
        refine tj_ 9 ⟨some 47, .load 42 (.tmp 46), 42, "ref.go:93", #[⟨8, .data⟩], none⟩ hHeld (h := ?_)
        refine tj_ 10 ⟨some 48, .move (.tmp 13), 3, "ref.go:93", #[], none⟩ hHeld (h := ?_)
        refine wpAnyH_ready (rs := [5]) (by kernel_rfl) (by simp) ?_
        refine AllReadyH.cons (o := ⟨some 43, .load 42 (.tmp 42), 42, "ref.go:93", #[⟨4, .data⟩], none⟩) rfl (fun K' hK => ?_) AllReadyH.nil
        go_simp
        refine hK.out _ _ HS0.out (fun hHeld => ?_)
        clear hK K'
        try simp only [Act.put, sA_, sB_, sC_]
        refine wpAnyH_ready (rs := [11]) (by kernel_rfl) (by simp) ?_
        refine AllReadyH.cons (o := ⟨some 49, .call { callee := .value (.func 35), args := #[.tmp 43, .tmp 47, .tmp 48], argTypes := #[42, 42, 3] }, 42, "ref.go:93", #[⟨5, .data⟩, ⟨9, .data⟩, ⟨10, .data⟩], none⟩) rfl (fun K' hK => ?_) AllReadyH.nil
        go_simp
        go_at_call 35; refine CT.out.mono ?_; rintro e w5 ⟨v5, rfl, ho5, hb5⟩
        obtain ⟨A5, c5, rfl, hc5, _, hr5⟩ := Rd.of_own ho5 rfl
        have hb5' : Below wr.heap.size wr w5 := (show Below wr.heap.size wr wr.drew from (Below.refl _ _).drew).trans hb5
        have s5 : w5.cell? ⟨sb, so + j, none⟩ = some (.slice QA qm qc) := (hb5'.cell (p := ⟨sb, so + j, none⟩) (by have h1 := R9.out.2.1; have h2 := HI.out.bel.size; show sb < wr.heap.size; omega)).trans HS0.out
        have P5 := hi_ (HI.out.below hb5')
        have f5 : w5.frozen? ⟨g, k, none⟩ = false := P5.out.fz k
        obtain ⟨PA5, pm5, pc5, d5, _, _⟩ := P5.out.cell R9.out.1
        have R5 := hi_ (And.intro hb5' (And.intro hr5 (And.intro hc5 (show ∀ b o, A5 = some ⟨b, o, none⟩ -> 0 < 512 -> wr.heap.size <= b from fun b o e _ => own_block ho5 e))))
        have HS5 := hi_ s5
        clear ho5 hb5 hb5' hr5 hc5 s5
        refine hK.out _ _ HS5.out (fun hHeld => ?_)
        clear hK K'
        try simp only [Act.put, sA_, sB_, sC_]
        refine tj_ 12 ⟨some 50, .indexAddr 25 (.tmp 38) (.tmp 39), 0, "ref.go:93", #[⟨0, .data⟩, ⟨1, .data⟩, ⟨0, .phase⟩, ⟨1, .phase⟩, ⟨2, .phase⟩, ⟨3, .phase⟩, ⟨4, .phase⟩, ⟨5, .phase⟩, ⟨6, .phase⟩, ⟨7, .phase⟩, ⟨8, .phase⟩, ⟨9, .phase⟩, ⟨10, .phase⟩, ⟨11, .phase⟩], none⟩ hHeld (h := ?_)
        refine wpAnyH_ready (rs := [13]) (by kernel_rfl) (by simp) ?_
        refine AllReadyH.cons (o := ⟨none, .store 42 (.tmp 50) (.tmp 49), 0, "ref.go:93", #[⟨12, .data⟩, ⟨11, .data⟩, ⟨11, .chain⟩, ⟨0, .phase⟩, ⟨1, .phase⟩, ⟨2, .phase⟩, ⟨3, .phase⟩, ⟨4, .phase⟩, ⟨5, .phase⟩, ⟨6, .phase⟩, ⟨7, .phase⟩, ⟨8, .phase⟩, ⟨9, .phase⟩, ⟨10, .phase⟩, ⟨11, .phase⟩], none⟩) rfl (fun K' hK => ?_) AllReadyH.nil
        go_simp
        refine hK.out _ _ ((World.cell?_of_block ((Fr.setCell (own := (· = g)) w5 (p := ⟨g, k, none⟩) rfl (.slice A5 512 c5)).block sb (World.block_lt_of_cell? w5 _ HS5.out) (by have h1 := R9.out.2.1; have h2 := R9.out.2.2; omega))).trans HS5.out) (fun hHeld => ?_)
        clear hK K'
        try simp only [Act.put]
        refine wpAnyH_done (by kernel_rfl) ?_ _
        refine NoPanic.normal ?_
        clear hHeld
        obtain ⟨vs9, D9, h9, hD9⟩ := HI.out.set R5.out.1 R9.out.1 R5.out.2.1 R5.out.2.2.1 R5.out.2.2.2
        go_wp2
        go_roundw
        case rel => exact ⟨j + 1, _, vs9, D9, hjs, by go_num, hi_ h9, hi_ ⟨HST.out, by rw [List.length_set]; exact hOL.out⟩, hi_ (fun y hy => (hD9 y hy).elim (HDK.out y) (fun q => .inr (Nat.le_trans K1.out.bel.size (Nat.le_trans HI.out.bel.size q))))⟩
        case measure => simp [intOf]; omega
    · obtain rfl : j = sn := by omega
      go_wp2
      go_ret
      obtain ⟨A9, c9, he, hc9, _, hv9⟩ := HI.out.gr.rows EPc.ok
      have he1 := HE.out.1
      rw [List.drop_of_length_le (by rw [HSL.out]; exact Nat.le_refl _)] at he1
      rw [HE.out.2] at he hv9 hc9
      have hv9' : PcsV (fun y => K y \/ w.heap.size <= y) wr A9 ln out := PcsV.mono (K := fun x => D x \/ (w1.heap.size <= x /\ x < wr.heap.size)) hv9 (fun y hy => hy.elim (HDK.out y) (fun q => .inr (Nat.le_trans K1.out.bel.size q.1)))
      exact ⟨A9, c9, by rw [<- he]; rfl, by rw [he1]; exact hv9', hc9, K1.out.bel.trans (HI.out.bel.mono K1.out.bel.size)⟩
end
end Go.Proofs.YthabmlbmlncbmaaGreat
namespace Go.Proofs.YthabmlbmlncbmaaGreat
open Go.RowKit
set_option linter.unusedVariables false
set_option maxRecDepth 20000
theorem secsOf_cons (more n s : Int) (b : List UInt8) (bs : List (List UInt8)) : (secsOf more n s (b :: bs)).length = needN b.length + (secsOf more (n + (needN b.length : Nat)) (s + 1) bs).length := by
  simp only [secsOf, List.length_append, sealedL_len]
theorem sealedL_get {more n s : Int} {b : List UInt8} {i : Nat} (h : i < needN b.length) : (sealedL more n s b)[i]? = some (sectorOf more (n + (i : Nat)) 1 (piece (needN b.length) s b i)) := by
  have := sealedL_at (more := more) (n := n) (s := s) h []
  rwa [List.append_nil] at this
section
variable (lg pg en gn : Int) (A : Option Addr) (n cap : Nat) (ks : List Kd) {K K2 : Nat -> Prop} (LA : Option Addr) (ln lc : Nat) (xs : List (List UInt8)) (RA : Option Addr) (rn rc : Nat) (recs : List (List UInt8)) (more lsn sq : Int) (w : World)
set_option maxHeartbeats 4000000 in
theorem RCame_any (hk : KRd w A n ks) (hp : PcsV K w LA ln xs) (hs : PcsV K2 w RA rn recs) (hlg : (ln : Int) = lg) (h2 : 2 <= ln) (h20 : ln <= 1024) (hrn : rn <= 1000) (hl : 0 <= lsn) (hU : lsn + (secsOf more lsn sq recs).length <= 562949953421312) (hq : 0 <= sq /\ sq + rn <= 281474976710656) (hb : ∀ b ∈ recs, b.length <= 100000) :
    Calls Tryz.prog 20 #[cv lg pg en gn A n cap, .slice LA ln lc, .int .i64 more, .int .i64 lsn, .int .i64 sq, .slice RA rn rc] w fun e w' => e = .returned (.int .i64 ((cameL xs more lsn sq recs : Nat) : Int)) /\ Below w.heap.size w w' := by
  obtain ⟨w1, hw1⟩ : ∃ w1, w1 = w.alloc (.cells (cc lg pg en gn A n cap) 24) := ⟨_, rfl⟩
  have C1 := CAt.new hk lg pg en gn cap
  rw [<- hw1] at C1
  have K1 := hi_ C1
  have P1 := hi_ (hp.below C1.bel)
  have S1 := hi_ (hs.below C1.bel)
  have HXL := hi_ hp.len
  have HSL := hi_ hs.len
  have HLG := hi_ hlg
  have HBL := hi_ hb
  have HUU := hi_ hU
  clear hk hp hs hlg C1 hb hU
  go_enter Tryz.func20, Tryz.ntmps20
  go_wp2_with (rw [<- hw1]; clear hw1)
  go_loopw [3, 13] (fun lv iv wr => ∃ (j : Nat) (q : Int), j <= rn /\ iv = .int .i64 j /\ lv = .int .i64 q /\ 0 <= q /\ Hid (cameL xs more lsn sq recs = j + cameL xs more q (sq + j) (recs.drop j)) /\ Hid (q + (secsOf more q (sq + j) (recs.drop j)).length <= 562949953421312) /\ Hid (Below w1.heap.size w1 wr)) (fun _ iv _ => rn - (intOf iv).toNat)
  case atStart => exact ⟨0, lsn, Nat.zero_le _, rfl, rfl, hl, hi_ (by simp), hi_ (by simpa using HUU.out), hi_ (Below.refl _ _)⟩
  case round =>
    obtain ⟨j, q, hj, rfl, rfl, hq0, HE, HU, HB⟩ := hrel
    by_cases hjr : j < rn
    · obtain ⟨b, hbj⟩ : ∃ b, recs[j]? = some b := ⟨_, List.getElem?_eq_getElem (by rw [HSL.out]; exact hjr)⟩
      obtain ⟨rb, ro, BA, bm, bc, rfl, hrb, hrcell, hbr, hbc, _⟩ := (S1.out.below HB.out).cell hbj
      have hblen := HBL.out b (List.mem_of_getElem? hbj)
      have hdrop : recs.drop j = b :: recs.drop (j + 1) := by
        have hjl : j < recs.length := by rw [HSL.out]; exact hjr
        rw [List.drop_eq_getElem_cons hjl]
        rw [List.getElem?_eq_getElem hjl] at hbj
        rw [Option.some.inj hbj]
      have HD := hi_ hdrop
      obtain ⟨m, hm⟩ : ∃ m, m = needN b.length := ⟨_, rfl⟩
      have HMN := hi_ hm
      have hu2 : q + (m : Int) + ((secsOf more (q + (m : Nat)) (sq + j + 1) (recs.drop (j + 1))).length : Nat) <= 562949953421312 := by
        have h1 := HU.out
        rw [HD.out, secsOf_cons, <- hm] at h1
        omega
      have HU2 := hi_ hu2
      have hqm : q + (m : Int) <= 562949953421312 := by omega
      obtain ⟨sj, hsj⟩ : ∃ sj, sj = sq + (j : Int) := ⟨_, rfl⟩
      have f1 : sq + (j : Int) = sj := hsj.symm
      have f2 : wrap64 sj = sj := by unfold wrap64; omega
      have f3 : IntKind.i64.wrap sj = sj := by rw [wrapEq]; exact f2
      have HSJ := hi_ hsj
      have CS := hi_ (RSealed_any BA bm bc b more q sj wr hbr hbc (by have := hbr.1; omega) (by omega) (by omega))
      have H0 := hi_ hq0
      have HW := hi_ HB.out.size
      clear hbj hrb hbr hbc hblen hdrop hm hu2 hsj
      go_wp2_with (go_at_call 17; refine CS.out.mono ?_; rintro e w2 ⟨lv2, vs2, D2, rfl, hp2, _⟩)
      obtain ⟨S2, c2, rfl, hc2, _, hv2⟩ := hp2.done
      have hb12 : Below w1.heap.size w1 w2 := HB.out.trans (hp2.bel.mono HB.out.size)
      rw [sealedL_len, <- HMN.out] at hv2 hc2 ⊢
      have HV2 := hi_ hv2
      have HB2 := hi_ hb12
      clear hp2 hv2 hb12 hc2 CS hrcell
      obtain ⟨wy0, hwy0⟩ : ∃ wy0, wy0 = w2 := ⟨_, rfl⟩
      rw [<- hwy0] at HV2 HB2 ⊢
      clear hwy0
      go_loopw [15] (fun kv wr => ∃ k : Nat, k <= m /\ kv = .int .i64 k /\ Hid (∀ i : Nat, i < k -> secAt xs (q + (i : Nat)) = sectorOf more (q + (i : Nat)) 1 (piece m sj b i)) /\ Hid (Below wy0.heap.size wy0 wr)) (fun kv _ => m - (intOf kv).toNat)
      case atStart => exact ⟨0, Nat.zero_le _, rfl, hi_ fun i hi => absurd hi (Nat.not_lt_zero _), hi_ (Below.refl _ _)⟩
      case round =>
        obtain ⟨k, hk, rfl, HA, HY⟩ := hrel
        have HBY := hi_ (HB2.out.trans (HY.out.mono HB2.out.size))
        by_cases hkm : k < m
        · have hget := sealedL_get (more := more) (n := q) (s := sj) (b := b) (i := k) (by rw [<- HMN.out]; exact hkm)
          obtain ⟨tb, tz, QA, qm, qc, rfl, htb, htcell, htr, _, _⟩ := (HV2.out.below HY.out).cell hget
          obtain ⟨qk, hqk⟩ : ∃ qk, qk = q + (k : Int) := ⟨_, rfl⟩
          have hqkr : 0 <= qk := by omega
          obtain ⟨i, hi, hil, hix⟩ := secAt_idx (xs := xs) (n := qk) (lg := lg) hqkr (by rw [HXL.out]; exact HLG.out) (by have := HLG.out; omega)
          rw [HXL.out] at hil
          obtain ⟨lb, lo, PA, pm, pc, rfl, hlb, hlcell, hlr, _, _⟩ := (P1.out.below HBY.out).cell hix
          have kc0 := (K1.out.next HBY.out).c0
          obtain ⟨kk, hkk⟩ : ∃ kk, kk = qk.tmod lg := ⟨_, rfl⟩
          have t1 : qk.tmod lg = kk := hkk.symm
          have t2 : 0 <= kk := by omega
          have t3 : kk < (ln : Int) := by omega
          have t4 : kk.toNat = i := by omega
          have t5 : lg ≠ 0 := by have := HLG.out; omega
          have q1 : q + (k : Int) = qk := hqk.symm
          have q2 : wrap64 qk = qk := by unfold wrap64; omega
          have q3 : IntKind.i64.wrap qk = qk := by rw [wrapEq]; exact q2
          obtain ⟨x, hx⟩ : ∃ x, x = secAt xs qk := ⟨_, rfl⟩
          obtain ⟨y, hy⟩ : ∃ y, y = sectorOf more qk 1 (piece m sj b k) := ⟨_, rfl⟩
          rw [<- hqk, <- HMN.out, <- hy] at htr
          rw [<- hx] at hlr
          have HQK := hi_ hqk
          have HX := hi_ hx
          have HYY := hi_ hy
          have R9 := hi_ (And.intro hlr htr)
          clear hget htb htr hqk hil hix hlb hlr hkk hx hy hi
          by_cases hxy : x = y
          · have CM := hi_ (fun W (h1 : Rd W PA pm x) (h2 : Rd W QA qm y) => Same_any PA QA pm pc qm qc x y W h1 h2)
            have HXY := hi_ hxy
            rw [decide_eq_true hxy] at CM
            clear hxy
            go_upto_region 8 with fail
            go_quiet ((go_at_call 24; exact Calls.quiet_of_same ((CM.out _ (R9.out.1.below (Nat.le_refl _) (below_drewNc _ _)) (R9.out.2.below (Nat.le_refl _) (below_drewNc _ _))).mono fun _ _ ⟨he, hw⟩ => ⟨he, hw.symm⟩)))
            go_wp2
            go_roundw
            case rel => exact ⟨k + 1, hkm, by go_num, hi_ (fun i hi => by
              by_cases hik : i < k
              · exact HA.out i hik
              · obtain rfl : i = k := by omega
                rw [<- HQK.out, <- HX.out, <- HYY.out]; exact HXY.out), hi_ (HY.out.trans ((below_drewNc _ _).mono HY.out.size))⟩
            case measure => simp [intOf]; omega
          · have CM := hi_ (fun W (h1 : Rd W PA pm x) (h2 : Rd W QA qm y) => Same_any PA QA pm pc qm qc x y W h1 h2)
            rw [decide_eq_false hxy] at CM
            have HNO : Hid (¬ CameB xs more q sj b) := hi_ (fun h => hxy (by rw [HX.out, HYY.out, HQK.out]; have h1 := h k (by rw [<- HMN.out]; exact hkm); rw [<- HMN.out] at h1; exact h1))
            clear hxy
            go_upto_region 8 with fail
            go_quiet ((go_at_call 24; exact Calls.quiet_of_same ((CM.out _ (R9.out.1.below (Nat.le_refl _) (below_drewNc _ _)) (R9.out.2.below (Nat.le_refl _) (below_drewNc _ _))).mono fun _ _ ⟨he, hw⟩ => ⟨he, hw.symm⟩)))
            go_wp2
            go_ret
            refine ⟨?_, K1.out.bel.trans ((HBY.out.trans ((below_drewNc _ _).mono HBY.out.size)).mono K1.out.bel.size)⟩
            have h1 := HE.out
            rw [HD.out, <- HSJ.out, cameL_no HNO.out, Nat.add_zero] at h1
            rw [h1]
            rfl
        · obtain rfl : k = m := by omega
          have HYES : Hid (CameB xs more q sj b) := hi_ (fun i hi => by rw [<- HMN.out] at hi ⊢; exact HA.out i hi)
          obtain ⟨qm, hqm2⟩ : ∃ qm, qm = q + (k : Int) := ⟨_, rfl⟩
          have q1 : q + (k : Int) = qm := hqm2.symm
          have q2 : wrap64 qm = qm := by unfold wrap64; omega
          have q3 : IntKind.i64.wrap qm = qm := by rw [wrapEq]; exact q2
          have HQM := hi_ hqm2
          clear hqm2
          go_wp2
          go_roundw
          case rel => exact ⟨j + 1, qm, hjr, by go_num, rfl, by have := H0.out; omega, hi_ (by
              have h1 := HE.out
              rw [HD.out, <- HSJ.out, cameL_yes HYES.out, <- HMN.out, <- HQM.out] at h1
              rw [h1, show sq + ((j + 1 : Nat) : Int) = sj + 1 by rw [HSJ.out]; omega]
              omega), hi_ (by
              have h1 := HU2.out
              rw [<- HSJ.out, <- HQM.out] at h1
              rw [show sq + ((j + 1 : Nat) : Int) = sj + 1 by rw [HSJ.out]; omega]
              exact h1), HBY⟩
          case measure => simp [intOf]; omega
    · obtain rfl : j = rn := by omega
      go_wp2
      go_ret
      refine ⟨?_, K1.out.bel.trans (HB.out.mono K1.out.bel.size)⟩
      have h1 := HE.out
      rw [List.drop_of_length_le (by rw [HSL.out]; exact Nat.le_refl _)] at h1
      rw [h1]
      simp [cameL]
end
end Go.Proofs.YthabmlbmlncbmaaGreat
namespace Go.Proofs.YthabmlbmlncbmaaGreat
set_option maxRecDepth 20000
open Go.RowKit
end Go.Proofs.YthabmlbmlncbmaaGreat
namespace Go.Proofs.YthabmlbmlncbmaaGreat
set_option maxRecDepth 20000
open Go.RowKit
end Go.Proofs.YthabmlbmlncbmaaGreat
namespace Go.Proofs.YthabmlbmlncbmaaGreat
set_option maxRecDepth 20000
open Go.RowKit
section
variable (e n k : Int) (b : List UInt8)
theorem ep_nr_self : ep (nr e 281474976710656) = nr e 281474976710656 := by
  have := nr_bd e 281474976710656 (by decide)
  unfold ep
  rw [if_pos this]
end
end Go.Proofs.YthabmlbmlncbmaaGreat
namespace Go.Proofs.YthabmlbmlncbmaaGreat
open Go.RowKit
def word (l : List UInt8) (j : Nat) : List UInt8 := (l.drop (8 * j)).take 8
theorem word_tear {a b : List UInt8} (ha : a.length = 512) (hb : b.length = 512) (k : Int) (j : Nat) (hj : j < 64) : word (tearL a b k) j = word (if 0 < k /\ (j : Int) < k \/ k < 0 /\ k <= (j : Int) - 64 then b else a) j := tear_word ha hb k j hj
theorem eq_of_words {a b : List UInt8} (ha : a.length = 512) (hb : b.length = 512) (h : ∀ j, j < 64 -> word a j = word b j) : a = b := by
  have h2 : ∀ j, j <= 64 -> a.take (8 * j) = b.take (8 * j) := by
    intro j
    induction j with
    | zero => intro _; simp
    | succ j ih => intro hj; rw [take_words, take_words, ih (by omega)]; exact congrArg _ (h j (by omega))
  have h3 := h2 64 (by omega)
  rw [List.take_of_length_le (by omega), List.take_of_length_le (by omega)] at h3
  exact h3
theorem cut_self {l : List UInt8} {k : Nat} (h : l.length = k) : cut k l = l := by rw [cut_long (by omega), List.take_of_length_le (by omega)]
theorem tear_next {a b : List UInt8} (ha : a.length = 512) (hb : b.length = 512) (k : Int) (h : 63 < k \/ k < -63) : tearL a b k = b :=
  eq_of_words (tearL_length ha hb k) hb fun j hj => by rw [word_tear ha hb k j hj, if_pos (by omega)]
theorem tear_old {a b : List UInt8} (ha : a.length = 512) (hb : b.length = 512) : tearL a b 0 = a :=
  eq_of_words (tearL_length ha hb 0) ha fun j hj => by rw [word_tear ha hb 0 j hj, if_neg (by omega)]
section
variable (e n k : Int) (b : List UInt8)
theorem word0 : word (sectorOf e n k b) 0 = numB 8 (nr e 281474976710656) := sealL_0 _ _ _ _
theorem word1 : word (sectorOf e n k b) 1 = numB 8 (nr n 281474976710656) := sealL_8 _ _ _ _
theorem word62 : word (sectorOf e n k b) 62 = numB 8 (nr n 281474976710656) := sealL_496' _ _ _ _
theorem word63 : word (sectorOf e n k b) 63 = numB 8 (nr e 281474976710656) := by
  have h := sealL_504 (nr e 281474976710656) (nr n 281474976710656) (nr k 255) (b.take 472)
  unfold word sectorOf
  rw [show 8 * 63 = 504 from rfl, h, List.take_of_length_le (by simp)]
end
theorem ok_words {t : List UInt8} (h : okL t) : word t 63 = word t 0 /\ word t 62 = word t 1 := by
  rw [h]
  exact ⟨by rw [word63, word0], by rw [word62, word1]⟩
theorem epF_word {a : List UInt8} (ha : a.length = 512) : epF a = ep (getV (word a 0)) := by rw [epF, if_pos ha]; rfl
theorem epB_word {a : List UInt8} (ha : a.length = 512) : epB a = ep (getV (word a 63)) := by rw [epB, if_pos ha]; rfl
theorem ep_num (e : Int) : ep (getV (numB 8 (nr e 281474976710656))) = nr e 281474976710656 := by
  have h := nr_bd e 281474976710656 (by decide)
  rw [getV_numBs 8 _ h.1 (by omega) (by omega), ep_nr_self]
theorem torn_not {a : List UInt8} (ha : a.length = 512) (e n q : Int) (b : List UInt8) (k : Int) (h1 : epF a ≠ nr e 281474976710656) (h2 : epB a ≠ nr e 281474976710656) (hk : k ≠ 0) (hk1 : -63 <= k) (hk2 : k <= 63) : ¬ okL (tearL a (sectorOf e n q b) k) := by
  intro hok
  have hb := sectorOf_length e n q b
  have hw := (ok_words hok).1
  rw [word_tear ha hb k 63 (by omega), word_tear ha hb k 0 (by omega)] at hw
  by_cases h : 0 < k
  · rw [if_neg (by omega), if_pos (by omega), word0] at hw
    exact h2 (by rw [epB_word ha, hw, ep_num])
  · rw [if_pos (by omega), if_neg (by omega), word63] at hw
    exact h1 (by rw [epF_word ha, <- hw, ep_num])
end Go.Proofs.YthabmlbmlncbmaaGreat
namespace Go.Proofs.YthabmlbmlncbmaaGreat
open Go.RowKit
set_option linter.unusedVariables false
theorem okL_cE {l : List UInt8} (h : okL l) : cE l = nr (cE l) 281474976710656 := by
  have h1 := congrArg cE h
  rwa [cE_sector] at h1
theorem okL_top {l : List UInt8} (h : okL l) : cE l <= topL l := by
  have e1 : epF l = cE l := by
    rw [epF_word (okL_len h)]
    have h1 : word l 0 = numB 8 (nr (cE l) 281474976710656) := (congrArg (fun z => word z 0) h).trans (word0 _ _ _ _)
    rw [h1, ep_num]
    exact (okL_cE h).symm
  unfold topL
  omega
theorem fate18 {a : List UInt8} {more n q : Int} {b : List UInt8} (ha : a.length = 512) (hm : 0 <= more /\ more <= 281474976710656) (ht : topL a < more) (k : Int) : Fate a (trC a (sectorOf more n q b) k) (sectorOf more n q b) := by
  have hx : (sectorOf more n q b).length = 512 := sectorOf_length _ _ _ _
  have hnr : nr more 281474976710656 = more := nr_self hm.1 hm.2
  have h1 : epF a ≠ nr more 281474976710656 := by rw [hnr]; unfold topL at ht; omega
  have h2 : epB a ≠ nr more 281474976710656 := by rw [hnr]; unfold topL at ht; omega
  unfold trC
  rw [cut_self ha, cut_self hx]
  by_cases k0 : k = 0
  · subst k0
    exact .inl (tear_old ha hx)
  · by_cases k1 : 63 < k \/ k < -63
    · exact .inr (.inl (tear_next ha hx k k1))
    · exact .inr (.inr (torn_not ha more n q b k h1 h2 k0 (by omega) (by omega)))
theorem secsOf_mem {more : Int} : ∀ {rest : List (List UInt8)} {n s : Int} {x : List UInt8}, x ∈ secsOf more n s rest -> ∃ n' b, x = sectorOf more n' 1 b
  | [], n, s, x, h => by simp [secsOf] at h
  | b :: bs, n, s, x, h => by
    unfold secsOf at h
    rcases List.mem_append.1 h with q | q
    · obtain ⟨i, _, rfl⟩ := List.mem_map.1 q
      exact ⟨_, _, rfl⟩
    · exact secsOf_mem q
theorem secAt_mem {l : List (List UInt8)} (hl : 0 < l.length) (n : Int) : secAt l n ∈ l := by
  unfold secAt
  rw [List.getD_eq_getElem?_getD, List.getElem?_eq_getElem (idx_lt n hl)]
  exact List.getElem_mem _
theorem frBytes_ok {x : List Cd} (h : frCheck x = 0) (hw : ∀ y ∈ x, y.wf) : okF (frBytes x) := by
  have h64 : ¬ 64 < x.length := fun k => by unfold frCheck at h; rw [if_pos k] at h; exact absurd h (by decide)
  have hc : chkL x = 0 := by unfold frCheck at h; rwa [if_neg h64] at h
  unfold okF
  rw [frGet_put x (by omega) (fun y hy => ⟨chkL_zero x hc y hy, hw y hy⟩)]
theorem needN_le {n : Nat} (h : n <= 100000) : needN n <= 1024 := by
  have := needN_bd n
  omega
theorem topA_nn {xs : List (List UInt8)} (h : 0 < xs.length) : 0 <= topA xs := by
  have := topA_ge xs (secAt xs 0) (secAt_mem h 0)
  have h2 : 0 <= topL (secAt xs 0) := by unfold topL; omega
  exact Int.le_trans h2 this
theorem nums18 {head seq Q : Int} {n r b : Nat} (hh : 0 <= head /\ head <= 140737488355328) (hsq : 0 <= seq /\ seq <= 140737488355328) (hn : n <= 20) (hr : r <= 20) (hb : b <= 1024) (hQ : Q = seq + (b : Int)) :
    (0 <= head /\ head + (n : Int) <= 281474976710656) /\ (0 <= Q /\ Q + (r : Nat) <= 281474976710656) := by omega
theorem grows18 {xs recs : List (List UInt8)} {lg head epoch seq T E Q more : Int} {bs : List (List UInt8)} {ts : List Int} (hfull : ∀ x ∈ xs, x.length = 512) (hlg : (xs.length : Int) = lg) (hl0 : 0 < xs.length) (hl20 : xs.length <= 20) (hh : 0 <= head /\ head <= 140737488355328) (hsq : 0 <= seq /\ seq <= 140737488355328)
    (hs : Scn okF xs (head + lg) head epoch seq bs T E Q) (hbs : bs.length <= 1024) (hrec : recs.length <= 20) (ht : topA xs < more) (hE : E <= more) (hm : more <= 281474976710656) (hr : T + ((secsOf more T Q recs).length : Nat) <= head + lg) (hok : ∀ b ∈ recs, okF b /\ b.length <= 100000) :
    ∃ T' E', Scn okF (laidL trC T ts 0 (secsOf more T Q recs) xs) (head + lg) head epoch seq (bs ++ recs.take (cameL (laidL trC T ts 0 (secsOf more T Q recs) xs) more T Q recs)) T' E' (Q + (cameL (laidL trC T ts 0 (secsOf more T Q recs) xs) more T Q recs : Nat)) /\
      (0 < cameL (laidL trC T ts 0 (secsOf more T Q recs) xs) more T Q recs -> E' = more) := by
  have hN := nums18 hh hsq hl20 hrec hbs hs.le.2.2
  have hm0 : 0 <= more := Int.le_of_lt (Int.lt_of_le_of_lt (topA_nn hl0) ht)
  subst hlg
  exact grow18 hs hl0 ⟨hm0, hm⟩ hN.1 hN.2 hE hr (fun b hb => ⟨(hok b hb).1, needN_le (hok b hb).2⟩)
    (fun x hx => Int.lt_of_le_of_lt (Int.le_trans (okL_top hx) (topA_ge xs (secAt xs x) (secAt_mem hl0 x))) ht)
    (fun a x k ha hx => by
      obtain ⟨m, rfl⟩ := ha
      obtain ⟨n', b, rfl⟩ := secsOf_mem hx
      exact fate18 (hfull _ (secAt_mem hl0 m)) ⟨hm0, hm⟩ (Int.lt_of_le_of_lt (topA_ge xs (secAt xs m) (secAt_mem hl0 m)) ht) k)
theorem secsOf_snoc (more : Int) : ∀ (recs : List (List UInt8)) (n s : Int) (b : List UInt8), secsOf more n s (recs ++ [b]) = secsOf more n s recs ++ sealedL more (n + ((secsOf more n s recs).length : Nat)) (s + recs.length) b
  | [], n, s, b => by simp [secsOf]
  | c :: cs, n, s, b => by
    rw [List.cons_append, secsOf, secsOf, secsOf_snoc more cs, List.append_assoc, List.length_append, sealedL_len, List.length_cons]
    have e1 : n + (needN c.length : Nat) + ((secsOf more (n + (needN c.length : Nat)) (s + 1) cs).length : Nat) = n + ((needN c.length + (secsOf more (n + (needN c.length : Nat)) (s + 1) cs).length : Nat) : Int) := by omega
    have e2 : s + 1 + (cs.length : Int) = s + ((cs.length + 1 : Nat) : Int) := by omega
    rw [e1, e2]
def recsOf (fs : List (List Cd)) : List (List UInt8) := fs.map frBytes
theorem recsOf_snoc {fs : List (List Cd)} {j : Nat} {x : List Cd} (h : fs[j]? = some x) : recsOf (fs.take (j + 1)) = recsOf (fs.take j) ++ [frBytes x] := by
  unfold recsOf
  rw [List.take_add_one, h, Option.toList_some, List.map_append]
  rfl
end Go.Proofs.YthabmlbmlncbmaaGreat
namespace Go.Proofs.YthabmlbmlncbmaaGreat
open Go.RowKit
set_option linter.unusedVariables false
theorem HdL.app {α : Type} {sz : Nat} {E : α -> List Value -> Prop} {vs vs' : List Value} {xs xs' : List α} (h : HdL sz E vs xs) (h' : HdL sz E vs' xs') : HdL sz E (vs ++ vs') (xs ++ xs') := by
  obtain ⟨ch, rfl, h2, h3, h4⟩ := h
  obtain ⟨ch', rfl, k2, k3, k4⟩ := h'
  refine ⟨ch ++ ch', by simp, by simp [h2, k2], fun q hq => ?_, fun j y hy => ?_⟩
  · rcases List.mem_append.1 hq with h | h
    · exact h3 q h
    · exact k3 q h
  · by_cases hj : j < xs.length
    · rw [List.getElem?_append_left hj] at hy
      obtain ⟨q, hq, hE⟩ := h4 j y hy
      exact ⟨q, by rw [List.getElem?_append_left (by omega)]; exact hq, hE⟩
    · rw [List.getElem?_append_right (by omega)] at hy
      obtain ⟨q, hq, hE⟩ := k4 _ y hy
      exact ⟨q, by rw [List.getElem?_append_right (by omega), h2]; exact hq, hE⟩
theorem PcG.kept {w wr w2 w3 : World} {lv : Value} {xs : List (List UInt8)} {vs : List Value} {D : Nat -> Prop} {row : Option Nat} (h : PcG w wr lv xs vs D) (hb : Below wr.heap.size wr w2) (hg : w2.grownBy w3 row) (ho : lv.ownBlock = none \/ lv.ownBlock ≠ row)
    (hD : ∀ y, D y -> row ≠ some y) (hrow : ∀ k, row = some k -> w.heap.size <= k) : PcG w w3 lv xs vs D := by
  have h2 := h.below hb
  exact ⟨⟨Nat.le_trans h2.gr.Bw hg.size, World.ownsRow.kept h2.gr.ow hg ho, h2.gr.hd.imp fun _ _ hx => EPc.ok.stays hx ⟨hg.size, fun y hy => hg.block y (h2.gr.dx y hy).1 (fun e => hD y hy e.symm)⟩,
    fun y hy => ⟨Nat.lt_of_lt_of_le (h2.gr.dx y hy).1 hg.size, (h2.gr.dx y hy).2⟩⟩, h2.bel.grown hg h2.bel.size hrow⟩
theorem PcG.app {w wr w2 w3 : World} {lv lv' : Value} {xs ys : List (List UInt8)} {vs vs2 : List Value} {D K : Nat -> Prop} (h : PcG w wr lv xs vs D) (hb : Below wr.heap.size wr w2) (hd2 : HdL 1 (EPc K w2) vs2 ys) (hKo : ∀ y, K y -> lv.ownBlock ≠ some y)
    (hlt : ∀ y, K y -> y < w2.heap.size) (ho : w3.ownsRow w.heap.size 42 1 lv' (xs.length + ys.length) (vs ++ vs2)) (hg : w2.grownBy w3 lv.ownBlock) (hv : lv'.ownBlock = lv.ownBlock \/ lv'.ownBlock = some w2.heap.size) :
    PcG w w3 lv' (xs ++ ys) (vs ++ vs2) (fun y => D y \/ K y) := by
  have h2 := h.below hb
  have hall : ∀ y, (D y \/ K y) -> y < w2.heap.size /\ lv.ownBlock ≠ some y := fun y hy => by
    rcases hy with q | q
    · exact h2.gr.dx y q
    · exact ⟨hlt y q, hKo y q⟩
  have st : WStays (fun y => D y \/ K y) w2 w3 := ⟨hg.size, fun y hy => hg.block y (hall y hy).1 (fun e => (hall y hy).2 e.symm)⟩
  refine ⟨⟨Nat.le_trans h2.gr.Bw hg.size, by rw [List.length_append]; exact ho, ?_, fun y hy => ?_⟩, h2.bel.grown hg h2.bel.size (fun k hk => (own_geB h2.gr.ow hk).1)⟩
  · exact (h2.gr.hd.imp fun _ _ hx => EPc.ok.stays (EPc.ok.mono hx fun _ hy => .inl hy) st).app (hd2.imp fun _ _ hx => EPc.ok.stays (EPc.ok.mono hx fun _ hy => .inr hy) st)
  · obtain ⟨h3, h4⟩ := hall y hy
    refine ⟨Nat.lt_of_lt_of_le h3 hg.size, fun e => ?_⟩
    rcases hv with q | q
    · exact h4 (q ▸ e)
    · rw [q] at e
      injection e with e
      omega
structure GrwI (w wr : World) (lr ls : Value) (recs secs : List (List UInt8)) (vr vs : List Value) (DR DS : Nat -> Prop) : Prop where
  r : PcG w wr lr recs vr DR
  s : PcG w wr ls secs vs DS
  ne : ∀ y, lr.ownBlock = some y -> ls.ownBlock ≠ some y
  rn : ∀ y, DR y -> ls.ownBlock ≠ some y
  sn : ∀ y, DS y -> lr.ownBlock ≠ some y
section
variable {w wr w2 w3 : World} {lr ls lr' ls' : Value} {recs secs ys : List (List UInt8)} {vr vs vs2 : List Value} {DR DS K : Nat -> Prop}
theorem GrwI.start (w : World) : GrwI w w (.slice none 0 0) (.slice none 0 0) [] [] [] [] (fun _ => False) (fun _ => False) := ⟨PcG.start w, PcG.start w, (fun y e => by cases e), fun _ h => False.elim h, fun _ h => False.elim h⟩
theorem GrwI.below (h : GrwI w wr lr ls recs secs vr vs DR DS) (hb : Below wr.heap.size wr w2) : GrwI w w2 lr ls recs secs vr vs DR DS := ⟨h.r.below hb, h.s.below hb, h.ne, h.rn, h.sn⟩
theorem GrwI.putR (h : GrwI w wr lr ls recs secs vr vs DR DS) (hb : Below wr.heap.size wr w2) {x : List UInt8} {A : Option Addr} {m c : Nat} {t : TypeId} (hr : Rd w2 A m x) (hc : m <= c) (hK : ∀ b o, A = some ⟨b, o, none⟩ -> 0 < m -> wr.heap.size <= b)
    (ho : w3.ownsRow w.heap.size 42 1 lr' (recs.length + 1) (vr ++ [.slice A m c])) (hg : (w2.alloc (.cells #[.slice A m c] t)).grownBy w3 lr.ownBlock) (hv : lr'.ownBlock = lr.ownBlock \/ lr'.ownBlock = some (w2.alloc (.cells #[.slice A m c] t)).heap.size) :
    ∃ vr' DR', GrwI w w3 lr' ls (recs ++ [x]) secs vr' vs DR' DS /\ ∀ y, DR' y -> DR y \/ wr.heap.size <= y := by
  have hb' : Below wr.heap.size wr (w2.alloc (.cells #[.slice A m c] t)) := hb.trans ((Below.refl _ w2).alloc hb.size _)
  have hsz : wr.heap.size <= (w2.alloc (.cells #[.slice A m c] t)).heap.size := hb'.size
  obtain ⟨vr', DR', p, hD⟩ := h.r.putK (K := fun y => wr.heap.size <= y) hb hr hc hK (fun y hy e => by have := own_geB h.r.gr.ow e; omega) ho hg hv
  refine ⟨vr', DR', ⟨p, h.s.kept hb' hg ?_ (fun y hy => h.sn y hy) (fun k hk => (own_geB h.r.gr.ow hk).1), fun y e => ?_, fun y hy => ?_, fun y hy => ?_⟩, hD⟩
  · cases e : lr.ownBlock with
    | none =>
      cases e2 : ls.ownBlock with
      | none => exact .inl rfl
      | some y => exact .inr (by simp)
    | some y => exact .inr (h.ne y e)
  · rcases hv with q | q
    · exact h.ne y (q ▸ e)
    · intro e2
      have := (own_geB h.s.gr.ow e2).2
      rw [q] at e
      injection e with e
      omega
  · rcases hD y hy with q | q
    · exact h.rn y q
    · intro e2
      have := (own_geB h.s.gr.ow e2).2
      omega
  · rcases hv with q | q
    · rw [q]; exact h.sn y hy
    · rw [q]
      intro e
      injection e with e
      have := (h.s.gr.dx y hy).1
      omega
theorem GrwI.putS (h : GrwI w wr lr ls recs secs vr vs DR DS) (hb : Below wr.heap.size wr w2) (hd2 : HdL 1 (EPc K w2) vs2 ys) (hK : ∀ y, K y -> wr.heap.size <= y /\ y < w2.heap.size) (ho : w3.ownsRow w.heap.size 42 1 ls' (secs.length + ys.length) (vs ++ vs2)) (hg : w2.grownBy w3 ls.ownBlock)
    (hv : ls'.ownBlock = ls.ownBlock \/ ls'.ownBlock = some w2.heap.size) : GrwI w w3 lr ls' recs (secs ++ ys) vr (vs ++ vs2) DR (fun y => DS y \/ K y) := by
  have hsz := hb.size
  refine ⟨h.r.kept hb hg ?_ (fun y hy => h.rn y hy) (fun k hk => (own_geB h.s.gr.ow hk).1), h.s.app hb hd2 (fun y hy e => by have := own_geB h.s.gr.ow e; have := hK y hy; omega) (fun y hy => (hK y hy).2) ho hg hv, fun y e => ?_, fun y hy => ?_, fun y hy => ?_⟩
  · cases e : lr.ownBlock with
    | none => exact .inl rfl
    | some y => exact .inr (fun e2 => h.ne y e e2.symm)
  · rcases hv with q | q
    · rw [q]; exact h.ne y e
    · rw [q]
      intro e2
      injection e2 with e2
      have := (own_geB h.r.gr.ow e).2
      omega
  · rcases hv with q | q
    · rw [q]; exact h.rn y hy
    · rw [q]
      intro e2
      injection e2 with e2
      have := (h.r.gr.dx y hy).1
      omega
  · rcases hy with q | q
    · exact h.sn y q
    · intro e2
      have := (own_geB h.r.gr.ow e2).2
      have := hK y q
      omega
end
end Go.Proofs.YthabmlbmlncbmaaGreat
namespace Go.Proofs.YthabmlbmlncbmaaGreat
open Go.RowKit
set_option linter.unusedVariables false
set_option maxRecDepth 20000
section
set_option maxHeartbeats 2000000 in
theorem RFBytesO_any {K : Nat -> Prop} (A : Option Addr) (n c : Nat) (xs : List Cd) (w : World) (h : CdsV K w A n xs) (hn : n <= 1000) (hd : ∀ x ∈ xs, x.dt.length <= 1000) :
    Calls Tryz.prog 16 #[.slice A n c] w fun e w' => ∃ v n, e = .returned v /\ w'.ownsRow w.heap.size 5 1 v n (cells (frBytes xs)) /\ Below w.heap.size w w' := by
  have H := hi_ h
  have HL := hi_ h.len
  have HD := hi_ hd
  have C1 := hi_ (RNumS_any 1 (by decide) (by decide) n w)
  clear h hd
  go_enter Tryz.func16, Tryz.ntmps16
  go_wp2_with (go_at_call 29; have _t := C1; refine C1.out.mono ?_; rintro e w1 ⟨v1, rfl, ho1, hb1⟩; have O1 := hi_ (And.intro ho1 hb1); clear ho1 hb1 C1)
  go_loopw [3, 4] (fun bv iv wr => ∃ (j k : Nat) (ys : List UInt8), j <= n /\ iv = .int .i64 j /\ Hid (ys = numB 1 (n : Int) ++ ((xs.take j).map Cd.bytes).flatten /\ k = ys.length) /\ wr.ownsRow w.heap.size 5 1 bv k (cells ys) /\ Below w.heap.size w wr) (fun _ iv _ => n - (intOf iv).toNat)
  case atStart => exact ⟨0, 1, numB 1 n, Nat.zero_le _, rfl, hi_ ⟨by simp, by simp⟩, O1.out.1, O1.out.2⟩
  case round =>
    obtain ⟨j, k, ys, hj, rfl, hys, ho, hb⟩ := hrel
    have HBw := hi_ hb
    have HO := hi_ ho
    have hkb : k <= 1 + n * 1100 := by
      have h1 := flat_len (xs.take j) (fun x hx => HD.out x (List.mem_of_mem_take hx))
      have h2 := hys.out.2
      rw [hys.out.1] at h2
      simp only [List.length_append, numB_length, List.length_take] at h1 h2
      have h3 : min j xs.length * 1100 <= n * 1100 := Nat.mul_le_mul_right _ (by omega)
      omega
    by_cases hjn : j < n
    · obtain ⟨x, hx⟩ : ∃ x, xs[j]? = some x := ⟨_, List.getElem?_eq_getElem (by rw [HL.out]; exact hjn)⟩
      obtain ⟨b, o, PA, m, cc, hA, hlt, hc, hr, hmc⟩ := (H.out.below hb).cell hx
      have hm := HD.out x (List.mem_of_getElem? hx)
      have hm2 := hr.1
      have CB := hi_ (RBytesC_any x PA m cc wr hr (by omega))
      have H0 := hi_ hc
      have HX := hi_ (And.intro hx hm)
      subst hA
      clear hx hm hm2 hr hc hmc ho hb
      go_wp2_with (first
        | ((with_reducible refine wpList_ldCd (b := b) (off := o + j * 6) rfl (.tmp 17) rfl rfl H0.out ?_))
        | (go_at_call 30; refine CB.out.mono ?_; rintro e w2 ⟨A2, n2, c2, rfl, hr2, hc2, hb2⟩
           have R2 := hi_ (And.intro hr2 (And.intro hb2 (own_keep HO.out hb2)))
           have hn2 : n2 <= 1100 := by have := hr2.1; have := x.bytes_len; have := HX.out.2; omega
           clear hr2 hc2 hb2)
        | (at_builtin; refine wpList_app _ bytesT rfl (.tmp 14) (.tmp 19) rfl w.heap.size _ k _ rfl R2.out.2.2 A2 n2 c2 _ rfl R2.out.1 (by omega) (Nat.le_trans HBw.out.size R2.out.2.1.size) ?_; intro v3 w3 ho3 hb3
           rw [<- cells_append] at ho3
           have HO3 := hi_ ho3
           have HB3 := hi_ ((HBw.out.trans (R2.out.2.1.mono HBw.out.size)).trans hb3)
           clear ho3 hb3))
      go_roundw
      case rel => exact ⟨j + 1, _, _, hjn, by go_num, hi_ ⟨by rw [flat_take xs j x HX.out.1, <- List.append_assoc, <- hys.out.1], by have := R2.out.1.1; have := hys.out.2; rw [List.length_append]; omega⟩, HO3.out, HB3.out⟩
      case measure => simp [intOf]; omega
    · obtain rfl : j = n := Nat.le_antisymm hj (Nat.le_of_not_lt hjn)
      have hfin : ys = frBody xs := by rw [hys.out.1, List.take_of_length_le (Nat.le_of_eq HL.out)]; unfold frBody; rw [HL.out]
      have HF := hi_ hfin
      obtain ⟨B1, d1, rfl, _, _, hrd⟩ := Rd.of_own ho rfl
      have CO := hi_ (ROf_any B1 k d1 ys wr hrd (by omega))
      have CN := hi_ (RNumS_any 4 (by decide) (by decide) ((sumL ys : Nat) : Int) wr)
      have hsum : sumL ys < 4294967296 := sumL_lt ys
      obtain ⟨sm, hsm⟩ : ∃ q, q = sumL ys := ⟨_, rfl⟩
      rw [<- hsm] at CO CN hsum
      have HSM := hi_ hsm
      have hcv : IntKind.i64.wrap (sm : Int) = sm := IntWalk.i64_in _ (by omega)
      clear hfin hrd hsm hb ho
      go_wp2_with (first
        | (go_at_call 31; refine CO.out.mono ?_; rintro e w' ⟨rfl, rfl⟩)
        | (go_at_call 29; refine CN.out.mono ?_; rintro e w2 ⟨v2, rfl, ho2, hb2⟩
           obtain ⟨A2, c2, rfl, _, _, hr2⟩ := Rd.of_own ho2 rfl
           have R2 := hi_ (And.intro hr2 (And.intro hb2 (own_keep HO.out hb2)))
           clear hr2 ho2 hb2)
        | (at_builtin; refine wpList_app _ bytesT rfl (.tmp 21) (.tmp 25) rfl w.heap.size _ k _ rfl R2.out.2.2 A2 4 c2 _ rfl R2.out.1 (by omega) (Nat.le_trans HBw.out.size R2.out.2.1.size) ?_; intro v3 w3 ho3 hb3
           rw [<- cells_append] at ho3
           have HO3 := hi_ ho3
           have HB3 := hi_ ((HBw.out.trans (R2.out.2.1.mono HBw.out.size)).trans hb3)
           clear ho3 hb3))
      go_ret
      have hO := HO3.out
      rw [HSM.out, HF.out] at hO
      exact ⟨_, _, rfl, hO, HB3.out⟩
end
end Go.Proofs.YthabmlbmlncbmaaGreat
namespace Go.Proofs.YthabmlbmlncbmaaGreat
open Go.RowKit
set_option linter.unusedVariables false
set_option maxRecDepth 20000
theorem VRow.pre {K : Nat -> Prop} {w : World} {A : Option Addr} {n : Nat} {vs : List Value} (h : VRow K w A n 1 vs) {m : Nat} (hm : m <= n) : VRow K w A m 1 (vs.take m) := by
  refine ⟨?_, fun e => ?_, fun hp => ?_⟩
  · rw [List.length_take, h.1]; omega
  · have := h.2.1 e; omega
  · obtain ⟨b', o', e, hk, hlt, hc⟩ := h.2.2 (by omega)
    exact ⟨b', o', e, hk, hlt, fun j u hj => hc j u (by
      rw [List.getElem?_take] at hj
      split at hj
      · exact hj
      · cases hj)⟩
theorem cameL_le (g : List (List UInt8)) (more : Int) : ∀ (bs : List (List UInt8)) (n s : Int), cameL g more n s bs <= bs.length
  | [], n, s => Nat.le_refl _
  | b :: bs, n, s => by
    by_cases h : CameB g more n s b
    · rw [cameL_yes h, List.length_cons]
      have := cameL_le g more bs (n + (needN b.length : Nat)) (s + 1)
      omega
    · rw [cameL_no h]
      exact Nat.zero_le _
theorem frBytes_short {x : List Cd} (h : x.length <= 70) (hd : ∀ y ∈ x, y.dt.length <= 1000) : (frBytes x).length <= 100000 := by
  have := flat_len x hd
  unfold frBytes frBody
  simp only [List.length_append, numB_length]
  have h2 : x.length * 1100 <= 70 * 1100 := Nat.mul_le_mul_right _ h
  omega
theorem room_ok {lg h t : Int} {sl : Nat} (hr : (sl : Int) <= roomZ true lg h t) : t + (sl : Int) <= h + lg := by
  unfold roomZ at hr
  split at hr <;> omega
section
variable (lg pg en gn : Int) (A : Option Addr) (n cap : Nat) (ks : List Kd) {K KF : Nat -> Prop} (LA : Option Addr) (ln lc : Nat) (xs : List (List UInt8)) (hd0 ep sq : Int) (FA : Option Addr) (fn fc : Nat) (fs : List (List Cd)) (more : Int) (TA : Option Addr) (tn tc : Nat) (ts : List Int) (w : World)
structure GrowsH (w : World) (n : Nat) (ks : List Kd) (A : Option Addr) (K KF : Nat -> Prop) (LA : Option Addr) (ln : Nat) (xs : List (List UInt8)) (FA : Option Addr) (fn : Nat) (fs : List (List Cd)) (TA : Option Addr) (tn : Nat) (ts : List Int) : Prop where
  k : KRd w A n ks
  n : n <= 9223372036854775807
  l : Lens ks
  p : PcsV K w LA ln xs
  ln : ln <= 9223372036854775807
  x : ∀ x ∈ xs, x.length <= 9223372036854775807
  f : FrsV KF w FA fn fs
  fn : fn <= 9223372036854775807
  fw : ∀ x ∈ fs, (∀ y ∈ x, y.wf /\ y.dt.length <= 9223372036854775807) /\ x.length <= 9223372036854775807
  t : IRdW w TA tn ts
  tn : tn <= 9223372036854775807
end
end Go.Proofs.YthabmlbmlncbmaaGreat
namespace Go.Proofs.YthabmlbmlncbmaaGreat
open Go.RowKit
set_option linter.unusedVariables false
theorem topL_nn (l : List UInt8) : 0 <= topL l := by unfold topL; omega
theorem topL_tear {a x : List UInt8} {k : Int} (ha : a.length = 512) (hx : x.length = 512) (ht : (tearL a x k).length = 512) : topL (tearL a x k) <= max (topL a) (topL x) := by
  have h0 := word_tear ha hx k 0 (by decide)
  have h1 := word_tear ha hx k 63 (by decide)
  have e0 : epF (tearL a x k) = epF a \/ epF (tearL a x k) = epF x := by
    rw [epF_word ht, epF_word ha, epF_word hx, h0]
    split
    · exact .inr rfl
    · exact .inl rfl
  have e1 : epB (tearL a x k) = epB a \/ epB (tearL a x k) = epB x := by
    rw [epB_word ht, epB_word ha, epB_word hx, h1]
    split
    · exact .inr rfl
    · exact .inl rfl
  unfold topL
  rcases e0 with e0 | e0 <;> rcases e1 with e1 | e1 <;> rw [e0, e1] <;> omega
theorem topL_sec18 {more n q : Int} {b : List UInt8} (hm : 0 <= more /\ more <= 281474976710656) : topL (sectorOf more n q b) = more := by
  have h512 : (sectorOf more n q b).length = 512 := sectorOf_length _ _ _ _
  have h0 : epF (sectorOf more n q b) = more := by rw [epF_word h512, word0, ep_num]; exact nr_self hm.1 hm.2
  have h1 : epB (sectorOf more n q b) = more := by rw [epB_word h512, word63, ep_num]; exact nr_self hm.1 hm.2
  unfold topL
  rw [h0, h1]
  omega
theorem topA_le {B : Int} (hB : 0 <= B) : ∀ (xs : List (List UInt8)), (∀ x ∈ xs, topL x <= B) -> topA xs <= B := fun xs h => by
  have key : ∀ (xs : List (List UInt8)) (t : Int), t <= B -> (∀ x ∈ xs, topL x <= B) -> xs.foldl (fun t x => max t (topL x)) t <= B := by
    intro xs
    induction xs with
    | nil => intro t ht _; exact ht
    | cons a r ih =>
      intro t ht hx
      rw [List.foldl_cons]
      exact ih _ (by have := hx a List.mem_cons_self; omega) fun x hm => hx x (List.mem_cons_of_mem _ hm)
  exact key xs 0 hB h
theorem laidL_all {tr : List UInt8 -> List UInt8 -> Int -> List UInt8} {n : Int} {ks : List Int} {P : List UInt8 -> Prop} : ∀ (i : Nat) (secs out : List (List UInt8)), 0 < out.length -> (∀ a ∈ out, P a) -> (∀ a x k, P a -> x ∈ secs -> P (tr a x k)) -> ∀ a ∈ laidL tr n ks i secs out, P a
  | _, [], out, _, h, _ => h
  | i, x :: xs, out, hl, h, ht => by
    rw [laidL]
    refine laidL_all (i + 1) xs _ (by rw [List.length_set]; exact hl) (fun a ha => ?_) (fun a y k hp hy => ht a y k hp (List.mem_cons_of_mem _ hy))
    rcases List.mem_or_eq_of_mem_set ha with q | q
    · exact h a q
    · rw [q]
      exact ht _ _ _ (h _ (secAt_mem hl _)) List.mem_cons_self
theorem grown_ok {xs rest : List (List UInt8)} {T Q more : Int} {ts : List Int} (hl : 0 < xs.length) (hf : ∀ x ∈ xs, x.length = 512) (hm : 0 <= more /\ more <= 281474976710656) (ht : topA xs < more) :
    (∀ x ∈ laidL trC T ts 0 (secsOf more T Q rest) xs, x.length = 512) /\ topA (laidL trC T ts 0 (secsOf more T Q rest) xs) <= more := by
  have key : ∀ a ∈ laidL trC T ts 0 (secsOf more T Q rest) xs, a.length = 512 /\ topL a <= more := by
    refine laidL_all (P := fun a => a.length = 512 /\ topL a <= more) 0 _ _ hl (fun a ha => ⟨hf a ha, Int.le_of_lt (Int.lt_of_le_of_lt (topA_ge xs a ha) ht)⟩) (fun a x k hp hx => ?_)
    obtain ⟨n', b, rfl⟩ := secsOf_mem hx
    have h512 : (sectorOf more n' 1 b).length = 512 := sectorOf_length _ _ _ _
    have hL : (tearL a (sectorOf more n' 1 b) k).length = 512 := tearL_length hp.1 h512 k
    have e : trC a (sectorOf more n' 1 b) k = tearL a (sectorOf more n' 1 b) k := by unfold trC; rw [cut_self hp.1, cut_self h512]
    show (trC a (sectorOf more n' 1 b) k).length = 512 /\ topL (trC a (sectorOf more n' 1 b) k) <= more
    rw [e]
    refine ⟨hL, ?_⟩
    have := topL_tear hp.1 h512 hL
    rw [topL_sec18 hm] at this
    have h2 := hp.2
    omega
  exact ⟨fun x hx => (key x hx).1, topA_le hm.1 _ fun x hx => (key x hx).2⟩
theorem Scn.top {okF : List UInt8 -> Prop} {l : List (List UInt8)} {til n e s : Int} {bs : List (List UInt8)} {n' e' s' : Int} (hl : 0 < l.length) (h : Scn okF l til n e s bs n' e' s') (he : e <= topA l) : e' <= topA l := by
  induction h with
  | stop _ => exact he
  | go h1 t ih =>
    refine ih ?_
    rw [h1.ow]
    exact Int.le_trans (okL_top h1.has.2.1) (topA_ge _ _ (secAt_mem hl _))
end Go.Proofs.YthabmlbmlncbmaaGreat
