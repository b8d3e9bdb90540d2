/- The reference's Go: what it makes of the rows. -/
import Derived.Test.YtlblbhndfclhnaaClR2
namespace Go.Proofs.Ytlblbhndfclhnaa
open Go.RowKit

theorem own_at {w : World} {B e n : Nat} {v : Value} {xs : List Value} (h : w.ownsRow B e 1 v n xs) (hp : 0 < n) :
    ∃ g c, v = .slice (some ⟨g, 0, none⟩) n c ∧ n ≤ c ∧ c ≤ maxLen ∧ B ≤ g ∧ g < w.heap.size ∧ (∀ j, j < n → w.cell? ⟨g, j, none⟩ = xs[j]?) ∧ (∀ j, w.frozen? ⟨g, j, none⟩ = false) := by
  have h' := h
  rcases h.2 with ⟨hv, h0⟩ | ⟨g, cap, cur, rfl, hB, hh, hn, hc, _, _⟩
  · omega
  · exact ⟨g, cap, rfl, hn, hc, hB, (Array.getElem?_eq_some_iff.1 hh).1, fun j hj => h'.cellAt j (by omega), fun j => h'.frozenAt j⟩

theorem CLaid.fr {own : Nat → Prop} {w w1 w2 : World} {z : Nat} {A : Option Addr} {n c : Nat} {x : Cst} (h : CLaid w w1 z A n c x) (hF : Fr own w1 w2) (ho : ∀ q, own q → w.heap.size + 3 ≤ q) : CLaid w w2 z A n c x :=
  ⟨h.hb.trans (hF.toBelow (fun q hq => by have := ho q hq; omega) h.hb.size), h.r0.fr hF (fun e => by have := ho _ e; omega), h.st.fr hF (fun e => by have := ho _ e; omega), h.r2.fr hF (fun e => by have := ho _ e; omega)⟩
/-- The rows that Go has made, as what it leaves. -/
theorem made_rows {K : Nat → Prop} {w w4 w5 : World} {z : Nat} {A : Option Addr} {n c : Nat} {x : Cst} {B m : Nat} {v : Value} {vs : List Value} {ls : List (List UInt8)} (hL : CLaid w w4 z A n c x) (hB : w.heap.size + 3 ≤ B) (ho : w4.ownsRow B 31 1 v m vs) (hH : HdV K w vs ls) (hF : Fr (· = w.heap.size + 2) w4 w5) :
    Below w.heap.size w w5 ∧ ∃ A' c', v = .slice A' m c' ∧ RowsV (fun x => K x ∨ (w.heap.size ≤ x ∧ x < w5.heap.size)) w5 A' m ls := by
  have hb5 : Below w.heap.size w w5 := hL.hb.trans (hF.toBelow (fun x hx => by rw [show x = w.heap.size + 2 from hx]; omega) hL.hb.size)
  have ho5 := own_fr ho hF (fun x hx e => by
    have e' : x = w.heap.size + 2 := e
    rcases ho.2 with ⟨hv, _⟩ | ⟨g, cap, cur, hv, hB', _⟩
    · rw [hv] at hx; cases hx
    · rw [hv] at hx
      injection hx with hx
      have hx' : g = x := hx
      omega)
  obtain ⟨A', c', hv, _, _, hR⟩ := (hH.below hb5).rows ho5
  exact ⟨hb5, A', c', hv, hR.mono (fun x hx => hx.imp id (fun h => ⟨by omega, h.2⟩))⟩
theorem vb_sl {K : Nat → Prop} {w : World} {u : Value} {l : List UInt8} (h : VB K w u l) : ∃ A m c, u = .slice A m c := by obtain ⟨A, m, c, e, _⟩ := h; exact ⟨A, m, c, e⟩

section
variable {K : Nat → Prop} {s : Co} {A : Option Addr} {n c : Nat} {w : World}
set_option maxRecDepth 20000 in
set_option maxHeartbeats 1000000 in
theorem Go_set (h : RowsV K w A n s.rows) (hn : n ≤ 1024) (x : Cst) (hd : x.d = 1) (k : Nat) (ha : x.a = (k : Int)) (hk : k < n) (hbl : x.bn = s.sz) (hb : Rd w x.bA x.bn x.b) (hbK : ∀ q o, x.bA = some ⟨q, o, none⟩ → 0 < x.bn → K q) :
    Calls Try.prog 10 #[cv s.sz A n c, x.val] w (CRes K w (s.set k x.b) [] 0) := by
  have hL := CLaid.new w s.sz A n c x
  obtain ⟨d, a, bA, bn, bc, b⟩ := x
  obtain ⟨z, hz⟩ : ∃ z, z = s.sz := ⟨_, rfl⟩
  simp only at hd ha hbl hb hbK hL
  subst hd ha
  have hbz : z = bn := by omega
  subst hbz
  clear hbl
  unfold cv
  rw [← hz] at hL ⊢
  show Calls _ _ #[.agg #[.int .i64 (z : Nat), .slice A n c], .agg #[.int .i64 1, .int .i64 k, .slice bA z bc]] w _
  obtain ⟨w1, hw1⟩ : ∃ w1, w1 = ((w.alloc (.cells #[.int .i64 (z : Nat), .slice A n c] 29)).alloc (.cells #[.int .i64 1, .int .i64 k, .slice bA z bc] 35)).alloc (.cells #[.int .i64 0, .slice none 0 0] 29) := ⟨_, rfl⟩
  rw [← hw1] at hL
  have k0 : w1.cell? ⟨w.heap.size + 1, 0, none⟩ = some (.int .i64 1) := hL.st.at_ 0
  have k1 : w1.cell? ⟨w.heap.size + 1, 1, none⟩ = some (.int .i64 k) := hL.st.at_ 1
  have k2 : w1.cell? ⟨w.heap.size + 1, 2, none⟩ = some (.slice bA z bc) := hL.st.at_ 2
  have q0 : w1.cell? ⟨w.heap.size, 0, none⟩ = some (.int .i64 (z : Nat)) := hL.r0.at_ 0
  have q1 : w1.cell? ⟨w.heap.size, 1, none⟩ = some (.slice A n c) := hL.r0.at_ 1
  have hsz1 : w.heap.size + 3 ≤ w1.heap.size := by have := hL.r2.lt; omega
  obtain ⟨vs, hln, hA0, hH0⟩ := h
  have hvl : vs.length = n := by have := hH0.1; omega
  obtain ⟨w2, hw2⟩ : ∃ w2, w2 = w1.alloc (.cells #[] 31) := ⟨_, rfl⟩
  have hB2 : Below w1.heap.size w1 w2 := by rw [hw2]; exact (Below.refl _ _).alloc (Nat.le_refl _) _
  have hL2 := hL.next hB2
  have q12 : w2.cell? ⟨w.heap.size, 1, none⟩ = some (.slice A n c) := hL2.r0.at_ 1
  have hO2 : w2.ownsRow w1.heap.size 31 1 (.slice (some ⟨w1.heap.size, 0, none⟩) 0 0) 0 [] := by rw [hw2]; exact World.ownsRow_lit w1 #[] 0 (Nat.le_refl _) (Nat.zero_le _) rfl
  have HA2 := Lib.hid (hA0.below hL2.hb)
  have HH0 := Lib.hid hH0
  have HONE := Lib.hid hH0.one
  have HLN := Lib.hid hln
  have HVL := Lib.hid hvl
  have HO2 := Lib.hid hO2
  have HL := Lib.hid hL
  have HB2 := Lib.hid hB2
  have HW2 := Lib.hid hw2
  have HZ := Lib.hid hz
  have HSZ := Lib.hid hsz1
  have hk0 : (0 : Int) ≤ (k : Int) := by omega
  have hk1 : (k : Int) < (n : Int) := by omega
  have HVB := Lib.hid (show VB K w (.slice bA z bc) b from ⟨bA, z, bc, rfl, hb, fun q o e hp => ⟨hbK q o e hp, by obtain ⟨q', o', e', hlt, _⟩ := hb.2 hp; rw [e] at e'; injection e' with e'; injection e' with e1 _; omega⟩⟩)
  clear hb hbK
  clear hL hA0 hH0 hln hvl hB2 hL2 hO2 hw2 hz hsz1
  go_enter Try.func10, Try.ntmps10
  go_wp2_with (first
    | (rw [← hw1]; clear hw1)
    | (rw [← HW2.out])
    | (at_builtin; refine wpList_appW (K := K) rowsT rfl (.tmp 64) (.tmp 66) rfl w1.heap.size _ 0 [] rfl HO2.out A n c vs rfl HA2.out HONE.out (by omega) (by decide) HB2.out.size ?_; intro v3 w3 ho3 hg3; rw [List.nil_append, Nat.zero_add] at ho3; have hb3 := HB2.out.trans (below_own HO2.out HB2.out.size hg3); have hL3 := HL.out.next hb3; have k03 : w3.cell? ⟨w.heap.size + 1, 0, none⟩ = some (.int .i64 1) := hL3.st.at_ 0; have k13 : w3.cell? ⟨w.heap.size + 1, 1, none⟩ = some (.int .i64 k) := hL3.st.at_ 1; have k23 : w3.cell? ⟨w.heap.size + 1, 2, none⟩ = some (.slice bA z bc) := hL3.st.at_ 2; have q03 : w3.cell? ⟨w.heap.size, 0, none⟩ = some (.int .i64 (z : Nat)) := hL3.r0.at_ 0; obtain ⟨g, c3, rfl, hc3, hcm, hg1, hg2, hcell, hfz⟩ := own_at ho3 (by omega); have qk := hcell k (by omega); have hkl : k < vs.length := (by have := HVL.out; omega); rw [List.getElem?_eq_getElem hkl] at qk; have fk := hfz k; obtain ⟨kA, km, kc, hku⟩ := vb_sl (HH0.out.2 k _ (List.getElem?_eq_getElem hkl)); rw [hku] at qk; clear hku; obtain ⟨w4, hw4⟩ : ∃ w4, w4 = w3.setCell ⟨g, k, none⟩ (.slice bA z bc) := ⟨_, rfl⟩; have hF4 : Fr (· = g) w3 w4 := (by rw [hw4]; exact Fr.setCell (own := (· = g)) _ (p := ⟨g, k, none⟩) rfl _); have ho4 : w4.ownsRow w1.heap.size 31 1 (.slice (some ⟨g, 0, none⟩) n c3) n (vs.set k (.slice bA z bc)) := (by rw [hw4]; exact (ho3.stored k _).1); have hL4 := hL3.fr hF4 (fun q hq => by rw [show q = g from hq]; have := HSZ.out; omega); have q04 : w4.cell? ⟨w.heap.size, 0, none⟩ = some (.int .i64 (z : Nat)) := hL4.r0.at_ 0; have HO4 := Lib.hid ho4; have HL4 := Lib.hid hL4; have HW4 := Lib.hid hw4; clear hw4 hF4 ho4 hL4; clear hcell hfz hg1 hg2; have HO3 := Lib.hid ho3; have HL3 := Lib.hid hL3; have HB3 := Lib.hid hb3; clear ho3 hg3 hb3 hL3)
    | (rw [← HW4.out])
    | (with_reducible refine wpList_stC (z' := z) (A' := some ⟨g, 0, none⟩) (n' := n) (c' := c3) rfl (.tmp 4) (.tmp 80) rfl rfl rfl HL4.out.r2 ?_; intro w5 hR5 hF5))
  refine bodyPost_ret (res_ctt rfl rfl (hR5.load rcolT rfl)) rfl ?_
  obtain ⟨hB, A', c', e, hR⟩ := made_rows HL4.out HSZ.out HO4.out (HH0.out.set k HVB.out) hF5
  injection e with e1 e2 e3
  subst e1 e3
  exact ⟨_, n, c3, none, 0, 0, by unfold cv Co.set; rw [← HZ.out]; rfl, hR, VB.nil _ _, hB⟩
end
end Go.Proofs.Ytlblbhndfclhnaa
