/- The law ColumnOwn, walked. -/
import Derived.Test.YtlblbhndfclhnaaClV
import Derived.Test.YtlblbhndfclhnaaLeC
import Derived.IntWalk
namespace Go.Proofs.Ytlblbhndfclhnaa
open Go.RowKit

theorem cut_len (k : Nat) (l : List UInt8) : (cut k l).length = k := by simp [cut]

theorem own_wst {K : Nat → Prop} {w w' : World} {B e size n : Nat} {v : Value} {xs : List Value} (h : w.ownsRow B e size v n xs) (hs : WStays K w w') (hk : ∀ x, v.ownBlock = some x → K x) : w'.ownsRow B e size v n xs :=
  ⟨h.1, h.2.elim .inl fun ⟨g, cap, cur, e1, e2, hh, r⟩ => .inr ⟨g, cap, cur, e1, e2, (hs.2 g (hk g (by rw [e1]; rfl))).trans hh, r⟩⟩

theorem Clv.base {w0 w1 w : World} {p : Nat} {keep : Nat → Prop} {s : Co} (h : Clv w1 w p keep s) (hb : Below w0.heap.size w0 w1) : Clv w0 w p keep s := by
  obtain ⟨own, h1, h2, h3⟩ := h
  exact ⟨own, hb.trans (h1.mono hb.size), fun x hx => Nat.le_trans hb.size (h2 x hx), h3⟩
theorem own_cell {w : World} {B e g n c k : Nat} {l : List UInt8} (h : w.ownsRow B e 1 (.slice (some ⟨g, 0, none⟩) n c) n (cells l)) (hk : k < n) :
    w.cell? ⟨g, k, none⟩ = some (.int .u8 ((l.getD k 0).toNat : Int)) ∧ w.frozen? ⟨g, k, none⟩ = false ∧ g < w.heap.size := by
  obtain ⟨g', c', e', _, _, _, hg, hc, hf⟩ := own_at h (by omega)
  injection e' with e' _ _
  injection e' with e'
  injection e' with e'
  subst e'
  have hl : k < l.length := by have := h.1; rw [cells_length] at this; omega
  refine ⟨?_, hf k, hg⟩
  rw [hc k hk, cells_get hl, List.getD_eq_getElem?_getD, List.getElem?_eq_getElem hl]
  rfl

set_option maxRecDepth 100000 in
set_option maxHeartbeats 4000000 in
theorem ColumnOwn_walk (m : Nat) (hm : m ≤ 255) (A : Option Addr) (n c : Nat) (l : List UInt8) (q : Nat) (hq : q ≤ 255) (w : World)
    (h : Rd w A n l) :
    Calls Try.prog 4 #[.int .u8 (m : Int), .slice A n c, .int .u8 (q : Int)] w fun e w' => e = .returned (.bool true) ∧ Below w.heap.size w w' := by
  obtain ⟨N, hN⟩ : ∃ N, N = m % 64 + 1 := ⟨_, rfl⟩
  have hN1 : 1 ≤ N ∧ N ≤ 64 := by omega
  have eN : (m : Int) % 64 + 1 = (N : Int) := by omega
  obtain ⟨k, hk⟩ : ∃ k, k = q % N := ⟨_, rfl⟩
  have hkN : k < N := by rw [hk]; exact Nat.mod_lt _ (by omega)
  have ek : (q : Int) % (N : Int) = (k : Int) := by rw [hk]; rfl
  have hsz : (Co.new (N : Int)).sz = N := by show (min (max (N : Int) 0) 64).toNat = N; omega
  clear hN hk
  obtain ⟨L, hL⟩ : ∃ L, L = cut N l := ⟨_, rfl⟩
  have hLl : L.length = N := by rw [hL]; exact cut_len N l
  have CC0 : ∀ V, Below w.heap.size w V → Calls Try.prog 16 #[.slice A n c, .int .i64 (N : Int)] V fun e w' => ∃ g c', e = .returned (.slice (some ⟨g, 0, none⟩) N c') ∧ V.heap.size ≤ g ∧ g < w'.heap.size ∧ w'.ownsRow g 5 1 (.slice (some ⟨g, 0, none⟩) N c') N (cells L) ∧ Below V.heap.size V w' := fun V hV => by
    refine (RCut_any A n c l N V (h.below (Nat.le_refl _) hV) (by omega)).mono ?_
    rintro e w' ⟨v, rfl, hO, hB⟩
    rw [Int.toNat_natCast, ← hL] at hO
    obtain ⟨g, c', rfl, _, _, hg, hg', _, _⟩ := own_at hO (by omega)
    refine ⟨g, c', rfl, hg, hg', ?_, hB⟩
    obtain ⟨h1, h2⟩ := hO
    refine ⟨h1, .inr ?_⟩
    rcases h2 with ⟨hv, _⟩ | ⟨g2, cap, cur, hv, _, r⟩
    · cases hv
    · injection hv with hv1 hv2 hv3
      injection hv1 with hv1
      injection hv1 with hv1
      subst hv1 hv3
      exact ⟨g, c', cur, rfl, Nat.le_refl _, r⟩
  have CC := Lib.hid CC0
  have HN1 := Lib.hid hN1
  have HLl := Lib.hid hLl
  have HSZ := Lib.hid hsz
  clear h CC0 hL hLl hsz
  go_enter Try.func4, Try.ntmps4
  go_wp2_with fail
  refine (CC.out w (Below.refl _ _)).mono ?_
  rintro e w1 ⟨g0, c0, rfl, hg0, hg0', hO0, hB1⟩
  have HO0 := Lib.hid hO0
  have HB1 := Lib.hid hB1
  clear hO0 hB1
  go_wp2_with fail
  refine (New_clv (N : Int) w1).mono ?_
  rintro e w2 ⟨p, rfl, hD2⟩
  have HD2 := Lib.hid (hD2.base HB1.out)
  have hb2 := hD2.under
  have HB2 := Lib.hid hb2
  clear hD2 hb2
  by_cases h200 : 200 < n
  · go_wp2_with (go_at_call 6; refine (live_any _).mono ?_; rintro e w9 ⟨rfl, hB9⟩)
    go_ret
    exact ⟨rfl, HD2.out.under.trans (hB9.mono HD2.out.under.size)⟩
  have U2 := Lib.hid HD2.out.under
  go_wp2_with fail
  refine (CC.out w2 U2.out).mono ?_
  rintro e w3 ⟨g1, c1, rfl, hg1, hg1', hO1, hB3⟩
  have hO03 := own_keep (own_keep HO0.out HB2.out) hB3
  have hD3 := HD2.out.more hB3 (fun x => w2.heap.size ≤ x ∧ x < w3.heap.size) (fun x hx => hx)
  have hs2 := HB2.out.size
  have hs3 := hB3.size
  have HA := Lib.hid (Add_clv hD3 (some ⟨g0, 0, none⟩) N c0 L (Rd.of_own' hO03))
  have HO1 := Lib.hid hO1
  have HO03 := Lib.hid hO03
  have U3 := Lib.hid (U2.out.trans (hB3.mono U2.out.size))
  clear hO1 hO03 hD3 hB3
  have hgo : (Co.new (N : Int)).go 0 0 L = ((Co.new (N : Int)).add L, [], 0) := by
    unfold Co.go
    rw [if_neg (by decide), if_neg (by decide), if_neg (by decide), if_pos (by rw [HSZ.out]; exact HLl.out), if_neg (by simp [Co.new])]
  obtain ⟨t, ht⟩ : ∃ t, t = (Co.new (N : Int)).add L := ⟨_, rfl⟩
  have htz : t.sz = N := by rw [ht]; exact HSZ.out
  have htr : t.rows = [L] := by rw [ht]; rfl
  have HGO := Lib.hid hgo
  rw [HGO.out, ← ht] at HA
  have HTZ := Lib.hid htz
  have HTR := Lib.hid htr
  clear hgo ht htz htr HGO
  go_wp2_with fail
  refine HA.out.mono ?_
  rintro e w4 ⟨rfl, hD4, hS4⟩
  have hO04 : w4.ownsRow g0 5 1 (.slice (some ⟨g0, 0, none⟩) N c0) N (cells L) := own_wst HO03.out hS4 (fun x hx => .inl (by injection hx with hx; have hx' : g0 = x := hx; omega))
  have hO14 : w4.ownsRow g1 5 1 (.slice (some ⟨g1, 0, none⟩) N c1) N (cells L) := own_wst HO1.out hS4 (fun x hx => .inr (by injection hx with hx; have hx' : g1 = x := hx; omega))
  have hs4 := hS4.1
  have hws := HB1.out.size
  obtain ⟨b, hb⟩ : ∃ b : Nat, b = (L.getD k 0).toNat := ⟨_, rfl⟩
  have hlk : b < 256 := by rw [hb]; exact (L.getD k 0).toNat_lt
  have OC0 : ∀ (W : World) (B g c : Nat), W.ownsRow B 5 1 (.slice (some ⟨g, 0, none⟩) N c) N (cells L) → W.cell? ⟨g, k, none⟩ = some (.int .u8 (b : Int)) ∧ W.frozen? ⟨g, k, none⟩ = false ∧ g < W.heap.size := fun _ _ _ _ h => by rw [hb]; exact own_cell h hkN
  have OC := Lib.hid OC0
  have CG0 : ∀ V keep, Clv w V p keep t → Calls Try.prog 18 #[.pointer (some ⟨p, 0, none⟩), .int .i64 0] V fun e w' => ∃ g, e = .returned (.tuple #[.slice (some ⟨g, 0, none⟩) N N, .int .i64 0]) ∧ V.heap.size ≤ g ∧ w'.ownsRow g 5 1 (.slice (some ⟨g, 0, none⟩) N N) N (cells L) ∧ Below V.heap.size V w' := fun V keep hV => by
    have := Get_clv hV 0 (by rw [HTR.out]; exact Nat.one_pos)
    rw [HTZ.out, HTR.out] at this
    exact this
  have CG := Lib.hid CG0
  have CB0 : ∀ V keep, Clv w V p keep t → Calls Try.prog 14 #[.pointer (some ⟨p, 0, none⟩)] V fun e w' => ∃ g, e = .returned (.slice (some ⟨g, 0, none⟩) N N) ∧ V.heap.size ≤ g ∧ w'.ownsRow g 5 1 (.slice (some ⟨g, 0, none⟩) N N) N (cells L) ∧ Below V.heap.size V w' := fun V keep hV => by
    refine (Bytes_clv hV).mono ?_
    rintro e w' ⟨g, n', rfl, hg, hn', hO, hB⟩
    have hbt : t.bytes = L := by unfold Co.bytes; rw [HTR.out]; simp
    rw [hbt] at hO hn'
    obtain rfl : n' = N := by rw [hn']; exact HLl.out
    exact ⟨g, rfl, hg, hO, hB⟩
  have CB := Lib.hid CB0
  obtain ⟨qk, fk, hg04⟩ := OC0 _ _ _ _ hO04
  have HO14 := Lib.hid hO14
  have HD4 := Lib.hid hD4
  clear hb hO04 hO14 hS4 hD4 HA HO03 HO1 HO0 OC0 CG0 CB0
  go_wp2_with fail
  obtain ⟨w5, hw5⟩ : ∃ w5, w5 = w4.setCell ⟨g0, k, none⟩ (.int .u8 (((b : Int) + 1) % 256)) := ⟨_, rfl⟩
  have hF5 : Fr (· = g0) w4 w5 := by rw [hw5]; exact Fr.setCell (own := (· = g0)) w4 (p := ⟨g0, k, none⟩) rfl _
  rw [← hw5]
  clear hw5 qk fk
  have hD5 := HD4.out.fr (g := g0) (.inl hg0') (by omega) hF5
  have hO15 := own_fr HO14.out hF5 (fun x hx e => by injection hx with hx; have hx' : g1 = x := hx; have e' : x = g0 := e; omega)
  have hs5 := hF5.size
  refine (CG.out w5 _ hD5).mono ?_
  rintro e w6 ⟨gx, rfl, hgx, hOx, hB6⟩
  have hD6 := hD5.more hB6 (fun x => w5.heap.size ≤ x ∧ x < w6.heap.size) (fun x hx => hx)
  have hO16 := own_keep hO15 hB6
  have CS6 := Lib.hid (Same_yes _ _ N N N c1 L w6 (Rd.of_own' hOx) (Rd.of_own' hO16))
  obtain ⟨qx, fx, hgx'⟩ := OC.out _ _ _ _ hOx
  have hs6 := hB6.size
  have HD6 := Lib.hid hD6
  have HO16 := Lib.hid hO16
  clear hD5 hO15 hF5 hB6 hD6 hO16 hOx HD4 HO14
  go_wp2_with (go_at_call 11; refine CS6.out.mono ?_; rintro e w' ⟨rfl, rfl⟩)
  obtain ⟨w7, hw7⟩ : ∃ w7, w7 = w6.setCell ⟨gx, k, none⟩ (.int .u8 (((b : Int) + 1) % 256)) := ⟨_, rfl⟩
  have hF7 : Fr (· = gx) w6 w7 := by rw [hw7]; exact Fr.setCell (own := (· = gx)) w6 (p := ⟨gx, k, none⟩) rfl _
  rw [← hw7]
  clear hw7 qx fx
  have hD7 := HD6.out.fr (g := gx) (.inr ⟨hgx, hgx'⟩) (by omega) hF7
  have hO17 := own_fr HO16.out hF7 (fun x hx e => by injection hx with hx; have hx' : g1 = x := hx; have e' : x = gx := e; omega)
  have hs7 := hF7.size
  refine (CB.out w7 _ hD7).mono ?_
  rintro e w8 ⟨gy, rfl, hgy, hOy, hB8⟩
  have hD8 := hD7.more hB8 (fun x => w7.heap.size ≤ x ∧ x < w8.heap.size) (fun x hx => hx)
  have hO18 := own_keep hO17 hB8
  have CS8 := Lib.hid (Same_yes _ _ N N N c1 L w8 (Rd.of_own' hOy) (Rd.of_own' hO18))
  obtain ⟨qy, fy, hgy'⟩ := OC.out _ _ _ _ hOy
  have hs8 := hB8.size
  have HD8 := Lib.hid hD8
  have HO18 := Lib.hid hO18
  clear hD7 hO17 hF7 hB8 hD8 hO18 hOy HD6 HO16 CS6
  go_wp2_with (go_at_call 11; refine CS8.out.mono ?_; rintro e w' ⟨rfl, rfl⟩)
  obtain ⟨w9, hw9⟩ : ∃ w9, w9 = w8.setCell ⟨gy, k, none⟩ (.int .u8 (((b : Int) + 1) % 256)) := ⟨_, rfl⟩
  have hF9 : Fr (· = gy) w8 w9 := by rw [hw9]; exact Fr.setCell (own := (· = gy)) w8 (p := ⟨gy, k, none⟩) rfl _
  rw [← hw9]
  clear hw9 qy fy
  have hD9 := HD8.out.fr (g := gy) (.inr ⟨hgy, hgy'⟩) (by omega) hF9
  have hO19 := own_fr HO18.out hF9 (fun x hx e => by injection hx with hx; have hx' : g1 = x := hx; have e' : x = gy := e; omega)
  refine (CG.out w9 _ hD9).mono ?_
  rintro e w10 ⟨gz, rfl, hgz, hOz, hB10⟩
  have CS10 := Lib.hid (Same_yes _ _ N N N c1 L w10 (Rd.of_own' hOz) (Rd.of_own' (own_keep hO19 hB10)))
  have U10 := Lib.hid (hD9.under.trans (hB10.mono hD9.under.size))
  clear hD9 hO19 hF9 hB10 hOz HD8 HO18 CS8
  go_wp2_with (first
    | (go_at_call 11; refine CS10.out.mono ?_; rintro e w' ⟨rfl, rfl⟩)
    | (go_at_call 19; refine (clcode_any _ _).mono ?_; rintro e w' ⟨rfl, rfl⟩)
    | (go_at_call 6; refine (live_any _).mono ?_; rintro e w11 ⟨rfl, hB11⟩))
  go_ret
  exact ⟨rfl, U10.out.trans (hB11.mono U10.out.size)⟩
end Go.Proofs.Ytlblbhndfclhnaa
