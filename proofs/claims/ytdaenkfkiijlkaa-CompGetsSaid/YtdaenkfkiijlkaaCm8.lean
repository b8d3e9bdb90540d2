/- The contract of the reference's Bytes; All; Sectors; Same; live. -/
import Derived.Test.YtdaenkfkiijlkaaCm7
namespace Go.Proofs.Ytdaenkfkiijlkaa
open Go.RowKit
set_option linter.unusedVariables false

/-- A number of 4 bytes, as a slice that may be read. -/
theorem Num4 (x : Int) (w : World) :
    Calls Try.prog 33 #[.int .i64 4, .int .i64 x] w fun e w' => ∃ v, e = .returned v ∧ w'.ownsRow w.heap.size 5 1 v 4 (cells (numB 4 x)) ∧ Below w.heap.size w w' :=
  (Num_any 4 x w).mono fun e w' h => by rwa [show wd 4 = 4 by decide] at h
theorem Num1 (x : Int) (w : World) :
    Calls Try.prog 33 #[.int .i64 1, .int .i64 x] w fun e w' => ∃ A c, e = .returned (.slice A 1 c) ∧ Rd w' A 1 (numB 1 x) ∧ Below w.heap.size w w' :=
  (Num_any 1 x w).mono fun e w' ⟨v, he, ho, hb⟩ => by
    rw [show wd 1 = 1 by decide] at ho
    obtain ⟨A, c, rfl, _, _, hr⟩ := Rd.of_own ho rfl
    exact ⟨A, c, he, hr, hb⟩
theorem Num4r (x : Int) (w : World) :
    Calls Try.prog 33 #[.int .i64 4, .int .i64 x] w fun e w' => ∃ A c, e = .returned (.slice A 4 c) ∧ Rd w' A 4 (numB 4 x) ∧ Below w.heap.size w w' :=
  (Num4 x w).mono fun e w' ⟨v, he, ho, hb⟩ => by
    obtain ⟨A, c, rfl, _, _, hr⟩ := Rd.of_own ho rfl
    exact ⟨A, c, he, hr, hb⟩
theorem TextN (s : ByteArray) (w : World) (hs : s.size ≤ 100) :
    Calls Try.prog 34 #[.string s] w fun e w' => ∃ A c, e = .returned (.slice A (s.size + 2) c) ∧ Rd w' A (s.size + 2) (numB 2 s.size ++ s.data.toList) ∧ Below w.heap.size w w' :=
  (Text_any s w (by omega)).mono fun e w' ⟨v, he, ho, hb⟩ => by
    rw [show 2 + s.size = s.size + 2 by omega] at ho
    obtain ⟨A, c, rfl, _, _, hr⟩ := Rd.of_own ho rfl
    exact ⟨A, c, he, hr, hb⟩

theorem KRd.get {w : World} {b o n j : Nat} {ks : List Kd} {s : ByteArray} {z : Int} (h : KRd w (some ⟨b, o, none⟩) n ks) (hl : j < ks.length) (hk : ks[j] = (s, z)) :
    w.cell? ⟨b, o + j * 2, none⟩ = some (.string s) ∧ w.cell? ⟨b, o + j * 2 + 1, none⟩ = some (.int .i64 z) := by
  obtain ⟨b', o', e, _, hc⟩ := h.2 (by have := h.1; omega)
  obtain ⟨rfl, rfl⟩ : b = b' ∧ o = o' := by simpa using e
  have := hc j hl
  rw [hk] at this
  exact this

section
variable (lg pg en gn : Int) (A : Option Addr) (n cap : Nat) (ks : List Kd) (w : World)

theorem RBytes_any (h : KRd w A n ks) (hn : n ≤ 40) (hs : ∀ k ∈ ks, k.1.size ≤ 100) :
    Calls Try.prog 19 #[cv lg pg en gn A n cap] w fun e w' => ∃ v, e = .returned v ∧ w'.ownsRow w.heap.size 5 1 v (confB lg pg en gn ks).length (cells (confB lg pg en gn ks)) ∧ Below w.heap.size w w' := by
  obtain ⟨w1, hw1⟩ : ∃ w1, w1 = w.alloc (.cells (cc lg pg en gn A n cap) 24) := ⟨_, rfl⟩
  have C1 := CAt.new h lg pg en gn cap
  rw [← hw1] at C1
  obtain ⟨g, hg⟩ : ∃ g, g = w.heap.size := ⟨_, rfl⟩
  rw [← hg] at C1
  have c0 := C1.c0
  have c1 := C1.c1
  have hl := h.1
  have K1 := Lib.hid C1
  have HG := Lib.hid hg
  have HS := Lib.hid hs
  have H0 := Lib.hid h
  clear h hg C1 hs
  go_enter Try.func19, Try.ntmps19
  go_wp2_with (rw [← hw1, ← HG.out]; clear hw1)
  have tok : True := trivial
  go_region_held3 (fun W => W.cell? ⟨g, 0, none⟩ = some (.int .i64 lg) ∧ W.cell? ⟨g, 1, none⟩ = some (.int .i64 pg)) (first
    | with_reducible exact ⟨c0, c1⟩
    | with_reducible exact ⟨c02, c12⟩
    | with_reducible exact ⟨c03, c13⟩
    | with_reducible exact ⟨c04, c14⟩
    | go_keep) (first
    | (go_at_call 33; clear tok; refine (Num4 lg w1.drew).mono ?_; rintro e w2 ⟨v2, rfl, ho2, hb2'⟩; have hb2 : Below w1.heap.size w1 w2 := ((Below.refl _ _).drew).trans hb2'; have K2 := Lib.hid (K1.out.next hb2); have c02 := K2.out.c0; have c12 := K2.out.c1)
    | (go_at_call 33; refine (Num4r pg w2).mono ?_; rintro e w3 ⟨A3, c3, rfl, hr3, hb3⟩; have K3 := Lib.hid (K2.out.next hb3); have c03 := K3.out.c0; have c13 := K3.out.c1; have ho3 := own_keep ho2 hb3)
    | (refine step_app _ bytesT rfl (.tmp 7) (.tmp 10) rfl w1.heap.size _ 4 _ rfl ho3 A3 4 c3 _ rfl hr3 (by omega) (Nat.le_trans hb2.size hb3.size) ?_; intro v4 w4 ho4 hb4 hg4; have K4 := Lib.hid (K3.out.next2 H0.out K1.out.lt K1.out.bel.size hb4); have c04 := K4.out.c0; have c14 := K4.out.c1))
  have h14 : w1.heap.size ≤ w4.heap.size := Nat.le_trans (Nat.le_trans hb2.size hb3.size) hb4.size
  rw [← cells_append] at ho4
  obtain ⟨L4, hL4⟩ : ∃ L4, L4 = numB 4 lg ++ numB 4 pg := ⟨_, rfl⟩
  rw [← hL4] at ho4
  have HL4 := Lib.hid hL4
  have c2 := K4.out.c2
  clear hb2 hb2' ho2 hb3 hr3 ho3 hb4 hg4 hL4 c0 c1 c02 c12 c03 c13 c04 c14 K2 K3
  go_wp2_with fail
  refine (Num4r en w4).mono ?_
  rintro e w5 ⟨A5, c5', rfl, hr5, hb5⟩
  have ho5 := own_keep ho4 hb5
  have K5 := Lib.hid (K4.out.next hb5)
  have h15 := Nat.le_trans h14 hb5.size
  clear c2 ho4 hb5
  go_wp2_with (at_builtin; refine wpList_app _ bytesT rfl (.tmp 12) (.tmp 15) rfl w1.heap.size v4 (4 + 4) _ rfl ho5 A5 4 c5' _ rfl hr5 (by omega) h15 ?_; intro v6 w6 ho6 hb6; have K6 := Lib.hid (K5.out.next2 H0.out K1.out.lt K1.out.bel.size hb6); have h16 := Nat.le_trans h15 hb6.size; have c3 := K6.out.c3; clear ho5 hr5 hb6)
  rw [← cells_append] at ho6
  refine (Num4r gn w6).mono ?_
  rintro e w7 ⟨A7, c7', rfl, hr7, hb7⟩
  have ho7 := own_keep ho6 hb7
  have K7 := Lib.hid (K6.out.next hb7)
  have h17 := Nat.le_trans h16 hb7.size
  clear c3 ho6 hb7
  go_wp2_with (at_builtin; refine wpList_app _ bytesT rfl (.tmp 17) (.tmp 20) rfl w1.heap.size v6 (4 + 4 + 4) _ rfl ho7 A7 4 c7' _ rfl hr7 (by omega) h17 ?_; intro v8 w8 ho8 hb8; have K8 := Lib.hid (K7.out.next2 H0.out K1.out.lt K1.out.bel.size hb8); have h18 := Nat.le_trans h17 hb8.size; have c4 := K8.out.c4; clear ho7 hr7 hb8)
  rw [← cells_append] at ho8
  refine (Num1 n w8).mono ?_
  rintro e w9 ⟨A9, c9', rfl, hr9, hb9⟩
  have ho9 := own_keep ho8 hb9
  have K9 := Lib.hid (K8.out.next hb9)
  have h19 := Nat.le_trans h18 hb9.size
  clear c4 ho8 hb9
  go_wp2_with (at_builtin; refine wpList_app _ bytesT rfl (.tmp 22) (.tmp 26) rfl w1.heap.size v8 (4 + 4 + 4 + 4) _ rfl ho9 A9 1 c9' _ rfl hr9 (by omega) h19 ?_; intro v10 w10 ho10 hb10; have K10 := Lib.hid (K9.out.next2 H0.out K1.out.lt K1.out.bel.size hb10); have h10 := Nat.le_trans h19 hb10.size; clear ho9 hr9 hb10)
  rw [← cells_append] at ho10
  obtain ⟨L0, hL0⟩ : ∃ L0, L0 = L4 ++ numB 4 en ++ numB 4 gn ++ numB 1 n := ⟨_, rfl⟩
  have hn0 : 4 + 4 + 4 + 4 + 1 = L0.length := by rw [hL0, HL4.out]; simp
  rw [← hL0, hn0] at ho10
  have HL0 := Lib.hid hL0
  have HO10 := Lib.hid ho10
  have hL0n : L0.length ≤ 17 := by omega
  clear ho10 hL0 hn0
  go_loopw [3, 4] (fun v i wr => ∃ q : Nat, q ≤ n ∧ i = .int .i64 q ∧ wr.ownsRow w1.heap.size 5 1 v (L0 ++ rowsB (ks.take q)).length (cells (L0 ++ rowsB (ks.take q))) ∧ w1.heap.size ≤ wr.heap.size ∧ CAt w wr g lg pg en gn A n cap ks) (fun _ i _ => n - (intOf i).toNat)
  case atStart => exact ⟨0, Nat.zero_le _, rfl, by simpa [rowsB] using HO10.out, h10, K10.out⟩
  case round =>
    obtain ⟨q, hq, rfl, hown, hw2r, hC⟩ := hrel
    have c4 := hC.c4
    by_cases hqn : q < n
    · obtain ⟨b, o, s, z, rfl, _, k0, k1, hl', hk⟩ := hC.rd.at_ hqn
      have hsn := rowsB_snoc hl'
      rw [hk] at hsn
      have hsz : s.size ≤ 100 := by
        have := HS.out _ (List.getElem_mem hl')
        rw [hk] at this
        exact this
      have hbig : (L0 ++ rowsB (ks.take q)).length ≤ 10000 := by
        have h1 := rowsB_len (ks.take q) (fun k hk => HS.out k (List.mem_of_mem_take hk))
        rw [List.length_append]
        rw [List.length_take] at h1
        omega
      obtain ⟨N, hN⟩ : ∃ N, N = (L0 ++ rowsB (ks.take q)).length := ⟨_, rfl⟩
      obtain ⟨L, hL⟩ : ∃ L, L = L0 ++ rowsB (ks.take q) := ⟨_, rfl⟩
      rw [← hN, ← hL] at hown
      rw [← hN] at hbig
      have HSN := Lib.hid hsn
      have HN := Lib.hid hN
      have HL := Lib.hid hL
      have HC := Lib.hid hC
      have hblt := World.block_lt_of_cell? wr _ k0
      have HK := Lib.hid hk
      clear hk hsn hN hL hC k1
      go_wp2_with fail
      refine (TextN s wr hsz).mono ?_
      rintro e x1 ⟨A1, a1, rfl, hr1, hx1⟩
      have hown1 := own_keep hown hx1
      have HC1 := Lib.hid (HC.out.next hx1)
      have g1 := Nat.le_trans hw2r hx1.size
      clear hown k0 c4
      go_wp2_with (at_builtin; refine wpList_app _ bytesT rfl (.tmp 35) (.tmp 42) rfl w1.heap.size _ N _ rfl hown1 A1 (s.size + 2) a1 _ rfl hr1 (by omega) g1 ?_; intro v2 x2 hown2 hx2; have HC2 := Lib.hid (HC1.out.next2 H0.out K1.out.lt K1.out.bel.size hx2); have g2 := Nat.le_trans g1 hx2.size; have c4 := HC2.out.c4; have k1 : x2.cell? ⟨b, o + q * 2 + 1, none⟩ = some (.int .i64 z) := (HC2.out.rd.get hl' HK.out).2; clear hown1 hr1)
      refine (Num1 z x2).mono ?_
      rintro e x3 ⟨A3, a3, rfl, hr3, hx3⟩
      have hown3 := own_keep hown2 hx3
      have HC3 := Lib.hid (HC2.out.next hx3)
      have g3 := Nat.le_trans g2 hx3.size
      clear hown2 k1 c4
      go_wp2_with (at_builtin; refine wpList_app _ bytesT rfl (.tmp 44) (.tmp 51) rfl w1.heap.size v2 (N + (s.size + 2)) _ rfl hown3 A3 1 a3 _ rfl hr3 (by omega) g3 ?_; intro v4 x4 hown4 hx4; have HC4 := Lib.hid (HC3.out.next2 H0.out K1.out.lt K1.out.bel.size hx4); have g4 := Nat.le_trans g3 hx4.size)
      have e9 : cells L ++ cells (numB 2 s.size ++ s.data.toList) ++ cells (numB 1 z) = cells (L0 ++ rowsB (ks.take (q + 1))) := by
        rw [HSN.out, HL.out, ← cells_append, ← cells_append, kdB]
        simp only [List.append_assoc]
      have n9 : N + (s.size + 2) + 1 = (L0 ++ rowsB (ks.take (q + 1))).length := by
        have := kdB_len (s, z)
        rw [HSN.out, HN.out, List.length_append, List.length_append, List.length_append, this]
        simp only
        omega
      rw [e9, n9] at hown4
      have X4 := Lib.hid hown4
      have G4 := Lib.hid g4
      clear hown4 e9 n9 hown3 hr3 g1 g2 g3 g4
      go_roundw
      case rel => exact ⟨q + 1, hqn, by go_num, X4.out, G4.out, HC4.out⟩
      case measure => simp [intOf]; omega
    · have hqe : ¬ (q : Int) < (n : Int) := by omega
      have e9 : L0 ++ rowsB (ks.take q) = confB lg pg en gn ks := by
        rw [List.take_of_length_le (by omega), HL0.out, HL4.out, ← hl]
        simp [confB, numsB]
      rw [e9] at hown
      have X9 := Lib.hid (And.intro hown hC)
      clear hown hC e9
      go_wp2
      go_ret
      exact ⟨_, rfl, own_mono X9.out.1 K1.out.bel.size, X9.out.2.bel⟩
end
end Go.Proofs.Ytdaenkfkiijlkaa
