/- The contracts of Put and the reference's Bytes. -/
import Derived.Test.YtdaenkfkiijlkaaCm6
import Derived.Test.YtdaenkfkiijlkaaCmB
import Derived.Test.YtdaenkfkiijlkaaLe4t
import Derived.Test.YtdaenkfkiijlkaaOwn
import Derived.Test.YtdaenkfkiijlkaaInts
namespace Go.Proofs.Ytdaenkfkiijlkaa
open Go.RowKit
set_option linter.unusedVariables false

section
variable (lg pg en gn : Int) (A : Option Addr) (n cap : Nat) (ks : List Kd) (w : World)

theorem CAt.next2 {w0 w w' : World} {g B : Nat} {lg pg en gn : Int} {A : Option Addr} {n cap : Nat} {ks : List Kd} (h : CAt w0 w g lg pg en gn A n cap ks) (h0 : KRd w0 A n ks) (hg : g < B) (hB : w0.heap.size ≤ B) (hb : Below B w w') : CAt w0 w' g lg pg en gn A n cap ks where
  bel := h.bel.trans (hb.mono hB)
  ge := h.ge
  lt := Nat.lt_of_lt_of_le h.lt hb.size
  c0 := (hb.cell (p := ⟨g, 0, none⟩) hg).trans h.c0
  c1 := (hb.cell (p := ⟨g, 1, none⟩) hg).trans h.c1
  c2 := (hb.cell (p := ⟨g, 2, none⟩) hg).trans h.c2
  c3 := (hb.cell (p := ⟨g, 3, none⟩) hg).trans h.c3
  c4 := (hb.cell (p := ⟨g, 4, none⟩) hg).trans h.c4
  rd := h0.below (h.bel.trans (hb.mono hB))
/-- A name put behind nothing; a size behind it. -/
theorem PutText_nil (s : ByteArray) (w : World) (hs : s.size ≤ 100) :
    Calls Try.prog 32 #[.slice none 0 0, .string s] w fun e w' => ∃ A c, e = .returned (.slice A (s.size + 2) c) ∧ Rd w' A (s.size + 2) (numB 2 s.size ++ s.data.toList) ∧ Below w.heap.size w w' :=
  (PutText_any none 0 0 [] s w (Rd.nil _ _) (by omega) (by omega)).mono fun e w' ⟨v, he, ho, hb⟩ => by
    rw [List.nil_append, show 0 + 2 + s.size = s.size + 2 by omega] at ho
    obtain ⟨A, c, rfl, _, _, hr⟩ := Rd.of_own ho rfl
    exact ⟨A, c, he, hr, hb⟩
theorem Put_size (A : Option Addr) (c : Nat) (s : ByteArray) (z : Int) (w : World) (hs : s.size ≤ 100) (hr : Rd w A (s.size + 2) (numB 2 s.size ++ s.data.toList)) :
    Calls Try.prog 31 #[.slice A (s.size + 2) c, .int .i64 1, .int .i64 z] w fun e w' => ∃ A c, e = .returned (.slice A (s.size + 3) c) ∧ Rd w' A (s.size + 3) (kdB (s, z)) ∧ Below w.heap.size w w' :=
  (Put_any A (s.size + 2) c _ 1 z w hr (by omega)).mono fun e w' ⟨v, he, ho, hb⟩ => by
    rw [show wd 1 = 1 by decide] at ho
    obtain ⟨A, c, rfl, _, _, hr⟩ := Rd.of_own ho rfl
    exact ⟨A, c, he, hr, hb⟩

theorem CPut_any (h : KRd w A n ks) (hn : n ≤ 40) (hs : ∀ k ∈ ks, k.1.size ≤ 100) :
    Calls Try.prog 17 #[cv lg pg en gn A n cap] w fun e w' => ∃ v, e = .returned v ∧ w'.ownsRow w.heap.size 5 1 v (confB lg pg en gn ks).length (cells (confB lg pg en gn ks)) ∧ Below w.heap.size w w' := by
  obtain ⟨w1, hw1⟩ : ∃ w1, w1 = w.alloc (.cells (cc lg pg en gn A n cap) 24) := ⟨_, rfl⟩
  have C1 := CAt.new h lg pg en gn cap
  rw [← hw1] at C1
  obtain ⟨g, hg⟩ : ∃ g, g = w.heap.size := ⟨_, rfl⟩
  rw [← hg] at C1
  have c0 := C1.c0
  have c1 := C1.c1
  have c2 := C1.c2
  have c3 := C1.c3
  have hl := h.1
  have K1 := Lib.hid C1
  have HG := Lib.hid hg
  have HS := Lib.hid hs
  have H0 := Lib.hid h
  clear h hg C1 hs
  obtain ⟨w2, hw2⟩ : ∃ w2, w2 = w1.alloc (.cells #[.int .i64 lg, .int .i64 pg, .int .i64 en, .int .i64 gn] 3) := ⟨_, rfl⟩
  have hB2 : Below w1.heap.size w1 w2 := by rw [hw2]; exact (Below.refl _ _).alloc (Nat.le_refl _) _
  have hI : IRd w2 (some ⟨w1.heap.size, 0, none⟩) 4 [lg, pg, en, gn] := by rw [hw2]; exact IRd.new w1 3 (0, 0) [lg, pg, en, gn]
  have K2 := Lib.hid (K1.out.next hB2)
  go_enter Try.func17, Try.ntmps17
  go_wp2_with (first
    | (rw [← hw1, ← HG.out]; clear hw1)
    | (rw [← hw2]; clear hw2))
  clear c0 c1 c2 c3
  obtain ⟨zs, hzs⟩ : ∃ zs, zs = [lg, pg, en, gn] := ⟨_, rfl⟩
  have hz4 : zs.length = 4 := by rw [hzs]; rfl
  rw [← hzs] at hI
  have HI := Lib.hid hI
  have HZS := Lib.hid hzs
  have HB2 := Lib.hid hB2
  clear hI hzs hB2
  go_loopw [3, 18] (fun v i wr => ∃ j : Nat, j ≤ 4 ∧ i = .int .i64 j ∧ (∃ A' c', v = .slice A' (4 * j) c' ∧ Rd wr A' (4 * j) (numsB (zs.take j))) ∧ Below w2.heap.size w2 wr) (fun _ i _ => 4 - (intOf i).toNat)
  case atStart => exact ⟨0, Nat.zero_le _, rfl, ⟨none, 0, rfl, Rd.nil _ _⟩, Below.refl _ _⟩
  case round =>
    obtain ⟨j, hj, rfl, ⟨A', c', rfl, hr⟩, hb⟩ := hrel
    by_cases hlt : j < 4
    · obtain ⟨b, o, hA, hbl, hc⟩ := (HI.out.below hb).2 (by omega)
      obtain ⟨rfl, rfl⟩ : w1.heap.size = b ∧ 0 = o := by simpa using hA
      have k0 := hc j (by omega)
      obtain ⟨z, hz⟩ : ∃ z, z = zs.getD j 0 := ⟨_, rfl⟩
      have hz' : zs[j]'(by omega) = z := by rw [hz, List.getD, List.getElem?_eq_getElem (by omega)]; rfl
      rw [← hz, Nat.zero_add] at k0
      have hsn := numsB_snoc (zs := zs) (j := j) (by omega)
      rw [hz'] at hsn
      have HSN := Lib.hid hsn
      have HR := Lib.hid hr
      have HB := Lib.hid hb
      clear hc hA hz hz' hsn hr hb
      go_wp2_with (go_at_call 31; refine (Put_any A' (4 * j) c' _ 4 z _ HR.out (by omega)).mono ?_; rintro e w3 ⟨v3, rfl, ho3, hb3⟩; obtain ⟨A3, c3, rfl, _, _, hr3⟩ := Rd.of_own ho3 rfl; have H3 := Lib.hid (And.intro hr3 hb3); clear hr3 hb3 ho3)
      go_roundw
      case rel =>
        obtain ⟨hr3, hb3⟩ := H3.out
        refine ⟨j + 1, hlt, by go_num, ⟨A3, c3, rfl, ?_⟩, HB.out.trans (hb3.mono HB.out.size)⟩
        rw [HSN.out]
        exact hr3
      case measure => simp [intOf]; omega
    · have hge : ¬ (j : Int) < 4 := by omega
      have hn4 : 4 * j ≤ 16 := by omega
      have C4 := K2.out.next hb
      have c4 := C4.c4
      have HB := Lib.hid hb
      have K4 := Lib.hid C4
      have hr' := hr
      rw [List.take_of_length_le (by omega)] at hr'
      have HR := Lib.hid hr'
      have hwd1 : wd 1 = 1 := by decide
      clear hr hr' hb C4 K1
      go_wp2_with fail
      refine (Put_any A' (4 * j) c' _ 1 n _ HR.out (by omega)).mono ?_
      rintro e w5 ⟨v5, rfl, ho5, hb5⟩
      rw [hwd1] at ho5
      have hBw : Below w.heap.size w w5 := K4.out.bel.trans (hb5.mono K4.out.bel.size)
      have ho5' := own_mono ho5 HB.out.size
      obtain ⟨L0, hL0⟩ : ∃ L0, L0 = numsB zs ++ numB 1 n := ⟨_, rfl⟩
      have hlen0 : L0.length = 4 * j + 1 := by
        have := HR.out.1
        rw [hL0, List.length_append, this, numB_length]
      rw [← hL0, ← hlen0] at ho5'
      have C5 := K4.out.next hb5
      have c4' := C5.c4
      have HL0 := Lib.hid hL0
      have HO5 := Lib.hid ho5'
      have K5 := Lib.hid C5
      have hL0n : L0.length ≤ 17 := by omega
      clear ho5 ho5' C5 hL0 c4 hlen0 hBw
      have HB5 := Lib.hid hb5
      clear hb5
      go_wp2_with fail
      go_loopw [3, 34] (fun v i wr => ∃ q : Nat, q ≤ n ∧ i = .int .i64 q ∧ wr.ownsRow w2.heap.size 5 1 v (L0 ++ rowsB (ks.take q)).length (cells (L0 ++ rowsB (ks.take q))) ∧ w2.heap.size ≤ wr.heap.size ∧ CAt w wr g lg pg en gn A n cap ks) (fun _ i _ => n - (intOf i).toNat)
      case atStart => exact ⟨0, Nat.zero_le _, rfl, by simpa [rowsB] using HO5.out, Nat.le_trans HB.out.size HB5.out.size, K5.out⟩
      case round =>
        obtain ⟨q, hq, rfl, hown, hw2r, hC⟩ := hrel
        by_cases hqn : q < n
        · obtain ⟨b, o, s, z, rfl, _, k0, k1, hl', hk⟩ := hC.rd.at_ hqn
          have hsn := rowsB_snoc hl'
          rw [hk] at hsn
          have hsz : s.size ≤ 100 := by
            have := HS.out _ (List.getElem_mem hl')
            rw [hk] at this
            exact this
          have hbig : (L0 ++ rowsB (ks.take q)).length ≤ 10000 := by
            have h1 := rowsB_len (ks.take q) (fun k hk => HS.out k (List.mem_of_mem_take hk))
            rw [List.length_append]
            rw [List.length_take] at h1
            omega
          obtain ⟨N, hN⟩ : ∃ N, N = (L0 ++ rowsB (ks.take q)).length := ⟨_, rfl⟩
          obtain ⟨L, hL⟩ : ∃ L, L = L0 ++ rowsB (ks.take q) := ⟨_, rfl⟩
          rw [← hN, ← hL] at hown
          rw [← hN] at hbig
          have HSN := Lib.hid hsn
          have HN := Lib.hid hN
          have HL := Lib.hid hL
          obtain ⟨w6, hw6⟩ : ∃ w6, w6 = wr.alloc (.cells #[.string s, .int .i64 z] 50) := ⟨_, rfl⟩
          obtain ⟨p, hp⟩ : ∃ p, p = wr.heap.size := ⟨_, rfl⟩
          have hB6 : Below wr.heap.size wr w6 := by rw [hw6]; exact (Below.refl _ _).alloc (Nat.le_refl _) _
          have q0 : w6.cell? ⟨p, 0, none⟩ = some (.string s) := by rw [hw6, hp]; simp
          have q1 : w6.cell? ⟨p, 1, none⟩ = some (.int .i64 z) := by rw [hw6, hp]; simp
          have hown6 := own_keep hown hB6
          have hne := fun k hk => (hown.lt k hk).2
          rw [← hp] at hne
          have HNE := Lib.hid hne
          clear hne
          have C6 := hC.next hB6
          have HC6 := Lib.hid C6
          have HO6 := Lib.hid hown6
          have HP := Lib.hid hp
          have HW26 := Lib.hid (Nat.le_trans hw2r hB6.size)
          clear hk hsn hN hL hown hC C6 hown6 hp
          go_wp2_with (rw [← hw6, ← HP.out]; clear hw6)
          go_region_held3 (fun W => W.cell? ⟨p, 0, none⟩ = some (.string s) ∧ W.cell? ⟨p, 1, none⟩ = some (.int .i64 z)) (first
            | with_reducible exact ⟨q0, q1⟩
            | with_reducible exact ⟨q07, q17⟩
            | with_reducible exact ⟨q08, q18⟩
            | with_reducible exact ⟨q09, q19⟩
            | go_keep) (first
            | (go_at_call 32; refine (PutText_nil s w6.drew hsz).mono ?_; rintro e w7 ⟨A7, c7, rfl, hr7, hb7'⟩; have hb7 : Below w6.heap.size w6 w7 := ((Below.refl _ _).drew).trans hb7'; have q07 := (hb7.cell (p := ⟨p, 0, none⟩) (World.block_lt_of_cell? w6 _ q0)).trans q0; have q17 := (hb7.cell (p := ⟨p, 1, none⟩) (World.block_lt_of_cell? w6 _ q1)).trans q1)
            | (go_at_call 31; refine (Put_size A7 c7 s z w7 hsz hr7).mono ?_; rintro e w8 ⟨A8, c8, rfl, hr8, hb8⟩; have q08 := (hb8.cell (p := ⟨p, 0, none⟩) (World.block_lt_of_cell? w7 _ q07)).trans q07; have q18 := (hb8.cell (p := ⟨p, 1, none⟩) (World.block_lt_of_cell? w7 _ q17)).trans q17; have hb68 := hb7.trans (hb8.mono hb7.size); have hown8 := own_keep HO6.out hb68)
            | (refine step_app _ bytesT rfl (.tmp 38) (.tmp 44) rfl w2.heap.size _ N _ rfl hown8 A8 (s.size + 3) c8 _ rfl hr8 (by omega) (Nat.le_trans HW26.out hb68.size) ?_; intro v9 w9 ho9 hb9 hg9; have hbl := hg9.block p (World.block_lt_of_cell? w8 _ q08) (fun e => Nat.lt_irrefl _ (HNE.out p e.symm)); have q09 := (World.cell?_of_block (w := w8) (a := ⟨p, 0, none⟩) hbl).trans q08; have q19 := (World.cell?_of_block (w := w8) (a := ⟨p, 1, none⟩) hbl).trans q18))
          have e9 : cells L ++ cells (kdB (s, z)) = cells (L0 ++ rowsB (ks.take (q + 1))) := by rw [HSN.out, HL.out, ← List.append_assoc, cells_append (L0 ++ rowsB (ks.take q))]
          have n9 : N + (s.size + 3) = (L0 ++ rowsB (ks.take (q + 1))).length := by
            have := kdB_len (s, z)
            rw [HSN.out, HN.out, List.length_append, List.length_append, List.length_append, this]
            simp only
            omega
          rw [e9, n9] at ho9
          have C9 := (HC6.out.next hb68).next2 H0.out K2.out.lt K2.out.bel.size hb9
          have h29 := Nat.le_trans (Nat.le_trans HW26.out hb68.size) hb9.size
          have X9 := Lib.hid (And.intro ho9 (And.intro h29 C9))
          clear ho9 h29 C9 e9 n9 hb9 hg9 hown8 hb68 hb8 hb7 hb7' hr7 hr8 q0 q1 q07 q17 q08 q18 q09 q19 hbl k0 k1
          go_wp2
          go_roundw
          case rel => exact ⟨q + 1, hqn, by go_num, X9.out.1, X9.out.2.1, X9.out.2.2⟩
          case measure => simp [intOf]; omega
        · have hqe : ¬ (q : Int) < (n : Int) := by omega
          have e9 : L0 ++ rowsB (ks.take q) = confB lg pg en gn ks := by
            rw [List.take_of_length_le (by omega), HL0.out, HZS.out, ← hl]
            rfl
          rw [e9] at hown
          have X9 := Lib.hid (And.intro hown hC)
          clear hown hC e9
          go_wp2
          go_ret
          exact ⟨_, rfl, own_mono X9.out.1 K2.out.bel.size, X9.out.2.bel⟩
end
end Go.Proofs.Ytdaenkfkiijlkaa
