/- The law PartMixed, walked. -/
import Derived.Test.YtndnmcdbfjgglaaPtW
import Derived.Test.YtndnmcdbfjgglaaPtY
import Derived.Deep.DeepCutAuto
namespace Go.Proofs.Ytndnmcdbfjgglaa
open Go.RowKit
set_option linter.unusedVariables false
set_option maxRecDepth 20000

theorem PartMixed_big (A A' : Option Addr) (n c n' c' : Nat) (s t k : Int) (w : World) (hn : n ≤ 9223372036854775807) (hn' : n' ≤ 9223372036854775807) (h : 2000 < n ∨ 2000 < n') :
    Calls Try.prog 5 #[.slice A n c, .slice A' n' c', .int .u16 s, .int .u16 t, .int .u8 k] w fun e w' => e = .returned (.bool true) ∧ Below w.heap.size w w' := by
  by_cases h1 : 2000 < n
  · clear h
    go_enter Try.func5, Try.ntmps5
    go_wp2_with (go_at_call 6; refine (live17_any w).mono ?_; rintro e w2 ⟨rfl, hb2⟩)
    go_ret
    exact ⟨rfl, hb2⟩
  · have h2 : 2000 < n' := by omega
    have d1 : decide (2000 < n) = false := decide_eq_false h1
    have d2 : decide (2000 < n') = true := decide_eq_true h2
    clear h
    go_enter Try.func5, Try.ntmps5
    go_wp2_with (go_at_call 6; refine (live17_any w).mono ?_; rintro e w2 ⟨rfl, hb2⟩)
    go_ret
    exact ⟨rfl, hb2⟩

/-- The pieces of a short record. -/
theorem split_short (s : Int) (b : List UInt8) (hs : 0 ≤ s ∧ s ≤ 65535) (hb : b.length ≤ 2000) : GoodP (splitL s b) s ∧ 0 < (splitL s b).length ∧ (splitL s b).length ≤ 5 := by
  have hb' := needN_bd b.length
  have hneed : needN b.length ≤ 1024 := by omega
  have h := split_good (s := s) hneed
  rw [clampS_id (by omega)] at h
  refine ⟨h, List.length_pos_iff.2 h.1, ?_⟩
  rw [splitL_ok hneed, pcs_len]
  omega
theorem good_short {xs : List (List UInt8)} {s : Int} (h : GoodP xs s) : ∀ x ∈ xs, x.length ≤ 472 := fun x hx => by
  obtain ⟨k, hk, e⟩ := List.getElem_of_mem hx
  exact (h.2 k x (by rw [List.getElem?_eq_getElem hk, e])).1.1.2

section
variable (A A' : Option Addr) (n c n' c' : Nat) (a b : List UInt8) (s t k : Int) (w : World)
set_option maxHeartbeats 4000000 in
theorem PartMixed_go (hr : Rd w A n a) (hc : n ≤ c) (hr' : Rd w A' n' b) (hc' : n' ≤ c') (hn : n ≤ 2000) (hn' : n' ≤ 2000) (hs : 0 ≤ s ∧ s ≤ 65535) (ht : 0 ≤ t ∧ t ≤ 65535) (hk : 0 ≤ k ∧ k ≤ 255) :
    Calls Try.prog 5 #[.slice A n c, .slice A' n' c', .int .u16 s, .int .u16 t, .int .u8 k] w fun e w' => e = .returned (.bool true) ∧ Below w.heap.size w w' := by
  have hl := hr.1
  have hl' := hr'.1
  obtain ⟨gx, px, qx⟩ := split_short s a hs (by omega)
  obtain ⟨gy, py, qy⟩ := split_short t b ht (by omega)
  have C1 := Lib.hid (PSplit_any A n c a s w hr hc (by omega))
  have HR := Lib.hid (And.intro hr' hc')
  obtain ⟨xs, hxs⟩ : ∃ xs, xs = splitL s a := ⟨_, rfl⟩
  obtain ⟨ys, hys⟩ : ∃ ys, ys = splitL t b := ⟨_, rfl⟩
  rw [← hxs] at C1 gx px qx
  rw [← hys] at gy py qy
  have HY := Lib.hid hys
  obtain ⟨p, hp⟩ : ∃ p, p = xs.length := ⟨_, rfl⟩
  obtain ⟨q, hq⟩ : ∃ q, q = ys.length := ⟨_, rfl⟩
  rw [← hp] at px qx
  rw [← hq] at py qy
  have HP := Lib.hid (And.intro hp hq)
  have HG := Lib.hid (And.intro gx gy)
  clear hr hc hr' hc' hl hl' gx gy hp hq hxs hys
  obtain ⟨i, hi, hip⟩ : ∃ i : Nat, k.tmod (p : Int) = (i : Int) ∧ i < p := ⟨(k.tmod (p : Int)).toNat, by
    rw [Int.tmod_eq_emod_of_nonneg hk.1]
    have := Int.emod_nonneg k (show (p : Int) ≠ 0 by omega)
    omega, by
    rw [Int.tmod_eq_emod_of_nonneg hk.1]
    have := Int.emod_nonneg k (show (p : Int) ≠ 0 by omega)
    have := Int.emod_lt_of_pos k (show (0 : Int) < p by omega)
    omega⟩
  have d1 : decide ((2000 : Int) < (n : Int)) = false := decide_eq_false (by omega)
  have d2 : decide ((2000 : Int) < (n' : Int)) = false := decide_eq_false (by omega)
  have d3 : ((p : Int) == 0) = false := by simp; omega
  have d4 : ((q : Int) == 0) = false := by simp; omega
  go_enter Try.func5, Try.ntmps5
  go_upto_region 7 with (first
    | (go_at_call 7; have _t := C1; refine C1.out.mono ?_; rintro e w2 ⟨SA, sn, sc, rfl, hsc, hsv, hsb⟩
       obtain rfl : p = sn := HP.out.1.trans hsv.len
       have S2 := Lib.hid (And.intro hsv (And.intro hsb hsc))
       have C2 := Lib.hid (PSplit_any A' n' c' b t w2 (HR.out.1.below (Nat.le_refl _) hsb) HR.out.2 (by omega))
       rw [← HY.out] at C2
       clear hsc hsv hsb C1)
    | (go_at_call 7; have _t := C2; refine C2.out.mono ?_; rintro e w3 ⟨SB, tn, tc, rfl, htc, htv, htb⟩
       obtain rfl : q = tn := HP.out.2.trans htv.len
       have S3 := Lib.hid (And.intro (S2.out.2.1.trans (htb.mono S2.out.2.1.size)) (And.intro S2.out.2.2 htc))
       have XP := (S2.out.1.below htb).prow px
       have YP := htv.prow py
       clear htc htv htb C2))
  obtain ⟨xb, xo, xv, rfl, XR0⟩ := XP
  obtain ⟨yb, yo, yv, rfl, YR0⟩ := YP
  have XR := Lib.hid XR0
  have YR := Lib.hid YR0
  have HIP := Lib.hid (And.intro hip (And.intro px qx))
  clear XR0 YR0
  go_cut [16] from 14 (fun v wl => v = .bool false ∧ Hid (Below w3.heap.size w3 wl))
  case first =>
    have hic : i + 1 ≤ sc := by have := S3.out.2.1; omega
    have hiq : i + 1 ≤ p := hip
    have hpc : p ≤ sc := S3.out.2.1
    have g0 : (0 : Int) ≤ (i : Int) := by omega
    have g1 : (i : Int) ≤ (sc : Int) := by omega
    have g2 : (0 : Int) ≤ (i : Int) + 1 := by omega
    have g3 : (i : Int) + 1 ≤ (p : Int) := by omega
    have g4 : (p : Int) ≤ (sc : Int) := by omega
    have g5 : (i : Int) + 1 ≤ (sc : Int) := by omega
    have g6 : IntKind.i64.wrap ((i : Int) + 1) = (i : Int) + 1 := by rw [IntKind.wrap_i64]; omega
    obtain ⟨w4, hw4⟩ : ∃ w4, w4 = (w3.alloc (.cells #[] 22)).drew := ⟨_, rfl⟩
    have B34 : Below w3.heap.size w3 w4 := by rw [hw4]; exact ((Below.refl _ _).alloc (Nat.le_refl _) _).drew
    have O4 : w4.ownsRow w3.heap.size 22 1 (.slice (some ⟨w3.heap.size, 0, none⟩) 0 0) 0 [] := by rw [hw4]; exact (own_empty w3 w3.heap.size 22 (Nat.le_refl _)).drew
    have H4 := Lib.hid (And.intro O4 B34)
    clear O4 B34
    by_cases hcc : i + 1 = sc
    · have hpi : p = i + 1 := by omega
      subst hcc
      subst hpi
      clear g1 g2 g3 g4 g5 hic hiq hpc d3
      have g1 : (i : Int) ≤ (i : Int) + 1 := by omega
      have g2 : (0 : Int) ≤ (i : Int) + 1 := by omega
      go_region_held3 (fun _ => True) (trivial) (first
        | (rw [← hw4]; refine step_appX (K := TK) rowsT rfl (.tmp 57) (.tmp 60) rfl w3.heap.size (.slice (some ⟨w3.heap.size, 0, none⟩) 0 0) 0 [] rfl H4.out.1 (some ⟨xb, xo, none⟩) i (i + 1) (xv.take i) rfl (prow_pre (XR.out.below H4.out.2).row (by omega)) (fun u hu => XR.out.one u (List.mem_of_mem_take hu)) (by omega) (by decide) H4.out.2.size ?_; intro v5 w5 ho5 hg5 hv5
           have O5 := Lib.hid (And.intro ho5 (H4.out.2.trans (below_own H4.out.1 H4.out.2.size hg5)))
           clear ho5 hg5 hv5)
        | (refine step_appX (K := TK) rowsT rfl (.tmp 61) (.tmp 65) rfl w3.heap.size v5 (0 + i) ([] ++ xv.take i) rfl O5.out.1 (some ⟨xb, xo, none⟩) 0 0 [] rfl ⟨rfl, (fun e => by cases e), fun h => absurd h (Nat.lt_irrefl 0)⟩ (fun u hu => absurd hu List.not_mem_nil) (by omega) (by decide) O5.out.2.size ?_; intro v6 w6 ho6 hg6 hv6
           have b6 := O5.out.2.trans (below_own O5.out.1 O5.out.2.size hg6)
           have X6 := XR.out.below b6
           have e6 : 0 + i + 0 = i := by omega
           rw [e6, List.nil_append, List.append_nil] at ho6
           obtain ⟨A6, c6, rfl, hc6, hp6⟩ := own_pcs (xs := xs.take i) ho6 (hd_take X6.hd i) (by have := XR.out.len; simp; omega)
           have CJ := Lib.hid (PJoin_any A6 i c6 _ w6 hp6 (by omega) (fun y hy => Nat.le_trans (good_short HG.out.1 y (List.mem_of_mem_take hy)) (by decide)))
           have hno := joinL_no (del_no HG.out.1 (show i < xs.length by rw [← HP.out.1]; omega))
           rw [show xs.drop (i + 1) = [] from List.drop_of_length_le (by rw [← HP.out.1]; omega), List.append_nil] at hno
           rw [hno] at CJ
           clear hno
           have B6 := Lib.hid b6
           clear ho6 hg6 hv6 b6 X6 hc6 hp6 e6)
        | (go_at_call 10; refine CJ.out.mono ?_; rintro e w7 ⟨BA, bn, bc, rfl, hrd, hbc, hbb⟩
           have B7 := Lib.hid (B6.out.trans (hbb.mono B6.out.size))
           clear hrd hbc hbb CJ))
      (try go_wp2)
      go_meet
      exact ⟨rfl, B7⟩
    · have hcc' : ¬ sc = i + 1 := fun e => hcc e.symm
      go_region_held3 (fun _ => True) (trivial) (first
        | (rw [← hw4]; refine step_appX (K := TK) rowsT rfl (.tmp 57) (.tmp 60) rfl w3.heap.size (.slice (some ⟨w3.heap.size, 0, none⟩) 0 0) 0 [] rfl H4.out.1 (some ⟨xb, xo, none⟩) i sc (xv.take i) rfl (prow_pre (XR.out.below H4.out.2).row (by omega)) (fun u hu => XR.out.one u (List.mem_of_mem_take hu)) (by omega) (by decide) H4.out.2.size ?_; intro v5 w5 ho5 hg5 hv5
           have O5 := Lib.hid (And.intro ho5 (H4.out.2.trans (below_own H4.out.1 H4.out.2.size hg5)))
           clear ho5 hg5 hv5)
        | (refine step_appX (K := TK) rowsT rfl (.tmp 61) (.tmp 65) rfl w3.heap.size v5 (0 + i) ([] ++ xv.take i) rfl O5.out.1 (some ⟨xb, xo + (i + 1), none⟩) (p - (i + 1)) (sc - (i + 1)) (xv.drop (i + 1)) rfl (prow_suf (XR.out.below O5.out.2).row hiq _ (fun _ => rfl)) (fun u hu => XR.out.one u (List.mem_of_mem_drop hu)) (by omega) (by decide) O5.out.2.size ?_; intro v6 w6 ho6 hg6 hv6
           have b6 := O5.out.2.trans (below_own O5.out.1 O5.out.2.size hg6)
           have X6 := XR.out.below b6
           have e6 : 0 + i + (p - (i + 1)) = p - 1 := by omega
           rw [e6] at ho6
           obtain ⟨A6, c6, rfl, hc6, hp6⟩ := own_pcs (xs := xs.take i ++ xs.drop (i + 1)) ho6 (hd_append (hd_take X6.hd i) (hd_drop X6.hd (i + 1))) (by have := XR.out.len; simp; omega)
           have CJ := Lib.hid (PJoin_any A6 (p - 1) c6 _ w6 hp6 (by omega) (fun y hy => Nat.le_trans (good_short HG.out.1 y (by
             rcases List.mem_append.1 hy with q | q
             · exact List.mem_of_mem_take q
             · exact List.mem_of_mem_drop q)) (by decide)))
           rw [joinL_no (del_no HG.out.1 (by rw [← HP.out.1]; exact hip))] at CJ
           have B6 := Lib.hid b6
           clear ho6 hg6 hv6 b6 X6 hc6 hp6 e6)
        | (go_at_call 10; refine CJ.out.mono ?_; rintro e w7 ⟨BA, bn, bc, rfl, hrd, hbc, hbb⟩
           have B7 := Lib.hid (B6.out.trans (hbb.mono B6.out.size))
           clear hrd hbc hbb CJ))
      (try go_wp2)
      go_meet
      exact ⟨rfl, B7⟩
  case rest =>
    obtain ⟨rfl, hb7⟩ := hcut
    have XR7 := Lib.hid (XR.out.below hb7.out)
    have YR7 := Lib.hid (YR.out.below hb7.out)
    have BE := Lib.hid (S3.out.1.trans (hb7.out.mono S3.out.1.size))
    clear hb7
    obtain ⟨B, hB⟩ : ∃ B : Bool, B = decide (i < q ∧ (s ≠ t ∨ p ≠ q) ∧ 1 < p) := ⟨_, rfl⟩
    have HB := Lib.hid hB
    clear hB
    go_upto_region 10 with fail
    go_cut [92] from 26 (fun v wl => v = .bool B ∧ wl = wc)
    case first =>
      by_cases h1 : i < q
      rotate_left
      · have e1 : decide ((i : Int) < (q : Int)) = false := decide_eq_false (by omega)
        have e1' : decide (i < q) = false := decide_eq_false h1
        have hb := Lib.hid (show B = false by rw [HB.out]; exact decide_eq_false (fun h => h1 h.1))
        clear h1
        go_wp2
        go_meet
        exact ⟨by rw [hb.out], rfl⟩
      · have e1 : decide ((i : Int) < (q : Int)) = true := decide_eq_true (by omega)
        have e1' : decide (i < q) = true := decide_eq_true h1
        have H1 := Lib.hid h1
        clear h1
        by_cases h4 : 1 < p
        all_goals
          first
            | (have e4 : decide ((1 : Int) < (p : Int)) = true := decide_eq_true (by omega)
               have e4' : decide (1 < p) = true := decide_eq_true h4)
            | (have e4 : decide ((1 : Int) < (p : Int)) = false := decide_eq_false (by omega)
               have e4' : decide (1 < p) = false := decide_eq_false h4)
          have H4' := Lib.hid h4
          clear h4
          by_cases h2 : s = t
          · have e2 : (s != t) = false := by simp [h2]
            by_cases h3 : p = q
            · have e3 : ((p : Int) != (q : Int)) = false := by simp [h3]
              have e3' : (p != q) = false := by simp [h3]
              have hb := Lib.hid (show B = false by rw [HB.out]; exact decide_eq_false (fun h => h.2.1.elim (fun k => k h2) (fun k => k h3)))
              clear h2 h3
              go_wp2
              go_meet
              exact ⟨by rw [hb.out], rfl⟩
            · have e3 : ((p : Int) != (q : Int)) = true := by simp; omega
              have e3' : (p != q) = true := by simpa using h3
              first
                | (have hb := Lib.hid (show B = true by rw [HB.out]; exact decide_eq_true ⟨H1.out, .inr h3, H4'.out⟩))
                | (have hb := Lib.hid (show B = false by rw [HB.out]; exact decide_eq_false (fun h => H4'.out h.2.2)))
              clear h2 h3
              go_wp2
              go_meet
              exact ⟨by rw [hb.out], rfl⟩
          · have e2 : (s != t) = true := by simpa using h2
            first
              | (have hb := Lib.hid (show B = true by rw [HB.out]; exact decide_eq_true ⟨H1.out, .inl h2, H4'.out⟩))
              | (have hb := Lib.hid (show B = false by rw [HB.out]; exact decide_eq_false (fun h => H4'.out h.2.2)))
            clear h2
            go_wp2
            go_meet
            exact ⟨by rw [hb.out], rfl⟩
    case rest =>
      obtain ⟨rfl, rfl⟩ := hcut
      cases B
      · by_cases h4 : 1 < p
        · have e4 : decide ((1 : Int) < (p : Int)) = true := decide_eq_true (by omega)
          have e4' : decide (1 < p) = true := decide_eq_true h4
          obtain ⟨j, hjm, hjp, hij⟩ : ∃ j : Nat, ((i : Int) + 1).tmod (p : Int) = (j : Int) ∧ j < p ∧ i ≠ j := by
            rcases Nat.lt_or_ge (i + 1) p with h | h
            · exact ⟨i + 1, by rw [Int.tmod_eq_emod_of_nonneg (by omega), Int.emod_eq_of_lt (by omega) (by omega)]; omega, h, by omega⟩
            · have e : (p : Int) = (i : Int) + 1 := by omega
              exact ⟨0, by rw [e, Int.tmod_self]; rfl, by omega, by omega⟩
          have g0 : (0 : Int) ≤ (i : Int) := by omega
          have g1 : (i : Int) < (p : Int) := by omega
          have g2 : (0 : Int) ≤ (j : Int) := by omega
          have g3 : (j : Int) < (p : Int) := by omega
          have g6 : IntKind.i64.wrap ((i : Int) + 1) = (i : Int) + 1 := by rw [IntKind.wrap_i64]; omega
          have HIJ := Lib.hid hij
          clear hij
          go_upto_region 19 with (first
            | (at_builtin; refine wpList_appX (K := TK) rowsT rfl (.tmp 113) (.tmp 114) rfl wc.heap.size (.slice (some ⟨wc.heap.size, 0, none⟩) 0 0) 0 [] rfl (own_empty wc wc.heap.size _ (Nat.le_refl _)) (some ⟨xb, xo, none⟩) p sc xv rfl (XR7.out.below ((Below.refl _ _).alloc (Nat.le_refl _) _)).row XR7.out.one (by omega) (by decide) (by simp) ?_; intro v8 w8 ho8 hg8 hv8
               have b8 : Below wc.heap.size wc w8 := ((Below.refl _ _).alloc (Nat.le_refl _) _).trans (below_own (own_empty wc wc.heap.size _ (Nat.le_refl _)) (by simp) hg8)
               rw [Nat.zero_add, List.nil_append] at ho8
               obtain ⟨g8, c8, rfl, hB8, hlt8⟩ := ho8.form px
               obtain ⟨yi, Ai, mi, ci, hyi, hvi, hciW, hEi⟩ := XR7.out.cell hip
               obtain ⟨yj, Aj, mj, cj, hyj, hvj, hcjW, hEj⟩ := XR7.out.cell hjp
               have hci := (b8.cell (p := ⟨xb, xo + i, none⟩) (World.block_lt_of_cell? _ _ hciW)).trans hciW
               have hcj := (b8.cell (p := ⟨xb, xo + j, none⟩) (World.block_lt_of_cell? _ _ hcjW)).trans hcjW
               have fi := ho8.frozenAt i
               have fj := ho8.frozenAt j
               have ki : w8.cell? ⟨g8, i, none⟩ = some (.slice Ai mi ci) := by
                 have := ho8.cells (g := g8) rfl i _ hvi
                 rwa [Addr.add_lit, Nat.zero_add] at this
               have kj : w8.cell? ⟨g8, j, none⟩ = some (.slice Aj mj cj) := by
                 have := ho8.cells (g := g8) rfl j _ hvj
                 rwa [Addr.add_lit, Nat.zero_add] at this
               have CT := Lib.hid (turned_join XR7.out HG.out.1 ho8 hB8 b8 hip hjp HIJ.out hyi hyj hEi hEj qx)
               clear ho8 hB8 b8 hlt8 hyi hyj hEi hEj hvi hvj hg8 hv8 hciW hcjW))
          have hcid : w8.drew.cell? ⟨xb, xo + i, none⟩ = some (.slice Ai mi ci) := hci
          have hcjd : w8.drew.cell? ⟨xb, xo + j, none⟩ = some (.slice Aj mj cj) := hcj
          have fid : w8.drew.frozen? ⟨g8, i, none⟩ = false := fi
          have fjd : w8.drew.frozen? ⟨g8, j, none⟩ = false := fj
          have kid : w8.drew.cell? ⟨g8, i, none⟩ = some (.slice Ai mi ci) := ki
          have kjd : w8.drew.cell? ⟨g8, j, none⟩ = some (.slice Aj mj cj) := kj
          have kjs : (w8.setCell ⟨g8, i, none⟩ (.slice Aj mj cj)).cell? ⟨g8, j, none⟩ = some (.slice Aj mj cj) := (World.cell?_setCell_other _ _ _ _ (by intro e; injection e with _ e; exact HIJ.out (by first | exact e | exact e.symm))).trans kj
          have kjsd : (w8.setCell ⟨g8, i, none⟩ (.slice Aj mj cj)).drew.cell? ⟨g8, j, none⟩ = some (.slice Aj mj cj) := kjs
          have fjs : (w8.setCell ⟨g8, i, none⟩ (.slice Aj mj cj)).frozen? ⟨g8, j, none⟩ = false := (World.frozen?_setCell _ _ _ _).trans fj
          go_region
          go_wp2_with (first
            | (go_at_call 10; refine CT.out.1.mono ?_; rintro e wt ⟨TA, tn', tc', rfl, hrd, hbc, hbb⟩
               have BT := Lib.hid (BE.out.trans ((CT.out.2.trans (hbb.mono CT.out.2.size)).mono BE.out.size))
               clear hrd hbc hbb)
            | (go_at_call 6; refine (live17_any _).mono ?_; rintro e wl ⟨rfl, hbl⟩
               have BL := Lib.hid (BT.out.trans (hbl.mono BT.out.size))
               clear hbl))
          go_ret
          exact ⟨rfl, BL.out⟩
        · have e4 : decide ((1 : Int) < (p : Int)) = false := decide_eq_false (by omega)
          have e4' : decide (1 < p) = false := decide_eq_false h4
          go_wp2_with (go_at_call 6; refine (live17_any _).mono ?_; rintro e wl ⟨rfl, hbl⟩; have BL := Lib.hid (BE.out.trans (hbl.mono BE.out.size)); clear hbl)
          go_ret
          exact ⟨rfl, BL.out⟩
      · have hP := of_decide_eq_true HB.out.symm
        have h4 : 1 < p := hP.2.2
        have hiq : i < q := hP.1
        have HPD := Lib.hid (show s ≠ t ∨ p ≠ ys.length by rw [← HP.out.2]; exact hP.2.1)
        have e4 : decide ((1 : Int) < (p : Int)) = true := decide_eq_true (by omega)
        have e4' : decide (1 < p) = true := decide_eq_true h4
        clear hP
        have m0 : (0 : Int) ≤ (i : Int) := by omega
        have m1 : (i : Int) < (p : Int) := by omega
        have m2 : (i : Int) < (q : Int) := by omega
        go_upto_region 16 with (first
          | (at_builtin; refine wpList_appX (K := TK) rowsT rfl (.tmp 93) (.tmp 94) rfl wc.heap.size (.slice (some ⟨wc.heap.size, 0, none⟩) 0 0) 0 [] rfl (own_empty wc wc.heap.size _ (Nat.le_refl _)) (some ⟨xb, xo, none⟩) p sc xv rfl (XR7.out.below ((Below.refl _ _).alloc (Nat.le_refl _) _)).row XR7.out.one (by omega) (by decide) (by simp) ?_; intro v10 w10 ho10 hg10 hv10
             have b10 : Below wc.heap.size wc w10 := ((Below.refl _ _).alloc (Nat.le_refl _) _).trans (below_own (own_empty wc wc.heap.size _ (Nat.le_refl _)) (by simp) hg10)
             rw [Nat.zero_add, List.nil_append] at ho10
             obtain ⟨g10, c10, rfl, hB10, hlt10⟩ := ho10.form px
             obtain ⟨y, yA, ym, yc, hy, hvy, hcyW, hEy⟩ := YR7.out.cell hiq
             have hcy := (b10.cell (p := ⟨yb, yo + i, none⟩) (World.block_lt_of_cell? _ _ hcyW)).trans hcyW
             obtain ⟨zi, zA, zm, zc, hzi, hvz, _, _⟩ := XR7.out.cell hip
             have f10 := ho10.frozenAt i
             have k10 : w10.cell? ⟨g10, i, none⟩ = some (.slice zA zm zc) := by
               have := ho10.cells (g := g10) rfl i _ hvz
               rwa [Addr.add_lit, Nat.zero_add] at this
             have CM := Lib.hid (mixed_join XR7.out HG.out.1 HG.out.2 ho10 hB10 b10 hip hy hEy qx h4 HPD.out)
             clear ho10 hB10 b10 hlt10 hy hEy hvy hg10 hv10 hcyW hzi hvz)
          | (go_at_call 10; have _t := CM; refine CM.out.1.mono ?_; rintro e w11 ⟨MA, mn, mc, rfl, hrd, hbc, hbb⟩
             have b11 := CM.out.2.trans (hbb.mono CM.out.2.size)
             have XR11 := Lib.hid (XR7.out.below b11)
             have BE11 := Lib.hid (BE.out.trans (b11.mono BE.out.size))
             clear hrd hbc hbb b11 CM))
        obtain ⟨j, hjm, hjp, hij⟩ : ∃ j : Nat, ((i : Int) + 1).tmod (p : Int) = (j : Int) ∧ j < p ∧ i ≠ j := by
          rcases Nat.lt_or_ge (i + 1) p with h | h
          · exact ⟨i + 1, by rw [Int.tmod_eq_emod_of_nonneg (by omega), Int.emod_eq_of_lt (by omega) (by omega)]; omega, h, by omega⟩
          · have e : (p : Int) = (i : Int) + 1 := by omega
            exact ⟨0, by rw [e, Int.tmod_self]; rfl, by omega, by omega⟩
        have g0 : (0 : Int) ≤ (i : Int) := by omega
        have g1 : (i : Int) < (p : Int) := by omega
        have g2 : (0 : Int) ≤ (j : Int) := by omega
        have g3 : (j : Int) < (p : Int) := by omega
        have g6 : IntKind.i64.wrap ((i : Int) + 1) = (i : Int) + 1 := by rw [IntKind.wrap_i64]; omega
        have HIJ := Lib.hid hij
        clear hij
        go_upto_region 19 with (first
          | (at_builtin; refine wpList_appX (K := TK) rowsT rfl (.tmp 113) (.tmp 114) rfl w11.heap.size (.slice (some ⟨w11.heap.size, 0, none⟩) 0 0) 0 [] rfl (own_empty w11 w11.heap.size _ (Nat.le_refl _)) (some ⟨xb, xo, none⟩) p sc xv rfl (XR11.out.below ((Below.refl _ _).alloc (Nat.le_refl _) _)).row XR11.out.one (by omega) (by decide) (by simp) ?_; intro v8 w8 ho8 hg8 hv8
             have b8 : Below w11.heap.size w11 w8 := ((Below.refl _ _).alloc (Nat.le_refl _) _).trans (below_own (own_empty w11 w11.heap.size _ (Nat.le_refl _)) (by simp) hg8)
             rw [Nat.zero_add, List.nil_append] at ho8
             obtain ⟨g8, c8, rfl, hB8, hlt8⟩ := ho8.form px
             obtain ⟨yi, Ai, mi, ci, hyi, hvi, hciW, hEi⟩ := XR11.out.cell hip
             obtain ⟨yj, Aj, mj, cj, hyj, hvj, hcjW, hEj⟩ := XR11.out.cell hjp
             have hci := (b8.cell (p := ⟨xb, xo + i, none⟩) (World.block_lt_of_cell? _ _ hciW)).trans hciW
             have hcj := (b8.cell (p := ⟨xb, xo + j, none⟩) (World.block_lt_of_cell? _ _ hcjW)).trans hcjW
             have fi := ho8.frozenAt i
             have fj := ho8.frozenAt j
             have ki : w8.cell? ⟨g8, i, none⟩ = some (.slice Ai mi ci) := by
               have := ho8.cells (g := g8) rfl i _ hvi
               rwa [Addr.add_lit, Nat.zero_add] at this
             have kj : w8.cell? ⟨g8, j, none⟩ = some (.slice Aj mj cj) := by
               have := ho8.cells (g := g8) rfl j _ hvj
               rwa [Addr.add_lit, Nat.zero_add] at this
             have CT := Lib.hid (turned_join XR11.out HG.out.1 ho8 hB8 b8 hip hjp HIJ.out hyi hyj hEi hEj qx)
             clear ho8 hB8 b8 hlt8 hyi hyj hEi hEj hvi hvj hg8 hv8 hciW hcjW))
        have hcid : w8.drew.cell? ⟨xb, xo + i, none⟩ = some (.slice Ai mi ci) := hci
        have hcjd : w8.drew.cell? ⟨xb, xo + j, none⟩ = some (.slice Aj mj cj) := hcj
        have fid : w8.drew.frozen? ⟨g8, i, none⟩ = false := fi
        have fjd : w8.drew.frozen? ⟨g8, j, none⟩ = false := fj
        have kid : w8.drew.cell? ⟨g8, i, none⟩ = some (.slice Ai mi ci) := ki
        have kjd : w8.drew.cell? ⟨g8, j, none⟩ = some (.slice Aj mj cj) := kj
        have kjs : (w8.setCell ⟨g8, i, none⟩ (.slice Aj mj cj)).cell? ⟨g8, j, none⟩ = some (.slice Aj mj cj) := (World.cell?_setCell_other _ _ _ _ (by intro e; injection e with _ e; exact HIJ.out (by first | exact e | exact e.symm))).trans kj
        have kjsd : (w8.setCell ⟨g8, i, none⟩ (.slice Aj mj cj)).drew.cell? ⟨g8, j, none⟩ = some (.slice Aj mj cj) := kjs
        have fjs : (w8.setCell ⟨g8, i, none⟩ (.slice Aj mj cj)).frozen? ⟨g8, j, none⟩ = false := (World.frozen?_setCell _ _ _ _).trans fj
        go_region
        go_wp2_with (first
          | (go_at_call 10; refine CT.out.1.mono ?_; rintro e wt ⟨TA, tn', tc', rfl, hrd, hbc, hbb⟩
             have BT := Lib.hid (BE11.out.trans ((CT.out.2.trans (hbb.mono CT.out.2.size)).mono BE11.out.size))
             clear hrd hbc hbb)
          | (go_at_call 6; refine (live17_any _).mono ?_; rintro e wl ⟨rfl, hbl⟩
             have BL := Lib.hid (BT.out.trans (hbl.mono BT.out.size))
             clear hbl))
        go_ret
        exact ⟨rfl, BL.out⟩
end
end Go.Proofs.Ytndnmcdbfjgglaa
