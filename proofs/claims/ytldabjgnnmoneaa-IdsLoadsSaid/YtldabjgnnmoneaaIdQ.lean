/- What may be loaded, plainly; the program's Load. -/
import Derived.Test.YtldabjgnnmoneaaIdV
namespace Go.Proofs.Ytldabjgnnmoneaa
open Go.RowKit

def NS.pre (s : NS) (i : Nat) : NS := { s with fr := s.fr.take i }
/-- One index more is free. -/
def NS.freed (s : NS) (k : Int) : NS := { s with fr := s.fr ++ [k] }
/-- May s be loaded? -/
def LdOk (s : NS) : Prop := s.g.length ≤ s.E ∧ (∀ x ∈ s.g, 0 ≤ x ∧ x ≤ s.L) ∧ ∀ i, i < s.fr.length → (s.pre i).live (s.fr.getD i 0) = true ∧ s.g.getD (s.fr.getD i 0).toNat 0 ≠ 0

theorem NS.freed_ok {s : NS} (h : s.Ok) {k : Int} (hl : s.live k = true) (h0 : s.g.getD k.toNat 0 ≠ 0) : (s.freed k).Ok := by
  obtain ⟨l0, l1, l2, l3⟩ := NS.live_iff.1 hl
  have hg := h.gD k.toNat
  refine ⟨h.E1, h.E2, h.L1, h.L2, h.len, h.gz, fun x hx => ?_, ?_⟩
  · rcases List.mem_append.1 hx with hx | hx
    · exact h.fz x hx
    · rw [List.mem_singleton.1 hx]
      exact ⟨l0, l1, by show 1 ≤ s.g.getD k.toNat 0; omega, l3⟩
  · refine List.nodup_append.2 ⟨h.nd, by simp, fun a ha b hb e => ?_⟩
    rw [List.mem_singleton.1 hb] at e
    exact l2 (e ▸ ha)
theorem NS.freed_live {s : NS} {k : Int} (hl : s.live k = true) : (s.freed k).liveL = s.liveL.set k.toNat false := by
  obtain ⟨l0, l1, l2, l3⟩ := NS.live_iff.1 hl
  apply List.ext_getElem
  · simp [NS.liveL, NS.freed]
  · intro j p1 p2
    rw [NS.liveL_get, List.getElem_set]
    by_cases hij : k.toNat = j
    · rw [if_pos hij]
      apply Bool.eq_false_iff.2
      intro hh
      have := (NS.live_iff.1 hh).2.2.1
      exact this (List.mem_append.2 (.inr (List.mem_singleton.2 (by omega))))
    · rw [if_neg hij, NS.liveL_get]
      unfold NS.live NS.freed
      apply decide_eq_decide.2
      have hne : (j : Int) ≠ k := by omega
      simp [hne]
theorem NS.pre_succ (s : NS) {i : Nat} (h : i < s.fr.length) : s.pre (i + 1) = (s.pre i).freed (s.fr.getD i 0) := by
  unfold NS.pre NS.freed
  simp only
  rw [List.take_succ_eq_append_getElem h]
  simp [List.getD, List.getElem?_eq_getElem h]
theorem NS.pre_all (s : NS) : s.pre s.fr.length = s := by unfold NS.pre; rw [List.take_length]

section
variable {w0 w w' : World} {p : Nat} {keep : Nat → Prop} {s : NS}
theorem use_idv (h : Idv w0 w p keep s) (gen : Int) (hlen : s.g.length < s.E) (hg : 0 ≤ gen ∧ gen ≤ s.L) :
    Calls Try.prog 30 #[.pointer (some ⟨p, 0, none⟩), .int .i64 gen] w fun e w' => e = .returned (.tuple #[]) ∧ Idv w0 w' p keep (s.push gen) := by
  obtain ⟨own, h1, h2, h3, hd, gv, av, fv, I⟩ := h
  exact (use_any hd I gen hlen hg).mono fun e w' ⟨he, hG⟩ => ⟨he, (Idv.goes h1 h2 h3 hG).1⟩
theorem release_idv (h : Idv w0 w p keep s) (j : Nat) (hl : s.live (j : Int) = true) (h0 : s.g.getD j 0 ≠ 0) :
    Calls Try.prog 32 #[.pointer (some ⟨p, 0, none⟩), .int .i64 j] w fun e w' => e = .returned (.tuple #[]) ∧ Idv w0 w' p keep (s.freed (j : Int)) := by
  obtain ⟨own, h1, h2, h3, hd, gv, av, fv, I⟩ := h
  have hj : j < s.g.length := by have := (NS.live_iff.1 hl).2.1; omega
  have hll := NS.freed_live hl
  rw [Int.toNat_natCast] at hll
  exact (release_any hd j (s.freed (j : Int)) hj rfl rfl rfl hll rfl (NS.freed_ok I.ok hl (by rw [Int.toNat_natCast]; exact h0)) I.blk I.gens I.ali I.free I.apart I.ownp I.owng I.owna I.ownf I.ok.few).mono fun e w' ⟨he, hG⟩ => ⟨he, (Idv.goes h1 h2 h3 hG).1⟩
theorem lives_idv (h : Idv w0 w p keep s) (k : Int) : Calls Try.prog 31 #[.pointer (some ⟨p, 0, none⟩), .int .i64 k] w fun e w' => e = .returned (.bool (s.live k)) ∧ w = w' := by
  obtain ⟨own, h1, h2, h3, hd, gv, av, fv, I⟩ := h
  exact lives_any I k
theorem Idv.cells (h : Idv w0 w p keep s) : w.cell? ⟨p, 0, none⟩ = some (.int .i64 s.E) ∧ w.cell? ⟨p, 1, none⟩ = some (.int .i64 s.L) := by
  obtain ⟨own, h1, h2, h3, hd, gv, av, fv, I⟩ := h
  exact ⟨I.c0, I.c1⟩
theorem Idv.gcell (h : Idv w0 w p keep s) {j : Nat} (hj : j < s.g.length) : ∃ g c, w.cell? ⟨p, 2, none⟩ = some (.slice (some ⟨g, 0, none⟩) s.g.length c) ∧ w.cell? ⟨g, j, none⟩ = some (.int .i64 (s.g.getD j 0)) := by
  obtain ⟨own, h1, h2, h3, hd, gv, av, fv, I⟩ := h
  obtain ⟨A, c, rfl, _, _, hr⟩ := own_open I.gens
  obtain ⟨g, rfl, _, hc, _⟩ := hr (by omega)
  refine ⟨g, c, I.c2, ?_⟩
  rw [hc j hj, List.getElem?_map, List.getElem?_eq_getElem hj]
  simp [List.getD, List.getElem?_eq_getElem hj]
end

/-- What Load answers. -/
def LdSaid (w : World) (s : NS) (e : Ending) (w' : World) : Prop :=
  (LdOk s ∧ ∃ p, e = .returned (.tuple #[.pointer (some ⟨p, 0, none⟩), .int .i64 0]) ∧ Idv w w' p (· < w.heap.size) s) ∨ (¬ LdOk s ∧ e = .returned (.tuple #[.pointer none, .int .i64 11]) ∧ Below w.heap.size w w')

set_option maxRecDepth 20000 in
set_option maxHeartbeats 2000000 in
theorem Load_any (nE nG : Int) (GA : Option Addr) (gn gc : Nat) (gs : List Int) (FA : Option Addr) (fn fc : Nat) (fs : List Int) (w : World) (hg : IRd w GA gn gs) (hf : IRd w FA fn fs) (hgn : gn ≤ 1100) (hfn : fn ≤ 100) :
    Calls Try.prog 13 #[.int .i64 nE, .int .i64 nG, .slice GA gn gc, .slice FA fn fc] w (LdSaid w ⟨(nears nE 1024).toNat, nears nG 1073741824, gs, fs⟩) := by
  have CN := New_idv nE nG w
  have hbE := nears_bounds nE 1024 (by decide)
  have hbL := nears_bounds nG 1073741824 (by decide)
  unfold NS.new at CN
  obtain ⟨E, hE⟩ : ∃ E, E = (nears nE 1024).toNat := ⟨_, rfl⟩
  obtain ⟨L, hL⟩ : ∃ L, L = nears nG 1073741824 := ⟨_, rfl⟩
  rw [← hE, ← hL] at CN ⊢
  have hE1 : 1 ≤ E := by omega
  have hE2 : E ≤ 1024 := by omega
  have hL2 : L ≤ 1073741824 := by omega
  have hL1 : 1 ≤ L := by omega
  have CN' := Lib.hid CN
  have HG := Lib.hid hg
  have HF := Lib.hid hf
  clear CN hbE hbL hE hL hg hf
  go_enter Try.func13, Try.ntmps13
  go_wp2_with fail
  refine CN'.out.mono ?_
  rintro e w1 ⟨p, rfl, hD1⟩
  have k0 : w1.cell? ⟨p, 0, none⟩ = some (.int .i64 E) := hD1.cells.1
  have HD1 := Lib.hid hD1
  clear hD1 CN'
  by_cases hle : gn ≤ E
  case neg =>
    have hle2 : (E : Int) < gn := by omega
    go_wp2
    go_ret2
    exact .inr ⟨fun hh => hle (by have := hh.1; have := HG.out.1; simp only at *; omega), rfl, HD1.out.under⟩
  have hle2 : decide (E < gn) = false := decide_eq_false (by omega)
  have hle3 : decide ((E : Int) < gn) = false := decide_eq_false (by omega)
  go_wp2_with fail
  go_loopw [27] (fun iv wr => ∃ j : Nat, j ≤ gn ∧ iv = .int .i64 j ∧ (∀ x ∈ gs.take j, 0 ≤ x ∧ x ≤ L) ∧ Idv w wr p (· < w.heap.size) ⟨E, L, gs.take j, []⟩) (fun iv _ => gn - (intOf iv).toNat)
  case atStart => exact ⟨0, Nat.zero_le _, rfl, fun x hx => absurd hx (by simp), HD1.out⟩
  case round =>
    obtain ⟨j, hj, rfl, hgood, hD⟩ := hrel
    by_cases hjn : j < gn
    · have hjl : j < gs.length := by rw [HG.out.1]; exact hjn
      obtain ⟨b, o, hA, hbw, hc⟩ := HG.out.2 (by omega)
      have c0 := (hD.under.cell (p := ⟨b, o + j, none⟩) hbw).trans (hc j hjl)
      have k1 : wr.cell? ⟨p, 1, none⟩ = some (.int .i64 L) := hD.cells.2
      obtain ⟨z, hz⟩ : ∃ z, z = gs.getD j 0 := ⟨_, rfl⟩
      rw [← hz] at c0
      have hzj : gs[j] = z := by rw [hz]; simp [List.getD, List.getElem?_eq_getElem hjl]
      have hzm : z ∈ gs := by rw [← hzj]; exact List.getElem_mem hjl
      have htk : gs.take (j + 1) = gs.take j ++ [z] := by rw [List.take_succ_eq_append_getElem hjl, hzj]
      subst hA
      by_cases hzz : 0 ≤ z ∧ z ≤ L
      · have CU := use_idv hD z (by simp only [List.length_take]; omega) hzz
        have CU' := Lib.hid CU
        have HGD := Lib.hid hgood
        have HTK := Lib.hid htk
        obtain ⟨hz0, hz1⟩ := hzz
        have hd0 : decide (z < 0) = false := decide_eq_false (by omega)
        have hd1 : decide (L < z) = false := decide_eq_false (by omega)
        clear CU hc hz hzj hzm htk hD hgood
        go_wp2_with ((go_at_call 30); refine CU'.out.mono ?_; rintro e w2 ⟨rfl, hD2⟩; have HD2 := Lib.hid hD2; clear hD2)
        go_roundw
        case rel =>
          refine ⟨j + 1, hjn, by go_num, fun x hx => ?_, ?_⟩
          · rw [HTK.out] at hx
            rcases List.mem_append.1 hx with hx | hx
            · exact HGD.out x hx
            · rw [List.mem_singleton.1 hx]; exact ⟨hz0, hz1⟩
          · rw [HTK.out]; exact HD2.out
        case measure => simp [intOf]; omega
      · have HU := Lib.hid hD.under
        have HN : Hid (¬ LdOk ⟨E, L, gs, fs⟩) := Lib.hid (fun hh => hzz (hh.2.1 z hzm))
        clear hc hz hzj hzm htk hD hgood
        by_cases hz0 : 0 ≤ z
        · have hz1 : L < z := by omega
          have hd0 : decide (z < 0) = false := decide_eq_false (by omega)
          have hd1 : decide (L < z) = true := decide_eq_true hz1
          go_wp2
          go_ret2
          exact .inr ⟨HN.out, rfl, HU.out⟩
        · have hd0 : decide (z < 0) = true := decide_eq_true (by omega)
          go_wp2
          go_ret2
          exact .inr ⟨HN.out, rfl, HU.out⟩
    · obtain rfl : j = gn := by omega
      have htk : gs.take j = gs := List.take_of_length_le (by rw [HG.out.1]; exact Nat.le_refl _)
      rw [htk] at hD hgood
      have HD := Lib.hid hD
      have HGD := Lib.hid hgood
      clear hD hgood htk
      go_wp2_with fail
      go_loopw [47] (fun iv wr => ∃ i : Nat, i ≤ fn ∧ iv = .int .i64 i ∧ (∀ q, q < i → (NS.pre ⟨E, L, gs, fs⟩ q).live (fs.getD q 0) = true ∧ gs.getD (fs.getD q 0).toNat 0 ≠ 0) ∧ Idv w wr p (· < w.heap.size) (NS.pre ⟨E, L, gs, fs⟩ i)) (fun iv _ => fn - (intOf iv).toNat)
      case atStart => exact ⟨0, Nat.zero_le _, rfl, fun q hq => absurd hq (Nat.not_lt_zero q), HD.out⟩
      case round =>
        obtain ⟨i, hi, rfl, hgd, hD⟩ := hrel
        by_cases hin : i < fn
        · have hil : i < fs.length := by rw [HF.out.1]; exact hin
          obtain ⟨b, o, hA, hbw, hc⟩ := HF.out.2 (by omega)
          have c0 := (hD.under.cell (p := ⟨b, o + i, none⟩) hbw).trans (hc i hil)
          obtain ⟨k, hk⟩ : ∃ k, k = fs.getD i 0 := ⟨_, rfl⟩
          rw [← hk] at c0
          have CL := Lib.hid (lives_idv hD k)
          have hps := NS.pre_succ ⟨E, L, gs, fs⟩ hil
          simp only at hps
          rw [← hk] at hps
          have HPS := Lib.hid hps
          have HGQ := Lib.hid hgd
          have HK := Lib.hid hk
          have HU := Lib.hid hD.under
          have HIL := Lib.hid hil
          subst hA
          cases hl : (NS.pre ⟨E, L, gs, fs⟩ i).live k
          · have HN : Hid (¬ LdOk ⟨E, L, gs, fs⟩) := Lib.hid (fun hh => by
              have := (hh.2.2 i hil).1
              simp only at this
              rw [← hk, hl] at this
              cases this)
            rw [hl] at CL
            clear hc hk hps hgd hD hil hl
            go_wp2_with ((go_at_call 31); refine CL.out.mono ?_; rintro e w2 ⟨rfl, rfl⟩)
            go_ret2
            exact .inr ⟨HN.out, rfl, HU.out⟩
          · obtain ⟨l0, l1, l2, l3⟩ := NS.live_iff.1 hl
            obtain ⟨m, rfl⟩ : ∃ m : Nat, k = (m : Int) := ⟨k.toNat, by omega⟩
            have hml : m < (NS.pre ⟨E, L, gs, fs⟩ i).g.length := by omega
            obtain ⟨g2, c2, k2, d2⟩ := hD.gcell hml
            have hm2 : m < gs.length := hml
            have egs : (NS.pre ⟨E, L, gs, fs⟩ i).g = gs := rfl
            rw [egs] at k2 d2
            obtain ⟨z, hz⟩ : ∃ z, z = gs.getD m 0 := ⟨_, rfl⟩
            rw [← hz] at d2
            rw [hl] at CL
            by_cases hz0 : z = 0
            · have HN : Hid (¬ LdOk ⟨E, L, gs, fs⟩) := Lib.hid (fun hh => by
                have := (hh.2.2 i hil).2
                simp only at this
                rw [← hk, Int.toNat_natCast, ← hz] at this
                exact this hz0)
              subst hz0
              clear hc hk hps hgd hD hil hl l0 l1 l2 l3 hz egs hml
              go_wp2_with ((go_at_call 31); refine CL.out.mono ?_; rintro e w2 ⟨rfl, rfl⟩)
              go_ret2
              exact .inr ⟨HN.out, rfl, HU.out⟩
            · have CR := Lib.hid (release_idv hD m hl (by rw [egs, ← hz]; exact hz0))
              have HL2 := Lib.hid hl
              have HZ := Lib.hid hz
              have hz1 : (z == 0) = false := by simpa using hz0
              clear hc hk hps hgd hD hil hl l0 l1 l2 l3 hz egs hml
              go_wp2_with (first
                | ((go_at_call 31); refine CL.out.mono ?_; rintro e w2 ⟨rfl, rfl⟩)
                | ((go_at_call 32); refine CR.out.mono ?_; rintro e w3 ⟨rfl, hD3⟩; have HD3 := Lib.hid hD3; clear hD3))
              go_roundw
              case rel =>
                refine ⟨i + 1, hin, by go_num, fun q hq => ?_, by rw [HPS.out]; exact HD3.out⟩
                by_cases hqi : q = i
                · subst hqi
                  rw [← HK.out, Int.toNat_natCast, ← HZ.out]
                  exact ⟨HL2.out, hz0⟩
                · exact HGQ.out q (by omega)
              case measure => simp [intOf]; omega
        · obtain rfl : i = fn := by omega
          have he : NS.pre ⟨E, L, gs, fs⟩ i = ⟨E, L, gs, fs⟩ := by
            have := NS.pre_all ⟨E, L, gs, fs⟩
            simp only [HF.out.1] at this
            exact this
          rw [he] at hD
          have HY : Hid (LdOk ⟨E, L, gs, fs⟩) := Lib.hid ⟨by show gs.length ≤ E; rw [HG.out.1]; exact hle, HGD.out, fun q hq => hgd q (by rw [← HF.out.1]; exact hq)⟩
          have HDF := Lib.hid hD
          clear hgd hD he
          go_wp2
          go_ret2
          exact .inl ⟨HY.out, p, rfl, HDF.out⟩
end Go.Proofs.Ytldabjgnnmoneaa
