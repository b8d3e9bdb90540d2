/- The contracts of Sigs, of the law's do; its live. -/
import Derived.Test.YtigiepmmgghjlaaGrP4
import Derived.Test.YtigiepmmgghjlaaBitsWi
import Derived.Test.YtigiepmmgghjlaaBitsAp
namespace Go.Proofs.Ytigiepmmgghjlaa
open Go.RowKit

theorem intsTG : El Try.prog 42 3 (.int .i64 0) 1 8 := intT
/-- Has s all of wi, and nothing of wo? -/
def fitG (wi wo s : Nat) : Bool := (butN wi s == 0) && (wo &&& s == 0)
/-- The nodes whose sets fit. -/
def sigsL (S : List Nat) (wi wo : Nat) : Nat → List Nat
  | 0 => []
  | n + 1 => sigsL S wi wo n ++ if fitG wi wo (S.getD n 0) = true then [n] else []
theorem sigsL_len (S : List Nat) (wi wo : Nat) : ∀ n, (sigsL S wi wo n).length ≤ n
  | 0 => Nat.le_refl _
  | n + 1 => by
    have := sigsL_len S wi wo n
    unfold sigsL
    split <;> simp <;> omega

section
variable {w w' : World} {own own' : Nat → Prop} {p m1 m2 b : Nat} {sv : Value} {S : List Nat} {ed : Int × Int → Option Nat}
theorem Sigs_nil (wi wo : Nat) (w : World) : Calls Try.prog 17 #[.pointer none, .int .u64 wi, .int .u64 wo] w fun e w' => e = .returned (.slice none 0 0) ∧ w = w' := by
  go_enter Try.func17, Try.ntmps17
  go_wp2
  go_ret
  exact ⟨rfl, rfl⟩
theorem Sigs_any (h : GAt w own p sv m1 m2 S ed b) (wi wo : Nat) (hwi : wi < 18446744073709551616) (hwo : wo < 18446744073709551616) (hS : S.length ≤ 1000000) :
    Calls Try.prog 17 #[.pointer (some ⟨p, 0, none⟩), .int .u64 wi, .int .u64 wo] w fun e w' => ∃ v, e = .returned v ∧ w'.ownsRow w.heap.size 3 1 v (sigsL S wi wo S.length).length (((sigsL S wi wo S.length).map Int.ofNat).map (Value.int .i64)) ∧ Below w.heap.size w w' := by
  obtain ⟨i0, hi0, hz0, hz1, hz2⟩ := info_parts intT.info
  obtain ⟨A, c, rfl, _, _, hr⟩ := own_openG h.row
  have c0 := h.c0
  have hcell : ∀ j, j < S.length → ∃ g, A = some ⟨g, 0, none⟩ ∧ g < w.heap.size ∧ w.cell? ⟨g, j, none⟩ = some (.int .u64 (S.getD j 0 : Nat)) ∧ S.getD j 0 < 18446744073709551616 := fun j hj => by
    obtain ⟨g, e, hg, hc⟩ := hr (by omega)
    have hi : S[j]? = some (S.getD j 0) := by rw [List.getD_eq_getElem?_getD, List.getElem?_eq_getElem hj]; rfl
    exact ⟨g, e, hg, by rw [hc j hj, setsV_get hi], h.ok.lt _ (List.mem_of_getElem? hi)⟩
  have HC := Lib.hid hcell
  obtain ⟨n, hn⟩ : ∃ n, n = S.length := ⟨_, rfl⟩
  rw [← hn] at HC c0 hS ⊢
  clear h hcell hr hn
  go_enter Try.func17, Try.ntmps17
  go_wp2
  go_loopw [7, 17] (fun v iv wr => ∃ (j : Nat) (pre : List Nat), j ≤ n ∧ iv = .int .i64 j ∧ pre = sigsL S wi wo j ∧ wr.ownsRow w.heap.size 3 1 v pre.length ((pre.map Int.ofNat).map (Value.int .i64)) ∧ Below w.heap.size w wr) (fun _ iv _ => n - (intOf iv).toNat)
  case atStart => exact ⟨0, [], Nat.zero_le _, rfl, rfl, World.ownsRow_nil _ _ _ _, Below.refl _ _⟩
  case round =>
    obtain ⟨j, pre, hj, rfl, hp, ho, hB⟩ := hrel
    have hbs := hB.size
    have HB := Lib.hid hB
    by_cases hjn : j < n
    · obtain ⟨g, rfl, hg, hk, hsl⟩ := HC.out j hjn
      have k0 := (hB.cell (p := ⟨g, j, none⟩) hg).trans hk
      have hsn : sigsL S wi wo (j + 1) = pre ++ if fitG wi wo (S.getD j 0) = true then [j] else [] := by rw [hp]; rfl
      have hpl : pre.length ≤ j := by rw [hp]; exact sigsL_len _ _ _ _
      obtain ⟨s, hs⟩ : ∃ s, s = S.getD j 0 := ⟨_, rfl⟩
      rw [← hs] at k0 hsl hsn
      have CW := Lib.hid (Within_any wi s wr hwi hsl)
      have CA := Lib.hid (Apart_any wo s wr hwo hsl)
      have hf : fitG wi wo s = ((butN wi s == 0) && (wo &&& s == 0)) := rfl
      obtain ⟨b1, hb1⟩ : ∃ x, x = (butN wi s == 0) := ⟨_, rfl⟩
      obtain ⟨b2, hb2⟩ : ∃ x, x = (wo &&& s == 0) := ⟨_, rfl⟩
      rw [← hb1] at CW
      rw [← hb2] at CA
      rw [← hb1, ← hb2] at hf
      rw [hf] at hsn
      clear hB hp hk hs hf hb1 hb2 hsl
      by_cases hb : (b1 && b2) = true
      · rw [if_pos hb] at hsn
        obtain ⟨rfl, rfl⟩ : b1 = true ∧ b2 = true := by simpa using hb
        have HSN := Lib.hid hsn
        clear hsn hb
        go_wp2_with (first
          | (go_at_call 26; refine CW.out.mono ?_; rintro e w' ⟨rfl, rfl⟩)
          | (go_at_call 27; refine CA.out.mono ?_; rintro e w' ⟨rfl, rfl⟩)
          | (at_builtin; refine wpList_append_own_at _ rfl _ _ 42 rfl w.heap.size 3 i0 (.int .i64 0) 1 8 Try.underlying42 hi0 hz0 hz1 hz2 rfl (by decide) _ _ _ rfl (ho.alloc _) ⟨wr.heap.size, 0, none⟩ 1 1 [.int .i64 j] rfl rfl (cell_one_new _ _ _) (fun u hu => by rw [List.mem_singleton.1 hu]; rfl) (by unfold maxLen; omega) (by omega) (by simp; omega) ?_; intro v' w4 ho4 hg4 _ _; try go_frame))
        go_roundw
        case rel =>
          refine ⟨j + 1, pre ++ [j], hjn, by go_num, HSN.out.symm, ?_, (HB.out.alloc hbs _).grown hg4 (by simp; omega) (fun q hq => (ho.lt q hq).1)⟩
          simpa using ho4
        case measure => simp [intOf]; omega
      · rw [if_neg hb, List.append_nil] at hsn
        have HSN := Lib.hid hsn
        clear hsn
        cases b1
        · clear CA
          go_wp2_with (first
            | (go_at_call 26; refine CW.out.mono ?_; rintro e w' ⟨rfl, rfl⟩))
          go_roundw
          case rel => exact ⟨j + 1, pre, hjn, by go_num, HSN.out.symm, ho, HB.out⟩
          case measure => simp [intOf]; omega
        · obtain rfl : b2 = false := by simpa using hb
          clear hb
          go_wp2_with (first
            | (go_at_call 26; refine CW.out.mono ?_; rintro e w' ⟨rfl, rfl⟩)
            | (go_at_call 27; refine CA.out.mono ?_; rintro e w' ⟨rfl, rfl⟩))
          go_roundw
          case rel => exact ⟨j + 1, pre, hjn, by go_num, HSN.out.symm, ho, HB.out⟩
          case measure => simp [intOf]; omega
    · obtain rfl : j = n := by omega
      have HP := Lib.hid hp
      clear hp hB
      go_wp2
      go_ret
      have e := HP.out
      subst e
      exact ⟨_, rfl, ho, HB.out⟩

/-- A step as it is handed over. -/
def Gst.val (x : Gst) : Value := .agg #[.int .i64 x.d, .int .u64 x.sig, .int .i64 x.n, .int .i64 x.c]
theorem GG.pre {w1 w2 : World} (hb : Below w.heap.size w w1) (h : GG w1 own p m1 m2 S b w2) : GG w own p m1 m2 S b w2 := by
  obtain ⟨ed, h⟩ := h
  exact ⟨ed, GGo.pre hb h⟩
theorem GG.mono {w2 : World} {b' : Nat} (h : GG w own p m1 m2 S b w2) (hb : b ≤ b') : GG w own p m1 m2 S b' w2 := by
  obtain ⟨ed, hf, own', sv', h1, h2, h3⟩ := h
  exact ⟨ed, hf, own', sv', h1, h2, h3.mono hb⟩
theorem do_any (dom : ∀ x, own x → x < w.heap.size) (h : GAt w own p sv m1 m2 S ed b) (x : Gst) (hpos : 0 < S.length) (hS : S.length ≤ 900000) (hb : b ≤ 1000000) :
    Calls Try.prog 8 #[.pointer (some ⟨p, 0, none⟩), x.val] w fun e w' => e = .returned (.int .i64 (gGo S x).2) ∧ GG w own p m1 m2 (gGo S x).1 (b + 2) w' := by
  obtain ⟨d, sig, n, c, hsig⟩ := x
  show Calls _ _ #[_, .agg #[.int .i64 d, .int .u64 sig, .int .i64 n, .int .i64 c]] _ _
  obtain ⟨w1, hw1⟩ : ∃ w1, w1 = w.alloc (.cells #[.int .i64 d, .int .u64 sig, .int .i64 n, .int .i64 c] 30) := ⟨_, rfl⟩
  have hB : Below w.heap.size w w1 := by rw [hw1]; exact (Below.refl _ _).alloc (Nat.le_refl _) _
  have hR : Rec 30 w1 w.heap.size #[.int .i64 d, .int .u64 sig, .int .i64 n, .int .i64 c] := by rw [hw1]; exact Rec.new _ _ _
  have k0 : w1.cell? ⟨w.heap.size, 0, none⟩ = some (.int .i64 d) := hR.at_ 0
  have k1 : w1.cell? ⟨w.heap.size, 1, none⟩ = some (.int .u64 sig) := hR.at_ 1
  have k2 : w1.cell? ⟨w.heap.size, 2, none⟩ = some (.int .i64 n) := hR.at_ 2
  have k3 : w1.cell? ⟨w.heap.size, 3, none⟩ = some (.int .i64 c) := hR.at_ 3
  have dom1 : ∀ x, own x → x < w1.heap.size := fun x hx => Nat.lt_of_lt_of_le (dom x hx) hB.size
  have h1 := h.below hB
  have HB := Lib.hid hB
  by_cases e1 : d = 1
  · have eg : gGo S ⟨d, sig, n, c, hsig⟩ = gMove S true n c := by unfold gGo; simp only; rw [if_pos e1]
    rw [eg]
    have C := GWith_any dom1 h1 n c hS hb
    obtain ⟨r, hr⟩ : ∃ r, r = (gMove S true n c).2 := ⟨_, rfl⟩
    rw [← hr] at C ⊢
    have C := Lib.hid C
    subst e1
    clear h dom hr hB hR dom1 h1 eg
    go_enter Try.func8, Try.ntmps8
    go_wp2_with (first
      | (rw [← hw1]; clear hw1)
      | (go_at_call 15; refine C.out.mono ?_; rintro e w' ⟨rfl, hG⟩; have HG := Lib.hid hG; clear hG))
    go_ret
    exact ⟨rfl, GG.pre HB.out HG.out⟩
  · have q1 : decide (d = 1) = false := decide_eq_false e1
    have q1' : (d == 1) = false := by simpa using e1
    by_cases e2 : d = 2
    · have eg : gGo S ⟨d, sig, n, c, hsig⟩ = gMove S false n c := by unfold gGo; simp only; rw [if_neg e1, if_pos e2]
      rw [eg]
      have C := GWithout_any dom1 h1 n c hS hb
      obtain ⟨r, hr⟩ : ∃ r, r = (gMove S false n c).2 := ⟨_, rfl⟩
      rw [← hr] at C ⊢
      have C := Lib.hid C
      subst e2
      clear h dom hr hB hR dom1 h1 eg e1 q1 q1'
      go_enter Try.func8, Try.ntmps8
      go_wp2_with (first
        | (rw [← hw1]; clear hw1)
        | (go_at_call 16; refine C.out.mono ?_; rintro e w' ⟨rfl, hG⟩; have HG := Lib.hid hG; clear hG))
      go_ret
      exact ⟨rfl, GG.pre HB.out HG.out⟩
    · have q2 : decide (d = 2) = false := decide_eq_false e2
      have q2' : (d == 2) = false := by simpa using e2
      have eg : gGo S ⟨d, sig, n, c, hsig⟩ = ((gNode S sig).1, ((gNode S sig).2 : Int)) := by unfold gGo; simp only; rw [if_neg e1, if_neg e2]
      rw [eg]
      have C := Node_any dom1 h1 sig hsig hpos (by omega)
      obtain ⟨r, hr⟩ : ∃ r, r = (gNode S sig).2 := ⟨_, rfl⟩
      rw [← hr] at C ⊢
      have C := Lib.hid C
      clear h dom hr hB hR dom1 h1 eg
      go_enter Try.func8, Try.ntmps8
      go_wp2_with (first
        | (rw [← hw1]; clear hw1)
        | (go_at_call 14; refine C.out.mono ?_; rintro e w' ⟨rfl, hG⟩; have HG := Lib.hid hG; clear hG))
      go_ret
      exact ⟨rfl, GG.pre HB.out (GG.mono ⟨_, HG.out⟩ (by omega))⟩
end
end Go.Proofs.Ytigiepmmgghjlaa
