/- A graph of the call's own, blocks of keep none of its; the law's live. -/
import Derived.Test.YtigiepmmgghjlaaGrP5
namespace Go.Proofs.Ytigiepmmgghjlaa
open Go.RowKit

/-- What keep names is as it was. -/
def GStays (K : Nat → Prop) (w w' : World) : Prop := w.heap.size ≤ w'.heap.size ∧ ∀ x, K x → w'.heap[x]? = w.heap[x]?
def Gv (w0 w : World) (p m1 m2 : Nat) (keep : Nat → Prop) (S : List Nat) (b : Nat) : Prop :=
  ∃ own sv ed, Below w0.heap.size w0 w ∧ (∀ x, own x → w0.heap.size ≤ x) ∧ (∀ x, keep x → x < w.heap.size ∧ ¬ own x) ∧ (∀ x, own x → x < w.heap.size) ∧ GAt w own p sv m1 m2 S ed b

section
variable {w0 w w' : World} {p m1 m2 b : Nat} {keep keep' : Nat → Prop} {S S' : List Nat}
theorem Gv.under (h : Gv w0 w p m1 m2 keep S b) : Below w0.heap.size w0 w := by obtain ⟨_, _, _, hb, _⟩ := h; exact hb
theorem Gv.ok (h : Gv w0 w p m1 m2 keep S b) : SOk S := by obtain ⟨_, _, _, _, _, _, _, I⟩ := h; exact I.ok
theorem Gv.less (h : Gv w0 w p m1 m2 keep S b) (hk : ∀ x, keep' x → keep x) : Gv w0 w p m1 m2 keep' S b := by
  obtain ⟨own, sv, ed, h1, h2, h3, h4⟩ := h
  exact ⟨own, sv, ed, h1, h2, fun x hx => h3 x (hk x hx), h4⟩
theorem Gv.more (h : Gv w0 w p m1 m2 keep S b) (hb : Below w.heap.size w w') (more : Nat → Prop) (hm : ∀ x, more x → w.heap.size ≤ x ∧ x < w'.heap.size) : Gv w0 w' p m1 m2 (fun x => keep x ∨ more x) S b := by
  obtain ⟨own, sv, ed, h1, h2, h3, hd, I⟩ := h
  refine ⟨own, sv, ed, h1.trans (hb.mono h1.size), h2, fun x hx => ?_, fun x hx => Nat.lt_of_lt_of_le (hd x hx) hb.size, I.below hb⟩
  rcases hx with hx | hx
  · exact ⟨Nat.lt_of_lt_of_le (h3 x hx).1 hb.size, (h3 x hx).2⟩
  · refine ⟨(hm x hx).2, fun ho => ?_⟩
    have := hd x ho
    have := (hm x hx).1
    omega
theorem Gv.below (h : Gv w0 w p m1 m2 keep S b) (hb : Below w.heap.size w w') : Gv w0 w' p m1 m2 keep S b := (h.more hb (fun _ => False) (fun _ hx => hx.elim)).less (fun _ hx => .inl hx)
theorem Gv.goes {own : Nat → Prop} (h1 : Below w0.heap.size w0 w) (h2 : ∀ x, own x → w0.heap.size ≤ x) (h3 : ∀ x, keep x → x < w.heap.size ∧ ¬ own x) (hG : GG w own p m1 m2 S' b w') : Gv w0 w' p m1 m2 keep S' b ∧ GStays keep w w' := by
  obtain ⟨ed, hf, own', sv', ho, hD, I⟩ := hG
  refine ⟨⟨own', sv', ed, h1.trans (hf.toBelow h2 h1.size), fun x hx => ?_, fun x hx => ⟨Nat.lt_of_lt_of_le (h3 x hx).1 hf.size, fun hx' => ?_⟩, hD, I⟩, hf.size, fun x hx => hf.block x (h3 x hx).1 (h3 x hx).2⟩
  · rcases ho x hx with h | h
    · exact h2 x h
    · have := h1.size; omega
  · rcases ho x hx' with h | h
    · exact (h3 x hx).2 h
    · have := (h3 x hx).1; omega

theorem New_gv (w : World) :
    Calls Try.prog 7 #[] w fun e w' => ∃ p m1 m2, e = .returned (.pointer (some ⟨p, 0, none⟩)) ∧ Gv w w' p m1 m2 (· < w.heap.size) [0] 0 := by
  refine (GNew_any w).mono ?_
  rintro e w' ⟨he, own, m1, m2, ho, hb, hG⟩
  obtain ⟨hf, own', sv', h1, h2, I⟩ := hG
  refine ⟨_, m1, m2, he, own', sv', _, hb, fun x hx => ?_, fun x hx => ⟨Nat.lt_of_lt_of_le hx hb.size, fun hx' => ?_⟩, h2, I⟩
  · rcases h1 x hx with h | h
    · exact ho x h
    · exact h
  · have hx : x < w.heap.size := hx
    rcases h1 x hx' with h | h
    · have := ho x h; omega
    · omega
theorem do_gv (h : Gv w0 w p m1 m2 keep S b) (x : Gst) (hpos : 0 < S.length) (hS : S.length ≤ 900000) (hb : b ≤ 1000000) :
    Calls Try.prog 8 #[.pointer (some ⟨p, 0, none⟩), x.val] w fun e w' => e = .returned (.int .i64 (gGo S x).2) ∧ Gv w0 w' p m1 m2 keep (gGo S x).1 (b + 2) ∧ GStays keep w w' := by
  obtain ⟨own, sv, ed, h1, h2, h3, hd, I⟩ := h
  exact (do_any hd I x hpos hS hb).mono fun e w' ⟨he, hG⟩ => ⟨he, Gv.goes h1 h2 h3 hG⟩
theorem Node_gv (h : Gv w0 w p m1 m2 keep S b) (s : Nat) (hs : s < 18446744073709551616) (hpos : 0 < S.length) (hS : S.length ≤ 1000000) :
    Calls Try.prog 14 #[.pointer (some ⟨p, 0, none⟩), .int .u64 s] w fun e w' => e = .returned (.int .i64 ((gNode S s).2 : Nat)) ∧ Gv w0 w' p m1 m2 keep (gNode S s).1 b ∧ GStays keep w w' := by
  obtain ⟨own, sv, ed, h1, h2, h3, hd, I⟩ := h
  exact (Node_any hd I s hs hpos hS).mono fun e w' ⟨he, hG⟩ => ⟨he, Gv.goes h1 h2 h3 ⟨_, hG⟩⟩
theorem With_gv (h : Gv w0 w p m1 m2 keep S b) (n c : Int) (hS : S.length ≤ 900000) (hb : b ≤ 1000000) :
    Calls Try.prog 15 #[.pointer (some ⟨p, 0, none⟩), .int .i64 n, .int .i64 c] w fun e w' => e = .returned (.int .i64 (gMove S true n c).2) ∧ Gv w0 w' p m1 m2 keep (gMove S true n c).1 (b + 2) ∧ GStays keep w w' := by
  obtain ⟨own, sv, ed, h1, h2, h3, hd, I⟩ := h
  exact (GWith_any hd I n c hS hb).mono fun e w' ⟨he, hG⟩ => ⟨he, Gv.goes h1 h2 h3 hG⟩
theorem Without_gv (h : Gv w0 w p m1 m2 keep S b) (n c : Int) (hS : S.length ≤ 900000) (hb : b ≤ 1000000) :
    Calls Try.prog 16 #[.pointer (some ⟨p, 0, none⟩), .int .i64 n, .int .i64 c] w fun e w' => e = .returned (.int .i64 (gMove S false n c).2) ∧ Gv w0 w' p m1 m2 keep (gMove S false n c).1 (b + 2) ∧ GStays keep w w' := by
  obtain ⟨own, sv, ed, h1, h2, h3, hd, I⟩ := h
  exact (GWithout_any hd I n c hS hb).mono fun e w' ⟨he, hG⟩ => ⟨he, Gv.goes h1 h2 h3 hG⟩
theorem Len_gv (h : Gv w0 w p m1 m2 keep S b) : Calls Try.prog 10 #[.pointer (some ⟨p, 0, none⟩)] w fun e w' => e = .returned (.int .i64 S.length) ∧ w = w' := by
  obtain ⟨own, sv, ed, h1, h2, h3, hd, I⟩ := h
  exact Len_any I
end

theorem mv1 : gMove [0] true 0 3 = ([0, 8], 1) := by decide +kernel
theorem mv2 : gMove [0, 8] true 0 3 = ([0, 8], 1) := by decide +kernel
theorem mv3 : gMove [0, 8] false 1 3 = ([0, 8], 0) := by decide +kernel

set_option maxRecDepth 10000 in
theorem live_any (w : World) : Calls Try.prog 6 #[] w fun e w' => e = .returned (.bool true) ∧ Below w.heap.size w w' := by
  have CN := Lib.hid (New_gv w)
  go_enter Try.func6, Try.ntmps6
  go_wp2_with fail
  refine CN.out.mono ?_
  rintro e w1 ⟨p, m1, m2, rfl, hD1⟩
  have C1 := With_gv hD1 0 3 (by decide) (by decide)
  rw [mv1] at C1
  have C1 := Lib.hid C1
  clear hD1
  go_wp2_with fail
  refine C1.out.mono ?_
  rintro e w2 ⟨rfl, hD2, _⟩
  have C2 := With_gv hD2 0 3 (by decide) (by decide)
  rw [mv2] at C2
  have C2 := Lib.hid C2
  clear hD2
  go_wp2_with fail
  refine C2.out.mono ?_
  rintro e w3 ⟨rfl, hD3, _⟩
  have C3 := Without_gv hD3 1 3 (by decide) (by decide)
  rw [mv3] at C3
  have C3 := Lib.hid C3
  clear hD3
  go_wp2_with fail
  refine C3.out.mono ?_
  rintro e w4 ⟨rfl, hD4, _⟩
  have C4 := Lib.hid (Len_gv hD4)
  have HB4 := Lib.hid hD4.under
  clear hD4
  go_wp2_with fail
  refine C4.out.mono ?_
  rintro e w' ⟨rfl, rfl⟩
  go_wp2
  go_ret
  exact ⟨rfl, HB4.out⟩
end Go.Proofs.Ytigiepmmgghjlaa
