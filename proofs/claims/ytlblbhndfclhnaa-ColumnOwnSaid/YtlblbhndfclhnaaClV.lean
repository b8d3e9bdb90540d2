/- A column of the call's own, blocks of keep none of its. -/
import Derived.Test.YtlblbhndfclhnaaClR5
namespace Go.Proofs.Ytlblbhndfclhnaa
open Go.RowKit

def Clv (w0 w : World) (p : Nat) (keep : Nat → Prop) (s : Co) : Prop :=
  ∃ own, Below w0.heap.size w0 w ∧ (∀ x, own x → w0.heap.size ≤ x) ∧ (∀ x, keep x → x < w.heap.size ∧ ¬ own x) ∧ (∀ x, own x → x < w.heap.size) ∧ ∃ v, ClAt w own p v s

section
variable {w0 w w' : World} {p : Nat} {keep keep' : Nat → Prop} {s s' : Co}
theorem Clv.under (h : Clv w0 w p keep s) : Below w0.heap.size w0 w := by obtain ⟨_, hb, _⟩ := h; exact hb
theorem Clv.ok (h : Clv w0 w p keep s) : s.Ok := by obtain ⟨_, _, _, _, _, _, I⟩ := h; exact I.ok
theorem Clv.less (h : Clv w0 w p keep s) (hk : ∀ x, keep' x → keep x) : Clv w0 w p keep' s := by
  obtain ⟨own, h1, h2, h3, h4⟩ := h
  exact ⟨own, h1, h2, fun x hx => h3 x (hk x hx), h4⟩
theorem Clv.more (h : Clv w0 w p keep s) (hb : Below w.heap.size w w') (more : Nat → Prop) (hm : ∀ x, more x → w.heap.size ≤ x ∧ x < w'.heap.size) : Clv w0 w' p (fun x => keep x ∨ more x) s := by
  obtain ⟨own, h1, h2, h3, hd, v, I⟩ := h
  refine ⟨own, h1.trans (hb.mono h1.size), h2, fun x hx => ?_, fun x hx => Nat.lt_of_lt_of_le (hd x hx) hb.size, v, I.below hb⟩
  rcases hx with hx | hx
  · exact ⟨Nat.lt_of_lt_of_le (h3 x hx).1 hb.size, (h3 x hx).2⟩
  · refine ⟨(hm x hx).2, fun ho => ?_⟩
    have := hd x ho
    have := (hm x hx).1
    omega
theorem Clv.below (h : Clv w0 w p keep s) (hb : Below w.heap.size w w') : Clv w0 w' p keep s := (h.more hb (fun _ => False) (fun _ hx => hx.elim)).less (fun _ hx => .inl hx)
theorem Clv.fr (h : Clv w0 w p keep s) {g : Nat} (hg : keep g) (h0 : w0.heap.size ≤ g) (hF : Fr (· = g) w w') : Clv w0 w' p keep s := by
  obtain ⟨own, h1, h2, h3, hd, v, I⟩ := h
  exact ⟨own, h1.trans (hF.toBelow (fun x hx => by rw [show x = g from hx]; exact h0) h1.size), h2, fun x hx => ⟨Nat.lt_of_lt_of_le (h3 x hx).1 hF.size, (h3 x hx).2⟩, fun x hx => Nat.lt_of_lt_of_le (hd x hx) hF.size, v, I.kept hF (fun x hx e => (h3 g hg).2 (by rw [← show x = g from e]; exact hx))⟩
theorem Clv.goes {own : Nat → Prop} (h1 : Below w0.heap.size w0 w) (h2 : ∀ x, own x → w0.heap.size ≤ x) (h3 : ∀ x, keep x → x < w.heap.size ∧ ¬ own x) (hG : ClGoes w own p s' w') : Clv w0 w' p keep s' ∧ WStays keep w w' := by
  obtain ⟨hf, own', ho, hd, hD⟩ := hG
  refine ⟨⟨own', h1.trans (hf.toBelow h2 h1.size), fun x hx => ?_, fun x hx => ⟨Nat.lt_of_lt_of_le (h3 x hx).1 hf.size, fun hx' => ?_⟩, hd, hD⟩, hf.size, fun x hx => hf.block x (h3 x hx).1 (h3 x hx).2⟩
  · rcases ho x hx with h | h
    · exact h2 x h
    · have := h1.size; omega
  · rcases ho x hx' with h | h
    · exact (h3 x hx).2 h
    · have := (h3 x hx).1; omega
theorem Clv.stays (h : Clv w0 w p keep s) (hb : Below w.heap.size w w') : WStays keep w w' := ⟨hb.size, fun x hx => by
  obtain ⟨own, _, _, h3, _⟩ := h
  exact hb.block x (h3 x hx).1⟩

theorem New_clv (n : Int) (w : World) :
    Calls Try.prog 7 #[.int .i64 n] w fun e w' => ∃ p, e = .returned (.pointer (some ⟨p, 0, none⟩)) ∧ Clv w w' p (· < w.heap.size) (Co.new n) := by
  refine (ClNew_any n w).mono ?_
  rintro e w' ⟨he, hb, hlt, I⟩
  exact ⟨_, he, (· = w.heap.size), hb, fun x hx => by rw [show x = w.heap.size from hx]; exact Nat.le_refl _, fun x hx => ⟨Nat.lt_of_lt_of_le hx hb.size, fun e => by have e' : x = w.heap.size := e; omega⟩, fun x hx => by rw [show x = w.heap.size from hx]; exact hlt, _, I⟩
theorem do_clv (h : Clv w0 w p keep s) (x : Cst) (hx : Rd w x.bA x.bn x.b) :
    Calls Try.prog 9 #[.pointer (some ⟨p, 0, none⟩), x.val] w fun e w' => ∃ A n c, e = .returned (.tuple #[.slice A n c, .int .i64 (s.go x.d x.a x.b).2.2]) ∧ (∀ q o, A = some ⟨q, o, none⟩ → w.heap.size ≤ q) ∧ Rd w' A n (s.go x.d x.a x.b).2.1 ∧ Clv w0 w' p keep (s.go x.d x.a x.b).1 ∧ WStays keep w w' := by
  obtain ⟨own, h1, h2, h3, hd, v, I⟩ := h
  refine (cldo_any hd I x hx).mono ?_
  rintro e w' ⟨A, n, c, he, hf, hr, hG⟩
  exact ⟨A, n, c, he, hf, hr, Clv.goes h1 h2 h3 hG⟩
theorem Add_clv (h : Clv w0 w p keep s) (A : Option Addr) (n c : Nat) (b : List UInt8) (hb : Rd w A n b) :
    Calls Try.prog 17 #[.pointer (some ⟨p, 0, none⟩), .slice A n c] w fun e w' => e = .returned (.int .i64 (s.go 0 0 b).2.2) ∧ Clv w0 w' p keep (s.go 0 0 b).1 ∧ WStays keep w w' := by
  obtain ⟨own, h1, h2, h3, hd, v, I⟩ := h
  exact (Add_any hd I 0 0 ⟨by decide, by decide, by decide⟩ A n c b hb).mono fun e w' ⟨he, hG⟩ => ⟨he, Clv.goes h1 h2 h3 hG⟩
theorem Len_clv (h : Clv w0 w p keep s) : Calls Try.prog 12 #[.pointer (some ⟨p, 0, none⟩)] w fun e w' => e = .returned (.int .i64 (s.rows.length : Nat)) ∧ w = w' := by
  obtain ⟨own, h1, h2, h3, hd, v, I⟩ := h
  exact Len_any I
theorem Size_clv (h : Clv w0 w p keep s) : Calls Try.prog 13 #[.pointer (some ⟨p, 0, none⟩)] w fun e w' => e = .returned (.int .i64 (s.sz : Nat)) ∧ w = w' := by
  obtain ⟨own, h1, h2, h3, hd, v, I⟩ := h
  exact Size_any I
theorem Bytes_clv (h : Clv w0 w p keep s) : Calls Try.prog 14 #[.pointer (some ⟨p, 0, none⟩)] w fun e w' => ∃ g n, e = .returned (.slice (some ⟨g, 0, none⟩) n n) ∧ w.heap.size ≤ g ∧ n = s.bytes.length ∧ w'.ownsRow g 5 1 (.slice (some ⟨g, 0, none⟩) n n) n (cells s.bytes) ∧ Below w.heap.size w w' := by
  obtain ⟨own, h1, h2, h3, hd, v, I⟩ := h
  refine (ClBytes_any I).mono ?_
  rintro e w' ⟨n, he, hO, hn, hB⟩
  exact ⟨_, n, he, Nat.le_refl _, hn, hO, hB⟩
theorem Get_clv (h : Clv w0 w p keep s) (k : Nat) (hk : k < s.rows.length) : Calls Try.prog 18 #[.pointer (some ⟨p, 0, none⟩), .int .i64 k] w fun e w' => ∃ g, e = .returned (.tuple #[.slice (some ⟨g, 0, none⟩) s.sz s.sz, .int .i64 0]) ∧ w.heap.size ≤ g ∧ w'.ownsRow g 5 1 (.slice (some ⟨g, 0, none⟩) s.sz s.sz) s.sz (cells (s.rows.getD k [])) ∧ Below w.heap.size w w' := by
  obtain ⟨own, h1, h2, h3, hd, v, I⟩ := h
  exact Get_ok I k hk
end
end Go.Proofs.Ytlblbhndfclhnaa
