/- Rows of bytes, all of one size: plain mathematics. -/
import Derived.Test.YtlblbhndfclhnaaMem
namespace Go.Proofs.Ytlblbhndfclhnaa
open Go.RowKit

/-- Rows of one size. -/
structure Co where
  sz : Nat
  rows : List (List UInt8)
def Co.bytes (s : Co) : List UInt8 := s.rows.flatten
structure Co.Ok (s : Co) : Prop where
  z : s.sz ≤ 64
  n : s.rows.length ≤ 1024
  each : ∀ r ∈ s.rows, r.length = s.sz
def Co.new (n : Int) : Co := ⟨(min (max n 0) 64).toNat, []⟩
theorem Co.new_ok (n : Int) : (Co.new n).Ok := ⟨by show (min (max n 0) 64).toNat ≤ 64; omega, by simp [Co.new], fun r hr => by simp [Co.new] at hr⟩

section
variable {z : Nat} {L : List (List UInt8)}
theorem flat_len (h : ∀ r ∈ L, r.length = z) : L.flatten.length = L.length * z := by
  induction L with
  | nil => simp
  | cons a L ih =>
    rw [List.flatten_cons, List.length_append, h a List.mem_cons_self, ih (fun r hr => h r (List.mem_cons_of_mem _ hr)), List.length_cons, Nat.succ_mul]
    omega
theorem flat_take (h : ∀ r ∈ L, r.length = z) (k : Nat) : L.flatten.take (k * z) = (L.take k).flatten := by
  induction L generalizing k with
  | nil => simp
  | cons a L ih =>
    cases k with
    | zero => simp
    | succ k =>
      have ha := h a List.mem_cons_self
      rw [List.flatten_cons, List.take_succ_cons, List.flatten_cons, List.take_append, List.take_of_length_le (by rw [ha, Nat.succ_mul]; omega), ha, show (k + 1) * z - z = k * z by rw [Nat.succ_mul]; omega, ih (fun r hr => h r (List.mem_cons_of_mem _ hr))]
theorem flat_drop (h : ∀ r ∈ L, r.length = z) (k : Nat) : L.flatten.drop (k * z) = (L.drop k).flatten := by
  induction L generalizing k with
  | nil => simp
  | cons a L ih =>
    cases k with
    | zero => simp
    | succ k =>
      have ha := h a List.mem_cons_self
      rw [List.flatten_cons, List.drop_succ_cons, List.drop_append, List.drop_eq_nil_of_le (by rw [ha, Nat.succ_mul]; omega), ha, show (k + 1) * z - z = k * z by rw [Nat.succ_mul]; omega, ih (fun r hr => h r (List.mem_cons_of_mem _ hr)), List.nil_append]
theorem flat_row (h : ∀ r ∈ L, r.length = z) (k : Nat) (hk : k < L.length) : (L.flatten.drop (k * z)).take z = L.getD k [] := by
  rw [flat_drop h, List.drop_eq_getElem_cons hk, List.flatten_cons, List.take_append, List.take_of_length_le (by rw [h _ (List.getElem_mem hk)]; exact Nat.le_refl _), h _ (List.getElem_mem hk), Nat.sub_self, List.take_zero, List.append_nil]
  simp [List.getD, List.getElem?_eq_getElem hk]
theorem flat_set (h : ∀ r ∈ L, r.length = z) (k : Nat) (hk : k < L.length) (b : List UInt8) (hb : b.length = z) : L.flatten.take (k * z) ++ (b ++ L.flatten.drop (k * z + b.length)) = (L.set k b).flatten := by
  rw [flat_take h, hb, show k * z + z = (k + 1) * z by rw [Nat.succ_mul], flat_drop h, List.set_eq_take_append_cons_drop, if_pos hk, List.flatten_append, List.flatten_cons]
end

theorem splice_cells' (l : List UInt8) (p : Nat) (b : List UInt8) : splice (cells l) p (cells b) = cells (l.take p ++ (b ++ l.drop (p + b.length))) := by
  simp [splice, cells_append, cells_take, cells_drop]

section
variable {s : Co}
theorem Co.Ok.len (h : s.Ok) : s.bytes.length = s.rows.length * s.sz := flat_len h.each
theorem Co.Ok.small (h : s.Ok) : s.bytes.length ≤ 65536 := by
  rw [h.len]
  exact Nat.le_trans (Nat.mul_le_mul h.n h.z) (by decide)
theorem Co.Ok.small' (h : s.Ok) : s.rows.length * s.sz ≤ 65536 := h.len ▸ h.small
theorem Co.fit {k : Nat} (hk : k < s.rows.length) : k * s.sz + s.sz ≤ s.rows.length * s.sz := by
  rw [← Nat.succ_mul]
  exact Nat.mul_le_mul_right _ hk
theorem Co.Ok.getD (h : s.Ok) {k : Nat} (hk : k < s.rows.length) : (s.rows.getD k []).length = s.sz := by
  have e : s.rows.getD k [] = s.rows[k] := by simp [List.getD, List.getElem?_eq_getElem hk]
  rw [e]
  exact h.each _ (List.getElem_mem hk)
/-- One row turned. -/
def Co.set (s : Co) (k : Nat) (b : List UInt8) : Co := ⟨s.sz, s.rows.set k b⟩
theorem Co.Ok.set (h : s.Ok) (k : Nat) (b : List UInt8) (hb : b.length = s.sz) : (s.set k b).Ok :=
  ⟨h.z, by simp only [Co.set, List.length_set]; exact h.n, fun r hr => by
    rcases List.mem_or_eq_of_mem_set hr with h1 | h1
    · exact h.each r h1
    · rw [h1]; exact hb⟩
theorem Co.set_bytes (h : s.Ok) (k : Nat) (hk : k < s.rows.length) (b : List UInt8) (hb : b.length = s.sz) : splice (cells s.bytes) (k * s.sz) (cells b) = cells (s.set k b).bytes := by
  rw [splice_cells']
  exact congrArg cells (flat_set h.each k hk b hb)
/-- One row more. -/
def Co.add (s : Co) (b : List UInt8) : Co := ⟨s.sz, s.rows ++ [b]⟩
theorem Co.Ok.add (h : s.Ok) (b : List UInt8) (hb : b.length = s.sz) (hn : s.rows.length ≠ 1024) : (s.add b).Ok :=
  ⟨h.z, by have := h.n; simp only [Co.add, List.length_append, List.length_singleton]; omega, fun r hr => by
    rcases List.mem_append.1 hr with h1 | h1
    · exact h.each r h1
    · rw [List.mem_singleton.1 h1]; exact hb⟩
theorem Co.add_bytes (s : Co) (b : List UInt8) : (s.add b).bytes = s.bytes ++ b := by simp [Co.add, Co.bytes]
/-- The last row left out. -/
def Co.cut (s : Co) : Co := ⟨s.sz, s.rows.take (s.rows.length - 1)⟩
theorem Co.Ok.cut (h : s.Ok) : s.cut.Ok := ⟨h.z, by have := h.n; simp only [Co.cut, List.length_take]; omega, fun r hr => h.each r (List.mem_of_mem_take hr)⟩
theorem Co.cut_bytes (h : s.Ok) : s.bytes.take ((s.rows.length - 1) * s.sz) = s.cut.bytes := flat_take h.each _
/-- The last row at place k, and left out at the end. -/
def Co.drop (s : Co) (k : Nat) : Co := (s.set k (s.rows.getD (s.rows.length - 1) [])).cut
theorem Co.Ok.drop (h : s.Ok) {k : Nat} (hk : k < s.rows.length) : (s.drop k).Ok := (h.set k _ (h.getD (by omega))).cut

/-- One step: what it makes, what is got, the error. -/
def Co.go (s : Co) (d a : Int) (b : List UInt8) : Co × (List UInt8 × Int) :=
  if d = 1 then (if 0 ≤ a ∧ a < s.rows.length then (if b.length = s.sz then (s.set a.toNat b, [], 0) else (s, [], 7)) else (s, [], 2))
  else if d = 2 then (if 0 ≤ a ∧ a < s.rows.length then (s, s.rows.getD a.toNat [], 0) else (s, [], 2))
  else if d = 3 then (if 0 ≤ a ∧ a < s.rows.length then (s.drop a.toNat, [], 0) else (s, [], 2))
  else if b.length = s.sz then (if s.rows.length = 1024 then (s, [], 9) else (s.add b, [], 0)) else (s, [], 7)
theorem Co.Ok.go (h : s.Ok) (d a : Int) (b : List UInt8) : (s.go d a b).1.Ok := by
  unfold Co.go
  split
  · split
    · split
      · exact h.set _ _ (by assumption)
      · exact h
    · exact h
  · split
    · split <;> exact h
    · split
      · split
        · exact h.drop (by omega)
        · exact h
      · split
        · split
          · exact h
          · exact h.add _ (by assumption) (by assumption)
        · exact h
end
end Go.Proofs.Ytlblbhndfclhnaa
