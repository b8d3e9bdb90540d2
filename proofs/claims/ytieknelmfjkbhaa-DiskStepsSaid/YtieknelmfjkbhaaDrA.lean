/- The reference's device as a plain state, its steps, and that they agree with the program's (St). Plain. -/
import Derived.Test.YtieknelmfjkbhaaDr10
import Derived.Test.YtieknelmfjkbhaaDkI
namespace Go.Proofs.Ytieknelmfjkbhaa
open Go.RowKit

structure Rs where
  safe : List (List UInt8)
  wait : List (Nat × List UInt8)
  fuse : Int
  off : Bool
  rd : Int
  wr : Int
/-- What a fate makes of a sector. -/
def fatedL (sec : List UInt8) (l : List (List UInt8)) (kept torn : Int) : List UInt8 :=
  let n := (min (max kept 0) (l.length : Int)).toNat
  let whole := if n = 0 then sec else l.getD (n - 1) []
  if n < l.length then tearL whole (l.getD n []) torn else whole
def crashN (safe : List (List UInt8)) (ls : List (Nat × List UInt8)) (ft : Nat → Int × Int) : Nat → List (List UInt8)
  | 0 => safe
  | n + 1 => (crashN safe ls ft n).set ((dirtyR safe.length ls).getD n 0) (fatedL (safe.getD ((dirtyR safe.length ls).getD n 0) []) (fl ((dirtyR safe.length ls).getD n 0) ls) (ft n).1 (ft n).2)
def crashL (safe : List (List UInt8)) (ls : List (Nat × List UInt8)) (ft : Nat → Int × Int) : List (List UInt8) := crashN safe ls ft (dirtyR safe.length ls).length
def Rs.go (r : Rs) (x : Stp) : Rs × (List UInt8 × Int) :=
  if x.d = 3 then ({ r with fuse := if x.a < 0 then -1 else x.a }, [], 0)
  else if x.d = 4 then (⟨crashL r.safe r.wait x.ft, [], -1, false, r.rd, r.wr⟩, [], 0)
  else if x.d ≠ 2 ∧ (x.a < 0 ∨ (r.safe.length : Int) ≤ x.a) then (r, [], 2)
  else if r.off = true ∨ r.fuse = 0 then ({ r with off := true }, [], 3)
  else if x.d = 1 then ({ r with fuse := if 0 < r.fuse then r.fuse - 1 else r.fuse, wr := r.wr + 1, wait := r.wait ++ [(x.a.toNat, cut 512 x.b)] }, [], 0)
  else if x.d = 2 then ({ r with fuse := if 0 < r.fuse then r.fuse - 1 else r.fuse, safe := syncL r.safe r.wait, wait := [] }, [], 0)
  else ({ r with fuse := if 0 < r.fuse then r.fuse - 1 else r.fuse, rd := r.rd + 1 }, lastR r.safe r.wait x.a.toNat, 0)

structure Agree (s : St) (r : Rs) : Prop where
  n : r.safe.length = s.k
  sec : ∀ i, i < s.k → r.safe.getD i [] = s.sec i
  wait : ∀ i, fl i r.wait = s.wait i
  ins : ∀ x ∈ r.wait, x.1 < s.k
  fuse : r.fuse = s.fuse ∨ (r.fuse < 0 ∧ s.fuse < 0)
  off : r.off = s.off
  rd : r.rd = s.rd
  wr : r.wr = s.wr

theorem getD_set_same (l : List (List UInt8)) (i : Nat) (v : List UInt8) (h : i < l.length) : (l.set i v).getD i [] = v := by
  rw [List.getD, List.getElem?_set_self h]; rfl
theorem getD_set_other (l : List (List UInt8)) (i j : Nat) (v : List UInt8) (h : ¬ j = i) : (l.set j v).getD i [] = l.getD i [] := by
  rw [List.getD, List.getElem?_set_ne h, ← List.getD]
theorem fl_cons (i : Nat) (x : Nat × List UInt8) (l : List (Nat × List UInt8)) : fl i (x :: l) = if x.1 = i then x.2 :: fl i l else fl i l := by
  unfold fl
  by_cases h : x.1 = i <;> simp [h]
theorem syncL_get (ls : List (Nat × List UInt8)) : ∀ (safe : List (List UInt8)) (i : Nat), i < safe.length → (syncL safe ls).getD i [] = lastR safe ls i := by
  induction ls with
  | nil => intro safe i _; rfl
  | cons x l ih =>
    intro safe i hi
    show (syncL (safe.set x.1 x.2) l).getD i [] = _
    rw [ih _ _ (by rw [List.length_set]; exact hi)]
    unfold lastR
    rw [fl_cons]
    by_cases h : x.1 = i
    · rw [if_pos h, h, getD_set_same _ _ _ hi, List.getLastD_cons]
    · rw [if_neg h, getD_set_other _ _ _ _ h]

section
variable {s : St} {r : Rs}
theorem Agree.dirty (h : Agree s r) : dirtyR r.safe.length r.wait = s.dirty := by
  unfold dirtyR St.dirty
  rw [h.n]
  exact List.filter_congr fun i _ => by rw [h.wait i]
theorem Agree.last (h : Agree s r) (i : Nat) (hi : i < s.k) : lastR r.safe r.wait i = s.last i := by
  unfold lastR St.last
  rw [h.wait i, h.sec i hi]
theorem dirty_apart (s : St) (a b : Nat) (hab : a < b) (hb : b < s.dirty.length) : ¬ s.dirty.getD a 0 = s.dirty.getD b 0 := by
  have hp : s.dirty.Pairwise (· ≠ ·) := List.Pairwise.sublist (List.filter_sublist) List.nodup_range
  intro e
  rw [List.getD, List.getD, List.getElem?_eq_getElem (by omega), List.getElem?_eq_getElem hb] at e
  exact List.pairwise_iff_getElem.1 hp a b (by omega) hb hab e
theorem settled_later (hw : SWf s) (ft : Nat → Int × Int) (m : Nat) (hm : m < s.dirty.length) (n : Nat) (hn : n ≤ m) : (s.settled ft n).sec (s.dirty.getD m 0) = s.sec (s.dirty.getD m 0) := by
  induction n with
  | zero => rfl
  | succ n ih =>
    have hlt := dirty_lt s _ (dirty_at s n (by omega))
    have hS := hw.settled ft n (by omega)
    show ((s.settled ft n).setSec _ _).sec _ = _
    rw [sec_setSec_other _ _ _ _ hS.len (by rw [settled_k]; exact hlt) (hS.fated _ (by rw [settled_k]; exact hlt) _ _) (fun e => dirty_apart s n m (by omega) hm e.symm)]
    exact ih (by omega)
theorem crashN_len (safe : List (List UInt8)) (ls : List (Nat × List UInt8)) (ft : Nat → Int × Int) (n : Nat) : (crashN safe ls ft n).length = safe.length := by
  induction n with
  | zero => rfl
  | succ n ih => show (List.set _ _ _).length = _; rw [List.length_set, ih]
theorem Agree.crashN (h : Agree s r) (hw : SWf s) (ft : Nat → Int × Int) (n : Nat) (hn : n ≤ s.dirty.length) (i : Nat) (hi : i < s.k) : (crashN r.safe r.wait ft n).getD i [] = (s.settled ft n).sec i := by
  induction n with
  | zero => exact h.sec i hi
  | succ n ih =>
    have hlt := dirty_lt s _ (dirty_at s n (by omega))
    have hS := hw.settled ft n (by omega)
    show (List.set _ _ _).getD i [] = ((s.settled ft n).setSec _ _).sec i
    rw [h.dirty]
    by_cases e : s.dirty.getD n 0 = i
    · have hfl := hS.fated (s.dirty.getD n 0) (by rw [settled_k]; exact hlt) (ft n).1 (ft n).2
      have key : (s.settled ft n).fated (s.dirty.getD n 0) (ft n).1 (ft n).2 = fatedL (r.safe.getD (s.dirty.getD n 0) []) (fl (s.dirty.getD n 0) r.wait) (ft n).1 (ft n).2 := by
        rw [h.wait, h.sec _ hlt, ← settled_later hw ft n (by omega) n (Nat.le_refl _)]
        unfold St.fated St.whole St.kept fatedL
        rw [settled_wait]
      rw [← e, getD_set_same _ _ _ (by rw [crashN_len, h.n]; exact hlt), sec_setSec_same _ _ _ hS.len (by rw [settled_k]; exact hlt) hfl, key]
    · rw [getD_set_other _ _ _ _ e, sec_setSec_other _ _ _ _ hS.len (by rw [settled_k]; exact hlt) (hS.fated _ (by rw [settled_k]; exact hlt) _ _) (fun e' => e e'.symm)]
      exact ih (by omega)
theorem Agree.ok (h : Agree s r) : s.ok = true ↔ ¬ (r.off = true ∨ r.fuse = 0) := by
  have hf : r.fuse = 0 ↔ s.fuse = 0 := by rcases h.fuse with e | e <;> omega
  unfold St.ok
  rw [h.off, hf]
  by_cases h1 : s.off = true <;> by_cases h2 : s.fuse = 0 <;> simp [h1, h2]
/-- Off, or failing now: what burning does. -/
theorem Agree.burn_no (h : Agree s r) (ho : ¬ s.ok = true) : Agree s.burn { r with off := true } := by
  have h1 : s.off = true ∨ s.fuse = 0 := by
    unfold St.ok at ho
    by_cases a : s.off = true <;> by_cases b : s.fuse = 0 <;> simp_all
  refine ⟨h.n, h.sec, h.wait, h.ins, ?_, ?_, h.rd, h.wr⟩
  · show r.fuse = (if s.off then s.fuse else if 0 < s.fuse then s.fuse - 1 else s.fuse) ∨ (r.fuse < 0 ∧ (if s.off then s.fuse else if 0 < s.fuse then s.fuse - 1 else s.fuse) < 0)
    have e : (if s.off then s.fuse else if 0 < s.fuse then s.fuse - 1 else s.fuse) = s.fuse := by
      rcases h1 with h1 | h1
      · rw [if_pos h1]
      · by_cases a : s.off = true
        · rw [if_pos a]
        · rw [if_neg a, if_neg (by omega)]
    rw [e]
    exact h.fuse
  · show true = (s.off || s.fuse == 0)
    rcases h1 with h1 | h1 <;> simp [h1]
theorem Agree.burn (h : Agree s r) (ho : s.ok = true) : Agree s.burn { r with fuse := if 0 < r.fuse then r.fuse - 1 else r.fuse } := by
  have h1 : s.off = false ∧ ¬ s.fuse = 0 := by
    unfold St.ok at ho
    by_cases a : s.off = true <;> by_cases b : s.fuse = 0 <;> simp_all
  refine ⟨h.n, h.sec, h.wait, h.ins, ?_, ?_, h.rd, h.wr⟩
  · show (if 0 < r.fuse then r.fuse - 1 else r.fuse) = (if s.off then s.fuse else if 0 < s.fuse then s.fuse - 1 else s.fuse) ∨ ((if 0 < r.fuse then r.fuse - 1 else r.fuse) < 0 ∧ (if s.off then s.fuse else if 0 < s.fuse then s.fuse - 1 else s.fuse) < 0)
    rw [h1.1]
    simp only [Bool.false_eq_true, if_false]
    rcases h.fuse with e | e
    · rw [e]; exact .inl rfl
    · rw [if_neg (by omega), if_neg (by omega)]; exact .inr e
  · show r.off = (s.off || s.fuse == 0)
    rw [h.off, h1.1]
    simp [h1.2]
theorem Agree.push (h : Agree s r) (i : Nat) (hi : i < s.k) (b : List UInt8) (u : Int) (hu : u = s.wr + 1) : Agree ({ s with wr := s.wr + 1 }.push i b) { r with wr := u, wait := r.wait ++ [(i, b)] } := by
  refine ⟨h.n, h.sec, fun j => ?_, fun x hx => ?_, h.fuse, h.off, h.rd, hu⟩
  · show fl j (r.wait ++ [(i, b)]) = if j = i then s.wait i ++ [b] else s.wait j
    rw [fl_snoc, h.wait j]
    by_cases e : j = i
    · rw [if_pos e.symm, if_pos e, e]
    · rw [if_neg (fun e' => e e'.symm), if_neg e, List.append_nil]
  · rcases List.mem_append.1 hx with hx | hx
    · exact h.ins x hx
    · rw [List.mem_singleton.1 hx]; exact hi
theorem Agree.sync (h : Agree s r) (hw : SWf s) : Agree s.sync { r with safe := syncL r.safe r.wait, wait := [] } :=
  ⟨(syncL_len _ _).trans h.n, fun i hi => by rw [sync_sec hw i hi, ← h.last i hi]; exact syncL_get _ _ _ (by rw [h.n]; exact hi), fun _ => rfl, fun x hx => absurd hx List.not_mem_nil, h.fuse, h.off, h.rd, h.wr⟩
theorem settled_off (s : St) (ft : Nat → Int × Int) (n : Nat) : (s.settled ft n).rd = s.rd ∧ (s.settled ft n).wr = s.wr := by
  induction n with
  | zero => exact ⟨rfl, rfl⟩
  | succ n ih => exact ih
theorem Agree.crash (h : Agree s r) (hw : SWf s) (ft : Nat → Int × Int) : Agree (s.crash ft) ⟨crashL r.safe r.wait ft, [], -1, false, r.rd, r.wr⟩ := by
  refine ⟨?_, fun i hi => ?_, fun _ => rfl, fun x hx => absurd hx List.not_mem_nil, .inl rfl, rfl, ?_, ?_⟩
  · show (Go.Proofs.Ytieknelmfjkbhaa.crashN _ _ _ _).length = _
    rw [crashN_len, crash_k]; exact h.n
  · rw [crash_k] at hi
    show (Go.Proofs.Ytieknelmfjkbhaa.crashN _ _ _ (dirtyR _ _).length).getD i [] = _
    rw [h.dirty]
    exact h.crashN hw ft _ (Nat.le_refl _) i hi
  · show r.rd = (s.settled ft s.dirty.length).rd
    rw [(settled_off s ft _).1]; exact h.rd
  · show r.wr = (s.settled ft s.dirty.length).wr
    rw [(settled_off s ft _).2]; exact h.wr
/-- A step keeps it, and answers alike. -/
theorem Agree.go (h : Agree s r) (hw : SWf s) (x : Stp) : Agree (s.go x).1 (r.go x).1 ∧ (r.go x).2 = (s.go x).2 := by
  have hn := h.n
  have hok := h.ok
  have hno : ¬ s.ok = true → (r.off = true ∨ r.fuse = 0) := fun ho => by
    by_cases hh : r.off = true ∨ r.fuse = 0
    · exact hh
    · exact absurd (hok.2 hh) ho
  unfold St.go Rs.go
  by_cases h3 : x.d = 3
  · have g1 : ¬ x.d = 1 := by omega
    have g2 : ¬ x.d = 2 := by omega
    simp only [if_pos h3, if_neg g1, if_neg g2]
    refine ⟨⟨h.n, h.sec, h.wait, h.ins, ?_, h.off, h.rd, h.wr⟩, trivial⟩
    show (if x.a < 0 then -1 else x.a) = x.a ∨ ((if x.a < 0 then -1 else x.a) < 0 ∧ x.a < 0)
    by_cases ha : x.a < 0
    · rw [if_pos ha]; exact .inr ⟨by decide, ha⟩
    · rw [if_neg ha]; exact .inl rfl
  by_cases h4 : x.d = 4
  · have g1 : ¬ x.d = 1 := by omega
    have g2 : ¬ x.d = 2 := by omega
    simp only [if_neg h3, if_neg g1, if_neg g2, if_pos h4]
    exact ⟨h.crash hw _, trivial⟩
  by_cases h2 : x.d = 2
  · have g1 : ¬ x.d = 1 := by omega
    have hc : ¬ (x.d ≠ 2 ∧ (x.a < 0 ∨ (r.safe.length : Int) ≤ x.a)) := fun hh => hh.1 h2
    by_cases ho : s.ok = true
    · simp only [if_neg h3, if_neg h4, if_neg hc, if_neg (hok.1 ho), if_pos ho, if_neg g1, if_pos h2]
      have hwb : SWf s.burn := ⟨hw.len, hw.w512, hw.inside⟩
      exact ⟨(h.burn ho).sync hwb, trivial⟩
    · simp only [if_neg h3, if_neg h4, if_neg hc, if_pos (hno ho), if_neg ho, if_neg g1, if_pos h2]
      exact ⟨h.burn_no ho, trivial⟩
  by_cases hr : 0 ≤ x.a ∧ x.a < (s.k : Int)
  · have hc : ¬ (x.d ≠ 2 ∧ (x.a < 0 ∨ (r.safe.length : Int) ≤ x.a)) := fun hh => by have := hh.2; omega
    have hlt : x.a.toNat < s.k := by omega
    by_cases ho : s.ok = true
    · by_cases h1 : x.d = 1
      · simp only [if_neg h3, if_neg h4, if_neg hc, if_neg (hok.1 ho), if_pos h1, if_pos hr, if_pos ho]
        exact ⟨(h.burn ho).push x.a.toNat hlt _ _ (by show r.wr + 1 = s.wr + 1; rw [h.wr]), trivial⟩
      · simp only [if_neg h1, if_neg h2, if_neg h3, if_neg h4, if_neg hc, if_neg (hok.1 ho), if_pos hr, if_pos ho]
        have hb := h.burn ho
        refine ⟨⟨hb.n, hb.sec, hb.wait, hb.ins, hb.fuse, hb.off, ?_, hb.wr⟩, ?_⟩
        · show r.rd + 1 = s.rd + 1
          rw [h.rd]
        · rw [h.last _ hlt]
    · by_cases h1 : x.d = 1
      · simp only [if_neg h3, if_neg h4, if_neg hc, if_pos (hno ho), if_pos h1, if_pos hr, if_neg ho]
        exact ⟨h.burn_no ho, trivial⟩
      · simp only [if_neg h1, if_neg h2, if_neg h3, if_neg h4, if_neg hc, if_pos (hno ho), if_pos hr, if_neg ho]
        exact ⟨h.burn_no ho, trivial⟩
  · have hc : x.d ≠ 2 ∧ (x.a < 0 ∨ (r.safe.length : Int) ≤ x.a) := ⟨h2, by omega⟩
    by_cases h1 : x.d = 1
    · simp only [if_neg h3, if_neg h4, if_pos hc, if_pos h1, if_neg hr]; exact ⟨h, trivial⟩
    · simp only [if_neg h1, if_neg h2, if_neg h3, if_neg h4, if_pos hc, if_neg hr]; exact ⟨h, trivial⟩
end
end Go.Proofs.Ytieknelmfjkbhaa
