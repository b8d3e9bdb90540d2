/- Set, Get, Drop, Add as one step each; Load; the law's code, live, do. -/
import Derived.Test.YtlblbhndfclhnaaCl3
import Derived.Test.YtlblbhndfclhnaaLe4s
namespace Go.Proofs.Ytlblbhndfclhnaa
open Go.RowKit

theorem clcode_any (n : Int) (w : World) : Calls Try.prog 19 #[.int .i64 n] w fun e w' => e = .returned (.int .i64 n) ∧ w = w' := by
  go_enter Try.func19, Try.ntmps19
  go_wp2
  go_ret
  exact ⟨rfl, rfl⟩

section
variable {w w1 w' : World} {own : Nat → Prop} {p : Nat} {v : Value} {s : Co}

theorem Set_any (dom : ∀ x, own x → x < w.heap.size) (h : ClAt w own p v s) (i : Int) (A : Option Addr) (n c : Nat) (b : List UInt8) (hb : Rd w A n b) :
    Calls Try.prog 23 #[.pointer (some ⟨p, 0, none⟩), .int .i64 i, .slice A n c] w fun e w' => e = .returned (.int .i64 (s.go 1 i b).2.2) ∧ ClGoes w own p (s.go 1 i b).1 w' := by
  have hbl := hb.1
  by_cases hi : 0 ≤ i ∧ i < s.rows.length
  · by_cases hn : b.length = s.sz
    · have e : s.go 1 i b = (s.set i.toNat b, [], 0) := by unfold Co.go; rw [if_pos rfl, if_pos hi, if_pos hn]
      rw [e]
      obtain ⟨k, rfl⟩ : ∃ k : Nat, i = (k : Int) := ⟨i.toNat, by omega⟩
      obtain rfl : n = s.sz := by omega
      exact Set_ok dom h k (by omega) A c b hb
    · have e : s.go 1 i b = (s, [], 7) := by unfold Co.go; rw [if_pos rfl, if_pos hi, if_neg hn]
      rw [e]
      exact Set_size dom h i hi A n c (by omega)
  · have e : s.go 1 i b = (s, [], 2) := by unfold Co.go; rw [if_pos rfl, if_neg hi]
    rw [e]
    exact Set_no dom h i hi A n c
theorem Get_any (dom : ∀ x, own x → x < w.heap.size) (h : ClAt w own p v s) (i : Int) (b : List UInt8) :
    Calls Try.prog 18 #[.pointer (some ⟨p, 0, none⟩), .int .i64 i] w fun e w' => ∃ A n c, e = .returned (.tuple #[.slice A n c, .int .i64 (s.go 2 i b).2.2]) ∧ (∀ q o, A = some ⟨q, o, none⟩ → w.heap.size ≤ q) ∧ Rd w' A n (s.go 2 i b).2.1 ∧ ClGoes w own p (s.go 2 i b).1 w' := by
  by_cases hi : 0 ≤ i ∧ i < s.rows.length
  · have e : s.go 2 i b = (s, s.rows.getD i.toNat [], 0) := by unfold Co.go; rw [if_neg (by decide), if_pos rfl, if_pos hi]
    rw [e]
    obtain ⟨k, rfl⟩ : ∃ k : Nat, i = (k : Int) := ⟨i.toNat, by omega⟩
    refine (Get_ok h k (by omega)).mono ?_
    rintro e w' ⟨g, rfl, hg, hO, hB⟩
    exact ⟨_, _, _, rfl, (fun q o e => by injection e with e; injection e with e1 _; omega), Rd.of_own' hO, ClGoes.still dom h hB⟩
  · have e : s.go 2 i b = (s, [], 2) := by unfold Co.go; rw [if_neg (by decide), if_pos rfl, if_neg hi]
    rw [e]
    refine (Get_no h i hi).mono ?_
    rintro e w' ⟨rfl, rfl⟩
    exact ⟨_, _, _, rfl, (fun q o e => by cases e), Rd.nil _ _, ClGoes.still dom h (Below.refl _ _)⟩
theorem Drop_any (dom : ∀ x, own x → x < w.heap.size) (h : ClAt w own p v s) (i : Int) (b : List UInt8) :
    Calls Try.prog 21 #[.pointer (some ⟨p, 0, none⟩), .int .i64 i] w fun e w' => e = .returned (.int .i64 (s.go 3 i b).2.2) ∧ ClGoes w own p (s.go 3 i b).1 w' := by
  by_cases hi : 0 ≤ i ∧ i < s.rows.length
  · have e : s.go 3 i b = (s.drop i.toNat, [], 0) := by unfold Co.go; rw [if_neg (by decide), if_neg (by decide), if_pos rfl, if_pos hi]
    rw [e]
    obtain ⟨k, rfl⟩ : ∃ k : Nat, i = (k : Int) := ⟨i.toNat, by omega⟩
    exact Drop_ok dom h k (by omega)
  · have e : s.go 3 i b = (s, [], 2) := by unfold Co.go; rw [if_neg (by decide), if_neg (by decide), if_pos rfl, if_neg hi]
    rw [e]
    exact Drop_no dom h i hi
theorem Add_any (dom : ∀ x, own x → x < w.heap.size) (h : ClAt w own p v s) (d i : Int) (hd : d ≠ 1 ∧ d ≠ 2 ∧ d ≠ 3) (A : Option Addr) (n c : Nat) (b : List UInt8) (hb : Rd w A n b) :
    Calls Try.prog 17 #[.pointer (some ⟨p, 0, none⟩), .slice A n c] w fun e w' => e = .returned (.int .i64 (s.go d i b).2.2) ∧ ClGoes w own p (s.go d i b).1 w' := by
  have hbl := hb.1
  by_cases hn : b.length = s.sz
  · by_cases hf : s.rows.length = 1024
    · have e : s.go d i b = (s, [], 9) := by unfold Co.go; rw [if_neg hd.1, if_neg hd.2.1, if_neg hd.2.2, if_pos hn, if_pos hf]
      rw [e]
      exact Add_full dom h A n c (by omega) hf
    · have e : s.go d i b = (s.add b, [], 0) := by unfold Co.go; rw [if_neg hd.1, if_neg hd.2.1, if_neg hd.2.2, if_pos hn, if_neg hf]
      rw [e]
      exact Add_ok dom h A n c b hb (by omega) hf
  · have e : s.go d i b = (s, [], 7) := by unfold Co.go; rw [if_neg hd.1, if_neg hd.2.1, if_neg hd.2.2, if_neg hn]
    rw [e]
    exact Add_size dom h A n c (by omega)
end

/-- One step of a script, as it lies in memory. -/
structure Cst where
  d : Int
  a : Int
  bA : Option Addr
  bn : Nat
  bc : Nat
  b : List UInt8
def Cst.val (x : Cst) : Value := .agg #[.int .i64 x.d, .int .i64 x.a, .slice x.bA x.bn x.bc]

section
variable {w : World} {own : Nat → Prop} {p : Nat} {v : Value} {s : Co}
/-- What a step leaves. -/
def ClDid (w : World) (own : Nat → Prop) (p : Nat) (s : Co) (x : Cst) (e : Ending) (w' : World) : Prop :=
  ∃ A n c, e = .returned (.tuple #[.slice A n c, .int .i64 (s.go x.d x.a x.b).2.2]) ∧ (∀ q o, A = some ⟨q, o, none⟩ → w.heap.size ≤ q) ∧ Rd w' A n (s.go x.d x.a x.b).2.1 ∧ ClGoes w own p (s.go x.d x.a x.b).1 w'

theorem cldo_any (dom : ∀ x, own x → x < w.heap.size) (h : ClAt w own p v s) (x : Cst) (hx : Rd w x.bA x.bn x.b) :
    Calls Try.prog 9 #[.pointer (some ⟨p, 0, none⟩), x.val] w (ClDid w own p s x) := by
  obtain ⟨d, a, bA, bn, bc, b⟩ := x
  simp only at hx
  show Calls _ _ #[.pointer (some ⟨p, 0, none⟩), .agg #[.int .i64 d, .int .i64 a, .slice bA bn bc]] w _
  obtain ⟨w1, hw1⟩ : ∃ w1, w1 = w.alloc (.cells #[.int .i64 d, .int .i64 a, .slice bA bn bc] 35) := ⟨_, rfl⟩
  have hB1 : Below w.heap.size w w1 := by rw [hw1]; exact (Below.refl _ _).alloc (Nat.le_refl _) _
  have hR1 : Rec 35 w1 w.heap.size #[.int .i64 d, .int .i64 a, .slice bA bn bc] := by rw [hw1]; exact Rec.new _ _ _
  have q0 : w1.cell? ⟨w.heap.size, 0, none⟩ = some (.int .i64 d) := hR1.at_ 0
  have q1 : w1.cell? ⟨w.heap.size, 1, none⟩ = some (.int .i64 a) := hR1.at_ 1
  have q2 : w1.cell? ⟨w.heap.size, 2, none⟩ = some (.slice bA bn bc) := hR1.at_ 2
  have D1 := h.below hB1
  have hlt1 : ∀ x, own x → x < w1.heap.size := fun x hx => Nat.lt_of_lt_of_le (dom x hx) hB1.size
  have hx1 := hx.below (Nat.le_refl _) hB1
  have HB1 := Lib.hid hB1
  by_cases h1 : d = 1
  · subst h1
    have C := Lib.hid (Set_any hlt1 D1 a bA bn bc b hx1)
    have hg : ClDid w own p s ⟨1, a, bA, bn, bc, b⟩ = fun e w' => ∃ A n c, e = .returned (.tuple #[.slice A n c, .int .i64 (s.go 1 a b).2.2]) ∧ (∀ q o, A = some ⟨q, o, none⟩ → w.heap.size ≤ q) ∧ Rd w' A n [] ∧ ClGoes w own p (s.go 1 a b).1 w' := by
      have : (s.go 1 a b).2.1 = [] := by unfold Co.go; rw [if_pos rfl]; split; (split <;> rfl); rfl
      unfold ClDid
      simp only [this]
    rw [hg]
    clear h dom D1 hlt1 hx hx1 hB1 hR1 hg
    go_enter Try.func9, Try.ntmps9
    go_wp2_with (first
      | (rw [← hw1]; clear hw1)
      | (go_at_call 23; refine C.out.mono ?_; rintro e w2 ⟨rfl, hG⟩)
      | (go_at_call 19; refine (clcode_any _ _).mono ?_; rintro e w' ⟨rfl, rfl⟩))
    go_ret2
    exact ⟨none, 0, 0, rfl, (fun q o e => by cases e), Rd.nil _ _, hG.pre HB1.out⟩
  by_cases h2 : d = 2
  · subst h2
    have C := Lib.hid (Get_any hlt1 D1 a b)
    clear h dom D1 hlt1 hx hx1 hB1 hR1 h1
    unfold ClDid
    simp only
    go_enter Try.func9, Try.ntmps9
    go_wp2_with (first
      | (rw [← hw1]; clear hw1)
      | (go_at_call 18; refine C.out.mono ?_; rintro e w2 ⟨A2, n2, c2, rfl, hf2, hR2, hG⟩)
      | (go_at_call 19; refine (clcode_any _ _).mono ?_; rintro e w' ⟨rfl, rfl⟩))
    go_ret2
    exact ⟨A2, n2, c2, rfl, (fun q o e => Nat.le_trans HB1.out.size (hf2 q o e)), hR2, hG.pre HB1.out⟩
  by_cases h3 : d = 3
  · subst h3
    have C := Lib.hid (Drop_any hlt1 D1 a b)
    have hg : ClDid w own p s ⟨3, a, bA, bn, bc, b⟩ = fun e w' => ∃ A n c, e = .returned (.tuple #[.slice A n c, .int .i64 (s.go 3 a b).2.2]) ∧ (∀ q o, A = some ⟨q, o, none⟩ → w.heap.size ≤ q) ∧ Rd w' A n [] ∧ ClGoes w own p (s.go 3 a b).1 w' := by
      have : (s.go 3 a b).2.1 = [] := by unfold Co.go; rw [if_neg (by decide), if_neg (by decide), if_pos rfl]; split <;> rfl
      unfold ClDid
      simp only [this]
    rw [hg]
    clear h dom D1 hlt1 hx hx1 hB1 hR1 hg h1 h2
    go_enter Try.func9, Try.ntmps9
    go_wp2_with (first
      | (rw [← hw1]; clear hw1)
      | (go_at_call 21; refine C.out.mono ?_; rintro e w2 ⟨rfl, hG⟩)
      | (go_at_call 19; refine (clcode_any _ _).mono ?_; rintro e w' ⟨rfl, rfl⟩))
    go_ret2
    exact ⟨none, 0, 0, rfl, (fun q o e => by cases e), Rd.nil _ _, hG.pre HB1.out⟩
  have C := Lib.hid (Add_any hlt1 D1 d a ⟨h1, h2, h3⟩ bA bn bc b hx1)
  have hg : ClDid w own p s ⟨d, a, bA, bn, bc, b⟩ = fun e w' => ∃ A n c, e = .returned (.tuple #[.slice A n c, .int .i64 (s.go d a b).2.2]) ∧ (∀ q o, A = some ⟨q, o, none⟩ → w.heap.size ≤ q) ∧ Rd w' A n [] ∧ ClGoes w own p (s.go d a b).1 w' := by
    have : (s.go d a b).2.1 = [] := by unfold Co.go; rw [if_neg h1, if_neg h2, if_neg h3]; split; (split <;> rfl); rfl
    unfold ClDid
    simp only [this]
  rw [hg]
  clear h dom D1 hlt1 hx hx1 hB1 hR1 hg
  go_enter Try.func9, Try.ntmps9
  go_wp2_with (first
    | (rw [← hw1]; clear hw1)
    | (go_at_call 17; refine C.out.mono ?_; rintro e w2 ⟨rfl, hG⟩)
    | (go_at_call 19; refine (clcode_any _ _).mono ?_; rintro e w' ⟨rfl, rfl⟩))
  go_ret2
  exact ⟨none, 0, 0, rfl, (fun q o e => by cases e), Rd.nil _ _, hG.pre HB1.out⟩

/-- Rows that may be loaded. -/
theorem Load_ok (size : Int) (t : Co) (ht : t.Ok) (hz : t.sz = (Co.new size).sz) (A : Option Addr) (n c : Nat) (hr : Rd w A n t.bytes) :
    Calls Try.prog 20 #[.int .i64 size, .int .i64 (t.rows.length : Nat), .slice A n c] w fun e w' => e = .returned (.tuple #[.pointer (some ⟨w.heap.size, 0, none⟩), .int .i64 0]) ∧ Below w.heap.size w w' ∧ ∃ v, ClAt w' (fun x => w.heap.size ≤ x ∧ x < w'.heap.size) w.heap.size v t := by
  have CN := Lib.hid (ClNew_any size w)
  have hl := ht.len
  have hs := ht.small
  have hn1 := ht.n
  have hz1 := ht.z
  have hnl := hr.1
  have e1 : wrap64 ((t.rows.length : Int) * (t.sz : Int)) = (n : Int) := by
    rw [show (t.rows.length : Int) * (t.sz : Int) = ((t.rows.length * t.sz : Nat) : Int) by push_cast; rfl]
    unfold wrap64; omega
  have hp : (t.rows.length : Int) * (t.sz : Int) = (n : Int) := by
    rw [show (t.rows.length : Int) * (t.sz : Int) = ((t.rows.length * t.sz : Nat) : Int) by push_cast; rfl]
    omega
  obtain ⟨L, hL⟩ : ∃ L, L = t.rows.length := ⟨_, rfl⟩
  rw [← hL] at hn1 hp ⊢
  have HT := Lib.hid ht
  have HL := Lib.hid hL
  have HR := Lib.hid hr
  have HZ := Lib.hid hz
  clear ht hL hr hz e1 hl
  go_enter Try.func20, Try.ntmps20
  go_wp2_with (first
    | (go_at_call 7; refine CN.out.mono ?_; rintro e w1 ⟨rfl, hB1, hlt1, hC1⟩; have c0 := hC1.c0; rw [← HZ.out] at c0; have f1 := hC1.fz 1; have k1 := hC1.c1; have HC1 := Lib.hid hC1; have HB1 := Lib.hid hB1; clear hC1 hB1))
  obtain ⟨w2, hw2⟩ : ∃ w2, w2 = w1.setCell ⟨w.heap.size, 1, none⟩ (.int .i64 (L : Int)) := ⟨_, rfl⟩
  have hB2 : Below w.heap.size w w2 := by rw [hw2]; exact HB1.out.setCell (p := ⟨w.heap.size, 1, none⟩) (Nat.le_refl _) _
  have hR2 : Rec 55 w2 w.heap.size #[.int .i64 (t.sz : Nat), .int .i64 (L : Nat), nilv] := by
    rw [hw2, HZ.out]
    exact HC1.out.blk.set 1 _
  rw [← hw2]
  clear hw2 c0 f1 k1
  refine (fresh_any A n c t.bytes w2 (HR.out.below (Nat.le_refl _) hB2) (by omega)).mono ?_
  rintro e w3 ⟨rfl, hO3, hB3⟩
  have hR3 := hR2.under hB3
  have f2 := hR3.fz 2
  have k2 : w3.cell? ⟨w.heap.size, 2, none⟩ = some nilv := hR3.at_ 2
  have HR3 := Lib.hid hR3
  have HO3 := Lib.hid hO3
  have HB3 := Lib.hid (hB2.trans (hB3.mono hB2.size))
  have HLT := Lib.hid hR2.lt
  clear hR3 hO3 hB3 hR2 hB2
  go_wp2
  go_ret2
  have hs2 : Fr (· = w.heap.size) w3 (w3.setCell ⟨w.heap.size, 2, none⟩ (.slice (some ⟨w2.heap.size, 0, none⟩) n n)) := Fr.setCell (own := (· = w.heap.size)) w3 (p := ⟨w.heap.size, 2, none⟩) rfl _
  have hx2 : w2.heap.size < w3.heap.size := by
    rcases HO3.out.2 with ⟨hn, _⟩ | ⟨g, cap, cur, hv, _, hh, _⟩
    · cases hn
    · injection hv with hv
      injection hv with hv
      injection hv with hv
      rw [hv]
      exact (Array.getElem?_eq_some_iff.1 hh).1
  have hlt := HLT.out
  have hsz := hs2.size
  refine ⟨rfl, HB3.out.setCell (p := ⟨w.heap.size, 2, none⟩) (Nat.le_refl _) _, .slice (some ⟨w2.heap.size, 0, none⟩) n n, ?_⟩
  exact {
    blk := by
      rw [← HL.out]
      exact HR3.out.set 2 _
    row := by
      rw [hnl]
      exact own_mono (own_fr HO3.out hs2 (fun x hx e => by injection hx with hx; have hx' : w2.heap.size = x := hx; have e' : x = w.heap.size := e; omega)) (Nat.zero_le _)
    ownp := ⟨Nat.le_refl _, by omega⟩
    ownv := fun x hx => by injection hx with hx; have hx' : w2.heap.size = x := hx; exact ⟨by omega, by omega⟩
    ne := fun x hx => by injection hx with hx; have hx' : w2.heap.size = x := hx; omega
    ok := HT.out }

/-- The page's example. -/
def liveL : Co := ⟨2, [[1, 2], [3, 4], [5, 6]]⟩
theorem liveL_ok : liveL.Ok := ⟨by decide, by decide, by decide⟩
theorem liveL_bytes : liveL.bytes = [1, 2, 3, 4, 5, 6] := by simp [liveL, Co.bytes]
theorem liveL_drop : (liveL.drop 0).bytes = [5, 6, 3, 4] := rfl

theorem cells6 : (cells [1, 2, 3, 4, 5, 6]).toArray = #[.int .u8 1, .int .u8 2, .int .u8 3, .int .u8 4, .int .u8 5, .int .u8 6] := by simp [cells]
theorem cells4 : (cells [5, 6, 3, 4]).toArray = #[.int .u8 5, .int .u8 6, .int .u8 3, .int .u8 4] := by simp [cells]
theorem rd_live (w : World) : Rd (w.alloc (.cells #[.int .u8 1, .int .u8 2, .int .u8 3, .int .u8 4, .int .u8 5, .int .u8 6] 5)) (some ⟨w.heap.size, 0, none⟩) 6 liveL.bytes := by
  rw [← cells6, liveL_bytes]
  exact Rd.new w 5 [1, 2, 3, 4, 5, 6] (0, 0)
theorem rd_live4 (w : World) : Rd (w.alloc (.cells #[.int .u8 5, .int .u8 6, .int .u8 3, .int .u8 4] 5)) (some ⟨w.heap.size, 0, none⟩) 4 [5, 6, 3, 4] := by
  rw [← cells4]
  exact Rd.new w 5 [5, 6, 3, 4] (0, 0)
theorem load_live (w : World) (A : Option Addr) (h : Rd w A 6 liveL.bytes) :
    Calls Try.prog 20 #[.int .i64 2, .int .i64 3, .slice A 6 6] w fun e w' => e = .returned (.tuple #[.pointer (some ⟨w.heap.size, 0, none⟩), .int .i64 0]) ∧ Below w.heap.size w w' ∧ ∃ v, ClAt w' (fun x => w.heap.size ≤ x ∧ x < w'.heap.size) w.heap.size v liveL :=
  Load_ok (w := w) 2 liveL liveL_ok (by decide) A 6 6 h

theorem drop_live {w : World} {own : Nat → Prop} {p : Nat} {v : Value} (dom : ∀ x, own x → x < w.heap.size) (h : ClAt w own p v liveL) :
    Calls Try.prog 21 #[.pointer (some ⟨p, 0, none⟩), .int .i64 0] w fun e w' => e = .returned (.int .i64 0) ∧ ClGoes w own p (liveL.drop 0) w' := Drop_ok dom h 0 (by decide)
theorem live_any (w : World) : Calls Try.prog 6 #[] w fun e w' => e = .returned (.bool true) ∧ Below w.heap.size w w' := by
  obtain ⟨w1, hw1⟩ : ∃ w1, w1 = w.alloc (.cells #[.int .u8 1, .int .u8 2, .int .u8 3, .int .u8 4, .int .u8 5, .int .u8 6] 5) := ⟨_, rfl⟩
  have hB1 : Below w.heap.size w w1 := by rw [hw1]; exact (Below.refl _ _).alloc (Nat.le_refl _) _
  have hR1 : Rd w1 (some ⟨w.heap.size, 0, none⟩) 6 liveL.bytes := by rw [hw1]; exact rd_live w
  have CL := Lib.hid (load_live w1 _ hR1)
  have HB1 := Lib.hid hB1
  clear hB1 hR1
  go_enter Try.func6, Try.ntmps6
  go_wp2_with (first
    | (rw [← hw1]; clear hw1))
  refine CL.out.mono ?_
  rintro e w2 ⟨rfl, hB2, v2, hC2⟩
  have CD := Lib.hid (drop_live (fun x hx => hx.2) hC2)
  have HB2 := Lib.hid (HB1.out.trans (hB2.mono HB1.out.size))
  clear hB2 hC2
  go_wp2_with fail
  refine CD.out.mono ?_
  rintro e w3 ⟨rfl, hF3, own3, ho3, hd3, v3, hC3⟩
  have HB3 := Lib.hid (HB2.out.trans (hF3.toBelow (fun x hx => Nat.le_trans HB1.out.size hx.1) HB2.out.size))
  have CB := Lib.hid (ClBytes_any hC3)
  clear hF3 ho3 hd3 hC3
  go_wp2_with (go_at_call 19; refine (clcode_any _ _).mono ?_; rintro e w' ⟨rfl, rfl⟩)
  refine CB.out.mono ?_
  rintro e w4 ⟨n4, rfl, hO4, hn4, hB4⟩
  rw [liveL_drop] at hO4 hn4
  have hr4 := Rd.of_own' hO4
  have HB4 := Lib.hid (HB3.out.trans (hB4.mono HB3.out.size))
  obtain ⟨w5, hw5⟩ : ∃ w5, w5 = w4.alloc (.cells #[.int .u8 5, .int .u8 6, .int .u8 3, .int .u8 4] 5) := ⟨_, rfl⟩
  have hB5 : Below w4.heap.size w4 w5 := by rw [hw5]; exact (Below.refl _ _).alloc (Nat.le_refl _) _
  have hR5 : Rd w5 (some ⟨w4.heap.size, 0, none⟩) 4 [5, 6, 3, 4] := by rw [hw5]; exact rd_live4 w4
  have HB5 := Lib.hid (HB4.out.trans (hB5.mono HB4.out.size))
  have CS := Lib.hid (Same_yes _ _ n4 n4 4 4 _ _ (hr4.below (Nat.le_refl _) hB5) hR5)
  clear hO4 hB4 hB5 hR5 hr4 hn4
  go_wp2_with (first
    | (rw [← hw5]; clear hw5)
    | (go_at_call 11; refine CS.out.mono ?_; rintro e w' ⟨rfl, rfl⟩))
  go_ret
  exact ⟨rfl, HB5.out⟩
end
end Go.Proofs.Ytlblbhndfclhnaa
