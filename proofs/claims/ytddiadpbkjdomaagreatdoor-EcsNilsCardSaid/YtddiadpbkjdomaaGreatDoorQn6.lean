/- Cl4, BitsP, BitsTz, BitsCo, BitsLi, RowV -/
import Derived.Test.YtddiadpbkjdomaaGreatDoorQn5
import Derived.Laws.BitsAllLaws
import Derived.Laws.Bits128
import Derived.Deep.WholeRow
import Derived.BigQuiet
import Derived.Deep.QuietTactic
namespace Go.Proofs.YtddiadpbkjdomaaGreatDoor
open Go.RowKit

section
variable {w w1 w' : World} {own : Nat → Prop} {p : Nat} {v : Value} {s : Co}

theorem Set_any (dom : ∀ x, own x → x < w.heap.size) (h : ClAt w own p v s) (i : Int) (A : Option Addr) (n c : Nat) (b : List UInt8) (hb : Rd w A n b) :
    Calls Tryz.prog 138 #[.pointer (some ⟨p, 0, none⟩), .int .i64 i, .slice A n c] w fun e w' => e = .returned (.int .i64 (s.go 1 i b).2.2) ∧ ClGoes w own p (s.go 1 i b).1 w' := by
  have hbl := hb.1
  by_cases hi : 0 ≤ i ∧ i < s.rows.length
  · by_cases hn : b.length = s.sz
    · have e : s.go 1 i b = (s.set i.toNat b, [], 0) := by unfold Co.go; rw [if_pos rfl, if_pos hi, if_pos hn]
      rw [e]
      obtain ⟨k, rfl⟩ : ∃ k : Nat, i = (k : Int) := ⟨i.toNat, by omega⟩
      obtain rfl : n = s.sz := by omega
      exact Set_ok dom h k (by omega) A c b hb
    · have e : s.go 1 i b = (s, [], 7) := by unfold Co.go; rw [if_pos rfl, if_pos hi, if_neg hn]
      rw [e]
      exact Set_size dom h i hi A n c (by omega)
  · have e : s.go 1 i b = (s, [], 2) := by unfold Co.go; rw [if_pos rfl, if_neg hi]
    rw [e]
    exact Set_no dom h i hi A n c
theorem Get_any (dom : ∀ x, own x → x < w.heap.size) (h : ClAt w own p v s) (i : Int) (b : List UInt8) :
    Calls Tryz.prog 108 #[.pointer (some ⟨p, 0, none⟩), .int .i64 i] w fun e w' => ∃ A n c, e = .returned (.tuple #[.slice A n c, .int .i64 (s.go 2 i b).2.2]) ∧ (∀ q o, A = some ⟨q, o, none⟩ → w.heap.size ≤ q) ∧ Rd w' A n (s.go 2 i b).2.1 ∧ ClGoes w own p (s.go 2 i b).1 w' := by
  by_cases hi : 0 ≤ i ∧ i < s.rows.length
  · have e : s.go 2 i b = (s, s.rows.getD i.toNat [], 0) := by unfold Co.go; rw [if_neg (by decide), if_pos rfl, if_pos hi]
    rw [e]
    obtain ⟨k, rfl⟩ : ∃ k : Nat, i = (k : Int) := ⟨i.toNat, by omega⟩
    refine (Get_ok h k (by omega)).mono ?_
    rintro e w' ⟨g, rfl, hg, hO, hB⟩
    exact ⟨_, _, _, rfl, (fun q o e => by injection e with e; injection e with e1 _; omega), Rd.of_own' hO, ClGoes.still dom h hB⟩
  · have e : s.go 2 i b = (s, [], 2) := by unfold Co.go; rw [if_neg (by decide), if_pos rfl, if_neg hi]
    rw [e]
    refine (Get_no h i hi).mono ?_
    rintro e w' ⟨rfl, rfl⟩
    exact ⟨_, _, _, rfl, (fun q o e => by cases e), Rd.nil _ _, ClGoes.still dom h (Below.refl _ _)⟩
theorem Drop_any (dom : ∀ x, own x → x < w.heap.size) (h : ClAt w own p v s) (i : Int) (b : List UInt8) :
    Calls Tryz.prog 174 #[.pointer (some ⟨p, 0, none⟩), .int .i64 i] w fun e w' => e = .returned (.int .i64 (s.go 3 i b).2.2) ∧ ClGoes w own p (s.go 3 i b).1 w' := by
  by_cases hi : 0 ≤ i ∧ i < s.rows.length
  · have e : s.go 3 i b = (s.drop i.toNat, [], 0) := by unfold Co.go; rw [if_neg (by decide), if_neg (by decide), if_pos rfl, if_pos hi]
    rw [e]
    obtain ⟨k, rfl⟩ : ∃ k : Nat, i = (k : Int) := ⟨i.toNat, by omega⟩
    exact Drop_ok dom h k (by omega)
  · have e : s.go 3 i b = (s, [], 2) := by unfold Co.go; rw [if_neg (by decide), if_neg (by decide), if_pos rfl, if_neg hi]
    rw [e]
    exact Drop_no dom h i hi
theorem Add_any (dom : ∀ x, own x → x < w.heap.size) (h : ClAt w own p v s) (d i : Int) (hd : d ≠ 1 ∧ d ≠ 2 ∧ d ≠ 3) (A : Option Addr) (n c : Nat) (b : List UInt8) (hb : Rd w A n b) :
    Calls Tryz.prog 171 #[.pointer (some ⟨p, 0, none⟩), .slice A n c] w fun e w' => e = .returned (.int .i64 (s.go d i b).2.2) ∧ ClGoes w own p (s.go d i b).1 w' := by
  have hbl := hb.1
  by_cases hn : b.length = s.sz
  · by_cases hf : s.rows.length = 1024
    · have e : s.go d i b = (s, [], 9) := by unfold Co.go; rw [if_neg hd.1, if_neg hd.2.1, if_neg hd.2.2, if_pos hn, if_pos hf]
      rw [e]
      exact Add_full dom h A n c (by omega) hf
    · have e : s.go d i b = (s.add b, [], 0) := by unfold Co.go; rw [if_neg hd.1, if_neg hd.2.1, if_neg hd.2.2, if_pos hn, if_neg hf]
      rw [e]
      exact Add_ok dom h A n c b hb (by omega) hf
  · have e : s.go d i b = (s, [], 7) := by unfold Co.go; rw [if_neg hd.1, if_neg hd.2.1, if_neg hd.2.2, if_neg hn]
    rw [e]
    exact Add_size dom h A n c (by omega)
end

section
variable {w : World} {own : Nat → Prop} {p : Nat} {v : Value} {s : Co}
/-- Rows that may be loaded. -/
theorem Load_ok (size : Int) (t : Co) (ht : t.Ok) (hz : t.sz = (Co.new size).sz) (A : Option Addr) (n c : Nat) (hr : Rd w A n t.bytes) :
    Calls Tryz.prog 126 #[.int .i64 size, .int .i64 (t.rows.length : Nat), .slice A n c] w fun e w' => e = .returned (.tuple #[.pointer (some ⟨w.heap.size, 0, none⟩), .int .i64 0]) ∧ Below w.heap.size w w' ∧ ∃ v, ClAt w' (fun x => w.heap.size ≤ x ∧ x < w'.heap.size) w.heap.size v t := by
  have CN := Lib.hid (ClNew_any size w)
  have hl := ht.len
  have hs := ht.small
  have hn1 := ht.n
  have hz1 := ht.z
  have hnl := hr.1
  have e1 : wrap64 ((t.rows.length : Int) * (t.sz : Int)) = (n : Int) := by
    rw [show (t.rows.length : Int) * (t.sz : Int) = ((t.rows.length * t.sz : Nat) : Int) by push_cast; rfl]
    unfold wrap64; omega
  have hp : (t.rows.length : Int) * (t.sz : Int) = (n : Int) := by
    rw [show (t.rows.length : Int) * (t.sz : Int) = ((t.rows.length * t.sz : Nat) : Int) by push_cast; rfl]
    omega
  obtain ⟨L, hL⟩ : ∃ L, L = t.rows.length := ⟨_, rfl⟩
  rw [← hL] at hn1 hp ⊢
  have HT := Lib.hid ht
  have HL := Lib.hid hL
  have HR := Lib.hid hr
  have HZ := Lib.hid hz
  clear ht hL hr hz e1 hl
  go_enter Tryz.func126, Tryz.ntmps126
  go_wp2_with (first
    | (go_at_call 168; refine CN.out.mono ?_; rintro e w1 ⟨rfl, hB1, hlt1, hC1⟩; have c0 := hC1.c0; rw [← HZ.out] at c0; have f1 := hC1.fz 1; have k1 := hC1.c1; have HC1 := Lib.hid hC1; have HB1 := Lib.hid hB1; clear hC1 hB1))
  obtain ⟨w2, hw2⟩ : ∃ w2, w2 = w1.setCell ⟨w.heap.size, 1, none⟩ (.int .i64 (L : Int)) := ⟨_, rfl⟩
  have hB2 : Below w.heap.size w w2 := by rw [hw2]; exact HB1.out.setCell (p := ⟨w.heap.size, 1, none⟩) (Nat.le_refl _) _
  have hR2 : Rec 247 w2 w.heap.size #[.int .i64 (t.sz : Nat), .int .i64 (L : Nat), nilv] := by
    rw [hw2, HZ.out]
    exact HC1.out.blk.set 1 _
  rw [← hw2]
  clear hw2 c0 f1 k1
  refine (fresh_any A n c t.bytes w2 (HR.out.below (Nat.le_refl _) hB2) (by omega)).mono ?_
  rintro e w3 ⟨rfl, hO3, hB3⟩
  have hR3 := hR2.under hB3
  have f2 := hR3.fz 2
  have k2 : w3.cell? ⟨w.heap.size, 2, none⟩ = some nilv := hR3.at_ 2
  have HR3 := Lib.hid hR3
  have HO3 := Lib.hid hO3
  have HB3 := Lib.hid (hB2.trans (hB3.mono hB2.size))
  have HLT := Lib.hid hR2.lt
  clear hR3 hO3 hB3 hR2 hB2
  go_wp2
  go_ret2
  have hs2 : Fr (· = w.heap.size) w3 (w3.setCell ⟨w.heap.size, 2, none⟩ (.slice (some ⟨w2.heap.size, 0, none⟩) n n)) := Fr.setCell (own := (· = w.heap.size)) w3 (p := ⟨w.heap.size, 2, none⟩) rfl _
  have hx2 : w2.heap.size < w3.heap.size := by
    rcases HO3.out.2 with ⟨hn, _⟩ | ⟨g, cap, cur, hv, _, hh, _⟩
    · cases hn
    · injection hv with hv
      injection hv with hv
      injection hv with hv
      rw [hv]
      exact (Array.getElem?_eq_some_iff.1 hh).1
  have hlt := HLT.out
  have hsz := hs2.size
  refine ⟨rfl, HB3.out.setCell (p := ⟨w.heap.size, 2, none⟩) (Nat.le_refl _) _, .slice (some ⟨w2.heap.size, 0, none⟩) n n, ?_⟩
  exact {
    blk := by
      rw [← HL.out]
      exact HR3.out.set 2 _
    row := by
      rw [hnl]
      exact own_mono (own_fr HO3.out hs2 (fun x hx e => by injection hx with hx; have hx' : w2.heap.size = x := hx; have e' : x = w.heap.size := e; omega)) (Nat.zero_le _)
    ownp := ⟨Nat.le_refl _, by omega⟩
    ownv := fun x hx => by injection hx with hx; have hx' : w2.heap.size = x := hx; exact ⟨by omega, by omega⟩
    ne := fun x hx => by injection hx with hx; have hx' : w2.heap.size = x := hx; omega
    ok := HT.out }
end
end Go.Proofs.YtddiadpbkjdomaaGreatDoor
namespace Go.Proofs.YtddiadpbkjdomaaGreatDoor

/-! How many. -/
def cnt : Nat → Nat → Nat
  | 0, _ => 0
  | n + 1, x => x % 2 + cnt n (x / 2)
theorem cnt_list (n : Nat) : ∀ x, ((List.range n).filter fun i => x.testBit i).length = cnt n x := by
  induction n with
  | zero => intro x; rfl
  | succ n ih =>
    intro x
    rw [List.range_succ_eq_map, List.filter_cons]
    have hm : ((List.map Nat.succ (List.range n)).filter fun i => x.testBit i).length = cnt n (x / 2) := by
      rw [← ih, List.filter_map, List.length_map]
      congr 1
      exact List.filter_congr fun i _ => by simp [Nat.testBit_succ]
    unfold cnt
    rw [Nat.testBit_zero]
    by_cases h : x % 2 = 1
    · simp only [h, decide_true, if_true, List.length_cons, hm]
      omega
    · have : x % 2 = 0 := by omega
      simp only [this, Nat.zero_add]
      simpa using hm
theorem listN_len (s : Nat) : (listN s).length = cnt 64 s := cnt_list 64 s
theorem cnt_add (a : Nat) : ∀ b x, cnt (a + b) x = cnt a x + cnt b (x / 2 ^ a) := by
  induction a with
  | zero => intro b x; simp [cnt]
  | succ a ih =>
    intro b x
    rw [show a + 1 + b = (a + b) + 1 by omega]
    show x % 2 + cnt (a + b) (x / 2) = x % 2 + cnt a (x / 2) + cnt b (x / 2 ^ (a + 1))
    rw [ih, Nat.div_div_eq_div_mul, Nat.pow_succ, Nat.mul_comm 2]
    omega
theorem cnt_mod (a : Nat) : ∀ x, cnt a (x % 2 ^ a) = cnt a x := by
  induction a with
  | zero => intro x; rfl
  | succ a ih =>
    intro x
    show x % 2 ^ (a + 1) % 2 + cnt a (x % 2 ^ (a + 1) / 2) = x % 2 + cnt a (x / 2)
    have h1 : x % 2 ^ (a + 1) / 2 = (x / 2) % 2 ^ a := by rw [Nat.pow_succ, Nat.mul_comm, Nat.mod_mul_right_div_self]
    have h2 : x % 2 ^ (a + 1) % 2 = x % 2 := Nat.mod_mod_of_dvd _ ⟨2 ^ a, by rw [Nat.pow_succ, Nat.mul_comm]⟩
    rw [h1, h2, ih]
theorem cnt_byte (n x : Nat) : cnt (8 + n) x = cnt 8 (x % 256) + cnt n (x / 256) := by
  rw [cnt_add, ← cnt_mod 8 x]

theorem and_parts (a b c d : Nat) (ha : a < 256) (hc : c < 256) : (a + 256 * b) &&& (c + 256 * d) = (a &&& c) + 256 * (b &&& d) := by
  have hac : a &&& c < 2 ^ 8 := Nat.lt_of_le_of_lt Nat.and_le_left ha
  apply Nat.eq_of_testBit_eq
  intro i
  rw [Nat.testBit_and, Nat.add_comm a, Nat.add_comm c, Nat.add_comm (a &&& c), show (256 : Nat) = 2 ^ 8 from rfl, Nat.testBit_two_pow_mul_add _ ha, Nat.testBit_two_pow_mul_add _ hc, Nat.testBit_two_pow_mul_add _ hac]
  by_cases h : i < 8 <;> simp [h, Nat.testBit_and]
def rep (m : Nat) : Nat → Nat
  | 0 => 0
  | n + 1 => m + 256 * rep m n
theorem byte_parts (x : Nat) : x = x % 256 + 256 * (x / 256) := by omega
/-- The first sum, byte by byte. -/
def s1 (n x : Nat) : Nat := (x / 2 &&& rep 85 n) + (x &&& rep 85 n)
def s2 (n x : Nat) : Nat := (x / 4 &&& rep 51 n) + (x &&& rep 51 n)
def s3 (n x : Nat) : Nat := (x / 16 + x) &&& rep 15 n
theorem half_mask : ∀ a, a < 256 → ∀ b, b < 2 → (a / 2 + 128 * b) &&& 85 = a / 2 &&& 85 := by decide +kernel
theorem quarter_mask : ∀ a, a < 256 → ∀ b, b < 4 → (a / 4 + 64 * b) &&& 51 = a / 4 &&& 51 := by decide +kernel
theorem b1 : ∀ a, a < 256 → (a / 2 &&& 85) + (a &&& 85) < 256 := by decide +kernel
theorem b2 : ∀ a, a < 256 → (a / 4 &&& 51) + (a &&& 51) < 256 := by decide +kernel
theorem s1_step (n x : Nat) : s1 (n + 1) x = ((x % 256 / 2 &&& 85) + (x % 256 &&& 85)) + 256 * s1 n (x / 256) := by
  unfold s1
  have e1 : x / 2 = (x % 256 / 2 + 128 * (x / 256 % 2)) + 256 * (x / 256 / 2) := by omega
  have h1 : x / 2 &&& rep 85 (n + 1) = (x % 256 / 2 &&& 85) + 256 * (x / 256 / 2 &&& rep 85 n) := by
    rw [e1]
    show _ &&& (85 + 256 * rep 85 n) = _
    rw [and_parts _ _ _ _ (by omega) (by decide), half_mask _ (by omega) _ (by omega)]
  have h2 : x &&& rep 85 (n + 1) = (x % 256 &&& 85) + 256 * (x / 256 &&& rep 85 n) := by
    conv => lhs; rw [byte_parts x]
    show _ &&& (85 + 256 * rep 85 n) = _
    rw [and_parts _ _ _ _ (by omega) (by decide)]
  rw [h1, h2]
  omega
theorem s2_step (n x : Nat) : s2 (n + 1) x = ((x % 256 / 4 &&& 51) + (x % 256 &&& 51)) + 256 * s2 n (x / 256) := by
  unfold s2
  have e1 : x / 4 = (x % 256 / 4 + 64 * (x / 256 % 4)) + 256 * (x / 256 / 4) := by omega
  have h1 : x / 4 &&& rep 51 (n + 1) = (x % 256 / 4 &&& 51) + 256 * (x / 256 / 4 &&& rep 51 n) := by
    rw [e1]
    show _ &&& (51 + 256 * rep 51 n) = _
    rw [and_parts _ _ _ _ (by omega) (by decide), quarter_mask _ (by omega) _ (by omega)]
  have h2 : x &&& rep 51 (n + 1) = (x % 256 &&& 51) + 256 * (x / 256 &&& rep 51 n) := by
    conv => lhs; rw [byte_parts x]
    show _ &&& (51 + 256 * rep 51 n) = _
    rw [and_parts _ _ _ _ (by omega) (by decide)]
  rw [h1, h2]
  omega
/-- Both halves of each byte are at most 4. -/
def small4 : Nat → Nat → Prop
  | 0, _ => True
  | n + 1, x => x % 256 / 16 ≤ 4 ∧ x % 16 ≤ 4 ∧ small4 n (x / 256)
theorem and15 (a : Nat) : a &&& 15 = a % 16 := Nat.and_two_pow_sub_one_eq_mod a 4
theorem s3_step (n x : Nat) (h : x % 256 / 16 ≤ 4 ∧ x % 16 ≤ 4 ∧ x / 256 % 16 ≤ 4) : s3 (n + 1) x = (x % 256 / 16 + x % 16) + 256 * s3 n (x / 256) := by
  unfold s3
  have e1 : x / 16 + x = (x % 256 / 16 + x % 256 + 16 * (x / 256 % 16)) + 256 * (x / 256 / 16 + x / 256) := by omega
  rw [e1]
  show _ &&& (15 + 256 * rep 15 n) = _
  rw [and_parts _ _ _ _ (by omega) (by decide), and15]
  omega
theorem byte_count : ∀ a, a < 256 → (let u := (a / 2 &&& 85) + (a &&& 85); let v := (u / 4 &&& 51) + (u &&& 51); v < 256 ∧ v / 16 ≤ 4 ∧ v % 16 ≤ 4 ∧ v / 16 + v % 16 = cnt 8 a ∧ cnt 8 a ≤ 8) := by decide +kernel
def oc (n x : Nat) : Nat := s3 n (s2 n (s1 n x))
theorem s2_low (n x : Nat) : s2 n (s1 n x) % 16 ≤ 4 := by
  rcases n with _ | n
  · have h1 : s1 0 x = 0 := by unfold s1; show (x / 2 &&& 0) + (x &&& 0) = 0; simp
    rw [h1]
    decide
  · have hb := byte_count (x % 256) (by omega)
    have hu := b1 (x % 256) (by omega)
    rw [s2_step, s1_step]
    obtain ⟨u, hu'⟩ : ∃ u, u = (x % 256 / 2 &&& 85) + (x % 256 &&& 85) := ⟨_, rfl⟩
    rw [← hu'] at hu hb ⊢
    have e : (u + 256 * s1 n (x / 256)) % 256 = u := by omega
    rw [e]
    simp only at hb
    obtain ⟨_, _, k3, _⟩ := hb
    omega
theorem oc_step (n x : Nat) : oc (n + 1) x = cnt 8 (x % 256) + 256 * oc n (x / 256) ∧ cnt 8 (x % 256) ≤ 8 := by
  unfold oc
  obtain ⟨u, hu⟩ : ∃ u, u = (x % 256 / 2 &&& 85) + (x % 256 &&& 85) := ⟨_, rfl⟩
  obtain ⟨v, hv⟩ : ∃ v, v = (u / 4 &&& 51) + (u &&& 51) := ⟨_, rfl⟩
  have hb := byte_count (x % 256) (by omega)
  simp only [← hu, ← hv] at hb
  obtain ⟨k1, k2, k3, k4, k5⟩ := hb
  refine ⟨?_, k5⟩
  have hu1 : u < 256 := by rw [hu]; exact b1 _ (by omega)
  have e1 : s1 (n + 1) x = u + 256 * s1 n (x / 256) := by rw [s1_step, ← hu]
  have m1 : s1 (n + 1) x % 256 = u := by omega
  have d1 : s1 (n + 1) x / 256 = s1 n (x / 256) := by omega
  have e2 : s2 (n + 1) (s1 (n + 1) x) = v + 256 * s2 n (s1 n (x / 256)) := by rw [s2_step, m1, d1, ← hv]
  have m2 : s2 (n + 1) (s1 (n + 1) x) % 256 = v := by omega
  have m3 : s2 (n + 1) (s1 (n + 1) x) % 16 = v % 16 := by omega
  have d2 : s2 (n + 1) (s1 (n + 1) x) / 256 = s2 n (s1 n (x / 256)) := by omega
  have hnext := s2_low n (x / 256)
  rw [s3_step _ _ ⟨by rw [m2]; exact k2, by rw [m3]; exact k3, by rw [d2]; exact hnext⟩, m2, m3, d2, k4]
theorem s2_small (n : Nat) : ∀ x, s2 n (s1 n x) ≤ rep 68 n := by
  induction n with
  | zero => intro x; show (s1 0 x / 4 &&& 0) + (s1 0 x &&& 0) ≤ 0; simp
  | succ n ih =>
    intro x
    have hb := byte_count (x % 256) (by omega)
    have hu := b1 (x % 256) (by omega)
    have := ih (x / 256)
    rw [s2_step, s1_step]
    show _ ≤ 68 + 256 * rep 68 n
    obtain ⟨u, hu'⟩ : ∃ u, u = (x % 256 / 2 &&& 85) + (x % 256 &&& 85) := ⟨_, rfl⟩
    rw [← hu'] at hu hb ⊢
    have e : (u + 256 * s1 n (x / 256)) % 256 = u := by omega
    have e' : (u + 256 * s1 n (x / 256)) / 256 = s1 n (x / 256) := by omega
    rw [e, e']
    simp only at hb
    obtain ⟨_, k2, k3, _⟩ := hb
    omega
theorem s1_lt (n : Nat) : ∀ x, x < 256 ^ n → s1 n x < 256 ^ n := by
  induction n with
  | zero => intro x h; have : x = 0 := by simpa using h
            subst this; decide
  | succ n ih =>
    intro x h
    rw [Nat.pow_succ] at h ⊢
    have := ih (x / 256) (Nat.div_lt_of_lt_mul (by rw [Nat.mul_comm]; exact h))
    have := b1 (x % 256) (by omega)
    rw [s1_step]
    omega
theorem s2_lt (n : Nat) : ∀ x, x < 256 ^ n → s2 n x < 256 ^ n := by
  induction n with
  | zero => intro x h; have : x = 0 := by simpa using h
            subst this; decide
  | succ n ih =>
    intro x h
    rw [Nat.pow_succ] at h ⊢
    have := ih (x / 256) (Nat.div_lt_of_lt_mul (by rw [Nat.mul_comm]; exact h))
    have := b2 (x % 256) (by omega)
    rw [s2_step]
    omega
theorem dq {a p A : Nat} (e : a = p + 256 * A) (h : p < 256) : a / 256 = A := by omega
theorem addq {a b p q A B : Nat} (ha : a = p + 256 * A) (hb : b = q + 256 * B) : a + b = (p + q) + 256 * (A + B) := by omega
theorem bq {a p A K : Nat} (e : a = p + 256 * A) (h : p ≤ 8) (hA : A ≤ K) : a ≤ 8 + 256 * K := by omega
theorem mq {a p A : Nat} (e : a = p + 256 * A) (h : p < 128) : a % 128 = p := by omega
/-- The last three sums and the mask: A the digits to the base 256 from the k-th on. -/
theorem swar (A0 A1 A2 A3 A4 A5 A6 A7 p0 p1 p2 p3 p4 p5 p6 p7 : Nat) (h0 : p0 ≤ 8) (h1 : p1 ≤ 8) (h2 : p2 ≤ 8) (h3 : p3 ≤ 8) (h4 : p4 ≤ 8) (h5 : p5 ≤ 8) (h6 : p6 ≤ 8) (h7 : p7 ≤ 8)
    (e0 : A0 = p0 + 256 * A1) (e1 : A1 = p1 + 256 * A2) (e2 : A2 = p2 + 256 * A3) (e3 : A3 = p3 + 256 * A4) (e4 : A4 = p4 + 256 * A5) (e5 : A5 = p5 + 256 * A6) (e6 : A6 = p6 + 256 * A7) (e7 : A7 = p7 + 256 * 0) :
    A0 < 18446744073709551616 ∧ A0 + A0 / 256 < 18446744073709551616 ∧ (A0 + A0 / 256) + (A0 + A0 / 256) / 65536 < 18446744073709551616 ∧
    ((A0 + A0 / 256) + (A0 + A0 / 256) / 65536) + ((A0 + A0 / 256) + (A0 + A0 / 256) / 65536) / 4294967296 < 18446744073709551616 ∧
    (((A0 + A0 / 256) + (A0 + A0 / 256) / 65536) + ((A0 + A0 / 256) + (A0 + A0 / 256) / 65536) / 4294967296) % 128 = p0 + p1 + p2 + p3 + p4 + p5 + p6 + p7 := by
  have b7 := bq e7 h7 (Nat.le_refl 0)
  have b6 := bq e6 h6 b7
  have b5 := bq e5 h5 b6
  have b4 := bq e4 h4 b5
  have b3 := bq e3 h3 b4
  have b2 := bq e2 h2 b3
  have b1 := bq e1 h1 b2
  have b0 := bq e0 h0 b1
  have q0 : p0 + p1 < 256 := by clear e0 e1 e2 e3 e4 e5 e6 e7 b0 b1 b2 b3 b4 b5 b6 b7; omega
  have q1 : p1 + p2 < 256 := by clear e0 e1 e2 e3 e4 e5 e6 e7 b0 b1 b2 b3 b4 b5 b6 b7; omega
  have r0 : p0 + p1 + (p2 + p3) < 256 := by clear e0 e1 e2 e3 e4 e5 e6 e7 b0 b1 b2 b3 b4 b5 b6 b7; omega
  have r1 : p1 + p2 + (p3 + p4) < 256 := by clear e0 e1 e2 e3 e4 e5 e6 e7 b0 b1 b2 b3 b4 b5 b6 b7; omega
  have r2 : p2 + p3 + (p4 + p5) < 256 := by clear e0 e1 e2 e3 e4 e5 e6 e7 b0 b1 b2 b3 b4 b5 b6 b7; omega
  have r3 : p3 + p4 + (p5 + p6) < 256 := by clear e0 e1 e2 e3 e4 e5 e6 e7 b0 b1 b2 b3 b4 b5 b6 b7; omega
  have l0 : p0 + p1 + (p2 + p3) + (p4 + p5 + (p6 + p7)) < 128 := by clear e0 e1 e2 e3 e4 e5 e6 e7 b0 b1 b2 b3 b4 b5 b6 b7; omega
  have d0 : A0 / 256 = A1 := dq e0 (Nat.lt_of_le_of_lt h0 (by decide))
  rw [d0]
  have B0 := addq e0 e1
  have B1 := addq e1 e2
  have B2 := addq e2 e3
  have B3 := addq e3 e4
  have B4 := addq e4 e5
  have B5 := addq e5 e6
  have B6 := addq e6 e7
  have d1 : (A0 + A1) / 65536 = A2 + A3 := by rw [show (65536 : Nat) = 256 * 256 from rfl, ← Nat.div_div_eq_div_mul, dq B0 q0, dq B1 q1]
  rw [d1]
  have C0 := addq B0 B2
  have C1 := addq B1 B3
  have C2 := addq B2 B4
  have C3 := addq B3 B5
  have C4 := addq B4 B6
  have d2 : (A0 + A1 + (A2 + A3)) / 4294967296 = A4 + A5 + (A6 + A7) := by rw [show (4294967296 : Nat) = 256 * 256 * 256 * 256 from rfl, ← Nat.div_div_eq_div_mul, ← Nat.div_div_eq_div_mul, ← Nat.div_div_eq_div_mul, dq C0 r0, dq C1 r1, dq C2 r2, dq C3 r3]
  rw [d2]
  refine ⟨Nat.lt_of_le_of_lt b0 (by decide), Nat.lt_of_le_of_lt (Nat.add_le_add b0 b1) (by decide), Nat.lt_of_le_of_lt (Nat.add_le_add (Nat.add_le_add b0 b1) (Nat.add_le_add b2 b3)) (by decide), Nat.lt_of_le_of_lt (Nat.add_le_add (Nat.add_le_add (Nat.add_le_add b0 b1) (Nat.add_le_add b2 b3)) (Nat.add_le_add (Nat.add_le_add b4 b5) (Nat.add_le_add b6 b7))) (by decide), ?_⟩
  rw [mq (addq C0 C4) l0]
  simp only [Nat.add_assoc]
theorem oc_sum (x : Nat) (y : Nat) (hy : y = oc 8 x) : y < 18446744073709551616 ∧ y + y / 256 < 18446744073709551616 ∧ (y + y / 256) + (y + y / 256) / 65536 < 18446744073709551616 ∧
    ((y + y / 256) + (y + y / 256) / 65536) + ((y + y / 256) + (y + y / 256) / 65536) / 4294967296 < 18446744073709551616 ∧
    (((y + y / 256) + (y + y / 256) / 65536) + ((y + y / 256) + (y + y / 256) / 65536) / 4294967296) % 128 = cnt 64 x := by
  obtain ⟨x1, hx1⟩ : ∃ x1, x1 = x / 256 := ⟨_, rfl⟩
  obtain ⟨x2, hx2⟩ : ∃ x2, x2 = x1 / 256 := ⟨_, rfl⟩
  obtain ⟨x3, hx3⟩ : ∃ x3, x3 = x2 / 256 := ⟨_, rfl⟩
  obtain ⟨x4, hx4⟩ : ∃ x4, x4 = x3 / 256 := ⟨_, rfl⟩
  obtain ⟨x5, hx5⟩ : ∃ x5, x5 = x4 / 256 := ⟨_, rfl⟩
  obtain ⟨x6, hx6⟩ : ∃ x6, x6 = x5 / 256 := ⟨_, rfl⟩
  obtain ⟨x7, hx7⟩ : ∃ x7, x7 = x6 / 256 := ⟨_, rfl⟩
  have c7 : oc 8 x = _ ∧ _ := oc_step 7 x
  have c6 : oc 7 x1 = _ ∧ _ := oc_step 6 x1
  have c5 : oc 6 x2 = _ ∧ _ := oc_step 5 x2
  have c4 : oc 5 x3 = _ ∧ _ := oc_step 4 x3
  have c3 : oc 4 x4 = _ ∧ _ := oc_step 3 x4
  have c2 : oc 3 x5 = _ ∧ _ := oc_step 2 x5
  have c1 : oc 2 x6 = _ ∧ _ := oc_step 1 x6
  have c0 : oc 1 x7 = _ ∧ _ := oc_step 0 x7
  have z : oc 0 (x7 / 256) = 0 := Nat.and_zero _
  have k7 : cnt 64 x = cnt 8 (x % 256) + cnt 56 (x / 256) := cnt_byte 56 x
  have k6 : cnt 56 x1 = cnt 8 (x1 % 256) + cnt 48 (x1 / 256) := cnt_byte 48 x1
  have k5 : cnt 48 x2 = cnt 8 (x2 % 256) + cnt 40 (x2 / 256) := cnt_byte 40 x2
  have k4 : cnt 40 x3 = cnt 8 (x3 % 256) + cnt 32 (x3 / 256) := cnt_byte 32 x3
  have k3 : cnt 32 x4 = cnt 8 (x4 % 256) + cnt 24 (x4 / 256) := cnt_byte 24 x4
  have k2 : cnt 24 x5 = cnt 8 (x5 % 256) + cnt 16 (x5 / 256) := cnt_byte 16 x5
  have k1 : cnt 16 x6 = cnt 8 (x6 % 256) + cnt 8 (x6 / 256) := cnt_byte 8 x6
  have k0 : cnt 8 (x7 % 256) = cnt 8 x7 := cnt_mod 8 x7
  rw [← hx1] at c7 k7
  rw [← hx2] at c6 k6
  rw [← hx3] at c5 k5
  rw [← hx4] at c4 k4
  rw [← hx5] at c3 k3
  rw [← hx6] at c2 k2
  rw [← hx7] at c1 k1
  rw [z] at c0
  rw [← k0] at k1
  rw [← hy] at c7
  have key := swar y _ _ _ _ _ _ _ _ _ _ _ _ _ _ _ c7.2 c6.2 c5.2 c4.2 c3.2 c2.2 c1.2 c0.2 c7.1 c6.1 c5.1 c4.1 c3.1 c2.1 c1.1 c0.1
  rw [k7, k6, k5, k4, k3, k2, k1]
  rw [← Nat.add_assoc, ← Nat.add_assoc, ← Nat.add_assoc, ← Nat.add_assoc, ← Nat.add_assoc, ← Nat.add_assoc]
  exact key
end Go.Proofs.YtddiadpbkjdomaaGreatDoor
namespace Go.Proofs.YtddiadpbkjdomaaGreatDoor
open Go.RowKit

/-- The table of the library's. -/
def TabAt (w : World) : Prop := ∀ j, j < 64 → w.cell? ⟨0, j, none⟩ = some (.int .u8 ((Lib.deBruijn64tab.getD j 0 : Nat) : Int))

theorem tz_any (x : Nat) (w : World) (hx0 : x ≠ 0) (hx : x < 18446744073709551616) (hT : TabAt w) :
    Calls Tryz.prog 148 #[.int .u64 x] w fun e w' => e = .returned (.int .i64 (Lib.ctz 64 x : Nat)) ∧ w = w' := by
  obtain ⟨hlow, hk⟩ := Lib.lowest_bit 64 x hx0 hx
  obtain ⟨hi, htab⟩ := Lib.deBruijn64_at _ hk
  obtain ⟨k, hk'⟩ : ∃ k, k = Lib.ctz 64 x := ⟨_, rfl⟩
  rw [← hk'] at hlow hk hi htab ⊢
  obtain ⟨i, hi'⟩ : ∃ i, i = 2 ^ k * 285870213051353865 % 18446744073709551616 / 288230376151711744 := ⟨_, rfl⟩
  rw [← hi'] at hi htab
  have hcell := hT i hi
  rw [htab] at hcell
  have hq : ((x : Int) == 0) = false := by simp; omega
  have key : IntKind.u64.wrap (bits BinOp.and IntKind.u64 (x : Int) (IntKind.u64.wrap (-(x : Int))) * 285870213051353865) / 288230376151711744 = (i : Int) := by
    have e1 : IntKind.u64.wrap (-(x : Int)) = ((18446744073709551616 - x : Nat) : Int) := by rw [IntKind.wrap_u64]; omega
    obtain ⟨a, ha⟩ : ∃ a, a = 2 ^ k := ⟨_, rfl⟩
    rw [← ha] at hlow hi'
    rw [e1, u64_and_nat x _ hx (by omega), hlow, IntKind.wrap_u64, hi']
    have e2 : (a : Int) * 285870213051353865 = ((a * 285870213051353865 : Nat) : Int) := by rw [Int.natCast_mul]; rfl
    rw [e2]
    obtain ⟨q, hq'⟩ : ∃ q, q = a * 285870213051353865 := ⟨_, rfl⟩
    rw [← hq']
    clear hlow htab hcell hT ha e1 e2 hq' hi'
    omega
  clear hi' htab hlow hT hk'
  go_enter Tryz.func148, Tryz.ntmps148
  go_wp2_with (simp only [key])
  go_ret
  exact ⟨rfl, rfl⟩

set_option maxRecDepth 10000 in
theorem TabAt.below {w w' : World} (h : TabAt w) (hb : Below w.heap.size w w') : TabAt w' := fun j hj => by
  have h1 := h j hj
  have hlt : 0 < w.heap.size := World.block_lt_of_cell? w _ h1
  exact (hb.cell (p := ⟨0, j, none⟩) hlt).trans h1
end Go.Proofs.YtddiadpbkjdomaaGreatDoor
namespace Go.Proofs.YtddiadpbkjdomaaGreatDoor
open Go.RowKit

theorem ones_any (x : Nat) (w : World) (hx : x < 18446744073709551616) :
    Calls Tryz.prog 175 #[.int .u64 x] w fun e w' => e = .returned (.int .i64 (listN x).length) ∧ w = w' := by
  have r85 : rep 85 8 = 6148914691236517205 := by decide
  have r51 : rep 51 8 = 3689348814741910323 := by decide
  have r15 : rep 15 8 = 1085102592571150095 := by decide
  have r68 : rep 68 8 = 4919131752989213764 := by decide
  have h1 : s1 8 x < 18446744073709551616 := s1_lt 8 x hx
  have h2 : s2 8 (s1 8 x) ≤ 4919131752989213764 := r68 ▸ s2_small 8 x
  obtain ⟨y3, hy3⟩ : ∃ y, y = oc 8 x := ⟨_, rfl⟩
  obtain ⟨g3, g4, g5, g6, gc⟩ := oc_sum x y3 hy3
  rw [← listN_len] at gc
  have k1 : IntKind.u64.wrap (bits BinOp.and IntKind.u64 ((x : Int) / 2) 6148914691236517205 + bits BinOp.and IntKind.u64 (x : Int) 6148914691236517205) = ((s1 8 x : Nat) : Int) := by
    have a1 := u64_and_nat (x / 2) 6148914691236517205 (by omega) (by decide)
    have a2 := u64_and_nat x 6148914691236517205 hx (by decide)
    have e : ((x : Int) / 2) = ((x / 2 : Nat) : Int) := by omega
    have e2 : ((6148914691236517205 : Nat) : Int) = 6148914691236517205 := rfl
    rw [e2] at a1 a2
    rw [e, a1, a2, IntKind.wrap_u64]
    have h1' := h1
    unfold s1 at h1' ⊢
    rw [r85] at h1' ⊢
    omega
  obtain ⟨y1, hy1⟩ : ∃ y, y = s1 8 x := ⟨_, rfl⟩
  rw [← hy1] at k1 h1 h2
  have k2 : IntKind.u64.wrap (bits BinOp.and IntKind.u64 ((y1 : Int) / 4) 3689348814741910323 + bits BinOp.and IntKind.u64 (y1 : Int) 3689348814741910323) = ((s2 8 y1 : Nat) : Int) := by
    have a1 := u64_and_nat (y1 / 4) 3689348814741910323 (by omega) (by decide)
    have a2 := u64_and_nat y1 3689348814741910323 h1 (by decide)
    have e : ((y1 : Int) / 4) = ((y1 / 4 : Nat) : Int) := by omega
    have e2 : ((3689348814741910323 : Nat) : Int) = 3689348814741910323 := rfl
    rw [e2] at a1 a2
    rw [e, a1, a2, IntKind.wrap_u64]
    unfold s2 at h2 ⊢
    rw [r51] at h2 ⊢
    omega
  obtain ⟨y2, hy2⟩ : ∃ y, y = s2 8 y1 := ⟨_, rfl⟩
  rw [← hy2] at k2 h2
  have k3 : bits BinOp.and IntKind.u64 (IntKind.u64.wrap ((y2 : Int) / 16 + (y2 : Int))) 1085102592571150095 = (y3 : Int) := by
    have a1 := u64_and_nat (y2 / 16 + y2) 1085102592571150095 (by omega) (by decide)
    have e : IntKind.u64.wrap ((y2 : Int) / 16 + (y2 : Int)) = ((y2 / 16 + y2 : Nat) : Int) := by rw [IntKind.wrap_u64]; omega
    have e2 : ((1085102592571150095 : Nat) : Int) = 1085102592571150095 := rfl
    rw [e2] at a1
    rw [e, a1, hy3]
    unfold oc s3
    rw [← hy1, ← hy2, r15]
  clear r85 r51 r15 r68 h1 h2 hy1 hy2 hy3
  have k4 : IntKind.u64.wrap ((y3 : Int) + (y3 : Int) / 256) = ((y3 + y3 / 256 : Nat) : Int) := by rw [IntKind.wrap_u64]; omega
  obtain ⟨y4, hy4⟩ : ∃ y, y = y3 + y3 / 256 := ⟨_, rfl⟩
  rw [← hy4] at k4 g4 g5 g6 gc
  clear hy4
  have k5 : IntKind.u64.wrap ((y4 : Int) + (y4 : Int) / 65536) = ((y4 + y4 / 65536 : Nat) : Int) := by rw [IntKind.wrap_u64]; omega
  obtain ⟨y5, hy5⟩ : ∃ y, y = y4 + y4 / 65536 := ⟨_, rfl⟩
  rw [← hy5] at k5 g5 g6 gc
  clear hy5
  have k6 : IntKind.u64.wrap ((y5 : Int) + (y5 : Int) / 4294967296) = ((y5 + y5 / 4294967296 : Nat) : Int) := by rw [IntKind.wrap_u64]; omega
  obtain ⟨y6, hy6⟩ : ∃ y, y = y5 + y5 / 4294967296 := ⟨_, rfl⟩
  rw [← hy6] at k6 g6 gc
  clear hy6
  have k7 : bits BinOp.and IntKind.i64 (wrap64 (y6 : Int)) 127 = ((listN x).length : Int) := by
    rw [← gc, i64_and127]
    clear k1 k2 k3 k4 k5 k6
    unfold wrap64
    omega
  obtain ⟨c, hc⟩ : ∃ c, c = (listN x).length := ⟨_, rfl⟩
  rw [← hc] at k7 ⊢
  clear gc hc g3 g4 g5
  go_enter Tryz.func175, Tryz.ntmps175
  go_wp2
  go_ret
  exact ⟨rfl, rfl⟩

theorem BCount_any (x : Nat) (w : World) (hx : x < 18446744073709551616) :
    Calls Tryz.prog 147 #[.int .u64 x] w fun e w' => e = .returned (.int .i64 (listN x).length) ∧ w = w' := by
  have C := ones_any x w hx
  go_enter Tryz.func147, Tryz.ntmps147
  go_wp2_with fail
  refine C.mono ?_
  rintro e w' ⟨rfl, rfl⟩
  go_wp2
  go_ret
  exact ⟨rfl, rfl⟩
end Go.Proofs.YtddiadpbkjdomaaGreatDoor
namespace Go.Proofs.YtddiadpbkjdomaaGreatDoor
open Go.RowKit
set_option maxRecDepth 20000

theorem List_any (s : Nat) (w : World) (hs : s < 18446744073709551616) (hT : TabAt w) :
    Calls Tryz.prog 107 #[.int .u64 s] w fun e w' => ∃ v, e = .returned v ∧ w'.ownsRow w.heap.size 3 1 v (listN s).length ((listZ s).map (Value.int .i64)) ∧ Below w.heap.size w w' := by
  have C := Lib.hid (BCount_any s w hs)
  have hll : (listN s).length ≤ 64 := by
    have := List.length_filter_le (fun i => s.testBit i) (List.range 64)
    rw [List.length_range] at this
    exact this
  obtain ⟨i0, hi0, hz0, hz1, hz2⟩ := info_parts intT.info
  have HT := Lib.hid hT
  clear hT
  go_enter Tryz.func107, Tryz.ntmps107
  go_wp2_with fail
  refine C.out.mono ?_
  rintro e w' ⟨rfl, rfl⟩
  go_wp2_with (at_make; refine wpList_mk _ intT rfl (.const (.int .i64 0)) (.tmp 7) rfl w.heap.size .i64 .i64 _ (listN s).length rfl rfl rfl (by omega) (by unfold maxLen; omega) (Nat.le_refl _) ?_; intro v1 w1 hown1 hb1)
  go_loopw [3, 4] (fun v rv wr => ∃ (t : Nat) (pre : List Nat), t < 18446744073709551616 ∧ rv = .int .u64 t ∧ listN s = pre ++ listN t ∧ wr.ownsRow w.heap.size 3 1 v pre.length ((pre.map Int.ofNat).map (Value.int .i64)) ∧ Below w.heap.size w wr) (fun _ rv _ => (listN (intOf rv).toNat).length)
  case atStart => exact ⟨s, [], hs, rfl, rfl, hown1, hb1⟩
  case round =>
    obtain ⟨t, pre, ht, rfl, hl, ho, hB⟩ := hrel
    have hbs := hB.size
    by_cases h0 : t = 0
    · subst h0
      have HB := Lib.hid hB
      have HL := Lib.hid hl
      clear hB hl
      go_wp2
      go_ret
      have e : pre = listN s := by rw [HL.out, listN_zero, List.append_nil]
      subst e
      exact ⟨_, rfl, ho, HB.out⟩
    · obtain ⟨hk, hlow⟩ := lowN t h0 ht
      have TZ := Lib.hid (tz_any t wr h0 ht (HT.out.below hB))
      obtain ⟨k, hk'⟩ : ∃ k, k = Lib.ctz 64 t := ⟨_, rfl⟩
      rw [← hk'] at hk hlow TZ
      have hlen := congrArg List.length hl
      rw [List.length_append] at hlen
      have HLow := Lib.hid hlow
      have HL := Lib.hid hl
      have HB := Lib.hid hB
      have HK := Lib.hid hlen
      have hpl : pre.length ≤ 64 := by omega
      clear hlow hl hB hk' hlen
      go_wp2_with fail
      refine TZ.out.mono ?_
      rintro e w' ⟨rfl, rfl⟩
      go_wp2_with (at_builtin; refine wpList_append_own_at _ rfl _ _ 34 rfl w.heap.size 3 i0 (.int .i64 0) 1 8 Tryz.underlying34 hi0 hz0 hz1 hz2 rfl (by decide) _ _ _ rfl (ho.alloc _) ⟨wr.heap.size, 0, none⟩ 1 1 [.int .i64 k] rfl rfl (cell_one_new _ _ _) (fun u hu => by rw [List.mem_singleton.1 hu]; rfl) (by unfold maxLen; omega) (by omega) (by simp; omega) ?_; intro v' w4 ho4 hg4 _ _; try go_frame)
      have hB4 : Below w.heap.size w w4 := (HB.out.alloc hbs _).grown hg4 (by simp; omega) (fun q hq => (ho.lt q hq).1)
      have W := Lib.hid (Without_any t (k : Int) w4 ht)
      have hs4 := hB4.size
      have HB4 := Lib.hid hB4
      have HO4 := Lib.hid ho4
      clear hB4 ho4 hg4 ho
      go_wp2_with fail
      refine W.out.mono ?_
      rintro e w5 ⟨rfl, hB5⟩
      have HB5 := Lib.hid hB5
      have HO5 := Lib.hid (own_keep HO4.out hB5)
      have hbl := butN_lt (o := orL [(k : Int)]) ht
      clear hB5
      obtain ⟨t', ht'⟩ : ∃ t', t' = butN t (orL [(k : Int)]) := ⟨_, rfl⟩
      rw [← ht'] at HLow hbl ⊢
      clear ht'
      go_wp2
      go_roundw
      case rel =>
        refine ⟨t', pre ++ [k], hbl, rfl, ?_, ?_, HB4.out.trans (HB5.out.mono hs4)⟩
        · rw [HL.out, HLow.out]; simp
        · have := HO5.out
          simpa using this
      case measure =>
        rw [show (intOf (.int .u64 (t' : Int))).toNat = t' from rfl, show (intOf (.int .u64 (t : Int))).toNat = t from rfl, HLow.out]
        simp
end Go.Proofs.YtddiadpbkjdomaaGreatDoor
namespace Go.Proofs.YtddiadpbkjdomaaGreatDoor
open Go.RowKit

/-- Blocks of keep are as they were. -/
def WStays (keep : Nat → Prop) (w w' : World) : Prop := w.heap.size ≤ w'.heap.size ∧ ∀ x, keep x → w'.heap[x]? = w.heap[x]?
/-- A slice of values of sz cells each. -/
def VRow (K : Nat → Prop) (w : World) (A : Option Addr) (n sz : Nat) (vs : List Value) : Prop :=
  vs.length = n * sz ∧ (A = none → n = 0) ∧ (0 < n → ∃ b o, A = some ⟨b, o, none⟩ ∧ K b ∧ b < w.heap.size ∧ ∀ j u, vs[j]? = some u → w.cell? ⟨b, o + j, none⟩ = some u)
/-- A value that is a slice of these bytes. -/
def VB (K : Nat → Prop) (w : World) (u : Value) (l : List UInt8) : Prop :=
  ∃ A m c, u = .slice A m c ∧ Rd w A m l ∧ ∀ b o, A = some ⟨b, o, none⟩ → 0 < m → K b ∧ b < w.heap.size
/-- Values: slices of bytes. -/
def HdV (K : Nat → Prop) (w : World) (vs : List Value) (ls : List (List UInt8)) : Prop :=
  vs.length = ls.length ∧ ∀ j u, vs[j]? = some u → VB K w u (ls.getD j [])
/-- A slice of slices of bytes. -/
def RowsV (K : Nat → Prop) (w : World) (A : Option Addr) (n : Nat) (ls : List (List UInt8)) : Prop := ∃ vs, ls.length = n ∧ VRow K w A n 1 vs ∧ HdV K w vs ls

section
variable {K K' : Nat → Prop} {w w' w'' : World} {A : Option Addr} {n sz : Nat} {vs : List Value} {u : Value} {l : List UInt8} {ls : List (List UInt8)}
theorem WStays.refl (keep : Nat → Prop) (w : World) : WStays keep w w := ⟨Nat.le_refl _, fun _ _ => rfl⟩
theorem WStays.trans (h : WStays K w w') (k : WStays K w' w'') : WStays K w w'' := ⟨Nat.le_trans h.1 k.1, fun x hx => (k.2 x hx).trans (h.2 x hx)⟩
theorem WStays.less (h : WStays K w w') (hk : ∀ x, K' x → K x) : WStays K' w w' := ⟨h.1, fun x hx => h.2 x (hk x hx)⟩
theorem WStays.ofBelow (hb : Below w.heap.size w w') : WStays (fun x => x < w.heap.size) w w' := ⟨hb.size, fun x hx => hb.block x hx⟩
theorem Rd.wstays (h : Rd w A n l) (hs : WStays K w w') (hk : ∀ b o, A = some ⟨b, o, none⟩ → 0 < n → K b) : Rd w' A n l :=
  ⟨h.1, fun hn => by
    obtain ⟨b, o, e, hlt, hc⟩ := h.2 hn
    exact ⟨b, o, e, Nat.lt_of_lt_of_le hlt hs.1, fun j hj => (World.cell?_of_block (w := w) (a := ⟨b, o + j, none⟩) (hs.2 b (hk b o e hn))).trans (hc j hj)⟩⟩
theorem VRow.stays (h : VRow K w A n sz vs) (hs : WStays K w w') : VRow K w' A n sz vs :=
  ⟨h.1, h.2.1, fun hp => by obtain ⟨b, o, e, hk, hlt, hc⟩ := h.2.2 hp; exact ⟨b, o, e, hk, Nat.lt_of_lt_of_le hlt hs.1, fun j u hj => (World.cell?_of_block (a := ⟨b, o + j, none⟩) (hs.2 b hk)).trans (hc j u hj)⟩⟩
theorem VRow.mono (h : VRow K w A n sz vs) (hk : ∀ x, K x → K' x) : VRow K' w A n sz vs :=
  ⟨h.1, h.2.1, fun hp => by obtain ⟨b, o, e, h1, r⟩ := h.2.2 hp; exact ⟨b, o, e, hk b h1, r⟩⟩
theorem VRow.lt (h : VRow K w A n sz vs) : VRow (fun x => K x ∧ x < w.heap.size) w A n sz vs :=
  ⟨h.1, h.2.1, fun hp => by obtain ⟨b, o, e, h1, h2, r⟩ := h.2.2 hp; exact ⟨b, o, e, ⟨h1, h2⟩, h2, r⟩⟩
theorem VRow.below (h : VRow K w A n sz vs) (hb : Below w.heap.size w w') : VRow K w' A n sz vs := (h.lt.stays ⟨hb.size, fun x hx => hb.block x hx.2⟩).mono fun _ hx => hx.1
theorem VB.stays (h : VB K w u l) (hs : WStays K w w') : VB K w' u l := by
  obtain ⟨A, m, c, h1, h2, h3⟩ := h
  exact ⟨A, m, c, h1, h2.wstays hs (fun b o e hm => (h3 b o e hm).1), fun b o e hm => ⟨(h3 b o e hm).1, Nat.lt_of_lt_of_le (h3 b o e hm).2 hs.1⟩⟩
theorem VB.mono (h : VB K w u l) (hk : ∀ x, K x → K' x) : VB K' w u l := by
  obtain ⟨A, m, c, h1, h2, h3⟩ := h
  exact ⟨A, m, c, h1, h2, fun b o e hm => ⟨hk b (h3 b o e hm).1, (h3 b o e hm).2⟩⟩
theorem VB.lt (h : VB K w u l) : VB (fun x => K x ∧ x < w.heap.size) w u l := by
  obtain ⟨A, m, c, h1, h2, h3⟩ := h
  exact ⟨A, m, c, h1, h2, fun b o e hm => ⟨h3 b o e hm, (h3 b o e hm).2⟩⟩
theorem VB.below (h : VB K w u l) (hb : Below w.heap.size w w') : VB K w' u l := (h.lt.stays ⟨hb.size, fun x hx => hb.block x hx.2⟩).mono fun _ hx => hx.1
theorem VB.one (h : VB K w u l) : u.oneCell' = true := by obtain ⟨A, m, c, rfl, _⟩ := h; rfl
theorem HdV.stays (h : HdV K w vs ls) (hs : WStays K w w') : HdV K w' vs ls := ⟨h.1, fun j u hj => (h.2 j u hj).stays hs⟩
theorem HdV.mono (h : HdV K w vs ls) (hk : ∀ x, K x → K' x) : HdV K' w vs ls := ⟨h.1, fun j u hj => (h.2 j u hj).mono hk⟩
theorem HdV.below (h : HdV K w vs ls) (hb : Below w.heap.size w w') : HdV K w' vs ls := ⟨h.1, fun j u hj => (h.2 j u hj).below hb⟩
theorem HdV.one (h : HdV K w vs ls) : ∀ u ∈ vs, u.oneCell' = true := fun u hu => by
  obtain ⟨j, hj, e⟩ := List.getElem_of_mem hu
  exact (h.2 j u (by rw [List.getElem?_eq_getElem hj, e])).one
theorem HdV.set (h : HdV K w vs ls) (k : Nat) (hu : VB K w u l) : HdV K w (vs.set k u) (ls.set k l) := by
  refine ⟨by simp [h.1], fun j x hj => ?_⟩
  rw [List.getElem?_set] at hj
  by_cases hk : k = j
  · rw [if_pos hk] at hj
    split at hj
    · injection hj with hj
      subst hj hk
      have : k < ls.length := by have := h.1; omega
      rw [List.getD_eq_getElem?_getD, List.getElem?_set_self this]
      exact hu
    · cases hj
  · rw [if_neg hk] at hj
    rw [List.getD_eq_getElem?_getD, List.getElem?_set_ne hk, ← List.getD_eq_getElem?_getD]
    exact h.2 j x hj
theorem HdV.snoc (h : HdV K w vs ls) (hu : VB K w u l) : HdV K w (vs ++ [u]) (ls ++ [l]) := by
  refine ⟨by simp [h.1], fun j x hj => ?_⟩
  by_cases hk : j < vs.length
  · rw [List.getElem?_append_left hk] at hj
    rw [List.getD_eq_getElem?_getD, List.getElem?_append_left (by have := h.1; omega), ← List.getD_eq_getElem?_getD]
    exact h.2 j x hj
  · have e : j = vs.length := by
      have := (List.getElem?_eq_some_iff.1 hj).1
      simp at this
      omega
    subst e
    simp at hj
    subst hj
    rw [h.1, List.getD_eq_getElem?_getD, List.getElem?_append_right (Nat.le_refl _), Nat.sub_self]
    exact hu
theorem HdV.take (h : HdV K w vs ls) (m : Nat) : HdV K w (vs.take m) (ls.take m) := by
  refine ⟨by simp [h.1], fun j x hj => ?_⟩
  rw [List.getElem?_take] at hj
  split at hj
  · rename_i hjm
    rw [List.getD_eq_getElem?_getD, List.getElem?_take, if_pos hjm, ← List.getD_eq_getElem?_getD]
    exact h.2 j x hj
  · cases hj
theorem RowsV.stays (h : RowsV K w A n ls) (hs : WStays K w w') : RowsV K w' A n ls := by
  obtain ⟨vs, h1, h2, h3⟩ := h; exact ⟨vs, h1, h2.stays hs, h3.stays hs⟩
theorem RowsV.mono (h : RowsV K w A n ls) (hk : ∀ x, K x → K' x) : RowsV K' w A n ls := by
  obtain ⟨vs, h1, h2, h3⟩ := h; exact ⟨vs, h1, h2.mono hk, h3.mono hk⟩
theorem RowsV.below (h : RowsV K w A n ls) (hb : Below w.heap.size w w') : RowsV K w' A n ls := by
  obtain ⟨vs, h1, h2, h3⟩ := h; exact ⟨vs, h1, h2.below hb, h3.below hb⟩
theorem RowsV.lt (h : RowsV K w A n ls) : RowsV (fun x => K x ∧ x < w.heap.size) w A n ls := by
  obtain ⟨vs, h1, h2, h3⟩ := h
  exact ⟨vs, h1, h2.lt, h3.1, fun j u hj => (h3.2 j u hj).lt⟩
theorem RowsV.nil (K : Nat → Prop) (w : World) (A : Option Addr) : RowsV K w A 0 [] := ⟨[], rfl, ⟨rfl, fun _ => rfl, fun h => absurd h (Nat.lt_irrefl 0)⟩, rfl, fun j u hj => by simp at hj⟩
/-- One of them. -/
theorem RowsV.at_ (h : RowsV K w A n ls) {j : Nat} (hj : j < n) : ∃ b o u, A = some ⟨b, o, none⟩ ∧ b < w.heap.size ∧ w.cell? ⟨b, o + j, none⟩ = some u ∧ VB K w u (ls.getD j []) := by
  obtain ⟨vs, h1, h2, h3⟩ := h
  obtain ⟨b, o, e, _, hlt, hc⟩ := h2.2.2 (by omega)
  have hjl : j < vs.length := by rw [h2.1]; omega
  have hv := List.getElem?_eq_getElem hjl
  exact ⟨b, o, vs[j], e, hlt, hc j _ hv, h3.2 j _ hv⟩
theorem own_vrow {B e : Nat} {v : Value} (ho : w.ownsRow B e sz v n vs) : ∃ A c, v = .slice A n c ∧ n ≤ c ∧ c ≤ maxLen ∧ VRow (fun x => B ≤ x ∧ x < w.heap.size) w A n sz vs := by
  rcases ho.2 with ⟨rfl, rfl⟩ | ⟨g, cap, cur, rfl, hB, hh, hnc, hc, hs, ht⟩
  · exact ⟨none, 0, rfl, Nat.le_refl _, Nat.zero_le _, ho.1, fun _ => rfl, fun h => absurd h (Nat.lt_irrefl 0)⟩
  · have hlt := (Array.getElem?_eq_some_iff.1 hh).1
    refine ⟨_, cap, rfl, hnc, hc, ho.1, (fun e => by cases e), fun _ => ⟨g, 0, rfl, ⟨hB, hlt⟩, hlt, fun j u hj => ?_⟩⟩
    have := ho.cells (g := g) rfl j u hj
    rwa [Addr.add_lit] at this
theorem HdV.rows {B e : Nat} {v : Value} (h : HdV K w vs ls) (ho : w.ownsRow B e 1 v n vs) : ∃ A c, v = .slice A n c ∧ n ≤ c ∧ c ≤ maxLen ∧ RowsV (fun x => K x ∨ (B ≤ x ∧ x < w.heap.size)) w A n ls := by
  obtain ⟨A, c, e1, h1, h2, h3⟩ := own_vrow ho
  exact ⟨A, c, e1, h1, h2, vs, by have := ho.1; have := h.1; omega, h3.mono (fun x hx => .inr hx), h.mono (fun x hx => .inl hx)⟩
end

section
variable {P : Program} {ops : Array Oper} {o : Oper} {a : Act} {w : World} {J : Act → World → Prop} {Q : Exit → Act → World → Prop} {E : Prop} {K : Nat → Prop}
theorem run_appW {T e : TypeId} {z : Value} {size bytes : Nat} (el : El P T e z size bytes) (ty : TypeId) (B : Nat) (v : Value) (n : Nat) (xs : List Value) (hown : w.ownsRow B e size v n xs)
    (A : Option Addr) (m c : Nat) (vs : List Value) (hA : VRow K w A m size vs) (h1 : ∀ u ∈ vs, u.oneCell' = true) (hb : n + m ≤ 1000000000) (hby : bytes ≤ 100) (hB : B ≤ w.heap.size) :
    ∃ v' w', (Builtin.append_ #[T, T] ty #[v, .slice A m c]).run P w = .ok v' w' ∧ w'.ownsRow B e size v' (n + m) (xs ++ vs) ∧ w.grownBy w' v.ownBlock ∧ (v'.ownBlock = v.ownBlock ∨ v'.ownBlock = some w.heap.size) := by
  obtain ⟨i, hi, hz, h2, h3⟩ := info_parts el.info
  have hbb : (n + m) * bytes ≤ 1000000000 * 100 := Nat.mul_le_mul hb hby
  rcases A with _ | ad
  · have hm := hA.2.1 rfl
    subst hm
    have hn : vs = [] := List.eq_nil_of_length_eq_zero (by rw [hA.1, Nat.zero_mul])
    subst hn
    exact ⟨v, w, run_app_nil w B T ty e i size el.und hi v n xs hown c, by simpa using hown, World.grownBy.refl _ _, .inl rfl⟩
  · have hcells : ∀ j u, vs[j]? = some u → w.cell? (ad.add j) = some u := fun j u hj => by
      rcases Nat.eq_zero_or_pos m with h0 | h0
      · subst h0
        have hn : vs = [] := List.eq_nil_of_length_eq_zero (by rw [hA.1, Nat.zero_mul])
        subst hn
        cases hj
      · obtain ⟨b, o', e', _, _, hc⟩ := hA.2.2 h0
        injection e' with e'
        subst e'
        rw [Addr.add_lit]
        exact hc j u hj
    obtain ⟨v', w', hrun, r1, r2, _, r3⟩ := run_append_own_at (P := P) w B T ty e i z size bytes el.und hi hz h2 h3 el.zs el.pos v n xs hown ad m c vs hA.1 hcells h1 (by unfold maxLen; omega) (by omega) hB
    exact ⟨v', w', hrun, r1, r2, r3⟩
/-- 'append(v, x...)', x a row of values, as a step of a region that draws its order; and in a walk. -/
theorem step_appW {T e : TypeId} {z : Value} {size bytes : Nat} (el : El P T e z size bytes) (hgd : o.guard = none) (s x : Operand)
    (ho : o.op = .call { callee := .builtin .append, args := #[s, x], argTypes := #[T, T] })
    (B : Nat) (v : Value) (n : Nat) (xs : List Value) (hs : a.eval s = v) (hown : w.ownsRow B e size v n xs)
    (A : Option Addr) (m c : Nat) (vs : List Value) (hx : a.eval x = .slice A m c) (hA : VRow K w A m size vs) (h1 : ∀ u ∈ vs, u.oneCell' = true)
    (hb : n + m ≤ 1000000000) (hby : bytes ≤ 100) (hB : B ≤ w.heap.size)
    (h : ∀ v' w', w'.ownsRow B e size v' (n + m) (xs ++ vs) → w.grownBy w' v.ownBlock → J (a.put o.dst v') w') :
    if Region.wanted o (yielded ops a.tmps) = true then Oper.wp P o a w J Q else E := by
  have hw : Region.wanted o (yielded ops a.tmps) = true := by simp [Region.wanted, hgd]
  rw [if_pos hw]
  obtain ⟨v', w', hrun, r1, r2, _⟩ := run_appW (P := P) (K := K) el o.type B v n xs hown A m c vs hA h1 hb hby hB
  unfold Oper.wp execOp
  simp only [ho, resolve, invoke, builtin, Sem.run_bind, Sem.run_pure, Result.andThen_ok, List.map_toArray, List.map_cons, List.map_nil, hs, hx, hrun]
  exact h v' w' r1 r2
theorem wpList_appW {T e : TypeId} {z : Value} {size bytes : Nat} (el : El P T e z size bytes) {rest : List Oper} (hgd : Region.wanted o (yielded ops a.tmps) = true) (s x : Operand)
    (ho : o.op = .call { callee := .builtin .append, args := #[s, x], argTypes := #[T, T] })
    (B : Nat) (v : Value) (n : Nat) (xs : List Value) (hs : a.eval s = v) (hown : w.ownsRow B e size v n xs)
    (A : Option Addr) (m c : Nat) (vs : List Value) (hx : a.eval x = .slice A m c) (hA : VRow K w A m size vs) (h1 : ∀ u ∈ vs, u.oneCell' = true)
    (hb : n + m ≤ 1000000000) (hby : bytes ≤ 100) (hB : B ≤ w.heap.size)
    (h : ∀ v' w', w'.ownsRow B e size v' (n + m) (xs ++ vs) → w.grownBy w' v.ownBlock → wpList P ops Q rest (a.put o.dst v') w') : wpList P ops Q (o :: rest) a w :=
  wpList_w hgd fun _ hK => by
    obtain ⟨v', w', hrun, r1, r2, _⟩ := run_appW (P := P) (K := K) el o.type B v n xs hown A m c vs hA h1 hb hby hB
    unfold Oper.wp execOp
    simp only [ho, resolve, invoke, builtin, Sem.run_bind, Sem.run_pure, Result.andThen_ok, List.map_toArray, List.map_cons, List.map_nil, hs, hx, hrun]
    exact hK _ _ (h v' w' r1 r2)
/-- The same, and where the row lies behind it. -/
theorem step_appX {T e : TypeId} {z : Value} {size bytes : Nat} (el : El P T e z size bytes) (hgd : o.guard = none) (s x : Operand)
    (ho : o.op = .call { callee := .builtin .append, args := #[s, x], argTypes := #[T, T] })
    (B : Nat) (v : Value) (n : Nat) (xs : List Value) (hs : a.eval s = v) (hown : w.ownsRow B e size v n xs)
    (A : Option Addr) (m c : Nat) (vs : List Value) (hx : a.eval x = .slice A m c) (hA : VRow K w A m size vs) (h1 : ∀ u ∈ vs, u.oneCell' = true)
    (hb : n + m ≤ 1000000000) (hby : bytes ≤ 100) (hB : B ≤ w.heap.size)
    (h : ∀ v' w', w'.ownsRow B e size v' (n + m) (xs ++ vs) → w.grownBy w' v.ownBlock → (v'.ownBlock = v.ownBlock ∨ v'.ownBlock = some w.heap.size) → J (a.put o.dst v') w') :
    if Region.wanted o (yielded ops a.tmps) = true then Oper.wp P o a w J Q else E := by
  have hw : Region.wanted o (yielded ops a.tmps) = true := by simp [Region.wanted, hgd]
  rw [if_pos hw]
  obtain ⟨v', w', hrun, r1, r2, r3⟩ := run_appW (P := P) (K := K) el o.type B v n xs hown A m c vs hA h1 hb hby hB
  unfold Oper.wp execOp
  simp only [ho, resolve, invoke, builtin, Sem.run_bind, Sem.run_pure, Result.andThen_ok, List.map_toArray, List.map_cons, List.map_nil, hs, hx, hrun]
  exact h v' w' r1 r2 r3
theorem wpList_appX {T e : TypeId} {z : Value} {size bytes : Nat} (el : El P T e z size bytes) {rest : List Oper} (hgd : Region.wanted o (yielded ops a.tmps) = true) (s x : Operand)
    (ho : o.op = .call { callee := .builtin .append, args := #[s, x], argTypes := #[T, T] })
    (B : Nat) (v : Value) (n : Nat) (xs : List Value) (hs : a.eval s = v) (hown : w.ownsRow B e size v n xs)
    (A : Option Addr) (m c : Nat) (vs : List Value) (hx : a.eval x = .slice A m c) (hA : VRow K w A m size vs) (h1 : ∀ u ∈ vs, u.oneCell' = true)
    (hb : n + m ≤ 1000000000) (hby : bytes ≤ 100) (hB : B ≤ w.heap.size)
    (h : ∀ v' w', w'.ownsRow B e size v' (n + m) (xs ++ vs) → w.grownBy w' v.ownBlock → (v'.ownBlock = v.ownBlock ∨ v'.ownBlock = some w.heap.size) → wpList P ops Q rest (a.put o.dst v') w') : wpList P ops Q (o :: rest) a w :=
  wpList_w hgd fun _ hK => by
    obtain ⟨v', w', hrun, r1, r2, r3⟩ := run_appW (P := P) (K := K) el o.type B v n xs hown A m c vs hA h1 hb hby hB
    unfold Oper.wp execOp
    simp only [ho, resolve, invoke, builtin, Sem.run_bind, Sem.run_pure, Result.andThen_ok, List.map_toArray, List.map_cons, List.map_nil, hs, hx, hrun]
    exact hK _ _ (h v' w' r1 r2 r3)
end
end Go.Proofs.YtddiadpbkjdomaaGreatDoor
