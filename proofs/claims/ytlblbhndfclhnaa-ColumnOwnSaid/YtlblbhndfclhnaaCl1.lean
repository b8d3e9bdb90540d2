/- A column as it lies in memory; the contracts of nearest, New, fresh, check, row, Len, Size, Bytes. -/
import Derived.Test.YtlblbhndfclhnaaBase
import Derived.Test.YtlblbhndfclhnaaRec
import Derived.Test.YtlblbhndfclhnaaClM
import Derived.BigQuiet
import Derived.Deep.QuietTactic
namespace Go.Proofs.Ytlblbhndfclhnaa
open Go.RowKit

/-- A column at block p: its rows' bytes in v. -/
structure ClAt (w : World) (own : Nat → Prop) (p : Nat) (v : Value) (s : Co) : Prop where
  blk : Rec 55 w p #[.int .i64 (s.sz : Nat), .int .i64 (s.rows.length : Nat), v]
  row : w.ownsRow 0 5 1 v s.bytes.length (cells s.bytes)
  ownp : own p
  ownv : ∀ x, v.ownBlock = some x → own x
  ne : ∀ x, v.ownBlock = some x → x ≠ p
  ok : s.Ok

/-- What is owned, as the walk wants it. -/
theorem own_opens {w : World} {B e n : Nat} {v : Value} {xs : List Value} (h : w.ownsRow B e 1 v n xs) :
    ∃ A c, v = .slice A n c ∧ n ≤ c ∧ c ≤ maxLen ∧ (A = none → n = 0) ∧ (∀ a, A = some a → ∃ g cur, a = ⟨g, 0, none⟩ ∧ B ≤ g ∧ w.heap[g]? = some (.cells cur e (0, 0)) ∧ cur.size = c ∧ cur.toList.take n = xs) := by
  rcases h.2 with ⟨hv, h0⟩ | ⟨g, cap, cur, rfl, hB, hh, hn, hc, hs, ht⟩
  · exact ⟨none, 0, by rw [hv, h0], by omega, by unfold maxLen; omega, fun _ => h0, fun a e => by cases e⟩
  · exact ⟨_, cap, rfl, hn, hc, (fun e => (by cases e)), fun a e => by
      injection e with e
      exact ⟨g, cur, e.symm, hB, hh, by simpa using hs, by simpa using ht⟩⟩
theorem Rd.of_own' {w : World} {B e n c : Nat} {A : Option Addr} {l : List UInt8} (h : w.ownsRow B e 1 (.slice A n c) n (cells l)) : Rd w A n l := by
  obtain ⟨A', c', e, _, _, hr⟩ := Rd.of_own h rfl
  injection e with e1 e2 e3
  subst e1
  exact hr

section
variable {w w' : World} {own own' : Nat → Prop} {p : Nat} {v : Value} {s : Co}
theorem ClAt.lt (h : ClAt w own p v s) : p < w.heap.size := h.blk.lt
theorem ClAt.c0 (h : ClAt w own p v s) : w.cell? ⟨p, 0, none⟩ = some (.int .i64 (s.sz : Nat)) := h.blk.at_ 0
theorem ClAt.c1 (h : ClAt w own p v s) : w.cell? ⟨p, 1, none⟩ = some (.int .i64 (s.rows.length : Nat)) := h.blk.at_ 1
theorem ClAt.c2 (h : ClAt w own p v s) : w.cell? ⟨p, 2, none⟩ = some v := h.blk.at_ 2
theorem ClAt.fz (h : ClAt w own p v s) (i : Nat) : w.frozen? ⟨p, i, none⟩ = false := h.blk.fz i
theorem ClAt.kept (h : ClAt w own p v s) (hf : Fr own' w w') (hd : ∀ x, own x → ¬ own' x) : ClAt w' own p v s where
  blk := h.blk.fr hf (hd p h.ownp)
  row := own_fr h.row hf (fun x hx => hd x (h.ownv x hx))
  ownp := h.ownp
  ownv := h.ownv
  ne := h.ne
  ok := h.ok
theorem ClAt.below (h : ClAt w own p v s) (hb : Below w.heap.size w w') : ClAt w' own p v s := h.kept (own' := fun _ => False) (Fr.ofBelow _ hb) (fun _ _ hx => hx)
theorem ClAt.mono (h : ClAt w own p v s) (hk : ∀ x, own x → own' x) : ClAt w own' p v s := { h with ownp := hk _ h.ownp, ownv := fun x hx => hk x (h.ownv x hx) }
end

theorem clnear_any (n lo hi : Int) (w : World) : Calls Try.prog 22 #[.int .i64 n, .int .i64 lo, .int .i64 hi] w fun e w' => e = .returned (.int .i64 (min (max n lo) hi)) ∧ w = w' := by
  go_enter Try.func22, Try.ntmps22
  go_wp2
  all_goals go_ret
  all_goals exact ⟨ret_int (by omega), rfl⟩

theorem ClNew_any (n : Int) (w : World) :
    Calls Try.prog 7 #[.int .i64 n] w fun e w' => e = .returned (.pointer (some ⟨w.heap.size, 0, none⟩)) ∧ Below w.heap.size w w' ∧ w.heap.size < w'.heap.size ∧ ClAt w' (· = w.heap.size) w.heap.size nilv (Co.new n) := by
  have hE : (((Co.new n).sz : Nat) : Int) = min (max n 0) 64 := by
    show ((min (max n 0) 64).toNat : Int) = _
    omega
  go_enter Try.func7, Try.ntmps7
  go_wp2_with (go_at_call 22; refine (clnear_any _ _ _ _).mono ?_; rintro e w' ⟨rfl, rfl⟩)
  go_ret
  refine ⟨rfl, (Below.refl _ _).alloc (Nat.le_refl _) _, by simp, ?_⟩
  exact {
    blk := by rw [hE]; exact Rec.new w _ _
    row := World.ownsRow_nil _ _ _ _
    ownp := rfl
    ownv := fun x hx => by cases hx
    ne := fun x hx => by cases hx
    ok := Co.new_ok n }

theorem fresh_any (A : Option Addr) (n c : Nat) (l : List UInt8) (w : World) (hr : Rd w A n l) (hn : n ≤ 1000000000) :
    Calls Try.prog 24 #[.slice A n c] w fun e w' => e = .returned (.slice (some ⟨w.heap.size, 0, none⟩) n n) ∧ w'.ownsRow w.heap.size 5 1 (.slice (some ⟨w.heap.size, 0, none⟩) n n) n (cells l) ∧ Below w.heap.size w w' := by
  go_enter Try.func24, Try.ntmps24
  go_wp2_with (first
    | (at_make; refine wpList_mkn _ bytesT rfl (.tmp 5) (.tmp 5) rfl w.heap.size .i64 .i64 _ _ n rfl rfl rfl rfl (by omega) (by unfold maxLen; omega) (by simp) ?_; intro w1 hown1 hb1)
    | (with_reducible refine wpList_cpy bytesT rfl (.tmp 7) (.tmp 8) rfl w.heap.size w.heap.size n _ rfl hown1 A n c l rfl (hr.below (Nat.le_refl _) hb1) ?_; intro w2 hown2 hb2))
  go_ret
  refine ⟨rfl, ?_, hb1.trans hb2⟩
  have hl := hr.1
  have e2 : splice (madeCells (Value.int .u8 0).cells (n * 1)).toList 0 (cells (l.take n)) = cells l := by
    have h1 := hown1.1
    rw [List.take_of_length_le (by omega)]
    unfold splice
    rw [List.take_zero, List.nil_append, List.drop_eq_nil_of_le (by rw [h1, cells_length]; omega), List.append_nil]
  rw [← e2]
  exact hown2

section
variable {w : World} {own : Nat → Prop} {p : Nat} {v : Value} {s : Co}
theorem check_nil (i : Int) (w : World) : Calls Try.prog 25 #[.pointer none, .int .i64 i] w fun e w' => e = .returned (.int .i64 4) ∧ w = w' := by
  go_enter Try.func25, Try.ntmps25
  go_wp2
  go_ret
  exact ⟨rfl, rfl⟩
theorem check_ok (h : ClAt w own p v s) (i : Int) (hi : 0 ≤ i ∧ i < s.rows.length) : Calls Try.prog 25 #[.pointer (some ⟨p, 0, none⟩), .int .i64 i] w fun e w' => e = .returned (.int .i64 0) ∧ w = w' := by
  have c1 := h.c1
  obtain ⟨h0, h1⟩ := hi
  go_enter Try.func25, Try.ntmps25
  go_wp2
  go_ret
  exact ⟨rfl, rfl⟩
theorem check_no (h : ClAt w own p v s) (i : Int) (hi : ¬ (0 ≤ i ∧ i < s.rows.length)) : Calls Try.prog 25 #[.pointer (some ⟨p, 0, none⟩), .int .i64 i] w fun e w' => e = .returned (.int .i64 2) ∧ w = w' := by
  have c1 := h.c1
  by_cases h0 : i < 0
  · go_enter Try.func25, Try.ntmps25
    go_wp2
    go_ret
    exact ⟨rfl, rfl⟩
  · have h1 : (s.rows.length : Int) ≤ i := by omega
    clear hi
    go_enter Try.func25, Try.ntmps25
    go_wp2
    go_ret
    exact ⟨rfl, rfl⟩

theorem ret_sl {A : Option Addr} {n m : Nat} (h : n = m) : Ending.returned (.slice A n n) = .returned (.slice A m m) := by rw [h]
/-- Where row i stands. -/
abbrev RowAt (v : Value) (s : Co) (i : Nat) (A : Option Addr) : Prop := 0 < s.sz → ∃ g c, v = .slice (some ⟨g, 0, none⟩) s.bytes.length c ∧ A = some ⟨g, i * s.sz, none⟩
theorem ClAt.rd (h : ClAt w own p v s) (i : Nat) (hi : i < s.rows.length) {A : Option Addr} (hA : RowAt v s i A) : Rd w A s.sz (s.rows.getD i []) := by
  have e := flat_row h.ok.each i hi
  have hf := Co.fit (s := s) hi
  have hl := h.ok.len
  rw [← e]
  refine ⟨by rw [e]; exact h.ok.getD hi, fun hp => ?_⟩
  obtain ⟨g, c, hv, hA'⟩ := hA hp
  have hr := h.row
  rw [hv] at hr
  exact ((Rd.of_own' hr).part (lo := i * s.sz) (m := s.sz) (by omega) A (fun _ b o e1 => by
    injection e1 with e1
    injection e1 with e1 e2
    rw [hA', ← e1, ← e2, Nat.zero_add])).2 hp

theorem row_any (h : ClAt w own p v s) (i : Nat) (hi : i < s.rows.length) : Calls Try.prog 26 #[.pointer (some ⟨p, 0, none⟩), .int .i64 i] w fun e w' => (∃ A, e = .returned (.slice A s.sz s.sz) ∧ RowAt v s i A) ∧ Below w.heap.size w w' := by
  have c0 := h.c0
  have hl := h.ok.len
  have hf := Co.fit (s := s) hi
  have hs := h.ok.small'
  have hz := h.ok.z
  have hn := h.ok.n
  obtain ⟨A, c, rfl, hc, hm, hnil, hr⟩ := own_opens h.row
  have c2 : ∀ n, (w.drewN n).cell? ⟨p, 2, none⟩ = some (.slice A s.bytes.length c) := fun n => (h.below (below_drewN (Below.refl _ _) n)).c2
  have e1 : (i : Int) * (s.sz : Int) = ((i * s.sz : Nat) : Int) := by push_cast; rfl
  have e2 : wrap64 (((i : Int) + 1) * (s.sz : Int)) = ((i * s.sz + s.sz : Nat) : Int) := by
    rw [show ((i : Int) + 1) * (s.sz : Int) = ((i * s.sz + s.sz : Nat) : Int) by push_cast; rw [Int.add_mul, Int.one_mul]]
    unfold wrap64; omega
  have E1 := Lib.hid e1
  have E2 := Lib.hid e2
  have C2 := Lib.hid c2
  have HR := Lib.hid hr
  have HNIL := Lib.hid hnil
  clear e1 e2 hr h hnil c2
  go_enter Try.func26, Try.ntmps26
  go_wp2_with fail
  go_quiet (fail)
  have c2 := C2.out nq
  rw [E1.out, E2.out]
  obtain ⟨x, hx⟩ : ∃ x, x = i * s.sz := ⟨_, rfl⟩
  rw [← hx] at hf ⊢
  go_wp2
  all_goals go_ret
  all_goals refine ⟨⟨_, ret_sl (by omega), fun hp => ?_⟩, below_drewN (Below.refl _ _) _⟩
  all_goals first | (exfalso; omega) | skip
  all_goals
    rcases A with _ | a
    · exfalso
      have := HNIL.out rfl
      have := Nat.le_trans (Nat.le_add_left s.sz (i * s.sz)) (hx ▸ hf)
      omega
    · obtain ⟨g, _, rfl, _⟩ := HR.out a rfl
      exact ⟨g, c, by rw [hl], by rw [Option.map_some, Addr.add_lit, Nat.zero_add]⟩

theorem Len_any (h : ClAt w own p v s) : Calls Try.prog 12 #[.pointer (some ⟨p, 0, none⟩)] w fun e w' => e = .returned (.int .i64 (s.rows.length : Nat)) ∧ w = w' := by
  have c1 := h.c1
  go_enter Try.func12, Try.ntmps12
  go_wp2
  go_ret
  exact ⟨rfl, rfl⟩
theorem Size_any (h : ClAt w own p v s) : Calls Try.prog 13 #[.pointer (some ⟨p, 0, none⟩)] w fun e w' => e = .returned (.int .i64 (s.sz : Nat)) ∧ w = w' := by
  have c0 := h.c0
  go_enter Try.func13, Try.ntmps13
  go_wp2
  go_ret
  exact ⟨rfl, rfl⟩
theorem ClBytes_any (h : ClAt w own p v s) : Calls Try.prog 14 #[.pointer (some ⟨p, 0, none⟩)] w fun e w' => ∃ n, e = .returned (.slice (some ⟨w.heap.size, 0, none⟩) n n) ∧ w'.ownsRow w.heap.size 5 1 (.slice (some ⟨w.heap.size, 0, none⟩) n n) n (cells s.bytes) ∧ n = s.bytes.length ∧ Below w.heap.size w w' := by
  have c2 := h.c2
  have hs := h.ok.small
  have hr := h.row
  obtain ⟨A, c, rfl, hc, hm, hnil, _⟩ := own_opens h.row
  have CF := Lib.hid (fresh_any A s.bytes.length c s.bytes w (Rd.of_own' hr) (by omega))
  clear hr hnil h
  go_enter Try.func14, Try.ntmps14
  go_wp2_with (go_at_call 24; refine CF.out.mono ?_; rintro e w2 ⟨rfl, hO2, hB2⟩)
  go_ret
  exact ⟨_, rfl, hO2, rfl, hB2⟩
end
end Go.Proofs.Ytlblbhndfclhnaa
