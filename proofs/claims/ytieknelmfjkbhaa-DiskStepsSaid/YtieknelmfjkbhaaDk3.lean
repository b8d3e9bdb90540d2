/- The contracts of bytes.Clone, holding, New, Of, Bytes and Read. -/
import Derived.Test.YtieknelmfjkbhaaDk2
import Derived.Carry
import Derived.Lib.SliceRun
namespace Go.Proofs.Ytieknelmfjkbhaa
open Go.RowKit Go.Maps

theorem sl_nil_eq (w : World) (a : Option Addr) (n c n' c' : Nat) : (binOp .eql 32 (.slice a n c) (.slice none n' c')).run Try.prog w = .ok (.bool a.isNone) w := Lib.run_eql_slice_nil w _ _ a n c n' c' Try.underlying32

theorem clone_any (A : Option Addr) (n c : Nat) (l : List UInt8) (w : World) (hr : Rd w A n l) (hn : Hid (n ≤ 140737488355328)) :
    Calls Try.prog 38 #[.slice A n c] w fun e w' => ∃ v, e = .returned v ∧ w'.ownsRow w.heap.size 5 1 v n (cells l) ∧ Below w.heap.size w w' := by
  rcases A with _ | ad
  · have h0 : n = 0 := by
      rcases Nat.eq_zero_or_pos n with h0 | h0
      · exact h0
      · obtain ⟨_, _, e, _⟩ := hr.2 h0
        cases e
    subst h0
    have hl : l = [] := List.eq_nil_of_length_eq_zero hr.1
    subst hl
    clear hr
    have q := sl_nil_eq
    go_enter Try.func38, Try.ntmps38
    go_wp2
    go_ret
    exact ⟨_, rfl, World.ownsRow_nil _ _ _ _, Below.refl _ _⟩
  · have ho := own_empty w w.heap.size 5 (Nat.le_refl _)
    have hr1 := hr.alloc (.cells #[] 5)
    clear hr
    have q := sl_nil_eq
    go_enter Try.func38, Try.ntmps38
    go_wp2_with (at_builtin; refine wpList_app _ bytesT rfl (.tmp 5) (.tmp 6) rfl w.heap.size _ 0 [] rfl ho _ n c l rfl hr1 (by have := hn.out; omega) (by simp) ?_; intro v2 w2 ho2 hb2; rw [Nat.zero_add, List.nil_append] at ho2)
    go_ret
    exact ⟨_, rfl, ho2, ((Below.refl _ _).alloc (Nat.le_refl _) _).trans hb2⟩

def fresh (k : Nat) (l : List UInt8) : St := ⟨k, l, fun _ => [], -1, false, 0, 0⟩
/-- A device at p all of whose blocks are of own. -/
def Dv (w : World) (own : Nat → Prop) (N p : Nat) (s : St) : Prop := (∀ x, own x → x < w.heap.size) ∧ ∃ m sv f, DAt w own N p m sv f s
/-- What became of a device. -/
def Goes (w : World) (own : Nat → Prop) (N p : Nat) (s : St) (w' : World) : Prop := Fr own w w' ∧ ∃ own', (∀ x, own' x → own x ∨ w.heap.size ≤ x) ∧ Dv w' own' N p s

theorem wr_nil (w : World) (own : Nat → Prop) (sb : Option Nat) : Wr w own sb nilv [] := ⟨[], World.ownsRow_nil _ _ _ _, fun _ hx => by simp [Value.ownBlock] at hx, fun j hj => absurd hj (Nat.not_lt_zero j)⟩

theorem holding_any (A : Option Addr) (c k : Nat) (l : List UInt8) (w : World) (ho : w.ownsRow 0 5 1 (.slice A (512 * k) c) (512 * k) (cells l)) (hk : k ≤ 4096) :
    Calls Try.prog 30 #[.slice A (512 * k) c] w fun e w' => e = .returned (.pointer (some ⟨w.heap.size + 1, 0, none⟩)) ∧ Below w.heap.size w w' ∧
      Dv w' (fun x => (Value.slice A (512 * k) c).ownBlock = some x ∨ x = w.heap.size ∨ x = w.heap.size + 1) 0 (w.heap.size + 1) (fresh k l) := by
  obtain ⟨n, hn⟩ : ∃ n, n = 512 * k := ⟨_, rfl⟩
  rw [← hn] at ho ⊢
  have HN := Lib.hid hn
  clear hn
  have hmm := @run_makeMap Try.prog
  go_enter Try.func30, Try.ntmps30
  go_wp2
  go_ret
  have hn := HN.out
  subst hn
  have hlt : ∀ x, (Value.slice A (512 * k) c).ownBlock = some x → x < w.heap.size := fun x hx => by
    obtain ⟨C, hC⟩ := own_tag ho hx
    exact (Array.getElem?_eq_some_iff.1 hC).1
  have hb : Below w.heap.size w ((w.alloc (.map #[] 0)).alloc (.cells #[.slice A (512 * k) c, .map (some w.heap.size), .int .i64 (-1), .bool false, .int .i64 0, .int .i64 0] 74 (0, 0))) :=
    ((Below.refl _ _).alloc (Nat.le_refl _) _).alloc (by simp) _
  refine ⟨rfl, hb, ⟨fun x hx => ?_, w.heap.size, .slice A (512 * k) c, fun _ => nilv, ?_⟩⟩
  · simp only [World.size_alloc]
    rcases hx with h | h | h
    · have := hlt x h; omega
    · omega
    · omega
  · exact {
      blk := by
        have h := (MapKept.heap_alloc (w.alloc (.map #[] 0)) (.cells #[.slice A (512 * k) c, .map (some w.heap.size), .int .i64 (-1), .bool false, .int .i64 0, .int .i64 0] 74 (0, 0))).1
        rw [World.size_alloc] at h
        exact h
      safe := own_keep ho hb
      map := ((MapIs.made Try.prog 3 w).block ((MapKept.heap_alloc (w.alloc (.map #[] 0)) _).2 w.heap.size (by simp))).congr (fun _ => rfl) (fun _ => rfl)
      rows := fun _ => wr_nil _ _ _
      apart := fun i j x _ h => by cases h
      inside := fun i h => absurd rfl h
      few := fun _ => Nat.le_refl _
      ownp := .inr (.inr rfl)
      ownm := .inr (.inl rfl)
      owns := fun x hx => .inl hx
      kle := hk
      nle := by decide
      fz := by simp [fresh]
      rz := by simp [fresh]
      wz := by simp [fresh] }

theorem made_cells (n : Nat) : (madeCells (Value.int .u8 0).cells (n * 1)).toList = cells (List.replicate n 0) := by
  rw [Nat.mul_one]
  exact (toList_madeCells_one (Value.int .u8 0) n).trans (by simp [cells])

theorem New_any (n : Int) (w : World) :
    Calls Try.prog 8 #[.int .i64 n] w fun e w' => ∃ p own, e = .returned (.pointer (some ⟨p, 0, none⟩)) ∧ Below w.heap.size w w' ∧ (∀ x, own x → w.heap.size ≤ x) ∧
      Dv w' own 0 p (fresh (min (max n 0) 4096).toNat (List.replicate (512 * (min (max n 0) 4096).toNat) 0)) := by
  obtain ⟨k, hk, hk2, hk3⟩ : ∃ k : Nat, min (max n 0) 4096 = (k : Int) ∧ k ≤ 4096 ∧ (min (max n 0) 4096).toNat = k := ⟨(min (max n 0) 4096).toNat, by omega, by omega, rfl⟩
  rw [hk3]
  have HK := Lib.hid hk
  clear hk hk3
  go_enter Try.func8, Try.ntmps8
  go_wp2_with (first
    | (go_at_call 31; refine (dnearest_any _ _ _ _).mono ?_; rintro e w' ⟨rfl, rfl⟩; rw [HK.out])
    | (at_make; refine wpList_mkn _ bytesT rfl (.tmp 5) (.tmp 5) rfl w.heap.size .i64 .i64 _ _ (512 * k) rfl rfl (by omega) (by omega) (by omega) (by unfold maxLen; omega) (by simp) ?_; intro w1 ho1 hb1; rw [made_cells] at ho1)
    | (go_at_call 30; refine (holding_any _ _ k _ w1 (own_mono ho1 (Nat.zero_le _)) hk2).mono ?_; rintro e w' ⟨rfl, hb2, hD⟩))
  go_ret
  refine ⟨_, _, rfl, hb1.trans (hb2.mono hb1.size), fun x hx => ?_, hD⟩
  have := hb1.size
  rcases hx with hx | hx | hx
  · simp [Value.ownBlock] at hx; omega
  · omega
  · omega

/-- Of, of not too many bytes. -/
theorem Of_any (A : Option Addr) (n c : Nat) (l : List UInt8) (w : World) (hr : Rd w A n l) (hn : n ≤ 4000) (hc : n ≤ c) :
    Calls Try.prog 25 #[.slice A n c] w fun e w' => ∃ p own, e = .returned (.pointer (some ⟨p, 0, none⟩)) ∧ Below w.heap.size w w' ∧ (∀ x, own x → w.heap.size ≤ x) ∧
      Dv w' own 0 p (fresh (n / 512) (l.take (512 * (n / 512)))) := by
  obtain ⟨k, hk⟩ : ∃ k, n / 512 = k := ⟨_, rfl⟩
  have hk1 : 512 * k ≤ n := by omega
  have hk2 : k ≤ 7 := by omega
  rw [hk]
  have g1 : (n : Int) / 512 = (k : Int) := by omega
  have g2 : min (k : Int) 4096 = k := by omega
  have g3 : (0 : Int) ≤ (k : Int) * 512 := by omega
  have g4 : (k : Int) * 512 ≤ (c : Int) := by omega
  have g5 : ((k : Int) * 512).toNat = 512 * k := by omega
  have hq : Rd w A (512 * k) (l.take (512 * k)) := by
    have := hr.part (lo := 0) (m := 512 * k) (by omega) A (fun _ b o e => by rw [e]; rfl)
    simpa using this
  have HK := Lib.hid hk
  have HH : Hid (512 * k ≤ 140737488355328) := Lib.hid (by omega)
  clear hk hr
  go_enter Try.func25, Try.ntmps25
  go_wp2_with (first
    | (go_at_call 38; refine (clone_any _ (512 * k) _ _ w hq HH).mono ?_; rintro e w1 ⟨v, rfl, ho1, hb1⟩; obtain ⟨A1, c1, rfl, _, _, _⟩ := Rd.of_own ho1 rfl)
    | (go_at_call 30; refine (holding_any _ _ k _ w1 (own_mono ho1 (Nat.zero_le _)) (by omega)).mono ?_; rintro e w' ⟨rfl, hb2, hD⟩))
  go_ret
  refine ⟨_, _, rfl, hb1.trans (hb2.mono hb1.size), fun x hx => ?_, hD⟩
  have := hb1.size
  rcases hx with hx | hx | hx
  · rcases ho1.2 with ⟨e, _⟩ | ⟨g, cap, cur, e, hB, _⟩
    · rw [e] at hx; cases hx
    · rw [e] at hx; simp [Value.ownBlock] at hx; omega
  · omega
  · omega

section
variable {w : World} {own : Nat → Prop} {N p m : Nat} {sv : Value} {f : Nat → Value} {s : St}

theorem Bytes_any (h : DAt w own N p m sv f s) : Calls Try.prog 19 #[.pointer (some ⟨p, 0, none⟩)] w fun e w' => ∃ A c, e = .returned (.slice A (512 * s.k) c) ∧ 512 * s.k ≤ c ∧ c ≤ maxLen ∧ Rd w' A (512 * s.k) s.safe ∧ (∀ b o, A = some ⟨b, o, none⟩ → w.heap.size ≤ b) ∧ Below w.heap.size w w' := by
  obtain ⟨A, c, rfl, hc, hcm, hr, _⟩ := h.shape
  have c0 := h.c0
  have hk := h.kle
  have cC := clone_any A (512 * s.k) c s.safe w hr (Lib.hid (by omega))
  have CC := Lib.hid cC
  clear h hr cC hcm
  go_enter Try.func19, Try.ntmps19
  go_wp2_with (go_at_call 38; refine CC.out.mono ?_; rintro e w1 ⟨v, rfl, ho1, hb1⟩; obtain ⟨A1, c1, rfl, hc1, hm1, hr1⟩ := Rd.of_own ho1 rfl)
  go_ret
  exact ⟨_, _, rfl, hc1, hm1, hr1, fun b o e => own_block ho1 e, hb1⟩

theorem Read_no (h : DAt w own N p m sv f s) (i : Int) (hi : i < 0 ∨ (s.k : Int) ≤ i) :
    Calls Try.prog 27 #[.pointer (some ⟨p, 0, none⟩), .int .i64 i] w fun e w' => e = .returned (.tuple #[.slice none 0 0, .int .i64 2]) ∧ w = w' := by
  have CB := Lib.hid (begin_no h i hi)
  clear h hi
  go_enter Try.func27, Try.ntmps27
  go_wp2_with (go_at_call 43; refine CB.out.mono ?_; rintro e w' ⟨rfl, rfl⟩)
  go_ret2
  exact ⟨rfl, rfl⟩
theorem Read_off (h : DAt w own N p m sv f s) (i : Nat) (hi : i < s.k) (hok : s.ok = false) :
    Calls Try.prog 27 #[.pointer (some ⟨p, 0, none⟩), .int .i64 i] w fun e w' => e = .returned (.tuple #[.slice none 0 0, .int .i64 3]) ∧ Fr (· = p) w w' ∧ DAt w' own N p m sv f s.burn := by
  have cB := begin_any h i hi
  rw [hok] at cB
  have CB := Lib.hid cB
  clear h hi hok cB
  go_enter Try.func27, Try.ntmps27
  go_wp2_with (go_at_call 43; refine CB.out.mono ?_; rintro e w' ⟨rfl, hf, hD⟩)
  go_ret2
  exact ⟨rfl, hf, hD⟩
theorem Read_ok (h : DAt w own N p m sv f s) (i : Nat) (hi : i < s.k) (hok : s.ok = true) (hN : N < 1000000) :
    Calls Try.prog 27 #[.pointer (some ⟨p, 0, none⟩), .int .i64 i] w fun e w' => ∃ A c, e = .returned (.tuple #[.slice A 512 c, .int .i64 0]) ∧ 512 ≤ c ∧ c ≤ maxLen ∧ Rd w' A 512 (s.last i) ∧ (∀ b o, A = some ⟨b, o, none⟩ → w.heap.size ≤ b) ∧ Fr (· = p) w w' ∧
      DAt w' own (N + 1) p m sv f { s.burn with rd := s.rd + 1 } := by
  have cB := begin_any h i hi
  rw [hok] at cB
  have CB := Lib.hid cB
  have hrd := h.rz
  have hwr := h.wz
  have HW := Lib.hid hwr
  have hi' : i < s.burn.k := hi
  clear h hok cB hwr
  go_enter Try.func27, Try.ntmps27
  go_wp2_with fail
  refine CB.out.mono ?_
  rintro e w1 ⟨rfl, hf1, hD1⟩
  have c4 : w1.cell? ⟨p, 4, none⟩ = some (.int .i64 s.rd) := hD1.c4
  have f4 := hD1.fr0 4
  have D2 := hD1.field (w' := w1.setCell ⟨p, 4, none⟩ (.int .i64 (s.rd + 1))) (N' := N + 1) s.burn.fuse (s.rd + 1) s.wr s.burn.off (heap_setCell_at hD1.blk _) (fr_p _ _ _ _) (by omega) (by omega) hD1.fz (by omega) (by have := HW.out; omega)
  have F2 := hf1.trans (fr_p w1 p 4 (.int .i64 (s.rd + 1)))
  have hs1 := hf1.size
  go_wp2_with fail
  refine (dlast_any D2 i hi').mono ?_
  rintro e w' ⟨b, o, c, rfl, hc, _, hr, _, rfl⟩
  obtain ⟨w2, hw2⟩ : ∃ w2, w2 = w1.setCell ⟨p, 4, none⟩ (.int .i64 (s.rd + 1)) := ⟨_, rfl⟩
  have hs2 : w2.heap.size = w1.heap.size := by rw [hw2]; simp [World.setCell]
  rw [← hw2] at hr D2 F2 ⊢
  clear hw2 c4 f4 hD1 hf1
  go_wp2_with (go_at_call 38; refine (clone_any _ 512 _ _ w2 hr (Lib.hid (by decide))).mono ?_; rintro e w3 ⟨v, rfl, ho3, hb3⟩; obtain ⟨A3, c3, rfl, hc3, hm3, hr3⟩ := Rd.of_own ho3 rfl)
  go_ret2
  exact ⟨_, _, rfl, hc3, hm3, hr3, fun b o e => by have := own_block ho3 e; omega, F2.trans (Fr.ofBelow _ hb3), D2.below hb3⟩
end

/-! ### nil -/
theorem nil_Size (w : World) : Calls Try.prog 21 #[.pointer none] w fun e w' => e = .returned (.int .i64 0) ∧ w = w' := by
  go_enter Try.func21, Try.ntmps21
  go_wp2
  go_ret
  exact ⟨rfl, rfl⟩
theorem nil_Off (w : World) : Calls Try.prog 13 #[.pointer none] w fun e w' => e = .returned (.bool false) ∧ w = w' := by
  go_enter Try.func13, Try.ntmps13
  go_wp2
  go_ret
  exact ⟨rfl, rfl⟩
theorem nil_Reads (w : World) : Calls Try.prog 14 #[.pointer none] w fun e w' => e = .returned (.int .i64 0) ∧ w = w' := by
  go_enter Try.func14, Try.ntmps14
  go_wp2
  go_ret
  exact ⟨rfl, rfl⟩
theorem nil_Writes (w : World) : Calls Try.prog 15 #[.pointer none] w fun e w' => e = .returned (.int .i64 0) ∧ w = w' := by
  go_enter Try.func15, Try.ntmps15
  go_wp2
  go_ret
  exact ⟨rfl, rfl⟩
theorem nil_Bytes (w : World) : Calls Try.prog 19 #[.pointer none] w fun e w' => e = .returned (.slice none 0 0) ∧ w = w' := by
  go_enter Try.func19, Try.ntmps19
  go_wp2
  go_ret
  exact ⟨rfl, rfl⟩
theorem nil_Dirty (w : World) : Calls Try.prog 17 #[.pointer none] w fun e w' => e = .returned (.slice none 0 0) ∧ w = w' := by
  go_enter Try.func17, Try.ntmps17
  go_wp2
  go_ret
  exact ⟨rfl, rfl⟩
theorem nil_Sync (w : World) : Calls Try.prog 24 #[.pointer none] w fun e w' => e = .returned (.int .i64 4) ∧ w = w' := by
  go_enter Try.func24, Try.ntmps24
  go_wp2
  go_ret
  exact ⟨rfl, rfl⟩
theorem nil_Fuse (n : Int) (w : World) : Calls Try.prog 28 #[.pointer none, .int .i64 n] w fun e w' => e = .returned (.tuple #[]) ∧ w = w' := by
  go_enter Try.func28, Try.ntmps28
  go_wp2
  refine bodyPost_ret (results_none rfl _ _ _) rfl ?_
  exact ⟨rfl, rfl⟩
theorem nil_Crash (v : Value) (w : World) : Calls Try.prog 22 #[.pointer none, v] w fun e w' => e = .returned (.tuple #[]) ∧ w = w' := by
  go_enter Try.func22, Try.ntmps22
  go_wp2
  refine bodyPost_ret (results_none rfl _ _ _) rfl ?_
  exact ⟨rfl, rfl⟩
theorem nil_begin (n : Int) (w : World) : Calls Try.prog 43 #[.pointer none, .int .i64 n] w fun e w' => e = .returned (.int .i64 4) ∧ w = w' := by
  go_enter Try.func43, Try.ntmps43
  go_wp2
  go_ret
  exact ⟨rfl, rfl⟩
theorem nil_Read (n : Int) (w : World) : Calls Try.prog 27 #[.pointer none, .int .i64 n] w fun e w' => e = .returned (.tuple #[.slice none 0 0, .int .i64 4]) ∧ w = w' := by
  go_enter Try.func27, Try.ntmps27
  go_wp2_with (go_at_call 43; refine (nil_begin _ _).mono ?_; rintro e w' ⟨rfl, rfl⟩)
  go_ret2
  exact ⟨rfl, rfl⟩
theorem nil_Write (n : Int) (A : Option Addr) (l c : Nat) (w : World) : Calls Try.prog 29 #[.pointer none, .int .i64 n, .slice A l c] w fun e w' => e = .returned (.int .i64 4) ∧ w = w' := by
  go_enter Try.func29, Try.ntmps29
  go_wp2_with (go_at_call 43; refine (nil_begin _ _).mono ?_; rintro e w' ⟨rfl, rfl⟩)
  go_ret
  exact ⟨rfl, rfl⟩
end Go.Proofs.Ytieknelmfjkbhaa
