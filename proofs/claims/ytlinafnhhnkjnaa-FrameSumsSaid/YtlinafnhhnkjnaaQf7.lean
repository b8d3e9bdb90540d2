/- Crc2, FrC, Le5, LeR, LeRB, LeRP, CdP -/
import Derived.Test.YtlinafnhhnkjnaaQf6
import Derived.Deep.RegionHeld3
import Derived.Deep.DeepCutAuto
import Derived.BigQuiet
import Derived.Deep.QuietTactic
namespace Go.Proofs.Ytlinafnhhnkjnaa
open Go.RowKit

theorem turned_any (r s : Nat) (w : World) (h : Rev r s) :
    Calls Try.prog 33 #[.int .u32 r] w fun e w' => e = .returned (.int .u32 s) ∧ w = w' := by
  have hr := h.1
  have hs := h.2.1
  go_enter Try.func33, Try.ntmps33
  go_wp2
  go_loop [0, 3, 4] (fun n o i => ∃ j x y : Nat, j ≤ 32 ∧ x = r / 2 ^ j ∧ y = s / 2 ^ (32 - j) ∧ i = .int .i64 j ∧ n = .int .u32 x ∧ o = .int .u32 y) (fun _ _ i => 32 - (intOf i).toNat)
  case atStart => exact ⟨0, r, 0, by omega, by simp, (Nat.div_eq_of_lt hs).symm, rfl, rfl, rfl⟩
  case round =>
    obtain ⟨j, x, y, hj, hx, hy, rfl, rfl, rfl⟩ := hrel
    have hx1 : x < 4294967296 := by rw [hx]; exact Nat.lt_of_le_of_lt (Nat.div_le_self _ _) hr
    by_cases hlt : j < 32
    · have hy1 : y ≤ 2147483647 := by
        rw [hy, show 32 - j = 31 - j + 1 from by omega, Nat.pow_succ, Nat.mul_comm, ← Nat.div_div_eq_div_mul]
        exact Nat.le_trans (Nat.div_le_self _ _) (by omega)
      have hst := h.step hlt
      have HX := Lib.hid hx
      have HY := Lib.hid hy
      have HS := Lib.hid hst
      have HR := Lib.hid h
      clear hx hy hst h
      go_wp2
      go_round
      case rel =>
        refine ⟨j + 1, x / 2, y * 2 + x % 2, by omega, ?_, ?_, by go_num, by go_num, by go_num⟩
        · rw [HX.out, Nat.pow_succ, Nat.div_div_eq_div_mul]
        · rw [HX.out, HY.out, HS.out]
      case measure => simp [intOf]; omega
    · have HX := Lib.hid hx
      have HY := Lib.hid hy
      have HR := Lib.hid h
      clear hx hy h
      go_wp2
      go_ret
      obtain rfl : j = 32 := by omega
      exact ⟨ret_int (by rw [HY.out]; simp), rfl⟩

theorem ROf_any (A : Option Addr) (n c : Nat) (l : List UInt8) (w : World) (hr : Rd w A n l) (hn : n ≤ 1099511627776) :
    Calls Try.prog 20 #[.slice A n c] w fun e w' => e = .returned (.int .u32 (sumL l : Nat)) ∧ w = w' := by
  go_enter Try.func20, Try.ntmps20
  go_wp2
  go_loop [3, 4] (fun v i => ∃ j r s : Nat, j ≤ n ∧ Rev r s ∧ s = addL 4294967295 (l.take j) ∧ i = .int .i64 j ∧ v = .int .u32 r) (fun _ i => n - (intOf i).toNat)
  case atStart => exact ⟨0, 4294967295, 4294967295, Nat.zero_le _, Rev.all, rfl, rfl, rfl⟩
  case round =>
    obtain ⟨j, r, s, hj, hrev, hs, rfl, rfl⟩ := hrel
    have HS := Lib.hid hs
    have HR := Lib.hid hrev
    clear hs hrev
    by_cases hlt : j < n
    · obtain ⟨b, o, rfl, _, hcell⟩ := hr.at_ hlt
      have hsn := take_snoc' l j (by have := hr.1; omega)
      have HN := Lib.hid hsn
      clear hsn
      obtain ⟨ch, hch⟩ : ∃ ch, ch = l[j]'(by have := hr.1; omega) := ⟨_, rfl⟩
      rw [← hch] at hcell
      have HC := Lib.hid hch
      clear hch
      have hcl := ch.toNat_lt
      go_wp2
      go_loop [3, 5, 6, 7] (fun v x i u => ∃ k r' t y : Nat, k ≤ 8 ∧ Rev r' t ∧ y = ch.toNat / 2 ^ k ∧ runB (8 - k) t y = addB s ch ∧ i = .int .i64 k ∧ v = .int .u32 r' ∧ x = .int .u32 y) (fun _ _ i _ => 8 - (intOf i).toNat)
      case atStart => exact ⟨0, r, s, ch.toNat, by omega, HR.out, by simp, rfl, rfl, rfl, by go_num⟩
      case round =>
        obtain ⟨k, r', t, y, hk, hrev, hy, hrun, rfl, rfl, rfl⟩ := hrel
        have hy1 : y < 256 := by rw [hy]; exact Nat.lt_of_le_of_lt (Nat.div_le_self _ _) hcl
        have hr1 := hrev.1
        have HT := Lib.hid hrev
        have HY := Lib.hid hy
        have HU := Lib.hid hrun
        clear hrev hy hrun
        by_cases hlt2 : k < 8
        · by_cases hu : r' / 2147483648 = y % 2
          · have e2 := HT.out.like hu
            have E2 := Lib.hid e2
            clear e2
            go_wp2
            go_round
            case rel =>
              refine ⟨k + 1, r' * 2 % 4294967296, bst (t ^^^ y % 2), y / 2, by omega, E2.out, by rw [HY.out, Nat.pow_succ, Nat.div_div_eq_div_mul], ?_, by go_num, by go_num, by go_num⟩
              rw [← HU.out, show 8 - k = (8 - (k + 1)) + 1 from by omega]
              rfl
            case measure => simp [intOf]; omega
          · have e2 := HT.out.unlike hu
            have E2 := Lib.hid e2
            clear e2
            go_wp2
            go_round
            case rel =>
              refine ⟨k + 1, r' * 2 % 4294967296 ^^^ 79764919, bst (t ^^^ y % 2), y / 2, by omega, E2.out, by rw [HY.out, Nat.pow_succ, Nat.div_div_eq_div_mul], ?_, by go_num, ?_, by go_num⟩
              · rw [← HU.out, show 8 - k = (8 - (k + 1)) + 1 from by omega]
                rfl
              · rw [← u32_xor_nat _ 79764919 (Nat.mod_lt _ (by decide)) (by decide)]
                go_num
            case measure => simp [intOf]; omega
        · go_wp2
          go_round
          case rel =>
            obtain rfl : k = 8 := by omega
            refine ⟨j + 1, r', t, hlt, HT.out, ?_, by go_num, rfl⟩
            rw [HN.out, addL_snoc, ← HC.out, ← HS.out, ← HU.out]
            rfl
          case measure => simp [intOf]; omega
    · go_wp2_with (go_at_call 33; refine (turned_any _ _ _ HR.out).mono ?_; rintro e w' ⟨rfl, rfl⟩)
      go_ret
      have hs1 := HR.out.2.1
      refine ⟨ret_int ?_, rfl⟩
      have e1 : l.take j = l := List.take_of_length_le (by have := hr.1; omega)
      have e2 : sumL l = 4294967295 - s := by
        unfold sumL
        rw [← turn_all hs1, HS.out, e1]
      rw [e2]
      omega
end Go.Proofs.Ytlinafnhhnkjnaa
namespace Go.Proofs.Ytlinafnhhnkjnaa
open Go.RowKit
set_option linter.unusedVariables false
set_option maxRecDepth 20000

section
set_option maxHeartbeats 2000000 in
theorem RFSame_yes {K K' : Nat → Prop} (A A' : Option Addr) (n c c' : Nat) (xs : List Cd) (w : World) (h : CdsV K w A n xs) (h' : CdsV K' w A' n xs) (hn : n ≤ 1000000) :
    Calls Try.prog 16 #[.slice A n c, .slice A' n c'] w fun e w' => e = .returned (.bool true) ∧ Below w.heap.size w w' := by
  have H := Lib.hid (And.intro h h')
  have HL := Lib.hid h.len
  clear h h'
  go_enter Try.func16, Try.ntmps16
  go_wp2
  go_loopw [5] (fun iv wr => ∃ j : Nat, j ≤ n ∧ iv = .int .i64 j ∧ Below w.heap.size w wr) (fun iv _ => n - (intOf iv).toNat)
  case atStart => exact ⟨0, Nat.zero_le _, rfl, Below.refl _ _⟩
  case round =>
    obtain ⟨j, hj, rfl, hb⟩ := hrel
    have HBw := Lib.hid hb
    by_cases hjn : j < n
    · obtain ⟨x, hx⟩ : ∃ x, xs[j]? = some x := ⟨_, List.getElem?_eq_getElem (by rw [HL.out]; exact hjn)⟩
      have hbd : Below w.heap.size w wr.drew := hb.drew
      obtain ⟨b, o, PA, m, cc, hA, hlt, hc, hr, hmc⟩ := (H.out.1.below hbd).cell hx
      obtain ⟨b', o', PA', m', cc', hA', hlt', hc', hr', hmc'⟩ := (H.out.2.below hbd).cell hx
      have CE := Exact_any x x PA PA' m cc m' cc' wr.drew hr hr'
      rw [Cd.eqB_self] at CE
      have CE2 := Lib.hid CE
      have HC : Hid (∀ W, Below wr.drew.heap.size wr.drew W → (CdL W b (o + j * 6) x PA m cc ∧ CdL W b' (o' + j * 6) x PA' m' cc')) := Lib.hid (fun W hW => ⟨hc.below hW hlt, hc'.below hW hlt'⟩)
      have s0 : wr.drew.cell? ⟨b, o + j * 6, none⟩ = some (.int .i64 x.d) ∧ wr.drew.cell? ⟨b, o + j * 6 + 1, none⟩ = some (.bool x.lc) ∧ wr.drew.cell? ⟨b, o + j * 6 + 2, none⟩ = some (.int .i64 x.ix) ∧ wr.drew.cell? ⟨b, o + j * 6 + 3, none⟩ = some (.int .i64 x.gn) ∧ wr.drew.cell? ⟨b, o + j * 6 + 4, none⟩ = some (.int .i64 x.cp) ∧ wr.drew.cell? ⟨b, o + j * 6 + 5, none⟩ = some (.slice PA m cc) ∧ wr.drew.cell? ⟨b', o' + j * 6, none⟩ = some (.int .i64 x.d) ∧ wr.drew.cell? ⟨b', o' + j * 6 + 1, none⟩ = some (.bool x.lc) ∧ wr.drew.cell? ⟨b', o' + j * 6 + 2, none⟩ = some (.int .i64 x.ix) ∧ wr.drew.cell? ⟨b', o' + j * 6 + 3, none⟩ = some (.int .i64 x.gn) ∧ wr.drew.cell? ⟨b', o' + j * 6 + 4, none⟩ = some (.int .i64 x.cp) ∧ wr.drew.cell? ⟨b', o' + j * 6 + 5, none⟩ = some (.slice PA' m' cc') := ⟨hc.c0, hc.c1, hc.c2, hc.c3, hc.c4, hc.c5, hc'.c0, hc'.c1, hc'.c2, hc'.c3, hc'.c4, hc'.c5⟩
      subst hA hA'
      clear hx hbd hr hr' hmc hmc' hc hc' hlt hlt' CE hb
      go_upto_region 6 with fail
      refine wp_region_noPanic ?_
      refine wp_region_held_drew (S := fun W => W.cell? ⟨b, o + j * 6, none⟩ = some (.int .i64 x.d) ∧ W.cell? ⟨b, o + j * 6 + 1, none⟩ = some (.bool x.lc) ∧ W.cell? ⟨b, o + j * 6 + 2, none⟩ = some (.int .i64 x.ix) ∧ W.cell? ⟨b, o + j * 6 + 3, none⟩ = some (.int .i64 x.gn) ∧ W.cell? ⟨b, o + j * 6 + 4, none⟩ = some (.int .i64 x.cp) ∧ W.cell? ⟨b, o + j * 6 + 5, none⟩ = some (.slice PA m cc) ∧ W.cell? ⟨b', o' + j * 6, none⟩ = some (.int .i64 x.d) ∧ W.cell? ⟨b', o' + j * 6 + 1, none⟩ = some (.bool x.lc) ∧ W.cell? ⟨b', o' + j * 6 + 2, none⟩ = some (.int .i64 x.ix) ∧ W.cell? ⟨b', o' + j * 6 + 3, none⟩ = some (.int .i64 x.gn) ∧ W.cell? ⟨b', o' + j * 6 + 4, none⟩ = some (.int .i64 x.cp) ∧ W.cell? ⟨b', o' + j * 6 + 5, none⟩ = some (.slice PA' m' cc')) (by kernel_rfl) s0 (fun hHeld => ?_)
      refine wpAnyH_take (i := 0) (oi := { dst := some 17, op := Op.move (Operand.tmp 0), type := 22, pos := "ref.go:76", after := #[], guard := none }) (v := ?_) rfl (by kernel_rfl) (by kernel_rfl) (by kernel_rfl) (fun _ _ _ h => h) (Or.inl ⟨by rfl, ?_⟩) (by assumption) ?_
      rotate_left 1
      · intro w' hSw; (try dsimp only at hSw); go_simp; (try with_reducible rfl)
      simp only [Act.put, List.setIfInBounds_toArray, List.set_cons_zero, List.set_cons_succ]
      refine wpAnyH_take (i := 1) (oi := { dst := some 18, op := Op.move (Operand.tmp 5), type := 3, pos := "ref.go:76", after := #[], guard := none }) (v := ?_) rfl (by kernel_rfl) (by kernel_rfl) (by kernel_rfl) (fun _ _ _ h => h) (Or.inl ⟨by rfl, ?_⟩) (by assumption) ?_
      rotate_left 1
      · intro w' hSw; (try dsimp only at hSw); go_simp; (try with_reducible rfl)
      simp only [Act.put, List.setIfInBounds_toArray, List.set_cons_zero, List.set_cons_succ]
      refine wpAnyH_take (i := 2) (oi := { dst := some 19, op := Op.indexAddr 22 (Operand.tmp 17) (Operand.tmp 18), type := 0, pos := "ref.go:76", after := #[{ on := 0, ground := Ground.data }, { on := 1, ground := Ground.data }], guard := none }) (v := ?_) rfl (by kernel_rfl) (by kernel_rfl) (by kernel_rfl) (fun _ _ _ h => h) (Or.inl ⟨by rfl, ?_⟩) (by assumption) ?_
      rotate_left 1
      · intro w' hSw; (try dsimp only at hSw); go_simp; (try with_reducible rfl)
      simp only [Act.put, List.setIfInBounds_toArray, List.set_cons_zero, List.set_cons_succ]
      refine wpAnyH_take (i := 3) (oi := { dst := some 20, op := Op.load 47 (Operand.tmp 19), type := 47, pos := "ref.go:76", after := #[{ on := 2, ground := Ground.data }], guard := none }) (v := ?_) rfl (by kernel_rfl) (by kernel_rfl) (by kernel_rfl) (fun _ _ _ h => h) (Or.inl ⟨by rfl, ?_⟩) (by assumption) ?_
      rotate_left 1
      · intro w' hSw; (try dsimp only at hSw); go_simp; (try with_reducible rfl)
      simp only [Act.put, List.setIfInBounds_toArray, List.set_cons_zero, List.set_cons_succ]
      refine wpAnyH_take (i := 4) (oi := { dst := some 21, op := Op.move (Operand.tmp 1), type := 22, pos := "ref.go:76", after := #[], guard := none }) (v := ?_) rfl (by kernel_rfl) (by kernel_rfl) (by kernel_rfl) (fun _ _ _ h => h) (Or.inl ⟨by rfl, ?_⟩) (by assumption) ?_
      rotate_left 1
      · intro w' hSw; (try dsimp only at hSw); go_simp; (try with_reducible rfl)
      simp only [Act.put, List.setIfInBounds_toArray, List.set_cons_zero, List.set_cons_succ]
      refine wpAnyH_take (i := 5) (oi := { dst := some 22, op := Op.move (Operand.tmp 5), type := 3, pos := "ref.go:76", after := #[], guard := none }) (v := ?_) rfl (by kernel_rfl) (by kernel_rfl) (by kernel_rfl) (fun _ _ _ h => h) (Or.inl ⟨by rfl, ?_⟩) (by assumption) ?_
      rotate_left 1
      · intro w' hSw; (try dsimp only at hSw); go_simp; (try with_reducible rfl)
      simp only [Act.put, List.setIfInBounds_toArray, List.set_cons_zero, List.set_cons_succ]
      refine wpAnyH_take (i := 6) (oi := { dst := some 23, op := Op.indexAddr 22 (Operand.tmp 21) (Operand.tmp 22), type := 0, pos := "ref.go:76", after := #[{ on := 4, ground := Ground.data }, { on := 5, ground := Ground.data }], guard := none }) (v := ?_) rfl (by kernel_rfl) (by kernel_rfl) (by kernel_rfl) (fun _ _ _ h => h) (Or.inl ⟨by rfl, ?_⟩) (by assumption) ?_
      rotate_left 1
      · intro w' hSw; (try dsimp only at hSw); go_simp; (try with_reducible rfl)
      simp only [Act.put, List.setIfInBounds_toArray, List.set_cons_zero, List.set_cons_succ]
      refine wpAnyH_take (i := 7) (oi := { dst := some 24, op := Op.load 47 (Operand.tmp 23), type := 47, pos := "ref.go:76", after := #[{ on := 6, ground := Ground.data }], guard := none }) (v := ?_) rfl (by kernel_rfl) (by kernel_rfl) (by kernel_rfl) (fun _ _ _ h => h) (Or.inl ⟨by rfl, ?_⟩) (by assumption) ?_
      rotate_left 1
      · intro w' hSw; (try dsimp only at hSw); go_simp; (try with_reducible rfl)
      simp only [Act.put, List.setIfInBounds_toArray, List.set_cons_zero, List.set_cons_succ]
      refine wpAnyH_ready (rs := [8]) (by kernel_rfl) (by simp) ?_
      refine AllReadyH.cons (o := { dst := some 25, op := Op.call { callee := Callee.value (Operand.func 29), args := #[Operand.tmp 20, Operand.tmp 24], argTypes := #[47, 47] }, type := 4, pos := "ref.go:76", after := #[{ on := 3, ground := Ground.data }, { on := 7, ground := Ground.data }], guard := none }) rfl (fun K' hK => ?_) AllReadyH.nil
      go_simp
      go_at_call 29; refine CE2.out.mono ?_; rintro e w2 ⟨rfl, hb2⟩
      obtain ⟨q1, q2⟩ := HC.out w2 hb2
      have s1 : w2.cell? ⟨b, o + j * 6, none⟩ = some (.int .i64 x.d) ∧ w2.cell? ⟨b, o + j * 6 + 1, none⟩ = some (.bool x.lc) ∧ w2.cell? ⟨b, o + j * 6 + 2, none⟩ = some (.int .i64 x.ix) ∧ w2.cell? ⟨b, o + j * 6 + 3, none⟩ = some (.int .i64 x.gn) ∧ w2.cell? ⟨b, o + j * 6 + 4, none⟩ = some (.int .i64 x.cp) ∧ w2.cell? ⟨b, o + j * 6 + 5, none⟩ = some (.slice PA m cc) ∧ w2.cell? ⟨b', o' + j * 6, none⟩ = some (.int .i64 x.d) ∧ w2.cell? ⟨b', o' + j * 6 + 1, none⟩ = some (.bool x.lc) ∧ w2.cell? ⟨b', o' + j * 6 + 2, none⟩ = some (.int .i64 x.ix) ∧ w2.cell? ⟨b', o' + j * 6 + 3, none⟩ = some (.int .i64 x.gn) ∧ w2.cell? ⟨b', o' + j * 6 + 4, none⟩ = some (.int .i64 x.cp) ∧ w2.cell? ⟨b', o' + j * 6 + 5, none⟩ = some (.slice PA' m' cc') := ⟨q1.c0, q1.c1, q1.c2, q1.c3, q1.c4, q1.c5, q2.c0, q2.c1, q2.c2, q2.c3, q2.c4, q2.c5⟩
      have HB2 := Lib.hid (HBw.out.drew.trans (hb2.mono HBw.out.drew.size))
      clear q1 q2 hb2
      refine hK.out _ _ s1 (fun hHeld => ?_)
      clear hK K'
      try simp only [Act.put, List.setIfInBounds_toArray, List.set_cons_zero, List.set_cons_succ]
      refine wpAnyH_take (i := 9) (oi := { dst := some 26, op := Op.unOp UnOp.not 4 (Operand.tmp 25), type := 4, pos := "ref.go:76", after := #[{ on := 8, ground := Ground.data }], guard := none }) (v := ?_) rfl (by kernel_rfl) (by kernel_rfl) (by kernel_rfl) (fun _ _ _ h => h) (Or.inl ⟨by rfl, ?_⟩) (by assumption) ?_
      rotate_left 1
      · intro w' hSw; (try dsimp only at hSw); go_simp; (try with_reducible rfl)
      simp only [Act.put, List.setIfInBounds_toArray, List.set_cons_zero, List.set_cons_succ]
      refine wpAnyH_done (by kernel_rfl) ?_ _
      refine NoPanic.normal ?_
      clear hHeld s0 s1 HC CE2
      go_wp2
      go_roundw
      case rel => exact ⟨j + 1, hjn, by go_num, HB2.out⟩
      case measure => simp [intOf]; omega
    · obtain rfl : j = n := Nat.le_antisymm hj (Nat.le_of_not_lt hjn)
      go_wp2
      go_ret
      exact ⟨rfl, HBw.out⟩
/-- P14.1: the bytes of commands. -/
def frBody (xs : List Cd) : List UInt8 := numB 1 xs.length ++ (xs.map Cd.bytes).flatten
def frBytes (xs : List Cd) : List UInt8 := frBody xs ++ numB 4 ((sumL (frBody xs) : Nat) : Int)
theorem flat_len (xs : List Cd) (hd : ∀ x ∈ xs, x.dt.length ≤ 1000) : (xs.map Cd.bytes).flatten.length ≤ xs.length * 1100 := by
  induction xs with
  | nil => simp
  | cons x xs ih =>
    have h1 := x.bytes_len
    have h2 := hd x List.mem_cons_self
    have h3 := ih (fun y hy => hd y (List.mem_cons_of_mem _ hy))
    simp only [List.map_cons, List.flatten_cons, List.length_append, List.length_cons]
    omega
theorem flat_take (xs : List Cd) (j : Nat) (x : Cd) (hx : xs[j]? = some x) : ((xs.take (j + 1)).map Cd.bytes).flatten = ((xs.take j).map Cd.bytes).flatten ++ x.bytes := by
  rw [List.take_add_one, hx]
  simp
set_option maxHeartbeats 2000000 in
theorem RFBytes_any {K : Nat → Prop} (A : Option Addr) (n c : Nat) (xs : List Cd) (w : World) (h : CdsV K w A n xs) (hn : n ≤ 1000) (hd : ∀ x ∈ xs, x.dt.length ≤ 1000) :
    Calls Try.prog 15 #[.slice A n c] w (GotS w (frBytes xs)) := by
  have H := Lib.hid h
  have HL := Lib.hid h.len
  have HD := Lib.hid hd
  have C1 := Lib.hid (RNumS_any 1 (by decide) (by decide) n w)
  clear h hd
  go_enter Try.func15, Try.ntmps15
  go_wp2_with (go_at_call 19; have _t := C1; refine C1.out.mono ?_; rintro e w1 ⟨v1, rfl, ho1, hb1⟩; have O1 := Lib.hid (And.intro ho1 hb1); clear ho1 hb1 C1)
  go_loopw [3, 4] (fun bv iv wr => ∃ (j k : Nat) (ys : List UInt8), j ≤ n ∧ iv = .int .i64 j ∧ Hid (ys = numB 1 (n : Int) ++ ((xs.take j).map Cd.bytes).flatten ∧ k = ys.length) ∧ wr.ownsRow w.heap.size 5 1 bv k (cells ys) ∧ Below w.heap.size w wr) (fun _ iv _ => n - (intOf iv).toNat)
  case atStart => exact ⟨0, 1, numB 1 n, Nat.zero_le _, rfl, Lib.hid ⟨by simp, by simp⟩, O1.out.1, O1.out.2⟩
  case round =>
    obtain ⟨j, k, ys, hj, rfl, hys, ho, hb⟩ := hrel
    have HBw := Lib.hid hb
    have HO := Lib.hid ho
    have hkb : k ≤ 1 + n * 1100 := by
      have h1 := flat_len (xs.take j) (fun x hx => HD.out x (List.mem_of_mem_take hx))
      have h2 := hys.out.2
      rw [hys.out.1] at h2
      simp only [List.length_append, numB_length, List.length_take] at h1 h2
      have h3 : min j xs.length * 1100 ≤ n * 1100 := Nat.mul_le_mul_right _ (by omega)
      omega
    by_cases hjn : j < n
    · obtain ⟨x, hx⟩ : ∃ x, xs[j]? = some x := ⟨_, List.getElem?_eq_getElem (by rw [HL.out]; exact hjn)⟩
      obtain ⟨b, o, PA, m, cc, hA, hlt, hc, hr, hmc⟩ := (H.out.below hb).cell hx
      have hm := HD.out x (List.mem_of_getElem? hx)
      have hm2 := hr.1
      have CB := Lib.hid (RBytesC_any x PA m cc wr hr (by omega))
      have H0 := Lib.hid hc
      have HX := Lib.hid (And.intro hx hm)
      subst hA
      clear hx hm hm2 hr hc hmc ho hb
      go_wp2_with (first
        | ((with_reducible refine wpList_ldCd (b := b) (off := o + j * 6) rfl (.tmp 17) rfl rfl H0.out ?_))
        | (go_at_call 28; refine CB.out.mono ?_; rintro e w2 ⟨A2, n2, c2, rfl, hr2, hc2, hb2⟩
           have R2 := Lib.hid (And.intro hr2 (And.intro hb2 (own_keep HO.out hb2)))
           have hn2 : n2 ≤ 1100 := by have := hr2.1; have := x.bytes_len; have := HX.out.2; omega
           clear hr2 hc2 hb2)
        | (at_builtin; refine wpList_app _ bytesT rfl (.tmp 14) (.tmp 19) rfl w.heap.size _ k _ rfl R2.out.2.2 A2 n2 c2 _ rfl R2.out.1 (by omega) (Nat.le_trans HBw.out.size R2.out.2.1.size) ?_; intro v3 w3 ho3 hb3
           rw [← cells_append] at ho3
           have HO3 := Lib.hid ho3
           have HB3 := Lib.hid ((HBw.out.trans (R2.out.2.1.mono HBw.out.size)).trans hb3)
           clear ho3 hb3))
      go_roundw
      case rel => exact ⟨j + 1, _, _, hjn, by go_num, Lib.hid ⟨by rw [flat_take xs j x HX.out.1, ← List.append_assoc, ← hys.out.1], by have := R2.out.1.1; have := hys.out.2; rw [List.length_append]; omega⟩, HO3.out, HB3.out⟩
      case measure => simp [intOf]; omega
    · obtain rfl : j = n := Nat.le_antisymm hj (Nat.le_of_not_lt hjn)
      have hfin : ys = frBody xs := by rw [hys.out.1, List.take_of_length_le (Nat.le_of_eq HL.out)]; unfold frBody; rw [HL.out]
      have HF := Lib.hid hfin
      obtain ⟨B1, d1, rfl, _, _, hrd⟩ := Rd.of_own ho rfl
      have CO := Lib.hid (ROf_any B1 k d1 ys wr hrd (by omega))
      have CN := Lib.hid (RNumS_any 4 (by decide) (by decide) ((sumL ys : Nat) : Int) wr)
      have hsum : sumL ys < 4294967296 := sumL_lt ys
      obtain ⟨sm, hsm⟩ : ∃ q, q = sumL ys := ⟨_, rfl⟩
      rw [← hsm] at CO CN hsum
      have HSM := Lib.hid hsm
      have hcv : IntKind.i64.wrap (sm : Int) = sm := IntWalk.i64_in _ (by omega)
      clear hfin hrd hsm hb ho
      go_wp2_with (first
        | (go_at_call 20; refine CO.out.mono ?_; rintro e w' ⟨rfl, rfl⟩)
        | (go_at_call 19; refine CN.out.mono ?_; rintro e w2 ⟨v2, rfl, ho2, hb2⟩
           obtain ⟨A2, c2, rfl, _, _, hr2⟩ := Rd.of_own ho2 rfl
           have R2 := Lib.hid (And.intro hr2 (And.intro hb2 (own_keep HO.out hb2)))
           clear hr2 ho2 hb2)
        | (at_builtin; refine wpList_app _ bytesT rfl (.tmp 21) (.tmp 25) rfl w.heap.size _ k _ rfl R2.out.2.2 A2 4 c2 _ rfl R2.out.1 (by omega) (Nat.le_trans HBw.out.size R2.out.2.1.size) ?_; intro v3 w3 ho3 hb3
           rw [← cells_append] at ho3
           have HO3 := Lib.hid ho3
           have HB3 := Lib.hid ((HBw.out.trans (R2.out.2.1.mono HBw.out.size)).trans hb3)
           clear ho3 hb3))
      go_ret
      have hO := HO3.out
      rw [HSM.out, HF.out] at hO
      exact GotS.own hO HB3.out
end
end Go.Proofs.Ytlinafnhhnkjnaa
namespace Go.Proofs.Ytlinafnhhnkjnaa
open Go.RowKit

theorem part_low (A : Option Addr) (n c : Nat) (x : Int) (k : Nat) (w : World) (hx : x < 0) :
    Calls Try.prog 60 #[.slice A n c, .int .i64 x, .int .i64 k] w fun e w' => e = .returned (.tuple #[.slice none 0 0, .bool false]) ∧ w = w' := by
  go_enter Try.func60, Try.ntmps60
  go_wp2
  go_ret2
  exact ⟨rfl, rfl⟩
theorem part_high (A : Option Addr) (n c : Nat) (x : Int) (k : Nat) (w : World) (hx : 0 ≤ x) (hk : k ≤ 1073741824) (hn : n ≤ 1073741824) (h : (n : Int) - k < x) :
    Calls Try.prog 60 #[.slice A n c, .int .i64 x, .int .i64 k] w fun e w' => e = .returned (.tuple #[.slice none 0 0, .bool false]) ∧ w = w' := by
  go_enter Try.func60, Try.ntmps60
  go_wp2
  go_ret2
  exact ⟨rfl, rfl⟩
theorem part_yes (A : Option Addr) (n c : Nat) (l : List UInt8) (x : Nat) (k : Nat) (w : World) (hr : Rd w A n l) (hc : n ≤ c) (h1 : 1 ≤ k) (hk : k ≤ 1073741824) (hn : n ≤ 1073741824) (h : x + k ≤ n) :
    Calls Try.prog 60 #[.slice A n c, .int .i64 x, .int .i64 k] w fun e w' => ∃ A', e = .returned (.tuple #[.slice A' k k, .bool true]) ∧ Rd w A' k ((l.drop x).take k) ∧ w = w' := by
  have h0 : ¬ k = 0 := by omega
  go_enter Try.func60, Try.ntmps60
  go_wp2
  go_ret2
  refine ⟨A.map fun a => a.add x, ?_, hr.part h _ (fun _ b o e => ?_), rfl⟩
  · show Ending.returned (.tuple #[.slice _ (x + k - x) (x + k - x), .bool true]) = _
    rw [Nat.add_sub_cancel_left]
  · rw [e]
    simp [Addr.add_lit]

theorem Get_yes (A : Option Addr) (n c : Nat) (l : List UInt8) (x : Nat) (width : Int) (w : World) (hr : Rd w A n l) (hc : n ≤ c) (hn : n ≤ 1073741824) (h : x + wd width ≤ n) :
    Calls Try.prog 58 #[.slice A n c, .int .i64 x, .int .i64 width] w fun e w' => e = .returned (.tuple #[.int .i64 (getV ((l.drop x).take (wd width))), .bool true]) ∧ w = w' := by
  have hw := wd_bd width
  go_enter Try.func58, Try.ntmps58
  go_wp2_with (first
    | (go_at_call 34; refine (nearest_wd _ _).mono ?_; rintro e w' ⟨rfl, rfl⟩)
    | (go_at_call 60; refine (part_yes A n c l x (wd width) _ hr hc (by omega) (by omega) hn h).mono ?_; rintro e w' ⟨A2, rfl, hp, rfl⟩))
  obtain ⟨p, hpe⟩ : ∃ p, p = (l.drop x).take (wd width) := ⟨_, rfl⟩
  rw [← hpe] at hp
  have HPE := Lib.hid hpe
  clear hpe
  have hpl := hp.1
  have h9 : leN p < 2 ^ (8 * p.length) := leN_lt p
  go_loop [9, 23] (fun u i => ∃ j : Nat, j ≤ wd width ∧ i = .int .i64 j ∧ u = .int .u64 (leN (p.take j) : Nat)) (fun _ i => wd width - (intOf i).toNat)
  case atStart => exact ⟨0, Nat.zero_le _, rfl, rfl⟩
  case round =>
    obtain ⟨j, hj, rfl, rfl⟩ := hrel
    by_cases hlt : j < wd width
    · obtain ⟨b, o, rfl, _, hcell⟩ := hp.at_ hlt
      go_wp2
      go_round
      case rel =>
        refine ⟨j + 1, hlt, by go_num, ?_⟩
        rw [or_step p j (by omega) (by omega)]
      case measure => simp [intOf]; omega
    · go_wp2
      go_ret2
      have : j = wd width := by omega
      subst this
      refine ⟨?_, rfl⟩
      rw [← HPE.out, List.take_of_length_le (by omega)]
      rfl

theorem Get_no (A : Option Addr) (n c : Nat) (x : Int) (width : Int) (w : World) (hn : n ≤ 1073741824) (h : x < 0 ∨ (n : Int) - wd width < x) :
    Calls Try.prog 58 #[.slice A n c, .int .i64 x, .int .i64 width] w fun e w' => e = .returned (.tuple #[.int .i64 0, .bool false]) ∧ w = w' := by
  have hw := wd_bd width
  by_cases hx : x < 0
  · clear h
    go_enter Try.func58, Try.ntmps58
    go_wp2_with (first
      | (go_at_call 34; refine (nearest_wd _ _).mono ?_; rintro e w' ⟨rfl, rfl⟩)
      | (go_at_call 60; refine (part_low A n c x (wd width) _ hx).mono ?_; rintro e w' ⟨rfl, rfl⟩))
    go_ret2
    exact ⟨rfl, rfl⟩
  · have h' : (n : Int) - wd width < x := by omega
    clear h
    go_enter Try.func58, Try.ntmps58
    go_wp2_with (first
      | (go_at_call 34; refine (nearest_wd _ _).mono ?_; rintro e w' ⟨rfl, rfl⟩)
      | (go_at_call 60; refine (part_high A n c x (wd width) _ (by omega) (by omega) hn h').mono ?_; rintro e w' ⟨rfl, rfl⟩))
    go_ret2
    exact ⟨rfl, rfl⟩

theorem RGet_no (A : Option Addr) (n c : Nat) (x : Int) (width : Int) (w : World) (hn : n ≤ 1073741824) (h : x < 0 ∨ (n : Int) - wd width < x) :
    Calls Try.prog 43 #[.slice A n c, .int .i64 x, .int .i64 width] w fun e w' => e = .returned (.tuple #[.int .i64 0, .bool false]) ∧ w = w' := by
  have hw := wd_bd width
  by_cases hx : x < 0
  · clear h
    go_enter Try.func43, Try.ntmps43
    go_wp2_with (go_at_call 32; refine (wide_wd _ _).mono ?_; rintro e w' ⟨rfl, rfl⟩)
    go_ret2
    exact ⟨rfl, rfl⟩
  · have h' : (n : Int) - wd width < x := by omega
    clear h
    go_enter Try.func43, Try.ntmps43
    go_wp2_with (go_at_call 32; refine (wide_wd _ _).mono ?_; rintro e w' ⟨rfl, rfl⟩)
    go_ret2
    exact ⟨rfl, rfl⟩

theorem RGet_yes (A : Option Addr) (n c : Nat) (l : List UInt8) (x : Nat) (width : Int) (w : World) (hr : Rd w A n l) (hn : n ≤ 1073741824) (h : x + wd width ≤ n) :
    Calls Try.prog 43 #[.slice A n c, .int .i64 x, .int .i64 width] w fun e w' => e = .returned (.tuple #[.int .i64 (getV ((l.drop x).take (wd width))), .bool true]) ∧ w = w' := by
  have hw := wd_bd width
  have hl := hr.1
  go_enter Try.func43, Try.ntmps43
  go_wp2_with (go_at_call 32; refine (wide_wd _ _).mono ?_; rintro e w' ⟨rfl, rfl⟩)
  obtain ⟨p, hpe⟩ : ∃ p, p = (l.drop x).take (wd width) := ⟨_, rfl⟩
  have hpl : p.length = wd width := by rw [hpe]; simp; omega
  have hpg : ∀ j (hj : j < wd width), p[j]'(by omega) = l[x + j]'(by omega) := by intro j hj; subst hpe; simp
  have HPE := Lib.hid hpe
  clear hpe
  have HPG := Lib.hid hpg
  clear hpg
  go_loop [9, 10] (fun u i => ∃ j : Nat, j ≤ wd width ∧ i = .int .i64 ((j : Int) - 1) ∧ u = .int .u64 (leN (p.drop j) : Nat)) (fun _ i => (intOf i + 1).toNat)
  case atStart => exact ⟨wd width, Nat.le_refl _, rfl, by rw [List.drop_of_length_le (by omega)]; rfl⟩
  case round =>
    obtain ⟨j, hj, rfl, rfl⟩ := hrel
    by_cases hlt : 0 < j
    · obtain ⟨i, rfl⟩ : ∃ i, j = i + 1 := ⟨j - 1, by omega⟩
      obtain ⟨b, o, rfl, _, hcell⟩ := hr.at_ (show x + i < n by omega)
      rw [← HPG.out i (by omega)] at hcell
      have hu := drop_step p i (by omega) (by omega)
      go_wp2
      go_round
      case rel =>
        refine ⟨i, by omega, by go_num, ?_⟩
        rw [leN_drop p i (by omega)]
        congr 1
        omega
      case measure => simp [intOf]
    · obtain rfl : j = 0 := by omega
      go_wp2
      go_ret2
      refine ⟨?_, rfl⟩
      rw [← HPE.out]
      rfl
end Go.Proofs.Ytlinafnhhnkjnaa
namespace Go.Proofs.Ytlinafnhhnkjnaa
open Go.RowKit
set_option linter.unusedVariables false

/-- What is left to read, and whether something was missing. -/
abbrev RS := List UInt8 × Bool
/-- What the next number of k bytes is, and what it leaves. -/
def rdNum (k : Nat) (st : RS) : Int × RS :=
  if st.2 = true then (0, st) else if st.1.length < k then (0, (st.1, true)) else (getV (st.1.take k), (st.1.drop k, false))
/-- A Reader at block p; its blocks lie below N. -/
def RdrIs (N : Nat) (w : World) (p : Nat) (st : RS) : Prop :=
  ∃ A n c, w.heap[p]? = some (.cells #[.slice A n c, .bool st.2] 92 (0, 0)) ∧ Rd w A n st.1 ∧ n ≤ c ∧ c ≤ maxLen ∧ n ≤ 1073741824 ∧ p < N ∧ ∀ a, A = some a → a.block ≠ p ∧ a.block < N

section
variable {w w' : World} {p N : Nat} {st : RS}
theorem RdrIs.lt (h : RdrIs N w p st) : p < w.heap.size := by obtain ⟨A, n, c, hb, _⟩ := h; exact (Array.getElem?_eq_some_iff.1 hb).1
theorem RdrIs.below (h : RdrIs N w p st) (hb : Below w.heap.size w w') : RdrIs N w' p st := by
  obtain ⟨A, n, c, h1, h2, h3, h4, h5, hpN, h6⟩ := h
  exact ⟨A, n, c, (hb.block p (Array.getElem?_eq_some_iff.1 h1).1).trans h1, h2.below (Nat.le_refl _) hb, h3, h4, h5, hpN, h6⟩
/-- The Reader stays where what was written lies from N on. -/
theorem RdrIs.stay (h : RdrIs N w p st) {B : Nat} (hN : N ≤ B) (hb : Below B w w') : RdrIs N w' p st := by
  obtain ⟨A, n, c, h1, h2, h3, h4, h5, hp, h6⟩ := h
  exact ⟨A, n, c, (hb.block p (by omega)).trans h1, h2.below' hb (fun hn => by
    obtain ⟨b, o, e, _, _⟩ := h2.2 hn
    have := (h6 _ e).2
    exact ⟨b, o, e, Nat.lt_of_lt_of_le this hN⟩), h3, h4, h5, hp, h6⟩

theorem OK_any (h : RdrIs N w p st) : Calls Try.prog 57 #[.pointer (some ⟨p, 0, none⟩)] w fun e w' => e = .returned (.bool (!st.2)) ∧ w = w' := by
  obtain ⟨A, n, c, h1, h2, h3, h4, h5, hpN, h6⟩ := h
  have c1 : w.cell? ⟨p, 1, none⟩ = some (.bool st.2) := cell_of_row _ _ 1 _ _ _ h1
  clear h1 h2 h6
  go_enter Try.func57, Try.ntmps57
  go_wp2
  go_ret
  exact ⟨rfl, rfl⟩

theorem Left_any (h : RdrIs N w p st) : Calls Try.prog 51 #[.pointer (some ⟨p, 0, none⟩)] w fun e w' => e = .returned (.int .i64 (st.1.length : Nat)) ∧ w = w' := by
  obtain ⟨A, n, c, h1, h2, h3, h4, h5, hpN, h6⟩ := h
  have c0 : w.cell? ⟨p, 0, none⟩ = some (.slice A n c) := cell_of_row _ _ 0 _ _ _ h1
  have hl := h2.1
  clear h1 h2 h6
  go_enter Try.func51, Try.ntmps51
  go_wp2
  go_ret
  exact ⟨ret_int (by rw [hl]), rfl⟩

/-- Nothing is taken where something was missing. -/
theorem take_off (l : List UInt8) (h : RdrIs N w p (l, true)) (k : Nat) :
    Calls Try.prog 59 #[.pointer (some ⟨p, 0, none⟩), .int .i64 k] w fun e w' => e = .returned (.slice none 0 0) ∧ w = w' := by
  have H := Lib.hid h
  clear h
  go_enter Try.func59, Try.ntmps59
  go_wp2_with (go_at_call 57; refine (OK_any H.out).mono ?_; rintro e w' ⟨rfl, rfl⟩)
  go_ret
  exact ⟨rfl, rfl⟩
theorem take_short (l : List UInt8) (h : RdrIs N w p (l, false)) (k : Nat) (hk : k ≤ 1073741824) (hs : l.length < k) :
    Calls Try.prog 59 #[.pointer (some ⟨p, 0, none⟩), .int .i64 k] w fun e w' => e = .returned (.slice none 0 0) ∧ RdrIs N w' p (l, true) ∧ Fr (· = p) w w' := by
  have H := Lib.hid h
  obtain ⟨A, n, c, h1, h2, h3, h4, h5, hpN, h6⟩ := h
  have c0 : w.cell? ⟨p, 0, none⟩ = some (.slice A n c) := cell_of_row _ _ 0 _ _ _ h1
  have f1 : w.frozen? ⟨p, 1, none⟩ = false := frozen_of_row w p 1 _ _ h1
  have c1 : w.cell? ⟨p, 1, none⟩ = some (.bool false) := cell_of_row _ _ 1 _ _ _ h1
  have hl := h2.1
  have hR : RdrIs N (w.setCell ⟨p, 1, none⟩ (.bool true)) p (l, true) := by
    refine ⟨A, n, c, ?_, h2.fr (Fr.setCell w (own := (· = p)) rfl _) (fun b o e _ => (h6 _ e).1), h3, h4, h5, hpN, h6⟩
    have := heap_setCell_at (j := 1) h1 (.bool true)
    simpa using this
  have HR := Lib.hid hR
  clear h1 h2 h6 hR
  go_enter Try.func59, Try.ntmps59
  go_wp2_with (first
    | (go_at_call 57; refine (OK_any H.out).mono ?_; rintro e w' ⟨rfl, rfl⟩)
    | (go_at_call 60; refine (part_high A n c 0 k w (by omega) hk h5 (by omega)).mono ?_; rintro e w' ⟨rfl, rfl⟩))
  go_ret
  exact ⟨rfl, HR.out, Fr.setCell w (own := (· = p)) rfl _⟩
theorem part_at (A : Option Addr) (n c : Nat) (k : Nat) (w : World) (hc : n ≤ c) (h1 : 1 ≤ k) (hk : k ≤ 1073741824) (hn : n ≤ 1073741824) (h : k ≤ n) :
    Calls Try.prog 60 #[.slice A n c, .int .i64 0, .int .i64 k] w fun e w' => e = .returned (.tuple #[.slice A k k, .bool true]) ∧ w = w' := by
  have h0 : ¬ k = 0 := by omega
  go_enter Try.func60, Try.ntmps60
  go_wp2
  go_ret2
  exact ⟨rfl, rfl⟩
theorem take_yes (l : List UInt8) (h : RdrIs N w p (l, false)) (k : Nat) (hk1 : 1 ≤ k) (hk : k ≤ 1073741824) (hs : k ≤ l.length) :
    Calls Try.prog 59 #[.pointer (some ⟨p, 0, none⟩), .int .i64 k] w fun e w' => ∃ A, e = .returned (.slice A k k) ∧ Rd w' A k (l.take k) ∧ RdrIs N w' p (l.drop k, false) ∧ Fr (· = p) w w' := by
  have H := Lib.hid h
  obtain ⟨A, n, c, h1, h2, h3, h4, h5, hpN, h6⟩ := h
  have c0 : w.cell? ⟨p, 0, none⟩ = some (.slice A n c) := cell_of_row _ _ 0 _ _ _ h1
  have f0 : w.frozen? ⟨p, 0, none⟩ = false := frozen_of_row w p 0 _ _ h1
  have hl := h2.1
  simp only at h1 h2 hl
  have H1 := Lib.hid h1
  have H2 := Lib.hid h2
  have H6 := Lib.hid h6
  have hkn : k ≤ n := by omega
  have hset : ∀ v, (w.setCell ⟨p, 0, none⟩ v).heap[p]? = some (.cells #[v, .bool false] 92 (0, 0)) := fun v => by
    have := heap_setCell_at (j := 0) h1 v
    simpa using this
  have hfr : ∀ v, Fr (· = p) w (w.setCell ⟨p, 0, none⟩ v) := fun v => Fr.setCell w (own := (· = p)) rfl v
  have hA : ∀ v, Rd (w.setCell ⟨p, 0, none⟩ v) A k (l.take k) := fun v => by
    have h := (h2.part (lo := 0) (m := k) (by omega) A (fun _ b o e => by rw [e]; rfl)).fr (hfr v) (fun b o e _ => (h6 _ e).1)
    rw [List.drop_zero] at h
    exact h
  have HSET := Lib.hid hset
  have HFR := Lib.hid hfr
  have HA := Lib.hid hA
  clear h1 h2 h6 hs hset hfr hA
  by_cases hck : c = k
  · subst hck
    obtain rfl : n = c := by omega
    go_enter Try.func59, Try.ntmps59
    go_wp2_with (first
      | (go_at_call 57; refine (OK_any H.out).mono ?_; rintro e w' ⟨rfl, rfl⟩)
      | (go_at_call 60; refine (part_at A n n n w h3 hk1 hk h5 hkn).mono ?_; rintro e w' ⟨rfl, rfl⟩))
    go_ret
    refine ⟨A, rfl, HA.out _, ⟨A, 0, 0, HSET.out _, ?_, Nat.le_refl _, Nat.zero_le _, Nat.zero_le _, hpN, H6.out⟩, HFR.out _⟩
    rw [List.drop_of_length_le (by omega)]
    exact Rd.nil _ _
  · have hkc : k < c := by omega
    go_enter Try.func59, Try.ntmps59
    go_wp2_with (first
      | (go_at_call 57; refine (OK_any H.out).mono ?_; rintro e w' ⟨rfl, rfl⟩)
      | (go_at_call 60; refine (part_at A n c k w h3 hk1 hk h5 hkn).mono ?_; rintro e w' ⟨rfl, rfl⟩))
    go_ret
    have hb : ∀ a, (A.map fun x => x.add k) = some a → a.block ≠ p ∧ a.block < N := fun a e => by
      cases A with
      | none => cases e
      | some a' =>
        simp only [Option.map_some, Option.some.injEq] at e
        rw [← e, block_add]
        exact H6.out a' rfl
    refine ⟨A, rfl, HA.out _, ⟨A.map fun x => x.add k, n - k, c - k, HSET.out _, ?_, by omega, by omega, by omega, hpN, hb⟩, HFR.out _⟩
    have h := (H2.out.part (lo := k) (m := n - k) (by omega) (A.map fun x => x.add k) (fun _ b o e => by rw [e]; simp [Addr.add_lit])).fr (HFR.out (.slice (A.map fun x => x.add k) (n - k) (c - k))) (fun b o e _ => (hb _ e).1)
    rw [List.take_of_length_le (by simp; omega)] at h
    exact h

theorem RNumK_any (h : RdrIs N w p st) (k : Nat) (hk : 1 ≤ k ∧ k ≤ 8) :
    Calls Try.prog 55 #[.pointer (some ⟨p, 0, none⟩), .int .i64 k] w fun e w' => e = .returned (.int .i64 (rdNum k st).1) ∧ RdrIs N w' p (rdNum k st).2 ∧ Fr (· = p) w w' := by
  obtain ⟨l, m⟩ := st
  have hwd : wd (k : Int) = k := by have := wd_cast (k : Int); omega
  have hn := nearest_wd (k : Int) w
  rw [hwd] at hn
  have HN := Lib.hid hn
  clear hn
  cases m
  · by_cases hs : l.length < k
    · have e1 : rdNum k (l, false) = (0, (l, true)) := by simp [rdNum, hs]
      rw [e1]
      have cT := Lib.hid (take_short l h k (by omega) hs)
      clear h e1
      go_enter Try.func55, Try.ntmps55
      go_wp2_with (first
        | (go_at_call 34; refine HN.out.mono ?_; rintro e w' ⟨rfl, rfl⟩)
        | (go_at_call 59; refine cT.out.mono ?_; rintro e w2 ⟨rfl, hr2, hf2⟩)
        | (go_at_call 58; refine (Get_no none 0 0 0 k w2 (by omega) (by rw [hwd]; omega)).mono ?_; rintro e w' ⟨rfl, rfl⟩))
      go_ret
      exact ⟨rfl, hr2, hf2⟩
    · have e1 : rdNum k (l, false) = (getV (l.take k), (l.drop k, false)) := by simp [rdNum, hs]
      rw [e1]
      have cT := Lib.hid (take_yes l h k (by omega) (by omega) (by omega))
      have hlk : (l.take k).length = k := by simp; omega
      have cG : ∀ A W, Rd W A k (l.take k) → Calls Try.prog 58 #[.slice A k k, .int .i64 0, .int .i64 k] W fun e w' => e = .returned (.tuple #[.int .i64 (getV (l.take k)), .bool true]) ∧ W = w' := fun A W hr => by
        have c := Get_yes A k k (l.take k) 0 k W hr (Nat.le_refl _) (by omega) (by rw [hwd]; omega)
        rw [hwd, List.drop_zero, List.take_take, Nat.min_self] at c
        exact c
      have CG := Lib.hid cG
      clear h e1 cG
      go_enter Try.func55, Try.ntmps55
      go_wp2_with (first
        | (go_at_call 34; refine HN.out.mono ?_; rintro e w' ⟨rfl, rfl⟩)
        | (go_at_call 59; refine cT.out.mono ?_; rintro e w2 ⟨A2, rfl, hR2, hr2, hf2⟩)
        | (go_at_call 58; refine (CG.out A2 w2 hR2).mono ?_; rintro e w' ⟨rfl, rfl⟩))
      go_ret
      exact ⟨rfl, hr2, hf2⟩
  · have e1 : rdNum k (l, true) = (0, (l, true)) := by simp [rdNum]
    rw [e1]
    have H := Lib.hid h
    have cT := Lib.hid (take_off l h k)
    clear h e1
    go_enter Try.func55, Try.ntmps55
    go_wp2_with (first
      | (go_at_call 34; refine HN.out.mono ?_; rintro e w' ⟨rfl, rfl⟩)
      | (go_at_call 59; refine cT.out.mono ?_; rintro e w' ⟨rfl, rfl⟩)
      | (go_at_call 58; refine (Get_no none 0 0 0 k w (by omega) (by rw [hwd]; omega)).mono ?_; rintro e w' ⟨rfl, rfl⟩))
    go_ret
    exact ⟨rfl, H.out, Fr.refl _ _⟩

theorem RRead_any (A : Option Addr) (n c : Nat) (l : List UInt8) (w : World) (hr : Rd w A n l) (hn : n ≤ 1000000) :
    Calls Try.prog 49 #[.slice A n c] w fun e w' => ∃ p, e = .returned (.pointer (some ⟨p, 0, none⟩)) ∧ w.heap.size ≤ p ∧ RdrIs w'.heap.size w' p (l, false) ∧ Below w.heap.size w w' := by
  go_enter Try.func49, Try.ntmps49
  go_wp2_with (go_at_call 36; refine (roomy_any A n c l 0 w hr (by omega) (by omega) (by omega)).mono ?_; rintro e w1 ⟨v1, rfl, ho1, hb1⟩; obtain ⟨A1, c1, rfl, hc1, hm1, hr1⟩ := Rd.of_own ho1 rfl)
  go_ret
  have hB := hb1.alloc hb1.size (.cells #[.slice A1 n c1, .bool false] 92)
  refine ⟨w1.heap.size, rfl, hb1.size, ⟨A1, n, c1, heap_alloc_new w1 _, hr1.alloc _, hc1, hm1, by omega, by simp, fun a e => ?_⟩, hB⟩
  have hlt : a.block < w1.heap.size := by
    rcases ho1.2 with ⟨h0, _⟩ | ⟨g, cap, cur, hv, _, hh, _⟩
    · rw [e] at h0; cases h0
    · injection hv with h1
      rw [e] at h1
      injection h1 with h1
      rw [h1]
      exact (Array.getElem?_eq_some_iff.1 hh).1
  exact ⟨by omega, by simp; omega⟩
end
end Go.Proofs.Ytlinafnhhnkjnaa
namespace Go.Proofs.Ytlinafnhhnkjnaa
open Go.RowKit
set_option linter.unusedVariables false

/-- The next k bytes, and what they leave. -/
def rdBytes (k : Nat) (st : RS) : List UInt8 × RS :=
  if st.2 = true then ([], st) else if st.1.length < k then ([], (st.1, true)) else (st.1.take k, (st.1.drop k, false))

section
variable {w w' : World} {p N : Nat} {st : RS}
theorem part_zero (A : Option Addr) (n c : Nat) (w : World) (hc : n ≤ c) (hn : n ≤ 1073741824) :
    Calls Try.prog 60 #[.slice A n c, .int .i64 0, .int .i64 0] w fun e w' => e = .returned (.tuple #[.slice A 0 0, .bool true]) ∧ w = w' := by
  go_enter Try.func60, Try.ntmps60
  go_wp2
  go_ret2
  exact ⟨rfl, rfl⟩
theorem take_zero (l : List UInt8) (h : RdrIs N w p (l, false)) :
    Calls Try.prog 59 #[.pointer (some ⟨p, 0, none⟩), .int .i64 0] w fun e w' => ∃ A, e = .returned (.slice A 0 0) ∧ RdrIs N w' p (l, false) ∧ Fr (· = p) w w' := by
  have H := Lib.hid h
  obtain ⟨A, n, c, h1, h2, h3, h4, h5, hpN, h6⟩ := h
  have c0 : w.cell? ⟨p, 0, none⟩ = some (.slice A n c) := cell_of_row _ _ 0 _ _ _ h1
  have f0 : w.frozen? ⟨p, 0, none⟩ = false := frozen_of_row w p 0 _ _ h1
  simp only at h1 h2
  have hset : (w.setCell ⟨p, 0, none⟩ (.slice A n c)).heap[p]? = some (.cells #[.slice A n c, .bool false] 92 (0, 0)) := by
    have := heap_setCell_at (j := 0) h1 (.slice A n c)
    simpa using this
  have hfr : Fr (· = p) w (w.setCell ⟨p, 0, none⟩ (.slice A n c)) := Fr.setCell w (own := (· = p)) rfl _
  have hR : RdrIs N (w.setCell ⟨p, 0, none⟩ (.slice A n c)) p (l, false) := ⟨A, n, c, hset, h2.fr hfr (fun b o e _ => (h6 _ e).1), h3, h4, h5, hpN, h6⟩
  have HR := Lib.hid hR
  have HFR := Lib.hid hfr
  clear h1 h2 h6 hset hfr hR
  by_cases hc0 : c = 0
  · subst hc0
    obtain rfl : n = 0 := by omega
    go_enter Try.func59, Try.ntmps59
    go_wp2_with (first
      | (go_at_call 57; refine (OK_any H.out).mono ?_; rintro e w' ⟨rfl, rfl⟩)
      | (go_at_call 60; refine (part_zero A 0 0 w h3 h5).mono ?_; rintro e w' ⟨rfl, rfl⟩))
    go_ret
    exact ⟨A, rfl, HR.out, HFR.out⟩
  · go_enter Try.func59, Try.ntmps59
    go_wp2_with (first
      | (go_at_call 57; refine (OK_any H.out).mono ?_; rintro e w' ⟨rfl, rfl⟩)
      | (go_at_call 60; refine (part_zero A n c w h3 h5).mono ?_; rintro e w' ⟨rfl, rfl⟩))
    go_ret
    exact ⟨A, rfl, HR.out, HFR.out⟩

/-- What Bytes leaves. -/
def GotB (N p k : Nat) (st : RS) (w : World) (e : Ending) (w' : World) : Prop :=
  ∃ A n c, e = .returned (.slice A n c) ∧ Rd w' A n (rdBytes k st).1 ∧ (∀ b o, A = some ⟨b, o, none⟩ → 0 < n → w.heap.size ≤ b) ∧ n ≤ c ∧ RdrIs N w' p (rdBytes k st).2 ∧ Fr (· = p) w w'
theorem own_lo {w : World} {B : Nat} {e : TypeId} {v : Value} {n : Nat} {xs : List Value} (h : w.ownsRow B e 1 v n xs) {A : Option Addr} {m c : Nat} (hv : v = .slice A m c) (b o : Nat) (hA : A = some ⟨b, o, none⟩) : B ≤ b := by
  subst hv
  rcases h.2 with ⟨h1, _⟩ | ⟨g, cap, cur, hv, hB, _⟩
  · injection h1 with h1; rw [hA] at h1; cases h1
  · injection hv with h1
    rw [hA] at h1
    injection h1 with h1
    injection h1 with h1
    omega
theorem RBytes_any (h : RdrIs N w p st) (k : Nat) (hk : k ≤ 65535) :
    Calls Try.prog 56 #[.pointer (some ⟨p, 0, none⟩), .int .i64 k] w (GotB N p k st w) := by
  obtain ⟨l, m⟩ := st
  cases m
  · by_cases hs : l.length < k
    · have e1 : rdBytes k (l, false) = ([], (l, true)) := by simp [rdBytes, hs]
      unfold GotB
      rw [e1]
      have cT := Lib.hid (take_short l h k (by omega) hs)
      clear h e1
      go_enter Try.func56, Try.ntmps56
      go_wp2_with (first
        | (go_at_call 59; refine cT.out.mono ?_; rintro e w2 ⟨rfl, hr2, hf2⟩)
        | (at_builtin; refine wpList_app _ bytesT rfl (.const (.slice none 0 0)) (.tmp 8) rfl w2.heap.size _ 0 [] rfl (World.ownsRow_nil _ _ _ _) none 0 0 [] rfl (Rd.nil _ _) (by omega) (Nat.le_refl _) ?_; intro v3 w3 ho3 hb3; rw [Nat.zero_add, List.nil_append] at ho3))
      obtain ⟨A3, c3, rfl, hn3, _, hr3⟩ := Rd.of_own ho3 rfl
      go_ret
      exact ⟨A3, 0, c3, rfl, hr3, fun b o e h0 => absurd h0 (Nat.lt_irrefl 0), hn3, hr2.below hb3, hf2.trans (Fr.ofBelow _ hb3)⟩
    · have e1 : rdBytes k (l, false) = (l.take k, (l.drop k, false)) := by simp [rdBytes, hs]
      unfold GotB
      rw [e1]
      by_cases hk0 : k = 0
      · subst hk0
        have cT := Lib.hid (take_zero l h)
        clear h e1
        go_enter Try.func56, Try.ntmps56
        go_wp2_with (first
          | (go_at_call 59; refine cT.out.mono ?_; rintro e w2 ⟨A2, rfl, hr2, hf2⟩)
          | (at_builtin; refine wpList_app _ bytesT rfl (.const (.slice none 0 0)) (.tmp 8) rfl w2.heap.size _ 0 [] rfl (World.ownsRow_nil _ _ _ _) A2 0 0 [] rfl (Rd.nil _ _) (by omega) (Nat.le_refl _) ?_; intro v3 w3 ho3 hb3; rw [Nat.zero_add, List.nil_append] at ho3))
        obtain ⟨A3, c3, rfl, hn3, _, hr3⟩ := Rd.of_own ho3 rfl
        go_ret
        exact ⟨A3, 0, c3, rfl, hr3, fun b o e h0 => absurd h0 (Nat.lt_irrefl 0), hn3, hr2.below hb3, hf2.trans (Fr.ofBelow _ hb3)⟩
      · have cT := Lib.hid (take_yes l h k (by omega) (by omega) (by omega))
        clear h e1
        go_enter Try.func56, Try.ntmps56
        go_wp2_with (first
          | (go_at_call 59; refine cT.out.mono ?_; rintro e w2 ⟨A2, rfl, hR2, hr2, hf2⟩)
          | (at_builtin; refine wpList_app _ bytesT rfl (.const (.slice none 0 0)) (.tmp 8) rfl w2.heap.size _ 0 [] rfl (World.ownsRow_nil _ _ _ _) A2 k k _ rfl hR2 (by omega) (Nat.le_refl _) ?_; intro v3 w3 ho3 hb3; rw [Nat.zero_add, List.nil_append] at ho3))
        obtain ⟨A3, c3, rfl, hn3, _, hr3⟩ := Rd.of_own ho3 rfl
        have hlo := own_lo ho3 rfl
        go_ret
        exact ⟨A3, k, c3, rfl, hr3, fun b o e h0 => Nat.le_trans hf2.size (hlo b o e), hn3, hr2.below hb3, hf2.trans (Fr.ofBelow _ hb3)⟩
  · have e1 : rdBytes k (l, true) = ([], (l, true)) := by simp [rdBytes]
    unfold GotB
    rw [e1]
    have H := Lib.hid h
    have cT := Lib.hid (take_off l h k)
    clear h e1
    go_enter Try.func56, Try.ntmps56
    go_wp2_with (first
      | (go_at_call 59; refine cT.out.mono ?_; rintro e w' ⟨rfl, rfl⟩)
      | (at_builtin; refine wpList_app _ bytesT rfl (.const (.slice none 0 0)) (.tmp 8) rfl w.heap.size _ 0 [] rfl (World.ownsRow_nil _ _ _ _) none 0 0 [] rfl (Rd.nil _ _) (by omega) (Nat.le_refl _) ?_; intro v3 w3 ho3 hb3; rw [Nat.zero_add, List.nil_append] at ho3))
    obtain ⟨A3, c3, rfl, hn3, _, hr3⟩ := Rd.of_own ho3 rfl
    go_ret
    exact ⟨A3, 0, c3, rfl, hr3, fun b o e h0 => absurd h0 (Nat.lt_irrefl 0), hn3, H.out.below hb3, Fr.ofBelow _ hb3⟩
end
end Go.Proofs.Ytlinafnhhnkjnaa
namespace Go.Proofs.Ytlinafnhhnkjnaa
open Go.RowKit

theorem rdNum_off {k : Nat} {st : RS} (h : st.2 = true) : rdNum k st = (0, st) := by unfold rdNum; rw [if_pos h]
theorem rdNum_short {k : Nat} {l : List UInt8} (h : l.length < k) : rdNum k (l, false) = (0, (l, true)) := by simp [rdNum, h]
theorem rdNum_yes {k : Nat} {l : List UInt8} (h : k ≤ l.length) : rdNum k (l, false) = (getV (l.take k), (l.drop k, false)) := by
  have : ¬ l.length < k := by omega
  simp [rdNum, this]
theorem rdNum_miss {k : Nat} {st : RS} (h : st.2 = true) : (rdNum k st).2.2 = true := by rw [rdNum_off h]; exact h
end Go.Proofs.Ytlinafnhhnkjnaa
namespace Go.Proofs.Ytlinafnhhnkjnaa
open Go.RowKit
set_option linter.unusedVariables false

/-- The end of a reading. -/
def rdFin (x : Cd) (st : RS) : Cd × Int × RS := if st.2 = true then (Cd.zero, 12, st) else (x, 0, st)
/-- What a Reader tells of a command. -/
def rdCmd (st : RS) : Cd × Int × RS :=
  if (rdNum 1 st).1 < 0 ∨ 3 < (rdNum 1 st).1 then (Cd.zero, 11, (rdNum 1 st).2)
  else if (rdNum 1 st).1 = 0 then rdFin ⟨0, false, 0, 0, 0, []⟩ (rdNum 1 st).2
  else
    let b := rdNum 1 (rdNum 1 st).2
    if 1 < b.1 then (Cd.zero, 11, b.2)
    else
      let c := rdNum 8 b.2
      let g := if b.1 = 1 then (0, c.2) else rdNum 8 c.2
      if (rdNum 1 st).1 = 1 then rdFin ⟨1, decide (b.1 = 1), c.1, g.1, 0, []⟩ g.2
      else
        let k := rdNum 8 g.2
        if (rdNum 1 st).1 = 3 then rdFin ⟨3, decide (b.1 = 1), c.1, g.1, k.1, []⟩ k.2
        else
          let m := rdNum 2 k.2
          if 64 < m.1 then (Cd.zero, 13, m.2)
          else rdFin ⟨2, decide (b.1 = 1), c.1, g.1, k.1, (rdBytes m.1.toNat m.2).1⟩ (rdBytes m.1.toNat m.2).2

/-- P13.3: the command that bytes begin with, how long it is, or why there is none: by places. -/
def getCd (l : List UInt8) : Cd × Nat × Int :=
  if l.length = 0 then (Cd.zero, 0, 12)
  else if 3 < (l.getD 0 0).toNat then (Cd.zero, 0, 11)
  else if (l.getD 0 0).toNat = 0 then (⟨0, false, 0, 0, 0, []⟩, 1, 0)
  else if l.length = 1 then (Cd.zero, 0, 12)
  else if 1 < (l.getD 1 0).toNat then (Cd.zero, 0, 11)
  else
    let lc : Bool := decide ((l.getD 1 0).toNat = 1)
    let e0 := if (l.getD 1 0).toNat = 1 then 10 else 18
    let gn := if (l.getD 1 0).toNat = 1 then 0 else getV ((l.drop 10).take 8)
    if (l.getD 0 0).toNat = 1 then (if l.length < e0 then (Cd.zero, 0, 12) else (⟨1, lc, getV ((l.drop 2).take 8), gn, 0, []⟩, e0, 0))
    else if (l.getD 0 0).toNat = 3 then (if l.length < e0 + 8 then (Cd.zero, 0, 12) else (⟨3, lc, getV ((l.drop 2).take 8), gn, getV ((l.drop e0).take 8), []⟩, e0 + 8, 0))
    else if l.length < e0 + 10 then (Cd.zero, 0, 12)
    else if 64 < leN ((l.drop (e0 + 8)).take 2) then (Cd.zero, 0, 13)
    else if l.length < e0 + 10 + leN ((l.drop (e0 + 8)).take 2) then (Cd.zero, 0, 12)
    else (⟨2, lc, getV ((l.drop 2).take 8), gn, getV ((l.drop e0).take 8), (l.drop (e0 + 10)).take (leN ((l.drop (e0 + 8)).take 2))⟩, e0 + 10 + leN ((l.drop (e0 + 8)).take 2), 0)
/-- At a place of any bytes. -/
def getAt (l : List UInt8) (at_ : Int) : Cd × Int × Int :=
  if at_ < 0 ∨ (l.length : Int) < at_ then (Cd.zero, 0, 2)
  else ((getCd (l.drop at_.toNat)).1, if (getCd (l.drop at_.toNat)).2.2 = 0 then at_ + (getCd (l.drop at_.toNat)).2.1 else 0, (getCd (l.drop at_.toNat)).2.2)

theorem getV1 (l : List UInt8) (h : l.length = 1) : getV l = (l.getD 0 0).toNat := by
  obtain ⟨a, rfl⟩ := List.length_eq_one_iff.1 h
  have := a.toNat_lt
  rw [getV_in _ (by simp [leN]; omega)]
  simp [leN]
theorem rdNum_offL (k : Nat) (l : List UInt8) : rdNum k (l, true) = (0, (l, true)) := rdNum_off rfl
theorem rdBytes_off (k : Nat) (l : List UInt8) : rdBytes k (l, true) = ([], (l, true)) := by simp [rdBytes]
theorem rdBytes_short {k : Nat} {l : List UInt8} (h : l.length < k) : rdBytes k (l, false) = ([], (l, true)) := by simp [rdBytes, h]
theorem rdBytes_yes {k : Nat} {l : List UInt8} (h : k ≤ l.length) : rdBytes k (l, false) = (l.take k, (l.drop k, false)) := by simp [rdBytes, show ¬ l.length < k by omega]
theorem rdFin_off (x : Cd) (l : List UInt8) : rdFin x (l, true) = (Cd.zero, 12, (l, true)) := by simp [rdFin]
theorem rdFin_on (x : Cd) (l : List UInt8) : rdFin x (l, false) = (x, 0, (l, false)) := by simp [rdFin]

/-- Both tell the same. -/
def SameG (r : Cd × Int × RS) (g : Cd × Nat × Int) (n : Nat) : Prop := r.1 = g.1 ∧ r.2.1 = g.2.2 ∧ (g.2.2 = 0 → n - r.2.2.1.length = g.2.1 ∧ g.2.1 ≤ n)
theorem SameG.fault {r : Cd × Int × RS} {g : Cd × Nat × Int} {n : Nat} {e : Int} (h1 : r.1 = Cd.zero) (h2 : r.2.1 = e) (h3 : g = (Cd.zero, 0, e)) (he : e ≠ 0) : SameG r g n := by
  subst h3
  exact ⟨h1, h2, fun h => absurd h he⟩
theorem rdFin_zero (x : Cd) (st : RS) (h : st.2 = true) : (rdFin x st).1 = Cd.zero ∧ (rdFin x st).2.1 = 12 := by
  obtain ⟨l, m⟩ := st
  simp only at h
  subst h
  rw [rdFin_off]
  exact ⟨rfl, rfl⟩
theorem off_bytes (k : Nat) (st : RS) (h : st.2 = true) : (rdBytes k st).2.2 = true := by
  obtain ⟨l, m⟩ := st
  simp only at h
  subst h
  rw [rdBytes_off]
theorem take_getD (l : List UInt8) (k i : Nat) (h : i < k) : (l.take k).getD i 0 = l.getD i 0 := by
  simp [List.getD_eq_getElem?_getD, h]
theorem drop_getD (l : List UInt8) (k i : Nat) : (l.drop k).getD i 0 = l.getD (k + i) 0 := by
  simp [List.getD_eq_getElem?_getD, List.getElem?_drop]

/-- Behind the first two bytes. -/
def rdTail (d : Nat) (b : Nat) (st : RS) : Cd × Int × RS :=
  let c := rdNum 8 st
  let g := if b = 1 then (0, c.2) else rdNum 8 c.2
  if d = 1 then rdFin ⟨1, decide (b = 1), c.1, g.1, 0, []⟩ g.2
  else
    let k := rdNum 8 g.2
    if d = 3 then rdFin ⟨3, decide (b = 1), c.1, g.1, k.1, []⟩ k.2
    else
      let m := rdNum 2 k.2
      if 64 < m.1 then (Cd.zero, 13, m.2)
      else rdFin ⟨2, decide (b = 1), c.1, g.1, k.1, (rdBytes m.1.toNat m.2).1⟩ (rdBytes m.1.toNat m.2).2
theorem rdTail_off (d b : Nat) (l : List UInt8) : (rdTail d b (l, true)).1 = Cd.zero ∧ (rdTail d b (l, true)).2.1 = 12 := by
  unfold rdTail
  simp only [rdNum_offL]
  by_cases hb : b = 1
  all_goals
    simp only [hb, if_true, if_false, rdNum_offL, rdBytes_off, rdFin_off, Int.toNat_zero, show ¬ (64 : Int) < 0 by decide]
    repeat' split
    all_goals exact ⟨rfl, rfl⟩
theorem rdCmd_tail {st : RS} {d b : Nat} {st1 st2 : RS} (h1 : rdNum 1 st = ((d : Int), st1)) (hd : 1 ≤ d ∧ d ≤ 3) (h2 : rdNum 1 st1 = ((b : Int), st2)) (hb : b ≤ 1) : rdCmd st = rdTail d b st2 := by
  unfold rdCmd rdTail
  simp only [h1, h2]
  rw [if_neg (by omega), if_neg (by omega), if_neg (by omega)]
  have e1 : ((b : Int) = 1) = (b = 1) := by simp; omega
  have e2 : ((d : Int) = 1) = (d = 1) := by simp; omega
  have e3 : ((d : Int) = 3) = (d = 3) := by simp; omega
  simp only [e1, e2, e3]
theorem getV2 (l : List UInt8) (h : l.length ≤ 2) : getV l = (leN l : Int) := by
  have h1 := leN_lt l
  have h2 : 2 ^ (8 * l.length) ≤ 2 ^ 16 := Nat.pow_le_pow_right (by decide) (by omega)
  exact getV_in _ (by omega)
theorem num1 (l : List UInt8) (h : 1 ≤ l.length) : rdNum 1 (l, false) = ((((l.getD 0 0).toNat : Nat) : Int), (l.drop 1, false)) := by
  rw [rdNum_yes h, getV1 _ (by simp; omega), take_getD _ _ _ (by decide)]
/-- Behind the first two bytes: by places. -/
theorem rdTail_get (l : List UInt8) (d b : Nat) (hd : 1 ≤ d ∧ d ≤ 3) (hb : b ≤ 1) (hd0 : (l.getD 0 0).toNat = d) (hb0 : (l.getD 1 0).toNat = b) (h2 : 2 ≤ l.length) :
    SameG (rdTail d b (l.drop 2, false)) (getCd l) l.length := by
  have g0 : ¬ l.length = 0 := by omega
  have g1 : ¬ l.length = 1 := by omega
  have g3 : ¬ 3 < d := by omega
  have g4 : ¬ d = 0 := by omega
  have g5 : ¬ 1 < b := by omega
  unfold getCd
  rw [hd0, hb0, if_neg g0, if_neg g3, if_neg g4, if_neg g1, if_neg g5]
  obtain ⟨e0, he0⟩ : ∃ e0, e0 = if b = 1 then 10 else 18 := ⟨_, rfl⟩
  simp only [← he0]
  -- the state behind the target
  have key : ∀ (X : Prop), (l.length < e0 → (rdTail d b (l.drop 2, false)).1 = Cd.zero ∧ (rdTail d b (l.drop 2, false)).2.1 = 12 → X) → (e0 ≤ l.length → rdTail d b (l.drop 2, false) = (let g := (if b = 1 then (0, ((l.drop e0, false) : RS)) else (getV ((l.drop 10).take 8), (l.drop e0, false)))
      if d = 1 then rdFin ⟨1, decide (b = 1), getV ((l.drop 2).take 8), g.1, 0, []⟩ g.2
      else
        let k := rdNum 8 g.2
        if d = 3 then rdFin ⟨3, decide (b = 1), getV ((l.drop 2).take 8), g.1, k.1, []⟩ k.2
        else
          let m := rdNum 2 k.2
          if 64 < m.1 then (Cd.zero, 13, m.2)
          else rdFin ⟨2, decide (b = 1), getV ((l.drop 2).take 8), g.1, k.1, (rdBytes m.1.toNat m.2).1⟩ (rdBytes m.1.toNat m.2).2) → X) → X := by
    intro X hshort hyes
    by_cases h10 : l.length < 10
    · have q := rdNum_short (k := 8) (l := l.drop 2) (by simp; omega)
      have : rdTail d b (l.drop 2, false) = rdTail d b (l.drop 2, true) := by unfold rdTail; rw [q, rdNum_offL]
      exact hshort (by rw [he0]; split <;> omega) (by rw [this]; exact rdTail_off d b _)
    · have q := rdNum_yes (k := 8) (l := l.drop 2) (by simp; omega)
      rw [List.drop_drop] at q
      by_cases hb1 : b = 1
      · have e10 : e0 = 10 := by rw [he0, if_pos hb1]
        refine hyes (by omega) ?_
        unfold rdTail
        rw [q, e10]
        simp only [hb1, if_true]
      · have e18 : e0 = 18 := by rw [he0, if_neg hb1]
        by_cases h18 : l.length < 18
        · have q2 := rdNum_short (k := 8) (l := l.drop (2 + 8)) (by simp; omega)
          refine hshort (by omega) ?_
          unfold rdTail
          rw [q]
          simp only [hb1, if_false, q2, rdNum_offL, rdBytes_off, rdFin_off, Int.toNat_zero, show ¬ (64 : Int) < 0 by decide]
          repeat' split
          all_goals exact ⟨rfl, rfl⟩
        · have q2 := rdNum_yes (k := 8) (l := l.drop (2 + 8)) (by simp; omega)
          rw [List.drop_drop] at q2
          refine hyes (by omega) ?_
          unfold rdTail
          rw [q, e18]
          simp only [hb1, if_false, q2]
  refine key _ (fun hs hz => ?_) (fun hs hq => ?_)
  · refine SameG.fault hz.1 hz.2 ?_ (by decide)
    by_cases hd1 : d = 1
    · rw [if_pos hd1, if_pos hs]
    · rw [if_neg hd1]
      by_cases hd3 : d = 3
      · rw [if_pos hd3, if_pos (by omega)]
      · rw [if_neg hd3, if_pos (by omega)]
  · rw [hq]
    clear hq key
    obtain ⟨g, hg⟩ : ∃ g, g = (if b = 1 then (0 : Int) else getV ((l.drop 10).take 8)) := ⟨_, rfl⟩
    have e : (if b = 1 then ((0 : Int), ((l.drop e0, false) : RS)) else (getV ((l.drop 10).take 8), (l.drop e0, false))) = (g, (l.drop e0, false)) := by rw [hg]; split <;> rfl
    simp only [e, ← hg]
    by_cases hd1 : d = 1
    · simp only [hd1, if_true, rdFin_on, if_neg (show ¬ l.length < e0 by omega)]
      exact ⟨rfl, rfl, fun _ => ⟨by simp; omega, by omega⟩⟩
    · simp only [hd1, if_false]
      by_cases h8 : l.length < e0 + 8
      · have q := rdNum_short (k := 8) (l := l.drop e0) (by simp; omega)
        simp only [q, rdNum_offL, rdBytes_off, rdFin_off, Int.toNat_zero, show ¬ (64 : Int) < 0 by decide, if_false, if_pos h8, if_pos (show l.length < e0 + 10 by omega)]
        by_cases hd3 : d = 3
        · simp only [hd3, if_true]; exact ⟨rfl, rfl, fun h => absurd h (by decide)⟩
        · simp only [hd3, if_false]; exact ⟨rfl, rfl, fun h => absurd h (by decide)⟩
      · have q := rdNum_yes (k := 8) (l := l.drop e0) (by simp; omega)
        rw [List.drop_drop] at q
        simp only [q, if_neg h8]
        by_cases hd3 : d = 3
        · simp only [hd3, if_true, rdFin_on]
          exact ⟨rfl, rfl, fun _ => ⟨by simp; omega, by show e0 + 8 ≤ l.length; omega⟩⟩
        · simp only [hd3, if_false]
          by_cases h10 : l.length < e0 + 10
          · have q2 := rdNum_short (k := 2) (l := l.drop (e0 + 8)) (by simp; omega)
            simp only [q2, rdBytes_off, rdFin_off, Int.toNat_zero, show ¬ (64 : Int) < 0 by decide, if_false, if_pos h10]
            exact ⟨rfl, rfl, fun h => absurd h (by decide)⟩
          · have q2 := rdNum_yes (k := 2) (l := l.drop (e0 + 8)) (by simp; omega)
            rw [List.drop_drop, getV2 _ (by simp; omega)] at q2
            obtain ⟨m, hm⟩ : ∃ m, m = leN ((l.drop (e0 + 8)).take 2) := ⟨_, rfl⟩
            rw [← hm] at q2
            simp only [q2, ← hm, if_neg h10]
            by_cases h64 : 64 < m
            · rw [if_pos (by omega), if_pos h64]
              exact ⟨rfl, rfl, fun h => absurd h (by decide)⟩
            · rw [if_neg (by omega), if_neg h64, Int.toNat_natCast]
              by_cases hm2 : l.length < e0 + 10 + m
              · have q3 := rdBytes_short (k := m) (l := l.drop (e0 + 8 + 2)) (by simp; omega)
                simp only [q3, rdFin_off, if_pos hm2]
                exact ⟨rfl, rfl, fun h => absurd h (by decide)⟩
              · have q3 := rdBytes_yes (k := m) (l := l.drop (e0 + 8 + 2)) (by simp; omega)
                simp only [q3, rdFin_on, if_neg hm2]
                exact ⟨rfl, rfl, fun _ => ⟨by simp; omega, by show e0 + 10 + m ≤ l.length; omega⟩⟩
theorem rd_getCd (l : List UInt8) : SameG (rdCmd (l, false)) (getCd l) l.length := by
  by_cases h0 : l.length = 0
  · obtain rfl : l = [] := List.eq_nil_of_length_eq_zero h0
    refine SameG.fault (e := 12) ?_ ?_ (by simp [getCd]) (by decide)
    all_goals simp [rdCmd, rdNum_short, rdFin_off]
  have n1 := num1 l (by omega)
  obtain ⟨d, hd⟩ : ∃ d, d = (l.getD 0 0).toNat := ⟨_, rfl⟩
  rw [← hd] at n1
  by_cases h3 : 3 < d
  · refine SameG.fault (e := 11) ?_ ?_ (by unfold getCd; rw [if_neg h0, ← hd, if_pos h3]) (by decide)
    all_goals
      unfold rdCmd
      rw [n1]
      simp only
      rw [if_pos (by omega)]
  by_cases hd0 : d = 0
  · have e : rdCmd (l, false) = rdFin ⟨0, false, 0, 0, 0, []⟩ (l.drop 1, false) := by
      unfold rdCmd
      rw [n1]
      simp only
      rw [if_neg (by omega), if_pos (by omega)]
    rw [e, rdFin_on]
    unfold getCd
    rw [if_neg h0, ← hd, if_neg h3, if_pos hd0]
    exact ⟨rfl, rfl, fun _ => ⟨by simp; omega, by simp; omega⟩⟩
  by_cases h1 : l.length = 1
  · have q := rdNum_short (k := 1) (l := l.drop 1) (by simp; omega)
    have e := rdCmd_tail (b := 0) n1 (by omega) q (by decide)
    have z := rdTail_off d 0 (l.drop 1)
    rw [e]
    exact SameG.fault z.1 z.2 (by unfold getCd; rw [if_neg h0, ← hd, if_neg h3, if_neg hd0, if_pos h1]) (by decide)
  have n2 := num1 (l.drop 1) (by simp; omega)
  rw [drop_getD, List.drop_drop] at n2
  obtain ⟨b, hb⟩ : ∃ b, b = (l.getD 1 0).toNat := ⟨_, rfl⟩
  rw [show 1 + 0 = 1 from rfl, ← hb] at n2
  by_cases hb1 : 1 < b
  · refine SameG.fault (e := 11) ?_ ?_ (by unfold getCd; rw [if_neg h0, ← hd, if_neg h3, if_neg hd0, if_neg h1, ← hb, if_pos hb1]) (by decide)
    all_goals
      unfold rdCmd
      rw [n1]
      simp only
      rw [if_neg (by omega), if_neg (by omega), n2]
      simp only
      rw [if_pos (by omega)]
  rw [rdCmd_tail n1 (by omega) n2 (by omega)]
  exact rdTail_get l d b (by omega) (by omega) hd.symm hb.symm (by omega)
end Go.Proofs.Ytlinafnhhnkjnaa
