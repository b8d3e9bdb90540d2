/- Crc1, Crc2, Crc3, Seal3, LeC, Le4, Seal4, Seal5, Seal6, Seal7 -/
import Derived.Test.YthabmlbmlncbmaaGreatQa1
import Derived.Test.YthabmlbmlncbmaaGreatQa2
import Derived.Laws.ResultCell
namespace Go.Proofs.YthabmlbmlncbmaaGreat
open Go.RowKit
theorem spread32 (t : Nat) (ht : t < 4294967296) : bits .xor .u32 ((t : Int) / 2) (bits .and .u32 3988292384 (-bits .and .u32 (t : Int) 1 % 4294967296)) = (bst t : Nat) := by
  have e1 : bits .and .u32 (t : Int) 1 = ((t % 2 : Nat) : Int) := by
    have h := u32_and_nat t 1 ht (by decide)
    rw [nat_mask1] at h
    exact h
  have e2 : (-((t % 2 : Nat) : Int)) % 4294967296 = (((4294967296 - t % 2) % 4294967296 : Nat) : Int) := by omega
  have e3 := u32_and_nat 3988292384 ((4294967296 - t % 2) % 4294967296) (by decide) (Nat.mod_lt _ (by decide))
  have e4 := u32_xor_nat (t / 2) (3988292384 &&& ((4294967296 - t % 2) % 4294967296)) (by omega) (Nat.lt_of_le_of_lt Nat.and_le_left (by decide))
  rw [bst_spread, <- e3] at e4
  rw [e1, e2]
  exact e4
theorem addByte_any (s : Nat) (c : UInt8) (w : World) (hs : s < 4294967296) :
    Calls Tryz.prog 98 #[.int .u32 s, .int .u8 (c.toNat : Int)] w fun e w' => e = .returned (.int .u32 (addB s c : Nat)) /\ w = w' := by
  go_enter Tryz.func98, Tryz.ntmps98
  go_wp2
  go_loop [0, 10] (fun v i => ∃ j t : Nat, j <= 8 /\ t < 4294967296 /\ bstN (8 - j) t = addB s c /\ i = .int .i64 j /\ v = .int .u32 t) (fun _ i => 8 - (intOf i).toNat)
  case atStart =>
    have hc := c.toNat_lt
    refine ⟨0, s ^^^ c.toNat, by omega, xor_lt hs (by omega), bstN_byte s c, rfl, ?_⟩
    rw [show ((c.toNat : Int) % 4294967296) = (c.toNat : Int) from by omega, u32_xor_nat _ _ hs (by omega)]
  case round =>
    obtain ⟨j, t, hj, ht, he, rfl, rfl⟩ := hrel
    have HE := hi_ he
    clear he
    by_cases hlt : j < 8
    · go_wp2
      go_round
      case rel =>
        refine ⟨j + 1, bst t, by omega, bst_lt ht, ?_, by go_num, by rw [spread32 t ht]⟩
        rw [<- HE.out, show 8 - j = (8 - (j + 1)) + 1 from by omega]
        rfl
      case measure => simp [intOf]; omega
    · go_wp2
      go_ret
      obtain rfl : j = 8 := by omega
      exact ⟨ret_int (by rw [<- HE.out]; rfl), rfl⟩
theorem Start_any (w : World) : Calls Tryz.prog 91 #[] w fun e w' => e = .returned (.int .u32 4294967295) /\ w = w' := by
  go_enter Tryz.func91, Tryz.ntmps91
  go_wp2
  go_ret
  exact ⟨rfl, rfl⟩
theorem End_any (s : Nat) (w : World) (hs : s < 4294967296) : Calls Tryz.prog 93 #[.int .u32 s] w fun e w' => e = .returned (.int .u32 (s ^^^ 4294967295 : Nat)) /\ w = w' := by
  go_enter Tryz.func93, Tryz.ntmps93
  go_wp2
  go_ret
  exact ⟨ret_int (u32_xor_nat s 4294967295 hs (by decide)), rfl⟩
theorem take_snoc' {α : Type} (l : List α) (j : Nat) (h : j < l.length) : l.take (j + 1) = l.take j ++ [l[j]] := by
  rw [List.take_succ_eq_append_getElem h]
theorem Add_any (s : Nat) (A : Option Addr) (n c : Nat) (l : List UInt8) (w : World) (hs : s < 4294967296) (hr : Rd w A n l) (hn : n <= 1099511627776) :
    Calls Tryz.prog 92 #[.int .u32 s, .slice A n c] w fun e w' => e = .returned (.int .u32 (addL s l : Nat)) /\ w = w' := by
  go_enter Tryz.func92, Tryz.ntmps92
  go_wp2
  go_loop [0, 9] (fun v i => ∃ j : Nat, j <= n /\ i = .int .i64 j /\ v = .int .u32 (addL s (l.take j) : Nat)) (fun _ i => n - (intOf i).toNat)
  case atStart => exact ⟨0, Nat.zero_le _, rfl, rfl⟩
  case round =>
    obtain ⟨j, hj, rfl, rfl⟩ := hrel
    by_cases hlt : j < n
    · obtain ⟨b, o, rfl, _, hcell⟩ := hr.at_ hlt
      have hsn := take_snoc' l j (by have := hr.1; omega)
      have HS := hi_ hsn
      clear hsn
      have ha := addL_lt (l.take j) hs
      go_wp2_with (go_at_call 98; refine (addByte_any _ _ _ ha).mono ?_; rintro e w' ⟨rfl, rfl⟩)
      go_round
      case rel => exact ⟨j + 1, hlt, by go_num, by rw [HS.out, addL_snoc]⟩
      case measure => simp [intOf]; omega
    · go_wp2
      go_ret
      exact ⟨ret_int (by rw [List.take_of_length_le (by have := hr.1; omega)]), rfl⟩
end Go.Proofs.YthabmlbmlncbmaaGreat
namespace Go.Proofs.YthabmlbmlncbmaaGreat
open Go.RowKit
theorem turned_any (r s : Nat) (w : World) (h : Rev r s) :
    Calls Tryz.prog 46 #[.int .u32 r] w fun e w' => e = .returned (.int .u32 s) /\ w = w' := by
  have hr := h.1
  have hs := h.2.1
  go_enter Tryz.func46, Tryz.ntmps46
  go_wp2
  go_loop [0, 3, 4] (fun n o i => ∃ j x y : Nat, j <= 32 /\ x = r / 2 ^ j /\ y = s / 2 ^ (32 - j) /\ i = .int .i64 j /\ n = .int .u32 x /\ o = .int .u32 y) (fun _ _ i => 32 - (intOf i).toNat)
  case atStart => exact ⟨0, r, 0, by omega, by simp, (Nat.div_eq_of_lt hs).symm, rfl, rfl, rfl⟩
  case round =>
    obtain ⟨j, x, y, hj, hx, hy, rfl, rfl, rfl⟩ := hrel
    have hx1 : x < 4294967296 := by rw [hx]; exact Nat.lt_of_le_of_lt (Nat.div_le_self _ _) hr
    by_cases hlt : j < 32
    · have hy1 : y <= 2147483647 := by
        rw [hy, show 32 - j = 31 - j + 1 from by omega, Nat.pow_succ, Nat.mul_comm, <- Nat.div_div_eq_div_mul]
        exact Nat.le_trans (Nat.div_le_self _ _) (by omega)
      have hst := h.step hlt
      have HX := hi_ hx
      have HY := hi_ hy
      have HS := hi_ hst
      have HR := hi_ h
      clear hx hy hst h
      go_wp2
      go_round
      case rel =>
        refine ⟨j + 1, x / 2, y * 2 + x % 2, by omega, ?_, ?_, by go_num, by go_num, by go_num⟩
        · rw [HX.out, Nat.pow_succ, Nat.div_div_eq_div_mul]
        · rw [HX.out, HY.out, HS.out]
      case measure => simp [intOf]; omega
    · have HX := hi_ hx
      have HY := hi_ hy
      have HR := hi_ h
      clear hx hy h
      go_wp2
      go_ret
      obtain rfl : j = 32 := by omega
      exact ⟨ret_int (by rw [HY.out]; simp), rfl⟩
theorem ROf_any (A : Option Addr) (n c : Nat) (l : List UInt8) (w : World) (hr : Rd w A n l) (hn : n <= 1099511627776) :
    Calls Tryz.prog 31 #[.slice A n c] w fun e w' => e = .returned (.int .u32 (sumL l : Nat)) /\ w = w' := by
  go_enter Tryz.func31, Tryz.ntmps31
  go_wp2
  go_loop [3, 4] (fun v i => ∃ j r s : Nat, j <= n /\ Rev r s /\ s = addL 4294967295 (l.take j) /\ i = .int .i64 j /\ v = .int .u32 r) (fun _ i => n - (intOf i).toNat)
  case atStart => exact ⟨0, 4294967295, 4294967295, Nat.zero_le _, Rev.all, rfl, rfl, rfl⟩
  case round =>
    obtain ⟨j, r, s, hj, hrev, hs, rfl, rfl⟩ := hrel
    have HS := hi_ hs
    have HR := hi_ hrev
    clear hs hrev
    by_cases hlt : j < n
    · obtain ⟨b, o, rfl, _, hcell⟩ := hr.at_ hlt
      have hsn := take_snoc' l j (by have := hr.1; omega)
      have HN := hi_ hsn
      clear hsn
      obtain ⟨ch, hch⟩ : ∃ ch, ch = l[j]'(by have := hr.1; omega) := ⟨_, rfl⟩
      rw [<- hch] at hcell
      have HC := hi_ hch
      clear hch
      have hcl := ch.toNat_lt
      go_wp2
      go_loop [3, 5, 6, 7] (fun v x i u => ∃ k r' t y : Nat, k <= 8 /\ Rev r' t /\ y = ch.toNat / 2 ^ k /\ runB (8 - k) t y = addB s ch /\ i = .int .i64 k /\ v = .int .u32 r' /\ x = .int .u32 y) (fun _ _ i _ => 8 - (intOf i).toNat)
      case atStart => exact ⟨0, r, s, ch.toNat, by omega, HR.out, by simp, rfl, rfl, rfl, by go_num⟩
      case round =>
        obtain ⟨k, r', t, y, hk, hrev, hy, hrun, rfl, rfl, rfl⟩ := hrel
        have hy1 : y < 256 := by rw [hy]; exact Nat.lt_of_le_of_lt (Nat.div_le_self _ _) hcl
        have hr1 := hrev.1
        have HT := hi_ hrev
        have HY := hi_ hy
        have HU := hi_ hrun
        clear hrev hy hrun
        by_cases hlt2 : k < 8
        · by_cases hu : r' / 2147483648 = y % 2
          · have e2 := HT.out.like hu
            have E2 := hi_ e2
            clear e2
            go_wp2
            go_round
            case rel =>
              refine ⟨k + 1, r' * 2 % 4294967296, bst (t ^^^ y % 2), y / 2, by omega, E2.out, by rw [HY.out, Nat.pow_succ, Nat.div_div_eq_div_mul], ?_, by go_num, by go_num, by go_num⟩
              rw [<- HU.out, show 8 - k = (8 - (k + 1)) + 1 from by omega]
              rfl
            case measure => simp [intOf]; omega
          · have e2 := HT.out.unlike hu
            have E2 := hi_ e2
            clear e2
            go_wp2
            go_round
            case rel =>
              refine ⟨k + 1, r' * 2 % 4294967296 ^^^ 79764919, bst (t ^^^ y % 2), y / 2, by omega, E2.out, by rw [HY.out, Nat.pow_succ, Nat.div_div_eq_div_mul], ?_, by go_num, ?_, by go_num⟩
              · rw [<- HU.out, show 8 - k = (8 - (k + 1)) + 1 from by omega]
                rfl
              · rw [<- u32_xor_nat _ 79764919 (Nat.mod_lt _ (by decide)) (by decide)]
                go_num
            case measure => simp [intOf]; omega
        · go_wp2
          go_round
          case rel =>
            obtain rfl : k = 8 := by omega
            refine ⟨j + 1, r', t, hlt, HT.out, ?_, by go_num, rfl⟩
            rw [HN.out, addL_snoc, <- HC.out, <- HS.out, <- HU.out]
            rfl
          case measure => simp [intOf]; omega
    · go_wp2_with (go_at_call 46; refine (turned_any _ _ _ HR.out).mono ?_; rintro e w' ⟨rfl, rfl⟩)
      go_ret
      have hs1 := HR.out.2.1
      refine ⟨ret_int ?_, rfl⟩
      have e1 : l.take j = l := List.take_of_length_le (by have := hr.1; omega)
      have e2 : sumL l = 4294967295 - s := by
        unfold sumL
        rw [<- turn_all hs1, HS.out, e1]
      rw [e2]
      omega
end Go.Proofs.YthabmlbmlncbmaaGreat
namespace Go.Proofs.YthabmlbmlncbmaaGreat
open Go.RowKit
def Rds (w : World) (A : Option Addr) (k : Nat) (ls : List (List UInt8)) : Prop :=
  ls.length = k /\ ∀ j (hj : j < ls.length), ∃ b o A' n c, A = some ⟨b, o, none⟩ /\ n <= 1099511627776 /\ w.cell? ⟨b, o + j, none⟩ = some (.slice A' n c) /\ Rd w A' n (ls[j])
theorem Of_any (A : Option Addr) (k c : Nat) (ls : List (List UInt8)) (w : World) (hr : Rds w A k ls) (hk : k <= 1099511627776) :
    Calls Tryz.prog 81 #[.slice A k c] w fun e w' => e = .returned (.int .u32 (sumL ls.flatten : Nat)) /\ w = w' := by
  go_enter Tryz.func81, Tryz.ntmps81
  go_wp2_with (go_at_call 91; refine (Start_any _).mono ?_; rintro e w' ⟨rfl, rfl⟩)
  go_loop [3, 9] (fun v i => ∃ j : Nat, j <= k /\ i = .int .i64 j /\ v = .int .u32 (addL 4294967295 (ls.take j).flatten : Nat)) (fun _ i => k - (intOf i).toNat)
  case atStart => exact ⟨0, Nat.zero_le _, rfl, rfl⟩
  case round =>
    obtain ⟨j, hj, rfl, rfl⟩ := hrel
    have ha := addL_lt (ls.take j).flatten (s := 4294967295) (by decide)
    by_cases hlt : j < k
    · obtain ⟨b, o, A', n, c', rfl, hn, hcell, hR⟩ := hr.2 j (by have := hr.1; omega)
      have hsn := take_snoc' ls j (by have := hr.1; omega)
      have HS := hi_ hsn
      clear hsn
      go_wp2_with (go_at_call 92; refine (Add_any _ _ _ _ _ _ ha hR hn).mono ?_; rintro e w' ⟨rfl, rfl⟩)
      go_round
      case rel => exact ⟨j + 1, hlt, by go_num, by rw [HS.out, List.flatten_append, addL_append]; simp⟩
      case measure => simp [intOf]; omega
    · go_wp2_with (go_at_call 93; refine (End_any _ _ ha).mono ?_; rintro e w' ⟨rfl, rfl⟩)
      go_ret
      exact ⟨ret_int (by rw [List.take_of_length_le (by have := hr.1; omega)]; rfl), rfl⟩
theorem Rds.one (w : World) (A : Option Addr) (n c : Nat) (l : List UInt8) (h : Rd w A n l) (hn : n <= 1099511627776) (T : TypeId) (fr : Nat × Nat) :
    Rds (w.alloc (.cells #[.slice A n c] T fr)) (some ⟨w.heap.size, 0, none⟩) 1 [l] :=
  ⟨rfl, fun j hj => by
    obtain rfl : j = 0 := by simp at hj; omega
    refine ⟨_, _, A, n, c, rfl, hn, ?_, h.alloc _⟩
    have h0 : (w.alloc (.cells #[.slice A n c] T fr)).heap[w.heap.size]? = some (.cells #[.slice A n c] T fr) := by
      show (w.heap.push _)[w.heap.size]? = _
      simp
    rw [cell_of_row _ w.heap.size (0 + 0) _ T fr h0]
    rfl⟩
theorem Rds.two (w : World) (A A' : Option Addr) (n n' c c' : Nat) (l l' : List UInt8) (h : Rd w A n l) (h' : Rd w A' n' l') (hn : n <= 1099511627776) (hn' : n' <= 1099511627776) (T : TypeId) (fr : Nat × Nat) :
    Rds (w.alloc (.cells #[.slice A n c, .slice A' n' c'] T fr)) (some ⟨w.heap.size, 0, none⟩) 2 [l, l'] := by
  have h0 : (w.alloc (.cells #[.slice A n c, .slice A' n' c'] T fr)).heap[w.heap.size]? = some (.cells #[.slice A n c, .slice A' n' c'] T fr) := by
    show (w.heap.push _)[w.heap.size]? = _
    simp
  refine ⟨rfl, fun j hj => ?_⟩
  obtain rfl | rfl : j = 0 \/ j = 1 := by simp at hj; omega
  · exact ⟨_, _, A, n, c, rfl, hn, by rw [cell_of_row _ w.heap.size (0 + 0) _ T fr h0]; rfl, h.alloc _⟩
  · exact ⟨_, _, A', n', c', rfl, hn', by rw [cell_of_row _ w.heap.size (0 + 1) _ T fr h0]; rfl, h'.alloc _⟩
theorem Of_one (A : Option Addr) (n c : Nat) (l : List UInt8) (w : World) (h : Rd w A n l) (hn : n <= 1099511627776) (g : Nat) (hg : g = w.heap.size) (T : TypeId) (fr : Nat × Nat) :
    Calls Tryz.prog 81 #[.slice (some ⟨g, 0, none⟩) 1 1] (w.alloc (.cells #[.slice A n c] T fr)) fun e w' => e = .returned (.int .u32 (sumL l : Nat)) /\ w.alloc (.cells #[.slice A n c] T fr) = w' := by
  subst hg
  exact (Of_any _ 1 1 [l] _ (Rds.one w A n c l h hn T fr) (by decide)).mono fun _ _ hh => by simpa using hh
theorem Of_two (A A' : Option Addr) (n n' c c' : Nat) (l l' : List UInt8) (w : World) (h : Rd w A n l) (h' : Rd w A' n' l') (hn : n <= 1099511627776) (hn' : n' <= 1099511627776) (g : Nat) (hg : g = w.heap.size) (T : TypeId) (fr : Nat × Nat) :
    Calls Tryz.prog 81 #[.slice (some ⟨g, 0, none⟩) 2 2] (w.alloc (.cells #[.slice A n c, .slice A' n' c'] T fr)) fun e w' => e = .returned (.int .u32 (sumL (l ++ l') : Nat)) /\ w.alloc (.cells #[.slice A n c, .slice A' n' c'] T fr) = w' := by
  subst hg
  exact (Of_any _ 2 2 [l, l'] _ (Rds.two w A A' n n' c c' l l' h h' hn hn' T fr) (by decide)).mono fun _ _ hh => by simpa using hh
end Go.Proofs.YthabmlbmlncbmaaGreat
namespace Go.Proofs.YthabmlbmlncbmaaGreat
set_option maxRecDepth 20000
open Go.RowKit
theorem zsec (w : World) : (zeroValue 114).run Tryz.prog w = .ok (.agg (cells (zeros 512)).toArray) w := (zero_of_info (P := Tryz.prog) (t := 114) (n := 512) (by kernel_rfl)).1 w
def SealAt (w : World) (g : Nat) (e n k : Int) (A : Option Addr) (m c : Nat) : Prop := w.heap[g]? = some (.cells #[.int .i64 e, .int .i64 n, .int .i64 k, .slice A m c] 70 (0, 0))
section
variable {w w' : World} {g : Nat} {e n k : Int} {A : Option Addr} {m c : Nat}
theorem SealAt.h0 (h : SealAt w g e n k A m c) : w.cell? ⟨g, 0, none⟩ = some (.int .i64 e) := by rw [cell_of_row _ _ 0 _ _ _ h]; rfl
theorem SealAt.h1 (h : SealAt w g e n k A m c) : w.cell? ⟨g, 1, none⟩ = some (.int .i64 n) := by rw [cell_of_row _ _ 1 _ _ _ h]; rfl
theorem SealAt.h2 (h : SealAt w g e n k A m c) : w.cell? ⟨g, 2, none⟩ = some (.int .i64 k) := by rw [cell_of_row _ _ 2 _ _ _ h]; rfl
theorem SealAt.h3 (h : SealAt w g e n k A m c) : w.cell? ⟨g, 3, none⟩ = some (.slice A m c) := by rw [cell_of_row _ _ 3 _ _ _ h]; rfl
theorem SealAt.fz (h : SealAt w g e n k A m c) (j : Nat) : w.frozen? ⟨g, j, none⟩ = false := frozen_of_row w g j _ _ h
theorem SealAt.lt (h : SealAt w g e n k A m c) : g < w.heap.size := (Array.getElem?_eq_some_iff.1 h).1
theorem SealAt.below {B : Nat} (h : SealAt w g e n k A m c) (hb : Below B w w') (hB : g < B) : SealAt w' g e n k A m c := (hb.block g hB).trans h
theorem SealAt.alloc (h : SealAt w g e n k A m c) (o : Obj) : SealAt (w.alloc o) g e n k A m c := h.below ((Below.refl w.heap.size w).alloc (Nat.le_refl _) o) h.lt
theorem SealAt.drew (h : SealAt w g e n k A m c) : SealAt w.drew g e n k A m c := h
theorem SealAt.new (w : World) : SealAt (w.alloc (.cells #[.int .i64 e, .int .i64 n, .int .i64 k, .slice A m c] 70)) w.heap.size e n k A m c := heap_alloc_last w _
theorem SealAt.load (h : SealAt w g e n k A m c) : (Instr.loadAt 70 (.pointer (some ⟨g, 0, none⟩))).run Tryz.prog w = .ok (.agg #[.int .i64 e, .int .i64 n, .int .i64 k, .slice A m c]) w := by
  refine run_loadAt_mid w g 0 70 [.int .i64 e, .int .i64 n, .int .i64 k, .slice A m c] _ (fun j v hj => ?_) Tryz.underlying70 rfl (by kernel_rfl)
  rw [Nat.zero_add, cell_of_row _ g j _ _ _ h, <- hj]
  simp
theorem SealAt.store {e' n' k' : Int} {A' : Option Addr} {m' c' : Nat} (h : SealAt w g e n k A m c) : ∃ w', (Instr.storeAt 70 (.pointer (some ⟨g, 0, none⟩)) (.agg #[.int .i64 e', .int .i64 n', .int .i64 k', .slice A' m' c'])).run Tryz.prog w = .ok () w' /\ SealAt w' g e' n' k' A' m' c' /\ Below g w w' /\ ∀ k, k ≠ g -> w'.heap[k]? = w.heap[k]? := by
  refine ⟨w.setRow g #[.int .i64 e', .int .i64 n', .int .i64 k', .slice A' m' c'], ?_, setRow_heap w g _ _ _ _ h, below_setRow (Below.refl g w) (Nat.le_refl g) _, fun k hk => setRow_other w g k _ (by omega)⟩
  simp only [Instr.storeAt, Instr.sureAddr, Sem.run_bind, Sem.run_pure, Result.andThen_ok]
  exact run_storeVar_row w g 70 70 _ _ h (by kernel_rfl) rfl (by simp [Value.oneCell'])
theorem wpList_ldseal {ops : Array Oper} {rest : List Oper} {o : Oper} {a : Act} {Q : Exit -> Act -> World -> Prop} (hgd : Region.wanted o (yielded ops a.tmps) = true) (x : Operand) (ho : o.op = .load 70 x)
    (hx : a.eval x = .pointer (some ⟨g, 0, none⟩)) (h : SealAt w g e n k A m c) (kk : wpList Tryz.prog ops Q rest (a.put o.dst (.agg #[.int .i64 e, .int .i64 n, .int .i64 k, .slice A m c])) w) : wpList Tryz.prog ops Q (o :: rest) a w :=
  wpList_w hgd fun _ hK => by
    unfold Oper.wp execOp
    simp only [ho, hx, h.load, Sem.run_bind, Sem.run_pure, Result.andThen_ok]
    exact hK _ _ kk
theorem wpList_stseal {ops : Array Oper} {rest : List Oper} {o : Oper} {a : Act} {Q : Exit -> Act -> World -> Prop} (hgd : Region.wanted o (yielded ops a.tmps) = true) (x y : Operand) (ho : o.op = .store 70 x y)
    {e' n' k' : Int} {A' : Option Addr} {m' c' : Nat} (hx : a.eval x = .pointer (some ⟨g, 0, none⟩)) (hy : a.eval y = .agg #[.int .i64 e', .int .i64 n', .int .i64 k', .slice A' m' c']) (h : SealAt w g e n k A m c)
    (kk : ∀ w', SealAt w' g e' n' k' A' m' c' -> Below g w w' -> (∀ k, k ≠ g -> w'.heap[k]? = w.heap[k]?) -> wpList Tryz.prog ops Q rest (a.put o.dst undef) w') : wpList Tryz.prog ops Q (o :: rest) a w :=
  wpList_w hgd fun _ hK => by
    obtain ⟨w', hrun, h1, h2, h3⟩ := h.store (e' := e') (n' := n') (k' := k') (A' := A') (m' := m') (c' := c')
    unfold Oper.wp execOp
    simp only [ho, hx, hy, hrun, Sem.run_bind, Sem.run_pure, Result.andThen_ok]
    exact hK _ _ (kk w' h1 h2 h3)
theorem res_seal {fn : Func} {p : Tmp} (h : fn.results = #[.cell p 70]) {tmps : Array Value} (hp : tmps.getD p undef = .pointer (some ⟨g, 0, none⟩)) (hs : SealAt w g e n k A m c) :
    (results fn tmps).run Tryz.prog w = .ok (.agg #[.int .i64 e, .int .i64 n, .int .i64 k, .slice A m c]) w := by
  have h1 := hs.load
  simp only [Instr.loadAt, Instr.sureAddr, Sem.run_bind, Sem.run_pure, Result.andThen_ok] at h1
  rw [Array.getD_eq_getD_getElem?] at hp
  simp only [results, h]
  simp [hp, asAddr, h1]
theorem res_seal_tmp {fn : Func} {p u : Tmp} (h : fn.results = #[.cell p 70, .tmp u]) {tmps : Array Value} (hp : tmps.getD p undef = .pointer (some ⟨g, 0, none⟩)) (hs : SealAt w g e n k A m c) :
    (results fn tmps).run Tryz.prog w = .ok (.tuple #[.agg #[.int .i64 e, .int .i64 n, .int .i64 k, .slice A m c], tmps.getD u undef]) w := by
  have h1 := hs.load
  simp only [Instr.loadAt, Instr.sureAddr, Sem.run_bind, Sem.run_pure, Result.andThen_ok] at h1
  rw [results_cell_tmp h]
  rw [Array.getD_eq_getD_getElem?] at hp
  simp [hp, asAddr, h1, Result.andThen]
end
theorem Sec.new (w : World) (l : List UInt8) (hl : l.length = 512) : Sec (w.alloc (.cells (cells l).toArray 114)) w.heap.size l := ⟨hl, heap_alloc_last w _⟩
theorem Sec.load {w : World} {g : Nat} {l : List UInt8} (h : Sec w g l) : (Instr.loadAt 114 (.pointer (some ⟨g, 0, none⟩))).run Tryz.prog w = .ok (.agg (cells l).toArray) w := by
  refine run_loadAt_mid w g 0 114 (cells l) _ (fun j v hj => ?_) Tryz.underlying114 rfl ?_
  · have hj' : j < l.length := by have := (List.getElem?_eq_some_iff.1 hj).1; simpa using this
    rw [Nat.zero_add, h.cell j hj', <- hj, cells_get hj']
  · rw [cells_length, h.1]; kernel_rfl
theorem Sec.store {w : World} {g : Nat} {l l' : List UInt8} (h : Sec w g l) (hl : l'.length = 512) : ∃ w', (Instr.storeAt 114 (.pointer (some ⟨g, 0, none⟩)) (.agg (cells l').toArray)).run Tryz.prog w = .ok () w' /\ Sec w' g l' /\ Below g w w' := by
  refine ⟨w.setRow g (cells l').toArray, ?_, ⟨hl, setRow_heap w g _ _ _ _ h.2⟩, below_setRow (Below.refl g w) (Nat.le_refl g) _⟩
  simp only [Instr.storeAt, Instr.sureAddr, Sem.run_bind, Sem.run_pure, Result.andThen_ok]
  exact run_storeVar_row w g 114 114 _ _ h.2 (by rw [List.size_toArray, cells_length, hl]; kernel_rfl) (by simp [h.1, hl]) (Array.all_eq_true_iff_forall_mem.2 fun v hv => cells_one l' v (by simpa using hv))
theorem wpList_ldsec {ops : Array Oper} {rest : List Oper} {o : Oper} {a : Act} {w : World} {Q : Exit -> Act -> World -> Prop} (hgd : o.guard = none) (x : Operand) (ho : o.op = .load 114 x)
    (g : Nat) (l : List UInt8) (hx : a.eval x = .pointer (some ⟨g, 0, none⟩)) (h : Sec w g l) (k : wpList Tryz.prog ops Q rest (a.put o.dst (.agg (cells l).toArray)) w) : wpList Tryz.prog ops Q (o :: rest) a w :=
  wpList_plain hgd fun _ hK => by
    unfold Oper.wp execOp
    simp only [ho, hx, h.load, Sem.run_bind, Sem.run_pure, Result.andThen_ok]
    exact hK _ _ k
theorem wpList_stsec {ops : Array Oper} {rest : List Oper} {o : Oper} {a : Act} {w : World} {Q : Exit -> Act -> World -> Prop} (hgd : o.guard = none) (x y : Operand) (ho : o.op = .store 114 x y)
    (g : Nat) (l l' : List UInt8) (hx : a.eval x = .pointer (some ⟨g, 0, none⟩)) (hy : a.eval y = .agg (cells l').toArray) (h : Sec w g l) (hl : l'.length = 512)
    (k : ∀ w', Sec w' g l' -> Below g w w' -> wpList Tryz.prog ops Q rest (a.put o.dst undef) w') : wpList Tryz.prog ops Q (o :: rest) a w :=
  wpList_plain hgd fun _ hK => by
    obtain ⟨w', hrun, h1, h2⟩ := h.store hl
    unfold Oper.wp execOp
    simp only [ho, hx, hy, hrun, Sem.run_bind, Sem.run_pure, Result.andThen_ok]
    exact hK _ _ (k w' h1 h2)
theorem res_sec {fn : Func} {p : Tmp} (h : fn.results = #[.cell p 114]) {tmps : Array Value} {w : World} {g : Nat} {l : List UInt8} (hp : tmps.getD p undef = .pointer (some ⟨g, 0, none⟩)) (hs : Sec w g l) :
    (results fn tmps).run Tryz.prog w = .ok (.agg (cells l).toArray) w := by
  have h1 := hs.load
  simp only [Instr.loadAt, Instr.sureAddr, Sem.run_bind, Sem.run_pure, Result.andThen_ok] at h1
  rw [Array.getD_eq_getD_getElem?] at hp
  simp only [results, h]
  simp [hp, asAddr, h1]
section
variable (g : Nat) (l : List UInt8) (x : Nat) (n : Int) (w : World)
theorem put8 (h : Sec w g l) (hx : x + 8 <= 512) :
    Calls Tryz.prog 88 #[.pointer (some ⟨g, 0, none⟩), .int .i64 x, .int .i64 8, .int .i64 n] w fun e w' => e = .returned (.tuple #[]) /\ Sec w' g (putL l x (numB 8 n)) /\ Below g w w' := sput_any g l x 8 n w h hx
theorem put4 (h : Sec w g l) (hx : x + 4 <= 512) :
    Calls Tryz.prog 88 #[.pointer (some ⟨g, 0, none⟩), .int .i64 x, .int .i64 4, .int .i64 n] w fun e w' => e = .returned (.tuple #[]) /\ Sec w' g (putL l x (numB 4 n)) /\ Below g w w' := sput_any g l x 4 n w h hx
theorem put2 (h : Sec w g l) (hx : x + 2 <= 512) :
    Calls Tryz.prog 88 #[.pointer (some ⟨g, 0, none⟩), .int .i64 x, .int .i64 2, .int .i64 n] w fun e w' => e = .returned (.tuple #[]) /\ Sec w' g (putL l x (numB 2 n)) /\ Below g w w' := sput_any g l x 2 n w h hx
theorem put1 (h : Sec w g l) (hx : x + 1 <= 512) :
    Calls Tryz.prog 88 #[.pointer (some ⟨g, 0, none⟩), .int .i64 x, .int .i64 1, .int .i64 n] w fun e w' => e = .returned (.tuple #[]) /\ Sec w' g (putL l x (numB 1 n)) /\ Below g w w' := sput_any g l x 1 n w h hx
end
theorem wrapEq (x : Int) : IntKind.i64.wrap x = wrap64 x := by simp only [IntKind.wrap_i64, wrap64]
theorem wrap_u32 (s : Nat) (h : s < 4294967296) : IntKind.i64.wrap (s : Int) = s := by
  rw [wrapEq]
  exact IntWalk.wrap64_in _ ⟨by omega, by omega⟩
theorem snearest_nr (n hi : Int) (w : World) :
    Calls Tryz.prog 87 #[.int .i64 n, .int .i64 0, .int .i64 hi] w fun e w' => e = .returned (.int .i64 (nr n hi)) /\ w = w' := snearest_any n 0 hi w
theorem sealed_any (e n k : Int) (A : Option Addr) (m c : Nat) (body : List UInt8) (w : World) (hr : Rd w A m body) :
    Calls Tryz.prog 74 #[.agg #[.int .i64 e, .int .i64 n, .int .i64 k, .slice A m c]] w fun ed w' => ed = .returned (.agg (cells (sectorOf e n k body)).toArray) /\ Below w.heap.size w w' := by
  have hz := zsec
  obtain ⟨g, hg⟩ : ∃ g, g = w.heap.size := ⟨_, rfl⟩
  obtain ⟨w1, hw1⟩ : ∃ w1, w1 = ((w.alloc (.cells #[.int .i64 e, .int .i64 n, .int .i64 k, .slice A m c] 70)).alloc (.cells (cells (zeros 512)).toArray 114)).alloc (.cells (cells (zeros 512)).toArray 114) := ⟨_, rfl⟩
  have hB1 : Below g w w1 := by
    rw [hw1, hg]
    exact (((Below.refl _ _).alloc (Nat.le_refl _) _).alloc (by simp) _).alloc (by simp; omega) _
  have hS1 : SealAt w1 g e n k A m c := by rw [hw1, hg]; exact ((SealAt.new w).alloc _).alloc _
  have hR1 : Sec w1 (g + 1) (zeros 512) := by
    rw [hw1, hg]
    have := Sec.new (w.alloc (.cells #[.int .i64 e, .int .i64 n, .int .i64 k, .slice A m c] 70)) (zeros 512) (zeros_length _)
    rw [World.size_alloc] at this
    exact this.alloc _
  have hC1 : Sec w1 (g + 1 + 1) (zeros 512) := by
    rw [hw1, hg]
    have := Sec.new ((w.alloc (.cells #[.int .i64 e, .int .i64 n, .int .i64 k, .slice A m c] 70)).alloc (.cells (cells (zeros 512)).toArray 114)) (zeros 512) (zeros_length _)
    rw [World.size_alloc, World.size_alloc] at this
    exact this
  have hr1 : Rd w1 A m body := hr.below (Nat.le_of_eq hg.symm) hB1
  have hgA : 0 < m -> ∃ b o, A = some ⟨b, o, none⟩ /\ b < g + 1 + 1 := fun h0 => by
    obtain ⟨b, o, e1, e2, _⟩ := hr.2 h0
    exact ⟨b, o, e1, by omega⟩
  go_enter Tryz.func74, Tryz.ntmps74
  go_wp2
  rw [<- hw1, <- hg]
  clear hw1 hz
  have HG := hi_ hg
  clear hg
  have k0 := hS1.h0
  have k1 := hS1.h1
  have k2 := hS1.h2
  have k3 := hS1.h3
  clear hS1
  go_region_held3 (fun w' => w'.cell? ⟨g, 0, none⟩ = some (.int .i64 e) /\ w'.cell? ⟨g, 1, none⟩ = some (.int .i64 n)) (go_keep)
    (first | (go_at_call 87; refine (snearest_nr _ _ _).mono ?_; rintro e w' ⟨rfl, rfl⟩))
  clear k0 k1
  have hB0 : Below (g + 1 + 1) w1 w1.drew := (Below.refl _ _).drew
  go_wp2_with fail
  refine (put8 (g + 1 + 1) _ 0 _ _ hC1.drew (by omega)).mono ?_
  rintro ed w2 ⟨rfl, hC2, hb2⟩
  replace hb2 := hB0.trans hb2
  clear hC1 hB0
  go_wp2_with fail
  refine (put8 (g + 1 + 1) _ 8 _ _ hC2 (by omega)).mono ?_
  rintro ed w3 ⟨rfl, hC3, hb3⟩
  replace hb3 := hb2.trans hb3
  clear hC2 hb2
  have k2' := (hb3.cell (p := ⟨g, 2, none⟩) (by show g < g + 1 + 1; omega)).trans k2
  clear k2
  go_wp2_with (go_at_call 87; refine (snearest_nr _ _ _).mono ?_; rintro e w' ⟨rfl, rfl⟩)
  refine (put1 (g + 1 + 1) _ 20 _ _ hC3 (by omega)).mono ?_
  rintro ed w4 ⟨rfl, hC4, hb4⟩
  replace hb4 := hb3.trans hb4
  clear hC3 hb3 k2'
  have k3' := (hb4.cell (p := ⟨g, 3, none⟩) (by show g < g + 1 + 1; omega)).trans k3
  have hr4 := hr1.below' hb4 hgA
  clear k3 hr1
  go_wp2
  go_region_held3 (fun w' => w'.cell? ⟨g, 3, none⟩ = some (.slice A m c)) (first | exact k6 | exact k5 | exact k3') (first
    | (refine step_cpy_sec rfl (.tmp 20) (.tmp 22) rfl (g + 1 + 1) 24 472 488 _ rfl (by omega) hC4.drew A m c body rfl hr4.drew ?_; intro w5 hC5 hb5; have k5 := (hb5.cell (p := ⟨g, 3, none⟩) (by show g < g + 1 + 1; omega)).trans k3')
    | (go_at_call 88; refine (put2 (g + 1 + 1) _ 22 _ _ hC5 (by omega)).mono ?_; rintro ed w6 ⟨rfl, hC6, hb6⟩; have k6 := (hb6.cell (p := ⟨g, 3, none⟩) (by show g < g + 1 + 1; omega)).trans k5))
  replace hb6 := ((hb4.trans (Below.refl _ _).drew).trans hb5).trans hb6
  clear hC4 hC5 hb4 hb5 hr4 k3' k5 k6
  go_wp2_with fail
  refine (put8 (g + 1 + 1) _ 496 _ _ hC6 (by omega)).mono ?_
  rintro ed w7 ⟨rfl, hC7, hb7⟩
  replace hb7 := hb6.trans hb7
  clear hC6 hb6
  go_wp2_with fail
  refine (put8 (g + 1 + 1) _ 504 _ _ hC7 (by omega)).mono ?_
  rintro ed w8 ⟨rfl, hC8, hb8⟩
  replace hb8 := hb7.trans hb8
  clear hC7 hb7
  have hbl : (min 472 body.length : Nat) = (body.take 472).length := by simp
  rw [hbl, filled _ _ _ _ (b_le body)] at hC8
  clear hbl
  have q1 := hC8.drew.rd (p := 0) (m := 16) (by omega)
  have q2 := hC8.drew.rd (p := 20) (m := 492) (by omega)
  rw [List.drop_zero, unsummed_front] at q1
  rw [unsummed_rest, List.take_of_length_le (by rw [restL_length]; omega)] at q2
  go_wp2
  have hs := sumL_lt (frontL (nr e 281474976710656) (nr n 281474976710656) ++ restL (nr e 281474976710656) (nr n 281474976710656) (nr k 255) (body.take 472))
  obtain ⟨sm, hsm⟩ : ∃ sm, sm = sumL (frontL (nr e 281474976710656) (nr n 281474976710656) ++ restL (nr e 281474976710656) (nr n 281474976710656) (nr k 255) (body.take 472)) := ⟨_, rfl⟩
  have c2 := Of_two _ _ 16 492 512 492 _ _ _ q1 q2 (by omega) (by omega) _ rfl 42 (0, 0)
  rw [<- hsm] at hs c2
  have C2 := hi_ c2
  have HSM := hi_ hsm
  clear c2 hsm
  go_region_held3 (fun _ => True) (trivial) (first
    | (go_at_call 81; refine C2.out.mono ?_; rintro ed w9 ⟨rfl, rfl⟩)
    | (go_at_call 88; refine (put4 (g + 1 + 1) _ 16 _ _ (hC8.drew.alloc _) (by omega)).mono ?_; rintro ed w9 ⟨rfl, hC9, hb9⟩))
  rw [wrap_u32 sm hs, HSM.out, summed] at hC9
  replace hb9 := (((hb8.trans (Below.refl _ _).drew).alloc (Nat.le_of_lt hC8.lt) _)).trans hb9
  clear C2 HSM hs q1 q2 hC8 hb8
  have hR9 := hR1.below hb9 (by omega)
  go_wp2_with (first
    | (refine wpList_ldsec rfl (.tmp 3) rfl (g + 1 + 1) _ rfl hC9 ?_)
    | (refine wpList_stsec rfl (.tmp 2) (.tmp 35) rfl (g + 1) _ _ rfl rfl hR9 hC9.1 ?_; intro w10 hR10 hb10)
    | (refine bodyPost_ret (res_sec rfl rfl hR10) rfl ?_; exact ⟨rfl, HG.out ▸ hB1.trans ((hb9.mono (by omega)).trans (hb10.mono (by omega)))⟩))
end Go.Proofs.YthabmlbmlncbmaaGreat
namespace Go.Proofs.YthabmlbmlncbmaaGreat
open Go.RowKit
theorem RCut_any (A : Option Addr) (n c : Nat) (l : List UInt8) (k : Int) (w : World) (hr : Rd w A n l) (hk : k <= 65535) :
    Calls Tryz.prog 49 #[.slice A n c, .int .i64 k] w fun e w' => ∃ v, e = .returned v /\ w'.ownsRow w.heap.size 5 1 v k.toNat (cells (cut k.toNat l)) /\ Below w.heap.size w w' := by
  go_enter Tryz.func49, Tryz.ntmps49
  go_wp2
  go_loopw [5, 6] (fun v i wr => ∃ j : Nat, j <= k.toNat /\ i = .int .i64 j /\ wr.ownsRow w.heap.size 5 1 v j (cells (cut j l)) /\ Below w.heap.size w wr) (fun _ i _ => k.toNat - (intOf i).toNat)
  case atStart => exact ⟨0, Nat.zero_le _, rfl, World.ownsRow_nil _ _ _ _, Below.refl _ _⟩
  case round =>
    obtain ⟨j, hj, rfl, hown1, hb1⟩ := hrel
    have hs := hb1.size
    by_cases hlt : j < k.toNat
    · have hR : Rd (wr.alloc (.cells #[.int .u8 (l.getD j 0).toNat] 5)) (some ⟨wr.heap.size, 0, none⟩) 1 [l.getD j 0] := Rd.new wr 5 [l.getD j 0] (0, 0)
      by_cases hjn : j < n
      · obtain ⟨b, o, rfl, _, hc⟩ := (hr.below (Nat.le_refl _) hb1).at_ hjn
        have e1 : l[j]'(by have := hr.1; omega) = l.getD j 0 := by simp [List.getD, List.getElem?_eq_getElem (show j < l.length by have := hr.1; omega)]
        rw [e1] at hc
        obtain ⟨z, hz⟩ : ∃ z, z = l.getD j 0 := ⟨_, rfl⟩
        rw [<- hz] at hR hc
        have HZ := hi_ hz
        clear hz e1
        go_wp2_with (at_builtin; refine wpList_app _ bytesT rfl (.tmp 23) (.tmp 25) rfl w.heap.size _ j _ rfl (hown1.alloc _) _ 1 1 [z] rfl hR (by omega) (by simp; omega) ?_; intro v2 w2 hown2 hb2)
        go_roundw
        case rel => exact ⟨j + 1, hlt, by go_num, by rw [cut_succ, <- HZ.out, cells_append]; exact hown2, (hb1.alloc (by omega) _).trans hb2⟩
        case measure => simp [intOf]; omega
      · have e1 : l.getD j 0 = 0 := by simp [List.getD, List.getElem?_eq_none (show l.length <= j by have := hr.1; omega)]
        rw [e1] at hR
        have HZ := hi_ e1
        clear e1
        go_wp2_with (at_builtin; refine wpList_app _ bytesT rfl (.tmp 23) (.tmp 25) rfl w.heap.size _ j _ rfl (hown1.alloc _) _ 1 1 [0] rfl hR (by omega) (by simp; omega) ?_; intro v2 w2 hown2 hb2)
        go_roundw
        case rel => exact ⟨j + 1, hlt, by go_num, by rw [cut_succ, HZ.out, cells_append]; exact hown2, (hb1.alloc (by omega) _).trans hb2⟩
        case measure => simp [intOf]; omega
    · go_wp2
      go_ret
      have : j = k.toNat := by omega
      subst this
      exact ⟨_, rfl, hown1, hb1⟩
end Go.Proofs.YthabmlbmlncbmaaGreat
namespace Go.Proofs.YthabmlbmlncbmaaGreat
open Go.RowKit
theorem Cut_full (A : Option Addr) (n c : Nat) (l : List UInt8) (k : Int) (w : World) (hr : Rd w A n l) (hk : k <= 65535) :
    Calls Tryz.prog 86 #[.slice A n c, .int .i64 k] w fun e w' => e = .returned (.slice (some ⟨w.heap.size, 0, none⟩) k.toNat k.toNat) /\ w'.ownsRow w.heap.size 5 1 (.slice (some ⟨w.heap.size, 0, none⟩) k.toNat k.toNat) k.toNat (cells (cut k.toNat l)) /\ Below w.heap.size w w' := by
  have e1 : min (max k 0) 65535 = ((k.toNat : Nat) : Int) := by omega
  have E1 := hi_ e1
  clear e1
  go_enter Tryz.func86, Tryz.ntmps86
  go_wp2_with (first
    | (go_at_call 76; refine (nearest_any _ _ _ _).mono ?_; rintro e w' ⟨rfl, rfl⟩; rw [E1.out])
    | (at_make; refine wpList_mkn _ bytesT rfl (.tmp 7) (.tmp 7) rfl w.heap.size .i64 .i64 _ _ k.toNat rfl rfl (by omega) (by omega) (by omega) (by unfold maxLen; omega) (by simp) ?_; intro w1 hown1 hb1)
    | (with_reducible refine wpList_cpy bytesT rfl (.tmp 9) (.tmp 10) rfl w.heap.size w.heap.size k.toNat _ rfl hown1 A n c l rfl (hr.below (Nat.le_refl _) hb1) ?_; intro w2 hown2 hb2))
  go_ret
  refine ⟨rfl, ?_, hb1.trans hb2⟩
  have e2 : splice (madeCells (Value.int .u8 0).cells (k.toNat * 1)).toList 0 (cells (l.take k.toNat)) = cells (cut k.toNat l) := cut_made _ _
  rw [<- e2]
  exact hown2
theorem Cut_any (A : Option Addr) (n c : Nat) (l : List UInt8) (k : Int) (w : World) (hr : Rd w A n l) (hk : k <= 65535) :
    Calls Tryz.prog 86 #[.slice A n c, .int .i64 k] w fun e w' => ∃ v, e = .returned v /\ w'.ownsRow w.heap.size 5 1 v k.toNat (cells (cut k.toNat l)) /\ Below w.heap.size w w' :=
  (Cut_full A n c l k w hr hk).mono fun _ _ ⟨he, ho, hb⟩ => ⟨_, he, ho, hb⟩
end Go.Proofs.YthabmlbmlncbmaaGreat
namespace Go.Proofs.YthabmlbmlncbmaaGreat
set_option maxRecDepth 20000
open Go.RowKit
theorem Get_at (g : Nat) (l : List UInt8) (x : Nat) (width : Int) (k : Nat) (hk : wd width = k) (w : World) (h : Sec w g l) (hx : x + k <= 512) :
    Calls Tryz.prog 85 #[.pointer (some ⟨g, 0, none⟩), .int .i64 x, .int .i64 width] w fun e w' => e = .returned (.int .i64 (getV ((l.drop x).take k))) /\ w = w' := by
  subst hk
  exact num_any g l x width w h hx
theorem SealAt.set4 {w : World} {g : Nat} {e n k e' n' k' : Int} {A A' : Option Addr} {m c m' c' : Nat} (h : SealAt w g e n k A m c) :
    SealAt ((((w.setCell ⟨g, 0, none⟩ (.int .i64 e')).setCell ⟨g, 1, none⟩ (.int .i64 n')).setCell ⟨g, 2, none⟩ (.int .i64 k')).setCell ⟨g, 3, none⟩ (.slice A' m' c')) g e' n' k' A' m' c' /\
    Below g w ((((w.setCell ⟨g, 0, none⟩ (.int .i64 e')).setCell ⟨g, 1, none⟩ (.int .i64 n')).setCell ⟨g, 2, none⟩ (.int .i64 k')).setCell ⟨g, 3, none⟩ (.slice A' m' c')) :=
  ⟨heap_setCell_at (heap_setCell_at (heap_setCell_at (heap_setCell_at h _) _) _) _,
    ((((Below.refl g w).setCell (Nat.le_refl g) _).setCell (Nat.le_refl g) _).setCell (Nat.le_refl g) _).setCell (Nat.le_refl g) _⟩
theorem set4_else {w : World} {g : Nat} {e' n' k' : Int} {A' : Option Addr} {m' c' k : Nat} (h : k ≠ g) :
    ((((w.setCell ⟨g, 0, none⟩ (.int .i64 e')).setCell ⟨g, 1, none⟩ (.int .i64 n')).setCell ⟨g, 2, none⟩ (.int .i64 k')).setCell ⟨g, 3, none⟩ (.slice A' m' c')).heap[k]? = w.heap[k]? := by
  rw [Below.heap_setCell _ _ _ _ h, Below.heap_setCell _ _ _ _ h, Below.heap_setCell _ _ _ _ h, Below.heap_setCell _ _ _ _ h]
theorem if_min (x : Int) : (if 472 < x then (472 : Int) else x) = min x 472 := by split <;> omega
section
variable (g : Nat) (l : List UInt8) (w : World) (h : Sec w g l)
include h
theorem numE : Calls Tryz.prog 85 #[.pointer (some ⟨g, 0, none⟩), .int .i64 0, .int .i64 8] w fun e w' => e = .returned (.int .i64 (cE l)) /\ w = w' := Get_at g l 0 8 8 (by decide) w h (by omega)
theorem numN : Calls Tryz.prog 85 #[.pointer (some ⟨g, 0, none⟩), .int .i64 8, .int .i64 8] w fun e w' => e = .returned (.int .i64 (cN l)) /\ w = w' := Get_at g l 8 8 8 (by decide) w h (by omega)
theorem numK : Calls Tryz.prog 85 #[.pointer (some ⟨g, 0, none⟩), .int .i64 20, .int .i64 1] w fun e w' => e = .returned (.int .i64 (cK l)) /\ w = w' := Get_at g l 20 1 1 (by decide) w h (by omega)
theorem numL : Calls Tryz.prog 85 #[.pointer (some ⟨g, 0, none⟩), .int .i64 22, .int .i64 2] w fun e w' => e = .returned (.int .i64 (cL l)) /\ w = w' := Get_at g l 22 2 2 (by decide) w h (by omega)
end
theorem claim_any (g : Nat) (l : List UInt8) (w : World) (h : Sec w g l) :
    Calls Tryz.prog 73 #[.pointer (some ⟨g, 0, none⟩)] w fun ed w' => ∃ A c, ed = .returned (.agg #[.int .i64 (cE l), .int .i64 (cN l), .int .i64 (cK l), .slice A (min (cL l) 472).toNat c]) /\ Rd w' A (min (cL l) 472).toNat (cB l) /\ (min (cL l) 472).toNat <= c /\ Below w.heap.size w w' /\ ∀ b o, A = some ⟨b, o, none⟩ -> w.heap.size < b := by
  obtain ⟨w1, hw1⟩ : ∃ w1, w1 = w.alloc (.cells #[.int .i64 0, .int .i64 0, .int .i64 0, .slice none 0 0] 70) := ⟨_, rfl⟩
  have hB1 : Below w.heap.size w w1 := by rw [hw1]; exact (Below.refl _ _).alloc (Nat.le_refl _) _
  have hS1 : SealAt w1 w.heap.size 0 0 0 none 0 0 := by rw [hw1]; exact SealAt.new w
  have hs1 : Sec w1 g l := by rw [hw1]; exact h.alloc _
  go_enter Tryz.func73, Tryz.ntmps73
  go_wp2
  rw [<- hw1]
  clear hw1
  have q := hs1.drew.rd (p := 24) (m := 488) (by omega)
  rw [List.take_of_length_le (by simp [h.1])] at q
  go_region_held3 (fun _ => True) (trivial) (first
    | (go_at_call_of 85 (Value.int .i64 0); refine (numE g l _ hs1.drew).mono ?_; rintro ed w' ⟨rfl, rfl⟩)
    | (go_at_call_of 85 (Value.int .i64 20); refine (numK g l _ hs1.drew).mono ?_; rintro ed w' ⟨rfl, rfl⟩)
    | (go_at_call_of 85 (Value.int .i64 22); refine (numL g l _ hs1.drew).mono ?_; rintro ed w' ⟨rfl, rfl⟩)
    | (go_at_call 85; refine (numN g l _ hs1.drew).mono ?_; rintro ed w' ⟨rfl, rfl⟩)
    | (go_at_call 86; rw [if_min]; refine (Cut_any _ 488 488 (l.drop 24) (min (cL l) 472) _ q (by omega)).mono ?_; rintro ed w2 ⟨v, rfl, hown, hB2⟩; obtain ⟨A2, c2, rfl, hc2, _, hr2⟩ := Rd.of_own hown rfl; have hS2 := hS1.drew.below hB2 hS1.lt; have k0 := hS2.h0; have k1 := hS2.h1; have k2 := hS2.h2; have k3 := hS2.h3; have f0 := hS2.fz 0; have f1 := hS2.fz 1; have f2 := hS2.fz 2; have f3 := hS2.fz 3))
  obtain ⟨hS3, hB3⟩ := hS2.set4 (e' := cE l) (n' := cN l) (k' := cK l) (A' := A2) (m' := (min (cL l) 472).toNat) (c' := c2)
  obtain ⟨w3, hw3⟩ : ∃ w3, w3 = (((w2.setCell ⟨w.heap.size, 0, none⟩ (.int .i64 (cE l))).setCell ⟨w.heap.size, 1, none⟩ (.int .i64 (cN l))).setCell ⟨w.heap.size, 2, none⟩ (.int .i64 (cK l))).setCell ⟨w.heap.size, 3, none⟩ (.slice A2 (min (cL l) 472).toNat c2) := ⟨_, rfl⟩
  have hE3 : ∀ k, k ≠ w.heap.size -> w3.heap[k]? = w2.heap[k]? := fun k hk => by rw [hw3]; exact set4_else hk
  rw [<- hw3] at hS3 hB3 ⊢
  clear hw3 k0 k1 k2 k3 f0 f1 f2 f3
  have s1 := hS1.lt
  have hr3 : Rd w3 A2 (min (cL l) 472).toNat (cB l) := hr2.block hB3.size fun b o e => hE3 b (by have hb := own_block hown e; rw [show w1.drew.heap.size = w1.heap.size from rfl] at hb; omega)
  have hBall : Below w.heap.size w w3 := (hB1.trans (((Below.refl _ _).drew).trans (hB2.mono (Nat.le_of_lt s1)))).trans hB3
  go_wp2_with (refine bodyPost_ret (res_seal rfl rfl hS3) rfl ?_; exact ⟨A2, c2, rfl, hr3, hc2, hBall, fun b o e => by have hb := own_block hown e; rw [show w1.drew.heap.size = w1.heap.size from rfl] at hb; omega⟩)
end Go.Proofs.YthabmlbmlncbmaaGreat
namespace Go.Proofs.YthabmlbmlncbmaaGreat
set_option maxRecDepth 20000
open Go.RowKit
theorem eqItems_bytes (d : Nat) (l l' : List UInt8) (w : World) : ∀ is : List Nat, (∀ i ∈ is, i < l.length /\ i < l'.length) ->
    (Op.eqItems (d + 1) 5 1 (cells l).toArray (cells l').toArray is).run Tryz.prog w = .ok (decide (∀ i ∈ is, l[i]? = l'[i]?)) w
  | [], _ => by simp [Op.eqItems]
  | i :: is, h => by
    have h1 := h i (by simp)
    have p1 : (part 5 (cells l).toArray (i * 1)).run Tryz.prog w = .ok (.int .u8 (l[i]'h1.1).toNat) w := run_part_plain w (by kernel_rfl) (by simpa using cells_get h1.1)
    have p2 : (part 5 (cells l').toArray (i * 1)).run Tryz.prog w = .ok (.int .u8 (l'[i]'h1.2).toNat) w := run_part_plain w (by kernel_rfl) (by simpa using cells_get h1.2)
    have p3 := run_equalIn_int (P := Tryz.prog) w d 5 .u8 .u8 ((l[i]'h1.1).toNat : Int) ((l'[i]'h1.2).toNat : Int) Tryz.underlying5
    have ih := eqItems_bytes d l l' w is (fun j hj => h j (by simp [hj]))
    simp only [Op.eqItems, Sem.run_bind, p1, p2, p3, Result.andThen_ok]
    by_cases he : l[i]'h1.1 = l'[i]'h1.2
    · simp [he, ih, h1.1, h1.2]
    · have hn : ¬ ((l[i]'h1.1).toNat : Int) = ((l'[i]'h1.2).toNat : Int) := fun hh => he (UInt8.toNat_inj.1 (by omega))
      simp [hn, h1.1, h1.2, he]
theorem run_eqsec (l l' : List UInt8) (hl : l.length = 512) (hl' : l'.length = 512) (w : World) : (Op.equalIn 10000 114 (.agg (cells l).toArray) (.agg (cells l').toArray)).run Tryz.prog w = .ok (decide (l = l')) w := by
  obtain ⟨i, hi, _⟩ := info_parts bytesT.info
  have h := run_equalIn_array (P := Tryz.prog) w 9999 (t := 114) (cells l).toArray (cells l').toArray Tryz.underlying114 hi
  rw [show Tryz.prog.cellsOf 5 = 1 from by kernel_rfl] at h
  have h2 := eqItems_bytes 9998 l l' w (List.range 512) (fun i hi => by simp at hi; omega)
  have hiff : (∀ i ∈ List.range 512, l[i]? = l'[i]?) ↔ l = l' := by
    constructor
    · intro h
      apply List.ext_getElem?
      intro i
      by_cases hi : i < 512
      · exact h i (by simp [hi])
      · rw [List.getElem?_eq_none (by omega), List.getElem?_eq_none (by omega)]
    · intro h i _; rw [h]
  refine (h.trans h2).trans ?_
  simp only [hiff]
def gE (l : List UInt8) : Int := if okL l then cE l else 0
def gN (l : List UInt8) : Int := if okL l then cN l else 0
def gK (l : List UInt8) : Int := if okL l then cK l else 0
def gB (l : List UInt8) : List UInt8 := if okL l then cB l else []
theorem Rd.range {w : World} {A : Option Addr} {l : List UInt8} {n : Nat} (h : Rd w A n l) (hn : 0 < n) : ∃ b o, A = some ⟨b, o, none⟩ /\ w.rangeAt b o (cells l) := by
  obtain ⟨b, o, e, _, hc⟩ := h.2 hn
  refine ⟨b, o, e, fun j v hj => ?_⟩
  have hj' : j < l.length := by have := (List.getElem?_eq_some_iff.1 hj).1; simpa using this
  rw [hc j hj', <- hj, cells_get hj']
theorem sec_info (l : List UInt8) (h : l.length = 512) : (Tryz.prog.info? 114).map (·.size) = some (cells l).length := by rw [cells_length, h]; kernel_rfl
theorem Get_wrong (A : Option Addr) (n c : Nat) (w : World) (hn : n ≠ 512) :
    Calls Tryz.prog 61 #[.slice A n c] w fun ed w' => ed = .returned (.tuple #[.agg #[.int .i64 0, .int .i64 0, .int .i64 0, .slice none 0 0], .bool false]) /\ Below w.heap.size w w' := by
  obtain ⟨w1, hw1⟩ : ∃ w1, w1 = w.alloc (.cells #[.int .i64 0, .int .i64 0, .int .i64 0, .slice none 0 0] 70) := ⟨_, rfl⟩
  have hB1 : Below w.heap.size w w1 := by rw [hw1]; exact (Below.refl _ _).alloc (Nat.le_refl _) _
  have hS1 : SealAt w1 w.heap.size 0 0 0 none 0 0 := by rw [hw1]; exact SealAt.new w
  go_enter Tryz.func61, Tryz.ntmps61
  go_wp2_with (first
    | (rw [<- hw1]; clear hw1)
    | (refine wpList_stseal rfl (.tmp 2) (.tmp 9) rfl rfl rfl hS1 ?_; intro w2 hS2 hB2 _)
    | (refine bodyPost_ret (res_seal_tmp rfl rfl hS2) rfl ?_; exact ⟨rfl, hB1.trans hB2⟩))
theorem run_arrayAt_sec (a : Option Addr) (c : Nat) (w : World) : (Instr.arrayAt 114 (.slice a 512 c)).run Tryz.prog w = .ok (.pointer a) w := by
  simp [Instr.arrayAt, Sem.run_bind, run_underlying Tryz.underlying114]
theorem Get_right (A : Option Addr) (c : Nat) (l : List UInt8) (w : World) (hr : Rd w A 512 l) :
    Calls Tryz.prog 61 #[.slice A 512 c] w fun ed w' => ∃ A' m' c', ed = .returned (.tuple #[.agg #[.int .i64 (gE l), .int .i64 (gN l), .int .i64 (gK l), .slice A' m' c'], .bool (decide (okL l))]) /\ Rd w' A' m' (gB l) /\ (m' <= 472 /\ m' <= c' /\ ∀ b o, A' = some ⟨b, o, none⟩ -> 0 < m' -> w.heap.size <= b) /\ Below w.heap.size w w' := by
  have hl := hr.1
  have hz := zsec
  have har := run_arrayAt_sec
  obtain ⟨b, o, rfl, hrange⟩ := hr.range (by omega)
  obtain ⟨w1, hw1⟩ : ∃ w1, w1 = w.alloc (.cells #[.int .i64 0, .int .i64 0, .int .i64 0, .slice none 0 0] 70) := ⟨_, rfl⟩
  have hB1 : Below w.heap.size w w1 := by rw [hw1]; exact (Below.refl _ _).alloc (Nat.le_refl _) _
  have hS1 : SealAt w1 w.heap.size 0 0 0 none 0 0 := by rw [hw1]; exact SealAt.new w
  have hr1 : w1.rangeAt b o (cells l) := by rw [hw1]; exact World.rangeAt_alloc hrange _
  go_enter Tryz.func61, Tryz.ntmps61
  go_wp2_with (first
    | (rw [<- hw1]; clear hw1)
    | (refine wpList_load_mid rfl 114 (.tmp 11) rfl b o rfl (cells l) _ hr1 Tryz.underlying114 rfl (sec_info l hl) ?_)
    | (refine wpList_stsec rfl (.tmp 4) (.tmp 12) rfl w1.heap.size _ _ rfl rfl (Sec.new w1 _ (zeros_length _)) hl ?_; intro w2 hS2 hB2))
  have l2 := hS2.lt
  have s1 := hB1.size
  have sB2 : Below w1.heap.size w1 w2 := ((Below.refl _ _).alloc (Nat.le_refl _) _).trans hB2
  refine (claim_any w1.heap.size l w2 hS2).mono ?_
  rintro ed w3 ⟨A3, c3, rfl, hr3, hc3, hB3, hA3⟩
  have s3 := hB3.size
  have hS3 := hS2.below hB3 l2
  have hz1 := (hS1.below sB2 hS1.lt).below hB3 (Nat.lt_of_lt_of_le hS1.lt sB2.size)
  go_wp2_with (refine wpList_stseal rfl (.tmp 5) (.tmp 13) rfl rfl rfl (SealAt.new w3) ?_; intro w4 hS4 hB4 _)
  replace hB4 : Below w3.heap.size w3 w4 := ((Below.refl _ _).alloc (Nat.le_refl _) _).trans hB4
  have hz4 := hz1.below hB4 hz1.lt
  have hC4 := hS3.below hB4 hS3.lt
  have hr4 := hr3.below (Nat.le_refl _) hB4
  have hall : Below w.heap.size w w4 := ((hB1.trans (sB2.mono s1)).trans (hB3.mono (by omega))).trans (hB4.mono (by omega))
  clear hz1 hS3 hr3 hS1 hS2 hB2 hr1 hrange hr hz har hB1
  have hrg : w4.rangeAt w1.heap.size 0 (cells l) := by
    obtain ⟨b', o', e, h⟩ := hC4.rd_all.range (by omega)
    injection e with e
    injection e with e1 e2
    subst e1; subst e2
    exact h
  have hrg5 : ∀ w5, Below w4.heap.size w4.drew w5 -> w5.rangeAt w1.heap.size 0 (cells l) := fun w5 hb => by
    obtain ⟨b', o', e, h⟩ := (hC4.drew.below hb hC4.lt).rd_all.range (by omega)
    injection e with e
    injection e with e1 e2
    subst e1; subst e2
    exact h
  have k0 := hS4.h0
  have k1 := hS4.h1
  have k2 := hS4.h2
  have k3 := hS4.h3
  have hu := Tryz.underlying114
  have hi := sec_info l hl
  by_cases hok : okL l
  · have hq := fun W => run_eqsec l (sectorOf (cE l) (cN l) (cK l) (cB l)) hl (sectorOf_length _ _ _ _) W
    rw [decide_eq_true (show l = sectorOf (cE l) (cN l) (cK l) (cB l) from hok)] at hq
    have e0 : gE l = cE l /\ gN l = cN l /\ gK l = cK l /\ gB l = cB l /\ decide (okL l) = true := by simp [gE, gN, gK, gB, hok]
    have E0 := hi_ e0
    clear e0 hok
    go_region_held3 (fun w' => w'.rangeAt w1.heap.size 0 (cells l) /\ w'.cell? ⟨w3.heap.size, 0, none⟩ = some (.int .i64 (cE l)) /\ w'.cell? ⟨w3.heap.size, 1, none⟩ = some (.int .i64 (cN l)) /\ w'.cell? ⟨w3.heap.size, 2, none⟩ = some (.int .i64 (cK l)) /\ w'.cell? ⟨w3.heap.size, 3, none⟩ = some (.slice A3 (min (cL l) 472).toNat c3))
      (first | exact ⟨hrg, k0, k1, k2, k3⟩ | exact ⟨q, q0, q1, q2, q3⟩)
      (first | (go_at_call 74; refine (sealed_any _ _ _ _ _ _ _ _ hr4.drew).mono ?_; rintro ed w5 ⟨rfl, hB5⟩; have q : w5.rangeAt w1.heap.size 0 (cells l) := hrg5 w5 hB5; have q0 := (hS4.drew.below hB5 hS4.lt).h0; have q1 := (hS4.drew.below hB5 hS4.lt).h1; have q2 := (hS4.drew.below hB5 hS4.lt).h2; have q3 := (hS4.drew.below hB5 hS4.lt).h3))
    replace hB5 : Below w4.heap.size w4 w5 := ((Below.refl _ _).drew).trans hB5
    have hz5 := hz4.below hB5 hz4.lt
    have hS5 := hS4.below hB5 hS4.lt
    have hr5 := hr4.below (Nat.le_refl _) hB5
    have hall5 := hall.trans (hB5.mono (by have := hall.size; omega))
    clear q q0 q1 q2 q3 k0 k1 k2 k3 hq hrg hrg5 hu hi hS4 hC4 hz4
    have hr5' : Rd w5 A3 (min (cL l) 472).toNat (gB l) := by rw [E0.out.2.2.2.1]; exact hr5
    go_wp2_with (first
      | (refine wpList_ldseal rfl (.tmp 5) rfl rfl hS5 ?_)
      | (refine wpList_stseal rfl (.tmp 2) (.tmp 19) rfl rfl rfl hz5 ?_; intro w6 hS6 hB6 hE6)
      | (refine bodyPost_ret (res_seal_tmp rfl rfl hS6) rfl ?_; refine ⟨A3, _, c3, ?_, hr5'.block hB6.size fun b o e => hE6 b (by have := hA3 b o e; have := sB2.size; omega), ⟨by omega, by omega, fun b o e _ => by have := hA3 b o e; have := sB2.size; have := s1; omega⟩, hall5.trans hB6⟩; rw [E0.out.1, E0.out.2.1, E0.out.2.2.1, E0.out.2.2.2.2]; rfl))
  · have hq := fun W => run_eqsec l (sectorOf (cE l) (cN l) (cK l) (cB l)) hl (sectorOf_length _ _ _ _) W
    rw [decide_eq_false (show ¬ l = sectorOf (cE l) (cN l) (cK l) (cB l) from hok)] at hq
    have e0 : gE l = 0 /\ gN l = 0 /\ gK l = 0 /\ gB l = [] /\ decide (okL l) = false := by simp [gE, gN, gK, gB, hok]
    have E0 := hi_ e0
    clear e0 hok
    go_region_held3 (fun w' => w'.rangeAt w1.heap.size 0 (cells l) /\ w'.cell? ⟨w3.heap.size, 0, none⟩ = some (.int .i64 (cE l)) /\ w'.cell? ⟨w3.heap.size, 1, none⟩ = some (.int .i64 (cN l)) /\ w'.cell? ⟨w3.heap.size, 2, none⟩ = some (.int .i64 (cK l)) /\ w'.cell? ⟨w3.heap.size, 3, none⟩ = some (.slice A3 (min (cL l) 472).toNat c3))
      (first | exact ⟨hrg, k0, k1, k2, k3⟩ | exact ⟨q, q0, q1, q2, q3⟩)
      (first | (go_at_call 74; refine (sealed_any _ _ _ _ _ _ _ _ hr4.drew).mono ?_; rintro ed w5 ⟨rfl, hB5⟩; have q : w5.rangeAt w1.heap.size 0 (cells l) := hrg5 w5 hB5; have q0 := (hS4.drew.below hB5 hS4.lt).h0; have q1 := (hS4.drew.below hB5 hS4.lt).h1; have q2 := (hS4.drew.below hB5 hS4.lt).h2; have q3 := (hS4.drew.below hB5 hS4.lt).h3))
    replace hB5 : Below w4.heap.size w4 w5 := ((Below.refl _ _).drew).trans hB5
    have hz5 := hz4.below hB5 hz4.lt
    have hS5 := hS4.below hB5 hS4.lt
    have hr5 := hr4.below (Nat.le_refl _) hB5
    have hall5 := hall.trans (hB5.mono (by have := hall.size; omega))
    clear q q0 q1 q2 q3 k0 k1 k2 k3 hq hrg hrg5 hu hi hS4 hC4 hz4
    go_wp2_with (first
      | (refine wpList_stseal rfl (.tmp 2) (.tmp 18) rfl rfl rfl hz5 ?_; intro w6 hS6 hB6 hE6)
      | (refine bodyPost_ret (res_seal_tmp rfl rfl hS6) rfl ?_; refine ⟨none, 0, 0, ?_, ?_, ⟨by omega, by omega, fun _ _ e => by cases e⟩, hall5.trans hB6⟩; · rw [E0.out.1, E0.out.2.1, E0.out.2.2.1, E0.out.2.2.2.2]; rfl
         · rw [E0.out.2.2.2.1]; exact Rd.nil _ _))
end Go.Proofs.YthabmlbmlncbmaaGreat
namespace Go.Proofs.YthabmlbmlncbmaaGreat
set_option maxRecDepth 20000
open Go.RowKit
section
variable (x : Int) (w : World)
theorem Num8 : Calls Tryz.prog 29 #[.int .i64 8, .int .i64 x] w fun e w' => ∃ A c, e = .returned (.slice A 8 c) /\ w'.ownsRow w.heap.size 5 1 (.slice A 8 c) 8 (cells (numB 8 x)) /\ Rd w' A 8 (numB 8 x) /\ Below w.heap.size w w' :=
  (Num_any 8 x w).mono fun _ _ ⟨v, he, ho, hb⟩ => by obtain ⟨A, c, rfl, _, _, hr⟩ := Rd.of_own ho rfl; exact ⟨A, c, he, ho, hr, hb⟩
theorem Num4 : Calls Tryz.prog 29 #[.int .i64 4, .int .i64 x] w fun e w' => ∃ A c, e = .returned (.slice A 4 c) /\ w'.ownsRow w.heap.size 5 1 (.slice A 4 c) 4 (cells (numB 4 x)) /\ Rd w' A 4 (numB 4 x) /\ Below w.heap.size w w' :=
  (Num_any 4 x w).mono fun _ _ ⟨v, he, ho, hb⟩ => by obtain ⟨A, c, rfl, _, _, hr⟩ := Rd.of_own ho rfl; exact ⟨A, c, he, ho, hr, hb⟩
theorem Num2 : Calls Tryz.prog 29 #[.int .i64 2, .int .i64 x] w fun e w' => ∃ A c, e = .returned (.slice A 2 c) /\ w'.ownsRow w.heap.size 5 1 (.slice A 2 c) 2 (cells (numB 2 x)) /\ Rd w' A 2 (numB 2 x) /\ Below w.heap.size w w' :=
  (Num_any 2 x w).mono fun _ _ ⟨v, he, ho, hb⟩ => by obtain ⟨A, c, rfl, _, _, hr⟩ := Rd.of_own ho rfl; exact ⟨A, c, he, ho, hr, hb⟩
theorem Num1 : Calls Tryz.prog 29 #[.int .i64 1, .int .i64 x] w fun e w' => ∃ A c, e = .returned (.slice A 1 c) /\ w'.ownsRow w.heap.size 5 1 (.slice A 1 c) 1 (cells (numB 1 x)) /\ Rd w' A 1 (numB 1 x) /\ Below w.heap.size w w' :=
  (Num_any 1 x w).mono fun _ _ ⟨v, he, ho, hb⟩ => by obtain ⟨A, c, rfl, _, _, hr⟩ := Rd.of_own ho rfl; exact ⟨A, c, he, ho, hr, hb⟩
end
theorem rest_eq (e n k : Int) (b : List UInt8) : numB 1 k ++ [0] ++ numB 2 (b.length : Int) ++ cut (472 : Int).toNat b ++ numB 8 n ++ numB 8 e = restL e n k b := by
  simp only [restL, List.append_assoc]
  rfl
theorem RPutX_any (e n k : Int) (A : Option Addr) (m c : Nat) (body : List UInt8) (w : World) (hr : Rd w A m body) (hmc : m <= c) :
    Calls Tryz.prog 33 #[.agg #[.int .i64 e, .int .i64 n, .int .i64 k, .slice A m c]] w fun ed w' => ∃ v, ed = .returned v /\ w'.ownsRow w.heap.size 5 1 v 512 (cells (sectorOf e n k body)) /\ Below w.heap.size w w' := by
  obtain ⟨w1, hw1⟩ : ∃ w1, w1 = w.alloc (.cells #[.int .i64 e, .int .i64 n, .int .i64 k, .slice A m c] 70) := ⟨_, rfl⟩
  have hB1 : Below w.heap.size w w1 := by rw [hw1]; exact (Below.refl _ _).alloc (Nat.le_refl _) _
  have hS1 : SealAt w1 w.heap.size e n k A m c := by rw [hw1]; exact SealAt.new w
  have hr1 : Rd w1 A m body := hr.below (Nat.le_refl _) hB1
  have s1 := hS1.lt
  have k0 := hS1.h0
  have k1 := hS1.h1
  have k3 := hS1.h3
  have hm0 : (0 : Int) <= (m : Int) := Int.natCast_nonneg _
  obtain ⟨E, hE⟩ : ∃ E, E = nr e 281474976710656 := ⟨_, rfl⟩
  obtain ⟨N, hN⟩ : ∃ N, N = nr n 281474976710656 := ⟨_, rfl⟩
  obtain ⟨K, hK⟩ : ∃ K, K = nr k 255 := ⟨_, rfl⟩
  have cE' := fun w => near_any e 281474976710656 w (by decide)
  have cN' := fun w => near_any n 281474976710656 w (by decide)
  have cK' := fun w => near_any k 255 w (by decide)
  rw [<- hE] at cE'
  rw [<- hN] at cN'
  rw [<- hK] at cK'
  have CE := hi_ cE'
  have CN := hi_ cN'
  have CK := hi_ cK'
  have hsec : sectorOf e n k body = sealL E N K (body.take 472) := by rw [hE, hN, hK]; rfl
  have HSEC := hi_ hsec
  clear cE' cN' cK' hE hN hK hsec
  have hlen := hr.1
  obtain ⟨B, hBd⟩ : ∃ B, B = body.take 472 := ⟨_, rfl⟩
  obtain ⟨M, hM⟩ : ∃ M, M = min m 472 := ⟨_, rfl⟩
  have hrB : Rd w1 A M B := by
    have := hr1.part (lo := 0) (m := M) (by omega) A (fun _ b o e => by simpa using e)
    rw [List.drop_zero] at this
    rw [hBd]
    have e2 : body.take M = body.take 472 := by
      rw [hM]
      rcases Nat.le_total m 472 with h | h
      · rw [Nat.min_eq_left h, List.take_of_length_le (by omega), List.take_of_length_le (by omega)]
      · rw [Nat.min_eq_right h]
    rw [e2] at this
    exact this
  have hBl : (B.length : Int) = (M : Int) := by rw [hrB.1]
  have hAB : 0 < M -> ∃ b o, A = some ⟨b, o, none⟩ /\ b < w1.heap.size := fun h0 => by
    obtain ⟨b, o, e1, e2, _⟩ := hrB.2 h0
    exact ⟨b, o, e1, e2⟩
  have HBD := hi_ hBd
  clear hBd
  by_cases h472 : m <= 472
  · obtain rfl : m = M := by rw [hM]; exact (Nat.min_eq_left h472).symm
    clear hM
    go_enter Tryz.func33, Tryz.ntmps33
    go_wp2
    rw [<- hw1]
    clear hw1
    go_region_held3 (fun w' => w'.cell? ⟨w.heap.size, 0, none⟩ = some (.int .i64 e) /\ w'.cell? ⟨w.heap.size, 1, none⟩ = some (.int .i64 n)) (exact ⟨k0, k1⟩)
      (first
        | (go_at_call_of 48 (Value.int .i64 e); refine (CE.out _).mono ?_; rintro ed w' ⟨rfl, rfl⟩)
        | (go_at_call 48; refine (CN.out _).mono ?_; rintro ed w' ⟨rfl, rfl⟩))
    clear k0 k1
    go_wp2_with fail
    refine (Num8 E _).mono ?_
    rintro ed w2 ⟨A2, c2, rfl, ho2, hr2, hB2⟩
    replace hB2 : Below w1.heap.size w1 w2 := (Below.refl _ _).drew.trans hB2
    replace ho2 : w2.ownsRow w1.heap.size _ 1 _ 8 _ := ho2
    have s2 := hB2.size
    clear k3
    go_wp2_with fail
    refine (Num8 N _).mono ?_
    rintro ed w3 ⟨A3, c3, rfl, ho3, hr3, hB3⟩
    have s3 := hB3.size
    replace ho2 := own_keep ho2 hB3
    go_wp2_with (at_builtin; refine wpList_app _ bytesT rfl (.tmp 23) (.tmp 25) rfl w1.heap.size _ 8 _ rfl ho2 A3 8 c3 _ rfl hr3 (by omega) (by omega) ?_; intro v4 w4 ho4 hB4; rw [<- cells_append] at ho4; have s4 := hB4.size; have s4' : w1.heap.size <= w4.heap.size := Nat.le_trans s2 (Nat.le_trans s3 s4); obtain ⟨A4, c4, rfl, _, _, hr4⟩ := Rd.of_own ho4 rfl; replace hB4 := (hB2.trans (hB3.mono s2)).trans hB4; have k2 := (hS1.below hB4 s1).h2)
    refine (CK.out _).mono ?_
    rintro ed w' ⟨rfl, rfl⟩
    clear k2 ho2 hr2 hr3 ho3 hB3
    go_wp2_with fail
    refine (Num1 K _).mono ?_
    rintro ed w5 ⟨A5, c5, rfl, ho5, hr5, D5⟩
    have s5 := D5.size
    go_wp2_with (at_builtin; refine wpList_app _ bytesT rfl (.tmp 30) (.tmp 31) rfl w4.heap.size _ 1 _ rfl (ho5.alloc _) _ 1 1 [0] rfl (Rd.new w5 5 [0] (0, 0)) (by omega) (by simp; omega) ?_; intro v6 w6 ho6 hB6; rw [<- cells_append] at ho6; have D6 := (D5.alloc s5 _).trans hB6; have s6 := D6.size)
    clear ho5 hr5 hB6
    refine (Num2 _ _).mono ?_
    rintro ed w7 ⟨A7, c7, rfl, ho7, hr7, hB7⟩
    rw [<- hBl] at hr7
    replace ho6 := own_keep ho6 hB7
    have D7 := D6.trans (hB7.mono s6)
    have s7 := D7.size
    clear D5 D6 hB7 ho7
    go_wp2_with (at_builtin; refine wpList_app _ bytesT rfl (.tmp 33) (.tmp 36) rfl w4.heap.size _ 2 _ rfl ho6 A7 2 c7 _ rfl hr7 (by omega) s7 ?_; intro v8 w8 ho8 hB8; rw [<- cells_append] at ho8; have D8 := D7.trans hB8; have s8 := D8.size)
    clear ho6 hr7 hB8 D7
    have hr8 := hrB.below' (hB4.trans (D8.mono s4')) hAB
    refine (RCut_any A _ c B 472 _ hr8 (by decide)).mono ?_
    rintro ed w9 ⟨v9, rfl, ho9, hB9⟩
    obtain ⟨A9, c9, rfl, _, _, hr9⟩ := Rd.of_own ho9 rfl
    replace ho8 := own_keep ho8 hB9
    have D9 := D8.trans (hB9.mono s8)
    have s9 := D9.size
    clear D8 hB9 ho9 hr8
    go_wp2_with (at_builtin; refine wpList_app _ bytesT rfl (.tmp 38) (.tmp 40) rfl w4.heap.size _ 4 _ rfl ho8 A9 472 c9 _ rfl hr9 (by omega) s9 ?_; intro v10 w10 ho10 hB10; rw [<- cells_append] at ho10; have D10 := D9.trans hB10; have s10 := D10.size)
    clear ho8 hr9 hB10 D9
    refine (Num8 N _).mono ?_
    rintro ed w11 ⟨A11, c11, rfl, ho11, hr11, hB11⟩
    replace ho10 := own_keep ho10 hB11
    have D11 := D10.trans (hB11.mono s10)
    have s11 := D11.size
    clear D10 hB11 ho11
    go_wp2_with (at_builtin; refine wpList_app _ bytesT rfl (.tmp 42) (.tmp 44) rfl w4.heap.size _ 476 _ rfl ho10 A11 8 c11 _ rfl hr11 (by omega) s11 ?_; intro v12 w12 ho12 hB12; rw [<- cells_append] at ho12; have D12 := D11.trans hB12; have s12 := D12.size)
    clear ho10 hr11 hB12 D11
    refine (Num8 E _).mono ?_
    rintro ed w13 ⟨A13, c13, rfl, ho13, hr13, hB13⟩
    replace ho12 := own_keep ho12 hB13
    have D13 := D12.trans (hB13.mono s12)
    have s13 := D13.size
    clear D12 hB13 ho13
    go_wp2_with (first
      | (at_builtin; refine wpList_app _ bytesT rfl (.tmp 46) (.tmp 48) rfl w4.heap.size _ 484 _ rfl ho12 A13 8 c13 _ rfl hr13 (by omega) s13 ?_; intro v14 w14 ho14 hB14; rw [<- cells_append, rest_eq] at ho14; have D14 := D13.trans hB14; have s14 := D14.size; obtain ⟨A14, c14, rfl, _, _, hr14⟩ := Rd.of_own ho14 rfl; have hF := own_keep ho4 D14; obtain ⟨_, _, hFe, _, _, hrF⟩ := Rd.of_own hF rfl; cases hFe)
      | (at_builtin; refine wpList_app _ bytesT rfl (.tmp 50) (.tmp 51) rfl w14.heap.size _ 0 [] rfl (own_empty w14 _ _ (Nat.le_refl _)) A4 16 c4 _ rfl (hrF.alloc _) (by omega) (by simp) ?_; intro v15 w15 ho15 hB15; replace hB15 : Below w14.heap.size w14 w15 := ((Below.refl _ _).alloc (Nat.le_refl _) _).trans hB15; rw [List.nil_append] at ho15)
      | (at_builtin; refine wpList_app _ bytesT rfl (.tmp 52) (.tmp 53) rfl w14.heap.size _ _ _ rfl ho15 A14 492 c14 _ rfl (hr14.below (Nat.le_refl _) hB15) (by omega) hB15.size ?_; intro v16 w16 ho16 hB16; rw [<- cells_append] at ho16; replace hB16 := hB15.trans hB16; obtain ⟨A16, c16, rfl, _, _, hr16⟩ := Rd.of_own ho16 rfl))
    clear ho12 hr13 hB14 D13 hF hB15 ho15
    have hs16 : Below w4.heap.size w4 w16 := D14.trans (hB16.mono s14)
    have hF16 := own_keep ho4 hs16
    obtain ⟨_, _, hFe, _, _, hrF16⟩ := Rd.of_own hF16 rfl
    cases hFe
    have hT16 := own_keep ho14 hB16
    have hsm := sumL_lt (frontL E N ++ restL E N K B)
    have cS := ROf_any A16 508 c16 _ w16 hr16 (by decide)
    obtain ⟨sm, hsmd⟩ : ∃ sm, sm = sumL (frontL E N ++ restL E N K B) := ⟨_, rfl⟩
    rw [show cells (numB 8 E ++ numB 8 N) = cells (frontL E N) from rfl] at hF16
    rw [show numB 8 E ++ numB 8 N ++ restL E N K B = frontL E N ++ restL E N K B from rfl, <- hsmd] at cS
    rw [<- hsmd] at hsm
    have hwrap := wrap_u32 sm hsm
    have HSM := hi_ hsmd
    clear hsmd
    refine cS.mono ?_
    rintro ed w' ⟨rfl, rfl⟩
    have hFlt := fun k hk => (ho4.lt k hk).2
    clear cS hrF hr14 ho4 ho14
    go_wp2_with fail
    refine (Num4 _ _).mono ?_
    rintro ed w17 ⟨A17, c17, rfl, ho17, hr17, hB17⟩
    have s16 := hs16.size
    have hF17 := own_keep hF16 hB17
    have hT17 := own_keep hT16 hB17
    have D17 := hs16.trans (hB17.mono s16)
    have s17 := D17.size
    obtain ⟨b17, o17, rfl, _⟩ := hr17.2 (by decide)
    have e1 : frontL E N ++ numB 4 (sm : Int) ++ restL E N K B = sectorOf e n k body := by
      rw [HSEC.out, <- HBD.out, HSM.out, sealL, List.append_assoc]
    have E1 := hi_ e1
    clear hs16 hF16 hT16 hB17 ho17 e1
    go_wp2_with (first
      | (at_builtin; refine wpList_appg _ bytesT rfl (.tmp 56) (.tmp 59) rfl w1.heap.size _ 16 _ rfl hF17 _ 4 c17 _ rfl hr17 (by decide) (Nat.le_trans s4' s17) ?_; intro v18 w18 ho18 hg18; rw [<- cells_append] at ho18; have hT18 := own_apart hT17 hFlt hg18; have hB18 := (hB4.trans (D17.mono s4')).trans (below_own hF17 (Nat.le_trans s4' s17) hg18); obtain ⟨_, _, hTe, _, _, hrT⟩ := Rd.of_own hT18 rfl; cases hTe)
      | (at_builtin; refine wpList_app _ bytesT rfl (.tmp 61) (.tmp 62) rfl w1.heap.size _ 20 _ rfl ho18 A14 492 c14 _ rfl hrT (by decide) hB18.size ?_; intro v19 w19 ho19 hB19; rw [<- cells_append, E1.out] at ho19))
    go_ret
    exact ⟨v19, rfl, own_mono ho19 (Nat.le_of_lt s1), hB1.trans ((hB18.trans hB19).mono (Nat.le_of_lt s1))⟩
  · obtain rfl : M = 472 := by rw [hM]; exact Nat.min_eq_right (by omega)
    clear hM
    replace hBl : (B.length : Int) = 472 := hBl
    have hm4 : (472 : Int) < (m : Int) := by omega
    have hc4 : (472 : Int) <= (c : Int) := by omega
    go_enter Tryz.func33, Tryz.ntmps33
    go_wp2
    rw [<- hw1]
    clear hw1
    go_region_held3 (fun w' => w'.cell? ⟨w.heap.size, 0, none⟩ = some (.int .i64 e) /\ w'.cell? ⟨w.heap.size, 1, none⟩ = some (.int .i64 n)) (exact ⟨k0, k1⟩)
      (first
        | (go_at_call_of 48 (Value.int .i64 e); refine (CE.out _).mono ?_; rintro ed w' ⟨rfl, rfl⟩)
        | (go_at_call 48; refine (CN.out _).mono ?_; rintro ed w' ⟨rfl, rfl⟩))
    clear k0 k1
    go_wp2_with fail
    refine (Num8 E _).mono ?_
    rintro ed w2 ⟨A2, c2, rfl, ho2, hr2, hB2⟩
    replace hB2 : Below w1.heap.size w1 w2 := (Below.refl _ _).drew.trans hB2
    replace ho2 : w2.ownsRow w1.heap.size _ 1 _ 8 _ := ho2
    have s2 := hB2.size
    clear k3
    go_wp2_with fail
    refine (Num8 N _).mono ?_
    rintro ed w3 ⟨A3, c3, rfl, ho3, hr3, hB3⟩
    have s3 := hB3.size
    replace ho2 := own_keep ho2 hB3
    go_wp2_with (at_builtin; refine wpList_app _ bytesT rfl (.tmp 23) (.tmp 25) rfl w1.heap.size _ 8 _ rfl ho2 A3 8 c3 _ rfl hr3 (by omega) (by omega) ?_; intro v4 w4 ho4 hB4; rw [<- cells_append] at ho4; have s4 := hB4.size; have s4' : w1.heap.size <= w4.heap.size := Nat.le_trans s2 (Nat.le_trans s3 s4); obtain ⟨A4, c4, rfl, _, _, hr4⟩ := Rd.of_own ho4 rfl; replace hB4 := (hB2.trans (hB3.mono s2)).trans hB4; have k2 := (hS1.below hB4 s1).h2)
    refine (CK.out _).mono ?_
    rintro ed w' ⟨rfl, rfl⟩
    clear k2 ho2 hr2 hr3 ho3 hB3
    go_wp2_with fail
    refine (Num1 K _).mono ?_
    rintro ed w5 ⟨A5, c5, rfl, ho5, hr5, D5⟩
    have s5 := D5.size
    go_wp2_with (at_builtin; refine wpList_app _ bytesT rfl (.tmp 30) (.tmp 31) rfl w4.heap.size _ 1 _ rfl (ho5.alloc _) _ 1 1 [0] rfl (Rd.new w5 5 [0] (0, 0)) (by omega) (by simp; omega) ?_; intro v6 w6 ho6 hB6; rw [<- cells_append] at ho6; have D6 := (D5.alloc s5 _).trans hB6; have s6 := D6.size)
    clear ho5 hr5 hB6
    refine (Num2 _ _).mono ?_
    rintro ed w7 ⟨A7, c7, rfl, ho7, hr7, hB7⟩
    rw [<- hBl] at hr7
    replace ho6 := own_keep ho6 hB7
    have D7 := D6.trans (hB7.mono s6)
    have s7 := D7.size
    clear D5 D6 hB7 ho7
    go_wp2_with (at_builtin; refine wpList_app _ bytesT rfl (.tmp 33) (.tmp 36) rfl w4.heap.size _ 2 _ rfl ho6 A7 2 c7 _ rfl hr7 (by omega) s7 ?_; intro v8 w8 ho8 hB8; rw [<- cells_append] at ho8; have D8 := D7.trans hB8; have s8 := D8.size)
    clear ho6 hr7 hB8 D7
    have hr8 := hrB.below' (hB4.trans (D8.mono s4')) hAB
    refine (RCut_any A _ c B 472 _ hr8 (by decide)).mono ?_
    rintro ed w9 ⟨v9, rfl, ho9, hB9⟩
    obtain ⟨A9, c9, rfl, _, _, hr9⟩ := Rd.of_own ho9 rfl
    replace ho8 := own_keep ho8 hB9
    have D9 := D8.trans (hB9.mono s8)
    have s9 := D9.size
    clear D8 hB9 ho9 hr8
    go_wp2_with (at_builtin; refine wpList_app _ bytesT rfl (.tmp 38) (.tmp 40) rfl w4.heap.size _ 4 _ rfl ho8 A9 472 c9 _ rfl hr9 (by omega) s9 ?_; intro v10 w10 ho10 hB10; rw [<- cells_append] at ho10; have D10 := D9.trans hB10; have s10 := D10.size)
    clear ho8 hr9 hB10 D9
    refine (Num8 N _).mono ?_
    rintro ed w11 ⟨A11, c11, rfl, ho11, hr11, hB11⟩
    replace ho10 := own_keep ho10 hB11
    have D11 := D10.trans (hB11.mono s10)
    have s11 := D11.size
    clear D10 hB11 ho11
    go_wp2_with (at_builtin; refine wpList_app _ bytesT rfl (.tmp 42) (.tmp 44) rfl w4.heap.size _ 476 _ rfl ho10 A11 8 c11 _ rfl hr11 (by omega) s11 ?_; intro v12 w12 ho12 hB12; rw [<- cells_append] at ho12; have D12 := D11.trans hB12; have s12 := D12.size)
    clear ho10 hr11 hB12 D11
    refine (Num8 E _).mono ?_
    rintro ed w13 ⟨A13, c13, rfl, ho13, hr13, hB13⟩
    replace ho12 := own_keep ho12 hB13
    have D13 := D12.trans (hB13.mono s12)
    have s13 := D13.size
    clear D12 hB13 ho13
    go_wp2_with (first
      | (at_builtin; refine wpList_app _ bytesT rfl (.tmp 46) (.tmp 48) rfl w4.heap.size _ 484 _ rfl ho12 A13 8 c13 _ rfl hr13 (by omega) s13 ?_; intro v14 w14 ho14 hB14; rw [<- cells_append, rest_eq] at ho14; have D14 := D13.trans hB14; have s14 := D14.size; obtain ⟨A14, c14, rfl, _, _, hr14⟩ := Rd.of_own ho14 rfl; have hF := own_keep ho4 D14; obtain ⟨_, _, hFe, _, _, hrF⟩ := Rd.of_own hF rfl; cases hFe)
      | (at_builtin; refine wpList_app _ bytesT rfl (.tmp 50) (.tmp 51) rfl w14.heap.size _ 0 [] rfl (own_empty w14 _ _ (Nat.le_refl _)) A4 16 c4 _ rfl (hrF.alloc _) (by omega) (by simp) ?_; intro v15 w15 ho15 hB15; replace hB15 : Below w14.heap.size w14 w15 := ((Below.refl _ _).alloc (Nat.le_refl _) _).trans hB15; rw [List.nil_append] at ho15)
      | (at_builtin; refine wpList_app _ bytesT rfl (.tmp 52) (.tmp 53) rfl w14.heap.size _ _ _ rfl ho15 A14 492 c14 _ rfl (hr14.below (Nat.le_refl _) hB15) (by omega) hB15.size ?_; intro v16 w16 ho16 hB16; rw [<- cells_append] at ho16; replace hB16 := hB15.trans hB16; obtain ⟨A16, c16, rfl, _, _, hr16⟩ := Rd.of_own ho16 rfl))
    clear ho12 hr13 hB14 D13 hF hB15 ho15
    have hs16 : Below w4.heap.size w4 w16 := D14.trans (hB16.mono s14)
    have hF16 := own_keep ho4 hs16
    obtain ⟨_, _, hFe, _, _, hrF16⟩ := Rd.of_own hF16 rfl
    cases hFe
    have hT16 := own_keep ho14 hB16
    have hsm := sumL_lt (frontL E N ++ restL E N K B)
    have cS := ROf_any A16 508 c16 _ w16 hr16 (by decide)
    obtain ⟨sm, hsmd⟩ : ∃ sm, sm = sumL (frontL E N ++ restL E N K B) := ⟨_, rfl⟩
    rw [show cells (numB 8 E ++ numB 8 N) = cells (frontL E N) from rfl] at hF16
    rw [show numB 8 E ++ numB 8 N ++ restL E N K B = frontL E N ++ restL E N K B from rfl, <- hsmd] at cS
    rw [<- hsmd] at hsm
    have hwrap := wrap_u32 sm hsm
    have HSM := hi_ hsmd
    clear hsmd
    refine cS.mono ?_
    rintro ed w' ⟨rfl, rfl⟩
    have hFlt := fun k hk => (ho4.lt k hk).2
    clear cS hrF hr14 ho4 ho14
    go_wp2_with fail
    refine (Num4 _ _).mono ?_
    rintro ed w17 ⟨A17, c17, rfl, ho17, hr17, hB17⟩
    have s16 := hs16.size
    have hF17 := own_keep hF16 hB17
    have hT17 := own_keep hT16 hB17
    have D17 := hs16.trans (hB17.mono s16)
    have s17 := D17.size
    obtain ⟨b17, o17, rfl, _⟩ := hr17.2 (by decide)
    have e1 : frontL E N ++ numB 4 (sm : Int) ++ restL E N K B = sectorOf e n k body := by
      rw [HSEC.out, <- HBD.out, HSM.out, sealL, List.append_assoc]
    have E1 := hi_ e1
    clear hs16 hF16 hT16 hB17 ho17 e1
    go_wp2_with (first
      | (at_builtin; refine wpList_appg _ bytesT rfl (.tmp 56) (.tmp 59) rfl w1.heap.size _ 16 _ rfl hF17 _ 4 c17 _ rfl hr17 (by decide) (Nat.le_trans s4' s17) ?_; intro v18 w18 ho18 hg18; rw [<- cells_append] at ho18; have hT18 := own_apart hT17 hFlt hg18; have hB18 := (hB4.trans (D17.mono s4')).trans (below_own hF17 (Nat.le_trans s4' s17) hg18); obtain ⟨_, _, hTe, _, _, hrT⟩ := Rd.of_own hT18 rfl; cases hTe)
      | (at_builtin; refine wpList_app _ bytesT rfl (.tmp 61) (.tmp 62) rfl w1.heap.size _ 20 _ rfl ho18 A14 492 c14 _ rfl hrT (by decide) hB18.size ?_; intro v19 w19 ho19 hB19; rw [<- cells_append, E1.out] at ho19))
    go_ret
    exact ⟨v19, rfl, own_mono ho19 (Nat.le_of_lt s1), hB1.trans ((hB18.trans hB19).mono (Nat.le_of_lt s1))⟩
theorem RPut_any (e n k : Int) (A : Option Addr) (m c : Nat) (body : List UInt8) (w : World) (hr : Rd w A m body) (hmc : m <= c) (_hc : (c : Int) <= 9223372036854775807) :
    Calls Tryz.prog 33 #[.agg #[.int .i64 e, .int .i64 n, .int .i64 k, .slice A m c]] w fun ed w' => ∃ v, ed = .returned v /\ w'.ownsRow w.heap.size 5 1 v 512 (cells (sectorOf e n k body)) /\ Below w.heap.size w w' := RPutX_any e n k A m c body w hr hmc
end Go.Proofs.YthabmlbmlncbmaaGreat
namespace Go.Proofs.YthabmlbmlncbmaaGreat
set_option maxRecDepth 20000
open Go.RowKit
end Go.Proofs.YthabmlbmlncbmaaGreat
