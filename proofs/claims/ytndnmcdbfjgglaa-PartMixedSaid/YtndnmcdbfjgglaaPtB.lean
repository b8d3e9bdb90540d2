/- The contract of part's Split. -/
import Derived.Test.YtndnmcdbfjgglaaPtA
import Derived.Test.YtndnmcdbfjgglaaRowS
namespace Go.Proofs.Ytndnmcdbfjgglaa
open Go.RowKit
set_option linter.unusedVariables false
set_option maxRecDepth 20000

/-- 'append(v, x...)' where there is room: in place. -/
theorem run_appr {P : Program} (w : World) {T e : TypeId} (el : El P T e (.int .u8 0) 1 1) (ty : TypeId) (B g k cap : Nat) (xs : List Value) (hown : w.ownsRow B e 1 (.slice (some ⟨g, 0, none⟩) k cap) k xs)
    (A : Option Addr) (m c : Nat) (l : List UInt8) (hr : Rd w A m l) (hroom : k + m ≤ cap) :
    ∃ w', (Builtin.append_ #[T, T] ty #[.slice (some ⟨g, 0, none⟩) k cap, .slice A m c]).run P w = .ok (.slice (some ⟨g, 0, none⟩) (k + m) cap) w' ∧ w'.ownsRow B e 1 (.slice (some ⟨g, 0, none⟩) (k + m) cap) (k + m) (xs ++ cells l) ∧ w.grownBy w' (some g) := by
  obtain ⟨i, hi, hz, h1, h2⟩ := info_parts el.info
  rcases A with _ | ad
  · have hm : m = 0 := by
      rcases Nat.eq_zero_or_pos m with h0 | h0
      · exact h0
      · obtain ⟨_, _, h, _⟩ := hr.2 h0
        cases h
    subst hm
    have hn : l = [] := List.eq_nil_of_length_eq_zero hr.1
    subst hn
    exact ⟨w, run_app_nil w B T ty e i 1 el.und hi _ k xs hown c, by simpa [cells_nil] using hown, World.grownBy.refl _ _⟩
  · exact run_append_fits (P := P) w B T ty e i 1 el.und hi h1 g k cap xs hown ad m c (cells l) (by simp [hr.1]) hr.cells_at (cells_one l) hroom
theorem wpList_appr {P : Program} (w : World) {T e : TypeId} (el : El P T e (.int .u8 0) 1 1) {ops : Array Oper} {rest : List Oper} {o : Oper} {a : Act} {Q : Exit → Act → World → Prop} (hgd : Region.wanted o (yielded ops a.tmps) = true) (s x : Operand)
    (ho : o.op = .call { callee := .builtin .append, args := #[s, x], argTypes := #[T, T] })
    (B g k cap : Nat) (xs : List Value) (hs : a.eval s = .slice (some ⟨g, 0, none⟩) k cap) (hown : w.ownsRow B e 1 (.slice (some ⟨g, 0, none⟩) k cap) k xs)
    (A : Option Addr) (m c : Nat) (l : List UInt8) (hx : a.eval x = .slice A m c) (hr : Rd w A m l) (hroom : k + m ≤ cap)
    (h : ∀ w', w'.ownsRow B e 1 (.slice (some ⟨g, 0, none⟩) (k + m) cap) (k + m) (xs ++ cells l) → w.grownBy w' (some g) → wpList P ops Q rest (a.put o.dst (.slice (some ⟨g, 0, none⟩) (k + m) cap)) w') : wpList P ops Q (o :: rest) a w :=
  wpList_w hgd fun _ hK => by
    obtain ⟨w', hrun, h2, h3⟩ := run_appr w el o.type B g k cap xs hown A m c l hr hroom
    unfold Oper.wp execOp
    simp only [ho, resolve, invoke, builtin, Sem.run_bind, Sem.run_pure, Result.andThen_ok, List.map_toArray, List.map_cons, List.map_nil, hs, hx, hrun]
    exact hK _ _ (h w' h2 h3)
/-- 'make([]T, 0, n)', where it lies. -/
theorem wpList_mkc {P : Program} (w : World) {T e : TypeId} {z : Value} {size bytes : Nat} (el : El P T e z size bytes) {ops : Array Oper} {rest : List Oper} {o : Oper} {a : Act} {Q : Exit → Act → World → Prop} (hgd : o.guard = none) (x y : Operand)
    (ho : o.op = Op.makeSlice T x y) (B : Nat) (kl kc : IntKind) (C : Int) (n : Nat) (hl : a.eval x = .int kl 0) (hc : a.eval y = .int kc C) (hC : C = (n : Int)) (hb : bytes * n ≤ 281474976710656) (hm : n ≤ maxLen) (hB : B ≤ w.heap.size)
    (h : ∀ w', w'.ownsRow B e size (.slice (some ⟨w.heap.size, 0, none⟩) 0 n) 0 [] → Below B w w' → w.heap.size < w'.heap.size → wpList P ops Q rest (a.put o.dst (.slice (some ⟨w.heap.size, 0, none⟩) 0 n)) w') : wpList P ops Q (o :: rest) a w := by
  obtain ⟨i, hi, hz, h1, h2⟩ := info_parts el.info
  refine wpList_make_own w hgd x y T ho B e i z size el.und hi hz h1 kl kc C n hl hc hC (by rw [h2]; exact hb) hm hB ?_
  intro w' hown hg
  refine h w' hown ((Below.refl _ _).grown hg hB (fun k hk => by cases hk)) ?_
  rcases hown.2 with ⟨h3, _⟩ | ⟨g, cap, cur, h3, _, hh, _⟩
  · cases h3
  · injection h3 with h3
    injection h3 with h3
    injection h3 with h3
    subst h3
    exact (Array.getElem?_eq_some_iff.1 hh).1

theorem grownBy_setCellA (W : World) (a : Addr) (v : Value) : W.grownBy (W.setCell a v) (some a.block) :=
  ⟨rfl, rfl, rfl, by simp [World.setCell], fun k _ hk => Below.heap_setCell _ _ _ k (fun e => hk (by rw [e]))⟩
/-- What Split has between two rounds. -/
structure SpI (w wr : World) (g gl q cap : Nat) (s : Int) (b : List UInt8) (j k : Nat) : Prop where
  kk : k = (pcs q s b j).flatten.length
  row : wr.ownsRow w.heap.size 5 1 (.slice (some ⟨g, 0, none⟩) k cap) k (cells (pcs q s b j).flatten)
  lst : ∃ vs, wr.ownsRow w.heap.size 22 1 (.slice (some ⟨gl, 0, none⟩) q q) q vs ∧ ∀ i, i < j → vs[i]? = some (.slice (some ⟨g, (pcs q s b i).flatten.length, none⟩) (piece q s b i).length (piece q s b i).length)
  ne : g ≠ gl
  bel : Below w.heap.size w wr
theorem SpI.next {w wr w1 w2 w3 : World} {g gl q cap : Nat} {s : Int} {b : List UInt8} {j k m : Nat} (h : SpI w wr g gl q cap s b j k) (hb1 : Below wr.heap.size wr w1)
    (r2 : w2.ownsRow w.heap.size 5 1 (.slice (some ⟨g, 0, none⟩) (k + 12) cap) (k + 12) (cells (pcs q s b j).flatten ++ cells (pcHead j q s))) (g2 : w1.grownBy w2 (some g))
    (r3 : w3.ownsRow w.heap.size 5 1 (.slice (some ⟨g, 0, none⟩) (k + 12 + m) cap) (k + 12 + m) (cells (pcs q s b j).flatten ++ cells (pcHead j q s) ++ cells (pcOwn b j))) (g3 : w2.grownBy w3 (some g)) (hj : j < q) :
    SpI w (w3.setCell ⟨gl, j, none⟩ (.slice (some ⟨g, k, none⟩) (k + 12 + m - k) (k + 12 + m - k))) g gl q cap s b (j + 1) (k + 12 + m) := by
  obtain ⟨hk, row, ⟨vs, lrow, hv⟩, ne, bel⟩ := h
  have l1 := own_keep lrow hb1
  have l2 := l1.kept g2 (.inr (by intro e; injection e with e; exact ne e.symm))
  have l3 := l2.kept g3 (.inr (by intro e; injection e with e; exact ne e.symm))
  have hvl : vs.length = q := by have := lrow.1; omega
  have hm : m = (pcOwn b j).length := by have := r3.1; simp only [List.length_append, cells_length, pcHead_len] at this; omega
  have hpl : (piece q s b j).length = 12 + m := by rw [piece, List.length_append, pcHead_len, hm]
  refine ⟨?_, ?_, ⟨_, own_setC l3 j _, fun i hi => ?_⟩, ne, ?_⟩
  · rw [pcs_succ, List.flatten_append, List.length_append, ← hk]
    simp only [List.flatten_cons, List.flatten_nil, List.append_nil, hpl]
    omega
  · have : cells (pcs q s b (j + 1)).flatten = cells (pcs q s b j).flatten ++ cells (pcHead j q s) ++ cells (pcOwn b j) := by
      rw [pcs_succ, List.flatten_append]
      simp only [List.flatten_cons, List.flatten_nil, List.append_nil, cells_append, piece, List.append_assoc]
    rw [this]
    exact r3.kept (grownBy_setCellA w3 ⟨gl, j, none⟩ _) (.inr (by intro e; injection e with e; exact ne e))
  · rw [List.getElem?_set]
    by_cases hij : j = i
    · subst hij
      rw [if_pos rfl, if_pos (by omega), hpl, ← hk]
      have : k + 12 + m - k = 12 + m := by omega
      rw [this]
    · rw [if_neg hij]
      exact hv i (by omega)
  · have b1 : Below w.heap.size w w1 := bel.trans (hb1.mono bel.size)
    have b2 : Below w.heap.size w w2 := b1.grown g2 b1.size (fun x hx => by injection hx with hx; subst hx; exact own_block r2 rfl)
    have b3 : Below w.heap.size w w3 := b2.grown g3 b2.size (fun x hx => by injection hx with hx; subst hx; exact own_block r2 rfl)
    exact b3.setCell (p := ⟨gl, j, none⟩) (own_block lrow rfl) _
theorem SpI.bel2 {w wr w1 w2 : World} {g gl q cap : Nat} {s : Int} {b : List UInt8} {j k : Nat} (h : SpI w wr g gl q cap s b j k) (hb1 : Below wr.heap.size wr w1) (g2 : w1.grownBy w2 (some g)) : Below w.heap.size w w2 := by
  have b1 : Below w.heap.size w w1 := h.bel.trans (hb1.mono h.bel.size)
  exact b1.grown g2 b1.size (fun x hx => by injection hx with hx; subst hx; exact own_block h.row rfl)
theorem SpI.at3 {w wr w1 w2 w3 : World} {g gl q cap : Nat} {s : Int} {b : List UInt8} {j k : Nat} (h : SpI w wr g gl q cap s b j k) (hb1 : Below wr.heap.size wr w1) (g2 : w1.grownBy w2 (some g)) (g3 : w2.grownBy w3 (some g)) (hj : j < q) :
    w3.frozen? ⟨gl, j, none⟩ = false ∧ ∃ u, w3.cell? ⟨gl, j, none⟩ = some u := by
  obtain ⟨hk, row, ⟨vs, lrow, hv⟩, ne, bel⟩ := h
  have l1 := own_keep lrow hb1
  have l2 := l1.kept g2 (.inr (by intro e; injection e with e; exact ne e.symm))
  have l3 := l2.kept g3 (.inr (by intro e; injection e with e; exact ne e.symm))
  have hvl : vs.length = q := by have := lrow.1; omega
  refine ⟨l3.frozenAt j, vs[j], ?_⟩
  have := l3.cells (g := gl) rfl j _ (List.getElem?_eq_getElem (show j < vs.length by omega))
  rwa [Addr.add_lit, Nat.zero_add] at this
theorem SpI.done {w wr : World} {g gl q cap : Nat} {s : Int} {b : List UInt8} {k : Nat} (h : SpI w wr g gl q cap s b q k) : PcsV (fun x => w.heap.size ≤ x) wr (some ⟨gl, 0, none⟩) q (pcs q s b q) := by
  obtain ⟨hk, row, ⟨vs, lrow, hv⟩, ne, bel⟩ := h
  have hvl : vs.length = q := by have := lrow.1; omega
  have hgB := own_block row rfl
  obtain ⟨A, c, e, _, _, hr⟩ := Rd.of_own row rfl
  injection e with e1 e2 e3
  subst e1
  have key : HdL 1 (EPc (fun x => w.heap.size ≤ x) wr) vs (pcs q s b q) := HdL.of1 (by rw [hvl, pcs_len]) (fun i x hx => by
    obtain ⟨hi, rfl⟩ := pcs_some hx
    refine ⟨_, hv i hi, _, _, _, rfl, ⟨_, _, _, rfl, ?_, fun b' o' e hpos => ?_⟩, Nat.le_refl _⟩
    · have hle : (pcs q s b i).flatten.length + (piece q s b i).length ≤ k := by
        have h1 := flat_pcs q s b (i + 1)
        rw [pcs_succ, List.flatten_append, List.length_append] at h1
        simp only [List.flatten_cons, List.flatten_nil, List.append_nil] at h1
        have h2 := flat_pcs q s b q
        have h3 : min ((i + 1) * 460) b.length ≤ min (q * 460) b.length := by have := Nat.mul_le_mul_right 460 (show i + 1 ≤ q from hi); omega
        omega
      have := hr.part (lo := (pcs q s b i).flatten.length) (m := (piece q s b i).length) hle (some ⟨g, (pcs q s b i).flatten.length, none⟩) (fun _ b2 o2 e2 => by injection e2 with e2; injection e2 with e3 e4; subst e3 e4; rw [Nat.zero_add])
      rwa [flat_at hi] at this
    · injection e with e
      injection e with e
      subst e
      refine ⟨hgB, ?_⟩
      rcases row.2 with ⟨h3, _⟩ | ⟨g', cap', cur, h3, _, hh, _⟩
      · cases h3
      · injection h3 with h3
        injection h3 with h3
        injection h3 with h3
        subst h3
        exact (Array.getElem?_eq_some_iff.1 hh).1)
  obtain ⟨A2, c2, e', _, _, hR⟩ := own_rowsL lrow key (pcs_len q s b q)
  injection e' with e1
  subst e1
  obtain ⟨vs', h1, h2, h3⟩ := hR
  exact ⟨vs', h1, h2.mono (fun x hx => hx.1), h3⟩

/-- What Split hands back. -/
def SplitP (w : World) (ls : List (List UInt8)) (e : Ending) (w' : World) : Prop := ∃ A n c, e = .returned (.slice A n c) ∧ n ≤ c ∧ PcsV (fun x => w.heap.size ≤ x) w' A n ls ∧ Below w.heap.size w w'
set_option maxHeartbeats 2000000 in
theorem PSplit_any (A : Option Addr) (n c : Nat) (b : List UInt8) (s : Int) (w : World) (hr : Rd w A n b) (hc : n ≤ c) (hn : n ≤ 100000) :
    Calls Try.prog 7 #[.int .i64 s, .slice A n c] w (SplitP w (splitL s b)) := by
  have hl := hr.1
  obtain ⟨q, hq⟩ : ∃ q, q = needN n := ⟨_, rfl⟩
  have hqb := needN_bd n
  rw [← hq] at hqb
  have hq2 : q ≤ 1024 := by omega
  have hS : splitL s b = pcs q (clampS s) b q := by rw [splitL_ok (by rw [hl, ← hq]; omega), hl, ← hq]
  rw [hS]
  have CN := Lib.hid (GNeed_any (n : Int) w (by omega))
  rw [needN_cast, ← hq] at CN
  have HR := Lib.hid hr
  have HL := Lib.hid hl
  have HQ := Lib.hid hqb
  have hzz : (s < 0 ∧ clampS s = 0) ∨ ((0 ≤ s ∧ s ≤ 281474976710656) ∧ clampS s = s) ∨ (281474976710656 < s ∧ clampS s = 281474976710656) := by unfold clampS; omega
  obtain ⟨z, hz⟩ : ∃ z, z = clampS s := ⟨_, rfl⟩
  rw [← hz] at hzz ⊢
  clear hr hl hq hqb hS hz
  have CAP := Lib.hid (show (q : Int) * 12 + (n : Int) = ((q * 12 + n : Nat) : Int) by omega)
  rcases hzz with ⟨hs, hv⟩ | ⟨hs, hv⟩ | ⟨hs, hv⟩
  all_goals
    have HV := Lib.hid hv
    clear hv
    go_enter Try.func7, Try.ntmps7
    go_wp2_with (first
      | (go_at_call 15; refine CN.out.mono ?_; rintro e w' ⟨rfl, rfl⟩)
      | (at_make; refine wpList_mkc _ bytesT rfl (.const (.int .i64 0)) (.tmp 22) rfl w.heap.size .i64 .i64 _ (q * 12 + n) rfl rfl (by omega) (by omega) (by unfold maxLen; omega) (Nat.le_refl _) ?_; intro w1 ho1 hb1 hlt1)
      | (at_make; refine wpList_mkn _ rowsT rfl (.tmp 24) (.tmp 24) rfl w1.heap.size .i64 .i64 _ _ q rfl rfl rfl rfl (by omega) (by unfold maxLen; omega) (Nat.le_refl _) ?_; intro w2 ho2 hb2))
    have I0 : Hid (SpI w w2 w.heap.size w1.heap.size q (q * 12 + n) z b 0 0) := Lib.hid ⟨by simp [pcs], by
        have := own_keep ho1 hb2
        simpa [pcs, cells_nil] using this, ⟨_, own_mono ho2 hb1.size, fun i hi => absurd hi (Nat.not_lt_zero _)⟩, Nat.ne_of_lt hlt1, hb1.trans (hb2.mono hb1.size)⟩
    obtain ⟨g, hg⟩ : ∃ g, g = w.heap.size := ⟨_, rfl⟩
    obtain ⟨gl, hgl⟩ : ∃ g, g = w1.heap.size := ⟨_, rfl⟩
    rw [← hgl] at I0 ⊢
    rw [← hg] at I0 ⊢
    clear ho1 hb1 hlt1 ho2 hb2 hgl hg hs
    go_loopw [6, 28] (fun av iv wr => ∃ j k : Nat, j ≤ q ∧ iv = .int .i64 j ∧ av = .slice (some ⟨g, 0, none⟩) k (q * 12 + n) ∧ Hid (SpI w wr g gl q (q * 12 + n) z b j k)) (fun _ iv _ => q - (intOf iv).toNat)
    case atStart => exact ⟨0, 0, Nat.zero_le _, rfl, rfl, I0⟩
    case round =>
      obtain ⟨j, k, hj, rfl, rfl, HI⟩ := hrel
      by_cases hjq : j < q
      · have hjn : j * 460 ≤ n := by have := HQ.out; omega
        have hk : k = 12 * j + min (j * 460) n := by have := HI.out.kk; rw [flat_pcs, HL.out] at this; exact this
        have hk1 : k + 12 ≤ q * 12 + n := by omega
        have hk2 : k + 12 + min 460 (n - j * 460) ≤ q * 12 + n := by omega
        have CH := Lib.hid (phead_any j q z wr)
        rw [HV.out] at CH
        obtain ⟨m, hm⟩ : ∃ m, m = min 460 (n - j * 460) := ⟨_, rfl⟩
        rw [← hm] at hk2
        have HJ := Lib.hid hjn
        have HM := Lib.hid hm
        clear hk hjn hm
        go_wp2_with (first
          | (go_at_call 16; refine CH.out.mono ?_; rintro e w3 ⟨A1, c1, rfl, hr1, hb3⟩
             rw [← HV.out] at hr1
             have R1 := Lib.hid (And.intro hr1 hb3)
             have O1 := Lib.hid (own_keep HI.out.row hb3)
             clear hr1 hb3)
          | (at_builtin; have _t := R1; refine wpList_appr _ bytesT rfl (.tmp 33) (.tmp 37) rfl w.heap.size g k (q * 12 + n) _ rfl O1.out A1 12 c1 _ rfl R1.out.1 hk1 ?_; intro w4 ho4 hg4
             have O4 := Lib.hid (And.intro ho4 hg4)
             have CO := Lib.hid (pown_any A n c b j w4 (HR.out.below (Nat.le_refl _) (HI.out.bel2 R1.out.2 hg4)) hc (by omega) HJ.out)
             rw [← HM.out] at CO
             clear ho4 hg4)
          | (go_at_call 17; refine CO.out.mono ?_; rintro e w5 ⟨A2, c2, rfl, hr2, rfl⟩; have R2 := Lib.hid hr2; clear hr2)
          | (at_builtin; refine wpList_appr _ bytesT rfl (.tmp 39) (.tmp 42) rfl w.heap.size g (k + 12) (q * 12 + n) _ rfl O4.out.1 A2 m c2 _ rfl R2.out hk2 ?_; intro w6 ho6 hg6
             have O6 := Lib.hid (And.intro ho6 hg6)
             obtain ⟨f6, u6, c6⟩ := HI.out.at3 R1.out.2 O4.out.2 hg6 hjq
             clear ho6 hg6))
        go_roundw
        case rel =>
          refine ⟨j + 1, k + 12 + m, hjq, by go_num, rfl, ?_⟩
          exact Lib.hid (HI.out.next R1.out.2 O4.out.1 O4.out.2 O6.out.1 O6.out.2 hjq)
        case measure => simp [intOf]; omega
      · obtain rfl : j = q := by omega
        go_wp2
        go_ret
        exact ⟨_, _, _, rfl, Nat.le_refl _, HI.out.done, HI.out.bel⟩
end Go.Proofs.Ytndnmcdbfjgglaa
