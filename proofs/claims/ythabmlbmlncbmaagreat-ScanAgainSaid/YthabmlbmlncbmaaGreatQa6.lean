/- PtB, PtF, PtC, CdM, LeR, LeRB, LeRP, CdP, CdA, OpnF, Opn, CdO, Cat, ByC, CdF -/
import Derived.Test.YthabmlbmlncbmaaGreatQa1
import Derived.Test.YthabmlbmlncbmaaGreatQa2
import Derived.Test.YthabmlbmlncbmaaGreatQa4
import Derived.Test.YthabmlbmlncbmaaGreatQa5
import Derived.BigQuiet
import Derived.Deep.QuietTactic
import Derived.Deep.Slices
import Derived.Deep.Fields
import Derived.ChangeSame
import Derived.Lib.SmallJoins
import Derived.Lib.AppendZeros
import Derived.Deep.WholeRow
import Derived.Carry
import Derived.Lib.SliceRun
import Derived.Deep.RegionHeld3
import Derived.Deep.DeepCutAuto
namespace Go.Proofs.YthabmlbmlncbmaaGreat
open Go.RowKit
set_option linter.unusedVariables false
set_option maxRecDepth 20000
theorem run_appr {P : Program} (w : World) {T e : TypeId} (el : El P T e (.int .u8 0) 1 1) (ty : TypeId) (B g k cap : Nat) (xs : List Value) (hown : w.ownsRow B e 1 (.slice (some ⟨g, 0, none⟩) k cap) k xs)
    (A : Option Addr) (m c : Nat) (l : List UInt8) (hr : Rd w A m l) (hroom : k + m <= cap) :
    ∃ w', (Builtin.append_ #[T, T] ty #[.slice (some ⟨g, 0, none⟩) k cap, .slice A m c]).run P w = .ok (.slice (some ⟨g, 0, none⟩) (k + m) cap) w' /\ w'.ownsRow B e 1 (.slice (some ⟨g, 0, none⟩) (k + m) cap) (k + m) (xs ++ cells l) /\ w.grownBy w' (some g) := by
  obtain ⟨i, hi, hz, h1, h2⟩ := info_parts el.info
  rcases A with _ | ad
  · have hm : m = 0 := by
      rcases Nat.eq_zero_or_pos m with h0 | h0
      · exact h0
      · obtain ⟨_, _, h, _⟩ := hr.2 h0
        cases h
    subst hm
    have hn : l = [] := List.eq_nil_of_length_eq_zero hr.1
    subst hn
    exact ⟨w, run_app_nil w B T ty e i 1 el.und hi _ k xs hown c, by simpa [cells_nil] using hown, World.grownBy.refl _ _⟩
  · exact run_append_fits (P := P) w B T ty e i 1 el.und hi h1 g k cap xs hown ad m c (cells l) (by simp [hr.1]) hr.cells_at (cells_one l) hroom
theorem wpList_appr {P : Program} (w : World) {T e : TypeId} (el : El P T e (.int .u8 0) 1 1) {ops : Array Oper} {rest : List Oper} {o : Oper} {a : Act} {Q : Exit -> Act -> World -> Prop} (hgd : Region.wanted o (yielded ops a.tmps) = true) (s x : Operand)
    (ho : o.op = .call { callee := .builtin .append, args := #[s, x], argTypes := #[T, T] })
    (B g k cap : Nat) (xs : List Value) (hs : a.eval s = .slice (some ⟨g, 0, none⟩) k cap) (hown : w.ownsRow B e 1 (.slice (some ⟨g, 0, none⟩) k cap) k xs)
    (A : Option Addr) (m c : Nat) (l : List UInt8) (hx : a.eval x = .slice A m c) (hr : Rd w A m l) (hroom : k + m <= cap)
    (h : ∀ w', w'.ownsRow B e 1 (.slice (some ⟨g, 0, none⟩) (k + m) cap) (k + m) (xs ++ cells l) -> w.grownBy w' (some g) -> wpList P ops Q rest (a.put o.dst (.slice (some ⟨g, 0, none⟩) (k + m) cap)) w') : wpList P ops Q (o :: rest) a w :=
  wpList_w hgd fun _ hK => by
    obtain ⟨w', hrun, h2, h3⟩ := run_appr w el o.type B g k cap xs hown A m c l hr hroom
    unfold Oper.wp execOp
    simp only [ho, resolve, invoke, builtin, Sem.run_bind, Sem.run_pure, Result.andThen_ok, List.map_toArray, List.map_cons, List.map_nil, hs, hx, hrun]
    exact hK _ _ (h w' h2 h3)
theorem wpList_mkc {P : Program} (w : World) {T e : TypeId} {z : Value} {size bytes : Nat} (el : El P T e z size bytes) {ops : Array Oper} {rest : List Oper} {o : Oper} {a : Act} {Q : Exit -> Act -> World -> Prop} (hgd : o.guard = none) (x y : Operand)
    (ho : o.op = Op.makeSlice T x y) (B : Nat) (kl kc : IntKind) (C : Int) (n : Nat) (hl : a.eval x = .int kl 0) (hc : a.eval y = .int kc C) (hC : C = (n : Int)) (hb : bytes * n <= 281474976710656) (hm : n <= maxLen) (hB : B <= w.heap.size)
    (h : ∀ w', w'.ownsRow B e size (.slice (some ⟨w.heap.size, 0, none⟩) 0 n) 0 [] -> Below B w w' -> w.heap.size < w'.heap.size -> wpList P ops Q rest (a.put o.dst (.slice (some ⟨w.heap.size, 0, none⟩) 0 n)) w') : wpList P ops Q (o :: rest) a w := by
  obtain ⟨i, hi, hz, h1, h2⟩ := info_parts el.info
  refine wpList_make_own w hgd x y T ho B e i z size el.und hi hz h1 kl kc C n hl hc hC (by rw [h2]; exact hb) hm hB ?_
  intro w' hown hg
  refine h w' hown ((Below.refl _ _).grown hg hB (fun k hk => by cases hk)) ?_
  rcases hown.2 with ⟨h3, _⟩ | ⟨g, cap, cur, h3, _, hh, _⟩
  · cases h3
  · injection h3 with h3
    injection h3 with h3
    injection h3 with h3
    subst h3
    exact (Array.getElem?_eq_some_iff.1 hh).1
theorem grownBy_setCellA (W : World) (a : Addr) (v : Value) : W.grownBy (W.setCell a v) (some a.block) :=
  ⟨rfl, rfl, rfl, by simp [World.setCell], fun k _ hk => Below.heap_setCell _ _ _ k (fun e => hk (by rw [e]))⟩
structure SpI (w wr : World) (g gl q cap : Nat) (s : Int) (b : List UInt8) (j k : Nat) : Prop where
  kk : k = (pcs q s b j).flatten.length
  row : wr.ownsRow w.heap.size 5 1 (.slice (some ⟨g, 0, none⟩) k cap) k (cells (pcs q s b j).flatten)
  lst : ∃ vs, wr.ownsRow w.heap.size 42 1 (.slice (some ⟨gl, 0, none⟩) q q) q vs /\ ∀ i, i < j -> vs[i]? = some (.slice (some ⟨g, (pcs q s b i).flatten.length, none⟩) (piece q s b i).length (piece q s b i).length)
  ne : g ≠ gl
  bel : Below w.heap.size w wr
theorem SpI.next {w wr w1 w2 w3 : World} {g gl q cap : Nat} {s : Int} {b : List UInt8} {j k m : Nat} (h : SpI w wr g gl q cap s b j k) (hb1 : Below wr.heap.size wr w1)
    (r2 : w2.ownsRow w.heap.size 5 1 (.slice (some ⟨g, 0, none⟩) (k + 12) cap) (k + 12) (cells (pcs q s b j).flatten ++ cells (pcHead j q s))) (g2 : w1.grownBy w2 (some g))
    (r3 : w3.ownsRow w.heap.size 5 1 (.slice (some ⟨g, 0, none⟩) (k + 12 + m) cap) (k + 12 + m) (cells (pcs q s b j).flatten ++ cells (pcHead j q s) ++ cells (pcOwn b j))) (g3 : w2.grownBy w3 (some g)) (hj : j < q) :
    SpI w (w3.setCell ⟨gl, j, none⟩ (.slice (some ⟨g, k, none⟩) (k + 12 + m - k) (k + 12 + m - k))) g gl q cap s b (j + 1) (k + 12 + m) := by
  obtain ⟨hk, row, ⟨vs, lrow, hv⟩, ne, bel⟩ := h
  have l1 := own_keep lrow hb1
  have l2 := l1.kept g2 (.inr (by intro e; injection e with e; exact ne e.symm))
  have l3 := l2.kept g3 (.inr (by intro e; injection e with e; exact ne e.symm))
  have hvl : vs.length = q := by have := lrow.1; omega
  have hm : m = (pcOwn b j).length := by have := r3.1; simp only [List.length_append, cells_length, pcHead_len] at this; omega
  have hpl : (piece q s b j).length = 12 + m := by rw [piece, List.length_append, pcHead_len, hm]
  refine ⟨?_, ?_, ⟨_, own_setC l3 j _, fun i hi => ?_⟩, ne, ?_⟩
  · rw [pcs_succ, List.flatten_append, List.length_append, <- hk]
    simp only [List.flatten_cons, List.flatten_nil, List.append_nil, hpl]
    omega
  · have : cells (pcs q s b (j + 1)).flatten = cells (pcs q s b j).flatten ++ cells (pcHead j q s) ++ cells (pcOwn b j) := by
      rw [pcs_succ, List.flatten_append]
      simp only [List.flatten_cons, List.flatten_nil, List.append_nil, cells_append, piece, List.append_assoc]
    rw [this]
    exact r3.kept (grownBy_setCellA w3 ⟨gl, j, none⟩ _) (.inr (by intro e; injection e with e; exact ne e))
  · rw [List.getElem?_set]
    by_cases hij : j = i
    · subst hij
      rw [if_pos rfl, if_pos (by omega), hpl, <- hk]
      have : k + 12 + m - k = 12 + m := by omega
      rw [this]
    · rw [if_neg hij]
      exact hv i (by omega)
  · have b1 : Below w.heap.size w w1 := bel.trans (hb1.mono bel.size)
    have b2 : Below w.heap.size w w2 := b1.grown g2 b1.size (fun x hx => by injection hx with hx; subst hx; exact own_block r2 rfl)
    have b3 : Below w.heap.size w w3 := b2.grown g3 b2.size (fun x hx => by injection hx with hx; subst hx; exact own_block r2 rfl)
    exact b3.setCell (p := ⟨gl, j, none⟩) (own_block lrow rfl) _
theorem SpI.bel2 {w wr w1 w2 : World} {g gl q cap : Nat} {s : Int} {b : List UInt8} {j k : Nat} (h : SpI w wr g gl q cap s b j k) (hb1 : Below wr.heap.size wr w1) (g2 : w1.grownBy w2 (some g)) : Below w.heap.size w w2 := by
  have b1 : Below w.heap.size w w1 := h.bel.trans (hb1.mono h.bel.size)
  exact b1.grown g2 b1.size (fun x hx => by injection hx with hx; subst hx; exact own_block h.row rfl)
theorem SpI.at3 {w wr w1 w2 w3 : World} {g gl q cap : Nat} {s : Int} {b : List UInt8} {j k : Nat} (h : SpI w wr g gl q cap s b j k) (hb1 : Below wr.heap.size wr w1) (g2 : w1.grownBy w2 (some g)) (g3 : w2.grownBy w3 (some g)) (hj : j < q) :
    w3.frozen? ⟨gl, j, none⟩ = false /\ ∃ u, w3.cell? ⟨gl, j, none⟩ = some u := by
  obtain ⟨hk, row, ⟨vs, lrow, hv⟩, ne, bel⟩ := h
  have l1 := own_keep lrow hb1
  have l2 := l1.kept g2 (.inr (by intro e; injection e with e; exact ne e.symm))
  have l3 := l2.kept g3 (.inr (by intro e; injection e with e; exact ne e.symm))
  have hvl : vs.length = q := by have := lrow.1; omega
  refine ⟨l3.frozenAt j, vs[j], ?_⟩
  have := l3.cells (g := gl) rfl j _ (List.getElem?_eq_getElem (show j < vs.length by omega))
  rwa [Addr.add_lit, Nat.zero_add] at this
theorem SpI.done {w wr : World} {g gl q cap : Nat} {s : Int} {b : List UInt8} {k : Nat} (h : SpI w wr g gl q cap s b q k) : PcsV (fun x => w.heap.size <= x) wr (some ⟨gl, 0, none⟩) q (pcs q s b q) := by
  obtain ⟨hk, row, ⟨vs, lrow, hv⟩, ne, bel⟩ := h
  have hvl : vs.length = q := by have := lrow.1; omega
  have hgB := own_block row rfl
  obtain ⟨A, c, e, _, _, hr⟩ := Rd.of_own row rfl
  injection e with e1 e2 e3
  subst e1
  have key : HdL 1 (EPc (fun x => w.heap.size <= x) wr) vs (pcs q s b q) := HdL.of1 (by rw [hvl, pcs_len]) (fun i x hx => by
    obtain ⟨hi, rfl⟩ := pcs_some hx
    refine ⟨_, hv i hi, _, _, _, rfl, ⟨_, _, _, rfl, ?_, fun b' o' e hpos => ?_⟩, Nat.le_refl _⟩
    · have hle : (pcs q s b i).flatten.length + (piece q s b i).length <= k := by
        have h1 := flat_pcs q s b (i + 1)
        rw [pcs_succ, List.flatten_append, List.length_append] at h1
        simp only [List.flatten_cons, List.flatten_nil, List.append_nil] at h1
        have h2 := flat_pcs q s b q
        have h3 : min ((i + 1) * 460) b.length <= min (q * 460) b.length := by have := Nat.mul_le_mul_right 460 (show i + 1 <= q from hi); omega
        omega
      have := hr.part (lo := (pcs q s b i).flatten.length) (m := (piece q s b i).length) hle (some ⟨g, (pcs q s b i).flatten.length, none⟩) (fun _ b2 o2 e2 => by injection e2 with e2; injection e2 with e3 e4; subst e3 e4; rw [Nat.zero_add])
      rwa [flat_at hi] at this
    · injection e with e
      injection e with e
      subst e
      refine ⟨hgB, ?_⟩
      rcases row.2 with ⟨h3, _⟩ | ⟨g', cap', cur, h3, _, hh, _⟩
      · cases h3
      · injection h3 with h3
        injection h3 with h3
        injection h3 with h3
        subst h3
        exact (Array.getElem?_eq_some_iff.1 hh).1)
  obtain ⟨A2, c2, e', _, _, hR⟩ := own_rowsL lrow key (pcs_len q s b q)
  injection e' with e1
  subst e1
  obtain ⟨vs', h1, h2, h3⟩ := hR
  exact ⟨vs', h1, h2.mono (fun x hx => hx.1), h3⟩
def SplitP (w : World) (ls : List (List UInt8)) (e : Ending) (w' : World) : Prop := ∃ A n c, e = .returned (.slice A n c) /\ n <= c /\ PcsV (fun x => w.heap.size <= x) w' A n ls /\ Below w.heap.size w w'
set_option maxHeartbeats 2000000 in
theorem PSplit_any (A : Option Addr) (n c : Nat) (b : List UInt8) (s : Int) (w : World) (hr : Rd w A n b) (hc : n <= c) (hn : n <= 100000) :
    Calls Tryz.prog 65 #[.int .i64 s, .slice A n c] w (SplitP w (splitL s b)) := by
  have hl := hr.1
  obtain ⟨q, hq⟩ : ∃ q, q = needN n := ⟨_, rfl⟩
  have hqb := needN_bd n
  rw [<- hq] at hqb
  have hq2 : q <= 1024 := by omega
  have hS : splitL s b = pcs q (clampS s) b q := by rw [splitL_ok (by rw [hl, <- hq]; omega), hl, <- hq]
  rw [hS]
  have CN := hi_ (GNeed_any (n : Int) w (by omega))
  rw [needN_cast, <- hq] at CN
  have HR := hi_ hr
  have HL := hi_ hl
  have HQ := hi_ hqb
  have hzz : (s < 0 /\ clampS s = 0) \/ ((0 <= s /\ s <= 281474976710656) /\ clampS s = s) \/ (281474976710656 < s /\ clampS s = 281474976710656) := by unfold clampS; omega
  obtain ⟨z, hz⟩ : ∃ z, z = clampS s := ⟨_, rfl⟩
  rw [<- hz] at hzz ⊢
  clear hr hl hq hqb hS hz
  have CAP := hi_ (show (q : Int) * 12 + (n : Int) = ((q * 12 + n : Nat) : Int) by omega)
  rcases hzz with ⟨hs, hv⟩ | ⟨hs, hv⟩ | ⟨hs, hv⟩
  all_goals
    have HV := hi_ hv
    clear hv
    go_enter Tryz.func65, Tryz.ntmps65
    go_wp2_with (first
      | (go_at_call 77; refine CN.out.mono ?_; rintro e w' ⟨rfl, rfl⟩)
      | (at_make; refine wpList_mkc _ bytesT rfl (.const (.int .i64 0)) (.tmp 22) rfl w.heap.size .i64 .i64 _ (q * 12 + n) rfl rfl (by omega) (by omega) (by unfold maxLen; omega) (Nat.le_refl _) ?_; intro w1 ho1 hb1 hlt1)
      | (at_make; refine wpList_mkn _ rowsT rfl (.tmp 24) (.tmp 24) rfl w1.heap.size .i64 .i64 _ _ q rfl rfl rfl rfl (by omega) (by unfold maxLen; omega) (Nat.le_refl _) ?_; intro w2 ho2 hb2))
    have I0 : Hid (SpI w w2 w.heap.size w1.heap.size q (q * 12 + n) z b 0 0) := hi_ ⟨by simp [pcs], by
        have := own_keep ho1 hb2
        simpa [pcs, cells_nil] using this, ⟨_, own_mono ho2 hb1.size, fun i hi => absurd hi (Nat.not_lt_zero _)⟩, Nat.ne_of_lt hlt1, hb1.trans (hb2.mono hb1.size)⟩
    obtain ⟨g, hg⟩ : ∃ g, g = w.heap.size := ⟨_, rfl⟩
    obtain ⟨gl, hgl⟩ : ∃ g, g = w1.heap.size := ⟨_, rfl⟩
    rw [<- hgl] at I0 ⊢
    rw [<- hg] at I0 ⊢
    clear ho1 hb1 hlt1 ho2 hb2 hgl hg hs
    go_loopw [6, 28] (fun av iv wr => ∃ j k : Nat, j <= q /\ iv = .int .i64 j /\ av = .slice (some ⟨g, 0, none⟩) k (q * 12 + n) /\ Hid (SpI w wr g gl q (q * 12 + n) z b j k)) (fun _ iv _ => q - (intOf iv).toNat)
    case atStart => exact ⟨0, 0, Nat.zero_le _, rfl, rfl, I0⟩
    case round =>
      obtain ⟨j, k, hj, rfl, rfl, HI⟩ := hrel
      by_cases hjq : j < q
      · have hjn : j * 460 <= n := by have := HQ.out; omega
        have hk : k = 12 * j + min (j * 460) n := by have := HI.out.kk; rw [flat_pcs, HL.out] at this; exact this
        have hk1 : k + 12 <= q * 12 + n := by omega
        have hk2 : k + 12 + min 460 (n - j * 460) <= q * 12 + n := by omega
        have CH := hi_ (phead_any j q z wr)
        rw [HV.out] at CH
        obtain ⟨m, hm⟩ : ∃ m, m = min 460 (n - j * 460) := ⟨_, rfl⟩
        rw [<- hm] at hk2
        have HJ := hi_ hjn
        have HM := hi_ hm
        clear hk hjn hm
        go_wp2_with (first
          | (go_at_call 78; refine CH.out.mono ?_; rintro e w3 ⟨A1, c1, rfl, hr1, hb3⟩
             rw [<- HV.out] at hr1
             have R1 := hi_ (And.intro hr1 hb3)
             have O1 := hi_ (own_keep HI.out.row hb3)
             clear hr1 hb3)
          | (at_builtin; have _t := R1; refine wpList_appr _ bytesT rfl (.tmp 33) (.tmp 37) rfl w.heap.size g k (q * 12 + n) _ rfl O1.out A1 12 c1 _ rfl R1.out.1 hk1 ?_; intro w4 ho4 hg4
             have O4 := hi_ (And.intro ho4 hg4)
             have CO := hi_ (pown_any A n c b j w4 (HR.out.below (Nat.le_refl _) (HI.out.bel2 R1.out.2 hg4)) hc (by omega) HJ.out)
             rw [<- HM.out] at CO
             clear ho4 hg4)
          | (go_at_call 79; refine CO.out.mono ?_; rintro e w5 ⟨A2, c2, rfl, hr2, rfl⟩; have R2 := hi_ hr2; clear hr2)
          | (at_builtin; refine wpList_appr _ bytesT rfl (.tmp 39) (.tmp 42) rfl w.heap.size g (k + 12) (q * 12 + n) _ rfl O4.out.1 A2 m c2 _ rfl R2.out hk2 ?_; intro w6 ho6 hg6
             have O6 := hi_ (And.intro ho6 hg6)
             obtain ⟨f6, u6, c6⟩ := HI.out.at3 R1.out.2 O4.out.2 hg6 hjq
             clear ho6 hg6))
        go_roundw
        case rel =>
          refine ⟨j + 1, k + 12 + m, hjq, by go_num, rfl, ?_⟩
          exact hi_ (HI.out.next R1.out.2 O4.out.1 O4.out.2 O6.out.1 O6.out.2 hjq)
        case measure => simp [intOf]; omega
      · obtain rfl : j = q := by omega
        go_wp2
        go_ret
        exact ⟨_, _, _, rfl, Nat.le_refl _, HI.out.done, HI.out.bel⟩
end Go.Proofs.YthabmlbmlncbmaaGreat
namespace Go.Proofs.YthabmlbmlncbmaaGreat
open Go.RowKit
set_option linter.unusedVariables false
set_option maxRecDepth 20000
def JoinP (w : World) (r : Int × List UInt8 × Bool) (e : Ending) (w' : World) : Prop :=
  ∃ A n c, e = .returned (.tuple #[.int .i64 r.1, .slice A n c, .bool r.2.2]) /\ Rd w' A n r.2.1 /\ (n <= c /\ c <= maxLen /\ ∀ b o, A = some ⟨b, o, none⟩ -> 0 < n -> w.heap.size <= b) /\ Below w.heap.size w w'
theorem seqAt_succ {xs : List (List UInt8)} {j : Nat} {x : List UInt8} (h : xs[j]? = some x) : seqAt xs (j + 1) = sqn x := by
  unfold seqAt
  rw [if_neg (by omega), Nat.add_sub_cancel, List.getD_eq_getElem?_getD, h]
  rfl
theorem tails_take {xs : List (List UInt8)} {j : Nat} {x : List UInt8} (h : xs[j]? = some x) : tails (xs.take (j + 1)) = tails (xs.take j) ++ x.drop 12 := by
  rw [List.take_add_one, h, Option.toList_some, tails_snoc]
structure JnI (w wr : World) (bv : Value) (xs : List (List UInt8)) (j k : Nat) : Prop where
  hd : ∀ i x, i < j -> xs[i]? = some x -> HdOk x
  ow : wr.ownsRow w.heap.size 5 1 bv k (cells (tails (xs.take j)))
  kk : k <= 460 * j
  bel : Below w.heap.size w wr
theorem JnI.next {w wr w2 : World} {bv bv' : Value} {xs : List (List UInt8)} {j k m : Nat} {x : List UInt8} (h : JnI w wr bv xs j k) (hx : xs[j]? = some x) (hh : HdOk x) (hm : m = x.length - 12)
    (ho : w2.ownsRow w.heap.size 5 1 bv' (k + m) (cells (tails (xs.take j)) ++ cells (x.drop 12))) (hb : Below w.heap.size wr w2) : JnI w w2 bv' xs (j + 1) (k + m) := by
  refine ⟨fun i y hi hy => ?_, ?_, ?_, h.bel.trans hb⟩
  · by_cases hij : i = j
    · subst hij
      rw [hx] at hy
      exact (Option.some.inj hy) ▸ hh
    · exact h.hd i y (by omega) hy
  · rw [tails_take hx, cells_append]
    exact ho
  · have := h.kk
    have := hh.1.2
    omega
theorem hdT_yes {l : List UInt8} (h : HdOk l) : hdT l = .tuple #[.int .i64 (plc l), .int .i64 (cnt l), .int .i64 (sqn l), .bool true] := by unfold hdT; rw [if_pos h]
theorem hdT_no {l : List UInt8} (h : ¬ HdOk l) : hdT l = .tuple #[.int .i64 0, .int .i64 0, .int .i64 0, .bool false] := by unfold hdT; rw [if_neg h]
set_option maxHeartbeats 2000000 in
theorem PJoin_any {K : Nat -> Prop} (A : Option Addr) (n c : Nat) (xs : List (List UInt8)) (w : World) (h : PcsV K w A n xs) (hn : n <= 100) (hs : ∀ x ∈ xs, x.length <= 1000000) :
    Calls Tryz.prog 56 #[.slice A n c] w (JoinP w (joinL xs)) := by
  have H := hi_ h
  have HL := hi_ h.len
  have HS := hi_ hs
  clear h hs
  go_enter Tryz.func56, Tryz.ntmps56
  go_wp2
  go_loopw [2, 3, 9] (fun sv bv iv wr => ∃ j k : Nat, j <= n /\ iv = .int .i64 j /\ sv = .int .i64 (seqAt xs j) /\ Hid (JnI w wr bv xs j k)) (fun _ _ iv _ => n - (intOf iv).toNat)
  case atStart => exact ⟨0, 0, Nat.zero_le _, rfl, rfl, hi_ ⟨fun i x hi => absurd hi (Nat.not_lt_zero _), by simpa [tails, cells_nil] using World.ownsRow_nil _ _ _ _, Nat.le_refl _, Below.refl _ _⟩⟩
  case round =>
    obtain ⟨j, k, hj, rfl, rfl, HI⟩ := hrel
    by_cases hjn : j < n
    · obtain ⟨x, hx⟩ : ∃ x, xs[j]? = some x := ⟨_, List.getElem?_eq_getElem (by rw [HL.out]; exact hjn)⟩
      obtain ⟨b, o, PA, m, cc, rfl, hlt, hc, hr, hmc, _⟩ := (H.out.below HI.out.bel).cell hx
      have hxl := HS.out x (List.mem_of_getElem? hx)
      have hm := hr.1
      have CH := hi_ (PHead_any PA m cc x wr hr hmc (by omega))
      have HX := hi_ (And.intro hx (And.intro hr hmc))
      by_cases hh : HdOk x
      · rw [hdT_yes hh] at CH
        have h12 : 12 <= m /\ m <= 472 := by have := hh.1; omega
        have hkb : k <= 100000 := by have := HI.out.kk; omega
        have HH := hi_ hh
        have HM := hi_ hm
        have R1 : Hid (∀ A', (0 < m - 12 -> A' = PA.map fun x => x.add 12) -> Rd wr A' (m - 12) (x.drop 12)) := hi_ (fun A' hA => by
          have := hr.part (lo := 12) (m := m - 12) (by omega) A' (fun hp b o e => by rw [hA hp, e]; simp [Addr.add_lit])
          rwa [List.take_of_length_le (by rw [List.length_drop]; omega)] at this)
        have hcc : (cc = 12 /\ m = 12) \/ ¬ cc = 12 := by omega
        clear hr hh hm hxl hx hlt
        rcases hcc with ⟨rfl, rfl⟩ | hcc
        · go_wp2_with (first
            | (go_at_call 55; refine CH.out.mono ?_; rintro e w2 ⟨rfl, rfl⟩)
            | (at_builtin; refine wpList_app wr bytesT rfl (.tmp 22) (.tmp 24) rfl w.heap.size u3 k _ rfl HI.out.ow PA 0 0 (x.drop 12) rfl (R1.out _ (fun h => by omega)) (by omega) HI.out.bel.size ?_; intro v3 w3 ho3 hb3; have O3 := hi_ (And.intro ho3 hb3); clear ho3 hb3))
          go_roundw
          case rel => exact ⟨j + 1, k + 0, hjn, by go_num, by rw [seqAt_succ HX.out.1], hi_ (HI.out.next HX.out.1 HH.out (by rw [HM.out]) O3.out.1 O3.out.2)⟩
          case measure => simp [intOf]; omega
        · go_wp2_with (first
            | (go_at_call 55; refine CH.out.mono ?_; rintro e w2 ⟨rfl, rfl⟩)
            | (at_builtin; refine wpList_app wr bytesT rfl (.tmp 22) (.tmp 24) rfl w.heap.size u3 k _ rfl HI.out.ow (PA.map fun x => x.add 12) (m - 12) (cc - 12) (x.drop 12) rfl (R1.out _ (fun h => rfl)) (by omega) HI.out.bel.size ?_; intro v3 w3 ho3 hb3; have O3 := hi_ (And.intro ho3 hb3); clear ho3 hb3))
          go_roundw
          case rel => exact ⟨j + 1, k + (m - 12), hjn, by go_num, by rw [seqAt_succ HX.out.1], hi_ (HI.out.next HX.out.1 HH.out (by rw [HM.out]) O3.out.1 O3.out.2)⟩
          case measure => simp [intOf]; omega
      · rw [hdT_no hh] at CH
        have HH := hi_ hh
        clear hr hh hm hxl hx hlt
        go_wp2_with (go_at_call 55; refine CH.out.mono ?_; rintro e w2 ⟨rfl, rfl⟩)
        go_ret3
        have hj : joinL xs = (0, [], false) := joinL_no (fun s hg => HH.out (hg.2 j x HX.out.1).1)
        rw [hj]
        exact ⟨none, 0, 0, rfl, Rd.nil _ _, ⟨Nat.le_refl _, Nat.zero_le _, fun _ _ e => by cases e⟩, HI.out.bel⟩
    · obtain rfl : j = n := by omega
      have hT : xs.take j = xs := List.take_of_length_le (Nat.le_of_eq HL.out)
      have ho := HI.out.ow
      rw [hT] at ho
      have hk : k <= 46000 := by have := HI.out.kk; omega
      obtain ⟨BA, bc, hbv, hbc, hbm, hbr⟩ := Rd.of_own ho rfl
      subst hbv
      have CS := hi_ (PSplit_any BA k bc (tails xs) (seqAt xs j) wr hbr hbc (by omega))
      have HBR := hi_ (And.intro hbr (And.intro hbc (And.intro hbm (show ∀ b o, BA = some ⟨b, o, none⟩ -> 0 < k -> w.heap.size <= b from fun b o e _ => own_block ho e))))
      have hall : ∀ x ∈ xs, HdOk x := fun x hx => by
        obtain ⟨i, hi, e⟩ := List.getElem_of_mem hx
        exact HI.out.hd i x (by have := HL.out; omega) (by rw [List.getElem?_eq_getElem hi, e])
      have HJ : Hid (joinL xs = if xs = splitL (seqAt xs j) (tails xs) then (seqAt xs j, tails xs, true) else (0, [], false)) := hi_ (by
        have hgi := good_iff xs
        rw [HL.out] at hgi
        unfold joinL
        rw [HL.out]
        by_cases hq : xs = splitL (seqAt xs j) (tails xs)
        · rw [if_pos hq, if_pos (hgi.1 ⟨hall, hq⟩)]
        · rw [if_neg hq, if_neg (fun hg => hq (hgi.2 hg).2)])
      obtain ⟨ys, hys⟩ : ∃ ys, ys = splitL (seqAt xs j) (tails xs) := ⟨_, rfl⟩
      rw [<- hys] at CS HJ
      obtain ⟨sq, hsq⟩ : ∃ sq, sq = seqAt xs j := ⟨_, rfl⟩
      rw [<- hsq] at CS HJ ⊢
      have HB := hi_ HI.out.bel
      have hql : ys.length <= 1000000 := by
        rw [hys]
        unfold splitL
        have := needN_bd (tails xs).length
        split
        · simp
        · rw [pcs_len]; omega
      clear hys hsq hall hbr hbc hbm ho hT hk HI
      by_cases hq : xs = ys
      · rw [if_pos hq] at HJ
        have HQ := hi_ hq
        clear hq
        go_wp2_with (first
          | (go_at_call 65; refine CS.out.mono ?_; rintro e w2 ⟨SA, sn, sc, rfl, hsc, hsv, hsb⟩
             have hsn := hsv.len
             have CE := hi_ (EqF_any A SA j sn c sc xs ys w2 (H.out.below (HB.out.trans (hsb.mono HB.out.size))) hsv (by omega) (by omega))
             rw [decide_eq_true HQ.out] at CE
             have R2 := hi_ (And.intro (HBR.out.1.below (Nat.le_refl _) hsb) (HB.out.trans (hsb.mono HB.out.size)))
             clear hsn hsv hsb hsc)
          | (go_at_call 64; refine CE.out.mono ?_; rintro e w3 ⟨rfl, rfl⟩))
        go_ret3
        rw [HJ.out]
        exact ⟨BA, k, bc, rfl, R2.out.1, HBR.out.2, R2.out.2⟩
      · rw [if_neg hq] at HJ
        have HQ := hi_ hq
        clear hq
        go_wp2_with (first
          | (go_at_call 65; refine CS.out.mono ?_; rintro e w2 ⟨SA, sn, sc, rfl, hsc, hsv, hsb⟩
             have hsn := hsv.len
             have CE := hi_ (EqF_any A SA j sn c sc xs ys w2 (H.out.below (HB.out.trans (hsb.mono HB.out.size))) hsv (by omega) (by omega))
             rw [decide_eq_false HQ.out] at CE
             have R2 := hi_ (HB.out.trans (hsb.mono HB.out.size))
             clear hsn hsv hsb hsc)
          | (go_at_call 64; refine CE.out.mono ?_; rintro e w3 ⟨rfl, rfl⟩))
        go_ret3
        rw [HJ.out]
        exact ⟨none, 0, 0, rfl, Rd.nil _ _, ⟨Nat.le_refl _, Nat.zero_le _, fun _ _ e => by cases e⟩, R2.out⟩
end Go.Proofs.YthabmlbmlncbmaaGreat
namespace Go.Proofs.YthabmlbmlncbmaaGreat
open Go.RowKit
set_option linter.unusedVariables false
set_option maxRecDepth 20000
theorem EPc.of_own {w : World} {B e : Nat} {v : Value} {m : Nat} {l : List UInt8} (h : w.ownsRow B e 1 v m (cells l)) : EPc (fun y => B <= y) w l [v] := by
  obtain ⟨A, c, rfl, hmc, _, hr⟩ := Rd.of_own h rfl
  refine ⟨A, m, c, rfl, ⟨A, m, c, rfl, hr, fun b o e hm => ⟨own_block h e, ?_⟩⟩, hmc⟩
  obtain ⟨b', o', e', hlt, _⟩ := hr.2 hm
  rw [e] at e'
  injection e' with e'
  injection e' with e1 e2
  rw [e1]
  exact hlt
structure RsI (w wr : World) (lv : Value) (q : Nat) (s : Int) (b : List UInt8) (j : Nat) (vs : List Value) (D : Nat -> Prop) : Prop where
  gr : Gr EPc 42 1 wr w.heap.size lv vs D (pcs q s b j)
  dd : ∀ y, D y -> w.heap.size <= y
  bel : Below w.heap.size w wr
theorem RsI.next {w wr w2 w3 : World} {lv lv' : Value} {q : Nat} {s : Int} {b : List UInt8} {j : Nat} {vs : List Value} {D : Nat -> Prop} (h : RsI w wr lv q s b j vs D) (hb2 : Below wr.heap.size wr w2) {x : Value}
    (hx : EPc (fun y => wr.heap.size <= y) w2 (piece q s b j) [x]) (ho : w3.ownsRow w.heap.size 42 1 lv' (j + 1) (vs ++ [x])) (hg : w2.grownBy w3 lv.ownBlock) (hv : lv'.ownBlock = lv.ownBlock \/ lv'.ownBlock = some w2.heap.size) :
    ∃ vs' D', RsI w w3 lv' q s b (j + 1) vs' D' := by
  have g2 := h.gr.below EPc.ok hb2
  have hlen : (pcs q s b j).length = j := pcs_len q s b j
  have g3 := g2.put EPc.ok (K := fun y => wr.heap.size <= y) (r := [x]) rfl hx (fun y hy e => by have := (own_geB h.gr.ow e).2; omega) (by rw [hlen]; exact ho) hg hv
  rw [<- pcs_succ] at g3
  refine ⟨_, _, g3, fun y hy => ?_, ?_⟩
  · rcases hy with hy | ⟨hy, _⟩
    · exact h.dd y hy
    · exact Nat.le_trans h.bel.size hy
  · have b2 : Below w.heap.size w w2 := h.bel.trans (hb2.mono h.bel.size)
    exact b2.grown hg b2.size (fun k hk => (own_geB h.gr.ow hk).1)
theorem RsI.next8 {w wr w8 w9 : World} {lv lv' : Value} {q : Nat} {s : Int} {b : List UInt8} {j m : Nat} {vs : List Value} {D : Nat -> Prop} (h : RsI w wr lv q s b j vs D) {x : Value} {t : TypeId} (hb : Below wr.heap.size wr w8)
    (ho8 : w8.ownsRow wr.heap.size 5 1 x m (cells (numB 2 (j : Int)) ++ cells (numB 2 (q : Int)) ++ cells (numB 8 s) ++ cells (pcOwn b j))) (ho : w9.ownsRow w.heap.size 42 1 lv' (j + 1) (vs ++ [x]))
    (hg : (w8.alloc (.cells #[x] t)).grownBy w9 lv.ownBlock) (hv : lv'.ownBlock = lv.ownBlock \/ lv'.ownBlock = some (w8.alloc (.cells #[x] t)).heap.size) :
    ∃ vs' D', RsI w w9 lv' q s b (j + 1) vs' D' := by
  have e : cells (numB 2 (j : Int)) ++ cells (numB 2 (q : Int)) ++ cells (numB 8 s) ++ cells (pcOwn b j) = cells (piece q s b j) := by simp [piece, pcHead, cells_append]
  rw [e] at ho8
  have ho8' := own_keep ho8 ((Below.refl _ w8).alloc (Nat.le_refl _) (.cells #[x] t))
  exact h.next (hb.trans ((Below.refl _ w8).alloc hb.size (.cells #[x] t))) (EPc.of_own ho8') ho hg hv
theorem RsI.own8 {w wr w8 : World} {lv : Value} {q : Nat} {s : Int} {b : List UInt8} {j : Nat} {vs : List Value} {D : Nat -> Prop} {cs : Array Value} {t : TypeId} (h : RsI w wr lv q s b j vs D) (hb : Below wr.heap.size wr w8) : (w8.alloc (.cells cs t)).ownsRow w.heap.size 42 1 lv j vs := by
  have := h.gr.ow
  rw [pcs_len] at this
  exact (own_keep this hb).alloc _
theorem RsI.done {w wr : World} {lv : Value} {q : Nat} {s : Int} {b : List UInt8} {vs : List Value} {D : Nat -> Prop} (h : RsI w wr lv q s b q vs D) : SplitP w (pcs q s b q) (.returned lv) wr := by
  obtain ⟨A, c, rfl, h1, _, h2⟩ := h.gr.rows EPc.ok
  refine ⟨A, _, c, rfl, h1, ?_, h.bel⟩
  exact PcsV.mono (K := fun x => D x \/ (w.heap.size <= x /\ x < wr.heap.size)) h2 (fun y hy => hy.elim (h.dd y) (fun k => k.1))
set_option maxHeartbeats 2000000 in
theorem RSplit_pos (A : Option Addr) (n c : Nat) (b : List UInt8) (s : Int) (w : World) (hr : Rd w A n b) (hc : n <= c) (hn : n <= 100000) (hcp : 0 < c) :
    Calls Tryz.prog 32 #[.int .i64 s, .slice A n c] w (SplitP w (splitL s b)) := by
  have hl := hr.1
  obtain ⟨q, hq⟩ : ∃ q, q = needN n := ⟨_, rfl⟩
  have hqb := needN_bd n
  rw [<- hq] at hqb
  have hq2 : q <= 1024 := by omega
  have hS : splitL s b = pcs q (clampS s) b q := by rw [splitL_ok (by rw [hl, <- hq]; omega), hl, <- hq]
  rw [hS]
  have CN := hi_ (RNeed_any (n : Int) w (by omega))
  rw [needN_cast, <- hq] at CN
  have HR := hi_ hr
  have HL := hi_ hl
  have HQ := hi_ hqb
  have hzz : (s < 0 /\ clampS s = 0) \/ ((0 <= s /\ s <= 281474976710656) /\ clampS s = s) \/ (281474976710656 < s /\ clampS s = 281474976710656) := by unfold clampS; omega
  obtain ⟨z, hz⟩ : ∃ z, z = clampS s := ⟨_, rfl⟩
  rw [<- hz] at hzz ⊢
  clear hr hl hq hqb hS hz
  rcases hzz with ⟨hs, hv⟩ | ⟨hs, hv⟩ | ⟨hs, hv⟩
  all_goals
    have HV := hi_ hv
    clear hv
    go_enter Tryz.func32, Tryz.ntmps32
    go_wp2_with (go_at_call 47; refine CN.out.mono ?_; rintro e w' ⟨rfl, rfl⟩)
    have I0 : Hid (RsI w w (.slice none 0 0) q z b 0 [] (fun _ => False)) := hi_ ⟨Gr.start (World.ownsRow_nil _ _ _ _) (Nat.le_refl _), fun _ h => h.elim, Below.refl _ _⟩
    clear hs
    go_loopw [6, 7] (fun lv iv wr => ∃ (j : Nat) (vs : List Value) (D : Nat -> Prop), j <= q /\ iv = .int .i64 j /\ Hid (RsI w wr lv q z b j vs D)) (fun _ iv _ => q - (intOf iv).toNat)
    case atStart => exact ⟨0, [], _, Nat.zero_le _, rfl, I0⟩
    case round =>
      obtain ⟨j, vs, D, hj, rfl, HI⟩ := hrel
      by_cases hjq : j < q
      · have hjn : 460 * j <= n := by have := HQ.out; omega
        have N1 := hi_ (Num_any 2 (j : Int) wr)
        rw [wd_2] at N1
        have HB := hi_ HI.out.bel.size
        have HPW : Hid (∀ W, Below w.heap.size w W -> ∀ (A' : Option Addr) (m : Nat), (0 < m -> A' = A.map fun x => x.add (460 * j)) -> m = min 460 (n - 460 * j) -> Rd W A' m (pcOwn b j)) := hi_ (by
          rintro W hW A' m hA rfl
          have h1 := (HR.out.below (Nat.le_refl _) hW).part (lo := 460 * j) (m := min 460 (n - 460 * j)) (by omega) A' (fun h b' o' e => by rw [hA h, e]; simp [Addr.add_lit])
          have e : (b.drop (460 * j)).take (min 460 (n - 460 * j)) = pcOwn b j := by
            unfold pcOwn
            rw [Nat.mul_comm j 460, List.take_eq_take_iff, List.length_drop, HL.out]
            omega
          rwa [e] at h1)
        have hcj : 460 * j < c := by have := HQ.out; omega
        have hcase : 460 < n - 460 * j \/ ¬ 460 < n - 460 * j := by omega
        rcases hcase with hbig | hbig
        all_goals
          go_wp2_with (first
            | (go_at_call 29; have _t := N1; refine N1.out.mono ?_; rintro e w3 ⟨v3, rfl, ho3, hb3⟩
               have N2 := hi_ (Num_any 2 (q : Int) w3)
               rw [wd_2] at N2
               have O3 := hi_ (And.intro ho3 hb3)
               clear ho3 hb3 N1)
            | (go_at_call 29; have _t := N2; refine N2.out.mono ?_; rintro e w4 ⟨v4, rfl, ho4, hb4⟩
               obtain ⟨A4, c4, rfl, _, _, hr4⟩ := Rd.of_own ho4 rfl
               have R4 := hi_ (And.intro hr4 (And.intro (own_keep O3.out.1 hb4) (O3.out.2.trans (hb4.mono O3.out.2.size))))
               clear ho4 hb4 hr4 N2)
            | (at_builtin; have _t := R4; refine wpList_app _ bytesT rfl (.tmp 34) (.tmp 36) rfl wr.heap.size v3 2 _ rfl R4.out.2.1 A4 2 c4 _ rfl R4.out.1 (by omega) R4.out.2.2.size ?_; intro v5 w5 ho5 hb5
               have N3 := hi_ (Num_any 8 z w5)
               rw [wd_8, HV.out] at N3
               have O5 := hi_ (And.intro ho5 (R4.out.2.2.trans hb5))
               clear ho5 hb5 R4)
            | (go_at_call 29; have _t := N3; refine N3.out.mono ?_; rintro e w6 ⟨v6, rfl, ho6, hb6⟩
               obtain ⟨A6, c6, rfl, _, _, hr6⟩ := Rd.of_own ho6 rfl
               rw [<- HV.out] at hr6
               have R6 := hi_ (And.intro hr6 (And.intro (own_keep O5.out.1 hb6) (O5.out.2.trans (hb6.mono O5.out.2.size))))
               clear ho6 hb6 hr6 N3)
            | (at_builtin; have _t := R6; refine wpList_app _ bytesT rfl (.tmp 38) (.tmp 40) rfl wr.heap.size v5 4 _ rfl R6.out.2.1 A6 8 c6 _ rfl R6.out.1 (by omega) R6.out.2.2.size ?_; intro v7 w7 ho7 hb7
               have O7 := hi_ (And.intro ho7 (R6.out.2.2.trans hb7))
               have RP := hi_ (fun A' m h1 h2 => HPW.out w7 (HI.out.bel.trans (O7.out.2.mono HB.out)) A' m h1 h2)
               clear ho7 hb7 R6)
            | (at_builtin; have _t := RP; refine wpList_app _ bytesT rfl (.tmp 43) (.tmp 44) rfl wr.heap.size v7 12 _ rfl O7.out.1 _ _ _ (pcOwn b j) rfl (RP.out _ _ (fun h => by first | rfl | omega) (by omega)) (by omega) O7.out.2.size ?_; intro v8 w8 ho8 hb8
               obtain ⟨g8, c8, rfl, _, _⟩ := ho8.form (by omega)
               have O8 := hi_ (And.intro ho8 (O7.out.2.trans hb8))
               clear ho8 hb8 RP)
            | (at_builtin; have _t := O8; refine wpList_appX (K := fun y => w8.heap.size <= y) rowsT rfl (.tmp 42) (.tmp 46) rfl w.heap.size _ j vs rfl (HI.out.own8 O8.out.2) (some ⟨w8.heap.size, 0, none⟩) 1 1 [_] rfl (VRow.new w8 #[_] _ 1 1 rfl) (fun u hu => by simp at hu; rw [hu]; rfl) (by omega) (by decide) (by simp; exact Nat.le_succ_of_le (HI.out.bel.trans (O8.out.2.mono HB.out)).size) ?_; intro v9 w9 ho9 hg9 hv9
               have O9 := hi_ (And.intro ho9 (And.intro hg9 hv9))
               clear ho9 hg9 hv9))
          go_roundw
          case rel =>
            obtain ⟨vs', D', h'⟩ := HI.out.next8 O8.out.2 O8.out.1 O9.out.1 O9.out.2.1 O9.out.2.2
            exact ⟨j + 1, vs', D', hjq, by go_num, hi_ h'⟩
          case measure => simp [intOf]; omega
      · obtain rfl : j = q := by omega
        go_wp2
        go_ret
        exact HI.out.done
set_option maxHeartbeats 2000000 in
theorem RSplit_zero (A : Option Addr) (b : List UInt8) (s : Int) (w : World) (hr : Rd w A 0 b) :
    Calls Tryz.prog 32 #[.int .i64 s, .slice A 0 0] w (SplitP w (splitL s b)) := by
  have hl := hr.1
  obtain ⟨q, hq⟩ : ∃ q, q = needN 0 := ⟨_, rfl⟩
  have hqb := needN_bd 0
  rw [<- hq] at hqb
  have hq2 : q <= 1024 := by omega
  have hS : splitL s b = pcs q (clampS s) b q := by rw [splitL_ok (by rw [hl, <- hq]; omega), hl, <- hq]
  rw [hS]
  have CN := hi_ (RNeed_any ((0 : Nat) : Int) w (by omega))
  rw [needN_cast, <- hq] at CN
  have HR := hi_ hr
  have HL := hi_ hl
  have HQ := hi_ hqb
  have hzz : (s < 0 /\ clampS s = 0) \/ ((0 <= s /\ s <= 281474976710656) /\ clampS s = s) \/ (281474976710656 < s /\ clampS s = 281474976710656) := by unfold clampS; omega
  obtain ⟨z, hz⟩ : ∃ z, z = clampS s := ⟨_, rfl⟩
  rw [<- hz] at hzz ⊢
  clear hr hl hq hqb hS hz
  rcases hzz with ⟨hs, hv⟩ | ⟨hs, hv⟩ | ⟨hs, hv⟩
  all_goals
    have HV := hi_ hv
    clear hv
    go_enter Tryz.func32, Tryz.ntmps32
    go_wp2_with (go_at_call 47; refine CN.out.mono ?_; rintro e w' ⟨rfl, rfl⟩)
    have I0 : Hid (RsI w w (.slice none 0 0) q z b 0 [] (fun _ => False)) := hi_ ⟨Gr.start (World.ownsRow_nil _ _ _ _) (Nat.le_refl _), fun _ h => h.elim, Below.refl _ _⟩
    clear hs
    go_loopw [6, 7] (fun lv iv wr => ∃ (j : Nat) (vs : List Value) (D : Nat -> Prop), j <= q /\ iv = .int .i64 j /\ Hid (RsI w wr lv q z b j vs D)) (fun _ iv _ => q - (intOf iv).toNat)
    case atStart => exact ⟨0, [], _, Nat.zero_le _, rfl, I0⟩
    case round =>
      obtain ⟨j, vs, D, hj, rfl, HI⟩ := hrel
      by_cases hjq : j < q
      · have hjn : 460 * j <= 0 := by have := HQ.out; omega
        have N1 := hi_ (Num_any 2 0 wr)
        rw [wd_2] at N1
        have HB := hi_ HI.out.bel.size
        have HPW : Hid (∀ W, Below w.heap.size w W -> ∀ (A' : Option Addr) (m : Nat), (0 < m -> A' = A.map fun x => x.add (460 * j)) -> m = min 460 (0 - 460 * j) -> Rd W A' m (pcOwn b j)) := hi_ (by
          rintro W hW A' m hA rfl
          have h1 := (HR.out.below (Nat.le_refl _) hW).part (lo := 460 * j) (m := min 460 (0 - 460 * j)) (by omega) A' (fun h b' o' e => by rw [hA h, e]; simp [Addr.add_lit])
          have e : (b.drop (460 * j)).take (min 460 (0 - 460 * j)) = pcOwn b j := by
            unfold pcOwn
            rw [Nat.mul_comm j 460, List.take_eq_take_iff, List.length_drop, HL.out]
            omega
          rwa [e] at h1)
        obtain rfl : j = 0 := by have := HQ.out; omega
        all_goals
          go_wp2_with (first
            | (go_at_call 29; have _t := N1; refine N1.out.mono ?_; rintro e w3 ⟨v3, rfl, ho3, hb3⟩
               have N2 := hi_ (Num_any 2 (q : Int) w3)
               rw [wd_2] at N2
               have O3 := hi_ (And.intro ho3 hb3)
               clear ho3 hb3 N1)
            | (go_at_call 29; have _t := N2; refine N2.out.mono ?_; rintro e w4 ⟨v4, rfl, ho4, hb4⟩
               obtain ⟨A4, c4, rfl, _, _, hr4⟩ := Rd.of_own ho4 rfl
               have R4 := hi_ (And.intro hr4 (And.intro (own_keep O3.out.1 hb4) (O3.out.2.trans (hb4.mono O3.out.2.size))))
               clear ho4 hb4 hr4 N2)
            | (at_builtin; have _t := R4; refine wpList_app _ bytesT rfl (.tmp 34) (.tmp 36) rfl wr.heap.size v3 2 _ rfl R4.out.2.1 A4 2 c4 _ rfl R4.out.1 (by omega) R4.out.2.2.size ?_; intro v5 w5 ho5 hb5
               have N3 := hi_ (Num_any 8 z w5)
               rw [wd_8, HV.out] at N3
               have O5 := hi_ (And.intro ho5 (R4.out.2.2.trans hb5))
               clear ho5 hb5 R4)
            | (go_at_call 29; have _t := N3; refine N3.out.mono ?_; rintro e w6 ⟨v6, rfl, ho6, hb6⟩
               obtain ⟨A6, c6, rfl, _, _, hr6⟩ := Rd.of_own ho6 rfl
               rw [<- HV.out] at hr6
               have R6 := hi_ (And.intro hr6 (And.intro (own_keep O5.out.1 hb6) (O5.out.2.trans (hb6.mono O5.out.2.size))))
               clear ho6 hb6 hr6 N3)
            | (at_builtin; have _t := R6; refine wpList_app _ bytesT rfl (.tmp 38) (.tmp 40) rfl wr.heap.size v5 4 _ rfl R6.out.2.1 A6 8 c6 _ rfl R6.out.1 (by omega) R6.out.2.2.size ?_; intro v7 w7 ho7 hb7
               have O7 := hi_ (And.intro ho7 (R6.out.2.2.trans hb7))
               have RP := hi_ (fun A' m h1 h2 => HPW.out w7 (HI.out.bel.trans (O7.out.2.mono HB.out)) A' m h1 h2)
               clear ho7 hb7 R6)
            | (at_builtin; have _t := RP; refine wpList_app _ bytesT rfl (.tmp 43) (.tmp 44) rfl wr.heap.size v7 12 _ rfl O7.out.1 _ _ _ (pcOwn b 0) rfl (RP.out _ _ (fun h => by first | rfl | omega) (by omega)) (by omega) O7.out.2.size ?_; intro v8 w8 ho8 hb8
               obtain ⟨g8, c8, rfl, _, _⟩ := ho8.form (by omega)
               have O8 := hi_ (And.intro ho8 (O7.out.2.trans hb8))
               clear ho8 hb8 RP)
            | (at_builtin; have _t := O8; refine wpList_appX (K := fun y => w8.heap.size <= y) rowsT rfl (.tmp 42) (.tmp 46) rfl w.heap.size _ 0 vs rfl (HI.out.own8 O8.out.2) (some ⟨w8.heap.size, 0, none⟩) 1 1 [_] rfl (VRow.new w8 #[_] _ 1 1 rfl) (fun u hu => by simp at hu; rw [hu]; rfl) (by omega) (by decide) (by simp; exact Nat.le_succ_of_le (HI.out.bel.trans (O8.out.2.mono HB.out)).size) ?_; intro v9 w9 ho9 hg9 hv9
               have O9 := hi_ (And.intro ho9 (And.intro hg9 hv9))
               clear ho9 hg9 hv9))
          go_roundw
          case rel =>
            obtain ⟨vs', D', h'⟩ := HI.out.next8 O8.out.2 O8.out.1 O9.out.1 O9.out.2.1 O9.out.2.2
            exact ⟨1, vs', D', hjq, by go_num, hi_ h'⟩
          case measure => simp [intOf]; omega
      · obtain rfl : j = q := by omega
        go_wp2
        go_ret
        exact HI.out.done
theorem RSplit_any (A : Option Addr) (n c : Nat) (b : List UInt8) (s : Int) (w : World) (hr : Rd w A n b) (hc : n <= c) (hn : n <= 100000) :
    Calls Tryz.prog 32 #[.int .i64 s, .slice A n c] w (SplitP w (splitL s b)) := by
  rcases Nat.eq_zero_or_pos c with h0 | h0
  · subst h0
    obtain rfl : n = 0 := by omega
    exact RSplit_zero A b s w hr
  · exact RSplit_pos A n c b s w hr hc hn h0
end Go.Proofs.YthabmlbmlncbmaaGreat
namespace Go.Proofs.YthabmlbmlncbmaaGreat
open Go.RowKit
structure Cd where
  d : Int
  lc : Bool
  ix : Int
  gn : Int
  cp : Int
  dt : List UInt8
abbrev Cd.zero : Cd := ⟨0, false, 0, 0, 0, []⟩
abbrev Cd.cs (x : Cd) (A : Option Addr) (n c : Nat) : Array Value := #[.int .i64 x.d, .bool x.lc, .int .i64 x.ix, .int .i64 x.gn, .int .i64 x.cp, .slice A n c]
def Cd.plain (x : Cd) : Cd :=
  if x.d = 0 then ⟨0, false, 0, 0, 0, []⟩
  else if x.d = 1 then ⟨1, x.lc, x.ix, if x.lc then 0 else x.gn, 0, []⟩
  else if x.d = 2 then ⟨2, x.lc, x.ix, if x.lc then 0 else x.gn, x.cp, x.dt⟩
  else if x.d = 3 then ⟨3, x.lc, x.ix, if x.lc then 0 else x.gn, x.cp, []⟩
  else x
def Cd.check (x : Cd) : Int := if 0 <= x.d /\ x.d <= 3 then (if x.dt.length <= 64 then 0 else 13) else 1
def Cd.tgt (x : Cd) : List UInt8 := if x.lc then numB 1 1 ++ numB 8 x.ix else numB 1 0 ++ numB 8 x.ix ++ numB 8 x.gn
def Cd.bytes (x : Cd) : List UInt8 :=
  if x.d = 0 then numB 1 0
  else if x.d = 1 then numB 1 1 ++ x.tgt
  else if x.d = 2 then numB 1 2 ++ x.tgt ++ numB 8 x.cp ++ numB 2 x.dt.length ++ x.dt
  else if x.d = 3 then numB 1 3 ++ x.tgt ++ numB 8 x.cp
  else [255]
theorem cd_cases (d : Int) : d = 0 \/ d = 1 \/ d = 2 \/ d = 3 \/ (d < 0 \/ 3 < d) := by omega
theorem Cd.tgt_len (x : Cd) : x.tgt.length <= 17 := by unfold Cd.tgt; split <;> simp
theorem Cd.bytes_len (x : Cd) : x.bytes.length <= 28 + x.dt.length := by
  have := x.tgt_len
  unfold Cd.bytes
  repeat' split
  all_goals (simp; try omega)
end Go.Proofs.YthabmlbmlncbmaaGreat
namespace Go.Proofs.YthabmlbmlncbmaaGreat
open Go.RowKit
set_option linter.unusedVariables false
abbrev RS := List UInt8 × Bool
def rdNum (k : Nat) (st : RS) : Int × RS :=
  if st.2 = true then (0, st) else if st.1.length < k then (0, (st.1, true)) else (getV (st.1.take k), (st.1.drop k, false))
def RdrIs (N : Nat) (w : World) (p : Nat) (st : RS) : Prop :=
  ∃ A n c, w.heap[p]? = some (.cells #[.slice A n c, .bool st.2] 137 (0, 0)) /\ Rd w A n st.1 /\ n <= c /\ c <= maxLen /\ n <= 1073741824 /\ p < N /\ ∀ a, A = some a -> a.block ≠ p /\ a.block < N
section
variable {w w' : World} {p N : Nat} {st : RS}
theorem RdrIs.below (h : RdrIs N w p st) (hb : Below w.heap.size w w') : RdrIs N w' p st := by
  obtain ⟨A, n, c, h1, h2, h3, h4, h5, hpN, h6⟩ := h
  exact ⟨A, n, c, (hb.block p (Array.getElem?_eq_some_iff.1 h1).1).trans h1, h2.below (Nat.le_refl _) hb, h3, h4, h5, hpN, h6⟩
theorem RdrIs.stay (h : RdrIs N w p st) {B : Nat} (hN : N <= B) (hb : Below B w w') : RdrIs N w' p st := by
  obtain ⟨A, n, c, h1, h2, h3, h4, h5, hp, h6⟩ := h
  exact ⟨A, n, c, (hb.block p (by omega)).trans h1, h2.below' hb (fun hn => by
    obtain ⟨b, o, e, _, _⟩ := h2.2 hn
    have := (h6 _ e).2
    exact ⟨b, o, e, Nat.lt_of_lt_of_le this hN⟩), h3, h4, h5, hp, h6⟩
theorem OK_any (h : RdrIs N w p st) : Calls Tryz.prog 102 #[.pointer (some ⟨p, 0, none⟩)] w fun e w' => e = .returned (.bool (!st.2)) /\ w = w' := by
  obtain ⟨A, n, c, h1, h2, h3, h4, h5, hpN, h6⟩ := h
  have c1 : w.cell? ⟨p, 1, none⟩ = some (.bool st.2) := cell_of_row _ _ 1 _ _ _ h1
  clear h1 h2 h6
  go_enter Tryz.func102, Tryz.ntmps102
  go_wp2
  go_ret
  exact ⟨rfl, rfl⟩
theorem Left_any (h : RdrIs N w p st) : Calls Tryz.prog 96 #[.pointer (some ⟨p, 0, none⟩)] w fun e w' => e = .returned (.int .i64 (st.1.length : Nat)) /\ w = w' := by
  obtain ⟨A, n, c, h1, h2, h3, h4, h5, hpN, h6⟩ := h
  have c0 : w.cell? ⟨p, 0, none⟩ = some (.slice A n c) := cell_of_row _ _ 0 _ _ _ h1
  have hl := h2.1
  clear h1 h2 h6
  go_enter Tryz.func96, Tryz.ntmps96
  go_wp2
  go_ret
  exact ⟨ret_int (by rw [hl]), rfl⟩
theorem take_off (l : List UInt8) (h : RdrIs N w p (l, true)) (k : Nat) :
    Calls Tryz.prog 103 #[.pointer (some ⟨p, 0, none⟩), .int .i64 k] w fun e w' => e = .returned (.slice none 0 0) /\ w = w' := by
  have H := hi_ h
  clear h
  go_enter Tryz.func103, Tryz.ntmps103
  go_wp2_with (go_at_call 102; refine (OK_any H.out).mono ?_; rintro e w' ⟨rfl, rfl⟩)
  go_ret
  exact ⟨rfl, rfl⟩
theorem take_short (l : List UInt8) (h : RdrIs N w p (l, false)) (k : Nat) (hk : k <= 1073741824) (hs : l.length < k) :
    Calls Tryz.prog 103 #[.pointer (some ⟨p, 0, none⟩), .int .i64 k] w fun e w' => e = .returned (.slice none 0 0) /\ RdrIs N w' p (l, true) /\ Fr (· = p) w w' := by
  have H := hi_ h
  obtain ⟨A, n, c, h1, h2, h3, h4, h5, hpN, h6⟩ := h
  have c0 : w.cell? ⟨p, 0, none⟩ = some (.slice A n c) := cell_of_row _ _ 0 _ _ _ h1
  have f1 : w.frozen? ⟨p, 1, none⟩ = false := frozen_of_row w p 1 _ _ h1
  have c1 : w.cell? ⟨p, 1, none⟩ = some (.bool false) := cell_of_row _ _ 1 _ _ _ h1
  have hl := h2.1
  have hR : RdrIs N (w.setCell ⟨p, 1, none⟩ (.bool true)) p (l, true) := by
    refine ⟨A, n, c, ?_, h2.fr (Fr.setCell w (own := (· = p)) rfl _) (fun b o e _ => (h6 _ e).1), h3, h4, h5, hpN, h6⟩
    have := heap_setCell_at (j := 1) h1 (.bool true)
    simpa using this
  have HR := hi_ hR
  clear h1 h2 h6 hR
  go_enter Tryz.func103, Tryz.ntmps103
  go_wp2_with (first
    | (go_at_call 102; refine (OK_any H.out).mono ?_; rintro e w' ⟨rfl, rfl⟩)
    | (go_at_call 75; refine (part_high A n c 0 k w (by omega) hk h5 (by omega)).mono ?_; rintro e w' ⟨rfl, rfl⟩))
  go_ret
  exact ⟨rfl, HR.out, Fr.setCell w (own := (· = p)) rfl _⟩
theorem part_at (A : Option Addr) (n c : Nat) (k : Nat) (w : World) (hc : n <= c) (h1 : 1 <= k) (hk : k <= 1073741824) (hn : n <= 1073741824) (h : k <= n) :
    Calls Tryz.prog 75 #[.slice A n c, .int .i64 0, .int .i64 k] w fun e w' => e = .returned (.tuple #[.slice A k k, .bool true]) /\ w = w' := by
  have h0 : ¬ k = 0 := by omega
  go_enter Tryz.func75, Tryz.ntmps75
  go_wp2
  go_ret2
  exact ⟨rfl, rfl⟩
theorem take_yes (l : List UInt8) (h : RdrIs N w p (l, false)) (k : Nat) (hk1 : 1 <= k) (hk : k <= 1073741824) (hs : k <= l.length) :
    Calls Tryz.prog 103 #[.pointer (some ⟨p, 0, none⟩), .int .i64 k] w fun e w' => ∃ A, e = .returned (.slice A k k) /\ Rd w' A k (l.take k) /\ RdrIs N w' p (l.drop k, false) /\ Fr (· = p) w w' := by
  have H := hi_ h
  obtain ⟨A, n, c, h1, h2, h3, h4, h5, hpN, h6⟩ := h
  have c0 : w.cell? ⟨p, 0, none⟩ = some (.slice A n c) := cell_of_row _ _ 0 _ _ _ h1
  have f0 : w.frozen? ⟨p, 0, none⟩ = false := frozen_of_row w p 0 _ _ h1
  have hl := h2.1
  simp only at h1 h2 hl
  have H1 := hi_ h1
  have H2 := hi_ h2
  have H6 := hi_ h6
  have hkn : k <= n := by omega
  have hset : ∀ v, (w.setCell ⟨p, 0, none⟩ v).heap[p]? = some (.cells #[v, .bool false] 137 (0, 0)) := fun v => by
    have := heap_setCell_at (j := 0) h1 v
    simpa using this
  have hfr : ∀ v, Fr (· = p) w (w.setCell ⟨p, 0, none⟩ v) := fun v => Fr.setCell w (own := (· = p)) rfl v
  have hA : ∀ v, Rd (w.setCell ⟨p, 0, none⟩ v) A k (l.take k) := fun v => by
    have h := (h2.part (lo := 0) (m := k) (by omega) A (fun _ b o e => by rw [e]; rfl)).fr (hfr v) (fun b o e _ => (h6 _ e).1)
    rw [List.drop_zero] at h
    exact h
  have HSET := hi_ hset
  have HFR := hi_ hfr
  have HA := hi_ hA
  clear h1 h2 h6 hs hset hfr hA
  by_cases hck : c = k
  · subst hck
    obtain rfl : n = c := by omega
    go_enter Tryz.func103, Tryz.ntmps103
    go_wp2_with (first
      | (go_at_call 102; refine (OK_any H.out).mono ?_; rintro e w' ⟨rfl, rfl⟩)
      | (go_at_call 75; refine (part_at A n n n w h3 hk1 hk h5 hkn).mono ?_; rintro e w' ⟨rfl, rfl⟩))
    go_ret
    refine ⟨A, rfl, HA.out _, ⟨A, 0, 0, HSET.out _, ?_, Nat.le_refl _, Nat.zero_le _, Nat.zero_le _, hpN, H6.out⟩, HFR.out _⟩
    rw [List.drop_of_length_le (by omega)]
    exact Rd.nil _ _
  · have hkc : k < c := by omega
    go_enter Tryz.func103, Tryz.ntmps103
    go_wp2_with (first
      | (go_at_call 102; refine (OK_any H.out).mono ?_; rintro e w' ⟨rfl, rfl⟩)
      | (go_at_call 75; refine (part_at A n c k w h3 hk1 hk h5 hkn).mono ?_; rintro e w' ⟨rfl, rfl⟩))
    go_ret
    have hb : ∀ a, (A.map fun x => x.add k) = some a -> a.block ≠ p /\ a.block < N := fun a e => by
      cases A with
      | none => cases e
      | some a' =>
        simp only [Option.map_some, Option.some.injEq] at e
        rw [<- e, block_add]
        exact H6.out a' rfl
    refine ⟨A, rfl, HA.out _, ⟨A.map fun x => x.add k, n - k, c - k, HSET.out _, ?_, by omega, by omega, by omega, hpN, hb⟩, HFR.out _⟩
    have h := (H2.out.part (lo := k) (m := n - k) (by omega) (A.map fun x => x.add k) (fun _ b o e => by rw [e]; simp [Addr.add_lit])).fr (HFR.out (.slice (A.map fun x => x.add k) (n - k) (c - k))) (fun b o e _ => (hb _ e).1)
    rw [List.take_of_length_le (by simp; omega)] at h
    exact h
theorem RNumK_any (h : RdrIs N w p st) (k : Nat) (hk : 1 <= k /\ k <= 8) :
    Calls Tryz.prog 99 #[.pointer (some ⟨p, 0, none⟩), .int .i64 k] w fun e w' => e = .returned (.int .i64 (rdNum k st).1) /\ RdrIs N w' p (rdNum k st).2 /\ Fr (· = p) w w' := by
  obtain ⟨l, m⟩ := st
  have hwd : wd (k : Int) = k := by have := wd_cast (k : Int); omega
  have hn := nearest_wd (k : Int) w
  rw [hwd] at hn
  have HN := hi_ hn
  clear hn
  cases m
  · by_cases hs : l.length < k
    · have e1 : rdNum k (l, false) = (0, (l, true)) := by simp [rdNum, hs]
      rw [e1]
      have cT := hi_ (take_short l h k (by omega) hs)
      clear h e1
      go_enter Tryz.func99, Tryz.ntmps99
      go_wp2_with (first
        | (go_at_call 76; refine HN.out.mono ?_; rintro e w' ⟨rfl, rfl⟩)
        | (go_at_call 103; refine cT.out.mono ?_; rintro e w2 ⟨rfl, hr2, hf2⟩)
        | (go_at_call 63; refine (Get_no none 0 0 0 k w2 (by omega) (by rw [hwd]; omega)).mono ?_; rintro e w' ⟨rfl, rfl⟩))
      go_ret
      exact ⟨rfl, hr2, hf2⟩
    · have e1 : rdNum k (l, false) = (getV (l.take k), (l.drop k, false)) := by simp [rdNum, hs]
      rw [e1]
      have cT := hi_ (take_yes l h k (by omega) (by omega) (by omega))
      have hlk : (l.take k).length = k := by simp; omega
      have cG : ∀ A W, Rd W A k (l.take k) -> Calls Tryz.prog 63 #[.slice A k k, .int .i64 0, .int .i64 k] W fun e w' => e = .returned (.tuple #[.int .i64 (getV (l.take k)), .bool true]) /\ W = w' := fun A W hr => by
        have c := Get_yes A k k (l.take k) 0 k W hr (Nat.le_refl _) (by omega) (by rw [hwd]; omega)
        rw [hwd, List.drop_zero, List.take_take, Nat.min_self] at c
        exact c
      have CG := hi_ cG
      clear h e1 cG
      go_enter Tryz.func99, Tryz.ntmps99
      go_wp2_with (first
        | (go_at_call 76; refine HN.out.mono ?_; rintro e w' ⟨rfl, rfl⟩)
        | (go_at_call 103; refine cT.out.mono ?_; rintro e w2 ⟨A2, rfl, hR2, hr2, hf2⟩)
        | (go_at_call 63; refine (CG.out A2 w2 hR2).mono ?_; rintro e w' ⟨rfl, rfl⟩))
      go_ret
      exact ⟨rfl, hr2, hf2⟩
  · have e1 : rdNum k (l, true) = (0, (l, true)) := by simp [rdNum]
    rw [e1]
    have H := hi_ h
    have cT := hi_ (take_off l h k)
    clear h e1
    go_enter Tryz.func99, Tryz.ntmps99
    go_wp2_with (first
      | (go_at_call 76; refine HN.out.mono ?_; rintro e w' ⟨rfl, rfl⟩)
      | (go_at_call 103; refine cT.out.mono ?_; rintro e w' ⟨rfl, rfl⟩)
      | (go_at_call 63; refine (Get_no none 0 0 0 k w (by omega) (by rw [hwd]; omega)).mono ?_; rintro e w' ⟨rfl, rfl⟩))
    go_ret
    exact ⟨rfl, H.out, Fr.refl _ _⟩
theorem RRead_any (A : Option Addr) (n c : Nat) (l : List UInt8) (w : World) (hr : Rd w A n l) (hn : n <= 1000000) :
    Calls Tryz.prog 94 #[.slice A n c] w fun e w' => ∃ p, e = .returned (.pointer (some ⟨p, 0, none⟩)) /\ w.heap.size <= p /\ RdrIs w'.heap.size w' p (l, false) /\ Below w.heap.size w w' := by
  go_enter Tryz.func94, Tryz.ntmps94
  go_wp2_with (go_at_call 90; refine (roomy_any A n c l 0 w hr (by omega) (by omega) (by omega)).mono ?_; rintro e w1 ⟨v1, rfl, ho1, hb1⟩; obtain ⟨A1, c1, rfl, hc1, hm1, hr1⟩ := Rd.of_own ho1 rfl)
  go_ret
  have hB := hb1.alloc hb1.size (.cells #[.slice A1 n c1, .bool false] 137)
  refine ⟨w1.heap.size, rfl, hb1.size, ⟨A1, n, c1, heap_alloc_new w1 _, hr1.alloc _, hc1, hm1, by omega, by simp, fun a e => ?_⟩, hB⟩
  have hlt : a.block < w1.heap.size := by
    rcases ho1.2 with ⟨h0, _⟩ | ⟨g, cap, cur, hv, _, hh, _⟩
    · rw [e] at h0; cases h0
    · injection hv with h1
      rw [e] at h1
      injection h1 with h1
      rw [h1]
      exact (Array.getElem?_eq_some_iff.1 hh).1
  exact ⟨by omega, by simp; omega⟩
end
end Go.Proofs.YthabmlbmlncbmaaGreat
namespace Go.Proofs.YthabmlbmlncbmaaGreat
open Go.RowKit
set_option linter.unusedVariables false
def rdBytes (k : Nat) (st : RS) : List UInt8 × RS :=
  if st.2 = true then ([], st) else if st.1.length < k then ([], (st.1, true)) else (st.1.take k, (st.1.drop k, false))
section
variable {w w' : World} {p N : Nat} {st : RS}
theorem part_zero (A : Option Addr) (n c : Nat) (w : World) (hc : n <= c) (hn : n <= 1073741824) :
    Calls Tryz.prog 75 #[.slice A n c, .int .i64 0, .int .i64 0] w fun e w' => e = .returned (.tuple #[.slice A 0 0, .bool true]) /\ w = w' := by
  go_enter Tryz.func75, Tryz.ntmps75
  go_wp2
  go_ret2
  exact ⟨rfl, rfl⟩
theorem take_zero (l : List UInt8) (h : RdrIs N w p (l, false)) :
    Calls Tryz.prog 103 #[.pointer (some ⟨p, 0, none⟩), .int .i64 0] w fun e w' => ∃ A, e = .returned (.slice A 0 0) /\ RdrIs N w' p (l, false) /\ Fr (· = p) w w' := by
  have H := hi_ h
  obtain ⟨A, n, c, h1, h2, h3, h4, h5, hpN, h6⟩ := h
  have c0 : w.cell? ⟨p, 0, none⟩ = some (.slice A n c) := cell_of_row _ _ 0 _ _ _ h1
  have f0 : w.frozen? ⟨p, 0, none⟩ = false := frozen_of_row w p 0 _ _ h1
  simp only at h1 h2
  have hset : (w.setCell ⟨p, 0, none⟩ (.slice A n c)).heap[p]? = some (.cells #[.slice A n c, .bool false] 137 (0, 0)) := by
    have := heap_setCell_at (j := 0) h1 (.slice A n c)
    simpa using this
  have hfr : Fr (· = p) w (w.setCell ⟨p, 0, none⟩ (.slice A n c)) := Fr.setCell w (own := (· = p)) rfl _
  have hR : RdrIs N (w.setCell ⟨p, 0, none⟩ (.slice A n c)) p (l, false) := ⟨A, n, c, hset, h2.fr hfr (fun b o e _ => (h6 _ e).1), h3, h4, h5, hpN, h6⟩
  have HR := hi_ hR
  have HFR := hi_ hfr
  clear h1 h2 h6 hset hfr hR
  by_cases hc0 : c = 0
  · subst hc0
    obtain rfl : n = 0 := by omega
    go_enter Tryz.func103, Tryz.ntmps103
    go_wp2_with (first
      | (go_at_call 102; refine (OK_any H.out).mono ?_; rintro e w' ⟨rfl, rfl⟩)
      | (go_at_call 75; refine (part_zero A 0 0 w h3 h5).mono ?_; rintro e w' ⟨rfl, rfl⟩))
    go_ret
    exact ⟨A, rfl, HR.out, HFR.out⟩
  · go_enter Tryz.func103, Tryz.ntmps103
    go_wp2_with (first
      | (go_at_call 102; refine (OK_any H.out).mono ?_; rintro e w' ⟨rfl, rfl⟩)
      | (go_at_call 75; refine (part_zero A n c w h3 h5).mono ?_; rintro e w' ⟨rfl, rfl⟩))
    go_ret
    exact ⟨A, rfl, HR.out, HFR.out⟩
def GotB (N p k : Nat) (st : RS) (w : World) (e : Ending) (w' : World) : Prop :=
  ∃ A n c, e = .returned (.slice A n c) /\ Rd w' A n (rdBytes k st).1 /\ (∀ b o, A = some ⟨b, o, none⟩ -> 0 < n -> w.heap.size <= b) /\ n <= c /\ RdrIs N w' p (rdBytes k st).2 /\ Fr (· = p) w w'
theorem own_lo {w : World} {B : Nat} {e : TypeId} {v : Value} {n : Nat} {xs : List Value} (h : w.ownsRow B e 1 v n xs) {A : Option Addr} {m c : Nat} (hv : v = .slice A m c) (b o : Nat) (hA : A = some ⟨b, o, none⟩) : B <= b := by
  subst hv
  rcases h.2 with ⟨h1, _⟩ | ⟨g, cap, cur, hv, hB, _⟩
  · injection h1 with h1; rw [hA] at h1; cases h1
  · injection hv with h1
    rw [hA] at h1
    injection h1 with h1
    injection h1 with h1
    omega
theorem RBytes_any (h : RdrIs N w p st) (k : Nat) (hk : k <= 65535) :
    Calls Tryz.prog 101 #[.pointer (some ⟨p, 0, none⟩), .int .i64 k] w (GotB N p k st w) := by
  obtain ⟨l, m⟩ := st
  cases m
  · by_cases hs : l.length < k
    · have e1 : rdBytes k (l, false) = ([], (l, true)) := by simp [rdBytes, hs]
      unfold GotB
      rw [e1]
      have cT := hi_ (take_short l h k (by omega) hs)
      clear h e1
      go_enter Tryz.func101, Tryz.ntmps101
      go_wp2_with (first
        | (go_at_call 103; refine cT.out.mono ?_; rintro e w2 ⟨rfl, hr2, hf2⟩)
        | (at_builtin; refine wpList_app _ bytesT rfl (.const (.slice none 0 0)) (.tmp 8) rfl w2.heap.size _ 0 [] rfl (World.ownsRow_nil _ _ _ _) none 0 0 [] rfl (Rd.nil _ _) (by omega) (Nat.le_refl _) ?_; intro v3 w3 ho3 hb3; rw [Nat.zero_add, List.nil_append] at ho3))
      obtain ⟨A3, c3, rfl, hn3, _, hr3⟩ := Rd.of_own ho3 rfl
      go_ret
      exact ⟨A3, 0, c3, rfl, hr3, fun b o e h0 => absurd h0 (Nat.lt_irrefl 0), hn3, hr2.below hb3, hf2.trans (Fr.ofBelow _ hb3)⟩
    · have e1 : rdBytes k (l, false) = (l.take k, (l.drop k, false)) := by simp [rdBytes, hs]
      unfold GotB
      rw [e1]
      by_cases hk0 : k = 0
      · subst hk0
        have cT := hi_ (take_zero l h)
        clear h e1
        go_enter Tryz.func101, Tryz.ntmps101
        go_wp2_with (first
          | (go_at_call 103; refine cT.out.mono ?_; rintro e w2 ⟨A2, rfl, hr2, hf2⟩)
          | (at_builtin; refine wpList_app _ bytesT rfl (.const (.slice none 0 0)) (.tmp 8) rfl w2.heap.size _ 0 [] rfl (World.ownsRow_nil _ _ _ _) A2 0 0 [] rfl (Rd.nil _ _) (by omega) (Nat.le_refl _) ?_; intro v3 w3 ho3 hb3; rw [Nat.zero_add, List.nil_append] at ho3))
        obtain ⟨A3, c3, rfl, hn3, _, hr3⟩ := Rd.of_own ho3 rfl
        go_ret
        exact ⟨A3, 0, c3, rfl, hr3, fun b o e h0 => absurd h0 (Nat.lt_irrefl 0), hn3, hr2.below hb3, hf2.trans (Fr.ofBelow _ hb3)⟩
      · have cT := hi_ (take_yes l h k (by omega) (by omega) (by omega))
        clear h e1
        go_enter Tryz.func101, Tryz.ntmps101
        go_wp2_with (first
          | (go_at_call 103; refine cT.out.mono ?_; rintro e w2 ⟨A2, rfl, hR2, hr2, hf2⟩)
          | (at_builtin; refine wpList_app _ bytesT rfl (.const (.slice none 0 0)) (.tmp 8) rfl w2.heap.size _ 0 [] rfl (World.ownsRow_nil _ _ _ _) A2 k k _ rfl hR2 (by omega) (Nat.le_refl _) ?_; intro v3 w3 ho3 hb3; rw [Nat.zero_add, List.nil_append] at ho3))
        obtain ⟨A3, c3, rfl, hn3, _, hr3⟩ := Rd.of_own ho3 rfl
        have hlo := own_lo ho3 rfl
        go_ret
        exact ⟨A3, k, c3, rfl, hr3, fun b o e h0 => Nat.le_trans hf2.size (hlo b o e), hn3, hr2.below hb3, hf2.trans (Fr.ofBelow _ hb3)⟩
  · have e1 : rdBytes k (l, true) = ([], (l, true)) := by simp [rdBytes]
    unfold GotB
    rw [e1]
    have H := hi_ h
    have cT := hi_ (take_off l h k)
    clear h e1
    go_enter Tryz.func101, Tryz.ntmps101
    go_wp2_with (first
      | (go_at_call 103; refine cT.out.mono ?_; rintro e w' ⟨rfl, rfl⟩)
      | (at_builtin; refine wpList_app _ bytesT rfl (.const (.slice none 0 0)) (.tmp 8) rfl w.heap.size _ 0 [] rfl (World.ownsRow_nil _ _ _ _) none 0 0 [] rfl (Rd.nil _ _) (by omega) (Nat.le_refl _) ?_; intro v3 w3 ho3 hb3; rw [Nat.zero_add, List.nil_append] at ho3))
    obtain ⟨A3, c3, rfl, hn3, _, hr3⟩ := Rd.of_own ho3 rfl
    go_ret
    exact ⟨A3, 0, c3, rfl, hr3, fun b o e h0 => absurd h0 (Nat.lt_irrefl 0), hn3, H.out.below hb3, Fr.ofBelow _ hb3⟩
end
end Go.Proofs.YthabmlbmlncbmaaGreat
namespace Go.Proofs.YthabmlbmlncbmaaGreat
open Go.RowKit
theorem rdNum_off {k : Nat} {st : RS} (h : st.2 = true) : rdNum k st = (0, st) := by unfold rdNum; rw [if_pos h]
theorem rdNum_short {k : Nat} {l : List UInt8} (h : l.length < k) : rdNum k (l, false) = (0, (l, true)) := by simp [rdNum, h]
theorem rdNum_yes {k : Nat} {l : List UInt8} (h : k <= l.length) : rdNum k (l, false) = (getV (l.take k), (l.drop k, false)) := by
  have : ¬ l.length < k := by omega
  simp [rdNum, this]
end Go.Proofs.YthabmlbmlncbmaaGreat
namespace Go.Proofs.YthabmlbmlncbmaaGreat
open Go.RowKit
set_option linter.unusedVariables false
def rdFin (x : Cd) (st : RS) : Cd × Int × RS := if st.2 = true then (Cd.zero, 12, st) else (x, 0, st)
def rdCmd (st : RS) : Cd × Int × RS :=
  if (rdNum 1 st).1 < 0 \/ 3 < (rdNum 1 st).1 then (Cd.zero, 11, (rdNum 1 st).2)
  else if (rdNum 1 st).1 = 0 then rdFin ⟨0, false, 0, 0, 0, []⟩ (rdNum 1 st).2
  else
    let b := rdNum 1 (rdNum 1 st).2
    if 1 < b.1 then (Cd.zero, 11, b.2)
    else
      let c := rdNum 8 b.2
      let g := if b.1 = 1 then (0, c.2) else rdNum 8 c.2
      if (rdNum 1 st).1 = 1 then rdFin ⟨1, decide (b.1 = 1), c.1, g.1, 0, []⟩ g.2
      else
        let k := rdNum 8 g.2
        if (rdNum 1 st).1 = 3 then rdFin ⟨3, decide (b.1 = 1), c.1, g.1, k.1, []⟩ k.2
        else
          let m := rdNum 2 k.2
          if 64 < m.1 then (Cd.zero, 13, m.2)
          else rdFin ⟨2, decide (b.1 = 1), c.1, g.1, k.1, (rdBytes m.1.toNat m.2).1⟩ (rdBytes m.1.toNat m.2).2
def getCd (l : List UInt8) : Cd × Nat × Int :=
  if l.length = 0 then (Cd.zero, 0, 12)
  else if 3 < (l.getD 0 0).toNat then (Cd.zero, 0, 11)
  else if (l.getD 0 0).toNat = 0 then (⟨0, false, 0, 0, 0, []⟩, 1, 0)
  else if l.length = 1 then (Cd.zero, 0, 12)
  else if 1 < (l.getD 1 0).toNat then (Cd.zero, 0, 11)
  else
    let lc : Bool := decide ((l.getD 1 0).toNat = 1)
    let e0 := if (l.getD 1 0).toNat = 1 then 10 else 18
    let gn := if (l.getD 1 0).toNat = 1 then 0 else getV ((l.drop 10).take 8)
    if (l.getD 0 0).toNat = 1 then (if l.length < e0 then (Cd.zero, 0, 12) else (⟨1, lc, getV ((l.drop 2).take 8), gn, 0, []⟩, e0, 0))
    else if (l.getD 0 0).toNat = 3 then (if l.length < e0 + 8 then (Cd.zero, 0, 12) else (⟨3, lc, getV ((l.drop 2).take 8), gn, getV ((l.drop e0).take 8), []⟩, e0 + 8, 0))
    else if l.length < e0 + 10 then (Cd.zero, 0, 12)
    else if 64 < leN ((l.drop (e0 + 8)).take 2) then (Cd.zero, 0, 13)
    else if l.length < e0 + 10 + leN ((l.drop (e0 + 8)).take 2) then (Cd.zero, 0, 12)
    else (⟨2, lc, getV ((l.drop 2).take 8), gn, getV ((l.drop e0).take 8), (l.drop (e0 + 10)).take (leN ((l.drop (e0 + 8)).take 2))⟩, e0 + 10 + leN ((l.drop (e0 + 8)).take 2), 0)
def getAt (l : List UInt8) (at_ : Int) : Cd × Int × Int :=
  if at_ < 0 \/ (l.length : Int) < at_ then (Cd.zero, 0, 2)
  else ((getCd (l.drop at_.toNat)).1, if (getCd (l.drop at_.toNat)).2.2 = 0 then at_ + (getCd (l.drop at_.toNat)).2.1 else 0, (getCd (l.drop at_.toNat)).2.2)
theorem getV1 (l : List UInt8) (h : l.length = 1) : getV l = (l.getD 0 0).toNat := by
  obtain ⟨a, rfl⟩ := List.length_eq_one_iff.1 h
  have := a.toNat_lt
  rw [getV_in _ (by simp [leN]; omega)]
  simp [leN]
theorem rdNum_offL (k : Nat) (l : List UInt8) : rdNum k (l, true) = (0, (l, true)) := rdNum_off rfl
theorem rdBytes_off (k : Nat) (l : List UInt8) : rdBytes k (l, true) = ([], (l, true)) := by simp [rdBytes]
theorem rdBytes_short {k : Nat} {l : List UInt8} (h : l.length < k) : rdBytes k (l, false) = ([], (l, true)) := by simp [rdBytes, h]
theorem rdBytes_yes {k : Nat} {l : List UInt8} (h : k <= l.length) : rdBytes k (l, false) = (l.take k, (l.drop k, false)) := by simp [rdBytes, show ¬ l.length < k by omega]
theorem rdFin_off (x : Cd) (l : List UInt8) : rdFin x (l, true) = (Cd.zero, 12, (l, true)) := by simp [rdFin]
theorem rdFin_on (x : Cd) (l : List UInt8) : rdFin x (l, false) = (x, 0, (l, false)) := by simp [rdFin]
def SameG (r : Cd × Int × RS) (g : Cd × Nat × Int) (n : Nat) : Prop := r.1 = g.1 /\ r.2.1 = g.2.2 /\ (g.2.2 = 0 -> n - r.2.2.1.length = g.2.1 /\ g.2.1 <= n)
theorem SameG.fault {r : Cd × Int × RS} {g : Cd × Nat × Int} {n : Nat} {e : Int} (h1 : r.1 = Cd.zero) (h2 : r.2.1 = e) (h3 : g = (Cd.zero, 0, e)) (he : e ≠ 0) : SameG r g n := by
  subst h3
  exact ⟨h1, h2, fun h => absurd h he⟩
theorem take_getD (l : List UInt8) (k i : Nat) (h : i < k) : (l.take k).getD i 0 = l.getD i 0 := by
  simp [List.getD_eq_getElem?_getD, h]
theorem drop_getD (l : List UInt8) (k i : Nat) : (l.drop k).getD i 0 = l.getD (k + i) 0 := by
  simp [List.getD_eq_getElem?_getD, List.getElem?_drop]
def rdTail (d : Nat) (b : Nat) (st : RS) : Cd × Int × RS :=
  let c := rdNum 8 st
  let g := if b = 1 then (0, c.2) else rdNum 8 c.2
  if d = 1 then rdFin ⟨1, decide (b = 1), c.1, g.1, 0, []⟩ g.2
  else
    let k := rdNum 8 g.2
    if d = 3 then rdFin ⟨3, decide (b = 1), c.1, g.1, k.1, []⟩ k.2
    else
      let m := rdNum 2 k.2
      if 64 < m.1 then (Cd.zero, 13, m.2)
      else rdFin ⟨2, decide (b = 1), c.1, g.1, k.1, (rdBytes m.1.toNat m.2).1⟩ (rdBytes m.1.toNat m.2).2
theorem rdTail_off (d b : Nat) (l : List UInt8) : (rdTail d b (l, true)).1 = Cd.zero /\ (rdTail d b (l, true)).2.1 = 12 := by
  unfold rdTail
  simp only [rdNum_offL]
  by_cases hb : b = 1
  all_goals
    simp only [hb, if_true, if_false, rdNum_offL, rdBytes_off, rdFin_off, Int.toNat_zero, show ¬ (64 : Int) < 0 by decide]
    repeat' split
    all_goals exact ⟨rfl, rfl⟩
theorem rdCmd_tail {st : RS} {d b : Nat} {st1 st2 : RS} (h1 : rdNum 1 st = ((d : Int), st1)) (hd : 1 <= d /\ d <= 3) (h2 : rdNum 1 st1 = ((b : Int), st2)) (hb : b <= 1) : rdCmd st = rdTail d b st2 := by
  unfold rdCmd rdTail
  simp only [h1, h2]
  rw [if_neg (by omega), if_neg (by omega), if_neg (by omega)]
  have e1 : ((b : Int) = 1) = (b = 1) := by simp; omega
  have e2 : ((d : Int) = 1) = (d = 1) := by simp; omega
  have e3 : ((d : Int) = 3) = (d = 3) := by simp; omega
  simp only [e1, e2, e3]
theorem getV2 (l : List UInt8) (h : l.length <= 2) : getV l = (leN l : Int) := by
  have h1 := leN_lt l
  have h2 : 2 ^ (8 * l.length) <= 2 ^ 16 := Nat.pow_le_pow_right (by decide) (by omega)
  exact getV_in _ (by omega)
theorem num1 (l : List UInt8) (h : 1 <= l.length) : rdNum 1 (l, false) = ((((l.getD 0 0).toNat : Nat) : Int), (l.drop 1, false)) := by
  rw [rdNum_yes h, getV1 _ (by simp; omega), take_getD _ _ _ (by decide)]
theorem rdTail_get (l : List UInt8) (d b : Nat) (hd : 1 <= d /\ d <= 3) (hb : b <= 1) (hd0 : (l.getD 0 0).toNat = d) (hb0 : (l.getD 1 0).toNat = b) (h2 : 2 <= l.length) :
    SameG (rdTail d b (l.drop 2, false)) (getCd l) l.length := by
  have g0 : ¬ l.length = 0 := by omega
  have g1 : ¬ l.length = 1 := by omega
  have g3 : ¬ 3 < d := by omega
  have g4 : ¬ d = 0 := by omega
  have g5 : ¬ 1 < b := by omega
  unfold getCd
  rw [hd0, hb0, if_neg g0, if_neg g3, if_neg g4, if_neg g1, if_neg g5]
  obtain ⟨e0, he0⟩ : ∃ e0, e0 = if b = 1 then 10 else 18 := ⟨_, rfl⟩
  simp only [<- he0]
  -- the state behind the target
  have key : ∀ (X : Prop), (l.length < e0 -> (rdTail d b (l.drop 2, false)).1 = Cd.zero /\ (rdTail d b (l.drop 2, false)).2.1 = 12 -> X) -> (e0 <= l.length -> rdTail d b (l.drop 2, false) = (let g := (if b = 1 then (0, ((l.drop e0, false) : RS)) else (getV ((l.drop 10).take 8), (l.drop e0, false)))
      if d = 1 then rdFin ⟨1, decide (b = 1), getV ((l.drop 2).take 8), g.1, 0, []⟩ g.2
      else
        let k := rdNum 8 g.2
        if d = 3 then rdFin ⟨3, decide (b = 1), getV ((l.drop 2).take 8), g.1, k.1, []⟩ k.2
        else
          let m := rdNum 2 k.2
          if 64 < m.1 then (Cd.zero, 13, m.2)
          else rdFin ⟨2, decide (b = 1), getV ((l.drop 2).take 8), g.1, k.1, (rdBytes m.1.toNat m.2).1⟩ (rdBytes m.1.toNat m.2).2) -> X) -> X := by
    intro X hshort hyes
    by_cases h10 : l.length < 10
    · have q := rdNum_short (k := 8) (l := l.drop 2) (by simp; omega)
      have : rdTail d b (l.drop 2, false) = rdTail d b (l.drop 2, true) := by unfold rdTail; rw [q, rdNum_offL]
      exact hshort (by rw [he0]; split <;> omega) (by rw [this]; exact rdTail_off d b _)
    · have q := rdNum_yes (k := 8) (l := l.drop 2) (by simp; omega)
      rw [List.drop_drop] at q
      by_cases hb1 : b = 1
      · have e10 : e0 = 10 := by rw [he0, if_pos hb1]
        refine hyes (by omega) ?_
        unfold rdTail
        rw [q, e10]
        simp only [hb1, if_true]
      · have e18 : e0 = 18 := by rw [he0, if_neg hb1]
        by_cases h18 : l.length < 18
        · have q2 := rdNum_short (k := 8) (l := l.drop (2 + 8)) (by simp; omega)
          refine hshort (by omega) ?_
          unfold rdTail
          rw [q]
          simp only [hb1, if_false, q2, rdNum_offL, rdBytes_off, rdFin_off, Int.toNat_zero, show ¬ (64 : Int) < 0 by decide]
          repeat' split
          all_goals exact ⟨rfl, rfl⟩
        · have q2 := rdNum_yes (k := 8) (l := l.drop (2 + 8)) (by simp; omega)
          rw [List.drop_drop] at q2
          refine hyes (by omega) ?_
          unfold rdTail
          rw [q, e18]
          simp only [hb1, if_false, q2]
  refine key _ (fun hs hz => ?_) (fun hs hq => ?_)
  · refine SameG.fault hz.1 hz.2 ?_ (by decide)
    by_cases hd1 : d = 1
    · rw [if_pos hd1, if_pos hs]
    · rw [if_neg hd1]
      by_cases hd3 : d = 3
      · rw [if_pos hd3, if_pos (by omega)]
      · rw [if_neg hd3, if_pos (by omega)]
  · rw [hq]
    clear hq key
    obtain ⟨g, hg⟩ : ∃ g, g = (if b = 1 then (0 : Int) else getV ((l.drop 10).take 8)) := ⟨_, rfl⟩
    have e : (if b = 1 then ((0 : Int), ((l.drop e0, false) : RS)) else (getV ((l.drop 10).take 8), (l.drop e0, false))) = (g, (l.drop e0, false)) := by rw [hg]; split <;> rfl
    simp only [e, <- hg]
    by_cases hd1 : d = 1
    · simp only [hd1, if_true, rdFin_on, if_neg (show ¬ l.length < e0 by omega)]
      exact ⟨rfl, rfl, fun _ => ⟨by simp; omega, by omega⟩⟩
    · simp only [hd1, if_false]
      by_cases h8 : l.length < e0 + 8
      · have q := rdNum_short (k := 8) (l := l.drop e0) (by simp; omega)
        simp only [q, rdNum_offL, rdBytes_off, rdFin_off, Int.toNat_zero, show ¬ (64 : Int) < 0 by decide, if_false, if_pos h8, if_pos (show l.length < e0 + 10 by omega)]
        by_cases hd3 : d = 3
        · simp only [hd3, if_true]; exact ⟨rfl, rfl, fun h => absurd h (by decide)⟩
        · simp only [hd3, if_false]; exact ⟨rfl, rfl, fun h => absurd h (by decide)⟩
      · have q := rdNum_yes (k := 8) (l := l.drop e0) (by simp; omega)
        rw [List.drop_drop] at q
        simp only [q, if_neg h8]
        by_cases hd3 : d = 3
        · simp only [hd3, if_true, rdFin_on]
          exact ⟨rfl, rfl, fun _ => ⟨by simp; omega, by show e0 + 8 <= l.length; omega⟩⟩
        · simp only [hd3, if_false]
          by_cases h10 : l.length < e0 + 10
          · have q2 := rdNum_short (k := 2) (l := l.drop (e0 + 8)) (by simp; omega)
            simp only [q2, rdBytes_off, rdFin_off, Int.toNat_zero, show ¬ (64 : Int) < 0 by decide, if_false, if_pos h10]
            exact ⟨rfl, rfl, fun h => absurd h (by decide)⟩
          · have q2 := rdNum_yes (k := 2) (l := l.drop (e0 + 8)) (by simp; omega)
            rw [List.drop_drop, getV2 _ (by simp; omega)] at q2
            obtain ⟨m, hm⟩ : ∃ m, m = leN ((l.drop (e0 + 8)).take 2) := ⟨_, rfl⟩
            rw [<- hm] at q2
            simp only [q2, <- hm, if_neg h10]
            by_cases h64 : 64 < m
            · rw [if_pos (by omega), if_pos h64]
              exact ⟨rfl, rfl, fun h => absurd h (by decide)⟩
            · rw [if_neg (by omega), if_neg h64, Int.toNat_natCast]
              by_cases hm2 : l.length < e0 + 10 + m
              · have q3 := rdBytes_short (k := m) (l := l.drop (e0 + 8 + 2)) (by simp; omega)
                simp only [q3, rdFin_off, if_pos hm2]
                exact ⟨rfl, rfl, fun h => absurd h (by decide)⟩
              · have q3 := rdBytes_yes (k := m) (l := l.drop (e0 + 8 + 2)) (by simp; omega)
                simp only [q3, rdFin_on, if_neg hm2]
                exact ⟨rfl, rfl, fun _ => ⟨by simp; omega, by show e0 + 10 + m <= l.length; omega⟩⟩
theorem rd_getCd (l : List UInt8) : SameG (rdCmd (l, false)) (getCd l) l.length := by
  by_cases h0 : l.length = 0
  · obtain rfl : l = [] := List.eq_nil_of_length_eq_zero h0
    refine SameG.fault (e := 12) ?_ ?_ (by simp [getCd]) (by decide)
    all_goals simp [rdCmd, rdNum_short, rdFin_off]
  have n1 := num1 l (by omega)
  obtain ⟨d, hd⟩ : ∃ d, d = (l.getD 0 0).toNat := ⟨_, rfl⟩
  rw [<- hd] at n1
  by_cases h3 : 3 < d
  · refine SameG.fault (e := 11) ?_ ?_ (by unfold getCd; rw [if_neg h0, <- hd, if_pos h3]) (by decide)
    all_goals
      unfold rdCmd
      rw [n1]
      simp only
      rw [if_pos (by omega)]
  by_cases hd0 : d = 0
  · have e : rdCmd (l, false) = rdFin ⟨0, false, 0, 0, 0, []⟩ (l.drop 1, false) := by
      unfold rdCmd
      rw [n1]
      simp only
      rw [if_neg (by omega), if_pos (by omega)]
    rw [e, rdFin_on]
    unfold getCd
    rw [if_neg h0, <- hd, if_neg h3, if_pos hd0]
    exact ⟨rfl, rfl, fun _ => ⟨by simp; omega, by simp; omega⟩⟩
  by_cases h1 : l.length = 1
  · have q := rdNum_short (k := 1) (l := l.drop 1) (by simp; omega)
    have e := rdCmd_tail (b := 0) n1 (by omega) q (by decide)
    have z := rdTail_off d 0 (l.drop 1)
    rw [e]
    exact SameG.fault z.1 z.2 (by unfold getCd; rw [if_neg h0, <- hd, if_neg h3, if_neg hd0, if_pos h1]) (by decide)
  have n2 := num1 (l.drop 1) (by simp; omega)
  rw [drop_getD, List.drop_drop] at n2
  obtain ⟨b, hb⟩ : ∃ b, b = (l.getD 1 0).toNat := ⟨_, rfl⟩
  rw [show 1 + 0 = 1 from rfl, <- hb] at n2
  by_cases hb1 : 1 < b
  · refine SameG.fault (e := 11) ?_ ?_ (by unfold getCd; rw [if_neg h0, <- hd, if_neg h3, if_neg hd0, if_neg h1, <- hb, if_pos hb1]) (by decide)
    all_goals
      unfold rdCmd
      rw [n1]
      simp only
      rw [if_neg (by omega), if_neg (by omega), n2]
      simp only
      rw [if_pos (by omega)]
  rw [rdCmd_tail n1 (by omega) n2 (by omega)]
  exact rdTail_get l d b (by omega) (by omega) hd.symm hb.symm (by omega)
end Go.Proofs.YthabmlbmlncbmaaGreat
namespace Go.Proofs.YthabmlbmlncbmaaGreat
open Go.RowKit
set_option linter.unusedVariables false
theorem cdT : RT Tryz.prog 61 6 := ⟨⟨_, Tryz.underlying61, rfl⟩, by kernel_rfl⟩
theorem trT : RT Tryz.prog 139 3 := ⟨⟨_, Tryz.underlying139, rfl⟩, by kernel_rfl⟩
structure CdAt (w0 w : World) (g : Nat) (x : Cd) (A : Option Addr) (n c : Nat) : Prop where
  r : Rec 61 w g (x.cs A n c)
  rd : Rd w A n x.dt
  bel : Below w0.heap.size w0 w
  hg : w0.heap.size <= g
section
variable {w0 w w' : World} {g : Nat} {x : Cd} {A : Option Addr} {n c : Nat}
theorem CdAt.new (w : World) (x : Cd) (A : Option Addr) (n c : Nat) (h : Rd w A n x.dt) : CdAt w (w.alloc (.cells (x.cs A n c) 61)) w.heap.size x A n c :=
  ⟨Rec.new w _ _, h.alloc _, (Below.refl _ _).alloc (Nat.le_refl _) _, Nat.le_refl _⟩
theorem CdAt.next (h : CdAt w0 w g x A n c) (hb : Below w.heap.size w w') : CdAt w0 w' g x A n c := ⟨h.r.under hb, h.rd.below (Nat.le_refl _) hb, h.bel.trans (hb.mono h.bel.size), h.hg⟩
theorem CdAt.c0 (h : CdAt w0 w g x A n c) : w.cell? ⟨g, 0, none⟩ = some (.int .i64 x.d) := h.r.at_ 0
theorem CdAt.c1 (h : CdAt w0 w g x A n c) : w.cell? ⟨g, 1, none⟩ = some (.bool x.lc) := h.r.at_ 1
theorem CdAt.c2 (h : CdAt w0 w g x A n c) : w.cell? ⟨g, 2, none⟩ = some (.int .i64 x.ix) := h.r.at_ 2
theorem CdAt.c3 (h : CdAt w0 w g x A n c) : w.cell? ⟨g, 3, none⟩ = some (.int .i64 x.gn) := h.r.at_ 3
theorem CdAt.c4 (h : CdAt w0 w g x A n c) : w.cell? ⟨g, 4, none⟩ = some (.int .i64 x.cp) := h.r.at_ 4
theorem CdAt.c5 (h : CdAt w0 w g x A n c) : w.cell? ⟨g, 5, none⟩ = some (.slice A n c) := h.r.at_ 5
end
def hasV (d : Int) : Value := .agg #[.bool (decide (1 <= d /\ d <= 3)), .bool (decide (2 <= d /\ d <= 3)), .bool (decide (d = 2))]
def hasB (d : Int) : Bool := decide (0 <= d /\ d <= 3)
def HasP (d : Int) (w : World) (e : Ending) (w' : World) : Prop := e = .returned (.tuple #[hasV d, .bool (hasB d)]) /\ Below w.heap.size w w'
theorem has_any (d : Int) (w : World) : Calls Tryz.prog 100 #[.int .i64 d] w (HasP d w) := by
  rcases cd_cases d with rfl | rfl | rfl | rfl | h
  · go_enter Tryz.func100, Tryz.ntmps100
    go_wp2
    exact bodyPost_ret (v := .tuple #[.agg #[.bool false, .bool false, .bool false], .bool true]) (by simp [results, Tryz.results100, go_sem]) rfl ⟨rfl, (Below.refl _ _).alloc (Nat.le_refl _) _⟩
  · go_enter Tryz.func100, Tryz.ntmps100
    go_wp2
    exact bodyPost_ret (v := .tuple #[.agg #[.bool true, .bool false, .bool false], .bool true]) (by simp [results, Tryz.results100, go_sem]) rfl ⟨rfl, (Below.refl _ _).alloc (Nat.le_refl _) _⟩
  · go_enter Tryz.func100, Tryz.ntmps100
    go_wp2
    exact bodyPost_ret (v := .tuple #[.agg #[.bool true, .bool true, .bool true], .bool true]) (by simp [results, Tryz.results100, go_sem]) rfl ⟨rfl, (Below.refl _ _).alloc (Nat.le_refl _) _⟩
  · go_enter Tryz.func100, Tryz.ntmps100
    go_wp2
    exact bodyPost_ret (v := .tuple #[.agg #[.bool true, .bool true, .bool false], .bool true]) (by simp [results, Tryz.results100, go_sem]) rfl ⟨rfl, (Below.refl _ _).alloc (Nat.le_refl _) _⟩
  · have h0 : ¬ d = 0 := by omega
    have h1 : ¬ d = 1 := by omega
    have h2 : ¬ d = 2 := by omega
    have h3 : ¬ d = 3 := by omega
    have q : hasV d = .agg #[.bool false, .bool false, .bool false] := by
      unfold hasV
      rw [decide_eq_false (show ¬ (1 <= d /\ d <= 3) by omega), decide_eq_false (show ¬ (2 <= d /\ d <= 3) by omega), decide_eq_false h2]
    have q2 : hasB d = false := decide_eq_false (by omega)
    have Q := hi_ (And.intro q q2)
    clear h q q2
    go_enter Tryz.func100, Tryz.ntmps100
    go_wp2
    exact bodyPost_ret (v := .tuple #[.agg #[.bool false, .bool false, .bool false], .bool false]) (by simp [results, Tryz.results100, go_sem]) rfl ⟨by rw [Q.out.1, Q.out.2], (Below.refl _ _).alloc (Nat.le_refl _) _⟩
section
variable (x : Cd) (A : Option Addr) (n c : Nat) (w : World)
theorem RCheck_any (h : Rd w A n x.dt) (hn : n <= 9223372036854775807) :
    Calls Tryz.prog 28 #[.agg (x.cs A n c)] w fun e w' => e = .returned (.int .i64 x.check) /\ Below w.heap.size w w' := by
  obtain ⟨w1, hw1⟩ : ∃ w1, w1 = w.alloc (.cells (x.cs A n c) 61) := ⟨_, rfl⟩
  have C1 := CdAt.new w x A n c h
  rw [<- hw1] at C1
  have c0 := C1.c0
  have c5 := C1.c5
  have hl := h.1
  have hck : x.check = if 0 <= x.d /\ x.d <= 3 then (if n <= 64 then 0 else 13) else 1 := by unfold Cd.check; rw [hl]
  have K1 := hi_ C1
  have HK := hi_ hck
  obtain ⟨d, hd⟩ : ∃ d, d = x.d := ⟨_, rfl⟩
  rw [<- hd] at c0
  have HD := hi_ hd
  clear C1 hck hl h hd
  by_cases h0 : d < 0
  · go_enter Tryz.func28, Tryz.ntmps28
    go_wp2_with (rw [<- hw1]; clear hw1)
    go_ret
    refine ⟨ret_int ?_, K1.out.bel⟩
    rw [HK.out, <- HD.out, if_neg (by omega)]
  · by_cases h3 : 3 < d
    · go_enter Tryz.func28, Tryz.ntmps28
      go_wp2_with (rw [<- hw1]; clear hw1)
      go_ret
      refine ⟨ret_int ?_, K1.out.bel⟩
      rw [HK.out, <- HD.out, if_neg (by omega)]
    · by_cases h64 : n <= 64
      all_goals
        go_enter Tryz.func28, Tryz.ntmps28
        go_wp2_with (rw [<- hw1]; clear hw1)
        go_ret
        refine ⟨ret_int ?_, K1.out.bel⟩
        rw [HK.out, <- HD.out, if_pos (by omega)]
        simp [h64]
end
end Go.Proofs.YthabmlbmlncbmaaGreat
namespace Go.Proofs.YthabmlbmlncbmaaGreat
open Go.RowKit Go.ChangeShapes Go.WideShapes Go.Deep
section
variable {H : Type} {enc : TypeId × Value -> H} {w : World} {base : Nat} {held : Bool}
theorem field_at {P : Program} {t : TypeId} {fs : Array Field} {fuel : Nat} {cs : List Value} {x : DataW H × List MemPlace} (ht : P.underlying t = some (.struct fs)) (hone : oneCellFields P fs = true) (hk : P.cellsOf t = fs.size)
    (h : DataW.trod enc P w base (fun _ => true) held fuel t cs = some x) (j : Nat) (f : Field) (hj : fs[j]? = some f) : ∃ v n y, cs[j]? = some v /\ DataW.trod enc P w base (fun _ => true) held n f.type [v] = some y := by
  obtain ⟨xs, n, _, _, hl, hxl, hf⟩ := DataW.trod_struct ht h
  obtain ⟨ho, h1⟩ := hone_of hone j f hj
  have hlt : j < fs.size := (Array.getElem?_eq_some_iff.1 hj).1
  have e := hf j f hj
  rw [ho, h1, List.drop_eq_getElem_cons (by omega), List.getElem?_eq_getElem (by omega)] at e
  exact ⟨cs[j]'(by omega), n, _, List.getElem?_eq_getElem (by omega), e⟩
theorem elems_at {P : Program} {t e : TypeId} {fuel : Nat} {cs : List Value} {x : DataW H × List MemPlace} (ht : P.underlying t = some (.slice e)) (h : DataW.trod enc P w base (fun _ => true) held fuel t cs = some x) :
    cs = [.slice none 0 0] \/ ∃ (a : Addr) (len cap : Nat), cs = [.slice (some a) len cap] /\ len <= cap /\ cap <= maxLen /\
      ∀ i, i < len -> ∃ cs' n y, (∀ j, j < P.cellsOf e -> w.cell? ((a.add (i * P.cellsOf e)).add j) = cs'[j]?) /\ DataW.trod enc P w base (fun _ => true) held n e cs' = some y := by
  rcases open_slice ht h with ⟨h0, _⟩ | ⟨a, len, cap, m, n, D, Pl, hcs, _, hl, hm, hmm, _, hi⟩
  · exact .inl h0
  · refine .inr ⟨a, len, cap, hcs, hl, hm, fun i him => ?_⟩
    have hmc : m = cap := by simpa using hmm
    obtain ⟨cs', hc, ht'⟩ := hi i (by omega)
    obtain ⟨_, _, hat⟩ := World.cells?_some hc
    exact ⟨cs', n, _, hat, ht'⟩
end
end Go.Proofs.YthabmlbmlncbmaaGreat
namespace Go.Proofs.YthabmlbmlncbmaaGreat
open Go.RowKit Go.ChangeShapes Go.WideShapes Go.Deep
section
variable {H : Type} {enc : TypeId × Value -> H} {w : World} {base : Nat} {held : Bool}
theorem open_bytes {fuel : Nat} {cs : List Value} {x : DataW H × List MemPlace} (h : DataW.trod enc Tryz.prog w base (fun _ => true) held fuel 42 cs = some x) :
    ∃ A n c l, cs = [.slice A n c] /\ Rd w A n l /\ n <= c /\ c <= maxLen := by
  rcases open_ints Tryz.underlying42 Tryz.underlying5 (by kernel_rfl) h with ⟨hcs, _⟩ | ⟨x, l, c, zs, hcs, _, hl, hm, hz, _, hcell, hwz⟩
  · exact ⟨none, 0, 0, [], hcs, Rd.nil _ _, Nat.le_refl _, Nat.zero_le _⟩
  · obtain ⟨L, hr, h1, h2⟩ := rd_of_row (w := w) (a := some x) (len := l) (cap := c) (zs := zs) (.inr ⟨x, rfl, hl, hm, by simpa using hz, hcell, hwz⟩)
    exact ⟨some x, l, c, L, hcs, hr, h1, h2⟩
end
end Go.Proofs.YthabmlbmlncbmaaGreat
namespace Go.Proofs.YthabmlbmlncbmaaGreat
open Go.RowKit Go.ChangeShapes Go.WideShapes Go.Deep Go.Joins
set_option maxRecDepth 20000
def Cd.wf (x : Cd) : Prop := (Lit.int .i64 x.ix).wf = true /\ (Lit.int .i64 x.gn).wf = true /\ (Lit.int .i64 x.cp).wf = true
section
variable {H : Type} {enc : TypeId × Value -> H} {w : World} {base : Nat} {held : Bool}
theorem open_cmd {n : Nat} {cs : List Value} {y : DataW H × List MemPlace} (h : DataW.trod enc Tryz.prog w base (fun _ => true) held n 61 cs = some y) :
    ∃ (x : Cd) (A : Option Addr) (m c : Nat), cs = (x.cs A m c).toList /\ (Rd w A m x.dt /\ m <= c /\ c <= maxLen) /\ x.wf := by
  obtain ⟨xs, n1, _, _, hl, hxl, hf⟩ := DataW.trod_struct Tryz.underlying61 h
  have hc6 : Tryz.prog.cellsOf 61 = 6 := by kernel_rfl
  rw [hc6] at hl
  obtain ⟨v0, v1, v2, v3, v4, v5, rfl⟩ : ∃ a b c d e f, cs = [a, b, c, d, e, f] := by
    match cs, hl with
    | [a, b, c, d, e, f], _ => exact ⟨a, b, c, d, e, f, rfl⟩
  have hx : xs.length = 5 := hxl
  have hi2 : Tryz.prog.cellsOf 59 = 2 := by kernel_rfl
  have hn1 : Tryz.prog.cellsOf 3 = 1 := by kernel_rfl
  have hq1 : Tryz.prog.cellsOf 4 = 1 := by kernel_rfl
  have hb1 : Tryz.prog.cellsOf 42 = 1 := by kernel_rfl
  have e0 := hf 0 _ rfl
  have e1 := hf 1 _ rfl
  have e2 := hf 2 _ rfl
  have e3 := hf 3 _ rfl
  have e4 := hf 4 _ rfl
  rw [List.getElem?_eq_getElem (by omega)] at e0 e1 e2 e3 e4
  have f0 : DataW.trod enc Tryz.prog w base (fun _ => true) held n1 3 [v0] = some xs[0] := by
    have h := e0
    change DataW.trod enc Tryz.prog w base (fun _ => true) held _ 3 (([v0, v1, v2, v3, v4, v5].drop 0).take (Tryz.prog.cellsOf 3)) = _ at h
    rw [hn1] at h
    exact h
  have f1 : DataW.trod enc Tryz.prog w base (fun _ => true) held n1 4 [v1] = some xs[1] := by
    have h := e1
    change DataW.trod enc Tryz.prog w base (fun _ => true) held _ 4 (([v0, v1, v2, v3, v4, v5].drop 1).take (Tryz.prog.cellsOf 4)) = _ at h
    rw [hq1] at h
    exact h
  have f2 : DataW.trod enc Tryz.prog w base (fun _ => true) held n1 59 [v2, v3] = some xs[2] := by
    have h := e2
    change DataW.trod enc Tryz.prog w base (fun _ => true) held _ 59 (([v0, v1, v2, v3, v4, v5].drop 2).take (Tryz.prog.cellsOf 59)) = _ at h
    rw [hi2] at h
    exact h
  have f3 : DataW.trod enc Tryz.prog w base (fun _ => true) held n1 3 [v4] = some xs[3] := by
    have h := e3
    change DataW.trod enc Tryz.prog w base (fun _ => true) held _ 3 (([v0, v1, v2, v3, v4, v5].drop 4).take (Tryz.prog.cellsOf 3)) = _ at h
    rw [hn1] at h
    exact h
  have f4 : DataW.trod enc Tryz.prog w base (fun _ => true) held n1 42 [v5] = some xs[4] := by
    have h := e4
    change DataW.trod enc Tryz.prog w base (fun _ => true) held _ 42 (([v0, v1, v2, v3, v4, v5].drop 5).take (Tryz.prog.cellsOf 42)) = _ at h
    rw [hb1] at h
    exact h
  obtain ⟨d, q0, _, wd⟩ := DataW.trod_int Tryz.underlying3 f0
  obtain ⟨lc, q1, _⟩ := DataW.trod_bool Tryz.underlying4 f1
  obtain ⟨va, na, ya, ea, ta⟩ := field_at Tryz.underlying59 (by kernel_rfl) (by kernel_rfl) f2 0 _ rfl
  obtain ⟨vb, nb, yb, eb, tb⟩ := field_at Tryz.underlying59 (by kernel_rfl) (by kernel_rfl) f2 1 _ rfl
  obtain ⟨i, qa, _, wi⟩ := DataW.trod_int Tryz.underlying3 ta
  obtain ⟨g, qb, _, wg⟩ := DataW.trod_int Tryz.underlying3 tb
  obtain ⟨kk, q3, _, wk⟩ := DataW.trod_int Tryz.underlying3 f3
  obtain ⟨bA, bn, bc, b, q4, hR, hb1', hb2⟩ := open_bytes f4
  simp only [List.cons.injEq, and_true] at q0 q1 qa qb q3 q4
  subst q0 q1 qa qb q3 q4
  have ea' : v2 = .int .i64 i := by simpa using ea
  have eb' : v3 = .int .i64 g := by simpa using eb
  subst ea' eb'
  exact ⟨⟨d, lc, i, g, kk, b⟩, bA, bn, bc, rfl, ⟨hR, hb1', hb2⟩, wi, wg, wk⟩
end
end Go.Proofs.YthabmlbmlncbmaaGreat
namespace Go.Proofs.YthabmlbmlncbmaaGreat
open Go.RowKit
set_option linter.unusedVariables false
end Go.Proofs.YthabmlbmlncbmaaGreat
namespace Go.Proofs.YthabmlbmlncbmaaGreat
open Go.RowKit
end Go.Proofs.YthabmlbmlncbmaaGreat
namespace Go.Proofs.YthabmlbmlncbmaaGreat
open Go.RowKit
set_option linter.unusedVariables false
set_option maxRecDepth 20000
def GotS (w : World) (l : List UInt8) (e : Ending) (w' : World) : Prop := ∃ A n c, e = .returned (.slice A n c) /\ Rd w' A n l /\ n <= c /\ Below w.heap.size w w'
theorem GotS.own {w w' : World} {v : Value} {n : Nat} {l : List UInt8} (ho : w'.ownsRow w.heap.size 5 1 v n (cells l)) (hb : Below w.heap.size w w') : GotS w l (.returned v) w' := by
  obtain ⟨A, c, rfl, h1, _, h2⟩ := Rd.of_own ho rfl
  exact ⟨A, n, c, rfl, h2, h1, hb⟩
end Go.Proofs.YthabmlbmlncbmaaGreat
