/- FrF, FrG, FrH, FrI -/
import Derived.Test.YtlinafnhhnkjnaaQf16
import Derived.OwnWalkIn
import Derived.TacticsInMore
import Derived.LoopNIn
import Derived.LoopIn
import Derived.Shelf.Abstract
import Derived.Deep.RegionHeld3
namespace Go.Proofs.Ytlinafnhhnkjnaa
open Go.RowKit
set_option linter.unusedVariables false
set_option maxRecDepth 20000
attribute [local go_sem] Oper.semAt_some

/-- A command whose bytes were told, and where they lie. -/
structure Pt where
  x : Cd
  A : Option Addr
  n : Nat
  c : Nat
abbrev Pt.enc (p : Pt) : Array Value := #[.slice p.A p.n p.c]
/-- What is handed to a round: the next command's bytes. -/
def PtAt (xs : List Cd) (s : List Pt × Pt) (_N : Nat) (W : World) : Prop := s.1.map Pt.x = xs.take s.1.length ∧ xs[s.1.length]? = some s.2.x ∧ Rd W s.2.A s.2.n s.2.x.bytes ∧ s.2.n ≤ s.2.c ∧ s.2.c ≤ maxLen
theorem rd_kept {W W' : World} {A : Option Addr} {n : Nat} {l : List UInt8} {row : Option Nat} (h : Rd W A n l) (hg : W.grownBy W' row) (hr : ∀ r, row = some r → ∃ o : Obj, W.heap[r]? = some o ∧ o.isCells = false) : Rd W' A n l := by
  refine ⟨h.1, fun hn => ?_⟩
  obtain ⟨b, o, hA, hlt, hc⟩ := h.2 hn
  have h0 := hc 0 (by rw [h.1]; exact hn)
  have hne : some b ≠ row := fun e => by
    obtain ⟨ob, h1, h2⟩ := hr b e.symm
    simp only [World.cell?] at h0
    rw [show W.heap[(⟨b, o + 0, none⟩ : Addr).block]? = some ob from h1] at h0
    cases ob <;> simp_all [Obj.isCells]
  exact ⟨b, o, hA, Nat.lt_of_lt_of_le hlt hg.size, fun i hi => by
    have := hg.block b hlt hne
    have h2 := hc i hi
    simp only [World.cell?] at h2 ⊢
    rw [this]
    exact h2⟩
theorem PtAt.own (xs : List Cd) (B N : Nat) : OwnFrom B (fun s => PtAt xs s N) := fun s X Y row h hg hr => ⟨h.1, h.2.1, rd_kept h.2.2.1 hg (fun r e => (hr r e).2), h.2.2.2⟩

/-- What a slice's own row is turned by leaves all that is no cells. -/
theorem own_turn {W w1 : World} {n₀ : Nat} {e : TypeId} {size : Nat} {v : Value} {k : Nat} {xs : List Value} (hrow : W.ownsRow n₀ e size v k xs) (hg : W.grownBy w1 v.ownBlock) : KeepsOthers W w1 :=
  KeepsOthers.of_grownBy hg fun j o ej hj => by
    rcases hrow.2 with ⟨rfl, _⟩ | ⟨g, cap, cur, rfl, _, hgb, _⟩
    · simp [Value.ownBlock] at ej
    · obtain rfl : g = j := by simpa [Value.ownBlock] using ej
      rw [hgb] at hj; cases hj; rfl
/-- The load of a command, inside a fence. -/
theorem wpListIn_ldCd {F : Fence} {k : Nat} {w : World} {ops : Array Oper} {rest : List Oper} {o : Oper} {a : Act} {Q : Exit → Act → World → Prop} {b off : Nat} {x : Cd} {A : Option Addr} {n c : Nat} (hgd : o.guard = none) (y : Operand) (ho : o.op = .load 47 y)
    (hx : a.eval y = .pointer (some ⟨b, off, none⟩)) (h : CdL w b off x A n c) (kk : wpListIn F k Try.prog ops Q rest (a.put o.dst (.agg (x.cs A n c))) w) : wpListIn F k Try.prog ops Q (o :: rest) a w :=
  wpListIn_plain hgd fun _ hK => by
    unfold Oper.wpIn
    refine ⟨?_, ?_⟩
    · simp [Oper.about, ho]
    · rw [Oper.semAt_plain F _ _ (by rw [ho]; intro c hc'; cases hc')]
      unfold execOp
      simp only [ho, hx, h.load, Sem.run_bind, Sem.run_pure, Result.andThen_ok]
      exact hK _ _ kk
/-- The iterator. -/
theorem parts_any (A : Option Addr) (n c : Nat) (w : World) : Calls Try.prog 22 #[.slice A n c] w fun e w' => e = .returned (.func (.func 37) #[] #[.pointer (some ⟨w.heap.size, 0, none⟩)]) ∧ w' = w.alloc (.cells #[.slice A n c] 22) := by
  go_enter Try.func22, Try.ntmps22
  go_wp2
  go_ret
  exact ⟨rfl, rfl⟩

set_option maxHeartbeats 2000000 in
theorem parts_seq (U : Nat → Prop) (bn : Nat) (A : Option Addr) (n c : Nat) (xs : List Cd) (W : World) (hU : ∀ k, U k → k < W.heap.size) (hbox : W.cell? ⟨bn, 0, none⟩ = some (.slice A n c)) (hv : CdsV U W A n xs) (hn : n ≤ 1000000)
    (hd : ∀ x ∈ xs, x.dt.length ≤ 1000000) : SeqMem Try.prog 37 #[.pointer (some ⟨bn, 0, none⟩)] Pt.enc U (PtAt xs) (fun ys => ys.map Pt.x = xs) (fun _ => True) W := by
  intro l J Jx gJ gX hY h0
  have HY := Lib.hid hY
  have GJ := Lib.hid gJ
  have HV := Lib.hid hv
  have HD := Lib.hid hd
  have HX := Lib.hid hbox
  have HL := Lib.hid hv.len
  have H0 := Lib.hid h0
  clear hY gJ gX hv hd h0
  refine callsIn_of_wp Try.func37 rfl trivial ?_ rfl
  simp only [Try.ntmps37, List.size_toArray, List.length_cons, List.length_nil, Nat.reduceAdd, Nat.reduceSub, Array.replicate_succ, Array.replicate_zero, List.push_toArray, List.append_toArray, List.nil_append, List.cons_append]
  gi_wp2
  gi_loopw [7] (fun iv wr => ∃ (j : Nat) (pre : List Pt), j ≤ n ∧ iv = .int .i64 j ∧ Hid (pre.length = j) ∧ Hid (pre.map Pt.x = xs.take j) ∧ Hid (J pre wr) ∧ WStays U W wr) (fun iv _ => n - (intOf iv).toNat)
  case atStart => exact ⟨0, [], Nat.zero_le _, rfl, Lib.hid rfl, Lib.hid rfl, H0, ⟨Nat.le_refl _, fun _ _ => rfl⟩⟩
  case round =>
    obtain ⟨j, pre, hj, rfl, hpl, hpx, hJ, hb⟩ := hrel
    have HBw := Lib.hid hb
    by_cases hjn : j < n
    · obtain ⟨x, hx⟩ : ∃ x, xs[j]? = some x := ⟨_, List.getElem?_eq_getElem (by rw [HL.out]; exact hjn)⟩
      obtain ⟨b, o, A', m, cc, hA, hlt, hc, hr, hmc⟩ := (HV.out.stays hb).cell hx
      have hm := HD.out x (List.mem_of_getElem? hx)
      rw [hr.1] at hm
      obtain ⟨w1, hw1⟩ : ∃ w1, w1 = wr.alloc (.cells (x.cs A' m cc) 47) := ⟨_, rfl⟩
      have L1 := Lib.hid (show CdL w1 wr.heap.size 0 x A' m cc by rw [hw1]; exact CdL.new wr x A' m cc)
      have hb1 : Below wr.heap.size wr w1 := by rw [hw1]; exact (Below.refl _ _).alloc (Nat.le_refl _) _
      have CP := Lib.hid (CPutM_any none 0 0 [] x A' m cc w1 (Rd.nil w1 none) (by decide) (hr.below (Nat.le_refl _) hb1) hm)
      have HB1 := Lib.hid (hb1.mono (B' := wr.heap.size) (Nat.le_refl _))
      have H1 := Lib.hid hx
      have HC := Lib.hid hc
      subst hA
      clear hx hr hc hmc hm hb1 hb
      gi_wp2_with (first
        | ((with_reducible refine wpListIn_ldCd (b := b) (off := o + j * 6) rfl (.tmp 9) rfl rfl HC.out ?_))
        | (rw [← hw1]; clear hw1)
        | ((with_reducible refine wpListIn_ldCd (b := wr.heap.size) (off := 0) rfl (.tmp 4) rfl rfl L1.out ?_))
        | (refine ⟨trivial, rfl, ?_⟩; gi_at_call 38; refine (callsIn_wide.2 CP.out).mono ?_; rintro e w2 ⟨A2, n2, c2, rfl, hr2, ⟨hnc2, hcm2⟩, hb2⟩
           rw [List.nil_append] at hr2
           have HB2 := Lib.hid (HB1.out.trans (hb2.mono HB1.out.size))
           have PX := Lib.hid (show PtAt xs (pre, ⟨x, A2, n2, c2⟩) wr.heap.size w2 from ⟨by rw [hpl.out]; exact hpx.out, by rw [hpl.out]; exact H1.out, hr2, hnc2, hcm2⟩)
           obtain ⟨fn, tmps, assign, body, hy, hR⟩ := HY.out pre ⟨x, A2, n2, c2⟩ wr w2 hJ.out HB2.out PX.out
           dsimp only [Pt.enc] at hy hR
           clear hr2 hnc2 hcm2 hb2))
      refine ⟨rfl, hR.mono ?_⟩
      rintro e w3 (⟨rfl, hJ3, hb3⟩ | ⟨rfl, hX3⟩)
      · have HJ3 := Lib.hid hJ3
        have HB3 := Lib.hid (show WStays U W w3 from ⟨Nat.le_trans HBw.out.1 (Nat.le_trans HB2.out.size hb3.1), fun k hk => (hb3.2 k hk).trans ((HB2.out.block k (Nat.lt_of_lt_of_le (hU k hk) HBw.out.1)).trans (HBw.out.2 k hk))⟩)
        clear hJ3 hb3 hy hR
        gi_wp2
        go_roundw
        case rel => exact ⟨j + 1, pre ++ [⟨x, A2, n2, c2⟩], hjn, by go_num, Lib.hid (by simp [hpl.out]), Lib.hid (by rw [List.map_append, hpx.out, List.take_add_one, H1.out]; rfl), HJ3, HB3.out⟩
        case measure => simp [intOf]; omega
      · have HX3 := Lib.hid hX3
        clear hX3 hy hR
        gi_wp2
        refine bodyPost_ret (results_none rfl _ _ _) rfl ?_
        exact ⟨⟨_, rfl⟩, .inr ⟨_, trivial, HX3.out⟩⟩
    · have hjn' : j = n := by omega
      have HJN := Lib.hid hjn'
      clear hjn'
      gi_wp2
      go_end0
      exact ⟨⟨_, rfl⟩, .inl ⟨pre, by rw [hpx.out, HJN.out, ← HL.out, List.take_length], hJ.out⟩⟩
end Go.Proofs.Ytlinafnhhnkjnaa
namespace Go.Proofs.Ytlinafnhhnkjnaa
open Go.RowKit
set_option linter.unusedVariables false
set_option linter.unusedSimpArgs false
set_option maxRecDepth 20000
attribute [local go_sem] Oper.semAt_some

/-- The bytes that were told. -/
def told (pre : List Pt) : List UInt8 := (pre.map (fun p => p.x.bytes)).flatten
theorem told_snoc (pre : List Pt) (p : Pt) : told (pre ++ [p]) = told pre ++ p.x.bytes := by simp [told]
theorem told_all {pre : List Pt} {xs : List Cd} (h : pre.map Pt.x = xs) : told pre = (xs.map Cd.bytes).flatten := by
  subst h
  simp only [told, List.map_map]
  rfl
theorem told_part {s : List Pt × Pt} {xs : List Cd} {W : World} {N : Nat} (h : PtAt xs s N W) : (told s.1).length + s.2.x.bytes.length ≤ ((xs.map Cd.bytes).flatten).length := by
  have e : xs = (s.1 ++ [s.2]).map Pt.x ++ xs.drop (s.1.length + 1) := by
    rw [List.map_append, h.1]
    simp only [List.map_cons, List.map_nil]
    rw [List.append_assoc, List.singleton_append, ← drop_at h.2.1, List.take_append_drop]
  rw [e, List.map_append, List.flatten_append, List.length_append]
  have : ((((s.1 ++ [s.2]).map Pt.x).map Cd.bytes).flatten) = told s.1 ++ s.2.x.bytes := by rw [← told_snoc]; exact (told_all (xs := (s.1 ++ [s.2]).map Pt.x) rfl).symm
  rw [this, List.length_append]
  omega
/-- A box that holds a slice of one's own which grows by a slice that lies elsewhere. -/
theorem boxed_grows {W w1 : World} {n₀ B : Nat} {t e : TypeId} {size : Nat} {v v' : Value} {k m : Nat} {xs ys : List Value} (hv : Boxed W B t v) (hte : t ≠ e) (hrow : W.ownsRow n₀ e size v k xs) (hn : n₀ ≤ W.heap.size) (hB : n₀ ≤ B)
    (hown : w1.ownsRow n₀ e size v' m ys) (hg : W.grownBy w1 v.ownBlock) :
    Boxed w1 B t v ∧ Boxed (w1.setCell ⟨B, 0, none⟩ v') B t v' ∧ (w1.setCell ⟨B, 0, none⟩ v').ownsRow n₀ e size v' m ys ∧ KeepsOthers W (w1.setCell ⟨B, 0, none⟩ v') ∧ Below n₀ W (w1.setCell ⟨B, 0, none⟩ v') ∧
      ∀ k, k < W.heap.size → k ≠ B → some k ≠ v.ownBlock → (w1.setCell ⟨B, 0, none⟩ v').heap[k]? = W.heap[k]? := by
  have h1 : Boxed w1 B t v := hv.kept hg (hv.not_row hte hrow)
  refine ⟨h1, h1.set v', hown.kept (grownBy_setCell' w1 B v') (.inr (h1.not_row hte hown).symm), ?_, (below_own hrow hn hg).setCell (p := ⟨B, 0, none⟩) hB v', fun k hk hkB hkv => (Below.heap_setCell _ _ _ k hkB).trans (hg.block k hk hkv)⟩
  exact (own_turn hrow hg).trans (KeepsOthers.setCell _ _ _)
/-- 'append(v, x...)' of bytes, inside a fence. -/
theorem wpListIn_appb {F : Fence} {q : Nat} {w : World} {ops : Array Oper} {rest : List Oper} {o : Oper} {a : Act} {Q : Exit → Act → World → Prop} (hgd : o.guard = none) (s x : Operand)
    (ho : o.op = .call { callee := .builtin .append, args := #[s, x], argTypes := #[25, 25] })
    (B : Nat) (v : Value) (n : Nat) (xs : List Value) (hs : a.eval s = v) (hown : w.ownsRow B 5 1 v n xs)
    (A : Option Addr) (m c : Nat) (l : List UInt8) (hx : a.eval x = .slice A m c) (hr : Rd w A m l) (hb : n + m ≤ 140737488355328) (hB : B ≤ w.heap.size)
    (h : ∀ v' w', w'.ownsRow B 5 1 v' (n + m) (xs ++ cells l) → w.grownBy w' v.ownBlock → wpListIn F q Try.prog ops Q rest (a.put o.dst v') w') : wpListIn F q Try.prog ops Q (o :: rest) a w :=
  wpListIn_plain hgd fun K hK => by
    obtain ⟨v', w', hrun, h2, h3, h4⟩ := run_appg w bytesT o.type B v n xs hown A m c l hr hb hB
    unfold Oper.wpIn
    refine ⟨?_, ?_⟩
    · simp [Oper.about, ho, resolve, Target.leads, Sem.run_pure]
    · rw [Oper.semAt_plain F _ _ (by rw [ho]; intro c hc'; cases hc')]
      simp only [execOp, ho, resolve, invoke, builtin, Sem.run_bind, Sem.run_pure, Result.andThen_ok, List.map_toArray, List.map_cons, List.map_nil, hs, hx, hrun]
      exact hK _ _ (h v' w' h2 h4)

/-- What Put has between two rounds: its bytes so far in a box. -/
def PutI (gb n : Nat) (w : World) (pre : List Pt) (W : World) : Prop := (∃ v, Boxed W gb 25 v ∧ W.ownsRow w.heap.size 5 1 v (1 + (told pre).length) (cells (numB 1 (n : Int) ++ told pre)) ∧ True) ∧ Below w.heap.size w W
theorem PutI.own (gb n : Nat) (w : World) (B : Nat) (h : w.heap.size ≤ B) : OwnFrom B (PutI gb n w) :=
  OwnFrom.and (Own.from (holdsRow_own w.heap.size gb 25 5 1 (fun pre => 1 + (told pre).length) (fun pre => cells (numB 1 (n : Int) ++ told pre)) (fun _ _ => True)) _) (ownFrom_below (Nat.le_refl _) h)
section
variable {K : Nat → Prop} (A : Option Addr) (n c : Nat) (xs : List Cd) (w : World)
set_option maxHeartbeats 2000000 in
theorem FPut_no (h : CdsV K w A n xs) (hn : n ≤ 70) (hnc : n ≤ c) (hd : ∀ x ∈ xs, x.dt.length ≤ 200) (hf : frCheck xs ≠ 0) : Calls Try.prog 8 #[.slice A n c] w (FPutP xs w) := by
  have CK := Lib.hid (FChk_ok K A n c xs w h hn hnc hd)
  have hne : (frCheck xs != 0) = true := bne_iff_ne.2 hf
  obtain ⟨ck, hck⟩ : ∃ q, q = frCheck xs := ⟨_, rfl⟩
  have HF := Lib.hid hf
  have HCK := Lib.hid hck
  rw [← hck] at CK hne
  clear h hf hck
  go_enter Try.func8, Try.ntmps8
  go_wp2_with (go_at_call 11; refine CK.out.mono ?_; rintro e w2 ⟨rfl, hb2⟩)
  go_ret2
  exact ⟨none, 0, 0, by rw [← HCK.out]; rfl, by rw [if_neg HF.out]; exact Rd.nil _ _, Nat.le_refl _, Nat.zero_le _, hb2⟩
set_option maxHeartbeats 4000000 in
theorem FPut_yes (h : CdsV K w A n xs) (hn : n ≤ 70) (hnc : n ≤ c) (hd : ∀ x ∈ xs, x.dt.length ≤ 200) (hf : frCheck xs = 0) : Calls Try.prog 8 #[.slice A n c] w (FPutP xs w) := by
  have CK := Lib.hid (FChk_ok K A n c xs w h hn hnc hd)
  rw [hf] at CK
  have HF := Lib.hid hf
  have HV := Lib.hid h
  have HD := Lib.hid hd
  have HL := Lib.hid h.len
  have HBL := Lib.hid (frBytes_len (xs := xs) (by have := h.len; omega) hd)
  clear h hf hd
  refine calls_of_wp_marks Try.func8 rfl ?_
  simp only [Try.ntmps8, List.size_toArray, List.length_cons, List.length_nil, Nat.reduceAdd, Nat.reduceSub, Array.replicate_succ, Array.replicate_zero, List.push_toArray, List.append_toArray, List.nil_append, List.cons_append]
  go_wp2_with (first
    | (go_at_call 11; refine CK.out.mono ?_; rintro e w2 ⟨rfl, hb2⟩
       have HB2 := Lib.hid hb2
       have CP := Lib.hid (Put_any none 0 0 [] 1 (n : Int) w2 (Rd.nil w2 none) (by decide))
       clear hb2)
    | (go_at_call 21; refine CP.out.mono ?_; rintro e w3 ⟨v3, rfl, ho, hb3⟩
       rw [show wd 1 = 1 from rfl, Nat.zero_add, List.nil_append] at ho
       have HO3 := Lib.hid (own_mono ho HB2.out.size)
       have HB3 := Lib.hid (HB2.out.trans (hb3.mono HB2.out.size))
       obtain ⟨g3, c3, rfl⟩ := ownsRow_succ ho
       clear ho hb3 CP CK
       obtain ⟨w4, hw4⟩ : ∃ w4, w4 = w3.alloc (.cells #[.slice (some ⟨g3, 0, none⟩) 1 c3] 25) := ⟨_, rfl⟩)
    | (rw [← hw4])
    | (go_at_call 22; refine (parts_any A n c w4).mono ?_; rintro e w5 ⟨rfl, hw5⟩))
  rw [← hw5]
  obtain ⟨gb, hgb⟩ : ∃ g, g = w3.heap.size := ⟨_, rfl⟩
  have s4 : w4.heap.size = gb + 1 := by rw [hw4, hgb]; simp
  have s5 : w5.heap.size = gb + 2 := by rw [hw5]; simp; omega
  have hwg : w.heap.size ≤ gb := by rw [hgb]; exact HB3.out.size
  have B4 : Boxed w4 gb 25 (.slice (some ⟨g3, 0, none⟩) 1 c3) := by rw [hw4, hgb]; exact Boxed.new w3 _ _
  have B5 : Boxed w5 gb 25 (.slice (some ⟨g3, 0, none⟩) 1 c3) := by rw [hw5]; exact B4.alloc _
  have b34 : Below w3.heap.size w3 w4 := by rw [hw4]; exact (Below.refl _ _).alloc (Nat.le_refl _) _
  have b45 : Below w4.heap.size w4 w5 := by rw [hw5]; exact (Below.refl _ _).alloc (Nat.le_refl _) _
  have b35 : Below w3.heap.size w3 w5 := b34.trans (b45.mono b34.size)
  have O5 := own_keep HO3.out b35
  have HB5 := HB3.out.trans (b35.mono HB3.out.size)
  have C5 : w5.cell? ⟨gb + 1, 0, none⟩ = some (.slice A n c) := by
    have := (Boxed.new w4 22 (.slice A n c)).cell
    rw [s4] at this
    rw [hw5]
    exact this
  have V5 : CdsV (fun x => x < w.heap.size) w5 A n xs := (HV.out.lt.mono fun _ h => h.2).stays ⟨HB5.size, fun k hk => HB5.block k hk⟩
  rw [← hgb]
  have hte : 25 ≠ 5 := by decide
  clear hgb hw4 hw5
  refine wp_rangeFunc_mem (gf := 37) (lb := #[.pointer (some ⟨gb + 1, 0, none⟩)]) rfl (enters_of Try.func37 (by kernel_rfl) rfl) (encs := Pt.enc) (fun _ => rfl) (fun N => PtAt.own xs _ N) (Kp := fun x => x < w.heap.size) (fun k hk => by omega)
    (fun W hW => parts_seq _ (gb + 1) A n c xs W (fun k hk => by have := hW.size; omega) ((hW.cell (p := ⟨gb + 1, 0, none⟩) (by show gb + 1 < _; omega)).trans C5) (V5.stays ⟨hW.size, fun k hk => hW.block k (by omega)⟩) (by omega) (fun x hx => Nat.le_trans (HD.out x hx) (by decide)))
    (PutI gb n w) (fun _ _ _ => False) (PutI.own gb n w _ (by omega))
    (fun _ _ _ _ _ hs _ _ => hs) ⟨⟨_, B5, by simpa [told] using O5, trivial⟩, HB5⟩
    (fun p => { tmps := #[.slice A n c, undef, .slice none 0 0, .int .i64 0, .int .i64 0, .pointer (some ⟨gb, 0, none⟩), .slice p.A p.n p.c, .slice A n c, .int .i64 0, .int .i64 0, .bool false, undef, .slice A n c, .int .i64 n, .slice (some ⟨g3, 0, none⟩) 1 c3, .slice A n c, .func (.func 37) #[] #[.pointer (some ⟨gb + 1, 0, none⟩)], .slice p.A p.n p.c, undef, undef, undef, undef, undef, undef, undef], defers := [] }) ?assign ?body ?done ?stop
  case assign =>
    intro l x W K hK
    gi_wp2
    exact hK
  case body =>
    rintro l pre ⟨x, A', m, cc⟩ W0 W _ _ _ hP ⟨⟨v, hv, hrow, _⟩, hB⟩
    have hc := hv.cell
    have hlen := told_part hP
    have hR := hP.2.2.1
    have hmp : 1 ≤ m := by
      have h1 : x.check = 0 := (frCheck_zero HF.out).2 x (List.mem_of_getElem? hP.2.1)
      have h2 := hR.1
      simp only at h2
      rw [← h2]
      have hd : 0 ≤ x.d ∧ x.d ≤ 3 := Classical.byContradiction fun h => by unfold Cd.check at h1; rw [if_neg h] at h1; exact absurd h1 (by decide)
      unfold Cd.bytes
      split
      · simp
      split
      · simp
      split
      · simp
      split
      · simp
      · simp
    have hbl : (frBytes xs).length = 1 + ((xs.map Cd.bytes).flatten).length + 4 := by unfold frBytes frBody; simp only [List.length_append, numB_length]
    have hbound : 1 + (told pre).length + m ≤ 100000 := by have := HBL.out; have := hR.1; simp only at this hlen; omega
    have HBO := Lib.hid hbound
    have HRO := Lib.hid hrow
    have HRR := Lib.hid hR
    have HM := Lib.hid hmp
    clear hlen hR hmp hbl hbound hrow
    gi_wp2_with (gi_at_builtin; refine wpListIn_appb rfl _ _ rfl w.heap.size v _ _ rfl HRO.out A' m cc x.bytes rfl HRR.out (by have := HBO.out; omega) hB.size ?_; intro v' w1 hown hg; have hown := hown; rw [show 1 + (told pre).length + m = ((told pre).length + m) + 1 by omega] at hown; obtain ⟨g', cap', rfl⟩ := ownsRow_succ hown; obtain ⟨hv1, hv2, hr2, hk2, hb2, _⟩ := boxed_grows hv hte HRO.out hB.size hwg hown hg; have hc1 := hv1.cell; have hf1 := hv1.frozen)
    refine ⟨hk2.from _, ⟨hb2.size, fun k hk => hb2.block k hk⟩, ⟨_, hv2, ?_, trivial⟩, hB.trans hb2⟩
    have hml := HRR.out.1
    simp only [told_snoc, List.length_append, ← List.append_assoc, cells_append]
    rw [hml, ← Nat.add_assoc, show 1 + (told pre).length + m = (told pre).length + m + 1 by omega]
    simpa [cells_append] using hr2
  case done =>
    rintro D ys W hD hS ⟨⟨v, hv, hrow, _⟩, hB⟩ hK
    obtain ⟨L, hL⟩ : ∃ L, L = 1 + (told ys).length := ⟨_, rfl⟩
    have hbo : numB 1 (n : Int) ++ told ys = frBody xs := by rw [told_all hS, ← HL.out]; rfl
    rw [hbo, ← hL] at hrow
    have hLl : (frBody xs).length = L := by rw [← hbo, List.length_append, numB_length, hL]
    have hLb : L + 4 ≤ 100000 := by have := HBL.out; unfold frBytes at this; rw [List.length_append, numB_length] at this; omega
    obtain ⟨A5, c5, rfl, _, _, hr5⟩ := Rd.of_own hrow rfl
    have c0 : W.drew.cell? ⟨gb, 0, none⟩ = some (.slice A5 L c5) := hv.cell
    have CS := Lib.hid (fsum_any A5 L c5 (frBody xs) W.drew hr5.drew (by omega))
    have HW := Lib.hid (And.intro hv (And.intro hrow hB))
    have HK := Lib.hid hK
    have HLE := Lib.hid hL
    have HBOD := Lib.hid hbo
    have HDS := Lib.hid (show w.heap.size ≤ D by omega)
    clear hv hrow hB hK hL hbo hr5 hLl HBL HL HV HD B4 B5 b34 b45 b35 O5 HB5 C5 V5 s4 s5
    go_wp2
    go_region_held3 (fun V => V.cell? ⟨gb, 0, none⟩ = some (.slice A5 L c5)) (first
      | with_reducible exact c0
      | with_reducible exact c2
      | with_reducible exact c3
      | go_keep) (first
      | (go_at_call 23; refine CS.out.mono ?_; rintro e v2 ⟨u2, rfl, ho2, hb2'⟩; have hb2 : Below W.heap.size W v2 := ((Below.refl _ _).drew).trans hb2'; obtain ⟨A2, c2', rfl, _, _, hr2⟩ := Rd.of_own ho2 rfl; have hv2 := HW.out.1.kept (below_row hb2) (by simp); have ho3 := own_keep HW.out.2.1 hb2; have c2 := hv2.cell)
      | (refine step_app _ bytesT rfl (.tmp 21) (.tmp 23) rfl w.heap.size _ L _ rfl ho3 A2 4 c2' _ rfl hr2 (by omega) (Nat.le_trans HW.out.2.2.size hb2.size) ?_; intro v4 w4 ho4 hb4 hg4; have c3 := (hv2.kept hg4 (hv2.not_row hte ho3)).cell))
    have hK4 : w4.heap[D]? = some (.deferred (some [])) := (own_turn ho3 hg4).same D _ (below_at hb2 HK.out) rfl
    have HK4 := Lib.hid hK4
    have hBw := HW.out.2.2.trans ((hb2.mono HW.out.2.2.size).trans hb4)
    have HBF := Lib.hid (hBw.trans (belowK_b (w := w) (Nat.le_refl _) w4 D _ (.deferred none) HDS.out hK4 rfl rfl))
    obtain ⟨A4, c4, rfl, h41, h42, hr4⟩ := Rd.of_own (l := frBytes xs) (ownsRow_putObj ho4 (.deferred none) hK4 rfl) (by unfold frBytes; rw [cells_append])
    have HR4 := Lib.hid (And.intro hr4 (And.intro h41 h42))
    clear hK4 hBw hr4 h41 h42 hb2 hb2' ho2 hr2 hv2 ho3 c2 ho4 hb4 hg4 c3 c0 CS HW HK
    go_wp2
    refine ⟨by simp, .inl ⟨_, _, rfl, run_takeDeferred HK4.out, ?_⟩⟩
    refine ⟨_, results_tmp2 rfl _ _ _, ?_⟩
    exact ⟨A4, L + 4, c4, by rw [HF.out]; rfl, by rw [if_pos HF.out]; exact HR4.out.1, HR4.out.2.1, HR4.out.2.2, HBF.out⟩
  case stop =>
    rintro D c pre W _ _ h _
    exact h.elim
theorem FPut_ok : FPutC := fun K A n c xs w h hn hnc hd => by
  by_cases hf : frCheck xs = 0
  · exact FPut_yes A n c xs w h hn hnc hd hf
  · exact FPut_no A n c xs w h hn hnc hd hf
end
end Go.Proofs.Ytlinafnhhnkjnaa
namespace Go.Proofs.Ytlinafnhhnkjnaa
open Go.RowKit
set_option linter.unusedVariables false
set_option linter.unusedSimpArgs false
set_option maxRecDepth 20000
attribute [local go_sem] Oper.semAt_some

/-- What Size has between two rounds. -/
def SizeI (gb : Nat) (w : World) (pre : List Pt) (W : World) : Prop := Boxed W gb 3 (.int .i64 ((5 + (told pre).length : Nat) : Int)) ∧ Below w.heap.size w W
theorem SizeI.own (gb : Nat) (w : World) (B : Nat) (h : w.heap.size ≤ B) : OwnFrom B (SizeI gb w) :=
  OwnFrom.and (Own.from (boxed_own gb 3 (fun pre => .int .i64 ((5 + (told pre).length : Nat) : Int))) _) (ownFrom_below (Nat.le_refl _) h)
section
variable {K : Nat → Prop} (A : Option Addr) (n c : Nat) (xs : List Cd) (w : World)
set_option maxHeartbeats 2000000 in
theorem FSize_no (h : CdsV K w A n xs) (hn : n ≤ 70) (hnc : n ≤ c) (hd : ∀ x ∈ xs, x.dt.length ≤ 200) (hf : frCheck xs ≠ 0) : Calls Try.prog 12 #[.slice A n c] w fun e w' => e = .returned (.int .i64 0) ∧ Below w.heap.size w w' := by
  have CK := Lib.hid (FChk_ok K A n c xs w h hn hnc hd)
  have hne : (frCheck xs != 0) = true := bne_iff_ne.2 hf
  obtain ⟨ck, hck⟩ : ∃ q, q = frCheck xs := ⟨_, rfl⟩
  rw [← hck] at CK hne
  clear h hf hck
  go_enter Try.func12, Try.ntmps12
  go_wp2_with (go_at_call 11; refine CK.out.mono ?_; rintro e w2 ⟨rfl, hb2⟩)
  go_ret
  exact ⟨rfl, hb2⟩
set_option maxHeartbeats 4000000 in
theorem FSize_yes (h : CdsV K w A n xs) (hn : n ≤ 70) (hnc : n ≤ c) (hd : ∀ x ∈ xs, x.dt.length ≤ 200) (hf : frCheck xs = 0) : Calls Try.prog 12 #[.slice A n c] w fun e w' => e = .returned (.int .i64 (((frBytes xs).length : Nat) : Int)) ∧ Below w.heap.size w w' := by
  have CK := Lib.hid (FChk_ok K A n c xs w h hn hnc hd)
  rw [hf] at CK
  have HV := Lib.hid h
  have HD := Lib.hid hd
  have HL := Lib.hid h.len
  have hbl : (frBytes xs).length = 5 + ((xs.map Cd.bytes).flatten).length := by unfold frBytes frBody; simp only [List.length_append, numB_length]; omega
  have HBL := Lib.hid (frBytes_len (xs := xs) (by have := h.len; omega) hd)
  have HBE := Lib.hid hbl
  clear h hf hd hbl
  refine calls_of_wp_marks Try.func12 rfl ?_
  simp only [Try.ntmps12, List.size_toArray, List.length_cons, List.length_nil, Nat.reduceAdd, Nat.reduceSub, Array.replicate_succ, Array.replicate_zero, List.push_toArray, List.append_toArray, List.nil_append, List.cons_append]
  go_wp2_with (first
    | (go_at_call 11; refine CK.out.mono ?_; rintro e w3 ⟨rfl, hb3⟩
       have HB3 := Lib.hid hb3
       clear hb3
       obtain ⟨w4, hw4⟩ : ∃ w4, w4 = w3.alloc (.cells #[.int .i64 5] 3) := ⟨_, rfl⟩)
    | (rw [← hw4])
    | (go_at_call 22; refine (parts_any A n c w4).mono ?_; rintro e w5 ⟨rfl, hw5⟩))
  rw [← hw5]
  obtain ⟨gb, hgb⟩ : ∃ g, g = w3.heap.size := ⟨_, rfl⟩
  have s4 : w4.heap.size = gb + 1 := by rw [hw4, hgb]; simp
  have s5 : w5.heap.size = gb + 2 := by rw [hw5]; simp; omega
  have hwg : w.heap.size ≤ gb := by rw [hgb]; exact HB3.out.size
  have B4 : Boxed w4 gb 3 (.int .i64 5) := by rw [hw4, hgb]; exact Boxed.new w3 _ _
  have B5 : Boxed w5 gb 3 (.int .i64 5) := by rw [hw5]; exact B4.alloc _
  have b34 : Below w3.heap.size w3 w4 := by rw [hw4]; exact (Below.refl _ _).alloc (Nat.le_refl _) _
  have b45 : Below w4.heap.size w4 w5 := by rw [hw5]; exact (Below.refl _ _).alloc (Nat.le_refl _) _
  have b35 : Below w3.heap.size w3 w5 := b34.trans (b45.mono b34.size)
  have HB5 := HB3.out.trans (b35.mono HB3.out.size)
  have C5 : w5.cell? ⟨gb + 1, 0, none⟩ = some (.slice A n c) := by
    have := (Boxed.new w4 22 (.slice A n c)).cell
    rw [s4] at this
    rw [hw5]
    exact this
  have V5 : CdsV (fun x => x < w.heap.size) w5 A n xs := (HV.out.lt.mono fun _ h => h.2).stays ⟨HB5.size, fun k hk => HB5.block k hk⟩
  rw [← hgb]
  clear hgb hw4 hw5
  refine wp_rangeFunc_mem (gf := 37) (lb := #[.pointer (some ⟨gb + 1, 0, none⟩)]) rfl (enters_of Try.func37 (by kernel_rfl) rfl) (encs := Pt.enc) (fun _ => rfl) (fun N => PtAt.own xs _ N) (Kp := fun x => x < w.heap.size) (fun k hk => by omega)
    (fun W hW => parts_seq _ (gb + 1) A n c xs W (fun k hk => by have := hW.size; omega) ((hW.cell (p := ⟨gb + 1, 0, none⟩) (by show gb + 1 < _; omega)).trans C5) (V5.stays ⟨hW.size, fun k hk => hW.block k (by omega)⟩) (by omega) (fun x hx => Nat.le_trans (HD.out x hx) (by decide)))
    (SizeI gb w) (fun _ _ _ => False) (SizeI.own gb w _ (by omega)) (fun _ _ _ _ _ hs _ _ => hs) ⟨B5, HB5⟩
    (fun p => { tmps := #[.slice A n c, undef, .int .i64 0, .pointer (some ⟨gb, 0, none⟩), .slice p.A p.n p.c, .slice A n c, .int .i64 0, .bool false, .slice A n c, .func (.func 37) #[] #[.pointer (some ⟨gb + 1, 0, none⟩)], .slice p.A p.n p.c, undef, undef, undef, undef, undef], defers := [] }) ?assign ?body ?done ?stop
  case assign =>
    intro l x W K hK
    gi_wp2
    exact hK
  case body =>
    rintro l pre ⟨x, A', m, cc⟩ W0 W _ _ _ hP ⟨hv, hB⟩
    have hc := hv.cell
    have hf := hv.frozen
    have hlen := told_part hP
    have hm := hP.2.2.1.1
    simp only at hm hlen
    have hbound : 5 + (told pre).length + m ≤ 100000 := by have := HBL.out; have := HBE.out; omega
    obtain ⟨q, hq⟩ : ∃ q, q = 5 + (told pre).length := ⟨_, rfl⟩
    have HQ := Lib.hid (And.intro hq hm)
    have HV' := Lib.hid (And.intro hv hB)
    rw [← hq] at hc hbound
    clear hlen hm hq hv hB hP
    gi_wp2
    have hB' := HV'.out.2.setCell (p := ⟨gb, 0, none⟩) hwg (.int .i64 ((q : Int) + (m : Int)))
    have hb' := (Below.refl w.heap.size W).setCell (p := ⟨gb, 0, none⟩) hwg (.int .i64 ((q : Int) + (m : Int)))
    have hx' := HV'.out.1.set (.int .i64 ((q : Int) + (m : Int)))
    refine ⟨(KeepsOthers.setCell _ _ _).from _, ⟨hb'.size, fun k hk => hb'.block k hk⟩, ?_, hB'⟩
    have e : ((5 + (told (pre ++ [(⟨x, A', m, cc⟩ : Pt)])).length : Nat) : Int) = (q : Int) + (m : Int) := by rw [told_snoc, List.length_append, HQ.out.1, HQ.out.2]; omega
    rw [e]
    exact hx'
  case done =>
    rintro D ys W hD hS ⟨hv, hB⟩ hK
    have hc := hv.cell
    rw [told_all hS, ← HBE.out] at hc
    have HK := Lib.hid hK
    have HBF := Lib.hid (hB.trans (belowK_b (w := w) (Nat.le_refl _) W D _ (.deferred none) (by omega) hK rfl rfl))
    clear hv hB hK
    go_wp2
    refine ⟨by simp, .inl ⟨_, _, rfl, run_takeDeferred HK.out, ?_⟩⟩
    exact ⟨_, results_tmp rfl _ _ _, rfl, HBF.out⟩
  case stop =>
    rintro D c pre W _ _ h _
    exact h.elim
theorem FSize_ok : FSizeC := fun K A n c xs w h hn hnc hd => by
  by_cases hf : frCheck xs = 0
  · rw [if_pos hf]
    exact FSize_yes A n c xs w h hn hnc hd hf
  · rw [if_neg hf]
    exact FSize_no A n c xs w h hn hnc hd hf
end
end Go.Proofs.Ytlinafnhhnkjnaa
namespace Go.Proofs.Ytlinafnhhnkjnaa
open Go.RowKit
set_option linter.unusedVariables false
set_option linter.unusedSimpArgs false
set_option maxRecDepth 20000
attribute [local go_sem] Oper.semAt_some

/-- A command that was read, where its data lie, the place behind it, why there is none. -/
structure Gt where
  x : Cd
  A : Option Addr
  n : Nat
  c : Nat
  nx : Int
  e : Int
abbrev Gt.cs (p : Gt) : Array Value := #[.int .i64 p.x.d, .bool p.x.lc, .int .i64 p.x.ix, .int .i64 p.x.gn, .int .i64 p.x.cp, .slice p.A p.n p.c, .int .i64 p.nx, .int .i64 p.e]
abbrev Gt.enc (p : Gt) : Array Value := #[.agg p.cs]
/-- The place behind those that were read. -/
def nxt (pre : List Gt) : Int := (pre.getLast?.map Gt.nx).getD 1
theorem nxt_snoc (pre : List Gt) (g : Gt) : nxt (pre ++ [g]) = g.nx := by simp [nxt]
/-- Those that were read so far are the first ones; the next is at a. -/
structure GtPre (inp : List UInt8) (d : Nat) (pre : List Gt) (a : Nat) : Prop where
  ok : ∀ y ∈ pre, y.e = 0
  len : pre.length ≤ d
  le : a ≤ inp.length
  at_ : nxt pre = (a : Int)
  gets : getsL inp d 1 = (pre.map Gt.x ++ (getsL inp (d - pre.length) a).1, (getsL inp (d - pre.length) a).2.1, (getsL inp (d - pre.length) a).2.2)
/-- What is handed to a round. -/
def GtAt (inp : List UInt8) (d : Nat) (s : List Gt × Gt) (N : Nat) (W : World) : Prop :=
  ∃ a, GtPre inp d s.1 a ∧ s.1.length < d ∧ s.2.x = (getCd (inp.drop a)).1 ∧ s.2.e = (getCd (inp.drop a)).2.2 ∧ s.2.nx = (if s.2.e = 0 then (a : Int) + ((getCd (inp.drop a)).2.1 : Nat) else 0) ∧ Rd W s.2.A s.2.n s.2.x.dt ∧ s.2.n ≤ s.2.c ∧ ∀ b o, s.2.A = some ⟨b, o, none⟩ → 0 < s.2.n → N ≤ b
theorem GtAt.own (inp : List UInt8) (d B N : Nat) : OwnFrom B (fun s => GtAt inp d s N) := fun s X Y row h hg hr => by
  obtain ⟨a, h1, h2, h3, h4, h5, h6, h7, h8⟩ := h
  exact ⟨a, h1, h2, h3, h4, h5, rd_kept h6 hg (fun r e => (hr r e).2), h7, h8⟩
theorem gets_step (inp : List UInt8) (d j a : Nat) (hj : j < d) : getsL inp (d - j) a = (if (getCd (inp.drop a)).2.2 ≠ 0 then ([], (getCd (inp.drop a)).2.2, a) else ((getCd (inp.drop a)).1 :: (getsL inp (d - (j + 1)) (a + (getCd (inp.drop a)).2.1)).1, (getsL inp (d - (j + 1)) (a + (getCd (inp.drop a)).2.1)).2.1, (getsL inp (d - (j + 1)) (a + (getCd (inp.drop a)).2.1)).2.2)) := by
  rw [show d - j = (d - (j + 1)) + 1 by omega]
  rfl
theorem GtPre.step {inp : List UInt8} {d : Nat} {pre : List Gt} {a : Nat} (h : GtPre inp d pre a) (hl : pre.length < d) (g : Gt) (hx : g.x = (getCd (inp.drop a)).1) (he : (getCd (inp.drop a)).2.2 = 0) (hge : g.e = 0) (hn : g.nx = (a : Int) + ((getCd (inp.drop a)).2.1 : Nat)) :
    GtPre inp d (pre ++ [g]) (a + (getCd (inp.drop a)).2.1) := by
  have hle := getCd_le (inp.drop a) he
  refine ⟨fun y hy => ?_, by simp; omega, by have := h.le; rw [List.length_drop] at hle; omega, by rw [nxt_snoc, hn]; omega, ?_⟩
  · rcases List.mem_append.1 hy with hy | hy
    · exact h.ok y hy
    · rw [List.mem_singleton.1 hy]; exact hge
  · rw [h.gets, gets_step inp d pre.length a hl, if_neg (fun e => e he), hx.symm]
    simp [List.append_assoc]
theorem GtPre.err {inp : List UInt8} {d : Nat} {pre : List Gt} {a : Nat} (h : GtPre inp d pre a) (hl : pre.length < d) (he : (getCd (inp.drop a)).2.2 ≠ 0) : (getsL inp d 1).2.1 = (getCd (inp.drop a)).2.2 := by
  rw [h.gets, gets_step inp d pre.length a hl, if_pos he]
theorem GtPre.done {inp : List UInt8} {d : Nat} {pre : List Gt} {a : Nat} (h : GtPre inp d pre a) (hl : pre.length = d) : getsL inp d 1 = (pre.map Gt.x, 0, a) := by
  rw [h.gets, hl, Nat.sub_self]
  simp [getsL]
theorem GtPre.start (inp : List UInt8) (d : Nat) (h : 1 ≤ inp.length) : GtPre inp d [] 1 := ⟨fun _ h => absurd h List.not_mem_nil, Nat.zero_le _, h, rfl, by simp⟩
/-- What has come in the end: all of them, or one that is none at last. -/
def GtAll (inp : List UInt8) (d : Nat) (ys : List Gt) : Prop := (∃ a, GtPre inp d ys a ∧ ys.length = d) ∨ ∃ y ∈ ys, y.e ≠ 0

/-- The iterator. -/
theorem commands_any (A : Option Addr) (n c : Nat) (d : Int) (w : World) : Calls Try.prog 27 #[.slice A n c, .int .i64 d] w fun e w' => e = .returned (.func (.func 41) #[] #[.pointer (some ⟨w.heap.size + 1, 0, none⟩), .pointer (some ⟨w.heap.size, 0, none⟩)]) ∧ w' = (w.alloc (.cells #[.slice A n c] 25)).alloc (.cells #[.int .i64 d] 3) := by
  go_enter Try.func27, Try.ntmps27
  go_wp2
  go_ret
  exact ⟨rfl, rfl⟩

set_option maxHeartbeats 4000000 in
theorem commands_seq (U : Nat → Prop) (bd bb : Nat) (A : Option Addr) (n c d : Nat) (inp : List UInt8) (W : World) (hU : ∀ k, U k → k < W.heap.size) (hbd : W.cell? ⟨bd, 0, none⟩ = some (.int .i64 d)) (hbb : W.cell? ⟨bb, 0, none⟩ = some (.slice A n c)) (hUb : U bb)
    (hr : Rd W A n inp) (hUA : ∀ b o, A = some ⟨b, o, none⟩ → U b) (h1 : 1 ≤ n) (hn : n ≤ 1000000) (hnc : n ≤ c) (hcm : c ≤ maxLen) (hd : d ≤ 255) :
    SeqMem Try.prog 41 #[.pointer (some ⟨bd, 0, none⟩), .pointer (some ⟨bb, 0, none⟩)] Gt.enc U (GtAt inp d) (GtAll inp d) (fun _ => True) W := by
  intro l J Jx gJ gX hY h0
  have HY := Lib.hid hY
  have GJ := Lib.hid gJ
  have HR := Lib.hid hr
  have HIL := Lib.hid hr.1
  have HUA := Lib.hid hUA
  have HBB := Lib.hid hbb
  have H0 := Lib.hid h0
  have HCM := Lib.hid (show c ≤ 9223372036854775807 from Nat.le_trans hcm (by decide))
  clear hY gJ gX hr hUA h0 hbb hcm
  refine callsIn_of_wp Try.func41 rfl trivial ?_ rfl
  simp only [Try.ntmps41, List.size_toArray, List.length_cons, List.length_nil, Nat.reduceAdd, Nat.reduceSub, Array.replicate_succ, Array.replicate_zero, List.push_toArray, List.append_toArray, List.nil_append, List.cons_append]
  gi_wp2
  gi_loopw [4, 9] (fun av iv wr => ∃ (j a : Nat) (pre : List Gt), j ≤ d ∧ iv = .int .i64 j ∧ av = .int .i64 a ∧ Hid (pre.length = j) ∧ Hid (GtPre inp d pre a) ∧ Hid (J pre wr) ∧ Hid (WStays U W wr)) (fun _ iv _ => d - (intOf iv).toNat)
  case atStart => exact ⟨0, 1, [], Nat.zero_le _, rfl, rfl, Lib.hid rfl, Lib.hid (GtPre.start inp d (by rw [HIL.out]; exact h1)), H0, Lib.hid ⟨Nat.le_refl _, fun _ _ => rfl⟩⟩
  case round =>
    obtain ⟨j, a, pre, hj, rfl, rfl, hpl, hpx, hJ, HB⟩ := hrel
    by_cases hjd : j < d
    · have hcb : wr.cell? ⟨bb, 0, none⟩ = some (.slice A n c) := (World.cell?_of_block (w := W) (a := ⟨bb, 0, none⟩) (HB.out.2 bb hUb)).trans HBB.out
      have CG := CGetL_any A n c inp wr (a : Int) (HR.out.block HB.out.1 (fun b o e => HB.out.2 b (HUA.out b o e))) hn hnc HCM.out
      have hal := hpx.out.le
      have ea : getAt inp (a : Int) = ((getCd (inp.drop a)).1, if (getCd (inp.drop a)).2.2 = 0 then (a : Int) + (getCd (inp.drop a)).2.1 else 0, (getCd (inp.drop a)).2.2) := by unfold getAt; rw [if_neg (by omega), Int.toNat_natCast]
      obtain ⟨⟨x, u, er⟩, hx⟩ : ∃ g, g = getCd (inp.drop a) := ⟨_, rfl⟩
      rw [ea, ← hx] at CG
      simp only at CG
      have HX := Lib.hid hx
      unfold GetL at CG
      obtain ⟨nx, hnx⟩ : ∃ q, q = (if er = 0 then (a : Int) + (u : Int) else 0) := ⟨_, rfl⟩
      have HNX := Lib.hid hnx
      rw [← hnx] at CG
      have CG2 := Lib.hid CG
      have HAL := Lib.hid hal
      clear ea hx hnx CG hal
      by_cases he : er = 0
      · subst he
        have hnx2 : nx = (((a + u : Nat) : Nat) : Int) := by rw [HNX.out, if_pos rfl]; omega
        have HN2 := Lib.hid hnx2
        clear hnx2
        gi_wp2_with (first
          | (refine ⟨trivial, rfl, ?_⟩; gi_at_call 42; refine (callsIn_wide.2 CG2.out).mono ?_; rintro e w5 ⟨A1, n1, c1, rfl, hr1, hc1, hb5, hlo1⟩
             obtain ⟨w6, hw6⟩ : ∃ w6, w6 = w5.alloc (.cells (x.cs A1 n1 c1) 47) := ⟨_, rfl⟩
             have L6 := Lib.hid (show CdL w6 w5.heap.size 0 x A1 n1 c1 by rw [hw6]; exact CdL.new w5 x A1 n1 c1)
             have hb6 : Below w5.heap.size w5 w6 := by rw [hw6]; exact (Below.refl _ _).alloc (Nat.le_refl _) _
             have HB6 := Lib.hid (hb5.trans (hb6.mono hb5.size))
             have PX := Lib.hid (show GtAt inp d (pre, ⟨x, A1, n1, c1, nx, 0⟩) wr.heap.size w6 from ⟨a, hpx.out, by rw [hpl.out]; exact hjd, by rw [← HX.out], by rw [← HX.out], by rw [← HX.out]; exact HNX.out, hr1.below (Nat.le_refl _) hb6, hc1, hlo1⟩)
             obtain ⟨fn, tmps, assign, body, hy, hR⟩ := HY.out pre ⟨x, A1, n1, c1, nx, 0⟩ wr w6 hJ.out HB6.out PX.out
             dsimp only [Gt.enc, Gt.cs] at hy hR
             clear hr1 hc1 hb5 hlo1 hb6)
          | (rw [← hw6]; clear hw6)
          | ((with_reducible refine wpListIn_ldCd (b := w5.heap.size) (off := 0) rfl (.tmp 5) rfl rfl L6.out ?_)))
        refine ⟨rfl, hR.mono ?_⟩
        rintro e w7 (⟨rfl, hJ7, hb7⟩ | ⟨rfl, hX7⟩)
        · have HJ7 := Lib.hid hJ7
          have HB7 := Lib.hid (show WStays U W w7 from ⟨Nat.le_trans HB.out.1 (Nat.le_trans HB6.out.size hb7.1), fun k hk => (hb7.2 k hk).trans ((HB6.out.block k (Nat.lt_of_lt_of_le (hU k hk) HB.out.1)).trans (HB.out.2 k hk))⟩)
          clear hJ7 hb7 hy hR hcb
          gi_wp2
          go_roundw
          case rel =>
            refine ⟨j + 1, a + u, pre ++ [⟨x, A1, n1, c1, nx, 0⟩], hjd, by go_num, by rw [HN2.out], Lib.hid (by simp [hpl.out]), Lib.hid ?_, HJ7, HB7⟩
            have h := hpx.out.step (by rw [hpl.out]; exact hjd) ⟨x, A1, n1, c1, nx, 0⟩ (by rw [← HX.out]) (by rw [← HX.out]) rfl (by rw [← HX.out]; simp only; rw [HN2.out]; omega)
            rw [← HX.out] at h
            exact h
          case measure => simp [intOf]; omega
        · have HX7 := Lib.hid hX7
          clear hX7 hy hR hcb
          gi_wp2
          refine bodyPost_ret (results_none rfl _ _ _) rfl ?_
          exact ⟨⟨_, rfl⟩, .inr ⟨_, trivial, HX7.out⟩⟩
      · have hne : (er != 0) = true := bne_iff_ne.2 he
        have HE := Lib.hid he
        clear he
        gi_wp2_with (first
          | (refine ⟨trivial, rfl, ?_⟩; gi_at_call 42; refine (callsIn_wide.2 CG2.out).mono ?_; rintro e w5 ⟨A1, n1, c1, rfl, hr1, hc1, hb5, hlo1⟩
             obtain ⟨w6, hw6⟩ : ∃ w6, w6 = w5.alloc (.cells (x.cs A1 n1 c1) 47) := ⟨_, rfl⟩
             have L6 := Lib.hid (show CdL w6 w5.heap.size 0 x A1 n1 c1 by rw [hw6]; exact CdL.new w5 x A1 n1 c1)
             have hb6 : Below w5.heap.size w5 w6 := by rw [hw6]; exact (Below.refl _ _).alloc (Nat.le_refl _) _
             have HB6 := Lib.hid (hb5.trans (hb6.mono hb5.size))
             have PX := Lib.hid (show GtAt inp d (pre, ⟨x, A1, n1, c1, nx, er⟩) wr.heap.size w6 from ⟨a, hpx.out, by rw [hpl.out]; exact hjd, by rw [← HX.out], by rw [← HX.out], by rw [← HX.out]; exact HNX.out, hr1.below (Nat.le_refl _) hb6, hc1, hlo1⟩)
             obtain ⟨fn, tmps, assign, body, hy, hR⟩ := HY.out pre ⟨x, A1, n1, c1, nx, er⟩ wr w6 hJ.out HB6.out PX.out
             dsimp only [Gt.enc, Gt.cs] at hy hR
             clear hr1 hc1 hb5 hlo1 hb6)
          | (rw [← hw6]; clear hw6)
          | ((with_reducible refine wpListIn_ldCd (b := w5.heap.size) (off := 0) rfl (.tmp 5) rfl rfl L6.out ?_)))
        refine ⟨rfl, hR.mono ?_⟩
        rintro e w7 (⟨rfl, hJ7, hb7⟩ | ⟨rfl, hX7⟩)
        · have HJ7 := Lib.hid hJ7
          clear hJ7 hb7 hy hR hcb
          gi_wp2
          refine bodyPost_ret (results_none rfl _ _ _) rfl ?_
          exact ⟨⟨_, rfl⟩, .inl ⟨_, .inr ⟨⟨x, A1, n1, c1, nx, er⟩, by simp, HE.out⟩, HJ7.out⟩⟩
        · have HX7 := Lib.hid hX7
          clear hX7 hy hR hcb
          gi_wp2
          refine bodyPost_ret (results_none rfl _ _ _) rfl ?_
          exact ⟨⟨_, rfl⟩, .inr ⟨_, trivial, HX7.out⟩⟩
    · have hjn' : j = d := by omega
      have HJN := Lib.hid hjn'
      clear hjn'
      gi_wp2
      go_end0
      exact ⟨⟨_, rfl⟩, .inl ⟨pre, .inl ⟨a, hpx.out, by rw [hpl.out]; exact HJN.out⟩, hJ.out⟩⟩
end Go.Proofs.Ytlinafnhhnkjnaa
