/- The contracts of Crash and Sync. -/
import Derived.Test.YtieknelmfjkbhaaDk6
namespace Go.Proofs.Ytieknelmfjkbhaa
open Go.RowKit Go.Maps

def St.settled (s : St) (ft : Nat → Int × Int) : Nat → St
  | 0 => s
  | n + 1 => (s.settled ft n).settle (s.dirty.getD n 0) (ft n).1 (ft n).2
def St.crash (s : St) (ft : Nat → Int × Int) : St := { s.settled ft s.dirty.length with wait := fun _ => [], off := false, fuse := -1 }

theorem settled_k (s : St) (ft : Nat → Int × Int) (n : Nat) : (s.settled ft n).k = s.k := by
  induction n with
  | zero => rfl
  | succ n ih => exact ih
theorem settled_wait (s : St) (ft : Nat → Int × Int) (n : Nat) : (s.settled ft n).wait = s.wait := by
  induction n with
  | zero => rfl
  | succ n ih => exact ih

/-- A slice of fates. -/
def FRd (w : World) (A : Option Addr) (n : Nat) (fs : List (Int × Int)) : Prop :=
  fs.length = n ∧ (0 < n → ∃ b o, A = some ⟨b, o, none⟩ ∧ b < w.heap.size ∧ ∀ j (h : j < fs.length), w.cell? ⟨b, o + j * 2, none⟩ = some (.int .i64 fs[j].1) ∧ w.cell? ⟨b, o + j * 2 + 1, none⟩ = some (.int .i64 fs[j].2))
theorem FRd.fr {w w' : World} {own : Nat → Prop} {A : Option Addr} {n : Nat} {fs : List (Int × Int)} (h : FRd w A n fs) (hf : Fr own w w') (hn : ∀ b o, A = some ⟨b, o, none⟩ → 0 < n → ¬ own b) : FRd w' A n fs :=
  ⟨h.1, fun hp => by
    obtain ⟨b, o, e, hlt, hc⟩ := h.2 hp
    refine ⟨b, o, e, Nat.lt_of_lt_of_le hlt hf.size, fun j hj => ⟨?_, ?_⟩⟩
    · exact (World.cell?_of_block (w := w) (a := ⟨b, o + j * 2, none⟩) (hf.block b hlt (hn b o e hp))).trans (hc j hj).1
    · exact (World.cell?_of_block (w := w) (a := ⟨b, o + j * 2 + 1, none⟩) (hf.block b hlt (hn b o e hp))).trans (hc j hj).2⟩

theorem wpList_wipe {P : Program} {k e T : TypeId} {w : World} {m n : Nat} {f : Nat → Value} {ks : Nat → Bool} {ops : Array Oper} {rest : List Oper} {o : Oper} {a : Act} {Q : Exit → Act → World → Prop} (hgd : o.guard = none) (x : Operand)
    (ho : o.op = .call { callee := .builtin .clear, args := #[x], argTypes := #[T] }) (hT : P.underlying T = some (.map k e)) (hmap : MapIs P k w m n f ks) (hx : a.eval x = .map (some m))
    (hK : ∀ w', MapIs P k w' m 0 (fun _ => nilv) (fun _ => false) → w.grownBy w' (some m) → wpList P ops Q rest (a.put o.dst (.tuple #[])) w') : wpList P ops Q (o :: rest) a w := by
  refine wpList_plain hgd fun K hK' => ?_
  obtain ⟨w', hrun, h1, h2⟩ := hmap.wipe hT o.type
  unfold Oper.wp
  simp [execOp, ho, resolve, invoke, builtin, hx, hrun, Result.andThen]
  exact hK' _ _ (hK w' h1 h2)

section
variable {w w' : World} {own : Nat → Prop} {N p m : Nat} {sv : Value} {f : Nat → Value} {s : St}

theorem DAt.m_ne_p (h : DAt w own N p m sv f s) : ¬ p = m := fun e => by
  obtain ⟨D, ⟨es, clock, hm, _⟩, _⟩ := h.map
  rw [← e, h.blk] at hm
  cases hm
theorem DAt.wiped (h : DAt w own N p m sv f s) (hg : w.grownBy w' (some m)) (hm : MapIs Try.prog 3 w' m 0 (fun _ => nilv) (fun _ => false)) : DAt w' own N p m sv (fun _ => nilv) { s with wait := fun _ => [] } where
  blk := (hg.block p h.lt (fun e => h.m_ne_p (by injection e))).trans h.blk
  safe := own_fr h.safe (Fr.grown hg (own := (· = m)) (fun x e => by injection e with e; exact e.symm)) (fun x hx e => by
    obtain ⟨C, hC⟩ := own_tag h.safe hx
    obtain ⟨D, ⟨es, clock, hm, _⟩, _⟩ := h.map
    have e' : x = m := e
    rw [e', hm] at hC
    cases hC)
  map := (hm.mono (Nat.zero_le N)).congr (fun _ => rfl) (fun _ => rfl)
  rows := fun _ => wr_nil _ _ _
  apart := fun _ _ _ _ h => by cases h
  inside := fun _ h => absurd rfl h
  few := fun _ => Nat.zero_le _
  ownp := h.ownp
  ownm := h.ownm
  owns := h.owns
  kle := h.kle
  nle := h.nle
  fz := h.fz
  rz := h.rz
  wz := h.wz

theorem settled_step (dom : ∀ x, own x → x < w.heap.size) (ft : Nat → Int × Int) (n : Nat) (h : DAt w own N p m sv f (s.settled ft n)) (hn : n < s.dirty.length) :
    Calls Try.prog 39 #[.pointer (some ⟨p, 0, none⟩), .int .i64 (s.dirty.getD n 0 : Nat), .agg #[.int .i64 (ft n).1, .int .i64 (ft n).2]] w fun e w' => e = .returned (.tuple #[]) ∧ Fr own w w' ∧ DAt w' own N p m sv f (s.settled ft (n + 1)) := by
  have hlt : s.dirty.getD n 0 < s.k := dirty_lt s _ (by rw [List.getD, List.getElem?_eq_getElem hn]; exact List.getElem_mem hn)
  exact settle_any dom h (s.dirty.getD n 0) (by rw [settled_k]; exact hlt) (ft n).1 (ft n).2

set_option maxRecDepth 20000 in
theorem Crash_any (dom : ∀ x, own x → x < w.heap.size) (h : DAt w own N p m sv f s) (A : Option Addr) (nf c : Nat) (fs : List (Int × Int)) (hF : FRd w A nf fs) (hA : ∀ b o, A = some ⟨b, o, none⟩ → 0 < nf → ¬ own b) (hnf : nf ≤ 1000000) :
    Calls Try.prog 22 #[.pointer (some ⟨p, 0, none⟩), .slice A nf c] w fun e w' => e = .returned (.tuple #[]) ∧ Fr own w w' ∧ DAt w' own N p m sv (fun _ => nilv) (s.crash fun n => fs.getD n (0, 0)) := by
  obtain ⟨ft, hft⟩ : ∃ ft : Nat → Int × Int, ft = fun n => fs.getD n (0, 0) := ⟨_, rfl⟩
  rw [← hft]
  have cD := Dirty_any h
  have CD := Lib.hid cD
  have DOM := Lib.hid dom
  have HA := Lib.hid hA
  have hk := h.kle
  have hdl : s.dirty.length ≤ 4096 := by
    have h1 := List.length_filter_le (fun i => !(s.wait i).isEmpty) (List.range s.k)
    rw [List.length_range] at h1
    have h2 : s.dirty.length ≤ s.k := h1
    omega
  have HFT := Lib.hid hft
  have H := Lib.hid h
  have HF := Lib.hid hF
  clear cD dom hA hft h hF
  go_enter Try.func22, Try.ntmps22
  go_wp2_with (go_at_call 17; refine CD.out.mono ?_; rintro e w1 ⟨g, gc, rfl, ho1, hB1⟩)
  obtain ⟨L, hL⟩ : ∃ L, L = s.dirty.length := ⟨_, rfl⟩
  have hgB := own_block (e := 3) ho1 rfl
  have hcell1 : ∀ j, j < L → w1.cell? ⟨g, j, none⟩ = some (.int .i64 (s.dirty.getD j 0 : Nat)) := fun j hj => by
    have := ho1.cells (g := g) rfl j (.int .i64 (s.dirty.getD j 0 : Nat)) (by
      rw [hL] at hj
      simp [St.dirtyI, List.getD, List.getElem?_eq_getElem hj])
    rw [Addr.add_lit] at this
    simpa using this
  have hgl : g < w1.heap.size := by
    obtain ⟨C, hC⟩ := own_tag ho1 (x := g) rfl
    exact (Array.getElem?_eq_some_iff.1 hC).1
  have D1 := H.out.below hB1
  have HB1 := Lib.hid hB1
  have HC1 := Lib.hid hcell1
  have HO := Lib.hid ho1
  rw [← hL] at hdl ⊢
  have HL := Lib.hid hL
  clear hcell1 ho1 hL CD
  go_loopw [12] (fun i wr => ∃ n : Nat, n ≤ L ∧ i = .int .i64 n ∧ Fr own w1 wr ∧ DAt wr own N p m sv f (s.settled ft n)) (fun i _ => L - (intOf i).toNat)
  case atStart => exact ⟨0, Nat.zero_le _, rfl, Fr.refl _ _, D1⟩
  case round =>
    obtain ⟨n, hn, rfl, hFr, hD⟩ := hrel
    by_cases hlt : n < L
    · have hcd : wr.cell? ⟨g, n, none⟩ = some (.int .i64 (s.dirty.getD n 0 : Nat)) := (World.cell?_of_block (w := w1) (a := ⟨g, n, none⟩) (hFr.block g hgl (fun hx => by have := DOM.out g hx; omega))).trans (HC1.out n hlt)
      obtain ⟨q, hq⟩ : ∃ q : Nat, q = s.dirty.getD n 0 := ⟨_, rfl⟩
      rw [← hq] at hcd
      have HQ := Lib.hid hq
      clear hq
      have hw0 : Fr own w wr := (Fr.ofBelow own HB1.out).trans hFr
      by_cases hnf' : n < nf
      · have hf1 := HF.out.fr hw0 HA.out
        obtain ⟨fb, fo, hA, hfl, hfc⟩ := hf1.2 (by omega)
        have hfl1 : fs.length = nf := hf1.1
        obtain ⟨hk0, hk1⟩ := hfc n (by omega)
        have e0 : fs[n]'(by omega) = ft n := by rw [HFT.out]; simp [List.getD, List.getElem?_eq_getElem (show n < fs.length by omega)]
        rw [e0] at hk0 hk1
        clear hfc e0 hf1
        subst hA
        obtain ⟨w2, hw2⟩ : ∃ w2, w2 = wr.alloc (.cells #[.int .i64 (ft n).1, .int .i64 (ft n).2] 63) := ⟨_, rfl⟩
        have q0 : w2.cell? ⟨wr.heap.size, 0, none⟩ = some (.int .i64 (ft n).1) := by rw [hw2]; simp
        have q1 : w2.cell? ⟨wr.heap.size, 1, none⟩ = some (.int .i64 (ft n).2) := by rw [hw2]; simp
        have hB2 : Below wr.heap.size wr w2 := by rw [hw2]; exact (Below.refl _ _).alloc (Nat.le_refl _) _
        have hlt2 : ∀ x, own x → x < w2.heap.size := fun x hx => by have := DOM.out x hx; have := hB2.size; have := hw0.size; omega
        have D2 := hD.below hB2
        have cS := settled_step hlt2 ft n D2 (by rw [← HL.out]; exact hlt)
        rw [← HQ.out] at cS
        have CS := Lib.hid cS
        have HB2 := Lib.hid hB2
        have HFR := Lib.hid hFr
        have HW0 := Lib.hid hw0
        clear cS hlt2 D2 hD hB2 hFr hw0
        go_wp2_with (first
          | (rw [← hw2]; clear hw2)
          | (go_at_call 39; refine CS.out.mono ?_; rintro e w3 ⟨rfl, hF3, hD3⟩))
        go_roundw
        case rel => exact ⟨n + 1, hlt, by go_num, (HFR.out.trans (Fr.ofBelow own HB2.out)).trans hF3, hD3⟩
        case measure => simp [intOf]; omega
      · have e0 : ft n = (0, 0) := by rw [HFT.out]; simp [List.getD, List.getElem?_eq_none (show fs.length ≤ n by have := HF.out.1; omega)]
        obtain ⟨w2, hw2⟩ : ∃ w2, w2 = wr.alloc (.cells #[.int .i64 0, .int .i64 0] 63) := ⟨_, rfl⟩
        have q0 : w2.cell? ⟨wr.heap.size, 0, none⟩ = some (.int .i64 0) := by rw [hw2]; simp
        have q1 : w2.cell? ⟨wr.heap.size, 1, none⟩ = some (.int .i64 0) := by rw [hw2]; simp
        have hB2 : Below wr.heap.size wr w2 := by rw [hw2]; exact (Below.refl _ _).alloc (Nat.le_refl _) _
        have hlt2 : ∀ x, own x → x < w2.heap.size := fun x hx => by have := DOM.out x hx; have := hB2.size; have := hw0.size; omega
        have D2 := hD.below hB2
        have cS := settled_step hlt2 ft n D2 (by rw [← HL.out]; exact hlt)
        rw [← HQ.out, e0] at cS
        have CS := Lib.hid cS
        have HB2 := Lib.hid hB2
        have HFR := Lib.hid hFr
        have hge : ¬ (n : Int) < (nf : Int) := by omega
        clear cS hlt2 D2 hD hB2 hFr hw0 e0
        go_wp2_with (first
          | (rw [← hw2]; clear hw2)
          | (go_at_call 39; refine CS.out.mono ?_; rintro e w3 ⟨rfl, hF3, hD3⟩))
        go_roundw
        case rel => exact ⟨n + 1, hlt, by go_num, (HFR.out.trans (Fr.ofBelow own HB2.out)).trans hF3, hD3⟩
        case measure => simp [intOf]; omega
    · have hnL : n = L := by omega
      subst hnL
      have c1 := hD.c1
      have HFR := Lib.hid hFr
      have HD := Lib.hid hD
      clear hD hFr
      go_wp2_with (with_reducible refine wpList_wipe rfl (.tmp 33) rfl Try.underlying72 HD.out.map rfl ?_; intro w3 hm3 hg3; have D3 := HD.out.wiped hg3 hm3; have c2 := D3.c2; have c3 := D3.c3; have f2 := D3.fr0 2; have f3 := D3.fr0 3; have B3 := D3.blk)
      go_end0
      have hF3 : Fr own w w3 := ((Fr.ofBelow own HB1.out).trans HFR.out).trans (Fr.grown hg3 (fun x hx => by injection hx with hx; rw [← hx]; exact D3.ownm))
      have hF5 : Fr (· = p) w3 ((w3.setCell ⟨p, 3, none⟩ (.bool false)).setCell ⟨p, 2, none⟩ (.int .i64 (-1))) := (fr_p _ _ _ _).trans (fr_p _ _ _ _)
      have D5 := D3.field (N' := N) (-1) (s.settled ft n).rd (s.settled ft n).wr false (w' := (w3.setCell ⟨p, 3, none⟩ (.bool false)).setCell ⟨p, 2, none⟩ (.int .i64 (-1))) (heap_setCell_at (heap_setCell_at B3 _) _) hF5 (Nat.le_refl _) D3.nle (by decide) D3.rz D3.wz
      refine ⟨rfl, hF3.trans (hF5.mono (fun x hx => by rw [show x = p from hx]; exact D3.ownp)), ?_⟩
      unfold St.crash
      rw [← HL.out]
      exact D5

/-! ### Sync -/
theorem Fr.toGrown {b : Nat} (h : Fr (· = b) w w') : w.grownBy w' (some b) := ⟨h.os, h.tape, h.output, h.size, fun i hi hne => h.block i hi (fun e => hne (by rw [show i = b from e]))⟩

/-- t is s but for some sectors that hold what was written last: those of which done tells so. -/
structure Part (s t : St) (done : Nat → Bool) : Prop where
  k : t.k = s.k
  wait : t.wait = s.wait
  fuse : t.fuse = s.fuse
  off : t.off = s.off
  rd : t.rd = s.rd
  wr : t.wr = s.wr
  len : t.safe.length = 512 * s.k
  sec : ∀ i, i < s.k → t.sec i = if done i then s.last i else s.sec i

theorem Part.step {s t : St} {done : Nat → Bool} (h : Part s t done) (i : Nat) (hi : i < s.k) (hw : s.wait i ≠ []) (h512 : (s.last i).length = 512) {done' : Nat → Bool} (hd : ∀ j, done' j = (done j || decide (j = i))) : Part s (t.setSec i (t.last i)) done' := by
  have hl : t.last i = s.last i := by
    unfold St.last
    rw [h.wait]
    cases hh : s.wait i with
    | nil => exact absurd hh hw
    | cons a r => rw [List.getLastD_cons, List.getLastD_cons]
  have hlen : t.safe.length = 512 * t.k := by rw [h.len, h.k]
  refine ⟨h.k, h.wait, h.fuse, h.off, h.rd, h.wr, ?_, fun j hj => ?_⟩
  · rw [setSec_length t i _ hlen (by rw [h.k]; exact hi) (by rw [hl]; exact h512), h.k]
  · rw [hd j]
    by_cases e : j = i
    · subst e
      rw [sec_setSec_same t j _ hlen (by rw [h.k]; exact hi) (by rw [hl]; exact h512), hl]
      simp
    · rw [sec_setSec_other t i j _ hlen (by rw [h.k]; exact hi) (by rw [hl]; exact h512) e, h.sec j hj]
      simp [e]

/-- Lists that are the same sector by sector. -/
theorem safe_ext {l l' : List UInt8} {k : Nat} (h : l.length = 512 * k) (h' : l'.length = 512 * k) (he : ∀ i, i < k → (l.drop (512 * i)).take 512 = (l'.drop (512 * i)).take 512) : l = l' := by
  apply List.ext_getElem (by omega)
  intro j h1 h2
  have hj : j / 512 < k := by omega
  have e := congrArg (fun x => x[j - 512 * (j / 512)]?) (he (j / 512) hj)
  simp only [List.getElem?_take_of_lt (show j - 512 * (j / 512) < 512 by omega), List.getElem?_drop] at e
  rw [show 512 * (j / 512) + (j - 512 * (j / 512)) = j by omega, List.getElem?_eq_getElem h1, List.getElem?_eq_getElem h2] at e
  injection e

def secsOf (k : Nat) (g : Nat → List UInt8) : List UInt8 := (List.range k).flatMap g
theorem secsOf_length (k : Nat) (g : Nat → List UInt8) (h : ∀ i, i < k → (g i).length = 512) : (secsOf k g).length = 512 * k := by
  induction k with
  | zero => rfl
  | succ k ih =>
    unfold secsOf at *
    rw [List.range_succ, List.flatMap_append, List.length_append, ih (fun i hi => h i (by omega))]
    simp [h k (by omega)]
    omega
theorem secsOf_sec (k : Nat) (g : Nat → List UInt8) (h : ∀ i, i < k → (g i).length = 512) (i : Nat) (hi : i < k) : ((secsOf k g).drop (512 * i)).take 512 = g i := by
  induction k with
  | zero => omega
  | succ k ih =>
    have hk := secsOf_length k g (fun i hi => h i (by omega))
    have e : secsOf (k + 1) g = secsOf k g ++ g k := by unfold secsOf; rw [List.range_succ, List.flatMap_append]; simp
    rw [e]
    by_cases hik : i < k
    · rw [List.drop_append_of_le_length (by omega), List.take_append_of_le_length (by simp; omega)]
      exact ih (fun i hi => h i (by omega)) hik
    · have : i = k := by omega
      subst this
      rw [← hk, List.drop_left, List.take_of_length_le (by rw [h i hi]; omega)]
def St.sync (s : St) : St := { s with safe := secsOf s.k s.last, wait := fun _ => [] }

theorem last_len (h : DAt w own N p m sv f s) (i : Nat) (hi : i < s.k) : (s.last i).length = 512 := by
  unfold St.last
  by_cases h0 : s.wait i = []
  · rw [h0]; exact sec_length s i h.slen hi
  · have hp : 0 < (s.wait i).length := List.length_pos_iff.2 h0
    have := (h.rows i).len512 ((s.wait i).length - 1) (by omega)
    rw [List.getLastD_eq_getLast?, List.getLast?_eq_getElem?]
    rw [List.getD, List.getElem?_eq_getElem (by omega)] at this
    rw [List.getElem?_eq_getElem (by omega)]
    exact this

set_option maxRecDepth 20000 in
theorem Sync_off (h : DAt w own N p m sv f s) (hok : s.ok = false) :
    Calls Try.prog 24 #[.pointer (some ⟨p, 0, none⟩)] w fun e w' => e = .returned (.int .i64 3) ∧ Fr own w w' ∧ DAt w' own N p m sv f s.burn := by
  have cP := powered_any h
  rw [hok] at cP
  have CP := Lib.hid cP
  have hp := h.ownp
  clear h hok cP
  go_enter Try.func24, Try.ntmps24
  go_wp2_with (go_at_call 40; refine CP.out.mono ?_; rintro e w' ⟨rfl, hf, hD⟩)
  go_ret
  exact ⟨rfl, hf.mono (fun x hx => by rw [show x = p from hx]; exact hp), hD⟩

set_option maxRecDepth 20000 in
set_option maxHeartbeats 1000000 in
theorem Sync_ok (dom : ∀ x, own x → x < w.heap.size) (h : DAt w own N p m sv f s) (hok : s.ok = true) :
    Calls Try.prog 24 #[.pointer (some ⟨p, 0, none⟩)] w fun e w' => e = .returned (.int .i64 0) ∧ Fr own w w' ∧ DAt w' own N p m sv (fun _ => nilv) s.burn.sync := by
  have cP := powered_any h
  rw [hok] at cP
  have CP := Lib.hid cP
  have hp := h.ownp
  have DOM := Lib.hid dom
  have law : Keyed Try.prog 3 := int_keyed Try.underlying3
  obtain ⟨s1, hs1⟩ : ∃ s1, s1 = s.burn := ⟨_, rfl⟩
  rw [← hs1] at CP ⊢
  clear h hok cP dom hs1
  go_enter Try.func24, Try.ntmps24
  go_wp2_with fail
  refine CP.out.mono ?_
  rintro e w1 ⟨rfl, hF1, D1⟩
  have c1 := D1.c1
  obtain ⟨D, hown, _, hhas, hkeys⟩ := D1.map
  have HHAS := Lib.hid hhas
  have HKEYS := Lib.hid hkeys
  have HF1 := Lib.hid hF1
  have HD1 := Lib.hid D1
  have hk := D1.kle
  clear hhas hkeys hF1 D1 CP
  go_wp2_with (at_range; refine wpList_range_own _ rfl _ 72 rfl 3 27 law Try.underlying72 itself m N D rfl hown ?_; intro w2 hrg2 hg2 hs2)
  try go_frame
  go_loopw [3] (fun _ wr => ∃ (left : Lit → Bool) (cnt : Nat) (t : St), wr.ranges Try.prog 3 itself m w1.heap.size N D left cnt ∧ DAt wr own N p m sv f t ∧ Part s1 t (fun i => Maps.has D (.int .i64 i) && !left (.int .i64 i)) ∧ Fr own w1 wr)
    (fun _ wr => wr.rangeLeft m w1.heap.size)
  case atStart =>
    refine ⟨_, _, s1, hrg2, HD1.out.kept (Fr.grown hg2 (own := fun _ => False) (fun x e => by cases e)) (fun _ _ hx => hx), ⟨rfl, rfl, rfl, rfl, rfl, rfl, HD1.out.slen, fun i hi => by simp⟩, Fr.grown hg2 (fun x e => by cases e)⟩
  case round =>
    obtain ⟨left, cnt, t, hrg, hD, hPart, hFr⟩ := hrel
    have hc1 := hD.c1
    have HFR := Lib.hid hFr
    have HPART := Lib.hid hPart
    have HD := Lib.hid hD
    have HG2 := Lib.hid hg2
    have HS2 := Lib.hid hs2
    clear hFr hPart hD hg2 hs2
    go_wp2_with (at_next; refine wpList_next_ranges _ rfl _ rfl 3 law itself (Value.int .i64) (fun v : Value => v) (fun key kl hk => by obtain ⟨x, hx, _⟩ := Maps.keyOf_i64 Try.underlying3 hk; exact ⟨x, hx⟩) (fun v y hv => ⟨v, rfl⟩) m w1.heap.size N _ _ _ rfl hrg ?_ ?_)
    · intro hc0 hl0
      have hP := HPART.out
      have hsafe : t.safe = secsOf s1.k s1.last := by
        refine safe_ext hP.len (secsOf_length _ _ (fun i hi => last_len HD1.out i hi)) (fun i hi => ?_)
        rw [secsOf_sec _ _ (fun i hi => last_len HD1.out i hi) i hi]
        have := hP.sec i hi
        rw [hl0, HHAS.out i] at this
        refine this.trans ?_
        unfold St.last
        cases hw : s1.wait i with
        | nil => simp
        | cons a r => simp
      have hst : { t with wait := fun _ => [] } = s1.sync := by
        obtain ⟨k, safe, wait, fuse, off, rd, wr⟩ := t
        obtain ⟨e1, e2, e3, e4, e5, e6, _, _⟩ := hP
        simp only at e1 e2 e3 e4 e5 e6 hsafe
        subst e1 e2 e3 e4 e5 e6 hsafe
        rfl
      have HST := Lib.hid hst
      clear hP hsafe hst hl0
      go_wp2_with (with_reducible refine wpList_wipe rfl (.tmp 28) rfl Try.underlying72 HD.out.map rfl ?_; intro w3 hm3 hg3)
      go_ret
      have D3 := HD.out.wiped hg3 hm3
      rw [HST.out] at D3
      exact ⟨rfl, ((HF1.out.mono (fun x hx => by rw [show x = p from hx]; exact hp)).trans HFR.out).trans (Fr.grown hg3 (fun x hx => by injection hx with hx; rw [← hx]; exact D3.ownm)), D3⟩
    · intro x c kl yd yp w3 cnt3 hkey hlk hv hat hrg3 hlt hg3 hs3 hen
      obtain ⟨x', ex, rfl, _⟩ := Maps.keyOf_i64 Try.underlying3 hkey
      obtain rfl : x = x' := encZ_inj ex
      have hhx : Maps.has D (.int .i64 x) = true := Maps.has_true_of_atKey hat
      obtain ⟨i, hi⟩ := HKEYS.out _ hhx
      injection hi with _ hi
      subst hi
      have hwi : s1.wait i ≠ [] := by
        rw [HHAS.out i] at hhx
        intro e
        rw [e] at hhx
        cases hhx
      have hik : i < s1.k := HD1.out.inside i hwi
      have hik' : i < t.k := by rw [HPART.out.k]; exact hik
      have hself : (Lit.int .i64 (i : Int)).sameKey (.int .i64 i) = true := by simp [Lit.sameKey]
      have D3 := HD.out.kept (Fr.grown hg3 (own := fun x => x = w1.heap.size) (fun x e => by injection e with e; exact e.symm)) (fun x hx e => by have := DOM.out x hx; have := HF1.out.size; omega)
      have cS := sector_any D3 i hik'
      have cL := dlast_any D3 i hik'
      have CS := Lib.hid cS
      have CL := Lib.hid cL
      have DD3 := Lib.hid D3
      have HG3 := Lib.hid hg3
      have HHX := Lib.hid hhx
      have HWI := Lib.hid hwi
      have HSELF := Lib.hid hself
      clear cS cL D3 hg3 hs3 hhx hwi hself ex
      go_wp2_with (first
        | (go_at_call 41; refine CS.out.mono ?_; rintro e w' ⟨b, bc, hb, rfl, hbc, hrS, rfl⟩)
        | (go_at_call 42; refine CL.out.mono ?_; rintro e w' ⟨b', o', bc', rfl, hbc', hob', hrL, hne, rfl⟩)
        | (with_reducible refine wpList_dcpy rfl (.tmp 20) (.tmp 23) rfl DD3.out i hik' b bc hb rfl _ bc' _ rfl hrL ?_; intro w4 D4 F4))
      have hbm : some m ≠ some b := fun e => by
        injection e with e
        obtain ⟨C, hC⟩ := own_tag DD3.out.safe hb
        obtain ⟨_, ⟨es, clock, hm, _⟩, _⟩ := DD3.out.map
        rw [← e, hm] at hC
        cases hC
      have hbr : some w1.heap.size ≠ some b := fun e => by
        injection e with e
        have := DOM.out b (DD3.out.owns b hb)
        have := HF1.out.size
        omega
      have hrg4 := hrg3.kept F4.toGrown hbm hbr
      go_roundw
      case rel =>
        have hnew : ∃ (left : Lit → Bool) (cnt : Nat) (t : St), w4.ranges Try.prog 3 itself m w1.heap.size N D left cnt ∧ DAt w4 own N p m sv f t ∧ Part s1 t (fun i => Maps.has D (.int .i64 i) && !left (.int .i64 i)) ∧ Fr own w1 w4 := by
          refine ⟨_, cnt3, _, hrg4, D4, HPART.out.step i hik HWI.out (last_len HD1.out i hik) (fun j => ?_), (HFR.out.trans' (Fr.grown HG3.out (own := fun x => x = w1.heap.size) (fun x e => by injection e with e; exact e.symm)) (fun x hx => .inr (by rw [hx]; exact Nat.le_refl _))).trans (F4.mono (fun x hx => by rw [show x = b from hx]; exact DD3.out.owns b hb))⟩
          by_cases e : j = i
          · subst e
            rw [HHX.out, HSELF.out]
            simp
          · have : (Lit.int .i64 (j : Int)).sameKey (.int .i64 i) = false := by simp [Lit.sameKey]; omega
            rw [this]
            simp [e]
        first
          | exact hnew
          | ((repeat apply Exists.intro); exact ⟨hnew, rfl⟩)
      case measure => rw [hrg4.left_eq, hrg.left_eq]; exact hlt
end
end Go.Proofs.Ytieknelmfjkbhaa
