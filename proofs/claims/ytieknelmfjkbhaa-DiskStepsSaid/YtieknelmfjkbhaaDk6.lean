/- A copy into a sector of a device; the contract of settle. -/
import Derived.Test.YtieknelmfjkbhaaDk5
import Derived.Test.YtieknelmfjkbhaaSealTear
namespace Go.Proofs.Ytieknelmfjkbhaa
open Go.RowKit Go.Maps

def St.setSec (s : St) (i : Nat) (L : List UInt8) : St := { s with safe := putL s.safe (512 * i) L }

theorem take_over {α : Type} (C cs : List α) (off n : Nat) (h : off + cs.length ≤ n) (hn : n ≤ C.length) : (C.take off ++ (cs ++ C.drop (off + cs.length))).take n = (C.take n).take off ++ (cs ++ (C.take n).drop (off + cs.length)) := by
  simp only [List.take_append, List.length_take, List.take_take, List.drop_take]
  rw [show min off C.length = off from by omega, show min n off = off from by omega, show min off n = off from by omega, List.take_of_length_le (l := cs) (by omega), show n - off - cs.length = n - (off + cs.length) from by omega]

theorem setSec_length (s : St) (i : Nat) (L : List UInt8) (hs : s.safe.length = 512 * s.k) (hi : i < s.k) (hL : L.length = 512) : (s.setSec i L).safe.length = 512 * s.k := by
  show (putL s.safe (512 * i) L).length = _
  rw [putL_length (by omega), hs]
theorem putL_self (l : List UInt8) (p n : Nat) (h : p + n ≤ l.length) : putL l p ((l.drop p).take n) = l := by
  have e : ((l.drop p).take n).length = n := by simp; omega
  unfold putL
  rw [e, ← List.drop_drop, List.take_append_drop, List.take_append_drop]
theorem setSec_same (s : St) (i : Nat) (hs : s.safe.length = 512 * s.k) (hi : i < s.k) : s.setSec i (s.sec i) = s := by
  show { s with safe := putL s.safe (512 * i) ((s.safe.drop (512 * i)).take 512) } = s
  rw [putL_self _ _ _ (by omega)]
theorem putL_drop_take (l b : List UInt8) (p : Nat) (h : p + b.length ≤ l.length) : ((putL l p b).drop p).take b.length = b := by
  unfold putL
  rw [List.drop_append_of_le_length (by simp; omega), List.drop_take]
  simp
theorem sec_setSec_same (s : St) (i : Nat) (L : List UInt8) (hs : s.safe.length = 512 * s.k) (hi : i < s.k) (hL : L.length = 512) : (s.setSec i L).sec i = L := by
  have := putL_drop_take s.safe L (512 * i) (by omega)
  rw [hL] at this
  exact this
theorem sec_setSec_other (s : St) (i j : Nat) (L : List UInt8) (hs : s.safe.length = 512 * s.k) (hi : i < s.k) (hL : L.length = 512) (hj : j ≠ i) : (s.setSec i L).sec j = s.sec j := by
  show ((putL s.safe (512 * i) L).drop (512 * j)).take 512 = (s.safe.drop (512 * j)).take 512
  apply List.ext_getElem?
  intro q
  by_cases hq : q < 512
  · rw [List.getElem?_take_of_lt hq, List.getElem?_take_of_lt hq, List.getElem?_drop, List.getElem?_drop]
    unfold putL
    by_cases hlt : j < i
    · rw [List.getElem?_append_left (by simp; omega), List.getElem?_take_of_lt (by omega)]
    · rw [List.getElem?_append_right (by simp; omega), List.getElem?_append_right (by simp; omega), List.getElem?_drop]
      congr 1
      simp
      omega
  · rw [List.getElem?_take_eq_none (by omega), List.getElem?_take_eq_none (by omega)]
theorem sec_length (s : St) (i : Nat) (hs : s.safe.length = 512 * s.k) (hi : i < s.k) : (s.sec i).length = 512 := by simp [St.sec]; omega

section
variable {w w' : World} {own : Nat → Prop} {N p m : Nat} {sv : Value} {f : Nat → Value} {s : St}

/-- 'copy(sector i, x)', x of 512 bytes. -/
theorem DAt.cpy (h : DAt w own N p m sv f s) (i : Nat) (hi : i < s.k) (b c : Nat) (hb : sv.ownBlock = some b) (A : Option Addr) (c' : Nat) (L : List UInt8) (hr : Rd w A 512 L) (ty : TypeId) :
    ∃ w', (Builtin.copy_ #[32, 32] ty #[.slice (some ⟨b, 512 * i, none⟩) 512 c, .slice A 512 c']).run Try.prog w = .ok (goInt 512) w' ∧ DAt w' own N p m sv f (s.setSec i L) ∧ Fr (· = b) w w' := by
  rcases h.safe.2 with ⟨h1, _⟩ | ⟨g, cap, cur, hv, _, hh, hn, hcm, hcs, ht⟩
  · rw [h1] at hb; cases hb
  rw [hv] at hb
  simp [Value.ownBlock] at hb
  subst hb
  obtain ⟨x, o, rfl, hx, hc⟩ := hr.2 (by decide)
  have hL := hr.1
  have hs := h.slen
  have hone := cells_one L
  have hsrc : ∀ j v, (cells L)[j]? = some v → w.cell? ((⟨x, o, none⟩ : Addr).add j) = some v := fun j v hj => hr.cells_at j v hj
  rw [Nat.mul_one] at hcs
  have hrun := run_copy_row (P := Try.prog) w 32 32 ty 5 g (512 * i) 512 c ⟨x, o, none⟩ 512 c' cur 5 (cells L) Try.underlying32 (by kernel_rfl) hh (by rw [cells_length, hL]; rfl) hsrc (by rw [cells_length]; omega) hone
  rw [cells_length, hL] at hrun
  refine ⟨_, hrun, ?_, ⟨rfl, rfl, rfl, by simp [World.setRow], fun k _ hk => setRow_other w g k _ hk⟩⟩
  have hF : Fr (· = g) w (w.setRow g (cur.toList.take (512 * i) ++ cells L ++ cur.toList.drop (512 * i + 512)).toArray) := ⟨rfl, rfl, rfl, by simp [World.setRow], fun k _ hk => setRow_other w g k _ hk⟩
  have nq : ∀ x C e, w.heap[x]? = some (.cells C e (0, 0)) → e ≠ 5 → ¬ x = g := by
    rintro x C e hC he rfl
    rw [hh] at hC
    injection hC with hC
    injection hC with _ h2
    exact he h2.symm
  exact {
    blk := (hF.block p h.lt (nq p _ _ h.blk (by decide))).trans h.blk
    safe := by
      refine ⟨by rw [cells_length, Nat.mul_one]; exact setSec_length s i L hs hi hL, .inr ⟨g, cap, _, hv, Nat.zero_le _, setRow_heap w g cur _ _ _ hh, hn, hcm, ?_, ?_⟩⟩
      · simp; omega
      · have := take_over cur.toList (cells L) (512 * i) (512 * s.k) (by rw [cells_length]; omega) (by simp; omega)
        rw [cells_length, hL] at this
        simp only [Nat.mul_one] at ht ⊢
        show List.take (512 * s.k) _ = _
        rw [List.append_assoc, this, ht]
        show _ = cells (putL s.safe (512 * i) L)
        rw [← splice_cells]
        simp [splice, hL]
    map := h.map.fr hF (fun e => by
      obtain ⟨D, ⟨es, clock, hm, _⟩, _⟩ := h.map
      have e' : m = g := e
      rw [e', hh] at hm
      cases hm)
    rows := fun j => (h.rows j).kept hF (fun x hx => by
      obtain ⟨C, hC⟩ := (h.rows j).tag hx
      exact nq x C _ hC (by decide)) (fun x _ hne _ e => hne (by rw [hv, show x = g from e]; rfl))
    apart := h.apart
    inside := h.inside
    few := h.few
    ownp := h.ownp
    ownm := h.ownm
    owns := h.owns
    kle := h.kle
    nle := h.nle
    fz := h.fz
    rz := h.rz
    wz := h.wz }

theorem wpList_dcpy {ops : Array Oper} {rest : List Oper} {o : Oper} {a : Act} {Q : Exit → Act → World → Prop} (hgd : o.guard = none) (x y : Operand) (ho : o.op = .call { callee := .builtin .copy, args := #[x, y], argTypes := #[32, 32] })
    (h : DAt w own N p m sv f s) (i : Nat) (hi : i < s.k) (b c : Nat) (hb : sv.ownBlock = some b) (hs : a.eval x = .slice (some ⟨b, 512 * i, none⟩) 512 c) (A : Option Addr) (c' : Nat) (L : List UInt8) (hx : a.eval y = .slice A 512 c') (hr : Rd w A 512 L)
    (hK : ∀ w', DAt w' own N p m sv f (s.setSec i L) → Fr (· = b) w w' → wpList Try.prog ops Q rest (a.put o.dst (goInt 512)) w') : wpList Try.prog ops Q (o :: rest) a w := by
  refine wpList_plain hgd fun K hK' => ?_
  obtain ⟨w', hrun, h1, h2⟩ := h.cpy i hi b c hb A c' L hr o.type
  unfold Oper.wp
  simp [execOp, ho, resolve, invoke, builtin, hs, hx, hrun, Result.andThen]
  exact hK' _ _ (hK w' h1 h2)
theorem step_dcpy {ops : Array Oper} {o : Oper} {a : Act} {K : Act → World → Prop} {Q : Exit → Act → World → Prop} {E : Prop} (hgd : o.guard = none) (x y : Operand) (ho : o.op = .call { callee := .builtin .copy, args := #[x, y], argTypes := #[32, 32] })
    (h : DAt w own N p m sv f s) (i : Nat) (hi : i < s.k) (b c : Nat) (hb : sv.ownBlock = some b) (hs : a.eval x = .slice (some ⟨b, 512 * i, none⟩) 512 c) (A : Option Addr) (c' : Nat) (L : List UInt8) (hx : a.eval y = .slice A 512 c') (hr : Rd w A 512 L)
    (hK : ∀ w', DAt w' own N p m sv f (s.setSec i L) → Fr (· = b) w w' → K (a.put o.dst (goInt 512)) w') : if Region.wanted o (yielded ops a.tmps) = true then Oper.wp Try.prog o a w K Q else E := by
  have hw : Region.wanted o (yielded ops a.tmps) = true := by simp [Region.wanted, hgd]
  rw [if_pos hw]
  obtain ⟨w', hrun, h1, h2⟩ := h.cpy i hi b c hb A c' L hr o.type
  unfold Oper.wp
  simp [execOp, ho, resolve, invoke, builtin, hs, hx, hrun, Result.andThen]
  exact hK w' h1 h2

end

/-- How many of the writes to sector i stay whole. -/
def St.kept (s : St) (i : Nat) (kept : Int) : Nat := (min (max kept 0) ((s.wait i).length : Int)).toNat
/-- What stands there of those that stay whole. -/
def St.whole (s : St) (i : Nat) (kept : Int) : List UInt8 := if s.kept i kept = 0 then s.sec i else (s.wait i).getD (s.kept i kept - 1) []
/-- What a fate makes of sector i. -/
def St.fated (s : St) (i : Nat) (kept torn : Int) : List UInt8 := if s.kept i kept < (s.wait i).length then tearL (s.whole i kept) ((s.wait i).getD (s.kept i kept) []) torn else s.whole i kept
def St.settle (s : St) (i : Nat) (kept torn : Int) : St := s.setSec i (s.fated i kept torn)

theorem cut_self {l : List UInt8} (h : l.length = 512) : cut 512 l = l := by
  rw [cut_short (by omega), h]
  simp
theorem setSec_twice (s : St) (i : Nat) (L M : List UInt8) (hs : s.safe.length = 512 * s.k) (hi : i < s.k) (hL : L.length = 512) (hM : M.length = 512) : (s.setSec i L).setSec i M = s.setSec i M := by
  show { s with safe := putL (putL s.safe (512 * i) L) (512 * i) M } = { s with safe := putL s.safe (512 * i) M }
  have : putL (putL s.safe (512 * i) L) (512 * i) M = putL s.safe (512 * i) M := by
    have e : putL s.safe (512 * i) L = s.safe.take (512 * i) ++ (L ++ s.safe.drop (512 * i + L.length)) := rfl
    rw [e, putL_mid (by simp; omega) (by omega)]
    unfold putL
    rw [hL, hM]
  rw [this]

section
variable {w w' : World} {own : Nat → Prop} {N p m : Nat} {sv : Value} {f : Nat → Value} {s : St}

theorem Wr.len512 {sb : Option Nat} {v : Value} {ls : List (List UInt8)} (h : Wr w own sb v ls) (j : Nat) (hj : j < ls.length) : (ls.getD j []).length = 512 := by
  obtain ⟨_, _, _, h3⟩ := h
  obtain ⟨g, _, _, _, _, e⟩ := h3 j hj
  rw [List.getD, List.getElem?_eq_getElem hj]
  exact e
theorem whole_len (h : DAt w own N p m sv f s) (i : Nat) (hi : i < s.k) (kept : Int) : (s.whole i kept).length = 512 := by
  unfold St.whole
  by_cases h0 : s.kept i kept = 0
  · rw [if_pos h0]; exact sec_length s i h.slen hi
  · rw [if_neg h0]; exact (h.rows i).len512 _ (by unfold St.kept at *; omega)
theorem fated_len (h : DAt w own N p m sv f s) (i : Nat) (hi : i < s.k) (kept torn : Int) : (s.fated i kept torn).length = 512 := by
  unfold St.fated
  by_cases h0 : s.kept i kept < (s.wait i).length
  · rw [if_pos h0]; exact tearL_length (whole_len h i hi kept) ((h.rows i).len512 _ h0) torn
  · rw [if_neg h0]; exact whole_len h i hi kept

theorem DAt.secRd (h : DAt w own N p m sv f s) (i : Nat) (hi : i < s.k) (b : Nat) (hb : sv.ownBlock = some b) : Rd w (some ⟨b, 512 * i, none⟩) 512 (s.sec i) := by
  obtain ⟨A, c, rfl, _, _, hr, hA⟩ := h.shape
  obtain ⟨b', rfl⟩ := hA (by omega)
  simp [Value.ownBlock] at hb
  subst hb
  exact hr.part (lo := 512 * i) (m := 512) (by omega) (some ⟨b', 512 * i, none⟩) (fun _ x o e => by injection e with e; injection e with e1 e2; subst e1; subst e2; simp)
theorem DAt.row_ne (h : DAt w own N p m sv f s) (i r : Nat) (hr : (f i).ownBlock = some r) (x : Nat) (hx : sv.ownBlock = some x) : ¬ r = x := fun e => by
  obtain ⟨C, hC⟩ := (h.rows i).tag hr
  obtain ⟨C', hC'⟩ := own_tag h.safe hx
  rw [e, hC'] at hC
  injection hC with hC
  injection hC with _ h2
  exact absurd h2 (by decide)

theorem settle_none (dom : ∀ x, own x → x < w.heap.size) (h : DAt w own N p m sv f s) (i : Nat) (hi : i < s.k) (kept torn : Int) (n L : Nat) (hL : (s.wait i).length = L) (hn : s.kept i kept = n) (h0 : n = 0) (h1 : L = 0) :
    Calls Try.prog 39 #[.pointer (some ⟨p, 0, none⟩), .int .i64 i, .agg #[.int .i64 kept, .int .i64 torn]] w fun e w' => e = .returned (.tuple #[]) ∧ Fr own w w' ∧ DAt w' own N p m sv f (s.settle i kept torn) := by
  have hres : s.fated i kept torn = s.sec i := by unfold St.fated St.whole; rw [hL, hn]; rw [if_neg (by omega), if_pos h0]
  have HRES := Lib.hid hres
  have hnn : min (max kept 0) (L : Int) = (n : Int) := by unfold St.kept at hn; rw [hL] at hn; omega
  have hs := h.slen
  have HS := Lib.hid hs
  have HOWN := Lib.hid h.owns
  have DOM := Lib.hid dom
  obtain ⟨w1, hw1⟩ : ∃ w1, w1 = w.alloc (.cells #[.int .i64 kept, .int .i64 torn] 63) := ⟨_, rfl⟩
  have hB1 : Below w.heap.size w w1 := by rw [hw1]; exact (Below.refl _ _).alloc (Nat.le_refl _) _
  have D1 := h.below hB1
  have k0 : w1.cell? ⟨w.heap.size, 0, none⟩ = some (.int .i64 kept) := by rw [hw1]; simp
  have k1 : w1.cell? ⟨w.heap.size, 1, none⟩ = some (.int .i64 torn) := by rw [hw1]; simp
  have HW1 : Hid (w.heap.size < w1.heap.size) := Lib.hid (by rw [hw1]; simp)
  have HB1 := Lib.hid hB1
  have D1d := D1.drew
  have hl1 := D1.look i hi
  have hl := D1d.look i hi
  have c1 := D1.c1
  have c1d := D1d.c1
  obtain ⟨A, cc, hv, hcl, hcm, hx⟩ := (D1.rows i).shape
  have hrb := D1.row_ne i
  have hel := (D1.rows i).len512
  rw [hv] at hrb
  have hfew := h.few i
  have hnle := h.nle
  rw [hv, hL] at hl hl1
  rw [hL] at hcl hfew
  have hnn0 : min (max kept 0) 0 = (0 : Int) := by omega
  have HNN := Lib.hid hnn0
  have HN := Lib.hid hn
  have HL := Lib.hid hL
  have HEL := Lib.hid hel
  clear h hB1 hcm hres hs dom hnn hnn0 hn hL hv hel
  clear hx hrb
  subst h0
  subst h1
  go_enter Try.func39, Try.ntmps39
  go_wp2_with fail
  rw [← hw1]
  clear hw1
  go_region_held3 (fun w' => w'.cell? ⟨p, 1, none⟩ = some (.map (some m)) ∧ (Instr.lookup 72 (.map (some m)) (.int .i64 (i : Int)) false).run Try.prog w' = .ok (.slice A 0 cc) w') (first
      | with_reducible exact ⟨c1, hl1⟩
      | with_reducible exact ⟨c1d, hl⟩) (first
    | (go_at_call 41; refine (sector_any D1d i hi).mono ?_; rintro e w' ⟨b, c, hb, rfl, hc, hrS, rfl⟩))
  all_goals
    go_wp2_with (first
      | (go_at_call 31; refine (dnearest_any _ _ _ _).mono ?_; rintro e w' ⟨rfl, rfl⟩; rw [HNN.out]))
    go_end0
    refine ⟨rfl, (Fr.ofBelow own HB1.out).trans (Fr.drew own _), ?_⟩
    rw [St.settle, HRES.out, setSec_same s i HS.out hi]
    exact D1d

theorem settle_whole (dom : ∀ x, own x → x < w.heap.size) (h : DAt w own N p m sv f s) (i : Nat) (hi : i < s.k) (kept torn : Int) (n L : Nat) (hL : (s.wait i).length = L) (hn : s.kept i kept = n) (h0 : 0 < n) (h1 : n = L) :
    Calls Try.prog 39 #[.pointer (some ⟨p, 0, none⟩), .int .i64 i, .agg #[.int .i64 kept, .int .i64 torn]] w fun e w' => e = .returned (.tuple #[]) ∧ Fr own w w' ∧ DAt w' own N p m sv f (s.settle i kept torn) := by
  have hres : s.fated i kept torn = (s.wait i).getD (n - 1) [] := by unfold St.fated St.whole; rw [hL, hn]; rw [if_neg (by omega), if_neg (by omega)]
  have HRES := Lib.hid hres
  have hnn : min (max kept 0) (L : Int) = (n : Int) := by unfold St.kept at hn; rw [hL] at hn; omega
  have hs := h.slen
  have HS := Lib.hid hs
  have HOWN := Lib.hid h.owns
  have DOM := Lib.hid dom
  obtain ⟨w1, hw1⟩ : ∃ w1, w1 = w.alloc (.cells #[.int .i64 kept, .int .i64 torn] 63) := ⟨_, rfl⟩
  have hB1 : Below w.heap.size w w1 := by rw [hw1]; exact (Below.refl _ _).alloc (Nat.le_refl _) _
  have D1 := h.below hB1
  have k0 : w1.cell? ⟨w.heap.size, 0, none⟩ = some (.int .i64 kept) := by rw [hw1]; simp
  have k1 : w1.cell? ⟨w.heap.size, 1, none⟩ = some (.int .i64 torn) := by rw [hw1]; simp
  have HW1 : Hid (w.heap.size < w1.heap.size) := Lib.hid (by rw [hw1]; simp)
  have HB1 := Lib.hid hB1
  have D1d := D1.drew
  have hl1 := D1.look i hi
  have hl := D1d.look i hi
  have c1 := D1.c1
  have c1d := D1d.c1
  obtain ⟨A, cc, hv, hcl, hcm, hx⟩ := (D1.rows i).shape
  have hrb := D1.row_ne i
  have hel := (D1.rows i).len512
  rw [hv] at hrb
  have hfew := h.few i
  have hnle := h.nle
  rw [hv, hL] at hl hl1
  rw [hL] at hcl hfew
  have HNN := Lib.hid hnn
  have HN := Lib.hid hn
  have HL := Lib.hid hL
  have HEL := Lib.hid hel
  clear h hB1 hcm hres hs dom hnn hn hL hv hel
  obtain ⟨r, g, rfl, hcell, hrW, hog, hsb⟩ := hx (n - 1) (by rw [HL.out]; omega)
  have hWW : (s.wait i)[n - 1]'(by rw [HL.out]; omega) = (s.wait i).getD (n - 1) [] := by rw [List.getD, List.getElem?_eq_getElem (by rw [HL.out]; omega)]; rfl
  rw [hWW] at hrW
  have hlW : ((s.wait i).getD (n - 1) []).length = 512 := HEL.out _ (by rw [HL.out]; omega)
  obtain ⟨M, hM⟩ : ∃ M, M = (s.wait i).getD (n - 1) [] := ⟨_, rfl⟩
  rw [← hM] at hrW hlW
  have HM := Lib.hid hM
  have HLW := Lib.hid hlW
  clear hM hWW hlW
  have g1 : ((n : Int) - 1).toNat = n - 1 := by omega
  have g2 : 0 ≤ (n : Int) - 1 := by omega
  have g3 : (n : Int) - 1 < (L : Int) := by omega
  have g4 : (1 : Int) ≤ (n : Int) := by omega
  have g5 : (0 : Int) < (n : Int) := by omega
  clear hx hrb
  subst h1
  go_enter Try.func39, Try.ntmps39
  go_wp2_with fail
  rw [← hw1]
  clear hw1
  go_region_held3 (fun w' => w'.cell? ⟨p, 1, none⟩ = some (.map (some m)) ∧ (Instr.lookup 72 (.map (some m)) (.int .i64 (i : Int)) false).run Try.prog w' = .ok (.slice (some ⟨r, 0, none⟩) n cc) w') (first
      | with_reducible exact ⟨c1, hl1⟩
      | with_reducible exact ⟨c1d, hl⟩) (first
    | (go_at_call 41; refine (sector_any D1d i hi).mono ?_; rintro e w' ⟨b, c, hb, rfl, hc, hrS, rfl⟩))
  all_goals
    go_wp2_with (first
      | (go_at_call 31; refine (dnearest_any _ _ _ _).mono ?_; rintro e w' ⟨rfl, rfl⟩; rw [HNN.out])
      | (refine wpList_dcpy rfl (.tmp 25) (.tmp 30) rfl D1d i hi b c hb rfl _ 512 M rfl hrW.drew ?_; intro w2 D2 F2))
    go_end0
    refine ⟨rfl, ((Fr.ofBelow own HB1.out).trans (Fr.drew own _)).trans (F2.mono (fun x hx => by rw [show x = b from hx]; exact HOWN.out b hb)), ?_⟩
    rw [St.settle, HRES.out, ← HM.out]
    exact D2

theorem settle_torn (dom : ∀ x, own x → x < w.heap.size) (h : DAt w own N p m sv f s) (i : Nat) (hi : i < s.k) (kept torn : Int) (n L : Nat) (hL : (s.wait i).length = L) (hn : s.kept i kept = n) (h0 : n = 0) (h1 : 0 < L) :
    Calls Try.prog 39 #[.pointer (some ⟨p, 0, none⟩), .int .i64 i, .agg #[.int .i64 kept, .int .i64 torn]] w fun e w' => e = .returned (.tuple #[]) ∧ Fr own w w' ∧ DAt w' own N p m sv f (s.settle i kept torn) := by
  have hres : s.fated i kept torn = tearL (s.sec i) ((s.wait i).getD 0 []) torn := by unfold St.fated St.whole; rw [hL, hn]; rw [if_pos (by omega), if_pos h0, h0]
  have HRES := Lib.hid hres
  have hnn : min (max kept 0) (L : Int) = (n : Int) := by unfold St.kept at hn; rw [hL] at hn; omega
  have hs := h.slen
  have HS := Lib.hid hs
  have HOWN := Lib.hid h.owns
  have DOM := Lib.hid dom
  obtain ⟨w1, hw1⟩ : ∃ w1, w1 = w.alloc (.cells #[.int .i64 kept, .int .i64 torn] 63) := ⟨_, rfl⟩
  have hB1 : Below w.heap.size w w1 := by rw [hw1]; exact (Below.refl _ _).alloc (Nat.le_refl _) _
  have D1 := h.below hB1
  have k0 : w1.cell? ⟨w.heap.size, 0, none⟩ = some (.int .i64 kept) := by rw [hw1]; simp
  have k1 : w1.cell? ⟨w.heap.size, 1, none⟩ = some (.int .i64 torn) := by rw [hw1]; simp
  have HW1 : Hid (w.heap.size < w1.heap.size) := Lib.hid (by rw [hw1]; simp)
  have HB1 := Lib.hid hB1
  have D1d := D1.drew
  have hl1 := D1.look i hi
  have hl := D1d.look i hi
  have c1 := D1.c1
  have c1d := D1d.c1
  obtain ⟨A, cc, hv, hcl, hcm, hx⟩ := (D1.rows i).shape
  have hrb := D1.row_ne i
  have hel := (D1.rows i).len512
  rw [hv] at hrb
  have hfew := h.few i
  have hnle := h.nle
  rw [hv, hL] at hl hl1
  rw [hL] at hcl hfew
  have hnn0 : min (max kept 0) (L : Int) = (0 : Int) := by omega
  have HNN := Lib.hid hnn0
  have HN := Lib.hid hn
  have HL := Lib.hid hL
  have HEL := Lib.hid hel
  clear h hB1 hcm hres hs dom hnn hnn0 hn hL hv hel
  subst h0
  obtain ⟨r, g, rfl, hcell, hrT, hog, hsb⟩ := hx 0 (by rw [HL.out]; omega)
  have hWT : (s.wait i)[0]'(by rw [HL.out]; omega) = (s.wait i).getD (0) [] := by rw [List.getD, List.getElem?_eq_getElem (by rw [HL.out]; omega)]; rfl
  rw [hWT] at hrT
  have hlT : ((s.wait i).getD (0) []).length = 512 := HEL.out _ (by rw [HL.out]; omega)
  obtain ⟨W, hW⟩ : ∃ W, W = (s.wait i).getD (0) [] := ⟨_, rfl⟩
  rw [← hW] at hrT hlT
  have HW := Lib.hid hW
  have HLT := Lib.hid hlT
  clear hW hWT hlT
  have hRB : ∀ x, sv.ownBlock = some x → ¬ r = x := fun x hx' => hrb r rfl x hx'
  have HRB := Lib.hid hRB
  clear hRB hrb
  have hNB : ∀ x, sv.ownBlock = some x → ¬ w.heap.size = x := fun x hx' e => by have := DOM.out x (HOWN.out x hx'); omega
  have NB := Lib.hid hNB
  clear hNB
  clear hx
  go_enter Try.func39, Try.ntmps39
  go_wp2_with fail
  rw [← hw1]
  clear hw1
  go_region_held3 (fun w' => w'.cell? ⟨p, 1, none⟩ = some (.map (some m)) ∧ (Instr.lookup 72 (.map (some m)) (.int .i64 (i : Int)) false).run Try.prog w' = .ok (.slice (some ⟨r, 0, none⟩) L cc) w') (first
      | with_reducible exact ⟨c1, hl1⟩
      | with_reducible exact ⟨c1d, hl⟩) (first
    | (go_at_call 41; refine (sector_any D1d i hi).mono ?_; rintro e w' ⟨b, c, hb, rfl, hc, hrS, rfl⟩))
  all_goals
    go_wp2_with (first
      | (go_at_call 31; refine (dnearest_any _ _ _ _).mono ?_; rintro e w' ⟨rfl, rfl⟩; rw [HNN.out]))
    have q0 : w1.drew.cell? ⟨r, 0, none⟩ = some (.slice (some ⟨g, 0, none⟩) 512 512) := hcell
    have q1 : w1.drew.cell? ⟨w.heap.size, 1, none⟩ = some (.int .i64 torn) := k1
    have q0d : w1.drew.drew.cell? ⟨r, 0, none⟩ = some (.slice (some ⟨g, 0, none⟩) 512 512) := hcell
    have q1d : w1.drew.drew.cell? ⟨w.heap.size, 1, none⟩ = some (.int .i64 torn) := k1
    have DT := D1d.drew
    have hrSd := DT.secRd i hi b hb
    replace hrT : Rd w1.drew.drew (some ⟨g, 0, none⟩) 512 W := hrT
    go_region_held3 (fun w' => w'.cell? ⟨r, 0, none⟩ = some (.slice (some ⟨g, 0, none⟩) 512 512) ∧ w'.cell? ⟨w.heap.size, 1, none⟩ = some (.int .i64 torn)) (first
        | with_reducible exact ⟨q0, q1⟩
        | with_reducible exact ⟨q0d, q1d⟩
        | with_reducible exact ⟨q03, q13⟩
        | with_reducible exact ⟨q04, q14⟩) (first
      | (go_at_call 48; refine (Tear_any _ _ 512 c 512 512 (s.sec i) W torn _ hrSd hrT).mono ?_; rintro e w3 ⟨A3, rfl, hr3, hB3⟩; have D3 := DT.below hB3; have q03 := (hB3.cell (p := ⟨r, 0, none⟩) (World.block_lt_of_cell? _ _ q0d)).trans q0d; have q13 := (hB3.cell (p := ⟨w.heap.size, 1, none⟩) (World.block_lt_of_cell? _ _ q1d)).trans q1d)
      | (refine step_dcpy rfl (.tmp 36) (.tmp 44) rfl D3 i hi b c hb rfl _ 512 _ rfl hr3 ?_; intro w4 D4 F4; have q04 := (World.cell?_of_block (w := w3) (a := ⟨r, 0, none⟩) (F4.block r (World.block_lt_of_cell? _ _ q03) (HRB.out b hb))).trans q03; have q14 := (World.cell?_of_block (w := w3) (a := ⟨w.heap.size, 1, none⟩) (F4.block w.heap.size (World.block_lt_of_cell? _ _ q13) (NB.out b hb))).trans q13))
    go_wp2
    go_end0
    refine ⟨rfl, ((((Fr.ofBelow own HB1.out).trans (Fr.drew own _)).trans (Fr.drew own _)).trans (Fr.ofBelow own hB3)).trans (F4.mono (fun x hx => by rw [show x = b from hx]; exact HOWN.out b hb)), ?_⟩
    rw [St.settle, HRES.out, ← HW.out]
    rw [cut_self (sec_length s i HS.out hi), cut_self HLT.out] at D4
    exact D4

set_option maxRecDepth 20000 in
theorem settle_both (dom : ∀ x, own x → x < w.heap.size) (h : DAt w own N p m sv f s) (i : Nat) (hi : i < s.k) (kept torn : Int) (n L : Nat) (hL : (s.wait i).length = L) (hn : s.kept i kept = n) (h0 : 0 < n) (h1 : n < L) :
    Calls Try.prog 39 #[.pointer (some ⟨p, 0, none⟩), .int .i64 i, .agg #[.int .i64 kept, .int .i64 torn]] w fun e w' => e = .returned (.tuple #[]) ∧ Fr own w w' ∧ DAt w' own N p m sv f (s.settle i kept torn) := by
  have hres : s.fated i kept torn = tearL ((s.wait i).getD (n - 1) []) ((s.wait i).getD n []) torn := by unfold St.fated St.whole; rw [hL, hn]; rw [if_pos (by omega), if_neg (by omega)]
  have HRES := Lib.hid hres
  have hnn : min (max kept 0) (L : Int) = (n : Int) := by unfold St.kept at hn; rw [hL] at hn; omega
  have hs := h.slen
  have HS := Lib.hid hs
  have HOWN := Lib.hid h.owns
  have DOM := Lib.hid dom
  obtain ⟨w1, hw1⟩ : ∃ w1, w1 = w.alloc (.cells #[.int .i64 kept, .int .i64 torn] 63) := ⟨_, rfl⟩
  have hB1 : Below w.heap.size w w1 := by rw [hw1]; exact (Below.refl _ _).alloc (Nat.le_refl _) _
  have D1 := h.below hB1
  have k0 : w1.cell? ⟨w.heap.size, 0, none⟩ = some (.int .i64 kept) := by rw [hw1]; simp
  have k1 : w1.cell? ⟨w.heap.size, 1, none⟩ = some (.int .i64 torn) := by rw [hw1]; simp
  have HW1 : Hid (w.heap.size < w1.heap.size) := Lib.hid (by rw [hw1]; simp)
  have HB1 := Lib.hid hB1
  have D1d := D1.drew
  have hl1 := D1.look i hi
  have hl := D1d.look i hi
  have c1 := D1.c1
  have c1d := D1d.c1
  obtain ⟨A, cc, hv, hcl, hcm, hx⟩ := (D1.rows i).shape
  have hrb := D1.row_ne i
  have hel := (D1.rows i).len512
  rw [hv] at hrb
  have hfew := h.few i
  have hnle := h.nle
  rw [hv, hL] at hl hl1
  rw [hL] at hcl hfew
  have HNN := Lib.hid hnn
  have HN := Lib.hid hn
  have HL := Lib.hid hL
  have HEL := Lib.hid hel
  clear h hB1 hcm hres hs dom hnn hn hL hv hel
  obtain ⟨r, g, hA, hcell, hrW, hog, hsb⟩ := hx (n - 1) (by rw [HL.out]; omega)
  have hWW : (s.wait i)[n - 1]'(by rw [HL.out]; omega) = (s.wait i).getD (n - 1) [] := by rw [List.getD, List.getElem?_eq_getElem (by rw [HL.out]; omega)]; rfl
  rw [hWW] at hrW
  have hlW : ((s.wait i).getD (n - 1) []).length = 512 := HEL.out _ (by rw [HL.out]; omega)
  obtain ⟨M, hM⟩ : ∃ M, M = (s.wait i).getD (n - 1) [] := ⟨_, rfl⟩
  rw [← hM] at hrW hlW
  have HM := Lib.hid hM
  have HLW := Lib.hid hlW
  clear hM hWW hlW
  obtain ⟨r', g', hA', hcell', hrT, hog', hsb'⟩ := hx n (by rw [HL.out]; omega)
  obtain rfl : r = r' := by rw [hA] at hA'; injection hA' with e; injection e
  subst hA
  clear hA'
  have hWT : (s.wait i)[n]'(by rw [HL.out]; omega) = (s.wait i).getD (n) [] := by rw [List.getD, List.getElem?_eq_getElem (by rw [HL.out]; omega)]; rfl
  rw [hWT] at hrT
  have hlT : ((s.wait i).getD (n) []).length = 512 := HEL.out _ (by rw [HL.out]; omega)
  obtain ⟨W, hW⟩ : ∃ W, W = (s.wait i).getD (n) [] := ⟨_, rfl⟩
  rw [← hW] at hrT hlT
  have HW := Lib.hid hW
  have HLT := Lib.hid hlT
  clear hW hWT hlT
  have g1 : ((n : Int) - 1).toNat = n - 1 := by omega
  have g2 : 0 ≤ (n : Int) - 1 := by omega
  have g3 : (n : Int) - 1 < (L : Int) := by omega
  have g4 : (1 : Int) ≤ (n : Int) := by omega
  have g5 : (0 : Int) < (n : Int) := by omega
  have hRB : ∀ x, sv.ownBlock = some x → ¬ r = x := fun x hx' => hrb r rfl x hx'
  have HRB := Lib.hid hRB
  clear hRB hrb
  have hNB : ∀ x, sv.ownBlock = some x → ¬ w.heap.size = x := fun x hx' e => by have := DOM.out x (HOWN.out x hx'); omega
  have NB := Lib.hid hNB
  clear hNB
  have hGB : ∀ x, sv.ownBlock = some x → ¬ g' = x := fun x hx' e => hsb' (by rw [hx', e])
  have GB := Lib.hid hGB
  clear hGB hx
  go_enter Try.func39, Try.ntmps39
  go_wp2_with fail
  rw [← hw1]
  clear hw1
  go_region_held3 (fun w' => w'.cell? ⟨p, 1, none⟩ = some (.map (some m)) ∧ (Instr.lookup 72 (.map (some m)) (.int .i64 (i : Int)) false).run Try.prog w' = .ok (.slice (some ⟨r, 0, none⟩) L cc) w') (first
      | with_reducible exact ⟨c1, hl1⟩
      | with_reducible exact ⟨c1d, hl⟩) (first
    | (go_at_call 41; refine (sector_any D1d i hi).mono ?_; rintro e w' ⟨b, c, hb, rfl, hc, hrS, rfl⟩))
  all_goals
    go_wp2_with (first
      | (go_at_call 31; refine (dnearest_any _ _ _ _).mono ?_; rintro e w' ⟨rfl, rfl⟩; rw [HNN.out])
      | (refine wpList_dcpy rfl (.tmp 25) (.tmp 30) rfl D1d i hi b c hb rfl _ 512 M rfl hrW.drew ?_; intro w2 D2 F2))
    have q0 : w2.cell? ⟨r, n, none⟩ = some (.slice (some ⟨g', 0, none⟩) 512 512) := (World.cell?_of_block (w := w1.drew) (a := ⟨r, n, none⟩) (F2.block r (World.block_lt_of_cell? w1 _ hcell') (HRB.out b hb))).trans hcell'
    have q1 : w2.cell? ⟨w.heap.size, 1, none⟩ = some (.int .i64 torn) := (World.cell?_of_block (w := w1.drew) (a := ⟨w.heap.size, 1, none⟩) (F2.block w.heap.size (World.block_lt_of_cell? w1 _ k1) (NB.out b hb))).trans k1
    have q0d : w2.drew.cell? ⟨r, n, none⟩ = some (.slice (some ⟨g', 0, none⟩) 512 512) := q0
    have q1d : w2.drew.cell? ⟨w.heap.size, 1, none⟩ = some (.int .i64 torn) := q1
    have DT := D2.drew
    have hrSd := DT.secRd i hi b hb
    have hrT2 : Rd w2 (some ⟨g', 0, none⟩) 512 W := hrT.drew.fr (w := w1.drew) F2 (fun x o e _ hx => by injection e with e; injection e with e1 e2; exact GB.out b hb (e1.trans hx))
    clear hrT
    have hrT : Rd w2.drew (some ⟨g', 0, none⟩) 512 W := hrT2.drew
    go_region_held3 (fun w' => w'.cell? ⟨r, n, none⟩ = some (.slice (some ⟨g', 0, none⟩) 512 512) ∧ w'.cell? ⟨w.heap.size, 1, none⟩ = some (.int .i64 torn)) (first
        | with_reducible exact ⟨q0, q1⟩
        | with_reducible exact ⟨q0d, q1d⟩
        | with_reducible exact ⟨q03, q13⟩
        | with_reducible exact ⟨q04, q14⟩) (first
      | (go_at_call 48; refine (Tear_any _ _ 512 c 512 512 ((s.setSec i M).sec i) W torn _ hrSd hrT).mono ?_; rintro e w3 ⟨A3, rfl, hr3, hB3⟩; have D3 := DT.below hB3; have q03 := (hB3.cell (p := ⟨r, n, none⟩) (World.block_lt_of_cell? _ _ q0d)).trans q0d; have q13 := (hB3.cell (p := ⟨w.heap.size, 1, none⟩) (World.block_lt_of_cell? _ _ q1d)).trans q1d)
      | (refine step_dcpy rfl (.tmp 36) (.tmp 44) rfl D3 i hi b c hb rfl _ 512 _ rfl hr3 ?_; intro w4 D4 F4; have q04 := (World.cell?_of_block (w := w3) (a := ⟨r, n, none⟩) (F4.block r (World.block_lt_of_cell? _ _ q03) (HRB.out b hb))).trans q03; have q14 := (World.cell?_of_block (w := w3) (a := ⟨w.heap.size, 1, none⟩) (F4.block w.heap.size (World.block_lt_of_cell? _ _ q13) (NB.out b hb))).trans q13))
    go_wp2
    go_end0
    refine ⟨rfl, (((((Fr.ofBelow own HB1.out).trans (Fr.drew own _)).trans (F2.mono (fun x hx => by rw [show x = b from hx]; exact HOWN.out b hb))).trans (Fr.drew own _)).trans (Fr.ofBelow own hB3)).trans (F4.mono (fun x hx => by rw [show x = b from hx]; exact HOWN.out b hb)), ?_⟩
    rw [St.settle, HRES.out, ← HW.out, ← HM.out]
    rw [sec_setSec_same s i M HS.out hi HLW.out, cut_self HLW.out, cut_self HLT.out, setSec_twice s i M _ HS.out hi HLW.out (tearL_length HLW.out HLT.out torn)] at D4
    exact D4

theorem settle_any (dom : ∀ x, own x → x < w.heap.size) (h : DAt w own N p m sv f s) (i : Nat) (hi : i < s.k) (kept torn : Int) :
    Calls Try.prog 39 #[.pointer (some ⟨p, 0, none⟩), .int .i64 i, .agg #[.int .i64 kept, .int .i64 torn]] w fun e w' => e = .returned (.tuple #[]) ∧ Fr own w w' ∧ DAt w' own N p m sv f (s.settle i kept torn) := by
  have hle : s.kept i kept ≤ (s.wait i).length := by unfold St.kept; omega
  by_cases h0 : s.kept i kept = 0
  · by_cases h1 : (s.wait i).length = 0
    · exact settle_none dom h i hi kept torn _ _ rfl rfl h0 h1
    · exact settle_torn dom h i hi kept torn _ _ rfl rfl h0 (by omega)
  · by_cases h1 : s.kept i kept = (s.wait i).length
    · exact settle_whole dom h i hi kept torn _ _ rfl rfl (by omega) h1
    · exact settle_both dom h i hi kept torn _ _ rfl rfl (by omega) (by omega)
end
end Go.Proofs.Ytieknelmfjkbhaa
