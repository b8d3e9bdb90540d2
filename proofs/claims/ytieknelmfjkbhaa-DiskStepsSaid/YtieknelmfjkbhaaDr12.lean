/- The reference's Go: a crash; and every step in one contract. -/
import Derived.Test.YtieknelmfjkbhaaDr11
namespace Go.Proofs.Ytieknelmfjkbhaa
open Go.RowKit

section
variable {K : Nat → Prop} {w : World} {A : Option Addr} {n : Nat}
theorem RowsK.lt {ls : List (List UInt8)} (h : RowsK K w A n ls) : RowsK (fun x => K x ∧ x < w.heap.size) w A n ls := by
  obtain ⟨vs, h1, h2, h3⟩ := h; exact ⟨vs, h1, h2.lt, h3.lt⟩
theorem WaitK.lt {ls : List (Nat × List UInt8)} (h : WaitK K w A n ls) : WaitK (fun x => K x ∧ x < w.heap.size) w A n ls := by
  obtain ⟨vs, h1, h2, h3⟩ := h; exact ⟨vs, h1, h2.lt, h3.lt⟩
end

section
variable (d : Rf) (a : Int) (bA : Option Addr) (bn bc : Nat) (fA : Option Addr) (fn fc : Nat) (w : World)

set_option maxRecDepth 100000 in
set_option maxHeartbeats 1000000 in
theorem Go_crash (K : Nat → Prop) (fs : List (Int × Int)) (hF : FRd w fA fn fs) (hfn : fn ≤ 1000000) (hfz : ∀ y ∈ fs, -9223372036854775808 ≤ y.2 ∧ y.2 ≤ 9223372036854775807)
    (safe : List (List UInt8)) (ls : List (Nat × List UInt8)) (hS : RowsK K w d.SA d.sn safe) (hW : WaitK K w d.WA d.wn ls) (hls : ∀ x ∈ ls, x.1 < d.sn) (hwn : d.wn ≤ 1000000) (hsn : d.sn ≤ 4096) :
    Calls Try.prog 11 #[d.v, stv 4 a bA bn bc fA fn fc] w fun e w' => ∃ SA' sc', e = .returned (.tuple #[Rf.v ⟨SA', d.sn, sc', none, 0, 0, -1, false, d.rd, d.wr⟩, .slice none 0 0, .int .i64 0]) ∧ RowsK (fun x => K x ∨ (w.heap.size ≤ x ∧ x < w'.heap.size)) w' SA' d.sn (crashL safe ls fun n => fs.getD n (0, 0)) ∧ Below w.heap.size w w' := by
  obtain ⟨SA, sn, sc, WA, wn, wc, fuse, off, rdd, wrr⟩ := d
  simp only at hS hW hls hwn hsn
  have hL := laid_new w ⟨SA, sn, sc, WA, wn, wc, fuse, off, rdd, wrr⟩ 4 a bA bn bc fA fn fc
  obtain ⟨w1, hw1⟩ : ∃ w1, w1 = ((w.alloc (.cells #[.slice SA sn sc, .slice WA wn wc, .int .i64 fuse, .bool off, .int .i64 rdd, .int .i64 wrr] 30)).alloc (.cells #[.int .i64 4, .int .i64 a, .slice bA bn bc, .slice fA fn fc] 37)).alloc (.cells #[.slice none 0 0, .slice none 0 0, .int .i64 0, .bool false, .int .i64 0, .int .i64 0] 30) := ⟨_, rfl⟩
  have hB1 : Below w.heap.size w w1 := by rw [hw1]; exact (((Below.refl _ _).alloc (Nat.le_refl _) _).alloc (by simp) _).alloc (by simp; omega) _
  rw [← hw1] at hL
  have k0 : w1.cell? ⟨w.heap.size + 1, 0, none⟩ = some (.int .i64 4) := cell_of_row _ _ 0 _ _ _ hL.st
  have k3 : w1.cell? ⟨w.heap.size + 1, 3, none⟩ = some (.slice fA fn fc) := cell_of_row _ _ 3 _ _ _ hL.st
  have hsz1 : w.heap.size + 3 ≤ w1.heap.size := by have := hL.r2.lt; omega
  have cC := crash_any ⟨SA, sn, sc, WA, wn, wc, fuse, off, rdd, wrr⟩ fA fn fc w1 (fun x => K x ∧ x < w.heap.size) fs (hF.below hB1) hfn hfz safe ls (hS.lt.below hB1) (hW.lt.below hB1) hls hwn hsn
  simp only [Rf.v, rv] at cC
  have CC := Lib.hid cC
  have HL := Lib.hid hL
  have HB1 := Lib.hid hB1
  clear hL hB1 cC hF hS hW
  show Calls Try.prog _ #[.agg #[.slice SA sn sc, .slice WA wn wc, .int .i64 fuse, .bool off, .int .i64 rdd, .int .i64 wrr], .agg #[.int .i64 4, .int .i64 a, .slice bA bn bc, .slice fA fn fc]] w _
  go_enter Try.func11, Try.ntmps11
  go_wp2_with (first
    | (rw [← hw1]; clear hw1)
    | (with_reducible refine wpList_ldR rfl (.tmp 2) rfl rfl HL.out.r0 ?_))
  refine CC.out.mono ?_
  rintro e w2 ⟨SA', sc', rfl, hR2, hB2⟩
  have R2 := Lib.hid (HL.out.r2.under hB2)
  have HR2 := Lib.hid hR2
  have HB2 := Lib.hid (HB1.out.trans (hB2.mono HB1.out.size))
  have s12 := HB1.out.size
  have g2 := R2.out.lt
  clear hB2 hR2 k0 k3
  go_wp2_with (first
    | (with_reducible refine wpList_stR (d' := ⟨SA', sn, sc', none, 0, 0, -1, false, rdd, wrr⟩) rfl (.tmp 4) (.tmp 27) rfl rfl rfl R2.out ?_; intro w5 hR5 hF5))
  refine bodyPost_ret (res_R3 rfl rfl hR5) rfl ?_
  refine ⟨SA', sc', rfl, ?_, HB2.out.trans (hF5.toBelow (fun x hx => by rw [show x = w.heap.size + 2 from hx]; omega) HB2.out.size)⟩
  have hr5 := HR2.out.stays ⟨hF5.size, fun x hx => hF5.block x (by rcases hx with h | h <;> omega) (fun e => by have e' : x = w.heap.size + 2 := e; rcases hx with h | h <;> omega)⟩
  exact hr5.mono (fun x hx => by rcases hx with h | h; exact .inl h.1; exact .inr ⟨by omega, by have := hF5.size; omega⟩)
end

/-- The reference's state, as it lies: its blocks are K's; M bounds what was done. -/
structure RSt (K : Nat → Prop) (w : World) (d : Rf) (r : Rs) (M : Nat) : Prop where
  rows : RowsK K w d.SA d.sn r.safe
  wait : WaitK K w d.WA d.wn r.wait
  ins : ∀ x ∈ r.wait, x.1 < d.sn
  sn : d.sn ≤ 4096
  wn : d.wn ≤ M
  rd : 0 ≤ d.rd ∧ d.rd ≤ M
  wr : 0 ≤ d.wr ∧ d.wr ≤ M
  fz : -9223372036854775808 ≤ d.fuse ∧ d.fuse ≤ 9223372036854775807
  efuse : d.fuse = r.fuse
  eoff : d.off = r.off
  erd : d.rd = r.rd
  ewr : d.wr = r.wr

section
variable {K K' : Nat → Prop} {w w' : World} {d : Rf} {r : Rs} {M : Nat}
theorem RSt.len (h : RSt K w d r M) : r.safe.length = d.sn := by obtain ⟨vs, h1, _⟩ := h.rows; exact h1
theorem RSt.mono (h : RSt K w d r M) (hk : ∀ x, K x → K' x) : RSt K' w d r M := { h with rows := h.rows.mono hk, wait := h.wait.mono hk }
theorem RSt.stays (h : RSt K w d r M) (hs : Stays K w w') : RSt K w' d r M := { h with rows := h.rows.stays hs, wait := h.wait.stays hs }
theorem RSt.below (h : RSt K w d r M) (hb : Below w.heap.size w w') : RSt K w' d r M := { h with rows := h.rows.below hb, wait := h.wait.below hb }
theorem RSt.lt (h : RSt K w d r M) : RSt (fun x => K x ∧ x < w.heap.size) w d r M := { h with rows := h.rows.lt, wait := h.wait.lt }
theorem RSt.more (h : RSt K w d r M) {M' : Nat} (hM : M ≤ M') : RSt K w d r M' :=
  { h with wn := Nat.le_trans h.wn hM, rd := ⟨h.rd.1, by have := h.rd.2; omega⟩, wr := ⟨h.wr.1, by have := h.wr.2; omega⟩ }

/-- What a step of the reference's answers and leaves. -/
def RDid (K : Nat → Prop) (w : World) (r : Rs) (M : Nat) (x : Stp) (e : Ending) (w' : World) : Prop :=
  ∃ (d' : Rf) (A : Option Addr) (n c : Nat), e = .returned (.tuple #[d'.v, .slice A n c, .int .i64 (r.go x).2.2]) ∧ n ≤ 512 ∧ Rd w' A n (r.go x).2.1 ∧ RSt (fun x => K x ∨ (w.heap.size ≤ x ∧ x < w'.heap.size)) w' d' (r.go x).1 (M + 1) ∧ Below w.heap.size w w'

theorem Go_any (h : RSt K w d r M) (hM : M + 1 ≤ 1000000) (x : Stp) (hx : SOk w x) (hfn : x.fn ≤ 1000000) :
    Calls Try.prog 11 #[d.v, x.val] w (RDid K w r M x) := by
  obtain ⟨dd, a, bA, bn, bc, b, fA, fn, fc, fs⟩ := x
  obtain ⟨rb, rf, az, fz⟩ := hx
  simp only at rb rf az fz hfn
  show Calls Try.prog _ #[d.v, stv dd a bA bn bc fA fn fc] w _
  have hlen := h.len
  by_cases h3 : dd = 3
  · subst h3
    have hgo : r.go ⟨3, a, bA, bn, bc, b, fA, fn, fc, fs⟩ = ({ r with fuse := if a < 0 then -1 else a }, [], 0) := by unfold Rs.go; simp only [if_true]
    refine (Go_fuse d a bA bn bc fA fn fc w).mono ?_
    rintro e w' ⟨rfl, hB⟩
    unfold RDid
    rw [hgo]
    have h' := (h.below hB).more (Nat.le_succ M)
    refine ⟨_, none, 0, 0, rfl, by omega, Rd.nil _ _, ?_, hB⟩
    refine RSt.mono (K := K) { h' with fz := ?_, efuse := rfl } (fun _ hx => .inl hx)
    show _ ≤ (if a < 0 then -1 else a) ∧ (if a < 0 then -1 else a) ≤ _
    by_cases h0 : a < 0
    · rw [if_pos h0]; decide
    · rw [if_neg h0]; exact az
  by_cases h4 : dd = 4
  · subst h4
    have hgo : r.go ⟨4, a, bA, bn, bc, b, fA, fn, fc, fs⟩ = (⟨crashL r.safe r.wait (fun n => fs.getD n (0, 0)), [], -1, false, r.rd, r.wr⟩, [], 0) := by unfold Rs.go; simp only [if_neg (show ¬ (4 : Int) = 3 by decide), if_true]; rfl
    refine (Go_crash d a bA bn bc fA fn fc w K fs rf hfn fz r.safe r.wait h.rows h.wait h.ins (by have := h.wn; omega) h.sn).mono ?_
    rintro e w' ⟨SA', sc', rfl, hR, hB⟩
    unfold RDid
    rw [hgo]
    have h' := (h.below hB).more (Nat.le_succ M)
    refine ⟨_, none, 0, 0, rfl, by omega, Rd.nil _ _, ⟨hR, ?_, fun x hx => absurd hx List.not_mem_nil, h.sn, Nat.zero_le _, h'.rd, h'.wr, show (-9223372036854775808 : Int) ≤ -1 ∧ (-1 : Int) ≤ 9223372036854775807 by decide, rfl, rfl, h.erd, h.ewr⟩, hB⟩
    exact ⟨[], rfl, ⟨rfl, fun h => absurd h (Nat.lt_irrefl 0)⟩, ⟨rfl, fun j hj => absurd hj (Nat.not_lt_zero j)⟩⟩
  by_cases hr : dd ≠ 2 ∧ (a < 0 ∨ (r.safe.length : Int) ≤ a)
  · have hgo : r.go ⟨dd, a, bA, bn, bc, b, fA, fn, fc, fs⟩ = (r, [], 2) := by unfold Rs.go; simp only [if_neg h3, if_neg h4, if_pos hr]
    rw [hlen] at hr
    refine (Go_range d dd a bA bn bc fA fn fc w ⟨h3, h4, hr.1⟩ hr.2).mono ?_
    rintro e w' ⟨rfl, hB⟩
    unfold RDid
    rw [hgo]
    exact ⟨_, none, 0, 0, rfl, by omega, Rd.nil _ _, ((h.below hB).more (Nat.le_succ M)).mono (fun _ hx => .inl hx), hB⟩
  have hra : dd = 2 ∨ (0 ≤ a ∧ a < (d.sn : Int)) := by
    by_cases h2 : dd = 2
    · exact .inl h2
    · refine .inr ?_
      have : ¬ (a < 0 ∨ (r.safe.length : Int) ≤ a) := fun e => hr ⟨h2, e⟩
      omega
  by_cases ho : r.off = true ∨ r.fuse = 0
  · have hgo : r.go ⟨dd, a, bA, bn, bc, b, fA, fn, fc, fs⟩ = ({ r with off := true }, [], 3) := by unfold Rs.go; simp only [if_neg h3, if_neg h4, if_neg hr, if_pos ho]
    refine (Go_off d dd a bA bn bc fA fn fc w ⟨h3, h4⟩ hra (by rw [h.eoff, h.efuse]; exact ho)).mono ?_
    rintro e w' ⟨rfl, hB⟩
    unfold RDid
    rw [hgo]
    have h' := (h.below hB).more (Nat.le_succ M)
    refine ⟨_, none, 0, 0, rfl, by omega, Rd.nil _ _, ?_, hB⟩
    exact RSt.mono (K := K) { h' with eoff := rfl } (fun _ hx => .inl hx)
  have hod : d.off = false ∧ d.fuse ≠ 0 := by
    rw [h.eoff, h.efuse]
    refine ⟨?_, fun e => ho (.inr e)⟩
    by_cases e : r.off = true
    · exact absurd (.inl e) ho
    · simpa using e
  have hfz2 : -9223372036854775808 ≤ (if 0 < d.fuse then d.fuse - 1 else d.fuse) ∧ (if 0 < d.fuse then d.fuse - 1 else d.fuse) ≤ 9223372036854775807 := by
    have := h.fz
    by_cases hp : 0 < d.fuse
    · rw [if_pos hp]; omega
    · rw [if_neg hp]; exact this
  have hef : (if 0 < d.fuse then d.fuse - 1 else d.fuse) = (if 0 < r.fuse then r.fuse - 1 else r.fuse) := by rw [h.efuse]
  by_cases h1 : dd = 1
  · subst h1
    obtain ⟨i, rfl⟩ : ∃ i : Nat, a = (i : Int) := ⟨a.toNat, by omega⟩
    have hi : i < d.sn := by omega
    have hgo : r.go ⟨1, i, bA, bn, bc, b, fA, fn, fc, fs⟩ = ({ r with fuse := if 0 < r.fuse then r.fuse - 1 else r.fuse, wr := r.wr + 1, wait := r.wait ++ [(i, cut 512 b)] }, [], 0) := by
      unfold Rs.go; simp only [if_neg h3, if_neg h4, if_neg hr, if_neg ho, if_true, Int.toNat_natCast]
    refine (Go_write d i bA bn bc fA fn fc w K i rfl hi hod h.fz (by have := h.wr; omega) b r.wait rb h.wait (by have := h.wn; omega) h.sn).mono ?_
    rintro e w' ⟨WA', wc', rfl, hW, hB⟩
    unfold RDid
    rw [hgo]
    have h' := (h.below hB).more (Nat.le_succ M)
    refine ⟨_, none, 0, 0, rfl, by omega, Rd.nil _ _, ⟨h'.rows.mono (fun _ hx => .inl hx), hW, fun x hx => ?_, h.sn, by have := h.wn; simp only; omega, h'.rd, by have := h.wr; simp only; omega, hfz2, hef, h.eoff, h.erd, by simp only; rw [h.ewr]⟩, hB⟩
    rcases List.mem_append.1 hx with hx | hx
    · exact h.ins x hx
    · rw [List.mem_singleton.1 hx]; exact hi
  by_cases h2 : dd = 2
  · subst h2
    have hgo : r.go ⟨2, a, bA, bn, bc, b, fA, fn, fc, fs⟩ = ({ r with fuse := if 0 < r.fuse then r.fuse - 1 else r.fuse, safe := syncL r.safe r.wait, wait := [] }, [], 0) := by
      unfold Rs.go; simp only [if_neg h3, if_neg h4, if_neg hr, if_neg ho, if_neg h1, if_true]
    refine (Go_sync d a bA bn bc fA fn fc w K hod h.fz r.safe r.wait h.rows h.wait h.ins (by have := h.wn; omega) h.sn).mono ?_
    rintro e w' ⟨SA', sc', rfl, hR, hB⟩
    unfold RDid
    rw [hgo]
    have h' := (h.below hB).more (Nat.le_succ M)
    refine ⟨_, none, 0, 0, rfl, by omega, Rd.nil _ _, ⟨hR, ?_, fun x hx => absurd hx List.not_mem_nil, h.sn, Nat.zero_le _, h'.rd, h'.wr, hfz2, hef, h.eoff, h.erd, h.ewr⟩, hB⟩
    exact ⟨[], rfl, ⟨rfl, fun h => absurd h (Nat.lt_irrefl 0)⟩, ⟨rfl, fun j hj => absurd hj (Nat.not_lt_zero j)⟩⟩
  · obtain ⟨i, rfl⟩ : ∃ i : Nat, a = (i : Int) := ⟨a.toNat, by omega⟩
    have hi : i < d.sn := by omega
    have hgo : r.go ⟨dd, i, bA, bn, bc, b, fA, fn, fc, fs⟩ = ({ r with fuse := if 0 < r.fuse then r.fuse - 1 else r.fuse, rd := r.rd + 1 }, lastR r.safe r.wait i, 0) := by
      unfold Rs.go; simp only [if_neg h3, if_neg h4, if_neg hr, if_neg ho, if_neg h1, if_neg h2, Int.toNat_natCast]
    refine (Go_read d dd i bA bn bc fA fn fc w ⟨h3, h4, h2, h1⟩ i rfl hi hod h.fz (by have := h.rd; omega) r.safe r.wait h.rows.rows h.wait.wait (by have := h.wn; omega) h.sn).mono ?_
    rintro e w' ⟨b2, o2, c2, rfl, _, _, hr2, hB⟩
    unfold RDid
    rw [hgo]
    have h' := (h.below hB).more (Nat.le_succ M)
    refine ⟨_, some ⟨b2, o2, none⟩, 512, c2, rfl, by omega, hr2, ⟨h'.rows.mono (fun _ hx => .inl hx), h'.wait.mono (fun _ hx => .inl hx), h.ins, h.sn, h'.wn, by have := h.rd; simp only; omega, h'.wr, hfz2, hef, h.eoff, by simp only; rw [h.erd], h.ewr⟩, hB⟩
end
end Go.Proofs.Ytieknelmfjkbhaa
