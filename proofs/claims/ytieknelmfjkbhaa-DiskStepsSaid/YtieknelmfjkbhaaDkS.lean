/- One step of a script: do; and Much. -/
import Derived.Test.YtieknelmfjkbhaaDk7
namespace Go.Proofs.Ytieknelmfjkbhaa
open Go.RowKit Go.Maps

/-- One step of a script, as it lies in memory. -/
structure Stp where
  d : Int
  a : Int
  bA : Option Addr
  bn : Nat
  bc : Nat
  b : List UInt8
  fA : Option Addr
  fn : Nat
  fc : Nat
  fs : List (Int × Int)

def Stp.val (x : Stp) : Value := .agg #[.int .i64 x.d, .int .i64 x.a, .slice x.bA x.bn x.bc, .slice x.fA x.fn x.fc]
def Stp.ft (x : Stp) : Nat → Int × Int := fun n => x.fs.getD n (0, 0)
/-- What a step makes of a device; what it reads; its code. -/
def St.go (s : St) (x : Stp) : St × (List UInt8 × Int) :=
  if x.d = 1 then
    if 0 ≤ x.a ∧ x.a < s.k then (if s.ok then ({ s.burn with wr := s.wr + 1 }.push x.a.toNat (cut 512 x.b), [], 0) else (s.burn, [], 3)) else (s, [], 2)
  else if x.d = 2 then (if s.ok then (s.burn.sync, [], 0) else (s.burn, [], 3))
  else if x.d = 3 then ({ s with fuse := x.a }, [], 0)
  else if x.d = 4 then (s.crash x.ft, [], 0)
  else if 0 ≤ x.a ∧ x.a < s.k then (if s.ok then ({ s.burn with rd := s.rd + 1 }, s.last x.a.toNat, 0) else (s.burn, [], 3)) else (s, [], 2)

/-- What is known of a step's own memory. -/
structure SOk (w : World) (x : Stp) : Prop where
  rb : Rd w x.bA x.bn x.b
  rf : FRd w x.fA x.fn x.fs
  az : -9223372036854775808 ≤ x.a ∧ x.a ≤ 9223372036854775807
  fz : ∀ y ∈ x.fs, -9223372036854775808 ≤ y.2 ∧ y.2 ≤ 9223372036854775807

section
variable {w w' : World} {own : Nat → Prop} {N p m : Nat} {sv : Value} {f : Nat → Value} {s : St}

theorem Goes.of (dom : ∀ y, own y → y < w.heap.size) {sv' : Value} {m' : Nat} {f' : Nat → Value} (hf : Fr own w w') (h : DAt w' own N p m' sv' f' s) {N' : Nat} (hN : N ≤ N') (hN' : N' ≤ 1000000) : Goes w own N' p s w' :=
  ⟨hf, own, fun _ hx => .inl hx, fun y hy => Nat.lt_of_lt_of_le (dom y hy) hf.size, m', sv', f', h.mono hN hN'⟩
theorem Goes.pre {w0 : World} {own : Nat → Prop} (hb : Below w0.heap.size w0 w) (h : Goes w own N p s w') : Goes w0 own N p s w' := by
  obtain ⟨hf, own', h1, h2⟩ := h
  exact ⟨(Fr.ofBelow own hb).trans hf, own', fun y hy => (h1 y hy).imp id (fun h => Nat.le_trans hb.size h), h2⟩

/-- What a step of a script leaves. -/
def Did (w : World) (own : Nat → Prop) (N p : Nat) (s : St) (x : Stp) (e : Ending) (w' : World) : Prop :=
  ∃ A n c, e = .returned (.tuple #[.slice A n c, .int .i64 (s.go x).2.2]) ∧ n ≤ 512 ∧ Rd w' A n (s.go x).2.1 ∧ Goes w own (N + 2) p (s.go x).1 w'

theorem do_write (dom : ∀ x, own x → x < w.heap.size) (h : DAt w own N p m sv f s) (hN : N + 2 ≤ 1000000) (x : Stp) (hx : SOk w x) (h1 : x.d = 1) (hA : ∀ b o, x.bA = some ⟨b, o, none⟩ → 0 < x.bn → ¬ own b) :
    Calls Try.prog 10 #[.pointer (some ⟨p, 0, none⟩), x.val] w (Did w own N p s x) := by
  obtain ⟨d, a, bA, bn, bc, b, fA, fn, fc, fs⟩ := x
  obtain ⟨rb, rf, az, _⟩ := hx
  simp only at rb rf az h1 hA
  simp only [Stp.val]
  subst h1
  obtain ⟨w1, hw1⟩ : ∃ w1, w1 = w.alloc (.cells #[.int .i64 1, .int .i64 a, .slice bA bn bc, .slice fA fn fc] 37) := ⟨_, rfl⟩
  have hB1 : Below w.heap.size w w1 := by rw [hw1]; exact (Below.refl _ _).alloc (Nat.le_refl _) _
  have q0 : w1.cell? ⟨w.heap.size, 0, none⟩ = some (.int .i64 1) := by rw [hw1]; simp
  have q1 : w1.cell? ⟨w.heap.size, 1, none⟩ = some (.int .i64 a) := by rw [hw1]; simp
  have q2 : w1.cell? ⟨w.heap.size, 2, none⟩ = some (.slice bA bn bc) := by rw [hw1]; simp
  have q3 : w1.cell? ⟨w.heap.size, 3, none⟩ = some (.slice fA fn fc) := by rw [hw1]; simp
  have D1 := h.below hB1
  have hlt1 : ∀ x, own x → x < w1.heap.size := fun x hx => by have := dom x hx; have := hB1.size; omega
  have HB1 := Lib.hid hB1
  have DOM := Lib.hid dom
  have HP := Lib.hid h.ownp
  by_cases hv : 0 ≤ a ∧ a < s.k
  · obtain ⟨i, rfl⟩ : ∃ i : Nat, a = (i : Int) := ⟨a.toNat, by omega⟩
    have hi : i < s.k := by omega
    cases hok : s.ok
    · have hgo : s.go ⟨1, i, bA, bn, bc, b, fA, fn, fc, fs⟩ = (s.burn, [], 3) := by unfold St.go; rw [if_pos rfl, if_pos hv, hok]; rfl
      have cW := Write_off D1 i hi hok bA bn bc
      have CW := Lib.hid cW
      have HGO := Lib.hid hgo
      have HD1 := Lib.hid D1
      clear h hB1 cW D1 hlt1 rb rf hgo dom hA hv hok az
      unfold Did
      rw [HGO.out]
      go_enter Try.func10, Try.ntmps10
      go_wp2_with (first
        | (rw [← hw1]; clear hw1)
        | (go_at_call 29; refine CW.out.mono ?_; rintro e w2 ⟨rfl, hF2, D2⟩)
        | (go_at_call 23; refine (dcode_any _ _).mono ?_; rintro e w' ⟨rfl, rfl⟩))
      go_ret2
      exact ⟨none, 0, 0, rfl, by omega, Rd.nil _ _, Goes.of DOM.out ((Fr.ofBelow own HB1.out).trans (hF2.mono (fun x hx => by rw [show x = p from hx]; exact HP.out))) D2 (by omega) hN⟩
    · have hgo : s.go ⟨1, i, bA, bn, bc, b, fA, fn, fc, fs⟩ = ({ s.burn with wr := s.wr + 1 }.push i (cut 512 b), [], 0) := by unfold St.go; rw [if_pos rfl, if_pos hv, hok]; rfl
      have cW := Write_ok hlt1 D1 i hi hok hN bA bn bc b (rb.below (Nat.le_refl _) hB1) hA
      have CW := Lib.hid cW
      have HGO := Lib.hid hgo
      have HD1 := Lib.hid D1
      clear h hB1 cW D1 hlt1 rb rf hgo dom hA hv hok az
      unfold Did
      rw [HGO.out]
      go_enter Try.func10, Try.ntmps10
      go_wp2_with (first
        | (rw [← hw1]; clear hw1)
        | (go_at_call 29; refine CW.out.mono ?_; rintro e w2 ⟨rfl, hG⟩)
        | (go_at_call 23; refine (dcode_any _ _).mono ?_; rintro e w' ⟨rfl, rfl⟩))
      go_ret2
      exact ⟨none, 0, 0, rfl, by omega, Rd.nil _ _, hG.pre HB1.out⟩
  · have hgo : s.go ⟨1, a, bA, bn, bc, b, fA, fn, fc, fs⟩ = (s, [], 2) := by unfold St.go; rw [if_pos rfl, if_neg hv]
    have cW := Write_no D1 a (by omega) bA bn bc
    have CW := Lib.hid cW
    have HGO := Lib.hid hgo
    have HD1 := Lib.hid D1
    clear h hB1 cW D1 hlt1 rb rf hgo dom hA hv az
    unfold Did
    rw [HGO.out]
    go_enter Try.func10, Try.ntmps10
    go_wp2_with (first
      | (rw [← hw1]; clear hw1)
      | (go_at_call 29; refine CW.out.mono ?_; rintro e w2 ⟨rfl, rfl⟩)
      | (go_at_call 23; refine (dcode_any _ _).mono ?_; rintro e w' ⟨rfl, rfl⟩))
    go_ret2
    exact ⟨none, 0, 0, rfl, by omega, Rd.nil _ _, Goes.of DOM.out (Fr.ofBelow own HB1.out) HD1.out (by omega) hN⟩

theorem do_sync (dom : ∀ x, own x → x < w.heap.size) (h : DAt w own N p m sv f s) (hN : N + 2 ≤ 1000000) (x : Stp) (hx : SOk w x) (h1 : x.d = 2) :
    Calls Try.prog 10 #[.pointer (some ⟨p, 0, none⟩), x.val] w (Did w own N p s x) := by
  obtain ⟨d, a, bA, bn, bc, b, fA, fn, fc, fs⟩ := x
  obtain ⟨rb, rf, az, _⟩ := hx
  simp only at rb rf az h1
  simp only [Stp.val]
  subst h1
  obtain ⟨w1, hw1⟩ : ∃ w1, w1 = w.alloc (.cells #[.int .i64 2, .int .i64 a, .slice bA bn bc, .slice fA fn fc] 37) := ⟨_, rfl⟩
  have hB1 : Below w.heap.size w w1 := by rw [hw1]; exact (Below.refl _ _).alloc (Nat.le_refl _) _
  have q0 : w1.cell? ⟨w.heap.size, 0, none⟩ = some (.int .i64 2) := by rw [hw1]; simp
  have q1 : w1.cell? ⟨w.heap.size, 1, none⟩ = some (.int .i64 a) := by rw [hw1]; simp
  have q2 : w1.cell? ⟨w.heap.size, 2, none⟩ = some (.slice bA bn bc) := by rw [hw1]; simp
  have q3 : w1.cell? ⟨w.heap.size, 3, none⟩ = some (.slice fA fn fc) := by rw [hw1]; simp
  have D1 := h.below hB1
  have hlt1 : ∀ x, own x → x < w1.heap.size := fun x hx => by have := dom x hx; have := hB1.size; omega
  have HB1 := Lib.hid hB1
  have DOM := Lib.hid dom
  have HP := Lib.hid h.ownp
  cases hok : s.ok
  · have hgo : s.go ⟨2, a, bA, bn, bc, b, fA, fn, fc, fs⟩ = (s.burn, [], 3) := by unfold St.go; rw [if_neg (show ¬ (2 : Int) = 1 by decide), if_pos rfl, hok]; rfl
    have cW := Sync_off D1 hok
    have CW := Lib.hid cW
    have HGO := Lib.hid hgo
    have HD1 := Lib.hid D1
    clear h hB1 cW D1 hlt1 rb rf hgo dom hok az
    unfold Did
    rw [HGO.out]
    go_enter Try.func10, Try.ntmps10
    go_wp2_with (first
      | (rw [← hw1]; clear hw1)
      | (go_at_call 24; refine CW.out.mono ?_; rintro e w2 ⟨rfl, hF2, D2⟩)
      | (go_at_call 23; refine (dcode_any _ _).mono ?_; rintro e w' ⟨rfl, rfl⟩))
    go_ret2
    exact ⟨none, 0, 0, rfl, by omega, Rd.nil _ _, Goes.of DOM.out ((Fr.ofBelow own HB1.out).trans hF2) D2 (by omega) hN⟩
  · have hgo : s.go ⟨2, a, bA, bn, bc, b, fA, fn, fc, fs⟩ = (s.burn.sync, [], 0) := by unfold St.go; rw [if_neg (show ¬ (2 : Int) = 1 by decide), if_pos rfl, hok]; rfl
    have cW := Sync_ok hlt1 D1 hok
    have CW := Lib.hid cW
    have HGO := Lib.hid hgo
    have HD1 := Lib.hid D1
    clear h hB1 cW D1 hlt1 rb rf hgo dom hok az
    unfold Did
    rw [HGO.out]
    go_enter Try.func10, Try.ntmps10
    go_wp2_with (first
      | (rw [← hw1]; clear hw1)
      | (go_at_call 24; refine CW.out.mono ?_; rintro e w2 ⟨rfl, hF2, D2⟩)
      | (go_at_call 23; refine (dcode_any _ _).mono ?_; rintro e w' ⟨rfl, rfl⟩))
    go_ret2
    exact ⟨none, 0, 0, rfl, by omega, Rd.nil _ _, Goes.of DOM.out ((Fr.ofBelow own HB1.out).trans hF2) D2 (by omega) hN⟩

theorem do_fuse (dom : ∀ x, own x → x < w.heap.size) (h : DAt w own N p m sv f s) (hN : N + 2 ≤ 1000000) (x : Stp) (hx : SOk w x) (h1 : x.d = 3) :
    Calls Try.prog 10 #[.pointer (some ⟨p, 0, none⟩), x.val] w (Did w own N p s x) := by
  obtain ⟨d, a, bA, bn, bc, b, fA, fn, fc, fs⟩ := x
  obtain ⟨rb, rf, az, _⟩ := hx
  simp only at rb rf az h1
  simp only [Stp.val]
  subst h1
  obtain ⟨w1, hw1⟩ : ∃ w1, w1 = w.alloc (.cells #[.int .i64 3, .int .i64 a, .slice bA bn bc, .slice fA fn fc] 37) := ⟨_, rfl⟩
  have hB1 : Below w.heap.size w w1 := by rw [hw1]; exact (Below.refl _ _).alloc (Nat.le_refl _) _
  have q0 : w1.cell? ⟨w.heap.size, 0, none⟩ = some (.int .i64 3) := by rw [hw1]; simp
  have q1 : w1.cell? ⟨w.heap.size, 1, none⟩ = some (.int .i64 a) := by rw [hw1]; simp
  have q2 : w1.cell? ⟨w.heap.size, 2, none⟩ = some (.slice bA bn bc) := by rw [hw1]; simp
  have q3 : w1.cell? ⟨w.heap.size, 3, none⟩ = some (.slice fA fn fc) := by rw [hw1]; simp
  have D1 := h.below hB1
  have hlt1 : ∀ x, own x → x < w1.heap.size := fun x hx => by have := dom x hx; have := hB1.size; omega
  have HB1 := Lib.hid hB1
  have DOM := Lib.hid dom
  have HP := Lib.hid h.ownp
  have hgo : s.go ⟨3, a, bA, bn, bc, b, fA, fn, fc, fs⟩ = ({ s with fuse := a }, [], 0) := by unfold St.go; rw [if_neg (show ¬ (3 : Int) = 1 by decide), if_neg (show ¬ (3 : Int) = 2 by decide), if_pos rfl]
  have cW := Fuse_any D1 a az
  have CW := Lib.hid cW
  have HGO := Lib.hid hgo
  have HD1 := Lib.hid D1
  clear h hB1 cW D1 hlt1 rb rf hgo dom az
  unfold Did
  rw [HGO.out]
  go_enter Try.func10, Try.ntmps10
  go_wp2_with (first
    | (rw [← hw1]; clear hw1)
    | (go_at_call 28; refine CW.out.mono ?_; rintro e w2 ⟨rfl, hF2, D2⟩)
    | (go_at_call 23; refine (dcode_any _ _).mono ?_; rintro e w' ⟨rfl, rfl⟩))
  go_ret2
  exact ⟨none, 0, 0, rfl, by omega, Rd.nil _ _, Goes.of DOM.out ((Fr.ofBelow own HB1.out).trans (hF2.mono (fun x hx => by rw [show x = p from hx]; exact HP.out))) D2 (by omega) hN⟩

theorem do_crash (dom : ∀ x, own x → x < w.heap.size) (h : DAt w own N p m sv f s) (hN : N + 2 ≤ 1000000) (x : Stp) (hx : SOk w x) (h1 : x.d = 4) (hA : ∀ b o, x.fA = some ⟨b, o, none⟩ → 0 < x.fn → ¬ own b) (hfn : x.fn ≤ 1000000) :
    Calls Try.prog 10 #[.pointer (some ⟨p, 0, none⟩), x.val] w (Did w own N p s x) := by
  obtain ⟨d, a, bA, bn, bc, b, fA, fn, fc, fs⟩ := x
  obtain ⟨rb, rf, az, _⟩ := hx
  simp only at rb rf az h1 hA hfn
  simp only [Stp.val]
  subst h1
  obtain ⟨w1, hw1⟩ : ∃ w1, w1 = w.alloc (.cells #[.int .i64 4, .int .i64 a, .slice bA bn bc, .slice fA fn fc] 37) := ⟨_, rfl⟩
  have hB1 : Below w.heap.size w w1 := by rw [hw1]; exact (Below.refl _ _).alloc (Nat.le_refl _) _
  have q0 : w1.cell? ⟨w.heap.size, 0, none⟩ = some (.int .i64 4) := by rw [hw1]; simp
  have q1 : w1.cell? ⟨w.heap.size, 1, none⟩ = some (.int .i64 a) := by rw [hw1]; simp
  have q2 : w1.cell? ⟨w.heap.size, 2, none⟩ = some (.slice bA bn bc) := by rw [hw1]; simp
  have q3 : w1.cell? ⟨w.heap.size, 3, none⟩ = some (.slice fA fn fc) := by rw [hw1]; simp
  have D1 := h.below hB1
  have hlt1 : ∀ x, own x → x < w1.heap.size := fun x hx => by have := dom x hx; have := hB1.size; omega
  have HB1 := Lib.hid hB1
  have DOM := Lib.hid dom
  have HP := Lib.hid h.ownp
  have hgo : s.go ⟨4, a, bA, bn, bc, b, fA, fn, fc, fs⟩ = (s.crash (fun n => fs.getD n (0, 0)), [], 0) := by unfold St.go; rw [if_neg (show ¬ (4 : Int) = 1 by decide), if_neg (show ¬ (4 : Int) = 2 by decide), if_neg (show ¬ (4 : Int) = 3 by decide), if_pos rfl]; rfl
  have cW := Crash_any hlt1 D1 fA fn fc fs (rf.fr (Fr.ofBelow (fun _ => False) hB1) (fun _ _ _ _ h => h)) hA hfn
  have CW := Lib.hid cW
  have HGO := Lib.hid hgo
  have HD1 := Lib.hid D1
  clear h hB1 cW D1 hlt1 rb rf hgo dom hA az hfn
  unfold Did
  rw [HGO.out]
  go_enter Try.func10, Try.ntmps10
  go_wp2_with (first
    | (rw [← hw1]; clear hw1)
    | (go_at_call 22; refine CW.out.mono ?_; rintro e w2 ⟨rfl, hF2, D2⟩)
    | (go_at_call 23; refine (dcode_any _ _).mono ?_; rintro e w' ⟨rfl, rfl⟩))
  go_ret2
  exact ⟨none, 0, 0, rfl, by omega, Rd.nil _ _, Goes.of DOM.out ((Fr.ofBelow own HB1.out).trans hF2) D2 (by omega) hN⟩

theorem do_read (dom : ∀ x, own x → x < w.heap.size) (h : DAt w own N p m sv f s) (hN : N + 2 ≤ 1000000) (x : Stp) (hx : SOk w x) (h1 : x.d ≠ 1) (h2 : x.d ≠ 2) (h3 : x.d ≠ 3) (h4 : x.d ≠ 4) :
    Calls Try.prog 10 #[.pointer (some ⟨p, 0, none⟩), x.val] w (Did w own N p s x) := by
  obtain ⟨d, a, bA, bn, bc, b, fA, fn, fc, fs⟩ := x
  obtain ⟨rb, rf, az, _⟩ := hx
  simp only at rb rf az h1 h2 h3 h4
  simp only [Stp.val]
  obtain ⟨w1, hw1⟩ : ∃ w1, w1 = w.alloc (.cells #[.int .i64 d, .int .i64 a, .slice bA bn bc, .slice fA fn fc] 37) := ⟨_, rfl⟩
  have hB1 : Below w.heap.size w w1 := by rw [hw1]; exact (Below.refl _ _).alloc (Nat.le_refl _) _
  have q0 : w1.cell? ⟨w.heap.size, 0, none⟩ = some (.int .i64 d) := by rw [hw1]; simp
  have q1 : w1.cell? ⟨w.heap.size, 1, none⟩ = some (.int .i64 a) := by rw [hw1]; simp
  have q2 : w1.cell? ⟨w.heap.size, 2, none⟩ = some (.slice bA bn bc) := by rw [hw1]; simp
  have q3 : w1.cell? ⟨w.heap.size, 3, none⟩ = some (.slice fA fn fc) := by rw [hw1]; simp
  have D1 := h.below hB1
  have hlt1 : ∀ x, own x → x < w1.heap.size := fun x hx => by have := dom x hx; have := hB1.size; omega
  have HB1 := Lib.hid hB1
  have DOM := Lib.hid dom
  have HP := Lib.hid h.ownp
  by_cases hv : 0 ≤ a ∧ a < s.k
  · obtain ⟨i, rfl⟩ : ∃ i : Nat, a = (i : Int) := ⟨a.toNat, by omega⟩
    have hi : i < s.k := by omega
    cases hok : s.ok
    · have hgo : s.go ⟨d, i, bA, bn, bc, b, fA, fn, fc, fs⟩ = (s.burn, [], 3) := by unfold St.go; rw [if_neg h1, if_neg h2, if_neg h3, if_neg h4, if_pos hv, hok]; rfl
      have cW := Read_off D1 i hi hok
      have CW := Lib.hid cW
      have HGO := Lib.hid hgo
      have HD1 := Lib.hid D1
      clear h hB1 cW D1 hlt1 rb rf hgo dom hv hok az
      unfold Did
      rw [HGO.out]
      go_enter Try.func10, Try.ntmps10
      go_wp2_with (first
        | (rw [← hw1]; clear hw1)
        | (go_at_call 27; refine CW.out.mono ?_; rintro e w2 ⟨rfl, hF2, D2⟩)
        | (go_at_call 23; refine (dcode_any _ _).mono ?_; rintro e w' ⟨rfl, rfl⟩))
      go_ret2
      exact ⟨none, 0, 0, rfl, by omega, Rd.nil _ _, Goes.of DOM.out ((Fr.ofBelow own HB1.out).trans (hF2.mono (fun x hx => by rw [show x = p from hx]; exact HP.out))) D2 (by omega) hN⟩
    · have hgo : s.go ⟨d, i, bA, bn, bc, b, fA, fn, fc, fs⟩ = ({ s.burn with rd := s.rd + 1 }, s.last i, 0) := by unfold St.go; rw [if_neg h1, if_neg h2, if_neg h3, if_neg h4, if_pos hv, hok]; rfl
      have cW := Read_ok D1 i hi hok (by omega)
      have CW := Lib.hid cW
      have HGO := Lib.hid hgo
      have HD1 := Lib.hid D1
      clear h hB1 cW D1 hlt1 rb rf hgo dom hv hok az
      unfold Did
      rw [HGO.out]
      go_enter Try.func10, Try.ntmps10
      go_wp2_with (first
        | (rw [← hw1]; clear hw1)
        | (go_at_call 27; refine CW.out.mono ?_; rintro e w2 ⟨A2, c2, rfl, hc2, hcm2, hr2, _, hF2, D2⟩)
        | (go_at_call 23; refine (dcode_any _ _).mono ?_; rintro e w' ⟨rfl, rfl⟩))
      go_ret2
      exact ⟨A2, 512, c2, rfl, by omega, hr2, Goes.of DOM.out ((Fr.ofBelow own HB1.out).trans (hF2.mono (fun x hx => by rw [show x = p from hx]; exact HP.out))) D2 (by omega) hN⟩
  · have hgo : s.go ⟨d, a, bA, bn, bc, b, fA, fn, fc, fs⟩ = (s, [], 2) := by unfold St.go; rw [if_neg h1, if_neg h2, if_neg h3, if_neg h4, if_neg hv]
    have cW := Read_no D1 a (by omega)
    have CW := Lib.hid cW
    have HGO := Lib.hid hgo
    have HD1 := Lib.hid D1
    clear h hB1 cW D1 hlt1 rb rf hgo dom hv az
    unfold Did
    rw [HGO.out]
    go_enter Try.func10, Try.ntmps10
    go_wp2_with (first
      | (rw [← hw1]; clear hw1)
      | (go_at_call 27; refine CW.out.mono ?_; rintro e w2 ⟨rfl, rfl⟩)
      | (go_at_call 23; refine (dcode_any _ _).mono ?_; rintro e w' ⟨rfl, rfl⟩))
    go_ret2
    exact ⟨none, 0, 0, rfl, by omega, Rd.nil _ _, Goes.of DOM.out (Fr.ofBelow own HB1.out) HD1.out (by omega) hN⟩

theorem do_any (dom : ∀ x, own x → x < w.heap.size) (h : DAt w own N p m sv f s) (hN : N + 2 ≤ 1000000) (x : Stp) (hx : SOk w x) (hA : ∀ b o, x.bA = some ⟨b, o, none⟩ → 0 < x.bn → ¬ own b) (hF : ∀ b o, x.fA = some ⟨b, o, none⟩ → 0 < x.fn → ¬ own b) (hfn : x.fn ≤ 1000000) :
    Calls Try.prog 10 #[.pointer (some ⟨p, 0, none⟩), x.val] w (Did w own N p s x) := by
  by_cases h1 : x.d = 1
  · exact do_write dom h hN x hx h1 hA
  by_cases h2 : x.d = 2
  · exact do_sync dom h hN x hx h2
  by_cases h3 : x.d = 3
  · exact do_fuse dom h hN x hx h3
  by_cases h4 : x.d = 4
  · exact do_crash dom h hN x hx h4 hF hfn
  exact do_read dom h hN x hx h1 h2 h3 h4
end

/-- A slice of steps. -/
def SRd (w : World) (A : Option Addr) (n : Nat) (st : List Stp) : Prop :=
  st.length = n ∧ (0 < n → ∃ b o, A = some ⟨b, o, none⟩ ∧ b < w.heap.size ∧ ∀ j (h : j < st.length), w.cell? ⟨b, o + j * 4, none⟩ = some (.int .i64 st[j].d) ∧ w.cell? ⟨b, o + j * 4 + 1, none⟩ = some (.int .i64 st[j].a) ∧
    w.cell? ⟨b, o + j * 4 + 2, none⟩ = some (.slice st[j].bA st[j].bn st[j].bc) ∧ w.cell? ⟨b, o + j * 4 + 3, none⟩ = some (.slice st[j].fA st[j].fn st[j].fc)) ∧ ∀ x ∈ st, SOk w x

theorem FRd.below {w w' : World} {A : Option Addr} {n : Nat} {fs : List (Int × Int)} (h : FRd w A n fs) (hb : Below w.heap.size w w') : FRd w' A n fs := h.fr (Fr.ofBelow (fun _ => False) hb) (fun _ _ _ _ hx => hx)
theorem SOk.below {w w' : World} {x : Stp} (h : SOk w x) (hb : Below w.heap.size w w') : SOk w' x := ⟨h.rb.below (Nat.le_refl _) hb, h.rf.below hb, h.az, h.fz⟩
theorem SRd.below {w w' : World} {A : Option Addr} {n : Nat} {st : List Stp} (h : SRd w A n st) (hb : Below w.heap.size w w') : SRd w' A n st := by
  refine ⟨h.1, fun hp => ?_, fun x hx => (h.2.2 x hx).below hb⟩
  obtain ⟨b, o, e, hlt, hc⟩ := h.2.1 hp
  refine ⟨b, o, e, by have := hb.size; omega, fun j hj => ?_⟩
  obtain ⟨h0, h1, h2, h3⟩ := hc j hj
  exact ⟨(hb.cell (p := ⟨b, o + j * 4, none⟩) hlt).trans h0, (hb.cell (p := ⟨b, o + j * 4 + 1, none⟩) hlt).trans h1, (hb.cell (p := ⟨b, o + j * 4 + 2, none⟩) hlt).trans h2, (hb.cell (p := ⟨b, o + j * 4 + 3, none⟩) hlt).trans h3⟩

def Small (n : Nat) (st : List Stp) : Prop := n ≤ 60 ∧ ∀ x ∈ st, x.bn ≤ 600 ∧ x.fn ≤ 100
def MuchSaid (n : Nat) (st : List Stp) (w : World) (e : Ending) (w' : World) : Prop := w = w' ∧ ∃ r, e = .returned (.bool r) ∧ (r = false → Small n st)

theorem Much_any (w : World) (A : Option Addr) (n c : Nat) (st : List Stp) (h : SRd w A n st) (hn : (n : Int) ≤ 9223372036854775807) :
    Calls Try.prog 6 #[.slice A n c] w (MuchSaid n st w) := by
  have hl := h.1
  have HL := Lib.hid hl
  have HC := Lib.hid h.2.1
  clear hl h
  go_enter Try.func6, Try.ntmps6
  go_wp2
  go_loop [3] (fun i => ∃ k : Nat, k ≤ n ∧ i = .int .i64 k ∧ ∀ j (hj : j < st.length), j < k → st[j].bn ≤ 600 ∧ st[j].fn ≤ 100) (fun i => n - (intOf i).toNat)
  case atStart => exact ⟨0, Nat.zero_le _, rfl, fun j _ hj => absurd hj (Nat.not_lt_zero j)⟩
  case round =>
    obtain ⟨k, hk, rfl, hall⟩ := hrel
    have HALL := Lib.hid hall
    clear hall
    by_cases hlt : k < n
    · by_cases h100 : k < 100
      · obtain ⟨b, o, hA, _, hc⟩ := HC.out (by omega)
        obtain ⟨_, _, h2, h3⟩ := hc k (by rw [HL.out]; exact hlt)
        subst hA
        clear hc
        obtain ⟨y, hy⟩ : ∃ y, y = st[k]'(by rw [HL.out]; exact hlt) := ⟨_, rfl⟩
        rw [← hy] at h2 h3
        have HY := Lib.hid hy
        clear hy
        by_cases hb : 600 < y.bn
        · go_wp2
          go_ret
          exact ⟨rfl, true, rfl, fun e => by cases e⟩
        · by_cases hf : 100 < y.fn
          · go_wp2
            go_ret
            exact ⟨rfl, true, rfl, fun e => by cases e⟩
          · go_wp2
            go_round
            case rel => exact ⟨k + 1, hlt, by go_num, fun j hj hjk => by
              by_cases e : j = k
              · subst e
                rw [← HY.out]
                exact ⟨by omega, by omega⟩
              · exact HALL.out j hj (by omega)⟩
            case measure => simp [intOf]; omega
      · go_wp2
        go_ret
        exact ⟨rfl, _, rfl, fun e => by simp at e; omega⟩
    · have hkn : k = n := by omega
      subst hkn
      go_wp2
      go_ret
      refine ⟨rfl, _, rfl, fun e => ⟨by have := of_decide_eq_false e; omega, fun x hx => ?_⟩⟩
      obtain ⟨j, hj, rfl⟩ := List.mem_iff_getElem.1 hx
      exact HALL.out j hj (by rw [HL.out] at hj; exact hj)
end Go.Proofs.Ytieknelmfjkbhaa
