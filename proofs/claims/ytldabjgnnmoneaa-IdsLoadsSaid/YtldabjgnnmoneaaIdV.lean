/- Names of the call's own, blocks of keep none of theirs; the law's live. -/
import Derived.Test.YtldabjgnnmoneaaIdF
import Derived.Test.YtldabjgnnmoneaaIdR1
namespace Go.Proofs.Ytldabjgnnmoneaa
open Go.RowKit

def Idv (w0 w : World) (p : Nat) (keep : Nat → Prop) (s : NS) : Prop :=
  ∃ own, Below w0.heap.size w0 w ∧ (∀ x, own x → w0.heap.size ≤ x) ∧ (∀ x, keep x → x < w.heap.size ∧ ¬ own x) ∧ IDv w own p s

section
variable {w0 w w' : World} {p : Nat} {keep keep' : Nat → Prop} {s s' : NS}

theorem Idv.under (h : Idv w0 w p keep s) : Below w0.heap.size w0 w := by obtain ⟨_, hb, _⟩ := h; exact hb
theorem Idv.ok (h : Idv w0 w p keep s) : s.Ok := by obtain ⟨_, _, _, _, _, _, _, _, I⟩ := h; exact I.ok
theorem Idv.less (h : Idv w0 w p keep s) (hk : ∀ x, keep' x → keep x) : Idv w0 w p keep' s := by
  obtain ⟨own, h1, h2, h3, h4⟩ := h
  exact ⟨own, h1, h2, fun x hx => h3 x (hk x hx), h4⟩
theorem Idv.more (h : Idv w0 w p keep s) (hb : Below w.heap.size w w') (more : Nat → Prop) (hm : ∀ x, more x → w.heap.size ≤ x ∧ x < w'.heap.size) : Idv w0 w' p (fun x => keep x ∨ more x) s := by
  obtain ⟨own, h1, h2, h3, hd, gv, av, fv, I⟩ := h
  refine ⟨own, h1.trans (hb.mono h1.size), h2, fun x hx => ?_, fun x hx => Nat.lt_of_lt_of_le (hd x hx) hb.size, gv, av, fv, I.below hb⟩
  rcases hx with hx | hx
  · exact ⟨Nat.lt_of_lt_of_le (h3 x hx).1 hb.size, (h3 x hx).2⟩
  · refine ⟨(hm x hx).2, fun ho => ?_⟩
    have := hd x ho
    have := (hm x hx).1
    omega
theorem Idv.below (h : Idv w0 w p keep s) (hb : Below w.heap.size w w') : Idv w0 w' p keep s := (h.more hb (fun _ => False) (fun _ hx => hx.elim)).less (fun _ hx => .inl hx)
theorem Idv.fr (h : Idv w0 w p keep s) {g : Nat} (hg : keep g) (h0 : w0.heap.size ≤ g) (hF : Fr (· = g) w w') : Idv w0 w' p keep s := by
  obtain ⟨own, h1, h2, h3, hd, gv, av, fv, I⟩ := h
  exact ⟨own, h1.trans (hF.toBelow (fun x hx => by rw [show x = g from hx]; exact h0) h1.size), h2, fun x hx => ⟨Nat.lt_of_lt_of_le (h3 x hx).1 hF.size, (h3 x hx).2⟩, fun x hx => Nat.lt_of_lt_of_le (hd x hx) hF.size, gv, av, fv, I.kept hF (fun x hx e => (h3 g hg).2 (by rw [← show x = g from e]; exact hx))⟩
theorem Idv.goes {own : Nat → Prop} (h1 : Below w0.heap.size w0 w) (h2 : ∀ x, own x → w0.heap.size ≤ x) (h3 : ∀ x, keep x → x < w.heap.size ∧ ¬ own x) (hG : IGoes w own p s' w') : Idv w0 w' p keep s' ∧ KStays keep w w' := by
  obtain ⟨hf, own', ho, hD⟩ := hG
  refine ⟨⟨own', h1.trans (hf.toBelow h2 h1.size), fun x hx => ?_, fun x hx => ⟨Nat.lt_of_lt_of_le (h3 x hx).1 hf.size, fun hx' => ?_⟩, hD⟩, hf.size, fun x hx => hf.block x (h3 x hx).1 (h3 x hx).2⟩
  · rcases ho x hx with h | h
    · exact h2 x h
    · have := h1.size; omega
  · rcases ho x hx' with h | h
    · exact (h3 x hx).2 h
    · have := (h3 x hx).1; omega
theorem KStays.less (h : KStays keep w w') (hk : ∀ x, keep' x → keep x) : KStays keep' w w' := ⟨h.1, fun x hx => h.2 x (hk x hx)⟩
theorem Idv.stays (h : Idv w0 w p keep s) (hb : Below w.heap.size w w') : KStays keep w w' := ⟨hb.size, fun x hx => by
  obtain ⟨own, _, _, h3, _⟩ := h
  exact hb.block x (h3 x hx).1⟩

theorem New_idv (entities gens : Int) (w : World) :
    Calls Try.prog 7 #[.int .i64 entities, .int .i64 gens] w fun e w' => ∃ p, e = .returned (.pointer (some ⟨p, 0, none⟩)) ∧ Idv w w' p (· < w.heap.size) (NS.new entities gens) := by
  refine (INew_any entities gens w).mono ?_
  rintro e w' ⟨he, hb, hlt, I⟩
  exact ⟨_, he, (· = w.heap.size), hb, fun x hx => by rw [show x = w.heap.size from hx]; exact Nat.le_refl _, fun x hx => ⟨Nat.lt_of_lt_of_le hx hb.size, fun e => by have e' : x = w.heap.size := e; omega⟩, fun x hx => by rw [show x = w.heap.size from hx]; exact hlt, _, _, _, I⟩
theorem Take_idv (h : Idv w0 w p keep s) :
    Calls Try.prog 16 #[.pointer (some ⟨p, 0, none⟩)] w fun e w' => e = .returned (.tuple #[idv s.take.2.1, .int .i64 s.take.2.2]) ∧ Idv w0 w' p keep s.take.1 ∧ KStays keep w w' := by
  obtain ⟨own, h1, h2, h3, hd, gv, av, fv, I⟩ := h
  exact (Take_any hd I).mono fun e w' ⟨he, hG⟩ => ⟨he, Idv.goes h1 h2 h3 hG⟩
theorem Give_idv (h : Idv w0 w p keep s) (i gen : Int) :
    Calls Try.prog 17 #[.pointer (some ⟨p, 0, none⟩), idv (i, gen)] w fun e w' => e = .returned (.int .i64 (s.give i gen).2) ∧ Idv w0 w' p keep (s.give i gen).1 ∧ KStays keep w w' := by
  obtain ⟨own, h1, h2, h3, hd, gv, av, fv, I⟩ := h
  exact (Give_any hd I i gen).mono fun e w' ⟨he, hG⟩ => ⟨he, Idv.goes h1 h2 h3 hG⟩
theorem do_idv (h : Idv w0 w p keep s) (x : Stg) :
    Calls Try.prog 9 #[.pointer (some ⟨p, 0, none⟩), x.val] w fun e w' => e = .returned (.tuple #[idv (s.go x).2.1, .int .i64 (s.go x).2.2]) ∧ Idv w0 w' p keep (s.go x).1 ∧ KStays keep w w' := by
  obtain ⟨own, h1, h2, h3, hd, gv, av, fv, I⟩ := h
  exact (do_any hd I x).mono fun e w' ⟨he, hG⟩ => ⟨he, Idv.goes h1 h2 h3 hG⟩
theorem Alive_idv (h : Idv w0 w p keep s) (i gen : Int) :
    Calls Try.prog 12 #[.pointer (some ⟨p, 0, none⟩), idv (i, gen)] w fun e w' => e = .returned (.bool (s.alive i gen)) ∧ Below w.heap.size w w' := by
  obtain ⟨own, h1, h2, h3, hd, gv, av, fv, I⟩ := h
  exact Alive_any I i gen
end

set_option maxRecDepth 10000 in
theorem live_any (w : World) : Calls Try.prog 6 #[] w fun e w' => e = .returned (.bool true) ∧ Below w.heap.size w w' := by
  have s0 : NS.new 5 5 = ⟨5, 5, [], []⟩ := rfl
  have t1 : (⟨5, 5, [], []⟩ : NS).take = (⟨5, 5, [0], []⟩, (0, 0), 0) := rfl
  have t2 : (⟨5, 5, [0], []⟩ : NS).take = (⟨5, 5, [0, 0], []⟩, (1, 0), 0) := rfl
  have t3 : (⟨5, 5, [0, 0], []⟩ : NS).give 0 0 = (⟨5, 5, [1, 0], [0]⟩, 0) := by
    rw [NS.give_yes (by decide)]
    rfl
  have t4 : (⟨5, 5, [1, 0], [0]⟩ : NS).take = (⟨5, 5, [1, 0], []⟩, (0, 1), 0) := by
    rw [NS.take_free (by decide)]
    rfl
  have CN := New_idv 5 5 w
  rw [s0] at CN
  have CN' := Lib.hid CN
  have HT := Lib.hid (And.intro t1 (And.intro t2 (And.intro t3 t4)))
  clear s0 t1 t2 t3 t4 CN
  go_enter Try.func6, Try.ntmps6
  go_wp2_with fail
  refine CN'.out.mono ?_
  rintro e w1 ⟨p, rfl, hD1⟩
  have C1 := Take_idv hD1
  rw [HT.out.1] at C1
  simp only [idv] at C1
  have C1' := Lib.hid C1
  clear C1 hD1
  go_wp2_with fail
  refine C1'.out.mono ?_
  rintro e w2 ⟨rfl, hD2, _⟩
  have C2 := Take_idv hD2
  rw [HT.out.2.1] at C2
  simp only [idv] at C2
  have C2' := Lib.hid C2
  clear C2 hD2
  go_wp2_with fail
  refine C2'.out.mono ?_
  rintro e w3 ⟨rfl, hD3, _⟩
  have C3 := Give_idv hD3 0 0
  rw [HT.out.2.2.1] at C3
  simp only [idv] at C3
  have C3' := Lib.hid C3
  clear C3 hD3
  go_wp2_with fail
  refine C3'.out.mono ?_
  rintro e w4 ⟨rfl, hD4, _⟩
  have C4 := Take_idv hD4
  rw [HT.out.2.2.2] at C4
  simp only [idv] at C4
  have C4' := Lib.hid C4
  clear C4 hD4
  go_wp2_with fail
  refine C4'.out.mono ?_
  rintro e w5 ⟨rfl, hD5, _⟩
  have HB5 := Lib.hid hD5.under
  clear hD5
  go_wp2_with (go_at_call 15; refine (code_any _ _).mono ?_; rintro e w' ⟨rfl, rfl⟩)
  go_ret
  exact ⟨rfl, HB5.out.alloc HB5.out.size _⟩
end Go.Proofs.Ytldabjgnnmoneaa
