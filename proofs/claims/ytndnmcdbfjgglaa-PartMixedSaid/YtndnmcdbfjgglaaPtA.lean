/- Slices of slices of bytes, each with its room; the contracts of within, head, own, Head, and of the document's Head. -/
import Derived.Test.YtndnmcdbfjgglaaPtM
import Derived.Test.YtndnmcdbfjgglaaGmN
import Derived.Test.YtndnmcdbfjgglaaLe5
import Derived.Test.YtndnmcdbfjgglaaGrow
namespace Go.Proofs.Ytndnmcdbfjgglaa
open Go.RowKit
set_option linter.unusedVariables false
set_option maxRecDepth 20000

/-- An element that is a slice of bytes, with its room. -/
def EPc (K : Nat → Prop) (w : World) (x : List UInt8) (r : List Value) : Prop := ∃ A n c, r = [.slice A n c] ∧ VB K w (.slice A n c) x ∧ n ≤ c
theorem EPc.ok : EOk EPc where
  stays := fun ⟨A, n, c, e, hu, hc⟩ hs => ⟨A, n, c, e, hu.stays hs, hc⟩
  mono := fun ⟨A, n, c, e, hu, hc⟩ hk => ⟨A, n, c, e, hu.mono hk, hc⟩
  lt := fun ⟨A, n, c, e, hu, hc⟩ => ⟨A, n, c, e, hu.lt, hc⟩
theorem EPc.one {K : Nat → Prop} {w : World} {x : List UInt8} {r : List Value} (h : EPc K w x r) : ∀ u ∈ r, u.oneCell' = true := by
  obtain ⟨A, n, c, rfl, _⟩ := h
  intro v hv
  simp at hv
  rw [hv]
  rfl
abbrev PcsV (K : Nat → Prop) (w : World) (A : Option Addr) (n : Nat) (xs : List (List UInt8)) : Prop := RowsL 1 (EPc K w) K w A n xs
section
variable {K K' : Nat → Prop} {w w' : World} {A : Option Addr} {n : Nat} {xs : List (List UInt8)}
theorem PcsV.stays (h : PcsV K w A n xs) (hs : WStays K w w') : PcsV K w' A n xs := by
  obtain ⟨vs, h1, h2, h3⟩ := h
  exact ⟨vs, h1, h2.stays hs, h3.imp fun x r hx => EPc.ok.stays hx hs⟩
theorem PcsV.mono (h : PcsV K w A n xs) (hk : ∀ x, K x → K' x) : PcsV K' w A n xs := by
  obtain ⟨vs, h1, h2, h3⟩ := h
  exact ⟨vs, h1, h2.mono hk, h3.imp fun x r hx => EPc.ok.mono hx hk⟩
theorem PcsV.lt (h : PcsV K w A n xs) : PcsV (fun x => K x ∧ x < w.heap.size) w A n xs := by
  obtain ⟨vs, h1, h2, h3⟩ := h
  exact ⟨vs, h1, h2.lt, h3.imp fun x r hx => EPc.ok.lt hx⟩
theorem PcsV.below (h : PcsV K w A n xs) (hb : Below w.heap.size w w') : PcsV K w' A n xs := (h.lt.stays ⟨hb.size, fun x hx => hb.block x hx.2⟩).mono fun _ hx => hx.1
theorem PcsV.len (h : PcsV K w A n xs) : xs.length = n := by obtain ⟨_, h1, _⟩ := h; exact h1
theorem PcsV.nil (K : Nat → Prop) (w : World) (A : Option Addr) : PcsV K w A 0 [] := ⟨[], rfl, ⟨rfl, fun _ => rfl, fun h => absurd h (Nat.lt_irrefl 0)⟩, HdL.nil _ _⟩
/-- One of them. -/
theorem PcsV.cell (h : PcsV K w A n xs) {j : Nat} {x : List UInt8} (hj : xs[j]? = some x) :
    ∃ b o A' m c, A = some ⟨b, o, none⟩ ∧ b < w.heap.size ∧ w.cell? ⟨b, o + j, none⟩ = some (.slice A' m c) ∧ Rd w A' m x ∧ m ≤ c ∧ VB K w (.slice A' m c) x := by
  obtain ⟨b, o, r, e, hk, hlt, _, ⟨A', m, c, hr, hv, hmc⟩, hc⟩ := RowsL.cells h hj
  subst hr
  have h0 := hc 0 _ (by decide) rfl
  rw [Nat.mul_one, Nat.add_zero] at h0
  have hv' := hv
  obtain ⟨A2, m2, c2, e2, hr2, _⟩ := hv
  injection e2 with e3 e4 e5
  subst e3 e4 e5
  exact ⟨b, o, A', m, c, e, hlt, h0, hr2, hmc, hv'⟩
end
/-- Elements of one cell each. -/
theorem HdL.of1 {α : Type} {E : α → List Value → Prop} {vs : List Value} {xs : List α} (hl : vs.length = xs.length) (h : ∀ (j : Nat) (x : α), xs[j]? = some x → ∃ v, vs[j]? = some v ∧ E x [v]) : HdL 1 E vs xs := by
  refine ⟨vs.map fun v => [v], ?_, by simp [hl], fun r hr => ?_, fun j x hx => ?_⟩
  · clear hl h
    induction vs with
    | nil => rfl
    | cons a r ih => rw [List.map_cons, List.flatten_cons, ← ih]; rfl
  · obtain ⟨v, _, rfl⟩ := List.mem_map.1 hr
    rfl
  · obtain ⟨v, hv, he⟩ := h j x hx
    exact ⟨[v], by rw [List.getElem?_map, hv]; rfl, he⟩
theorem rowsT : El Try.prog 24 22 (.slice none 0 0) 1 24 := ⟨Try.underlying24, by kernel_rfl, rfl, by decide⟩

theorem pwithin_any (n lo hi : Int) (w : World) :
    Calls Try.prog 22 #[.int .i64 n, .int .i64 lo, .int .i64 hi] w fun e w' => e = .returned (.bool (decide (lo ≤ n ∧ n ≤ hi))) ∧ w = w' := by
  by_cases h1 : lo ≤ n
  · by_cases h2 : n ≤ hi
    all_goals
      go_enter Try.func22, Try.ntmps22
      go_wp2
      go_ret
      exact ⟨ret_bool (by simp <;> omega), rfl⟩
  · go_enter Try.func22, Try.ntmps22
    go_wp2
    go_ret
    exact ⟨ret_bool (by simp <;> omega), rfl⟩

/-- head: twelve bytes of one's own. -/
theorem phead_any (i n : Nat) (s : Int) (w : World) :
    Calls Try.prog 16 #[.int .i64 (i : Nat), .int .i64 (n : Nat), .int .i64 s] w fun e w' => ∃ A c, e = .returned (.slice A 12 c) ∧ Rd w' A 12 (pcHead i n s) ∧ Below w.heap.size w w' := by
  have C1 := Lib.hid (Put_any none 0 0 [] 2 (i : Nat) w (Rd.nil w none) (by decide))
  go_enter Try.func16, Try.ntmps16
  go_wp2_with (first
    | (go_at_call 26; have _t := C1; refine C1.out.mono ?_; rintro e w1 ⟨v1, rfl, ho1, hb1⟩
       obtain ⟨A1, c1, rfl, _, _, hr1⟩ := Rd.of_own ho1 rfl
       have C2 := Lib.hid (Put_any A1 2 c1 _ 2 (n : Nat) w1 hr1 (by decide))
       have B1 := Lib.hid hb1
       clear ho1 hr1 hb1 C1)
    | (go_at_call 26; have _t := C2; refine C2.out.mono ?_; rintro e w2 ⟨v2, rfl, ho2, hb2⟩
       obtain ⟨A2, c2, rfl, _, _, hr2⟩ := Rd.of_own ho2 rfl
       have C3 := Lib.hid (Put_any A2 4 c2 _ 8 s w2 hr2 (by decide))
       have B2 := Lib.hid (B1.out.trans (hb2.mono B1.out.size))
       clear ho2 hr2 hb2 C2)
    | (go_at_call 26; have _t := C3; refine C3.out.mono ?_; rintro e w3 ⟨v3, rfl, ho3, hb3⟩
       obtain ⟨A3, c3, rfl, _, _, hr3⟩ := Rd.of_own ho3 rfl
       have B3 := Lib.hid (B2.out.trans (hb3.mono B2.out.size))
       have R3 := Lib.hid hr3
       clear ho3 hr3 hb3 C3))
  go_ret
  exact ⟨A3, c3, rfl, R3.out, B3.out⟩

/-- own: the bytes of the record that a piece takes. -/
theorem pown_any (A : Option Addr) (n c : Nat) (b : List UInt8) (i : Nat) (w : World) (hr : Rd w A n b) (hc : n ≤ c) (hn : n ≤ 1000000) (hi : i * 460 ≤ n) :
    Calls Try.prog 17 #[.slice A n c, .int .i64 (i : Nat)] w fun e w' => ∃ A' c', e = .returned (.slice A' (min 460 (n - i * 460)) c') ∧ Rd w' A' (min 460 (n - i * 460)) (pcOwn b i) ∧ w = w' := by
  have hp : ∀ m, m = min 460 (n - i * 460) → Rd w (A.map fun x => x.add (i * 460)) m (pcOwn b i) := by
    rintro m rfl
    have := hr.part (lo := i * 460) (m := min 460 (n - i * 460)) (by omega) (A.map fun x => x.add (i * 460)) (fun _ b o e => by rw [e]; simp [Addr.add_lit])
    have hl := hr.1
    have e : (b.drop (i * 460)).take (min 460 (n - i * 460)) = pcOwn b i := by
      unfold pcOwn
      rw [List.take_eq_take_iff, List.length_drop]
      omega
    rwa [e] at this
  have HP := Lib.hid hp
  clear hp hr
  by_cases h : i * 460 + 460 ≤ n
  · go_enter Try.func17, Try.ntmps17
    go_wp2
    go_ret
    have e : i * 460 + 460 - i * 460 = min 460 (n - i * 460) := by omega
    exact ⟨A.map fun x => x.add (i * 460), c - i * 460, by rw [← e]; rfl, HP.out _ rfl, rfl⟩
  · go_enter Try.func17, Try.ntmps17
    go_wp2
    all_goals go_ret
    all_goals have e : n - i * 460 = min 460 (n - i * 460) := by omega
    · exact ⟨A, ⟨0, by rw [← e]; rfl⟩, ⟨(HP.out _ rfl).1, fun h0 => by omega⟩, rfl⟩
    · exact ⟨A.map fun x => x.add (i * 460), ⟨c - i * 460, by rw [← e]; rfl⟩, HP.out _ rfl, rfl⟩

theorem results_tmp4 {fn : Func} {t u v x : Tmp} (h : fn.results = #[.tmp t, .tmp u, .tmp v, .tmp x]) (tmps : Array Value) (P : Program) (w : World) :
    (results fn tmps).run P w = .ok (.tuple #[tmps.getD t undef, tmps.getD u undef, tmps.getD v undef, tmps.getD x undef]) w := by
  simp [results, h]
/-- What Head tells. -/
def hdT (l : List UInt8) : Value := if HdOk l then .tuple #[.int .i64 (plc l), .int .i64 (cnt l), .int .i64 (sqn l), .bool true] else .tuple #[.int .i64 0, .int .i64 0, .int .i64 0, .bool false]
section
variable (A : Option Addr) (n c : Nat) (l : List UInt8) (w : World)
theorem wd_2 : wd 2 = 2 := rfl
theorem wd_8 : wd 8 = 8 := rfl
theorem pget0 (hr : Rd w A n l) (hc : n ≤ c) (hn : n ≤ 1000000) (h : 12 ≤ n) :
    Calls Try.prog 23 #[.slice A n c, .int .i64 0, .int .i64 2] w fun e w' => e = .returned (.tuple #[.int .i64 (plc l), .bool true]) ∧ w = w' := by
  have := Get_yes A n c l 0 2 w hr hc (by omega) (by rw [wd_2]; omega)
  rw [wd_2] at this
  exact this
theorem pget2 (hr : Rd w A n l) (hc : n ≤ c) (hn : n ≤ 1000000) (h : 12 ≤ n) :
    Calls Try.prog 23 #[.slice A n c, .int .i64 2, .int .i64 2] w fun e w' => e = .returned (.tuple #[.int .i64 (cnt l), .bool true]) ∧ w = w' := by
  have := Get_yes A n c l 2 2 w hr hc (by omega) (by rw [wd_2]; omega)
  rw [wd_2] at this
  exact this
theorem pget4 (hr : Rd w A n l) (hc : n ≤ c) (hn : n ≤ 1000000) (h : 12 ≤ n) :
    Calls Try.prog 23 #[.slice A n c, .int .i64 4, .int .i64 8] w fun e w' => e = .returned (.tuple #[.int .i64 (sqn l), .bool true]) ∧ w = w' := by
  have := Get_yes A n c l 4 8 w hr hc (by omega) (by rw [wd_8]; omega)
  rw [wd_8] at this
  exact this
theorem rget0 (hr : Rd w A n l) (hn : n ≤ 1000000) (h : 12 ≤ n) :
    Calls Try.prog 24 #[.slice A n c, .int .i64 0, .int .i64 2] w fun e w' => e = .returned (.tuple #[.int .i64 (plc l), .bool true]) ∧ w = w' := by
  have := RGet_yes A n c l 0 2 w hr (by omega) (by rw [wd_2]; omega)
  rw [wd_2] at this
  exact this
theorem rget2 (hr : Rd w A n l) (hn : n ≤ 1000000) (h : 12 ≤ n) :
    Calls Try.prog 24 #[.slice A n c, .int .i64 2, .int .i64 2] w fun e w' => e = .returned (.tuple #[.int .i64 (cnt l), .bool true]) ∧ w = w' := by
  have := RGet_yes A n c l 2 2 w hr (by omega) (by rw [wd_2]; omega)
  rw [wd_2] at this
  exact this
theorem rget4 (hr : Rd w A n l) (hn : n ≤ 1000000) (h : 12 ≤ n) :
    Calls Try.prog 24 #[.slice A n c, .int .i64 4, .int .i64 8] w fun e w' => e = .returned (.tuple #[.int .i64 (sqn l), .bool true]) ∧ w = w' := by
  have := RGet_yes A n c l 4 8 w hr (by omega) (by rw [wd_8]; omega)
  rw [wd_8] at this
  exact this
end
end Go.Proofs.Ytndnmcdbfjgglaa
