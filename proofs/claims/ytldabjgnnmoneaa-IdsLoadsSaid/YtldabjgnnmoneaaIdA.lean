/- The names as they lie in memory; the contracts of nearest, New, lives, id, At, Alive. -/
import Derived.Test.YtldabjgnnmoneaaInts
import Derived.Test.YtldabjgnnmoneaaRec
import Derived.Test.YtldabjgnnmoneaaIdM
import Derived.BigQuiet
import Derived.Deep.QuietTactic
namespace Go.Proofs.Ytldabjgnnmoneaa
open Go.RowKit

theorem boolT : El Try.prog 56 4 (.bool false) 1 1 := ⟨Try.underlying56, by kernel_rfl, rfl, by decide⟩

theorem idT : RT Try.prog 24 2 := ⟨⟨_, Try.underlying24, rfl⟩, by kernel_rfl⟩

section
variable {ops : Array Oper} {rest : List Oper} {o : Oper} {a : Act} {w : World} {Q : Exit → Act → World → Prop} {g : Nat} {x0 y0 x1 y1 : Int}
/-- An ID by value: load, store. -/
theorem wpList_ldP (hgd : Region.wanted o (yielded ops a.tmps) = true) (x : Operand) (ho : o.op = .load 24 x)
    (hx : a.eval x = .pointer (some ⟨g, 0, none⟩)) (h : Rec 24 w g #[.int .i64 x0, .int .i64 y0]) (kk : wpList Try.prog ops Q rest (a.put o.dst (.agg #[.int .i64 x0, .int .i64 y0])) w) : wpList Try.prog ops Q (o :: rest) a w :=
  wpList_ldS idT rfl hgd x ho hx h kk
theorem wpList_stP (hgd : Region.wanted o (yielded ops a.tmps) = true) (x y : Operand) (ho : o.op = .store 24 x y)
    (hx : a.eval x = .pointer (some ⟨g, 0, none⟩)) (hy : a.eval y = .agg #[.int .i64 x1, .int .i64 y1]) (h : Rec 24 w g #[.int .i64 x0, .int .i64 y0])
    (kk : ∀ w', Rec 24 w' g #[.int .i64 x1, .int .i64 y1] → Fr (· = g) w w' → wpList Try.prog ops Q rest (a.put o.dst undef) w') : wpList Try.prog ops Q (o :: rest) a w :=
  wpList_stS idT rfl rfl (by simp [Value.oneCell']) hgd x y ho hx hy h kk
end

theorem pigeon : ∀ (n : Nat) (l : List Int), l.Nodup → (∀ k ∈ l, 0 ≤ k ∧ k < n) → l.length ≤ n
  | 0, l, _, h => by
    cases l with
    | nil => exact Nat.le_refl _
    | cons a l => have := h a List.mem_cons_self; omega
  | n + 1, l, nd, h => by
    by_cases hm : (n : Int) ∈ l
    · have h1 := pigeon n (l.erase (n : Int)) (nd.erase _) (fun k hk => by
        obtain ⟨hne, hk'⟩ := nd.mem_erase_iff.1 hk
        have := h k hk'
        omega)
      rw [List.length_erase_of_mem hm] at h1
      omega
    · have h1 := pigeon n l nd (fun k hk => by
        have := h k hk
        have : k ≠ (n : Int) := fun e => hm (e ▸ hk)
        omega)
      omega
theorem NS.Ok.few {s : NS} (h : s.Ok) : s.fr.length ≤ 1024 := by
  have := pigeon s.g.length s.fr h.nd (fun k hk => ⟨(h.fz k hk).1, (h.fz k hk).2.1⟩)
  have := h.len
  have := h.E2
  omega

/-- Names at block p: their generations in gv, which are alive in av, the free ones in fv. -/
structure IAt (w : World) (own : Nat → Prop) (p : Nat) (gv av fv : Value) (s : NS) : Prop where
  blk : w.heap[p]? = some (.cells #[.int .i64 s.E, .int .i64 s.L, gv, av, fv] 58 (0, 0))
  gens : w.ownsRow 0 3 1 gv s.g.length (s.g.map (Value.int .i64))
  ali : w.ownsRow 0 4 1 av s.g.length (s.liveL.map Value.bool)
  free : w.ownsRow 0 3 1 fv s.fr.length (s.fr.map (Value.int .i64))
  apart : ∀ x, gv.ownBlock = some x → fv.ownBlock ≠ some x
  ownp : own p
  owng : ∀ x, gv.ownBlock = some x → own x
  owna : ∀ x, av.ownBlock = some x → own x
  ownf : ∀ x, fv.ownBlock = some x → own x
  ok : s.Ok

theorem own_tagI {w : World} {B e n : Nat} {v : Value} {xs : List Value} (h : w.ownsRow B e 1 v n xs) {x : Nat} (hx : v.ownBlock = some x) : ∃ C, w.heap[x]? = some (.cells C e (0, 0)) := by
  rcases h.2 with ⟨rfl, _⟩ | ⟨g, cap, cur, rfl, _, hh, _⟩
  · cases hx
  · simp [Value.ownBlock] at hx
    subst hx
    exact ⟨_, hh⟩
/-- What is owned, as the walk wants it. -/
theorem own_open {w : World} {B e n : Nat} {v : Value} {xs : List Value} (h : w.ownsRow B e 1 v n xs) :
    ∃ A c, v = .slice A n c ∧ n ≤ c ∧ c ≤ maxLen ∧ (0 < n → ∃ g, A = some ⟨g, 0, none⟩ ∧ g < w.heap.size ∧ (∀ j, j < n → w.cell? ⟨g, j, none⟩ = xs[j]?) ∧ (∀ j, w.frozen? ⟨g, j, none⟩ = false)) := by
  have h' := h
  rcases h.2 with ⟨hv, h0⟩ | ⟨g, cap, cur, rfl, _, hh, hn, hc, _, _⟩
  · exact ⟨none, 0, by rw [hv, h0], by omega, by unfold maxLen; omega, fun hp => by omega⟩
  · exact ⟨_, cap, rfl, hn, hc, fun _ => ⟨g, rfl, (Array.getElem?_eq_some_iff.1 hh).1, fun j hj => h'.cellAt j (by omega), fun j => h'.frozenAt j⟩⟩

section
variable {w w' : World} {own own' : Nat → Prop} {p : Nat} {gv av fv : Value} {s : NS}

theorem IAt.lt (h : IAt w own p gv av fv s) : p < w.heap.size := (Array.getElem?_eq_some_iff.1 h.blk).1
theorem IAt.cell (h : IAt w own p gv av fv s) (i : Nat) : w.cell? ⟨p, i, none⟩ = (#[.int .i64 s.E, .int .i64 s.L, gv, av, fv] : Array Value)[i]? := cell_of_row _ _ _ _ _ _ h.blk
theorem IAt.c0 (h : IAt w own p gv av fv s) : w.cell? ⟨p, 0, none⟩ = some (.int .i64 s.E) := h.cell 0
theorem IAt.c1 (h : IAt w own p gv av fv s) : w.cell? ⟨p, 1, none⟩ = some (.int .i64 s.L) := h.cell 1
theorem IAt.c2 (h : IAt w own p gv av fv s) : w.cell? ⟨p, 2, none⟩ = some gv := h.cell 2
theorem IAt.c3 (h : IAt w own p gv av fv s) : w.cell? ⟨p, 3, none⟩ = some av := h.cell 3
theorem IAt.c4 (h : IAt w own p gv av fv s) : w.cell? ⟨p, 4, none⟩ = some fv := h.cell 4
theorem IAt.fz (h : IAt w own p gv av fv s) (i : Nat) : w.frozen? ⟨p, i, none⟩ = false := frozen_of_row w p i _ _ h.blk
theorem IAt.kept (h : IAt w own p gv av fv s) (hf : Fr own' w w') (hd : ∀ x, own x → ¬ own' x) : IAt w' own p gv av fv s where
  blk := (hf.block p h.lt (hd p h.ownp)).trans h.blk
  gens := own_fr h.gens hf (fun x hx => hd x (h.owng x hx))
  ali := own_fr h.ali hf (fun x hx => hd x (h.owna x hx))
  free := own_fr h.free hf (fun x hx => hd x (h.ownf x hx))
  apart := h.apart
  ownp := h.ownp
  owng := h.owng
  owna := h.owna
  ownf := h.ownf
  ok := h.ok
theorem IAt.below (h : IAt w own p gv av fv s) (hb : Below w.heap.size w w') : IAt w' own p gv av fv s := h.kept (own' := fun _ => False) (Fr.ofBelow _ hb) (fun _ _ hx => hx)
theorem IAt.mono (h : IAt w own p gv av fv s) (hk : ∀ x, own x → own' x) : IAt w own' p gv av fv s := { h with ownp := hk _ h.ownp, owng := fun x hx => hk x (h.owng x hx), owna := fun x hx => hk x (h.owna x hx), ownf := fun x hx => hk x (h.ownf x hx) }
end

theorem inear_any (n lo hi : Int) (w : World) : Calls Try.prog 21 #[.int .i64 n, .int .i64 lo, .int .i64 hi] w fun e w' => e = .returned (.int .i64 (min (max n lo) hi)) ∧ w = w' := by
  go_enter Try.func21, Try.ntmps21
  go_wp2
  all_goals go_ret
  all_goals exact ⟨ret_int (by omega), rfl⟩

theorem INew_any (entities gens : Int) (w : World) :
    Calls Try.prog 7 #[.int .i64 entities, .int .i64 gens] w fun e w' => e = .returned (.pointer (some ⟨w.heap.size, 0, none⟩)) ∧ Below w.heap.size w w' ∧ w.heap.size < w'.heap.size ∧ IAt w' (· = w.heap.size) w.heap.size nilv nilv nilv (NS.new entities gens) := by
  have h1 := nears_bounds entities 1024 (by decide)
  have hE : (((NS.new entities gens).E : Nat) : Int) = min (max entities 1) 1024 := by
    show ((nears entities 1024).toNat : Int) = _
    unfold nears at h1 ⊢
    omega
  have hL : (NS.new entities gens).L = min (max gens 1) 1073741824 := rfl
  clear h1
  go_enter Try.func7, Try.ntmps7
  go_wp2_with (go_at_call 21; refine (inear_any _ _ _ _).mono ?_; rintro e w' ⟨rfl, rfl⟩)
  go_ret
  refine ⟨rfl, (Below.refl _ _).alloc (Nat.le_refl _) _, by simp, ?_⟩
  exact {
    blk := by rw [hE, hL]; exact heap_alloc_new w _
    gens := World.ownsRow_nil _ _ _ _
    ali := World.ownsRow_nil _ _ _ _
    free := World.ownsRow_nil _ _ _ _
    apart := fun x hx => by cases hx
    ownp := rfl
    owng := fun x hx => by cases hx
    owna := fun x hx => by cases hx
    ownf := fun x hx => by cases hx
    ok := NS.new_ok entities gens }

section
variable {w : World} {own : Nat → Prop} {p : Nat} {gv av fv : Value} {s : NS}

theorem lives_nil (k : Int) (w : World) : Calls Try.prog 31 #[.pointer none, .int .i64 k] w fun e w' => e = .returned (.bool false) ∧ w = w' := by
  go_enter Try.func31, Try.ntmps31
  go_wp2
  go_ret
  exact ⟨rfl, rfl⟩

theorem lives_any (h : IAt w own p gv av fv s) (k : Int) :
    Calls Try.prog 31 #[.pointer (some ⟨p, 0, none⟩), .int .i64 k] w fun e w' => e = .returned (.bool (s.live k)) ∧ w = w' := by
  obtain ⟨A, c, rfl, hc, hm, hr⟩ := own_open h.ali
  have c3 := h.c3
  by_cases hk0 : 0 ≤ k
  · by_cases hk1 : k < s.g.length
    · obtain ⟨j, rfl⟩ : ∃ j : Nat, k = (j : Int) := ⟨k.toNat, by omega⟩
      have hj : j < s.g.length := by omega
      obtain ⟨g, rfl, hg, hcell, _⟩ := hr (by omega)
      have c := hcell j hj
      have hjl : j < s.liveL.length := by rw [s.liveL_len]; exact hj
      rw [List.getElem?_map, List.getElem?_eq_getElem hjl, s.liveL_get] at c
      simp only [Option.map_some] at c
      obtain ⟨b, hb⟩ : ∃ b, b = s.live j := ⟨_, rfl⟩
      rw [← hb] at c ⊢
      clear hb hr hcell h
      go_enter Try.func31, Try.ntmps31
      go_wp2
      go_ret
      exact ⟨rfl, rfl⟩
    · have hl : s.live k = false := Bool.eq_false_iff.2 fun e => hk1 (NS.live_iff.1 e).2.1
      rw [hl]
      clear hl hr h
      go_enter Try.func31, Try.ntmps31
      go_wp2
      go_ret
      exact ⟨rfl, rfl⟩
  · have hl : s.live k = false := Bool.eq_false_iff.2 fun e => hk0 (NS.live_iff.1 e).1
    rw [hl]
    clear hl hr h
    go_enter Try.func31, Try.ntmps31
    go_wp2
    go_ret
    exact ⟨rfl, rfl⟩

theorem id_any (h : IAt w own p gv av fv s) (j : Nat) (hj : j < s.g.length) :
    Calls Try.prog 34 #[.pointer (some ⟨p, 0, none⟩), .int .i64 j] w fun e w' => e = .returned (.agg #[.int .i64 j, .int .i64 (s.g.getD j 0)]) ∧ Below w.heap.size w w' := by
  obtain ⟨A, c, rfl, hc, hm, hr⟩ := own_open h.gens
  have c2 := h.c2
  obtain ⟨g, rfl, hg, hcell, _⟩ := hr (by omega)
  have c := hcell j hj
  rw [List.getElem?_map, List.getElem?_eq_getElem hj] at c
  simp only [Option.map_some] at c
  have hz : s.g.getD j 0 = s.g[j] := by simp [List.getD, List.getElem?_eq_getElem hj]
  obtain ⟨z, hz'⟩ : ∃ z, z = s.g.getD j 0 := ⟨_, rfl⟩
  rw [← hz, ← hz'] at c
  rw [← hz']
  have hlt := h.lt
  clear hz hz' hr hcell h
  go_enter Try.func34, Try.ntmps34
  go_wp2
  refine bodyPost_ret (res_c rfl rfl ((Rec.new w 24 #[.int .i64 j, .int .i64 z]).load idT rfl)) rfl ?_
  exact ⟨rfl, (Below.refl _ _).alloc (Nat.le_refl _) _⟩

/-- A pair of ints as an ID. -/
def idv (x : Int × Int) : Value := .agg #[.int .i64 x.1, .int .i64 x.2]

theorem At_nil (k : Int) (w : World) : Calls Try.prog 25 #[.pointer none, .int .i64 k] w fun e w' => e = .returned (.tuple #[idv (0, 0), .bool false]) ∧ Below w.heap.size w w' := by
  go_enter Try.func25, Try.ntmps25
  go_wp2_with (go_at_call 31; refine (lives_nil _ _).mono ?_; rintro e w' ⟨rfl, rfl⟩)
  refine bodyPost_ret (res_ct rfl rfl ((Rec.new w 24 #[.int .i64 0, .int .i64 0]).load idT rfl)) rfl ?_
  exact ⟨rfl, (Below.refl _ _).alloc (Nat.le_refl _) _⟩

theorem At_any (h : IAt w own p gv av fv s) (k : Int) :
    Calls Try.prog 25 #[.pointer (some ⟨p, 0, none⟩), .int .i64 k] w fun e w' => e = .returned (.tuple #[idv (s.at_ k).1, .bool (s.at_ k).2]) ∧ Below w.heap.size w w' := by
  have hb : Below w.heap.size w (w.alloc (.cells #[.int .i64 0, .int .i64 0] 24)) := (Below.refl _ _).alloc (Nat.le_refl _) _
  have CL := Lib.hid (lives_any (h.below hb) k)
  by_cases hl : s.live k = true
  · have ha : s.at_ k = ((k, s.g.getD k.toNat 0), true) := by unfold NS.at_; rw [if_pos hl]
    obtain ⟨h0, h1, _⟩ := NS.live_iff.1 hl
    obtain ⟨j, rfl⟩ : ∃ j : Nat, k = (j : Int) := ⟨k.toNat, by omega⟩
    have CI := Lib.hid (id_any (h.below hb) j (by omega))
    rw [hl] at CL
    rw [ha, Int.toNat_natCast]
    obtain ⟨w1, hw1⟩ : ∃ w1, w1 = w.alloc (.cells #[.int .i64 0, .int .i64 0] 24) := ⟨_, rfl⟩
    have hR1 : Rec 24 w1 w.heap.size #[.int .i64 0, .int .i64 0] := by rw [hw1]; exact Rec.new _ _ _
    rw [← hw1] at hb CL CI
    have HB := Lib.hid hb
    have HR := Lib.hid hR1
    clear hl ha h0 h1 h hb hR1
    go_enter Try.func25, Try.ntmps25
    go_wp2_with (first
      | (rw [← hw1]; clear hw1)
      | (go_at_call 31; refine CL.out.mono ?_; rintro e w' ⟨rfl, rfl⟩)
      | (go_at_call 34; refine CI.out.mono ?_; rintro e w2 ⟨rfl, hB2⟩; have HR2 := Lib.hid (HR.out.under hB2); have HB2 := Lib.hid (HB.out.trans (hB2.mono HB.out.size)); clear hB2)
      | (with_reducible refine wpList_stP (x1 := j) (y1 := s.g.getD j 0) rfl (.tmp 4) (.tmp 13) rfl rfl rfl HR2.out ?_; intro w5 hR5 hF5))
    refine bodyPost_ret (res_ct rfl rfl (hR5.load idT rfl)) rfl ?_
    exact ⟨rfl, HB2.out.trans (hF5.toBelow (fun x hx => by rw [show x = w.heap.size from hx]; exact Nat.le_refl _) HB2.out.size)⟩
  · have hl : s.live k = false := by simpa using hl
    have ha : s.at_ k = ((0, 0), false) := by unfold NS.at_; rw [if_neg (by simp [hl])]
    rw [hl] at CL
    rw [ha]
    clear hl ha h hb
    go_enter Try.func25, Try.ntmps25
    go_wp2_with (go_at_call 31; refine CL.out.mono ?_; rintro e w' ⟨rfl, rfl⟩)
    refine bodyPost_ret (res_ct rfl rfl ((Rec.new w 24 #[.int .i64 0, .int .i64 0]).load idT rfl)) rfl ?_
    exact ⟨rfl, (Below.refl _ _).alloc (Nat.le_refl _) _⟩
end

/-- The ID handed over, and At's answer, in blocks of their own; two IDs compared. -/
theorem Alive_nil (i gen : Int) (w : World) : Calls Try.prog 12 #[.pointer none, idv (i, gen)] w fun e w' => e = .returned (.bool false) ∧ Below w.heap.size w w' := by
  show Calls _ _ #[.pointer none, .agg #[.int .i64 i, .int .i64 gen]] w _
  obtain ⟨w1, hw1⟩ : ∃ w1, w1 = w.alloc (.cells #[.int .i64 i, .int .i64 gen] 24) := ⟨_, rfl⟩
  have hb : Below w.heap.size w w1 := by rw [hw1]; exact (Below.refl _ _).alloc (Nat.le_refl _) _
  have hR1 : Rec 24 w1 w.heap.size #[.int .i64 i, .int .i64 gen] := by rw [hw1]; exact Rec.new _ _ _
  have c0 : w1.cell? ⟨w.heap.size, 0, none⟩ = some (.int .i64 i) := hR1.at_ 0
  have CA := Lib.hid (At_nil i w1)
  have HB := Lib.hid hb
  clear hb hR1
  go_enter Try.func12, Try.ntmps12
  go_wp2_with (first
    | (rw [← hw1]; clear hw1)
    | (go_at_call 25; refine CA.out.mono ?_; rintro e w2 ⟨rfl, hB2⟩; have HB2 := Lib.hid (HB.out.trans (hB2.mono HB.out.size)); clear hB2; simp only [idv]))
  go_ret
  exact ⟨rfl, HB2.out.trans ((Below.refl _ _).alloc HB2.out.size _)⟩
end Go.Proofs.Ytldabjgnnmoneaa
