/- A column that is written: the laws on its own row, Set, Get, Add. -/
import Derived.Test.YtlblbhndfclhnaaCl1
namespace Go.Proofs.Ytlblbhndfclhnaa
open Go.RowKit

section
variable {P : Program} {w : World} {T e : TypeId}
/-- Part of an owned row turned. -/
theorem own_splice {B n : Nat} {v : Value} {xs cs : List Value} (h : w.ownsRow B e 1 v n xs) {g off c : Nat} (hv : v = .slice (some ⟨g, 0, none⟩) n c) (hfit : off + cs.length ≤ n) {cur : Array Value} (hcur : w.heap[g]? = some (.cells cur e (0, 0))) :
    (w.setRow g (cur.toList.take off ++ (cs ++ cur.toList.drop (off + cs.length))).toArray).ownsRow B e 1 v n (splice xs off cs) := by
  obtain ⟨hl, hr⟩ := h
  rcases hr with ⟨h1, _⟩ | ⟨g', cap, cur', h1, hB, hh, hn, hc, hs, ht⟩
  · rw [hv] at h1; cases h1
  rw [hv] at h1
  injection h1 with h1 h2 h3
  injection h1 with h1
  injection h1 with h1
  subst h1 h3
  rw [hcur] at hh
  injection hh with hh
  injection hh with hh
  subst hh
  have hcl : cur.toList.length = c := by simpa using hs
  rw [Nat.mul_one] at ht
  refine ⟨by rw [length_splice _ _ _ (by omega)]; exact hl, .inr ⟨g, c, _, hv, hB, setRow_heap w g _ _ _ _ hcur, hn, hc, ?_, ?_⟩⟩
  · simp
    omega
  · rw [Nat.mul_one, ← ht]
    unfold splice
    rw [List.take_append, List.length_take, List.take_append, List.take_take, List.take_take, List.drop_take, Nat.min_eq_left (show off ≤ cur.toList.length by omega), Nat.min_eq_left (show off ≤ n by omega), Nat.min_eq_right (show off ≤ n by omega), List.take_of_length_le (l := cs) (show cs.length ≤ n - off by omega)]
    rw [show n - off - cs.length = n - (off + cs.length) by omega]
/-- A shorter row. -/
theorem own_less {B n m c : Nat} {A : Option Addr} {xs : List Value} (h : w.ownsRow B e 1 (.slice A n c) n xs) (hm : m ≤ n) : w.ownsRow B e 1 (.slice A m c) m (xs.take m) := by
  obtain ⟨hl, hr⟩ := h
  refine ⟨by rw [List.length_take]; omega, ?_⟩
  rcases hr with ⟨h1, h0⟩ | ⟨g', cap, cur', h1, hB, hh, hn, hc, hs, ht⟩
  · injection h1 with h1 h2 h3
    subst h1 h3
    exact .inl ⟨by rw [show m = 0 by omega], by omega⟩
  · injection h1 with h1 h2 h3
    subst h1 h3
    refine .inr ⟨g', c, cur', rfl, hB, hh, by omega, hc, hs, ?_⟩
    rw [← ht, List.take_take, Nat.mul_one, Nat.mul_one, Nat.min_eq_left hm]

variable {ops : Array Oper} {rest : List Oper} {o : Oper} {a : Act} {Q : Exit → Act → World → Prop}
/-- 'copy(v[off:off+k], b)', v a row of one's own, b any slice of k bytes. -/
theorem wpList_cpo (el : El P T e (.int .u8 0) 1 1) (hgd : o.guard = none) (x y : Operand)
    (ho : o.op = .call { callee := .builtin .copy, args := #[x, y], argTypes := #[T, T] })
    {B n : Nat} {v : Value} {xs : List Value} (hown : w.ownsRow B e 1 v n xs) (k off kc : Nat) (A' : Option Addr) (hA : 0 < k → ∃ g c, v = .slice (some ⟨g, 0, none⟩) n c ∧ A' = some ⟨g, off, none⟩) (hfit : off + k ≤ n)
    (hs : a.eval x = .slice A' k kc) (A : Option Addr) (c : Nat) (b : List UInt8) (hx : a.eval y = .slice A k c) (hr : Rd w A k b)
    (h : ∀ w', w'.ownsRow B e 1 v n (splice xs off (cells b)) → Fr (fun x => v.ownBlock = some x) w w' → wpList P ops Q rest (a.put o.dst (goInt k)) w') : wpList P ops Q (o :: rest) a w := by
  obtain ⟨i, hi, hz, h1, h2⟩ := info_parts el.info
  have hbl := hr.1
  rcases Nat.eq_zero_or_pos k with h0 | hp
  · subst h0
    have hb : b = [] := List.eq_nil_of_length_eq_zero hbl
    subst hb
    refine wpList_copy_nothing hgd x y T T ho e el.und (by rw [hi]; simp [h1]) A' A 0 kc 0 c hs hx rfl ?_
    exact h w (by simpa [splice, cells_nil] using hown) (Fr.refl _ _)
  · obtain ⟨g, cap, hv, hA'⟩ := hA hp
    obtain ⟨ad, hAd⟩ : ∃ ad, A = some ad := by obtain ⟨b', o', e', _⟩ := hr.2 hp; exact ⟨_, e'⟩
    subst hAd
    obtain ⟨cur, hcur, hcs⟩ : ∃ cur, w.heap[g]? = some (.cells cur e (0, 0)) ∧ n ≤ cur.size := by
      rcases hown.2 with ⟨h1, _⟩ | ⟨g', cap', cur', h1, hB, hh, hn, hc, hs, ht⟩
      · rw [hv] at h1; cases h1
      · rw [hv] at h1
        injection h1 with h1
        injection h1 with h1
        injection h1 with h1
        subst h1
        exact ⟨cur', hh, by omega⟩
    have hcl : (cells b).length = k := by rw [cells_length]; exact hbl
    refine wpList_copy_own hgd x y T T ho e el.und (by rw [hi]; simp [h1]) g off k kc ad k c (by rw [hs, hA']) hx cur e hcur (cells b) (by rw [hcl]; exact (Nat.min_self k).symm) hr.cells_at (by omega) (cells_one b) ?_
    rw [hcl]
    have := h _ (own_splice hown (off := off) (cs := cells b) hv (by omega) hcur) ⟨rfl, rfl, rfl, by simp [World.setRow], fun q _ hq => setRow_other w g q _ (fun e => hq (by rw [hv, e]; rfl))⟩
    rw [hcl] at this
    exact this

theorem run_appo (el : El P T e (.int .u8 0) 1 1) (ty : TypeId) (B : Nat) (v : Value) (n : Nat) (xs : List Value) (hown : w.ownsRow B e 1 v n xs)
    (A : Option Addr) (m c : Nat) (l : List UInt8) (hr : Rd w A m l) (hb : n + m ≤ 1000000000) (hB : B ≤ w.heap.size) :
    ∃ v' w', (Builtin.append_ #[T, T] ty #[v, .slice A m c]).run P w = .ok v' w' ∧ w'.ownsRow B e 1 v' (n + m) (xs ++ cells l) ∧ w.grownBy w' v.ownBlock ∧ (v'.ownBlock = v.ownBlock ∨ v'.ownBlock = some w.heap.size) := by
  obtain ⟨i, hi, hz, h1, h2⟩ := info_parts el.info
  rcases A with _ | ad
  · have hm : m = 0 := by
      rcases Nat.eq_zero_or_pos m with h0 | h0
      · exact h0
      · obtain ⟨_, _, h, _⟩ := hr.2 h0
        cases h
    subst hm
    have hn : l = [] := List.eq_nil_of_length_eq_zero hr.1
    subst hn
    exact ⟨v, w, run_app_nil w B T ty e i 1 el.und hi v n xs hown c, by simpa [cells_nil] using hown, World.grownBy.refl _ _, .inl rfl⟩
  · obtain ⟨v', w', hrun, r1, r2, _, r3⟩ := run_append_own_at (P := P) w B T ty e i (.int .u8 0) 1 1 el.und hi hz h1 h2 rfl (by decide) v n xs hown ad m c (cells l) (by simp [hr.1]) hr.cells_at (cells_one l) (by unfold maxLen; omega) (by omega) hB
    exact ⟨v', w', hrun, r1, r2, r3⟩
/-- 'append(v, x...)', v a row of one's own, x any slice of bytes. -/
theorem wpList_appo (el : El P T e (.int .u8 0) 1 1) (hgd : Region.wanted o (yielded ops a.tmps) = true) (s x : Operand)
    (ho : o.op = .call { callee := .builtin .append, args := #[s, x], argTypes := #[T, T] })
    (B : Nat) (v : Value) (n : Nat) (xs : List Value) (hs : a.eval s = v) (hown : w.ownsRow B e 1 v n xs)
    (A : Option Addr) (m c : Nat) (l : List UInt8) (hx : a.eval x = .slice A m c) (hr : Rd w A m l) (hb : n + m ≤ 1000000000) (hB : B ≤ w.heap.size)
    (h : ∀ v' w', w'.ownsRow B e 1 v' (n + m) (xs ++ cells l) → w.grownBy w' v.ownBlock → (v'.ownBlock = v.ownBlock ∨ v'.ownBlock = some w.heap.size) → wpList P ops Q rest (a.put o.dst v') w') : wpList P ops Q (o :: rest) a w :=
  wpList_w hgd fun _ hK => by
    obtain ⟨v', w', hrun, h2, h3, h4⟩ := run_appo el o.type B v n xs hown A m c l hr hb hB
    unfold Oper.wp execOp
    simp only [ho, resolve, invoke, builtin, Sem.run_bind, Sem.run_pure, Result.andThen_ok, List.map_toArray, List.map_cons, List.map_nil, hs, hx, hrun]
    exact hK _ _ (h v' w' h2 h3 h4)
end

theorem colT : RT Try.prog 55 3 := ⟨⟨_, Try.underlying55, rfl⟩, by kernel_rfl⟩

/-- What a call leaves of a column. -/
def ClGoes (w : World) (own : Nat → Prop) (p : Nat) (s : Co) (w' : World) : Prop :=
  Fr own w w' ∧ ∃ own', (∀ x, own' x → own x ∨ w.heap.size ≤ x) ∧ (∀ x, own' x → x < w'.heap.size) ∧ ∃ v, ClAt w' own' p v s

section
variable {w w1 w' : World} {own : Nat → Prop} {p : Nat} {v : Value} {s : Co}
theorem ClGoes.of (dom : ∀ x, own x → x < w.heap.size) {v' : Value} {s' : Co} (hf : Fr own w w') (h : ClAt w' own p v' s') : ClGoes w own p s' w' :=
  ⟨hf, own, fun _ hx => .inl hx, fun x hx => Nat.lt_of_lt_of_le (dom x hx) hf.size, v', h⟩
theorem ClGoes.still (dom : ∀ x, own x → x < w.heap.size) (h : ClAt w own p v s) (hb : Below w.heap.size w w') : ClGoes w own p s w' :=
  .of dom (Fr.ofBelow own hb) (h.below hb)
theorem ClGoes.pre {s' : Co} (hb : Below w.heap.size w w1) (h : ClGoes w1 own p s' w') : ClGoes w own p s' w' := by
  obtain ⟨hf, own', h1, h2⟩ := h
  exact ⟨(Fr.ofBelow own hb).trans hf, own', fun y hy => (h1 y hy).imp id (fun h => Nat.le_trans hb.size h), h2⟩
/-- The bytes turned within their row. -/
theorem ClAt.turned (h : ClAt w own p v s) {k : Nat} {b : List UInt8} (hk : k < s.rows.length) (hb : b.length = s.sz) (hf : Fr (fun x => v.ownBlock = some x) w w') (hr : w'.ownsRow 0 5 1 v s.bytes.length (splice (cells s.bytes) (k * s.sz) (cells b))) : ClAt w' own p v (s.set k b) := by
  have e := Co.set_bytes h.ok k hk b hb
  have hl : (s.set k b).rows.length = s.rows.length := by simp [Co.set]
  have hl2 : (s.set k b).bytes.length = s.bytes.length := by rw [(h.ok.set k b hb).len, h.ok.len, hl]; rfl
  exact {
    blk := by rw [hl]; exact h.blk.fr hf (fun e => h.ne p e rfl)
    row := by rw [hl2, ← e]; exact hr
    ownp := h.ownp
    ownv := h.ownv
    ne := h.ne
    ok := h.ok.set k b hb }

theorem Set_no (dom : ∀ x, own x → x < w.heap.size) (h : ClAt w own p v s) (i : Int) (hi : ¬ (0 ≤ i ∧ i < s.rows.length)) (A : Option Addr) (n c : Nat) :
    Calls Try.prog 23 #[.pointer (some ⟨p, 0, none⟩), .int .i64 i, .slice A n c] w fun e w' => e = .returned (.int .i64 2) ∧ ClGoes w own p s w' := by
  have CK := Lib.hid (check_no h i hi)
  have HG := Lib.hid (ClGoes.still dom h (Below.refl _ _))
  clear h hi
  go_enter Try.func23, Try.ntmps23
  go_wp2_with (go_at_call 25; refine CK.out.mono ?_; rintro e w' ⟨rfl, rfl⟩)
  go_ret
  exact ⟨rfl, HG.out⟩
theorem Set_size (dom : ∀ x, own x → x < w.heap.size) (h : ClAt w own p v s) (i : Int) (hi : 0 ≤ i ∧ i < s.rows.length) (A : Option Addr) (n c : Nat) (hn : n ≠ s.sz) :
    Calls Try.prog 23 #[.pointer (some ⟨p, 0, none⟩), .int .i64 i, .slice A n c] w fun e w' => e = .returned (.int .i64 7) ∧ ClGoes w own p s w' := by
  have CK := Lib.hid (check_ok h i hi)
  have HG := Lib.hid (ClGoes.still dom h (Below.refl _ _))
  have c0 := h.c0
  have hn' : ¬ ((n : Int) = (s.sz : Int)) := by omega
  clear h hi
  go_enter Try.func23, Try.ntmps23
  go_wp2_with (go_at_call 25; refine CK.out.mono ?_; rintro e w' ⟨rfl, rfl⟩)
  go_ret
  exact ⟨rfl, HG.out⟩
theorem Set_ok (dom : ∀ x, own x → x < w.heap.size) (h : ClAt w own p v s) (k : Nat) (hk : k < s.rows.length) (A : Option Addr) (c : Nat) (b : List UInt8) (hb : Rd w A s.sz b) :
    Calls Try.prog 23 #[.pointer (some ⟨p, 0, none⟩), .int .i64 k, .slice A s.sz c] w fun e w' => e = .returned (.int .i64 0) ∧ ClGoes w own p (s.set k b) w' := by
  have CK := Lib.hid (check_ok h (k : Int) ⟨by omega, by omega⟩)
  have CR := Lib.hid (row_any h k hk)
  have c0 := h.c0
  have hf := Co.fit (s := s) hk
  rw [← h.ok.len] at hf
  have HF := Lib.hid hf
  have H := Lib.hid h
  have HB := Lib.hid hb
  have DOM := Lib.hid dom
  clear h hb dom hf
  go_enter Try.func23, Try.ntmps23
  go_wp2_with (first
    | (go_at_call 25; refine CK.out.mono ?_; rintro e w' ⟨rfl, rfl⟩)
    | (go_at_call 26; refine CR.out.mono ?_; rintro e w1 ⟨⟨A1, rfl, hA1⟩, hB1⟩; have HA1 := Lib.hid hA1; have HB1 := Lib.hid hB1; clear hA1 hB1)
    | (with_reducible refine wpList_cpo bytesT rfl (.tmp 23) (.tmp 24) rfl (H.out.below HB1.out).row s.sz (k * s.sz) s.sz A1 HA1.out HF.out rfl A c b rfl (HB.out.below (Nat.le_refl _) HB1.out) ?_; intro w2 hO2 hF2; have HO2 := Lib.hid hO2; have HF2 := Lib.hid hF2; clear hO2 hF2))
  go_ret
  exact ⟨rfl, ClGoes.pre HB1.out (ClGoes.of (fun x hx => Nat.lt_of_lt_of_le (DOM.out x hx) HB1.out.size) (HF2.out.mono (fun x hx => H.out.ownv x hx)) ((H.out.below HB1.out).turned hk HB.out.1 HF2.out HO2.out))⟩

theorem Get_no (h : ClAt w own p v s) (i : Int) (hi : ¬ (0 ≤ i ∧ i < s.rows.length)) :
    Calls Try.prog 18 #[.pointer (some ⟨p, 0, none⟩), .int .i64 i] w fun e w' => e = .returned (.tuple #[.slice none 0 0, .int .i64 2]) ∧ w = w' := by
  have CK := Lib.hid (check_no h i hi)
  clear h hi
  go_enter Try.func18, Try.ntmps18
  go_wp2_with (go_at_call 25; refine CK.out.mono ?_; rintro e w' ⟨rfl, rfl⟩)
  go_ret2
  exact ⟨rfl, rfl⟩
theorem Get_ok (h : ClAt w own p v s) (k : Nat) (hk : k < s.rows.length) :
    Calls Try.prog 18 #[.pointer (some ⟨p, 0, none⟩), .int .i64 k] w fun e w' => ∃ g, e = .returned (.tuple #[.slice (some ⟨g, 0, none⟩) s.sz s.sz, .int .i64 0]) ∧ w.heap.size ≤ g ∧ w'.ownsRow g 5 1 (.slice (some ⟨g, 0, none⟩) s.sz s.sz) s.sz (cells (s.rows.getD k [])) ∧ Below w.heap.size w w' := by
  have CK := Lib.hid (check_ok h (k : Int) ⟨by omega, by omega⟩)
  have CR := Lib.hid (row_any h k hk)
  have hz := h.ok.z
  have H := Lib.hid h
  clear h
  go_enter Try.func18, Try.ntmps18
  go_wp2_with (first
    | (go_at_call 25; refine CK.out.mono ?_; rintro e w' ⟨rfl, rfl⟩)
    | (go_at_call 26; refine CR.out.mono ?_; rintro e w1 ⟨⟨A1, rfl, hA1⟩, hB1⟩; have HA1 := Lib.hid hA1; have HB1 := Lib.hid hB1; clear hA1 hB1)
    | (go_at_call 24; refine (fresh_any A1 s.sz s.sz _ w1 ((H.out.below HB1.out).rd k hk HA1.out) (by omega)).mono ?_; rintro e w2 ⟨rfl, hO2, hB2⟩))
  go_ret2
  exact ⟨_, rfl, HB1.out.size, hO2, HB1.out.trans (hB2.mono HB1.out.size)⟩
end
end Go.Proofs.Ytlblbhndfclhnaa
