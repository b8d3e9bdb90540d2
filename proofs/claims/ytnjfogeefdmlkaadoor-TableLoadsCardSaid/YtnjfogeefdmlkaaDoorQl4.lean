/- Cl2, Cl3, Cl4, BitsP, BitsTz, BitsCo, BitsO, BitsWo -/
import Derived.Test.YtnjfogeefdmlkaaDoorQl3
import Derived.Laws.BitsAllLaws
import Derived.Laws.Bits128
import Derived.Deep.WholeRow
namespace Go.Proofs.YtnjfogeefdmlkaaDoor
open Go.RowKit

section
variable {P : Program} {w : World} {T e : TypeId}
/-- Part of an owned row turned. -/
theorem own_splice {B n : Nat} {v : Value} {xs cs : List Value} (h : w.ownsRow B e 1 v n xs) {g off c : Nat} (hv : v = .slice (some ⟨g, 0, none⟩) n c) (hfit : off + cs.length ≤ n) {cur : Array Value} (hcur : w.heap[g]? = some (.cells cur e (0, 0))) :
    (w.setRow g (cur.toList.take off ++ (cs ++ cur.toList.drop (off + cs.length))).toArray).ownsRow B e 1 v n (splice xs off cs) := by
  obtain ⟨hl, hr⟩ := h
  rcases hr with ⟨h1, _⟩ | ⟨g', cap, cur', h1, hB, hh, hn, hc, hs, ht⟩
  · rw [hv] at h1; cases h1
  rw [hv] at h1
  injection h1 with h1 h2 h3
  injection h1 with h1
  injection h1 with h1
  subst h1 h3
  rw [hcur] at hh
  injection hh with hh
  injection hh with hh
  subst hh
  have hcl : cur.toList.length = c := by simpa using hs
  rw [Nat.mul_one] at ht
  refine ⟨by rw [length_splice _ _ _ (by omega)]; exact hl, .inr ⟨g, c, _, hv, hB, setRow_heap w g _ _ _ _ hcur, hn, hc, ?_, ?_⟩⟩
  · simp
    omega
  · rw [Nat.mul_one, ← ht]
    unfold splice
    rw [List.take_append, List.length_take, List.take_append, List.take_take, List.take_take, List.drop_take, Nat.min_eq_left (show off ≤ cur.toList.length by omega), Nat.min_eq_left (show off ≤ n by omega), Nat.min_eq_right (show off ≤ n by omega), List.take_of_length_le (l := cs) (show cs.length ≤ n - off by omega)]
    rw [show n - off - cs.length = n - (off + cs.length) by omega]
/-- A shorter row. -/
theorem own_less {B n m c : Nat} {A : Option Addr} {xs : List Value} (h : w.ownsRow B e 1 (.slice A n c) n xs) (hm : m ≤ n) : w.ownsRow B e 1 (.slice A m c) m (xs.take m) := by
  obtain ⟨hl, hr⟩ := h
  refine ⟨by rw [List.length_take]; omega, ?_⟩
  rcases hr with ⟨h1, h0⟩ | ⟨g', cap, cur', h1, hB, hh, hn, hc, hs, ht⟩
  · injection h1 with h1 h2 h3
    subst h1 h3
    exact .inl ⟨by rw [show m = 0 by omega], by omega⟩
  · injection h1 with h1 h2 h3
    subst h1 h3
    refine .inr ⟨g', c, cur', rfl, hB, hh, by omega, hc, hs, ?_⟩
    rw [← ht, List.take_take, Nat.mul_one, Nat.mul_one, Nat.min_eq_left hm]

variable {ops : Array Oper} {rest : List Oper} {o : Oper} {a : Act} {Q : Exit → Act → World → Prop}
/-- 'copy(v[off:off+k], b)', v a row of one's own, b any slice of k bytes. -/
theorem wpList_cpo (el : El P T e (.int .u8 0) 1 1) (hgd : o.guard = none) (x y : Operand)
    (ho : o.op = .call { callee := .builtin .copy, args := #[x, y], argTypes := #[T, T] })
    {B n : Nat} {v : Value} {xs : List Value} (hown : w.ownsRow B e 1 v n xs) (k off kc : Nat) (A' : Option Addr) (hA : 0 < k → ∃ g c, v = .slice (some ⟨g, 0, none⟩) n c ∧ A' = some ⟨g, off, none⟩) (hfit : off + k ≤ n)
    (hs : a.eval x = .slice A' k kc) (A : Option Addr) (c : Nat) (b : List UInt8) (hx : a.eval y = .slice A k c) (hr : Rd w A k b)
    (h : ∀ w', w'.ownsRow B e 1 v n (splice xs off (cells b)) → Fr (fun x => v.ownBlock = some x) w w' → wpList P ops Q rest (a.put o.dst (goInt k)) w') : wpList P ops Q (o :: rest) a w := by
  obtain ⟨i, hi, hz, h1, h2⟩ := info_parts el.info
  have hbl := hr.1
  rcases Nat.eq_zero_or_pos k with h0 | hp
  · subst h0
    have hb : b = [] := List.eq_nil_of_length_eq_zero hbl
    subst hb
    refine wpList_copy_nothing hgd x y T T ho e el.und (by rw [hi]; simp [h1]) A' A 0 kc 0 c hs hx rfl ?_
    exact h w (by simpa [splice, cells_nil] using hown) (Fr.refl _ _)
  · obtain ⟨g, cap, hv, hA'⟩ := hA hp
    obtain ⟨ad, hAd⟩ : ∃ ad, A = some ad := by obtain ⟨b', o', e', _⟩ := hr.2 hp; exact ⟨_, e'⟩
    subst hAd
    obtain ⟨cur, hcur, hcs⟩ : ∃ cur, w.heap[g]? = some (.cells cur e (0, 0)) ∧ n ≤ cur.size := by
      rcases hown.2 with ⟨h1, _⟩ | ⟨g', cap', cur', h1, hB, hh, hn, hc, hs, ht⟩
      · rw [hv] at h1; cases h1
      · rw [hv] at h1
        injection h1 with h1
        injection h1 with h1
        injection h1 with h1
        subst h1
        exact ⟨cur', hh, by omega⟩
    have hcl : (cells b).length = k := by rw [cells_length]; exact hbl
    refine wpList_copy_own hgd x y T T ho e el.und (by rw [hi]; simp [h1]) g off k kc ad k c (by rw [hs, hA']) hx cur e hcur (cells b) (by rw [hcl]; exact (Nat.min_self k).symm) hr.cells_at (by omega) (cells_one b) ?_
    rw [hcl]
    have := h _ (own_splice hown (off := off) (cs := cells b) hv (by omega) hcur) ⟨rfl, rfl, rfl, by simp [World.setRow], fun q _ hq => setRow_other w g q _ (fun e => hq (by rw [hv, e]; rfl))⟩
    rw [hcl] at this
    exact this

theorem run_appo (el : El P T e (.int .u8 0) 1 1) (ty : TypeId) (B : Nat) (v : Value) (n : Nat) (xs : List Value) (hown : w.ownsRow B e 1 v n xs)
    (A : Option Addr) (m c : Nat) (l : List UInt8) (hr : Rd w A m l) (hb : n + m ≤ 1000000000) (hB : B ≤ w.heap.size) :
    ∃ v' w', (Builtin.append_ #[T, T] ty #[v, .slice A m c]).run P w = .ok v' w' ∧ w'.ownsRow B e 1 v' (n + m) (xs ++ cells l) ∧ w.grownBy w' v.ownBlock ∧ (v'.ownBlock = v.ownBlock ∨ v'.ownBlock = some w.heap.size) := by
  obtain ⟨i, hi, hz, h1, h2⟩ := info_parts el.info
  rcases A with _ | ad
  · have hm : m = 0 := by
      rcases Nat.eq_zero_or_pos m with h0 | h0
      · exact h0
      · obtain ⟨_, _, h, _⟩ := hr.2 h0
        cases h
    subst hm
    have hn : l = [] := List.eq_nil_of_length_eq_zero hr.1
    subst hn
    exact ⟨v, w, run_app_nil w B T ty e i 1 el.und hi v n xs hown c, by simpa [cells_nil] using hown, World.grownBy.refl _ _, .inl rfl⟩
  · obtain ⟨v', w', hrun, r1, r2, _, r3⟩ := run_append_own_at (P := P) w B T ty e i (.int .u8 0) 1 1 el.und hi hz h1 h2 rfl (by decide) v n xs hown ad m c (cells l) (by simp [hr.1]) hr.cells_at (cells_one l) (by unfold maxLen; omega) (by omega) hB
    exact ⟨v', w', hrun, r1, r2, r3⟩
/-- 'append(v, x...)', v a row of one's own, x any slice of bytes. -/
theorem wpList_appo (el : El P T e (.int .u8 0) 1 1) (hgd : Region.wanted o (yielded ops a.tmps) = true) (s x : Operand)
    (ho : o.op = .call { callee := .builtin .append, args := #[s, x], argTypes := #[T, T] })
    (B : Nat) (v : Value) (n : Nat) (xs : List Value) (hs : a.eval s = v) (hown : w.ownsRow B e 1 v n xs)
    (A : Option Addr) (m c : Nat) (l : List UInt8) (hx : a.eval x = .slice A m c) (hr : Rd w A m l) (hb : n + m ≤ 1000000000) (hB : B ≤ w.heap.size)
    (h : ∀ v' w', w'.ownsRow B e 1 v' (n + m) (xs ++ cells l) → w.grownBy w' v.ownBlock → (v'.ownBlock = v.ownBlock ∨ v'.ownBlock = some w.heap.size) → wpList P ops Q rest (a.put o.dst v') w') : wpList P ops Q (o :: rest) a w :=
  wpList_w hgd fun _ hK => by
    obtain ⟨v', w', hrun, h2, h3, h4⟩ := run_appo el o.type B v n xs hown A m c l hr hb hB
    unfold Oper.wp execOp
    simp only [ho, resolve, invoke, builtin, Sem.run_bind, Sem.run_pure, Result.andThen_ok, List.map_toArray, List.map_cons, List.map_nil, hs, hx, hrun]
    exact hK _ _ (h v' w' h2 h3 h4)
end

theorem colT : RT Tryd.prog 108 3 := ⟨⟨_, Tryd.underlying108, rfl⟩, by kernel_rfl⟩

/-- What a call leaves of a column. -/
def ClGoes (w : World) (own : Nat → Prop) (p : Nat) (s : Co) (w' : World) : Prop :=
  Fr own w w' ∧ ∃ own', (∀ x, own' x → own x ∨ w.heap.size ≤ x) ∧ (∀ x, own' x → x < w'.heap.size) ∧ ∃ v, ClAt w' own' p v s

section
variable {w w1 w' : World} {own : Nat → Prop} {p : Nat} {v : Value} {s : Co}
theorem ClGoes.of (dom : ∀ x, own x → x < w.heap.size) {v' : Value} {s' : Co} (hf : Fr own w w') (h : ClAt w' own p v' s') : ClGoes w own p s' w' :=
  ⟨hf, own, fun _ hx => .inl hx, fun x hx => Nat.lt_of_lt_of_le (dom x hx) hf.size, v', h⟩
theorem ClGoes.still (dom : ∀ x, own x → x < w.heap.size) (h : ClAt w own p v s) (hb : Below w.heap.size w w') : ClGoes w own p s w' :=
  .of dom (Fr.ofBelow own hb) (h.below hb)
theorem ClGoes.pre {s' : Co} (hb : Below w.heap.size w w1) (h : ClGoes w1 own p s' w') : ClGoes w own p s' w' := by
  obtain ⟨hf, own', h1, h2⟩ := h
  exact ⟨(Fr.ofBelow own hb).trans hf, own', fun y hy => (h1 y hy).imp id (fun h => Nat.le_trans hb.size h), h2⟩
/-- The bytes turned within their row. -/
theorem ClAt.turned (h : ClAt w own p v s) {k : Nat} {b : List UInt8} (hk : k < s.rows.length) (hb : b.length = s.sz) (hf : Fr (fun x => v.ownBlock = some x) w w') (hr : w'.ownsRow 0 5 1 v s.bytes.length (splice (cells s.bytes) (k * s.sz) (cells b))) : ClAt w' own p v (s.set k b) := by
  have e := Co.set_bytes h.ok k hk b hb
  have hl : (s.set k b).rows.length = s.rows.length := by simp [Co.set]
  have hl2 : (s.set k b).bytes.length = s.bytes.length := by rw [(h.ok.set k b hb).len, h.ok.len, hl]; rfl
  exact {
    blk := by rw [hl]; exact h.blk.fr hf (fun e => h.ne p e rfl)
    row := by rw [hl2, ← e]; exact hr
    ownp := h.ownp
    ownv := h.ownv
    ne := h.ne
    ok := h.ok.set k b hb }

theorem Set_no (dom : ∀ x, own x → x < w.heap.size) (h : ClAt w own p v s) (i : Int) (hi : ¬ (0 ≤ i ∧ i < s.rows.length)) (A : Option Addr) (n c : Nat) :
    Calls Tryd.prog 38 #[.pointer (some ⟨p, 0, none⟩), .int .i64 i, .slice A n c] w fun e w' => e = .returned (.int .i64 2) ∧ ClGoes w own p s w' := by
  have CK := Lib.hid (check_no h i hi)
  have HG := Lib.hid (ClGoes.still dom h (Below.refl _ _))
  clear h hi
  go_enter Tryd.func38, Tryd.ntmps38
  go_wp2_with (go_at_call 53; refine CK.out.mono ?_; rintro e w' ⟨rfl, rfl⟩)
  go_ret
  exact ⟨rfl, HG.out⟩
theorem Set_size (dom : ∀ x, own x → x < w.heap.size) (h : ClAt w own p v s) (i : Int) (hi : 0 ≤ i ∧ i < s.rows.length) (A : Option Addr) (n c : Nat) (hn : n ≠ s.sz) :
    Calls Tryd.prog 38 #[.pointer (some ⟨p, 0, none⟩), .int .i64 i, .slice A n c] w fun e w' => e = .returned (.int .i64 7) ∧ ClGoes w own p s w' := by
  have CK := Lib.hid (check_ok h i hi)
  have HG := Lib.hid (ClGoes.still dom h (Below.refl _ _))
  have c0 := h.c0
  have hn' : ¬ ((n : Int) = (s.sz : Int)) := by omega
  clear h hi
  go_enter Tryd.func38, Tryd.ntmps38
  go_wp2_with (go_at_call 53; refine CK.out.mono ?_; rintro e w' ⟨rfl, rfl⟩)
  go_ret
  exact ⟨rfl, HG.out⟩
theorem Set_ok (dom : ∀ x, own x → x < w.heap.size) (h : ClAt w own p v s) (k : Nat) (hk : k < s.rows.length) (A : Option Addr) (c : Nat) (b : List UInt8) (hb : Rd w A s.sz b) :
    Calls Tryd.prog 38 #[.pointer (some ⟨p, 0, none⟩), .int .i64 k, .slice A s.sz c] w fun e w' => e = .returned (.int .i64 0) ∧ ClGoes w own p (s.set k b) w' := by
  have CK := Lib.hid (check_ok h (k : Int) ⟨by omega, by omega⟩)
  have CR := Lib.hid (row_any h k hk)
  have c0 := h.c0
  have hf := Co.fit (s := s) hk
  rw [← h.ok.len] at hf
  have HF := Lib.hid hf
  have H := Lib.hid h
  have HB := Lib.hid hb
  have DOM := Lib.hid dom
  clear h hb dom hf
  go_enter Tryd.func38, Tryd.ntmps38
  go_wp2_with (first
    | (go_at_call 53; refine CK.out.mono ?_; rintro e w' ⟨rfl, rfl⟩)
    | (go_at_call 54; refine CR.out.mono ?_; rintro e w1 ⟨⟨A1, rfl, hA1⟩, hB1⟩; have HA1 := Lib.hid hA1; have HB1 := Lib.hid hB1; clear hA1 hB1)
    | (with_reducible refine wpList_cpo bytesT rfl (.tmp 23) (.tmp 24) rfl (H.out.below HB1.out).row s.sz (k * s.sz) s.sz A1 HA1.out HF.out rfl A c b rfl (HB.out.below (Nat.le_refl _) HB1.out) ?_; intro w2 hO2 hF2; have HO2 := Lib.hid hO2; have HF2 := Lib.hid hF2; clear hO2 hF2))
  go_ret
  exact ⟨rfl, ClGoes.pre HB1.out (ClGoes.of (fun x hx => Nat.lt_of_lt_of_le (DOM.out x hx) HB1.out.size) (HF2.out.mono (fun x hx => H.out.ownv x hx)) ((H.out.below HB1.out).turned hk HB.out.1 HF2.out HO2.out))⟩

theorem Get_no (h : ClAt w own p v s) (i : Int) (hi : ¬ (0 ≤ i ∧ i < s.rows.length)) :
    Calls Tryd.prog 34 #[.pointer (some ⟨p, 0, none⟩), .int .i64 i] w fun e w' => e = .returned (.tuple #[.slice none 0 0, .int .i64 2]) ∧ w = w' := by
  have CK := Lib.hid (check_no h i hi)
  clear h hi
  go_enter Tryd.func34, Tryd.ntmps34
  go_wp2_with (go_at_call 53; refine CK.out.mono ?_; rintro e w' ⟨rfl, rfl⟩)
  go_ret2
  exact ⟨rfl, rfl⟩
theorem Get_ok (h : ClAt w own p v s) (k : Nat) (hk : k < s.rows.length) :
    Calls Tryd.prog 34 #[.pointer (some ⟨p, 0, none⟩), .int .i64 k] w fun e w' => ∃ g, e = .returned (.tuple #[.slice (some ⟨g, 0, none⟩) s.sz s.sz, .int .i64 0]) ∧ w.heap.size ≤ g ∧ w'.ownsRow g 5 1 (.slice (some ⟨g, 0, none⟩) s.sz s.sz) s.sz (cells (s.rows.getD k [])) ∧ Below w.heap.size w w' := by
  have CK := Lib.hid (check_ok h (k : Int) ⟨by omega, by omega⟩)
  have CR := Lib.hid (row_any h k hk)
  have hz := h.ok.z
  have H := Lib.hid h
  clear h
  go_enter Tryd.func34, Tryd.ntmps34
  go_wp2_with (first
    | (go_at_call 53; refine CK.out.mono ?_; rintro e w' ⟨rfl, rfl⟩)
    | (go_at_call 54; refine CR.out.mono ?_; rintro e w1 ⟨⟨A1, rfl, hA1⟩, hB1⟩; have HA1 := Lib.hid hA1; have HB1 := Lib.hid hB1; clear hA1 hB1)
    | (go_at_call 50; refine (fresh_any A1 s.sz s.sz _ w1 ((H.out.below HB1.out).rd k hk HA1.out) (by omega)).mono ?_; rintro e w2 ⟨rfl, hO2, hB2⟩))
  go_ret2
  exact ⟨_, rfl, HB1.out.size, hO2, HB1.out.trans (hB2.mono HB1.out.size)⟩
end
end Go.Proofs.YtnjfogeefdmlkaaDoor
namespace Go.Proofs.YtnjfogeefdmlkaaDoor
open Go.RowKit

section
variable {w w1 w' : World} {own : Nat → Prop} {p : Nat} {v : Value} {s : Co}

theorem ob_len (A : Option Addr) (n m c : Nat) : (Value.slice A n c).ownBlock = (Value.slice A m c).ownBlock := by cases A <;> rfl
theorem Add_size (dom : ∀ x, own x → x < w.heap.size) (h : ClAt w own p v s) (A : Option Addr) (n c : Nat) (hn : n ≠ s.sz) :
    Calls Tryd.prog 37 #[.pointer (some ⟨p, 0, none⟩), .slice A n c] w fun e w' => e = .returned (.int .i64 7) ∧ ClGoes w own p s w' := by
  have HG := Lib.hid (ClGoes.still dom h (Below.refl _ _))
  have c0 := h.c0
  have hn' : ¬ ((n : Int) = (s.sz : Int)) := by omega
  clear h
  go_enter Tryd.func37, Tryd.ntmps37
  go_wp2
  go_ret
  exact ⟨rfl, HG.out⟩
theorem Add_full (dom : ∀ x, own x → x < w.heap.size) (h : ClAt w own p v s) (A : Option Addr) (n c : Nat) (hn : n = s.sz) (hf : s.rows.length = 1024) :
    Calls Tryd.prog 37 #[.pointer (some ⟨p, 0, none⟩), .slice A n c] w fun e w' => e = .returned (.int .i64 9) ∧ ClGoes w own p s w' := by
  have HG := Lib.hid (ClGoes.still dom h (Below.refl _ _))
  have c0 := h.c0
  have c1 := h.c1
  rw [hf] at c1
  subst hn
  clear h
  go_enter Tryd.func37, Tryd.ntmps37
  go_wp2
  go_ret
  exact ⟨rfl, HG.out⟩
theorem Add_ok (dom : ∀ x, own x → x < w.heap.size) (h : ClAt w own p v s) (A : Option Addr) (n c : Nat) (b : List UInt8) (hb : Rd w A n b) (hn : n = s.sz) (hf : s.rows.length ≠ 1024) :
    Calls Tryd.prog 37 #[.pointer (some ⟨p, 0, none⟩), .slice A n c] w fun e w' => e = .returned (.int .i64 0) ∧ ClGoes w own p (s.add b) w' := by
  subst hn
  have c0 := h.c0
  have c1 := h.c1
  have c2 := h.c2
  have f1 := h.fz 1
  have f2 := h.fz 2
  have hn := h.ok.n
  have hz := h.ok.z
  have hs := h.ok.small
  have hf' : ¬ ((s.rows.length : Int) = 1024) := by omega
  have hfr : Fr own w w := Fr.refl _ _
  have H := Lib.hid h
  have HB := Lib.hid hb
  have DOM := Lib.hid dom
  have HF := Lib.hid hf
  clear h hb dom hf
  go_enter Tryd.func37, Tryd.ntmps37
  go_wp2_with (at_builtin; refine wpList_appo bytesT rfl (.tmp 23) (.tmp 24) rfl 0 v _ _ rfl H.out.row A s.sz c b rfl HB.out (by omega) (Nat.zero_le _) ?_; intro v2 w2 ho2 hg2 hv2; have hR2 := H.out.blk.fr (Fr.grown hg2 (own := fun x => v.ownBlock = some x) (fun x hx => hx)) (fun e => H.out.ne p e rfl); have k2 : w2.cell? ⟨p, 2, none⟩ = some v := hR2.at_ 2; have k1 : w2.cell? ⟨p, 1, none⟩ = some (.int .i64 (s.rows.length : Nat)) := hR2.at_ 1; have e2 := hR2.fz 2; have e1 := hR2.fz 1; obtain ⟨A2, c2, rfl, _, _, _, _⟩ := own_opens ho2; have HO2 := Lib.hid ho2; have HG2 := Lib.hid hg2; have HV2 := Lib.hid hv2; have HR2 := Lib.hid hR2; clear ho2 hg2 hv2 hR2)
  go_ret
  have hG := HG2.out
  have hne : ∀ x, (Value.slice A2 (s.bytes.length + s.sz) c2).ownBlock = some x → x ≠ p := fun x hx => by
    rcases HV2.out with h1 | h1
    · exact H.out.ne x (h1 ▸ hx)
    · have := H.out.lt
      rw [h1] at hx
      injection hx with hx
      omega
  have hs1 : Fr (· = p) w2 (w2.setCell ⟨p, 2, none⟩ (.slice A2 (s.bytes.length + s.sz) c2)) := Fr.setCell (own := (· = p)) w2 (p := ⟨p, 2, none⟩) rfl _
  have hs2 : Fr (· = p) (w2.setCell ⟨p, 2, none⟩ (.slice A2 (s.bytes.length + s.sz) c2)) ((w2.setCell ⟨p, 2, none⟩ (.slice A2 (s.bytes.length + s.sz) c2)).setCell ⟨p, 1, none⟩ (.int .i64 ((s.rows.length : Int) + 1))) := Fr.setCell (own := (· = p)) _ (p := ⟨p, 1, none⟩) rfl _
  have hF : Fr own w _ := ((Fr.grown hG (own := own) (fun x hx => H.out.ownv x hx)).trans (hs1.mono (fun x hx => by rw [show x = p from hx]; exact H.out.ownp))).trans (hs2.mono (fun x hx => by rw [show x = p from hx]; exact H.out.ownp))
  have hadd : ((s.add b).rows.length : Nat) = s.rows.length + 1 := by simp [Co.add]
  have hlen : (s.add b).bytes.length = s.bytes.length + s.sz := by rw [Co.add_bytes, List.length_append, HB.out.1]
  refine ⟨rfl, hF, fun x => own x ∨ (w.heap.size ≤ x ∧ x < ((w2.setCell ⟨p, 2, none⟩ (.slice A2 (s.bytes.length + s.sz) c2)).setCell ⟨p, 1, none⟩ (.int .i64 ((s.rows.length : Int) + 1))).heap.size), fun x hx => hx.imp id (fun h => h.1), fun x hx => ?_, .slice A2 (s.bytes.length + s.sz) c2, ?_⟩
  · rcases hx with h | h
    · exact Nat.lt_of_lt_of_le (DOM.out x h) hF.size
    · exact h.2
  · exact {
      blk := by
        have := (HR2.out.set 2 (.slice A2 (s.bytes.length + s.sz) c2)).set 1 (.int .i64 ((s.rows.length : Int) + 1))
        rw [hadd]
        exact this
      row := by
        rw [hlen, Co.add_bytes, cells_append]
        exact own_fr (own_fr HO2.out hs1 (fun x hx => hne x hx)) hs2 (fun x hx => hne x hx)
      ownp := .inl H.out.ownp
      ownv := fun x hx => by
        rcases HV2.out with h1 | h1
        · exact .inl (H.out.ownv x (h1 ▸ hx))
        · refine .inr ⟨?_, Nat.lt_of_lt_of_le ?_ (Nat.le_trans hs1.size hs2.size)⟩
          · rw [h1] at hx
            injection hx with hx
            omega
          · rcases HO2.out.2 with ⟨hn, _⟩ | ⟨g, cap, cur, hv, _, hh, _⟩
            · rw [hn] at hx; cases hx
            · rw [hv] at hx
              injection hx with hx
              exact hx ▸ (Array.getElem?_eq_some_iff.1 hh).1
      ne := hne
      ok := H.out.ok.add b HB.out.1 HF.out }

theorem Drop_no (dom : ∀ x, own x → x < w.heap.size) (h : ClAt w own p v s) (i : Int) (hi : ¬ (0 ≤ i ∧ i < s.rows.length)) :
    Calls Tryd.prog 32 #[.pointer (some ⟨p, 0, none⟩), .int .i64 i] w fun e w' => e = .returned (.int .i64 2) ∧ ClGoes w own p s w' := by
  have CK := Lib.hid (check_no h i hi)
  have HG := Lib.hid (ClGoes.still dom h (Below.refl _ _))
  clear h hi
  go_enter Tryd.func32, Tryd.ntmps32
  go_wp2_with (go_at_call 53; refine CK.out.mono ?_; rintro e w' ⟨rfl, rfl⟩)
  go_ret
  exact ⟨rfl, HG.out⟩
theorem Drop_ok (dom : ∀ x, own x → x < w.heap.size) (h : ClAt w own p v s) (k : Nat) (hk : k < s.rows.length) :
    Calls Tryd.prog 32 #[.pointer (some ⟨p, 0, none⟩), .int .i64 k] w fun e w' => e = .returned (.int .i64 0) ∧ ClGoes w own p (s.drop k) w' := by
  have CK := Lib.hid (check_ok h (k : Int) ⟨by omega, by omega⟩)
  have CR := Lib.hid (row_any h k hk)
  have c1 := h.c1
  have hf := Co.fit (s := s) hk
  rw [← h.ok.len] at hf
  have hla : s.rows.length - 1 < s.rows.length := by omega
  have hcut := Co.fit (s := s) hla
  rw [← h.ok.len] at hcut
  have hn := h.ok.n
  have hz := h.ok.z
  have hs := h.ok.small
  obtain ⟨A, c, rfl, hc, hm, _, _⟩ := own_opens h.row
  obtain ⟨L, hL⟩ : ∃ L, L = s.rows.length - 1 := ⟨_, rfl⟩
  have e1 : (s.rows.length : Int) - 1 = (L : Int) := by omega
  have HC := Lib.hid hcut
  have E1 := Lib.hid e1
  have HL := Lib.hid hL
  have HF := Lib.hid hf
  have H := Lib.hid h
  have DOM := Lib.hid dom
  rw [← hL] at hla hcut
  have HLA := Lib.hid hla
  obtain ⟨lr, hlr⟩ : ∃ lr, lr = s.rows.getD L [] := ⟨_, rfl⟩
  have hll : lr.length = s.sz := by rw [hlr]; exact h.ok.getD hla
  have e3 : (L : Int) * (s.sz : Int) = ((L * s.sz : Nat) : Int) := by push_cast; rfl
  have hdr : s.drop k = (s.set k lr).cut := by unfold Co.drop; rw [hlr, hL]
  have HDR := Lib.hid hdr
  have HLR := Lib.hid hlr
  have HK := Lib.hid hk
  have HLL := Lib.hid hll
  have E3 := Lib.hid e3
  clear h dom hf hcut hL e1 hla hlr e3 hdr hk hll
  go_enter Tryd.func32, Tryd.ntmps32
  go_wp2_with (first
    | (rw [E1.out])
    | (go_at_call 53; refine CK.out.mono ?_; rintro e w' ⟨rfl, rfl⟩)
    | (go_at_call 54; refine CR.out.mono ?_; clear CR; rintro e w1 ⟨⟨A1, rfl, hA1⟩, hB1⟩; have HA1 := Lib.hid hA1; have HB1 := Lib.hid hB1; have H1 := Lib.hid (H.out.below hB1); clear hA1 hB1)
    | (go_at_call 54; refine (row_any H1.out L HLA.out).mono ?_; rintro e w2 ⟨⟨A2, rfl, hA2⟩, hB2⟩; have HR2 := Lib.hid (((H1.out.below hB2).rd L HLA.out hA2)); have HB2 := Lib.hid (HB1.out.trans (hB2.mono HB1.out.size)); have H2 := Lib.hid (H1.out.below hB2); rw [← HLR.out] at HR2; clear hA2 hB2)
    | (with_reducible refine wpList_cpo bytesT rfl (.tmp 20) (.tmp 23) rfl H2.out.row s.sz (k * s.sz) s.sz A1 HA1.out HF.out rfl A2 s.sz lr rfl HR2.out ?_; intro w3 hO3 hF3))
  have H3 := (H2.out.turned HK.out HLL.out hF3 hO3)
  have q0 : w3.drew.cell? ⟨p, 0, none⟩ = some (.int .i64 (s.sz : Nat)) := H3.c0
  have q2 : w3.drew.cell? ⟨p, 2, none⟩ = some (.slice A s.bytes.length c) := H3.c2
  have f2 : w3.drew.frozen? ⟨p, 2, none⟩ = false := H3.fz 2
  have f1 : w3.drew.frozen? ⟨p, 1, none⟩ = false := H3.fz 1
  obtain ⟨M, hM⟩ : ∃ M, M = L * s.sz := ⟨_, rfl⟩
  have e4 : IntKind.i64.wrap ((L : Int) * (s.sz : Int)) = (M : Int) := by
    have h1 := HC.out
    rw [← HL.out, ← hM] at h1
    rw [E3.out, ← hM, IntKind.wrap_i64]
    omega
  have hMc : (M : Int) ≤ (c : Int) := by have := HC.out; have := HL.out; rw [← HL.out, ← hM] at *; omega
  have hM0 : (0 : Int) ≤ (M : Int) := by omega
  have HMM := Lib.hid hM
  clear hM
  obtain ⟨w4, hw4⟩ : ∃ w4, w4 = (w3.setCell ⟨p, 2, none⟩ (.slice A M c)).drew := ⟨_, rfl⟩
  have hs1 : Fr (· = p) w3 w4 := by rw [hw4]; exact (Fr.setCell (own := (· = p)) w3 (p := ⟨p, 2, none⟩) rfl _).trans (Fr.drew _ _)
  have hB4 : Rec 108 w4 p #[.int .i64 (s.sz : Nat), .int .i64 ((s.set k lr).rows.length : Nat), .slice A M c] := by
    rw [hw4]
    exact (H3.blk.set 2 (.slice A M c)).block rfl
  have e1 : w4.frozen? ⟨p, 1, none⟩ = false := hB4.fz 1
  have d1 : w4.cell? ⟨p, 1, none⟩ = some (.int .i64 ((s.set k lr).rows.length : Nat)) := hB4.at_ 1
  have HB4 := Lib.hid hB4
  have HS1 := Lib.hid hs1
  have HW4 := Lib.hid hw4
  clear hw4 hB4 hs1
  have HH3 := Lib.hid H3
  have HF3 := Lib.hid hF3
  clear H3 hF3 hO3 H2 HR2 HA1 H1 CK c1
  go_region
  all_goals
    rw [← HW4.out]
    go_wp2
    go_ret
    have hok := H.out.ok.set k lr HLL.out
    have hb : (s.set k lr).bytes.length = s.bytes.length := by rw [hok.len, H.out.ok.len]; simp [Co.set]
    have hrl : (s.set k lr).rows.length - 1 = L := by rw [HL.out]; simp [Co.set]
    have hcl : (s.set k lr).cut.rows.length = L := by simp only [Co.cut, List.length_take]; omega
    have hcb : (cells (s.set k lr).bytes).take M = cells (s.set k lr).cut.bytes := by
      rw [← cells_take, HMM.out, ← hrl]
      exact congrArg cells (Co.cut_bytes hok)
    have hr := HH3.out.row
    rw [hb] at hr
    have hr2 := own_less hr (m := M) (by have := HC.out; rw [← HL.out, ← HMM.out] at this; omega)
    rw [hcb] at hr2
    have hne := HH3.out.ne
    have hs2 : Fr (· = p) w4 (w4.setCell ⟨p, 1, none⟩ (.int .i64 (L : Int))) := Fr.setCell (own := (· = p)) _ (p := ⟨p, 1, none⟩) rfl _
    have hs := HS1.out.trans hs2
    have hrow := own_fr hr2 hs (fun x hx e => hne x ((ob_len A M s.bytes.length c).symm ▸ hx) e)
    rw [HDR.out]
    refine ⟨rfl, ClGoes.pre HB2.out (ClGoes.of (fun x hx => Nat.lt_of_lt_of_le (DOM.out x hx) HB2.out.size) ((HF3.out.mono (fun x hx => H.out.ownv x hx)).trans (hs.mono (fun x hx => by rw [show x = p from hx]; exact H.out.ownp))) (v' := .slice A M c) ?_)⟩
    exact {
      blk := by
        have := HB4.out.set 1 (.int .i64 (L : Int))
        rw [hcl]
        exact this
      row := by
        have hl2 := hr2.1
        rw [cells_length, Nat.mul_one] at hl2
        rw [hl2]
        exact hrow
      ownp := H.out.ownp
      ownv := fun x hx => H.out.ownv x ((ob_len A M s.bytes.length c).symm ▸ hx)
      ne := fun x hx => hne x ((ob_len A M s.bytes.length c).symm ▸ hx)
      ok := hok.cut }
end
end Go.Proofs.YtnjfogeefdmlkaaDoor
namespace Go.Proofs.YtnjfogeefdmlkaaDoor
open Go.RowKit

section
variable {w w1 w' : World} {own : Nat → Prop} {p : Nat} {v : Value} {s : Co}

theorem Set_any (dom : ∀ x, own x → x < w.heap.size) (h : ClAt w own p v s) (i : Int) (A : Option Addr) (n c : Nat) (b : List UInt8) (hb : Rd w A n b) :
    Calls Tryd.prog 38 #[.pointer (some ⟨p, 0, none⟩), .int .i64 i, .slice A n c] w fun e w' => e = .returned (.int .i64 (s.go 1 i b).2.2) ∧ ClGoes w own p (s.go 1 i b).1 w' := by
  have hbl := hb.1
  by_cases hi : 0 ≤ i ∧ i < s.rows.length
  · by_cases hn : b.length = s.sz
    · have e : s.go 1 i b = (s.set i.toNat b, [], 0) := by unfold Co.go; rw [if_pos rfl, if_pos hi, if_pos hn]
      rw [e]
      obtain ⟨k, rfl⟩ : ∃ k : Nat, i = (k : Int) := ⟨i.toNat, by omega⟩
      obtain rfl : n = s.sz := by omega
      exact Set_ok dom h k (by omega) A c b hb
    · have e : s.go 1 i b = (s, [], 7) := by unfold Co.go; rw [if_pos rfl, if_pos hi, if_neg hn]
      rw [e]
      exact Set_size dom h i hi A n c (by omega)
  · have e : s.go 1 i b = (s, [], 2) := by unfold Co.go; rw [if_pos rfl, if_neg hi]
    rw [e]
    exact Set_no dom h i hi A n c
theorem Get_any (dom : ∀ x, own x → x < w.heap.size) (h : ClAt w own p v s) (i : Int) (b : List UInt8) :
    Calls Tryd.prog 34 #[.pointer (some ⟨p, 0, none⟩), .int .i64 i] w fun e w' => ∃ A n c, e = .returned (.tuple #[.slice A n c, .int .i64 (s.go 2 i b).2.2]) ∧ (∀ q o, A = some ⟨q, o, none⟩ → w.heap.size ≤ q) ∧ Rd w' A n (s.go 2 i b).2.1 ∧ ClGoes w own p (s.go 2 i b).1 w' := by
  by_cases hi : 0 ≤ i ∧ i < s.rows.length
  · have e : s.go 2 i b = (s, s.rows.getD i.toNat [], 0) := by unfold Co.go; rw [if_neg (by decide), if_pos rfl, if_pos hi]
    rw [e]
    obtain ⟨k, rfl⟩ : ∃ k : Nat, i = (k : Int) := ⟨i.toNat, by omega⟩
    refine (Get_ok h k (by omega)).mono ?_
    rintro e w' ⟨g, rfl, hg, hO, hB⟩
    exact ⟨_, _, _, rfl, (fun q o e => by injection e with e; injection e with e1 _; omega), Rd.of_own' hO, ClGoes.still dom h hB⟩
  · have e : s.go 2 i b = (s, [], 2) := by unfold Co.go; rw [if_neg (by decide), if_pos rfl, if_neg hi]
    rw [e]
    refine (Get_no h i hi).mono ?_
    rintro e w' ⟨rfl, rfl⟩
    exact ⟨_, _, _, rfl, (fun q o e => by cases e), Rd.nil _ _, ClGoes.still dom h (Below.refl _ _)⟩
theorem Drop_any (dom : ∀ x, own x → x < w.heap.size) (h : ClAt w own p v s) (i : Int) (b : List UInt8) :
    Calls Tryd.prog 32 #[.pointer (some ⟨p, 0, none⟩), .int .i64 i] w fun e w' => e = .returned (.int .i64 (s.go 3 i b).2.2) ∧ ClGoes w own p (s.go 3 i b).1 w' := by
  by_cases hi : 0 ≤ i ∧ i < s.rows.length
  · have e : s.go 3 i b = (s.drop i.toNat, [], 0) := by unfold Co.go; rw [if_neg (by decide), if_neg (by decide), if_pos rfl, if_pos hi]
    rw [e]
    obtain ⟨k, rfl⟩ : ∃ k : Nat, i = (k : Int) := ⟨i.toNat, by omega⟩
    exact Drop_ok dom h k (by omega)
  · have e : s.go 3 i b = (s, [], 2) := by unfold Co.go; rw [if_neg (by decide), if_neg (by decide), if_pos rfl, if_neg hi]
    rw [e]
    exact Drop_no dom h i hi
theorem Add_any (dom : ∀ x, own x → x < w.heap.size) (h : ClAt w own p v s) (d i : Int) (hd : d ≠ 1 ∧ d ≠ 2 ∧ d ≠ 3) (A : Option Addr) (n c : Nat) (b : List UInt8) (hb : Rd w A n b) :
    Calls Tryd.prog 37 #[.pointer (some ⟨p, 0, none⟩), .slice A n c] w fun e w' => e = .returned (.int .i64 (s.go d i b).2.2) ∧ ClGoes w own p (s.go d i b).1 w' := by
  have hbl := hb.1
  by_cases hn : b.length = s.sz
  · by_cases hf : s.rows.length = 1024
    · have e : s.go d i b = (s, [], 9) := by unfold Co.go; rw [if_neg hd.1, if_neg hd.2.1, if_neg hd.2.2, if_pos hn, if_pos hf]
      rw [e]
      exact Add_full dom h A n c (by omega) hf
    · have e : s.go d i b = (s.add b, [], 0) := by unfold Co.go; rw [if_neg hd.1, if_neg hd.2.1, if_neg hd.2.2, if_pos hn, if_neg hf]
      rw [e]
      exact Add_ok dom h A n c b hb (by omega) hf
  · have e : s.go d i b = (s, [], 7) := by unfold Co.go; rw [if_neg hd.1, if_neg hd.2.1, if_neg hd.2.2, if_neg hn]
    rw [e]
    exact Add_size dom h A n c (by omega)
end

section
variable {w : World} {own : Nat → Prop} {p : Nat} {v : Value} {s : Co}
/-- Rows that may be loaded. -/
theorem Load_ok (size : Int) (t : Co) (ht : t.Ok) (hz : t.sz = (Co.new size).sz) (A : Option Addr) (n c : Nat) (hr : Rd w A n t.bytes) :
    Calls Tryd.prog 26 #[.int .i64 size, .int .i64 (t.rows.length : Nat), .slice A n c] w fun e w' => e = .returned (.tuple #[.pointer (some ⟨w.heap.size, 0, none⟩), .int .i64 0]) ∧ Below w.heap.size w w' ∧ ∃ v, ClAt w' (fun x => w.heap.size ≤ x ∧ x < w'.heap.size) w.heap.size v t := by
  have CN := Lib.hid (ClNew_any size w)
  have hl := ht.len
  have hs := ht.small
  have hn1 := ht.n
  have hz1 := ht.z
  have hnl := hr.1
  have e1 : wrap64 ((t.rows.length : Int) * (t.sz : Int)) = (n : Int) := by
    rw [show (t.rows.length : Int) * (t.sz : Int) = ((t.rows.length * t.sz : Nat) : Int) by push_cast; rfl]
    unfold wrap64; omega
  have hp : (t.rows.length : Int) * (t.sz : Int) = (n : Int) := by
    rw [show (t.rows.length : Int) * (t.sz : Int) = ((t.rows.length * t.sz : Nat) : Int) by push_cast; rfl]
    omega
  obtain ⟨L, hL⟩ : ∃ L, L = t.rows.length := ⟨_, rfl⟩
  rw [← hL] at hn1 hp ⊢
  have HT := Lib.hid ht
  have HL := Lib.hid hL
  have HR := Lib.hid hr
  have HZ := Lib.hid hz
  clear ht hL hr hz e1 hl
  go_enter Tryd.func26, Tryd.ntmps26
  go_wp2_with (first
    | (go_at_call 46; refine CN.out.mono ?_; rintro e w1 ⟨rfl, hB1, hlt1, hC1⟩; have c0 := hC1.c0; rw [← HZ.out] at c0; have f1 := hC1.fz 1; have k1 := hC1.c1; have HC1 := Lib.hid hC1; have HB1 := Lib.hid hB1; clear hC1 hB1))
  obtain ⟨w2, hw2⟩ : ∃ w2, w2 = w1.setCell ⟨w.heap.size, 1, none⟩ (.int .i64 (L : Int)) := ⟨_, rfl⟩
  have hB2 : Below w.heap.size w w2 := by rw [hw2]; exact HB1.out.setCell (p := ⟨w.heap.size, 1, none⟩) (Nat.le_refl _) _
  have hR2 : Rec 108 w2 w.heap.size #[.int .i64 (t.sz : Nat), .int .i64 (L : Nat), nilv] := by
    rw [hw2, HZ.out]
    exact HC1.out.blk.set 1 _
  rw [← hw2]
  clear hw2 c0 f1 k1
  refine (fresh_any A n c t.bytes w2 (HR.out.below (Nat.le_refl _) hB2) (by omega)).mono ?_
  rintro e w3 ⟨rfl, hO3, hB3⟩
  have hR3 := hR2.under hB3
  have f2 := hR3.fz 2
  have k2 : w3.cell? ⟨w.heap.size, 2, none⟩ = some nilv := hR3.at_ 2
  have HR3 := Lib.hid hR3
  have HO3 := Lib.hid hO3
  have HB3 := Lib.hid (hB2.trans (hB3.mono hB2.size))
  have HLT := Lib.hid hR2.lt
  clear hR3 hO3 hB3 hR2 hB2
  go_wp2
  go_ret2
  have hs2 : Fr (· = w.heap.size) w3 (w3.setCell ⟨w.heap.size, 2, none⟩ (.slice (some ⟨w2.heap.size, 0, none⟩) n n)) := Fr.setCell (own := (· = w.heap.size)) w3 (p := ⟨w.heap.size, 2, none⟩) rfl _
  have hx2 : w2.heap.size < w3.heap.size := by
    rcases HO3.out.2 with ⟨hn, _⟩ | ⟨g, cap, cur, hv, _, hh, _⟩
    · cases hn
    · injection hv with hv
      injection hv with hv
      injection hv with hv
      rw [hv]
      exact (Array.getElem?_eq_some_iff.1 hh).1
  have hlt := HLT.out
  have hsz := hs2.size
  refine ⟨rfl, HB3.out.setCell (p := ⟨w.heap.size, 2, none⟩) (Nat.le_refl _) _, .slice (some ⟨w2.heap.size, 0, none⟩) n n, ?_⟩
  exact {
    blk := by
      rw [← HL.out]
      exact HR3.out.set 2 _
    row := by
      rw [hnl]
      exact own_mono (own_fr HO3.out hs2 (fun x hx e => by injection hx with hx; have hx' : w2.heap.size = x := hx; have e' : x = w.heap.size := e; omega)) (Nat.zero_le _)
    ownp := ⟨Nat.le_refl _, by omega⟩
    ownv := fun x hx => by injection hx with hx; have hx' : w2.heap.size = x := hx; exact ⟨by omega, by omega⟩
    ne := fun x hx => by injection hx with hx; have hx' : w2.heap.size = x := hx; omega
    ok := HT.out }
end
end Go.Proofs.YtnjfogeefdmlkaaDoor
namespace Go.Proofs.YtnjfogeefdmlkaaDoor

/-! How many. -/
def cnt : Nat → Nat → Nat
  | 0, _ => 0
  | n + 1, x => x % 2 + cnt n (x / 2)
theorem cnt_list (n : Nat) : ∀ x, ((List.range n).filter fun i => x.testBit i).length = cnt n x := by
  induction n with
  | zero => intro x; rfl
  | succ n ih =>
    intro x
    rw [List.range_succ_eq_map, List.filter_cons]
    have hm : ((List.map Nat.succ (List.range n)).filter fun i => x.testBit i).length = cnt n (x / 2) := by
      rw [← ih, List.filter_map, List.length_map]
      congr 1
      exact List.filter_congr fun i _ => by simp [Nat.testBit_succ]
    unfold cnt
    rw [Nat.testBit_zero]
    by_cases h : x % 2 = 1
    · simp only [h, decide_true, if_true, List.length_cons, hm]
      omega
    · have : x % 2 = 0 := by omega
      simp only [this, Nat.zero_add]
      simpa using hm
theorem listN_len (s : Nat) : (listN s).length = cnt 64 s := cnt_list 64 s
theorem cnt_add (a : Nat) : ∀ b x, cnt (a + b) x = cnt a x + cnt b (x / 2 ^ a) := by
  induction a with
  | zero => intro b x; simp [cnt]
  | succ a ih =>
    intro b x
    rw [show a + 1 + b = (a + b) + 1 by omega]
    show x % 2 + cnt (a + b) (x / 2) = x % 2 + cnt a (x / 2) + cnt b (x / 2 ^ (a + 1))
    rw [ih, Nat.div_div_eq_div_mul, Nat.pow_succ, Nat.mul_comm 2]
    omega
theorem cnt_mod (a : Nat) : ∀ x, cnt a (x % 2 ^ a) = cnt a x := by
  induction a with
  | zero => intro x; rfl
  | succ a ih =>
    intro x
    show x % 2 ^ (a + 1) % 2 + cnt a (x % 2 ^ (a + 1) / 2) = x % 2 + cnt a (x / 2)
    have h1 : x % 2 ^ (a + 1) / 2 = (x / 2) % 2 ^ a := by rw [Nat.pow_succ, Nat.mul_comm, Nat.mod_mul_right_div_self]
    have h2 : x % 2 ^ (a + 1) % 2 = x % 2 := Nat.mod_mod_of_dvd _ ⟨2 ^ a, by rw [Nat.pow_succ, Nat.mul_comm]⟩
    rw [h1, h2, ih]
theorem cnt_byte (n x : Nat) : cnt (8 + n) x = cnt 8 (x % 256) + cnt n (x / 256) := by
  rw [cnt_add, ← cnt_mod 8 x]

theorem and_parts (a b c d : Nat) (ha : a < 256) (hc : c < 256) : (a + 256 * b) &&& (c + 256 * d) = (a &&& c) + 256 * (b &&& d) := by
  have hac : a &&& c < 2 ^ 8 := Nat.lt_of_le_of_lt Nat.and_le_left ha
  apply Nat.eq_of_testBit_eq
  intro i
  rw [Nat.testBit_and, Nat.add_comm a, Nat.add_comm c, Nat.add_comm (a &&& c), show (256 : Nat) = 2 ^ 8 from rfl, Nat.testBit_two_pow_mul_add _ ha, Nat.testBit_two_pow_mul_add _ hc, Nat.testBit_two_pow_mul_add _ hac]
  by_cases h : i < 8 <;> simp [h, Nat.testBit_and]
def rep (m : Nat) : Nat → Nat
  | 0 => 0
  | n + 1 => m + 256 * rep m n
theorem byte_parts (x : Nat) : x = x % 256 + 256 * (x / 256) := by omega
/-- The first sum, byte by byte. -/
def s1 (n x : Nat) : Nat := (x / 2 &&& rep 85 n) + (x &&& rep 85 n)
def s2 (n x : Nat) : Nat := (x / 4 &&& rep 51 n) + (x &&& rep 51 n)
def s3 (n x : Nat) : Nat := (x / 16 + x) &&& rep 15 n
theorem half_mask : ∀ a, a < 256 → ∀ b, b < 2 → (a / 2 + 128 * b) &&& 85 = a / 2 &&& 85 := by decide +kernel
theorem quarter_mask : ∀ a, a < 256 → ∀ b, b < 4 → (a / 4 + 64 * b) &&& 51 = a / 4 &&& 51 := by decide +kernel
theorem b1 : ∀ a, a < 256 → (a / 2 &&& 85) + (a &&& 85) < 256 := by decide +kernel
theorem b2 : ∀ a, a < 256 → (a / 4 &&& 51) + (a &&& 51) < 256 := by decide +kernel
theorem s1_step (n x : Nat) : s1 (n + 1) x = ((x % 256 / 2 &&& 85) + (x % 256 &&& 85)) + 256 * s1 n (x / 256) := by
  unfold s1
  have e1 : x / 2 = (x % 256 / 2 + 128 * (x / 256 % 2)) + 256 * (x / 256 / 2) := by omega
  have h1 : x / 2 &&& rep 85 (n + 1) = (x % 256 / 2 &&& 85) + 256 * (x / 256 / 2 &&& rep 85 n) := by
    rw [e1]
    show _ &&& (85 + 256 * rep 85 n) = _
    rw [and_parts _ _ _ _ (by omega) (by decide), half_mask _ (by omega) _ (by omega)]
  have h2 : x &&& rep 85 (n + 1) = (x % 256 &&& 85) + 256 * (x / 256 &&& rep 85 n) := by
    conv => lhs; rw [byte_parts x]
    show _ &&& (85 + 256 * rep 85 n) = _
    rw [and_parts _ _ _ _ (by omega) (by decide)]
  rw [h1, h2]
  omega
theorem s2_step (n x : Nat) : s2 (n + 1) x = ((x % 256 / 4 &&& 51) + (x % 256 &&& 51)) + 256 * s2 n (x / 256) := by
  unfold s2
  have e1 : x / 4 = (x % 256 / 4 + 64 * (x / 256 % 4)) + 256 * (x / 256 / 4) := by omega
  have h1 : x / 4 &&& rep 51 (n + 1) = (x % 256 / 4 &&& 51) + 256 * (x / 256 / 4 &&& rep 51 n) := by
    rw [e1]
    show _ &&& (51 + 256 * rep 51 n) = _
    rw [and_parts _ _ _ _ (by omega) (by decide), quarter_mask _ (by omega) _ (by omega)]
  have h2 : x &&& rep 51 (n + 1) = (x % 256 &&& 51) + 256 * (x / 256 &&& rep 51 n) := by
    conv => lhs; rw [byte_parts x]
    show _ &&& (51 + 256 * rep 51 n) = _
    rw [and_parts _ _ _ _ (by omega) (by decide)]
  rw [h1, h2]
  omega
/-- Both halves of each byte are at most 4. -/
def small4 : Nat → Nat → Prop
  | 0, _ => True
  | n + 1, x => x % 256 / 16 ≤ 4 ∧ x % 16 ≤ 4 ∧ small4 n (x / 256)
theorem and15 (a : Nat) : a &&& 15 = a % 16 := Nat.and_two_pow_sub_one_eq_mod a 4
theorem s3_step (n x : Nat) (h : x % 256 / 16 ≤ 4 ∧ x % 16 ≤ 4 ∧ x / 256 % 16 ≤ 4) : s3 (n + 1) x = (x % 256 / 16 + x % 16) + 256 * s3 n (x / 256) := by
  unfold s3
  have e1 : x / 16 + x = (x % 256 / 16 + x % 256 + 16 * (x / 256 % 16)) + 256 * (x / 256 / 16 + x / 256) := by omega
  rw [e1]
  show _ &&& (15 + 256 * rep 15 n) = _
  rw [and_parts _ _ _ _ (by omega) (by decide), and15]
  omega
theorem byte_count : ∀ a, a < 256 → (let u := (a / 2 &&& 85) + (a &&& 85); let v := (u / 4 &&& 51) + (u &&& 51); v < 256 ∧ v / 16 ≤ 4 ∧ v % 16 ≤ 4 ∧ v / 16 + v % 16 = cnt 8 a ∧ cnt 8 a ≤ 8) := by decide +kernel
def oc (n x : Nat) : Nat := s3 n (s2 n (s1 n x))
theorem s2_low (n x : Nat) : s2 n (s1 n x) % 16 ≤ 4 := by
  rcases n with _ | n
  · have h1 : s1 0 x = 0 := by unfold s1; show (x / 2 &&& 0) + (x &&& 0) = 0; simp
    rw [h1]
    decide
  · have hb := byte_count (x % 256) (by omega)
    have hu := b1 (x % 256) (by omega)
    rw [s2_step, s1_step]
    obtain ⟨u, hu'⟩ : ∃ u, u = (x % 256 / 2 &&& 85) + (x % 256 &&& 85) := ⟨_, rfl⟩
    rw [← hu'] at hu hb ⊢
    have e : (u + 256 * s1 n (x / 256)) % 256 = u := by omega
    rw [e]
    simp only at hb
    obtain ⟨_, _, k3, _⟩ := hb
    omega
theorem oc_step (n x : Nat) : oc (n + 1) x = cnt 8 (x % 256) + 256 * oc n (x / 256) ∧ cnt 8 (x % 256) ≤ 8 := by
  unfold oc
  obtain ⟨u, hu⟩ : ∃ u, u = (x % 256 / 2 &&& 85) + (x % 256 &&& 85) := ⟨_, rfl⟩
  obtain ⟨v, hv⟩ : ∃ v, v = (u / 4 &&& 51) + (u &&& 51) := ⟨_, rfl⟩
  have hb := byte_count (x % 256) (by omega)
  simp only [← hu, ← hv] at hb
  obtain ⟨k1, k2, k3, k4, k5⟩ := hb
  refine ⟨?_, k5⟩
  have hu1 : u < 256 := by rw [hu]; exact b1 _ (by omega)
  have e1 : s1 (n + 1) x = u + 256 * s1 n (x / 256) := by rw [s1_step, ← hu]
  have m1 : s1 (n + 1) x % 256 = u := by omega
  have d1 : s1 (n + 1) x / 256 = s1 n (x / 256) := by omega
  have e2 : s2 (n + 1) (s1 (n + 1) x) = v + 256 * s2 n (s1 n (x / 256)) := by rw [s2_step, m1, d1, ← hv]
  have m2 : s2 (n + 1) (s1 (n + 1) x) % 256 = v := by omega
  have m3 : s2 (n + 1) (s1 (n + 1) x) % 16 = v % 16 := by omega
  have d2 : s2 (n + 1) (s1 (n + 1) x) / 256 = s2 n (s1 n (x / 256)) := by omega
  have hnext := s2_low n (x / 256)
  rw [s3_step _ _ ⟨by rw [m2]; exact k2, by rw [m3]; exact k3, by rw [d2]; exact hnext⟩, m2, m3, d2, k4]
theorem s2_small (n : Nat) : ∀ x, s2 n (s1 n x) ≤ rep 68 n := by
  induction n with
  | zero => intro x; show (s1 0 x / 4 &&& 0) + (s1 0 x &&& 0) ≤ 0; simp
  | succ n ih =>
    intro x
    have hb := byte_count (x % 256) (by omega)
    have hu := b1 (x % 256) (by omega)
    have := ih (x / 256)
    rw [s2_step, s1_step]
    show _ ≤ 68 + 256 * rep 68 n
    obtain ⟨u, hu'⟩ : ∃ u, u = (x % 256 / 2 &&& 85) + (x % 256 &&& 85) := ⟨_, rfl⟩
    rw [← hu'] at hu hb ⊢
    have e : (u + 256 * s1 n (x / 256)) % 256 = u := by omega
    have e' : (u + 256 * s1 n (x / 256)) / 256 = s1 n (x / 256) := by omega
    rw [e, e']
    simp only at hb
    obtain ⟨_, k2, k3, _⟩ := hb
    omega
theorem s1_lt (n : Nat) : ∀ x, x < 256 ^ n → s1 n x < 256 ^ n := by
  induction n with
  | zero => intro x h; have : x = 0 := by simpa using h
            subst this; decide
  | succ n ih =>
    intro x h
    rw [Nat.pow_succ] at h ⊢
    have := ih (x / 256) (Nat.div_lt_of_lt_mul (by rw [Nat.mul_comm]; exact h))
    have := b1 (x % 256) (by omega)
    rw [s1_step]
    omega
theorem s2_lt (n : Nat) : ∀ x, x < 256 ^ n → s2 n x < 256 ^ n := by
  induction n with
  | zero => intro x h; have : x = 0 := by simpa using h
            subst this; decide
  | succ n ih =>
    intro x h
    rw [Nat.pow_succ] at h ⊢
    have := ih (x / 256) (Nat.div_lt_of_lt_mul (by rw [Nat.mul_comm]; exact h))
    have := b2 (x % 256) (by omega)
    rw [s2_step]
    omega
theorem dq {a p A : Nat} (e : a = p + 256 * A) (h : p < 256) : a / 256 = A := by omega
theorem addq {a b p q A B : Nat} (ha : a = p + 256 * A) (hb : b = q + 256 * B) : a + b = (p + q) + 256 * (A + B) := by omega
theorem bq {a p A K : Nat} (e : a = p + 256 * A) (h : p ≤ 8) (hA : A ≤ K) : a ≤ 8 + 256 * K := by omega
theorem mq {a p A : Nat} (e : a = p + 256 * A) (h : p < 128) : a % 128 = p := by omega
/-- The last three sums and the mask: A the digits to the base 256 from the k-th on. -/
theorem swar (A0 A1 A2 A3 A4 A5 A6 A7 p0 p1 p2 p3 p4 p5 p6 p7 : Nat) (h0 : p0 ≤ 8) (h1 : p1 ≤ 8) (h2 : p2 ≤ 8) (h3 : p3 ≤ 8) (h4 : p4 ≤ 8) (h5 : p5 ≤ 8) (h6 : p6 ≤ 8) (h7 : p7 ≤ 8)
    (e0 : A0 = p0 + 256 * A1) (e1 : A1 = p1 + 256 * A2) (e2 : A2 = p2 + 256 * A3) (e3 : A3 = p3 + 256 * A4) (e4 : A4 = p4 + 256 * A5) (e5 : A5 = p5 + 256 * A6) (e6 : A6 = p6 + 256 * A7) (e7 : A7 = p7 + 256 * 0) :
    A0 < 18446744073709551616 ∧ A0 + A0 / 256 < 18446744073709551616 ∧ (A0 + A0 / 256) + (A0 + A0 / 256) / 65536 < 18446744073709551616 ∧
    ((A0 + A0 / 256) + (A0 + A0 / 256) / 65536) + ((A0 + A0 / 256) + (A0 + A0 / 256) / 65536) / 4294967296 < 18446744073709551616 ∧
    (((A0 + A0 / 256) + (A0 + A0 / 256) / 65536) + ((A0 + A0 / 256) + (A0 + A0 / 256) / 65536) / 4294967296) % 128 = p0 + p1 + p2 + p3 + p4 + p5 + p6 + p7 := by
  have b7 := bq e7 h7 (Nat.le_refl 0)
  have b6 := bq e6 h6 b7
  have b5 := bq e5 h5 b6
  have b4 := bq e4 h4 b5
  have b3 := bq e3 h3 b4
  have b2 := bq e2 h2 b3
  have b1 := bq e1 h1 b2
  have b0 := bq e0 h0 b1
  have q0 : p0 + p1 < 256 := by clear e0 e1 e2 e3 e4 e5 e6 e7 b0 b1 b2 b3 b4 b5 b6 b7; omega
  have q1 : p1 + p2 < 256 := by clear e0 e1 e2 e3 e4 e5 e6 e7 b0 b1 b2 b3 b4 b5 b6 b7; omega
  have r0 : p0 + p1 + (p2 + p3) < 256 := by clear e0 e1 e2 e3 e4 e5 e6 e7 b0 b1 b2 b3 b4 b5 b6 b7; omega
  have r1 : p1 + p2 + (p3 + p4) < 256 := by clear e0 e1 e2 e3 e4 e5 e6 e7 b0 b1 b2 b3 b4 b5 b6 b7; omega
  have r2 : p2 + p3 + (p4 + p5) < 256 := by clear e0 e1 e2 e3 e4 e5 e6 e7 b0 b1 b2 b3 b4 b5 b6 b7; omega
  have r3 : p3 + p4 + (p5 + p6) < 256 := by clear e0 e1 e2 e3 e4 e5 e6 e7 b0 b1 b2 b3 b4 b5 b6 b7; omega
  have l0 : p0 + p1 + (p2 + p3) + (p4 + p5 + (p6 + p7)) < 128 := by clear e0 e1 e2 e3 e4 e5 e6 e7 b0 b1 b2 b3 b4 b5 b6 b7; omega
  have d0 : A0 / 256 = A1 := dq e0 (Nat.lt_of_le_of_lt h0 (by decide))
  rw [d0]
  have B0 := addq e0 e1
  have B1 := addq e1 e2
  have B2 := addq e2 e3
  have B3 := addq e3 e4
  have B4 := addq e4 e5
  have B5 := addq e5 e6
  have B6 := addq e6 e7
  have d1 : (A0 + A1) / 65536 = A2 + A3 := by rw [show (65536 : Nat) = 256 * 256 from rfl, ← Nat.div_div_eq_div_mul, dq B0 q0, dq B1 q1]
  rw [d1]
  have C0 := addq B0 B2
  have C1 := addq B1 B3
  have C2 := addq B2 B4
  have C3 := addq B3 B5
  have C4 := addq B4 B6
  have d2 : (A0 + A1 + (A2 + A3)) / 4294967296 = A4 + A5 + (A6 + A7) := by rw [show (4294967296 : Nat) = 256 * 256 * 256 * 256 from rfl, ← Nat.div_div_eq_div_mul, ← Nat.div_div_eq_div_mul, ← Nat.div_div_eq_div_mul, dq C0 r0, dq C1 r1, dq C2 r2, dq C3 r3]
  rw [d2]
  refine ⟨Nat.lt_of_le_of_lt b0 (by decide), Nat.lt_of_le_of_lt (Nat.add_le_add b0 b1) (by decide), Nat.lt_of_le_of_lt (Nat.add_le_add (Nat.add_le_add b0 b1) (Nat.add_le_add b2 b3)) (by decide), Nat.lt_of_le_of_lt (Nat.add_le_add (Nat.add_le_add (Nat.add_le_add b0 b1) (Nat.add_le_add b2 b3)) (Nat.add_le_add (Nat.add_le_add b4 b5) (Nat.add_le_add b6 b7))) (by decide), ?_⟩
  rw [mq (addq C0 C4) l0]
  simp only [Nat.add_assoc]
theorem oc_sum (x : Nat) (y : Nat) (hy : y = oc 8 x) : y < 18446744073709551616 ∧ y + y / 256 < 18446744073709551616 ∧ (y + y / 256) + (y + y / 256) / 65536 < 18446744073709551616 ∧
    ((y + y / 256) + (y + y / 256) / 65536) + ((y + y / 256) + (y + y / 256) / 65536) / 4294967296 < 18446744073709551616 ∧
    (((y + y / 256) + (y + y / 256) / 65536) + ((y + y / 256) + (y + y / 256) / 65536) / 4294967296) % 128 = cnt 64 x := by
  obtain ⟨x1, hx1⟩ : ∃ x1, x1 = x / 256 := ⟨_, rfl⟩
  obtain ⟨x2, hx2⟩ : ∃ x2, x2 = x1 / 256 := ⟨_, rfl⟩
  obtain ⟨x3, hx3⟩ : ∃ x3, x3 = x2 / 256 := ⟨_, rfl⟩
  obtain ⟨x4, hx4⟩ : ∃ x4, x4 = x3 / 256 := ⟨_, rfl⟩
  obtain ⟨x5, hx5⟩ : ∃ x5, x5 = x4 / 256 := ⟨_, rfl⟩
  obtain ⟨x6, hx6⟩ : ∃ x6, x6 = x5 / 256 := ⟨_, rfl⟩
  obtain ⟨x7, hx7⟩ : ∃ x7, x7 = x6 / 256 := ⟨_, rfl⟩
  have c7 : oc 8 x = _ ∧ _ := oc_step 7 x
  have c6 : oc 7 x1 = _ ∧ _ := oc_step 6 x1
  have c5 : oc 6 x2 = _ ∧ _ := oc_step 5 x2
  have c4 : oc 5 x3 = _ ∧ _ := oc_step 4 x3
  have c3 : oc 4 x4 = _ ∧ _ := oc_step 3 x4
  have c2 : oc 3 x5 = _ ∧ _ := oc_step 2 x5
  have c1 : oc 2 x6 = _ ∧ _ := oc_step 1 x6
  have c0 : oc 1 x7 = _ ∧ _ := oc_step 0 x7
  have z : oc 0 (x7 / 256) = 0 := Nat.and_zero _
  have k7 : cnt 64 x = cnt 8 (x % 256) + cnt 56 (x / 256) := cnt_byte 56 x
  have k6 : cnt 56 x1 = cnt 8 (x1 % 256) + cnt 48 (x1 / 256) := cnt_byte 48 x1
  have k5 : cnt 48 x2 = cnt 8 (x2 % 256) + cnt 40 (x2 / 256) := cnt_byte 40 x2
  have k4 : cnt 40 x3 = cnt 8 (x3 % 256) + cnt 32 (x3 / 256) := cnt_byte 32 x3
  have k3 : cnt 32 x4 = cnt 8 (x4 % 256) + cnt 24 (x4 / 256) := cnt_byte 24 x4
  have k2 : cnt 24 x5 = cnt 8 (x5 % 256) + cnt 16 (x5 / 256) := cnt_byte 16 x5
  have k1 : cnt 16 x6 = cnt 8 (x6 % 256) + cnt 8 (x6 / 256) := cnt_byte 8 x6
  have k0 : cnt 8 (x7 % 256) = cnt 8 x7 := cnt_mod 8 x7
  rw [← hx1] at c7 k7
  rw [← hx2] at c6 k6
  rw [← hx3] at c5 k5
  rw [← hx4] at c4 k4
  rw [← hx5] at c3 k3
  rw [← hx6] at c2 k2
  rw [← hx7] at c1 k1
  rw [z] at c0
  rw [← k0] at k1
  rw [← hy] at c7
  have key := swar y _ _ _ _ _ _ _ _ _ _ _ _ _ _ _ c7.2 c6.2 c5.2 c4.2 c3.2 c2.2 c1.2 c0.2 c7.1 c6.1 c5.1 c4.1 c3.1 c2.1 c1.1 c0.1
  rw [k7, k6, k5, k4, k3, k2, k1]
  rw [← Nat.add_assoc, ← Nat.add_assoc, ← Nat.add_assoc, ← Nat.add_assoc, ← Nat.add_assoc, ← Nat.add_assoc]
  exact key
end Go.Proofs.YtnjfogeefdmlkaaDoor
namespace Go.Proofs.YtnjfogeefdmlkaaDoor
open Go.RowKit

/-- The table of the library's. -/
def TabAt (w : World) : Prop := ∀ j, j < 64 → w.cell? ⟨0, j, none⟩ = some (.int .u8 ((Lib.deBruijn64tab.getD j 0 : Nat) : Int))

theorem tz_any (x : Nat) (w : World) (hx0 : x ≠ 0) (hx : x < 18446744073709551616) (hT : TabAt w) :
    Calls Tryd.prog 48 #[.int .u64 x] w fun e w' => e = .returned (.int .i64 (Lib.ctz 64 x : Nat)) ∧ w = w' := by
  obtain ⟨hlow, hk⟩ := Lib.lowest_bit 64 x hx0 hx
  obtain ⟨hi, htab⟩ := Lib.deBruijn64_at _ hk
  obtain ⟨k, hk'⟩ : ∃ k, k = Lib.ctz 64 x := ⟨_, rfl⟩
  rw [← hk'] at hlow hk hi htab ⊢
  obtain ⟨i, hi'⟩ : ∃ i, i = 2 ^ k * 285870213051353865 % 18446744073709551616 / 288230376151711744 := ⟨_, rfl⟩
  rw [← hi'] at hi htab
  have hcell := hT i hi
  rw [htab] at hcell
  have hq : ((x : Int) == 0) = false := by simp; omega
  have key : IntKind.u64.wrap (bits BinOp.and IntKind.u64 (x : Int) (IntKind.u64.wrap (-(x : Int))) * 285870213051353865) / 288230376151711744 = (i : Int) := by
    have e1 : IntKind.u64.wrap (-(x : Int)) = ((18446744073709551616 - x : Nat) : Int) := by rw [IntKind.wrap_u64]; omega
    obtain ⟨a, ha⟩ : ∃ a, a = 2 ^ k := ⟨_, rfl⟩
    rw [← ha] at hlow hi'
    rw [e1, u64_and_nat x _ hx (by omega), hlow, IntKind.wrap_u64, hi']
    have e2 : (a : Int) * 285870213051353865 = ((a * 285870213051353865 : Nat) : Int) := by rw [Int.natCast_mul]; rfl
    rw [e2]
    obtain ⟨q, hq'⟩ : ∃ q, q = a * 285870213051353865 := ⟨_, rfl⟩
    rw [← hq']
    clear hlow htab hcell hT ha e1 e2 hq' hi'
    omega
  clear hi' htab hlow hT hk'
  go_enter Tryd.func48, Tryd.ntmps48
  go_wp2_with (simp only [key])
  go_ret
  exact ⟨rfl, rfl⟩

set_option maxRecDepth 10000 in
theorem TabAt.below {w w' : World} (h : TabAt w) (hb : Below w.heap.size w w') : TabAt w' := fun j hj => by
  have h1 := h j hj
  have hlt : 0 < w.heap.size := World.block_lt_of_cell? w _ h1
  exact (hb.cell (p := ⟨0, j, none⟩) hlt).trans h1
end Go.Proofs.YtnjfogeefdmlkaaDoor
namespace Go.Proofs.YtnjfogeefdmlkaaDoor
open Go.RowKit

theorem ones_any (x : Nat) (w : World) (hx : x < 18446744073709551616) :
    Calls Tryd.prog 59 #[.int .u64 x] w fun e w' => e = .returned (.int .i64 (listN x).length) ∧ w = w' := by
  have r85 : rep 85 8 = 6148914691236517205 := by decide
  have r51 : rep 51 8 = 3689348814741910323 := by decide
  have r15 : rep 15 8 = 1085102592571150095 := by decide
  have r68 : rep 68 8 = 4919131752989213764 := by decide
  have h1 : s1 8 x < 18446744073709551616 := s1_lt 8 x hx
  have h2 : s2 8 (s1 8 x) ≤ 4919131752989213764 := r68 ▸ s2_small 8 x
  obtain ⟨y3, hy3⟩ : ∃ y, y = oc 8 x := ⟨_, rfl⟩
  obtain ⟨g3, g4, g5, g6, gc⟩ := oc_sum x y3 hy3
  rw [← listN_len] at gc
  have k1 : IntKind.u64.wrap (bits BinOp.and IntKind.u64 ((x : Int) / 2) 6148914691236517205 + bits BinOp.and IntKind.u64 (x : Int) 6148914691236517205) = ((s1 8 x : Nat) : Int) := by
    have a1 := u64_and_nat (x / 2) 6148914691236517205 (by omega) (by decide)
    have a2 := u64_and_nat x 6148914691236517205 hx (by decide)
    have e : ((x : Int) / 2) = ((x / 2 : Nat) : Int) := by omega
    have e2 : ((6148914691236517205 : Nat) : Int) = 6148914691236517205 := rfl
    rw [e2] at a1 a2
    rw [e, a1, a2, IntKind.wrap_u64]
    have h1' := h1
    unfold s1 at h1' ⊢
    rw [r85] at h1' ⊢
    omega
  obtain ⟨y1, hy1⟩ : ∃ y, y = s1 8 x := ⟨_, rfl⟩
  rw [← hy1] at k1 h1 h2
  have k2 : IntKind.u64.wrap (bits BinOp.and IntKind.u64 ((y1 : Int) / 4) 3689348814741910323 + bits BinOp.and IntKind.u64 (y1 : Int) 3689348814741910323) = ((s2 8 y1 : Nat) : Int) := by
    have a1 := u64_and_nat (y1 / 4) 3689348814741910323 (by omega) (by decide)
    have a2 := u64_and_nat y1 3689348814741910323 h1 (by decide)
    have e : ((y1 : Int) / 4) = ((y1 / 4 : Nat) : Int) := by omega
    have e2 : ((3689348814741910323 : Nat) : Int) = 3689348814741910323 := rfl
    rw [e2] at a1 a2
    rw [e, a1, a2, IntKind.wrap_u64]
    unfold s2 at h2 ⊢
    rw [r51] at h2 ⊢
    omega
  obtain ⟨y2, hy2⟩ : ∃ y, y = s2 8 y1 := ⟨_, rfl⟩
  rw [← hy2] at k2 h2
  have k3 : bits BinOp.and IntKind.u64 (IntKind.u64.wrap ((y2 : Int) / 16 + (y2 : Int))) 1085102592571150095 = (y3 : Int) := by
    have a1 := u64_and_nat (y2 / 16 + y2) 1085102592571150095 (by omega) (by decide)
    have e : IntKind.u64.wrap ((y2 : Int) / 16 + (y2 : Int)) = ((y2 / 16 + y2 : Nat) : Int) := by rw [IntKind.wrap_u64]; omega
    have e2 : ((1085102592571150095 : Nat) : Int) = 1085102592571150095 := rfl
    rw [e2] at a1
    rw [e, a1, hy3]
    unfold oc s3
    rw [← hy1, ← hy2, r15]
  clear r85 r51 r15 r68 h1 h2 hy1 hy2 hy3
  have k4 : IntKind.u64.wrap ((y3 : Int) + (y3 : Int) / 256) = ((y3 + y3 / 256 : Nat) : Int) := by rw [IntKind.wrap_u64]; omega
  obtain ⟨y4, hy4⟩ : ∃ y, y = y3 + y3 / 256 := ⟨_, rfl⟩
  rw [← hy4] at k4 g4 g5 g6 gc
  clear hy4
  have k5 : IntKind.u64.wrap ((y4 : Int) + (y4 : Int) / 65536) = ((y4 + y4 / 65536 : Nat) : Int) := by rw [IntKind.wrap_u64]; omega
  obtain ⟨y5, hy5⟩ : ∃ y, y = y4 + y4 / 65536 := ⟨_, rfl⟩
  rw [← hy5] at k5 g5 g6 gc
  clear hy5
  have k6 : IntKind.u64.wrap ((y5 : Int) + (y5 : Int) / 4294967296) = ((y5 + y5 / 4294967296 : Nat) : Int) := by rw [IntKind.wrap_u64]; omega
  obtain ⟨y6, hy6⟩ : ∃ y, y = y5 + y5 / 4294967296 := ⟨_, rfl⟩
  rw [← hy6] at k6 g6 gc
  clear hy6
  have k7 : bits BinOp.and IntKind.i64 (wrap64 (y6 : Int)) 127 = ((listN x).length : Int) := by
    rw [← gc, i64_and127]
    clear k1 k2 k3 k4 k5 k6
    unfold wrap64
    omega
  obtain ⟨c, hc⟩ : ∃ c, c = (listN x).length := ⟨_, rfl⟩
  rw [← hc] at k7 ⊢
  clear gc hc g3 g4 g5
  go_enter Tryd.func59, Tryd.ntmps59
  go_wp2
  go_ret
  exact ⟨rfl, rfl⟩

theorem Count_any (x : Nat) (w : World) (hx : x < 18446744073709551616) :
    Calls Tryd.prog 47 #[.int .u64 x] w fun e w' => e = .returned (.int .i64 (listN x).length) ∧ w = w' := by
  have C := ones_any x w hx
  go_enter Tryd.func47, Tryd.ntmps47
  go_wp2_with fail
  refine C.mono ?_
  rintro e w' ⟨rfl, rfl⟩
  go_wp2
  go_ret
  exact ⟨rfl, rfl⟩
end Go.Proofs.YtnjfogeefdmlkaaDoor
namespace Go.Proofs.YtnjfogeefdmlkaaDoor
open Go.RowKit

theorem one_ird (w : World) (c : Int) : IRd (w.alloc (.cells #[.int .i64 c] 3)) (some ⟨w.heap.size, 0, none⟩) 1 [c] :=
  ⟨rfl, fun _ => ⟨w.heap.size, 0, rfl, by simp, fun j hj => by
    obtain rfl : j = 0 := by simp at hj; omega
    exact cell_of_row _ _ 0 _ _ _ (heap_alloc_last w _)⟩⟩
theorem Of_any (A : Option Addr) (n c : Nat) (zs : List Int) (w : World) (h : IRd w A n zs) (hn : n ≤ 1099511627776) :
    Calls Tryd.prog 60 #[.slice A n c] w fun e w' => e = .returned (.int .u64 (orL zs : Nat)) ∧ w = w' := by
  have H := Lib.hid h
  clear h
  go_enter Tryd.func60, Tryd.ntmps60
  go_wp2
  go_loop [3, 8] (fun v i => ∃ j : Nat, j ≤ n ∧ i = .int .i64 j ∧ v = .int .u64 (orL (zs.take j) : Nat)) (fun _ i => n - (intOf i).toNat)
  case atStart => exact ⟨0, Nat.zero_le _, rfl, rfl⟩
  case round =>
    obtain ⟨j, hj, rfl, rfl⟩ := hrel
    by_cases hjn : j < n
    · obtain ⟨b, o, hA, _, hc⟩ := H.out.2 (by omega)
      have hjl : j < zs.length := by rw [H.out.1]; exact hjn
      have k0 := hc j hjl
      obtain ⟨z, hz⟩ : ∃ z, z = zs.getD j 0 := ⟨_, rfl⟩
      rw [← hz] at k0
      have htk : zs.take (j + 1) = zs.take j ++ [z] := by
        rw [List.take_succ_eq_append_getElem hjl, hz, List.getD, List.getElem?_eq_getElem hjl]
        rfl
      have hs := orL_snoc (zs.take j) z
      rw [← htk] at hs
      have hlt := orL_lt (zs.take j)
      obtain ⟨s, hs'⟩ : ∃ s, s = orL (zs.take j) := ⟨_, rfl⟩
      obtain ⟨s2, hs2⟩ : ∃ s2, s2 = orL (zs.take (j + 1)) := ⟨_, rfl⟩
      rw [← hs', ← hs2] at hs
      rw [← hs'] at hlt ⊢
      subst hA
      clear hc hz htk hs'
      by_cases h0 : 0 ≤ z
      · by_cases h1 : z < 64
        · rw [if_pos ⟨h0, h1⟩] at hs
          have hp := two_lt (c := z.toNat) (by omega)
          have e1 : IntKind.u64.wrap (2 ^ z.toNat) = ((2 ^ z.toNat : Nat) : Int) := by
            rw [IntKind.wrap_u64]
            have : ((2 : Int) ^ z.toNat) = ((2 ^ z.toNat : Nat) : Int) := by simp
            rw [this]
            exact Int.emod_eq_of_lt (Int.natCast_nonneg _) (Int.ofNat_lt.2 hp)
          have e2 := u64_or_nat s (2 ^ z.toNat) hlt hp
          rw [← hs] at e2
          clear hs
          go_wp2
          go_round
          case rel =>
            have E2 := Lib.hid e2
            clear e1 e2 hp
            exact ⟨j + 1, hjn, by go_num, by rw [← hs2, ← E2.out, Int.natCast_pow]; rfl⟩
          case measure => simp [intOf]; omega
        · rw [if_neg (by omega)] at hs
          rw [hs] at hs2
          go_wp2
          go_round
          case rel => exact ⟨j + 1, hjn, by go_num, by rw [← hs2]⟩
          case measure => simp [intOf]; omega
      · rw [if_neg (by omega)] at hs
        rw [hs] at hs2
        go_wp2
        go_round
        case rel => exact ⟨j + 1, hjn, by go_num, by rw [← hs2]⟩
        case measure => simp [intOf]; omega
    · obtain rfl : j = n := by omega
      go_wp2
      go_ret
      rw [List.take_of_length_le (by rw [H.out.1]; exact Nat.le_refl _)]
      exact ⟨rfl, rfl⟩

theorem With_any (s : Nat) (c : Int) (w : World) (hs : s < 18446744073709551616) :
    Calls Tryd.prog 57 #[.int .u64 s, .int .i64 c] w fun e w' => e = .returned (.int .u64 (s ||| orL [c] : Nat)) ∧ Below w.heap.size w w' := by
  obtain ⟨w1, hw1⟩ : ∃ w1, w1 = w.alloc (.cells #[.int .i64 c] 3) := ⟨_, rfl⟩
  have hB : Below w.heap.size w w1 := by rw [hw1]; exact (Below.refl _ _).alloc (Nat.le_refl _) _
  have C := Lib.hid (Of_any (some ⟨w.heap.size, 0, none⟩) 1 1 [c] w1 (by rw [hw1]; exact one_ird w c) (by decide))
  have e2 := u64_or_nat s (orL [c]) hs (orL_lt _)
  have HB := Lib.hid hB
  obtain ⟨o, ho⟩ : ∃ o, o = orL [c] := ⟨_, rfl⟩
  rw [← ho] at C e2 ⊢
  clear hB ho
  go_enter Tryd.func57, Tryd.ntmps57
  go_wp2_with (rw [← hw1]; clear hw1)
  refine C.out.mono ?_
  rintro e w' ⟨rfl, rfl⟩
  go_wp2
  go_ret
  exact ⟨rfl, HB.out⟩

end Go.Proofs.YtnjfogeefdmlkaaDoor
namespace Go.Proofs.YtnjfogeefdmlkaaDoor
open Go.RowKit

theorem Without_any (s : Nat) (c : Int) (w : World) (hs : s < 18446744073709551616) :
    Calls Tryd.prog 49 #[.int .u64 s, .int .i64 c] w fun e w' => e = .returned (.int .u64 (butN s (orL [c]) : Nat)) ∧ Below w.heap.size w w' := by
  obtain ⟨w1, hw1⟩ : ∃ w1, w1 = w.alloc (.cells #[.int .i64 c] 3) := ⟨_, rfl⟩
  have hB : Below w.heap.size w w1 := by rw [hw1]; exact (Below.refl _ _).alloc (Nat.le_refl _) _
  have C := Lib.hid (Of_any (some ⟨w.heap.size, 0, none⟩) 1 1 [c] w1 (by rw [hw1]; exact one_ird w c) (by decide))
  have e2 := u64_andNot_nat s (orL [c]) hs (orL_lt _)
  have HB := Lib.hid hB
  unfold butN
  obtain ⟨o, ho⟩ : ∃ o, o = orL [c] := ⟨_, rfl⟩
  rw [← ho] at C e2 ⊢
  clear hB ho
  go_enter Tryd.func49, Tryd.ntmps49
  go_wp2_with (rw [← hw1]; clear hw1)
  refine C.out.mono ?_
  rintro e w' ⟨rfl, rfl⟩
  go_wp2
  go_ret
  exact ⟨rfl, HB.out⟩
end Go.Proofs.YtnjfogeefdmlkaaDoor
