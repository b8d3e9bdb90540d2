/- The reference's column as a value; its New, Bytes, Much; a slice of steps. -/
import Derived.Test.YtlblbhndfclhnaaCl4
import Derived.Test.YtlblbhndfclhnaaRowV
namespace Go.Proofs.Ytlblbhndfclhnaa
open Go.RowKit

theorem rowsT : El Try.prog 27 31 nilv 1 24 := ⟨Try.underlying27, by kernel_rfl, rfl, by decide⟩
theorem rcolT : RT Try.prog 29 2 := ⟨⟨_, Try.underlying29, rfl⟩, by kernel_rfl⟩
theorem cstT : RT Try.prog 35 3 := ⟨⟨_, Try.underlying35, rfl⟩, by kernel_rfl⟩

section
variable {ops : Array Oper} {rest : List Oper} {o : Oper} {a : Act} {w : World} {Q : Exit → Act → World → Prop} {g : Nat} {z z' : Int} {A A' : Option Addr} {n c n' c' : Nat}
/-- The reference's column by value: load, store. -/
theorem wpList_ldC (hgd : Region.wanted o (yielded ops a.tmps) = true) (x : Operand) (ho : o.op = .load 29 x)
    (hx : a.eval x = .pointer (some ⟨g, 0, none⟩)) (h : Rec 29 w g #[.int .i64 z, .slice A n c]) (kk : wpList Try.prog ops Q rest (a.put o.dst (.agg #[.int .i64 z, .slice A n c])) w) : wpList Try.prog ops Q (o :: rest) a w :=
  wpList_ldS rcolT rfl hgd x ho hx h kk
theorem wpList_stC (hgd : Region.wanted o (yielded ops a.tmps) = true) (x y : Operand) (ho : o.op = .store 29 x y)
    (hx : a.eval x = .pointer (some ⟨g, 0, none⟩)) (hy : a.eval y = .agg #[.int .i64 z', .slice A' n' c']) (h : Rec 29 w g #[.int .i64 z, .slice A n c])
    (kk : ∀ w', Rec 29 w' g #[.int .i64 z', .slice A' n' c'] → Fr (· = g) w w' → wpList Try.prog ops Q rest (a.put o.dst undef) w') : wpList Try.prog ops Q (o :: rest) a w :=
  wpList_stS rcolT rfl rfl (by simp [Value.oneCell']) hgd x y ho hx hy h kk
theorem step_stC {J : Act → World → Prop} {E : Prop} (hgd : o.guard = none) (x y : Operand) (ho : o.op = .store 29 x y)
    (hx : a.eval x = .pointer (some ⟨g, 0, none⟩)) (hy : a.eval y = .agg #[.int .i64 z', .slice A' n' c']) (h : Rec 29 w g #[.int .i64 z, .slice A n c])
    (kk : ∀ w', Rec 29 w' g #[.int .i64 z', .slice A' n' c'] → Fr (· = g) w w' → J (a.put o.dst undef) w') : if Region.wanted o (yielded ops a.tmps) = true then Oper.wp Try.prog o a w J Q else E :=
  step_stS rcolT rfl rfl (by simp [Value.oneCell']) hgd x y ho hx hy h kk
end

/-- The reference's column as a value. -/
def cv (z : Nat) (A : Option Addr) (n c : Nat) : Value := .agg #[.int .i64 (z : Nat), .slice A n c]

theorem RNew_any (n : Int) (w : World) :
    Calls Try.prog 8 #[.int .i64 n] w fun e w' => e = .returned (cv (Co.new n).sz none 0 0) ∧ Below w.heap.size w w' := by
  have hE : (((Co.new n).sz : Nat) : Int) = min (max n 0) 64 := by
    show ((min (max n 0) 64).toNat : Int) = _
    omega
  unfold cv
  obtain ⟨w1, hw1⟩ : ∃ w1, w1 = w.alloc (.cells #[.int .i64 0, .slice none 0 0] 29) := ⟨_, rfl⟩
  have hB1 : Below w.heap.size w w1 := by rw [hw1]; exact (Below.refl _ _).alloc (Nat.le_refl _) _
  have hR1 : Rec 29 w1 w.heap.size #[.int .i64 0, .slice none 0 0] := by rw [hw1]; exact Rec.new _ _ _
  have HB1 := Lib.hid hB1
  have HR1 := Lib.hid hR1
  clear hB1 hR1
  by_cases h0 : n < 0
  · rw [hE, show min (max n 0) 64 = 0 by omega]
    clear hE
    go_enter Try.func8, Try.ntmps8
    go_wp2_with (first
      | (rw [← hw1]; clear hw1)
      | (with_reducible refine wpList_stC (z' := 0) (A' := none) (n' := 0) (c' := 0) rfl (.tmp 2) (.tmp 8) rfl rfl rfl HR1.out ?_; intro w2 hR2 hF2))
    refine bodyPost_ret (res_c rfl rfl (hR2.load rcolT rfl)) rfl ?_
    exact ⟨rfl, HB1.out.trans (hF2.toBelow (fun x hx => by rw [show x = w.heap.size from hx]; exact Nat.le_refl _) HB1.out.size)⟩
  · by_cases h1 : 64 < n
    · rw [hE, show min (max n 0) 64 = 64 by omega]
      clear hE
      go_enter Try.func8, Try.ntmps8
      go_wp2_with (first
        | (rw [← hw1]; clear hw1)
        | (with_reducible refine wpList_stC (z' := 64) (A' := none) (n' := 0) (c' := 0) rfl (.tmp 2) (.tmp 8) rfl rfl rfl HR1.out ?_; intro w2 hR2 hF2))
      refine bodyPost_ret (res_c rfl rfl (hR2.load rcolT rfl)) rfl ?_
      exact ⟨rfl, HB1.out.trans (hF2.toBelow (fun x hx => by rw [show x = w.heap.size from hx]; exact Nat.le_refl _) HB1.out.size)⟩
    · rw [hE, show min (max n 0) 64 = n by omega]
      clear hE
      go_enter Try.func8, Try.ntmps8
      go_wp2_with (first
        | (rw [← hw1]; clear hw1)
        | (with_reducible refine wpList_stC (z' := n) (A' := none) (n' := 0) (c' := 0) rfl (.tmp 2) (.tmp 8) rfl rfl rfl HR1.out ?_; intro w2 hR2 hF2))
      refine bodyPost_ret (res_c rfl rfl (hR2.load rcolT rfl)) rfl ?_
      exact ⟨rfl, HB1.out.trans (hF2.toBelow (fun x hx => by rw [show x = w.heap.size from hx]; exact Nat.le_refl _) HB1.out.size)⟩

set_option maxRecDepth 20000 in
theorem RBytes_any (K : Nat → Prop) (z : Nat) (A : Option Addr) (n c : Nat) (ls : List (List UInt8)) (w : World) (h : RowsV K w A n ls) (hz : ∀ r ∈ ls, r.length = z) (hz64 : z ≤ 64) (hn : n ≤ 1024) :
    Calls Try.prog 15 #[cv z A n c] w fun e w' => ∃ v m, e = .returned v ∧ w'.ownsRow w.heap.size 5 1 v m (cells ls.flatten) ∧ Below w.heap.size w w' := by
  unfold cv
  obtain ⟨w1, hw1⟩ : ∃ w1, w1 = w.alloc (.cells #[.int .i64 (z : Nat), .slice A n c] 29) := ⟨_, rfl⟩
  have hB1 : Below w.heap.size w w1 := by rw [hw1]; exact (Below.refl _ _).alloc (Nat.le_refl _) _
  have hR1 : Rec 29 w1 w.heap.size #[.int .i64 (z : Nat), .slice A n c] := by rw [hw1]; exact Rec.new _ _ _
  have q1 : w1.cell? ⟨w.heap.size, 1, none⟩ = some (.slice A n c) := hR1.at_ 1
  have hlt : w.heap.size < w1.heap.size := hR1.lt
  have hln : ls.length = n := by obtain ⟨_, h1, _⟩ := h; exact h1
  have H := Lib.hid (h.below hB1)
  have HB1 := Lib.hid hB1
  have HLN := Lib.hid hln
  have HZ := Lib.hid hz
  clear h hB1 hR1 hln hz
  go_enter Try.func15, Try.ntmps15
  go_wp2
  rw [← hw1]
  clear hw1
  go_loopw [3, 4] (fun v iv wr => ∃ (j m : Nat), j ≤ n ∧ m ≤ j * 64 ∧ iv = .int .i64 j ∧ wr.ownsRow w1.heap.size 5 1 v m (cells (ls.take j).flatten) ∧ Below w1.heap.size w1 wr) (fun _ iv _ => n - (intOf iv).toNat)
  case atStart => exact ⟨0, 0, Nat.zero_le _, Nat.zero_le _, rfl, World.ownsRow_nil _ _ _ _, Below.refl _ _⟩
  case round =>
    obtain ⟨j, m, hj, hm, rfl, ho, hB⟩ := hrel
    have q1' := (hB.cell (p := ⟨w.heap.size, 1, none⟩) hlt).trans q1
    have hs := hB.size
    by_cases hjn : j < n
    · obtain ⟨b, o, u, hA, hblt, hc, A', m', c', hu, hr, _⟩ := H.out.at_ hjn
      subst hu hA
      have k0 := (hB.cell (p := ⟨b, o + j, none⟩) hblt).trans hc
      have hm' : m' = z := by rw [← hr.1]; exact HZ.out _ (by
        rw [List.getD_eq_getElem?_getD, List.getElem?_eq_getElem (by rw [HLN.out]; exact hjn)]
        exact List.getElem_mem _)
      subst hm'
      have hr' := hr.below (Nat.le_refl _) hB
      have htk : ls.take (j + 1) = ls.take j ++ [ls.getD j []] := by
        rw [List.take_succ_eq_append_getElem (by rw [HLN.out]; exact hjn), List.getD_eq_getElem?_getD, List.getElem?_eq_getElem (by rw [HLN.out]; exact hjn)]
        rfl
      have HTK := Lib.hid htk
      have HR := Lib.hid hr'
      clear hc htk hr hr'
      go_wp2_with (at_builtin; refine wpList_app _ bytesT rfl (.tmp 12) (.tmp 17) rfl w1.heap.size _ m _ rfl ho A' m' c' _ rfl HR.out (by omega) hs ?_; intro v2 w2 hO2 hB2)
      go_roundw
      case rel => exact ⟨j + 1, m + m', hjn, by omega, by go_num, by rw [HTK.out, List.flatten_append, List.flatten_cons, List.flatten_nil, List.append_nil, cells_append]; exact hO2, hB.trans hB2⟩
      case measure => simp [intOf]; omega
    · have e : j = n := by omega
      subst e
      have HO := Lib.hid ho
      clear ho
      go_wp2
      go_ret
      have hO := HO.out
      rw [List.take_of_length_le (by rw [HLN.out]; exact Nat.le_refl _)] at hO
      exact ⟨_, m, rfl, own_mono hO HB1.out.size, HB1.out.trans (hB.mono HB1.out.size)⟩

/-! ### steps -/
/-- What is known of a step's own memory. -/
structure COk (w : World) (x : Cst) : Prop where
  rb : Rd w x.bA x.bn x.b
  az : -9223372036854775808 ≤ x.a ∧ x.a ≤ 9223372036854775807
  dz : -9223372036854775808 ≤ x.d ∧ x.d ≤ 9223372036854775807
/-- A slice of steps. -/
def CRd (w : World) (A : Option Addr) (n : Nat) (st : List Cst) : Prop :=
  st.length = n ∧ (0 < n → ∃ b o, A = some ⟨b, o, none⟩ ∧ b < w.heap.size ∧ ∀ j (h : j < st.length), w.cell? ⟨b, o + j * 3, none⟩ = some (.int .i64 st[j].d) ∧ w.cell? ⟨b, o + j * 3 + 1, none⟩ = some (.int .i64 st[j].a) ∧
    w.cell? ⟨b, o + j * 3 + 2, none⟩ = some (.slice st[j].bA st[j].bn st[j].bc)) ∧ ∀ x ∈ st, COk w x
theorem COk.below {w w' : World} {x : Cst} (h : COk w x) (hb : Below w.heap.size w w') : COk w' x := ⟨h.rb.below (Nat.le_refl _) hb, h.az, h.dz⟩
theorem CRd.below {w w' : World} {A : Option Addr} {n : Nat} {st : List Cst} (h : CRd w A n st) (hb : Below w.heap.size w w') : CRd w' A n st := by
  refine ⟨h.1, fun hp => ?_, fun x hx => (h.2.2 x hx).below hb⟩
  obtain ⟨b, o, e, hlt, hc⟩ := h.2.1 hp
  refine ⟨b, o, e, by have := hb.size; omega, fun j hj => ?_⟩
  obtain ⟨h0, h1, h2⟩ := hc j hj
  exact ⟨(hb.cell (p := ⟨b, o + j * 3, none⟩) hlt).trans h0, (hb.cell (p := ⟨b, o + j * 3 + 1, none⟩) hlt).trans h1, (hb.cell (p := ⟨b, o + j * 3 + 2, none⟩) hlt).trans h2⟩

def CMuch (n : Nat) (w : World) (e : Ending) (w' : World) : Prop := w = w' ∧ ∃ r, e = .returned (.bool r) ∧ (r = false → n ≤ 60)
theorem CMuch_any (w : World) (A : Option Addr) (n c : Nat) (st : List Cst) (h : CRd w A n st) (hn : (n : Int) ≤ 9223372036854775807) :
    Calls Try.prog 5 #[.slice A n c] w (CMuch n w) := by
  have hl := h.1
  have HL := Lib.hid hl
  have HC := Lib.hid h.2.1
  clear hl h
  go_enter Try.func5, Try.ntmps5
  go_wp2
  go_loop [3] (fun i => ∃ k : Nat, k ≤ n ∧ i = .int .i64 k) (fun i => n - (intOf i).toNat)
  case atStart => exact ⟨0, Nat.zero_le _, rfl⟩
  case round =>
    obtain ⟨k, hk, rfl⟩ := hrel
    by_cases hlt : k < n
    · by_cases h100 : k < 100
      · obtain ⟨b, o, hA, _, hc⟩ := HC.out (by omega)
        obtain ⟨_, _, h2⟩ := hc k (by rw [HL.out]; exact hlt)
        subst hA
        clear hc
        obtain ⟨y, hy⟩ : ∃ y, y = st[k]'(by rw [HL.out]; exact hlt) := ⟨_, rfl⟩
        rw [← hy] at h2
        clear hy
        by_cases hb : 200 < y.bn
        · go_wp2
          go_ret
          exact ⟨rfl, true, rfl, fun e => by cases e⟩
        · go_wp2
          go_round
          case rel => exact ⟨k + 1, hlt, by go_num⟩
          case measure => simp [intOf]; omega
      · go_wp2
        go_ret
        exact ⟨rfl, _, rfl, fun e => by simp at e; omega⟩
    · have hkn : k = n := by omega
      subst hkn
      go_wp2
      go_ret
      exact ⟨rfl, _, rfl, fun e => by have := of_decide_eq_false e; omega⟩
end Go.Proofs.Ytlblbhndfclhnaa
