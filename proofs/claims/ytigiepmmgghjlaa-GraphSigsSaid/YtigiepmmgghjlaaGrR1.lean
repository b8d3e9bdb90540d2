/- The reference's graph: a row of sets; Find, Node. -/
import Derived.Test.YtigiepmmgghjlaaGrP1
import Derived.Test.YtigiepmmgghjlaaRec
namespace Go.Proofs.Ytigiepmmgghjlaa
open Go.RowKit

/-- A slice of sets. -/
def URd (w : World) (A : Option Addr) (n : Nat) (S : List Nat) : Prop :=
  S.length = n ∧ (0 < n → ∃ b o, A = some ⟨b, o, none⟩ ∧ b < w.heap.size ∧ ∀ j s : Nat, S[j]? = some s → w.cell? ⟨b, o + j, none⟩ = some (.int .u64 (s : Int)))
/-- The block that a slice lies in. -/
def InA (A : Option Addr) (x : Nat) : Prop := ∃ o, A = some ⟨x, o, none⟩
section
variable {w w' : World} {A : Option Addr} {n : Nat} {S : List Nat}
theorem URd.below (h : URd w A n S) (hb : Below w.heap.size w w') : URd w' A n S :=
  ⟨h.1, fun hp => by
    obtain ⟨b, o, e, hlt, hc⟩ := h.2 hp
    exact ⟨b, o, e, Nat.lt_of_lt_of_le hlt hb.size, fun j s hj => (hb.cell (p := ⟨b, o + j, none⟩) hlt).trans (hc j s hj)⟩⟩
theorem URd.stays (h : URd w A n S) (hs : w.heap.size ≤ w'.heap.size) (hk : ∀ x, InA A x → w'.heap[x]? = w.heap[x]?) : URd w' A n S :=
  ⟨h.1, fun hp => by
    obtain ⟨b, o, e, hlt, hc⟩ := h.2 hp
    exact ⟨b, o, e, Nat.lt_of_lt_of_le hlt hs, fun j s hj => (World.cell?_of_block (w := w) (a := ⟨b, o + j, none⟩) (hk b ⟨o, e⟩)).trans (hc j s hj)⟩⟩
theorem URd.of_own {B : Nat} {v : Value} (h : w.ownsRow B 23 1 v n (setsV S)) : ∃ A c, v = .slice A n c ∧ URd w A n S ∧ (∀ x, InA A x → B ≤ x ∧ x < w.heap.size) := by
  have hl : S.length = n := by have := h.1; simpa [setsV] using this
  rcases h.2 with ⟨rfl, rfl⟩ | ⟨g, cap, cur, rfl, hB, hh, _⟩
  · exact ⟨none, 0, rfl, ⟨hl, fun h => absurd h (Nat.lt_irrefl 0)⟩, fun x ⟨o, e⟩ => by cases e⟩
  · have hg := (Array.getElem?_eq_some_iff.1 hh).1
    refine ⟨_, cap, rfl, ⟨hl, fun _ => ⟨g, 0, rfl, hg, fun j s hj => ?_⟩⟩, fun x ⟨o, e⟩ => ?_⟩
    · have := h.cells (g := g) rfl j (.int .u64 (s : Int)) (setsV_get hj)
      rw [Addr.add_lit] at this
      exact this
    · injection e with e
      injection e with e1
      exact ⟨by omega, by omega⟩

theorem RFind_any (A : Option Addr) (n c : Nat) (S : List Nat) (s : Nat) (w : World) (h : URd w A n S) (hn : n ≤ 1000000) :
    Calls Try.prog 13 #[.slice A n c, .int .u64 s] w fun e w' => e = .returned (fndV (ixS S s)) ∧ w = w' := by
  have H := Lib.hid h
  clear h
  go_enter Try.func13, Try.ntmps13
  go_wp2
  go_loop [6] (fun iv => ∃ j : Nat, j ≤ n ∧ iv = .int .i64 j ∧ ∀ i, i < j → S[i]? ≠ some s) (fun iv => n - (intOf iv).toNat)
  case atStart => exact ⟨0, Nat.zero_le _, rfl, fun i hi => absurd hi (Nat.not_lt_zero i)⟩
  case round =>
    obtain ⟨j, hj, rfl, hno⟩ := hrel
    by_cases hjn : j < n
    · obtain ⟨b, o, rfl, _, hc⟩ := H.out.2 (by omega)
      have hjl : j < S.length := by rw [H.out.1]; exact hjn
      have k0 := hc j _ (List.getElem?_eq_getElem hjl)
      have hx : S[j]? = some S[j] := List.getElem?_eq_getElem hjl
      obtain ⟨t, ht⟩ : ∃ t, t = S[j] := ⟨_, rfl⟩
      rw [← ht] at k0 hx
      have HNO := Lib.hid hno
      clear hc ht hno
      by_cases hts : t = s
      · subst hts
        have HE := Lib.hid (ixS_of_first hx HNO.out)
        clear hx
        go_wp2
        go_ret2
        rw [HE.out]
        exact ⟨rfl, rfl⟩
      · have q1 : decide ((t : Int) = (s : Int)) = false := decide_eq_false (by omega)
        have q2 : ((t : Int) == (s : Int)) = false := beq_false_of_ne (by omega)
        have q3 : decide (t = s) = false := decide_eq_false hts
        have HX := Lib.hid hx
        clear hx
        go_wp2
        go_round
        case rel =>
          refine ⟨j + 1, hjn, by go_num, fun i hi => ?_⟩
          by_cases e : i = j
          · subst e
            rw [HX.out]
            intro e
            injection e with e
            exact hts e
          · exact HNO.out i (by omega)
        case measure => simp [intOf]; omega
    · obtain rfl : j = n := by omega
      have e : ixS S s = none := by
        cases hx : ixS S s with
        | none => rfl
        | some i =>
          have h1 := ixS_lt hx
          exact absurd h1.2 (hno i (by rw [← H.out.1]; exact h1.1))
      have HE := Lib.hid e
      clear hno e
      go_wp2
      go_ret2
      rw [HE.out]
      exact ⟨rfl, rfl⟩

theorem cellsU (h : URd w A n S) {a : Addr} (ha : A = some a) (hn : 0 < n) : ∀ j u, (setsV S)[j]? = some u → w.cell? (a.add j) = some u := fun j u hj => by
  obtain ⟨b, o, e, _, hc⟩ := h.2 hn
  rw [ha] at e
  injection e with e
  subst e
  have hjl : j < S.length := by have := (List.getElem?_eq_some_iff.1 hj).1; simpa [setsV] using this
  have hx : S[j]? = some S[j] := List.getElem?_eq_getElem hjl
  rw [Addr.add_lit, hc j _ hx, ← hj, setsV_get hx]

theorem setsV_one (S : List Nat) : ∀ u ∈ setsV S, u.oneCell' = true := by
  intro u hu
  obtain ⟨_, _, rfl⟩ := List.mem_map.1 hu
  rfl
/-- The reference's graph goes on: what it hands back, and where that lies. -/
def RGo (w : World) (A : Option Addr) (S' : List Nat) (r : Int) (e : Ending) (w' : World) : Prop :=
  ∃ A' c', e = .returned (.tuple #[.slice A' S'.length c', .int .i64 r]) ∧ URd w' A' S'.length S' ∧ Below w.heap.size w w' ∧ ∀ x, InA A' x → InA A x ∨ (w.heap.size ≤ x ∧ x < w'.heap.size)
theorem RNode_old (c : Nat) (s i : Nat) (h : URd w A n S) (hn : n ≤ 1000000) (hi : ixS S s = some i) :
    Calls Try.prog 20 #[.slice A n c, .int .u64 s] w (RGo w A S i) := by
  have C : Calls Try.prog 13 #[.slice A n c, .int .u64 s] w fun e w' => e = .returned (.tuple #[.int .i64 i, .bool true]) ∧ w = w' := by
    have := RFind_any A n c S s w h hn
    rw [hi] at this
    exact this
  have C := Lib.hid C
  have H := Lib.hid h
  clear h hi
  go_enter Try.func20, Try.ntmps20
  go_wp2_with (go_at_call 13; refine C.out.mono ?_; rintro e w' ⟨rfl, rfl⟩)
  go_ret2
  exact ⟨A, c, by rw [H.out.1]; rfl, by rw [H.out.1]; exact H.out, Below.refl _ _, fun x hx => .inl hx⟩
theorem RNode_new (c : Nat) (s : Nat) (h : URd w A n S) (hn : n ≤ 1000000) (hpos : 0 < n) (hi : ixS S s = none) :
    Calls Try.prog 20 #[.slice A n c, .int .u64 s] w (RGo w A (S ++ [s]) S.length) := by
  obtain ⟨i0, hi0, hz0, hz1, hz2⟩ := info_parts setsT.info
  have C : Calls Try.prog 13 #[.slice A n c, .int .u64 s] w fun e w' => e = .returned (.tuple #[.int .i64 0, .bool false]) ∧ w = w' := by
    have := RFind_any A n c S s w h hn
    rw [hi] at this
    exact this
  have C := Lib.hid C
  have H := Lib.hid h
  obtain ⟨b, o, rfl, hb, _⟩ := h.2 hpos
  have HL := Lib.hid h.1
  have hce : ∀ j u, (setsV S)[j]? = some u → (w.alloc (.cells #[] 23)).cell? ((⟨b, o, none⟩ : Addr).add j) = some u := cellsU (h.below ((Below.refl _ _).alloc (Nat.le_refl _) _)) rfl hpos
  have HCE := Lib.hid hce
  have he : (w.alloc (.cells #[] 23)).ownsRow w.heap.size 23 1 (.slice (some ⟨w.heap.size, 0, none⟩) 0 0) 0 [] := own_empty w _ _ (Nat.le_refl _)
  have HE := Lib.hid he
  clear h hi hce he
  go_enter Try.func20, Try.ntmps20
  go_wp2_with (first
    | (go_at_call 13; refine C.out.mono ?_; rintro e w' ⟨rfl, rfl⟩)
    | (at_builtin; refine wpList_append_own_at _ rfl _ _ 27 rfl w.heap.size 23 i0 (.int .u64 0) 1 8 Try.underlying27 hi0 hz0 hz1 hz2 rfl (by decide) _ _ _ rfl HE.out ⟨b, o, none⟩ n c (setsV S) rfl (by rw [setsV_len, HL.out, Nat.mul_one]) HCE.out (setsV_one S) (by unfold maxLen; omega) (by omega) (by simp) ?_; intro v1 w1 ho1 hg1 _ _; have b1 := ((Below.refl w.heap.size w).alloc (Nat.le_refl _) (.cells #[] 23)).grown hg1 (by simp) (fun q hq => (HE.out.lt q hq).1); have HO1 := Lib.hid ho1; have HB1 := Lib.hid b1; clear ho1 hg1 b1)
    | (at_builtin; refine wpList_append_own_at _ rfl _ _ 27 rfl w.heap.size 23 i0 (.int .u64 0) 1 8 Try.underlying27 hi0 hz0 hz1 hz2 rfl (by decide) _ _ _ rfl (HO1.out.alloc _) ⟨w1.heap.size, 0, none⟩ 1 1 [.int .u64 (s : Int)] rfl rfl (cell_one_new _ _ _) (fun u hu => by rw [List.mem_singleton.1 hu]; rfl) (by unfold maxLen; omega) (by omega) (by have := HB1.out.size; simp; omega) ?_; intro v2 w2 ho2 hg2 _ _; have b2 := (HB1.out.alloc HB1.out.size (.cells #[.int .u64 (s : Int)] 23)).grown hg2 (by have := HB1.out.size; simp; omega) (fun q hq => (HO1.out.lt q hq).1); have HO2 := Lib.hid ho2; have HB2 := Lib.hid b2; clear ho2 hg2 b2))
  go_ret2
  obtain ⟨A', c', rfl, hr, hin⟩ := URd.of_own (S := S ++ [s]) (by rw [setsV_snoc]; have := HO2.out; rw [show 0 + n + 1 = (0 + n) + 1 from rfl] at this; exact this)
  have hl : 0 + n + 1 = (S ++ [s]).length := by rw [List.length_append, HL.out, Nat.zero_add]; rfl
  rw [hl] at hr
  exact ⟨A', c', by rw [← hl, HL.out]; rfl, hr, HB2.out, fun x hx => .inr (hin x hx)⟩
end
end Go.Proofs.Ytigiepmmgghjlaa
