/- The reference's names by value; near, New, Has, At, Alive, Count. -/
import Derived.Test.YtldabjgnnmoneaaIdD
namespace Go.Proofs.Ytldabjgnnmoneaa
open Go.RowKit

/-- A slice of ints whose block is one of K's. -/
def IRk (K : Nat → Prop) (w : World) (A : Option Addr) (n : Nat) (zs : List Int) : Prop := IRd w A n zs ∧ (0 < n → ∀ b o, A = some ⟨b, o, none⟩ → K b)
section
variable {K K' : Nat → Prop} {w w' : World} {A : Option Addr} {n : Nat} {zs : List Int}
theorem IRk.mono (h : IRk K w A n zs) (hk : ∀ x, K x → K' x) : IRk K' w A n zs := ⟨h.1, fun hn b o e => hk b (h.2 hn b o e)⟩
theorem IRk.below (h : IRk K w A n zs) (hb : Below w.heap.size w w') : IRk K w' A n zs := ⟨h.1.below hb, h.2⟩
/-- The blocks of K stay. -/
def KStays (K : Nat → Prop) (w w' : World) : Prop := w.heap.size ≤ w'.heap.size ∧ ∀ x, K x → w'.heap[x]? = w.heap[x]?
theorem IRk.stays (h : IRk K w A n zs) (hs : KStays K w w') : IRk K w' A n zs :=
  ⟨⟨h.1.1, fun hp => by
    obtain ⟨b, o, e, hlt, hc⟩ := h.1.2 hp
    exact ⟨b, o, e, Nat.lt_of_lt_of_le hlt hs.1, fun j hj => (World.cell?_of_block (w := w) (a := ⟨b, o + j, none⟩) (hs.2 b (h.2 hp b o e))).trans (hc j hj)⟩⟩, h.2⟩
theorem IRk.lt (h : IRk K w A n zs) : IRk (fun x => K x ∧ x < w.heap.size) w A n zs := ⟨h.1, fun hp b o e => ⟨h.2 hp b o e, by
  obtain ⟨b', o', e', hlt, _⟩ := h.1.2 hp
  rw [e] at e'
  injection e' with e'
  injection e' with e1 _
  omega⟩⟩
theorem IRk.of_own {B : Nat} {v : Value} (h : w.ownsRow B 3 1 v n (zs.map (Value.int .i64))) : ∃ A c, v = .slice A n c ∧ n ≤ c ∧ c ≤ maxLen ∧ IRk (fun x => B ≤ x ∧ x < w.heap.size) w A n zs := by
  obtain ⟨A, c, e, hc, hm, _⟩ := own_open h
  obtain ⟨A', c', e', hr⟩ := IRd.of_own h
  rw [e] at e'
  cases e'
  refine ⟨A, c, e, hc, hm, hr, fun hp b o ea => ?_⟩
  exact h.lt b (by rw [e, ea]; rfl)
end

/-- The cells of the reference's names. -/
structure Rv where
  E : Int
  L : Int
  GA : Option Addr
  gn : Nat
  gc : Nat
  FA : Option Addr
  fn : Nat
  fc : Nat
def Rv.v (d : Rv) : Value := .agg #[.int .i64 d.E, .int .i64 d.L, .slice d.GA d.gn d.gc, .slice d.FA d.fn d.fc]

/-- d is s, as it lies; its blocks are K's. -/
structure RS (K : Nat → Prop) (w : World) (d : Rv) (s : NS) : Prop where
  E : d.E = s.E
  L : d.L = s.L
  gn : d.gn = s.g.length
  fn : d.fn = s.fr.length
  g : IRk K w d.GA d.gn s.g
  f : IRk K w d.FA d.fn s.fr
  gc : d.gn ≤ d.gc
  fc : d.fn ≤ d.fc
section
variable {K K' : Nat → Prop} {w w' : World} {d : Rv} {s : NS}
theorem RS.mono (h : RS K w d s) (hk : ∀ x, K x → K' x) : RS K' w d s := { h with g := h.g.mono hk, f := h.f.mono hk }
theorem RS.below (h : RS K w d s) (hb : Below w.heap.size w w') : RS K w' d s := { h with g := h.g.below hb, f := h.f.below hb }
theorem RS.stays (h : RS K w d s) (hs : KStays K w w') : RS K w' d s := { h with g := h.g.stays hs, f := h.f.stays hs }
theorem RS.lt (h : RS K w d s) : RS (fun x => K x ∧ x < w.heap.size) w d s := { h with g := h.g.lt, f := h.f.lt }
end

theorem rsT : RT Try.prog 30 4 := ⟨⟨_, Try.underlying30, rfl⟩, by kernel_rfl⟩
section
variable {ops : Array Oper} {rest : List Oper} {o : Oper} {a : Act} {w : World} {Q : Exit → Act → World → Prop} {g : Nat} {E L E' L' : Int} {GA FA GA' FA' : Option Addr} {gn gc fn fc gn' gc' fn' fc' : Nat}
theorem wpList_ldQ (hgd : Region.wanted o (yielded ops a.tmps) = true) (x : Operand) (ho : o.op = .load 30 x)
    (hx : a.eval x = .pointer (some ⟨g, 0, none⟩)) (h : Rec 30 w g #[.int .i64 E, .int .i64 L, .slice GA gn gc, .slice FA fn fc]) (kk : wpList Try.prog ops Q rest (a.put o.dst (.agg #[.int .i64 E, .int .i64 L, .slice GA gn gc, .slice FA fn fc])) w) : wpList Try.prog ops Q (o :: rest) a w :=
  wpList_ldS rsT rfl hgd x ho hx h kk
theorem wpList_stQ (hgd : Region.wanted o (yielded ops a.tmps) = true) (x y : Operand) (ho : o.op = .store 30 x y)
    (hx : a.eval x = .pointer (some ⟨g, 0, none⟩)) (hy : a.eval y = .agg #[.int .i64 E', .int .i64 L', .slice GA' gn' gc', .slice FA' fn' fc']) (h : Rec 30 w g #[.int .i64 E, .int .i64 L, .slice GA gn gc, .slice FA fn fc])
    (kk : ∀ w', Rec 30 w' g #[.int .i64 E', .int .i64 L', .slice GA' gn' gc', .slice FA' fn' fc'] → Fr (· = g) w w' → wpList Try.prog ops Q rest (a.put o.dst undef) w') : wpList Try.prog ops Q (o :: rest) a w :=
  wpList_stS rsT rfl rfl (by simp [Value.oneCell']) hgd x y ho hx hy h kk
end

theorem near_any (n hi : Int) (w : World) (h : 1 ≤ hi) : Calls Try.prog 22 #[.int .i64 n, .int .i64 hi] w fun e w' => e = .returned (.int .i64 (nears n hi)) ∧ w = w' := by
  unfold nears
  go_enter Try.func22, Try.ntmps22
  go_wp2
  all_goals go_ret
  all_goals exact ⟨ret_int (by omega), rfl⟩

theorem RNew_any (entities gens : Int) (w : World) :
    Calls Try.prog 8 #[.int .i64 entities, .int .i64 gens] w fun e w' => e = .returned (Rv.v ⟨nears entities 1024, nears gens 1073741824, none, 0, 0, none, 0, 0⟩) ∧ Below w.heap.size w w' := by
  go_enter Try.func8, Try.ntmps8
  go_wp2_with (go_at_call 22; refine (near_any _ _ _ (by decide)).mono ?_; rintro e w' ⟨rfl, rfl⟩)
  refine bodyPost_ret (res_c rfl rfl ((Rec.new w 30 #[.int .i64 (nears entities 1024), .int .i64 (nears gens 1073741824), .slice none 0 0, .slice none 0 0]).load rsT rfl)) rfl ?_
  exact ⟨rfl, (Below.refl _ _).alloc (Nat.le_refl _) _⟩
theorem RNew_rs (entities gens : Int) (w : World) : RS (fun _ => False) w ⟨nears entities 1024, nears gens 1073741824, none, 0, 0, none, 0, 0⟩ (NS.new entities gens) where
  E := by
    have := nears_bounds entities 1024 (by decide)
    show nears entities 1024 = ((nears entities 1024).toNat : Int)
    omega
  L := rfl
  gn := rfl
  fn := rfl
  g := ⟨⟨rfl, fun h => absurd h (Nat.lt_irrefl 0)⟩, fun h => absurd h (Nat.lt_irrefl 0)⟩
  f := ⟨⟨rfl, fun h => absurd h (Nat.lt_irrefl 0)⟩, fun h => absurd h (Nat.lt_irrefl 0)⟩
  gc := Nat.le_refl _
  fc := Nat.le_refl _

theorem Has_any (A : Option Addr) (n c : Nat) (zs : List Int) (k : Int) (w : World) (h : IRd w A n zs) (hn : n ≤ 1000000) :
    Calls Try.prog 33 #[.slice A n c, .int .i64 k] w fun e w' => e = .returned (.bool (decide (k ∈ zs))) ∧ w' = w := by
  have H := Lib.hid h
  clear h
  go_enter Try.func33, Try.ntmps33
  go_wp2
  go_loop [5] (fun iv => ∃ j : Nat, j ≤ n ∧ iv = .int .i64 j ∧ k ∉ zs.take j) (fun iv => n - (intOf iv).toNat)
  case atStart => exact ⟨0, Nat.zero_le _, rfl, by simp⟩
  case round =>
    obtain ⟨j, hj, rfl, hno⟩ := hrel
    by_cases hjn : j < n
    · obtain ⟨b, o, hA, _, hc⟩ := H.out.2 (by omega)
      have hjl : j < zs.length := by rw [H.out.1]; exact hjn
      have k0 := hc j hjl
      obtain ⟨z, hz⟩ : ∃ z, z = zs.getD j 0 := ⟨_, rfl⟩
      rw [← hz] at k0
      have hzj : z = zs[j] := by rw [hz]; simp [List.getD, List.getElem?_eq_getElem hjl]
      have HZ := Lib.hid hzj
      have HN := Lib.hid hno
      have HJ := Lib.hid hjl
      subst hA
      clear hc hz hzj hno
      by_cases hk : z = k
      · have hmem : Hid (decide (k ∈ zs) = true) := Lib.hid (decide_eq_true (by rw [← hk, HZ.out]; exact List.getElem_mem HJ.out))
        go_wp2
        go_ret
        exact ⟨by rw [hmem.out]; first | rfl | skip, rfl⟩
      · go_wp2
        go_round
        case rel =>
          refine ⟨j + 1, hjn, by go_num, ?_⟩
          rw [List.take_succ_eq_append_getElem HJ.out]
          intro hm
          rcases List.mem_append.1 hm with hm | hm
          · exact HN.out hm
          · exact hk (by rw [HZ.out]; exact (List.mem_singleton.1 hm).symm)
        case measure => simp [intOf]; omega
    · have hmem : Hid (decide (k ∈ zs) = false) := Lib.hid (decide_eq_false (by rw [List.take_of_length_le (by rw [H.out.1]; omega)] at hno; exact hno))
      clear hno
      go_wp2
      go_ret
      exact ⟨by rw [hmem.out]; first | rfl | skip, rfl⟩
end Go.Proofs.Ytldabjgnnmoneaa
