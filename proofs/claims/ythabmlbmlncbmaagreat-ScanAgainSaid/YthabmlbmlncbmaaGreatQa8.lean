/- RfM, FrF -/
import Derived.Test.YthabmlbmlncbmaaGreatQa1
import Derived.Test.YthabmlbmlncbmaaGreatQa2
import Derived.Test.YthabmlbmlncbmaaGreatQa7
import Derived.RangeFuncNested
import Derived.RangeFuncBox
import Derived.RangeFuncCalls
import Derived.RangeFuncLeaves
import Derived.OrdersIn
import Derived.Deep.RegionHeld3
import Derived.OwnWalkIn
import Derived.TacticsInMore
import Derived.LoopNIn
import Derived.LoopIn
namespace Go.Proofs.YthabmlbmlncbmaaGreat
open Go.RowKit
set_option linter.unusedVariables false
def Grows {β : Type} (J : β -> World -> Prop) : Prop := ∀ s X Y, J s X -> Below X.heap.size X Y -> J s Y
def SeqMem {α : Type} (P : Program) (gf : Nat) (lb : Array Value) (encs : α -> Array Value) (Kp : Nat -> Prop) (Px : List α × α -> Nat -> World -> Prop) (S Sp : List α -> Prop) (W : World) : Prop :=
  ∀ (l : Nat) (J Jx : List α -> World -> Prop), Grows J -> Grows Jx ->
    (∀ pre x W0 W1, J pre W0 -> Below W0.heap.size W0 W1 -> Px (pre, x) W0.heap.size W1 -> YieldAt Fence.wide 0 P l (encs x) W1 fun e W2 => (e = .returned (.bool true) /\ J (pre ++ [x]) W2 /\ WStays Kp W1 W2) \/ (e = .returned (.bool false) /\ Jx (pre ++ [x]) W2)) ->
    J [] W -> CallsIn Fence.wide 0 P gf (#[.func (.yield l) #[] #[]] ++ lb) W fun e W2 => (∃ v, e = .returned v) /\ ((∃ xs, S xs /\ J xs W2) \/ (∃ pre, Sp pre /\ Jx pre W2))
def LeftBy {α : Type} (B : Nat) (Kp : Nat -> Prop) (I : List α -> World -> Prop) (Ix : Code -> List α -> World -> Prop) (ys : List α) (W : World) : Exit -> Act -> World -> Prop
  | .normal, _, W2 => KeepsFrom B W W2 /\ WStays Kp W W2 /\ I ys W2
  | .ret, _, W2 => KeepsFrom B W W2 /\ Ix .ret ys W2
  | .exit k, _, W2 => KeepsFrom B W W2 /\ Ix (.exit k) ys W2
  | .goto k, _, W2 => KeepsFrom B W W2 /\ Ix (.goto k) ys W2
  | .panic _, _, _ => False
  | .outgrown, _, _ => False
theorem below_row {X Y : World} (h : Below X.heap.size X Y) : X.grownBy Y none := ⟨h.os, h.tape, h.output, h.size, fun k hk _ => h.block k hk⟩
theorem below_at {X Y : World} (h : Below X.heap.size X Y) {k : Nat} {o : Obj} (hk : X.heap[k]? = some o) : Y.heap[k]? = some o := (h.block k (Array.getElem?_eq_some_iff.1 hk).1).trans hk
theorem own_more {β : Type} {B : Nat} {I : β -> World -> Prop} (h : OwnFrom B I) : Grows I := fun s X Y hs hb => h s X Y none hs (below_row hb) (fun _ e => by cases e)
theorem wpIn_rangeFunc_memA {P : Program} {α : Type} {g : Operand} {ps : Array Tmp} {assign body : Code} {Q : Exit -> Act -> World -> Prop} {a : Act} {w : World} {gf : Nat} {lb : Array Value}
    (hg : a.eval g = .func (.func gf) #[] lb) (eg : ∀ args w, (callFunc gf args).run P w = .ok (.enter gf args) w) {encs : α -> Array Value} (hps : ∀ x, (encs x).size = ps.size)
    {Px : List α × α -> Nat -> World -> Prop} (hPx : ∀ N, OwnFrom w.heap.size (fun s => Px s N)) {S Sp : List α -> Prop} {Kp : Nat -> Prop} (hU : ∀ k, Kp k -> k < w.heap.size) (hseq : ∀ W, Below w.heap.size w W -> SeqMem P gf lb encs Kp Px S Sp W)
    (I : List α -> World -> Prop) (Ix : Code -> List α -> World -> Prop) (hI : OwnFrom w.heap.size I) (hIx : ∀ c, OwnFrom w.heap.size (Ix c)) (h0 : I [] w) {Ax : α × Act -> World -> Prop} (hAx : OwnFrom w.heap.size Ax)
    (hassign : ∀ (l : Nat) (x : α) (W : World) (K : Act -> World -> Prop), (∀ b W2, Below W.heap.size W W2 -> Ax (x, b) W2 -> K b W2) ->
      assign.wpIn (Fence.wide.inRound l) 0 P (Exit.then K (fun _ _ _ => False)) { tmps := (ps.zip (encs x)).foldl (fun t (p, v) => t.setIfInBounds p v) a.tmps, defers := [] } W)
    (hbody : ∀ (l : Nat) (pre : List α) (x : α) (b : Act) (W0 W : World), Ax (x, b) W -> I pre W0 -> W0.heap.size <= W.heap.size -> (∀ (k : Nat) (o : Obj), W0.heap[k]? = some o -> o.isCells = true -> W.heap[k]? = some o) -> Px (pre, x) W0.heap.size W -> I pre W -> body.wpIn (Fence.wide.inRound l) 0 P (LeftBy w.heap.size Kp I Ix (pre ++ [x]) W) b W)
    (hdone : ∀ (D : Nat) (xs : List α) (W : World), w.heap.size <= D -> S xs -> I xs W -> W.heap[D]? = some (.deferred (some [])) -> Q .normal { a with defers := { target := .collected D, args := #[] } :: a.defers } W)
    (hstop : ∀ (D : Nat) (c : Code) (pre : List α) (W : World), w.heap.size <= D -> Sp pre -> Ix c pre W -> W.heap[D]? = some (.deferred (some [])) -> c.wpIn Fence.wide 0 P Q { a with defers := { target := .collected D, args := #[] } :: a.defers } W) :
    (Code.rangeFunc g ps assign body).wpIn Fence.wide 0 P Q a w := by
  refine wpIn_rangeFunc fun fn hfn => ?_
  obtain ⟨B, hB⟩ : ∃ B, B = w.heap.size := ⟨_, rfl⟩
  rw [<- hB] at hseq hPx hI hIx hbody hdone hstop hU hAx
  let R : LoopState -> Option Code -> Obj := fun s p => .loop { state := s, pending := p, fn := fn, tmps := a.tmps, params := ps, assign := assign, body := body, defers := B }
  obtain ⟨V, hV⟩ : ∃ V, V = (w.alloc (.deferred (some []))).alloc (R .ready none) := ⟨_, rfl⟩
  have sV : V.heap.size = B + 2 := by rw [hV]; simp; omega
  have rV : V.heap[B + 1]? = some (R .ready none) := by
    have h := World.alloc_heap_new (w.alloc (.deferred (some []))) (R .ready none)
    rwa [World.size_alloc, <- hB, <- hV] at h
  have dV : V.heap[B]? = some (.deferred (some [])) := by
    rw [hV, hB]
    exact (Below.heap_alloc _ _ _ (by simp)).trans (World.alloc_heap_new w _)
  have iV : I [] V := by rw [hV]; exact hI.alloc _ (hI.alloc _ h0)
  have bV : Below B w V := by
    rw [hV, hB]
    exact ((Below.refl _ w).alloc (Nat.le_refl _) _).alloc (by simp) _
  have hU2 := hU
  -- what the record and the block of deferred calls are while the iterator goes on
  let J : List α -> World -> Prop := fun pre W => I pre W /\ W.heap[B + 1]? = some (R .ready none) /\ W.heap[B]? = some (.deferred (some []))
  let Jx : List α -> World -> Prop := fun pre W => ∃ c, Ix c pre W /\ W.heap[B + 1]? = some (R .done (some c)) /\ W.heap[B]? = some (.deferred (some []))
  have gJ : Grows J := fun s X Y h hb => ⟨own_more hI s X Y h.1 hb, below_at hb h.2.1, below_at hb h.2.2⟩
  have gX : Grows Jx := fun s X Y h hb => by
    obtain ⟨c, h1, h2, h3⟩ := h
    exact ⟨c, own_more (hIx c) s X Y h1 hb, below_at hb h2, below_at hb h3⟩
  -- a turn of the record
  have turn : ∀ (X : World) (o o' : Obj), X.heap[B + 1]? = some o -> o.isCells = false -> WStays Kp X (X.putObj (B + 1) o') := fun X o o' ho _ =>
    ⟨by simp, fun k hk => World.putObj_heap_other (by have := hU k hk; omega)⟩
  refine ⟨B + 1, [{ target := .collected B, args := #[] }], V, { target := .fn (.func gf) lb, args := #[.func (.yield (B + 1)) #[] #[]] }, V, gf, #[.func (.yield (B + 1)) #[] #[]] ++ lb, V, ?_, ?_, ?_, ?_, fun h => (by cases h), ?_⟩
  · subst hB
    rw [hV]
    exact run_enterLoop_outer _ _ _ _ _
  · simp only [resolve, hg]
    simp [go_sem]
  · intro f _
    trivial
  · simp [invoke, go_sem, eg]
  refine (hseq V bV (B + 1) J Jx gJ gX ?_ ⟨iV, rV, dV⟩).mono ?_
  · rintro pre x W0 V1 hj hb1 hp1
    have hr1 : V1.heap[B + 1]? = some (R .ready none) := (gJ pre W0 V1 hj hb1).2.1
    refine ⟨fn, _, assign, body, run_yield hr1 (hps x), roundIn_of_wpIn hfn (hassign (B + 1) x V1 _ fun b W hb2 hax => ?_)⟩
    have hb : Below W0.heap.size W0 W := hb1.trans (hb2.mono hb1.size)
    have hp : Px (pre, x) W0.heap.size W := own_more (hPx _) (pre, x) V1 W hp1 hb2
    obtain ⟨hi, hr, hd⟩ := gJ pre W0 W hj hb
    have hlt := (Array.getElem?_eq_some_iff.1 hr).1
    obtain ⟨U, hU⟩ : ∃ U, U = W.putObj (B + 1) (R .busy none) := ⟨_, rfl⟩
    have rU : U.heap[B + 1]? = some (R .busy none) := by rw [hU]; exact World.putObj_heap_same hlt
    have dU : U.heap[B]? = some (.deferred (some [])) := by rw [hU]; exact (World.putObj_heap_other (by omega)).trans hd
    have iU : I pre U := by rw [hU]; exact hI.putObj _ hi (by omega) hr rfl
    have pU : Px (pre, x) W0.heap.size U := by rw [hU]; exact (hPx _).putObj (s := (pre, x)) _ hp (by omega) hr rfl
    have cU : ∀ (k : Nat) (o : Obj), W0.heap[k]? = some o -> o.isCells = true -> U.heap[k]? = some o := fun k o hk ho => by
      have h1 := below_at hb hk
      have h2 : k ≠ B + 1 := fun e => by rw [e, hr] at h1; injection h1 with h1; rw [<- h1] at ho; cases ho
      rw [hU]; exact (World.putObj_heap_other h2).trans h1
    have aU : Ax (x, b) U := by rw [hU]; exact hAx.putObj (s := (x, b)) _ hax (by omega) hr rfl
    have bU : WStays Kp V1 U := (show WStays Kp V1 W from ⟨hb2.size, fun k hk => hb2.block k (by have h1 := hU2 k hk; have h2 := (Array.getElem?_eq_some_iff.1 hr1).1; omega)⟩).trans <| by rw [hU]; exact turn W _ _ hr rfl
    refine ⟨U, by rw [hU]; exact run_beginRound hr rfl, ?_⟩
    -- the round's end: the record is ready again, or done
    have fin : ∀ (j : Option Code) (X : World), KeepsFrom B U X ->
        (Instr.endRound (B + 1) j).run P X = .ok (.bool j.isNone) (X.putObj (B + 1) (R (if j.isNone then .ready else .done) j)) /\ X.heap[B + 1]? = some (R .busy none) /\
        (X.putObj (B + 1) (R (if j.isNone then .ready else .done) j)).heap[B + 1]? = some (R (if j.isNone then .ready else .done) j) /\ (X.putObj (B + 1) (R (if j.isNone then .ready else .done) j)).heap[B]? = some (.deferred (some [])) := fun j X hk => by
      have hX : X.heap[B + 1]? = some (R .busy none) := hk.same _ _ (by omega) rU rfl
      exact ⟨run_endRound j hX, hX, World.putObj_heap_same (Array.getElem?_eq_some_iff.1 hX).1, (World.putObj_heap_other (by omega)).trans (hk.same _ _ (Nat.le_refl _) dU rfl)⟩
    have out : ∀ (c : Code) (X : World), KeepsFrom B U X -> Ix c (pre ++ [x]) X -> ∃ v X2, (Instr.endRound (B + 1) (some c)).run P X = .ok v X2 /\ ((Ending.returned v = .returned (.bool true) /\ J (pre ++ [x]) X2 /\ WStays Kp V1 X2) \/ (Ending.returned v = .returned (.bool false) /\ Jx (pre ++ [x]) X2)) := fun c X hk hx => by
      obtain ⟨h1, h2, h3, h4⟩ := fin (some c) X hk
      exact ⟨_, _, h1, .inr ⟨rfl, c, (hIx c).putObj _ hx (by omega) h2 rfl, h3, h4⟩⟩
    refine wpIn_mono (hbody (B + 1) pre x b W0 U aU hj.1 (by rw [hU]; simpa using hb.size) cU pU iU) fun e _ X hX => ?_
    cases e with
    | normal =>
      obtain ⟨hk, hb, hi2⟩ := hX
      obtain ⟨h1, h2, h3, h4⟩ := fin none X hk
      exact ⟨_, _, h1, .inl ⟨rfl, ⟨hI.putObj _ hi2 (by omega) h2 rfl, h3, h4⟩, (bU.trans hb).trans (turn X _ _ h2 rfl)⟩⟩
    | ret => exact out .ret X hX.1 hX.2
    | exit k => exact out (.exit k) X hX.1 hX.2
    | goto k => exact out (.goto k) X hX.1 hX.2
    | panic c => exact hX.elim
    | outgrown => exact hX.elim
  · rintro e X ⟨⟨v, rfl⟩, h⟩
    rcases h with ⟨xs, hS, hi, hr, hd⟩ | ⟨pre, hS, c, hi, hr, hd⟩
    · exact ⟨none, _, run_endLoop hr (by simp), hdone B xs _ (by omega) hS (hI.putObj _ hi (by omega) hr rfl) ((World.putObj_heap_other (by omega)).trans hd)⟩
    · exact ⟨some c, _, run_endLoop hr (by simp), hstop B c pre _ (by omega) hS ((hIx c).putObj _ hi (by omega) hr rfl) ((World.putObj_heap_other (by omega)).trans hd)⟩
theorem wp_rangeFunc_memA {P : Program} {α : Type} {g : Operand} {ps : Array Tmp} {assign body : Code} {Q : Exit -> Act -> World -> Prop} {a : Act} {w : World} {gf : Nat} {lb : Array Value}
    (hg : a.eval g = .func (.func gf) #[] lb) (eg : ∀ args w, (callFunc gf args).run P w = .ok (.enter gf args) w) {encs : α -> Array Value} (hps : ∀ x, (encs x).size = ps.size)
    {Px : List α × α -> Nat -> World -> Prop} (hPx : ∀ N, OwnFrom w.heap.size (fun s => Px s N)) {S Sp : List α -> Prop} {Kp : Nat -> Prop} (hU : ∀ k, Kp k -> k < w.heap.size) (hseq : ∀ W, Below w.heap.size w W -> SeqMem P gf lb encs Kp Px S Sp W)
    (I : List α -> World -> Prop) (Ix : Code -> List α -> World -> Prop) (hI : OwnFrom w.heap.size I) (hIx : ∀ c, OwnFrom w.heap.size (Ix c)) (h0 : I [] w) {Ax : α × Act -> World -> Prop} (hAx : OwnFrom w.heap.size Ax)
    (hassign : ∀ (l : Nat) (x : α) (W : World) (K : Act -> World -> Prop), (∀ b W2, Below W.heap.size W W2 -> Ax (x, b) W2 -> K b W2) ->
      assign.wpIn (Fence.wide.inRound l) 0 P (Exit.then K (fun _ _ _ => False)) { tmps := (ps.zip (encs x)).foldl (fun t (p, v) => t.setIfInBounds p v) a.tmps, defers := [] } W)
    (hbody : ∀ (l : Nat) (pre : List α) (x : α) (b : Act) (W0 W : World), Ax (x, b) W -> I pre W0 -> W0.heap.size <= W.heap.size -> (∀ (k : Nat) (o : Obj), W0.heap[k]? = some o -> o.isCells = true -> W.heap[k]? = some o) -> Px (pre, x) W0.heap.size W -> I pre W -> body.wpIn (Fence.wide.inRound l) 0 P (LeftBy w.heap.size Kp I Ix (pre ++ [x]) W) b W)
    (hdone : ∀ (D : Nat) (xs : List α) (W : World), w.heap.size <= D -> S xs -> I xs W -> W.heap[D]? = some (.deferred (some [])) -> Q .normal { a with defers := { target := .collected D, args := #[] } :: a.defers } W)
    (hstop : ∀ (D : Nat) (c : Code) (pre : List α) (W : World), w.heap.size <= D -> Sp pre -> Ix c pre W -> W.heap[D]? = some (.deferred (some [])) -> c.wp P Q { a with defers := { target := .collected D, args := #[] } :: a.defers } W) :
    (Code.rangeFunc g ps assign body).wp P Q a w :=
  wpIn_wide.1 (wpIn_rangeFunc_memA hg eg hps hPx hU hseq I Ix hI hIx h0 hAx hassign hbody hdone fun D c pre W h1 h2 h3 h4 => wpIn_wide.2 (hstop D c pre W h1 h2 h3 h4))
theorem calls_of_wp_marks {P : Program} {f : FuncId} {fn : Func} {c : Code} {args : Array Value} {w : World} {R : Ending -> World -> Prop} (hf : P.funcs[f]? = some fn) (hb : fn.body = some c)
    (h : c.wp P (bodyPostM Fence.wide 0 P fn R) { tmps := args ++ Array.replicate (fn.ntmps - args.size) undef, defers := [] } w) : Calls P f args w R :=
  (callsIn_wide (n := 0)).1 (callsIn_of_wp_marks hf hb trivial (wpIn_wide.2 h) rfl)
def Calm (Q : Exit -> Act -> World -> Prop) : Exit -> Act -> World -> Prop
  | .panic _, _, _ => False
  | .outgrown, _, _ => False
  | e, a, w => Q e a w
theorem Calm.normal {Q : Exit -> Act -> World -> Prop} {a : Act} {w : World} (h : Q .normal a w) : Calm Q .normal a w := h
section
variable {P : Program} {l n : Nat} {o : Oper} {ops : Array Oper} {a : Act} {w : World} {K K' : Act -> World -> Prop} {Q : Exit -> Act -> World -> Prop}
theorem wp_round (hd : ∀ c, o.op ≠ .defer c) (hK : ∀ a w, K a w -> K' a w) (h : o.wp P a w K (Calm Q)) : o.wpIn (Fence.wide.inRound l) n P a w K' Q := by
  unfold Oper.wp at h
  unfold Oper.wpIn
  refine ⟨fun f _ => trivial, ?_⟩
  rw [Oper.semAt_eq _ _ _ hd]
  generalize (execOp a.eval o).run P w = r at h
  cases r with
  | ok x w1 =>
    cases x with
    | value v => exact hK _ _ h
    | skip => exact hK _ _ h
    | defer d => exact hK _ _ h
    | enter f args =>
      refine ⟨fun e => (by cases e), CallsIn.inRound l (callsIn_wide.2 (Calls.mono h ?_))⟩
      rintro (v | c | _) w2 h2
      · exact hK _ _ h2
      · exact h2.elim
      · obtain ⟨_, _, h3⟩ := h2
        exact h3.elim
    | row r args =>
      refine ⟨fun e => (by cases e), fun c cs _ => ?_⟩
      obtain ⟨v, w2, r1, s1⟩ := h c cs
      exact ⟨v, w2, hK _ _ r1, stepsIn_wide.2 s1⟩
    | _ => exact h.elim
  | halt x w1 =>
    cases x <;> exact h.elim
theorem wpOp_round (hd : ∀ (i : Nat) (o : Oper), ops[i]? = some o -> ∀ c, o.op ≠ .defer c) (i : Nat) (hK : ∀ a w, K a w -> K' a w) (h : wpOp P ops (Calm Q) i K a w) : wpOpIn (Fence.wide.inRound l) n P ops Q i K' a w := by
  unfold wpOp at h
  unfold wpOpIn
  cases hi : ops[i]? with
  | none => rw [hi] at h; exact hK _ _ h
  | some o =>
    rw [hi] at h
    simp only at h ⊢
    by_cases hw : Region.wanted o (yielded ops a.tmps) = true
    · rw [if_pos hw] at h ⊢
      rcases h with h | ⟨_, _, _, h⟩
      · exact wp_round (hd i o hi) hK h
      · exact h.elim
    · rw [if_neg hw] at h ⊢
      exact ⟨fun _ _ => trivial, hK _ _ h⟩
theorem wpAny_round (hd : ∀ (i : Nat) (o : Oper), ops[i]? = some o -> ∀ c, o.op ≠ .defer c) (md : Region.Mode) : ∀ (fuel : Nat) (listed : Array Bool) (a : Act) (w : World), wpAny P md ops (Calm Q) fuel listed a w -> wpAnyIn (Fence.wide.inRound l) n P md ops Q fuel listed a w
  | 0, _, _, _, h => h
  | fuel + 1, listed, a, w, h => ⟨h.1, fun i hi => wpOp_round hd i (fun a w h => wpAny_round hd md fuel _ a w h) (h.2 i hi)⟩
def noDefer (ops : Array Oper) : Bool := ops.all fun o => match o.op with
  | .defer _ => false
  | _ => true
theorem noDefer.out (h : noDefer ops = true) (i : Nat) (o : Oper) (ho : ops[i]? = some o) (c : Call) : o.op ≠ .defer c := fun e => by
  obtain ⟨hi, e2⟩ := Array.getElem?_eq_some_iff.1 ho
  unfold noDefer at h
  have h2 := (Array.all_eq_true.1 h) i hi
  rw [e2] at h2
  simp only [e] at h2
  cases h2
theorem region_round {id : Nat} {S : World -> Prop} (hm : P.follows .mixedOrders = true) (hd : noDefer ops = true) (hS : S w.drew)
    (h : S w.drew -> wpAnyH P .any ops (Calm Q) S ops.size (Array.replicate ops.size false) a w.drew) : (Code.region id ops true).wpIn (Fence.wide.inRound l) n P Q a w :=
  wpIn_region_any hm (wpAny_round (noDefer.out hd) _ _ _ _ _ (wpAny_of_held _ _ _ _ (h hS)))
end
end Go.Proofs.YthabmlbmlncbmaaGreat
namespace Go.Proofs.YthabmlbmlncbmaaGreat
open Go.RowKit
set_option linter.unusedVariables false
set_option maxRecDepth 20000
attribute [local go_sem] Oper.semAt_some
theorem rd_kept {W W' : World} {A : Option Addr} {n : Nat} {l : List UInt8} {row : Option Nat} (h : Rd W A n l) (hg : W.grownBy W' row) (hr : ∀ r, row = some r -> ∃ o : Obj, W.heap[r]? = some o /\ o.isCells = false) : Rd W' A n l := by
  refine ⟨h.1, fun hn => ?_⟩
  obtain ⟨b, o, hA, hlt, hc⟩ := h.2 hn
  have h0 := hc 0 (by rw [h.1]; exact hn)
  have hne : some b ≠ row := fun e => by
    obtain ⟨ob, h1, h2⟩ := hr b e.symm
    simp only [World.cell?] at h0
    rw [show W.heap[(⟨b, o + 0, none⟩ : Addr).block]? = some ob from h1] at h0
    cases ob <;> simp_all [Obj.isCells]
  exact ⟨b, o, hA, Nat.lt_of_lt_of_le hlt hg.size, fun i hi => by
    have := hg.block b hlt hne
    have h2 := hc i hi
    simp only [World.cell?] at h2 ⊢
    rw [this]
    exact h2⟩
theorem own_turn {W w1 : World} {n₀ : Nat} {e : TypeId} {size : Nat} {v : Value} {k : Nat} {xs : List Value} (hrow : W.ownsRow n₀ e size v k xs) (hg : W.grownBy w1 v.ownBlock) : KeepsOthers W w1 :=
  KeepsOthers.of_grownBy hg fun j o ej hj => by
    rcases hrow.2 with ⟨rfl, _⟩ | ⟨g, cap, cur, rfl, _, hgb, _⟩
    · simp [Value.ownBlock] at ej
    · obtain rfl : g = j := by simpa [Value.ownBlock] using ej
      rw [hgb] at hj; cases hj; rfl
theorem wpListIn_ldCd {F : Fence} {k : Nat} {w : World} {ops : Array Oper} {rest : List Oper} {o : Oper} {a : Act} {Q : Exit -> Act -> World -> Prop} {b off : Nat} {x : Cd} {A : Option Addr} {n c : Nat} (hgd : o.guard = none) (y : Operand) (ho : o.op = .load 61 y)
    (hx : a.eval y = .pointer (some ⟨b, off, none⟩)) (h : CdL w b off x A n c) (kk : wpListIn F k Tryz.prog ops Q rest (a.put o.dst (.agg (x.cs A n c))) w) : wpListIn F k Tryz.prog ops Q (o :: rest) a w :=
  wpListIn_plain hgd fun _ hK => by
    unfold Oper.wpIn
    refine ⟨?_, ?_⟩
    · simp [Oper.about, ho]
    · rw [Oper.semAt_plain F _ _ (by rw [ho]; intro c hc'; cases hc')]
      unfold execOp
      simp only [ho, hx, h.load, Sem.run_bind, Sem.run_pure, Result.andThen_ok]
      exact hK _ _ kk
end Go.Proofs.YthabmlbmlncbmaaGreat
