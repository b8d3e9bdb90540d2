/- Commands read out of bytes: plain. -/
import Derived.Test.YtieinkndcbobfaaCdM
import Derived.Test.YtieinkndcbobfaaLeRB
import Derived.Test.YtieinkndcbobfaaLeRP
namespace Go.Proofs.Ytieinkndcbobfaa
open Go.RowKit
set_option linter.unusedVariables false

/-- The end of a reading. -/
def rdFin (x : Cd) (st : RS) : Cd × Int × RS := if st.2 = true then (Cd.zero, 12, st) else (x, 0, st)
/-- What a Reader tells of a command. -/
def rdCmd (st : RS) : Cd × Int × RS :=
  if (rdNum 1 st).1 < 0 ∨ 3 < (rdNum 1 st).1 then (Cd.zero, 11, (rdNum 1 st).2)
  else if (rdNum 1 st).1 = 0 then rdFin ⟨0, false, 0, 0, 0, []⟩ (rdNum 1 st).2
  else
    let b := rdNum 1 (rdNum 1 st).2
    if 1 < b.1 then (Cd.zero, 11, b.2)
    else
      let c := rdNum 8 b.2
      let g := if b.1 = 1 then (0, c.2) else rdNum 8 c.2
      if (rdNum 1 st).1 = 1 then rdFin ⟨1, decide (b.1 = 1), c.1, g.1, 0, []⟩ g.2
      else
        let k := rdNum 8 g.2
        if (rdNum 1 st).1 = 3 then rdFin ⟨3, decide (b.1 = 1), c.1, g.1, k.1, []⟩ k.2
        else
          let m := rdNum 2 k.2
          if 64 < m.1 then (Cd.zero, 13, m.2)
          else rdFin ⟨2, decide (b.1 = 1), c.1, g.1, k.1, (rdBytes m.1.toNat m.2).1⟩ (rdBytes m.1.toNat m.2).2

/-- P13.3: the command that bytes begin with, how long it is, or why there is none: by places. -/
def getCd (l : List UInt8) : Cd × Nat × Int :=
  if l.length = 0 then (Cd.zero, 0, 12)
  else if 3 < (l.getD 0 0).toNat then (Cd.zero, 0, 11)
  else if (l.getD 0 0).toNat = 0 then (⟨0, false, 0, 0, 0, []⟩, 1, 0)
  else if l.length = 1 then (Cd.zero, 0, 12)
  else if 1 < (l.getD 1 0).toNat then (Cd.zero, 0, 11)
  else
    let lc : Bool := decide ((l.getD 1 0).toNat = 1)
    let e0 := if (l.getD 1 0).toNat = 1 then 10 else 18
    let gn := if (l.getD 1 0).toNat = 1 then 0 else getV ((l.drop 10).take 8)
    if (l.getD 0 0).toNat = 1 then (if l.length < e0 then (Cd.zero, 0, 12) else (⟨1, lc, getV ((l.drop 2).take 8), gn, 0, []⟩, e0, 0))
    else if (l.getD 0 0).toNat = 3 then (if l.length < e0 + 8 then (Cd.zero, 0, 12) else (⟨3, lc, getV ((l.drop 2).take 8), gn, getV ((l.drop e0).take 8), []⟩, e0 + 8, 0))
    else if l.length < e0 + 10 then (Cd.zero, 0, 12)
    else if 64 < leN ((l.drop (e0 + 8)).take 2) then (Cd.zero, 0, 13)
    else if l.length < e0 + 10 + leN ((l.drop (e0 + 8)).take 2) then (Cd.zero, 0, 12)
    else (⟨2, lc, getV ((l.drop 2).take 8), gn, getV ((l.drop e0).take 8), (l.drop (e0 + 10)).take (leN ((l.drop (e0 + 8)).take 2))⟩, e0 + 10 + leN ((l.drop (e0 + 8)).take 2), 0)
/-- At a place of any bytes. -/
def getAt (l : List UInt8) (at_ : Int) : Cd × Int × Int :=
  if at_ < 0 ∨ (l.length : Int) < at_ then (Cd.zero, 0, 2)
  else ((getCd (l.drop at_.toNat)).1, if (getCd (l.drop at_.toNat)).2.2 = 0 then at_ + (getCd (l.drop at_.toNat)).2.1 else 0, (getCd (l.drop at_.toNat)).2.2)

theorem getV1 (l : List UInt8) (h : l.length = 1) : getV l = (l.getD 0 0).toNat := by
  obtain ⟨a, rfl⟩ := List.length_eq_one_iff.1 h
  have := a.toNat_lt
  rw [getV_in _ (by simp [leN]; omega)]
  simp [leN]
theorem rdNum_offL (k : Nat) (l : List UInt8) : rdNum k (l, true) = (0, (l, true)) := rdNum_off rfl
theorem rdBytes_off (k : Nat) (l : List UInt8) : rdBytes k (l, true) = ([], (l, true)) := by simp [rdBytes]
theorem rdBytes_short {k : Nat} {l : List UInt8} (h : l.length < k) : rdBytes k (l, false) = ([], (l, true)) := by simp [rdBytes, h]
theorem rdBytes_yes {k : Nat} {l : List UInt8} (h : k ≤ l.length) : rdBytes k (l, false) = (l.take k, (l.drop k, false)) := by simp [rdBytes, show ¬ l.length < k by omega]
theorem rdFin_off (x : Cd) (l : List UInt8) : rdFin x (l, true) = (Cd.zero, 12, (l, true)) := by simp [rdFin]
theorem rdFin_on (x : Cd) (l : List UInt8) : rdFin x (l, false) = (x, 0, (l, false)) := by simp [rdFin]

/-- Both tell the same. -/
def SameG (r : Cd × Int × RS) (g : Cd × Nat × Int) (n : Nat) : Prop := r.1 = g.1 ∧ r.2.1 = g.2.2 ∧ (g.2.2 = 0 → n - r.2.2.1.length = g.2.1 ∧ g.2.1 ≤ n)
theorem SameG.fault {r : Cd × Int × RS} {g : Cd × Nat × Int} {n : Nat} {e : Int} (h1 : r.1 = Cd.zero) (h2 : r.2.1 = e) (h3 : g = (Cd.zero, 0, e)) (he : e ≠ 0) : SameG r g n := by
  subst h3
  exact ⟨h1, h2, fun h => absurd h he⟩
theorem rdFin_zero (x : Cd) (st : RS) (h : st.2 = true) : (rdFin x st).1 = Cd.zero ∧ (rdFin x st).2.1 = 12 := by
  obtain ⟨l, m⟩ := st
  simp only at h
  subst h
  rw [rdFin_off]
  exact ⟨rfl, rfl⟩
theorem off_bytes (k : Nat) (st : RS) (h : st.2 = true) : (rdBytes k st).2.2 = true := by
  obtain ⟨l, m⟩ := st
  simp only at h
  subst h
  rw [rdBytes_off]
theorem take_getD (l : List UInt8) (k i : Nat) (h : i < k) : (l.take k).getD i 0 = l.getD i 0 := by
  simp [List.getD_eq_getElem?_getD, h]
theorem drop_getD (l : List UInt8) (k i : Nat) : (l.drop k).getD i 0 = l.getD (k + i) 0 := by
  simp [List.getD_eq_getElem?_getD, List.getElem?_drop]

/-- Behind the first two bytes. -/
def rdTail (d : Nat) (b : Nat) (st : RS) : Cd × Int × RS :=
  let c := rdNum 8 st
  let g := if b = 1 then (0, c.2) else rdNum 8 c.2
  if d = 1 then rdFin ⟨1, decide (b = 1), c.1, g.1, 0, []⟩ g.2
  else
    let k := rdNum 8 g.2
    if d = 3 then rdFin ⟨3, decide (b = 1), c.1, g.1, k.1, []⟩ k.2
    else
      let m := rdNum 2 k.2
      if 64 < m.1 then (Cd.zero, 13, m.2)
      else rdFin ⟨2, decide (b = 1), c.1, g.1, k.1, (rdBytes m.1.toNat m.2).1⟩ (rdBytes m.1.toNat m.2).2
theorem rdTail_off (d b : Nat) (l : List UInt8) : (rdTail d b (l, true)).1 = Cd.zero ∧ (rdTail d b (l, true)).2.1 = 12 := by
  unfold rdTail
  simp only [rdNum_offL]
  by_cases hb : b = 1
  all_goals
    simp only [hb, if_true, if_false, rdNum_offL, rdBytes_off, rdFin_off, Int.toNat_zero, show ¬ (64 : Int) < 0 by decide]
    repeat' split
    all_goals exact ⟨rfl, rfl⟩
theorem rdCmd_tail {st : RS} {d b : Nat} {st1 st2 : RS} (h1 : rdNum 1 st = ((d : Int), st1)) (hd : 1 ≤ d ∧ d ≤ 3) (h2 : rdNum 1 st1 = ((b : Int), st2)) (hb : b ≤ 1) : rdCmd st = rdTail d b st2 := by
  unfold rdCmd rdTail
  simp only [h1, h2]
  rw [if_neg (by omega), if_neg (by omega), if_neg (by omega)]
  have e1 : ((b : Int) = 1) = (b = 1) := by simp; omega
  have e2 : ((d : Int) = 1) = (d = 1) := by simp; omega
  have e3 : ((d : Int) = 3) = (d = 3) := by simp; omega
  simp only [e1, e2, e3]
theorem getV2 (l : List UInt8) (h : l.length ≤ 2) : getV l = (leN l : Int) := by
  have h1 := leN_lt l
  have h2 : 2 ^ (8 * l.length) ≤ 2 ^ 16 := Nat.pow_le_pow_right (by decide) (by omega)
  exact getV_in _ (by omega)
theorem num1 (l : List UInt8) (h : 1 ≤ l.length) : rdNum 1 (l, false) = ((((l.getD 0 0).toNat : Nat) : Int), (l.drop 1, false)) := by
  rw [rdNum_yes h, getV1 _ (by simp; omega), take_getD _ _ _ (by decide)]
/-- Behind the first two bytes: by places. -/
theorem rdTail_get (l : List UInt8) (d b : Nat) (hd : 1 ≤ d ∧ d ≤ 3) (hb : b ≤ 1) (hd0 : (l.getD 0 0).toNat = d) (hb0 : (l.getD 1 0).toNat = b) (h2 : 2 ≤ l.length) :
    SameG (rdTail d b (l.drop 2, false)) (getCd l) l.length := by
  have g0 : ¬ l.length = 0 := by omega
  have g1 : ¬ l.length = 1 := by omega
  have g3 : ¬ 3 < d := by omega
  have g4 : ¬ d = 0 := by omega
  have g5 : ¬ 1 < b := by omega
  unfold getCd
  rw [hd0, hb0, if_neg g0, if_neg g3, if_neg g4, if_neg g1, if_neg g5]
  obtain ⟨e0, he0⟩ : ∃ e0, e0 = if b = 1 then 10 else 18 := ⟨_, rfl⟩
  simp only [← he0]
  -- the state behind the target
  have key : ∀ (X : Prop), (l.length < e0 → (rdTail d b (l.drop 2, false)).1 = Cd.zero ∧ (rdTail d b (l.drop 2, false)).2.1 = 12 → X) → (e0 ≤ l.length → rdTail d b (l.drop 2, false) = (let g := (if b = 1 then (0, ((l.drop e0, false) : RS)) else (getV ((l.drop 10).take 8), (l.drop e0, false)))
      if d = 1 then rdFin ⟨1, decide (b = 1), getV ((l.drop 2).take 8), g.1, 0, []⟩ g.2
      else
        let k := rdNum 8 g.2
        if d = 3 then rdFin ⟨3, decide (b = 1), getV ((l.drop 2).take 8), g.1, k.1, []⟩ k.2
        else
          let m := rdNum 2 k.2
          if 64 < m.1 then (Cd.zero, 13, m.2)
          else rdFin ⟨2, decide (b = 1), getV ((l.drop 2).take 8), g.1, k.1, (rdBytes m.1.toNat m.2).1⟩ (rdBytes m.1.toNat m.2).2) → X) → X := by
    intro X hshort hyes
    by_cases h10 : l.length < 10
    · have q := rdNum_short (k := 8) (l := l.drop 2) (by simp; omega)
      have : rdTail d b (l.drop 2, false) = rdTail d b (l.drop 2, true) := by unfold rdTail; rw [q, rdNum_offL]
      exact hshort (by rw [he0]; split <;> omega) (by rw [this]; exact rdTail_off d b _)
    · have q := rdNum_yes (k := 8) (l := l.drop 2) (by simp; omega)
      rw [List.drop_drop] at q
      by_cases hb1 : b = 1
      · have e10 : e0 = 10 := by rw [he0, if_pos hb1]
        refine hyes (by omega) ?_
        unfold rdTail
        rw [q, e10]
        simp only [hb1, if_true]
      · have e18 : e0 = 18 := by rw [he0, if_neg hb1]
        by_cases h18 : l.length < 18
        · have q2 := rdNum_short (k := 8) (l := l.drop (2 + 8)) (by simp; omega)
          refine hshort (by omega) ?_
          unfold rdTail
          rw [q]
          simp only [hb1, if_false, q2, rdNum_offL, rdBytes_off, rdFin_off, Int.toNat_zero, show ¬ (64 : Int) < 0 by decide]
          repeat' split
          all_goals exact ⟨rfl, rfl⟩
        · have q2 := rdNum_yes (k := 8) (l := l.drop (2 + 8)) (by simp; omega)
          rw [List.drop_drop] at q2
          refine hyes (by omega) ?_
          unfold rdTail
          rw [q, e18]
          simp only [hb1, if_false, q2]
  refine key _ (fun hs hz => ?_) (fun hs hq => ?_)
  · refine SameG.fault hz.1 hz.2 ?_ (by decide)
    by_cases hd1 : d = 1
    · rw [if_pos hd1, if_pos hs]
    · rw [if_neg hd1]
      by_cases hd3 : d = 3
      · rw [if_pos hd3, if_pos (by omega)]
      · rw [if_neg hd3, if_pos (by omega)]
  · rw [hq]
    clear hq key
    obtain ⟨g, hg⟩ : ∃ g, g = (if b = 1 then (0 : Int) else getV ((l.drop 10).take 8)) := ⟨_, rfl⟩
    have e : (if b = 1 then ((0 : Int), ((l.drop e0, false) : RS)) else (getV ((l.drop 10).take 8), (l.drop e0, false))) = (g, (l.drop e0, false)) := by rw [hg]; split <;> rfl
    simp only [e, ← hg]
    by_cases hd1 : d = 1
    · simp only [hd1, if_true, rdFin_on, if_neg (show ¬ l.length < e0 by omega)]
      exact ⟨rfl, rfl, fun _ => ⟨by simp; omega, by omega⟩⟩
    · simp only [hd1, if_false]
      by_cases h8 : l.length < e0 + 8
      · have q := rdNum_short (k := 8) (l := l.drop e0) (by simp; omega)
        simp only [q, rdNum_offL, rdBytes_off, rdFin_off, Int.toNat_zero, show ¬ (64 : Int) < 0 by decide, if_false, if_pos h8, if_pos (show l.length < e0 + 10 by omega)]
        by_cases hd3 : d = 3
        · simp only [hd3, if_true]; exact ⟨rfl, rfl, fun h => absurd h (by decide)⟩
        · simp only [hd3, if_false]; exact ⟨rfl, rfl, fun h => absurd h (by decide)⟩
      · have q := rdNum_yes (k := 8) (l := l.drop e0) (by simp; omega)
        rw [List.drop_drop] at q
        simp only [q, if_neg h8]
        by_cases hd3 : d = 3
        · simp only [hd3, if_true, rdFin_on]
          exact ⟨rfl, rfl, fun _ => ⟨by simp; omega, by show e0 + 8 ≤ l.length; omega⟩⟩
        · simp only [hd3, if_false]
          by_cases h10 : l.length < e0 + 10
          · have q2 := rdNum_short (k := 2) (l := l.drop (e0 + 8)) (by simp; omega)
            simp only [q2, rdBytes_off, rdFin_off, Int.toNat_zero, show ¬ (64 : Int) < 0 by decide, if_false, if_pos h10]
            exact ⟨rfl, rfl, fun h => absurd h (by decide)⟩
          · have q2 := rdNum_yes (k := 2) (l := l.drop (e0 + 8)) (by simp; omega)
            rw [List.drop_drop, getV2 _ (by simp; omega)] at q2
            obtain ⟨m, hm⟩ : ∃ m, m = leN ((l.drop (e0 + 8)).take 2) := ⟨_, rfl⟩
            rw [← hm] at q2
            simp only [q2, ← hm, if_neg h10]
            by_cases h64 : 64 < m
            · rw [if_pos (by omega), if_pos h64]
              exact ⟨rfl, rfl, fun h => absurd h (by decide)⟩
            · rw [if_neg (by omega), if_neg h64, Int.toNat_natCast]
              by_cases hm2 : l.length < e0 + 10 + m
              · have q3 := rdBytes_short (k := m) (l := l.drop (e0 + 8 + 2)) (by simp; omega)
                simp only [q3, rdFin_off, if_pos hm2]
                exact ⟨rfl, rfl, fun h => absurd h (by decide)⟩
              · have q3 := rdBytes_yes (k := m) (l := l.drop (e0 + 8 + 2)) (by simp; omega)
                simp only [q3, rdFin_on, if_neg hm2]
                exact ⟨rfl, rfl, fun _ => ⟨by simp; omega, by show e0 + 10 + m ≤ l.length; omega⟩⟩
theorem rd_getCd (l : List UInt8) : SameG (rdCmd (l, false)) (getCd l) l.length := by
  by_cases h0 : l.length = 0
  · obtain rfl : l = [] := List.eq_nil_of_length_eq_zero h0
    refine SameG.fault (e := 12) ?_ ?_ (by simp [getCd]) (by decide)
    all_goals simp [rdCmd, rdNum_short, rdFin_off]
  have n1 := num1 l (by omega)
  obtain ⟨d, hd⟩ : ∃ d, d = (l.getD 0 0).toNat := ⟨_, rfl⟩
  rw [← hd] at n1
  by_cases h3 : 3 < d
  · refine SameG.fault (e := 11) ?_ ?_ (by unfold getCd; rw [if_neg h0, ← hd, if_pos h3]) (by decide)
    all_goals
      unfold rdCmd
      rw [n1]
      simp only
      rw [if_pos (by omega)]
  by_cases hd0 : d = 0
  · have e : rdCmd (l, false) = rdFin ⟨0, false, 0, 0, 0, []⟩ (l.drop 1, false) := by
      unfold rdCmd
      rw [n1]
      simp only
      rw [if_neg (by omega), if_pos (by omega)]
    rw [e, rdFin_on]
    unfold getCd
    rw [if_neg h0, ← hd, if_neg h3, if_pos hd0]
    exact ⟨rfl, rfl, fun _ => ⟨by simp; omega, by simp; omega⟩⟩
  by_cases h1 : l.length = 1
  · have q := rdNum_short (k := 1) (l := l.drop 1) (by simp; omega)
    have e := rdCmd_tail (b := 0) n1 (by omega) q (by decide)
    have z := rdTail_off d 0 (l.drop 1)
    rw [e]
    exact SameG.fault z.1 z.2 (by unfold getCd; rw [if_neg h0, ← hd, if_neg h3, if_neg hd0, if_pos h1]) (by decide)
  have n2 := num1 (l.drop 1) (by simp; omega)
  rw [drop_getD, List.drop_drop] at n2
  obtain ⟨b, hb⟩ : ∃ b, b = (l.getD 1 0).toNat := ⟨_, rfl⟩
  rw [show 1 + 0 = 1 from rfl, ← hb] at n2
  by_cases hb1 : 1 < b
  · refine SameG.fault (e := 11) ?_ ?_ (by unfold getCd; rw [if_neg h0, ← hd, if_neg h3, if_neg hd0, if_neg h1, ← hb, if_pos hb1]) (by decide)
    all_goals
      unfold rdCmd
      rw [n1]
      simp only
      rw [if_neg (by omega), if_neg (by omega), n2]
      simp only
      rw [if_pos (by omega)]
  rw [rdCmd_tail n1 (by omega) n2 (by omega)]
  exact rdTail_get l d b (by omega) (by omega) hd.symm hb.symm (by omega)
end Go.Proofs.Ytieinkndcbobfaa
