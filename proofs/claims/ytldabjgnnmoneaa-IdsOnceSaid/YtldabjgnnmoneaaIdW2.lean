/- The law IdsOnce, walked. -/
import Derived.Test.YtldabjgnnmoneaaIdV
import Derived.Test.YtldabjgnnmoneaaIdO
import Derived.IntWalk
import Derived.BigQuiet
import Derived.Deep.QuietTactic
namespace Go.Proofs.Ytldabjgnnmoneaa
open Go.RowKit

/-- Names that were taken: an index in use, of a generation that it has or had; one that it has is of an index that is alive. -/
def Seen (s : NS) (all : List (Int × Int)) : Prop := ∀ x ∈ all, 0 ≤ x.1 ∧ x.1 < s.g.length ∧ x.2 ≤ s.g.getD x.1.toNat 0 ∧ (x.2 = s.g.getD x.1.toNat 0 → s.live x.1 = true)

theorem Seen.give {s : NS} {all : List (Int × Int)} (h : Seen s all) (i gen : Int) : Seen (s.give i gen).1 all := by
  by_cases ha : s.alive i gen = true
  · rw [NS.give_yes ha]
    obtain ⟨⟨q0, q1, q2, q3⟩, q4⟩ := NS.alive_iff.1 ha
    intro x hx
    obtain ⟨h0, h1, h2, h3⟩ := h x hx
    simp only [List.length_set, getD_set]
    by_cases e : i.toNat = x.1.toNat
    · have e1 : x.1 = i := by omega
      rw [if_pos ⟨e, by omega⟩]
      rw [e1, q4] at h2
      exact ⟨h0, h1, by omega, fun hh => by omega⟩
    · rw [if_neg (fun hh => e hh.1)]
      refine ⟨h0, h1, h2, fun hh => ?_⟩
      obtain ⟨l0, l1, l2, l3⟩ := NS.live_iff.1 (h3 hh)
      refine NS.live_iff.2 ⟨l0, by simpa using l1, ?_, ?_⟩
      · simp only
        by_cases hl : gen + 1 < s.L
        · rw [if_pos hl]
          intro hm
          rcases List.mem_append.1 hm with hm | hm
          · exact l2 hm
          · have := List.mem_singleton.1 hm; exact e (by rw [this])
        · rw [if_neg hl]; exact l2
      · simp only [getD_set]
        rw [if_neg (fun hh => e hh.1)]
        exact l3
  · rw [NS.give_no (by simpa using ha)]; exact h

/-- A name taken was not there. -/
theorem Seen.take {s : NS} {all : List (Int × Int)} (h : Seen s all) (ok : s.Ok) (hz : s.take.2.2 = 0) : (∀ x ∈ all, x ≠ s.take.2.1) ∧ Seen s.take.1 (all ++ [s.take.2.1]) ∧ s.take.1.alive s.take.2.1.1 s.take.2.1.2 = true := by
  by_cases hf : s.fr = []
  · by_cases he : s.g.length = s.E
    · rw [NS.take_full hf he] at hz
      exact absurd (show (9 : Int) = 0 from hz) (by decide)
    · rw [NS.take_push hf he]
      have hL := ok.L1
      have hlen : (s.push 0).g.length = s.g.length + 1 := by simp [NS.push]
      have hnew : (s.push 0).g.getD s.g.length 0 = 0 := by simp [NS.push, List.getD_eq_getElem?_getD]
      have hl : (s.push 0).live (s.g.length : Int) = true := NS.live_iff.2 ⟨Int.natCast_nonneg _, by rw [hlen]; omega, by show (s.g.length : Int) ∉ s.fr; rw [hf]; exact List.not_mem_nil, by rw [Int.toNat_natCast, hnew]; show (0 : Int) < s.L; omega⟩
      refine ⟨fun x hx e => ?_, fun x hx => ?_, ?_⟩
      · have := (h x hx).2.1
        rw [e] at this
        simp only at this
        omega
      · rcases List.mem_append.1 hx with hx | hx
        · obtain ⟨h0, h1, h2, h3⟩ := h x hx
          have eg : (s.push 0).g.getD x.1.toNat 0 = s.g.getD x.1.toNat 0 := by
            show (s.g ++ [0]).getD _ 0 = _
            rw [List.getD_eq_getElem?_getD, List.getElem?_append_left (by omega), ← List.getD_eq_getElem?_getD]
          rw [eg]
          refine ⟨h0, by rw [hlen]; omega, h2, fun hh => ?_⟩
          obtain ⟨l0, l1, l2, l3⟩ := NS.live_iff.1 (h3 hh)
          exact NS.live_iff.2 ⟨l0, by rw [hlen]; omega, l2, by rw [eg]; exact l3⟩
        · rw [List.mem_singleton.1 hx]
          simp only [Int.toNat_natCast]
          exact ⟨Int.natCast_nonneg _, by rw [hlen]; omega, by rw [hnew]; exact Int.le_refl _, fun _ => hl⟩
      · exact NS.alive_iff.2 ⟨NS.live_iff.1 hl, by simp only [Int.toNat_natCast]; exact hnew⟩
  · have ht := NS.take_free hf
    obtain ⟨q0, q1, q2, q3⟩ := ok.fz _ (NS.last_mem hf)
    have hm := NS.last_mem hf
    have hsp := NS.fr_last hf
    have nd := ok.nd
    rw [hsp] at nd
    obtain ⟨k, hk⟩ : ∃ k, k = s.fr.getLastD 0 := ⟨_, rfl⟩
    rw [ht]
    rw [← hk] at q0 q1 q2 q3 hm nd ⊢
    have hkf : k ∉ s.fr.dropLast := fun hx => (List.nodup_append.1 nd).2.2 k hx k (List.mem_singleton.2 rfl) rfl
    have hl : ({ s with fr := s.fr.dropLast } : NS).live k = true := NS.live_iff.2 ⟨q0, q1, hkf, q3⟩
    refine ⟨fun x hx e => ?_, fun x hx => ?_, ?_⟩
    · obtain ⟨h0, h1, h2, h3⟩ := h x hx
      rw [e] at h3
      exact (NS.live_iff.1 (h3 rfl)).2.2.1 hm
    · rcases List.mem_append.1 hx with hx | hx
      · obtain ⟨h0, h1, h2, h3⟩ := h x hx
        refine ⟨h0, h1, h2, fun hh => ?_⟩
        obtain ⟨l0, l1, l2, l3⟩ := NS.live_iff.1 (h3 hh)
        exact NS.live_iff.2 ⟨l0, l1, fun hx => l2 (List.dropLast_subset _ hx), l3⟩
      · rw [List.mem_singleton.1 hx]
        exact ⟨q0, q1, Int.le_refl _, fun _ => hl⟩
    · unfold NS.alive
      rw [hl]
      simp

/-- The cells of a row of names. -/
def pairsV (l : List (Int × Int)) : List Value := l.flatMap fun x => [.int .i64 x.1, .int .i64 x.2]
theorem pairsV_len : ∀ l : List (Int × Int), (pairsV l).length = l.length * 2
  | [] => rfl
  | x :: l => by
    have := pairsV_len l
    unfold pairsV at this ⊢
    simp only [List.flatMap_cons, List.length_append, List.length_cons, List.length_nil, this]
    omega
theorem pairsV_get : ∀ (l : List (Int × Int)) (k : Nat) (h : k < l.length), (pairsV l)[k * 2]? = some (.int .i64 l[k].1) ∧ (pairsV l)[k * 2 + 1]? = some (.int .i64 l[k].2)
  | x :: l, 0, _ => ⟨rfl, rfl⟩
  | x :: l, k + 1, h => by
    have := pairsV_get l k (by simpa using h)
    have e : pairsV (x :: l) = .int .i64 x.1 :: .int .i64 x.2 :: pairsV l := rfl
    rw [e, show (k + 1) * 2 = k * 2 + 1 + 1 by omega]
    simpa using this
theorem pairsV_one (l : List (Int × Int)) (x : Int × Int) : pairsV (l ++ [x]) = pairsV l ++ [.int .i64 x.1, .int .i64 x.2] := by simp [pairsV]
theorem idsT : El Try.prog 40 24 (.agg #[.int .i64 0, .int .i64 0]) 2 16 := ⟨Try.underlying40, by kernel_rfl, rfl, by decide⟩

theorem own_stays {w w' : World} {B e n : Nat} {size : Nat} {v : Value} {xs : List Value} {keep : Nat → Prop} (h : w.ownsRow B e size v n xs) (hs : KStays keep w w') (hk : ∀ x, v.ownBlock = some x → keep x) : w'.ownsRow B e size v n xs :=
  ⟨h.1, h.2.elim .inl fun ⟨g, cap, cur, e1, e2, hh, r⟩ => .inr ⟨g, cap, cur, e1, e2, (hs.2 g (hk g (by rw [e1]; rfl))).trans hh, r⟩⟩
theorem own_openP {w : World} {B e n : Nat} {v : Value} {xs : List Value} (h : w.ownsRow B e 2 v n xs) :
    ∃ A c, v = .slice A n c ∧ n ≤ c ∧ c ≤ maxLen ∧ (0 < n → ∃ g, A = some ⟨g, 0, none⟩ ∧ g < w.heap.size ∧ (∀ j, j < n * 2 → w.cell? ⟨g, j, none⟩ = xs[j]?)) := by
  have h' := h
  rcases h.2 with ⟨hv, h0⟩ | ⟨g, cap, cur, rfl, _, hh, hn, hc, _, _⟩
  · exact ⟨none, 0, by rw [hv, h0], by omega, by unfold maxLen; omega, fun hp => by omega⟩
  · exact ⟨_, cap, rfl, hn, hc, fun _ => ⟨g, rfl, (Array.getElem?_eq_some_iff.1 hh).1, fun j hj => h'.cellAt j hj⟩⟩
theorem Idv.grown {w0 w w' : World} {p : Nat} {keep q : Nat → Prop} {s : NS} (h : Idv w0 w p keep s) (hF : Fr q w w') (hq : ∀ x, q x → keep x ∧ w0.heap.size ≤ x) : Idv w0 w' p keep s := by
  obtain ⟨own, h1, h2, h3, hd, gv, av, fv, I⟩ := h
  exact ⟨own, h1.trans (hF.toBelow (fun x hx => (hq x hx).2) h1.size), h2, fun x hx => ⟨Nat.lt_of_lt_of_le (h3 x hx).1 hF.size, (h3 x hx).2⟩, fun x hx => Nat.lt_of_lt_of_le (hd x hx) hF.size, gv, av, fv, I.kept hF (fun x hx e => (h3 x (hq x e).1).2 hx)⟩

theorem Idv.grown2 {w0 w w' : World} {p : Nat} {keep q : Nat → Prop} {s : NS} (h : Idv w0 w p keep s) (hF : Fr q w w') (hq : ∀ x, q x → keep x ∧ w0.heap.size ≤ x) (more : Nat → Prop) (hm : ∀ x, more x → w.heap.size ≤ x ∧ x < w'.heap.size) : Idv w0 w' p (fun x => keep x ∨ more x) s := by
  obtain ⟨own, h1, h2, h3, hd, gv, av, fv, I⟩ := h
  refine ⟨own, h1.trans (hF.toBelow (fun x hx => (hq x hx).2) h1.size), h2, fun x hx => ?_, fun x hx => Nat.lt_of_lt_of_le (hd x hx) hF.size, gv, av, fv, I.kept hF (fun x hx e => (h3 x (hq x e).1).2 hx)⟩
  rcases hx with hx | hx
  · exact ⟨Nat.lt_of_lt_of_le (h3 x hx).1 hF.size, (h3 x hx).2⟩
  · exact ⟨(hm x hx).2, fun ho => by have := hd x ho; have := (hm x hx).1; omega⟩
theorem NS.take_nz {s : NS} (h : s.take.2.2 ≠ 0) : s.take.1 = s := by
  by_cases hf : s.fr = []
  · by_cases he : s.g.length = s.E
    · rw [NS.take_full hf he]
    · rw [NS.take_next hf he] at h; exact absurd rfl h
  · rw [NS.take_free hf] at h; exact absurd rfl h

/-- What holds ahead of each step: the names at p; those taken in a row of the call's own. -/
def OnceI (w : World) (p : Nat) (m : Nat) (v : Value) (wr : World) : Prop :=
  ∃ (s : NS) (all : List (Int × Int)), all.length ≤ m ∧ Seen s all ∧ wr.ownsRow w.heap.size 24 2 v all.length (pairsV all) ∧ Idv w wr p (fun x => v.ownBlock = some x ∨ x < w.heap.size) s

set_option maxRecDepth 100000 in
set_option maxHeartbeats 4000000 in
theorem IdsOnce_walk (nE nG : Int) (A : Option Addr) (n c : Nat) (st : List Stg) (w : World)
    (h : TRd w A n st) (hn : (n : Int) ≤ 9223372036854775807) :
    Calls Try.prog 4 #[.int .i64 nE, .int .i64 nG, .slice A n c] w fun e w' => e = .returned (.bool true) ∧ Below w.heap.size w w' := by
  obtain ⟨i0, hi0, hz0, hz1, hz2⟩ := info_parts idsT.info
  have HL := Lib.hid (live_any w)
  have H := Lib.hid h
  have CN := Lib.hid (New_idv nE nG w)
  have HINF := Lib.hid (And.intro hi0 (And.intro hz0 (And.intro hz1 hz2)))
  clear h hi0 hz0 hz1 hz2
  by_cases hn60 : n ≤ 60
  case neg =>
    go_enter Try.func4, Try.ntmps4
    go_wp2_with (go_at_call 6; refine HL.out.mono ?_; rintro e w1 ⟨rfl, hB1⟩)
    go_ret
    exact ⟨rfl, hB1⟩
  go_enter Try.func4, Try.ntmps4
  go_wp2_with (go_at_call 7; refine CN.out.mono ?_; rintro e w1 ⟨p, rfl, hD1⟩; have HD1 := Lib.hid hD1; clear hD1)
  have HI : Hid (OnceI w p 0 (.slice none 0 0) w1) := Lib.hid ⟨_, [], Nat.le_refl _, fun x hx => absurd hx List.not_mem_nil, World.ownsRow_nil _ _ _ _, HD1.out.less (fun x hx => by rcases hx with h | h; cases h; exact h)⟩
  clear HD1 CN
  go_loopw [8, 9] (fun v iv wr => ∃ j : Nat, j ≤ n ∧ iv = .int .i64 j ∧ OnceI w p j v wr) (fun _ iv _ => n - (intOf iv).toNat)
  case atStart => exact ⟨0, Nat.zero_le _, rfl, HI.out⟩
  case round =>
    obtain ⟨j, hj, rfl, s, all, hall, hseen, hrow, hD⟩ := hrel
    by_cases hlt : j < n
    · obtain ⟨b, o, hA, hbw, hc⟩ := H.out.2 (by omega)
      have hjl : j < st.length := by have := H.out.1; omega
      obtain ⟨q0, q1, q2⟩ := hc j hjl
      obtain ⟨y, hy⟩ : ∃ y, y = st[j] := ⟨_, rfl⟩
      rw [← hy] at q0 q1 q2
      have ok := hD.ok
      have hdo := do_idv hD y
      have k0 := (hD.under.cell (p := ⟨b, o + j * 3, none⟩) hbw).trans q0
      have k1 := (hD.under.cell (p := ⟨b, o + j * 3 + 1, none⟩) hbw).trans q1
      have k2 := (hD.under.cell (p := ⟨b, o + j * 3 + 2, none⟩) hbw).trans q2
      obtain ⟨yg, yi, yn⟩ := y
      simp only [Stg.val, idv] at hdo
      simp only at k0 k1 k2
      have HQ := Lib.hid q0
      have HSEEN := Lib.hid hseen
      have HROW := Lib.hid hrow
      have OK := Lib.hid ok
      clear hc hD hy q1 q2 hseen hrow ok q0
      subst hA
      cases yg
      · -- a name is taken, or there is none
        have ego : s.go ⟨false, yi, yn⟩ = s.take := rfl
        rw [ego] at hdo
        obtain ⟨a1, ha1⟩ : ∃ a1, a1 = s.take.2.1.1 := ⟨_, rfl⟩
        obtain ⟨a2, ha2⟩ : ∃ a2, a2 = s.take.2.1.2 := ⟨_, rfl⟩
        obtain ⟨cd, hcd⟩ : ∃ cd, cd = s.take.2.2 := ⟨_, rfl⟩
        rw [← ha1, ← ha2, ← hcd] at hdo
        have HDO := Lib.hid hdo
        clear hdo
        by_cases hcz : cd = 0
        · subst hcz
          obtain ⟨hne, hseen', halive⟩ := HSEEN.out.take OK.out hcd.symm
          rw [show s.take.2.1 = (a1, a2) by rw [ha1, ha2]] at hne hseen' halive
          simp only at halive
          have HNE := Lib.hid hne
          have HSE := Lib.hid hseen'
          have HAL := Lib.hid halive
          clear ego ha1 ha2 hcd hne hseen' halive
          obtain ⟨A', c', rfl, _, _, hrw⟩ := own_openP HROW.out
          clear hrw
          go_wp2_with (go_at_call 9; refine HDO.out.mono ?_; rintro e w2 ⟨rfl, hD2, hS2⟩; obtain ⟨w3, hw3⟩ : ∃ w3, w3 = w2.alloc (.cells #[.int .i64 a1, .int .i64 a2] 24) := ⟨_, rfl⟩; have b3 : Below w2.heap.size w2 w3 := (by rw [hw3]; exact (Below.refl _ _).alloc (Nat.le_refl _) _); have m0 : (w2.alloc (.cells #[.int .i64 a1, .int .i64 a2] 24)).cell? ⟨b, o + j * 3, none⟩ = some (.bool false) := (by rw [← hw3]; exact ((hD2.under.trans (b3.mono hD2.under.size)).cell (p := ⟨b, o + j * 3, none⟩) hbw).trans HQ.out); have HT3 : Hid (Rec 24 w3 w2.heap.size #[.int .i64 a1, .int .i64 a2]) := Lib.hid (by rw [hw3]; exact Rec.new _ _ _); have HD3 := Lib.hid (hD2.below b3); have hr2 := own_stays HROW.out hS2 (fun x hx => .inl hx); have HR3 : Hid (w3.ownsRow w.heap.size 24 2 (.slice A' all.length c') all.length (pairsV all)) := Lib.hid ⟨hr2.1, hr2.2.elim .inl fun ⟨g, cap, cur, e1, e2, hh, r⟩ => .inr ⟨g, cap, cur, e1, e2, (b3.block g (Array.getElem?_eq_some_iff.1 hh).1).trans hh, r⟩⟩; have HW3 := Lib.hid hw3; clear hD2 hS2 b3 hw3 hr2)
          rw [← HW3.out]
          obtain ⟨qq, hqq⟩ : ∃ qq, qq = w2.heap.size := ⟨_, rfl⟩
          rw [← hqq] at HT3 ⊢
          clear m0 hqq HW3
          go_loopw [12] (fun kv wq => ∃ k : Nat, k ≤ all.length ∧ kv = .int .i64 k ∧ Below w3.heap.size w3 wq) (fun kv _ => all.length - (intOf kv).toNat)
          case atStart => exact ⟨0, Nat.zero_le _, rfl, Below.refl _ _⟩
          case round =>
            obtain ⟨k, hk, rfl, hB⟩ := hrel
            have hT := HT3.out.under hB
            have t0 : wr.cell? ⟨qq, 0, none⟩ = some (.int .i64 a1) := hT.at_ 0
            have t1 : wr.cell? ⟨qq, 1, none⟩ = some (.int .i64 a2) := hT.at_ 1
            by_cases hkn : k < all.length
            · obtain ⟨_, _, e, _, _, hrw⟩ := own_openP HR3.out
              cases e
              obtain ⟨g3, hg3, hgl, hcell⟩ := hrw (by omega)
              obtain ⟨x, hx⟩ : ∃ x, x = all[k] := ⟨_, rfl⟩
              have hxm : x ∈ all := by rw [hx]; exact List.getElem_mem hkn
              have hxne := HNE.out x hxm
              obtain ⟨p0, p1⟩ := pairsV_get all k hkn
              rw [← hx] at p0 p1
              have e0 := (hB.cell (p := ⟨g3, k * 2, none⟩) hgl).trans ((hcell (k * 2) (by omega)).trans p0)
              have e1 := (hB.cell (p := ⟨g3, k * 2 + 1, none⟩) hgl).trans ((hcell (k * 2 + 1) (by omega)).trans p1)
              obtain ⟨x1, x2⟩ := x
              simp only at e0 e1
              have hnn : ¬ (x1 = a1 ∧ x2 = a2) := fun hh => hxne (by rw [hh.1, hh.2])
              have HB := Lib.hid hB
              subst hg3
              clear hcell p0 p1 hx hxm hxne hB hT hrw
              by_cases hx1 : x1 = a1
              · subst hx1
                have hx2 : ¬ x2 = a2 := fun hh => hnn ⟨rfl, hh⟩
                have hx3 : (x2 == a2) = false := by simpa using hx2
                have hx4 : decide (x2 = a2) = false := by simpa using hx2
                clear hnn
                go_wp2_with fail
                go_quiet (fail)
                go_wp2
                go_roundw
                case rel => exact ⟨k + 1, hkn, by go_num, HB.out.trans ((below_drewN _ _).mono HB.out.size)⟩
                case measure => simp [intOf]; omega
              · have hx3 : (x1 == a1) = false := by simpa using hx1
                have hx4 : decide (x1 = a1) = false := by simpa using hx1
                clear hnn
                go_wp2_with fail
                go_quiet (fail)
                go_wp2
                go_roundw
                case rel => exact ⟨k + 1, hkn, by go_num, HB.out.trans ((below_drewN _ _).mono HB.out.size)⟩
                case measure => simp [intOf]; omega
            · -- none of those taken before: it is alive, and laid behind them
              have hD4 := HD3.out.below hB
              have CA := Alive_idv hD4 a1 a2
              rw [HAL.out] at CA
              simp only [idv] at CA
              have CAL := Lib.hid CA
              have HR4 : Hid (wr.ownsRow w.heap.size 24 2 (.slice A' all.length c') all.length (pairsV all)) := Lib.hid ⟨HR3.out.1, HR3.out.2.elim .inl fun ⟨g, cap, cur, e1, e2, hh, r⟩ => .inr ⟨g, cap, cur, e1, e2, (hB.block g (Array.getElem?_eq_some_iff.1 hh).1).trans hh, r⟩⟩
              have HT4 := Lib.hid hT
              have HD4 := Lib.hid hD4
              have hal60 : all.length ≤ 60 := by omega
              clear CA hD4 hB hT t0 t1
              have hi0 := HINF.out.1
              have hz0 := HINF.out.2.1
              have hz1 := HINF.out.2.2.1
              have hz2 := HINF.out.2.2.2
              go_wp2_with (first
                | (with_reducible refine wpList_ldP rfl (.tmp 10) rfl rfl HT4.out ?_)
                | ((go_at_call 12); refine CAL.out.mono ?_; rintro e w5 ⟨rfl, hB5⟩; have HT5 := Lib.hid (HT4.out.under hB5); obtain ⟨w6, hw6⟩ : ∃ w6, w6 = w5.alloc (.cells #[.int .i64 a1, .int .i64 a2] 24) := ⟨_, rfl⟩; have b6 : Below w5.heap.size w5 w6 := (by rw [hw6]; exact (Below.refl _ _).alloc (Nat.le_refl _) _); have b46 := hB5.trans (b6.mono hB5.size); have hN6 : Rec 24 w6 w5.heap.size #[.int .i64 a1, .int .i64 a2] := (by rw [hw6]; exact Rec.new _ _ _); have hnews : ∀ k u, [Value.int .i64 a1, Value.int .i64 a2][k]? = some u → w6.cell? ((⟨w5.heap.size, 0, none⟩ : Addr).add k) = some u := (fun k u hu => by rw [Addr.add_lit, Nat.zero_add, hN6.at_ k, ← hu]; simp); have hr6 : w6.ownsRow w.heap.size 24 2 (.slice A' all.length c') all.length (pairsV all) := ⟨HR4.out.1, HR4.out.2.elim .inl fun ⟨g, cap, cur, e1, e2, hh, r⟩ => .inr ⟨g, cap, cur, e1, e2, (b46.block g (Array.getElem?_eq_some_iff.1 hh).1).trans hh, r⟩⟩; have HD6 := Lib.hid (HD4.out.below b46); have hs6 : w.heap.size ≤ w6.heap.size := HD6.out.under.size; have HW6 := Lib.hid hw6; clear hB5 hw6 b6 b46 hN6)
                | (with_reducible refine wpList_ldP rfl (.tmp 10) rfl rfl HT5.out ?_)
                | (rw [← HW6.out])
                | (at_builtin; refine wpList_append_own_at _ rfl (.tmp 62) (.tmp 64) 40 rfl w.heap.size 24 i0 (.agg #[.int .i64 0, .int .i64 0]) 2 16 Try.underlying40 hi0 hz0 hz1 hz2 rfl (by decide) (.slice A' all.length c') all.length (pairsV all) rfl hr6 ⟨w5.heap.size, 0, none⟩ 1 1 [.int .i64 a1, .int .i64 a2] rfl rfl hnews (fun u hu => by simp at hu; rcases hu with rfl | rfl <;> rfl) (by unfold maxLen; omega) (by omega) hs6 ?_))
              intro v7 w7 ho7 hg7 _ he7
              have HG7 := Lib.hid hg7
              have HO7 := Lib.hid ho7
              have HE7 := Lib.hid he7
              have HR6 := Lib.hid hr6
              clear hg7 ho7 he7 hr6 hnews
              go_wp2
              go_roundw
              case rel =>
                refine ⟨j + 1, hlt, by go_num, _, all ++ [(a1, a2)], by simp; omega, HSE.out, by rw [pairsV_one, List.length_append]; exact HO7.out, ?_⟩
                have hd := HD6.out.grown2 (Fr.grown HG7.out (own := fun x => (Value.slice A' all.length c').ownBlock = some x) (fun x hx => hx)) (fun x hx => ⟨.inl hx, (HR6.out.lt x hx).1⟩) (fun x => x = w6.heap.size ∧ v7.ownBlock = some x) (fun x hx => ⟨by omega, (HO7.out.lt x hx.2).2⟩)
                exact hd.less (fun x hx => by
                  rcases hx with hx | hx
                  · rcases HE7.out with e | e
                    · exact .inl (.inl (e ▸ hx))
                    · rw [hx] at e; injection e with e; exact .inr ⟨e, hx⟩
                  · exact .inl (.inr hx))
              case measure => simp [intOf]; omega
        · have hs1 := NS.take_nz (s := s) (by rw [← hcd]; exact hcz)
          rw [hs1] at HDO
          clear ego ha1 ha2 hcd hs1
          go_wp2_with (go_at_call 9; refine HDO.out.mono ?_; rintro e w2 ⟨rfl, hD2, hS2⟩; have b3 : Below w2.heap.size w2 (w2.alloc (.cells #[.int .i64 a1, .int .i64 a2] 24)) := (Below.refl _ _).alloc (Nat.le_refl _) _; have m0 : (w2.alloc (.cells #[.int .i64 a1, .int .i64 a2] 24)).cell? ⟨b, o + j * 3, none⟩ = some (.bool false) := ((hD2.under.trans (b3.mono hD2.under.size)).cell (p := ⟨b, o + j * 3, none⟩) hbw).trans HQ.out; have HD3 := Lib.hid (hD2.below b3); have HR3 := Lib.hid (own_stays HROW.out hS2 (fun x hx => .inl hx)); have B3 := Lib.hid b3; clear hD2 hS2 b3)
          go_roundw
          case rel => exact ⟨j + 1, hlt, by go_num, _, all, by omega, HSEEN.out, ⟨HR3.out.1, HR3.out.2.elim .inl fun ⟨g, cap, cur, e1, e2, hh, r⟩ => .inr ⟨g, cap, cur, e1, e2, (B3.out.block g (Array.getElem?_eq_some_iff.1 hh).1).trans hh, r⟩⟩, HD3.out⟩
          case measure => simp [intOf]; omega
      · have ego : s.go ⟨true, yi, yn⟩ = ((s.give yi yn).1, (0, 0), (s.give yi yn).2) := rfl
        rw [ego] at hdo
        obtain ⟨cd, hcd⟩ : ∃ cd, cd = (s.give yi yn).2 := ⟨_, rfl⟩
        simp only at hdo
        rw [← hcd] at hdo
        have HDO := Lib.hid hdo
        clear hdo hcd ego
        go_wp2_with (go_at_call 9; refine HDO.out.mono ?_; rintro e w2 ⟨rfl, hD2, hS2⟩; have b3 : Below w2.heap.size w2 (w2.alloc (.cells #[.int .i64 0, .int .i64 0] 24)) := (Below.refl _ _).alloc (Nat.le_refl _) _; have m0 : (w2.alloc (.cells #[.int .i64 0, .int .i64 0] 24)).cell? ⟨b, o + j * 3, none⟩ = some (.bool true) := ((hD2.under.trans (b3.mono hD2.under.size)).cell (p := ⟨b, o + j * 3, none⟩) hbw).trans HQ.out; have HD3 := Lib.hid (hD2.below b3); have HR3 := Lib.hid (own_stays HROW.out hS2 (fun x hx => .inl hx)); have B3 := Lib.hid b3; clear hD2 hS2 b3)
        go_roundw
        case rel => exact ⟨j + 1, hlt, by go_num, _, all, by omega, HSEEN.out.give yi yn, ⟨HR3.out.1, HR3.out.2.elim .inl fun ⟨g, cap, cur, e1, e2, hh, r⟩ => .inr ⟨g, cap, cur, e1, e2, (B3.out.block g (Array.getElem?_eq_some_iff.1 hh).1).trans hh, r⟩⟩, HD3.out⟩
        case measure => simp [intOf]; omega
    · go_wp2_with (go_at_call 6; refine (live_any _).mono ?_; rintro e w9 ⟨rfl, hB9⟩)
      go_ret
      exact ⟨rfl, hD.under.trans (hB9.mono hD.under.size)⟩
end Go.Proofs.Ytldabjgnnmoneaa
