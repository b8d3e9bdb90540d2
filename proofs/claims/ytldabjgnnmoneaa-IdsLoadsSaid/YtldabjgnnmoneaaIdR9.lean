/- The reference's Go. -/
import Derived.Test.YtldabjgnnmoneaaIdR8
import Derived.Test.YtldabjgnnmoneaaIdF
namespace Go.Proofs.Ytldabjgnnmoneaa
open Go.RowKit

theorem four_new (w : World) (T U V X : TypeId) (cs ds es fs : Array Value) :
    Below w.heap.size w ((((w.alloc (.cells cs T)).alloc (.cells ds U)).alloc (.cells es V)).alloc (.cells fs X)) ∧ Rec T ((((w.alloc (.cells cs T)).alloc (.cells ds U)).alloc (.cells es V)).alloc (.cells fs X)) w.heap.size cs ∧ Rec U ((((w.alloc (.cells cs T)).alloc (.cells ds U)).alloc (.cells es V)).alloc (.cells fs X)) (w.heap.size + 1) ds ∧
      Rec V ((((w.alloc (.cells cs T)).alloc (.cells ds U)).alloc (.cells es V)).alloc (.cells fs X)) (w.heap.size + 2) es ∧ Rec X ((((w.alloc (.cells cs T)).alloc (.cells ds U)).alloc (.cells es V)).alloc (.cells fs X)) (w.heap.size + 3) fs := by
  obtain ⟨h1, h2, h3, h4⟩ := three_new w T U V cs ds es
  obtain ⟨W, hW⟩ : ∃ W, W = (((w.alloc (.cells cs T)).alloc (.cells ds U)).alloc (.cells es V)) := ⟨_, rfl⟩
  have hs : W.heap.size = w.heap.size + 3 := by rw [hW]; simp
  rw [← hW] at h1 h2 h3 h4 ⊢
  have hb : Below W.heap.size W (W.alloc (.cells fs X)) := (Below.refl _ _).alloc (Nat.le_refl _) _
  refine ⟨h1.trans (hb.mono h1.size), h2.under hb, h3.under hb, h4.under hb, ?_⟩
  have := Rec.new W X fs
  rw [hs] at this
  exact this

section
variable {K : Nat → Prop} {w : World} {d : Rv} {s : NS}

theorem RGo_give (h : RS K w d s) (ok : s.Ok) (i gen : Int) :
    Calls Try.prog 10 #[d.v, .agg #[.bool true, .int .i64 i, .int .i64 gen]] w (RLeft K w (s.give i gen).1 (0, 0) (s.give i gen).2) := by
  obtain ⟨E, L, GA, gn, gc, FA, fn, fc⟩ := d
  show Calls _ _ #[.agg #[.int .i64 E, .int .i64 L, .slice GA gn gc, .slice FA fn fc], .agg #[.bool true, .int .i64 i, .int .i64 gen]] w _
  obtain ⟨hb, hA1, hB1, hC1, hD1⟩ := four_new w 30 35 30 24 #[.int .i64 E, .int .i64 L, .slice GA gn gc, .slice FA fn fc] #[.bool true, .int .i64 i, .int .i64 gen] #[.int .i64 0, .int .i64 0, .slice none 0 0, .slice none 0 0] #[.int .i64 0, .int .i64 0]
  obtain ⟨w1, hw1⟩ : ∃ w1, w1 = (((w.alloc (.cells #[.int .i64 E, .int .i64 L, .slice GA gn gc, .slice FA fn fc] 30)).alloc (.cells #[.bool true, .int .i64 i, .int .i64 gen] 35)).alloc (.cells #[.int .i64 0, .int .i64 0, .slice none 0 0, .slice none 0 0] 30)).alloc (.cells #[.int .i64 0, .int .i64 0] 24) := ⟨_, rfl⟩
  rw [← hw1] at hb hA1 hB1 hC1 hD1
  have c0 : w1.cell? ⟨w.heap.size + 1, 0, none⟩ = some (.bool true) := hB1.at_ 0
  have c1 : w1.cell? ⟨w.heap.size + 1, 1, none⟩ = some (.int .i64 i) := hB1.at_ 1
  have c2 : w1.cell? ⟨w.heap.size + 1, 2, none⟩ = some (.int .i64 gen) := hB1.at_ 2
  have CG := RGive_any (h.lt.below hb) ok i gen
  simp only [Rv.v, idv] at CG
  obtain ⟨r, hr⟩ : ∃ r, r = (s.give i gen).2 := ⟨_, rfl⟩
  rw [← hr] at CG ⊢
  have CH := Lib.hid CG
  have HB := Lib.hid hb
  have HA1 := Lib.hid hA1
  have HC1 := Lib.hid hC1
  have HD1 := Lib.hid hD1
  clear CG hb hA1 hB1 hC1 hD1 h hr
  go_enter Try.func10, Try.ntmps10
  go_wp2_with (first
    | (rw [← hw1]; clear hw1)
    | (with_reducible refine wpList_ldQ rfl (.tmp 2) rfl rfl HA1.out ?_)
    | (go_at_call 23; refine CH.out.mono ?_; rintro e w2 ⟨⟨E2, L2, GA2, gn2, gc2, FA2, fn2, fc2⟩, rfl, hR2, hB2⟩; have HC2 := Lib.hid (HC1.out.under hB2); have HD2 := Lib.hid (HD1.out.under hB2); have HR2 := Lib.hid hR2; have hs2 := hB2.size; have HB2 := Lib.hid hB2; clear hR2 hB2; simp only [Rv.v]; obtain ⟨w3, hw3⟩ : ∃ w3, w3 = w2.alloc (.cells #[.int .i64 E2, .int .i64 L2, .slice GA2 gn2 gc2, .slice FA2 fn2 fc2] 30) := ⟨_, rfl⟩; have b3 : Below w2.heap.size w2 w3 := (by rw [hw3]; exact (Below.refl _ _).alloc (Nat.le_refl _) _); have hT3 : Rec 30 w3 w2.heap.size #[.int .i64 E2, .int .i64 L2, .slice GA2 gn2 gc2, .slice FA2 fn2 fc2] := (by rw [hw3]; exact Rec.new _ _ _); have HT3 := Lib.hid hT3; have HC3 := Lib.hid (HC2.out.under b3); have HD3 := Lib.hid (HD2.out.under b3); have B3 := Lib.hid b3; have HW3 := Lib.hid hw3; clear hw3 b3 hT3)
    | (rw [← HW3.out])
    | (with_reducible refine wpList_ldQ rfl (.tmp 7) rfl rfl HT3.out ?_)
    | (with_reducible refine wpList_stQ (E' := E2) (L' := L2) (GA' := GA2) (gn' := gn2) (gc' := gc2) (FA' := FA2) (fn' := fn2) (fc' := fc2) rfl (.tmp 4) (.tmp 18) rfl rfl rfl HC3.out ?_; intro w4 hR4 hF4; have HD4 := Lib.hid (HD3.out.fr hF4 (fun e => by have e' : w.heap.size + 3 = w.heap.size + 2 := e; omega)); have HR4 := Lib.hid hR4; have HF4 := Lib.hid hF4; clear hR4 hF4)
    | (with_reducible refine wpList_stP (x1 := 0) (y1 := 0) rfl (.tmp 5) (.tmp 19) rfl rfl rfl HD4.out ?_; intro w5 hR5 hF5))
  have hT5 := HR4.out.fr hF5 (fun e => by have e' : w.heap.size + 2 = w.heap.size + 3 := e; omega)
  refine bodyPost_ret (res_cct rfl rfl (hT5.load rsT rfl) rfl (hR5.load idT rfl)) rfl ?_
  have b3 : Below w.heap.size w w3 := HB.out.trans ((HB2.out.trans (B3.out.mono HB2.out.size)).mono HB.out.size)
  have b4 := b3.trans (HF4.out.toBelow (fun x hx => by rw [show x = w.heap.size + 2 from hx]; omega) b3.size)
  have b5 := b4.trans (hF5.toBelow (fun x hx => by rw [show x = w.heap.size + 3 from hx]; omega) b4.size)
  have s1 := HD1.out.lt
  have s3 := B3.out.size
  have f35 : Fr (fun x => x = w.heap.size + 2 ∨ x = w.heap.size + 3) w3 w5 := (HF4.out.mono fun x hx => .inl hx).trans (hF5.mono fun x hx => .inr hx)
  have hst : KStays (fun x => ((K x ∧ x < w.heap.size) ∨ (w1.heap.size ≤ x ∧ x < w2.heap.size))) w2 w5 := ⟨Nat.le_trans s3 f35.size, fun x hx => by
    rw [f35.block x (by rcases hx with h | h <;> omega) (fun e => by rcases hx with h | h <;> rcases e with e | e <;> omega)]
    exact B3.out.block x (by rcases hx with h | h <;> omega)⟩
  have s15 := f35.size
  have sb := HB.out.size
  exact ⟨⟨E2, L2, GA2, gn2, gc2, FA2, fn2, fc2⟩, rfl, (HR2.out.stays hst).mono (fun x hx => by rcases hx with h | h; exact .inl h.1; exact .inr ⟨by omega, by omega⟩), b5⟩

theorem RGo_take (h : RS K w d s) (ok : s.Ok) (i gen : Int) :
    Calls Try.prog 10 #[d.v, .agg #[.bool false, .int .i64 i, .int .i64 gen]] w (RLeft K w s.take.1 s.take.2.1 s.take.2.2) := by
  obtain ⟨E, L, GA, gn, gc, FA, fn, fc⟩ := d
  show Calls _ _ #[.agg #[.int .i64 E, .int .i64 L, .slice GA gn gc, .slice FA fn fc], .agg #[.bool false, .int .i64 i, .int .i64 gen]] w _
  obtain ⟨hb, hA1, hB1, hC1, hD1⟩ := four_new w 30 35 30 24 #[.int .i64 E, .int .i64 L, .slice GA gn gc, .slice FA fn fc] #[.bool false, .int .i64 i, .int .i64 gen] #[.int .i64 0, .int .i64 0, .slice none 0 0, .slice none 0 0] #[.int .i64 0, .int .i64 0]
  obtain ⟨w1, hw1⟩ : ∃ w1, w1 = (((w.alloc (.cells #[.int .i64 E, .int .i64 L, .slice GA gn gc, .slice FA fn fc] 30)).alloc (.cells #[.bool false, .int .i64 i, .int .i64 gen] 35)).alloc (.cells #[.int .i64 0, .int .i64 0, .slice none 0 0, .slice none 0 0] 30)).alloc (.cells #[.int .i64 0, .int .i64 0] 24) := ⟨_, rfl⟩
  rw [← hw1] at hb hA1 hB1 hC1 hD1
  have c0 : w1.cell? ⟨w.heap.size + 1, 0, none⟩ = some (.bool false) := hB1.at_ 0
  have CG := RTake_any (h.lt.below hb) ok
  simp only [Rv.v] at CG
  obtain ⟨r, hr⟩ : ∃ r, r = s.take.2.2 := ⟨_, rfl⟩
  obtain ⟨a, ha⟩ : ∃ a, a = s.take.2.1 := ⟨_, rfl⟩
  rw [← hr, ← ha] at CG ⊢
  obtain ⟨a1, a2⟩ := a
  have CH := Lib.hid CG
  have HB := Lib.hid hb
  have HA1 := Lib.hid hA1
  have HC1 := Lib.hid hC1
  have HD1 := Lib.hid hD1
  clear CG hb hA1 hB1 hC1 hD1 h hr ha
  go_enter Try.func10, Try.ntmps10
  go_wp2_with (first
    | (rw [← hw1]; clear hw1)
    | (with_reducible refine wpList_ldQ rfl (.tmp 2) rfl rfl HA1.out ?_)
    | (go_at_call 24; refine CH.out.mono ?_; rintro e w2 ⟨⟨E2, L2, GA2, gn2, gc2, FA2, fn2, fc2⟩, rfl, hR2, hB2⟩; have HC2 := Lib.hid (HC1.out.under hB2); have HD2 := Lib.hid (HD1.out.under hB2); have HR2 := Lib.hid hR2; have hs2 := hB2.size; have HB2 := Lib.hid hB2; clear hR2 hB2; simp only [Rv.v, idv])
    | (with_reducible refine wpList_stQ (E' := E2) (L' := L2) (GA' := GA2) (gn' := gn2) (gc' := gc2) (FA' := FA2) (fn' := fn2) (fc' := fc2) rfl (.tmp 4) (.tmp 23) rfl rfl rfl HC2.out ?_; intro w4 hR4 hF4; have HD4 := Lib.hid (HD2.out.fr hF4 (fun e => by have e' : w.heap.size + 3 = w.heap.size + 2 := e; omega)); have HR4 := Lib.hid hR4; have HF4 := Lib.hid hF4; clear hR4 hF4)
    | (with_reducible refine wpList_stP (x1 := a1) (y1 := a2) rfl (.tmp 5) (.tmp 24) rfl rfl rfl HD4.out ?_; intro w5 hR5 hF5))
  have hT5 := HR4.out.fr hF5 (fun e => by have e' : w.heap.size + 2 = w.heap.size + 3 := e; omega)
  refine bodyPost_ret (res_cct rfl rfl (hT5.load rsT rfl) rfl (hR5.load idT rfl)) rfl ?_
  have b3 : Below w.heap.size w w2 := HB.out.trans (HB2.out.mono HB.out.size)
  have b4 := b3.trans (HF4.out.toBelow (fun x hx => by rw [show x = w.heap.size + 2 from hx]; omega) b3.size)
  have b5 := b4.trans (hF5.toBelow (fun x hx => by rw [show x = w.heap.size + 3 from hx]; omega) b4.size)
  have s1 := HD1.out.lt
  have f35 : Fr (fun x => x = w.heap.size + 2 ∨ x = w.heap.size + 3) w2 w5 := (HF4.out.mono fun x hx => .inl hx).trans (hF5.mono fun x hx => .inr hx)
  have hst : KStays (fun x => ((K x ∧ x < w.heap.size) ∨ (w1.heap.size ≤ x ∧ x < w2.heap.size))) w2 w5 := ⟨f35.size, fun x hx =>
    f35.block x (by rcases hx with h | h <;> omega) (fun e => by rcases hx with h | h <;> rcases e with e | e <;> omega)⟩
  have s15 := f35.size
  have sb := HB.out.size
  exact ⟨⟨E2, L2, GA2, gn2, gc2, FA2, fn2, fc2⟩, rfl, (HR2.out.stays hst).mono (fun x hx => by rcases hx with h | h; exact .inl h.1; exact .inr ⟨by omega, by omega⟩), b5⟩

theorem RGo_any (h : RS K w d s) (ok : s.Ok) (x : Stg) : Calls Try.prog 10 #[d.v, x.val] w (RLeft K w (s.go x).1 (s.go x).2.1 (s.go x).2.2) := by
  obtain ⟨gb, i, gen⟩ := x
  cases gb
  · exact RGo_take h ok i gen
  · exact RGo_give h ok i gen

theorem NS.go_ok (ok : s.Ok) (x : Stg) : (s.go x).1.Ok := by
  obtain ⟨gb, i, gen⟩ := x
  cases gb
  · exact NS.take_ok ok
  · exact NS.give_ok ok i gen
end
end Go.Proofs.Ytldabjgnnmoneaa
