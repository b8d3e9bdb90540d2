/- LeC, TbR5 -/
import Derived.Test.YtnjfogeefdmlkaaDoorQl11
namespace Go.Proofs.YtnjfogeefdmlkaaDoor
open Go.RowKit

theorem RCut_any (A : Option Addr) (n c : Nat) (l : List UInt8) (k : Int) (w : World) (hr : Rd w A n l) (hk : k ≤ 65535) :
    Calls Tryd.prog 56 #[.slice A n c, .int .i64 k] w fun e w' => ∃ v, e = .returned v ∧ w'.ownsRow w.heap.size 5 1 v k.toNat (cells (cut k.toNat l)) ∧ Below w.heap.size w w' := by
  go_enter Tryd.func56, Tryd.ntmps56
  go_wp2
  go_loopw [5, 6] (fun v i wr => ∃ j : Nat, j ≤ k.toNat ∧ i = .int .i64 j ∧ wr.ownsRow w.heap.size 5 1 v j (cells (cut j l)) ∧ Below w.heap.size w wr) (fun _ i _ => k.toNat - (intOf i).toNat)
  case atStart => exact ⟨0, Nat.zero_le _, rfl, World.ownsRow_nil _ _ _ _, Below.refl _ _⟩
  case round =>
    obtain ⟨j, hj, rfl, hown1, hb1⟩ := hrel
    have hs := hb1.size
    by_cases hlt : j < k.toNat
    · have hR : Rd (wr.alloc (.cells #[.int .u8 (l.getD j 0).toNat] 5)) (some ⟨wr.heap.size, 0, none⟩) 1 [l.getD j 0] := Rd.new wr 5 [l.getD j 0] (0, 0)
      by_cases hjn : j < n
      · obtain ⟨b, o, rfl, _, hc⟩ := (hr.below (Nat.le_refl _) hb1).at_ hjn
        have e1 : l[j]'(by have := hr.1; omega) = l.getD j 0 := by simp [List.getD, List.getElem?_eq_getElem (show j < l.length by have := hr.1; omega)]
        rw [e1] at hc
        obtain ⟨z, hz⟩ : ∃ z, z = l.getD j 0 := ⟨_, rfl⟩
        rw [← hz] at hR hc
        have HZ := Lib.hid hz
        clear hz e1
        go_wp2_with (at_builtin; refine wpList_app _ bytesT rfl (.tmp 23) (.tmp 25) rfl w.heap.size _ j _ rfl (hown1.alloc _) _ 1 1 [z] rfl hR (by omega) (by simp; omega) ?_; intro v2 w2 hown2 hb2)
        go_roundw
        case rel => exact ⟨j + 1, hlt, by go_num, by rw [cut_succ, ← HZ.out, cells_append]; exact hown2, (hb1.alloc (by omega) _).trans hb2⟩
        case measure => simp [intOf]; omega
      · have e1 : l.getD j 0 = 0 := by simp [List.getD, List.getElem?_eq_none (show l.length ≤ j by have := hr.1; omega)]
        rw [e1] at hR
        have HZ := Lib.hid e1
        clear e1
        go_wp2_with (at_builtin; refine wpList_app _ bytesT rfl (.tmp 23) (.tmp 25) rfl w.heap.size _ j _ rfl (hown1.alloc _) _ 1 1 [0] rfl hR (by omega) (by simp; omega) ?_; intro v2 w2 hown2 hb2)
        go_roundw
        case rel => exact ⟨j + 1, hlt, by go_num, by rw [cut_succ, HZ.out, cells_append]; exact hown2, (hb1.alloc (by omega) _).trans hb2⟩
        case measure => simp [intOf]; omega
    · go_wp2
      go_ret
      have : j = k.toNat := by omega
      subst this
      exact ⟨_, rfl, hown1, hb1⟩

end Go.Proofs.YtnjfogeefdmlkaaDoor
namespace Go.Proofs.YtnjfogeefdmlkaaDoor
open Go.RowKit

theorem res_cc {P : Program} {T T' : TypeId} {w : World} {fn : Func} {p q : Tmp} {tmps : Array Value} {ad ad' : Addr} {x y : Value} (h : fn.results = #[.cell p T, .cell q T']) (hp : tmps.getD p undef = .pointer (some ad)) (hl : (loadVar T ad).run P w = .ok x w) (hq : tmps.getD q undef = .pointer (some ad')) (hl' : (loadVar T' ad').run P w = .ok y w) :
    (results fn tmps).run P w = .ok (.tuple #[x, y]) w := by
  rw [Array.getD_eq_getD_getElem?] at hp hq
  simp only [results, h]
  simp [Result.andThen, hp, hq, asAddr, hl, hl']

/-- What is put for a component by the parts from the q-th on. -/
theorem pick_cons (p : Pt) (ps : List Pt) (c : Int × Nat) : pick (p :: ps) c = if p.1 = c.1 then p.2 else pick ps c := by
  unfold pick
  rw [List.find?_cons]
  by_cases h : p.1 = c.1
  · simp [h]
  · simp [h]
theorem pick_nil (c : Int × Nat) : pick [] c = List.replicate c.2 0 := rfl
theorem pick_drop {ps : List Pt} {q : Nat} (hq : q < ps.length) (c : Int × Nat) : pick (ps.drop q) c = if ps[q].1 = c.1 then ps[q].2 else pick (ps.drop (q + 1)) c := by
  rw [List.drop_eq_getElem_cons hq, pick_cons]
theorem cut_none (z : Nat) : cut z [] = List.replicate z 0 := by
  rw [List.eq_replicate_iff]
  simp [cut]

/-- The blocks that they begin with. -/
structure TLaid (w w1 : World) (d : Rt) (x : Tst) : Prop where
  hb : Below w.heap.size w w1
  r0 : Rec 40 w1 w.heap.size d.cs
  st : Rec 65 w1 (w.heap.size + 1) x.cs
  r2 : Rec 40 w1 (w.heap.size + 2) #[nilv, nilv, nilv]
  r3 : Rec 62 w1 (w.heap.size + 3) #[nilv, nilv, .int .i64 0, .int .i64 0, .bool false, .int .i64 0]
theorem TLaid.next {w w1 w2 : World} {d : Rt} {x : Tst} (h : TLaid w w1 d x) (hb : Below w1.heap.size w1 w2) : TLaid w w2 d x :=
  ⟨h.hb.trans (hb.mono h.hb.size), h.r0.under hb, h.st.under hb, h.r2.under hb, h.r3.under hb⟩
theorem TLaid.fr {own : Nat → Prop} {w w1 w2 : World} {d : Rt} {x : Tst} (h : TLaid w w1 d x) (hF : Fr own w1 w2) (ho : ∀ q, own q → w.heap.size + 4 ≤ q) : TLaid w w2 d x :=
  ⟨h.hb.trans (hF.toBelow (fun q hq => by have := ho q hq; omega) h.hb.size), h.r0.fr hF (fun e => by have := ho _ e; omega), h.st.fr hF (fun e => by have := ho _ e; omega), h.r2.fr hF (fun e => by have := ho _ e; omega), h.r3.fr hF (fun e => by have := ho _ e; omega)⟩
theorem TLaid.new (w : World) (d : Rt) (x : Tst) :
    TLaid w ((((w.alloc (.cells d.cs 40)).alloc (.cells x.cs 65)).alloc (.cells #[.slice none 0 0, .slice none 0 0, .slice none 0 0] 40)).alloc (.cells #[.slice none 0 0, .slice none 0 0, .int .i64 0, .int .i64 0, .bool false, .int .i64 0] 62)) d x := by
  obtain ⟨w1, hw1⟩ : ∃ w1, w1 = w.alloc (.cells d.cs 40) := ⟨_, rfl⟩
  have b1 : Below w.heap.size w w1 := by rw [hw1]; exact (Below.refl _ _).alloc (Nat.le_refl _) _
  have s1 : w1.heap.size = w.heap.size + 1 := by rw [hw1]; simp
  have r1 : Rec 40 w1 w.heap.size d.cs := by rw [hw1]; exact Rec.new _ _ _
  obtain ⟨w2, hw2⟩ : ∃ w2, w2 = w1.alloc (.cells x.cs 65) := ⟨_, rfl⟩
  have b2 : Below w1.heap.size w1 w2 := by rw [hw2]; exact (Below.refl _ _).alloc (Nat.le_refl _) _
  have s2 : w2.heap.size = w1.heap.size + 1 := by rw [hw2]; simp
  have r2 : Rec 65 w2 w1.heap.size x.cs := by rw [hw2]; exact Rec.new _ _ _
  obtain ⟨w3, hw3⟩ : ∃ w3, w3 = w2.alloc (.cells #[.slice none 0 0, .slice none 0 0, .slice none 0 0] 40) := ⟨_, rfl⟩
  have b3 : Below w2.heap.size w2 w3 := by rw [hw3]; exact (Below.refl _ _).alloc (Nat.le_refl _) _
  have s3 : w3.heap.size = w2.heap.size + 1 := by rw [hw3]; simp
  have r3 : Rec 40 w3 w2.heap.size #[nilv, nilv, nilv] := by rw [hw3]; exact Rec.new _ _ _
  rw [← hw1, ← hw2, ← hw3]
  clear hw1 hw2 hw3
  have b4 : Below w3.heap.size w3 (w3.alloc (.cells #[.slice none 0 0, .slice none 0 0, .int .i64 0, .int .i64 0, .bool false, .int .i64 0] 62)) := (Below.refl _ _).alloc (Nat.le_refl _) _
  have r4 : Rec 62 (w3.alloc (.cells #[.slice none 0 0, .slice none 0 0, .int .i64 0, .int .i64 0, .bool false, .int .i64 0] 62)) w3.heap.size #[nilv, nilv, .int .i64 0, .int .i64 0, .bool false, .int .i64 0] := Rec.new _ _ _
  rw [s3, s2, s1] at r4
  rw [s2, s1] at r3
  rw [s1] at r2
  exact ⟨b1.trans ((b2.trans ((b3.trans (b4.mono (by omega))).mono (by omega))).mono (by omega)), ((r1.under b2).under b3).under b4, (r2.under b3).under b4, r3.under b4, r4⟩

/-- What Go and add leave. -/
def TRes (K : Nat → Prop) (w : World) (t' : Tb) (x : Tl) (e : Ending) (w' : World) : Prop :=
  ∃ (d : Rt) (DA : Option Addr) (dn dc : Nat) (PA : Option Addr) (pn pc : Nat), e = .returned (.tuple #[.agg d.cs, .agg (tlc DA dn dc PA pn pc x)]) ∧ RtS (fun y => K y ∨ (w.heap.size ≤ y ∧ y < w'.heap.size)) w' d t' ∧ TlS (fun y => K y ∨ (w.heap.size ≤ y ∧ y < w'.heap.size)) w' DA dn dc PA pn x ∧ Below w.heap.size w w'

/-- The row that add makes, in block r, its parts from B on; their data in blocks of D. -/
structure AddI (w0 w : World) (B r : Nat) (i g : Int) (pv : Value) (vs : List Value) (D : Nat → Prop) (ps : List Pt) : Prop where
  Bw : B ≤ w.heap.size
  gB : r < B
  blk : Rec 87 w r #[.int .i64 i, .int .i64 g, pv]
  ow : w.ownsRow B 73 2 pv ps.length vs
  hd : HdL 2 (EP D w) vs ps
  dx : ∀ x, D x → x < w.heap.size ∧ x ≠ r ∧ pv.ownBlock ≠ some x
section
variable {w0 w w' : World} {B r : Nat} {i g : Int} {pv : Value} {vs : List Value} {D E : Nat → Prop} {ps : List Pt}
theorem AddI.below (h : AddI w0 w B r i g pv vs D ps) (hb : Below w.heap.size w w') : AddI w0 w' B r i g pv vs D ps :=
  ⟨Nat.le_trans h.Bw hb.size, h.gB, h.blk.under hb, own_keep h.ow hb, h.hd.imp fun _ _ ⟨u, e, hu⟩ => ⟨u, e, hu.below hb⟩, fun x hx => ⟨Nat.lt_of_lt_of_le (h.dx x hx).1 hb.size, (h.dx x hx).2⟩⟩
theorem AddI.fr {w4 : World} (h : AddI w0 w B r i g pv vs D ps) (hF : Fr (fun x => x = r ∨ B ≤ x) w4 w) (hg : w.grownBy w' pv.ownBlock) : Fr (fun x => x = r ∨ B ≤ x) w4 w' := hF.trans (Fr.grown hg (fun _ hy => .inr (own_ge h.ow hy).1))
/-- One part more: what there is ahead of the store, and behind it. -/
theorem AddI.put (h : AddI w0 w B r i g pv vs D ps) {pv' u : Value} {c : Int} {l : List UInt8} (hu : VB E w u l) (hE : ∀ x, E x → x ≠ r ∧ pv.ownBlock ≠ some x)
    (ho : w'.ownsRow B 73 2 pv' (ps.length + 1) (vs ++ [.int .i64 c, u])) (hg : w.grownBy w' pv.ownBlock) (hv : pv'.ownBlock = pv.ownBlock ∨ pv'.ownBlock = some w.heap.size) :
    Rec 87 w' r #[.int .i64 i, .int .i64 g, pv] ∧ AddI w0 (w'.setCell ⟨r, 2, none⟩ pv') B r i g pv' (vs ++ [.int .i64 c, u]) (fun x => D x ∨ (E x ∧ x < w.heap.size)) (ps ++ [(c, l)]) := by
  have hF : Fr (fun y => pv.ownBlock = some y) w w' := Fr.grown hg (fun y hy => hy)
  have hr : Rec 87 w' r #[.int .i64 i, .int .i64 g, pv] := h.blk.fr hF (fun e => by have := (own_ge h.ow e).1; have := h.gB; omega)
  have hS : Fr (· = r) w' (w'.setCell ⟨r, 2, none⟩ pv') := Fr.setCell (own := (· = r)) w' (p := ⟨r, 2, none⟩) rfl _
  have hs1 := hF.size
  have hs2 := hS.size
  have hall : ∀ x, (D x ∨ (E x ∧ x < w.heap.size)) → x < w.heap.size ∧ x ≠ r ∧ pv.ownBlock ≠ some x := fun x hx => by
    rcases hx with h1 | h1
    · exact h.dx x h1
    · exact ⟨h1.2, hE x h1.1⟩
  have st : WStays (fun x => D x ∨ (E x ∧ x < w.heap.size)) w (w'.setCell ⟨r, 2, none⟩ pv') := ⟨by omega, fun x hx => by
    obtain ⟨h1, h2, h3⟩ := hall x hx
    exact (hS.block x (by omega) h2).trans (hF.block x h1 h3)⟩
  refine ⟨hr, by have := h.Bw; omega, h.gB, hr.set 2 pv', ?_, ?_, fun x hx => ?_⟩
  · have := own_fr ho hS (fun y hy e => by have := (own_ge ho hy).1; have := h.gB; have e' : y = r := e; omega)
    rw [List.length_append, List.length_singleton]
    exact this
  · exact ((h.hd.imp fun _ _ ⟨v, e, hv⟩ => ⟨v, e, (hv.mono (fun _ hx => .inl hx)).stays st⟩)).snoc rfl ⟨u, rfl, (hu.lt.mono (fun _ hx => .inr hx)).stays st⟩
  · obtain ⟨h1, h2, h3⟩ := hall x hx
    refine ⟨by omega, h2, fun e => ?_⟩
    rcases hv with hv | hv
    · exact h3 (hv ▸ e)
    · rw [hv] at e
      injection e with e
      omega
end
end Go.Proofs.YtnjfogeefdmlkaaDoor
