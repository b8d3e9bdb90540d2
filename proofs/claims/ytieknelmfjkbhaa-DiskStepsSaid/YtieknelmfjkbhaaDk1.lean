/- The device as it lies in memory; the contracts of its small functions. -/
import Derived.Test.YtieknelmfjkbhaaBase
import Derived.Test.YtieknelmfjkbhaaDMem
import Derived.Test.YtieknelmfjkbhaaLe4
namespace Go.Proofs.Ytieknelmfjkbhaa
open Go.RowKit Go.Maps

/-- What a device is: how many sectors, what is safe, what waits, the fuse, whether the power is off, what was done. -/
structure St where
  k : Nat
  safe : List UInt8
  wait : Nat → List (List UInt8)
  fuse : Int
  off : Bool
  rd : Int
  wr : Int

def St.ok (s : St) : Bool := !(s.off || s.fuse == 0)
def St.burn (s : St) : St := { s with off := s.off || s.fuse == 0, fuse := if s.off then s.fuse else if 0 < s.fuse then s.fuse - 1 else s.fuse }
def St.sec (s : St) (i : Nat) : List UInt8 := (s.safe.drop (512 * i)).take 512
def St.last (s : St) (i : Nat) : List UInt8 := (s.wait i).getLastD (s.sec i)

/-- v is a row of the writes ls, each of them in a block of its own. -/
def Wr (w : World) (own : Nat → Prop) (sb : Option Nat) (v : Value) (ls : List (List UInt8)) : Prop :=
  ∃ vs, w.ownsRow 0 32 1 v ls.length vs ∧ (∀ x, v.ownBlock = some x → own x) ∧
    ∀ j (h : j < ls.length), ∃ g, vs[j]? = some (.slice (some ⟨g, 0, none⟩) 512 512) ∧ own g ∧ some g ≠ sb ∧ w.heap[g]? = some (.cells (cells ls[j]).toArray 5 (0, 0)) ∧ ls[j].length = 512

/-- A device at block p, its map at m, its safe bytes in sv. -/
structure DAt (w : World) (own : Nat → Prop) (N p m : Nat) (sv : Value) (f : Nat → Value) (s : St) : Prop where
  blk : w.heap[p]? = some (.cells #[sv, .map (some m), .int .i64 s.fuse, .bool s.off, .int .i64 s.rd, .int .i64 s.wr] 74 (0, 0))
  safe : w.ownsRow 0 5 1 sv (512 * s.k) (cells s.safe)
  map : MapIs Try.prog 3 w m N f (fun i => !(s.wait i).isEmpty)
  rows : ∀ i, Wr w own sv.ownBlock (f i) (s.wait i)
  apart : ∀ i j x, i ≠ j → (f i).ownBlock = some x → (f j).ownBlock ≠ some x
  inside : ∀ i, s.wait i ≠ [] → i < s.k
  few : ∀ i, (s.wait i).length ≤ N
  ownp : own p
  ownm : own m
  owns : ∀ x, sv.ownBlock = some x → own x
  kle : s.k ≤ 4096
  nle : N ≤ 1000000
  fz : -9223372036854775808 ≤ s.fuse ∧ s.fuse ≤ 9223372036854775807
  rz : 0 ≤ s.rd ∧ s.rd ≤ N
  wz : 0 ≤ s.wr ∧ s.wr ≤ N

section
variable {w w' : World} {own own' : Nat → Prop} {N p m : Nat} {sv : Value} {f : Nat → Value} {s : St}

theorem DAt.lt (h : DAt w own N p m sv f s) : p < w.heap.size := (Array.getElem?_eq_some_iff.1 h.blk).1
theorem DAt.cell (h : DAt w own N p m sv f s) (i : Nat) : w.cell? ⟨p, i, none⟩ = (#[sv, .map (some m), .int .i64 s.fuse, .bool s.off, .int .i64 s.rd, .int .i64 s.wr] : Array Value)[i]? := cell_of_row _ _ _ _ _ _ h.blk
theorem DAt.c0 (h : DAt w own N p m sv f s) : w.cell? ⟨p, 0, none⟩ = some sv := h.cell 0
theorem DAt.c1 (h : DAt w own N p m sv f s) : w.cell? ⟨p, 1, none⟩ = some (.map (some m)) := h.cell 1
theorem DAt.c2 (h : DAt w own N p m sv f s) : w.cell? ⟨p, 2, none⟩ = some (.int .i64 s.fuse) := h.cell 2
theorem DAt.c3 (h : DAt w own N p m sv f s) : w.cell? ⟨p, 3, none⟩ = some (.bool s.off) := h.cell 3
theorem DAt.c4 (h : DAt w own N p m sv f s) : w.cell? ⟨p, 4, none⟩ = some (.int .i64 s.rd) := h.cell 4
theorem DAt.c5 (h : DAt w own N p m sv f s) : w.cell? ⟨p, 5, none⟩ = some (.int .i64 s.wr) := h.cell 5
theorem DAt.fr0 (h : DAt w own N p m sv f s) (i : Nat) : w.frozen? ⟨p, i, none⟩ = false := by simp [World.frozen?, h.blk]

theorem Wr.mono {sb : Option Nat} {v : Value} {ls : List (List UInt8)} (h : Wr w own sb v ls) (ho : ∀ x, own x → own' x) : Wr w own' sb v ls := by
  obtain ⟨vs, h1, h2, h3⟩ := h
  exact ⟨vs, h1, fun x hx => ho x (h2 x hx), fun j hj => by obtain ⟨g, a, b, c⟩ := h3 j hj; exact ⟨g, a, ho g b, c⟩⟩
/-- Rows of writes stay where nothing but the safe block, a map's, a device's has turned. -/
theorem Wr.kept {sb : Option Nat} {v : Value} {ls : List (List UInt8)} {q : Nat → Prop} (h : Wr w own sb v ls) (hf : Fr q w w') (hr : ∀ x, v.ownBlock = some x → ¬ q x) (hg : ∀ x, own x → some x ≠ sb → (∃ C, w.heap[x]? = some (.cells C 5 (0, 0))) → ¬ q x) : Wr w' own sb v ls := by
  obtain ⟨vs, h1, h2, h3⟩ := h
  refine ⟨vs, own_fr h1 hf hr, h2, fun j hj => ?_⟩
  obtain ⟨g, a, b, c, d, e⟩ := h3 j hj
  exact ⟨g, a, b, c, (hf.block g (Array.getElem?_eq_some_iff.1 d).1 (hg g b c ⟨_, d⟩)).trans d, e⟩
theorem Wr.tag {sb : Option Nat} {v : Value} {ls : List (List UInt8)} (h : Wr w own sb v ls) {x : Nat} (hx : v.ownBlock = some x) : ∃ C, w.heap[x]? = some (.cells C 32 (0, 0)) := by
  obtain ⟨vs, h1, _⟩ := h
  rcases h1.2 with ⟨rfl, _⟩ | ⟨g, cap, cur, rfl, _, hh, _⟩
  · cases hx
  · simp [Value.ownBlock] at hx
    subst hx
    exact ⟨_, hh⟩
theorem own_tag {B e n : Nat} {v : Value} {xs : List Value} (h : w.ownsRow B e 1 v n xs) {x : Nat} (hx : v.ownBlock = some x) : ∃ C, w.heap[x]? = some (.cells C e (0, 0)) := by
  rcases h.2 with ⟨rfl, _⟩ | ⟨g, cap, cur, rfl, _, hh, _⟩
  · cases hx
  · simp [Value.ownBlock] at hx
    subst hx
    exact ⟨_, hh⟩
/-- Wr as the walk wants it. -/
theorem Wr.shape {sb : Option Nat} {v : Value} {ls : List (List UInt8)} (h : Wr w own sb v ls) : ∃ A c, v = .slice A ls.length c ∧ ls.length ≤ c ∧ c ≤ maxLen ∧
    ∀ j (hj : j < ls.length), ∃ r g, A = some ⟨r, 0, none⟩ ∧ w.cell? ⟨r, j, none⟩ = some (.slice (some ⟨g, 0, none⟩) 512 512) ∧ Rd w (some ⟨g, 0, none⟩) 512 ls[j] ∧ own g ∧ some g ≠ sb := by
  obtain ⟨vs, h1, h2, h3⟩ := h
  rcases h1.2 with ⟨hv, h0⟩ | ⟨r, cap, cur, rfl, _, hh, hn, hc, _, _⟩
  · exact ⟨none, 0, by rw [hv, h0], by omega, by unfold maxLen; omega, fun j hj => by omega⟩
  · refine ⟨_, cap, rfl, hn, hc, fun j hj => ?_⟩
    obtain ⟨g, a, b, c, d, e⟩ := h3 j hj
    refine ⟨r, g, rfl, ?_, ⟨e, fun _ => ⟨g, 0, rfl, (Array.getElem?_eq_some_iff.1 d).1, fun i hi => ?_⟩⟩, b, c⟩
    · have := h1.cells (g := r) rfl j _ a
      rw [Addr.add_lit] at this
      simpa using this
    · rw [cell_of_row _ _ _ _ _ _ d, Nat.zero_add]
      simpa using cells_get hi

/-- The device stays where none of its blocks has turned. -/
theorem DAt.kept (h : DAt w own N p m sv f s) (hf : Fr own' w w') (hd : ∀ x, own x → ¬ own' x) : DAt w' own N p m sv f s where
  blk := (hf.block p h.lt (hd p h.ownp)).trans h.blk
  safe := own_fr h.safe hf (fun x hx => hd x (h.owns x hx))
  map := h.map.fr hf (hd m h.ownm)
  rows := fun i => (h.rows i).kept hf (fun x hx => by obtain ⟨_, _, h2, _⟩ := h.rows i; exact hd x (h2 x hx)) (fun x hx _ _ => hd x hx)
  apart := h.apart
  inside := h.inside
  few := h.few
  ownp := h.ownp
  ownm := h.ownm
  owns := h.owns
  kle := h.kle
  nle := h.nle
  fz := h.fz
  rz := h.rz
  wz := h.wz
theorem DAt.below (h : DAt w own N p m sv f s) (hb : Below w.heap.size w w') : DAt w' own N p m sv f s := h.kept (own' := fun _ => False) ⟨hb.os, hb.tape, hb.output, hb.size, fun b hb' _ => hb.block b hb'⟩ (fun _ _ hx => hx)
theorem DAt.mono (h : DAt w own N p m sv f s) {N' : Nat} (hN : N ≤ N') (hN' : N' ≤ 1000000) : DAt w own N' p m sv f s := { h with
  map := h.map.mono hN
  few := fun i => Nat.le_trans (h.few i) hN
  nle := hN'
  rz := by have := h.rz; omega
  wz := by have := h.wz; omega }
theorem DAt.drew (h : DAt w own N p m sv f s) : DAt w.drew own N p m sv f s := h.below ((Below.refl _ _).drew)
theorem DAt.p_ne (h : DAt w own N p m sv f s) (i : Nat) : some p ≠ (f i).ownBlock := fun e => by
  obtain ⟨C, hC⟩ := (h.rows i).tag e.symm
  rw [h.blk] at hC
  cases hC
theorem DAt.m_ne (h : DAt w own N p m sv f s) (i : Nat) : some m ≠ (f i).ownBlock := fun e => by
  obtain ⟨C, hC⟩ := (h.rows i).tag e.symm
  obtain ⟨D, ⟨es, clock, hm, _⟩, _⟩ := h.map
  rw [hm] at hC
  cases hC
/-- One of the device's numbers was written. -/
theorem DAt.field (h : DAt w own N p m sv f s) {N' : Nat} (fuse rd wr : Int) (off : Bool) (hp : w'.heap[p]? = some (.cells #[sv, .map (some m), .int .i64 fuse, .bool off, .int .i64 rd, .int .i64 wr] 74 (0, 0)))
    (hf : Fr (· = p) w w') (hN : N ≤ N') (hN' : N' ≤ 1000000) (hfz : -9223372036854775808 ≤ fuse ∧ fuse ≤ 9223372036854775807) (hrz : 0 ≤ rd ∧ rd ≤ N') (hwz : 0 ≤ wr ∧ wr ≤ N') :
    DAt w' own N' p m sv f { s with fuse := fuse, off := off, rd := rd, wr := wr } where
  blk := hp
  safe := own_fr h.safe hf (fun x hx e => by
    obtain ⟨C, hC⟩ := own_tag h.safe hx
    subst e
    rw [h.blk] at hC
    cases hC)
  map := (h.map.fr hf (fun e => by
    obtain ⟨D, ⟨es, clock, hm, _⟩, _⟩ := h.map
    rw [e, h.blk] at hm
    cases hm)).mono hN
  rows := fun i => (h.rows i).kept hf (fun x hx e => by
    obtain ⟨C, hC⟩ := (h.rows i).tag hx
    subst e
    rw [h.blk] at hC
    cases hC) (fun x _ _ ⟨C, hC⟩ e => by
    subst e
    rw [h.blk] at hC
    cases hC)
  apart := h.apart
  inside := h.inside
  few := fun i => Nat.le_trans (h.few i) hN
  ownp := h.ownp
  ownm := h.ownm
  owns := h.owns
  kle := h.kle
  nle := hN'
  fz := hfz
  rz := hrz
  wz := hwz
theorem fr_p (w : World) (p i : Nat) (u : Value) : Fr (· = p) w (w.setCell ⟨p, i, none⟩ u) := Fr.setCell (own := (· = p)) w (p := ⟨p, i, none⟩) rfl u

end

theorem dnearest_any (n lo hi : Int) (w : World) : Calls Try.prog 31 #[.int .i64 n, .int .i64 lo, .int .i64 hi] w fun e w' => e = .returned (.int .i64 (min (max n lo) hi)) ∧ w = w' := by
  go_enter Try.func31, Try.ntmps31
  go_wp2
  all_goals go_ret
  all_goals exact ⟨ret_int (by omega), rfl⟩

section
variable {w : World} {own : Nat → Prop} {N p m : Nat} {sv : Value} {f : Nat → Value} {s : St}

theorem powered_any (h : DAt w own N p m sv f s) :
    Calls Try.prog 40 #[.pointer (some ⟨p, 0, none⟩)] w fun e w' => e = .returned (.bool s.ok) ∧ Fr (· = p) w w' ∧ DAt w' own N p m sv f s.burn := by
  have c2 := h.c2
  have c3 := h.c3
  have f2 := h.fr0 2
  have f3 := h.fr0 3
  have hb := h.blk
  have hfz := h.fz
  have H := Lib.hid h
  clear h
  obtain ⟨k, safe, wait, fuse, off, rd, wr⟩ := s
  simp only [St.ok, St.burn] at *
  have HB := Lib.hid hb
  clear hb
  cases off
  · by_cases h0 : fuse = 0
    · subst h0
      go_enter Try.func40, Try.ntmps40
      go_wp2
      go_ret
      exact ⟨rfl, fr_p _ _ _ _, H.out.field 0 rd wr true (heap_setCell_at HB.out _) (fr_p _ _ _ _) (Nat.le_refl _) H.out.nle (by decide) H.out.rz H.out.wz⟩
    · by_cases hpos : 0 < fuse
      · go_enter Try.func40, Try.ntmps40
        go_wp2
        go_ret
        refine ⟨by simp, (fr_p _ _ _ _).trans (fr_p _ _ _ _), ?_⟩
        have := H.out.field (w' := (w.setCell ⟨p, 3, none⟩ (.bool false)).setCell ⟨p, 2, none⟩ (.int .i64 (fuse - 1))) (fuse - 1) rd wr false (heap_setCell_at (heap_setCell_at HB.out _) _) ((fr_p _ _ _ _).trans (fr_p _ _ _ _)) (Nat.le_refl _) H.out.nle (by omega) H.out.rz H.out.wz
        simpa [h0, hpos] using this
      · go_enter Try.func40, Try.ntmps40
        go_wp2
        go_ret
        refine ⟨by simp, fr_p _ _ _ _, ?_⟩
        have := H.out.field (w' := w.setCell ⟨p, 3, none⟩ (.bool false)) fuse rd wr false (heap_setCell_at HB.out _) (fr_p _ _ _ _) (Nat.le_refl _) H.out.nle H.out.fz H.out.rz H.out.wz
        simpa [h0, hpos] using this
  · go_enter Try.func40, Try.ntmps40
    go_wp2
    go_ret
    refine ⟨by simp, fr_p _ _ _ _, ?_⟩
    have := H.out.field (w' := w.setCell ⟨p, 3, none⟩ (.bool true)) fuse rd wr true (heap_setCell_at HB.out _) (fr_p _ _ _ _) (Nat.le_refl _) H.out.nle H.out.fz H.out.rz H.out.wz
    simpa using this
end
end Go.Proofs.Ytieknelmfjkbhaa
