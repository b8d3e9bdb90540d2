/- The contracts of seal's Put, claim and Get. -/
import Derived.Test.YtlafeobiodolbaaSeal3
namespace Go.Proofs.Ytlafeobiodolbaa
open Go.RowKit

theorem SPut_any (e n k : Int) (A : Option Addr) (m c : Nat) (body : List UInt8) (w : World) (hr : Rd w A m body) :
    Calls Try.prog 9 #[.agg #[.int .i64 e, .int .i64 n, .int .i64 k, .slice A m c]] w fun ed w' => ∃ g, ed = .returned (.slice (some ⟨g, 0, none⟩) 512 512) ∧ w.heap.size ≤ g ∧ Sec w' g (sectorOf e n k body) ∧ Below w.heap.size w w' := by
  obtain ⟨w1, hw1⟩ : ∃ w1, w1 = w.alloc (.cells #[.int .i64 e, .int .i64 n, .int .i64 k, .slice A m c] 24) := ⟨_, rfl⟩
  have hB1 : Below w.heap.size w w1 := by rw [hw1]; exact (Below.refl _ _).alloc (Nat.le_refl _) _
  have hS1 : SealAt w1 w.heap.size e n k A m c := by rw [hw1]; exact SealAt.new w
  have hr1 : Rd w1 A m body := hr.below (Nat.le_refl _) hB1
  have hz := zsec
  go_enter Try.func9, Try.ntmps9
  go_wp2_with (first
    | (rw [← hw1]; clear hw1; refine wpList_ldseal rfl (.tmp 1) rfl rfl hS1 ?_)
    | (go_at_call 21; refine (sealed_any e n k A m c body _ hr1).mono ?_; rintro ed w2 ⟨rfl, hB2⟩)
    | (refine wpList_stsec rfl (.tmp 3) (.tmp 5) rfl w2.heap.size _ _ rfl rfl (Sec.new w2 _ (zeros_length _)) (sectorOf_length _ _ _ _) ?_; intro w3 hS3 hB3))
  go_ret
  have s1 := hB1.size
  have s2 := hB2.size
  exact ⟨_, rfl, by omega, hS3, (hB1.trans (hB2.mono s1)).trans ((((Below.refl _ _).alloc (by omega) _).trans (hB3.mono (by omega))))⟩

theorem Get_at (g : Nat) (l : List UInt8) (x : Nat) (width : Int) (k : Nat) (hk : wd width = k) (w : World) (h : Sec w g l) (hx : x + k ≤ 512) :
    Calls Try.prog 35 #[.pointer (some ⟨g, 0, none⟩), .int .i64 x, .int .i64 width] w fun e w' => e = .returned (.int .i64 (getV ((l.drop x).take k))) ∧ w = w' := by
  subst hk
  exact num_any g l x width w h hx

theorem SealAt.set4 {w : World} {g : Nat} {e n k e' n' k' : Int} {A A' : Option Addr} {m c m' c' : Nat} (h : SealAt w g e n k A m c) :
    SealAt ((((w.setCell ⟨g, 0, none⟩ (.int .i64 e')).setCell ⟨g, 1, none⟩ (.int .i64 n')).setCell ⟨g, 2, none⟩ (.int .i64 k')).setCell ⟨g, 3, none⟩ (.slice A' m' c')) g e' n' k' A' m' c' ∧
    Below g w ((((w.setCell ⟨g, 0, none⟩ (.int .i64 e')).setCell ⟨g, 1, none⟩ (.int .i64 n')).setCell ⟨g, 2, none⟩ (.int .i64 k')).setCell ⟨g, 3, none⟩ (.slice A' m' c')) :=
  ⟨heap_setCell_at (heap_setCell_at (heap_setCell_at (heap_setCell_at h _) _) _) _,
    ((((Below.refl g w).setCell (Nat.le_refl g) _).setCell (Nat.le_refl g) _).setCell (Nat.le_refl g) _).setCell (Nat.le_refl g) _⟩

theorem set4_else {w : World} {g : Nat} {e' n' k' : Int} {A' : Option Addr} {m' c' k : Nat} (h : k ≠ g) :
    ((((w.setCell ⟨g, 0, none⟩ (.int .i64 e')).setCell ⟨g, 1, none⟩ (.int .i64 n')).setCell ⟨g, 2, none⟩ (.int .i64 k')).setCell ⟨g, 3, none⟩ (.slice A' m' c')).heap[k]? = w.heap[k]? := by
  rw [Below.heap_setCell _ _ _ _ h, Below.heap_setCell _ _ _ _ h, Below.heap_setCell _ _ _ _ h, Below.heap_setCell _ _ _ _ h]

theorem if_min (x : Int) : (if 472 < x then (472 : Int) else x) = min x 472 := by split <;> omega
section
variable (g : Nat) (l : List UInt8) (w : World) (h : Sec w g l)
include h
theorem numE : Calls Try.prog 35 #[.pointer (some ⟨g, 0, none⟩), .int .i64 0, .int .i64 8] w fun e w' => e = .returned (.int .i64 (cE l)) ∧ w = w' := Get_at g l 0 8 8 (by decide) w h (by omega)
theorem numN : Calls Try.prog 35 #[.pointer (some ⟨g, 0, none⟩), .int .i64 8, .int .i64 8] w fun e w' => e = .returned (.int .i64 (cN l)) ∧ w = w' := Get_at g l 8 8 8 (by decide) w h (by omega)
theorem numK : Calls Try.prog 35 #[.pointer (some ⟨g, 0, none⟩), .int .i64 20, .int .i64 1] w fun e w' => e = .returned (.int .i64 (cK l)) ∧ w = w' := Get_at g l 20 1 1 (by decide) w h (by omega)
theorem numL : Calls Try.prog 35 #[.pointer (some ⟨g, 0, none⟩), .int .i64 22, .int .i64 2] w fun e w' => e = .returned (.int .i64 (cL l)) ∧ w = w' := Get_at g l 22 2 2 (by decide) w h (by omega)
end

theorem claim_any (g : Nat) (l : List UInt8) (w : World) (h : Sec w g l) :
    Calls Try.prog 26 #[.pointer (some ⟨g, 0, none⟩)] w fun ed w' => ∃ A c, ed = .returned (.agg #[.int .i64 (cE l), .int .i64 (cN l), .int .i64 (cK l), .slice A (min (cL l) 472).toNat c]) ∧ Rd w' A (min (cL l) 472).toNat (cB l) ∧ (min (cL l) 472).toNat ≤ c ∧ Below w.heap.size w w' ∧ ∀ b o, A = some ⟨b, o, none⟩ → w.heap.size < b := by
  obtain ⟨w1, hw1⟩ : ∃ w1, w1 = w.alloc (.cells #[.int .i64 0, .int .i64 0, .int .i64 0, .slice none 0 0] 24) := ⟨_, rfl⟩
  have hB1 : Below w.heap.size w w1 := by rw [hw1]; exact (Below.refl _ _).alloc (Nat.le_refl _) _
  have hS1 : SealAt w1 w.heap.size 0 0 0 none 0 0 := by rw [hw1]; exact SealAt.new w
  have hs1 : Sec w1 g l := by rw [hw1]; exact h.alloc _
  go_enter Try.func26, Try.ntmps26
  go_wp2
  rw [← hw1]
  clear hw1
  have q := hs1.drew.rd (p := 24) (m := 488) (by omega)
  rw [List.take_of_length_le (by simp [h.1])] at q
  go_region_held3 (fun _ => True) (trivial) (first
    | (go_at_call_of 35 (Value.int .i64 0); refine (numE g l _ hs1.drew).mono ?_; rintro ed w' ⟨rfl, rfl⟩)
    | (go_at_call_of 35 (Value.int .i64 20); refine (numK g l _ hs1.drew).mono ?_; rintro ed w' ⟨rfl, rfl⟩)
    | (go_at_call_of 35 (Value.int .i64 22); refine (numL g l _ hs1.drew).mono ?_; rintro ed w' ⟨rfl, rfl⟩)
    | (go_at_call 35; refine (numN g l _ hs1.drew).mono ?_; rintro ed w' ⟨rfl, rfl⟩)
    | (go_at_call 29; rw [if_min]; refine (Cut_any _ 488 488 (l.drop 24) (min (cL l) 472) _ q (by omega)).mono ?_; rintro ed w2 ⟨v, rfl, hown, hB2⟩; obtain ⟨A2, c2, rfl, hc2, _, hr2⟩ := Rd.of_own hown rfl; have hS2 := hS1.drew.below hB2 hS1.lt; have k0 := hS2.h0; have k1 := hS2.h1; have k2 := hS2.h2; have k3 := hS2.h3; have f0 := hS2.fz 0; have f1 := hS2.fz 1; have f2 := hS2.fz 2; have f3 := hS2.fz 3))
  obtain ⟨hS3, hB3⟩ := hS2.set4 (e' := cE l) (n' := cN l) (k' := cK l) (A' := A2) (m' := (min (cL l) 472).toNat) (c' := c2)
  obtain ⟨w3, hw3⟩ : ∃ w3, w3 = (((w2.setCell ⟨w.heap.size, 0, none⟩ (.int .i64 (cE l))).setCell ⟨w.heap.size, 1, none⟩ (.int .i64 (cN l))).setCell ⟨w.heap.size, 2, none⟩ (.int .i64 (cK l))).setCell ⟨w.heap.size, 3, none⟩ (.slice A2 (min (cL l) 472).toNat c2) := ⟨_, rfl⟩
  have hE3 : ∀ k, k ≠ w.heap.size → w3.heap[k]? = w2.heap[k]? := fun k hk => by rw [hw3]; exact set4_else hk
  rw [← hw3] at hS3 hB3 ⊢
  clear hw3 k0 k1 k2 k3 f0 f1 f2 f3
  have s1 := hS1.lt
  have hr3 : Rd w3 A2 (min (cL l) 472).toNat (cB l) := hr2.block hB3.size fun b o e => hE3 b (by have hb := own_block hown e; rw [show w1.drew.heap.size = w1.heap.size from rfl] at hb; omega)
  have hBall : Below w.heap.size w w3 := (hB1.trans (((Below.refl _ _).drew).trans (hB2.mono (Nat.le_of_lt s1)))).trans hB3
  go_wp2_with (refine bodyPost_ret (res_seal rfl rfl hS3) rfl ?_; exact ⟨A2, c2, rfl, hr3, hc2, hBall, fun b o e => by have hb := own_block hown e; rw [show w1.drew.heap.size = w1.heap.size from rfl] at hb; omega⟩)
end Go.Proofs.Ytlafeobiodolbaa
