/- The law's own example. -/
import Derived.Test.YtlafeobiodolbaaSeal9
namespace Go.Proofs.Ytlafeobiodolbaa
open Go.RowKit

theorem sec35 : sectorOf 3 5 0 [] = sealL 3 5 0 [] := by
  unfold sectorOf
  rw [nr_self (by decide) (by decide), nr_self (by decide) (by decide), nr_self (by decide) (by decide)]
  rfl
theorem get_of_drop {l : List UInt8} {p : Nat} {x : UInt8} (h : (l.drop p)[0]? = some x) : l[p]? = some x := by
  rw [List.getElem?_drop, Nat.add_zero] at h
  exact h
theorem get_of_take {l : List UInt8} {x : UInt8} (k : Nat) (h : (l.take k)[0]? = some x) : l[0]? = some x := by
  rw [List.getElem?_take] at h
  split at h
  · exact h
  · cases h
theorem l35_0 : (sectorOf 3 5 0 [])[0]? = some 3 := get_of_take 8 (by rw [sec35, sealL_0]; decide)
theorem l35_504 : (sectorOf 3 5 0 [])[504]? = some 3 := get_of_drop (by rw [sec35, sealL_504]; decide)
theorem l35_8 : (sectorOf 3 5 0 [])[8]? = some 5 := get_of_drop (get_of_take 8 (by rw [sec35, sealL_8]; decide))
theorem l35_496 : (sectorOf 3 5 0 [])[496]? = some 5 := get_of_drop (get_of_take 8 (by rw [sec35, sealL_496']; decide))
theorem Sec.at' {w : World} {g : Nat} {l : List UInt8} (h : Sec w g l) {j : Nat} {x : UInt8} (hx : l[j]? = some x) : w.cell? ⟨g, j, none⟩ = some (.int .u8 (x.toNat : Int)) := by
  have hj := (List.getElem?_eq_some_iff.1 hx).1
  rw [h.cell j hj, (List.getElem?_eq_some_iff.1 hx).2]
theorem gN35 : gN (sectorOf 3 5 0 []) = 5 := by
  rw [gN, if_pos (okL_sector _ _ _ _), cN_sector, nr_self (by decide) (by decide)]

theorem live_any (w : World) : Calls Try.prog 8 #[] w fun e w' => e = .returned (.bool true) ∧ Below w.heap.size w w' := by
  have hN := Lib.hid gN35
  go_enter Try.func8, Try.ntmps8
  go_wp2_with fail
  refine (SPut_any 3 5 0 none 0 0 [] _ (Rd.nil _ _)).mono ?_
  rintro e w1 ⟨g, rfl, hg, hs1, hB1⟩
  have c1 := Get_any (some ⟨g, 0, none⟩) 512 512 _ w1 hs1.rd_all
  rw [gN35, decide_eq_true (okL_sector _ _ _ _)] at c1
  have C1 := Lib.hid c1
  clear c1
  go_wp2_with fail
  refine C1.out.mono ?_
  rintro e w2 ⟨A2, m2, c2, rfl, hr2, _, hB2⟩
  have hs2 := hs1.below hB2 hs1.lt
  have s1 := hB1.size
  clear C1 hr2
  go_wp2_with (first
    | (refine wpList_stseal rfl (.tmp 2) (.tmp 9) rfl rfl rfl (SealAt.new w2) ?_; intro w3 hS3 hB3 _; replace hB3 : Below w2.heap.size w2 w3 := ((Below.refl _ _).alloc (Nat.le_refl _) _).trans hB3; have hs3 := hs2.below hB3 hs2.lt; have k0 : w3.cell? ⟨g, 0, none⟩ = some (.int .u8 3) := hs3.at' l35_0; have k1 : w3.cell? ⟨g, 504, none⟩ = some (.int .u8 3) := hs3.at' l35_504; have k2 : w3.cell? ⟨g, 8, none⟩ = some (.int .u8 5) := hs3.at' l35_8; have k3 : w3.cell? ⟨g, 496, none⟩ = some (.int .u8 5) := hs3.at' l35_496; have k4 := hS3.h1))
  go_ret
  exact ⟨rfl, (hB1.trans (hB2.mono s1)).trans (hB3.mono (by have := hB2.size; omega))⟩
end Go.Proofs.Ytlafeobiodolbaa
