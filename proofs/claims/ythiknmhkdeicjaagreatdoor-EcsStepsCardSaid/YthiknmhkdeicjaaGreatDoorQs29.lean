/- BitsLd, EcY -/
import Derived.Test.YthiknmhkdeicjaaGreatDoorQs1
import Derived.Test.YthiknmhkdeicjaaGreatDoorQs7
import Derived.Test.YthiknmhkdeicjaaGreatDoorQs28
import Derived.Test.YthiknmhkdeicjaaGreatDoorRows
import Derived.ChangeSame
import Derived.LaidMore
import Derived.Lib.LaidTab
namespace Go.Proofs.YthiknmhkdeicjaaGreatDoor
open Go.RowKit
theorem tab_of_laid {W : World} (h : laidMetH Tryz.prog [("math/bits.deBruijn64tab", Rows.laid_math_bits_deBruijn64tab)] W) : TabAt W := by
 rw [MakeChecks.laidMetH_plain _ _ _ (by kernel_rfl)] at h
 have hg : Tryz.prog.globalNamed "math/bits.deBruijn64tab" = some 0 := by kernel_rfl
 have ht : Lib.TabIs Tryz.prog W "math/bits.deBruijn64tab" .u8 (Lib.deBruijn64tab.map Int.ofNat) :=
  Lib.tabIs_of_head (n := 64) (rest := []) hg (by kernel_rfl) Tryz.underlying254 Tryz.underlying5 (by kernel_rfl) (by kernel_rfl) h
 intro j hj
 have hl : j < Lib.deBruijn64tab.length := hj
 rw [ht.cell hg j (by rw [List.length_map]; exact hl)]
 have e : (Lib.deBruijn64tab.map Int.ofNat).getD j 0 = ((Lib.deBruijn64tab.getD j 0 : Nat) : Int) := by
  simp [List.getD, hl]
 rw [e]
theorem u64_of {a : Int} (h : (Lit.int .u64 a).wf = true) : ∃ b : Nat, a = (b : Int) /\ b < 18446744073709551616 := by
 have hb := bounds_u64 h
 exact ⟨a.toNat, by omega, by omega⟩
end Go.Proofs.YthiknmhkdeicjaaGreatDoor

