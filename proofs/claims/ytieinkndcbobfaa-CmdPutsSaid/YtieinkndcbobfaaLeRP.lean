/- What a Reader's numbers are: plain. -/
import Derived.Test.YtieinkndcbobfaaLeR
namespace Go.Proofs.Ytieinkndcbobfaa
open Go.RowKit

theorem rdNum_off {k : Nat} {st : RS} (h : st.2 = true) : rdNum k st = (0, st) := by unfold rdNum; rw [if_pos h]
theorem rdNum_short {k : Nat} {l : List UInt8} (h : l.length < k) : rdNum k (l, false) = (0, (l, true)) := by simp [rdNum, h]
theorem rdNum_yes {k : Nat} {l : List UInt8} (h : k ≤ l.length) : rdNum k (l, false) = (getV (l.take k), (l.drop k, false)) := by
  have : ¬ l.length < k := by omega
  simp [rdNum, this]
theorem rdNum_miss {k : Nat} {st : RS} (h : st.2 = true) : (rdNum k st).2.2 = true := by rw [rdNum_off h]; exact h
end Go.Proofs.Ytieinkndcbobfaa
