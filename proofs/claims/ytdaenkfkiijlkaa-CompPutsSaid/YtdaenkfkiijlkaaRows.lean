/-
  No cell of these rows narrows 'for every input' (looked for: loops, veiled, ifaces, maps, wideKeys, modest, calm, conditions, laid).
  DERIVED. THE GIVEN ROWS OF THIS SEAT. 3 by the template 'for every input the law returns true; each argument reads behind the call as it read before'; 0 by the template 'total and deterministic' (their statements: YtdaenkfkiijlkaaTotals.lean).
  GIVEN WITH THE SEED: the statements are not yours to turn. If you find one false, say at which input.
  Laid BY PROGRAM, IN A SANDBOX (cutbox-rows.mjs): the forced cells as the released guide's own fill.sh prints them over the translation 3c66fee66ebd8c62… (all of the seat's roots in one cut). By AI agents, Wed Nov 11 2026. No macro, syntax, notation, axiom, sorry.
-/
import Derived.Test.YtdaenkfkiijlkaaChecked
import GoSem.Claim
import GoSem.ClaimJoined
import GoSem.ClaimMapViews
import Derived.JoinedTies
import Derived.KernelRfl
namespace Go.Proofs.Ytdaenkfkiijlkaa
/- THE CELL 'sum', in the pinned program and in every row, IS THE sha256 OF THE DUMP (.gsa) THAT YtdaenkfkiijlkaaProg.lean LOADS. Nothing in Lean hashes anything: it is a label: what it is worth is what the hold of that sum in a sandbox is worth. -/
noncomputable def Try.pinned : Pinned := { name := "ytdaenkfkiijlkaa", sum := "3c66fee66ebd8c62c12ca665306c76236230968ee69f8272d936bb3181edc502", checked := Try.checked }
namespace Rows
def none {H : Type} : Left H := { results := [], args := [] }

/-- 'vivariumlaw07.CompChecks': WHATEVER THE INPUT: true; the input reads as it did. -/
def compChecksSpec : ChangeSpec := { name := "compChecks", fn := fun _ => fun
  | [d1, d2, d3] => { results := [.lit (.bool true)], args := [d1, d2, d3] }
  | _ => none }
def compChecksRow : OpenClaim := { program := "ytdaenkfkiijlkaa", sum := "3c66fee66ebd8c62c12ca665306c76236230968ee69f8272d936bb3181edc502", func := "vivarium/vivariumlaw07.CompChecks", spec := "compChecks", apart := false }
def CompChecksSaid : Prop := compChecksRow.holds Try.pinned (OpenSpec.ofChange compChecksSpec)

/-- ITS FALSE NEIGHBOUR: 'it returns false'. Refute it at one input. -/
def compChecksWrong : ChangeSpec := { name := "compChecks", fn := fun _ => fun
  | [d1, d2, d3] => { results := [.lit (.bool false)], args := [d1, d2, d3] }
  | _ => none }
def CompChecksWrongFalsely : Prop := compChecksRow.holds Try.pinned (OpenSpec.ofChange compChecksWrong)

/-- 'vivariumlaw07.CompPuts': WHATEVER THE INPUT: true; the input reads as it did. -/
def compPutsSpec : ChangeSpec := { name := "compPuts", fn := fun _ => fun
  | [d] => { results := [.lit (.bool true)], args := [d] }
  | _ => none }
def compPutsRow : OpenClaim := { program := "ytdaenkfkiijlkaa", sum := "3c66fee66ebd8c62c12ca665306c76236230968ee69f8272d936bb3181edc502", func := "vivarium/vivariumlaw07.CompPuts", spec := "compPuts", apart := false }
def CompPutsSaid : Prop := compPutsRow.holds Try.pinned (OpenSpec.ofChange compPutsSpec)

/-- ITS FALSE NEIGHBOUR: 'it returns false'. Refute it at one input. -/
def compPutsWrong : ChangeSpec := { name := "compPuts", fn := fun _ => fun
  | [d] => { results := [.lit (.bool false)], args := [d] }
  | _ => none }
def CompPutsWrongFalsely : Prop := compPutsRow.holds Try.pinned (OpenSpec.ofChange compPutsWrong)

/-- 'vivariumlaw07.CompGets': WHATEVER THE INPUT: true; the input reads as it did. -/
def compGetsSpec : ChangeSpec := { name := "compGets", fn := fun _ => fun
  | [d] => { results := [.lit (.bool true)], args := [d] }
  | _ => none }
def compGetsRow : OpenClaim := { program := "ytdaenkfkiijlkaa", sum := "3c66fee66ebd8c62c12ca665306c76236230968ee69f8272d936bb3181edc502", func := "vivarium/vivariumlaw07.CompGets", spec := "compGets", apart := false }
def CompGetsSaid : Prop := compGetsRow.holds Try.pinned (OpenSpec.ofChange compGetsSpec)

/-- ITS FALSE NEIGHBOUR: 'it returns false'. Refute it at one input. -/
def compGetsWrong : ChangeSpec := { name := "compGets", fn := fun _ => fun
  | [d] => { results := [.lit (.bool false)], args := [d] }
  | _ => none }
def CompGetsWrongFalsely : Prop := compGetsRow.holds Try.pinned (OpenSpec.ofChange compGetsWrong)

/- THE SECOND FORM. 'bulk': how many values and letters a reading holds, each counted each time it is reached (what is shared counts as often as it is met; a slice's spare places count too). A statement '..UptoSaid' is the law's where the arguments, and the package variables that the reading takes, are together of bulk at most 1048576: NARROWER than '..Said'. Prove '..Said' where nothing that the law and all that it calls make is longer than what came in: it says more and counts as full. Else prove '..UptoSaid'. A law counts once. -/
mutual
def uptoBulk {H : Type} : DataW H → Nat
  | .lit (.string bytes) => bytes.length + 1
  | .lit _ => 1
  | .nil => 1
  | .ptr d => uptoBulk d + 1
  | .slice elems spare => uptoBulkAll elems + uptoBulkAll spare + 1
  | .agg parts => uptoBulkAll parts + 1
  | .iface _ d => uptoBulk d + 1
  | .map entries => uptoBulkEntries entries + 1
  | .held _ => 1
def uptoBulkAll {H : Type} : List (DataW H) → Nat
  | [] => 0
  | d :: r => uptoBulk d + uptoBulkAll r
def uptoBulkEntries {H : Type} : List (Lit × DataW H) → Nat
  | [] => 0
  | x :: r => uptoBulkEntry x + uptoBulkEntries r
def uptoBulkEntry {H : Type} : Lit × DataW H → Nat
  | (.string bytes, d) => bytes.length + uptoBulk d + 1
  | (_, d) => uptoBulk d + 1
 end
def uptoSmall : (H : Type) → List (DataW H) → Bool := fun _ ds => decide (uptoBulkAll ds ≤ 1048576)
def OpenSpec.upto (s : _root_.Go.ChangeSpec) : _root_.Go.OpenSpec := { _root_.Go.OpenSpec.ofChange s with cond := some uptoSmall }

/-- 'vivariumlaw07.CompChecks', WHERE WHAT IT READS IS OF BULK AT MOST 1048576: true; the input reads as it did. -/
def compChecksUptoRow : OpenClaim := { program := "ytdaenkfkiijlkaa", sum := "3c66fee66ebd8c62c12ca665306c76236230968ee69f8272d936bb3181edc502", func := "vivarium/vivariumlaw07.CompChecks", spec := "compChecks", apart := false, narrowed := true }
def CompChecksUptoSaid : Prop := compChecksUptoRow.holds Try.pinned (OpenSpec.upto compChecksSpec)

/-- 'vivariumlaw07.CompPuts', WHERE WHAT IT READS IS OF BULK AT MOST 1048576: true; the input reads as it did. -/
def compPutsUptoRow : OpenClaim := { program := "ytdaenkfkiijlkaa", sum := "3c66fee66ebd8c62c12ca665306c76236230968ee69f8272d936bb3181edc502", func := "vivarium/vivariumlaw07.CompPuts", spec := "compPuts", apart := false, narrowed := true }
def CompPutsUptoSaid : Prop := compPutsUptoRow.holds Try.pinned (OpenSpec.upto compPutsSpec)

/-- 'vivariumlaw07.CompGets', WHERE WHAT IT READS IS OF BULK AT MOST 1048576: true; the input reads as it did. -/
def compGetsUptoRow : OpenClaim := { program := "ytdaenkfkiijlkaa", sum := "3c66fee66ebd8c62c12ca665306c76236230968ee69f8272d936bb3181edc502", func := "vivarium/vivariumlaw07.CompGets", spec := "compGets", apart := false, narrowed := true }
def CompGetsUptoSaid : Prop := compGetsUptoRow.holds Try.pinned (OpenSpec.upto compGetsSpec)

end Rows
end Go.Proofs.Ytdaenkfkiijlkaa
