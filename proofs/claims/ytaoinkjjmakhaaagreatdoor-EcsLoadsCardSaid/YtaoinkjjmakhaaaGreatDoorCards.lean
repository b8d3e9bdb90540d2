/-
  DERIVED. GIVEN WITH THE SEED: THE CARDS: each row of YtaoinkjjmakhaaaGreatDoorRows.lean that lists a variable, with what it lists TIED to the program's text (the seventh form; the later family's looks); each row that meets fmt, with fmt's text TOLD by the authors' own Lean function (tested against real Go, not proved from fmt's source: count such statements apart). THE CARD IS WHAT COUNTS. Prove the row's statement (the work); the ties are given (YtaoinkjjmakhaaaGreatDoorTie.lean); close each card by the builder's one call (the guide's Derived/Test/ToyasCard.lean, 'card_holds'). Laid BY PROGRAM, IN A SANDBOX (cutbox-door.mjs). By AI agents, Wed Nov 11 2026. No macro, syntax, notation, axiom, sorry.
-/
import Derived.Test.YtaoinkjjmakhaaaGreatDoorRows
import GoSem.ClaimSeven
namespace Go.Proofs.YtaoinkjjmakhaaaGreatDoor
namespace Rows

/-- THE TIED CARD OF 'vivariumlaw11.EcsRows'. -/
def ecsRowsCard : Claim7 := { stood := { row := ecsRowsRow, standIns := [], harness := (true, "0e91f8d7b0c45c6ea458b0b5b5ce6cf0b10364ee699a5cd5b576f093142c81bb"), looks := false }, kinds := [], alts := [], laidByText := true, laidKinds := [.data], laidTests := true, laidLooks := .later }
def EcsRowsCardSaid : Prop := Claim7.holds Tryz.pinned (.plain (OpenSpec.ofChange ecsRowsSpec)) ecsRowsCard

/-- THE TIED CARD OF 'vivariumlaw11.EcsLoads'. -/
def ecsLoadsCard : Claim7 := { stood := { row := ecsLoadsRow, standIns := [], harness := (true, "0e91f8d7b0c45c6ea458b0b5b5ce6cf0b10364ee699a5cd5b576f093142c81bb"), looks := false }, kinds := [], alts := [], laidByText := true, laidKinds := [.data], laidTests := true, laidLooks := .later }
def EcsLoadsCardSaid : Prop := Claim7.holds Tryz.pinned (.plain (OpenSpec.ofChange ecsLoadsSpec)) ecsLoadsCard

/-- THE SECOND FORM's CARD OF 'vivariumlaw11.EcsRows'. -/
def ecsRowsUptoCard : Claim7 := { stood := { row := ecsRowsUptoRow, standIns := [], harness := (true, "0e91f8d7b0c45c6ea458b0b5b5ce6cf0b10364ee699a5cd5b576f093142c81bb"), looks := false }, kinds := [], alts := [], laidByText := true, laidKinds := [.data], laidTests := true, laidLooks := .later }
def EcsRowsUptoCardSaid : Prop := Claim7.holds Tryz.pinned (.plain (OpenSpec.upto ecsRowsSpec)) ecsRowsUptoCard

/-- THE SECOND FORM's CARD OF 'vivariumlaw11.EcsLoads'. -/
def ecsLoadsUptoCard : Claim7 := { stood := { row := ecsLoadsUptoRow, standIns := [], harness := (true, "0e91f8d7b0c45c6ea458b0b5b5ce6cf0b10364ee699a5cd5b576f093142c81bb"), looks := false }, kinds := [], alts := [], laidByText := true, laidKinds := [.data], laidTests := true, laidLooks := .later }
def EcsLoadsUptoCardSaid : Prop := Claim7.holds Tryz.pinned (.plain (OpenSpec.upto ecsLoadsSpec)) ecsLoadsUptoCard
end Rows
end Go.Proofs.YtaoinkjjmakhaaaGreatDoor
