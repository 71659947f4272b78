/-
  DERIVED. GIVEN WITH THE SEED: THE CARDS: each row of YtchpocejkdngnaaGreatDoorRows.lean that lists a variable, with what it lists TIED to the program's text (the seventh form; the later family's looks); each row that meets fmt, with fmt's text TOLD by the authors' own Lean function (tested against real Go, not proved from fmt's source: count such statements apart). THE CARD IS WHAT COUNTS. Prove the row's statement (the work); the ties are given (YtchpocejkdngnaaGreatDoorTie.lean); close each card by the builder's one call (the guide's Derived/Test/ToyasCard.lean, 'card_holds'). Laid BY PROGRAM, IN A SANDBOX (cutbox-door.mjs). By AI agents, Wed Nov 11 2026. No macro, syntax, notation, axiom, sorry.
-/
import Derived.Test.YtchpocejkdngnaaGreatDoorRows
import GoSem.ClaimSeven
namespace Go.Proofs.YtchpocejkdngnaaGreatDoor
namespace Rows

/-- THE TIED CARD OF 'gleanerlaw6.TaskWaits'. -/
def taskWaitsCard : Claim7 := { stood := { row := taskWaitsRow, standIns := [], harness := (true, "ee1dad5b4e91acdfc1c0bd72fcef12805c14cb032414bfe54f35cf9851db1ff5"), looks := true }, kinds := [], alts := [], laidByText := true, laidKinds := [.data, .handle], laidTests := true, laidLooks := .later }
def TaskWaitsCardSaid : Prop := Claim7.holds Tryz.pinned (.plain (OpenSpec.ofChange taskWaitsSpec)) taskWaitsCard

/-- THE SECOND FORM's CARD OF 'gleanerlaw6.TaskWaits'. -/
def taskWaitsUptoCard : Claim7 := { stood := { row := taskWaitsUptoRow, standIns := [], harness := (true, "ee1dad5b4e91acdfc1c0bd72fcef12805c14cb032414bfe54f35cf9851db1ff5"), looks := true }, kinds := [], alts := [], laidByText := true, laidKinds := [.data, .handle], laidTests := true, laidLooks := .later }
def TaskWaitsUptoCardSaid : Prop := Claim7.holds Tryz.pinned (.plain (OpenSpec.upto taskWaitsSpec)) taskWaitsUptoCard
end Rows
end Go.Proofs.YtchpocejkdngnaaGreatDoor
