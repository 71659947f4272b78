/-
  DERIVED. GIVEN WITH THE SEED: THE CARDS: each row of YtnkfdpnommjlcaaGreatDoorRows.lean that lists a variable, with what it lists TIED to the program's text (the seventh form; the later family's looks); each row that meets fmt, with fmt's text TOLD by the authors' own Lean function (tested against real Go, not proved from fmt's source: count such statements apart). THE CARD IS WHAT COUNTS. Prove the row's statement (the work); the ties are given (YtnkfdpnommjlcaaGreatDoorTie.lean); close each card by the builder's one call (the guide's Derived/Test/ToyasCard.lean, 'card_holds'). Laid BY PROGRAM, IN A SANDBOX (cutbox-door.mjs). By AI agents, Wed Nov 11 2026. No macro, syntax, notation, axiom, sorry.
-/
import Derived.Test.YtnkfdpnommjlcaaGreatDoorRows
import GoSem.ClaimSeven
namespace Go.Proofs.YtnkfdpnommjlcaaGreatDoor
namespace Rows

/-- THE TIED CARD OF 'gleanerlaw6.TaskCuts'. -/
def taskCutsCard : Claim7 := { stood := { row := taskCutsRow, standIns := [], harness := (true, "74f193195eb411c4ad37b5770017ac651e46341206dc1e1e84423c15cab38a7b"), looks := true }, kinds := [], alts := [], laidByText := true, laidKinds := [.data, .handle], laidTests := true, laidLooks := .later }
def TaskCutsCardSaid : Prop := Claim7.holds Tryz.pinned (.plain (OpenSpec.ofChange taskCutsSpec)) taskCutsCard

/-- THE TIED CARD OF 'gleanerlaw6.TaskRuns'. -/
def taskRunsCard : Claim7 := { stood := { row := taskRunsRow, standIns := [], harness := (true, "74f193195eb411c4ad37b5770017ac651e46341206dc1e1e84423c15cab38a7b"), looks := true }, kinds := [], alts := [], laidByText := true, laidKinds := [.data, .handle], laidTests := true, laidLooks := .later }
def TaskRunsCardSaid : Prop := Claim7.holds Tryz.pinned (.plain (OpenSpec.ofChange taskRunsSpec)) taskRunsCard

/-- THE TIED CARD OF 'gleanerlaw6.TaskResumes'. -/
def taskResumesCard : Claim7 := { stood := { row := taskResumesRow, standIns := [], harness := (true, "74f193195eb411c4ad37b5770017ac651e46341206dc1e1e84423c15cab38a7b"), looks := true }, kinds := [], alts := [], laidByText := true, laidKinds := [.data, .handle], laidTests := true, laidLooks := .later }
def TaskResumesCardSaid : Prop := Claim7.holds Tryz.pinned (.plain (OpenSpec.ofChange taskResumesSpec)) taskResumesCard

/-- THE SECOND FORM's CARD OF 'gleanerlaw6.TaskCuts'. -/
def taskCutsUptoCard : Claim7 := { stood := { row := taskCutsUptoRow, standIns := [], harness := (true, "74f193195eb411c4ad37b5770017ac651e46341206dc1e1e84423c15cab38a7b"), looks := true }, kinds := [], alts := [], laidByText := true, laidKinds := [.data, .handle], laidTests := true, laidLooks := .later }
def TaskCutsUptoCardSaid : Prop := Claim7.holds Tryz.pinned (.plain (OpenSpec.upto taskCutsSpec)) taskCutsUptoCard

/-- THE SECOND FORM's CARD OF 'gleanerlaw6.TaskRuns'. -/
def taskRunsUptoCard : Claim7 := { stood := { row := taskRunsUptoRow, standIns := [], harness := (true, "74f193195eb411c4ad37b5770017ac651e46341206dc1e1e84423c15cab38a7b"), looks := true }, kinds := [], alts := [], laidByText := true, laidKinds := [.data, .handle], laidTests := true, laidLooks := .later }
def TaskRunsUptoCardSaid : Prop := Claim7.holds Tryz.pinned (.plain (OpenSpec.upto taskRunsSpec)) taskRunsUptoCard

/-- THE SECOND FORM's CARD OF 'gleanerlaw6.TaskResumes'. -/
def taskResumesUptoCard : Claim7 := { stood := { row := taskResumesUptoRow, standIns := [], harness := (true, "74f193195eb411c4ad37b5770017ac651e46341206dc1e1e84423c15cab38a7b"), looks := true }, kinds := [], alts := [], laidByText := true, laidKinds := [.data, .handle], laidTests := true, laidLooks := .later }
def TaskResumesUptoCardSaid : Prop := Claim7.holds Tryz.pinned (.plain (OpenSpec.upto taskResumesSpec)) taskResumesUptoCard
end Rows
end Go.Proofs.YtnkfdpnommjlcaaGreatDoor
