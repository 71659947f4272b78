/-
  DERIVED. GIVEN WITH THE SEED: THE CARDS: each row of YtjkcedokjgnhgaaDoorRows.lean that lists a variable, with what it lists TIED to the program's text (the seventh form; the later family's looks); each row that meets fmt, with fmt's text TOLD by the authors' own Lean function (tested against real Go, not proved from fmt's source: count such statements apart). THE CARD IS WHAT COUNTS. Prove the row's statement (the work); the ties are given (YtjkcedokjgnhgaaDoorTie.lean); close each card by the builder's one call (the guide's Derived/Test/ToyasCard.lean, 'card_holds'). Laid BY PROGRAM, IN A SANDBOX (cutbox-door.mjs). By AI agents, Wed Nov 11 2026. No macro, syntax, notation, axiom, sorry.
-/
import Derived.Test.YtjkcedokjgnhgaaDoorRows
import GoSem.ClaimSeven
namespace Go.Proofs.YtjkcedokjgnhgaaDoor
namespace Rows

/-- THE TIED CARD OF 'gleanerlaw6.TaskCuts'. -/
def taskCutsCard : Claim7 := { stood := { row := taskCutsRow, standIns := [], harness := (true, "e1be664477456899af61f5b2cee80d2f41b151f1e648117fd8eef9bb5a5b77d5"), looks := true }, kinds := [], alts := [], laidByText := true, laidKinds := [.data, .handle], laidTests := true, laidLooks := .later }
def TaskCutsCardSaid : Prop := Claim7.holds Tryd.pinned (.plain (OpenSpec.ofChange taskCutsSpec)) taskCutsCard

/-- THE TIED CARD OF 'gleanerlaw6.TaskSums'. -/
def taskSumsCard : Claim7 := { stood := { row := taskSumsRow, standIns := [], harness := (true, "e1be664477456899af61f5b2cee80d2f41b151f1e648117fd8eef9bb5a5b77d5"), looks := true }, kinds := [], alts := [], laidByText := true, laidKinds := [.data, .handle], laidTests := true, laidLooks := .later }
def TaskSumsCardSaid : Prop := Claim7.holds Tryd.pinned (.plain (OpenSpec.ofChange taskSumsSpec)) taskSumsCard

/-- THE TIED CARD OF 'gleanerlaw6.TaskOps'. -/
def taskOpsCard : Claim7 := { stood := { row := taskOpsRow, standIns := [], harness := (true, "e1be664477456899af61f5b2cee80d2f41b151f1e648117fd8eef9bb5a5b77d5"), looks := true }, kinds := [], alts := [], laidByText := true, laidKinds := [.data, .handle], laidTests := true, laidLooks := .later }
def TaskOpsCardSaid : Prop := Claim7.holds Tryd.pinned (.plain (OpenSpec.ofChange taskOpsSpec)) taskOpsCard

/-- THE SECOND FORM's CARD OF 'gleanerlaw6.TaskCuts'. -/
def taskCutsUptoCard : Claim7 := { stood := { row := taskCutsUptoRow, standIns := [], harness := (true, "e1be664477456899af61f5b2cee80d2f41b151f1e648117fd8eef9bb5a5b77d5"), looks := true }, kinds := [], alts := [], laidByText := true, laidKinds := [.data, .handle], laidTests := true, laidLooks := .later }
def TaskCutsUptoCardSaid : Prop := Claim7.holds Tryd.pinned (.plain (OpenSpec.upto taskCutsSpec)) taskCutsUptoCard

/-- THE SECOND FORM's CARD OF 'gleanerlaw6.TaskSums'. -/
def taskSumsUptoCard : Claim7 := { stood := { row := taskSumsUptoRow, standIns := [], harness := (true, "e1be664477456899af61f5b2cee80d2f41b151f1e648117fd8eef9bb5a5b77d5"), looks := true }, kinds := [], alts := [], laidByText := true, laidKinds := [.data, .handle], laidTests := true, laidLooks := .later }
def TaskSumsUptoCardSaid : Prop := Claim7.holds Tryd.pinned (.plain (OpenSpec.upto taskSumsSpec)) taskSumsUptoCard

/-- THE SECOND FORM's CARD OF 'gleanerlaw6.TaskOps'. -/
def taskOpsUptoCard : Claim7 := { stood := { row := taskOpsUptoRow, standIns := [], harness := (true, "e1be664477456899af61f5b2cee80d2f41b151f1e648117fd8eef9bb5a5b77d5"), looks := true }, kinds := [], alts := [], laidByText := true, laidKinds := [.data, .handle], laidTests := true, laidLooks := .later }
def TaskOpsUptoCardSaid : Prop := Claim7.holds Tryd.pinned (.plain (OpenSpec.upto taskOpsSpec)) taskOpsUptoCard
end Rows
end Go.Proofs.YtjkcedokjgnhgaaDoor
