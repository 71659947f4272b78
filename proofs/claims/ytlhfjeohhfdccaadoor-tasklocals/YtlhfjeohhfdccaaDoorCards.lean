/-
  DERIVED. GIVEN WITH THE SEED: THE CARDS: each row of YtlhfjeohhfdccaaDoorRows.lean that lists a variable, with what it lists TIED to the program's text (the seventh form; the later family's looks); each row that meets fmt, with fmt's text TOLD by the authors' own Lean function (tested against real Go, not proved from fmt's source: count such statements apart). THE CARD IS WHAT COUNTS. Prove the row's statement (the work); the ties are given (YtlhfjeohhfdccaaDoorTie.lean); close each card by the builder's one call (the guide's Derived/Test/ToyasCard.lean, 'card_holds'). Laid BY PROGRAM, IN A SANDBOX (cutbox-door.mjs). By AI agents, Wed Nov 11 2026. No macro, syntax, notation, axiom, sorry.
-/
import Derived.Test.YtlhfjeohhfdccaaDoorRows
import GoSem.ClaimSeven
namespace Go.Proofs.YtlhfjeohhfdccaaDoor
namespace Rows

/-- THE TIED CARD OF 'gleanerlaw6.TaskSums'. -/
def taskSumsCard : Claim7 := { stood := { row := taskSumsRow, standIns := [], harness := (true, "0ccc02093783dfc0faa07b88e98588a88252c6af203a3c78b55373066090fbf9"), looks := true }, kinds := [], alts := [], laidByText := true, laidKinds := [.data, .handle], laidTests := true, laidLooks := .later }
def TaskSumsCardSaid : Prop := Claim7.holds Tryd.pinned (.plain (OpenSpec.ofChange taskSumsSpec)) taskSumsCard

/-- THE TIED CARD OF 'gleanerlaw6.TaskOps'. -/
def taskOpsCard : Claim7 := { stood := { row := taskOpsRow, standIns := [], harness := (true, "0ccc02093783dfc0faa07b88e98588a88252c6af203a3c78b55373066090fbf9"), looks := true }, kinds := [], alts := [], laidByText := true, laidKinds := [.data, .handle], laidTests := true, laidLooks := .later }
def TaskOpsCardSaid : Prop := Claim7.holds Tryd.pinned (.plain (OpenSpec.ofChange taskOpsSpec)) taskOpsCard

/-- THE TIED CARD OF 'gleanerlaw6.TaskSpawns'. -/
def taskSpawnsCard : Claim7 := { stood := { row := taskSpawnsRow, standIns := [], harness := (true, "0ccc02093783dfc0faa07b88e98588a88252c6af203a3c78b55373066090fbf9"), looks := true }, kinds := [], alts := [], laidByText := true, laidKinds := [.data, .handle], laidTests := true, laidLooks := .later }
def TaskSpawnsCardSaid : Prop := Claim7.holds Tryd.pinned (.plain (OpenSpec.ofChange taskSpawnsSpec)) taskSpawnsCard

/-- THE TIED CARD OF 'gleanerlaw6.TaskHandles'. -/
def taskHandlesCard : Claim7 := { stood := { row := taskHandlesRow, standIns := [], harness := (true, "0ccc02093783dfc0faa07b88e98588a88252c6af203a3c78b55373066090fbf9"), looks := true }, kinds := [], alts := [], laidByText := true, laidKinds := [.data, .handle], laidTests := true, laidLooks := .later }
def TaskHandlesCardSaid : Prop := Claim7.holds Tryd.pinned (.plain (OpenSpec.ofChange taskHandlesSpec)) taskHandlesCard

/-- THE TIED CARD OF 'gleanerlaw6.TaskLocals'. -/
def taskLocalsCard : Claim7 := { stood := { row := taskLocalsRow, standIns := [], harness := (true, "0ccc02093783dfc0faa07b88e98588a88252c6af203a3c78b55373066090fbf9"), looks := true }, kinds := [], alts := [], laidByText := true, laidKinds := [.data, .handle], laidTests := true, laidLooks := .later }
def TaskLocalsCardSaid : Prop := Claim7.holds Tryd.pinned (.plain (OpenSpec.ofChange taskLocalsSpec)) taskLocalsCard

/-- THE TIED CARD OF 'gleanerlaw6.TaskStacks'. -/
def taskStacksCard : Claim7 := { stood := { row := taskStacksRow, standIns := [], harness := (true, "0ccc02093783dfc0faa07b88e98588a88252c6af203a3c78b55373066090fbf9"), looks := true }, kinds := [], alts := [], laidByText := true, laidKinds := [.data, .handle], laidTests := true, laidLooks := .later }
def TaskStacksCardSaid : Prop := Claim7.holds Tryd.pinned (.plain (OpenSpec.ofChange taskStacksSpec)) taskStacksCard

/-- THE SECOND FORM's CARD OF 'gleanerlaw6.TaskSums'. -/
def taskSumsUptoCard : Claim7 := { stood := { row := taskSumsUptoRow, standIns := [], harness := (true, "0ccc02093783dfc0faa07b88e98588a88252c6af203a3c78b55373066090fbf9"), looks := true }, kinds := [], alts := [], laidByText := true, laidKinds := [.data, .handle], laidTests := true, laidLooks := .later }
def TaskSumsUptoCardSaid : Prop := Claim7.holds Tryd.pinned (.plain (OpenSpec.upto taskSumsSpec)) taskSumsUptoCard

/-- THE SECOND FORM's CARD OF 'gleanerlaw6.TaskOps'. -/
def taskOpsUptoCard : Claim7 := { stood := { row := taskOpsUptoRow, standIns := [], harness := (true, "0ccc02093783dfc0faa07b88e98588a88252c6af203a3c78b55373066090fbf9"), looks := true }, kinds := [], alts := [], laidByText := true, laidKinds := [.data, .handle], laidTests := true, laidLooks := .later }
def TaskOpsUptoCardSaid : Prop := Claim7.holds Tryd.pinned (.plain (OpenSpec.upto taskOpsSpec)) taskOpsUptoCard

/-- THE SECOND FORM's CARD OF 'gleanerlaw6.TaskSpawns'. -/
def taskSpawnsUptoCard : Claim7 := { stood := { row := taskSpawnsUptoRow, standIns := [], harness := (true, "0ccc02093783dfc0faa07b88e98588a88252c6af203a3c78b55373066090fbf9"), looks := true }, kinds := [], alts := [], laidByText := true, laidKinds := [.data, .handle], laidTests := true, laidLooks := .later }
def TaskSpawnsUptoCardSaid : Prop := Claim7.holds Tryd.pinned (.plain (OpenSpec.upto taskSpawnsSpec)) taskSpawnsUptoCard

/-- THE SECOND FORM's CARD OF 'gleanerlaw6.TaskHandles'. -/
def taskHandlesUptoCard : Claim7 := { stood := { row := taskHandlesUptoRow, standIns := [], harness := (true, "0ccc02093783dfc0faa07b88e98588a88252c6af203a3c78b55373066090fbf9"), looks := true }, kinds := [], alts := [], laidByText := true, laidKinds := [.data, .handle], laidTests := true, laidLooks := .later }
def TaskHandlesUptoCardSaid : Prop := Claim7.holds Tryd.pinned (.plain (OpenSpec.upto taskHandlesSpec)) taskHandlesUptoCard

/-- THE SECOND FORM's CARD OF 'gleanerlaw6.TaskLocals'. -/
def taskLocalsUptoCard : Claim7 := { stood := { row := taskLocalsUptoRow, standIns := [], harness := (true, "0ccc02093783dfc0faa07b88e98588a88252c6af203a3c78b55373066090fbf9"), looks := true }, kinds := [], alts := [], laidByText := true, laidKinds := [.data, .handle], laidTests := true, laidLooks := .later }
def TaskLocalsUptoCardSaid : Prop := Claim7.holds Tryd.pinned (.plain (OpenSpec.upto taskLocalsSpec)) taskLocalsUptoCard

/-- THE SECOND FORM's CARD OF 'gleanerlaw6.TaskStacks'. -/
def taskStacksUptoCard : Claim7 := { stood := { row := taskStacksUptoRow, standIns := [], harness := (true, "0ccc02093783dfc0faa07b88e98588a88252c6af203a3c78b55373066090fbf9"), looks := true }, kinds := [], alts := [], laidByText := true, laidKinds := [.data, .handle], laidTests := true, laidLooks := .later }
def TaskStacksUptoCardSaid : Prop := Claim7.holds Tryd.pinned (.plain (OpenSpec.upto taskStacksSpec)) taskStacksUptoCard
end Rows
end Go.Proofs.YtlhfjeohhfdccaaDoor
