/-
  DERIVED. GIVEN WITH THE SEED: THE CARDS: each row of YtfdgkeljnmamiaaDoorRows.lean that lists a variable, with what it lists TIED to the program's text (the seventh form; the later family's looks); each row that meets fmt, with fmt's text TOLD by the authors' own Lean function (tested against real Go, not proved from fmt's source: count such statements apart). THE CARD IS WHAT COUNTS. Prove the row's statement (the work); the ties are given (YtfdgkeljnmamiaaDoorTie.lean); close each card by the builder's one call (the guide's Derived/Test/ToyasCard.lean, 'card_holds'). Laid BY PROGRAM, IN A SANDBOX (cutbox-door.mjs). By AI agents, Wed Nov 11 2026. No macro, syntax, notation, axiom, sorry.
-/
import Derived.Test.YtfdgkeljnmamiaaDoorRows
import GoSem.ClaimSeven
namespace Go.Proofs.YtfdgkeljnmamiaaDoor
namespace Rows

/-- THE TIED CARD OF 'gleanerlaw5.CheckChecks'. -/
def checkChecksCard : Claim7 := { stood := { row := checkChecksRow, standIns := [], harness := (true, "ed97351fddc2dce0b497017e8ad74fcaaac12e7fcf76d77dce3ce8423c87a034"), looks := true }, kinds := [], alts := [], laidByText := true, laidKinds := [.data, .handle], laidTests := true, laidLooks := .later }
def CheckChecksCardSaid : Prop := Claim7.holds Tryd.pinned (.plain (OpenSpec.ofChange checkChecksSpec)) checkChecksCard

/-- THE TIED CARD OF 'gleanerlaw5.CheckDepths'. -/
def checkDepthsCard : Claim7 := { stood := { row := checkDepthsRow, standIns := [], harness := (true, "ed97351fddc2dce0b497017e8ad74fcaaac12e7fcf76d77dce3ce8423c87a034"), looks := true }, kinds := [], alts := [], laidByText := true, laidKinds := [.data, .handle], laidTests := true, laidLooks := .later }
def CheckDepthsCardSaid : Prop := Claim7.holds Tryd.pinned (.plain (OpenSpec.ofChange checkDepthsSpec)) checkDepthsCard

/-- THE TIED CARD OF 'gleanerlaw5.CheckEach'. -/
def checkEachCard : Claim7 := { stood := { row := checkEachRow, standIns := [], harness := (true, "ed97351fddc2dce0b497017e8ad74fcaaac12e7fcf76d77dce3ce8423c87a034"), looks := true }, kinds := [], alts := [], laidByText := true, laidKinds := [.data, .handle], laidTests := true, laidLooks := .later }
def CheckEachCardSaid : Prop := Claim7.holds Tryd.pinned (.plain (OpenSpec.ofChange checkEachSpec)) checkEachCard

/-- THE TIED CARD OF 'gleanerlaw5.CheckTall'. -/
def checkTallCard : Claim7 := { stood := { row := checkTallRow, standIns := [], harness := (true, "ed97351fddc2dce0b497017e8ad74fcaaac12e7fcf76d77dce3ce8423c87a034"), looks := true }, kinds := [], alts := [], laidByText := true, laidKinds := [.data, .handle], laidTests := true, laidLooks := .later }
def CheckTallCardSaid : Prop := Claim7.holds Tryd.pinned (.plain (OpenSpec.ofChange checkTallSpec)) checkTallCard

/-- THE TIED CARD OF 'gleanerlaw5.CheckMeets'. -/
def checkMeetsCard : Claim7 := { stood := { row := checkMeetsRow, standIns := [], harness := (true, "ed97351fddc2dce0b497017e8ad74fcaaac12e7fcf76d77dce3ce8423c87a034"), looks := true }, kinds := [], alts := [], laidByText := true, laidKinds := [.data, .handle], laidTests := true, laidLooks := .later }
def CheckMeetsCardSaid : Prop := Claim7.holds Tryd.pinned (.plain (OpenSpec.ofChange checkMeetsSpec)) checkMeetsCard

/-- THE TIED CARD OF 'gleanerlaw5.CheckDead'. -/
def checkDeadCard : Claim7 := { stood := { row := checkDeadRow, standIns := [], harness := (true, "ed97351fddc2dce0b497017e8ad74fcaaac12e7fcf76d77dce3ce8423c87a034"), looks := true }, kinds := [], alts := [], laidByText := true, laidKinds := [.data, .handle], laidTests := true, laidLooks := .later }
def CheckDeadCardSaid : Prop := Claim7.holds Tryd.pinned (.plain (OpenSpec.ofChange checkDeadSpec)) checkDeadCard

/-- THE SECOND FORM's CARD OF 'gleanerlaw5.CheckChecks'. -/
def checkChecksUptoCard : Claim7 := { stood := { row := checkChecksUptoRow, standIns := [], harness := (true, "ed97351fddc2dce0b497017e8ad74fcaaac12e7fcf76d77dce3ce8423c87a034"), looks := true }, kinds := [], alts := [], laidByText := true, laidKinds := [.data, .handle], laidTests := true, laidLooks := .later }
def CheckChecksUptoCardSaid : Prop := Claim7.holds Tryd.pinned (.plain (OpenSpec.upto checkChecksSpec)) checkChecksUptoCard

/-- THE SECOND FORM's CARD OF 'gleanerlaw5.CheckDepths'. -/
def checkDepthsUptoCard : Claim7 := { stood := { row := checkDepthsUptoRow, standIns := [], harness := (true, "ed97351fddc2dce0b497017e8ad74fcaaac12e7fcf76d77dce3ce8423c87a034"), looks := true }, kinds := [], alts := [], laidByText := true, laidKinds := [.data, .handle], laidTests := true, laidLooks := .later }
def CheckDepthsUptoCardSaid : Prop := Claim7.holds Tryd.pinned (.plain (OpenSpec.upto checkDepthsSpec)) checkDepthsUptoCard

/-- THE SECOND FORM's CARD OF 'gleanerlaw5.CheckEach'. -/
def checkEachUptoCard : Claim7 := { stood := { row := checkEachUptoRow, standIns := [], harness := (true, "ed97351fddc2dce0b497017e8ad74fcaaac12e7fcf76d77dce3ce8423c87a034"), looks := true }, kinds := [], alts := [], laidByText := true, laidKinds := [.data, .handle], laidTests := true, laidLooks := .later }
def CheckEachUptoCardSaid : Prop := Claim7.holds Tryd.pinned (.plain (OpenSpec.upto checkEachSpec)) checkEachUptoCard

/-- THE SECOND FORM's CARD OF 'gleanerlaw5.CheckTall'. -/
def checkTallUptoCard : Claim7 := { stood := { row := checkTallUptoRow, standIns := [], harness := (true, "ed97351fddc2dce0b497017e8ad74fcaaac12e7fcf76d77dce3ce8423c87a034"), looks := true }, kinds := [], alts := [], laidByText := true, laidKinds := [.data, .handle], laidTests := true, laidLooks := .later }
def CheckTallUptoCardSaid : Prop := Claim7.holds Tryd.pinned (.plain (OpenSpec.upto checkTallSpec)) checkTallUptoCard

/-- THE SECOND FORM's CARD OF 'gleanerlaw5.CheckMeets'. -/
def checkMeetsUptoCard : Claim7 := { stood := { row := checkMeetsUptoRow, standIns := [], harness := (true, "ed97351fddc2dce0b497017e8ad74fcaaac12e7fcf76d77dce3ce8423c87a034"), looks := true }, kinds := [], alts := [], laidByText := true, laidKinds := [.data, .handle], laidTests := true, laidLooks := .later }
def CheckMeetsUptoCardSaid : Prop := Claim7.holds Tryd.pinned (.plain (OpenSpec.upto checkMeetsSpec)) checkMeetsUptoCard

/-- THE SECOND FORM's CARD OF 'gleanerlaw5.CheckDead'. -/
def checkDeadUptoCard : Claim7 := { stood := { row := checkDeadUptoRow, standIns := [], harness := (true, "ed97351fddc2dce0b497017e8ad74fcaaac12e7fcf76d77dce3ce8423c87a034"), looks := true }, kinds := [], alts := [], laidByText := true, laidKinds := [.data, .handle], laidTests := true, laidLooks := .later }
def CheckDeadUptoCardSaid : Prop := Claim7.holds Tryd.pinned (.plain (OpenSpec.upto checkDeadSpec)) checkDeadUptoCard
end Rows
end Go.Proofs.YtfdgkeljnmamiaaDoor
