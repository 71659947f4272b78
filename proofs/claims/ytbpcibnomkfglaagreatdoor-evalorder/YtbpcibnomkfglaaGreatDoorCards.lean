/-
  DERIVED. GIVEN WITH THE SEED: THE CARDS: each row of YtbpcibnomkfglaaGreatDoorRows.lean that lists a variable, with what it lists TIED to the program's text (the seventh form; the later family's looks); each row that meets fmt, with fmt's text TOLD by the authors' own Lean function (tested against real Go, not proved from fmt's source: count such statements apart). THE CARD IS WHAT COUNTS. Prove the row's statement (the work); the ties are given (YtbpcibnomkfglaaGreatDoorTie.lean); close each card by the builder's one call (the guide's Derived/Test/ToyasCard.lean, 'card_holds'). Laid BY PROGRAM, IN A SANDBOX (cutbox-door.mjs). By AI agents, Wed Nov 11 2026. No macro, syntax, notation, axiom, sorry.
-/
import Derived.Test.YtbpcibnomkfglaaGreatDoorRows
import GoSem.ClaimSeven
namespace Go.Proofs.YtbpcibnomkfglaaGreatDoor
namespace Rows

/-- THE TIED CARD OF 'gleanerlaw9.EvalTrees'. -/
def evalTreesCard : Claim7 := { stood := { row := evalTreesRow, standIns := [], harness := (true, "9768465281286938af4a7c964a519c3537fc444f887db2d2c4239290f4e30eac"), looks := true }, kinds := [], alts := [], laidByText := true, laidKinds := [.data, .handle], laidTests := true, laidLooks := .later }
def EvalTreesCardSaid : Prop := Claim7.holds Tryz.pinned (.plain (OpenSpec.ofChange evalTreesSpec)) evalTreesCard

/-- THE TIED CARD OF 'gleanerlaw9.EvalFails'. -/
def evalFailsCard : Claim7 := { stood := { row := evalFailsRow, standIns := [], harness := (true, "9768465281286938af4a7c964a519c3537fc444f887db2d2c4239290f4e30eac"), looks := true }, kinds := [], alts := [], laidByText := true, laidKinds := [.data, .handle], laidTests := true, laidLooks := .later }
def EvalFailsCardSaid : Prop := Claim7.holds Tryz.pinned (.plain (OpenSpec.ofChange evalFailsSpec)) evalFailsCard

/-- THE TIED CARD OF 'gleanerlaw9.EvalTasks'. -/
def evalTasksCard : Claim7 := { stood := { row := evalTasksRow, standIns := [], harness := (true, "9768465281286938af4a7c964a519c3537fc444f887db2d2c4239290f4e30eac"), looks := true }, kinds := [], alts := [], laidByText := true, laidKinds := [.data, .handle], laidTests := true, laidLooks := .later }
def EvalTasksCardSaid : Prop := Claim7.holds Tryz.pinned (.plain (OpenSpec.ofChange evalTasksSpec)) evalTasksCard

/-- THE TIED CARD OF 'gleanerlaw9.EvalDeep'. -/
def evalDeepCard : Claim7 := { stood := { row := evalDeepRow, standIns := [], harness := (true, "9768465281286938af4a7c964a519c3537fc444f887db2d2c4239290f4e30eac"), looks := true }, kinds := [], alts := [], laidByText := true, laidKinds := [.data, .handle], laidTests := true, laidLooks := .later }
def EvalDeepCardSaid : Prop := Claim7.holds Tryz.pinned (.plain (OpenSpec.ofChange evalDeepSpec)) evalDeepCard

/-- THE TIED CARD OF 'gleanerlaw9.EvalWide'. -/
def evalWideCard : Claim7 := { stood := { row := evalWideRow, standIns := [], harness := (true, "9768465281286938af4a7c964a519c3537fc444f887db2d2c4239290f4e30eac"), looks := true }, kinds := [], alts := [], laidByText := true, laidKinds := [.data, .handle], laidTests := true, laidLooks := .later }
def EvalWideCardSaid : Prop := Claim7.holds Tryz.pinned (.plain (OpenSpec.ofChange evalWideSpec)) evalWideCard

/-- THE TIED CARD OF 'gleanerlaw9.EvalOrder'. -/
def evalOrderCard : Claim7 := { stood := { row := evalOrderRow, standIns := [], harness := (true, "9768465281286938af4a7c964a519c3537fc444f887db2d2c4239290f4e30eac"), looks := true }, kinds := [], alts := [], laidByText := true, laidKinds := [.data, .handle], laidTests := true, laidLooks := .later }
def EvalOrderCardSaid : Prop := Claim7.holds Tryz.pinned (.plain (OpenSpec.ofChange evalOrderSpec)) evalOrderCard

/-- THE TIED CARD OF 'gleanerlaw9.EvalFuel'. -/
def evalFuelCard : Claim7 := { stood := { row := evalFuelRow, standIns := [], harness := (true, "9768465281286938af4a7c964a519c3537fc444f887db2d2c4239290f4e30eac"), looks := true }, kinds := [], alts := [], laidByText := true, laidKinds := [.data, .handle], laidTests := true, laidLooks := .later }
def EvalFuelCardSaid : Prop := Claim7.holds Tryz.pinned (.plain (OpenSpec.ofChange evalFuelSpec)) evalFuelCard

/-- THE SECOND FORM's CARD OF 'gleanerlaw9.EvalTrees'. -/
def evalTreesUptoCard : Claim7 := { stood := { row := evalTreesUptoRow, standIns := [], harness := (true, "9768465281286938af4a7c964a519c3537fc444f887db2d2c4239290f4e30eac"), looks := true }, kinds := [], alts := [], laidByText := true, laidKinds := [.data, .handle], laidTests := true, laidLooks := .later }
def EvalTreesUptoCardSaid : Prop := Claim7.holds Tryz.pinned (.plain (OpenSpec.upto evalTreesSpec)) evalTreesUptoCard

/-- THE SECOND FORM's CARD OF 'gleanerlaw9.EvalFails'. -/
def evalFailsUptoCard : Claim7 := { stood := { row := evalFailsUptoRow, standIns := [], harness := (true, "9768465281286938af4a7c964a519c3537fc444f887db2d2c4239290f4e30eac"), looks := true }, kinds := [], alts := [], laidByText := true, laidKinds := [.data, .handle], laidTests := true, laidLooks := .later }
def EvalFailsUptoCardSaid : Prop := Claim7.holds Tryz.pinned (.plain (OpenSpec.upto evalFailsSpec)) evalFailsUptoCard

/-- THE SECOND FORM's CARD OF 'gleanerlaw9.EvalTasks'. -/
def evalTasksUptoCard : Claim7 := { stood := { row := evalTasksUptoRow, standIns := [], harness := (true, "9768465281286938af4a7c964a519c3537fc444f887db2d2c4239290f4e30eac"), looks := true }, kinds := [], alts := [], laidByText := true, laidKinds := [.data, .handle], laidTests := true, laidLooks := .later }
def EvalTasksUptoCardSaid : Prop := Claim7.holds Tryz.pinned (.plain (OpenSpec.upto evalTasksSpec)) evalTasksUptoCard

/-- THE SECOND FORM's CARD OF 'gleanerlaw9.EvalDeep'. -/
def evalDeepUptoCard : Claim7 := { stood := { row := evalDeepUptoRow, standIns := [], harness := (true, "9768465281286938af4a7c964a519c3537fc444f887db2d2c4239290f4e30eac"), looks := true }, kinds := [], alts := [], laidByText := true, laidKinds := [.data, .handle], laidTests := true, laidLooks := .later }
def EvalDeepUptoCardSaid : Prop := Claim7.holds Tryz.pinned (.plain (OpenSpec.upto evalDeepSpec)) evalDeepUptoCard

/-- THE SECOND FORM's CARD OF 'gleanerlaw9.EvalWide'. -/
def evalWideUptoCard : Claim7 := { stood := { row := evalWideUptoRow, standIns := [], harness := (true, "9768465281286938af4a7c964a519c3537fc444f887db2d2c4239290f4e30eac"), looks := true }, kinds := [], alts := [], laidByText := true, laidKinds := [.data, .handle], laidTests := true, laidLooks := .later }
def EvalWideUptoCardSaid : Prop := Claim7.holds Tryz.pinned (.plain (OpenSpec.upto evalWideSpec)) evalWideUptoCard

/-- THE SECOND FORM's CARD OF 'gleanerlaw9.EvalOrder'. -/
def evalOrderUptoCard : Claim7 := { stood := { row := evalOrderUptoRow, standIns := [], harness := (true, "9768465281286938af4a7c964a519c3537fc444f887db2d2c4239290f4e30eac"), looks := true }, kinds := [], alts := [], laidByText := true, laidKinds := [.data, .handle], laidTests := true, laidLooks := .later }
def EvalOrderUptoCardSaid : Prop := Claim7.holds Tryz.pinned (.plain (OpenSpec.upto evalOrderSpec)) evalOrderUptoCard

/-- THE SECOND FORM's CARD OF 'gleanerlaw9.EvalFuel'. -/
def evalFuelUptoCard : Claim7 := { stood := { row := evalFuelUptoRow, standIns := [], harness := (true, "9768465281286938af4a7c964a519c3537fc444f887db2d2c4239290f4e30eac"), looks := true }, kinds := [], alts := [], laidByText := true, laidKinds := [.data, .handle], laidTests := true, laidLooks := .later }
def EvalFuelUptoCardSaid : Prop := Claim7.holds Tryz.pinned (.plain (OpenSpec.upto evalFuelSpec)) evalFuelUptoCard
end Rows
end Go.Proofs.YtbpcibnomkfglaaGreatDoor
