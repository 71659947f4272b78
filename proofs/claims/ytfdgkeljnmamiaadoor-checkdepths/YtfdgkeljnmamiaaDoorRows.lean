/-
  NARROWER THAN 'FOR EVERY INPUT', by the rows' own cells (each row's printed sentence says how): CheckChecks: laid · CheckDepths: laid · CheckEach: laid · CheckTall: laid · CheckMeets: laid · CheckDead: laid.
  DERIVED. THE GIVEN ROWS OF THIS SEAT. 6 by the template 'for every input the law returns true; each argument reads behind the call as it read before'; 0 by the template 'total and deterministic' (their statements: YtfdgkeljnmamiaaDoorTotals.lean).
  GIVEN WITH THE SEED: the statements are not yours to turn. If you find one false, say at which input.
  Laid BY PROGRAM, IN A SANDBOX (cutbox-rows.mjs): the forced cells as the released guide's own fill.sh prints them over the translation 5aaaaac602651f50… (all of the seat's roots in one cut). By AI agents, Wed Nov 11 2026. No macro, syntax, notation, axiom, sorry.
-/
import Derived.Test.YtfdgkeljnmamiaaDoorChecked
import GoSem.Claim
import GoSem.ClaimJoined
import GoSem.ClaimMapViews
import Derived.JoinedTies
import Derived.KernelRfl
namespace Go.Proofs.YtfdgkeljnmamiaaDoor
/- THE CELL 'sum', in the pinned program and in every row, IS THE sha256 OF THE DUMP (.gsa) THAT YtfdgkeljnmamiaaDoorProg.lean LOADS. Nothing in Lean hashes anything: it is a label: what it is worth is what the hold of that sum in a sandbox is worth. -/
noncomputable def Tryd.pinned : Pinned := { name := "ytfdgkeljnmamiaadoor", sum := "5aaaaac602651f509a8f8114c180f3f1b17d43ac6401cbef0861e18316c7135c", checked := Tryd.checked }
namespace Rows
def none {H : Type} : Left H := { results := [], args := [] }

/- WHAT THE LISTED PACKAGE-LEVEL VARIABLES READ AS WHEN THE CALL BEGINS. Each datum BY PROGRAM (the guide's laid-datum.mjs) off the statement by which the dump's own 'gosem.cut.vars' lays the variable. In a bare row this is a premise. The card (YtfdgkeljnmamiaaDoorCards.lean) ties it to the program's text. -/
def laid_gleaner_code_kinds {H : Type} : DataW H := .agg [.agg [.lit (.string []), .lit (.bool false), .lit (.int .i64 0), .lit (.int .i64 0)], .agg [.lit (.string [112, 117, 115, 104]), .lit (.bool true), .lit (.int .i64 0), .lit (.int .i64 1)], .agg [.lit (.string [112, 111, 112]), .lit (.bool false), .lit (.int .i64 1), .lit (.int .i64 0)], .agg [.lit (.string [100, 117, 112]), .lit (.bool false), .lit (.int .i64 1), .lit (.int .i64 2)], .agg [.lit (.string [115, 119, 97, 112]), .lit (.bool false), .lit (.int .i64 2), .lit (.int .i64 2)], .agg [.lit (.string [108, 111, 97, 100]), .lit (.bool true), .lit (.int .i64 0), .lit (.int .i64 1)], .agg [.lit (.string [115, 116, 111, 114, 101]), .lit (.bool true), .lit (.int .i64 1), .lit (.int .i64 0)], .agg [.lit (.string [97, 100, 100]), .lit (.bool false), .lit (.int .i64 2), .lit (.int .i64 1)], .agg [.lit (.string [115, 117, 98]), .lit (.bool false), .lit (.int .i64 2), .lit (.int .i64 1)], .agg [.lit (.string [109, 117, 108]), .lit (.bool false), .lit (.int .i64 2), .lit (.int .i64 1)], .agg [.lit (.string [100, 105, 118]), .lit (.bool false), .lit (.int .i64 2), .lit (.int .i64 1)], .agg [.lit (.string [109, 111, 100]), .lit (.bool false), .lit (.int .i64 2), .lit (.int .i64 1)], .agg [.lit (.string [108, 116]), .lit (.bool false), .lit (.int .i64 2), .lit (.int .i64 1)], .agg [.lit (.string [101, 113]), .lit (.bool false), .lit (.int .i64 2), .lit (.int .i64 1)], .agg [.lit (.string [106, 117, 109, 112]), .lit (.bool true), .lit (.int .i64 0), .lit (.int .i64 0)], .agg [.lit (.string [122, 101, 114, 111]), .lit (.bool true), .lit (.int .i64 1), .lit (.int .i64 0)], .agg [.lit (.string [115, 112, 97, 119, 110]), .lit (.bool true), .lit (.int .i64 0), .lit (.int .i64 1)], .agg [.lit (.string [97, 119, 97, 105, 116]), .lit (.bool false), .lit (.int .i64 1), .lit (.int .i64 1)], .agg [.lit (.string [114, 101, 116]), .lit (.bool false), .lit (.int .i64 1), .lit (.int .i64 0)], .agg [.lit (.string [102, 97, 105, 108]), .lit (.bool false), .lit (.int .i64 1), .lit (.int .i64 0)]]
def laid_errors_errorType {H : Type} : DataW H := .iface "internal/reflectlite.rtype" (.agg [.ptr (.lit (.string [101, 114, 114, 111, 114]))])

/-- 'gleanerlaw5.CheckChecks': WHATEVER THE INPUT: true; the input reads as it did. -/
def checkChecksSpec : ChangeSpec := { name := "checkChecks", fn := fun _ => fun
  | [d] => { results := [.lit (.bool true)], args := [d] }
  | _ => none }
def checkChecksRow : OpenClaim := { program := "ytfdgkeljnmamiaadoor", sum := "5aaaaac602651f509a8f8114c180f3f1b17d43ac6401cbef0861e18316c7135c", func := "gleaner/gleanerlaw5.CheckChecks", spec := "checkChecks", inPlace := ["internal/reflectlite.ValueOf", "(internal/reflectlite.Value).Type", "(internal/reflectlite.Value).IsNil", "internal/reflectlite.TypeOf", "(internal/reflectlite.Value).Elem", "(internal/reflectlite.Value).Set"], unfollowed := true, recurses := true, named := ["errors.errorType", "gleaner/code.kinds"], apart := false, laid := [("gleaner/code.kinds", laid_gleaner_code_kinds), ("errors.errorType", laid_errors_errorType)] }
def CheckChecksSaid : Prop := checkChecksRow.holds Tryd.pinned (OpenSpec.ofChange checkChecksSpec)

/-- ITS FALSE NEIGHBOUR: 'it returns false'. Refute it at one input. -/
def checkChecksWrong : ChangeSpec := { name := "checkChecks", fn := fun _ => fun
  | [d] => { results := [.lit (.bool false)], args := [d] }
  | _ => none }
def CheckChecksWrongFalsely : Prop := checkChecksRow.holds Tryd.pinned (OpenSpec.ofChange checkChecksWrong)

/-- 'gleanerlaw5.CheckDepths': WHATEVER THE INPUT: true; the input reads as it did. -/
def checkDepthsSpec : ChangeSpec := { name := "checkDepths", fn := fun _ => fun
  | [d1, d2] => { results := [.lit (.bool true)], args := [d1, d2] }
  | _ => none }
def checkDepthsRow : OpenClaim := { program := "ytfdgkeljnmamiaadoor", sum := "5aaaaac602651f509a8f8114c180f3f1b17d43ac6401cbef0861e18316c7135c", func := "gleaner/gleanerlaw5.CheckDepths", spec := "checkDepths", inPlace := ["internal/reflectlite.ValueOf", "(internal/reflectlite.Value).Type", "(internal/reflectlite.Value).IsNil", "internal/reflectlite.TypeOf", "(internal/reflectlite.Value).Elem", "(internal/reflectlite.Value).Set"], unfollowed := true, recurses := true, named := ["errors.errorType", "gleaner/code.kinds"], apart := false, laid := [("gleaner/code.kinds", laid_gleaner_code_kinds), ("errors.errorType", laid_errors_errorType)] }
def CheckDepthsSaid : Prop := checkDepthsRow.holds Tryd.pinned (OpenSpec.ofChange checkDepthsSpec)

/-- ITS FALSE NEIGHBOUR: 'it returns false'. Refute it at one input. -/
def checkDepthsWrong : ChangeSpec := { name := "checkDepths", fn := fun _ => fun
  | [d1, d2] => { results := [.lit (.bool false)], args := [d1, d2] }
  | _ => none }
def CheckDepthsWrongFalsely : Prop := checkDepthsRow.holds Tryd.pinned (OpenSpec.ofChange checkDepthsWrong)

/-- 'gleanerlaw5.CheckEach': WHATEVER THE INPUT: true; the input reads as it did. -/
def checkEachSpec : ChangeSpec := { name := "checkEach", fn := fun _ => fun
  | [d1, d2] => { results := [.lit (.bool true)], args := [d1, d2] }
  | _ => none }
def checkEachRow : OpenClaim := { program := "ytfdgkeljnmamiaadoor", sum := "5aaaaac602651f509a8f8114c180f3f1b17d43ac6401cbef0861e18316c7135c", func := "gleaner/gleanerlaw5.CheckEach", spec := "checkEach", inPlace := ["internal/reflectlite.ValueOf", "(internal/reflectlite.Value).Type", "(internal/reflectlite.Value).IsNil", "internal/reflectlite.TypeOf", "(internal/reflectlite.Value).Elem", "(internal/reflectlite.Value).Set"], unfollowed := true, recurses := true, named := ["errors.errorType", "gleaner/code.kinds"], apart := false, laid := [("gleaner/code.kinds", laid_gleaner_code_kinds), ("errors.errorType", laid_errors_errorType)] }
def CheckEachSaid : Prop := checkEachRow.holds Tryd.pinned (OpenSpec.ofChange checkEachSpec)

/-- ITS FALSE NEIGHBOUR: 'it returns false'. Refute it at one input. -/
def checkEachWrong : ChangeSpec := { name := "checkEach", fn := fun _ => fun
  | [d1, d2] => { results := [.lit (.bool false)], args := [d1, d2] }
  | _ => none }
def CheckEachWrongFalsely : Prop := checkEachRow.holds Tryd.pinned (OpenSpec.ofChange checkEachWrong)

/-- 'gleanerlaw5.CheckTall': WHATEVER THE INPUT: true; the input reads as it did. -/
def checkTallSpec : ChangeSpec := { name := "checkTall", fn := fun _ => fun
  | [d] => { results := [.lit (.bool true)], args := [d] }
  | _ => none }
def checkTallRow : OpenClaim := { program := "ytfdgkeljnmamiaadoor", sum := "5aaaaac602651f509a8f8114c180f3f1b17d43ac6401cbef0861e18316c7135c", func := "gleaner/gleanerlaw5.CheckTall", spec := "checkTall", inPlace := ["internal/reflectlite.ValueOf", "(internal/reflectlite.Value).Type", "(internal/reflectlite.Value).IsNil", "internal/reflectlite.TypeOf", "(internal/reflectlite.Value).Elem", "(internal/reflectlite.Value).Set"], unfollowed := true, recurses := true, named := ["errors.errorType", "gleaner/code.kinds"], apart := false, laid := [("gleaner/code.kinds", laid_gleaner_code_kinds), ("errors.errorType", laid_errors_errorType)] }
def CheckTallSaid : Prop := checkTallRow.holds Tryd.pinned (OpenSpec.ofChange checkTallSpec)

/-- ITS FALSE NEIGHBOUR: 'it returns false'. Refute it at one input. -/
def checkTallWrong : ChangeSpec := { name := "checkTall", fn := fun _ => fun
  | [d] => { results := [.lit (.bool false)], args := [d] }
  | _ => none }
def CheckTallWrongFalsely : Prop := checkTallRow.holds Tryd.pinned (OpenSpec.ofChange checkTallWrong)

/-- 'gleanerlaw5.CheckMeets': WHATEVER THE INPUT: true; the input reads as it did. -/
def checkMeetsSpec : ChangeSpec := { name := "checkMeets", fn := fun _ => fun
  | [d1, d2] => { results := [.lit (.bool true)], args := [d1, d2] }
  | _ => none }
def checkMeetsRow : OpenClaim := { program := "ytfdgkeljnmamiaadoor", sum := "5aaaaac602651f509a8f8114c180f3f1b17d43ac6401cbef0861e18316c7135c", func := "gleaner/gleanerlaw5.CheckMeets", spec := "checkMeets", inPlace := ["internal/reflectlite.ValueOf", "(internal/reflectlite.Value).Type", "(internal/reflectlite.Value).IsNil", "internal/reflectlite.TypeOf", "(internal/reflectlite.Value).Elem", "(internal/reflectlite.Value).Set"], unfollowed := true, recurses := true, named := ["errors.errorType", "gleaner/code.kinds"], apart := false, laid := [("gleaner/code.kinds", laid_gleaner_code_kinds), ("errors.errorType", laid_errors_errorType)] }
def CheckMeetsSaid : Prop := checkMeetsRow.holds Tryd.pinned (OpenSpec.ofChange checkMeetsSpec)

/-- ITS FALSE NEIGHBOUR: 'it returns false'. Refute it at one input. -/
def checkMeetsWrong : ChangeSpec := { name := "checkMeets", fn := fun _ => fun
  | [d1, d2] => { results := [.lit (.bool false)], args := [d1, d2] }
  | _ => none }
def CheckMeetsWrongFalsely : Prop := checkMeetsRow.holds Tryd.pinned (OpenSpec.ofChange checkMeetsWrong)

/-- 'gleanerlaw5.CheckDead': WHATEVER THE INPUT: true; the input reads as it did. -/
def checkDeadSpec : ChangeSpec := { name := "checkDead", fn := fun _ => fun
  | [d] => { results := [.lit (.bool true)], args := [d] }
  | _ => none }
def checkDeadRow : OpenClaim := { program := "ytfdgkeljnmamiaadoor", sum := "5aaaaac602651f509a8f8114c180f3f1b17d43ac6401cbef0861e18316c7135c", func := "gleaner/gleanerlaw5.CheckDead", spec := "checkDead", inPlace := ["internal/reflectlite.ValueOf", "(internal/reflectlite.Value).Type", "(internal/reflectlite.Value).IsNil", "internal/reflectlite.TypeOf", "(internal/reflectlite.Value).Elem", "(internal/reflectlite.Value).Set"], unfollowed := true, recurses := true, named := ["errors.errorType", "gleaner/code.kinds"], apart := false, laid := [("gleaner/code.kinds", laid_gleaner_code_kinds), ("errors.errorType", laid_errors_errorType)] }
def CheckDeadSaid : Prop := checkDeadRow.holds Tryd.pinned (OpenSpec.ofChange checkDeadSpec)

/-- ITS FALSE NEIGHBOUR: 'it returns false'. Refute it at one input. -/
def checkDeadWrong : ChangeSpec := { name := "checkDead", fn := fun _ => fun
  | [d] => { results := [.lit (.bool false)], args := [d] }
  | _ => none }
def CheckDeadWrongFalsely : Prop := checkDeadRow.holds Tryd.pinned (OpenSpec.ofChange checkDeadWrong)

/- THE SECOND FORM. 'bulk': how many values and letters a reading holds, each counted each time it is reached (what is shared counts as often as it is met; a slice's spare places count too). A statement '..UptoSaid' is the law's where the arguments, and the package variables that the reading takes, are together of bulk at most 1048576: NARROWER than '..Said'. Prove '..Said' where nothing that the law and all that it calls make is longer than what came in: it says more and counts as full. Else prove '..UptoSaid'. A law counts once. -/
mutual
def uptoBulk {H : Type} : DataW H → Nat
  | .lit (.string bytes) => bytes.length + 1
  | .lit _ => 1
  | .nil => 1
  | .ptr d => uptoBulk d + 1
  | .slice elems spare => uptoBulkAll elems + uptoBulkAll spare + 1
  | .agg parts => uptoBulkAll parts + 1
  | .iface _ d => uptoBulk d + 1
  | .map entries => uptoBulkEntries entries + 1
  | .held _ => 1
def uptoBulkAll {H : Type} : List (DataW H) → Nat
  | [] => 0
  | d :: r => uptoBulk d + uptoBulkAll r
def uptoBulkEntries {H : Type} : List (Lit × DataW H) → Nat
  | [] => 0
  | x :: r => uptoBulkEntry x + uptoBulkEntries r
def uptoBulkEntry {H : Type} : Lit × DataW H → Nat
  | (.string bytes, d) => bytes.length + uptoBulk d + 1
  | (_, d) => uptoBulk d + 1
 end
def uptoSmall : (H : Type) → List (DataW H) → Bool := fun _ ds => decide (uptoBulkAll ds ≤ 1048576)
def OpenSpec.upto (s : _root_.Go.ChangeSpec) : _root_.Go.OpenSpec := { _root_.Go.OpenSpec.ofChange s with cond := some uptoSmall }

/-- 'gleanerlaw5.CheckChecks', WHERE WHAT IT READS IS OF BULK AT MOST 1048576: true; the input reads as it did. -/
def checkChecksUptoRow : OpenClaim := { program := "ytfdgkeljnmamiaadoor", sum := "5aaaaac602651f509a8f8114c180f3f1b17d43ac6401cbef0861e18316c7135c", func := "gleaner/gleanerlaw5.CheckChecks", spec := "checkChecks", inPlace := ["internal/reflectlite.ValueOf", "(internal/reflectlite.Value).Type", "(internal/reflectlite.Value).IsNil", "internal/reflectlite.TypeOf", "(internal/reflectlite.Value).Elem", "(internal/reflectlite.Value).Set"], unfollowed := true, recurses := true, named := ["errors.errorType", "gleaner/code.kinds"], apart := false, laid := [("gleaner/code.kinds", laid_gleaner_code_kinds), ("errors.errorType", laid_errors_errorType)], narrowed := true }
def CheckChecksUptoSaid : Prop := checkChecksUptoRow.holds Tryd.pinned (OpenSpec.upto checkChecksSpec)

/-- 'gleanerlaw5.CheckDepths', WHERE WHAT IT READS IS OF BULK AT MOST 1048576: true; the input reads as it did. -/
def checkDepthsUptoRow : OpenClaim := { program := "ytfdgkeljnmamiaadoor", sum := "5aaaaac602651f509a8f8114c180f3f1b17d43ac6401cbef0861e18316c7135c", func := "gleaner/gleanerlaw5.CheckDepths", spec := "checkDepths", inPlace := ["internal/reflectlite.ValueOf", "(internal/reflectlite.Value).Type", "(internal/reflectlite.Value).IsNil", "internal/reflectlite.TypeOf", "(internal/reflectlite.Value).Elem", "(internal/reflectlite.Value).Set"], unfollowed := true, recurses := true, named := ["errors.errorType", "gleaner/code.kinds"], apart := false, laid := [("gleaner/code.kinds", laid_gleaner_code_kinds), ("errors.errorType", laid_errors_errorType)], narrowed := true }
def CheckDepthsUptoSaid : Prop := checkDepthsUptoRow.holds Tryd.pinned (OpenSpec.upto checkDepthsSpec)

/-- 'gleanerlaw5.CheckEach', WHERE WHAT IT READS IS OF BULK AT MOST 1048576: true; the input reads as it did. -/
def checkEachUptoRow : OpenClaim := { program := "ytfdgkeljnmamiaadoor", sum := "5aaaaac602651f509a8f8114c180f3f1b17d43ac6401cbef0861e18316c7135c", func := "gleaner/gleanerlaw5.CheckEach", spec := "checkEach", inPlace := ["internal/reflectlite.ValueOf", "(internal/reflectlite.Value).Type", "(internal/reflectlite.Value).IsNil", "internal/reflectlite.TypeOf", "(internal/reflectlite.Value).Elem", "(internal/reflectlite.Value).Set"], unfollowed := true, recurses := true, named := ["errors.errorType", "gleaner/code.kinds"], apart := false, laid := [("gleaner/code.kinds", laid_gleaner_code_kinds), ("errors.errorType", laid_errors_errorType)], narrowed := true }
def CheckEachUptoSaid : Prop := checkEachUptoRow.holds Tryd.pinned (OpenSpec.upto checkEachSpec)

/-- 'gleanerlaw5.CheckTall', WHERE WHAT IT READS IS OF BULK AT MOST 1048576: true; the input reads as it did. -/
def checkTallUptoRow : OpenClaim := { program := "ytfdgkeljnmamiaadoor", sum := "5aaaaac602651f509a8f8114c180f3f1b17d43ac6401cbef0861e18316c7135c", func := "gleaner/gleanerlaw5.CheckTall", spec := "checkTall", inPlace := ["internal/reflectlite.ValueOf", "(internal/reflectlite.Value).Type", "(internal/reflectlite.Value).IsNil", "internal/reflectlite.TypeOf", "(internal/reflectlite.Value).Elem", "(internal/reflectlite.Value).Set"], unfollowed := true, recurses := true, named := ["errors.errorType", "gleaner/code.kinds"], apart := false, laid := [("gleaner/code.kinds", laid_gleaner_code_kinds), ("errors.errorType", laid_errors_errorType)], narrowed := true }
def CheckTallUptoSaid : Prop := checkTallUptoRow.holds Tryd.pinned (OpenSpec.upto checkTallSpec)

/-- 'gleanerlaw5.CheckMeets', WHERE WHAT IT READS IS OF BULK AT MOST 1048576: true; the input reads as it did. -/
def checkMeetsUptoRow : OpenClaim := { program := "ytfdgkeljnmamiaadoor", sum := "5aaaaac602651f509a8f8114c180f3f1b17d43ac6401cbef0861e18316c7135c", func := "gleaner/gleanerlaw5.CheckMeets", spec := "checkMeets", inPlace := ["internal/reflectlite.ValueOf", "(internal/reflectlite.Value).Type", "(internal/reflectlite.Value).IsNil", "internal/reflectlite.TypeOf", "(internal/reflectlite.Value).Elem", "(internal/reflectlite.Value).Set"], unfollowed := true, recurses := true, named := ["errors.errorType", "gleaner/code.kinds"], apart := false, laid := [("gleaner/code.kinds", laid_gleaner_code_kinds), ("errors.errorType", laid_errors_errorType)], narrowed := true }
def CheckMeetsUptoSaid : Prop := checkMeetsUptoRow.holds Tryd.pinned (OpenSpec.upto checkMeetsSpec)

/-- 'gleanerlaw5.CheckDead', WHERE WHAT IT READS IS OF BULK AT MOST 1048576: true; the input reads as it did. -/
def checkDeadUptoRow : OpenClaim := { program := "ytfdgkeljnmamiaadoor", sum := "5aaaaac602651f509a8f8114c180f3f1b17d43ac6401cbef0861e18316c7135c", func := "gleaner/gleanerlaw5.CheckDead", spec := "checkDead", inPlace := ["internal/reflectlite.ValueOf", "(internal/reflectlite.Value).Type", "(internal/reflectlite.Value).IsNil", "internal/reflectlite.TypeOf", "(internal/reflectlite.Value).Elem", "(internal/reflectlite.Value).Set"], unfollowed := true, recurses := true, named := ["errors.errorType", "gleaner/code.kinds"], apart := false, laid := [("gleaner/code.kinds", laid_gleaner_code_kinds), ("errors.errorType", laid_errors_errorType)], narrowed := true }
def CheckDeadUptoSaid : Prop := checkDeadUptoRow.holds Tryd.pinned (OpenSpec.upto checkDeadSpec)

end Rows
end Go.Proofs.YtfdgkeljnmamiaaDoor
