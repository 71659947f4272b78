/-
  NARROWER THAN 'FOR EVERY INPUT', by the rows' own cells (each row's printed sentence says how): TaskCuts: laid · TaskRuns: laid · TaskResumes: laid.
  DERIVED. THE GIVEN ROWS OF THIS SEAT. 3 by the template 'for every input the law returns true; each argument reads behind the call as it read before'; 0 by the template 'total and deterministic' (their statements: YtnkfdpnommjlcaaGreatDoorTotals.lean).
  GIVEN WITH THE SEED: the statements are not yours to turn. If you find one false, say at which input.
  Laid BY PROGRAM, IN A SANDBOX (cutbox-rows.mjs): the forced cells as the released guide's own fill.sh prints them over the translation e7823b8d94e34d3c… (all of the seat's roots in one cut). By AI agents, Wed Nov 11 2026. No macro, syntax, notation, axiom, sorry.
-/
import Derived.Test.YtnkfdpnommjlcaaGreatDoorChecked
import GoSem.Claim
import GoSem.ClaimJoined
import GoSem.ClaimMapViews
import Derived.JoinedTies
import Derived.KernelRfl
namespace Go.Proofs.YtnkfdpnommjlcaaGreatDoor
/- THE CELL 'sum', in the pinned program and in every row, IS THE sha256 OF THE DUMP (.gsa) THAT YtnkfdpnommjlcaaGreatDoorProg.lean LOADS. Nothing in Lean hashes anything: it is a label: what it is worth is what the hold of that sum in a sandbox is worth. -/
noncomputable def Tryz.pinned : Pinned := { name := "ytnkfdpnommjlcaagreatdoor", sum := "e7823b8d94e34d3ca1eef35405e3f97d08a1311ca24240e8b3314f71f126d001", checked := Tryz.checked }
namespace Rows
def none {H : Type} : Left H := { results := [], args := [] }

/- WHAT THE LISTED PACKAGE-LEVEL VARIABLES READ AS WHEN THE CALL BEGINS. Each datum BY PROGRAM (the guide's laid-datum.mjs) off the statement by which the dump's own 'gosem.cut.vars' lays the variable. In a bare row this is a premise. The card (YtnkfdpnommjlcaaGreatDoorCards.lean) ties it to the program's text. -/
def laid_gleaner_code_kinds {H : Type} : DataW H := .agg [.agg [.lit (.string []), .lit (.bool false), .lit (.int .i64 0), .lit (.int .i64 0)], .agg [.lit (.string [112, 117, 115, 104]), .lit (.bool true), .lit (.int .i64 0), .lit (.int .i64 1)], .agg [.lit (.string [112, 111, 112]), .lit (.bool false), .lit (.int .i64 1), .lit (.int .i64 0)], .agg [.lit (.string [100, 117, 112]), .lit (.bool false), .lit (.int .i64 1), .lit (.int .i64 2)], .agg [.lit (.string [115, 119, 97, 112]), .lit (.bool false), .lit (.int .i64 2), .lit (.int .i64 2)], .agg [.lit (.string [108, 111, 97, 100]), .lit (.bool true), .lit (.int .i64 0), .lit (.int .i64 1)], .agg [.lit (.string [115, 116, 111, 114, 101]), .lit (.bool true), .lit (.int .i64 1), .lit (.int .i64 0)], .agg [.lit (.string [97, 100, 100]), .lit (.bool false), .lit (.int .i64 2), .lit (.int .i64 1)], .agg [.lit (.string [115, 117, 98]), .lit (.bool false), .lit (.int .i64 2), .lit (.int .i64 1)], .agg [.lit (.string [109, 117, 108]), .lit (.bool false), .lit (.int .i64 2), .lit (.int .i64 1)], .agg [.lit (.string [100, 105, 118]), .lit (.bool false), .lit (.int .i64 2), .lit (.int .i64 1)], .agg [.lit (.string [109, 111, 100]), .lit (.bool false), .lit (.int .i64 2), .lit (.int .i64 1)], .agg [.lit (.string [108, 116]), .lit (.bool false), .lit (.int .i64 2), .lit (.int .i64 1)], .agg [.lit (.string [101, 113]), .lit (.bool false), .lit (.int .i64 2), .lit (.int .i64 1)], .agg [.lit (.string [106, 117, 109, 112]), .lit (.bool true), .lit (.int .i64 0), .lit (.int .i64 0)], .agg [.lit (.string [122, 101, 114, 111]), .lit (.bool true), .lit (.int .i64 1), .lit (.int .i64 0)], .agg [.lit (.string [115, 112, 97, 119, 110]), .lit (.bool true), .lit (.int .i64 0), .lit (.int .i64 1)], .agg [.lit (.string [97, 119, 97, 105, 116]), .lit (.bool false), .lit (.int .i64 1), .lit (.int .i64 1)], .agg [.lit (.string [114, 101, 116]), .lit (.bool false), .lit (.int .i64 1), .lit (.int .i64 0)], .agg [.lit (.string [102, 97, 105, 108]), .lit (.bool false), .lit (.int .i64 1), .lit (.int .i64 0)]]
def laid_errors_errorType {H : Type} : DataW H := .iface "internal/reflectlite.rtype" (.agg [.ptr (.lit (.string [101, 114, 114, 111, 114]))])

/-- 'gleanerlaw6.TaskCuts': WHATEVER THE INPUT: true; the input reads as it did. -/
def taskCutsSpec : ChangeSpec := { name := "taskCuts", fn := fun _ => fun
  | [d1, d2, d3, d4] => { results := [.lit (.bool true)], args := [d1, d2, d3, d4] }
  | _ => none }
def taskCutsRow : OpenClaim := { program := "ytnkfdpnommjlcaagreatdoor", sum := "e7823b8d94e34d3ca1eef35405e3f97d08a1311ca24240e8b3314f71f126d001", func := "gleaner/gleanerlaw6.TaskCuts", spec := "taskCuts", inPlace := ["internal/reflectlite.ValueOf", "(internal/reflectlite.Value).Type", "(internal/reflectlite.Value).IsNil", "internal/reflectlite.TypeOf", "(internal/reflectlite.Value).Elem", "(internal/reflectlite.Value).Set"], unfollowed := true, recurses := true, named := ["errors.errorType", "gleaner/code.kinds"], apart := false, laid := [("gleaner/code.kinds", laid_gleaner_code_kinds), ("errors.errorType", laid_errors_errorType)] }
def TaskCutsSaid : Prop := taskCutsRow.holds Tryz.pinned (OpenSpec.ofChange taskCutsSpec)

/-- ITS FALSE NEIGHBOUR: 'it returns false'. Refute it at one input. -/
def taskCutsWrong : ChangeSpec := { name := "taskCuts", fn := fun _ => fun
  | [d1, d2, d3, d4] => { results := [.lit (.bool false)], args := [d1, d2, d3, d4] }
  | _ => none }
def TaskCutsWrongFalsely : Prop := taskCutsRow.holds Tryz.pinned (OpenSpec.ofChange taskCutsWrong)

/-- 'gleanerlaw6.TaskRuns': WHATEVER THE INPUT: true; the input reads as it did. -/
def taskRunsSpec : ChangeSpec := { name := "taskRuns", fn := fun _ => fun
  | [d1, d2, d3, d4] => { results := [.lit (.bool true)], args := [d1, d2, d3, d4] }
  | _ => none }
def taskRunsRow : OpenClaim := { program := "ytnkfdpnommjlcaagreatdoor", sum := "e7823b8d94e34d3ca1eef35405e3f97d08a1311ca24240e8b3314f71f126d001", func := "gleaner/gleanerlaw6.TaskRuns", spec := "taskRuns", inPlace := ["internal/reflectlite.ValueOf", "(internal/reflectlite.Value).Type", "(internal/reflectlite.Value).IsNil", "internal/reflectlite.TypeOf", "(internal/reflectlite.Value).Elem", "(internal/reflectlite.Value).Set"], unfollowed := true, recurses := true, named := ["errors.errorType", "gleaner/code.kinds"], apart := false, laid := [("gleaner/code.kinds", laid_gleaner_code_kinds), ("errors.errorType", laid_errors_errorType)] }
def TaskRunsSaid : Prop := taskRunsRow.holds Tryz.pinned (OpenSpec.ofChange taskRunsSpec)

/-- ITS FALSE NEIGHBOUR: 'it returns false'. Refute it at one input. -/
def taskRunsWrong : ChangeSpec := { name := "taskRuns", fn := fun _ => fun
  | [d1, d2, d3, d4] => { results := [.lit (.bool false)], args := [d1, d2, d3, d4] }
  | _ => none }
def TaskRunsWrongFalsely : Prop := taskRunsRow.holds Tryz.pinned (OpenSpec.ofChange taskRunsWrong)

/-- 'gleanerlaw6.TaskResumes': WHATEVER THE INPUT: true; the input reads as it did. -/
def taskResumesSpec : ChangeSpec := { name := "taskResumes", fn := fun _ => fun
  | [d1, d2, d3] => { results := [.lit (.bool true)], args := [d1, d2, d3] }
  | _ => none }
def taskResumesRow : OpenClaim := { program := "ytnkfdpnommjlcaagreatdoor", sum := "e7823b8d94e34d3ca1eef35405e3f97d08a1311ca24240e8b3314f71f126d001", func := "gleaner/gleanerlaw6.TaskResumes", spec := "taskResumes", inPlace := ["internal/reflectlite.ValueOf", "(internal/reflectlite.Value).Type", "(internal/reflectlite.Value).IsNil", "internal/reflectlite.TypeOf", "(internal/reflectlite.Value).Elem", "(internal/reflectlite.Value).Set"], unfollowed := true, recurses := true, named := ["errors.errorType", "gleaner/code.kinds"], apart := false, laid := [("gleaner/code.kinds", laid_gleaner_code_kinds), ("errors.errorType", laid_errors_errorType)] }
def TaskResumesSaid : Prop := taskResumesRow.holds Tryz.pinned (OpenSpec.ofChange taskResumesSpec)

/-- ITS FALSE NEIGHBOUR: 'it returns false'. Refute it at one input. -/
def taskResumesWrong : ChangeSpec := { name := "taskResumes", fn := fun _ => fun
  | [d1, d2, d3] => { results := [.lit (.bool false)], args := [d1, d2, d3] }
  | _ => none }
def TaskResumesWrongFalsely : Prop := taskResumesRow.holds Tryz.pinned (OpenSpec.ofChange taskResumesWrong)

/- THE SECOND FORM. 'bulk': how many values and letters a reading holds, each counted each time it is reached (what is shared counts as often as it is met; a slice's spare places count too). A statement '..UptoSaid' is the law's where the arguments, and the package variables that the reading takes, are together of bulk at most 1048576: NARROWER than '..Said'. Prove '..Said' where nothing that the law and all that it calls make is longer than what came in: it says more and counts as full. Else prove '..UptoSaid'. A law counts once. -/
mutual
def uptoBulk {H : Type} : DataW H → Nat
  | .lit (.string bytes) => bytes.length + 1
  | .lit _ => 1
  | .nil => 1
  | .ptr d => uptoBulk d + 1
  | .slice elems spare => uptoBulkAll elems + uptoBulkAll spare + 1
  | .agg parts => uptoBulkAll parts + 1
  | .iface _ d => uptoBulk d + 1
  | .map entries => uptoBulkEntries entries + 1
  | .held _ => 1
def uptoBulkAll {H : Type} : List (DataW H) → Nat
  | [] => 0
  | d :: r => uptoBulk d + uptoBulkAll r
def uptoBulkEntries {H : Type} : List (Lit × DataW H) → Nat
  | [] => 0
  | x :: r => uptoBulkEntry x + uptoBulkEntries r
def uptoBulkEntry {H : Type} : Lit × DataW H → Nat
  | (.string bytes, d) => bytes.length + uptoBulk d + 1
  | (_, d) => uptoBulk d + 1
 end
def uptoSmall : (H : Type) → List (DataW H) → Bool := fun _ ds => decide (uptoBulkAll ds ≤ 1048576)
def OpenSpec.upto (s : _root_.Go.ChangeSpec) : _root_.Go.OpenSpec := { _root_.Go.OpenSpec.ofChange s with cond := some uptoSmall }

/-- 'gleanerlaw6.TaskCuts', WHERE WHAT IT READS IS OF BULK AT MOST 1048576: true; the input reads as it did. -/
def taskCutsUptoRow : OpenClaim := { program := "ytnkfdpnommjlcaagreatdoor", sum := "e7823b8d94e34d3ca1eef35405e3f97d08a1311ca24240e8b3314f71f126d001", func := "gleaner/gleanerlaw6.TaskCuts", spec := "taskCuts", inPlace := ["internal/reflectlite.ValueOf", "(internal/reflectlite.Value).Type", "(internal/reflectlite.Value).IsNil", "internal/reflectlite.TypeOf", "(internal/reflectlite.Value).Elem", "(internal/reflectlite.Value).Set"], unfollowed := true, recurses := true, named := ["errors.errorType", "gleaner/code.kinds"], apart := false, laid := [("gleaner/code.kinds", laid_gleaner_code_kinds), ("errors.errorType", laid_errors_errorType)], narrowed := true }
def TaskCutsUptoSaid : Prop := taskCutsUptoRow.holds Tryz.pinned (OpenSpec.upto taskCutsSpec)

/-- 'gleanerlaw6.TaskRuns', WHERE WHAT IT READS IS OF BULK AT MOST 1048576: true; the input reads as it did. -/
def taskRunsUptoRow : OpenClaim := { program := "ytnkfdpnommjlcaagreatdoor", sum := "e7823b8d94e34d3ca1eef35405e3f97d08a1311ca24240e8b3314f71f126d001", func := "gleaner/gleanerlaw6.TaskRuns", spec := "taskRuns", inPlace := ["internal/reflectlite.ValueOf", "(internal/reflectlite.Value).Type", "(internal/reflectlite.Value).IsNil", "internal/reflectlite.TypeOf", "(internal/reflectlite.Value).Elem", "(internal/reflectlite.Value).Set"], unfollowed := true, recurses := true, named := ["errors.errorType", "gleaner/code.kinds"], apart := false, laid := [("gleaner/code.kinds", laid_gleaner_code_kinds), ("errors.errorType", laid_errors_errorType)], narrowed := true }
def TaskRunsUptoSaid : Prop := taskRunsUptoRow.holds Tryz.pinned (OpenSpec.upto taskRunsSpec)

/-- 'gleanerlaw6.TaskResumes', WHERE WHAT IT READS IS OF BULK AT MOST 1048576: true; the input reads as it did. -/
def taskResumesUptoRow : OpenClaim := { program := "ytnkfdpnommjlcaagreatdoor", sum := "e7823b8d94e34d3ca1eef35405e3f97d08a1311ca24240e8b3314f71f126d001", func := "gleaner/gleanerlaw6.TaskResumes", spec := "taskResumes", inPlace := ["internal/reflectlite.ValueOf", "(internal/reflectlite.Value).Type", "(internal/reflectlite.Value).IsNil", "internal/reflectlite.TypeOf", "(internal/reflectlite.Value).Elem", "(internal/reflectlite.Value).Set"], unfollowed := true, recurses := true, named := ["errors.errorType", "gleaner/code.kinds"], apart := false, laid := [("gleaner/code.kinds", laid_gleaner_code_kinds), ("errors.errorType", laid_errors_errorType)], narrowed := true }
def TaskResumesUptoSaid : Prop := taskResumesUptoRow.holds Tryz.pinned (OpenSpec.upto taskResumesSpec)

end Rows
end Go.Proofs.YtnkfdpnommjlcaaGreatDoor
