/-
  NARROWER THAN 'FOR EVERY INPUT', by the rows' own cells (each row's printed sentence says how): TaskSums: laid · TaskOps: laid · TaskSpawns: laid · TaskHandles: laid · TaskLocals: laid · TaskStacks: laid.
  DERIVED. THE GIVEN ROWS OF THIS SEAT. 6 by the template 'for every input the law returns true; each argument reads behind the call as it read before'; 0 by the template 'total and deterministic' (their statements: YtlhfjeohhfdccaaDoorTotals.lean).
  GIVEN WITH THE SEED: the statements are not yours to turn. If you find one false, say at which input.
  Laid BY PROGRAM, IN A SANDBOX (cutbox-rows.mjs): the forced cells as the released guide's own fill.sh prints them over the translation 8edff08eca40886a… (all of the seat's roots in one cut). By AI agents, Wed Nov 11 2026. No macro, syntax, notation, axiom, sorry.
-/
import Derived.Test.YtlhfjeohhfdccaaDoorChecked
import GoSem.Claim
import GoSem.ClaimJoined
import GoSem.ClaimMapViews
import Derived.JoinedTies
import Derived.KernelRfl
namespace Go.Proofs.YtlhfjeohhfdccaaDoor
/- THE CELL 'sum', in the pinned program and in every row, IS THE sha256 OF THE DUMP (.gsa) THAT YtlhfjeohhfdccaaDoorProg.lean LOADS. Nothing in Lean hashes anything: it is a label: what it is worth is what the hold of that sum in a sandbox is worth. -/
noncomputable def Tryd.pinned : Pinned := { name := "ytlhfjeohhfdccaadoor", sum := "8edff08eca40886a437b1e1c833023407bf3619c58d91a6af269bd95b00a98f2", checked := Tryd.checked }
namespace Rows
def none {H : Type} : Left H := { results := [], args := [] }

/- WHAT THE LISTED PACKAGE-LEVEL VARIABLES READ AS WHEN THE CALL BEGINS. Each datum BY PROGRAM (the guide's laid-datum.mjs) off the statement by which the dump's own 'gosem.cut.vars' lays the variable. In a bare row this is a premise. The card (YtlhfjeohhfdccaaDoorCards.lean) ties it to the program's text. -/
def laid_gleaner_code_kinds {H : Type} : DataW H := .agg [.agg [.lit (.string []), .lit (.bool false), .lit (.int .i64 0), .lit (.int .i64 0)], .agg [.lit (.string [112, 117, 115, 104]), .lit (.bool true), .lit (.int .i64 0), .lit (.int .i64 1)], .agg [.lit (.string [112, 111, 112]), .lit (.bool false), .lit (.int .i64 1), .lit (.int .i64 0)], .agg [.lit (.string [100, 117, 112]), .lit (.bool false), .lit (.int .i64 1), .lit (.int .i64 2)], .agg [.lit (.string [115, 119, 97, 112]), .lit (.bool false), .lit (.int .i64 2), .lit (.int .i64 2)], .agg [.lit (.string [108, 111, 97, 100]), .lit (.bool true), .lit (.int .i64 0), .lit (.int .i64 1)], .agg [.lit (.string [115, 116, 111, 114, 101]), .lit (.bool true), .lit (.int .i64 1), .lit (.int .i64 0)], .agg [.lit (.string [97, 100, 100]), .lit (.bool false), .lit (.int .i64 2), .lit (.int .i64 1)], .agg [.lit (.string [115, 117, 98]), .lit (.bool false), .lit (.int .i64 2), .lit (.int .i64 1)], .agg [.lit (.string [109, 117, 108]), .lit (.bool false), .lit (.int .i64 2), .lit (.int .i64 1)], .agg [.lit (.string [100, 105, 118]), .lit (.bool false), .lit (.int .i64 2), .lit (.int .i64 1)], .agg [.lit (.string [109, 111, 100]), .lit (.bool false), .lit (.int .i64 2), .lit (.int .i64 1)], .agg [.lit (.string [108, 116]), .lit (.bool false), .lit (.int .i64 2), .lit (.int .i64 1)], .agg [.lit (.string [101, 113]), .lit (.bool false), .lit (.int .i64 2), .lit (.int .i64 1)], .agg [.lit (.string [106, 117, 109, 112]), .lit (.bool true), .lit (.int .i64 0), .lit (.int .i64 0)], .agg [.lit (.string [122, 101, 114, 111]), .lit (.bool true), .lit (.int .i64 1), .lit (.int .i64 0)], .agg [.lit (.string [115, 112, 97, 119, 110]), .lit (.bool true), .lit (.int .i64 0), .lit (.int .i64 1)], .agg [.lit (.string [97, 119, 97, 105, 116]), .lit (.bool false), .lit (.int .i64 1), .lit (.int .i64 1)], .agg [.lit (.string [114, 101, 116]), .lit (.bool false), .lit (.int .i64 1), .lit (.int .i64 0)], .agg [.lit (.string [102, 97, 105, 108]), .lit (.bool false), .lit (.int .i64 1), .lit (.int .i64 0)]]
def laid_errors_errorType {H : Type} : DataW H := .iface "internal/reflectlite.rtype" (.agg [.ptr (.lit (.string [101, 114, 114, 111, 114]))])

/-- 'gleanerlaw6.TaskSums': WHATEVER THE INPUT: true; the input reads as it did. -/
def taskSumsSpec : ChangeSpec := { name := "taskSums", fn := fun _ => fun
  | [d1, d2] => { results := [.lit (.bool true)], args := [d1, d2] }
  | _ => none }
def taskSumsRow : OpenClaim := { program := "ytlhfjeohhfdccaadoor", sum := "8edff08eca40886a437b1e1c833023407bf3619c58d91a6af269bd95b00a98f2", func := "gleaner/gleanerlaw6.TaskSums", spec := "taskSums", inPlace := ["internal/reflectlite.ValueOf", "(internal/reflectlite.Value).Type", "(internal/reflectlite.Value).IsNil", "internal/reflectlite.TypeOf", "(internal/reflectlite.Value).Elem", "(internal/reflectlite.Value).Set"], unfollowed := true, recurses := true, named := ["errors.errorType", "gleaner/code.kinds"], apart := false, laid := [("gleaner/code.kinds", laid_gleaner_code_kinds), ("errors.errorType", laid_errors_errorType)] }
def TaskSumsSaid : Prop := taskSumsRow.holds Tryd.pinned (OpenSpec.ofChange taskSumsSpec)

/-- ITS FALSE NEIGHBOUR: 'it returns false'. Refute it at one input. -/
def taskSumsWrong : ChangeSpec := { name := "taskSums", fn := fun _ => fun
  | [d1, d2] => { results := [.lit (.bool false)], args := [d1, d2] }
  | _ => none }
def TaskSumsWrongFalsely : Prop := taskSumsRow.holds Tryd.pinned (OpenSpec.ofChange taskSumsWrong)

/-- 'gleanerlaw6.TaskOps': WHATEVER THE INPUT: true; the input reads as it did. -/
def taskOpsSpec : ChangeSpec := { name := "taskOps", fn := fun _ => fun
  | [d1, d2, d3] => { results := [.lit (.bool true)], args := [d1, d2, d3] }
  | _ => none }
def taskOpsRow : OpenClaim := { program := "ytlhfjeohhfdccaadoor", sum := "8edff08eca40886a437b1e1c833023407bf3619c58d91a6af269bd95b00a98f2", func := "gleaner/gleanerlaw6.TaskOps", spec := "taskOps", inPlace := ["internal/reflectlite.ValueOf", "(internal/reflectlite.Value).Type", "(internal/reflectlite.Value).IsNil", "internal/reflectlite.TypeOf", "(internal/reflectlite.Value).Elem", "(internal/reflectlite.Value).Set"], unfollowed := true, recurses := true, named := ["errors.errorType", "gleaner/code.kinds"], apart := false, laid := [("gleaner/code.kinds", laid_gleaner_code_kinds), ("errors.errorType", laid_errors_errorType)] }
def TaskOpsSaid : Prop := taskOpsRow.holds Tryd.pinned (OpenSpec.ofChange taskOpsSpec)

/-- ITS FALSE NEIGHBOUR: 'it returns false'. Refute it at one input. -/
def taskOpsWrong : ChangeSpec := { name := "taskOps", fn := fun _ => fun
  | [d1, d2, d3] => { results := [.lit (.bool false)], args := [d1, d2, d3] }
  | _ => none }
def TaskOpsWrongFalsely : Prop := taskOpsRow.holds Tryd.pinned (OpenSpec.ofChange taskOpsWrong)

/-- 'gleanerlaw6.TaskSpawns': WHATEVER THE INPUT: true; the input reads as it did. -/
def taskSpawnsSpec : ChangeSpec := { name := "taskSpawns", fn := fun _ => fun
  | [d1, d2, d3] => { results := [.lit (.bool true)], args := [d1, d2, d3] }
  | _ => none }
def taskSpawnsRow : OpenClaim := { program := "ytlhfjeohhfdccaadoor", sum := "8edff08eca40886a437b1e1c833023407bf3619c58d91a6af269bd95b00a98f2", func := "gleaner/gleanerlaw6.TaskSpawns", spec := "taskSpawns", inPlace := ["internal/reflectlite.ValueOf", "(internal/reflectlite.Value).Type", "(internal/reflectlite.Value).IsNil", "internal/reflectlite.TypeOf", "(internal/reflectlite.Value).Elem", "(internal/reflectlite.Value).Set"], unfollowed := true, recurses := true, named := ["errors.errorType", "gleaner/code.kinds"], apart := false, laid := [("gleaner/code.kinds", laid_gleaner_code_kinds), ("errors.errorType", laid_errors_errorType)] }
def TaskSpawnsSaid : Prop := taskSpawnsRow.holds Tryd.pinned (OpenSpec.ofChange taskSpawnsSpec)

/-- ITS FALSE NEIGHBOUR: 'it returns false'. Refute it at one input. -/
def taskSpawnsWrong : ChangeSpec := { name := "taskSpawns", fn := fun _ => fun
  | [d1, d2, d3] => { results := [.lit (.bool false)], args := [d1, d2, d3] }
  | _ => none }
def TaskSpawnsWrongFalsely : Prop := taskSpawnsRow.holds Tryd.pinned (OpenSpec.ofChange taskSpawnsWrong)

/-- 'gleanerlaw6.TaskHandles': WHATEVER THE INPUT: true; the input reads as it did. -/
def taskHandlesSpec : ChangeSpec := { name := "taskHandles", fn := fun _ => fun
  | [d1, d2] => { results := [.lit (.bool true)], args := [d1, d2] }
  | _ => none }
def taskHandlesRow : OpenClaim := { program := "ytlhfjeohhfdccaadoor", sum := "8edff08eca40886a437b1e1c833023407bf3619c58d91a6af269bd95b00a98f2", func := "gleaner/gleanerlaw6.TaskHandles", spec := "taskHandles", inPlace := ["internal/reflectlite.ValueOf", "(internal/reflectlite.Value).Type", "(internal/reflectlite.Value).IsNil", "internal/reflectlite.TypeOf", "(internal/reflectlite.Value).Elem", "(internal/reflectlite.Value).Set"], unfollowed := true, recurses := true, named := ["errors.errorType", "gleaner/code.kinds"], apart := false, laid := [("gleaner/code.kinds", laid_gleaner_code_kinds), ("errors.errorType", laid_errors_errorType)] }
def TaskHandlesSaid : Prop := taskHandlesRow.holds Tryd.pinned (OpenSpec.ofChange taskHandlesSpec)

/-- ITS FALSE NEIGHBOUR: 'it returns false'. Refute it at one input. -/
def taskHandlesWrong : ChangeSpec := { name := "taskHandles", fn := fun _ => fun
  | [d1, d2] => { results := [.lit (.bool false)], args := [d1, d2] }
  | _ => none }
def TaskHandlesWrongFalsely : Prop := taskHandlesRow.holds Tryd.pinned (OpenSpec.ofChange taskHandlesWrong)

/-- 'gleanerlaw6.TaskLocals': WHATEVER THE INPUT: true; the input reads as it did. -/
def taskLocalsSpec : ChangeSpec := { name := "taskLocals", fn := fun _ => fun
  | [d1, d2, d3, d4] => { results := [.lit (.bool true)], args := [d1, d2, d3, d4] }
  | _ => none }
def taskLocalsRow : OpenClaim := { program := "ytlhfjeohhfdccaadoor", sum := "8edff08eca40886a437b1e1c833023407bf3619c58d91a6af269bd95b00a98f2", func := "gleaner/gleanerlaw6.TaskLocals", spec := "taskLocals", inPlace := ["internal/reflectlite.ValueOf", "(internal/reflectlite.Value).Type", "(internal/reflectlite.Value).IsNil", "internal/reflectlite.TypeOf", "(internal/reflectlite.Value).Elem", "(internal/reflectlite.Value).Set"], unfollowed := true, recurses := true, named := ["errors.errorType", "gleaner/code.kinds"], apart := false, laid := [("gleaner/code.kinds", laid_gleaner_code_kinds), ("errors.errorType", laid_errors_errorType)] }
def TaskLocalsSaid : Prop := taskLocalsRow.holds Tryd.pinned (OpenSpec.ofChange taskLocalsSpec)

/-- ITS FALSE NEIGHBOUR: 'it returns false'. Refute it at one input. -/
def taskLocalsWrong : ChangeSpec := { name := "taskLocals", fn := fun _ => fun
  | [d1, d2, d3, d4] => { results := [.lit (.bool false)], args := [d1, d2, d3, d4] }
  | _ => none }
def TaskLocalsWrongFalsely : Prop := taskLocalsRow.holds Tryd.pinned (OpenSpec.ofChange taskLocalsWrong)

/-- 'gleanerlaw6.TaskStacks': WHATEVER THE INPUT: true; the input reads as it did. -/
def taskStacksSpec : ChangeSpec := { name := "taskStacks", fn := fun _ => fun
  | [d1, d2, d3] => { results := [.lit (.bool true)], args := [d1, d2, d3] }
  | _ => none }
def taskStacksRow : OpenClaim := { program := "ytlhfjeohhfdccaadoor", sum := "8edff08eca40886a437b1e1c833023407bf3619c58d91a6af269bd95b00a98f2", func := "gleaner/gleanerlaw6.TaskStacks", spec := "taskStacks", inPlace := ["internal/reflectlite.ValueOf", "(internal/reflectlite.Value).Type", "(internal/reflectlite.Value).IsNil", "internal/reflectlite.TypeOf", "(internal/reflectlite.Value).Elem", "(internal/reflectlite.Value).Set"], unfollowed := true, recurses := true, named := ["errors.errorType", "gleaner/code.kinds"], apart := false, laid := [("gleaner/code.kinds", laid_gleaner_code_kinds), ("errors.errorType", laid_errors_errorType)] }
def TaskStacksSaid : Prop := taskStacksRow.holds Tryd.pinned (OpenSpec.ofChange taskStacksSpec)

/-- ITS FALSE NEIGHBOUR: 'it returns false'. Refute it at one input. -/
def taskStacksWrong : ChangeSpec := { name := "taskStacks", fn := fun _ => fun
  | [d1, d2, d3] => { results := [.lit (.bool false)], args := [d1, d2, d3] }
  | _ => none }
def TaskStacksWrongFalsely : Prop := taskStacksRow.holds Tryd.pinned (OpenSpec.ofChange taskStacksWrong)

/- THE SECOND FORM. 'bulk': how many values and letters a reading holds, each counted each time it is reached (what is shared counts as often as it is met; a slice's spare places count too). A statement '..UptoSaid' is the law's where the arguments, and the package variables that the reading takes, are together of bulk at most 1048576: NARROWER than '..Said'. Prove '..Said' where nothing that the law and all that it calls make is longer than what came in: it says more and counts as full. Else prove '..UptoSaid'. A law counts once. -/
mutual
def uptoBulk {H : Type} : DataW H → Nat
  | .lit (.string bytes) => bytes.length + 1
  | .lit _ => 1
  | .nil => 1
  | .ptr d => uptoBulk d + 1
  | .slice elems spare => uptoBulkAll elems + uptoBulkAll spare + 1
  | .agg parts => uptoBulkAll parts + 1
  | .iface _ d => uptoBulk d + 1
  | .map entries => uptoBulkEntries entries + 1
  | .held _ => 1
def uptoBulkAll {H : Type} : List (DataW H) → Nat
  | [] => 0
  | d :: r => uptoBulk d + uptoBulkAll r
def uptoBulkEntries {H : Type} : List (Lit × DataW H) → Nat
  | [] => 0
  | x :: r => uptoBulkEntry x + uptoBulkEntries r
def uptoBulkEntry {H : Type} : Lit × DataW H → Nat
  | (.string bytes, d) => bytes.length + uptoBulk d + 1
  | (_, d) => uptoBulk d + 1
 end
def uptoSmall : (H : Type) → List (DataW H) → Bool := fun _ ds => decide (uptoBulkAll ds ≤ 1048576)
def OpenSpec.upto (s : _root_.Go.ChangeSpec) : _root_.Go.OpenSpec := { _root_.Go.OpenSpec.ofChange s with cond := some uptoSmall }

/-- 'gleanerlaw6.TaskSums', WHERE WHAT IT READS IS OF BULK AT MOST 1048576: true; the input reads as it did. -/
def taskSumsUptoRow : OpenClaim := { program := "ytlhfjeohhfdccaadoor", sum := "8edff08eca40886a437b1e1c833023407bf3619c58d91a6af269bd95b00a98f2", func := "gleaner/gleanerlaw6.TaskSums", spec := "taskSums", inPlace := ["internal/reflectlite.ValueOf", "(internal/reflectlite.Value).Type", "(internal/reflectlite.Value).IsNil", "internal/reflectlite.TypeOf", "(internal/reflectlite.Value).Elem", "(internal/reflectlite.Value).Set"], unfollowed := true, recurses := true, named := ["errors.errorType", "gleaner/code.kinds"], apart := false, laid := [("gleaner/code.kinds", laid_gleaner_code_kinds), ("errors.errorType", laid_errors_errorType)], narrowed := true }
def TaskSumsUptoSaid : Prop := taskSumsUptoRow.holds Tryd.pinned (OpenSpec.upto taskSumsSpec)

/-- 'gleanerlaw6.TaskOps', WHERE WHAT IT READS IS OF BULK AT MOST 1048576: true; the input reads as it did. -/
def taskOpsUptoRow : OpenClaim := { program := "ytlhfjeohhfdccaadoor", sum := "8edff08eca40886a437b1e1c833023407bf3619c58d91a6af269bd95b00a98f2", func := "gleaner/gleanerlaw6.TaskOps", spec := "taskOps", inPlace := ["internal/reflectlite.ValueOf", "(internal/reflectlite.Value).Type", "(internal/reflectlite.Value).IsNil", "internal/reflectlite.TypeOf", "(internal/reflectlite.Value).Elem", "(internal/reflectlite.Value).Set"], unfollowed := true, recurses := true, named := ["errors.errorType", "gleaner/code.kinds"], apart := false, laid := [("gleaner/code.kinds", laid_gleaner_code_kinds), ("errors.errorType", laid_errors_errorType)], narrowed := true }
def TaskOpsUptoSaid : Prop := taskOpsUptoRow.holds Tryd.pinned (OpenSpec.upto taskOpsSpec)

/-- 'gleanerlaw6.TaskSpawns', WHERE WHAT IT READS IS OF BULK AT MOST 1048576: true; the input reads as it did. -/
def taskSpawnsUptoRow : OpenClaim := { program := "ytlhfjeohhfdccaadoor", sum := "8edff08eca40886a437b1e1c833023407bf3619c58d91a6af269bd95b00a98f2", func := "gleaner/gleanerlaw6.TaskSpawns", spec := "taskSpawns", inPlace := ["internal/reflectlite.ValueOf", "(internal/reflectlite.Value).Type", "(internal/reflectlite.Value).IsNil", "internal/reflectlite.TypeOf", "(internal/reflectlite.Value).Elem", "(internal/reflectlite.Value).Set"], unfollowed := true, recurses := true, named := ["errors.errorType", "gleaner/code.kinds"], apart := false, laid := [("gleaner/code.kinds", laid_gleaner_code_kinds), ("errors.errorType", laid_errors_errorType)], narrowed := true }
def TaskSpawnsUptoSaid : Prop := taskSpawnsUptoRow.holds Tryd.pinned (OpenSpec.upto taskSpawnsSpec)

/-- 'gleanerlaw6.TaskHandles', WHERE WHAT IT READS IS OF BULK AT MOST 1048576: true; the input reads as it did. -/
def taskHandlesUptoRow : OpenClaim := { program := "ytlhfjeohhfdccaadoor", sum := "8edff08eca40886a437b1e1c833023407bf3619c58d91a6af269bd95b00a98f2", func := "gleaner/gleanerlaw6.TaskHandles", spec := "taskHandles", inPlace := ["internal/reflectlite.ValueOf", "(internal/reflectlite.Value).Type", "(internal/reflectlite.Value).IsNil", "internal/reflectlite.TypeOf", "(internal/reflectlite.Value).Elem", "(internal/reflectlite.Value).Set"], unfollowed := true, recurses := true, named := ["errors.errorType", "gleaner/code.kinds"], apart := false, laid := [("gleaner/code.kinds", laid_gleaner_code_kinds), ("errors.errorType", laid_errors_errorType)], narrowed := true }
def TaskHandlesUptoSaid : Prop := taskHandlesUptoRow.holds Tryd.pinned (OpenSpec.upto taskHandlesSpec)

/-- 'gleanerlaw6.TaskLocals', WHERE WHAT IT READS IS OF BULK AT MOST 1048576: true; the input reads as it did. -/
def taskLocalsUptoRow : OpenClaim := { program := "ytlhfjeohhfdccaadoor", sum := "8edff08eca40886a437b1e1c833023407bf3619c58d91a6af269bd95b00a98f2", func := "gleaner/gleanerlaw6.TaskLocals", spec := "taskLocals", inPlace := ["internal/reflectlite.ValueOf", "(internal/reflectlite.Value).Type", "(internal/reflectlite.Value).IsNil", "internal/reflectlite.TypeOf", "(internal/reflectlite.Value).Elem", "(internal/reflectlite.Value).Set"], unfollowed := true, recurses := true, named := ["errors.errorType", "gleaner/code.kinds"], apart := false, laid := [("gleaner/code.kinds", laid_gleaner_code_kinds), ("errors.errorType", laid_errors_errorType)], narrowed := true }
def TaskLocalsUptoSaid : Prop := taskLocalsUptoRow.holds Tryd.pinned (OpenSpec.upto taskLocalsSpec)

/-- 'gleanerlaw6.TaskStacks', WHERE WHAT IT READS IS OF BULK AT MOST 1048576: true; the input reads as it did. -/
def taskStacksUptoRow : OpenClaim := { program := "ytlhfjeohhfdccaadoor", sum := "8edff08eca40886a437b1e1c833023407bf3619c58d91a6af269bd95b00a98f2", func := "gleaner/gleanerlaw6.TaskStacks", spec := "taskStacks", inPlace := ["internal/reflectlite.ValueOf", "(internal/reflectlite.Value).Type", "(internal/reflectlite.Value).IsNil", "internal/reflectlite.TypeOf", "(internal/reflectlite.Value).Elem", "(internal/reflectlite.Value).Set"], unfollowed := true, recurses := true, named := ["errors.errorType", "gleaner/code.kinds"], apart := false, laid := [("gleaner/code.kinds", laid_gleaner_code_kinds), ("errors.errorType", laid_errors_errorType)], narrowed := true }
def TaskStacksUptoSaid : Prop := taskStacksUptoRow.holds Tryd.pinned (OpenSpec.upto taskStacksSpec)

end Rows
end Go.Proofs.YtlhfjeohhfdccaaDoor
