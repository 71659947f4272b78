/-
  No cell of these rows narrows 'for every input' (looked for: loops, veiled, ifaces, maps, wideKeys, modest, calm, conditions, laid).
  DERIVED. THE GIVEN ROWS OF THIS SEAT. 3 by the template 'for every input the law returns true; each argument reads behind the call as it read before'; 0 by the template 'total and deterministic' (their statements: YtcfenakafcfjbaaTotals.lean).
  GIVEN WITH THE SEED: the statements are not yours to turn. If you find one false, say at which input.
  Laid BY PROGRAM, IN A SANDBOX (cutbox-rows.mjs): the forced cells as the released guide's own fill.sh prints them over the translation d3dc42ef2fc6345c… (all of the seat's roots in one cut). By AI agents, Wed Nov 11 2026. No macro, syntax, notation, axiom, sorry.
-/
import Derived.Test.YtcfenakafcfjbaaChecked
import GoSem.Claim
import GoSem.ClaimJoined
import GoSem.ClaimMapViews
import Derived.JoinedTies
import Derived.KernelRfl
namespace Go.Proofs.Ytcfenakafcfjbaa
/- THE CELL 'sum', in the pinned program and in every row, IS THE sha256 OF THE DUMP (.gsa) THAT YtcfenakafcfjbaaProg.lean LOADS. Nothing in Lean hashes anything: it is a label: what it is worth is what the hold of that sum in a sandbox is worth. -/
noncomputable def Try.pinned : Pinned := { name := "ytcfenakafcfjbaa", sum := "d3dc42ef2fc6345cad73a48d31aff051ef385fd60ba4a8faf14148f0b8edf527", checked := Try.checked }
namespace Rows
def none {H : Type} : Left H := { results := [], args := [] }

/-- 'gleanerlaw17.BeatPlays': WHATEVER THE INPUT: true; the input reads as it did. -/
def beatPlaysSpec : ChangeSpec := { name := "beatPlays", fn := fun _ => fun
  | [d1, d2, d3] => { results := [.lit (.bool true)], args := [d1, d2, d3] }
  | _ => none }
def beatPlaysRow : OpenClaim := { program := "ytcfenakafcfjbaa", sum := "d3dc42ef2fc6345cad73a48d31aff051ef385fd60ba4a8faf14148f0b8edf527", func := "gleaner/gleanerlaw17.BeatPlays", spec := "beatPlays", unfollowed := true, recurses := true, apart := false }
def BeatPlaysSaid : Prop := beatPlaysRow.holds Try.pinned (OpenSpec.ofChange beatPlaysSpec)

/-- ITS FALSE NEIGHBOUR: 'it returns false'. Refute it at one input. -/
def beatPlaysWrong : ChangeSpec := { name := "beatPlays", fn := fun _ => fun
  | [d1, d2, d3] => { results := [.lit (.bool false)], args := [d1, d2, d3] }
  | _ => none }
def BeatPlaysWrongFalsely : Prop := beatPlaysRow.holds Try.pinned (OpenSpec.ofChange beatPlaysWrong)

/-- 'gleanerlaw17.BeatOften': WHATEVER THE INPUT: true; the input reads as it did. -/
def beatOftenSpec : ChangeSpec := { name := "beatOften", fn := fun _ => fun
  | [d1, d2, d3] => { results := [.lit (.bool true)], args := [d1, d2, d3] }
  | _ => none }
def beatOftenRow : OpenClaim := { program := "ytcfenakafcfjbaa", sum := "d3dc42ef2fc6345cad73a48d31aff051ef385fd60ba4a8faf14148f0b8edf527", func := "gleaner/gleanerlaw17.BeatOften", spec := "beatOften", unfollowed := true, recurses := true, apart := false }
def BeatOftenSaid : Prop := beatOftenRow.holds Try.pinned (OpenSpec.ofChange beatOftenSpec)

/-- ITS FALSE NEIGHBOUR: 'it returns false'. Refute it at one input. -/
def beatOftenWrong : ChangeSpec := { name := "beatOften", fn := fun _ => fun
  | [d1, d2, d3] => { results := [.lit (.bool false)], args := [d1, d2, d3] }
  | _ => none }
def BeatOftenWrongFalsely : Prop := beatOftenRow.holds Try.pinned (OpenSpec.ofChange beatOftenWrong)

/-- 'gleanerlaw17.BeatLives': WHATEVER THE INPUT: true; the input reads as it did. -/
def beatLivesSpec : ChangeSpec := { name := "beatLives", fn := fun _ => fun
  | [d] => { results := [.lit (.bool true)], args := [d] }
  | _ => none }
def beatLivesRow : OpenClaim := { program := "ytcfenakafcfjbaa", sum := "d3dc42ef2fc6345cad73a48d31aff051ef385fd60ba4a8faf14148f0b8edf527", func := "gleaner/gleanerlaw17.BeatLives", spec := "beatLives", unfollowed := true, recurses := true, apart := false }
def BeatLivesSaid : Prop := beatLivesRow.holds Try.pinned (OpenSpec.ofChange beatLivesSpec)

/-- ITS FALSE NEIGHBOUR: 'it returns false'. Refute it at one input. -/
def beatLivesWrong : ChangeSpec := { name := "beatLives", fn := fun _ => fun
  | [d] => { results := [.lit (.bool false)], args := [d] }
  | _ => none }
def BeatLivesWrongFalsely : Prop := beatLivesRow.holds Try.pinned (OpenSpec.ofChange beatLivesWrong)

/- THE SECOND FORM. 'bulk': how many values and letters a reading holds, each counted each time it is reached (what is shared counts as often as it is met; a slice's spare places count too). A statement '..UptoSaid' is the law's where the arguments, and the package variables that the reading takes, are together of bulk at most 1048576: NARROWER than '..Said'. Prove '..Said' where nothing that the law and all that it calls make is longer than what came in: it says more and counts as full. Else prove '..UptoSaid'. A law counts once. -/
mutual
def uptoBulk {H : Type} : DataW H → Nat
  | .lit (.string bytes) => bytes.length + 1
  | .lit _ => 1
  | .nil => 1
  | .ptr d => uptoBulk d + 1
  | .slice elems spare => uptoBulkAll elems + uptoBulkAll spare + 1
  | .agg parts => uptoBulkAll parts + 1
  | .iface _ d => uptoBulk d + 1
  | .map entries => uptoBulkEntries entries + 1
  | .held _ => 1
def uptoBulkAll {H : Type} : List (DataW H) → Nat
  | [] => 0
  | d :: r => uptoBulk d + uptoBulkAll r
def uptoBulkEntries {H : Type} : List (Lit × DataW H) → Nat
  | [] => 0
  | x :: r => uptoBulkEntry x + uptoBulkEntries r
def uptoBulkEntry {H : Type} : Lit × DataW H → Nat
  | (.string bytes, d) => bytes.length + uptoBulk d + 1
  | (_, d) => uptoBulk d + 1
 end
def uptoSmall : (H : Type) → List (DataW H) → Bool := fun _ ds => decide (uptoBulkAll ds ≤ 1048576)
def OpenSpec.upto (s : _root_.Go.ChangeSpec) : _root_.Go.OpenSpec := { _root_.Go.OpenSpec.ofChange s with cond := some uptoSmall }

/-- 'gleanerlaw17.BeatPlays', WHERE WHAT IT READS IS OF BULK AT MOST 1048576: true; the input reads as it did. -/
def beatPlaysUptoRow : OpenClaim := { program := "ytcfenakafcfjbaa", sum := "d3dc42ef2fc6345cad73a48d31aff051ef385fd60ba4a8faf14148f0b8edf527", func := "gleaner/gleanerlaw17.BeatPlays", spec := "beatPlays", unfollowed := true, recurses := true, apart := false, narrowed := true }
def BeatPlaysUptoSaid : Prop := beatPlaysUptoRow.holds Try.pinned (OpenSpec.upto beatPlaysSpec)

/-- 'gleanerlaw17.BeatOften', WHERE WHAT IT READS IS OF BULK AT MOST 1048576: true; the input reads as it did. -/
def beatOftenUptoRow : OpenClaim := { program := "ytcfenakafcfjbaa", sum := "d3dc42ef2fc6345cad73a48d31aff051ef385fd60ba4a8faf14148f0b8edf527", func := "gleaner/gleanerlaw17.BeatOften", spec := "beatOften", unfollowed := true, recurses := true, apart := false, narrowed := true }
def BeatOftenUptoSaid : Prop := beatOftenUptoRow.holds Try.pinned (OpenSpec.upto beatOftenSpec)

/-- 'gleanerlaw17.BeatLives', WHERE WHAT IT READS IS OF BULK AT MOST 1048576: true; the input reads as it did. -/
def beatLivesUptoRow : OpenClaim := { program := "ytcfenakafcfjbaa", sum := "d3dc42ef2fc6345cad73a48d31aff051ef385fd60ba4a8faf14148f0b8edf527", func := "gleaner/gleanerlaw17.BeatLives", spec := "beatLives", unfollowed := true, recurses := true, apart := false, narrowed := true }
def BeatLivesUptoSaid : Prop := beatLivesUptoRow.holds Try.pinned (OpenSpec.upto beatLivesSpec)

end Rows
end Go.Proofs.Ytcfenakafcfjbaa
