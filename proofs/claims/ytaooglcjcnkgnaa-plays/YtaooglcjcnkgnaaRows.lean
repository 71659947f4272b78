/-
  No cell of these rows narrows 'for every input' (looked for: loops, veiled, ifaces, maps, wideKeys, modest, calm, conditions, laid).
  DERIVED. THE GIVEN ROWS OF THIS SEAT. 7 by the template 'for every input the law returns true; each argument reads behind the call as it read before'; 0 by the template 'total and deterministic' (their statements: YtaooglcjcnkgnaaTotals.lean).
  GIVEN WITH THE SEED: the statements are not yours to turn. If you find one false, say at which input.
  Laid BY PROGRAM, IN A SANDBOX (cutbox-rows.mjs): the forced cells as the released guide's own fill.sh prints them over the translation 322f86cdb645704d… (all of the seat's roots in one cut). By AI agents, Wed Nov 11 2026. No macro, syntax, notation, axiom, sorry.
-/
import Derived.Test.YtaooglcjcnkgnaaChecked
import GoSem.Claim
import GoSem.ClaimJoined
import GoSem.ClaimMapViews
import Derived.JoinedTies
import Derived.KernelRfl
namespace Go.Proofs.Ytaooglcjcnkgnaa
/- THE CELL 'sum', in the pinned program and in every row, IS THE sha256 OF THE DUMP (.gsa) THAT YtaooglcjcnkgnaaProg.lean LOADS. Nothing in Lean hashes anything: it is a label: what it is worth is what the hold of that sum in a sandbox is worth. -/
noncomputable def Try.pinned : Pinned := { name := "ytaooglcjcnkgnaa", sum := "322f86cdb645704d9ba5079a28670aa67b27feeb0a4e36ef954e7885f108433a", checked := Try.checked }
namespace Rows
def none {H : Type} : Left H := { results := [], args := [] }

/-- 'gleanerlaw15.DequePlays': WHATEVER THE INPUT: true; the input reads as it did. -/
def dequePlaysSpec : ChangeSpec := { name := "dequePlays", fn := fun _ => fun
  | [d] => { results := [.lit (.bool true)], args := [d] }
  | _ => none }
def dequePlaysRow : OpenClaim := { program := "ytaooglcjcnkgnaa", sum := "322f86cdb645704d9ba5079a28670aa67b27feeb0a4e36ef954e7885f108433a", func := "gleaner/gleanerlaw15.DequePlays", spec := "dequePlays", apart := false }
def DequePlaysSaid : Prop := dequePlaysRow.holds Try.pinned (OpenSpec.ofChange dequePlaysSpec)

/-- ITS FALSE NEIGHBOUR: 'it returns false'. Refute it at one input. -/
def dequePlaysWrong : ChangeSpec := { name := "dequePlays", fn := fun _ => fun
  | [d] => { results := [.lit (.bool false)], args := [d] }
  | _ => none }
def DequePlaysWrongFalsely : Prop := dequePlaysRow.holds Try.pinned (OpenSpec.ofChange dequePlaysWrong)

/-- 'gleanerlaw15.DequeOnce': WHATEVER THE INPUT: true; the input reads as it did. -/
def dequeOnceSpec : ChangeSpec := { name := "dequeOnce", fn := fun _ => fun
  | [d] => { results := [.lit (.bool true)], args := [d] }
  | _ => none }
def dequeOnceRow : OpenClaim := { program := "ytaooglcjcnkgnaa", sum := "322f86cdb645704d9ba5079a28670aa67b27feeb0a4e36ef954e7885f108433a", func := "gleaner/gleanerlaw15.DequeOnce", spec := "dequeOnce", apart := false }
def DequeOnceSaid : Prop := dequeOnceRow.holds Try.pinned (OpenSpec.ofChange dequeOnceSpec)

/-- ITS FALSE NEIGHBOUR: 'it returns false'. Refute it at one input. -/
def dequeOnceWrong : ChangeSpec := { name := "dequeOnce", fn := fun _ => fun
  | [d] => { results := [.lit (.bool false)], args := [d] }
  | _ => none }
def DequeOnceWrongFalsely : Prop := dequeOnceRow.holds Try.pinned (OpenSpec.ofChange dequeOnceWrong)

/-- 'gleanerlaw15.DequeAlone': WHATEVER THE INPUT: true; the input reads as it did. -/
def dequeAloneSpec : ChangeSpec := { name := "dequeAlone", fn := fun _ => fun
  | [d] => { results := [.lit (.bool true)], args := [d] }
  | _ => none }
def dequeAloneRow : OpenClaim := { program := "ytaooglcjcnkgnaa", sum := "322f86cdb645704d9ba5079a28670aa67b27feeb0a4e36ef954e7885f108433a", func := "gleaner/gleanerlaw15.DequeAlone", spec := "dequeAlone", apart := false }
def DequeAloneSaid : Prop := dequeAloneRow.holds Try.pinned (OpenSpec.ofChange dequeAloneSpec)

/-- ITS FALSE NEIGHBOUR: 'it returns false'. Refute it at one input. -/
def dequeAloneWrong : ChangeSpec := { name := "dequeAlone", fn := fun _ => fun
  | [d] => { results := [.lit (.bool false)], args := [d] }
  | _ => none }
def DequeAloneWrongFalsely : Prop := dequeAloneRow.holds Try.pinned (OpenSpec.ofChange dequeAloneWrong)

/-- 'gleanerlaw15.DequeLast': WHATEVER THE INPUT: true; the input reads as it did. -/
def dequeLastSpec : ChangeSpec := { name := "dequeLast", fn := fun _ => fun
  | [d1, d2] => { results := [.lit (.bool true)], args := [d1, d2] }
  | _ => none }
def dequeLastRow : OpenClaim := { program := "ytaooglcjcnkgnaa", sum := "322f86cdb645704d9ba5079a28670aa67b27feeb0a4e36ef954e7885f108433a", func := "gleaner/gleanerlaw15.DequeLast", spec := "dequeLast", apart := false }
def DequeLastSaid : Prop := dequeLastRow.holds Try.pinned (OpenSpec.ofChange dequeLastSpec)

/-- ITS FALSE NEIGHBOUR: 'it returns false'. Refute it at one input. -/
def dequeLastWrong : ChangeSpec := { name := "dequeLast", fn := fun _ => fun
  | [d1, d2] => { results := [.lit (.bool false)], args := [d1, d2] }
  | _ => none }
def DequeLastWrongFalsely : Prop := dequeLastRow.holds Try.pinned (OpenSpec.ofChange dequeLastWrong)

/-- 'gleanerlaw15.DequeGrows': WHATEVER THE INPUT: true; the input reads as it did. -/
def dequeGrowsSpec : ChangeSpec := { name := "dequeGrows", fn := fun _ => fun
  | [d1, d2] => { results := [.lit (.bool true)], args := [d1, d2] }
  | _ => none }
def dequeGrowsRow : OpenClaim := { program := "ytaooglcjcnkgnaa", sum := "322f86cdb645704d9ba5079a28670aa67b27feeb0a4e36ef954e7885f108433a", func := "gleaner/gleanerlaw15.DequeGrows", spec := "dequeGrows", apart := false }
def DequeGrowsSaid : Prop := dequeGrowsRow.holds Try.pinned (OpenSpec.ofChange dequeGrowsSpec)

/-- ITS FALSE NEIGHBOUR: 'it returns false'. Refute it at one input. -/
def dequeGrowsWrong : ChangeSpec := { name := "dequeGrows", fn := fun _ => fun
  | [d1, d2] => { results := [.lit (.bool false)], args := [d1, d2] }
  | _ => none }
def DequeGrowsWrongFalsely : Prop := dequeGrowsRow.holds Try.pinned (OpenSpec.ofChange dequeGrowsWrong)

/-- 'gleanerlaw15.DequeThieves': WHATEVER THE INPUT: true; the input reads as it did. -/
def dequeThievesSpec : ChangeSpec := { name := "dequeThieves", fn := fun _ => fun
  | [d1, d2] => { results := [.lit (.bool true)], args := [d1, d2] }
  | _ => none }
def dequeThievesRow : OpenClaim := { program := "ytaooglcjcnkgnaa", sum := "322f86cdb645704d9ba5079a28670aa67b27feeb0a4e36ef954e7885f108433a", func := "gleaner/gleanerlaw15.DequeThieves", spec := "dequeThieves", apart := false }
def DequeThievesSaid : Prop := dequeThievesRow.holds Try.pinned (OpenSpec.ofChange dequeThievesSpec)

/-- ITS FALSE NEIGHBOUR: 'it returns false'. Refute it at one input. -/
def dequeThievesWrong : ChangeSpec := { name := "dequeThieves", fn := fun _ => fun
  | [d1, d2] => { results := [.lit (.bool false)], args := [d1, d2] }
  | _ => none }
def DequeThievesWrongFalsely : Prop := dequeThievesRow.holds Try.pinned (OpenSpec.ofChange dequeThievesWrong)

/-- 'gleanerlaw15.DequeCalls': WHATEVER THE INPUT: true; the input reads as it did. -/
def dequeCallsSpec : ChangeSpec := { name := "dequeCalls", fn := fun _ => fun
  | [d1, d2] => { results := [.lit (.bool true)], args := [d1, d2] }
  | _ => none }
def dequeCallsRow : OpenClaim := { program := "ytaooglcjcnkgnaa", sum := "322f86cdb645704d9ba5079a28670aa67b27feeb0a4e36ef954e7885f108433a", func := "gleaner/gleanerlaw15.DequeCalls", spec := "dequeCalls", apart := false }
def DequeCallsSaid : Prop := dequeCallsRow.holds Try.pinned (OpenSpec.ofChange dequeCallsSpec)

/-- ITS FALSE NEIGHBOUR: 'it returns false'. Refute it at one input. -/
def dequeCallsWrong : ChangeSpec := { name := "dequeCalls", fn := fun _ => fun
  | [d1, d2] => { results := [.lit (.bool false)], args := [d1, d2] }
  | _ => none }
def DequeCallsWrongFalsely : Prop := dequeCallsRow.holds Try.pinned (OpenSpec.ofChange dequeCallsWrong)

/- THE SECOND FORM. 'bulk': how many values and letters a reading holds, each counted each time it is reached (what is shared counts as often as it is met; a slice's spare places count too). A statement '..UptoSaid' is the law's where the arguments, and the package variables that the reading takes, are together of bulk at most 1048576: NARROWER than '..Said'. Prove '..Said' where nothing that the law and all that it calls make is longer than what came in: it says more and counts as full. Else prove '..UptoSaid'. A law counts once. -/
mutual
def uptoBulk {H : Type} : DataW H → Nat
  | .lit (.string bytes) => bytes.length + 1
  | .lit _ => 1
  | .nil => 1
  | .ptr d => uptoBulk d + 1
  | .slice elems spare => uptoBulkAll elems + uptoBulkAll spare + 1
  | .agg parts => uptoBulkAll parts + 1
  | .iface _ d => uptoBulk d + 1
  | .map entries => uptoBulkEntries entries + 1
  | .held _ => 1
def uptoBulkAll {H : Type} : List (DataW H) → Nat
  | [] => 0
  | d :: r => uptoBulk d + uptoBulkAll r
def uptoBulkEntries {H : Type} : List (Lit × DataW H) → Nat
  | [] => 0
  | x :: r => uptoBulkEntry x + uptoBulkEntries r
def uptoBulkEntry {H : Type} : Lit × DataW H → Nat
  | (.string bytes, d) => bytes.length + uptoBulk d + 1
  | (_, d) => uptoBulk d + 1
 end
def uptoSmall : (H : Type) → List (DataW H) → Bool := fun _ ds => decide (uptoBulkAll ds ≤ 1048576)
def OpenSpec.upto (s : _root_.Go.ChangeSpec) : _root_.Go.OpenSpec := { _root_.Go.OpenSpec.ofChange s with cond := some uptoSmall }

/-- 'gleanerlaw15.DequePlays', WHERE WHAT IT READS IS OF BULK AT MOST 1048576: true; the input reads as it did. -/
def dequePlaysUptoRow : OpenClaim := { program := "ytaooglcjcnkgnaa", sum := "322f86cdb645704d9ba5079a28670aa67b27feeb0a4e36ef954e7885f108433a", func := "gleaner/gleanerlaw15.DequePlays", spec := "dequePlays", apart := false, narrowed := true }
def DequePlaysUptoSaid : Prop := dequePlaysUptoRow.holds Try.pinned (OpenSpec.upto dequePlaysSpec)

/-- 'gleanerlaw15.DequeOnce', WHERE WHAT IT READS IS OF BULK AT MOST 1048576: true; the input reads as it did. -/
def dequeOnceUptoRow : OpenClaim := { program := "ytaooglcjcnkgnaa", sum := "322f86cdb645704d9ba5079a28670aa67b27feeb0a4e36ef954e7885f108433a", func := "gleaner/gleanerlaw15.DequeOnce", spec := "dequeOnce", apart := false, narrowed := true }
def DequeOnceUptoSaid : Prop := dequeOnceUptoRow.holds Try.pinned (OpenSpec.upto dequeOnceSpec)

/-- 'gleanerlaw15.DequeAlone', WHERE WHAT IT READS IS OF BULK AT MOST 1048576: true; the input reads as it did. -/
def dequeAloneUptoRow : OpenClaim := { program := "ytaooglcjcnkgnaa", sum := "322f86cdb645704d9ba5079a28670aa67b27feeb0a4e36ef954e7885f108433a", func := "gleaner/gleanerlaw15.DequeAlone", spec := "dequeAlone", apart := false, narrowed := true }
def DequeAloneUptoSaid : Prop := dequeAloneUptoRow.holds Try.pinned (OpenSpec.upto dequeAloneSpec)

/-- 'gleanerlaw15.DequeLast', WHERE WHAT IT READS IS OF BULK AT MOST 1048576: true; the input reads as it did. -/
def dequeLastUptoRow : OpenClaim := { program := "ytaooglcjcnkgnaa", sum := "322f86cdb645704d9ba5079a28670aa67b27feeb0a4e36ef954e7885f108433a", func := "gleaner/gleanerlaw15.DequeLast", spec := "dequeLast", apart := false, narrowed := true }
def DequeLastUptoSaid : Prop := dequeLastUptoRow.holds Try.pinned (OpenSpec.upto dequeLastSpec)

/-- 'gleanerlaw15.DequeGrows', WHERE WHAT IT READS IS OF BULK AT MOST 1048576: true; the input reads as it did. -/
def dequeGrowsUptoRow : OpenClaim := { program := "ytaooglcjcnkgnaa", sum := "322f86cdb645704d9ba5079a28670aa67b27feeb0a4e36ef954e7885f108433a", func := "gleaner/gleanerlaw15.DequeGrows", spec := "dequeGrows", apart := false, narrowed := true }
def DequeGrowsUptoSaid : Prop := dequeGrowsUptoRow.holds Try.pinned (OpenSpec.upto dequeGrowsSpec)

/-- 'gleanerlaw15.DequeThieves', WHERE WHAT IT READS IS OF BULK AT MOST 1048576: true; the input reads as it did. -/
def dequeThievesUptoRow : OpenClaim := { program := "ytaooglcjcnkgnaa", sum := "322f86cdb645704d9ba5079a28670aa67b27feeb0a4e36ef954e7885f108433a", func := "gleaner/gleanerlaw15.DequeThieves", spec := "dequeThieves", apart := false, narrowed := true }
def DequeThievesUptoSaid : Prop := dequeThievesUptoRow.holds Try.pinned (OpenSpec.upto dequeThievesSpec)

/-- 'gleanerlaw15.DequeCalls', WHERE WHAT IT READS IS OF BULK AT MOST 1048576: true; the input reads as it did. -/
def dequeCallsUptoRow : OpenClaim := { program := "ytaooglcjcnkgnaa", sum := "322f86cdb645704d9ba5079a28670aa67b27feeb0a4e36ef954e7885f108433a", func := "gleaner/gleanerlaw15.DequeCalls", spec := "dequeCalls", apart := false, narrowed := true }
def DequeCallsUptoSaid : Prop := dequeCallsUptoRow.holds Try.pinned (OpenSpec.upto dequeCallsSpec)

end Rows
end Go.Proofs.Ytaooglcjcnkgnaa
