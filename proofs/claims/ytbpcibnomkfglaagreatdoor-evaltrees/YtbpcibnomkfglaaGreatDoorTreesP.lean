/- EvalTrees: what its evaluations must be. -/
import Derived.Test.YtbpcibnomkfglaaGreatDoorTasksP
namespace Go.Proofs.YtbpcibnomkfglaaGreatDoor
open Go.RowKit Go.ChangeShapes Go.WideShapes Go.ChangeAt Go.Deep

/-- How many tasks there are, and in the last row, behind so many rows. -/
def sumT (wide : Nat) : Nat → Nat × Nat
  | 0 => (1, 1)
  | k + 1 => ((sumT wide k).1 + (sumT wide k).2 * wide, (sumT wide k).2 * wide)
def okL (wide deep : Nat) : Option (List UInt8) → List En → Bool
  | _, [] => true
  | p, x :: r => (match p with | some q => Op.bytesLess q x.id | none => true) && x.er == 0 && x.kids == x.awaits.length && (decide (deep ≤ x.id.length) || x.kids == wide) && okL wide deep (some x.id) r
def treesB (wide deep : Nat) : Bool := match doE [treeFn wide] 1000 500 1001 1001 14 [] [] 0 [(deep : Int)] with
  | some (E, ov, _) => if 500 < (sumT wide deep).1 then ov else !ov && E.length == (sumT wide deep).1 && (match E[0]? with | some x => x.ev == ((sumT wide deep).1 : Int) | none => false) && okL wide deep none E
  | none => false
end Go.Proofs.YtbpcibnomkfglaaGreatDoor
