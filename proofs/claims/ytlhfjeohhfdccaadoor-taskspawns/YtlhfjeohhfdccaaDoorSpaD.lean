/- TaskSpawns: its job, plain. -/
import Derived.Test.YtlhfjeohhfdccaaDoorWalkN
import Derived.Test.YtlhfjeohhfdccaaDoorSam
namespace Go.Proofs.YtlhfjeohhfdccaaDoor
open Go.RowKit Go.ChangeShapes Go.WideShapes Go.ChangeAt Go.Deep

/-- One round: the arguments, the spawn, a pop. -/
def spaR (xs : List Int) : List (Int × Int) := xs.map (fun x => (1, x)) ++ [(16, 1), (2, 0)]
def spaG (xs : List Int) : Nat → List (Int × Int)
  | 0 => []
  | n + 1 => spaR xs ++ spaG xs n
def spaC (n : Nat) (xs : List Int) : List (Int × Int) := spaG xs n ++ [(1, 9), (18, 0)]
def spaU : Nat → List Int
  | 0 => []
  | n + 1 => spaU n ++ [(n : Int)]
def spaD (a : Nat) : Nat → List Int
  | 0 => [0, 1]
  | n + 1 => spaU a ++ [(a : Int), 1] ++ spaD a n
end Go.Proofs.YtlhfjeohhfdccaaDoor
