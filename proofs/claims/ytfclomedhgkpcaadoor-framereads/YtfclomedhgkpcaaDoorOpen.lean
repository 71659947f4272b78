/- How the arguments of the laws read: rows of bytes, of numbers, of yes and no. -/
import Derived.Test.YtfclomedhgkpcaaDoorTxt
import Derived.Deep.Grids
namespace Go.Proofs.YtfclomedhgkpcaaDoor
open Go.RowKit Go.ChangeShapes Go.WideShapes Go.ChangeAt Go.Deep

end Go.Proofs.YtfclomedhgkpcaaDoor
