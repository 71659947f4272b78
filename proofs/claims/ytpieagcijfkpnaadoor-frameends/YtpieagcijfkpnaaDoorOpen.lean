/- How the arguments of the laws read: rows of bytes, of numbers, of yes and no. -/
import Derived.Test.YtpieagcijfkpnaaDoorTxt
import Derived.Deep.Grids
namespace Go.Proofs.YtpieagcijfkpnaaDoor
open Go.RowKit Go.ChangeShapes Go.WideShapes Go.ChangeAt Go.Deep

end Go.Proofs.YtpieagcijfkpnaaDoor
