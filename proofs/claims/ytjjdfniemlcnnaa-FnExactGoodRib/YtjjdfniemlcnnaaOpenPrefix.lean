/- A list of Prefix that came in, opened: its cells. -/
import Derived.Test.YtjjdfniemlcnnaaFlatPrefix
import Derived.Test.YtjjdfniemlcnnaaOpenKit
namespace Go.Proofs.Ytjjdfniemlcnnaa
open Go.ChangeShapes Go.WideShapes Go.ChangeAt Go.RowKit Go.Deep

end Go.Proofs.Ytjjdfniemlcnnaa
