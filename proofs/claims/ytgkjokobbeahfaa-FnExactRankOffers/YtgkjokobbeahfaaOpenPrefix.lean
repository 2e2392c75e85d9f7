/- A list of Prefix that came in, opened: its cells. -/
import Derived.Test.YtgkjokobbeahfaaFlatPrefix
import Derived.Test.YtgkjokobbeahfaaOpenKit
namespace Go.Proofs.Ytgkjokobbeahfaa
open Go.ChangeShapes Go.WideShapes Go.ChangeAt Go.RowKit Go.Deep

end Go.Proofs.Ytgkjokobbeahfaa
