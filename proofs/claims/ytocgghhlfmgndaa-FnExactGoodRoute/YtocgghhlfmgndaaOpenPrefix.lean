/- A list of Prefix that came in, opened: its cells. -/
import Derived.Test.YtocgghhlfmgndaaFlatPrefix
import Derived.Test.YtocgghhlfmgndaaOpenKit
namespace Go.Proofs.Ytocgghhlfmgndaa
open Go.ChangeShapes Go.WideShapes Go.ChangeAt Go.RowKit Go.Deep

end Go.Proofs.Ytocgghhlfmgndaa
