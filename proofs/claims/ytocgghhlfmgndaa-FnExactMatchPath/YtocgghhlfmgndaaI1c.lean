/- What the program's functions of chapter 1 answer: order, parents, halves, siblings. -/
import Derived.Test.YtocgghhlfmgndaaI1
namespace Go.Proofs.Ytocgghhlfmgndaa
open Go.RowKit

end Go.Proofs.Ytocgghhlfmgndaa
