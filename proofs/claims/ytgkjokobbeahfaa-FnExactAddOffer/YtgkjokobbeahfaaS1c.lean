/- What the specification's functions of chapter 1 answer: order, parents, halves, siblings. -/
import Derived.Test.YtgkjokobbeahfaaS1
namespace Go.Proofs.Ytgkjokobbeahfaa
open Go.RowKit

end Go.Proofs.Ytgkjokobbeahfaa
