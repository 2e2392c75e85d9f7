/- The laws' own small functions: a prefix handed over, two prefixes compared. -/
import Derived.Test.YtgjohkpicajhpaaKit
import Derived.Test.YtgjohkpicajhpaaPlain1
namespace Go.Proofs.Ytgjohkpicajhpaa
open Go.RowKit

end Go.Proofs.Ytgjohkpicajhpaa
