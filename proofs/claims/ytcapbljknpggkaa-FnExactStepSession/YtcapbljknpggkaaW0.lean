/- The laws' own small functions: a prefix handed over, two prefixes compared. -/
import Derived.Test.YtcapbljknpggkaaKit
import Derived.Test.YtcapbljknpggkaaPlain1
namespace Go.Proofs.Ytcapbljknpggkaa
open Go.RowKit

end Go.Proofs.Ytcapbljknpggkaa
