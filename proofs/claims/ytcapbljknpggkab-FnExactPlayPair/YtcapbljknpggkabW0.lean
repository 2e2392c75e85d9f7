/- The laws' own small functions: a prefix handed over, two prefixes compared. -/
import Derived.Test.YtcapbljknpggkabKit
import Derived.Test.YtcapbljknpggkabPlain1
namespace Go.Proofs.Ytcapbljknpggkab
open Go.RowKit

end Go.Proofs.Ytcapbljknpggkab
