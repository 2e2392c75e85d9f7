/- The laws' own small functions: a prefix handed over, two prefixes compared. -/
import Derived.Test.YtddjefmokpfplaaDoorKit
import Derived.Test.YtddjefmokpfplaaDoorPlain1
namespace Go.Proofs.YtddjefmokpfplaaDoor
open Go.RowKit

end Go.Proofs.YtddjefmokpfplaaDoor
