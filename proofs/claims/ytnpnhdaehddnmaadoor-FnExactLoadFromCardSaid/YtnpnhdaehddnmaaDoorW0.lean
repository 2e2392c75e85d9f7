/- The laws' own small functions: a prefix handed over, two prefixes compared. -/
import Derived.Test.YtnpnhdaehddnmaaDoorKit
import Derived.Test.YtnpnhdaehddnmaaDoorPlain1
namespace Go.Proofs.YtnpnhdaehddnmaaDoor
open Go.RowKit

end Go.Proofs.YtnpnhdaehddnmaaDoor
