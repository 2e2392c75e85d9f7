/- The laws' own small functions: a prefix handed over, two prefixes compared. -/
import Derived.Test.YtnpnhdaehddnmaaKit
import Derived.Test.YtnpnhdaehddnmaaPlain1
namespace Go.Proofs.Ytnpnhdaehddnmaa
open Go.RowKit

end Go.Proofs.Ytnpnhdaehddnmaa
