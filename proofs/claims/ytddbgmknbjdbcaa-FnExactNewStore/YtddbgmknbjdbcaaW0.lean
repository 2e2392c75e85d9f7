/- The laws' own small functions: a prefix handed over, two prefixes compared. -/
import Derived.Test.YtddbgmknbjdbcaaKit
import Derived.Test.YtddbgmknbjdbcaaPlain1
namespace Go.Proofs.Ytddbgmknbjdbcaa
open Go.RowKit

end Go.Proofs.Ytddbgmknbjdbcaa
