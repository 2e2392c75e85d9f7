/- The laws' own small functions: a prefix handed over, two prefixes compared. -/
import Derived.Test.YtencpplhlciffaaKit
import Derived.Test.YtencpplhlciffaaPlain1
namespace Go.Proofs.Ytencpplhlciffaa
open Go.RowKit

end Go.Proofs.Ytencpplhlciffaa
