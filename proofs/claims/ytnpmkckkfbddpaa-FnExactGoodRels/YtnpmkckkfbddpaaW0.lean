/- The laws' own small functions: a prefix handed over, two prefixes compared. -/
import Derived.Test.YtnpmkckkfbddpaaKit
import Derived.Test.YtnpmkckkfbddpaaPlain1
namespace Go.Proofs.Ytnpmkckkfbddpaa
open Go.RowKit

end Go.Proofs.Ytnpmkckkfbddpaa
