/- The laws' own small functions: a prefix handed over, two prefixes compared. -/
import Derived.Test.YtjfalfjadleegaaKit
import Derived.Test.YtjfalfjadleegaaPlain1
namespace Go.Proofs.Ytjfalfjadleegaa
open Go.RowKit

end Go.Proofs.Ytjfalfjadleegaa
