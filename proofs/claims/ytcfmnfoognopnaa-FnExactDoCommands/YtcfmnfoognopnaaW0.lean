/- The laws' own small functions: a prefix handed over, two prefixes compared. -/
import Derived.Test.YtcfmnfoognopnaaKit
import Derived.Test.YtcfmnfoognopnaaPlain1
namespace Go.Proofs.Ytcfmnfoognopnaa
open Go.RowKit

end Go.Proofs.Ytcfmnfoognopnaa
