/- The laws' own small functions: a prefix handed over, two prefixes compared. -/
import Derived.Test.YtelehmkmdbhcfaaKit
import Derived.Test.YtelehmkmdbhcfaaPlain1
namespace Go.Proofs.Ytelehmkmdbhcfaa
open Go.RowKit

end Go.Proofs.Ytelehmkmdbhcfaa
