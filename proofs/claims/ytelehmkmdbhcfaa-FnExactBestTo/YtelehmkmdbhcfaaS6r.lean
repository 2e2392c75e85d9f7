/- What the specification's l1Has answers at numbers in memory. -/
import Derived.Test.YtelehmkmdbhcfaaPlain6n
import Derived.Test.YtelehmkmdbhcfaaMemN
namespace Go.Proofs.Ytelehmkmdbhcfaa
open Go.RowKit

end Go.Proofs.Ytelehmkmdbhcfaa
