/- Lists of offers as the laws hand them over: their size, a copy, a comparison. -/
import Derived.Test.YtelehmkmdbhcfaaOff8
import Derived.Lib.QuietBelow
/- Offers as the laws hand them over: their size, a copy, a comparison. -/
namespace Go.Proofs.Ytelehmkmdbhcfaa
open Go.RowKit

end Go.Proofs.Ytelehmkmdbhcfaa

namespace Go.Proofs.Ytelehmkmdbhcfaa
open Go.RowKit

end Go.Proofs.Ytelehmkmdbhcfaa
