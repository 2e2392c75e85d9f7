/- Offers as the laws hand them over: their size, a copy, a comparison. -/
import Derived.Test.YtcnlabedlcmilaaOff8
namespace Go.Proofs.Ytcnlabedlcmilaa
open Go.RowKit

end Go.Proofs.Ytcnlabedlcmilaa
