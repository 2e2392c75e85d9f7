/- Lists of offers as the laws hand them over: their size, a copy, a comparison. -/
import Derived.Test.YtcnlabedlcmilaaLawO
import Derived.Lib.QuietBelow
namespace Go.Proofs.Ytcnlabedlcmilaa
open Go.RowKit

end Go.Proofs.Ytcnlabedlcmilaa
