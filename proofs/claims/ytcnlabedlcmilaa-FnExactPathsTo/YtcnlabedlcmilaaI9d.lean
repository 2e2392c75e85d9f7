/- A path of unlike speakers, of the program. -/
import Derived.Test.YtcnlabedlcmilaaS9c
import Derived.Test.YtcnlabedlcmilaaI9c
import Derived.Test.YtcnlabedlcmilaaI7f
namespace Go.Proofs.Ytcnlabedlcmilaa
open Go.RowKit

end Go.Proofs.Ytcnlabedlcmilaa
