/- Lists of offers as the laws hand them over: their size, a copy, a comparison. -/
import Derived.Test.YtlhdeeihpaogkaaLawO
import Derived.Lib.QuietBelow
namespace Go.Proofs.Ytlhdeeihpaogkaa
open Go.RowKit

end Go.Proofs.Ytlhdeeihpaogkaa
