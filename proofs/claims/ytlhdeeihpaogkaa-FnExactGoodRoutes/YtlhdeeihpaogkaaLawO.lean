/- Offers as the laws hand them over: their size, a copy, a comparison. -/
import Derived.Test.YtlhdeeihpaogkaaOff8
namespace Go.Proofs.Ytlhdeeihpaogkaa
open Go.RowKit

end Go.Proofs.Ytlhdeeihpaogkaa
