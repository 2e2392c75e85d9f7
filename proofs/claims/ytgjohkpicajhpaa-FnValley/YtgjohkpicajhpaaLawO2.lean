/- Lists of offers as the laws hand them over: their size, a copy, a comparison. -/
import Derived.Test.YtgjohkpicajhpaaLawO
import Derived.Lib.QuietBelow
namespace Go.Proofs.Ytgjohkpicajhpaa
open Go.RowKit

end Go.Proofs.Ytgjohkpicajhpaa
