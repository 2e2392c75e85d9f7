/- Offers as the laws hand them over: their size, a copy, a comparison. -/
import Derived.Test.YtgjohkpicajhpaaOff8
namespace Go.Proofs.Ytgjohkpicajhpaa
open Go.RowKit

end Go.Proofs.Ytgjohkpicajhpaa
