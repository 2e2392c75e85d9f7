/- Lists of offers as the laws hand them over: their size, a copy, a comparison. -/
import Derived.Test.YtnpmkckkfbddpaaLawO
import Derived.Lib.QuietBelow
namespace Go.Proofs.Ytnpmkckkfbddpaa
open Go.RowKit

end Go.Proofs.Ytnpmkckkfbddpaa
