/- Offers as the laws hand them over: their size, a copy, a comparison. -/
import Derived.Test.YtnpmkckkfbddpaaOff8
namespace Go.Proofs.Ytnpmkckkfbddpaa
open Go.RowKit

end Go.Proofs.Ytnpmkckkfbddpaa
