/- What is got of a configuration, of the program. -/
import Derived.Test.YtcfmnfoognopnaaI15c
import Derived.Test.YtcfmnfoognopnaaPlain15b
namespace Go.Proofs.Ytcfmnfoognopnaa
open Go.RowKit

end Go.Proofs.Ytcfmnfoognopnaa
