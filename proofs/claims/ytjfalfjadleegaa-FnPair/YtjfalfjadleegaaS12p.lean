/- PlayEvents of the specification. -/
import Derived.Test.YtjfalfjadleegaaPlain12p
import Derived.Test.YtjfalfjadleegaaS12f
namespace Go.Proofs.Ytjfalfjadleegaa
open Go.RowKit

end Go.Proofs.Ytjfalfjadleegaa
