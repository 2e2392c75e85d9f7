/- The laws' own small functions: a prefix handed over, two prefixes compared. -/
import Derived.Test.YthkooojjhagkeaaKit
import Derived.Test.YthkooojjhagkeaaPlain1
namespace Go.Proofs.Ythkooojjhagkeaa
open Go.RowKit

end Go.Proofs.Ythkooojjhagkeaa
