/- A path of unlike speakers, of the program. -/
import Derived.Test.YtelehmkmdbhcfaaKit
import Derived.Test.YtelehmkmdbhcfaaPlain1
import Derived.Test.YtelehmkmdbhcfaaAll4
import Derived.Test.YtelehmkmdbhcfaaFlatRange
import Derived.Test.YtelehmkmdbhcfaaFlatInt
import Derived.Test.YtelehmkmdbhcfaaAll1
import Derived.Test.YtelehmkmdbhcfaaI9c
/- What the program's functions of chapter 1 answer: sizes, goodness. -/
namespace Go.Proofs.Ytelehmkmdbhcfaa
open Go.RowKit

end Go.Proofs.Ytelehmkmdbhcfaa

/- What the program's functions of chapter 1 answer: addresses, covers. -/
namespace Go.Proofs.Ytelehmkmdbhcfaa
open Go.RowKit

theorem eq_has (a l x : Int) : (a == x - x % pw l) = hasB a l x := by rw [hasB, beq_swap]
end Go.Proofs.Ytelehmkmdbhcfaa

/- What the program asks of a term and a route: hasPrefix, rangeHas, someHas, Contains. -/
namespace Go.Proofs.Ytelehmkmdbhcfaa
open Go.RowKit

end Go.Proofs.Ytelehmkmdbhcfaa

namespace Go.Proofs.Ytelehmkmdbhcfaa
open Go.RowKit

end Go.Proofs.Ytelehmkmdbhcfaa
