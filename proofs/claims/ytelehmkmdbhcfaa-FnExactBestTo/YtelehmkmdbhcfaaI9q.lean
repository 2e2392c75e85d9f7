/- walkBack of the program. -/
import Derived.Test.YtelehmkmdbhcfaaPlain9q
import Derived.Deep.RegionHeld3
import Derived.Deep.DeepCutAuto
import Derived.Deep.CutRange
namespace Go.Proofs.Ytelehmkmdbhcfaa
open Go.RowKit
end Go.Proofs.Ytelehmkmdbhcfaa
