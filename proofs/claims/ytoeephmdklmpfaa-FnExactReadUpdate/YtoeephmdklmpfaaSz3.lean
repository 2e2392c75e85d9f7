/- What is left of the bound behind a second list. -/
import Derived.Test.YtoeephmdklmpfaaFlatPrefix
namespace Go.Proofs.Ytoeephmdklmpfaa
open Go.RowKit

end Go.Proofs.Ytoeephmdklmpfaa
