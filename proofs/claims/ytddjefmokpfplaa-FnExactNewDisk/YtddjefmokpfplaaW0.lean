/- The laws' own small functions: a prefix handed over, two prefixes compared. -/
import Derived.Test.YtddjefmokpfplaaKit
import Derived.Test.YtddjefmokpfplaaPlain1
namespace Go.Proofs.Ytddjefmokpfplaa
open Go.RowKit

end Go.Proofs.Ytddjefmokpfplaa
