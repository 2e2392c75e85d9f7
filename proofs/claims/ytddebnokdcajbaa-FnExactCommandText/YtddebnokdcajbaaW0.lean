/- The laws' own small functions: a prefix handed over, two prefixes compared. -/
import Derived.Test.YtddebnokdcajbaaKit
import Derived.Test.YtddebnokdcajbaaPlain1
namespace Go.Proofs.Ytddebnokdcajbaa
open Go.RowKit

end Go.Proofs.Ytddebnokdcajbaa
