/- The laws' own small functions: a prefix handed over, two prefixes compared. -/
import Derived.Test.YtdbaonpkdcmglaaKit
import Derived.Test.YtdbaonpkdcmglaaPlain1
namespace Go.Proofs.Ytdbaonpkdcmglaa
open Go.RowKit

end Go.Proofs.Ytdbaonpkdcmglaa
