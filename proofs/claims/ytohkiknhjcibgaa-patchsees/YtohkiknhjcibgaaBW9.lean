/- The law's own helpers: EqWords, Eq, made, count. -/
import Derived.Test.YtohkiknhjcibgaaBW8
namespace Go.Proofs.Ytohkiknhjcibgaa
open Go.RowKit

end Go.Proofs.Ytohkiknhjcibgaa
