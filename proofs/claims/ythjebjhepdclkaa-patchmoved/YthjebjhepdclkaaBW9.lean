/- The law's own helpers: EqWords, Eq, made, count. -/
import Derived.Test.YthjebjhepdclkaaBW8
namespace Go.Proofs.Ythjebjhepdclkaa
open Go.RowKit

end Go.Proofs.Ythjebjhepdclkaa
