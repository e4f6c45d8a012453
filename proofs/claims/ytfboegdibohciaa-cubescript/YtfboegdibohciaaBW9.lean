/- The law's own helpers: EqWords, Eq, made, count. -/
import Derived.Test.YtfboegdibohciaaBW8
namespace Go.Proofs.Ytfboegdibohciaa
open Go.RowKit

end Go.Proofs.Ytfboegdibohciaa
