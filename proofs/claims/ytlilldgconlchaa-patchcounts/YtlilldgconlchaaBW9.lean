/- The law's own helpers: EqWords, Eq, made, count. -/
import Derived.Test.YtlilldgconlchaaBW8
namespace Go.Proofs.Ytlilldgconlchaa
open Go.RowKit

end Go.Proofs.Ytlilldgconlchaa
