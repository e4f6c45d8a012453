/- The law's own helpers: EqWords, Eq, made, count. -/
import Derived.Test.YtlghmojjcfjibaaBW8
namespace Go.Proofs.Ytlghmojjcfjibaa
open Go.RowKit

end Go.Proofs.Ytlghmojjcfjibaa
