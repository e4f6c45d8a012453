/- The law's own helpers: EqWords, Eq, made, count. -/
import Derived.Test.YtgmildjfikgkmaaBW8
namespace Go.Proofs.Ytgmildjfikgkmaa
open Go.RowKit

end Go.Proofs.Ytgmildjfikgkmaa
