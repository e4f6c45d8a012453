/- The law's own helpers: EqWords, Eq, made, count. -/
import Derived.Test.YtncmcldiodpnpaaBW8
namespace Go.Proofs.Ytncmcldiodpnpaa
open Go.RowKit

end Go.Proofs.Ytncmcldiodpnpaa
