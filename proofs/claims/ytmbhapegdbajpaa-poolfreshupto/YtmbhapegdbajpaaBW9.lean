/- The law's own helpers: EqWords, Eq, made, count. -/
import Derived.Test.YtmbhapegdbajpaaBW8
namespace Go.Proofs.Ytmbhapegdbajpaa
open Go.RowKit

end Go.Proofs.Ytmbhapegdbajpaa
