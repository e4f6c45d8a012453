/- SHAPES: THE DOCUMENT'S OWN CHECK, ELEMS, WORDS, INDEX, WALKED. -/
import Derived.Test.YtmbhapegdbajpaaSW3
namespace Go.Proofs.Ytmbhapegdbajpaa.Sg
open Go.RowKit

end Go.Proofs.Ytmbhapegdbajpaa.Sg
