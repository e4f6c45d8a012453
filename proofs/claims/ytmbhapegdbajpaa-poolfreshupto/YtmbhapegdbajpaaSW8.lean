/- SHAPES: THE DOCUMENT'S OWN SLIDE, WALKED. -/
import Derived.Test.YtmbhapegdbajpaaSW7
import Derived.Test.YtmbhapegdbajpaaSW4
namespace Go.Proofs.Ytmbhapegdbajpaa.Sg
open Go.RowKit

theorem wi_id {x : Int} (h1 : -9223372036854775808 ≤ x) (h2 : x ≤ 9223372036854775807) : IntKind.i64.wrap x = x := by
  have := wr_id h1 h2
  first | exact this | (rw [IntKind.wrap_i64]; exact this) | (simp [IntKind.wrap, IntKind.signed, IntKind.bits]; omega)
end Go.Proofs.Ytmbhapegdbajpaa.Sg
