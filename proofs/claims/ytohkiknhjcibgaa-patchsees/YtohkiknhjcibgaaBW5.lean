/- Pack. -/
import Derived.Test.YtohkiknhjcibgaaBW4
import Derived.Test.YtohkiknhjcibgaaBM3
namespace Go.Proofs.Ytohkiknhjcibgaa
open Go.RowKit

/-- The slice reads, in this world, as these small numbers. -/
def R8 (w : World) (ao : Option Addr) (l : List Int) : Prop := ∀ k, k < l.length → ∃ g o, ao = some ⟨g, o, none⟩ ∧ w.cell? ⟨g, o + k, none⟩ = some (.int .i8 (ia l k))
theorem R8.below {w w' : World} {ao : Option Addr} {l : List Int} (h : R8 w ao l) (hb : Below w.heap.size w w') : R8 w' ao l :=
  fun k hk => by obtain ⟨g, o, e, c⟩ := h k hk; exact ⟨g, o, e, keepc hb c⟩
theorem or_u64 (a b : Nat) (ha : a < 18446744073709551616) (hb : b < 18446744073709551616) : bits .or .u64 (a : Int) (b : Int) = ((a ||| b : Nat) : Int) := by
  have := u64_or (a : Int) (b : Int) (by omega) (by omega) (by omega) (by omega); simpa using this

end Go.Proofs.Ytohkiknhjcibgaa
