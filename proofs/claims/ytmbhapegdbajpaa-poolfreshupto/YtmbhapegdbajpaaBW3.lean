/- Check, maskEnd. -/
import Derived.Test.YtmbhapegdbajpaaBW2
namespace Go.Proofs.Ytmbhapegdbajpaa
open Go.RowKit

/-- What Check tells. -/
def chk (n : Int) (m N : Nat) : Int := if n < 0 then 1 else if 16777216 < n then 2 else if m ≠ nw n.toNat then 20 else if N < 2 ^ n.toNat then 0 else 20
theorem andNot_u64 (a b : Nat) (ha : a < 18446744073709551616) (hb : b < 18446744073709551616) : bits .andNot .u64 (a : Int) (b : Int) = ((a &&& (18446744073709551615 - b) : Nat) : Int) := by
  have := u64_andNot (a : Int) (b : Int) (by omega) (by omega) (by omega) (by omega); simpa using this

end Go.Proofs.Ytmbhapegdbajpaa
