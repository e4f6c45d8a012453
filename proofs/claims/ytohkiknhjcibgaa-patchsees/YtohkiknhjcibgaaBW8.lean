/- wordFrom, Slice. -/
import Derived.Test.YtohkiknhjcibgaaBW7
import Derived.Test.YtohkiknhjcibgaaBM4
namespace Go.Proofs.Ytohkiknhjcibgaa
open Go.RowKit

theorem shr_int (a : Nat) (k : Nat) : (a : Int) / 2 ^ k = ((a / 2 ^ k : Nat) : Int) := by simp
theorem shl_int (a k : Nat) : IntKind.u64.wrap ((a : Int) * 2 ^ k) = ((a * 2 ^ k % 18446744073709551616 : Nat) : Int) := by
  rw [show ((a : Int) * 2 ^ k) = ((a * 2 ^ k : Nat) : Int) by simp, IntKind.wrap_u64]
  omega
theorem wrap_at {a k : Nat} (ha : a ≤ 16777216) (hk : k ≤ 262144) : IntKind.i64.wrap ((a : Int) + IntKind.i64.wrap (64 * (k : Int))) = ((a + 64 * k : Nat) : Int) := by
  have e : IntKind.i64.wrap (64 * (k : Int)) = 64 * (k : Int) := by rw [IntKind.wrap_i64]; omega
  rw [e, IntKind.wrap_i64]
  omega
end Go.Proofs.Ytohkiknhjcibgaa
