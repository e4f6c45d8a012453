/- Count, checkPair, And, Xor. -/
import Derived.Test.YtohkiknhjcibgaaBW6
namespace Go.Proofs.Ytohkiknhjcibgaa
open Go.RowKit

theorem pc_bd {N k n : Nat} (h : k ≤ n) : pc N (64 * k) ≤ 64 * n := Nat.le_trans (pc_le _ _) (by omega)
end Go.Proofs.Ytohkiknhjcibgaa
