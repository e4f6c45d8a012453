/- PACKAGE cube: lay, pack, unpack. -/
import Derived.Test.YtohkiknhjcibgaaKW2
import Derived.Test.YtohkiknhjcibgaaBW15
namespace Go.Proofs.Ytohkiknhjcibgaa
open Go.RowKit

/-- The signs of n bits, from p on. -/
def uf (f : Nat → Value) (N p n : Nat) : Nat → Value := fun j => if p ≤ j ∧ j < p + n then gf N (j - p) else f j
theorem uf_zero (f : Nat → Value) (N p : Nat) (j : Nat) : uf f N p 0 j = f j := by unfold uf; rw [if_neg (by omega)]
theorem uf_step (f : Nat → Value) (N p n j : Nat) : (if j = p + n then gf N n else uf f N p n j) = uf f N p (n + 1) j := by
  unfold uf
  by_cases h : j = p + n
  · subst h; rw [if_pos rfl, if_pos (by omega)]; congr 1; omega
  · rw [if_neg h]
    by_cases h2 : p ≤ j ∧ j < p + n
    · rw [if_pos h2, if_pos (by omega)]
    · rw [if_neg h2, if_neg (by omega)]
end Go.Proofs.Ytohkiknhjcibgaa
