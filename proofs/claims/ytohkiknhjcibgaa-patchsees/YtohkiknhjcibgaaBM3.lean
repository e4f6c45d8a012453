/- PACKED NUMBERS: plain mathematics. -/
import Derived.Test.YtohkiknhjcibgaaBM2
namespace Go.Proofs.Ytohkiknhjcibgaa

def ia (l : List Int) (k : Nat) : Int := l.getD k 0
/-- The row of the numbers above 0. -/
def pk (l : List Int) : Nat → Nat
  | 0 => 0
  | k + 1 => pk l k ||| (if 0 < ia l k then 2 ^ k else 0)
theorem pk_bit (l : List Int) : ∀ k i, (pk l k).testBit i = (decide (i < k) && decide (0 < ia l i))
  | 0, i => by simp [pk]
  | k + 1, i => by
    simp only [pk, Nat.testBit_or, pk_bit l k i]
    by_cases h : 0 < ia l k
    · rw [if_pos h, Nat.testBit_two_pow]
      by_cases e : k = i
      · subst e; simp [h]
      · have : (i < k + 1) ↔ i < k := by omega
        simp [e, this]
    · rw [if_neg h]
      by_cases e : k = i
      · subst e; simp [h]
      · have : (i < k + 1) ↔ i < k := by omega
        simp [this]
theorem pk_lt (l : List Int) (k : Nat) : pk l k < 2 ^ k := by
  refine Nat.lt_pow_two_of_testBit _ fun i hi => ?_
  rw [pk_bit]
  have : ¬ i < k := by omega
  simp [this]
/-- One bit more. -/
theorem wd_bit1 (i k : Nat) : wd (2 ^ i) k = if k = i / 64 then 2 ^ (i % 64) else 0 := by
  refine wd_ext (wd_lt _ _) ?_ fun j hj => ?_
  · split
    · rw [two64]; exact Nat.pow_lt_pow_right (by decide) (by omega)
    · decide
  · rw [wd_bit, Nat.testBit_two_pow]
    by_cases h : k = i / 64
    · subst h
      rw [if_pos rfl, Nat.testBit_two_pow]
      have : (i = 64 * (i / 64) + j) ↔ (i % 64 = j) := by omega
      simp [this, hj]
    · rw [if_neg h]
      have : ¬ i = 64 * k + j := by omega
      simp [this]
theorem pk_wd (l : List Int) (i k : Nat) : wd (pk l (i + 1)) k = if k = i / 64 then wd (pk l i) k ||| (if 0 < ia l i then 2 ^ (i % 64) else 0) else wd (pk l i) k := by
  simp only [pk]
  rw [wd_or]
  by_cases h : 0 < ia l i
  · rw [if_pos h, if_pos h, wd_bit1]
    by_cases e : k = i / 64
    · rw [if_pos e, if_pos e]
    · rw [if_neg e, if_neg e]; simp
  · rw [if_neg h, if_neg h, wd_zero]
    simp
end Go.Proofs.Ytohkiknhjcibgaa
