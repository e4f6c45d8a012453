/- ROWS OF TRUTH VALUES: plain mathematics. -/
import Derived.Test.YtohkiknhjcibgaaBM8
namespace Go.Proofs.Ytohkiknhjcibgaa

/-- The number of these truth values. -/
def bn (f : Nat → Bool) : Nat → Nat
  | 0 => 0
  | k + 1 => bn f k ||| (if f k then 2 ^ k else 0)
theorem bn_bit (f : Nat → Bool) : ∀ k i, (bn f k).testBit i = (decide (i < k) && f i)
  | 0, i => by simp [bn]
  | k + 1, i => by
    simp only [bn, Nat.testBit_or, bn_bit f k i]
    by_cases e : k = i
    · subst e
      cases h : f k <;> simp
    · have h1 : (i < k + 1) ↔ i < k := by omega
      cases h : f k
      · simp [h1]
      · simp [h1, e]
theorem bn_lt (f : Nat → Bool) (k : Nat) : bn f k < 2 ^ k := by
  refine Nat.lt_pow_two_of_testBit _ fun i hi => ?_
  rw [bn_bit]
  have : ¬ i < k := by omega
  simp [this]
theorem bn_wd (f : Nat → Bool) (i k : Nat) : wd (bn f (i + 1)) k = if k = i / 64 then wd (bn f i) k ||| (if f i then 2 ^ (i % 64) else 0) else wd (bn f i) k := by
  simp only [bn]
  rw [wd_or]
  cases h : f i
  · simp [wd_zero]
  · rw [if_pos rfl, if_pos rfl, wd_bit1]
    by_cases e : k = i / 64
    · rw [if_pos e, if_pos e]
    · rw [if_neg e, if_neg e]; simp
/-- The word that is being filled has no bit from there on. -/
theorem bn_free (f : Nat → Bool) (i : Nat) : wd (bn f i) (i / 64) < 2 ^ (i % 64) := by
  refine Nat.lt_pow_two_of_testBit _ fun j hj => ?_
  rw [wd_bit, bn_bit]
  by_cases h : j < 64
  · have : ¬ 64 * (i / 64) + j < i := by omega
    simp [this]
  · simp [h]
theorem add_or {x r : Nat} (h : x < 2 ^ r) : x + 2 ^ r = x ||| 2 ^ r := by
  have := Nat.two_pow_add_eq_or_of_lt h 1
  rw [Nat.mul_one] at this
  rw [Nat.add_comm, this, Nat.or_comm]
theorem bn_of (N n : Nat) (h : N < 2 ^ n) : bn (fun i => N.testBit i) n = N := by
  refine Nat.eq_of_testBit_eq fun i => ?_
  rw [bn_bit]
  by_cases hi : i < n
  · simp [hi]
  · rw [bit_above h (by omega)]; simp
theorem bn_ext {f : Nat → Bool} {N n : Nat} (hN : N < 2 ^ n) (h : ∀ i, i < n → f i = N.testBit i) : bn f n = N := by
  refine Nat.eq_of_testBit_eq fun i => ?_
  rw [bn_bit]
  by_cases hi : i < n
  · simp [hi, h i hi]
  · rw [bit_above hN (by omega)]; simp [hi]
/-- No bit from n on, below m. -/
theorem lt_of_none {N n m : Nat} (hN : N < 2 ^ m) (h : ∀ i, n ≤ i → i < m → N.testBit i = false) : N < 2 ^ n := by
  refine Nat.lt_pow_two_of_testBit _ fun i hi => ?_
  by_cases h2 : i < m
  · exact h i hi h2
  · exact bit_above hN (by omega)
theorem not_lt_of_bit {N n i : Nat} (hi : n ≤ i) (h : N.testBit i = true) : ¬ N < 2 ^ n := fun h2 => by
  rw [bit_above h2 hi] at h; exact absurd h (by decide)
theorem bit_mod (N q r : Nat) (hr : r < 64) : wd N q / 2 ^ r % 2 = (N.testBit (64 * q + r)).toNat := by
  have h := wd_bit N q r
  simp only [hr, decide_true, Bool.true_and] at h
  rw [← h, Nat.testBit_eq_decide_div_mod_eq]
  rcases Nat.mod_two_eq_zero_or_one (wd N q / 2 ^ r) with e | e <;> simp [e]
end Go.Proofs.Ytohkiknhjcibgaa
