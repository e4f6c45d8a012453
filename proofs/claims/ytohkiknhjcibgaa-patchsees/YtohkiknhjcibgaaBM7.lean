/- ROWS LAID BEHIND ONE ANOTHER: plain mathematics. -/
import Derived.Test.YtohkiknhjcibgaaBM6
namespace Go.Proofs.Ytohkiknhjcibgaa

theorem mul_bit (x s j : Nat) : (x * 2 ^ s).testBit j = (decide (s ≤ j) && x.testBit (j - s)) := by rw [Nat.mul_comm, Nat.testBit_two_pow_mul]
/-- A word moved up. -/
theorem wd_up {x p r k : Nat} (hx : x < 18446744073709551616) (hr : r < 64) : wd (x * 2 ^ (64 * p + r)) k = if k = p then x * 2 ^ r % 18446744073709551616 else if k = p + 1 then x / 2 ^ (64 - r) else 0 := by
  refine wd_ext (wd_lt _ _) ?_ fun i hi => ?_
  · split
    · exact shl_lt _ _
    · split
      · exact Nat.lt_of_le_of_lt (Nat.div_le_self _ _) hx
      · decide
  · rw [wd_bit, mul_bit]
    by_cases h1 : k = p
    · subst h1
      rw [if_pos rfl, shl_bit _ _ _ hi]
      have e : (64 * k + r ≤ 64 * k + i) ↔ r ≤ i := by omega
      by_cases h2 : r ≤ i
      · simp [hi, h2, show 64 * k + i - (64 * k + r) = i - r by omega]
      · simp [e, h2]
    · rw [if_neg h1]
      by_cases h2 : k = p + 1
      · subst h2
        rw [if_pos rfl, Nat.testBit_div_two_pow]
        have e1 : 64 * p + r ≤ 64 * (p + 1) + i := by omega
        simp [hi, e1, show 64 * (p + 1) + i - (64 * p + r) = i + (64 - r) by omega]
      · rw [if_neg h2]
        by_cases h3 : 64 * p + r ≤ 64 * k + i
        · have hx' : x < 2 ^ 64 := by rw [← two64]; exact hx
          rw [bit_above hx' (i := 64 * k + i - (64 * p + r)) (by omega)]
          simp
        · simp [h3]
/-- The first i words of N, from bit a on. -/
def ly (N a i : Nat) : Nat := (N % 2 ^ (64 * i)) * 2 ^ a
theorem ly_zero (N a : Nat) : ly N a 0 = 0 := by simp [ly, Nat.mod_one]
theorem ly_step (N a i : Nat) : ly N a (i + 1) = ly N a i ||| wd N i * 2 ^ (64 * i + a) := by
  refine Nat.eq_of_testBit_eq fun j => ?_
  unfold ly
  rw [Nat.testBit_or, mul_bit, mul_bit, mul_bit, Nat.testBit_mod_two_pow, Nat.testBit_mod_two_pow, wd_bit]
  by_cases h1 : a ≤ j
  · by_cases h2 : j - a < 64 * i
    · have h3 : ¬ 64 * i + a ≤ j := by omega
      have h4 : j - a < 64 * (i + 1) := by omega
      simp [h1, h2, h3, h4]
    · have h3 : 64 * i + a ≤ j := by omega
      have e : 64 * i + (j - (64 * i + a)) = j - a := by omega
      have e2 : (j - (64 * i + a) < 64) ↔ (j - a < 64 * (i + 1)) := by omega
      simp [h1, h2, h3, e, e2]
  · have h3 : ¬ 64 * i + a ≤ j := by omega
    simp [h1, h3]
theorem ly_full {N a m : Nat} (h : N < 2 ^ (64 * m)) : ly N a m = N * 2 ^ a := by unfold ly; rw [Nat.mod_eq_of_lt h]
/-- One step, by words. -/
theorem ly_wd (X N q r i k : Nat) (hr : r < 64) : wd (X ||| ly N (64 * q + r) (i + 1)) k =
    if k = q + i then wd (X ||| ly N (64 * q + r) i) k ||| (wd N i * 2 ^ r % 18446744073709551616)
    else if k = q + i + 1 then wd (X ||| ly N (64 * q + r) i) k ||| (wd N i / 2 ^ (64 - r)) else wd (X ||| ly N (64 * q + r) i) k := by
  rw [ly_step, ← Nat.or_assoc, wd_or, show 64 * i + (64 * q + r) = 64 * (q + i) + r by omega, wd_up (wd_lt N i) hr]
  by_cases h1 : k = q + i
  · rw [if_pos h1, if_pos h1]
  · rw [if_neg h1, if_neg h1]
    by_cases h2 : k = q + i + 1
    · rw [if_pos h2, if_pos h2]
    · rw [if_neg h2, if_neg h2]; simp
/-- Where the words lie. -/
theorem in_reach {q r i n T : Nat} (hi : i < nw n) (hT : 64 * q + r + n ≤ T) : q + i < nw T := by unfold nw at *; omega
theorem high_reach {N q r i n T : Nat} (hr : r < 64) (hN : N < 2 ^ n) (hh : wd N i / 2 ^ (64 - r) ≠ 0) (hT : 64 * q + r + n ≤ T) : q + i + 1 < nw T := by
  obtain ⟨j, hj⟩ := Nat.exists_testBit_of_ne_zero hh
  rw [Nat.testBit_div_two_pow, wd_bit] at hj
  simp only [Bool.and_eq_true, decide_eq_true_eq] at hj
  have h : 64 * i + (j + (64 - r)) < n := by
    refine Nat.not_le.1 fun h => ?_
    rw [bit_above hN h] at hj
    exact absurd hj.2 (by decide)
  unfold nw
  omega
/-- Rows behind one another: where the j-th begins, and what lies there by then. -/
def off (n : Nat → Nat) : Nat → Nat
  | 0 => 0
  | j + 1 => off n j + n j
def jn (n N : Nat → Nat) : Nat → Nat
  | 0 => 0
  | j + 1 => jn n N j ||| N j * 2 ^ off n j
theorem jn_lt {n N : Nat → Nat} : ∀ j, (∀ i, i < j → N i < 2 ^ n i) → jn n N j < 2 ^ off n j
  | 0, _ => by simp [jn, off]
  | j + 1, h => by
    have ih := jn_lt j (fun i hi => h i (by omega))
    simp only [jn, off]
    refine Nat.or_lt_two_pow (Nat.lt_of_lt_of_le ih (pow_mono (by omega))) ?_
    rw [Nat.pow_add, Nat.mul_comm (2 ^ off n j)]
    exact Nat.mul_lt_mul_of_pos_right (h j (by omega)) (zero_lt _)
theorem off_mono (n : Nat → Nat) {a b : Nat} (h : a ≤ b) : off n a ≤ off n b := by
  obtain ⟨d, rfl⟩ : ∃ d, b = a + d := ⟨b - a, by omega⟩
  clear h
  induction d with
  | zero => exact Nat.le_refl _
  | succ d ih => rw [show a + (d + 1) = (a + d) + 1 by omega]; simp only [off]; omega
theorem off_le (n : Nat → Nat) {J : Nat} (h : ∀ i, i < J → n i ≤ 16777216) : ∀ j, j ≤ J → off n j ≤ 16777216 * j
  | 0, _ => by simp [off]
  | j + 1, hj => by have := off_le n h j (by omega); have := h j (by omega); simp only [off]; omega
/-- Cut and joined again. -/
theorem cut_join {N n c : Nat} (hN : N < 2 ^ n) (hc : c ≤ n) : sl N 0 c ||| sl N c n * 2 ^ c = N := by
  refine Nat.eq_of_testBit_eq fun i => ?_
  rw [Nat.testBit_or, mul_bit, sl_bit, sl_bit]
  by_cases h : i < c
  · have h2 : ¬ c ≤ i := by omega
    simp [h, h2]
  · have h2 : c ≤ i := by omega
    by_cases h3 : i < n
    · have h4 : i - c < n - c := by omega
      simp [h, h2, h4, show c + (i - c) = i by omega]
    · rw [bit_above hN (i := i) (by omega)]
      have h4 : ¬ i - c < n - c := by omega
      simp [h, h4]
end Go.Proofs.Ytohkiknhjcibgaa
