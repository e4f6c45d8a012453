/- PIECES: plain mathematics. -/
import Derived.Test.YtohkiknhjcibgaaBM3
namespace Go.Proofs.Ytohkiknhjcibgaa

/-- The 64 bits from bit p on. -/
def fr (N p : Nat) : Nat := N / 2 ^ p % 18446744073709551616
theorem fr_lt (N p : Nat) : fr N p < 18446744073709551616 := Nat.mod_lt _ (by decide)
theorem fr_bit (N p i : Nat) : (fr N p).testBit i = (decide (i < 64) && N.testBit (p + i)) := by
  unfold fr
  rw [two64, Nat.testBit_mod_two_pow, Nat.testBit_div_two_pow, Nat.add_comm]
theorem fr_one {N m q r : Nat} (hN : N < 2 ^ (64 * m)) (hq : m ≤ q + 1) : wd N q / 2 ^ r = fr N (64 * q + r) := by
  refine wd_ext (Nat.lt_of_le_of_lt (Nat.div_le_self _ _) (wd_lt _ _)) (fr_lt _ _) fun i hi => ?_
  rw [Nat.testBit_div_two_pow, wd_bit, fr_bit]
  by_cases h : i + r < 64
  · simp [h, hi, show 64 * q + (i + r) = 64 * q + r + i by omega]
  · rw [bit_above hN (i := 64 * q + r + i) (by omega)]
    simp [h]
theorem shl_lt (x k : Nat) : x * 2 ^ k % 18446744073709551616 < 18446744073709551616 := Nat.mod_lt _ (by decide)
theorem shl_bit (x k i : Nat) (hi : i < 64) : (x * 2 ^ k % 18446744073709551616).testBit i = (decide (k ≤ i) && x.testBit (i - k)) := by
  rw [two64, Nat.testBit_mod_two_pow, Nat.mul_comm, Nat.testBit_two_pow_mul]
  simp [hi]
theorem fr_two {N q r : Nat} (hr : r < 64) : (wd N q / 2 ^ r ||| (wd N (q + 1) * 2 ^ (64 - r) % 18446744073709551616)) = fr N (64 * q + r) := by
  refine wd_ext (or_lt64 (Nat.lt_of_le_of_lt (Nat.div_le_self _ _) (wd_lt _ _)) (shl_lt _ _)) (fr_lt _ _) fun i hi => ?_
  rw [Nat.testBit_or, shl_bit _ _ _ hi, Nat.testBit_div_two_pow, wd_bit, wd_bit, fr_bit]
  by_cases h : i + r < 64
  · have h2 : ¬ 64 - r ≤ i := by omega
    simp [h, hi, h2, show 64 * q + (i + r) = 64 * q + r + i by omega]
  · have h2 : 64 - r ≤ i := by omega
    have h3 : i - (64 - r) < 64 := by omega
    simp [h, hi, h2, h3, show 64 * (q + 1) + (i - (64 - r)) = 64 * q + r + i by omega]
/-- A piece of a row. -/
def sl (N a b : Nat) : Nat := N / 2 ^ a % 2 ^ (b - a)
theorem sl_lt (N a b : Nat) : sl N a b < 2 ^ (b - a) := Nat.mod_lt _ (Nat.pow_pos (by decide))
theorem sl_bit (N a b i : Nat) : (sl N a b).testBit i = (decide (i < b - a) && N.testBit (a + i)) := by
  unfold sl
  rw [Nat.testBit_mod_two_pow, Nat.testBit_div_two_pow, Nat.add_comm]
/-- The whole words of a piece. -/
def sw (N a m : Nat) : Nat := N / 2 ^ a % 2 ^ (64 * m)
theorem sw_lt (N a m : Nat) : sw N a m < 2 ^ (64 * m) := Nat.mod_lt _ (Nat.pow_pos (by decide))
theorem sw_wd {N a m k : Nat} (h : k < m) : wd (sw N a m) k = fr N (a + 64 * k) := by
  refine wd_ext (wd_lt _ _) (fr_lt _ _) fun i hi => ?_
  unfold sw
  rw [wd_bit, fr_bit, Nat.testBit_mod_two_pow, Nat.testBit_div_two_pow]
  have : 64 * k + i < 64 * m := by omega
  simp [hi, this, show 64 * k + i + a = a + 64 * k + i by omega]
theorem sw_mod (N a b : Nat) : sw N a (nw (b - a)) % 2 ^ (b - a) = sl N a b := by
  unfold sw sl
  exact Nat.mod_mod_of_dvd _ (Nat.pow_dvd_pow 2 (nw_le _))
end Go.Proofs.Ytohkiknhjcibgaa
