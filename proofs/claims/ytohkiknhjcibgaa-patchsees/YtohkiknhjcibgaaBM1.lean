/- ROWS OF BITS AS NUMBERS: plain mathematics. -/
import Derived.Test.YtohkiknhjcibgaaProg
import Derived.Laws.BitsAllLaws
namespace Go.Proofs.Ytohkiknhjcibgaa

def nw (n : Nat) : Nat := (n + 63) / 64
/-- The k-th word of a number. -/
def wd (N k : Nat) : Nat := N / 2 ^ (64 * k) % 18446744073709551616
theorem two64 : (18446744073709551616 : Nat) = 2 ^ 64 := by decide
theorem wd_lt (N k : Nat) : wd N k < 18446744073709551616 := Nat.mod_lt _ (by decide)
theorem wd_bit (N k i : Nat) : (wd N k).testBit i = (decide (i < 64) && N.testBit (64 * k + i)) := by
  unfold wd
  rw [two64, Nat.testBit_mod_two_pow, Nat.testBit_div_two_pow]
  congr 2; omega
theorem wd_ext {a b : Nat} (ha : a < 18446744073709551616) (hb : b < 18446744073709551616) (h : ∀ i, i < 64 → a.testBit i = b.testBit i) : a = b := by
  refine Nat.eq_of_testBit_eq fun i => ?_
  by_cases hi : i < 64
  · exact h i hi
  · have h64 : (18446744073709551616 : Nat) ≤ 2 ^ i := by rw [two64]; exact Nat.pow_le_pow_right (by decide) (by omega)
    rw [Nat.testBit_lt_two_pow (Nat.lt_of_lt_of_le ha h64), Nat.testBit_lt_two_pow (Nat.lt_of_lt_of_le hb h64)]
theorem wd_zero (k : Nat) : wd 0 k = 0 := by unfold wd; simp
theorem and_lt64 {a b : Nat} (ha : a < 18446744073709551616) : a &&& b < 18446744073709551616 := Nat.lt_of_le_of_lt Nat.and_le_left ha
theorem xor_lt64 {a b : Nat} (ha : a < 18446744073709551616) (hb : b < 18446744073709551616) : a ^^^ b < 18446744073709551616 := by
  rw [two64] at *; exact Nat.xor_lt_two_pow ha hb
theorem or_lt64 {a b : Nat} (ha : a < 18446744073709551616) (hb : b < 18446744073709551616) : a ||| b < 18446744073709551616 := by
  rw [two64] at *; exact Nat.or_lt_two_pow ha hb
theorem wd_and (A B k : Nat) : wd (A &&& B) k = wd A k &&& wd B k := by
  refine wd_ext (wd_lt _ _) (and_lt64 (wd_lt _ _)) fun i hi => ?_
  simp [wd_bit, hi]
theorem wd_xor (A B k : Nat) : wd (A ^^^ B) k = wd A k ^^^ wd B k := by
  refine wd_ext (wd_lt _ _) (xor_lt64 (wd_lt _ _) (wd_lt _ _)) fun i hi => ?_
  simp [wd_bit, hi]
theorem wd_or (A B k : Nat) : wd (A ||| B) k = wd A k ||| wd B k := by
  refine wd_ext (wd_lt _ _) (or_lt64 (wd_lt _ _) (wd_lt _ _)) fun i hi => ?_
  simp [wd_bit, hi]
theorem nw_le (n : Nat) : n ≤ 64 * nw n := by unfold nw; omega
theorem bit_above {N n i : Nat} (h : N < 2 ^ n) (hi : n ≤ i) : N.testBit i = false :=
  Nat.testBit_lt_two_pow (Nat.lt_of_lt_of_le h (Nat.pow_le_pow_right (by decide) hi))
/-- Two numbers of the same words are one. -/
theorem num_ext {A B m : Nat} (hA : A < 2 ^ (64 * m)) (hB : B < 2 ^ (64 * m)) (h : ∀ k, k < m → wd A k = wd B k) : A = B := by
  refine Nat.eq_of_testBit_eq fun i => ?_
  by_cases hi : i < 64 * m
  · have h1 := congrArg (fun x => Nat.testBit x (i % 64)) (h (i / 64) (by omega))
    simp only [wd_bit] at h1
    have h2 : 64 * (i / 64) + i % 64 = i := by omega
    have h3 : i % 64 < 64 := by omega
    simpa [h2, h3] using h1
  · rw [bit_above hA (by omega), bit_above hB (by omega)]
theorem pow_mono {a b : Nat} (h : a ≤ b) : 2 ^ a ≤ 2 ^ b := Nat.pow_le_pow_right (by decide) h
theorem lt_nw {N n : Nat} (h : N < 2 ^ n) : N < 2 ^ (64 * nw n) := Nat.lt_of_lt_of_le h (pow_mono (nw_le n))

/-- The mask of the last word. -/
def tl (n : Nat) : Nat := if n = 0 then 0 else 2 ^ ((n - 1) % 64 + 1) - 1
theorem tl_lt (n : Nat) : tl n < 18446744073709551616 := by
  unfold tl; split
  · decide
  · have h1 : 2 ^ ((n - 1) % 64 + 1) ≤ 2 ^ 64 := pow_mono (by omega)
    have h2 : 0 < 2 ^ ((n - 1) % 64 + 1) := Nat.pow_pos (by decide)
    rw [two64]; omega
theorem tl_bit (n i : Nat) (h : 0 < n) : (tl n).testBit i = decide (i < (n - 1) % 64 + 1) := by
  unfold tl; rw [if_neg (by omega), Nat.testBit_two_pow_sub_one]
theorem tail_shift {s : Nat} (hs : s ≤ 64) : 18446744073709551615 / 2 ^ s = 2 ^ (64 - s) - 1 := by
  have h1 : 2 ^ s * 2 ^ (64 - s) = 2 ^ 64 := by rw [← Nat.pow_add]; congr 1; omega
  have h2 : 0 < 2 ^ s := Nat.pow_pos (by decide)
  have h3 : 0 < 2 ^ (64 - s) := Nat.pow_pos (by decide)
  rw [← two64] at h1
  rw [Nat.div_eq_iff h2]
  generalize 2 ^ s = a at *
  generalize 2 ^ (64 - s) = b at *
  have h4 : a * (b - 1) + a = a * b := by
    obtain ⟨c, rfl⟩ : ∃ c, b = c + 1 := ⟨b - 1, by omega⟩
    simp [Nat.mul_succ]
  rw [Nat.mul_comm (b - 1) a]
  omega
theorem tail_is (n : Nat) (h : 0 < n) : (18446744073709551615 : Nat) / 2 ^ ((64 - n % 64) % 64) = tl n := by
  rw [tail_shift (by omega)]
  unfold tl; rw [if_neg (by omega)]
  have : 64 - (64 - n % 64) % 64 = (n - 1) % 64 + 1 := by omega
  rw [this]
/-- The last word under the mask: what lies behind n is gone. -/
theorem wd_mask {n : Nat} (h : 0 < n) (M : Nat) : wd M (nw n - 1) &&& tl n = wd (M % 2 ^ n) (nw n - 1) := by
  refine wd_ext (and_lt64 (wd_lt _ _)) (wd_lt _ _) fun i hi => ?_
  rw [Nat.testBit_and, tl_bit n i h, wd_bit, wd_bit, Nat.testBit_mod_two_pow]
  have h1 : (i < (n - 1) % 64 + 1) ↔ 64 * (nw n - 1) + i < n := by unfold nw; omega
  simp [hi, h1, Bool.and_comm]
theorem wd_mod {n k : Nat} (M : Nat) (h : k + 1 < nw n) : wd (M % 2 ^ n) k = wd M k := by
  refine wd_ext (wd_lt _ _) (wd_lt _ _) fun i hi => ?_
  rw [wd_bit, wd_bit, Nat.testBit_mod_two_pow]
  have h1 : 64 * k + i < n := by unfold nw at h; omega
  simp [hi, h1]
/-- No bit lies behind n: just where the number is below 2^n. -/
theorem behind_none {n N : Nat} (h : 0 < n) (hN : N < 2 ^ (64 * nw n)) : wd N (nw n - 1) &&& (18446744073709551615 - tl n) = 0 ↔ N < 2 ^ n := by
  have hc : ∀ i, i < 64 → (18446744073709551615 - tl n).testBit i = !((tl n).testBit i) := by
    intro i hi
    have e : 18446744073709551615 - tl n = 2 ^ 64 - (tl n + 1) := by rw [← two64]; omega
    rw [e, Nat.testBit_two_pow_sub_succ (by rw [← two64]; exact tl_lt n)]
    simp [hi]
  constructor
  · intro h0
    refine Nat.lt_pow_two_of_testBit _ fun i hi => ?_
    by_cases h2 : i < 64 * nw n
    · have h3 := congrArg (fun x => Nat.testBit x (i % 64)) h0
      have e : 64 * (nw n - 1) + i % 64 = i := by unfold nw at h2 ⊢; omega
      simp only [Nat.testBit_and, Nat.zero_testBit] at h3
      rw [hc _ (by omega), wd_bit, tl_bit n _ h, e] at h3
      have h4 : ¬ i % 64 < (n - 1) % 64 + 1 := by unfold nw at e h2; omega
      have h5 : i % 64 < 64 := by omega
      simpa [h4, h5] using h3
    · exact bit_above hN (by omega)
  · intro h0
    refine wd_ext (and_lt64 (wd_lt _ _)) (by decide) fun i hi => ?_
    rw [Nat.testBit_and, hc _ hi, tl_bit n _ h, wd_bit]
    by_cases h1 : i < (n - 1) % 64 + 1
    · simp [h1]
    · have h2 : n ≤ 64 * (nw n - 1) + i := by unfold nw; omega
      simp [bit_above h0 h2]

/-- The other bits. -/
def nt (n N : Nat) : Nat := 2 ^ n - (N + 1)
theorem nt_bit {n N : Nat} (h : N < 2 ^ n) (i : Nat) : (nt n N).testBit i = (decide (i < n) && !(N.testBit i)) := Nat.testBit_two_pow_sub_succ h i
theorem nt_lt (n N : Nat) : nt n N < 2 ^ n := by
  unfold nt; have : 0 < 2 ^ n := Nat.pow_pos (by decide)
  omega
/-- All words turned, the last one masked. -/
theorem wd_nt {m N k : Nat} (h : N < 2 ^ (64 * m)) (hk : k < m) : wd (nt (64 * m) N) k = 18446744073709551615 - wd N k := by
  refine wd_ext (wd_lt _ _) (by omega) fun i hi => ?_
  have e : 18446744073709551615 - wd N k = 2 ^ 64 - (wd N k + 1) := by rw [← two64]; omega
  rw [wd_bit, nt_bit h, e, Nat.testBit_two_pow_sub_succ (by rw [← two64]; exact wd_lt _ _), wd_bit]
  have : 64 * k + i < 64 * m := by omega
  simp [hi, this]
theorem nt_mod {n m N : Nat} (h : N < 2 ^ n) (hm : n ≤ m) : nt m N % 2 ^ n = nt n N := by
  refine Nat.eq_of_testBit_eq fun i => ?_
  rw [Nat.testBit_mod_two_pow, nt_bit (Nat.lt_of_lt_of_le h (pow_mono hm)), nt_bit h]
  by_cases hi : i < n
  · have : i < m := by omega
    simp [hi, this]
  · simp [hi]
end Go.Proofs.Ytohkiknhjcibgaa
