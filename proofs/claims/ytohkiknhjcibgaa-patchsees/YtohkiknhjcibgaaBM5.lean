/- ROWS WHOSE BITS ARE ALL SET: plain mathematics. -/
import Derived.Test.YtohkiknhjcibgaaBM4
namespace Go.Proofs.Ytohkiknhjcibgaa

theorem zero_lt (n : Nat) : 0 < 2 ^ n := Nat.pow_pos (by decide)
theorem full_word {n k : Nat} (h : k + 1 < nw n) : wd (nt n 0) k = 18446744073709551615 := by
  refine wd_ext (wd_lt _ _) (by decide) fun i hi => ?_
  rw [wd_bit, nt_bit (zero_lt n), show (18446744073709551615 : Nat) = 2 ^ 64 - 1 by decide, Nat.testBit_two_pow_sub_one]
  have : 64 * k + i < n := by unfold nw at h; omega
  simp [hi, this]
theorem last_word {n : Nat} (h : 0 < n) : wd (nt n 0) (nw n - 1) = tl n := by
  refine wd_ext (wd_lt _ _) (tl_lt n) fun i hi => ?_
  rw [wd_bit, nt_bit (zero_lt n), tl_bit n i h]
  have : (64 * (nw n - 1) + i < n) ↔ i < (n - 1) % 64 + 1 := by unfold nw; omega
  simp [hi, this]
theorem behind_word {N m : Nat} (h : N < 2 ^ (64 * m)) : wd N m = 0 := by
  refine wd_ext (wd_lt _ _) (by decide) fun i _ => ?_
  rw [wd_bit, bit_above h (by omega)]
  simp
theorem pk_none {l : List Int} (h : ∀ i, ¬ 0 < ia l i) : ∀ k, pk l k = 0
  | 0 => rfl
  | k + 1 => by simp only [pk]; rw [pk_none h k, if_neg (h k)]; rfl
theorem ia_rep (K i : Nat) : ia (List.replicate K 0) i = 0 := by
  unfold ia
  rw [List.getD_eq_getElem?_getD, List.getElem?_replicate]
  split <;> rfl
theorem pc_full (n : Nat) : pc (nt n 0) n = n := by
  have h := pc_nt (zero_lt n) n (Nat.le_refl _)
  rw [pc_zero] at h
  omega
theorem tl_more {K : Nat} (h : 0 < K % 64) : tl K + 2 ^ (K % 64) = tl (K + 1) := by
  unfold tl
  rw [if_neg (by omega), if_neg (by omega)]
  have e1 : (K - 1) % 64 + 1 = K % 64 := by omega
  have e2 : (K + 1 - 1) % 64 + 1 = K % 64 + 1 := by omega
  rw [e1, e2, Nat.pow_succ]
  have := zero_lt (K % 64)
  omega
theorem nw_more {K : Nat} (h : 0 < K % 64) : nw (K + 1) = nw K := by unfold nw; omega
theorem big_one (K : Nat) : ¬ nt (K + 1) 0 < 2 ^ K := by
  unfold nt
  rw [Nat.pow_succ]
  have := zero_lt K
  omega
end Go.Proofs.Ytohkiknhjcibgaa
