/- Not. -/
import Derived.Test.YtohkiknhjcibgaaBW5
namespace Go.Proofs.Ytohkiknhjcibgaa
open Go.RowKit

theorem chk_ok {n N : Nat} (h1 : n ≤ 16777216) (h : N < 2 ^ n) : chk n (nw n) N = 0 := by
  unfold chk
  rw [if_neg (by omega), if_neg (by omega), Int.toNat_natCast, if_neg (by simp), if_pos h]
/-- The first i words of A, none behind them. -/
def pf (A i : Nat) : Nat → Value := fun k => if k < i then wf A k else wf 0 k
theorem pf_zero (A k : Nat) : pf A 0 k = wf 0 k := by simp [pf]
theorem pf_full {A m k : Nat} (h : k < m) : pf A m k = wf A k := by simp [pf, h]
theorem pf_step (A i j : Nat) : (if j = i then wf A i else pf A i j) = pf A (i + 1) j := by
  unfold pf
  by_cases e : j = i
  · subst e; simp
  · rw [if_neg e]
    by_cases h : j < i
    · rw [if_pos h, if_pos (by omega)]
    · rw [if_neg h, if_neg (by omega)]
theorem row_start {w : World} {g m A : Nat} (h : w.rowIs g 41 m (wf 0)) : w.rowIs g 41 m (pf A 0) := h.congr fun k _ => (pf_zero A k).symm
theorem row_full {w : World} {g m A : Nat} (h : w.rowIs g 41 m (pf A m)) : w.rowIs g 41 m (wf A) := h.congr fun _ hk => pf_full hk
theorem row_step {w : World} {g m A i : Nat} {v : Value} (h : w.rowIs g 41 m (pf A i)) (e : v = wf A i) : (w.setCell ⟨g, i, none⟩ v).rowIs g 41 m (pf A (i + 1)) := by
  subst e; exact (h.set i _).congr fun j _ => pf_step A i j

theorem xor_u64 (a b : Nat) (ha : a < 18446744073709551616) (hb : b < 18446744073709551616) : bits .xor .u64 (a : Int) (b : Int) = ((a ^^^ b : Nat) : Int) := by
  have := u64_xor (a : Int) (b : Int) (by omega) (by omega) (by omega) (by omega); simpa using this
theorem compl_u64 (x : Nat) (h : x < 18446744073709551616) : bits .xor .u64 (if IntKind.u64.signed = true then -1 else IntKind.u64.max) (x : Int) = ((18446744073709551615 - x : Nat) : Int) := by
  have e : bits .xor .u64 (if IntKind.u64.signed = true then -1 else IntKind.u64.max) (x : Int) = ((18446744073709551615 ^^^ x : Nat) : Int) := xor_u64 18446744073709551615 x (by decide) h
  rw [e]
  congr 1
  refine wd_ext (xor_lt64 (by decide) h) (by omega) fun i hi => ?_
  have e1 : 18446744073709551615 - x = 2 ^ 64 - (x + 1) := by rw [← two64]; omega
  have e2 : (18446744073709551615 : Nat) = 2 ^ 64 - 1 := by decide
  rw [e1, Nat.testBit_two_pow_sub_succ (by rw [← two64]; exact h), Nat.testBit_xor, e2, Nat.testBit_two_pow_sub_one]
  simp [hi]

end Go.Proofs.Ytohkiknhjcibgaa
