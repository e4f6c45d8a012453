/- CubeTurned. -/
import Derived.Test.YtfboegdibohciaaKL2
namespace Go.Proofs.Ytfboegdibohciaa
open Go.RowKit Go.Shelf

theorem pl_one {P d : Nat} (h : P < 2 ^ (64 * d)) : pl P d 0 = P := by
  unfold pl; rw [Nat.zero_mul, Nat.mul_zero, Nat.pow_zero, Nat.div_one, Nat.mod_eq_of_lt h]
theorem js_one (s : Nat) (P : Nat → Nat) : js s P 1 = P 0 := by
  rw [js_succ]; simp [js, jn]
theorem chk_one {n : Nat} (h : 1 ≤ n ∧ n ≤ 4096) : Sg.chk (1 : Nat) (1 : Nat) n = 0 := by
  unfold Sg.chk
  rw [if_pos ⟨by omega, by omega, by omega⟩, if_neg (by simp; omega)]
theorem pok_one {n P : Nat} (h : P < 2 ^ n) : Pok (1 * 1) n P := by
  intro i hi
  have : i = 0 := by omega
  subst this
  rw [pl_one (lt_nw h)]; exact h
theorem cuk_one {n P : Nat} (hn : 1 ≤ n ∧ n ≤ 4096) (h : P < 2 ^ n) : cuk (1 : Nat) (1 : Nat) n (nw n) P = 0 := by
  unfold cuk
  rw [if_pos (chk_one hn)]
  simp only [Int.toNat_natCast]
  rw [if_pos (by omega), if_pos (pok_one h)]
theorem Wr.nil (w : World) (ao : Option Addr) : Wr w ao 0 0 := ⟨by simp, fun k hk => absurd hk (by simp)⟩
end Go.Proofs.Ytfboegdibohciaa
