/-
  PLAIN MATHEMATICS OF TWO-WORD NUMBERS, SECOND PART: sums, order, parts.
-/
import Derived.Test.YtffhbfdbahdhoabM1
namespace Go.Proofs.Ytffhbfdbahdhoab.Wd
open Go.RowKit

def sumW (x y c : Int) : Int := (x + y + c) % 18446744073709551616
def carW (x y c : Int) : Int := (x + y + c) / 18446744073709551616
theorem sumW_u64 (x y c : Int) : U64 (sumW x y c) := by unfold U64 sumW; omega
theorem carW_01 {x y c : Int} (hx : U64 x) (hy : U64 y) (h0 : 0 ≤ c) (h1 : c ≤ 1) : 0 ≤ carW x y c ∧ carW x y c ≤ 1 := by unfold U64 at hx hy; unfold carW; omega
theorem wrap_u64 (x : Int) : U64 (IntKind.u64.wrap x) := by rw [IntKind.wrap_u64]; unfold U64; omega

theorem of_words {n : Int} (h : I64 n) : n / 9223372036854775808 = hiOf n ∧ IntKind.u64.wrap n = loOf n := by
  rw [IntKind.wrap_u64]; unfold I64 at h; unfold hiOf loOf; omega

/-- The words of a sum. -/
theorem add_lo (a b : Int) : sumW (loOf a) (loOf b) 0 = loOf (a + b) := by unfold sumW loOf; omega
theorem add_hi {a b : Int} (h : Rng (a + b)) : wrap64 (sumW (IntKind.u64.wrap (hiOf a)) (IntKind.u64.wrap (hiOf b)) (carW (loOf a) (loOf b) 0)) = hiOf (a + b) := by
  rw [IntKind.wrap_u64, IntKind.wrap_u64]; unfold Rng at h; unfold sumW carW loOf hiOf wrap64; omega
theorem add_over {a b : Int} (ha : Rng a) (hb : Rng b) (h : ¬ Rng (a + b)) : (a < 0 ∧ b < 0 ∧ 0 ≤ wrap64 (sumW (IntKind.u64.wrap (hiOf a)) (IntKind.u64.wrap (hiOf b)) (carW (loOf a) (loOf b) 0))) ∨ (0 ≤ a ∧ 0 ≤ b ∧ wrap64 (sumW (IntKind.u64.wrap (hiOf a)) (IntKind.u64.wrap (hiOf b)) (carW (loOf a) (loOf b) 0)) < 0) := by
  rw [IntKind.wrap_u64, IntKind.wrap_u64]; unfold Rng at *; unfold sumW carW loOf hiOf wrap64; omega
theorem hi_pos {n : Int} (h : 0 ≤ n) : 0 ≤ hiOf n := by unfold hiOf; omega
theorem hi_nn {n : Int} (h : 0 ≤ n) : decide (hiOf n < 0) = false := decide_eq_false (by have := hi_pos h; omega)
theorem hi_ngt {n : Int} (h : n < 0) : hiOf n < 0 := by unfold hiOf; omega

def cmpN (a b : Int) : Int := if a < b then -1 else if a = b then 0 else 1
theorem cmp_lt {a b : Int} (h : a < b) : cmpN a b = -1 := by unfold cmpN; rw [if_pos h]
theorem cmp_eq (a : Int) : cmpN a a = 0 := by unfold cmpN; rw [if_neg (by omega), if_pos rfl]
theorem cmp_gt {a b : Int} (h : b < a) : cmpN a b = 1 := by unfold cmpN; rw [if_neg (by omega), if_neg (by omega)]
theorem words_lt {a b : Int} (h : a < b) : hiOf a < hiOf b ∨ (hiOf a = hiOf b ∧ loOf a < loOf b) := by unfold hiOf loOf; omega

/-- 'lower': the upper word divided by 8, towards nought. -/
def lowN (n : Int) : Int := (hiOf n).tdiv 8 * 18446744073709551616 + loOf n
theorem low_hi (n : Int) : hiOf (lowN n) = (hiOf n).tdiv 8 := hi_mk _ _ (lo_u64 n)
theorem low_lo (n : Int) : loOf (lowN n) = loOf n := lo_mk _ _ (lo_u64 n)
theorem low_wrap {n : Int} (h : Rng n) : wrap64 ((hiOf n).tdiv 8) = (hiOf n).tdiv 8 := by
  have h1 := hi_i64 h; unfold I64 at h1
  have e := Int.mul_tdiv_add_tmod (hiOf n) 8
  have b1 := Int.tmod_lt_of_pos (hiOf n) (show (0 : Int) < 8 by decide)
  have b2 : -8 < (hiOf n).tmod 8 := Int.lt_tmod_of_pos (hiOf n) (by decide)
  unfold wrap64; omega
theorem low_rng {n : Int} (h : Rng n) : -42535295865117307932921825928971026432 ≤ lowN n ∧ lowN n < 42535295865117307932921825928971026432 := by
  have h1 := hi_i64 h; have h2 := lo_u64 n; unfold I64 at h1; unfold U64 at h2; unfold lowN
  have e := Int.mul_tdiv_add_tmod (hiOf n) 8
  have b1 := Int.tmod_lt_of_pos (hiOf n) (show (0 : Int) < 8 by decide)
  have b2 : -8 < (hiOf n).tmod 8 := Int.lt_tmod_of_pos (hiOf n) (by decide)
  omega
end Go.Proofs.Ytffhbfdbahdhoab.Wd
