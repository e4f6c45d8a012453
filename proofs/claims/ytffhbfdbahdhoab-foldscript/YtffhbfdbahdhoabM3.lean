/-
  PLAIN MATHEMATICS OF TWO-WORD NUMBERS, THIRD PART: products.
-/
import Derived.Test.YtffhbfdbahdhoabM2
namespace Go.Proofs.Ytffhbfdbahdhoab.Wd
open Go.RowKit

theorem siz_mul {x y : Int} (hx : U64 x) (hy : U64 y) : Siz (x * y) := by
  obtain ⟨a, b⟩ := hx; obtain ⟨c, d⟩ := hy
  refine ⟨Int.mul_nonneg a c, ?_⟩
  have h1 : x * y ≤ 18446744073709551615 * 18446744073709551615 := Int.mul_le_mul (by omega) (by omega) c (by decide)
  omega
theorem fit_lo {n : Int} (h : I64 n) : wrap64 (loOf n) = n := by unfold I64 at h; unfold wrap64 loOf; omega
def sgn2 (a b : Int) : Bool := (decide (a < 0)) != (decide (b < 0))
theorem abs_mul (a b : Int) : (if sgn2 a b then -(absN a * absN b) else absN a * absN b) = a * b := by
  unfold sgn2 absN
  by_cases ha : a < 0 <;> by_cases hb : b < 0 <;> simp [ha, hb, Int.neg_mul, Int.mul_neg]
theorem rng_mul {a b : Int} (ha : I64 a) (hb : I64 b) : Rng (a * b) := by
  have h := abs_mul a b
  have h1 : Siz (absN a * absN b) := siz_mul (absN_u64 ha) (absN_u64 hb)
  have h2 : absN a * absN b ≤ 9223372036854775808 * 9223372036854775808 := by
    have a1 := (absN_u64 ha).1; have b1 := (absN_u64 hb).1
    refine Int.mul_le_mul ?_ ?_ b1 (by decide)
    · unfold absN; unfold I64 at ha; split <;> omega
    · unfold absN; unfold I64 at hb; split <;> omega
  unfold Siz at h1; unfold Rng
  split at h <;> omega
end Go.Proofs.Ytffhbfdbahdhoab.Wd
