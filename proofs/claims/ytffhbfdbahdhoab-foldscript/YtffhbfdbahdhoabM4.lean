/-
  PLAIN MATHEMATICS OF TWO-WORD NUMBERS, FOURTH PART: quotients.
-/
import Derived.Test.YtffhbfdbahdhoabM3
namespace Go.Proofs.Ytffhbfdbahdhoab.Wd
open Go.RowKit

theorem plus_lo (n k : Int) : sumW (loOf n) k 0 = loOf (n + k) := by unfold sumW loOf; omega
theorem plus_hi {n k : Int} (h : Siz (n + k)) : sumW (hiOf n) 0 (carW (loOf n) k 0) = hiOf (n + k) ∧ carW (hiOf n) 0 (carW (loOf n) k 0) = 0 := by
  unfold Siz at h; unfold sumW carW loOf hiOf; omega
theorem small_words {n : Int} (h : U64 n) : hiOf n = 0 ∧ loOf n = n := by unfold U64 at h; unfold hiOf loOf; omega
theorem quo_small {n y : Int} (h : U64 n) (h0 : 0 < y) : U64 (n / y) := by
  obtain ⟨a, b⟩ := h
  exact ⟨Int.ediv_nonneg a (by omega), Int.lt_of_le_of_lt (Int.ediv_le_self _ a) b⟩
def fitV (n : Int) : Int := if -170141183460469231731687303715884105728 ≤ n ∧ n < 170141183460469231731687303715884105728 then n else 0
def errV (n : Int) : Int := if -170141183460469231731687303715884105728 ≤ n ∧ n < 170141183460469231731687303715884105728 then 0 else 10
theorem fitV_ok {n : Int} (h : Rng n) : fitV n = n := if_pos h
theorem fitV_no {n : Int} (h : ¬ Rng n) : fitV n = 0 := if_neg h
theorem errV_ok {n : Int} (h : Rng n) : errV n = 0 := if_pos h
theorem errV_no {n : Int} (h : ¬ Rng n) : errV n = 10 := if_neg h
def restN (a b : Int) : Int := absN a % absN b
def quoN (a b : Int) : Int := absN a / absN b
/-- How the quotient of the sizes is rounded. -/
def awayN (a b : Int) (away : Bool) : Int := if away && decide (restN a b ≠ 0) then quoN a b + 1 else quoN a b
theorem absN_pos {b : Int} (h : b ≠ 0) : 0 < absN b := by unfold absN; split <;> omega
theorem quoN_bd {a b : Int} (ha : Rng a) (h : b ≠ 0) : 0 ≤ quoN a b ∧ quoN a b ≤ 170141183460469231731687303715884105728 := by
  have h0 := absN_pos h
  have h1 : 0 ≤ absN a ∧ absN a ≤ 170141183460469231731687303715884105728 := by unfold Rng at ha; unfold absN; split <;> omega
  refine ⟨Int.ediv_nonneg h1.1 (by omega), ?_⟩
  exact Int.le_trans (Int.ediv_le_self _ h1.1) h1.2
theorem quoN_siz {a b : Int} (ha : Rng a) (h : b ≠ 0) : Siz (quoN a b) := by have := quoN_bd ha h; unfold Siz; omega
theorem quoN_siz1 {a b : Int} (ha : Rng a) (h : b ≠ 0) : Siz (quoN a b + 1) := by have := quoN_bd ha h; unfold Siz; omega
theorem awayN_siz {a b : Int} (ha : Rng a) (h : b ≠ 0) (away : Bool) : Siz (awayN a b away) := by
  unfold awayN; split
  · exact quoN_siz1 ha h
  · exact quoN_siz ha h
theorem away_yes {a b : Int} {away : Bool} (h : away = true) (g : restN a b ≠ 0) : awayN a b away = quoN a b + 1 := by unfold awayN; simp [h, g]
theorem away_no {a b : Int} {away : Bool} (h : away = false ∨ restN a b = 0) : awayN a b away = quoN a b := by unfold awayN; rcases h with h | h <;> simp [h]
end Go.Proofs.Ytffhbfdbahdhoab.Wd
