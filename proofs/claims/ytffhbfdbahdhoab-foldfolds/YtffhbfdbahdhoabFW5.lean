/- PLUS OF THE PROGRAM. -/
import Derived.Test.YtffhbfdbahdhoabFW4
namespace Go.Proofs.Ytffhbfdbahdhoab.Wd
open Go.RowKit Go.Shelf
attribute [local go_sem ↓] Go.wp_at_zero Go.wp_at_succ

/-- What Plus answers. -/
def plV (gn gd bn bd mn md sn sd x : Int) : Bool := decide (noE gn gd bn bd mn md sn sd = 0) && decide (Sm x) && decide (0 ≤ nv gn gd bn bd mn md sn sd x)
def plE (gn gd bn bd mn md sn sd x : Int) : Int := if noE gn gd bn bd mn md sn sd = 0 then (if Sm x then 0 else 1) else noE gn gd bn bd mn md sn sd
theorem noE_ok {gn gd bn bd mn md sn sd : Int} (h : noE gn gd bn bd mn md sn sd = 0) : Fr gn gd ∧ Fr bn bd ∧ Fr mn md ∧ Fr sn sd ∧ 1 ≤ sn := by
  unfold noE at h
  split at h
  · rename_i k
    split at h
    · omega
    · exact ⟨k.1, k.2.1, k.2.2.1, k.2.2.2, by omega⟩
  · omega
theorem rng_of {n A : Int} (h : -A ≤ n ∧ n ≤ A) (hA : A ≤ 10000000000000000000000000000000000000) : Rng n := by unfold Rng; omega
theorem i64_of {n A : Int} (h : -A ≤ n ∧ n ≤ A) (hA : A ≤ 9000000000000000000) : I64 n := by unfold I64; omega
theorem cmp_zero (n : Int) : decide (0 ≤ cmpN n 0) = decide (0 ≤ n) := by
  by_cases h : 0 ≤ n
  · rw [decide_eq_true h]; refine decide_eq_true ?_; unfold cmpN; split <;> (try split) <;> omega
  · rw [decide_eq_false h]; refine decide_eq_false ?_; unfold cmpN; split <;> (try split) <;> omega
end Go.Proofs.Ytffhbfdbahdhoab.Wd
