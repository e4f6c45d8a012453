/- SHAPES: THE DOCUMENT'S OWN WINDOW, STEPS, WALKED. -/
import Derived.Test.YtmbhapegdbajpaaSW6
namespace Go.Proofs.Ytmbhapegdbajpaa.Sg
open Go.RowKit

theorem stN_done {n bf af wi st j all : Int} (ha : all = n + bf + af) (h1 : 1 ≤ st) (h2 : j * st + wi > all) (h3 : j = 0 ∨ (1 ≤ j ∧ (j - 1) * st + wi ≤ all)) : stN n bf af wi st = j := by
  have e : bf + n + af = all := by omega
  unfold stN
  rw [e]
  rcases h3 with rfl | ⟨h4, h5⟩
  · rw [if_pos (by omega)]
  · have e2 : (j - 1) * st = j * st - st := by rw [Int.sub_mul, Int.one_mul]
    have k : 0 ≤ (j - 1) * st := Int.mul_nonneg (by omega) (by omega)
    rw [if_neg (by omega), (div_is (a := all - wi) (b := st) (q := j - 1) (r := all - wi - (j - 1) * st) (by omega) (by omega) (by omega)).1]
    omega
end Go.Proofs.Ytmbhapegdbajpaa.Sg
