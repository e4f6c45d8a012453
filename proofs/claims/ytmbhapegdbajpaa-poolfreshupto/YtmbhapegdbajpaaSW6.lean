/- SHAPES: THE DOCUMENT'S OWN INDEX, PLACE, WINDOW, STEPS, WALKED. -/
import Derived.Test.YtmbhapegdbajpaaSW5
namespace Go.Proofs.Ytmbhapegdbajpaa.Sg
open Go.RowKit

theorem div_is {a b q r : Int} (h : a = q * b + r) (h1 : 0 ≤ r) (h2 : r < b) : a / b = q ∧ a % b = r :=
  (Int.ediv_emod_unique (by omega)).2 ⟨by rw [h, Int.mul_comm q b]; omega, h1, h2⟩
theorem place_math {i j I m J v c : Int} (h1 : i = j * (v * c) + I) (h2 : I < v * c) (h3 : I = m * c + J) (h4 : 0 ≤ J) (h5 : J < c) (hm : 0 ≤ m) : i / c / v = j ∧ i / c % v = m ∧ i % c = J := by
  have a1 : i = (j * v + m) * c + J := by rw [h1, h3, Int.add_mul, Int.mul_assoc]; omega
  obtain ⟨q, r⟩ := div_is a1 h4 h5
  have hv : m < v := by
    apply Int.lt_of_mul_lt_mul_right (a := c) _ (by omega)
    omega
  obtain ⟨q2, r2⟩ := div_is (a := j * v + m) (b := v) (q := j) (r := m) rfl hm hv
  rw [q, r]
  exact ⟨q2, r2, rfl⟩
end Go.Proofs.Ytmbhapegdbajpaa.Sg
