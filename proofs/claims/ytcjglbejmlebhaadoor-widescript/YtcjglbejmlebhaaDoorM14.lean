import Derived.Test.YtcjglbejmlebhaaDoorM13
namespace Go.Proofs.YtcjglbejmlebhaaDoor
open Go.RowKit Go.Shelf

/-- What of a number has been gone through: all above, and s bits of the digit at hand. -/
def pre (H D : Int) (s : Nat) : Int := H * 2 ^ s + D / 2 ^ (16 - s)
theorem pre_zero {H D : Int} (h : 0 ≤ D ∧ D < 65536) : pre H D 0 = H := by
  unfold pre
  have e : D / 2 ^ (16 - 0) = 0 := Int.ediv_eq_zero_of_lt h.1 (by simpa using h.2)
  rw [e]; simp
theorem pre_end (H D : Int) : pre H D 16 = H * 65536 + D := by
  unfold pre
  simp
theorem pre_step (H D : Int) {s : Nat} (hs : s < 16) : pre H D (s + 1) = 2 * pre H D s + D / 2 ^ (15 - s) % 2 := by
  unfold pre
  rw [show 16 - (s + 1) = 15 - s by omega, show 16 - s = (15 - s) + 1 by omega, Int.pow_succ, Int.pow_succ]
  have hp : (0 : Int) ≤ 2 ^ (15 - s) := Int.le_of_lt (Int.pow_pos (by decide))
  generalize (2 : Int) ^ (15 - s) = p at *
  have e : D / (p * 2) = D / p / 2 := (Int.ediv_ediv_of_nonneg hp).symm
  rw [e, ← Int.mul_assoc]
  generalize H * 2 ^ s = h
  generalize D / p = E
  omega
theorem drop_val {a : List Int} {i : Nat} (h : i < a.length) : val (a.drop i) = val (a.drop (i + 1)) * 65536 + dat a i := by
  rw [List.drop_eq_getElem_cons h]
  simp only [val, dat, List.getElem?_eq_getElem h, Option.getD_some]
  omega
theorem pre_nonneg {H D : Int} (hH : 0 ≤ H) (hD : 0 ≤ D) (s : Nat) : 0 ≤ pre H D s := by
  unfold pre
  have a1 : (0 : Int) < 2 ^ s := Int.pow_pos (by decide)
  have a2 : (0 : Int) < 2 ^ (16 - s) := Int.pow_pos (by decide)
  have := Int.mul_nonneg hH (Int.le_of_lt a1)
  have := Int.ediv_nonneg hD (Int.le_of_lt a2)
  omega
/-- One step of a division bit by bit: where r is at least b, b is taken off. -/
theorem part_step {P q r b t : Int} (h : P = q * b + r) (h1 : 0 ≤ r) (h2 : r < b) (ht : t = 0 ∨ t = 1) :
    (b ≤ 2 * r + t → 2 * P + t = (2 * q + 1) * b + (2 * r + t - b) ∧ 0 ≤ 2 * r + t - b ∧ 2 * r + t - b < b) ∧
    (2 * r + t < b → 2 * P + t = (2 * q) * b + (2 * r + t) ∧ 0 ≤ 2 * r + t) := by
  have e1 : (2 * q + 1) * b = 2 * (q * b) + b := by rw [Int.add_mul, Int.mul_assoc]; omega
  have e2 : (2 * q) * b = 2 * (q * b) := by rw [Int.mul_assoc]
  refine ⟨fun k => ?_, fun k => ?_⟩
  · rw [e1]; omega
  · rw [e2]; omega
end Go.Proofs.YtcjglbejmlebhaaDoor
