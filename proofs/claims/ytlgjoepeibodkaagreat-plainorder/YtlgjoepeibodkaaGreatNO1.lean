/- bound: weights counted; a layer's reaches. -/
import Derived.Test.YtlgjoepeibodkaaGreatNP5
import Derived.Test.YtlgjoepeibodkaaGreatOB1
import Derived.Deep.RegionHeld3
namespace Go.Proofs.YtlgjoepeibodkaaGreat.Nn
open Go.RowKit

/-- How many of the first n are v. -/
def cnW (f : Nat → Int) (v : Int) : Nat → Nat
  | 0 => 0
  | n + 1 => cnW f v n + if f n = v then 1 else 0
theorem cnW_le (f : Nat → Int) (v : Int) : ∀ n, cnW f v n ≤ n
  | 0 => Nat.le_refl _
  | n + 1 => by have := cnW_le f v n; unfold cnW; split <;> omega
theorem cnW_two (f : Nat → Int) : ∀ n, cnW f 1 n + cnW f (-1) n ≤ n
  | 0 => Nat.le_refl _
  | n + 1 => by
    have := cnW_two f n
    simp only [cnW]
    by_cases h1 : f n = 1
    · rw [if_pos h1, if_neg (by omega)]; omega
    · rw [if_neg h1]; split <;> omega
theorem cnW_congr {f g : Nat → Int} {v : Int} : ∀ {n : Nat}, (∀ i, i < n → f i = g i) → cnW f v n = cnW g v n
  | 0, _ => rfl
  | n + 1, h => by simp only [cnW]; rw [h n (by omega), cnW_congr (n := n) fun i hi => h i (by omega)]
end Go.Proofs.YtlgjoepeibodkaaGreat.Nn
