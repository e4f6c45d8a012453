/-
  PLAIN MATHEMATICS: the order of numbers.
-/
import Derived.Test.YtffhbfdbahdhoabM8
namespace Go.Proofs.Ytffhbfdbahdhoab.Wd
open Go.RowKit

theorem cmp_bd (a b : Int) : -1 ≤ cmpN a b ∧ cmpN a b ≤ 1 := by unfold cmpN; split <;> (try split) <;> omega
theorem cmp_turn (a b : Int) : cmpN b a = -cmpN a b := by unfold cmpN; split <;> split <;> (try split) <;> (try split) <;> omega
theorem cmp_same (a b : Int) : (cmpN a b == 0) = (a == b) := by
  unfold cmpN; by_cases h : a < b
  · rw [if_pos h]; have : a ≠ b := by omega
    simp [this]
  · rw [if_neg h]; by_cases h2 : a = b <;> simp [h2]
theorem cmp_le {a b : Int} : cmpN a b ≤ 0 ↔ a ≤ b := by unfold cmpN; split <;> (try split) <;> omega
theorem cmp_ge {a b : Int} : 0 ≤ cmpN a b ↔ b ≤ a := by unfold cmpN; split <;> (try split) <;> omega
theorem cmp_shift (a b c : Int) : cmpN (a + c) (b + c) = cmpN a b := by unfold cmpN; split <;> split <;> (try split) <;> (try split) <;> omega
theorem low_sum {a b : Int} (ha : Rng a) (hb : Rng b) : Rng (lowN a + lowN b) := by
  have h1 := low_rng ha; have h2 := low_rng hb; unfold Rng; omega
theorem low_rng' {a : Int} (ha : Rng a) : Rng (lowN a) := by have h1 := low_rng ha; unfold Rng; omega
theorem words_eq (a b : Int) : (hiOf a = hiOf b ∧ loOf a = loOf b) ↔ a = b := ⟨fun h => hilo_inj h.1 h.2, fun h => by rw [h]; exact ⟨rfl, rfl⟩⟩
theorem words_ne {a b : Int} (h : a ≠ b) : (hiOf a == hiOf b) = false ∨ ((hiOf a == hiOf b) = true ∧ (loOf a == loOf b) = false) := by
  by_cases h1 : hiOf a = hiOf b
  · right; refine ⟨by simpa using h1, ?_⟩
    rw [beq_eq_false_iff_ne]; exact fun h2 => h (hilo_inj h1 h2)
  · left; simpa using h1
end Go.Proofs.Ytffhbfdbahdhoab.Wd
