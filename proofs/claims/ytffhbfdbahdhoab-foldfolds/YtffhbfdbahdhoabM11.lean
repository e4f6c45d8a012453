/-
  PLAIN MATHEMATICS: both roundings of a quotient.
-/
import Derived.Test.YtffhbfdbahdhoabW17
namespace Go.Proofs.Ytffhbfdbahdhoab.Wd
open Go.RowKit

theorem sign_hi (a : Int) : decide (hiOf a < 0) = decide (a < 0) := by
  by_cases h : a < 0
  · rw [decide_eq_true h, decide_eq_true (hi_ngt h)]
  · rw [decide_eq_false h, hi_nn (by omega)]
/-- What both roundings come to: Q, R: quotient and rest of the sizes; d: 1 where a rest is left. -/
theorem round_sizes {a b : Int} (h0 : b ≠ 0) : ∃ Q R d : Int, 0 ≤ Q ∧ 0 ≤ R ∧ R < absN b ∧ absN a = absN b * Q + R ∧ ((R = 0 ∧ d = 0) ∨ (R ≠ 0 ∧ d = 1)) ∧
    ((a < 0 ↔ b < 0) → floorN a b = Q ∧ ceilN a b = Q + d) ∧ (¬ (a < 0 ↔ b < 0) → floorN a b = -(Q + d) ∧ ceilN a b = -Q) := by
  have hb := absN_pos h0
  have ha : 0 ≤ absN a := by unfold absN; split <;> omega
  refine ⟨quoN a b, restN a b, if restN a b = 0 then 0 else 1, Int.ediv_nonneg ha (by omega), Int.emod_nonneg _ (by omega), Int.emod_lt_of_pos _ hb, (Int.mul_ediv_add_emod _ _).symm, ?_, ?_, ?_⟩
  · by_cases h : restN a b = 0
    · exact .inl ⟨h, if_pos h⟩
    · exact .inr ⟨h, if_neg h⟩
  · intro hs
    unfold floorN ceilN awayN sgN
    rw [sign_hi]
    have e : decide (a < 0) = decide (b < 0) := by rw [decide_eq_decide]; exact hs
    rw [e]
    by_cases h3 : restN a b = 0 <;> simp [h3]
  · intro hs
    unfold floorN ceilN awayN sgN
    rw [sign_hi]
    have e : (decide (a < 0) == decide (b < 0)) = false := by
      by_cases h1 : a < 0 <;> by_cases h2 : b < 0 <;> simp [h1, h2] at hs ⊢
    rw [e]
    by_cases h3 : restN a b = 0 <;> simp [h3]
/-- The sizes' quotient and rest are told by what they do. -/
theorem round_same {A B Q R Q' R' : Int} (h : A = B * Q + R) (h' : A = B * Q' + R') (h0 : 0 ≤ R) (h1 : R < B) (g0 : 0 ≤ R') (g1 : R' < B) : Q = Q' ∧ R = R' := by
  have hB : 0 < B := by omega
  have u := (Int.ediv_emod_unique (a := A) (r := R) (q := Q) hB).2 ⟨by omega, h0, h1⟩
  have u' := (Int.ediv_emod_unique (a := A) (r := R') (q := Q') hB).2 ⟨by omega, g0, g1⟩
  exact ⟨u.1.symm.trans u'.1, u.2.symm.trans u'.2⟩
theorem floors_math {a b : Int} (ha : -42535295865117307932921825928971026432 ≤ a ∧ a < 42535295865117307932921825928971026432) (hb : I64 b) (h0 : b ≠ 0) :
    ∃ q r l : Int, floorN a b = q ∧ ceilN a b = r ∧ floorN (-a) b = -r ∧ a + -(q * b) = l ∧ (0 < b → 0 ≤ l ∧ l < b) ∧ (b < 0 → b < l ∧ l ≤ 0) ∧ ((l = 0 ∧ r = q) ∨ (l ≠ 0 ∧ r = q + 1)) ∧
      -85070591730234615865843651857942052864 ≤ q ∧ q ≤ 85070591730234615865843651857942052864 ∧ Rng (q * b) ∧ Rng (-(q * b)) := by
  obtain ⟨Q, R, d, q0, r0, r1, e, hd, hs, hn⟩ := round_sizes (a := a) h0
  obtain ⟨Q', R', d', q0', r0', r1', e', hd', hs', hn'⟩ := round_sizes (a := -a) h0
  have ea : absN (-a) = absN a := by unfold absN; split <;> split <;> omega
  rw [ea] at e'
  obtain ⟨rfl, rfl⟩ := round_same e' e r0' r1' r0 r1
  have ed : d' = d := by rcases hd with ⟨h1, h2⟩ | ⟨h1, h2⟩ <;> rcases hd' with ⟨h3, h4⟩ | ⟨h3, h4⟩ <;> omega
  subst ed
  clear hd' q0' r0' r1' e'
  have bB : 0 < absN b := absN_pos h0
  have hQ : Q' ≤ absN b * Q' := by
    have h1 : 1 * Q' ≤ absN b * Q' := Int.mul_le_mul_of_nonneg_right (by omega) q0
    omega
  have eA : (a < 0 ∧ absN a = -a) ∨ (¬ a < 0 ∧ absN a = a) := by
    by_cases h : a < 0
    · exact .inl ⟨h, if_pos h⟩
    · exact .inr ⟨h, if_neg h⟩
  have eB : (b < 0 ∧ absN b = -b) ∨ (¬ b < 0 ∧ absN b = b) := by
    by_cases h : b < 0
    · exact .inl ⟨h, if_pos h⟩
    · exact .inr ⟨h, if_neg h⟩
  have hPD : (R' = 0 ∧ d' = 0 ∧ absN b * d' = 0) ∨ (R' ≠ 0 ∧ d' = 1 ∧ absN b * d' = absN b) := by
    rcases hd with ⟨h1, rfl⟩ | ⟨h1, rfl⟩
    · exact .inl ⟨h1, rfl, by simp⟩
    · exact .inr ⟨h1, rfl, by simp⟩
  have hb64 : absN b < 18446744073709551616 := (absN_u64 hb).2
  refine ⟨floorN a b, ceilN a b, a + -(floorN a b * b), rfl, rfl, ?_, rfl, ?_⟩
  · by_cases hsame : (a < 0 ↔ b < 0)
    · rw [(hs hsame).2]
      by_cases hz : a = 0
      · have hb0 : ¬ b < 0 := by omega
        rw [(hs' (by omega)).1]
        rcases eA with ⟨_, h⟩ | ⟨_, h⟩ <;> rcases hPD with ⟨_, h2, _⟩ | ⟨_, h2, _⟩ <;> omega
      · rw [(hn' (by omega)).1]
    · rw [(hn hsame).2]
      by_cases hz : a = 0
      · rw [(hn' (by omega)).1]
        rcases eA with ⟨_, h⟩ | ⟨_, h⟩ <;> rcases hPD with ⟨_, h2, _⟩ | ⟨_, h2, _⟩ <;> omega
      · rw [(hs' (by omega)).1]; omega
  · clear hs' hn'
    by_cases hsame : (a < 0 ↔ b < 0)
    · rw [(hs hsame).1, (hs hsame).2]
      have e1 : (b < 0 ∧ Q' * b = -(absN b * Q')) ∨ (¬ b < 0 ∧ Q' * b = absN b * Q') := by
        rcases eB with ⟨h, h2⟩ | ⟨h, h2⟩
        · exact .inl ⟨h, by rw [h2, Int.neg_mul, Int.neg_neg, Int.mul_comm]⟩
        · exact .inr ⟨h, by rw [h2, Int.mul_comm]⟩
      clear hs hn
      unfold Rng
      generalize absN b * Q' = P at *
      generalize absN b * d' = D at *
      generalize Q' * b = S at *
      generalize absN a = A at *
      generalize absN b = B at *
      rcases eA with ⟨_, _⟩ | ⟨_, _⟩ <;> rcases eB with ⟨_, _⟩ | ⟨_, _⟩ <;> rcases e1 with ⟨_, _⟩ | ⟨_, _⟩ <;> rcases hPD with ⟨_, _, _⟩ | ⟨_, _, _⟩ <;> omega
    · rw [(hn hsame).1, (hn hsame).2]
      have e1 : (b < 0 ∧ -(Q' + d') * b = absN b * Q' + absN b * d') ∨ (¬ b < 0 ∧ -(Q' + d') * b = -(absN b * Q' + absN b * d')) := by
        rcases eB with ⟨h, h2⟩ | ⟨h, h2⟩
        · exact .inl ⟨h, by rw [h2, ← Int.mul_add, Int.neg_mul, Int.neg_mul, Int.mul_comm]⟩
        · exact .inr ⟨h, by rw [h2, ← Int.mul_add, Int.neg_mul, Int.mul_comm]⟩
      clear hs hn
      unfold Rng
      generalize absN b * Q' = P at *
      generalize absN b * d' = D at *
      generalize -(Q' + d') * b = S at *
      generalize absN a = A at *
      generalize absN b = B at *
      rcases eA with ⟨_, _⟩ | ⟨_, _⟩ <;> rcases eB with ⟨_, _⟩ | ⟨_, _⟩ <;> rcases e1 with ⟨_, _⟩ | ⟨_, _⟩ <;> rcases hPD with ⟨_, _, _⟩ | ⟨_, _, _⟩ <;> omega
end Go.Proofs.Ytffhbfdbahdhoab.Wd
