/- AMOUNTS AND PARITY: plain mathematics. -/
import Derived.Test.YtgciefmjbaphiaaDoorDM1
namespace Go.Proofs.YtgciefmjbaphiaaDoor

theorem tq_cnt (C A B : Nat) : ∀ n : Nat, -(pc C n : Int) ≤ tq C A B n ∧ tq C A B n ≤ pc C n ∧ (tq C A B n - pc C n) % 2 = 0
  | 0 => by simp [tq, pc]
  | n + 1 => by
    obtain ⟨h1, h2, h3⟩ := tq_cnt C A B n
    simp only [tq, pc]
    unfold tm
    cases C.testBit n
    · simp; omega
    · cases A.testBit n == B.testBit n <;> simp <;> omega
theorem pc_and_le (A B : Nat) : ∀ n, pc (A &&& B) n ≤ pc A n
  | 0 => Nat.le_refl _
  | n + 1 => by
    have := pc_and_le A B n
    simp only [pc, Nat.testBit_and]
    cases A.testBit n <;> cases B.testBit n <;> simp <;> omega
theorem nat8_bd (P : Nat → Nat) (i : Nat) : -128 ≤ nat8 P i 8 ∧ nat8 P i 8 ≤ 127 := by
  have h := fun p => Bool.toNat_le ((P p).testBit i)
  have h0 := h 0
  have h1 := h 1
  have h2 := h 2
  have h3 := h 3
  have h4 := h 4
  have h5 := h 5
  have h6 := h 6
  have h7 := h 7
  simp only [nat8, pw]
  generalize ((P 0).testBit i).toNat = b0 at *
  generalize ((P 1).testBit i).toNat = b1 at *
  generalize ((P 2).testBit i).toNat = b2 at *
  generalize ((P 3).testBit i).toNat = b3 at *
  generalize ((P 4).testBit i).toNat = b4 at *
  generalize ((P 5).testBit i).toNat = b5 at *
  generalize ((P 6).testBit i).toNat = b6 at *
  generalize ((P 7).testBit i).toNat = b7 at *
  simp
  omega
theorem wt_zero {S M i : Nat} (h : M.testBit i = false) : wt S M i = 0 := by unfold wt; rw [if_neg (by simp [h])]
theorem wt_one {S M i : Nat} (h : M.testBit i = true) : wt S M i = 1 ∨ wt S M i = -1 := by
  unfold wt; rw [if_pos h]
  cases S.testBit i
  · exact .inr rfl
  · exact .inl rfl
theorem sm_cnt (S M : Nat) (x : Nat → Int) : ∀ n : Nat, (∀ i, i < n → -128 ≤ x i ∧ x i ≤ 128) → -(128 * (pc M n : Int)) ≤ sm (fun i => wt S M i * x i) n ∧ sm (fun i => wt S M i * x i) n ≤ 128 * (pc M n : Int)
  | 0, _ => by simp [sm, pc]
  | n + 1, h => by
    have h1 := sm_cnt S M x n (fun i hi => h i (by omega))
    have h2 := h n (by omega)
    simp only [sm, pc]
    cases hm : M.testBit n
    · rw [wt_zero hm]; simp; omega
    · rcases wt_one (S := S) hm with e | e <;> rw [e] <;> simp <;> omega
theorem npl_cnt (S M : Nat) (P : Nat → Nat) (n : Nat) : -(128 * (pc M n : Int)) ≤ npl S M P n 8 ∧ npl S M P n 8 ≤ 128 * (pc M n : Int) := by
  rw [npl_is]
  exact sm_cnt S M _ n fun i _ => by have := nat8_bd P i; omega
end Go.Proofs.YtgciefmjbaphiaaDoor
