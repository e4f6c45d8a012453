/- dot.Check. -/
import Derived.Test.YtlgjoepeibodkaaGreatDW1
namespace Go.Proofs.YtlgjoepeibodkaaGreat
open Go.RowKit

/-- A row of weights as a value. -/
abbrev rwv (A B : Bt) : Value := .agg #[.int .i64 A.n, .slice A.ao A.m A.cap, .int .i64 B.n, .slice B.ao B.m B.cap]
/-- Its four cells. -/
def qf (A B : Bt) : Nat → Value := fun k => if k = 0 then .int .i64 A.n else if k = 1 then .slice A.ao A.m A.cap else if k = 2 then .int .i64 B.n else .slice B.ao B.m B.cap
theorem q_new (w : World) (A B : Bt) (t : TypeId) : (w.alloc (.cells #[.int .i64 A.n, .slice A.ao A.m A.cap, .int .i64 B.n, .slice B.ao B.m B.cap] t)).rowIs w.heap.size t 4 (qf A B) :=
  World.rowIs_alloc w _ t _ (fun i hi => by
    rcases i with _ | _ | _ | _ | i
    · rfl
    · rfl
    · rfl
    · rfl
    · simp at hi; omega)
theorem q0 {w : World} {b t : Nat} {A B : Bt} (h : w.rowIs b t 4 (qf A B)) : w.cell? ⟨b, 0, none⟩ = some (.int .i64 A.n) := h.cell (by omega)
theorem q1 {w : World} {b t : Nat} {A B : Bt} (h : w.rowIs b t 4 (qf A B)) : w.cell? ⟨b, 1, none⟩ = some (.slice A.ao A.m A.cap) := h.cell (by omega)
theorem q2 {w : World} {b t : Nat} {A B : Bt} (h : w.rowIs b t 4 (qf A B)) : w.cell? ⟨b, 2, none⟩ = some (.int .i64 B.n) := h.cell (by omega)
theorem q3 {w : World} {b t : Nat} {A B : Bt} (h : w.rowIs b t 4 (qf A B)) : w.cell? ⟨b, 3, none⟩ = some (.slice B.ao B.m B.cap) := h.cell (by omega)

/-- No word of A has a bit that the word of B lacks. -/
theorem sub_words {A B m : Nat} (hA : A < 2 ^ (64 * m)) : A &&& B = A ↔ ∀ k, k < m → wd A k &&& (18446744073709551615 - wd B k) = 0 := by
  have key : ∀ k, (wd A k &&& (18446744073709551615 - wd B k) = 0 ↔ wd (A &&& B) k = wd A k) := fun k => by
    have hc : ∀ i, i < 64 → (18446744073709551615 - wd B k).testBit i = !((wd B k).testBit i) := fun i hi => by
      have hb := wd_lt B k
      have e : 18446744073709551615 - wd B k = 2 ^ 64 - (wd B k + 1) := by rw [← two64]; omega
      rw [e, Nat.testBit_two_pow_sub_succ (by rw [← two64]; exact hb)]
      simp [hi]
    rw [wd_and]
    constructor
    · intro h
      refine wd_ext (and_lt64 (wd_lt _ _)) (wd_lt _ _) fun i hi => ?_
      have h1 := congrArg (fun x => Nat.testBit x i) h
      simp only [Nat.testBit_and, Nat.zero_testBit] at h1
      rw [hc i hi] at h1
      rw [Nat.testBit_and]
      cases h2 : (wd A k).testBit i <;> cases h3 : (wd B k).testBit i <;> simp [h2, h3] at h1 ⊢
    · intro h
      refine wd_ext (and_lt64 (wd_lt _ _)) (by decide) fun i hi => ?_
      have h1 := congrArg (fun x => Nat.testBit x i) h
      simp only [Nat.testBit_and] at h1
      rw [Nat.testBit_and, hc i hi]
      cases h2 : (wd A k).testBit i <;> cases h3 : (wd B k).testBit i <;> simp [h2, h3] at h1 ⊢
  constructor
  · intro h k _
    rw [key, h]
  · intro h
    exact num_ext (Nat.lt_of_le_of_lt Nat.and_le_left hA) hA fun k hk => (key k).1 (h k hk)
/-- What Check tells. -/
def dck (A B : Bt) : Int := if A.chk ≠ 0 ∨ ftB B.n B.m B.N A.n = false then 20 else if A.N &&& B.N = A.N then 0 else 100
theorem dck_zero {A B : Bt} (h : dck A B = 0) : ∃ n : Nat, A.n = n ∧ B.n = n ∧ n ≤ 16777216 ∧ A.m = nw n ∧ B.m = nw n ∧ A.N < 2 ^ n ∧ B.N < 2 ^ n ∧ A.N &&& B.N = A.N := by
  unfold dck at h
  by_cases h1 : A.chk ≠ 0 ∨ ftB B.n B.m B.N A.n = false
  · rw [if_pos h1] at h; omega
  rw [if_neg h1] at h
  by_cases h2 : A.N &&& B.N = A.N
  · have h3 : A.chk = 0 := Classical.byContradiction fun h3 => h1 (.inl h3)
    have h4 : ¬ ftB B.n B.m B.N A.n = false := fun h4 => h1 (.inr h4)
    simp [ftB] at h4
    obtain ⟨k, e1, e2, e3, e4⟩ := chk_zero h3
    obtain ⟨j, f1, f2, f3, f4⟩ := chk_zero h4.1
    have : j = k := by have := h4.2; omega
    subst this
    exact ⟨j, e1, f1, e2, e3, f3, e4, f4, h2⟩
  · rw [if_neg h2] at h; omega

end Go.Proofs.YtlgjoepeibodkaaGreat
