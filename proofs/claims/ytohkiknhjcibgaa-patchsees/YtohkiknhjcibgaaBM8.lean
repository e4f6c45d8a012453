/- ONE BIT IN A LONG ROW: plain mathematics. -/
import Derived.Test.YtohkiknhjcibgaaBM7
namespace Go.Proofs.Ytohkiknhjcibgaa

theorem one_list (n k : Nat) (h : k < n) : ∃ l : List Int, l.length = n ∧ ∀ i, ia l i = if i = k then 1 else 0 := by
  refine ⟨(List.replicate n 0).set k 1, by simp, fun i => ?_⟩
  unfold ia
  rw [List.getD_eq_getElem?_getD, List.getElem?_set]
  by_cases e : k = i
  · subst e
    simp [h]
  · rw [if_neg e, if_neg (fun e' => e e'.symm), List.getElem?_replicate]
    split <;> rfl
/-- Just the bit k is set. -/
def Only (A k : Nat) : Prop := ∀ i, A.testBit i = decide (i = k)
theorem only_pk {l : List Int} {k Z : Nat} (h : ∀ i, ia l i = if i = k then 1 else 0) (hk : k < Z) : Only (pk l Z) k := by
  intro i
  rw [pk_bit, h i]
  by_cases e : i = k
  · subst e; simp [hk]
  · simp [e]
theorem only_pc {A k : Nat} (h : Only A k) : ∀ n, pc A n = if k < n then 1 else 0
  | 0 => rfl
  | n + 1 => by
    simp only [pc]
    rw [only_pc h n, h n]
    by_cases e : n = k
    · subst e; simp
    · by_cases h2 : k < n
      · rw [if_pos h2, if_pos (by omega)]; simp [e]
      · rw [if_neg h2, if_neg (by omega)]; simp [e]
theorem only_sl {A k a b : Nat} (h : Only A k) (ha : a ≤ k) (hb : k < b) : sl A a b = 2 ^ (k - a) := by
  refine Nat.eq_of_testBit_eq fun i => ?_
  rw [sl_bit, h, Nat.testBit_two_pow]
  by_cases e : k - a = i
  · have e1 : i < b - a := by omega
    have e2 : a + i = k := by omega
    simp [e, e1, e2]
  · have e2 : ¬ a + i = k := by omega
    simp [e, e2]
def three {α : Type} (a b c : α) : Nat → α := fun j => if j = 0 then a else if j = 1 then b else c
theorem off_three (Z : Nat) : off (three 0 Z 0) 3 = Z := by
  show ((0 + 0) + Z) + 0 = Z
  omega
theorem jn_three (Z A : Nat) : jn (three 0 Z 0) (three 0 A 0) 3 = A := by
  show ((0 ||| 0 * 2 ^ 0) ||| A * 2 ^ (0 + 0)) ||| 0 * 2 ^ ((0 + 0) + Z) = A
  rw [Nat.zero_mul, Nat.zero_mul, Nat.or_zero, Nat.or_zero, Nat.zero_or, Nat.add_zero, Nat.pow_zero, Nat.mul_one]
end Go.Proofs.Ytohkiknhjcibgaa
