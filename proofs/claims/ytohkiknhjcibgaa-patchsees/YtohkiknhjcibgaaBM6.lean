/- WHAT THE OPERATIONS KEEP: plain mathematics. -/
import Derived.Test.YtohkiknhjcibgaaBM5
namespace Go.Proofs.Ytohkiknhjcibgaa

theorem nt_nt {n A : Nat} (h : A < 2 ^ n) : nt n (nt n A) = A := by unfold nt; omega
theorem and_nt {n A : Nat} (h : A < 2 ^ n) : A &&& nt n A = 0 := by
  refine Nat.eq_of_testBit_eq fun i => ?_
  rw [Nat.testBit_and, nt_bit h]
  cases A.testBit i <;> simp
theorem xor_xor' (A B : Nat) : (A ^^^ B) ^^^ B = A := by rw [Nat.xor_assoc, Nat.xor_self, Nat.xor_zero]
theorem and_lt' {n A B : Nat} (h : A < 2 ^ n) : A &&& B < 2 ^ n := Nat.lt_of_le_of_lt Nat.and_le_left h
theorem xor_lt' {n A B : Nat} (h : A < 2 ^ n) (h' : B < 2 ^ n) : A ^^^ B < 2 ^ n := Nat.xor_lt_two_pow h h'
theorem ia_take {l : List Int} {n k : Nat} (h : k < n) : ia (l.take n) k = ia l k := by
  unfold ia
  rw [List.getD_eq_getElem?_getD, List.getElem?_take_of_lt h, List.getD_eq_getElem?_getD]
end Go.Proofs.Ytohkiknhjcibgaa
