/-
  PLAIN MATHEMATICS: numbers read off decimal digits.
-/
import Derived.Test.YtffhbfdbahdhoabM6
namespace Go.Proofs.Ytffhbfdbahdhoab.Wd
open Go.RowKit

/-- The number that digits tell, a number in front of them. -/
def valD (n : Int) : List UInt8 → Int
  | [] => n
  | c :: l => valD (n * 10 + ((c.toNat : Int) - 48)) l
def isDig (c : UInt8) : Bool := decide (48 ≤ c.toNat ∧ c.toNat ≤ 57)
theorem valD_append (n : Int) (a b : List UInt8) : valD n (a ++ b) = valD (valD n a) b := by
  induction a generalizing n with
  | nil => rfl
  | cons c a ih => exact ih _
theorem dig_bd {c : UInt8} (h : isDig c = true) : 48 ≤ c.toNat ∧ c.toNat ≤ 57 := by simpa [isDig] using h
theorem valD_split (n : Int) : ∀ l : List UInt8, valD n l = n * ((10 ^ l.length : Nat) : Int) + valD 0 l
  | [] => by simp [valD]
  | c :: l => by
    rw [valD, valD, valD_split _ l, valD_split (0 * 10 + _) l, List.length_cons, Nat.pow_succ]
    have e : (((10 ^ l.length * 10 : Nat)) : Int) = ((10 ^ l.length : Nat) : Int) * 10 := by simp
    rw [e]
    generalize ((10 ^ l.length : Nat) : Int) = p
    generalize valD 0 l = v
    rw [Int.add_mul, Int.mul_assoc, Int.mul_comm 10 p]
    simp; omega
theorem valD_bd : ∀ l : List UInt8, (∀ c ∈ l, isDig c = true) → 0 ≤ valD 0 l ∧ valD 0 l < ((10 ^ l.length : Nat) : Int)
  | [], _ => by simp [valD]
  | c :: l, h => by
    obtain ⟨h1, h2⟩ := valD_bd l (fun x hx => h x (List.mem_cons_of_mem _ hx))
    obtain ⟨b1, b2⟩ := dig_bd (h c (List.mem_cons_self ..))
    rw [valD, valD_split, List.length_cons, Nat.pow_succ]
    have e : (((10 ^ l.length * 10 : Nat)) : Int) = ((10 ^ l.length : Nat) : Int) * 10 := by simp
    rw [e]
    generalize ((10 ^ l.length : Nat) : Int) = p at *
    have k1 : 0 ≤ (0 * 10 + ((c.toNat : Int) - 48)) * p := Int.mul_nonneg (by omega) (by omega)
    have k2 : (0 * 10 + ((c.toNat : Int) - 48)) * p ≤ 9 * p := Int.mul_le_mul_of_nonneg_right (by omega) (by omega)
    omega
theorem valD_mono {n : Int} (l : List UInt8) (h : ∀ c ∈ l, isDig c = true) : n * ((10 ^ l.length : Nat) : Int) ≤ valD n l := by
  rw [valD_split]; have := (valD_bd l h).1; omega
/-- The words of a product of a size with a word. -/
theorem times_math {n k : Int} (hn : Siz n) (hk : U64 k) :
    (Siz (n * k) → (hiOf (hiOf n * k) == 0) = true ∧ sumW (loOf (hiOf n * k)) (hiOf (loOf n * k)) 0 = hiOf (n * k) ∧ (carW (loOf (hiOf n * k)) (hiOf (loOf n * k)) 0 == 0) = true) ∧
    (¬ Siz (n * k) → (hiOf (hiOf n * k) == 0) = false ∨ ((hiOf (hiOf n * k) == 0) = true ∧ (carW (loOf (hiOf n * k)) (hiOf (loOf n * k)) 0 == 0) = false)) ∧ loOf (loOf n * k) = loOf (n * k) := by
  have e := hilo n
  have e1 : n * k = hiOf n * k * 18446744073709551616 + loOf n * k := by
    have h := congrArg (· * k) e
    simp only [Int.add_mul] at h
    rw [← h, Int.mul_assoc, Int.mul_comm 18446744073709551616 k, ← Int.mul_assoc]
  have p1 : 0 ≤ hiOf n * k := Int.mul_nonneg (hi_u64 hn).1 hk.1
  have p2 : 0 ≤ loOf n * k := Int.mul_nonneg (lo_u64 n).1 hk.1
  generalize hiOf n * k = a at *
  generalize loOf n * k = b at *
  generalize n * k = m at *
  simp only [beq_iff_eq, beq_eq_false_iff_ne]
  unfold Siz carW sumW hiOf loOf
  refine ⟨fun h => ?_, fun h => ?_, ?_⟩ <;> omega
theorem plus_no_math {n k : Int} (h : ¬ Siz (n + k)) : (carW (hiOf n) 0 (carW (loOf n) k 0) == 0) = false := by
  rw [beq_eq_false_iff_ne]
  unfold Siz at h; unfold carW hiOf loOf; omega
end Go.Proofs.Ytffhbfdbahdhoab.Wd
