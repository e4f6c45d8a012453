/-
  PLAIN MATHEMATICS: numbers written in decimal digits.
-/
import Derived.Test.YtffhbfdbahdhoabM5
import Derived.Lib.ItoaNum
import Derived.Lib.Repeat
namespace Go.Proofs.Ytffhbfdbahdhoab.Wd
open Go.RowKit

theorem rep_eq (c : Nat) : Lib.repeatL [48] c = List.replicate c (48 : UInt8) := by
  induction c with
  | zero => rfl
  | succ c ih => rw [Lib.repeatL, ih]; rfl
theorem show_math {n T : Int} (hn : Rng n) (hT : ((10 ^ 19 : Nat) : Int) = T) : U64 T ∧ hiOf (absN n) < T ∧ U64 (absN n / T) ∧ U64 (absN n % T) ∧ absN n % T < T := by
  have hT' : T = 10000000000000000000 := by rw [← hT]; rfl
  have h1 : 0 ≤ absN n ∧ absN n ≤ 170141183460469231731687303715884105728 := by unfold Rng at hn; unfold absN; split <;> omega
  subst hT'
  unfold U64 hiOf
  omega
theorem front_pos {N T : Int} (h : T ≤ N) (hT : 0 < T) : (N / T != 0) = true := by
  have h1 : 1 ≤ N / T := (Int.le_ediv_iff_mul_le hT).2 (by omega)
  simp; omega
theorem front_nil {N T : Int} (h0 : 0 ≤ N) (h : N < T) : (N / T != 0) = false := by
  rw [Int.ediv_eq_zero_of_lt h0 h]; rfl
/-- k digits of K, noughts ahead of it. -/
def padD : Nat → Nat → List UInt8
  | 0, _ => []
  | k + 1, K => padD k (K / 10) ++ [UInt8.ofNat (48 + K % 10)]
theorem dec_step {u : Nat} (h : ¬ u < 10) : Lib.decDigits u = Lib.decDigits (u / 10) ++ [UInt8.ofNat (48 + u % 10)] := by
  rw [Lib.decDigits, dif_neg h]
theorem dec_pad (F : Nat) (hF : 0 < F) : ∀ k K, K < 10 ^ k → Lib.decDigits (F * 10 ^ k + K) = Lib.decDigits F ++ padD k K
  | 0, K, h => by
    have : K = 0 := by simpa using h
    subst this; simp [padD]
  | k + 1, K, h => by
    have p : 0 < 10 ^ k := Nat.pow_pos (by decide)
    have e : 10 ^ (k + 1) = 10 * 10 ^ k := by rw [Nat.pow_succ, Nat.mul_comm]
    have g : 1 * 10 ^ k ≤ F * 10 ^ k := Nat.mul_le_mul_right _ hF
    rw [e] at h ⊢
    have e2 : F * (10 * 10 ^ k) = 10 * (F * 10 ^ k) := by rw [Nat.mul_left_comm]
    rw [e2]
    have e3 : (10 * (F * 10 ^ k) + K) / 10 = F * 10 ^ k + K / 10 := by omega
    have e4 : (10 * (F * 10 ^ k) + K) % 10 = K % 10 := by omega
    rw [dec_step (by omega), e3, e4, dec_pad F hF k (K / 10) (by omega), padD, List.append_assoc]
theorem pad_rep : ∀ k K, K < 10 ^ (k + 1) → padD (k + 1) K = List.replicate (k + 1 - (Lib.decDigits K).length) (48 : UInt8) ++ Lib.decDigits K
  | 0, K, h => by
    have h' : K < 10 := by simpa using h
    rw [Lib.decDigits_one h', padD, padD, Nat.mod_eq_of_lt h']; simp
  | k + 1, K, h => by
    have h' : K / 10 < 10 ^ (k + 1) := by rw [Nat.pow_succ] at h; omega
    rw [padD, pad_rep k (K / 10) h']
    by_cases g : K < 10
    · have e0 : K / 10 = 0 := by omega
      rw [e0, Lib.decDigits_one g, Lib.decDigits_one (show 0 < 10 by decide), Nat.mod_eq_of_lt g]
      have e1 : List.replicate (k + 1 - [UInt8.ofNat (48 + 0)].length) (48 : UInt8) ++ [UInt8.ofNat (48 + 0)] = List.replicate (k + 1) 48 := by
        rw [List.replicate_succ']; rfl
      rw [e1]; rfl
    · rw [dec_step g]
      have e1 : k + 1 + 1 - (Lib.decDigits (K / 10) ++ [UInt8.ofNat (48 + K % 10)]).length = k + 1 - (Lib.decDigits (K / 10)).length := by simp
      rw [e1, List.append_assoc]
theorem dec_len {k K : Nat} (h : K < 10 ^ (k + 1)) : (Lib.decDigits K).length ≤ k + 1 := by
  have e := congrArg List.length (pad_rep k K h)
  have e2 : ∀ k K, (padD k K).length = k := by
    intro k
    induction k with
    | zero => intro K; rfl
    | succ k ih => intro K; simp [padD, ih]
  rw [e2] at e
  simp at e
  omega
theorem dec_len_pos (K : Nat) : 1 ≤ (Lib.decDigits K).length := by
  rw [Lib.decDigits]; split <;> simp
/-- How Show puts a great number together. -/
theorem dec_glue {F K : Nat} (hF : 0 < F) (hK : K < 10 ^ 19) : Lib.decDigits F ++ List.replicate (19 - (Lib.decDigits K).length) (48 : UInt8) ++ Lib.decDigits K = Lib.decDigits (F * 10 ^ 19 + K) := by
  rw [dec_pad F hF 19 K hK, pad_rep 18 K hK, List.append_assoc]
/-- The text of a number. -/
def showL (n : Int) : List UInt8 := if n < 0 then 45 :: Lib.decDigits (absN n).toNat else Lib.decDigits (absN n).toNat
theorem show_neg {n : Int} (h : n < 0) : showL n = 45 :: Lib.decDigits (absN n).toNat := if_pos h
theorem show_pos {n : Int} (h : ¬ n < 0) : showL n = Lib.decDigits (absN n).toNat := if_neg h
theorem abs_parts {n T F K : Int} (hT : ((10 ^ 19 : Nat) : Int) = T) (hF : absN n / T = F) (hK : absN n % T = K) (h0 : 0 ≤ F) (h1 : 0 ≤ K) : (absN n).toNat = F.toNat * 10 ^ 19 + K.toNat := by
  have e := Int.mul_ediv_add_emod (absN n) T
  rw [hF, hK] at e
  subst hT
  obtain ⟨F, rfl⟩ := Int.eq_ofNat_of_zero_le h0
  obtain ⟨K, rfl⟩ := Int.eq_ofNat_of_zero_le h1
  rw [← e]
  simp only [Int.toNat_natCast]
  omega
end Go.Proofs.Ytffhbfdbahdhoab.Wd
