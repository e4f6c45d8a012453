/- bound: the table of works; what a layer without a fault is. -/
import Derived.Test.YtlgjoepeibodkaaGreatNO3
import Derived.Test.YtlgjoepeibodkaaGreatNP6
namespace Go.Proofs.YtlgjoepeibodkaaGreat.Nn
open Go.RowKit Go.ChangeMaps

/-- The reach of what comes in to the layer i. -/
def inL (i : Nat) : Int := if i = 0 then -128 else -1
def inH (i : Nat) : Int := if i = 0 then 127 else 1
/-- The reaches of a layer. -/
def yLo (L : Ly) (F : Nat) (i k : Nat) : Int := if L.kd = 3 then -1 else wLo L.ws F (inL i) (inH i) k + bsO L k
def yHi (L : Ly) (F : Nat) (i k : Nat) : Int := if L.kd = 3 then 1 else wHi L.ws F (inL i) (inH i) k + bsO L k
theorem fan_pos {L : Ly} {h v c : Int} (hs : Sides h v c) (hf : Fok L) : 1 ≤ fan L h v c := by
  unfold fan
  by_cases h2 : L.kd = 2
  · rw [if_pos h2]; exact (mul3 hs).1
  · rw [if_neg h2]
    rcases hf with h | ⟨a, b⟩
    · exact absurd h h2
    · have e1 : 1 ≤ L.r * L.s := Int.le_trans (by omega) (Int.mul_le_mul_of_nonneg_left b.1 (by omega))
      have e2 : 1 * 1 ≤ L.r * L.s * c := Int.mul_le_mul e1 hs.2.2.1 (by omega) (by omega)
      omega
/-- What a layer with weights is, if it has no fault. -/
theorem lay_w {L : Ly} {S : Sp} (hs : SpOk S) (h : faE L S = 0) (h3 : ¬ L.kd = 3) :
    (L.kd = 1 ∨ L.kd = 2) ∧ oC L S.h S.v S.c = L.k ∧ ∃ K F : Nat, L.k = K ∧ fan L S.h S.v S.c = F ∧ 1 ≤ K ∧ K ≤ 4096 ∧ L.mw = K * F ∧ 1 ≤ F ∧ K * F ≤ 16777216 ∧ L.mb ≤ K ∧ ∀ j, j < L.mb → -2147483647 ≤ L.bs j ∧ L.bs j ≤ 2147483647 := by
  have hf := fok_of h
  have hp := fan_pos hs.1 hf.1
  have common : ouE L = 0 → wrE L S = 0 → wsE L S = 0 → reE L S = 0 → (L.mb : Int) ≤ L.k → ∃ K F : Nat, L.k = K ∧ fan L S.h S.v S.c = F ∧ 1 ≤ K ∧ K ≤ 4096 ∧ L.mw = K * F ∧ 1 ≤ F ∧ K * F ≤ 16777216 ∧ L.mb ≤ K ∧ ∀ j, j < L.mb → -2147483647 ≤ L.bs j ∧ L.bs j ≤ 2147483647 := by
    intro a1 a2 a3 a4 a5
    have a1 := zero_else (by decide) a1
    have a2 := zero_else (by decide) a2
    have a3 := (zero_else (by decide) a3).1
    have a4 := zero_else (by decide) a4
    obtain ⟨K, eK⟩ := Int.eq_ofNat_of_zero_le (show 0 ≤ L.k by omega)
    obtain ⟨F, eF⟩ := Int.eq_ofNat_of_zero_le (show 0 ≤ fan L S.h S.v S.c by omega)
    have hw : wc L S.h S.v S.c = ((K * F : Nat) : Int) := by unfold wc; rw [eK, eF]; push_cast; rfl
    rw [hw] at a2 a3
    have hl : lef L S ≤ 2147483647 := by
      unfold lef
      have : 0 ≤ fan L S.h S.v S.c * (if S.fs = true then 128 else 1) := Int.mul_nonneg (by omega) (by split <;> decide)
      omega
    refine ⟨K, F, eK, eF, by omega, by omega, by omega, by omega, by have := hs.2.1; omega, by omega, fun j hj => ?_⟩
    have := a4.2 j hj
    unfold bok at this
    omega
  unfold faE at h
  by_cases h1 : L.kd = 1
  · rw [if_pos h1] at h
    have h := frF_z h
    have e4 : oE L S.h S.v S.c = 0 := h 4 (by decide)
    have e8 : nmE L = 0 := h 8 (by decide)
    have e8 := (zero_else (by decide) e8).1.2
    refine ⟨.inl h1, ?_, common (h 1 (by decide)) (h 6 (by decide)) (h 7 (by decide)) (h 9 (by decide)) (by have e1 : ouE L = 0 := h 1 (by decide); have := zero_else (by decide) e1; omega)⟩
    unfold oC
    rw [if_neg (by omega), if_pos e4, if_neg h3]
  · rw [if_neg h1] at h
    by_cases h2 : L.kd = 2
    · rw [if_pos h2] at h
      have h := frF_z h
      have e1 : ouE L = 0 := h 0 (by decide)
      have e1 := zero_else (by decide) e1
      have e5 : enE L S = 0 := h 5 (by decide)
      have e6 : (L.mb : Int) ≤ L.k := by
        unfold enE at e5
        by_cases hl : S.la = true
        · rw [if_pos hl] at e5
          have := (zero_else (by decide) e5).1
          omega
        · rw [if_neg hl] at e5
          have := (zero_else (by decide) e5).1.2
          omega
      refine ⟨.inr h2, ?_, common (h 0 (by decide)) (h 3 (by decide)) (h 4 (by decide)) (h 6 (by decide)) e6⟩
      unfold oC
      rw [if_pos h2]
    · rw [if_neg h2, if_neg h3] at h; cases h
theorem lay_p {L : Ly} {S : Sp} (h : faE L S = 0) (h3 : L.kd = 3) : oC L S.h S.v S.c = S.c := by
  unfold faE at h
  rw [if_neg (by omega), if_neg (by omega), if_pos h3] at h
  have h := frF_z h
  have e4 : oE L S.h S.v S.c = 0 := h 5 (by decide)
  unfold oC
  rw [if_neg (by omega), if_pos e4, if_pos h3]
end Go.Proofs.YtlgjoepeibodkaaGreat.Nn
