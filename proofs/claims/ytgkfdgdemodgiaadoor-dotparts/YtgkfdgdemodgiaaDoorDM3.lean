/- PACKED WEIGHTS MEAN THE WEIGHTS: plain mathematics. -/
import Derived.Test.YtgkfdgdemodgiaaDoorDW8
import Derived.Test.YtgkfdgdemodgiaaDoorDM2
namespace Go.Proofs.YtgkfdgdemodgiaaDoor

theorem wt_pack {l : List Int} {n i : Nat} (hw : Wok l n) (hi : i < n) : wt (pk l n) (bn (nz l) n) i = ia l i := by
  unfold wt
  rw [bn_bit, pk_bit]
  obtain ⟨h1, h2⟩ := hw i hi
  simp only [hi, decide_true, Bool.true_and, nz, decide_eq_true_eq]
  by_cases h0 : ia l i = 0
  · rw [if_neg (by simp [h0]), h0]
  · rw [if_pos h0]
    by_cases h3 : 0 < ia l i
    · rw [if_pos h3]; omega
    · rw [if_neg h3]; omega
theorem xs_pack {l : List Int} {n i : Nat} (hi : i < n) : xs1 (pk l n) i = if 0 < ia l i then 1 else -1 := by
  unfold xs1
  rw [pk_bit]
  simp [hi]
theorem byte_num : ∀ u : Fin 256, nat8 (fun p => if u.val.testBit p then 1 else 0) 0 8 = if u.val < 128 then (u.val : Int) else (u.val : Int) - 256 := by decide +kernel
theorem nat8_congr {P Q : Nat → Nat} {i j : Nat} : ∀ q, (∀ p, p < q → (P p).testBit i = (Q p).testBit j) → nat8 P i q = nat8 Q j q
  | 0, _ => rfl
  | q + 1, h => by simp only [nat8]; rw [nat8_congr q (fun p hp => h p (by omega)), h q (by omega)]
theorem planes_num {l : List Int} {n i : Nat} (hi : i < n) (h1 : -128 ≤ ia l i) (h2 : ia l i ≤ 127) : nat8 (fun p => bn (plb l p) n) i 8 = ia l i := by
  have hu : (ia l i % 256).toNat < 256 := by omega
  have h := byte_num ⟨(ia l i % 256).toNat, hu⟩
  rw [← nat8_congr (P := fun p => bn (plb l p) n) (i := i) 8 (fun p _ => ?_)] at h
  · rw [h]
    dsimp only
    by_cases h0 : 0 ≤ ia l i
    · rw [if_pos (by omega)]; omega
    · rw [if_neg (by omega)]; omega
  · rw [bn_bit]
    simp only [hi, decide_true, Bool.true_and, plb]
    cases ((ia l i % 256).toNat).testBit p <;> rfl
theorem sub_pack (l : List Int) (n : Nat) : pk l n &&& bn (nz l) n = pk l n := by
  refine Nat.eq_of_testBit_eq fun i => ?_
  rw [Nat.testBit_and, pk_bit, bn_bit]
  by_cases hi : i < n
  · simp only [hi, decide_true, Bool.true_and, nz]
    by_cases h : 0 < ia l i
    · have : ia l i ≠ 0 := by omega
      simp [h, this]
    · simp [h]
  · simp [hi]
end Go.Proofs.YtgkfdgdemodgiaaDoor
