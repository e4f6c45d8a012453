/- CubeBack: what a packed list is: plain mathematics. -/
import Derived.Test.YtncmcldiodpnpaaKL3
import Derived.Test.YtncmcldiodpnpaaBW16
namespace Go.Proofs.Ytncmcldiodpnpaa
open Go.RowKit Go.Shelf

theorem spk_words (l : List Int) (C i : Nat) : sp l C i < 2 ^ (64 * nw C) := Nat.lt_of_lt_of_le (sp_lt l C i) (pow_mono (nw_le C))
/-- A list's cube, as a number. -/
def cN (l : List Int) (C P : Nat) : Nat := js (64 * nw C) (sp l C) P
theorem cN_lt (l : List Int) (C P : Nat) : cN l C P < 2 ^ (64 * (P * nw C)) := by
  have := js_lt (s := 64 * nw C) (P := sp l C) (n := P) (fun i _ => spk_words l C i)
  rwa [show P * (64 * nw C) = 64 * (P * nw C) by rw [Nat.mul_left_comm]] at this
theorem cN_pl {l : List Int} {C P i : Nat} (hi : i < P) : pl (cN l C P) (nw C) i = sp l C i := js_pl (fun i _ => spk_words l C i) hi
theorem cN_pok (l : List Int) (C P : Nat) : Pok P C (cN l C P) := fun i hi => by rw [cN_pl hi]; exact sp_lt l C i
theorem cN_cuk {l : List Int} {H V C : Nat} (k : Sg.chk H V C = 0) : cuk H V C (H * V * nw C) (cN l C (H * V)) = 0 := by
  unfold cuk
  rw [if_pos k]
  simp only [Int.toNat_natCast]
  rw [if_pos trivial, if_pos (cN_pok l C (H * V))]
theorem cN_flat {l : List Int} {C P : Nat} (hC : 0 < C) : js C (pl (cN l C P) (nw C)) P = pk l (P * C) := by
  rw [js_congr P (fun i hi => cN_pl hi), sp_js hC]
theorem at_place {C P j : Nat} (hC : 0 < C) (hj : j < P * C) : j / C < P ∧ j % C < C ∧ j / C * C + j % C = j :=
  ⟨Nat.div_lt_of_lt_mul (by rwa [Nat.mul_comm]), Nat.mod_lt j hC, by rw [Nat.mul_comm]; exact Nat.div_add_mod j C⟩
theorem cN_uv {l : List Int} {C P j : Nat} (hC : 0 < C) (hj : j < P * C) : uv (cN l C P) C j = if 0 < ia l j then 1 else -1 := by
  obtain ⟨h1, h2, h3⟩ := at_place hC hj
  unfold uv sg
  rw [cN_pl h1, sp_bit, h3]
  by_cases h0 : 0 < ia l j <;> simp [h2, h0]
/-- What is unpacked of it. -/
def uL (l : List Int) (n : Nat) : List Int := (List.range n).map fun j => if 0 < ia l j then 1 else -1
theorem uL_len (l : List Int) (n : Nat) : (uL l n).length = n := by simp [uL]
theorem uL_at {l : List Int} {n j : Nat} (h : j < n) : ia (uL l n) j = if 0 < ia l j then 1 else -1 := by
  unfold ia uL
  rw [List.getD_eq_getElem?_getD, List.getElem?_map, List.getElem?_range h]
  rfl
theorem cN_again {l : List Int} {C P : Nat} : cN (uL l (P * C)) C P = cN l C P := by
  refine js_congr P fun i hi => Nat.eq_of_testBit_eq fun b => ?_
  rw [sp_bit, sp_bit]
  by_cases hb : b < C
  · have : i * C + b < P * C := by
      have := Nat.mul_le_mul_right C (show i + 1 ≤ P from hi)
      rw [Nat.succ_mul] at this
      omega
    rw [uL_at this]
    by_cases h0 : 0 < ia l (i * C + b) <;> simp [h0]
  · simp [hb]
theorem cN_join {l : List Int} {C P : Nat} (hC : 0 < C) : jn (fun _ => C) (fun i => pl (cN l C P) (nw C) i) P = pk l (P * C) := cN_flat hC
end Go.Proofs.Ytncmcldiodpnpaa
