/-
  WHAT DECIDES A NORM: plain mathematics. No Go in sight.
-/
import Derived.Test.YtffhbfdbahdhoabFM2
namespace Go.Proofs.Ytffhbfdbahdhoab.Wd

theorem bd_mul {A B a b : Int} (ha : -A ≤ a ∧ a ≤ A) (hb : -B ≤ b ∧ b ≤ B) : -(A * B) ≤ a * b ∧ a * b ≤ A * B := by
  have h1 : a.natAbs ≤ A.natAbs := by omega
  have h2 : b.natAbs ≤ B.natAbs := by omega
  have h3 := Nat.mul_le_mul h1 h2
  rw [← Int.natAbs_mul, ← Int.natAbs_mul] at h3
  have h4 : 0 ≤ A * B := Int.mul_nonneg (by omega) (by omega)
  omega
/-- What decides a norm. -/
def nv (gn gd bn bd mn md sn sd x : Int) : Int := gn * (x * md - mn) * sd * bd + bn * gd * md * sn
def Fr (n d : Int) : Prop := 1 ≤ d ∧ d ≤ 1048576 ∧ -2147483647 ≤ n ∧ n ≤ 2147483647
def Sm (x : Int) : Prop := -2147483647 ≤ x ∧ x ≤ 2147483647
theorem mid_bd {mn md x : Int} (hm : Fr mn md) (hx : Sm x) : -2251801961168895 ≤ x * md - mn ∧ x * md - mn ≤ 2251801961168895 := by
  obtain ⟨a, b, c, d⟩ := hm
  have h := bd_mul (A := 2147483647) (B := 1048576) hx ⟨by omega, b⟩
  omega
/-- nv's two halves: their bounds. -/
theorem left_bd {gn gd bn bd mn md sn sd x : Int} (hg : Fr gn gd) (hb : Fr bn bd) (hm : Fr mn md) (hs : Fr sn sd) (hx : Sm x) :
    (-4835707887892731017560065 ≤ gn * (x * md - mn) ∧ gn * (x * md - mn) ≤ 4835707887892731017560065) ∧
    (-5070607234255008319469062717440 ≤ gn * (x * md - mn) * sd ∧ gn * (x * md - mn) * sd ≤ 5070607234255008319469062717440) ∧
    (-5316917051266179603595591908002365440 ≤ gn * (x * md - mn) * sd * bd ∧ gn * (x * md - mn) * sd * bd ≤ 5316917051266179603595591908002365440) := by
  have m := mid_bd hm hx
  obtain ⟨_, _, g1, g2⟩ := hg
  obtain ⟨s1, s2, _, _⟩ := hs
  obtain ⟨b1, b2, _, _⟩ := hb
  have k1 := bd_mul (A := 2147483647) ⟨g1, g2⟩ m
  have k2 := bd_mul (B := 1048576) k1 (b := sd) ⟨by omega, s2⟩
  have k3 := bd_mul (B := 1048576) k2 (b := bd) ⟨by omega, b2⟩
  refine ⟨⟨by omega, by omega⟩, ⟨by omega, by omega⟩, by omega, by omega⟩
theorem right_bd {gn gd bn bd mn md sn sd : Int} (hg : Fr gn gd) (hb : Fr bn bd) (hm : Fr mn md) (hs : Fr sn sd) :
    (-2251799812636672 ≤ bn * gd ∧ bn * gd ≤ 2251799812636672) ∧
    (-2361183240135110983680 * 10 ≤ bn * gd * md ∧ bn * gd * md ≤ 2361183240135110983680 * 10) ∧
    (-5070602395136650000000000000000 * 10 ≤ bn * gd * md * sn ∧ bn * gd * md * sn ≤ 5070602395136650000000000000000 * 10) := by
  obtain ⟨g1, g2, _, _⟩ := hg
  obtain ⟨m1, m2, _, _⟩ := hm
  obtain ⟨_, _, s1, s2⟩ := hs
  obtain ⟨_, _, b1, b2⟩ := hb
  have k1 := bd_mul (A := 2147483647) (B := 1048576) ⟨b1, b2⟩ (b := gd) ⟨by omega, g2⟩
  have k2 := bd_mul (B := 1048576) k1 (b := md) ⟨by omega, m2⟩
  have k3 := bd_mul k2 (b := sn) ⟨s1, s2⟩
  refine ⟨⟨by omega, by omega⟩, ⟨by omega, by omega⟩, by omega, by omega⟩
theorem nv_up {gn gd bn bd mn md sn sd x y : Int} (hg : 0 ≤ gn) (hb : Fr bn bd) (hm : Fr mn md) (hs : Fr sn sd) (h : x ≤ y) : nv gn gd bn bd mn md sn sd x ≤ nv gn gd bn bd mn md sn sd y := by
  unfold nv
  have a : x * md ≤ y * md := Int.mul_le_mul_of_nonneg_right h (by have := hm.1; omega)
  have b : gn * (x * md - mn) ≤ gn * (y * md - mn) := Int.mul_le_mul_of_nonneg_left (by omega) hg
  have c := Int.mul_le_mul_of_nonneg_right b (c := sd) (by have := hs.1; omega)
  have d := Int.mul_le_mul_of_nonneg_right c (c := bd) (by have := hb.1; omega)
  omega
theorem nv_turn (gn gd bn bd mn md sn sd x : Int) : nv (-gn) gd bn bd (-mn) md sn sd (-x) = nv gn gd bn bd mn md sn sd x := by
  unfold nv
  have : -gn * (-x * md - -mn) = gn * (x * md - mn) := by
    have e : -x * md - -mn = -(x * md - mn) := by rw [Int.neg_mul]; omega
    rw [e, Int.neg_mul_neg]
  rw [this]
theorem nv_down {gn gd bn bd mn md sn sd x y : Int} (hg : gn ≤ 0) (hb : Fr bn bd) (hm : Fr mn md) (hs : Fr sn sd) (h : x ≤ y) : nv gn gd bn bd mn md sn sd y ≤ nv gn gd bn bd mn md sn sd x := by
  rw [← nv_turn gn gd bn bd mn md sn sd y, ← nv_turn gn gd bn bd mn md sn sd x]
  refine nv_up (by omega) hb ?_ hs (by omega)
  obtain ⟨a, b, c, d⟩ := hm
  exact ⟨a, b, by omega, by omega⟩
theorem nv_flat {gn gd bn bd mn md sn sd x : Int} (hg : 1 ≤ gd) (hm : 1 ≤ md) (hs : 1 ≤ sn) (h0 : gn * (x * md - mn) = 0) : (0 ≤ nv gn gd bn bd mn md sn sd x ↔ 0 ≤ bn) := by
  have e : nv gn gd bn bd mn md sn sd x = bn * (gd * md * sn) := by
    unfold nv; rw [h0, Int.zero_mul, Int.zero_mul, Int.zero_add, Int.mul_assoc, Int.mul_assoc, Int.mul_assoc]
  have p : 0 < gd * md * sn := Int.mul_pos (Int.mul_pos (by omega) (by omega)) (by omega)
  rw [e]
  constructor
  · intro h
    rcases Int.lt_or_le bn 0 with k | k
    · have := Int.mul_neg_of_neg_of_pos k p; omega
    · exact k
  · intro h; exact Int.mul_nonneg h (by omega)
end Go.Proofs.Ytffhbfdbahdhoab.Wd
