import Derived.Test.YtffhbfdbahdhoabW14
import Derived.Test.YtffhbfdbahdhoabM10
namespace Go.Proofs.Ytffhbfdbahdhoab.Wd
open Go.RowKit Go.Shelf
attribute [local go_sem ↓] Go.wp_at_zero Go.wp_at_succ

theorem scale_math (a b : Int) : sgN (absN a * absN b) (!decide (hiOf a < 0) == decide (b < 0)) = a * b := by
  have e : decide (hiOf a < 0) = decide (a < 0) := by
    by_cases h : a < 0
    · rw [decide_eq_true h, decide_eq_true (hi_ngt h)]
    · rw [decide_eq_false h, hi_nn (by omega)]
  rw [e]; exact sgN_mul a b
theorem scale_far (a b : Int) (h : ¬ Siz (absN a * absN b)) : ¬ Rng (a * b) := by
  intro hR
  apply h
  have e := abs_mul a b
  have p : 0 ≤ absN a * absN b := Int.mul_nonneg (by unfold absN; split <;> omega) (by unfold absN; split <;> omega)
  unfold Rng at hR; unfold Siz
  split at e <;> omega
theorem neg_math (n : Int) : sgN (absN n) (decide (0 ≤ hiOf n)) = -n := by
  unfold sgN absN
  by_cases h : n < 0
  · have h1 := hi_ngt h
    rw [if_pos h, if_neg (by simp; omega)]
  · have h1 := hi_pos (show 0 ≤ n by omega)
    rw [if_neg h, if_pos (by simpa using h1)]
set_option maxRecDepth 100000 in
theorem scale_ok (a b : Int) (ha : Rng a) (hb : I64 b) (h : Siz (absN a * absN b)) (w : World) :
    Calls Try.prog 47 #[wv a, .int .i64 b] w fun e w' => e = .returned (.tuple #[wv (fitV (a * b)), .int .i64 (errV (a * b))]) ∧ Below w.heap.size w w' := by
  have hm : sgN (absN a * absN b) (!decide (hiOf a < 0) == decide (b < 0)) = a * b := scale_math a b
  have HM := hid1 hm
  clear hm
  go_enter Try.func47, Try.ntmps47
  go_wp2_with fail
  refine gen_calls (fun W' => Below w.heap.size w W' ∧ W'.cell? ⟨w.heap.size, 0, none⟩ = some (.int .i64 (hiOf a)) ∧ W'.cell? ⟨w.heap.size, 1, none⟩ = some (.int .u64 (loOf a)) ∧ W'.cell? ⟨w.heap.size + 1, 0, none⟩ = some (.int .i64 0) ∧ W'.cell? ⟨w.heap.size + 1, 1, none⟩ = some (.int .u64 0) ∧ W'.frozen? ⟨w.heap.size + 1, 0, none⟩ = false ∧ W'.frozen? ⟨w.heap.size + 1, 1, none⟩ = false) ⟨by repeat (first | exact Below.refl _ _ | refine bl_alloc ?_ _ | refine Below.drew ?_ | refine bl_drewN ?_ _ | refine bl_set ?_ (by omega) _ | refine bl_step ?_ (by assumption)), by simp [go_sem], by simp [go_sem], by simp [go_sem], by simp [go_sem], by simp [go_sem], by simp [go_sem]⟩ ?_
  rintro W ⟨B, n0, n1, r0, r1, f0, f1⟩
  have zr := lt_of_cell r0
  refine (sizeOf_any a ha _).mono ?_
  rintro e w1 ⟨rfl, hb1⟩
  go_wp2_with fail
  refine (amount_any b hb _).mono ?_
  rintro e w1' ⟨rfl, rfl⟩
  go_wp2_with fail
  refine (times_ok _ _ (absN_siz ha) (absN_u64 hb) h _).mono ?_
  rintro e w2 ⟨rfl, hb2⟩
  have H2 : Below W.heap.size W w2 := by repeat (first | exact Below.refl _ _ | refine bl_alloc ?_ _ | refine Below.drew ?_ | refine bl_drewN ?_ _ | refine bl_set ?_ (by omega) _ | refine bl_step ?_ (by assumption))
  replace n0 := keepc H2 n0; replace n1 := keepc H2 n1; replace r0 := keepc H2 r0; replace r1 := keepc H2 r1
  replace f0 := keepf H2 zr f0; replace f1 := keepf H2 zr f1
  have z0 := lt_of_cell n0
  replace zr := lt_of_cell r0
  go_wp2_with fail
  refine (signed_any (absN a * absN b) _ h _).mono ?_
  rintro e w3 ⟨rfl, hb3⟩
  rw [HM.out]
  have H3 : Below w2.heap.size w2 w3 := by repeat (first | exact Below.refl _ _ | refine bl_alloc ?_ _ | refine Below.drew ?_ | refine bl_drewN ?_ _ | refine bl_set ?_ (by omega) _ | refine bl_step ?_ (by assumption))
  replace r0 := keepc H3 r0; replace r1 := keepc H3 r1
  replace f0 := keepf H3 zr f0; replace f1 := keepf H3 zr f1
  clear n0 n1
  go_wp2_with fail
  simp [bodyPost, results, Try.results47, go_sem, r0, r1]
  repeat (first | exact Below.refl _ _ | refine bl_alloc ?_ _ | refine Below.drew ?_ | refine bl_drewN ?_ _ | refine bl_set ?_ (by omega) _ | refine bl_step ?_ (by assumption))
set_option maxRecDepth 100000 in
theorem scale_no (a b : Int) (ha : Rng a) (hb : I64 b) (h : ¬ Siz (absN a * absN b)) (w : World) :
    Calls Try.prog 47 #[wv a, .int .i64 b] w fun e w' => e = .returned (.tuple #[wv (fitV (a * b)), .int .i64 (errV (a * b))]) ∧ Below w.heap.size w w' := by
  have hR : ¬ Rng (a * b) := scale_far a b h
  rw [fitV_no hR, errV_no hR]
  clear hR
  go_enter Try.func47, Try.ntmps47
  go_wp2_with fail
  refine gen_calls (fun W' => Below w.heap.size w W' ∧ W'.cell? ⟨w.heap.size, 0, none⟩ = some (.int .i64 (hiOf a)) ∧ W'.cell? ⟨w.heap.size, 1, none⟩ = some (.int .u64 (loOf a)) ∧ W'.cell? ⟨w.heap.size + 1, 0, none⟩ = some (.int .i64 0) ∧ W'.cell? ⟨w.heap.size + 1, 1, none⟩ = some (.int .u64 0) ∧ W'.frozen? ⟨w.heap.size + 1, 0, none⟩ = false ∧ W'.frozen? ⟨w.heap.size + 1, 1, none⟩ = false) ⟨by repeat (first | exact Below.refl _ _ | refine bl_alloc ?_ _ | refine Below.drew ?_ | refine bl_drewN ?_ _ | refine bl_set ?_ (by omega) _ | refine bl_step ?_ (by assumption)), by simp [go_sem], by simp [go_sem], by simp [go_sem], by simp [go_sem], by simp [go_sem], by simp [go_sem]⟩ ?_
  rintro W ⟨B, n0, n1, r0, r1, f0, f1⟩
  have zr := lt_of_cell r0
  refine (sizeOf_any a ha _).mono ?_
  rintro e w1 ⟨rfl, hb1⟩
  go_wp2_with fail
  refine (amount_any b hb _).mono ?_
  rintro e w1' ⟨rfl, rfl⟩
  go_wp2_with fail
  refine (times_no _ _ (absN_siz ha) (absN_u64 hb) h _).mono ?_
  rintro e w2 ⟨⟨v, rfl⟩, hb2⟩
  have H2 : Below W.heap.size W w2 := by repeat (first | exact Below.refl _ _ | refine bl_alloc ?_ _ | refine Below.drew ?_ | refine bl_drewN ?_ _ | refine bl_set ?_ (by omega) _ | refine bl_step ?_ (by assumption))
  replace r0 := keepc H2 r0; replace r1 := keepc H2 r1
  replace f0 := keepf H2 zr f0; replace f1 := keepf H2 zr f1
  replace zr := lt_of_cell r0
  clear n0 n1
  go_wp2_with fail
  simp [bodyPost, results, Try.results47, go_sem, hi0, lo0, zr, r0, r1]
  repeat (first | exact Below.refl _ _ | refine bl_alloc ?_ _ | refine Below.drew ?_ | refine bl_drewN ?_ _ | refine bl_set ?_ (by omega) _ | refine bl_step ?_ (by assumption))
theorem scale_any (a b : Int) (ha : Rng a) (hb : I64 b) (w : World) :
    Calls Try.prog 47 #[wv a, .int .i64 b] w fun e w' => e = .returned (.tuple #[wv (fitV (a * b)), .int .i64 (errV (a * b))]) ∧ Below w.heap.size w w' := by
  by_cases h : Siz (absN a * absN b)
  · exact scale_ok a b ha hb h w
  · exact scale_no a b ha hb h w
end Go.Proofs.Ytffhbfdbahdhoab.Wd
