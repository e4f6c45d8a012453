/- THE DOCUMENT'S ANSWERS: Of, Product, Sum, Opposite, Scale, Floor, Ceil. -/
import Derived.Test.YtcjglbejmlebhaaDoorW38
namespace Go.Proofs.YtcjglbejmlebhaaDoor
open Go.RowKit Go.Shelf
attribute [local go_sem ↓] Go.wp_at_zero Go.wp_at_succ

theorem b16 {m : Int} (h1 : -6277101735386680763835789423207666416102355444464034512896 < m) (h2 : m < 6277101735386680763835789423207666416102355444464034512896) : (m.natAbs : Int) < 65536 ^ 16 := Int.lt_of_lt_of_le (show (m.natAbs : Int) < 6277101735386680763835789423207666416102355444464034512896 by omega) (by decide)
theorem b40 {m : Int} (h1 : -6277101735386680763835789423207666416102355444464034512896 < m) (h2 : m < 6277101735386680763835789423207666416102355444464034512896) : (m.natAbs : Int) < 65536 ^ 40 := Int.lt_of_lt_of_le (show (m.natAbs : Int) < 6277101735386680763835789423207666416102355444464034512896 by omega) (by decide)
theorem mul_bd {a b : Int} (ha : Rng a) (hb : I64 b) : -6277101735386680763835789423207666416102355444464034512896 < a * b ∧ a * b < 6277101735386680763835789423207666416102355444464034512896 := by
  unfold Rng at ha
  unfold I64 at hb
  have h1 : (a * b).natAbs ≤ 170141183460469231731687303715884105728 * 9223372036854775808 := by
    rw [Int.natAbs_mul]
    exact Nat.mul_le_mul (by omega) (by omega)
  omega
theorem mul64_bd {a b : Int} (ha : I64 a) (hb : I64 b) : Rng (a * b) := by
  unfold I64 at ha hb
  have h1 : (a * b).natAbs ≤ 9223372036854775808 * 9223372036854775808 := by
    rw [Int.natAbs_mul]
    exact Nat.mul_le_mul (by omega) (by omega)
  unfold Rng
  omega
theorem fdiv_bd {a b : Int} (ha : Rng a) (hb : b ≠ 0) : -6277101735386680763835789423207666416102355444464034512896 < Int.fdiv a b ∧ Int.fdiv a b < 6277101735386680763835789423207666416102355444464034512896 := by
  rw [← down_eq a b hb]
  unfold Rng at ha
  have h1 : 0 ≤ (a.natAbs : Int) / (b.natAbs : Int) := Int.ediv_nonneg (by omega) (by omega)
  have h2 : (a.natAbs : Int) / (b.natAbs : Int) ≤ (a.natAbs : Int) := Int.ediv_le_self _ (by omega)
  split
  · omega
  · split <;> omega
theorem nfdiv_bd {a b : Int} (ha : Rng a) (hb : b ≠ 0) : -6277101735386680763835789423207666416102355444464034512896 < -(Int.fdiv (-a) b) ∧ -(Int.fdiv (-a) b) < 6277101735386680763835789423207666416102355444464034512896 := by
  rw [← down_eq (-a) b hb, Int.natAbs_neg]
  unfold Rng at ha
  have h1 : 0 ≤ (a.natAbs : Int) / (b.natAbs : Int) := Int.ediv_nonneg (by omega) (by omega)
  have h2 : (a.natAbs : Int) / (b.natAbs : Int) ≤ (a.natAbs : Int) := Int.ediv_le_self _ (by omega)
  split
  · omega
  · split <;> omega
theorem floor_is (a b : Int) (hb : b ≠ 0) : floorN a b = Int.fdiv a b := by
  rw [← down_eq a b hb]
  unfold floorN sgN awayN quoN restN
  have e1 : absN a = (a.natAbs : Int) := by unfold absN; split <;> omega
  have e2 : absN b = (b.natAbs : Int) := by unfold absN; split <;> omega
  have e3 : decide (hiOf a < 0) = decide (a < 0) := by simp [hi_neg]
  rw [e1, e2, e3]
  by_cases h1 : a < 0 <;> by_cases h2 : b < 0 <;> by_cases h3 : (a.natAbs : Int) % (b.natAbs : Int) = 0 <;> simp only [h1, h2, h3] <;> simp <;> (try simp only [h3]) <;> (try simp) <;> (try omega)
theorem ceil_is (a b : Int) (hb : b ≠ 0) : ceilN a b = -(Int.fdiv (-a) b) := by
  rw [← down_eq (-a) b hb]
  unfold ceilN sgN awayN quoN restN
  have e1 : absN a = (a.natAbs : Int) := by unfold absN; split <;> omega
  have e2 : absN b = (b.natAbs : Int) := by unfold absN; split <;> omega
  have e3 : decide (hiOf a < 0) = decide (a < 0) := by simp [hi_neg]
  rw [e1, e2, e3, Int.natAbs_neg]
  by_cases h0 : a = 0
  · subst h0
    by_cases h2 : b < 0 <;> simp [h2]
  · have e4 : decide (-a < 0) = !decide (a < 0) := by by_cases h : a < 0 <;> simp [h] <;> omega
    rw [e4]
    by_cases h1 : a < 0 <;> by_cases h2 : b < 0 <;> by_cases h3 : (a.natAbs : Int) % (b.natAbs : Int) = 0 <;> simp only [h1, h2, h3] <;> simp <;> (try simp only [h3]) <;> (try simp) <;> (try omega)
set_option maxHeartbeats 3200000 in
set_option maxRecDepth 100000 in
theorem rof_any (n : Int) (h : I64 n) (w : World) :
    Calls Tryd.prog 28 #[.int .i64 n] w fun e w' => e = .returned (wv n) ∧ Below w.heap.size w w' := by
  have hR : Rng n := by unfold I64 at h; unfold Rng; omega
  go_enter Tryd.func28, Tryd.ntmps28
  go_wp2_with fail
  refine gen_calls (fun W' => Below w.heap.size w W' ∧ Sv W' (w.heap.size) (.int .i64 0) (.int .u64 0)) ⟨by repeat (first | exact Below.refl _ _ | refine bl_alloc ?_ _ | refine Below.drew ?_ | refine bl_drewN ?_ _ | refine bl_set ?_ (by omega) _ | refine bl_step ?_ (by assumption)), sv_new (by first | rfl | simp)⟩ ?_
  rintro W ⟨B0, sr⟩
  have SR := hid1 sr
  clear sr
  refine (rint_any n h _).mono ?_
  rintro e w1 ⟨z1, rfl, hz1, hb1⟩
  obtain ⟨s1, o1, l1, c1, rfl⟩ := hz1.form
  have HZ1 := hid1 hz1
  replace SR := hid1 (SR.out.keep hb1)
  clear hz1
  go_wp2_with fail
  refine (rfit_any n _ _ HZ1.out (b40 (by unfold I64 at h; omega) (by unfold I64 at h; omega))).mono ?_
  rintro e w2 ⟨rfl, hb2⟩
  replace SR := hid1 (SR.out.keep hb2)
  have BB : Below w.heap.size w w2 := by repeat (first | exact Below.refl _ _ | refine bl_alloc ?_ _ | refine Below.drew ?_ | refine bl_drewN ?_ _ | refine bl_set ?_ (by omega) _ | refine bl_step ?_ (by assumption))
  obtain ⟨r0, r1, p0, p1⟩ := SR.out
  have zr := lt_of_cell r0
  rw [(fit_in hR).1]
  go_wp2_with fail
  simp [bodyPost, results, Tryd.results28, go_sem, r0, r1, zr]
  repeat (first | exact Below.refl _ _ | refine bl_alloc ?_ _ | refine Below.drew ?_ | refine bl_drewN ?_ _ | refine bl_set ?_ (by omega) _ | refine bl_step ?_ (by assumption))
set_option maxHeartbeats 3200000 in
set_option maxRecDepth 100000 in
theorem rproduct_any (a b : Int) (ha : I64 a) (hb : I64 b) (w : World) :
    Calls Tryd.prog 30 #[.int .i64 a, .int .i64 b] w fun e w' => e = .returned (wv (a * b)) ∧ Below w.heap.size w w' := by
  have hR : Rng (a * b) := mul64_bd ha hb
  have HP : Hid (-6277101735386680763835789423207666416102355444464034512896 < a * b ∧ a * b < 6277101735386680763835789423207666416102355444464034512896) := hid1 (by unfold Rng at hR; omega)
  go_enter Tryd.func30, Tryd.ntmps30
  go_wp2_with fail
  refine gen_calls (fun W' => Below w.heap.size w W' ∧ Sv W' (w.heap.size) (.int .i64 0) (.int .u64 0)) ⟨by repeat (first | exact Below.refl _ _ | refine bl_alloc ?_ _ | refine Below.drew ?_ | refine bl_drewN ?_ _ | refine bl_set ?_ (by omega) _ | refine bl_step ?_ (by assumption)), sv_new (by first | rfl | simp)⟩ ?_
  rintro W ⟨B0, sr⟩
  have SR := hid1 sr
  clear sr
  refine (rint_any a ha _).mono ?_
  rintro e w1 ⟨z1, rfl, hz1, hb1⟩
  obtain ⟨s1, o1, l1, c1, rfl⟩ := hz1.form
  have HZ1 := hid1 hz1
  replace SR := hid1 (SR.out.keep hb1)
  clear hz1
  go_wp2_with fail
  refine (rint_any b hb _).mono ?_
  rintro e w2 ⟨z2, rfl, hz2, hb2⟩
  obtain ⟨s2, o2, l2, c2, rfl⟩ := hz2.form
  have HZ2 := hid1 hz2
  replace SR := hid1 (SR.out.keep hb2)
  clear hz2
  go_wp2_with fail
  refine (rmul_any a b _ _ _ (HZ1.out.below hb2) HZ2.out (b16 (by unfold I64 at ha; omega) (by unfold I64 at ha; omega)) (b16 (by unfold I64 at hb; omega) (by unfold I64 at hb; omega))).mono ?_
  rintro e w3 ⟨z3, rfl, hz3, hb3⟩
  obtain ⟨s3, o3, l3, c3, rfl⟩ := hz3.form
  have HZ3 := hid1 hz3
  replace SR := hid1 (SR.out.keep hb3)
  clear hz3
  go_wp2_with fail
  refine (rfit_any (a * b) _ _ HZ3.out (b40 HP.out.1 HP.out.2)).mono ?_
  rw [(fit_in hR).1]
  rintro e w4 ⟨rfl, hb4⟩
  replace SR := hid1 (SR.out.keep hb4)
  have BB : Below w.heap.size w w4 := by repeat (first | exact Below.refl _ _ | refine bl_alloc ?_ _ | refine Below.drew ?_ | refine bl_drewN ?_ _ | refine bl_set ?_ (by omega) _ | refine bl_step ?_ (by assumption))
  obtain ⟨r0, r1, p0, p1⟩ := SR.out
  have zr := lt_of_cell r0
  go_wp2_with fail
  simp [bodyPost, results, Tryd.results30, go_sem, r0, r1, zr]
  repeat (first | exact Below.refl _ _ | refine bl_alloc ?_ _ | refine Below.drew ?_ | refine bl_drewN ?_ _ | refine bl_set ?_ (by omega) _ | refine bl_step ?_ (by assumption))
set_option maxHeartbeats 3200000 in
set_option maxRecDepth 100000 in
theorem ropposite_any (n : Int) (hn : Rng n) (w : World) :
    Calls Tryd.prog 19 #[wv n] w fun e w' => e = .returned (.tuple #[wv (fitV (-n)), .int .i64 (errV (-n))]) ∧ Below w.heap.size w w' := by
  go_enter Tryd.func19, Tryd.ntmps19
  go_wp2_with fail
  refine gen_calls (fun W' => Below w.heap.size w W' ∧ Sv W' (w.heap.size + 1) (.int .i64 0) (.int .u64 0)) ⟨by repeat (first | exact Below.refl _ _ | refine bl_alloc ?_ _ | refine Below.drew ?_ | refine bl_drewN ?_ _ | refine bl_set ?_ (by omega) _ | refine bl_step ?_ (by assumption)), sv_new (by first | rfl | simp)⟩ ?_
  rintro W ⟨B0, sr⟩
  have SR := hid1 sr
  clear sr
  refine (rwide_any n hn _).mono ?_
  rintro e w1 ⟨z1, rfl, hz1, hb1⟩
  obtain ⟨s1, o1, l1, c1, rfl⟩ := hz1.form
  have HZ1 := hid1 hz1
  replace SR := hid1 (SR.out.keep hb1)
  clear hz1
  go_wp2_with fail
  refine (rneg_any n _ _ HZ1.out).mono ?_
  rintro e w2 ⟨z2, rfl, hz2, hb2⟩
  obtain ⟨s2, o2, l2, c2, rfl⟩ := hz2.form
  have HZ2 := hid1 hz2
  replace SR := hid1 (SR.out.keep hb2)
  clear hz2
  go_wp2_with fail
  refine (rfit_any (-n) _ _ HZ2.out (b40 (by unfold Rng at hn; omega) (by unfold Rng at hn; omega))).mono ?_
  rintro e w3 ⟨rfl, hb3⟩
  replace SR := hid1 (SR.out.keep hb3)
  have BB : Below w.heap.size w w3 := by repeat (first | exact Below.refl _ _ | refine bl_alloc ?_ _ | refine Below.drew ?_ | refine bl_drewN ?_ _ | refine bl_set ?_ (by omega) _ | refine bl_step ?_ (by assumption))
  obtain ⟨r0, r1, p0, p1⟩ := SR.out
  have zr := lt_of_cell r0
  go_wp2_with fail
  simp [bodyPost, results, Tryd.results19, go_sem, r0, r1]
  repeat (first | exact Below.refl _ _ | refine bl_alloc ?_ _ | refine Below.drew ?_ | refine bl_drewN ?_ _ | refine bl_set ?_ (by omega) _ | refine bl_step ?_ (by assumption))
set_option maxHeartbeats 3200000 in
set_option maxRecDepth 100000 in
theorem rscale_any (a b : Int) (ha : Rng a) (hb : I64 b) (w : World) :
    Calls Tryd.prog 26 #[wv a, .int .i64 b] w fun e w' => e = .returned (.tuple #[wv (fitV (a * b)), .int .i64 (errV (a * b))]) ∧ Below w.heap.size w w' := by
  go_enter Tryd.func26, Tryd.ntmps26
  go_wp2_with fail
  refine gen_calls (fun W' => Below w.heap.size w W' ∧ Sv W' (w.heap.size + 1) (.int .i64 0) (.int .u64 0)) ⟨by repeat (first | exact Below.refl _ _ | refine bl_alloc ?_ _ | refine Below.drew ?_ | refine bl_drewN ?_ _ | refine bl_set ?_ (by omega) _ | refine bl_step ?_ (by assumption)), sv_new (by first | rfl | simp)⟩ ?_
  rintro W ⟨B0, sr⟩
  have SR := hid1 sr
  clear sr
  refine (rwide_any a ha _).mono ?_
  rintro e w1 ⟨z1, rfl, hz1, hb1⟩
  obtain ⟨s1, o1, l1, c1, rfl⟩ := hz1.form
  have HZ1 := hid1 hz1
  replace SR := hid1 (SR.out.keep hb1)
  clear hz1
  go_wp2_with fail
  refine (rint_any b hb _).mono ?_
  rintro e w2 ⟨z2, rfl, hz2, hb2⟩
  obtain ⟨s2, o2, l2, c2, rfl⟩ := hz2.form
  have HZ2 := hid1 hz2
  replace SR := hid1 (SR.out.keep hb2)
  clear hz2
  go_wp2_with fail
  refine (rmul_any a b _ _ _ (HZ1.out.below hb2) HZ2.out (b16 (by unfold Rng at ha; omega) (by unfold Rng at ha; omega)) (b16 (by unfold I64 at hb; omega) (by unfold I64 at hb; omega))).mono ?_
  rintro e w3 ⟨z3, rfl, hz3, hb3⟩
  obtain ⟨s3, o3, l3, c3, rfl⟩ := hz3.form
  have HZ3 := hid1 hz3
  replace SR := hid1 (SR.out.keep hb3)
  clear hz3
  go_wp2_with fail
  refine (rfit_any (a * b) _ _ HZ3.out (b40 (mul_bd ha hb).1 (mul_bd ha hb).2)).mono ?_
  rintro e w4 ⟨rfl, hb4⟩
  replace SR := hid1 (SR.out.keep hb4)
  have BB : Below w.heap.size w w4 := by repeat (first | exact Below.refl _ _ | refine bl_alloc ?_ _ | refine Below.drew ?_ | refine bl_drewN ?_ _ | refine bl_set ?_ (by omega) _ | refine bl_step ?_ (by assumption))
  obtain ⟨r0, r1, p0, p1⟩ := SR.out
  have zr := lt_of_cell r0
  go_wp2_with fail
  simp [bodyPost, results, Tryd.results26, go_sem, r0, r1]
  repeat (first | exact Below.refl _ _ | refine bl_alloc ?_ _ | refine Below.drew ?_ | refine bl_drewN ?_ _ | refine bl_set ?_ (by omega) _ | refine bl_step ?_ (by assumption))
set_option maxHeartbeats 3200000 in
set_option maxRecDepth 100000 in
theorem rfloor_any (a b : Int) (ha : Rng a) (hb : I64 b) (h0 : b ≠ 0) (w : World) :
    Calls Tryd.prog 9 #[wv a, .int .i64 b] w fun e w' => e = .returned (.tuple #[wv (fitV (Int.fdiv a b)), .int .i64 (errV (Int.fdiv a b))]) ∧ Below w.heap.size w w' := by
  go_enter Tryd.func9, Tryd.ntmps9
  go_wp2_with fail
  refine gen_calls (fun W' => Below w.heap.size w W' ∧ Sv W' (w.heap.size + 1) (.int .i64 0) (.int .u64 0)) ⟨by repeat (first | exact Below.refl _ _ | refine bl_alloc ?_ _ | refine Below.drew ?_ | refine bl_drewN ?_ _ | refine bl_set ?_ (by omega) _ | refine bl_step ?_ (by assumption)), sv_new (by first | rfl | simp)⟩ ?_
  rintro W ⟨B0, sr⟩
  have SR := hid1 sr
  clear sr
  refine (rwide_any a ha _).mono ?_
  rintro e w1 ⟨z1, rfl, hz1, hb1⟩
  obtain ⟨s1, o1, l1, c1, rfl⟩ := hz1.form
  have HZ1 := hid1 hz1
  replace SR := hid1 (SR.out.keep hb1)
  clear hz1
  go_wp2_with fail
  refine (rint_any b hb _).mono ?_
  rintro e w2 ⟨z2, rfl, hz2, hb2⟩
  obtain ⟨s2, o2, l2, c2, rfl⟩ := hz2.form
  have HZ2 := hid1 hz2
  replace SR := hid1 (SR.out.keep hb2)
  clear hz2
  go_wp2_with fail
  refine (rdown_any a b _ _ _ (HZ1.out.below hb2) HZ2.out h0 (b16 (by unfold Rng at ha; omega) (by unfold Rng at ha; omega)) (b16 (by unfold I64 at hb; omega) (by unfold I64 at hb; omega))).mono ?_
  rintro e w3 ⟨z3, rfl, hz3, hb3⟩
  obtain ⟨s3, o3, l3, c3, rfl⟩ := hz3.form
  have HZ3 := hid1 hz3
  replace SR := hid1 (SR.out.keep hb3)
  clear hz3
  go_wp2_with fail
  refine (rfit_any (Int.fdiv a b) _ _ HZ3.out (b40 (fdiv_bd ha h0).1 (fdiv_bd ha h0).2)).mono ?_
  rintro e w4 ⟨rfl, hb4⟩
  replace SR := hid1 (SR.out.keep hb4)
  have BB : Below w.heap.size w w4 := by repeat (first | exact Below.refl _ _ | refine bl_alloc ?_ _ | refine Below.drew ?_ | refine bl_drewN ?_ _ | refine bl_set ?_ (by omega) _ | refine bl_step ?_ (by assumption))
  obtain ⟨r0, r1, p0, p1⟩ := SR.out
  have zr := lt_of_cell r0
  go_wp2_with fail
  simp [bodyPost, results, Tryd.results9, go_sem, r0, r1]
  repeat (first | exact Below.refl _ _ | refine bl_alloc ?_ _ | refine Below.drew ?_ | refine bl_drewN ?_ _ | refine bl_set ?_ (by omega) _ | refine bl_step ?_ (by assumption))
set_option maxHeartbeats 3200000 in
set_option maxRecDepth 100000 in
theorem rceil_any (a b : Int) (ha : Rng a) (hb : I64 b) (h0 : b ≠ 0) (w : World) :
    Calls Tryd.prog 11 #[wv a, .int .i64 b] w fun e w' => e = .returned (.tuple #[wv (fitV (-(Int.fdiv (-a) b))), .int .i64 (errV (-(Int.fdiv (-a) b)))]) ∧ Below w.heap.size w w' := by
  have HB : Hid (-6277101735386680763835789423207666416102355444464034512896 < -(Int.fdiv (-a) b) ∧ -(Int.fdiv (-a) b) < 6277101735386680763835789423207666416102355444464034512896) := hid1 (nfdiv_bd ha h0)
  go_enter Tryd.func11, Tryd.ntmps11
  go_wp2_with fail
  refine gen_calls (fun W' => Below w.heap.size w W' ∧ Sv W' (w.heap.size + 1) (.int .i64 0) (.int .u64 0)) ⟨by repeat (first | exact Below.refl _ _ | refine bl_alloc ?_ _ | refine Below.drew ?_ | refine bl_drewN ?_ _ | refine bl_set ?_ (by omega) _ | refine bl_step ?_ (by assumption)), sv_new (by first | rfl | simp)⟩ ?_
  rintro W ⟨B0, sr⟩
  have SR := hid1 sr
  clear sr
  refine (rwide_any a ha _).mono ?_
  rintro e w1 ⟨z1, rfl, hz1, hb1⟩
  obtain ⟨s1, o1, l1, c1, rfl⟩ := hz1.form
  have HZ1 := hid1 hz1
  replace SR := hid1 (SR.out.keep hb1)
  clear hz1
  go_wp2_with fail
  refine (rneg_any a _ _ HZ1.out).mono ?_
  rintro e w2 ⟨z2, rfl, hz2, hb2⟩
  obtain ⟨s2, o2, l2, c2, rfl⟩ := hz2.form
  have HZ2 := hid1 hz2
  replace SR := hid1 (SR.out.keep hb2)
  clear hz2
  go_wp2_with fail
  refine (rint_any b hb _).mono ?_
  rintro e w3 ⟨z3, rfl, hz3, hb3⟩
  obtain ⟨s3, o3, l3, c3, rfl⟩ := hz3.form
  have HZ3 := hid1 hz3
  replace SR := hid1 (SR.out.keep hb3)
  clear hz3
  go_wp2_with fail
  refine (rdown_any (-a) b _ _ _ (HZ2.out.below hb3) HZ3.out h0 (b16 (by unfold Rng at ha; omega) (by unfold Rng at ha; omega)) (b16 (by unfold I64 at hb; omega) (by unfold I64 at hb; omega))).mono ?_
  rintro e w4 ⟨z4, rfl, hz4, hb4⟩
  obtain ⟨s4, o4, l4, c4, rfl⟩ := hz4.form
  have HZ4 := hid1 hz4
  replace SR := hid1 (SR.out.keep hb4)
  clear hz4
  go_wp2_with fail
  refine (rneg_any (Int.fdiv (-a) b) _ _ HZ4.out).mono ?_
  rintro e w5 ⟨z5, rfl, hz5, hb5⟩
  obtain ⟨s5, o5, l5, c5, rfl⟩ := hz5.form
  have HZ5 := hid1 hz5
  replace SR := hid1 (SR.out.keep hb5)
  clear hz5
  go_wp2_with fail
  refine (rfit_any (-(Int.fdiv (-a) b)) _ _ HZ5.out (b40 HB.out.1 HB.out.2)).mono ?_
  rintro e w6 ⟨rfl, hb6⟩
  replace SR := hid1 (SR.out.keep hb6)
  have BB : Below w.heap.size w w6 := by repeat (first | exact Below.refl _ _ | refine bl_alloc ?_ _ | refine Below.drew ?_ | refine bl_drewN ?_ _ | refine bl_set ?_ (by omega) _ | refine bl_step ?_ (by assumption))
  obtain ⟨r0, r1, p0, p1⟩ := SR.out
  have zr := lt_of_cell r0
  go_wp2_with fail
  simp [bodyPost, results, Tryd.results11, go_sem, r0, r1]
  repeat (first | exact Below.refl _ _ | refine bl_alloc ?_ _ | refine Below.drew ?_ | refine bl_drewN ?_ _ | refine bl_set ?_ (by omega) _ | refine bl_step ?_ (by assumption))
set_option maxRecDepth 100000 in
theorem rfloor_zero (a : Int) (w : World) :
    Calls Tryd.prog 9 #[wv a, .int .i64 0] w fun e w' => e = .returned (.tuple #[wv 0, .int .i64 11]) ∧ Below w.heap.size w w' := by
  go_enter Tryd.func9, Tryd.ntmps9
  go_wp2_with fail
  simp [bodyPost, results, Tryd.results9, go_sem]
  refine ⟨by decide, ?_⟩
  repeat (first | exact Below.refl _ _ | refine bl_alloc ?_ _ | refine Below.drew ?_ | refine bl_drewN ?_ _ | refine bl_set ?_ (by omega) _ | refine bl_step ?_ (by assumption))
set_option maxRecDepth 100000 in
theorem rceil_zero (a : Int) (w : World) :
    Calls Tryd.prog 11 #[wv a, .int .i64 0] w fun e w' => e = .returned (.tuple #[wv 0, .int .i64 11]) ∧ Below w.heap.size w w' := by
  go_enter Tryd.func11, Tryd.ntmps11
  go_wp2_with fail
  simp [bodyPost, results, Tryd.results11, go_sem]
  refine ⟨by decide, ?_⟩
  repeat (first | exact Below.refl _ _ | refine bl_alloc ?_ _ | refine Below.drew ?_ | refine bl_drewN ?_ _ | refine bl_set ?_ (by omega) _ | refine bl_step ?_ (by assumption))
theorem kpw {W w' : World} {g h : Nat} {a b c d : Value} (hb : Below W.heap.size W w') (a0 : W.cell? ⟨g, 0, none⟩ = some a) (a1 : W.cell? ⟨g, 1, none⟩ = some b) (b0 : W.cell? ⟨h, 0, none⟩ = some c) (b1 : W.cell? ⟨h, 1, none⟩ = some d) :
    w'.cell? ⟨g, 0, none⟩ = some a ∧ w'.cell? ⟨g, 1, none⟩ = some b ∧ w'.cell? ⟨h, 0, none⟩ = some c ∧ w'.cell? ⟨h, 1, none⟩ = some d := ⟨keepc hb a0, keepc hb a1, keepc hb b0, keepc hb b1⟩
set_option maxHeartbeats 6400000 in
set_option maxRecDepth 100000 in
theorem rsum_any (a b : Int) (ha : Rng a) (hb : Rng b) (w : World) :
    Calls Tryd.prog 21 #[wv a, wv b] w fun e w' => e = .returned (.tuple #[wv (fitV (a + b)), .int .i64 (errV (a + b))]) ∧ Below w.heap.size w w' := by
  have HA := hid1 ha
  have HB := hid1 hb
  have KA : Hid ((a.natAbs : Int) < 65536 ^ 40) := hid1 (b40 (by unfold Rng at ha; omega) (by unfold Rng at ha; omega))
  have KB : Hid ((b.natAbs : Int) < 65536 ^ 40) := hid1 (b40 (by unfold Rng at hb; omega) (by unfold Rng at hb; omega))
  have KS : Hid (((a + b).natAbs : Int) < 65536 ^ 40) := hid1 (b40 (by unfold Rng at ha hb; omega) (by unfold Rng at ha hb; omega))
  clear ha hb
  go_enter Tryd.func21, Tryd.ntmps21
  go_upto_region 1 with fail
  refine gen_world (fun W' => Below w.heap.size w W' ∧ Sv W' w.heap.size (.int .i64 (hiOf a)) (.int .u64 (loOf a)) ∧ Sv W' (w.heap.size + 1) (.int .i64 (hiOf b)) (.int .u64 (loOf b)) ∧ Sv W' (w.heap.size + 2) (.int .i64 0) (.int .u64 0)) ⟨by repeat (first | exact Below.refl _ _ | refine bl_alloc ?_ _ | refine Below.drew ?_ | refine bl_drewN ?_ _ | refine bl_set ?_ (by omega) _ | refine bl_step ?_ (by assumption)), Sv.alloc (Sv.alloc (sv_new rfl) _) _, Sv.alloc (sv_new (by simp)) _, sv_new (by simp)⟩ ?_
  rintro W ⟨B0, sa, sb, sr⟩
  have SR := hid1 sr
  have zr := lt_of_cell sr.1
  clear sr
  obtain ⟨a0, a1, _, _⟩ := sa
  obtain ⟨b0, b1, _, _⟩ := sb
  obtain ⟨ah, hah⟩ : ∃ v, hiOf a = v := ⟨_, rfl⟩
  obtain ⟨bh, hbh⟩ : ∃ v, hiOf b = v := ⟨_, rfl⟩
  obtain ⟨al, hal⟩ : ∃ v, loOf a = v := ⟨_, rfl⟩
  obtain ⟨bl, hbl⟩ : ∃ v, loOf b = v := ⟨_, rfl⟩
  have WA : Hid (∀ X : World, Calls Tryd.prog 24 #[.agg #[.int .i64 ah, .int .u64 al]] X fun e w' => ∃ z, e = .returned z ∧ Bg w' z a ∧ Below X.heap.size X w') := hid1 (by rw [← hah, ← hal]; exact fun X => rwide_any a HA.out X)
  have WB : Hid (∀ X : World, Calls Tryd.prog 24 #[.agg #[.int .i64 bh, .int .u64 bl]] X fun e w' => ∃ z, e = .returned z ∧ Bg w' z b ∧ Below X.heap.size X w') := hid1 (by rw [← hbh, ← hbl]; exact fun X => rwide_any b HB.out X)
  rw [hah] at a0
  rw [hal] at a1
  rw [hbh] at b0
  rw [hbl] at b1
  clear hah hal hbh hbl HA HB
  go_cut [5] (fun v wx => v = .int .i64 (errV (a + b)) ∧ Below w.heap.size w wx ∧ Sv wx (w.heap.size + 2) (.int .i64 (hiOf (fitV (a + b)))) (.int .u64 (loOf (fitV (a + b)))))
  case rest =>
    obtain ⟨rfl, BX, s4⟩ := hcut
    obtain ⟨r0, r1, _, _⟩ := s4
    go_wp2_with fail
    simp [bodyPost, results, Tryd.results21, go_sem, r0, r1]
    exact BX
  go_region_held3 (fun X => X.cell? ⟨w.heap.size, 0, none⟩ = some (.int .i64 ah) ∧ X.cell? ⟨w.heap.size, 1, none⟩ = some (.int .u64 al) ∧ X.cell? ⟨w.heap.size + 1, 0, none⟩ = some (.int .i64 bh) ∧ X.cell? ⟨w.heap.size + 1, 1, none⟩ = some (.int .u64 bl)) (((try dsimp only); first | ((refine kpw (W := W) ?_ a0 a1 b0 b1); (repeat (first | exact Below.refl _ _ | refine bl_alloc ?_ _ | refine Below.drew ?_ | refine bl_drewN ?_ _ | refine bl_set ?_ (by omega) _ | refine bl_step ?_ (by assumption))); done) | exact ⟨cell_o (cell_o (keepc B4 a0) (by omega)) (by omega), cell_o (cell_o (keepc B4 a1) (by omega)) (by omega), cell_o (cell_o (keepc B4 b0) (by omega)) (by omega), cell_o (cell_o (keepc B4 b1) (by omega)) (by omega)⟩))
    (first
      | (go_at_call_of 24 ah; refine (WA.out _).mono ?_; rintro e x1 ⟨y1, rfl, hy1, hb1⟩; obtain ⟨s1, o1, l1, c1, rfl⟩ := hy1.form; have HY1 := hid1 hy1; clear hy1)
      | (go_at_call_of 24 bh; refine (WB.out _).mono ?_; rintro e x2 ⟨y2, rfl, hy2, hb2⟩; obtain ⟨s2, o2, l2, c2, rfl⟩ := hy2.form; have HY2 := hid1 hy2; clear hy2)
      | (go_at_call 46; refine (radd_any a b _ _ _ (HY1.out.below (by repeat (first | exact Below.refl _ _ | refine bl_alloc ?_ _ | refine Below.drew ?_ | refine bl_drewN ?_ _ | refine bl_set ?_ (by omega) _ | refine bl_step ?_ (by assumption)))) (HY2.out.below (by repeat (first | exact Below.refl _ _ | refine bl_alloc ?_ _ | refine Below.drew ?_ | refine bl_drewN ?_ _ | refine bl_set ?_ (by omega) _ | refine bl_step ?_ (by assumption)))) KA.out KB.out).mono ?_; rintro e x3 ⟨y3, rfl, hy3, hb3⟩; obtain ⟨s3, o3, l3, c3, rfl⟩ := hy3.form; have HY3 := hid1 hy3; clear hy3)
      | (go_at_call 33; refine (rfit_any (a + b) _ _ HY3.out KS.out).mono ?_; rintro e x4 ⟨rfl, hb4⟩; have B4 : Below W.heap.size W x4 := (by repeat (first | exact Below.refl _ _ | refine bl_alloc ?_ _ | refine Below.drew ?_ | refine bl_drewN ?_ _ | refine bl_set ?_ (by omega) _ | refine bl_step ?_ (by assumption))); have r0 := (SR.out.keep B4).1; have r1 := (SR.out.keep B4).2.1; have p0 := (SR.out.keep B4).2.2.1; have p1 := (SR.out.keep B4).2.2.2; have zx := lt_of_cell r0))
  all_goals go_wp2_with fail
  all_goals go_meet
  all_goals exact ⟨rfl, bl_set (bl_set (bl_step B0 B4) (by omega) _) (by omega) _, Sv.own' (SR.out.keep B4)⟩
end Go.Proofs.YtcjglbejmlebhaaDoor
