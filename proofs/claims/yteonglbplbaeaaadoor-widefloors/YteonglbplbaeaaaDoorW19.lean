import Derived.Test.YteonglbplbaeaaaDoorM11
import Derived.Lib.QuietBelow
import Derived.BigQuiet
namespace Go.Proofs.YteonglbplbaeaaaDoor
open Go.RowKit Go.Shelf
attribute [local go_sem ↓] Go.wp_at_zero Go.wp_at_succ

theorem floor_zero (a : Int) (w : World) :
    Calls Tryd.prog 20 #[wv a, .int .i64 0] w fun e w' => e = .returned (.tuple #[wv 0, .int .i64 11]) ∧ Below w.heap.size w w' := by
  go_enter Tryd.func20, Tryd.ntmps20
  go_wp2_with fail
  refine (quotient_zero a _ _).mono ?_
  rintro e w1 ⟨rfl, hb1⟩
  obtain ⟨hc, hf⟩ := bcell hb1
  have c2 := hc (w.heap.size + 1) 0 (by simp); have c3 := hc (w.heap.size + 1) 1 (by simp)
  have f2 := hf (w.heap.size + 1) 0 (by simp); have f3 := hf (w.heap.size + 1) 1 (by simp)
  simp [go_sem] at c2 c3 f2 f3
  clear hc hf
  go_wp2
  simp [bodyPost, results, Tryd.results20, go_sem, c2, c3]
  repeat (first | exact Below.refl _ _ | refine bl_alloc ?_ _ | refine Below.drew ?_ | refine bl_drewN ?_ _ | refine bl_set ?_ (by omega) _ | refine bl_step ?_ (by assumption))
theorem ceil_zero (a : Int) (w : World) :
    Calls Tryd.prog 21 #[wv a, .int .i64 0] w fun e w' => e = .returned (.tuple #[wv 0, .int .i64 11]) ∧ Below w.heap.size w w' := by
  go_enter Tryd.func21, Tryd.ntmps21
  go_wp2_with fail
  refine (quotient_zero a _ _).mono ?_
  rintro e w1 ⟨rfl, hb1⟩
  obtain ⟨hc, hf⟩ := bcell hb1
  have c2 := hc (w.heap.size + 1) 0 (by simp); have c3 := hc (w.heap.size + 1) 1 (by simp)
  have f2 := hf (w.heap.size + 1) 0 (by simp); have f3 := hf (w.heap.size + 1) 1 (by simp)
  simp [go_sem] at c2 c3 f2 f3
  clear hc hf
  go_wp2
  simp [bodyPost, results, Tryd.results21, go_sem, c2, c3]
  repeat (first | exact Below.refl _ _ | refine bl_alloc ?_ _ | refine Below.drew ?_ | refine bl_drewN ?_ _ | refine bl_set ?_ (by omega) _ | refine bl_step ?_ (by assumption))
theorem floor_ok (a b q : Int) (ha : Rng a) (hb : I64 b) (h0 : b ≠ 0) (e : floorN a b = q) (h : Rng q) (w : World) :
    Calls Tryd.prog 20 #[wv a, .int .i64 b] w fun e w' => e = .returned (.tuple #[wv q, .int .i64 0]) ∧ Below w.heap.size w w' := by
  have k := floor_any a b ha hb h0 (parts_well a b ha hb h0) w
  rw [e, fitV_ok h, errV_ok h] at k; exact k
theorem ceil_ok (a b q : Int) (ha : Rng a) (hb : I64 b) (h0 : b ≠ 0) (e : ceilN a b = q) (h : Rng q) (w : World) :
    Calls Tryd.prog 21 #[wv a, .int .i64 b] w fun e w' => e = .returned (.tuple #[wv q, .int .i64 0]) ∧ Below w.heap.size w w' := by
  have k := ceil_any a b ha hb h0 (parts_well a b ha hb h0) w
  rw [e, fitV_ok h, errV_ok h] at k; exact k
theorem fneg_ok (n : Int) (hn : Rng n) (h : Rng (-n)) (w : World) :
    Calls Tryd.prog 17 #[wv n] w fun e w' => e = .returned (.tuple #[wv (-n), .int .i64 0]) ∧ Below w.heap.size w w' := by
  have k := neg_any n hn w
  rw [fitV_ok h, errV_ok h] at k; exact k
theorem fscale_ok (a b : Int) (ha : Rng a) (hb : I64 b) (h : Rng (a * b)) (w : World) :
    Calls Tryd.prog 19 #[wv a, .int .i64 b] w fun e w' => e = .returned (.tuple #[wv (a * b), .int .i64 0]) ∧ Below w.heap.size w w' := by
  have k := scale_any a b ha hb w
  rw [fitV_ok h, errV_ok h] at k; exact k
theorem i64_0 : I64 0 := ⟨by decide, by decide⟩
theorem i64_1 : I64 1 := ⟨by decide, by decide⟩

set_option maxHeartbeats 4000000 in
set_option maxRecDepth 100000 in
theorem floors_zero (x : Int) (hx : Rng x) (w : World) (L : Laid w) :
    Calls Tryd.prog 6 #[wv x, .int .i64 0] w fun e w' => e = .returned (.bool true) ∧ Below w.heap.size w w' := by
  have HL := hid1 L
  clear L
  go_enter Tryd.func6, Tryd.ntmps6
  go_wp2_with fail
  refine gen_calls (fun W' => Below w.heap.size w W' ∧ W'.cell? ⟨w.heap.size, 0, none⟩ = some (.int .i64 (hiOf x)) ∧ W'.cell? ⟨w.heap.size, 1, none⟩ = some (.int .u64 (loOf x))) ⟨bl_alloc (Below.refl _ _) _, by simp [go_sem], by simp [go_sem]⟩ ?_
  rintro W0 ⟨B0, x0, x1⟩
  refine (begun_any _ (HL.out.on B0)).mono ?_
  rintro e wb ⟨rfl, hbb⟩
  replace x0 := keepc hbb x0; replace x1 := keepc hbb x1
  go_wp2_with fail
  refine (lower_any x hx _).mono ?_
  rintro e w1 ⟨rfl, hb1⟩
  replace x0 := keepc hb1 x0; replace x1 := keepc hb1 x1
  clear x0 x1
  go_wp2_with fail
  refine gen_calls (fun W' => Below w1.heap.size w1 W' ∧ W'.cell? ⟨w1.heap.size, 0, none⟩ = some (.int .i64 (hiOf (lowN x))) ∧ W'.cell? ⟨w1.heap.size, 1, none⟩ = some (.int .u64 (loOf (lowN x)))) ⟨bl_alloc (Below.refl _ _) _, new0' _ _ _ _, new1' _ _ _ _⟩ ?_
  rintro X2 ⟨hX2, a0, a1⟩
  refine (floor_zero (lowN x) _).mono ?_
  rintro e w2 ⟨rfl, hb2⟩
  replace a0 := keepc hb2 a0; replace a1 := keepc hb2 a1
  have za := lt_of_cell a0
  go_wp2_with fail
  refine gen_calls (fun W' => Below w2.heap.size w2 W' ∧ W'.cell? ⟨w2.heap.size, 0, none⟩ = some (.int .i64 (hiOf (0))) ∧ W'.cell? ⟨w2.heap.size, 1, none⟩ = some (.int .u64 (loOf (0)))) ⟨bl_alloc (Below.refl _ _) _, new0' _ _ _ _, new1' _ _ _ _⟩ ?_
  clear za
  rintro X3 ⟨hX3, q0, q1⟩
  replace a0 := keepc hX3 a0; replace a1 := keepc hX3 a1
  refine (ceil_zero (lowN x) _).mono ?_
  rintro e w3 ⟨rfl, hb3⟩
  replace a0 := keepc hb3 a0; replace a1 := keepc hb3 a1
  replace q0 := keepc hb3 q0; replace q1 := keepc hb3 q1
  have za := lt_of_cell a0
  have zq := lt_of_cell q0
  have e0 := hi0; have e1 := lo0
  go_wp2
  go_ret
  refine ⟨rfl, ?_⟩
  repeat (first | exact Below.refl _ _ | refine bl_alloc ?_ _ | refine Below.drew ?_ | refine bl_drewN ?_ _ | refine bl_set ?_ (by omega) _ | refine bl_step ?_ (by assumption))

set_option maxHeartbeats 4000000 in
set_option maxRecDepth 100000 in
theorem floors_walk1 (x b : Int) (hx : Rng x) (hb : I64 b) (h0 : b ≠ 0) (w : World) (L : Laid w) :
    Calls Tryd.prog 6 #[wv x, .int .i64 b] w fun e w' => e = .returned (.bool true) ∧ Below w.heap.size w w' := by
  have HL := hid1 L
  clear L
  have hb0 : (b == 0) = false := beq_eq_false_iff_ne.2 h0
  have hlow := low_rng hx
  obtain ⟨a, ea⟩ : ∃ a, lowN x = a := ⟨_, rfl⟩
  rw [ea] at hlow
  obtain ⟨q, r, l, m1, m2, m3, m4, m5, m6, m7, m8, m9, m10, m11⟩ := floors_math hlow hb h0
  have hA : Rng a := ⟨by omega, by omega⟩
  have hNA : Rng (-a) := ⟨by omega, by omega⟩
  have hQ : Rng q := ⟨by omega, by omega⟩
  have hQ1 : Rng (q + 1) := ⟨by omega, by omega⟩
  have hR : Rng r := ⟨by omega, by omega⟩
  have hNR : Rng (-r) := ⟨by omega, by omega⟩
  have hNNR : Rng (- -r) := ⟨by omega, by omega⟩
  have hLl : Rng (a + -(q * b)) := by rw [m4]; exact ⟨by unfold I64 at hb; omega, by unfold I64 at hb; omega⟩
  have EA := hid1 ea; have M1 := hid1 m1; have M2 := hid1 m2; have M3 := hid1 m3; have M4 := hid1 m4; have M5 := hid1 m5; have M6 := hid1 m6; have M7 := hid1 m7; have H0 := hid1 h0; have HLOW := hid1 hlow
  clear ea m1 m2 m3 m4 m5 m6 m7 m8 m9 h0 hlow
  go_enter Tryd.func6, Tryd.ntmps6
  go_wp2_with fail
  refine gen_calls (fun W' => Below w.heap.size w W' ∧ W'.cell? ⟨w.heap.size, 0, none⟩ = some (.int .i64 (hiOf x)) ∧ W'.cell? ⟨w.heap.size, 1, none⟩ = some (.int .u64 (loOf x))) ⟨bl_alloc (Below.refl _ _) _, by simp [go_sem], by simp [go_sem]⟩ ?_
  rintro W0 ⟨B0, x0, x1⟩
  refine (begun_any _ (HL.out.on B0)).mono ?_
  rintro e wb ⟨rfl, hbb⟩
  replace x0 := keepc hbb x0; replace x1 := keepc hbb x1
  go_wp2_with fail
  refine (lower_any x hx _).mono ?_
  rintro e w1 ⟨rfl, hb1⟩
  rw [EA.out]
  replace x0 := keepc hb1 x0; replace x1 := keepc hb1 x1
  clear x0 x1
  go_wp2_with fail
  refine gen_calls (fun W' => Below w1.heap.size w1 W' ∧ W'.cell? ⟨w1.heap.size, 0, none⟩ = some (.int .i64 (hiOf (a))) ∧ W'.cell? ⟨w1.heap.size, 1, none⟩ = some (.int .u64 (loOf (a)))) ⟨bl_alloc (Below.refl _ _) _, new0' _ _ _ _, new1' _ _ _ _⟩ ?_
  rintro X2 ⟨hX2, a0, a1⟩
  refine (floor_ok a b q hA hb H0.out M1.out hQ _).mono ?_
  rintro e w2 ⟨rfl, hb2⟩
  replace a0 := keepc hb2 a0; replace a1 := keepc hb2 a1
  have za := lt_of_cell a0
  go_wp2_with fail
  refine gen_calls (fun W' => Below w2.heap.size w2 W' ∧ W'.cell? ⟨w2.heap.size, 0, none⟩ = some (.int .i64 (hiOf (q))) ∧ W'.cell? ⟨w2.heap.size, 1, none⟩ = some (.int .u64 (loOf (q)))) ⟨bl_alloc (Below.refl _ _) _, new0' _ _ _ _, new1' _ _ _ _⟩ ?_
  clear za
  rintro X3 ⟨hX3, q0, q1⟩
  replace a0 := keepc hX3 a0; replace a1 := keepc hX3 a1
  refine (ceil_ok a b r hA hb H0.out M2.out hR _).mono ?_
  rintro e w3 ⟨rfl, hb3⟩
  replace a0 := keepc hb3 a0; replace a1 := keepc hb3 a1
  replace q0 := keepc hb3 q0; replace q1 := keepc hb3 q1
  have za := lt_of_cell a0
  have zq := lt_of_cell q0
  go_wp2_with fail
  refine gen_calls (fun W' => Below w3.heap.size w3 W' ∧ W'.cell? ⟨w3.heap.size, 0, none⟩ = some (.int .i64 (hiOf (r))) ∧ W'.cell? ⟨w3.heap.size, 1, none⟩ = some (.int .u64 (loOf (r)))) ⟨bl_alloc (Below.refl _ _) _, new0' _ _ _ _, new1' _ _ _ _⟩ ?_
  clear za zq
  rintro X4 ⟨hX4, r0, r1⟩
  replace a0 := keepc hX4 a0; replace a1 := keepc hX4 a1
  replace q0 := keepc hX4 q0; replace q1 := keepc hX4 q1
  refine (fscale_ok q b hQ hb m10 _).mono ?_
  rintro e w4 ⟨rfl, hb4⟩
  replace a0 := keepc hb4 a0; replace a1 := keepc hb4 a1
  replace q0 := keepc hb4 q0; replace q1 := keepc hb4 q1
  replace r0 := keepc hb4 r0; replace r1 := keepc hb4 r1
  have za := lt_of_cell a0
  have zq := lt_of_cell q0
  have zr := lt_of_cell r0
  go_wp2_with fail
  refine gen_calls (fun W' => Below w4.heap.size w4 W' ∧ W'.cell? ⟨w4.heap.size, 0, none⟩ = some (.int .i64 (hiOf (q * b))) ∧ W'.cell? ⟨w4.heap.size, 1, none⟩ = some (.int .u64 (loOf (q * b)))) ⟨bl_alloc (Below.refl _ _) _, new0' _ _ _ _, new1' _ _ _ _⟩ ?_
  clear za zq zr
  rintro X5 ⟨hX5, p0, p1⟩
  replace a0 := keepc hX5 a0; replace a1 := keepc hX5 a1
  replace q0 := keepc hX5 q0; replace q1 := keepc hX5 q1
  replace r0 := keepc hX5 r0; replace r1 := keepc hX5 r1
  refine (fneg_ok (q * b) m10 m11 _).mono ?_
  rintro e w5 ⟨rfl, hb5⟩
  replace a0 := keepc hb5 a0; replace a1 := keepc hb5 a1
  replace q0 := keepc hb5 q0; replace q1 := keepc hb5 q1
  replace r0 := keepc hb5 r0; replace r1 := keepc hb5 r1
  replace p0 := keepc hb5 p0; replace p1 := keepc hb5 p1
  have za := lt_of_cell a0
  have zq := lt_of_cell q0
  have zr := lt_of_cell r0
  have zp := lt_of_cell p0
  go_wp2_with fail
  refine gen_calls (fun W' => Below w5.heap.size w5 W' ∧ W'.cell? ⟨w5.heap.size, 0, none⟩ = some (.int .i64 (hiOf (-(q * b)))) ∧ W'.cell? ⟨w5.heap.size, 1, none⟩ = some (.int .u64 (loOf (-(q * b))))) ⟨bl_alloc (Below.refl _ _) _, new0' _ _ _ _, new1' _ _ _ _⟩ ?_
  clear za zq zr zp
  rintro X6 ⟨hX6, n0, n1⟩
  replace a0 := keepc hX6 a0; replace a1 := keepc hX6 a1
  replace q0 := keepc hX6 q0; replace q1 := keepc hX6 q1
  replace r0 := keepc hX6 r0; replace r1 := keepc hX6 r1
  replace p0 := keepc hX6 p0; replace p1 := keepc hX6 p1
  refine (ladd_ok a (-(q * b)) hLl _).mono ?_
  rintro e w6 ⟨rfl, hb6⟩
  rw [M4.out]
  replace a0 := keepc hb6 a0; replace a1 := keepc hb6 a1
  replace q0 := keepc hb6 q0; replace q1 := keepc hb6 q1
  replace r0 := keepc hb6 r0; replace r1 := keepc hb6 r1
  replace p0 := keepc hb6 p0; replace p1 := keepc hb6 p1
  replace n0 := keepc hb6 n0; replace n1 := keepc hb6 n1
  clear p0 p1 n0 n1
  have za := lt_of_cell a0
  have zq := lt_of_cell q0
  have zr := lt_of_cell r0
  go_wp2_with fail
  refine gen_calls (fun W' => Below w6.heap.size w6 W' ∧ W'.cell? ⟨w6.heap.size, 0, none⟩ = some (.int .i64 (hiOf (l))) ∧ W'.cell? ⟨w6.heap.size, 1, none⟩ = some (.int .u64 (loOf (l)))) ⟨bl_alloc (Below.refl _ _) _, new0' _ _ _ _, new1' _ _ _ _⟩ ?_
  clear za zq zr
  rintro X7 ⟨hX7, l0, l1⟩
  replace a0 := keepc hX7 a0; replace a1 := keepc hX7 a1
  replace q0 := keepc hX7 q0; replace q1 := keepc hX7 q1
  replace r0 := keepc hX7 r0; replace r1 := keepc hX7 r1
  refine (of_any 0 i64_0 _).mono ?_
  rintro e w7 ⟨rfl, hb7⟩
  replace a0 := keepc hb7 a0; replace a1 := keepc hb7 a1
  replace q0 := keepc hb7 q0; replace q1 := keepc hb7 q1
  replace r0 := keepc hb7 r0; replace r1 := keepc hb7 r1
  replace l0 := keepc hb7 l0; replace l1 := keepc hb7 l1
  have za := lt_of_cell a0
  have zq := lt_of_cell q0
  have zr := lt_of_cell r0
  have zl := lt_of_cell l0
  go_upto_region 15 with fail
  refine gen_world (fun W' => Below w7.heap.size w7 W' ∧ W'.cell? ⟨w7.heap.size, 0, none⟩ = some (.int .i64 (hiOf 0)) ∧ W'.cell? ⟨w7.heap.size, 1, none⟩ = some (.int .u64 (loOf 0))) ⟨bl_alloc (Below.refl _ _) _, new0' _ _ _ _, new1' _ _ _ _⟩ ?_
  clear za zq zr zl
  rintro Y ⟨hY, o0, o1⟩
  replace a0 := keepc hY a0; replace a1 := keepc hY a1
  replace q0 := keepc hY q0; replace q1 := keepc hY q1
  replace r0 := keepc hY r0; replace r1 := keepc hY r1
  replace l0 := keepc hY l0; replace l1 := keepc hY l1
  go_cut [124] (fun s wx => s = .bool false ∧ Below Y.heap.size Y wx)
  case first =>
    have k0 := cell_regrown l0; have k1 := cell_regrown l1; have k2 := cell_regrown o0; have k3 := cell_regrown o1
    have cA := fun d os => Calls.regrown_of (w := Y) (d := d) (os := os) (cmp_any l 0 _)
    have cB := fun d os => Calls.regrown_of (w := Y) (d := d) (os := os) (of_any b hb _)
    rcases Int.lt_or_gt_of_ne H0.out with hs | hs
    · have n1 : decide (0 < b) = false := decide_eq_false (by omega)
      have n0 : decide (b < 0) = true := decide_eq_true hs
      have c1 : decide (0 < cmpN l 0) = false := decide_eq_false (by have h := (cmp_le (a := l) (b := 0)).2 (M6.out hs).2; omega)
      have cC := fun d os => Calls.regrown_of (w := Y) (d := d) (os := os) (cmp_any l b _)
      have c2 : cmpN l b = 1 := cmp_gt (M6.out hs).1
      rw [c2] at cC
      clear hs
      refine wp_region_quiet_below (by kernel_rfl) (by kernel_rfl) ?_
      repeat (any_goals (first | go_big_quiet_step (first | (go_at_call_of 14 (hiOf 0); exact cA _ _) | (go_at_call 13; exact cB _ _) | (go_at_call_of 14 (wv b); exact cC _ _)) | quiet_step (first | (go_at_call_of 14 (hiOf 0); exact cA _ _) | (go_at_call 13; exact cB _ _) | (go_at_call_of 14 (wv b); exact cC _ _))))
      refine wpQuiet_nil ?_
      intro _ hw'
      obtain ⟨⟨dq, osq⟩, hw''⟩ := hw'
      subst hw''
      go_wp2_with fail
      go_meet
      exact ⟨rfl, below_regrown Y dq osq⟩
    · have n1 : decide (b < 0) = false := decide_eq_false (by omega)
      have n0 : decide (0 < b) = true := decide_eq_true hs
      have c1 : decide (cmpN l 0 < 0) = false := decide_eq_false (by have h := (cmp_ge (a := l) (b := 0)).2 (M5.out hs).1; omega)
      have cC := fun d os => Calls.regrown_of (w := Y) (d := d) (os := os) (cmp_any l b _)
      have c2 : cmpN l b = -1 := cmp_lt (M5.out hs).2
      rw [c2] at cC
      clear hs
      refine wp_region_quiet_below (by kernel_rfl) (by kernel_rfl) ?_
      repeat (any_goals (first | go_big_quiet_step (first | (go_at_call_of 14 (hiOf 0); exact cA _ _) | (go_at_call 13; exact cB _ _) | (go_at_call_of 14 (wv b); exact cC _ _)) | quiet_step (first | (go_at_call_of 14 (hiOf 0); exact cA _ _) | (go_at_call 13; exact cB _ _) | (go_at_call_of 14 (wv b); exact cC _ _))))
      refine wpQuiet_nil ?_
      intro _ hw'
      obtain ⟨⟨dq, osq⟩, hw''⟩ := hw'
      subst hw''
      go_wp2_with fail
      go_meet
      exact ⟨rfl, below_regrown Y dq osq⟩
  case rest =>
    obtain ⟨rfl, hbz⟩ := hcut
    replace a0 := keepc hbz a0; replace a1 := keepc hbz a1
    replace q0 := keepc hbz q0; replace q1 := keepc hbz q1
    replace r0 := keepc hbz r0; replace r1 := keepc hbz r1
    replace l0 := keepc hbz l0; replace l1 := keepc hbz l1
    replace o0 := keepc hbz o0; replace o1 := keepc hbz o1
    rcases M7.out with ⟨hl, hr⟩ | ⟨hl, hr⟩
    · subst hl; subst hr
      have za := lt_of_cell a0
      have zq := lt_of_cell q0
      have zr := lt_of_cell r0
      have zl := lt_of_cell l0
      have zo := lt_of_cell o0
      go_wp2_with fail
      refine gen_calls (fun W' => Below wc.heap.size wc W' ∧ W'.cell? ⟨wc.heap.size, 0, none⟩ = some (.int .i64 (hiOf (r))) ∧ W'.cell? ⟨wc.heap.size, 1, none⟩ = some (.int .u64 (loOf (r)))) ⟨bl_alloc (Below.refl _ _) _, new0' _ _ _ _, new1' _ _ _ _⟩ ?_
      clear za zq zr zl zo
      rintro XU ⟨hXU, u0, u1⟩
      replace a0 := keepc hXU a0; replace a1 := keepc hXU a1
      replace q0 := keepc hXU q0; replace q1 := keepc hXU q1
      replace r0 := keepc hXU r0; replace r1 := keepc hXU r1
      replace l0 := keepc hXU l0; replace l1 := keepc hXU l1
      replace o0 := keepc hXU o0; replace o1 := keepc hXU o1
      refine (fneg_ok a hA hNA _).mono ?_
      rintro e wn ⟨rfl, hbn⟩
      replace a0 := keepc hbn a0; replace a1 := keepc hbn a1
      replace q0 := keepc hbn q0; replace q1 := keepc hbn q1
      replace r0 := keepc hbn r0; replace r1 := keepc hbn r1
      replace l0 := keepc hbn l0; replace l1 := keepc hbn l1
      replace o0 := keepc hbn o0; replace o1 := keepc hbn o1
      replace u0 := keepc hbn u0; replace u1 := keepc hbn u1
      clear l0 l1 o0 o1 a0 a1
      have zq := lt_of_cell q0
      have zr := lt_of_cell r0
      have zu := lt_of_cell u0
      go_wp2_with fail
      refine gen_calls (fun W' => Below wn.heap.size wn W' ∧ W'.cell? ⟨wn.heap.size, 0, none⟩ = some (.int .i64 (hiOf (-a))) ∧ W'.cell? ⟨wn.heap.size, 1, none⟩ = some (.int .u64 (loOf (-a)))) ⟨bl_alloc (Below.refl _ _) _, new0' _ _ _ _, new1' _ _ _ _⟩ ?_
      clear zq zr zu
      rintro X8 ⟨hX8, m0, m1⟩
      replace q0 := keepc hX8 q0; replace q1 := keepc hX8 q1
      replace r0 := keepc hX8 r0; replace r1 := keepc hX8 r1
      replace u0 := keepc hX8 u0; replace u1 := keepc hX8 u1
      refine (floor_ok (-a) b (-r) hNA hb H0.out M3.out hNR _).mono ?_
      rintro e w8 ⟨rfl, hb8⟩
      replace q0 := keepc hb8 q0; replace q1 := keepc hb8 q1
      replace r0 := keepc hb8 r0; replace r1 := keepc hb8 r1
      replace u0 := keepc hb8 u0; replace u1 := keepc hb8 u1
      replace m0 := keepc hb8 m0; replace m1 := keepc hb8 m1
      have zq := lt_of_cell q0
      have zr := lt_of_cell r0
      have zu := lt_of_cell u0
      have zm := lt_of_cell m0
      go_wp2_with fail
      refine gen_calls (fun W' => Below w8.heap.size w8 W' ∧ W'.cell? ⟨w8.heap.size, 0, none⟩ = some (.int .i64 (hiOf (-r))) ∧ W'.cell? ⟨w8.heap.size, 1, none⟩ = some (.int .u64 (loOf (-r)))) ⟨bl_alloc (Below.refl _ _) _, new0' _ _ _ _, new1' _ _ _ _⟩ ?_
      clear zq zr zu zm
      rintro X9 ⟨hX9, k0, k1⟩
      replace q0 := keepc hX9 q0; replace q1 := keepc hX9 q1
      replace r0 := keepc hX9 r0; replace r1 := keepc hX9 r1
      replace u0 := keepc hX9 u0; replace u1 := keepc hX9 u1
      replace m0 := keepc hX9 m0; replace m1 := keepc hX9 m1
      refine (fneg_ok (-r) hNR hNNR _).mono ?_
      rintro e w9 ⟨rfl, hb9⟩
      rw [Int.neg_neg]
      replace q0 := keepc hb9 q0; replace q1 := keepc hb9 q1
      replace r0 := keepc hb9 r0; replace r1 := keepc hb9 r1
      replace u0 := keepc hb9 u0; replace u1 := keepc hb9 u1
      replace m0 := keepc hb9 m0; replace m1 := keepc hb9 m1
      replace k0 := keepc hb9 k0; replace k1 := keepc hb9 k1
      have zq := lt_of_cell q0
      have zr := lt_of_cell r0
      have zu := lt_of_cell u0
      have zm := lt_of_cell m0
      have zk := lt_of_cell k0
      go_wp2
      go_ret
      refine ⟨rfl, ?_⟩
      repeat (first | exact Below.refl _ _ | refine bl_alloc ?_ _ | refine Below.drew ?_ | refine bl_drewN ?_ _ | refine bl_set ?_ (by omega) _ | refine bl_step ?_ (by assumption))
    · subst hr
      rcases words_ne hl with he | ⟨he, he2⟩
      all_goals
        have za := lt_of_cell a0
        have zq := lt_of_cell q0
        have zr := lt_of_cell r0
        have zl := lt_of_cell l0
        have zo := lt_of_cell o0
        go_upto_region 19 with fail
        refine gen_world (fun W' => Below wc.heap.size wc W' ∧ W'.cell? ⟨wc.heap.size, 0, none⟩ = some (.int .i64 (hiOf q)) ∧ W'.cell? ⟨wc.heap.size, 1, none⟩ = some (.int .u64 (loOf q)) ∧ W'.frozen? ⟨wc.heap.size, 0, none⟩ = false ∧ W'.frozen? ⟨wc.heap.size, 1, none⟩ = false) ⟨bl_alloc (Below.refl _ _) _, new0' _ _ _ _, new1' _ _ _ _, newf' _ _ _ _ _, newf' _ _ _ _ _⟩ ?_
        rintro Z ⟨hZ, u0, u1, g0, g1⟩
        replace a0 := keepc hZ a0; replace a1 := keepc hZ a1
        replace q0 := keepc hZ q0; replace q1 := keepc hZ q1
        replace r0 := keepc hZ r0; replace r1 := keepc hZ r1
        replace l0 := keepc hZ l0; replace l1 := keepc hZ l1
        replace o0 := keepc hZ o0; replace o1 := keepc hZ o1
        have nq : ¬ wc.heap.size = w2.heap.size := by omega
        have nq' : ¬ w2.heap.size = wc.heap.size := by omega
        have na : ¬ wc.heap.size = w1.heap.size := by omega
        have na' : ¬ w1.heap.size = wc.heap.size := by omega
        have nr : ¬ wc.heap.size = w3.heap.size := by omega
        have nr' : ¬ w3.heap.size = wc.heap.size := by omega
        have zu := lt_of_cell u0
        clear za zq zr zl zo
        go_region_held3 (fun X => X.cell? ⟨w2.heap.size, 0, none⟩ = some (.int .i64 (hiOf q)) ∧ X.cell? ⟨w2.heap.size, 1, none⟩ = some (.int .u64 (loOf q))) (((try dsimp only); first | (simp [go_sem, *]; done) | exact ⟨keepc (W := Z) (by repeat (first | exact Below.refl _ _ | refine bl_alloc ?_ _ | refine Below.drew ?_ | refine bl_drewN ?_ _ | refine bl_set ?_ (by omega) _ | refine bl_step ?_ (by assumption))) q0, keepc (W := Z) (by repeat (first | exact Below.refl _ _ | refine bl_alloc ?_ _ | refine Below.drew ?_ | refine bl_drewN ?_ _ | refine bl_set ?_ (by omega) _ | refine bl_step ?_ (by assumption))) q1⟩))
          (first
            | (go_at_call 13; refine (of_any 1 i64_1 _).mono ?_; rintro e v1 ⟨rfl, hv1⟩)
            | (go_at_call 15; refine (ladd_ok q 1 hQ1 _).mono ?_; rintro e v2 ⟨rfl, hv2⟩; have hZ2 : Below Z.heap.size Z v2 := (by repeat (first | exact Below.refl _ _ | refine bl_alloc ?_ _ | refine Below.drew ?_ | refine bl_drewN ?_ _ | refine bl_set ?_ (by omega) _ | refine bl_step ?_ (by assumption))); have y0 := keepc hZ2 u0; have y1 := keepc hZ2 u1; have y2 := keepf hZ2 zu g0; have y3 := keepf hZ2 zu g1; have aa0 := keepc hZ2 a0; have aa1 := keepc hZ2 a1; have rr0 := keepc hZ2 r0; have rr1 := keepc hZ2 r1))
        go_wp2_with fail
        refine gen_calls (fun W' => Below wc.heap.size wc W' ∧ W'.cell? ⟨wc.heap.size, 0, none⟩ = some (.int .i64 (hiOf (q + 1))) ∧ W'.cell? ⟨wc.heap.size, 1, none⟩ = some (.int .u64 (loOf (q + 1))) ∧ W'.cell? ⟨w3.heap.size, 0, none⟩ = some (.int .i64 (hiOf (q + 1))) ∧ W'.cell? ⟨w3.heap.size, 1, none⟩ = some (.int .u64 (loOf (q + 1)))) ⟨by repeat (first | exact Below.refl _ _ | refine bl_alloc ?_ _ | refine Below.drew ?_ | refine bl_drewN ?_ _ | refine bl_set ?_ (by omega) _ | refine bl_step ?_ (by assumption)), by simp [go_sem, y0], by simp [go_sem, y1], by simp [go_sem, World.cell?_setCell_other, rr0], by simp [go_sem, World.cell?_setCell_other, rr1]⟩ ?_
        clear u0 u1 r0 r1 a0 a1 q0 q1 l0 l1 o0 o1 y0 y1 y2 y3 aa0 aa1 rr0 rr1 g0 g1 nq nq' na na' nr nr' zu
        rintro XU ⟨hXU, u0, u1, r0, r1⟩
        refine (fneg_ok a hA hNA _).mono ?_
        rintro e wn ⟨rfl, hbn⟩
        replace u0 := keepc hbn u0; replace u1 := keepc hbn u1
        replace r0 := keepc hbn r0; replace r1 := keepc hbn r1
        have zu := lt_of_cell u0
        have zr := lt_of_cell r0
        go_wp2_with fail
        refine gen_calls (fun W' => Below wn.heap.size wn W' ∧ W'.cell? ⟨wn.heap.size, 0, none⟩ = some (.int .i64 (hiOf (-a))) ∧ W'.cell? ⟨wn.heap.size, 1, none⟩ = some (.int .u64 (loOf (-a)))) ⟨bl_alloc (Below.refl _ _) _, new0' _ _ _ _, new1' _ _ _ _⟩ ?_
        clear zu zr
        rintro X10 ⟨hX10, m0, m1⟩
        replace u0 := keepc hX10 u0; replace u1 := keepc hX10 u1
        replace r0 := keepc hX10 r0; replace r1 := keepc hX10 r1
        refine (floor_ok (-a) b (-(q + 1)) hNA hb H0.out M3.out hNR _).mono ?_
        rintro e w10 ⟨rfl, hb10⟩
        replace u0 := keepc hb10 u0; replace u1 := keepc hb10 u1
        replace r0 := keepc hb10 r0; replace r1 := keepc hb10 r1
        replace m0 := keepc hb10 m0; replace m1 := keepc hb10 m1
        have zu := lt_of_cell u0
        have zr := lt_of_cell r0
        have zm := lt_of_cell m0
        go_wp2_with fail
        refine gen_calls (fun W' => Below w10.heap.size w10 W' ∧ W'.cell? ⟨w10.heap.size, 0, none⟩ = some (.int .i64 (hiOf (-(q + 1)))) ∧ W'.cell? ⟨w10.heap.size, 1, none⟩ = some (.int .u64 (loOf (-(q + 1))))) ⟨bl_alloc (Below.refl _ _) _, new0' _ _ _ _, new1' _ _ _ _⟩ ?_
        clear zu zr zm
        rintro X11 ⟨hX11, k0, k1⟩
        replace u0 := keepc hX11 u0; replace u1 := keepc hX11 u1
        replace r0 := keepc hX11 r0; replace r1 := keepc hX11 r1
        replace m0 := keepc hX11 m0; replace m1 := keepc hX11 m1
        refine (fneg_ok (-(q + 1)) hNR hNNR _).mono ?_
        rintro e w11 ⟨rfl, hb11⟩
        rw [Int.neg_neg]
        replace u0 := keepc hb11 u0; replace u1 := keepc hb11 u1
        replace r0 := keepc hb11 r0; replace r1 := keepc hb11 r1
        replace m0 := keepc hb11 m0; replace m1 := keepc hb11 m1
        replace k0 := keepc hb11 k0; replace k1 := keepc hb11 k1
        have zu := lt_of_cell u0
        have zr := lt_of_cell r0
        have zm := lt_of_cell m0
        have zk := lt_of_cell k0
        go_wp2
        go_ret
        refine ⟨rfl, ?_⟩
        repeat (first | exact Below.refl _ _ | refine bl_alloc ?_ _ | refine Below.drew ?_ | refine bl_drewN ?_ _ | refine bl_set ?_ (by omega) _ | refine bl_step ?_ (by assumption))

theorem floors_walk (x b : Int) (hx : Rng x) (hb : I64 b) (w : World) (L : Laid w) :
    Calls Tryd.prog 6 #[wv x, .int .i64 b] w fun e w' => e = .returned (.bool true) ∧ Below w.heap.size w w' := by
  by_cases h0 : b = 0
  · subst h0; exact floors_zero x hx w L
  · exact floors_walk1 x b hx hb h0 w L
end Go.Proofs.YteonglbplbaeaaaDoor
