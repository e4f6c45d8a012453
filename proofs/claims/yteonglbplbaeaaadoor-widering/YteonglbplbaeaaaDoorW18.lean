import Derived.Test.YteonglbplbaeaaaDoorW17
namespace Go.Proofs.YteonglbplbaeaaaDoor
open Go.RowKit Go.Shelf
attribute [local go_sem ↓] Go.wp_at_zero Go.wp_at_succ

def Low (n : Int) : Prop := -42535295865117307932921825928971026432 ≤ n ∧ n < 42535295865117307932921825928971026432
theorem low_is {n : Int} (h : Rng n) : Low (lowN n) := low_rng h
theorem low2 {a b : Int} (ha : Low a) (hb : Low b) : Rng (a + b) := by unfold Low at *; unfold Rng; omega
theorem low3 {a b c : Int} (ha : Low a) (hb : Low b) (hc : Low c) : Rng (a + b + c) := by unfold Low at *; unfold Rng; omega
theorem low3' {a b c : Int} (ha : Low a) (hb : Low b) (hc : Low c) : Rng (a + (b + c)) := by unfold Low at *; unfold Rng; omega
theorem lowr {a : Int} (ha : Low a) : Rng a := by unfold Low at ha; unfold Rng; omega
theorem lown {a : Int} (ha : Low a) : Rng (-a) := by unfold Low at ha; unfold Rng; omega
theorem lowb {a b : Int} (ha : Low a) (_hb : Low b) : Rng (a + b + -b) := by unfold Low at ha; unfold Rng; omega
theorem neg_ok (n : Int) (hn : Rng n) (h : Rng (-n)) (w : World) :
    Calls Tryd.prog 17 #[wv n] w fun e w' => e = .returned (.tuple #[wv (-n), .int .i64 0]) ∧ Below w.heap.size w w' := by
  have k := neg_any n hn w
  rw [fitV_ok h, errV_ok h] at k; exact k
theorem scale_ok2 (a b : Int) (ha : Rng a) (hb : I64 b) (h : Rng (a * b)) (w : World) :
    Calls Tryd.prog 19 #[wv a, .int .i64 b] w fun e w' => e = .returned (.tuple #[wv (a * b), .int .i64 0]) ∧ Below w.heap.size w w' := by
  have k := scale_any a b ha hb w
  rw [fitV_ok h, errV_ok h] at k; exact k
theorem i64_rng {n : Int} (h : I64 n) : Rng n := by unfold I64 at h; unfold Rng; omega

theorem quarter {m p : Int} (h : I64 m) (e : wrap64 (m.tdiv 4) = p) : -2305843009213693952 ≤ p ∧ p ≤ 2305843009213693952 := by
  have e1 := Int.mul_tdiv_add_tmod m 4
  have b1 := Int.tmod_lt_of_pos m (show (0 : Int) < 4 by decide)
  have b2 : -4 < m.tmod 4 := Int.lt_tmod_of_pos m (by decide)
  unfold I64 at h; unfold wrap64 at e
  omega
theorem squares (p q : Int) : (p + q) * (p - q) = p * p + -(q * q) := by
  rw [Int.add_mul, Int.mul_sub, Int.mul_sub, Int.mul_comm q p]; omega
theorem sq_bd {q : Int} (h1 : -2305843009213693952 ≤ q) (h2 : q ≤ 2305843009213693952) : 0 ≤ q * q ∧ q * q ≤ 2305843009213693952 * 2305843009213693952 := by
  have e : absN q * absN q = q * q := by
    unfold absN; split
    · rw [Int.neg_mul_neg]
    · rfl
  have h0 : 0 ≤ absN q ∧ absN q ≤ 2305843009213693952 := by unfold absN; split <;> omega
  rw [← e]
  exact ⟨Int.mul_nonneg h0.1 h0.1, Int.mul_le_mul h0.2 h0.2 h0.1 (by decide)⟩
theorem sq_rng {q : Int} (h1 : -2305843009213693952 ≤ q) (h2 : q ≤ 2305843009213693952) : Rng (q * q) ∧ Rng (-(q * q)) := by
  have := sq_bd h1 h2; unfold Rng; omega
theorem sqd_rng {p q : Int} (g1 : -2305843009213693952 ≤ p) (g2 : p ≤ 2305843009213693952) (h1 : -2305843009213693952 ≤ q) (h2 : q ≤ 2305843009213693952) : Rng (p * p + -(q * q)) := by
  have := sq_bd h1 h2; have := sq_bd g1 g2; unfold Rng; omega

set_option maxHeartbeats 4000000 in
set_option maxRecDepth 100000 in
theorem ring_walk (x y z m n : Int) (hx : Rng x) (hy : Rng y) (hz : Rng z) (hm : I64 m) (hn : I64 n) (w : World) (L : Laid w) :
    Calls Tryd.prog 5 #[wv x, wv y, wv z, .int .i64 m, .int .i64 n] w fun e w' => e = .returned (.bool true) ∧ Below w.heap.size w w' := by
  have HL := hid1 L
  clear L
  go_enter Tryd.func5, Tryd.ntmps5
  go_wp2_with fail
  refine gen_calls (fun W' => Below w.heap.size w W' ∧ W'.cell? ⟨w.heap.size, 0, none⟩ = some (.int .i64 (hiOf x)) ∧ W'.cell? ⟨w.heap.size, 1, none⟩ = some (.int .u64 (loOf x)) ∧ W'.cell? ⟨w.heap.size + 1, 0, none⟩ = some (.int .i64 (hiOf y)) ∧ W'.cell? ⟨w.heap.size + 1, 1, none⟩ = some (.int .u64 (loOf y)) ∧ W'.cell? ⟨w.heap.size + 1 + 1, 0, none⟩ = some (.int .i64 (hiOf z)) ∧ W'.cell? ⟨w.heap.size + 1 + 1, 1, none⟩ = some (.int .u64 (loOf z))) ⟨by repeat (first | exact Below.refl _ _ | refine bl_alloc ?_ _ | refine Below.drew ?_ | refine bl_drewN ?_ _ | refine bl_set ?_ (by omega) _ | refine bl_step ?_ (by assumption)), by simp [go_sem], by simp [go_sem], by simp [go_sem], by simp [go_sem], by simp [go_sem], by simp [go_sem]⟩ ?_
  rintro W0 ⟨B0, x0, x1, y0, y1, z0, z1⟩
  refine (begun_any _ (HL.out.on B0)).mono ?_
  rintro e wb ⟨rfl, hbb⟩
  replace x0 := keepc hbb x0; replace x1 := keepc hbb x1
  replace y0 := keepc hbb y0; replace y1 := keepc hbb y1
  replace z0 := keepc hbb z0; replace z1 := keepc hbb z1
  go_wp2_with fail
  refine (lower_any x hx _).mono ?_
  rintro e w1 ⟨rfl, hb1⟩
  have ha := low_is hx; obtain ⟨a, ea⟩ : ∃ a, lowN x = a := ⟨_, rfl⟩; rw [ea] at ha; rw [ea]; clear ea
  replace x0 := keepc hb1 x0; replace x1 := keepc hb1 x1
  replace y0 := keepc hb1 y0; replace y1 := keepc hb1 y1
  replace z0 := keepc hb1 z0; replace z1 := keepc hb1 z1
  clear x0 x1
  have zy := lt_of_cell y0
  have zz := lt_of_cell z0
  go_wp2_with fail
  refine gen_calls (fun W' => Below w1.heap.size w1 W' ∧ W'.cell? ⟨w1.heap.size, 0, none⟩ = some (.int .i64 (hiOf (a))) ∧ W'.cell? ⟨w1.heap.size, 1, none⟩ = some (.int .u64 (loOf (a)))) ⟨bl_alloc (Below.refl _ _) _, new0' _ _ _ _, new1' _ _ _ _⟩ ?_
  clear zy zz
  rintro X2 ⟨hX2, a0, a1⟩
  replace y0 := keepc hX2 y0; replace y1 := keepc hX2 y1
  replace z0 := keepc hX2 z0; replace z1 := keepc hX2 z1
  refine (lower_any y hy _).mono ?_
  rintro e w2 ⟨rfl, hb2⟩
  have hb := low_is hy; obtain ⟨b, eb⟩ : ∃ b, lowN y = b := ⟨_, rfl⟩; rw [eb] at hb; rw [eb]; clear eb
  replace y0 := keepc hb2 y0; replace y1 := keepc hb2 y1
  replace z0 := keepc hb2 z0; replace z1 := keepc hb2 z1
  replace a0 := keepc hb2 a0; replace a1 := keepc hb2 a1
  clear y0 y1
  have zz := lt_of_cell z0
  have za := lt_of_cell a0
  go_wp2_with fail
  refine gen_calls (fun W' => Below w2.heap.size w2 W' ∧ W'.cell? ⟨w2.heap.size, 0, none⟩ = some (.int .i64 (hiOf (b))) ∧ W'.cell? ⟨w2.heap.size, 1, none⟩ = some (.int .u64 (loOf (b)))) ⟨bl_alloc (Below.refl _ _) _, new0' _ _ _ _, new1' _ _ _ _⟩ ?_
  clear zz za
  rintro X3 ⟨hX3, b0, b1⟩
  replace z0 := keepc hX3 z0; replace z1 := keepc hX3 z1
  replace a0 := keepc hX3 a0; replace a1 := keepc hX3 a1
  refine (lower_any z hz _).mono ?_
  rintro e w3 ⟨rfl, hb3⟩
  have hc := low_is hz; obtain ⟨c, ec⟩ : ∃ c, lowN z = c := ⟨_, rfl⟩; rw [ec] at hc; rw [ec]; clear ec
  replace z0 := keepc hb3 z0; replace z1 := keepc hb3 z1
  replace a0 := keepc hb3 a0; replace a1 := keepc hb3 a1
  replace b0 := keepc hb3 b0; replace b1 := keepc hb3 b1
  clear z0 z1
  have za := lt_of_cell a0
  have zb := lt_of_cell b0
  go_wp2_with fail
  refine gen_calls (fun W' => Below w3.heap.size w3 W' ∧ W'.cell? ⟨w3.heap.size, 0, none⟩ = some (.int .i64 (hiOf (c))) ∧ W'.cell? ⟨w3.heap.size, 1, none⟩ = some (.int .u64 (loOf (c)))) ⟨bl_alloc (Below.refl _ _) _, new0' _ _ _ _, new1' _ _ _ _⟩ ?_
  clear za zb
  rintro X4 ⟨hX4, c0, c1⟩
  replace a0 := keepc hX4 a0; replace a1 := keepc hX4 a1
  replace b0 := keepc hX4 b0; replace b1 := keepc hX4 b1
  refine (ladd_ok a b (low2 ha hb) _).mono ?_
  rintro e w4 ⟨rfl, hb4⟩
  replace a0 := keepc hb4 a0; replace a1 := keepc hb4 a1
  replace b0 := keepc hb4 b0; replace b1 := keepc hb4 b1
  replace c0 := keepc hb4 c0; replace c1 := keepc hb4 c1
  have za := lt_of_cell a0
  have zb := lt_of_cell b0
  have zc := lt_of_cell c0
  go_wp2_with fail
  refine gen_calls (fun W' => Below w4.heap.size w4 W' ∧ W'.cell? ⟨w4.heap.size, 0, none⟩ = some (.int .i64 (hiOf (a + b))) ∧ W'.cell? ⟨w4.heap.size, 1, none⟩ = some (.int .u64 (loOf (a + b)))) ⟨bl_alloc (Below.refl _ _) _, new0' _ _ _ _, new1' _ _ _ _⟩ ?_
  clear za zb zc
  rintro X5 ⟨hX5, p0, p1⟩
  replace a0 := keepc hX5 a0; replace a1 := keepc hX5 a1
  replace b0 := keepc hX5 b0; replace b1 := keepc hX5 b1
  replace c0 := keepc hX5 c0; replace c1 := keepc hX5 c1
  refine (ladd_ok b a (low2 hb ha) _).mono ?_
  rintro e w5 ⟨rfl, hb5⟩
  rw [Int.add_comm b a]
  replace a0 := keepc hb5 a0; replace a1 := keepc hb5 a1
  replace b0 := keepc hb5 b0; replace b1 := keepc hb5 b1
  replace c0 := keepc hb5 c0; replace c1 := keepc hb5 c1
  replace p0 := keepc hb5 p0; replace p1 := keepc hb5 p1
  have za := lt_of_cell a0
  have zb := lt_of_cell b0
  have zc := lt_of_cell c0
  have zp := lt_of_cell p0
  go_wp2_with fail
  refine gen_calls (fun W' => Below w5.heap.size w5 W' ∧ W'.cell? ⟨w5.heap.size, 0, none⟩ = some (.int .i64 (hiOf (a + b))) ∧ W'.cell? ⟨w5.heap.size, 1, none⟩ = some (.int .u64 (loOf (a + b)))) ⟨bl_alloc (Below.refl _ _) _, new0' _ _ _ _, new1' _ _ _ _⟩ ?_
  clear za zb zc zp
  rintro X6 ⟨hX6, q0, q1⟩
  replace a0 := keepc hX6 a0; replace a1 := keepc hX6 a1
  replace b0 := keepc hX6 b0; replace b1 := keepc hX6 b1
  replace c0 := keepc hX6 c0; replace c1 := keepc hX6 c1
  replace p0 := keepc hX6 p0; replace p1 := keepc hX6 p1
  refine (ladd_ok (a + b) c (low3 ha hb hc) _).mono ?_
  rintro e w6 ⟨rfl, hb6⟩
  replace a0 := keepc hb6 a0; replace a1 := keepc hb6 a1
  replace b0 := keepc hb6 b0; replace b1 := keepc hb6 b1
  replace c0 := keepc hb6 c0; replace c1 := keepc hb6 c1
  replace p0 := keepc hb6 p0; replace p1 := keepc hb6 p1
  replace q0 := keepc hb6 q0; replace q1 := keepc hb6 q1
  have za := lt_of_cell a0
  have zb := lt_of_cell b0
  have zc := lt_of_cell c0
  have zp := lt_of_cell p0
  have zq := lt_of_cell q0
  go_wp2_with fail
  refine gen_calls (fun W' => Below w6.heap.size w6 W' ∧ W'.cell? ⟨w6.heap.size, 0, none⟩ = some (.int .i64 (hiOf (a + b + c))) ∧ W'.cell? ⟨w6.heap.size, 1, none⟩ = some (.int .u64 (loOf (a + b + c)))) ⟨bl_alloc (Below.refl _ _) _, new0' _ _ _ _, new1' _ _ _ _⟩ ?_
  clear za zb zc zp zq
  rintro X7 ⟨hX7, l0, l1⟩
  replace a0 := keepc hX7 a0; replace a1 := keepc hX7 a1
  replace b0 := keepc hX7 b0; replace b1 := keepc hX7 b1
  replace c0 := keepc hX7 c0; replace c1 := keepc hX7 c1
  replace p0 := keepc hX7 p0; replace p1 := keepc hX7 p1
  replace q0 := keepc hX7 q0; replace q1 := keepc hX7 q1
  refine (ladd_ok b c (low2 hb hc) _).mono ?_
  rintro e w7 ⟨rfl, hb7⟩
  replace a0 := keepc hb7 a0; replace a1 := keepc hb7 a1
  replace b0 := keepc hb7 b0; replace b1 := keepc hb7 b1
  replace c0 := keepc hb7 c0; replace c1 := keepc hb7 c1
  replace p0 := keepc hb7 p0; replace p1 := keepc hb7 p1
  replace q0 := keepc hb7 q0; replace q1 := keepc hb7 q1
  replace l0 := keepc hb7 l0; replace l1 := keepc hb7 l1
  have za := lt_of_cell a0
  have zb := lt_of_cell b0
  have zc := lt_of_cell c0
  have zp := lt_of_cell p0
  have zq := lt_of_cell q0
  have zl := lt_of_cell l0
  go_wp2_with fail
  refine gen_calls (fun W' => Below w7.heap.size w7 W' ∧ W'.cell? ⟨w7.heap.size, 0, none⟩ = some (.int .i64 (hiOf (b + c))) ∧ W'.cell? ⟨w7.heap.size, 1, none⟩ = some (.int .u64 (loOf (b + c)))) ⟨bl_alloc (Below.refl _ _) _, new0' _ _ _ _, new1' _ _ _ _⟩ ?_
  clear za zb zc zp zq zl
  rintro X8 ⟨hX8, s0, s1⟩
  replace a0 := keepc hX8 a0; replace a1 := keepc hX8 a1
  replace b0 := keepc hX8 b0; replace b1 := keepc hX8 b1
  replace c0 := keepc hX8 c0; replace c1 := keepc hX8 c1
  replace p0 := keepc hX8 p0; replace p1 := keepc hX8 p1
  replace q0 := keepc hX8 q0; replace q1 := keepc hX8 q1
  replace l0 := keepc hX8 l0; replace l1 := keepc hX8 l1
  refine (ladd_ok a (b + c) (low3' ha hb hc) _).mono ?_
  rintro e w8 ⟨rfl, hb8⟩
  rw [← Int.add_assoc]
  replace a0 := keepc hb8 a0; replace a1 := keepc hb8 a1
  replace b0 := keepc hb8 b0; replace b1 := keepc hb8 b1
  replace c0 := keepc hb8 c0; replace c1 := keepc hb8 c1
  replace p0 := keepc hb8 p0; replace p1 := keepc hb8 p1
  replace q0 := keepc hb8 q0; replace q1 := keepc hb8 q1
  replace l0 := keepc hb8 l0; replace l1 := keepc hb8 l1
  replace s0 := keepc hb8 s0; replace s1 := keepc hb8 s1
  have za := lt_of_cell a0
  have zb := lt_of_cell b0
  have zc := lt_of_cell c0
  have zp := lt_of_cell p0
  have zq := lt_of_cell q0
  have zl := lt_of_cell l0
  have zs := lt_of_cell s0
  go_wp2_with fail
  refine gen_calls (fun W' => Below w8.heap.size w8 W' ∧ W'.cell? ⟨w8.heap.size, 0, none⟩ = some (.int .i64 (hiOf (a + b + c))) ∧ W'.cell? ⟨w8.heap.size, 1, none⟩ = some (.int .u64 (loOf (a + b + c)))) ⟨bl_alloc (Below.refl _ _) _, new0' _ _ _ _, new1' _ _ _ _⟩ ?_
  clear za zb zc zp zq zl zs
  rintro X9 ⟨hX9, r0, r1⟩
  replace a0 := keepc hX9 a0; replace a1 := keepc hX9 a1
  replace b0 := keepc hX9 b0; replace b1 := keepc hX9 b1
  replace c0 := keepc hX9 c0; replace c1 := keepc hX9 c1
  replace p0 := keepc hX9 p0; replace p1 := keepc hX9 p1
  replace q0 := keepc hX9 q0; replace q1 := keepc hX9 q1
  replace l0 := keepc hX9 l0; replace l1 := keepc hX9 l1
  replace s0 := keepc hX9 s0; replace s1 := keepc hX9 s1
  refine (neg_ok b (lowr hb) (lown hb) _).mono ?_
  rintro e w9 ⟨rfl, hb9⟩
  replace a0 := keepc hb9 a0; replace a1 := keepc hb9 a1
  replace b0 := keepc hb9 b0; replace b1 := keepc hb9 b1
  replace c0 := keepc hb9 c0; replace c1 := keepc hb9 c1
  replace p0 := keepc hb9 p0; replace p1 := keepc hb9 p1
  replace q0 := keepc hb9 q0; replace q1 := keepc hb9 q1
  replace l0 := keepc hb9 l0; replace l1 := keepc hb9 l1
  replace s0 := keepc hb9 s0; replace s1 := keepc hb9 s1
  replace r0 := keepc hb9 r0; replace r1 := keepc hb9 r1
  have za := lt_of_cell a0
  have zb := lt_of_cell b0
  have zc := lt_of_cell c0
  have zp := lt_of_cell p0
  have zq := lt_of_cell q0
  have zl := lt_of_cell l0
  have zs := lt_of_cell s0
  have zr := lt_of_cell r0
  go_wp2_with fail
  refine gen_calls (fun W' => Below w9.heap.size w9 W' ∧ W'.cell? ⟨w9.heap.size, 0, none⟩ = some (.int .i64 (hiOf (-b))) ∧ W'.cell? ⟨w9.heap.size, 1, none⟩ = some (.int .u64 (loOf (-b)))) ⟨bl_alloc (Below.refl _ _) _, new0' _ _ _ _, new1' _ _ _ _⟩ ?_
  clear za zb zc zp zq zl zs zr
  rintro X10 ⟨hX10, t0, t1⟩
  replace a0 := keepc hX10 a0; replace a1 := keepc hX10 a1
  replace b0 := keepc hX10 b0; replace b1 := keepc hX10 b1
  replace c0 := keepc hX10 c0; replace c1 := keepc hX10 c1
  replace p0 := keepc hX10 p0; replace p1 := keepc hX10 p1
  replace q0 := keepc hX10 q0; replace q1 := keepc hX10 q1
  replace l0 := keepc hX10 l0; replace l1 := keepc hX10 l1
  replace s0 := keepc hX10 s0; replace s1 := keepc hX10 s1
  replace r0 := keepc hX10 r0; replace r1 := keepc hX10 r1
  refine (ladd_ok (a + b) (-b) (lowb ha hb) _).mono ?_
  rintro e w10 ⟨rfl, hb10⟩
  rw [show a + b + -b = a by omega]
  replace a0 := keepc hb10 a0; replace a1 := keepc hb10 a1
  replace b0 := keepc hb10 b0; replace b1 := keepc hb10 b1
  replace c0 := keepc hb10 c0; replace c1 := keepc hb10 c1
  replace p0 := keepc hb10 p0; replace p1 := keepc hb10 p1
  replace q0 := keepc hb10 q0; replace q1 := keepc hb10 q1
  replace l0 := keepc hb10 l0; replace l1 := keepc hb10 l1
  replace s0 := keepc hb10 s0; replace s1 := keepc hb10 s1
  replace r0 := keepc hb10 r0; replace r1 := keepc hb10 r1
  replace t0 := keepc hb10 t0; replace t1 := keepc hb10 t1
  have za := lt_of_cell a0
  have zb := lt_of_cell b0
  have zc := lt_of_cell c0
  have zp := lt_of_cell p0
  have zq := lt_of_cell q0
  have zl := lt_of_cell l0
  have zs := lt_of_cell s0
  have zr := lt_of_cell r0
  have zt := lt_of_cell t0
  go_wp2_with fail
  refine gen_calls (fun W' => Below w10.heap.size w10 W' ∧ W'.cell? ⟨w10.heap.size, 0, none⟩ = some (.int .i64 (hiOf (a))) ∧ W'.cell? ⟨w10.heap.size, 1, none⟩ = some (.int .u64 (loOf (a)))) ⟨bl_alloc (Below.refl _ _) _, new0' _ _ _ _, new1' _ _ _ _⟩ ?_
  clear za zb zc zp zq zl zs zr zt
  rintro X11 ⟨hX11, u0, u1⟩
  replace a0 := keepc hX11 a0; replace a1 := keepc hX11 a1
  replace b0 := keepc hX11 b0; replace b1 := keepc hX11 b1
  replace c0 := keepc hX11 c0; replace c1 := keepc hX11 c1
  replace p0 := keepc hX11 p0; replace p1 := keepc hX11 p1
  replace q0 := keepc hX11 q0; replace q1 := keepc hX11 q1
  replace l0 := keepc hX11 l0; replace l1 := keepc hX11 l1
  replace s0 := keepc hX11 s0; replace s1 := keepc hX11 s1
  replace r0 := keepc hX11 r0; replace r1 := keepc hX11 r1
  replace t0 := keepc hX11 t0; replace t1 := keepc hX11 t1
  refine (mul_any m n hm hn _).mono ?_
  rintro e w11 ⟨rfl, hb11⟩
  replace a0 := keepc hb11 a0; replace a1 := keepc hb11 a1
  replace b0 := keepc hb11 b0; replace b1 := keepc hb11 b1
  replace c0 := keepc hb11 c0; replace c1 := keepc hb11 c1
  replace p0 := keepc hb11 p0; replace p1 := keepc hb11 p1
  replace q0 := keepc hb11 q0; replace q1 := keepc hb11 q1
  replace l0 := keepc hb11 l0; replace l1 := keepc hb11 l1
  replace s0 := keepc hb11 s0; replace s1 := keepc hb11 s1
  replace r0 := keepc hb11 r0; replace r1 := keepc hb11 r1
  replace t0 := keepc hb11 t0; replace t1 := keepc hb11 t1
  replace u0 := keepc hb11 u0; replace u1 := keepc hb11 u1
  clear b0 b1 c0 c1 p0 p1 q0 q1 l0 l1 s0 s1 r0 r1 t0 t1 u0 u1 a0 a1
  go_wp2_with fail
  refine gen_calls (fun W' => Below w11.heap.size w11 W' ∧ W'.cell? ⟨w11.heap.size, 0, none⟩ = some (.int .i64 (hiOf (m * n))) ∧ W'.cell? ⟨w11.heap.size, 1, none⟩ = some (.int .u64 (loOf (m * n)))) ⟨bl_alloc (Below.refl _ _) _, new0' _ _ _ _, new1' _ _ _ _⟩ ?_
  rintro X12 ⟨hX12, p0, p1⟩
  refine (of_any m hm _).mono ?_
  rintro e w12 ⟨rfl, hb12⟩
  replace p0 := keepc hb12 p0; replace p1 := keepc hb12 p1
  go_wp2_with fail
  refine (scale_ok2 m n (i64_rng hm) hn (rng_mul hm hn) _).mono ?_
  rintro e w13 ⟨rfl, hb13⟩
  replace p0 := keepc hb13 p0; replace p1 := keepc hb13 p1
  have zp := lt_of_cell p0
  go_wp2_with fail
  refine gen_calls (fun W' => Below w13.heap.size w13 W' ∧ W'.cell? ⟨w13.heap.size, 0, none⟩ = some (.int .i64 (hiOf (m * n))) ∧ W'.cell? ⟨w13.heap.size, 1, none⟩ = some (.int .u64 (loOf (m * n)))) ⟨bl_alloc (Below.refl _ _) _, new0' _ _ _ _, new1' _ _ _ _⟩ ?_
  clear zp
  rintro X14 ⟨hX14, q0, q1⟩
  replace p0 := keepc hX14 p0; replace p1 := keepc hX14 p1
  refine (of_any n hn _).mono ?_
  rintro e w14 ⟨rfl, hb14⟩
  replace p0 := keepc hb14 p0; replace p1 := keepc hb14 p1
  replace q0 := keepc hb14 q0; replace q1 := keepc hb14 q1
  go_wp2_with fail
  refine (scale_ok2 n m (i64_rng hn) hm (rng_mul hn hm) _).mono ?_
  rintro e w15 ⟨rfl, hb15⟩
  rw [Int.mul_comm n m]
  replace p0 := keepc hb15 p0; replace p1 := keepc hb15 p1
  replace q0 := keepc hb15 q0; replace q1 := keepc hb15 q1
  obtain ⟨p4, eP⟩ : ∃ p4, wrap64 (m.tdiv 4) = p4 := ⟨_, rfl⟩
  obtain ⟨q4, eQ⟩ : ∃ q4, wrap64 (n.tdiv 4) = q4 := ⟨_, rfl⟩
  obtain ⟨p41, p42⟩ := quarter hm eP
  obtain ⟨q41, q42⟩ := quarter hn eQ
  have zp := lt_of_cell p0
  have zq := lt_of_cell q0
  go_wp2_with fail
  refine gen_calls (fun W' => Below w15.heap.size w15 W' ∧ W'.cell? ⟨w15.heap.size, 0, none⟩ = some (.int .i64 (hiOf (m * n))) ∧ W'.cell? ⟨w15.heap.size, 1, none⟩ = some (.int .u64 (loOf (m * n)))) ⟨bl_alloc (Below.refl _ _) _, new0' _ _ _ _, new1' _ _ _ _⟩ ?_
  clear zp zq
  rintro X16 ⟨hX16, t0, t1⟩
  replace p0 := keepc hX16 p0; replace p1 := keepc hX16 p1
  replace q0 := keepc hX16 q0; replace q1 := keepc hX16 q1
  refine (mul_any (p4 + q4) (p4 - q4) ⟨by omega, by omega⟩ ⟨by omega, by omega⟩ _).mono ?_
  rintro e w16 ⟨rfl, hb16⟩
  rw [squares p4 q4]
  replace p0 := keepc hb16 p0; replace p1 := keepc hb16 p1
  replace q0 := keepc hb16 q0; replace q1 := keepc hb16 q1
  replace t0 := keepc hb16 t0; replace t1 := keepc hb16 t1
  clear p0 p1 q0 q1 t0 t1
  go_wp2_with fail
  refine gen_calls (fun W' => Below w16.heap.size w16 W' ∧ W'.cell? ⟨w16.heap.size, 0, none⟩ = some (.int .i64 (hiOf (p4 * p4 + -(q4 * q4)))) ∧ W'.cell? ⟨w16.heap.size, 1, none⟩ = some (.int .u64 (loOf (p4 * p4 + -(q4 * q4))))) ⟨bl_alloc (Below.refl _ _) _, new0' _ _ _ _, new1' _ _ _ _⟩ ?_
  rintro X17 ⟨hX17, s0, s1⟩
  refine (mul_any q4 q4 ⟨by omega, by omega⟩ ⟨by omega, by omega⟩ _).mono ?_
  rintro e w17 ⟨rfl, hb17⟩
  replace s0 := keepc hb17 s0; replace s1 := keepc hb17 s1
  go_wp2_with fail
  refine (neg_ok (q4 * q4) (sq_rng q41 q42).1 (sq_rng q41 q42).2 _).mono ?_
  rintro e w18 ⟨rfl, hb18⟩
  replace s0 := keepc hb18 s0; replace s1 := keepc hb18 s1
  have zs := lt_of_cell s0
  go_upto_region 25 with fail
  refine gen_world (fun W' => Below w18.heap.size w18 W' ∧ W'.cell? ⟨w18.heap.size, 0, none⟩ = some (.int .i64 (hiOf (-(q4 * q4)))) ∧ W'.cell? ⟨w18.heap.size, 1, none⟩ = some (.int .u64 (loOf (-(q4 * q4))))) ⟨bl_alloc (Below.refl _ _) _, new0' _ _ _ _, new1' _ _ _ _⟩ ?_
  clear zs
  rintro Y ⟨hY, u0, u1⟩
  replace s0 := keepc hY s0; replace s1 := keepc hY s1
  go_cut [35, 16] (fun sv so wx => ∃ M, sv = .pointer (some ⟨M, 0, none⟩) ∧ so = .bool true ∧ Below Y.heap.size Y wx ∧ wx.cell? ⟨M, 0, none⟩ = some (.int .i64 (hiOf (p4 * p4 + -(q4 * q4)))) ∧ wx.cell? ⟨M, 1, none⟩ = some (.int .u64 (loOf (p4 * p4 + -(q4 * q4)))))
  case first =>
    go_region_held3 (fun X => X.cell? ⟨w18.heap.size, 0, none⟩ = some (.int .i64 (hiOf (-(q4 * q4)))) ∧ X.cell? ⟨w18.heap.size, 1, none⟩ = some (.int .u64 (loOf (-(q4 * q4))))) (((try dsimp only); exact ⟨keepc (W := Y) (by repeat (first | exact Below.refl _ _ | refine bl_alloc ?_ _ | refine Below.drew ?_ | refine bl_drewN ?_ _ | refine bl_set ?_ (by omega) _ | refine bl_step ?_ (by assumption))) u0, keepc (W := Y) (by repeat (first | exact Below.refl _ _ | refine bl_alloc ?_ _ | refine Below.drew ?_ | refine bl_drewN ?_ _ | refine bl_set ?_ (by omega) _ | refine bl_step ?_ (by assumption))) u1⟩))
      (first
        | (go_at_call 18; refine (mul_any p4 p4 ⟨by omega, by omega⟩ ⟨by omega, by omega⟩ _).mono ?_; rintro e v1 ⟨rfl, hv1⟩; have s1 := hv1.size; (try simp at s1); have t1 : Y.heap.size ≤ v1.heap.size := (show Below Y.heap.size Y v1 by repeat (first | exact Below.refl _ _ | refine bl_alloc ?_ _ | refine Below.drew ?_ | refine bl_drewN ?_ _ | refine bl_set ?_ (by omega) _ | refine bl_step ?_ (by assumption))).size)
        | (go_at_call 15; refine (ladd_ok (p4 * p4) (-(q4 * q4)) (sqd_rng p41 p42 q41 q42) _).mono ?_; rintro e v2 ⟨rfl, hv2⟩; have t2 : Y.heap.size ≤ v2.heap.size := (show Below Y.heap.size Y v2 by repeat (first | exact Below.refl _ _ | refine bl_alloc ?_ _ | refine Below.drew ?_ | refine bl_drewN ?_ _ | refine bl_set ?_ (by omega) _ | refine bl_step ?_ (by assumption))).size; have ya0 := keepc hv2 (keepc hv1 (new0 Y (.int .i64 0) (.int .u64 0) _)); have ya1 := keepc hv2 (keepc hv1 (new1 Y (.int .i64 0) (.int .u64 0) _)); have lt1 : Y.heap.size < v1.heap.size := s1; have fa0 := keepf hv2 lt1 (keepf hv1 (newlt Y _) (newf Y (.int .i64 0) (.int .u64 0) _ 0)); have fa1 := keepf hv2 lt1 (keepf hv1 (newlt Y _) (newf Y (.int .i64 0) (.int .u64 0) _ 1)))
        | (go_at_call 15; refine (ladd_ok (p4 * p4) (-(q4 * q4)) (sqd_rng p41 p42 q41 q42) _).mono ?_; rintro e v2 ⟨rfl, hv2⟩; have t2 : Y.heap.size ≤ v2.heap.size := (show Below Y.heap.size Y v2 by repeat (first | exact Below.refl _ _ | refine bl_alloc ?_ _ | refine Below.drew ?_ | refine bl_drewN ?_ _ | refine bl_set ?_ (by omega) _ | refine bl_step ?_ (by assumption))).size; have ya0 := keepc hv2 (new0' v1 (.int .i64 0) (.int .u64 0) _); have ya1 := keepc hv2 (new1' v1 (.int .i64 0) (.int .u64 0) _); have fa0 := keepf hv2 (newlt' v1 _) (newf' v1 (.int .i64 0) (.int .u64 0) _ 0); have fa1 := keepf hv2 (newlt' v1 _) (newf' v1 (.int .i64 0) (.int .u64 0) _ 1))
        | (go_at_call 15; refine (ladd_ok (p4 * p4) (-(q4 * q4)) (sqd_rng p41 p42 q41 q42) _).mono ?_; rintro e v2 ⟨rfl, hv2⟩; have t2 : Y.heap.size ≤ v2.heap.size := (show Below Y.heap.size Y v2 by repeat (first | exact Below.refl _ _ | refine bl_alloc ?_ _ | refine Below.drew ?_ | refine bl_drewN ?_ _ | refine bl_set ?_ (by omega) _ | refine bl_step ?_ (by assumption))).size))
    all_goals go_wp2_with fail
    all_goals go_meet
    all_goals exact ⟨_, rfl, rfl, by repeat (first | exact Below.refl _ _ | refine bl_alloc ?_ _ | refine Below.drew ?_ | refine bl_drewN ?_ _ | refine bl_set ?_ (by omega) _ | refine bl_step ?_ (by assumption)), by simp [go_sem, *], by simp [go_sem, *]⟩
  case rest =>
    obtain ⟨V, rfl, rfl, hbv, v0, v1⟩ := hcut
    replace s0 := keepc hbv s0; replace s1 := keepc hbv s1
    go_wp2
    go_ret
    refine ⟨rfl, ?_⟩
    repeat (first | exact Below.refl _ _ | refine bl_alloc ?_ _ | refine Below.drew ?_ | refine bl_drewN ?_ _ | refine bl_set ?_ (by omega) _ | refine bl_step ?_ (by assumption))
end Go.Proofs.YteonglbplbaeaaaDoor
