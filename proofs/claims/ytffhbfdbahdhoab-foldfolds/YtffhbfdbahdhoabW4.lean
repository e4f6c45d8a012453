import Derived.Test.YtffhbfdbahdhoabW3
import Derived.Test.YtffhbfdbahdhoabM4
namespace Go.Proofs.Ytffhbfdbahdhoab.Wd
open Go.RowKit Go.Shelf

theorem bl_drewN {a w : World} (h : Below a.heap.size a w) (n : Nat) : Below a.heap.size a (w.drewN n) := by
  induction n with
  | zero => exact h
  | succ n ih => exact ih.drew
theorem keepf {W w' : World} (hb : Below W.heap.size W w') {b o : Nat} (hlt : b < W.heap.size) (h : W.frozen? ⟨b, o, none⟩ = false) : w'.frozen? ⟨b, o, none⟩ = false :=
  (hb.frozen (p := ⟨b, o, none⟩) hlt).trans h
theorem div64_hi0 (l y : Int) (hl : U64 l) (hy : U64 y) (h0 : 0 < y) (w : World) :
    Calls Try.prog 64 #[.int .u64 0, .int .u64 l, .int .u64 y] w fun e w' => e = .returned (.tuple #[.int .u64 (l / y), .int .u64 (l % y)]) ∧ Below w.heap.size w w' := by
  obtain ⟨a1, a2⟩ := hl; obtain ⟨b1, b2⟩ := hy
  have e0 : (y == 0) = false := beq_eq_false_iff_ne.2 (by omega)
  have e1 : ¬ y ≤ 0 := by omega
  go_enter Try.func64, Try.ntmps64
  go_wp2
  go_quiet (fail)
  go_wp2
  go_ret2
  refine ⟨rfl, ?_⟩
  repeat (first | exact Below.refl _ _ | refine bl_alloc ?_ _ | refine Below.drew ?_ | refine bl_drewN ?_ _ | refine bl_set ?_ (by omega) _ | refine bl_step ?_ (by assumption))

set_option maxRecDepth 100000 in
theorem plus_ok (n k : Int) (hn : Siz n) (hk : U64 k) (h : Siz (n + k)) (w : World) :
    Calls Try.prog 54 #[sv n, .int .u64 k] w fun e w' => e = .returned (.tuple #[sv (n + k), .bool true]) ∧ Below w.heap.size w w' := by
  have e1 := plus_lo n k
  obtain ⟨e2, e3⟩ := plus_hi h
  have u1 := hi_u64 hn
  have u2 : U64 0 := ⟨by decide, by decide⟩
  obtain ⟨k0, k1⟩ := carW_01 (lo_u64 n) hk (Int.le_refl 0) (by decide : (0:Int) ≤ 1)
  go_enter Try.func54, Try.ntmps54
  go_wp2_with (first | simp only [add64n (loOf n) k 0 (lo_u64 n) hk (Int.le_refl 0) (by decide)] | simp only [add64n (hiOf n) 0 _ u1 u2 k0 k1])
  simp [bodyPost, results, Try.results54, go_sem]
  repeat (first | exact Below.refl _ _ | refine bl_alloc ?_ _ | refine Below.drew ?_ | refine bl_set ?_ (by omega) _ | refine bl_step ?_ (by assumption))

set_option maxRecDepth 100000 in
theorem parted_small (n y : Int) (hn : U64 n) (hy : U64 y) (h0 : 0 < y) (w : World) :
    Calls Try.prog 52 #[sv n, .int .u64 y] w fun e w' => e = .returned (.tuple #[sv (n / y), .int .u64 (n % y)]) ∧ Below w.heap.size w w' := by
  obtain ⟨e1, e2⟩ := small_words hn
  obtain ⟨e3, e4⟩ := small_words (quo_small hn h0)
  have u0 : U64 0 := ⟨by decide, by decide⟩
  go_enter Try.func52, Try.ntmps52
  go_wp2_with fail
  refine (div64_hi0 0 y u0 hy h0 _).mono ?_
  rintro e w1 ⟨rfl, hb1⟩
  obtain ⟨hc, hf⟩ := bcell hb1
  have c0 := hc w.heap.size 0 (by simp <;> omega); have c1 := hc w.heap.size 1 (by simp <;> omega)
  have c2 := hc (w.heap.size + 1) 0 (by simp); have c3 := hc (w.heap.size + 1) 1 (by simp)
  have f2 := hf (w.heap.size + 1) 0 (by simp); have f3 := hf (w.heap.size + 1) 1 (by simp)
  have hz := hb1.size
  simp [go_sem] at c0 c1 c2 c3 f2 f3 hz
  clear hc hf
  go_wp2_with fail
  refine (div64_hi0 n y hn hy h0 _).mono ?_
  rintro e w2 ⟨rfl, hb2⟩
  have d2 := keepc hb2 c2; have d3 := keepc hb2 c3
  have g2 := keepf hb2 (by omega) f2; have g3 := keepf hb2 (by omega) f3
  clear c0 c1 c2 c3 f2 f3 hz
  go_wp2
  simp [bodyPost, results, Try.results52, go_sem, *]
  repeat (first | exact Below.refl _ _ | refine bl_alloc ?_ _ | refine Below.drew ?_ | refine bl_drewN ?_ _ | refine bl_set ?_ (by omega) _ | refine bl_step ?_ (by assumption))

/-- What 'parted' is to do at these two. -/
def PartsWell (a b : Int) : Prop := ∀ w : World, Calls Try.prog 52 #[sv (absN a), .int .u64 (absN b)] w fun e w' => e = .returned (.tuple #[sv (quoN a b), .int .u64 (restN a b)]) ∧ Below w.heap.size w w'

theorem quotient_zero (a : Int) (away : Bool) (w : World) :
    Calls Try.prog 39 #[wv a, .int .i64 0, .bool away] w fun e w' => e = .returned (.tuple #[wv 0, .int .i64 11]) ∧ Below w.heap.size w w' := by
  go_enter Try.func39, Try.ntmps39
  go_wp2
  simp [bodyPost, results, Try.results39, go_sem, hi0, lo0]
  repeat (first | exact Below.refl _ _ | refine bl_alloc ?_ _ | refine Below.drew ?_ | refine bl_drewN ?_ _ | refine bl_set ?_ (by omega) _ | refine bl_step ?_ (by assumption))

theorem signed_any (n : Int) (minus : Bool) (hn : Siz n) (w : World) :
    Calls Try.prog 55 #[sv n, .bool minus] w fun e w' => e = .returned (.tuple #[wv (fitV (sgN n minus)), .int .i64 (errV (sgN n minus))]) ∧ Below w.heap.size w w' := by
  by_cases h : Rng (sgN n minus)
  · rw [fitV_ok h, errV_ok h]; exact signed_ok n minus hn h w
  · rw [fitV_no h, errV_no h]; exact signed_no n minus hn h w

set_option maxRecDepth 100000 in
theorem quotient_stay (a b : Int) (ha : Rng a) (hb : I64 b) (h0 : b ≠ 0) (hp : PartsWell a b)  (w : World) :
    Calls Try.prog 39 #[wv a, .int .i64 b, .bool false] w fun e w' => e = .returned (.tuple #[wv (fitV (sgN (quoN a b) (!decide (hiOf a < 0) == decide (b < 0)))), .int .i64 (errV (sgN (quoN a b) (!decide (hiOf a < 0) == decide (b < 0))))]) ∧ Below w.heap.size w w' := by
  have hz0 : (b == 0) = false := beq_eq_false_iff_ne.2 h0
  go_enter Try.func39, Try.ntmps39
  go_wp2_with fail
  refine (sizeOf_any a ha _).mono ?_
  rintro e w1 ⟨rfl, hb1⟩
  obtain ⟨hc, hf⟩ := bcell hb1
  have c0 := hc w.heap.size 0 (by simp <;> omega); have c1 := hc w.heap.size 1 (by simp <;> omega)
  have c2 := hc (w.heap.size + 1) 0 (by simp); have c3 := hc (w.heap.size + 1) 1 (by simp)
  have f2 := hf (w.heap.size + 1) 0 (by simp); have f3 := hf (w.heap.size + 1) 1 (by simp)
  have hz := hb1.size
  simp [go_sem] at c0 c1 c2 c3 f2 f3 hz
  clear hc hf
  go_wp2_with fail
  refine (amount_any b hb _).mono ?_
  rintro e w1' ⟨rfl, rfl⟩
  go_wp2_with fail
  refine (hp _).mono ?_
  rintro e w2 ⟨rfl, hb2⟩
  have d0 := keepc hb2 c0; have d1 := keepc hb2 c1; have d2 := keepc hb2 c2; have d3 := keepc hb2 c3
  have g2 := keepf hb2 (by omega) f2; have g3 := keepf hb2 (by omega) f3
  have hz2 := hb2.size
  have z0 : w.heap.size < w2.heap.size := by omega
  have z1 : w.heap.size + 1 < w2.heap.size := by omega
  clear c0 c1 c2 c3 f2 f3 hz hz2
  go_wp2_with fail
  refine (signed_any (quoN a b) (!decide (hiOf a < 0) == decide (b < 0)) (quoN_siz ha h0) _).mono ?_
  rintro e w4 ⟨rfl, hb4⟩
  have hb4' : Below w2.heap.size w2 w4 := bl_step (bl_alloc (Below.refl _ _) _) hb4
  have p2 := keepc hb4' d2; have p3 := keepc hb4' d3; have q2 := keepf hb4' z1 g2; have q3 := keepf hb4' z1 g3
  clear hb4 d0 d1 d2 d3 g2 g3
  go_wp2
  simp [bodyPost, results, Try.results39, go_sem, p2, p3]
  repeat (first | exact Below.refl _ _ | refine bl_alloc ?_ _ | refine Below.drew ?_ | refine bl_drewN ?_ _ | refine bl_set ?_ (by omega) _ | refine bl_step ?_ (by assumption))

set_option maxRecDepth 100000 in
theorem quotient_even (a b : Int) (ha : Rng a) (hb : I64 b) (h0 : b ≠ 0) (hp : PartsWell a b) (hr : (restN a b != 0) = false) (w : World) :
    Calls Try.prog 39 #[wv a, .int .i64 b, .bool true] w fun e w' => e = .returned (.tuple #[wv (fitV (sgN (quoN a b) (!decide (hiOf a < 0) == decide (b < 0)))), .int .i64 (errV (sgN (quoN a b) (!decide (hiOf a < 0) == decide (b < 0))))]) ∧ Below w.heap.size w w' := by
  have hz0 : (b == 0) = false := beq_eq_false_iff_ne.2 h0
  go_enter Try.func39, Try.ntmps39
  go_wp2_with fail
  refine (sizeOf_any a ha _).mono ?_
  rintro e w1 ⟨rfl, hb1⟩
  obtain ⟨hc, hf⟩ := bcell hb1
  have c0 := hc w.heap.size 0 (by simp <;> omega); have c1 := hc w.heap.size 1 (by simp <;> omega)
  have c2 := hc (w.heap.size + 1) 0 (by simp); have c3 := hc (w.heap.size + 1) 1 (by simp)
  have f2 := hf (w.heap.size + 1) 0 (by simp); have f3 := hf (w.heap.size + 1) 1 (by simp)
  have hz := hb1.size
  simp [go_sem] at c0 c1 c2 c3 f2 f3 hz
  clear hc hf
  go_wp2_with fail
  refine (amount_any b hb _).mono ?_
  rintro e w1' ⟨rfl, rfl⟩
  go_wp2_with fail
  refine (hp _).mono ?_
  rintro e w2 ⟨rfl, hb2⟩
  have d0 := keepc hb2 c0; have d1 := keepc hb2 c1; have d2 := keepc hb2 c2; have d3 := keepc hb2 c3
  have g2 := keepf hb2 (by omega) f2; have g3 := keepf hb2 (by omega) f3
  have hz2 := hb2.size
  have z0 : w.heap.size < w2.heap.size := by omega
  have z1 : w.heap.size + 1 < w2.heap.size := by omega
  clear c0 c1 c2 c3 f2 f3 hz hz2
  go_wp2_with fail
  refine (signed_any (quoN a b) (!decide (hiOf a < 0) == decide (b < 0)) (quoN_siz ha h0) _).mono ?_
  rintro e w4 ⟨rfl, hb4⟩
  have hb4' : Below w2.heap.size w2 w4 := bl_step (bl_alloc (Below.refl _ _) _) hb4
  have p2 := keepc hb4' d2; have p3 := keepc hb4' d3; have q2 := keepf hb4' z1 g2; have q3 := keepf hb4' z1 g3
  clear hb4 d0 d1 d2 d3 g2 g3
  go_wp2
  simp [bodyPost, results, Try.results39, go_sem, p2, p3]
  repeat (first | exact Below.refl _ _ | refine bl_alloc ?_ _ | refine Below.drew ?_ | refine bl_drewN ?_ _ | refine bl_set ?_ (by omega) _ | refine bl_step ?_ (by assumption))

set_option maxRecDepth 100000 in
theorem quotient_up (a b : Int) (ha : Rng a) (hb : I64 b) (h0 : b ≠ 0) (hp : PartsWell a b) (hr : (restN a b != 0) = true) (w : World) :
    Calls Try.prog 39 #[wv a, .int .i64 b, .bool true] w fun e w' => e = .returned (.tuple #[wv (fitV (sgN (quoN a b + 1) (!decide (hiOf a < 0) == decide (b < 0)))), .int .i64 (errV (sgN (quoN a b + 1) (!decide (hiOf a < 0) == decide (b < 0))))]) ∧ Below w.heap.size w w' := by
  have hz0 : (b == 0) = false := beq_eq_false_iff_ne.2 h0
  go_enter Try.func39, Try.ntmps39
  go_wp2_with fail
  refine (sizeOf_any a ha _).mono ?_
  rintro e w1 ⟨rfl, hb1⟩
  obtain ⟨hc, hf⟩ := bcell hb1
  have c0 := hc w.heap.size 0 (by simp <;> omega); have c1 := hc w.heap.size 1 (by simp <;> omega)
  have c2 := hc (w.heap.size + 1) 0 (by simp); have c3 := hc (w.heap.size + 1) 1 (by simp)
  have f2 := hf (w.heap.size + 1) 0 (by simp); have f3 := hf (w.heap.size + 1) 1 (by simp)
  have hz := hb1.size
  simp [go_sem] at c0 c1 c2 c3 f2 f3 hz
  clear hc hf
  go_wp2_with fail
  refine (amount_any b hb _).mono ?_
  rintro e w1' ⟨rfl, rfl⟩
  go_wp2_with fail
  refine (hp _).mono ?_
  rintro e w2 ⟨rfl, hb2⟩
  have d0 := keepc hb2 c0; have d1 := keepc hb2 c1; have d2 := keepc hb2 c2; have d3 := keepc hb2 c3
  have g2 := keepf hb2 (by omega) f2; have g3 := keepf hb2 (by omega) f3
  have hz2 := hb2.size
  have z0 : w.heap.size < w2.heap.size := by omega
  have z1 : w.heap.size + 1 < w2.heap.size := by omega
  clear c0 c1 c2 c3 f2 f3 hz hz2
  go_wp2_with fail
  refine (plus_ok (quoN a b) 1 (quoN_siz ha h0) ⟨by decide, by decide⟩ (quoN_siz1 ha h0) _).mono ?_
  rintro e w3 ⟨rfl, hb3⟩
  have hb3' : Below w2.heap.size w2 w3 := bl_step (bl_alloc (Below.refl _ _) _) hb3
  have e0 := keepc hb3' d0; have e1 := keepc hb3' d1; have e2 := keepc hb3' d2; have e3 := keepc hb3' d3
  have r2 := keepf hb3' z1 g2; have r3 := keepf hb3' z1 g3
  obtain ⟨hc, hf⟩ := bcell hb3
  have s0 := hc w2.heap.size 0 (by simp); have s1 := hc w2.heap.size 1 (by simp)
  have t0 := hf w2.heap.size 0 (by simp); have t1 := hf w2.heap.size 1 (by simp)
  have hz3 := hb3.size
  simp [go_sem] at s0 s1 t0 t1 hz3
  have y0 : w.heap.size < w3.heap.size := by omega
  have y1 : w.heap.size + 1 < w3.heap.size := by omega
  have x0 : ¬ w2.heap.size = w.heap.size := by omega
  have x1 : ¬ w2.heap.size = w.heap.size + 1 := by omega
  have x2 : ¬ w.heap.size = w2.heap.size := by omega
  have x3 : ¬ w.heap.size + 1 = w2.heap.size := by omega
  clear hc hf hz3
  go_wp2_with fail
  refine (signed_any (quoN a b + 1) (!decide (hiOf a < 0) == decide (b < 0)) (quoN_siz1 ha h0) _).mono ?_
  rintro e w4 ⟨rfl, hb4⟩
  have hb4' : Below w2.heap.size w2 w4 := bl_step (bl_set (bl_set hb3' (Nat.le_refl _) _) (Nat.le_refl _) _) hb4
  have p2 := keepc hb4' d2; have p3 := keepc hb4' d3; have q2 := keepf hb4' z1 g2; have q3 := keepf hb4' z1 g3
  clear hb4 hb3 hb3' d0 d1 d2 d3 g2 g3 e0 e1 e2 e3 r2 r3 s0 s1 t0 t1 y0 y1 x0 x1 x2 x3
  go_wp2
  simp [bodyPost, results, Try.results39, go_sem, p2, p3]
  repeat (first | exact Below.refl _ _ | refine bl_alloc ?_ _ | refine Below.drew ?_ | refine bl_drewN ?_ _ | refine bl_set ?_ (by omega) _ | refine bl_step ?_ (by assumption))
theorem quotient_any (a b : Int) (ha : Rng a) (hb : I64 b) (h0 : b ≠ 0) (hp : PartsWell a b) (away : Bool) (w : World) :
    Calls Try.prog 39 #[wv a, .int .i64 b, .bool away] w fun e w' => e = .returned (.tuple #[wv (fitV (sgN (awayN a b away) (!decide (hiOf a < 0) == decide (b < 0)))), .int .i64 (errV (sgN (awayN a b away) (!decide (hiOf a < 0) == decide (b < 0))))]) ∧ Below w.heap.size w w' := by
  cases away
  · rw [away_no (.inl rfl)]; exact quotient_stay a b ha hb h0 hp w
  · by_cases hr : restN a b = 0
    · rw [away_no (.inr hr)]; exact quotient_even a b ha hb h0 hp (by simp [hr]) w
    · rw [away_yes rfl hr]; exact quotient_up a b ha hb h0 hp (by simpa using hr) w

def floorN (a b : Int) : Int := sgN (awayN a b (!decide (hiOf a < 0) == decide (b < 0))) (!decide (hiOf a < 0) == decide (b < 0))
def ceilN (a b : Int) : Int := sgN (awayN a b (decide (hiOf a < 0) == decide (b < 0))) (!decide (hiOf a < 0) == decide (b < 0))

set_option maxRecDepth 100000 in
theorem floor_any (a b : Int) (ha : Rng a) (hb : I64 b) (h0 : b ≠ 0) (hp : PartsWell a b) (w : World) :
    Calls Try.prog 28 #[wv a, .int .i64 b] w fun e w' => e = .returned (.tuple #[wv (fitV (floorN a b)), .int .i64 (errV (floorN a b))]) ∧ Below w.heap.size w w' := by
  go_enter Try.func28, Try.ntmps28
  go_wp2_with fail
  refine (quotient_any a b ha hb h0 hp _ _).mono ?_
  rintro e w1 ⟨rfl, hb1⟩
  obtain ⟨hc, hf⟩ := bcell hb1
  have c2 := hc (w.heap.size + 1) 0 (by simp); have c3 := hc (w.heap.size + 1) 1 (by simp)
  have f2 := hf (w.heap.size + 1) 0 (by simp); have f3 := hf (w.heap.size + 1) 1 (by simp)
  simp [go_sem] at c2 c3 f2 f3
  clear hc hf
  go_wp2
  simp [bodyPost, results, Try.results28, go_sem, c2, c3, floorN]
  repeat (first | exact Below.refl _ _ | refine bl_alloc ?_ _ | refine Below.drew ?_ | refine bl_drewN ?_ _ | refine bl_set ?_ (by omega) _ | refine bl_step ?_ (by assumption))
set_option maxRecDepth 100000 in
theorem ceil_any (a b : Int) (ha : Rng a) (hb : I64 b) (h0 : b ≠ 0) (hp : PartsWell a b) (w : World) :
    Calls Try.prog 27 #[wv a, .int .i64 b] w fun e w' => e = .returned (.tuple #[wv (fitV (ceilN a b)), .int .i64 (errV (ceilN a b))]) ∧ Below w.heap.size w w' := by
  go_enter Try.func27, Try.ntmps27
  go_wp2_with fail
  refine (quotient_any a b ha hb h0 hp _ _).mono ?_
  rintro e w1 ⟨rfl, hb1⟩
  obtain ⟨hc, hf⟩ := bcell hb1
  have c2 := hc (w.heap.size + 1) 0 (by simp); have c3 := hc (w.heap.size + 1) 1 (by simp)
  have f2 := hf (w.heap.size + 1) 0 (by simp); have f3 := hf (w.heap.size + 1) 1 (by simp)
  simp [go_sem] at c2 c3 f2 f3
  clear hc hf
  go_wp2
  simp [bodyPost, results, Try.results27, go_sem, c2, c3, ceilN]
  repeat (first | exact Below.refl _ _ | refine bl_alloc ?_ _ | refine Below.drew ?_ | refine bl_drewN ?_ _ | refine bl_set ?_ (by omega) _ | refine bl_step ?_ (by assumption))
end Go.Proofs.Ytffhbfdbahdhoab.Wd
